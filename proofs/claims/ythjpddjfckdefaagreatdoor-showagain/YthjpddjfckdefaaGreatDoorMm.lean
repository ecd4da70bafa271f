/- What the reader keeps in memory: the variables, a line with its words, a fault; and what of it stays while other blocks turn. Conditions: none. -/
import Derived.Test.YthjpddjfckdefaaGreatDoorSp
import Derived.Test.YthjpddjfckdefaaGreatDoorPc
import Derived.Test.YthjpddjfckdefaaGreatDoorShelf
import Derived.LaidLaws
namespace Go.Proofs.YthjpddjfckdefaaGreatDoor.Pr
open Go.ChangeShapes Go.WideShapes Go.ChangeAt Go.RowKit
open _root_.Go.Proofs.YthjpddjfckdefaaGreatDoor.Op
set_option maxRecDepth 20000

/-- All old blocks stand, but for some. -/
structure Fr (X : Nat → Prop) (w w' : World) : Prop where
  os : w'.os = w.os
  tape : w'.tape = w.tape
  output : w'.output = w.output
  size : w.heap.size ≤ w'.heap.size
  block : ∀ k, k < w.heap.size → ¬ X k → w'.heap[k]? = w.heap[k]?
abbrev Non : Nat → Prop := fun _ => False
abbrev One (q : Nat) : Nat → Prop := fun k => k = q
theorem Fr.refl (X : Nat → Prop) (w : World) : Fr X w w := ⟨rfl, rfl, rfl, Nat.le_refl _, fun _ _ _ => rfl⟩
theorem Fr.of {X : Nat → Prop} {w w' : World} (h : Below w.heap.size w w') : Fr X w w' := ⟨h.os, h.tape, h.output, h.size, fun k hk _ => h.block k hk⟩
theorem Fr.trans {X Y : Nat → Prop} {a b c : World} (h : Fr X a b) (g : Fr Y b c) (hY : ∀ k, k < a.heap.size → Y k → X k) : Fr X a c :=
  ⟨g.os.trans h.os, g.tape.trans h.tape, g.output.trans h.output, Nat.le_trans h.size g.size, fun k hk hx => (g.block k (Nat.lt_of_lt_of_le hk h.size) fun hy => hx (hY k hk hy)).trans (h.block k hk hx)⟩
theorem Fr.then {X : Nat → Prop} {a b c : World} (h : Fr X a b) (g : Below b.heap.size b c) : Fr X a c := h.trans (Fr.of (X := Non) g) fun _ _ hy => hy.elim
theorem Fr.same {X : Nat → Prop} {a b c : World} (h : Fr X a b) (g : Fr X b c) : Fr X a c := h.trans g fun _ _ hy => hy
theorem Fr.new {X : Nat → Prop} {q : Nat} {a b c : World} (h : Fr X a b) (g : Fr (One q) b c) (hq : a.heap.size ≤ q) : Fr X a c := h.trans g fun k hk hy => by subst hy; omega
theorem Fr.below {X : Nat → Prop} {B : Nat} {w w' : World} (h : Fr X w w') (hB : B ≤ w.heap.size) (hX : ∀ k, k < B → ¬ X k) : Below B w w' := ⟨h.os, h.tape, h.output, h.size, fun k hk => h.block k (Nat.lt_of_lt_of_le hk hB) (hX k hk)⟩
theorem Fr.non {w w' : World} (h : Fr Non w w') : Below w.heap.size w w' := h.below (Nat.le_refl _) fun _ _ hk => hk
theorem Fr.mono {X Y : Nat → Prop} {w w' : World} (h : Fr X w w') (hX : ∀ k, k < w.heap.size → X k → Y k) : Fr Y w w' := ⟨h.os, h.tape, h.output, h.size, fun k hk hy => h.block k hk fun hx => hy (hX k hk hx)⟩
theorem Fr.cell {X : Nat → Prop} {w w' : World} (h : Fr X w w') {b : Nat} (hb : b < w.heap.size) (hx : ¬ X b) (o : Nat) : w'.cell? ⟨b, o, none⟩ = w.cell? ⟨b, o, none⟩ := World.cell?_of_block (w := w) (h.block b hb hx)
theorem Fr.frozen {X : Nat → Prop} {w w' : World} (h : Fr X w w') {b : Nat} (hb : b < w.heap.size) (hx : ¬ X b) (o : Nat) : w'.frozen? ⟨b, o, none⟩ = w.frozen? ⟨b, o, none⟩ := World.frozen?_of_block (a := ⟨b, o, none⟩) (h.block b hb hx)
theorem Fr.setCell {X : Nat → Prop} {w w' : World} (h : Fr X w w') {b : Nat} (hb : w.heap.size ≤ b ∨ X b) (o : Nat) (v : Value) : Fr X w (w'.setCell ⟨b, o, none⟩ v) := by
  refine ⟨h.os, h.tape, h.output, by rw [World.size_setCell]; exact h.size, fun k hk hx => ?_⟩
  have hne : k ≠ b := by
    rintro rfl
    rcases hb with hb | hb
    · omega
    · exact hx hb
  rw [Below.heap_setCell _ _ _ _ hne]
  exact h.block k hk hx
theorem Fr.alloc {X : Nat → Prop} {w w' : World} (h : Fr X w w') (o : Obj) : Fr X w (w'.alloc o) := h.then ((Below.refl _ _).alloc (Nat.le_refl _) _)
theorem at_fr {X : Nat → Prop} {w w' : World} {b : Nat} {cs : Array Value} (h : At w b cs) (g : Fr X w w') (hx : ¬ X b) : At w' b cs :=
  ⟨fun j v e => by rw [g.cell h.lt hx]; exact h.c j v e, fun j => by rw [g.frozen h.lt hx]; exact h.f j, Nat.lt_of_lt_of_le h.lt g.size⟩
theorem at_set {w : World} {q j : Nat} {cs : Array Value} (h : At w q cs) (hj : j < cs.size) (v : Value) : At (w.setCell ⟨q, j, none⟩ v) q (cs.setIfInBounds j v) := by
  refine ⟨fun k u hk => ?_, fun k => by rw [World.frozen?_setCell]; exact h.f k, by simpa using h.lt⟩
  by_cases e : j = k
  · subst e
    rw [World.cell?_setCell_same (h := h.c j _ (Array.getElem?_eq_getElem hj))]
    rw [Array.getElem?_setIfInBounds_self_of_lt hj] at hk
    exact hk
  · rw [Array.getElem?_setIfInBounds_ne e] at hk
    rw [World.cell?_setCell_other]
    · exact h.c k u hk
    · intro h'; injection h' with _ h2; exact e h2
theorem set_far {q b : Nat} (v : Value) (hne : b ≠ q) {w : World} {j o : Nat} : (w.setCell ⟨q, j, none⟩ v).cell? ⟨b, o, none⟩ = w.cell? ⟨b, o, none⟩ := World.cell?_of_block (w := w) (Below.heap_setCell _ _ _ _ hne)
/-- What the program's variables hold. -/
structure Vars (w : World) : Prop where
  e : Op.Env w
  m : ∃ mx, w.cell? ⟨1, 0, none⟩ = some (.int .i64 mx)
  tb : Lib.TabIs Tryz.prog w "internal/strconv.uint64pow10" .u64 Lib.pow10Tab
  rs : ∃ tp q, w.var? Tryz.prog "strconv.ErrSyntax" = some #[.iface tp q]
  rr : ∃ tp q, w.var? Tryz.prog "strconv.ErrRange" = some #[.iface tp q]
theorem gSyntax : Tryz.prog.globalNamed "strconv.ErrSyntax" = some 3 := by kernel_rfl
theorem gRange : Tryz.prog.globalNamed "strconv.ErrRange" = some 4 := by kernel_rfl
theorem gPow : Tryz.prog.globalNamed "internal/strconv.uint64pow10" = some 2 := by kernel_rfl
theorem var_block {w w' : World} {n : String} {g : Nat} (hn : Tryz.prog.globalNamed n = some g) (h : w'.heap[g]? = w.heap[g]?) : w'.var? Tryz.prog n = w.var? Tryz.prog n := by
  unfold World.var?
  rw [hn]
  simp only [Option.bind_some]
  rw [h]
theorem Vars.blocks {w w' : World} (h : Vars w) (hb : ∀ k, k < 7 → w'.heap[k]? = w.heap[k]?) (hs : w.heap.size ≤ w'.heap.size) : Vars w' := by
  have c : ∀ b o, b < 7 → w'.cell? ⟨b, o, none⟩ = w.cell? ⟨b, o, none⟩ := fun b o hlt => World.cell?_of_block (w := w) (hb b hlt)
  obtain ⟨mx, hm⟩ := h.m
  obtain ⟨tp, q, hr⟩ := h.rs
  obtain ⟨tp', q', hr'⟩ := h.rr
  refine ⟨⟨⟨fun k hk => ?_⟩, Nat.le_trans h.e.big hs⟩, ⟨mx, (c _ _ (by omega)).trans hm⟩, ?_, ⟨tp, q, ?_⟩, ⟨tp', q', ?_⟩⟩
  · obtain ⟨h0, h1, h2, h3⟩ := h.e.e.c k hk
    exact ⟨(c _ _ (by omega)).trans h0, (c _ _ (by omega)).trans h1, (c _ _ (by omega)).trans h2, (c _ _ (by omega)).trans h3⟩
  · have := h.tb
    unfold Lib.TabIs at this ⊢
    rw [var_block gPow (hb 2 (by omega))]; exact this
  · rw [var_block gSyntax (hb 3 (by omega))]; exact hr
  · rw [var_block gRange (hb 4 (by omega))]; exact hr'
theorem Vars.fr {X : Nat → Prop} {w w' : World} (h : Vars w) (g : Fr X w w') (hX : ∀ k, k < 7 → ¬ X k) : Vars w' :=
  h.blocks (fun k hk => g.block k (Nat.lt_of_lt_of_le hk h.e.big) (hX k hk)) g.size
theorem Vars.up {w w' : World} (h : Vars w) (g : Below w.heap.size w w') : Vars w' := h.fr (Fr.of (X := Non) g) fun _ _ hk => hk
theorem Vars.one {w w' : World} {q : Nat} (h : Vars w) (g : Fr (One q) w w') (hq : 7 ≤ q) : Vars w' := h.fr g fun k hk e => by subst e; omega

/-- A fault in memory. -/
def FaultAt (w : World) (q : Nat) (c : Int) (f : Wd') : Prop := w.heap[q]? = some (.cells #[.int .i64 c, .int .i64 (f.1 : Int), .string ⟨f.2.toArray⟩] 49 (0, 0))
theorem FaultAt.lt {w : World} {q : Nat} {c : Int} {f : Wd'} (h : FaultAt w q c f) : q < w.heap.size := by
  rcases Nat.lt_or_ge q w.heap.size with h' | h'
  · exact h'
  · unfold FaultAt at h; rw [Array.getElem?_eq_none h'] at h; cases h
/-- It ends by panic with a fault. -/
def Pan (X : Nat → Prop) (f : Wd') (w : World) (e : Ending) (w' : World) : Prop :=
  ∃ q, e = .panicked [{ v := .iface 47 (.pointer (some ⟨q, 0, none⟩)), recovered := false }] ∧ FaultAt w' q 60 f ∧ w.heap.size ≤ q ∧ Fr X w w'
theorem Pan.after {X Y : Nat → Prop} {f : Wd'} {w w1 w' : World} {e : Ending} (h : Pan Y f w1 e w') (g : Fr X w w1) (hY : ∀ k, k < w.heap.size → Y k → X k) : Pan X f w e w' := by
  obtain ⟨q, h1, h2, h3, h4⟩ := h
  exact ⟨q, h1, h2, Nat.le_trans g.size h3, g.trans h4 hY⟩
/-- What comes of a reader: what is read, or a panic. -/
def Does {α : Type} (X : Nat → Prop) (r : R α) (ok : α → Ending → World → Prop) (w : World) (e : Ending) (w' : World) : Prop :=
  match r with | .ok v => ok v e w' | .no f => Pan X f w e w'

/-- Words in memory, not in a block. -/
structure WsAt (w : World) (q : Nat) (ao : Option Addr) (ws : List Wd') : Prop where
  len : ws.length ≤ 100000
  ok : ∀ x ∈ ws, x.1 ≤ 65536 ∧ x.2.length ≤ 65536
  is : 0 < ws.length → ∃ b f, ao = some ⟨b, f, none⟩ ∧ b < w.heap.size ∧ b < q ∧ (∃ cs z, w.heap[b]? = some (.cells cs 108 z)) ∧ ∀ (i : Nat) (h : i < ws.length), w.cell? ⟨b, f + i * 2, none⟩ = some (.int .i64 (ws[i].1 : Int)) ∧ w.cell? ⟨b, f + i * 2 + 1, none⟩ = some (.string ⟨ws[i].2.toArray⟩)
theorem WsAt.fr {X : Nat → Prop} {w w' : World} {q : Nat} {ao : Option Addr} {ws : List Wd'} (h : WsAt w q ao ws) (g : Fr X w w') (hX : ∀ b f, ao = some ⟨b, f, none⟩ → ¬ X b) : WsAt w' q ao ws := by
  refine ⟨h.len, h.ok, fun h0 => ?_⟩
  obtain ⟨b, f, e, z, hne, ⟨cs, zz, ht⟩, hx⟩ := h.is h0
  refine ⟨b, f, e, Nat.lt_of_lt_of_le z g.size, hne, ⟨cs, zz, by rw [g.block b z (hX b f e)]; exact ht⟩, fun i hi => ?_⟩
  rw [g.cell z (hX b f e), g.cell z (hX b f e)]
  exact hx i hi
/-- A line in memory. -/
structure LAt (w : World) (q : Nat) (ao : Option Addr) (cap : Nat) (l : Ln) : Prop where
  c : At w q #[.slice ao l.ws.length cap, .int .i64 (l.en : Int)]
  cap : l.ws.length ≤ cap
  ws : WsAt w q ao l.ws
  en : l.en ≤ 65536
theorem LAt.c0 {w : World} {q : Nat} {ao : Option Addr} {cap : Nat} {l : Ln} (h : LAt w q ao cap l) : w.cell? ⟨q, 0, none⟩ = some (.slice ao l.ws.length cap) := h.c.c 0 _ rfl
theorem LAt.c1 {w : World} {q : Nat} {ao : Option Addr} {cap : Nat} {l : Ln} (h : LAt w q ao cap l) : w.cell? ⟨q, 1, none⟩ = some (.int .i64 (l.en : Int)) := h.c.c 1 _ rfl
def LIn (w : World) (q : Nat) (l : Ln) : Prop := ∃ ao cap, LAt w q ao cap l
theorem LIn.lt {w : World} {q : Nat} {l : Ln} (h : LIn w q l) : q < w.heap.size := by obtain ⟨_, _, h⟩ := h; exact h.c.lt
theorem LAt.up {w w' : World} {q : Nat} {ao : Option Addr} {cap : Nat} {l : Ln} (h : LAt w q ao cap l) (g : Below w.heap.size w w') : LAt w' q ao cap l :=
  ⟨h.c.below g h.c.lt, h.cap, h.ws.fr (Fr.of (X := Non) g) (fun _ _ _ hk => hk), h.en⟩
theorem LIn.up {w w' : World} {q : Nat} {l : Ln} (h : LIn w q l) (g : Below w.heap.size w w') : LIn w' q l := by
  obtain ⟨a, c, h⟩ := h
  exact ⟨a, c, h.up g⟩
theorem LIn.far {w w' : World} {q x : Nat} {l : Ln} (h : LIn w q l) (g : Fr (One x) w w') (hx : q < x) : LIn w' q l := by
  obtain ⟨a, c, h⟩ := h
  refine ⟨a, c, at_fr h.c g (by show ¬ _ = _; omega), h.cap, ⟨h.ws.len, h.ws.ok, fun h0 => ?_⟩, h.en⟩
  obtain ⟨b, f, e, z, hb, ⟨cs, zz, ht⟩, hc⟩ := h.ws.is h0
  refine ⟨b, f, e, Nat.lt_of_lt_of_le z g.size, hb, ⟨cs, zz, by rw [g.block b z (by show ¬ _ = _; omega)]; exact ht⟩, fun i hi => ?_⟩
  rw [g.cell z (by show ¬ _ = _; omega), g.cell z (by show ¬ _ = _; omega)]
  exact hc i hi
/-- A block of another type is none of the words'. -/
theorem LIn.tag {w w' : World} {q x : Nat} {l : Ln} {t : TypeId} (h : LIn w q l) (g : Fr (One x) w w') (hx : q ≠ x) (ht : ∃ cs z, w.heap[x]? = some (.cells cs t z)) (h136 : t ≠ 108) : LIn w' q l := by
  obtain ⟨a, c, h⟩ := h
  refine ⟨a, c, at_fr h.c g (by show ¬ _ = _; omega), h.cap, ⟨h.ws.len, h.ws.ok, fun h0 => ?_⟩, h.en⟩
  obtain ⟨b, f, e, z, hb, ⟨cs, zz, htt⟩, hc⟩ := h.ws.is h0
  have hne : ¬ b = x := by
    rintro rfl
    obtain ⟨cs', z', h'⟩ := ht
    rw [htt] at h'
    injection h' with h'
    injection h' with _ h2 _
    exact h136 h2.symm
  refine ⟨b, f, e, Nat.lt_of_lt_of_le z g.size, hb, ⟨cs, zz, by rw [g.block b z hne]; exact htt⟩, fun i hi => ?_⟩
  rw [g.cell z hne, g.cell z hne]
  exact hc i hi
/-- A store keeps a block's type. -/
theorem tag_set {w : World} {x j : Nat} {t : TypeId} {v : Value} (h : ∃ cs z, w.heap[x]? = some (.cells cs t z)) : ∃ cs z, (w.setCell ⟨x, j, none⟩ v).heap[x]? = some (.cells cs t z) := by
  obtain ⟨cs, z, h⟩ := h
  have hx : x < w.heap.size := by
    rcases Nat.lt_or_ge x w.heap.size with h' | h'
    · exact h'
    · rw [Array.getElem?_eq_none h'] at h; cases h
  have h' : w.heap[x] = .cells cs t z := by rw [Array.getElem?_eq_getElem hx] at h; exact Option.some.inj h
  refine ⟨cs.setIfInBounds j v, z, ?_⟩
  simp [World.setCell, hx, Array.getElem_modify, h']
theorem tag_new (w : World) (c : Array Value) (t : TypeId) : ∃ cs z, (w.alloc (.cells c t)).heap[w.heap.size]? = some (.cells cs t z) := ⟨c, (0, 0), heap_alloc_new w _⟩
theorem tag_fr {X : Nat → Prop} {w w' : World} {x : Nat} {t : TypeId} (h : ∃ cs z, w.heap[x]? = some (.cells cs t z)) (g : Fr X w w') (hx : x < w.heap.size) (hX : ¬ X x) : ∃ cs z, w'.heap[x]? = some (.cells cs t z) := by
  obtain ⟨cs, z, h⟩ := h
  exact ⟨cs, z, by rw [g.block x hx hX]; exact h⟩
/-- The words' field is set to the words behind the first. -/
theorem LAt.tail {w : World} {q b f cap : Nat} {x : Wd'} {r : List Wd'} {en : Nat} (h : LAt w q (some ⟨b, f, none⟩) cap ⟨x :: r, en⟩) : LAt (w.setCell ⟨q, 0, none⟩ (.slice (some ⟨b, f + 2, none⟩) r.length (cap - 1))) q (some ⟨b, f + 2, none⟩) (cap - 1) ⟨r, en⟩ := by
  have hc := h.cap
  simp only [List.length_cons] at hc
  have hw := h.ws
  obtain ⟨b', f', e, z, hne, ⟨cs, zz, ht⟩, hx⟩ := hw.is (by simp)
  injection e with e
  injection e with e1 e2 _
  subst e1 e2
  refine ⟨?_, by simp only; omega, ⟨by have := hw.len; simp at this; simp only; omega, fun y hy => hw.ok y (List.mem_cons_of_mem _ hy), fun _ => ⟨b, f + 2, rfl, by rw [World.size_setCell]; exact z, hne, ⟨cs, zz, by rw [Below.heap_setCell _ _ _ _ (Nat.ne_of_lt hne)]; exact ht⟩, fun i hi => ?_⟩⟩, h.en⟩
  · exact at_set h.c (j := 0) (by simp) _
  · have := hx (i + 1) (by simpa using hi)
    rw [set_far _ (Nat.ne_of_lt hne), set_far _ (Nat.ne_of_lt hne)]
    rw [show f + 2 + i * 2 = f + (i + 1) * 2 by omega]
    simpa using this
/-- No word is left. -/
theorem LAt.tail0 {w : World} {q cap : Nat} {ao : Option Addr} {x : Wd'} {en : Nat} (h : LAt w q ao cap ⟨[x], en⟩) (ao' : Option Addr) (c' : Nat) : LAt (w.setCell ⟨q, 0, none⟩ (.slice ao' 0 c')) q ao' c' ⟨[], en⟩ :=
  ⟨at_set h.c (j := 0) (by simp) _, by simp, ⟨by simp, by simp, fun h0 => by simp at h0⟩, h.en⟩
end Go.Proofs.YthjpddjfckdefaaGreatDoor.Pr
