/- What the search for the least sets holds in memory: the blocks ahead of each, the list of work, the sets. Conditions: none. -/
import Derived.Test.YtddcndlogoajkaaGreatDoorQPk
import Derived.Deep.AppendLies
import Derived.OwnWalk
import Derived.Test.YtddcndlogoajkaaGreatDoorQVc
import Derived.Test.YtddcndlogoajkaaGreatDoorQGv
import Derived.Deep.OwnRows
namespace Go.Proofs.YtddcndlogoajkaaGreatDoor.L8.Op
open Go.ChangeShapes Go.WideShapes Go.ChangeAt Go.RowKit
set_option maxRecDepth 20000

theorem info51 : (Tryz.prog.info? 51).map (fun i => (i.zero, i.size, i.bytes)) = some (some (.agg #[.int .i8 0, .int .u8 0, .int .u8 0, .int .u8 0, .int .i64 0]), 5, 16) := by kernel_rfl
theorem info49 : (Tryz.prog.info? 49).map (fun i => (i.zero, i.size, i.bytes)) = some (some (.agg #[.slice none 0 0, .int .i8 0, .int .u8 0, .slice none 0 0, .int .i64 0, .int .i64 0]), 6, 72) := by kernel_rfl
theorem add_at (b f j : Nat) : (⟨b, f, none⟩ : Addr).add j = ⟨b, f + j, none⟩ := by simp [Addr.add]
/-- The cells of operations in a row. -/
def ocells (xs : List O) : List Value := xs.flatMap fun o => [.int .i8 o.op, .int .u8 o.d, .int .u8 o.a, .int .u8 o.b, .int .i64 o.im]
theorem ocells_len (xs : List O) : (ocells xs).length = xs.length * 5 := by
  induction xs with
  | nil => rfl
  | cons o r ih => unfold ocells at ih ⊢; rw [List.flatMap_cons, List.length_append, ih]; simp; omega
theorem ocells_cons (o : O) (r : List O) : ocells (o :: r) = .int .i8 o.op :: .int .u8 o.d :: .int .u8 o.a :: .int .u8 o.b :: .int .i64 o.im :: ocells r := rfl
theorem ocells_get (xs : List O) : ∀ (i : Nat) (h : i < xs.length), (ocells xs)[i * 5]? = some (.int .i8 xs[i].op) ∧ (ocells xs)[i * 5 + 1]? = some (.int .u8 xs[i].d) ∧ (ocells xs)[i * 5 + 2]? = some (.int .u8 xs[i].a) ∧ (ocells xs)[i * 5 + 3]? = some (.int .u8 xs[i].b) ∧ (ocells xs)[i * 5 + 4]? = some (.int .i64 xs[i].im) := by
  induction xs with
  | nil => intro i h; simp at h
  | cons o r ih =>
    intro i h
    rw [ocells_cons]
    cases i with
    | zero => exact ⟨rfl, rfl, rfl, rfl, rfl⟩
    | succ i =>
      have := ih i (by simpa using h)
      rw [show (i + 1) * 5 = i * 5 + 1 + 1 + 1 + 1 + 1 by omega]
      simpa using this
theorem ocells_one (xs : List O) : ∀ u, u ∈ ocells xs → u.oneCell' = true := by
  intro u hu
  obtain ⟨o, _, h⟩ := List.mem_flatMap.1 hu
  simp at h
  rcases h with rfl | rfl | rfl | rfl | rfl <;> rfl
theorem ocells_at {w : World} {b f : Nat} (xs : List O) (h : ∀ (i : Nat) (h : i < xs.length), OAt w b (f + i * 5) xs[i]) : ∀ j u, (ocells xs)[j]? = some u → w.cell? ((⟨b, f, none⟩ : Addr).add j) = some u := by
  intro j u hu
  have hj : j < (ocells xs).length := by
    rcases Nat.lt_or_ge j (ocells xs).length with h' | h'
    · exact h'
    · rw [List.getElem?_eq_none h'] at hu; cases hu
  rw [ocells_len] at hj
  have hi : j / 5 < xs.length := by omega
  obtain ⟨c0, c1, c2, c3, c4⟩ := h (j / 5) hi
  obtain ⟨g0, g1, g2, g3, g4⟩ := ocells_get xs (j / 5) hi
  have hq : j = j / 5 * 5 + j % 5 := by omega
  have hm : j % 5 = 0 ∨ j % 5 = 1 ∨ j % 5 = 2 ∨ j % 5 = 3 ∨ j % 5 = 4 := by omega
  rw [add_at]
  generalize j / 5 = q at *
  rcases hm with hm | hm | hm | hm | hm
  · obtain rfl : j = q * 5 := by omega
    rw [g0] at hu; rw [← hu]; exact c0
  · obtain rfl : j = q * 5 + 1 := by omega
    rw [g1] at hu; rw [← hu, ← Nat.add_assoc]; exact c1
  · obtain rfl : j = q * 5 + 2 := by omega
    rw [g2] at hu; rw [← hu, ← Nat.add_assoc]; exact c2
  · obtain rfl : j = q * 5 + 3 := by omega
    rw [g3] at hu; rw [← hu, ← Nat.add_assoc]; exact c3
  · obtain rfl : j = q * 5 + 4 := by omega
    rw [g4] at hu; rw [← hu, ← Nat.add_assoc]; exact c4
/-- A row of operations is a list in memory. -/
theorem opsAt_row {w : World} {B c : Nat} {a : Option Addr} {xs : List O} (h : w.ownsRow B 51 5 (.slice a xs.length c) xs.length (ocells xs)) (hok : ∀ o, o ∈ xs → o.Ok) (hl : xs.length ≤ 8192) : OpsAt w a xs := by
  refine ⟨hok, by omega, fun h0 => ?_⟩
  rcases h.2 with ⟨_, h1⟩ | ⟨g, cap, cur, h1, h2, h3, h4⟩
  · omega
  · injection h1 with e1 e2 e3
    subst e1
    have hc := h.cells (g := g) rfl
    refine ⟨g, 0, rfl, (h.lt g rfl).2, fun i hi => ?_⟩
    obtain ⟨g0, g1, g2, g3, g4⟩ := ocells_get xs i hi
    have k : ∀ j u, (ocells xs)[j]? = some u → w.cell? ⟨g, 0 + j, none⟩ = some u := fun j u hj => by have := hc j u hj; rw [add_at] at this; exact this
    exact ⟨k _ _ g0, k _ _ g1, k _ _ g2, k _ _ g3, k _ _ g4⟩

theorem grown_below {w w' : World} {row : Option Nat} (h : w.grownBy w' row) (hr : ∀ b, row = some b → w.heap.size ≤ b) : Below w.heap.size w w' :=
  ⟨h.os, h.tape, h.output, h.size, fun k hk => h.block k hk fun e => by have := hr k e.symm; omega⟩

/-- What make leaves. -/
structure Mk (w w1 : World) (n : Nat) : Prop where
  own : w1.ownsRow w.heap.size 51 5 (.slice (some ⟨w.heap.size, 0, none⟩) 0 (n + 1)) 0 []
  grown : w.grownBy w1 none
set_option maxHeartbeats 1000000 in
theorem copiedOps_some (a : Addr) (cap : Nat) (xs : List O) (w : World) (hl : xs.length ≤ 8192) (hn : ∀ j u, (ocells xs)[j]? = some u → w.cell? (a.add j) = some u) :
    Calls Tryz.prog 21 #[.slice (some a) xs.length cap] w fun e w' => ∃ a c, e = .returned (.slice a xs.length c) ∧ w'.ownsRow w.heap.size 51 5 (.slice a xs.length c) xs.length (ocells xs) ∧ Below w.heap.size w w' := by
  obtain ⟨i0, hi, hi2⟩ := Option.map_eq_some_iff.1 info51
  simp only [Prod.mk.injEq] at hi2
  obtain ⟨hz0, hz1, hz2⟩ := hi2
  have HI : Hid (Tryz.prog.info? 51 = some i0 ∧ i0.zero = some (.agg #[.int .i8 0, .int .u8 0, .int .u8 0, .int .u8 0, .int .i64 0]) ∧ i0.size = 5 ∧ i0.bytes = 16) := ⟨hi, hz0, hz1, hz2⟩
  clear hi hz0 hz1 hz2
  have HN : Hid _ := hn
  clear hn
  have hlz : (xs.length : Int) ≤ 8192 := by omega
  go_enter Tryz.func21, Tryz.ntmps21
  go_wp2_with (first
    | (at_make; refine wpList_make_own _ rfl _ _ 46 rfl w.heap.size 51 i0 (.agg #[.int .i8 0, .int .u8 0, .int .u8 0, .int .u8 0, .int .i64 0]) 5 Tryz.underlying46 HI.out.1 HI.out.2.1 HI.out.2.2.1 .i64 .i64 _ (xs.length + 1) rfl rfl (by omega) (by rw [HI.out.2.2.2]; omega) (by unfold maxLen; omega) (Nat.le_refl _) ?_; intro w1 hown1 hgrow1; have HM : Hid (Mk w w1 xs.length) := ⟨hown1, hgrow1⟩; clear hgrow1 hown1)
    | (at_builtin; refine wpList_append_own _ rfl (.tmp 8) (.tmp 9) 46 rfl w.heap.size 51 i0 (.agg #[.int .i8 0, .int .u8 0, .int .u8 0, .int .u8 0, .int .i64 0]) 5 16 Tryz.underlying46 HI.out.1 HI.out.2.1 HI.out.2.2.1 HI.out.2.2.2 rfl (by decide) _ _ _ rfl HM.out.own a xs.length cap (ocells xs) rfl (ocells_len xs) (fun j u hj => HM.out.grown.cell (HN.out j u hj) (by simp)) (ocells_one xs) (by unfold maxLen; omega) (by omega) (by have := HM.out.grown.size; omega) ?_; intro v' w2 hown2 hgrow2 hnil; have HF : Hid (w2.ownsRow w.heap.size 51 5 v' xs.length (ocells xs) ∧ w1.grownBy w2 (some w.heap.size)) := ⟨by have := hown2; simp only [Nat.zero_add, List.nil_append] at this; exact this, hgrow2⟩; clear hown2 hgrow2 hnil))
  go_ret
  obtain ⟨h1, h2⟩ := HF.out
  have hb : Below w.heap.size w w2 := (grown_below HM.out.grown (fun b hb => by cases hb)).grown h2 HM.out.grown.size (fun b hb => by cases hb; exact Nat.le_refl _)
  rcases h1.2 with ⟨rfl, h0⟩ | ⟨g, c, cur, rfl, _⟩
  · exact ⟨none, 0, by rw [h0]; rfl, by rw [h0] at h1 ⊢; exact h1, hb⟩
  · exact ⟨_, _, rfl, h1, hb⟩
set_option maxHeartbeats 1000000 in
theorem copiedOps_none (cap : Nat) (w : World) :
    Calls Tryz.prog 21 #[.slice none 0 cap] w fun e w' => ∃ a c, e = .returned (.slice a 0 c) ∧ w'.ownsRow w.heap.size 51 5 (.slice a 0 c) 0 [] ∧ Below w.heap.size w w' := by
  obtain ⟨i0, hi, hi2⟩ := Option.map_eq_some_iff.1 info51
  simp only [Prod.mk.injEq] at hi2
  obtain ⟨hz0, hz1, hz2⟩ := hi2
  have HI : Hid (Tryz.prog.info? 51 = some i0 ∧ i0.zero = some (.agg #[.int .i8 0, .int .u8 0, .int .u8 0, .int .u8 0, .int .i64 0]) ∧ i0.size = 5 ∧ i0.bytes = 16) := ⟨hi, hz0, hz1, hz2⟩
  clear hi hz0 hz1 hz2
  go_enter Tryz.func21, Tryz.ntmps21
  go_wp2_with (first
    | (at_make; refine wpList_make_own _ rfl _ _ 46 rfl w.heap.size 51 i0 (.agg #[.int .i8 0, .int .u8 0, .int .u8 0, .int .u8 0, .int .i64 0]) 5 Tryz.underlying46 HI.out.1 HI.out.2.1 HI.out.2.2.1 .i64 .i64 _ 1 rfl rfl (by omega) (by rw [HI.out.2.2.2]; omega) (by unfold maxLen; omega) (Nat.le_refl _) ?_; intro w1 hown1 hgrow1; have HM : Hid (Mk w w1 0) := ⟨hown1, hgrow1⟩; clear hgrow1 hown1))
  go_ret
  exact ⟨_, _, rfl, HM.out.own, grown_below HM.out.grown (fun b hb => by cases hb)⟩
theorem copiedOps_any (ao : Option Addr) (cap : Nat) (xs : List O) (w : World) (h : OpsAt w ao xs) (hl : xs.length ≤ 8192) :
    Calls Tryz.prog 21 #[.slice ao xs.length cap] w fun e w' => ∃ a c, e = .returned (.slice a xs.length c) ∧ w'.ownsRow w.heap.size 51 5 (.slice a xs.length c) xs.length (ocells xs) ∧ Below w.heap.size w w' := by
  rcases Nat.eq_zero_or_pos xs.length with h0 | h0
  · obtain rfl : xs = [] := List.eq_nil_of_length_eq_zero h0
    cases ao with
    | none => exact copiedOps_none cap w
    | some a => exact copiedOps_some a cap [] w hl fun j u hu => by simp [ocells] at hu
  · obtain ⟨b, f, rfl, _, hx⟩ := h.is h0
    exact copiedOps_some _ cap xs w hl (ocells_at xs hx)
end Go.Proofs.YtddcndlogoajkaaGreatDoor.L8.Op
namespace Go.Proofs.YtddcndlogoajkaaGreatDoor.L8.Op
open Go.ChangeShapes Go.WideShapes Go.ChangeAt Go.RowKit
set_option maxRecDepth 20000

theorem pAt_nil (w : World) (ao : Option Addr) : PAt w ao [] := ⟨by simp, fun h => by simp at h⟩
theorem At.new' (w : World) (c : Array Value) (t : TypeId) (n : Nat) (h : w.heap.size = n) : At (w.alloc (.cells c t)) n c := h ▸ At.new w c t
theorem row_le {w : World} {b b' : Nat} {e : TypeId} {z : Nat} {v : Value} {n : Nat} {xs : List Value} (h : w.ownsRow b e z v n xs) (hb : b' ≤ b) : w.ownsRow b' e z v n xs := by
  refine ⟨h.1, h.2.imp id ?_⟩
  rintro ⟨g, cap, cur, h1, h2, h3⟩
  exact ⟨g, cap, cur, h1, Nat.le_trans hb h2, h3⟩
theorem row_below {w w' : World} {B : Nat} {e : TypeId} {z : Nat} {v : Value} {n : Nat} {xs : List Value} (h : w.ownsRow B e z v n xs) (hb : Below w.heap.size w w') : w'.ownsRow B e z v n xs :=
  h.kept (row := none) ⟨hb.os, hb.tape, hb.output, hb.size, fun k hk _ => hb.block k hk⟩ (by cases v.ownBlock <;> simp)
theorem row_far {w w' : World} {B B' : Nat} {e e' : TypeId} {z z' : Nat} {u v : Value} {n m : Nat} {xs ys : List Value} (h : w.ownsRow B e z u n xs) (hv : w.ownsRow B' e' z' v m ys) (he : e ≠ e') (hg : w.grownBy w' v.ownBlock) : w'.ownsRow B e z u n xs := by
  refine h.kept hg ?_
  rcases h.2 with ⟨rfl, _⟩ | ⟨g, cap, cur, rfl, _, h3, _⟩
  · left; rfl
  · right
    rcases hv.2 with ⟨rfl, _⟩ | ⟨g', cap', cur', rfl, _, h3', _⟩
    · simp [Value.ownBlock]
    · simp only [Value.ownBlock, ne_eq, Option.some.injEq]
      rintro rfl
      rw [h3] at h3'
      simp at h3'
      exact he h3'.2
theorem row_set {w : World} {B : Nat} {e : TypeId} {z : Nat} {v : Value} {n : Nat} {xs : List Value} (h : w.ownsRow B e z v n xs) {b j : Nat} (hb : b < B) (u : Value) : (w.setCell ⟨b, j, none⟩ u).ownsRow B e z v n xs := by
  refine h.kept (row := some b) ⟨rfl, rfl, rfl, by simp, fun k hk hne => Below.heap_setCell _ _ _ _ fun e => hne (by rw [e])⟩ ?_
  cases hv : v.ownBlock with
  | none => left; rfl
  | some g => right; have := (h.lt g hv).1; intro e; injection e with e; omega
theorem At.set {w : World} {q j : Nat} {cs : Array Value} (h : At w q cs) (hj : j < cs.size) (v : Value) : At (w.setCell ⟨q, j, none⟩ v) q (cs.setIfInBounds j v) := by
  refine ⟨fun k u hk => ?_, fun k => by rw [World.frozen?_setCell]; exact h.f k, by simpa using h.lt⟩
  by_cases e : j = k
  · subst e
    rw [World.cell?_setCell_same (h := h.c j _ (Array.getElem?_eq_getElem hj))]
    rw [Array.getElem?_setIfInBounds_self_of_lt hj] at hk
    exact hk
  · rw [Array.getElem?_setIfInBounds_ne e] at hk
    rw [World.cell?_setCell_other]
    · exact h.c k u hk
    · intro h'; injection h' with _ h2; exact e h2
theorem At.other {w : World} {q b j : Nat} {cs : Array Value} (h : At w q cs) (hb : b ≠ q) (v : Value) : At (w.setCell ⟨b, j, none⟩ v) q cs := by
  refine ⟨fun k u hk => ?_, fun k => by rw [World.frozen?_setCell]; exact h.f k, by simpa using h.lt⟩
  rw [World.cell?_setCell_other]
  · exact h.c k u hk
  · intro h'; injection h' with h1; exact hb h1

/-- The cells of blocks in a row. -/
def bcells (xs : List Bk) (ls : List Pl) : List Value := (xs.zip ls).flatMap fun y => [.slice y.2.oa y.1.ops.length y.2.oc, .int .i8 y.1.fin, .int .u8 y.1.a, .slice y.2.ba y.1.body.length y.2.bc, .int .i64 y.1.thn, .int .i64 y.1.els]
theorem bcells_snoc (xs : List Bk) (ls : List Pl) (x : Bk) (p : Pl) (h : xs.length = ls.length) : bcells (xs ++ [x]) (ls ++ [p]) = bcells xs ls ++ [.slice p.oa x.ops.length p.oc, .int .i8 x.fin, .int .u8 x.a, .slice p.ba x.body.length p.bc, .int .i64 x.thn, .int .i64 x.els] := by
  simp [bcells, List.zip_append h]
theorem bcells_cons (x : Bk) (xs : List Bk) (p : Pl) (ls : List Pl) : bcells (x :: xs) (p :: ls) = .slice p.oa x.ops.length p.oc :: .int .i8 x.fin :: .int .u8 x.a :: .slice p.ba x.body.length p.bc :: .int .i64 x.thn :: .int .i64 x.els :: bcells xs ls := rfl
theorem bcells_get (xs : List Bk) : ∀ (ls : List Pl) (_ : xs.length = ls.length) (i : Nat) (h : i < xs.length) (h' : i < ls.length), (bcells xs ls)[i * 6]? = some (.slice ls[i].oa xs[i].ops.length ls[i].oc) ∧ (bcells xs ls)[i * 6 + 1]? = some (.int .i8 xs[i].fin) ∧ (bcells xs ls)[i * 6 + 2]? = some (.int .u8 xs[i].a) ∧ (bcells xs ls)[i * 6 + 3]? = some (.slice ls[i].ba xs[i].body.length ls[i].bc) ∧ (bcells xs ls)[i * 6 + 4]? = some (.int .i64 xs[i].thn) ∧ (bcells xs ls)[i * 6 + 5]? = some (.int .i64 xs[i].els) := by
  induction xs with
  | nil => intro ls _ i h; simp at h
  | cons x r ih =>
    intro ls hl i h h'
    cases ls with
    | nil => simp at h'
    | cons p ls =>
      rw [bcells_cons]
      cases i with
      | zero => exact ⟨rfl, rfl, rfl, rfl, rfl, rfl⟩
      | succ i =>
        have := ih ls (by simpa using hl) i (by simpa using h) (by simpa using h')
        rw [show (i + 1) * 6 = i * 6 + 1 + 1 + 1 + 1 + 1 + 1 by omega]
        simpa using this

/-- A list's row. -/
def LRow (w : World) (B : Nat) (a : Option Addr) (c : Nat) (xs : List O) : Prop := w.ownsRow B 51 5 (.slice a xs.length c) xs.length (ocells xs)
/-- The copy under way: k blocks are there. -/
structure Cq (w V : World) (ao : Option Addr) (cap : Nat) (ps : List Bk) (k : Nat) (v : Value) (ls : List Pl) : Prop where
  b : Below w.heap.size w V
  z : w.heap.size + 3 ≤ V.heap.size
  p : At V w.heap.size #[.slice ao ps.length cap]
  r : At V (w.heap.size + 1) #[.slice none 0 0]
  o : At V (w.heap.size + 1 + 1) #[v]
  len : ls.length = k
  row : V.ownsRow (w.heap.size + 3) 49 6 v k (bcells (ps.take k) ls)
  ins : ∀ (i : Nat) p x, ls[i]? = some p → ps[i]? = some x → LRow V (w.heap.size + 3) p.oa p.oc x.ops ∧ LRow V (w.heap.size + 3) p.ba p.bc x.body
theorem Cq.go {w V V' : World} {ao : Option Addr} {cap : Nat} {ps : List Bk} {k : Nat} {v : Value} {ls : List Pl} (h : Cq w V ao cap ps k v ls) (hb : Below V.heap.size V V') : Cq w V' ao cap ps k v ls :=
  ⟨h.b.trans (hb.mono h.b.size), Nat.le_trans h.z hb.size, h.p.below hb h.p.lt, h.r.below hb h.r.lt, h.o.below hb h.o.lt, h.len, row_below h.row hb, fun i p x hp hx => ⟨row_below (h.ins i p x hp hx).1 hb, row_below (h.ins i p x hp hx).2 hb⟩⟩
theorem Cq.start (w : World) (ao : Option Addr) (cap : Nat) (ps : List Bk) (t0 t1 t2 : TypeId) : Cq w (((w.alloc (.cells #[.slice ao ps.length cap] t0)).alloc (.cells #[.slice none 0 0] t1)).alloc (.cells #[.slice none 0 0] t2)) ao cap ps 0 (.slice none 0 0) [] := by
  have h1 := At.new' (w.alloc (.cells #[.slice ao ps.length cap] t0)) #[.slice none 0 0] t1 (w.heap.size + 1) (by simp)
  have h2 := At.new' ((w.alloc (.cells #[.slice ao ps.length cap] t0)).alloc (.cells #[.slice none 0 0] t1)) #[.slice none 0 0] t2 (w.heap.size + 2) (by simp)
  exact ⟨((Below.refl _ _).alloc (Nat.le_refl _) _).alloc (by simp) _ |>.alloc (by simp; omega) _, by simp, ((At.new w _ t0).alloc _).alloc _, h1.alloc _, h2, rfl, World.ownsRow_nil _ _ _ _, fun i p x hp => by simp at hp⟩
/-- A block more. -/
theorem Cq.put {w V V' : World} {ao : Option Addr} {cap : Nat} {ps : List Bk} {k : Nat} {v v' : Value} {ls : List Pl} {p : Pl} (h : Cq w V ao cap ps k v ls) (hk : k < ps.length) (ho : LRow V (w.heap.size + 3) p.oa p.oc ps[k].ops) (hy : LRow V (w.heap.size + 3) p.ba p.bc ps[k].body)
    (hg : V.grownBy V' v.ownBlock) (hown : V'.ownsRow (w.heap.size + 3) 49 6 v' (k + 1) (bcells (ps.take k) ls ++ [.slice p.oa ps[k].ops.length p.oc, .int .i8 ps[k].fin, .int .u8 ps[k].a, .slice p.ba ps[k].body.length p.bc, .int .i64 ps[k].thn, .int .i64 ps[k].els])) :
    Cq w (V'.setCell ⟨w.heap.size + 1 + 1, 0, none⟩ v') ao cap ps (k + 1) v' (ls ++ [p]) := by
  have hr : ∀ b, v.ownBlock = some b → w.heap.size + 3 ≤ b := fun b hb => (h.row.lt b hb).1
  have hb : Below (w.heap.size + 3) V V' := (Below.refl _ _).grown hg h.z hr
  have far : ∀ {a : Option Addr} {c : Nat} {xs : List O}, LRow V (w.heap.size + 3) a c xs → LRow (V'.setCell ⟨w.heap.size + 1 + 1, 0, none⟩ v') (w.heap.size + 3) a c xs := fun hl => row_set (row_far hl h.row (by decide) hg) (by omega) _
  refine ⟨(h.b.trans (hb.mono (by omega))).setCell (by show w.heap.size ≤ w.heap.size + 2; omega) _, by rw [World.size_setCell]; exact Nat.le_trans h.z hg.size, (h.p.below hb (by omega)).other (by omega) _, (h.r.below hb (by omega)).other (by omega) _, (h.o.below hb (by omega)).set (j := 0) (by simp) v', by simp [h.len], ?_, ?_⟩
  · rw [List.take_succ_eq_append_getElem hk, bcells_snoc _ _ _ _ (by rw [h.len]; simp; omega)]
    exact row_set hown (by omega) _
  · intro i p' x hp hx
    rcases Nat.lt_or_ge i k with hlt | hge
    · rw [List.getElem?_append_left (by rw [h.len]; exact hlt)] at hp
      exact ⟨far (h.ins i p' x hp hx).1, far (h.ins i p' x hp hx).2⟩
    · rw [List.getElem?_append_right (by rw [h.len]; exact hge), h.len] at hp
      have hi : i - k = 0 := by
        rcases Nat.eq_zero_or_pos (i - k) with h' | h'
        · exact h'
        · rw [List.getElem?_eq_none (by simp; omega)] at hp; cases hp
      rw [hi] at hp
      simp at hp
      subst hp
      obtain rfl : i = k := by omega
      rw [List.getElem?_eq_getElem hk] at hx
      obtain rfl := Option.some.inj hx
      exact ⟨far ho, far hy⟩
/-- What a program must be to be copied: no list is great. -/
structure Small (ps : List Bk) : Prop where
  n : ps.length ≤ 8192
  l : ∀ x, x ∈ ps → x.Ok ∧ (∀ o, o ∈ x.ops → o.Ok) ∧ (∀ o, o ∈ x.body → o.Ok) ∧ x.ops.length ≤ 8192 ∧ x.body.length ≤ 8192
theorem small_of {w : World} {ao : Option Addr} {ps : List Bk} (h : PAt w ao ps) (hg : greatB ps = false) : Small ps := by
  unfold greatB opsN at hg
  simp at hg
  refine ⟨by omega, fun x hx => ?_⟩
  obtain ⟨k, hk, rfl⟩ := List.getElem_of_mem hx
  obtain ⟨b, f, _, _, hx⟩ := h.is (by omega)
  obtain ⟨p, _, h2⟩ := hx k hk
  have m := sumTo_mono ps (ps.length - (k + 1)) (k + 1) (by omega)
  rw [show k + 1 + (ps.length - (k + 1)) = ps.length by omega, sumTo_succ hk] at m
  unfold bkN at m
  exact ⟨h2.ok, h2.o.ok, h2.b.ok, by omega, by omega⟩
/-- The copy is the program. -/
theorem row_cap {w : World} {B : Nat} {a : Option Addr} {c : Nat} {xs : List O} (h : LRow w B a c xs) : xs.length ≤ c := by
  rcases h.2 with ⟨e, h0⟩ | ⟨g, cap, cur, e, _, _, h3, _⟩
  · omega
  · injection e with _ _ e3
    omega
theorem rows_done {V : World} {B : Nat} {ps : List Bk} {v : Value} {ls : List Pl} (hlen : ls.length = ps.length) (hrow : V.ownsRow B 49 6 v ps.length (bcells ps ls)) (hins : ∀ (i : Nat) p x, ls[i]? = some p → ps[i]? = some x → LRow V B p.oa p.oc x.ops ∧ LRow V B p.ba p.bc x.body) (hs : Small ps) : ∃ a c, v = .slice a ps.length c ∧ PAt V a ps := by
  rcases hrow.2 with ⟨rfl, h0⟩ | ⟨g, c, cur, rfl, _⟩
  · obtain rfl : ps = [] := List.eq_nil_of_length_eq_zero h0
    exact ⟨none, 0, rfl, pAt_nil _ _⟩
  · refine ⟨_, _, rfl, ⟨by have := hs.n; omega, fun h0 => ⟨g, 0, rfl, (hrow.lt g rfl).2, fun i hi => ?_⟩⟩⟩
    have hi' : i < ls.length := by rw [hlen]; exact hi
    obtain ⟨g0, g1, g2, g3, g4, g5⟩ := bcells_get ps ls hlen.symm i hi hi'
    have k : ∀ j u, (bcells ps ls)[j]? = some u → V.cell? ⟨g, 0 + j, none⟩ = some u := fun j u hj => by have := hrow.cells (g := g) rfl j u hj; rw [add_at] at this; exact this
    obtain ⟨s1, s2, s3, s4, s5⟩ := hs.l ps[i] (List.getElem_mem hi)
    obtain ⟨r1, r2⟩ := hins i ls[i] ps[i] (List.getElem?_eq_getElem hi') (List.getElem?_eq_getElem hi)
    exact ⟨ls[i], ⟨k _ _ g0, k _ _ g1, k _ _ g2, k _ _ g3, k _ _ g4, k _ _ g5⟩, ⟨s1, opsAt_row r1 s2 s4, opsAt_row r2 s3 s5, row_cap r1⟩⟩
theorem Cq.done {w V : World} {ao : Option Addr} {cap : Nat} {ps : List Bk} {v : Value} {ls : List Pl} (h : Cq w V ao cap ps ps.length v ls) (hs : Small ps) (u : Value) : ∃ a c, v = .slice a ps.length c ∧ PAt (V.setCell ⟨w.heap.size + 1, 0, none⟩ u) a ps := by
  have hrow := h.row
  rw [List.take_length] at hrow
  exact rows_done h.len (row_set hrow (by omega) _) (fun i p x hp hx => ⟨row_set (h.ins i p x hp hx).1 (by omega) _, row_set (h.ins i p x hp hx).2 (by omega) _⟩) hs
end Go.Proofs.YtddcndlogoajkaaGreatDoor.L8.Op
namespace Go.Proofs.YtddcndlogoajkaaGreatDoor.L8.Li
open Go.ChangeShapes Go.WideShapes Go.ChangeAt Go.RowKit Go.Maps
open _root_.Go.Proofs.YtddcndlogoajkaaGreatDoor.L8.So _root_.Go.Proofs.YtddcndlogoajkaaGreatDoor.L8.Op _root_.Go.Proofs.YtddcndlogoajkaaGreatDoor.L8.Fl _root_.Go.Proofs.YtddcndlogoajkaaGreatDoor.L8.Lv
set_option maxRecDepth 20000

/-! the map -/
theorem Wm.isMap {w : World} {mb N : Nat} {D : DataW Unit} (h : Wm w mb D N) : IsMap D := h.own.isMap
theorem Wm.tidy {w : World} {mb N : Nat} {D : DataW Unit} (h : Wm w mb D N) : Tidy D := h.own.tidy law3
theorem has_put {D : DataW Unit} (hD : IsMap D) (n j : Nat) : Maps.has (D.put (kn n) (.agg [])) (kn j) = true ↔ j = n ∨ Maps.has D (kn j) = true := by
  by_cases e : j = n
  · subst e
    simp [has_put_same hD (kn_key j)]
  · rw [has_put_other (fun h => e (kn_inj h))]
    simp [e]
theorem has_del {D : DataW Unit} (n j : Nat) : Maps.has (D.del (kn n)) (kn j) = true ↔ j ≠ n ∧ Maps.has D (kn j) = true := by
  by_cases e : j = n
  · subst e
    simp [has_del_same]
  · rw [has_del_other (fun h => e (kn_inj h))]
    simp [e]
theorem Wm.put {w w' : World} {mb N n m : Nat} {D : DataW Unit} (h : Wm w mb D N) (hn : n < N) (ho : w'.ownsMap Tryz.prog 3 (unitElem (H := Unit)) mb m (D.put (kn n) (.agg []))) : Wm w' mb (D.put (kn n) (.agg [])) N :=
  ⟨tight ho, fun l hl => by
    by_cases e : l = kn n
    · exact ⟨n, hn, e⟩
    · rw [has_put_other e] at hl
      exact h.key l hl⟩
theorem Wm.del {w w' : World} {mb N n m : Nat} {D : DataW Unit} (h : Wm w mb D N) (ho : w'.ownsMap Tryz.prog 3 (unitElem (H := Unit)) mb m (D.del (kn n))) : Wm w' mb (D.del (kn n)) N :=
  ⟨tight ho, fun l hl => by
    by_cases e : l = kn n
    · subst e; rw [has_del_same] at hl; cases hl
    · rw [has_del_other e] at hl
      exact h.key l hl⟩
theorem size_put_le {D : DataW Unit} (h : Tidy D) (n : Nat) : Maps.size (D.put (kn n) (.agg [])) ≤ Maps.size D + 1 := by
  rw [size_put h]; split <;> omega
theorem size_del_lt {D : DataW Unit} (h : Tidy D) {n : Nat} (hn : Maps.has D (kn n) = true) : Maps.size (D.del (kn n)) + 1 = Maps.size D := by
  have := size_del (k := kn n) h
  rw [hn] at this
  simpa using this
theorem size_zero {D : DataW Unit} (h : IsMap D) (h0 : Maps.size D = 0) (l : Lit) : Maps.has D l = false := by
  obtain ⟨es, rfl⟩ := h
  rw [size_eq] at h0
  rw [List.length_eq_zero_iff.1 h0]; rfl
/-- Old blocks stand but for the map. -/
theorem Wm.fr {X : Nat → Prop} {w w' : World} {mb N : Nat} {D : DataW Unit} (h : Wm w mb D N) (hF : Fr X w w') (hX : ¬ X mb) : Wm w' mb D N := by
  have hlt := h.own.lt
  obtain ⟨es, clock, h1, h2, h3⟩ := h.own
  exact ⟨⟨es, clock, by rw [hF.block mb hlt hX]; exact h1, h2, h3⟩, h.key⟩
theorem Fr.turned {X : Nat → Prop} {a w w' : World} {mb : Nat} (h : Fr X a w) (hX : X mb ∨ a.heap.size ≤ mb) (ht : w.grownBy w' (some mb)) : Fr X a w' :=
  h.trans (Y := One mb) ⟨ht.os, ht.tape, ht.output, ht.size, fun k hk hx => ht.block k hk (fun e => hx (by cases e; rfl))⟩ fun k hk e => by
    have e : k = mb := e
    subst e
    rcases hX with h | h
    · exact h
    · omega

/-! the sets -/
def uc (xs : List Nat) : Array Value := (xs.map fun (x : Nat) => Value.int .u32 (x : Int)).toArray
theorem uc_get {xs : List Nat} {i : Nat} (h : i < xs.length) : (uc xs)[i]? = some (.int .u32 ((inN xs i : Nat) : Int)) := by
  simp [uc, h, inN_eq h]
theorem uc_set {xs : List Nat} {i y : Nat} : (uc xs).setIfInBounds i (.int .u32 (y : Int)) = uc (xs.set i y) := by
  simp [uc, List.map_set]
theorem uc_size (xs : List Nat) : (uc xs).size = xs.length := by simp [uc]
theorem uc_made (n : Nat) : madeCells #[.int .u32 0] n = uc (List.replicate n 0) := by
  apply Array.toList_inj.1
  rw [toList_madeCells_one]; simp [uc]
theorem ul_of {w : World} {b : Nat} {xs : List Nat} (h : Op.At w b (uc xs)) : Ul w (some ⟨b, 0, none⟩) xs :=
  ⟨fun _ => ⟨b, rfl, h.lt, fun i hi => by rw [h.c i _ (uc_get hi), inN_eq hi]⟩⟩
theorem at_fr {X : Nat → Prop} {w w' : World} {b : Nat} {cs : Array Value} (h : Op.At w b cs) (hF : Fr X w w') (hX : ¬ X b) : Op.At w' b cs :=
  ⟨fun j v e => by rw [hF.cell h.lt hX]; exact h.c j v e, fun j => by rw [hF.frozen h.lt hX]; exact h.f j, Nat.lt_of_lt_of_le h.lt hF.size⟩

/-! the blocks ahead -/
/-- The first k blocks' lists lie in memory. -/
structure L1 (w wr : World) (ao : Option Addr) (cap : Nat) (ps : List Bk) (bA mb k : Nat) (vs : Array Value) (D : DataW Unit) : Prop where
  b : Below w.heap.size w wr
  box : Op.At wr w.heap.size #[.slice ao ps.length cap]
  hA : w.heap.size < bA
  hm : bA < mb
  va : Op.At wr bA vs
  len : vs.size = ps.length
  done : ∀ i, i < k → ∃ a c, vs[i]? = some (.slice a (aheadL ps (i : Int)).length c) ∧ Il wr (mb + 1) a (aheadL ps (i : Int))
  map : Wm wr mb D ps.length
  has : ∀ n : Nat, Maps.has D (kn n) = true ↔ n < k
  sz : Maps.size D ≤ k
theorem L1.start {w w1 : World} {ao : Option Addr} {cap : Nat} {ps : List Bk} (hb : Below w.heap.size w w1) (hx : Op.At w1 w.heap.size #[.slice ao ps.length cap]) (t : TypeId) :
    L1 w ((w1.alloc (.cells (madeCells #[.slice none 0 0] ps.length) t)).alloc (.map #[] 0)) ao cap ps w1.heap.size (w1.heap.size + 1) 0 (madeCells #[.slice none 0 0] ps.length) (.map []) := by
  have e1 : (w1.alloc (.cells (madeCells #[.slice none 0 0] ps.length) t)).heap.size = w1.heap.size + 1 := by simp
  refine ⟨(hb.alloc hb.size _).alloc (by have := hb.size; simp; omega) _, (hx.alloc _).alloc _, hx.lt, by omega, (Op.At.new w1 _ t).alloc _, size_madeCells _ _, fun i hi => by omega, ⟨?_, fun l hl => by cases hl⟩, fun n => ⟨fun h => (by cases h), fun h => (by omega)⟩, Nat.le_refl _⟩
  have := World.ownsMap_made (w1.alloc (.cells (madeCells #[.slice none 0 0] ps.length) t)) Tryz.prog 3 (unitElem (H := Unit))
  rw [e1] at this
  exact this
/-- A block's list is put in, and the block into the list of work. -/
theorem L1.step {w wr w2 w4 : World} {ao a : Option Addr} {cap c k bA mb m : Nat} {ps : List Bk} {vs : Array Value} {D : DataW Unit} (h : L1 w wr ao cap ps bA mb k vs D) (hk : k < ps.length)
    (hI : Il w2 wr.heap.size a (aheadL ps (k : Int))) (hb : Below wr.heap.size wr w2) (ho : w4.ownsMap Tryz.prog 3 (unitElem (H := Unit)) mb m (D.put (kn k) (.agg [])))
    (hg : (w2.setCell ⟨bA, k, none⟩ (.slice a (aheadL ps (k : Int)).length c)).grownBy w4 (some mb)) :
    L1 w w4 ao cap ps bA mb (k + 1) (vs.setIfInBounds k (.slice a (aheadL ps (k : Int)).length c)) (D.put (kn k) (.agg [])) := by
  have hml := h.map.own.lt
  have hA := h.hA
  have hmm := h.hm
  have hAl := h.va.lt
  have f1 : Fr (fun j => j = bA ∨ j = mb) wr w4 := Fr.turned ((Fr.of hb).setCell (Or.inr (Or.inl rfl)) k _) (Or.inl (Or.inr rfl)) hg
  have f2 : Fr (One mb) (w2.setCell ⟨bA, k, none⟩ (.slice a (aheadL ps (k : Int)).length c)) w4 := Fr.turned (Fr.refl _ _) (Or.inl rfl) hg
  have f3 : Fr (fun j => j = bA ∨ j = mb) w2 w4 := Fr.turned ((Fr.refl _ _).setCell (Or.inr (Or.inl rfl)) k _) (Or.inl (Or.inr rfl)) hg
  refine ⟨h.b.trans (f1.below h.b.size fun j hj e => ?_), at_fr h.box f1 (fun e => ?_), hA, hmm, ?_, by rw [Array.size_setIfInBounds]; exact h.len, fun i hi => ?_, h.map.put hk ho, fun n => ?_, ?_⟩
  · have := h.b.size
    rcases e with e | e <;> omega
  · rcases e with e | e <;> omega
  · refine at_fr ?_ f2 (fun e => ?_)
    · exact (h.va.below hb hAl).set (by rw [h.len]; exact hk) _
    · have e : bA = mb := e
      omega
  · by_cases e : i = k
    · subst e
      refine ⟨a, c, by simp [h.len, hk], ?_⟩
      refine (hI.low (by omega : mb + 1 ≤ wr.heap.size)).fr f3 fun b hb' _ e => ?_
      rcases e with e | e <;> omega
    · obtain ⟨a', c', h1, h2⟩ := h.done i (by omega)
      refine ⟨a', c', by rw [Array.getElem?_setIfInBounds_ne (Ne.symm e)]; exact h1, h2.fr f1 fun b hb' _ e => ?_⟩
      rcases e with e | e <;> omega
  · rw [has_put h.map.isMap, h.has n]; omega
  · have := size_put_le h.map.tidy k
    have := h.sz
    omega
/-- Once they all lie there: the sets, the list of work, under way. -/
structure L2 (wA wr : World) (ps : List Bk) (mb bI : Nat) (xs : List Nat) (D : DataW Unit) : Prop where
  fr : Fr (One mb) wA wr
  hI : wA.heap.size ≤ bI
  hm : mb < wA.heap.size
  u : Op.At wr bI (uc xs)
  map : Wm wr mb D ps.length
  so : So (PB ps) xs
  rise : Rise (PB ps) xs
theorem L2.xl {wA wr : World} {ps : List Bk} {mb bI : Nat} {xs : List Nat} {D : DataW Unit} (h : L2 wA wr ps mb bI xs D) : xs.length = ps.length := by rw [h.so.len]; simp
theorem L2.go {wA wr w' : World} {ps : List Bk} {mb bI : Nat} {xs : List Nat} {D : DataW Unit} (h : L2 wA wr ps mb bI xs D) (hb : Below wr.heap.size wr w') : L2 wA w' ps mb bI xs D :=
  ⟨h.fr.then hb, h.hI, h.hm, h.u.below hb h.u.lt, h.map.kept hb, h.so, h.rise⟩
theorem L2.turn {wA wr w' : World} {ps : List Bk} {mb bI : Nat} {xs : List Nat} {D D' : DataW Unit} (h : L2 wA wr ps mb bI xs D) (hg : wr.grownBy w' (some mb)) (hM : Wm w' mb D' ps.length) : L2 wA w' ps mb bI xs D' :=
  ⟨Fr.turned h.fr (Or.inl rfl) hg, h.hI, h.hm, at_fr h.u (Fr.turned (X := One mb) (Fr.refl _ _) (Or.inl rfl) hg) (fun e => by
    have e : bI = mb := e
    have := h.hI; have := h.hm; omega), hM, h.so, h.rise⟩
theorem L2.set {wA wr : World} {ps : List Bk} {mb bI g : Nat} {xs : List Nat} {D : DataW Unit} (h : L2 wA wr ps mb bI xs D) (hs : ∀ (i : Nat) k, (PB ps)[i]? = some k → SmallB k) (hg : g < ps.length) : L2 wA (wr.setCell ⟨bI, g, none⟩ (.int .u32 ((intoN (bOf ps[g]) xs : Nat) : Int))) ps mb bI (xs.set g (intoN (bOf ps[g]) xs)) D := by
  have hx := h.xl
  have hI := h.hI
  have hm := h.hm
  refine ⟨h.fr.setCell (Or.inl hI) _ _, hI, hm, ?_, ⟨h.map.own.setCell (fun e => ?_) _, h.map.key⟩, h.so.new (pb_at hg) (hs g _ (pb_at hg)), h.rise.set hs h.so.fit (by omega) (pb_at hg)⟩
  · rw [← uc_set]
    exact h.u.set (by rw [uc_size]; omega) _
  · have e : mb = bI := e
    omega
theorem L2.start {wA : World} {ps : List Bk} {mb : Nat} {D : DataW Unit} (hm : Wm wA mb D ps.length) (t : TypeId) : L2 wA (wA.alloc (.cells (madeCells #[.int .u32 0] ps.length) t)) ps mb wA.heap.size (List.replicate ps.length 0) D := by
  have hl := hm.own.lt
  refine ⟨(Fr.refl _ _).alloc _, Nat.le_refl _, hl, ?_, hm.kept (below_al _), ?_, Rise.init _ _⟩
  · rw [uc_made]; exact Op.At.new _ _ _
  · have := So.init (PB ps)
    simpa using this
/-- Whatever turns to a block is ahead of it. -/
theorem ahead_of {ps : List Bk} (hc : ckP ps = 0) {g j : Nat} {k' : B} (hg : g < ps.length) (hk : (PB ps)[j]? = some k') (hs : g ∈ k'.e.succ) : (j : Int) ∈ aheadL ps (g : Int) := by
  rw [List.getElem?_map, Option.map_eq_some_iff] at hk
  obtain ⟨x, hx, rfl⟩ := hk
  obtain ⟨hj, e⟩ := List.getElem?_eq_some_iff.1 hx
  have hm := List.mem_of_getElem? hx
  rw [succ_turn x ⟨_, end_of (ck_blocks hc x hm)⟩] at hs
  have hkn : knB ps (g : Int) = true := by
    unfold knB
    simp only [Bool.and_eq_true, decide_eq_true_eq]
    exact ⟨⟨by omega, by omega⟩, hc⟩
  unfold Fl.aheadL aheadTo
  rw [if_pos hkn]
  simp only [List.mem_map, List.mem_filter, List.mem_range]
  exact ⟨j, ⟨hj, by rw [hx]; simpa using hs⟩, rfl⟩
theorem ahead_lt {ps : List Bk} {g z : Int} (h : z ∈ aheadL ps g) : 0 ≤ z ∧ z < ps.length := by
  unfold Fl.aheadL at h
  split at h
  · unfold aheadTo at h
    simp only [List.mem_map, List.mem_filter, List.mem_range] at h
    obtain ⟨i, ⟨hi, _⟩, rfl⟩ := h
    omega
  · simp at h
theorem ahead_le (ps : List Bk) (g : Int) : (aheadL ps g).length ≤ ps.length := by
  unfold Fl.aheadL
  split
  · exact aheadTo_len _ _ _
  · simp
theorem reach_pos {ps : List Bk} (hc : ckP ps = 0) : 0 < (reachI ps).length := by
  have hG := good_of hc
  have hp := hG.pos
  have hk : knB ps 0 = true := by
    unfold knB
    simp only [Bool.and_eq_true, decide_eq_true_eq]
    exact ⟨⟨by omega, by omega⟩, hc⟩
  unfold reachI
  rw [if_pos hk, List.length_map]
  refine List.length_pos_of_mem (a := 0) ?_
  simp only [Fw.reachL, List.mem_filter, List.mem_range, Bool.or_eq_true, beq_iff_eq]
  exact ⟨hp, by simp⟩
theorem reach_no {ps : List Bk} (hc : ckP ps ≠ 0) : reachI ps = [] := by
  have hk : knB ps 0 = false := by
    unfold knB
    simp [hc]
  unfold reachI
  rw [hk]; rfl
end Go.Proofs.YtddcndlogoajkaaGreatDoor.L8.Li
