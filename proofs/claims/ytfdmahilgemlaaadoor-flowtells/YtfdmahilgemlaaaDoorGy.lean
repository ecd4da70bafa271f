/- Rings under way: what is found in the map, and the lists that are made of it. Conditions: the program lies in memory. -/
import Derived.Test.YtfdmahilgemlaaaDoorGw
namespace Go.Proofs.YtfdmahilgemlaaaDoor.Fl
open Go.ChangeShapes Go.WideShapes Go.ChangeAt Go.RowKit Go.Maps
open _root_.Go.Proofs.YtfdmahilgemlaaaDoor.So _root_.Go.Proofs.YtfdmahilgemlaaaDoor.Ss _root_.Go.Proofs.YtfdmahilgemlaaaDoor.Op _root_.Go.Proofs.YtfdmahilgemlaaaDoor.Fw
set_option maxRecDepth 20000

noncomputable def ringsI (ps : List Bk) : List (List Int) := if knB ps 0 then (ringsTo (tB ps) ps.length ps.length).map fun l => l.map fun (j : Nat) => (j : Int) else []
/-- A list of lists of numbers in memory. -/
structure Ll (w : World) (B : Nat) (a : Option Addr) (xss : List (List Int)) : Prop where
  is : 0 < xss.length → ∃ b, a = some ⟨b, 0, none⟩ ∧ B ≤ b ∧ b < w.heap.size ∧ ∀ (i : Nat) (h : i < xss.length), ∃ a' c, w.cell? ⟨b, i, none⟩ = some (.slice a' xss[i].length c) ∧ Il w B a' xss[i]
def GotL (w w' : World) (v : Value) (xss : List (List Int)) : Prop := ∃ a c, v = .slice a xss.length c ∧ Ll w' w.heap.size a xss ∧ Below w.heap.size w w'
theorem Ll.nil (w : World) (B : Nat) (a : Option Addr) : Ll w B a [] := ⟨fun h => by simp at h⟩
/-- The searches under way: those of the first k blocks are done. -/
structure Lp (w wr : World) (bp bm mb : Nat) (ao : Option Addr) (cap : Nat) (ps : List Bk) (k : Nat) (L : List (Nat × Nat)) : Prop where
  two : Two wr bp bm mb ao cap ps
  m : Mp wr mb L
  b : Below w.heap.size w wr
  box : wr.cell? ⟨w.heap.size, 0, none⟩ = some (.slice ao ps.length cap)
  hb : w.heap.size < mb
  hw : w.heap.size < wr.heap.size
  yes : ∀ x, x < k → ∀ z, (x, z) ∈ L ↔ Fw.Way (tB ps) ps.length x z
  no : ∀ x, k ≤ x → ∀ z, ¬ (x, z) ∈ L
  len : L.length ≤ k * 128
theorem Lp.step {w wr w' : World} {bp bm mb : Nat} {ao : Option Addr} {cap : Nat} {ps : List Bk} {k : Nat} {L L' : List (Nat × Nat)} (h : Lp w wr bp bm mb ao cap ps k L) (hP : PAt w ao ps) (hle : ps.length ≤ 128) (hM : Mp w' mb L') (hS : Srch ps k L L') (hF : Fr (One mb) wr w') : Lp w w' bp bm mb ao cap ps (k + 1) L' := by
  have hb' : Below w.heap.size w w' := h.b.trans (hF.below h.b.size fun q hq e => by have : q = mb := e; have := h.hb; omega)
  refine ⟨⟨?_, ?_, ⟨Nat.lt_of_lt_of_le h.two.lp.1 hF.size, h.two.lp.2⟩, ⟨Nat.lt_of_lt_of_le h.two.lm.1 hF.size, h.two.lm.2⟩, hP.below hb', h.two.apart⟩, hM, hb', ?_, h.hb, Nat.lt_of_lt_of_le h.hw hF.size, fun x hx z => ?_, fun x hx z hz => ?_, ?_⟩
  · rw [hF.cell h.two.lp.1 h.two.lp.2]; exact h.two.p
  · rw [hF.cell h.two.lm.1 h.two.lm.2]; exact h.two.m
  · rw [hF.cell h.hw (fun e => by have : w.heap.size = mb := e; have := h.hb; omega)]; exact h.box
  · by_cases e : x = k
    · subst e; exact hS.is z
    · rw [hS.other x z e]; exact h.yes x (by omega) z
  · have := (hS.other x z (by omega)).1 hz
    exact h.no x (by omega) z this
  · have := hS.len; have := h.len; omega
theorem ringTo_ring {ps : List Bk} {L : List (Nat × Nat)} (h : ∀ x, x < ps.length → ∀ z, (x, z) ∈ L ↔ Fw.Way (tB ps) ps.length x z) {i : Nat} (hi : i < ps.length) : ringTo L i ps.length = (ringL (tB ps) ps.length i).map fun (j : Nat) => (j : Int) := by
  unfold ringTo ringL
  congr 1
  refine List.filter_congr fun j hj => ?_
  rw [Bool.eq_iff_iff]
  simp only [Bool.and_eq_true, decide_eq_true_eq]
  rw [h i hi, h j (List.mem_range.1 hj), wB_iff, wB_iff]
theorem Il.grown {w w' : World} {B : Nat} {a : Option Addr} {xs : List Int} {row : Option Nat} (h : Il w B a xs) (hg : w.grownBy w' row) (hr : ∀ b f, a = some ⟨b, f, none⟩ → row ≠ some b) : Il w' B a xs := by
  refine ⟨fun h0 => ?_⟩
  obtain ⟨b, e, hB, hlt, hc⟩ := h.is h0
  exact ⟨b, e, hB, Nat.lt_of_lt_of_le hlt hg.size, fun i hi => by rw [World.cell?_of_block (w := w) (hg.block b hlt fun e' => hr b 0 e e'.symm)]; exact hc i hi⟩
/-- A ring in memory, with the block that told it. -/
structure El (w wr : World) (L : List (Nat × Nat)) (n : Nat) (v : Value) (e : Sg.Rg × Nat) : Prop where
  len : e.1.n = (ringTo L e.2 n).length
  pos : 0 < e.1.n
  lo : w.heap.size ≤ e.1.q
  lt : e.1.q < wr.heap.size
  il : Il wr w.heap.size (some ⟨e.1.q, 0, none⟩) (ringTo L e.2 n)
  ne : v.ownBlock ≠ some e.1.q
  on : (e.2, e.2) ∈ L
  hn : e.2 < n
/-- The list of rings under way. -/
structure Rl (w wr : World) (mb : Nat) (ao : Option Addr) (cap : Nat) (L : List (Nat × Nat)) (n k : Nat) (v : Value) (es : List (Sg.Rg × Nat)) : Prop where
  row : wr.ownsRow (w.heap.size + 1) 28 1 v es.length (es.map fun e => Value.slice (some ⟨e.1.q, 0, none⟩) e.1.n e.1.c)
  b : Below w.heap.size w wr
  m : Mp wr mb L
  box : wr.cell? ⟨w.heap.size, 0, none⟩ = some (.slice ao n cap)
  hw : w.heap.size < wr.heap.size
  hm : w.heap.size < mb
  el : ∀ e ∈ es, El w wr L n v e
  idx : es.map (·.2) = (List.range k).filter fun i => decide ((i, i) ∈ L)
  nil : es = [] → v = .slice none 0 0
theorem Rl.go {w wr w' : World} {mb : Nat} {ao : Option Addr} {cap : Nat} {L : List (Nat × Nat)} {n k : Nat} {v : Value} {es : List (Sg.Rg × Nat)} (h : Rl w wr mb ao cap L n k v es) (hb : Below wr.heap.size wr w') : Rl w w' mb ao cap L n k v es :=
  ⟨row_below' h.row hb, h.b.trans (hb.mono h.b.size), h.m.kept hb, by rw [World.cell?_of_block (w := wr) (hb.block _ h.hw)]; exact h.box, Nat.lt_of_lt_of_le h.hw hb.size, h.hm, fun e he => by
    obtain ⟨e1, e2, e3, e4, e5, e6, e7, e8⟩ := h.el e he
    exact ⟨e1, e2, e3, Nat.lt_of_lt_of_le e4 hb.size, e5.below hb, e6, e7, e8⟩, h.idx, h.nil⟩
theorem Rl.skip {w wr : World} {mb : Nat} {ao : Option Addr} {cap : Nat} {L : List (Nat × Nat)} {n k : Nat} {v : Value} {es : List (Sg.Rg × Nat)} (h : Rl w wr mb ao cap L n k v es) (hk : ¬ (k, k) ∈ L) : Rl w wr mb ao cap L n (k + 1) v es :=
  ⟨h.row, h.b, h.m, h.box, h.hw, h.hm, h.el, by rw [h.idx, List.range_succ, List.filter_append]; simp [hk], h.nil⟩
theorem Rl.put {w wr w2 w3 : World} {mb : Nat} {ao : Option Addr} {cap : Nat} {L : List (Nat × Nat)} {n k : Nat} {v : Value} {es : List (Sg.Rg × Nat)} {b c g cp : Nat} {o : Obj} (h : Rl w wr mb ao cap L n k v es) (hk : (k, k) ∈ L) (hkn : k < n)
    (hb : Below wr.heap.size wr w2) (hI : Il w2 wr.heap.size (some ⟨b, 0, none⟩) (ringTo L k n)) (hpos : 0 < (ringTo L k n).length)
    (ho : w3.ownsRow (w.heap.size + 1) 28 1 (.slice (some ⟨g, 0, none⟩) (es.length + 1) cp) (es.length + 1) (es.map (fun e => Value.slice (some ⟨e.1.q, 0, none⟩) e.1.n e.1.c) ++ [.slice (some ⟨b, 0, none⟩) (ringTo L k n).length c]))
    (hg : (w2.alloc o).grownBy w3 v.ownBlock) (hat : v.ownBlock = some g ∨ g = w2.heap.size + 1) (hmv : v.ownBlock ≠ some mb) :
    Rl w w3 mb ao cap L n (k + 1) (.slice (some ⟨g, 0, none⟩) (es.length + 1) cp) (es ++ [(⟨b, (ringTo L k n).length, c⟩, k)]) := by
  have h2 := h.go hb
  obtain ⟨b', eb, hb1, hb2, _⟩ := hI.is hpos
  injection eb with eb
  injection eb with eb
  subst eb
  have hrow : ∀ q, v.ownBlock = some q → q < wr.heap.size := fun q hq => (h.row.lt q hq).2
  have hs2 := h2.b.size
  have hgz := hg.size
  have hb3 : Below w.heap.size w w3 := (h2.b.alloc hs2 o).grown hg (by simp; omega) (fun q hq => by have := (h.row.lt q hq).1; omega)
  have hEl : ∀ e : Sg.Rg × Nat, El w w2 L n v e → El w w3 L n (.slice (some ⟨g, 0, none⟩) (es.length + 1) cp) e := fun e he => by
    obtain ⟨e1, e2, e3, e4, e5, e6, e7, e8⟩ := he
    refine ⟨e1, e2, e3, by simp at hgz; omega, ?_, ?_, e7, e8⟩
    · refine (e5.below ((Below.refl _ _).alloc (Nat.le_refl _) o)).grown hg fun b f eb => ?_
      injection eb with eb
      injection eb with eb
      subst eb; exact e6
    · simp only [Value.ownBlock, ne_eq, Option.some.injEq]
      rintro rfl
      rcases hat with hat | hat
      · exact e6 hat
      · omega
  refine ⟨?_, hb3, ⟨(h2.m.own.alloc o).kept hg (fun e => hmv e.symm), h2.m.sm⟩, ?_, by simp at hgz; omega, h.hm, fun e he => ?_, ?_, fun he => by simp at he⟩
  · rw [List.length_append, List.map_append]; exact ho
  · rw [World.cell?_of_block (w := w2.alloc o) (hg.block _ (by simp; have := h2.hw; omega) fun e => ?_)]
    · have := (bcell ((Below.refl _ w2).alloc (Nat.le_refl _) o)).1 w.heap.size 0 h2.hw
      rw [this]; exact h2.box
    · have hlt : w.heap.size + 1 ≤ w.heap.size := (h.row.lt _ e.symm).1
      omega
  · rcases List.mem_append.1 he with he | he
    · exact hEl e (h2.el e he)
    · simp only [List.mem_singleton] at he
      subst he
      refine hEl _ ⟨rfl, hpos, by have := h.b.size; show _ ≤ b; omega, hb2, hI.low h.b.size, fun e => ?_, hk, hkn⟩
      have := hrow _ e
      simp at this; omega
  · rw [List.map_append, h.idx, List.range_succ, List.filter_append]
    simp [hk]
theorem row_map {w : World} {B mb : Nat} {e : TypeId} {z n : Nat} {v : Value} {xs : List Value} {L : List (Nat × Nat)} (h : w.ownsRow B e z v n xs) (g : Mp w mb L) : v.ownBlock ≠ some mb := by
  obtain ⟨es, clock, g1, _⟩ := g.own
  rcases h.2 with ⟨rfl, _⟩ | ⟨b, cap, cur, rfl, _, h3, _⟩
  · simp [Value.ownBlock]
  · simp only [Value.ownBlock, ne_eq, Option.some.injEq]
    rintro rfl; rw [h3] at g1; simp at g1
/-- The number that a ring begins with. -/
def keyG (w : World) (r : Sg.Rg) : Int := match w.cell? ⟨r.q, 0, none⟩ with | some (.int _ x) => x | _ => 0
/-- The rings, put into order. -/
theorem rings_done {w wr w' : World} {mb : Nat} {ao : Option Addr} {cap : Nat} {L : List (Nat × Nat)} {ps : List Bk} {g cp k' : Nat} {es : List (Sg.Rg × Nat)} {G : Nat → Sg.Rg} (h : Rl w wr mb ao cap L ps.length ps.length (.slice (some ⟨g, 0, none⟩) es.length cp) es)
    (hL : ∀ x, x < ps.length → ∀ z, (x, z) ∈ L ↔ Fw.Way (tB ps) ps.length x z) (hR : Sg.Rised (keyG wr) g es.length (fun k => ((es[k]?).map (·.1)).getD ⟨0, 0, 0⟩) wr w' k' G) :
    k' = ((ringsTo (tB ps) ps.length ps.length).map fun l => l.map fun (j : Nat) => (j : Int)).length ∧ Ll w' w.heap.size (some ⟨g, 0, none⟩) ((ringsTo (tB ps) ps.length ps.length).map fun l => l.map fun (j : Nat) => (j : Int)) ∧ Below w.heap.size w w' := by
  have hat : ∀ j (hj : j < es.length), ((es[j]?).map (·.1)).getD ⟨0, 0, 0⟩ = es[j].1 := fun j hj => by rw [List.getElem?_eq_getElem hj]; rfl
  have key : ∀ e ∈ es, ∃ m : Nat, m < ps.length ∧ headB (tB ps) ps.length m = true ∧ keyG wr e.1 = m ∧ ringTo L e.2 ps.length = (ringL (tB ps) ps.length m).map (fun (j : Nat) => (j : Int)) ∧ (ringL (tB ps) ps.length e.2).head? = some m := fun e he => by
    obtain ⟨e1, e2, e3, e4, e5, e6, e7, e8⟩ := h.el e he
    have hw : wB (tB ps) ps.length e.2 e.2 = true := wB_iff.2 ((hL e.2 e8 e.2).1 e7)
    obtain ⟨m, m1, m2, m3, m4⟩ := ring_head e8 hw
    refine ⟨m, m2, m3, ?_, by rw [ringTo_ring hL e8, m4], m1⟩
    obtain ⟨b, eb, _, _, hc⟩ := e5.is (by omega)
    injection eb with eb
    injection eb with eb
    have hc0 := hc 0 (by omega)
    rw [← eb] at hc0
    unfold keyG
    rw [hc0]
    simp only [ringTo_ring hL e8, List.getElem_map]
    have hne : 0 < (ringL (tB ps) ps.length e.2).length := by rw [e1, ringTo_ring hL e8, List.length_map] at e2; exact e2
    congr 1
    rw [List.head?_eq_getElem?, List.getElem?_eq_getElem hne] at m1
    injection m1
  have hb' : Below w.heap.size w w' := h.b.trans (hR.fr.below h.b.size fun q hq e => by
    have : q = g := e
    have := (h.row.lt g rfl).1
    omega)
  have got : ∀ i, i < k' → ∃ j, ∃ hj : j < es.length, G i = es[j].1 := fun i hi => by
    obtain ⟨j, hj, e⟩ := hR.of i hi
    exact ⟨j, hj, e.trans (hat j hj)⟩
  have told := rings_told (t := tB ps) (n := ps.length) (k := k') (key := fun i => keyG wr (G i)) (lst := fun i => (ringL (tB ps) ps.length (keyG wr (G i)).toNat).map fun (j : Nat) => (j : Int))
    (fun i hi => by
      obtain ⟨j, hj, e⟩ := got i hi
      obtain ⟨m, m1, m2, m3, m4, _⟩ := key es[j] (List.getElem_mem hj)
      exact ⟨m, m1, m2, by rw [e]; exact m3, by rw [e, m3]; simp⟩)
    (fun i j hij hj => hR.rise i j hij hj)
    (fun m hm hh => by
      obtain ⟨hw, hhd⟩ := head_self hm hh
      have hml : (m, m) ∈ L := (hL m hm m).2 (wB_iff.1 hw)
      have hmi : m ∈ es.map (·.2) := by rw [h.idx, List.mem_filter]; exact ⟨List.mem_range.2 hm, by simp [hml]⟩
      obtain ⟨e, he, rfl⟩ := List.mem_map.1 hmi
      obtain ⟨j, hj, ej⟩ := List.getElem_of_mem he
      obtain ⟨i, hi, ei⟩ := hR.all j hj
      refine ⟨i, hi, ?_⟩
      show keyG wr (G i) = _
      rw [ei, hat j hj, ej]
      obtain ⟨m', _, _, m3, _, m5⟩ := key e he
      rw [m3]
      rw [hhd] at m5
      injection m5 with m5
      rw [m5])
  rw [← told]
  refine ⟨by simp, ⟨fun _ => ⟨g, rfl, by have := (h.row.lt g rfl).1; omega, Nat.lt_of_lt_of_le (h.row.lt g rfl).2 hR.fr.size, fun i hi => ?_⟩⟩, hb'⟩
  have hi' : i < k' := by simpa using hi
  obtain ⟨j, hj, e⟩ := got i hi'
  obtain ⟨m, m1, m2, m3, m4, _⟩ := key es[j] (List.getElem_mem hj)
  obtain ⟨e1, e2, e3, e4, e5, e6, e7, e8⟩ := h.el es[j] (List.getElem_mem hj)
  have hl : ((List.range k').map fun i => (ringL (tB ps) ps.length (keyG wr (G i)).toNat).map fun (j : Nat) => (j : Int))[i] = ringTo L es[j].2 ps.length := by
    rw [List.getElem_map, List.getElem_range, e, m3, m4]; simp
  refine ⟨some ⟨(G i).q, 0, none⟩, (G i).c, ?_, ?_⟩
  · rw [hR.c i hi', hl, ← e1, e]
  · rw [hl, e]
    refine ⟨fun h0 => ?_⟩
    obtain ⟨b, eb, hB, hlt, hc⟩ := e5.is h0
    have hq : es[j].1.q = b := by injection eb with eb; injection eb
    refine ⟨b, eb, hB, Nat.lt_of_lt_of_le hlt hR.fr.size, fun i hi => ?_⟩
    rw [hR.fr.cell hlt fun e' => e6 (by rw [hq]; have : b = g := e'; rw [this]; rfl)]
    exact hc i hi
end Go.Proofs.YtfdmahilgemlaaaDoor.Fl
