/- What the search for the least sets holds in memory: the blocks ahead of each, the list of work, the sets. Conditions: none. -/
import Derived.Test.YtddcndlogoajkaaDoorQVc
import Derived.Test.YtddcndlogoajkaaDoorQGv
import Derived.Test.YtddcndlogoajkaaDoorQCm
import Derived.Deep.OwnRows
namespace Go.Proofs.YtddcndlogoajkaaDoor.L8.Li
open Go.ChangeShapes Go.WideShapes Go.ChangeAt Go.RowKit Go.Maps
open _root_.Go.Proofs.YtddcndlogoajkaaDoor.L8.So _root_.Go.Proofs.YtddcndlogoajkaaDoor.L8.Op _root_.Go.Proofs.YtddcndlogoajkaaDoor.L8.Fl _root_.Go.Proofs.YtddcndlogoajkaaDoor.L8.Lv
set_option maxRecDepth 20000

/-! the map -/
theorem Wm.isMap {w : World} {mb N : Nat} {D : DataW Unit} (h : Wm w mb D N) : IsMap D := h.own.isMap
theorem Wm.tidy {w : World} {mb N : Nat} {D : DataW Unit} (h : Wm w mb D N) : Tidy D := h.own.tidy law3
theorem has_put {D : DataW Unit} (hD : IsMap D) (n j : Nat) : Maps.has (D.put (kn n) (.agg [])) (kn j) = true ↔ j = n ∨ Maps.has D (kn j) = true := by
  by_cases e : j = n
  · subst e
    simp [has_put_same hD (kn_key j)]
  · rw [has_put_other (fun h => e (kn_inj h))]
    simp [e]
theorem has_del {D : DataW Unit} (n j : Nat) : Maps.has (D.del (kn n)) (kn j) = true ↔ j ≠ n ∧ Maps.has D (kn j) = true := by
  by_cases e : j = n
  · subst e
    simp [has_del_same]
  · rw [has_del_other (fun h => e (kn_inj h))]
    simp [e]
theorem Wm.put {w w' : World} {mb N n m : Nat} {D : DataW Unit} (h : Wm w mb D N) (hn : n < N) (ho : w'.ownsMap Tryd.prog 3 (unitElem (H := Unit)) mb m (D.put (kn n) (.agg []))) : Wm w' mb (D.put (kn n) (.agg [])) N :=
  ⟨tight ho, fun l hl => by
    by_cases e : l = kn n
    · exact ⟨n, hn, e⟩
    · rw [has_put_other e] at hl
      exact h.key l hl⟩
theorem Wm.del {w w' : World} {mb N n m : Nat} {D : DataW Unit} (h : Wm w mb D N) (ho : w'.ownsMap Tryd.prog 3 (unitElem (H := Unit)) mb m (D.del (kn n))) : Wm w' mb (D.del (kn n)) N :=
  ⟨tight ho, fun l hl => by
    by_cases e : l = kn n
    · subst e; rw [has_del_same] at hl; cases hl
    · rw [has_del_other e] at hl
      exact h.key l hl⟩
theorem size_put_le {D : DataW Unit} (h : Tidy D) (n : Nat) : Maps.size (D.put (kn n) (.agg [])) ≤ Maps.size D + 1 := by
  rw [size_put h]; split <;> omega
theorem size_del_lt {D : DataW Unit} (h : Tidy D) {n : Nat} (hn : Maps.has D (kn n) = true) : Maps.size (D.del (kn n)) + 1 = Maps.size D := by
  have := size_del (k := kn n) h
  rw [hn] at this
  simpa using this
theorem size_zero {D : DataW Unit} (h : IsMap D) (h0 : Maps.size D = 0) (l : Lit) : Maps.has D l = false := by
  obtain ⟨es, rfl⟩ := h
  rw [size_eq] at h0
  rw [List.length_eq_zero_iff.1 h0]; rfl
/-- Old blocks stand but for the map. -/
theorem Wm.fr {X : Nat → Prop} {w w' : World} {mb N : Nat} {D : DataW Unit} (h : Wm w mb D N) (hF : Fr X w w') (hX : ¬ X mb) : Wm w' mb D N := by
  have hlt := h.own.lt
  obtain ⟨es, clock, h1, h2, h3⟩ := h.own
  exact ⟨⟨es, clock, by rw [hF.block mb hlt hX]; exact h1, h2, h3⟩, h.key⟩
theorem Fr.turned {X : Nat → Prop} {a w w' : World} {mb : Nat} (h : Fr X a w) (hX : X mb ∨ a.heap.size ≤ mb) (ht : w.grownBy w' (some mb)) : Fr X a w' :=
  h.trans (Y := One mb) ⟨ht.os, ht.tape, ht.output, ht.size, fun k hk hx => ht.block k hk (fun e => hx (by cases e; rfl))⟩ fun k hk e => by
    have e : k = mb := e
    subst e
    rcases hX with h | h
    · exact h
    · omega

/-! the sets -/
def uc (xs : List Nat) : Array Value := (xs.map fun (x : Nat) => Value.int .u32 (x : Int)).toArray
theorem uc_get {xs : List Nat} {i : Nat} (h : i < xs.length) : (uc xs)[i]? = some (.int .u32 ((inN xs i : Nat) : Int)) := by
  simp [uc, h, inN_eq h]
theorem uc_set {xs : List Nat} {i y : Nat} : (uc xs).setIfInBounds i (.int .u32 (y : Int)) = uc (xs.set i y) := by
  simp [uc, List.map_set]
theorem uc_size (xs : List Nat) : (uc xs).size = xs.length := by simp [uc]
theorem uc_made (n : Nat) : madeCells #[.int .u32 0] n = uc (List.replicate n 0) := by
  apply Array.toList_inj.1
  rw [toList_madeCells_one]; simp [uc]
theorem ul_of {w : World} {b : Nat} {xs : List Nat} (h : Op.At w b (uc xs)) : Ul w (some ⟨b, 0, none⟩) xs :=
  ⟨fun _ => ⟨b, rfl, h.lt, fun i hi => by rw [h.c i _ (uc_get hi), inN_eq hi]⟩⟩
theorem at_fr {X : Nat → Prop} {w w' : World} {b : Nat} {cs : Array Value} (h : Op.At w b cs) (hF : Fr X w w') (hX : ¬ X b) : Op.At w' b cs :=
  ⟨fun j v e => by rw [hF.cell h.lt hX]; exact h.c j v e, fun j => by rw [hF.frozen h.lt hX]; exact h.f j, Nat.lt_of_lt_of_le h.lt hF.size⟩

/-! the blocks ahead -/
/-- The first k blocks' lists lie in memory. -/
structure L1 (w wr : World) (ao : Option Addr) (cap : Nat) (ps : List Bk) (bA mb k : Nat) (vs : Array Value) (D : DataW Unit) : Prop where
  b : Below w.heap.size w wr
  box : Op.At wr w.heap.size #[.slice ao ps.length cap]
  hA : w.heap.size < bA
  hm : bA < mb
  va : Op.At wr bA vs
  len : vs.size = ps.length
  done : ∀ i, i < k → ∃ a c, vs[i]? = some (.slice a (aheadL ps (i : Int)).length c) ∧ Il wr (mb + 1) a (aheadL ps (i : Int))
  map : Wm wr mb D ps.length
  has : ∀ n : Nat, Maps.has D (kn n) = true ↔ n < k
  sz : Maps.size D ≤ k
theorem L1.start {w w1 : World} {ao : Option Addr} {cap : Nat} {ps : List Bk} (hb : Below w.heap.size w w1) (hx : Op.At w1 w.heap.size #[.slice ao ps.length cap]) (t : TypeId) :
    L1 w ((w1.alloc (.cells (madeCells #[.slice none 0 0] ps.length) t)).alloc (.map #[] 0)) ao cap ps w1.heap.size (w1.heap.size + 1) 0 (madeCells #[.slice none 0 0] ps.length) (.map []) := by
  have e1 : (w1.alloc (.cells (madeCells #[.slice none 0 0] ps.length) t)).heap.size = w1.heap.size + 1 := by simp
  refine ⟨(hb.alloc hb.size _).alloc (by have := hb.size; simp; omega) _, (hx.alloc _).alloc _, hx.lt, by omega, (Op.At.new w1 _ t).alloc _, size_madeCells _ _, fun i hi => by omega, ⟨?_, fun l hl => by cases hl⟩, fun n => ⟨fun h => (by cases h), fun h => (by omega)⟩, Nat.le_refl _⟩
  have := World.ownsMap_made (w1.alloc (.cells (madeCells #[.slice none 0 0] ps.length) t)) Tryd.prog 3 (unitElem (H := Unit))
  rw [e1] at this
  exact this
/-- A block's list is put in, and the block into the list of work. -/
theorem L1.step {w wr w2 w4 : World} {ao a : Option Addr} {cap c k bA mb m : Nat} {ps : List Bk} {vs : Array Value} {D : DataW Unit} (h : L1 w wr ao cap ps bA mb k vs D) (hk : k < ps.length)
    (hI : Il w2 wr.heap.size a (aheadL ps (k : Int))) (hb : Below wr.heap.size wr w2) (ho : w4.ownsMap Tryd.prog 3 (unitElem (H := Unit)) mb m (D.put (kn k) (.agg [])))
    (hg : (w2.setCell ⟨bA, k, none⟩ (.slice a (aheadL ps (k : Int)).length c)).grownBy w4 (some mb)) :
    L1 w w4 ao cap ps bA mb (k + 1) (vs.setIfInBounds k (.slice a (aheadL ps (k : Int)).length c)) (D.put (kn k) (.agg [])) := by
  have hml := h.map.own.lt
  have hA := h.hA
  have hmm := h.hm
  have hAl := h.va.lt
  have f1 : Fr (fun j => j = bA ∨ j = mb) wr w4 := Fr.turned ((Fr.of hb).setCell (Or.inr (Or.inl rfl)) k _) (Or.inl (Or.inr rfl)) hg
  have f2 : Fr (One mb) (w2.setCell ⟨bA, k, none⟩ (.slice a (aheadL ps (k : Int)).length c)) w4 := Fr.turned (Fr.refl _ _) (Or.inl rfl) hg
  have f3 : Fr (fun j => j = bA ∨ j = mb) w2 w4 := Fr.turned ((Fr.refl _ _).setCell (Or.inr (Or.inl rfl)) k _) (Or.inl (Or.inr rfl)) hg
  refine ⟨h.b.trans (f1.below h.b.size fun j hj e => ?_), at_fr h.box f1 (fun e => ?_), hA, hmm, ?_, by rw [Array.size_setIfInBounds]; exact h.len, fun i hi => ?_, h.map.put hk ho, fun n => ?_, ?_⟩
  · have := h.b.size
    rcases e with e | e <;> omega
  · rcases e with e | e <;> omega
  · refine at_fr ?_ f2 (fun e => ?_)
    · exact (h.va.below hb hAl).set (by rw [h.len]; exact hk) _
    · have e : bA = mb := e
      omega
  · by_cases e : i = k
    · subst e
      refine ⟨a, c, by simp [h.len, hk], ?_⟩
      refine (hI.low (by omega : mb + 1 ≤ wr.heap.size)).fr f3 fun b hb' _ e => ?_
      rcases e with e | e <;> omega
    · obtain ⟨a', c', h1, h2⟩ := h.done i (by omega)
      refine ⟨a', c', by rw [Array.getElem?_setIfInBounds_ne (Ne.symm e)]; exact h1, h2.fr f1 fun b hb' _ e => ?_⟩
      rcases e with e | e <;> omega
  · rw [has_put h.map.isMap, h.has n]; omega
  · have := size_put_le h.map.tidy k
    have := h.sz
    omega
/-- Once they all lie there: the sets, the list of work, under way. -/
structure L2 (wA wr : World) (ps : List Bk) (mb bI : Nat) (xs : List Nat) (D : DataW Unit) : Prop where
  fr : Fr (One mb) wA wr
  hI : wA.heap.size ≤ bI
  hm : mb < wA.heap.size
  u : Op.At wr bI (uc xs)
  map : Wm wr mb D ps.length
  so : So (PB ps) xs
  rise : Rise (PB ps) xs
theorem L2.xl {wA wr : World} {ps : List Bk} {mb bI : Nat} {xs : List Nat} {D : DataW Unit} (h : L2 wA wr ps mb bI xs D) : xs.length = ps.length := by rw [h.so.len]; simp
theorem L2.go {wA wr w' : World} {ps : List Bk} {mb bI : Nat} {xs : List Nat} {D : DataW Unit} (h : L2 wA wr ps mb bI xs D) (hb : Below wr.heap.size wr w') : L2 wA w' ps mb bI xs D :=
  ⟨h.fr.then hb, h.hI, h.hm, h.u.below hb h.u.lt, h.map.kept hb, h.so, h.rise⟩
theorem L2.turn {wA wr w' : World} {ps : List Bk} {mb bI : Nat} {xs : List Nat} {D D' : DataW Unit} (h : L2 wA wr ps mb bI xs D) (hg : wr.grownBy w' (some mb)) (hM : Wm w' mb D' ps.length) : L2 wA w' ps mb bI xs D' :=
  ⟨Fr.turned h.fr (Or.inl rfl) hg, h.hI, h.hm, at_fr h.u (Fr.turned (X := One mb) (Fr.refl _ _) (Or.inl rfl) hg) (fun e => by
    have e : bI = mb := e
    have := h.hI; have := h.hm; omega), hM, h.so, h.rise⟩
theorem L2.set {wA wr : World} {ps : List Bk} {mb bI g : Nat} {xs : List Nat} {D : DataW Unit} (h : L2 wA wr ps mb bI xs D) (hs : ∀ (i : Nat) k, (PB ps)[i]? = some k → SmallB k) (hg : g < ps.length) : L2 wA (wr.setCell ⟨bI, g, none⟩ (.int .u32 ((intoN (bOf ps[g]) xs : Nat) : Int))) ps mb bI (xs.set g (intoN (bOf ps[g]) xs)) D := by
  have hx := h.xl
  have hI := h.hI
  have hm := h.hm
  refine ⟨h.fr.setCell (Or.inl hI) _ _, hI, hm, ?_, ⟨h.map.own.setCell (fun e => ?_) _, h.map.key⟩, h.so.new (pb_at hg) (hs g _ (pb_at hg)), h.rise.set hs h.so.fit (by omega) (pb_at hg)⟩
  · rw [← uc_set]
    exact h.u.set (by rw [uc_size]; omega) _
  · have e : mb = bI := e
    omega
theorem L2.start {wA : World} {ps : List Bk} {mb : Nat} {D : DataW Unit} (hm : Wm wA mb D ps.length) (t : TypeId) : L2 wA (wA.alloc (.cells (madeCells #[.int .u32 0] ps.length) t)) ps mb wA.heap.size (List.replicate ps.length 0) D := by
  have hl := hm.own.lt
  refine ⟨(Fr.refl _ _).alloc _, Nat.le_refl _, hl, ?_, hm.kept (below_al _), ?_, Rise.init _ _⟩
  · rw [uc_made]; exact Op.At.new _ _ _
  · have := So.init (PB ps)
    simpa using this
/-- Whatever turns to a block is ahead of it. -/
theorem ahead_of {ps : List Bk} (hc : ckP ps = 0) {g j : Nat} {k' : B} (hg : g < ps.length) (hk : (PB ps)[j]? = some k') (hs : g ∈ k'.e.succ) : (j : Int) ∈ aheadL ps (g : Int) := by
  rw [List.getElem?_map, Option.map_eq_some_iff] at hk
  obtain ⟨x, hx, rfl⟩ := hk
  obtain ⟨hj, e⟩ := List.getElem?_eq_some_iff.1 hx
  have hm := List.mem_of_getElem? hx
  rw [succ_turn x ⟨_, end_of (ck_blocks hc x hm)⟩] at hs
  have hkn : knB ps (g : Int) = true := by
    unfold knB
    simp only [Bool.and_eq_true, decide_eq_true_eq]
    exact ⟨⟨by omega, by omega⟩, hc⟩
  unfold Fl.aheadL aheadTo
  rw [if_pos hkn]
  simp only [List.mem_map, List.mem_filter, List.mem_range]
  exact ⟨j, ⟨hj, by rw [hx]; simpa using hs⟩, rfl⟩
theorem ahead_lt {ps : List Bk} {g z : Int} (h : z ∈ aheadL ps g) : 0 ≤ z ∧ z < ps.length := by
  unfold Fl.aheadL at h
  split at h
  · unfold aheadTo at h
    simp only [List.mem_map, List.mem_filter, List.mem_range] at h
    obtain ⟨i, ⟨hi, _⟩, rfl⟩ := h
    omega
  · simp at h
theorem ahead_le (ps : List Bk) (g : Int) : (aheadL ps g).length ≤ ps.length := by
  unfold Fl.aheadL
  split
  · exact aheadTo_len _ _ _
  · simp
theorem reach_pos {ps : List Bk} (hc : ckP ps = 0) : 0 < (reachI ps).length := by
  have hG := good_of hc
  have hp := hG.pos
  have hk : knB ps 0 = true := by
    unfold knB
    simp only [Bool.and_eq_true, decide_eq_true_eq]
    exact ⟨⟨by omega, by omega⟩, hc⟩
  unfold reachI
  rw [if_pos hk, List.length_map]
  refine List.length_pos_of_mem (a := 0) ?_
  simp only [Fw.reachL, List.mem_filter, List.mem_range, Bool.or_eq_true, beq_iff_eq]
  exact ⟨hp, by simp⟩
theorem reach_no {ps : List Bk} (hc : ckP ps ≠ 0) : reachI ps = [] := by
  have hk : knB ps 0 = false := by
    unfold knB
    simp [hc]
  unfold reachI
  rw [hk]; rfl
end Go.Proofs.YtddcndlogoajkaaDoor.L8.Li
