/- The calls that package table's readLines makes: the closures of a line, a fault at a word, whether a line is missing; read off the program by the walk. Conditions: as each row says. -/
import Derived.Test.YtgabnjiapkkjaaaGreatDoorSt
namespace Go.Proofs.YtgabnjiapkkjaaaGreatDoor.Tb
open Go.ChangeShapes Go.WideShapes Go.ChangeAt Go.RowKit

theorem kindL_le (l : List UInt8) : kindL l ≤ 5 := by
  unfold kindL
  repeat' split
  all_goals omega
theorem wants_some (g n c : Nat) (e : Int) (l : List UInt8) (tb hb : Nat) (w : World) (hn : 0 < n) (hN : Names w) (hG : Bnds w) (hc : w.cell? ⟨g, 1, none⟩ = some (.string ⟨l.toArray⟩)) (hg : g < w.heap.size) (hhb : hb < w.heap.size) (htb : tb < w.heap.size) :
    Calls Tryz.prog 33 #[.agg #[.slice (some ⟨g, 0, none⟩) n c, .int .i64 e], .pointer (some ⟨tb, 0, none⟩), .pointer (some ⟨hb, 0, none⟩)] w fun r w' => (∃ wg, r = .returned (.slice (some ⟨wg, 0, none⟩) (wantsK (kindL l)).length (wantsK (kindL l)).length) ∧ wg < w'.heap.size ∧ wg ≠ hb ∧ wg ≠ tb ∧ ∀ (i : Nat) K, (wantsK (kindL l))[i]? = some K → ∃ f, w'.cell? ⟨wg, i, none⟩ = some f ∧ WantAt w' hb tb f K) ∧ Below w.heap.size w w' := by
  have key : Calls Tryz.prog 33 #[.agg #[.slice (some ⟨g, 0, none⟩) n c, .int .i64 e], .pointer (some ⟨tb, 0, none⟩), .pointer (some ⟨hb, 0, none⟩)] w fun r w' => (∃ v, r = .returned v ∧ WantsAt w' hb tb v (wantsK (kindL l))) ∧ Below w.heap.size w w' := by
    have hle := kindL_le l
    by_cases h5 : kindL l = 5
    · rw [h5]; exact wants_bad g n c e l tb hb w hn hN hc hg h5 hhb htb
    · by_cases h4 : kindL l = 4
      · rw [h4]; exact wants_delay g n c e l tb hb w hn hN hG hc hg h4 hhb htb
      · exact wants_class g n c e l (kindL l) tb hb w hn hN hG hc hg rfl (by omega) hhb htb
  refine key.mono ?_
  rintro r w' ⟨⟨v, rfl, hv⟩, hb'⟩
  refine ⟨?_, hb'⟩
  rcases hv with ⟨_, hnil⟩ | ⟨wg, rfl, h1, h2, h3, h4⟩
  · exfalso
    unfold wantsK at hnil
    repeat' split at hnil
    all_goals cases hnil
  · exact ⟨wg, rfl, h1, h2, h3, h4⟩

theorem clone_any (s : ByteArray) (w : World) (hs : s.size ≤ 200000) :
    Calls Tryz.prog 54 #[.string s] w fun e w' => e = .returned (.string s) ∧ Below w.heap.size w w' := by
  have hc := Tryz.stringslite_Clone s w (by omega)
  have Hc : Hid _ := hc
  clear hc
  go_enter Tryz.func54, Tryz.ntmps54
  go_wp2_with (first | (go_at_call 75; refine Calls.mono Hc.out ?_; rintro e w' ⟨rfl, hb⟩))
  go_ret
  exact ⟨rfl, hb⟩

/-- A fault in memory. -/
def FaultAt (w : World) (q : Nat) (c a : Int) (s : ByteArray) : Prop := w.heap[q]? = some (.cells #[.int .i64 c, .int .i64 a, .string s] 60 (0, 0))

theorem fault_any (a c : Int) (s : ByteArray) (w : World) (hs : s.size ≤ 200000) :
    Calls Tryz.prog 34 #[.agg #[.int .i64 a, .string s], .int .i64 c] w fun e w' => ∃ q, e = .returned (.pointer (some ⟨q, 0, none⟩)) ∧ FaultAt w' q c a s ∧ w.heap.size ≤ q ∧ Below w.heap.size w w' := by
  go_enter Tryz.func34, Tryz.ntmps34
  go_wp2
  go_region_held3 (fun w' => w'.cell? ⟨w.heap.size, 0, none⟩ = some (.int .i64 a) ∧ w'.cell? ⟨w.heap.size, 1, none⟩ = some (.string s))
    (first | (go_keep; done) | ((try dsimp only); (repeat' apply And.intro) <;> (first | exact ((bcell hb2).1 _ _ (by simp)).trans (by simp) | exact ((look_old _ _ _ _ (by have := hb2.size; simp at this ⊢; omega)).trans (((bcell hb2).1 _ _ (by simp)).trans (by simp))))))
    (first | (go_at_call 54; refine (clone_any _ _ hs).mono ?_; rintro e w2 ⟨rfl, hb2⟩))
  go_wp2
  go_ret
  have hz := hb2.size
  refine ⟨w2.heap.size, rfl, heap_alloc_new w2 _, by simp at hz; omega, ?_⟩
  exact (((Below.refl _ w).alloc (Nat.le_refl _) _).trans (Below.mono (Below.trans (by go_grown) hb2) (by simp))).alloc (by simp at hz; omega) _

def missB (st : St) : Bool := !(st.had 0 && st.had 1 && st.had 2 && st.had 3 && st.had 4)
theorem contains_any (hb : Nat) (st : St) (w : World) (hc : ∀ k, k < 5 → w.cell? ⟨hb, k, none⟩ = some (.bool (st.had k))) :
    Calls Tryz.prog 35 #[.slice (some ⟨hb, 0, none⟩) 5 5, .bool false] w fun e w' => e = .returned (.bool (missB st)) ∧ w' = w := by
  have h := Tryz.slices_Contains (α := Bool) Value.bool (fun x y => x == y) ⟨fun x y w => by cases x <;> cases y <;> kernel_rfl, fun op a b x y w => by rw [eqGuard_at_bool]; rfl⟩ hb 0 5 5 [st.had 0, st.had 1, st.had 2, st.had 3, st.had 4] false w (by simp) (by omega) (fun j hj => by
    match j, hj with
    | 0, _ => exact hc 0 (by omega)
    | 1, _ => exact hc 1 (by omega)
    | 2, _ => exact hc 2 (by omega)
    | 3, _ => exact hc 3 (by omega)
    | 4, _ => exact hc 4 (by omega))
  refine h.mono ?_
  rintro e w' ⟨rfl, rfl⟩
  refine ⟨ret_bool ?_, rfl⟩
  unfold missB
  cases st.had 0 <;> cases st.had 1 <;> cases st.had 2 <;> cases st.had 3 <;> cases st.had 4 <;> rfl

theorem w0_call (K : Wk) (l : List UInt8) (st : St) (hb tb : Nat) (w : World) (hK : K.tag = 0) (hS : StAt w hb tb st) :
    Calls Tryz.prog 69 #[.string ⟨l.toArray⟩] w fun e w' => e = .returned (.int .i64 (K.code l st)) ∧ StAt w' hb tb (K.next l st) ∧ But hb tb w w' := by
  refine (nothing_call _ w).mono ?_
  rintro e w' ⟨rfl, rfl⟩
  refine ⟨ret_int (by simp [Wk.code, hK]), ?_, But.refl _ _ _⟩
  have : K.next l st = st := by simp [Wk.next, hK]
  rw [this]; exact hS

theorem w1_call (K : Wk) (l : List UInt8) (st : St) (hb tb c : Nat) (w : World) (hK : K.tag = 1) (ho : K.o < 5) (hS : StAt w hb tb st) (hc : w.cell? ⟨c, 0, none⟩ = some (.pointer (some ⟨hb, K.o, none⟩))) :
    Calls Tryz.prog 70 #[.string ⟨l.toArray⟩, .pointer (some ⟨c, 0, none⟩)] w fun e w' => e = .returned (.int .i64 (K.code l st)) ∧ StAt w' hb tb (K.next l st) ∧ But hb tb w w' := by
  cases hh : st.had K.o
  · refine (once_no _ c ⟨hb, K.o, none⟩ w hc (by rw [hS.h K.o ho, hh]) (hS.hf K.o ho)).mono ?_
    rintro e w' ⟨rfl, rfl⟩
    refine ⟨ret_int (by simp [Wk.code, hK, hh]), ?_, But.setCell _ (.inl rfl)⟩
    have : K.next l st = st.have K.o := by simp [Wk.next, hK, hh]
    rw [this]; exact hS.once K.o ho
  · refine (once_yes _ c ⟨hb, K.o, none⟩ w hc (by rw [hS.h K.o ho, hh])).mono ?_
    rintro e w' ⟨rfl, rfl⟩
    refine ⟨ret_int (by simp [Wk.code, hK, hh]), ?_, But.refl _ _ _⟩
    have : K.next l st = st := by simp [Wk.next, hK, hh]
    rw [this]; exact hS

theorem w3_call (K : Wk) (l : List UInt8) (st : St) (hb tb c : Nat) (w : World) (hK : K.tag = 3) (hS : StAt w hb tb st) (hc : w.cell? ⟨c, 0, none⟩ = some (.string ⟨K.s.toArray⟩)) :
    Calls Tryz.prog 74 #[.string ⟨l.toArray⟩, .pointer (some ⟨c, 0, none⟩)] w fun e w' => e = .returned (.int .i64 (K.code l st)) ∧ StAt w' hb tb (K.next l st) ∧ But hb tb w w' := by
  have hn : K.next l st = st := by simp [Wk.next, hK]
  rw [hn]
  by_cases e : l = K.s
  · have hc' := hc
    rw [← e] at hc'
    refine (exactly_yes _ c w hc').mono ?_
    rintro r w' ⟨rfl, rfl⟩
    exact ⟨ret_int (by simp [Wk.code, hK, e]), hS, But.refl _ _ _⟩
  · refine (exactly_no _ _ c w hc (fun h => e (by simpa using congrArg (fun x : ByteArray => x.data.toList) h))).mono ?_
    rintro r w' ⟨rfl, rfl⟩
    exact ⟨ret_int (by simp [Wk.code, hK, e]), hS, But.refl _ _ _⟩

theorem w2_call (K : Wk) (l : List UInt8) (st : St) (hb tb cw ct : Nat) (tp : TypeId) (q : Value) (w : World) (hK : K.tag = 2) (ho : K.o < 13) (hhi : K.hi ≤ 1000) (h0 : l ≠ []) (hs : l.length ≤ 200000) (hS : StAt w hb tb st)
    (hvar : w.var? Tryz.prog "strconv.ErrRange" = some #[.iface tp q])
    (c0 : w.cell? ⟨cw, 0, none⟩ = some (.int .i64 K.lo)) (c1 : w.cell? ⟨cw, 1, none⟩ = some (.int .i64 K.hi)) (c2 : w.cell? ⟨ct, 0, none⟩ = some (.pointer (some ⟨tb, K.o, none⟩))) (z1 : cw < w.heap.size) (z2 : ct < w.heap.size) :
    Calls Tryz.prog 71 #[.string ⟨l.toArray⟩, .pointer (some ⟨cw, 0, none⟩), .pointer (some ⟨ct, 0, none⟩)] w fun e w' => e = .returned (.int .i64 (K.code l st)) ∧ StAt w' hb tb (K.next l st) ∧ But hb tb w w' := by
  have hcode : K.code l st = numC K.lo K.hi l := by simp [Wk.code, hK]
  cases hn : isNumB l
  · have hc : numC K.lo K.hi l = 60 := by simp [numC, hn]
    refine (number_no l cw ct w hs hn).mono ?_
    rintro e w' ⟨rfl, rfl⟩
    have : K.next l st = st := by simp [Wk.next, hK, hc]
    rw [this, hcode, hc]
    exact ⟨rfl, hS, But.refl _ _ _⟩
  · cases hB : inB K.lo K.hi (decV l)
    · have hc : numC K.lo K.hi l = 20 := by simp [numC, hn, hB]
      refine (number_far l K.lo K.hi cw ct tp q w h0 hs hn hB hvar c0 c1 z1).mono ?_
      rintro e w' ⟨rfl, hb'⟩
      have : K.next l st = st := by simp [Wk.next, hK, hc]
      rw [this, hcode, hc]
      exact ⟨rfl, hS.below hb', But.of_below hb'⟩
    · have hc : numC K.lo K.hi l = 0 := by simp [numC, hn, hB]
      obtain ⟨x, hx⟩ := hS.tcell K.o ho
      refine (number_yes l K.lo K.hi cw ct ⟨tb, K.o, none⟩ x w h0 hs hn hB hhi c0 c1 c2 hx (hS.tf K.o ho) z1 z2 hS.t.lt).mono ?_
      rintro e w' ⟨rfl, w1, hb', rfl⟩
      have : K.next l st = { st with t := st.t.put K.o (decV l) } := by simp [Wk.next, hK, hc]
      rw [this, hcode, hc]
      exact ⟨rfl, (hS.below hb').num K.o _ ho, (But.of_below hb').trans (But.setCell _ (.inr rfl))⟩

theorem WantAt.but {w w' : World} {hb tb : Nat} {f : Value} {K : Wk} (h : WantAt w hb tb f K) (hw : But hb tb w w') : WantAt w' hb tb f K := by
  have hz := hw.size
  rcases h with h | ⟨h1, h2, c, h3, h4, h5, h6, h7⟩ | ⟨h1, h2, h3, cw, ct, h4, h5, h6, h7, h8, h9, h10, h11, h12, h13⟩ | ⟨h1, c, h3, h4, h5, h6, h7⟩
  · exact .inl h
  · exact .inr (.inl ⟨h1, h2, c, h3, (hw.cell h5 h6 h7).trans h4, by omega, h6, h7⟩)
  · exact .inr (.inr (.inl ⟨h1, h2, h3, cw, ct, h4, (hw.cell h8 h10 h11).trans h5, (hw.cell h8 h10 h11).trans h6, (hw.cell h9 h12 h13).trans h7, by omega, by omega, h10, h11, h12, h13⟩))
  · exact .inr (.inr (.inr ⟨h1, c, h3, (hw.cell h5 h6 h7).trans h4, by omega, h6, h7⟩))

end Go.Proofs.YtgabnjiapkkjaaaGreatDoor.Tb
