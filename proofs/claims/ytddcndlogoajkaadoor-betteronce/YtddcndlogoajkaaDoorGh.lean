/- A program folded (Fold): read off the program by the walk. Conditions: the program lies in memory; the variables as the program lays them. -/
import Derived.Test.YtddcndlogoajkaaDoorGg
namespace Go.Proofs.YtddcndlogoajkaaDoor.L8.Bt
open Go.ChangeShapes Go.WideShapes Go.ChangeAt Go.RowKit Go.Great
open _root_.Go.Proofs.YtddcndlogoajkaaDoor.L8.Op _root_.Go.Proofs.YtddcndlogoajkaaDoor.L8.So
open _root_.Go.Proofs.YtddcndlogoajkaaDoor.L8.Lv (rdL wOf PsOk psOk_of)
set_option maxRecDepth 20000

def mixP (ps : List Bk) (k : Nat) : List Bk := (ps.take k).map fdBk ++ ps.drop k
theorem mixP_zero (ps : List Bk) : mixP ps 0 = ps := by simp [mixP]
theorem mixP_end (ps : List Bk) : mixP ps ps.length = fdP ps := by simp [mixP, fdP]
theorem mixP_len (ps : List Bk) (k : Nat) : (mixP ps k).length = ps.length := by
  unfold mixP
  rw [List.length_append, List.length_map, List.length_take, List.length_drop]; omega
theorem mixP_at (ps : List Bk) (k : Nat) (hk : k < ps.length) : (mixP ps k)[k]? = some ps[k] := by
  unfold mixP
  rw [List.getElem?_append_right (by rw [List.length_map, List.length_take]; omega), List.length_map, List.length_take, show k - min k ps.length = 0 by omega, List.getElem?_drop]
  simp [List.getElem?_eq_getElem hk]
theorem mixP_next (ps : List Bk) (k : Nat) (hk : k < ps.length) : mixP ps (k + 1) = (mixP ps k).set k (fdBk ps[k]) := by
  unfold mixP
  rw [List.take_add_one, List.getElem?_eq_getElem hk, List.drop_eq_getElem_cons hk]
  have hl : ((ps.take k).map fdBk).length = k := by rw [List.length_map, List.length_take]; omega
  rw [Option.toList_some, List.map_append, List.append_assoc, List.set_append_right _ _ (by omega), hl, Nat.sub_self]
  rfl
theorem le_sumN : ∀ (l : List Nat) (x : Nat), x ∈ l → x ≤ l.sum
  | a :: l, x, h => by
    rw [List.sum_cons]
    rcases List.mem_cons.1 h with rfl | h
    · omega
    · have := le_sumN l x h
      omega
theorem psG_small {ps : List Bk} (h : PsG ps) : ∀ x ∈ ps, x.ops.length ≤ 8192 ∧ x.body.length ≤ 8192 := fun x hx => by
  have h1 := le_sumN (ps.map bkN) (bkN x) (List.mem_map_of_mem hx)
  have h2 := h.s
  rw [opsN_eq] at h2
  unfold bkN at h1
  unfold bkN at h2
  try simp only at h1 h2
  omega
/-- The folding under way: the copy, the answer's cell, the copy's own. -/
structure Fd (w wr : World) (own : Nat → Nat) (g c t : Nat) (ps : List Bk) (k : Nat) : Prop where
  p : Pr wr (w.heap.size + 2) own g (mixP ps k)
  r : At wr (w.heap.size + 1) #[.slice none 0 0]
  q : At wr t #[.slice (some ⟨g, 0, none⟩) ps.length c]
  b : Below w.heap.size w wr
  o : own t = 0
theorem Fd.step {w wr w' : World} {own : Nat → Nat} {g c t : Nat} {ps : List Bk} {k : Nat} (h : Fd w wr own g c t ps k) (hp : Pr w' (w.heap.size + 2) own g (mixP ps (k + 1))) (hF : Fr (fun j => own j ≠ 0) wr w') : Fd w w' own g c t ps (k + 1) :=
  ⟨hp, at_fr h.r hF (fun q => by have := h.p.old _ q; omega), at_fr h.q hF (fun q => q h.o), h.b.trans (hF.below h.b.size fun j hj q => by have := h.p.old _ q; omega), h.o⟩
set_option maxHeartbeats 4000000 in
theorem fold_ok (ao : Option Addr) (cap : Nat) (ps : List Bk) (w : World) (h : PAt w ao ps) (he : Env w) (hG : PsG ps) :
    Calls Tryd.prog 7 #[.agg #[.slice ao ps.length cap]] w fun e w' => ∃ a c, e = .returned (.tuple #[.agg #[.slice a ps.length c], .int .i64 0]) ∧ PAt w' a (fdP ps) ∧ Below w.heap.size w w' := by
  have HC : Hid (∀ W, Below w.heap.size w W → Calls Tryd.prog 4 #[.agg #[.slice ao ps.length cap]] W fun e w' => e = .returned (.int .i64 0) ∧ Below W.heap.size W w') := fun W hb => by
    have := checkP_any ao cap ps W (h.below hb) (he.up hb)
    rw [hG.ck] at this
    exact this
  have HCp : Hid (∀ W, Below w.heap.size w W → Calls Tryd.prog 11 #[.agg #[.slice ao ps.length cap]] W fun e w' => ∃ g c own, e = .returned (.agg #[.slice (some ⟨g, 0, none⟩) ps.length c]) ∧ Pr w' W.heap.size own g ps ∧ Below W.heap.size W w' ∧ ∀ b, own b ≠ 0 → W.heap.size ≤ b ∧ b < w'.heap.size) := fun W hb => copied_any ao cap ps W (h.below hb) hG.p hG.n (psG_small hG)
  have HFB : Hid (∀ (W : World) (own : Nat → Nat) (g c t k : Nat), Fd w W own g c t ps k → k < ps.length → Calls Tryd.prog 12 #[.pointer (some ⟨g, k * 6, none⟩)] W fun e w' => e = .returned (.tuple #[]) ∧ Fd w w' own g c t ps (k + 1)) := fun W own g c t k hd hk => by
    have hk2 : k < (mixP ps k).length := by rw [mixP_len]; exact hk
    have hx : (mixP ps k)[k] = ps[k] := Option.some.inj ((List.getElem?_eq_getElem hk2).symm.trans (mixP_at ps k hk))
    refine (foldBlock_any hd.p hk2 (n := ps.length) (by rw [hx]; exact hG.b _ (List.getElem_mem hk))).mono ?_
    rintro e w' ⟨rfl, h1, h2⟩
    rw [hx, ← mixP_next ps k hk] at h1
    exact ⟨rfl, hd.step h1 h2⟩
  have HB0 : Hid (Below w.heap.size w ((w.alloc (.cells #[.slice ao ps.length cap] 24)).alloc (.cells #[.slice none 0 0] 24))) := ((Below.refl _ _).alloc (Nat.le_refl _) _).alloc (by simp) _
  have hn := hG.n
  have hni : (ps.length : Int) ≤ 128 := by omega
  have hn0 : (0 : Int) ≤ (ps.length : Int) := by omega
  clear h he hG
  go_enter Tryd.func7, Tryd.ntmps7
  go_upto_region 5 with (first
    | (go_at_call 4; go_loud (refine Calls.mono (HC.out _ HB0.out) ?_; rintro e w1 ⟨rfl, hb⟩; obtain ⟨a1, a2, hb0, hz, hz1⟩ := two_new w _ _ _ _ hb; have r1 := a1.c 0 _ rfl; have HA : Hid (At w1 (w.heap.size + 1) #[.slice none 0 0] ∧ Below w.heap.size w w1 ∧ w.heap.size + 2 ≤ w1.heap.size) := ⟨a2, hb0, by omega⟩; clear hb hb0 a1 a2 HC HB0))
    | (go_at_call 11; go_loud (refine Calls.mono (HCp.out _ HA.out.2.1) ?_; rintro e w2 ⟨g, c, own, rfl, hp, hb, ho⟩; have HP : Hid _ := hp; have HO : Hid _ := ho; have HB : Hid _ := hb; clear hp ho hb r1 HCp)))
  have HD : Hid (Fd w (w2.alloc (.cells #[.slice (some ⟨g, 0, none⟩) ps.length c] 24)) own g c w2.heap.size ps 0) := by
    have b2 : Below w2.heap.size w2 (w2.alloc (.cells #[.slice (some ⟨g, 0, none⟩) ps.length c] 24)) := below_al _
    refine ⟨?_, (HA.out.1.below HB.out HA.out.1.lt).below b2 (Nat.lt_of_lt_of_le HA.out.1.lt HB.out.size), Op.At.new _ _ _, (HA.out.2.1.trans (HB.out.mono HA.out.2.1.size)).trans (b2.mono (Nat.le_trans HA.out.2.1.size HB.out.size)), ?_⟩
    · rw [mixP_zero]
      have h1 := HP.out.next b2
      exact ⟨fun b q => Nat.le_trans HA.out.2.2 (h1.old b q), h1.g1, h1.lt, h1.fz, h1.n, h1.ok, h1.is⟩
    · cases e : own w2.heap.size with
      | zero => rfl
      | succ m => have := (HO.out w2.heap.size (by omega)).2; omega
  clear HP HO HB HA hz hz1
  generalize w2.alloc (.cells #[.slice (some ⟨g, 0, none⟩) ps.length c] 24) = w3 at *
  generalize w2.heap.size = t at *
  clear w2
  have q0 := HD.out.q.c 0 _ rfl
  go_wp2_with fail
  clear q0
  go_loopw [18] (fun i wr => ∃ k : Nat, k ≤ ps.length ∧ i = .int .i64 k ∧ Fd w wr own g c t ps k) (fun i _ => ps.length - (intOf i).toNat)
  case atStart => exact ⟨0, by omega, rfl, HD.out⟩
  case round =>
    rename World => wr
    obtain ⟨k, hk, rfl, hd⟩ := hrel
    clear HD
    have HD : Hid _ := hd
    clear hd
    have q0 := HD.out.q.c 0 _ rfl
    by_cases hlt : k < ps.length
    · have hki : (k : Int) < (ps.length : Int) := by omega
      have hk0 : (0 : Int) ≤ (k : Int) := by omega
      go_wp2_with (first
        | (go_at_call 12; go_loud (refine Calls.mono (HFB.out _ _ _ _ _ _ HD.out hlt) ?_; rintro e w4 ⟨rfl, h4⟩; have H4 : Hid _ := h4; clear h4 HFB q0)))
      go_roundw
      case rel => exact ⟨k + 1, by omega, by go_num, H4.out⟩
      case measure => simp [intOf]; omega
    · obtain rfl : k = ps.length := by omega
      have r0 := HD.out.r.c 0 _ rfl
      have f0 := HD.out.r.f 0
      have HZ : Hid (∀ v, PAt (wr.setCell ⟨w.heap.size + 1, 0, none⟩ v) (some ⟨g, 0, none⟩) (fdP ps) ∧ Below w.heap.size w (wr.setCell ⟨w.heap.size + 1, 0, none⟩ v)) := fun v => by
        have h1 := HD.out.p.fr ((Fr.refl (One (w.heap.size + 1)) wr).setCell (.inr rfl) 0 v) fun j q => by
          have q : j = w.heap.size + 1 := q
          subst q
          cases e : own (w.heap.size + 1) with
          | zero => rfl
          | succ m => have := HD.out.p.old (w.heap.size + 1) (by omega); omega
        rw [mixP_end] at h1
        exact ⟨h1.pat, HD.out.b.setCell (Nat.le_succ _) _⟩
      clear HD HFB
      go_wp2_with fail
      refine bodyPost_ret (v := .tuple #[.agg #[.slice (some ⟨g, 0, none⟩) ps.length c], .int .i64 0]) (by simp [results, Tryd.results7, go_sem, cs r0]) rfl ⟨_, c, rfl, (HZ.out _).1, (HZ.out _).2⟩
end Go.Proofs.YtddcndlogoajkaaDoor.L8.Bt
