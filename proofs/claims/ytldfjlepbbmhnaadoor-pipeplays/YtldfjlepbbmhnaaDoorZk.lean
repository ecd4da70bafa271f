/- The document's machine: which registers something is in flight to (Flying), read off the program by the walk. Conditions: the machine lies in memory. -/
import Derived.Test.YtldfjlepbbmhnaaDoorZj
namespace Go.Proofs.YtldfjlepbbmhnaaDoor.Pp
open Go.ChangeShapes Go.WideShapes Go.ChangeAt Go.RowKit
open _root_.Go.Proofs.YtldfjlepbbmhnaaDoor.Op _root_.Go.Proofs.YtldfjlepbbmhnaaDoor.So _root_.Go.Proofs.YtldfjlepbbmhnaaDoor.Bu
open _root_.Go.Proofs.YtldfjlepbbmhnaaDoor.Tb (Tab TabAt Bnds)
set_option maxRecDepth 20000

section
variable {w w' W : World} {t : Tab} {bs : List Bn} {H : Rx} {R : RM} {L : Nat}
/-- Is one of the first j in flight to this register? -/
def anK (R : RM) (k j : Nat) : Bool := (R.fl.take j).any fun y => !y.b && decide (y.n = (k : Int))
theorem anK_succ {k j : Nat} {y : Ld} (h : R.fl[j]? = some y) : anK R k (j + 1) = (anK R k j || (!y.b && decide (y.n = (k : Int)))) := by
  unfold anK
  rw [take_at h, List.any_append]
  simp
theorem anK_all (R : RM) (k : Nat) : anK R k R.fl.length = flyR R k := by unfold anK flyR; rw [List.take_length]
set_option maxHeartbeats 4000000 in
theorem rflying_any (h : Rch w t bs H R) (hR : R.Ok L) (hL : L ≤ 200000000) : Calls Tryd.prog 18 #[ptr H.mb] w fun e w' => ∃ v, e = .returned v ∧ w'.ownsRow w.heap.size 5 1 v (flR R).length (numsB (flR R)) ∧ Below w.heap.size w w' := by
  have HM : Hid (∀ V, Below w.heap.size w V → Rch V t bs H R) := fun V hV => h.up hV
  obtain ⟨i0, hi0, hi2⟩ := Option.map_eq_some_iff.1 info5b
  simp only [Prod.mk.injEq] at hi2
  have HI : Hid (Tryd.prog.info? 5 = some i0 ∧ i0.zero = some (.int .u8 0) ∧ i0.size = 1 ∧ i0.bytes = 1) := ⟨hi0, hi2.1, hi2.2.1, hi2.2.2⟩
  have HFl : Hid (flR R = flN (flyR R) 32) := rfl
  have hlf := hR.lf
  obtain ⟨nn, hnn⟩ : ∃ nn, R.fl.length = nn := ⟨_, rfl⟩
  have HN : Hid (R.fl.length = nn) := hnn
  have HA : Hid (∀ k, anK R k nn = flyR R k) := fun k => by rw [← hnn]; exact anK_all R k
  obtain ⟨p, hpp⟩ : ∃ p, flyR R = p := ⟨_, rfl⟩
  rw [hpp] at HA HFl
  rw [hnn] at hlf
  have hq0 : Rq w w none 0 (flN p 0) := ⟨World.ownsRow_nil _ _ _ _, Below.refl _ _⟩
  have HQ0 : Hid (Rq w w none 0 (flN p 0)) := hq0
  clear h hR hi0 hi2 hnn hpp hq0
  go_enter Tryd.func18, Tryd.ntmps18
  go_wp2_with fail
  go_loopw [3, 4] (fun v i wq => ∃ (k : Nat) (a : Option Addr) (c : Nat), k ≤ 32 ∧ i = .int .i64 k ∧ v = .slice a (flN p k).length c ∧ Hid (Rq w wq a c (flN p k))) (fun _ i _ => 32 - (intOf i).toNat)
  case atStart => exact ⟨0, none, 0, by omega, rfl, rfl, HQ0⟩
  case round =>
    rename World => wq
    clear HQ0
    obtain ⟨k, a, c, hk, rfl, rfl, HQ⟩ := hrel
    by_cases hlt : k < 32
    · have k0 : (0 : Int) ≤ (k : Int) := by omega
      have k1 : (k : Int) < 32 := by omega
      have hl32 := flN_len p k
      have hxx : ∃ xs, flN p k = xs := ⟨_, rfl⟩
      obtain ⟨xs, hxs⟩ := hxx
      have HXs : Hid (flN p k = xs) := hxs
      rw [hxs] at HQ hl32 ⊢
      clear hxs
      go_wp2_with fail
      go_loopw [5, 6] (fun b i wz => ∃ (j : Nat) (tb : Bool), j ≤ nn ∧ i = .int .i64 j ∧ b = .bool tb ∧ Hid (Rq w wz a c xs ∧ tb = anK R k j)) (fun _ i _ => nn - (intOf i).toNat)
      case atStart => exact ⟨0, false, by omega, rfl, rfl, HQ.out, rfl⟩
      case round =>
        rename World => wz
        clear HQ
        obtain ⟨j, tb, hj, rfl, rfl, HQ⟩ := hrel
        have hm := HM.out wz HQ.out.1.up
        have q0 := hm.c.fl
        obtain ⟨ao, cc, hfv⟩ := row_slice hm.ff
        rw [HN.out] at hfv
        have ql := hm.c.lt
        have HF : Hid (H.fv = .slice ao nn cc) := hfv
        rw [hfv] at q0
        clear hfv
        by_cases hjl : j < nn
        · have j0 : (0 : Int) ≤ (j : Int) := by omega
          have j1 : (j : Int) < (nn : Int) := by omega
          have j2 : ((j + 1 : Nat) : Int) = (j : Int) + 1 := by omega
          obtain ⟨y, hy⟩ : ∃ y, R.fl[j]? = some y := ⟨_, List.getElem?_eq_getElem (by rw [HN.out]; exact hjl)⟩
          obtain ⟨g, c2, e1, gl, g3⟩ := row_ptr hm.ff (by rw [HN.out]; omega)
          rw [HF.out, HN.out] at e1
          injection e1 with e1
          subst e1
          obtain ⟨t0, t1, t2, t3⟩ := lcells_at hy
          have c1 := g3 _ _ t1
          have c2 := g3 _ _ t2
          have HS : Hid (anK R k (j + 1) = (anK R k j || (!y.b && decide (y.n = (k : Int))))) := anK_succ hy
          clear hy t0 t1 t2 t3 g3 hm
          have HT : Hid (tb = anK R k j ∧ Rq w wz a c xs) := ⟨HQ.out.2, HQ.out.1⟩
          clear HQ
          cases tb with
          | true =>
            have HS2 : Hid (Rq w wz a c xs ∧ true = anK R k (j + 1)) := ⟨HT.out.2, by rw [HS.out, ← HT.out.1]; rfl⟩
            go_wp2_with fail
            go_roundw
            case rel => exact ⟨j + 1, true, by omega, by go_num, rfl, HS2⟩
            case measure => simp [intOf]; omega
          | false =>
            cases hyb : y.b with
            | true =>
              rw [hyb] at c1
              have HS2 : Hid (Rq w wz a c xs ∧ false = anK R k (j + 1)) := ⟨HT.out.2, by rw [HS.out, ← HT.out.1, hyb]; rfl⟩
              clear hyb
              go_wp2_with fail
              go_roundw
              case rel => exact ⟨j + 1, false, by omega, by go_num, rfl, HS2⟩
              case measure => simp [intOf]; omega
            | false =>
              rw [hyb] at c1
              by_cases hyn : y.n = (k : Int)
              · have HS2 : Hid (Rq w wz a c xs ∧ true = anK R k (j + 1)) := ⟨HT.out.2, by rw [HS.out, ← HT.out.1, hyb, decide_eq_true hyn]; rfl⟩
                have hb : (y.n == (k : Int)) = true := by simpa using hyn
                clear hyb hyn
                go_wp2_with fail
                go_roundw
                case rel => exact ⟨j + 1, true, by omega, by go_num, rfl, HS2⟩
                case measure => simp [intOf]; omega
              · have HS2 : Hid (Rq w wz a c xs ∧ false = anK R k (j + 1)) := ⟨HT.out.2, by rw [HS.out, ← HT.out.1, hyb, decide_eq_false hyn]; rfl⟩
                have hb : (y.n == (k : Int)) = false := by simpa using hyn
                clear hyb hyn
                go_wp2_with fail
                go_roundw
                case rel => exact ⟨j + 1, false, by omega, by go_num, rfl, HS2⟩
                case measure => simp [intOf]; omega
        · obtain rfl : j = nn := by omega
          have j1 : ¬ (j : Int) < (j : Int) := by omega
          have HT : Hid (tb = p k ∧ Rq w wz a c xs) := ⟨by rw [HQ.out.2]; exact HA.out k, HQ.out.1⟩
          clear HQ
          cases tb with
          | false =>
            have HN2 : Hid (flN p (k + 1) = xs) := (flN_no HT.out.1.symm).trans HXs.out
            go_wp2_with fail
            go_roundw
            case rel => exact ⟨k + 1, a, c, by omega, by go_num, by rw [HN2.out], by rw [HN2.out]; exact HT.out.2⟩
            case measure => simp [intOf]; omega
          | true =>
            have HN2 : Hid (flN p (k + 1) = xs ++ [k]) := (flN_yes HT.out.1.symm).trans (by rw [HXs.out])
            have hu8 : IntKind.u8.wrap (k : Int) = (k : Int) := by rw [IntKind.wrap_u8]; omega
            have HX : Hid (Rq w (wz.alloc (.cells #[.int .u8 (k : Int)] 5)) a c xs) := HT.out.2.next ((Below.refl _ _).alloc (Nat.le_refl _) _)
            have hsz : w.heap.size ≤ wz.heap.size := HT.out.2.up.size
            go_wp2_with (first | (at_builtin; refine wpList_append_lies _ rfl _ _ 48 rfl w.heap.size 5 i0 (.int .u8 0) 1 1 Tryd.underlying48 HI.out.1 HI.out.2.1 HI.out.2.2.1 HI.out.2.2.2 rfl (by decide) (.slice a xs.length c) xs.length (numsB xs) rfl HX.out.row ⟨wz.heap.size, 0, none⟩ 1 1 [.int .u8 (k : Int)] rfl rfl (World.news_of_block (heap_alloc_new wz _)) (by simp [Value.oneCell']) (by decide) (by unfold maxLen; omega) (by omega) (by simp; omega) (wz.heap.size + 1) (by simp) ?_; intro g cp w5 hown hgrow hat hlt3; have HR5 : Hid (Rq w w5 (some ⟨g, 0, none⟩) cp (xs ++ [k])) := HX.out.add hgrow hown; clear hown hgrow hat hlt3))
            go_roundw
            case rel => exact ⟨k + 1, some ⟨g, 0, none⟩, cp, by omega, by go_num, by rw [HN2.out, List.length_append]; rfl, by rw [HN2.out]; exact HR5⟩
            case measure => simp [intOf]; omega
    · obtain rfl : k = 32 := by omega
      go_wp2_with fail
      go_ret
      refine ⟨_, rfl, ?_, HQ.out.up⟩
      rw [HFl.out]
      exact HQ.out.row
end
end Go.Proofs.YtldfjlepbbmhnaaDoor.Pp
