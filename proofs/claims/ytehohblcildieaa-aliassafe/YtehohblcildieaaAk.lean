/- Registers and cells out of a state that is not too great (the statement's own start), read off the program by the walk. Conditions: the state lies in memory. -/
import Derived.Test.YtehohblcildieaaAj
namespace Go.Proofs.Ytehohblcildieaa.Al
open Go.ChangeShapes Go.WideShapes Go.ChangeAt Go.RowKit Go.Great
open _root_.Go.Proofs.Ytehohblcildieaa.Op _root_.Go.Proofs.Ytehohblcildieaa.So
set_option maxRecDepth 20000

set_option maxHeartbeats 8000000 in
theorem start_ok (ra ma : Option Addr) (rc mc : Nat) (rs ms : List Int) (w : World) (h1 : NL w ra rs) (h2 : NL w ma ms) (hr : ∀ x ∈ rs, In64 x) (hm : ∀ x ∈ ms, In64 x) (h32 : rs.length ≤ 32) (h256 : ms.length ≤ 256) :
    Calls Try.prog 13 #[.agg #[.slice ra rs.length rc, .slice ma ms.length mc]] w (StartPost w) := by
  have HN1 : Hid (NL w ra rs ∧ ∀ x ∈ rs, In64 x) := ⟨h1, hr⟩
  have HN2 : Hid (NL w ma ms ∧ ∀ x ∈ ms, In64 x) := ⟨h2, hm⟩
  clear h1 h2 hr hm
  have hi32 : (rs.length : Int) ≤ 32 := by omega
  have hi256 : (ms.length : Int) ≤ 256 := by omega
  generalize hrl : rs.length = rl at *
  generalize hml : ms.length = ml at *
  have HRl : Hid (rs.length = rl) := hrl
  have HMl : Hid (ms.length = ml) := hml
  clear hrl hml
  have h1e : (w.alloc (.cells #[.slice ra rl rc, .slice ma ml mc] 29)).heap.size = w.heap.size + 1 := by simp
  have h2e : ((w.alloc (.cells #[.slice ra rl rc, .slice ma ml mc] 29)).alloc (.cells (ncs 32 zeroF).toArray 30)).heap.size = w.heap.size + 2 := by simp
  go_enter Try.func13, Try.ntmps13
  apply wp_seq_k; intro K0 hK0
  refine wp_region_lit ?_
  refine wpList_boxTo rfl 29 (.tmp 0) rfl (some 1) rfl w.heap.size rfl #[.slice ra rl rc, .slice ma ml mc] (by kernel_rfl) ?_
  refine wpList_allocTo rfl (some 2) rfl (.pointer (some ⟨w.heap.size + 1, 0, none⟩)) (.cells (ncs 32 zeroF).toArray 30) (by rw [← h1e]; kernel_rfl) ?_
  refine wpList_allocTo rfl (some 3) rfl (.pointer (some ⟨w.heap.size + 2, 0, none⟩)) (.cells (ncs 256 zeroF).toArray 31) (by rw [← h2e]; kernel_rfl) ?_
  refine wpList_readTo rfl (some 4) rfl (.bool false) (by kernel_rfl) ?_
  refine wpList_nil ?_
  refine hK0 _ _ ?_
  clear hK0 K0 h1e h2e
  have HS : Hid (Sw w (((w.alloc (.cells #[.slice ra rl rc, .slice ma ml mc] 29)).alloc (.cells (ncs 32 zeroF).toArray 30)).alloc (.cells (ncs 256 zeroF).toArray 31)) ra ma rl rc ml mc zeroF zeroF) := sw_start w ra ma rl rc ml mc
  generalize (((w.alloc (.cells #[.slice ra rl rc, .slice ma ml mc] 29)).alloc (.cells (ncs 32 zeroF).toArray 30)).alloc (.cells (ncs 256 zeroF).toArray 31)) = V at *
  simp only [Act.put, List.setIfInBounds_toArray, List.set_cons_zero, List.set_cons_succ]
  have c0 := HS.out.bx.c 0 _ rfl
  have c1 := HS.out.bx.c 1 _ rfl
  have z0 := HS.out.bx.lt
  go_wp2_with fail
  go_loopw [5] (fun i wr => ∃ (k : Nat) (R M : Nat → Int), k ≤ rl ∧ i = .int .i64 k ∧ Sw w wr ra ma rl rc ml mc R M) (fun i _ => rl - (intOf i).toNat)
  case atStart => exact ⟨0, zeroF, zeroF, by omega, rfl, HS.out⟩
  case round =>
    rename World => wr
    obtain ⟨k, R, M, hk, rfl, hsw⟩ := hrel
    have HSr : Hid (Sw w wr ra ma rl rc ml mc R M) := hsw
    clear hsw HS c0 c1 z0
    have c0 := HSr.out.bx.c 0 _ rfl
    have c1 := HSr.out.bx.c 1 _ rfl
    have z0 := HSr.out.bx.lt
    by_cases hlt : k < rl
    · obtain ⟨b, f, rfl, hz, hc⟩ := (HN1.out.1.up HSr.out.up).is (by rw [HRl.out]; omega)
      have hlt' : k < rs.length := by rw [HRl.out]; exact hlt
      have q1 := hc k hlt'
      have hki : (k : Int) < rl := by omega
      have hk32 : (k : Int) < 32 := by omega
      have q2 := HSr.out.rm.r k (by omega)
      have q3 := HSr.out.rm.rf k
      have z1 := HSr.out.rm.rl
      have HV : Hid (In64 rs[k]) := HN1.out.2 _ (List.getElem_mem hlt')
      have HK : Hid (k < 32) := (by show k < 32; omega)
      clear hc
      generalize rs[k] = v at *
      go_wp2_with fail
      go_roundw
      case rel => exact ⟨k + 1, upd R k v, M, by omega, by go_num, HSr.out.fr ((Fr.refl _ _).setCell (.inr (.inl rfl)) _ _) (HSr.out.rm.setR HK.out HV.out)⟩
      case measure => simp [intOf]; omega
    · obtain rfl : rl = k := by omega
      go_wp2_with fail
      go_loopw [6] (fun i wr => ∃ (k : Nat) (R M : Nat → Int), k ≤ ml ∧ i = .int .i64 k ∧ Sw w wr ra ma rl rc ml mc R M) (fun i _ => ml - (intOf i).toNat)
      case atStart => exact ⟨0, R, M, by omega, rfl, HSr.out⟩
      case round =>
        rename World => wz
        clear HSr c0 c1 z0 R M
        obtain ⟨k, R, M, hk, rfl, hsw⟩ := hrel
        have HSz : Hid (Sw w wz ra ma rl rc ml mc R M) := hsw
        clear hsw
        have c0 := HSz.out.bx.c 0 _ rfl
        have c1 := HSz.out.bx.c 1 _ rfl
        have z0 := HSz.out.bx.lt
        by_cases hlt : k < ml
        · obtain ⟨b, f, rfl, hz, hc⟩ := (HN2.out.1.up HSz.out.up).is (by rw [HMl.out]; omega)
          have hlt' : k < ms.length := by rw [HMl.out]; exact hlt
          have q1 := hc k hlt'
          have hki : (k : Int) < ml := by omega
          have hk256 : (k : Int) < 256 := by omega
          have q2 := HSz.out.rm.m k (by omega)
          have q3 := HSz.out.rm.mf k
          have z1 := HSz.out.rm.ml
          have HV : Hid (In64 ms[k]) := HN2.out.2 _ (List.getElem_mem hlt')
          have HK : Hid (k < 256) := (by show k < 256; omega)
          clear hc
          generalize ms[k] = v at *
          go_wp2_with fail
          go_roundw
          case rel => exact ⟨k + 1, R, upd M k v, by omega, by go_num, HSz.out.fr ((Fr.refl _ _).setCell (.inr (.inr rfl)) _ _) (HSz.out.rm.setM HK.out HV.out)⟩
          case measure => simp [intOf]; omega
        · obtain rfl : ml = k := by omega
          go_wp2_with fail
          obtain ⟨L32, hL32⟩ : ∃ L, L = ncs 32 R := ⟨_, rfl⟩
          obtain ⟨L256, hL256⟩ : ∃ L, L = ncs 256 M := ⟨_, rfl⟩
          have HSd : Hid (Sw w wz.drew ra ma rl rc ml mc R M) := ⟨HSz.out.up.drew, HSz.out.bx.below ⟨rfl, rfl, rfl, Nat.le_refl _, fun _ _ => rfl⟩ HSz.out.bx.lt, HSz.out.rm.up ⟨rfl, rfl, rfl, Nat.le_refl _, fun _ _ => rfl⟩⟩
          refine wp_region_held_drew (S := fun W' => Sw w W' ra ma rl rc ml mc R M) (by kernel_rfl) HSd.out (fun hHeld => ?_)
          refine wpAnyH_take (i := 0) (v := .agg L32.toArray) rfl (by kernel_rfl) (by kernel_rfl) (by kernel_rfl) (fun _ _ _ h => h) (yieldsIf_load_mid (by kernel_rfl) 30 (.tmp 2) rfl (w.heap.size + 1) 0 (by kernel_rfl) L32 _ (fun w' hS => by rw [hL32]; exact range_of hS.rm.r) Try.underlying30 rfl (by rw [hL32, ncs_len]; exact info30)) hHeld ?_
          refine wpAnyH_ready (rs := [1, 2]) (by kernel_rfl) (by simp) ?_
          refine AllReadyH.cons rfl (fun K hK => ?_) (AllReadyH.cons rfl (fun K hK => ?_) AllReadyH.nil)
          · rw [if_pos (by kernel_rfl)]
            refine wp_load_mid 31 (.tmp 3) rfl (w.heap.size + 2) 0 (by kernel_rfl) L256 _ (by rw [hL256]; exact range_of hHeld.rm.m) Try.underlying31 rfl (by rw [hL256, ncs_len]; exact info31) ?_
            refine hK.out _ _ hHeld (fun hHeld => ?_)
            clear hK K
            refine wpAnyH_ready (rs := [2]) (by kernel_rfl) (by simp) ?_
            refine AllReadyH.cons rfl (fun K hK => ?_) AllReadyH.nil
            rw [if_pos (by kernel_rfl)]
            refine wp_store_mid 30 (.tmp 2) (.tmp 47) rfl (w.heap.size + 1) 0 L32.toArray (by kernel_rfl) (by kernel_rfl) (by rw [hL32]; exact there_of hHeld.rm.r hHeld.rm.rf _) (by rw [List.size_toArray, hL32, ncs_len]; exact info30) (by rw [hL32]; exact ncs_one _ _) ?_
            refine hK.out _ _ (hHeld.fr (fr_setCells (X := fun k => k = w.heap.size + 1 ∨ k = w.heap.size + 2) (.inl rfl) _ _ (Fr.refl _ _)) (by show Rm (World.setCells _ _ _ L32.toArray.toList) _ _ _ _; rw [hL32]; exact hHeld.rm.putR hHeld.rm.ri)) (fun hHeld => ?_)
            clear hK K
            refine wpAnyH_ready (rs := [3]) (by kernel_rfl) (by simp) ?_
            refine AllReadyH.cons rfl (fun K hK => ?_) AllReadyH.nil
            rw [if_pos (by kernel_rfl)]
            refine wp_store_mid 31 (.tmp 3) (.tmp 48) rfl (w.heap.size + 2) 0 L256.toArray (by kernel_rfl) (by kernel_rfl) (by rw [hL256]; exact there_of hHeld.rm.m hHeld.rm.mf _) (by rw [List.size_toArray, hL256, ncs_len]; exact info31) (by rw [hL256]; exact ncs_one _ _) ?_
            refine hK.out _ _ (hHeld.fr (fr_setCells (X := fun k => k = w.heap.size + 1 ∨ k = w.heap.size + 2) (.inr rfl) _ _ (Fr.refl _ _)) (by show Rm (World.setCells _ _ _ L256.toArray.toList) _ _ _ _; rw [hL256]; exact hHeld.rm.putM hHeld.rm.mi)) (fun hHeld => ?_)
            clear hK K
            refine wpAnyH_take (i := 4) (v := .bool true) rfl (by kernel_rfl) (by kernel_rfl) (by kernel_rfl) (fun _ _ _ h => h) (Or.inl ⟨by rfl, fun w' hSw => by (go_simp)⟩) hHeld ?_
            refine wpAnyH_done (by kernel_rfl) ?_ _
            simp only [Act.put, List.setIfInBounds_toArray, List.set_cons_zero, List.set_cons_succ, List.getElem_cons_zero, List.getElem_cons_succ, List.getElem_toArray]
            have HSe : Hid (Sw w (((wz.drew).setCells (w.heap.size + 1) 0 L32.toArray.toList).setCells (w.heap.size + 2) 0 L256.toArray.toList) ra ma rl rc ml mc R M) := hHeld
            clear hHeld HSz HSd c0 c1 z0
            generalize ((wz.drew).setCells (w.heap.size + 1) 0 L32.toArray.toList).setCells (w.heap.size + 2) 0 L256.toArray.toList = Z at *
            go_wp2_with fail
            exact start_ret HSe.out rfl rfl rfl rfl
          · rw [if_pos (by kernel_rfl)]
            refine wp_store_mid 30 (.tmp 2) (.tmp 47) rfl (w.heap.size + 1) 0 L32.toArray (by kernel_rfl) (by kernel_rfl) (by rw [hL32]; exact there_of hHeld.rm.r hHeld.rm.rf _) (by rw [List.size_toArray, hL32, ncs_len]; exact info30) (by rw [hL32]; exact ncs_one _ _) ?_
            refine hK.out _ _ (hHeld.fr (fr_setCells (X := fun k => k = w.heap.size + 1 ∨ k = w.heap.size + 2) (.inl rfl) _ _ (Fr.refl _ _)) (by show Rm (World.setCells _ _ _ L32.toArray.toList) _ _ _ _; rw [hL32]; exact hHeld.rm.putR hHeld.rm.ri)) (fun hHeld => ?_)
            clear hK K
            refine wpAnyH_ready (rs := [1]) (by kernel_rfl) (by simp) ?_
            refine AllReadyH.cons rfl (fun K hK => ?_) AllReadyH.nil
            rw [if_pos (by kernel_rfl)]
            refine wp_load_mid 31 (.tmp 3) rfl (w.heap.size + 2) 0 (by kernel_rfl) L256 _ (by rw [hL256]; exact range_of hHeld.rm.m) Try.underlying31 rfl (by rw [hL256, ncs_len]; exact info31) ?_
            refine hK.out _ _ hHeld (fun hHeld => ?_)
            clear hK K
            refine wpAnyH_ready (rs := [3]) (by kernel_rfl) (by simp) ?_
            refine AllReadyH.cons rfl (fun K hK => ?_) AllReadyH.nil
            rw [if_pos (by kernel_rfl)]
            refine wp_store_mid 31 (.tmp 3) (.tmp 48) rfl (w.heap.size + 2) 0 L256.toArray (by kernel_rfl) (by kernel_rfl) (by rw [hL256]; exact there_of hHeld.rm.m hHeld.rm.mf _) (by rw [List.size_toArray, hL256, ncs_len]; exact info31) (by rw [hL256]; exact ncs_one _ _) ?_
            refine hK.out _ _ (hHeld.fr (fr_setCells (X := fun k => k = w.heap.size + 1 ∨ k = w.heap.size + 2) (.inr rfl) _ _ (Fr.refl _ _)) (by show Rm (World.setCells _ _ _ L256.toArray.toList) _ _ _ _; rw [hL256]; exact hHeld.rm.putM hHeld.rm.mi)) (fun hHeld => ?_)
            clear hK K
            refine wpAnyH_take (i := 4) (v := .bool true) rfl (by kernel_rfl) (by kernel_rfl) (by kernel_rfl) (fun _ _ _ h => h) (Or.inl ⟨by rfl, fun w' hSw => by (go_simp)⟩) hHeld ?_
            refine wpAnyH_done (by kernel_rfl) ?_ _
            simp only [Act.put, List.setIfInBounds_toArray, List.set_cons_zero, List.set_cons_succ, List.getElem_cons_zero, List.getElem_cons_succ, List.getElem_toArray]
            have HSe : Hid (Sw w (((wz.drew).setCells (w.heap.size + 1) 0 L32.toArray.toList).setCells (w.heap.size + 2) 0 L256.toArray.toList) ra ma rl rc ml mc R M) := hHeld
            clear hHeld HSz HSd c0 c1 z0
            generalize ((wz.drew).setCells (w.heap.size + 1) 0 L32.toArray.toList).setCells (w.heap.size + 2) 0 L256.toArray.toList = Z at *
            go_wp2_with fail
            exact start_ret HSe.out rfl rfl rfl rfl
theorem start_any (ra ma : Option Addr) (rc mc : Nat) (rs ms : List Int) (w : World) (h1 : NL w ra rs) (h2 : NL w ma ms) (hr : ∀ x ∈ rs, In64 x) (hm : ∀ x ∈ ms, In64 x) :
    Calls Try.prog 13 #[.agg #[.slice ra rs.length rc, .slice ma ms.length mc]] w (StartPost w) := by
  by_cases h32 : rs.length ≤ 32
  · by_cases h256 : ms.length ≤ 256
    · exact start_ok ra ma rc mc rs ms w h1 h2 hr hm h32 h256
    · exact start_x ra ma rc mc _ _ w (.inr (by omega))
  · exact start_x ra ma rc mc _ _ w (.inl (by omega))
end Go.Proofs.Ytehohblcildieaa.Al
