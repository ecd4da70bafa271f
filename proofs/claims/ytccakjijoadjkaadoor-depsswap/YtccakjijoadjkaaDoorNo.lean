/- What allDeeds makes: the functions of each kind of operation and of each end. Read off the program by the walk. Conditions: none. -/
import Derived.Test.YtccakjijoadjkaaDoorNe
import Derived.Great.Walk
import Derived.Deep.MidRow
import Derived.Deep.DeepCutAuto
namespace Go.Proofs.YtccakjijoadjkaaDoor.Sm
open Go.ChangeShapes Go.WideShapes Go.ChangeAt Go.RowKit Go.Great
open _root_.Go.Proofs.YtccakjijoadjkaaDoor.Op _root_.Go.Proofs.YtccakjijoadjkaaDoor.So
set_option maxRecDepth 20000
/-- What allDeeds holds when the kinds below k are done. -/
def dF (k j : Nat) : Value := if j < 36 then (if 4 ≤ j ∧ j < 2 * k then (if j % 2 = 0 then fnV 82 else fnV 72) else if j = 2 then fnV 71 else if j = 3 then fnV 72 else if j = 30 then fnV 73 else if j = 31 then fnV 72 else if j = 32 then fnV 74 else if j = 33 then fnV 75 else if j = 34 then fnV 76 else if j = 35 then fnV 77 else .nilFunc) else fnV (78 + (j - 36))
def dA (k : Nat) : Array Value := ((List.range 40).map (dF k)).toArray
def dz : Array Value := (List.replicate 40 Value.nilFunc).toArray
def oA : Array Value := ((List.range 36).map (dF 2)).toArray
structure Dk (w W : World) (k : Nat) : Prop where
  r : ∀ j : Nat, j < 40 → (W.cell? ⟨w.heap.size, j, none⟩).isSome = true
  c : ∀ j : Nat, j < 40 → W.cell? ⟨w.heap.size + 1, j, none⟩ = some (dF k j)
  f : ∀ j : Nat, W.frozen? ⟨w.heap.size, j, none⟩ = false
  g : ∀ j : Nat, W.frozen? ⟨w.heap.size + 1, j, none⟩ = false
  b : Below w.heap.size w W
  s : W.heap.size = w.heap.size + 2
theorem dA_get (k j : Nat) (h : j < 40) : (dA k)[j]? = some (dF k j) := by
  unfold dA
  rw [List.getElem?_toArray, List.getElem?_map, List.getElem?_range h]; rfl
theorem dz_cell (w : World) (j : Nat) (h : j < 40) : (w.alloc (.cells dz 88)).cell? ⟨w.heap.size, j, none⟩ = some .nilFunc := by
  have e : (w.alloc (.cells dz 88)).cell? ⟨w.heap.size, j, none⟩ = dz[j]? := by simp
  rw [e]
  unfold dz
  rw [List.getElem?_toArray, List.getElem?_replicate, if_pos h]
theorem fr_setCells {X : Nat → Prop} {b : Nat} (hb : X b) : ∀ (vs : List Value) (o : Nat) {w0 w : World}, Fr X w0 w → Fr X w0 (w.setCells b o vs)
  | [], _, _, _, h => h
  | v :: r, o, _, _, h => fr_setCells hb r (o + 1) (h.setCell (.inr hb) o v)
theorem size_setCells (b : Nat) : ∀ (vs : List Value) (o : Nat) (w : World), (w.setCells b o vs).heap.size = w.heap.size
  | [], _, _ => rfl
  | v :: r, o, w => by rw [World.setCells, size_setCells b r, World.size_setCell]
theorem dA_len (k : Nat) : (dA k).toList.length = 40 := by simp [dA]
theorem dk_start (w : World) : Dk w (((w.alloc (.cells dz 88)).alloc (.cells dz 88)).setCells (w.alloc (.cells dz 88)).heap.size 0 (dA 2).toList) 2 := by
  have hz : (w.alloc (.cells dz 88)).heap.size = w.heap.size + 1 := by simp
  have hin : ∀ j, j < 40 → ((w.alloc (.cells dz 88)).alloc (.cells dz 88)).cell? ⟨w.heap.size + 1, j, none⟩ = some .nilFunc := fun j hj => by
    have := dz_cell (w.alloc (.cells dz 88)) j hj
    rw [hz] at this; exact this
  rw [hz]
  have hF : Fr (One (w.heap.size + 1)) ((w.alloc (.cells dz 88)).alloc (.cells dz 88)) (((w.alloc (.cells dz 88)).alloc (.cells dz 88)).setCells (w.heap.size + 1) 0 (dA 2).toList) := fr_setCells (X := One (w.heap.size + 1)) rfl _ _ (Fr.refl _ _)
  have hs2 : ((w.alloc (.cells dz 88)).alloc (.cells dz 88)).heap.size = w.heap.size + 2 := by simp
  refine ⟨fun j hj => ?_, fun j hj => ?_, fun j => ?_, fun j => ?_, ?_, ?_⟩
  · rw [hF.cell (by omega) (fun e => by have e : w.heap.size = w.heap.size + 1 := e; omega)]
    rw [World.cell?_alloc_some _ _ _ (by rw [dz_cell w j hj]; rfl), dz_cell w j hj]; rfl
  · have := World.cell?_setCells_in (w.heap.size + 1) (dA 2).toList 0 ((w.alloc (.cells dz 88)).alloc (.cells dz 88)) (fun i hi => by rw [dA_len] at hi; rw [Nat.zero_add, hin i hi]; rfl) j (by rw [dA_len]; exact hj)
    rw [Nat.zero_add] at this
    rw [this]
    have h2 := dA_get 2 j hj
    rw [← Array.getElem?_toList, List.getElem?_eq_getElem (by rw [dA_len]; exact hj)] at h2
    exact h2
  · rw [World.frozen?_setCells]; simp
  · rw [World.frozen?_setCells]; simp
  · have h1 : Below w.heap.size w ((w.alloc (.cells dz 88)).alloc (.cells dz 88)) := ((Below.refl _ _).alloc (Nat.le_refl _) _).alloc (by simp) _
    exact h1.trans (hF.below (by rw [hs2]; omega) fun k hk e => by have e : k = w.heap.size + 1 := e; omega)
  · rw [size_setCells]; exact hs2
theorem Dk.next {w W : World} {k : Nat} (h : Dk w W k) (h2 : 2 ≤ k) (hl : k < 15) : Dk w ((W.setCell ⟨w.heap.size + 1, k * 2, none⟩ (fnV 82)).setCell ⟨w.heap.size + 1, k * 2 + 1, none⟩ (fnV 72)) (k + 1) := by
  have hF : Fr (One (w.heap.size + 1)) W ((W.setCell ⟨w.heap.size + 1, k * 2, none⟩ (fnV 82)).setCell ⟨w.heap.size + 1, k * 2 + 1, none⟩ (fnV 72)) := ((Fr.refl (One (w.heap.size + 1)) W).setCell (.inr rfl) _ _).setCell (.inr rfl) _ _
  have hs := h.s
  refine ⟨fun j hj => ?_, fun j hj => ?_, fun j => ?_, fun j => ?_, ?_, ?_⟩
  · rw [hF.cell (by omega) (fun e => by have e : w.heap.size = w.heap.size + 1 := e; omega)]; exact h.r j hj
  · by_cases e1 : j = k * 2 + 1
    · subst e1
      rw [cs ((co (by omega)).trans (h.c _ hj))]
      unfold dF
      rw [if_pos (by omega), if_pos (by omega), if_neg (by omega)]
    · rw [co (by omega)]
      by_cases e0 : j = k * 2
      · subst e0
        rw [cs (h.c _ hj)]
        unfold dF
        rw [if_pos (by omega), if_pos (by omega), if_pos (by omega)]
      · rw [co (by omega), h.c j hj]
        unfold dF
        by_cases h36 : j < 36
        · rw [if_pos h36, if_pos h36]
          by_cases h4 : 4 ≤ j ∧ j < 2 * k
          · rw [if_pos h4, if_pos (show 4 ≤ j ∧ j < 2 * (k + 1) by omega)]
          · rw [if_neg h4, if_neg (show ¬ (4 ≤ j ∧ j < 2 * (k + 1)) by omega)]
        · rw [if_neg h36, if_neg h36]
  · rw [World.frozen?_setCell, World.frozen?_setCell]; exact h.f j
  · rw [World.frozen?_setCell, World.frozen?_setCell]; exact h.g j
  · exact (h.b.setCell (by show w.heap.size ≤ w.heap.size + 1; omega) _).setCell (by show w.heap.size ≤ w.heap.size + 1; omega) _
  · rw [World.size_setCell, World.size_setCell]; exact h.s
set_option maxHeartbeats 4000000 in
theorem deeds_any (w : World) : Calls Tryd.prog 41 #[] w fun e w' => e = .returned (.agg (dA 15)) ∧ Below w.heap.size w w' := by
  go_enter Tryd.func41, Tryd.ntmps41
  apply wp_seq_k; intro K0 hK0
  apply wp_region_lit
  refine wpList_allocTo rfl (some 0) rfl (.pointer (some ⟨w.heap.size, 0, none⟩)) (.cells dz 88) (by kernel_rfl) ?_
  refine wpList_nil ?_
  refine hK0 _ _ ?_
  apply wp_seq_k; intro K1 hK1
  apply wp_region_lit
  refine wpList_readTo rfl (some 3) rfl (.agg #[fnV 71, fnV 72]) (by kernel_rfl) ?_
  refine wpList_readTo rfl (some 4) rfl (.agg #[fnV 73, fnV 72]) (by kernel_rfl) ?_
  refine wpList_readTo rfl (some 5) rfl (.agg #[fnV 74, fnV 75]) (by kernel_rfl) ?_
  refine wpList_readTo rfl (some 6) rfl (.agg #[fnV 76, fnV 77]) (by kernel_rfl) ?_
  refine wpList_readTo rfl (some 7) rfl (.agg oA) (by kernel_rfl) ?_
  refine wpList_readTo rfl (some 8) rfl (.agg #[fnV 78]) (by kernel_rfl) ?_
  refine wpList_readTo rfl (some 9) rfl (.agg #[fnV 79]) (by kernel_rfl) ?_
  refine wpList_readTo rfl (some 10) rfl (.agg #[fnV 80]) (by kernel_rfl) ?_
  refine wpList_readTo rfl (some 11) rfl (.agg #[fnV 81]) (by kernel_rfl) ?_
  refine wpList_readTo rfl (some 12) rfl (.agg #[fnV 78, fnV 79, fnV 80, fnV 81]) (by kernel_rfl) ?_
  refine wpList_readTo rfl (some 13) rfl (.agg (dA 2)) (by kernel_rfl) ?_
  refine wpList_allocTo rfl (some 1) rfl (.pointer (some ⟨(w.alloc (.cells dz 88)).heap.size, 0, none⟩)) (.cells dz 88) (by kernel_rfl) ?_
  refine wpList_store_mid rfl 88 (.tmp 1) (.tmp 13) rfl (w.alloc (.cells dz 88)).heap.size 0 (dA 2) (by kernel_rfl) (by kernel_rfl) ?ht (by kernel_rfl) (by kernel_rfl) ?_
  case ht =>
    intro j hj
    have hj : j < 40 := hj
    constructor
    · rw [Nat.zero_add, dz_cell _ j hj]; rfl
    · simp
  refine wpList_nil ?_
  refine hK1 _ _ ?_
  have HD : Hid (Dk w (((w.alloc (.cells dz 88)).alloc (.cells dz 88)).setCells (w.alloc (.cells dz 88)).heap.size 0 (dA 2).toList) 2) := dk_start w
  clear hK1 hK0 K1 K0
  generalize ((w.alloc (.cells dz 88)).alloc (.cells dz 88)).setCells (w.alloc (.cells dz 88)).heap.size 0 (dA 2).toList = W0 at *
  generalize hA2 : dA 2 = a2
  generalize oA = ao
  simp only [Act.put, List.setIfInBounds_toArray, List.set_cons_zero, List.set_cons_succ, World.size_alloc]
  clear hA2
  go_wp2_with fail
  go_loopw [2] (fun i wr => ∃ k : Nat, 2 ≤ k ∧ k ≤ 15 ∧ i = .int .i64 k ∧ Dk w wr k) (fun i _ => 15 - (intOf i).toNat)
  case atStart => exact ⟨2, by omega, by omega, rfl, HD.out⟩
  case round =>
    rename_i wr
    obtain ⟨k, hk2, hk15, rfl, hd⟩ := hrel
    have hw1 : w.heap.size + 1 < wr.heap.size := by rw [hd.s]; omega
    by_cases hlt : k < 15
    · have c0 := hd.c (k * 2) (by omega)
      have c1 := hd.c (k * 2 + 1) (by omega)
      have g0 := hd.g (k * 2)
      have g1 := hd.g (k * 2 + 1)
      have HK : Hid _ := hd
      have hki : (k : Int) ≤ 14 := by omega
      have hki2 : (2 : Int) ≤ k := by omega
      clear hd HD
      generalize dF k (k * 2) = v0 at c0
      generalize dF k (k * 2 + 1) = v1 at c1
      go_wp2_with fail
      go_roundw
      case rel => exact ⟨k + 1, by omega, by omega, by go_num, HK.out.next hk2 hlt⟩
      case measure => simp [intOf]; omega
    · obtain rfl : k = 15 := by omega
      have HK : Hid _ := hd
      clear hd HD hlt
      go_upto_region 6 with fail
      rename_i K3 hK3
      have hr : wr.rangeAt (w.heap.size + 1) 0 (dA 15).toList := fun j v hv => by
        have hj : j < 40 := by
          have := (List.getElem?_eq_some_iff.1 hv).1
          rw [dA_len] at this; exact this
        rw [Array.getElem?_toList, dA_get 15 j hj] at hv
        cases hv
        rw [Nat.zero_add]
        exact HK.out.c j hj
      have hi : (Tryd.prog.info? 88).map (·.size) = some (dA 15).toList.length := by rw [dA_len]; kernel_rfl
      have hi2 : (Tryd.prog.info? 88).map (·.size) = some (dA 15).size := by kernel_rfl
      have h1 : (dA 15).all (·.oneCell') = true := by kernel_rfl
      have ht : wr.there w.heap.size 0 (dA 15).size := fun j hj => by
        have hj : j < 40 := by rw [show (dA 15).size = 40 by kernel_rfl] at hj; exact hj
        rw [Nat.zero_add]
        exact ⟨HK.out.r j hj, HK.out.f j⟩
      generalize hA : dA 15 = A at *
      apply wp_region_lit
      refine wpList_load_mid rfl 88 (.tmp 1) rfl (w.heap.size + 1) 0 rfl A.toList _ hr Tryd.underlying88 rfl hi ?_
      refine wpList_store_mid rfl 88 (.tmp 0) (.tmp 22) rfl w.heap.size 0 A rfl rfl ht hi2 h1 ?_
      refine wpList_nil ?_
      refine hK3 _ _ ?_
      refine wp_ret ?_
      have hl := run_loadVar_mid (P := Tryd.prog) (wr.setCells w.heap.size 0 A.toList) w.heap.size 0 88 A.toList _ (World.rangeAt_setCells_same wr w.heap.size 0 A.toList (by simpa using ht)) Tryd.underlying88 rfl hi
      rw [Array.toArray_toList] at hl
      refine bodyPost_ret (v := .agg A) (by simp [results, Tryd.results41, asAddr, Act.put, hl]) rfl ⟨by rw [hA], ?_⟩
      have hF : Fr (One w.heap.size) wr (wr.setCells w.heap.size 0 A.toList) := fr_setCells (X := One w.heap.size) rfl _ _ (Fr.refl _ _)
      exact HK.out.b.trans (hF.below HK.out.b.size fun k hk e => by have e : k = w.heap.size := e; omega)
end Go.Proofs.YtccakjijoadjkaaDoor.Sm
