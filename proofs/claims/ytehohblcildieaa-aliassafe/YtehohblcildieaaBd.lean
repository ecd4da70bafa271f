/- The statement AliasSafe: out of what the callees answer. Conditions: the list and the state lie in memory. -/
import Derived.Test.YtehohblcildieaaAk
import Derived.Test.YtehohblcildieaaBb
import Derived.Test.YtehohblcildieaaAe
import Derived.Test.YtehohblcildieaaLk
import Derived.Deep.DeepCutAuto
import Derived.Deep.CutBlock
namespace Go.Proofs.Ytehohblcildieaa.Al
open Go.ChangeShapes Go.WideShapes Go.ChangeAt Go.RowKit Go.Great
open _root_.Go.Proofs.Ytehohblcildieaa.Op _root_.Go.Proofs.Ytehohblcildieaa.So
set_option maxRecDepth 20000

theorem there_two (w1 : World) (R0 : Nat → Int) (hR : ∀ j, In64 (R0 j)) : (((w1.alloc (.cells (ncs 32 zeroF).toArray 30)).alloc (.cells (ncs 256 zeroF).toArray 31))).there w1.heap.size 0 32 ∧ ((((w1.alloc (.cells (ncs 32 zeroF).toArray 30)).alloc (.cells (ncs 256 zeroF).toArray 31))).setCells w1.heap.size 0 (ncs 32 R0)).there (w1.heap.size + 1) 0 256 := by
  have e2 : (w1.alloc (.cells (ncs 32 zeroF).toArray 30)).heap.size = w1.heap.size + 1 := by simp
  have a2 := (At.new w1 (ncs 32 zeroF).toArray 30).alloc (.cells (ncs 256 zeroF).toArray 31)
  have a3 := At.new (w1.alloc (.cells (ncs 32 zeroF).toArray 30)) (ncs 256 zeroF).toArray 31
  rw [e2] at a3
  have hm : Rm ((w1.alloc (.cells (ncs 32 zeroF).toArray 30)).alloc (.cells (ncs 256 zeroF).toArray 31)) w1.heap.size (w1.heap.size + 1) zeroF zeroF := ⟨fun j hj => a2.c j _ (by rw [List.getElem?_toArray]; exact ncs_get hj), fun j hj => a3.c j _ (by rw [List.getElem?_toArray]; exact ncs_get hj), a2.f, a3.f, a2.lt, a3.lt, by omega, zero_in, zero_in⟩
  have k1 := there_of hm.r hm.rf zeroF
  have k2 := there_of (hm.putR hR).m (hm.putR hR).mf zeroF
  rw [show (ncs 32 zeroF).toArray.size = 32 by rw [List.size_toArray, ncs_len]] at k1
  rw [show (ncs 256 zeroF).toArray.size = 256 by rw [List.size_toArray, ncs_len]] at k2
  exact ⟨k1, k2⟩
set_option maxHeartbeats 16000000 in
theorem law_safe (ao : Option Addr) (cap : Nat) (xs : List O) (ra ma : Option Addr) (rc mc : Nat) (rs ms : List Int) (n : Int) (w : World) (h : OpsAt w ao xs) (hcap : xs.length ≤ cap) (h1 : NL w ra rs) (h2 : NL w ma ms) (hr : ∀ x ∈ rs, In64 x) (hm : ∀ x ∈ ms, In64 x) :
    Calls Try.prog 4 #[.slice ao xs.length cap, .agg #[.slice ra rs.length rc, .slice ma ms.length mc], .int .i64 n] w fun e w' => e = .returned (.bool true) ∧ Below w.heap.size w w' := by
  have HSt : Hid (∀ W, Below w.heap.size w W → Calls Try.prog 13 #[.agg #[.slice ra rs.length rc, .slice ma ms.length mc]] W (StartPost W)) := fun W hb => start_any ra ma rc mc rs ms W (h1.up hb) (h2.up hb) hr hm
  have HW : Hid (∀ W, Calls Try.prog 6 #[] W fun e w' => e = .returned (.bool true) ∧ Below W.heap.size W w') := wakes_any
  have HO : Hid (OpsAt w ao xs ∧ xs.length ≤ cap) := ⟨h, hcap⟩
  have hlen := h.len
  clear h hcap h1 h2 hr hm
  generalize rs.length = rl at *
  generalize ms.length = ml at *
  obtain ⟨m4, hm4⟩ : ∃ m4 : Int, n.tmod 4 = m4 := ⟨_, rfl⟩
  have hb4 : -3 ≤ m4 ∧ m4 ≤ 3 := by
    have := Int.tmod_lt_of_pos n (show (0 : Int) < 4 by omega)
    have h0 := Int.natAbs_tmod n 4
    have h3 : n.natAbs % (4 : Int).natAbs < 4 := Nat.mod_lt _ (by decide)
    omega
  obtain ⟨b41, b42⟩ := hb4
  obtain ⟨q4, hq4, hq5⟩ : ∃ q4 : Nat, (m4 + 4).tmod 4 = (q4 : Int) ∧ q4 ≤ 3 := by
    refine ⟨((m4 + 4).tmod 4).toNat, ?_, ?_⟩
    · rw [Int.tmod_eq_emod_of_nonneg (by omega)]; omega
    · rw [Int.tmod_eq_emod_of_nonneg (by omega)]; omega
  go_enter Try.func4, Try.ntmps4
  go_upto_region 1 with fail
  rename_i K1 hK1
  apply wp_region_lit
  refine wpList_plain rfl (fun K hK => ?_)
  go_simp
  refine hK _ _ ?_
  clear hK K
  refine wpList_plain rfl (fun K hK => ?_)
  go_simp
  refine Calls.mono (HSt.out _ (by go_grown)) ?_
  rintro e w1 ⟨R0, M0, ok, rfl, hR, hM, hb⟩
  refine hK _ _ ?_
  clear hK K
  have HOu : Hid (Ou w ((((w1.alloc (.cells (ncs 32 zeroF).toArray 30)).alloc (.cells (ncs 256 zeroF).toArray 31)).setCells w1.heap.size 0 (ncs 32 R0)).setCells (w1.heap.size + 1) 0 (ncs 256 M0)) xs w1.heap.size (w1.heap.size + 1) R0 R0 M0 none 0 []) := ou_start w w1 xs R0 M0 (one_new w _ _ hb).2.1 hR hM
  have hth : (((w1.alloc (.cells (ncs 32 zeroF).toArray 30)).alloc (.cells (ncs 256 zeroF).toArray 31))).there w1.heap.size 0 32 ∧ ((((w1.alloc (.cells (ncs 32 zeroF).toArray 30)).alloc (.cells (ncs 256 zeroF).toArray 31))).setCells w1.heap.size 0 (ncs 32 R0)).there (w1.heap.size + 1) 0 256 := there_two w1 R0 hR
  have hz1 : (w1.alloc (.cells (ncs 32 zeroF).toArray 30)).heap.size = w1.heap.size + 1 := by simp
  obtain ⟨L32, hL32⟩ : ∃ L, L = ncs 32 R0 := ⟨_, rfl⟩
  obtain ⟨L256, hL256⟩ : ∃ L, L = ncs 256 M0 := ⟨_, rfl⟩
  have i32 : (Try.prog.info? 30).map (·.size) = some L32.toArray.size := by rw [List.size_toArray, hL32, ncs_len]; exact info30
  have i256 : (Try.prog.info? 31).map (·.size) = some L256.toArray.size := by rw [List.size_toArray, hL256, ncs_len]; exact info31
  have o32 : L32.toArray.all (·.oneCell') = true := by rw [hL32]; exact ncs_one _ _
  have o256 : L256.toArray.all (·.oneCell') = true := by rw [hL256]; exact ncs_one _ _
  have s32 : L32.toArray.size = 32 := by rw [List.size_toArray, hL32, ncs_len]
  have s256 : L256.toArray.size = 256 := by rw [List.size_toArray, hL256, ncs_len]
  rw [← hL32, ← hL256] at HOu
  rw [← hL32] at hth
  rw [← hL32, ← hL256]
  clear hL32 hL256 hb hR hM
  refine wpList_readTo rfl (some 22) rfl (.tuple #[.agg L32.toArray, .agg L256.toArray, .bool ok]) (by kernel_rfl) ?_
  refine wpList_readTo rfl (some 25) rfl (.agg L32.toArray) (by kernel_rfl) ?_
  refine wpList_readTo rfl (some 26) rfl (.agg L256.toArray) (by kernel_rfl) ?_
  refine wpList_readTo rfl (some 27) rfl (.bool ok) (by kernel_rfl) ?_
  refine wpList_allocTo rfl (some 7) rfl (.pointer (some ⟨w1.heap.size, 0, none⟩)) (.cells (ncs 32 zeroF).toArray 30) (by kernel_rfl) ?_
  refine wpList_allocTo rfl (some 8) rfl (.pointer (some ⟨w1.heap.size + 1, 0, none⟩)) (.cells (ncs 256 zeroF).toArray 31) (by rw [← hz1]; kernel_rfl) ?_
  refine wpList_store_mid rfl 30 (.tmp 7) (.tmp 25) rfl w1.heap.size 0 L32.toArray (by kernel_rfl) (by kernel_rfl) (by rw [s32]; exact hth.1) i32 o32 ?_
  refine wpList_store_mid rfl 31 (.tmp 8) (.tmp 26) rfl (w1.heap.size + 1) 0 L256.toArray (by kernel_rfl) (by kernel_rfl) (by rw [s256]; exact hth.2) i256 o256 ?_
  refine wpList_readTo rfl (some 9) rfl (.bool ok) (by kernel_rfl) ?_
  refine wpList_nil ?_
  refine hK1 _ _ ?_
  clear hK1 K1 hth hz1 i32 i256 o32 o256 s32 s256
  have HOu2 : Hid (Ou w (((((w1.alloc (.cells (ncs 32 zeroF).toArray 30)).alloc (.cells (ncs 256 zeroF).toArray 31)).setCells w1.heap.size 0 L32.toArray.toList)).setCells (w1.heap.size + 1) 0 L256.toArray.toList) xs w1.heap.size (w1.heap.size + 1) R0 R0 M0 none 0 []) := HOu.out
  clear HOu
  generalize ((((w1.alloc (.cells (ncs 32 zeroF).toArray 30)).alloc (.cells (ncs 256 zeroF).toArray 31)).setCells w1.heap.size 0 L32.toArray.toList)).setCells (w1.heap.size + 1) 0 L256.toArray.toList = V at *
  generalize w1.heap.size + 1 = mb at *
  generalize w1.heap.size = rb at *
  simp only [Act.put, List.setIfInBounds_toArray, List.set_cons_zero, List.set_cons_succ]
  generalize L32.toArray = A32 at *
  generalize L256.toArray = A256 at *
  by_cases hbad : 40 < (xs.length : Int) ∨ ok = false
  · by_cases h40 : 40 < (xs.length : Int)
    · clear hbad
      go_wp2_with (first | (go_at_call 6; refine Calls.mono (HW.out _) ?_; rintro e w2 ⟨rfl, hb⟩; have HB : Hid (Below w.heap.size w w2) := HOu2.out.up.trans (hb.mono HOu2.out.up.size); clear hb))
      go_ret
      exact ⟨rfl, HB.out⟩
    · obtain rfl : ok = false := hbad.resolve_left h40
      clear hbad
      have h40' : (xs.length : Int) ≤ 40 := by omega
      go_wp2_with (first | (go_at_call 6; refine Calls.mono (HW.out _) ?_; rintro e w2 ⟨rfl, hb⟩; have HB : Hid (Below w.heap.size w w2) := HOu2.out.up.trans (hb.mono HOu2.out.up.size); clear hb))
      go_ret
      exact ⟨rfl, HB.out⟩
  · obtain rfl : ok = true := by
      cases ok
      · exact absurd (.inr rfl) hbad
      · rfl
    have h40' : (xs.length : Int) ≤ 40 := by
      rcases Int.lt_or_le 40 (xs.length : Int) with h | h
      · exact absurd (.inl h) hbad
      · exact h
    clear hbad HSt
    have hx40 : xs.length ≤ 40 := by omega
    have h40f : decide (40 < (xs.length : Int)) = false := by simp; omega
    obtain ⟨i3, e3, e3'⟩ := Option.map_eq_some_iff.1 info3
    simp only [Prod.mk.injEq] at e3'
    obtain ⟨e30, e31, e32⟩ := e3'
    have HI3 : Hid (Try.prog.info? 3 = some i3 ∧ i3.zero = some (.int .i64 0) ∧ i3.size = 1 ∧ i3.bytes = 8) := ⟨e3, e30, e31, e32⟩
    clear e3 e30 e31 e32
    obtain ⟨i5, e5, e5'⟩ := Option.map_eq_some_iff.1 info35
    simp only [Prod.mk.injEq] at e5'
    obtain ⟨e50, e51, e52⟩ := e5'
    have HI5 : Hid (Try.prog.info? 35 = some i5 ∧ i5.zero = some (.slice none 0 0) ∧ i5.size = 1 ∧ i5.bytes = 24) := ⟨e5, e50, e51, e52⟩
    clear e5 e50 e51 e52
    go_upto_block 0 with fail
    clear h40f
    go_cut [11, 12, 13] (fun v g i wr => ∃ (k : Nat) (gg : Bool) (R M : Nat → Int) (a : Option Addr) (c : Nat) (rows : List Ro1), k ≤ q4 + 1 ∧ i = .int .i64 k ∧ g = .bool gg ∧ v = .slice a rows.length c ∧ rows.length = k ∧ Ou w wr xs rb mb R0 R M a c rows)
    case first =>
      go_wp2_with fail
      go_loopw [11, 12, 13] (fun v g i wr => ∃ (k : Nat) (gg : Bool) (R M : Nat → Int) (a : Option Addr) (c : Nat) (rows : List Ro1), k ≤ q4 + 1 ∧ i = .int .i64 k ∧ g = .bool gg ∧ v = .slice a rows.length c ∧ rows.length = k ∧ Ou w wr xs rb mb R0 R M a c rows) (fun _ _ i _ => q4 + 1 - (intOf i).toNat)
      case atStart => exact ⟨0, true, R0, M0, none, 0, [], by omega, rfl, rfl, rfl, rfl, HOu2.out⟩
      case round =>
        rename World => wr
        obtain ⟨k, gg, R, M, a, c, rows, hk, rfl, rfl, rfl, hrk, hou⟩ := hrel
        have HOr : Hid (Ou w wr xs rb mb R0 R M a c rows) := hou
        clear hou HOu2
        have HRk : Hid (rows.length = k) := hrk
        clear hrk
        by_cases hlt : k < q4 + 1
        · have hki : (k : Int) < 1 + (q4 : Int) := by omega
          cases gg
          · go_wp2_with fail
            go_meet
            exact ⟨k, false, R, M, a, c, rows, hk, rfl, rfl, rfl, HRk.out, HOr.out⟩
          · go_wp2_with fail
            go_loopw [12, 14, 15] (fun g v i wy => ∃ (gg : Bool) (R M : Nat → Int) (ra : Option Addr) (rc : Nat) (row : List Int) (RR : Nat → Nat → Int), i = .int .i64 row.length ∧ g = .bool gg ∧ v = .slice ra row.length rc ∧ In w wr wy xs rb mb R0 R M a c rows ra rc row RR) (fun _ _ i _ => xs.length - (intOf i).toNat)
            case atStart => exact ⟨true, R, M, none, 0, [], fun _ => R, rfl, rfl, rfl, HOr.out.begin⟩
            case round =>
              rename World => wy
              obtain ⟨gg, R1, M1, ra1, rc1, row, RR, rfl, rfl, rfl, hin⟩ := hrel
              have HIn : Hid (In w wr wy xs rb mb R0 R1 M1 a c rows ra1 rc1 row RR) := hin
              have hrl : row.length ≤ xs.length := hin.rg.len
              clear hin
              have HAp : Hid (∀ {g c2 : Nat} {W3 : World}, (wy.alloc (.cells #[.slice ra1 row.length rc1] 35)).grownBy W3 (Value.ownBlock (.slice a rows.length c)) → (Value.ownBlock (.slice a rows.length c) = some g ∨ g = (wy.alloc (.cells #[.slice ra1 row.length rc1] 35)).heap.size) → W3.ownsRow (mb + 1) 35 1 (.slice (some ⟨g, 0, none⟩) (rows.length + 1) c2) (rows.length + 1) (rcs rows ++ [.slice ra1 row.length rc1]) → Ou w W3 xs rb mb R0 R1 M1 (some ⟨g, 0, none⟩) c2 (rows ++ [⟨ra1, rc1, row⟩])) := fun {g c2 W3} h1 h2 h3 => Ou.snoc HOr.out (HIn.out.up' ((Below.refl _ _).alloc (Nat.le_refl _) _)) h1 h2 h3
              have HCo : Hid ((wy.alloc (.cells #[.slice ra1 row.length rc1] 35)).ownsRow (mb + 1) 35 1 (.slice a rows.length c) rows.length (rcs rows) ∧ mb + 1 ≤ wy.heap.size) := ⟨(HOr.out.cs.fr (HIn.out.up' ((Below.refl _ _).alloc (Nat.le_refl _) (.cells #[.slice ra1 row.length rc1] 35))).fr (fun k hk _ e => by have := HOr.out.lo; omega)).row, (by have h5 := HIn.out.rm.ml; omega)⟩
              have hrk4 : rows.length ≤ 4 := by have := HRk.out; omega
              by_cases hil : row.length < xs.length
              · cases gg
                · have hii0 : (row.length : Int) < xs.length := by omega
                  go_wp2_with (first
                    | (at_builtin; refine wpList_append_lies _ rfl _ _ 34 rfl (mb + 1) 35 i5 (.slice none 0 0) 1 24 Try.underlying34 HI5.out.1 HI5.out.2.1 HI5.out.2.2.1 HI5.out.2.2.2 rfl (by decide) _ _ _ rfl HCo.out.1 ⟨wy.heap.size, 0, none⟩ 1 1 [.slice ra1 row.length rc1] rfl rfl (World.news_of_block (heap_alloc_new wy (.cells #[.slice ra1 row.length rc1] 35))) (by simp [Value.oneCell']) (by decide) (by unfold maxLen; omega) (by omega) (by have h5 := HCo.out.2; simp; omega) _ rfl ?_; intro g cap3 w3 hown hgrow hg hlt3; have HO3 : Hid (Ou w w3 xs rb mb R0 R1 M1 (some ⟨g, 0, none⟩) cap3 (rows ++ [⟨ra1, rc1, row⟩])) := (HAp.out hgrow hg hown); clear hown hgrow hg hlt3))
                  go_roundw
                  case rel => exact ⟨k + 1, false, R1, M1, some ⟨g, 0, none⟩, cap3, rows ++ [⟨ra1, rc1, row⟩], by omega, by go_num, rfl, by simp, by simp [HRk.out], HO3.out⟩
                  case measure => simp [intOf]; omega
                · obtain ⟨lb, lf, rfl, hz, hox⟩ := (HO.out.1.below HIn.out.up).is (by omega)
                  obtain ⟨o0, o1, o2, o3, o4⟩ := hox row.length hil
                  have hii : (row.length : Int) < xs.length := by omega
                  have HDn : Hid (∀ W, Below wy.heap.size wy W → Calls Try.prog 14 #[xs[row.length].val, pt rb, pt mb] W (DonePost W rb mb xs[row.length] R1)) := fun W hb => done_any _ rb mb R1 M1 W (HO.out.1.ok _ (List.getElem_mem hil)) (HIn.out.rm.up hb)
                  have HNx : Hid (∀ {W1 : World} {R2 M2 : Nat → Int}, Rm W1 rb mb R2 M2 → Fr (fun k => k = rb ∨ k = mb) wy W1 → (∀ r : Int, 0 ≤ r → wt r xs[row.length] = false → R2 r.toNat = R1 r.toNat) → Mi w wr W1 xs rb mb R0 R2 M2 ra1 rc1 row RR) := fun {W1 R2 M2} h1 h2 h3 => HIn.out.mid ⟨HOr.out.rm.rl, HOr.out.rm.ml⟩ (by have := HOr.out.lo; omega) h1 h2 (fun _ => h3)
                  have HRR : Hid (RR row.length = R1) := HIn.out.at_
                  have HNy : Hid (∀ {W W3 : World} {R2 M2 : Nat → Int} {g c2 : Nat}, Mi w wr W xs rb mb R0 R2 M2 ra1 rc1 row RR → W.grownBy W3 (Value.ownBlock (.slice ra1 row.length rc1)) → W3.ownsRow wr.heap.size 3 1 (.slice (some ⟨g, 0, none⟩) (row.length + 1) c2) (row.length + 1) (nums row ++ [.int .i64 (cellC xs[row.length] R1)]) → In w wr W3 xs rb mb R0 R2 M2 a c rows (some ⟨g, 0, none⟩) c2 (row ++ [cellC xs[row.length] R1]) (fun k => if k ≤ row.length then RR k else R2)) := fun {W W3 R2 M2 g c2} h1 h2 h3 => h1.next a c rows hil ⟨HOr.out.rm.rl, HOr.out.rm.ml⟩ HOr.out.up.size (by rw [HRR.out]) h2 h3
                  clear hox
                  generalize xs[row.length] = o at *
                  go_wp2_with (first
                    | (go_at_call 14; refine Calls.mono (HDn.out _ (Below.refl _ _)) ?_; rintro e w2 ⟨fine, R2, M2, rfl, hr2, hf2, hk2⟩; have HMi : Hid (Mi w wr w2 xs rb mb R0 R2 M2 ra1 rc1 row RR) := (HNx.out hr2 hf2 hk2); clear hr2 hf2 hk2 HDn HNx o0 o1 o2 o3 o4)
                    | (at_builtin; refine wpList_append_lies _ rfl _ _ 35 rfl wr.heap.size 3 i3 (.int .i64 0) 1 8 Try.underlying35 HI3.out.1 HI3.out.2.1 HI3.out.2.2.1 HI3.out.2.2.2 rfl (by decide) _ _ _ rfl (HMi.out.own.alloc _) ⟨w2.heap.size, 0, none⟩ 1 1 [.int .i64 (cellC o R1)] rfl rfl (World.news_of_block (heap_alloc_new w2 (.cells #[.int .i64 (cellC o R1)] 3))) (by simp [Value.oneCell']) (by decide) (by unfold maxLen; omega) (by omega) (by have h5 := HMi.out.fr.size; simp; omega) _ rfl ?_; intro g cap3 w3 hown hgrow hg hlt3; have HI3' : Hid (In w wr w3 xs rb mb R0 R2 M2 a c rows (some ⟨g, 0, none⟩) cap3 (row ++ [cellC o R1]) (fun k => if k ≤ row.length then RR k else R2)) := (HNy.out (HMi.out.up' ((Below.refl _ _).alloc (Nat.le_refl _) _)) hgrow hown); clear hown hgrow hg hlt3))
                  go_roundw
                  case rel => exact ⟨fine, R2, M2, some ⟨g, 0, none⟩, cap3, row ++ [cellC o R1], _, by simp, rfl, by simp, HI3'.out⟩
                  case measure => simp [intOf]; omega
              · have hil2 : ¬ (row.length : Int) < xs.length := by omega
                go_wp2_with (first
                  | (at_builtin; refine wpList_append_lies _ rfl _ _ 34 rfl (mb + 1) 35 i5 (.slice none 0 0) 1 24 Try.underlying34 HI5.out.1 HI5.out.2.1 HI5.out.2.2.1 HI5.out.2.2.2 rfl (by decide) _ _ _ rfl HCo.out.1 ⟨wy.heap.size, 0, none⟩ 1 1 [.slice ra1 row.length rc1] rfl rfl (World.news_of_block (heap_alloc_new wy (.cells #[.slice ra1 row.length rc1] 35))) (by simp [Value.oneCell']) (by decide) (by unfold maxLen; omega) (by omega) (by have h5 := HCo.out.2; simp; omega) _ rfl ?_; intro g cap3 w3 hown hgrow hg hlt3; have HO3 : Hid (Ou w w3 xs rb mb R0 R1 M1 (some ⟨g, 0, none⟩) cap3 (rows ++ [⟨ra1, rc1, row⟩])) := (HAp.out hgrow hg hown); clear hown hgrow hg hlt3))
                go_roundw
                case rel => exact ⟨k + 1, gg, R1, M1, some ⟨g, 0, none⟩, cap3, rows ++ [⟨ra1, rc1, row⟩], by omega, by go_num, rfl, by simp, by simp [HRk.out], HO3.out⟩
                case measure => simp [intOf]; omega
        · have hkq : ¬ (k : Int) < (1 : Int) + (q4 : Int) := by omega
          go_wp2_with fail
          go_meet
          exact ⟨k, gg, R, M, a, c, rows, hk, rfl, rfl, rfl, HRk.out, HOr.out⟩
    case rest =>
      rename World => wr
      obtain ⟨k, gg, R, M, a, c, rows, hk, rfl, rfl, rfl, hrk, hou⟩ := hcut
      have HOr : Hid (Ou w wr xs rb mb R0 R M a c rows) := hou
      clear hou HOu2
      have HRk : Hid (rows.length = k) := hrk
      clear hrk
      have hr4 : rows.length ≤ 4 := by have := HRk.out; omega
      have HB0 : Hid (Below wr.heap.size wr wr) := Below.refl _ _
      go_wp2_with fail
      go_loopw [18] (fun i wz => ∃ k1 : Nat, k1 ≤ rows.length ∧ i = .int .i64 k1 ∧ Below wr.heap.size wr wz) (fun i _ => rows.length - (intOf i).toNat)
      case atStart => exact ⟨0, by omega, rfl, HB0.out⟩
      case round =>
        rename World => w3
        obtain ⟨k1, hk1, rfl, hb3⟩ := hrel
        have HB3 : Hid (Below wr.heap.size wr w3) := hb3
        clear hb3
        by_cases hkl : k1 < rows.length
        · have hkli : (k1 : Int) < rows.length := by omega
          obtain ⟨g, rfl, hgz, hgc⟩ := (HOr.out.up' HB3.out).cs.at_ (by omega)
          have HGc : Hid (∀ W, Below wr.heap.size wr W → g < W.heap.size ∧ ∀ (i : Nat) (hi : i < rows.length), W.cell? ⟨g, i, none⟩ = some (.slice rows[i].a rows[i].l.length rows[i].c)) := fun W hb => by
            obtain ⟨g', e, z, hc⟩ := (HOr.out.up' hb).cs.at_ (by omega)
            cases e; exact ⟨z, hc⟩
          have HNl : Hid (∀ W, Below wr.heap.size wr W → ∀ r ∈ rows, NL W r.a r.l) := fun W hb r hr => ((HOr.out.up' hb).cs.each r hr).nl
          clear hgz hgc
          obtain ⟨⟨pa, pc, pl⟩, hpk⟩ : ∃ r, rows[k1] = r := ⟨_, rfl⟩
          have HPk : Hid (rows[k1] = ⟨pa, pc, pl⟩ ∧ (⟨pa, pc, pl⟩ : Ro1) ∈ rows) := ⟨hpk, by rw [← hpk]; exact List.getElem_mem hkl⟩
          clear hpk
          have HPc : Hid (∀ W, Below wr.heap.size wr W → W.cell? ⟨g, k1, none⟩ = some (.slice pa pl.length pc)) := fun W hb => by
            have := (HGc.out W hb).2 k1 hkl
            rw [HPk.out.1] at this; exact this
          have hpl : pl.length ≤ xs.length := ways_len HOr.out.ws HPk.out.2
          go_wp2_with fail
          go_loopw [19] (fun i wz => ∃ h1 : Nat, k1 ≤ h1 ∧ h1 ≤ rows.length ∧ i = .int .i64 h1 ∧ Below wr.heap.size wr wz) (fun i _ => rows.length - (intOf i).toNat)
          case atStart => exact ⟨k1, Nat.le_refl _, by omega, rfl, HB3.out⟩
          case round =>
            rename World => w4
            obtain ⟨h1, hkh, hh1, rfl, hb4⟩ := hrel
            have HB4' : Hid (Below wr.heap.size wr w4) := hb4
            clear hb4
            by_cases hhl : h1 < rows.length
            · have hhli : (h1 : Int) < rows.length := by omega
              obtain ⟨⟨sa, sc, sl⟩, hsk⟩ : ∃ r, rows[h1] = r := ⟨_, rfl⟩
              have HSk : Hid (rows[h1] = ⟨sa, sc, sl⟩ ∧ (⟨sa, sc, sl⟩ : Ro1) ∈ rows) := ⟨hsk, by rw [← hsk]; exact List.getElem_mem hhl⟩
              clear hsk
              have HSc : Hid (∀ W, Below wr.heap.size wr W → W.cell? ⟨g, h1, none⟩ = some (.slice sa sl.length sc)) := fun W hb => by
                have := (HGc.out W hb).2 h1 hhl
                rw [HSk.out.1] at this; exact this
              have hsl : sl.length ≤ xs.length := ways_len HOr.out.ws HSk.out.2
              go_wp2_with fail
              go_loopw [20] (fun i wz => ∃ i1 : Nat, i1 ≤ pl.length ∧ i = .int .i64 i1 ∧ Below wr.heap.size wr wz) (fun i _ => pl.length - (intOf i).toNat)
              case atStart => exact ⟨0, by omega, rfl, HB4'.out⟩
              case round =>
                rename World => w5
                obtain ⟨i1, hi1, rfl, hb5⟩ := hrel
                have HB5' : Hid (Below wr.heap.size wr w5) := hb5
                clear hb5
                have cp := HPc.out w5 HB5'.out
                have cz := (HGc.out w5 HB5'.out).1
                by_cases hil : i1 < pl.length
                · have hili : (i1 : Int) < pl.length := by omega
                  go_wp2_with fail
                  clear cp cz
                  go_loopw [21] (fun i wz => ∃ j1 : Nat, j1 ≤ sl.length ∧ i = .int .i64 j1 ∧ Below wr.heap.size wr wz) (fun i _ => sl.length - (intOf i).toNat)
                  case atStart => exact ⟨0, by omega, rfl, HB5'.out⟩
                  case round =>
                    rename World => w6
                    obtain ⟨j1, hj1, rfl, hb6⟩ := hrel
                    have HB4 : Hid (Below wr.heap.size wr w6) := hb6
                    clear hb6
                    have cp := HPc.out w6 HB4.out
                    have cs := HSc.out w6 HB4.out
                    have cz := (HGc.out w6 HB4.out).1
                    by_cases hjl : j1 < sl.length
                    · have hjli : (j1 : Int) < sl.length := by omega
                      obtain ⟨pb, pf, rfl, pz, px⟩ := (HNl.out w6 HB4.out _ HPk.out.2).is (show 0 < pl.length by omega)
                      obtain ⟨sb, sf, rfl, sz, sx⟩ := (HNl.out w6 HB4.out _ HSk.out.2).is (show 0 < sl.length by omega)
                      have p0 : w6.cell? ⟨pb, pf + i1, none⟩ = some (.int .i64 pl[i1]) := px i1 hil
                      have s0 : w6.cell? ⟨sb, sf + j1, none⟩ = some (.int .i64 sl[j1]) := sx j1 hjl
                      clear px sx
                      obtain ⟨lb, lf, rfl, lz, lx⟩ := (HO.out.1.below (HOr.out.up.trans (HB4.out.mono HOr.out.up.size))).is (by omega)
                      have x0 := (lx i1 (by omega)).c0
                      have y0 := (lx j1 (by omega)).c0
                      have hix : (i1 : Int) < xs.length := by omega
                      have hjx : (j1 : Int) < xs.length := by omega
                      clear lx
                      have HRt : Hid (∀ W, Below wr.heap.size wr W → Calls Try.prog 10 #[.slice (some ⟨lb, lf, none⟩) xs.length cap, .int .i64 i1, .int .i64 j1] W fun e w' => e = .returned (.bool (roundB xs i1 j1)) ∧ Below W.heap.size W w') := fun W hb => round_any _ cap xs i1 j1 W (HO.out.1.below (HOr.out.up.trans (hb.mono HOr.out.up.size)))
                      have HMt : Hid (∀ W, Below wr.heap.size wr W → Calls Try.prog 8 #[.slice (some ⟨lb, lf, none⟩) xs.length cap, .int .i64 i1, .int .i64 j1] W fun e w' => e = .returned (.bool (meetB xs i1 j1)) ∧ Below W.heap.size W w') := fun W hb => meet_any _ cap xs i1 j1 W (HO.out.1.below (HOr.out.up.trans (hb.mono HOr.out.up.size))) HO.out.2
                      have HRnd : Hid (¬ pl[i1] < 0 → pl[i1] = sl[j1] → ¬ (xs[i1].op = 15 ∧ xs[j1].op = 15) → roundB xs i1 j1 = true) := fun q1 q2 q3 => ways_round HO.out.1.ok HOr.out.ws HPk.out.2 HSk.out.2 hil hjl (show 0 ≤ pl[i1] by omega) q2 (by rw [atL_at (by omega), atL_at (by omega)]; exact q3)
                      have HMet : Hid (h1 = k1 → i1 < j1 → ¬ pl[i1] < 0 → pl[i1] = sl[j1] → ¬ (xs[i1].op = 15 ∧ xs[j1].op = 15) → meetB xs i1 j1 = true) := fun q0 qi q1 q2 q3 => by
                        have e : sl = pl := by
                          have e1 := HSk.out.1
                          have e2 := HPk.out.1
                          subst q0
                          rw [e1] at e2
                          injection e2
                        subst e
                        exact ways_meet HO.out.1.ok HOr.out.ws HPk.out.2 qi hil hjl (show 0 ≤ sl[i1] by omega) q2 (by rw [atL_at (by omega), atL_at (by omega)]; exact q3)
                      generalize pl[i1] = vx at *
                      generalize sl[j1] = vy at *
                      generalize xs[i1].op = ox at *
                      generalize xs[j1].op = oy at *
                      clear HI3 HI5 HW HGc HNl HPk HPc HSk HSc HOr HRk HO
                      by_cases hneg : vx < 0
                      · as_aux_lemma =>
                          have hx0 : vx < 0 := hneg
                          clear hneg HRnd HMet
                          go_wp2_with fail
                          go_quiet (fail)
                          have HB5 : Hid (Below wr.heap.size wr (w6.drewN nq)) := drewN_below HB4.out nq
                          generalize w6.drewN nq = w7 at *
                          go_wp2_with fail
                          go_roundw
                          case rel => exact ⟨j1 + 1, by omega, by go_num, HB5.out⟩
                          case measure => simp [intOf]; omega
                      · by_cases hxy : vx = vy
                        · subst hxy
                          by_cases hll : ox = 15 ∧ oy = 15
                          · as_aux_lemma =>
                              have hxn : ¬ vx < 0 := hneg
                              obtain ⟨l1, l2⟩ := hll
                              clear hneg HRnd HMet
                              subst l1 l2
                              go_wp2_with fail
                              go_quiet (fail)
                              have HB5 : Hid (Below wr.heap.size wr (w6.drewN nq)) := drewN_below HB4.out nq
                              generalize w6.drewN nq = w7 at *
                              go_wp2_with fail
                              go_roundw
                              case rel => exact ⟨j1 + 1, by omega, by go_num, HB5.out⟩
                              case measure => simp [intOf]; omega
                          · have hR := HRnd.out hneg rfl hll
                            rw [hR] at HRt
                            have hxn : ¬ vx < 0 := hneg
                            have hlo : ox = 15 → ¬ oy = 15 := fun e1 e2 => hll ⟨e1, e2⟩
                            have HMx : Hid (h1 = k1 → i1 < j1 → meetB xs i1 j1 = true) := fun q0 qi => HMet.out q0 qi hneg rfl hll
                            clear hneg hll hR HRnd HMet
                            by_cases hox15 : ox = 15
                            · have hoy15 : ¬ oy = 15 := hlo hox15
                              clear hlo
                              as_aux_lemma =>
                                subst hox15
                                go_wp2_with fail
                                go_quiet (fail)
                                have HB5 : Hid (Below wr.heap.size wr (w6.drewN nq)) := drewN_below HB4.out nq
                                generalize w6.drewN nq = w7 at *
                                have h0x : 0 ≤ vx := by omega
                                have hoyb : (oy == 15) = false := by simpa using hoy15
                                by_cases hhk : h1 = k1
                                · obtain rfl : k1 = h1 := hhk.symm
                                  by_cases hij : i1 < j1
                                  · have hM := HMx.out rfl hij
                                    rw [hM] at HMt
                                    have hiji : (i1 : Int) < j1 := by omega
                                    have hijn : ¬ (i1 : Int) = j1 := by omega
                                    clear hM HMx hij
                                    go_wp2_with (first | (go_at_call 8; refine Calls.mono (HMt.out _ HB5.out) ?_; rintro e w8 ⟨rfl, hb⟩; have HB6 : Hid (Below wr.heap.size wr w8) := HB5.out.trans (hb.mono HB5.out.size); clear hb) | (go_at_call 10; refine Calls.mono (HRt.out _ HB6.out) ?_; rintro e w9 ⟨rfl, hb⟩; have HB7 : Hid (Below wr.heap.size wr w9) := HB6.out.trans (hb.mono HB6.out.size); clear hb))
                                    all_goals try (rename_i hh; exfalso; revert hh; simp [h0x, hoyb]; done)
                                    go_roundw
                                    case rel => exact ⟨j1 + 1, by omega, by go_num, HB7.out⟩
                                    case measure => simp [intOf]; omega
                                  · by_cases hij2 : i1 = j1
                                    · obtain rfl : j1 = i1 := hij2.symm
                                      clear HMx hij
                                      go_wp2_with fail
                                      all_goals try (rename_i hh; exfalso; revert hh; simp [h0x, hoyb]; done)
                                      go_roundw
                                      case rel => exact ⟨j1 + 1, by omega, by go_num, HB5.out⟩
                                      case measure => simp [intOf]; omega
                                    · have hiji : ¬ (i1 : Int) < j1 := by omega
                                      have hijn : ¬ (i1 : Int) = j1 := by omega
                                      clear HMx hij hij2
                                      go_wp2_with (first | (go_at_call 10; refine Calls.mono (HRt.out _ HB5.out) ?_; rintro e w9 ⟨rfl, hb⟩; have HB7 : Hid (Below wr.heap.size wr w9) := HB5.out.trans (hb.mono HB5.out.size); clear hb))
                                      all_goals try (rename_i hh; exfalso; revert hh; simp [h0x, hoyb]; done)
                                      go_roundw
                                      case rel => exact ⟨j1 + 1, by omega, by go_num, HB7.out⟩
                                      case measure => simp [intOf]; omega
                                · have hhki : ¬ (h1 : Int) = k1 := by omega
                                  have hhkg : (k1 : Int) < h1 := by omega
                                  clear HMx hhk
                                  go_wp2_with (first | (go_at_call 10; refine Calls.mono (HRt.out _ HB5.out) ?_; rintro e w9 ⟨rfl, hb⟩; have HB7 : Hid (Below wr.heap.size wr w9) := HB5.out.trans (hb.mono HB5.out.size); clear hb))
                                  all_goals try (rename_i hh; exfalso; revert hh; simp [h0x, hoyb]; done)
                                  go_roundw
                                  case rel => exact ⟨j1 + 1, by omega, by go_num, HB7.out⟩
                                  case measure => simp [intOf]; omega
                            · clear hlo
                              as_aux_lemma =>
                                go_wp2_with fail
                                go_quiet (fail)
                                have HB5 : Hid (Below wr.heap.size wr (w6.drewN nq)) := drewN_below HB4.out nq
                                generalize w6.drewN nq = w7 at *
                                have h0x : 0 ≤ vx := by omega
                                have hoxb : (ox == 15) = false := by simpa using hox15
                                by_cases hhk : h1 = k1
                                · obtain rfl : k1 = h1 := hhk.symm
                                  by_cases hij : i1 < j1
                                  · have hM := HMx.out rfl hij
                                    rw [hM] at HMt
                                    have hiji : (i1 : Int) < j1 := by omega
                                    have hijn : ¬ (i1 : Int) = j1 := by omega
                                    clear hM HMx hij
                                    go_wp2_with (first | (go_at_call 8; refine Calls.mono (HMt.out _ HB5.out) ?_; rintro e w8 ⟨rfl, hb⟩; have HB6 : Hid (Below wr.heap.size wr w8) := HB5.out.trans (hb.mono HB5.out.size); clear hb) | (go_at_call 10; refine Calls.mono (HRt.out _ HB6.out) ?_; rintro e w9 ⟨rfl, hb⟩; have HB7 : Hid (Below wr.heap.size wr w9) := HB6.out.trans (hb.mono HB6.out.size); clear hb))
                                    go_roundw
                                    case rel => exact ⟨j1 + 1, by omega, by go_num, HB7.out⟩
                                    case measure => simp [intOf]; omega
                                  · by_cases hij2 : i1 = j1
                                    · obtain rfl : j1 = i1 := hij2.symm
                                      clear HMx hij
                                      go_wp2_with fail
                                      go_roundw
                                      case rel => exact ⟨j1 + 1, by omega, by go_num, HB5.out⟩
                                      case measure => simp [intOf]; omega
                                    · have hiji : ¬ (i1 : Int) < j1 := by omega
                                      have hijn : ¬ (i1 : Int) = j1 := by omega
                                      clear HMx hij hij2
                                      go_wp2_with (first | (go_at_call 10; refine Calls.mono (HRt.out _ HB5.out) ?_; rintro e w9 ⟨rfl, hb⟩; have HB7 : Hid (Below wr.heap.size wr w9) := HB5.out.trans (hb.mono HB5.out.size); clear hb))
                                      go_roundw
                                      case rel => exact ⟨j1 + 1, by omega, by go_num, HB7.out⟩
                                      case measure => simp [intOf]; omega
                                · have hhki : ¬ (h1 : Int) = k1 := by omega
                                  have hhkg : (k1 : Int) < h1 := by omega
                                  clear HMx hhk
                                  go_wp2_with (first | (go_at_call 10; refine Calls.mono (HRt.out _ HB5.out) ?_; rintro e w9 ⟨rfl, hb⟩; have HB7 : Hid (Below wr.heap.size wr w9) := HB5.out.trans (hb.mono HB5.out.size); clear hb))
                                  go_roundw
                                  case rel => exact ⟨j1 + 1, by omega, by go_num, HB7.out⟩
                                  case measure => simp [intOf]; omega
                        · as_aux_lemma =>
                            have hxn : ¬ vx < 0 := hneg
                            have hne : ¬ vx = vy := hxy
                            clear hneg hxy HRnd HMet
                            go_wp2_with fail
                            go_quiet (fail)
                            have HB5 : Hid (Below wr.heap.size wr (w6.drewN nq)) := drewN_below HB4.out nq
                            generalize w6.drewN nq = w7 at *
                            go_wp2_with fail
                            go_roundw
                            case rel => exact ⟨j1 + 1, by omega, by go_num, HB5.out⟩
                            case measure => simp [intOf]; omega
                    · obtain rfl : sl.length = j1 := by omega
                      go_wp2_with fail
                      clear cp cs cz
                      go_roundw
                      case rel => exact ⟨i1 + 1, by omega, by go_num, HB4.out⟩
                      case measure => simp [intOf]; omega
                · obtain rfl : pl.length = i1 := by omega
                  go_wp2_with fail
                  clear cp cz
                  go_roundw
                  case rel => exact ⟨h1 + 1, by omega, by omega, by go_num, HB5'.out⟩
                  case measure => simp [intOf]; omega
            · obtain rfl : rows.length = h1 := by omega
              go_wp2_with fail
              go_roundw
              case rel => exact ⟨k1 + 1, by omega, by go_num, HB4'.out⟩
              case measure => simp [intOf]; omega
        · obtain rfl : rows.length = k1 := by omega
          go_wp2_with (first | (go_at_call 6; refine Calls.mono (HW.out _) ?_; rintro e w9 ⟨rfl, hb⟩; have HB9 : Hid (Below w.heap.size w w9) := (HOr.out.up.trans (HB3.out.mono HOr.out.up.size)).trans (hb.mono (HOr.out.up' HB3.out).up.size); clear hb))
          go_ret
          exact ⟨rfl, HB9.out⟩
end Go.Proofs.Ytehohblcildieaa.Al
