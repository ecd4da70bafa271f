/- The dependences from round to round (acrossRounds), read off the program by the walk. Conditions: the finder and the list lie in memory. -/
import Derived.Test.YthdpgimdakmdgaaDoorEi
namespace Go.Proofs.YthdpgimdakmdgaaDoor.Dp
open Go.ChangeShapes Go.WideShapes Go.ChangeAt Go.RowKit
open _root_.Go.Proofs.YthdpgimdakmdgaaDoor.Op _root_.Go.Proofs.YthdpgimdakmdgaaDoor.So
open _root_.Go.Proofs.YthdpgimdakmdgaaDoor.Al (meetB roundB meet_any round_any)
set_option maxRecDepth 20000

set_option maxHeartbeats 4000000 in
theorem across_any (f pb pc cap : Nat) (ao : Option Addr) (xs : List O) (ps : List Pt) (ve0 : Value) (es0 : List Ed) (w : World) (hfe : FE w f ve0 es0) (c0 : w.cell? ⟨f, 0, none⟩ = some (.slice ao xs.length cap)) (c1 : w.cell? ⟨f, 1, none⟩ = some (.slice (some ⟨pb, 0, none⟩) ps.length pc)) (hps : PsAt w pb ps) (n1 : ¬ pb = f) (n3 : ¬ ve0.ownBlock = some pb)
    (hO : ∀ W, Fr (fun k => k = f ∨ ve0.ownBlock = some k) w W → OpsAt W ao xs) (hl : ps.length = xs.length) (hn : xs.length ≤ 1024) (hpt : PtsOk ps) (he0 : es0.length ≤ 100000000) :
    Calls Tryd.prog 25 #[.pointer (some ⟨f, 0, none⟩)] w fun r w' => r = .returned (.tuple #[]) ∧ ∃ ve', FE w' f ve' (es0 ++ acrossE xs ps xs.length) ∧ Gr f ve0 w ve' w' := by
  have HS : Hid (Wi w (w.alloc (.cells #[.int .i64 0, .int .i64 0, .int .i64 0, .int .i64 0, .int .i64 0, .int .i64 0, .int .i64 0, .int .i64 0, .int .i64 0, .int .i64 0, .int .i64 0, .int .i64 0, .int .i64 0, .int .i64 0, .int .i64 0, .int .i64 0, .int .i64 0, .int .i64 0, .int .i64 0, .int .i64 0, .int .i64 0, .int .i64 0, .int .i64 0, .int .i64 0, .int .i64 0, .int .i64 0, .int .i64 0, .int .i64 0, .int .i64 0, .int .i64 0, .int .i64 0, .int .i64 0] 72)) f pb pc w.heap.size ao xs.length cap ps (fun _ => 0) ve0 ve0 es0) := wi_start hfe c0 c1 hps n1 n3 z32 72 z32_at
  have HO : Hid (∀ W ve L es, Wi w W f pb pc w.heap.size ao xs.length cap ps L ve0 ve es → OpsAt W ao xs) := fun W ve L es h => hO W h.gr.fr
  have HM : Hid (∀ W ve L es (i j : Nat), Wi w W f pb pc w.heap.size ao xs.length cap ps L ve0 ve es → Calls Tryd.prog 46 #[.slice ao xs.length cap, .int .i64 (i : Int), .int .i64 (j : Int)] W fun e w' => e = .returned (.bool (roundB xs i j)) ∧ Wi w w' f pb pc w.heap.size ao xs.length cap ps L ve0 ve es) := fun W ve L es i j h => (round_any ao cap xs i j W (HO.out _ _ _ _ h)).mono fun e w' h' => ⟨h'.1, h.up h'.2⟩
  have HP : Hid (∀ W ve L es (i j : Nat) (m : Bool), Wi w W f pb pc w.heap.size ao xs.length cap ps L ve0 ve es → i < xs.length → j < xs.length → es.length ≤ 1000000000 → Calls Tryd.prog 43 #[.pointer (some ⟨f, 0, none⟩), .agg #[.int .i64 (i : Int), .int .i64 (j : Int), .int .i64 0, .int .i64 1, .int .i8 0], .pointer (some ⟨w.heap.size, 0, none⟩), .bool m] W fun r w' => r = .returned (.tuple #[]) ∧ ∃ ve', Wi w w' f pb pc w.heap.size ao xs.length cap ps L ve0 ve' (es ++ pairE ps L 1 m i j)) := fun W ve L es i j m h hi hj he => wi_pair h hpt (by omega) (by omega) 1 m he
  have HL : Hid (ps.length = xs.length ∧ xs.length ≤ 1024 ∧ PtsOk ps ∧ es0.length ≤ 100000000) := ⟨hl, hn, hpt, he0⟩
  have hfl := hfe.lt
  have hn' : (xs.length : Int) ≤ 1024 := by omega
  clear hfe c0 c1 hps n1 n3 hO hl hn hpt he0
  generalize hlb : w.heap.size = lb at *
  go_enter Tryd.func25, Tryd.ntmps25
  go_upto_region 1 with fail
  generalize w.alloc (.cells #[.int .i64 0, .int .i64 0, .int .i64 0, .int .i64 0, .int .i64 0, .int .i64 0, .int .i64 0, .int .i64 0, .int .i64 0, .int .i64 0, .int .i64 0, .int .i64 0, .int .i64 0, .int .i64 0, .int .i64 0, .int .i64 0, .int .i64 0, .int .i64 0, .int .i64 0, .int .i64 0, .int .i64 0, .int .i64 0, .int .i64 0, .int .i64 0, .int .i64 0, .int .i64 0, .int .i64 0, .int .i64 0, .int .i64 0, .int .i64 0, .int .i64 0, .int .i64 0] 72) = W0 at *
  have c1 := HS.out.fd.cp
  have fl := HS.out.fd.fe.lt
  rw [HL.out.1] at c1
  go_wp2_with fail
  clear c1 fl
  go_loopw [12] (fun v wr => ∃ (j : Nat), j ≤ xs.length ∧ v = .int .i64 j ∧ Wi w wr f pb pc lb ao xs.length cap ps (lastW ps j) ve0 ve0 es0) (fun v _ => xs.length - (intOf v).toNat)
  case atStart => exact ⟨0, by omega, rfl, HS.out⟩
  case round =>
    rename World => wr
    obtain ⟨j, hj, rfl, hw⟩ := hrel
    have HQ : Hid (Wi w wr f pb pc lb ao xs.length cap ps (lastW ps j) ve0 ve0 es0) := hw
    clear hw HS
    by_cases hlt : j < xs.length
    · have j0 : (0 : Int) ≤ (j : Int) := by omega
      have j1 : (j : Int) < (xs.length : Int) := by omega
      have pl := HQ.out.fd.ps.lt
      have hip : j < ps.length := by rw [HL.out.1]; exact hlt
      obtain ⟨p0, p1, p2, p3, p4, p5⟩ := HQ.out.fd.ps.c j hip
      have HBc : Hid (∀ W, Below wr.heap.size wr W → _) := fun W hb => wi_bec HQ.out HL.out.2.2.1 hip (j : Int) hb
      have HNx : Hid (lastW ps (j + 1) = Dp.bec (lastW ps j) (pAt ps j) j) := rfl
      generalize ps[j] = p at *
      generalize Dp.bec (lastW ps j) (pAt ps j) j = L2 at *
      generalize lastW ps j = L at *
      go_wp2_with (first
        | (go_at_call 45; refine Calls.mono (HBc.out _ (by go_grown)) ?_; rintro e w1 ⟨rfl, hw⟩; have HR1 : Hid (Wi w w1 f pb pc lb ao xs.length cap ps L2 ve0 ve0 es0) := hw; clear hw HBc HQ pl p0 p1 p2 p3 p4 p5))
      go_roundw
      case rel => exact ⟨j + 1, by omega, by go_num, by rw [HNx.out]; exact HR1.out⟩
      case measure => simp [intOf]; omega
    · obtain rfl : j = xs.length := by omega
      have j1 : ¬ (xs.length : Int) < (xs.length : Int) := by omega
      have HQ0 : Hid (Wi w wr f pb pc lb ao xs.length cap ps (lastA ps 0) ve0 ve0 es0) := by
        show Wi w wr f pb pc lb ao xs.length cap ps (lastW ps ps.length) ve0 ve0 es0
        rw [HL.out.1]; exact HQ.out
      clear HQ
      have c0 := HQ0.out.c0
      have fl := HQ0.out.fd.fe.lt
      go_wp2_with fail
      clear c0 fl
      go_loopw [26] (fun v wr => ∃ (j : Nat) (ve : Value), j ≤ xs.length ∧ v = .int .i64 j ∧ Wi w wr f pb pc lb ao xs.length cap ps (lastA ps j) ve0 ve (es0 ++ acrossE xs ps j)) (fun v _ => xs.length - (intOf v).toNat)
      case atStart => exact ⟨0, ve0, by omega, rfl, by simpa [acrossE, cat] using HQ0.out⟩
      case round =>
        rename World => wy
        obtain ⟨j, ve, hj, rfl, hw⟩ := hrel
        have HQ : Hid (Wi w wy f pb pc lb ao xs.length cap ps (lastA ps j) ve0 ve (es0 ++ acrossE xs ps j)) := hw
        clear hw HQ0
        by_cases hlt : j < xs.length
        · have j0 : (0 : Int) ≤ (j : Int) := by omega
          have j1 : (j : Int) < (xs.length : Int) := by omega
          have c0 := HQ.out.c0
          have fl := HQ.out.fd.fe.lt
          go_wp2_with fail
          clear c0 fl
          go_loopw [34] (fun v wr2 => ∃ (i : Nat) (ve : Value), i ≤ xs.length ∧ v = .int .i64 i ∧ Wi w wr2 f pb pc lb ao xs.length cap ps (lastA ps j) ve0 ve (es0 ++ acrossE xs ps j ++ rowA xs ps j i)) (fun v _ => xs.length - (intOf v).toNat)
          case atStart => exact ⟨0, ve, by omega, rfl, by simpa [rowA, cat] using HQ.out⟩
          case round =>
            rename World => wz
            obtain ⟨i, ve1, hi, rfl, hw⟩ := hrel
            have HR : Hid (Wi w wz f pb pc lb ao xs.length cap ps (lastA ps j) ve0 ve1 (es0 ++ acrossE xs ps j ++ rowA xs ps j i)) := hw
            clear hw HQ
            by_cases hlt2 : i < xs.length
            · have i0 : (0 : Int) ≤ (i : Int) := by omega
              have i1 : (i : Int) < (xs.length : Int) := by omega
              have c0 := HR.out.c0
              have fl := HR.out.fd.fe.lt
              have HNx : Hid (rowA xs ps j (i + 1) = rowA xs ps j i ++ pairE ps (lastA ps j) 1 (roundB xs i j) i j) := rfl
              have HEl : Hid ((es0 ++ acrossE xs ps j ++ rowA xs ps j i).length ≤ 1000000000) := by
                show (es0 ++ acrossE xs ps j ++ rowA xs ps j i).length ≤ 1000000000
                obtain ⟨h1, h2, h3, h4⟩ := HL.out
                have h5 := acrossE_len xs ps j (by omega)
                have h6 := rowA_len xs ps j i
                rw [List.length_append, List.length_append]
                omega
              have HMm : Hid _ := HM.out wz ve1 (lastA ps j) _ i j HR.out
              obtain ⟨es1, hes⟩ : ∃ es1, es0 ++ acrossE xs ps j ++ rowA xs ps j i = es1 := ⟨_, rfl⟩
              have HES : Hid (es0 ++ acrossE xs ps j ++ rowA xs ps j i = es1) := hes
              rw [hes] at HR HEl HMm
              clear hes
              generalize lastA ps j = L at *
              generalize roundB xs i j = mb at *
              go_wp2_with (first
                | (go_at_call 46; refine Calls.mono HMm.out ?_; rintro e w1 ⟨rfl, hw⟩; have HR1 : Hid (Wi w w1 f pb pc lb ao xs.length cap ps L ve0 ve1 es1) := hw; clear hw HMm HR c0 fl)
                | (go_at_call 43; refine Calls.mono (HP.out _ _ _ _ i j mb HR1.out hlt2 hlt HEl.out) ?_; rintro e w2 ⟨rfl, ve2, hw⟩; have HR2 : Hid (Wi w w2 f pb pc lb ao xs.length cap ps L ve0 ve2 (es1 ++ pairE ps L 1 mb i j)) := hw; clear hw HR1))
              go_roundw
              case rel => exact ⟨i + 1, ve2, by omega, by go_num, by rw [HNx.out, ← List.append_assoc, HES.out]; exact HR2.out⟩
              case measure => simp [intOf]; omega
            · obtain rfl : i = xs.length := by omega
              have i1 : ¬ (xs.length : Int) < (xs.length : Int) := by omega
              have c1 := HR.out.fd.cp
              have fl := HR.out.fd.fe.lt
              have pl := HR.out.fd.ps.lt
              have hip : j < ps.length := by rw [HL.out.1]; exact hlt
              obtain ⟨p0, p1, p2, p3, p4, p5⟩ := HR.out.fd.ps.c j hip
              have HBc : Hid (∀ W, Below wz.heap.size wz W → _) := fun W hb => wi_bec HR.out HL.out.2.2.1 hip (-1) hb
              have HNx : Hid (acrossE xs ps (j + 1) = acrossE xs ps j ++ rowA xs ps j xs.length ∧ lastA ps (j + 1) = Dp.bec (lastA ps j) (pAt ps j) (-1)) := ⟨by show acrossE xs ps j ++ rowA xs ps j ps.length = _; rw [HL.out.1], rfl⟩
              rw [HL.out.1] at c1
              generalize ps[j] = p at *
              generalize Dp.bec (lastA ps j) (pAt ps j) (-1) = L2 at *
              generalize lastA ps j = L at *
              go_wp2_with (first
                | (go_at_call 45; refine Calls.mono (HBc.out _ (by go_grown)) ?_; rintro e w1 ⟨rfl, hw⟩; have HR1 : Hid (Wi w w1 f pb pc lb ao xs.length cap ps L2 ve0 ve1 (es0 ++ acrossE xs ps j ++ rowA xs ps j xs.length)) := hw; clear hw HBc HR c1 fl pl p0 p1 p2 p3 p4 p5))
              go_roundw
              case rel => exact ⟨j + 1, ve1, by omega, by go_num, by rw [HNx.out.1, HNx.out.2, ← List.append_assoc]; exact HR1.out⟩
              case measure => simp [intOf]; omega
        · obtain rfl : j = xs.length := by omega
          have j1 : ¬ (xs.length : Int) < (xs.length : Int) := by omega
          go_wp2_with fail
          go_end0
          exact ⟨rfl, ve, HQ.out.fd.fe, HQ.out.gr⟩
end Go.Proofs.YthdpgimdakmdgaaDoor.Dp
