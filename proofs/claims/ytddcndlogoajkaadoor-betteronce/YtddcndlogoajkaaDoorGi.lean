/- What is read behind each block's Ops (live.Out): read off the program by the walk. Conditions: a program; the variables as the program lays them. -/
import Derived.Test.YtddcndlogoajkaaDoorQVf
import Derived.Test.YtddcndlogoajkaaDoorGb
namespace Go.Proofs.YtddcndlogoajkaaDoor.L8.Li
open Go.ChangeShapes Go.WideShapes Go.ChangeAt Go.RowKit
open _root_.Go.Proofs.YtddcndlogoajkaaDoor.L8.So _root_.Go.Proofs.YtddcndlogoajkaaDoor.L8.Op _root_.Go.Proofs.YtddcndlogoajkaaDoor.L8.Fl _root_.Go.Proofs.YtddcndlogoajkaaDoor.L8.Lv
set_option maxRecDepth 20000

theorem info99b : (Tryd.prog.info? 61).map (fun i => (i.zero, i.size, i.bytes)) = some (some (.int .u32 0), 1, 4) := by kernel_rfl
def endAt (ps : List Bk) (xs : List Nat) (i : Nat) : Nat := match ps[i]? with
  | some x => endN (bOf x) xs
  | none => 0
theorem endAt_eq {ps : List Bk} {xs : List Nat} {i : Nat} (h : i < ps.length) : endAt ps xs i = endN (bOf ps[i]) xs := by
  unfold endAt; rw [List.getElem?_eq_getElem h]
theorem out_map {ps : List Bk} {xs : List Nat} : (List.range ps.length).map (endAt ps xs) = ps.map fun x => endN (bOf x) xs := by
  refine List.ext_getElem (by simp) fun i h1 h2 => ?_
  have hi : i < ps.length := by simpa using h2
  simp [endAt_eq hi]
set_option maxHeartbeats 2000000 in
theorem out_any (I : List Nat) (ao : Option Addr) (cap : Nat) (ps : List Bk) (w : World) (hI : InIs ps I) (h : PAt w ao ps) (he : Env w) (hc : ckP ps = 0) :
    Calls Tryd.prog 23 #[.agg #[.slice ao ps.length cap]] w fun e w' => ∃ a c, e = .returned (.slice a ps.length c) ∧ Ul w' a (ps.map fun x => endN (bOf x) I) ∧ IsIn ps I ∧ Below w.heap.size w w' := by
  have hb1 : Below w.heap.size w (w.alloc (.cells #[.slice ao ps.length cap] 24)) := below_al _
  have HK : Hid _ := in_is I ao cap ps (w.alloc (.cells #[.slice ao ps.length cap] 24)) hI (h.below hb1) (he.up hb1)
  have HP : Hid (PAt w ao ps) := h
  obtain ⟨i1, hi, hi2⟩ := Option.map_eq_some_iff.1 info99b
  simp only [Prod.mk.injEq] at hi2
  obtain ⟨hz0, hz1, hz2⟩ := hi2
  have HJ : Hid (Tryd.prog.info? 61 = some i1 ∧ i1.zero = some (.int .u32 0) ∧ i1.size = 1 ∧ i1.bytes = 4) := ⟨hi, hz0, hz1, hz2⟩
  have hpl := (good_of hc).le
  have hp0 := (good_of hc).pos
  have HL : Hid (IsIn ps I → I.length = ps.length) := fun hI => by
    have := hI.len
    rw [if_pos hc] at this
    exact this
  have HE : Hid (∀ (k : Nat) (hk : k < ps.length), endB ps[k] ps.length = true) := fun k hk => end_of (ck_blocks hc _ (List.getElem_mem hk))
  clear hi hz0 hz1 hz2 h he hb1 hI hc
  go_enter Tryd.func23, Tryd.ntmps23
  go_wp2_with (first
    | (go_at_call 28; refine Calls.mono HK.out ?_; rintro e w1 ⟨a, c, rfl, hU, hI, hb⟩; obtain ⟨a1, hb0, hz⟩ := one_new w _ _ hb; have HB1 : Hid (Below w.heap.size w w1) := hb0; have HA1 : Hid (Op.At w1 w.heap.size #[.slice ao ps.length cap]) := a1; have HI1 : Hid (Ul w1 a I ∧ IsIn ps I) := ⟨hU, hI⟩; rw [HL.out hI]; have hle := HL.out hI; have HLl : Hid _ := hle; clear hle hb hb0 a1 HK hU hI)
    | (at_make; refine wpList_make_row _ rfl _ _ 59 rfl 61 i1 (.int .u32 0) Tryd.underlying59 HJ.out.1 HJ.out.2.1 HJ.out.2.2.1 rfl .i64 .i64 ps.length rfl rfl (by rw [HJ.out.2.2.2]; omega) (by omega) ?_))
  have HS : Hid (Ot w1 (w1.alloc (.cells (madeCells #[.int .u32 0] ps.length) 61)) ps.length w1.heap.size 0 (endAt ps I) (List.replicate ps.length 0)) := Ot.start _ _ _ _
  generalize hbO : w1.heap.size = bO at *
  go_loopw [13] (fun i wr => ∃ (k : Nat) (ys : List Nat), k ≤ ps.length ∧ i = .int .i64 k ∧ Hid (Ot w1 wr ps.length bO k (endAt ps I) ys)) (fun i _ => ps.length - (intOf i).toNat)
  case atStart => exact ⟨0, _, by omega, rfl, HS.out⟩
  case round =>
    rename_i wr
    clear HS
    obtain ⟨k, ys, hk, rfl, HO⟩ := hrel
    by_cases hkp : k < ps.length
    · have hkpz : (k : Int) < (ps.length : Int) := by omega
      obtain ⟨bp, fp, rfl, hblt, hx⟩ := HP.out.is (by omega)
      obtain ⟨p, hp, hin⟩ := hx k hkp
      have hbw : Below w.heap.size w wr := HB1.out.trans (HO.out.b.mono HB1.out.size)
      obtain ⟨p0, p1, p2, p3, p4, p5⟩ := hp.below hbw hblt
      have cb := (HA1.out.below HO.out.b HA1.out.lt).c 0 _ rfl
      have HC : Hid (Calls Tryd.prog 29 #[ps[k].val p, .slice a ps.length c] wr fun e w' => e = .returned (.int .u32 ((endAt ps I k : Nat) : Int)) ∧ Below wr.heap.size wr w') := by
        have hA := aheadOfEnd_any ps[k] p a c I wr (hin.below hbw) (HI1.out.1.below HO.out.b) HI1.out.2.fit (by rw [HLl.out]; omega) (by rw [HLl.out]; exact HE.out k hkp)
        rw [HLl.out] at hA
        rw [endAt_eq hkp]
        exact hA
      have hyk : k < ys.length := by rw [HO.out.len]; exact hkp
      clear hp hx hin hbw
      go_wp2_with (first
        | (go_at_call 29; refine Calls.mono HC.out ?_; rintro e w2 ⟨rfl, hb2⟩; have HB2 : Hid (Below wr.heap.size wr w2) := hb2; have cv := (HO.out.u.below hb2 HO.out.u.lt).c k _ (uc_get hyk); have fv := (HO.out.u.below hb2 HO.out.u.lt).f k; clear hb2 HC p0 p1 p2 p3 p4 p5 cb))
      go_roundw
      case rel => exact ⟨k + 1, _, by omega, by go_num, HO.out.step hkp HB2.out⟩
      case measure => simp [intOf]; omega
    · obtain rfl : k = ps.length := by omega
      have hys := HO.out.done
      rw [out_map] at hys
      have HR : Hid (Ul wr (some ⟨bO, 0, none⟩) (ps.map fun x => endN (bOf x) I) ∧ IsIn ps I ∧ Below w.heap.size w wr) := ⟨by rw [← hys]; exact ul_of HO.out.u, HI1.out.2, HB1.out.trans (HO.out.b.mono HB1.out.size)⟩
      clear hys HO HI1
      go_wp2
      go_ret
      exact ⟨_, _, rfl, HR.out⟩
end Go.Proofs.YtddcndlogoajkaaDoor.L8.Li
