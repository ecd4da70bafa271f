/- The statement ProgramTells' walk: a program is taken just if the document takes it, its operations are counted so, its units are those that its operations need, and it stays as it was. Conditions: the program lies in memory, and the tables as the program lays them. -/
import Derived.Test.YtecfbnfbpamegaaDoorRn
import Derived.Test.YtecfbnfbpamegaaDoorLk
import Derived.Deep.DeepCutAuto
namespace Go.Proofs.YtecfbnfbpamegaaDoor.Op
open Go.ChangeShapes Go.WideShapes Go.ChangeAt Go.RowKit
set_option maxRecDepth 20000
open Tb (Tab)

theorem ck_great {ps : List Bk} (h : greatB ps = true) : ckP ps = 3 := by
  unfold greatB at h
  simp at h
  unfold ckP
  rw [if_pos (.inr (by omega))]
theorem nd_great {ps : List Bk} {t : Tab} (h : greatB ps = true) : ndE ps t = 3 := by
  unfold ndE
  rw [ck_great h, if_neg (by decide)]
theorem small_len {ps : List Bk} (h : greatB ps = false) : ps.length ≤ 8192 := by
  unfold greatB opsN at h
  simp at h
  omega
set_option maxHeartbeats 4000000 in
theorem law_tells_great (ao : Option Addr) (cap : Nat) (ps : List Bk) (t : Tab) (w : World) (h : PAt w ao ps) (he : Env w) (hg : greatB ps = true) :
    Calls Tryd.prog 3 #[.agg #[.slice ao ps.length cap], t.val] w fun e w' => e = .returned (.bool true) ∧ Below w.heap.size w w' := by
  have HG : Hid (∀ w1, Below w.heap.size w w1 → Calls Tryd.prog 6 #[.agg #[.slice ao ps.length cap]] w1 fun e w' => e = .returned (.bool true) ∧ Below w1.heap.size w1 w') := fun w1 hb => by have := great_any _ cap _ _ (h.below hb); rw [hg] at this; exact this
  have HC : Hid (∀ w1, Below w.heap.size w w1 → Calls Tryd.prog 7 #[.agg #[.slice ao ps.length cap]] w1 fun e w' => e = .returned (.int .i64 3) ∧ Below w1.heap.size w1 w') := fun w1 hb => by have := checkP_any _ cap _ _ (h.below hb) (he.up hb); rw [ck_great hg] at this; exact this
  have HT : Hid (∀ w1, Below w.heap.size w w1 → Calls Tryd.prog 8 #[.agg #[.slice ao ps.length cap], .agg #[.int .i64 (t.u 0), .int .i64 (t.u 1), .int .i64 (t.u 2), .int .i64 (t.u 3), .int .i64 (t.l 0), .int .i64 (t.l 1), .int .i64 (t.l 2), .int .i64 (t.l 3), .int .i64 (t.b 0), .int .i64 (t.b 1), .int .i64 (t.b 2), .int .i64 (t.b 3), .int .i64 t.d]] w1 fun e w' => e = .returned (.int .i64 3) ∧ Below w1.heap.size w1 w') := fun w1 hb => by have := needs_any _ cap _ t _ (h.below hb) (he.up hb); rw [nd_great hg] at this; exact this
  have HW : Hid (∀ w1, Below w.heap.size w w1 → Calls Tryd.prog 9 #[] w1 fun e w' => e = .returned (.bool true) ∧ Below w1.heap.size w1 w') := fun w1 hb => wakes_any _ (he.up hb)
  clear h he hg
  unfold Tab.val
  go_enter Tryd.func3, Tryd.ntmps3
  go_wp2_with (first
    | (go_at_call 6; refine Calls.mono (HG.out _ (by go_grown)) ?_; rintro e w1 ⟨rfl, hb⟩; have HN : Hid (Nd w w1 (.slice ao ps.length cap) t) := Nd.start hb; have cp := HN.out.p.c 0 _ rfl; clear hb HG)
    | (go_at_call 7; refine Calls.mono (HC.out _ HN.out.b) ?_; rintro e w2 ⟨rfl, hb⟩; have HN2 : Hid (Nd w w2 (.slice ao ps.length cap) t) := HN.out.go hb; clear cp; have cp := HN2.out.p.c 0 _ rfl; obtain ⟨c0, c1, c2, c3, c4, c5, c6, c7, c8, c9, ca, cb, cc⟩ := HN2.out.t.t13; clear hb HC HN)
    | (go_at_call 8; refine Calls.mono (HT.out _ HN2.out.b) ?_; rintro e w3 ⟨rfl, hb⟩; have HN3 : Hid (Nd w w3 (.slice ao ps.length cap) t) := HN2.out.go hb; clear cp c0 c1 c2 c3 c4 c5 c6 c7 c8 c9 ca cb cc; clear hb HT HN2)
    | (go_at_call 9; refine Calls.mono (HW.out _ HN3.out.b) ?_; rintro e w4 ⟨rfl, hb⟩; have HN4 : Hid (Nd w w4 (.slice ao ps.length cap) t) := HN3.out.go hb; clear hb HW HN3))
  go_ret
  exact ⟨rfl, HN4.out.b⟩

/-- ProgramTells under way: the boxes of the program, the table, the copy. -/
structure Tw (w V : World) (q : Nat) (v : Value) (t : Tab) (u : Value) : Prop where
  n : Nd w V v t
  m : At V q #[u]
theorem Tw.go {w V V' : World} {q : Nat} {v : Value} {t : Tab} {u : Value} (h : Tw w V q v t u) (hb : Below V.heap.size V V') : Tw w V' q v t u :=
  ⟨h.n.go hb, h.m.below hb h.m.lt⟩
set_option maxHeartbeats 8000000 in
theorem law_tells_small (ao : Option Addr) (cap : Nat) (ps : List Bk) (t : Tab) (w : World) (h : PAt w ao ps) (he : Env w) (hg : greatB ps = false) :
    Calls Tryd.prog 3 #[.agg #[.slice ao ps.length cap], t.val] w fun e w' => e = .returned (.bool true) ∧ Below w.heap.size w w' := by
  have HG : Hid (∀ w1, Below w.heap.size w w1 → Calls Tryd.prog 6 #[.agg #[.slice ao ps.length cap]] w1 fun e w' => e = .returned (.bool false) ∧ Below w1.heap.size w1 w') := fun w1 hb => by have := great_any _ cap _ _ (h.below hb); rw [hg] at this; exact this
  have HC : Hid (∀ w1, Below w.heap.size w w1 → Calls Tryd.prog 10 #[.agg #[.slice ao ps.length cap]] w1 fun e w' => ∃ a c, e = .returned (.agg #[.slice a ps.length c]) ∧ PAt w' a ps ∧ Below w1.heap.size w1 w') := fun w1 hb => copiedProgram_any _ _ _ _ (h.below hb) (small_of h hg)
  have HP : Hid (PAt w ao ps) := h
  have HE : Hid (Env w) := he
  have hle := small_len hg
  clear h he hg
  unfold Tab.val
  go_enter Tryd.func3, Tryd.ntmps3
  go_upto_region 4 with (first
    | (go_at_call 6; refine Calls.mono (HG.out _ (by go_grown)) ?_; rintro e w1 ⟨rfl, hb⟩; have HN : Hid (Nd w w1 (.slice ao ps.length cap) t) := Nd.start hb; have cp := HN.out.p.c 0 _ rfl; clear hb HG)
    | (go_at_call 10; refine Calls.mono (HC.out _ HN.out.b) ?_; rintro e w2 ⟨a, c, rfl, hpa, hb⟩; have HN2 : Hid (Nd w w2 (.slice ao ps.length cap) t) := HN.out.go hb; have HA : Hid (PAt w2 a ps) := hpa; clear hb HC HN cp hpa))
  have HV : Hid (Tw w (w2.alloc (.cells #[.slice a ps.length c] 24)) w2.heap.size (.slice ao ps.length cap) t (.slice a ps.length c)) := ⟨HN2.out.go ((Below.refl _ _).alloc (Nat.le_refl _) _), At.new _ _ _⟩
  have HAV : Hid (PAt (w2.alloc (.cells #[.slice a ps.length c] 24)) a ps) := HA.out.below ((Below.refl _ _).alloc (Nat.le_refl _) _)
  clear HN2 HA
  generalize w2.alloc (.cells #[.slice a ps.length c] 24) = V at *
  generalize w2.heap.size = q at *
  go_cut [6] (fun s wc => s = .bool true ∧ Below V.heap.size V wc)
  case first =>
    have hnb := HV.out.n.b
    have xp : ∀ x : Wd (Below V.heap.size V), x.w.cell? ⟨w.heap.size, 0, none⟩ = some (.slice ao ps.length cap) := fun x => by rw [(bcell x.ok).1 _ _ HV.out.n.p.lt]; exact HV.out.n.p.c 0 _ rfl
    have xm : ∀ x : Wd (Below V.heap.size V), x.w.cell? ⟨q, 0, none⟩ = some (.slice a ps.length c) := fun x => by rw [(bcell x.ok).1 _ _ HV.out.m.lt]; exact HV.out.m.c 0 _ rfl
    have y0 : ∀ x : Wd (Below V.heap.size V), x.w.cell? ⟨w.heap.size + 1, 0, none⟩ = some (.int .i64 (t.u 0)) := fun x => by rw [(bcell x.ok).1 _ _ HV.out.n.t.lt]; exact HV.out.n.t.c 0 _ rfl
    have y1 : ∀ x : Wd (Below V.heap.size V), x.w.cell? ⟨w.heap.size + 1, 1, none⟩ = some (.int .i64 (t.u 1)) := fun x => by rw [(bcell x.ok).1 _ _ HV.out.n.t.lt]; exact HV.out.n.t.c 1 _ rfl
    have y2 : ∀ x : Wd (Below V.heap.size V), x.w.cell? ⟨w.heap.size + 1, 2, none⟩ = some (.int .i64 (t.u 2)) := fun x => by rw [(bcell x.ok).1 _ _ HV.out.n.t.lt]; exact HV.out.n.t.c 2 _ rfl
    have y3 : ∀ x : Wd (Below V.heap.size V), x.w.cell? ⟨w.heap.size + 1, 3, none⟩ = some (.int .i64 (t.u 3)) := fun x => by rw [(bcell x.ok).1 _ _ HV.out.n.t.lt]; exact HV.out.n.t.c 3 _ rfl
    have y4 : ∀ x : Wd (Below V.heap.size V), x.w.cell? ⟨w.heap.size + 1, 4, none⟩ = some (.int .i64 (t.l 0)) := fun x => by rw [(bcell x.ok).1 _ _ HV.out.n.t.lt]; exact HV.out.n.t.c 4 _ rfl
    have y5 : ∀ x : Wd (Below V.heap.size V), x.w.cell? ⟨w.heap.size + 1, 5, none⟩ = some (.int .i64 (t.l 1)) := fun x => by rw [(bcell x.ok).1 _ _ HV.out.n.t.lt]; exact HV.out.n.t.c 5 _ rfl
    have y6 : ∀ x : Wd (Below V.heap.size V), x.w.cell? ⟨w.heap.size + 1, 6, none⟩ = some (.int .i64 (t.l 2)) := fun x => by rw [(bcell x.ok).1 _ _ HV.out.n.t.lt]; exact HV.out.n.t.c 6 _ rfl
    have y7 : ∀ x : Wd (Below V.heap.size V), x.w.cell? ⟨w.heap.size + 1, 7, none⟩ = some (.int .i64 (t.l 3)) := fun x => by rw [(bcell x.ok).1 _ _ HV.out.n.t.lt]; exact HV.out.n.t.c 7 _ rfl
    have y8 : ∀ x : Wd (Below V.heap.size V), x.w.cell? ⟨w.heap.size + 1, 8, none⟩ = some (.int .i64 (t.b 0)) := fun x => by rw [(bcell x.ok).1 _ _ HV.out.n.t.lt]; exact HV.out.n.t.c 8 _ rfl
    have y9 : ∀ x : Wd (Below V.heap.size V), x.w.cell? ⟨w.heap.size + 1, 9, none⟩ = some (.int .i64 (t.b 1)) := fun x => by rw [(bcell x.ok).1 _ _ HV.out.n.t.lt]; exact HV.out.n.t.c 9 _ rfl
    have ya : ∀ x : Wd (Below V.heap.size V), x.w.cell? ⟨w.heap.size + 1, 10, none⟩ = some (.int .i64 (t.b 2)) := fun x => by rw [(bcell x.ok).1 _ _ HV.out.n.t.lt]; exact HV.out.n.t.c 10 _ rfl
    have yb : ∀ x : Wd (Below V.heap.size V), x.w.cell? ⟨w.heap.size + 1, 11, none⟩ = some (.int .i64 (t.b 3)) := fun x => by rw [(bcell x.ok).1 _ _ HV.out.n.t.lt]; exact HV.out.n.t.c 11 _ rfl
    have yc : ∀ x : Wd (Below V.heap.size V), x.w.cell? ⟨w.heap.size + 1, 12, none⟩ = some (.int .i64 t.d) := fun x => by rw [(bcell x.ok).1 _ _ HV.out.n.t.lt]; exact HV.out.n.t.c 12 _ rfl
    have H1 : Hid (∀ x : Wd (Below V.heap.size V), Calls Tryd.prog 7 #[.agg #[.slice a ps.length c]] x.w fun e w' => e = .returned (.int .i64 (ckP ps)) ∧ Below x.w.heap.size x.w w') := fun x => checkP_any _ _ _ _ (HAV.out.below x.ok) (HE.out.up (hnb.trans (x.ok.mono hnb.size)))
    have H2 : Hid (∀ x : Wd (Below V.heap.size V), Calls Tryd.prog 11 #[.agg #[.slice ao ps.length cap]] x.w fun e w' => e = .returned (.int .i64 (ckP ps)) ∧ Below x.w.heap.size x.w w') := fun x => refCheckP_any _ _ _ _ (HP.out.below (hnb.trans (x.ok.mono hnb.size)))
    have H3 : Hid (∀ x : Wd (Below V.heap.size V), Calls Tryd.prog 12 #[.agg #[.slice a ps.length c]] x.w fun e w' => e = .returned (.int .i64 (opsN ps)) ∧ Below x.w.heap.size x.w w') := fun x => ops_any _ _ _ _ (HAV.out.below x.ok) hle
    have H4 : Hid (∀ x : Wd (Below V.heap.size V), Calls Tryd.prog 13 #[.agg #[.slice ao ps.length cap]] x.w fun e w' => e = .returned (.int .i64 (opsN ps)) ∧ Below x.w.heap.size x.w w') := fun x => refOps_any _ _ _ _ (HP.out.below (hnb.trans (x.ok.mono hnb.size))) hle
    have H5 : Hid (∀ x : Wd (Below V.heap.size V), Calls Tryd.prog 8 #[.agg #[.slice a ps.length c], .agg #[.int .i64 (t.u 0), .int .i64 (t.u 1), .int .i64 (t.u 2), .int .i64 (t.u 3), .int .i64 (t.l 0), .int .i64 (t.l 1), .int .i64 (t.l 2), .int .i64 (t.l 3), .int .i64 (t.b 0), .int .i64 (t.b 1), .int .i64 (t.b 2), .int .i64 (t.b 3), .int .i64 t.d]] x.w fun e w' => e = .returned (.int .i64 (ndE ps t)) ∧ Below x.w.heap.size x.w w') := fun x => needs_any _ _ _ t _ (HAV.out.below x.ok) (HE.out.up (hnb.trans (x.ok.mono hnb.size)))
    have H6 : Hid (∀ x : Wd (Below V.heap.size V), Calls Tryd.prog 14 #[.agg #[.slice ao ps.length cap], .agg #[.int .i64 (t.u 0), .int .i64 (t.u 1), .int .i64 (t.u 2), .int .i64 (t.u 3), .int .i64 (t.l 0), .int .i64 (t.l 1), .int .i64 (t.l 2), .int .i64 (t.l 3), .int .i64 (t.b 0), .int .i64 (t.b 1), .int .i64 (t.b 2), .int .i64 (t.b 3), .int .i64 t.d]] x.w fun e w' => e = .returned (.int .i64 (ndE ps t)) ∧ Below x.w.heap.size x.w w') := fun x => refNeeds_any _ _ _ t _ (HP.out.below (hnb.trans (x.ok.mono hnb.size)))
    haveI inst : Nonempty (Wd (Below V.heap.size V)) := ⟨⟨V, Below.refl _ _⟩⟩
    clear HP HE hnb HAV
    generalize ckP ps = r1 at *
    generalize ndE ps t = r2 at *
    generalize (opsN ps : Int) = r3 at *
    refine wp_region_in (Below V.heap.size V) (by kernel_rfl) (by kernel_rfl) ((Below.refl _ _).drew) ?_
    repeat (first | go_big_quiet_step (first
      | (go_at_call 7; exact calls_in (Nat.le_refl _) _ (H1.out _))
      | (go_at_call 11; exact calls_in (Nat.le_refl _) _ (H2.out _))
      | (go_at_call 12; exact calls_in (Nat.le_refl _) _ (H3.out _))
      | (go_at_call 13; exact calls_in (Nat.le_refl _) _ (H4.out _))
      | (go_at_call 8; exact calls_in (Nat.le_refl _) _ (H5.out _))
      | (go_at_call 14; exact calls_in (Nat.le_refl _) _ (H6.out _))))
    refine wpQuiet_nil ?_
    rintro _ ⟨x, rfl⟩
    have HX : Hid (Below V.heap.size V x.w) := x.ok
    go_wp2
    go_meet
    exact ⟨rfl, HX.out⟩
  case rest =>
    obtain ⟨rfl, hbc⟩ := hcut
    have HU : Hid (Tw w wc q (.slice ao ps.length cap) t (.slice a ps.length c)) := HV.out.go hbc
    have HL : Hid (∀ w1, Below wc.heap.size wc w1 → Calls Tryd.prog 15 #[.agg #[.slice a ps.length c], .agg #[.slice ao ps.length cap]] w1 fun e w' => e = .returned (.bool true) ∧ Below w1.heap.size w1 w') := fun w1 hb => likeProgram_any _ _ _ _ _ _ ((HAV.out.below hbc).below hb) (HP.out.below (HU.out.n.b.trans (hb.mono HU.out.n.b.size)))
    have HW : Hid (∀ w1, Below w.heap.size w w1 → Calls Tryd.prog 9 #[] w1 fun e w' => e = .returned (.bool true) ∧ Below w1.heap.size w1 w') := fun w1 hb => wakes_any _ (HE.out.up hb)
    clear hbc HV HAV HP HE
    have cp := HU.out.n.p.c 0 _ rfl
    have cm := HU.out.m.c 0 _ rfl
    go_wp2_with (first
      | (go_at_call 15; refine Calls.mono (HL.out _ (Below.refl _ _)) ?_; rintro e w3 ⟨rfl, hb⟩; have HU3 : Hid (Tw w w3 q (.slice ao ps.length cap) t (.slice a ps.length c)) := HU.out.go hb; clear hb HL HU cp cm)
      | (go_at_call 9; refine Calls.mono (HW.out _ HU3.out.n.b) ?_; rintro e w4 ⟨rfl, hb⟩; have HU4 : Hid (Tw w w4 q (.slice ao ps.length cap) t (.slice a ps.length c)) := HU3.out.go hb; clear hb HW HU3))
    go_ret
    exact ⟨rfl, HU4.out.n.b⟩

theorem law_tells (ao : Option Addr) (cap : Nat) (ps : List Bk) (t : Tab) (w : World) (h : PAt w ao ps) (he : Env w) :
    Calls Tryd.prog 3 #[.agg #[.slice ao ps.length cap], t.val] w fun e w' => e = .returned (.bool true) ∧ Below w.heap.size w w' := by
  cases hg : greatB ps
  · exact law_tells_small ao cap ps t w h he hg
  · exact law_tells_great ao cap ps t w h he hg
end Go.Proofs.YtecfbnfbpamegaaDoor.Op
