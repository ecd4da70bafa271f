/- Whether a unit is free, and how many are busy (Free, Used), read off the program by the walk. Conditions: a table of reservations lies in memory, or there is none. -/
import Derived.Test.YthjnegdgpnbkkaaDoorRd
namespace Go.Proofs.YthjnegdgpnbkkaaDoor.Rv
open Go.ChangeShapes Go.WideShapes Go.ChangeAt Go.RowKit Go.Maps
open _root_.Go.Proofs.YthjnegdgpnbkkaaDoor.Op _root_.Go.Proofs.YthjnegdgpnbkkaaDoor.So
open _root_.Go.Proofs.YthjnegdgpnbkkaaDoor.Tb (Tab TabAt Bnds)
set_option maxRecDepth 20000

/-- Whether one operation more can be taken there. -/
def frB (t : Tab) (ev : Option Int) (f : Int → Int → Int) (cl cyc : Int) : Bool := decide (0 ≤ cl) && decide (cl ≤ 3) && (decide (0 ≤ tn ev cyc) && decide (tn ev cyc ≤ 65536) && ftB t ev f cl.toNat (tn ev cyc))
theorem free_nil (cl cyc : Int) (w : World) : Calls Tryd.prog 14 #[.pointer none, .int .i64 cl, .int .i64 cyc] w fun e w' => e = .returned (.bool false) ∧ Below w.heap.size w w' := by
  have HN : Hid (∀ W, Calls Tryd.prog 24 #[.pointer none] W fun e w' => e = .returned (.bool true) ∧ Below W.heap.size W w') := fun W => isNone_nil W
  go_enter Tryd.func14, Tryd.ntmps14
  go_wp2_with (first | (go_at_call 24; refine Calls.mono (HN.out _) ?_; rintro e w1 ⟨rfl, b1⟩; have HB : Hid (Below w.heap.size w w1) := b1; clear b1 HN))
  go_ret
  exact ⟨rfl, HB.out⟩
theorem used_nil (cl cyc : Int) (w : World) : Calls Tryd.prog 16 #[.pointer none, .int .i64 cl, .int .i64 cyc] w fun e w' => e = .returned (.int .i64 0) ∧ Below w.heap.size w w' := by
  have HN : Hid (∀ W, Calls Tryd.prog 24 #[.pointer none] W fun e w' => e = .returned (.bool true) ∧ Below W.heap.size W w') := fun W => isNone_nil W
  go_enter Tryd.func16, Tryd.ntmps16
  go_wp2_with (first | (go_at_call 24; refine Calls.mono (HN.out _) ?_; rintro e w1 ⟨rfl, b1⟩; have HB : Hid (Below w.heap.size w w1) := b1; clear b1 HN))
  go_ret
  exact ⟨rfl, HB.out⟩
theorem take_nil (cl cyc : Int) (w : World) : Calls Tryd.prog 12 #[.pointer none, .int .i64 cl, .int .i64 cyc] w fun e w' => e = .returned (.bool false) ∧ Below w.heap.size w w' := by
  have HN : Hid (∀ W, Calls Tryd.prog 14 #[.pointer none, .int .i64 cl, .int .i64 cyc] W fun e w' => e = .returned (.bool false) ∧ Below W.heap.size W w') := fun W => free_nil cl cyc W
  go_enter Tryd.func12, Tryd.ntmps12
  go_wp2_with (first | (go_at_call 14; refine Calls.mono (HN.out _) ?_; rintro e w1 ⟨rfl, b1⟩; have HB : Hid (Below w.heap.size w w1) := b1; clear b1 HN))
  go_ret
  exact ⟨rfl, HB.out⟩
set_option maxHeartbeats 4000000 in
theorem free_any {rb mb n : Nat} {t : Tab} {ev : Option Int} {f : Int → Int → Int} (cl cyc : Int) (w : World) (h : RAt w rb t ev mb n f) (hv : evOk ev) (hf : Few f) (ht : t.ok = true) :
    Calls Tryd.prog 14 #[.pointer (some ⟨rb, 0, none⟩), .int .i64 cl, .int .i64 cyc] w fun e w' => e = .returned (.bool (frB t ev f cl cyc)) ∧ Below w.heap.size w w' := by
  have HN : Hid (∀ W, Below w.heap.size w W → Calls Tryd.prog 24 #[.pointer (some ⟨rb, 0, none⟩)] W fun e w' => e = .returned (.bool false) ∧ Below W.heap.size W w') := fun W hb => isNone_no W (h.up hb)
  have HR : Hid (∀ W, Below w.heap.size w W → RAt W rb t ev mb n f) := fun W hb => h.up hb
  by_cases hc0 : cl < 0
  · have hA : frB t ev f cl cyc = false := by unfold frB; simp [show ¬ 0 ≤ cl by omega]
    rw [hA]
    clear h hv hf hA
    go_enter Tryd.func14, Tryd.ntmps14
    go_wp2_with (first | (go_at_call 24; refine Calls.mono (HN.out _ (Below.refl _ _)) ?_; rintro e w1 ⟨rfl, b1⟩; have HB : Hid (Below w.heap.size w w1) := b1; clear b1 HN))
    go_ret
    exact ⟨rfl, HB.out⟩
  by_cases hc4 : 4 ≤ cl
  · have hA : frB t ev f cl cyc = false := by unfold frB; simp [show ¬ cl ≤ 3 by omega]
    rw [hA]
    clear h hv hf hA
    go_enter Tryd.func14, Tryd.ntmps14
    go_wp2_with (first | (go_at_call 24; refine Calls.mono (HN.out _ (Below.refl _ _)) ?_; rintro e w1 ⟨rfl, b1⟩; have HB : Hid (Below w.heap.size w w1) := b1; clear b1 HN))
    go_ret
    exact ⟨rfl, HB.out⟩
  · obtain ⟨c, rfl⟩ : ∃ c : Nat, cl = c := ⟨cl.toNat, by omega⟩
    have hA : frB t ev f (c : Int) cyc = (decide (0 ≤ tn ev cyc) && decide (tn ev cyc ≤ 65536) && ftB t ev f c (tn ev cyc)) := by
      unfold frB
      rw [Int.toNat_natCast]
      simp [show (0 : Int) ≤ (c : Int) by omega, show (c : Int) ≤ 3 by omega]
    rw [hA]
    have hc : c < 4 := by omega
    obtain ⟨p1, p2, p3⟩ := (Tb.ok_parts ht).2 c hc
    have huu := Tb.inB_iff p1
    have hbb := Tb.inB_iff p3
    clear hA ht p1 p2 p3
    cases ev with
    | none =>
      have HT : Hid (∀ W, Calls Tryd.prog 20 #[.agg #[], .int .i64 cyc] W fun e w' => e = .returned (.int .i64 (tn (none) cyc)) ∧ Below W.heap.size W w') := fun W => row_any _ W
      have HG : Hid (∀ W, Below w.heap.size w W → W.cell? ⟨rb, 9, none⟩ = some (.func (.func 20) #[.agg #[]] #[])) := fun W hb => (h.up hb).fn
      have HFi : Hid (∀ W, Below w.heap.size w W → 0 ≤ tn (none) cyc → tn (none) cyc ≤ 65536 → Calls Tryd.prog 25 #[.pointer (some ⟨rb, 0, none⟩), .int .i64 (c : Int), .int .i64 (tn (none) cyc)] W fun e w' => e = .returned (.bool (ftB t (none) f c (tn (none) cyc))) ∧ Below W.heap.size W w') := fun W hb h0 h1 => fits_any c _ W (h.up hb) hv hc h0 h1 hbb hf huu
      clear h hv hf
      generalize ftB t (none) f c (tn (none) cyc) = fb at *
      generalize tn (none) cyc = first at *
      by_cases h0 : 0 ≤ first
      · by_cases h1 : first ≤ 65536
        · have HFx : Hid (∀ W, Below w.heap.size w W → Calls Tryd.prog 25 #[.pointer (some ⟨rb, 0, none⟩), .int .i64 (c : Int), .int .i64 first] W fun e w' => e = .returned (.bool fb) ∧ Below W.heap.size W w') := fun W hb => HFi.out W hb h0 h1
          have hA : (decide (0 ≤ first) && decide (first ≤ 65536) && fb) = fb := by simp [h0, h1]
          rw [hA]
          clear hA HFi
          go_enter Tryd.func14, Tryd.ntmps14
          go_wp2_with (first
            | (go_at_call 24; refine Calls.mono (HN.out _ (Below.refl _ _)) ?_; rintro e w1 ⟨rfl, b1⟩; have HB : Hid (Below w.heap.size w w1) := b1; have hg := HG.out w1 b1; have hl := (HR.out w1 b1).at'.lt; clear b1 HN HG)
            | (go_at_call 20; refine Calls.mono (HT.out _) ?_; rintro e w2 ⟨rfl, b2⟩; have HB2 : Hid (Below w.heap.size w w2) := HB.out.trans (b2.mono HB.out.size); clear b2 HT hg hl)
            | (go_at_call 25; refine Calls.mono (HFx.out _ HB2.out) ?_; rintro e w3 ⟨rfl, b3⟩; have HB3 : Hid (Below w.heap.size w w3) := HB2.out.trans (b3.mono HB2.out.size); clear b3 HFx))
          go_ret
          exact ⟨rfl, HB3.out⟩
        · have hA : (decide (0 ≤ first) && decide (first ≤ 65536) && fb) = false := by simp [h1]
          rw [hA]
          clear hA HFi
          go_enter Tryd.func14, Tryd.ntmps14
          go_wp2_with (first
            | (go_at_call 24; refine Calls.mono (HN.out _ (Below.refl _ _)) ?_; rintro e w1 ⟨rfl, b1⟩; have HB : Hid (Below w.heap.size w w1) := b1; have hg := HG.out w1 b1; have hl := (HR.out w1 b1).at'.lt; clear b1 HN HG)
            | (go_at_call 20; refine Calls.mono (HT.out _) ?_; rintro e w2 ⟨rfl, b2⟩; have HB2 : Hid (Below w.heap.size w w2) := HB.out.trans (b2.mono HB.out.size); clear b2 HT hg hl))
          go_ret
          exact ⟨rfl, HB2.out⟩
      · have hA : (decide (0 ≤ first) && decide (first ≤ 65536) && fb) = false := by simp [h0]
        rw [hA]
        clear hA HFi
        go_enter Tryd.func14, Tryd.ntmps14
        go_wp2_with (first
          | (go_at_call 24; refine Calls.mono (HN.out _ (Below.refl _ _)) ?_; rintro e w1 ⟨rfl, b1⟩; have HB : Hid (Below w.heap.size w w1) := b1; have hg := HG.out w1 b1; have hl := (HR.out w1 b1).at'.lt; clear b1 HN HG)
          | (go_at_call 20; refine Calls.mono (HT.out _) ?_; rintro e w2 ⟨rfl, b2⟩; have HB2 : Hid (Below w.heap.size w w2) := HB.out.trans (b2.mono HB.out.size); clear b2 HT hg hl))
        go_ret
        exact ⟨rfl, HB2.out⟩
    | some q =>
      have HT : Hid (∀ W, Calls Tryd.prog 22 #[.agg #[.int .i64 q], .int .i64 cyc] W fun e w' => e = .returned (.int .i64 (tn (some q) cyc)) ∧ Below W.heap.size W w') := fun W => ring_any _ _ W hv.1 hv.2
      have HG : Hid (∀ W, Below w.heap.size w W → W.cell? ⟨rb, 9, none⟩ = some (.func (.func 22) #[.agg #[.int .i64 q]] #[])) := fun W hb => (h.up hb).fn
      have HFi : Hid (∀ W, Below w.heap.size w W → 0 ≤ tn (some q) cyc → tn (some q) cyc ≤ 65536 → Calls Tryd.prog 25 #[.pointer (some ⟨rb, 0, none⟩), .int .i64 (c : Int), .int .i64 (tn (some q) cyc)] W fun e w' => e = .returned (.bool (ftB t (some q) f c (tn (some q) cyc))) ∧ Below W.heap.size W w') := fun W hb h0 h1 => fits_any c _ W (h.up hb) hv hc h0 h1 hbb hf huu
      clear h hv hf
      generalize ftB t (some q) f c (tn (some q) cyc) = fb at *
      generalize tn (some q) cyc = first at *
      by_cases h0 : 0 ≤ first
      · by_cases h1 : first ≤ 65536
        · have HFx : Hid (∀ W, Below w.heap.size w W → Calls Tryd.prog 25 #[.pointer (some ⟨rb, 0, none⟩), .int .i64 (c : Int), .int .i64 first] W fun e w' => e = .returned (.bool fb) ∧ Below W.heap.size W w') := fun W hb => HFi.out W hb h0 h1
          have hA : (decide (0 ≤ first) && decide (first ≤ 65536) && fb) = fb := by simp [h0, h1]
          rw [hA]
          clear hA HFi
          go_enter Tryd.func14, Tryd.ntmps14
          go_wp2_with (first
            | (go_at_call 24; refine Calls.mono (HN.out _ (Below.refl _ _)) ?_; rintro e w1 ⟨rfl, b1⟩; have HB : Hid (Below w.heap.size w w1) := b1; have hg := HG.out w1 b1; have hl := (HR.out w1 b1).at'.lt; clear b1 HN HG)
            | (go_at_call 22; refine Calls.mono (HT.out _) ?_; rintro e w2 ⟨rfl, b2⟩; have HB2 : Hid (Below w.heap.size w w2) := HB.out.trans (b2.mono HB.out.size); clear b2 HT hg hl)
            | (go_at_call 25; refine Calls.mono (HFx.out _ HB2.out) ?_; rintro e w3 ⟨rfl, b3⟩; have HB3 : Hid (Below w.heap.size w w3) := HB2.out.trans (b3.mono HB2.out.size); clear b3 HFx))
          go_ret
          exact ⟨rfl, HB3.out⟩
        · have hA : (decide (0 ≤ first) && decide (first ≤ 65536) && fb) = false := by simp [h1]
          rw [hA]
          clear hA HFi
          go_enter Tryd.func14, Tryd.ntmps14
          go_wp2_with (first
            | (go_at_call 24; refine Calls.mono (HN.out _ (Below.refl _ _)) ?_; rintro e w1 ⟨rfl, b1⟩; have HB : Hid (Below w.heap.size w w1) := b1; have hg := HG.out w1 b1; have hl := (HR.out w1 b1).at'.lt; clear b1 HN HG)
            | (go_at_call 22; refine Calls.mono (HT.out _) ?_; rintro e w2 ⟨rfl, b2⟩; have HB2 : Hid (Below w.heap.size w w2) := HB.out.trans (b2.mono HB.out.size); clear b2 HT hg hl))
          go_ret
          exact ⟨rfl, HB2.out⟩
      · have hA : (decide (0 ≤ first) && decide (first ≤ 65536) && fb) = false := by simp [h0]
        rw [hA]
        clear hA HFi
        go_enter Tryd.func14, Tryd.ntmps14
        go_wp2_with (first
          | (go_at_call 24; refine Calls.mono (HN.out _ (Below.refl _ _)) ?_; rintro e w1 ⟨rfl, b1⟩; have HB : Hid (Below w.heap.size w w1) := b1; have hg := HG.out w1 b1; have hl := (HR.out w1 b1).at'.lt; clear b1 HN HG)
          | (go_at_call 22; refine Calls.mono (HT.out _) ?_; rintro e w2 ⟨rfl, b2⟩; have HB2 : Hid (Below w.heap.size w w2) := HB.out.trans (b2.mono HB.out.size); clear b2 HT hg hl))
        go_ret
        exact ⟨rfl, HB2.out⟩
set_option maxHeartbeats 4000000 in
theorem used_any {rb mb n : Nat} {t : Tab} {ev : Option Int} {f : Int → Int → Int} (cl cyc : Int) (w : World) (h : RAt w rb t ev mb n f) (hv : evOk ev) (hcl : I64 cl) (hcy : I64 cyc) :
    Calls Tryd.prog 16 #[.pointer (some ⟨rb, 0, none⟩), .int .i64 cl, .int .i64 cyc] w fun e w' => e = .returned (.int .i64 (f cl (tn ev cyc))) ∧ Below w.heap.size w w' := by
  have HN : Hid (∀ W, Below w.heap.size w W → Calls Tryd.prog 24 #[.pointer (some ⟨rb, 0, none⟩)] W fun e w' => e = .returned (.bool false) ∧ Below W.heap.size W w') := fun W hb => isNone_no W (h.up hb)
  cases ev with
  | none =>
    have HT : Hid (∀ W, Calls Tryd.prog 20 #[.agg #[], .int .i64 cyc] W fun e w' => e = .returned (.int .i64 (tn (none) cyc)) ∧ Below W.heap.size W w') := fun W => row_any _ W
    have HLo : Hid (∀ W, Below w.heap.size w W → (Instr.lookup 53 (.map (some mb)) (.agg #[.int .i64 cl, .int .i64 (tn (none) cyc)]) false).run Tryd.prog W = .ok (.int .i64 (f cl (tn (none) cyc))) W) := fun W hb => (h.up hb).cm.look hcl (tn_in hv hcy)
    have HR : Hid (∀ W, Below w.heap.size w W → rb < W.heap.size ∧ W.cell? ⟨rb, 8, none⟩ = some (.map (some mb)) ∧ W.cell? ⟨rb, 9, none⟩ = some (.func (.func 20) #[.agg #[]] #[])) := fun W hb => ⟨(h.up hb).at'.lt, (h.up hb).m, (h.up hb).fn⟩
    clear h hv
    generalize f cl (tn (none) cyc) = fz at *
    generalize tn (none) cyc = first at *
    go_enter Tryd.func16, Tryd.ntmps16
    go_upto_region 3 with (first | (go_at_call 24; refine Calls.mono (HN.out _ (Below.refl _ _)) ?_; rintro e w1 ⟨rfl, b1⟩; have HV : Hid (Below w.heap.size w w1) := b1; clear b1 HN))
    have HWd : Hid (∀ x : Wd (Below w1.heap.size w1), Below w.heap.size w x.w) := fun x => HV.out.trans (x.ok.mono HV.out.size)
    have xm : ∀ x : Wd (Below w1.heap.size w1), x.w.cell? ⟨rb, 8, none⟩ = some (.map (some mb)) := fun x => (HR.out _ (HWd.out x)).2.1
    have xf : ∀ x : Wd (Below w1.heap.size w1), x.w.cell? ⟨rb, 9, none⟩ = some (.func (.func 20) #[.agg #[]] #[]) := fun x => (HR.out _ (HWd.out x)).2.2
    have xl : ∀ x : Wd (Below w1.heap.size w1), (Instr.lookup 53 (.map (some mb)) (.agg #[.int .i64 cl, .int .i64 first]) false).run Tryd.prog x.w = .ok (.int .i64 fz) x.w := fun x => HLo.out _ (HWd.out x)
    have HTy : Hid (∀ x : Wd (Below w1.heap.size w1), Calls Tryd.prog 20 #[.agg #[], .int .i64 cyc] x.w fun e w'' => e = .returned (.int .i64 first) ∧ ∃ y : Wd (Below w1.heap.size w1), w'' = y.w) := fun x => calls_in (Nat.le_refl _) x (HT.out x.w)
    haveI inst : Nonempty (Wd (Below w1.heap.size w1)) := ⟨⟨w1, Below.refl _ _⟩⟩
    refine wp_region_in (Below w1.heap.size w1) (by kernel_rfl) (by kernel_rfl) ((Below.refl _ _).drew) ?_
    repeat (first | go_big_quiet_step ((go_at_call 20; exact HTy.out _)))
    refine wpQuiet_nil ?_
    rintro _ ⟨x, rfl⟩
    have HX : Hid (Below w.heap.size w x.w) := HWd.out x
    go_wp2
    go_ret
    exact ⟨rfl, HX.out⟩
  | some q =>
    have HT : Hid (∀ W, Calls Tryd.prog 22 #[.agg #[.int .i64 q], .int .i64 cyc] W fun e w' => e = .returned (.int .i64 (tn (some q) cyc)) ∧ Below W.heap.size W w') := fun W => ring_any _ _ W hv.1 hv.2
    have HLo : Hid (∀ W, Below w.heap.size w W → (Instr.lookup 53 (.map (some mb)) (.agg #[.int .i64 cl, .int .i64 (tn (some q) cyc)]) false).run Tryd.prog W = .ok (.int .i64 (f cl (tn (some q) cyc))) W) := fun W hb => (h.up hb).cm.look hcl (tn_in hv hcy)
    have HR : Hid (∀ W, Below w.heap.size w W → rb < W.heap.size ∧ W.cell? ⟨rb, 8, none⟩ = some (.map (some mb)) ∧ W.cell? ⟨rb, 9, none⟩ = some (.func (.func 22) #[.agg #[.int .i64 q]] #[])) := fun W hb => ⟨(h.up hb).at'.lt, (h.up hb).m, (h.up hb).fn⟩
    clear h hv
    generalize f cl (tn (some q) cyc) = fz at *
    generalize tn (some q) cyc = first at *
    go_enter Tryd.func16, Tryd.ntmps16
    go_upto_region 3 with (first | (go_at_call 24; refine Calls.mono (HN.out _ (Below.refl _ _)) ?_; rintro e w1 ⟨rfl, b1⟩; have HV : Hid (Below w.heap.size w w1) := b1; clear b1 HN))
    have HWd : Hid (∀ x : Wd (Below w1.heap.size w1), Below w.heap.size w x.w) := fun x => HV.out.trans (x.ok.mono HV.out.size)
    have xm : ∀ x : Wd (Below w1.heap.size w1), x.w.cell? ⟨rb, 8, none⟩ = some (.map (some mb)) := fun x => (HR.out _ (HWd.out x)).2.1
    have xf : ∀ x : Wd (Below w1.heap.size w1), x.w.cell? ⟨rb, 9, none⟩ = some (.func (.func 22) #[.agg #[.int .i64 q]] #[]) := fun x => (HR.out _ (HWd.out x)).2.2
    have xl : ∀ x : Wd (Below w1.heap.size w1), (Instr.lookup 53 (.map (some mb)) (.agg #[.int .i64 cl, .int .i64 first]) false).run Tryd.prog x.w = .ok (.int .i64 fz) x.w := fun x => HLo.out _ (HWd.out x)
    have HTy : Hid (∀ x : Wd (Below w1.heap.size w1), Calls Tryd.prog 22 #[.agg #[.int .i64 q], .int .i64 cyc] x.w fun e w'' => e = .returned (.int .i64 first) ∧ ∃ y : Wd (Below w1.heap.size w1), w'' = y.w) := fun x => calls_in (Nat.le_refl _) x (HT.out x.w)
    haveI inst : Nonempty (Wd (Below w1.heap.size w1)) := ⟨⟨w1, Below.refl _ _⟩⟩
    refine wp_region_in (Below w1.heap.size w1) (by kernel_rfl) (by kernel_rfl) ((Below.refl _ _).drew) ?_
    repeat (first | go_big_quiet_step ((go_at_call 22; exact HTy.out _)))
    refine wpQuiet_nil ?_
    rintro _ ⟨x, rfl⟩
    have HX : Hid (Below w.heap.size w x.w) := HWd.out x
    go_wp2
    go_ret
    exact ⟨rfl, HX.out⟩
end Go.Proofs.YthjnegdgpnbkkaaDoor.Rv
