/- Whether one operation more fits (fits), read off the program by the walk. Conditions: a table of reservations lies in memory; the first cycle is a small one. -/
import Derived.Test.YthjnegdgpnbkkaaDoorRc
namespace Go.Proofs.YthjnegdgpnbkkaaDoor.Rv
open Go.ChangeShapes Go.WideShapes Go.ChangeAt Go.RowKit Go.Maps
open _root_.Go.Proofs.YthjnegdgpnbkkaaDoor.Op _root_.Go.Proofs.YthjnegdgpnbkkaaDoor.So
open _root_.Go.Proofs.YthjnegdgpnbkkaaDoor.Tb (Tab TabAt Bnds)
set_option maxRecDepth 20000

/-- Whether one operation more from a cycle on leaves each count within the units, as far as its first so many cycles. -/
def ft1 (t : Tab) (ev : Option Int) (f : Int → Int → Int) (c : Nat) (first : Int) (k : Nat) : Prop := f c (tn ev (first + k)) + tms ev first (tn ev (first + k)) (t.b c).toNat ≤ t.u c
def ftB (t : Tab) (ev : Option Int) (f : Int → Int → Int) (c : Nat) (first : Int) : Bool := (List.range (t.b c).toNat).all fun k => decide (f c (tn ev (first + k)) + tms ev first (tn ev (first + k)) (t.b c).toNat ≤ t.u c)
theorem ftB_no {t : Tab} {ev : Option Int} {f : Int → Int → Int} {c : Nat} {first : Int} {k : Nat} (hk : k < (t.b c).toNat) (h : ¬ ft1 t ev f c first k) : false = ftB t ev f c first := by
  symm
  unfold ftB
  rw [List.all_eq_false]
  exact ⟨k, List.mem_range.2 hk, by unfold ft1 at h; simpa using h⟩
theorem ftB_yes {t : Tab} {ev : Option Int} {f : Int → Int → Int} {c : Nat} {first : Int} (h : ∀ k, k < (t.b c).toNat → ft1 t ev f c first k) : true = ftB t ev f c first := by
  symm
  unfold ftB
  rw [List.all_eq_true]
  exact fun k hk => by have h2 := h k (List.mem_range.1 hk); unfold ft1 at h2; simpa using h2
/-- Counts are few. -/
def Few (f : Int → Int → Int) : Prop := ∀ a b, 0 ≤ f a b ∧ f a b ≤ 8
set_option maxHeartbeats 4000000 in
theorem fits_any {rb mb n : Nat} {t : Tab} {ev : Option Int} {f : Int → Int → Int} (c : Nat) (first : Int) (w : World) (h : RAt w rb t ev mb n f) (hv : evOk ev) (hc : c < 4) (h0 : 0 ≤ first) (h1 : first ≤ 65536) (hb : 1 ≤ t.b c ∧ t.b c ≤ 4) (hf : Few f) (hu : 0 ≤ t.u c ∧ t.u c ≤ 8) :
    Calls Tryd.prog 25 #[.pointer (some ⟨rb, 0, none⟩), .int .i64 (c : Int), .int .i64 first] w fun e w' => e = .returned (.bool (ftB t ev f c first)) ∧ Below w.heap.size w w' := by
  have HR : Hid (∀ W, Below w.heap.size w W → RAt W rb t ev mb n f) := fun W hb => h.up hb
  have HT : Hid (∀ k, k < 4 → I64 (tn ev (first + (k : Nat)))) := fun k hk => tn_in hv (by unfold I64; omega)
  have HK : Hid (∀ W k, Below w.heap.size w W → k < 4 → Calls Tryd.prog 23 #[.pointer (some ⟨rb, 0, none⟩), .int .i64 (c : Int), .int .i64 first, .int .i64 ((k : Nat) : Int)] W fun e w' => e = .returned (.agg #[.int .i64 (c : Int), .int .i64 (tn ev (first + k))]) ∧ Below W.heap.size W w') := fun W k hbw hk => kept_any _ _ _ W (h.up hbw) hv (by rw [IntKind.wrap_i64]; omega)
  have HTi : Hid (∀ W z, Below w.heap.size w W → I64 z → Calls Tryd.prog 31 #[.pointer (some ⟨rb, 0, none⟩), .agg #[.int .i64 (c : Int), .int .i64 z], .int .i64 first] W fun e w' => e = .returned (.int .i64 (tms ev first z (t.b c).toNat)) ∧ Below W.heap.size W w') := fun W z hbw hz => times_any c z first W (h.up hbw) hv hc h0 h1 hb hz
  have HNo : Hid (∀ k, k < (t.b c).toNat → ¬ ft1 t ev f c first k → false = ftB t ev f c first) := fun k hk h => ftB_no hk h
  have HYs : Hid ((∀ k, k < (t.b c).toNat → ft1 t ev f c first k) → true = ftB t ev f c first) := fun h => ftB_yes h
  have HFt : Hid (∀ k, ft1 t ev f c first k ↔ f c (tn ev (first + (k : Nat))) + tms ev first (tn ev (first + k)) (t.b c).toNat ≤ t.u c) := fun k => Iff.rfl
  generalize ftB t ev f c first = fb at *
  obtain ⟨B, hB⟩ : ∃ B : Nat, t.b c = B := ⟨(t.b c).toNat, by omega⟩
  have HBc : Hid (∀ W, Below w.heap.size w W → rb < W.heap.size ∧ W.cell? ⟨rb, 4 + c, none⟩ = some (.int .i64 (B : Int))) := fun W hbw => ⟨(h.up hbw).at'.lt, by rw [← hB]; exact (h.up hbw).b c hc⟩
  rw [hB, Int.toNat_natCast] at HTi HNo HYs HFt
  rw [hB] at hb
  have HF : Hid (Few f) := hf
  have HCl : Hid (I64 (c : Int)) := by unfold I64 Hid; omega
  obtain ⟨b1, b2⟩ := hb
  obtain ⟨u1, u2⟩ := hu
  obtain ⟨uc, huc⟩ : ∃ uc, t.u c = uc := ⟨_, rfl⟩
  have HU : Hid (t.u c = uc) := huc
  rw [huc] at HFt u1 u2
  clear h hB hv hf huc
  have c0 : (0 : Int) ≤ (c : Int) := by omega
  have c1 : (c : Int) < 4 := by omega
  obtain ⟨g0, g1⟩ := HBc.out w (Below.refl _ _)
  go_enter Tryd.func25, Tryd.ntmps25
  go_wp2
  clear g0 g1 HBc
  go_loopw [15] (fun v wr => ∃ k : Nat, k ≤ B ∧ v = .int .i64 k ∧ Below w.heap.size w wr ∧ ∀ j, j < k → ft1 t ev f c first j) (fun v _ => B - (intOf v).toNat)
  case atStart => exact ⟨0, by omega, rfl, Below.refl _ _, fun j hj => by omega⟩
  case round =>
    rename World => wr
    obtain ⟨k, hk, rfl, hbw, hok⟩ := hrel
    have HQ : Hid (Below w.heap.size w wr ∧ ∀ j, j < k → ft1 t ev f c first j) := ⟨hbw, hok⟩
    clear hbw hok
    by_cases hlt : k < B
    · have k0 : (k : Int) < (B : Int) := by omega
      have hz := HT.out k (by omega)
      have HFk : Hid (ft1 t ev f c first k ↔ f c (tn ev (first + (k : Nat))) + tms ev first (tn ev (first + k)) B ≤ uc) := HFt.out k
      have HKx : Hid (∀ W, Below w.heap.size w W → Calls Tryd.prog 23 #[.pointer (some ⟨rb, 0, none⟩), .int .i64 (c : Int), .int .i64 first, .int .i64 (k : Int)] W fun e w' => e = .returned (.agg #[.int .i64 (c : Int), .int .i64 (tn ev (first + k))]) ∧ Below W.heap.size W w') := fun W hb => HK.out W k hb (by omega)
      generalize tn ev (first + (k : Nat)) = z at *
      have HTx : Hid (∀ W, Below w.heap.size w W → Calls Tryd.prog 31 #[.pointer (some ⟨rb, 0, none⟩), .agg #[.int .i64 (c : Int), .int .i64 z], .int .i64 first] W fun e w' => e = .returned (.int .i64 (tms ev first z B)) ∧ Below W.heap.size W w') := fun W hb => HTi.out W z hb hz
      have HLo : Hid (∀ W, Below w.heap.size w W → (Instr.lookup 53 (.map (some mb)) (.agg #[.int .i64 (c : Int), .int .i64 z]) false).run Tryd.prog W = .ok (.int .i64 (f c z)) W) := fun W hb => (HR.out W hb).cm.look HCl.out hz
      obtain ⟨s1, s2⟩ := tms_in ev first z B
      obtain ⟨f1, f2⟩ := HF.out c z
      clear hz HK HTi
      generalize tms ev first z B = s at *
      generalize f c z = fz at *
      go_upto_region 5 with (first | (go_at_call 23; refine Calls.mono (HKx.out _ HQ.out.1) ?_; rintro e w2 ⟨rfl, hb2⟩; have HV : Hid (At (w2.alloc (.cells #[.int .i64 (c : Int), .int .i64 z] 57)) w2.heap.size #[.int .i64 (c : Int), .int .i64 z] ∧ Below w.heap.size w (w2.alloc (.cells #[.int .i64 (c : Int), .int .i64 z] 57))) := ⟨At.new _ _ _, (HQ.out.1.trans (hb2.mono HQ.out.1.size)).trans ((Below.refl _ _).alloc (Nat.le_trans HQ.out.1.size hb2.size) _)⟩; clear hb2 HKx))
      generalize w2.alloc (.cells #[.int .i64 (c : Int), .int .i64 z] 57) = V at *
      generalize w2.heap.size = ob at *
      have HWd : Hid (∀ x : Wd (Below V.heap.size V), Below w.heap.size w x.w) := fun x => HV.out.2.trans (x.ok.mono HV.out.2.size)
      have xm : ∀ x : Wd (Below V.heap.size V), x.w.cell? ⟨rb, 8, none⟩ = some (.map (some mb)) := fun x => (HR.out _ (HWd.out x)).m
      have xu : ∀ x : Wd (Below V.heap.size V), x.w.cell? ⟨rb, c, none⟩ = some (.int .i64 uc) := fun x => by rw [← HU.out]; exact (HR.out _ (HWd.out x)).u c hc
      have x0 : ∀ x : Wd (Below V.heap.size V), x.w.cell? ⟨ob, 0, none⟩ = some (.int .i64 (c : Int)) := fun x => (HV.out.1.below x.ok HV.out.1.lt).c 0 _ rfl
      have x1 : ∀ x : Wd (Below V.heap.size V), x.w.cell? ⟨ob, 1, none⟩ = some (.int .i64 z) := fun x => (HV.out.1.below x.ok HV.out.1.lt).c 1 _ rfl
      have xl : ∀ x : Wd (Below V.heap.size V), (Instr.lookup 53 (.map (some mb)) (.agg #[.int .i64 (c : Int), .int .i64 z]) false).run Tryd.prog x.w = .ok (.int .i64 fz) x.w := fun x => HLo.out _ (HWd.out x)
      have HTy : Hid (∀ x : Wd (Below V.heap.size V), Calls Tryd.prog 31 #[.pointer (some ⟨rb, 0, none⟩), .agg #[.int .i64 (c : Int), .int .i64 z], .int .i64 first] x.w fun e w'' => e = .returned (.int .i64 s) ∧ ∃ y : Wd (Below V.heap.size V), w'' = y.w) := fun x => calls_in (Nat.le_refl _) x (HTx.out x.w (HWd.out x))
      haveI inst : Nonempty (Wd (Below V.heap.size V)) := ⟨⟨V, Below.refl _ _⟩⟩
      have hwr : IntKind.i64.wrap (fz + s) = fz + s := by rw [IntKind.wrap_i64]; omega
      by_cases hx : uc < fz + s
      · have HNx : Hid (false = fb) := HNo.out k hlt (by rw [HFk.out]; omega)
        clear HNo HYs HFt HFk HR HT HLo HTx
        refine wp_region_in (Below V.heap.size V) (by kernel_rfl) (by kernel_rfl) ((Below.refl _ _).drew) ?_
        repeat (first | go_big_quiet_step ((go_at_call 31; exact HTy.out _)))
        refine wpQuiet_nil ?_
        rintro _ ⟨x, rfl⟩
        have HX : Hid (Below w.heap.size w x.w) := HWd.out x
        go_wp2
        go_ret
        exact ⟨ret_bool HNx.out, HX.out⟩
      · have HNx : Hid (∀ j, j < k + 1 → ft1 t ev f c first j) := fun j hj => by
          by_cases e : j = k
          · subst e; rw [HFk.out]; omega
          · exact HQ.out.2 j (by omega)
        clear HNo HFt HFk HR HT HLo HTx
        refine wp_region_in (Below V.heap.size V) (by kernel_rfl) (by kernel_rfl) ((Below.refl _ _).drew) ?_
        repeat (first | go_big_quiet_step ((go_at_call 31; exact HTy.out _)))
        refine wpQuiet_nil ?_
        rintro _ ⟨x, rfl⟩
        have HX : Hid (Below w.heap.size w x.w) := HWd.out x
        go_wp2
        go_roundw
        case rel => exact ⟨k + 1, by omega, by go_num, HX.out, HNx.out⟩
        case measure => simp [intOf]; omega
    · obtain rfl : k = B := by omega
      have k0 : ¬ (k : Int) < (k : Int) := by omega
      have HNx : Hid (true = fb) := HYs.out HQ.out.2
      go_wp2
      go_ret
      exact ⟨ret_bool HNx.out, HQ.out.1⟩
end Go.Proofs.YthjnegdgpnbkkaaDoor.Rv
