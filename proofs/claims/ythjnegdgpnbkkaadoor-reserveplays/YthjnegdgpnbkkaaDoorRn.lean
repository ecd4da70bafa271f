/- Whether the document's table of reservations has a unit free, that an operation is taken of it, and how many are busy (Free, Take, Used, New, Ring), read off the program by the walk. Conditions: it lies in memory; cycles are below 2^41. -/
import Derived.Test.YthjnegdgpnbkkaaDoorRm
namespace Go.Proofs.YthjnegdgpnbkkaaDoor.Rv
open Go.ChangeShapes Go.WideShapes Go.ChangeAt Go.RowKit Go.Maps
open _root_.Go.Proofs.YthjnegdgpnbkkaaDoor.Op _root_.Go.Proofs.YthjnegdgpnbkkaaDoor.So
open _root_.Go.Proofs.YthjnegdgpnbkkaaDoor.Tb (Tab TabAt Bnds)
set_option maxRecDepth 20000

theorem fair_fr {t : Tab} {ev : Option Int} (hv : evOk ev) (f : Int → Int → Int) (cl cyc : Int) : frB t ev f cl cyc = (fairB ev cl cyc && ftB t ev f cl.toNat (tn ev cyc)) := by
  unfold frB fairB
  have e1 : decide (cl ≤ 3) = decide (cl < 4) := by rw [decide_eq_decide]; omega
  rw [e1]
  cases ev with
  | none =>
    have e2 : decide (0 < Ee none) = false := by decide
    rw [e2, Bool.false_or]
    show (_ && (decide (0 ≤ cyc) && decide (cyc ≤ 65536) && _)) = _
    rw [Bool.and_assoc (decide (0 ≤ cl) && decide (cl < 4))]
  | some e =>
    obtain ⟨h1, h2⟩ := hv
    have z0 : 0 ≤ tn (some e) cyc := Int.emod_nonneg _ (show e ≠ 0 by omega)
    have z1 : tn (some e) cyc < e := Int.emod_lt_of_pos _ (show 0 < e by omega)
    have e2 : decide (0 < Ee (some e)) = true := decide_eq_true (show 0 < e by omega)
    have e3 : decide (0 ≤ tn (some e) cyc) = true := by simpa using z0
    have e4 : decide (tn (some e) cyc ≤ 65536) = true := by simp; omega
    rw [e2, e3, e4]
    simp
set_option maxHeartbeats 4000000 in
theorem dfree_any {B c rb : Nat} {t : Tab} {ev : Option Int} {a : Option Addr} {L : List Ak} (cl cyc : Int) (w : World) (h : DAt B w rb t ev a c L) (hv : evOk ev) (ht : t.ok = true) (hL : L.length ≤ 100) (hcy : I41 cyc) :
    Calls Tryd.prog 15 #[.pointer (some ⟨rb, 0, none⟩), .int .i64 cl, .int .i64 cyc] w fun e w' => e = .returned (.bool (frB t ev (Fl t ev L) cl cyc)) ∧ Below w.heap.size w w' := by
  have HFa : Hid (∀ W, Below w.heap.size w W → Calls Tryd.prog 26 #[.pointer (some ⟨rb, 0, none⟩), .int .i64 cl, .int .i64 cyc] W fun e w' => e = .returned (.bool (fairB ev cl cyc)) ∧ Below W.heap.size W w') := fun W g => fair_any cl cyc W (h.up g)
  rw [fair_fr hv]
  cases hfa : fairB ev cl cyc
  · rw [hfa] at HFa
    clear h hv ht hfa
    go_enter Tryd.func15, Tryd.ntmps15
    go_wp2_with (first | (go_at_call 26; refine Calls.mono (HFa.out _ (Below.refl _ _)) ?_; rintro e w1 ⟨rfl, b1⟩; have HB : Hid (Below w.heap.size w w1) := b1; clear b1 HFa))
    go_ret
    exact ⟨rfl, HB.out⟩
  · rw [hfa] at HFa
    rw [Bool.true_and]
    have hcl : 0 ≤ cl ∧ cl < 4 := by
      unfold fairB at hfa
      simp only [Bool.and_eq_true, decide_eq_true_eq] at hfa
      exact hfa.1
    clear hfa
    obtain ⟨q, rfl⟩ : ∃ q : Nat, cl = q := ⟨cl.toNat, by omega⟩
    rw [Int.toNat_natCast]
    have hq : q < 4 := by omega
    obtain ⟨p1, p2, p3⟩ := (Tb.ok_parts ht).2 q hq
    obtain ⟨u1, u2⟩ := Tb.inB_iff p1
    have hbb := Tb.inB_iff p3
    have HAt : Hid (∀ W, Below w.heap.size w W → Calls Tryd.prog 27 #[.pointer (some ⟨rb, 0, none⟩), .int .i64 cyc] W fun e w' => e = .returned (.int .i64 (tn ev cyc)) ∧ Below W.heap.size W w') := fun W g => at_any cyc W (h.up g) hv
    have HUs : Hid (∀ W z, Below w.heap.size w W → Calls Tryd.prog 28 #[.pointer (some ⟨rb, 0, none⟩), .int .i64 (q : Int), .int .i64 z] W fun e w' => e = .returned (.int .i64 (Fl t ev L q (tn ev z))) ∧ Below W.heap.size W w') := fun W z g => dused_any (q : Int) z W (h.up g) hv ht hL
    have HTi : Hid (∀ W z, Below w.heap.size w W → Calls Tryd.prog 29 #[.pointer (some ⟨rb, 0, none⟩), .agg #[.int .i64 (q : Int), .int .i64 cyc], .int .i64 z] W fun e w' => e = .returned (.int .i64 (tms ev (tn ev cyc) (tn ev z) (t.b q).toNat)) ∧ Below W.heap.size W w') := fun W z g => dtimes_any q cyc z W (h.up g) hv hq hcy hbb
    have HD : Hid (∀ W, Below w.heap.size w W → DAt B W rb t ev a c L) := fun W g => h.up g
    have HNo : Hid (∀ k, k < (t.b q).toNat → ¬ ft1 t ev (Fl t ev L) q (tn ev cyc) k → false = ftB t ev (Fl t ev L) q (tn ev cyc)) := fun k hk h => ftB_no hk h
    have HYs : Hid ((∀ k, k < (t.b q).toNat → ft1 t ev (Fl t ev L) q (tn ev cyc) k) → true = ftB t ev (Fl t ev L) q (tn ev cyc)) := fun h => ftB_yes h
    have HFt : Hid (∀ k, ft1 t ev (Fl t ev L) q (tn ev cyc) k ↔ Fl t ev L q (tn ev (tn ev cyc + (k : Nat))) + tms ev (tn ev cyc) (tn ev (tn ev cyc + k)) (t.b q).toNat ≤ t.u q) := fun k => Iff.rfl
    have HFl : Hid (∀ b, 0 ≤ Fl t ev L q b ∧ Fl t ev L q b ≤ 400) := fun b => ⟨Fl_0 _ _ _ _ _, by
      have h1 := Fl_le t ev ht q b L fun x hx => (h.ok x hx).1
      omega⟩
    have hty := tn41 hv hcy
    unfold I41 at hty
    generalize ftB t ev (Fl t ev L) q (tn ev cyc) = fb at *
    obtain ⟨Bn, hB⟩ : ∃ Bn : Nat, t.b q = Bn := ⟨(t.b q).toNat, by omega⟩
    have HBc : Hid (∀ W, Below w.heap.size w W → rb < W.heap.size ∧ W.cell? ⟨rb, 8 + q, none⟩ = some (.int .i64 (Bn : Int)) ∧ W.cell? ⟨rb, q, none⟩ = some (.int .i64 (t.u q))) := fun W g => ⟨(h.up g).da.lt, by rw [← hB]; exact (h.up g).b q hq, (h.up g).u q hq⟩
    rw [hB, Int.toNat_natCast] at HTi HNo HYs HFt
    rw [hB] at hbb
    obtain ⟨b1, b2⟩ := hbb
    clear h hB hv ht p1 p2 p3 hcl
    have c0 : (0 : Int) ≤ (q : Int) := by omega
    have c1 : (q : Int) < 4 := by omega
    generalize t.u q = uc at *
    go_enter Tryd.func15, Tryd.ntmps15
    go_upto_region 5 with (first | (go_at_call 26; refine Calls.mono (HFa.out _ (Below.refl _ _)) ?_; rintro e w1 ⟨rfl, b1⟩; have HV : Hid (At (w1.alloc (.cells #[.int .i64 (q : Int), .int .i64 cyc] 60)) w1.heap.size #[.int .i64 (q : Int), .int .i64 cyc] ∧ Below w.heap.size w (w1.alloc (.cells #[.int .i64 (q : Int), .int .i64 cyc] 60)) ∧ w.heap.size ≤ w1.heap.size) := ⟨At.new _ _ _, b1.trans ((Below.refl _ _).alloc b1.size _), b1.size⟩; clear b1 HFa))
    generalize w1.alloc (.cells #[.int .i64 (q : Int), .int .i64 cyc] 60) = V at *
    generalize w1.heap.size = ob at *
    go_loopw [8] (fun v wr => ∃ k : Nat, k ≤ Bn ∧ v = .int .i64 k ∧ Below w.heap.size w wr ∧ At wr ob #[.int .i64 (q : Int), .int .i64 cyc] ∧ ∀ j, j < k → ft1 t ev (Fl t ev L) q (tn ev cyc) j) (fun v _ => Bn - (intOf v).toNat)
    case atStart => exact ⟨0, by omega, rfl, HV.out.2.1, HV.out.1, fun j hj => by omega⟩
    case round =>
      rename World => wr
      obtain ⟨k, hk, rfl, hbw, hat, hok⟩ := hrel
      have HQ : Hid (Below w.heap.size w wr ∧ At wr ob #[.int .i64 (q : Int), .int .i64 cyc] ∧ ∀ j, j < k → ft1 t ev (Fl t ev L) q (tn ev cyc) j) := ⟨hbw, hat, hok⟩
      clear hbw hat hok HV
      obtain ⟨g0, g1, -⟩ := HBc.out _ HQ.out.1
      by_cases hlt : k < Bn
      · have k0 : (k : Int) < (Bn : Int) := by omega
        have HFk : Hid (ft1 t ev (Fl t ev L) q (tn ev cyc) k ↔ Fl t ev L q (tn ev (tn ev cyc + (k : Nat))) + tms ev (tn ev cyc) (tn ev (tn ev cyc + k)) Bn ≤ uc) := HFt.out k
        have HUx : Hid (∀ W, Below w.heap.size w W → Calls Tryd.prog 28 #[.pointer (some ⟨rb, 0, none⟩), .int .i64 (q : Int), .int .i64 (tn ev cyc + (k : Int))] W fun e w' => e = .returned (.int .i64 (Fl t ev L q (tn ev (tn ev cyc + (k : Nat))))) ∧ Below W.heap.size W w') := fun W g => HUs.out W _ g
        have HTx : Hid (∀ W, Below w.heap.size w W → Calls Tryd.prog 29 #[.pointer (some ⟨rb, 0, none⟩), .agg #[.int .i64 (q : Int), .int .i64 cyc], .int .i64 (tn ev cyc + (k : Int))] W fun e w' => e = .returned (.int .i64 (tms ev (tn ev cyc) (tn ev (tn ev cyc + (k : Nat))) Bn)) ∧ Below W.heap.size W w') := fun W g => HTi.out W _ g
        obtain ⟨f1, f2⟩ := HFl.out (tn ev (tn ev cyc + (k : Nat)))
        obtain ⟨s1, s2⟩ := tms_in ev (tn ev cyc) (tn ev (tn ev cyc + (k : Nat))) Bn
        have hwk : IntKind.i64.wrap (tn ev cyc + (k : Int)) = tn ev cyc + (k : Int) := by rw [IntKind.wrap_i64]; omega
        obtain ⟨F, hF⟩ : ∃ F, Fl t ev L q (tn ev (tn ev cyc + (k : Nat))) = F := ⟨_, rfl⟩
        obtain ⟨S, hS⟩ : ∃ S, tms ev (tn ev cyc) (tn ev (tn ev cyc + (k : Nat))) Bn = S := ⟨_, rfl⟩
        rw [hF] at HFk HUx f1 f2
        rw [hS] at HFk HTx s1 s2
        clear hF hS HUs HTi
        go_upto_region 8 with (first | (go_at_call 27; refine Calls.mono (HAt.out _ HQ.out.1) ?_; rintro e w2 ⟨rfl, b2⟩; have HV : Hid (Below w.heap.size w w2 ∧ At w2 ob #[.int .i64 (q : Int), .int .i64 cyc]) := ⟨HQ.out.1.trans (b2.mono HQ.out.1.size), HQ.out.2.1.below b2 HQ.out.2.1.lt⟩; clear b2))
        have HWd : Hid (∀ x : Wd (Below w2.heap.size w2), Below w.heap.size w x.w) := fun x => HV.out.1.trans (x.ok.mono HV.out.1.size)
        have x0 : ∀ x : Wd (Below w2.heap.size w2), x.w.cell? ⟨ob, 0, none⟩ = some (.int .i64 (q : Int)) := fun x => (HV.out.2.below x.ok HV.out.2.lt).c 0 _ rfl
        have x1 : ∀ x : Wd (Below w2.heap.size w2), x.w.cell? ⟨ob, 1, none⟩ = some (.int .i64 cyc) := fun x => (HV.out.2.below x.ok HV.out.2.lt).c 1 _ rfl
        have xu : ∀ x : Wd (Below w2.heap.size w2), x.w.cell? ⟨rb, q, none⟩ = some (.int .i64 uc) := fun x => (HBc.out _ (HWd.out x)).2.2
        have HUy : Hid (∀ x : Wd (Below w2.heap.size w2), Calls Tryd.prog 28 #[.pointer (some ⟨rb, 0, none⟩), .int .i64 (q : Int), .int .i64 (tn ev cyc + (k : Int))] x.w fun e w'' => e = .returned (.int .i64 F) ∧ ∃ y : Wd (Below w2.heap.size w2), w'' = y.w) := fun x => calls_in (Nat.le_refl _) x (HUx.out x.w (HWd.out x))
        have HTy : Hid (∀ x : Wd (Below w2.heap.size w2), Calls Tryd.prog 29 #[.pointer (some ⟨rb, 0, none⟩), .agg #[.int .i64 (q : Int), .int .i64 cyc], .int .i64 (tn ev cyc + (k : Int))] x.w fun e w'' => e = .returned (.int .i64 S) ∧ ∃ y : Wd (Below w2.heap.size w2), w'' = y.w) := fun x => calls_in (Nat.le_refl _) x (HTx.out x.w (HWd.out x))
        haveI inst : Nonempty (Wd (Below w2.heap.size w2)) := ⟨⟨w2, Below.refl _ _⟩⟩
        have hwr : IntKind.i64.wrap (F + S) = F + S := by rw [IntKind.wrap_i64]; omega
        by_cases hx : uc < F + S
        · have HNx : Hid (false = fb) := HNo.out k hlt (by rw [HFk.out]; omega)
          clear HNo HYs HFt HFk HAt HUx HTx
          refine wp_region_in (Below w2.heap.size w2) (by kernel_rfl) (by kernel_rfl) ((Below.refl _ _).drew) ?_
          repeat (first | go_big_quiet_step ((first | (go_at_call 28; exact HUy.out _) | (go_at_call 29; exact HTy.out _))))
          refine wpQuiet_nil ?_
          rintro _ ⟨x, rfl⟩
          have HX : Hid (Below w.heap.size w x.w) := HWd.out x
          go_wp2
          go_ret
          exact ⟨ret_bool HNx.out, HX.out⟩
        · have HNx : Hid (∀ j, j < k + 1 → ft1 t ev (Fl t ev L) q (tn ev cyc) j) := fun j hj => by
            by_cases e : j = k
            · subst e; rw [HFk.out]; omega
            · exact HQ.out.2.2 j (by omega)
          clear HNo HFt HFk HUx HTx
          refine wp_region_in (Below w2.heap.size w2) (by kernel_rfl) (by kernel_rfl) ((Below.refl _ _).drew) ?_
          repeat (first | go_big_quiet_step ((first | (go_at_call 28; exact HUy.out _) | (go_at_call 29; exact HTy.out _))))
          refine wpQuiet_nil ?_
          rintro _ ⟨x, rfl⟩
          have HX : Hid (Below w.heap.size w x.w ∧ At x.w ob #[.int .i64 (q : Int), .int .i64 cyc]) := ⟨HWd.out x, HV.out.2.below x.ok HV.out.2.lt⟩
          go_wp2
          go_roundw
          case rel => exact ⟨k + 1, by omega, by go_num, HX.out.1, HX.out.2, HNx.out⟩
          case measure => simp [intOf]; omega
      · obtain rfl : k = Bn := by omega
        have k0 : ¬ (k : Int) < (k : Int) := by omega
        have HNx : Hid (true = fb) := HYs.out HQ.out.2.2
        go_wp2
        go_ret
        exact ⟨ret_bool HNx.out, HQ.out.1⟩
theorem Fl_out {t : Tab} {ev : Option Int} {cl : Int} (hc : cl < 0 ∨ 4 ≤ cl) (b : Int) : ∀ L : List Ak, (∀ x ∈ L, 0 ≤ x.c ∧ x.c ≤ 3) → Fl t ev L cl b = 0
  | [], _ => rfl
  | x :: L, h => by
    have h1 := Fl_out (t := t) (ev := ev) hc b L fun y hy => h y (List.mem_cons_of_mem _ hy)
    have h2 := h x (List.mem_cons_self ..)
    show one t ev x cl b + Fl t ev L cl b = 0
    rw [h1]
    unfold one
    rw [if_neg (by omega)]
    rfl
theorem dUsed_any {B c rb : Nat} {t : Tab} {ev : Option Int} {a : Option Addr} {L : List Ak} (cl cyc : Int) (w : World) (h : DAt B w rb t ev a c L) (hv : evOk ev) (ht : t.ok = true) (hL : L.length ≤ 100) :
    Calls Tryd.prog 17 #[.pointer (some ⟨rb, 0, none⟩), .int .i64 cl, .int .i64 cyc] w fun e w' => e = .returned (.int .i64 (Fl t ev L cl (tn ev cyc))) ∧ Below w.heap.size w w' := by
  have HU : Hid (∀ W, Below w.heap.size w W → Calls Tryd.prog 28 #[.pointer (some ⟨rb, 0, none⟩), .int .i64 cl, .int .i64 cyc] W fun e w' => e = .returned (.int .i64 (Fl t ev L cl (tn ev cyc))) ∧ Below W.heap.size W w') := fun W g => dused_any cl cyc W (h.up g) hv ht hL
  by_cases h0 : cl < 0
  · rw [Fl_out (.inl h0) _ L fun x hx => (h.ok x hx).1]
    clear h hv ht HU
    go_enter Tryd.func17, Tryd.ntmps17
    go_wp2
    go_ret
    exact ⟨rfl, by go_grown⟩
  · by_cases h4 : 4 ≤ cl
    · rw [Fl_out (.inr h4) _ L fun x hx => (h.ok x hx).1]
      clear h hv ht HU
      go_enter Tryd.func17, Tryd.ntmps17
      go_wp2
      go_ret
      exact ⟨rfl, by go_grown⟩
    · clear h hv ht
      generalize Fl t ev L cl (tn ev cyc) = F at *
      go_enter Tryd.func17, Tryd.ntmps17
      go_wp2_with (first | (go_at_call 28; refine Calls.mono (HU.out _ (Below.refl _ _)) ?_; rintro e w1 ⟨rfl, b1⟩; have HB : Hid (Below w.heap.size w w1) := b1; clear b1 HU))
      go_ret
      exact ⟨rfl, HB.out⟩
end Go.Proofs.YthjnegdgpnbkkaaDoor.Rv
