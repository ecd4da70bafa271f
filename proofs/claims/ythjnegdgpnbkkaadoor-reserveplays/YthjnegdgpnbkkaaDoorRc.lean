/- How often an operation counts in a place (times), read off the program by the walk. Conditions: a table of reservations lies in memory; the first cycle is a small one. -/
import Derived.Test.YthjnegdgpnbkkaaDoorRb
namespace Go.Proofs.YthjnegdgpnbkkaaDoor.Rv
open Go.ChangeShapes Go.WideShapes Go.ChangeAt Go.RowKit Go.Maps
open _root_.Go.Proofs.YthjnegdgpnbkkaaDoor.Op _root_.Go.Proofs.YthjnegdgpnbkkaaDoor.So
open _root_.Go.Proofs.YthjnegdgpnbkkaaDoor.Tb (Tab TabAt Bnds)
set_option maxRecDepth 20000

/-- How often an operation from a cycle on counts in a cycle, of its first so many cycles. -/
def tms (ev : Option Int) (first cyc : Int) : Nat → Int
  | 0 => 0
  | k + 1 => tms ev first cyc k + (if tn ev (first + k) = cyc then 1 else 0)
theorem tms_in (ev : Option Int) (first cyc : Int) : ∀ k, 0 ≤ tms ev first cyc k ∧ tms ev first cyc k ≤ k
  | 0 => ⟨Int.le_refl _, Int.le_refl _⟩
  | k + 1 => by
    have := tms_in ev first cyc k
    unfold tms
    split <;> omega
theorem eq57 {a b c d : Int} (ha : I64 a) (hb : I64 b) (hc : I64 c) (hd : I64 d) (W : World) : (binOp BinOp.eql 57 (.agg #[.int .i64 a, .int .i64 b]) (.agg #[.int .i64 c, .int .i64 d])).run Tryd.prog W = .ok (.bool (a == c && b == d)) W := by
  obtain ⟨r, hr, hiff⟩ := run_equal_deep (P := Tryd.prog) W (m := 2) (by omega) (by kernel_rfl) (by kernel_rfl) (key57 ha hb) (key57 hc hd)
  have e : r = (a == c && b == d) := by
    rw [Bool.eq_iff_iff, hiff]
    simp only [Bool.and_eq_true, beq_iff_eq]
    constructor
    · exact fun h => kl_inj ha hb hc hd h
    · rintro ⟨rfl, rfl⟩; rfl
  simp [binOp, go_sem, hr, e]
set_option maxHeartbeats 4000000 in
theorem times_any {rb mb n : Nat} {t : Tab} {ev : Option Int} {f : Int → Int → Int} (c : Nat) (cyc first : Int) (w : World) (h : RAt w rb t ev mb n f) (hv : evOk ev) (hc : c < 4) (h0 : 0 ≤ first) (h1 : first ≤ 65536) (hb : 1 ≤ t.b c ∧ t.b c ≤ 4) (hcy : I64 cyc) :
    Calls Tryd.prog 31 #[.pointer (some ⟨rb, 0, none⟩), .agg #[.int .i64 (c : Int), .int .i64 cyc], .int .i64 first] w fun e w' => e = .returned (.int .i64 (tms ev first cyc (t.b c).toNat)) ∧ Below w.heap.size w w' := by
  have HK : Hid (∀ W k, Below w.heap.size w W → k < 4 → Calls Tryd.prog 23 #[.pointer (some ⟨rb, 0, none⟩), .int .i64 (c : Int), .int .i64 first, .int .i64 ((k : Nat) : Int)] W fun e w' => e = .returned (.agg #[.int .i64 (c : Int), .int .i64 (tn ev (first + k))]) ∧ Below W.heap.size W w') := fun W k hbw hk => kept_any _ _ _ W (h.up hbw) hv (by rw [IntKind.wrap_i64]; omega)
  obtain ⟨B, hB⟩ : ∃ B : Nat, t.b c = B := ⟨(t.b c).toNat, by omega⟩
  have HT : Hid (∀ k, k < 4 → I64 (tn ev (first + (k : Nat)))) := fun k hk => tn_in hv (by unfold I64; omega)
  have HCy : Hid (I64 cyc) := hcy
  have HCl : Hid (I64 (c : Int)) := by unfold I64 Hid; omega
  have hl := h.at'.lt
  have HA : Hid (∀ W, Below w.heap.size w W → rb < W.heap.size ∧ W.cell? ⟨rb, 4 + c, none⟩ = some (.int .i64 (B : Int))) := fun W hbw => ⟨(h.up hbw).at'.lt, by rw [← hB]; exact (h.up hbw).b c hc⟩
  rw [hB] at hb ⊢
  rw [Int.toNat_natCast]
  clear h hB hv hcy
  have c0 : (0 : Int) ≤ (c : Int) := by omega
  have c1 : (c : Int) < 4 := by omega
  have HS : Hid (At (w.alloc (.cells #[.int .i64 (c : Int), .int .i64 cyc] 57)) w.heap.size #[.int .i64 (c : Int), .int .i64 cyc] ∧ Below w.heap.size w (w.alloc (.cells #[.int .i64 (c : Int), .int .i64 cyc] 57))) := ⟨At.new _ _ _, (Below.refl _ _).alloc (Nat.le_refl _) _⟩
  go_enter Tryd.func31, Tryd.ntmps31
  go_upto_region 2 with fail
  generalize w.alloc (.cells #[.int .i64 (c : Int), .int .i64 cyc] 57) = W0 at *
  obtain ⟨g0, g1⟩ := HA.out _ HS.out.2
  have s0 := HS.out.1.c 0 _ rfl
  have sl := HS.out.1.lt
  go_quiet (fail)
  go_wp2
  clear g0 g1 s0 sl
  go_loopw [7, 16] (fun s v wr => ∃ k : Nat, k ≤ B ∧ s = .int .i64 (tms ev first cyc k) ∧ v = .int .i64 k ∧ At wr w.heap.size #[.int .i64 (c : Int), .int .i64 cyc] ∧ Below w.heap.size w wr) (fun _ v _ => B - (intOf v).toNat)
  case atStart => exact ⟨0, by omega, rfl, rfl, HS.out.1.below (B := W0.heap.size) ((Fr.refl Non W0).drewN _).non HS.out.1.lt, HS.out.2.trans (((Fr.refl Non W0).drewN _).non.mono HS.out.2.size)⟩
  case round =>
    rename World => wr
    obtain ⟨k, hk, rfl, rfl, hA, hbw⟩ := hrel
    have HQ : Hid (At wr w.heap.size #[.int .i64 (c : Int), .int .i64 cyc] ∧ Below w.heap.size w wr) := ⟨hA, hbw⟩
    clear hA hbw HS
    obtain ⟨t0, t1⟩ := tms_in ev first cyc k
    by_cases hlt : k < B
    · have k0 : (k : Int) < (B : Int) := by omega
      have ck : ∀ x : Wd (Below wr.heap.size wr), x.w.cell? ⟨w.heap.size, 0, none⟩ = some (.int .i64 (c : Int)) := fun x => (HQ.out.1.below x.ok HQ.out.1.lt).c 0 _ rfl
      have cy : ∀ x : Wd (Below wr.heap.size wr), x.w.cell? ⟨w.heap.size, 1, none⟩ = some (.int .i64 cyc) := fun x => (HQ.out.1.below x.ok HQ.out.1.lt).c 1 _ rfl
      have HKx : Hid (∀ x : Wd (Below wr.heap.size wr), Calls Tryd.prog 23 #[.pointer (some ⟨rb, 0, none⟩), .int .i64 (c : Int), .int .i64 first, .int .i64 (k : Int)] x.w fun e w'' => e = .returned (.agg #[.int .i64 (c : Int), .int .i64 (tn ev (first + k))]) ∧ ∃ y : Wd (Below wr.heap.size wr), w'' = y.w) := fun x => calls_in (Nat.le_refl _) x (HK.out x.w k (HQ.out.2.trans (x.ok.mono HQ.out.2.size)) (by omega))
      have HNx : Hid (tms ev first cyc (k + 1) = tms ev first cyc k + (if tn ev (first + k) = cyc then 1 else 0)) := rfl
      haveI inst : Nonempty (Wd (Below wr.heap.size wr)) := ⟨⟨wr, Below.refl _ _⟩⟩
      have he := fun W => eq57 HCl.out (HT.out k (by omega)) HCl.out HCy.out W
      by_cases hx : tn ev (first + k) = cyc
      · have hb2 : ((c : Int) == (c : Int) && tn ev (first + k) == cyc) = true := by simp [hx]
        rw [hb2] at he
        rw [if_pos hx] at HNx
        clear hb2 hx
        generalize tn ev (first + k) = z at *
        generalize tms ev first cyc k = s at *
        go_wp2
        refine wp_region_in (Below wr.heap.size wr) (by kernel_rfl) (by kernel_rfl) ((Below.refl _ _).drew) ?_
        repeat (first | go_big_quiet_step ((go_at_call 23; exact HKx.out _)))
        refine wpQuiet_nil ?_
        rintro _ ⟨x, rfl⟩
        have HX : Hid (Below wr.heap.size wr x.w) := x.ok
        go_wp2
        go_roundw
        case rel => exact ⟨k + 1, by omega, by rw [HNx.out], by go_num, HQ.out.1.below HX.out HQ.out.1.lt, HQ.out.2.trans (HX.out.mono HQ.out.2.size)⟩
        case measure => simp [intOf]; omega
      · have hb2 : ((c : Int) == (c : Int) && tn ev (first + k) == cyc) = false := by simp [hx]
        rw [hb2] at he
        rw [if_neg hx, Int.add_zero] at HNx
        clear hb2 hx
        generalize tn ev (first + k) = z at *
        generalize tms ev first cyc k = s at *
        go_wp2
        refine wp_region_in (Below wr.heap.size wr) (by kernel_rfl) (by kernel_rfl) ((Below.refl _ _).drew) ?_
        repeat (first | go_big_quiet_step ((go_at_call 23; exact HKx.out _)))
        refine wpQuiet_nil ?_
        rintro _ ⟨x, rfl⟩
        have HX : Hid (Below wr.heap.size wr x.w) := x.ok
        go_wp2
        go_roundw
        case rel => exact ⟨k + 1, by omega, by rw [HNx.out], by go_num, HQ.out.1.below HX.out HQ.out.1.lt, HQ.out.2.trans (HX.out.mono HQ.out.2.size)⟩
        case measure => simp [intOf]; omega
    · obtain rfl : k = B := by omega
      have k0 : ¬ (k : Int) < (k : Int) := by omega
      go_wp2
      go_ret
      exact ⟨rfl, HQ.out.2⟩
end Go.Proofs.YthjnegdgpnbkkaaDoor.Rv
