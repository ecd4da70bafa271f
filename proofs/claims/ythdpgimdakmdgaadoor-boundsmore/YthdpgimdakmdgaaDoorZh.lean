/- Package bounds: in how many cycles all operations of a round find units (byUnits), read off the program by the walk. Conditions: the list lies in memory, its table is one, there are units. -/
import Derived.Test.YthdpgimdakmdgaaDoorZg
namespace Go.Proofs.YthdpgimdakmdgaaDoor.Bn
open Go.ChangeShapes Go.WideShapes Go.ChangeAt Go.RowKit
open _root_.Go.Proofs.YthdpgimdakmdgaaDoor.Op _root_.Go.Proofs.YthdpgimdakmdgaaDoor.So
open _root_.Go.Proofs.YthdpgimdakmdgaaDoor.Tb (Tab TabAt Bnds inB okC)
set_option maxRecDepth 20000

theorem tab_in {t : Tab} (h : t.ok = true) : (0 ≤ t.d ∧ t.d ≤ 4) ∧ ∀ k, k < 4 → (0 ≤ t.u k ∧ t.u k ≤ 8) ∧ (1 ≤ t.l k ∧ t.l k ≤ 8) ∧ (1 ≤ t.b k ∧ t.b k ≤ 4) := by
  unfold Tab.ok okC inB at h
  simp only [Bool.and_eq_true, decide_eq_true_eq] at h
  refine ⟨by omega, fun k hk => ?_⟩
  match k, hk with
  | 0, _ => omega
  | 1, _ => omega
  | 2, _ => omega
  | 3, _ => omega
theorem huB_all {t : Tab} {f : Nat → Int} : ∀ {n k : Nat}, huB t f n = true → k < n → 0 < f k → ¬ t.u k = 0
  | 0, _, _, h, _ => by omega
  | n + 1, k, h, hk, h0 => by
    unfold huB at h
    simp only [Bool.and_eq_true, Bool.not_eq_true', Bool.and_eq_false_iff, decide_eq_false_iff_not] at h
    by_cases c : k = n
    · subst c; exact h.2.elim (fun e => absurd h0 e) fun e => e
    · exact huB_all h.1 (by omega) h0
theorem buI_0 (t : Tab) (f : Nat → Int) : ∀ k, 0 ≤ buI t f k
  | 0 => Int.le_refl _
  | k + 1 => by
    have := buI_0 t f k
    unfold buI
    split <;> omega
theorem tdiv_le {n d : Int} (h0 : 0 ≤ n) (h1 : 1 ≤ d) (h2 : d ≤ 8) : 0 ≤ (n + d - 1).tdiv d ∧ (n + d - 1).tdiv d ≤ n + 7 := by
  refine ⟨Int.tdiv_nonneg (by omega) (by omega), ?_⟩
  rw [Int.tdiv_eq_ediv_of_nonneg (by omega)]
  exact Int.le_trans (Int.ediv_le_self _ (by omega)) (by omega)
theorem buI_le {t : Tab} {f : Nat → Int} (ht : t.ok = true) (hu : huB t f 4 = true) (hf : ∀ k, 0 ≤ f k ∧ f k ≤ 100) : ∀ k, k ≤ 4 → buI t f k ≤ 407
  | 0, _ => by show (0 : Int) ≤ 407; omega
  | k + 1, hk => by
    have ih := buI_le ht hu hf k (by omega)
    unfold buI
    split
    · rename_i h0
      have h1 := (tab_in ht).2 k (by omega)
      have h2 := huB_all hu (show k < 4 by omega) h0
      have h3 := hf k
      have h4 : f k * t.b k ≤ 100 * 4 := Int.mul_le_mul h3.2 h1.2.2.2 (by omega) (by omega)
      have h5 : 0 ≤ f k * t.b k := Int.mul_nonneg (by omega) (by omega)
      have h6 := tdiv_le h5 (d := t.u k) (by omega) h1.1.2
      omega
    · exact ih
set_option maxHeartbeats 4000000 in
theorem byUnits_any (ao : Option Addr) (cap : Nat) (xs : List O) (t : Tab) (w : World) (h : OpsAt w ao xs) (hn : xs.length ≤ 64) (ht : t.ok = true) (hu : huB t (cts xs) 4 = true) :
    Calls Tryd.prog 16 #[.slice ao xs.length cap, t.val] w fun e w' => e = .returned (.int .i64 (buI t (cts xs) 4)) ∧ Below w.heap.size w w' := by
  have HC : Hid (∀ W, Below w.heap.size w W → Calls Tryd.prog 28 #[.slice ao xs.length cap] W fun e w' => e = .returned (agg4 (cts xs)) ∧ Below W.heap.size W w') := fun W g => countsOf_any ao cap xs W (h.below g)
  have hf : ∀ k, 0 ≤ cts xs k ∧ cts xs k ≤ 100 := fun k => by have := cts_in xs k; omega
  have HI : Hid (∀ k, k < 4 → 0 < cts xs k → (0 ≤ cts xs k * t.b k ∧ cts xs k * t.b k ≤ 400) ∧ 1 ≤ t.u k ∧ t.u k ≤ 8) := fun k hk h0 => by
    have h1 := (tab_in ht).2 k hk
    have h2 := huB_all hu hk h0
    have h3 := hf k
    have h4 : cts xs k * t.b k ≤ 100 * 4 := Int.mul_le_mul h3.2 h1.2.2.2 (by omega) (by omega)
    exact ⟨⟨Int.mul_nonneg (by omega) (by omega), by omega⟩, by omega, by omega⟩
  have HB : Hid (∀ k, k ≤ 4 → 0 ≤ buI t (cts xs) k ∧ buI t (cts xs) k ≤ 407) := fun k hk => ⟨buI_0 _ _ _, buI_le ht hu hf k hk⟩
  clear h hn ht hu hf
  generalize cts xs = F at *
  unfold Tab.val at *
  go_enter Tryd.func16, Tryd.ntmps16
  go_wp2_with (first
    | (go_at_call 28; refine Calls.mono (HC.out _ (by go_grown)) ?_; rintro e w1 ⟨rfl, hb⟩; have HT : Hid (Tq w w1 t) := Tq.start w t hb; clear hb HC))
  go_loopw [5, 10] (fun u v wr => ∃ k : Nat, k ≤ 4 ∧ u = .int .i64 (buI t F k) ∧ v = .int .i64 k ∧ Tq w wr t) (fun _ v _ => 4 - (intOf v).toNat)
  case atStart => exact ⟨0, by omega, rfl, rfl, HT.out⟩
  case round =>
    rename World => wr
    obtain ⟨k, hk, rfl, rfl, hs⟩ := hrel
    have HQ : Hid (Tq w wr t) := hs
    clear hs HT
    by_cases hlt : k < 4
    · have k0 : (0 : Int) ≤ (k : Int) := by omega
      have k1 : (k : Int) < 4 := by omega
      have hidx : ∀ w, (Instr.index 23 (agg4 F) (.int .i64 (k : Int))).run Tryd.prog w = .ok (.int .i64 (F k)) w := fun w => agg4_at F w hlt
      have hbu := HB.out k hk
      by_cases h1 : 0 < F k
      · have HNx : Hid (buI t F (k + 1) = max (buI t F k) ((F k * t.b k + t.u k - 1).tdiv (t.u k))) := if_pos h1
        have hin := HI.out k hlt h1
        obtain ⟨⟨p0, p1⟩, u1, u2⟩ := hin
        have hd := tdiv_le p0 u1 u2
        have HD : Hid (∀ W, Calls Tryd.prog 29 #[.int .i64 (F k * t.b k), .int .i64 (t.u k)] W fun e w' => e = .returned (.int .i64 ((F k * t.b k + t.u k - 1).tdiv (t.u k))) ∧ Below W.heap.size W w') := fun W => (divideUp_any _ _ W p0 (by omega) u1 u2).mono fun e w' h => ⟨h.1, by rw [h.2]; exact Below.refl _ _⟩
        have cu : ∀ x : Wd (Below wr.heap.size wr), x.w.cell? ⟨w.heap.size, k, none⟩ = some (.int .i64 (t.u k)) := fun x => by rw [(bcell x.ok).1 _ _ HQ.out.t.lt]; exact HQ.out.t.cu k hlt
        have cb : ∀ x : Wd (Below wr.heap.size wr), x.w.cell? ⟨w.heap.size, 8 + k, none⟩ = some (.int .i64 (t.b k)) := fun x => by rw [(bcell x.ok).1 _ _ HQ.out.t.lt]; exact HQ.out.t.cb k hlt
        haveI inst : Nonempty (Wd (Below wr.heap.size wr)) := ⟨⟨wr, Below.refl _ _⟩⟩
        generalize (F k * t.b k + t.u k - 1).tdiv (t.u k) = dv at *
        generalize buI t F k = bu at *
        go_upto_region 6 with fail
        refine wp_region_in (Below wr.heap.size wr) (by kernel_rfl) (by kernel_rfl) ((Below.refl _ _).drew) ?_
        repeat (first | go_big_quiet_step ((go_at_call 29; exact calls_in (Nat.le_refl _) _ (HD.out _))))
        refine wpQuiet_nil ?_
        rintro _ ⟨x, rfl⟩
        have HQ2 : Hid (Tq w x.w t) := HQ.out.next x.ok
        go_wp2_with fail
        go_roundw
        case rel => exact ⟨k + 1, by omega, by rw [HNx.out]; congr 1; split <;> omega, by go_num, HQ2.out⟩
        case measure => simp [intOf]; omega
      · have HNx : Hid (buI t F (k + 1) = buI t F k) := if_neg h1
        generalize F k = fv at *
        go_wp2_with fail
        go_roundw
        case rel => exact ⟨k + 1, by omega, by rw [HNx.out], by go_num, HQ.out⟩
        case measure => simp [intOf]; omega
    · obtain rfl : k = 4 := by omega
      have k1 : ¬ ((4 : Nat) : Int) < 4 := by omega
      go_wp2_with fail
      go_ret
      exact ⟨rfl, HQ.out.up⟩
end Go.Proofs.YthdpgimdakmdgaaDoor.Bn
