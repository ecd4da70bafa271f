/- What BundleBack and BundleJust answer: true. Conditions: bundles, words and the table's bounds lie in memory. -/
import Derived.Test.YtldfjlepbbmhnaaDoorWh
namespace Go.Proofs.YtldfjlepbbmhnaaDoor.Bu
open Go.ChangeShapes Go.WideShapes Go.ChangeAt Go.RowKit
open _root_.Go.Proofs.YtldfjlepbbmhnaaDoor.Op
open _root_.Go.Proofs.YtldfjlepbbmhnaaDoor.Tb (Tab TabAt Bnds four tabAt_new ckR)
open _root_.Go.Proofs.YtldfjlepbbmhnaaDoor.So
set_option maxRecDepth 20000

end Go.Proofs.YtldfjlepbbmhnaaDoor.Bu
namespace Go.Proofs.YtldfjlepbbmhnaaDoor.Bu
open Go.ChangeShapes Go.WideShapes Go.ChangeAt Go.RowKit
open _root_.Go.Proofs.YtldfjlepbbmhnaaDoor.Op
open _root_.Go.Proofs.YtldfjlepbbmhnaaDoor.Tb (Tab TabAt Bnds four tabAt_new ckR)
open _root_.Go.Proofs.YtldfjlepbbmhnaaDoor.So
set_option maxRecDepth 20000

theorem enc_in {t : Tab} {ls : List Bn} (hok : ∀ x ∈ ls, x.Ok) (hw : allW t ls = true) : ∀ y ∈ encW t ls, 0 ≤ y ∧ y < 18446744073709551616 := by
  intro y hy
  obtain ⟨x, hx, hy⟩ := List.mem_flatMap.1 hy
  have hxw := wfK_iff.1 (List.all_eq_true.1 hw x hx)
  have key : ∀ n, n ≤ 4 → y ∈ wBk t x n → 0 ≤ y ∧ y < 18446744073709551616 := by
    intro n
    induction n with
    | zero => intro _ h; cases h
    | succ n ih =>
      intro hn h
      rcases List.mem_append.1 h with h | h
      · exact ih (by omega) h
      · rcases List.mem_append.1 h with h | h
        · obtain ⟨o, ho, rfl⟩ := List.mem_map.1 h
          have hf := isB_fld (hok x hx n (by omega) o ho) (List.all_eq_true.1 (clsB_parts (hxw n (by omega))).2 o ho)
          have := hf.lo
          have := hf.hi
          omega
        · obtain ⟨-, rfl⟩ := List.mem_replicate.1 h
          omega
  exact key 4 (Nat.le_refl _) hy
theorem Wl.ws {W : World} {b n : Nat} {ws : List Int} (h : Wl W b n ws) (hok : ∀ y ∈ ws, 0 ≤ y ∧ y < 18446744073709551616) : Ws W (some ⟨b, 0, none⟩) n (fun j => ws.getD j 0) := by
  refine ⟨fun j _ => ?_, fun _ => ⟨b, 0, rfl, h.lt, fun j hj => by rw [Nat.zero_add]; exact h.c j hj⟩⟩
  rw [List.getD_eq_getElem?_getD]
  cases e : ws[j]? with
  | none => simp
  | some y => exact hok y (List.mem_of_getElem? e)
end Go.Proofs.YtldfjlepbbmhnaaDoor.Bu
namespace Go.Proofs.YtldfjlepbbmhnaaDoor.Bu
open Go.ChangeShapes Go.WideShapes Go.ChangeAt Go.RowKit
open _root_.Go.Proofs.YtldfjlepbbmhnaaDoor.Op
open _root_.Go.Proofs.YtldfjlepbbmhnaaDoor.Tb (Tab TabAt Bnds four tabAt_new ckR)
open _root_.Go.Proofs.YtldfjlepbbmhnaaDoor.So
set_option maxRecDepth 20000

theorem enE_ok {t : Tab} {ls : List Bn} (h : enE t ls = 0) : t.ok = true ∧ ls.length ≤ 65536 ∧ allW t ls = true := by
  unfold enE at h
  cases ht : t.ok
  · rw [ht, if_neg (by decide)] at h; exact absurd h (by decide)
  · rw [ht, if_pos rfl] at h
    by_cases hl : 65536 < ls.length
    · rw [if_pos hl] at h; exact absurd h (by decide)
    · rw [if_neg hl] at h
      cases hw : allW t ls
      · rw [hw] at h; exact absurd h (by decide)
      · exact ⟨rfl, by omega, rfl⟩
theorem enc_yes (ao : Option Addr) (cap : Nat) (ls : List Bn) (t : Tab) (w : World) (hx : BsAt w ao ls) (hG : Bnds w) (h : enE t ls = 0) :
    Calls Tryd.prog 23 #[.slice ao ls.length cap, t.val] w fun e w' => ∃ b, e = .returned (.tuple #[.slice (some ⟨b, 0, none⟩) (ls.length * ofs t 4) (ls.length * ofs t 4), .int .i64 0]) ∧ Wl w' b (ls.length * ofs t 4) (encW t ls) ∧ w.heap.size ≤ b ∧ Below w.heap.size w w' := by
  obtain ⟨h1, h2, h3⟩ := enE_ok h
  have := enc_any ao cap ls t w hx hG h1 h2
  unfold EnOut at this
  rw [h3] at this
  exact this
theorem deE_in (t : Tab) (v : Nat → Int) (n : Nat) : 0 ≤ deE t v n ∧ deE t v n ≤ 210 := by
  unfold deE
  split
  · split
    · split
      · omega
      · split <;> omega
    · omega
  · omega
theorem deE_ok {t : Tab} {v : Nat → Int} {n : Nat} (h : deE t v n = 0) : t.ok = true ∧ n % ofs t 4 = 0 ∧ n / ofs t 4 ≤ 65536 ∧ deB t v (n / ofs t 4) = true := by
  unfold deE at h
  cases ht : t.ok
  · rw [ht, if_neg (by decide)] at h; exact absurd h (by decide)
  · rw [ht, if_pos rfl] at h
    by_cases hm : n % ofs t 4 = 0
    · rw [if_pos hm] at h
      by_cases hl : 65536 < n / ofs t 4
      · rw [if_pos hl] at h; exact absurd h (by decide)
      · rw [if_neg hl] at h
        cases hw : deB t v (n / ofs t 4)
        · rw [hw] at h; exact absurd h (by decide)
        · exact ⟨rfl, hm, by omega, rfl⟩
    · rw [if_neg hm] at h; exact absurd h (by decide)
theorem dec_no (ao : Option Addr) (n cap : Nat) (v : Nat → Int) (t : Tab) (w : World) (hx : Ws w ao n v) (hc : n ≤ cap) (hG : Bnds w) (hn : n ≤ 17592186044416) (h : deE t v n ≠ 0) :
    Calls Tryd.prog 27 #[.slice ao n cap, t.val] w fun e w' => e = .returned (.tuple #[.slice none 0 0, .int .i64 (deE t v n)]) ∧ Below w.heap.size w w' := by
  cases ht : t.ok
  · rw [show deE t v n = 20 by simp [deE, ht]]
    exact dec_table ao n cap t w hG ht
  · by_cases hm : n % ofs t 4 = 0
    · by_cases hl : 65536 < n / ofs t 4
      · rw [show deE t v n = 3 by simp [deE, ht, hl, hm]]
        exact dec_long ao n cap t w hG ht hn hm hl
      · cases hw : deB t v (n / ofs t 4)
        · rw [show deE t v n = 210 by simp [deE, ht, hl, hw, hm]]
          have := dec_any ao n cap v t w hx hc hG ht hn hm (by omega)
          unfold DeOut at this
          rw [hw] at this
          exact this
        · exact absurd (by simp [deE, ht, hl, hw, hm]) h
    · rw [show deE t v n = 210 by simp [deE, ht, hm]]
      exact dec_odd ao n cap t w hG ht hn hm
theorem dec_yes (ao : Option Addr) (n cap : Nat) (v : Nat → Int) (t : Tab) (w : World) (hx : Ws w ao n v) (hc : n ≤ cap) (hG : Bnds w) (hn : n ≤ 17592186044416) (h : deE t v n = 0) :
    Calls Tryd.prog 27 #[.slice ao n cap, t.val] w fun e w' => ∃ b, e = .returned (.tuple #[.slice (some ⟨b, 0, none⟩) (n / ofs t 4) (n / ofs t 4), .int .i64 0]) ∧ BsAt w' (some ⟨b, 0, none⟩) (deL t v (n / ofs t 4)) ∧ (∀ V, Fr (fun q => q < w.heap.size) w' V → BsAt V (some ⟨b, 0, none⟩) (deL t v (n / ofs t 4))) ∧ Below w.heap.size w w' := by
  obtain ⟨h1, h2, h3, h4⟩ := deE_ok h
  have := dec_any ao n cap v t w hx hc hG h1 hn h2 h3
  unfold DeOut at this
  rw [h4] at this
  exact this
end Go.Proofs.YtldfjlepbbmhnaaDoor.Bu
