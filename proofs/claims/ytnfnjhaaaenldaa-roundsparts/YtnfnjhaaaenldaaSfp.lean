/- A list is put into order, in memory: stretches of twenty by insertion, then by merging. Conditions: the row lies at a block's beginning; two things are compared by their keys. -/
import Derived.Test.YtnfnjhaaaenldaaSep
namespace Go.Proofs.Ytnfnjhaaaenldaa.Sp
open Go.ChangeShapes Go.WideShapes Go.ChangeAt Go.RowKit
open _root_.Go.Proofs.Ytnfnjhaaaenldaa.Op _root_.Go.Proofs.Ytnfnjhaaaenldaa.So _root_.Go.Proofs.Ytnfnjhaaaenldaa.Ss
set_option maxRecDepth 20000

set_option maxHeartbeats 16000000 in
theorem stable_any (bx blk n cap : Nat) (Ok : Pr → Prop) (key : Pr → Int) (f : Nat → Pr) (w0 w : World) (hC : Cmp bx blk Ok key w0) (S : Rw blk n Ok w0 w f) (hn : n < 1099511627776) :
    Calls Try.prog 26 #[.slice (some ⟨blk, 0, none⟩) n cap, .int .i64 n, .func (.func 24) #[] #[.pointer (some ⟨bx, 0, none⟩)]] w fun e w' => e = .returned (.tuple #[]) ∧ ∃ g, Rw blk n Ok w0 w' g ∧ Ps key 0 n f g ∧ Srt key g 0 n := by
  have S0 : Aside (Rw blk n Ok w0 w f) := S
  have HI : Hid (∀ (a b : Nat) (h : Nat → Pr) w', Rw blk n Ok w0 w' h → a ≤ b → b ≤ n → Calls Try.prog 28 #[.slice (some ⟨blk, 0, none⟩) n cap, .int .i64 a, .int .i64 b, .func (.func 24) #[] #[.pointer (some ⟨bx, 0, none⟩)]] w' fun e w2 => e = .returned (.tuple #[]) ∧ ∃ g, Rw blk n Ok w0 w2 g ∧ Ps key a b h g ∧ Srt key g a b) :=
    fun a b h w' S' h1 h2 => insertion_any bx blk n cap a b Ok key h w0 w' hC S' h1 h2 hn
  have HM : Hid (∀ (a m b : Nat) (h : Nat → Pr) w', Rw blk n Ok w0 w' h → a < m → m < b → b ≤ n → Srt key h a m → Srt key h m b → Calls Try.prog 29 #[.slice (some ⟨blk, 0, none⟩) n cap, .int .i64 a, .int .i64 m, .int .i64 b, .func (.func 24) #[] #[.pointer (some ⟨bx, 0, none⟩)]] w' fun e w2 => e = .returned (.tuple #[]) ∧ ∃ g, Rw blk n Ok w0 w2 g ∧ Ps key a b h g ∧ Srt key g a b) :=
    fun a m b h w' S' h1 h2 h3 h4 h5 => symMerge_any bx blk n cap Ok key w0 hC hn (b - a + 1) a m b h w' (by omega) S' h1 h2 h3 h4 h5
  clear S hC
  go_enter Try.func26, Try.ntmps26
  go_wp2
  go_loopg [7, 8] n (fun g1 va vb wr => ∃ (a : Nat) (g : Nat → Pr), va = .int .i64 a ∧ vb = .int .i64 (a + 20 : Nat) ∧ a ≤ n ∧ n - a ≤ g1 ∧ Aside (Rw blk n Ok w0 wr g) ∧ Aside (Ps key 0 n f g) ∧ Aside (20 ∣ a ∧ Done key g 20 a))
  case atStart => exact ⟨0, f, rfl, rfl, by omega, by omega, S0, Ps.refl _ _ _ _, ⟨Nat.dvd_zero 20, Done.nil key f 20⟩⟩
  case round =>
    clear S0
    obtain ⟨a, g, rfl, rfl, ha, hg1, S1, P1, D1⟩ := hrel
    have za : ((a + 20 : Nat) : Int) = (a : Int) + 20 := by omega
    by_cases hle : a + 20 ≤ n
    · have hz : (a : Int) + 20 ≤ (n : Int) := by omega
      have HX : Hid (∀ w', Rw blk n Ok w0 w' g → Calls Try.prog 28 #[.slice (some ⟨blk, 0, none⟩) n cap, .int .i64 a, .int .i64 ((a : Int) + 20), .func (.func 24) #[] #[.pointer (some ⟨bx, 0, none⟩)]] w' fun e w2 => e = .returned (.tuple #[]) ∧ ∃ h, Rw blk n Ok w0 w2 h ∧ Ps key a (a + 20) g h ∧ Srt key h a (a + 20)) :=
        fun w' S' => by rw [← za]; exact HI.out a (a + 20) g w' S' (by omega) hle
      go_wp2_with (first | (go_at_call 28; refine Calls.mono (HX.out _ S1.out) ?_; rintro e' w1 ⟨rfl, h, hS, hP, hO⟩; have S2 : Aside (Rw blk n Ok w0 w1 h) := hS; have P2 : Aside (Ps key a (a + 20) g h) := hP; have O2 : Aside (Srt key h a (a + 20)) := hO; clear hS hP hO S1 HX))
      go_roundg (n - (a + 20))
      case measure => omega
      case rel =>
        have D2 := D1.out.2.step D1.out.1 P2.out.pm (by omega) (Nat.le_refl _) O2.out
        exact ⟨a + 20, h, by first | rfl | go_num | (congr 1; omega), by first | rfl | go_num | (congr 1; omega), hle, Nat.le_refl _, S2, P1.out.trans (P2.out.mono (by omega) hle), ⟨Nat.dvd_add D1.out.1 (Nat.dvd_refl 20), D2⟩⟩
    · have hz : ¬ (a : Int) + 20 ≤ (n : Int) := by omega
      have HX : Hid (∀ w', Rw blk n Ok w0 w' g → Calls Try.prog 28 #[.slice (some ⟨blk, 0, none⟩) n cap, .int .i64 a, .int .i64 n, .func (.func 24) #[] #[.pointer (some ⟨bx, 0, none⟩)]] w' fun e w2 => e = .returned (.tuple #[]) ∧ ∃ h, Rw blk n Ok w0 w2 h ∧ Ps key a n g h ∧ Srt key h a n) :=
        fun w' S' => HI.out a n g w' S' ha (Nat.le_refl _)
      clear HI
      go_wp2_with (first | (go_at_call 28; refine Calls.mono (HX.out _ S1.out) ?_; rintro e' w1 ⟨rfl, h, hS, hP, hO⟩; have S2 : Aside (Rw blk n Ok w0 w1 h) := hS; have P2 : Aside (Ps key a n g h) := hP; have O2 : Aside (Srt key h a n) := hO; clear hS hP hO S1 HX))
      have P3 : Aside (Ps key 0 n f h) := P1.out.trans (P2.out.mono (by omega) (Nat.le_refl _))
      have D3 : Aside (Done key h 20 n) := D1.out.2.step D1.out.1 P2.out.pm ha (by omega) O2.out
      clear P1 P2 D1 O2 g za
      go_loopg [6, 7, 8] (2 * n + 40) (fun g1 vs va vb wr => ∃ (s : Nat) (g : Nat → Pr), vs = .int .i64 s ∧ 20 ≤ s ∧ s ≤ 2 * n + 20 ∧ 2 * n + 40 - s ≤ g1 ∧ Aside (Rw blk n Ok w0 wr g) ∧ Aside (Ps key 0 n f g) ∧ Aside (Done key g s n))
      case atStart => exact ⟨20, h, rfl, Nat.le_refl _, by omega, by omega, S2, P3, D3⟩
      case round =>
        clear S2 P3 D3
        obtain ⟨s, g, rfl, hs1, hs2, hg2, S1, P1, D1⟩ := hrel
        by_cases hlt : s < n
        · have hz : (s : Int) < (n : Int) := by omega
          go_wp2
          go_loopg [7, 8] n (fun g3 va vb wr2 => ∃ (a : Nat) (g : Nat → Pr), va = .int .i64 a ∧ vb = .int .i64 (a + 2 * s : Nat) ∧ a ≤ n ∧ n - a ≤ g3 ∧ Aside (Rw blk n Ok w0 wr2 g) ∧ Aside (Ps key 0 n f g) ∧ Aside (2 * s ∣ a ∧ Done key g (2 * s) a ∧ Blk key g s a n))
          case atStart => exact ⟨0, g, rfl, by first | rfl | go_num | (congr 1; omega), by omega, by omega, S1, P1, ⟨Nat.dvd_zero _, Done.nil key g _, D1.out.blk⟩⟩
          case round =>
            clear S1 P1 D1 g
            obtain ⟨a, g, rfl, rfl, ha, hg3, S1, P1, D1⟩ := hrel
            have za : ((a + 2 * s : Nat) : Int) = (a : Int) + 2 * (s : Int) := by omega
            have hsa : Aside (s ∣ a) := Nat.dvd_trans (Nat.dvd_mul_left s 2) D1.out.1
            by_cases hle : a + 2 * s ≤ n
            · have hz2 : (a : Int) + 2 * (s : Int) ≤ (n : Int) := by omega
              have HX : Hid (∀ w', Rw blk n Ok w0 w' g → Calls Try.prog 29 #[.slice (some ⟨blk, 0, none⟩) n cap, .int .i64 a, .int .i64 ((a : Int) + (s : Int)), .int .i64 ((a : Int) + 2 * (s : Int)), .func (.func 24) #[] #[.pointer (some ⟨bx, 0, none⟩)]] w' fun e w2 => e = .returned (.tuple #[]) ∧ ∃ h, Rw blk n Ok w0 w2 h ∧ Ps key a (a + 2 * s) g h ∧ Srt key h a (a + 2 * s)) := fun w' S' => by
                have c1 := D1.out.2.2 a hsa.out (Nat.le_refl _) (by omega)
                have c2 := D1.out.2.2 (a + s) (Nat.dvd_add hsa.out (Nat.dvd_refl s)) (by omega) (by omega)
                have h := HM.out a (a + s) (a + 2 * s) g w' S' (by omega) (by omega) hle (c1.sub (Nat.le_refl _) (by omega)) (c2.sub (Nat.le_refl _) (by omega))
                rw [show ((a + s : Nat) : Int) = (a : Int) + (s : Int) by omega, za] at h
                exact h
              go_wp2_with (first | (go_at_call 29; refine Calls.mono (HX.out _ S1.out) ?_; rintro e' w1 ⟨rfl, h, hS, hP, hO⟩; have S2 : Aside (Rw blk n Ok w0 w1 h) := hS; have P2 : Aside (Ps key a (a + 2 * s) g h) := hP; have O2 : Aside (Srt key h a (a + 2 * s)) := hO; clear hS hP hO S1 HX))
              go_roundg (n - (a + 2 * s))
              case measure => omega
              case rel =>
                have D2 := D1.out.2.1.step D1.out.1 P2.out.pm (by omega) (Nat.le_refl _) O2.out
                exact ⟨a + 2 * s, h, by first | rfl | go_num | (congr 1; omega), by first | rfl | go_num | (congr 1; omega), hle, Nat.le_refl _, S2, P1.out.trans (P2.out.mono (by omega) hle), ⟨Nat.dvd_add D1.out.1 (Nat.dvd_refl _), D2, D1.out.2.2.after P2.out.pm (by omega)⟩⟩
            · have hz2 : ¬ (a : Int) + 2 * (s : Int) ≤ (n : Int) := by omega
              by_cases hm : a + s < n
              · have hz3 : (a : Int) + (s : Int) < (n : Int) := by omega
                have HX : Hid (∀ w', Rw blk n Ok w0 w' g → Calls Try.prog 29 #[.slice (some ⟨blk, 0, none⟩) n cap, .int .i64 a, .int .i64 ((a : Int) + (s : Int)), .int .i64 n, .func (.func 24) #[] #[.pointer (some ⟨bx, 0, none⟩)]] w' fun e w2 => e = .returned (.tuple #[]) ∧ ∃ h, Rw blk n Ok w0 w2 h ∧ Ps key a n g h ∧ Srt key h a n) := fun w' S' => by
                  have c1 := D1.out.2.2 a hsa.out (Nat.le_refl _) (by omega)
                  have c2 := D1.out.2.2 (a + s) (Nat.dvd_add hsa.out (Nat.dvd_refl s)) (by omega) (by omega)
                  have h := HM.out a (a + s) n g w' S' (by omega) hm (Nat.le_refl _) (c1.sub (Nat.le_refl _) (by omega)) (c2.sub (Nat.le_refl _) (by omega))
                  rw [show ((a + s : Nat) : Int) = (a : Int) + (s : Int) by omega] at h
                  exact h
                go_wp2_with (first | (go_at_call 29; refine Calls.mono (HX.out _ S1.out) ?_; rintro e' w1 ⟨rfl, h, hS, hP, hO⟩; have S2 : Aside (Rw blk n Ok w0 w1 h) := hS; have P2 : Aside (Ps key a n g h) := hP; have O2 : Aside (Srt key h a n) := hO; clear hS hP hO S1 HX))
                go_roundg (2 * n + 40 - 2 * s)
                case measure => omega
                case rel => exact ⟨2 * s, h, by first | rfl | go_num | (congr 1; omega), by omega, by omega, Nat.le_refl _, S2, P1.out.trans (P2.out.mono (by omega) (Nat.le_refl _)), D1.out.2.1.step D1.out.1 P2.out.pm ha (by omega) O2.out⟩
              · have hz3 : ¬ (a : Int) + (s : Int) < (n : Int) := by omega
                have D2 : Aside (Done key g (2 * s) n) := by
                  refine D1.out.2.1.step D1.out.1 (Pm.refl _ _ _) ha (by omega) ?_
                  by_cases e : a = n
                  · exact Srt.few key g (by omega)
                  · exact (D1.out.2.2 a hsa.out (Nat.le_refl _) (by omega)).sub (Nat.le_refl _) (by omega)
                clear D1
                go_wp2
                go_roundg (2 * n + 40 - 2 * s)
                case measure => omega
                case rel => exact ⟨2 * s, g, by first | rfl | go_num | (congr 1; omega), by omega, by omega, Nat.le_refl _, S1, P1, D2⟩
        · have hz : ¬ (s : Int) < (n : Int) := by omega
          go_wp2
          go_end0
          exact ⟨rfl, g, S1.out, P1.out, D1.out.all (by omega)⟩

theorem sort_any (bx blk n cap : Nat) (Ok : Pr → Prop) (key : Pr → Int) (f : Nat → Pr) (w0 w : World) (hC : Cmp bx blk Ok key w0) (S : Rw blk n Ok w0 w f) (hn : n < 1099511627776) :
    Calls Try.prog 23 #[.slice (some ⟨blk, 0, none⟩) n cap, .func (.func 24) #[] #[.pointer (some ⟨bx, 0, none⟩)]] w fun e w' => e = .returned (.tuple #[]) ∧ ∃ g, Rw blk n Ok w0 w' g ∧ Ps key 0 n f g ∧ Srt key g 0 n := by
  have HX : Hid _ := stable_any bx blk n cap Ok key f w0 w hC S hn
  clear hC S
  go_enter Try.func23, Try.ntmps23
  go_wp2_with (first | (go_at_call 26; refine Calls.mono HX.out ?_; rintro e' w1 ⟨rfl, h, hS, hP, hO⟩; have S2 : Aside (Rw blk n Ok w0 w1 h) := hS; have P2 : Aside (Ps key 0 n f h) := hP; have O2 : Aside (Srt key h 0 n) := hO; clear hS hP hO HX))
  go_end0
  exact ⟨rfl, h, S2.out, P2.out, O2.out⟩
end Go.Proofs.Ytnfnjhaaaenldaa.Sp
