/- Two lists in order become one, in memory: cut across the middle, turned, and so on with each half. Conditions: the row lies at a block's beginning; two things are compared by their keys. -/
import Derived.Test.YtddcndlogoajkaaGreatDoorQSbi
import Derived.Deep.DeepCutAuto
namespace Go.Proofs.YtddcndlogoajkaaGreatDoor.L8.Si
open Go.ChangeShapes Go.WideShapes Go.ChangeAt Go.RowKit
open _root_.Go.Proofs.YtddcndlogoajkaaGreatDoor.L8.So _root_.Go.Proofs.YtddcndlogoajkaaGreatDoor.L8.Ss
set_option maxRecDepth 20000

theorem rot_id (f : Nat → Int) {s m e : Nat} (h1 : s ≤ m) (h2 : m ≤ e) (h : s = m ∨ e = m) : rot f s m e = f := funext fun k => by
  unfold rot
  by_cases c1 : s ≤ k ∧ k < s + (e - m)
  · rw [if_pos c1]; congr 1; omega
  · rw [if_neg c1]
    by_cases c2 : s + (e - m) ≤ k ∧ k < e
    · rw [if_pos c2]; congr 1; omega
    · rw [if_neg c2]
/-- What a merge is: of two lists in order one. -/
def Mrg (bx blk n cap d : Nat) (Ok : Int → Prop) (key : Int → Int) (w0 : World) : Prop :=
  ∀ (a m b : Nat) (f : Nat → Int) (w : World), b - a < d → Rw blk n Ok w0 w f → a < m → m < b → b ≤ n → Srt key f a m → Srt key f m b →
    Calls Tryz.prog 134 #[.slice (some ⟨blk, 0, none⟩) n cap, .int .i64 a, .int .i64 m, .int .i64 b, .func (.func 119) #[] #[.pointer (some ⟨bx, 0, none⟩)]] w fun e w' => e = .returned (.tuple #[]) ∧ ∃ g, Rw blk n Ok w0 w' g ∧ Pm a b f g ∧ Srt key g a b
set_option maxHeartbeats 16000000 in
theorem symC_any (bx blk n cap a m b : Nat) (Ok : Int → Prop) (key : Int → Int) (f : Nat → Int) (w0 w : World) (hC : Cmp bx blk Ok key w0) (ih : Mrg bx blk n cap (b - a) Ok key w0) (S : Rw blk n Ok w0 w f) (h1 : a + 1 < m) (h2 : m + 1 < b) (h3 : b ≤ n) (hn : n < 1099511627776) (hs1 : Srt key f a m) (hs2 : Srt key f m b) :
    Calls Tryz.prog 134 #[.slice (some ⟨blk, 0, none⟩) n cap, .int .i64 a, .int .i64 m, .int .i64 b, .func (.func 119) #[] #[.pointer (some ⟨bx, 0, none⟩)]] w fun e w' => e = .returned (.tuple #[]) ∧ ∃ g, Rw blk n Ok w0 w' g ∧ Pm a b f g ∧ Srt key g a b := by
  have S0 : Aside (Rw blk n Ok w0 w f) := S
  have HC : Aside (Cmp bx blk Ok key w0) := hC
  have HM : Aside (Mrg bx blk n cap (b - a) Ok key w0) := ih
  have HR : Hid (∀ (x y z : Nat) (g : Nat → Int) (w' : World), Rw blk n Ok w0 w' g → x < y → y < z → z ≤ n → Calls Tryz.prog 136 #[.slice (some ⟨blk, 0, none⟩) n cap, .int .i64 x, .int .i64 y, .int .i64 z, .func (.func 119) #[] #[.pointer (some ⟨bx, 0, none⟩)]] w' fun e w2 => e = .returned (.tuple #[]) ∧ Rw blk n Ok w0 w2 (rot g x y z)) :=
    fun x y z g w' S h1 h2 h3 => rotate_any blk n cap x y z _ Ok g w0 w' S h1 h2 h3 hn
  have HS : Aside (Srt key f a m ∧ Srt key f m b) := ⟨hs1, hs2⟩
  clear S hC ih hs1 hs2
  have e0 : ((m : Int) - (a : Int) == 1) = false := by rw [beq_eq_false_iff_ne]; omega
  have e1 : ((b : Int) - (m : Int) == 1) = false := by rw [beq_eq_false_iff_ne]; omega
  obtain ⟨mid, hmid⟩ : ∃ c, c = (a + b) / 2 := ⟨_, rfl⟩
  have zmid : ((a : Int) + (b : Int)) / 2 = (mid : Int) := by omega
  obtain ⟨nn, hnn⟩ : ∃ c, c = mid + m := ⟨_, rfl⟩
  have znn : (mid : Int) + (m : Int) = (nn : Int) := by omega
  obtain ⟨p, hp⟩ : ∃ c, c = nn - 1 := ⟨_, rfl⟩
  have zp : (nn : Int) - 1 = (p : Int) := by omega
  have A : Aside (mid = (a + b) / 2 ∧ nn = mid + m ∧ p = nn - 1) := ⟨hmid, hnn, hp⟩
  have b1 : mid < n := by omega
  have b2 : nn < 2 * n := by omega
  have b3 : p < 2 * n := by omega
  by_cases hr : mid < m
  · skip
    obtain ⟨A1, A2, A3⟩ := A.out
    have zr : (mid : Int) < (m : Int) := by omega
    obtain ⟨s0, hs0⟩ : ∃ c, c = nn - b := ⟨_, rfl⟩
    have zs : (nn : Int) - (b : Int) = (s0 : Int) := by omega
    have B : Aside (s0 = nn - b) := hs0
    have hs1 : s0 ≤ mid := by omega
    clear A1 A2 A3 hs0 hmid hnn hp
    go_enter Tryz.func134, Tryz.ntmps134
    go_wp2
    go_loopg [20, 21] (2 * n) (fun g1 vi vj wr => ∃ (s r : Nat), vi = .int .i64 s ∧ vj = .int .i64 r ∧ s0 ≤ s ∧ s ≤ r ∧ r ≤ mid ∧ r - s ≤ g1 ∧ Aside (Rw blk n Ok w0 wr f) ∧ Aside (s = s0 ∨ key (f (s - 1)) ≤ key (f (nn - s))) ∧ Aside (r = mid ∨ key (f (p - r)) < key (f r)))
    case atStart => exact ⟨s0, mid, rfl, rfl, Nat.le_refl _, by omega, Nat.le_refl _, by omega, S0, Or.inl rfl, Or.inl rfl⟩
    case round =>
      clear S0 zmid znn zp zs
      obtain ⟨s, r, rfl, rfl, hi, hij, hj, hg1, S1, L1, H1⟩ := hrel
      by_cases hlt : s < r
      · have hltz : (s : Int) < (r : Int) := by omega
        obtain ⟨A1, A2, A3⟩ := A.out
        have hs0 := B.out
        obtain ⟨c, hc⟩ : ∃ c, c = (s + r) / 2 := ⟨_, rfl⟩
        have hw : IntKind.i64.wrap ((s : Int) + (r : Int)) = (s : Int) + (r : Int) := by rw [IntKind.wrap_i64]; omega
        have hcz : ((s : Int) + (r : Int)) / 2 = (c : Int) := by omega
        have hc1 : s ≤ c := by omega
        have hc2 : c < r := by omega
        clear hc
        obtain ⟨d, hd0⟩ : ∃ d, d = p - c := ⟨_, rfl⟩
        have hdz : (p : Int) - (c : Int) = (d : Int) := by omega
        have hdn : d < n := by omega
        have pa : (0 : Int) ≤ (d : Int) := by omega
        have ba : (d : Int) < (n : Int) := by omega
        have pb : (0 : Int) ≤ (c : Int) := by omega
        have bb : (c : Int) < (n : Int) := by omega
        obtain ⟨x, hx⟩ : ∃ x, x = f d := ⟨_, rfl⟩
        obtain ⟨y, hy⟩ : ∃ y, y = f c := ⟨_, rfl⟩
        have ca := S1.out.c d (by omega)
        have cb := S1.out.c c (by omega)
        rw [← hx] at ca
        rw [← hy] at cb
        have hcm : Hid _ := Cmp.at HC.out S1.out (x := x) (y := y) (by rw [hx]; exact S1.out.ok d (by omega)) (by rw [hy]; exact S1.out.ok c (by omega))
        obtain ⟨cf, hcf⟩ : ∃ q, q = c3 (key x) (key y) := ⟨_, rfl⟩
        rw [← hcf] at hcm
        by_cases hlv : key x < key y
        · have hd : decide (cf < 0) = true := decide_eq_true (by rw [hcf]; exact c3_lt.2 hlv)
          have hv : cf < 0 := of_decide_eq_true hd
          have A' : Aside (c = mid ∨ key (f (p - c)) < key (f c)) := Or.inr (by rw [← hd0, ← hx, ← hy]; exact hlv)
          clear hx hy hcf hlv H1 A1 A2 A3 hd0 hs0
          go_wp2_with fail
          go_quiet (first | (go_at_call 119; refine Calls.quiet_of (hcm.out _)))
          have S2 : Aside (Rw blk n Ok w0 (wr.drewN nq) f) := S1.out.drewN nq
          clear ca cb S1 hcm
          generalize wr.drewN nq = w2 at S2 ⊢
          clear nq
          go_wp2
          go_roundg (c - s)
          case measure => omega
          case rel => exact ⟨s, c, rfl, rfl, hi, by omega, by omega, Nat.le_refl _, S2, L1, A'⟩
        · have hd : decide (cf < 0) = false := decide_eq_false (by rw [hcf]; exact fun hh => hlv (c3_lt.1 hh))
          have hv : ¬ cf < 0 := of_decide_eq_false hd
          have A' : Aside (c + 1 = s0 ∨ key (f (c + 1 - 1)) ≤ key (f (nn - (c + 1)))) := Or.inr (by
            rw [show nn - (c + 1) = d by omega, Nat.add_sub_cancel, ← hx, ← hy]; omega)
          clear hx hy hcf hlv L1 A1 A2 A3 hd0 hs0
          go_wp2_with fail
          go_quiet (first | (go_at_call 119; refine Calls.quiet_of (hcm.out _)))
          have S2 : Aside (Rw blk n Ok w0 (wr.drewN nq) f) := S1.out.drewN nq
          clear ca cb S1 hcm
          generalize wr.drewN nq = w2 at S2 ⊢
          clear nq
          go_wp2
          go_roundg (r - (c + 1))
          case measure => omega
          case rel => exact ⟨c + 1, r, by go_num, rfl, by omega, by omega, hj, Nat.le_refl _, S2, A', H1⟩
      · have hltz : ¬ (s : Int) < (r : Int) := by omega
        obtain rfl : s = r := by omega
        obtain ⟨A1, A2, A3⟩ := A.out
        have hs0 := B.out
        obtain ⟨e, he⟩ : ∃ e, e = nn - s := ⟨_, rfl⟩
        have hez : (nn : Int) - (s : Int) = (e : Int) := by omega
        have c1 : a ≤ s := by omega
        have c2 : s ≤ m := by omega
        have c3' : m ≤ e := by omega
        have c4 : e ≤ b := by omega
        have c5 : s ≤ mid := by omega
        have c6 : mid ≤ e := by omega
        have c7 : a < mid := by omega
        have c8 : mid < b := by omega
        have X : Aside _ := cross (mid := mid) (s := s) (e := e) HS.out.1 HS.out.2 c1 c2 c3' c4 (by omega) (by
          rcases L1.out with g | g
          · first | (left; omega) | (right; left; omega)
          · right; right; rw [he]; exact g) (by
          rcases H1.out with g | g
          · first | (left; omega) | (right; left; omega)
          · right; right; rw [show e - 1 = p - s by omega]; exact g)
        have PR : Aside (Pm a b f (rot f s m e)) := (Pm.rot f c2 c3').mono c1 c4
        have c9 : s + e = mid + m := by omega
        clear L1 H1 A1 A2 A3 hs0 he HC HS B A
        clear e0 e1 zr
        obtain ⟨g, hg0⟩ : ∃ g, g = rot f s m e := ⟨_, rfl⟩
        rw [← hg0] at PR X
        by_cases t1 : s < m ∧ m < e
        · by_cases t2 : a < s
          · by_cases t3 : e < b
            · skip
              have hg : Aside (g = rot f s m e) := hg0
              clear hg0
              have HX : Hid (∀ w', Rw blk n Ok w0 w' f → Calls Tryz.prog 136 #[.slice (some ⟨blk, 0, none⟩) n cap, .int .i64 s, .int .i64 m, .int .i64 e, .func (.func 119) #[] #[.pointer (some ⟨bx, 0, none⟩)]] w' fun e w2 => e = .returned (.tuple #[]) ∧ Rw blk n Ok w0 w2 g) := fun w' S' => by rw [hg.out]; exact HR.out s m e f w' S' (by omega) (by omega) (by omega)
              clear HR
              have z1 : (s : Int) < (m : Int) := by omega
              have z2 : (m : Int) < (e : Int) := by omega
              have HL : Hid (∀ w', Rw blk n Ok w0 w' g → Calls Tryz.prog 134 #[.slice (some ⟨blk, 0, none⟩) n cap, .int .i64 a, .int .i64 s, .int .i64 mid, .func (.func 119) #[] #[.pointer (some ⟨bx, 0, none⟩)]] w' fun e w2 => e = .returned (.tuple #[]) ∧ ∃ h', Rw blk n Ok w0 w2 h' ∧ Pm a mid g h' ∧ Srt key h' a mid) := fun w' S' => (HM.out a s mid g) w' (by omega) S' (by omega) (by omega) (by omega) X.out.1 X.out.2.1
              have z3 : (a : Int) < (s : Int) := by omega
              have z4 : (s : Int) < (mid : Int) := by omega
              have HT : Hid (∀ (h : Nat → Int) w', Rw blk n Ok w0 w' h → Pm a mid g h → Calls Tryz.prog 134 #[.slice (some ⟨blk, 0, none⟩) n cap, .int .i64 mid, .int .i64 e, .int .i64 b, .func (.func 119) #[] #[.pointer (some ⟨bx, 0, none⟩)]] w' fun e w2 => e = .returned (.tuple #[]) ∧ ∃ h', Rw blk n Ok w0 w2 h' ∧ Pm mid b h h' ∧ Srt key h' mid b) := fun h w' S' P' => (HM.out mid e b h) w' (by omega) S' (by omega) (by omega) (by omega) (X.out.2.2.1.out P' (Or.inr (Nat.le_refl _))) (X.out.2.2.2.1.out P' (Or.inr c6))
              have z5 : (mid : Int) < (e : Int) := by omega
              have z6 : (e : Int) < (b : Int) := by omega
              clear HM
              go_wp2_with (first
                | (go_at_call 136; refine Calls.mono (HX.out _ S1.out) ?_; rintro e' w1 ⟨rfl, hS⟩; have SR : Aside (Rw blk n Ok w0 w1 g) := hS; clear hS S1 HX)
                | (go_at_call 134; refine Calls.mono (HL.out _ SR.out) ?_; rintro e' w1 ⟨rfl, g2, hS, hP, hO⟩; have S2 : Aside (Rw blk n Ok w0 w1 g2) := hS; have P2 : Aside (Pm a mid g g2) := hP; have O2 : Aside (Srt key g2 a mid) := hO; clear hS hP hO SR HL)
                | (go_at_call 134; refine Calls.mono (HT.out g2 _ S2.out P2.out) ?_; rintro e' w1 ⟨rfl, g3, hS, hP, hO⟩; have S3 : Aside (Rw blk n Ok w0 w1 g3) := hS; have P3 : Aside (Pm mid b g2 g3) := hP; have O3 : Aside (Srt key g3 mid b) := hO; clear hS hP hO S2 HT))
              go_end0
              have X3 := X.out.2.2.1.out P2.out (Or.inr (Nat.le_refl _))
              have X4 := X.out.2.2.2.1.out P2.out (Or.inr c6)
              have X5 := apart P2.out X.out.2.2.2.2
              have Q2 : Pm a b f g2 := PR.out.trans (P2.out.mono (Nat.le_refl _) (by omega))
              exact ⟨rfl, g3, S3.out, Q2.trans (P3.out.mono (by omega) (Nat.le_refl _)), (O2.out.out P3.out (Or.inl (Nat.le_refl _))).join O3.out (apart' P3.out X5)⟩
            · skip
              have hg : Aside (g = rot f s m e) := hg0
              clear hg0
              have HX : Hid (∀ w', Rw blk n Ok w0 w' f → Calls Tryz.prog 136 #[.slice (some ⟨blk, 0, none⟩) n cap, .int .i64 s, .int .i64 m, .int .i64 e, .func (.func 119) #[] #[.pointer (some ⟨bx, 0, none⟩)]] w' fun e w2 => e = .returned (.tuple #[]) ∧ Rw blk n Ok w0 w2 g) := fun w' S' => by rw [hg.out]; exact HR.out s m e f w' S' (by omega) (by omega) (by omega)
              clear HR
              have z1 : (s : Int) < (m : Int) := by omega
              have z2 : (m : Int) < (e : Int) := by omega
              have HL : Hid (∀ w', Rw blk n Ok w0 w' g → Calls Tryz.prog 134 #[.slice (some ⟨blk, 0, none⟩) n cap, .int .i64 a, .int .i64 s, .int .i64 mid, .func (.func 119) #[] #[.pointer (some ⟨bx, 0, none⟩)]] w' fun e w2 => e = .returned (.tuple #[]) ∧ ∃ h', Rw blk n Ok w0 w2 h' ∧ Pm a mid g h' ∧ Srt key h' a mid) := fun w' S' => (HM.out a s mid g) w' (by omega) S' (by omega) (by omega) (by omega) X.out.1 X.out.2.1
              have z3 : (a : Int) < (s : Int) := by omega
              have z4 : (s : Int) < (mid : Int) := by omega
              have z5 : (mid : Int) < (e : Int) := by omega
              have z6 : ¬ (e : Int) < (b : Int) := by omega
              clear HM
              go_wp2_with (first
                | (go_at_call 136; refine Calls.mono (HX.out _ S1.out) ?_; rintro e' w1 ⟨rfl, hS⟩; have SR : Aside (Rw blk n Ok w0 w1 g) := hS; clear hS S1 HX)
                | (go_at_call 134; refine Calls.mono (HL.out _ SR.out) ?_; rintro e' w1 ⟨rfl, g2, hS, hP, hO⟩; have S2 : Aside (Rw blk n Ok w0 w1 g2) := hS; have P2 : Aside (Pm a mid g g2) := hP; have O2 : Aside (Srt key g2 a mid) := hO; clear hS hP hO SR HL))
              go_end0
              have X3 := X.out.2.2.1.out P2.out (Or.inr (Nat.le_refl _))
              have X4 := X.out.2.2.2.1.out P2.out (Or.inr c6)
              have X5 := apart P2.out X.out.2.2.2.2
              have Q2 : Pm a b f g2 := PR.out.trans (P2.out.mono (Nat.le_refl _) (by omega))
              exact ⟨rfl, g2, S2.out, Q2, O2.out.join (X3.sub (Nat.le_refl _) (by omega)) X5⟩
          · by_cases t3 : e < b
            · skip
              have hg : Aside (g = rot f s m e) := hg0
              clear hg0
              have HX : Hid (∀ w', Rw blk n Ok w0 w' f → Calls Tryz.prog 136 #[.slice (some ⟨blk, 0, none⟩) n cap, .int .i64 s, .int .i64 m, .int .i64 e, .func (.func 119) #[] #[.pointer (some ⟨bx, 0, none⟩)]] w' fun e w2 => e = .returned (.tuple #[]) ∧ Rw blk n Ok w0 w2 g) := fun w' S' => by rw [hg.out]; exact HR.out s m e f w' S' (by omega) (by omega) (by omega)
              clear HR
              have z1 : (s : Int) < (m : Int) := by omega
              have z2 : (m : Int) < (e : Int) := by omega
              have z3 : ¬ (a : Int) < (s : Int) := by omega
              have HT : Hid (∀ (h : Nat → Int) w', Rw blk n Ok w0 w' h → Pm a mid g h → Calls Tryz.prog 134 #[.slice (some ⟨blk, 0, none⟩) n cap, .int .i64 mid, .int .i64 e, .int .i64 b, .func (.func 119) #[] #[.pointer (some ⟨bx, 0, none⟩)]] w' fun e w2 => e = .returned (.tuple #[]) ∧ ∃ h', Rw blk n Ok w0 w2 h' ∧ Pm mid b h h' ∧ Srt key h' mid b) := fun h w' S' P' => (HM.out mid e b h) w' (by omega) S' (by omega) (by omega) (by omega) (X.out.2.2.1.out P' (Or.inr (Nat.le_refl _))) (X.out.2.2.2.1.out P' (Or.inr c6))
              have z5 : (mid : Int) < (e : Int) := by omega
              have z6 : (e : Int) < (b : Int) := by omega
              clear HM
              go_wp2_with (first
                | (go_at_call 136; refine Calls.mono (HX.out _ S1.out) ?_; rintro e' w1 ⟨rfl, hS⟩; have SR : Aside (Rw blk n Ok w0 w1 g) := hS; clear hS S1 HX; obtain ⟨g2, hg2⟩ : ∃ g2, g2 = g := ⟨_, rfl⟩; have S2 : Aside (Rw blk n Ok w0 w1 g2) := (by rw [hg2]; exact SR.out); have P2 : Aside (Pm a mid g g2) := (by rw [hg2]; exact Pm.refl _ _ _); have O2 : Aside (Srt key g2 a mid) := (by rw [hg2]; exact X.out.2.1.sub (by omega) (Nat.le_refl _)); clear SR hg2)
                | (go_at_call 134; refine Calls.mono (HT.out g2 _ S2.out P2.out) ?_; rintro e' w1 ⟨rfl, g3, hS, hP, hO⟩; have S3 : Aside (Rw blk n Ok w0 w1 g3) := hS; have P3 : Aside (Pm mid b g2 g3) := hP; have O3 : Aside (Srt key g3 mid b) := hO; clear hS hP hO S2 HT))
              go_end0
              have X3 := X.out.2.2.1.out P2.out (Or.inr (Nat.le_refl _))
              have X4 := X.out.2.2.2.1.out P2.out (Or.inr c6)
              have X5 := apart P2.out X.out.2.2.2.2
              have Q2 : Pm a b f g2 := PR.out.trans (P2.out.mono (Nat.le_refl _) (by omega))
              exact ⟨rfl, g3, S3.out, Q2.trans (P3.out.mono (by omega) (Nat.le_refl _)), (O2.out.out P3.out (Or.inl (Nat.le_refl _))).join O3.out (apart' P3.out X5)⟩
            · skip
              have hg : Aside (g = rot f s m e) := hg0
              clear hg0
              have HX : Hid (∀ w', Rw blk n Ok w0 w' f → Calls Tryz.prog 136 #[.slice (some ⟨blk, 0, none⟩) n cap, .int .i64 s, .int .i64 m, .int .i64 e, .func (.func 119) #[] #[.pointer (some ⟨bx, 0, none⟩)]] w' fun e w2 => e = .returned (.tuple #[]) ∧ Rw blk n Ok w0 w2 g) := fun w' S' => by rw [hg.out]; exact HR.out s m e f w' S' (by omega) (by omega) (by omega)
              clear HR
              have z1 : (s : Int) < (m : Int) := by omega
              have z2 : (m : Int) < (e : Int) := by omega
              have z3 : ¬ (a : Int) < (s : Int) := by omega
              have z5 : (mid : Int) < (e : Int) := by omega
              have z6 : ¬ (e : Int) < (b : Int) := by omega
              clear HM
              go_wp2_with (first
                | (go_at_call 136; refine Calls.mono (HX.out _ S1.out) ?_; rintro e' w1 ⟨rfl, hS⟩; have SR : Aside (Rw blk n Ok w0 w1 g) := hS; clear hS S1 HX; obtain ⟨g2, hg2⟩ : ∃ g2, g2 = g := ⟨_, rfl⟩; have S2 : Aside (Rw blk n Ok w0 w1 g2) := (by rw [hg2]; exact SR.out); have P2 : Aside (Pm a mid g g2) := (by rw [hg2]; exact Pm.refl _ _ _); have O2 : Aside (Srt key g2 a mid) := (by rw [hg2]; exact X.out.2.1.sub (by omega) (Nat.le_refl _)); clear SR hg2))
              go_end0
              have X3 := X.out.2.2.1.out P2.out (Or.inr (Nat.le_refl _))
              have X4 := X.out.2.2.2.1.out P2.out (Or.inr c6)
              have X5 := apart P2.out X.out.2.2.2.2
              have Q2 : Pm a b f g2 := PR.out.trans (P2.out.mono (Nat.le_refl _) (by omega))
              exact ⟨rfl, g2, S2.out, Q2, O2.out.join (X3.sub (Nat.le_refl _) (by omega)) X5⟩
        · skip
          have hg : Aside (g = rot f s m e) := hg0
          clear hg0
          have SR : Aside (Rw blk n Ok w0 wr g) := by rw [hg.out, rot_id f c2 c3' (by omega)]; exact S1.out
          clear S1 HR
          have z1 : (s : Int) < (m : Int) := by omega
          have z2 : ¬ (m : Int) < (e : Int) := by omega
          have z3 : (a : Int) < (s : Int) := by omega
          have z4 : ¬ (s : Int) < (mid : Int) := by omega
          obtain ⟨g2, hg2⟩ : ∃ g2, g2 = g := ⟨_, rfl⟩
          have S2 : Aside (Rw blk n Ok w0 wr g2) := by rw [hg2]; exact SR.out
          have P2 : Aside (Pm a mid g g2) := by rw [hg2]; exact Pm.refl _ _ _
          have O2 : Aside (Srt key g2 a mid) := by rw [hg2]; exact X.out.1.sub (Nat.le_refl _) (by omega)
          clear SR hg2
          have HT : Hid (∀ (h : Nat → Int) w', Rw blk n Ok w0 w' h → Pm a mid g h → Calls Tryz.prog 134 #[.slice (some ⟨blk, 0, none⟩) n cap, .int .i64 mid, .int .i64 e, .int .i64 b, .func (.func 119) #[] #[.pointer (some ⟨bx, 0, none⟩)]] w' fun e w2 => e = .returned (.tuple #[]) ∧ ∃ h', Rw blk n Ok w0 w2 h' ∧ Pm mid b h h' ∧ Srt key h' mid b) := fun h w' S' P' => (HM.out mid e b h) w' (by omega) S' (by omega) (by omega) (by omega) (X.out.2.2.1.out P' (Or.inr (Nat.le_refl _))) (X.out.2.2.2.1.out P' (Or.inr c6))
          have z5 : (mid : Int) < (e : Int) := by omega
          have z6 : (e : Int) < (b : Int) := by omega
          clear HM
          go_wp2_with (first
            | (go_at_call 134; refine Calls.mono (HT.out g2 _ S2.out P2.out) ?_; rintro e' w1 ⟨rfl, g3, hS, hP, hO⟩; have S3 : Aside (Rw blk n Ok w0 w1 g3) := hS; have P3 : Aside (Pm mid b g2 g3) := hP; have O3 : Aside (Srt key g3 mid b) := hO; clear hS hP hO S2 HT))
          go_end0
          have X3 := X.out.2.2.1.out P2.out (Or.inr (Nat.le_refl _))
          have X4 := X.out.2.2.2.1.out P2.out (Or.inr c6)
          have X5 := apart P2.out X.out.2.2.2.2
          have Q2 : Pm a b f g2 := PR.out.trans (P2.out.mono (Nat.le_refl _) (by omega))
          exact ⟨rfl, g3, S3.out, Q2.trans (P3.out.mono (by omega) (Nat.le_refl _)), (O2.out.out P3.out (Or.inl (Nat.le_refl _))).join O3.out (apart' P3.out X5)⟩
  · skip
    obtain ⟨A1, A2, A3⟩ := A.out
    have zr : ¬ (mid : Int) < (m : Int) := by omega
    obtain ⟨s0, hs0⟩ : ∃ c, c = a := ⟨_, rfl⟩
    have zs : (a : Int) = (s0 : Int) := by omega
    have B : Aside (s0 = a) := hs0
    have hs1 : s0 ≤ m := by omega
    clear A1 A2 A3 hs0 hmid hnn hp zs
    go_enter Tryz.func134, Tryz.ntmps134
    go_wp2
    go_loopg [20, 21] (2 * n) (fun g1 vi vj wr => ∃ (s r : Nat), vi = .int .i64 s ∧ vj = .int .i64 r ∧ a ≤ s ∧ s ≤ r ∧ r ≤ m ∧ r - s ≤ g1 ∧ Aside (Rw blk n Ok w0 wr f) ∧ Aside (s = a ∨ key (f (s - 1)) ≤ key (f (nn - s))) ∧ Aside (r = m ∨ key (f (p - r)) < key (f r)))
    case atStart => exact ⟨a, m, rfl, rfl, Nat.le_refl _, by omega, Nat.le_refl _, by omega, S0, Or.inl rfl, Or.inl rfl⟩
    case round =>
      clear S0 zmid znn zp
      obtain ⟨s, r, rfl, rfl, hi, hij, hj, hg1, S1, L1, H1⟩ := hrel
      by_cases hlt : s < r
      · have hltz : (s : Int) < (r : Int) := by omega
        obtain ⟨A1, A2, A3⟩ := A.out
        have hs0 := B.out
        obtain ⟨c, hc⟩ : ∃ c, c = (s + r) / 2 := ⟨_, rfl⟩
        have hw : IntKind.i64.wrap ((s : Int) + (r : Int)) = (s : Int) + (r : Int) := by rw [IntKind.wrap_i64]; omega
        have hcz : ((s : Int) + (r : Int)) / 2 = (c : Int) := by omega
        have hc1 : s ≤ c := by omega
        have hc2 : c < r := by omega
        clear hc
        obtain ⟨d, hd0⟩ : ∃ d, d = p - c := ⟨_, rfl⟩
        have hdz : (p : Int) - (c : Int) = (d : Int) := by omega
        have hdn : d < n := by omega
        have pa : (0 : Int) ≤ (d : Int) := by omega
        have ba : (d : Int) < (n : Int) := by omega
        have pb : (0 : Int) ≤ (c : Int) := by omega
        have bb : (c : Int) < (n : Int) := by omega
        obtain ⟨x, hx⟩ : ∃ x, x = f d := ⟨_, rfl⟩
        obtain ⟨y, hy⟩ : ∃ y, y = f c := ⟨_, rfl⟩
        have ca := S1.out.c d (by omega)
        have cb := S1.out.c c (by omega)
        rw [← hx] at ca
        rw [← hy] at cb
        have hcm : Hid _ := Cmp.at HC.out S1.out (x := x) (y := y) (by rw [hx]; exact S1.out.ok d (by omega)) (by rw [hy]; exact S1.out.ok c (by omega))
        obtain ⟨cf, hcf⟩ : ∃ q, q = c3 (key x) (key y) := ⟨_, rfl⟩
        rw [← hcf] at hcm
        by_cases hlv : key x < key y
        · have hd : decide (cf < 0) = true := decide_eq_true (by rw [hcf]; exact c3_lt.2 hlv)
          have hv : cf < 0 := of_decide_eq_true hd
          have A' : Aside (c = m ∨ key (f (p - c)) < key (f c)) := Or.inr (by rw [← hd0, ← hx, ← hy]; exact hlv)
          clear hx hy hcf hlv H1 A1 A2 A3 hd0 hs0
          go_wp2_with fail
          go_quiet (first | (go_at_call 119; refine Calls.quiet_of (hcm.out _)))
          have S2 : Aside (Rw blk n Ok w0 (wr.drewN nq) f) := S1.out.drewN nq
          clear ca cb S1 hcm
          generalize wr.drewN nq = w2 at S2 ⊢
          clear nq
          go_wp2
          go_roundg (c - s)
          case measure => omega
          case rel => exact ⟨s, c, rfl, rfl, hi, by omega, by omega, Nat.le_refl _, S2, L1, A'⟩
        · have hd : decide (cf < 0) = false := decide_eq_false (by rw [hcf]; exact fun hh => hlv (c3_lt.1 hh))
          have hv : ¬ cf < 0 := of_decide_eq_false hd
          have A' : Aside (c + 1 = a ∨ key (f (c + 1 - 1)) ≤ key (f (nn - (c + 1)))) := Or.inr (by
            rw [show nn - (c + 1) = d by omega, Nat.add_sub_cancel, ← hx, ← hy]; omega)
          clear hx hy hcf hlv L1 A1 A2 A3 hd0 hs0
          go_wp2_with fail
          go_quiet (first | (go_at_call 119; refine Calls.quiet_of (hcm.out _)))
          have S2 : Aside (Rw blk n Ok w0 (wr.drewN nq) f) := S1.out.drewN nq
          clear ca cb S1 hcm
          generalize wr.drewN nq = w2 at S2 ⊢
          clear nq
          go_wp2
          go_roundg (r - (c + 1))
          case measure => omega
          case rel => exact ⟨c + 1, r, by go_num, rfl, by omega, by omega, hj, Nat.le_refl _, S2, A', H1⟩
      · have hltz : ¬ (s : Int) < (r : Int) := by omega
        obtain rfl : s = r := by omega
        obtain ⟨A1, A2, A3⟩ := A.out
        have hs0 := B.out
        obtain ⟨e, he⟩ : ∃ e, e = nn - s := ⟨_, rfl⟩
        have hez : (nn : Int) - (s : Int) = (e : Int) := by omega
        have c1 : a ≤ s := by omega
        have c2 : s ≤ m := by omega
        have c3' : m ≤ e := by omega
        have c4 : e ≤ b := by omega
        have c5 : s ≤ mid := by omega
        have c6 : mid ≤ e := by omega
        have c7 : a < mid := by omega
        have c8 : mid < b := by omega
        have X : Aside _ := cross (mid := mid) (s := s) (e := e) HS.out.1 HS.out.2 c1 c2 c3' c4 (by omega) (by
          rcases L1.out with g | g
          · first | (left; omega) | (right; left; omega)
          · right; right; rw [he]; exact g) (by
          rcases H1.out with g | g
          · first | (left; omega) | (right; left; omega)
          · right; right; rw [show e - 1 = p - s by omega]; exact g)
        have PR : Aside (Pm a b f (rot f s m e)) := (Pm.rot f c2 c3').mono c1 c4
        have c9 : s + e = mid + m := by omega
        clear L1 H1 A1 A2 A3 hs0 he HC HS B A
        clear e0 e1 zr
        obtain ⟨g, hg0⟩ : ∃ g, g = rot f s m e := ⟨_, rfl⟩
        rw [← hg0] at PR X
        by_cases t1 : s < m ∧ m < e
        · by_cases t2 : a < s
          · by_cases t3 : e < b
            · skip
              have hg : Aside (g = rot f s m e) := hg0
              clear hg0
              have HX : Hid (∀ w', Rw blk n Ok w0 w' f → Calls Tryz.prog 136 #[.slice (some ⟨blk, 0, none⟩) n cap, .int .i64 s, .int .i64 m, .int .i64 e, .func (.func 119) #[] #[.pointer (some ⟨bx, 0, none⟩)]] w' fun e w2 => e = .returned (.tuple #[]) ∧ Rw blk n Ok w0 w2 g) := fun w' S' => by rw [hg.out]; exact HR.out s m e f w' S' (by omega) (by omega) (by omega)
              clear HR
              have z1 : (s : Int) < (m : Int) := by omega
              have z2 : (m : Int) < (e : Int) := by omega
              have HL : Hid (∀ w', Rw blk n Ok w0 w' g → Calls Tryz.prog 134 #[.slice (some ⟨blk, 0, none⟩) n cap, .int .i64 a, .int .i64 s, .int .i64 mid, .func (.func 119) #[] #[.pointer (some ⟨bx, 0, none⟩)]] w' fun e w2 => e = .returned (.tuple #[]) ∧ ∃ h', Rw blk n Ok w0 w2 h' ∧ Pm a mid g h' ∧ Srt key h' a mid) := fun w' S' => (HM.out a s mid g) w' (by omega) S' (by omega) (by omega) (by omega) X.out.1 X.out.2.1
              have z3 : (a : Int) < (s : Int) := by omega
              have z4 : (s : Int) < (mid : Int) := by omega
              have HT : Hid (∀ (h : Nat → Int) w', Rw blk n Ok w0 w' h → Pm a mid g h → Calls Tryz.prog 134 #[.slice (some ⟨blk, 0, none⟩) n cap, .int .i64 mid, .int .i64 e, .int .i64 b, .func (.func 119) #[] #[.pointer (some ⟨bx, 0, none⟩)]] w' fun e w2 => e = .returned (.tuple #[]) ∧ ∃ h', Rw blk n Ok w0 w2 h' ∧ Pm mid b h h' ∧ Srt key h' mid b) := fun h w' S' P' => (HM.out mid e b h) w' (by omega) S' (by omega) (by omega) (by omega) (X.out.2.2.1.out P' (Or.inr (Nat.le_refl _))) (X.out.2.2.2.1.out P' (Or.inr c6))
              have z5 : (mid : Int) < (e : Int) := by omega
              have z6 : (e : Int) < (b : Int) := by omega
              clear HM
              go_wp2_with (first
                | (go_at_call 136; refine Calls.mono (HX.out _ S1.out) ?_; rintro e' w1 ⟨rfl, hS⟩; have SR : Aside (Rw blk n Ok w0 w1 g) := hS; clear hS S1 HX)
                | (go_at_call 134; refine Calls.mono (HL.out _ SR.out) ?_; rintro e' w1 ⟨rfl, g2, hS, hP, hO⟩; have S2 : Aside (Rw blk n Ok w0 w1 g2) := hS; have P2 : Aside (Pm a mid g g2) := hP; have O2 : Aside (Srt key g2 a mid) := hO; clear hS hP hO SR HL)
                | (go_at_call 134; refine Calls.mono (HT.out g2 _ S2.out P2.out) ?_; rintro e' w1 ⟨rfl, g3, hS, hP, hO⟩; have S3 : Aside (Rw blk n Ok w0 w1 g3) := hS; have P3 : Aside (Pm mid b g2 g3) := hP; have O3 : Aside (Srt key g3 mid b) := hO; clear hS hP hO S2 HT))
              go_end0
              have X3 := X.out.2.2.1.out P2.out (Or.inr (Nat.le_refl _))
              have X4 := X.out.2.2.2.1.out P2.out (Or.inr c6)
              have X5 := apart P2.out X.out.2.2.2.2
              have Q2 : Pm a b f g2 := PR.out.trans (P2.out.mono (Nat.le_refl _) (by omega))
              exact ⟨rfl, g3, S3.out, Q2.trans (P3.out.mono (by omega) (Nat.le_refl _)), (O2.out.out P3.out (Or.inl (Nat.le_refl _))).join O3.out (apart' P3.out X5)⟩
            · skip
              have hg : Aside (g = rot f s m e) := hg0
              clear hg0
              have HX : Hid (∀ w', Rw blk n Ok w0 w' f → Calls Tryz.prog 136 #[.slice (some ⟨blk, 0, none⟩) n cap, .int .i64 s, .int .i64 m, .int .i64 e, .func (.func 119) #[] #[.pointer (some ⟨bx, 0, none⟩)]] w' fun e w2 => e = .returned (.tuple #[]) ∧ Rw blk n Ok w0 w2 g) := fun w' S' => by rw [hg.out]; exact HR.out s m e f w' S' (by omega) (by omega) (by omega)
              clear HR
              have z1 : (s : Int) < (m : Int) := by omega
              have z2 : (m : Int) < (e : Int) := by omega
              have HL : Hid (∀ w', Rw blk n Ok w0 w' g → Calls Tryz.prog 134 #[.slice (some ⟨blk, 0, none⟩) n cap, .int .i64 a, .int .i64 s, .int .i64 mid, .func (.func 119) #[] #[.pointer (some ⟨bx, 0, none⟩)]] w' fun e w2 => e = .returned (.tuple #[]) ∧ ∃ h', Rw blk n Ok w0 w2 h' ∧ Pm a mid g h' ∧ Srt key h' a mid) := fun w' S' => (HM.out a s mid g) w' (by omega) S' (by omega) (by omega) (by omega) X.out.1 X.out.2.1
              have z3 : (a : Int) < (s : Int) := by omega
              have z4 : (s : Int) < (mid : Int) := by omega
              have z5 : (mid : Int) < (e : Int) := by omega
              have z6 : ¬ (e : Int) < (b : Int) := by omega
              clear HM
              go_wp2_with (first
                | (go_at_call 136; refine Calls.mono (HX.out _ S1.out) ?_; rintro e' w1 ⟨rfl, hS⟩; have SR : Aside (Rw blk n Ok w0 w1 g) := hS; clear hS S1 HX)
                | (go_at_call 134; refine Calls.mono (HL.out _ SR.out) ?_; rintro e' w1 ⟨rfl, g2, hS, hP, hO⟩; have S2 : Aside (Rw blk n Ok w0 w1 g2) := hS; have P2 : Aside (Pm a mid g g2) := hP; have O2 : Aside (Srt key g2 a mid) := hO; clear hS hP hO SR HL))
              go_end0
              have X3 := X.out.2.2.1.out P2.out (Or.inr (Nat.le_refl _))
              have X4 := X.out.2.2.2.1.out P2.out (Or.inr c6)
              have X5 := apart P2.out X.out.2.2.2.2
              have Q2 : Pm a b f g2 := PR.out.trans (P2.out.mono (Nat.le_refl _) (by omega))
              exact ⟨rfl, g2, S2.out, Q2, O2.out.join (X3.sub (Nat.le_refl _) (by omega)) X5⟩
          · by_cases t3 : e < b
            · skip
              have hg : Aside (g = rot f s m e) := hg0
              clear hg0
              have HX : Hid (∀ w', Rw blk n Ok w0 w' f → Calls Tryz.prog 136 #[.slice (some ⟨blk, 0, none⟩) n cap, .int .i64 s, .int .i64 m, .int .i64 e, .func (.func 119) #[] #[.pointer (some ⟨bx, 0, none⟩)]] w' fun e w2 => e = .returned (.tuple #[]) ∧ Rw blk n Ok w0 w2 g) := fun w' S' => by rw [hg.out]; exact HR.out s m e f w' S' (by omega) (by omega) (by omega)
              clear HR
              have z1 : (s : Int) < (m : Int) := by omega
              have z2 : (m : Int) < (e : Int) := by omega
              have z3 : ¬ (a : Int) < (s : Int) := by omega
              have HT : Hid (∀ (h : Nat → Int) w', Rw blk n Ok w0 w' h → Pm a mid g h → Calls Tryz.prog 134 #[.slice (some ⟨blk, 0, none⟩) n cap, .int .i64 mid, .int .i64 e, .int .i64 b, .func (.func 119) #[] #[.pointer (some ⟨bx, 0, none⟩)]] w' fun e w2 => e = .returned (.tuple #[]) ∧ ∃ h', Rw blk n Ok w0 w2 h' ∧ Pm mid b h h' ∧ Srt key h' mid b) := fun h w' S' P' => (HM.out mid e b h) w' (by omega) S' (by omega) (by omega) (by omega) (X.out.2.2.1.out P' (Or.inr (Nat.le_refl _))) (X.out.2.2.2.1.out P' (Or.inr c6))
              have z5 : (mid : Int) < (e : Int) := by omega
              have z6 : (e : Int) < (b : Int) := by omega
              clear HM
              go_wp2_with (first
                | (go_at_call 136; refine Calls.mono (HX.out _ S1.out) ?_; rintro e' w1 ⟨rfl, hS⟩; have SR : Aside (Rw blk n Ok w0 w1 g) := hS; clear hS S1 HX; obtain ⟨g2, hg2⟩ : ∃ g2, g2 = g := ⟨_, rfl⟩; have S2 : Aside (Rw blk n Ok w0 w1 g2) := (by rw [hg2]; exact SR.out); have P2 : Aside (Pm a mid g g2) := (by rw [hg2]; exact Pm.refl _ _ _); have O2 : Aside (Srt key g2 a mid) := (by rw [hg2]; exact X.out.2.1.sub (by omega) (Nat.le_refl _)); clear SR hg2)
                | (go_at_call 134; refine Calls.mono (HT.out g2 _ S2.out P2.out) ?_; rintro e' w1 ⟨rfl, g3, hS, hP, hO⟩; have S3 : Aside (Rw blk n Ok w0 w1 g3) := hS; have P3 : Aside (Pm mid b g2 g3) := hP; have O3 : Aside (Srt key g3 mid b) := hO; clear hS hP hO S2 HT))
              go_end0
              have X3 := X.out.2.2.1.out P2.out (Or.inr (Nat.le_refl _))
              have X4 := X.out.2.2.2.1.out P2.out (Or.inr c6)
              have X5 := apart P2.out X.out.2.2.2.2
              have Q2 : Pm a b f g2 := PR.out.trans (P2.out.mono (Nat.le_refl _) (by omega))
              exact ⟨rfl, g3, S3.out, Q2.trans (P3.out.mono (by omega) (Nat.le_refl _)), (O2.out.out P3.out (Or.inl (Nat.le_refl _))).join O3.out (apart' P3.out X5)⟩
            · skip
              have hg : Aside (g = rot f s m e) := hg0
              clear hg0
              have HX : Hid (∀ w', Rw blk n Ok w0 w' f → Calls Tryz.prog 136 #[.slice (some ⟨blk, 0, none⟩) n cap, .int .i64 s, .int .i64 m, .int .i64 e, .func (.func 119) #[] #[.pointer (some ⟨bx, 0, none⟩)]] w' fun e w2 => e = .returned (.tuple #[]) ∧ Rw blk n Ok w0 w2 g) := fun w' S' => by rw [hg.out]; exact HR.out s m e f w' S' (by omega) (by omega) (by omega)
              clear HR
              have z1 : (s : Int) < (m : Int) := by omega
              have z2 : (m : Int) < (e : Int) := by omega
              have z3 : ¬ (a : Int) < (s : Int) := by omega
              have z5 : (mid : Int) < (e : Int) := by omega
              have z6 : ¬ (e : Int) < (b : Int) := by omega
              clear HM
              go_wp2_with (first
                | (go_at_call 136; refine Calls.mono (HX.out _ S1.out) ?_; rintro e' w1 ⟨rfl, hS⟩; have SR : Aside (Rw blk n Ok w0 w1 g) := hS; clear hS S1 HX; obtain ⟨g2, hg2⟩ : ∃ g2, g2 = g := ⟨_, rfl⟩; have S2 : Aside (Rw blk n Ok w0 w1 g2) := (by rw [hg2]; exact SR.out); have P2 : Aside (Pm a mid g g2) := (by rw [hg2]; exact Pm.refl _ _ _); have O2 : Aside (Srt key g2 a mid) := (by rw [hg2]; exact X.out.2.1.sub (by omega) (Nat.le_refl _)); clear SR hg2))
              go_end0
              have X3 := X.out.2.2.1.out P2.out (Or.inr (Nat.le_refl _))
              have X4 := X.out.2.2.2.1.out P2.out (Or.inr c6)
              have X5 := apart P2.out X.out.2.2.2.2
              have Q2 : Pm a b f g2 := PR.out.trans (P2.out.mono (Nat.le_refl _) (by omega))
              exact ⟨rfl, g2, S2.out, Q2, O2.out.join (X3.sub (Nat.le_refl _) (by omega)) X5⟩
        · by_cases t2 : m < mid
          · skip
            have hg : Aside (g = rot f s m e) := hg0
            clear hg0
            have SR : Aside (Rw blk n Ok w0 wr g) := by rw [hg.out, rot_id f c2 c3' (by omega)]; exact S1.out
            clear S1 HR
            have z1 : ¬ (s : Int) < (m : Int) := by omega
            have HL : Hid (∀ w', Rw blk n Ok w0 w' g → Calls Tryz.prog 134 #[.slice (some ⟨blk, 0, none⟩) n cap, .int .i64 a, .int .i64 s, .int .i64 mid, .func (.func 119) #[] #[.pointer (some ⟨bx, 0, none⟩)]] w' fun e w2 => e = .returned (.tuple #[]) ∧ ∃ h', Rw blk n Ok w0 w2 h' ∧ Pm a mid g h' ∧ Srt key h' a mid) := fun w' S' => (HM.out a s mid g) w' (by omega) S' (by omega) (by omega) (by omega) X.out.1 X.out.2.1
            have z3 : (a : Int) < (s : Int) := by omega
            have z4 : (s : Int) < (mid : Int) := by omega
            have z5 : ¬ (mid : Int) < (e : Int) := by omega
            clear HM
            go_wp2_with (first
              | (go_at_call 134; refine Calls.mono (HL.out _ SR.out) ?_; rintro e' w1 ⟨rfl, g2, hS, hP, hO⟩; have S2 : Aside (Rw blk n Ok w0 w1 g2) := hS; have P2 : Aside (Pm a mid g g2) := hP; have O2 : Aside (Srt key g2 a mid) := hO; clear hS hP hO SR HL))
            go_end0
            have X3 := X.out.2.2.1.out P2.out (Or.inr (Nat.le_refl _))
            have X4 := X.out.2.2.2.1.out P2.out (Or.inr c6)
            have X5 := apart P2.out X.out.2.2.2.2
            have Q2 : Pm a b f g2 := PR.out.trans (P2.out.mono (Nat.le_refl _) (by omega))
            exact ⟨rfl, g2, S2.out, Q2, O2.out.join (X4.sub (by omega) (Nat.le_refl _)) X5⟩
          · skip
            have hg : Aside (g = rot f s m e) := hg0
            clear hg0
            have SR : Aside (Rw blk n Ok w0 wr g) := by rw [hg.out, rot_id f c2 c3' (by omega)]; exact S1.out
            clear S1 HR
            have z1 : ¬ (s : Int) < (m : Int) := by omega
            have z3 : (a : Int) < (s : Int) := by omega
            have z4 : ¬ (s : Int) < (mid : Int) := by omega
            obtain ⟨g2, hg2⟩ : ∃ g2, g2 = g := ⟨_, rfl⟩
            have S2 : Aside (Rw blk n Ok w0 wr g2) := by rw [hg2]; exact SR.out
            have P2 : Aside (Pm a mid g g2) := by rw [hg2]; exact Pm.refl _ _ _
            have O2 : Aside (Srt key g2 a mid) := by rw [hg2]; exact X.out.1.sub (Nat.le_refl _) (by omega)
            clear SR hg2
            have z5 : ¬ (mid : Int) < (e : Int) := by omega
            clear HM
            go_wp2_with fail
            go_end0
            have X3 := X.out.2.2.1.out P2.out (Or.inr (Nat.le_refl _))
            have X4 := X.out.2.2.2.1.out P2.out (Or.inr c6)
            have X5 := apart P2.out X.out.2.2.2.2
            have Q2 : Pm a b f g2 := PR.out.trans (P2.out.mono (Nat.le_refl _) (by omega))
            exact ⟨rfl, g2, S2.out, Q2, O2.out.join (X4.sub (by omega) (Nat.le_refl _)) X5⟩

theorem symMerge_any (bx blk n cap : Nat) (Ok : Int → Prop) (key : Int → Int) (w0 : World) (hC : Cmp bx blk Ok key w0) (hn : n < 1099511627776) : ∀ d, Mrg bx blk n cap d Ok key w0 := by
  intro d
  induction d with
  | zero => intro a m b f w h; omega
  | succ d ih =>
    intro a m b f w hd S h1 h2 h3 hs1 hs2
    by_cases ha : m = a + 1
    · exact symA_any bx blk n cap a m b Ok key f w0 w hC S ha h2 h3 hn hs2
    · by_cases hb : b = m + 1
      · exact symB_any bx blk n cap a m b Ok key f w0 w hC S hb (by omega) h3 hn hs1
      · exact symC_any bx blk n cap a m b Ok key f w0 w hC (fun a' m' b' f' w' h' => ih a' m' b' f' w' (by omega)) S (by omega) (by omega) h3 hn hs1 hs2
end Go.Proofs.YtddcndlogoajkaaGreatDoor.L8.Si
