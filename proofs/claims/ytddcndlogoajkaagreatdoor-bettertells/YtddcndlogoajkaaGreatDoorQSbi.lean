/- A rotation, and the insertion of one thing after the other, in memory. Conditions: the row lies at a block's beginning. -/
import Derived.Test.YtddcndlogoajkaaGreatDoorQSm
namespace Go.Proofs.YtddcndlogoajkaaGreatDoor.L8.Si
open Go.ChangeShapes Go.WideShapes Go.ChangeAt Go.RowKit
open _root_.Go.Proofs.YtddcndlogoajkaaGreatDoor.L8.So _root_.Go.Proofs.YtddcndlogoajkaaGreatDoor.L8.Ss
set_option maxRecDepth 20000

/-- A row of n things at the beginning of a block; all else stands. -/
structure Rw (blk n : Nat) (Ok : Int → Prop) (w0 w : World) (f : Nat → Int) : Prop where
  fr : Fr (One blk) w0 w
  lt : blk < w0.heap.size
  c : ∀ k, k < n → w.cell? ⟨blk, k, none⟩ = some (.int .i64 (f k))
  z : ∀ k, w.frozen? ⟨blk, k, none⟩ = false
  ok : ∀ k, k < n → Ok (f k)
section
variable {blk n : Nat} {Ok : Int → Prop} {w0 w : World} {f : Nat → Int}
theorem Rw.drewN (h : Rw blk n Ok w0 w f) (q : Nat) : Rw blk n Ok w0 (w.drewN q) f := ⟨h.fr.drewN q, h.lt, h.c, h.z, h.ok⟩
theorem Rw.drew (h : Rw blk n Ok w0 w f) : Rw blk n Ok w0 w.drew f := ⟨h.fr.drew, h.lt, h.c, h.z, h.ok⟩
theorem Rw.put (h : Rw blk n Ok w0 w f) {i : Nat} (hi : i < n) {v : Int} (hv : Ok v) : Rw blk n Ok w0 (w.setCell ⟨blk, i, none⟩ (.int .i64 (v))) (put f i v) := by
  refine ⟨h.fr.setCell (Or.inr rfl) _ _, h.lt, fun k hk => ?_, fun k => by rw [World.frozen?_setCell]; exact h.z k, fun k hk => ?_⟩
  · by_cases e : k = i
    · subst e
      rw [World.cell?_setCell_same (h := h.c k hk), put_same]
    · rw [World.cell?_setCell_other, put_other f v e]
      · exact h.c k hk
      · intro h'; injection h' with _ h2; exact e h2.symm
  · by_cases e : k = i
    · subst e; rw [put_same]; exact hv
    · rw [put_other f v e]; exact h.ok k hk
theorem Rw.swap (h : Rw blk n Ok w0 w f) {i j : Nat} (hi : i < n) (hj : j < n) : Rw blk n Ok w0 ((w.setCell ⟨blk, i, none⟩ (.int .i64 (f j))).setCell ⟨blk, j, none⟩ (.int .i64 (f i))).drew (swp f i j) := by
  rw [← swp_put f]
  exact ((h.put hi (h.ok j hj)).put hj (h.ok i hi)).drew
theorem Rw.c2 (h : Rw blk n Ok w0 w f) {i j : Nat} (hi : i < n) (hj : j < n) (v : Value) : ∃ u, (w.setCell ⟨blk, i, none⟩ v).cell? ⟨blk, j, none⟩ = some u := by
  by_cases e : i = j
  · subst e; exact ⟨v, World.cell?_setCell_same _ _ _ (h.c i hi)⟩
  · exact ⟨_, (World.cell?_setCell_other _ _ _ _ (by intro e'; simp only [Addr.mk.injEq] at e'; omega)).trans (h.c j hj)⟩
end

set_option maxHeartbeats 4000000 in
theorem swapRange_any (blk n cap a b m : Nat) (cv : Value) (Ok : Int → Prop) (f : Nat → Int) (w0 w : World) (S : Rw blk n Ok w0 w f) (h1 : a + m ≤ b) (h2 : b + m ≤ n) (hn : n < 1099511627776) :
    Calls Tryz.prog 138 #[.slice (some ⟨blk, 0, none⟩) n cap, .int .i64 a, .int .i64 b, .int .i64 m, cv] w fun e w' => e = .returned (.tuple #[]) ∧ Rw blk n Ok w0 w' (sr f a b m) := by
  have S0 : Aside (Rw blk n Ok w0 w f) := S
  clear S
  go_enter Tryz.func138, Tryz.ntmps138
  go_wp2
  go_loopg [10] m (fun g1 vi wr => ∃ i : Nat, vi = .int .i64 i ∧ i ≤ m ∧ m - i ≤ g1 ∧ Aside (Rw blk n Ok w0 wr (sr f a b i)))
  case atStart => exact ⟨0, rfl, by omega, by omega, by rw [sr_zero]; exact S0⟩
  case round =>
    clear S0
    obtain ⟨i, rfl, him, hg1, S1⟩ := hrel
    by_cases hlt : i < m
    · have hltz : (i : Int) < (m : Int) := by omega
      obtain ⟨p, hp⟩ : ∃ p, p = a + i := ⟨_, rfl⟩
      obtain ⟨q, hq⟩ : ∃ q, q = b + i := ⟨_, rfl⟩
      have ea : ((a : Int) + (i : Int)).toNat = p := by omega
      have pa : (0 : Int) ≤ (a : Int) + (i : Int) := by omega
      have ba : (a : Int) + (i : Int) < (n : Int) := by omega
      have ra : IntKind.i64.wrap ((a : Int) + (i : Int)) = (a : Int) + (i : Int) := by rw [IntKind.wrap_i64]; omega
      have eb : ((b : Int) + (i : Int)).toNat = q := by omega
      have pb : (0 : Int) ≤ (b : Int) + (i : Int) := by omega
      have bb : (b : Int) + (i : Int) < (n : Int) := by omega
      have rb : IntKind.i64.wrap ((b : Int) + (i : Int)) = (b : Int) + (i : Int) := by rw [IntKind.wrap_i64]; omega
      obtain ⟨x, hx⟩ : ∃ x, x = sr f a b i p := ⟨_, rfl⟩
      obtain ⟨y, hy⟩ : ∃ y, y = sr f a b i q := ⟨_, rfl⟩
      have S2 : Aside (Rw blk n Ok w0 ((wr.setCell ⟨blk, p, none⟩ (.int .i64 (y))).setCell ⟨blk, q, none⟩ (.int .i64 (x))).drew (sr f a b (i + 1))) := by
        rw [hx, hy, ← sr_step f h1 hlt, hp, hq]
        exact S1.out.swap (by omega) (by omega)
      have ca := S1.out.c p (by omega)
      have cb := S1.out.c q (by omega)
      have fa := S1.out.z p
      have fb := S1.out.z q
      obtain ⟨u, cc⟩ := S1.out.c2 (i := p) (j := q) (by omega) (by omega) (.int .i64 (y))
      rw [← hx] at ca
      rw [← hy] at cb
      clear S1 hx hy hp hq
      go_wp2_with fail
      go_region
      clear ca cb cc fa fb
      generalize ((wr.setCell ⟨blk, p, none⟩ (.int .i64 (y))).setCell ⟨blk, q, none⟩ (.int .i64 (x))).drew = w3 at S2 ⊢
      go_wp2
      go_roundg (m - (i + 1))
      case measure => omega
      case rel => exact ⟨i + 1, by go_num, by omega, by omega, S2⟩
    · have hltz : ¬ (i : Int) < (m : Int) := by omega
      obtain rfl : i = m := by omega
      go_wp2
      go_end0
      exact ⟨rfl, S1.out⟩
end Go.Proofs.YtddcndlogoajkaaGreatDoor.L8.Si
namespace Go.Proofs.YtddcndlogoajkaaGreatDoor.L8.Si
open Go.ChangeShapes Go.WideShapes Go.ChangeAt Go.RowKit
open _root_.Go.Proofs.YtddcndlogoajkaaGreatDoor.L8.So _root_.Go.Proofs.YtddcndlogoajkaaGreatDoor.L8.Ss
set_option maxRecDepth 20000

/-- The comparison that is handed on: by the keys; nothing is changed. -/
def Cmp (bx blk : Nat) (Ok : Int → Prop) (key : Int → Int) (w0 : World) : Prop :=
  ∀ w', Fr (One blk) w0 w' → ∀ x y, Ok x → Ok y → Calls Tryz.prog 119 #[.int .i64 (x), .int .i64 (y), .pointer (some ⟨bx, 0, none⟩)] w' fun e w2 => e = .returned (.int .i64 (c3 (key x) (key y))) ∧ ∃ q, w2 = w'.drewN q
theorem Cmp.at {bx blk n : Nat} {Ok : Int → Prop} {key : Int → Int} {w0 w : World} {f : Nat → Int} (h : Cmp bx blk Ok key w0) (S : Rw blk n Ok w0 w f) {x y : Int} (hx : Ok x) (hy : Ok y) (m : Nat) :
    Calls Tryz.prog 119 #[.int .i64 (x), .int .i64 (y), .pointer (some ⟨bx, 0, none⟩)] (w.drewN m) fun e w2 => e = .returned (.int .i64 (c3 (key x) (key y))) ∧ ∃ q, w2 = (w.drewN m).drewN q := h _ (S.drewN m).fr x y hx hy
set_option maxHeartbeats 4000000 in
theorem insertion_any (bx blk n cap a b : Nat) (Ok : Int → Prop) (key : Int → Int) (f : Nat → Int) (w0 w : World) (hC : Cmp bx blk Ok key w0) (S : Rw blk n Ok w0 w f) (h1 : a ≤ b) (h2 : b ≤ n) (hn : n < 1099511627776) :
    Calls Tryz.prog 133 #[.slice (some ⟨blk, 0, none⟩) n cap, .int .i64 a, .int .i64 b, .func (.func 119) #[] #[.pointer (some ⟨bx, 0, none⟩)]] w fun e w' => e = .returned (.tuple #[]) ∧ ∃ g, Rw blk n Ok w0 w' g ∧ Pm a b f g ∧ Srt key g a b := by
  have S0 : Aside (Rw blk n Ok w0 w f) := S
  have HC : Aside (Cmp bx blk Ok key w0) := hC
  clear S hC
  go_enter Tryz.func133, Tryz.ntmps133
  go_wp2
  go_loopg [8] (b - a) (fun g1 vi wr => ∃ (i : Nat) (g : Nat → Int), vi = .int .i64 i ∧ a < i ∧ i ≤ b + 1 ∧ b + 1 - i ≤ g1 + 1 ∧ Aside (Rw blk n Ok w0 wr g) ∧ Aside (Pm a b f g) ∧ Aside (Srt key g a i))
  case atStart => exact ⟨a + 1, f, by first | rfl | go_num, by omega, by omega, by omega, S0, Pm.refl _ _ _, Srt.few key f (by omega)⟩
  case round =>
    clear S0
    obtain ⟨i, g, rfl, hai, hib, hg1, S1, P1, O1⟩ := hrel
    by_cases hlt : i < b
    · have hltz : (i : Int) < (b : Int) := by omega
      go_wp2
      go_loopg [9] i (fun g2 vj wr2 => ∃ (j : Nat) (h : Nat → Int), vj = .int .i64 j ∧ a ≤ j ∧ j ≤ i ∧ j ≤ g2 ∧ Aside (Rw blk n Ok w0 wr2 h) ∧ Aside (Pm a b f h) ∧ Aside (Ins key h a i j))
      case atStart => exact ⟨i, g, rfl, by omega, Nat.le_refl _, Nat.le_refl _, S1, P1, Ins.start O1.out⟩
      case round =>
        clear S1 P1 O1
        obtain ⟨j, h, rfl, haj, hji, hg2, SJ, PJ, OJ⟩ := hrel
        by_cases hja : a < j
        · obtain ⟨jp, rfl⟩ : ∃ q, j = q + 1 := ⟨j - 1, by omega⟩
          have zj : ((jp + 1 : Nat) : Int) = (jp : Int) + 1 := by omega
          have hjaz : (a : Int) < (jp : Int) + 1 := by omega
          have hjad : decide ((jp : Int) + 1 > (a : Int)) = true := decide_eq_true (by omega)
          obtain ⟨p, hp⟩ : ∃ p, p = jp + 1 := ⟨_, rfl⟩
          have ea : ((jp : Int) + 1).toNat = p := by omega
          have pa : (0 : Int) ≤ (jp : Int) + 1 := by omega
          have ba : (jp : Int) + 1 < (n : Int) := by omega
          have ra : IntKind.i64.wrap ((jp : Int) + 1) = (jp : Int) + 1 := by rw [IntKind.wrap_i64]; omega
          have eb : ((jp : Int)).toNat = jp := by omega
          have pb : (0 : Int) ≤ (jp : Int) := by omega
          have bb : (jp : Int) < (n : Int) := by omega
          have rb : IntKind.i64.wrap ((jp : Int)) = (jp : Int) := by rw [IntKind.wrap_i64]; omega
          obtain ⟨x, hx⟩ : ∃ x, x = h p := ⟨_, rfl⟩
          obtain ⟨y, hy⟩ : ∃ y, y = h jp := ⟨_, rfl⟩
          have ca := SJ.out.c p (by omega)
          have cb := SJ.out.c jp (by omega)
          rw [← hx] at ca
          rw [← hy] at cb
          have hcm : Hid _ := HC.out.at SJ.out (x := x) (y := y) (by rw [hx]; exact SJ.out.ok p (by omega)) (by rw [hy]; exact SJ.out.ok jp (by omega))
          obtain ⟨cf, hcf⟩ : ∃ c, c = c3 (key x) (key y) := ⟨_, rfl⟩
          rw [← hcf] at hcm
          by_cases hlv : key x < key y
          · have hd : decide (cf < 0) = true := decide_eq_true (by rw [hcf]; exact c3_lt.2 hlv)
            have hv : cf < 0 := of_decide_eq_true hd
            have A : Aside (Ins key (swp h p jp) a i jp ∧ x = h p ∧ y = h jp ∧ p = jp + 1) := by
              refine ⟨?_, hx, hy, hp⟩
              have := OJ.out.step (by omega) hji (by rw [Nat.add_sub_cancel, ← hp, ← hx, ← hy]; exact hlv)
              rw [Nat.add_sub_cancel, ← hp] at this
              exact this
            clear hx hy hp hcf hlv OJ
            go_wp2_with fail
            go_quiet (first | (go_at_call 119; refine Calls.quiet_of (hcm.out _)))
            have S2 : Aside (Rw blk n Ok w0 (wr.drewN nq) h) := SJ.out.drewN nq
            clear ca cb SJ hcm
            generalize wr.drewN nq = w2 at S2 ⊢
            clear nq
            obtain ⟨A1, hx, hy, hp⟩ := A.out
            have S3 : Aside (Rw blk n Ok w0 ((w2.setCell ⟨blk, p, none⟩ (.int .i64 (y))).setCell ⟨blk, jp, none⟩ (.int .i64 (x))).drew (swp h p jp)) := by
              rw [hx, hy]; exact S2.out.swap (by omega) (by omega)
            have P3 : Aside (Pm a b f (swp h p jp)) := PJ.out.trans (Pm.swp h (by omega) (by omega) (by omega) (by omega))
            have A2 : Aside (Ins key (swp h p jp) a i jp) := A1
            have ca := S2.out.c p (by omega)
            have cb := S2.out.c jp (by omega)
            have fa := S2.out.z p
            have fb := S2.out.z jp
            obtain ⟨u, cc⟩ := S2.out.c2 (i := p) (j := jp) (by omega) (by omega) (.int .i64 (y))
            rw [← hx] at ca
            rw [← hy] at cb
            clear S2 hx hy hp A A1 PJ
            go_wp2_with fail
            go_region
            clear ca cb cc fa fb
            generalize ((w2.setCell ⟨blk, p, none⟩ (.int .i64 (y))).setCell ⟨blk, jp, none⟩ (.int .i64 (x))).drew = w3 at S3 ⊢
            clear ea eb
            go_wp2
            go_roundg jp
            case measure => omega
            case rel => exact ⟨jp, swp h p jp, by first | rfl | go_num | (congr 1; omega), by omega, by omega, Nat.le_refl _, S3, P3, A2⟩
          · have hd : decide (cf < 0) = false := decide_eq_false (by rw [hcf]; exact fun hh => hlv (c3_lt.1 hh))
            have hv : ¬ cf < 0 := of_decide_eq_false hd
            have A : Aside (Srt key h a (i + 1)) := OJ.out.stop hja hji (by rw [Nat.add_sub_cancel, ← hp, ← hx, ← hy]; exact hlv)
            clear hx hy hp hcf hlv OJ
            go_wp2_with fail
            go_quiet (first | (go_at_call 119; refine Calls.quiet_of (hcm.out _)))
            have S2 : Aside (Rw blk n Ok w0 (wr.drewN nq) h) := SJ.out.drewN nq
            clear ca cb SJ hcm
            generalize wr.drewN nq = w2 at S2 ⊢
            clear nq ea eb
            go_wp2
            go_roundg (b - (i + 1))
            case measure => omega
            case rel => exact ⟨i + 1, h, by go_num, by omega, by omega, by omega, S2, PJ, A⟩
        · have hjad : decide ((j : Int) > (a : Int)) = false := decide_eq_false (by omega)
          have hjaz : ¬ (a : Int) < (j : Int) := by omega
          have A : Aside (Srt key h a (i + 1)) := OJ.out.low (by omega)
          clear OJ
          go_wp2_with fail
          go_quiet (fail)
          have S2 : Aside (Rw blk n Ok w0 (wr.drewN nq) h) := SJ.out.drewN nq
          clear SJ
          generalize wr.drewN nq = w2 at S2 ⊢
          clear nq
          go_wp2
          go_roundg (b - (i + 1))
          case measure => omega
          case rel => exact ⟨i + 1, h, by go_num, by omega, by omega, by omega, S2, PJ, A⟩
    · have hltz : ¬ (i : Int) < (b : Int) := by omega
      go_wp2
      go_end0
      exact ⟨rfl, g, S1.out, P1.out, O1.out.sub (Nat.le_refl _) (by omega)⟩
end Go.Proofs.YtddcndlogoajkaaGreatDoor.L8.Si
namespace Go.Proofs.YtddcndlogoajkaaGreatDoor.L8.Si
open Go.ChangeShapes Go.WideShapes Go.ChangeAt Go.RowKit
open _root_.Go.Proofs.YtddcndlogoajkaaGreatDoor.L8.So _root_.Go.Proofs.YtddcndlogoajkaaGreatDoor.L8.Ss
set_option maxRecDepth 20000

set_option maxHeartbeats 4000000 in
theorem symA_any (bx blk n cap a m b : Nat) (Ok : Int → Prop) (key : Int → Int) (f : Nat → Int) (w0 w : World) (hC : Cmp bx blk Ok key w0) (S : Rw blk n Ok w0 w f) (hm : m = a + 1) (h1 : m < b) (h2 : b ≤ n) (hn : n < 1099511627776) (hs : Srt key f m b) :
    Calls Tryz.prog 134 #[.slice (some ⟨blk, 0, none⟩) n cap, .int .i64 a, .int .i64 m, .int .i64 b, .func (.func 119) #[] #[.pointer (some ⟨bx, 0, none⟩)]] w fun e w' => e = .returned (.tuple #[]) ∧ ∃ g, Rw blk n Ok w0 w' g ∧ Pm a b f g ∧ Srt key g a b := by
  have S0 : Aside (Rw blk n Ok w0 w f) := S
  have HC : Aside (Cmp bx blk Ok key w0) := hC
  have HS : Aside (Srt key f m b) := hs
  clear S hC hs
  have e0 : (m : Int) - (a : Int) = 1 := by omega
  have hm' : Aside (m = a + 1) := hm
  have ham : a < m := by omega
  clear hm
  go_enter Tryz.func134, Tryz.ntmps134
  go_wp2
  go_loopg [10, 11] n (fun g1 vi vj wr => ∃ (i j : Nat), vi = .int .i64 i ∧ vj = .int .i64 j ∧ m ≤ i ∧ i ≤ j ∧ j ≤ b ∧ j - i ≤ g1 ∧ Aside (Rw blk n Ok w0 wr f) ∧ Aside (i = m ∨ key (f (i - 1)) < key (f a)) ∧ Aside (j = b ∨ key (f a) ≤ key (f j)))
  case atStart => exact ⟨m, b, rfl, rfl, Nat.le_refl _, by omega, Nat.le_refl _, by omega, S0, Or.inl rfl, Or.inl rfl⟩
  case round =>
    clear S0 e0
    obtain ⟨i, j, rfl, rfl, hi, hij, hj, hg1, S1, L1, H1⟩ := hrel
    by_cases hlt : i < j
    · have hltz : (i : Int) < (j : Int) := by omega
      obtain ⟨c, hc⟩ : ∃ c, c = (i + j) / 2 := ⟨_, rfl⟩
      have hw : IntKind.i64.wrap ((i : Int) + (j : Int)) = (i : Int) + (j : Int) := by rw [IntKind.wrap_i64]; omega
      have hcz : ((i : Int) + (j : Int)) / 2 = (c : Int) := by omega
      have hc1 : i ≤ c := by omega
      have hc2 : c < j := by omega
      clear hc
      have pa : (0 : Int) ≤ (a : Int) := by omega
      have ba : (a : Int) < (n : Int) := by omega
      have pb : (0 : Int) ≤ (c : Int) := by omega
      have bb : (c : Int) < (n : Int) := by omega
      obtain ⟨x, hx⟩ : ∃ x, x = f c := ⟨_, rfl⟩
      obtain ⟨y, hy⟩ : ∃ y, y = f a := ⟨_, rfl⟩
      have ca := S1.out.c c (by omega)
      have cb := S1.out.c a (by omega)
      rw [← hx] at ca
      rw [← hy] at cb
      have hcm : Hid _ := Cmp.at HC.out S1.out (x := x) (y := y) (by rw [hx]; exact S1.out.ok c (by omega)) (by rw [hy]; exact S1.out.ok a (by omega))
      obtain ⟨cf, hcf⟩ : ∃ q, q = c3 (key x) (key y) := ⟨_, rfl⟩
      rw [← hcf] at hcm
      by_cases hlv : key x < key y
      · have hd : decide (cf < 0) = true := decide_eq_true (by rw [hcf]; exact c3_lt.2 hlv)
        have hv : cf < 0 := of_decide_eq_true hd
        have A : Aside (c + 1 = m ∨ key (f (c + 1 - 1)) < key (f a)) := Or.inr (by rw [Nat.add_sub_cancel, ← hx, ← hy]; exact hlv)
        clear hx hy hcf hlv L1
        go_wp2_with fail
        go_quiet (first | (go_at_call 119; refine Calls.quiet_of (hcm.out _)))
        have S2 : Aside (Rw blk n Ok w0 (wr.drewN nq) f) := S1.out.drewN nq
        clear ca cb S1 hcm
        generalize wr.drewN nq = w2 at S2 ⊢
        clear nq
        go_wp2
        go_roundg (j - (c + 1))
        case measure => omega
        case rel => exact ⟨c + 1, j, by go_num, rfl, by omega, by omega, hj, Nat.le_refl _, S2, A, H1⟩
      · have hd : decide (cf < 0) = false := decide_eq_false (by rw [hcf]; exact fun hh => hlv (c3_lt.1 hh))
        have hv : ¬ cf < 0 := of_decide_eq_false hd
        have A : Aside (c = b ∨ key (f a) ≤ key (f c)) := Or.inr (by rw [← hx, ← hy]; omega)
        clear hx hy hcf hlv H1
        go_wp2_with fail
        go_quiet (first | (go_at_call 119; refine Calls.quiet_of (hcm.out _)))
        have S2 : Aside (Rw blk n Ok w0 (wr.drewN nq) f) := S1.out.drewN nq
        clear ca cb S1 hcm
        generalize wr.drewN nq = w2 at S2 ⊢
        clear nq
        go_wp2
        go_roundg (c - i)
        case measure => omega
        case rel => exact ⟨i, c, rfl, rfl, hi, by omega, by omega, Nat.le_refl _, S2, L1, A⟩
    · have hltz : ¬ (i : Int) < (j : Int) := by omega
      obtain rfl : i = j := by omega
      have A : Aside (Srt key (movR f a (i - 1)) a b) := by
        have hm := hm'.out
        subst hm
        exact HS.out.movR hi hj L1.out H1.out
      clear L1 H1 HS
      have zi : (i : Int) - 1 = ((i - 1 : Nat) : Int) := by omega
      have rw1 : IntKind.i64.wrap ((i : Int) - 1) = ((i - 1 : Nat) : Int) := by rw [IntKind.wrap_i64]; omega
      obtain ⟨t, ht⟩ : ∃ t, t = i - 1 := ⟨_, rfl⟩
      rw [← ht] at zi rw1 A
      have hat : a ≤ t := by omega
      have htn : t < b := by omega
      have hit : i = t + 1 := by omega
      subst hit
      clear ht zi
      go_wp2
      go_loopg [13] n (fun g1 vk wr => ∃ (k : Nat), vk = .int .i64 k ∧ a ≤ k ∧ k ≤ t ∧ t - k ≤ g1 ∧ Aside (Rw blk n Ok w0 wr (movR f a k)))
      case atStart => exact ⟨a, rfl, Nat.le_refl _, hat, by omega, by rw [movR_start]; exact S1⟩
      case round =>
        clear S1
        obtain ⟨k, rfl, hak, hkt, hg2, SK⟩ := hrel
        by_cases hkl : k < t
        · have hkz : (k : Int) < (t : Int) := by omega
          obtain ⟨p, hp⟩ : ∃ p, p = k + 1 := ⟨_, rfl⟩
          have ea : ((k : Int) + 1).toNat = p := by omega
          have pa : (0 : Int) ≤ (k : Int) + 1 := by omega
          have ba : (k : Int) + 1 < (n : Int) := by omega
          have ra : IntKind.i64.wrap ((k : Int) + 1) = (k : Int) + 1 := by rw [IntKind.wrap_i64]; omega
          have pb : (0 : Int) ≤ (k : Int) := by omega
          have bb : (k : Int) < (n : Int) := by omega
          obtain ⟨x, hx⟩ : ∃ x, x = movR f a k k := ⟨_, rfl⟩
          obtain ⟨y, hy⟩ : ∃ y, y = movR f a k p := ⟨_, rfl⟩
          have S3 : Aside (Rw blk n Ok w0 ((wr.setCell ⟨blk, k, none⟩ (.int .i64 (y))).setCell ⟨blk, p, none⟩ (.int .i64 (x))).drew (movR f a (k + 1))) := by
            rw [hx, hy, ← movR_step f hak, hp]; exact SK.out.swap (by omega) (by omega)
          have ca := SK.out.c k (by omega)
          have cb := SK.out.c p (by omega)
          have fa := SK.out.z k
          have fb := SK.out.z p
          obtain ⟨u, cc⟩ := SK.out.c2 (i := k) (j := p) (by omega) (by omega) (.int .i64 (y))
          rw [← hx] at ca
          rw [← hy] at cb
          clear SK hx hy hp
          go_wp2_with fail
          go_region
          clear ca cb cc fa fb
          generalize ((wr.setCell ⟨blk, k, none⟩ (.int .i64 (y))).setCell ⟨blk, p, none⟩ (.int .i64 (x))).drew = w3 at S3 ⊢
          clear ea
          go_wp2
          go_roundg (t - (k + 1))
          case measure => omega
          case rel => exact ⟨k + 1, by go_num, by omega, by omega, Nat.le_refl _, S3⟩
        · have hkz : ¬ (k : Int) < (t : Int) := by omega
          obtain rfl : k = t := by omega
          go_wp2
          (try simp only [Exit.inBlock, Exit.then])
          refine bodyPost_ret (results_none rfl _ _ _) rfl ?_
          exact ⟨rfl, _, SK.out, Pm.movR f k hak htn, A.out⟩

set_option maxHeartbeats 4000000 in
theorem symB_any (bx blk n cap a m b : Nat) (Ok : Int → Prop) (key : Int → Int) (f : Nat → Int) (w0 w : World) (hC : Cmp bx blk Ok key w0) (S : Rw blk n Ok w0 w f) (hb : b = m + 1) (h1 : a + 1 < m) (h2 : b ≤ n) (hn : n < 1099511627776) (hs : Srt key f a m) :
    Calls Tryz.prog 134 #[.slice (some ⟨blk, 0, none⟩) n cap, .int .i64 a, .int .i64 m, .int .i64 b, .func (.func 119) #[] #[.pointer (some ⟨bx, 0, none⟩)]] w fun e w' => e = .returned (.tuple #[]) ∧ ∃ g, Rw blk n Ok w0 w' g ∧ Pm a b f g ∧ Srt key g a b := by
  have S0 : Aside (Rw blk n Ok w0 w f) := S
  have HC : Aside (Cmp bx blk Ok key w0) := hC
  have HS : Aside (Srt key f a m) := hs
  clear S hC hs
  have e0 : ((m : Int) - (a : Int) == 1) = false := by rw [beq_eq_false_iff_ne]; omega
  have e1 : (b : Int) - (m : Int) = 1 := by omega
  have rwa : IntKind.i64.wrap ((m : Int) - (a : Int)) = (m : Int) - (a : Int) := by rw [IntKind.wrap_i64]; omega
  have hb' : Aside (b = m + 1) := hb
  have hmn : m < n := by omega
  clear hb
  go_enter Tryz.func134, Tryz.ntmps134
  go_wp2
  go_loopg [14, 15] n (fun g1 vi vj wr => ∃ (i j : Nat), vi = .int .i64 i ∧ vj = .int .i64 j ∧ a ≤ i ∧ i ≤ j ∧ j ≤ m ∧ j - i ≤ g1 ∧ Aside (Rw blk n Ok w0 wr f) ∧ Aside (i = a ∨ key (f (i - 1)) ≤ key (f m)) ∧ Aside (j = m ∨ key (f m) < key (f j)))
  case atStart => exact ⟨a, m, rfl, rfl, Nat.le_refl _, by omega, Nat.le_refl _, by omega, S0, Or.inl rfl, Or.inl rfl⟩
  case round =>
    clear S0 e0 e1 rwa
    obtain ⟨i, j, rfl, rfl, hi, hij, hj, hg1, S1, L1, H1⟩ := hrel
    by_cases hlt : i < j
    · have hltz : (i : Int) < (j : Int) := by omega
      obtain ⟨c, hc⟩ : ∃ c, c = (i + j) / 2 := ⟨_, rfl⟩
      have hw : IntKind.i64.wrap ((i : Int) + (j : Int)) = (i : Int) + (j : Int) := by rw [IntKind.wrap_i64]; omega
      have hcz : ((i : Int) + (j : Int)) / 2 = (c : Int) := by omega
      have hc1 : i ≤ c := by omega
      have hc2 : c < j := by omega
      clear hc
      have pa : (0 : Int) ≤ (m : Int) := by omega
      have ba : (m : Int) < (n : Int) := by omega
      have pb : (0 : Int) ≤ (c : Int) := by omega
      have bb : (c : Int) < (n : Int) := by omega
      obtain ⟨x, hx⟩ : ∃ x, x = f m := ⟨_, rfl⟩
      obtain ⟨y, hy⟩ : ∃ y, y = f c := ⟨_, rfl⟩
      have ca := S1.out.c m (by omega)
      have cb := S1.out.c c (by omega)
      rw [← hx] at ca
      rw [← hy] at cb
      have hcm : Hid _ := Cmp.at HC.out S1.out (x := x) (y := y) (by rw [hx]; exact S1.out.ok m (by omega)) (by rw [hy]; exact S1.out.ok c (by omega))
      obtain ⟨cf, hcf⟩ : ∃ q, q = c3 (key x) (key y) := ⟨_, rfl⟩
      rw [← hcf] at hcm
      by_cases hlv : key x < key y
      · have hd : decide (cf < 0) = true := decide_eq_true (by rw [hcf]; exact c3_lt.2 hlv)
        have hv : cf < 0 := of_decide_eq_true hd
        have A : Aside (c = m ∨ key (f m) < key (f c)) := Or.inr (by rw [← hx, ← hy]; exact hlv)
        clear hx hy hcf hlv H1
        go_wp2_with fail
        go_quiet (first | (go_at_call 119; refine Calls.quiet_of (hcm.out _)))
        have S2 : Aside (Rw blk n Ok w0 (wr.drewN nq) f) := S1.out.drewN nq
        clear ca cb S1 hcm
        generalize wr.drewN nq = w2 at S2 ⊢
        clear nq
        go_wp2
        go_roundg (c - i)
        case measure => omega
        case rel => exact ⟨i, c, rfl, rfl, hi, by omega, by omega, Nat.le_refl _, S2, L1, A⟩
      · have hd : decide (cf < 0) = false := decide_eq_false (by rw [hcf]; exact fun hh => hlv (c3_lt.1 hh))
        have hv : ¬ cf < 0 := of_decide_eq_false hd
        have A : Aside (c + 1 = a ∨ key (f (c + 1 - 1)) ≤ key (f m)) := Or.inr (by rw [Nat.add_sub_cancel, ← hx, ← hy]; omega)
        clear hx hy hcf hlv L1
        go_wp2_with fail
        go_quiet (first | (go_at_call 119; refine Calls.quiet_of (hcm.out _)))
        have S2 : Aside (Rw blk n Ok w0 (wr.drewN nq) f) := S1.out.drewN nq
        clear ca cb S1 hcm
        generalize wr.drewN nq = w2 at S2 ⊢
        clear nq
        go_wp2
        go_roundg (j - (c + 1))
        case measure => omega
        case rel => exact ⟨c + 1, j, by go_num, rfl, by omega, by omega, hj, Nat.le_refl _, S2, A, H1⟩
    · have hltz : ¬ (i : Int) < (j : Int) := by omega
      obtain rfl : i = j := by omega
      have A : Aside (Srt key (movL f m i) a b) := by
        have hb := hb'.out
        subst hb
        exact HS.out.movL hi hj L1.out H1.out
      clear L1 H1 HS
      go_wp2
      go_loopg [17] n (fun g1 vk wr => ∃ (k : Nat), vk = .int .i64 k ∧ i ≤ k ∧ k ≤ m ∧ k - i ≤ g1 ∧ Aside (Rw blk n Ok w0 wr (movL f m k)))
      case atStart => exact ⟨m, rfl, hj, Nat.le_refl _, by omega, by rw [movL_start]; exact S1⟩
      case round =>
        clear S1
        obtain ⟨k, rfl, hik, hkm, hg2, SK⟩ := hrel
        by_cases hkl : i < k
        · obtain ⟨p, rfl⟩ : ∃ p, k = p + 1 := ⟨k - 1, by omega⟩
          have zk : ((p + 1 : Nat) : Int) = (p : Int) + 1 := by omega
          have hkz : (p : Int) + 1 > (i : Int) := by omega
          obtain ⟨k, hk⟩ : ∃ k, k = p + 1 := ⟨_, rfl⟩
          have ea : ((p : Int) + 1).toNat = k := by omega
          have pa : (0 : Int) ≤ (p : Int) + 1 := by omega
          have ba : (p : Int) + 1 < (n : Int) := by omega
          have pb : (0 : Int) ≤ (p : Int) := by omega
          have bb : (p : Int) < (n : Int) := by omega
          have rb : IntKind.i64.wrap ((p : Int)) = (p : Int) := by rw [IntKind.wrap_i64]; omega
          rw [← hk] at SK
          obtain ⟨x, hx⟩ : ∃ x, x = movL f m k k := ⟨_, rfl⟩
          obtain ⟨y, hy⟩ : ∃ y, y = movL f m k p := ⟨_, rfl⟩
          have S3 : Aside (Rw blk n Ok w0 ((wr.setCell ⟨blk, k, none⟩ (.int .i64 (y))).setCell ⟨blk, p, none⟩ (.int .i64 (x))).drew (movL f m p)) := by
            have e := movL_step f (m := m) (k := k) (by omega) (by omega)
            rw [hk, Nat.add_sub_cancel, ← hk] at e
            rw [hx, hy, ← e]; exact SK.out.swap (by omega) (by omega)
          have ca := SK.out.c k (by omega)
          have cb := SK.out.c p (by omega)
          have fa := SK.out.z k
          have fb := SK.out.z p
          obtain ⟨u, cc⟩ := SK.out.c2 (i := k) (j := p) (by omega) (by omega) (.int .i64 (y))
          rw [← hx] at ca
          rw [← hy] at cb
          clear SK hx hy hk
          go_wp2_with fail
          go_region
          clear ca cb cc fa fb
          generalize ((wr.setCell ⟨blk, k, none⟩ (.int .i64 (y))).setCell ⟨blk, p, none⟩ (.int .i64 (x))).drew = w3 at S3 ⊢
          clear ea
          go_wp2
          go_roundg (p - i)
          case measure => omega
          case rel => exact ⟨p, by first | rfl | go_num | (congr 1; omega), by omega, by omega, Nat.le_refl _, S3⟩
        · have hkz : ¬ (k : Int) > (i : Int) := by omega
          obtain rfl : k = i := by omega
          go_wp2
          (try simp only [Exit.inBlock, Exit.then])
          refine bodyPost_ret (results_none rfl _ _ _) rfl ?_
          have P : Pm a b f (movL f m k) := by
            have := Pm.movL f (a := a) (m := m) (m - k) (by omega) (by omega)
            rw [show m - (m - k) = k by omega, ← hb'.out] at this
            exact this
          exact ⟨rfl, _, SK.out, P, A.out⟩
end Go.Proofs.YtddcndlogoajkaaGreatDoor.L8.Si
namespace Go.Proofs.YtddcndlogoajkaaGreatDoor.L8.Si
open Go.ChangeShapes Go.WideShapes Go.ChangeAt Go.RowKit
open _root_.Go.Proofs.YtddcndlogoajkaaGreatDoor.L8.So _root_.Go.Proofs.YtddcndlogoajkaaGreatDoor.L8.Ss
set_option maxRecDepth 20000

set_option maxHeartbeats 4000000 in
theorem rotate_any (blk n cap a m b : Nat) (cv : Value) (Ok : Int → Prop) (f : Nat → Int) (w0 w : World) (S : Rw blk n Ok w0 w f) (h1 : a < m) (h2 : m < b) (h3 : b ≤ n) (hn : n < 1099511627776) :
    Calls Tryz.prog 136 #[.slice (some ⟨blk, 0, none⟩) n cap, .int .i64 a, .int .i64 m, .int .i64 b, cv] w fun e w' => e = .returned (.tuple #[]) ∧ Rw blk n Ok w0 w' (rot f a m b) := by
  have S0 : Aside (Rw blk n Ok w0 w f) := S
  have HC : Hid (∀ (x y k : Nat) (g : Nat → Int) (w' : World), Rw blk n Ok w0 w' g → x + k ≤ y → y + k ≤ n → Calls Tryz.prog 138 #[.slice (some ⟨blk, 0, none⟩) n cap, .int .i64 x, .int .i64 y, .int .i64 k, cv] w' fun e w2 => e = .returned (.tuple #[]) ∧ Rw blk n Ok w0 w2 (sr g x y k)) :=
    fun x y k g w' S h1 h2 => swapRange_any blk n cap x y k cv Ok g w0 w' S h1 h2 hn
  clear S
  have e0 : (m : Int) - (a : Int) = ((m - a : Nat) : Int) := by omega
  have e1 : (b : Int) - (m : Int) = ((b - m : Nat) : Int) := by omega
  go_enter Tryz.func136, Tryz.ntmps136
  go_wp2
  go_loopg [10, 11] n (fun g1 vi vj wr => ∃ (i j : Nat) (g : Nat → Int), vi = .int .i64 i ∧ vj = .int .i64 j ∧ 0 < i ∧ 0 < j ∧ i ≤ m - a ∧ j ≤ b - m ∧ i + j ≤ g1 ∧ Aside (Rw blk n Ok w0 wr g) ∧ Hid (rot g (m - i) m (m + j) = rot f a m b))
  case atStart =>
    refine ⟨m - a, b - m, f, by first | rfl | go_num | (congr 1; omega), by first | rfl | go_num | (congr 1; omega), by omega, by omega, Nat.le_refl _, Nat.le_refl _, by omega, S0, ?_⟩
    show _ = _
    congr 1 <;> omega
  case round =>
    clear S0 e0 e1
    obtain ⟨i, j, g, rfl, rfl, i0, j0, i1, j1, hg1, S1, HR⟩ := hrel
    have e2 : (m : Int) - (i : Int) = ((m - i : Nat) : Int) := by omega
    by_cases hne : i = j
    · subst hne
      have hz : ¬ ((i : Int) ≠ (i : Int)) := by omega
      go_wp2_with (first | (go_at_call 138; refine Calls.mono (HC.out (m - i) m i g _ S1.out (by omega) (by omega)) ?_; rintro e w1 ⟨rfl, S2⟩; have S3 : Aside _ := S2; clear S2 S1))
      go_end0
      refine ⟨rfl, ?_⟩
      rw [← HR.out, ← rot_eq g (show i ≤ m by omega)]
      exact S3.out
    · have hz : ((i : Int) ≠ (j : Int)) := by omega
      by_cases hgt : j < i
      · have hgz : (i : Int) > (j : Int) := by omega
        have e3 : (i : Int) - (j : Int) = ((i - j : Nat) : Int) := by omega
        go_wp2_with (first | (go_at_call 138; refine Calls.mono (HC.out (m - i) m j g _ S1.out (by omega) (by omega)) ?_; rintro e w1 ⟨rfl, S2⟩; have S3 : Aside _ := S2; clear S2 S1))
        go_roundg (i - j + j)
        case measure => omega
        case rel => exact ⟨i - j, j, _, by first | rfl | go_num | (congr 1; omega), rfl, by omega, j0, by omega, j1, Nat.le_refl _, S3, (show _ = _ from (rot_gt g hgt (by omega)).trans HR.out)⟩
      · have hgz : ¬ (i : Int) > (j : Int) := by omega
        have e3 : (j : Int) - (i : Int) = ((j - i : Nat) : Int) := by omega
        have e4 : (m : Int) + (j : Int) - (i : Int) = ((m + j - i : Nat) : Int) := by omega
        go_wp2_with (first | (go_at_call 138; refine Calls.mono (HC.out (m - i) (m + j - i) i g _ S1.out (by omega) (by omega)) ?_; rintro e w1 ⟨rfl, S2⟩; have S3 : Aside _ := S2; clear S2 S1))
        go_roundg (i + (j - i))
        case measure => omega
        case rel => exact ⟨i, j - i, _, rfl, by first | rfl | go_num | (congr 1; omega), i0, by omega, i1, by omega, Nat.le_refl _, S3, (show _ = _ from (rot_lt g (by omega) (by omega)).trans HR.out)⟩
end Go.Proofs.YtddcndlogoajkaaGreatDoor.L8.Si
