/- The insertion of one thing after the other, in memory. Conditions: the row lies at a block's beginning; two things are compared by their keys. -/
import Derived.Test.YtnfnjhaaaenldaaSap
import Derived.Test.YtnfnjhaaaenldaaSt
namespace Go.Proofs.Ytnfnjhaaaenldaa.Sp
open Go.ChangeShapes Go.WideShapes Go.ChangeAt Go.RowKit
open _root_.Go.Proofs.Ytnfnjhaaaenldaa.Op _root_.Go.Proofs.Ytnfnjhaaaenldaa.So _root_.Go.Proofs.Ytnfnjhaaaenldaa.Ss
set_option maxRecDepth 20000

/-- The comparison that is handed on: by the keys; nothing old is changed. -/
def Cmp (bx blk : Nat) (Ok : Pr → Prop) (key : Pr → Int) (w0 : World) : Prop :=
  ∀ w', Fr (One blk) w0 w' → ∀ x y, Ok x → Ok y → Calls Try.prog 24 #[.agg #[.int .i64 (x).1, .int .i64 (x).2], .agg #[.int .i64 (y).1, .int .i64 (y).2], .pointer (some ⟨bx, 0, none⟩)] w' fun e w2 => e = .returned (.int .i64 (c3 (key x) (key y))) ∧ Below w'.heap.size w' w2
theorem Cmp.at {bx blk n : Nat} {Ok : Pr → Prop} {key : Pr → Int} {w0 w : World} {f : Nat → Pr} (h : Cmp bx blk Ok key w0) (S : Rw blk n Ok w0 w f) {x y : Pr} (hx : Ok x) (hy : Ok y) (xx : Wd (Below w.heap.size w)) :
    Calls Try.prog 24 #[.agg #[.int .i64 (x).1, .int .i64 (x).2], .agg #[.int .i64 (y).1, .int .i64 (y).2], .pointer (some ⟨bx, 0, none⟩)] xx.w fun e w2 => e = .returned (.int .i64 (c3 (key x) (key y))) ∧ ∃ yy : Wd (Below w.heap.size w), w2 = yy.w := calls_in (Nat.le_refl _) xx (h _ (S.up xx.ok).fr x y hx hy)
set_option maxHeartbeats 4000000 in
theorem insertion_any (bx blk n cap a b : Nat) (Ok : Pr → Prop) (key : Pr → Int) (f : Nat → Pr) (w0 w : World) (hC : Cmp bx blk Ok key w0) (S : Rw blk n Ok w0 w f) (h1 : a ≤ b) (h2 : b ≤ n) (hn : n < 1099511627776) :
    Calls Try.prog 28 #[.slice (some ⟨blk, 0, none⟩) n cap, .int .i64 a, .int .i64 b, .func (.func 24) #[] #[.pointer (some ⟨bx, 0, none⟩)]] w fun e w' => e = .returned (.tuple #[]) ∧ ∃ g, Rw blk n Ok w0 w' g ∧ Ps key a b f g ∧ Srt key g a b := by
  have S0 : Aside (Rw blk n Ok w0 w f) := S
  have HC : Aside (Cmp bx blk Ok key w0) := hC
  clear S hC
  go_enter Try.func28, Try.ntmps28
  go_wp2
  go_loopg [8] (b - a) (fun g1 vi wr => ∃ (i : Nat) (g : Nat → Pr), vi = .int .i64 i ∧ a < i ∧ i ≤ b + 1 ∧ b + 1 - i ≤ g1 + 1 ∧ Aside (Rw blk n Ok w0 wr g) ∧ Aside (Ps key a b f g) ∧ Aside (Srt key g a i))
  case atStart => exact ⟨a + 1, f, by first | rfl | go_num, by omega, by omega, by omega, S0, Ps.refl _ _ _ _, Srt.few key f (by omega)⟩
  case round =>
    clear S0
    obtain ⟨i, g, rfl, hai, hib, hg1, S1, P1, O1⟩ := hrel
    by_cases hlt : i < b
    · have hltz : (i : Int) < (b : Int) := by omega
      go_wp2
      go_loopg [9] i (fun g2 vj wr2 => ∃ (j : Nat) (h : Nat → Pr), vj = .int .i64 j ∧ a ≤ j ∧ j ≤ i ∧ j ≤ g2 ∧ Aside (Rw blk n Ok w0 wr2 h) ∧ Aside (Ps key a b f h) ∧ Aside (Ins key h a i j))
      case atStart => exact ⟨i, g, rfl, by omega, Nat.le_refl _, Nat.le_refl _, S1, P1, Ins.start O1.out⟩
      case round =>
        clear S1 P1 O1
        obtain ⟨j, h, rfl, haj, hji, hg2, SJ, PJ, OJ⟩ := hrel
        by_cases hja : a < j
        · obtain ⟨jp, rfl⟩ : ∃ q, j = q + 1 := ⟨j - 1, by omega⟩
          have zj : ((jp + 1 : Nat) : Int) = (jp : Int) + 1 := by omega
          have hjaz : (a : Int) < (jp : Int) + 1 := by omega
          have hjad : decide ((jp : Int) + 1 > (a : Int)) = true := decide_eq_true (by omega)
          obtain ⟨p, hp⟩ : ∃ p, p = jp + 1 := ⟨_, rfl⟩
          have ea : ((jp : Int) + 1).toNat = p := by omega
          have pa : (0 : Int) ≤ (jp : Int) + 1 := by omega
          have ba : (jp : Int) + 1 < (n : Int) := by omega
          have ra : IntKind.i64.wrap ((jp : Int) + 1) = (jp : Int) + 1 := by rw [IntKind.wrap_i64]; omega
          have eb : ((jp : Int)).toNat = jp := by omega
          have pb : (0 : Int) ≤ (jp : Int) := by omega
          have bb : (jp : Int) < (n : Int) := by omega
          have rb : IntKind.i64.wrap ((jp : Int)) = (jp : Int) := by rw [IntKind.wrap_i64]; omega
          obtain ⟨x, hx⟩ : ∃ x, x = h p := ⟨_, rfl⟩
          obtain ⟨y, hy⟩ : ∃ y, y = h jp := ⟨_, rfl⟩
          have ca := SJ.out.q p (by omega)
          have da := SJ.out.r p (by omega)
          have cb := SJ.out.q jp (by omega)
          have db := SJ.out.r jp (by omega)
          rw [← hx] at ca da
          rw [← hy] at cb db
          have hcm : Hid _ := HC.out.at SJ.out (x := x) (y := y) (by rw [hx]; exact SJ.out.ok p (by omega)) (by rw [hy]; exact SJ.out.ok jp (by omega))
          obtain ⟨cf, hcf⟩ : ∃ c, c = c3 (key x) (key y) := ⟨_, rfl⟩
          rw [← hcf] at hcm
          by_cases hlv : key x < key y
          · have hd : decide (cf < 0) = true := decide_eq_true (by rw [hcf]; exact c3_lt.2 hlv)
            have hv : cf < 0 := of_decide_eq_true hd
            have A : Aside (Ins key (swp h p jp) a i jp ∧ x = h p ∧ y = h jp ∧ p = jp + 1 ∧ key (h p) < key (h jp)) := by
              refine ⟨?_, hx, hy, hp, by rw [← hx, ← hy]; exact hlv⟩
              have := OJ.out.step (by omega) hji (by rw [Nat.add_sub_cancel, ← hp, ← hx, ← hy]; exact hlv)
              rw [Nat.add_sub_cancel, ← hp] at this
              exact this
            clear hx hy hp hcf hlv OJ
            go_wp2_with fail
            haveI inst : Nonempty (Wd (Below wr.heap.size wr)) := ⟨⟨wr, Below.refl _ _⟩⟩
            refine wp_region_in (Below wr.heap.size wr) (by kernel_rfl) (by kernel_rfl) ((Below.refl _ _).drew) ?_
            repeat (first | go_big_quiet_step ((go_at_call 24; exact hcm.out _)))
            refine wpQuiet_nil ?_
            rintro _ ⟨x0, rfl⟩
            have S2 : Aside (Rw blk n Ok w0 x0.w h) := SJ.out.up x0.ok
            clear ca cb da db SJ hcm inst
            generalize x0.w = w2 at S2 ⊢
            clear x0
            obtain ⟨A1, hx, hy, hp, hkk⟩ := A.out
            have S3 : Aside (Rw blk n Ok w0 (set2 (set2 w2 blk p y) blk jp x).drew (swp h p jp)) := by
              rw [hx, hy]; exact S2.out.swap (by omega) (by omega)
            have P3 : Aside (Ps key a b f (swp h p jp)) := PJ.out.trans (Ps.swp h hp (by omega) (by omega) hkk)
            have A2 : Aside (Ins key (swp h p jp) a i jp) := A1
            have ca := S2.out.c p (by omega)
            have da := S2.out.d p (by omega)
            have cb := S2.out.c jp (by omega)
            have db := S2.out.d jp (by omega)
            have fa := S2.out.z (p * 2)
            have ga := S2.out.z (p * 2 + 1)
            have fb := S2.out.z (jp * 2)
            have gb := S2.out.z (jp * 2 + 1)
            obtain ⟨u, u2, cc, dc⟩ := S2.out.c2 (i := p) (j := jp) (by omega) (by omega) y (by rw [hy]; exact S2.out.ok _ (by omega))
            rw [← hx] at ca da
            rw [← hy] at cb db
            clear S2 hx hy hp hkk A A1 PJ
            go_wp2_with fail
            go_region
            clear ca cb cc fa fb da db dc ga gb
            generalize (set2 (set2 w2 blk p y) blk jp x).drew = w3 at S3 ⊢
            clear ea eb
            go_wp2
            go_roundg jp
            case measure => omega
            case rel => exact ⟨jp, swp h p jp, by first | rfl | go_num | (congr 1; omega), by omega, by omega, Nat.le_refl _, S3, P3, A2⟩
          · have hd : decide (cf < 0) = false := decide_eq_false (by rw [hcf]; exact fun hh => hlv (c3_lt.1 hh))
            have hv : ¬ cf < 0 := of_decide_eq_false hd
            have A : Aside (Srt key h a (i + 1)) := OJ.out.stop hja hji (by rw [Nat.add_sub_cancel, ← hp, ← hx, ← hy]; exact hlv)
            clear hx hy hp hcf hlv OJ
            go_wp2_with fail
            haveI inst : Nonempty (Wd (Below wr.heap.size wr)) := ⟨⟨wr, Below.refl _ _⟩⟩
            refine wp_region_in (Below wr.heap.size wr) (by kernel_rfl) (by kernel_rfl) ((Below.refl _ _).drew) ?_
            repeat (first | go_big_quiet_step ((go_at_call 24; exact hcm.out _)))
            refine wpQuiet_nil ?_
            rintro _ ⟨x0, rfl⟩
            have S2 : Aside (Rw blk n Ok w0 x0.w h) := SJ.out.up x0.ok
            clear ca cb da db SJ hcm inst
            generalize x0.w = w2 at S2 ⊢
            clear x0
            clear ea eb
            go_wp2
            go_roundg (b - (i + 1))
            case measure => omega
            case rel => exact ⟨i + 1, h, by go_num, by omega, by omega, by omega, S2, PJ, A⟩
        · have hjad : decide ((j : Int) > (a : Int)) = false := decide_eq_false (by omega)
          have hjaz : ¬ (a : Int) < (j : Int) := by omega
          have A : Aside (Srt key h a (i + 1)) := OJ.out.low (by omega)
          clear OJ
          go_wp2_with fail
          go_quiet (fail)
          have S2 : Aside (Rw blk n Ok w0 (wr.drewN nq) h) := SJ.out.drewN nq
          clear SJ
          generalize wr.drewN nq = w2 at S2 ⊢
          clear nq
          go_wp2
          go_roundg (b - (i + 1))
          case measure => omega
          case rel => exact ⟨i + 1, h, by go_num, by omega, by omega, by omega, S2, PJ, A⟩
    · have hltz : ¬ (i : Int) < (b : Int) := by omega
      go_wp2
      go_end0
      exact ⟨rfl, g, S1.out, P1.out, O1.out.sub (Nat.le_refl _) (by omega)⟩
end Go.Proofs.Ytnfnjhaaaenldaa.Sp
