/- A row is put into the order of its rounds (sortRising and what it calls), read off the program by the walk. Conditions: the row lies in memory. -/
import Derived.Test.YtnfnjhaaaenldaaMe
namespace Go.Proofs.Ytnfnjhaaaenldaa.Ro
open Go.ChangeShapes Go.WideShapes Go.ChangeAt Go.RowKit
open _root_.Go.Proofs.Ytnfnjhaaaenldaa.Op _root_.Go.Proofs.Ytnfnjhaaaenldaa.So
open _root_.Go.Proofs.Ytnfnjhaaaenldaa.Sp (Pr)
open _root_.Go.Proofs.Ytnfnjhaaaenldaa.Ss
set_option maxRecDepth 20000

theorem compare_any (x y : Int) (w : World) : Calls Try.prog 25 #[.int .i64 x, .int .i64 y] w fun e w' => e = .returned (.int .i64 (c3 x y)) ∧ w' = w := by
  unfold c3
  by_cases h : x < y
  · rw [if_pos h]
    go_enter Try.func25, Try.ntmps25
    go_wp2
    go_ret
    exact ⟨rfl, rfl⟩
  · rw [if_neg h]
    by_cases h' : y < x
    · rw [if_pos h']
      go_enter Try.func25, Try.ntmps25
      go_wp2
      go_ret
      exact ⟨rfl, rfl⟩
    · rw [if_neg h']
      go_enter Try.func25, Try.ntmps25
      go_wp2
      go_ret
      exact ⟨rfl, rfl⟩
theorem meas_any (x : Pr) (w : World) : Calls Try.prog 21 #[.agg #[.int .i64 x.1, .int .i64 x.2]] w fun e w' => e = .returned (.int .i64 x.2) ∧ Below w.heap.size w w' := by
  go_enter Try.func21, Try.ntmps21
  go_wp2
  go_ret
  exact ⟨rfl, (Below.refl _ _).alloc (Nat.le_refl _) _⟩
set_option maxHeartbeats 2000000 in
theorem cmpP_any {bx blk : Nat} {w0 : World} (hb : w0.cell? ⟨bx, 0, none⟩ = some (.func (.func 21) #[] #[])) (hlt : bx < w0.heap.size) (hne : bx ≠ blk) : Sp.Cmp bx blk (fun _ => True) (fun x => x.2) w0 := by
  intro w' hF x y _ _
  have cb : w'.cell? ⟨bx, 0, none⟩ = some (.func (.func 21) #[] #[]) := by rw [hF.cell hlt hne]; exact hb
  have hl : bx < w'.heap.size := Nat.lt_of_lt_of_le hlt hF.size
  have HA : Hid (At ((w'.alloc (.cells #[.int .i64 x.1, .int .i64 x.2] 37)).alloc (.cells #[.int .i64 y.1, .int .i64 y.2] 37)) w'.heap.size #[.int .i64 x.1, .int .i64 x.2]) := (At.new w' _ 37).alloc _
  have HC : Hid (At ((w'.alloc (.cells #[.int .i64 x.1, .int .i64 x.2] 37)).alloc (.cells #[.int .i64 y.1, .int .i64 y.2] 37)) (w'.heap.size + 1) #[.int .i64 y.1, .int .i64 y.2]) := by
    have := At.new (w'.alloc (.cells #[.int .i64 x.1, .int .i64 x.2] 37)) #[.int .i64 y.1, .int .i64 y.2] 37
    rwa [World.size_alloc] at this
  have HU : Hid (Below w'.heap.size w' ((w'.alloc (.cells #[.int .i64 x.1, .int .i64 x.2] 37)).alloc (.cells #[.int .i64 y.1, .int .i64 y.2] 37))) := ((Below.refl _ _).alloc (Nat.le_refl _) _).alloc (by simp) _
  clear hF hb hlt hne
  go_enter Try.func24, Try.ntmps24
  go_wp2_with fail
  generalize (w'.alloc (.cells #[.int .i64 x.1, .int .i64 x.2] 37)).alloc (.cells #[.int .i64 y.1, .int .i64 y.2] 37) = V at *
  have q0 : ∀ xx : Wd (Below V.heap.size V), xx.w.cell? ⟨bx, 0, none⟩ = some (.func (.func 21) #[] #[]) := fun xx => by
    rw [(bcell xx.ok).1 _ _ (Nat.lt_of_lt_of_le hl HU.out.size), (bcell HU.out).1 _ _ hl]; exact cb
  have q1 : ∀ xx : Wd (Below V.heap.size V), xx.w.cell? ⟨w'.heap.size, 0, none⟩ = some (.int .i64 x.1) := fun xx => (HA.out.below xx.ok HA.out.lt).c 0 _ rfl
  have q2 : ∀ xx : Wd (Below V.heap.size V), xx.w.cell? ⟨w'.heap.size, 1, none⟩ = some (.int .i64 x.2) := fun xx => (HA.out.below xx.ok HA.out.lt).c 1 _ rfl
  have q3 : ∀ xx : Wd (Below V.heap.size V), xx.w.cell? ⟨w'.heap.size + 1, 0, none⟩ = some (.int .i64 y.1) := fun xx => (HC.out.below xx.ok HC.out.lt).c 0 _ rfl
  have q4 : ∀ xx : Wd (Below V.heap.size V), xx.w.cell? ⟨w'.heap.size + 1, 1, none⟩ = some (.int .i64 y.2) := fun xx => (HC.out.below xx.ok HC.out.lt).c 1 _ rfl
  haveI inst : Nonempty (Wd (Below V.heap.size V)) := ⟨⟨V, Below.refl _ _⟩⟩
  refine wp_region_in (Below V.heap.size V) (by kernel_rfl) (by kernel_rfl) ((Below.refl _ _).drew) ?_
  repeat (first | go_big_quiet_step ((first
    | (go_at_call 21; first | exact calls_in (Nat.le_refl _) _ (meas_any x _) | exact calls_in (Nat.le_refl _) _ (meas_any y _))
    | (go_at_call 25; exact calls_in (Nat.le_refl _) _ ((compare_any _ _ _).mono fun _ _ h => ⟨h.1, by rw [h.2]; exact Below.refl _ _⟩)))))
  refine wpQuiet_nil ?_
  rintro _ ⟨x0, rfl⟩
  have hx := x0.ok
  clear q0 q1 q2 q3 q4
  go_wp2
  go_ret
  exact ⟨rfl, HU.out.trans (hx.mono HU.out.size)⟩
theorem stable_nil (cv : Value) (w : World) : Calls Try.prog 26 #[.slice none 0 0, .int .i64 0, cv] w fun e w' => e = .returned (.tuple #[]) ∧ w' = w := by
  have H : Hid (∀ W : World, Calls Try.prog 28 #[.slice none 0 0, .int .i64 0, .int .i64 0, cv] W fun e w' => e = .returned (.tuple #[]) ∧ w' = W) := fun W => by
    go_enter Try.func28, Try.ntmps28
    go_wp2
    go_loopw [8] (fun v wr => v = .int .i64 1 ∧ wr = W) (fun _ _ => 0)
    case atStart => exact ⟨rfl, rfl⟩
    case round =>
      obtain ⟨rfl, rfl⟩ := hrel
      go_wp2
      go_end0
      exact ⟨rfl, rfl⟩
  go_enter Try.func26, Try.ntmps26
  go_wp2
  go_loopw [7, 8] (fun v u wr => v = .int .i64 0 ∧ u = .int .i64 20 ∧ wr = w) (fun _ _ _ => 0)
  case atStart => exact ⟨rfl, rfl, rfl⟩
  case round =>
    obtain ⟨rfl, rfl, rfl⟩ := hrel
    go_wp2_with (first | (go_at_call 28; refine (H.out _).mono ?_; rintro e w1 ⟨rfl, rfl⟩))
    go_loopw [6] (fun v wr => v = .int .i64 20 ∧ wr = w1) (fun _ _ => 0)
    case atStart => exact ⟨rfl, rfl⟩
    case round =>
      obtain ⟨rfl, rfl⟩ := hrel
      go_wp2
      go_end0
      exact ⟨rfl, rfl⟩
theorem sort_nil (cv : Value) (w : World) : Calls Try.prog 23 #[.slice none 0 0, cv] w fun e w' => e = .returned (.tuple #[]) ∧ w' = w := by
  go_enter Try.func23, Try.ntmps23
  go_wp2_with (first | (go_at_call 26; refine (stable_nil _ _).mono ?_; rintro e w1 ⟨rfl, rfl⟩))
  go_end0
  exact ⟨rfl, rfl⟩
theorem rise_nil (w : World) : Calls Try.prog 20 #[.slice none 0 0, .func (.func 21) #[] #[]] w fun e w' => e = .returned (.tuple #[]) ∧ Below w.heap.size w w' := by
  go_enter Try.func20, Try.ntmps20
  go_wp2_with (first | (go_at_call 23; refine (sort_nil _ _).mono ?_; rintro e w1 ⟨rfl, rfl⟩))
  go_end0
  exact ⟨rfl, (Below.refl _ _).alloc (Nat.le_refl _) _⟩
theorem rise_any (blk n cap : Nat) (f : Nat → Pr) (w : World) (S : Sp.Rw blk n (fun _ => True) w w f) (hn : n < 1099511627776) :
    Calls Try.prog 20 #[.slice (some ⟨blk, 0, none⟩) n cap, .func (.func 21) #[] #[]] w fun e w' => e = .returned (.tuple #[]) ∧ ∃ g, Sp.Rw blk n (fun _ => True) w w' g ∧ Ps (fun x : Pr => x.2) 0 n f g ∧ Srt (fun x : Pr => x.2) g 0 n := by
  have hl := S.lt
  have up : Below w.heap.size w (w.alloc (.cells #[.func (.func 21) #[] #[]] 44)) := (Below.refl _ _).alloc (Nat.le_refl _) _
  have S1 : Sp.Rw blk n (fun _ => True) (w.alloc (.cells #[.func (.func 21) #[] #[]] 44)) (w.alloc (.cells #[.func (.func 21) #[] #[]] 44)) f := by
    have := S.up up
    exact ⟨Fr.refl _ _, by simp; omega, this.c, this.d, this.z, this.ok⟩
  have HS : Hid _ := Sp.sort_any w.heap.size blk n cap (fun _ => True) (fun x => x.2) f (w.alloc (.cells #[.func (.func 21) #[] #[]] 44)) (w.alloc (.cells #[.func (.func 21) #[] #[]] 44)) (cmpP_any (by simp) (by simp) (by omega)) S1 hn
  have HF : Hid (∀ W g, Sp.Rw blk n (fun _ => True) (w.alloc (.cells #[.func (.func 21) #[] #[]] 44)) W g → Sp.Rw blk n (fun _ => True) w W g) := fun W g h => ⟨(Fr.of up).same h.fr, hl, h.c, h.d, h.z, h.ok⟩
  clear S S1 up
  go_enter Try.func20, Try.ntmps20
  go_wp2_with (first | (go_at_call 23; refine Calls.mono HS.out ?_; rintro e w1 ⟨rfl, g, hS, hP, hO⟩; have HR : Hid (Sp.Rw blk n (fun _ => True) w w1 g ∧ Ps (fun x : Pr => x.2) 0 n f g ∧ Srt (fun x : Pr => x.2) g 0 n) := ⟨HF.out _ _ hS, hP, hO⟩; clear hS hP hO HS HF))
  go_end0
  exact ⟨rfl, g, HR.out⟩
end Go.Proofs.Ytnfnjhaaaenldaa.Ro
