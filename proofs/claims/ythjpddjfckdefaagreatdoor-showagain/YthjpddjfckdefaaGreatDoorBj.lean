/- What package parse's reader answers of a block that ends in a jump, a branch or a halt (block): read off the program by the walk. Conditions: the reader's state lies in memory, the variables as the program lays them. -/
import Derived.Test.YthjpddjfckdefaaGreatDoorBl
namespace Go.Proofs.YthjpddjfckdefaaGreatDoor.Pr
open Go.ChangeShapes Go.WideShapes Go.ChangeAt Go.RowKit
open _root_.Go.Proofs.YthjpddjfckdefaaGreatDoor.Op
set_option maxRecDepth 20000

set_option maxHeartbeats 4000000 in
theorem block_jump (qa qt mb : Nat) (s : ByteArray) (ls ls' : List Ln) (os : List O) (x : Wd') (r : List Wd') (en : Nat) (w : World) (h : Rd w qa qt mb s ls) (hO : opsR s.size ls = .ok (os, ⟨x :: r, en⟩, ls')) (hx : x.2 = [106, 117, 109, 112]) :
    Calls Tryz.prog 42 #[rdV qa qt mb] w (Does (One qa) ((numR ⟨r, en⟩).bind fun x1 => (closeR x1.2).bind fun _ => .ok (⟨os, 0, 0, [], x1.1, 0⟩, ls')) (BlPost w qa qt mb s) w) := by
  have HR : Hid (Rd ((w.alloc (.cells #[nextV qa qt, .map (some mb)] 80)).alloc (.cells bz6 43)) qa qt mb s ls) := (h.up ((Below.refl _ _).alloc (Nat.le_refl _) _)).up ((Below.refl _ _).alloc (Nat.le_refl _) _)
  have hm : mb < w.heap.size := h.m.lt
  have hw9 : 7 ≤ w.heap.size := h.v.e.big
  have H0 : Hid (OpsC qa qt mb s ls (os, ⟨x :: r, en⟩, ls')) := opsC hO
  have HT : Hid (∀ q, TakC q x r en) := fun q V hl => take_ok q en x r V hl
  obtain ⟨xa, xt⟩ := x
  simp only at hx
  subst hx
  clear h hO
  unfold rdV nextV
  unfold nextV at HR
  cases e1 : numR ⟨r, en⟩ with
  | no fl =>
    have H1 : Hid (∀ q, 7 ≤ q → TarP q ⟨r, en⟩ fl) := fun q hq => tarP hq e1
    rw [R.bind_no]
    clear e1
    go_enter Tryz.func42, Tryz.ntmps42
    go_wp2_with (first
      | (go_at_call 53; refine Calls.mono (H0.out _ HR.out) ?_; rintro e w1 ⟨a, c, q, rfl, hrow, hrq, hok, hlen, hL, hrd, hq, hF⟩; have HS : Hid (Bs w (w1.alloc (.cells #[.slice a os.length c, .int .i8 0, .int .u8 0, .slice none 0 0, .int .i64 0, .int .i64 0] 43)) qa qt mb s ls' w1.heap.size ⟨os, 0, 0, [], 0, 0⟩ ⟨a, c, none, 0⟩ q ⟨(xa, [106, 117, 109, 112]) :: r, en⟩) := Bs.start hm (row_le hrow (by simp)) hrq hL hrd (by simpa using hq) hF; have hq9 : 7 ≤ q := (by simp at hq; omega); clear hrow hrq hok hlen hL hrd hq hF H0 HR)
      | (go_at_call 54; refine Calls.mono (HT.out q _ HS.out.l) ?_; rintro e w2 ⟨rfl, hL, hF⟩; have HS2 : Hid (Bs w (w2.alloc (.cells #[.int .i64 (xa : Int), .string ⟨#[106, 117, 109, 112]⟩] 108)) qa qt mb s ls' w1.heap.size ⟨os, 0, 0, [], 0, 0⟩ ⟨a, c, none, 0⟩ q ⟨r, en⟩) := (HS.out.line hL hF).go ((Below.refl _ _).alloc (Nat.le_refl _) _); clear HS hL hF HT; have HS : Hid _ := HS2.out; clear HS2)
      | (go_at_call 55; refine Calls.mono (H1.out q hq9 _ HS.out.l HS.out.t.rd.v) ?_; rintro e wp hp; have HP : Hid _ := hp.after HS.out.t.fr (fun k hk hy => by have := HS.out.lq; subst hy; omega); obtain ⟨fq, rfl, hp⟩ := hp; clear hp))
    exact ⟨rfl, HP.out⟩
  | ok x1 =>
    have H1 : Hid (∀ q, 7 ≤ q → TarC q ⟨r, en⟩ x1) := fun q hq => tarC hq e1
    rw [R.bind_ok]
    cases e2 : closeR x1.2 with
    | no fl =>
      have H2 : Hid (∀ q, CloP q x1.2 fl) := fun q => cloP e2
      rw [R.bind_no]
      clear e1 e2
      go_enter Tryz.func42, Tryz.ntmps42
      go_wp2_with (first
        | (go_at_call 53; refine Calls.mono (H0.out _ HR.out) ?_; rintro e w1 ⟨a, c, q, rfl, hrow, hrq, hok, hlen, hL, hrd, hq, hF⟩; have HS : Hid (Bs w (w1.alloc (.cells #[.slice a os.length c, .int .i8 0, .int .u8 0, .slice none 0 0, .int .i64 0, .int .i64 0] 43)) qa qt mb s ls' w1.heap.size ⟨os, 0, 0, [], 0, 0⟩ ⟨a, c, none, 0⟩ q ⟨(xa, [106, 117, 109, 112]) :: r, en⟩) := Bs.start hm (row_le hrow (by simp)) hrq hL hrd (by simpa using hq) hF; have hq9 : 7 ≤ q := (by simp at hq; omega); clear hrow hrq hok hlen hL hrd hq hF H0 HR)
        | (go_at_call 54; refine Calls.mono (HT.out q _ HS.out.l) ?_; rintro e w2 ⟨rfl, hL, hF⟩; have HS2 : Hid (Bs w (w2.alloc (.cells #[.int .i64 (xa : Int), .string ⟨#[106, 117, 109, 112]⟩] 108)) qa qt mb s ls' w1.heap.size ⟨os, 0, 0, [], 0, 0⟩ ⟨a, c, none, 0⟩ q ⟨r, en⟩) := (HS.out.line hL hF).go ((Below.refl _ _).alloc (Nat.le_refl _) _); clear HS hL hF HT; have HS : Hid _ := HS2.out; clear HS2)
        | (go_at_call 55; refine Calls.mono (H1.out q hq9 _ HS.out.l HS.out.t.rd.v) ?_; rintro e w3 ⟨rfl, hL, hF⟩; have HU : Hid _ := HS.out.line hL hF; clear HS hL hF H1; have f1 := HU.out.t.b.f 1; have f4 := HU.out.t.b.f 4; obtain ⟨s0, s1, s2, s3, s4, s5⟩ := HU.out.t.b6; simp only at s0 s1 s2 s3 s4 s5; have HS : Hid (Bs w ((w3.setCell ⟨w1.heap.size, 1, none⟩ (.int .i8 0)).setCell ⟨w1.heap.size, 4, none⟩ (.int .i64 x1.1)) qa qt mb s ls' w1.heap.size ⟨os, 0, 0, [], x1.1, 0⟩ ⟨a, c, none, 0⟩ q x1.2) := ((HU.out.set 1 _ ⟨os, 0, 0, [], 0, 0⟩ (by omega) rfl rfl rfl).set 4 _ ⟨os, 0, 0, [], x1.1, 0⟩ (by omega) rfl rfl rfl); clear HU)
        | (go_at_call 52; refine Calls.mono (H2.out q _ HS.out.l) ?_; rintro e wp hp; have HP : Hid _ := hp.after HS.out.t.fr (fun k hk hy => by have := HS.out.lq; subst hy; omega); obtain ⟨fq, rfl, hp⟩ := hp; clear hp))
      exact ⟨rfl, HP.out⟩
    | ok u =>
      have H2 : Hid (∀ q, CloC q x1.2) := fun q => cloC e2
      rw [R.bind_ok]
      clear e1 e2
      go_enter Tryz.func42, Tryz.ntmps42
      go_wp2_with (first
        | (go_at_call 53; refine Calls.mono (H0.out _ HR.out) ?_; rintro e w1 ⟨a, c, q, rfl, hrow, hrq, hok, hlen, hL, hrd, hq, hF⟩; have HS : Hid (Bs w (w1.alloc (.cells #[.slice a os.length c, .int .i8 0, .int .u8 0, .slice none 0 0, .int .i64 0, .int .i64 0] 43)) qa qt mb s ls' w1.heap.size ⟨os, 0, 0, [], 0, 0⟩ ⟨a, c, none, 0⟩ q ⟨(xa, [106, 117, 109, 112]) :: r, en⟩) := Bs.start hm (row_le hrow (by simp)) hrq hL hrd (by simpa using hq) hF; have hq9 : 7 ≤ q := (by simp at hq; omega); clear hrow hrq hok hlen hL hrd hq hF H0 HR)
        | (go_at_call 54; refine Calls.mono (HT.out q _ HS.out.l) ?_; rintro e w2 ⟨rfl, hL, hF⟩; have HS2 : Hid (Bs w (w2.alloc (.cells #[.int .i64 (xa : Int), .string ⟨#[106, 117, 109, 112]⟩] 108)) qa qt mb s ls' w1.heap.size ⟨os, 0, 0, [], 0, 0⟩ ⟨a, c, none, 0⟩ q ⟨r, en⟩) := (HS.out.line hL hF).go ((Below.refl _ _).alloc (Nat.le_refl _) _); clear HS hL hF HT; have HS : Hid _ := HS2.out; clear HS2)
        | (go_at_call 55; refine Calls.mono (H1.out q hq9 _ HS.out.l HS.out.t.rd.v) ?_; rintro e w3 ⟨rfl, hL, hF⟩; have HU : Hid _ := HS.out.line hL hF; clear HS hL hF H1; have f1 := HU.out.t.b.f 1; have f4 := HU.out.t.b.f 4; obtain ⟨s0, s1, s2, s3, s4, s5⟩ := HU.out.t.b6; simp only at s0 s1 s2 s3 s4 s5; have HS : Hid (Bs w ((w3.setCell ⟨w1.heap.size, 1, none⟩ (.int .i8 0)).setCell ⟨w1.heap.size, 4, none⟩ (.int .i64 x1.1)) qa qt mb s ls' w1.heap.size ⟨os, 0, 0, [], x1.1, 0⟩ ⟨a, c, none, 0⟩ q x1.2) := ((HU.out.set 1 _ ⟨os, 0, 0, [], 0, 0⟩ (by omega) rfl rfl rfl).set 4 _ ⟨os, 0, 0, [], x1.1, 0⟩ (by omega) rfl rfl rfl); clear HU)
        | (go_at_call 52; refine Calls.mono (H2.out q _ HS.out.l) ?_; rintro e w' ⟨rfl, hw⟩; subst w'; clear H2; (try clear s0 s1 s2 s3 s4 s5); obtain ⟨s0, s1, s2, s3, s4, s5⟩ := HS.out.t.b6; obtain ⟨r0, r1, r2, r3, r4, r5⟩ := HS.out.t.r6; have t0 := HS.out.t.rr.f 0; have t1 := HS.out.t.rr.f 1; have t2 := HS.out.t.rr.f 2; have t3 := HS.out.t.rr.f 3; have t4 := HS.out.t.rr.f 4; have t5 := HS.out.t.rr.f 5; simp only at s0 s1 s2 s3 s4 s5))
      refine bodyPost_ret (v := Bk.val ⟨os, 0, 0, [], x1.1, 0⟩ ⟨a, c, none, 0⟩) (by simp [results, Tryz.results42, go_sem, r0, r1, r2, r3, r4, r5]) rfl ?_
      have hz := HS.out.t.z
      refine Bz.post ?_
      iterate 6 (refine Bz.set ?_ _ _)
      exact hz
set_option maxHeartbeats 4000000 in
theorem block_halt (qa qt mb : Nat) (s : ByteArray) (ls ls' : List Ln) (os : List O) (x : Wd') (r : List Wd') (en : Nat) (w : World) (h : Rd w qa qt mb s ls) (hO : opsR s.size ls = .ok (os, ⟨x :: r, en⟩, ls')) (hx : x.2 = [104, 97, 108, 116]) :
    Calls Tryz.prog 42 #[rdV qa qt mb] w (Does (One qa) ((regR ⟨r, en⟩).bind fun x1 => (closeR x1.2).bind fun _ => .ok (⟨os, 2, x1.1, [], 0, 0⟩, ls')) (BlPost w qa qt mb s) w) := by
  have HR : Hid (Rd ((w.alloc (.cells #[nextV qa qt, .map (some mb)] 80)).alloc (.cells bz6 43)) qa qt mb s ls) := (h.up ((Below.refl _ _).alloc (Nat.le_refl _) _)).up ((Below.refl _ _).alloc (Nat.le_refl _) _)
  have hm : mb < w.heap.size := h.m.lt
  have hw9 : 7 ≤ w.heap.size := h.v.e.big
  have H0 : Hid (OpsC qa qt mb s ls (os, ⟨x :: r, en⟩, ls')) := opsC hO
  have HT : Hid (∀ q, TakC q x r en) := fun q V hl => take_ok q en x r V hl
  obtain ⟨xa, xt⟩ := x
  simp only at hx
  subst hx
  clear h hO
  unfold rdV nextV
  unfold nextV at HR
  cases e1 : regR ⟨r, en⟩ with
  | no fl =>
    have H1 : Hid (∀ q, 7 ≤ q → RegP q ⟨r, en⟩ fl) := fun q hq => regP hq e1
    rw [R.bind_no]
    clear e1
    go_enter Tryz.func42, Tryz.ntmps42
    go_wp2_with (first
      | (go_at_call 53; refine Calls.mono (H0.out _ HR.out) ?_; rintro e w1 ⟨a, c, q, rfl, hrow, hrq, hok, hlen, hL, hrd, hq, hF⟩; have HS : Hid (Bs w (w1.alloc (.cells #[.slice a os.length c, .int .i8 0, .int .u8 0, .slice none 0 0, .int .i64 0, .int .i64 0] 43)) qa qt mb s ls' w1.heap.size ⟨os, 0, 0, [], 0, 0⟩ ⟨a, c, none, 0⟩ q ⟨(xa, [104, 97, 108, 116]) :: r, en⟩) := Bs.start hm (row_le hrow (by simp)) hrq hL hrd (by simpa using hq) hF; have hq9 : 7 ≤ q := (by simp at hq; omega); clear hrow hrq hok hlen hL hrd hq hF H0 HR)
      | (go_at_call 54; refine Calls.mono (HT.out q _ HS.out.l) ?_; rintro e w2 ⟨rfl, hL, hF⟩; have HS2 : Hid (Bs w (w2.alloc (.cells #[.int .i64 (xa : Int), .string ⟨#[104, 97, 108, 116]⟩] 108)) qa qt mb s ls' w1.heap.size ⟨os, 0, 0, [], 0, 0⟩ ⟨a, c, none, 0⟩ q ⟨r, en⟩) := (HS.out.line hL hF).go ((Below.refl _ _).alloc (Nat.le_refl _) _); clear HS hL hF HT; have HS : Hid _ := HS2.out; clear HS2)
      | (go_at_call 56; refine Calls.mono (H1.out q hq9 _ HS.out.l HS.out.t.rd.v) ?_; rintro e wp hp; have HP : Hid _ := hp.after HS.out.t.fr (fun k hk hy => by have := HS.out.lq; subst hy; omega); obtain ⟨fq, rfl, hp⟩ := hp; clear hp))
    exact ⟨rfl, HP.out⟩
  | ok x1 =>
    have H1 : Hid (∀ q, 7 ≤ q → RegC q ⟨r, en⟩ x1) := fun q hq => regC hq e1
    rw [R.bind_ok]
    cases e2 : closeR x1.2 with
    | no fl =>
      have H2 : Hid (∀ q, CloP q x1.2 fl) := fun q => cloP e2
      rw [R.bind_no]
      clear e1 e2
      go_enter Tryz.func42, Tryz.ntmps42
      go_wp2_with (first
        | (go_at_call 53; refine Calls.mono (H0.out _ HR.out) ?_; rintro e w1 ⟨a, c, q, rfl, hrow, hrq, hok, hlen, hL, hrd, hq, hF⟩; have HS : Hid (Bs w (w1.alloc (.cells #[.slice a os.length c, .int .i8 0, .int .u8 0, .slice none 0 0, .int .i64 0, .int .i64 0] 43)) qa qt mb s ls' w1.heap.size ⟨os, 0, 0, [], 0, 0⟩ ⟨a, c, none, 0⟩ q ⟨(xa, [104, 97, 108, 116]) :: r, en⟩) := Bs.start hm (row_le hrow (by simp)) hrq hL hrd (by simpa using hq) hF; have hq9 : 7 ≤ q := (by simp at hq; omega); clear hrow hrq hok hlen hL hrd hq hF H0 HR)
        | (go_at_call 54; refine Calls.mono (HT.out q _ HS.out.l) ?_; rintro e w2 ⟨rfl, hL, hF⟩; have HS2 : Hid (Bs w (w2.alloc (.cells #[.int .i64 (xa : Int), .string ⟨#[104, 97, 108, 116]⟩] 108)) qa qt mb s ls' w1.heap.size ⟨os, 0, 0, [], 0, 0⟩ ⟨a, c, none, 0⟩ q ⟨r, en⟩) := (HS.out.line hL hF).go ((Below.refl _ _).alloc (Nat.le_refl _) _); clear HS hL hF HT; have HS : Hid _ := HS2.out; clear HS2)
        | (go_at_call 56; refine Calls.mono (H1.out q hq9 _ HS.out.l HS.out.t.rd.v) ?_; rintro e w3 ⟨rfl, hL, hF⟩; have HU : Hid _ := HS.out.line hL hF; clear HS hL hF H1; have f1 := HU.out.t.b.f 1; have f2 := HU.out.t.b.f 2; obtain ⟨s0, s1, s2, s3, s4, s5⟩ := HU.out.t.b6; simp only at s0 s1 s2 s3 s4 s5; have HS : Hid (Bs w ((w3.setCell ⟨w1.heap.size, 1, none⟩ (.int .i8 2)).setCell ⟨w1.heap.size, 2, none⟩ (.int .u8 (x1.1 : Int))) qa qt mb s ls' w1.heap.size ⟨os, 2, x1.1, [], 0, 0⟩ ⟨a, c, none, 0⟩ q x1.2) := ((HU.out.set 1 _ ⟨os, 2, 0, [], 0, 0⟩ (by omega) rfl rfl rfl).set 2 _ ⟨os, 2, x1.1, [], 0, 0⟩ (by omega) rfl rfl rfl); clear HU)
        | (go_at_call 52; refine Calls.mono (H2.out q _ HS.out.l) ?_; rintro e wp hp; have HP : Hid _ := hp.after HS.out.t.fr (fun k hk hy => by have := HS.out.lq; subst hy; omega); obtain ⟨fq, rfl, hp⟩ := hp; clear hp))
      exact ⟨rfl, HP.out⟩
    | ok u =>
      have H2 : Hid (∀ q, CloC q x1.2) := fun q => cloC e2
      rw [R.bind_ok]
      clear e1 e2
      go_enter Tryz.func42, Tryz.ntmps42
      go_wp2_with (first
        | (go_at_call 53; refine Calls.mono (H0.out _ HR.out) ?_; rintro e w1 ⟨a, c, q, rfl, hrow, hrq, hok, hlen, hL, hrd, hq, hF⟩; have HS : Hid (Bs w (w1.alloc (.cells #[.slice a os.length c, .int .i8 0, .int .u8 0, .slice none 0 0, .int .i64 0, .int .i64 0] 43)) qa qt mb s ls' w1.heap.size ⟨os, 0, 0, [], 0, 0⟩ ⟨a, c, none, 0⟩ q ⟨(xa, [104, 97, 108, 116]) :: r, en⟩) := Bs.start hm (row_le hrow (by simp)) hrq hL hrd (by simpa using hq) hF; have hq9 : 7 ≤ q := (by simp at hq; omega); clear hrow hrq hok hlen hL hrd hq hF H0 HR)
        | (go_at_call 54; refine Calls.mono (HT.out q _ HS.out.l) ?_; rintro e w2 ⟨rfl, hL, hF⟩; have HS2 : Hid (Bs w (w2.alloc (.cells #[.int .i64 (xa : Int), .string ⟨#[104, 97, 108, 116]⟩] 108)) qa qt mb s ls' w1.heap.size ⟨os, 0, 0, [], 0, 0⟩ ⟨a, c, none, 0⟩ q ⟨r, en⟩) := (HS.out.line hL hF).go ((Below.refl _ _).alloc (Nat.le_refl _) _); clear HS hL hF HT; have HS : Hid _ := HS2.out; clear HS2)
        | (go_at_call 56; refine Calls.mono (H1.out q hq9 _ HS.out.l HS.out.t.rd.v) ?_; rintro e w3 ⟨rfl, hL, hF⟩; have HU : Hid _ := HS.out.line hL hF; clear HS hL hF H1; have f1 := HU.out.t.b.f 1; have f2 := HU.out.t.b.f 2; obtain ⟨s0, s1, s2, s3, s4, s5⟩ := HU.out.t.b6; simp only at s0 s1 s2 s3 s4 s5; have HS : Hid (Bs w ((w3.setCell ⟨w1.heap.size, 1, none⟩ (.int .i8 2)).setCell ⟨w1.heap.size, 2, none⟩ (.int .u8 (x1.1 : Int))) qa qt mb s ls' w1.heap.size ⟨os, 2, x1.1, [], 0, 0⟩ ⟨a, c, none, 0⟩ q x1.2) := ((HU.out.set 1 _ ⟨os, 2, 0, [], 0, 0⟩ (by omega) rfl rfl rfl).set 2 _ ⟨os, 2, x1.1, [], 0, 0⟩ (by omega) rfl rfl rfl); clear HU)
        | (go_at_call 52; refine Calls.mono (H2.out q _ HS.out.l) ?_; rintro e w' ⟨rfl, hw⟩; subst w'; clear H2; (try clear s0 s1 s2 s3 s4 s5); obtain ⟨s0, s1, s2, s3, s4, s5⟩ := HS.out.t.b6; obtain ⟨r0, r1, r2, r3, r4, r5⟩ := HS.out.t.r6; have t0 := HS.out.t.rr.f 0; have t1 := HS.out.t.rr.f 1; have t2 := HS.out.t.rr.f 2; have t3 := HS.out.t.rr.f 3; have t4 := HS.out.t.rr.f 4; have t5 := HS.out.t.rr.f 5; simp only at s0 s1 s2 s3 s4 s5))
      refine bodyPost_ret (v := Bk.val ⟨os, 2, x1.1, [], 0, 0⟩ ⟨a, c, none, 0⟩) (by simp [results, Tryz.results42, go_sem, r0, r1, r2, r3, r4, r5]) rfl ?_
      have hz := HS.out.t.z
      refine Bz.post ?_
      iterate 6 (refine Bz.set ?_ _ _)
      exact hz
end Go.Proofs.YthjpddjfckdefaaGreatDoor.Pr
