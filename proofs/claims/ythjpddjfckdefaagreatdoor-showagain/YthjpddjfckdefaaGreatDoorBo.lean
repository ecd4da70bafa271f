/- What package parse's reader answers of a block that ends in a loop (block): read off the program by the walk. Conditions: the reader's state lies in memory, the variables as the program lays them. -/
import Derived.Test.YthjpddjfckdefaaGreatDoorBl
namespace Go.Proofs.YthjpddjfckdefaaGreatDoor.Pr
open Go.ChangeShapes Go.WideShapes Go.ChangeAt Go.RowKit
open _root_.Go.Proofs.YthjpddjfckdefaaGreatDoor.Op
set_option maxRecDepth 20000

abbrev BodC (qa qt mb : Nat) (s : ByteArray) (ls : List Ln) (x : List O × List Ln) : Prop := ∀ W, Rd W qa qt mb s ls → Calls Tryz.prog 57 #[.agg #[.func (.func 38) #[] #[.pointer (some ⟨qa, 0, none⟩), .pointer (some ⟨qt, 0, none⟩)], .map (some mb)]] W fun e w' => ∃ a c, e = .returned (.slice a x.1.length c) ∧ LRow w' W.heap.size a c x.1 ∧ (∀ o, o ∈ x.1 → o.Ok) ∧ x.1.length ≤ 65537 ∧ Rd w' qa qt mb s x.2 ∧ Fr (One qa) W w'
abbrev BodP (qa qt mb : Nat) (s : ByteArray) (ls : List Ln) (f : Wd') : Prop := ∀ W, Rd W qa qt mb s ls → Calls Tryz.prog 57 #[.agg #[.func (.func 38) #[] #[.pointer (some ⟨qa, 0, none⟩), .pointer (some ⟨qt, 0, none⟩)], .map (some mb)]] W fun e w' => Pan (One qa) f W e w'
theorem bodC {qa qt mb : Nat} {s : ByteArray} {ls : List Ln} {x : List O × List Ln} (h : bodyR s.size ls = .ok x) : BodC qa qt mb s ls x := fun W hr => by have := body_any qa qt mb s ls W hr; rw [h] at this; exact this
theorem bodP {qa qt mb : Nat} {s : ByteArray} {ls : List Ln} {f : Wd'} (h : bodyR s.size ls = .no f) : BodP qa qt mb s ls f := fun W hr => by have := body_any qa qt mb s ls W hr; rw [h] at this; exact this

set_option maxHeartbeats 4000000 in
theorem block_loop (qa qt mb : Nat) (s : ByteArray) (ls ls' : List Ln) (os : List O) (x : Wd') (r : List Wd') (en : Nat) (w : World) (h : Rd w qa qt mb s ls) (hO : opsR s.size ls = .ok (os, ⟨x :: r, en⟩, ls')) (hx : x.2 = [108, 111, 111, 112]) :
    Calls Tryz.prog 42 #[rdV qa qt mb] w (Does (One qa) ((regR ⟨r, en⟩).bind fun x1 => (exactR [123] x1.2).bind fun x2 => (closeR x2).bind fun _ => (bodyR s.size ls').bind fun x4 => (exactR [106, 117, 109, 112] (nextL s.size x4.2)).bind fun x6 => (numR x6).bind fun x7 => (closeR x7.2).bind fun _ => .ok (⟨os, 3, x1.1, x4.1, x7.1, 0⟩, x4.2.tail)) (BlPost w qa qt mb s) w) := by
  have HR : Hid (Rd ((w.alloc (.cells #[nextV qa qt, .map (some mb)] 80)).alloc (.cells bz6 43)) qa qt mb s ls) := (h.up ((Below.refl _ _).alloc (Nat.le_refl _) _)).up ((Below.refl _ _).alloc (Nat.le_refl _) _)
  have hqa : 7 ≤ qa := h.n1
  have hm : mb < w.heap.size := h.m.lt
  have hw9 : 7 ≤ w.heap.size := h.v.e.big
  have H0 : Hid (OpsC qa qt mb s ls (os, ⟨x :: r, en⟩, ls')) := opsC hO
  have HT : Hid (∀ q, TakC q x r en) := fun q V hl => take_ok q en x r V hl
  obtain ⟨xa, xt⟩ := x
  simp only at hx
  subst hx
  clear h hO
  unfold rdV nextV
  unfold nextV at HR
  cases e1 : regR ⟨r, en⟩ with
  | no fl =>
    have H1 : Hid (∀ q, 7 ≤ q → RegP q ⟨r, en⟩ fl) := fun q hq => regP hq e1
    rw [R.bind_no]
    clear e1
    go_enter Tryz.func42, Tryz.ntmps42
    go_wp2_with (first
      | (go_at_call 53; refine Calls.mono (H0.out _ HR.out) ?_; rintro e w1 ⟨a, c, q, rfl, hrow, hrq, hok, hlen, hL, hrd, hq, hF⟩; have HS : Hid (Bs w (w1.alloc (.cells #[.slice a os.length c, .int .i8 0, .int .u8 0, .slice none 0 0, .int .i64 0, .int .i64 0] 43)) qa qt mb s ls' w1.heap.size ⟨os, 0, 0, [], 0, 0⟩ ⟨a, c, none, 0⟩ q ⟨(xa, [108, 111, 111, 112]) :: r, en⟩) := Bs.start hm (row_le hrow (by simp)) hrq hL hrd (by simpa using hq) hF; have hq9 : 7 ≤ q := (by simp at hq; omega); clear hrow hrq hok hlen hL hrd hq hF H0 HR)
      | (go_at_call 54; refine Calls.mono (HT.out q _ HS.out.l) ?_; rintro e w2 ⟨rfl, hL, hF⟩; have HS2 : Hid (Bs w (w2.alloc (.cells #[.int .i64 (xa : Int), .string ⟨#[108, 111, 111, 112]⟩] 108)) qa qt mb s ls' w1.heap.size ⟨os, 0, 0, [], 0, 0⟩ ⟨a, c, none, 0⟩ q ⟨r, en⟩) := (HS.out.line hL hF).go ((Below.refl _ _).alloc (Nat.le_refl _) _); clear HS hL hF HT; have HS : Hid _ := HS2.out; clear HS2)
      | (go_at_call 56; refine Calls.mono (H1.out q hq9 _ HS.out.l HS.out.t.rd.v) ?_; rintro e wp hp; have HP : Hid _ := hp.after HS.out.t.fr (fun k hk hy => by have := HS.out.lq; subst hy; omega); obtain ⟨fq, rfl, hp⟩ := hp; clear hp))
    exact ⟨rfl, HP.out⟩
  | ok x1 =>
    have H1 : Hid (∀ q, 7 ≤ q → RegC q ⟨r, en⟩ x1) := fun q hq => regC hq e1
    rw [R.bind_ok]
    cases e2 : exactR [123] x1.2 with
    | no fl =>
      have H2 : Hid (∀ q, ExaP q [123] x1.2 fl) := fun q => exaP e2
      rw [R.bind_no]
      clear e1 e2
      go_enter Tryz.func42, Tryz.ntmps42
      go_wp2_with (first
        | (go_at_call 53; refine Calls.mono (H0.out _ HR.out) ?_; rintro e w1 ⟨a, c, q, rfl, hrow, hrq, hok, hlen, hL, hrd, hq, hF⟩; have HS : Hid (Bs w (w1.alloc (.cells #[.slice a os.length c, .int .i8 0, .int .u8 0, .slice none 0 0, .int .i64 0, .int .i64 0] 43)) qa qt mb s ls' w1.heap.size ⟨os, 0, 0, [], 0, 0⟩ ⟨a, c, none, 0⟩ q ⟨(xa, [108, 111, 111, 112]) :: r, en⟩) := Bs.start hm (row_le hrow (by simp)) hrq hL hrd (by simpa using hq) hF; have hq9 : 7 ≤ q := (by simp at hq; omega); clear hrow hrq hok hlen hL hrd hq hF H0 HR)
        | (go_at_call 54; refine Calls.mono (HT.out q _ HS.out.l) ?_; rintro e w2 ⟨rfl, hL, hF⟩; have HS2 : Hid (Bs w (w2.alloc (.cells #[.int .i64 (xa : Int), .string ⟨#[108, 111, 111, 112]⟩] 108)) qa qt mb s ls' w1.heap.size ⟨os, 0, 0, [], 0, 0⟩ ⟨a, c, none, 0⟩ q ⟨r, en⟩) := (HS.out.line hL hF).go ((Below.refl _ _).alloc (Nat.le_refl _) _); clear HS hL hF HT; have HS : Hid _ := HS2.out; clear HS2)
        | (go_at_call 56; refine Calls.mono (H1.out q hq9 _ HS.out.l HS.out.t.rd.v) ?_; rintro e w3 ⟨rfl, hL, hF⟩; have HU : Hid _ := HS.out.line hL hF; clear HS hL hF H1; have f1 := HU.out.t.b.f 1; have f2 := HU.out.t.b.f 2; obtain ⟨s0, s1, s2, s3, s4, s5⟩ := HU.out.t.b6; simp only at s0 s1 s2 s3 s4 s5; have HS : Hid (Bs w ((w3.setCell ⟨w1.heap.size, 1, none⟩ (.int .i8 3)).setCell ⟨w1.heap.size, 2, none⟩ (.int .u8 (x1.1 : Int))) qa qt mb s ls' w1.heap.size ⟨os, 3, x1.1, [], 0, 0⟩ ⟨a, c, none, 0⟩ q x1.2) := ((HU.out.set 1 _ ⟨os, 3, 0, [], 0, 0⟩ (by omega) rfl rfl rfl).set 2 _ ⟨os, 3, x1.1, [], 0, 0⟩ (by omega) rfl rfl rfl); clear HU)
        | (go_at_call 51; refine Calls.mono (H2.out q _ HS.out.l) ?_; rintro e wp hp; have HP : Hid _ := hp.after HS.out.t.fr (fun k hk hy => by have := HS.out.lq; subst hy; omega); obtain ⟨fq, rfl, hp⟩ := hp; clear hp))
      exact ⟨rfl, HP.out⟩
    | ok x2 =>
      have H2 : Hid (∀ q, ExaC q [123] x1.2 x2) := fun q => exaC e2
      rw [R.bind_ok]
      cases e3 : closeR x2 with
      | no fl =>
        have H3 : Hid (∀ q, CloP q x2 fl) := fun q => cloP e3
        rw [R.bind_no]
        clear e1 e2 e3
        go_enter Tryz.func42, Tryz.ntmps42
        go_wp2_with (first
          | (go_at_call 53; refine Calls.mono (H0.out _ HR.out) ?_; rintro e w1 ⟨a, c, q, rfl, hrow, hrq, hok, hlen, hL, hrd, hq, hF⟩; have HS : Hid (Bs w (w1.alloc (.cells #[.slice a os.length c, .int .i8 0, .int .u8 0, .slice none 0 0, .int .i64 0, .int .i64 0] 43)) qa qt mb s ls' w1.heap.size ⟨os, 0, 0, [], 0, 0⟩ ⟨a, c, none, 0⟩ q ⟨(xa, [108, 111, 111, 112]) :: r, en⟩) := Bs.start hm (row_le hrow (by simp)) hrq hL hrd (by simpa using hq) hF; have hq9 : 7 ≤ q := (by simp at hq; omega); clear hrow hrq hok hlen hL hrd hq hF H0 HR)
          | (go_at_call 54; refine Calls.mono (HT.out q _ HS.out.l) ?_; rintro e w2 ⟨rfl, hL, hF⟩; have HS2 : Hid (Bs w (w2.alloc (.cells #[.int .i64 (xa : Int), .string ⟨#[108, 111, 111, 112]⟩] 108)) qa qt mb s ls' w1.heap.size ⟨os, 0, 0, [], 0, 0⟩ ⟨a, c, none, 0⟩ q ⟨r, en⟩) := (HS.out.line hL hF).go ((Below.refl _ _).alloc (Nat.le_refl _) _); clear HS hL hF HT; have HS : Hid _ := HS2.out; clear HS2)
          | (go_at_call 56; refine Calls.mono (H1.out q hq9 _ HS.out.l HS.out.t.rd.v) ?_; rintro e w3 ⟨rfl, hL, hF⟩; have HU : Hid _ := HS.out.line hL hF; clear HS hL hF H1; have f1 := HU.out.t.b.f 1; have f2 := HU.out.t.b.f 2; obtain ⟨s0, s1, s2, s3, s4, s5⟩ := HU.out.t.b6; simp only at s0 s1 s2 s3 s4 s5; have HS : Hid (Bs w ((w3.setCell ⟨w1.heap.size, 1, none⟩ (.int .i8 3)).setCell ⟨w1.heap.size, 2, none⟩ (.int .u8 (x1.1 : Int))) qa qt mb s ls' w1.heap.size ⟨os, 3, x1.1, [], 0, 0⟩ ⟨a, c, none, 0⟩ q x1.2) := ((HU.out.set 1 _ ⟨os, 3, 0, [], 0, 0⟩ (by omega) rfl rfl rfl).set 2 _ ⟨os, 3, x1.1, [], 0, 0⟩ (by omega) rfl rfl rfl); clear HU)
          | (go_at_call 51; refine Calls.mono (H2.out q _ HS.out.l) ?_; rintro e w4 ⟨rfl, hL, hF⟩; have HU : Hid _ := HS.out.line hL hF; clear HS hL hF H2; (try clear s0 s1 s2 s3 s4 s5 f1 f2); have HS : Hid _ := HU.out; clear HU; obtain ⟨g0, g1⟩ := HS.out.t.r2)
          | (go_at_call 52; refine Calls.mono (H3.out q _ HS.out.l) ?_; rintro e wp hp; have HP : Hid _ := hp.after HS.out.t.fr (fun k hk hy => by have := HS.out.lq; subst hy; omega); obtain ⟨fq, rfl, hp⟩ := hp; clear hp))
        exact ⟨rfl, HP.out⟩
      | ok u =>
        have H3 : Hid (∀ q, CloC q x2) := fun q => cloC e3
        rw [R.bind_ok]
        cases e4 : bodyR s.size ls' with
        | no fl =>
          have H4 : Hid (BodP qa qt mb s ls' fl) := bodP e4
          rw [R.bind_no]
          clear e1 e2 e3 e4
          go_enter Tryz.func42, Tryz.ntmps42
          go_wp2_with (first
            | (go_at_call 53; refine Calls.mono (H0.out _ HR.out) ?_; rintro e w1 ⟨a, c, q, rfl, hrow, hrq, hok, hlen, hL, hrd, hq, hF⟩; have HS : Hid (Bs w (w1.alloc (.cells #[.slice a os.length c, .int .i8 0, .int .u8 0, .slice none 0 0, .int .i64 0, .int .i64 0] 43)) qa qt mb s ls' w1.heap.size ⟨os, 0, 0, [], 0, 0⟩ ⟨a, c, none, 0⟩ q ⟨(xa, [108, 111, 111, 112]) :: r, en⟩) := Bs.start hm (row_le hrow (by simp)) hrq hL hrd (by simpa using hq) hF; have hq9 : 7 ≤ q := (by simp at hq; omega); clear hrow hrq hok hlen hL hrd hq hF H0 HR)
            | (go_at_call 54; refine Calls.mono (HT.out q _ HS.out.l) ?_; rintro e w2 ⟨rfl, hL, hF⟩; have HS2 : Hid (Bs w (w2.alloc (.cells #[.int .i64 (xa : Int), .string ⟨#[108, 111, 111, 112]⟩] 108)) qa qt mb s ls' w1.heap.size ⟨os, 0, 0, [], 0, 0⟩ ⟨a, c, none, 0⟩ q ⟨r, en⟩) := (HS.out.line hL hF).go ((Below.refl _ _).alloc (Nat.le_refl _) _); clear HS hL hF HT; have HS : Hid _ := HS2.out; clear HS2)
            | (go_at_call 56; refine Calls.mono (H1.out q hq9 _ HS.out.l HS.out.t.rd.v) ?_; rintro e w3 ⟨rfl, hL, hF⟩; have HU : Hid _ := HS.out.line hL hF; clear HS hL hF H1; have f1 := HU.out.t.b.f 1; have f2 := HU.out.t.b.f 2; obtain ⟨s0, s1, s2, s3, s4, s5⟩ := HU.out.t.b6; simp only at s0 s1 s2 s3 s4 s5; have HS : Hid (Bs w ((w3.setCell ⟨w1.heap.size, 1, none⟩ (.int .i8 3)).setCell ⟨w1.heap.size, 2, none⟩ (.int .u8 (x1.1 : Int))) qa qt mb s ls' w1.heap.size ⟨os, 3, x1.1, [], 0, 0⟩ ⟨a, c, none, 0⟩ q x1.2) := ((HU.out.set 1 _ ⟨os, 3, 0, [], 0, 0⟩ (by omega) rfl rfl rfl).set 2 _ ⟨os, 3, x1.1, [], 0, 0⟩ (by omega) rfl rfl rfl); clear HU)
            | (go_at_call 51; refine Calls.mono (H2.out q _ HS.out.l) ?_; rintro e w4 ⟨rfl, hL, hF⟩; have HU : Hid _ := HS.out.line hL hF; clear HS hL hF H2; (try clear s0 s1 s2 s3 s4 s5 f1 f2); have HS : Hid _ := HU.out; clear HU; obtain ⟨g0, g1⟩ := HS.out.t.r2)
            | (go_at_call 52; refine Calls.mono (H3.out q _ HS.out.l) ?_; rintro e w' ⟨rfl, hw⟩; subst w'; clear H3)
            | (go_at_call 57; refine Calls.mono (H4.out _ HS.out.t.rd) ?_; rintro e wp hp; have HP : Hid _ := hp.after HS.out.t.fr (fun _ _ hk => hk); obtain ⟨fq, rfl, hp⟩ := hp; clear hp))
          exact ⟨rfl, HP.out⟩
        | ok x4 =>
          have H4 : Hid (BodC qa qt mb s ls' x4) := bodC e4
          rw [R.bind_ok]
          have H5 : Hid (∀ W, Rs W qa qt s x4.2 → Vars W → Calls Tryz.prog 38 #[.pointer (some ⟨qa, 0, none⟩), .pointer (some ⟨qt, 0, none⟩)] W fun e w' => ∃ q, e = .returned (.pointer (some ⟨q, 0, none⟩)) ∧ LIn w' q (nextL s.size x4.2) ∧ Rs w' qa qt s x4.2.tail ∧ W.heap.size ≤ q ∧ Fr (One qa) W w') := fun W h1 h2 => next_any qa qt s x4.2 W h1 h2 hqa
          cases e6 : exactR [106, 117, 109, 112] (nextL s.size x4.2) with
          | no fl =>
            have H6 : Hid (∀ q, ExaP q [106, 117, 109, 112] (nextL s.size x4.2) fl) := fun q => exaP e6
            rw [R.bind_no]
            clear e1 e2 e3 e4 e6
            go_enter Tryz.func42, Tryz.ntmps42
            go_wp2_with (first
              | (go_at_call 53; refine Calls.mono (H0.out _ HR.out) ?_; rintro e w1 ⟨a, c, q, rfl, hrow, hrq, hok, hlen, hL, hrd, hq, hF⟩; have HS : Hid (Bs w (w1.alloc (.cells #[.slice a os.length c, .int .i8 0, .int .u8 0, .slice none 0 0, .int .i64 0, .int .i64 0] 43)) qa qt mb s ls' w1.heap.size ⟨os, 0, 0, [], 0, 0⟩ ⟨a, c, none, 0⟩ q ⟨(xa, [108, 111, 111, 112]) :: r, en⟩) := Bs.start hm (row_le hrow (by simp)) hrq hL hrd (by simpa using hq) hF; have hq9 : 7 ≤ q := (by simp at hq; omega); clear hrow hrq hok hlen hL hrd hq hF H0 HR)
              | (go_at_call 54; refine Calls.mono (HT.out q _ HS.out.l) ?_; rintro e w2 ⟨rfl, hL, hF⟩; have HS2 : Hid (Bs w (w2.alloc (.cells #[.int .i64 (xa : Int), .string ⟨#[108, 111, 111, 112]⟩] 108)) qa qt mb s ls' w1.heap.size ⟨os, 0, 0, [], 0, 0⟩ ⟨a, c, none, 0⟩ q ⟨r, en⟩) := (HS.out.line hL hF).go ((Below.refl _ _).alloc (Nat.le_refl _) _); clear HS hL hF HT; have HS : Hid _ := HS2.out; clear HS2)
              | (go_at_call 56; refine Calls.mono (H1.out q hq9 _ HS.out.l HS.out.t.rd.v) ?_; rintro e w3 ⟨rfl, hL, hF⟩; have HU : Hid _ := HS.out.line hL hF; clear HS hL hF H1; have f1 := HU.out.t.b.f 1; have f2 := HU.out.t.b.f 2; obtain ⟨s0, s1, s2, s3, s4, s5⟩ := HU.out.t.b6; simp only at s0 s1 s2 s3 s4 s5; have HS : Hid (Bs w ((w3.setCell ⟨w1.heap.size, 1, none⟩ (.int .i8 3)).setCell ⟨w1.heap.size, 2, none⟩ (.int .u8 (x1.1 : Int))) qa qt mb s ls' w1.heap.size ⟨os, 3, x1.1, [], 0, 0⟩ ⟨a, c, none, 0⟩ q x1.2) := ((HU.out.set 1 _ ⟨os, 3, 0, [], 0, 0⟩ (by omega) rfl rfl rfl).set 2 _ ⟨os, 3, x1.1, [], 0, 0⟩ (by omega) rfl rfl rfl); clear HU)
              | (go_at_call 51; refine Calls.mono (H2.out q _ HS.out.l) ?_; rintro e w4 ⟨rfl, hL, hF⟩; have HU : Hid _ := HS.out.line hL hF; clear HS hL hF H2; (try clear s0 s1 s2 s3 s4 s5 f1 f2); have HS : Hid _ := HU.out; clear HU; obtain ⟨g0, g1⟩ := HS.out.t.r2)
              | (go_at_call 52; refine Calls.mono (H3.out q _ HS.out.l) ?_; rintro e w' ⟨rfl, hw⟩; subst w'; clear H3)
              | (go_at_call 57; refine Calls.mono (H4.out _ HS.out.t.rd) ?_; rintro e w6 ⟨ba, bc, rfl, hrow, hok, hlen, hrd, hF⟩; obtain ⟨hv1, hv2⟩ := HS.out.t.body hF hrow hrd; have s3 := hv1.b.c 3 _ rfl; have f3 := hv1.b.f 3; have HV : Hid _ := hv2; clear HS hrow hok hlen hrd hF H4 hv1 hv2 g0 g1; have HS : Hid _ := HV.out; clear HV; obtain ⟨g0, g1⟩ := HS.out.r2)
              | (go_at_call 38; refine Calls.mono (H5.out _ HS.out.rd.rs HS.out.rd.v) ?_; rintro e w7 ⟨q2, rfl, hL, hR, hq, hF⟩; have HV : Hid _ := HS.out.next hF hL hR hq; have hq9b : 7 ≤ q2 := (by have := HV.out.lq; omega); clear HS hL hR hq hF H5 g0 g1; have HS : Hid _ := HV.out; clear HV)
              | (go_at_call 51; refine Calls.mono (H6.out q2 _ HS.out.l) ?_; rintro e wp hp; have HP : Hid _ := hp.after HS.out.t.fr (fun k hk hy => by have := HS.out.lq; subst hy; omega); obtain ⟨fq, rfl, hp⟩ := hp; clear hp))
            exact ⟨rfl, HP.out⟩
          | ok x6 =>
            have H6 : Hid (∀ q, ExaC q [106, 117, 109, 112] (nextL s.size x4.2) x6) := fun q => exaC e6
            rw [R.bind_ok]
            cases e7 : numR x6 with
            | no fl =>
              have H7 : Hid (∀ q, 7 ≤ q → TarP q x6 fl) := fun q hq => tarP hq e7
              rw [R.bind_no]
              clear e1 e2 e3 e4 e6 e7
              go_enter Tryz.func42, Tryz.ntmps42
              go_wp2_with (first
                | (go_at_call 53; refine Calls.mono (H0.out _ HR.out) ?_; rintro e w1 ⟨a, c, q, rfl, hrow, hrq, hok, hlen, hL, hrd, hq, hF⟩; have HS : Hid (Bs w (w1.alloc (.cells #[.slice a os.length c, .int .i8 0, .int .u8 0, .slice none 0 0, .int .i64 0, .int .i64 0] 43)) qa qt mb s ls' w1.heap.size ⟨os, 0, 0, [], 0, 0⟩ ⟨a, c, none, 0⟩ q ⟨(xa, [108, 111, 111, 112]) :: r, en⟩) := Bs.start hm (row_le hrow (by simp)) hrq hL hrd (by simpa using hq) hF; have hq9 : 7 ≤ q := (by simp at hq; omega); clear hrow hrq hok hlen hL hrd hq hF H0 HR)
                | (go_at_call 54; refine Calls.mono (HT.out q _ HS.out.l) ?_; rintro e w2 ⟨rfl, hL, hF⟩; have HS2 : Hid (Bs w (w2.alloc (.cells #[.int .i64 (xa : Int), .string ⟨#[108, 111, 111, 112]⟩] 108)) qa qt mb s ls' w1.heap.size ⟨os, 0, 0, [], 0, 0⟩ ⟨a, c, none, 0⟩ q ⟨r, en⟩) := (HS.out.line hL hF).go ((Below.refl _ _).alloc (Nat.le_refl _) _); clear HS hL hF HT; have HS : Hid _ := HS2.out; clear HS2)
                | (go_at_call 56; refine Calls.mono (H1.out q hq9 _ HS.out.l HS.out.t.rd.v) ?_; rintro e w3 ⟨rfl, hL, hF⟩; have HU : Hid _ := HS.out.line hL hF; clear HS hL hF H1; have f1 := HU.out.t.b.f 1; have f2 := HU.out.t.b.f 2; obtain ⟨s0, s1, s2, s3, s4, s5⟩ := HU.out.t.b6; simp only at s0 s1 s2 s3 s4 s5; have HS : Hid (Bs w ((w3.setCell ⟨w1.heap.size, 1, none⟩ (.int .i8 3)).setCell ⟨w1.heap.size, 2, none⟩ (.int .u8 (x1.1 : Int))) qa qt mb s ls' w1.heap.size ⟨os, 3, x1.1, [], 0, 0⟩ ⟨a, c, none, 0⟩ q x1.2) := ((HU.out.set 1 _ ⟨os, 3, 0, [], 0, 0⟩ (by omega) rfl rfl rfl).set 2 _ ⟨os, 3, x1.1, [], 0, 0⟩ (by omega) rfl rfl rfl); clear HU)
                | (go_at_call 51; refine Calls.mono (H2.out q _ HS.out.l) ?_; rintro e w4 ⟨rfl, hL, hF⟩; have HU : Hid _ := HS.out.line hL hF; clear HS hL hF H2; (try clear s0 s1 s2 s3 s4 s5 f1 f2); have HS : Hid _ := HU.out; clear HU; obtain ⟨g0, g1⟩ := HS.out.t.r2)
                | (go_at_call 52; refine Calls.mono (H3.out q _ HS.out.l) ?_; rintro e w' ⟨rfl, hw⟩; subst w'; clear H3)
                | (go_at_call 57; refine Calls.mono (H4.out _ HS.out.t.rd) ?_; rintro e w6 ⟨ba, bc, rfl, hrow, hok, hlen, hrd, hF⟩; obtain ⟨hv1, hv2⟩ := HS.out.t.body hF hrow hrd; have s3 := hv1.b.c 3 _ rfl; have f3 := hv1.b.f 3; have HV : Hid _ := hv2; clear HS hrow hok hlen hrd hF H4 hv1 hv2 g0 g1; have HS : Hid _ := HV.out; clear HV; obtain ⟨g0, g1⟩ := HS.out.r2)
                | (go_at_call 38; refine Calls.mono (H5.out _ HS.out.rd.rs HS.out.rd.v) ?_; rintro e w7 ⟨q2, rfl, hL, hR, hq, hF⟩; have HV : Hid _ := HS.out.next hF hL hR hq; have hq9b : 7 ≤ q2 := (by have := HV.out.lq; omega); clear HS hL hR hq hF H5 g0 g1; have HS : Hid _ := HV.out; clear HV)
                | (go_at_call 51; refine Calls.mono (H6.out q2 _ HS.out.l) ?_; rintro e w8 ⟨rfl, hL, hF⟩; have HU : Hid _ := HS.out.line hL hF; clear HS hL hF H6; (try clear s0 s1 s2 s3 s4 s5 f1 f2); have HS : Hid _ := HU.out; clear HU)
                | (go_at_call 55; refine Calls.mono (H7.out q2 hq9b _ HS.out.l HS.out.t.rd.v) ?_; rintro e wp hp; have HP : Hid _ := hp.after HS.out.t.fr (fun k hk hy => by have := HS.out.lq; subst hy; omega); obtain ⟨fq, rfl, hp⟩ := hp; clear hp))
              exact ⟨rfl, HP.out⟩
            | ok x7 =>
              have H7 : Hid (∀ q, 7 ≤ q → TarC q x6 x7) := fun q hq => tarC hq e7
              rw [R.bind_ok]
              cases e8 : closeR x7.2 with
              | no fl =>
                have H8 : Hid (∀ q, CloP q x7.2 fl) := fun q => cloP e8
                rw [R.bind_no]
                clear e1 e2 e3 e4 e6 e7 e8
                go_enter Tryz.func42, Tryz.ntmps42
                go_wp2_with (first
                  | (go_at_call 53; refine Calls.mono (H0.out _ HR.out) ?_; rintro e w1 ⟨a, c, q, rfl, hrow, hrq, hok, hlen, hL, hrd, hq, hF⟩; have HS : Hid (Bs w (w1.alloc (.cells #[.slice a os.length c, .int .i8 0, .int .u8 0, .slice none 0 0, .int .i64 0, .int .i64 0] 43)) qa qt mb s ls' w1.heap.size ⟨os, 0, 0, [], 0, 0⟩ ⟨a, c, none, 0⟩ q ⟨(xa, [108, 111, 111, 112]) :: r, en⟩) := Bs.start hm (row_le hrow (by simp)) hrq hL hrd (by simpa using hq) hF; have hq9 : 7 ≤ q := (by simp at hq; omega); clear hrow hrq hok hlen hL hrd hq hF H0 HR)
                  | (go_at_call 54; refine Calls.mono (HT.out q _ HS.out.l) ?_; rintro e w2 ⟨rfl, hL, hF⟩; have HS2 : Hid (Bs w (w2.alloc (.cells #[.int .i64 (xa : Int), .string ⟨#[108, 111, 111, 112]⟩] 108)) qa qt mb s ls' w1.heap.size ⟨os, 0, 0, [], 0, 0⟩ ⟨a, c, none, 0⟩ q ⟨r, en⟩) := (HS.out.line hL hF).go ((Below.refl _ _).alloc (Nat.le_refl _) _); clear HS hL hF HT; have HS : Hid _ := HS2.out; clear HS2)
                  | (go_at_call 56; refine Calls.mono (H1.out q hq9 _ HS.out.l HS.out.t.rd.v) ?_; rintro e w3 ⟨rfl, hL, hF⟩; have HU : Hid _ := HS.out.line hL hF; clear HS hL hF H1; have f1 := HU.out.t.b.f 1; have f2 := HU.out.t.b.f 2; obtain ⟨s0, s1, s2, s3, s4, s5⟩ := HU.out.t.b6; simp only at s0 s1 s2 s3 s4 s5; have HS : Hid (Bs w ((w3.setCell ⟨w1.heap.size, 1, none⟩ (.int .i8 3)).setCell ⟨w1.heap.size, 2, none⟩ (.int .u8 (x1.1 : Int))) qa qt mb s ls' w1.heap.size ⟨os, 3, x1.1, [], 0, 0⟩ ⟨a, c, none, 0⟩ q x1.2) := ((HU.out.set 1 _ ⟨os, 3, 0, [], 0, 0⟩ (by omega) rfl rfl rfl).set 2 _ ⟨os, 3, x1.1, [], 0, 0⟩ (by omega) rfl rfl rfl); clear HU)
                  | (go_at_call 51; refine Calls.mono (H2.out q _ HS.out.l) ?_; rintro e w4 ⟨rfl, hL, hF⟩; have HU : Hid _ := HS.out.line hL hF; clear HS hL hF H2; (try clear s0 s1 s2 s3 s4 s5 f1 f2); have HS : Hid _ := HU.out; clear HU; obtain ⟨g0, g1⟩ := HS.out.t.r2)
                  | (go_at_call 52; refine Calls.mono (H3.out q _ HS.out.l) ?_; rintro e w' ⟨rfl, hw⟩; subst w'; clear H3)
                  | (go_at_call 57; refine Calls.mono (H4.out _ HS.out.t.rd) ?_; rintro e w6 ⟨ba, bc, rfl, hrow, hok, hlen, hrd, hF⟩; obtain ⟨hv1, hv2⟩ := HS.out.t.body hF hrow hrd; have s3 := hv1.b.c 3 _ rfl; have f3 := hv1.b.f 3; have HV : Hid _ := hv2; clear HS hrow hok hlen hrd hF H4 hv1 hv2 g0 g1; have HS : Hid _ := HV.out; clear HV; obtain ⟨g0, g1⟩ := HS.out.r2)
                  | (go_at_call 38; refine Calls.mono (H5.out _ HS.out.rd.rs HS.out.rd.v) ?_; rintro e w7 ⟨q2, rfl, hL, hR, hq, hF⟩; have HV : Hid _ := HS.out.next hF hL hR hq; have hq9b : 7 ≤ q2 := (by have := HV.out.lq; omega); clear HS hL hR hq hF H5 g0 g1; have HS : Hid _ := HV.out; clear HV)
                  | (go_at_call 51; refine Calls.mono (H6.out q2 _ HS.out.l) ?_; rintro e w8 ⟨rfl, hL, hF⟩; have HU : Hid _ := HS.out.line hL hF; clear HS hL hF H6; (try clear s0 s1 s2 s3 s4 s5 f1 f2); have HS : Hid _ := HU.out; clear HU)
                  | (go_at_call 55; refine Calls.mono (H7.out q2 hq9b _ HS.out.l HS.out.t.rd.v) ?_; rintro e w9 ⟨rfl, hL, hF⟩; have HU : Hid _ := HS.out.line hL hF; clear HS hL hF H7; have f4 := HU.out.t.b.f 4; obtain ⟨s0, s1, s2, s3, s4, s5⟩ := HU.out.t.b6; simp only at s0 s1 s2 s3 s4 s5; have HS : Hid (Bs w (w9.setCell ⟨w1.heap.size, 4, none⟩ (.int .i64 x7.1)) qa qt mb s x4.2.tail w1.heap.size ⟨os, 3, x1.1, x4.1, x7.1, 0⟩ ⟨a, c, ba, bc⟩ q2 x7.2) := (HU.out.set 4 _ ⟨os, 3, x1.1, x4.1, x7.1, 0⟩ (by omega) rfl rfl rfl); clear HU)
                  | (go_at_call 52; refine Calls.mono (H8.out q2 _ HS.out.l) ?_; rintro e wp hp; have HP : Hid _ := hp.after HS.out.t.fr (fun k hk hy => by have := HS.out.lq; subst hy; omega); obtain ⟨fq, rfl, hp⟩ := hp; clear hp))
                exact ⟨rfl, HP.out⟩
              | ok u =>
                have H8 : Hid (∀ q, CloC q x7.2) := fun q => cloC e8
                rw [R.bind_ok]
                clear e1 e2 e3 e4 e6 e7 e8
                go_enter Tryz.func42, Tryz.ntmps42
                go_wp2_with (first
                  | (go_at_call 53; refine Calls.mono (H0.out _ HR.out) ?_; rintro e w1 ⟨a, c, q, rfl, hrow, hrq, hok, hlen, hL, hrd, hq, hF⟩; have HS : Hid (Bs w (w1.alloc (.cells #[.slice a os.length c, .int .i8 0, .int .u8 0, .slice none 0 0, .int .i64 0, .int .i64 0] 43)) qa qt mb s ls' w1.heap.size ⟨os, 0, 0, [], 0, 0⟩ ⟨a, c, none, 0⟩ q ⟨(xa, [108, 111, 111, 112]) :: r, en⟩) := Bs.start hm (row_le hrow (by simp)) hrq hL hrd (by simpa using hq) hF; have hq9 : 7 ≤ q := (by simp at hq; omega); clear hrow hrq hok hlen hL hrd hq hF H0 HR)
                  | (go_at_call 54; refine Calls.mono (HT.out q _ HS.out.l) ?_; rintro e w2 ⟨rfl, hL, hF⟩; have HS2 : Hid (Bs w (w2.alloc (.cells #[.int .i64 (xa : Int), .string ⟨#[108, 111, 111, 112]⟩] 108)) qa qt mb s ls' w1.heap.size ⟨os, 0, 0, [], 0, 0⟩ ⟨a, c, none, 0⟩ q ⟨r, en⟩) := (HS.out.line hL hF).go ((Below.refl _ _).alloc (Nat.le_refl _) _); clear HS hL hF HT; have HS : Hid _ := HS2.out; clear HS2)
                  | (go_at_call 56; refine Calls.mono (H1.out q hq9 _ HS.out.l HS.out.t.rd.v) ?_; rintro e w3 ⟨rfl, hL, hF⟩; have HU : Hid _ := HS.out.line hL hF; clear HS hL hF H1; have f1 := HU.out.t.b.f 1; have f2 := HU.out.t.b.f 2; obtain ⟨s0, s1, s2, s3, s4, s5⟩ := HU.out.t.b6; simp only at s0 s1 s2 s3 s4 s5; have HS : Hid (Bs w ((w3.setCell ⟨w1.heap.size, 1, none⟩ (.int .i8 3)).setCell ⟨w1.heap.size, 2, none⟩ (.int .u8 (x1.1 : Int))) qa qt mb s ls' w1.heap.size ⟨os, 3, x1.1, [], 0, 0⟩ ⟨a, c, none, 0⟩ q x1.2) := ((HU.out.set 1 _ ⟨os, 3, 0, [], 0, 0⟩ (by omega) rfl rfl rfl).set 2 _ ⟨os, 3, x1.1, [], 0, 0⟩ (by omega) rfl rfl rfl); clear HU)
                  | (go_at_call 51; refine Calls.mono (H2.out q _ HS.out.l) ?_; rintro e w4 ⟨rfl, hL, hF⟩; have HU : Hid _ := HS.out.line hL hF; clear HS hL hF H2; (try clear s0 s1 s2 s3 s4 s5 f1 f2); have HS : Hid _ := HU.out; clear HU; obtain ⟨g0, g1⟩ := HS.out.t.r2)
                  | (go_at_call 52; refine Calls.mono (H3.out q _ HS.out.l) ?_; rintro e w' ⟨rfl, hw⟩; subst w'; clear H3)
                  | (go_at_call 57; refine Calls.mono (H4.out _ HS.out.t.rd) ?_; rintro e w6 ⟨ba, bc, rfl, hrow, hok, hlen, hrd, hF⟩; obtain ⟨hv1, hv2⟩ := HS.out.t.body hF hrow hrd; have s3 := hv1.b.c 3 _ rfl; have f3 := hv1.b.f 3; have HV : Hid _ := hv2; clear HS hrow hok hlen hrd hF H4 hv1 hv2 g0 g1; have HS : Hid _ := HV.out; clear HV; obtain ⟨g0, g1⟩ := HS.out.r2)
                  | (go_at_call 38; refine Calls.mono (H5.out _ HS.out.rd.rs HS.out.rd.v) ?_; rintro e w7 ⟨q2, rfl, hL, hR, hq, hF⟩; have HV : Hid _ := HS.out.next hF hL hR hq; have hq9b : 7 ≤ q2 := (by have := HV.out.lq; omega); clear HS hL hR hq hF H5 g0 g1; have HS : Hid _ := HV.out; clear HV)
                  | (go_at_call 51; refine Calls.mono (H6.out q2 _ HS.out.l) ?_; rintro e w8 ⟨rfl, hL, hF⟩; have HU : Hid _ := HS.out.line hL hF; clear HS hL hF H6; (try clear s0 s1 s2 s3 s4 s5 f1 f2); have HS : Hid _ := HU.out; clear HU)
                  | (go_at_call 55; refine Calls.mono (H7.out q2 hq9b _ HS.out.l HS.out.t.rd.v) ?_; rintro e w9 ⟨rfl, hL, hF⟩; have HU : Hid _ := HS.out.line hL hF; clear HS hL hF H7; have f4 := HU.out.t.b.f 4; obtain ⟨s0, s1, s2, s3, s4, s5⟩ := HU.out.t.b6; simp only at s0 s1 s2 s3 s4 s5; have HS : Hid (Bs w (w9.setCell ⟨w1.heap.size, 4, none⟩ (.int .i64 x7.1)) qa qt mb s x4.2.tail w1.heap.size ⟨os, 3, x1.1, x4.1, x7.1, 0⟩ ⟨a, c, ba, bc⟩ q2 x7.2) := (HU.out.set 4 _ ⟨os, 3, x1.1, x4.1, x7.1, 0⟩ (by omega) rfl rfl rfl); clear HU)
                  | (go_at_call 52; refine Calls.mono (H8.out q2 _ HS.out.l) ?_; rintro e w' ⟨rfl, hw⟩; subst w'; clear H8; (try clear s0 s1 s2 s3 s4 s5); obtain ⟨s0, s1, s2, s3, s4, s5⟩ := HS.out.t.b6; obtain ⟨r0, r1, r2, r3, r4, r5⟩ := HS.out.t.r6; have t0 := HS.out.t.rr.f 0; have t1 := HS.out.t.rr.f 1; have t2 := HS.out.t.rr.f 2; have t3 := HS.out.t.rr.f 3; have t4 := HS.out.t.rr.f 4; have t5 := HS.out.t.rr.f 5; simp only at s0 s1 s2 s3 s4 s5))
                refine bodyPost_ret (v := Bk.val ⟨os, 3, x1.1, x4.1, x7.1, 0⟩ ⟨a, c, ba, bc⟩) (by simp [results, Tryz.results42, go_sem, r0, r1, r2, r3, r4, r5]) rfl ?_
                have hz := HS.out.t.z
                refine Bz.post ?_
                iterate 6 (refine Bz.set ?_ _ _)
                exact hz
end Go.Proofs.YthjpddjfckdefaaGreatDoor.Pr
