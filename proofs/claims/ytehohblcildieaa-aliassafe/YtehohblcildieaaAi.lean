/- What an operation does to registers and cells (the statement's own done), read off the program by the walk. Conditions: registers and cells lie in memory. -/
import Derived.Test.YtehohblcildieaaAh
import Derived.Deep.QuietTactic
import Derived.BigQuiet
namespace Go.Proofs.Ytehohblcildieaa.Al
open Go.ChangeShapes Go.WideShapes Go.ChangeAt Go.RowKit
open _root_.Go.Proofs.Ytehohblcildieaa.Op _root_.Go.Proofs.Ytehohblcildieaa.So
set_option maxRecDepth 20000

abbrev pt (b : Nat) : Value := .pointer (some ⟨b, 0, none⟩)
theorem cellC_none {o : O} (h : memO o = false) (R : Nat → Int) : cellC o R = -1 := by unfold cellC; rw [h]; rfl
theorem memO_not {o : O} (h : okO o = false) : memO o = false := by unfold memO; rw [h]; simp
theorem memO_kind {o : O} (h1 : ¬ o.op = 15) (h2 : ¬ o.op = 16) : memO o = false := by unfold memO; simp [h1, h2]
theorem fr_one (w w' : World) (rb mb : Nat) (h : Below w.heap.size w w') : Fr (fun k => k = rb ∨ k = mb) w w' := Fr.of h
set_option maxHeartbeats 1000000 in
theorem done_no (o : O) (rb mb : Nat) (R M : Nat → Int) (w : World) (ho : o.Ok) (h : Rm w rb mb R M) (hn : okO o = false ∨ o.op < 1 ∨ 17 < o.op) :
    Calls Try.prog 14 #[o.val, pt rb, pt mb] w (DonePost w rb mb o R) := by
  have hc : cellC o R = -1 := by
    refine cellC_none ?_ R
    rcases hn with h | h | h
    · exact memO_not h
    · exact memO_kind (by omega) (by omega)
    · exact memO_kind (by omega) (by omega)
  have HR : Hid (Rm w rb mb R M) := h
  have HP : Hid (∀ w' : World, Below w.heap.size w w' → DonePost w rb mb o R (.returned (.tuple #[.int .i64 (-1), .bool false])) w') := fun w' hb => ⟨false, R, M, by rw [hc], HR.out.up hb, Fr.of hb, fun _ _ _ => rfl⟩
  have HC0 := fun W => check_any o W ho
  clear ho h hc
  cases hk : okO o
  · rw [show ckE o = 30 by simp [ckE, hk]] at HC0
    have HC : Hid _ := HC0
    clear HC0 hk hn
    go_enter Try.func14, Try.ntmps14
    go_wp2_with (first | (go_at_call 20; refine Calls.mono (HC.out _) ?_; rintro e w1 ⟨rfl, hb⟩; obtain ⟨-, hb0, hz⟩ := one_new w _ _ hb; have HB : Hid (Below w.heap.size w w1) := hb0; clear hb hb0))
    go_ret2
    exact HP.out _ HB.out
  · rw [show ckE o = 0 by simp [ckE, hk]] at HC0
    have HC : Hid _ := HC0
    have hn2 : o.op < 1 ∨ 17 < o.op := by
      rcases hn with h | h
      · rw [hk] at h; cases h
      · exact h
    clear HC0 hk hn
    by_cases h1 : o.op < 1
    · clear hn2
      go_enter Try.func14, Try.ntmps14
      go_wp2_with (first | (go_at_call 20; refine Calls.mono (HC.out _) ?_; rintro e w1 ⟨rfl, hb⟩; obtain ⟨a1, hb0, hz⟩ := one_new w _ _ hb; have HB : Hid (Below w.heap.size w w1) := hb0; have o0 := a1.o5.1; clear hb hb0 a1))
      go_ret2
      exact HP.out _ HB.out
    · have h2 : 17 < o.op := by omega
      clear hn2
      go_enter Try.func14, Try.ntmps14
      go_wp2_with (first | (go_at_call 20; refine Calls.mono (HC.out _) ?_; rintro e w1 ⟨rfl, hb⟩; obtain ⟨a1, hb0, hz⟩ := one_new w _ _ hb; have HB : Hid (Below w.heap.size w w1) := hb0; have o0 := a1.o5.1; clear hb hb0 a1))
      go_ret2
      exact HP.out _ HB.out
/-- The operation's box, and registers and cells, on the way. -/
structure Dn (w W : World) (rb mb : Nat) (o : O) (R M : Nat → Int) : Prop where
  up : Below w.heap.size w W
  bx : At W w.heap.size o.cells
  rm : Rm W rb mb R M
  ne : rb < w.heap.size ∧ mb < w.heap.size
theorem Dn.drew {w W : World} {rb mb : Nat} {o : O} {R M : Nat → Int} (h : Dn w W rb mb o R M) (n : Nat) : Dn w (W.drewN n) rb mb o R M := by
  have hb : Below W.heap.size W (W.drewN n) := ⟨rfl, rfl, rfl, Nat.le_refl _, fun _ _ => rfl⟩
  exact ⟨h.up.trans (hb.mono h.up.size), h.bx.below hb h.bx.lt, h.rm.up hb, h.ne⟩
set_option maxHeartbeats 4000000 in
theorem done_one (nd na nb : Nat) (im : Int) (rb mb : Nat) (R M : Nat → Int) (w : World) (hd : nd < 32) (ha : na < 32) (hb' : nb < 32) (ho : (O.mk 1 nd na nb im).Ok) (hk : okO ⟨1, nd, na, nb, im⟩ = true) (h : Rm w rb mb R M) :
    Calls Try.prog 14 #[(O.mk 1 nd na nb im).val, pt rb, pt mb] w (DonePost w rb mb ⟨1, nd, na, nb, im⟩ R) := by
  have HC0 := fun W => check_any ⟨1, nd, na, nb, im⟩ W ho
  rw [show ckE ⟨1, nd, na, nb, im⟩ = 0 by simp [ckE, hk]] at HC0
  have HC : Hid _ := HC0
  obtain ⟨c, hc⟩ : ∃ c : Nat, (R na + im) % 256 = c := ⟨((R na + im) % 256).toNat, by omega⟩
  have hc256 : c < 256 := by omega
  have hci : (c : Int) < 256 := by omega
  have HS : Hid (∀ {W : World}, Below (w.alloc (.cells (O.mk 1 nd na nb im).cells 40)).heap.size (w.alloc (.cells (O.mk 1 nd na nb im).cells 40)) W → Dn w W rb mb ⟨1, nd, na, nb, im⟩ R M) := fun {W} hb => by
    obtain ⟨a1, hb0, hz⟩ := one_new w _ _ hb
    exact ⟨hb0, a1, h.up hb0, h.rl, h.ml⟩
  have HP : Hid (∀ W : World, Dn w W rb mb ⟨1, nd, na, nb, im⟩ R M → DonePost w rb mb ⟨1, nd, na, nb, im⟩ R (.returned (.tuple #[.int .i64 (-1), .bool true])) (W.setCell ⟨rb, nd, none⟩ (.int .i64 im))) := fun W hD => by
    refine ⟨true, upd R nd im, M, by rw [cellC_none (memO_kind (by simp) (by simp))], hD.rm.setR hd ⟨ho.i0, ho.i1⟩, (Fr.of hD.up).setCell (.inr (.inl rfl)) _ _, ?_⟩
    have := upd_keeps (o := ⟨1, nd, na, nb, im⟩) (by simp) (wt_writes hk (by simp) (by simp)) R im
    simpa using this
  have hdi : (nd : Int) < 32 := by omega
  have hai : (na : Int) < 32 := by omega
  have hbi : (nb : Int) < 32 := by omega
  clear HC0 hk ho h
  go_enter Try.func14, Try.ntmps14
  go_wp2_with (first | (go_at_call 20; refine Calls.mono (HC.out _) ?_; rintro e w1 ⟨rfl, hb⟩; have HD : Hid (Dn w w1 rb mb ⟨1, nd, na, nb, im⟩ R M) := HS.out hb; obtain ⟨o0, o1, o2, o3, o4⟩ := HD.out.bx.o5; have q1 := HD.out.rm.r na ha; have z1 := HD.out.rm.rl; have z2 := HD.out.bx.lt; clear hb HC HS))
  go_quiet (fail)
  have HD2 : Hid (Dn w (w1.drewN nq) rb mb ⟨1, nd, na, nb, im⟩ R M) := HD.out.drew nq
  clear HD o0 o1 o2 o3 o4 q1 z1 z2
  generalize w1.drewN nq = W at *
  obtain ⟨o0, o1, o2, o3, o4⟩ := HD2.out.bx.o5
  have q0 := HD2.out.rm.r nd hd
  have q1 := HD2.out.rm.r na ha
  have q2 := HD2.out.rm.r nb hb'
  have q3 := HD2.out.rm.m c hc256
  have q4 := HD2.out.rm.rf nd
  have q5 := HD2.out.rm.mf c
  have z1 := HD2.out.rm.rl
  have z3 := HD2.out.rm.ml
  have z2 := HD2.out.bx.lt
  go_wp2_with fail
  have HD3 : Hid (Dn w W.drew rb mb ⟨1, nd, na, nb, im⟩ R M) := HD2.out.drew 1
  go_region
  all_goals
    go_wp2_with fail
    go_ret2
    exact HP.out _ HD3.out
set_option maxHeartbeats 4000000 in
theorem done_load (nd na nb : Nat) (im : Int) (rb mb : Nat) (R M : Nat → Int) (w : World) (hd : nd < 32) (ha : na < 32) (hb' : nb < 32) (ho : (O.mk 15 nd na nb im).Ok) (hk : okO ⟨15, nd, na, nb, im⟩ = true) (h : Rm w rb mb R M) :
    Calls Try.prog 14 #[(O.mk 15 nd na nb im).val, pt rb, pt mb] w (DonePost w rb mb ⟨15, nd, na, nb, im⟩ R) := by
  have HC0 := fun W => check_any ⟨15, nd, na, nb, im⟩ W ho
  rw [show ckE ⟨15, nd, na, nb, im⟩ = 0 by simp [ckE, hk]] at HC0
  have HC : Hid _ := HC0
  obtain ⟨c, hc⟩ : ∃ c : Nat, (R na + im) % 256 = c := ⟨((R na + im) % 256).toNat, by omega⟩
  have hc256 : c < 256 := by omega
  have hci : (c : Int) < 256 := by omega
  have HS : Hid (∀ {W : World}, Below (w.alloc (.cells (O.mk 15 nd na nb im).cells 40)).heap.size (w.alloc (.cells (O.mk 15 nd na nb im).cells 40)) W → Dn w W rb mb ⟨15, nd, na, nb, im⟩ R M) := fun {W} hb => by
    obtain ⟨a1, hb0, hz⟩ := one_new w _ _ hb
    exact ⟨hb0, a1, h.up hb0, h.rl, h.ml⟩
  have hcc : cellC ⟨15, nd, na, nb, im⟩ R = c := by
    rw [cellC_val (by unfold memO; rw [hk]; rfl)]
    show (R (na : Int).toNat + im) % 256 = c
    rw [Int.toNat_natCast]; exact hc
  have HP : Hid (∀ W : World, Dn w W rb mb ⟨15, nd, na, nb, im⟩ R M → DonePost w rb mb ⟨15, nd, na, nb, im⟩ R (.returned (.tuple #[.int .i64 (c : Int), .bool true])) (W.setCell ⟨rb, nd, none⟩ (.int .i64 (M c)))) := fun W hD => by
    refine ⟨true, upd R nd (M c), M, by rw [hcc], hD.rm.setR hd (hD.rm.mi c), (Fr.of hD.up).setCell (.inr (.inl rfl)) _ _, ?_⟩
    have := upd_keeps (o := ⟨15, nd, na, nb, im⟩) (by simp) (wt_writes hk (by simp) (by simp)) R (M c)
    simpa using this
  clear hcc
  have hdi : (nd : Int) < 32 := by omega
  have hai : (na : Int) < 32 := by omega
  have hbi : (nb : Int) < 32 := by omega
  clear HC0 hk ho h
  go_enter Try.func14, Try.ntmps14
  go_wp2_with (first | (go_at_call 20; refine Calls.mono (HC.out _) ?_; rintro e w1 ⟨rfl, hb⟩; have HD : Hid (Dn w w1 rb mb ⟨15, nd, na, nb, im⟩ R M) := HS.out hb; obtain ⟨o0, o1, o2, o3, o4⟩ := HD.out.bx.o5; have q1 := HD.out.rm.r na ha; have z1 := HD.out.rm.rl; have z2 := HD.out.bx.lt; clear hb HC HS))
  go_quiet (fail)
  have HD2 : Hid (Dn w (w1.drewN nq) rb mb ⟨15, nd, na, nb, im⟩ R M) := HD.out.drew nq
  clear HD o0 o1 o2 o3 o4 q1 z1 z2
  generalize w1.drewN nq = W at *
  obtain ⟨o0, o1, o2, o3, o4⟩ := HD2.out.bx.o5
  have q0 := HD2.out.rm.r nd hd
  have q1 := HD2.out.rm.r na ha
  have q2 := HD2.out.rm.r nb hb'
  have q3 := HD2.out.rm.m c hc256
  have q4 := HD2.out.rm.rf nd
  have q5 := HD2.out.rm.mf c
  have z1 := HD2.out.rm.rl
  have z3 := HD2.out.rm.ml
  have z2 := HD2.out.bx.lt
  go_wp2_with fail
  have HD3 : Hid (Dn w W.drew rb mb ⟨15, nd, na, nb, im⟩ R M) := HD2.out.drew 1
  go_region
  all_goals
    go_wp2_with fail
    go_ret2
    exact HP.out _ HD3.out
set_option maxHeartbeats 4000000 in
theorem done_store (nd na nb : Nat) (im : Int) (rb mb : Nat) (R M : Nat → Int) (w : World) (hd : nd < 32) (ha : na < 32) (hb' : nb < 32) (ho : (O.mk 16 nd na nb im).Ok) (hk : okO ⟨16, nd, na, nb, im⟩ = true) (h : Rm w rb mb R M) :
    Calls Try.prog 14 #[(O.mk 16 nd na nb im).val, pt rb, pt mb] w (DonePost w rb mb ⟨16, nd, na, nb, im⟩ R) := by
  have HC0 := fun W => check_any ⟨16, nd, na, nb, im⟩ W ho
  rw [show ckE ⟨16, nd, na, nb, im⟩ = 0 by simp [ckE, hk]] at HC0
  have HC : Hid _ := HC0
  obtain ⟨c, hc⟩ : ∃ c : Nat, (R na + im) % 256 = c := ⟨((R na + im) % 256).toNat, by omega⟩
  have hc256 : c < 256 := by omega
  have hci : (c : Int) < 256 := by omega
  have HS : Hid (∀ {W : World}, Below (w.alloc (.cells (O.mk 16 nd na nb im).cells 40)).heap.size (w.alloc (.cells (O.mk 16 nd na nb im).cells 40)) W → Dn w W rb mb ⟨16, nd, na, nb, im⟩ R M) := fun {W} hb => by
    obtain ⟨a1, hb0, hz⟩ := one_new w _ _ hb
    exact ⟨hb0, a1, h.up hb0, h.rl, h.ml⟩
  have hcc : cellC ⟨16, nd, na, nb, im⟩ R = c := by
    rw [cellC_val (by unfold memO; rw [hk]; rfl)]
    show (R (na : Int).toNat + im) % 256 = c
    rw [Int.toNat_natCast]; exact hc
  have HP : Hid (∀ W : World, Dn w W rb mb ⟨16, nd, na, nb, im⟩ R M → DonePost w rb mb ⟨16, nd, na, nb, im⟩ R (.returned (.tuple #[.int .i64 (c : Int), .bool true])) (W.setCell ⟨mb, c, none⟩ (.int .i64 (R nb)))) := fun W hD => by
    exact ⟨true, R, upd M c (R nb), by rw [hcc], hD.rm.setM hc256 (hD.rm.ri nb), (Fr.of hD.up).setCell (.inr (.inr rfl)) _ _, fun _ _ _ => rfl⟩
  clear hcc
  have hdi : (nd : Int) < 32 := by omega
  have hai : (na : Int) < 32 := by omega
  have hbi : (nb : Int) < 32 := by omega
  clear HC0 hk ho h
  go_enter Try.func14, Try.ntmps14
  go_wp2_with (first | (go_at_call 20; refine Calls.mono (HC.out _) ?_; rintro e w1 ⟨rfl, hb⟩; have HD : Hid (Dn w w1 rb mb ⟨16, nd, na, nb, im⟩ R M) := HS.out hb; obtain ⟨o0, o1, o2, o3, o4⟩ := HD.out.bx.o5; have q1 := HD.out.rm.r na ha; have z1 := HD.out.rm.rl; have z2 := HD.out.bx.lt; clear hb HC HS))
  go_quiet (fail)
  have HD2 : Hid (Dn w (w1.drewN nq) rb mb ⟨16, nd, na, nb, im⟩ R M) := HD.out.drew nq
  clear HD o0 o1 o2 o3 o4 q1 z1 z2
  generalize w1.drewN nq = W at *
  obtain ⟨o0, o1, o2, o3, o4⟩ := HD2.out.bx.o5
  have q0 := HD2.out.rm.r nd hd
  have q1 := HD2.out.rm.r na ha
  have q2 := HD2.out.rm.r nb hb'
  have q3 := HD2.out.rm.m c hc256
  have q4 := HD2.out.rm.rf nd
  have q5 := HD2.out.rm.mf c
  have z1 := HD2.out.rm.rl
  have z3 := HD2.out.rm.ml
  have z2 := HD2.out.bx.lt
  go_wp2_with fail
  have HD3 : Hid (Dn w W.drew rb mb ⟨16, nd, na, nb, im⟩ R M) := HD2.out.drew 1
  go_region
  all_goals
    go_wp2_with fail
    go_ret2
    exact HP.out _ HD3.out
set_option maxHeartbeats 4000000 in
theorem done_print (nd na nb : Nat) (im : Int) (rb mb : Nat) (R M : Nat → Int) (w : World) (hd : nd < 32) (ha : na < 32) (hb' : nb < 32) (ho : (O.mk 17 nd na nb im).Ok) (hk : okO ⟨17, nd, na, nb, im⟩ = true) (h : Rm w rb mb R M) :
    Calls Try.prog 14 #[(O.mk 17 nd na nb im).val, pt rb, pt mb] w (DonePost w rb mb ⟨17, nd, na, nb, im⟩ R) := by
  have HC0 := fun W => check_any ⟨17, nd, na, nb, im⟩ W ho
  rw [show ckE ⟨17, nd, na, nb, im⟩ = 0 by simp [ckE, hk]] at HC0
  have HC : Hid _ := HC0
  obtain ⟨c, hc⟩ : ∃ c : Nat, (R na + im) % 256 = c := ⟨((R na + im) % 256).toNat, by omega⟩
  have hc256 : c < 256 := by omega
  have hci : (c : Int) < 256 := by omega
  have HS : Hid (∀ {W : World}, Below (w.alloc (.cells (O.mk 17 nd na nb im).cells 40)).heap.size (w.alloc (.cells (O.mk 17 nd na nb im).cells 40)) W → Dn w W rb mb ⟨17, nd, na, nb, im⟩ R M) := fun {W} hb => by
    obtain ⟨a1, hb0, hz⟩ := one_new w _ _ hb
    exact ⟨hb0, a1, h.up hb0, h.rl, h.ml⟩
  have HP : Hid (∀ W : World, Dn w W rb mb ⟨17, nd, na, nb, im⟩ R M → DonePost w rb mb ⟨17, nd, na, nb, im⟩ R (.returned (.tuple #[.int .i64 (-1), .bool true])) W) := fun W hD => by
    exact ⟨true, R, M, by rw [cellC_none (memO_kind (by simp) (by simp))], hD.rm, Fr.of hD.up, fun _ _ _ => rfl⟩
  have hdi : (nd : Int) < 32 := by omega
  have hai : (na : Int) < 32 := by omega
  have hbi : (nb : Int) < 32 := by omega
  clear HC0 hk ho h
  go_enter Try.func14, Try.ntmps14
  go_wp2_with (first | (go_at_call 20; refine Calls.mono (HC.out _) ?_; rintro e w1 ⟨rfl, hb⟩; have HD : Hid (Dn w w1 rb mb ⟨17, nd, na, nb, im⟩ R M) := HS.out hb; obtain ⟨o0, o1, o2, o3, o4⟩ := HD.out.bx.o5; have q1 := HD.out.rm.r na ha; have z1 := HD.out.rm.rl; have z2 := HD.out.bx.lt; clear hb HC HS))
  go_quiet (fail)
  have HD2 : Hid (Dn w (w1.drewN nq) rb mb ⟨17, nd, na, nb, im⟩ R M) := HD.out.drew nq
  clear HD o0 o1 o2 o3 o4 q1 z1 z2
  generalize w1.drewN nq = W at *
  obtain ⟨o0, o1, o2, o3, o4⟩ := HD2.out.bx.o5
  have q0 := HD2.out.rm.r nd hd
  have q1 := HD2.out.rm.r na ha
  have q2 := HD2.out.rm.r nb hb'
  have q3 := HD2.out.rm.m c hc256
  have q4 := HD2.out.rm.rf nd
  have q5 := HD2.out.rm.mf c
  have z1 := HD2.out.rm.rl
  have z3 := HD2.out.rm.ml
  have z2 := HD2.out.bx.lt
  go_wp2_with fail
  go_ret2
  exact HP.out _ HD2.out
set_option maxHeartbeats 4000000 in
theorem done_reck (p : Int) (hp1 : 2 ≤ p) (hp2 : p ≤ 14) (nd na nb : Nat) (im : Int) (rb mb : Nat) (R M : Nat → Int) (w : World) (hd : nd < 32) (ha : na < 32) (hb' : nb < 32) (ho : (O.mk p nd na nb im).Ok) (hk : okO ⟨p, nd, na, nb, im⟩ = true) (h : Rm w rb mb R M) :
    Calls Try.prog 14 #[(O.mk p nd na nb im).val, pt rb, pt mb] w (DonePost w rb mb ⟨p, nd, na, nb, im⟩ R) := by
  have HC0 := fun W => check_any ⟨p, nd, na, nb, im⟩ W ho
  rw [show ckE ⟨p, nd, na, nb, im⟩ = 0 by simp [ckE, hk]] at HC0
  have HC : Hid _ := HC0
  obtain ⟨c, hc⟩ : ∃ c : Nat, (R na + im) % 256 = c := ⟨((R na + im) % 256).toNat, by omega⟩
  have hc256 : c < 256 := by omega
  have hci : (c : Int) < 256 := by omega
  have HS : Hid (∀ {W : World}, Below (w.alloc (.cells (O.mk p nd na nb im).cells 40)).heap.size (w.alloc (.cells (O.mk p nd na nb im).cells 40)) W → Dn w W rb mb ⟨p, nd, na, nb, im⟩ R M) := fun {W} hb => by
    obtain ⟨a1, hb0, hz⟩ := one_new w _ _ hb
    exact ⟨hb0, a1, h.up hb0, h.rl, h.ml⟩
  have hcm : memO ⟨p, nd, na, nb, im⟩ = false := memO_kind (show ¬ p = 15 by omega) (show ¬ p = 16 by omega)
  have HP : Hid (∀ W : World, Dn w W rb mb ⟨p, nd, na, nb, im⟩ R M → DonePost w rb mb ⟨p, nd, na, nb, im⟩ R (.returned (.tuple #[.int .i64 (-1), .bool true])) (W.setCell ⟨rb, nd, none⟩ (.int .i64 (rkV p (R na) (R nb))))) := fun W hD => by
    refine ⟨true, upd R nd (rkV p (R na) (R nb)), M, by rw [cellC_none hcm], hD.rm.setR hd (rkV_in _ _ _ (hD.rm.ri na)), (Fr.of hD.up).setCell (.inr (.inl rfl)) _ _, ?_⟩
    have := upd_keeps (o := ⟨p, nd, na, nb, im⟩) (by simp) (wt_writes hk (show 1 ≤ p by omega) (show p ≤ 15 by omega)) R (rkV p (R na) (R nb))
    simpa using this
  have HP2 : Hid (∀ W : World, Dn w W rb mb ⟨p, nd, na, nb, im⟩ R M → DonePost w rb mb ⟨p, nd, na, nb, im⟩ R (.returned (.tuple #[.int .i64 (-1), .bool false])) W) := fun W hD => by
    exact ⟨false, R, M, by rw [cellC_none hcm], hD.rm, Fr.of hD.up, fun _ _ _ => rfl⟩
  clear hcm
  have HRk : Hid (∀ W, Calls Try.prog 21 #[.int .i8 p, .int .i64 (R na), .int .i64 (R nb)] W fun e w' => e = .returned (.tuple #[.int .i64 (rkV p (R na) (R nb)), .int .i64 (rkE p (R nb))]) ∧ w' = W) := fun W => rk_any p (R na) (R nb) W (h.ri na).1 (h.ri na).2
  have hdi : (nd : Int) < 32 := by omega
  have hai : (na : Int) < 32 := by omega
  have hbi : (nb : Int) < 32 := by omega
  have g0 : ¬ p < 1 := by omega
  have g18 : ¬ 17 < p := by omega
  have g1 : (p == 1) = false := by simp; omega
  have g15 : (p == 15) = false := by simp; omega
  have g16 : (p == 16) = false := by simp; omega
  have g17 : (p == 17) = false := by simp; omega
  clear HC0 hk ho h
  clear hp1 hp2
  go_enter Try.func14, Try.ntmps14
  go_wp2_with (first | (go_at_call 20; refine Calls.mono (HC.out _) ?_; rintro e w1 ⟨rfl, hb⟩; have HD : Hid (Dn w w1 rb mb ⟨p, nd, na, nb, im⟩ R M) := HS.out hb; obtain ⟨o0, o1, o2, o3, o4⟩ := HD.out.bx.o5; have q1 := HD.out.rm.r na ha; have z1 := HD.out.rm.rl; have z2 := HD.out.bx.lt; clear hb HC HS))
  go_quiet (fail)
  have HD2 : Hid (Dn w (w1.drewN nq) rb mb ⟨p, nd, na, nb, im⟩ R M) := HD.out.drew nq
  clear HD o0 o1 o2 o3 o4 q1 z1 z2
  generalize w1.drewN nq = W at *
  obtain ⟨o0, o1, o2, o3, o4⟩ := HD2.out.bx.o5
  have q0 := HD2.out.rm.r nd hd
  have q1 := HD2.out.rm.r na ha
  have q2 := HD2.out.rm.r nb hb'
  have q3 := HD2.out.rm.m c hc256
  have q4 := HD2.out.rm.rf nd
  have q5 := HD2.out.rm.mf c
  have z1 := HD2.out.rm.rl
  have z3 := HD2.out.rm.ml
  have z2 := HD2.out.bx.lt
  cases he : rkE p (R nb) == 0
  · have he2 : ¬ rkE p (R nb) = 0 := by simpa using he
    generalize rkE p (R nb) = er at *
    generalize rkV p (R na) (R nb) = vv at *
    go_wp2_with fail
    go_quiet (first | (go_at_call 21; refine Calls.quiet_of_same (HRk.out _)))
    have HD3 : Hid (Dn w (W.drewN nq) rb mb ⟨p, nd, na, nb, im⟩ R M) := HD2.out.drew nq
    go_wp2_with fail
    go_ret2
    exact HP2.out _ HD3.out
  · have he2 : rkE p (R nb) = 0 := by simpa using he
    rw [he2] at HRk
    clear he he2
    generalize rkV p (R na) (R nb) = vv at *
    go_wp2_with fail
    go_quiet (first | (go_at_call 21; refine Calls.quiet_of_same (HRk.out _)))
    have HD3 : Hid (Dn w (W.drewN nq) rb mb ⟨p, nd, na, nb, im⟩ R M) := HD2.out.drew nq
    clear HD2 o0 o1 o2 o3 o4 q0 q1 q2 q3 q4 q5 z1 z2 z3
    generalize W.drewN nq = W2 at *
    obtain ⟨o0, o1, o2, o3, o4⟩ := HD3.out.bx.o5
    have q0 := HD3.out.rm.r nd hd
    have q4 := HD3.out.rm.rf nd
    have z1 := HD3.out.rm.rl
    have z2 := HD3.out.bx.lt
    go_wp2_with fail
    have HD4 : Hid (Dn w W2.drew rb mb ⟨p, nd, na, nb, im⟩ R M) := HD3.out.drew 1
    go_region
    all_goals
      go_wp2_with fail
      go_ret2
      exact HP.out _ HD4.out
theorem done_any (o : O) (rb mb : Nat) (R M : Nat → Int) (w : World) (ho : o.Ok) (h : Rm w rb mb R M) : Calls Try.prog 14 #[o.val, pt rb, pt mb] w (DonePost w rb mb o R) := by
  cases hk : okO o
  · exact done_no o rb mb R M w ho h (.inl hk)
  · by_cases h1 : o.op < 1
    · exact done_no o rb mb R M w ho h (.inr (.inl h1))
    · by_cases h2 : 17 < o.op
      · exact done_no o rb mb R M w ho h (.inr (.inr h2))
      · obtain ⟨f1, f2, f3⟩ := fields_le hk
        have d0 := ho.d0
        have a0 := ho.a0
        have b0 := ho.b0
        obtain ⟨p, d, a, b, im⟩ := o
        simp only at f1 f2 f3 d0 a0 b0 h1 h2
        obtain ⟨nd, rfl⟩ := Int.eq_ofNat_of_zero_le d0
        obtain ⟨na, rfl⟩ := Int.eq_ofNat_of_zero_le a0
        obtain ⟨nb, rfl⟩ := Int.eq_ofNat_of_zero_le b0
        by_cases e1 : p = 1
        · subst e1; exact done_one nd na nb im rb mb R M w (by omega) (by omega) (by omega) ho hk h
        · by_cases e15 : p = 15
          · subst e15; exact done_load nd na nb im rb mb R M w (by omega) (by omega) (by omega) ho hk h
          · by_cases e16 : p = 16
            · subst e16; exact done_store nd na nb im rb mb R M w (by omega) (by omega) (by omega) ho hk h
            · by_cases e17 : p = 17
              · subst e17; exact done_print nd na nb im rb mb R M w (by omega) (by omega) (by omega) ho hk h
              · exact done_reck p (by omega) (by omega) nd na nb im rb mb R M w (by omega) (by omega) (by omega) ho hk h
end Go.Proofs.Ytehohblcildieaa.Al
