/- The statement BetterTells, out of what its callees answer. Conditions: the program lies in memory; the variables as the program lays them. -/
import Derived.Test.YtddcndlogoajkaaGreatDoorKe
import Derived.Test.YtddcndlogoajkaaGreatDoorKf
import Derived.Test.YtddcndlogoajkaaGreatDoorQLk
import Derived.Test.YtddcndlogoajkaaGreatDoorBa
import Derived.BigQuiet
import Derived.Deep.DeepCutAuto
namespace Go.Proofs.YtddcndlogoajkaaGreatDoor.L8.Bt
open Go.ChangeShapes Go.WideShapes Go.ChangeAt Go.RowKit Go.Great
open _root_.Go.Proofs.YtddcndlogoajkaaGreatDoor.L8.Op _root_.Go.Proofs.YtddcndlogoajkaaGreatDoor.L8.So
open _root_.Go.Proofs.YtddcndlogoajkaaGreatDoor.L8.Lv (rdL wOf PsOk psOk_of)
set_option maxRecDepth 20000

set_option maxHeartbeats 4000000 in
theorem rbury_no (ao : Option Addr) (cap : Nat) (ps : List Bk) (w : World) (h : PAt w ao ps) (hc : ckP ps ≠ 0) :
    Calls Tryz.prog 13 #[.agg #[.slice ao ps.length cap]] w fun e w' => e = .returned (.tuple #[.agg #[.slice none 0 0], .int .i64 (ckP ps)]) ∧ Below w.heap.size w w' := by
  have HC : Hid (∀ W, Below w.heap.size w W → Calls Tryz.prog 22 #[.agg #[.slice ao ps.length cap]] W fun e w' => e = .returned (.int .i64 (ckP ps)) ∧ Below W.heap.size W w') := fun W hb => refCheckP_any ao cap ps W (h.below hb)
  have HB0 : Hid (Below w.heap.size w ((w.alloc (.cells #[.slice ao ps.length cap] 24)).alloc (.cells #[.slice none 0 0] 24))) := ((Below.refl _ _).alloc (Nat.le_refl _) _).alloc (by simp) _
  have hc' : (ckP ps == 0) = false := by simpa using hc
  clear h
  generalize ckP ps = E at *
  go_enter Tryz.func13, Tryz.ntmps13
  go_wp2_with (first
    | (go_at_call 22; go_loud (refine Calls.mono (HC.out _ HB0.out) ?_; rintro e w1 ⟨rfl, hb⟩; obtain ⟨a1, a2, hb0, hz, hz1⟩ := two_new w _ _ _ _ hb; have r0 := a2.c 0 _ rfl; have f0 := a2.f 0; have r1 := a1.c 0 _ rfl; have HB : Hid (Below w.heap.size w w1) := hb0; clear hb hb0 a1 a2 HC HB0)))
  refine bodyPost_ret (v := .tuple #[.agg #[.slice none 0 0], .int .i64 E]) (by simp [results, Tryz.results13, go_sem, cs r0]) rfl ⟨rfl, HB.out.setCell (Nat.le_succ _) _⟩
/-- The burying under way: the boxes, the program. -/
structure Bz (w W : World) (ps zs : List Bk) (a : Option Addr) (c : Nat) : Prop where
  b : Below w.heap.size w W
  q : At W w.heap.size #[.slice a ps.length c]
  r : At W (w.heap.size + 1) #[.slice none 0 0]
  p : PZ w.heap.size W a zs
  m : ∃ m, Tks m ps zs
theorem Bz.up {w W W' : World} {ps zs : List Bk} {a : Option Addr} {c : Nat} (h : Bz w W ps zs a c) (hb : Below W.heap.size W W') : Bz w W' ps zs a c :=
  ⟨h.b.trans (hb.mono h.b.size), h.q.below hb h.q.lt, h.r.below hb h.r.lt, h.p.up (Fr.of hb), h.m⟩
/-- A program more in the box. -/
theorem Bz.next {w W W' : World} {ps zs ys : List Bk} {a a' : Option Addr} {c c' : Nat} (h : Bz w W ps zs a c) (hb : Below W.heap.size W W') (hp : PZ w.heap.size W' a' ys) (hd : Stp zs ys) : Bz w (W'.setCell ⟨w.heap.size, 0, none⟩ (.slice a' ps.length c')) ps ys a' c' := by
  have h2 := h.up hb
  obtain ⟨m, hm⟩ := h.m
  refine ⟨h2.b.setCell (Nat.le_refl _) _, h2.q.set (j := 0) (by simp) _, h2.r.other (by omega) _, hp.up ((Fr.refl (Two w.heap.size) W').setCell (.inr (.inl rfl)) 0 _), m + 1, ?_⟩
  exact tks_add hm ⟨_, hd, rfl⟩
set_option maxHeartbeats 4000000 in
theorem rbury_ok (qs : List Bk) (ao : Option Addr) (cap : Nat) (ps : List Bk) (w : World) (h : PAt w ao ps) (hG : PsG ps) (hq : FinIs ps qs) :
    Calls Tryz.prog 13 #[.agg #[.slice ao ps.length cap]] w fun e w' => ∃ a c, e = .returned (.tuple #[.agg #[.slice a ps.length c], .int .i64 0]) ∧ PAt w' a qs ∧ Below w.heap.size w w' := by
  have HC : Hid (∀ W, Below w.heap.size w W → Calls Tryz.prog 22 #[.agg #[.slice ao ps.length cap]] W fun e w' => e = .returned (.int .i64 0) ∧ Below W.heap.size W w') := fun W hb => by
    have := refCheckP_any ao cap ps W (h.below hb)
    rw [hG.ck] at this
    exact this
  have HB0 : Hid (Below w.heap.size w ((w.alloc (.cells #[.slice ao ps.length cap] 24)).alloc (.cells #[.slice none 0 0] 24))) := ((Below.refl _ _).alloc (Nat.le_refl _) _).alloc (by simp) _
  have HP : Hid (PAt w ao ps) := h
  have HDe : Hid (∀ (W : World) (zs : List Bk) (a : Option Addr) (c : Nat), Bz w W ps zs a c → (∃ i j, DdP zs i j) → Calls Tryz.prog 26 #[.agg #[.slice a ps.length c]] W fun e w' => ∃ i j : Nat, e = .returned (.tuple #[.int .i64 i, .int .i64 j, .bool true]) ∧ DdP zs i j ∧ Bz w w' ps zs a c) := fun W zs a c hb hd => by
    obtain ⟨m, hm⟩ := hb.m
    obtain ⟨hz, hzl, -⟩ := psG_tks hm hG
    have := rdead_any a c zs W hb.p.1 hz
    rw [hzl] at this
    refine this.mono ?_
    rintro e w' ⟨h1, ⟨i, j, rfl, h2⟩ | ⟨-, h2⟩⟩
    · exact ⟨i, j, rfl, h2, hb.up h1⟩
    · obtain ⟨i, j, h3⟩ := hd
      exact absurd h3 (h2 i j)
  have HDn : Hid (∀ (W : World) (zs : List Bk) (a : Option Addr) (c : Nat), Bz w W ps zs a c → (¬ ∃ i j, DdP zs i j) → Calls Tryz.prog 26 #[.agg #[.slice a ps.length c]] W fun e w' => e = .returned (.tuple #[.int .i64 0, .int .i64 0, .bool false]) ∧ Bz w w' ps zs a c) := fun W zs a c hb hd => by
    obtain ⟨m, hm⟩ := hb.m
    obtain ⟨hz, hzl, -⟩ := psG_tks hm hG
    have := rdead_any a c zs W hb.p.1 hz
    rw [hzl] at this
    refine this.mono ?_
    rintro e w' ⟨h1, ⟨i, j, rfl, h2⟩ | ⟨rfl, -⟩⟩
    · exact absurd ⟨i, j, h2⟩ hd
    · exact ⟨rfl, hb.up h1⟩
  have HWo : Hid (∀ (W : World) (zs : List Bk) (a : Option Addr) (c i j : Nat), Bz w W ps zs a c → DdP zs i j → Calls Tryz.prog 27 #[.agg #[.slice a ps.length c], .int .i64 i, .int .i64 j] W fun e w' => ∃ a' c', e = .returned (.agg #[.slice a' ps.length c']) ∧ (w'.cell? ⟨w.heap.size, 0, none⟩ = some (.slice a ps.length c) ∧ w'.frozen? ⟨w.heap.size, 0, none⟩ = false) ∧ ∃ ys, opsN ys + 1 = opsN zs ∧ Bz w (w'.setCell ⟨w.heap.size, 0, none⟩ (.slice a' ps.length c')) ps ys a' c') := fun W zs a c i j hb hd => by
    obtain ⟨m, hm⟩ := hb.m
    obtain ⟨hz, hzl, -⟩ := psG_tks hm hG
    have hi := (dd_lt hd).1
    have := without_any a c zs i j w.heap.size W hb.r.lt hb.p (small_g hz) hi ((dd_lt hd).2 hi)
    rw [hzl] at this
    refine this.mono ?_
    rintro e w' ⟨a', c', rfl, h1, h2⟩
    have h3 := hb.up h2
    exact ⟨a', c', rfl, ⟨h3.q.c 0 _ rfl, h3.q.f 0⟩, woP zs i j, opsN_stp (woP_stp hd), hb.next h2 h1 (woP_stp hd)⟩
  have HQ : Hid (∀ zs, (¬ ∃ i j, DdP zs i j) → (∃ m, Tks m ps zs) → zs = qs) := fun zs h1 h2 => hq zs ⟨dd_nrm fun i j h3 => h1 ⟨i, j, h3⟩, h2⟩
  have hn := hG.n
  have hni : (ps.length : Int) ≤ 128 := by omega
  clear h hG hq
  go_enter Tryz.func13, Tryz.ntmps13
  go_upto_region 2 with (first
    | (go_at_call 22; go_loud (refine Calls.mono (HC.out _ HB0.out) ?_; rintro e w1 ⟨rfl, hb⟩; obtain ⟨a1, a2, hb0, hz, hz1⟩ := two_new w _ _ _ _ hb; have HA : Hid (Bz w w1 ps ps ao cap) := ⟨hb0, a1, a2, PZ.of HP.out hb0, 0, rfl⟩; clear hb hb0 a1 a2 hz hz1 HC HB0)))
  go_wp2_with fail
  go_loopg [] (opsN ps + 1) (fun g1 wr => ∃ (zs : List Bk) (a : Option Addr) (c : Nat), opsN zs < g1 ∧ Bz w wr ps zs a c)
  case atStart => exact ⟨ps, ao, cap, by omega, HA.out⟩
  case round =>
    rename World => wr
    obtain ⟨zs, a, c, hg1, hd⟩ := hrel
    clear HA
    have HD : Hid _ := hd
    have q0 := hd.q.c 0 _ rfl
    clear hd
    by_cases hdd : ∃ i j, DdP zs i j
    · have HD1 : Hid _ := HDe.out wr zs a c HD.out hdd
      go_wp2_with (first
        | (go_at_call 26; go_loud (refine Calls.mono HD1.out ?_; rintro e w2 ⟨i, j, rfl, h1, h2⟩; have H2 : Hid _ := h2; have HW2 : Hid _ := HWo.out w2 zs a c i j h2 h1; have q0 := h2.q.c 0 _ rfl; clear h1 h2 HD1 HD hdd))
        | (go_at_call 27; go_loud (refine Calls.mono HW2.out ?_; rintro e w3 ⟨a', c', rfl, ⟨t0, t1⟩, ys, h1, h2⟩; have H3 : Hid _ := h2; clear h2 HW2 H2 q0)))
      go_roundg (opsN ys + 1)
      case measure => omega
      case rel => exact ⟨ys, a', c', by omega, H3.out⟩
    · have HD1 : Hid _ := HDn.out wr zs a c HD.out hdd
      have hqs := HQ.out zs hdd HD.out.m
      subst hqs
      clear HD HQ
      go_upto_region 6 with (first
        | (go_at_call 26; go_loud (refine Calls.mono HD1.out ?_; rintro e w2 ⟨rfl, h2⟩; have H2 : Hid _ := h2; clear h2 HD1 q0)))
      have q1 := H2.out.q.c 0 _ rfl
      have r0 := H2.out.r.c 0 _ rfl
      have f0 := H2.out.r.f 0
      have HZ : Hid (∀ v, PAt (w2.setCell ⟨w.heap.size + 1, 0, none⟩ v) a zs ∧ Below w.heap.size w (w2.setCell ⟨w.heap.size + 1, 0, none⟩ v)) := fun v => by
        exact ⟨H2.out.p.pat ((Fr.refl (Two w.heap.size) w2).setCell (.inr (.inr rfl)) 0 v), H2.out.b.setCell (by show w.heap.size ≤ w.heap.size + 1; omega) v⟩
      go_wp2_with fail
      refine bodyPost_ret (v := .tuple #[.agg #[.slice a ps.length c], .int .i64 0]) (by simp [results, Tryz.results13, go_sem, cs r0]) rfl ⟨a, c, rfl, (HZ.out _).1, (HZ.out _).2⟩
end Go.Proofs.YtddcndlogoajkaaGreatDoor.L8.Bt
namespace Go.Proofs.YtddcndlogoajkaaGreatDoor.L8.Bt
open Go.ChangeShapes Go.WideShapes Go.ChangeAt Go.RowKit Go.Great
open _root_.Go.Proofs.YtddcndlogoajkaaGreatDoor.L8.So _root_.Go.Proofs.YtddcndlogoajkaaGreatDoor.L8.Op _root_.Go.Proofs.YtddcndlogoajkaaGreatDoor.L8.Fl
open _root_.Go.Proofs.YtddcndlogoajkaaGreatDoor.L8.Lv (PsOk psOk_of)
set_option maxRecDepth 20000

/-- A program's box: the value and the program. -/
structure Px (W : World) (b : Nat) (a : Option Addr) (n c : Nat) (ps : List Bk) : Prop where
  t : At W b #[.slice a n c]
  p : PAt W a ps
theorem Px.up {W W' : World} {b : Nat} {a : Option Addr} {n c : Nat} {ps : List Bk} (h : Px W b a n c ps) (hb : Below W.heap.size W W') : Px W' b a n c ps := ⟨h.t.below hb h.t.lt, h.p.below hb⟩
theorem Px.new {W : World} {a : Option Addr} {n c : Nat} {ps : List Bk} (h : PAt W a ps) (t : TypeId) : Px (W.alloc (.cells #[.slice a n c] t)) W.heap.size a n c ps := ⟨Op.At.new _ _ _, h.below (below_al _)⟩
/-- What a function of a program tells: a program and an error. -/
def Tel (f : Nat) (w : World) (n : Nat) (ps fs : List Bk) (E : Int) : Prop := ∀ W a c, Below w.heap.size w W → PAt W a ps → Calls Tryz.prog f #[.agg #[.slice a n c]] W fun e w' => ∃ a' c', e = .returned (.tuple #[.agg #[.slice a' fs.length c'], .int .i64 E]) ∧ PAt w' a' fs ∧ Below W.heap.size W w'
set_option maxHeartbeats 8000000 in
theorem tells_walk (fs bs : List Bk) (E : Int) (ao : Option Addr) (cap : Nat) (ps : List Bk) (w : World) (h : PAt w ao ps) (he : Env w) (hg : greatB ps = false) (H7 : Tel 7 w ps.length ps fs E) (H9 : Tel 9 w ps.length ps fs E) (H12 : Tel 12 w ps.length ps bs E) (H13 : Tel 13 w ps.length ps bs E) :
    Calls Tryz.prog 3 #[.agg #[.slice ao ps.length cap]] w fun e w' => e = .returned (.bool true) ∧ Below w.heap.size w w' := by
  have HQ : Hid (Px (w.alloc (.cells #[.slice ao ps.length cap] 24)) w.heap.size ao ps.length cap ps ∧ Below w.heap.size w (w.alloc (.cells #[.slice ao ps.length cap] 24))) := ⟨Px.new h 24, below_al _⟩
  have hsm := small_of h hg
  have HK : Hid (∀ W, Below w.heap.size w W → Calls Tryz.prog 6 #[] W fun e w' => e = .returned (.bool true) ∧ Below W.heap.size W w') := fun W hb => wakes_any W (he.up hb)
  have HGr : Hid (∀ W, Below w.heap.size w W → Calls Tryz.prog 5 #[.agg #[.slice ao ps.length cap]] W fun e w' => e = .returned (.bool false) ∧ Below W.heap.size W w') := fun W hb => by
    have := great_any ao cap ps W (h.below hb)
    rw [hg] at this
    exact this
  have HCp : Hid (∀ W, Below w.heap.size w W → Calls Tryz.prog 8 #[.agg #[.slice ao ps.length cap]] W fun e w' => ∃ a c, e = .returned (.agg #[.slice a ps.length c]) ∧ PAt w' a ps ∧ Below W.heap.size W w') := fun W hb => copiedProgram_any ao cap ps W (h.below hb) hsm
  have HO : Hid (∀ W, Below w.heap.size w W → Calls Tryz.prog 11 #[.agg #[.slice ao ps.length cap]] W fun e w' => e = .returned (.int .i64 ((opsN ps : Nat) : Int)) ∧ Below W.heap.size W w') := fun W hb => ops_any ao cap ps W (h.below hb) hsm.n
  have HL : Hid (∀ zs W a b c d, PAt W a zs → PAt W b zs → Calls Tryz.prog 10 #[.agg #[.slice a zs.length c], .agg #[.slice b zs.length d]] W fun e w' => e = .returned (.bool true) ∧ Below W.heap.size W w') := fun zs W a b c d h1 h2 => likeProgram_any a b c d zs W h1 h2
  have HH7 : Hid _ := H7
  have HH9 : Hid _ := H9
  have HH12 : Hid _ := H12
  have HH13 : Hid _ := H13
  unfold Tel at HH7 HH9 HH12 HH13
  clear h he hg hsm H7 H9 H12 H13
  generalize hfl : fs.length = fl at *
  generalize hbl : bs.length = bl at *
  have HLf : Hid (∀ W a b c d, PAt W a fs → PAt W b fs → Calls Tryz.prog 10 #[.agg #[.slice a fl c], .agg #[.slice b fl d]] W fun e w' => e = .returned (.bool true) ∧ Below W.heap.size W w') := fun W a b c d h1 h2 => by
    have := HL.out fs W a b c d h1 h2
    rw [hfl] at this
    exact this
  have HLb : Hid (∀ W a b c d, PAt W a bs → PAt W b bs → Calls Tryz.prog 10 #[.agg #[.slice a bl c], .agg #[.slice b bl d]] W fun e w' => e = .returned (.bool true) ∧ Below W.heap.size W w') := fun W a b c d h1 h2 => by
    have := HL.out bs W a b c d h1 h2
    rw [hbl] at this
    exact this
  clear HL hfl hbl
  generalize ((opsN ps : Nat) : Int) = on at *
  generalize ps.length = pl at *
  go_enter Tryz.func3, Tryz.ntmps3
  go_upto_region 4 with (first
    | (go_at_call 5; go_loud (refine Calls.mono (HGr.out _ HQ.out.2) ?_; rintro e w1 ⟨rfl, b1⟩; have H1 : Hid (Px w1 w.heap.size ao pl cap ps ∧ Below w.heap.size w w1) := ⟨HQ.out.1.up b1, HQ.out.2.trans (b1.mono HQ.out.2.size)⟩; have c0 := H1.out.1.t.c 0 _ rfl; have cl := H1.out.1.t.lt; clear b1 HQ HGr))
    | (go_at_call 8; go_loud (refine Calls.mono (HCp.out _ H1.out.2) ?_; rintro e w2 ⟨a2, c2, rfl, hp2, b2⟩; have HP2 : Hid _ := hp2; have H2 : Hid (Px w2 w.heap.size ao pl cap ps ∧ Below w.heap.size w w2) := ⟨H1.out.1.up b2, H1.out.2.trans (b2.mono H1.out.2.size)⟩; clear hp2 b2 H1 c0 cl))
    | (go_at_call 7; go_loud (refine Calls.mono (HH7.out _ _ _ H2.out.2 HP2.out) ?_; rintro e w3 ⟨a3, c3, rfl, hp3, b3⟩; have H3 : Hid (Px (w3.alloc (.cells #[.slice a3 fl c3] 24)) w.heap.size ao pl cap ps ∧ Px (w3.alloc (.cells #[.slice a3 fl c3] 24)) w3.heap.size a3 fl c3 fs ∧ Below w.heap.size w (w3.alloc (.cells #[.slice a3 fl c3] 24))) := ⟨(H2.out.1.up b3).up (below_al _), Px.new hp3 24, (H2.out.2.trans (b3.mono H2.out.2.size)).trans ((below_al _).mono (Nat.le_trans H2.out.2.size b3.size))⟩; clear hp3 b3 H2 HP2 HH7)))
  generalize (w3.alloc (.cells #[.slice a3 fl c3] 24)) = w4 at *
  generalize w3.heap.size = t3 at *
  clear w3
  have c0 := H3.out.1.t.c 0 _ rfl
  have cl := H3.out.1.t.lt
  go_upto_region 5 with (first
    | (go_at_call 9; go_loud (refine Calls.mono (HH9.out _ _ _ H3.out.2.2 H3.out.1.p) ?_; rintro e w5 ⟨a5, c5, rfl, hp5, b5⟩; have H5 : Hid (Px (w5.alloc (.cells #[.slice a5 fl c5] 24)) w.heap.size ao pl cap ps ∧ Px (w5.alloc (.cells #[.slice a5 fl c5] 24)) t3 a3 fl c3 fs ∧ Px (w5.alloc (.cells #[.slice a5 fl c5] 24)) w5.heap.size a5 fl c5 fs ∧ Below w.heap.size w (w5.alloc (.cells #[.slice a5 fl c5] 24))) := ⟨(H3.out.1.up b5).up (below_al _), (H3.out.2.1.up b5).up (below_al _), Px.new hp5 24, (H3.out.2.2.trans (b5.mono H3.out.2.2.size)).trans ((below_al _).mono (Nat.le_trans H3.out.2.2.size b5.size))⟩; clear hp5 b5 H3 HH9 c0 cl)))
  generalize (w5.alloc (.cells #[.slice a5 fl c5] 24)) = w6 at *
  generalize w5.heap.size = t5 at *
  clear w5
  have c0 := H5.out.1.t.c 0 _ rfl
  have cl := H5.out.1.t.lt
  have s3 := H5.out.2.1.t.c 0 _ rfl
  have s3l := H5.out.2.1.t.lt
  have s5 := H5.out.2.2.1.t.c 0 _ rfl
  have s5l := H5.out.2.2.1.t.lt
  by_cases ho : (60 : Int) < on
  · go_wp2_with (first
      | (go_at_call 10; go_loud (refine Calls.mono (HLf.out _ _ _ _ _ H5.out.2.1.p H5.out.2.2.1.p) ?_; rintro e w7 ⟨rfl, b7⟩; have H7 : Hid (Px w7 w.heap.size ao pl cap ps ∧ Below w.heap.size w w7) := ⟨H5.out.1.up b7, H5.out.2.2.2.trans (b7.mono H5.out.2.2.2.size)⟩; have c0 := H7.out.1.t.c 0 _ rfl; have cl := H7.out.1.t.lt; clear b7 H5 HLf s3 s3l s5 s5l))
      | (go_at_call 11; go_loud (refine Calls.mono (HO.out _ H7.out.2) ?_; rintro e w8 ⟨rfl, b8⟩; have H8 : Hid (Below w.heap.size w w8) := H7.out.2.trans (b8.mono H7.out.2.size); clear b8 H7 HO c0 cl))
      | (go_at_call 6; go_loud (refine Calls.mono (HK.out _ H8.out) ?_; rintro e w9 ⟨rfl, b9⟩; have H9 : Hid (Below w.heap.size w w9) := H8.out.trans (b9.mono H8.out.size); clear b9 H8 HK)))
    go_ret
    exact ⟨rfl, H9.out⟩
  · go_upto_region 10 with (first
      | (go_at_call 10; go_loud (refine Calls.mono (HLf.out _ _ _ _ _ H5.out.2.1.p H5.out.2.2.1.p) ?_; rintro e w7 ⟨rfl, b7⟩; have H7 : Hid (Px w7 w.heap.size ao pl cap ps ∧ Below w.heap.size w w7) := ⟨H5.out.1.up b7, H5.out.2.2.2.trans (b7.mono H5.out.2.2.2.size)⟩; have c0 := H7.out.1.t.c 0 _ rfl; have cl := H7.out.1.t.lt; clear b7 H5 HLf s3 s3l s5 s5l))
      | (go_at_call 11; go_loud (refine Calls.mono (HO.out _ H7.out.2) ?_; rintro e w8 ⟨rfl, b8⟩; have H8 : Hid (Px w8 w.heap.size ao pl cap ps ∧ Below w.heap.size w w8) := ⟨H7.out.1.up b8, H7.out.2.trans (b8.mono H7.out.2.size)⟩; have c0 := H8.out.1.t.c 0 _ rfl; have cl := H8.out.1.t.lt; clear b8 H7 HO))
      | (go_at_call 8; go_loud (refine Calls.mono (HCp.out _ H8.out.2) ?_; rintro e w9 ⟨a9, c9, rfl, hp9, b9⟩; have HP9 : Hid _ := hp9; have H9 : Hid (Px w9 w.heap.size ao pl cap ps ∧ Below w.heap.size w w9) := ⟨H8.out.1.up b9, H8.out.2.trans (b9.mono H8.out.2.size)⟩; clear hp9 b9 H8 HCp c0 cl))
      | (go_at_call 12; go_loud (refine Calls.mono (HH12.out _ _ _ H9.out.2 HP9.out) ?_; rintro e wa ⟨aa, ca, rfl, hpa, ba⟩; have HA : Hid (Px (wa.alloc (.cells #[.slice aa bl ca] 24)) w.heap.size ao pl cap ps ∧ Px (wa.alloc (.cells #[.slice aa bl ca] 24)) wa.heap.size aa bl ca bs ∧ Below w.heap.size w (wa.alloc (.cells #[.slice aa bl ca] 24))) := ⟨(H9.out.1.up ba).up (below_al _), Px.new hpa 24, (H9.out.2.trans (ba.mono H9.out.2.size)).trans ((below_al _).mono (Nat.le_trans H9.out.2.size ba.size))⟩; clear hpa ba H9 HP9 HH12)))
    generalize (wa.alloc (.cells #[.slice aa bl ca] 24)) = wb at *
    generalize wa.heap.size = ta at *
    clear wa
    have c0 := HA.out.1.t.c 0 _ rfl
    have cl := HA.out.1.t.lt
    go_upto_region 11 with (first
      | (go_at_call 13; go_loud (refine Calls.mono (HH13.out _ _ _ HA.out.2.2 HA.out.1.p) ?_; rintro e wc ⟨ac, cc, rfl, hpc, bc⟩; have HC : Hid (Px (wc.alloc (.cells #[.slice ac bl cc] 24)) ta aa bl ca bs ∧ Px (wc.alloc (.cells #[.slice ac bl cc] 24)) wc.heap.size ac bl cc bs ∧ Below w.heap.size w (wc.alloc (.cells #[.slice ac bl cc] 24))) := ⟨(HA.out.2.1.up bc).up (below_al _), Px.new hpc 24, (HA.out.2.2.trans (bc.mono HA.out.2.2.size)).trans ((below_al _).mono (Nat.le_trans HA.out.2.2.size bc.size))⟩; clear hpc bc HA HH13 c0 cl)))
    generalize (wc.alloc (.cells #[.slice ac bl cc] 24)) = wd at *
    generalize wc.heap.size = tc at *
    clear wc
    have s3 := HC.out.1.t.c 0 _ rfl
    have s3l := HC.out.1.t.lt
    have s5 := HC.out.2.1.t.c 0 _ rfl
    have s5l := HC.out.2.1.t.lt
    go_wp2_with (first
      | (go_at_call 10; go_loud (refine Calls.mono (HLb.out _ _ _ _ _ HC.out.1.p HC.out.2.1.p) ?_; rintro e we ⟨rfl, be⟩; have HE : Hid (Below w.heap.size w we) := HC.out.2.2.trans (be.mono HC.out.2.2.size); clear be HC HLb s3 s3l s5 s5l))
      | (go_at_call 6; go_loud (refine Calls.mono (HK.out _ HE.out) ?_; rintro e wf ⟨rfl, bf⟩; have HF : Hid (Below w.heap.size w wf) := HE.out.trans (bf.mono HE.out.size); clear bf HE HK)))
    go_ret
    exact ⟨rfl, HF.out⟩
set_option maxHeartbeats 4000000 in
theorem tells_great (ao : Option Addr) (cap : Nat) (ps : List Bk) (w : World) (h : PAt w ao ps) (he : Env w) (hg : greatB ps = true) :
    Calls Tryz.prog 3 #[.agg #[.slice ao ps.length cap]] w fun e w' => e = .returned (.bool true) ∧ Below w.heap.size w w' := by
  have HQ : Hid (Px (w.alloc (.cells #[.slice ao ps.length cap] 24)) w.heap.size ao ps.length cap ps ∧ Below w.heap.size w (w.alloc (.cells #[.slice ao ps.length cap] 24))) := ⟨Px.new h 24, below_al _⟩
  have HK : Hid (∀ W, Below w.heap.size w W → Calls Tryz.prog 6 #[] W fun e w' => e = .returned (.bool true) ∧ Below W.heap.size W w') := fun W hb => wakes_any W (he.up hb)
  have HGr : Hid (∀ W, Below w.heap.size w W → Calls Tryz.prog 5 #[.agg #[.slice ao ps.length cap]] W fun e w' => e = .returned (.bool true) ∧ Below W.heap.size W w') := fun W hb => by
    have := great_any ao cap ps W (h.below hb)
    rw [hg] at this
    exact this
  clear h he hg
  generalize ps.length = pl at *
  go_enter Tryz.func3, Tryz.ntmps3
  go_wp2_with (first
    | (go_at_call 5; go_loud (refine Calls.mono (HGr.out _ HQ.out.2) ?_; rintro e w1 ⟨rfl, b1⟩; have H1 : Hid (Below w.heap.size w w1) := HQ.out.2.trans (b1.mono HQ.out.2.size); clear b1 HQ HGr))
    | (go_at_call 6; go_loud (refine Calls.mono (HK.out _ H1.out) ?_; rintro e w2 ⟨rfl, b2⟩; have H2 : Hid (Below w.heap.size w w2) := H1.out.trans (b2.mono H1.out.size); clear b2 H1 HK)))
  go_ret
  exact ⟨rfl, H2.out⟩
/-- BetterTells' function says yes, whatever the program. -/
theorem law_tells (ao : Option Addr) (cap : Nat) (ps : List Bk) (w : World) (h : PAt w ao ps) (he : Env w) :
    Calls Tryz.prog 3 #[.agg #[.slice ao ps.length cap]] w fun e w' => e = .returned (.bool true) ∧ Below w.heap.size w w' := by
  cases hg : greatB ps with
  | true => exact tells_great ao cap ps w h he hg
  | false =>
    by_cases hc : ckP ps = 0
    · have hG := psG_of (psOk_of h) hc
      have hfl : (fdP ps).length = ps.length := by simp [fdP]
      obtain ⟨qs, hq, hql⟩ : ∃ qs, FinIs ps qs ∧ qs.length = ps.length := by
        by_cases hx : ∃ qs, Fin ps qs
        · obtain ⟨qs, hq⟩ := hx
          obtain ⟨g1, m, g2⟩ := hq
          exact ⟨qs, fun zs hz => fin_one hz ⟨g1, m, g2⟩, (psG_tks g2 hG).2.1⟩
        · exact ⟨ps, fun zs hz => absurd ⟨zs, hz⟩ hx, rfl⟩
      exact tells_walk (fdP ps) qs 0 ao cap ps w h he hg
        (fun W a c hb hp => by rw [hfl]; exact fold_ok a c ps W hp (he.up hb) hG)
        (fun W a c _ hp => by rw [hfl]; exact rfold_ok a c ps W hp hG)
        (fun W a c hb hp => by
          rw [hql]
          refine (bury_ok qs a c ps W hp (he.up hb) hG hq).mono ?_
          rintro e w' ⟨a', c', h1, h2, -, h3⟩
          exact ⟨a', c', h1, h2, h3⟩)
        (fun W a c _ hp => by rw [hql]; exact rbury_ok qs a c ps W hp hG hq)
    · exact tells_walk [] [] (ckP ps) ao cap ps w h he hg
        (fun W a c hb hp => (fold_no a c ps W hp (he.up hb) hc).mono fun e w' hh => ⟨none, 0, hh.1, pAt_nil _ _, hh.2⟩)
        (fun W a c _ hp => (rfold_no a c ps W hp hc).mono fun e w' hh => ⟨none, 0, hh.1, pAt_nil _ _, hh.2⟩)
        (fun W a c hb hp => (bury_no a c ps W hp (he.up hb) hc).mono fun e w' hh => ⟨none, 0, hh.1, pAt_nil _ _, hh.2⟩)
        (fun W a c _ hp => (rbury_no a c ps W hp hc).mono fun e w' hh => ⟨none, 0, hh.1, pAt_nil _ _, hh.2⟩)
end Go.Proofs.YtddcndlogoajkaaGreatDoor.L8.Bt
