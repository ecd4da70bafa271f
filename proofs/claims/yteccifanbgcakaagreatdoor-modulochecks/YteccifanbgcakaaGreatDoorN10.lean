/- What holds of two operations (pair), read off the program by the walk. Conditions: the parts, the last writers and the list lie in memory. -/
import Derived.Test.YteccifanbgcakaaGreatDoorN08
import Derived.Deep.DeepCutAuto
import Derived.Deep.RegionHeld
namespace Go.Proofs.YteccifanbgcakaaGreatDoor.Dp
open Go.ChangeShapes Go.WideShapes Go.ChangeAt Go.RowKit
open _root_.Go.Proofs.YteccifanbgcakaaGreatDoor.Op _root_.Go.Proofs.YteccifanbgcakaaGreatDoor.So
set_option maxRecDepth 20000

/-- A part at a place. -/
structure POn (w : World) (b f : Nat) (p : Pt) : Prop where
  c0 : w.cell? ⟨b, f, none⟩ = some (.int .i8 p.o)
  c1 : w.cell? ⟨b, f + 1, none⟩ = some (.int .u8 p.r)
  c2 : w.cell? ⟨b, f + 2, none⟩ = some (.int .u32 p.w)
  c3 : w.cell? ⟨b, f + 3, none⟩ = some (.int .u32 p.m)
  c4 : w.cell? ⟨b, f + 4, none⟩ = some (.int .i64 p.l)
  c5 : w.cell? ⟨b, f + 5, none⟩ = some (.bool p.b)
structure PsAt (w : World) (pb : Nat) (ps : List Pt) : Prop where
  lt : pb < w.heap.size
  c : ∀ (i : Nat) (h : i < ps.length), POn w pb (i * 6) ps[i]
theorem PsAt.fr {X : Nat → Prop} {w w' : World} {pb : Nat} {ps : List Pt} (h : PsAt w pb ps) (g : Fr X w w') (hx : ¬ X pb) : PsAt w' pb ps :=
  ⟨Nat.lt_of_lt_of_le h.lt g.size, fun i hi => by
    have c := h.c i hi
    exact ⟨(g.cell h.lt hx _).trans c.c0, (g.cell h.lt hx _).trans c.c1, (g.cell h.lt hx _).trans c.c2, (g.cell h.lt hx _).trans c.c3, (g.cell h.lt hx _).trans c.c4, (g.cell h.lt hx _).trans c.c5⟩⟩
/-- The finder: the list, the parts; the last writers beside it. -/
structure Fd (w : World) (f pb pc : Nat) (ps : List Pt) (lb : Nat) (L : Nat → Int) (ve : Value) (es : List Ed) : Prop where
  fe : FE w f ve es
  cp : w.cell? ⟨f, 1, none⟩ = some (.slice (some ⟨pb, 0, none⟩) ps.length pc)
  ps : PsAt w pb ps
  la : La w lb L
  n1 : ¬ pb = f
  n2 : ¬ lb = f
  n3 : ¬ ve.ownBlock = some pb
  n4 : ¬ ve.ownBlock = some lb
theorem Fd.up {w w' : World} {f pb pc lb : Nat} {ps : List Pt} {L : Nat → Int} {ve : Value} {es : List Ed} (h : Fd w f pb pc ps lb L ve es) (hb : Below w.heap.size w w') : Fd w' f pb pc ps lb L ve es :=
  ⟨h.fe.up hb, by rw [(bcell hb).1 _ _ h.fe.lt]; exact h.cp, h.ps.fr (Fr.of (X := Non) hb) (fun h => h), h.la.fr (Fr.of (X := Non) hb) (fun h => h), h.n1, h.n2, h.n3, h.n4⟩
/-- The boxes of pair. -/
structure Px (w X : World) (e : Ed) (a b : Pt) (qa qb : Nat) : Prop where
  e : At X w.heap.size #[.int .i64 e.f, .int .i64 e.t, .int .i64 e.l, .int .i64 e.d, .int .i8 e.y]
  a : At X qa a.cells
  b : At X qb b.cells
  up : Below w.heap.size w X
theorem px_ab {w w1 : World} {e : Ed} {a b : Pt} (h1 : At w1 w.heap.size #[.int .i64 e.f, .int .i64 e.t, .int .i64 e.l, .int .i64 e.d, .int .i8 e.y]) (h2 : Below w.heap.size w w1) (h3 : w.heap.size < w1.heap.size) : Px w (((w1.alloc (.cells a.cells 116)).alloc (.cells b.cells 116)).drew) e a b w1.heap.size (w1.heap.size + 1) := by
  have u1 : Below w1.heap.size w1 (((w1.alloc (.cells a.cells 116)).alloc (.cells b.cells 116)).drew) := (((Below.refl _ _).alloc (Nat.le_refl _) _).alloc (by simp) _).trans ((drew_up _).mono (by simp; omega))
  have g1 := At.new w1 a.cells 116
  have g2 := At.new (w1.alloc (.cells a.cells 116)) b.cells 116
  rw [show (w1.alloc (.cells a.cells 116)).heap.size = w1.heap.size + 1 by simp] at g2
  have g1' := (g1.alloc (.cells b.cells 116)).below (drew_up _) (g1.alloc (.cells b.cells 116)).lt
  have g2' := g2.below (drew_up _) g2.lt
  exact ⟨h1.below u1 h1.lt, g1', g2', h2.trans (u1.mono (Nat.le_of_lt h3))⟩
theorem px_ba {w w1 : World} {e : Ed} {a b : Pt} (h1 : At w1 w.heap.size #[.int .i64 e.f, .int .i64 e.t, .int .i64 e.l, .int .i64 e.d, .int .i8 e.y]) (h2 : Below w.heap.size w w1) (h3 : w.heap.size < w1.heap.size) : Px w (((w1.alloc (.cells b.cells 116)).alloc (.cells a.cells 116)).drew) e a b (w1.heap.size + 1) w1.heap.size := by
  have u1 : Below w1.heap.size w1 (((w1.alloc (.cells b.cells 116)).alloc (.cells a.cells 116)).drew) := (((Below.refl _ _).alloc (Nat.le_refl _) _).alloc (by simp) _).trans ((drew_up _).mono (by simp; omega))
  have g1 := At.new w1 b.cells 116
  have g2 := At.new (w1.alloc (.cells b.cells 116)) a.cells 116
  rw [show (w1.alloc (.cells b.cells 116)).heap.size = w1.heap.size + 1 by simp] at g2
  have g1' := (g1.alloc (.cells a.cells 116)).below (drew_up _) (g1.alloc (.cells a.cells 116)).lt
  have g2' := g2.below (drew_up _) g2.lt
  exact ⟨h1.below u1 h1.lt, g2', g1', h2.trans (u1.mono (Nat.le_of_lt h3))⟩
def rowsP (a b : Pt) (lr i : Int) (meet : Bool) : List Rw :=
  [⟨0, (bits BinOp.and IntKind.u32 a.w b.m != 0) && (lr == i), a.l⟩, ⟨1, (bits BinOp.and IntKind.u32 a.m b.w != 0), 0⟩, ⟨2, (bits BinOp.and IntKind.u32 a.w b.w != 0), max 0 (a.l - b.l + 1)⟩, ⟨3, meet, memL a b⟩, ⟨4, a.b && b.b, 1⟩]
theorem rows5 (w : World) (ty : TypeId) (r0 r1 r2 r3 r4 : Rw) : RowsAt (w.alloc (.cells #[.int .i8 r0.y, .bool r0.b, .int .i64 r0.l, .int .i8 r1.y, .bool r1.b, .int .i64 r1.l, .int .i8 r2.y, .bool r2.b, .int .i64 r2.l, .int .i8 r3.y, .bool r3.b, .int .i64 r3.l, .int .i8 r4.y, .bool r4.b, .int .i64 r4.l] ty)) w.heap.size [r0, r1, r2, r3, r4] := by
  refine ⟨by simp, fun k h => ?_, fun k h => ?_, fun k h => ?_⟩
  all_goals
    have h5 : k < 5 := h
    match k, h5 with
    | 0, _ => simp
    | 1, _ => simp
    | 2, _ => simp
    | 3, _ => simp
    | 4, _ => simp
theorem ps_fr {Y : Nat → Prop} {X W : World} {q0 qa qb lb r : Nat} {E A B : Array Value} {v : Value} (h : At X q0 E ∧ At X qa A ∧ At X qb B ∧ X.cell? ⟨lb, r, none⟩ = some v ∧ lb < X.heap.size) (g : Fr Y X W) (n0 : ¬ Y q0) (n1 : ¬ Y qa) (n2 : ¬ Y qb) (n3 : ¬ Y lb) : At W q0 E ∧ At W qa A ∧ At W qb B ∧ W.cell? ⟨lb, r, none⟩ = some v ∧ lb < W.heap.size :=
  ⟨at_fr' h.1 g n0, at_fr' h.2.1 g n1, at_fr' h.2.2.1 g n2, (g.cell h.2.2.2.2 n3 _).trans h.2.2.2.1, Nat.lt_of_lt_of_le h.2.2.2.2 g.size⟩
theorem ps_up {X W : World} {q0 qa qb lb r : Nat} {E A B : Array Value} {v : Value} (h : At X q0 E ∧ At X qa A ∧ At X qb B ∧ X.cell? ⟨lb, r, none⟩ = some v ∧ lb < X.heap.size) (g : Below X.heap.size X W) : At W q0 E ∧ At W qa A ∧ At W qb B ∧ W.cell? ⟨lb, r, none⟩ = some v ∧ lb < W.heap.size :=
  ps_fr h (Fr.of (X := Non) g) (fun h => h) (fun h => h) (fun h => h) (fun h => h)
set_option maxHeartbeats 8000000 in
theorem pair_any (f pb pc lb : Nat) (ps : List Pt) (L : Nat → Int) (ve : Value) (es : List Ed) (e : Ed) (i j : Nat) (meet : Bool) (w : World) (h : Fd w f pb pc ps lb L ve es) (hi : i < ps.length) (hj : j < ps.length) (hei : e.f = i) (hej : e.t = j) (hr : 0 ≤ ps[i].r ∧ ps[i].r ≤ 31) (hla : 1 ≤ ps[i].l ∧ ps[i].l ≤ 8) (hlb : 1 ≤ ps[j].l ∧ ps[j].l ≤ 8) (hel : es.length ≤ 1000000000) :
    Calls Tryz.prog 86 #[.pointer (some ⟨f, 0, none⟩), e.val, .pointer (some ⟨lb, 0, none⟩), .bool meet] w fun r w' => r = .returned (.tuple #[]) ∧ ∃ ve', FE w' f ve' (es ++ edL e (rowsP ps[i] ps[j] (L ps[i].r.toNat) (i : Int) meet)) ∧ Gr f ve w ve' w' := by
  have HF : Hid _ := h
  have fl := h.fe.lt
  have cp := h.cp
  have pl := h.ps.lt
  have pa := h.ps.c i hi
  have pbb := h.ps.c j hj
  have hnf : ¬ w.heap.size = f := by omega
  have hnf' : ¬ f = w.heap.size := by omega
  have hnp : ¬ w.heap.size = pb := by omega
  have hnp' : ¬ pb = w.heap.size := by omega
  obtain ⟨ef, et, el, ed, ey⟩ := e
  obtain rfl : ef = i := hei
  obtain rfl : et = j := hej
  obtain ⟨a, ha⟩ : ∃ a, ps[i] = a := ⟨_, rfl⟩
  obtain ⟨b, hbE⟩ : ∃ b, ps[j] = b := ⟨_, rfl⟩
  rw [ha] at pa hr hla
  rw [hbE] at pbb hlb
  obtain ⟨a0, a1, a2, a3, a4, a5⟩ := pa
  obtain ⟨b0, b1, b2, b3, b4, b5⟩ := pbb
  have i0 : (0 : Int) ≤ (i : Int) := by omega
  have i1 : (i : Int) < (ps.length : Int) := by omega
  have j0 : (0 : Int) ≤ (j : Int) := by omega
  have j1 : (j : Int) < (ps.length : Int) := by omega
  obtain ⟨ao, ar, aw, am, al, ab⟩ := a
  obtain ⟨bo, br, bw, bm, bl, bb⟩ := b
  obtain ⟨r, rfl⟩ : ∃ r : Nat, ar = r := ⟨ar.toNat, by have := hr.1; show ar = _; have h2 : 0 ≤ ar := this; omega⟩
  have hr31 : r < 32 := by have h2 : (r : Int) ≤ 31 := hr.2; omega
  have r0 : (0 : Int) ≤ (r : Int) := by omega
  have r1 : (r : Int) < 32 := by omega
  have HM : Hid (∀ W, Calls Tryz.prog 129 #[.agg #[.int .i8 ao, .int .u8 (r : Int), .int .u32 aw, .int .u32 am, .int .i64 al, .bool ab], .agg #[.int .i8 bo, .int .u8 br, .int .u32 bw, .int .u32 bm, .int .i64 bl, .bool bb]] W fun e w' => e = .returned (.int .i64 (memL ⟨ao, (r : Int), aw, am, al, ab⟩ ⟨bo, br, bw, bm, bl, bb⟩)) ∧ Below W.heap.size W w') := fun W => memory_any ⟨ao, (r : Int), aw, am, al, ab⟩ ⟨bo, br, bw, bm, bl, bb⟩ W
  obtain ⟨ml, hml⟩ : ∃ ml, memL ⟨ao, (r : Int), aw, am, al, ab⟩ ⟨bo, br, bw, bm, bl, bb⟩ = ml := ⟨_, rfl⟩
  rw [hml] at HM
  have HMl : Hid (memL ⟨ao, (r : Int), aw, am, al, ab⟩ ⟨bo, br, bw, bm, bl, bb⟩ = ml) := hml
  clear hml
  clear h
  unfold Ed.val
  go_enter Tryz.func86, Tryz.ntmps86
  go_upto_region 1 with fail
  have HX0 : Hid (At (w.alloc (.cells #[.int .i64 (i : Int), .int .i64 (j : Int), .int .i64 el, .int .i64 ed, .int .i8 ey] 51)) w.heap.size #[.int .i64 (i : Int), .int .i64 (j : Int), .int .i64 el, .int .i64 ed, .int .i8 ey] ∧ Below w.heap.size w (w.alloc (.cells #[.int .i64 (i : Int), .int .i64 (j : Int), .int .i64 el, .int .i64 ed, .int .i8 ey] 51)) ∧ w.heap.size < (w.alloc (.cells #[.int .i64 (i : Int), .int .i64 (j : Int), .int .i64 el, .int .i64 ed, .int .i8 ey] 51)).heap.size) := ⟨At.new w _ 51, (Below.refl _ _).alloc (Nat.le_refl _) _, by simp⟩
  generalize (w.alloc (.cells #[.int .i64 (i : Int), .int .i64 (j : Int), .int .i64 el, .int .i64 ed, .int .i8 ey] 51)) = w1 at *
  have HK : Hid (∀ W, Below w1.heap.size w1 W → W.cell? ⟨f, 1, none⟩ = some (.slice (some ⟨pb, 0, none⟩) ps.length pc) ∧ W.cell? ⟨w.heap.size, 0, none⟩ = some (.int .i64 (i : Int)) ∧ W.cell? ⟨w.heap.size, 1, none⟩ = some (.int .i64 (j : Int)) ∧ W.cell? ⟨pb, i * 6, none⟩ = some (.int .i8 ao) ∧ W.cell? ⟨pb, i * 6 + 1, none⟩ = some (.int .u8 (r : Int)) ∧ W.cell? ⟨pb, i * 6 + 2, none⟩ = some (.int .u32 aw) ∧ W.cell? ⟨pb, i * 6 + 3, none⟩ = some (.int .u32 am) ∧ W.cell? ⟨pb, i * 6 + 4, none⟩ = some (.int .i64 al) ∧ W.cell? ⟨pb, i * 6 + 5, none⟩ = some (.bool ab) ∧ W.cell? ⟨pb, j * 6, none⟩ = some (.int .i8 bo) ∧ W.cell? ⟨pb, j * 6 + 1, none⟩ = some (.int .u8 br) ∧ W.cell? ⟨pb, j * 6 + 2, none⟩ = some (.int .u32 bw) ∧ W.cell? ⟨pb, j * 6 + 3, none⟩ = some (.int .u32 bm) ∧ W.cell? ⟨pb, j * 6 + 4, none⟩ = some (.int .i64 bl) ∧ W.cell? ⟨pb, j * 6 + 5, none⟩ = some (.bool bb)) := fun W hb => by
    have hb2 : Below w.heap.size w W := HX0.out.2.1.trans (hb.mono (Nat.le_of_lt HX0.out.2.2))
    have c := (bcell hb2).1
    have x := HX0.out.1.below hb HX0.out.1.lt
    exact ⟨by rw [c _ _ fl]; exact cp, x.c 0 _ rfl, x.c 1 _ rfl, by rw [c _ _ pl]; exact a0, by rw [c _ _ pl]; exact a1, by rw [c _ _ pl]; exact a2, by rw [c _ _ pl]; exact a3, by rw [c _ _ pl]; exact a4, by rw [c _ _ pl]; exact a5, by rw [c _ _ pl]; exact b0, by rw [c _ _ pl]; exact b1, by rw [c _ _ pl]; exact b2, by rw [c _ _ pl]; exact b3, by rw [c _ _ pl]; exact b4, by rw [c _ _ pl]; exact b5⟩
  clear cp a0 a1 a2 a3 a4 a5 b0 b1 b2 b3 b4 b5
  go_cut [8, 9] (fun x y wc => ∃ qa qb : Nat, x = .pointer (some ⟨qa, 0, none⟩) ∧ y = .pointer (some ⟨qb, 0, none⟩) ∧ w.heap.size < qa ∧ w.heap.size < qb ∧ Px w wc ⟨(i : Int), (j : Int), el, ed, ey⟩ ⟨ao, (r : Int), aw, am, al, ab⟩ ⟨bo, br, bw, bm, bl, bb⟩ qa qb)
  case first =>
    go_region_held3 (fun W => W.cell? ⟨f, 1, none⟩ = some (.slice (some ⟨pb, 0, none⟩) ps.length pc) ∧ W.cell? ⟨w.heap.size, 0, none⟩ = some (.int .i64 (i : Int)) ∧ W.cell? ⟨w.heap.size, 1, none⟩ = some (.int .i64 (j : Int)) ∧ W.cell? ⟨pb, i * 6, none⟩ = some (.int .i8 ao) ∧ W.cell? ⟨pb, i * 6 + 1, none⟩ = some (.int .u8 (r : Int)) ∧ W.cell? ⟨pb, i * 6 + 2, none⟩ = some (.int .u32 aw) ∧ W.cell? ⟨pb, i * 6 + 3, none⟩ = some (.int .u32 am) ∧ W.cell? ⟨pb, i * 6 + 4, none⟩ = some (.int .i64 al) ∧ W.cell? ⟨pb, i * 6 + 5, none⟩ = some (.bool ab) ∧ W.cell? ⟨pb, j * 6, none⟩ = some (.int .i8 bo) ∧ W.cell? ⟨pb, j * 6 + 1, none⟩ = some (.int .u8 br) ∧ W.cell? ⟨pb, j * 6 + 2, none⟩ = some (.int .u32 bw) ∧ W.cell? ⟨pb, j * 6 + 3, none⟩ = some (.int .u32 bm) ∧ W.cell? ⟨pb, j * 6 + 4, none⟩ = some (.int .i64 bl) ∧ W.cell? ⟨pb, j * 6 + 5, none⟩ = some (.bool bb)) (exact HK.out _ (by go_grown)) (fail)
    · go_wp2_with fail
      go_meet
      exact ⟨w1.heap.size, w1.heap.size + 1, rfl, rfl, HX0.out.2.2, by have := HX0.out.2.2; omega, px_ab (e := ⟨(i : Int), (j : Int), el, ed, ey⟩) (a := ⟨ao, (r : Int), aw, am, al, ab⟩) (b := ⟨bo, br, bw, bm, bl, bb⟩) HX0.out.1 HX0.out.2.1 HX0.out.2.2⟩
    · go_wp2_with fail
      go_meet
      exact ⟨w1.heap.size + 1, w1.heap.size, rfl, rfl, by have := HX0.out.2.2; omega, HX0.out.2.2, px_ba (e := ⟨(i : Int), (j : Int), el, ed, ey⟩) (a := ⟨ao, (r : Int), aw, am, al, ab⟩) (b := ⟨bo, br, bw, bm, bl, bb⟩) HX0.out.1 HX0.out.2.1 HX0.out.2.2⟩
  case rest =>
    rename World => X
    obtain ⟨qa, qb, rfl, rfl, hqa, hqb, hpx⟩ := hcut
    have HP : Hid (Px w X ⟨(i : Int), (j : Int), el, ed, ey⟩ ⟨ao, (r : Int), aw, am, al, ab⟩ ⟨bo, br, bw, bm, bl, bb⟩ qa qb) := hpx
    clear hpx HX0 HK
    have HSS : Hid (At X w.heap.size #[.int .i64 (i : Int), .int .i64 (j : Int), .int .i64 el, .int .i64 ed, .int .i8 ey] ∧ At X qa #[.int .i8 ao, .int .u8 (r : Int), .int .u32 aw, .int .u32 am, .int .i64 al, .bool ab] ∧ At X qb #[.int .i8 bo, .int .u8 br, .int .u32 bw, .int .u32 bm, .int .i64 bl, .bool bb] ∧ X.cell? ⟨lb, r, none⟩ = some (.int .i64 (L r)) ∧ lb < X.heap.size) := ⟨HP.out.e, HP.out.a, HP.out.b, (HF.out.up HP.out.up).la.c r hr31, (HF.out.up HP.out.up).la.lt⟩
    obtain ⟨x1, hx1⟩ : ∃ x, bits BinOp.and IntKind.u32 aw bm = x := ⟨_, rfl⟩
    obtain ⟨x2, hx2⟩ : ∃ x, bits BinOp.and IntKind.u32 am bw = x := ⟨_, rfl⟩
    obtain ⟨x3, hx3⟩ : ∃ x, bits BinOp.and IntKind.u32 aw bw = x := ⟨_, rfl⟩
    obtain ⟨la1, la2⟩ := hla
    obtain ⟨lb1, lb2⟩ := hlb
    have la1' : 1 ≤ al := la1
    have la2' : al ≤ 8 := la2
    have lb1' : 1 ≤ bl := lb1
    have lb2' : bl ≤ 8 := lb2
    clear la1 la2 lb1 lb2
    obtain ⟨mx, hmx⟩ : ∃ mx : Int, max 0 (al - bl + 1) = mx := ⟨_, rfl⟩
    go_upto_region 2 with fail
    refine wp_region_held_drew (S := (fun W => At W w.heap.size #[.int .i64 (i : Int), .int .i64 (j : Int), .int .i64 el, .int .i64 ed, .int .i8 ey] ∧ At W qa #[.int .i8 ao, .int .u8 (r : Int), .int .u32 aw, .int .u32 am, .int .i64 al, .bool ab] ∧ At W qb #[.int .i8 bo, .int .u8 br, .int .u32 bw, .int .u32 bm, .int .i64 bl, .bool bb] ∧ W.cell? ⟨lb, r, none⟩ = some (.int .i64 (L r)) ∧ lb < W.heap.size)) (by kernel_rfl) (ps_up HSS.out (drew_up X)) (fun hHeld => ?_)
    refine wpAnyH_take (i := 0) (v := .pointer (some ⟨f, 0, none⟩)) rfl (by kernel_rfl) (by kernel_rfl) (by kernel_rfl) (fun _ _ _ h => h) (Or.inl ⟨by rfl, fun w' hSw => by (dsimp only at hSw; obtain ⟨s1, s2, s3, s4, s5⟩ := hSw; go_simp)⟩) hHeld ?_
    simp only [Act.put, List.setIfInBounds_toArray, List.set_cons_zero, List.set_cons_succ, List.getElem_cons_zero, List.getElem_toArray]
    refine wpAnyH_take (i := 1) (v := .agg #[.int .i64 (i : Int), .int .i64 (j : Int), .int .i64 el, .int .i64 ed, .int .i8 ey]) rfl (by kernel_rfl) (by kernel_rfl) (by kernel_rfl) (fun _ _ _ h => h) (Or.inl ⟨by rfl, fun w' hSw => by (dsimp only at hSw; obtain ⟨s1, s2, s3, s4, s5⟩ := hSw; have t0 := s1.c 0 _ rfl; have t1 := s1.c 1 _ rfl; have t2 := s1.c 2 _ rfl; have t3 := s1.c 3 _ rfl; have t4 := s1.c 4 _ rfl; have tl := s1.lt; go_simp)⟩) hHeld ?_
    simp only [Act.put, List.setIfInBounds_toArray, List.set_cons_zero, List.set_cons_succ, List.getElem_cons_zero, List.getElem_cons_succ, List.getElem_toArray]
    refine wpAnyH_take (i := 2) (v := .pointer (some ⟨qa, 2, none⟩)) rfl (by kernel_rfl) (by kernel_rfl) (by kernel_rfl) (fun _ _ _ h => h) (Or.inl ⟨by rfl, fun w' hSw => by (dsimp only at hSw; obtain ⟨s1, s2, s3, s4, s5⟩ := hSw; go_simp)⟩) hHeld ?_
    simp only [Act.put, List.setIfInBounds_toArray, List.set_cons_zero, List.set_cons_succ, List.getElem_cons_zero, List.getElem_cons_succ, List.getElem_toArray]
    refine wpAnyH_take (i := 3) (v := .int .u32 aw) rfl (by kernel_rfl) (by kernel_rfl) (by kernel_rfl) (fun _ _ _ h => h) (Or.inl ⟨by rfl, fun w' hSw => by (dsimp only at hSw; obtain ⟨s1, s2, s3, s4, s5⟩ := hSw; have t0 := s2.c 2 _ rfl; have tl := s2.lt; go_simp)⟩) hHeld ?_
    simp only [Act.put, List.setIfInBounds_toArray, List.set_cons_zero, List.set_cons_succ, List.getElem_cons_zero, List.getElem_cons_succ, List.getElem_toArray]
    refine wpAnyH_take (i := 4) (v := .pointer (some ⟨qb, 3, none⟩)) rfl (by kernel_rfl) (by kernel_rfl) (by kernel_rfl) (fun _ _ _ h => h) (Or.inl ⟨by rfl, fun w' hSw => by (dsimp only at hSw; obtain ⟨s1, s2, s3, s4, s5⟩ := hSw; go_simp)⟩) hHeld ?_
    simp only [Act.put, List.setIfInBounds_toArray, List.set_cons_zero, List.set_cons_succ, List.getElem_cons_zero, List.getElem_cons_succ, List.getElem_toArray]
    refine wpAnyH_take (i := 5) (v := .int .u32 bm) rfl (by kernel_rfl) (by kernel_rfl) (by kernel_rfl) (fun _ _ _ h => h) (Or.inl ⟨by rfl, fun w' hSw => by (dsimp only at hSw; obtain ⟨s1, s2, s3, s4, s5⟩ := hSw; have t0 := s3.c 3 _ rfl; have tl := s3.lt; go_simp)⟩) hHeld ?_
    simp only [Act.put, List.setIfInBounds_toArray, List.set_cons_zero, List.set_cons_succ, List.getElem_cons_zero, List.getElem_cons_succ, List.getElem_toArray]
    refine wpAnyH_take (i := 6) (v := .int .u32 x1) rfl (by kernel_rfl) (by kernel_rfl) (by kernel_rfl) (fun _ _ _ h => h) (Or.inl ⟨by rfl, fun w' hSw => by (dsimp only at hSw; obtain ⟨s1, s2, s3, s4, s5⟩ := hSw; go_simp)⟩) hHeld ?_
    simp only [Act.put, List.setIfInBounds_toArray, List.set_cons_zero, List.set_cons_succ, List.getElem_cons_zero, List.getElem_cons_succ, List.getElem_toArray]
    refine wpAnyH_take (i := 19) (v := .pointer (some ⟨qa, 4, none⟩)) rfl (by kernel_rfl) (by kernel_rfl) (by kernel_rfl) (fun _ _ _ h => h) (Or.inl ⟨by rfl, fun w' hSw => by (dsimp only at hSw; obtain ⟨s1, s2, s3, s4, s5⟩ := hSw; go_simp)⟩) hHeld ?_
    simp only [Act.put, List.setIfInBounds_toArray, List.set_cons_zero, List.set_cons_succ, List.getElem_cons_zero, List.getElem_cons_succ, List.getElem_toArray]
    refine wpAnyH_take (i := 20) (v := .int .i64 al) rfl (by kernel_rfl) (by kernel_rfl) (by kernel_rfl) (fun _ _ _ h => h) (Or.inl ⟨by rfl, fun w' hSw => by (dsimp only at hSw; obtain ⟨s1, s2, s3, s4, s5⟩ := hSw; have t0 := s2.c 4 _ rfl; have tl := s2.lt; go_simp)⟩) hHeld ?_
    simp only [Act.put, List.setIfInBounds_toArray, List.set_cons_zero, List.set_cons_succ, List.getElem_cons_zero, List.getElem_cons_succ, List.getElem_toArray]
    refine wpAnyH_take (i := 22) (v := .pointer (some ⟨qa, 3, none⟩)) rfl (by kernel_rfl) (by kernel_rfl) (by kernel_rfl) (fun _ _ _ h => h) (Or.inl ⟨by rfl, fun w' hSw => by (dsimp only at hSw; obtain ⟨s1, s2, s3, s4, s5⟩ := hSw; go_simp)⟩) hHeld ?_
    simp only [Act.put, List.setIfInBounds_toArray, List.set_cons_zero, List.set_cons_succ, List.getElem_cons_zero, List.getElem_cons_succ, List.getElem_toArray]
    refine wpAnyH_take (i := 23) (v := .int .u32 am) rfl (by kernel_rfl) (by kernel_rfl) (by kernel_rfl) (fun _ _ _ h => h) (Or.inl ⟨by rfl, fun w' hSw => by (dsimp only at hSw; obtain ⟨s1, s2, s3, s4, s5⟩ := hSw; have t0 := s2.c 3 _ rfl; have tl := s2.lt; go_simp)⟩) hHeld ?_
    simp only [Act.put, List.setIfInBounds_toArray, List.set_cons_zero, List.set_cons_succ, List.getElem_cons_zero, List.getElem_cons_succ, List.getElem_toArray]
    refine wpAnyH_take (i := 24) (v := .pointer (some ⟨qb, 2, none⟩)) rfl (by kernel_rfl) (by kernel_rfl) (by kernel_rfl) (fun _ _ _ h => h) (Or.inl ⟨by rfl, fun w' hSw => by (dsimp only at hSw; obtain ⟨s1, s2, s3, s4, s5⟩ := hSw; go_simp)⟩) hHeld ?_
    simp only [Act.put, List.setIfInBounds_toArray, List.set_cons_zero, List.set_cons_succ, List.getElem_cons_zero, List.getElem_cons_succ, List.getElem_toArray]
    refine wpAnyH_take (i := 25) (v := .int .u32 bw) rfl (by kernel_rfl) (by kernel_rfl) (by kernel_rfl) (fun _ _ _ h => h) (Or.inl ⟨by rfl, fun w' hSw => by (dsimp only at hSw; obtain ⟨s1, s2, s3, s4, s5⟩ := hSw; have t0 := s3.c 2 _ rfl; have tl := s3.lt; go_simp)⟩) hHeld ?_
    simp only [Act.put, List.setIfInBounds_toArray, List.set_cons_zero, List.set_cons_succ, List.getElem_cons_zero, List.getElem_cons_succ, List.getElem_toArray]
    refine wpAnyH_take (i := 26) (v := .int .u32 x2) rfl (by kernel_rfl) (by kernel_rfl) (by kernel_rfl) (fun _ _ _ h => h) (Or.inl ⟨by rfl, fun w' hSw => by (dsimp only at hSw; obtain ⟨s1, s2, s3, s4, s5⟩ := hSw; go_simp)⟩) hHeld ?_
    simp only [Act.put, List.setIfInBounds_toArray, List.set_cons_zero, List.set_cons_succ, List.getElem_cons_zero, List.getElem_cons_succ, List.getElem_toArray]
    refine wpAnyH_take (i := 27) (v := .bool (x2 != 0)) rfl (by kernel_rfl) (by kernel_rfl) (by kernel_rfl) (fun _ _ _ h => h) (Or.inl ⟨by rfl, fun w' hSw => by (dsimp only at hSw; obtain ⟨s1, s2, s3, s4, s5⟩ := hSw; go_simp)⟩) hHeld ?_
    simp only [Act.put, List.setIfInBounds_toArray, List.set_cons_zero, List.set_cons_succ, List.getElem_cons_zero, List.getElem_cons_succ, List.getElem_toArray]
    refine wpAnyH_take (i := 28) (v := .agg #[.int .i8 1, .bool (x2 != 0), .int .i64 0]) rfl (by kernel_rfl) (by kernel_rfl) (by kernel_rfl) (fun _ _ _ h => h) (Or.inl ⟨by rfl, fun w' hSw => by (dsimp only at hSw; obtain ⟨s1, s2, s3, s4, s5⟩ := hSw; go_simp)⟩) hHeld ?_
    simp only [Act.put, List.setIfInBounds_toArray, List.set_cons_zero, List.set_cons_succ, List.getElem_cons_zero, List.getElem_cons_succ, List.getElem_toArray]
    refine wpAnyH_take (i := 29) (v := .pointer (some ⟨qa, 2, none⟩)) rfl (by kernel_rfl) (by kernel_rfl) (by kernel_rfl) (fun _ _ _ h => h) (Or.inl ⟨by rfl, fun w' hSw => by (dsimp only at hSw; obtain ⟨s1, s2, s3, s4, s5⟩ := hSw; go_simp)⟩) hHeld ?_
    simp only [Act.put, List.setIfInBounds_toArray, List.set_cons_zero, List.set_cons_succ, List.getElem_cons_zero, List.getElem_cons_succ, List.getElem_toArray]
    refine wpAnyH_take (i := 30) (v := .int .u32 aw) rfl (by kernel_rfl) (by kernel_rfl) (by kernel_rfl) (fun _ _ _ h => h) (Or.inl ⟨by rfl, fun w' hSw => by (dsimp only at hSw; obtain ⟨s1, s2, s3, s4, s5⟩ := hSw; have t0 := s2.c 2 _ rfl; have tl := s2.lt; go_simp)⟩) hHeld ?_
    simp only [Act.put, List.setIfInBounds_toArray, List.set_cons_zero, List.set_cons_succ, List.getElem_cons_zero, List.getElem_cons_succ, List.getElem_toArray]
    refine wpAnyH_take (i := 31) (v := .pointer (some ⟨qb, 2, none⟩)) rfl (by kernel_rfl) (by kernel_rfl) (by kernel_rfl) (fun _ _ _ h => h) (Or.inl ⟨by rfl, fun w' hSw => by (dsimp only at hSw; obtain ⟨s1, s2, s3, s4, s5⟩ := hSw; go_simp)⟩) hHeld ?_
    simp only [Act.put, List.setIfInBounds_toArray, List.set_cons_zero, List.set_cons_succ, List.getElem_cons_zero, List.getElem_cons_succ, List.getElem_toArray]
    refine wpAnyH_take (i := 32) (v := .int .u32 bw) rfl (by kernel_rfl) (by kernel_rfl) (by kernel_rfl) (fun _ _ _ h => h) (Or.inl ⟨by rfl, fun w' hSw => by (dsimp only at hSw; obtain ⟨s1, s2, s3, s4, s5⟩ := hSw; have t0 := s3.c 2 _ rfl; have tl := s3.lt; go_simp)⟩) hHeld ?_
    simp only [Act.put, List.setIfInBounds_toArray, List.set_cons_zero, List.set_cons_succ, List.getElem_cons_zero, List.getElem_cons_succ, List.getElem_toArray]
    refine wpAnyH_take (i := 33) (v := .int .u32 x3) rfl (by kernel_rfl) (by kernel_rfl) (by kernel_rfl) (fun _ _ _ h => h) (Or.inl ⟨by rfl, fun w' hSw => by (dsimp only at hSw; obtain ⟨s1, s2, s3, s4, s5⟩ := hSw; go_simp)⟩) hHeld ?_
    simp only [Act.put, List.setIfInBounds_toArray, List.set_cons_zero, List.set_cons_succ, List.getElem_cons_zero, List.getElem_cons_succ, List.getElem_toArray]
    refine wpAnyH_take (i := 34) (v := .bool (x3 != 0)) rfl (by kernel_rfl) (by kernel_rfl) (by kernel_rfl) (fun _ _ _ h => h) (Or.inl ⟨by rfl, fun w' hSw => by (dsimp only at hSw; obtain ⟨s1, s2, s3, s4, s5⟩ := hSw; go_simp)⟩) hHeld ?_
    simp only [Act.put, List.setIfInBounds_toArray, List.set_cons_zero, List.set_cons_succ, List.getElem_cons_zero, List.getElem_cons_succ, List.getElem_toArray]
    refine wpAnyH_take (i := 35) (v := .pointer (some ⟨qa, 4, none⟩)) rfl (by kernel_rfl) (by kernel_rfl) (by kernel_rfl) (fun _ _ _ h => h) (Or.inl ⟨by rfl, fun w' hSw => by (dsimp only at hSw; obtain ⟨s1, s2, s3, s4, s5⟩ := hSw; go_simp)⟩) hHeld ?_
    simp only [Act.put, List.setIfInBounds_toArray, List.set_cons_zero, List.set_cons_succ, List.getElem_cons_zero, List.getElem_cons_succ, List.getElem_toArray]
    refine wpAnyH_take (i := 36) (v := .int .i64 al) rfl (by kernel_rfl) (by kernel_rfl) (by kernel_rfl) (fun _ _ _ h => h) (Or.inl ⟨by rfl, fun w' hSw => by (dsimp only at hSw; obtain ⟨s1, s2, s3, s4, s5⟩ := hSw; have t0 := s2.c 4 _ rfl; have tl := s2.lt; go_simp)⟩) hHeld ?_
    simp only [Act.put, List.setIfInBounds_toArray, List.set_cons_zero, List.set_cons_succ, List.getElem_cons_zero, List.getElem_cons_succ, List.getElem_toArray]
    refine wpAnyH_take (i := 37) (v := .pointer (some ⟨qb, 4, none⟩)) rfl (by kernel_rfl) (by kernel_rfl) (by kernel_rfl) (fun _ _ _ h => h) (Or.inl ⟨by rfl, fun w' hSw => by (dsimp only at hSw; obtain ⟨s1, s2, s3, s4, s5⟩ := hSw; go_simp)⟩) hHeld ?_
    simp only [Act.put, List.setIfInBounds_toArray, List.set_cons_zero, List.set_cons_succ, List.getElem_cons_zero, List.getElem_cons_succ, List.getElem_toArray]
    refine wpAnyH_take (i := 38) (v := .int .i64 bl) rfl (by kernel_rfl) (by kernel_rfl) (by kernel_rfl) (fun _ _ _ h => h) (Or.inl ⟨by rfl, fun w' hSw => by (dsimp only at hSw; obtain ⟨s1, s2, s3, s4, s5⟩ := hSw; have t0 := s3.c 4 _ rfl; have tl := s3.lt; go_simp)⟩) hHeld ?_
    simp only [Act.put, List.setIfInBounds_toArray, List.set_cons_zero, List.set_cons_succ, List.getElem_cons_zero, List.getElem_cons_succ, List.getElem_toArray]
    refine wpAnyH_take (i := 39) (v := .int .i64 (al - bl)) rfl (by kernel_rfl) (by kernel_rfl) (by kernel_rfl) (fun _ _ _ h => h) (Or.inl ⟨by rfl, fun w' hSw => by (dsimp only at hSw; obtain ⟨s1, s2, s3, s4, s5⟩ := hSw; go_simp; first | (rw [IntKind.wrap_i64]; omega))⟩) hHeld ?_
    simp only [Act.put, List.setIfInBounds_toArray, List.set_cons_zero, List.set_cons_succ, List.getElem_cons_zero, List.getElem_cons_succ, List.getElem_toArray]
    refine wpAnyH_take (i := 40) (v := .int .i64 (al - bl + 1)) rfl (by kernel_rfl) (by kernel_rfl) (by kernel_rfl) (fun _ _ _ h => h) (Or.inl ⟨by rfl, fun w' hSw => by (dsimp only at hSw; obtain ⟨s1, s2, s3, s4, s5⟩ := hSw; go_simp; first | (rw [IntKind.wrap_i64]; omega))⟩) hHeld ?_
    simp only [Act.put, List.setIfInBounds_toArray, List.set_cons_zero, List.set_cons_succ, List.getElem_cons_zero, List.getElem_cons_succ, List.getElem_toArray]
    refine wpAnyH_take (i := 41) (v := .int .i64 mx) rfl (by kernel_rfl) (by kernel_rfl) (by kernel_rfl) (fun _ _ _ h => h) (Or.inl ⟨by rfl, fun w' hSw => by (dsimp only at hSw; obtain ⟨s1, s2, s3, s4, s5⟩ := hSw; go_simp; split <;> omega)⟩) hHeld ?_
    simp only [Act.put, List.setIfInBounds_toArray, List.set_cons_zero, List.set_cons_succ, List.getElem_cons_zero, List.getElem_cons_succ, List.getElem_toArray]
    refine wpAnyH_take (i := 42) (v := .agg #[.int .i8 2, .bool (x3 != 0), .int .i64 mx]) rfl (by kernel_rfl) (by kernel_rfl) (by kernel_rfl) (fun _ _ _ h => h) (Or.inl ⟨by rfl, fun w' hSw => by (dsimp only at hSw; obtain ⟨s1, s2, s3, s4, s5⟩ := hSw; go_simp)⟩) hHeld ?_
    simp only [Act.put, List.setIfInBounds_toArray, List.set_cons_zero, List.set_cons_succ, List.getElem_cons_zero, List.getElem_cons_succ, List.getElem_toArray]
    refine wpAnyH_take (i := 43) (v := .bool meet) rfl (by kernel_rfl) (by kernel_rfl) (by kernel_rfl) (fun _ _ _ h => h) (Or.inl ⟨by rfl, fun w' hSw => by (dsimp only at hSw; obtain ⟨s1, s2, s3, s4, s5⟩ := hSw; go_simp)⟩) hHeld ?_
    simp only [Act.put, List.setIfInBounds_toArray, List.set_cons_zero, List.set_cons_succ, List.getElem_cons_zero, List.getElem_cons_succ, List.getElem_toArray]
    refine wpAnyH_take (i := 44) (v := .agg #[.int .i8 ao, .int .u8 (r : Int), .int .u32 aw, .int .u32 am, .int .i64 al, .bool ab]) rfl (by kernel_rfl) (by kernel_rfl) (by kernel_rfl) (fun _ _ _ h => h) (Or.inl ⟨by rfl, fun w' hSw => by (dsimp only at hSw; obtain ⟨s1, s2, s3, s4, s5⟩ := hSw; have t0 := s2.c 0 _ rfl; have t1 := s2.c 1 _ rfl; have t2 := s2.c 2 _ rfl; have t3 := s2.c 3 _ rfl; have t4 := s2.c 4 _ rfl; have t5 := s2.c 5 _ rfl; have tl := s2.lt; go_simp)⟩) hHeld ?_
    simp only [Act.put, List.setIfInBounds_toArray, List.set_cons_zero, List.set_cons_succ, List.getElem_cons_zero, List.getElem_cons_succ, List.getElem_toArray]
    refine wpAnyH_take (i := 45) (v := .agg #[.int .i8 bo, .int .u8 br, .int .u32 bw, .int .u32 bm, .int .i64 bl, .bool bb]) rfl (by kernel_rfl) (by kernel_rfl) (by kernel_rfl) (fun _ _ _ h => h) (Or.inl ⟨by rfl, fun w' hSw => by (dsimp only at hSw; obtain ⟨s1, s2, s3, s4, s5⟩ := hSw; have t0 := s3.c 0 _ rfl; have t1 := s3.c 1 _ rfl; have t2 := s3.c 2 _ rfl; have t3 := s3.c 3 _ rfl; have t4 := s3.c 4 _ rfl; have t5 := s3.c 5 _ rfl; have tl := s3.lt; go_simp)⟩) hHeld ?_
    simp only [Act.put, List.setIfInBounds_toArray, List.set_cons_zero, List.set_cons_succ, List.getElem_cons_zero, List.getElem_cons_succ, List.getElem_toArray]
    refine wpAnyH_take (i := 48) (v := .pointer (some ⟨qa, 5, none⟩)) rfl (by kernel_rfl) (by kernel_rfl) (by kernel_rfl) (fun _ _ _ h => h) (Or.inl ⟨by rfl, fun w' hSw => by (dsimp only at hSw; obtain ⟨s1, s2, s3, s4, s5⟩ := hSw; go_simp)⟩) hHeld ?_
    simp only [Act.put, List.setIfInBounds_toArray, List.set_cons_zero, List.set_cons_succ, List.getElem_cons_zero, List.getElem_cons_succ, List.getElem_toArray]
    refine wpAnyH_take (i := 49) (v := .bool ab) rfl (by kernel_rfl) (by kernel_rfl) (by kernel_rfl) (fun _ _ _ h => h) (Or.inl ⟨by rfl, fun w' hSw => by (dsimp only at hSw; obtain ⟨s1, s2, s3, s4, s5⟩ := hSw; have t0 := s2.c 5 _ rfl; have tl := s2.lt; go_simp)⟩) hHeld ?_
    simp only [Act.put, List.setIfInBounds_toArray, List.set_cons_zero, List.set_cons_succ, List.getElem_cons_zero, List.getElem_cons_succ, List.getElem_toArray]
    by_cases hT : x1 = 0
    · refine wpAnyH_take (i := 7) (v := .bool false) rfl (by kernel_rfl) (by kernel_rfl) (by kernel_rfl) (fun _ _ _ h => h) (Or.inl ⟨by rfl, fun w' hSw => by (dsimp only at hSw; obtain ⟨s1, s2, s3, s4, s5⟩ := hSw; go_simp)⟩) hHeld ?_
      simp only [Act.put, List.setIfInBounds_toArray, List.set_cons_zero, List.set_cons_succ, List.getElem_cons_zero, List.getElem_cons_succ, List.getElem_toArray]
      refine wpAnyH_take (i := 8) (v := .bool false) rfl (by kernel_rfl) (by kernel_rfl) (by kernel_rfl) (fun _ _ _ h => h) (Or.inl ⟨by rfl, fun w' hSw => by (dsimp only at hSw; obtain ⟨s1, s2, s3, s4, s5⟩ := hSw; go_simp)⟩) hHeld ?_
      simp only [Act.put, List.setIfInBounds_toArray, List.set_cons_zero, List.set_cons_succ, List.getElem_cons_zero, List.getElem_cons_succ, List.getElem_toArray]
      cases ab
      · refine wpAnyH_take (i := 9) (v := undef) rfl (by kernel_rfl) (by kernel_rfl) (by kernel_rfl) (fun _ _ _ h => h) (Or.inr ⟨by rfl, rfl⟩) hHeld ?_
        simp only [Act.put, List.setIfInBounds_toArray, List.set_cons_zero, List.set_cons_succ, List.getElem_cons_zero, List.getElem_cons_succ, List.getElem_toArray]
        refine wpAnyH_take (i := 10) (v := undef) rfl (by kernel_rfl) (by kernel_rfl) (by kernel_rfl) (fun _ _ _ h => h) (Or.inr ⟨by rfl, rfl⟩) hHeld ?_
        simp only [Act.put, List.setIfInBounds_toArray, List.set_cons_zero, List.set_cons_succ, List.getElem_cons_zero, List.getElem_cons_succ, List.getElem_toArray]
        refine wpAnyH_take (i := 11) (v := undef) rfl (by kernel_rfl) (by kernel_rfl) (by kernel_rfl) (fun _ _ _ h => h) (Or.inr ⟨by rfl, rfl⟩) hHeld ?_
        simp only [Act.put, List.setIfInBounds_toArray, List.set_cons_zero, List.set_cons_succ, List.getElem_cons_zero, List.getElem_cons_succ, List.getElem_toArray]
        refine wpAnyH_take (i := 12) (v := undef) rfl (by kernel_rfl) (by kernel_rfl) (by kernel_rfl) (fun _ _ _ h => h) (Or.inr ⟨by rfl, rfl⟩) hHeld ?_
        simp only [Act.put, List.setIfInBounds_toArray, List.set_cons_zero, List.set_cons_succ, List.getElem_cons_zero, List.getElem_cons_succ, List.getElem_toArray]
        refine wpAnyH_take (i := 13) (v := undef) rfl (by kernel_rfl) (by kernel_rfl) (by kernel_rfl) (fun _ _ _ h => h) (Or.inr ⟨by rfl, rfl⟩) hHeld ?_
        simp only [Act.put, List.setIfInBounds_toArray, List.set_cons_zero, List.set_cons_succ, List.getElem_cons_zero, List.getElem_cons_succ, List.getElem_toArray]
        refine wpAnyH_take (i := 14) (v := undef) rfl (by kernel_rfl) (by kernel_rfl) (by kernel_rfl) (fun _ _ _ h => h) (Or.inr ⟨by rfl, rfl⟩) hHeld ?_
        simp only [Act.put, List.setIfInBounds_toArray, List.set_cons_zero, List.set_cons_succ, List.getElem_cons_zero, List.getElem_cons_succ, List.getElem_toArray]
        refine wpAnyH_take (i := 15) (v := undef) rfl (by kernel_rfl) (by kernel_rfl) (by kernel_rfl) (fun _ _ _ h => h) (Or.inr ⟨by rfl, rfl⟩) hHeld ?_
        simp only [Act.put, List.setIfInBounds_toArray, List.set_cons_zero, List.set_cons_succ, List.getElem_cons_zero, List.getElem_cons_succ, List.getElem_toArray]
        refine wpAnyH_take (i := 16) (v := undef) rfl (by kernel_rfl) (by kernel_rfl) (by kernel_rfl) (fun _ _ _ h => h) (Or.inr ⟨by rfl, rfl⟩) hHeld ?_
        simp only [Act.put, List.setIfInBounds_toArray, List.set_cons_zero, List.set_cons_succ, List.getElem_cons_zero, List.getElem_cons_succ, List.getElem_toArray]
        refine wpAnyH_take (i := 17) (v := undef) rfl (by kernel_rfl) (by kernel_rfl) (by kernel_rfl) (fun _ _ _ h => h) (Or.inr ⟨by rfl, rfl⟩) hHeld ?_
        simp only [Act.put, List.setIfInBounds_toArray, List.set_cons_zero, List.set_cons_succ, List.getElem_cons_zero, List.getElem_cons_succ, List.getElem_toArray]
        refine wpAnyH_take (i := 18) (v := .bool false) rfl (by kernel_rfl) (by kernel_rfl) (by kernel_rfl) (fun _ _ _ h => h) (Or.inl ⟨by rfl, fun w' hSw => by (dsimp only at hSw; obtain ⟨s1, s2, s3, s4, s5⟩ := hSw; go_simp)⟩) hHeld ?_
        simp only [Act.put, List.setIfInBounds_toArray, List.set_cons_zero, List.set_cons_succ, List.getElem_cons_zero, List.getElem_cons_succ, List.getElem_toArray]
        refine wpAnyH_take (i := 21) (v := .agg #[.int .i8 0, .bool false, .int .i64 al]) rfl (by kernel_rfl) (by kernel_rfl) (by kernel_rfl) (fun _ _ _ h => h) (Or.inl ⟨by rfl, fun w' hSw => by (dsimp only at hSw; obtain ⟨s1, s2, s3, s4, s5⟩ := hSw; go_simp)⟩) hHeld ?_
        simp only [Act.put, List.setIfInBounds_toArray, List.set_cons_zero, List.set_cons_succ, List.getElem_cons_zero, List.getElem_cons_succ, List.getElem_toArray]
        refine wpAnyH_ready (rs := [46]) (by kernel_rfl) (by simp) ?_
        refine AllReadyH.cons rfl (fun K hK => ?_) AllReadyH.nil
        go_simp
        refine Calls.mono (HM.out _) ?_
        rintro e w2 ⟨rfl, hb⟩
        have HE2 : Hid (Below X.heap.size X w2) := (drew_up X).trans hb
        clear hb
        have HS2 : Hid (At w2 w.heap.size #[.int .i64 (i : Int), .int .i64 (j : Int), .int .i64 el, .int .i64 ed, .int .i8 ey] ∧ At w2 qa #[.int .i8 ao, .int .u8 (r : Int), .int .u32 aw, .int .u32 am, .int .i64 al, .bool false] ∧ At w2 qb #[.int .i8 bo, .int .u8 br, .int .u32 bw, .int .u32 bm, .int .i64 bl, .bool bb] ∧ w2.cell? ⟨lb, r, none⟩ = some (.int .i64 (L r)) ∧ lb < w2.heap.size) := ps_up HSS.out HE2.out
        refine hK.out _ _ HS2.out (fun hHeld => ?_)
        clear hK K
        refine wpAnyH_take (i := 47) (v := .agg #[.int .i8 3, .bool meet, .int .i64 ml]) rfl (by kernel_rfl) (by kernel_rfl) (by kernel_rfl) (fun _ _ _ h => h) (Or.inl ⟨by rfl, fun w' hSw => by (dsimp only at hSw; obtain ⟨s1, s2, s3, s4, s5⟩ := hSw; go_simp)⟩) hHeld ?_
        simp only [Act.put, List.setIfInBounds_toArray, List.set_cons_zero, List.set_cons_succ, List.getElem_cons_zero, List.getElem_cons_succ, List.getElem_toArray]
        refine wpAnyH_take (i := 50) (v := .bool false) rfl (by kernel_rfl) (by kernel_rfl) (by kernel_rfl) (fun _ _ _ h => h) (Or.inl ⟨by rfl, fun w' hSw => by (dsimp only at hSw; obtain ⟨s1, s2, s3, s4, s5⟩ := hSw; go_simp)⟩) hHeld ?_
        simp only [Act.put, List.setIfInBounds_toArray, List.set_cons_zero, List.set_cons_succ, List.getElem_cons_zero, List.getElem_cons_succ, List.getElem_toArray]
        refine wpAnyH_take (i := 51) (v := undef) rfl (by kernel_rfl) (by kernel_rfl) (by kernel_rfl) (fun _ _ _ h => h) (Or.inr ⟨by rfl, rfl⟩) hHeld ?_
        simp only [Act.put, List.setIfInBounds_toArray, List.set_cons_zero, List.set_cons_succ, List.getElem_cons_zero, List.getElem_cons_succ, List.getElem_toArray]
        refine wpAnyH_take (i := 52) (v := undef) rfl (by kernel_rfl) (by kernel_rfl) (by kernel_rfl) (fun _ _ _ h => h) (Or.inr ⟨by rfl, rfl⟩) hHeld ?_
        simp only [Act.put, List.setIfInBounds_toArray, List.set_cons_zero, List.set_cons_succ, List.getElem_cons_zero, List.getElem_cons_succ, List.getElem_toArray]
        refine wpAnyH_take (i := 53) (v := .bool false) rfl (by kernel_rfl) (by kernel_rfl) (by kernel_rfl) (fun _ _ _ h => h) (Or.inl ⟨by rfl, fun w' hSw => by (dsimp only at hSw; obtain ⟨s1, s2, s3, s4, s5⟩ := hSw; go_simp)⟩) hHeld ?_
        simp only [Act.put, List.setIfInBounds_toArray, List.set_cons_zero, List.set_cons_succ, List.getElem_cons_zero, List.getElem_cons_succ, List.getElem_toArray]
        refine wpAnyH_take (i := 54) (v := .agg #[.int .i8 4, .bool false, .int .i64 1]) rfl (by kernel_rfl) (by kernel_rfl) (by kernel_rfl) (fun _ _ _ h => h) (Or.inl ⟨by rfl, fun w' hSw => by (dsimp only at hSw; obtain ⟨s1, s2, s3, s4, s5⟩ := hSw; go_simp)⟩) hHeld ?_
        simp only [Act.put, List.setIfInBounds_toArray, List.set_cons_zero, List.set_cons_succ, List.getElem_cons_zero, List.getElem_cons_succ, List.getElem_toArray]
        refine wpAnyH_ready (rs := [55]) (by kernel_rfl) (by simp) ?_
        refine AllReadyH.cons rfl (fun K hK => ?_) AllReadyH.nil
        go_simp
        have HRo : Hid (RowsAt (w2.alloc (.cells #[.int .i8 0, .bool false, .int .i64 al, .int .i8 1, .bool (x2 != 0), .int .i64 0, .int .i8 2, .bool (x3 != 0), .int .i64 mx, .int .i8 3, .bool meet, .int .i64 ml, .int .i8 4, .bool false, .int .i64 1] 164)) w2.heap.size [⟨0, false, al⟩, ⟨1, x2 != 0, 0⟩, ⟨2, x3 != 0, mx⟩, ⟨3, meet, ml⟩, ⟨4, false, 1⟩]) := rows5 w2 164 ⟨0, false, al⟩ ⟨1, x2 != 0, 0⟩ ⟨2, x3 != 0, mx⟩ ⟨3, meet, ml⟩ ⟨4, false, 1⟩
        refine hK.out _ _ (ps_up HS2.out ((Below.refl _ _).alloc (Nat.le_refl _) _)) (fun hHeld => ?_)
        clear hK K
        refine wpAnyH_ready (rs := [56]) (by kernel_rfl) (by simp) ?_
        refine AllReadyH.cons rfl (fun K hK => ?_) AllReadyH.nil
        go_simp
        have hX2 : Below w.heap.size w (w2.alloc (.cells #[.int .i8 0, .bool false, .int .i64 al, .int .i8 1, .bool (x2 != 0), .int .i64 0, .int .i8 2, .bool (x3 != 0), .int .i64 mx, .int .i8 3, .bool meet, .int .i64 ml, .int .i8 4, .bool false, .int .i64 1] 164)) := (HP.out.up.trans (HE2.out.mono HP.out.up.size)).trans ((Below.refl _ _).alloc (Nat.le_trans HP.out.up.size HE2.out.size) _)
        have hx2z : w.heap.size ≤ w2.heap.size := Nat.le_trans HP.out.up.size HE2.out.size
        refine Calls.mono (put_any f ⟨(i : Int), (j : Int), el, ed, ey⟩ w2.heap.size 5 [⟨0, false, al⟩, ⟨1, x2 != 0, 0⟩, ⟨2, x3 != 0, mx⟩, ⟨3, meet, ml⟩, ⟨4, false, 1⟩] ve es _ (HF.out.up hX2).fe HRo.out (by simp) (by omega) (fun e => by have := (HF.out.fe.row.lt _ e).2; omega) hel) ?_
        rintro e w3 ⟨rfl, ve', h1, h2⟩
        have HG : Hid (FE w3 f ve' (es ++ edL ⟨(i : Int), (j : Int), el, ed, ey⟩ [⟨0, false, al⟩, ⟨1, x2 != 0, 0⟩, ⟨2, x3 != 0, mx⟩, ⟨3, meet, ml⟩, ⟨4, false, 1⟩]) ∧ Gr f ve w ve' w3) := ⟨h1, (Gr.of hX2).trans h2⟩
        have own : ∀ k, w.heap.size ≤ k → ¬ (k = f ∨ ve.ownBlock = some k) := fun k hk hx => by
          rcases hx with hx | hx
          · omega
          · have := (HF.out.fe.row.lt _ hx).2; omega
        refine hK.out _ _ (ps_fr (ps_up HS2.out ((Below.refl _ _).alloc (Nat.le_refl _) _)) h2.fr (own _ (Nat.le_refl _)) (own _ (by omega)) (own _ (by omega)) (fun hx => hx.elim HF.out.n2 HF.out.n4)) (fun hHeld => ?_)
        clear hK K h1 h2
        refine wpAnyH_done (by kernel_rfl) ?_ _
        go_wp2_with fail
        go_end0
        refine ⟨rfl, ve', ?_, HG.out.2⟩
        have hrow : rowsP ⟨ao, (r : Int), aw, am, al, false⟩ ⟨bo, br, bw, bm, bl, bb⟩ (L r) (i : Int) meet = [⟨0, false, al⟩, ⟨1, x2 != 0, 0⟩, ⟨2, x3 != 0, mx⟩, ⟨3, meet, ml⟩, ⟨4, false, 1⟩] := by
          unfold rowsP
          rw [show bits BinOp.and IntKind.u32 aw bm = x1 from hx1, show bits BinOp.and IntKind.u32 am bw = x2 from hx2, show bits BinOp.and IntKind.u32 aw bw = x3 from hx3, HMl.out, show max 0 (al - bl + 1) = mx from hmx]
          simp [hT]
        rw [hrow]
        exact HG.out.1
      · refine wpAnyH_take (i := 9) (v := undef) rfl (by kernel_rfl) (by kernel_rfl) (by kernel_rfl) (fun _ _ _ h => h) (Or.inr ⟨by rfl, rfl⟩) hHeld ?_
        simp only [Act.put, List.setIfInBounds_toArray, List.set_cons_zero, List.set_cons_succ, List.getElem_cons_zero, List.getElem_cons_succ, List.getElem_toArray]
        refine wpAnyH_take (i := 10) (v := undef) rfl (by kernel_rfl) (by kernel_rfl) (by kernel_rfl) (fun _ _ _ h => h) (Or.inr ⟨by rfl, rfl⟩) hHeld ?_
        simp only [Act.put, List.setIfInBounds_toArray, List.set_cons_zero, List.set_cons_succ, List.getElem_cons_zero, List.getElem_cons_succ, List.getElem_toArray]
        refine wpAnyH_take (i := 11) (v := undef) rfl (by kernel_rfl) (by kernel_rfl) (by kernel_rfl) (fun _ _ _ h => h) (Or.inr ⟨by rfl, rfl⟩) hHeld ?_
        simp only [Act.put, List.setIfInBounds_toArray, List.set_cons_zero, List.set_cons_succ, List.getElem_cons_zero, List.getElem_cons_succ, List.getElem_toArray]
        refine wpAnyH_take (i := 12) (v := undef) rfl (by kernel_rfl) (by kernel_rfl) (by kernel_rfl) (fun _ _ _ h => h) (Or.inr ⟨by rfl, rfl⟩) hHeld ?_
        simp only [Act.put, List.setIfInBounds_toArray, List.set_cons_zero, List.set_cons_succ, List.getElem_cons_zero, List.getElem_cons_succ, List.getElem_toArray]
        refine wpAnyH_take (i := 13) (v := undef) rfl (by kernel_rfl) (by kernel_rfl) (by kernel_rfl) (fun _ _ _ h => h) (Or.inr ⟨by rfl, rfl⟩) hHeld ?_
        simp only [Act.put, List.setIfInBounds_toArray, List.set_cons_zero, List.set_cons_succ, List.getElem_cons_zero, List.getElem_cons_succ, List.getElem_toArray]
        refine wpAnyH_take (i := 14) (v := undef) rfl (by kernel_rfl) (by kernel_rfl) (by kernel_rfl) (fun _ _ _ h => h) (Or.inr ⟨by rfl, rfl⟩) hHeld ?_
        simp only [Act.put, List.setIfInBounds_toArray, List.set_cons_zero, List.set_cons_succ, List.getElem_cons_zero, List.getElem_cons_succ, List.getElem_toArray]
        refine wpAnyH_take (i := 15) (v := undef) rfl (by kernel_rfl) (by kernel_rfl) (by kernel_rfl) (fun _ _ _ h => h) (Or.inr ⟨by rfl, rfl⟩) hHeld ?_
        simp only [Act.put, List.setIfInBounds_toArray, List.set_cons_zero, List.set_cons_succ, List.getElem_cons_zero, List.getElem_cons_succ, List.getElem_toArray]
        refine wpAnyH_take (i := 16) (v := undef) rfl (by kernel_rfl) (by kernel_rfl) (by kernel_rfl) (fun _ _ _ h => h) (Or.inr ⟨by rfl, rfl⟩) hHeld ?_
        simp only [Act.put, List.setIfInBounds_toArray, List.set_cons_zero, List.set_cons_succ, List.getElem_cons_zero, List.getElem_cons_succ, List.getElem_toArray]
        refine wpAnyH_take (i := 17) (v := undef) rfl (by kernel_rfl) (by kernel_rfl) (by kernel_rfl) (fun _ _ _ h => h) (Or.inr ⟨by rfl, rfl⟩) hHeld ?_
        simp only [Act.put, List.setIfInBounds_toArray, List.set_cons_zero, List.set_cons_succ, List.getElem_cons_zero, List.getElem_cons_succ, List.getElem_toArray]
        refine wpAnyH_take (i := 18) (v := .bool false) rfl (by kernel_rfl) (by kernel_rfl) (by kernel_rfl) (fun _ _ _ h => h) (Or.inl ⟨by rfl, fun w' hSw => by (dsimp only at hSw; obtain ⟨s1, s2, s3, s4, s5⟩ := hSw; go_simp)⟩) hHeld ?_
        simp only [Act.put, List.setIfInBounds_toArray, List.set_cons_zero, List.set_cons_succ, List.getElem_cons_zero, List.getElem_cons_succ, List.getElem_toArray]
        refine wpAnyH_take (i := 21) (v := .agg #[.int .i8 0, .bool false, .int .i64 al]) rfl (by kernel_rfl) (by kernel_rfl) (by kernel_rfl) (fun _ _ _ h => h) (Or.inl ⟨by rfl, fun w' hSw => by (dsimp only at hSw; obtain ⟨s1, s2, s3, s4, s5⟩ := hSw; go_simp)⟩) hHeld ?_
        simp only [Act.put, List.setIfInBounds_toArray, List.set_cons_zero, List.set_cons_succ, List.getElem_cons_zero, List.getElem_cons_succ, List.getElem_toArray]
        refine wpAnyH_ready (rs := [46]) (by kernel_rfl) (by simp) ?_
        refine AllReadyH.cons rfl (fun K hK => ?_) AllReadyH.nil
        go_simp
        refine Calls.mono (HM.out _) ?_
        rintro e w2 ⟨rfl, hb⟩
        have HE2 : Hid (Below X.heap.size X w2) := (drew_up X).trans hb
        clear hb
        have HS2 : Hid (At w2 w.heap.size #[.int .i64 (i : Int), .int .i64 (j : Int), .int .i64 el, .int .i64 ed, .int .i8 ey] ∧ At w2 qa #[.int .i8 ao, .int .u8 (r : Int), .int .u32 aw, .int .u32 am, .int .i64 al, .bool true] ∧ At w2 qb #[.int .i8 bo, .int .u8 br, .int .u32 bw, .int .u32 bm, .int .i64 bl, .bool bb] ∧ w2.cell? ⟨lb, r, none⟩ = some (.int .i64 (L r)) ∧ lb < w2.heap.size) := ps_up HSS.out HE2.out
        refine hK.out _ _ HS2.out (fun hHeld => ?_)
        clear hK K
        refine wpAnyH_take (i := 47) (v := .agg #[.int .i8 3, .bool meet, .int .i64 ml]) rfl (by kernel_rfl) (by kernel_rfl) (by kernel_rfl) (fun _ _ _ h => h) (Or.inl ⟨by rfl, fun w' hSw => by (dsimp only at hSw; obtain ⟨s1, s2, s3, s4, s5⟩ := hSw; go_simp)⟩) hHeld ?_
        simp only [Act.put, List.setIfInBounds_toArray, List.set_cons_zero, List.set_cons_succ, List.getElem_cons_zero, List.getElem_cons_succ, List.getElem_toArray]
        refine wpAnyH_take (i := 50) (v := .bool true) rfl (by kernel_rfl) (by kernel_rfl) (by kernel_rfl) (fun _ _ _ h => h) (Or.inl ⟨by rfl, fun w' hSw => by (dsimp only at hSw; obtain ⟨s1, s2, s3, s4, s5⟩ := hSw; go_simp)⟩) hHeld ?_
        simp only [Act.put, List.setIfInBounds_toArray, List.set_cons_zero, List.set_cons_succ, List.getElem_cons_zero, List.getElem_cons_succ, List.getElem_toArray]
        refine wpAnyH_take (i := 51) (v := .pointer (some ⟨qb, 5, none⟩)) rfl (by kernel_rfl) (by kernel_rfl) (by kernel_rfl) (fun _ _ _ h => h) (Or.inl ⟨by rfl, fun w' hSw => by (dsimp only at hSw; obtain ⟨s1, s2, s3, s4, s5⟩ := hSw; go_simp)⟩) hHeld ?_
        simp only [Act.put, List.setIfInBounds_toArray, List.set_cons_zero, List.set_cons_succ, List.getElem_cons_zero, List.getElem_cons_succ, List.getElem_toArray]
        refine wpAnyH_take (i := 52) (v := .bool bb) rfl (by kernel_rfl) (by kernel_rfl) (by kernel_rfl) (fun _ _ _ h => h) (Or.inl ⟨by rfl, fun w' hSw => by (dsimp only at hSw; obtain ⟨s1, s2, s3, s4, s5⟩ := hSw; have t0 := s3.c 5 _ rfl; have tl := s3.lt; go_simp)⟩) hHeld ?_
        simp only [Act.put, List.setIfInBounds_toArray, List.set_cons_zero, List.set_cons_succ, List.getElem_cons_zero, List.getElem_cons_succ, List.getElem_toArray]
        refine wpAnyH_take (i := 53) (v := .bool bb) rfl (by kernel_rfl) (by kernel_rfl) (by kernel_rfl) (fun _ _ _ h => h) (Or.inl ⟨by rfl, fun w' hSw => by (dsimp only at hSw; obtain ⟨s1, s2, s3, s4, s5⟩ := hSw; go_simp)⟩) hHeld ?_
        simp only [Act.put, List.setIfInBounds_toArray, List.set_cons_zero, List.set_cons_succ, List.getElem_cons_zero, List.getElem_cons_succ, List.getElem_toArray]
        refine wpAnyH_take (i := 54) (v := .agg #[.int .i8 4, .bool bb, .int .i64 1]) rfl (by kernel_rfl) (by kernel_rfl) (by kernel_rfl) (fun _ _ _ h => h) (Or.inl ⟨by rfl, fun w' hSw => by (dsimp only at hSw; obtain ⟨s1, s2, s3, s4, s5⟩ := hSw; go_simp)⟩) hHeld ?_
        simp only [Act.put, List.setIfInBounds_toArray, List.set_cons_zero, List.set_cons_succ, List.getElem_cons_zero, List.getElem_cons_succ, List.getElem_toArray]
        refine wpAnyH_ready (rs := [55]) (by kernel_rfl) (by simp) ?_
        refine AllReadyH.cons rfl (fun K hK => ?_) AllReadyH.nil
        go_simp
        have HRo : Hid (RowsAt (w2.alloc (.cells #[.int .i8 0, .bool false, .int .i64 al, .int .i8 1, .bool (x2 != 0), .int .i64 0, .int .i8 2, .bool (x3 != 0), .int .i64 mx, .int .i8 3, .bool meet, .int .i64 ml, .int .i8 4, .bool bb, .int .i64 1] 164)) w2.heap.size [⟨0, false, al⟩, ⟨1, x2 != 0, 0⟩, ⟨2, x3 != 0, mx⟩, ⟨3, meet, ml⟩, ⟨4, bb, 1⟩]) := rows5 w2 164 ⟨0, false, al⟩ ⟨1, x2 != 0, 0⟩ ⟨2, x3 != 0, mx⟩ ⟨3, meet, ml⟩ ⟨4, bb, 1⟩
        refine hK.out _ _ (ps_up HS2.out ((Below.refl _ _).alloc (Nat.le_refl _) _)) (fun hHeld => ?_)
        clear hK K
        refine wpAnyH_ready (rs := [56]) (by kernel_rfl) (by simp) ?_
        refine AllReadyH.cons rfl (fun K hK => ?_) AllReadyH.nil
        go_simp
        have hX2 : Below w.heap.size w (w2.alloc (.cells #[.int .i8 0, .bool false, .int .i64 al, .int .i8 1, .bool (x2 != 0), .int .i64 0, .int .i8 2, .bool (x3 != 0), .int .i64 mx, .int .i8 3, .bool meet, .int .i64 ml, .int .i8 4, .bool bb, .int .i64 1] 164)) := (HP.out.up.trans (HE2.out.mono HP.out.up.size)).trans ((Below.refl _ _).alloc (Nat.le_trans HP.out.up.size HE2.out.size) _)
        have hx2z : w.heap.size ≤ w2.heap.size := Nat.le_trans HP.out.up.size HE2.out.size
        refine Calls.mono (put_any f ⟨(i : Int), (j : Int), el, ed, ey⟩ w2.heap.size 5 [⟨0, false, al⟩, ⟨1, x2 != 0, 0⟩, ⟨2, x3 != 0, mx⟩, ⟨3, meet, ml⟩, ⟨4, bb, 1⟩] ve es _ (HF.out.up hX2).fe HRo.out (by simp) (by omega) (fun e => by have := (HF.out.fe.row.lt _ e).2; omega) hel) ?_
        rintro e w3 ⟨rfl, ve', h1, h2⟩
        have HG : Hid (FE w3 f ve' (es ++ edL ⟨(i : Int), (j : Int), el, ed, ey⟩ [⟨0, false, al⟩, ⟨1, x2 != 0, 0⟩, ⟨2, x3 != 0, mx⟩, ⟨3, meet, ml⟩, ⟨4, bb, 1⟩]) ∧ Gr f ve w ve' w3) := ⟨h1, (Gr.of hX2).trans h2⟩
        have own : ∀ k, w.heap.size ≤ k → ¬ (k = f ∨ ve.ownBlock = some k) := fun k hk hx => by
          rcases hx with hx | hx
          · omega
          · have := (HF.out.fe.row.lt _ hx).2; omega
        refine hK.out _ _ (ps_fr (ps_up HS2.out ((Below.refl _ _).alloc (Nat.le_refl _) _)) h2.fr (own _ (Nat.le_refl _)) (own _ (by omega)) (own _ (by omega)) (fun hx => hx.elim HF.out.n2 HF.out.n4)) (fun hHeld => ?_)
        clear hK K h1 h2
        refine wpAnyH_done (by kernel_rfl) ?_ _
        go_wp2_with fail
        go_end0
        refine ⟨rfl, ve', ?_, HG.out.2⟩
        have hrow : rowsP ⟨ao, (r : Int), aw, am, al, true⟩ ⟨bo, br, bw, bm, bl, bb⟩ (L r) (i : Int) meet = [⟨0, false, al⟩, ⟨1, x2 != 0, 0⟩, ⟨2, x3 != 0, mx⟩, ⟨3, meet, ml⟩, ⟨4, bb, 1⟩] := by
          unfold rowsP
          rw [show bits BinOp.and IntKind.u32 aw bm = x1 from hx1, show bits BinOp.and IntKind.u32 am bw = x2 from hx2, show bits BinOp.and IntKind.u32 aw bw = x3 from hx3, HMl.out, show max 0 (al - bl + 1) = mx from hmx]
          simp [hT]
        rw [hrow]
        exact HG.out.1
    · refine wpAnyH_take (i := 7) (v := .bool true) rfl (by kernel_rfl) (by kernel_rfl) (by kernel_rfl) (fun _ _ _ h => h) (Or.inl ⟨by rfl, fun w' hSw => by (dsimp only at hSw; obtain ⟨s1, s2, s3, s4, s5⟩ := hSw; go_simp)⟩) hHeld ?_
      simp only [Act.put, List.setIfInBounds_toArray, List.set_cons_zero, List.set_cons_succ, List.getElem_cons_zero, List.getElem_cons_succ, List.getElem_toArray]
      refine wpAnyH_take (i := 8) (v := .bool true) rfl (by kernel_rfl) (by kernel_rfl) (by kernel_rfl) (fun _ _ _ h => h) (Or.inl ⟨by rfl, fun w' hSw => by (dsimp only at hSw; obtain ⟨s1, s2, s3, s4, s5⟩ := hSw; go_simp)⟩) hHeld ?_
      simp only [Act.put, List.setIfInBounds_toArray, List.set_cons_zero, List.set_cons_succ, List.getElem_cons_zero, List.getElem_cons_succ, List.getElem_toArray]
      cases ab
      · refine wpAnyH_take (i := 9) (v := .pointer (some ⟨lb, 0, none⟩)) rfl (by kernel_rfl) (by kernel_rfl) (by kernel_rfl) (fun _ _ _ h => h) (Or.inl ⟨by rfl, fun w' hSw => by (dsimp only at hSw; obtain ⟨s1, s2, s3, s4, s5⟩ := hSw; go_simp)⟩) hHeld ?_
        simp only [Act.put, List.setIfInBounds_toArray, List.set_cons_zero, List.set_cons_succ, List.getElem_cons_zero, List.getElem_cons_succ, List.getElem_toArray]
        refine wpAnyH_take (i := 10) (v := .pointer (some ⟨qa, 1, none⟩)) rfl (by kernel_rfl) (by kernel_rfl) (by kernel_rfl) (fun _ _ _ h => h) (Or.inl ⟨by rfl, fun w' hSw => by (dsimp only at hSw; obtain ⟨s1, s2, s3, s4, s5⟩ := hSw; go_simp)⟩) hHeld ?_
        simp only [Act.put, List.setIfInBounds_toArray, List.set_cons_zero, List.set_cons_succ, List.getElem_cons_zero, List.getElem_cons_succ, List.getElem_toArray]
        refine wpAnyH_take (i := 11) (v := .int .u8 (r : Int)) rfl (by kernel_rfl) (by kernel_rfl) (by kernel_rfl) (fun _ _ _ h => h) (Or.inl ⟨by rfl, fun w' hSw => by (dsimp only at hSw; obtain ⟨s1, s2, s3, s4, s5⟩ := hSw; have t0 := s2.c 1 _ rfl; have tl := s2.lt; go_simp)⟩) hHeld ?_
        simp only [Act.put, List.setIfInBounds_toArray, List.set_cons_zero, List.set_cons_succ, List.getElem_cons_zero, List.getElem_cons_succ, List.getElem_toArray]
        refine wpAnyH_take (i := 12) (v := .pointer (some ⟨lb, 0, none⟩)) rfl (by kernel_rfl) (by kernel_rfl) (by kernel_rfl) (fun _ _ _ h => h) (Or.inl ⟨by rfl, fun w' hSw => by (dsimp only at hSw; obtain ⟨s1, s2, s3, s4, s5⟩ := hSw; go_simp)⟩) hHeld ?_
        simp only [Act.put, List.setIfInBounds_toArray, List.set_cons_zero, List.set_cons_succ, List.getElem_cons_zero, List.getElem_cons_succ, List.getElem_toArray]
        refine wpAnyH_take (i := 13) (v := .pointer (some ⟨lb, r, none⟩)) rfl (by kernel_rfl) (by kernel_rfl) (by kernel_rfl) (fun _ _ _ h => h) (Or.inl ⟨by rfl, fun w' hSw => by (dsimp only at hSw; obtain ⟨s1, s2, s3, s4, s5⟩ := hSw; go_simp)⟩) hHeld ?_
        simp only [Act.put, List.setIfInBounds_toArray, List.set_cons_zero, List.set_cons_succ, List.getElem_cons_zero, List.getElem_cons_succ, List.getElem_toArray]
        refine wpAnyH_take (i := 14) (v := .int .i64 (L r)) rfl (by kernel_rfl) (by kernel_rfl) (by kernel_rfl) (fun _ _ _ h => h) (Or.inl ⟨by rfl, fun w' hSw => by (dsimp only at hSw; obtain ⟨s1, s2, s3, s4, s5⟩ := hSw; go_simp)⟩) hHeld ?_
        simp only [Act.put, List.setIfInBounds_toArray, List.set_cons_zero, List.set_cons_succ, List.getElem_cons_zero, List.getElem_cons_succ, List.getElem_toArray]
        refine wpAnyH_take (i := 15) (v := .pointer (some ⟨w.heap.size, 0, none⟩)) rfl (by kernel_rfl) (by kernel_rfl) (by kernel_rfl) (fun _ _ _ h => h) (Or.inl ⟨by rfl, fun w' hSw => by (dsimp only at hSw; obtain ⟨s1, s2, s3, s4, s5⟩ := hSw; go_simp)⟩) hHeld ?_
        simp only [Act.put, List.setIfInBounds_toArray, List.set_cons_zero, List.set_cons_succ, List.getElem_cons_zero, List.getElem_cons_succ, List.getElem_toArray]
        refine wpAnyH_take (i := 16) (v := .int .i64 (i : Int)) rfl (by kernel_rfl) (by kernel_rfl) (by kernel_rfl) (fun _ _ _ h => h) (Or.inl ⟨by rfl, fun w' hSw => by (dsimp only at hSw; obtain ⟨s1, s2, s3, s4, s5⟩ := hSw; have t0 := s1.c 0 _ rfl; have tl := s1.lt; go_simp)⟩) hHeld ?_
        simp only [Act.put, List.setIfInBounds_toArray, List.set_cons_zero, List.set_cons_succ, List.getElem_cons_zero, List.getElem_cons_succ, List.getElem_toArray]
        refine wpAnyH_take (i := 17) (v := .bool (L r == (i : Int))) rfl (by kernel_rfl) (by kernel_rfl) (by kernel_rfl) (fun _ _ _ h => h) (Or.inl ⟨by rfl, fun w' hSw => by (dsimp only at hSw; obtain ⟨s1, s2, s3, s4, s5⟩ := hSw; go_simp)⟩) hHeld ?_
        simp only [Act.put, List.setIfInBounds_toArray, List.set_cons_zero, List.set_cons_succ, List.getElem_cons_zero, List.getElem_cons_succ, List.getElem_toArray]
        refine wpAnyH_take (i := 18) (v := .bool (L r == (i : Int))) rfl (by kernel_rfl) (by kernel_rfl) (by kernel_rfl) (fun _ _ _ h => h) (Or.inl ⟨by rfl, fun w' hSw => by (dsimp only at hSw; obtain ⟨s1, s2, s3, s4, s5⟩ := hSw; go_simp)⟩) hHeld ?_
        simp only [Act.put, List.setIfInBounds_toArray, List.set_cons_zero, List.set_cons_succ, List.getElem_cons_zero, List.getElem_cons_succ, List.getElem_toArray]
        refine wpAnyH_take (i := 21) (v := .agg #[.int .i8 0, .bool (L r == (i : Int)), .int .i64 al]) rfl (by kernel_rfl) (by kernel_rfl) (by kernel_rfl) (fun _ _ _ h => h) (Or.inl ⟨by rfl, fun w' hSw => by (dsimp only at hSw; obtain ⟨s1, s2, s3, s4, s5⟩ := hSw; go_simp)⟩) hHeld ?_
        simp only [Act.put, List.setIfInBounds_toArray, List.set_cons_zero, List.set_cons_succ, List.getElem_cons_zero, List.getElem_cons_succ, List.getElem_toArray]
        refine wpAnyH_ready (rs := [46]) (by kernel_rfl) (by simp) ?_
        refine AllReadyH.cons rfl (fun K hK => ?_) AllReadyH.nil
        go_simp
        refine Calls.mono (HM.out _) ?_
        rintro e w2 ⟨rfl, hb⟩
        have HE2 : Hid (Below X.heap.size X w2) := (drew_up X).trans hb
        clear hb
        have HS2 : Hid (At w2 w.heap.size #[.int .i64 (i : Int), .int .i64 (j : Int), .int .i64 el, .int .i64 ed, .int .i8 ey] ∧ At w2 qa #[.int .i8 ao, .int .u8 (r : Int), .int .u32 aw, .int .u32 am, .int .i64 al, .bool false] ∧ At w2 qb #[.int .i8 bo, .int .u8 br, .int .u32 bw, .int .u32 bm, .int .i64 bl, .bool bb] ∧ w2.cell? ⟨lb, r, none⟩ = some (.int .i64 (L r)) ∧ lb < w2.heap.size) := ps_up HSS.out HE2.out
        refine hK.out _ _ HS2.out (fun hHeld => ?_)
        clear hK K
        refine wpAnyH_take (i := 47) (v := .agg #[.int .i8 3, .bool meet, .int .i64 ml]) rfl (by kernel_rfl) (by kernel_rfl) (by kernel_rfl) (fun _ _ _ h => h) (Or.inl ⟨by rfl, fun w' hSw => by (dsimp only at hSw; obtain ⟨s1, s2, s3, s4, s5⟩ := hSw; go_simp)⟩) hHeld ?_
        simp only [Act.put, List.setIfInBounds_toArray, List.set_cons_zero, List.set_cons_succ, List.getElem_cons_zero, List.getElem_cons_succ, List.getElem_toArray]
        refine wpAnyH_take (i := 50) (v := .bool false) rfl (by kernel_rfl) (by kernel_rfl) (by kernel_rfl) (fun _ _ _ h => h) (Or.inl ⟨by rfl, fun w' hSw => by (dsimp only at hSw; obtain ⟨s1, s2, s3, s4, s5⟩ := hSw; go_simp)⟩) hHeld ?_
        simp only [Act.put, List.setIfInBounds_toArray, List.set_cons_zero, List.set_cons_succ, List.getElem_cons_zero, List.getElem_cons_succ, List.getElem_toArray]
        refine wpAnyH_take (i := 51) (v := undef) rfl (by kernel_rfl) (by kernel_rfl) (by kernel_rfl) (fun _ _ _ h => h) (Or.inr ⟨by rfl, rfl⟩) hHeld ?_
        simp only [Act.put, List.setIfInBounds_toArray, List.set_cons_zero, List.set_cons_succ, List.getElem_cons_zero, List.getElem_cons_succ, List.getElem_toArray]
        refine wpAnyH_take (i := 52) (v := undef) rfl (by kernel_rfl) (by kernel_rfl) (by kernel_rfl) (fun _ _ _ h => h) (Or.inr ⟨by rfl, rfl⟩) hHeld ?_
        simp only [Act.put, List.setIfInBounds_toArray, List.set_cons_zero, List.set_cons_succ, List.getElem_cons_zero, List.getElem_cons_succ, List.getElem_toArray]
        refine wpAnyH_take (i := 53) (v := .bool false) rfl (by kernel_rfl) (by kernel_rfl) (by kernel_rfl) (fun _ _ _ h => h) (Or.inl ⟨by rfl, fun w' hSw => by (dsimp only at hSw; obtain ⟨s1, s2, s3, s4, s5⟩ := hSw; go_simp)⟩) hHeld ?_
        simp only [Act.put, List.setIfInBounds_toArray, List.set_cons_zero, List.set_cons_succ, List.getElem_cons_zero, List.getElem_cons_succ, List.getElem_toArray]
        refine wpAnyH_take (i := 54) (v := .agg #[.int .i8 4, .bool false, .int .i64 1]) rfl (by kernel_rfl) (by kernel_rfl) (by kernel_rfl) (fun _ _ _ h => h) (Or.inl ⟨by rfl, fun w' hSw => by (dsimp only at hSw; obtain ⟨s1, s2, s3, s4, s5⟩ := hSw; go_simp)⟩) hHeld ?_
        simp only [Act.put, List.setIfInBounds_toArray, List.set_cons_zero, List.set_cons_succ, List.getElem_cons_zero, List.getElem_cons_succ, List.getElem_toArray]
        refine wpAnyH_ready (rs := [55]) (by kernel_rfl) (by simp) ?_
        refine AllReadyH.cons rfl (fun K hK => ?_) AllReadyH.nil
        go_simp
        have HRo : Hid (RowsAt (w2.alloc (.cells #[.int .i8 0, .bool (L r == (i : Int)), .int .i64 al, .int .i8 1, .bool (x2 != 0), .int .i64 0, .int .i8 2, .bool (x3 != 0), .int .i64 mx, .int .i8 3, .bool meet, .int .i64 ml, .int .i8 4, .bool false, .int .i64 1] 164)) w2.heap.size [⟨0, (L r == (i : Int)), al⟩, ⟨1, x2 != 0, 0⟩, ⟨2, x3 != 0, mx⟩, ⟨3, meet, ml⟩, ⟨4, false, 1⟩]) := rows5 w2 164 ⟨0, (L r == (i : Int)), al⟩ ⟨1, x2 != 0, 0⟩ ⟨2, x3 != 0, mx⟩ ⟨3, meet, ml⟩ ⟨4, false, 1⟩
        refine hK.out _ _ (ps_up HS2.out ((Below.refl _ _).alloc (Nat.le_refl _) _)) (fun hHeld => ?_)
        clear hK K
        refine wpAnyH_ready (rs := [56]) (by kernel_rfl) (by simp) ?_
        refine AllReadyH.cons rfl (fun K hK => ?_) AllReadyH.nil
        go_simp
        have hX2 : Below w.heap.size w (w2.alloc (.cells #[.int .i8 0, .bool (L r == (i : Int)), .int .i64 al, .int .i8 1, .bool (x2 != 0), .int .i64 0, .int .i8 2, .bool (x3 != 0), .int .i64 mx, .int .i8 3, .bool meet, .int .i64 ml, .int .i8 4, .bool false, .int .i64 1] 164)) := (HP.out.up.trans (HE2.out.mono HP.out.up.size)).trans ((Below.refl _ _).alloc (Nat.le_trans HP.out.up.size HE2.out.size) _)
        have hx2z : w.heap.size ≤ w2.heap.size := Nat.le_trans HP.out.up.size HE2.out.size
        refine Calls.mono (put_any f ⟨(i : Int), (j : Int), el, ed, ey⟩ w2.heap.size 5 [⟨0, (L r == (i : Int)), al⟩, ⟨1, x2 != 0, 0⟩, ⟨2, x3 != 0, mx⟩, ⟨3, meet, ml⟩, ⟨4, false, 1⟩] ve es _ (HF.out.up hX2).fe HRo.out (by simp) (by omega) (fun e => by have := (HF.out.fe.row.lt _ e).2; omega) hel) ?_
        rintro e w3 ⟨rfl, ve', h1, h2⟩
        have HG : Hid (FE w3 f ve' (es ++ edL ⟨(i : Int), (j : Int), el, ed, ey⟩ [⟨0, (L r == (i : Int)), al⟩, ⟨1, x2 != 0, 0⟩, ⟨2, x3 != 0, mx⟩, ⟨3, meet, ml⟩, ⟨4, false, 1⟩]) ∧ Gr f ve w ve' w3) := ⟨h1, (Gr.of hX2).trans h2⟩
        have own : ∀ k, w.heap.size ≤ k → ¬ (k = f ∨ ve.ownBlock = some k) := fun k hk hx => by
          rcases hx with hx | hx
          · omega
          · have := (HF.out.fe.row.lt _ hx).2; omega
        refine hK.out _ _ (ps_fr (ps_up HS2.out ((Below.refl _ _).alloc (Nat.le_refl _) _)) h2.fr (own _ (Nat.le_refl _)) (own _ (by omega)) (own _ (by omega)) (fun hx => hx.elim HF.out.n2 HF.out.n4)) (fun hHeld => ?_)
        clear hK K h1 h2
        refine wpAnyH_done (by kernel_rfl) ?_ _
        go_wp2_with fail
        go_end0
        refine ⟨rfl, ve', ?_, HG.out.2⟩
        have hrow : rowsP ⟨ao, (r : Int), aw, am, al, false⟩ ⟨bo, br, bw, bm, bl, bb⟩ (L r) (i : Int) meet = [⟨0, (L r == (i : Int)), al⟩, ⟨1, x2 != 0, 0⟩, ⟨2, x3 != 0, mx⟩, ⟨3, meet, ml⟩, ⟨4, false, 1⟩] := by
          unfold rowsP
          rw [show bits BinOp.and IntKind.u32 aw bm = x1 from hx1, show bits BinOp.and IntKind.u32 am bw = x2 from hx2, show bits BinOp.and IntKind.u32 aw bw = x3 from hx3, HMl.out, show max 0 (al - bl + 1) = mx from hmx]
          simp [hT]
        rw [hrow]
        exact HG.out.1
      · refine wpAnyH_take (i := 9) (v := .pointer (some ⟨lb, 0, none⟩)) rfl (by kernel_rfl) (by kernel_rfl) (by kernel_rfl) (fun _ _ _ h => h) (Or.inl ⟨by rfl, fun w' hSw => by (dsimp only at hSw; obtain ⟨s1, s2, s3, s4, s5⟩ := hSw; go_simp)⟩) hHeld ?_
        simp only [Act.put, List.setIfInBounds_toArray, List.set_cons_zero, List.set_cons_succ, List.getElem_cons_zero, List.getElem_cons_succ, List.getElem_toArray]
        refine wpAnyH_take (i := 10) (v := .pointer (some ⟨qa, 1, none⟩)) rfl (by kernel_rfl) (by kernel_rfl) (by kernel_rfl) (fun _ _ _ h => h) (Or.inl ⟨by rfl, fun w' hSw => by (dsimp only at hSw; obtain ⟨s1, s2, s3, s4, s5⟩ := hSw; go_simp)⟩) hHeld ?_
        simp only [Act.put, List.setIfInBounds_toArray, List.set_cons_zero, List.set_cons_succ, List.getElem_cons_zero, List.getElem_cons_succ, List.getElem_toArray]
        refine wpAnyH_take (i := 11) (v := .int .u8 (r : Int)) rfl (by kernel_rfl) (by kernel_rfl) (by kernel_rfl) (fun _ _ _ h => h) (Or.inl ⟨by rfl, fun w' hSw => by (dsimp only at hSw; obtain ⟨s1, s2, s3, s4, s5⟩ := hSw; have t0 := s2.c 1 _ rfl; have tl := s2.lt; go_simp)⟩) hHeld ?_
        simp only [Act.put, List.setIfInBounds_toArray, List.set_cons_zero, List.set_cons_succ, List.getElem_cons_zero, List.getElem_cons_succ, List.getElem_toArray]
        refine wpAnyH_take (i := 12) (v := .pointer (some ⟨lb, 0, none⟩)) rfl (by kernel_rfl) (by kernel_rfl) (by kernel_rfl) (fun _ _ _ h => h) (Or.inl ⟨by rfl, fun w' hSw => by (dsimp only at hSw; obtain ⟨s1, s2, s3, s4, s5⟩ := hSw; go_simp)⟩) hHeld ?_
        simp only [Act.put, List.setIfInBounds_toArray, List.set_cons_zero, List.set_cons_succ, List.getElem_cons_zero, List.getElem_cons_succ, List.getElem_toArray]
        refine wpAnyH_take (i := 13) (v := .pointer (some ⟨lb, r, none⟩)) rfl (by kernel_rfl) (by kernel_rfl) (by kernel_rfl) (fun _ _ _ h => h) (Or.inl ⟨by rfl, fun w' hSw => by (dsimp only at hSw; obtain ⟨s1, s2, s3, s4, s5⟩ := hSw; go_simp)⟩) hHeld ?_
        simp only [Act.put, List.setIfInBounds_toArray, List.set_cons_zero, List.set_cons_succ, List.getElem_cons_zero, List.getElem_cons_succ, List.getElem_toArray]
        refine wpAnyH_take (i := 14) (v := .int .i64 (L r)) rfl (by kernel_rfl) (by kernel_rfl) (by kernel_rfl) (fun _ _ _ h => h) (Or.inl ⟨by rfl, fun w' hSw => by (dsimp only at hSw; obtain ⟨s1, s2, s3, s4, s5⟩ := hSw; go_simp)⟩) hHeld ?_
        simp only [Act.put, List.setIfInBounds_toArray, List.set_cons_zero, List.set_cons_succ, List.getElem_cons_zero, List.getElem_cons_succ, List.getElem_toArray]
        refine wpAnyH_take (i := 15) (v := .pointer (some ⟨w.heap.size, 0, none⟩)) rfl (by kernel_rfl) (by kernel_rfl) (by kernel_rfl) (fun _ _ _ h => h) (Or.inl ⟨by rfl, fun w' hSw => by (dsimp only at hSw; obtain ⟨s1, s2, s3, s4, s5⟩ := hSw; go_simp)⟩) hHeld ?_
        simp only [Act.put, List.setIfInBounds_toArray, List.set_cons_zero, List.set_cons_succ, List.getElem_cons_zero, List.getElem_cons_succ, List.getElem_toArray]
        refine wpAnyH_take (i := 16) (v := .int .i64 (i : Int)) rfl (by kernel_rfl) (by kernel_rfl) (by kernel_rfl) (fun _ _ _ h => h) (Or.inl ⟨by rfl, fun w' hSw => by (dsimp only at hSw; obtain ⟨s1, s2, s3, s4, s5⟩ := hSw; have t0 := s1.c 0 _ rfl; have tl := s1.lt; go_simp)⟩) hHeld ?_
        simp only [Act.put, List.setIfInBounds_toArray, List.set_cons_zero, List.set_cons_succ, List.getElem_cons_zero, List.getElem_cons_succ, List.getElem_toArray]
        refine wpAnyH_take (i := 17) (v := .bool (L r == (i : Int))) rfl (by kernel_rfl) (by kernel_rfl) (by kernel_rfl) (fun _ _ _ h => h) (Or.inl ⟨by rfl, fun w' hSw => by (dsimp only at hSw; obtain ⟨s1, s2, s3, s4, s5⟩ := hSw; go_simp)⟩) hHeld ?_
        simp only [Act.put, List.setIfInBounds_toArray, List.set_cons_zero, List.set_cons_succ, List.getElem_cons_zero, List.getElem_cons_succ, List.getElem_toArray]
        refine wpAnyH_take (i := 18) (v := .bool (L r == (i : Int))) rfl (by kernel_rfl) (by kernel_rfl) (by kernel_rfl) (fun _ _ _ h => h) (Or.inl ⟨by rfl, fun w' hSw => by (dsimp only at hSw; obtain ⟨s1, s2, s3, s4, s5⟩ := hSw; go_simp)⟩) hHeld ?_
        simp only [Act.put, List.setIfInBounds_toArray, List.set_cons_zero, List.set_cons_succ, List.getElem_cons_zero, List.getElem_cons_succ, List.getElem_toArray]
        refine wpAnyH_take (i := 21) (v := .agg #[.int .i8 0, .bool (L r == (i : Int)), .int .i64 al]) rfl (by kernel_rfl) (by kernel_rfl) (by kernel_rfl) (fun _ _ _ h => h) (Or.inl ⟨by rfl, fun w' hSw => by (dsimp only at hSw; obtain ⟨s1, s2, s3, s4, s5⟩ := hSw; go_simp)⟩) hHeld ?_
        simp only [Act.put, List.setIfInBounds_toArray, List.set_cons_zero, List.set_cons_succ, List.getElem_cons_zero, List.getElem_cons_succ, List.getElem_toArray]
        refine wpAnyH_ready (rs := [46]) (by kernel_rfl) (by simp) ?_
        refine AllReadyH.cons rfl (fun K hK => ?_) AllReadyH.nil
        go_simp
        refine Calls.mono (HM.out _) ?_
        rintro e w2 ⟨rfl, hb⟩
        have HE2 : Hid (Below X.heap.size X w2) := (drew_up X).trans hb
        clear hb
        have HS2 : Hid (At w2 w.heap.size #[.int .i64 (i : Int), .int .i64 (j : Int), .int .i64 el, .int .i64 ed, .int .i8 ey] ∧ At w2 qa #[.int .i8 ao, .int .u8 (r : Int), .int .u32 aw, .int .u32 am, .int .i64 al, .bool true] ∧ At w2 qb #[.int .i8 bo, .int .u8 br, .int .u32 bw, .int .u32 bm, .int .i64 bl, .bool bb] ∧ w2.cell? ⟨lb, r, none⟩ = some (.int .i64 (L r)) ∧ lb < w2.heap.size) := ps_up HSS.out HE2.out
        refine hK.out _ _ HS2.out (fun hHeld => ?_)
        clear hK K
        refine wpAnyH_take (i := 47) (v := .agg #[.int .i8 3, .bool meet, .int .i64 ml]) rfl (by kernel_rfl) (by kernel_rfl) (by kernel_rfl) (fun _ _ _ h => h) (Or.inl ⟨by rfl, fun w' hSw => by (dsimp only at hSw; obtain ⟨s1, s2, s3, s4, s5⟩ := hSw; go_simp)⟩) hHeld ?_
        simp only [Act.put, List.setIfInBounds_toArray, List.set_cons_zero, List.set_cons_succ, List.getElem_cons_zero, List.getElem_cons_succ, List.getElem_toArray]
        refine wpAnyH_take (i := 50) (v := .bool true) rfl (by kernel_rfl) (by kernel_rfl) (by kernel_rfl) (fun _ _ _ h => h) (Or.inl ⟨by rfl, fun w' hSw => by (dsimp only at hSw; obtain ⟨s1, s2, s3, s4, s5⟩ := hSw; go_simp)⟩) hHeld ?_
        simp only [Act.put, List.setIfInBounds_toArray, List.set_cons_zero, List.set_cons_succ, List.getElem_cons_zero, List.getElem_cons_succ, List.getElem_toArray]
        refine wpAnyH_take (i := 51) (v := .pointer (some ⟨qb, 5, none⟩)) rfl (by kernel_rfl) (by kernel_rfl) (by kernel_rfl) (fun _ _ _ h => h) (Or.inl ⟨by rfl, fun w' hSw => by (dsimp only at hSw; obtain ⟨s1, s2, s3, s4, s5⟩ := hSw; go_simp)⟩) hHeld ?_
        simp only [Act.put, List.setIfInBounds_toArray, List.set_cons_zero, List.set_cons_succ, List.getElem_cons_zero, List.getElem_cons_succ, List.getElem_toArray]
        refine wpAnyH_take (i := 52) (v := .bool bb) rfl (by kernel_rfl) (by kernel_rfl) (by kernel_rfl) (fun _ _ _ h => h) (Or.inl ⟨by rfl, fun w' hSw => by (dsimp only at hSw; obtain ⟨s1, s2, s3, s4, s5⟩ := hSw; have t0 := s3.c 5 _ rfl; have tl := s3.lt; go_simp)⟩) hHeld ?_
        simp only [Act.put, List.setIfInBounds_toArray, List.set_cons_zero, List.set_cons_succ, List.getElem_cons_zero, List.getElem_cons_succ, List.getElem_toArray]
        refine wpAnyH_take (i := 53) (v := .bool bb) rfl (by kernel_rfl) (by kernel_rfl) (by kernel_rfl) (fun _ _ _ h => h) (Or.inl ⟨by rfl, fun w' hSw => by (dsimp only at hSw; obtain ⟨s1, s2, s3, s4, s5⟩ := hSw; go_simp)⟩) hHeld ?_
        simp only [Act.put, List.setIfInBounds_toArray, List.set_cons_zero, List.set_cons_succ, List.getElem_cons_zero, List.getElem_cons_succ, List.getElem_toArray]
        refine wpAnyH_take (i := 54) (v := .agg #[.int .i8 4, .bool bb, .int .i64 1]) rfl (by kernel_rfl) (by kernel_rfl) (by kernel_rfl) (fun _ _ _ h => h) (Or.inl ⟨by rfl, fun w' hSw => by (dsimp only at hSw; obtain ⟨s1, s2, s3, s4, s5⟩ := hSw; go_simp)⟩) hHeld ?_
        simp only [Act.put, List.setIfInBounds_toArray, List.set_cons_zero, List.set_cons_succ, List.getElem_cons_zero, List.getElem_cons_succ, List.getElem_toArray]
        refine wpAnyH_ready (rs := [55]) (by kernel_rfl) (by simp) ?_
        refine AllReadyH.cons rfl (fun K hK => ?_) AllReadyH.nil
        go_simp
        have HRo : Hid (RowsAt (w2.alloc (.cells #[.int .i8 0, .bool (L r == (i : Int)), .int .i64 al, .int .i8 1, .bool (x2 != 0), .int .i64 0, .int .i8 2, .bool (x3 != 0), .int .i64 mx, .int .i8 3, .bool meet, .int .i64 ml, .int .i8 4, .bool bb, .int .i64 1] 164)) w2.heap.size [⟨0, (L r == (i : Int)), al⟩, ⟨1, x2 != 0, 0⟩, ⟨2, x3 != 0, mx⟩, ⟨3, meet, ml⟩, ⟨4, bb, 1⟩]) := rows5 w2 164 ⟨0, (L r == (i : Int)), al⟩ ⟨1, x2 != 0, 0⟩ ⟨2, x3 != 0, mx⟩ ⟨3, meet, ml⟩ ⟨4, bb, 1⟩
        refine hK.out _ _ (ps_up HS2.out ((Below.refl _ _).alloc (Nat.le_refl _) _)) (fun hHeld => ?_)
        clear hK K
        refine wpAnyH_ready (rs := [56]) (by kernel_rfl) (by simp) ?_
        refine AllReadyH.cons rfl (fun K hK => ?_) AllReadyH.nil
        go_simp
        have hX2 : Below w.heap.size w (w2.alloc (.cells #[.int .i8 0, .bool (L r == (i : Int)), .int .i64 al, .int .i8 1, .bool (x2 != 0), .int .i64 0, .int .i8 2, .bool (x3 != 0), .int .i64 mx, .int .i8 3, .bool meet, .int .i64 ml, .int .i8 4, .bool bb, .int .i64 1] 164)) := (HP.out.up.trans (HE2.out.mono HP.out.up.size)).trans ((Below.refl _ _).alloc (Nat.le_trans HP.out.up.size HE2.out.size) _)
        have hx2z : w.heap.size ≤ w2.heap.size := Nat.le_trans HP.out.up.size HE2.out.size
        refine Calls.mono (put_any f ⟨(i : Int), (j : Int), el, ed, ey⟩ w2.heap.size 5 [⟨0, (L r == (i : Int)), al⟩, ⟨1, x2 != 0, 0⟩, ⟨2, x3 != 0, mx⟩, ⟨3, meet, ml⟩, ⟨4, bb, 1⟩] ve es _ (HF.out.up hX2).fe HRo.out (by simp) (by omega) (fun e => by have := (HF.out.fe.row.lt _ e).2; omega) hel) ?_
        rintro e w3 ⟨rfl, ve', h1, h2⟩
        have HG : Hid (FE w3 f ve' (es ++ edL ⟨(i : Int), (j : Int), el, ed, ey⟩ [⟨0, (L r == (i : Int)), al⟩, ⟨1, x2 != 0, 0⟩, ⟨2, x3 != 0, mx⟩, ⟨3, meet, ml⟩, ⟨4, bb, 1⟩]) ∧ Gr f ve w ve' w3) := ⟨h1, (Gr.of hX2).trans h2⟩
        have own : ∀ k, w.heap.size ≤ k → ¬ (k = f ∨ ve.ownBlock = some k) := fun k hk hx => by
          rcases hx with hx | hx
          · omega
          · have := (HF.out.fe.row.lt _ hx).2; omega
        refine hK.out _ _ (ps_fr (ps_up HS2.out ((Below.refl _ _).alloc (Nat.le_refl _) _)) h2.fr (own _ (Nat.le_refl _)) (own _ (by omega)) (own _ (by omega)) (fun hx => hx.elim HF.out.n2 HF.out.n4)) (fun hHeld => ?_)
        clear hK K h1 h2
        refine wpAnyH_done (by kernel_rfl) ?_ _
        go_wp2_with fail
        go_end0
        refine ⟨rfl, ve', ?_, HG.out.2⟩
        have hrow : rowsP ⟨ao, (r : Int), aw, am, al, true⟩ ⟨bo, br, bw, bm, bl, bb⟩ (L r) (i : Int) meet = [⟨0, (L r == (i : Int)), al⟩, ⟨1, x2 != 0, 0⟩, ⟨2, x3 != 0, mx⟩, ⟨3, meet, ml⟩, ⟨4, bb, 1⟩] := by
          unfold rowsP
          rw [show bits BinOp.and IntKind.u32 aw bm = x1 from hx1, show bits BinOp.and IntKind.u32 am bw = x2 from hx2, show bits BinOp.and IntKind.u32 aw bw = x3 from hx3, HMl.out, show max 0 (al - bl + 1) = mx from hmx]
          simp [hT]
        rw [hrow]
        exact HG.out.1
end Go.Proofs.YteccifanbgcakaaGreatDoor.Dp
