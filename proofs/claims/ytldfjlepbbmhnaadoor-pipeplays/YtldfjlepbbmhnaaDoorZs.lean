/- What both machines answer side by side (the statement PipePlays): the contracts as the walk wants them. Conditions: both machines stand, side by side. -/
import Derived.Test.YtldfjlepbbmhnaaDoorZp
namespace Go.Proofs.YtldfjlepbbmhnaaDoor.Pp
open Go.ChangeShapes Go.WideShapes Go.ChangeAt Go.RowKit
open _root_.Go.Proofs.YtldfjlepbbmhnaaDoor.Op _root_.Go.Proofs.YtldfjlepbbmhnaaDoor.So _root_.Go.Proofs.YtldfjlepbbmhnaaDoor.Bu
open _root_.Go.Proofs.YtldfjlepbbmhnaaDoor.Tb (Tab TabAt Bnds)
set_option maxRecDepth 20000

/-- What the document's constructor answers: with the number of its refusal, or a machine in blocks at or beyond x0. -/
structure P8 (V : World) (t : Tab) (ls : List Bn) (rs ms : List Int) (E : Int) (p : Value) (w' : World) : Prop where
  b : Below V.heap.size V w'
  no : E ≠ 0 → p = .pointer none
  ok : E = 0 → ∃ q rb ub a c x0, p = ptr q ∧ Rch w' t ls (nwH q rb ub a c) (newR rs ms) ∧ V.heap.size ≤ x0 ∧ x0 ≤ w'.heap.size ∧ (∀ b, rown (nwH q rb ub a c) b → x0 ≤ b) ∧ (∀ V, Fr (fun b => x0 ≤ b) w' V → BsAt V a ls)
/-- What the code's constructor answers. -/
structure P9 (V : World) (t : Tab) (ls : List Bn) (rs ms : List Int) (E : Int) (p : Value) (w' : World) : Prop where
  b : Below V.heap.size V w'
  no : E ≠ 0 → p = .pointer none
  ok : E = 0 → ∃ q r c, p = ptr q ∧ Mch w' t ls (newH q r c) (newM rs ms) ∧ V.heap.size ≤ q ∧ (∀ V', Fr (fun k => k < V.heap.size ∨ k = q) w' V' → BsAt V' r ls)
theorem row_at {W : World} {B e n c : Nat} {ao : Option Addr} {xs : List Value} (h : W.ownsRow B e 1 (.slice ao n c) n xs) (h0 : 0 < n) : ∃ g, ao = some ⟨g, 0, none⟩ ∧ (Value.slice ao n c).ownBlock = some g ∧ At W g xs.toArray ∧ xs.toArray.size = n := by
  have hl : xs.length = n := h.1.trans (Nat.mul_one n)
  rcases h.2 with ⟨e, e0⟩ | ⟨g, cap, cur, e, -⟩
  · injection e with e1 e2 e3
    omega
  · injection e with e1 e2 e3
    subst e1
    exact ⟨g, rfl, rfl, ⟨fun j v hv => row_cell' h (by simpa using hv), row_frozen h, (h.lt g rfl).2⟩, by simpa using hl⟩
/-- Both machines, in memory that was made since. -/
structure Pz (C : Nat → Prop) (w W : World) (t : Tab) (ls : List Bn) (H1 : Hx) (S : PM) (H2 : Rx) (R : RM) (q1 q2 : Nat) : Prop where
  m : M3 C W t ls H1 S H2 R
  e1 : H1.mb = q1
  e2 : H2.mb = q2
  b : Below w.heap.size w W
  lo : ∀ b, C b → w.heap.size ≤ b
/-- A list that may be overwritten. -/
structure Ov (C : Nat → Prop) (W : World) (H1 : Hx) (H2 : Rx) (ao : Option Addr) (n : Nat) : Prop where
  is : 0 < n → ∃ b cs, ao = some ⟨b, 0, none⟩ ∧ C b ∧ ¬ own H1 b ∧ ¬ rown H2 b ∧ At W b cs ∧ cs.size = n
section
variable {C : Nat → Prop} {w W W' : World} {t : Tab} {ls : List Bn} {H1 H1' : Hx} {S S' : PM} {H2 H2' : Rx} {R R' : RM} {q1 q2 : Nat}
theorem Pz.next (h : Pz C w W t ls H1 S H2 R q1 q2) (g : Below W.heap.size W W') : Pz C w W' t ls H1 S H2 R q1 q2 := ⟨h.m.next g, h.e1, h.e2, h.b.trans (g.mono h.b.size), h.lo⟩
theorem Pz.run1 (h : Pz C w W t ls H1 S H2 R q1 q2) (m : Mch W' t ls H1' S') (g : Tn W H1 W' H1') : Pz C w W' t ls H1' S' H2 R q1 q2 :=
  ⟨h.m.go1 m g, g.q.trans h.e1, h.e2, h.b.trans (g.f.below h.b.size fun b hb e => by have := h.lo b (h.m.o1 b e); omega), h.lo⟩
theorem Pz.run2 (h : Pz C w W t ls H1 S H2 R q1 q2) (m : Rch W' t ls H2' R') (g : Rn W H2 W' H2') : Pz C w W' t ls H1 S H2' R' q1 q2 :=
  ⟨h.m.go2 m g, h.e1, g.q.trans h.e2, h.b.trans (g.f.below h.b.size fun b hb e => by have := h.lo b (h.m.o2 b e); omega), h.lo⟩
theorem Pz.set (h : Pz C w W t ls H1 S H2 R q1 q2) {b : Nat} (c1 : C b) (c2 : ¬ own H1 b) (c3 : ¬ rown H2 b) (k : Nat) (x : Value) : Pz C w (W.setCell ⟨b, k, none⟩ x) t ls H1 S H2 R q1 q2 := by
  have f : Fr (One b) W (W.setCell ⟨b, k, none⟩ x) := (Fr.refl (One b) W).setCell (.inr rfl) _ _
  exact ⟨h.m.else f fun b' e => by have e : b' = b := e; subst e; exact ⟨c1, c2, c3⟩, h.e1, h.e2, h.b.trans (f.below h.b.size fun b' hb e => by have e : b' = b := e; subst e; have := h.lo b' c1; omega), h.lo⟩
theorem Ov.next {ao : Option Addr} {n : Nat} (h : Ov C W H1 H2 ao n) (g : Below W.heap.size W W') : Ov C W' H1 H2 ao n := ⟨fun h0 => by
  obtain ⟨b, cs, e, c1, c2, c3, a, z⟩ := h.is h0
  exact ⟨b, cs, e, c1, c2, c3, a.below g a.lt, z⟩⟩
theorem Ov.row {B e n c : Nat} {ao : Option Addr} {xs : List Value} (h : W.ownsRow B e 1 (.slice ao n c) n xs) (hb : ∀ b, (Value.slice ao n c).ownBlock = some b → C b ∧ ¬ own H1 b ∧ ¬ rown H2 b) : Ov C W H1 H2 ao n := ⟨fun h0 => by
  obtain ⟨g, e, o, a, z⟩ := row_at h h0
  obtain ⟨c1, c2, c3⟩ := hb g o
  exact ⟨g, _, e, c1, c2, c3, a, z⟩⟩
theorem Ov.nil : Ov C W H1 H2 none 0 := ⟨fun h0 => by omega⟩
/-- A list is overwritten, element by element; another list that may be overwritten later, and a block, stay. -/
structure Lo (C : Nat → Prop) (w W : World) (t : Tab) (ls : List Bn) (H1 : Hx) (S : PM) (H2 : Rx) (R : RM) (q1 q2 : Nat) (ao : Option Addr) (n ob : Nat) (cs0 : Array Value) (ro : Option Addr) (rn : Nat) : Prop where
  p : Pz C w W t ls H1 S H2 R q1 q2
  o : Ov C W H1 H2 ao n
  a : At W ob cs0
  d : ∀ b, 0 < n → ao = some ⟨b, 0, none⟩ → b ≠ ob
  k : Ov C W H1 H2 ro rn
  dk : ∀ b b', 0 < n → ao = some ⟨b, 0, none⟩ → 0 < rn → ro = some ⟨b', 0, none⟩ → b' ≠ b
theorem Lo.set {ao : Option Addr} {n ob : Nat} {cs0 : Array Value} {ro : Option Addr} {rn b k : Nat} (h : Lo C w W t ls H1 S H2 R q1 q2 ao n ob cs0 ro rn) (hb : ao = some ⟨b, 0, none⟩) (hk : k < n) (x : Value) : Lo C w (W.setCell ⟨b, k, none⟩ x) t ls H1 S H2 R q1 q2 ao n ob cs0 ro rn := by
  obtain ⟨b', cs, e, c1, c2, c3, at', sz⟩ := h.o.is (by omega)
  rw [hb] at e
  cases e
  have f : Fr (One b) W (W.setCell ⟨b, k, none⟩ x) := (Fr.refl (One b) W).setCell (.inr rfl) _ _
  refine ⟨h.p.set c1 c2 c3 k x, ⟨fun _ => ⟨b, _, hb, c1, c2, c3, At.setk at' (by omega), by simpa using sz⟩⟩, At.frb h.a f (fun e => h.d b (by omega) hb (show ob = b from e).symm), h.d, ⟨fun h0 => ?_⟩, h.dk⟩
  obtain ⟨b2, cs2, e2, g1, g2, g3, g4, g5⟩ := h.k.is h0
  exact ⟨b2, cs2, e2, g1, g2, g3, At.frb g4 f (fun e => h.dk b b2 (by omega) hb h0 e2 e), g5⟩
/-- Something that was answered lies in a block, its list by itself. -/
structure Ra (C : Nat → Prop) (w W : World) (t : Tab) (ls : List Bn) (H1 : Hx) (S : PM) (H2 : Rx) (R : RM) (q1 q2 bx : Nat) (cs : Array Value) (ao : Option Addr) (n c : Nat) (xs : List Int) (mo : Option Addr) (ms : List Int) : Prop where
  p : Pz C w W t ls H1 S H2 R q1 q2
  a : At W bx cs
  r : W.ownsRow 0 2 1 (.slice ao n c) n (nums xs)
  k : NL W mo ms
  o : ∀ b, (Value.slice ao n c).ownBlock = some b → C b ∧ ¬ own H1 b ∧ ¬ rown H2 b ∧ b ≠ bx
  f : ¬ rown H2 bx
  m : ∀ b f, 0 < ms.length → mo = some ⟨b, f, none⟩ → ¬ rown H2 b
variable {bx : Nat} {cs : Array Value} {ao : Option Addr} {n c : Nat} {xs : List Int} {mo : Option Addr} {ms : List Int}
theorem Ra.next (h : Ra C w W t ls H1 S H2 R q1 q2 bx cs ao n c xs mo ms) (g : Below W.heap.size W W') : Ra C w W' t ls H1 S H2 R q1 q2 bx cs ao n c xs mo ms :=
  ⟨h.p.next g, h.a.below g h.a.lt, row_up h.r g, h.k.up g, h.o, h.f, h.m⟩
theorem nl_fr {X : Nat → Prop} (h : NL W mo ms) (f : Fr X W W') (hX : ∀ b f, 0 < ms.length → mo = some ⟨b, f, none⟩ → ¬ X b) : NL W' mo ms := ⟨fun h0 => by
  obtain ⟨b, o, e, z, hc⟩ := h.is h0
  exact ⟨b, o, e, Nat.lt_of_lt_of_le z f.size, fun i hi => (f.cell z (hX b o h0 e) _).trans (hc i hi)⟩⟩
theorem Ra.run2 (h : Ra C w W t ls H1 S H2 R q1 q2 bx cs ao n c xs mo ms) (m : Rch W' t ls H2' R') (g : Rn W H2 W' H2') : Ra C w W' t ls H1 S H2' R' q1 q2 bx cs ao n c xs mo ms :=
  have hn : ∀ b, b < W.heap.size → ¬ rown H2 b → ¬ rown H2' b := fun b hb h1 e => (g.t b e).elim h1 fun e => by omega
  ⟨h.p.run2 m g, At.frb h.a g.f h.f, row_fr h.r g.f fun b e => (h.o b e).2.2.1, nl_fr h.k g.f h.m, fun b e => ⟨(h.o b e).1, (h.o b e).2.1, hn b (h.r.lt b e).2 (h.o b e).2.2.1, (h.o b e).2.2.2⟩, hn bx h.a.lt h.f, fun b f h0 e => by
    obtain ⟨b', f', e', z, -⟩ := h.k.is h0
    have := e.symm.trans e'
    cases this
    exact hn b z (h.m b f h0 e)⟩
/-- .. and may be overwritten. -/
theorem Ra.lo (h : Ra C w W t ls H1 S H2 R q1 q2 bx cs ao n c xs mo ms) : Lo C w W t ls H1 S H2 R q1 q2 ao n bx cs none 0 :=
  ⟨h.p, Ov.row h.r fun b e => ⟨(h.o b e).1, (h.o b e).2.1, (h.o b e).2.2.1⟩, h.a, fun b h0 e => by
    obtain ⟨g, e2, o, -⟩ := row_at h.r h0
    rw [e] at e2; cases e2
    exact (h.o b o).2.2.2, Ov.nil, fun _ _ _ _ h0 => by omega⟩
theorem own_newH {q c b : Nat} {r : Option Addr} (h : own (newH q r c) b) : b = q := by
  rcases h with h | ⟨i, -, h⟩ | h
  · exact h
  · cases h
  · cases h
/-- Both machines stand. -/
theorem Pz.start {w w0 w2 wc w3 : World} {t : Tab} {ls : List Bn} {rs ms : List Int} {q2 rb ub c x0 q1 c1 : Nat} {a r : Option Addr} (hw : w.heap.size ≤ w0.heap.size) (h1 : Rch w2 t ls (nwH q2 rb ub a c) (newR rs ms)) (h2 : w0.heap.size ≤ x0) (h3 : x0 ≤ w2.heap.size) (h4 : ∀ b, rown (nwH q2 rb ub a c) b → x0 ≤ b) (h5 : ∀ V, Fr (fun b => x0 ≤ b) w2 V → BsAt V a ls)
    (up : Below w2.heap.size w2 wc) (hb : Below w.heap.size w wc) (g1 : Below wc.heap.size wc w3) (g2 : Mch w3 t ls (newH q1 r c1) (newM rs ms)) (g3 : wc.heap.size ≤ q1) (g4 : ∀ V', Fr (fun k => k < wc.heap.size ∨ k = q1) w3 V' → BsAt V' r ls) :
    Pz (fun b => x0 ≤ b ∧ (b < wc.heap.size ∨ b = q1 ∨ w3.heap.size ≤ b)) w w3 t ls (newH q1 r c1) (newM rs ms) (nwH q2 rb ub a c) (newR rs ms) q1 q2 := by
  have l1 := up.size
  have u3 : Below w2.heap.size w2 w3 := up.trans (g1.mono l1)
  have hr : ∀ b, rown (nwH q2 rb ub a c) b → b < w2.heap.size := fun b e => rown_lt h1 e
  have l3 := g1.size
  refine ⟨⟨g2, h1.up u3, fun b e e2 => ?_, fun V hV => g4 V (hV.mono fun b hb e => e.2.elim .inl fun e => e.elim .inr fun e => absurd hb (by omega)), fun V hV => h5 V ((Fr.of (X := fun b => x0 ≤ b) u3).trans hV fun _ _ e => e.1), fun b e => ?_, fun b e => ?_, fun b hb => ⟨by omega, .inr (.inr hb)⟩⟩, rfl, rfl, hb.trans (g1.mono hb.size), fun b e => by have := e.1; omega⟩
  · have := own_newH e; have := hr b e2; omega
  · have := own_newH e; exact ⟨by omega, .inr (.inl this)⟩
  · have := hr b e; exact ⟨h4 b e, .inl (by omega)⟩
/-- What was handed in may be overwritten. -/
theorem lo_start {w w0 w2 wc w3 : World} {t : Tab} {ls : List Bn} {rs ms : List Int} {q2 rb ub c x0 q1 c1 : Nat} {a r : Option Addr} {ra ma : Option Addr} {rl rc ml mc : Nat} {mo : Option Addr} {nc n : Nat} {ys : List Value} {ob : Nat} {r' : Option Addr} {rc' : Nat} {m' : Option Addr} {mc' : Nat}
    (hz : Qz w w2 wc t ra ma rl rc ml mc mo nc n ys rs ms ob r' rc' m' mc') (h1 : Rch w2 t ls (nwH q2 rb ub a c) (newR rs ms)) (h2 : w0.heap.size ≤ x0) (h3 : x0 ≤ w2.heap.size) (h4 : ∀ b, rown (nwH q2 rb ub a c) b → x0 ≤ b) (h5 : ∀ V, Fr (fun b => x0 ≤ b) w2 V → BsAt V a ls) (hw : w.heap.size ≤ w0.heap.size)
    (g1 : Below wc.heap.size wc w3) (g2 : Mch w3 t ls (newH q1 r c1) (newM rs ms)) (g3 : wc.heap.size ≤ q1) (g4 : ∀ V', Fr (fun k => k < wc.heap.size ∨ k = q1) w3 V' → BsAt V' r ls) :
    Lo (fun b => x0 ≤ b ∧ (b < wc.heap.size ∨ b = q1 ∨ w3.heap.size ≤ b)) w w3 t ls (newH q1 r c1) (newM rs ms) (nwH q2 rb ub a c) (newR rs ms) q1 q2 mo n ob #[.slice r' rl rc', .slice m' ml mc'] r' rl := by
  have key : ∀ b, w2.heap.size ≤ b → b < wc.heap.size → (fun b => x0 ≤ b ∧ (b < wc.heap.size ∨ b = q1 ∨ w3.heap.size ≤ b)) b ∧ ¬ own (newH q1 r c1) b ∧ ¬ rown (nwH q2 rb ub a c) b := fun b k1 k2 => ⟨⟨by omega, .inl k2⟩, fun e => by have := own_newH e; omega, fun e => by have := rown_lt h1 e; omega⟩
  refine ⟨Pz.start hw h1 h2 h3 h4 h5 hz.up hz.sb.b g1 g2 g3 g4, Ov.row (row_up hz.mi g1) fun b e => key b (hz.mi.lt b e).1 (hz.mi.lt b e).2, hz.bx.below g1 hz.bx.lt, fun b h0 e => ?_, Ov.row (row_up hz.rr g1) fun b e => key b (hz.rr.lt b e).1 (hz.rr.lt b e).2, fun b b' h0 e k0 e' => ?_⟩
  · obtain ⟨g, e2, o, -⟩ := row_at hz.mi h0
    rw [e] at e2; cases e2
    exact fun e3 => hz.d1 (e3 ▸ o)
  · obtain ⟨g, e2, o, -⟩ := row_at hz.mi h0
    rw [e] at e2; cases e2
    obtain ⟨g', e3, o', -⟩ := row_at hz.rr k0
    rw [e'] at e3; cases e3
    exact fun e4 => hz.d3 b o (e4 ▸ o')
/-- The second list's turn. -/
theorem Lo.second {ao : Option Addr} {n ob : Nat} {cs0 : Array Value} {ro : Option Addr} {rn : Nat} (h : Lo C w W t ls H1 S H2 R q1 q2 ao n ob cs0 ro rn) (hd : ∀ b, 0 < rn → ro = some ⟨b, 0, none⟩ → b ≠ ob) : Lo C w W t ls H1 S H2 R q1 q2 ro rn ob cs0 none 0 :=
  ⟨h.p, h.k, h.a, hd, Ov.nil, fun _ _ _ _ h0 => by omega⟩
theorem Ra.of_run {w5 : World} {H1' : Hx} {S' : PM} {po mo : Option Addr} {pc mc : Nat} (h : Pz C w W t ls H1 S H2 R q1 q2) (k1 : w5.ownsRow W.heap.size 2 1 (.slice po S'.p.length pc) S'.p.length (nums S'.p)) (k2 : w5.ownsRow W.heap.size 2 1 (.slice mo (memL S').length mc) (memL S').length (nums (memL S'))) (k3 : Mch w5 t ls H1' S') (k4 : Tn W H1 w5 H1') (k5 : ∀ b, (Value.slice po S'.p.length pc).ownBlock = some b → ¬ own H1' b) (cs : Array Value) :
    Ra C w (w5.alloc (.cells cs 42)) t ls H1' S' H2 R q1 q2 w5.heap.size cs po S'.p.length pc S'.p mo (memL S') := by
  have g : Below w5.heap.size w5 (w5.alloc (.cells cs 42)) := (Below.refl _ _).alloc (Nat.le_refl _) _
  have hp := h.run1 k3 k4
  have hr : ∀ b, W.heap.size ≤ b → ¬ rown H2 b := fun b hb e => by have := rown_lt h.m.m2 e; omega
  have hz := k4.f.size
  refine ⟨hp.next g, At.new _ _ _, row_up (row_le k1 (Nat.zero_le _)) g, (nl_row k2 rfl).up g, fun b e => ⟨h.m.c b (k1.lt b e).1, k5 b e, hr b (k1.lt b e).1, by have := (k1.lt b e).2; omega⟩, hr _ hz, fun b f h0 e => ?_⟩
  obtain ⟨g', e2, o, -⟩ := row_at k2 h0
  rw [e] at e2; cases e2
  exact hr b (k2.lt b o).1
theorem Ra.of_state {w5 : World} {po mo : Option Addr} {pc mc n m : Nat} {xs ys : List Int} (h : Pz C w W t ls H1 S H2 R q1 q2) (k1 : w5.ownsRow W.heap.size 2 1 (.slice po n pc) n (nums xs)) (k2 : w5.ownsRow W.heap.size 2 1 (.slice mo m mc) m (nums ys)) (hm : m = ys.length) (k3 : Below W.heap.size W w5) (cs : Array Value) :
    Ra C w (w5.alloc (.cells cs 28)) t ls H1 S H2 R q1 q2 w5.heap.size cs po n pc xs mo ys := by
  subst hm
  have g : Below w5.heap.size w5 (w5.alloc (.cells cs 28)) := (Below.refl _ _).alloc (Nat.le_refl _) _
  have hr : ∀ b, W.heap.size ≤ b → ¬ rown H2 b := fun b hb e => by have := rown_lt h.m.m2 e; omega
  have hz := k3.size
  refine ⟨(h.next k3).next g, At.new _ _ _, row_up (row_le k1 (Nat.zero_le _)) g, (nl_row k2 rfl).up g, fun b e => ⟨h.m.c b (k1.lt b e).1, fun e' => by have := own_lt h.m.m1 e'; have := (k1.lt b e).1; omega, hr b (k1.lt b e).1, by have := (k1.lt b e).2; omega⟩, hr _ hz, fun b f h0 e => ?_⟩
  obtain ⟨g', e2, o, -⟩ := row_at k2 h0
  rw [e] at e2; cases e2
  exact hr b (k2.lt b o).1
end
end Go.Proofs.YtldfjlepbbmhnaaDoor.Pp
namespace Go.Proofs.YtldfjlepbbmhnaaDoor.Pp
open Go.ChangeShapes Go.WideShapes Go.ChangeAt Go.RowKit
open _root_.Go.Proofs.YtldfjlepbbmhnaaDoor.Op _root_.Go.Proofs.YtldfjlepbbmhnaaDoor.So _root_.Go.Proofs.YtldfjlepbbmhnaaDoor.Bu
open _root_.Go.Proofs.YtldfjlepbbmhnaaDoor.Tb (Tab TabAt Bnds)
set_option maxRecDepth 20000

section
variable {C : Nat → Prop} {w W : World} {t : Tab} {ls : List Bn} {H1 : Hx} {S S' : PM} {H2 : Rx} {R : RM} {q1 q2 c k : Nat}
theorem Pz.c10 (h : Pz C w W t ls H1 S H2 R q1 q2) (hR : Rl S R c k) (hB : Bp t ls) (Z : Int) (m : Nat) (hZ : max Z 0 = (m : Int)) (hc : c + m ≤ 2000) (hk : k ≤ 40) : Calls Tryd.prog 10 #[ptr q1, .int .i64 Z] W (RunOut W t ls H1 (runM t ls m S)) := by
  have h0 := hR.sn
  have := run_anyN Z m (512 * c) hZ h.m.m1 hR.s hB.b (by omega) (by omega) (by omega)
  rw [h.e1] at this
  exact this
theorem Pz.c12 (h : Pz C w W t ls H1 S' H2 R q1 q2) (hR : Rl S R c k) (hB : Bp t ls) (Z : Int) (m : Nat) (hZ : max Z 0 = (m : Int)) (hc : c + m ≤ 2000) (hk : k ≤ 40) : Calls Tryd.prog 12 #[ptr q2, .int .i64 Z] W (RrOut W t ls H2 (runR t ls m R)) := by
  have h0 := hR.sn
  have hs := (let ⟨_, hl, _⟩ := hR.r; hl.s : R.s = S.s)
  have := rrun_any Z m (512 * c) h.m.m2 hR.o hB hZ (by omega) (by omega) (by omega)
  rw [h.e2] at this
  exact this
theorem Pz.c13 (h : Pz C w W t ls H1 S H2 R q1 q2) : Calls Tryd.prog 13 #[ptr q1] W (StOut W S) := by
  have := state_any h.m.m1
  rw [h.e1] at this
  exact this
theorem Pz.c15 (h : Pz C w W t ls H1 S H2 R q1 q2) : Calls Tryd.prog 15 #[ptr q2] W (RsOut W R) := by
  have := rstate_any h.m.m2
  rw [h.e2] at this
  exact this
theorem Pz.c17 (h : Pz C w W t ls H1 S H2 R q1 q2) (hR : Rl S R c k) (hc : c ≤ 2000) : Calls Tryd.prog 17 #[ptr q1] W (FlOut W S) := by
  have := flying_any h.m.m1 hR.s (by omega)
  rw [h.e1] at this
  exact this
theorem Pz.c18 (h : Pz C w W t ls H1 S H2 R q1 q2) (hR : Rl S R c k) (hc : c ≤ 2000) : Calls Tryd.prog 18 #[ptr q2] W fun e w' => ∃ v, e = .returned v ∧ w'.ownsRow W.heap.size 5 1 v (flyL S).length (numsB (flyL S)) ∧ Below W.heap.size W w' := by
  have := rflying_any h.m.m2 hR.o (by omega)
  rw [h.e2, ← hR.r.fly hR.s] at this
  exact this
theorem Rl.same11 {po mo po2 mo2 : Option Addr} {pc mc pc2 mc2 : Nat} (h : Rl S R c k) (hc : c ≤ 2000) (h1 : NL W po S.p) (h2 : NL W mo (memL S)) (h3 : NL W po2 R.p) (h4 : NL W mo2 (ouM R)) :
    Calls Tryd.prog 11 #[.agg #[.int .i64 S.e, .int .i64 (vI S), .slice po S.p.length pc, .slice mo (memL S).length mc, .int .i64 (S.s : Int)], .agg #[.int .i64 (ouE R), .int .i64 (ouV R), .slice po2 R.p.length pc2, .slice mo2 (ouM R).length mc2, .int .i64 (R.s : Int)]] W fun e w' => e = .returned (.bool true) ∧ Below W.heap.size W w' := by
  obtain ⟨-, -, e3, e4, e5, e6, e7⟩ := rel_list h.r
  have hp := h.s.p
  have hm : (memL S).length ≤ 256 := by unfold memL; split <;> simp [mL_len]
  rw [e3] at h3
  rw [e7] at h4
  rw [e3, e4, e5, e6 h.v, e7]
  exact out_same S.e (vI S) S.s po po2 mo mo2 pc mc pc2 mc2 S.p (memL S) W h1 h3 h2 h4 (by omega) (by omega)
theorem Rl.same14 {po mo po2 mo2 : Option Addr} {pc mc pc2 mc2 : Nat} (h : Rl S R c k) (h1 : NL W po (rL S)) (h2 : NL W mo (mL S)) (h3 : NL W po2 (rgR R)) (h4 : NL W mo2 (mmR R)) :
    Calls Tryd.prog 14 #[.agg #[.slice po 32 pc, .slice mo 256 mc], .agg #[.slice po2 32 pc2, .slice mo2 256 mc2]] W fun e w' => e = .returned (.bool true) ∧ Below W.heap.size W w' := by
  obtain ⟨e1, e2, -⟩ := rel_list h.r
  have e3 : rgR R = rL S := by unfold rgR rL; rw [e1]
  have e4 : mmR R = mL S := by unfold mmR mL; rw [e2]
  rw [e3] at h3
  rw [e4] at h4
  have := states_same po po2 mo mo2 pc mc pc2 mc2 (rL S) (mL S) W h1 h3 h2 h4 (by rw [rL_len]; omega) (by rw [mL_len]; omega)
  rw [rL_len, mL_len] at this
  exact this
theorem fly_same {a b : Option Addr} {ac bc : Nat} (S : PM) (h1 : NB W a (flyL S)) (h2 : NB W b (flyL S)) : Calls Tryd.prog 16 #[.slice a (flyL S).length ac, .slice b (flyL S).length bc] W fun e w' => e = .returned (.bool true) ∧ Below W.heap.size W w' :=
  regs_same a b ac bc (flyL S) W h1 h2 (by have := flN_len (goB S 8) 32; show (flN (goB S 8) 32).length ≤ _; omega)
theorem Rl.more {k' : Nat} (h : Rl S R c k) (hk : k ≤ k') : Rl S R c k' := ⟨h.r, h.s, h.o, h.v, h.v1, Nat.le_trans h.sn (by omega)⟩
theorem Rl.start {rs ms : List Int} (hr : ∀ x ∈ rs, I64 x) (hm : ∀ x ∈ ms, I64 x) : Rl (newM rs ms) (newR rs ms) 0 0 :=
  have h := newM_ok hr hm
  ⟨rel_new rs ms, h, ⟨h.r, h.m, h.a, by simp [newR], by simp [newR], fun y hy => by simp [newR] at hy, fun y hy => by simp [newR] at hy, by simp [newR], by simp [newR], by simp [newR]⟩, fun _ => rfl, fun _ => rfl, by simp [newM]⟩
/-- How many cycles an ask comes to. -/
theorem ask_n {l : List (Int × Int)} {c k : Nat} {d Z : Int} (hx : l[k]? = some (d, Z)) (h2 : ¬ 2000 < smN l l.length) (hc : (c : Int) ≤ smN l k) : ∃ m : Nat, max Z 0 = (m : Int) ∧ c + m ≤ 2000 ∧ ((c + m : Nat) : Int) ≤ smN l (k + 1) := by
  have hk : k < l.length := (List.getElem?_eq_some_iff.1 hx).1
  have e := smN_succ hx
  have hle := smN_le l (k + 1) (l.length - (k + 1))
  rw [show k + 1 + (l.length - (k + 1)) = l.length by omega] at hle
  have ha : asN (d, Z) = min (max Z 0) 5000 := rfl
  refine ⟨(max Z 0).toNat, by omega, ?_, ?_⟩ <;> omega
end
end Go.Proofs.YtldfjlepbbmhnaaDoor.Pp
