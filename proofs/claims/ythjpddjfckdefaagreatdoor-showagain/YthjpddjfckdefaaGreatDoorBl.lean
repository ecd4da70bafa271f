/- A block under way in memory, and what of it stays. Conditions: none. -/
import Derived.Test.YthjpddjfckdefaaGreatDoorBs
namespace Go.Proofs.YthjpddjfckdefaaGreatDoor.Pr
open Go.ChangeShapes Go.WideShapes Go.ChangeAt Go.RowKit
open _root_.Go.Proofs.YthjpddjfckdefaaGreatDoor.Op
set_option maxRecDepth 20000

abbrev bz6 : Array Value := #[.slice none 0 0, .int .i8 0, .int .u8 0, .slice none 0 0, .int .i64 0, .int .i64 0]
structure Bt (w V : World) (qa qt mb : Nat) (s : ByteArray) (ls : List Ln) (nb : Nat) (x : Bk) (p : Pl) : Prop where
  rb : At V w.heap.size #[nextV qa qt, .map (some mb)]
  rr : At V (w.heap.size + 1) bz6
  b : At V nb (x.cells p)
  bt : ∃ cs z, V.heap[nb]? = some (.cells cs 43 z)
  o : LRow V (w.heap.size + 2) p.oa p.oc x.ops
  og : ∀ g, (Value.slice p.oa x.ops.length p.oc).ownBlock = some g → g ≠ nb
  y : LRow V (w.heap.size + 2) p.ba p.bc x.body
  yg : ∀ g, (Value.slice p.ba x.body.length p.bc).ownBlock = some g → g ≠ nb
  nbl : w.heap.size + 1 < nb
  rd : Rd V qa qt mb s ls
  fr : Fr (One qa) w V
  mlt : mb < w.heap.size
structure Bs (w V : World) (qa qt mb : Nat) (s : ByteArray) (ls : List Ln) (nb : Nat) (x : Bk) (p : Pl) (q : Nat) (l : Ln) : Prop where
  t : Bt w V qa qt mb s ls nb x p
  l : LIn V q l
  lq : w.heap.size + 1 < q
  nq : q ≠ nb
  oq : ∀ g, (Value.slice p.oa x.ops.length p.oc).ownBlock = some g → g ≠ q
  yq : ∀ g, (Value.slice p.ba x.body.length p.bc).ownBlock = some g → g ≠ q

theorem Bt.go {w V V' : World} {qa qt mb : Nat} {s : ByteArray} {ls : List Ln} {nb : Nat} {x : Bk} {p : Pl} (h : Bt w V qa qt mb s ls nb x p) (hb : Below V.heap.size V V') : Bt w V' qa qt mb s ls nb x p :=
  ⟨h.rb.below hb h.rb.lt, h.rr.below hb h.rr.lt, h.b.below hb h.b.lt, tag_fr h.bt (Fr.of (X := Non) hb) h.b.lt (fun hk => hk), row_below h.o hb, h.og, row_below h.y hb, h.yg, h.nbl, h.rd.up hb, h.fr.then hb, h.mlt⟩
theorem Bs.go {w V V' : World} {qa qt mb : Nat} {s : ByteArray} {ls : List Ln} {nb : Nat} {x : Bk} {p : Pl} {q : Nat} {l : Ln} (h : Bs w V qa qt mb s ls nb x p q l) (hb : Below V.heap.size V V') : Bs w V' qa qt mb s ls nb x p q l :=
  ⟨h.t.go hb, h.l.up hb, h.lq, h.nq, h.oq, h.yq⟩
/-- The line's words are taken. -/
theorem Bs.line {w V V' : World} {qa qt mb : Nat} {s : ByteArray} {ls : List Ln} {nb : Nat} {x : Bk} {p : Pl} {q : Nat} {l l' : Ln} (h : Bs w V qa qt mb s ls nb x p q l) (hL : LIn V' q l') (hF : Fr (One q) V V') : Bs w V' qa qt mb s ls nb x p q l' :=
  have h1 := h.lq
  have h2 := h.t.mlt
  have h3 := h.nq
  ⟨⟨at_fr h.t.rb hF (by show ¬ _ = _; omega), at_fr h.t.rr hF (by show ¬ _ = _; omega), at_fr h.t.b hF (by show ¬ _ = _; omega), tag_fr h.t.bt hF h.t.b.lt (by show ¬ _ = _; omega), row_fr h.t.o hF (fun g hg e => h.oq g hg e), h.t.og, row_fr h.t.y hF (fun g hg e => h.yq g hg e), h.t.yg, h.t.nbl, h.t.rd.far hF (by omega), h.t.fr.new hF (by omega), h.t.mlt⟩, hL, h.lq, h.nq, h.oq, h.yq⟩
/-- A field is set. -/
theorem Bt.set {w V : World} {qa qt mb : Nat} {s : ByteArray} {ls : List Ln} {nb : Nat} {x : Bk} {p : Pl} (h : Bt w V qa qt mb s ls nb x p) (j : Nat) (v : Value) (x' : Bk) (hj : j < 6) (he : (x.cells p).setIfInBounds j v = x'.cells p) (h1 : x'.ops = x.ops) (h2 : x'.body = x.body) : Bt w (V.setCell ⟨nb, j, none⟩ v) qa qt mb s ls nb x' p := by
  have h3 := h.nbl
  have h4 := h.mlt
  have hF : Fr (One nb) V (V.setCell ⟨nb, j, none⟩ v) := (Fr.refl (One nb) V).setCell (.inr rfl) _ _
  have h5 := at_set h.b (j := j) (by simpa using hj) v
  rw [he] at h5
  exact ⟨at_fr h.rb hF (by show ¬ _ = _; omega), at_fr h.rr hF (by show ¬ _ = _; omega), h5, tag_set h.bt, by rw [h1]; exact row_fr h.o hF (fun g hg e => h.og g hg e), by rw [h1]; exact h.og, by rw [h2]; exact row_fr h.y hF (fun g hg e => h.yg g hg e), by rw [h2]; exact h.yg, h.nbl, h.rd.far hF (by omega), h.fr.new hF (by omega), h.mlt⟩
theorem Bs.set {w V : World} {qa qt mb : Nat} {s : ByteArray} {ls : List Ln} {nb : Nat} {x : Bk} {p : Pl} {q : Nat} {l : Ln} (h : Bs w V qa qt mb s ls nb x p q l) (j : Nat) (v : Value) (x' : Bk) (hj : j < 6) (he : (x.cells p).setIfInBounds j v = x'.cells p) (h1 : x'.ops = x.ops) (h2 : x'.body = x.body) : Bs w (V.setCell ⟨nb, j, none⟩ v) qa qt mb s ls nb x' p q l :=
  ⟨h.t.set j v x' hj he h1 h2, h.l.tag ((Fr.refl (One nb) V).setCell (.inr rfl) _ _) h.nq h.t.bt (by decide), h.lq, h.nq, by rw [h1]; exact h.oq, by rw [h2]; exact h.yq⟩
/-- The body is read. -/
theorem Bt.body {w V V' : World} {qa qt mb : Nat} {s : ByteArray} {ls ls' : List Ln} {nb : Nat} {os : List O} {f a t e : Int} {oa : Option Addr} {oc : Nat} {ba : Option Addr} {bc : Nat} {ys : List O} (h : Bt w V qa qt mb s ls nb ⟨os, f, a, [], t, e⟩ ⟨oa, oc, none, 0⟩) (hF : Fr (One qa) V V') (hr : LRow V' V.heap.size ba bc ys) (hd : Rd V' qa qt mb s ls') : Bt w V' qa qt mb s ls' nb ⟨os, f, a, [], t, e⟩ ⟨oa, oc, none, 0⟩ ∧ Bt w (V'.setCell ⟨nb, 3, none⟩ (.slice ba ys.length bc)) qa qt mb s ls' nb ⟨os, f, a, ys, t, e⟩ ⟨oa, oc, ba, bc⟩ := by
  have h3 := h.nbl
  have h4 := h.mlt
  have h5 := h.rd.n3
  have h6 := h.b.lt
  have hB : Bt w V' qa qt mb s ls' nb ⟨os, f, a, [], t, e⟩ ⟨oa, oc, none, 0⟩ :=
    ⟨at_fr h.rb hF (by show ¬ _ = _; omega), at_fr h.rr hF (by show ¬ _ = _; omega), at_fr h.b hF (by show ¬ _ = _; omega), tag_fr h.bt hF h.b.lt (by show ¬ _ = _; omega), row_old h.o hF (by omega), h.og, row_old h.y hF (by omega), h.yg, h.nbl, hd, h.fr.same hF, h.mlt⟩
  refine ⟨hB, ?_⟩
  have hG : Fr (One nb) V' (V'.setCell ⟨nb, 3, none⟩ (.slice ba ys.length bc)) := (Fr.refl (One nb) V').setCell (.inr rfl) _ _
  have h7 := at_set hB.b (j := 3) (by simp) (.slice ba ys.length bc)
  have hyg : ∀ g, (Value.slice ba ys.length bc).ownBlock = some g → g ≠ nb := fun g hg e => by have := (hr.lt g hg).1; omega
  exact ⟨at_fr hB.rb hG (by show ¬ _ = _; omega), at_fr hB.rr hG (by show ¬ _ = _; omega), h7, tag_set hB.bt, row_fr hB.o hG (fun g hg e => hB.og g hg e), hB.og, row_le (row_fr hr hG (fun g hg e => hyg g hg e)) (by omega), hyg, hB.nbl, hd.far hG (by omega), hB.fr.new hG (by omega), hB.mlt⟩
/-- Another line is at hand. -/
theorem Bt.next {w V V' : World} {qa qt mb : Nat} {s : ByteArray} {ls ls' : List Ln} {nb : Nat} {x : Bk} {p : Pl} {q : Nat} {l : Ln} (h : Bt w V qa qt mb s ls nb x p) (hF : Fr (One qa) V V') (hL : LIn V' q l) (hR : Rs V' qa qt s ls') (hq : V.heap.size ≤ q) : Bs w V' qa qt mb s ls' nb x p q l :=
  have h3 := h.nbl
  have h4 := h.mlt
  have h5 := h.rd.n3
  have h6 := h.b.lt
  ⟨⟨at_fr h.rb hF (by show ¬ _ = _; omega), at_fr h.rr hF (by show ¬ _ = _; omega), at_fr h.b hF (by show ¬ _ = _; omega), tag_fr h.bt hF h.b.lt (by show ¬ _ = _; omega), row_old h.o hF (by omega), h.og, row_old h.y hF (by omega), h.yg, h.nbl, h.rd.next hF hR, h.fr.same hF, h.mlt⟩, hL, by omega, by omega, fun g hg e => by have := (h.o.lt g hg).2; omega, fun g hg e => by have := (h.y.lt g hg).2; omega⟩
theorem Bs.start {w w1 : World} {qa qt mb : Nat} {s : ByteArray} {ls : List Ln} {a : Option Addr} {c : Nat} {os : List O} {q : Nat} {l : Ln} {t t' : TypeId} (hm : mb < w.heap.size)
    (hrow : LRow w1 (w.heap.size + 1 + 1) a c os) (hrq : ∀ g, (Value.slice a os.length c).ownBlock = some g → g < q) (hL : LIn w1 q l) (hrd : Rd w1 qa qt mb s ls) (hq : w.heap.size + 1 + 1 ≤ q) (hF : Fr (One qa) ((w.alloc (.cells #[nextV qa qt, .map (some mb)] t)).alloc (.cells bz6 t')) w1) :
    Bs w (w1.alloc (.cells #[.slice a os.length c, .int .i8 0, .int .u8 0, .slice none 0 0, .int .i64 0, .int .i64 0] 43)) qa qt mb s ls w1.heap.size ⟨os, 0, 0, [], 0, 0⟩ ⟨a, c, none, 0⟩ q l := by
  have h5 := hrd.n3
  obtain ⟨a1, a2, hb, _, _⟩ := two_new w #[nextV qa qt, .map (some mb)] bz6 t t' (Below.refl _ _)
  have hq1 := hL.lt
  have hbl : Below w1.heap.size w1 (w1.alloc (.cells #[.slice a os.length c, .int .i8 0, .int .u8 0, .slice none 0 0, .int .i64 0, .int .i64 0] 43)) := (Below.refl _ _).alloc (Nat.le_refl _) _
  have r1 := at_fr a1 hF (by show ¬ _ = _; omega)
  have r2 := at_fr a2 hF (by show ¬ _ = _; omega)
  have hfr : Fr (One qa) w w1 := (Fr.of hb).same hF
  refine ⟨⟨r1.below hbl r1.lt, r2.below hbl r2.lt, At.new _ _ _, tag_new _ _ _, row_below hrow hbl, fun g hg e => ?_, World.ownsRow_nil _ _ _ _, fun g hg => (by cases hg), by omega, hrd.up hbl, hfr.then hbl, hm⟩, hL.up hbl, by omega, by omega, fun g hg e => ?_, fun g hg => (by cases hg)⟩
  · have := hrq g hg; omega
  · have := hrq g hg; omega
/-- What stays when the result is laid. -/
structure Bz (w V : World) (qa qt mb : Nat) (s : ByteArray) (ls : List Ln) (x : Bk) (p : Pl) : Prop where
  o : LRow V (w.heap.size + 2) p.oa p.oc x.ops
  y : LRow V (w.heap.size + 2) p.ba p.bc x.body
  rd : Rd V qa qt mb s ls
  fr : Fr (One qa) w V
  mlt : mb < w.heap.size
theorem Bt.z {w V : World} {qa qt mb : Nat} {s : ByteArray} {ls : List Ln} {nb : Nat} {x : Bk} {p : Pl} (h : Bt w V qa qt mb s ls nb x p) : Bz w V qa qt mb s ls x p := ⟨h.o, h.y, h.rd, h.fr, h.mlt⟩
theorem Bz.set {w V : World} {qa qt mb : Nat} {s : ByteArray} {ls : List Ln} {x : Bk} {p : Pl} (h : Bz w V qa qt mb s ls x p) (j : Nat) (v : Value) : Bz w (V.setCell ⟨w.heap.size + 1, j, none⟩ v) qa qt mb s ls x p := by
  have h4 := h.mlt
  have hF : Fr (One (w.heap.size + 1)) V (V.setCell ⟨w.heap.size + 1, j, none⟩ v) := (Fr.refl (One (w.heap.size + 1)) V).setCell (.inr rfl) _ _
  exact ⟨row_old h.o hF (by omega), row_old h.y hF (by omega), h.rd.far hF (by omega), h.fr.new hF (by omega), h.mlt⟩
/-- What a reader of a block answers. -/
def BlPost (w : World) (qa qt mb : Nat) (s : ByteArray) (x : Bk × List Ln) (e : Ending) (w' : World) : Prop :=
  ∃ p, e = .returned (x.1.val p) ∧ LRow w' w.heap.size p.oa p.oc x.1.ops ∧ LRow w' w.heap.size p.ba p.bc x.1.body ∧ Rd w' qa qt mb s x.2 ∧ Fr (One qa) w w'
theorem Bz.post {w V : World} {qa qt mb : Nat} {s : ByteArray} {ls : List Ln} {x : Bk} {p : Pl} (h : Bz w V qa qt mb s ls x p) : BlPost w qa qt mb s (x, ls) (.returned (x.val p)) V :=
  ⟨p, rfl, row_le h.o (by omega), row_le h.y (by omega), h.rd, h.fr⟩
theorem Bt.b6 {w V : World} {qa qt mb : Nat} {s : ByteArray} {ls : List Ln} {nb : Nat} {x : Bk} {p : Pl} (h : Bt w V qa qt mb s ls nb x p) : V.cell? ⟨nb, 0, none⟩ = some (.slice p.oa x.ops.length p.oc) ∧ V.cell? ⟨nb, 1, none⟩ = some (.int .i8 x.fin) ∧ V.cell? ⟨nb, 2, none⟩ = some (.int .u8 x.a) ∧ V.cell? ⟨nb, 3, none⟩ = some (.slice p.ba x.body.length p.bc) ∧ V.cell? ⟨nb, 4, none⟩ = some (.int .i64 x.thn) ∧ V.cell? ⟨nb, 5, none⟩ = some (.int .i64 x.els) :=
  ⟨h.b.c 0 _ rfl, h.b.c 1 _ rfl, h.b.c 2 _ rfl, h.b.c 3 _ rfl, h.b.c 4 _ rfl, h.b.c 5 _ rfl⟩
theorem Bt.r6 {w V : World} {qa qt mb : Nat} {s : ByteArray} {ls : List Ln} {nb : Nat} {x : Bk} {p : Pl} (h : Bt w V qa qt mb s ls nb x p) : V.cell? ⟨w.heap.size + 1, 0, none⟩ = some (.slice none 0 0) ∧ V.cell? ⟨w.heap.size + 1, 1, none⟩ = some (.int .i8 0) ∧ V.cell? ⟨w.heap.size + 1, 2, none⟩ = some (.int .u8 0) ∧ V.cell? ⟨w.heap.size + 1, 3, none⟩ = some (.slice none 0 0) ∧ V.cell? ⟨w.heap.size + 1, 4, none⟩ = some (.int .i64 0) ∧ V.cell? ⟨w.heap.size + 1, 5, none⟩ = some (.int .i64 0) :=
  ⟨h.rr.c 0 _ rfl, h.rr.c 1 _ rfl, h.rr.c 2 _ rfl, h.rr.c 3 _ rfl, h.rr.c 4 _ rfl, h.rr.c 5 _ rfl⟩
theorem Bt.r2 {w V : World} {qa qt mb : Nat} {s : ByteArray} {ls : List Ln} {nb : Nat} {x : Bk} {p : Pl} (h : Bt w V qa qt mb s ls nb x p) : V.cell? ⟨w.heap.size, 0, none⟩ = some (.func (.func 38) #[] #[.pointer (some ⟨qa, 0, none⟩), .pointer (some ⟨qt, 0, none⟩)]) ∧ V.cell? ⟨w.heap.size, 1, none⟩ = some (.map (some mb)) := ⟨h.rb.c 0 _ rfl, h.rb.c 1 _ rfl⟩
end Go.Proofs.YthjpddjfckdefaaGreatDoor.Pr
