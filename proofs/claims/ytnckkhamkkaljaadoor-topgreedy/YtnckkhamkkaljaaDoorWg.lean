/- The list's way: what the program keeps is what the way says, step by step. Conditions: said at each. -/
import Derived.Test.YtnckkhamkkaljaaDoorWd
import Derived.Test.YtnckkhamkkaljaaDoorWb
import Derived.ScopeJumps
namespace Go.Proofs.YtnckkhamkkaljaaDoor.Ls
open Go.ChangeShapes Go.WideShapes Go.ChangeAt Go.RowKit
open _root_.Go.Proofs.YtnckkhamkkaljaaDoor.Op _root_.Go.Proofs.YtnckkhamkkaljaaDoor.So _root_.Go.Proofs.YtnckkhamkkaljaaDoor.Dp _root_.Go.Proofs.YtnckkhamkkaljaaDoor.ListWay
open _root_.Go.Proofs.YtnckkhamkkaljaaDoor.Rv (RAt Few frB tkF tk_few take_any free_any evOk NwOut new_ok)
open _root_.Go.Proofs.YtnckkhamkkaljaaDoor.Tb (Tab TabAt Bnds)
set_option maxRecDepth 20000

theorem atSet {w : World} {b : Nat} {cs : Array Value} (h : At w b cs) {j : Nat} (hj : j < cs.size) (v : Value) : At (w.setCell ⟨b, j, none⟩ v) b (cs.setIfInBounds j v) := by
  refine ⟨fun i u e => ?_, fun i => by rw [World.frozen?_setCell]; exact h.f i, by simpa using h.lt⟩
  rw [Array.getElem?_setIfInBounds] at e
  by_cases hij : j = i
  · subst hij
    rw [if_pos rfl, if_pos hj] at e
    injection e with e
    rw [← e, World.cell?_setCell_same _ _ _ (h.c j _ (Array.getElem?_eq_getElem hj))]
  · rw [if_neg hij] at e
    rw [World.cell?_setCell_other]
    · exact h.c i u e
    · intro h'; injection h' with _ h2; exact hij h2
/-- The way's box, ahead of its rows: reservations, edges. -/
structure Na (w X : World) (ao : Option Addr) (n cap wb rb mb : Nat) (t : Tab) (a1 : Option Addr) (c1 : Nat) (es : List Ed) : Prop where
  at' : At X wb #[.slice ao n cap, .pointer (some ⟨rb, 0, none⟩), .slice none 0 0, .slice none 0 0, .slice none 0 0, .slice none 0 0]
  ra : RAt X rb t none mb 0 (fun _ _ => 0)
  eo : EOwn w.heap.size X a1 c1 es
  en : ∀ b, (Value.slice a1 es.length c1).ownBlock = some b → b < wb
  up : Below w.heap.size w X
  r0 : w.heap.size ≤ rb
  m0 : w.heap.size ≤ mb
  rw : rb < wb
  mw : mb < wb
/-- .. and with its rows of numbers. -/
structure Nb (w W : World) (ao : Option Addr) (n cap wb rb mb cb tb fb : Nat) (t : Tab) (a1 : Option Addr) (c1 : Nat) (es : List Ed) : Prop where
  at' : At W wb #[.slice ao n cap, .pointer (some ⟨rb, 0, none⟩), .slice (some ⟨cb, 0, none⟩) n n, .slice none 0 0, .slice (some ⟨tb, 0, none⟩) n n, .slice (some ⟨fb, 0, none⟩) n n]
  ra : RAt W rb t none mb 0 (fun _ _ => 0)
  eo : EOwn w.heap.size W a1 c1 es
  en : ∀ b, (Value.slice a1 es.length c1).ownBlock = some b → b < wb
  up : Below w.heap.size w W
  cy : Ir W cb n (fun _ => 0)
  wt : Ir W tb n (fun _ => 0)
  fs : Ir W fb n (fun _ => 0)
  r0 : w.heap.size ≤ rb
  m0 : w.heap.size ≤ mb
  rw : rb < wb
  mw : mb < wb
  wc : wb < cb
  wt' : wb < tb
  wf : wb < fb
  ct : cb ≠ tb
  cf : cb ≠ fb
  tf : tb ≠ fb
theorem ir3 (X : World) (n c : Nat) (h1 : X.heap.size ≤ c) (h2 : c < X.heap.size + 3) : Ir (((X.alloc (.cells (madeCells #[.int .i64 0] n) 3)).alloc (.cells (madeCells #[.int .i64 0] n) 3)).alloc (.cells (madeCells #[.int .i64 0] n) 3)) c n (fun _ => 0) := by
  have e1 : (X.alloc (.cells (madeCells #[.int .i64 0] n) 3)).heap.size = X.heap.size + 1 := by simp
  have e2 : ((X.alloc (.cells (madeCells #[.int .i64 0] n) 3)).alloc (.cells (madeCells #[.int .i64 0] n) 3)).heap.size = X.heap.size + 2 := by simp
  have g1 : Below (X.alloc (.cells (madeCells #[.int .i64 0] n) 3)).heap.size (X.alloc (.cells (madeCells #[.int .i64 0] n) 3)) ((X.alloc (.cells (madeCells #[.int .i64 0] n) 3)).alloc (.cells (madeCells #[.int .i64 0] n) 3)) := (Below.refl _ _).alloc (Nat.le_refl _) _
  have g2 : Below ((X.alloc (.cells (madeCells #[.int .i64 0] n) 3)).alloc (.cells (madeCells #[.int .i64 0] n) 3)).heap.size ((X.alloc (.cells (madeCells #[.int .i64 0] n) 3)).alloc (.cells (madeCells #[.int .i64 0] n) 3)) (((X.alloc (.cells (madeCells #[.int .i64 0] n) 3)).alloc (.cells (madeCells #[.int .i64 0] n) 3)).alloc (.cells (madeCells #[.int .i64 0] n) 3)) := (Below.refl _ _).alloc (Nat.le_refl _) _
  have k1 := ((Ir.new X n 3).up g1).up g2
  have k2 := (Ir.new (X.alloc (.cells (madeCells #[.int .i64 0] n) 3)) n 3).up g2
  have k3 := Ir.new ((X.alloc (.cells (madeCells #[.int .i64 0] n) 3)).alloc (.cells (madeCells #[.int .i64 0] n) 3)) n 3
  rw [e1] at k2
  rw [e2] at k3
  rcases (by omega : c = X.heap.size ∨ c = X.heap.size + 1 ∨ c = X.heap.size + 2) with rfl | rfl | rfl
  · exact k1
  · exact k2
  · exact k3
theorem nb_of {w X : World} {ao : Option Addr} {n cap wb rb mb : Nat} {t : Tab} {a1 : Option Addr} {c1 : Nat} {es : List Ed} (h : Na w X ao n cap wb rb mb t a1 c1 es) (cb tb fb : Nat) (p1 : X.heap.size ≤ cb) (q1 : cb < X.heap.size + 3) (p2 : X.heap.size ≤ tb) (q2 : tb < X.heap.size + 3) (p3 : X.heap.size ≤ fb) (q3 : fb < X.heap.size + 3) (n1 : cb ≠ tb) (n2 : cb ≠ fb) (n3 : tb ≠ fb) :
    Nb w (((((((X.setCell ⟨wb, 2, none⟩ (.slice (some ⟨cb, 0, none⟩) n n)).setCell ⟨wb, 4, none⟩ (.slice (some ⟨tb, 0, none⟩) n n)).setCell ⟨wb, 5, none⟩ (.slice (some ⟨fb, 0, none⟩) n n)).alloc (.cells (madeCells #[.int .i64 0] n) 3)).alloc (.cells (madeCells #[.int .i64 0] n) 3)).alloc (.cells (madeCells #[.int .i64 0] n) 3)).drew) ao n cap wb rb mb cb tb fb t a1 c1 es := by
  have hw := h.at'.lt
  have a1' := ((atSet (atSet (atSet h.at' (j := 2) (by simp) (.slice (some ⟨cb, 0, none⟩) n n)) (j := 4) (by simp) (.slice (some ⟨tb, 0, none⟩) n n)) (j := 5) (by simp) (.slice (some ⟨fb, 0, none⟩) n n)))
  have g : Fr (One wb) X (((X.setCell ⟨wb, 2, none⟩ (.slice (some ⟨cb, 0, none⟩) n n)).setCell ⟨wb, 4, none⟩ (.slice (some ⟨tb, 0, none⟩) n n)).setCell ⟨wb, 5, none⟩ (.slice (some ⟨fb, 0, none⟩) n n)) := (((Fr.refl (One wb) X).setCell (.inr rfl) _ _).setCell (.inr rfl) _ _).setCell (.inr rfl) _ _
  have hsz : (((X.setCell ⟨wb, 2, none⟩ (.slice (some ⟨cb, 0, none⟩) n n)).setCell ⟨wb, 4, none⟩ (.slice (some ⟨tb, 0, none⟩) n n)).setCell ⟨wb, 5, none⟩ (.slice (some ⟨fb, 0, none⟩) n n)).heap.size = X.heap.size := by simp
  obtain ⟨Y, hY⟩ : ∃ Y, ((X.setCell ⟨wb, 2, none⟩ (.slice (some ⟨cb, 0, none⟩) n n)).setCell ⟨wb, 4, none⟩ (.slice (some ⟨tb, 0, none⟩) n n)).setCell ⟨wb, 5, none⟩ (.slice (some ⟨fb, 0, none⟩) n n) = Y := ⟨_, rfl⟩
  rw [hY] at a1' g hsz ⊢
  have g0 : Below Y.heap.size Y (((Y.alloc (.cells (madeCells #[.int .i64 0] n) 3)).alloc (.cells (madeCells #[.int .i64 0] n) 3)).alloc (.cells (madeCells #[.int .i64 0] n) 3)) := by go_grown
  have gd : Below Y.heap.size Y (((Y.alloc (.cells (madeCells #[.int .i64 0] n) 3)).alloc (.cells (madeCells #[.int .i64 0] n) 3)).alloc (.cells (madeCells #[.int .i64 0] n) 3)).drew := ⟨g0.os, g0.tape, g0.output, g0.size, g0.block⟩
  have i1 := ir3 Y n cb (by omega) (by omega)
  have i2 := ir3 Y n tb (by omega) (by omega)
  have i3 := ir3 Y n fb (by omega) (by omega)
  have r1 := h.r0; have r2 := h.rw; have r3 := h.m0; have r4 := h.mw
  have u : Below w.heap.size w Y := h.up.trans (g.below h.up.size fun k hk e => by have e : k = wb := e; omega)
  refine ⟨a1'.below gd a1'.lt, (raFr h.ra g ?_ ?_).up gd, row_up (row_fr h.eo g (fun k hk e => ?_)) gd, h.en, u.trans (gd.mono u.size), i1.up (drew_up _), i2.up (drew_up _), i3.up (drew_up _), r1, r3, r2, r4, by omega, by omega, by omega, n1, n2, n3⟩
  · show ¬ rb = wb; omega
  · show ¬ mb = wb; omega
  · have := h.en k hk
    have e : k = wb := e
    omega
/-- How many edges go to one. -/
def toN (es : List Ed) (i : Nat) : Int := ((es.countP fun e => decide (e.t.toNat = i) : Nat) : Int)
theorem toN_put (es : List Ed) (e : Ed) : toN (es ++ [e]) = updI (toN es) e.t.toNat (toN es e.t.toNat + 1) := by
  funext i
  unfold toN updI
  rw [List.countP_append, List.countP_singleton]
  by_cases h : i = e.t.toNat
  · subst h; simp
  · rw [if_neg h, if_neg (by simpa using fun e2 : e.t.toNat = i => h e2.symm)]; rfl
theorem toN_le (es : List Ed) (i : Nat) : 0 ≤ toN es i ∧ toN es i ≤ es.length := by
  unfold toN
  have := List.countP_le_length (p := fun e : Ed => decide (e.t.toNat = i)) (l := es)
  omega
theorem frm_put (es : List Ed) (e : Ed) (i : Nat) : frm (es ++ [e]) i = if e.f.toNat = i then frm es i ++ [e] else frm es i := by
  unfold frm
  rw [List.filter_append]
  by_cases h : e.f.toNat = i
  · simp [h]
  · simp [h]
/-- The rows lie apart. -/
def Sep (d : Dt) (n : Nat) : Prop := ∀ i j, i < n → j < n → i ≠ j → ∀ b, (d.V i).ownBlock = some b → ¬ (d.V j).ownBlock = some b
def dV (d : Dt) (i : Nat) (v : Value) : Dt := ⟨d.wb, d.rb, d.mb, d.cb, d.ab, d.tb, d.fb, fun j => if j = i then v else d.V j⟩
theorem Wy.put {w0 W X w4 : World} {d : Dt} {ao : Option Addr} {cap : Nat} {t : Tab} {xs : List O} {es : List Ed} {m : Nat} {f : Int → Int → Int} {C Wt Ff : Nat → Int} (h : Wy w0 W d ao cap t xs es m f C Wt Ff) (hz : ∀ i, W.frozen? ⟨d.ab, i, none⟩ = false) (hs : Sep d xs.length) (hX : Below W.heap.size W X) {i g cp : Nat} {e : Ed} (hi : i < xs.length) (he : e.f.toNat = i) (hgrow : X.grownBy w4 (d.V i).ownBlock) (hown : w4.ownsRow (d.ab + 1) 42 5 (.slice (some ⟨g, 0, none⟩) ((frm es i).length + 1) cp) ((frm es i).length + 1) (ecells (frm es i) ++ e.cells)) (hg : (d.V i).ownBlock = some g ∨ W.heap.size ≤ g) :
    (w4.cell? ⟨d.ab, i, none⟩ = some (d.V i) ∧ w4.frozen? ⟨d.ab, i, none⟩ = false ∧ d.ab < w4.heap.size ∧ Fr (fun b => (d.V i).ownBlock = some b) W w4) ∧
    (Wy w0 (w4.setCell ⟨d.ab, i, none⟩ (.slice (some ⟨g, 0, none⟩) ((frm es i).length + 1) cp)) (dV d i (.slice (some ⟨g, 0, none⟩) ((frm es i).length + 1) cp)) ao cap t xs (es ++ [e]) m f C Wt Ff ∧
    (∀ j, (w4.setCell ⟨d.ab, i, none⟩ (.slice (some ⟨g, 0, none⟩) ((frm es i).length + 1) cp)).frozen? ⟨d.ab, j, none⟩ = false) ∧
    Sep (dV d i (.slice (some ⟨g, 0, none⟩) ((frm es i).length + 1) cp)) xs.length ∧ Fr (fun b => b = d.ab ∨ (d.V i).ownBlock = some b) W (w4.setCell ⟨d.ab, i, none⟩ (.slice (some ⟨g, 0, none⟩) ((frm es i).length + 1) cp))) := by
  have hF : Fr (fun b => (d.V i).ownBlock = some b) W w4 := (Fr.of hX).trans (grown_fr hgrow) fun _ _ e => e
  have hlo : ∀ b, (d.V i).ownBlock = some b → d.ab + 1 ≤ b ∧ b < W.heap.size := fun b hb => (h.rw i hi).lt b hb
  have na : ¬ (d.V i).ownBlock = some d.ab := fun e => by have := hlo _ e; omega
  have c1 := (hF.cell h.al na i).trans (h.af i hi)
  have c2 := (hF.frozen h.al na i).trans (hz i)
  have hz4 : d.ab < w4.heap.size := Nat.lt_of_lt_of_le h.al hF.size
  have o := h.ok
  have o1 := o.r0; have o2 := o.rw; have o3 := o.mw; have o4 := o.wc; have o5 := o.ca; have o6 := o.wt; have o7 := o.ta; have o8 := o.wf; have o9 := o.fa; have o10 := o.m0
  have G : Fr (fun b => b = d.ab ∨ (d.V i).ownBlock = some b) W (w4.setCell ⟨d.ab, i, none⟩ (.slice (some ⟨g, 0, none⟩) ((frm es i).length + 1) cp)) := (hF.mono fun k _ e => .inr e).setCell (.inr (.inl rfl)) _ _
  have lo : ∀ b, b < d.ab → ¬ (b = d.ab ∨ (d.V i).ownBlock = some b) := fun b hb e => by
    rcases e with e | e
    · omega
    · have := hlo b e; omega
  refine ⟨⟨c1, c2, hz4, hF⟩, ⟨⟨o.r0, o.m0, o.rw, o.mw, o.wc, o.wt, o.wf, o.ct, o.cf, o.tf, o.ca, o.ta, o.fa⟩, h.up.trans (G.below h.up.size fun k hk => lo k (by omega)), h.op, atFr h.at' G (lo d.wb (by omega)), raFr h.ra G (lo d.rb (by omega)) (lo d.mb (by omega)), h.cy.fr G (lo _ o5), h.wt.fr G (lo _ o7), h.fs.fr G (lo _ o9), fun j hj => ?_, by simpa [dV] using hz4, fun j hj => ?_⟩, fun j => ?_, fun j k hj hk hjk b hb => ?_, G⟩
  · by_cases e : j = i
    · subst e
      show World.cell? _ ⟨d.ab, j, none⟩ = some (if j = j then _ else _)
      rw [if_pos rfl, World.cell?_setCell_same _ _ _ c1]
    · show World.cell? _ ⟨d.ab, j, none⟩ = some (if j = i then _ else d.V j)
      rw [if_neg e, World.cell?_setCell_other]
      · exact (hF.cell h.al na j).trans (h.af j hj)
      · intro h'; injection h' with _ h2; exact e h2.symm
  · show World.ownsRow _ (d.ab + 1) 42 5 (if j = i then _ else d.V j) _ _
    rw [frm_put, he]
    by_cases e : j = i
    · subst e
      rw [if_pos rfl, if_pos rfl, ecells_put, List.length_append]
      exact row_set' hown (by omega) _
    · rw [if_neg e, if_neg (fun e2 => e e2.symm)]
      refine row_fr (h.rw j hj) G fun k hk e2 => ?_
      rcases e2 with e2 | e2
      · have := ((h.rw j hj).lt k hk).1; omega
      · exact hs j i hj hi e k hk e2
  · rw [World.frozen?_setCell]
    exact (hF.frozen h.al na j).trans (hz j)
  · have hb : (if j = i then Value.slice (some ⟨g, 0, none⟩) ((frm es i).length + 1) cp else d.V j).ownBlock = some b := hb
    show ¬ (if k = i then Value.slice (some ⟨g, 0, none⟩) ((frm es i).length + 1) cp else d.V k).ownBlock = some b
    by_cases e1 : j = i
    · rw [if_pos e1] at hb
      rw [if_neg (fun e2 => hjk (e1.trans e2.symm))]
      have e3 : g = b := by simpa [Value.ownBlock] using hb
      subst e3
      rcases hg with hg | hg
      · exact hs i k hi hk (fun e => hjk (e1.trans e)) g hg
      · intro e4
        have := ((h.rw k hk).lt g e4).2
        omega
    · rw [if_neg e1] at hb
      by_cases e2 : k = i
      · rw [if_pos e2]
        intro e3
        have e3 : g = b := by simpa [Value.ownBlock] using e3
        subst e3
        rcases hg with hg | hg
        · exact hs j i hj hi e1 g hb hg
        · have := ((h.rw j hj).lt g hb).2
          omega
      · rw [if_neg e2]
        exact hs j k hj hk hjk b hb
end Go.Proofs.YtnckkhamkkaljaaDoor.Ls

namespace Go.Proofs.YtnckkhamkkaljaaDoor.Ls
open Go.ChangeShapes Go.WideShapes Go.ChangeAt Go.RowKit
open _root_.Go.Proofs.YtnckkhamkkaljaaDoor.Op _root_.Go.Proofs.YtnckkhamkkaljaaDoor.So _root_.Go.Proofs.YtnckkhamkkaljaaDoor.Dp _root_.Go.Proofs.YtnckkhamkkaljaaDoor.ListWay
open _root_.Go.Proofs.YtnckkhamkkaljaaDoor.Rv (RAt Few frB tkF tk_few take_any free_any evOk NwOut new_ok ftB tms tn addK fr_parts)
open _root_.Go.Proofs.YtnckkhamkkaljaaDoor.Tb (Tab TabAt Bnds)
set_option maxRecDepth 20000

theorem wp_scope_label {P : Program} {Q : Exit → Act → World → Prop} {a : Act} {w : World} {b : Code} (l : Nat) (J : Act → World → Prop) (μ : Act → World → Nat) (h0 : J a w)
    (pass : ∀ a w, J a w → b.wp P (Exit.jump l (fun a' w' => J a' w' ∧ μ a' w' < μ a w) Q) a w) : (Code.scope ((Code.label l).seq b)).wp P Q a w :=
  wp_scope_jumps (rest := Code.skip.seq b) l J μ (by simp [findLabel]) (wp_seq (wp_label (show b.wp P (Exit.jump l J Q) a w from wp_mono (pass a w h0) fun e a w h => by
    cases e <;> first | exact h | exact ⟨h.1, h.2.1⟩))) fun a w h => wp_seq (wp_skip (pass a w h))
/-- The class of the i-th. -/
def clN (xs : List O) (i : Nat) : Nat := match xs[i]? with | some o => clD o.op | none => 0
theorem clN_at {xs : List O} {i : Nat} (h : i < xs.length) : clN xs i = clD xs[i].op := by unfold clN; rw [List.getElem?_eq_getElem h]
theorem clN_lt (xs : List O) (i : Nat) : clN xs i < 4 := by
  unfold clN
  split
  · exact clD_lt _
  · omega
/-- What the way hangs on. -/
def sysL (t : Tab) (xs : List O) (es : List Ed) : ListWay.Sys := ⟨xs.length, clN xs, fun c => (t.u c).toNat, fun c => if c < 4 then (t.b c).toNat else 1, es.map eg⟩
theorem sysL_ok {t : Tab} {xs : List O} {es : List Ed} (ht : t.ok = true) (hu : hvU t xs = true) (hE : EOk xs.length es) : (sysL t xs es).Ok := by
  refine ⟨fun i hi => ?_, fun c => ?_, fun e he => ?_⟩
  · have hi : i < xs.length := hi
    show 1 ≤ (t.u (clN xs i)).toNat
    have h1 := hvU_all hu i hi
    have h2 := Tb.inB_iff ((Tb.ok_parts ht).2 (clN xs i) (clN_lt xs i)).1
    rw [clN_at hi] at h2 ⊢
    omega
  · show 1 ≤ (if c < 4 then (t.b c).toNat else 1) ∧ (if c < 4 then (t.b c).toNat else 1) ≤ 8
    by_cases hc : c < 4
    · rw [if_pos hc]
      have h2 := Tb.inB_iff ((Tb.ok_parts ht).2 c hc).2.2
      omega
    · rw [if_neg hc]; omega
  · obtain ⟨x, hx, rfl⟩ := List.mem_map.1 he
    have h1 := hE.f0 x hx
    have h2 := hE.ft x hx
    have h3 := hE.tn x hx
    have h4 := hE.l0 x hx
    show x.f.toNat < x.t.toNat ∧ x.t.toNat < xs.length ∧ 0 ≤ x.l ∧ x.l ≤ 8
    omega
theorem sysL_b {t : Tab} {xs : List O} {es : List Ed} (i : Nat) : (sysL t xs es).b ((sysL t xs es).cls i) = (t.b (clN xs i)).toNat := by
  show (if clN xs i < 4 then _ else _) = _
  rw [if_pos (clN_lt xs i)]
  rfl
theorem tms_hits (first cyc : Int) : ∀ k, tms none first cyc k = hits first cyc k
  | 0 => rfl
  | k + 1 => by
    show tms none first cyc k + (if first + (k : Int) = cyc then 1 else 0) = hits first cyc k + (if first + (k : Int) = cyc then 1 else 0)
    rw [tms_hits first cyc k]
theorem free_sys {t : Tab} {xs : List O} {es : List Ed} (ht : t.ok = true) (c : Nat → Int) (i : Nat) {y : Int} (h0 : 0 ≤ y) (h1 : y ≤ 65536) : frB t none (cntF (sysL t xs es) c) (clN xs i : Int) y = true ↔ Free (sysL t xs es) c i y := by
  rw [← free_all, sysL_b]
  have h2 := Tb.inB_iff ((Tb.ok_parts ht).2 (clN xs i) (clN_lt xs i)).1
  have hc := clN_lt xs i
  have hu : (((sysL t xs es).u ((sysL t xs es).cls i) : Nat) : Int) = t.u (clN xs i) := by
    show (((t.u (clN xs i)).toNat : Nat) : Int) = _
    omega
  rw [hu]
  have e1 : decide (0 ≤ (clN xs i : Int)) = true := by simp
  have e2 : decide ((clN xs i : Int) ≤ 3) = true := by simp; omega
  have e3 : decide (0 ≤ tn none y) = true := decide_eq_true h0
  have e4 : decide (tn none y ≤ 65536) = true := decide_eq_true h1
  unfold frB
  rw [e1, e2, e3, e4]
  simp only [Bool.true_and, Int.toNat_natCast]
  unfold ftB
  simp only [tms_hits]
  exact Iff.rfl
theorem take_sys {t : Tab} {xs : List O} {es : List Ed} {c : Nat → Int} {i : Nat} {y : Int} (hi : i < xs.length) (hc : c i < 0) (hy : 0 ≤ y) (h : frB t none (cntF (sysL t xs es) c) (clN xs i : Int) y = true) : tkF t none (cntF (sysL t xs es) c) (clN xs i : Int) y = cntF (sysL t xs es) (ListWay.upd c i y) := by
  rw [← cntF_place (s := sysL t xs es) hi hc hy, sysL_b]
  unfold tkF
  rw [if_pos h]
  unfold addK
  funext a b
  rw [Int.toNat_natCast]
  show (if a = (clN xs i : Int) then cntF (sysL t xs es) c a b + tms none y b _ else _) = _
  rw [tms_hits]
  rfl
/-- What the cycles' row holds. -/
def cyF (c : Nat → Int) : Nat → Int := fun i => if 0 ≤ c i then c i else 0
theorem cyF_upd (c : Nat → Int) (i : Nat) {y : Int} (hy : 0 ≤ y) : updI (cyF c) i y = cyF (ListWay.upd c i y) := by
  funext j
  unfold updI cyF ListWay.upd
  by_cases e : j = i
  · rw [if_pos e, if_pos e, if_pos hy]
  · rw [if_neg e, if_neg e]
theorem cyF_start : cyF (fun _ => -1) = fun _ => 0 := by
  funext j
  unfold cyF
  exact if_neg (by show ¬ (0 : Int) ≤ -1; decide)
theorem frm_es (es : List Ed) (i : Nat) : (frm es i).map eg = (es.map eg).filter fun e => decide (e.f = i) := by
  unfold frm
  rw [List.filter_map]
  rfl
theorem toN_ok (t : Tab) (xs : List O) (es : List Ed) : WOk (sysL t xs es) (fun _ => -1) (toN es) := by
  have h := WOk.start (sysL t xs es)
  have e : (fun i => (((sysL t xs es).es.countP fun e => decide (e.t = i) : Nat) : Int)) = toN es := by
    funext i
    show ((((es.map eg).countP fun e => decide (e.t = i)) : Nat) : Int) = _
    rw [List.countP_map]
    rfl
  rw [e] at h
  exact h
/-- The way under way: what the program keeps, what is left. -/
structure Pz (w W : World) (d : Dt) (ao : Option Addr) (cap : Nat) (t : Tab) (xs : List O) (es : List Ed) (lb : Nat) (ord : List Nat) (c : Nat → Int) : Prop where
  ex : ∃ m Wt Ff, Wy w W d ao cap t xs es m (cntF (sysL t xs es) c) (cyF c) Wt Ff ∧ WOk (sysL t xs es) c Wt ∧ FOk (sysL t xs es) c Ff ∧ m ≤ 4 * placed (sysL t xs es) c
  fw : Few (cntF (sysL t xs es) c)
  lf : Lf W lb (lft ord c)
theorem Pz.next {w W W' : World} {d : Dt} {ao : Option Addr} {cap : Nat} {t : Tab} {xs : List O} {es : List Ed} {lb : Nat} {ord : List Nat} {c : Nat → Int} (h : Pz w W d ao cap t xs es lb ord c) (g : Below W.heap.size W W') : Pz w W' d ao cap t xs es lb ord c := by
  obtain ⟨m, Wt, Ff, h1, h2, h3, h4⟩ := h.ex
  exact ⟨⟨m, Wt, Ff, h1.next g, h2, h3, h4⟩, h.fw, h.lf.fr (Fr.of (X := Non) g) fun h => h⟩
theorem FOk.in' {s : ListWay.Sys} {c F : Nat → Int} {y : Int} (ok : s.Ok) (hF : FOk s c F) (hv : Inv s c y) (i : Nat) : 0 ≤ F i ∧ F i ≤ y + 8 := by
  refine ⟨((hF i (F i)).1 (Int.le_refl _)).1, (hF i (y + 8)).2 ⟨by have := hv.y0; omega, fun e he _ _ => ?_⟩⟩
  have h1 := ok.ed e he
  have h2 := hv.le e.f (by omega)
  omega
theorem Wy.rebase {w w1 W : World} {d : Dt} {ao : Option Addr} {cap : Nat} {t : Tab} {xs : List O} {es : List Ed} {m : Nat} {f : Int → Int → Int} {C Wt Ff : Nat → Int} (h : Wy w1 W d ao cap t xs es m f C Wt Ff) (hb : Below w.heap.size w w1) (ho : OpsAt w ao xs) : Wy w W d ao cap t xs es m f C Wt Ff := by
  have o := h.ok
  have := hb.size
  have := o.r0
  have := o.m0
  exact ⟨⟨by omega, by omega, o.rw, o.mw, o.wc, o.wt, o.wf, o.ct, o.cf, o.tf, o.ca, o.ta, o.fa⟩, hb.trans (h.up.mono hb.size), ho, h.at', h.ra, h.cy, h.wt, h.fs, h.af, h.al, h.rw⟩
/-- What is asked of each: ready, and free. -/
theorem ask_is {t : Tab} {xs : List O} {es : List Ed} (ht : t.ok = true) {c Wt Ff : Nat → Int} (hW : WOk (sysL t xs es) c Wt) (hF : FOk (sysL t xs es) c Ff) (i : Nat) {y : Int} (h0 : 0 ≤ y) (h1 : y ≤ 65536) : ((decide (Wt i = 0) && decide (Ff i ≤ y)) && frB t none (cntF (sysL t xs es) c) (clN xs i : Int) y) = rfB (sysL t xs es) c y i := by
  rw [Bool.eq_iff_iff, rfB_iff, Bool.and_eq_true, Bool.and_eq_true, decide_eq_true_eq, decide_eq_true_eq, free_sys ht c i h0 h1, ready_is hW hF h0]
/-- One is placed, and struck out of what is left. -/
theorem Pz.step {w W w3 w4 : World} {d : Dt} {ao : Option Addr} {cap : Nat} {t : Tab} {xs : List O} {es : List Ed} {lb : Nat} {ord : List Nat} {c Wt Ff : Nat → Int} {m m' k : Nat} {y : Int} (h : Pz w W d ao cap t xs es lb ord c) (hd : ord.Nodup) (ho : ∀ i, i ∈ ord ↔ i < xs.length) (hlb : w.heap.size ≤ lb ∧ lb < d.rb ∧ lb < d.mb) (ht : t.ok = true)
    (hW : WOk (sysL t xs es) c Wt) (hF : FOk (sysL t xs es) c Ff) (hm : m ≤ 4 * placed (sysL t xs es) c) (hk : k < (lft ord c).length) (hy : 0 ≤ y) (hfr : frB t none (cntF (sysL t xs es) c) (clN xs (lft ord c)[k] : Int) y = true)
    (h3 : Wy w w3 d ao cap t xs es m' (tkF t none (cntF (sysL t xs es) c) (clN xs (lft ord c)[k] : Int) y) (updI (cyF c) (lft ord c)[k] y) (plW ((frm es (lft ord c)[k]).map eg) Wt) (plF y ((frm es (lft ord c)[k]).map eg) Ff)) (hm' : m' ≤ m + 4)
    (g4 : Fr (One lb) w3 w4) (l4 : Lf w4 lb ((lft ord c).eraseIdx k)) : Pz w w4 d ao cap t xs es lb ord (ListWay.upd c (lft ord c)[k] y) := by
  obtain ⟨h5, h6⟩ := lft_mem hk
  have hi : (lft ord c)[k] < xs.length := (ho _).1 h5
  have l5 : lft ord (ListWay.upd c (lft ord c)[k] y) = (lft ord c).eraseIdx k := lft_place hd hk hy
  obtain ⟨i, hie⟩ : ∃ i, (lft ord c)[k] = i := ⟨_, rfl⟩
  rw [hie] at h3 h6 hi l5 hfr ⊢
  have o := h3.ok
  have o1 := o.rw; have o2 := o.wc; have o3 := o.wt; have o4 := o.wf; have o5 := o.ca
  have q : ∀ b, lb < b → ¬ b = lb := fun b hb e => by omega
  have h4 : Wy w w4 d ao cap t xs es m' (cntF (sysL t xs es) (ListWay.upd c i y)) (cyF (ListWay.upd c i y)) (plW ((frm es i).map eg) Wt) (plF y ((frm es i).map eg) Ff) := by
    rw [← take_sys hi h6 hy hfr, ← cyF_upd c i hy]
    refine h3.gen g4 (fun k hk => ?_) (raFr h3.ra g4 (q _ hlb.2.1) (q _ hlb.2.2)) (h3.cy.fr g4 (q _ (by omega))) (h3.wt.fr g4 (q _ (by omega))) (h3.fs.fr g4 (q _ (by omega)))
    have hk : k = lb := hk
    omega
  refine ⟨⟨m', _, _, h4, ?_, ?_, ?_⟩, ?_, by rw [l5]; exact l4⟩
  · rw [frm_es]; exact hW.place h6 hy
  · rw [frm_es]; exact hF.place h6 hy
  · rw [placed_upd hi h6 hy]; omega
  · rw [← take_sys hi h6 hy hfr]; exact tk_few h.fw ht _ _
end Go.Proofs.YtnckkhamkkaljaaDoor.Ls
