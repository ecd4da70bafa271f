/- What is counted is a sum, whatever the order; a list of asks in a row of its own. Conditions: none. -/
import Derived.Test.YthjnegdgpnbkkaaDoorRi
import Derived.Deep.AppendLies
import Derived.OwnWalk
namespace Go.Proofs.YthjnegdgpnbkkaaDoor.Rv
open Go.ChangeShapes Go.WideShapes Go.ChangeAt Go.RowKit Go.Maps
open _root_.Go.Proofs.YthjnegdgpnbkkaaDoor.Op _root_.Go.Proofs.YthjnegdgpnbkkaaDoor.So
open _root_.Go.Proofs.YthjnegdgpnbkkaaDoor.Tb (Tab TabAt Bnds)
set_option maxRecDepth 20000

/-- What one operation counts in a place. -/
def one (t : Tab) (ev : Option Int) (x : Ak) : Int → Int → Int := fun a b => if a = x.c then tms ev (tn ev x.y) b (t.b x.c.toNat).toNat else 0
/-- What operations count together. -/
def Fl (t : Tab) (ev : Option Int) : List Ak → Int → Int → Int
  | [] => fun _ _ => 0
  | x :: L => fun a b => one t ev x a b + Fl t ev L a b
theorem one_0 (t : Tab) (ev : Option Int) (x : Ak) (a b : Int) : 0 ≤ one t ev x a b := by
  unfold one
  split
  · exact (tms_in _ _ _ _).1
  · exact Int.le_refl _
theorem Fl_0 (t : Tab) (ev : Option Int) (a b : Int) : ∀ L, 0 ≤ Fl t ev L a b
  | [] => Int.le_refl _
  | x :: L => by
    have h1 := one_0 t ev x a b
    have h2 := Fl_0 t ev a b L
    show 0 ≤ one t ev x a b + Fl t ev L a b
    omega
theorem Fl_app (t : Tab) (ev : Option Int) (a b : Int) (M : List Ak) : ∀ L, Fl t ev (L ++ M) a b = Fl t ev L a b + Fl t ev M a b
  | [] => by show _ = 0 + _; rw [Int.zero_add]; rfl
  | x :: L => by
    show one t ev x a b + Fl t ev (L ++ M) a b = one t ev x a b + Fl t ev L a b + _
    rw [Fl_app t ev a b M L]; omega
theorem tk_yes {t : Tab} {ev : Option Int} {f : Int → Int → Int} {x : Ak} (h : frB t ev f x.c x.y = true) : tkF t ev f x.c x.y = fun a b => f a b + one t ev x a b := by
  unfold tkF
  rw [if_pos h]
  funext a b
  unfold addK one
  split
  · rfl
  · rw [Int.add_zero]
theorem tk_no {t : Tab} {ev : Option Int} {f : Int → Int → Int} {cl cyc : Int} (h : frB t ev f cl cyc = false) : tkF t ev f cl cyc = f := by
  unfold tkF
  rw [if_neg (by rw [h]; decide)]
theorem tk_snoc {t : Tab} {ev : Option Int} {L : List Ak} {x : Ak} (h : frB t ev (Fl t ev L) x.c x.y = true) : tkF t ev (Fl t ev L) x.c x.y = Fl t ev (L ++ [x]) := by
  rw [tk_yes h]
  funext a b
  rw [Fl_app]
  show _ = _ + (one t ev x a b + 0)
  omega
theorem tk_cons {t : Tab} {ev : Option Int} {L : List Ak} {x : Ak} (h : frB t ev (Fl t ev L) x.c x.y = true) : tkF t ev (Fl t ev L) x.c x.y = Fl t ev (x :: L) := by
  rw [tk_yes h]
  funext a b
  show _ = one t ev x a b + _
  omega
/-- No count is above the units. -/
def OkU (t : Tab) (f : Int → Int → Int) : Prop := ∀ c : Nat, c < 4 → ∀ b, f c b ≤ t.u c
theorem tk_OkU {t : Tab} {ev : Option Int} {f : Int → Int → Int} (hu : OkU t f) (cl cyc : Int) : OkU t (tkF t ev f cl cyc) := by
  cases h : frB t ev f cl cyc
  · rw [tk_no h]; exact hu
  · obtain ⟨⟨h1, h2⟩, -, h3⟩ := fr_parts h
    intro c hc b
    unfold tkF
    rw [if_pos h]
    unfold addK
    by_cases e : (c : Int) = cl
    · rw [if_pos e]
      subst e
      rw [Int.toNat_natCast] at h3 ⊢
      have h5 := tms_in ev (tn ev cyc) b (t.b c).toNat
      by_cases h0 : 0 < tms ev (tn ev cyc) b (t.b c).toNat
      · obtain ⟨j, hj, e2⟩ := tms_pos h0
        unfold ftB at h3
        have h4 := List.all_eq_true.1 h3 j (List.mem_range.2 hj)
        have h4 : ft1 t ev f c (tn ev cyc) j := by unfold ft1; simpa using h4
        unfold ft1 at h4
        rw [e2] at h4
        exact h4
      · have := hu c hc b
        omega
    · rw [if_neg e]; exact hu c hc b
theorem OkU0 {t : Tab} (ht : t.ok = true) : OkU t wf0 := fun c hc _ => (Tb.inB_iff ((Tb.ok_parts ht).2 c hc).1).1
theorem Fl_drop_le (t : Tab) (ev : Option Int) (L : List Ak) (i : Nat) (a b : Int) : Fl t ev (L.drop i) a b ≤ Fl t ev L a b := by
  have h := Fl_app t ev a b (L.drop i) (L.take i)
  rw [List.take_append_drop] at h
  have := Fl_0 t ev a b (L.take i)
  omega
theorem few_drop {t : Tab} {ev : Option Int} {L : List Ak} (h : Few (Fl t ev L)) (i : Nat) : Few (Fl t ev (L.drop i)) := fun a b => ⟨Fl_0 _ _ _ _ _, Int.le_trans (Fl_drop_le t ev L i a b) (h a b).2⟩
/-- What was taken can be taken in the other order. -/
theorem back_yes {t : Tab} {e : Int} (he : 1 ≤ e ∧ e ≤ 65536) {L : List Ak} (hu : OkU t (Fl t (some e) L)) {i : Nat} (hi : i < L.length) (hc : 0 ≤ L[i].c ∧ L[i].c ≤ 3) : frB t (some e) (Fl t (some e) (L.drop (i + 1))) L[i].c L[i].y = true := by
  have z0 : 0 ≤ tn (some e) L[i].y := Int.emod_nonneg _ (show e ≠ 0 by omega)
  have z1 : tn (some e) L[i].y < e := Int.emod_lt_of_pos _ (show 0 < e by omega)
  unfold frB
  simp only [Bool.and_eq_true, decide_eq_true_eq]
  refine ⟨hc, ⟨z0, by omega⟩, ?_⟩
  unfold ftB
  rw [List.all_eq_true]
  intro k hk
  rw [decide_eq_true_eq]
  have h1 := Fl_drop_le t (some e) L i (L[i].c.toNat : Nat) (tn (some e) (tn (some e) L[i].y + k))
  rw [List.drop_eq_getElem_cons hi] at h1
  have h1 : one t (some e) L[i] (L[i].c.toNat : Nat) (tn (some e) (tn (some e) L[i].y + k)) + Fl t (some e) (L.drop (i + 1)) (L[i].c.toNat : Nat) (tn (some e) (tn (some e) L[i].y + k)) ≤ _ := h1
  have h2 := hu L[i].c.toNat (by omega) (tn (some e) (tn (some e) L[i].y + k))
  have h3 : one t (some e) L[i] (L[i].c.toNat : Nat) (tn (some e) (tn (some e) L[i].y + k)) = tms (some e) (tn (some e) L[i].y) (tn (some e) (tn (some e) L[i].y + k)) (t.b L[i].c.toNat).toNat := by
    unfold one
    rw [if_pos (by omega)]
  omega
/-! ### a row of asks -/
def Ak.cells (o : Ak) : List Value := [.int .i64 o.c, .int .i64 o.y, .bool o.t]
def akc (L : List Ak) : List Value := L.flatMap Ak.cells
theorem akc_app (L M : List Ak) : akc (L ++ M) = akc L ++ akc M := by unfold akc; simp
theorem akc_get : ∀ (L : List Ak) (i : Nat) (h : i < L.length), (akc L)[i * 3]? = some (.int .i64 L[i].c) ∧ (akc L)[i * 3 + 1]? = some (.int .i64 L[i].y) ∧ (akc L)[i * 3 + 2]? = some (.bool L[i].t)
  | [], i, h => by simp at h
  | o :: r, 0, _ => ⟨rfl, rfl, rfl⟩
  | o :: r, i + 1, h => by
    have := akc_get r i (by simpa using h)
    rw [show (i + 1) * 3 = i * 3 + 1 + 1 + 1 by omega]
    simpa [akc, Ak.cells] using this
theorem info37 : (Tryd.prog.info? 37).map (fun i => (i.zero, i.size, i.bytes)) = some (some (.agg #[.int .i64 0, .int .i64 0, .bool false]), 3, 24) := by kernel_rfl
theorem grown_fr {w w' : World} {row : Option Nat} (h : w.grownBy w' row) : Fr (fun b => row = some b) w w' := ⟨h.os, h.tape, h.output, h.size, fun k hk hx => h.block k hk fun e => hx e.symm⟩
theorem row_fr {T : Nat → Prop} {w w' : World} {B : Nat} {e : TypeId} {z : Nat} {v : Value} {n : Nat} {xs : List Value} (h : w.ownsRow B e z v n xs) (g : Fr T w w') (hT : ∀ k, v.ownBlock = some k → ¬ T k) : w'.ownsRow B e z v n xs := by
  obtain ⟨h1, h2⟩ := h
  refine ⟨h1, ?_⟩
  rcases h2 with h0 | ⟨b, cap, cur, rfl, g1, g2, g3⟩
  · exact .inl h0
  · refine .inr ⟨b, cap, cur, rfl, g1, ?_, g3⟩
    have hb : b < w.heap.size := by
      rcases Nat.lt_or_ge b w.heap.size with h | h
      · exact h
      · rw [Array.getElem?_eq_none h] at g2; cases g2
    rw [g.block b hb (hT b rfl)]
    exact g2
/-- Two tables of reservations, and what was taken. -/
structure Ct (v : World) (B : Nat) (W : World) (t : Tab) (ra ma rb mb na nb : Nat) (e : Int) (f g : Int → Int → Int) (a : Option Addr) (c : Nat) (L : List Ak) : Prop where
  tw : Tw v W t ra ma rb mb na nb (some e) (some e) f g
  row : W.ownsRow B 37 3 (.slice a L.length c) L.length (akc L)
  k1 : ra < B
  k2 : ma < B
  k3 : rb < B
  k4 : mb < B
  k5 : v.heap.size ≤ B
  k6 : B ≤ W.heap.size
theorem Ct.next {v W W' : World} {B ra ma rb mb na nb c : Nat} {t : Tab} {e : Int} {f g : Int → Int → Int} {a : Option Addr} {L : List Ak} (h : Ct v B W t ra ma rb mb na nb e f g a c L) (hb : Below W.heap.size W W') : Ct v B W' t ra ma rb mb na nb e f g a c L :=
  ⟨h.tw.next hb, row_fr h.row (Fr.of (X := Non) hb) fun _ _ x => x, h.k1, h.k2, h.k3, h.k4, h.k5, Nat.le_trans h.k6 hb.size⟩
theorem Ct.setA {v W W' : World} {B ra ma rb mb na nb c n : Nat} {t : Tab} {e : Int} {f g f' : Int → Int → Int} {a : Option Addr} {L : List Ak} (h : Ct v B W t ra ma rb mb na nb e f g a c L) (r : RAt W' ra t (some e) ma n f') (fr : Fr (One ma) W W') : Ct v B W' t ra ma rb mb n nb e f' g a c L :=
  ⟨h.tw.setA r fr, row_fr h.row fr fun k hk x => by have x : k = ma := x; have := (h.row.lt k hk).1; have := h.k2; omega, h.k1, h.k2, h.k3, h.k4, h.k5, Nat.le_trans h.k6 fr.size⟩
theorem Ct.setB {v W W' : World} {B ra ma rb mb na nb c n : Nat} {t : Tab} {e : Int} {f g g' : Int → Int → Int} {a : Option Addr} {L : List Ak} (h : Ct v B W t ra ma rb mb na nb e f g a c L) (r : RAt W' rb t (some e) mb n g') (fr : Fr (One mb) W W') : Ct v B W' t ra ma rb mb na n e f g' a c L :=
  ⟨h.tw.setB r fr, row_fr h.row fr fun k hk x => by have x : k = mb := x; have := (h.row.lt k hk).1; have := h.k4; omega, h.k1, h.k2, h.k3, h.k4, h.k5, Nat.le_trans h.k6 fr.size⟩
theorem Ct.add {v W X w4 : World} {B ra ma rb mb na nb c gg cap : Nat} {t : Tab} {e : Int} {f g : Int → Int → Int} {a : Option Addr} {L : List Ak} {o : Ak} (h : Ct v B W t ra ma rb mb na nb e f g a c L) (g0 : Below W.heap.size W X) (hgrow : X.grownBy w4 (Value.slice a L.length c).ownBlock) (hown : w4.ownsRow B 37 3 (.slice (some ⟨gg, 0, none⟩) (L.length + 1) cap) (L.length + 1) (akc L ++ [.int .i64 o.c, .int .i64 o.y, .bool o.t])) : Ct v B w4 t ra ma rb mb na nb e f g (some ⟨gg, 0, none⟩) cap (L ++ [o]) := by
  have s2 := h.next g0
  have Bl : Below B X w4 := (grown_fr hgrow).below s2.k6 fun k hk e => by
    have := (s2.row.lt k e).1
    omega
  refine ⟨⟨s2.tw.a.below Bl h.k1 h.k2, s2.tw.b.below Bl h.k3 h.k4, h.tw.n1, h.tw.n2, h.tw.n3, s2.tw.up.trans (Bl.mono h.k5), h.tw.la, h.tw.lb⟩, ?_, h.k1, h.k2, h.k3, h.k4, h.k5, Nat.le_trans s2.k6 Bl.size⟩
  rw [akc_app, List.length_append]
  exact hown
theorem Ct.get {v W : World} {B ra ma rb mb na nb c : Nat} {t : Tab} {e : Int} {f g : Int → Int → Int} {a : Option Addr} {L : List Ak} (h : Ct v B W t ra ma rb mb na nb e f g a c L) {i : Nat} (hi : i < L.length) : ∃ b, a = some ⟨b, 0, none⟩ ∧ B ≤ b ∧ b < W.heap.size ∧ W.cell? ⟨b, i * 3, none⟩ = some (.int .i64 L[i].c) ∧ W.cell? ⟨b, i * 3 + 1, none⟩ = some (.int .i64 L[i].y) := by
  rcases h.row.2 with ⟨-, e0⟩ | ⟨b, cap, cur, e1, g1, -⟩
  · omega
  · injection e1 with e1 _ _
    subst e1
    obtain ⟨c0, c1, -⟩ := akc_get L i hi
    exact ⟨b, rfl, g1, (h.row.lt b rfl).2, by rw [h.row.cellAt _ (by omega)]; exact c0, by rw [h.row.cellAt _ (by omega)]; exact c1⟩
end Go.Proofs.YthjnegdgpnbkkaaDoor.Rv
