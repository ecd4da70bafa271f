/- The blocks of a program in memory of its own (copied): read off the program by the walk. Conditions: the program lies in memory. -/
import Derived.Test.YtccakjijoadjkaaDoorNk
namespace Go.Proofs.YtccakjijoadjkaaDoor.Sm
open Go.ChangeShapes Go.WideShapes Go.ChangeAt Go.RowKit
open _root_.Go.Proofs.YtccakjijoadjkaaDoor.Op _root_.Go.Proofs.YtccakjijoadjkaaDoor.So
set_option maxRecDepth 20000

/-- The cells of operations in a row. -/
def ocells (xs : List O) : List Value := xs.flatMap fun o => [.int .i8 o.op, .int .u8 o.d, .int .u8 o.a, .int .u8 o.b, .int .i64 o.im]
theorem ocells_len (xs : List O) : (ocells xs).length = xs.length * 5 := by
  induction xs with
  | nil => rfl
  | cons o r ih => unfold ocells at ih ⊢; rw [List.flatMap_cons, List.length_append, ih]; simp; omega
theorem ocells_cons (o : O) (r : List O) : ocells (o :: r) = .int .i8 o.op :: .int .u8 o.d :: .int .u8 o.a :: .int .u8 o.b :: .int .i64 o.im :: ocells r := rfl
theorem ocells_get (xs : List O) : ∀ (i : Nat) (h : i < xs.length), (ocells xs)[i * 5]? = some (.int .i8 xs[i].op) ∧ (ocells xs)[i * 5 + 1]? = some (.int .u8 xs[i].d) ∧ (ocells xs)[i * 5 + 2]? = some (.int .u8 xs[i].a) ∧ (ocells xs)[i * 5 + 3]? = some (.int .u8 xs[i].b) ∧ (ocells xs)[i * 5 + 4]? = some (.int .i64 xs[i].im) := by
  induction xs with
  | nil => intro i h; simp at h
  | cons o r ih =>
    intro i h
    rw [ocells_cons]
    cases i with
    | zero => exact ⟨rfl, rfl, rfl, rfl, rfl⟩
    | succ i =>
      have := ih i (by simpa using h)
      rw [show (i + 1) * 5 = i * 5 + 1 + 1 + 1 + 1 + 1 by omega]
      simpa using this
theorem ocells_one (xs : List O) : ∀ u, u ∈ ocells xs → u.oneCell' = true := by
  intro u hu
  obtain ⟨o, _, h⟩ := List.mem_flatMap.1 hu
  simp at h
  rcases h with rfl | rfl | rfl | rfl | rfl <;> rfl
theorem ocells_at {w : World} {b f : Nat} (xs : List O) (h : ∀ (i : Nat) (h : i < xs.length), OAt w b (f + i * 5) xs[i]) : ∀ j u, (ocells xs)[j]? = some u → w.cell? ((⟨b, f, none⟩ : Addr).add j) = some u := by
  intro j u hu
  have hj : j < (ocells xs).length := by
    rcases Nat.lt_or_ge j (ocells xs).length with h' | h'
    · exact h'
    · rw [List.getElem?_eq_none h'] at hu; cases hu
  rw [ocells_len] at hj
  have hi : j / 5 < xs.length := by omega
  obtain ⟨c0, c1, c2, c3, c4⟩ := h (j / 5) hi
  obtain ⟨g0, g1, g2, g3, g4⟩ := ocells_get xs (j / 5) hi
  have hq : j = j / 5 * 5 + j % 5 := by omega
  have hm : j % 5 = 0 ∨ j % 5 = 1 ∨ j % 5 = 2 ∨ j % 5 = 3 ∨ j % 5 = 4 := by omega
  rw [add_at']
  generalize j / 5 = q at *
  rcases hm with hm | hm | hm | hm | hm
  · obtain rfl : j = q * 5 := by omega
    rw [g0] at hu; rw [← hu]; exact c0
  · obtain rfl : j = q * 5 + 1 := by omega
    rw [g1] at hu; rw [← hu, ← Nat.add_assoc]; exact c1
  · obtain rfl : j = q * 5 + 2 := by omega
    rw [g2] at hu; rw [← hu, ← Nat.add_assoc]; exact c2
  · obtain rfl : j = q * 5 + 3 := by omega
    rw [g3] at hu; rw [← hu, ← Nat.add_assoc]; exact c3
  · obtain rfl : j = q * 5 + 4 := by omega
    rw [g4] at hu; rw [← hu, ← Nat.add_assoc]; exact c4
/-- A row of operations is a list in memory. -/
theorem opsAt_row {w : World} {B c : Nat} {a : Option Addr} {xs : List O} (h : w.ownsRow B 40 5 (.slice a xs.length c) xs.length (ocells xs)) (hok : ∀ o, o ∈ xs → o.Ok) (hl : xs.length ≤ 8192) : OpsAt w a xs := by
  refine ⟨hok, by omega, fun h0 => ?_⟩
  rcases h.2 with ⟨_, h1⟩ | ⟨g, cap, cur, h1, h2, h3, h4⟩
  · omega
  · injection h1 with e1 e2 e3
    subst e1
    have hc := h.cells (g := g) rfl
    refine ⟨g, 0, rfl, (h.lt g rfl).2, fun i hi => ?_⟩
    obtain ⟨g0, g1, g2, g3, g4⟩ := ocells_get xs i hi
    have k : ∀ j u, (ocells xs)[j]? = some u → w.cell? ⟨g, 0 + j, none⟩ = some u := fun j u hj => by have := hc j u hj; rw [add_at'] at this; exact this
    exact ⟨k _ _ g0, k _ _ g1, k _ _ g2, k _ _ g3, k _ _ g4⟩


theorem nil54 (c : Nat) (w : World) : (binOp .eql 22 (.slice none 0 c) (.slice none 0 0)).run Tryd.prog w = .ok (.bool true) w := by kernel_rfl
theorem cloneO_nil (c : Nat) (w : World) : Calls Tryd.prog 70 #[.slice none 0 c] w fun e w' => e = .returned (.slice none 0 0) ∧ w' = w := by
  have hnil := nil54 c
  go_enter Tryd.func70, Tryd.ntmps70
  go_wp2_with fail
  go_ret
  exact ⟨rfl, rfl⟩
/-- A copy of a list of operations. -/
structure Oc (w w' : World) (r : Option Addr) (c : Nat) (xs : List O) : Prop where
  at_ : OpsAt w' r xs
  new : 0 < xs.length → ∀ a, r = some a → w.heap.size ≤ a.block
  cap : xs.length ≤ c
  up : Below w.heap.size w w'
theorem cloneO_any (ao : Option Addr) (cap : Nat) (xs : List O) (w : World) (h : OpsAt w ao xs) (hl : xs.length ≤ 8192) :
    Calls Tryd.prog 70 #[.slice ao xs.length cap] w fun e w' => ∃ r c, e = .returned (.slice r xs.length c) ∧ Oc w w' r c xs := by
  have key : ∀ a : Addr, ao = some a → (∀ j u, (ocells xs)[j]? = some u → w.cell? (a.add j) = some u) → Calls Tryd.prog 70 #[.slice ao xs.length cap] w fun e w' => ∃ r c, e = .returned (.slice r xs.length c) ∧ Oc w w' r c xs := fun a e hc => by
    subst e
    refine (cloneO_some a xs.length cap (ocells xs) w (by omega) (ocells_len xs) (ocells_one xs) hc).mono ?_
    rintro e w' ⟨r, c, rfl, h1, h2⟩
    refine ⟨r, c, rfl, opsAt_row h1 h.ok hl, fun _ a e => by subst e; exact (h1.lt a.block rfl).1, ?_, h2⟩
    rcases h1.2 with ⟨h3, h4⟩ | ⟨g, cap', cur, h3, _, _, h5, _⟩
    · omega
    · injection h3 with _ _ h3; omega
  rcases Nat.eq_zero_or_pos xs.length with h0 | h0
  · cases ao with
    | none =>
      obtain rfl : xs = [] := List.eq_nil_of_length_eq_zero h0
      refine (cloneO_nil cap w).mono ?_
      rintro e w' ⟨rfl, rfl⟩
      exact ⟨none, 0, rfl, ⟨fun o ho => by simp at ho, by simp, fun h => by simp at h⟩, fun h => by simp at h, Nat.le_refl _, Below.refl _ _⟩
    | some a => exact key a rfl fun j u hu => by obtain rfl : xs = [] := List.eq_nil_of_length_eq_zero h0; simp [ocells] at hu
  · obtain ⟨b, f, e, _, hx⟩ := h.is h0
    exact key _ e (ocells_at xs hx)
/-- The cells of blocks in a row. -/
def bcs : List Bk → List Pl → List Value
  | x :: r, p :: t => .slice p.oa x.ops.length p.oc :: .int .i8 x.fin :: .int .u8 x.a :: .slice p.ba x.body.length p.bc :: .int .i64 x.thn :: .int .i64 x.els :: bcs r t
  | _, _ => []
theorem bcs_len : ∀ (ps : List Bk) (pl : List Pl), pl.length = ps.length → (bcs ps pl).length = ps.length * 6
  | [], [], _ => rfl
  | x :: r, p :: t, h => by
    have := bcs_len r t (by simpa using h)
    simp [bcs, this]; omega
theorem bcs_one : ∀ (ps : List Bk) (pl : List Pl), ∀ u, u ∈ bcs ps pl → u.oneCell' = true
  | [], _, u, h => by simp [bcs] at h
  | x :: r, [], u, h => by simp [bcs] at h
  | x :: r, p :: t, u, h => by
    simp only [bcs, List.mem_cons] at h
    rcases h with rfl | rfl | rfl | rfl | rfl | rfl | h
    · rfl
    · rfl
    · rfl
    · rfl
    · rfl
    · rfl
    · exact bcs_one r t u h
theorem bcs_get : ∀ (ps : List Bk) (pl : List Pl) (i : Nat) (h : i < ps.length) (g : i < pl.length), (bcs ps pl)[i * 6]? = some (.slice pl[i].oa ps[i].ops.length pl[i].oc) ∧ (bcs ps pl)[i * 6 + 1]? = some (.int .i8 ps[i].fin) ∧ (bcs ps pl)[i * 6 + 2]? = some (.int .u8 ps[i].a) ∧ (bcs ps pl)[i * 6 + 3]? = some (.slice pl[i].ba ps[i].body.length pl[i].bc) ∧ (bcs ps pl)[i * 6 + 4]? = some (.int .i64 ps[i].thn) ∧ (bcs ps pl)[i * 6 + 5]? = some (.int .i64 ps[i].els)
  | [], _, i, h, _ => by simp at h
  | x :: r, [], i, _, g => by simp at g
  | x :: r, p :: t, 0, _, _ => ⟨rfl, rfl, rfl, rfl, rfl, rfl⟩
  | x :: r, p :: t, i + 1, h, g => by
    have := bcs_get r t i (by simpa using h) (by simpa using g)
    rw [show (i + 1) * 6 = i * 6 + 1 + 1 + 1 + 1 + 1 + 1 by omega]
    simpa [bcs] using this
theorem bcs_at {w : World} {b : Nat} : ∀ (ps : List Bk) (pl : List Pl) (f : Nat), pl.length = ps.length → (∀ (i : Nat) (h : i < ps.length) (g : i < pl.length), BAt w b (f + i * 6) ps[i] pl[i]) → ∀ j u, (bcs ps pl)[j]? = some u → w.cell? ((⟨b, f, none⟩ : Addr).add j) = some u
  | [], _, _, _, _, j, u, h => by simp [bcs] at h
  | x :: r, [], _, _, _, j, u, h => by simp [bcs] at h
  | x :: r, p :: t, f, hl, hx, j, u, h => by
    rw [add_at']
    obtain ⟨c0, c1, c2, c3, c4, c5⟩ := hx 0 (by simp) (by simp)
    simp only [Nat.zero_mul, Nat.add_zero, List.getElem_cons_zero] at c0 c1 c2 c3 c4 c5
    match j with
    | 0 => simp [bcs] at h; rw [← h]; exact c0
    | 1 => simp [bcs] at h; rw [← h]; exact c1
    | 2 => simp [bcs] at h; rw [← h]; exact c2
    | 3 => simp [bcs] at h; rw [← h]; exact c3
    | 4 => simp [bcs] at h; rw [← h]; exact c4
    | 5 => simp [bcs] at h; rw [← h]; exact c5
    | j + 6 =>
      have := bcs_at r t (f + 6) (by simpa using hl) (fun i h1 h2 => by
        have := hx (i + 1) (by simpa using h1) (by simpa using h2)
        rw [show f + (i + 1) * 6 = f + 6 + i * 6 by omega] at this
        simpa using this) j u (by simpa [bcs] using h)
      rw [add_at'] at this
      rw [show f + (j + 6) = f + 6 + j by omega]
      exact this
theorem pls_of {w : World} {b f : Nat} {ps : List Bk} (h : ∀ (i : Nat) (h : i < ps.length), ∃ p, BAt w b (f + i * 6) ps[i] p ∧ BIn w ps[i] p) : ∃ pl : List Pl, pl.length = ps.length ∧ ∀ (i : Nat) (h : i < ps.length) (g : i < pl.length), BAt w b (f + i * 6) ps[i] pl[i] ∧ BIn w ps[i] pl[i] := by
  refine ⟨(List.finRange ps.length).map fun i => (h i.1 i.2).choose, by simp, fun i hi g => ?_⟩
  have := (h i hi).choose_spec
  simpa using this
/-- The copy under way: a row of its own, whose lists lie elsewhere. -/
structure Ci (w wr : World) (g : Nat) (ps : List Bk) : Prop where
  lt : g < wr.heap.size
  fz : ∀ j : Nat, wr.frozen? ⟨g, j, none⟩ = false
  is : ∀ (i : Nat) (h : i < ps.length), ∃ p, BAt wr g (i * 6) ps[i] p ∧ BIn wr ps[i] p ∧ Far (One g) p.oa ps[i].ops.length ∧ Far (One g) p.ba ps[i].body.length
  up : Below w.heap.size w wr
  new : w.heap.size ≤ g
theorem Ci.up' {w wr w2 : World} {g : Nat} {ps : List Bk} (h : Ci w wr g ps) (hb : Below wr.heap.size wr w2) : Ci w w2 g ps := by
  refine ⟨Nat.lt_of_lt_of_le h.lt hb.size, fun j => by rw [(bcell hb).2 _ _ h.lt]; exact h.fz j, fun i hi => ?_, h.up.trans (hb.mono h.up.size), h.new⟩
  obtain ⟨p, h1, h2, h3, h4⟩ := h.is i hi
  exact ⟨p, h1.below hb h.lt, h2.below hb, h3, h4⟩
theorem Ci.setO {w wr : World} {g k : Nat} {ps : List Bk} (h : Ci w wr g ps) (hk : k < ps.length) {r : Option Addr} {c : Nat} (ho : OpsAt wr r ps[k].ops) (hc : ps[k].ops.length ≤ c) (hf : Far (One g) r ps[k].ops.length) : Ci w (wr.setCell ⟨g, k * 6, none⟩ (.slice r ps[k].ops.length c)) g ps := by
  have hF : Fr (One g) wr (wr.setCell ⟨g, k * 6, none⟩ (.slice r ps[k].ops.length c)) := (Fr.refl (One g) wr).setCell (.inr rfl) _ _
  refine ⟨by rw [World.size_setCell]; exact h.lt, fun j => by rw [World.frozen?_setCell]; exact h.fz j, fun i hi => ?_, h.up.setCell h.new _, h.new⟩
  obtain ⟨p, ⟨c0, c1, c2, c3, c4, c5⟩, h2, h3, h4⟩ := h.is i hi
  by_cases e : i = k
  · subst e
    exact ⟨⟨r, c, p.ba, p.bc⟩, ⟨cs c0, (co (by omega)).trans c1, (co (by omega)).trans c2, (co (by omega)).trans c3, (co (by omega)).trans c4, (co (by omega)).trans c5⟩, ⟨h2.ok, opsAt_fr ho hF hf, opsAt_fr h2.b hF h4, hc⟩, hf, h4⟩
  · exact ⟨p, ⟨(co (by omega)).trans c0, (co (by omega)).trans c1, (co (by omega)).trans c2, (co (by omega)).trans c3, (co (by omega)).trans c4, (co (by omega)).trans c5⟩, ⟨h2.ok, opsAt_fr h2.o hF h3, opsAt_fr h2.b hF h4, h2.c⟩, h3, h4⟩
theorem Ci.setY {w wr : World} {g k : Nat} {ps : List Bk} (h : Ci w wr g ps) (hk : k < ps.length) {r : Option Addr} {c : Nat} (ho : OpsAt wr r ps[k].body) (hf : Far (One g) r ps[k].body.length) : Ci w (wr.setCell ⟨g, k * 6 + 3, none⟩ (.slice r ps[k].body.length c)) g ps := by
  have hF : Fr (One g) wr (wr.setCell ⟨g, k * 6 + 3, none⟩ (.slice r ps[k].body.length c)) := (Fr.refl (One g) wr).setCell (.inr rfl) _ _
  refine ⟨by rw [World.size_setCell]; exact h.lt, fun j => by rw [World.frozen?_setCell]; exact h.fz j, fun i hi => ?_, h.up.setCell h.new _, h.new⟩
  obtain ⟨p, ⟨c0, c1, c2, c3, c4, c5⟩, h2, h3, h4⟩ := h.is i hi
  by_cases e : i = k
  · subst e
    exact ⟨⟨p.oa, p.oc, r, c⟩, ⟨(co (by omega)).trans c0, (co (by omega)).trans c1, (co (by omega)).trans c2, cs c3, (co (by omega)).trans c4, (co (by omega)).trans c5⟩, ⟨h2.ok, opsAt_fr h2.o hF h3, opsAt_fr ho hF hf, h2.c⟩, h3, hf⟩
  · exact ⟨p, ⟨(co (by omega)).trans c0, (co (by omega)).trans c1, (co (by omega)).trans c2, (co (by omega)).trans c3, (co (by omega)).trans c4, (co (by omega)).trans c5⟩, ⟨h2.ok, opsAt_fr h2.o hF h3, opsAt_fr h2.b hF h4, h2.c⟩, h3, h4⟩
end Go.Proofs.YtccakjijoadjkaaDoor.Sm
