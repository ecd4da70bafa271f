/- What allDeeds makes: the functions of each kind of operation and of each end. Read off the program by the walk. Conditions: none. -/
import Derived.Test.YtddcndlogoajkaaGreatDoorQNk
import Derived.Test.YtddcndlogoajkaaGreatDoorQNe
import Derived.Great.Walk
import Derived.Deep.MidRow
import Derived.Deep.DeepCutAuto
namespace Go.Proofs.YtddcndlogoajkaaGreatDoor.L8.Sm
open Go.ChangeShapes Go.WideShapes Go.ChangeAt Go.RowKit
open _root_.Go.Proofs.YtddcndlogoajkaaGreatDoor.L8.Op _root_.Go.Proofs.YtddcndlogoajkaaGreatDoor.L8.So
set_option maxRecDepth 20000

/-- The cells of operations in a row. -/
def ocells (xs : List O) : List Value := xs.flatMap fun o => [.int .i8 o.op, .int .u8 o.d, .int .u8 o.a, .int .u8 o.b, .int .i64 o.im]
theorem ocells_len (xs : List O) : (ocells xs).length = xs.length * 5 := by
  induction xs with
  | nil => rfl
  | cons o r ih => unfold ocells at ih ⊢; rw [List.flatMap_cons, List.length_append, ih]; simp; omega
theorem ocells_cons (o : O) (r : List O) : ocells (o :: r) = .int .i8 o.op :: .int .u8 o.d :: .int .u8 o.a :: .int .u8 o.b :: .int .i64 o.im :: ocells r := rfl
theorem ocells_get (xs : List O) : ∀ (i : Nat) (h : i < xs.length), (ocells xs)[i * 5]? = some (.int .i8 xs[i].op) ∧ (ocells xs)[i * 5 + 1]? = some (.int .u8 xs[i].d) ∧ (ocells xs)[i * 5 + 2]? = some (.int .u8 xs[i].a) ∧ (ocells xs)[i * 5 + 3]? = some (.int .u8 xs[i].b) ∧ (ocells xs)[i * 5 + 4]? = some (.int .i64 xs[i].im) := by
  induction xs with
  | nil => intro i h; simp at h
  | cons o r ih =>
    intro i h
    rw [ocells_cons]
    cases i with
    | zero => exact ⟨rfl, rfl, rfl, rfl, rfl⟩
    | succ i =>
      have := ih i (by simpa using h)
      rw [show (i + 1) * 5 = i * 5 + 1 + 1 + 1 + 1 + 1 by omega]
      simpa using this
theorem ocells_one (xs : List O) : ∀ u, u ∈ ocells xs → u.oneCell' = true := by
  intro u hu
  obtain ⟨o, _, h⟩ := List.mem_flatMap.1 hu
  simp at h
  rcases h with rfl | rfl | rfl | rfl | rfl <;> rfl
theorem ocells_at {w : World} {b f : Nat} (xs : List O) (h : ∀ (i : Nat) (h : i < xs.length), OAt w b (f + i * 5) xs[i]) : ∀ j u, (ocells xs)[j]? = some u → w.cell? ((⟨b, f, none⟩ : Addr).add j) = some u := by
  intro j u hu
  have hj : j < (ocells xs).length := by
    rcases Nat.lt_or_ge j (ocells xs).length with h' | h'
    · exact h'
    · rw [List.getElem?_eq_none h'] at hu; cases hu
  rw [ocells_len] at hj
  have hi : j / 5 < xs.length := by omega
  obtain ⟨c0, c1, c2, c3, c4⟩ := h (j / 5) hi
  obtain ⟨g0, g1, g2, g3, g4⟩ := ocells_get xs (j / 5) hi
  have hq : j = j / 5 * 5 + j % 5 := by omega
  have hm : j % 5 = 0 ∨ j % 5 = 1 ∨ j % 5 = 2 ∨ j % 5 = 3 ∨ j % 5 = 4 := by omega
  rw [add_at']
  generalize j / 5 = q at *
  rcases hm with hm | hm | hm | hm | hm
  · obtain rfl : j = q * 5 := by omega
    rw [g0] at hu; rw [← hu]; exact c0
  · obtain rfl : j = q * 5 + 1 := by omega
    rw [g1] at hu; rw [← hu, ← Nat.add_assoc]; exact c1
  · obtain rfl : j = q * 5 + 2 := by omega
    rw [g2] at hu; rw [← hu, ← Nat.add_assoc]; exact c2
  · obtain rfl : j = q * 5 + 3 := by omega
    rw [g3] at hu; rw [← hu, ← Nat.add_assoc]; exact c3
  · obtain rfl : j = q * 5 + 4 := by omega
    rw [g4] at hu; rw [← hu, ← Nat.add_assoc]; exact c4
/-- A row of operations is a list in memory. -/
theorem opsAt_row {w : World} {B c : Nat} {a : Option Addr} {xs : List O} (h : w.ownsRow B 51 5 (.slice a xs.length c) xs.length (ocells xs)) (hok : ∀ o, o ∈ xs → o.Ok) (hl : xs.length ≤ 8192) : OpsAt w a xs := by
  refine ⟨hok, by omega, fun h0 => ?_⟩
  rcases h.2 with ⟨_, h1⟩ | ⟨g, cap, cur, h1, h2, h3, h4⟩
  · omega
  · injection h1 with e1 e2 e3
    subst e1
    have hc := h.cells (g := g) rfl
    refine ⟨g, 0, rfl, (h.lt g rfl).2, fun i hi => ?_⟩
    obtain ⟨g0, g1, g2, g3, g4⟩ := ocells_get xs i hi
    have k : ∀ j u, (ocells xs)[j]? = some u → w.cell? ⟨g, 0 + j, none⟩ = some u := fun j u hj => by have := hc j u hj; rw [add_at'] at this; exact this
    exact ⟨k _ _ g0, k _ _ g1, k _ _ g2, k _ _ g3, k _ _ g4⟩


theorem nil54 (c : Nat) (w : World) : (binOp .eql 46 (.slice none 0 c) (.slice none 0 0)).run Tryz.prog w = .ok (.bool true) w := by kernel_rfl
theorem cloneO_nil (c : Nat) (w : World) : Calls Tryz.prog 35 #[.slice none 0 c] w fun e w' => e = .returned (.slice none 0 0) ∧ w' = w := by
  have hnil := nil54 c
  go_enter Tryz.func35, Tryz.ntmps35
  go_wp2_with fail
  go_ret
  exact ⟨rfl, rfl⟩
/-- A copy of a list of operations. -/
structure Oc (w w' : World) (r : Option Addr) (c : Nat) (xs : List O) : Prop where
  at_ : OpsAt w' r xs
  new : 0 < xs.length → ∀ a, r = some a → w.heap.size ≤ a.block
  cap : xs.length ≤ c
  up : Below w.heap.size w w'
theorem cloneO_any (ao : Option Addr) (cap : Nat) (xs : List O) (w : World) (h : OpsAt w ao xs) (hl : xs.length ≤ 8192) :
    Calls Tryz.prog 35 #[.slice ao xs.length cap] w fun e w' => ∃ r c, e = .returned (.slice r xs.length c) ∧ Oc w w' r c xs := by
  have key : ∀ a : Addr, ao = some a → (∀ j u, (ocells xs)[j]? = some u → w.cell? (a.add j) = some u) → Calls Tryz.prog 35 #[.slice ao xs.length cap] w fun e w' => ∃ r c, e = .returned (.slice r xs.length c) ∧ Oc w w' r c xs := fun a e hc => by
    subst e
    refine (cloneO_some a xs.length cap (ocells xs) w (by omega) (ocells_len xs) (ocells_one xs) hc).mono ?_
    rintro e w' ⟨r, c, rfl, h1, h2⟩
    refine ⟨r, c, rfl, opsAt_row h1 h.ok hl, fun _ a e => by subst e; exact (h1.lt a.block rfl).1, ?_, h2⟩
    rcases h1.2 with ⟨h3, h4⟩ | ⟨g, cap', cur, h3, _, _, h5, _⟩
    · omega
    · injection h3 with _ _ h3; omega
  rcases Nat.eq_zero_or_pos xs.length with h0 | h0
  · cases ao with
    | none =>
      obtain rfl : xs = [] := List.eq_nil_of_length_eq_zero h0
      refine (cloneO_nil cap w).mono ?_
      rintro e w' ⟨rfl, rfl⟩
      exact ⟨none, 0, rfl, ⟨fun o ho => by simp at ho, by simp, fun h => by simp at h⟩, fun h => by simp at h, Nat.le_refl _, Below.refl _ _⟩
    | some a => exact key a rfl fun j u hu => by obtain rfl : xs = [] := List.eq_nil_of_length_eq_zero h0; simp [ocells] at hu
  · obtain ⟨b, f, e, _, hx⟩ := h.is h0
    exact key _ e (ocells_at xs hx)
/-- The cells of blocks in a row. -/
def bcs : List Bk → List Pl → List Value
  | x :: r, p :: t => .slice p.oa x.ops.length p.oc :: .int .i8 x.fin :: .int .u8 x.a :: .slice p.ba x.body.length p.bc :: .int .i64 x.thn :: .int .i64 x.els :: bcs r t
  | _, _ => []
theorem bcs_len : ∀ (ps : List Bk) (pl : List Pl), pl.length = ps.length → (bcs ps pl).length = ps.length * 6
  | [], [], _ => rfl
  | x :: r, p :: t, h => by
    have := bcs_len r t (by simpa using h)
    simp [bcs, this]; omega
theorem bcs_one : ∀ (ps : List Bk) (pl : List Pl), ∀ u, u ∈ bcs ps pl → u.oneCell' = true
  | [], _, u, h => by simp [bcs] at h
  | x :: r, [], u, h => by simp [bcs] at h
  | x :: r, p :: t, u, h => by
    simp only [bcs, List.mem_cons] at h
    rcases h with rfl | rfl | rfl | rfl | rfl | rfl | h
    · rfl
    · rfl
    · rfl
    · rfl
    · rfl
    · rfl
    · exact bcs_one r t u h
theorem bcs_get : ∀ (ps : List Bk) (pl : List Pl) (i : Nat) (h : i < ps.length) (g : i < pl.length), (bcs ps pl)[i * 6]? = some (.slice pl[i].oa ps[i].ops.length pl[i].oc) ∧ (bcs ps pl)[i * 6 + 1]? = some (.int .i8 ps[i].fin) ∧ (bcs ps pl)[i * 6 + 2]? = some (.int .u8 ps[i].a) ∧ (bcs ps pl)[i * 6 + 3]? = some (.slice pl[i].ba ps[i].body.length pl[i].bc) ∧ (bcs ps pl)[i * 6 + 4]? = some (.int .i64 ps[i].thn) ∧ (bcs ps pl)[i * 6 + 5]? = some (.int .i64 ps[i].els)
  | [], _, i, h, _ => by simp at h
  | x :: r, [], i, _, g => by simp at g
  | x :: r, p :: t, 0, _, _ => ⟨rfl, rfl, rfl, rfl, rfl, rfl⟩
  | x :: r, p :: t, i + 1, h, g => by
    have := bcs_get r t i (by simpa using h) (by simpa using g)
    rw [show (i + 1) * 6 = i * 6 + 1 + 1 + 1 + 1 + 1 + 1 by omega]
    simpa [bcs] using this
theorem bcs_at {w : World} {b : Nat} : ∀ (ps : List Bk) (pl : List Pl) (f : Nat), pl.length = ps.length → (∀ (i : Nat) (h : i < ps.length) (g : i < pl.length), BAt w b (f + i * 6) ps[i] pl[i]) → ∀ j u, (bcs ps pl)[j]? = some u → w.cell? ((⟨b, f, none⟩ : Addr).add j) = some u
  | [], _, _, _, _, j, u, h => by simp [bcs] at h
  | x :: r, [], _, _, _, j, u, h => by simp [bcs] at h
  | x :: r, p :: t, f, hl, hx, j, u, h => by
    rw [add_at']
    obtain ⟨c0, c1, c2, c3, c4, c5⟩ := hx 0 (by simp) (by simp)
    simp only [Nat.zero_mul, Nat.add_zero, List.getElem_cons_zero] at c0 c1 c2 c3 c4 c5
    match j with
    | 0 => simp [bcs] at h; rw [← h]; exact c0
    | 1 => simp [bcs] at h; rw [← h]; exact c1
    | 2 => simp [bcs] at h; rw [← h]; exact c2
    | 3 => simp [bcs] at h; rw [← h]; exact c3
    | 4 => simp [bcs] at h; rw [← h]; exact c4
    | 5 => simp [bcs] at h; rw [← h]; exact c5
    | j + 6 =>
      have := bcs_at r t (f + 6) (by simpa using hl) (fun i h1 h2 => by
        have := hx (i + 1) (by simpa using h1) (by simpa using h2)
        rw [show f + (i + 1) * 6 = f + 6 + i * 6 by omega] at this
        simpa using this) j u (by simpa [bcs] using h)
      rw [add_at'] at this
      rw [show f + (j + 6) = f + 6 + j by omega]
      exact this
theorem pls_of {w : World} {b f : Nat} {ps : List Bk} (h : ∀ (i : Nat) (h : i < ps.length), ∃ p, BAt w b (f + i * 6) ps[i] p ∧ BIn w ps[i] p) : ∃ pl : List Pl, pl.length = ps.length ∧ ∀ (i : Nat) (h : i < ps.length) (g : i < pl.length), BAt w b (f + i * 6) ps[i] pl[i] ∧ BIn w ps[i] pl[i] := by
  refine ⟨(List.finRange ps.length).map fun i => (h i.1 i.2).choose, by simp, fun i hi g => ?_⟩
  have := (h i hi).choose_spec
  simpa using this
/-- The copy under way: a row of its own, whose lists lie elsewhere. -/
structure Ci (w wr : World) (g : Nat) (ps : List Bk) : Prop where
  lt : g < wr.heap.size
  fz : ∀ j : Nat, wr.frozen? ⟨g, j, none⟩ = false
  is : ∀ (i : Nat) (h : i < ps.length), ∃ p, BAt wr g (i * 6) ps[i] p ∧ BIn wr ps[i] p ∧ Far (One g) p.oa ps[i].ops.length ∧ Far (One g) p.ba ps[i].body.length
  up : Below w.heap.size w wr
  new : w.heap.size ≤ g
theorem Ci.up' {w wr w2 : World} {g : Nat} {ps : List Bk} (h : Ci w wr g ps) (hb : Below wr.heap.size wr w2) : Ci w w2 g ps := by
  refine ⟨Nat.lt_of_lt_of_le h.lt hb.size, fun j => by rw [(bcell hb).2 _ _ h.lt]; exact h.fz j, fun i hi => ?_, h.up.trans (hb.mono h.up.size), h.new⟩
  obtain ⟨p, h1, h2, h3, h4⟩ := h.is i hi
  exact ⟨p, h1.below hb h.lt, h2.below hb, h3, h4⟩
theorem Ci.setO {w wr : World} {g k : Nat} {ps : List Bk} (h : Ci w wr g ps) (hk : k < ps.length) {r : Option Addr} {c : Nat} (ho : OpsAt wr r ps[k].ops) (hc : ps[k].ops.length ≤ c) (hf : Far (One g) r ps[k].ops.length) : Ci w (wr.setCell ⟨g, k * 6, none⟩ (.slice r ps[k].ops.length c)) g ps := by
  have hF : Fr (One g) wr (wr.setCell ⟨g, k * 6, none⟩ (.slice r ps[k].ops.length c)) := (Fr.refl (One g) wr).setCell (.inr rfl) _ _
  refine ⟨by rw [World.size_setCell]; exact h.lt, fun j => by rw [World.frozen?_setCell]; exact h.fz j, fun i hi => ?_, h.up.setCell h.new _, h.new⟩
  obtain ⟨p, ⟨c0, c1, c2, c3, c4, c5⟩, h2, h3, h4⟩ := h.is i hi
  by_cases e : i = k
  · subst e
    exact ⟨⟨r, c, p.ba, p.bc⟩, ⟨cs c0, (co (by omega)).trans c1, (co (by omega)).trans c2, (co (by omega)).trans c3, (co (by omega)).trans c4, (co (by omega)).trans c5⟩, ⟨h2.ok, opsAt_fr ho hF hf, opsAt_fr h2.b hF h4, hc⟩, hf, h4⟩
  · exact ⟨p, ⟨(co (by omega)).trans c0, (co (by omega)).trans c1, (co (by omega)).trans c2, (co (by omega)).trans c3, (co (by omega)).trans c4, (co (by omega)).trans c5⟩, ⟨h2.ok, opsAt_fr h2.o hF h3, opsAt_fr h2.b hF h4, h2.c⟩, h3, h4⟩
theorem Ci.setY {w wr : World} {g k : Nat} {ps : List Bk} (h : Ci w wr g ps) (hk : k < ps.length) {r : Option Addr} {c : Nat} (ho : OpsAt wr r ps[k].body) (hf : Far (One g) r ps[k].body.length) : Ci w (wr.setCell ⟨g, k * 6 + 3, none⟩ (.slice r ps[k].body.length c)) g ps := by
  have hF : Fr (One g) wr (wr.setCell ⟨g, k * 6 + 3, none⟩ (.slice r ps[k].body.length c)) := (Fr.refl (One g) wr).setCell (.inr rfl) _ _
  refine ⟨by rw [World.size_setCell]; exact h.lt, fun j => by rw [World.frozen?_setCell]; exact h.fz j, fun i hi => ?_, h.up.setCell h.new _, h.new⟩
  obtain ⟨p, ⟨c0, c1, c2, c3, c4, c5⟩, h2, h3, h4⟩ := h.is i hi
  by_cases e : i = k
  · subst e
    exact ⟨⟨p.oa, p.oc, r, c⟩, ⟨(co (by omega)).trans c0, (co (by omega)).trans c1, (co (by omega)).trans c2, cs c3, (co (by omega)).trans c4, (co (by omega)).trans c5⟩, ⟨h2.ok, opsAt_fr h2.o hF h3, opsAt_fr ho hF hf, h2.c⟩, h3, hf⟩
  · exact ⟨p, ⟨(co (by omega)).trans c0, (co (by omega)).trans c1, (co (by omega)).trans c2, (co (by omega)).trans c3, (co (by omega)).trans c4, (co (by omega)).trans c5⟩, ⟨h2.ok, opsAt_fr h2.o hF h3, opsAt_fr h2.b hF h4, h2.c⟩, h3, h4⟩
end Go.Proofs.YtddcndlogoajkaaGreatDoor.L8.Sm
namespace Go.Proofs.YtddcndlogoajkaaGreatDoor.L8.Sm
open Go.ChangeShapes Go.WideShapes Go.ChangeAt Go.RowKit
open _root_.Go.Proofs.YtddcndlogoajkaaGreatDoor.L8.Op _root_.Go.Proofs.YtddcndlogoajkaaGreatDoor.L8.So
set_option maxRecDepth 20000

theorem Ci.pat {w wr : World} {g : Nat} {ps : List Bk} (h : Ci w wr g ps) (hl : ps.length ≤ 128) : PAt wr (some ⟨g, 0, none⟩) ps := by
  refine ⟨by omega, fun _ => ⟨g, 0, rfl, h.lt, fun i hi => ?_⟩⟩
  obtain ⟨p, h1, h2, -⟩ := h.is i hi
  exact ⟨p, by rw [Nat.zero_add]; exact h1, h2⟩
theorem ci_start {w w1 : World} {ps : List Bk} {r : Option Addr} {c : Nat} {pl : List Pl} {b f : Nat} (hp : pl.length = ps.length) (hx : ∀ (i : Nat) (h : i < ps.length) (g : i < pl.length), BAt w b (f + i * 6) ps[i] pl[i] ∧ BIn w ps[i] pl[i]) (h0 : 0 < ps.length) (h1 : w1.ownsRow w.heap.size 49 6 (.slice r ps.length c) ps.length (bcs ps pl)) (h2 : Below w.heap.size w w1) : ∃ g, r = some ⟨g, 0, none⟩ ∧ Ci w w1 g ps := by
  rcases h1.2 with ⟨h3, h4⟩ | ⟨g, cap', cur, h3, h5, _⟩
  · omega
  · injection h3 with e1 e2 e3
    subst e1
    have hc := h1.cells (g := g) rfl
    have k : ∀ j u, (bcs ps pl)[j]? = some u → w1.cell? ⟨g, j, none⟩ = some u := fun j u hj => by have := hc j u hj; rw [add_at', Nat.zero_add] at this; exact this
    refine ⟨g, rfl, (h1.lt g rfl).2, fun j => h1.frozenAt j, fun i hi => ?_, h2, h5⟩
    obtain ⟨g0, g1, g2, g3, g4, g5⟩ := bcs_get ps pl i hi (by omega)
    have hn := (hx i hi (by omega)).2
    have fa : ∀ {a : Option Addr} {xs : List O}, OpsAt w a xs → Far (One g) a xs.length := fun {a xs} ho h0 x e hx => by
      obtain ⟨b', f', e', z, hc⟩ := ho.is h0
      rw [e'] at e; cases e
      have hx : b' = g := hx
      omega
    exact ⟨pl[i], ⟨k _ _ g0, k _ _ g1, k _ _ g2, k _ _ g3, k _ _ g4, k _ _ g5⟩, hn.below h2, fa hn.o, fa hn.b⟩
theorem ops_far {wr w2 : World} {g : Nat} {r : Option Addr} {c : Nat} {xs : List O} (h : Oc wr w2 r c xs) (hg : g < wr.heap.size) : Far (One g) r xs.length := fun h0 a e hx => by
  have := h.new h0 a e
  have hx : a.block = g := hx
  omega
set_option maxHeartbeats 4000000 in
theorem copied_any (ao : Option Addr) (cap : Nat) (ps : List Bk) (w : World) (h : PAt w ao ps) (h0 : 0 < ps.length) (hl : ps.length ≤ 128) (ho : ∀ x ∈ ps, x.ops.length ≤ 8192 ∧ x.body.length ≤ 8192) :
    Calls Tryz.prog 29 #[.slice ao ps.length cap] w fun e w' => ∃ r c, e = .returned (.slice r ps.length c) ∧ PAt w' r ps ∧ Below w.heap.size w w' := by
  obtain ⟨b, f, rfl, hz, hx⟩ := h.is h0
  obtain ⟨pl, hp, hx⟩ := pls_of hx
  have HC : Hid (Calls Tryz.prog 34 #[.slice (some ⟨b, f, none⟩) ps.length cap] w fun e w' => ∃ g c, e = .returned (.slice (some ⟨g, 0, none⟩) ps.length c) ∧ Ci w w' g ps) := by
    refine (cloneB_some ⟨b, f, none⟩ ps.length cap (bcs ps pl) w (by omega) (bcs_len ps pl hp) (bcs_one ps pl) (bcs_at ps pl f hp fun i h g => (hx i h g).1)).mono ?_
    rintro e w' ⟨r, c, rfl, h1, h2⟩
    obtain ⟨g, rfl, hc⟩ := ci_start hp hx h0 h1 h2
    exact ⟨g, c, rfl, hc⟩
  have hlz : (ps.length : Int) ≤ 128 := by omega
  have HO : Hid (∀ x ∈ ps, x.ops.length ≤ 8192 ∧ x.body.length ≤ 8192) := ho
  clear h hx hp ho h0
  go_enter Tryz.func29, Tryz.ntmps29
  go_wp2_with (first | (go_at_call 34; refine Calls.mono HC.out ?_; rintro e w1 ⟨g, c, rfl, hc⟩; have HI : Hid _ := hc; clear hc HC))
  go_loopw [10] (fun i wr => ∃ k : Nat, k ≤ ps.length ∧ i = .int .i64 k ∧ Ci w wr g ps) (fun i _ => ps.length - (intOf i).toNat)
  case atStart => exact ⟨0, by omega, rfl, HI.out⟩
  case round =>
    rename_i wr
    obtain ⟨k, hk, rfl, hc⟩ := hrel
    by_cases hlt : k < ps.length
    · obtain ⟨p, hp, hn, hf1, hf2⟩ := hc.is k hlt
      obtain ⟨c0, c1, c2, c3, c4, c5⟩ := hp
      have hg := hc.lt
      have hkz : (k : Int) < ps.length := by omega
      have fz := hc.fz (k * 6)
      have fz3 := hc.fz (k * 6 + 3)
      have HOo : Hid (∀ W, Below wr.heap.size wr W → Calls Tryz.prog 35 #[.slice p.oa ps[k].ops.length p.oc] W fun e w' => ∃ r c, e = .returned (.slice r ps[k].ops.length c) ∧ Oc W w' r c ps[k].ops) := fun W hb => cloneO_any _ _ _ _ (hn.o.below hb) (HO.out _ (List.getElem_mem hlt)).1
      have HOy : Hid (∀ W, OpsAt W p.ba ps[k].body → Calls Tryz.prog 35 #[.slice p.ba ps[k].body.length p.bc] W fun e w' => ∃ r c, e = .returned (.slice r ps[k].body.length c) ∧ Oc W w' r c ps[k].body) := fun W hb => cloneO_any _ _ _ _ hb (HO.out _ (List.getElem_mem hlt)).2
      have HK : Hid (Ci w wr g ps) := hc
      have HY : Hid (OpsAt wr p.ba ps[k].body ∧ Far (One g) p.ba ps[k].body.length) := ⟨hn.b, hf2⟩
      clear hc hn hf1 hf2 HI HO
      have HX : Hid (∀ {r c} {W : World}, Ci w W g ps → OpsAt W r ps[k].ops → ps[k].ops.length ≤ c → Far (One g) r ps[k].ops.length → Ci w (W.setCell ⟨g, k * 6, none⟩ (.slice r ps[k].ops.length c)) g ps) := fun {r c W} h1 h2 h3 h4 => h1.setO hlt h2 h3 h4
      have HXy : Hid (∀ {r c} {W : World}, Ci w W g ps → OpsAt W r ps[k].body → Far (One g) r ps[k].body.length → Ci w (W.setCell ⟨g, k * 6 + 3, none⟩ (.slice r ps[k].body.length c)) g ps) := fun {r c W} h1 h2 h4 => h1.setY hlt h2 h4
      generalize ps[k] = x at *
      have hne : ¬ g = wr.heap.size := by omega
      have hne' : ¬ wr.heap.size = g := by omega
      go_wp2_with (first
        | (go_at_call 35; refine Calls.mono (HOo.out _ (by go_grown)) ?_; rintro e w2 ⟨r1, d1, rfl, h1⟩; have HB1 : Hid (Below wr.heap.size wr w2) := (((Below.refl _ _).alloc (Nat.le_refl _) _).trans (h1.up.mono (by simp))); have HR1 : Hid (Ci w (w2.setCell ⟨g, k * 6, none⟩ (.slice r1 x.ops.length d1)) g ps) := (HX.out (HK.out.up' HB1.out) h1.at_ h1.cap (ops_far h1 (by simp; omega))); have k1 := (Op.At.new wr #[.slice p.oa x.ops.length p.oc, .int .i8 x.fin, .int .u8 x.a, .slice p.ba x.body.length p.bc, .int .i64 x.thn, .int .i64 x.els] 49).below h1.up (by simp); have b3 := k1.c 3 _ rfl; have bl := k1.lt; have e0 := ((bcell HB1.out).1 g (k * 6) hg).trans c0; have e1 := ((bcell HB1.out).2 g (k * 6) hg).trans fz; have e2 : g < w2.heap.size := Nat.lt_of_lt_of_le hg HB1.out.size; clear h1 HOo k1)
        | (go_at_call 35; refine Calls.mono (HOy.out _ (opsAt_fr (HY.out.1.below HB1.out) ((Fr.refl (One g) w2).setCell (.inr rfl) _ _) HY.out.2)) ?_; rintro e w3 ⟨r2, d2, rfl, h2⟩; have HR2 : Hid (Ci w (w3.setCell ⟨g, k * 6 + 3, none⟩ (.slice r2 x.body.length d2)) g ps) := (HXy.out (HR1.out.up' h2.up) h2.at_ (ops_far h2 HR1.out.lt)); have i0 := ((bcell h2.up).1 g (k * 6 + 3) HR1.out.lt).trans ((co (by omega)).trans (((bcell HB1.out).1 g (k * 6 + 3) hg).trans c3)); have i1 := ((bcell h2.up).2 g (k * 6 + 3) HR1.out.lt).trans (HR1.out.fz _); have i2 : g < w3.heap.size := Nat.lt_of_lt_of_le HR1.out.lt h2.up.size; clear h2 HOy))
      go_roundw
      case rel => exact ⟨k + 1, by omega, by go_num, HR2.out⟩
      case measure => simp [intOf]; omega
    · obtain rfl : k = ps.length := by omega
      have HK : Hid (Ci w wr g ps) := hc
      clear hc
      go_wp2_with fail
      go_ret
      exact ⟨_, _, rfl, HK.out.pat hl, HK.out.up⟩
end Go.Proofs.YtddcndlogoajkaaGreatDoor.L8.Sm
namespace Go.Proofs.YtddcndlogoajkaaGreatDoor.L8.Sm
open Go.ChangeShapes Go.WideShapes Go.ChangeAt Go.RowKit Go.Great
open _root_.Go.Proofs.YtddcndlogoajkaaGreatDoor.L8.Op _root_.Go.Proofs.YtddcndlogoajkaaGreatDoor.L8.So
set_option maxRecDepth 20000
/-- What allDeeds holds when the kinds below k are done. -/
def dF (k j : Nat) : Value := if j < 36 then (if 4 ≤ j ∧ j < 2 * k then (if j % 2 = 0 then fnV 61 else fnV 51) else if j = 2 then fnV 50 else if j = 3 then fnV 51 else if j = 30 then fnV 52 else if j = 31 then fnV 51 else if j = 32 then fnV 53 else if j = 33 then fnV 54 else if j = 34 then fnV 55 else if j = 35 then fnV 56 else .nilFunc) else fnV (57 + (j - 36))
def dA (k : Nat) : Array Value := ((List.range 40).map (dF k)).toArray
def dz : Array Value := (List.replicate 40 Value.nilFunc).toArray
def oA : Array Value := ((List.range 36).map (dF 2)).toArray
structure Dk (w W : World) (k : Nat) : Prop where
  r : ∀ j : Nat, j < 40 → (W.cell? ⟨w.heap.size, j, none⟩).isSome = true
  c : ∀ j : Nat, j < 40 → W.cell? ⟨w.heap.size + 1, j, none⟩ = some (dF k j)
  f : ∀ j : Nat, W.frozen? ⟨w.heap.size, j, none⟩ = false
  g : ∀ j : Nat, W.frozen? ⟨w.heap.size + 1, j, none⟩ = false
  b : Below w.heap.size w W
  s : W.heap.size = w.heap.size + 2
theorem dA_get (k j : Nat) (h : j < 40) : (dA k)[j]? = some (dF k j) := by
  unfold dA
  rw [List.getElem?_toArray, List.getElem?_map, List.getElem?_range h]; rfl
theorem dz_cell (w : World) (j : Nat) (h : j < 40) : (w.alloc (.cells dz 77)).cell? ⟨w.heap.size, j, none⟩ = some .nilFunc := by
  have e : (w.alloc (.cells dz 77)).cell? ⟨w.heap.size, j, none⟩ = dz[j]? := by simp
  rw [e]
  unfold dz
  rw [List.getElem?_toArray, List.getElem?_replicate, if_pos h]
theorem fr_setCells {X : Nat → Prop} {b : Nat} (hb : X b) : ∀ (vs : List Value) (o : Nat) {w0 w : World}, Fr X w0 w → Fr X w0 (w.setCells b o vs)
  | [], _, _, _, h => h
  | v :: r, o, _, _, h => fr_setCells hb r (o + 1) (h.setCell (.inr hb) o v)
theorem size_setCells (b : Nat) : ∀ (vs : List Value) (o : Nat) (w : World), (w.setCells b o vs).heap.size = w.heap.size
  | [], _, _ => rfl
  | v :: r, o, w => by rw [World.setCells, size_setCells b r, World.size_setCell]
theorem dA_len (k : Nat) : (dA k).toList.length = 40 := by simp [dA]
theorem dk_start (w : World) : Dk w (((w.alloc (.cells dz 77)).alloc (.cells dz 77)).setCells (w.alloc (.cells dz 77)).heap.size 0 (dA 2).toList) 2 := by
  have hz : (w.alloc (.cells dz 77)).heap.size = w.heap.size + 1 := by simp
  have hin : ∀ j, j < 40 → ((w.alloc (.cells dz 77)).alloc (.cells dz 77)).cell? ⟨w.heap.size + 1, j, none⟩ = some .nilFunc := fun j hj => by
    have := dz_cell (w.alloc (.cells dz 77)) j hj
    rw [hz] at this; exact this
  rw [hz]
  have hF : Fr (One (w.heap.size + 1)) ((w.alloc (.cells dz 77)).alloc (.cells dz 77)) (((w.alloc (.cells dz 77)).alloc (.cells dz 77)).setCells (w.heap.size + 1) 0 (dA 2).toList) := fr_setCells (X := One (w.heap.size + 1)) rfl _ _ (Fr.refl _ _)
  have hs2 : ((w.alloc (.cells dz 77)).alloc (.cells dz 77)).heap.size = w.heap.size + 2 := by simp
  refine ⟨fun j hj => ?_, fun j hj => ?_, fun j => ?_, fun j => ?_, ?_, ?_⟩
  · rw [hF.cell (by omega) (fun e => by have e : w.heap.size = w.heap.size + 1 := e; omega)]
    rw [World.cell?_alloc_some _ _ _ (by rw [dz_cell w j hj]; rfl), dz_cell w j hj]; rfl
  · have := World.cell?_setCells_in (w.heap.size + 1) (dA 2).toList 0 ((w.alloc (.cells dz 77)).alloc (.cells dz 77)) (fun i hi => by rw [dA_len] at hi; rw [Nat.zero_add, hin i hi]; rfl) j (by rw [dA_len]; exact hj)
    rw [Nat.zero_add] at this
    rw [this]
    have h2 := dA_get 2 j hj
    rw [← Array.getElem?_toList, List.getElem?_eq_getElem (by rw [dA_len]; exact hj)] at h2
    exact h2
  · rw [World.frozen?_setCells]; simp
  · rw [World.frozen?_setCells]; simp
  · have h1 : Below w.heap.size w ((w.alloc (.cells dz 77)).alloc (.cells dz 77)) := ((Below.refl _ _).alloc (Nat.le_refl _) _).alloc (by simp) _
    exact h1.trans (hF.below (by rw [hs2]; omega) fun k hk e => by have e : k = w.heap.size + 1 := e; omega)
  · rw [size_setCells]; exact hs2
theorem Dk.next {w W : World} {k : Nat} (h : Dk w W k) (h2 : 2 ≤ k) (hl : k < 15) : Dk w ((W.setCell ⟨w.heap.size + 1, k * 2, none⟩ (fnV 61)).setCell ⟨w.heap.size + 1, k * 2 + 1, none⟩ (fnV 51)) (k + 1) := by
  have hF : Fr (One (w.heap.size + 1)) W ((W.setCell ⟨w.heap.size + 1, k * 2, none⟩ (fnV 61)).setCell ⟨w.heap.size + 1, k * 2 + 1, none⟩ (fnV 51)) := ((Fr.refl (One (w.heap.size + 1)) W).setCell (.inr rfl) _ _).setCell (.inr rfl) _ _
  have hs := h.s
  refine ⟨fun j hj => ?_, fun j hj => ?_, fun j => ?_, fun j => ?_, ?_, ?_⟩
  · rw [hF.cell (by omega) (fun e => by have e : w.heap.size = w.heap.size + 1 := e; omega)]; exact h.r j hj
  · by_cases e1 : j = k * 2 + 1
    · subst e1
      rw [cs ((co (by omega)).trans (h.c _ hj))]
      unfold dF
      rw [if_pos (by omega), if_pos (by omega), if_neg (by omega)]
    · rw [co (by omega)]
      by_cases e0 : j = k * 2
      · subst e0
        rw [cs (h.c _ hj)]
        unfold dF
        rw [if_pos (by omega), if_pos (by omega), if_pos (by omega)]
      · rw [co (by omega), h.c j hj]
        unfold dF
        by_cases h36 : j < 36
        · rw [if_pos h36, if_pos h36]
          by_cases h4 : 4 ≤ j ∧ j < 2 * k
          · rw [if_pos h4, if_pos (show 4 ≤ j ∧ j < 2 * (k + 1) by omega)]
          · rw [if_neg h4, if_neg (show ¬ (4 ≤ j ∧ j < 2 * (k + 1)) by omega)]
        · rw [if_neg h36, if_neg h36]
  · rw [World.frozen?_setCell, World.frozen?_setCell]; exact h.f j
  · rw [World.frozen?_setCell, World.frozen?_setCell]; exact h.g j
  · exact (h.b.setCell (by show w.heap.size ≤ w.heap.size + 1; omega) _).setCell (by show w.heap.size ≤ w.heap.size + 1; omega) _
  · rw [World.size_setCell, World.size_setCell]; exact h.s
set_option maxHeartbeats 4000000 in
theorem deeds_any (w : World) : Calls Tryz.prog 30 #[] w fun e w' => e = .returned (.agg (dA 15)) ∧ Below w.heap.size w w' := by
  go_enter Tryz.func30, Tryz.ntmps30
  apply wp_seq_k; intro K0 hK0
  apply wp_region_lit
  refine wpList_allocTo rfl (some 0) rfl (.pointer (some ⟨w.heap.size, 0, none⟩)) (.cells dz 77) (by kernel_rfl) ?_
  refine wpList_nil ?_
  refine hK0 _ _ ?_
  apply wp_seq_k; intro K1 hK1
  apply wp_region_lit
  refine wpList_readTo rfl (some 3) rfl (.agg #[fnV 50, fnV 51]) (by kernel_rfl) ?_
  refine wpList_readTo rfl (some 4) rfl (.agg #[fnV 52, fnV 51]) (by kernel_rfl) ?_
  refine wpList_readTo rfl (some 5) rfl (.agg #[fnV 53, fnV 54]) (by kernel_rfl) ?_
  refine wpList_readTo rfl (some 6) rfl (.agg #[fnV 55, fnV 56]) (by kernel_rfl) ?_
  refine wpList_readTo rfl (some 7) rfl (.agg oA) (by kernel_rfl) ?_
  refine wpList_readTo rfl (some 8) rfl (.agg #[fnV 57]) (by kernel_rfl) ?_
  refine wpList_readTo rfl (some 9) rfl (.agg #[fnV 58]) (by kernel_rfl) ?_
  refine wpList_readTo rfl (some 10) rfl (.agg #[fnV 59]) (by kernel_rfl) ?_
  refine wpList_readTo rfl (some 11) rfl (.agg #[fnV 60]) (by kernel_rfl) ?_
  refine wpList_readTo rfl (some 12) rfl (.agg #[fnV 57, fnV 58, fnV 59, fnV 60]) (by kernel_rfl) ?_
  refine wpList_readTo rfl (some 13) rfl (.agg (dA 2)) (by kernel_rfl) ?_
  refine wpList_allocTo rfl (some 1) rfl (.pointer (some ⟨(w.alloc (.cells dz 77)).heap.size, 0, none⟩)) (.cells dz 77) (by kernel_rfl) ?_
  refine wpList_store_mid rfl 77 (.tmp 1) (.tmp 13) rfl (w.alloc (.cells dz 77)).heap.size 0 (dA 2) (by kernel_rfl) (by kernel_rfl) ?ht (by kernel_rfl) (by kernel_rfl) ?_
  case ht =>
    intro j hj
    have hj : j < 40 := hj
    constructor
    · rw [Nat.zero_add, dz_cell _ j hj]; rfl
    · simp
  refine wpList_nil ?_
  refine hK1 _ _ ?_
  have HD : Hid (Dk w (((w.alloc (.cells dz 77)).alloc (.cells dz 77)).setCells (w.alloc (.cells dz 77)).heap.size 0 (dA 2).toList) 2) := dk_start w
  clear hK1 hK0 K1 K0
  generalize ((w.alloc (.cells dz 77)).alloc (.cells dz 77)).setCells (w.alloc (.cells dz 77)).heap.size 0 (dA 2).toList = W0 at *
  generalize hA2 : dA 2 = a2
  generalize oA = ao
  simp only [Act.put, List.setIfInBounds_toArray, List.set_cons_zero, List.set_cons_succ, World.size_alloc]
  clear hA2
  go_wp2_with fail
  go_loopw [2] (fun i wr => ∃ k : Nat, 2 ≤ k ∧ k ≤ 15 ∧ i = .int .i64 k ∧ Dk w wr k) (fun i _ => 15 - (intOf i).toNat)
  case atStart => exact ⟨2, by omega, by omega, rfl, HD.out⟩
  case round =>
    rename_i wr
    obtain ⟨k, hk2, hk15, rfl, hd⟩ := hrel
    have hw1 : w.heap.size + 1 < wr.heap.size := by rw [hd.s]; omega
    by_cases hlt : k < 15
    · have c0 := hd.c (k * 2) (by omega)
      have c1 := hd.c (k * 2 + 1) (by omega)
      have g0 := hd.g (k * 2)
      have g1 := hd.g (k * 2 + 1)
      have HK : Hid _ := hd
      have hki : (k : Int) ≤ 14 := by omega
      have hki2 : (2 : Int) ≤ k := by omega
      clear hd HD
      generalize dF k (k * 2) = v0 at c0
      generalize dF k (k * 2 + 1) = v1 at c1
      go_wp2_with fail
      go_roundw
      case rel => exact ⟨k + 1, by omega, by omega, by go_num, HK.out.next hk2 hlt⟩
      case measure => simp [intOf]; omega
    · obtain rfl : k = 15 := by omega
      have HK : Hid _ := hd
      clear hd HD hlt
      go_upto_region 6 with fail
      rename_i K3 hK3
      have hr : wr.rangeAt (w.heap.size + 1) 0 (dA 15).toList := fun j v hv => by
        have hj : j < 40 := by
          have := (List.getElem?_eq_some_iff.1 hv).1
          rw [dA_len] at this; exact this
        rw [Array.getElem?_toList, dA_get 15 j hj] at hv
        cases hv
        rw [Nat.zero_add]
        exact HK.out.c j hj
      have hi : (Tryz.prog.info? 77).map (·.size) = some (dA 15).toList.length := by rw [dA_len]; kernel_rfl
      have hi2 : (Tryz.prog.info? 77).map (·.size) = some (dA 15).size := by kernel_rfl
      have h1 : (dA 15).all (·.oneCell') = true := by kernel_rfl
      have ht : wr.there w.heap.size 0 (dA 15).size := fun j hj => by
        have hj : j < 40 := by rw [show (dA 15).size = 40 by kernel_rfl] at hj; exact hj
        rw [Nat.zero_add]
        exact ⟨HK.out.r j hj, HK.out.f j⟩
      generalize hA : dA 15 = A at *
      apply wp_region_lit
      refine wpList_load_mid rfl 77 (.tmp 1) rfl (w.heap.size + 1) 0 rfl A.toList _ hr Tryz.underlying77 rfl hi ?_
      refine wpList_store_mid rfl 77 (.tmp 0) (.tmp 22) rfl w.heap.size 0 A rfl rfl ht hi2 h1 ?_
      refine wpList_nil ?_
      refine hK3 _ _ ?_
      refine wp_ret ?_
      have hl := run_loadVar_mid (P := Tryz.prog) (wr.setCells w.heap.size 0 A.toList) w.heap.size 0 77 A.toList _ (World.rangeAt_setCells_same wr w.heap.size 0 A.toList (by simpa using ht)) Tryz.underlying77 rfl hi
      rw [Array.toArray_toList] at hl
      refine bodyPost_ret (v := .agg A) (by simp [results, Tryz.results30, asAddr, Act.put, hl]) rfl ⟨by rw [hA], ?_⟩
      have hF : Fr (One w.heap.size) wr (wr.setCells w.heap.size 0 A.toList) := fr_setCells (X := One w.heap.size) rfl _ _ (Fr.refl _ _)
      exact HK.out.b.trans (hF.below HK.out.b.size fun k hk e => by have e : k = w.heap.size := e; omega)
end Go.Proofs.YtddcndlogoajkaaGreatDoor.L8.Sm
