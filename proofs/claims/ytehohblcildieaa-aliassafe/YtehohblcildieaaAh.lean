/- What an operation does to registers and cells (the statement's own done), read off the program by the walk. Conditions: registers and cells lie in memory. -/
import Derived.Test.YtehohblcildieaaAd
import Derived.Test.YtehohblcildieaaRk
import Derived.Test.YtehohblcildieaaSm
namespace Go.Proofs.Ytehohblcildieaa.Al
open Go.ChangeShapes Go.WideShapes Go.ChangeAt Go.RowKit
open _root_.Go.Proofs.Ytehohblcildieaa.Op _root_.Go.Proofs.Ytehohblcildieaa.So
set_option maxRecDepth 20000

def upd (f : Nat → Int) (k : Nat) (v : Int) : Nat → Int := fun i => if i = k then v else f i
theorem upd_same (f : Nat → Int) (k : Nat) (v : Int) : upd f k v k = v := by simp [upd]
theorem upd_other (f : Nat → Int) {k i : Nat} (v : Int) (h : ¬ i = k) : upd f k v i = f i := by simp [upd, h]
def In64 (x : Int) : Prop := -9223372036854775808 ≤ x ∧ x ≤ 9223372036854775807
theorem upd_in {f : Nat → Int} (h : ∀ i, In64 (f i)) (k : Nat) {v : Int} (hv : In64 v) : ∀ i, In64 (upd f k v i) := fun i => by
  unfold upd
  split
  · exact hv
  · exact h i
theorem wrap_in (x : Int) : In64 (wrap64 x) := by unfold In64 wrap64; omega
theorem bits_in (a b : Int) : In64 (bits .and .i64 a b) ∧ In64 (bits .or .i64 a b) ∧ In64 (bits .xor .i64 a b) := by
  have k : ∀ x, In64 (IntKind.i64.wrap x) := fun x => by rw [IntKind.wrap_i64]; unfold In64; omega
  exact ⟨k _, k _, k _⟩
theorem shr_in (a : Int) (k : Nat) (h : In64 a) : In64 (a / 2 ^ k) := by
  have hp : (0 : Int) < 2 ^ k := Int.pow_pos (by decide)
  obtain ⟨h1, h2⟩ := h
  generalize (2 : Int) ^ k = p at *
  constructor
  · rw [Int.le_ediv_iff_mul_le hp]
    omega
  · have : a / p < 9223372036854775808 := Int.ediv_lt_of_lt_mul hp (by omega)
    omega
theorem rkV_in (d a b : Int) (ha : In64 a) : In64 (rkV d a b) := by
  have z : In64 0 := by unfold In64; omega
  have b1 : ∀ x, In64 (b2i x) := fun x => by cases x <;> (unfold In64 b2i; simp)
  have bi := bits_in a b
  have tm : In64 (a.tmod b) := tmod_le a b ha.1 ha.2
  unfold rkV
  by_cases h2 : d = 2
  · rw [if_pos h2]; exact wrap_in _
  rw [if_neg h2]
  by_cases h3 : d = 3
  · rw [if_pos h3]; exact wrap_in _
  rw [if_neg h3]
  by_cases h4 : d = 4
  · rw [if_pos h4]; exact bi.1
  rw [if_neg h4]
  by_cases h5 : d = 5
  · rw [if_pos h5]; exact bi.2.1
  rw [if_neg h5]
  by_cases h6 : d = 6
  · rw [if_pos h6]; exact bi.2.2
  rw [if_neg h6]
  by_cases h7 : d = 7
  · rw [if_pos h7]; exact wrap_in _
  rw [if_neg h7]
  by_cases h8 : d = 8
  · rw [if_pos h8]; exact shr_in _ _ ha
  rw [if_neg h8]
  by_cases h9 : d = 9
  · rw [if_pos h9]; exact b1 _
  rw [if_neg h9]
  by_cases h10 : d = 10
  · rw [if_pos h10]; exact b1 _
  rw [if_neg h10]
  by_cases h11 : d = 11
  · rw [if_pos h11]; exact ha
  rw [if_neg h11]
  by_cases h12 : d = 12
  · rw [if_pos h12]; exact wrap_in _
  rw [if_neg h12]
  by_cases h13 : d = 13
  · rw [if_pos h13]
    by_cases hb : b = 0
    · rw [if_pos hb]; exact z
    · rw [if_neg hb]; exact wrap_in _
  rw [if_neg h13]
  by_cases h14 : d = 14
  · rw [if_pos h14]
    by_cases hb : b = 0
    · rw [if_pos hb]; exact z
    · rw [if_neg hb]; exact tm
  rw [if_neg h14]; exact z
theorem rH_le {r : Int} {c : Bool} (h : rH r c = true) : r ≤ 31 := by
  unfold rH at h
  cases c <;> simp at h <;> omega
theorem D_all : ∀ n : Nat, 1 ≤ n → n ≤ 15 → ∀ k, kindL[n]? = some k → k.D = true
  | 0, h, _, _, _ => absurd h (by omega)
  | 1, _, _, _, h => by cases h; rfl
  | 2, _, _, _, h => by cases h; rfl
  | 3, _, _, _, h => by cases h; rfl
  | 4, _, _, _, h => by cases h; rfl
  | 5, _, _, _, h => by cases h; rfl
  | 6, _, _, _, h => by cases h; rfl
  | 7, _, _, _, h => by cases h; rfl
  | 8, _, _, _, h => by cases h; rfl
  | 9, _, _, _, h => by cases h; rfl
  | 10, _, _, _, h => by cases h; rfl
  | 11, _, _, _, h => by cases h; rfl
  | 12, _, _, _, h => by cases h; rfl
  | 13, _, _, _, h => by cases h; rfl
  | 14, _, _, _, h => by cases h; rfl
  | 15, _, _, _, h => by cases h; rfl
  | n + 16, _, h, _, _ => absurd h (by omega)

/-- Registers and cells in memory. -/
structure Rm (w : World) (rb mb : Nat) (R M : Nat → Int) : Prop where
  r : ∀ j : Nat, j < 32 → w.cell? ⟨rb, j, none⟩ = some (.int .i64 (R j))
  m : ∀ j : Nat, j < 256 → w.cell? ⟨mb, j, none⟩ = some (.int .i64 (M j))
  rf : ∀ j : Nat, w.frozen? ⟨rb, j, none⟩ = false
  mf : ∀ j : Nat, w.frozen? ⟨mb, j, none⟩ = false
  rl : rb < w.heap.size
  ml : mb < w.heap.size
  ne : rb ≠ mb
  ri : ∀ j, In64 (R j)
  mi : ∀ j, In64 (M j)
theorem Rm.fr {w w' : World} {rb mb : Nat} {R M : Nat → Int} {X : Nat → Prop} (h : Rm w rb mb R M) (g : Fr X w w') (h1 : ¬ X rb) (h2 : ¬ X mb) : Rm w' rb mb R M :=
  ⟨fun j hj => (g.cell h.rl h1 j).trans (h.r j hj), fun j hj => (g.cell h.ml h2 j).trans (h.m j hj), fun j => (g.frozen h.rl h1 j).trans (h.rf j), fun j => (g.frozen h.ml h2 j).trans (h.mf j), Nat.lt_of_lt_of_le h.rl g.size, Nat.lt_of_lt_of_le h.ml g.size, h.ne, h.ri, h.mi⟩
theorem Rm.up {w w' : World} {rb mb : Nat} {R M : Nat → Int} (h : Rm w rb mb R M) (g : Below w.heap.size w w') : Rm w' rb mb R M := h.fr (Fr.of (X := Non) g) (fun h => h) (fun h => h)
theorem Rm.setR {w : World} {rb mb : Nat} {R M : Nat → Int} (h : Rm w rb mb R M) {k : Nat} (hk : k < 32) {v : Int} (hv : In64 v) : Rm (w.setCell ⟨rb, k, none⟩ (.int .i64 v)) rb mb (upd R k v) M := by
  have hF : Fr (One rb) w (w.setCell ⟨rb, k, none⟩ (.int .i64 v)) := (Fr.refl (One rb) w).setCell (.inr rfl) _ _
  have hm : ¬ One rb mb := fun e => h.ne (show mb = rb from e).symm
  refine ⟨fun j hj => ?_, fun j hj => (hF.cell h.ml hm j).trans (h.m j hj), fun j => by rw [World.frozen?_setCell]; exact h.rf j, fun j => by rw [World.frozen?_setCell]; exact h.mf j, by rw [World.size_setCell]; exact h.rl, by rw [World.size_setCell]; exact h.ml, h.ne, upd_in h.ri k hv, h.mi⟩
  by_cases e : j = k
  · subst e; rw [World.cell?_setCell_same _ _ _ (h.r j hj), upd_same]
  · rw [World.cell?_setCell_other _ _ _ _ (fun e' => by injection e' with _ e'; exact e e'.symm), h.r j hj, upd_other _ _ e]
theorem Rm.setM {w : World} {rb mb : Nat} {R M : Nat → Int} (h : Rm w rb mb R M) {k : Nat} (hk : k < 256) {v : Int} (hv : In64 v) : Rm (w.setCell ⟨mb, k, none⟩ (.int .i64 v)) rb mb R (upd M k v) := by
  have hF : Fr (One mb) w (w.setCell ⟨mb, k, none⟩ (.int .i64 v)) := (Fr.refl (One mb) w).setCell (.inr rfl) _ _
  have hm : ¬ One mb rb := fun e => h.ne (show rb = mb from e)
  refine ⟨fun j hj => (hF.cell h.rl hm j).trans (h.r j hj), fun j hj => ?_, fun j => by rw [World.frozen?_setCell]; exact h.rf j, fun j => by rw [World.frozen?_setCell]; exact h.mf j, by rw [World.size_setCell]; exact h.rl, by rw [World.size_setCell]; exact h.ml, h.ne, h.ri, upd_in h.mi k hv⟩
  by_cases e : j = k
  · subst e; rw [World.cell?_setCell_same _ _ _ (h.m j hj), upd_same]
  · rw [World.cell?_setCell_other _ _ _ _ (fun e' => by injection e' with _ e'; exact e e'.symm), h.m j hj, upd_other _ _ e]
/-- What done leaves. -/
def DonePost (w : World) (rb mb : Nat) (o : O) (R : Nat → Int) (e : Ending) (w' : World) : Prop := ∃ (fine : Bool) (R' M' : Nat → Int), e = .returned (.tuple #[.int .i64 (cellC o R), .bool fine]) ∧ Rm w' rb mb R' M' ∧ Fr (fun k => k = rb ∨ k = mb) w w' ∧ ∀ r : Int, 0 ≤ r → wt r o = false → R' r.toNat = R r.toNat
/-- Fields of an operation of a program are places. -/
theorem fields_le {o : O} (h : okO o = true) : o.d ≤ 31 ∧ o.a ≤ 31 ∧ o.b ≤ 31 := by
  unfold okO at h
  split at h
  · simp only [okF, Bool.and_eq_true] at h
    obtain ⟨⟨⟨g1, g2⟩, g3⟩, -⟩ := h
    exact ⟨rH_le g1, rH_le g2, rH_le g3⟩
  · cases h
theorem wt_writes {o : O} (h : okO o = true) (h1 : 1 ≤ o.op) (h15 : o.op ≤ 15) : wt o.d o = true := by
  have hw : wrB o = true := by
    unfold okO at h
    unfold wrB
    cases hk : kOf o.op with
    | none => rw [hk] at h; cases h
    | some k =>
      rw [hk] at h
      have h3 : okF k o = true := h
      show (okF k o && k.D) = true
      rw [h3, Bool.true_and]
      unfold kOf at hk
      rw [if_pos (by omega)] at hk
      exact D_all o.op.toNat (by omega) (by omega) k hk
  unfold wt
  rw [hw]
  have : ¬ o.op = 16 := by omega
  simp [this]
theorem upd_keeps {o : O} (hd : 0 ≤ o.d) (hw : wt o.d o = true) (R : Nat → Int) (v : Int) : ∀ r : Int, 0 ≤ r → wt r o = false → upd R o.d.toNat v r.toNat = R r.toNat := fun r hr h => by
  refine upd_other _ _ fun e => ?_
  have : r = o.d := by omega
  subst this
  rw [hw] at h; cases h
end Go.Proofs.Ytehohblcildieaa.Al
