/- A machine that does many things at a time, told by plain mathematics: what lands, what is issued, a cycle, a run. Conditions: none. -/
import Derived.Test.YtldfjlepbbmhnaaDoorRk
namespace Go.Proofs.YtldfjlepbbmhnaaDoor.Pp
open Go.ChangeShapes Go.WideShapes Go.ChangeAt Go.RowKit
open _root_.Go.Proofs.YtldfjlepbbmhnaaDoor.Op _root_.Go.Proofs.YtldfjlepbbmhnaaDoor.Bu
open _root_.Go.Proofs.YtldfjlepbbmhnaaDoor.Tb (Tab)
set_option maxRecDepth 20000

/-- What is in flight: where it goes (0 a register, 1 a cell, 2 the place), its number, its value. -/
structure F where
  w : Int
  n : Int
  v : Int
def I64 (n : Int) : Prop := -9223372036854775808 ≤ n ∧ n ≤ 9223372036854775807
structure F.Ok (x : F) : Prop where
  w : x.w = 0 ∨ x.w = 1 ∨ x.w = 2
  n0 : 0 ≤ x.n
  n1 : x.n < 256
  r : x.w = 0 → x.n < 32
  v : I64 x.v
/-- The machine: registers, cells, place, counter, what is in flight, error, value, prints, cycles. -/
structure PM where
  r : Nat → Int
  m : Nat → Int
  a : Int
  c : Int
  f : Nat → List F
  e : Int
  v : Int
  p : List Int
  s : Nat
def upd (g : Nat → Int) (k : Nat) (x : Int) : Nat → Int := fun j => if j = k then x else g j
def putF (S : PM) (cy : Nat) (x : F) : PM := { S with f := fun k => if k = cy % 8 then S.f k ++ [x] else S.f k }
def takeF (S : PM) : PM := { S with f := fun k => if k = S.s % 8 then [] else S.f k }
def ld1 (S : PM) (x : F) : PM := if x.w = 0 then { S with r := upd S.r x.n.toNat x.v } else if x.w = 1 then { S with m := upd S.m x.n.toNat x.v } else { S with a := x.v }
def landM (S : PM) : PM := (S.f (S.s % 8)).foldl ld1 (takeF S)
def celI (S : PM) (o : O) : Int := (S.r o.a.toNat + o.im) % 256
def lessI (a b : Int) : Int := if a < b then 0 else a - b
def decM (S : PM) : PM := { S with c := S.c - min S.c 1 }
def trnB (S : PM) (o : O) : Bool := if o.op = 19 then decide (S.r o.a.toNat ≠ 0) else if o.op = 22 then decide (S.r o.a.toNat < o.b) else decide (0 < S.c - min S.c 1)
def trnM (S : PM) (o : O) : PM := if o.op = 19 then S else if o.op = 22 then S else decM S
def resE (S : PM) (o : O) : Int := if o.op = 1 then 0 else if o.op = 15 then 0 else rkE o.op (S.r o.b.toNat)
def resV (S : PM) (o : O) : Int := if o.op = 1 then o.im else if o.op = 15 then S.m (celI S o).toNat else rkV o.op (S.r o.a.toNat) (S.r o.b.toNat)
def turnM (t : Tab) (S : PM) (o : O) : PM := putF S (S.s + 1 + t.d.toNat) ⟨2, 0, o.im⟩
/-- An operation is issued. -/
def isM (t : Tab) (S : PM) (o : O) (la : Nat) : PM :=
  if o.op = 0 then S
  else if o.op = 17 then { S with p := S.p ++ [S.r o.a.toNat] }
  else if o.op = 16 then putF S la ⟨1, celI S o, S.r o.b.toNat⟩
  else if o.op = 21 then { S with c := lessI (S.r o.a.toNat) o.im }
  else if o.op = 20 then S
  else if o.op = 19 ∨ o.op = 22 ∨ o.op = 23 then (if trnB S o then turnM t (trnM S o) o else trnM S o)
  else if o.op = 18 then turnM t S o
  else putF S la ⟨0, o.d, resV S o⟩
/-- What ends the run. -/
def isE (S : PM) (o : O) : Option (Int × Int) :=
  if o.op = 20 then some (0, S.r o.a.toNat)
  else if o.op = 0 ∨ o.op = 17 ∨ o.op = 16 ∨ o.op = 21 ∨ o.op = 19 ∨ o.op = 22 ∨ o.op = 23 ∨ o.op = 18 then none
  else if resE S o = 0 then none else some (resE S o, 0)
def clsO (x : Bn) (k : Nat) : List (O × Nat) := (x.l k).map fun o => (o, k)
/-- A bundle's operations from a class on. -/
def restO (x : Bn) : Nat → List (O × Nat)
  | 0 => []
  | n + 1 => clsO x (3 - n) ++ restO x n
def bdM (t : Tab) : PM → List (O × Nat) → PM × Option (Int × Int)
  | S, [] => (S, none)
  | S, p :: l => match isE S p.1 with
    | some z => (S, some z)
    | none => bdM t (isM t S p.1 (S.s + (t.l p.2).toNat)) l
def stepM (S : PM) : PM := { S with a := S.a + 1, s := S.s + 1 }
def cyM (t : Tab) (bs : List Bn) (S : PM) : PM × Option (Int × Int) :=
  if 0 ≤ (landM S).a ∧ (landM S).a < (bs.length : Int) then
    match bdM t (landM S) (restO (bs.getD (landM S).a.toNat ⟨fun _ => []⟩) 4) with
    | (S2, none) => (stepM S2, none)
    | (S2, some z) => (S2, some z)
  else ({ landM S with e := 5 }, none)
def endM (S : PM) (z : Int × Int) : PM := { S with e := z.1, v := z.2, s := S.s + 1 }
def runM (t : Tab) (bs : List Bn) : Nat → PM → PM
  | 0, S => S
  | n + 1, S => if S.e = 100 then
      match cyM t bs S with
      | (S', none) => runM t bs n S'
      | (S', some z) => endM S' z
    else S
/-- What numbers hold. -/
structure PM.Ok (S : PM) (L : Nat) : Prop where
  r : ∀ k, I64 (S.r k)
  m : ∀ k, I64 (S.m k)
  a : I64 S.a
  c0 : 0 ≤ S.c
  c1 : S.c < 18446744073709551616
  f : ∀ k, ∀ x ∈ S.f k, x.Ok
  l : ∀ k, (S.f k).length ≤ L
  p : S.p.length ≤ L
theorem PM.Ok.mono {S : PM} {L L' : Nat} (h : S.Ok L) (hL : L ≤ L') : S.Ok L' := ⟨h.r, h.m, h.a, h.c0, h.c1, h.f, fun k => Nat.le_trans (h.l k) hL, Nat.le_trans h.p hL⟩
theorem upd_in {g : Nat → Int} {k : Nat} {x : Int} (h : ∀ j, I64 (g j)) (hx : I64 x) : ∀ j, I64 (upd g k x j) := fun j => by
  unfold upd
  split
  · exact hx
  · exact h j
theorem ld1_ok {S : PM} {L : Nat} {x : F} (h : S.Ok L) (hx : x.Ok) : (ld1 S x).Ok L := by
  unfold ld1
  split
  · exact ⟨upd_in h.r hx.v, h.m, h.a, h.c0, h.c1, h.f, h.l, h.p⟩
  · split
    · exact ⟨h.r, upd_in h.m hx.v, h.a, h.c0, h.c1, h.f, h.l, h.p⟩
    · exact ⟨h.r, h.m, hx.v, h.c0, h.c1, h.f, h.l, h.p⟩
theorem takeF_ok {S : PM} {L : Nat} (h : S.Ok L) : (takeF S).Ok L := by
  refine ⟨h.r, h.m, h.a, h.c0, h.c1, fun k x hx => ?_, fun k => ?_, h.p⟩
  · unfold takeF at hx
    dsimp only at hx
    split at hx
    · cases hx
    · exact h.f k x hx
  · unfold takeF
    dsimp only
    split
    · exact Nat.zero_le _
    · exact h.l k
theorem foldl_ok {l : List F} : ∀ {S : PM} {L : Nat}, S.Ok L → (∀ x ∈ l, x.Ok) → (l.foldl ld1 S).Ok L := by
  induction l with
  | nil => exact fun h _ => h
  | cons x l ih => exact fun h hx => ih (ld1_ok h (hx x (by simp))) fun y hy => hx y (by simp [hy])
theorem landM_ok {S : PM} {L : Nat} (h : S.Ok L) : (landM S).Ok L := foldl_ok (takeF_ok h) fun x hx => h.f _ x hx
theorem putF_ok {S : PM} {L cy : Nat} {x : F} (h : S.Ok L) (hx : x.Ok) : (putF S cy x).Ok (L + 1) := by
  refine ⟨h.r, h.m, h.a, h.c0, h.c1, fun k y hy => ?_, fun k => ?_, Nat.le_trans h.p (by omega)⟩
  · unfold putF at hy
    dsimp only at hy
    split at hy
    · rcases List.mem_append.1 hy with hy | hy
      · exact h.f k y hy
      · rw [List.mem_singleton.1 hy]; exact hx
    · exact h.f k y hy
  · unfold putF
    dsimp only
    have := h.l k
    split
    · simp; omega
    · omega
theorem wrap_in (x : Int) : I64 (wrap64 x) := by unfold I64 wrap64; omega
theorem bits_in (a b : Int) : I64 (bits .and .i64 a b) ∧ I64 (bits .or .i64 a b) ∧ I64 (bits .xor .i64 a b) := by
  have k : ∀ x, I64 (IntKind.i64.wrap x) := fun x => by rw [IntKind.wrap_i64]; unfold I64; omega
  exact ⟨k _, k _, k _⟩
theorem shr_in (a : Int) (k : Nat) (h : I64 a) : I64 (a / 2 ^ k) := by
  have hp : (0 : Int) < 2 ^ k := Int.pow_pos (by decide)
  obtain ⟨h1, h2⟩ := h
  generalize (2 : Int) ^ k = p at *
  constructor
  · rw [Int.le_ediv_iff_mul_le hp]
    omega
  · have : a / p < 9223372036854775808 := Int.ediv_lt_of_lt_mul hp (by omega)
    omega
theorem rkV_in (d a b : Int) (ha : I64 a) : I64 (rkV d a b) := by
  have z : I64 0 := by unfold I64; omega
  have b1 : ∀ x, I64 (b2i x) := fun x => by cases x <;> (unfold I64 b2i; simp)
  have bi := bits_in a b
  have tm : I64 (a.tmod b) := tmod_le a b ha.1 ha.2
  unfold rkV
  by_cases h2 : d = 2
  · rw [if_pos h2]; exact wrap_in _
  rw [if_neg h2]
  by_cases h3 : d = 3
  · rw [if_pos h3]; exact wrap_in _
  rw [if_neg h3]
  by_cases h4 : d = 4
  · rw [if_pos h4]; exact bi.1
  rw [if_neg h4]
  by_cases h5 : d = 5
  · rw [if_pos h5]; exact bi.2.1
  rw [if_neg h5]
  by_cases h6 : d = 6
  · rw [if_pos h6]; exact bi.2.2
  rw [if_neg h6]
  by_cases h7 : d = 7
  · rw [if_pos h7]; exact wrap_in _
  rw [if_neg h7]
  by_cases h8 : d = 8
  · rw [if_pos h8]; exact shr_in _ _ ha
  rw [if_neg h8]
  by_cases h9 : d = 9
  · rw [if_pos h9]; exact b1 _
  rw [if_neg h9]
  by_cases h10 : d = 10
  · rw [if_pos h10]; exact b1 _
  rw [if_neg h10]
  by_cases h11 : d = 11
  · rw [if_pos h11]; exact ha
  rw [if_neg h11]
  by_cases h12 : d = 12
  · rw [if_pos h12]; exact wrap_in _
  rw [if_neg h12]
  by_cases h13 : d = 13
  · rw [if_pos h13]
    by_cases hb : b = 0
    · rw [if_pos hb]; exact z
    · rw [if_neg hb]; exact wrap_in _
  rw [if_neg h13]
  by_cases h14 : d = 14
  · rw [if_pos h14]
    by_cases hb : b = 0
    · rw [if_pos hb]; exact z
    · rw [if_neg hb]; exact tm
  rw [if_neg h14]; exact z
theorem rkV_i64 (d a b : Int) (ha : I64 a) : I64 (rkV d a b) := rkV_in d a b ha
theorem okO_regs {o : O} (h : okO o = true) (_ho : o.Ok) : o.d < 32 ∧ o.a < 32 ∧ o.b < 32 := by
  unfold okO at h
  split at h
  · rename_i k _
    unfold okF at h
    simp only [Bool.and_eq_true] at h
    have key : ∀ (x : Int) (c : Bool), rH x c = true → x < 32 := fun x c hx => by
      unfold rH at hx
      split at hx
      · simpa using hx
      · have : x = 0 := by simpa using hx
        omega
    exact ⟨key _ _ h.1.1.1, key _ _ h.1.1.2, key _ _ h.1.2⟩
  · cases h
theorem resV_ok {S : PM} {L : Nat} {o : O} (h : S.Ok L) (ho : o.Ok) : I64 (resV S o) := by
  unfold resV
  split
  · exact ⟨ho.i0, ho.i1⟩
  · split
    · exact h.m _
    · exact rkV_i64 _ _ _ (h.r _)
theorem decM_ok {S : PM} {L : Nat} (h : S.Ok L) : (decM S).Ok L := by
  have h0 := h.c0
  have h1 := h.c1
  exact ⟨h.r, h.m, h.a, by show 0 ≤ S.c - min S.c 1; omega, by show S.c - min S.c 1 < _; omega, h.f, h.l, h.p⟩
theorem trnM_ok {S : PM} {L : Nat} (o : O) (h : S.Ok L) : (trnM S o).Ok L := by
  unfold trnM
  split
  · exact h
  · split
    · exact h
    · exact decM_ok h
theorem turnM_ok {S : PM} {L : Nat} (t : Tab) {o : O} (h : S.Ok L) (ho : o.Ok) : (turnM t S o).Ok (L + 1) := putF_ok h ⟨.inr (.inr rfl), (show (0 : Int) ≤ 0 by decide), (show (0 : Int) < 256 by decide), fun e => absurd (show (2 : Int) = 0 from e) (by decide), ho.i0, ho.i1⟩
theorem isM_ok {S : PM} {L : Nat} (t : Tab) {o : O} (la : Nat) (h : S.Ok L) (ho : o.Ok) (hk : okO o = true) : (isM t S o la).Ok (L + 1) := by
  obtain ⟨k1, k2, k3⟩ := okO_regs hk ho
  unfold isM
  split
  · exact h.mono (by omega)
  · split
    · exact ⟨h.r, h.m, h.a, h.c0, h.c1, h.f, fun k => Nat.le_trans (h.l k) (by omega), by have := h.p; simp; omega⟩
    · split
      · have hc : 0 ≤ celI S o ∧ celI S o < 256 := by unfold celI; omega
        exact putF_ok h ⟨.inr (.inl rfl), hc.1, hc.2, fun e => absurd (show (1 : Int) = 0 from e) (by decide), h.r _⟩
      · split
        · have ha := h.r o.a.toNat
          have i0 := ho.i0
          have i1 := ho.i1
          unfold I64 at ha
          exact PM.Ok.mono (L := L) ⟨h.r, h.m, h.a, by show 0 ≤ lessI _ _; unfold lessI; split <;> omega, by show lessI _ _ < _; unfold lessI; split <;> omega, h.f, h.l, h.p⟩ (by omega)
        · split
          · exact h.mono (by omega)
          · split
            · split
              · exact turnM_ok t (trnM_ok o h) ho
              · exact (trnM_ok o h).mono (by omega)
            · split
              · exact turnM_ok t h ho
              · exact putF_ok h ⟨.inl rfl, ho.d0, (show o.d < 256 by omega), fun _ => k1, resV_ok h ho⟩
theorem trnM_s {S : PM} (o : O) : (trnM S o).s = S.s ∧ (trnM S o).a = S.a ∧ (trnM S o).e = S.e := by
  unfold trnM
  split
  · exact ⟨rfl, rfl, rfl⟩
  · split <;> exact ⟨rfl, rfl, rfl⟩
theorem isM_s {S : PM} (t : Tab) (o : O) (la : Nat) : (isM t S o la).s = S.s ∧ (isM t S o la).a = S.a ∧ (isM t S o la).e = S.e := by
  unfold isM
  by_cases h0 : o.op = 0
  · rw [if_pos h0]; exact ⟨rfl, rfl, rfl⟩
  rw [if_neg h0]
  by_cases h1 : o.op = 17
  · rw [if_pos h1]; exact ⟨rfl, rfl, rfl⟩
  rw [if_neg h1]
  by_cases h2 : o.op = 16
  · rw [if_pos h2]; exact ⟨rfl, rfl, rfl⟩
  rw [if_neg h2]
  by_cases h3 : o.op = 21
  · rw [if_pos h3]; exact ⟨rfl, rfl, rfl⟩
  rw [if_neg h3]
  by_cases h4 : o.op = 20
  · rw [if_pos h4]; exact ⟨rfl, rfl, rfl⟩
  rw [if_neg h4]
  by_cases h5 : o.op = 19 ∨ o.op = 22 ∨ o.op = 23
  · rw [if_pos h5]
    by_cases h6 : trnB S o = true
    · rw [if_pos h6]; exact trnM_s o
    · rw [if_neg h6]; exact trnM_s o
  rw [if_neg h5]
  by_cases h7 : o.op = 18
  · rw [if_pos h7]; exact ⟨rfl, rfl, rfl⟩
  rw [if_neg h7]; exact ⟨rfl, rfl, rfl⟩
end Go.Proofs.YtldfjlepbbmhnaaDoor.Pp
