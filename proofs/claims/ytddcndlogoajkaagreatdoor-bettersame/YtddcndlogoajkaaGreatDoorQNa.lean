/- A machine that does one thing at a time, as plain mathematics: its state, what a step makes of it, runs of so many steps, what is told of them. Conditions: none. -/
import Derived.Test.YtddcndlogoajkaaGreatDoorQRk
import Derived.Test.YtddcndlogoajkaaGreatDoorQPk
namespace Go.Proofs.YtddcndlogoajkaaGreatDoor.L8.Sm
open Go.ChangeShapes Go.WideShapes Go.ChangeAt Go.RowKit
open _root_.Go.Proofs.YtddcndlogoajkaaGreatDoor.L8.Op
set_option maxRecDepth 20000

/-- Registers, cells, the place, rounds left, how it stands (100: it runs), the value, what was printed, the steps counted. -/
structure Ma where
  r : Nat → Int
  m : Nat → Int
  b : Nat
  y : Bool
  o : Nat
  n : Int
  e : Int
  v : Int
  pr : List Int
  s : Nat
def upd (f : Nat → Int) (k : Nat) (v : Int) : Nat → Int := fun i => if i = k then v else f i
def In64 (x : Int) : Prop := -9223372036854775808 ≤ x ∧ x ≤ 9223372036854775807
theorem upd_in {f : Nat → Int} (h : ∀ i, In64 (f i)) (k : Nat) {v : Int} (hv : In64 v) : ∀ i, In64 (upd f k v i) := fun i => by
  unfold upd
  split
  · exact hv
  · exact h i
/-- Which cell is meant. -/
def cellN (a im : Int) : Nat := ((a + im) % 256).toNat
theorem cellN_lt (a im : Int) : cellN a im < 256 := by unfold cellN; omega
def lst (x : Bk) (y : Bool) : List O := if y then x.body else x.ops
def listM (ps : List Bk) (M : Ma) : List O := match ps[M.b]? with | some x => lst x M.y | none => []
/-- Does an operation trap? -/
def trapO (o : O) (M : Ma) : Bool := decide ((o.op = 13 ∨ o.op = 14) ∧ M.r o.b.toNat = 0)
def trapB (ps : List Bk) (M : Ma) : Bool := match (listM ps M)[M.o]? with | some o => trapO o M | none => false
/-- What an operation reckons. -/
def valO (o : O) (M : Ma) : Int :=
  if o.op = 1 then o.im else if o.op = 15 then M.m (cellN (M.r o.a.toNat) o.im) else if o.op = 16 then M.r o.b.toNat else if o.op = 17 then M.r o.a.toNat else rkV o.op (M.r o.a.toNat) (M.r o.b.toNat)
/-- What becomes of it. -/
def landO (o : O) (v : Int) (M : Ma) : Ma :=
  if o.op = 16 then { M with m := upd M.m (cellN (M.r o.a.toNat) o.im) v } else if o.op = 17 then { M with pr := M.pr ++ [v] } else { M with r := upd M.r o.d.toNat v }
def opM (o : O) (M : Ma) : Ma := let N := landO o (valO o M) M; { N with o := M.o + 1 }
def toM (t : Int) (M : Ma) : Ma := { M with b := t.toNat, y := false, o := 0 }
/-- How many rounds are left when a loop's end is come to. -/
def rndM (a : Int) (M : Ma) : Int := if M.y then wrap64 (M.n - 1) else max (M.r a.toNat) 0
def endM (x : Bk) (M : Ma) : Ma :=
  if x.fin = 0 then toM x.thn M
  else if x.fin = 1 then toM (if M.r x.a.toNat = 0 then x.els else x.thn) M
  else if x.fin = 2 then { M with e := 0, v := M.r x.a.toNat }
  else if 0 < rndM x.a M then { M with n := rndM x.a M, y := true, o := 0 } else toM x.thn { M with n := rndM x.a M }
def nextM (ps : List Bk) (M : Ma) : Ma := match ps[M.b]? with | some x => (match (lst x M.y)[M.o]? with | some o => opM o M | none => endM x M) | none => M
def stepM (ps : List Bk) (M : Ma) : Ma := { nextM ps M with s := M.s + 1 }
def runM (ps : List Bk) : Nat → Ma → Ma
  | 0, M => if M.e = 100 then (if trapB ps M then { M with e := 101 } else M) else M
  | k + 1, M => if M.e = 100 then (if trapB ps M then { M with e := 101 } else runM ps k (stepM ps M)) else M
/-- A step's tag: block, of the body, operation (-1: the end). -/
abbrev Tg := Int × Bool × Int
def tagM (ps : List Bk) (M : Ma) : Tg := if M.o = (listM ps M).length then (M.b, false, -1) else (M.b, M.y, M.o)
def trailM (ps : List Bk) : Nat → Ma → List Tg
  | 0, _ => []
  | k + 1, M => if M.e = 100 then (if trapB ps M then [] else tagM ps M :: trailM ps k (stepM ps M)) else []

theorem run_over {ps : List Bk} {M : Ma} (h : ¬ M.e = 100) (k : Nat) : runM ps k M = M := by
  cases k <;> simp [runM, h]
theorem run_zero_trap {ps : List Bk} (M : Ma) : runM ps 0 M = M ∨ (M.e = 100 ∧ trapB ps M = true ∧ runM ps 0 M = { M with e := 101 }) := by
  by_cases h : M.e = 100
  · cases ht : trapB ps M
    · left; simp [runM, h, ht]
    · right; exact ⟨h, rfl, by simp [runM, h, ht]⟩
  · left; exact run_over h 0
theorem trail_len (ps : List Bk) : ∀ (k : Nat) (M : Ma), (runM ps k M).s = M.s + (trailM ps k M).length
  | 0, M => by
    rcases run_zero_trap (ps := ps) M with h | ⟨h1, h2, h⟩ <;> rw [h] <;> simp [trailM]
  | k + 1, M => by
    by_cases h : M.e = 100
    · cases ht : trapB ps M
      · have e1 : runM ps (k + 1) M = runM ps k (stepM ps M) := by simp [runM, h, ht]
        have e2 : trailM ps (k + 1) M = tagM ps M :: trailM ps k (stepM ps M) := by simp [trailM, h, ht]
        rw [e1, e2, trail_len ps k, List.length_cons]
        show M.s + 1 + _ = _
        omega
      · have e1 : runM ps (k + 1) M = { M with e := 101 } := by simp [runM, h, ht]
        have e2 : trailM ps (k + 1) M = [] := by simp [trailM, h, ht]
        rw [e1, e2]; rfl
    · rw [run_over h]
      simp [trailM, h]
theorem trail_le (ps : List Bk) : ∀ (k : Nat) (M : Ma), (trailM ps k M).length ≤ k
  | 0, _ => by simp [trailM]
  | k + 1, M => by
    unfold trailM
    split
    · split
      · simp
      · have := trail_le ps k (stepM ps M)
        simp; omega
    · simp

/-! ### what stays true -/
/-- An operation whose fields are places. -/
structure OkM (o : O) : Prop where
  op : 1 ≤ o.op ∧ o.op ≤ 17
  d : 0 ≤ o.d ∧ o.d ≤ 31
  a : 0 ≤ o.a ∧ o.a ≤ 31
  b : 0 ≤ o.b ∧ o.b ≤ 31
  im : In64 o.im
/-- A block whose fields are places. -/
structure BkM (n : Nat) (x : Bk) : Prop where
  fin : 0 ≤ x.fin ∧ x.fin ≤ 3
  a : 0 ≤ x.a ∧ x.a ≤ 31
  thn : 0 ≤ x.thn ∧ (¬ x.fin = 2 → x.thn < n)
  els : 0 ≤ x.els ∧ (x.fin = 1 → x.els < n)
  o : ∀ o ∈ x.ops, OkM o
  y : ∀ o ∈ x.body, OkM o
def PsM (ps : List Bk) : Prop := ps.length ≤ 128 ∧ 0 < ps.length ∧ ∀ x ∈ ps, BkM ps.length x
structure Inv (ps : List Bk) (M : Ma) : Prop where
  b : M.b < ps.length
  o : M.o ≤ (listM ps M).length
  r : ∀ i, In64 (M.r i)
  m : ∀ i, In64 (M.m i)
  n : In64 M.n
  v : In64 M.v
  p : M.pr.length ≤ M.s
  q : ∀ x ∈ M.pr, In64 x
theorem wrap_in (x : Int) : In64 (wrap64 x) := by unfold In64 wrap64; omega
theorem bits_in (a b : Int) : In64 (bits .and .i64 a b) ∧ In64 (bits .or .i64 a b) ∧ In64 (bits .xor .i64 a b) := by
  have k : ∀ x, In64 (IntKind.i64.wrap x) := fun x => by rw [IntKind.wrap_i64]; unfold In64; omega
  exact ⟨k _, k _, k _⟩
theorem shr_in (a : Int) (k : Nat) (h : In64 a) : In64 (a / 2 ^ k) := by
  have hp : (0 : Int) < 2 ^ k := Int.pow_pos (by decide)
  obtain ⟨h1, h2⟩ := h
  generalize (2 : Int) ^ k = p at *
  constructor
  · rw [Int.le_ediv_iff_mul_le hp]
    omega
  · have : a / p < 9223372036854775808 := Int.ediv_lt_of_lt_mul hp (by omega)
    omega
theorem rkV_in (d a b : Int) (ha : In64 a) : In64 (rkV d a b) := by
  have z : In64 0 := by unfold In64; omega
  have b1 : ∀ x, In64 (b2i x) := fun x => by cases x <;> (unfold In64 b2i; simp)
  have bi := bits_in a b
  have tm : In64 (a.tmod b) := tmod_le a b ha.1 ha.2
  unfold rkV
  by_cases h2 : d = 2
  · rw [if_pos h2]; exact wrap_in _
  rw [if_neg h2]
  by_cases h3 : d = 3
  · rw [if_pos h3]; exact wrap_in _
  rw [if_neg h3]
  by_cases h4 : d = 4
  · rw [if_pos h4]; exact bi.1
  rw [if_neg h4]
  by_cases h5 : d = 5
  · rw [if_pos h5]; exact bi.2.1
  rw [if_neg h5]
  by_cases h6 : d = 6
  · rw [if_pos h6]; exact bi.2.2
  rw [if_neg h6]
  by_cases h7 : d = 7
  · rw [if_pos h7]; exact wrap_in _
  rw [if_neg h7]
  by_cases h8 : d = 8
  · rw [if_pos h8]; exact shr_in _ _ ha
  rw [if_neg h8]
  by_cases h9 : d = 9
  · rw [if_pos h9]; exact b1 _
  rw [if_neg h9]
  by_cases h10 : d = 10
  · rw [if_pos h10]; exact b1 _
  rw [if_neg h10]
  by_cases h11 : d = 11
  · rw [if_pos h11]; exact ha
  rw [if_neg h11]
  by_cases h12 : d = 12
  · rw [if_pos h12]; exact wrap_in _
  rw [if_neg h12]
  by_cases h13 : d = 13
  · rw [if_pos h13]
    by_cases hb : b = 0
    · rw [if_pos hb]; exact z
    · rw [if_neg hb]; exact wrap_in _
  rw [if_neg h13]
  by_cases h14 : d = 14
  · rw [if_pos h14]
    by_cases hb : b = 0
    · rw [if_pos hb]; exact z
    · rw [if_neg hb]; exact tm
  rw [if_neg h14]; exact z
theorem firstE_all {n : Int} : ∀ {ps : List Bk}, firstE n ps = 0 → ∀ x ∈ ps, ckB x n = 0
  | [], _ => fun x hx => by simp at hx
  | y :: r, h => fun x hx => by
    unfold firstE at h
    by_cases e : ckB y n = 0
    · rw [if_pos e] at h
      rcases List.mem_cons.1 hx with rfl | hx
      · exact e
      · exact firstE_all h x hx
    · rw [if_neg e] at h; exact absurd h e
def PsOk (ps : List Bk) : Prop := ∀ x ∈ ps, x.Ok ∧ (∀ o ∈ x.ops, o.Ok) ∧ ∀ o ∈ x.body, o.Ok
theorem psOk_of {w : World} {ao : Option Addr} {ps : List Bk} (h : PAt w ao ps) : PsOk ps := fun x hx => by
  obtain ⟨i, hi, e⟩ := List.getElem_of_mem hx
  obtain ⟨b, f, -, -, hc⟩ := h.is (by omega)
  obtain ⟨p, -, hb⟩ := hc i hi
  rw [e] at hb
  exact ⟨hb.ok, hb.o.ok, hb.b.ok⟩
theorem rH_le {r : Int} {c : Bool} (h : rH r c = true) : r ≤ 31 := by
  unfold rH at h
  cases c <;> simp at h <;> omega
theorem okM_of {o : O} (ho : o.Ok) (h : okP o = true) : OkM o := by
  simp only [okP, Bool.and_eq_true, decide_eq_true_eq] at h
  obtain ⟨⟨h1, h2⟩, h3⟩ := h
  unfold okO at h3
  split at h3
  · simp only [okF, Bool.and_eq_true] at h3
    obtain ⟨⟨⟨g1, g2⟩, g3⟩, -⟩ := h3
    exact ⟨⟨h1, h2⟩, ⟨ho.d0, rH_le g1⟩, ⟨ho.a0, rH_le g2⟩, ⟨ho.b0, rH_le g3⟩, ⟨ho.i0, ho.i1⟩⟩
  · cases h3
theorem bkM_of {n : Nat} {x : Bk} (hk : x.Ok) (ho : ∀ o ∈ x.ops, o.Ok) (hy : ∀ o ∈ x.body, o.Ok) (h : ckB x n = 0) : BkM n x := by
  unfold ckB at h
  split at h
  · rename_i h1
    split at h
    · rename_i h2
      split at h
      · rename_i h3
        simp only [endB, Bool.and_eq_true] at h2
        obtain ⟨⟨⟨⟨e1, e2⟩, e3⟩, e4⟩, -⟩ := h2
        simp only [eK, decide_eq_true_eq] at e1
        refine ⟨e1, ⟨hk.a0, rH_le e2⟩, ?_, ?_, fun o h => okM_of (ho o h) (List.all_eq_true.1 h1 o h), fun o h => okM_of (hy o h) (List.all_eq_true.1 h3 o h)⟩
        · unfold bH eT at e3
          split at e3
          · simp at e3; exact ⟨e3.1, fun _ => e3.2⟩
          · rename_i h4; simp at e3 h4; exact ⟨by omega, fun h5 => absurd (h4 e1.1 e1.2) h5⟩
        · unfold bH eE at e4
          split at e4
          · simp at e4; exact ⟨e4.1, fun _ => e4.2⟩
          · rename_i h4; simp at e4 h4; exact ⟨by omega, fun h5 => absurd h5 h4⟩
      · omega
    · omega
  · omega
theorem psM_of {ps : List Bk} (ho : PsOk ps) (h : ckP ps = 0) : PsM ps := by
  unfold ckP at h
  by_cases h1 : 128 < ps.length ∨ 1024 < opsN ps
  · rw [if_pos h1] at h; omega
  · rw [if_neg h1] at h
    by_cases h2 : ps.length = 0
    · rw [if_pos h2] at h; omega
    · rw [if_neg h2] at h
      exact ⟨by omega, by omega, fun x hx => bkM_of (ho x hx).1 (ho x hx).2.1 (ho x hx).2.2 (firstE_all h x hx)⟩
theorem BkM.lst {n : Nat} {x : Bk} (h : BkM n x) {y : Bool} {o : O} (ho : o ∈ Sm.lst x y) : OkM o := by
  unfold Sm.lst at ho
  cases y
  · exact h.o o ho
  · exact h.y o ho
theorem valO_in {ps : List Bk} {M : Ma} (h : Inv ps M) {o : O} (ho : OkM o) : In64 (valO o M) := by
  unfold valO
  repeat' split
  · exact ho.im
  · exact h.m _
  · exact h.r _
  · exact h.r _
  · exact rkV_in _ _ _ (h.r _)
theorem listM_at {ps : List Bk} {M : Ma} (h : M.b < ps.length) : listM ps M = lst ps[M.b] M.y := by
  unfold listM
  rw [List.getElem?_eq_getElem h]
theorem inv_op {ps : List Bk} {M : Ma} (h : Inv ps M) {o : O} (ho : OkM o) (hlt : M.o < (listM ps M).length) : Inv ps { opM o M with s := M.s + 1 } := by
  have hv := valO_in h ho
  unfold opM landO
  have hl : M.o + 1 ≤ (listM ps M).length := hlt
  have hp := h.p
  split
  · exact ⟨h.b, hl, h.r, upd_in h.m _ hv, h.n, h.v, by show M.pr.length ≤ M.s + 1; omega, h.q⟩
  · split
    · exact ⟨h.b, hl, h.r, h.m, h.n, h.v, by simp; omega, fun x hx => by
        rcases List.mem_append.1 hx with hx | hx
        · exact h.q x hx
        · rw [List.mem_singleton.1 hx]; exact hv⟩
    · exact ⟨h.b, hl, upd_in h.r _ hv, h.m, h.n, h.v, by show M.pr.length ≤ M.s + 1; omega, h.q⟩
theorem rnd_in {ps : List Bk} {M : Ma} (h : Inv ps M) (a : Int) : In64 (rndM a M) := by
  unfold rndM
  split
  · exact wrap_in _
  · have := h.r a.toNat
    unfold In64 at *
    omega
theorem inv_to {ps : List Bk} {M : Ma} (h : Inv ps M) {t : Int} (h0 : 0 ≤ t) (h1 : t < ps.length) {n : Int} (hn : In64 n) : Inv ps { toM t { M with n := n } with s := M.s + 1 } := by
  have hp := h.p
  exact ⟨by show t.toNat < _; omega, Nat.zero_le _, h.r, h.m, hn, h.v, by show M.pr.length ≤ M.s + 1; omega, h.q⟩
theorem inv_end {ps : List Bk} {M : Ma} (h : Inv ps M) (hb : BkM ps.length (ps[M.b]'h.b)) : Inv ps { endM (ps[M.b]'h.b) M with s := M.s + 1 } := by
  have hp := h.p
  unfold endM
  split
  · exact inv_to h hb.thn.1 (hb.thn.2 (by omega)) h.n
  · split
    · rename_i h1
      split
      · exact inv_to h hb.els.1 (hb.els.2 h1) h.n
      · exact inv_to h hb.thn.1 (hb.thn.2 (by omega)) h.n
    · split
      · exact ⟨h.b, h.o, h.r, h.m, h.n, h.r _, by show M.pr.length ≤ M.s + 1; omega, h.q⟩
      · rename_i h2
        split
        · exact ⟨h.b, Nat.zero_le _, h.r, h.m, rnd_in h _, h.v, by show M.pr.length ≤ M.s + 1; omega, h.q⟩
        · exact inv_to h hb.thn.1 (hb.thn.2 h2) (rnd_in h _)
theorem next_op {ps : List Bk} {M : Ma} (hb : M.b < ps.length) {o : O} (h : (lst ps[M.b] M.y)[M.o]? = some o) : nextM ps M = opM o M := by
  unfold nextM
  rw [List.getElem?_eq_getElem hb]
  simp only [h]
theorem next_end {ps : List Bk} {M : Ma} (hb : M.b < ps.length) (h : (lst ps[M.b] M.y).length ≤ M.o) : nextM ps M = endM ps[M.b] M := by
  unfold nextM
  rw [List.getElem?_eq_getElem hb]
  simp only [List.getElem?_eq_none h]
theorem inv_step {ps : List Bk} {M : Ma} (hP : PsM ps) (h : Inv ps M) : Inv ps (stepM ps M) := by
  have hb := h.b
  have hk := hP.2.2 _ (List.getElem_mem hb)
  have hl := listM_at hb
  unfold stepM
  rcases Nat.lt_or_ge M.o (lst ps[M.b] M.y).length with hlt | hge
  · rw [next_op hb (List.getElem?_eq_getElem hlt)]
    exact inv_op h (hk.lst (List.getElem_mem hlt)) (by rw [hl]; exact hlt)
  · rw [next_end hb hge]
    exact inv_end h hk
theorem inv_trap {ps : List Bk} {M : Ma} (h : Inv ps M) (e : Int) : Inv ps { M with e := e } := ⟨h.b, h.o, h.r, h.m, h.n, h.v, h.p, h.q⟩
/-- The machine at the beginning. -/
def initM (rs ms : List Int) : Ma := ⟨fun i => (rs[i]?).getD 0, fun i => (ms[i]?).getD 0, 0, false, 0, 0, 100, 0, [], 0⟩
theorem inv_init {ps : List Bk} (hP : PsM ps) {rs ms : List Int} (hr : ∀ x ∈ rs, In64 x) (hm : ∀ x ∈ ms, In64 x) : Inv ps (initM rs ms) := by
  have z : In64 0 := by unfold In64; omega
  have g : ∀ (l : List Int), (∀ x ∈ l, In64 x) → ∀ i : Nat, In64 ((l[i]?).getD 0) := fun l hl i => by
    cases e : l[i]? with
    | none => exact z
    | some x => exact hl x (List.mem_of_getElem? e)
  exact ⟨hP.2.1, Nat.zero_le _, g _ hr, g _ hm, z, z, Nat.le_refl _, fun x hx => by simp [initM] at hx⟩
def memL (M : Ma) : List Int := (List.range 256).map M.m
end Go.Proofs.YtddcndlogoajkaaGreatDoor.L8.Sm
