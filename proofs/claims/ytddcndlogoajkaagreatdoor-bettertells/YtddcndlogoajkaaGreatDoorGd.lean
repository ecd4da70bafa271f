/- What stays of a list (staying): read off the program by the walk. Conditions: the list lies in memory; the set is one of registers. -/
import Derived.Test.YtddcndlogoajkaaGreatDoorFc
import Derived.Great.Walk
import Derived.Deep.MidRow
import Derived.Deep.DeepCutAuto
import Derived.Test.YtddcndlogoajkaaGreatDoorFb
import Derived.Deep.OwnRows
import Derived.Laws.IdiomCopy
import Derived.Shelf.Spec.SlicesInsert
namespace Go.Proofs.YtddcndlogoajkaaGreatDoor.L8.Bt
open Go.ChangeShapes Go.WideShapes Go.ChangeAt Go.RowKit Go.Great
open _root_.Go.Proofs.YtddcndlogoajkaaGreatDoor.L8.Op _root_.Go.Proofs.YtddcndlogoajkaaGreatDoor.L8.So
open _root_.Go.Proofs.YtddcndlogoajkaaGreatDoor.L8.Lv (rdL wOf PsOk)
set_option maxRecDepth 20000

/-- What is known, as cells. -/
def fF (K : Kn) (j : Nat) : Value := if j % 2 = 0 then .bool (K (j / 2)).isSome else .int .i64 ((K (j / 2)).getD 0)
def fA (K : Kn) : Array Value := ((List.range 64).map (fF K)).toArray
theorem fA_get (K : Kn) (j : Nat) (h : j < 64) : (fA K)[j]? = some (fF K j) := by
  unfold fA
  rw [List.getElem?_toArray, List.getElem?_map, List.getElem?_range h]; rfl
theorem fA_len (K : Kn) : (fA K).toList.length = 64 := by simp [fA]
theorem fA_one (K : Kn) : (fA K).all (·.oneCell') = true := by
  unfold fA
  rw [List.all_toArray, List.all_map, List.all_eq_true]
  intro j _
  show (fF K j).oneCell' = true
  unfold fF
  split <;> rfl
theorem fk_range {w : World} {q : Nat} {K : Kn} (h : Fk w q K) : w.rangeAt q 0 (fA K).toList := fun j v hv => by
  have hj : j < 64 := by
    have := (List.getElem?_eq_some_iff.1 hv).1
    rw [fA_len] at this; exact this
  rw [Array.getElem?_toList, fA_get K j hj] at hv
  cases hv
  rw [Nat.zero_add]
  unfold fF
  split
  · have := h.b (j / 2) (by omega)
    rw [show j / 2 * 2 = j by omega] at this
    exact this
  · have := h.n (j / 2) (by omega)
    rw [show j / 2 * 2 + 1 = j by omega] at this
    exact this
theorem info90 : (Tryz.prog.info? 90).map (·.size) = some 64 := by kernel_rfl
/-- The list under way: its first k are folded. -/
def mixL (xs : List O) (k : Nat) : List O := fdL kn0 (xs.take k) ++ xs.drop k
theorem mixL_at (xs : List O) (k : Nat) (hk : k < xs.length) : (mixL xs k)[k]? = some xs[k] := by
  unfold mixL
  rw [List.getElem?_append_right (by rw [fdL_len, List.length_take]; omega), fdL_len, List.length_take, show k - min k xs.length = 0 by omega, List.getElem?_drop]
  simp [List.getElem?_eq_getElem hk]
theorem mixL_next (xs : List O) (k : Nat) (hk : k < xs.length) : mixL xs (k + 1) = (mixL xs k).set k (fdO (fdK kn0 (xs.take k)) xs[k]) := by
  unfold mixL
  rw [fdL_take kn0 xs k hk, List.drop_eq_getElem_cons hk]
  have hl : (fdL kn0 (xs.take k)).length = k := by rw [fdL_len, List.length_take]; omega
  rw [List.append_assoc, List.set_append_right _ _ (by omega)]
  rw [hl, Nat.sub_self]
  rfl
theorem mixL_end (xs : List O) : mixL xs xs.length = fdL kn0 xs := by simp [mixL]
/-- One operation is stored. -/
theorem Ol.put {w : World} {b : Nat} {xs : List O} (h : Ol w b xs) (k : Nat) (o : O) : Ol (((((w.setCell ⟨b, k * 5, none⟩ (.int .i8 o.op)).setCell ⟨b, k * 5 + 1, none⟩ (.int .u8 o.d)).setCell ⟨b, k * 5 + 2, none⟩ (.int .u8 o.a)).setCell ⟨b, k * 5 + 3, none⟩ (.int .u8 o.b)).setCell ⟨b, k * 5 + 4, none⟩ (.int .i64 o.im)) b (xs.set k o) := by
  refine ⟨by simpa using h.lt, fun j => by simp only [World.frozen?_setCell]; exact h.fz j, fun i hi => ?_⟩
  have hi' : i < xs.length := by simpa using hi
  obtain ⟨c0, c1, c2, c3, c4⟩ := h.c i hi'
  by_cases e : k = i
  · subst e
    rw [List.getElem_set_self]
    exact ⟨(co (by omega)).trans ((co (by omega)).trans ((co (by omega)).trans ((co (by omega)).trans (cs c0)))), (co (by omega)).trans ((co (by omega)).trans ((co (by omega)).trans (cs ((co (by omega)).trans c1)))), (co (by omega)).trans ((co (by omega)).trans (cs ((co (by omega)).trans ((co (by omega)).trans c2)))), (co (by omega)).trans (cs ((co (by omega)).trans ((co (by omega)).trans ((co (by omega)).trans c3)))), cs ((co (by omega)).trans ((co (by omega)).trans ((co (by omega)).trans ((co (by omega)).trans c4))))⟩
  · rw [List.getElem_set_ne e]
    have k5 : ∀ j u, j < 5 → w.cell? ⟨b, i * 5 + j, none⟩ = some u → (((((w.setCell ⟨b, k * 5, none⟩ (.int .i8 o.op)).setCell ⟨b, k * 5 + 1, none⟩ (.int .u8 o.d)).setCell ⟨b, k * 5 + 2, none⟩ (.int .u8 o.a)).setCell ⟨b, k * 5 + 3, none⟩ (.int .u8 o.b)).setCell ⟨b, k * 5 + 4, none⟩ (.int .i64 o.im)).cell? ⟨b, i * 5 + j, none⟩ = some u := fun j u hj hc => by
      rw [co (by omega), co (by omega), co (by omega), co (by omega), co (by omega)]; exact hc
    exact ⟨k5 0 _ (by omega) c0, k5 1 _ (by omega) c1, k5 2 _ (by omega) c2, k5 3 _ (by omega) c3, k5 4 _ (by omega) c4⟩
theorem fr_set5 {X : Nat → Prop} {w w' : World} (h : Fr X w w') {b j : Nat} (hb : w.heap.size ≤ b ∨ X b) (v0 v1 v2 v3 v4 : Value) : Fr X w (((((w'.setCell ⟨b, j, none⟩ v0).setCell ⟨b, j + 1, none⟩ v1).setCell ⟨b, j + 2, none⟩ v2).setCell ⟨b, j + 3, none⟩ v3).setCell ⟨b, j + 4, none⟩ v4) :=
  ((((h.setCell hb _ _).setCell hb _ _).setCell hb _ _).setCell hb _ _).setCell hb _ _
theorem regs_small {o : O} (hp : okP o = true) : o.a < 32 ∧ o.b < 32 := by
  have h := hp
  unfold okP at h
  simp only [Bool.and_eq_true, decide_eq_true_eq] at h
  have h2 := h.2
  cases hk : kOf o.op with
  | none => rw [okO_none hk] at h2; cases h2
  | some k =>
    rw [okO_some hk] at h2
    simp only [okF, Bool.and_eq_true] at h2
    have ra : ∀ (r : Int) (c : Bool), rH r c = true → r < 32 := fun r c h => by
      unfold rH at h
      split at h
      · exact of_decide_eq_true h
      · have : r = 0 := by simpa using h
        omega
    exact ⟨ra _ _ h2.1.1.2, ra _ _ h2.1.2⟩
theorem fr_setCells {X : Nat → Prop} {b : Nat} (hb : X b) : ∀ (vs : List Value) (o : Nat) {w0 w : World}, Fr X w0 w → Fr X w0 (w.setCells b o vs)
  | [], _, _, _, h => h
  | v :: r, o, _, _, h => fr_setCells hb r (o + 1) (h.setCell (.inr hb) o v)

theorem below_al {w : World} (o : Obj) : Below w.heap.size w (w.alloc o) := (Below.refl _ _).alloc (Nat.le_refl _) _
/-- The fold under way: z is where memory ended at the call. -/
structure Fs (w wr : World) (b : Nat) (xs : List O) (k : Nat) : Prop where
  o : Ol wr b (mixL xs k)
  k : Fk wr (w.heap.size + 1) (fdK kn0 (xs.take k))
  r : ∀ j : Nat, j < 64 → (wr.cell? ⟨w.heap.size, j, none⟩).isSome = true ∧ wr.frozen? ⟨w.heap.size, j, none⟩ = false
  s : w.heap.size + 2 ≤ wr.heap.size
  f : Fr (One b) w wr
theorem Fs.next {w wr w' : World} {b : Nat} {xs : List O} {k : Nat} (h : Fs w wr b xs k) (hb : Below wr.heap.size wr w') : Fs w w' b xs k :=
  ⟨h.o.below hb, h.k.below hb, fun j hj => by have hs := h.s; rw [(bcell hb).1 _ _ (by omega), (bcell hb).2 _ _ (by omega)]; exact h.r j hj, Nat.le_trans h.s hb.size, h.f.then hb⟩
end Go.Proofs.YtddcndlogoajkaaGreatDoor.L8.Bt
namespace Go.Proofs.YtddcndlogoajkaaGreatDoor.L8.Bt
open Go.ChangeShapes Go.WideShapes Go.ChangeAt Go.RowKit Go.Great
open _root_.Go.Proofs.YtddcndlogoajkaaGreatDoor.L8.Op _root_.Go.Proofs.YtddcndlogoajkaaGreatDoor.L8.So
open _root_.Go.Proofs.YtddcndlogoajkaaGreatDoor.L8.Lv (rdL wOf PsOk)
set_option maxRecDepth 20000

/-- make of a row whose elements have several cells. -/
theorem wpList_make5 (w : World) {ops : Array Oper} {rest : List Oper} {o : Oper} {a : Act} {Q : Exit → Act → World → Prop}
    (hg : o.guard = none) (l c : Operand) (t : TypeId) (hop : o.op = Op.makeSlice t l c)
    (e : TypeId) (i : TypeInfo) (z : Value) (ht : Tryz.prog.underlying t = some (.slice e)) (hi : Tryz.prog.info? e = some i) (hz : i.zero = some z)
    (kl kc : IntKind) (n : Nat) (hl : a.eval l = .int kl (n : Int)) (hc : a.eval c = .int kc (n : Int)) (hbytes : i.bytes * n ≤ 281474976710656) (h63 : n ≤ 9223372036854775807)
    (hK : wpList Tryz.prog ops Q rest (a.put o.dst (.slice (some ⟨w.heap.size, 0, none⟩) n n)) (w.alloc (.cells (madeCells z.cells (n * i.size)) e))) :
    wpList Tryz.prog ops Q (o :: rest) a w := by
  refine wpList_plain hg fun K hK' => ?_
  have hb' : (i.bytes : Int) * (n : Int) ≤ 281474976710656 := by
    have h : ((i.bytes * n : Nat) : Int) ≤ 281474976710656 := by omega
    rwa [Int.natCast_mul] at h
  have hrun := run_make (P := Tryz.prog) w t e i z ht hi hz kl kc n n (by omega) (Int.le_refl _) hb' (by omega)
  simp only [Int.toNat_natCast] at hrun
  unfold Oper.wp
  simp [execOp, hop, hl, hc, hrun, Result.andThen]
  exact hK' _ _ hK
/-- copy of elements of several cells. -/
theorem run_copy_rows (w : World) (dT sT ty elem : TypeId) (b o dLen dCap : Nat) (a : Addr) (sLen sCap m z : Nat) (cs : List Value)
    (hu : Tryz.prog.underlying dT = some (.slice elem)) (hs : (Tryz.prog.info? elem).map (·.size) = some z) (hm : m = Nat.min sLen dLen) (hn : cs.length = m * z)
    (hsrc : ∀ j v, cs[j]? = some v → w.cell? (a.add j) = some v) (hc : ∀ j, j < cs.length → (w.cell? ⟨b, o + j, none⟩).isSome = true) (hf : ∀ j, j < cs.length → w.frozen? ⟨b, o + j, none⟩ = false) (h1 : ∀ v ∈ cs, v.oneCell' = true) :
    (Builtin.copy_ #[dT, sT] ty #[.slice (some ⟨b, o, none⟩) dLen dCap, .slice (some a) sLen sCap]).run Tryz.prog w = .ok (goInt m) (w.setCells b o cs) := by
  have hl := run_loadCells_list (P := Tryz.prog) w a cs hsrc
  have hst := run_storeCells_cells (P := Tryz.prog) b o cs 0 w (by simpa using hc) (by simpa using hf) h1
  rw [hn] at hl
  cases hq : Tryz.prog.info? elem with
  | none => simp [hq] at hs
  | some i =>
    have hi : i.size = z := by simpa [hq] using hs
    simp [Builtin.copy_, run_underlying hu, Builtin.lenOf, Builtin.firstCells, sizeOf, typeInfo, hq, hi, ← hm, hl, hst]
def zO : O := ⟨0, 0, 0, 0, 0⟩
theorem made5 (n : Nat) (j : Nat) (hj : j < n * 5) : (madeCells (Value.agg #[.int .i8 0, .int .u8 0, .int .u8 0, .int .u8 0, .int .i64 0]).cells (n * 5))[j]? = some (if j % 5 = 0 then .int .i8 0 else if j % 5 = 4 then .int .i64 0 else .int .u8 0) := by
  have hc : (Value.agg #[.int .i8 0, .int .u8 0, .int .u8 0, .int .u8 0, .int .i64 0]).cells = #[.int .i8 0, .int .u8 0, .int .u8 0, .int .u8 0, .int .i64 0] := rfl
  rw [hc]
  unfold madeCells
  have h5 : j % 5 < 5 := Nat.mod_lt _ (by omega)
  simp only [Array.getElem?_map, Array.getElem?_range, hj, if_true, Option.map_some]
  have key : ∀ r : Nat, r < 5 → (#[Value.int .i8 0, .int .u8 0, .int .u8 0, .int .u8 0, .int .i64 0] : Array Value)[r]! = (if r = 0 then .int .i8 0 else if r = 4 then .int .i64 0 else .int .u8 0) := fun r hr => by
    match r, hr with
    | 0, _ => rfl
    | 1, _ => rfl
    | 2, _ => rfl
    | 3, _ => rfl
    | 4, _ => rfl
  exact congrArg some (key _ h5)
theorem ol_made (w : World) (n : Nat) (t : TypeId) : Ol (w.alloc (.cells (madeCells (Value.agg #[.int .i8 0, .int .u8 0, .int .u8 0, .int .u8 0, .int .i64 0]).cells (n * 5)) t)) w.heap.size (List.replicate n zO) := by
  have h := Op.At.new w (madeCells (Value.agg #[.int .i8 0, .int .u8 0, .int .u8 0, .int .u8 0, .int .i64 0]).cells (n * 5)) t
  refine ⟨h.lt, h.f, fun i hi => ?_⟩
  rw [List.length_replicate] at hi
  rw [List.getElem_replicate]
  have k : ∀ j v, j < 5 → (if j = 0 then Value.int .i8 0 else if j = 4 then .int .i64 0 else .int .u8 0) = v → (w.alloc (.cells (madeCells (Value.agg #[.int .i8 0, .int .u8 0, .int .u8 0, .int .u8 0, .int .i64 0]).cells (n * 5)) t)).cell? ⟨w.heap.size, i * 5 + j, none⟩ = some v := fun j v hj e => by
    refine h.c _ _ ?_
    rw [made5 n _ (by omega), ← e, show (i * 5 + j) % 5 = j by omega]
  exact ⟨k 0 _ (by omega) rfl, k 1 _ (by omega) rfl, k 2 _ (by omega) rfl, k 3 _ (by omega) rfl, k 4 _ (by omega) rfl⟩
/-- The list that is kept, under way: behind place k all is looked at, f places ahead are still free. -/
structure Ks (w wr : World) (xs : List O) (x k f : Nat) : Prop where
  kl : k ≤ xs.length
  fe : f + (styL (xs.drop k) x).1.length = xs.length
  o : Ol wr w.heap.size (List.replicate f zO ++ (styL (xs.drop k) x).1)
  b : Below w.heap.size w wr
theorem Ks.start (w : World) (xs : List O) (x : Nat) (t : TypeId) : Ks w (w.alloc (.cells (madeCells (Value.agg #[.int .i8 0, .int .u8 0, .int .u8 0, .int .u8 0, .int .i64 0]).cells (xs.length * 5)) t)) xs x xs.length xs.length := by
  have e : xs.drop xs.length = [] := List.drop_length
  refine ⟨Nat.le_refl _, by rw [e]; rfl, ?_, (Below.refl _ _).alloc (Nat.le_refl _) _⟩
  rw [e]
  show Ol _ _ (List.replicate xs.length zO ++ [])
  rw [List.append_nil]
  exact ol_made w _ t
theorem Ks.next {w wr w' : World} {xs : List O} {x k f : Nat} (h : Ks w wr xs x k f) (hb : Below wr.heap.size wr w') : Ks w w' xs x k f := ⟨h.kl, h.fe, h.o.below hb, h.b.trans (hb.mono h.b.size)⟩
theorem Ks.room {w wr : World} {xs : List O} {x k f : Nat} (h : Ks w wr xs x k f) : k ≤ f := by
  have h1 := h.fe
  have h2 := h.kl
  have h3 := (sty_mem (xs.drop k) x).2
  rw [List.length_drop] at h3
  omega
theorem Ks.skip {w wr : World} {xs : List O} {x k f : Nat} (h : Ks w wr xs x (k + 1) f) (hk : k < xs.length) (hd : deadB xs[k] (styL (xs.drop (k + 1)) x).2 = true) : styL (xs.drop k) x = styL (xs.drop (k + 1)) x ∧ Ks w wr xs x k f := by
  have e : styL (xs.drop k) x = styL (xs.drop (k + 1)) x := by
    rw [List.drop_eq_getElem_cons hk]
    show (if deadB xs[k] (styL (xs.drop (k + 1)) x).2 = true then _ else _) = _
    rw [if_pos hd]
  exact ⟨e, by have := h.kl; omega, by rw [e]; exact h.fe, by rw [e]; exact h.o, h.b⟩
theorem Ks.put {w wr : World} {xs : List O} {x k f : Nat} (h : Ks w wr xs x (k + 1) (f + 1)) (hk : k < xs.length) (hd : deadB xs[k] (styL (xs.drop (k + 1)) x).2 = false) : (styL (xs.drop k) x).2 = Lv.aheadN (wOf xs[k]) (styL (xs.drop (k + 1)) x).2 ∧ ∀ o, o = xs[k] → Ks w (((((wr.setCell ⟨w.heap.size, f * 5, none⟩ (.int .i8 o.op)).setCell ⟨w.heap.size, f * 5 + 1, none⟩ (.int .u8 o.d)).setCell ⟨w.heap.size, f * 5 + 2, none⟩ (.int .u8 o.a)).setCell ⟨w.heap.size, f * 5 + 3, none⟩ (.int .u8 o.b)).setCell ⟨w.heap.size, f * 5 + 4, none⟩ (.int .i64 o.im)) xs x k f := by
  have e : styL (xs.drop k) x = (xs[k] :: (styL (xs.drop (k + 1)) x).1, Lv.aheadN (wOf xs[k]) (styL (xs.drop (k + 1)) x).2) := by
    rw [List.drop_eq_getElem_cons hk]
    show (if deadB xs[k] (styL (xs.drop (k + 1)) x).2 = true then _ else _) = _
    rw [if_neg (by rw [hd]; simp)]
  refine ⟨by rw [e], ?_⟩
  rintro o rfl
  have hf := h.fe
  refine ⟨by have := h.kl; omega, by rw [e]; simp only [List.length_cons]; omega, ?_, ((((h.b.setCell (Nat.le_refl _) _).setCell (Nat.le_refl _) _).setCell (Nat.le_refl _) _).setCell (Nat.le_refl _) _).setCell (Nat.le_refl _) _⟩
  have := h.o.put f xs[k]
  rw [e]
  have e2 : (List.replicate (f + 1) zO ++ (styL (xs.drop (k + 1)) x).1).set f xs[k] = List.replicate f zO ++ xs[k] :: (styL (xs.drop (k + 1)) x).1 := by
    rw [List.replicate_succ', List.append_assoc, List.set_append_right _ _ (by simp), List.length_replicate, Nat.sub_self]
    rfl
  rw [e2] at this
  exact this
theorem Ks.free {w wr : World} {xs : List O} {x k f : Nat} (h : Ks w wr xs x k (f + 1)) : OAt wr w.heap.size (f * 5) zO := by
  have := h.o.c f (by rw [List.length_append, List.length_replicate]; omega)
  rw [List.getElem_append_left (by rw [List.length_replicate]; omega), List.getElem_replicate] at this
  exact this
/-- What stays, at the head of a block that was not there. -/
theorem ks_copy {w wr : World} {xs : List O} {x f : Nat} (h : Ks w wr xs x 0 f) (t : TypeId) (a : Addr) (ha : 0 < (styL xs x).1.length → a = ⟨w.heap.size, f * 5, none⟩) (m : Nat) (hm : m = (styL xs x).1.length) (ty : TypeId) (c c' : Nat) :
    (Builtin.copy_ #[46, 46] ty #[.slice (some ⟨wr.heap.size, 0, none⟩) m c, .slice (some a) m c']).run Tryz.prog (wr.alloc (.cells (madeCells (Value.agg #[.int .i8 0, .int .u8 0, .int .u8 0, .int .u8 0, .int .i64 0]).cells (m * 5)) t)) = .ok (goInt m) ((wr.alloc (.cells (madeCells (Value.agg #[.int .i8 0, .int .u8 0, .int .u8 0, .int .u8 0, .int .i64 0]).cells (m * 5)) t)).setCells wr.heap.size 0 (ocells (styL xs x).1)) ∧
    Ol ((wr.alloc (.cells (madeCells (Value.agg #[.int .i8 0, .int .u8 0, .int .u8 0, .int .u8 0, .int .i64 0]).cells (m * 5)) t)).setCells wr.heap.size 0 (ocells (styL xs x).1)) wr.heap.size (styL xs x).1 ∧ Below w.heap.size w ((wr.alloc (.cells (madeCells (Value.agg #[.int .i8 0, .int .u8 0, .int .u8 0, .int .u8 0, .int .i64 0]).cells (m * 5)) t)).setCells wr.heap.size 0 (ocells (styL xs x).1)) := by
  subst hm
  have hb : Below wr.heap.size wr (wr.alloc (.cells (madeCells (Value.agg #[.int .i8 0, .int .u8 0, .int .u8 0, .int .u8 0, .int .i64 0]).cells ((styL xs x).1.length * 5)) t)) := (Below.refl _ _).alloc (Nat.le_refl _) _
  have hm := ol_made wr (styL xs x).1.length t
  have ho := h.o.below hb
  have e0 : xs.drop 0 = xs := rfl
  rw [e0] at ho
  have hl := ocells_len (styL xs x).1
  generalize wr.alloc (.cells (madeCells (Value.agg #[.int .i8 0, .int .u8 0, .int .u8 0, .int .u8 0, .int .i64 0]).cells ((styL xs x).1.length * 5)) t) = W at *
  have hcell : ∀ j, j < (ocells (styL xs x).1).length → (W.cell? ⟨wr.heap.size, 0 + j, none⟩).isSome = true := fun j hj => by
    rw [hl] at hj
    rw [Nat.zero_add]
    have hz : OAt W wr.heap.size (j / 5 * 5) zO := by
      have := hm.c (j / 5) (by rw [List.length_replicate]; omega)
      rw [List.getElem_replicate] at this
      exact this
    obtain ⟨c0, c1, c2, c3, c4⟩ := hz
    have hq : j = j / 5 * 5 + j % 5 := by omega
    have h5 : j % 5 = 0 ∨ j % 5 = 1 ∨ j % 5 = 2 ∨ j % 5 = 3 ∨ j % 5 = 4 := by omega
    generalize j / 5 = q at *
    rcases h5 with h5 | h5 | h5 | h5 | h5
    · obtain rfl : j = q * 5 := by omega
      rw [c0]; rfl
    · obtain rfl : j = q * 5 + 1 := by omega
      rw [c1]; rfl
    · obtain rfl : j = q * 5 + 2 := by omega
      rw [c2]; rfl
    · obtain rfl : j = q * 5 + 3 := by omega
      rw [c3]; rfl
    · obtain rfl : j = q * 5 + 4 := by omega
      rw [c4]; rfl
  refine ⟨?_, ⟨?_, fun j => ?_, fun i hi => ?_⟩, h.b.trans ((hb.trans ((fr_setCells (X := One wr.heap.size) rfl _ _ (Fr.refl _ W)).below hb.size fun k hk q => by have q : k = wr.heap.size := q; omega)).mono h.b.size)⟩
  · refine run_copy_rows W 46 46 ty 51 wr.heap.size 0 _ c a _ c' _ 5 (ocells (styL xs x).1) Tryz.underlying46 (by kernel_rfl) (Nat.min_self _).symm hl (fun j u hu => ?_) hcell (fun j _ => hm.fz _) (ocells_one _)
    have hp : 0 < (styL xs x).1.length := by
      have := (List.getElem?_eq_some_iff.1 hu).1
      omega
    rw [ha hp]
    refine ocells_at _ (fun i hi => ?_) j u hu
    have := ho.c (f + i) (by rw [List.length_append, List.length_replicate]; omega)
    rw [List.getElem_append_right (by rw [List.length_replicate]; omega)] at this
    simp only [List.length_replicate, Nat.add_sub_cancel_left] at this
    rw [show f * 5 + i * 5 = (f + i) * 5 by omega]
    exact this
  · have := (fr_setCells (X := One wr.heap.size) rfl (ocells (styL xs x).1) 0 (Fr.refl _ W)).size
    have := hm.lt
    omega
  · rw [World.frozen?_setCells]; exact hm.fz j
  · obtain ⟨g0, g1, g2, g3, g4⟩ := ocells_get (styL xs x).1 i hi
    have k : ∀ j u, (ocells (styL xs x).1)[j]? = some u → (W.setCells wr.heap.size 0 (ocells (styL xs x).1)).cell? ⟨wr.heap.size, j, none⟩ = some u := fun j u hj => by
      obtain ⟨h1, h2⟩ := List.getElem?_eq_some_iff.1 hj
      have := World.cell?_setCells_in wr.heap.size (ocells (styL xs x).1) 0 W hcell j h1
      rw [Nat.zero_add] at this
      rw [this, h2]
    exact ⟨k _ _ g0, k _ _ g1, k _ _ g2, k _ _ g3, k _ _ g4⟩
theorem infoOp : (Tryz.prog.info? 51).map (fun i => (i.zero, i.size, i.bytes)) = some (some (.agg #[.int .i8 0, .int .u8 0, .int .u8 0, .int .u8 0, .int .i64 0]), 5, 16) := by kernel_rfl
set_option maxHeartbeats 4000000 in
theorem staying_any (ao : Option Addr) (cap : Nat) (xs : List O) (x : Nat) (w : World) (h : OpsAt w ao xs) (hx : x < 4294967296) (hn : xs.length ≤ 8192) :
    Calls Tryz.prog 43 #[.slice ao xs.length cap, .int .u32 x] w fun e w' => ∃ r c, e = .returned (.slice r (styL xs x).1.length c) ∧ Oc w w' r c (styL xs x).1 := by
  obtain ⟨i0, hi, hi2⟩ := Option.map_eq_some_iff.1 infoOp
  simp only [Prod.mk.injEq] at hi2
  obtain ⟨hz0, hz1, hz2⟩ := hi2
  have HI : Hid (Tryz.prog.info? 51 = some i0 ∧ i0.zero = some (.agg #[.int .i8 0, .int .u8 0, .int .u8 0, .int .u8 0, .int .i64 0]) ∧ i0.size = 5 ∧ i0.bytes = 16) := ⟨hi, hz0, hz1, hz2⟩
  have HK0 : Hid (Ks w (w.alloc (.cells (madeCells #[.int .i8 0, .int .u8 0, .int .u8 0, .int .u8 0, .int .i64 0] (xs.length * i0.size)) 51)) xs x xs.length xs.length) := by rw [hz1]; exact Ks.start w xs x 51
  have HO : Hid (OpsAt w ao xs) := h
  have hni : (xs.length : Int) ≤ 8192 := by omega
  have hn0 : (0 : Int) ≤ (xs.length : Int) := by omega
  clear h hi hz0 hz1 hz2
  go_enter Tryz.func43, Tryz.ntmps43
  go_upto_region 3 with (first
    | (at_make; refine wpList_make5 _ rfl _ _ 46 rfl 51 i0 (.agg #[.int .i8 0, .int .u8 0, .int .u8 0, .int .u8 0, .int .i64 0]) Tryz.underlying46 HI.out.1 HI.out.2.1 .i64 .i64 xs.length rfl rfl (by rw [HI.out.2.2.2]; omega) (by omega) ?_))
  generalize w.alloc (.cells (madeCells #[.int .i8 0, .int .u8 0, .int .u8 0, .int .u8 0, .int .i64 0] (xs.length * i0.size)) 51) = W0 at *
  go_wp2_with fail
  go_loopw [1, 6, 7] (fun b g i wr => ∃ k f : Nat, i = .int .i64 ((k : Int) - 1) ∧ g = .int .i64 (f : Int) ∧ b = .int .u32 (((styL (xs.drop k) x).2 : Nat) : Int) ∧ Ks w wr xs x k f) (fun _ _ i _ => (intOf i + 1).toNat)
  case atStart => exact ⟨xs.length, xs.length, by go_num, rfl, by rw [List.drop_length]; rfl, HK0.out⟩
  case round =>
    rename World => wr
    obtain ⟨k, f, rfl, rfl, rfl, hks⟩ := hrel
    have HK : Hid (Ks w wr xs x k f) := hks
    have hkl := hks.kl
    have hkf := hks.room
    have hfe := hks.fe
    clear hks HK0
    cases k with
    | zero =>
      have e0 : xs.drop 0 = xs := rfl
      rw [e0] at hfe ⊢
      have hC : ∀ a m, (0 < (styL xs x).1.length → a = ⟨w.heap.size, f * 5, none⟩) → m = (styL xs x).1.length → Hid (∀ ty c c', (Builtin.copy_ #[46, 46] ty #[.slice (some ⟨wr.heap.size, 0, none⟩) m c, .slice (some a) m c']).run Tryz.prog (wr.alloc (.cells (madeCells #[.int .i8 0, .int .u8 0, .int .u8 0, .int .u8 0, .int .i64 0] (m * i0.size)) 51)) = .ok (.int .i64 (m : Int)) ((wr.alloc (.cells (madeCells #[.int .i8 0, .int .u8 0, .int .u8 0, .int .u8 0, .int .i64 0] (m * i0.size)) 51)).setCells wr.heap.size 0 (ocells (styL xs x).1))) ∧ Hid (Ol ((wr.alloc (.cells (madeCells #[.int .i8 0, .int .u8 0, .int .u8 0, .int .u8 0, .int .i64 0] (m * i0.size)) 51)).setCells wr.heap.size 0 (ocells (styL xs x).1)) wr.heap.size (styL xs x).1 ∧ Below w.heap.size w ((wr.alloc (.cells (madeCells #[.int .i8 0, .int .u8 0, .int .u8 0, .int .u8 0, .int .i64 0] (m * i0.size)) 51)).setCells wr.heap.size 0 (ocells (styL xs x).1)) ∧ w.heap.size ≤ wr.heap.size) := fun a m ha hm => by
        rw [HI.out.2.2.1]
        exact ⟨fun ty c c' => (ks_copy HK.out 51 a ha m hm ty c c').1, (ks_copy HK.out 51 a ha m hm 0 0 0).2.1, (ks_copy HK.out 51 a ha m hm 0 0 0).2.2, HK.out.b.size⟩
      clear hkf hkl HO e0
      generalize (styL xs x).2 = y at *
      generalize hys : (styL xs x).1 = ys at *
      generalize hyl : ys.length = m at *
      have hm0 : (0 : Int) ≤ (m : Int) := by omega
      have hm1 : (m : Int) ≤ 8192 := by omega
      have hf0 : (0 : Int) ≤ (f : Int) := by omega
      have hf1 : (f : Int) ≤ (xs.length : Int) := by omega
      have hsub : (xs.length : Int) - (f : Int) = (m : Int) := by omega
      by_cases hfn : f = xs.length
      · obtain rfl : m = 0 := by omega
        obtain ⟨HC, HF⟩ := hC ⟨w.heap.size, 0, none⟩ 0 (fun q => by omega) rfl
        rw [← hfn] at *
        rw [Nat.zero_mul] at HC HF
        clear hC HK hfe
        go_wp2_with (first
          | (at_make; refine wpList_make5 _ rfl _ _ 46 rfl 51 i0 (.agg #[.int .i8 0, .int .u8 0, .int .u8 0, .int .u8 0, .int .i64 0]) Tryz.underlying46 HI.out.1 HI.out.2.1 .i64 .i64 0 rfl rfl (by rw [HI.out.2.2.2]; omega) (by omega) ?_))
        rw [HC.out]
        go_wp2_with fail
        go_ret
        exact ⟨some ⟨wr.heap.size, 0, none⟩, 0, by rw [hys, hyl]; rfl, by rw [hys]; exact ⟨fun h0 => ⟨wr.heap.size, rfl, HF.out.2.2, HF.out.1⟩, Nat.le_of_eq hyl, HF.out.2.1⟩⟩
      · obtain ⟨HC, HF⟩ := hC ⟨w.heap.size, f * 5, none⟩ m (fun q => rfl) rfl
        have hfn' : (f : Int) < (xs.length : Int) := by omega
        have hfn2 : ¬ xs.length = f := fun q => hfn q.symm
        have hfm : xs.length - f = m := by omega
        clear hC HK hfe
        go_wp2_with (first
          | (at_make; refine wpList_make5 _ rfl _ _ 46 rfl 51 i0 (.agg #[.int .i8 0, .int .u8 0, .int .u8 0, .int .u8 0, .int .i64 0]) Tryz.underlying46 HI.out.1 HI.out.2.1 .i64 .i64 m rfl rfl (by rw [HI.out.2.2.2]; omega) (by omega) ?_))
        rw [HC.out]
        go_wp2_with fail
        go_ret
        exact ⟨some ⟨wr.heap.size, 0, none⟩, m, by rw [hys, hyl]; rfl, by rw [hys]; exact ⟨fun h0 => ⟨wr.heap.size, rfl, HF.out.2.2, HF.out.1⟩, Nat.le_of_eq hyl, HF.out.2.1⟩⟩
    | succ k =>
      have hk : k < xs.length := hkl
      obtain ⟨b, g, rfl, hz, hc⟩ := HO.out.is (by omega)
      obtain ⟨c0, c1, c2, c3, c4⟩ := (hc k hk).below HK.out.b hz
      have hlt : (styL (xs.drop (k + 1)) x).2 < 4294967296 := sty_lt hx fun o ho => HO.out.ok o (List.mem_of_mem_drop ho)
      have hok : xs[k].Ok := HO.out.ok _ (List.getElem_mem hk)
      have HD0 : ∀ W, Calls Tryz.prog 72 #[xs[k].val, .int .u32 (((styL (xs.drop (k + 1)) x).2 : Nat) : Int)] W fun e w' => e = .returned (.bool (deadB xs[k] (styL (xs.drop (k + 1)) x).2)) ∧ Below W.heap.size W w' := fun W => dead_any _ _ W hok hlt
      have HA : Hid (∀ W, Calls Tryz.prog 73 #[xs[k].val, .int .u32 (((styL (xs.drop (k + 1)) x).2 : Nat) : Int)] W fun e w' => e = .returned (.int .u32 (Lv.aheadN (wOf xs[k]) (styL (xs.drop (k + 1)) x).2 : Nat)) ∧ Below W.heap.size W w') := fun W => ahead_any _ _ W hok hlt
      have e1 : ((k + 1 : Nat) : Int) - 1 = (k : Int) := by omega
      rw [e1]
      have i1 : (0 : Int) ≤ (k : Int) := by omega
      have i2 : (k : Int) < (xs.length : Int) := by omega
      have hbw : ¬ b = wr.heap.size := by have := HK.out.b.size; omega
      have hbw' : ¬ wr.heap.size = b := fun q => hbw q.symm
      have hww : ¬ w.heap.size = wr.heap.size := by have := HK.out.o.lt; omega
      have hww' : ¬ wr.heap.size = w.heap.size := fun q => hww q.symm
      cases hdd : deadB xs[k] (styL (xs.drop (k + 1)) x).2 with
      | true =>
        obtain ⟨he, hs⟩ := HK.out.skip hk hdd
        have HS : Hid _ := hs
        rw [hdd] at HD0
        have HD : Hid _ := HD0
        have HE : Hid ((styL (xs.drop k) x).2 = (styL (xs.drop (k + 1)) x).2) := congrArg Prod.snd he
        clear hs he HD0 hdd hc HK HA hlt hok e1 hfe hkf hkl HI
        generalize xs[k] = o at *
        generalize (styL (xs.drop (k + 1)) x).2 = y at *
        obtain ⟨oo, od, oa, ob, oi⟩ := o
        go_wp2_with (first
          | (go_at_call 72; go_loud (refine Calls.mono (HD.out _) ?_; rintro e w2 ⟨rfl, hb⟩; obtain ⟨a1, hb0, hzz⟩ := one_new wr _ _ hb; have HB : Hid (Below wr.heap.size wr w2) := hb0; clear hb hb0 a1 HD c0 c1 c2 c3 c4)))
        go_roundw
        case rel => exact ⟨k, f, by go_num, rfl, by rw [HE.out], HS.out.next HB.out⟩
        case measure => simp [intOf]
      | false =>
        obtain ⟨f, rfl⟩ : ∃ f', f = f' + 1 := ⟨f - 1, by omega⟩
        obtain ⟨he, hs⟩ := HK.out.put hk hdd
        rw [hdd] at HD0
        have HD : Hid _ := HD0
        have HE : Hid _ := he
        have HP : Hid (∀ W, Below wr.heap.size wr W → Ks w W xs x (k + 1) (f + 1) ∧ OAt W w.heap.size (f * 5) zO ∧ (∀ j, W.frozen? ⟨w.heap.size, j, none⟩ = false) ∧ ∀ o, o = xs[k] → Ks w (((((W.setCell ⟨w.heap.size, f * 5, none⟩ (.int .i8 o.op)).setCell ⟨w.heap.size, f * 5 + 1, none⟩ (.int .u8 o.d)).setCell ⟨w.heap.size, f * 5 + 2, none⟩ (.int .u8 o.a)).setCell ⟨w.heap.size, f * 5 + 3, none⟩ (.int .u8 o.b)).setCell ⟨w.heap.size, f * 5 + 4, none⟩ (.int .i64 o.im)) xs x k f) := fun W hb => by
          have h1 := HK.out.next hb
          exact ⟨h1, h1.free, h1.o.fz, (h1.put hk hdd).2⟩
        have ff : ((f + 1 : Nat) : Int) - 1 = (f : Int) := by omega
        have f0 : (0 : Int) ≤ (f : Int) := by omega
        have f1 : (f : Int) < (xs.length : Int) := by omega
        generalize ((f + 1 : Nat) : Int) = F at *
        have hF : F ≤ 8192 := by omega
        have hF0 : 0 ≤ F := by omega
        clear hs he HD0 hdd hc HK hlt hok e1 hfe hkf hkl HI
        generalize xs[k] = o at *
        generalize (styL (xs.drop (k + 1)) x).2 = y at *
        obtain ⟨oo, od, oa, ob, oi⟩ := o
        go_wp2_with (first
          | (go_at_call 72; go_loud (refine Calls.mono (HD.out _) ?_; rintro e w2 ⟨rfl, hb⟩; obtain ⟨a1, hb0, hzz⟩ := one_new wr _ _ hb; have o0 := a1.c 0 _ rfl; have o1 := a1.c 1 _ rfl; have o2 := a1.c 2 _ rfl; have o3 := a1.c 3 _ rfl; have o4 := a1.c 4 _ rfl; have HB : Hid (Below wr.heap.size wr w2) := hb0; have HQ : Hid _ := HP.out w2 hb0; obtain ⟨d0, d1, d2, d3, d4⟩ := HQ.out.2.1; have g0 := HQ.out.2.2.1 (f * 5); have g1 := HQ.out.2.2.1 (f * 5 + 1); have g2 := HQ.out.2.2.1 (f * 5 + 2); have g3 := HQ.out.2.2.1 (f * 5 + 3); have g4 := HQ.out.2.2.1 (f * 5 + 4); clear hb hb0 a1 HD HP c0 c1 c2 c3 c4))
          | (go_at_call 73; go_loud (refine Calls.mono (HA.out _) ?_; rintro e w4 ⟨rfl, hb⟩; have HS : Hid (Ks w w4 xs x k f) := (HQ.out.2.2.2 _ rfl).next hb; clear hb HA)))
        go_roundw
        case rel => exact ⟨k, f, by go_num, by go_num, by rw [HE.out], HS.out⟩
        case measure => simp [intOf]
end Go.Proofs.YtddcndlogoajkaaGreatDoor.L8.Bt
