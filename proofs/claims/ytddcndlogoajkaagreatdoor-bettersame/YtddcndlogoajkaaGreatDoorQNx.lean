/- Two machines side by side: what turns one leaves the other. Conditions: none. -/
import Derived.Test.YtddcndlogoajkaaGreatDoorQNo
import Derived.Test.YtddcndlogoajkaaGreatDoorQNm
import Derived.Shelf.Spec.SlicesInsert
import Derived.Great.BuildSlice
import Derived.Great.Ranges
namespace Go.Proofs.YtddcndlogoajkaaGreatDoor.L8.Sm
open Go.ChangeShapes Go.WideShapes Go.ChangeAt Go.RowKit Go.Great
open _root_.Go.Proofs.YtddcndlogoajkaaGreatDoor.L8.Op _root_.Go.Proofs.YtddcndlogoajkaaGreatDoor.L8.So
set_option maxRecDepth 20000

theorem dd : ∀ i : Nat, i < 36 → dF 15 i = deedF i
  | 0, _ => rfl
  | 1, _ => rfl
  | 2, _ => rfl
  | 3, _ => rfl
  | 4, _ => rfl
  | 5, _ => rfl
  | 6, _ => rfl
  | 7, _ => rfl
  | 8, _ => rfl
  | 9, _ => rfl
  | 10, _ => rfl
  | 11, _ => rfl
  | 12, _ => rfl
  | 13, _ => rfl
  | 14, _ => rfl
  | 15, _ => rfl
  | 16, _ => rfl
  | 17, _ => rfl
  | 18, _ => rfl
  | 19, _ => rfl
  | 20, _ => rfl
  | 21, _ => rfl
  | 22, _ => rfl
  | 23, _ => rfl
  | 24, _ => rfl
  | 25, _ => rfl
  | 26, _ => rfl
  | 27, _ => rfl
  | 28, _ => rfl
  | 29, _ => rfl
  | 30, _ => rfl
  | 31, _ => rfl
  | 32, _ => rfl
  | 33, _ => rfl
  | 34, _ => rfl
  | 35, _ => rfl
  | _ + 36, h => absurd h (by omega)
theorem de : ∀ i : Nat, i < 4 → dF 15 (36 + i) = fnV (57 + i)
  | 0, _ => rfl
  | 1, _ => rfl
  | 2, _ => rfl
  | 3, _ => rfl
  | _ + 4, h => absurd h (by omega)
/-- What a new machine's cells hold. -/
def mzF (r : Option Addr) (n c j : Nat) : Value := if j < 1 then .slice r n c else if j < 41 then dF 15 (j - 1) else if j < 330 then .int .i64 0 else if j < 331 then .bool false else if j < 333 then .int .i64 0 else if j < 334 then .int .i64 100 else if j < 335 then .int .i64 0 else if j < 336 then .slice none 0 0 else .int .i64 0
def mz (r : Option Addr) (n c : Nat) : Array Value := ((List.range 337).map (mzF r n c)).toArray
theorem mz_get (r : Option Addr) (n c j : Nat) (h : j < 337) : (mz r n c)[j]? = some (mzF r n c j) := by
  unfold mz
  rw [List.getElem?_toArray, List.getElem?_map, List.getElem?_range h]; rfl
theorem mz_cell (w : World) (r : Option Addr) (n c j : Nat) (h : j < 337) : (w.alloc (.cells (mz r n c) 83)).cell? ⟨w.heap.size, j, none⟩ = some (mzF r n c j) := by
  have e : (w.alloc (.cells (mz r n c) 83)).cell? ⟨w.heap.size, j, none⟩ = (mz r n c)[j]? := by simp
  rw [e, mz_get r n c j h]
theorem mat_new (w : World) (r : Option Addr) (n c : Nat) : MAt (w.alloc (.cells (mz r n c) 83)) w.heap.size r n c none 0 (initM [] []) := by
  have k := fun j h => mz_cell w r n c j h
  refine ⟨by simp, fun j => by simp, (k 0 (by omega)).trans rfl, (k 329 (by omega)).trans rfl, (k 330 (by omega)).trans rfl, (k 331 (by omega)).trans rfl, (k 332 (by omega)).trans rfl, (k 333 (by omega)).trans rfl, (k 334 (by omega)).trans rfl, (k 335 (by omega)).trans rfl, (k 336 (by omega)).trans rfl, fun i hi => ?_, fun i hi => ?_, fun i hi => ?_, fun i hi => ?_, fun j hj => ?_⟩
  · rw [k _ (by omega)]; unfold mzF; rw [if_neg (by omega), if_neg (by omega), if_pos (by omega)]; rfl
  · rw [k _ (by omega)]; unfold mzF; rw [if_neg (by omega), if_neg (by omega), if_pos (by omega)]; rfl
  · rw [k _ (by omega)]; unfold mzF; rw [if_neg (by omega), if_pos (by omega), show 1 + i - 1 = i by omega, dd i hi]
  · rw [k _ (by omega)]; unfold mzF; rw [if_neg (by omega), if_pos (by omega), show 37 + i - 1 = 36 + i by omega, de i hi]
  · have e1 : (w.alloc (.cells (mz r n c) 83)).cell? ⟨w.heap.size, j, none⟩ = (mz r n c)[j]? := by simp
    rw [e1, Array.getElem?_eq_none (by simp [mz]; omega)]
theorem setR {w : World} {q bl bc pc : Nat} {ba po : Option Addr} {M : Ma} (h : MAt w q ba bl bc po pc M) (l : List Int) (hl : l.length ≤ 32) : MAt (w.setCells q 41 (nums l)) q ba bl bc po pc { M with r := fun i => (l[i]?).getD (M.r i) } := by
  have hn : (nums l).length = l.length := by simp [nums]
  have hin := World.cell?_setCells_in q (nums l) 41 w (fun j hj => by rw [h.r j (by omega)]; rfl)
  have out : ∀ j, (j < 41 ∨ 41 + l.length ≤ j) → (w.setCells q 41 (nums l)).cell? ⟨q, j, none⟩ = w.cell? ⟨q, j, none⟩ := fun j hj => World.cell?_setCells_out q (nums l) 41 w ⟨q, j, none⟩ (fun _ _ => by rw [hn]; exact hj)
  refine ⟨by rw [size_setCells]; exact h.lt, fun j => by rw [World.frozen?_setCells]; exact h.fz j, (out _ (by omega)).trans h.bk, (out _ (by omega)).trans h.b, (out _ (by omega)).trans h.y, (out _ (by omega)).trans h.o, (out _ (by omega)).trans h.n, (out _ (by omega)).trans h.e, (out _ (by omega)).trans h.v, (out _ (by omega)).trans h.p, (out _ (by omega)).trans h.s, fun i hi => ?_, fun i hi => (out _ (by omega)).trans (h.m i hi), fun i hi => (out _ (by omega)).trans (h.d i hi), fun i hi => (out _ (by omega)).trans (h.en i hi), fun j hj => (out _ (by omega)).trans (h.hi j hj)⟩
  rcases Nat.lt_or_ge i l.length with h1 | h1
  · rw [hin i (by omega)]
    have := nums_get l i h1
    rw [List.getElem?_eq_getElem (by omega)] at this
    rw [this]
    show _ = some (Value.int .i64 ((l[i]?).getD (M.r i)))
    rw [List.getElem?_eq_getElem h1]; rfl
  · rw [out _ (by omega), h.r i hi]
    show _ = some (Value.int .i64 ((l[i]?).getD (M.r i)))
    rw [List.getElem?_eq_none h1]; rfl
theorem setM {w : World} {q bl bc pc : Nat} {ba po : Option Addr} {M : Ma} (h : MAt w q ba bl bc po pc M) (l : List Int) (hl : l.length ≤ 256) : MAt (w.setCells q 73 (nums l)) q ba bl bc po pc { M with m := fun i => (l[i]?).getD (M.m i) } := by
  have hn : (nums l).length = l.length := by simp [nums]
  have hin := World.cell?_setCells_in q (nums l) 73 w (fun j hj => by rw [h.m j (by omega)]; rfl)
  have out : ∀ j, (j < 73 ∨ 73 + l.length ≤ j) → (w.setCells q 73 (nums l)).cell? ⟨q, j, none⟩ = w.cell? ⟨q, j, none⟩ := fun j hj => World.cell?_setCells_out q (nums l) 73 w ⟨q, j, none⟩ (fun _ _ => by rw [hn]; exact hj)
  refine ⟨by rw [size_setCells]; exact h.lt, fun j => by rw [World.frozen?_setCells]; exact h.fz j, (out _ (by omega)).trans h.bk, (out _ (by omega)).trans h.b, (out _ (by omega)).trans h.y, (out _ (by omega)).trans h.o, (out _ (by omega)).trans h.n, (out _ (by omega)).trans h.e, (out _ (by omega)).trans h.v, (out _ (by omega)).trans h.p, (out _ (by omega)).trans h.s, fun i hi => (out _ (by omega)).trans (h.r i hi), fun i hi => ?_, fun i hi => (out _ (by omega)).trans (h.d i hi), fun i hi => (out _ (by omega)).trans (h.en i hi), fun j hj => (out _ (by omega)).trans (h.hi j hj)⟩
  rcases Nat.lt_or_ge i l.length with h1 | h1
  · rw [hin i (by omega)]
    have := nums_get l i h1
    rw [List.getElem?_eq_getElem (by omega)] at this
    rw [this]
    show _ = some (Value.int .i64 ((l[i]?).getD (M.m i)))
    rw [List.getElem?_eq_getElem h1]; rfl
  · rw [out _ (by omega), h.m i hi]
    show _ = some (Value.int .i64 ((l[i]?).getD (M.m i)))
    rw [List.getElem?_eq_none h1]; rfl
theorem le_sum : ∀ (l : List Nat) (x : Nat), x ∈ l → x ≤ l.sum
  | [], x, h => by simp at h
  | y :: r, x, h => by
    rcases List.mem_cons.1 h with rfl | h
    · simp
    · have := le_sum r x h
      simp; omega
theorem len_of {ps : List Bk} (h : ckP ps = 0) : ∀ x ∈ ps, x.ops.length ≤ 8192 ∧ x.body.length ≤ 8192 := fun x hx => by
  have h1 : opsN ps ≤ 1024 := by
    unfold ckP at h
    by_cases h1 : 128 < ps.length ∨ 1024 < opsN ps
    · rw [if_pos h1] at h; omega
    · omega
  have h2 : bkN x ≤ sumTo ps ps.length := by
    unfold sumTo
    rw [List.take_length]
    exact le_sum _ _ (List.mem_map_of_mem hx)
  unfold opsN at h1
  unfold bkN at h2
  omega
theorem copy_nil (b o n c rc : Nat) (ty : TypeId) (w : World) : (Builtin.copy_ #[33, 33] ty #[.slice (some ⟨b, o, none⟩) n c, .slice none 0 rc]).run Tryz.prog w = .ok (goInt 0) w := by
  exact run_copy_none (P := Tryz.prog) w 33 33 ty 2 (some ⟨b, o, none⟩) none n c 0 rc Tryz.underlying33 (by kernel_rfl) (by simp)
theorem copy_any (b o n c rc : Nat) (ty : TypeId) (ao : Option Addr) (l : List Int) (w : World) (hl : l.length ≤ n) (h : NL w ao l) (hc : ∀ j, j < l.length → (w.cell? ⟨b, o + j, none⟩).isSome = true) (hf : ∀ j, w.frozen? ⟨b, o + j, none⟩ = false) : (Builtin.copy_ #[33, 33] ty #[.slice (some ⟨b, o, none⟩) n c, .slice ao l.length rc]).run Tryz.prog w = .ok (goInt l.length) (w.setCells b o (nums l)) := by
  have hn : (nums l).length = l.length := by simp [nums]
  have key : ∀ a : Addr, ao = some a → (∀ j u, (nums l)[j]? = some u → w.cell? (a.add j) = some u) → (Builtin.copy_ #[33, 33] ty #[.slice (some ⟨b, o, none⟩) n c, .slice ao l.length rc]).run Tryz.prog w = .ok (goInt l.length) (w.setCells b o (nums l)) := fun a e hs => by
    subst e
    have := run_copy_cells (P := Tryz.prog) w 33 33 ty 2 b o n c a l.length rc (nums l) Tryz.underlying33 (by kernel_rfl) (by rw [hn]; exact (Nat.min_eq_left hl).symm) hs (fun j hj => hc j (by omega)) (fun j _ => hf j) (nums_one l)
    rw [hn] at this; exact this
  rcases Nat.eq_zero_or_pos l.length with h0 | h0
  · obtain rfl : l = [] := List.eq_nil_of_length_eq_zero h0
    cases ao with
    | none => exact copy_nil b o n c rc ty w
    | some a => exact key a rfl fun j u hu => by simp [nums] at hu
  · obtain ⟨b', f', e, _, hx⟩ := h.is h0
    exact key _ e (nl_cells hx)
/-- A state in memory. -/
structure Sn (w : World) (ra ma : Option Addr) (rs ms : List Int) : Prop where
  r : NL w ra rs
  m : NL w ma ms
theorem Sn.up {w w' : World} {ra ma : Option Addr} {rs ms : List Int} (h : Sn w ra ma rs ms) (hb : Below w.heap.size w w') : Sn w' ra ma rs ms := ⟨h.r.up hb, h.m.up hb⟩
/-- A block without a kind. -/
def NoK (w : World) (q : Nat) : Prop := ∀ (j : Nat) (i : Int), w.cell? ⟨q, j, none⟩ ≠ some (.int .i8 i)
theorem dF_no (i : Nat) (h : i < 40) (k : Int) : dF 15 i ≠ .int .i8 k := fun e => by
  rcases Nat.lt_or_ge i 36 with h' | h'
  · rw [dd i h'] at e
    unfold deedF at e
    (repeat' split at e) <;> cases e
  · obtain ⟨j, rfl⟩ : ∃ j, i = 36 + j := ⟨i - 36, by omega⟩
    rw [de j (by omega)] at e
    cases e
theorem nok_new (w : World) (r : Option Addr) (n c : Nat) : NoK (w.alloc (.cells (mz r n c) 83)).drew w.heap.size := fun j i e => by
  have e0 : (w.alloc (.cells (mz r n c) 83)).cell? ⟨w.heap.size, j, none⟩ = some (.int .i8 i) := e
  rcases Nat.lt_or_ge j 337 with hj | hj
  · rw [mz_cell w r n c j hj] at e0
    unfold mzF at e0
    (repeat' split at e0) <;> first | (injection e0 with e0; exact dF_no _ (by omega) _ e0) | (injection e0 with e0; cases e0)
  · have e1 : (w.alloc (.cells (mz r n c) 83)).cell? ⟨w.heap.size, j, none⟩ = (mz r n c)[j]? := by simp
    rw [e1, Array.getElem?_eq_none (by simp [mz]; omega)] at e0
    cases e0
theorem nok_r {w : World} {q bl bc pc : Nat} {ba po : Option Addr} {M : Ma} (h : MAt w q ba bl bc po pc M) (hk : NoK w q) (l : List Int) (hl : l.length ≤ 32) : NoK (w.setCells q 41 (nums l)) q := fun j i e => by
  have hn : (nums l).length = l.length := by simp [nums]
  have hin := World.cell?_setCells_in q (nums l) 41 w (fun j hj => by rw [h.r j (by omega)]; rfl)
  have out : ∀ j, (j < 41 ∨ 41 + l.length ≤ j) → (w.setCells q 41 (nums l)).cell? ⟨q, j, none⟩ = w.cell? ⟨q, j, none⟩ := fun j hj => World.cell?_setCells_out q (nums l) 41 w ⟨q, j, none⟩ (fun _ _ => by rw [hn]; exact hj)
  by_cases hj : j < 41 ∨ 41 + l.length ≤ j
  · rw [out j hj] at e; exact hk j i e
  · obtain ⟨m, rfl⟩ : ∃ m, j = 41 + m := ⟨j - 41, by omega⟩
    rw [hin m (by omega)] at e
    have := nums_get l m (by omega)
    rw [List.getElem?_eq_getElem (by omega)] at this
    rw [this] at e
    injection e with e; cases e
theorem nok_m {w : World} {q bl bc pc : Nat} {ba po : Option Addr} {M : Ma} (h : MAt w q ba bl bc po pc M) (hk : NoK w q) (l : List Int) (hl : l.length ≤ 256) : NoK (w.setCells q 73 (nums l)) q := fun j i e => by
  have hn : (nums l).length = l.length := by simp [nums]
  have hin := World.cell?_setCells_in q (nums l) 73 w (fun j hj => by rw [h.m j (by omega)]; rfl)
  have out : ∀ j, (j < 73 ∨ 73 + l.length ≤ j) → (w.setCells q 73 (nums l)).cell? ⟨q, j, none⟩ = w.cell? ⟨q, j, none⟩ := fun j hj => World.cell?_setCells_out q (nums l) 73 w ⟨q, j, none⟩ (fun _ _ => by rw [hn]; exact hj)
  by_cases hj : j < 73 ∨ 73 + l.length ≤ j
  · rw [out j hj] at e; exact hk j i e
  · obtain ⟨m, rfl⟩ : ∃ m, j = 73 + m := ⟨j - 73, by omega⟩
    rw [hin m (by omega)] at e
    have := nums_get l m (by omega)
    rw [List.getElem?_eq_getElem (by omega)] at this
    rw [this] at e
    injection e with e; cases e
/-- What New leaves, in all its words: the machine may turn its own block alone. -/
def NewPost' (w : World) (ps : List Bk) (rs ms : List Int) (e : Ending) (w' : World) : Prop := ∃ q, e = .returned (.tuple #[ptr q, .int .i64 0]) ∧ MM w' q ps (One q) (initM rs ms) ∧ Below w.heap.size w w' ∧ w.heap.size ≤ q ∧ NoK w' q
/-- The boxes of New's arguments. -/
structure Bx (w W : World) (ao : Option Addr) (n cap : Nat) (ra ma : Option Addr) (rl rc ml mc : Nat) : Prop where
  p : Op.At W w.heap.size #[.slice ao n cap]
  s : Op.At W (w.heap.size + 1) #[.slice ra rl rc, .slice ma ml mc]
  b : Below w.heap.size w W
theorem Bx.up {w W W' : World} {ao ra ma : Option Addr} {n cap rl rc ml mc : Nat} (h : Bx w W ao n cap ra ma rl rc ml mc) (hb : Below W.heap.size W W') : Bx w W' ao n cap ra ma rl rc ml mc := ⟨h.p.below hb h.p.lt, h.s.below hb h.s.lt, h.b.trans (hb.mono h.b.size)⟩
theorem Bx.fr {w W W' : World} {ao ra ma : Option Addr} {n cap rl rc ml mc q : Nat} (h : Bx w W ao n cap ra ma rl rc ml mc) (hF : Fr (One q) W W') (hq : w.heap.size + 1 < q) : Bx w W' ao n cap ra ma rl rc ml mc := by
  have k : ∀ {b : Nat} {cs : Array Value}, Op.At W b cs → b < q → Op.At W' b cs := fun {b cs} ha hb => ⟨fun j v e => (hF.cell ha.lt (fun e => by have e : b = q := e; omega) j).trans (ha.c j v e), fun j => (hF.frozen ha.lt (fun e => by have e : b = q := e; omega) j).trans (ha.f j), Nat.lt_of_lt_of_le ha.lt hF.size⟩
  exact ⟨k h.p (by omega), k h.s hq, h.b.trans (hF.below h.b.size fun k hk e => by have e : k = q := e; omega)⟩
set_option maxHeartbeats 4000000 in
theorem new_ok' (ao ra ma : Option Addr) (cap rc mc : Nat) (ps : List Bk) (rs ms : List Int) (w : World) (h : PAt w ao ps) (he : Env w) (hc : ckP ps = 0) (hs : Sn w ra ma rs ms) (h32 : rs.length ≤ 32) (h256 : ms.length ≤ 256) (hr : ∀ x ∈ rs, In64 x) (hm : ∀ x ∈ ms, In64 x) :
    Calls Tryz.prog 16 #[.agg #[.slice ao ps.length cap], .agg #[.slice ra rs.length rc, .slice ma ms.length mc]] w (NewPost' w ps rs ms) := by
  have hP := psM_of (psOk_of h) hc
  have HCk : Hid (∀ W, Below w.heap.size w W → Calls Tryz.prog 14 #[.agg #[.slice ao ps.length cap]] W fun e w' => e = .returned (.int .i64 0) ∧ Below W.heap.size W w') := fun W hb => by
    have := checkP_any ao cap ps W (h.below hb) (he.up hb)
    rw [hc] at this; exact this
  have hlen : ∀ x ∈ ps, x.ops.length ≤ 8192 ∧ x.body.length ≤ 8192 := len_of hc
  have HCp : Hid (∀ W, Below w.heap.size w W → Calls Tryz.prog 29 #[.slice ao ps.length cap] W fun e w' => ∃ r c, e = .returned (.slice r ps.length c) ∧ PAt w' r ps ∧ Below W.heap.size W w') := fun W hb => copied_any ao cap ps W (h.below hb) hP.2.1 hP.1 hlen
  have HPs : Hid (PsM ps ∧ Inv ps (initM rs ms)) := ⟨hP, inv_init hP hr hm⟩
  have HSn : Hid (Sn w ra ma rs ms) := hs
  have H32 : Hid (rs.length ≤ 32 ∧ ms.length ≤ 256) := ⟨h32, h256⟩
  have hi32 : ¬ (32 : Int) < (rs.length : Int) := by omega
  have hi256 : ¬ (256 : Int) < (ms.length : Int) := by omega
  have HB0 : Hid (Bx w ((w.alloc (.cells #[.slice ao ps.length cap] 24)).alloc (.cells #[.slice ra rs.length rc, .slice ma ms.length mc] 35)) ao ps.length cap ra ma rs.length rc ms.length mc) := by
    obtain ⟨a1, a2, hb, -, -⟩ := two_new w #[.slice ao ps.length cap] #[.slice ra rs.length rc, .slice ma ms.length mc] 24 35 (Below.refl _ _)
    exact ⟨a1, a2, hb⟩
  have HCr : Hid (∀ (ty : TypeId) (q : Nat) (W : World), NL W ra rs → (∀ j, j < rs.length → (W.cell? ⟨q, 41 + j, none⟩).isSome = true) → (∀ j, W.frozen? ⟨q, 41 + j, none⟩ = false) → (Builtin.copy_ #[33, 33] ty #[.slice (some ⟨q, 41, none⟩) 32 32, .slice ra rs.length rc]).run Tryz.prog W = .ok (goInt rs.length) (W.setCells q 41 (nums rs))) := fun ty q W h1 h2 h3 => copy_any q 41 32 32 rc ty ra rs W h32 h1 h2 h3
  have HCm : Hid (∀ (ty : TypeId) (q : Nat) (W : World), NL W ma ms → (∀ j, j < ms.length → (W.cell? ⟨q, 73 + j, none⟩).isSome = true) → (∀ j, W.frozen? ⟨q, 73 + j, none⟩ = false) → (Builtin.copy_ #[33, 33] ty #[.slice (some ⟨q, 73, none⟩) 256 256, .slice ma ms.length mc]).run Tryz.prog W = .ok (goInt ms.length) (W.setCells q 73 (nums ms))) := fun ty q W h1 h2 h3 => copy_any q 73 256 256 mc ty ma ms W h256 h1 h2 h3
  have HsR : Hid (∀ {w q ba bl bc po pc M}, MAt w q ba bl bc po pc M → MAt (w.setCells q 41 (nums rs)) q ba bl bc po pc { M with r := fun i => (rs[i]?).getD (M.r i) }) := fun {w q ba bl bc po pc M} h' => setR h' rs h32
  have HkR : Hid (∀ {w q ba bl bc po pc M}, MAt w q ba bl bc po pc M → NoK w q → NoK (w.setCells q 41 (nums rs)) q) := fun {w q ba bl bc po pc M} h' hk => nok_r h' hk rs h32
  have HkM : Hid (∀ {w q ba bl bc po pc M}, MAt w q ba bl bc po pc M → NoK w q → NoK (w.setCells q 73 (nums ms)) q) := fun {w q ba bl bc po pc M} h' hk => nok_m h' hk ms h256
  have HsM : Hid (∀ {w q ba bl bc po pc M}, MAt w q ba bl bc po pc M → MAt (w.setCells q 73 (nums ms)) q ba bl bc po pc { M with m := fun i => (ms[i]?).getD (M.m i) }) := fun {w q ba bl bc po pc M} h' => setM h' ms h256
  clear h he hc hs h32 h256 hr hm hP hlen
  generalize rs.length = rl at *
  generalize ms.length = ml at *
  go_enter Tryz.func16, Tryz.ntmps16
  go_upto_region 6 with (first | (go_at_call 14; refine Calls.mono (HCk.out _ (by go_grown)) ?_; rintro e w1 ⟨rfl, hb⟩; have HB1 : Hid (Bx w w1 ao ps.length cap ra ma rl rc ml mc) := (HB0.out.up hb); have p0 := HB1.out.p.c 0 _ rfl; have s0 := HB1.out.s.c 0 _ rfl; have s1 := HB1.out.s.c 1 _ rfl; have pl := HB1.out.p.lt; have sl := HB1.out.s.lt; clear hb HB0 HCk))
  rename_i K6 hK6
  apply wp_region_lit
  refine wpList_plain rfl (fun K hK => ?_)
  go_simp
  refine hK _ _ ?_
  clear hK K
  refine wpList_plain rfl (fun K hK => ?_)
  go_simp
  refine hK _ _ ?_
  clear hK K
  refine wpList_plain rfl (fun K hK => ?_)
  go_simp
  refine Calls.mono (HCp.out _ HB1.out.b) ?_
  rintro e w2 ⟨r, c, rfl, hp2, hb2⟩
  have HB2 : Hid (Bx w w2 ao ps.length cap ra ma rl rc ml mc ∧ PAt w2 r ps) := ⟨HB1.out.up hb2, hp2⟩
  clear hb2 hp2 HB1 p0 s0 s1 pl sl
  refine hK _ _ ?_
  clear hK K
  refine wpList_plain rfl (fun K hK => ?_)
  go_simp
  refine Calls.mono (deeds_any _) ?_
  rintro e w3 ⟨rfl, hb3⟩
  have HB3 : Hid (Bx w w3 ao ps.length cap ra ma rl rc ml mc ∧ PAt w3 r ps) := ⟨HB2.out.1.up hb3, HB2.out.2.below hb3⟩
  clear hb3 HB2
  refine hK _ _ ?_
  clear hK K
  refine wpList_buildTo rfl 83 _ rfl (some 27) rfl (mz r ps.length c) (by kernel_rfl) ?_
  refine wpList_boxTo rfl 83 (.tmp 27) rfl (some 28) rfl w3.heap.size rfl (mz r ps.length c) (by kernel_rfl) ?_
  refine wpList_readTo rfl (some 7) rfl (ptr w3.heap.size) (by kernel_rfl) ?_
  refine wpList_nil ?_
  refine hK6 _ _ ?_
  clear hK6 K6
  have HQ : Hid (w.heap.size + 1 < w3.heap.size) := HB3.out.1.s.lt
  have HXR : Hid (Bx w (w3.alloc (.cells (mz r ps.length c) 83)).drew ao ps.length cap ra ma rl rc ml mc ∧ MAt (w3.alloc (.cells (mz r ps.length c) 83)).drew w3.heap.size r ps.length c none 0 (initM [] []) ∧ PIn (w3.alloc (.cells (mz r ps.length c) 83)).drew (fun k => One w3.heap.size k ∨ w3.heap.size ≤ k) r ps ∧ NoK (w3.alloc (.cells (mz r ps.length c) 83)).drew w3.heap.size) := ⟨HB3.out.1.up (below_ad _ _), (mat_new w3 r ps.length c).up (drew_up _), (pin_of HB3.out.2 (fun k hk e => e.elim (fun e => by have e : k = w3.heap.size := e; omega) fun e => by omega)).fr (Fr.of (below_ad _ _)), nok_new w3 r ps.length c⟩
  clear HB3
  generalize mz r ps.length c = mzz at *
  generalize w3.alloc (.cells mzz 83) = X at *
  generalize w3.heap.size = q at *
  simp only [Act.put, List.setIfInBounds_toArray, List.set_cons_zero, List.set_cons_succ]
  apply wp_seq_k; intro K7 hK7
  refine wp_region_held_drew (S := fun W => W.cell? ⟨w.heap.size + 1, 0, none⟩ = some (.slice ra rl rc)) (by kernel_rfl) (HXR.out.1.s.c 0 _ rfl) (fun hHeld => ?_)
  refine wpAnyH_take (i := 0) (v := ptr q) rfl (by kernel_rfl) (by kernel_rfl) (by kernel_rfl) (fun _ _ _ h => h) (Or.inl ⟨by rfl, fun w' hSw => by (go_simp)⟩) hHeld ?_
  simp only [Act.put, List.setIfInBounds_toArray, List.set_cons_zero, List.set_cons_succ, List.getElem_cons_zero, List.getElem_toArray]
  refine wpAnyH_take (i := 1) (v := ptr q) rfl (by kernel_rfl) (by kernel_rfl) (by kernel_rfl) (fun _ _ _ h => h) (Or.inl ⟨by rfl, fun w' hSw => by (go_simp)⟩) hHeld ?_
  simp only [Act.put, List.setIfInBounds_toArray, List.set_cons_zero, List.set_cons_succ, List.getElem_cons_zero, List.getElem_cons_succ, List.getElem_toArray]
  refine wpAnyH_take (i := 2) (v := .pointer (some ⟨q, 41, none⟩)) rfl (by kernel_rfl) (by kernel_rfl) (by kernel_rfl) (fun _ _ _ h => h) (Or.inl ⟨by rfl, fun w' hSw => by (go_simp)⟩) hHeld ?_
  simp only [Act.put, List.setIfInBounds_toArray, List.set_cons_zero, List.set_cons_succ, List.getElem_cons_zero, List.getElem_cons_succ, List.getElem_toArray]
  refine wpAnyH_take (i := 3) (v := .slice (some ⟨q, 41, none⟩) 32 32) rfl (by kernel_rfl) (by kernel_rfl) (by kernel_rfl) (fun _ _ _ h => h) (Or.inl ⟨by rfl, fun w' hSw => by (go_simp)⟩) hHeld ?_
  simp only [Act.put, List.setIfInBounds_toArray, List.set_cons_zero, List.set_cons_succ, List.getElem_cons_zero, List.getElem_cons_succ, List.getElem_toArray]
  refine wpAnyH_take (i := 4) (v := .pointer (some ⟨w.heap.size + 1, 0, none⟩)) rfl (by kernel_rfl) (by kernel_rfl) (by kernel_rfl) (fun _ _ _ h => h) (Or.inl ⟨by rfl, fun w' hSw => by (go_simp)⟩) hHeld ?_
  simp only [Act.put, List.setIfInBounds_toArray, List.set_cons_zero, List.set_cons_succ, List.getElem_cons_zero, List.getElem_cons_succ, List.getElem_toArray]
  refine wpAnyH_take (i := 5) (v := .slice ra rl rc) rfl (by kernel_rfl) (by kernel_rfl) (by kernel_rfl) (fun _ _ _ h => h) (Or.inl ⟨by rfl, fun w' hSw => by (dsimp only at hSw; go_simp)⟩) hHeld ?_
  simp only [Act.put, List.setIfInBounds_toArray, List.set_cons_zero, List.set_cons_succ, List.getElem_cons_zero, List.getElem_cons_succ, List.getElem_toArray]
  refine wpAnyH_ready (rs := [6]) (by kernel_rfl) (by simp) ?_
  refine AllReadyH.cons rfl (fun K hK => ?_) AllReadyH.nil
  have hFR : Fr (One q) X.drew (X.drew.setCells q 41 (nums rs)) := fr_setCells (X := One q) rfl _ _ (Fr.refl _ _)
  have hSR : Bx w (X.drew.setCells q 41 (nums rs)) ao ps.length cap ra ma rl rc ml mc := HXR.out.1.fr hFR HQ.out
  refine Go.Proofs.step_copy_runI rfl (.tmp 32) (.tmp 34) 33 33 rfl (.slice (some ⟨q, 41, none⟩) 32 32) (.slice ra rl rc) rfl rfl (HCr.out _ q X.drew (HSn.out.up HXR.out.1.b).r (fun j hj => (by rw [HXR.out.2.1.r j (Nat.lt_of_lt_of_le hj H32.out.1)]; rfl)) (fun j => HXR.out.2.1.fz _)) ?_
  refine hK.out _ _ (hSR.s.c 0 _ rfl) (fun hHeld => ?_)
  clear hK K
  refine wpAnyH_done (by kernel_rfl) ?_ _
  refine hK7 _ _ ?_
  clear hK7 K7
  have HXM : Hid (Bx w ((X.drew.setCells q 41 (nums rs)).drew) ao ps.length cap ra ma rl rc ml mc ∧ MAt ((X.drew.setCells q 41 (nums rs)).drew) q r ps.length c none 0 { initM [] [] with r := fun i => (rs[i]?).getD ((initM [] []).r i) } ∧ PIn ((X.drew.setCells q 41 (nums rs)).drew) (fun k => One q k ∨ q ≤ k) r ps ∧ NoK ((X.drew.setCells q 41 (nums rs)).drew) q) := ⟨hSR.up (drew_up _), (HsR.out HXR.out.2.1).up (drew_up _), (HXR.out.2.2.1.fr (hFR.mono fun _ _ h => .inl h)).fr (Fr.of (drew_up _)), HkR.out HXR.out.2.1 HXR.out.2.2.2⟩
  clear HXR hFR hSR hHeld
  generalize X.drew.setCells q 41 (nums rs) = Y at *
  simp only [Act.put, List.setIfInBounds_toArray, List.set_cons_zero, List.set_cons_succ, List.getElem_cons_zero, List.getElem_cons_succ, List.getElem_toArray]
  apply wp_seq_k; intro K8 hK8
  refine wp_region_held_drew (S := fun W => W.cell? ⟨w.heap.size + 1, 1, none⟩ = some (.slice ma ml mc)) (by kernel_rfl) (HXM.out.1.s.c 1 _ rfl) (fun hHeld => ?_)
  refine wpAnyH_take (i := 0) (v := ptr q) rfl (by kernel_rfl) (by kernel_rfl) (by kernel_rfl) (fun _ _ _ h => h) (Or.inl ⟨by rfl, fun w' hSw => by (go_simp)⟩) hHeld ?_
  simp only [Act.put, List.setIfInBounds_toArray, List.set_cons_zero, List.set_cons_succ, List.getElem_cons_zero, List.getElem_toArray]
  refine wpAnyH_take (i := 1) (v := ptr q) rfl (by kernel_rfl) (by kernel_rfl) (by kernel_rfl) (fun _ _ _ h => h) (Or.inl ⟨by rfl, fun w' hSw => by (go_simp)⟩) hHeld ?_
  simp only [Act.put, List.setIfInBounds_toArray, List.set_cons_zero, List.set_cons_succ, List.getElem_cons_zero, List.getElem_cons_succ, List.getElem_toArray]
  refine wpAnyH_take (i := 2) (v := .pointer (some ⟨q, 73, none⟩)) rfl (by kernel_rfl) (by kernel_rfl) (by kernel_rfl) (fun _ _ _ h => h) (Or.inl ⟨by rfl, fun w' hSw => by (go_simp)⟩) hHeld ?_
  simp only [Act.put, List.setIfInBounds_toArray, List.set_cons_zero, List.set_cons_succ, List.getElem_cons_zero, List.getElem_cons_succ, List.getElem_toArray]
  refine wpAnyH_take (i := 3) (v := .slice (some ⟨q, 73, none⟩) 256 256) rfl (by kernel_rfl) (by kernel_rfl) (by kernel_rfl) (fun _ _ _ h => h) (Or.inl ⟨by rfl, fun w' hSw => by (go_simp)⟩) hHeld ?_
  simp only [Act.put, List.setIfInBounds_toArray, List.set_cons_zero, List.set_cons_succ, List.getElem_cons_zero, List.getElem_cons_succ, List.getElem_toArray]
  refine wpAnyH_take (i := 4) (v := .pointer (some ⟨w.heap.size + 1, 1, none⟩)) rfl (by kernel_rfl) (by kernel_rfl) (by kernel_rfl) (fun _ _ _ h => h) (Or.inl ⟨by rfl, fun w' hSw => by (go_simp)⟩) hHeld ?_
  simp only [Act.put, List.setIfInBounds_toArray, List.set_cons_zero, List.set_cons_succ, List.getElem_cons_zero, List.getElem_cons_succ, List.getElem_toArray]
  refine wpAnyH_take (i := 5) (v := .slice ma ml mc) rfl (by kernel_rfl) (by kernel_rfl) (by kernel_rfl) (fun _ _ _ h => h) (Or.inl ⟨by rfl, fun w' hSw => by (dsimp only at hSw; go_simp)⟩) hHeld ?_
  simp only [Act.put, List.setIfInBounds_toArray, List.set_cons_zero, List.set_cons_succ, List.getElem_cons_zero, List.getElem_cons_succ, List.getElem_toArray]
  refine wpAnyH_ready (rs := [6]) (by kernel_rfl) (by simp) ?_
  refine AllReadyH.cons rfl (fun K hK => ?_) AllReadyH.nil
  have hFM : Fr (One q) Y.drew (Y.drew.setCells q 73 (nums ms)) := fr_setCells (X := One q) rfl _ _ (Fr.refl _ _)
  have hSM : Bx w (Y.drew.setCells q 73 (nums ms)) ao ps.length cap ra ma rl rc ml mc := HXM.out.1.fr hFM HQ.out
  refine Go.Proofs.step_copy_runI rfl (.tmp 39) (.tmp 41) 33 33 rfl (.slice (some ⟨q, 73, none⟩) 256 256) (.slice ma ml mc) rfl rfl (HCm.out _ q Y.drew (HSn.out.up HXM.out.1.b).m (fun j hj => (by rw [HXM.out.2.1.m j (Nat.lt_of_lt_of_le hj H32.out.2)]; rfl)) (fun j => HXM.out.2.1.fz _)) ?_
  refine hK.out _ _ (hSM.s.c 1 _ rfl) (fun hHeld => ?_)
  clear hK K
  refine wpAnyH_done (by kernel_rfl) ?_ _
  refine hK8 _ _ ?_
  clear hK8 K8
  have HXZ : Hid (Below w.heap.size w (Y.drew.setCells q 73 (nums ms)) ∧ MAt (Y.drew.setCells q 73 (nums ms)) q r ps.length c none 0 (initM rs ms) ∧ PIn (Y.drew.setCells q 73 (nums ms)) (fun k => One q k ∨ q ≤ k) r ps ∧ NoK (Y.drew.setCells q 73 (nums ms)) q) := ⟨hSM.b, HsM.out HXM.out.2.1, HXM.out.2.2.1.fr (hFM.mono fun _ _ h => .inl h), HkM.out HXM.out.2.1 HXM.out.2.2.2⟩
  clear HXM hFM hSM hHeld
  generalize Y.drew.setCells q 73 (nums ms) = Z at *
  simp only [Act.put, List.setIfInBounds_toArray, List.set_cons_zero, List.set_cons_succ, List.getElem_cons_zero, List.getElem_cons_succ, List.getElem_toArray]
  go_wp2_with fail
  go_ret2
  obtain ⟨h1, h2, h3, h4⟩ := HXZ.out
  have hq : w.heap.size + 1 < q := HQ.out
  exact ⟨q, rfl, ⟨⟨⟨r, c, none, 0, h2, h3, World.ownsRow_nil _ _ _ _, fun a e => by cases e⟩, rfl, fun k e => by have e : k = q := e; rw [e]; exact h2.lt⟩, HPs.out.2, HPs.out.1⟩, h1, by omega, h4⟩
end Go.Proofs.YtddcndlogoajkaaGreatDoor.L8.Sm
namespace Go.Proofs.YtddcndlogoajkaaGreatDoor.L8.Sm
open Go.ChangeShapes Go.WideShapes Go.ChangeAt Go.RowKit
open _root_.Go.Proofs.YtddcndlogoajkaaGreatDoor.L8.Op _root_.Go.Proofs.YtddcndlogoajkaaGreatDoor.L8.So
set_option maxRecDepth 20000

theorem own_block {w : World} {B : Nat} {e : TypeId} {z n c : Nat} {a : Option Addr} {xs : List Value} (h : w.ownsRow B e z (.slice a n c) n xs) {x : Addr} (hx : a = some x) : B ≤ x.block ∧ x.block < w.heap.size := by
  subst hx
  exact h.lt x.block rfl
/-- What turns another's leaves this one, if that is what this one is said to turn, or lies behind it. -/
theorem MM.aside {w w' : World} {q : Nat} {ps : List Bk} {T X : Nat → Prop} {M : Ma} (h : MM w q ps T M) (g : Fr X w w') (hx : ∀ k, T k → q ≤ k → ¬ X k) (hp : ∀ k, k < w.heap.size → X k → T k ∨ q ≤ k) : MM w' q ps T M := by
  obtain ⟨ba, bc, po, pc, h1, h2, h3, h4⟩ := h.mr.ex
  refine ⟨⟨⟨ba, bc, po, pc, h1.fr g (hx q h.mr.tq (Nat.le_refl _)), h2.fr (g.mono hp), row_fr h3 g fun k hk => ?_, h4⟩, h.mr.tq, fun k hk => Nat.lt_of_lt_of_le (h.mr.tl k hk) g.size⟩, h.inv, h.ps⟩
  have hq := (h3.lt k hk).1
  cases po with
  | none => simp [Value.ownBlock] at hk
  | some a =>
    simp only [Value.ownBlock, Option.some.injEq] at hk
    subst hk
    exact hx _ (h4 a rfl) (by omega)
theorem MM.shrink {w : World} {q : Nat} {ps : List Bk} {T : Nat → Prop} {M : Ma} (h : MM w q ps T M) : MM w q ps (fun k => T k ∧ q ≤ k) M := by
  obtain ⟨ba, bc, po, pc, h1, h2, h3, h4⟩ := h.mr.ex
  refine ⟨⟨⟨ba, bc, po, pc, h1, h2.grow fun k _ hk => hk.elim (fun h => .inr h.2) .inr, h3, fun a e => ⟨h4 a e, ?_⟩⟩, ⟨h.mr.tq, Nat.le_refl _⟩, fun k hk => h.mr.tl k hk.1⟩, h.inv, h.ps⟩
  have := (own_block h3 e).1
  omega
/-- A machine is said to turn a block without a kind, too. -/
theorem MM.widen {w : World} {q b : Nat} {ps : List Bk} {T : Nat → Prop} {M : Ma} (h : MM w q ps T M) (hb : b < w.heap.size) (hn : NoK w b) : MM w q ps (fun k => T k ∨ k = b) M := by
  obtain ⟨ba, bc, po, pc, h1, h2, h3, h4⟩ := h.mr.ex
  have h2' : PIn w (fun k => (T k ∨ k = b) ∨ q ≤ k) ba ps := by
    have fa : ∀ {a : Option Addr} {xs : List O}, OpsAt w a xs → Far (fun k => T k ∨ q ≤ k) a xs.length → Far (fun k => (T k ∨ k = b) ∨ q ≤ k) a xs.length := fun {a xs} ho hf h0 x e hx => by
      obtain ⟨b', f, e', z, hc⟩ := ho.is h0
      rw [e'] at e; cases e
      rcases hx with (hx | hx) | hx
      · exact hf h0 _ e' (.inl hx)
      · have hx : b' = b := hx
        subst hx
        exact hn _ _ (hc 0 h0).c0
      · exact hf h0 _ e' (.inr hx)
    refine ⟨h2.len, fun h0 => ?_⟩
    obtain ⟨b', f, e, z, hT, hc⟩ := h2.is h0
    refine ⟨b', f, e, z, fun hx => ?_, fun i hi => ?_⟩
    · rcases hx with (hx | hx) | hx
      · exact hT (.inl hx)
      · subst hx
        obtain ⟨p, k1, -⟩ := hc 0 h0
        exact hn _ _ k1.c1
      · exact hT (.inr hx)
    · obtain ⟨p, k1, k2, k3, k4⟩ := hc i hi
      exact ⟨p, k1, k2, fa k2.o k3, fa k2.b k4⟩
  exact ⟨⟨⟨ba, bc, po, pc, h1, h2', h3, fun a e => .inl (h4 a e)⟩, .inl h.mr.tq, fun k hk => hk.elim (h.mr.tl k) fun e => by rw [e]; exact hb⟩, h.inv, h.ps⟩
end Go.Proofs.YtddcndlogoajkaaGreatDoor.L8.Sm
