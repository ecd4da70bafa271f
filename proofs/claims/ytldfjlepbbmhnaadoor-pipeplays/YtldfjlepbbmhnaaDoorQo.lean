/- What the statement's own short program is made of: its table, its bundles, two lists of numbers held side by side. Conditions: the lists lie in memory. -/
import Derived.Test.YtldfjlepbbmhnaaDoorQm
import Derived.Test.YtldfjlepbbmhnaaDoorWk
import Derived.Shelf.Spec.SlicesInsert
import Derived.Great.Walk
import Derived.Great.BuildSlice
import Derived.Great.Ranges
namespace Go.Proofs.YtldfjlepbbmhnaaDoor.Pp
open Go.ChangeShapes Go.WideShapes Go.ChangeAt Go.RowKit Go.Great
open _root_.Go.Proofs.YtldfjlepbbmhnaaDoor.Op _root_.Go.Proofs.YtldfjlepbbmhnaaDoor.So _root_.Go.Proofs.YtldfjlepbbmhnaaDoor.Bu
open _root_.Go.Proofs.YtldfjlepbbmhnaaDoor.Tb (Tab TabAt Bnds tabAt_new)
set_option maxRecDepth 20000

def nums (l : List Int) : List Value := l.map fun x => .int .i64 x
/-- A list of numbers in memory. -/
structure NL (w : World) (ao : Option Addr) (l : List Int) : Prop where
  is : 0 < l.length → ∃ b f, ao = some ⟨b, f, none⟩ ∧ b < w.heap.size ∧ ∀ (i : Nat) (h : i < l.length), w.cell? ⟨b, f + i, none⟩ = some (.int .i64 l[i])
theorem NL.up {w w' : World} {ao : Option Addr} {l : List Int} (h : NL w ao l) (hb : Below w.heap.size w w') : NL w' ao l := by
  refine ⟨fun h0 => ?_⟩
  obtain ⟨b, f, e, z, hc⟩ := h.is h0
  exact ⟨b, f, e, Nat.lt_of_lt_of_le z hb.size, fun i hi => by rw [((Fr.of (X := Non) hb).cell z (fun e => e) _)]; exact hc i hi⟩
theorem nums_get (l : List Int) (i : Nat) (h : i < l.length) : (nums l)[i]? = some (.int .i64 l[i]) := by simp [nums, h]
theorem nums_one (l : List Int) : ∀ u, u ∈ nums l → u.oneCell' = true := fun u hu => by
  obtain ⟨x, _, rfl⟩ := List.mem_map.1 hu
  rfl
theorem nl_cells {w : World} {b f : Nat} {l : List Int} (hc : ∀ (i : Nat) (h : i < l.length), w.cell? ⟨b, f + i, none⟩ = some (.int .i64 l[i])) : ∀ j u, (nums l)[j]? = some u → w.cell? ((⟨b, f, none⟩ : Addr).add j) = some u := fun j u hu => by
  have hj : j < l.length := by
    rcases Nat.lt_or_ge j l.length with h | h
    · exact h
    · rw [List.getElem?_eq_none (by simp [nums]; omega)] at hu; cases hu
  rw [nums_get l j hj] at hu
  cases hu
  rw [add_at']
  exact hc j hj
theorem fr_setCells {X : Nat → Prop} {b : Nat} (hb : X b) : ∀ (vs : List Value) (o : Nat) {w0 w : World}, Fr X w0 w → Fr X w0 (w.setCells b o vs)
  | [], _, _, _, h => h
  | v :: r, o, _, _, h => fr_setCells hb r (o + 1) (h.setCell (.inr hb) o v)
theorem size_setCells (b : Nat) : ∀ (vs : List Value) (o : Nat) (w : World), (w.setCells b o vs).heap.size = w.heap.size
  | [], _, _ => rfl
  | v :: r, o, w => by rw [World.setCells, size_setCells b r, World.size_setCell]
theorem copy_nil (b o n c rc : Nat) (ty : TypeId) (w : World) : (Builtin.copy_ #[26, 26] ty #[.slice (some ⟨b, o, none⟩) n c, .slice none 0 rc]).run Tryd.prog w = .ok (goInt 0) w := by
  exact run_copy_none (P := Tryd.prog) w 26 26 ty 2 (some ⟨b, o, none⟩) none n c 0 rc Tryd.underlying26 (by kernel_rfl) (by simp)
theorem copy_any (b o n c rc : Nat) (ty : TypeId) (ao : Option Addr) (l : List Int) (w : World) (hl : l.length ≤ n) (h : NL w ao l) (hc : ∀ j, j < l.length → (w.cell? ⟨b, o + j, none⟩).isSome = true) (hf : ∀ j, w.frozen? ⟨b, o + j, none⟩ = false) : (Builtin.copy_ #[26, 26] ty #[.slice (some ⟨b, o, none⟩) n c, .slice ao l.length rc]).run Tryd.prog w = .ok (goInt l.length) (w.setCells b o (nums l)) := by
  have hn : (nums l).length = l.length := by simp [nums]
  have key : ∀ a : Addr, ao = some a → (∀ j u, (nums l)[j]? = some u → w.cell? (a.add j) = some u) → (Builtin.copy_ #[26, 26] ty #[.slice (some ⟨b, o, none⟩) n c, .slice ao l.length rc]).run Tryd.prog w = .ok (goInt l.length) (w.setCells b o (nums l)) := fun a e hs => by
    subst e
    have := run_copy_cells (P := Tryd.prog) w 26 26 ty 2 b o n c a l.length rc (nums l) Tryd.underlying26 (by kernel_rfl) (by rw [hn]; exact (Nat.min_eq_left hl).symm) hs (fun j hj => hc j (by omega)) (fun j _ => hf j) (nums_one l)
    rw [hn] at this; exact this
  rcases Nat.eq_zero_or_pos l.length with h0 | h0
  · obtain rfl : l = [] := List.eq_nil_of_length_eq_zero h0
    cases ao with
    | none => exact copy_nil b o n c rc ty w
    | some a => exact key a rfl fun j u hu => by simp [nums] at hu
  · obtain ⟨b', f', e, _, hx⟩ := h.is h0
    exact key _ e (nl_cells hx)
/-- What a new machine's cells hold. -/
def mzF (t : Tab) (r : Option Addr) (n c j : Nat) : Value := if j < 1 then .slice r n c else if j < 5 then .int .i64 (t.u (j - 1)) else if j < 9 then .int .i64 (t.l (j - 5)) else if j < 13 then .int .i64 (t.b (j - 9)) else if j < 14 then .int .i64 t.d else if j < 303 then .int .i64 0 else if j < 304 then .int .u64 0 else if j < 312 then .slice none 0 0 else if j < 313 then .int .i64 100 else if j < 314 then .int .i64 0 else if j < 315 then .slice none 0 0 else .int .i64 0
def mz (t : Tab) (r : Option Addr) (n c : Nat) : Array Value := ((List.range 316).map (mzF t r n c)).toArray
theorem mz_get (t : Tab) (r : Option Addr) (n c j : Nat) (h : j < 316) : (mz t r n c)[j]? = some (mzF t r n c j) := by
  unfold mz
  rw [List.getElem?_toArray, List.getElem?_map, List.getElem?_range h]; rfl
theorem mz_cell (w : World) (t : Tab) (r : Option Addr) (n c j : Nat) (h : j < 316) : (w.alloc (.cells (mz t r n c) 86)).cell? ⟨w.heap.size, j, none⟩ = some (mzF t r n c j) := by
  have e : (w.alloc (.cells (mz t r n c) 86)).cell? ⟨w.heap.size, j, none⟩ = (mz t r n c)[j]? := by simp
  rw [e, mz_get t r n c j h]
def newM (rs ms : List Int) : PM := ⟨fun i => (rs[i]?).getD 0, fun i => (ms[i]?).getD 0, 0, 0, fun _ => [], 100, 0, [], 0⟩
def newH (q : Nat) (r : Option Addr) (c : Nat) : Hx := ⟨q, r, c, fun _ => .slice none 0 0, .slice none 0 0⟩
theorem mc_new (w : World) (t : Tab) (r : Option Addr) (n c : Nat) : MC (w.alloc (.cells (mz t r n c) 86)) t n (newH w.heap.size r c) (newM [] []) := by
  have k := fun j h => mz_cell w t r n c j h
  refine ⟨by simp [newH], fun j => by simp [newH], (k 0 (by omega)).trans rfl, fun i hi => ?_, fun i hi => ?_, fun i hi => ?_, (k 13 (by omega)).trans rfl, fun i hi => ?_, fun i hi => ?_, (k 302 (by omega)).trans rfl, (k 303 (by omega)).trans rfl, fun i hi => ?_, (k 312 (by omega)).trans rfl, (k 313 (by omega)).trans rfl, (k 314 (by omega)).trans rfl, (k 315 (by omega)).trans rfl⟩
  · refine (k _ (by omega)).trans ?_; unfold mzF; rw [if_neg (by omega), if_pos (by omega), show 1 + i - 1 = i by omega]
  · refine (k _ (by omega)).trans ?_; unfold mzF; rw [if_neg (by omega), if_neg (by omega), if_pos (by omega), show 5 + i - 5 = i by omega]
  · refine (k _ (by omega)).trans ?_; unfold mzF; rw [if_neg (by omega), if_neg (by omega), if_neg (by omega), if_pos (by omega), show 9 + i - 9 = i by omega]
  · refine (k _ (by omega)).trans ?_; unfold mzF; rw [if_neg (by omega), if_neg (by omega), if_neg (by omega), if_neg (by omega), if_neg (by omega), if_pos (by omega)]; rfl
  · refine (k _ (by omega)).trans ?_; unfold mzF; rw [if_neg (by omega), if_neg (by omega), if_neg (by omega), if_neg (by omega), if_neg (by omega), if_pos (by omega)]; rfl
  · refine (k _ (by omega)).trans ?_; unfold mzF; rw [if_neg (by omega), if_neg (by omega), if_neg (by omega), if_neg (by omega), if_neg (by omega), if_neg (by omega), if_neg (by omega), if_pos (by omega)]; rfl
theorem setRs {w : World} {t : Tab} {n : Nat} {H : Hx} {S : PM} (h : MC w t n H S) (l : List Int) (hl : l.length ≤ 32) : MC (w.setCells H.mb 14 (nums l)) t n H { S with r := fun i => (l[i]?).getD (S.r i) } := by
  have hn : (nums l).length = l.length := by simp [nums]
  have hin := World.cell?_setCells_in H.mb (nums l) 14 w (fun j hj => by rw [h.r j (by omega)]; rfl)
  have out : ∀ j, (j < 14 ∨ 14 + l.length ≤ j) → (w.setCells H.mb 14 (nums l)).cell? ⟨H.mb, j, none⟩ = w.cell? ⟨H.mb, j, none⟩ := fun j hj => World.cell?_setCells_out H.mb (nums l) 14 w ⟨H.mb, j, none⟩ (fun _ _ => by rw [hn]; exact hj)
  refine ⟨by rw [size_setCells]; exact h.lt, fun j => by rw [World.frozen?_setCells]; exact h.fz j, (out _ (by omega)).trans h.b, fun i hi => (out _ (by omega)).trans (h.tu i hi), fun i hi => (out _ (by omega)).trans (h.tl i hi), fun i hi => (out _ (by omega)).trans (h.tb i hi), (out _ (by omega)).trans h.td, fun i hi => ?_, fun i hi => (out _ (by omega)).trans (h.m i hi), (out _ (by omega)).trans h.a, (out _ (by omega)).trans h.c, fun i hi => (out _ (by omega)).trans (h.f i hi), (out _ (by omega)).trans h.e, (out _ (by omega)).trans h.v, (out _ (by omega)).trans h.p, (out _ (by omega)).trans h.s⟩
  rcases Nat.lt_or_ge i l.length with h1 | h1
  · rw [hin i (by omega)]
    have := nums_get l i h1
    rw [List.getElem?_eq_getElem (by omega)] at this
    rw [this]
    show _ = some (Value.int .i64 ((l[i]?).getD (S.r i)))
    rw [List.getElem?_eq_getElem h1]; rfl
  · rw [out _ (by omega), h.r i hi]
    show _ = some (Value.int .i64 ((l[i]?).getD (S.r i)))
    rw [List.getElem?_eq_none h1]; rfl
theorem setMs {w : World} {t : Tab} {n : Nat} {H : Hx} {S : PM} (h : MC w t n H S) (l : List Int) (hl : l.length ≤ 256) : MC (w.setCells H.mb 46 (nums l)) t n H { S with m := fun i => (l[i]?).getD (S.m i) } := by
  have hn : (nums l).length = l.length := by simp [nums]
  have hin := World.cell?_setCells_in H.mb (nums l) 46 w (fun j hj => by rw [h.m j (by omega)]; rfl)
  have out : ∀ j, (j < 46 ∨ 46 + l.length ≤ j) → (w.setCells H.mb 46 (nums l)).cell? ⟨H.mb, j, none⟩ = w.cell? ⟨H.mb, j, none⟩ := fun j hj => World.cell?_setCells_out H.mb (nums l) 46 w ⟨H.mb, j, none⟩ (fun _ _ => by rw [hn]; exact hj)
  refine ⟨by rw [size_setCells]; exact h.lt, fun j => by rw [World.frozen?_setCells]; exact h.fz j, (out _ (by omega)).trans h.b, fun i hi => (out _ (by omega)).trans (h.tu i hi), fun i hi => (out _ (by omega)).trans (h.tl i hi), fun i hi => (out _ (by omega)).trans (h.tb i hi), (out _ (by omega)).trans h.td, fun i hi => (out _ (by omega)).trans (h.r i hi), fun i hi => ?_, (out _ (by omega)).trans h.a, (out _ (by omega)).trans h.c, fun i hi => (out _ (by omega)).trans (h.f i hi), (out _ (by omega)).trans h.e, (out _ (by omega)).trans h.v, (out _ (by omega)).trans h.p, (out _ (by omega)).trans h.s⟩
  rcases Nat.lt_or_ge i l.length with h1 | h1
  · rw [hin i (by omega)]
    have := nums_get l i h1
    rw [List.getElem?_eq_getElem (by omega)] at this
    rw [this]
    show _ = some (Value.int .i64 ((l[i]?).getD (S.m i)))
    rw [List.getElem?_eq_getElem h1]; rfl
  · rw [out _ (by omega), h.m i hi]
    show _ = some (Value.int .i64 ((l[i]?).getD (S.m i)))
    rw [List.getElem?_eq_none h1]; rfl
/-- The boxes of New's arguments. -/
structure Bx (w W : World) (t : Tab) (ra ma : Option Addr) (rl rc ml mc : Nat) : Prop where
  p : TabAt W w.heap.size t
  s : At W (w.heap.size + 1) #[.slice ra rl rc, .slice ma ml mc]
  b : Below w.heap.size w W
theorem Bx.up {w W W' : World} {t : Tab} {ra ma : Option Addr} {rl rc ml mc : Nat} (h : Bx w W t ra ma rl rc ml mc) (hb : Below W.heap.size W W') : Bx w W' t ra ma rl rc ml mc := ⟨h.p.below hb h.p.lt, h.s.below hb h.s.lt, h.b.trans (hb.mono h.b.size)⟩
theorem Bx.fr {w W W' : World} {t : Tab} {ra ma : Option Addr} {rl rc ml mc q : Nat} (h : Bx w W t ra ma rl rc ml mc) (hF : Fr (One q) W W') (hq : w.heap.size + 1 < q) : Bx w W' t ra ma rl rc ml mc := by
  have hb : Below (w.heap.size + 2) W W' := hF.below h.s.lt fun k hk e => by have e : k = q := e; omega
  exact ⟨h.p.below hb (by omega), h.s.below hb (by omega), h.b.trans (hb.mono (by omega))⟩
theorem below_ad (w : World) (o : Obj) : Below w.heap.size w (w.alloc o).drew := ((Below.refl w.heap.size w).alloc (Nat.le_refl _) o).trans ((drew_up _).mono (by simp))
theorem own_new {q c : Nat} {r : Option Addr} {b : Nat} (h : own (newH q r c) b) : b = q := by
  rcases h with h | ⟨i, _, h⟩ | h
  · exact h
  · cases h
  · cases h
theorem mch_new {Z : World} {t : Tab} {ls : List Bn} {q c : Nat} {r : Option Addr} {rs ms : List Int} (h : MC Z t ls.length (newH q r c) (newM rs ms)) (hB : ∀ V, Below q Z V → BsAt V r ls) : Mch Z t ls (newH q r c) (newM rs ms) :=
  ⟨h, fun _ _ => World.ownsRow_nil _ _ _ _, World.ownsRow_nil _ _ _ _, fun _ _ _ _ _ b e => (by cases e), fun _ _ b e => (by cases e), fun _ _ e => (by cases e), fun e => (by cases e), fun V hV => hB V (hV.below (Nat.le_of_lt h.lt) fun k hk e => by have := own_new e; omega)⟩
set_option maxHeartbeats 4000000 in
theorem new_far (ao ra ma : Option Addr) (n cap rc mc : Nat) (v : Nat → Int) (t : Tab) (rs ms : List Int) (w : World) (hx : Ws w ao n v) (hc : n ≤ cap) (hG : Bnds w) (hn : n ≤ 17592186044416) (h : deE t v n = 0) (hr : NL w ra rs) (hm : NL w ma ms) (h32 : rs.length ≤ 32) (h256 : ms.length ≤ 256) (ls : List Bn) (hls : deL t v (n / ofs t 4) = ls) (hl : ls.length = n / ofs t 4) :
    Calls Tryd.prog 9 #[.slice ao n cap, t.val, .agg #[.slice ra rs.length rc, .slice ma ms.length mc]] w fun e w' => ∃ q r c, e = .returned (.tuple #[ptr q, .int .i64 0]) ∧ Mch w' t ls (newH q r c) (newM rs ms) ∧ Below w.heap.size w w' ∧ w.heap.size ≤ q ∧ (∀ V, Fr (fun k => k < w.heap.size ∨ k = q) w' V → BsAt V r ls) := by
  have HB0 : Hid (Bx w ((w.alloc (.cells t.cells 25)).alloc (.cells #[.slice ra rs.length rc, .slice ma ms.length mc] 28)) t ra ma rs.length rc ms.length mc) := by
    obtain ⟨-, a2, hb, -, -⟩ := two_new w t.cells #[.slice ra rs.length rc, .slice ma ms.length mc] 25 28 (Below.refl _ _)
    exact ⟨(tabAt_new w t 25).below (B := (w.alloc (.cells t.cells 25)).heap.size) ((Below.refl _ _).alloc (Nat.le_refl _) _) (by simp), a2, hb⟩
  have HD : Hid (Calls Tryd.prog 27 #[.slice ao n cap, .agg #[.int .i64 (t.u 0), .int .i64 (t.u 1), .int .i64 (t.u 2), .int .i64 (t.u 3), .int .i64 (t.l 0), .int .i64 (t.l 1), .int .i64 (t.l 2), .int .i64 (t.l 3), .int .i64 (t.b 0), .int .i64 (t.b 1), .int .i64 (t.b 2), .int .i64 (t.b 3), .int .i64 t.d]] ((w.alloc (.cells t.cells 25)).alloc (.cells #[.slice ra rs.length rc, .slice ma ms.length mc] 28)) fun e w' => ∃ b, e = .returned (.tuple #[.slice (some ⟨b, 0, none⟩) ls.length ls.length, .int .i64 0]) ∧ BsAt w' (some ⟨b, 0, none⟩) ls ∧ (∀ V, Fr (fun q => q < ((w.alloc (.cells t.cells 25)).alloc (.cells #[.slice ra rs.length rc, .slice ma ms.length mc] 28)).heap.size) w' V → BsAt V (some ⟨b, 0, none⟩) ls) ∧ Below ((w.alloc (.cells t.cells 25)).alloc (.cells #[.slice ra rs.length rc, .slice ma ms.length mc] 28)).heap.size ((w.alloc (.cells t.cells 25)).alloc (.cells #[.slice ra rs.length rc, .slice ma ms.length mc] 28)) w') := by
    have := dec_yes ao n cap v t ((w.alloc (.cells t.cells 25)).alloc (.cells #[.slice ra rs.length rc, .slice ma ms.length mc] 28)) (hx.below HB0.out.b) hc (hG.below HB0.out.b hG.big) hn h
    rw [hls, ← hl] at this
    exact this
  have HSn : Hid (NL w ra rs ∧ NL w ma ms) := ⟨hr, hm⟩
  have H32 : Hid (rs.length ≤ 32 ∧ ms.length ≤ 256) := ⟨h32, h256⟩
  have hi32 : ¬ (32 : Int) < (rs.length : Int) := by omega
  have hi256 : ¬ (256 : Int) < (ms.length : Int) := by omega
  have HCr : Hid (∀ (ty : TypeId) (q : Nat) (W : World), NL W ra rs → (∀ j, j < rs.length → (W.cell? ⟨q, 14 + j, none⟩).isSome = true) → (∀ j, W.frozen? ⟨q, 14 + j, none⟩ = false) → (Builtin.copy_ #[26, 26] ty #[.slice (some ⟨q, 14, none⟩) 32 32, .slice ra rs.length rc]).run Tryd.prog W = .ok (goInt rs.length) (W.setCells q 14 (nums rs))) := fun ty q W h1 h2 h3 => copy_any q 14 32 32 rc ty ra rs W h32 h1 h2 h3
  have HCm : Hid (∀ (ty : TypeId) (q : Nat) (W : World), NL W ma ms → (∀ j, j < ms.length → (W.cell? ⟨q, 46 + j, none⟩).isSome = true) → (∀ j, W.frozen? ⟨q, 46 + j, none⟩ = false) → (Builtin.copy_ #[26, 26] ty #[.slice (some ⟨q, 46, none⟩) 256 256, .slice ma ms.length mc]).run Tryd.prog W = .ok (goInt ms.length) (W.setCells q 46 (nums ms))) := fun ty q W h1 h2 h3 => copy_any q 46 256 256 mc ty ma ms W h256 h1 h2 h3
  have HsR : Hid (∀ {W n H S}, MC W t n H S → MC (W.setCells H.mb 14 (nums rs)) t n H { S with r := fun i => (rs[i]?).getD (S.r i) }) := fun {W n H S} h' => setRs h' rs h32
  have HsM : Hid (∀ {W n H S}, MC W t n H S → MC (W.setCells H.mb 46 (nums ms)) t n H { S with m := fun i => (ms[i]?).getD (S.m i) }) := fun {W n H S} h' => setMs h' ms h256
  clear h hx hc hG hn hr hm h32 h256 hls hl
  unfold Tab.val
  generalize rs.length = rl at *
  generalize ms.length = ml at *
  go_enter Tryd.func9, Tryd.ntmps9
  go_upto_region 6 with (first | (go_at_call 27; refine Calls.mono HD.out ?_; rintro e w1 ⟨b, rfl, hbs, hfar, hb⟩; have HB1 : Hid (Bx w w1 t ra ma rl rc ml mc ∧ BsAt w1 (some ⟨b, 0, none⟩) ls ∧ (∀ V, Fr (fun q => q < w.heap.size) w1 V → BsAt V (some ⟨b, 0, none⟩) ls)) := ⟨HB0.out.up hb, hbs, fun V hV => hfar V (hV.mono fun k _ hk => by have hk : k < w.heap.size := hk; show k < _; simp; omega)⟩; clear hfar; have k2 := HB1.out.1.p; have qu0 := k2.cu 0 (by decide); have qu1 := k2.cu 1 (by decide); have qu2 := k2.cu 2 (by decide); have qu3 := k2.cu 3 (by decide); have ql0 := k2.cl 0 (by decide); have ql1 := k2.cl 1 (by decide); have ql2 := k2.cl 2 (by decide); have ql3 := k2.cl 3 (by decide); have qb0 := k2.cb 0 (by decide); have qb1 := k2.cb 1 (by decide); have qb2 := k2.cb 2 (by decide); have qb3 := k2.cb 3 (by decide); have qd := k2.cd; have qz := k2.lt; clear k2; have s0 := HB1.out.1.s.c 0 _ rfl; have s1 := HB1.out.1.s.c 1 _ rfl; have sl := HB1.out.1.s.lt; clear hb hbs HB0 HD))
  rename_i K6 hK6
  apply wp_region_lit
  refine wpList_plain rfl (fun K hK => ?_)
  go_simp
  refine hK _ _ ?_
  clear hK K
  refine wpList_plain rfl (fun K hK => ?_)
  go_simp
  refine hK _ _ ?_
  clear hK K
  refine wpList_buildTo rfl 86 _ rfl (some 32) rfl (mz t (some ⟨b, 0, none⟩) ls.length ls.length) (by kernel_rfl) ?_
  refine wpList_boxTo rfl 86 (.tmp 32) rfl (some 33) rfl w1.heap.size rfl (mz t (some ⟨b, 0, none⟩) ls.length ls.length) (by kernel_rfl) ?_
  refine wpList_readTo rfl (some 10) rfl (ptr w1.heap.size) (by kernel_rfl) ?_
  refine wpList_nil ?_
  refine hK6 _ _ ?_
  clear hK6 K6
  clear qu0 qu1 qu2 qu3 ql0 ql1 ql2 ql3 qb0 qb1 qb2 qb3 qd qz s0 s1 sl
  have HQ : Hid (w.heap.size + 1 < w1.heap.size ∧ (∀ V, Below w1.heap.size w1 V → BsAt V (some ⟨b, 0, none⟩) ls) ∧ (∀ Z V, Below w1.heap.size w1 Z → Fr (fun k => k < w.heap.size ∨ k = w1.heap.size) Z V → BsAt V (some ⟨b, 0, none⟩) ls)) := ⟨HB1.out.1.s.lt, fun V hV => HB1.out.2.1.below hV, fun Z V hZ hV => HB1.out.2.2 V ((Fr.of (X := fun k => k < w.heap.size) hZ).trans hV fun k hk hy => hy.elim id fun e => absurd hk (by omega))⟩
  have HXR : Hid (Bx w (w1.alloc (.cells (mz t (some ⟨b, 0, none⟩) ls.length ls.length) 86)).drew t ra ma rl rc ml mc ∧ MC (w1.alloc (.cells (mz t (some ⟨b, 0, none⟩) ls.length ls.length) 86)).drew t ls.length (newH w1.heap.size (some ⟨b, 0, none⟩) ls.length) (newM [] []) ∧ Below w1.heap.size w1 (w1.alloc (.cells (mz t (some ⟨b, 0, none⟩) ls.length ls.length) 86)).drew) := ⟨HB1.out.1.up (below_ad _ _), (mc_new w1 t (some ⟨b, 0, none⟩) ls.length ls.length).fr (Fr.of (X := Non) (drew_up _)) (fun e => e), below_ad _ _⟩
  clear HB1
  generalize mz t (some ⟨b, 0, none⟩) ls.length ls.length = mzz at *
  generalize w1.alloc (.cells mzz 86) = X at *
  generalize hq : w1.heap.size = q at *
  clear hq
  simp only [Act.put, List.setIfInBounds_toArray, List.set_cons_zero, List.set_cons_succ]
  apply wp_seq_k; intro K0 hK0
  refine wp_region_held_drew (S := fun W => W.cell? ⟨w.heap.size + 1, 0, none⟩ = some (.slice ra rl rc)) (by kernel_rfl) (HXR.out.1.s.c 0 _ rfl) (fun hHeld => ?_)
  refine wpAnyH_take (i := 0) (v := ptr q) rfl (by kernel_rfl) (by kernel_rfl) (by kernel_rfl) (fun _ _ _ h => h) (Or.inl ⟨by rfl, fun w' hSw => by (go_simp)⟩) hHeld ?_
  simp only [Act.put, List.setIfInBounds_toArray, List.set_cons_zero, List.set_cons_succ, List.getElem_cons_zero, List.getElem_toArray]
  refine wpAnyH_take (i := 1) (v := ptr q) rfl (by kernel_rfl) (by kernel_rfl) (by kernel_rfl) (fun _ _ _ h => h) (Or.inl ⟨by rfl, fun w' hSw => by (go_simp)⟩) hHeld ?_
  simp only [Act.put, List.setIfInBounds_toArray, List.set_cons_zero, List.set_cons_succ, List.getElem_cons_zero, List.getElem_cons_succ, List.getElem_toArray]
  refine wpAnyH_take (i := 2) (v := .pointer (some ⟨q, 14, none⟩)) rfl (by kernel_rfl) (by kernel_rfl) (by kernel_rfl) (fun _ _ _ h => h) (Or.inl ⟨by rfl, fun w' hSw => by (go_simp)⟩) hHeld ?_
  simp only [Act.put, List.setIfInBounds_toArray, List.set_cons_zero, List.set_cons_succ, List.getElem_cons_zero, List.getElem_cons_succ, List.getElem_toArray]
  refine wpAnyH_take (i := 3) (v := .slice (some ⟨q, 14, none⟩) 32 32) rfl (by kernel_rfl) (by kernel_rfl) (by kernel_rfl) (fun _ _ _ h => h) (Or.inl ⟨by rfl, fun w' hSw => by (go_simp)⟩) hHeld ?_
  simp only [Act.put, List.setIfInBounds_toArray, List.set_cons_zero, List.set_cons_succ, List.getElem_cons_zero, List.getElem_cons_succ, List.getElem_toArray]
  refine wpAnyH_take (i := 4) (v := .pointer (some ⟨w.heap.size + 1, 0, none⟩)) rfl (by kernel_rfl) (by kernel_rfl) (by kernel_rfl) (fun _ _ _ h => h) (Or.inl ⟨by rfl, fun w' hSw => by (go_simp)⟩) hHeld ?_
  simp only [Act.put, List.setIfInBounds_toArray, List.set_cons_zero, List.set_cons_succ, List.getElem_cons_zero, List.getElem_cons_succ, List.getElem_toArray]
  refine wpAnyH_take (i := 5) (v := .slice ra rl rc) rfl (by kernel_rfl) (by kernel_rfl) (by kernel_rfl) (fun _ _ _ h => h) (Or.inl ⟨by rfl, fun w' hSw => by (dsimp only at hSw; go_simp)⟩) hHeld ?_
  simp only [Act.put, List.setIfInBounds_toArray, List.set_cons_zero, List.set_cons_succ, List.getElem_cons_zero, List.getElem_cons_succ, List.getElem_toArray]
  refine wpAnyH_ready (rs := [6]) (by kernel_rfl) (by simp) ?_
  refine AllReadyH.cons rfl (fun K hK => ?_) AllReadyH.nil
  have hF : Fr (One q) X.drew (X.drew.setCells q 14 (nums rs)) := fr_setCells (X := One q) rfl _ _ (Fr.refl _ _)
  have hS : Bx w (X.drew.setCells q 14 (nums rs)) t ra ma rl rc ml mc := HXR.out.1.fr hF HQ.out.1
  refine Go.Proofs.step_copy_runI rfl (.tmp 37) (.tmp 39) 26 26 rfl (.slice (some ⟨q, 14, none⟩) 32 32) (.slice ra rl rc) rfl rfl (HCr.out _ q X.drew ((HSn.out.1).up HXR.out.1.b) (fun j hj => (by have e := HXR.out.2.1.r j (Nat.lt_of_lt_of_le hj H32.out.1); exact (congrArg Option.isSome e).trans rfl)) (fun j => HXR.out.2.1.fz _)) ?_
  refine hK.out _ _ (hS.s.c 0 _ rfl) (fun hHeld => ?_)
  clear hK K
  refine wpAnyH_done (by kernel_rfl) ?_ _
  refine hK0 _ _ ?_
  clear hK0 K0
  have HXM : Hid (Bx w ((X.drew.setCells q 14 (nums rs)).drew) t ra ma rl rc ml mc ∧ MC ((X.drew.setCells q 14 (nums rs)).drew) t ls.length (newH q (some ⟨b, 0, none⟩) ls.length) (newM rs []) ∧ Below q w1 ((X.drew.setCells q 14 (nums rs)).drew)) := ⟨hS.up (drew_up _), (HsR.out HXR.out.2.1).fr (Fr.of (X := Non) (drew_up _)) (fun e => e), (HXR.out.2.2.trans (hF.below (Nat.le_of_lt HXR.out.2.1.lt) fun k hk e => by have e : k = q := e; omega)).trans ((drew_up _).mono (by rw [size_setCells]; exact Nat.le_of_lt HXR.out.2.1.lt))⟩
  clear HXR hF hS hHeld
  generalize X.drew.setCells q 14 (nums rs) = Y at *
  simp only [Act.put, List.setIfInBounds_toArray, List.set_cons_zero, List.set_cons_succ, List.getElem_cons_zero, List.getElem_cons_succ, List.getElem_toArray]
  apply wp_seq_k; intro K1 hK1
  refine wp_region_held_drew (S := fun W => W.cell? ⟨w.heap.size + 1, 1, none⟩ = some (.slice ma ml mc)) (by kernel_rfl) (HXM.out.1.s.c 1 _ rfl) (fun hHeld => ?_)
  refine wpAnyH_take (i := 0) (v := ptr q) rfl (by kernel_rfl) (by kernel_rfl) (by kernel_rfl) (fun _ _ _ h => h) (Or.inl ⟨by rfl, fun w' hSw => by (go_simp)⟩) hHeld ?_
  simp only [Act.put, List.setIfInBounds_toArray, List.set_cons_zero, List.set_cons_succ, List.getElem_cons_zero, List.getElem_toArray]
  refine wpAnyH_take (i := 1) (v := ptr q) rfl (by kernel_rfl) (by kernel_rfl) (by kernel_rfl) (fun _ _ _ h => h) (Or.inl ⟨by rfl, fun w' hSw => by (go_simp)⟩) hHeld ?_
  simp only [Act.put, List.setIfInBounds_toArray, List.set_cons_zero, List.set_cons_succ, List.getElem_cons_zero, List.getElem_cons_succ, List.getElem_toArray]
  refine wpAnyH_take (i := 2) (v := .pointer (some ⟨q, 46, none⟩)) rfl (by kernel_rfl) (by kernel_rfl) (by kernel_rfl) (fun _ _ _ h => h) (Or.inl ⟨by rfl, fun w' hSw => by (go_simp)⟩) hHeld ?_
  simp only [Act.put, List.setIfInBounds_toArray, List.set_cons_zero, List.set_cons_succ, List.getElem_cons_zero, List.getElem_cons_succ, List.getElem_toArray]
  refine wpAnyH_take (i := 3) (v := .slice (some ⟨q, 46, none⟩) 256 256) rfl (by kernel_rfl) (by kernel_rfl) (by kernel_rfl) (fun _ _ _ h => h) (Or.inl ⟨by rfl, fun w' hSw => by (go_simp)⟩) hHeld ?_
  simp only [Act.put, List.setIfInBounds_toArray, List.set_cons_zero, List.set_cons_succ, List.getElem_cons_zero, List.getElem_cons_succ, List.getElem_toArray]
  refine wpAnyH_take (i := 4) (v := .pointer (some ⟨w.heap.size + 1, 1, none⟩)) rfl (by kernel_rfl) (by kernel_rfl) (by kernel_rfl) (fun _ _ _ h => h) (Or.inl ⟨by rfl, fun w' hSw => by (go_simp)⟩) hHeld ?_
  simp only [Act.put, List.setIfInBounds_toArray, List.set_cons_zero, List.set_cons_succ, List.getElem_cons_zero, List.getElem_cons_succ, List.getElem_toArray]
  refine wpAnyH_take (i := 5) (v := .slice ma ml mc) rfl (by kernel_rfl) (by kernel_rfl) (by kernel_rfl) (fun _ _ _ h => h) (Or.inl ⟨by rfl, fun w' hSw => by (dsimp only at hSw; go_simp)⟩) hHeld ?_
  simp only [Act.put, List.setIfInBounds_toArray, List.set_cons_zero, List.set_cons_succ, List.getElem_cons_zero, List.getElem_cons_succ, List.getElem_toArray]
  refine wpAnyH_ready (rs := [6]) (by kernel_rfl) (by simp) ?_
  refine AllReadyH.cons rfl (fun K hK => ?_) AllReadyH.nil
  have hF : Fr (One q) Y.drew (Y.drew.setCells q 46 (nums ms)) := fr_setCells (X := One q) rfl _ _ (Fr.refl _ _)
  have hS : Bx w (Y.drew.setCells q 46 (nums ms)) t ra ma rl rc ml mc := HXM.out.1.fr hF HQ.out.1
  refine Go.Proofs.step_copy_runI rfl (.tmp 44) (.tmp 46) 26 26 rfl (.slice (some ⟨q, 46, none⟩) 256 256) (.slice ma ml mc) rfl rfl (HCm.out _ q Y.drew ((HSn.out.2).up HXM.out.1.b) (fun j hj => (by have e := HXM.out.2.1.m j (Nat.lt_of_lt_of_le hj H32.out.2); exact (congrArg Option.isSome e).trans rfl)) (fun j => HXM.out.2.1.fz _)) ?_
  refine hK.out _ _ (hS.s.c 1 _ rfl) (fun hHeld => ?_)
  clear hK K
  refine wpAnyH_done (by kernel_rfl) ?_ _
  refine hK1 _ _ ?_
  clear hK1 K1
  have HXZ : Hid (Below w.heap.size w (Y.drew.setCells q 46 (nums ms)) ∧ MC (Y.drew.setCells q 46 (nums ms)) t ls.length (newH q (some ⟨b, 0, none⟩) ls.length) (newM rs ms) ∧ Below q w1 (Y.drew.setCells q 46 (nums ms))) := ⟨hS.b, HsM.out HXM.out.2.1, HXM.out.2.2.trans (hF.below (Nat.le_of_lt HXM.out.2.1.lt) fun k hk e => by have e : k = q := e; omega)⟩
  clear HXM hF hS hHeld
  generalize Y.drew.setCells q 46 (nums ms) = Z at *
  simp only [Act.put, List.setIfInBounds_toArray, List.set_cons_zero, List.set_cons_succ, List.getElem_cons_zero, List.getElem_cons_succ, List.getElem_toArray]
  go_wp2_with fail
  go_ret2
  obtain ⟨h1, h2, h3⟩ := HXZ.out
  have hq : w.heap.size + 1 < q := HQ.out.1
  refine ⟨q, _, _, rfl, mch_new h2 fun V hV => HQ.out.2.1 V (h3.trans hV), h1, by omega, fun V hV => HQ.out.2.2 _ V h3 hV⟩
theorem new_any (ao ra ma : Option Addr) (n cap rc mc : Nat) (v : Nat → Int) (t : Tab) (rs ms : List Int) (w : World) (hx : Ws w ao n v) (hc : n ≤ cap) (hG : Bnds w) (hn : n ≤ 17592186044416) (h : deE t v n = 0) (hr : NL w ra rs) (hm : NL w ma ms) (h32 : rs.length ≤ 32) (h256 : ms.length ≤ 256) (ls : List Bn) (hls : deL t v (n / ofs t 4) = ls) (hl : ls.length = n / ofs t 4) :
    Calls Tryd.prog 9 #[.slice ao n cap, t.val, .agg #[.slice ra rs.length rc, .slice ma ms.length mc]] w fun e w' => ∃ q r c, e = .returned (.tuple #[ptr q, .int .i64 0]) ∧ Mch w' t ls (newH q r c) (newM rs ms) ∧ Below w.heap.size w w' ∧ w.heap.size ≤ q := by
  refine (new_far ao ra ma n cap rc mc v t rs ms w hx hc hG hn h hr hm h32 h256 ls hls hl).mono ?_
  rintro e w' ⟨q, r, c, h1, h2, h3, h4, -⟩
  exact ⟨q, r, c, h1, h2, h3, h4⟩
end Go.Proofs.YtldfjlepbbmhnaaDoor.Pp
namespace Go.Proofs.YtldfjlepbbmhnaaDoor.Pp
open Go.ChangeShapes Go.WideShapes Go.ChangeAt Go.RowKit
open _root_.Go.Proofs.YtldfjlepbbmhnaaDoor.Op _root_.Go.Proofs.YtldfjlepbbmhnaaDoor.So _root_.Go.Proofs.YtldfjlepbbmhnaaDoor.Bu
open _root_.Go.Proofs.YtldfjlepbbmhnaaDoor.Tb (Tab TabAt Bnds tabAt_new)
set_option maxRecDepth 20000

def oneT : Tab := ⟨fun _ => 1, fun k => if k = 1 then 3 else if k = 2 then 2 else 1, fun _ => 1, 1⟩
theorem one_any (w : World) : Calls Tryd.prog 25 #[] w fun e w' => e = .returned oneT.val ∧ Below w.heap.size w w' := by
  go_enter Tryd.func25, Tryd.ntmps25
  go_wp2_with fail
  exact bodyPost_ret (v := oneT.val) (by simp [results, Tryd.results25, go_sem, Tb.Tab.val, oneT]) rfl ⟨rfl, by go_grown⟩
def rowB (k : Nat) (o : O) : Bn := ⟨fun j => if j = k then [o] else []⟩
def rowP (k b : Nat) : Pb := ⟨fun j => if j = k then some ⟨b, 0, none⟩ else none, fun j => if j = k then 1 else 0⟩
theorem row_in {w : World} {k b : Nat} {o : O} (ho : o.Ok) (h : OAt w b 0 o) (hb : b < w.heap.size) : BnIn w (rowB k o) (rowP k b) := ⟨fun j _ => by
  by_cases e : j = k
  · subst e
    refine ⟨fun x hx => ?_, by simp [rowB], fun _ => ⟨b, 0, by simp [rowP], hb, fun i hi => ?_⟩⟩
    · simp [rowB] at hx; subst hx; exact ho
    · have : i = 0 := by simp [rowB] at hi; exact hi
      subst this
      simpa [rowB] using h
  · refine ⟨fun x hx => ?_, by simp [rowB, e], fun h0 => ?_⟩
    · simp [rowB, e] at hx
    · simp [rowB, e] at h0⟩
theorem oat_last (X : World) (n : Nat) (o : O) (hz : X.heap.size = n) : OAt (X.alloc (.cells o.cells 55)) n 0 o := by
  subst hz
  exact ⟨by simp, by simp, by simp, by simp, by simp⟩
def RowPost (k : Nat) (o : O) (w : World) (e : Ending) (w' : World) : Prop := ∃ b, e = .returned (bval (rowB k o) (rowP k b)) ∧ BnIn w' (rowB k o) (rowP k b) ∧ Below w.heap.size w w'
theorem row_1 (o : O) (ho : o.Ok) (w : World) : Calls Tryd.prog 22 #[.int .i64 1, o.val] w (RowPost 1 o w) := by
  have HO : Hid o.Ok := ho
  clear ho
  obtain ⟨o0, o1, o2, o3, o4⟩ := o
  go_enter Tryd.func22, Tryd.ntmps22
  go_wp2_with fail
  refine bodyPost_ret (v := bval (rowB 1 ⟨o0, o1, o2, o3, o4⟩) (rowP 1 (w.heap.size + 3))) (by simp [results, Tryd.results22, go_sem, rowB, rowP]) rfl ?_
  refine ⟨w.heap.size + 3, rfl, row_in HO.out ?_ (by simp), by go_grown⟩
  refine oat_last _ _ ⟨o0, o1, o2, o3, o4⟩ ?_
  simp
theorem row_2 (o : O) (ho : o.Ok) (w : World) : Calls Tryd.prog 22 #[.int .i64 2, o.val] w (RowPost 2 o w) := by
  have HO : Hid o.Ok := ho
  clear ho
  obtain ⟨o0, o1, o2, o3, o4⟩ := o
  go_enter Tryd.func22, Tryd.ntmps22
  go_wp2_with fail
  refine bodyPost_ret (v := bval (rowB 2 ⟨o0, o1, o2, o3, o4⟩) (rowP 2 (w.heap.size + 3))) (by simp [results, Tryd.results22, go_sem, rowB, rowP]) rfl ?_
  refine ⟨w.heap.size + 3, rfl, row_in HO.out ?_ (by simp), by go_grown⟩
  refine oat_last _ _ ⟨o0, o1, o2, o3, o4⟩ ?_
  simp
theorem row_3 (o : O) (ho : o.Ok) (w : World) : Calls Tryd.prog 22 #[.int .i64 3, o.val] w (RowPost 3 o w) := by
  have HO : Hid o.Ok := ho
  clear ho
  obtain ⟨o0, o1, o2, o3, o4⟩ := o
  go_enter Tryd.func22, Tryd.ntmps22
  go_wp2_with fail
  refine bodyPost_ret (v := bval (rowB 3 ⟨o0, o1, o2, o3, o4⟩) (rowP 3 (w.heap.size + 3))) (by simp [results, Tryd.results22, go_sem, rowB, rowP]) rfl ?_
  refine ⟨w.heap.size + 3, rfl, row_in HO.out ?_ (by simp), by go_grown⟩
  refine oat_last _ _ ⟨o0, o1, o2, o3, o4⟩ ?_
  simp
theorem numbers_yes (ba bb ca cb : Nat) (x y : Int) (w : World) (a0 : w.cell? ⟨ba, 0, none⟩ = some (.int .i64 x)) (a1 : w.cell? ⟨ba, 1, none⟩ = some (.int .i64 y)) (b0 : w.cell? ⟨bb, 0, none⟩ = some (.int .i64 x)) (b1 : w.cell? ⟨bb, 1, none⟩ = some (.int .i64 y)) (la : ba < w.heap.size) (lb : bb < w.heap.size) :
    Calls Tryd.prog 19 #[.slice (some ⟨ba, 0, none⟩) 2 ca, .slice (some ⟨bb, 0, none⟩) 2 cb] w fun e w' => e = .returned (.bool true) ∧ Below w.heap.size w w' := by
  go_enter Tryd.func19, Tryd.ntmps19
  go_wp2_with fail
  go_loopw [5] (fun i wr => ∃ k : Nat, k ≤ 2 ∧ i = .int .i64 k ∧ Below w.heap.size w wr) (fun i _ => 2 - (intOf i).toNat)
  case atStart => exact ⟨0, by omega, rfl, Below.refl _ _⟩
  case round =>
    rename World => wr
    obtain ⟨k, hk, rfl, hb⟩ := hrel
    have HB : Hid (Below w.heap.size w wr) := hb
    have c0 := ((bcell hb).1 _ 0 la).trans a0
    have c1 := ((bcell hb).1 _ 1 la).trans a1
    have d0 := ((bcell hb).1 _ 0 lb).trans b0
    have d1 := ((bcell hb).1 _ 1 lb).trans b1
    clear hb a0 a1 b0 b1 la lb
    rcases (by omega : k = 0 ∨ k = 1 ∨ k = 2) with rfl | rfl | rfl
    · go_wp2_with fail
      go_quiet (fail)
      go_wp2_with fail
      exact ⟨⟨1, by omega, rfl, drewN_below HB.out _⟩, by simp [intOf]⟩
    · go_wp2_with fail
      go_quiet (fail)
      go_wp2_with fail
      exact ⟨⟨2, by omega, rfl, drewN_below HB.out _⟩, by simp [intOf]⟩
    · go_wp2_with fail
      go_ret
      exact ⟨rfl, HB.out⟩
end Go.Proofs.YtldfjlepbbmhnaaDoor.Pp
