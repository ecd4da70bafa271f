/- What package table's Check answers, and the document's: read off the program by the walk. Conditions: the four bounds lie in memory as the program lays them. -/
import Derived.Test.YtldfjlepbbmhnaaDoorKa
namespace Go.Proofs.YtldfjlepbbmhnaaDoor.Tb
open Go.ChangeShapes Go.WideShapes Go.ChangeAt Go.RowKit
open Go.Proofs.YtldfjlepbbmhnaaDoor.Op (ret_bool ret_int bcell Wd wp_region_in calls_in)

/-- A machine's table: of each class three numbers, and the delay. -/
structure Tab where
  u : Nat → Int
  l : Nat → Int
  b : Nat → Int
  d : Int

abbrev Tab.cells (t : Tab) : Array Value := #[.int .i64 (t.u 0), .int .i64 (t.u 1), .int .i64 (t.u 2), .int .i64 (t.u 3), .int .i64 (t.l 0), .int .i64 (t.l 1), .int .i64 (t.l 2), .int .i64 (t.l 3), .int .i64 (t.b 0), .int .i64 (t.b 1), .int .i64 (t.b 2), .int .i64 (t.b 3), .int .i64 t.d]
def Tab.val (t : Tab) : Value := .agg #[.int .i64 (t.u 0), .int .i64 (t.u 1), .int .i64 (t.u 2), .int .i64 (t.u 3), .int .i64 (t.l 0), .int .i64 (t.l 1), .int .i64 (t.l 2), .int .i64 (t.l 3), .int .i64 (t.b 0), .int .i64 (t.b 1), .int .i64 (t.b 2), .int .i64 (t.b 3), .int .i64 t.d]

def inB (lo hi n : Int) : Bool := decide (lo ≤ n) && decide (n ≤ hi)

theorem hold_eq (lo hi n : Int) (w : World) :
    Calls Tryd.prog 55 #[.agg #[.int .i64 lo, .int .i64 hi], .int .i64 n] w fun e w' => e = .returned (.bool (inB lo hi n)) ∧ w' = w.alloc (.cells #[.int .i64 lo, .int .i64 hi] 123) := by
  by_cases h : lo ≤ n
  · go_enter Tryd.func55, Tryd.ntmps55
    go_wp2
    go_ret
    exact ⟨ret_bool (by simp [inB, h]), rfl⟩
  · go_enter Tryd.func55, Tryd.ntmps55
    go_wp2
    go_ret
    exact ⟨ret_bool (by simp [inB]; omega), rfl⟩

theorem hold_any (lo hi n : Int) (w : World) :
    Calls Tryd.prog 55 #[.agg #[.int .i64 lo, .int .i64 hi], .int .i64 n] w fun e w' => e = .returned (.bool (inB lo hi n)) ∧ Below w.heap.size w w' :=
  (hold_eq lo hi n w).mono fun _ _ h => ⟨h.1, by rw [h.2]; exact (Below.refl _ _).alloc (Nat.le_refl _) _⟩

/-- The four bounds, as the program lays them: blocks 0 to 3. -/
structure Bnds (w : World) : Prop where
  d0 : w.cell? ⟨0, 0, none⟩ = some (.int .i64 0)
  d1 : w.cell? ⟨0, 1, none⟩ = some (.int .i64 4)
  u0 : w.cell? ⟨1, 0, none⟩ = some (.int .i64 0)
  u1 : w.cell? ⟨1, 1, none⟩ = some (.int .i64 8)
  l0 : w.cell? ⟨2, 0, none⟩ = some (.int .i64 1)
  l1 : w.cell? ⟨2, 1, none⟩ = some (.int .i64 8)
  b0 : w.cell? ⟨3, 0, none⟩ = some (.int .i64 1)
  b1 : w.cell? ⟨3, 1, none⟩ = some (.int .i64 4)
  big : 5 ≤ w.heap.size

theorem Bnds.below {B : Nat} {w w' : World} (h : Bnds w) (hb : Below B w w') (hB : 5 ≤ B) : Bnds w' := by
  have c := (bcell hb).1
  have z := h.big
  have hs := hb.size
  exact ⟨by rw [c _ _ (by omega)]; exact h.d0, by rw [c _ _ (by omega)]; exact h.d1, by rw [c _ _ (by omega)]; exact h.u0, by rw [c _ _ (by omega)]; exact h.u1, by rw [c _ _ (by omega)]; exact h.l0, by rw [c _ _ (by omega)]; exact h.l1, by rw [c _ _ (by omega)]; exact h.b0, by rw [c _ _ (by omega)]; exact h.b1, by omega⟩

def okC (t : Tab) (k : Nat) : Bool := inB 0 8 (t.u k) && inB 1 8 (t.l k) && inB 1 4 (t.b k)
def Tab.ok (t : Tab) : Bool := inB 0 4 t.d && okC t 0 && okC t 1 && okC t 2 && okC t 3

/-- A table's numbers, laid in a block. -/
structure TabAt (w : World) (b : Nat) (t : Tab) : Prop where
  cu : ∀ k, k < 4 → w.cell? ⟨b, k, none⟩ = some (.int .i64 (t.u k))
  cl : ∀ k, k < 4 → w.cell? ⟨b, 4 + k, none⟩ = some (.int .i64 (t.l k))
  cb : ∀ k, k < 4 → w.cell? ⟨b, 8 + k, none⟩ = some (.int .i64 (t.b k))
  cd : w.cell? ⟨b, 12, none⟩ = some (.int .i64 t.d)
  lt : b < w.heap.size

theorem TabAt.below {B : Nat} {w w' : World} {b : Nat} {t : Tab} (h : TabAt w b t) (hb : Below B w w') (z : b < B) : TabAt w' b t := by
  have c := (bcell hb).1
  have z' := h.lt
  have hs := hb.size
  exact ⟨fun k hk => by rw [c _ _ z]; exact h.cu k hk, fun k hk => by rw [c _ _ z]; exact h.cl k hk, fun k hk => by rw [c _ _ z]; exact h.cb k hk, by rw [c _ _ z]; exact h.cd, by omega⟩

theorem four {p : Nat → Prop} (h0 : p 0) (h1 : p 1) (h2 : p 2) (h3 : p 3) : ∀ k, k < 4 → p k := by
  intro k hk
  match k, hk with
  | 0, _ => exact h0
  | 1, _ => exact h1
  | 2, _ => exact h2
  | 3, _ => exact h3

theorem tabAt_new (w : World) (t : Tab) (ty : TypeId) : TabAt (w.alloc (.cells t.cells ty)) w.heap.size t :=
  ⟨four (by simp [Tab.cells]) (by simp [Tab.cells]) (by simp [Tab.cells]) (by simp [Tab.cells]), four (by simp [Tab.cells]) (by simp [Tab.cells]) (by simp [Tab.cells]) (by simp [Tab.cells]), four (by simp [Tab.cells]) (by simp [Tab.cells]) (by simp [Tab.cells]) (by simp [Tab.cells]), by simp [Tab.cells], by simp⟩

def ckR (t : Tab) : Int := if t.ok then 0 else 20
theorem ckR_no {t : Tab} {k : Nat} (hk : k < 4) (h : okC t k = false) : 20 = ckR t := by
  have : t.ok = false := by
    unfold Tab.ok
    match k, hk, h with
    | 0, _, h => simp [h]
    | 1, _, h => simp [h]
    | 2, _, h => simp [h]
    | 3, _, h => simp [h]
  simp [ckR, this]
theorem ckR_yes {t : Tab} (hd : inB 0 4 t.d = true) (h : ∀ j, j < 4 → okC t j = true) : 0 = ckR t := by
  simp [ckR, Tab.ok, hd, h 0, h 1, h 2, h 3]

set_option maxHeartbeats 400000 in
theorem check_any (t : Tab) (w : World) (hG : Bnds w) :
    Calls Tryd.prog 35 #[t.val] w fun e w' => e = .returned (.int .i64 (ckR t)) ∧ Below w.heap.size w w' := by
  have hz := hG.big
  have hG0 : Hid (Bnds w) := hG
  obtain ⟨d0, d1, u0, u1, l0, l1, b0, b1, _⟩ := hG
  have z1 : 0 < w.heap.size := by omega
  cases hd : inB 0 4 t.d
  · unfold Tab.val
    go_enter Tryd.func35, Tryd.ntmps35
    go_wp2_with (first | (go_at_call 55; refine (hold_eq _ _ _ _).mono ?_; rintro e w' ⟨rfl, rfl⟩))
    go_ret
    exact ⟨ret_int (by simp [ckR, Tab.ok, hd]), ((Below.refl _ _).alloc (Nat.le_refl _) _).alloc (by simp) _⟩
  · unfold Tab.val
    go_enter Tryd.func35, Tryd.ntmps35
    go_wp2_with (first | (go_at_call 55; refine (hold_eq _ _ _ _).mono ?_; rintro e w' ⟨rfl, rfl⟩))
    go_loopw [9] (fun i wr => ∃ k : Nat, k ≤ 4 ∧ i = .int .i64 k ∧ (∀ j, j < k → okC t j = true) ∧ Bnds wr ∧ TabAt wr w.heap.size t ∧ Below w.heap.size w wr) (fun i _ => 4 - (intOf i).toNat)
    case atStart => 
      have hb1 : Below w.heap.size w (w.alloc (.cells t.cells 25)) := (Below.refl _ _).alloc (Nat.le_refl _) _
      have hb2 : Below (w.heap.size + 1) (w.alloc (.cells t.cells 25)) ((w.alloc (.cells t.cells 25)).alloc (Obj.cells #[Value.int IntKind.i64 0, Value.int IntKind.i64 4] 123)) := (Below.refl _ _).alloc (by simp) _
      exact ⟨0, by omega, rfl, fun j hj => by omega, (hG0.out.below hb1 hz).below hb2 (by omega), (tabAt_new w t 25).below hb2 (by omega), hb1.trans (hb2.mono (by omega))⟩
    case round =>
      rename_i wr
      obtain ⟨k, hk, rfl, hok, hGr, hT, hbw⟩ := hrel
      by_cases hlt : k < 4
      · have hGr' := hGr
        obtain ⟨e0, e1, u0', u1', l0', l1', b0', b1', hz'⟩ := hGr'
        have hu := hT.cu k hlt
        have hl := hT.cl k hlt
        have hbb := hT.cb k hlt
        have i1 : (0 : Int) ≤ (k : Int) := by omega
        have i2 : (k : Int) < 4 := by omega
        have hz2 : 5 ≤ wr.heap.size := hz'
        have c20 : ∀ x : Wd (Below wr.heap.size wr), x.w.cell? ⟨1, 0, none⟩ = some (.int .i64 0) := fun x => by rw [(bcell x.ok).1 _ _ (by omega)]; exact u0'
        have c21 : ∀ x : Wd (Below wr.heap.size wr), x.w.cell? ⟨1, 1, none⟩ = some (.int .i64 8) := fun x => by rw [(bcell x.ok).1 _ _ (by omega)]; exact u1'
        have c30 : ∀ x : Wd (Below wr.heap.size wr), x.w.cell? ⟨2, 0, none⟩ = some (.int .i64 1) := fun x => by rw [(bcell x.ok).1 _ _ (by omega)]; exact l0'
        have c31 : ∀ x : Wd (Below wr.heap.size wr), x.w.cell? ⟨2, 1, none⟩ = some (.int .i64 8) := fun x => by rw [(bcell x.ok).1 _ _ (by omega)]; exact l1'
        have c40 : ∀ x : Wd (Below wr.heap.size wr), x.w.cell? ⟨3, 0, none⟩ = some (.int .i64 1) := fun x => by rw [(bcell x.ok).1 _ _ (by omega)]; exact b0'
        have c41 : ∀ x : Wd (Below wr.heap.size wr), x.w.cell? ⟨3, 1, none⟩ = some (.int .i64 4) := fun x => by rw [(bcell x.ok).1 _ _ (by omega)]; exact b1'
        have cu : ∀ x : Wd (Below wr.heap.size wr), x.w.cell? ⟨w.heap.size, k, none⟩ = some (.int .i64 (t.u k)) := fun x => by rw [(bcell x.ok).1 _ _ hT.lt]; exact hu
        have cl : ∀ x : Wd (Below wr.heap.size wr), x.w.cell? ⟨w.heap.size, 4 + k, none⟩ = some (.int .i64 (t.l k)) := fun x => by rw [(bcell x.ok).1 _ _ hT.lt]; exact hl
        have cb : ∀ x : Wd (Below wr.heap.size wr), x.w.cell? ⟨w.heap.size, 8 + k, none⟩ = some (.int .i64 (t.b k)) := fun x => by rw [(bcell x.ok).1 _ _ hT.lt]; exact hbb
        haveI inst : Nonempty (Wd (Below wr.heap.size wr)) := ⟨⟨wr, Below.refl _ _⟩⟩
        cases h1 : inB 0 8 (t.u k)
        rotate_left
        cases h2 : inB 1 8 (t.l k)
        rotate_left
        cases h3 : inB 1 4 (t.b k)
        rotate_left
        all_goals
          go_wp2
          refine wp_region_in (Below wr.heap.size wr) (by kernel_rfl) (by kernel_rfl) ((Below.refl _ _).drew) ?_
          repeat (first | go_big_quiet_step ((go_at_call 55; exact calls_in (Nat.le_refl _) _ (hold_any _ _ _ _))))
          refine wpQuiet_nil ?_
          rintro _ ⟨x, rfl⟩
          have hx := x.ok
          go_wp2
        · go_roundw
          case rel => exact ⟨k + 1, by omega, by go_num, fun j hj => by
            rcases Nat.lt_or_ge j k with h | h
            · exact hok j h
            · obtain rfl : j = k := by omega
              simp [okC, h1, h2, h3], hGr.below hx hz2, hT.below hx hT.lt, hbw.trans (hx.mono hbw.size)⟩
          case measure => simp [intOf]; omega
        all_goals
          go_ret
          refine ⟨ret_int (ckR_no hlt ?_), hbw.trans (hx.mono hbw.size)⟩
          simp [okC, *]
      · obtain rfl : k = 4 := by omega
        go_wp2
        go_ret
        exact ⟨ret_int (ckR_yes hd hok), hbw⟩

theorem inB_iff {lo hi n : Int} (h : inB lo hi n = true) : lo ≤ n ∧ n ≤ hi := by simpa [inB] using h
theorem ok_parts {t : Tab} (h : t.ok = true) : inB 0 4 t.d = true ∧ ∀ k, k < 4 → inB 0 8 (t.u k) = true ∧ inB 1 8 (t.l k) = true ∧ inB 1 4 (t.b k) = true := by
  simp only [Tab.ok, okC, Bool.and_eq_true] at h
  obtain ⟨⟨⟨⟨a, b⟩, c⟩, d⟩, e⟩ := h
  exact ⟨a, four ⟨b.1.1, b.1.2, b.2⟩ ⟨c.1.1, c.1.2, c.2⟩ ⟨d.1.1, d.1.2, d.2⟩ ⟨e.1.1, e.1.2, e.2⟩⟩

end Go.Proofs.YtldfjlepbbmhnaaDoor.Tb
