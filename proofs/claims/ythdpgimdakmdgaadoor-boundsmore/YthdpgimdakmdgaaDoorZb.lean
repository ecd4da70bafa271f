/- Package bounds: how many operations of each class there are, whether there are units, how many cycles they take (classOf, countsOf, haveUnits, divideUp, byUnits), read off the program by the walk. Conditions: the list lies in memory. -/
import Derived.Test.YthdpgimdakmdgaaDoorZa
import Derived.Test.YthdpgimdakmdgaaDoorPm
import Derived.Test.YthdpgimdakmdgaaDoorKx
import Derived.Deep.DeepCutAuto
import Derived.Deep.OwnRows
namespace Go.Proofs.YthdpgimdakmdgaaDoor.Bn
open Go.ChangeShapes Go.WideShapes Go.ChangeAt Go.RowKit
open _root_.Go.Proofs.YthdpgimdakmdgaaDoor.Op _root_.Go.Proofs.YthdpgimdakmdgaaDoor.So
open _root_.Go.Proofs.YthdpgimdakmdgaaDoor.Dp (Ed)
open _root_.Go.Proofs.YthdpgimdakmdgaaDoor.Tb (Tab TabAt Bnds)
set_option maxRecDepth 20000

/-- The class of an operation of a list. -/
def clD (d : Int) : Nat := if 15 ≤ d then 2 else if 12 ≤ d then 1 else 0
theorem clD_lt (d : Int) : clD d < 3 := by unfold clD; split; · omega
                                           · split <;> omega
set_option maxHeartbeats 1000000 in
theorem classOf_any (o : O) (w : World) : Calls Tryd.prog 48 #[o.val] w fun e w' => e = .returned (.int .i64 (clD o.op : Int)) ∧ Below w.heap.size w w' := by
  unfold clD
  by_cases h1 : 15 ≤ o.op
  · rw [if_pos h1]
    go_enter Tryd.func48, Tryd.ntmps48
    go_wp2
    go_ret
    exact ⟨rfl, by go_grown⟩
  · rw [if_neg h1]
    by_cases h2 : 12 ≤ o.op
    · rw [if_pos h2]
      go_enter Tryd.func48, Tryd.ntmps48
      go_wp2
      go_ret
      exact ⟨rfl, by go_grown⟩
    · rw [if_neg h2]
      go_enter Tryd.func48, Tryd.ntmps48
      go_wp2
      go_ret
      exact ⟨rfl, by go_grown⟩
/-- A row of numbers at the beginning of a block. -/
structure Iv (W : World) (b n : Nat) (h : Nat → Int) : Prop where
  c : ∀ k, k < n → W.cell? ⟨b, k, none⟩ = some (.int .i64 (h k))
  f : ∀ k, W.frozen? ⟨b, k, none⟩ = false
  lt : b < W.heap.size
theorem Iv.fr {X : Nat → Prop} {W W' : World} {b n : Nat} {h : Nat → Int} (a : Iv W b n h) (g : So.Fr X W W') (hx : ¬ X b) : Iv W' b n h :=
  ⟨fun k hk => (g.cell a.lt hx k).trans (a.c k hk), fun k => (g.frozen a.lt hx k).trans (a.f k), Nat.lt_of_lt_of_le a.lt g.size⟩
theorem Iv.up {W W' : World} {b n : Nat} {h : Nat → Int} (a : Iv W b n h) (g : Below W.heap.size W W') : Iv W' b n h := a.fr (So.Fr.of (X := So.Non) g) fun h => h
theorem Iv.set {W : World} {b n : Nat} {h : Nat → Int} (a : Iv W b n h) {k : Nat} (hk : k < n) (v : Int) : Iv (W.setCell ⟨b, k, none⟩ (.int .i64 v)) b n (up1 h k v) := by
  refine ⟨fun j hj => ?_, fun j => by rw [World.frozen?_setCell]; exact a.f j, by simpa using a.lt⟩
  by_cases e : j = k
  · subst e
    rw [up1_same, World.cell?_setCell_same _ _ _ (a.c j hj)]
  · rw [up1_other _ _ e, World.cell?_setCell_other]
    · exact a.c j hj
    · intro h'; injection h' with _ h2; exact e h2.symm
theorem Iv.same {W : World} {b n : Nat} {h g : Nat → Int} (a : Iv W b n h) (e : ∀ k, k < n → h k = g k) : Iv W b n g := ⟨fun k hk => by rw [← e k hk]; exact a.c k hk, a.f, a.lt⟩
/-- How many operations of each class. -/
def ctL (xs : List O) : Nat → Int := xs.foldl (fun f o => up1 f (clD o.op) (f (clD o.op) + 1)) fun _ => 0
theorem ctL_next {xs : List O} {k : Nat} (h : k < xs.length) : ctL (xs.take (k + 1)) = up1 (ctL (xs.take k)) (clD xs[k].op) (ctL (xs.take k) (clD xs[k].op) + 1) := by
  unfold ctL
  rw [List.take_add_one, List.getElem?_eq_getElem h, List.foldl_append]
  rfl
theorem ctL_put (xs : List O) (o : O) : ctL (xs ++ [o]) = up1 (ctL xs) (clD o.op) (ctL xs (clD o.op) + 1) := by
  unfold ctL
  rw [List.foldl_append]
  rfl
theorem ctL_take (xs : List O) (c : Nat) : ∀ k, k ≤ xs.length → 0 ≤ ctL (xs.take k) c ∧ ctL (xs.take k) c ≤ k
  | 0, _ => by unfold ctL; simp
  | k + 1, h => by
    have ih := ctL_take xs c k (by omega)
    rw [ctL_next (by omega)]
    unfold up1
    split
    · rename_i e; rw [← e]; omega
    · omega
theorem ctL_in (xs : List O) (c : Nat) : 0 ≤ ctL xs c ∧ ctL xs c ≤ xs.length := by
  have := ctL_take xs c xs.length (Nat.le_refl _)
  rw [List.take_length] at this
  exact this
theorem ctL_3 (xs : List O) : ctL xs 3 = 0 := by
  have h : ∀ k, k ≤ xs.length → ctL (xs.take k) 3 = 0 := fun k => by
    induction k with
    | zero => intro _; unfold ctL; simp
    | succ k ih =>
      intro h
      rw [ctL_next (by omega), up1_other _ _ (by have := clD_lt xs[k].op; omega)]
      exact ih (by omega)
  have := h xs.length (Nat.le_refl _)
  rw [List.take_length] at this
  exact this
/-- With the operation that turns back. -/
def cts (xs : List O) : Nat → Int := up1 (ctL xs) 3 (ctL xs 3 + 1)
theorem cts_in (xs : List O) (c : Nat) : 0 ≤ cts xs c ∧ cts xs c ≤ xs.length + 1 := by
  have h1 := ctL_in xs c; have h2 := ctL_in xs 3
  unfold cts up1
  split <;> omega
theorem cts_3 (xs : List O) : cts xs 3 = 1 := by unfold cts; rw [up1_same, ctL_3]; rfl
theorem cts_lo (xs : List O) {c : Nat} (h : ¬ c = 3) : cts xs c = ctL xs c := by unfold cts; rw [up1_other _ _ h]
/-- The counts under way. -/
structure Cw (w W : World) (f : Nat → Int) : Prop where
  r : Iv W w.heap.size 4 fun _ => 0
  c : Iv W (w.heap.size + 1) 4 f
  up : Below w.heap.size w W
theorem Cw.next {w W W' : World} {f : Nat → Int} (h : Cw w W f) (g : Below W.heap.size W W') : Cw w W' f := ⟨h.r.up g, h.c.up g, h.up.trans (g.mono h.up.size)⟩
theorem Cw.set {w W : World} {f : Nat → Int} (h : Cw w W f) {k : Nat} (hk : k < 4) (v : Int) : Cw w (W.setCell ⟨w.heap.size + 1, k, none⟩ (.int .i64 v)) (up1 f k v) :=
  ⟨h.r.fr ((So.Fr.refl (So.One (w.heap.size + 1)) W).setCell (.inr rfl) _ _) (by show ¬ w.heap.size = w.heap.size + 1; omega), h.c.set hk v, h.up.setCell (by show w.heap.size ≤ w.heap.size + 1; omega) _⟩
abbrev z4 : Array Value := #[.int .i64 0, .int .i64 0, .int .i64 0, .int .i64 0]
theorem iv_new (w : World) (t : TypeId) : Iv (w.alloc (.cells z4 t)) w.heap.size 4 fun _ => 0 := by
  have h := At.new w z4 t
  refine ⟨fun k hk => ?_, h.f, h.lt⟩
  match k, hk with
  | 0, _ => exact h.c 0 _ rfl
  | 1, _ => exact h.c 1 _ rfl
  | 2, _ => exact h.c 2 _ rfl
  | 3, _ => exact h.c 3 _ rfl
theorem cw_start (w : World) : Cw w ((w.alloc (.cells z4 23)).alloc (.cells z4 23)) fun _ => 0 := by
  have a2 := iv_new (w.alloc (.cells z4 23)) 23
  rw [show (w.alloc (.cells z4 23)).heap.size = w.heap.size + 1 by simp] at a2
  exact ⟨(iv_new w 23).up ((Below.refl _ _).alloc (Nat.le_refl _) _), a2, by go_grown⟩
def agg4 (f : Nat → Int) : Value := .agg #[.int .i64 (f 0), .int .i64 (f 1), .int .i64 (f 2), .int .i64 (f 3)]
set_option maxHeartbeats 4000000 in
theorem countsOf_any (ao : Option Addr) (cap : Nat) (xs : List O) (w : World) (h : OpsAt w ao xs) :
    Calls Tryd.prog 28 #[.slice ao xs.length cap] w fun e w' => e = .returned (agg4 (cts xs)) ∧ Below w.heap.size w w' := by
  have HO : Hid (OpsAt w ao xs) := h
  have hlen := h.len
  have HCl : Hid (∀ (o : O) W, Calls Tryd.prog 48 #[o.val] W fun e w' => e = .returned (.int .i64 (clD o.op : Int)) ∧ Below W.heap.size W w') := fun o W => classOf_any o W
  have HS : Hid (Cw w ((w.alloc (.cells z4 23)).alloc (.cells z4 23)) (ctL (xs.take 0))) := cw_start w
  clear h
  go_enter Tryd.func28, Tryd.ntmps28
  go_upto_region 2 with fail
  generalize ((w.alloc (.cells z4 23)).alloc (.cells z4 23)) = V at *
  go_wp2_with fail
  go_loopw [8] (fun v wr => ∃ k : Nat, k ≤ xs.length ∧ v = .int .i64 k ∧ Cw w wr (ctL (xs.take k))) (fun v _ => xs.length - (intOf v).toNat)
  case atStart => exact ⟨0, by omega, rfl, HS.out⟩
  case round =>
    rename World => wr
    obtain ⟨k, hk, rfl, hs⟩ := hrel
    have HQ : Hid (Cw w wr (ctL (xs.take k))) := hs
    clear hs HS
    by_cases hlt : k < xs.length
    · have k0 : (0 : Int) ≤ (k : Int) := by omega
      have k1 : (k : Int) < (xs.length : Int) := by omega
      obtain ⟨b, f, rfl, hz2, hx⟩ := (HO.out.below HQ.out.up).is (by omega)
      obtain ⟨q0, q1, q2, q3, q4⟩ := hx k hlt
      have HNx : Hid (ctL (xs.take (k + 1)) = up1 (ctL (xs.take k)) (clD xs[k].op) (ctL (xs.take k) (clD xs[k].op) + 1)) := ctL_next hlt
      have HQ2 : Hid (Cw w (wr.alloc (.cells #[.int .i8 xs[k].op, .int .u8 xs[k].d, .int .u8 xs[k].a, .int .u8 xs[k].b, .int .i64 xs[k].im] 33)) (ctL (xs.take k)) ∧ At (wr.alloc (.cells #[.int .i8 xs[k].op, .int .u8 xs[k].d, .int .u8 xs[k].a, .int .u8 xs[k].b, .int .i64 xs[k].im] 33)) wr.heap.size #[.int .i8 xs[k].op, .int .u8 xs[k].d, .int .u8 xs[k].a, .int .u8 xs[k].b, .int .i64 xs[k].im]) := ⟨HQ.out.next ((Below.refl _ _).alloc (Nat.le_refl _) _), At.new _ _ _⟩
      have cin := ctL_take xs (clD xs[k].op) k hk
      have hc3 := clD_lt xs[k].op
      have HC1 : Hid (∀ W, Calls Tryd.prog 48 #[xs[k].val] W fun e w' => e = .returned (.int .i64 (clD xs[k].op : Int)) ∧ Below W.heap.size W w') := fun W => HCl.out _ W
      clear hx
      generalize xs[k] = o at *
      go_upto_region 5 with fail
      have HX : Hid (Cw w (wr.alloc (.cells #[.int .i8 o.op, .int .u8 o.d, .int .u8 o.a, .int .u8 o.b, .int .i64 o.im] 33)) (ctL (xs.take k)) ∧ At (wr.alloc (.cells #[.int .i8 o.op, .int .u8 o.d, .int .u8 o.a, .int .u8 o.b, .int .i64 o.im] 33)) wr.heap.size #[.int .i8 o.op, .int .u8 o.d, .int .u8 o.a, .int .u8 o.b, .int .i64 o.im]) := HQ2.out
      generalize (wr.alloc (.cells #[.int .i8 o.op, .int .u8 o.d, .int .u8 o.a, .int .u8 o.b, .int .i64 o.im] 33)) = X at *
      generalize wr.heap.size = ob at *
      clear HQ HQ2 q0 q1 q2 q3 q4 hz2
      have s2 := HX.out.2
      have o0 := s2.c 0 _ rfl
      have o1 := s2.c 1 _ rfl
      have o2 := s2.c 2 _ rfl
      have o3 := s2.c 3 _ rfl
      have o4 := s2.c 4 _ rfl
      have ol := s2.lt
      clear s2
      generalize clD o.op = cl at *
      have cl0 : (0 : Int) ≤ (cl : Int) := by omega
      have cl1 : (cl : Int) < 4 := by omega
      generalize hct : ctL (xs.take k) = g at *
      obtain ⟨gv, hgv⟩ : ∃ gv, g cl = gv := ⟨_, rfl⟩
      rw [hgv] at cin HNx
      go_wp2_with (first
        | (go_at_call 48; refine Calls.mono (HC1.out _) ?_; rintro e w2 ⟨rfl, hb2⟩; have HQ3 : Hid (Cw w w2 g) := HX.out.1.next hb2; clear hb2 HC1 HX o0 o1 o2 o3 o4 ol; have cc := HQ3.out.c.c cl (by omega); rw [hgv] at cc; have cf := HQ3.out.c.f cl; have hl := HQ3.out.c.lt))
      go_roundw
      case rel => exact ⟨k + 1, by omega, by go_num, by rw [HNx.out]; exact HQ3.out.set (by omega) _⟩
      case measure => simp [intOf]; omega
    · obtain rfl : k = xs.length := by omega
      have k1 : ¬ (xs.length : Int) < (xs.length : Int) := by omega
      have HX : Hid (Cw w wr (ctL xs)) := by have h := HQ.out; rw [List.take_length] at h; exact h
      have HF : Hid (cts xs = up1 (ctL xs) 3 (ctL xs 3 + 1)) := rfl
      clear HQ
      have cin := ctL_in xs 3
      generalize hct : ctL xs = g at *
      have c3 := HX.out.c.c 3 (by omega)
      have cf := HX.out.c.f 3
      have hl := HX.out.c.lt
      go_upto_region 8 with fail
      have HY : Hid (Cw w (wr.setCell ⟨w.heap.size + 1, 3, none⟩ (.int .i64 (g 3 + 1))) (cts xs)) := by show Cw w _ _; rw [HF.out]; exact HX.out.set (by omega) _
      generalize (wr.setCell ⟨w.heap.size + 1, 3, none⟩ (.int .i64 (g 3 + 1))) = Y at *
      clear HX c3 cf hl
      obtain ⟨F, hF⟩ : ∃ F, cts xs = F := ⟨_, rfl⟩
      have HFF : Hid (cts xs = F) := hF
      rw [hF] at HY
      clear hF HF
      have d0 := HY.out.c.c 0 (by omega)
      have d1 := HY.out.c.c 1 (by omega)
      have d2 := HY.out.c.c 2 (by omega)
      have d3 := HY.out.c.c 3 (by omega)
      have dl := HY.out.c.lt
      have r0 := HY.out.r.c 0 (by omega)
      have r1 := HY.out.r.c 1 (by omega)
      have r2 := HY.out.r.c 2 (by omega)
      have r3 := HY.out.r.c 3 (by omega)
      have rf0 := HY.out.r.f 0
      have rf1 := HY.out.r.f 1
      have rf2 := HY.out.r.f 2
      have rf3 := HY.out.r.f 3
      have rl := HY.out.r.lt
      go_wp2_with fail
      refine bodyPost_ret (v := agg4 F) (by simp [results, Tryd.results28, go_sem, r0, r1, r2, r3, agg4]) rfl ⟨by rw [HFF.out], ?_⟩
      exact (((HY.out.up.setCell (Nat.le_refl _) _).setCell (Nat.le_refl _) _).setCell (Nat.le_refl _) _).setCell (Nat.le_refl _) _
/-- Whether there is a unit for each operation of a round. -/
def huB (t : Tab) (f : Nat → Int) : Nat → Bool
  | 0 => true
  | k + 1 => huB t f k && !(decide (0 < f k) && decide (t.u k = 0))
theorem huB_le {t : Tab} {f : Nat → Int} : ∀ {n k : Nat}, k < n → (decide (0 < f k) && decide (t.u k = 0)) = true → huB t f n = false
  | 0, _, h, _ => by omega
  | n + 1, k, h, e => by
    unfold huB
    by_cases c : k = n
    · subst c; rw [e]; simp
    · rw [huB_le (n := n) (k := k) (by omega) e]; rfl
/-- In how many cycles all operations find units. -/
def buI (t : Tab) (f : Nat → Int) : Nat → Int
  | 0 => 0
  | k + 1 => if 0 < f k then max (buI t f k) ((f k * t.b k + t.u k - 1).tdiv (t.u k)) else buI t f k
/-- A table in its box. -/
structure Tq (w W : World) (t : Tab) : Prop where
  t : TabAt W w.heap.size t
  up : Below w.heap.size w W
theorem Tq.start (w : World) (t : Tab) {W : World} (hb : Below (w.alloc (.cells t.cells 25)).heap.size (w.alloc (.cells t.cells 25)) W) : Tq w W t := by
  have h2 := Tb.tabAt_new w t 25
  exact ⟨h2.below hb h2.lt, ((Below.refl _ _).alloc (Nat.le_refl _) _).trans (hb.mono (by simp))⟩
theorem Tq.next {w W W' : World} {t : Tab} (h : Tq w W t) (g : Below W.heap.size W W') : Tq w W' t := ⟨h.t.below g h.t.lt, h.up.trans (g.mono h.up.size)⟩
theorem agg4_at (f : Nat → Int) (w : World) {k : Nat} (h : k < 4) : (Instr.index 23 (agg4 f) (.int .i64 (k : Int))).run Tryd.prog w = .ok (.int .i64 (f k)) w := by
  match k, h with
  | 0, _ => rfl
  | 1, _ => rfl
  | 2, _ => rfl
  | 3, _ => rfl
end Go.Proofs.YthdpgimdakmdgaaDoor.Bn
