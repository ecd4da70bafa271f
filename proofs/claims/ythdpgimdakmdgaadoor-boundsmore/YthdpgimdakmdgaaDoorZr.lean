/- More operations, more units: what Units makes of it, as plain mathematics; a list put behind a row of the call's own. Conditions: none. -/
import Derived.Test.YthdpgimdakmdgaaDoorZm
import Derived.Laws.AppendOwnNone
import Derived.Test.YthdpgimdakmdgaaDoorCp
namespace Go.Proofs.YthdpgimdakmdgaaDoor.Bn
open Go.ChangeShapes Go.WideShapes Go.ChangeAt Go.RowKit
open _root_.Go.Proofs.YthdpgimdakmdgaaDoor.Op _root_.Go.Proofs.YthdpgimdakmdgaaDoor.So
open _root_.Go.Proofs.YthdpgimdakmdgaaDoor.Dp (row_fr row_up grown_fr drew_up)
open _root_.Go.Proofs.YthdpgimdakmdgaaDoor.Tb (Tab TabAt Bnds)
set_option maxRecDepth 20000

theorem ctL_more (xs : List O) (o : O) (c : Nat) : ctL xs c ≤ ctL (xs ++ [o]) c := by
  rw [ctL_put]
  unfold up1
  split
  · rename_i e; rw [e]; omega
  · exact Int.le_refl _
theorem cts_more (xs : List O) (o : O) (c : Nat) : cts xs c ≤ cts (xs ++ [o]) c := by
  by_cases e : c = 3
  · subst e; rw [cts_3, cts_3]; exact Int.le_refl _
  · rw [cts_lo xs e, cts_lo _ e]; exact ctL_more xs o c
theorem ediv_more {n m u : Int} (h : n ≤ m) (hu : 0 < u) : n / u ≤ m / u := Int.ediv_le_ediv hu h
theorem buI_mono {t : Tab} {f g : Nat → Int} (ht : t.ok = true) (hg : huB t g 4 = true) (h0 : ∀ k, 0 ≤ f k) (hfg : ∀ k, f k ≤ g k) : ∀ k, k ≤ 4 → buI t f k ≤ buI t g k
  | 0, _ => Int.le_refl _
  | k + 1, hk => by
    have ih := buI_mono ht hg h0 hfg k (by omega)
    have h1 := (tab_in ht).2 k (by omega)
    have h2 := h0 k
    have h3 := hfg k
    unfold buI
    by_cases c1 : 0 < f k
    · have c2 : 0 < g k := by omega
      have h4 := huB_all hg (show k < 4 by omega) c2
      have h5 : f k * t.b k ≤ g k * t.b k := Int.mul_le_mul_of_nonneg_right h3 (by omega)
      have h6 : 0 ≤ f k * t.b k := Int.mul_nonneg h2 (by omega)
      have h7 : (f k * t.b k + t.u k - 1).tdiv (t.u k) ≤ (g k * t.b k + t.u k - 1).tdiv (t.u k) := by
        rw [Int.tdiv_eq_ediv_of_nonneg (by omega), Int.tdiv_eq_ediv_of_nonneg (by omega)]
        exact ediv_more (by omega) (by omega)
      rw [if_pos c1, if_pos c2]
      omega
    · rw [if_neg c1]
      by_cases c2 : 0 < g k
      · rw [if_pos c2]; omega
      · rw [if_neg c2]; exact ih
theorem div_less {n u : Int} (hn : 0 ≤ n) (h1 : 1 ≤ u) (h8 : u ≤ 8) : (n + (u + 1) - 1).tdiv (u + 1) ≤ (n + u - 1).tdiv u := by
  rw [Int.tdiv_eq_ediv_of_nonneg (by omega), Int.tdiv_eq_ediv_of_nonneg (by omega)]
  have hc : u = 1 ∨ u = 2 ∨ u = 3 ∨ u = 4 ∨ u = 5 ∨ u = 6 ∨ u = 7 ∨ u = 8 := by omega
  rcases hc with rfl | rfl | rfl | rfl | rfl | rfl | rfl | rfl <;> omega
/-- A table with one unit more. -/
def tup (t : Tab) (k : Nat) : Tab := ⟨up1 t.u k (t.u k + 1), t.l, t.b, t.d⟩
theorem buI_less {t : Tab} {f : Nat → Int} {j : Nat} (ht : t.ok = true) (hu : huB t f 4 = true) (h0 : ∀ k, 0 ≤ f k) : ∀ k, k ≤ 4 → buI (tup t j) f k ≤ buI t f k
  | 0, _ => Int.le_refl _
  | k + 1, hk => by
    have ih := buI_less (j := j) ht hu h0 k (by omega)
    have h1 := (tab_in ht).2 k (by omega)
    have h2 := h0 k
    unfold buI
    by_cases c1 : 0 < f k
    · have h4 := huB_all hu (show k < 4 by omega) c1
      have h6 : 0 ≤ f k * t.b k := Int.mul_nonneg h2 (by omega)
      have h7 : (f k * (tup t j).b k + (tup t j).u k - 1).tdiv ((tup t j).u k) ≤ (f k * t.b k + t.u k - 1).tdiv (t.u k) := by
        show (f k * t.b k + up1 t.u j (t.u j + 1) k - 1).tdiv (up1 t.u j (t.u j + 1) k) ≤ _
        unfold up1
        by_cases e : k = j
        · subst e
          rw [if_pos rfl]
          exact div_less h6 (by omega) h1.1.2
        · rw [if_neg e]; exact Int.le_refl _
      rw [if_pos c1, if_pos c1]
      omega
    · rw [if_neg c1, if_neg c1]; exact ih
theorem un_more {t : Tab} {xs : List O} {o : O} (h1 : rgE t xs = 0) (h2 : rgE t (xs ++ [o]) = 0) : unE t xs ≤ unE t (xs ++ [o]) := by
  obtain ⟨ht, -, -, -⟩ := rg_ok h1
  obtain ⟨-, -, -, hu⟩ := rg_ok h2
  unfold unE
  rw [if_pos h1, if_pos h2]
  exact buI_mono ht hu (fun k => (cts_in xs k).1) (fun k => cts_more xs o k) 4 (Nat.le_refl _)
theorem un_less {t : Tab} {xs : List O} {j : Nat} (h1 : rgE t xs = 0) (h2 : rgE (tup t j) xs = 0) : unE (tup t j) xs ≤ unE t xs := by
  obtain ⟨ht, -, -, hu⟩ := rg_ok h1
  unfold unE
  rw [if_pos h1, if_pos h2]
  exact buI_less ht hu (fun k => (cts_in xs k).1) 4 (Nat.le_refl _)
theorem TabAt.more {W : World} {b k : Nat} {t : Tab} (h : TabAt W b t) (hk : k < 4) : TabAt (W.setCell ⟨b, k, none⟩ (.int .i64 (t.u k + 1))) b (tup t k) := by
  have ho : ∀ j, ¬ j = k → (W.setCell ⟨b, k, none⟩ (.int .i64 (t.u k + 1))).cell? ⟨b, j, none⟩ = W.cell? ⟨b, j, none⟩ := fun j hj => by
    rw [World.cell?_setCell_other]
    intro h'; injection h' with _ h2; exact hj h2.symm
  refine ⟨fun j hj => ?_, fun j hj => ?_, fun j hj => ?_, ?_, by simpa using h.lt⟩
  · show _ = some (Value.int .i64 (up1 t.u k (t.u k + 1) j))
    unfold up1
    by_cases e : j = k
    · subst e
      rw [if_pos rfl, World.cell?_setCell_same _ _ _ (h.cu j hk)]
    · rw [if_neg e, ho j e]; exact h.cu j hj
  · rw [ho _ (by omega)]; exact h.cl j hj
  · rw [ho _ (by omega)]; exact h.cb j hj
  · rw [ho _ (by omega)]; exact h.cd
/-- A row of operations of the call's own. -/
def OOwn (B : Nat) (W : World) (a : Option Addr) (c : Nat) (xs : List O) : Prop := W.ownsRow B 33 5 (.slice a xs.length c) xs.length (ocells xs)
theorem OOwn.cap {B : Nat} {W : World} {a : Option Addr} {c : Nat} {xs : List O} (h : OOwn B W a c xs) : xs.length ≤ c := by
  have h0 : W.ownsRow B 33 5 (.slice a xs.length c) xs.length (ocells xs) := h
  rcases h0.2 with ⟨_, h1⟩ | ⟨g, cap, cur, e, -, -, h3, -⟩
  · omega
  · injection e with e1 e2 e3
    subst e3
    exact h3
theorem OOwn.ops {B : Nat} {W : World} {a : Option Addr} {c : Nat} {xs : List O} (h : OOwn B W a c xs) (hok : ∀ o, o ∈ xs → o.Ok) (hl : xs.length ≤ 1000) : OpsAt W a xs := opsAt_row h hok (by omega)
theorem OOwn.up {B : Nat} {W W' : World} {a : Option Addr} {c : Nat} {xs : List O} (h : OOwn B W a c xs) (g : Below W.heap.size W W') : OOwn B W' a c xs := row_up h g
theorem ocells_app (xs ys : List O) : ocells (xs ++ ys) = ocells xs ++ ocells ys := by unfold ocells; rw [List.flatMap_append]
theorem oown_of {B : Nat} {W : World} {v : Value} {xs : List O} (h : W.ownsRow B 33 5 v xs.length (ocells xs)) : ∃ a c, v = .slice a xs.length c ∧ OOwn B W a c xs := by
  rcases h.2 with ⟨e, h0⟩ | ⟨g, cap, cur, e, -⟩
  · refine ⟨none, 0, by rw [e, h0], ?_⟩
    unfold OOwn
    rw [← show v = .slice none xs.length 0 by rw [e, h0]]
    exact h
  · refine ⟨_, _, e, ?_⟩
    unfold OOwn
    rw [← e]
    exact h
theorem step_append_ops {ops : Array Oper} {o : Oper} {a : Act} {K : Act → World → Prop} {Q : Exit → Act → World → Prop} {E : Prop} {W : World} {B : Nat} {a0 a1 : Option Addr} {c0 c1 : Nat} {es fs : List O} (hgd : o.guard = none) (s x : Operand)
    (ho : o.op = .call { callee := .builtin .append, args := #[s, x], argTypes := #[22, 22] }) (hs : a.eval s = .slice a0 es.length c0) (h0 : OOwn B W a0 c0 es) (hB : B ≤ W.heap.size) (hx : a.eval x = .slice a1 fs.length c1) (h1 : OpsAt W a1 fs) (hnil : a1 = none → c1 = 0) (hn : es.length + fs.length ≤ 1000)
    (h : ∀ a2 c2 w', OOwn B w' a2 c2 (es ++ fs) → So.Fr (fun k => (Value.slice a0 es.length c0).ownBlock = some k) W w' → K (a.put o.dst (.slice a2 (es ++ fs).length c2)) w') :
    if Region.wanted o (yielded ops a.tmps) = true then Oper.wp Tryd.prog o a W K Q else E := by
  have hw : Region.wanted o (yielded ops a.tmps) = true := by simp [Region.wanted, hgd]
  rw [if_pos hw]
  obtain ⟨i0, hi0, hi2⟩ := Option.map_eq_some_iff.1 info33
  simp only [Prod.mk.injEq] at hi2
  obtain ⟨hz0, hz1, hz2⟩ := hi2
  have h0' : W.ownsRow B 33 5 (.slice a0 es.length c0) es.length (ocells es) := h0
  cases a1 with
  | none =>
    have hf : fs = [] := by
      rcases fs with _ | ⟨f, fs⟩
      · rfl
      · obtain ⟨b, f', e, -⟩ := h1.is (by simp)
        cases e
    subst hf
    rw [hnil rfl] at hx
    have hrun := run_append_owned_none (P := Tryd.prog) (w := W) B 22 o.type 33 i0 5 Tryd.underlying22 hi0 _ _ _ h0'
    have hk := h a0 c0 W (by rw [List.append_nil]; exact h0) (So.Fr.refl _ _)
    rw [List.append_nil] at hk
    have hx' : a.eval x = .slice none 0 0 := hx
    unfold Oper.wp
    simp [execOp, ho, resolve, invoke, builtin, hs, hx', hrun, Result.andThen]
    exact hk
  | some ad =>
    refine wp_append_own W s x 22 ho B 33 i0 (.agg #[.int .i8 0, .int .u8 0, .int .u8 0, .int .u8 0, .int .i64 0]) 5 16 Tryd.underlying22 hi0 hz0 hz1 hz2 rfl (by decide) _ _ _ hs h0' ad fs.length c1 (ocells fs) hx (ocells_len fs) (fun j u hu => ?_) (ocells_one fs) (by unfold maxLen; omega) (by omega) hB fun v' w' h2 h3 _ => ?_
    · rcases fs with _ | ⟨f, fs⟩
      · simp [ocells] at hu
      · obtain ⟨b, f', e, -, hx2⟩ := h1.is (by simp)
        injection e with e
        subst e
        exact ocells_at _ hx2 j u hu
    · rw [← List.length_append, ← ocells_app] at h2
      obtain ⟨a2, c2, rfl, h5⟩ := oown_of h2
      exact h a2 c2 w' h5 (grown_fr h3)
theorem at_fr {X : Nat → Prop} {w w' : World} {b : Nat} {cs : Array Value} (h : At w b cs) (g : So.Fr X w w') (hx : ¬ X b) : At w' b cs :=
  ⟨fun j v e => (g.cell h.lt hx j).trans (h.c j v e), fun j => (g.frozen h.lt hx j).trans (h.f j), Nat.lt_of_lt_of_le h.lt g.size⟩
theorem one_at {w : World} {b : Nat} {o : O} (ho : o.Ok) (h : At w b #[.int .i8 o.op, .int .u8 o.d, .int .u8 o.a, .int .u8 o.b, .int .i64 o.im]) : OpsAt w (some ⟨b, 0, none⟩) [o] := by
  refine ⟨fun x hx => by rw [List.mem_singleton.1 hx]; exact ho, by simp, fun _ => ⟨b, 0, rfl, h.lt, fun i hi => ?_⟩⟩
  have hi : i < 1 := hi
  match i, hi with
  | 0, _ => exact ⟨h.c 0 _ rfl, h.c 1 _ rfl, h.c 2 _ rfl, h.c 3 _ rfl, h.c 4 _ rfl⟩
/-- The boxes of BoundsMore: the table, the operation. -/
structure Mb (w W : World) (t : Tab) (o : O) : Prop where
  t : TabAt W w.heap.size t
  o : At W (w.heap.size + 1) #[.int .i8 o.op, .int .u8 o.d, .int .u8 o.a, .int .u8 o.b, .int .i64 o.im]
  up : Below w.heap.size w W
theorem Mb.next {w W W' : World} {t : Tab} {o : O} (h : Mb w W t o) (g : Below W.heap.size W W') : Mb w W' t o := ⟨h.t.below g h.t.lt, h.o.below g h.o.lt, h.up.trans (g.mono h.up.size)⟩
theorem Mb.from {w W W' : World} {B : Nat} {t : Tab} {o : O} (h : Mb w W t o) (g : Below B W W') (hB : w.heap.size + 1 < B) : Mb w W' t o := ⟨h.t.below g (by omega), h.o.below g hB, h.up.trans (g.mono (by omega))⟩
theorem Mb.start (w : World) (t : Tab) (o : O) {W : World} (hb : Below ((w.alloc (.cells t.cells 25)).alloc (.cells #[.int .i8 o.op, .int .u8 o.d, .int .u8 o.a, .int .u8 o.b, .int .i64 o.im] 33)).heap.size ((w.alloc (.cells t.cells 25)).alloc (.cells #[.int .i8 o.op, .int .u8 o.d, .int .u8 o.a, .int .u8 o.b, .int .i64 o.im] 33)) W) : Mb w W t o := by
  have h1 := Tb.tabAt_new w t 25
  have a2 := At.new (w.alloc (.cells t.cells 25)) #[.int .i8 o.op, .int .u8 o.d, .int .u8 o.a, .int .u8 o.b, .int .i64 o.im] 33
  rw [show (w.alloc (.cells t.cells 25)).heap.size = w.heap.size + 1 by simp] at a2
  have g1 : Below (w.alloc (.cells t.cells 25)).heap.size (w.alloc (.cells t.cells 25)) ((w.alloc (.cells t.cells 25)).alloc (.cells #[.int .i8 o.op, .int .u8 o.d, .int .u8 o.a, .int .u8 o.b, .int .i64 o.im] 33)) := (Below.refl _ _).alloc (Nat.le_refl _) _
  have g0 : Below w.heap.size w (w.alloc (.cells t.cells 25)) := (Below.refl _ _).alloc (Nat.le_refl _) _
  exact (⟨h1.below g1 h1.lt, a2, g0.trans (g1.mono g0.size)⟩ : Mb w _ t o).next hb
theorem Mb.tq {w W : World} {t : Tab} {o : O} (h : Mb w W t o) : Tq w W t := ⟨h.t, h.up⟩
structure Mc (w W : World) (t : Tab) (o : O) (B : Nat) : Prop where
  m : Mb w W t o
  s : B ≤ W.heap.size
theorem Mc.next {w W W' : World} {t : Tab} {o : O} {B : Nat} (h : Mc w W t o B) (g : Below W.heap.size W W') : Mc w W' t o B := ⟨h.m.next g, Nat.le_trans h.s g.size⟩
theorem Mc.from {w W W' : World} {t : Tab} {o : O} {B : Nat} (h : Mc w W t o B) (g : Below B W W') (hB : w.heap.size + 1 < B) : Mc w W' t o B := ⟨h.m.from g hB, Nat.le_trans h.s g.size⟩
end Go.Proofs.YthdpgimdakmdgaaDoor.Bn
