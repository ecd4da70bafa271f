/- Copies of words and of a state, made side by side in whatever order (for the statement PipePlays). Conditions: words and the state lie in memory. -/
import Derived.Test.YtldfjlepbbmhnaaDoorZo
namespace Go.Proofs.YtldfjlepbbmhnaaDoor.Pp
open Go.ChangeShapes Go.WideShapes Go.ChangeAt Go.RowKit
open _root_.Go.Proofs.YtldfjlepbbmhnaaDoor.Op _root_.Go.Proofs.YtldfjlepbbmhnaaDoor.So _root_.Go.Proofs.YtldfjlepbbmhnaaDoor.Bu
open _root_.Go.Proofs.YtldfjlepbbmhnaaDoor.Tb (Tab TabAt Bnds)
set_option maxRecDepth 20000

theorem run_append_any {P : Program} (w : World) (base : Nat) (t ty e : TypeId) (i : TypeInfo) (z : Value) (size bytes : Nat) (ht : P.underlying t = some (.slice e)) (hi : P.info? e = some i) (hz : i.zero = some z)
    (hsize : i.size = size) (hby : i.bytes = bytes) (hzs : z.cells.size = size) (hsz : 0 < size)
    (v : Value) (n : Nat) (xs : List Value) (hown : w.ownsRow base e size v n xs)
    (ao : Option Addr) (m c : Nat) (news : List Value) (hl : news.length = m * size) (h0 : ao = none → m = 0) (hnews : ∀ a, ao = some a → ∀ j u, news[j]? = some u → w.cell? (a.add j) = some u) (h1 : ∀ u ∈ news, u.oneCell' = true)
    (h63 : n + m ≤ maxLen) (hbytes : (n + m) * bytes ≤ 140737488355328) (hbase : base ≤ w.heap.size) :
    ∃ v' w', (Builtin.append_ #[t, t] ty #[v, .slice ao m c]).run P w = .ok v' w' ∧ w'.ownsRow base e size v' (n + m) (xs ++ news) ∧ w.grownBy w' v.ownBlock ∧ (v'.ownBlock = v.ownBlock ∨ v'.ownBlock = some w.heap.size) := by
  cases ao with
  | some a =>
    obtain ⟨v', w', a1, a2, a3, -, a5⟩ := run_append_own_at (P := P) w base t ty e i z size bytes ht hi hz hsize hby hzs hsz v n xs hown a m c news hl (hnews a rfl) h1 h63 hbytes hbase
    exact ⟨v', w', a1, a2, a3, a5⟩
  | none =>
    obtain rfl := h0 rfl
    obtain rfl : news = [] := List.eq_nil_of_length_eq_zero (by simpa using hl)
    have hown0 := hown
    refine ⟨v, w, ?_, by simpa using hown0, ⟨rfl, rfl, rfl, Nat.le_refl _, fun _ _ _ => rfl⟩, .inl rfl⟩
    obtain ⟨hx1, ⟨h2, h3⟩ | ⟨g, cap, cur, h2, h3, h4, h5, h6⟩⟩ := hown
    · subst h2
      simp [Builtin.append_, run_underlying ht, sizeOf, typeInfo, hi, Builtin.lenOf, Builtin.firstCells]
    · subst h2
      simp [Builtin.append_, run_underlying ht, sizeOf, typeInfo, hi, Builtin.lenOf, h5, Builtin.firstCells, loadCells, storeCells]
theorem wpList_append_any {P : Program} (w : World) {ops : Array Oper} {rest : List Oper} {o : Oper} {a : Act} {Q : Exit → Act → World → Prop} (hgd : o.guard = none) (s x : Operand) (t : TypeId)
    (ho : o.op = .call { callee := .builtin .append, args := #[s, x], argTypes := #[t, t] })
    (base : Nat) (e : TypeId) (i : TypeInfo) (z : Value) (size bytes : Nat) (ht : P.underlying t = some (.slice e)) (hi : P.info? e = some i) (hz : i.zero = some z)
    (hsize : i.size = size) (hby : i.bytes = bytes) (hzs : z.cells.size = size) (hsz : 0 < size)
    (v : Value) (n : Nat) (xs : List Value) (hs : a.eval s = v) (hown : w.ownsRow base e size v n xs)
    (ao : Option Addr) (m c : Nat) (news : List Value) (hx : a.eval x = .slice ao m c) (hl : news.length = m * size) (h0 : ao = none → m = 0) (hnews : ∀ ad, ao = some ad → ∀ j u, news[j]? = some u → w.cell? (ad.add j) = some u) (h1 : ∀ u ∈ news, u.oneCell' = true)
    (h63 : n + m ≤ maxLen) (hbytes : (n + m) * bytes ≤ 140737488355328) (hbase : base ≤ w.heap.size)
    (h : ∀ v' w', w'.ownsRow base e size v' (n + m) (xs ++ news) → w.grownBy w' v.ownBlock → (v'.ownBlock = v.ownBlock ∨ v'.ownBlock = some w.heap.size) → wpList P ops Q rest (a.put o.dst v') w') :
    wpList P ops Q (o :: rest) a w := by
  refine wpList_plain hgd fun K hK => ?_
  obtain ⟨v', w', hr, h2, h3, h5⟩ := run_append_any (P := P) w base t o.type e i z size bytes ht hi hz hsize hby hzs hsz v n xs hown ao m c news hl h0 hnews h1 h63 hbytes hbase
  unfold Oper.wp execOp
  simp only [ho, resolve, invoke, builtin, Sem.run_bind, Sem.run_pure, Result.andThen_ok, List.map_toArray, List.map_cons, List.map_nil, hs, hx, hr]
  exact hK _ _ (h v' w' h2 h3 h5)
/-- Numbers behind an own row of none: at a step of a region that draws its order. -/
theorem step_copy_onto (w : World) {ops : Array Oper} {o : Oper} {a : Act} {K : Act → World → Prop} {Q : Exit → Act → World → Prop} {E : Prop} (hgd : o.guard = none) (s x : Operand)
    (ho : o.op = .call { callee := .builtin .append, args := #[s, x], argTypes := #[26, 26] }) (B : Nat) (v : Value) (hs : a.eval s = v) (hown : w.ownsRow B 2 1 v 0 []) (hB : B ≤ w.heap.size) (ao : Option Addr) (n c : Nat) (l : List Int) (hn : l.length = n) (hx : a.eval x = .slice ao n c) (hv : NL w ao l) (hl : n ≤ 1000000)
    (h : ∀ a' c' w', w'.ownsRow B 2 1 (.slice a' n c') n (nums l) → w.grownBy w' v.ownBlock → ((Value.slice a' n c').ownBlock = v.ownBlock ∨ (Value.slice a' n c').ownBlock = some w.heap.size) → K (a.put o.dst (.slice a' n c')) w') :
    if Region.wanted o (yielded ops a.tmps) = true then Oper.wp Tryd.prog o a w K Q else E := by
  rw [if_pos (by simp [Region.wanted, hgd])]
  obtain ⟨i0, hi, hi2⟩ := Option.map_eq_some_iff.1 info2b
  simp only [Prod.mk.injEq] at hi2
  subst hn
  have key : ∃ v' w', (Builtin.append_ #[26, 26] o.type #[v, .slice ao l.length c]).run Tryd.prog w = .ok v' w' ∧ w'.ownsRow B 2 1 v' (0 + l.length) ([] ++ nums l) ∧ w.grownBy w' v.ownBlock ∧ (v'.ownBlock = v.ownBlock ∨ v'.ownBlock = some w.heap.size) := by
    rcases Nat.eq_zero_or_pos l.length with h0 | h0
    · obtain rfl : l = [] := List.eq_nil_of_length_eq_zero h0
      exact run_append_any w B 26 o.type 2 i0 (.int .i64 0) 1 8 Tryd.underlying26 hi hi2.1 hi2.2.1 hi2.2.2 rfl (by decide) v 0 [] hown ao 0 c [] rfl (fun _ => rfl) (fun _ _ j u hu => by cases hu) (fun u hu => by cases hu) (by decide) (by decide) hB
    · obtain ⟨b', f', e, _, hc⟩ := hv.is h0
      exact run_append_any w B 26 o.type 2 i0 (.int .i64 0) 1 8 Tryd.underlying26 hi hi2.1 hi2.2.1 hi2.2.2 rfl (by decide) v 0 [] hown ao l.length c (nums l) (by unfold nums; simp) (fun e' => by rw [e] at e'; cases e') (fun a' e' => by rw [e] at e'; cases e'; exact nl_cells hc) (nums_one _) (by unfold maxLen; omega) (by omega) hB
  obtain ⟨v', w', hr, h2, h3, h5⟩ := key
  rw [Nat.zero_add, List.nil_append] at h2
  obtain ⟨a', c', rfl⟩ := row_slice h2
  unfold Oper.wp execOp
  simp only [ho, resolve, invoke, builtin, Sem.run_bind, Sem.run_pure, Result.andThen_ok, List.map_toArray, List.map_cons, List.map_nil, hs, hx, hr]
  exact h a' c' w' h2 h3 h5
def wds (n : Nat) (v : Nat → Int) : List Value := (List.range n).map fun j => .int .u64 (v j)
theorem wds_len (n : Nat) (v : Nat → Int) : (wds n v).length = n := by unfold wds; simp
theorem wds_at {n j : Nat} {v : Nat → Int} (h : j < n) : (wds n v)[j]? = some (.int .u64 (v j)) := by
  unfold wds
  rw [List.getElem?_map, List.getElem?_range h]; rfl
theorem wds_one {n : Nat} {v : Nat → Int} : ∀ u ∈ wds n v, u.oneCell' = true := fun u hu => by
  unfold wds at hu
  obtain ⟨x, -, rfl⟩ := List.mem_map.1 hu
  rfl
theorem ws_cells {w : World} {n : Nat} {v : Nat → Int} {ao : Option Addr} (h : Ws w ao n v) (hn : 0 < n) : ∃ ad, ao = some ad ∧ ∀ j u, (wds n v)[j]? = some u → w.cell? (ad.add j) = some u := by
  obtain ⟨b, f, e, _, hc⟩ := h.is hn
  refine ⟨_, e, fun j u hu => ?_⟩
  have hj : j < n := by have := (List.getElem?_eq_some_iff.1 hu).1; rw [wds_len] at this; exact this
  rw [wds_at hj] at hu
  cases hu
  rw [show (⟨b, f, none⟩ : Addr).add j = ⟨b, f + j, none⟩ from add_at b f j]
  exact hc j hj
theorem ws_row {W : World} {B n c : Nat} {ao : Option Addr} {v : Nat → Int} (h : W.ownsRow B 40 1 (.slice ao n c) n (wds n v)) (hv : ∀ j, j < n → 0 ≤ v j ∧ v j < 18446744073709551616) : Ws W ao n v ∧ n ≤ c := by
  rcases h.2 with ⟨e, e0⟩ | ⟨g, cap, cur, e, h1, h2, h3, h4, h5, h6⟩
  · injection e with e1 e2 e3
    exact ⟨⟨hv, fun h0 => by omega⟩, by omega⟩
  · injection e with e1 e2 e3
    subst e1
    subst e3
    exact ⟨⟨hv, fun h0 => ⟨g, 0, rfl, (h.lt g rfl).2, fun j hj => by rw [Nat.zero_add]; exact row_cell' h (wds_at hj)⟩⟩, h3⟩
theorem Sb.fr {X : Nat → Prop} {w W W' : World} {t : Tab} {ra ma : Option Addr} {rl rc ml mc : Nat} (h : Sb w W t ra ma rl rc ml mc) (f : Fr X W W') (hX : ∀ b, X b → w.heap.size + 2 ≤ b) : Sb w W' t ra ma rl rc ml mc := by
  have h1 := h.s.lt
  have hb : Below (w.heap.size + 2) W W' := f.below h1 fun k hk e => by have := hX k e; omega
  exact ⟨h.p.below hb (by omega), h.s.below hb (by omega), h.b.trans (hb.mono (by omega))⟩
/-- Copies under way: each block has a number (1 the words', 2 the registers', 3 the cells', 4 the state's). -/
structure Qo (w w2 W : World) (t : Tab) (ra ma : Option Addr) (rl rc ml mc : Nat) (mo : Option Addr) (nc n : Nat) (xs : List Value) (rs ms : List Int) (ow : Nat → Nat) (o0 o3 o4 o7 : Option Value) (o9 : Option Nat) : Prop where
  sb : Sb w W t ra ma rl rc ml mc
  up : Below w2.heap.size w2 W
  lw : w.heap.size + 2 ≤ w2.heap.size
  lo : ∀ b, ow b ≠ 0 → w2.heap.size ≤ b ∧ b < W.heap.size
  mi : W.ownsRow w2.heap.size 40 1 (.slice mo n nc) n xs ∧ ∀ b, (Value.slice mo n nc).ownBlock = some b → ow b = 1
  r0 : ∀ x, o0 = some x → W.ownsRow w2.heap.size 2 1 x 0 [] ∧ ∀ b, x.ownBlock = some b → ow b = 2
  r3 : ∀ x, o3 = some x → W.ownsRow w2.heap.size 2 1 x rl (nums rs) ∧ ∀ b, x.ownBlock = some b → ow b = 2
  r4 : ∀ x, o4 = some x → W.ownsRow w2.heap.size 2 1 x 0 [] ∧ ∀ b, x.ownBlock = some b → ow b = 3
  r7 : ∀ x, o7 = some x → W.ownsRow w2.heap.size 2 1 x ml (nums ms) ∧ ∀ b, x.ownBlock = some b → ow b = 3
  r9 : ∀ b, o9 = some b → At W b #[.slice none 0 0, .slice none 0 0] ∧ ow b = 4
section
variable {w w2 W W' : World} {t : Tab} {ra ma : Option Addr} {rl rc ml mc : Nat} {mo : Option Addr} {nc n : Nat} {xs : List Value} {rs ms : List Int} {ow : Nat → Nat} {o0 o3 o4 o7 : Option Value} {o9 : Option Nat}
def owN (ow : Nat → Nat) (z k : Nat) : Nat → Nat := fun b => if z ≤ b then k else ow b
theorem owN_old {z k b : Nat} (h : b < z) : owN ow z k b = ow b := by unfold owN; rw [if_neg (by omega)]
theorem owN_new {z k b : Nat} (h : z ≤ b) : owN ow z k b = k := by unfold owN; rw [if_pos h]
/-- A row with another number stays. -/
theorem keep_row {B e z m k : Nat} {x : Value} {ys : List Value} (f : Fr (fun b => ow b = k ∧ b < W.heap.size) W W') {j : Nat} (hj : j ≠ k) (h : W.ownsRow B e z x m ys ∧ ∀ b, x.ownBlock = some b → ow b = j) : W'.ownsRow B e z x m ys ∧ ∀ b, x.ownBlock = some b → (fun b => if W'.heap.size ≤ b then 0 else owN ow W.heap.size k b) b = j := by
  have hl := f.size
  refine ⟨row_fr h.1 f fun b e e2 => hj ((h.2 b e).symm.trans e2.1), fun b e => ?_⟩
  have h1 := (h.1.lt b e).2
  show (if W'.heap.size ≤ b then 0 else owN ow W.heap.size k b) = j
  rw [if_neg (by omega), owN_old h1]
  exact h.2 b e
/-- What is numbered k turns, and what is new is numbered k: the rest stays. -/
theorem Qo.step {k : Nat} (h : Qo w w2 W t ra ma rl rc ml mc mo nc n xs rs ms ow o0 o3 o4 o7 o9) (hk : k = 2 ∨ k = 3 ∨ k = 4) (f : Fr (fun b => ow b = k ∧ b < W.heap.size) W W') : ∃ ow', ow' = (fun b => if W'.heap.size ≤ b then 0 else owN ow W.heap.size k b) ∧ (∀ b, W.heap.size ≤ b → b < W'.heap.size → ow' b = k) ∧ (∀ b, ow b = k → ow' b = k) ∧
    Qo w w2 W' t ra ma rl rc ml mc mo nc n xs rs ms ow' (if k = 2 then none else o0) (if k = 2 then none else o3) (if k = 3 then none else o4) (if k = 3 then none else o7) (if k = 4 then none else o9) := by
  have hX : ∀ b, (ow b = k ∧ b < W.heap.size) → w2.heap.size ≤ b := fun b e => (h.lo b (by rw [e.1]; omega)).1
  have hl := f.size
  have hu := h.up.size
  have hlw := h.lw
  refine ⟨_, rfl, fun b h1 h2 => ?_, fun b e => ?_, ?_⟩
  · show (if W'.heap.size ≤ b then 0 else owN ow W.heap.size k b) = k
    rw [if_neg (by omega), owN_new h1]
  · have h1 := (h.lo b (by rw [e]; omega)).2
    show (if W'.heap.size ≤ b then 0 else owN ow W.heap.size k b) = k
    rw [if_neg (by omega), owN_old h1]
    exact e
  · refine ⟨h.sb.fr f fun b e => by have := hX b e; omega, h.up.trans (f.below hu fun b hb e => by have := hX b e; omega), hlw, fun b e => ?_, keep_row f (by omega) h.mi, fun x e => ?_, fun x e => ?_, fun x e => ?_, fun x e => ?_, fun b e => ?_⟩
    · have e : (if W'.heap.size ≤ b then 0 else owN ow W.heap.size k b) ≠ 0 := e
      by_cases h1 : W'.heap.size ≤ b
      · rw [if_pos h1] at e; exact absurd rfl e
      · rw [if_neg h1] at e
        by_cases h2 : W.heap.size ≤ b
        · exact ⟨by omega, by omega⟩
        · rw [owN_old (by omega)] at e
          exact ⟨(h.lo b e).1, by omega⟩
    · by_cases h2 : k = 2
      · rw [if_pos h2] at e; cases e
      · rw [if_neg h2] at e; exact keep_row f (by omega) (h.r0 x e)
    · by_cases h2 : k = 2
      · rw [if_pos h2] at e; cases e
      · rw [if_neg h2] at e; exact keep_row f (by omega) (h.r3 x e)
    · by_cases h2 : k = 3
      · rw [if_pos h2] at e; cases e
      · rw [if_neg h2] at e; exact keep_row f (by omega) (h.r4 x e)
    · by_cases h2 : k = 3
      · rw [if_pos h2] at e; cases e
      · rw [if_neg h2] at e; exact keep_row f (by omega) (h.r7 x e)
    · by_cases h2 : k = 4
      · rw [if_pos h2] at e; cases e
      · rw [if_neg h2] at e
        obtain ⟨h3, h4⟩ := h.r9 b e
        have h5 := h3.lt
        refine ⟨At.frb h3 f fun e => by omega, ?_⟩
        show (if W'.heap.size ≤ b then 0 else owN ow W.heap.size k b) = 4
        rw [if_neg (by omega), owN_old h5]
        exact h4
theorem empty_row (W : World) (B : Nat) (ty : TypeId) (hB : B ≤ W.heap.size) : (W.alloc (.cells #[] ty)).ownsRow B ty 1 (.slice (some ⟨W.heap.size, 0, none⟩) 0 0) 0 [] := ⟨rfl, .inr ⟨W.heap.size, 0, #[], rfl, hB, heap_alloc_new W _, Nat.le_refl _, Nat.zero_le _, rfl, rfl⟩⟩
theorem fr_alloc (W : World) (o : Obj) (X : Nat → Prop) : Fr X W (W.alloc o) := Fr.of ((Below.refl _ _).alloc (Nat.le_refl _) _)
/-- An empty list for the registers. -/
theorem Qo.s0 (h : Qo w w2 W t ra ma rl rc ml mc mo nc n xs rs ms ow o0 o3 o4 o7 o9) : ∃ ow', Qo w w2 (W.alloc (.cells #[] 2)) t ra ma rl rc ml mc mo nc n xs rs ms ow' (some (.slice (some ⟨W.heap.size, 0, none⟩) 0 0)) none o4 o7 o9 := by
  obtain ⟨ow', -, h1, -, h2⟩ := h.step (k := 2) (.inl rfl) (fr_alloc W (.cells #[] 2) _)
  refine ⟨ow', ⟨h2.sb, h2.up, h2.lw, h2.lo, h2.mi, fun x e => ?_, (fun x e => nomatch e), h2.r4, h2.r7, h2.r9⟩⟩
  cases e
  exact ⟨empty_row W _ 2 h.up.size, fun b e => by have e2 : W.heap.size = b := Option.some.inj e; subst e2; exact h1 _ (Nat.le_refl _) (by rw [World.size_alloc]; omega)⟩
/-- An empty list for the cells. -/
theorem Qo.s4 (h : Qo w w2 W t ra ma rl rc ml mc mo nc n xs rs ms ow o0 o3 o4 o7 o9) : ∃ ow', Qo w w2 (W.alloc (.cells #[] 2)) t ra ma rl rc ml mc mo nc n xs rs ms ow' o0 o3 (some (.slice (some ⟨W.heap.size, 0, none⟩) 0 0)) none o9 := by
  obtain ⟨ow', -, h1, -, h2⟩ := h.step (k := 3) (.inr (.inl rfl)) (fr_alloc W (.cells #[] 2) _)
  refine ⟨ow', ⟨h2.sb, h2.up, h2.lw, h2.lo, h2.mi, h2.r0, h2.r3, fun x e => ?_, (fun x e => nomatch e), h2.r9⟩⟩
  cases e
  exact ⟨empty_row W _ 2 h.up.size, fun b e => by have e2 : W.heap.size = b := Option.some.inj e; subst e2; exact h1 _ (Nat.le_refl _) (by rw [World.size_alloc]; omega)⟩
/-- The state's block. -/
theorem Qo.s9 (h : Qo w w2 W t ra ma rl rc ml mc mo nc n xs rs ms ow o0 o3 o4 o7 o9) : ∃ ow', Qo w w2 (W.alloc (.cells #[.slice none 0 0, .slice none 0 0] 28)) t ra ma rl rc ml mc mo nc n xs rs ms ow' o0 o3 o4 o7 (some W.heap.size) := by
  obtain ⟨ow', -, h1, -, h2⟩ := h.step (k := 4) (.inr (.inr rfl)) (fr_alloc W (.cells #[.slice none 0 0, .slice none 0 0] 28) _)
  refine ⟨ow', ⟨h2.sb, h2.up, h2.lw, h2.lo, h2.mi, h2.r0, h2.r3, h2.r4, h2.r7, fun b e => ?_⟩⟩
  cases e
  exact ⟨At.new _ _ _, h1 _ (Nat.le_refl _) (by rw [World.size_alloc]; omega)⟩
theorem grown_fr2 {o : Option Nat} {k : Nat} (h : W.grownBy W' o) (ho : ∀ b, o = some b → ow b = k ∧ b < W.heap.size) : Fr (fun b => ow b = k ∧ b < W.heap.size) W W' := (fr_grown h).mono fun b _ e => ho b e
/-- The registers. -/
theorem Qo.s3 {x x' : Value} (h : Qo w w2 W t ra ma rl rc ml mc mo nc n xs rs ms ow (some x) o3 o4 o7 o9) (hg : W.grownBy W' x.ownBlock) (hr : W'.ownsRow w2.heap.size 2 1 x' rl (nums rs)) (hb : x'.ownBlock = x.ownBlock ∨ x'.ownBlock = some W.heap.size) : ∃ ow', Qo w w2 W' t ra ma rl rc ml mc mo nc n xs rs ms ow' none (some x') o4 o7 o9 := by
  obtain ⟨hx, ho⟩ := h.r0 x rfl
  obtain ⟨ow', -, h1, h3, h2⟩ := h.step (k := 2) (.inl rfl) (grown_fr2 hg fun b e => ⟨ho b e, (hx.lt b e).2⟩)
  refine ⟨ow', ⟨h2.sb, h2.up, h2.lw, h2.lo, h2.mi, (fun x e => nomatch e), fun y e => ?_, h2.r4, h2.r7, h2.r9⟩⟩
  cases e
  refine ⟨hr, fun b e => ?_⟩
  rcases hb with hb | hb
  · exact h3 b (ho b (hb ▸ e))
  · rw [hb] at e; cases e
    exact h1 _ (Nat.le_refl _) (hr.lt _ hb).2
/-- The cells. -/
theorem Qo.s7 {x x' : Value} (h : Qo w w2 W t ra ma rl rc ml mc mo nc n xs rs ms ow o0 o3 (some x) o7 o9) (hg : W.grownBy W' x.ownBlock) (hr : W'.ownsRow w2.heap.size 2 1 x' ml (nums ms)) (hb : x'.ownBlock = x.ownBlock ∨ x'.ownBlock = some W.heap.size) : ∃ ow', Qo w w2 W' t ra ma rl rc ml mc mo nc n xs rs ms ow' o0 o3 none (some x') o9 := by
  obtain ⟨hx, ho⟩ := h.r4 x rfl
  obtain ⟨ow', -, h1, h3, h2⟩ := h.step (k := 3) (.inr (.inl rfl)) (grown_fr2 hg fun b e => ⟨ho b e, (hx.lt b e).2⟩)
  refine ⟨ow', ⟨h2.sb, h2.up, h2.lw, h2.lo, h2.mi, h2.r0, h2.r3, (fun x e => nomatch e), fun y e => ?_, h2.r9⟩⟩
  cases e
  refine ⟨hr, fun b e => ?_⟩
  rcases hb with hb | hb
  · exact h3 b (ho b (hb ▸ e))
  · rw [hb] at e; cases e
    exact h1 _ (Nat.le_refl _) (hr.lt _ hb).2
/-- All copies. -/
structure Qz (w w2 W : World) (t : Tab) (ra ma : Option Addr) (rl rc ml mc : Nat) (mo : Option Addr) (nc n : Nat) (xs : List Value) (rs ms : List Int) (ob : Nat) (r' : Option Addr) (rc' : Nat) (m' : Option Addr) (mc' : Nat) : Prop where
  sb : Sb w W t ra ma rl rc ml mc
  up : Below w2.heap.size w2 W
  lw : w.heap.size + 2 ≤ w2.heap.size
  mi : W.ownsRow w2.heap.size 40 1 (.slice mo n nc) n xs
  rr : W.ownsRow w2.heap.size 2 1 (.slice r' rl rc') rl (nums rs)
  rm : W.ownsRow w2.heap.size 2 1 (.slice m' ml mc') ml (nums ms)
  bx : At W ob #[.slice r' rl rc', .slice m' ml mc']
  lb : w2.heap.size ≤ ob
  d1 : (Value.slice mo n nc).ownBlock ≠ some ob
  d2 : (Value.slice r' rl rc').ownBlock ≠ some ob
  d3 : ∀ b, (Value.slice mo n nc).ownBlock = some b → (Value.slice r' rl rc').ownBlock ≠ some b
theorem Qo.s10 {r' m' : Option Addr} {rc' mc' ob : Nat} (h : Qo w w2 W t ra ma rl rc ml mc mo nc n xs rs ms ow o0 (some (.slice r' rl rc')) o4 (some (.slice m' ml mc')) (some ob)) : Qz w w2 ((W.setCell ⟨ob, 0, none⟩ (.slice r' rl rc')).setCell ⟨ob, 1, none⟩ (.slice m' ml mc')) t ra ma rl rc ml mc mo nc n xs rs ms ob r' rc' m' mc' := by
  obtain ⟨h3, q3⟩ := h.r3 _ rfl
  obtain ⟨h7, q7⟩ := h.r7 _ rfl
  obtain ⟨h9, q9⟩ := h.r9 _ rfl
  have hl := h.lo ob (by rw [q9]; omega)
  have hlw := h.lw
  have f : Fr (One ob) W ((W.setCell ⟨ob, 0, none⟩ (.slice r' rl rc')).setCell ⟨ob, 1, none⟩ (.slice m' ml mc')) := ((Fr.refl (One ob) W).setCell (.inr rfl) _ _).setCell (.inr rfl) _ _
  have n1 : ∀ b, (Value.slice mo n nc).ownBlock = some b → ¬ One ob b := fun b e e2 => by have e2 : b = ob := e2; have := h.mi.2 b e; rw [e2, q9] at this; cases this
  have n3 : ∀ b, (Value.slice r' rl rc').ownBlock = some b → ¬ One ob b := fun b e e2 => by have e2 : b = ob := e2; have := q3 b e; rw [e2, q9] at this; cases this
  have n7 : ∀ b, (Value.slice m' ml mc').ownBlock = some b → ¬ One ob b := fun b e e2 => by have e2 : b = ob := e2; have := q7 b e; rw [e2, q9] at this; cases this
  exact ⟨h.sb.fr f fun b e => by have e : b = ob := e; omega, h.up.trans (f.below h.up.size fun b hb e => by have e : b = ob := e; omega), hlw, row_fr h.mi.1 f n1, row_fr h3 f n3, row_fr h7 f n7, At.setk (k := 1) (At.setk (k := 0) h9 (by simp)) (by simp), hl.1, fun e => n1 ob e rfl, fun e => n3 ob e rfl, fun b e e2 => by have := h.mi.2 b e; have := q3 b e2; omega⟩
theorem Qz.next {ob : Nat} {r' m' : Option Addr} {rc' mc' : Nat} (h : Qz w w2 W t ra ma rl rc ml mc mo nc n xs rs ms ob r' rc' m' mc') (g : Below W.heap.size W W') : Qz w w2 W' t ra ma rl rc ml mc mo nc n xs rs ms ob r' rc' m' mc' := ⟨h.sb.up g, h.up.trans (g.mono h.up.size), h.lw, row_up h.mi g, row_up h.rr g, row_up h.rm g, h.bx.below g h.bx.lt, h.lb, h.d1, h.d2, h.d3⟩
end
end Go.Proofs.YtldfjlepbbmhnaaDoor.Pp
