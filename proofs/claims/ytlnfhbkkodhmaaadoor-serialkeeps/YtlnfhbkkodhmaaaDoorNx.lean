/- What SerialKeeps meets on its way: two states kept aside, the row of what is written. Conditions: the program and the state lie in memory, and the variable as the program lays it. -/
import Derived.Test.YtlnfhbkkodhmaaaDoorNw
namespace Go.Proofs.YtlnfhbkkodhmaaaDoor.Sm
open Go.ChangeShapes Go.WideShapes Go.ChangeAt Go.RowKit
open _root_.Go.Proofs.YtlnfhbkkodhmaaaDoor.Op _root_.Go.Proofs.YtlnfhbkkodhmaaaDoor.So
set_option maxRecDepth 20000

/-- The two states that are compared, in memory. -/
structure Ks (w W : World) (ao : Option Addr) (n cap : Nat) (b9 b10 : Nat) (a9 m9 a10 m10 : Option Addr) (c9 d9 c10 d10 : Nat) (M0 M2 : Ma) : Prop where
  p : Op.At W w.heap.size #[.slice ao n cap]
  was : Op.At W b9 #[.slice a9 32 c9, .slice m9 256 d9]
  now : Op.At W b10 #[.slice a10 32 c10, .slice m10 256 d10]
  r9 : NL W a9 (regL M0)
  q9 : NL W m9 (memL M0)
  r10 : NL W a10 (regL M2)
  q10 : NL W m10 (memL M2)
  up : Below w.heap.size w W
/-- The first half: the machine and its first state. -/
structure Kh (w W : World) (ao : Option Addr) (n cap : Nat) (q : Nat) (ps : List Bk) (T : Nat → Prop) (M : Ma) : Prop where
  p : Op.At W w.heap.size #[.slice ao n cap]
  mm : MM W q ps T M
  t : ∀ k, T k → w.heap.size + 2 ≤ k
  up : Below w.heap.size w W
theorem steps_lim (n : Int) {rs ms : List Int} : (initM rs ms).s + (min (max n 0) 1048576).toNat ≤ 1000000000000 := by
  have h : (initM rs ms).s = 0 := rfl
  rw [h]; omega
/-- A state that is kept aside, out of the machine's reach. -/
structure Ka9 (W : World) (b : Nat) (a m : Option Addr) (c d : Nat) (M : Ma) (T : Nat → Prop) : Prop where
  at_ : Op.At W b #[.slice a 32 c, .slice m 256 d]
  r : NL W a (regL M)
  g : NL W m (memL M)
  t : ¬ T b ∧ (∀ x, a = some x → ¬ T x.block) ∧ ∀ x, m = some x → ¬ T x.block
  l : b < W.heap.size ∧ (∀ x, a = some x → x.block < W.heap.size) ∧ ∀ x, m = some x → x.block < W.heap.size
theorem nl_lt {W : World} {a : Option Addr} {l : List Int} (h : NL W a l) (hl : 0 < l.length) : ∀ x, a = some x → x.block < W.heap.size := fun x e => by
  obtain ⟨b, f, e', z, _⟩ := h.is hl
  rw [e'] at e; cases e; exact z
theorem ka_new {w1 w2 : World} {a m : Option Addr} {c d : Nat} {M : Ma} {T : Nat → Prop} (h1 : Own w1 w2 a (regL M)) (h2 : Own w1 w2 m (memL M)) (hb : Below w1.heap.size w1 w2) (ht : ∀ k, T k → k < w1.heap.size) : Ka9 (w2.alloc (.cells #[.slice a 32 c, .slice m 256 d] 27)) w2.heap.size a m c d M T := by
  have hu : Below w2.heap.size w2 (w2.alloc (.cells #[.slice a 32 c, .slice m 256 d] 27)) := (Below.refl _ _).alloc (Nat.le_refl _) _
  have hs := hb.size
  have l1 : 0 < (regL M).length := by rw [regL_len]; omega
  have l2 : 0 < (memL M).length := by rw [memL_len]; omega
  have hA := Op.At.new w2 #[.slice a 32 c, .slice m 256 d] 27
  exact ⟨hA, h1.nl.up hu, h2.nl.up hu, ⟨fun h => by have := ht _ h; omega, fun x e h => by have := ht _ h; have := h1.new l1 x e; omega, fun x e h => by have := ht _ h; have := h2.new l2 x e; omega⟩, hA.lt, nl_lt (h1.nl.up hu) l1, nl_lt (h2.nl.up hu) l2⟩
theorem Ka9.tn {W W' : World} {b : Nat} {a m : Option Addr} {c d : Nat} {M : Ma} {T T' : Nat → Prop} (h : Ka9 W b a m c d M T) (g : Tn W T W' T') : Ka9 W' b a m c d M T' := by
  refine ⟨⟨fun j v e => (g.f.cell h.at_.lt h.t.1 j).trans (h.at_.c j v e), fun j => (g.f.frozen h.at_.lt h.t.1 j).trans (h.at_.f j), Nat.lt_of_lt_of_le h.at_.lt g.f.size⟩, h.r.fr g.f fun _ x e => h.t.2.1 x e, h.g.fr g.f fun _ x e => h.t.2.2 x e, ⟨fun h' => ?_, fun x e h' => ?_, fun x e h' => ?_⟩, Nat.lt_of_lt_of_le h.l.1 g.f.size, fun x e => Nat.lt_of_lt_of_le (h.l.2.1 x e) g.f.size, fun x e => Nat.lt_of_lt_of_le (h.l.2.2 x e) g.f.size⟩
  · exact (g.t _ h').elim h.t.1 fun h'' => by have := h.l.1; omega
  · exact (g.t _ h').elim (h.t.2.1 x e) fun h'' => by have := h.l.2.1 x e; omega
  · exact (g.t _ h').elim (h.t.2.2 x e) fun h'' => by have := h.l.2.2 x e; omega
theorem Ka9.up {W W' : World} {b : Nat} {a m : Option Addr} {c d : Nat} {M : Ma} {T : Nat → Prop} (h : Ka9 W b a m c d M T) (g : Below W.heap.size W W') : Ka9 W' b a m c d M T := h.tn (Tn.of g)
theorem Kh.up' {w W W' : World} {ao : Option Addr} {n cap q : Nat} {ps : List Bk} {T : Nat → Prop} {M : Ma} (h : Kh w W ao n cap q ps T M) (g : Below W.heap.size W W') : Kh w W' ao n cap q ps T M := ⟨h.p.below g h.p.lt, h.mm.up g, h.t, h.up.trans (g.mono h.up.size)⟩
theorem Kh.tn {w W W' : World} {ao : Option Addr} {n cap q : Nat} {ps : List Bk} {T T' : Nat → Prop} {M M' : Ma} (h : Kh w W ao n cap q ps T M) (g : Tn W T W' T') (hm : MM W' q ps T' M') : Kh w W' ao n cap q ps T' M' := by
  have hp : ¬ T w.heap.size := fun h' => by have := h.t _ h'; omega
  have hsz : w.heap.size + 2 ≤ W.heap.size := by have h1 := h.t _ h.mm.mr.tq; have h2 := h.mm.mr.tl _ h.mm.mr.tq; omega
  exact ⟨⟨fun j v e => (g.f.cell h.p.lt hp j).trans (h.p.c j v e), fun j => (g.f.frozen h.p.lt hp j).trans (h.p.f j), Nat.lt_of_lt_of_le h.p.lt g.f.size⟩, hm, fun k hk => (g.t k hk).elim (h.t k) fun h' => Nat.le_trans hsz h', h.up.trans (g.below h.up.size fun k hk hT => by have := h.t k hT; omega)⟩
/-- What an operation that was met leaves. -/
def Cov (f : Nat → Bool) (st : Bool) (o : O) : Prop := (wrB o = true → f (wrD o).toNat = true) ∧ (o.op = 16 → st = true)
theorem Cov.mono {f g : Nat → Bool} {st su : Bool} {o : O} (h : Cov f st o) (hf : ∀ j, f j = true → g j = true) (hs : st = true → su = true) : Cov g su o := ⟨fun hw => hf _ (h.1 hw), fun ho => hs (h.2 ho)⟩
/-- The row of what is written, all else as it was. -/
structure Kw (V W : World) (n : Nat) (f : Nat → Bool) : Prop where
  fr : Fr (One n) V W
  c : ∀ j : Nat, j < 32 → W.cell? ⟨n, j, none⟩ = some (.bool (f j))
  z : ∀ j : Nat, W.frozen? ⟨n, j, none⟩ = false
  lt : n < W.heap.size
  vl : n < V.heap.size
theorem Kw.up {V W W' : World} {n : Nat} {f : Nat → Bool} (h : Kw V W n f) (g : Below W.heap.size W W') : Kw V W' n f :=
  ⟨h.fr.then g, fun j hj => by rw [(bcell g).1 _ _ h.lt]; exact h.c j hj, fun j => by rw [(bcell g).2 _ _ h.lt]; exact h.z j, Nat.lt_of_lt_of_le h.lt g.size, h.vl⟩
def setB (f : Nat → Bool) (k : Nat) : Nat → Bool := fun j => if j = k then true else f j
theorem Kw.set {V W : World} {n : Nat} {f : Nat → Bool} (h : Kw V W n f) {k : Nat} (hk : k < 32) : Kw V (W.setCell ⟨n, k, none⟩ (.bool true)) n (setB f k) := by
  refine ⟨h.fr.setCell (.inr rfl) _ _, fun j hj => ?_, fun j => by rw [World.frozen?_setCell]; exact h.z j, by rw [World.size_setCell]; exact h.lt, h.vl⟩
  by_cases e : j = k
  · subst e; rw [cs (h.c j hj)]; simp [setB]
  · rw [co (by omega), h.c j hj]; simp [setB, e]
theorem setB_le (f : Nat → Bool) (k : Nat) : ∀ j, f j = true → setB f k j = true := fun j h => by unfold setB; split <;> simp_all
/-- The innermost loop's state: the first t operations of a list are met. -/
structure Kt (V W : World) (n : Nat) (f : Nat → Bool) (st : Bool) (D : O → Prop) (xs : List O) (t : Nat) : Prop where
  k : Kw V W n f
  d : ∀ o, D o → Cov f st o
  m : ∀ o ∈ xs.take t, Cov f st o
theorem Kt.next {V W W' : World} {n : Nat} {f g : Nat → Bool} {st su : Bool} {D : O → Prop} {xs : List O} {t : Nat} (h : Kt V W n f st D xs t) (hk : Kw V W' n g) (ht : t < xs.length) (hf : ∀ j, f j = true → g j = true) (hs : st = true → su = true) (hc : Cov g su xs[t]) : Kt V W' n g su D xs (t + 1) := by
  refine ⟨hk, fun o ho => (h.d o ho).mono hf hs, fun o ho => ?_⟩
  rw [List.take_succ_eq_append_getElem ht, List.mem_append, List.mem_singleton] at ho
  rcases ho with ho | rfl
  · exact (h.m o ho).mono hf hs
  · exact hc
theorem row32 : ∀ j : Nat, j < 32 → (#[.bool false, .bool false, .bool false, .bool false, .bool false, .bool false, .bool false, .bool false, .bool false, .bool false, .bool false, .bool false, .bool false, .bool false, .bool false, .bool false, .bool false, .bool false, .bool false, .bool false, .bool false, .bool false, .bool false, .bool false, .bool false, .bool false, .bool false, .bool false, .bool false, .bool false, .bool false, .bool false] : Array Value)[j]? = some (.bool false)
  | 0, _ => rfl
  | 1, _ => rfl
  | 2, _ => rfl
  | 3, _ => rfl
  | 4, _ => rfl
  | 5, _ => rfl
  | 6, _ => rfl
  | 7, _ => rfl
  | 8, _ => rfl
  | 9, _ => rfl
  | 10, _ => rfl
  | 11, _ => rfl
  | 12, _ => rfl
  | 13, _ => rfl
  | 14, _ => rfl
  | 15, _ => rfl
  | 16, _ => rfl
  | 17, _ => rfl
  | 18, _ => rfl
  | 19, _ => rfl
  | 20, _ => rfl
  | 21, _ => rfl
  | 22, _ => rfl
  | 23, _ => rfl
  | 24, _ => rfl
  | 25, _ => rfl
  | 26, _ => rfl
  | 27, _ => rfl
  | 28, _ => rfl
  | 29, _ => rfl
  | 30, _ => rfl
  | 31, _ => rfl
  | _ + 32, h => absurd h (by omega)
/-- An operation of a program, in all its words. -/
structure xs_ok (o : O) : Prop where
  a : o.Ok
  b : okP o = true
  c : OkM o
theorem Ka9.off {W W' : World} {b n : Nat} {a m : Option Addr} {c d : Nat} {M : Ma} {T : Nat → Prop} (h : Ka9 W b a m c d M T) (g : Fr (One n) W W') (h1 : b ≠ n) (h2 : ∀ x, a = some x → x.block ≠ n) (h3 : ∀ x, m = some x → x.block ≠ n) : Ka9 W' b a m c d M T :=
  ⟨⟨fun j v e => (g.cell h.at_.lt h1 j).trans (h.at_.c j v e), fun j => (g.frozen h.at_.lt h1 j).trans (h.at_.f j), Nat.lt_of_lt_of_le h.at_.lt g.size⟩, h.r.fr g fun _ x e => h2 x e, h.g.fr g fun _ x e => h3 x e, h.t, Nat.lt_of_lt_of_le h.l.1 g.size, fun x e => Nat.lt_of_lt_of_le (h.l.2.1 x e) g.size, fun x e => Nat.lt_of_lt_of_le (h.l.2.2 x e) g.size⟩
theorem regs_cell {W : World} {a : Option Addr} {M : Ma} (h : NL W a (regL M)) : ∃ b f, a = some ⟨b, f, none⟩ ∧ ∀ i : Nat, i < 32 → W.cell? ⟨b, f + i, none⟩ = some (.int .i64 (M.r i)) := by
  obtain ⟨b, f, e, -, hc⟩ := h.is (by rw [regL_len]; omega)
  refine ⟨b, f, e, fun i hi => ?_⟩
  rw [hc i (by rw [regL_len]; exact hi), regL_get]
theorem cov_all {ps : List Bk} {f : Nat → Bool} {st : Bool} (h : ∀ x ∈ ps, ∀ o, (o ∈ x.ops ∨ o ∈ x.body) → Cov f st o) : (∀ j, f j = false → ¬ Wrs ps j) ∧ (st = false → ¬ Sto ps) := by
  refine ⟨fun j hj ⟨x, hx, o, ho, h1, h2⟩ => ?_, fun hs ⟨x, hx, o, ho, h1⟩ => ?_⟩
  · have := (h x hx o ho).1 h1
    rw [h2, Int.toNat_natCast, hj] at this; cases this
  · have := (h x hx o ho).2 h1
    rw [hs] at this; cases this
end Go.Proofs.YtlnfhbkkodhmaaaDoor.Sm
