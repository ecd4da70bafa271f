/- The statement SerialDealt: out of what the callees answer. Conditions: the program and the state lie in memory, and the variable as the program lays it. -/
import Derived.Test.YtlnfhbkkodhmaaaDoorQb
namespace Go.Proofs.YtlnfhbkkodhmaaaDoor.Sm
open Go.ChangeShapes Go.WideShapes Go.ChangeAt Go.RowKit
open _root_.Go.Proofs.YtlnfhbkkodhmaaaDoor.Op _root_.Go.Proofs.YtlnfhbkkodhmaaaDoor.So
set_option maxRecDepth 20000

/-- What turns another's leaves this one, if that is what this one is said to turn, or lies behind it. -/
theorem MM.aside {w w' : World} {q : Nat} {ps : List Bk} {T X : Nat → Prop} {M : Ma} (h : MM w q ps T M) (g : Fr X w w') (hx : ∀ k, T k → q ≤ k → ¬ X k) (hp : ∀ k, k < w.heap.size → X k → T k ∨ q ≤ k) : MM w' q ps T M := by
  obtain ⟨ba, bc, po, pc, h1, h2, h3, h4⟩ := h.mr.ex
  refine ⟨⟨⟨ba, bc, po, pc, h1.fr g (hx q h.mr.tq (Nat.le_refl _)), h2.fr (g.mono hp), row_fr h3 g fun k hk => ?_, h4⟩, h.mr.tq, fun k hk => Nat.lt_of_lt_of_le (h.mr.tl k hk) g.size⟩, h.inv, h.ps⟩
  have hq := (h3.lt k hk).1
  cases po with
  | none => simp [Value.ownBlock] at hk
  | some a =>
    simp only [Value.ownBlock, Option.some.injEq] at hk
    subst hk
    exact hx _ (h4 a rfl) (by omega)
theorem MM.shrink {w : World} {q : Nat} {ps : List Bk} {T : Nat → Prop} {M : Ma} (h : MM w q ps T M) : MM w q ps (fun k => T k ∧ q ≤ k) M := by
  obtain ⟨ba, bc, po, pc, h1, h2, h3, h4⟩ := h.mr.ex
  refine ⟨⟨⟨ba, bc, po, pc, h1, h2.grow fun k _ hk => hk.elim (fun h => .inr h.2) .inr, h3, fun a e => ⟨h4 a e, ?_⟩⟩, ⟨h.mr.tq, Nat.le_refl _⟩, fun k hk => h.mr.tl k hk.1⟩, h.inv, h.ps⟩
  have := (own_block h3 e).1
  omega
/-- A machine is said to turn a block without a kind, too. -/
theorem MM.widen {w : World} {q b : Nat} {ps : List Bk} {T : Nat → Prop} {M : Ma} (h : MM w q ps T M) (hb : b < w.heap.size) (hn : NoK w b) : MM w q ps (fun k => T k ∨ k = b) M := by
  obtain ⟨ba, bc, po, pc, h1, h2, h3, h4⟩ := h.mr.ex
  have h2' : PIn w (fun k => (T k ∨ k = b) ∨ q ≤ k) ba ps := by
    have fa : ∀ {a : Option Addr} {xs : List O}, OpsAt w a xs → Far (fun k => T k ∨ q ≤ k) a xs.length → Far (fun k => (T k ∨ k = b) ∨ q ≤ k) a xs.length := fun {a xs} ho hf h0 x e hx => by
      obtain ⟨b', f, e', z, hc⟩ := ho.is h0
      rw [e'] at e; cases e
      rcases hx with (hx | hx) | hx
      · exact hf h0 _ e' (.inl hx)
      · have hx : b' = b := hx
        subst hx
        exact hn _ _ (hc 0 h0).c0
      · exact hf h0 _ e' (.inr hx)
    refine ⟨h2.len, fun h0 => ?_⟩
    obtain ⟨b', f, e, z, hT, hc⟩ := h2.is h0
    refine ⟨b', f, e, z, fun hx => ?_, fun i hi => ?_⟩
    · rcases hx with (hx | hx) | hx
      · exact hT (.inl hx)
      · subst hx
        obtain ⟨p, k1, -⟩ := hc 0 h0
        exact hn _ _ k1.c1
      · exact hT (.inr hx)
    · obtain ⟨p, k1, k2, k3, k4⟩ := hc i hi
      exact ⟨p, k1, k2, fa k2.o k3, fa k2.b k4⟩
  exact ⟨⟨⟨ba, bc, po, pc, h1, h2', h3, fun a e => .inl (h4 a e)⟩, .inl h.mr.tq, fun k hk => hk.elim (h.mr.tl k) fun e => by rw [e]; exact hb⟩, h.inv, h.ps⟩
theorem MM.same {w : World} {q : Nat} {ps : List Bk} {T T' : Nat → Prop} {M : Ma} (h : MM w q ps T M) (e : ∀ k, T k ↔ T' k) : MM w q ps T' M := by
  have : T = T' := funext fun k => propext (e k)
  rw [← this]; exact h
/-- Both machines, one of them behind some steps. -/
structure Dl (w W : World) (ao : Option Addr) (n cap : Nat) (ra ma : Option Addr) (rl rc ml mc : Nat) (q1 q2 z : Nat) (ps : List Bk) (T1 : Nat → Prop) (M M0 : Ma) : Prop where
  bx : Bx w W ao n cap ra ma rl rc ml mc
  m : MM W q1 ps T1 M
  n : MM W q2 ps (fun k => k = q2 ∨ k = q1) M0
  t : ∀ k, T1 k → k = q1 ∨ z ≤ k
  q : w.heap.size + 2 ≤ q1 ∧ q1 < q2 ∧ q2 < z ∧ z ≤ W.heap.size
theorem Bx.tn {w W W' : World} {ao : Option Addr} {n cap : Nat} {ra ma : Option Addr} {rl rc ml mc : Nat} {X : Nat → Prop} (h : Bx w W ao n cap ra ma rl rc ml mc) (g : Fr X W W') (hx : ∀ k, k < w.heap.size + 2 → ¬ X k) : Bx w W' ao n cap ra ma rl rc ml mc := by
  have k : ∀ {b : Nat} {cs : Array Value}, Op.At W b cs → b < w.heap.size + 2 → Op.At W' b cs := fun {b cs} ha hb => ⟨fun j v e => (g.cell ha.lt (hx b hb) j).trans (ha.c j v e), fun j => (g.frozen ha.lt (hx b hb) j).trans (ha.f j), Nat.lt_of_lt_of_le ha.lt g.size⟩
  exact ⟨k h.p (by omega), k h.s (by omega), h.b.trans (g.below h.b.size fun j hj => hx j (by omega))⟩
theorem Dl.up {w W W' : World} {ao : Option Addr} {n cap : Nat} {ra ma : Option Addr} {rl rc ml mc q1 q2 z : Nat} {ps : List Bk} {T1 : Nat → Prop} {M M0 : Ma} (h : Dl w W ao n cap ra ma rl rc ml mc q1 q2 z ps T1 M M0) (g : Below W.heap.size W W') : Dl w W' ao n cap ra ma rl rc ml mc q1 q2 z ps T1 M M0 :=
  ⟨h.bx.up g, h.m.up g, h.n.up g, h.t, ⟨h.q.1, h.q.2.1, h.q.2.2.1, Nat.le_trans h.q.2.2.2 g.size⟩⟩
/-- The first machine goes on. -/
theorem Dl.go {w W W' : World} {ao : Option Addr} {n cap : Nat} {ra ma : Option Addr} {rl rc ml mc q1 q2 z : Nat} {ps : List Bk} {T1 T' : Nat → Prop} {M M' M0 : Ma} (h : Dl w W ao n cap ra ma rl rc ml mc q1 q2 z ps T1 M M0) (hm : MM W' q1 ps T' M') (g : Tn W T1 W' T') : Dl w W' ao n cap ra ma rl rc ml mc q1 q2 z ps T' M' M0 := by
  obtain ⟨g1, g2, g3, g4⟩ := h.q
  refine ⟨h.bx.tn g.f fun k hk hT => ?_, hm, h.n.aside g.f (fun k hk hq hT => ?_) (fun k hk hT => ?_), fun k hT => ?_, ⟨g1, g2, g3, Nat.le_trans g4 g.f.size⟩⟩
  · rcases h.t k hT with e | e <;> omega
  · rcases h.t k hT with e | e <;> rcases hk with hk | hk <;> omega
  · rcases h.t k hT with e | e
    · exact .inl (.inr e)
    · exact .inr (by omega)
  · rcases g.t k hT with e | e
    · exact h.t k e
    · exact .inr (by omega)
/-- The second machine goes on. -/
structure Dm (w W : World) (ao : Option Addr) (n cap : Nat) (ra ma : Option Addr) (rl rc ml mc : Nat) (q1 q2 : Nat) (ps : List Bk) (T1 T2 : Nat → Prop) (M : Ma) : Prop where
  bx : Bx w W ao n cap ra ma rl rc ml mc
  m : MM W q1 ps T1 M
  n : MM W q2 ps T2 M
theorem Dl.go2 {w W W' : World} {ao : Option Addr} {n cap : Nat} {ra ma : Option Addr} {rl rc ml mc q1 q2 z : Nat} {ps : List Bk} {T1 T' : Nat → Prop} {M M0 : Ma} (h : Dl w W ao n cap ra ma rl rc ml mc q1 q2 z ps T1 M M0) (hm : MM W' q2 ps T' M) (g : Tn W (One q2) W' T') : Dm w W' ao n cap ra ma rl rc ml mc q1 q2 ps T1 T' M := by
  obtain ⟨g1, g2, g3, g4⟩ := h.q
  refine ⟨h.bx.tn g.f fun k hk hT => ?_, h.m.apart g.f (fun k hk hT => ?_) (fun k hk hT => ?_), hm⟩
  · have hT : k = q2 := hT; omega
  · have hT : k = q2 := hT
    rcases h.t k hk with e | e <;> omega
  · have hT : k = q2 := hT
    exact .inl (by omega)
theorem Dl.n' {w W : World} {ao : Option Addr} {n cap : Nat} {ra ma : Option Addr} {rl rc ml mc q1 q2 z : Nat} {ps : List Bk} {T1 : Nat → Prop} {M M0 : Ma} (h : Dl w W ao n cap ra ma rl rc ml mc q1 q2 z ps T1 M M0) : MM W q2 ps (One q2) M0 :=
  h.n.shrink.same fun k => ⟨fun hk => by rcases hk.1 with e | e; exact e; exact absurd hk.2 (by have := h.q.2.1; omega), fun e => ⟨.inl e, Nat.le_of_eq (show q2 = k from (show k = q2 from e).symm)⟩⟩
theorem Dm.up {w W W' : World} {ao : Option Addr} {n cap : Nat} {ra ma : Option Addr} {rl rc ml mc q1 q2 : Nat} {ps : List Bk} {T1 T2 : Nat → Prop} {M : Ma} (h : Dm w W ao n cap ra ma rl rc ml mc q1 q2 ps T1 T2 M) (g : Below W.heap.size W W') : Dm w W' ao n cap ra ma rl rc ml mc q1 q2 ps T1 T2 M :=
  ⟨h.bx.up g, h.m.up g, h.n.up g⟩
theorem Own.off {w w' w2 : World} {a : Option Addr} {l : List Int} (h : Own w w' a l) {X : Nat → Prop} (g : Fr X w' w2) (hx : ∀ k, w.heap.size ≤ k → ¬ X k) : NL w2 a l := h.nl.fr g fun h0 x e => hx _ (h.new h0 x e)
end Go.Proofs.YtlnfhbkkodhmaaaDoor.Sm
