/- The list of work, a map of blocks: its greatest block, whatever order the map is gone through in. Conditions: the map's keys are small numbers. -/
import Derived.Test.YtddcndlogoajkaaDoorQVb
import Derived.Test.YtddcndlogoajkaaDoorQMp
import Derived.Carry
namespace Go.Proofs.YtddcndlogoajkaaDoor.L8.Li
open Go.ChangeShapes Go.WideShapes Go.ChangeAt Go.RowKit Go.Maps
open _root_.Go.Proofs.YtddcndlogoajkaaDoor.L8.So _root_.Go.Proofs.YtddcndlogoajkaaDoor.L8.Op _root_.Go.Proofs.YtddcndlogoajkaaDoor.L8.Fl _root_.Go.Proofs.YtddcndlogoajkaaDoor.L8.Lv
set_option maxRecDepth 20000

theorem law3 : Keyed Tryd.prog 3 := int_keyed Tryd.underlying3
theorem key3 {n : Nat} (h : n < 1000) : keyOf Tryd.prog 3 (.int .i64 (n : Int)) = some (.int .i64 (n : Int)) := keyOf_int_mk Tryd.underlying3 (wfS h)
abbrev kn (n : Nat) : Lit := .int .i64 (n : Int)
theorem kn_inj {a b : Nat} (h : kn a = kn b) : a = b := by
  simp only [kn, Lit.int.injEq] at h
  omega
theorem kn_key (n : Nat) : WideAt.IsKeyLit (kn n) := by simp [WideAt.IsKeyLit]
/-- A map of blocks in memory. -/
structure Wm (w : World) (mb : Nat) (D : DataW Unit) (N : Nat) : Prop where
  own : w.ownsMap Tryd.prog 3 (unitElem (H := Unit)) mb (Maps.size D) D
  key : ∀ l, Maps.has D l = true → ∃ n : Nat, n < N ∧ l = kn n
theorem tight {w : World} {mb n : Nat} {D : DataW Unit} (h : w.ownsMap Tryd.prog 3 (unitElem (H := Unit)) mb n D) : w.ownsMap Tryd.prog 3 (unitElem (H := Unit)) mb (Maps.size D) D := by
  obtain ⟨es, clock, h1, h2, h3, rfl⟩ := h
  exact ⟨es, clock, h1, h2, by simp [Maps.size, length_sorted], rfl⟩
theorem Wm.kept {w w' : World} {mb N : Nat} {D : DataW Unit} (h : Wm w mb D N) (hb : Below w.heap.size w w') : Wm w' mb D N :=
  ⟨h.own.kept (row := none) ⟨hb.os, hb.tape, hb.output, hb.size, fun k hk _ => hb.block k hk⟩ (by simp), h.key⟩

/-- The map is gone through. -/
structure Gg (w wr : World) (mb r : Nat) (D : DataW Unit) (m : Nat) (left : Lit → Bool) (cnt : Nat) : Prop where
  rg : wr.ranges Tryd.prog 3 (unitElem (H := Unit)) mb r (Maps.size D) D left cnt
  b : Below w.heap.size w wr
  hr : w.heap.size ≤ r
  lf : ∀ l, left l = true → Maps.has D l = true
  is : (cnt = Maps.size D ∧ m = 0) ∨ Maps.has D (kn m) = true
theorem Gg.step {w wr w1 : World} {mb r m cnt cnt1 y : Nat} {D : DataW Unit} {left : Lit → Bool} (h : Gg w wr mb r D m left cnt) (hy : left (kn y) = true)
    (hrg : w1.ranges Tryd.prog 3 (unitElem (H := Unit)) mb r (Maps.size D) D (fun z => left z && !z.sameKey (kn y)) cnt1) (hg1 : wr.grownBy w1 (some r)) : Gg w w1 mb r D (if m < y then y else m) (fun z => left z && !z.sameKey (kn y)) cnt1 := by
  refine ⟨hrg, h.b.grown hg1 h.b.size (fun j hj => by cases hj; exact h.hr), h.hr, fun l hl => ?_, Or.inr ?_⟩
  · rw [Bool.and_eq_true] at hl
    exact h.lf l hl.1
  · split
    · exact h.lf _ hy
    · rcases h.is with ⟨_, h0⟩ | h0
      · have : y = m := by omega
        rw [← this]; exact h.lf _ hy
      · exact h0
theorem keyOf3_inv {key : Value} {kl : Lit} (h : keyOf Tryd.prog 3 key = some kl) : ∃ x : Int, key = .int .i64 x := by
  obtain ⟨x, rfl, _⟩ := Maps.keyOf_int_inv Tryd.underlying3 h
  exact ⟨x, rfl⟩

set_option maxHeartbeats 2000000 in
theorem greatest_any (mb N : Nat) (D : DataW Unit) (w : World) (h : Wm w mb D N) (hp : 0 < Maps.size D) :
    Calls Tryd.prog 39 #[.map (some mb)] w fun e w' => ∃ g : Nat, e = .returned (.int .i64 (g : Int)) ∧ g < N ∧ Maps.has D (kn g) = true ∧ Below w.heap.size w w' := by
  have HM : Hid (Wm w mb D N) := h
  clear h
  go_enter Tryd.func39, Tryd.ntmps39
  go_wp2_with (first
    | (at_range; refine wpList_range_own _ rfl _ 85 rfl 3 87 law3 Tryd.underlying85 _ mb _ _ rfl HM.out.own ?_; intro w5 hrg5 hg5 hs5))
  go_frame
  have HG : Hid (Gg w w5 mb w.heap.size D 0 (Maps.has D) (Maps.size D)) := ⟨hrg5, (Below.refl _ _).grown hg5 (Nat.le_refl _) (fun j hj => by cases hj), Nat.le_refl _, fun l hl => hl, Or.inl ⟨rfl, rfl⟩⟩
  clear hrg5 hg5 hs5
  generalize w.heap.size = r at *
  go_loopg [3] (Maps.size D + 1) (fun g1 v wr => ∃ (m : Nat) (left : Lit → Bool) (cnt : Nat), cnt < g1 ∧ v = .int .i64 (m : Int) ∧ Hid (Gg w wr mb r D m left cnt))
  case atStart => exact ⟨0, _, _, Nat.lt_succ_self _, rfl, HG.out⟩
  case round =>
    clear HG
    obtain ⟨m, left, cnt, hcg, rfl, HR⟩ := hrel
    go_wp2_with (first
      | (at_next; refine wpList_next_ranges _ rfl _ rfl 3 law3 (unitElem (H := Unit)) (fun p : Int => .int .i64 p) (fun _ : Unit => .agg #[]) (fun key kl h => keyOf3_inv h) (fun v y h => ⟨(), (unitElem_inv h).1⟩) mb r _ _ _ _ rfl HR.out.rg ?_ ?_))
    · intro hc0 hl0
      have hR : Hid (m < N ∧ Maps.has D (kn m) = true) := by
        rcases HR.out.is with ⟨h1, h2⟩ | h1
        · omega
        · obtain ⟨n, hn, e⟩ := HM.out.key _ h1
          rw [kn_inj e]; rw [kn_inj e] at h1
          exact ⟨hn, h1⟩
      clear hl0
      go_wp2
      go_ret
      exact ⟨m, rfl, hR.out.1, hR.out.2, HR.out.b⟩
    · intro px kl' d' ps' w6 cnt1 hkey hlk hv hat hrg hlt hg hs hen
      obtain ⟨y, hy, rfl⟩ := HM.out.key kl' (HR.out.lf kl' hlk)
      have hkk : px = (y : Int) := by
        obtain ⟨x, e1, e2, _⟩ := Maps.keyOf_int_inv Tryd.underlying3 hkey
        simp only [Value.int.injEq, true_and] at e1
        simp only [kn, Lit.int.injEq, true_and] at e2
        omega
      subst hkk
      have HS : Hid (Gg w w6 mb r D (if m < y then y else m) (fun z => left z && !z.sameKey (kn y)) cnt1) := HR.out.step hlk hrg hg
      clear HR hkey hlk hv hat hrg hg hs
      by_cases hmy : m < y
      · rw [if_pos hmy] at HS
        have i1 : (m : Int) < (y : Int) := by omega
        go_wp2
        go_roundg cnt
        case measure => omega
        case rel => exact ⟨y, _, cnt1, hlt, rfl, HS.out⟩
      · rw [if_neg hmy] at HS
        have i1 : ¬ (m : Int) < (y : Int) := by omega
        go_wp2
        go_roundg cnt
        case measure => omega
        case rel => exact ⟨m, _, cnt1, hlt, rfl, HS.out⟩
end Go.Proofs.YtddcndlogoajkaaDoor.L8.Li
