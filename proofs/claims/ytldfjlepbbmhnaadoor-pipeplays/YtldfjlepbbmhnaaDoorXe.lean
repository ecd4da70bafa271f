/- The document's Decode, where it refuses. Conditions: none. -/
import Derived.Test.YtldfjlepbbmhnaaDoorXd
namespace Go.Proofs.YtldfjlepbbmhnaaDoor.Bu
open Go.ChangeShapes Go.WideShapes Go.ChangeAt Go.RowKit
open _root_.Go.Proofs.YtldfjlepbbmhnaaDoor.Op
open _root_.Go.Proofs.YtldfjlepbbmhnaaDoor.Tb (Tab TabAt Bnds four tabAt_new ckR)
open _root_.Go.Proofs.YtldfjlepbbmhnaaDoor.So
set_option maxRecDepth 20000
/-- Bundles in a row of their own. -/
structure Rd (w W : World) (t : Tab) (a : Option Addr) (c : Nat) (ls : List Bn) : Prop where
  t : TabAt W w.heap.size t
  up : Below w.heap.size w W
  row : ∃ cs, W.ownsRow (w.heap.size + 1) 63 4 (.slice a ls.length c) ls.length cs ∧ ∀ (i : Nat) (h : i < ls.length), ∃ p : Pb, (∀ k, k < 4 → cs[i * 4 + k]? = some (.slice (p.a k) (ls[i].l k).length (p.c k))) ∧ ∀ k, k < 4 → OpsAt W (p.a k) (ls[i].l k) ∧ (0 < (ls[i].l k).length → ∀ A, p.a k = some A → ∀ A', a = some A' → A.block ≠ A'.block)
theorem Rd.next {w W W' : World} {t : Tab} {a : Option Addr} {c : Nat} {ls : List Bn} (h : Rd w W t a c ls) (g : Below W.heap.size W W') : Rd w W' t a c ls := by
  obtain ⟨cs, h1, h2⟩ := h.row
  refine ⟨h.t.below g h.t.lt, h.up.trans (g.mono h.up.size), cs, row_up h1 g, fun i hi => ?_⟩
  obtain ⟨p, h3, h4⟩ := h2 i hi
  exact ⟨p, h3, fun k hk => ⟨(h4 k hk).1.below g, (h4 k hk).2⟩⟩
theorem Rd.start (w : World) {W : World} {t : Tab} (ht : TabAt W w.heap.size t) (hu : Below w.heap.size w W) : Rd w W t none 0 [] := ⟨ht, hu, [], ⟨rfl, .inl ⟨rfl, rfl⟩⟩, fun i hi => absurd hi (by simp)⟩
theorem Rd.add {w X w4 : World} {t : Tab} {a : Option Addr} {c g cap : Nat} {ls : List Bn} {x : Bn} {p : Pb} {cs : List Value} (s : Rd w X t a c ls) (hcs : X.ownsRow (w.heap.size + 1) 63 4 (.slice a ls.length c) ls.length cs) (hrow : ∀ (i : Nat) (h : i < ls.length), ∃ p : Pb, (∀ k, k < 4 → cs[i * 4 + k]? = some (.slice (p.a k) (ls[i].l k).length (p.c k))) ∧ ∀ k, k < 4 → OpsAt X (p.a k) (ls[i].l k) ∧ (0 < (ls[i].l k).length → ∀ A, p.a k = some A → ∀ A', a = some A' → A.block ≠ A'.block)) (hx : BnIn X x p) (hd : ∀ k, k < 4 → ∀ A, p.a k = some A → ∀ A', a = some A' → A.block ≠ A'.block) (hgrow : X.grownBy w4 (Value.slice a ls.length c).ownBlock) (hown : w4.ownsRow (w.heap.size + 1) 63 4 (.slice (some ⟨g, 0, none⟩) (ls.length + 1) cap) (ls.length + 1) (cs ++ (bcs x p).toList)) (hg : (Value.slice a ls.length c).ownBlock = some g ∨ g = X.heap.size) :
    Rd w w4 t (some ⟨g, 0, none⟩) cap (ls ++ [x]) := by
  have hl := s.t.lt
  have hlen : cs.length = ls.length * 4 := hcs.1
  have B : Below (w.heap.size + 1) X w4 := ⟨hgrow.os, hgrow.tape, hgrow.output, hgrow.size, fun j hj => hgrow.block j (Nat.lt_of_lt_of_le hj hl) fun e => by
    have := (hcs.lt j e.symm).1
    omega⟩
  have key : ∀ (q : Option Addr) (xs : List O), OpsAt X q xs → (0 < xs.length → ∀ A, q = some A → ∀ A', a = some A' → A.block ≠ A'.block) → OpsAt w4 q xs ∧ (0 < xs.length → ∀ A, q = some A → ∀ A', (some ⟨g, 0, none⟩ : Option Addr) = some A' → A.block ≠ A'.block) := by
    intro q xs h1 h2
    refine ⟨⟨h1.ok, h1.len, fun h0 => ?_⟩, fun hn A hA A' e => ?_⟩
    · obtain ⟨b, f, e, z, hc'⟩ := h1.is h0
      have hb : w4.heap[b]? = X.heap[b]? := hgrow.block b z fun e2 => by
        cases a with
        | none => simp [Value.ownBlock] at e2
        | some y =>
          simp only [Value.ownBlock, Option.some.injEq] at e2
          exact h2 h0 _ e y rfl e2
      refine ⟨b, f, e, Nat.lt_of_lt_of_le z hgrow.size, fun i hi => ?_⟩
      obtain ⟨c0, c1, c2, c3, c4⟩ := hc' i hi
      have cc : ∀ q, w4.cell? ⟨b, q, none⟩ = X.cell? ⟨b, q, none⟩ := fun q => World.cell?_of_block (w := X) hb
      exact ⟨by rw [cc]; exact c0, by rw [cc]; exact c1, by rw [cc]; exact c2, by rw [cc]; exact c3, by rw [cc]; exact c4⟩
    · injection e with e
      subst e
      rcases hg with hg | hg
      · cases a with
        | none => simp [Value.ownBlock] at hg
        | some y =>
          simp only [Value.ownBlock, Option.some.injEq] at hg
          have := h2 hn A hA y rfl
          rw [hg] at this
          exact this
      · obtain ⟨b, f, e', z, -⟩ := h1.is hn
        rw [e'] at hA
        injection hA with hA
        subst hA
        show ¬ b = g
        omega
  refine ⟨s.t.below B (by omega), s.up.trans (B.mono (by omega)), cs ++ (bcs x p).toList, by rw [List.length_append]; exact hown, fun i hi => ?_⟩
  by_cases e : i < ls.length
  · obtain ⟨p', h3, h4⟩ := hrow i e
    have e1 : (ls ++ [x])[i] = ls[i] := List.getElem_append_left e
    rw [e1]
    exact ⟨p', fun k hk => by rw [List.getElem?_append_left (by omega)]; exact h3 k hk, fun k hk => key _ _ (h4 k hk).1 (h4 k hk).2⟩
  · have e2 : i = ls.length := by simp at hi; omega
    subst e2
    have e1 : (ls ++ [x])[ls.length] = x := by simp
    rw [e1]
    refine ⟨p, fun k hk => ?_, fun k hk => key _ _ (hx.o k hk) fun _ => hd k hk⟩
    rw [List.getElem?_append_right (by omega), hlen, Nat.add_sub_cancel_left]
    match k, hk with
    | 0, _ => rfl
    | 1, _ => rfl
    | 2, _ => rfl
    | 3, _ => rfl
theorem Rd.at {w W : World} {t : Tab} {a : Option Addr} {c : Nat} {ls : List Bn} (h : Rd w W t a c ls) (hl : ls.length ≤ 65536) : BsAt W a ls := by
  obtain ⟨cs, h1, h2⟩ := h.row
  refine ⟨by omega, fun h0 => ?_⟩
  rcases h1.2 with ⟨_, e⟩ | ⟨g, cap, cur, e, -, -, -⟩
  · omega
  · injection e with e1 e2 e3
    subst e1
    refine ⟨g, 0, rfl, (h1.lt g rfl).2, fun i hi => ?_⟩
    obtain ⟨p, h3, h4⟩ := h2 i hi
    refine ⟨p, ⟨fun k hk => ?_⟩, ⟨fun k hk => (h4 k hk).1⟩⟩
    have := h1.cells (g := g) rfl _ _ (h3 k hk)
    rw [add_bu, ← Nat.add_assoc] at this
    exact this
/-- What the document's Decode answers. -/
def RdeOut (w : World) (t : Tab) (v : Nat → Int) (n : Nat) (e : Ending) (w' : World) : Prop :=
  if deB t v n then ∃ a c, e = .returned (.tuple #[.slice a n c, .int .i64 0]) ∧ BsAt w' a (deL t v n) ∧ Below w.heap.size w w'
  else e = .returned (.tuple #[.slice none 0 0, .int .i64 210]) ∧ Below w.heap.size w w'
theorem RdeOut.no {w w' : World} {t : Tab} {v : Nat → Int} {n : Nat} (h : deB t v n = false) (hb : Below w.heap.size w w') : RdeOut w t v n (.returned (.tuple #[.slice none 0 0, .int .i64 210])) w' := by
  unfold RdeOut; rw [h]; exact ⟨rfl, hb⟩
theorem RdeOut.yes {w w' : World} {t : Tab} {v : Nat → Int} {n c : Nat} {a : Option Addr} (h : deB t v n = true) (h1 : BsAt w' a (deL t v n)) (hb : Below w.heap.size w w') : RdeOut w t v n (.returned (.tuple #[.slice a n c, .int .i64 0])) w' := by
  unfold RdeOut; rw [h]; exact ⟨a, c, rfl, h1, hb⟩
set_option maxHeartbeats 1000000 in
theorem rdec_table (ao : Option Addr) (n cap : Nat) (t : Tab) (w : World) (ht : t.ok = false) :
    Calls Tryd.prog 26 #[.slice ao n cap, t.val] w fun e w' => e = .returned (.tuple #[.slice none 0 0, .int .i64 20]) ∧ Below w.heap.size w w' := by
  have HC : Hid (∀ W, Calls Tryd.prog 42 #[t.val] W fun e w' => e = .returned (.int .i64 20) ∧ Below W.heap.size W w') := fun W => by
    have := Tb.refCheck_any t W
    rw [ck_bad ht] at this
    exact this
  clear ht
  unfold Tab.val at *
  go_enter Tryd.func26, Tryd.ntmps26
  go_wp2_with (first | (go_at_call 42; refine Calls.mono (HC.out _) ?_; rintro e w1 ⟨rfl, hb⟩; have HS1 : Hid (TabAt w1 w.heap.size t ∧ Below w.heap.size w w1) := ⟨(tabAt_new w t 25).below hb (by simp), (by go_grown : Below w.heap.size w (w.alloc (.cells t.cells 25))).trans (hb.mono (by simp))⟩; clear hb; have k2 := HS1.out.1; have qu0 := k2.cu 0 (by decide); have qu1 := k2.cu 1 (by decide); have qu2 := k2.cu 2 (by decide); have qu3 := k2.cu 3 (by decide); have ql0 := k2.cl 0 (by decide); have ql1 := k2.cl 1 (by decide); have ql2 := k2.cl 2 (by decide); have ql3 := k2.cl 3 (by decide); have qb0 := k2.cb 0 (by decide); have qb1 := k2.cb 1 (by decide); have qb2 := k2.cb 2 (by decide); have qb3 := k2.cb 3 (by decide); have qd := k2.cd; have qz := k2.lt; clear k2))
  go_ret2
  exact ⟨rfl, HS1.out.2⟩
set_option maxHeartbeats 1000000 in
theorem rdec_none (ao : Option Addr) (cap : Nat) (t : Tab) (w : World) (ht : t.ok = true) :
    Calls Tryd.prog 26 #[.slice ao 0 cap, t.val] w fun e w' => e = .returned (.tuple #[.slice none 0 0, .int .i64 0]) ∧ Below w.heap.size w w' := by
  have HC : Hid (∀ W, Calls Tryd.prog 42 #[t.val] W fun e w' => e = .returned (.int .i64 0) ∧ Below W.heap.size W w') := fun W => by
    have := Tb.refCheck_any t W
    rw [ck_good ht] at this
    exact this
  have HWd : Hid (∀ W, Calls Tryd.prog 43 #[t.val] W fun e w' => e = .returned (.int .i64 (ofs t 4 : Int)) ∧ Below W.heap.size W w') := fun W => rwidth_any t W ht
  clear ht
  unfold Tab.val at *
  go_enter Tryd.func26, Tryd.ntmps26
  go_wp2_with (first | (go_at_call 42; refine Calls.mono (HC.out _) ?_; rintro e w1 ⟨rfl, hb⟩; have HS1 : Hid (TabAt w1 w.heap.size t ∧ Below w.heap.size w w1) := ⟨(tabAt_new w t 25).below hb (by simp), (by go_grown : Below w.heap.size w (w.alloc (.cells t.cells 25))).trans (hb.mono (by simp))⟩; clear hb; have k2 := HS1.out.1; have qu0 := k2.cu 0 (by decide); have qu1 := k2.cu 1 (by decide); have qu2 := k2.cu 2 (by decide); have qu3 := k2.cu 3 (by decide); have ql0 := k2.cl 0 (by decide); have ql1 := k2.cl 1 (by decide); have ql2 := k2.cl 2 (by decide); have ql3 := k2.cl 3 (by decide); have qb0 := k2.cb 0 (by decide); have qb1 := k2.cb 1 (by decide); have qb2 := k2.cb 2 (by decide); have qb3 := k2.cb 3 (by decide); have qd := k2.cd; have qz := k2.lt; clear k2) | (go_at_call 43; refine Calls.mono (HWd.out _) ?_; rintro e w2 ⟨rfl, hb⟩; have HS2 : Hid (TabAt w2 w.heap.size t ∧ Below w.heap.size w w2) := ⟨HS1.out.1.below hb HS1.out.1.lt, HS1.out.2.trans (hb.mono HS1.out.2.size)⟩; clear hb qu0 qu1 qu2 qu3 ql0 ql1 ql2 ql3 qb0 qb1 qb2 qb3 qd qz))
  go_ret2
  exact ⟨rfl, HS2.out.2⟩
set_option maxHeartbeats 1000000 in
theorem rdec_odd (ao : Option Addr) (n cap : Nat) (t : Tab) (w : World) (ht : t.ok = true) (h0 : n ≠ 0) (hm : n % ofs t 4 ≠ 0) :
    Calls Tryd.prog 26 #[.slice ao n cap, t.val] w fun e w' => e = .returned (.tuple #[.slice none 0 0, .int .i64 210]) ∧ Below w.heap.size w w' := by
  have HC : Hid (∀ W, Calls Tryd.prog 42 #[t.val] W fun e w' => e = .returned (.int .i64 0) ∧ Below W.heap.size W w') := fun W => by
    have := Tb.refCheck_any t W
    rw [ck_good ht] at this
    exact this
  have HWd : Hid (∀ W, Calls Tryd.prog 43 #[t.val] W fun e w' => e = .returned (.int .i64 (ofs t 4 : Int)) ∧ Below W.heap.size W w') := fun W => rwidth_any t W ht
  have hn0 : ((n : Int) == 0) = false := by simpa using h0
  clear ht
  by_cases hd : ofs t 4 = 0
  · rw [hd] at HWd
    clear hm hd h0
    unfold Tab.val at *
    go_enter Tryd.func26, Tryd.ntmps26
    go_wp2_with (first | (go_at_call 42; refine Calls.mono (HC.out _) ?_; rintro e w1 ⟨rfl, hb⟩; have HS1 : Hid (TabAt w1 w.heap.size t ∧ Below w.heap.size w w1) := ⟨(tabAt_new w t 25).below hb (by simp), (by go_grown : Below w.heap.size w (w.alloc (.cells t.cells 25))).trans (hb.mono (by simp))⟩; clear hb; have k2 := HS1.out.1; have qu0 := k2.cu 0 (by decide); have qu1 := k2.cu 1 (by decide); have qu2 := k2.cu 2 (by decide); have qu3 := k2.cu 3 (by decide); have ql0 := k2.cl 0 (by decide); have ql1 := k2.cl 1 (by decide); have ql2 := k2.cl 2 (by decide); have ql3 := k2.cl 3 (by decide); have qb0 := k2.cb 0 (by decide); have qb1 := k2.cb 1 (by decide); have qb2 := k2.cb 2 (by decide); have qb3 := k2.cb 3 (by decide); have qd := k2.cd; have qz := k2.lt; clear k2) | (go_at_call 43; refine Calls.mono (HWd.out _) ?_; rintro e w2 ⟨rfl, hb⟩; have HS2 : Hid (TabAt w2 w.heap.size t ∧ Below w.heap.size w w2) := ⟨HS1.out.1.below hb HS1.out.1.lt, HS1.out.2.trans (hb.mono HS1.out.2.size)⟩; clear hb qu0 qu1 qu2 qu3 ql0 ql1 ql2 ql3 qb0 qb1 qb2 qb3 qd qz))
    go_ret2
    exact ⟨rfl, HS2.out.2⟩
  · generalize ofs t 4 = d at *
    have h1 : ((d : Int) == 0) = false := by simp; omega
    have h3 : (n : Int).tmod (d : Int) = ((n % d : Nat) : Int) := by rw [Int.tmod_eq_emod_of_nonneg (Int.natCast_nonneg n), Int.natCast_emod]
    have h5 : ¬ (d : Int) = 0 := by omega
    generalize n % d = r at *
    have h6 : ((r : Int) != 0) = true := by simp; omega
    clear hm hd h0
    unfold Tab.val at *
    go_enter Tryd.func26, Tryd.ntmps26
    go_wp2_with (first | (go_at_call 42; refine Calls.mono (HC.out _) ?_; rintro e w1 ⟨rfl, hb⟩; have HS1 : Hid (TabAt w1 w.heap.size t ∧ Below w.heap.size w w1) := ⟨(tabAt_new w t 25).below hb (by simp), (by go_grown : Below w.heap.size w (w.alloc (.cells t.cells 25))).trans (hb.mono (by simp))⟩; clear hb; have k2 := HS1.out.1; have qu0 := k2.cu 0 (by decide); have qu1 := k2.cu 1 (by decide); have qu2 := k2.cu 2 (by decide); have qu3 := k2.cu 3 (by decide); have ql0 := k2.cl 0 (by decide); have ql1 := k2.cl 1 (by decide); have ql2 := k2.cl 2 (by decide); have ql3 := k2.cl 3 (by decide); have qb0 := k2.cb 0 (by decide); have qb1 := k2.cb 1 (by decide); have qb2 := k2.cb 2 (by decide); have qb3 := k2.cb 3 (by decide); have qd := k2.cd; have qz := k2.lt; clear k2) | (go_at_call 43; refine Calls.mono (HWd.out _) ?_; rintro e w2 ⟨rfl, hb⟩; have HS2 : Hid (TabAt w2 w.heap.size t ∧ Below w.heap.size w w2) := ⟨HS1.out.1.below hb HS1.out.1.lt, HS1.out.2.trans (hb.mono HS1.out.2.size)⟩; clear hb qu0 qu1 qu2 qu3 ql0 ql1 ql2 ql3 qb0 qb1 qb2 qb3 qd qz))
    go_ret2
    exact ⟨rfl, HS2.out.2⟩
set_option maxHeartbeats 1000000 in
theorem rdec_long (ao : Option Addr) (n cap : Nat) (t : Tab) (w : World) (ht : t.ok = true) (hn : n ≤ 17592186044416) (h0 : n ≠ 0) (hm : n % ofs t 4 = 0) (hl : 65536 < n / ofs t 4) :
    Calls Tryd.prog 26 #[.slice ao n cap, t.val] w fun e w' => e = .returned (.tuple #[.slice none 0 0, .int .i64 3]) ∧ Below w.heap.size w w' := by
  have HC : Hid (∀ W, Calls Tryd.prog 42 #[t.val] W fun e w' => e = .returned (.int .i64 0) ∧ Below W.heap.size W w') := fun W => by
    have := Tb.refCheck_any t W
    rw [ck_good ht] at this
    exact this
  have HWd : Hid (∀ W, Calls Tryd.prog 43 #[t.val] W fun e w' => e = .returned (.int .i64 (ofs t 4 : Int)) ∧ Below W.heap.size W w') := fun W => rwidth_any t W ht
  have hn0 : ((n : Int) == 0) = false := by simpa using h0
  clear ht
  have hd : ofs t 4 ≠ 0 := fun e => by rw [e, Nat.div_zero] at hl; omega
  generalize ofs t 4 = d at *
  have h1 : ((d : Int) == 0) = false := by simp; omega
  have h2 : (n : Int).tdiv (d : Int) = ((n / d : Nat) : Int) := by simp
  have h3 : (n : Int).tmod (d : Int) = 0 := by rw [Int.tmod_eq_emod_of_nonneg (Int.natCast_nonneg n)]; omega
  have h5 : ¬ (d : Int) = 0 := by omega
  have h4 : n / d ≤ 17592186044416 := Nat.le_trans (Nat.div_le_self _ _) hn
  generalize n / d = q at *
  have h7 : (65536 : Int) < (q : Int) := by omega
  clear hm hd h0 hl
  unfold Tab.val at *
  go_enter Tryd.func26, Tryd.ntmps26
  go_wp2_with (first | (go_at_call 42; refine Calls.mono (HC.out _) ?_; rintro e w1 ⟨rfl, hb⟩; have HS1 : Hid (TabAt w1 w.heap.size t ∧ Below w.heap.size w w1) := ⟨(tabAt_new w t 25).below hb (by simp), (by go_grown : Below w.heap.size w (w.alloc (.cells t.cells 25))).trans (hb.mono (by simp))⟩; clear hb; have k2 := HS1.out.1; have qu0 := k2.cu 0 (by decide); have qu1 := k2.cu 1 (by decide); have qu2 := k2.cu 2 (by decide); have qu3 := k2.cu 3 (by decide); have ql0 := k2.cl 0 (by decide); have ql1 := k2.cl 1 (by decide); have ql2 := k2.cl 2 (by decide); have ql3 := k2.cl 3 (by decide); have qb0 := k2.cb 0 (by decide); have qb1 := k2.cb 1 (by decide); have qb2 := k2.cb 2 (by decide); have qb3 := k2.cb 3 (by decide); have qd := k2.cd; have qz := k2.lt; clear k2) | (go_at_call 43; refine Calls.mono (HWd.out _) ?_; rintro e w2 ⟨rfl, hb⟩; have HS2 : Hid (TabAt w2 w.heap.size t ∧ Below w.heap.size w w2) := ⟨HS1.out.1.below hb HS1.out.1.lt, HS1.out.2.trans (hb.mono HS1.out.2.size)⟩; clear hb qu0 qu1 qu2 qu3 ql0 ql1 ql2 ql3 qb0 qb1 qb2 qb3 qd qz))
  go_ret2
  exact ⟨rfl, HS2.out.2⟩
end Go.Proofs.YtldfjlepbbmhnaaDoor.Bu
