/- What PipeParts answers: true, whatever it is handed. Conditions: the words, the state's lists and the table's bounds lie in memory. -/
import Derived.Test.YtldfjlepbbmhnaaDoorTe
import Derived.Test.YtldfjlepbbmhnaaDoorQq
namespace Go.Proofs.YtldfjlepbbmhnaaDoor.Pp
open Go.ChangeShapes Go.WideShapes Go.ChangeAt Go.RowKit
open _root_.Go.Proofs.YtldfjlepbbmhnaaDoor.Op _root_.Go.Proofs.YtldfjlepbbmhnaaDoor.So _root_.Go.Proofs.YtldfjlepbbmhnaaDoor.Bu
open _root_.Go.Proofs.YtldfjlepbbmhnaaDoor.Tb (Tab TabAt Bnds)
set_option maxRecDepth 20000

/-- What is known of both machines and of the three outcomes. -/
structure Pq (w W : World) (t : Tab) (ls : List Bn) (H1 H2 : Hx) (S1 S2 : PM) (q1 q2 b1 b2 b3 : Nat) (po1 mo1 po2 mo2 po3 mo3 : Option Addr) (pc1 mc1 pc2 mc2 pc3 mc3 : Nat) : Prop where
  m : M2 w W t ls H1 H2 S2 S2
  e1 : H1.mb = q1
  e2 : H2.mb = q2
  a1 : At W b1 #[.int .i64 S1.e, .int .i64 (vI S1), .slice po1 S1.p.length pc1, .slice mo1 (memL S1).length mc1, .int .i64 (S1.s : Int)]
  a2 : At W b2 #[.int .i64 S2.e, .int .i64 (vI S2), .slice po2 S2.p.length pc2, .slice mo2 (memL S2).length mc2, .int .i64 (S2.s : Int)]
  a3 : At W b3 #[.int .i64 S2.e, .int .i64 (vI S2), .slice po3 S2.p.length pc3, .slice mo3 (memL S2).length mc3, .int .i64 (S2.s : Int)]
  n1 : NL W po1 S1.p
  n2 : NL W po2 S2.p
  k2 : NL W mo2 (memL S2)
  n3 : W.ownsRow w.heap.size 2 1 (.slice po3 S2.p.length pc3) S2.p.length (nums S2.p)
  k3 : W.ownsRow w.heap.size 2 1 (.slice mo3 (memL S2).length mc3) (memL S2).length (nums (memL S2))
  f3 : ∀ b, (Value.slice po3 S2.p.length pc3).ownBlock = some b → ¬ own H2 b
  g3 : ∀ b, (Value.slice mo3 (memL S2).length mc3).ownBlock = some b → ¬ own H2 b
  r2 : ¬ own H2 b2
  r3 : ¬ own H2 b3
  c2 : S2.p.length ≤ pc2
theorem Pq.next {w W W' : World} {t : Tab} {ls : List Bn} {H1 H2 : Hx} {S1 S2 : PM} {q1 q2 b1 b2 b3 : Nat} {po1 mo1 po2 mo2 po3 mo3 : Option Addr} {pc1 mc1 pc2 mc2 pc3 mc3 : Nat} (h : Pq w W t ls H1 H2 S1 S2 q1 q2 b1 b2 b3 po1 mo1 po2 mo2 po3 mo3 pc1 mc1 pc2 mc2 pc3 mc3) (g : Below W.heap.size W W') : Pq w W' t ls H1 H2 S1 S2 q1 q2 b1 b2 b3 po1 mo1 po2 mo2 po3 mo3 pc1 mc1 pc2 mc2 pc3 mc3 :=
  ⟨h.m.next g, h.e1, h.e2, h.a1.below g h.a1.lt, h.a2.below g h.a2.lt, h.a3.below g h.a3.lt, h.n1.up g, h.n2.up g, h.k2.up g, row_up h.n3 g, row_up h.k3 g, h.f3, h.g3, h.r2, h.r3, h.c2⟩
theorem row_cap {W : World} {B e z n c : Nat} {ao : Option Addr} {xs : List Value} (h : W.ownsRow B e z (.slice ao n c) n xs) : n ≤ c := by
  rcases h.2 with ⟨h1, h2⟩ | ⟨g, cap, cur, h1, h2, h3⟩
  · omega
  · injection h1 with _ _ h1
    rw [h1]
    exact h3.2.1
theorem nl_pre {W : World} {ao : Option Addr} {l q : List Int} (h : NL W ao (l ++ q)) : NL W ao l := by
  refine ⟨fun h0 => ?_⟩
  obtain ⟨b, f, e, z, hc⟩ := h.is (by rw [List.length_append]; omega)
  exact ⟨b, f, e, z, fun i hi => by rw [hc i (by rw [List.length_append]; omega), List.getElem_append_left hi]⟩
/-- Behind the first run. -/
structure Pr1 (w W : World) (t : Tab) (ls : List Bn) (H1 H2 : Hx) (S1 S0 : PM) (q1 q2 B b1 : Nat) (v1 : Value) (c1 : Array Value) : Prop where
  m : M2 w W t ls H1 H2 S1 S0
  e1 : H1.mb = q1
  e2 : H2.mb = q2
  r1 : W.ownsRow B 2 1 v1 S1.p.length (nums S1.p)
  f1 : ∀ b, v1.ownBlock = some b → ¬ own H1 b
  lo : ∀ b, own H2 b → b < B
  hB : w.heap.size ≤ B
  hb : B ≤ b1
  a1 : At W b1 c1
  fb : ¬ own H1 b1
/-- Behind the second run. -/
structure Pr2 (w W : World) (t : Tab) (ls : List Bn) (H1 H2 : Hx) (S1 S2 S0 : PM) (q1 q2 B b1 b2 : Nat) (v1 v2 x2 : Value) (c1 c2 : Array Value) : Prop where
  m : M2 w W t ls H1 H2 S2 S0
  e1 : H1.mb = q1
  e2 : H2.mb = q2
  r1 : W.ownsRow B 2 1 v1 S1.p.length (nums S1.p)
  r2 : W.ownsRow B 2 1 v2 S2.p.length (nums S2.p)
  k2 : W.ownsRow B 2 1 x2 (memL S2).length (nums (memL S2))
  lo : ∀ b, own H2 b → b < B
  hB : w.heap.size ≤ B
  hb1 : B ≤ b1
  a1 : At W b1 c1
  hb2 : B ≤ b2
  a2 : At W b2 c2
theorem al_up (W : World) (c : Array Value) (ty : TypeId) : Below W.heap.size W (W.alloc (.cells c ty)) := (Below.refl _ _).alloc (Nat.le_refl _) _
theorem pr1_make {w w2 w3 : World} {t : Tab} {ls : List Bn} {H1 H2 H1' : Hx} {S0 S1 : PM} {q1 q2 : Nat} {v1 : Value} (c1 : Array Value) (h : M2 w w2 t ls H1 H2 S0 S0) (e1 : H1.mb = q1) (e2 : H2.mb = q2) (k1 : w3.ownsRow w2.heap.size 2 1 v1 S1.p.length (nums S1.p)) (k3 : Mch w3 t ls H1' S1) (k4 : Tn w2 H1 w3 H1') (k5 : ∀ b, v1.ownBlock = some b → ¬ own H1' b) :
    Pr1 w (w3.alloc (.cells c1 42)) t ls H1' H2 S1 S0 q1 q2 w2.heap.size w3.heap.size v1 c1 :=
  ⟨(h.go k3 k4).next (al_up _ _ _), k4.q.trans e1, e2, row_up k1 (al_up _ _ _), k5, fun _ e => own_lt h.m2 e, h.up.size, k4.f.size, At.new _ _ _, fun e => absurd (own_lt k3 e) (Nat.lt_irrefl _)⟩
theorem pr2_make {w W w4 : World} {t : Tab} {ls : List Bn} {H1 H2 H1' : Hx} {S0 S1 S2 : PM} {q1 q2 B b1 : Nat} {v1 v2 x2 : Value} {c1 : Array Value} (c2 : Array Value) (h : Pr1 w W t ls H1 H2 S1 S0 q1 q2 B b1 v1 c1) (k1 : w4.ownsRow W.heap.size 2 1 v2 S2.p.length (nums S2.p)) (k2 : w4.ownsRow W.heap.size 2 1 x2 (memL S2).length (nums (memL S2))) (k3 : Mch w4 t ls H1' S2) (k4 : Tn W H1 w4 H1') :
    Pr2 w (w4.alloc (.cells c2 42)) t ls H1' H2 S1 S2 S0 q1 q2 B b1 w4.heap.size v1 v2 x2 c1 c2 := by
  have hz := k4.f.size
  have hbz := h.a1.lt
  have hbb := h.hb
  exact ⟨(h.m.go k3 k4).next (al_up _ _ _), k4.q.trans h.e1, h.e2, row_up (row_fr h.r1 k4.f h.f1) (al_up _ _ _), row_up (row_le k1 (by omega)) (al_up _ _ _), row_up (row_le k2 (by omega)) (al_up _ _ _), h.lo, h.hB, h.hb, (At.frb h.a1 k4.f h.fb).below (al_up _ _ _) (At.frb h.a1 k4.f h.fb).lt, by omega, At.new _ _ _⟩
theorem pq_make {w W w5 : World} {t : Tab} {ls : List Bn} {H1 H2 H2' : Hx} {S0 S1 S2 : PM} {q1 q2 B b1 b2 : Nat} {po1 mo1 po2 mo2 po3 mo3 : Option Addr} {pc1 mc1 pc2 mc2 pc3 mc3 : Nat}
    (h : Pr2 w W t ls H1 H2 S1 S2 S0 q1 q2 B b1 b2 (.slice po1 S1.p.length pc1) (.slice po2 S2.p.length pc2) (.slice mo2 (memL S2).length mc2) #[.int .i64 S1.e, .int .i64 (vI S1), .slice po1 S1.p.length pc1, .slice mo1 (memL S1).length mc1, .int .i64 (S1.s : Int)] #[.int .i64 S2.e, .int .i64 (vI S2), .slice po2 S2.p.length pc2, .slice mo2 (memL S2).length mc2, .int .i64 (S2.s : Int)]) (k1 : w5.ownsRow W.heap.size 2 1 (.slice po3 S2.p.length pc3) S2.p.length (nums S2.p)) (k2 : w5.ownsRow W.heap.size 2 1 (.slice mo3 (memL S2).length mc3) (memL S2).length (nums (memL S2))) (k3 : Mch w5 t ls H2' S2) (k4 : Tn W H2 w5 H2')
    (k5 : ∀ b, (Value.slice po3 S2.p.length pc3).ownBlock = some b → ¬ own H2' b) (k6 : ∀ b, (Value.slice mo3 (memL S2).length mc3).ownBlock = some b → ¬ own H2' b) :
    Pq w (w5.alloc (.cells #[.int .i64 S2.e, .int .i64 (vI S2), .slice po3 S2.p.length pc3, .slice mo3 (memL S2).length mc3, .int .i64 (S2.s : Int)] 42)) t ls H1 H2' S1 S2 q1 q2 b1 b2 w5.heap.size po1 mo1 po2 mo2 po3 mo3 pc1 mc1 pc2 mc2 pc3 mc3 := by
  have hz := k4.f.size
  have hw := h.m.up.size
  have hb2 := h.a2.lt
  have l1 := h.hb1
  have l2 := h.hb2
  have n1 : ¬ own H2 b1 := fun e => by have := h.lo _ e; omega
  have n2 : ¬ own H2 b2 := fun e => by have := h.lo _ e; omega
  have fr : ∀ {v : Value} {n : Nat} {xs : List Value}, W.ownsRow B 2 1 v n xs → w5.ownsRow B 2 1 v n xs := fun {v n xs} hr => row_fr hr k4.f fun b hb e => by have := (hr.lt b hb).1; have := h.lo _ e; omega
  have g := al_up w5 #[.int .i64 S2.e, .int .i64 (vI S2), .slice po3 S2.p.length pc3, .slice mo3 (memL S2).length mc3, .int .i64 (S2.s : Int)] 42
  exact ⟨((h.m.swap.go k3 k4).swap).next g, h.e1, k4.q.trans h.e2, (At.frb h.a1 k4.f n1).below g (At.frb h.a1 k4.f n1).lt, (At.frb h.a2 k4.f n2).below g (At.frb h.a2 k4.f n2).lt, At.new _ _ _, (nl_row (fr h.r1) rfl).up g, (nl_row (fr h.r2) rfl).up g, (nl_row (fr h.k2) rfl).up g, row_up (row_le k1 hw) g, row_up (row_le k2 hw) g, k5, k6, fun e => (k4.t _ e).elim n2 (fun e => by omega), fun e => absurd (own_lt k3 e) (Nat.lt_irrefl _), row_cap h.r2⟩
def Yes (w : World) (e : Ending) (w' : World) : Prop := e = .returned (.bool true) ∧ Below w.heap.size w w'
/-- More words, or more or less cycles, than are asked about. -/
theorem parts_far (ao ra ma : Option Addr) (n cap rl rc ml mc : Nat) (t : Tab) (a b : Int) (w : World) (hG : Bnds w) (h : 16384 < (n : Int) ∨ a < 0 ∨ b < 0 ∨ 2000 < a ∨ 2000 < b) :
    Calls Tryd.prog 4 #[.slice ao n cap, t.val, .agg #[.slice ra rl rc, .slice ma ml mc], .int .i64 a, .int .i64 b] w (Yes w) := by
  have HW : Hid (∀ V, Below w.heap.size w V → Calls Tryd.prog 7 #[] V fun e w' => e = .returned (.bool true) ∧ Below V.heap.size V w') := fun V hV => wakes_any V (hG.below hV hG.big)
  clear hG
  unfold Tab.val
  have HF : Hid (∀ (c : Bool), c = true → True) := fun _ _ => trivial
  clear HF
  by_cases c0 : 16384 < (n : Int)
  · clear h
    go_enter Tryd.func4, Tryd.ntmps4
    go_wp2_with (first
      | (go_at_call 7; refine Calls.mono (HW.out _ (by go_grown)) ?_; rintro e w4 ⟨rfl, hb⟩; have HC4 : Hid (Below w.heap.size w w4) := (by go_grown : Below w.heap.size w ((w.alloc (.cells t.cells 25)).alloc (.cells #[.slice ra rl rc, .slice ma ml mc] 28))).trans (hb.mono (by simp; omega)); clear hb))
    go_ret
    exact ⟨rfl, HC4.out⟩
  by_cases c1 : a < 0
  · clear h
    go_enter Tryd.func4, Tryd.ntmps4
    go_wp2_with (first
      | (go_at_call 7; refine Calls.mono (HW.out _ (by go_grown)) ?_; rintro e w4 ⟨rfl, hb⟩; have HC4 : Hid (Below w.heap.size w w4) := (by go_grown : Below w.heap.size w ((w.alloc (.cells t.cells 25)).alloc (.cells #[.slice ra rl rc, .slice ma ml mc] 28))).trans (hb.mono (by simp; omega)); clear hb))
    go_ret
    exact ⟨rfl, HC4.out⟩
  by_cases c2 : b < 0
  · clear h
    go_enter Tryd.func4, Tryd.ntmps4
    go_wp2_with (first
      | (go_at_call 7; refine Calls.mono (HW.out _ (by go_grown)) ?_; rintro e w4 ⟨rfl, hb⟩; have HC4 : Hid (Below w.heap.size w w4) := (by go_grown : Below w.heap.size w ((w.alloc (.cells t.cells 25)).alloc (.cells #[.slice ra rl rc, .slice ma ml mc] 28))).trans (hb.mono (by simp; omega)); clear hb))
    go_ret
    exact ⟨rfl, HC4.out⟩
  by_cases c3 : 2000 < a
  · clear h
    go_enter Tryd.func4, Tryd.ntmps4
    go_wp2_with (first
      | (go_at_call 7; refine Calls.mono (HW.out _ (by go_grown)) ?_; rintro e w4 ⟨rfl, hb⟩; have HC4 : Hid (Below w.heap.size w w4) := (by go_grown : Below w.heap.size w ((w.alloc (.cells t.cells 25)).alloc (.cells #[.slice ra rl rc, .slice ma ml mc] 28))).trans (hb.mono (by simp; omega)); clear hb))
    go_ret
    exact ⟨rfl, HC4.out⟩
  have c4 : 2000 < b := by omega
  clear h
  go_enter Tryd.func4, Tryd.ntmps4
  go_wp2_with (first
    | (go_at_call 7; refine Calls.mono (HW.out _ (by go_grown)) ?_; rintro e w4 ⟨rfl, hb⟩; have HC4 : Hid (Below w.heap.size w w4) := (by go_grown : Below w.heap.size w ((w.alloc (.cells t.cells 25)).alloc (.cells #[.slice ra rl rc, .slice ma ml mc] 28))).trans (hb.mono (by simp; omega)); clear hb))
  go_ret
  exact ⟨rfl, HC4.out⟩
/-- Words that are none, or a state that is too great. -/
theorem parts_no (ao ra ma : Option Addr) (n cap rl rc ml mc : Nat) (t : Tab) (a b E : Int) (w : World) (hG : Bnds w) (hn : (n : Int) ≤ 16384) (ha : 0 ≤ a ∧ a ≤ 2000) (hb : 0 ≤ b ∧ b ≤ 2000) (hE : E ≠ 0)
    (h : ∀ V, Below w.heap.size w V → Calls Tryd.prog 9 #[.slice ao n cap, t.val, .agg #[.slice ra rl rc, .slice ma ml mc]] V fun e w' => e = .returned (.tuple #[.pointer none, .int .i64 E]) ∧ Below V.heap.size V w') :
    Calls Tryd.prog 4 #[.slice ao n cap, t.val, .agg #[.slice ra rl rc, .slice ma ml mc], .int .i64 a, .int .i64 b] w (Yes w) := by
  have HW : Hid (∀ V, Below w.heap.size w V → Calls Tryd.prog 7 #[] V fun e w' => e = .returned (.bool true) ∧ Below V.heap.size V w') := fun V hV => wakes_any V (hG.below hV hG.big)
  have HN : Hid (∀ V, Below w.heap.size w V → Calls Tryd.prog 9 #[.slice ao n cap, .agg #[.int .i64 (t.u 0), .int .i64 (t.u 1), .int .i64 (t.u 2), .int .i64 (t.u 3), .int .i64 (t.l 0), .int .i64 (t.l 1), .int .i64 (t.l 2), .int .i64 (t.l 3), .int .i64 (t.b 0), .int .i64 (t.b 1), .int .i64 (t.b 2), .int .i64 (t.b 3), .int .i64 t.d], .agg #[.slice ra rl rc, .slice ma ml mc]] V fun e w' => e = .returned (.tuple #[.pointer none, .int .i64 E]) ∧ Below V.heap.size V w') := h
  have HB0 : Hid (Bx w ((w.alloc (.cells t.cells 25)).alloc (.cells #[.slice ra rl rc, .slice ma ml mc] 28)) t ra ma rl rc ml mc) := by
    obtain ⟨-, a2, hb, -, -⟩ := two_new w t.cells #[.slice ra rl rc, .slice ma ml mc] 25 28 (Below.refl _ _)
    exact ⟨(Tb.tabAt_new w t 25).below (B := (w.alloc (.cells t.cells 25)).heap.size) ((Below.refl _ _).alloc (Nat.le_refl _) _) (by simp), a2, hb⟩
  obtain ⟨ha0, ha1⟩ := ha
  obtain ⟨hb0, hb1⟩ := hb
  have hn' : ¬ (16384 : Int) < (n : Int) := by omega
  have ha0' : ¬ a < 0 := by omega
  have hb0' : ¬ b < 0 := by omega
  have ha1' : ¬ (2000 : Int) < a := by omega
  have hb1' : ¬ (2000 : Int) < b := by omega
  clear hG h ha0 ha1 hb0 hb1 hn
  unfold Tab.val
  go_enter Tryd.func4, Tryd.ntmps4
  go_wp2_with (first
    | (go_at_call 9; refine Calls.mono (HN.out _ HB0.out.b) ?_; rintro e w1 ⟨rfl, hb⟩; have HB1 : Hid (Bx w w1 t ra ma rl rc ml mc) := HB0.out.up hb; clear hb HB0; have k2 := HB1.out.p; have qu0 := k2.cu 0 (by decide); have qu1 := k2.cu 1 (by decide); have qu2 := k2.cu 2 (by decide); have qu3 := k2.cu 3 (by decide); have ql0 := k2.cl 0 (by decide); have ql1 := k2.cl 1 (by decide); have ql2 := k2.cl 2 (by decide); have ql3 := k2.cl 3 (by decide); have qb0 := k2.cb 0 (by decide); have qb1 := k2.cb 1 (by decide); have qb2 := k2.cb 2 (by decide); have qb3 := k2.cb 3 (by decide); have qd := k2.cd; have qz := k2.lt; clear k2; have s0 := HB1.out.s.c 0 _ rfl; have s1 := HB1.out.s.c 1 _ rfl; have sl := HB1.out.s.lt)
    | (go_at_call 9; refine Calls.mono (HN.out _ HB1.out.b) ?_; rintro e w2 ⟨rfl, hb⟩; have HB2 : Hid (Below w.heap.size w w2) := HB1.out.b.trans (hb.mono HB1.out.b.size); clear hb HB1 s0 s1 sl qu0 qu1 qu2 qu3 ql0 ql1 ql2 ql3 qb0 qb1 qb2 qb3 qd qz)
    | (go_at_call 7; refine Calls.mono (HW.out _ HB2.out) ?_; rintro e w4 ⟨rfl, hb⟩; have HC4 : Hid (Below w.heap.size w w4) := HB2.out.trans (hb.mono HB2.out.size); clear hb))
  go_ret
  exact ⟨rfl, HC4.out⟩
set_option maxHeartbeats 8000000 in
theorem parts_ok (ao ra ma : Option Addr) (n cap rc mc : Nat) (v : Nat → Int) (t : Tab) (rs ms : List Int) (na nb : Nat) (w : World) (hx : Ws w ao n v) (hc : n ≤ cap) (hG : Bnds w) (hn : (n : Int) ≤ 16384) (ha : na ≤ 2000) (hb : nb ≤ 2000) (h : deE t v n = 0) (hr : NL w ra rs) (hm : NL w ma ms) (h32 : rs.length ≤ 32) (h256 : ms.length ≤ 256) (hri : ∀ x ∈ rs, I64 x) (hmi : ∀ x ∈ ms, I64 x) :
    Calls Tryd.prog 4 #[.slice ao n cap, t.val, .agg #[.slice ra rs.length rc, .slice ma ms.length mc], .int .i64 (na : Int), .int .i64 (nb : Int)] w (Yes w) := by
  have HW : Hid (∀ V, Below w.heap.size w V → Calls Tryd.prog 7 #[] V fun e w' => e = .returned (.bool true) ∧ Below V.heap.size V w') := fun V hV => wakes_any V (hG.below hV hG.big)
  obtain ⟨ls, hls⟩ : ∃ ls, deL t v (n / ofs t 4) = ls := ⟨_, rfl⟩
  have hll : ls.length = n / ofs t 4 := by rw [← hls]; exact deL_len _ _ _
  have hBo : Bo t ls := by rw [← hls]; exact bo_dec h
  have hS0 : (newM rs ms).Ok 0 := newM_ok hri hmi
  have HN : Hid (∀ V, Below w.heap.size w V → Calls Tryd.prog 9 #[.slice ao n cap, .agg #[.int .i64 (t.u 0), .int .i64 (t.u 1), .int .i64 (t.u 2), .int .i64 (t.u 3), .int .i64 (t.l 0), .int .i64 (t.l 1), .int .i64 (t.l 2), .int .i64 (t.l 3), .int .i64 (t.b 0), .int .i64 (t.b 1), .int .i64 (t.b 2), .int .i64 (t.b 3), .int .i64 t.d], .agg #[.slice ra rs.length rc, .slice ma ms.length mc]] V fun e w' => ∃ q r c, e = .returned (.tuple #[ptr q, .int .i64 0]) ∧ Mch w' t ls (newH q r c) (newM rs ms) ∧ Below V.heap.size V w' ∧ V.heap.size ≤ q ∧ (∀ V', Fr (fun k => k < V.heap.size ∨ k = q) w' V' → BsAt V' r ls)) := fun V hV => new_far ao ra ma n cap rc mc v t rs ms V (hx.below hV) hc (hG.below hV hG.big) (by omega) h (hr.up hV) (hm.up hV) h32 h256 ls hls hll
  have HB0 : Hid (Bx w ((w.alloc (.cells t.cells 25)).alloc (.cells #[.slice ra rs.length rc, .slice ma ms.length mc] 28)) t ra ma rs.length rc ms.length mc) := by
    obtain ⟨-, a2, hb, -, -⟩ := two_new w t.cells #[.slice ra rs.length rc, .slice ma ms.length mc] 25 28 (Below.refl _ _)
    exact ⟨(Tb.tabAt_new w t 25).below (B := (w.alloc (.cells t.cells 25)).heap.size) ((Below.refl _ _).alloc (Nat.le_refl _) _) (by simp), a2, hb⟩
  have o1 := run_ok hBo na hS0
  have HRa : Hid (∀ V H q, H.mb = q → Mch V t ls H (newM rs ms) → Calls Tryd.prog 10 #[ptr q, .int .i64 (na : Int)] V (RunOut V t ls H (runM t ls na (newM rs ms)))) := fun V H q hq hM => by subst hq; exact run_any na 0 hM hS0 hBo (by omega) (by show 0 + na ≤ _; omega) (by omega)
  have HRb : Hid (∀ V H q, H.mb = q → Mch V t ls H (runM t ls na (newM rs ms)) → Calls Tryd.prog 10 #[ptr q, .int .i64 (nb : Int)] V (RunOut V t ls H (runM t ls (na + nb) (newM rs ms)))) := fun V H q hq hM => by
    subst hq
    rw [run_add]
    have z : (newM rs ms).s = 0 := rfl
    exact run_any nb _ hM o1.1 hBo (by omega) (by have := o1.2; omega) (by omega)
  have HRab : Hid (∀ V H q, H.mb = q → Mch V t ls H (newM rs ms) → Calls Tryd.prog 10 #[ptr q, .int .i64 ((na : Int) + (nb : Int))] V (RunOut V t ls H (runM t ls (na + nb) (newM rs ms)))) := fun V H q hq hM => by
    subst hq
    have := run_any (na + nb) 0 hM hS0 hBo (by omega) (by show 0 + (na + nb) ≤ _; omega) (by omega)
    rw [Int.natCast_add] at this
    exact this
  have o2 := run_ok hBo (na + nb) hS0
  obtain ⟨pre, hpre⟩ : ∃ l, (runM t ls (na + nb) (newM rs ms)).p = (runM t ls na (newM rs ms)).p ++ l := by rw [run_add]; exact run_p t ls nb _
  have HRz : Hid ((runM t ls (na + nb) (newM rs ms)).e ≠ 100 → ∀ V H q, H.mb = q → Mch V t ls H (runM t ls (na + nb) (newM rs ms)) → Calls Tryd.prog 10 #[ptr q, .int .i64 (nb : Int)] V (RunOut V t ls H (runM t ls (na + nb) (newM rs ms)))) := fun he V H q hq hM => by
    subst hq
    have z : (newM rs ms).s = 0 := rfl
    have := run_any nb _ hM o2.1 hBo (by omega) (by have := o2.2; omega) (by omega)
    rw [run_over t ls he] at this
    exact this
  have l1 : (runM t ls na (newM rs ms)).p.length ≤ 100000000 := by have := o1.1.p; omega
  have HO2 : Hid ((runM t ls (na + nb) (newM rs ms)).Ok (0 + 512 * (na + nb))) := o2.1
  have hLz : 0 + 512 * (na + nb) ≤ 1000000000 := by omega
  have l2 : (runM t ls (na + nb) (newM rs ms)).p.length ≤ 100000000 := by have := o2.1.p; omega
  have hle : (runM t ls na (newM rs ms)).p.length ≤ (runM t ls (na + nb) (newM rs ms)).p.length := by rw [hpre, List.length_append]; omega
  have HPre : Hid ((runM t ls (na + nb) (newM rs ms)).p = (runM t ls na (newM rs ms)).p ++ pre) := hpre
  have HE : Hid ((runM t ls (na + nb) (newM rs ms)).s ≤ 10000000) := by have := o2.2; have z : (newM rs ms).s = 0 := rfl; show _ ≤ _; omega
  clear o1 o2 hpre hx hG h hr hm hri hmi hll hls hBo hS0 h32 h256
  generalize runM t ls na (newM rs ms) = S1 at *
  generalize runM t ls (na + nb) (newM rs ms) = S2 at *
  have hn' : ¬ (16384 : Int) < (n : Int) := by omega
  have ha0' : ¬ (na : Int) < 0 := by omega
  have hb0' : ¬ (nb : Int) < 0 := by omega
  have ha1' : ¬ (2000 : Int) < (na : Int) := by omega
  have hb1' : ¬ (2000 : Int) < (nb : Int) := by omega
  have hab : IntKind.i64.wrap ((na : Int) + (nb : Int)) = (na : Int) + (nb : Int) := by rw [IntKind.wrap_i64]; omega
  clear hc hn ha hb
  unfold Tab.val
  go_enter Tryd.func4, Tryd.ntmps4
  go_upto_region 12 with (first
    | (go_at_call 9; refine Calls.mono (HN.out _ HB0.out.b) ?_; rintro e w1 ⟨q1, r1, c1, rfl, m1, u1, z1, f1⟩; have HB1 : Hid (Bx w w1 t ra ma rs.length rc ms.length mc) := HB0.out.up u1; have HM1 : Hid (Mch w1 t ls (newH q1 r1 c1) (newM rs ms) ∧ Below w.heap.size w w1 ∧ w.heap.size ≤ q1 ∧ (∀ V, Fr (fun k => k < w.heap.size ∨ k = q1) w1 V → BsAt V r1 ls)) := ⟨m1, HB1.out.b, Nat.le_trans HB0.out.b.size z1, fun V hV => f1 V (hV.mono fun k _ e => e.imp (fun e => Nat.lt_of_lt_of_le e HB0.out.b.size) id)⟩; clear m1 u1 z1 f1 HB0; have k2 := HB1.out.p; have qu0 := k2.cu 0 (by decide); have qu1 := k2.cu 1 (by decide); have qu2 := k2.cu 2 (by decide); have qu3 := k2.cu 3 (by decide); have ql0 := k2.cl 0 (by decide); have ql1 := k2.cl 1 (by decide); have ql2 := k2.cl 2 (by decide); have ql3 := k2.cl 3 (by decide); have qb0 := k2.cb 0 (by decide); have qb1 := k2.cb 1 (by decide); have qb2 := k2.cb 2 (by decide); have qb3 := k2.cb 3 (by decide); have qd := k2.cd; have qz := k2.lt; clear k2; have s0 := HB1.out.s.c 0 _ rfl; have s1 := HB1.out.s.c 1 _ rfl; have sl := HB1.out.s.lt)
    | (go_at_call 9; refine Calls.mono (HN.out _ HB1.out.b) ?_; rintro e w2 ⟨q2, r2, c2, rfl, m2, u2, z2, f2⟩; have HM2 : Hid (M2 w w2 t ls (newH q1 r1 c1) (newH q2 r2 c2) (newM rs ms) (newM rs ms)) := m2_new HM1.out.1 HM1.out.2.1 HM1.out.2.2.1 HM1.out.2.2.2 (Below.refl _ _) m2 u2 z2 f2; clear m2 u2 z2 f2 HM1 HB1 s0 s1 sl HN qu0 qu1 qu2 qu3 ql0 ql1 ql2 ql3 qb0 qb1 qb2 qb3 qd qz)
    | (go_at_call 10; refine Calls.mono (HRa.out w2 (newH q1 r1 c1) q1 rfl HM2.out.m1) ?_; rintro e w3 ⟨po1, pc1, mo1, mc1, rfl, k1, k2, H1, k3, k4, k5, k6⟩; have HM3 : Hid (Pr1 w (w3.alloc (.cells #[.int .i64 S1.e, .int .i64 (vI S1), .slice po1 S1.p.length pc1, .slice mo1 (memL S1).length mc1, .int .i64 (S1.s : Int)] 42)) t ls H1 (newH q2 r2 c2) S1 (newM rs ms) q1 q2 w2.heap.size w3.heap.size (.slice po1 S1.p.length pc1) #[.int .i64 S1.e, .int .i64 (vI S1), .slice po1 S1.p.length pc1, .slice mo1 (memL S1).length mc1, .int .i64 (S1.s : Int)]) := pr1_make #[.int .i64 S1.e, .int .i64 (vI S1), .slice po1 S1.p.length pc1, .slice mo1 (memL S1).length mc1, .int .i64 (S1.s : Int)] HM2.out rfl rfl k1 k3 k4 k5; clear k1 k2 k3 k4 k5 k6 HRa HM2)
    | (go_at_call 10; refine Calls.mono (HRb.out _ _ _ HM3.out.e1 HM3.out.m.m1) ?_; rintro e w4 ⟨po2, pc2, mo2, mc2, rfl, k1, k2, H1b, k3, k4, k5, k6⟩; have HM4 : Hid (Pr2 w (w4.alloc (.cells #[.int .i64 S2.e, .int .i64 (vI S2), .slice po2 S2.p.length pc2, .slice mo2 (memL S2).length mc2, .int .i64 (S2.s : Int)] 42)) t ls H1b (newH q2 r2 c2) S1 S2 (newM rs ms) q1 q2 w2.heap.size w3.heap.size w4.heap.size (.slice po1 S1.p.length pc1) (.slice po2 S2.p.length pc2) (.slice mo2 (memL S2).length mc2) #[.int .i64 S1.e, .int .i64 (vI S1), .slice po1 S1.p.length pc1, .slice mo1 (memL S1).length mc1, .int .i64 (S1.s : Int)] #[.int .i64 S2.e, .int .i64 (vI S2), .slice po2 S2.p.length pc2, .slice mo2 (memL S2).length mc2, .int .i64 (S2.s : Int)]) := pr2_make #[.int .i64 S2.e, .int .i64 (vI S2), .slice po2 S2.p.length pc2, .slice mo2 (memL S2).length mc2, .int .i64 (S2.s : Int)] HM3.out k1 k2 k3 k4; clear k1 k2 k3 k4 k5 k6 HRb HM3)
    | (go_at_call 10; refine Calls.mono (HRab.out _ _ _ HM4.out.e2 HM4.out.m.m2) ?_; rintro e w5 ⟨po3, pc3, mo3, mc3, rfl, k1, k2, H2b, k3, k4, k5, k6⟩; have HM5 : Hid (Pq w (w5.alloc (.cells #[.int .i64 S2.e, .int .i64 (vI S2), .slice po3 S2.p.length pc3, .slice mo3 (memL S2).length mc3, .int .i64 (S2.s : Int)] 42)) t ls H1b H2b S1 S2 q1 q2 w3.heap.size w4.heap.size w5.heap.size po1 mo1 po2 mo2 po3 mo3 pc1 mc1 pc2 mc2 pc3 mc3) := pq_make HM4.out k1 k2 k3 k4 k5 k6; clear k1 k2 k3 k4 k5 k6 HRab HM4))
  generalize w5.alloc (.cells #[.int .i64 S2.e, .int .i64 (vI S2), .slice po3 S2.p.length pc3, .slice mo3 (memL S2).length mc3, .int .i64 (S2.s : Int)] 42) = X at *
  generalize w5.heap.size = b3 at *
  generalize w4.heap.size = b2 at *
  generalize w3.heap.size = b1 at *
  have HNum : Hid (∀ V, Pq w V t ls H1b H2b S1 S2 q1 q2 b1 b2 b3 po1 mo1 po2 mo2 po3 mo3 pc1 mc1 pc2 mc2 pc3 mc3 → Calls Tryd.prog 19 #[.slice po1 S1.p.length pc1, .slice po2 S1.p.length pc2] V fun e w' => e = .returned (.bool true) ∧ Below V.heap.size V w') := fun V hV => nums_same po1 po2 pc1 pc2 S1.p V hV.n1 (nl_pre (by rw [← HPre.out]; exact hV.n2)) (by omega)
  have hle' : ¬ (S2.p.length : Int) < (S1.p.length : Int) := by omega
  refine wp_region_held_drew (S := fun W' => Pq w W' t ls H1b H2b S1 S2 q1 q2 b1 b2 b3 po1 mo1 po2 mo2 po3 mo3 pc1 mc1 pc2 mc2 pc3 mc3) (by kernel_rfl) (HM5.out.next (drew_up X)) (fun hHeld => ?_)
  refine wpAnyH_take (i := 0) (v := .pointer (some ⟨b1, 2, none⟩)) rfl (by kernel_rfl) (by kernel_rfl) (by kernel_rfl) (fun _ _ _ h => h) (Or.inl ⟨by rfl, fun w' hSw => by (go_simp)⟩) hHeld ?_
  simp only [Act.put, List.setIfInBounds_toArray, List.set_cons_zero, List.set_cons_succ, List.getElem_cons_zero, List.getElem_toArray]
  refine wpAnyH_take (i := 1) (v := .slice po1 S1.p.length pc1) rfl (by kernel_rfl) (by kernel_rfl) (by kernel_rfl) (fun _ _ _ h => h) (Or.inl ⟨by rfl, fun w' hSw => by (have z := hSw.a1.c 2 _ rfl; have zl := hSw.a1.lt; go_simp)⟩) hHeld ?_
  simp only [Act.put, List.setIfInBounds_toArray, List.set_cons_zero, List.set_cons_succ, List.getElem_cons_zero, List.getElem_cons_succ, List.getElem_toArray]
  refine wpAnyH_take (i := 2) (v := .int .i64 (S1.p.length : Int)) rfl (by kernel_rfl) (by kernel_rfl) (by kernel_rfl) (fun _ _ _ h => h) (Or.inl ⟨by rfl, fun w' hSw => by (go_simp)⟩) hHeld ?_
  simp only [Act.put, List.setIfInBounds_toArray, List.set_cons_zero, List.set_cons_succ, List.getElem_cons_zero, List.getElem_cons_succ, List.getElem_toArray]
  refine wpAnyH_take (i := 3) (v := .pointer (some ⟨b2, 2, none⟩)) rfl (by kernel_rfl) (by kernel_rfl) (by kernel_rfl) (fun _ _ _ h => h) (Or.inl ⟨by rfl, fun w' hSw => by (go_simp)⟩) hHeld ?_
  simp only [Act.put, List.setIfInBounds_toArray, List.set_cons_zero, List.set_cons_succ, List.getElem_cons_zero, List.getElem_cons_succ, List.getElem_toArray]
  refine wpAnyH_take (i := 4) (v := .slice po2 S2.p.length pc2) rfl (by kernel_rfl) (by kernel_rfl) (by kernel_rfl) (fun _ _ _ h => h) (Or.inl ⟨by rfl, fun w' hSw => by (have z := hSw.a2.c 2 _ rfl; have zl := hSw.a2.lt; go_simp)⟩) hHeld ?_
  simp only [Act.put, List.setIfInBounds_toArray, List.set_cons_zero, List.set_cons_succ, List.getElem_cons_zero, List.getElem_cons_succ, List.getElem_toArray]
  refine wpAnyH_take (i := 5) (v := .int .i64 (S2.p.length : Int)) rfl (by kernel_rfl) (by kernel_rfl) (by kernel_rfl) (fun _ _ _ h => h) (Or.inl ⟨by rfl, fun w' hSw => by (go_simp)⟩) hHeld ?_
  simp only [Act.put, List.setIfInBounds_toArray, List.set_cons_zero, List.set_cons_succ, List.getElem_cons_zero, List.getElem_cons_succ, List.getElem_toArray]
  refine wpAnyH_take (i := 6) (v := .bool false) rfl (by kernel_rfl) (by kernel_rfl) (by kernel_rfl) (fun _ _ _ h => h) (Or.inl ⟨by rfl, fun w' hSw => by (go_simp)⟩) hHeld ?_
  simp only [Act.put, List.setIfInBounds_toArray, List.set_cons_zero, List.set_cons_succ, List.getElem_cons_zero, List.getElem_cons_succ, List.getElem_toArray]
  refine wpAnyH_take (i := 7) (v := .bool false) rfl (by kernel_rfl) (by kernel_rfl) (by kernel_rfl) (fun _ _ _ h => h) (Or.inl ⟨by rfl, fun w' hSw => by (go_simp)⟩) hHeld ?_
  simp only [Act.put, List.setIfInBounds_toArray, List.set_cons_zero, List.set_cons_succ, List.getElem_cons_zero, List.getElem_cons_succ, List.getElem_toArray]
  refine wpAnyH_take (i := 8) (v := .pointer (some ⟨b1, 2, none⟩)) rfl (by kernel_rfl) (by kernel_rfl) (by kernel_rfl) (fun _ _ _ h => h) (Or.inl ⟨by rfl, fun w' hSw => by (go_simp)⟩) hHeld ?_
  simp only [Act.put, List.setIfInBounds_toArray, List.set_cons_zero, List.set_cons_succ, List.getElem_cons_zero, List.getElem_cons_succ, List.getElem_toArray]
  refine wpAnyH_take (i := 9) (v := .slice po1 S1.p.length pc1) rfl (by kernel_rfl) (by kernel_rfl) (by kernel_rfl) (fun _ _ _ h => h) (Or.inl ⟨by rfl, fun w' hSw => by (have z := hSw.a1.c 2 _ rfl; have zl := hSw.a1.lt; go_simp)⟩) hHeld ?_
  simp only [Act.put, List.setIfInBounds_toArray, List.set_cons_zero, List.set_cons_succ, List.getElem_cons_zero, List.getElem_cons_succ, List.getElem_toArray]
  refine wpAnyH_take (i := 10) (v := .pointer (some ⟨b2, 2, none⟩)) rfl (by kernel_rfl) (by kernel_rfl) (by kernel_rfl) (fun _ _ _ h => h) (Or.inl ⟨by rfl, fun w' hSw => by (go_simp)⟩) hHeld ?_
  simp only [Act.put, List.setIfInBounds_toArray, List.set_cons_zero, List.set_cons_succ, List.getElem_cons_zero, List.getElem_cons_succ, List.getElem_toArray]
  refine wpAnyH_take (i := 11) (v := .slice po2 S2.p.length pc2) rfl (by kernel_rfl) (by kernel_rfl) (by kernel_rfl) (fun _ _ _ h => h) (Or.inl ⟨by rfl, fun w' hSw => by (have z := hSw.a2.c 2 _ rfl; have zl := hSw.a2.lt; go_simp)⟩) hHeld ?_
  simp only [Act.put, List.setIfInBounds_toArray, List.set_cons_zero, List.set_cons_succ, List.getElem_cons_zero, List.getElem_cons_succ, List.getElem_toArray]
  refine wpAnyH_take (i := 12) (v := .pointer (some ⟨b1, 2, none⟩)) rfl (by kernel_rfl) (by kernel_rfl) (by kernel_rfl) (fun _ _ _ h => h) (Or.inl ⟨by rfl, fun w' hSw => by (go_simp)⟩) hHeld ?_
  simp only [Act.put, List.setIfInBounds_toArray, List.set_cons_zero, List.set_cons_succ, List.getElem_cons_zero, List.getElem_cons_succ, List.getElem_toArray]
  refine wpAnyH_take (i := 13) (v := .slice po1 S1.p.length pc1) rfl (by kernel_rfl) (by kernel_rfl) (by kernel_rfl) (fun _ _ _ h => h) (Or.inl ⟨by rfl, fun w' hSw => by (have z := hSw.a1.c 2 _ rfl; have zl := hSw.a1.lt; go_simp)⟩) hHeld ?_
  simp only [Act.put, List.setIfInBounds_toArray, List.set_cons_zero, List.set_cons_succ, List.getElem_cons_zero, List.getElem_cons_succ, List.getElem_toArray]
  refine wpAnyH_take (i := 14) (v := .int .i64 (S1.p.length : Int)) rfl (by kernel_rfl) (by kernel_rfl) (by kernel_rfl) (fun _ _ _ h => h) (Or.inl ⟨by rfl, fun w' hSw => by (go_simp)⟩) hHeld ?_
  simp only [Act.put, List.setIfInBounds_toArray, List.set_cons_zero, List.set_cons_succ, List.getElem_cons_zero, List.getElem_cons_succ, List.getElem_toArray]
  refine wpAnyH_take (i := 15) (v := .slice po2 S1.p.length pc2) rfl (by kernel_rfl) (by kernel_rfl) (by kernel_rfl) (fun _ _ _ h => h) (Or.inl ⟨by rfl, fun w' hSw => by (go_simp; intro hh; exact absurd hh (by have := hSw.c2; omega))⟩) hHeld ?_
  simp only [Act.put, List.setIfInBounds_toArray, List.set_cons_zero, List.set_cons_succ, List.getElem_cons_zero, List.getElem_cons_succ, List.getElem_toArray]
  refine wpAnyH_ready (rs := [16]) (by kernel_rfl) (by simp) ?_
  refine AllReadyH.cons rfl (fun K hK => ?_) AllReadyH.nil
  go_simp
  refine Calls.mono (HNum.out _ hHeld) ?_
  rintro e w6 ⟨rfl, hb⟩
  have HM6 : Hid (Pq w w6 t ls H1b H2b S1 S2 q1 q2 b1 b2 b3 po1 mo1 po2 mo2 po3 mo3 pc1 mc1 pc2 mc2 pc3 mc3) := hHeld.next hb; clear hb HM5
  refine hK.out _ _ HM6.out (fun hHeld => ?_)
  clear hK K
  refine wpAnyH_take (i := 17) (v := .bool false) rfl (by kernel_rfl) (by kernel_rfl) (by kernel_rfl) (fun _ _ _ h => h) (Or.inl ⟨by rfl, fun w' hSw => by (go_simp)⟩) hHeld ?_
  simp only [Act.put, List.setIfInBounds_toArray, List.set_cons_zero, List.set_cons_succ, List.getElem_cons_zero, List.getElem_cons_succ, List.getElem_toArray]
  refine wpAnyH_take (i := 18) (v := .bool false) rfl (by kernel_rfl) (by kernel_rfl) (by kernel_rfl) (fun _ _ _ h => h) (Or.inl ⟨by rfl, fun w' hSw => by (go_simp)⟩) hHeld ?_
  simp only [Act.put, List.setIfInBounds_toArray, List.set_cons_zero, List.set_cons_succ, List.getElem_cons_zero, List.getElem_cons_succ, List.getElem_toArray]
  refine wpAnyH_done (by kernel_rfl) ?_ _
  clear hHeld
  go_upto_region 14 with fail
  have hle2 : S2.p.length ≤ 1000000000000 := by omega
  have HMl : Hid ((memL S2).length ≤ 1000000000000) := by
    show _ ≤ _
    unfold memL
    split
    · rw [mL_len]; decide
    · exact Nat.zero_le _
  have HSame : Hid (∀ V, Pq w V t ls H1b H2b S1 S2 q1 q2 b1 b2 b3 po1 mo1 po2 mo2 po3 mo3 pc1 mc1 pc2 mc2 pc3 mc3 → Calls Tryd.prog 11 #[.agg #[.int .i64 S2.e, .int .i64 (vI S2), .slice po2 S2.p.length pc2, .slice mo2 (memL S2).length mc2, .int .i64 (S2.s : Int)], .agg #[.int .i64 S2.e, .int .i64 (vI S2), .slice po3 S2.p.length pc3, .slice mo3 (memL S2).length mc3, .int .i64 (S2.s : Int)]] V fun e w' => e = .returned (.bool true) ∧ Below V.heap.size V w') := fun V hV => out_same _ _ _ po2 po3 mo2 mo3 pc2 mc2 pc3 mc3 S2.p (memL S2) V hV.n2 (nl_row hV.n3 rfl) hV.k2 (nl_row hV.k3 rfl) hle2 HMl.out
  have HSt1 : Hid (∀ V, Pq w V t ls H1b H2b S1 S2 q1 q2 b1 b2 b3 po1 mo1 po2 mo2 po3 mo3 pc1 mc1 pc2 mc2 pc3 mc3 → Calls Tryd.prog 13 #[ptr q1] V (StOut V S2)) := fun V hV => by
    have := state_any hV.m.m1
    rw [hV.e1] at this
    exact this
  have HSt2 : Hid (∀ V, Pq w V t ls H1b H2b S1 S2 q1 q2 b1 b2 b3 po1 mo1 po2 mo2 po3 mo3 pc1 mc1 pc2 mc2 pc3 mc3 → Calls Tryd.prog 13 #[ptr q2] V (StOut V S2)) := fun V hV => by
    have := state_any hV.m.m2
    rw [hV.e2] at this
    exact this
  have HFl1 : Hid (∀ V, Pq w V t ls H1b H2b S1 S2 q1 q2 b1 b2 b3 po1 mo1 po2 mo2 po3 mo3 pc1 mc1 pc2 mc2 pc3 mc3 → Calls Tryd.prog 17 #[ptr q1] V (FlOut V S2)) := fun V hV => by
    have := flying_any hV.m.m1 HO2.out hLz
    rw [hV.e1] at this
    exact this
  have HFl2 : Hid (∀ V, Pq w V t ls H1b H2b S1 S2 q1 q2 b1 b2 b3 po1 mo1 po2 mo2 po3 mo3 pc1 mc1 pc2 mc2 pc3 mc3 → Calls Tryd.prog 17 #[ptr q2] V (FlOut V S2)) := fun V hV => by
    have := flying_any hV.m.m2 HO2.out hLz
    rw [hV.e2] at this
    exact this
  clear HNum HPre
  refine wp_region_held_drew (S := fun W' => At W' b2 #[.int .i64 S2.e, .int .i64 (vI S2), .slice po2 S2.p.length pc2, .slice mo2 (memL S2).length mc2, .int .i64 (S2.s : Int)] ∧ At W' b3 #[.int .i64 S2.e, .int .i64 (vI S2), .slice po3 S2.p.length pc3, .slice mo3 (memL S2).length mc3, .int .i64 (S2.s : Int)]) (by kernel_rfl) ⟨(HM6.out.next (drew_up w6)).a2, (HM6.out.next (drew_up w6)).a3⟩ (fun hHeld => ?_)
  have HM7 : Hid (Pq w w6.drew t ls H1b H2b S1 S2 q1 q2 b1 b2 b3 po1 mo1 po2 mo2 po3 mo3 pc1 mc1 pc2 mc2 pc3 mc3) := HM6.out.next (drew_up w6)
  clear HM6
  refine wpAnyH_take (i := 0) (v := .agg #[.int .i64 S2.e, .int .i64 (vI S2), .slice po2 S2.p.length pc2, .slice mo2 (memL S2).length mc2, .int .i64 (S2.s : Int)]) rfl (by kernel_rfl) (by kernel_rfl) (by kernel_rfl) (fun _ _ _ h => h) (Or.inl ⟨by rfl, fun w' hSw => by (have z0 := hSw.1.c 0 _ rfl; have z1 := hSw.1.c 1 _ rfl; have z2 := hSw.1.c 2 _ rfl; have z3 := hSw.1.c 3 _ rfl; have z4 := hSw.1.c 4 _ rfl; have zl := hSw.1.lt; have zf := hSw.1.f; go_simp)⟩) hHeld ?_
  simp only [Act.put, List.setIfInBounds_toArray, List.set_cons_zero, List.set_cons_succ, List.getElem_cons_zero, List.getElem_toArray]
  refine wpAnyH_take (i := 1) (v := .agg #[.int .i64 S2.e, .int .i64 (vI S2), .slice po3 S2.p.length pc3, .slice mo3 (memL S2).length mc3, .int .i64 (S2.s : Int)]) rfl (by kernel_rfl) (by kernel_rfl) (by kernel_rfl) (fun _ _ _ h => h) (Or.inl ⟨by rfl, fun w' hSw => by (have z0 := hSw.2.c 0 _ rfl; have z1 := hSw.2.c 1 _ rfl; have z2 := hSw.2.c 2 _ rfl; have z3 := hSw.2.c 3 _ rfl; have z4 := hSw.2.c 4 _ rfl; have zl := hSw.2.lt; have zf := hSw.2.f; go_simp)⟩) hHeld ?_
  simp only [Act.put, List.setIfInBounds_toArray, List.set_cons_zero, List.set_cons_succ, List.getElem_cons_zero, List.getElem_cons_succ, List.getElem_toArray]
  refine wpAnyH_ready (rs := [2]) (by kernel_rfl) (by simp) ?_
  refine AllReadyH.cons rfl (fun K hK => ?_) AllReadyH.nil
  go_simp
  refine Calls.mono (HSame.out _ HM7.out) ?_
  rintro e w7 ⟨rfl, hb⟩
  have HM8 : Hid (Pq w w7 t ls H1b H2b S1 S2 q1 q2 b1 b2 b3 po1 mo1 po2 mo2 po3 mo3 pc1 mc1 pc2 mc2 pc3 mc3) := HM7.out.next hb; clear hb HM7
  refine hK.out _ _ ⟨HM8.out.a2, HM8.out.a3⟩ (fun hHeld => ?_)
  clear hK K
  refine wpAnyH_take (i := 3) (v := .bool true) rfl (by kernel_rfl) (by kernel_rfl) (by kernel_rfl) (fun _ _ _ h => h) (Or.inl ⟨by rfl, fun w' hSw => by (go_simp)⟩) hHeld ?_
  simp only [Act.put, List.setIfInBounds_toArray, List.set_cons_zero, List.set_cons_succ, List.getElem_cons_zero, List.getElem_cons_succ, List.getElem_toArray]
  refine wpAnyH_take (i := 4) (v := ptr q1) rfl (by kernel_rfl) (by kernel_rfl) (by kernel_rfl) (fun _ _ _ h => h) (Or.inl ⟨by rfl, fun w' hSw => by (go_simp)⟩) hHeld ?_
  simp only [Act.put, List.setIfInBounds_toArray, List.set_cons_zero, List.set_cons_succ, List.getElem_cons_zero, List.getElem_cons_succ, List.getElem_toArray]
  refine wpAnyH_take (i := 6) (v := ptr q2) rfl (by kernel_rfl) (by kernel_rfl) (by kernel_rfl) (fun _ _ _ h => h) (Or.inl ⟨by rfl, fun w' hSw => by (go_simp)⟩) hHeld ?_
  simp only [Act.put, List.setIfInBounds_toArray, List.set_cons_zero, List.set_cons_succ, List.getElem_cons_zero, List.getElem_cons_succ, List.getElem_toArray]
  refine wpAnyH_ready (rs := [5]) (by kernel_rfl) (by simp) ?_
  refine AllReadyH.cons rfl (fun K hK => ?_) AllReadyH.nil
  go_simp
  refine Calls.mono (HSt1.out _ HM8.out) ?_
  rintro e w8 ⟨vr1, vm1, rfl, k1, k2, hb⟩
  obtain ⟨ro1, rc1, rfl⟩ := row_slice k1; obtain ⟨uo1, uc1, rfl⟩ := row_slice k2; have HM9 : Hid (Pq w w8 t ls H1b H2b S1 S2 q1 q2 b1 b2 b3 po1 mo1 po2 mo2 po3 mo3 pc1 mc1 pc2 mc2 pc3 mc3) := HM8.out.next hb; have HK1 : Hid (NL w8 ro1 (rL S2) ∧ NL w8 uo1 (mL S2)) := ⟨nl_row k1 (rL_len S2).symm, nl_row k2 (mL_len S2).symm⟩; clear hb HM8 k1 k2
  refine hK.out _ _ ⟨HM9.out.a2, HM9.out.a3⟩ (fun hHeld => ?_)
  clear hK K
  refine wpAnyH_ready (rs := [7]) (by kernel_rfl) (by simp) ?_
  refine AllReadyH.cons rfl (fun K hK => ?_) AllReadyH.nil
  go_simp
  refine Calls.mono (HSt2.out _ HM9.out) ?_
  rintro e w9 ⟨vr2, vm2, rfl, k1, k2, hb⟩
  obtain ⟨ro2, rc2, rfl⟩ := row_slice k1; obtain ⟨uo2, uc2, rfl⟩ := row_slice k2; have HM10 : Hid (Pq w w9 t ls H1b H2b S1 S2 q1 q2 b1 b2 b3 po1 mo1 po2 mo2 po3 mo3 pc1 mc1 pc2 mc2 pc3 mc3) := HM9.out.next hb; have HK2 : Hid ((NL w9 ro1 (rL S2) ∧ NL w9 uo1 (mL S2)) ∧ NL w9 ro2 (rL S2) ∧ NL w9 uo2 (mL S2)) := ⟨⟨HK1.out.1.up hb, HK1.out.2.up hb⟩, nl_row k1 (rL_len S2).symm, nl_row k2 (mL_len S2).symm⟩; clear hb HM9 HK1 k1 k2; have HSts : Hid (Calls Tryd.prog 14 #[.agg #[.slice ro1 32 rc1, .slice uo1 256 uc1], .agg #[.slice ro2 32 rc2, .slice uo2 256 uc2]] w9 fun e w' => e = .returned (.bool true) ∧ Below w9.heap.size w9 w') := (by have := states_same ro1 ro2 uo1 uo2 rc1 uc1 rc2 uc2 (rL S2) (mL S2) w9 HK2.out.1.1 HK2.out.2.1 HK2.out.1.2 HK2.out.2.2 (by rw [rL_len]; decide) (by rw [mL_len]; decide); rw [rL_len, mL_len] at this; exact this); clear HK2
  refine hK.out _ _ ⟨HM10.out.a2, HM10.out.a3⟩ (fun hHeld => ?_)
  clear hK K
  refine wpAnyH_ready (rs := [8]) (by kernel_rfl) (by simp) ?_
  refine AllReadyH.cons rfl (fun K hK => ?_) AllReadyH.nil
  go_simp
  refine Calls.mono (HSts.out) ?_
  rintro e w10 ⟨rfl, hb⟩
  have HM11 : Hid (Pq w w10 t ls H1b H2b S1 S2 q1 q2 b1 b2 b3 po1 mo1 po2 mo2 po3 mo3 pc1 mc1 pc2 mc2 pc3 mc3) := HM10.out.next hb; clear hb HM10 HSts
  refine hK.out _ _ ⟨HM11.out.a2, HM11.out.a3⟩ (fun hHeld => ?_)
  clear hK K
  refine wpAnyH_take (i := 9) (v := .bool true) rfl (by kernel_rfl) (by kernel_rfl) (by kernel_rfl) (fun _ _ _ h => h) (Or.inl ⟨by rfl, fun w' hSw => by (go_simp)⟩) hHeld ?_
  simp only [Act.put, List.setIfInBounds_toArray, List.set_cons_zero, List.set_cons_succ, List.getElem_cons_zero, List.getElem_cons_succ, List.getElem_toArray]
  refine wpAnyH_take (i := 10) (v := .bool true) rfl (by kernel_rfl) (by kernel_rfl) (by kernel_rfl) (fun _ _ _ h => h) (Or.inl ⟨by rfl, fun w' hSw => by (go_simp)⟩) hHeld ?_
  simp only [Act.put, List.setIfInBounds_toArray, List.set_cons_zero, List.set_cons_succ, List.getElem_cons_zero, List.getElem_cons_succ, List.getElem_toArray]
  refine wpAnyH_take (i := 11) (v := ptr q1) rfl (by kernel_rfl) (by kernel_rfl) (by kernel_rfl) (fun _ _ _ h => h) (Or.inl ⟨by rfl, fun w' hSw => by (go_simp)⟩) hHeld ?_
  simp only [Act.put, List.setIfInBounds_toArray, List.set_cons_zero, List.set_cons_succ, List.getElem_cons_zero, List.getElem_cons_succ, List.getElem_toArray]
  refine wpAnyH_take (i := 13) (v := ptr q2) rfl (by kernel_rfl) (by kernel_rfl) (by kernel_rfl) (fun _ _ _ h => h) (Or.inl ⟨by rfl, fun w' hSw => by (go_simp)⟩) hHeld ?_
  simp only [Act.put, List.setIfInBounds_toArray, List.set_cons_zero, List.set_cons_succ, List.getElem_cons_zero, List.getElem_cons_succ, List.getElem_toArray]
  refine wpAnyH_ready (rs := [12]) (by kernel_rfl) (by simp) ?_
  refine AllReadyH.cons rfl (fun K hK => ?_) AllReadyH.nil
  go_simp
  refine Calls.mono (HFl1.out _ HM11.out) ?_
  rintro e w11 ⟨vf1, rfl, k1, hb⟩
  obtain ⟨fo1, fc1, rfl⟩ := row_slice k1; have HM12 : Hid (Pq w w11 t ls H1b H2b S1 S2 q1 q2 b1 b2 b3 po1 mo1 po2 mo2 po3 mo3 pc1 mc1 pc2 mc2 pc3 mc3) := HM11.out.next hb; have HK1 : Hid (NB w11 fo1 (flyL S2)) := nb_row k1 rfl; clear hb HM11 k1
  refine hK.out _ _ ⟨HM12.out.a2, HM12.out.a3⟩ (fun hHeld => ?_)
  clear hK K
  refine wpAnyH_ready (rs := [14]) (by kernel_rfl) (by simp) ?_
  refine AllReadyH.cons rfl (fun K hK => ?_) AllReadyH.nil
  go_simp
  refine Calls.mono (HFl2.out _ HM12.out) ?_
  rintro e w12 ⟨vf2, rfl, k1, hb⟩
  obtain ⟨fo2, fc2, rfl⟩ := row_slice k1; have HM13 : Hid (Pq w w12 t ls H1b H2b S1 S2 q1 q2 b1 b2 b3 po1 mo1 po2 mo2 po3 mo3 pc1 mc1 pc2 mc2 pc3 mc3) := HM12.out.next hb; have HRg : Hid (Calls Tryd.prog 16 #[.slice fo1 (flyL S2).length fc1, .slice fo2 (flyL S2).length fc2] w12 fun e w' => e = .returned (.bool true) ∧ Below w12.heap.size w12 w') := regs_same fo1 fo2 fc1 fc2 (flyL S2) w12 (HK1.out.up hb) (nb_row k1 rfl) (by have := flN_len (goB S2 8) 32; show (flN (goB S2 8) 32).length ≤ _; omega); clear hb HM12 HK1 k1
  refine hK.out _ _ ⟨HM13.out.a2, HM13.out.a3⟩ (fun hHeld => ?_)
  clear hK K
  refine wpAnyH_ready (rs := [15]) (by kernel_rfl) (by simp) ?_
  refine AllReadyH.cons rfl (fun K hK => ?_) AllReadyH.nil
  go_simp
  refine Calls.mono (HRg.out) ?_
  rintro e w13 ⟨rfl, hb⟩
  have HM14 : Hid (Pq w w13 t ls H1b H2b S1 S2 q1 q2 b1 b2 b3 po1 mo1 po2 mo2 po3 mo3 pc1 mc1 pc2 mc2 pc3 mc3) := HM13.out.next hb; clear hb HM13 HRg
  refine hK.out _ _ ⟨HM14.out.a2, HM14.out.a3⟩ (fun hHeld => ?_)
  clear hK K
  refine wpAnyH_take (i := 16) (v := .bool true) rfl (by kernel_rfl) (by kernel_rfl) (by kernel_rfl) (fun _ _ _ h => h) (Or.inl ⟨by rfl, fun w' hSw => by (go_simp)⟩) hHeld ?_
  simp only [Act.put, List.setIfInBounds_toArray, List.set_cons_zero, List.set_cons_succ, List.getElem_cons_zero, List.getElem_cons_succ, List.getElem_toArray]
  refine wpAnyH_take (i := 17) (v := .bool true) rfl (by kernel_rfl) (by kernel_rfl) (by kernel_rfl) (fun _ _ _ h => h) (Or.inl ⟨by rfl, fun w' hSw => by (go_simp)⟩) hHeld ?_
  simp only [Act.put, List.setIfInBounds_toArray, List.set_cons_zero, List.set_cons_succ, List.getElem_cons_zero, List.getElem_cons_succ, List.getElem_toArray]
  refine wpAnyH_take (i := 18) (v := .pointer (some ⟨b3, 0, none⟩)) rfl (by kernel_rfl) (by kernel_rfl) (by kernel_rfl) (fun _ _ _ h => h) (Or.inl ⟨by rfl, fun w' hSw => by (go_simp)⟩) hHeld ?_
  simp only [Act.put, List.setIfInBounds_toArray, List.set_cons_zero, List.set_cons_succ, List.getElem_cons_zero, List.getElem_cons_succ, List.getElem_toArray]
  refine wpAnyH_take (i := 19) (v := .int .i64 S2.e) rfl (by kernel_rfl) (by kernel_rfl) (by kernel_rfl) (fun _ _ _ h => h) (Or.inl ⟨by rfl, fun w' hSw => by (have z := hSw.2.c 0 _ rfl; have zl := hSw.2.lt; go_simp)⟩) hHeld ?_
  simp only [Act.put, List.setIfInBounds_toArray, List.set_cons_zero, List.set_cons_succ, List.getElem_cons_zero, List.getElem_cons_succ, List.getElem_toArray]
  clear HSame HSt1 HSt2 HFl1 HFl2
  by_cases he : S2.e = 100
  · have hbe : (S2.e == 100) = true := by simpa using he
    refine wpAnyH_take (i := 20) (v := .bool true) rfl (by kernel_rfl) (by kernel_rfl) (by kernel_rfl) (fun _ _ _ h => h) (Or.inl ⟨by rfl, fun w' hSw => by (go_simp)⟩) hHeld ?_
    simp only [Act.put, List.setIfInBounds_toArray, List.set_cons_zero, List.set_cons_succ, List.getElem_cons_zero, List.getElem_cons_succ, List.getElem_toArray]
    refine wpAnyH_take (i := 21) (v := .bool true) rfl (by kernel_rfl) (by kernel_rfl) (by kernel_rfl) (fun _ _ _ h => h) (Or.inl ⟨by rfl, fun w' hSw => by (go_simp)⟩) hHeld ?_
    simp only [Act.put, List.setIfInBounds_toArray, List.set_cons_zero, List.set_cons_succ, List.getElem_cons_zero, List.getElem_cons_succ, List.getElem_toArray]
    refine wpAnyH_take (i := 22) (v := undef) rfl (by kernel_rfl) (by kernel_rfl) (by kernel_rfl) (fun _ _ _ h => h) (Or.inr ⟨by rfl, rfl⟩) hHeld ?_
    simp only [Act.put, List.setIfInBounds_toArray, List.set_cons_zero, List.set_cons_succ, List.getElem_cons_zero, List.getElem_cons_succ, List.getElem_toArray]
    refine wpAnyH_take (i := 23) (v := undef) rfl (by kernel_rfl) (by kernel_rfl) (by kernel_rfl) (fun _ _ _ h => h) (Or.inr ⟨by rfl, rfl⟩) hHeld ?_
    simp only [Act.put, List.setIfInBounds_toArray, List.set_cons_zero, List.set_cons_succ, List.getElem_cons_zero, List.getElem_cons_succ, List.getElem_toArray]
    refine wpAnyH_take (i := 24) (v := undef) rfl (by kernel_rfl) (by kernel_rfl) (by kernel_rfl) (fun _ _ _ h => h) (Or.inr ⟨by rfl, rfl⟩) hHeld ?_
    simp only [Act.put, List.setIfInBounds_toArray, List.set_cons_zero, List.set_cons_succ, List.getElem_cons_zero, List.getElem_cons_succ, List.getElem_toArray]
    refine wpAnyH_take (i := 25) (v := undef) rfl (by kernel_rfl) (by kernel_rfl) (by kernel_rfl) (fun _ _ _ h => h) (Or.inr ⟨by rfl, rfl⟩) hHeld ?_
    simp only [Act.put, List.setIfInBounds_toArray, List.set_cons_zero, List.set_cons_succ, List.getElem_cons_zero, List.getElem_cons_succ, List.getElem_toArray]
    refine wpAnyH_take (i := 26) (v := undef) rfl (by kernel_rfl) (by kernel_rfl) (by kernel_rfl) (fun _ _ _ h => h) (Or.inr ⟨by rfl, rfl⟩) hHeld ?_
    simp only [Act.put, List.setIfInBounds_toArray, List.set_cons_zero, List.set_cons_succ, List.getElem_cons_zero, List.getElem_cons_succ, List.getElem_toArray]
    refine wpAnyH_take (i := 27) (v := .bool true) rfl (by kernel_rfl) (by kernel_rfl) (by kernel_rfl) (fun _ _ _ h => h) (Or.inl ⟨by rfl, fun w' hSw => by (go_simp)⟩) hHeld ?_
    simp only [Act.put, List.setIfInBounds_toArray, List.set_cons_zero, List.set_cons_succ, List.getElem_cons_zero, List.getElem_cons_succ, List.getElem_toArray]
    refine wpAnyH_take (i := 28) (v := .bool true) rfl (by kernel_rfl) (by kernel_rfl) (by kernel_rfl) (fun _ _ _ h => h) (Or.inl ⟨by rfl, fun w' hSw => by (go_simp)⟩) hHeld ?_
    simp only [Act.put, List.setIfInBounds_toArray, List.set_cons_zero, List.set_cons_succ, List.getElem_cons_zero, List.getElem_cons_succ, List.getElem_toArray]
    refine wpAnyH_take (i := 29) (v := .bool true) rfl (by kernel_rfl) (by kernel_rfl) (by kernel_rfl) (fun _ _ _ h => h) (Or.inl ⟨by rfl, fun w' hSw => by (go_simp)⟩) hHeld ?_
    simp only [Act.put, List.setIfInBounds_toArray, List.set_cons_zero, List.set_cons_succ, List.getElem_cons_zero, List.getElem_cons_succ, List.getElem_toArray]
    refine wpAnyH_ready (rs := [30]) (by kernel_rfl) (by simp) ?_
    refine AllReadyH.cons rfl (fun K hK => ?_) AllReadyH.nil
    go_simp
    refine Calls.mono (HW.out _ HM14.out.m.up) ?_
    rintro e w14 ⟨rfl, hb⟩
    have HZ : Hid (Below w.heap.size w w14) := HM14.out.m.up.trans (hb.mono HM14.out.m.up.size); have HM15 : Hid (Pq w w14 t ls H1b H2b S1 S2 q1 q2 b1 b2 b3 po1 mo1 po2 mo2 po3 mo3 pc1 mc1 pc2 mc2 pc3 mc3) := HM14.out.next hb; clear hb HM14
    refine hK.out _ _ ⟨HM15.out.a2, HM15.out.a3⟩ (fun hHeld => ?_)
    clear hK K
    refine wpAnyH_take (i := 31) (v := .bool true) rfl (by kernel_rfl) (by kernel_rfl) (by kernel_rfl) (fun _ _ _ h => h) (Or.inl ⟨by rfl, fun w' hSw => by (go_simp)⟩) hHeld ?_
    simp only [Act.put, List.setIfInBounds_toArray, List.set_cons_zero, List.set_cons_succ, List.getElem_cons_zero, List.getElem_cons_succ, List.getElem_toArray]
    refine wpAnyH_take (i := 32) (v := .bool true) rfl (by kernel_rfl) (by kernel_rfl) (by kernel_rfl) (fun _ _ _ h => h) (Or.inl ⟨by rfl, fun w' hSw => by (go_simp)⟩) hHeld ?_
    simp only [Act.put, List.setIfInBounds_toArray, List.set_cons_zero, List.set_cons_succ, List.getElem_cons_zero, List.getElem_cons_succ, List.getElem_toArray]
    refine wpAnyH_done (by kernel_rfl) ?_ _
    clear hHeld
    go_wp2_with fail
    go_ret
    exact ⟨rfl, HZ.out⟩
  · have hbe : (S2.e == 100) = false := by simpa using he
    have HRn := HRz.out he
    refine wpAnyH_take (i := 20) (v := .bool false) rfl (by kernel_rfl) (by kernel_rfl) (by kernel_rfl) (fun _ _ _ h => h) (Or.inl ⟨by rfl, fun w' hSw => by (go_simp)⟩) hHeld ?_
    simp only [Act.put, List.setIfInBounds_toArray, List.set_cons_zero, List.set_cons_succ, List.getElem_cons_zero, List.getElem_cons_succ, List.getElem_toArray]
    refine wpAnyH_take (i := 21) (v := .bool false) rfl (by kernel_rfl) (by kernel_rfl) (by kernel_rfl) (fun _ _ _ h => h) (Or.inl ⟨by rfl, fun w' hSw => by (go_simp)⟩) hHeld ?_
    simp only [Act.put, List.setIfInBounds_toArray, List.set_cons_zero, List.set_cons_succ, List.getElem_cons_zero, List.getElem_cons_succ, List.getElem_toArray]
    refine wpAnyH_take (i := 22) (v := .agg #[.int .i64 S2.e, .int .i64 (vI S2), .slice po3 S2.p.length pc3, .slice mo3 (memL S2).length mc3, .int .i64 (S2.s : Int)]) rfl (by kernel_rfl) (by kernel_rfl) (by kernel_rfl) (fun _ _ _ h => h) (Or.inl ⟨by rfl, fun w' hSw => by (have z0 := hSw.2.c 0 _ rfl; have z1 := hSw.2.c 1 _ rfl; have z2 := hSw.2.c 2 _ rfl; have z3 := hSw.2.c 3 _ rfl; have z4 := hSw.2.c 4 _ rfl; have zl := hSw.2.lt; have zf := hSw.2.f; go_simp)⟩) hHeld ?_
    simp only [Act.put, List.setIfInBounds_toArray, List.set_cons_zero, List.set_cons_succ, List.getElem_cons_zero, List.getElem_cons_succ, List.getElem_toArray]
    refine wpAnyH_take (i := 23) (v := ptr q2) rfl (by kernel_rfl) (by kernel_rfl) (by kernel_rfl) (fun _ _ _ h => h) (Or.inl ⟨by rfl, fun w' hSw => by (go_simp)⟩) hHeld ?_
    simp only [Act.put, List.setIfInBounds_toArray, List.set_cons_zero, List.set_cons_succ, List.getElem_cons_zero, List.getElem_cons_succ, List.getElem_toArray]
    refine wpAnyH_take (i := 24) (v := .int .i64 (nb : Int)) rfl (by kernel_rfl) (by kernel_rfl) (by kernel_rfl) (fun _ _ _ h => h) (Or.inl ⟨by rfl, fun w' hSw => by (go_simp)⟩) hHeld ?_
    simp only [Act.put, List.setIfInBounds_toArray, List.set_cons_zero, List.set_cons_succ, List.getElem_cons_zero, List.getElem_cons_succ, List.getElem_toArray]
    refine wpAnyH_ready (rs := [25]) (by kernel_rfl) (by simp) ?_
    refine AllReadyH.cons rfl (fun K hK => ?_) AllReadyH.nil
    go_simp
    refine Calls.mono (HRn _ _ _ HM14.out.e2 HM14.out.m.m2) ?_
    rintro e w14 ⟨po4, pc4, mo4, mc4, rfl, k1, k2, H2c, k3, k4, k5, k6⟩
    have HQ : Hid (Below w.heap.size w w14 ∧ (At w14 b2 #[.int .i64 S2.e, .int .i64 (vI S2), .slice po2 S2.p.length pc2, .slice mo2 (memL S2).length mc2, .int .i64 (S2.s : Int)] ∧ At w14 b3 #[.int .i64 S2.e, .int .i64 (vI S2), .slice po3 S2.p.length pc3, .slice mo3 (memL S2).length mc3, .int .i64 (S2.s : Int)]) ∧ NL w14 po3 S2.p ∧ NL w14 mo3 (memL S2) ∧ NL w14 po4 S2.p ∧ NL w14 mo4 (memL S2)) := ⟨(HM14.out.m.swap.go k3 k4).up, ⟨At.frb HM14.out.a2 k4.f HM14.out.r2, At.frb HM14.out.a3 k4.f HM14.out.r3⟩, nl_row (row_fr HM14.out.n3 k4.f HM14.out.f3) rfl, nl_row (row_fr HM14.out.k3 k4.f HM14.out.g3) rfl, nl_row k1 rfl, nl_row k2 rfl⟩; clear k1 k2 k3 k4 k5 k6 HM14; have HSm : Hid (Calls Tryd.prog 11 #[.agg #[.int .i64 S2.e, .int .i64 (vI S2), .slice po3 S2.p.length pc3, .slice mo3 (memL S2).length mc3, .int .i64 (S2.s : Int)], .agg #[.int .i64 S2.e, .int .i64 (vI S2), .slice po4 S2.p.length pc4, .slice mo4 (memL S2).length mc4, .int .i64 (S2.s : Int)]] w14 fun e w' => e = .returned (.bool true) ∧ Below w14.heap.size w14 w') := out_same _ _ _ po3 po4 mo3 mo4 pc3 mc3 pc4 mc4 S2.p (memL S2) w14 HQ.out.2.2.1 HQ.out.2.2.2.2.1 HQ.out.2.2.2.1 HQ.out.2.2.2.2.2 hle2 HMl.out
    refine hK.out _ _ HQ.out.2.1 (fun hHeld => ?_)
    clear hK K
    refine wpAnyH_ready (rs := [26]) (by kernel_rfl) (by simp) ?_
    refine AllReadyH.cons rfl (fun K hK => ?_) AllReadyH.nil
    go_simp
    refine Calls.mono (HSm.out) ?_
    rintro e w15 ⟨rfl, hb⟩
    have HQ2 : Hid (Below w.heap.size w w15 ∧ At w15 b2 #[.int .i64 S2.e, .int .i64 (vI S2), .slice po2 S2.p.length pc2, .slice mo2 (memL S2).length mc2, .int .i64 (S2.s : Int)] ∧ At w15 b3 #[.int .i64 S2.e, .int .i64 (vI S2), .slice po3 S2.p.length pc3, .slice mo3 (memL S2).length mc3, .int .i64 (S2.s : Int)]) := ⟨HQ.out.1.trans (hb.mono HQ.out.1.size), HQ.out.2.1.1.below hb HQ.out.2.1.1.lt, HQ.out.2.1.2.below hb HQ.out.2.1.2.lt⟩; clear hb HQ HSm
    refine hK.out _ _ HQ2.out.2 (fun hHeld => ?_)
    clear hK K
    refine wpAnyH_take (i := 27) (v := .bool true) rfl (by kernel_rfl) (by kernel_rfl) (by kernel_rfl) (fun _ _ _ h => h) (Or.inl ⟨by rfl, fun w' hSw => by (go_simp)⟩) hHeld ?_
    simp only [Act.put, List.setIfInBounds_toArray, List.set_cons_zero, List.set_cons_succ, List.getElem_cons_zero, List.getElem_cons_succ, List.getElem_toArray]
    refine wpAnyH_take (i := 28) (v := .bool true) rfl (by kernel_rfl) (by kernel_rfl) (by kernel_rfl) (fun _ _ _ h => h) (Or.inl ⟨by rfl, fun w' hSw => by (go_simp)⟩) hHeld ?_
    simp only [Act.put, List.setIfInBounds_toArray, List.set_cons_zero, List.set_cons_succ, List.getElem_cons_zero, List.getElem_cons_succ, List.getElem_toArray]
    refine wpAnyH_take (i := 29) (v := .bool true) rfl (by kernel_rfl) (by kernel_rfl) (by kernel_rfl) (fun _ _ _ h => h) (Or.inl ⟨by rfl, fun w' hSw => by (go_simp)⟩) hHeld ?_
    simp only [Act.put, List.setIfInBounds_toArray, List.set_cons_zero, List.set_cons_succ, List.getElem_cons_zero, List.getElem_cons_succ, List.getElem_toArray]
    refine wpAnyH_ready (rs := [30]) (by kernel_rfl) (by simp) ?_
    refine AllReadyH.cons rfl (fun K hK => ?_) AllReadyH.nil
    go_simp
    refine Calls.mono (HW.out _ HQ2.out.1) ?_
    rintro e w16 ⟨rfl, hb⟩
    have HZ : Hid (Below w.heap.size w w16) := HQ2.out.1.trans (hb.mono HQ2.out.1.size); have HZ2 : Hid (At w16 b2 #[.int .i64 S2.e, .int .i64 (vI S2), .slice po2 S2.p.length pc2, .slice mo2 (memL S2).length mc2, .int .i64 (S2.s : Int)] ∧ At w16 b3 #[.int .i64 S2.e, .int .i64 (vI S2), .slice po3 S2.p.length pc3, .slice mo3 (memL S2).length mc3, .int .i64 (S2.s : Int)]) := ⟨HQ2.out.2.1.below hb HQ2.out.2.1.lt, HQ2.out.2.2.below hb HQ2.out.2.2.lt⟩; clear hb HQ2
    refine hK.out _ _ HZ2.out (fun hHeld => ?_)
    clear hK K
    refine wpAnyH_take (i := 31) (v := .bool true) rfl (by kernel_rfl) (by kernel_rfl) (by kernel_rfl) (fun _ _ _ h => h) (Or.inl ⟨by rfl, fun w' hSw => by (go_simp)⟩) hHeld ?_
    simp only [Act.put, List.setIfInBounds_toArray, List.set_cons_zero, List.set_cons_succ, List.getElem_cons_zero, List.getElem_cons_succ, List.getElem_toArray]
    refine wpAnyH_take (i := 32) (v := .bool true) rfl (by kernel_rfl) (by kernel_rfl) (by kernel_rfl) (fun _ _ _ h => h) (Or.inl ⟨by rfl, fun w' hSw => by (go_simp)⟩) hHeld ?_
    simp only [Act.put, List.setIfInBounds_toArray, List.set_cons_zero, List.set_cons_succ, List.getElem_cons_zero, List.getElem_cons_succ, List.getElem_toArray]
    refine wpAnyH_done (by kernel_rfl) ?_ _
    clear hHeld
    go_wp2_with fail
    go_ret
    exact ⟨rfl, HZ.out⟩
end Go.Proofs.YtldfjlepbbmhnaaDoor.Pp
namespace Go.Proofs.YtldfjlepbbmhnaaDoor.Pp
open Go.ChangeShapes Go.WideShapes Go.ChangeAt Go.RowKit
open _root_.Go.Proofs.YtldfjlepbbmhnaaDoor.Op _root_.Go.Proofs.YtldfjlepbbmhnaaDoor.So _root_.Go.Proofs.YtldfjlepbbmhnaaDoor.Bu
open _root_.Go.Proofs.YtldfjlepbbmhnaaDoor.Tb (Tab TabAt Bnds)
set_option maxRecDepth 20000

theorem law_parts (ao ra ma : Option Addr) (n cap rc mc : Nat) (v : Nat → Int) (t : Tab) (rs ms : List Int) (a b : Int) (w : World) (hx : Ws w ao n v) (hc : n ≤ cap) (hn : n ≤ 17592186044416) (hG : Bnds w) (hr : NL w ra rs) (hm : NL w ma ms) (hri : ∀ x ∈ rs, I64 x) (hmi : ∀ x ∈ ms, I64 x) :
    Calls Tryd.prog 4 #[.slice ao n cap, t.val, .agg #[.slice ra rs.length rc, .slice ma ms.length mc], .int .i64 a, .int .i64 b] w (Yes w) := by
  by_cases hf : 16384 < (n : Int) ∨ a < 0 ∨ b < 0 ∨ 2000 < a ∨ 2000 < b
  · exact parts_far ao ra ma n cap _ rc _ mc t a b w hG hf
  · have f1 : (n : Int) ≤ 16384 := by omega
    have f2 : 0 ≤ a ∧ a ≤ 2000 := by omega
    have f3 : 0 ≤ b ∧ b ≤ 2000 := by omega
    by_cases h : deE t v n = 0
    · by_cases hl : 32 < rs.length ∨ 256 < ms.length
      · exact parts_no ao ra ma n cap _ rc _ mc t a b 2 w hG f1 f2 f3 (by decide) fun V hV => new_long ao ra ma n cap _ rc _ mc v t V (hx.below hV) hc (hG.below hV hG.big) hn h hl
      · obtain ⟨na, rfl⟩ : ∃ k : Nat, a = k := ⟨a.toNat, by omega⟩
        obtain ⟨nb, rfl⟩ : ∃ k : Nat, b = k := ⟨b.toNat, by omega⟩
        exact parts_ok ao ra ma n cap rc mc v t rs ms na nb w hx hc hG f1 (by omega) (by omega) h hr hm (by omega) (by omega) hri hmi
    · exact parts_no ao ra ma n cap _ rc _ mc t a b _ w hG f1 f2 f3 h fun V hV => new_no ao ra ma n cap _ rc _ mc v t V (hx.below hV) hc (hG.below hV hG.big) hn h
end Go.Proofs.YtldfjlepbbmhnaaDoor.Pp
