/- What New answers of a state that is too great, Run of any machine, Steps, lists of numbers compared; two machines of two programs side by side. Conditions: said at each. -/
import Derived.Test.YtddcndlogoajkaaGreatDoorQNx
import Derived.Test.YtddcndlogoajkaaGreatDoorHd
namespace Go.Proofs.YtddcndlogoajkaaGreatDoor.L8.Sm
open Go.ChangeShapes Go.WideShapes Go.ChangeAt Go.RowKit
open _root_.Go.Proofs.YtddcndlogoajkaaGreatDoor.L8.Op _root_.Go.Proofs.YtddcndlogoajkaaGreatDoor.L8.So
set_option maxRecDepth 20000

set_option maxHeartbeats 2000000 in
theorem new_great (ao ra ma : Option Addr) (cap rl rc ml mc : Nat) (ps : List Bk) (w : World) (h : PAt w ao ps) (he : Env w) (hc : ckP ps = 0) (hg : 32 < rl ∨ 256 < ml) :
    Calls Tryz.prog 16 #[.agg #[.slice ao ps.length cap], .agg #[.slice ra rl rc, .slice ma ml mc]] w fun e w' => e = .returned (.tuple #[.pointer none, .int .i64 2]) ∧ Below w.heap.size w w' := by
  have HCk : Hid (∀ W, Below w.heap.size w W → Calls Tryz.prog 14 #[.agg #[.slice ao ps.length cap]] W fun e w' => e = .returned (.int .i64 0) ∧ Below W.heap.size W w') := fun W hb => by
    have := checkP_any ao cap ps W (h.below hb) (he.up hb)
    rw [hc] at this; exact this
  have HT : Hid (∀ {w' : World}, Below ((w.alloc (.cells #[.slice ao ps.length cap] 24)).alloc (.cells #[.slice ra rl rc, .slice ma ml mc] 35)).heap.size ((w.alloc (.cells #[.slice ao ps.length cap] 24)).alloc (.cells #[.slice ra rl rc, .slice ma ml mc] 35)) w' → Op.At w' (w.heap.size + 1) #[.slice ra rl rc, .slice ma ml mc] ∧ Below w.heap.size w w') := fun {w'} hb => by
    obtain ⟨-, h2, h3, -⟩ := two_new w #[.slice ao ps.length cap] #[.slice ra rl rc, .slice ma ml mc] 24 35 hb
    exact ⟨h2, h3⟩
  clear h he hc
  rcases Nat.lt_or_ge 32 rl with h1 | h1
  · have hi : (32 : Int) < (rl : Int) := by omega
    clear hg h1
    go_enter Tryz.func16, Tryz.ntmps16
    go_wp2_with (first | (go_at_call 14; refine Calls.mono (HCk.out _ (by go_grown)) ?_; rintro e w1 ⟨rfl, hb⟩; obtain ⟨x2, x3⟩ := HT.out hb; have HB : Hid (Below w.heap.size w w1) := x3; have s0 := x2.c 0 _ rfl; have s1 := x2.c 1 _ rfl; have sl := x2.lt; clear hb x2 x3 HT HCk))
    go_ret2
    exact ⟨rfl, HB.out⟩
  · have hi : ¬ (32 : Int) < (rl : Int) := by omega
    have hi2 : (256 : Int) < (ml : Int) := by omega
    clear hg h1
    go_enter Tryz.func16, Tryz.ntmps16
    go_wp2_with (first | (go_at_call 14; refine Calls.mono (HCk.out _ (by go_grown)) ?_; rintro e w1 ⟨rfl, hb⟩; obtain ⟨x2, x3⟩ := HT.out hb; have HB : Hid (Below w.heap.size w w1) := x3; have s0 := x2.c 0 _ rfl; have s1 := x2.c 1 _ rfl; have sl := x2.lt; clear hb x2 x3 HT HCk))
    go_ret2
    exact ⟨rfl, HB.out⟩
theorem run_any {w : World} {q : Nat} {ps : List Bk} {T : Nat → Prop} {M : Ma} (n : Int) (h : MM w q ps T M) (hb : M.s + (min (max n 0) 1048576).toNat ≤ 1000000000000) : Calls Tryz.prog 17 #[ptr q, .int .i64 n] w (RunPost w q ps T (runM ps (min (max n 0) 1048576).toNat M)) := by
  by_cases he : (runM ps (min (max n 0) 1048576).toNat M).e = 0
  · exact run_done n h hb he
  · exact run_over' n h hb he
/-- A number of steps as the statements count it. -/
def stN (n : Int) : Int := if 5000 < n then n % 5000 else n
theorem steps_any (n : Int) (w : World) : Calls Tryz.prog 15 #[.int .i64 n] w fun e w' => e = .returned (.int .i64 (stN n)) ∧ w' = w := by
  by_cases h : 5000 < n
  · have hm : n.tmod 5000 = n % 5000 := by rw [Int.tmod_eq_emod_of_nonneg (by omega)]
    rw [show stN n = n % 5000 by simp [stN, h]]
    go_enter Tryz.func15, Tryz.ntmps15
    go_wp2_with fail
    go_ret
    exact ⟨rfl, rfl⟩
  · rw [show stN n = n by simp [stN, h]]
    go_enter Tryz.func15, Tryz.ntmps15
    go_wp2_with fail
    go_ret
    exact ⟨rfl, rfl⟩
theorem nums_same (a b : Option Addr) (c d : Nat) (l : List Int) (w : World) (ha : NL w a l) (hb : NL w b l) (hl : l.length ≤ 1000000000000) : Calls Tryz.prog 18 #[.slice a l.length c, .slice b l.length d] w fun e w' => e = .returned (.bool true) ∧ Below w.heap.size w w' := by
  have HA : Hid _ := ha
  have HB : Hid _ := hb
  have hlz : (l.length : Int) ≤ 1000000000000 := by omega
  clear ha hb
  go_enter Tryz.func18, Tryz.ntmps18
  go_wp2_with fail
  go_loopw [13] (fun i wr => ∃ k : Nat, k ≤ l.length ∧ i = .int .i64 k ∧ Below w.heap.size w wr) (fun i _ => l.length - (intOf i).toNat)
  case atStart => exact ⟨0, by omega, rfl, Below.refl _ _⟩
  case round =>
    rename_i wr
    obtain ⟨k, hk, rfl, hbw⟩ := hrel
    by_cases hlt : k < l.length
    · obtain ⟨b1, f1, rfl, z1, x1⟩ := (HA.out.up hbw).is (by omega)
      obtain ⟨b2, f2, rfl, z2, x2⟩ := (HB.out.up hbw).is (by omega)
      have c1 := x1 k hlt
      have c2 := x2 k hlt
      have HW : Hid (Below w.heap.size w wr) := hbw
      clear x1 x2 hbw HA HB
      generalize l[k] = v at *
      go_wp2_with fail
      go_quiet (fail)
      go_wp2_with fail
      go_roundw
      case rel => exact ⟨k + 1, by omega, by go_num, drewN_below HW.out _⟩
      case measure => simp [intOf]; omega
    · obtain rfl : k = l.length := by omega
      go_wp2_with fail
      go_ret
      exact ⟨rfl, hbw⟩
theorem MM.same {w : World} {q : Nat} {ps : List Bk} {T T' : Nat → Prop} {M : Ma} (h : MM w q ps T M) (e : ∀ k, T k ↔ T' k) : MM w q ps T' M := by
  have : T = T' := funext fun k => propext (e k)
  rw [← this]; exact h
theorem Bx.tn {w W W' : World} {ao : Option Addr} {n cap : Nat} {ra ma : Option Addr} {rl rc ml mc : Nat} {X : Nat → Prop} (h : Bx w W ao n cap ra ma rl rc ml mc) (g : Fr X W W') (hx : ∀ k, k < w.heap.size + 2 → ¬ X k) : Bx w W' ao n cap ra ma rl rc ml mc := by
  have k : ∀ {b : Nat} {cs : Array Value}, Op.At W b cs → b < w.heap.size + 2 → Op.At W' b cs := fun {b cs} ha hb => ⟨fun j v e => (g.cell ha.lt (hx b hb) j).trans (ha.c j v e), fun j => (g.frozen ha.lt (hx b hb) j).trans (ha.f j), Nat.lt_of_lt_of_le ha.lt g.size⟩
  exact ⟨k h.p (by omega), k h.s (by omega), h.b.trans (g.below h.b.size fun j hj => hx j (by omega))⟩
theorem at_fr {W W' : World} {X : Nat → Prop} {b : Nat} {cs : Array Value} (h : Op.At W b cs) (g : Fr X W W') (hx : ¬ X b) : Op.At W' b cs := ⟨fun j v e => (g.cell h.lt hx j).trans (h.c j v e), fun j => (g.frozen h.lt hx j).trans (h.f j), Nat.lt_of_lt_of_le h.lt g.size⟩
theorem Own.off {w w' w2 : World} {a : Option Addr} {l : List Int} (h : Own w w' a l) {X : Nat → Prop} (g : Fr X w' w2) (hx : ∀ k, w.heap.size ≤ k → ¬ X k) : NL w2 a l := h.nl.fr g fun h0 x e => hx _ (h.new h0 x e)
theorem nok_up {w w' : World} {q : Nat} (h : NoK w q) (hq : q < w.heap.size) (g : Below w.heap.size w w') : NoK w' q := fun j i e => h j i (by rw [(bcell g).1 _ _ hq] at e; exact e)
/-- What a run leaves, told in letters. -/
def RunPost' (w : World) (q : Nat) (ps : List Bk) (T : Nat → Prop) (M' : Ma) (E V : Int) (P K : Nat) (S : Int) (e : Ending) (w' : World) : Prop := ∃ a m c d T', e = .returned (.agg #[.int .i64 E, .int .i64 V, .slice a P c, .slice m K d, .int .i64 S]) ∧ Own w w' a M'.pr ∧ Own w w' m (outMem M') ∧ MM w' q ps T' M' ∧ Tn w T w' T' ∧ P ≤ c
theorem run_post' {w : World} {q : Nat} {ps : List Bk} {T : Nat → Prop} {M' : Ma} {e : Ending} {w' : World} (h : RunPost w q ps T M' e w') : RunPost' w q ps T M' M'.e (if M'.e = 0 then M'.v else 0) M'.pr.length (outMem M').length (M'.s : Int) e w' := by
  obtain ⟨a, m, c, d, T', rfl, h1, h2, h3, h4, h5⟩ := h
  refine ⟨a, m, c, d, T', ?_, h1, h2, h3, h4, h5⟩
  have : (outMem M').length = if M'.e = 0 then 256 else 0 := by
    unfold outMem
    split
    · exact memL_len M'
    · rfl
  rw [this]
  rfl
/-- Both machines, the first behind some steps. -/
structure D2 (w W : World) (ao : Option Addr) (n cap : Nat) (ra ma : Option Addr) (rl rc ml mc : Nat) (q1 q2 z : Nat) (ps qs : List Bk) (T1 : Nat → Prop) (M M0 : Ma) : Prop where
  bx : Bx w W ao n cap ra ma rl rc ml mc
  m : MM W q1 ps T1 M
  n : MM W q2 qs (fun k => k = q2 ∨ k = q1) M0
  t : ∀ k, T1 k → k = q1 ∨ z ≤ k
  q : w.heap.size + 2 ≤ q1 ∧ q1 < q2 ∧ q2 < z ∧ z ≤ W.heap.size
theorem D2.up {w W W' : World} {ao : Option Addr} {n cap : Nat} {ra ma : Option Addr} {rl rc ml mc q1 q2 z : Nat} {ps qs : List Bk} {T1 : Nat → Prop} {M M0 : Ma} (h : D2 w W ao n cap ra ma rl rc ml mc q1 q2 z ps qs T1 M M0) (g : Below W.heap.size W W') : D2 w W' ao n cap ra ma rl rc ml mc q1 q2 z ps qs T1 M M0 :=
  ⟨h.bx.up g, h.m.up g, h.n.up g, h.t, ⟨h.q.1, h.q.2.1, h.q.2.2.1, Nat.le_trans h.q.2.2.2 g.size⟩⟩
/-- The first machine goes on. -/
theorem D2.go {w W W' : World} {ao : Option Addr} {n cap : Nat} {ra ma : Option Addr} {rl rc ml mc q1 q2 z : Nat} {ps qs : List Bk} {T1 T' : Nat → Prop} {M M' M0 : Ma} (h : D2 w W ao n cap ra ma rl rc ml mc q1 q2 z ps qs T1 M M0) (hm : MM W' q1 ps T' M') (g : Tn W T1 W' T') : D2 w W' ao n cap ra ma rl rc ml mc q1 q2 z ps qs T' M' M0 := by
  obtain ⟨g1, g2, g3, g4⟩ := h.q
  refine ⟨h.bx.tn g.f fun k hk hT => ?_, hm, h.n.aside g.f (fun k hk hq hT => ?_) (fun k hk hT => ?_), fun k hT => ?_, ⟨g1, g2, g3, Nat.le_trans g4 g.f.size⟩⟩
  · rcases h.t k hT with e | e <;> omega
  · rcases h.t k hT with e | e <;> rcases hk with hk | hk <;> omega
  · rcases h.t k hT with e | e
    · exact .inl (.inr e)
    · exact .inr (by omega)
  · rcases g.t k hT with e | e
    · exact h.t k e
    · exact .inr (by omega)
theorem D2.n' {w W : World} {ao : Option Addr} {n cap : Nat} {ra ma : Option Addr} {rl rc ml mc q1 q2 z : Nat} {ps qs : List Bk} {T1 : Nat → Prop} {M M0 : Ma} (h : D2 w W ao n cap ra ma rl rc ml mc q1 q2 z ps qs T1 M M0) : MM W q2 qs (One q2) M0 :=
  h.n.shrink.same fun k => ⟨fun hk => by rcases hk.1 with e | e; exact e; exact absurd hk.2 (by have := h.q.2.1; omega), fun e => ⟨.inl e, Nat.le_of_eq (show q2 = k from (show k = q2 from e).symm)⟩⟩
/-- Both machines are there. -/
theorem D2.start {w W W' : World} {ao : Option Addr} {n cap : Nat} {ra ma : Option Addr} {rl rc ml mc q1 q2 : Nat} {ps qs : List Bk} {M N : Ma} (hb : Bx w W ao n cap ra ma rl rc ml mc) (h1 : MM W q1 ps (One q1) M) (hk : NoK W q1) (hq1 : w.heap.size + 2 ≤ q1) (g : Below W.heap.size W W') (h2 : MM W' q2 qs (One q2) N) (hq2 : W.heap.size ≤ q2) : D2 w W' ao n cap ra ma rl rc ml mc q1 q2 W'.heap.size ps qs (One q1) M N := by
  have l1 : q1 < W.heap.size := h1.mr.tl q1 rfl
  exact ⟨hb.up g, h1.up g, h2.widen (Nat.lt_of_lt_of_le l1 g.size) (nok_up hk l1 g), fun k e => .inl e, ⟨hq1, Nat.lt_of_lt_of_le l1 hq2, h2.mr.tl q2 rfl, Nat.le_refl _⟩⟩
/-- The two outcomes in memory, side by side, and the variables. -/
structure Z2 (w W : World) (ao : Option Addr) (n cap : Nat) (ra ma : Option Addr) (rl rc ml mc b1 b2 : Nat) (x1 x2 : Array Value) (a1 m1 a2 m2 : Option Addr) (p1 k1 p2 k2 : List Int) : Prop where
  bx : Bx w W ao n cap ra ma rl rc ml mc
  x1 : Op.At W b1 x1
  x2 : Op.At W b2 x2
  a1 : NL W a1 p1
  m1 : NL W m1 k1
  a2 : NL W a2 p2
  m2 : NL W m2 k2
theorem Z2.up {w W W' : World} {ao : Option Addr} {n cap : Nat} {ra ma : Option Addr} {rl rc ml mc b1 b2 : Nat} {x1 x2 : Array Value} {a1 m1 a2 m2 : Option Addr} {p1 k1 p2 k2 : List Int} (h : Z2 w W ao n cap ra ma rl rc ml mc b1 b2 x1 x2 a1 m1 a2 m2 p1 k1 p2 k2) (g : Below W.heap.size W W') : Z2 w W' ao n cap ra ma rl rc ml mc b1 b2 x1 x2 a1 m1 a2 m2 p1 k1 p2 k2 :=
  ⟨h.bx.up g, h.x1.below g h.x1.lt, h.x2.below g h.x2.lt, h.a1.up g, h.m1.up g, h.a2.up g, h.m2.up g⟩
/-- Both machines have run, then both outcomes are laid. -/
theorem D2.both {w W W3 W4 : World} {ao : Option Addr} {n cap : Nat} {ra ma : Option Addr} {rl rc ml mc q1 q2 z : Nat} {ps qs : List Bk} {T1 T5 : Nat → Prop} {M M0 : Ma} {x1 x2 : Array Value} {t : TypeId} {a1 m1 a2 m2 : Option Addr} {p1 k1 p2 k2 : List Int} (h : D2 w W3 ao n cap ra ma rl rc ml mc q1 q2 z ps qs T1 M M0) (hW : z ≤ W.heap.size) (o1 : Own W W3 a1 p1) (o2 : Own W W3 m1 k1) (g : Tn W3 (One q2) W4 T5) (o3 : Own W3 W4 a2 p2) (o4 : Own W3 W4 m2 k2) : Z2 w ((W4.alloc (.cells x1 t)).alloc (.cells x2 t)) ao n cap ra ma rl rc ml mc W4.heap.size (W4.heap.size + 1) x1 x2 a1 m1 a2 m2 p1 k1 p2 k2 := by
  obtain ⟨g1, g2, g3, g4⟩ := h.q
  have far : ∀ k, W.heap.size ≤ k → ¬ One q2 k := fun k hk e => by
    have e : k = q2 := e
    omega
  have a : Below W4.heap.size W4 (W4.alloc (.cells x1 t)) := (Below.refl _ _).alloc (Nat.le_refl _) _
  have b : Below W4.heap.size W4 ((W4.alloc (.cells x1 t)).alloc (.cells x2 t)) := a.alloc (by simp) _
  have h1 := (Op.At.new W4 x1 t).alloc (.cells x2 t)
  have h2 := Op.At.new (W4.alloc (.cells x1 t)) x2 t
  rw [show (W4.alloc (.cells x1 t)).heap.size = W4.heap.size + 1 by simp] at h2
  exact ⟨(h.bx.tn g.f fun k hk e => by have e : k = q2 := e; omega).up b, h1, h2, (o1.off g.f far).up b, (o2.off g.f far).up b, o3.nl.up b, o4.nl.up b⟩
theorem nl_pre {w : World} {a : Option Addr} {p l : List Int} (h : NL w a l) (hp : p <+: l) : NL w a p := by
  obtain ⟨t, rfl⟩ := hp
  refine ⟨fun h0 => ?_⟩
  obtain ⟨b, f, e, z, x⟩ := h.is (by rw [List.length_append]; omega)
  refine ⟨b, f, e, z, fun i hi => ?_⟩
  have := x i (by rw [List.length_append]; omega)
  rw [List.getElem_append_left hi] at this
  exact this
end Go.Proofs.YtddcndlogoajkaaGreatDoor.L8.Sm
