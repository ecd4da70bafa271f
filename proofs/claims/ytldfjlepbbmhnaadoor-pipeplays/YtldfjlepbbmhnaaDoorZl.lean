/- The document's machine: a new one (New), read off the program by the walk. Conditions: words and the state lie in memory. -/
import Derived.Test.YtldfjlepbbmhnaaDoorZk
import Derived.Test.YtldfjlepbbmhnaaDoorXf
namespace Go.Proofs.YtldfjlepbbmhnaaDoor.Pp
open Go.ChangeShapes Go.WideShapes Go.ChangeAt Go.RowKit
open _root_.Go.Proofs.YtldfjlepbbmhnaaDoor.Op _root_.Go.Proofs.YtldfjlepbbmhnaaDoor.So _root_.Go.Proofs.YtldfjlepbbmhnaaDoor.Bu
open _root_.Go.Proofs.YtldfjlepbbmhnaaDoor.Tb (Tab TabAt Bnds)
set_option maxRecDepth 20000

theorem NBk.sets {w : World} {b n : Nat} {g : Nat → Int} (h : NBk w b n g) (l : List Int) (hl : l.length ≤ n) : NBk (w.setCells b 0 (nums l)) b n (fun i => (l[i]?).getD (g i)) := by
  have hn : (nums l).length = l.length := by simp [nums]
  have hin := World.cell?_setCells_in b (nums l) 0 w (fun j hj => by rw [Nat.zero_add, h.c j (by omega)]; rfl)
  have out : ∀ j, (j < 0 ∨ 0 + l.length ≤ j) → (w.setCells b 0 (nums l)).cell? ⟨b, j, none⟩ = w.cell? ⟨b, j, none⟩ := fun j hj => World.cell?_setCells_out b (nums l) 0 w ⟨b, j, none⟩ (fun _ _ => by rw [hn]; exact hj)
  refine ⟨by rw [size_setCells]; exact h.lt, fun j => by rw [World.frozen?_setCells]; exact h.fz j, fun i hi => ?_⟩
  rcases Nat.lt_or_ge i l.length with h1 | h1
  · have h2 := hin i (by omega)
    rw [Nat.zero_add] at h2
    rw [h2]
    have := nums_get l i h1
    rw [List.getElem?_eq_getElem (by omega)] at this
    rw [this]
    show _ = some (Value.int .i64 ((l[i]?).getD (g i)))
    rw [List.getElem?_eq_getElem h1]; rfl
  · rw [out _ (by omega), h.c i hi]
    show _ = some (Value.int .i64 ((l[i]?).getD (g i)))
    rw [List.getElem?_eq_none h1]; rfl
theorem NBk.new (W : World) (n : Nat) (t : TypeId) : NBk (W.alloc (.cells (madeCells #[.int .i64 0] n) t)) W.heap.size n (fun _ => 0) := by
  have h := At.new W (madeCells #[.int .i64 0] n) t
  refine ⟨h.lt, h.f, fun k hk => h.c k _ ?_⟩
  rw [← Array.getElem?_toList, toList_madeCells_one]
  simp [hk]
theorem step_make_row (w : World) {ops : Array Oper} {o : Oper} {a : Act} {K : Act → World → Prop} {Q : Exit → Act → World → Prop} {E : Prop} (hgd : o.guard = none) (l c : Operand) (ho : o.op = .makeSlice 26 l c) (n : Nat) (hl : a.eval l = .int .i64 (n : Int)) (hc : a.eval c = .int .i64 (n : Int)) (hn : n ≤ 1000000) (q : Nat) (hq : w.heap.size = q)
    (h : K (a.put o.dst (.slice (some ⟨q, 0, none⟩) n n)) (w.alloc (.cells (madeCells #[.int .i64 0] n) 2))) :
    if Region.wanted o (yielded ops a.tmps) = true then Oper.wp Tryd.prog o a w K Q else E := by
  rw [if_pos (by simp [Region.wanted, hgd])]
  have hrun := run_make_row' (P := Tryd.prog) 26 2 (.int .i64 0) 8 Tryd.underlying26 info2b rfl .i64 .i64 n (by omega) (by omega) w
  subst hq
  unfold Oper.wp
  simp [execOp, ho, hl, hc, hrun, Result.andThen]
  exact h
theorem NBk.up {w w' : World} {b n : Nat} {g : Nat → Int} (h : NBk w b n g) (hb : Below w.heap.size w w') : NBk w' b n g := h.fr (Fr.of (X := Non) hb) fun e => e
section
variable {w W : World} {t : Tab}
/-- The new machine's parts. -/
def nwH (q rb ub : Nat) (a : Option Addr) (c : Nat) : Rx := ⟨q, a, c, rb, ub, .slice none 0 0, .slice none 0 0, .slice none 0 0⟩
theorem rc_new {q rb ub n c : Nat} {a : Option Addr} (h : At W q #[.slice a n c, .int .i64 (t.u 0), .int .i64 (t.u 1), .int .i64 (t.u 2), .int .i64 (t.u 3), .int .i64 (t.l 0), .int .i64 (t.l 1), .int .i64 (t.l 2), .int .i64 (t.l 3), .int .i64 (t.b 0), .int .i64 (t.b 1), .int .i64 (t.b 2), .int .i64 (t.b 3), .int .i64 t.d, .slice (some ⟨rb, 0, none⟩) 32 32, .slice (some ⟨ub, 0, none⟩) 256 256, .int .i64 0, .int .i64 0, .int .i64 0, .slice none 0 0, .slice none 0 0, .bool false, .int .i64 0, .int .i64 0, .slice none 0 0, .bool false, .slice none 0 0]) : RC W t n (nwH q rb ub a c) (newR [] []) :=
  ⟨h.lt, h.f, h.c 0 _ rfl, fun k hk => by
    match k, hk with
    | 0, _ => exact h.c 1 _ rfl
    | 1, _ => exact h.c 2 _ rfl
    | 2, _ => exact h.c 3 _ rfl
    | 3, _ => exact h.c 4 _ rfl, fun k hk => by
    match k, hk with
    | 0, _ => exact h.c 5 _ rfl
    | 1, _ => exact h.c 6 _ rfl
    | 2, _ => exact h.c 7 _ rfl
    | 3, _ => exact h.c 8 _ rfl, fun k hk => by
    match k, hk with
    | 0, _ => exact h.c 9 _ rfl
    | 1, _ => exact h.c 10 _ rfl
    | 2, _ => exact h.c 11 _ rfl
    | 3, _ => exact h.c 12 _ rfl, h.c 13 _ rfl, h.c 14 _ rfl, h.c 15 _ rfl, h.c 16 _ rfl, h.c 17 _ rfl, h.c 18 _ rfl, h.c 19 _ rfl, h.c 20 _ rfl, h.c 21 _ rfl, h.c 22 _ rfl, h.c 23 _ rfl, h.c 24 _ rfl, h.c 25 _ rfl, h.c 26 _ rfl⟩
/-- A machine that is being made. -/
structure Nw (w1 W : World) (t : Tab) (n q rb ub : Nat) (a : Option Addr) (c : Nat) (rs ms : List Int) : Prop where
  c : RC W t n (nwH q rb ub a c) (newR [] [])
  rr : NBk W rb 32 (fun i => (rs[i]?).getD 0)
  mm : NBk W ub 256 (fun i => (ms[i]?).getD 0)
  lq : w1.heap.size ≤ q
  lr : w1.heap.size ≤ rb
  lu : w1.heap.size ≤ ub
  qr : q ≠ rb
  qu : q ≠ ub
  ru : rb ≠ ub
  up : Below w1.heap.size w1 W
theorem Nw.next {w1 W W' : World} {n q rb ub c : Nat} {a : Option Addr} {rs ms : List Int} (h : Nw w1 W t n q rb ub a c rs ms) (g : Below W.heap.size W W') : Nw w1 W' t n q rb ub a c rs ms := ⟨h.c.fr (Fr.of (X := Non) g) (fun e => e), h.rr.up g, h.mm.up g, h.lq, h.lr, h.lu, h.qr, h.qu, h.ru, h.up.trans (g.mono h.up.size)⟩
theorem Nw.setR {w1 W : World} {n q rb ub c : Nat} {a : Option Addr} {ms : List Int} (h : Nw w1 W t n q rb ub a c [] ms) (l : List Int) (hl : l.length ≤ 32) : Nw w1 (W.setCells rb 0 (nums l)) t n q rb ub a c l ms ∧ Fr (One rb) W (W.setCells rb 0 (nums l)) := by
  have f : Fr (One rb) W (W.setCells rb 0 (nums l)) := fr_setCells (X := One rb) rfl _ _ (Fr.refl _ _)
  refine ⟨⟨h.c.fr f h.qr, ?_, h.mm.fr f (fun e => h.ru e.symm), h.lq, h.lr, h.lu, h.qr, h.qu, h.ru, h.up.trans (f.below h.up.size fun b hb e => by have e : b = rb := e; have := h.lr; omega)⟩, f⟩
  have := h.rr.sets l hl
  simpa using this
theorem Nw.setM {w1 W : World} {n q rb ub c : Nat} {a : Option Addr} {rs : List Int} (h : Nw w1 W t n q rb ub a c rs []) (l : List Int) (hl : l.length ≤ 256) : Nw w1 (W.setCells ub 0 (nums l)) t n q rb ub a c rs l ∧ Fr (One ub) W (W.setCells ub 0 (nums l)) := by
  have f : Fr (One ub) W (W.setCells ub 0 (nums l)) := fr_setCells (X := One ub) rfl _ _ (Fr.refl _ _)
  refine ⟨⟨h.c.fr f h.qu, h.rr.fr f h.ru, ?_, h.lq, h.lr, h.lu, h.qr, h.qu, h.ru, h.up.trans (f.below h.up.size fun b hb e => by have e : b = ub := e; have := h.lu; omega)⟩, f⟩
  have := h.mm.sets l hl
  simpa using this
theorem rown_new {q rb ub c b : Nat} {a : Option Addr} (e : rown (nwH q rb ub a c) b) : b = q ∨ b = rb ∨ b = ub := by
  obtain ⟨i, hi, e⟩ := e
  rcases (by omega : i = 0 ∨ i = 1 ∨ i = 2 ∨ i = 3 ∨ i = 4 ∨ i = 5) with rfl | rfl | rfl | rfl | rfl | rfl
  · exact .inl (Option.some.inj e).symm
  · exact .inr (.inl (Option.some.inj e).symm)
  · exact .inr (.inr (Option.some.inj e).symm)
  · cases e
  · cases e
  · cases e
theorem rch_new {w1 W : World} {bs : List Bn} {q rb ub c : Nat} {a : Option Addr} {rs ms : List Int} (h : Nw w1 W t bs.length q rb ub a c rs ms) (hB : ∀ V, Below w1.heap.size w1 V → BsAt V a bs) : Rch W t bs (nwH q rb ub a c) (newR rs ms) := by
  have k := h.c
  refine ⟨⟨k.lt, k.fz, k.b, k.tu, k.tl, k.tb, k.td, k.rs, k.ms, k.a, k.c, k.s, k.fl, k.tn, k.en, k.e, k.v, k.p, k.lg, k.dn⟩, h.rr, h.mm, World.ownsRow_nil _ _ _ _, World.ownsRow_nil _ _ _ _, World.ownsRow_nil _ _ _ _, fun i hi j hj hij b e1 e2 => ?_, fun V hV => hB V (h.up.trans (hV.below h.up.size fun b hb e => ?_))⟩
  · rcases (by omega : i = 0 ∨ i = 1 ∨ i = 2 ∨ i = 3 ∨ i = 4 ∨ i = 5) with rfl | rfl | rfl | rfl | rfl | rfl
    all_goals first
      | (cases e1; done)
      | (rcases (by omega : j = 0 ∨ j = 1 ∨ j = 2 ∨ j = 3 ∨ j = 4 ∨ j = 5) with rfl | rfl | rfl | rfl | rfl | rfl
         all_goals first
           | (cases e2; done)
           | exact absurd rfl hij
           | (have e1 := Option.some.inj e1; have e2 := Option.some.inj e2; first | exact h.qr (e1.trans e2.symm) | exact h.qr (e2.trans e1.symm) | exact h.qu (e1.trans e2.symm) | exact h.qu (e2.trans e1.symm) | exact h.ru (e1.trans e2.symm) | exact h.ru (e2.trans e1.symm)))
  · have h1 := h.lq
    have h2 := h.lr
    have h3 := h.lu
    rcases rown_new e with e | e | e <;> omega
end
set_option maxHeartbeats 2000000 in
theorem rnew_no (ao ra ma : Option Addr) (n cap rl rc ml mc : Nat) (v : Nat → Int) (t : Tab) (w : World) (hx : Ws w ao n v) (hc : n ≤ cap) (hn : n ≤ 17592186044416) (h : deE t v n ≠ 0) :
    Calls Tryd.prog 8 #[.slice ao n cap, t.val, .agg #[.slice ra rl rc, .slice ma ml mc]] w fun e w' => e = .returned (.tuple #[.pointer none, .int .i64 (deE t v n)]) ∧ Below w.heap.size w w' := by
  have HD : Hid (∀ W, Below w.heap.size w W → Calls Tryd.prog 26 #[.slice ao n cap, t.val] W fun e w' => ∃ a c, e = .returned (.tuple #[.slice a (LD t v n).length c, .int .i64 (deE t v n)]) ∧ Below W.heap.size W w') := fun W hb => (rdec_uni ao n cap v t W (hx.below hb) hc hn).mono fun e w' ⟨a, c, h1, _, h3⟩ => ⟨a, c, h1, h3⟩
  have hb0 : (deE t v n == 0) = false := by simpa using h
  clear hx hc hn h
  unfold Tab.val at *
  generalize deE t v n = E at *
  generalize (LD t v n).length = nl at *
  go_enter Tryd.func8, Tryd.ntmps8
  go_wp2_with (first
    | (go_at_call 26; refine Calls.mono (HD.out _ (by go_grown)) ?_; rintro e w1 ⟨a, c, rfl, hb⟩; have HB : Hid (Below w.heap.size w w1) := (by go_grown : Below w.heap.size w ((w.alloc (.cells t.cells 25)).alloc (.cells #[.slice ra rl rc, .slice ma ml mc] 28))).trans (hb.mono (by simp; omega)); clear hb))
  go_ret2
  exact ⟨rfl, HB.out⟩
set_option maxHeartbeats 2000000 in
theorem rnew_long (ao ra ma : Option Addr) (n cap rl rc ml mc : Nat) (v : Nat → Int) (t : Tab) (w : World) (hx : Ws w ao n v) (hc : n ≤ cap) (hn : n ≤ 17592186044416) (h : deE t v n = 0) (hl : 32 < rl ∨ 256 < ml) :
    Calls Tryd.prog 8 #[.slice ao n cap, t.val, .agg #[.slice ra rl rc, .slice ma ml mc]] w fun e w' => e = .returned (.tuple #[.pointer none, .int .i64 2]) ∧ Below w.heap.size w w' := by
  have HD : Hid (Calls Tryd.prog 26 #[.slice ao n cap, t.val] ((w.alloc (.cells t.cells 25)).alloc (.cells #[.slice ra rl rc, .slice ma ml mc] 28)) fun e w' => ∃ a c, e = .returned (.tuple #[.slice a (LD t v n).length c, .int .i64 0]) ∧ At w' (w.heap.size + 1) #[.slice ra rl rc, .slice ma ml mc] ∧ Below w.heap.size w w') := by
    have hb : Below w.heap.size w ((w.alloc (.cells t.cells 25)).alloc (.cells #[.slice ra rl rc, .slice ma ml mc] 28)) := by go_grown
    refine (rdec_uni ao n cap v t _ (hx.below hb) hc hn).mono ?_
    rintro e w1 ⟨a, c, rfl, -, h4⟩
    obtain ⟨-, a2, hb2, -, -⟩ := two_new w t.cells #[.slice ra rl rc, .slice ma ml mc] 25 28 h4
    exact ⟨a, c, by rw [h], a2, hb2⟩
  clear hx hc hn h
  unfold Tab.val at *
  generalize (LD t v n).length = nl at *
  by_cases h1 : 32 < rl
  · have i1 : (32 : Int) < (rl : Int) := by omega
    clear hl
    go_enter Tryd.func8, Tryd.ntmps8
    go_wp2_with (first
      | (go_at_call 26; refine Calls.mono HD.out ?_; rintro e w1 ⟨a, c, rfl, hs, hb⟩; have HB : Hid (Below w.heap.size w w1) := hb; have s0 := hs.c 0 _ rfl; have s1 := hs.c 1 _ rfl; have sl := hs.lt; clear hb hs))
    go_ret2
    exact ⟨rfl, HB.out⟩
  · have i1 : ¬ (32 : Int) < (rl : Int) := by omega
    have i2 : (256 : Int) < (ml : Int) := by omega
    clear hl
    go_enter Tryd.func8, Tryd.ntmps8
    go_wp2_with (first
      | (go_at_call 26; refine Calls.mono HD.out ?_; rintro e w1 ⟨a, c, rfl, hs, hb⟩; have HB : Hid (Below w.heap.size w w1) := hb; have s0 := hs.c 0 _ rfl; have s1 := hs.c 1 _ rfl; have sl := hs.lt; clear hb hs))
    go_ret2
    exact ⟨rfl, HB.out⟩
set_option maxHeartbeats 8000000 in
theorem rnew_ok (ao ra ma : Option Addr) (n cap rc mc : Nat) (v : Nat → Int) (t : Tab) (rs ms : List Int) (w : World) (hx : Ws w ao n v) (hc : n ≤ cap) (hn : n ≤ 17592186044416) (h : deE t v n = 0) (hr : NL w ra rs) (hm : NL w ma ms) (h32 : rs.length ≤ 32) (h256 : ms.length ≤ 256) (ls : List Bn) (hls : LD t v n = ls) :
    Calls Tryd.prog 8 #[.slice ao n cap, t.val, .agg #[.slice ra rs.length rc, .slice ma ms.length mc]] w fun e w' => ∃ q rb ub a c x0, e = .returned (.tuple #[ptr q, .int .i64 0]) ∧ Rch w' t ls (nwH q rb ub a c) (newR rs ms) ∧ Below w.heap.size w w' ∧ w.heap.size ≤ x0 ∧ x0 ≤ w'.heap.size ∧ (∀ b, rown (nwH q rb ub a c) b → x0 ≤ b) ∧ (∀ V, Fr (fun b => x0 ≤ b) w' V → BsAt V a ls) := by
  have HB0 : Hid (Bx w ((w.alloc (.cells t.cells 25)).alloc (.cells #[.slice ra rs.length rc, .slice ma ms.length mc] 28)) t ra ma rs.length rc ms.length mc) := by
    obtain ⟨-, a2, hb, -, -⟩ := two_new w t.cells #[.slice ra rs.length rc, .slice ma ms.length mc] 25 28 (Below.refl _ _)
    exact ⟨(_root_.Go.Proofs.YtldfjlepbbmhnaaDoor.Tb.tabAt_new w t 25).below (B := (w.alloc (.cells t.cells 25)).heap.size) ((Below.refl _ _).alloc (Nat.le_refl _) _) (by simp), a2, hb⟩
  have HD : Hid (Calls Tryd.prog 26 #[.slice ao n cap, .agg #[.int .i64 (t.u 0), .int .i64 (t.u 1), .int .i64 (t.u 2), .int .i64 (t.u 3), .int .i64 (t.l 0), .int .i64 (t.l 1), .int .i64 (t.l 2), .int .i64 (t.l 3), .int .i64 (t.b 0), .int .i64 (t.b 1), .int .i64 (t.b 2), .int .i64 (t.b 3), .int .i64 t.d]] ((w.alloc (.cells t.cells 25)).alloc (.cells #[.slice ra rs.length rc, .slice ma ms.length mc] 28)) fun e w' => ∃ a c, e = .returned (.tuple #[.slice a ls.length c, .int .i64 0]) ∧ BsAt w' a ls ∧ Below ((w.alloc (.cells t.cells 25)).alloc (.cells #[.slice ra rs.length rc, .slice ma ms.length mc] 28)).heap.size ((w.alloc (.cells t.cells 25)).alloc (.cells #[.slice ra rs.length rc, .slice ma ms.length mc] 28)) w') := by
    have := rdec_uni ao n cap v t ((w.alloc (.cells t.cells 25)).alloc (.cells #[.slice ra rs.length rc, .slice ma ms.length mc] 28)) (hx.below HB0.out.b) hc hn
    rw [hls, h] at this
    exact this
  have HSn : Hid (NL w ra rs ∧ NL w ma ms) := ⟨hr, hm⟩
  have H32 : Hid (rs.length ≤ 32 ∧ ms.length ≤ 256) := ⟨h32, h256⟩
  have hi32 : ¬ (32 : Int) < (rs.length : Int) := by omega
  have hi256 : ¬ (256 : Int) < (ms.length : Int) := by omega
  have HCr : Hid (∀ (ty : TypeId) (q : Nat) (W : World), NL W ra rs → NBk W q 32 (fun _ => 0) → (Builtin.copy_ #[26, 26] ty #[.slice (some ⟨q, 0, none⟩) 32 32, .slice ra rs.length rc]).run Tryd.prog W = .ok (goInt rs.length) (W.setCells q 0 (nums rs))) := fun ty q W h1 h2 => copy_any q 0 32 32 rc ty ra rs W h32 h1 (fun j hj => by rw [Nat.zero_add, h2.c j (by omega)]; rfl) (fun j => h2.fz _)
  have HCm : Hid (∀ (ty : TypeId) (q : Nat) (W : World), NL W ma ms → NBk W q 256 (fun _ => 0) → (Builtin.copy_ #[26, 26] ty #[.slice (some ⟨q, 0, none⟩) 256 256, .slice ma ms.length mc]).run Tryd.prog W = .ok (goInt ms.length) (W.setCells q 0 (nums ms))) := fun ty q W h1 h2 => copy_any q 0 256 256 mc ty ma ms W h256 h1 (fun j hj => by rw [Nat.zero_add, h2.c j (by omega)]; rfl) (fun j => h2.fz _)
  clear h hx hc hn hr hm h32 h256 hls
  unfold Tab.val
  obtain ⟨rl, hrl⟩ : ∃ rl, rs.length = rl := ⟨_, rfl⟩
  obtain ⟨ml, hml⟩ : ∃ ml, ms.length = ml := ⟨_, rfl⟩
  rw [hrl, hml] at HB0 HD
  rw [hrl] at HCr hi32
  rw [hml] at HCm hi256
  rw [hrl, hml] at H32 ⊢
  have HRL : Hid (rs.length = rl ∧ ms.length = ml) := ⟨hrl, hml⟩
  clear hrl hml
  go_enter Tryd.func8, Tryd.ntmps8
  go_upto_region 6 with (first | (go_at_call 26; refine Calls.mono HD.out ?_; rintro e w1 ⟨a, cc, rfl, hbs, hb⟩; have HB1 : Hid (Bx w w1 t ra ma rl rc ml mc ∧ BsAt w1 a ls) := ⟨HB0.out.up hb, hbs⟩; have s0 := HB1.out.1.s.c 0 _ rfl; have s1 := HB1.out.1.s.c 1 _ rfl; have sl := HB1.out.1.s.lt; clear hb hbs HB0 HD))
  clear s0 s1 sl
  have HT : Hid (∀ V, Below w1.heap.size w1 V → TabAt V w.heap.size t) := fun V hV => HB1.out.1.p.below hV HB1.out.1.p.lt
  have hwl : w.heap.size < w1.heap.size := HB1.out.1.p.lt
  go_cut [10] (fun v wc => ∃ q rb ub, v = ptr q ∧ Hid (Nw w1 wc t ls.length q rb ub a cc [] []))
  case first =>
    refine wp_region_held_drew (S := fun V => Below w1.heap.size w1 V) (by kernel_rfl) (drew_up _) (fun hHeld => ?_)
    refine wpAnyH_take (i := 0) (v := .slice a ls.length cc) rfl (by kernel_rfl) (by kernel_rfl) (by kernel_rfl) (fun _ _ _ h => h) (Or.inl ⟨by rfl, fun w' hSw => by (go_simp)⟩) hHeld ?_
    simp only [Act.put, List.setIfInBounds_toArray, List.set_cons_zero, List.set_cons_succ, List.getElem_cons_zero, List.getElem_toArray]
    refine wpAnyH_take (i := 1) (v := .agg #[.int .i64 (t.u 0), .int .i64 (t.u 1), .int .i64 (t.u 2), .int .i64 (t.u 3), .int .i64 (t.l 0), .int .i64 (t.l 1), .int .i64 (t.l 2), .int .i64 (t.l 3), .int .i64 (t.b 0), .int .i64 (t.b 1), .int .i64 (t.b 2), .int .i64 (t.b 3), .int .i64 t.d]) rfl (by kernel_rfl) (by kernel_rfl) (by kernel_rfl) (fun _ _ _ h => h) (Or.inl ⟨by rfl, fun w' hSw => by (have k2 := HT.out w' hSw; have qu0 := k2.cu 0 (by decide); have qu1 := k2.cu 1 (by decide); have qu2 := k2.cu 2 (by decide); have qu3 := k2.cu 3 (by decide); have ql0 := k2.cl 0 (by decide); have ql1 := k2.cl 1 (by decide); have ql2 := k2.cl 2 (by decide); have ql3 := k2.cl 3 (by decide); have qb0 := k2.cb 0 (by decide); have qb1 := k2.cb 1 (by decide); have qb2 := k2.cb 2 (by decide); have qb3 := k2.cb 3 (by decide); have qd := k2.cd; have qz := k2.lt; clear k2; go_simp)⟩) hHeld ?_
    simp only [Act.put, List.setIfInBounds_toArray, List.set_cons_zero, List.set_cons_succ, List.getElem_cons_zero, List.getElem_cons_succ, List.getElem_toArray]
    refine wpAnyH_ready (rs := [2, 3]) (by kernel_rfl) (by simp) ?_
    refine AllReadyH.cons rfl (fun K hK => ?_) (AllReadyH.cons rfl (fun K hK => ?_) AllReadyH.nil)
    · refine step_make_row _ (by rfl) _ _ (by rfl) 32 (by rfl) (by rfl) (by decide) w1.heap.size rfl ?_
      refine hK.out _ _ (((Below.refl _ w1).drew).alloc (Nat.le_refl _) _) (fun hHeld => ?_)
      clear hK K
      refine wpAnyH_ready (rs := [3]) (by kernel_rfl) (by simp) ?_
      refine AllReadyH.cons rfl (fun K hK => ?_) AllReadyH.nil
      have hz1 : (w1.drew.alloc (.cells (madeCells #[.int .i64 0] 32) 2)).heap.size = w1.heap.size + 1 := by rw [World.size_alloc]; rfl
      refine step_make_row _ (by rfl) _ _ (by rfl) 256 (by rfl) (by rfl) (by decide) (w1.heap.size + 1) hz1 ?_
      have HB2 : Hid (NBk ((w1.drew.alloc (.cells (madeCells #[.int .i64 0] 32) 2)).alloc (.cells (madeCells #[.int .i64 0] 256) 2)) w1.heap.size 32 (fun _ => 0) ∧ NBk ((w1.drew.alloc (.cells (madeCells #[.int .i64 0] 32) 2)).alloc (.cells (madeCells #[.int .i64 0] 256) 2)) (w1.heap.size + 1) 256 (fun _ => 0) ∧ Below w1.heap.size w1 ((w1.drew.alloc (.cells (madeCells #[.int .i64 0] 32) 2)).alloc (.cells (madeCells #[.int .i64 0] 256) 2)) ∧ ((w1.drew.alloc (.cells (madeCells #[.int .i64 0] 32) 2)).alloc (.cells (madeCells #[.int .i64 0] 256) 2)).heap.size = w1.heap.size + 2) := by
        have g1 : Below (w1.drew.alloc (.cells (madeCells #[.int .i64 0] 32) 2)).heap.size (w1.drew.alloc (.cells (madeCells #[.int .i64 0] 32) 2)) ((w1.drew.alloc (.cells (madeCells #[.int .i64 0] 32) 2)).alloc (.cells (madeCells #[.int .i64 0] 256) 2)) := (Below.refl _ _).alloc (Nat.le_refl _) _
        have n2 := NBk.new (w1.drew.alloc (.cells (madeCells #[.int .i64 0] 32) 2)) 256 2
        rw [hz1] at n2
        exact ⟨(NBk.new w1.drew 32 2).up g1, n2, (((Below.refl _ w1).drew).alloc (Nat.le_refl _) _).trans (g1.mono (by rw [World.size_alloc]; exact Nat.le_succ _)), by rw [World.size_alloc, hz1]⟩
      refine hK.out _ _ HB2.out.2.2.1 (fun hHeld => ?_)
      clear hK K
      generalize ((w1.drew.alloc (.cells (madeCells #[.int .i64 0] 32) 2)).alloc (.cells (madeCells #[.int .i64 0] 256) 2)) = Y at *
      refine wpAnyH_take (i := 4) (v := .agg #[.slice a ls.length cc, .int .i64 (t.u 0), .int .i64 (t.u 1), .int .i64 (t.u 2), .int .i64 (t.u 3), .int .i64 (t.l 0), .int .i64 (t.l 1), .int .i64 (t.l 2), .int .i64 (t.l 3), .int .i64 (t.b 0), .int .i64 (t.b 1), .int .i64 (t.b 2), .int .i64 (t.b 3), .int .i64 t.d, .slice (some ⟨w1.heap.size, 0, none⟩) 32 32, .slice (some ⟨(w1.heap.size + 1), 0, none⟩) 256 256, .int .i64 0, .int .i64 0, .int .i64 0, .slice none 0 0, .slice none 0 0, .bool false, .int .i64 0, .int .i64 0, .slice none 0 0, .bool false, .slice none 0 0]) rfl (by kernel_rfl) (by kernel_rfl) (by kernel_rfl) (fun _ _ _ h => h) (Or.inl ⟨by rfl, fun w' hSw => by (go_simp)⟩) hHeld ?_
      simp only [Act.put, List.setIfInBounds_toArray, List.set_cons_zero, List.set_cons_succ, List.getElem_cons_zero, List.getElem_cons_succ, List.getElem_toArray]
      refine wpAnyH_ready (rs := [5]) (by kernel_rfl) (by simp) ?_
      refine AllReadyH.cons rfl (fun K hK => ?_) AllReadyH.nil
      go_simp
      have hb5 : Below Y.heap.size Y (Y.alloc (.cells #[.slice a ls.length cc, .int .i64 (t.u 0), .int .i64 (t.u 1), .int .i64 (t.u 2), .int .i64 (t.u 3), .int .i64 (t.l 0), .int .i64 (t.l 1), .int .i64 (t.l 2), .int .i64 (t.l 3), .int .i64 (t.b 0), .int .i64 (t.b 1), .int .i64 (t.b 2), .int .i64 (t.b 3), .int .i64 t.d, .slice (some ⟨w1.heap.size, 0, none⟩) 32 32, .slice (some ⟨(w1.heap.size + 1), 0, none⟩) 256 256, .int .i64 0, .int .i64 0, .int .i64 0, .slice none 0 0, .slice none 0 0, .bool false, .int .i64 0, .int .i64 0, .slice none 0 0, .bool false, .slice none 0 0] 79)) := (Below.refl _ _).alloc (Nat.le_refl _) _
      have HN : Hid (Nw w1 (Y.alloc (.cells #[.slice a ls.length cc, .int .i64 (t.u 0), .int .i64 (t.u 1), .int .i64 (t.u 2), .int .i64 (t.u 3), .int .i64 (t.l 0), .int .i64 (t.l 1), .int .i64 (t.l 2), .int .i64 (t.l 3), .int .i64 (t.b 0), .int .i64 (t.b 1), .int .i64 (t.b 2), .int .i64 (t.b 3), .int .i64 t.d, .slice (some ⟨w1.heap.size, 0, none⟩) 32 32, .slice (some ⟨(w1.heap.size + 1), 0, none⟩) 256 256, .int .i64 0, .int .i64 0, .int .i64 0, .slice none 0 0, .slice none 0 0, .bool false, .int .i64 0, .int .i64 0, .slice none 0 0, .bool false, .slice none 0 0] 79)) t ls.length Y.heap.size w1.heap.size (w1.heap.size + 1) a cc [] []) := ⟨rc_new (At.new Y _ 79), HB2.out.1.up hb5, HB2.out.2.1.up hb5, by rw [HB2.out.2.2.2]; omega, by omega, by omega, by rw [HB2.out.2.2.2]; omega, by rw [HB2.out.2.2.2]; omega, by omega, HB2.out.2.2.1.trans (hb5.mono HB2.out.2.2.1.size)⟩
      refine hK.out _ _ HN.out.up (fun hHeld => ?_)
      clear hK K
      refine wpAnyH_take (i := 6) (v := .pointer (some ⟨Y.heap.size, 0, none⟩)) rfl (by kernel_rfl) (by kernel_rfl) (by kernel_rfl) (fun _ _ _ h => h) (Or.inl ⟨by rfl, fun w' hSw => by (go_simp)⟩) hHeld ?_
      simp only [Act.put, List.setIfInBounds_toArray, List.set_cons_zero, List.set_cons_succ, List.getElem_cons_zero, List.getElem_cons_succ, List.getElem_toArray]
      refine wpAnyH_done (by kernel_rfl) ?_ _
      clear hHeld HB2 hb5
      go_wp2_with fail
      go_meet
      exact ⟨_, _, _, rfl, HN⟩
    · refine step_make_row _ (by rfl) _ _ (by rfl) 256 (by rfl) (by rfl) (by decide) w1.heap.size rfl ?_
      refine hK.out _ _ (((Below.refl _ w1).drew).alloc (Nat.le_refl _) _) (fun hHeld => ?_)
      clear hK K
      refine wpAnyH_ready (rs := [2]) (by kernel_rfl) (by simp) ?_
      refine AllReadyH.cons rfl (fun K hK => ?_) AllReadyH.nil
      have hz1 : (w1.drew.alloc (.cells (madeCells #[.int .i64 0] 256) 2)).heap.size = w1.heap.size + 1 := by rw [World.size_alloc]; rfl
      refine step_make_row _ (by rfl) _ _ (by rfl) 32 (by rfl) (by rfl) (by decide) (w1.heap.size + 1) hz1 ?_
      have HB2 : Hid (NBk ((w1.drew.alloc (.cells (madeCells #[.int .i64 0] 256) 2)).alloc (.cells (madeCells #[.int .i64 0] 32) 2)) w1.heap.size 256 (fun _ => 0) ∧ NBk ((w1.drew.alloc (.cells (madeCells #[.int .i64 0] 256) 2)).alloc (.cells (madeCells #[.int .i64 0] 32) 2)) (w1.heap.size + 1) 32 (fun _ => 0) ∧ Below w1.heap.size w1 ((w1.drew.alloc (.cells (madeCells #[.int .i64 0] 256) 2)).alloc (.cells (madeCells #[.int .i64 0] 32) 2)) ∧ ((w1.drew.alloc (.cells (madeCells #[.int .i64 0] 256) 2)).alloc (.cells (madeCells #[.int .i64 0] 32) 2)).heap.size = w1.heap.size + 2) := by
        have g1 : Below (w1.drew.alloc (.cells (madeCells #[.int .i64 0] 256) 2)).heap.size (w1.drew.alloc (.cells (madeCells #[.int .i64 0] 256) 2)) ((w1.drew.alloc (.cells (madeCells #[.int .i64 0] 256) 2)).alloc (.cells (madeCells #[.int .i64 0] 32) 2)) := (Below.refl _ _).alloc (Nat.le_refl _) _
        have n2 := NBk.new (w1.drew.alloc (.cells (madeCells #[.int .i64 0] 256) 2)) 32 2
        rw [hz1] at n2
        exact ⟨(NBk.new w1.drew 256 2).up g1, n2, (((Below.refl _ w1).drew).alloc (Nat.le_refl _) _).trans (g1.mono (by rw [World.size_alloc]; exact Nat.le_succ _)), by rw [World.size_alloc, hz1]⟩
      refine hK.out _ _ HB2.out.2.2.1 (fun hHeld => ?_)
      clear hK K
      generalize ((w1.drew.alloc (.cells (madeCells #[.int .i64 0] 256) 2)).alloc (.cells (madeCells #[.int .i64 0] 32) 2)) = Y at *
      refine wpAnyH_take (i := 4) (v := .agg #[.slice a ls.length cc, .int .i64 (t.u 0), .int .i64 (t.u 1), .int .i64 (t.u 2), .int .i64 (t.u 3), .int .i64 (t.l 0), .int .i64 (t.l 1), .int .i64 (t.l 2), .int .i64 (t.l 3), .int .i64 (t.b 0), .int .i64 (t.b 1), .int .i64 (t.b 2), .int .i64 (t.b 3), .int .i64 t.d, .slice (some ⟨(w1.heap.size + 1), 0, none⟩) 32 32, .slice (some ⟨w1.heap.size, 0, none⟩) 256 256, .int .i64 0, .int .i64 0, .int .i64 0, .slice none 0 0, .slice none 0 0, .bool false, .int .i64 0, .int .i64 0, .slice none 0 0, .bool false, .slice none 0 0]) rfl (by kernel_rfl) (by kernel_rfl) (by kernel_rfl) (fun _ _ _ h => h) (Or.inl ⟨by rfl, fun w' hSw => by (go_simp)⟩) hHeld ?_
      simp only [Act.put, List.setIfInBounds_toArray, List.set_cons_zero, List.set_cons_succ, List.getElem_cons_zero, List.getElem_cons_succ, List.getElem_toArray]
      refine wpAnyH_ready (rs := [5]) (by kernel_rfl) (by simp) ?_
      refine AllReadyH.cons rfl (fun K hK => ?_) AllReadyH.nil
      go_simp
      have hb5 : Below Y.heap.size Y (Y.alloc (.cells #[.slice a ls.length cc, .int .i64 (t.u 0), .int .i64 (t.u 1), .int .i64 (t.u 2), .int .i64 (t.u 3), .int .i64 (t.l 0), .int .i64 (t.l 1), .int .i64 (t.l 2), .int .i64 (t.l 3), .int .i64 (t.b 0), .int .i64 (t.b 1), .int .i64 (t.b 2), .int .i64 (t.b 3), .int .i64 t.d, .slice (some ⟨(w1.heap.size + 1), 0, none⟩) 32 32, .slice (some ⟨w1.heap.size, 0, none⟩) 256 256, .int .i64 0, .int .i64 0, .int .i64 0, .slice none 0 0, .slice none 0 0, .bool false, .int .i64 0, .int .i64 0, .slice none 0 0, .bool false, .slice none 0 0] 79)) := (Below.refl _ _).alloc (Nat.le_refl _) _
      have HN : Hid (Nw w1 (Y.alloc (.cells #[.slice a ls.length cc, .int .i64 (t.u 0), .int .i64 (t.u 1), .int .i64 (t.u 2), .int .i64 (t.u 3), .int .i64 (t.l 0), .int .i64 (t.l 1), .int .i64 (t.l 2), .int .i64 (t.l 3), .int .i64 (t.b 0), .int .i64 (t.b 1), .int .i64 (t.b 2), .int .i64 (t.b 3), .int .i64 t.d, .slice (some ⟨(w1.heap.size + 1), 0, none⟩) 32 32, .slice (some ⟨w1.heap.size, 0, none⟩) 256 256, .int .i64 0, .int .i64 0, .int .i64 0, .slice none 0 0, .slice none 0 0, .bool false, .int .i64 0, .int .i64 0, .slice none 0 0, .bool false, .slice none 0 0] 79)) t ls.length Y.heap.size (w1.heap.size + 1) w1.heap.size a cc [] []) := ⟨rc_new (At.new Y _ 79), HB2.out.2.1.up hb5, HB2.out.1.up hb5, by rw [HB2.out.2.2.2]; omega, by omega, by omega, by rw [HB2.out.2.2.2]; omega, by rw [HB2.out.2.2.2]; omega, by omega, HB2.out.2.2.1.trans (hb5.mono HB2.out.2.2.1.size)⟩
      refine hK.out _ _ HN.out.up (fun hHeld => ?_)
      clear hK K
      refine wpAnyH_take (i := 6) (v := .pointer (some ⟨Y.heap.size, 0, none⟩)) rfl (by kernel_rfl) (by kernel_rfl) (by kernel_rfl) (fun _ _ _ h => h) (Or.inl ⟨by rfl, fun w' hSw => by (go_simp)⟩) hHeld ?_
      simp only [Act.put, List.setIfInBounds_toArray, List.set_cons_zero, List.set_cons_succ, List.getElem_cons_zero, List.getElem_cons_succ, List.getElem_toArray]
      refine wpAnyH_done (by kernel_rfl) ?_ _
      clear hHeld HB2 hb5
      go_wp2_with fail
      go_meet
      exact ⟨_, _, _, rfl, HN⟩
  case rest =>
    obtain ⟨q, rb, ub, rfl, HN⟩ := hcut
    have HS0 : Hid (∀ V, Below w1.heap.size w1 V → At V (w.heap.size + 1) #[.slice ra rl rc, .slice ma ml mc] ∧ NL V ra rs ∧ NL V ma ms ∧ Below w.heap.size w V) := fun V hV => by
      have hb := HB1.out.1.up hV
      exact ⟨hb.s, HSn.out.1.up hb.b, HSn.out.2.up hb.b, hb.b⟩
    have HBs : Hid (∀ V, Below w1.heap.size w1 V → BsAt V a ls) := fun V hV => HB1.out.2.below hV
    clear HB1 HT HSn
    go_upto_region 7 with fail
    have HNd : Hid (Nw w1 wc.drew t ls.length q rb ub a cc [] []) := HN.out.next (drew_up _)
    refine wp_region_held_drew (S := fun V => V.cell? ⟨q, 14, none⟩ = some (.slice (some ⟨rb, 0, none⟩) 32 32) ∧ q < V.heap.size ∧ V.cell? ⟨w.heap.size + 1, 0, none⟩ = some (.slice ra rl rc) ∧ w.heap.size + 1 < V.heap.size ∧ Below w1.heap.size w1 V) (by kernel_rfl) ⟨HNd.out.c.rs, HNd.out.c.lt, (HS0.out _ HNd.out.up).1.c 0 _ rfl, (HS0.out _ HNd.out.up).1.lt, HNd.out.up⟩ (fun hHeld => ?_)
    refine wpAnyH_take (i := 0) (v := .pointer (some ⟨q, 0, none⟩)) rfl (by kernel_rfl) (by kernel_rfl) (by kernel_rfl) (fun _ _ _ h => h) (Or.inl ⟨by rfl, fun w' hSw => by (go_simp)⟩) hHeld ?_
    simp only [Act.put, List.setIfInBounds_toArray, List.set_cons_zero, List.set_cons_succ, List.getElem_cons_zero, List.getElem_toArray]
    refine wpAnyH_take (i := 1) (v := .pointer (some ⟨q, 0, none⟩)) rfl (by kernel_rfl) (by kernel_rfl) (by kernel_rfl) (fun _ _ _ h => h) (Or.inl ⟨by rfl, fun w' hSw => by (go_simp)⟩) hHeld ?_
    simp only [Act.put, List.setIfInBounds_toArray, List.set_cons_zero, List.set_cons_succ, List.getElem_cons_zero, List.getElem_cons_succ, List.getElem_toArray]
    refine wpAnyH_take (i := 2) (v := .pointer (some ⟨q, 14, none⟩)) rfl (by kernel_rfl) (by kernel_rfl) (by kernel_rfl) (fun _ _ _ h => h) (Or.inl ⟨by rfl, fun w' hSw => by (go_simp)⟩) hHeld ?_
    simp only [Act.put, List.setIfInBounds_toArray, List.set_cons_zero, List.set_cons_succ, List.getElem_cons_zero, List.getElem_cons_succ, List.getElem_toArray]
    refine wpAnyH_take (i := 3) (v := .slice (some ⟨rb, 0, none⟩) 32 32) rfl (by kernel_rfl) (by kernel_rfl) (by kernel_rfl) (fun _ _ _ h => h) (Or.inl ⟨by rfl, fun w' hSw => by (have y := hSw.1; have yl := hSw.2.1; go_simp)⟩) hHeld ?_
    simp only [Act.put, List.setIfInBounds_toArray, List.set_cons_zero, List.set_cons_succ, List.getElem_cons_zero, List.getElem_cons_succ, List.getElem_toArray]
    refine wpAnyH_take (i := 4) (v := .pointer (some ⟨w.heap.size + 1, 0, none⟩)) rfl (by kernel_rfl) (by kernel_rfl) (by kernel_rfl) (fun _ _ _ h => h) (Or.inl ⟨by rfl, fun w' hSw => by (go_simp)⟩) hHeld ?_
    simp only [Act.put, List.setIfInBounds_toArray, List.set_cons_zero, List.set_cons_succ, List.getElem_cons_zero, List.getElem_cons_succ, List.getElem_toArray]
    refine wpAnyH_take (i := 5) (v := .slice ra rl rc) rfl (by kernel_rfl) (by kernel_rfl) (by kernel_rfl) (fun _ _ _ h => h) (Or.inl ⟨by rfl, fun w' hSw => by (have y := hSw.2.2.1; have yl := hSw.2.2.2.1; go_simp)⟩) hHeld ?_
    simp only [Act.put, List.setIfInBounds_toArray, List.set_cons_zero, List.set_cons_succ, List.getElem_cons_zero, List.getElem_cons_succ, List.getElem_toArray]
    refine wpAnyH_ready (rs := [6]) (by kernel_rfl) (by simp) ?_
    refine AllReadyH.cons rfl (fun K hK => ?_) AllReadyH.nil
    have HY : Hid (Nw w1 (wc.drew.setCells rb 0 (nums rs)) t ls.length q rb ub a cc rs []) := (HNd.out.setR rs (by rw [HRL.out.1]; exact H32.out.1)).1
    refine Go.Proofs.step_copy_runI rfl (.tmp 39) (.tmp 41) 26 26 rfl (.slice (some ⟨rb, 0, none⟩) 32 32) (.slice ra rl rc) rfl rfl (HCr.out _ rb wc.drew (HS0.out _ HNd.out.up).2.1 (by have := HNd.out.rr; simpa using this)) ?_
    refine hK.out _ _ ⟨HY.out.c.rs, HY.out.c.lt, (HS0.out _ HY.out.up).1.c 0 _ rfl, (HS0.out _ HY.out.up).1.lt, HY.out.up⟩ (fun hHeld => ?_)
    clear hK K HNd
    refine wpAnyH_done (by kernel_rfl) ?_ _
    clear hHeld
    generalize (wc.drew.setCells rb 0 (nums rs)) = Y at *
    go_upto_region 8 with fail
    have HYd : Hid (Nw w1 Y.drew t ls.length q rb ub a cc rs []) := HY.out.next (drew_up _)
    refine wp_region_held_drew (S := fun V => V.cell? ⟨q, 15, none⟩ = some (.slice (some ⟨ub, 0, none⟩) 256 256) ∧ q < V.heap.size ∧ V.cell? ⟨w.heap.size + 1, 1, none⟩ = some (.slice ma ml mc) ∧ w.heap.size + 1 < V.heap.size ∧ Below w1.heap.size w1 V) (by kernel_rfl) ⟨HYd.out.c.ms, HYd.out.c.lt, (HS0.out _ HYd.out.up).1.c 1 _ rfl, (HS0.out _ HYd.out.up).1.lt, HYd.out.up⟩ (fun hHeld => ?_)
    refine wpAnyH_take (i := 0) (v := .pointer (some ⟨q, 0, none⟩)) rfl (by kernel_rfl) (by kernel_rfl) (by kernel_rfl) (fun _ _ _ h => h) (Or.inl ⟨by rfl, fun w' hSw => by (go_simp)⟩) hHeld ?_
    simp only [Act.put, List.setIfInBounds_toArray, List.getElem_cons_zero, List.getElem_toArray]
    refine wpAnyH_take (i := 1) (v := .pointer (some ⟨q, 0, none⟩)) rfl (by kernel_rfl) (by kernel_rfl) (by kernel_rfl) (fun _ _ _ h => h) (Or.inl ⟨by rfl, fun w' hSw => by (go_simp)⟩) hHeld ?_
    simp only [Act.put, List.setIfInBounds_toArray, List.set_cons_zero, List.set_cons_succ, List.getElem_cons_zero, List.getElem_cons_succ, List.getElem_toArray]
    refine wpAnyH_take (i := 2) (v := .pointer (some ⟨q, 15, none⟩)) rfl (by kernel_rfl) (by kernel_rfl) (by kernel_rfl) (fun _ _ _ h => h) (Or.inl ⟨by rfl, fun w' hSw => by (go_simp)⟩) hHeld ?_
    simp only [Act.put, List.setIfInBounds_toArray, List.set_cons_zero, List.set_cons_succ, List.getElem_cons_zero, List.getElem_cons_succ, List.getElem_toArray]
    refine wpAnyH_take (i := 3) (v := .slice (some ⟨ub, 0, none⟩) 256 256) rfl (by kernel_rfl) (by kernel_rfl) (by kernel_rfl) (fun _ _ _ h => h) (Or.inl ⟨by rfl, fun w' hSw => by (have y := hSw.1; have yl := hSw.2.1; go_simp)⟩) hHeld ?_
    simp only [Act.put, List.setIfInBounds_toArray, List.set_cons_zero, List.set_cons_succ, List.getElem_cons_zero, List.getElem_cons_succ, List.getElem_toArray]
    refine wpAnyH_take (i := 4) (v := .pointer (some ⟨w.heap.size + 1, 1, none⟩)) rfl (by kernel_rfl) (by kernel_rfl) (by kernel_rfl) (fun _ _ _ h => h) (Or.inl ⟨by rfl, fun w' hSw => by (go_simp)⟩) hHeld ?_
    simp only [Act.put, List.setIfInBounds_toArray, List.set_cons_zero, List.set_cons_succ, List.getElem_cons_zero, List.getElem_cons_succ, List.getElem_toArray]
    refine wpAnyH_take (i := 5) (v := .slice ma ml mc) rfl (by kernel_rfl) (by kernel_rfl) (by kernel_rfl) (fun _ _ _ h => h) (Or.inl ⟨by rfl, fun w' hSw => by (have y := hSw.2.2.1; have yl := hSw.2.2.2.1; go_simp)⟩) hHeld ?_
    simp only [Act.put, List.setIfInBounds_toArray, List.set_cons_zero, List.set_cons_succ, List.getElem_cons_zero, List.getElem_cons_succ, List.getElem_toArray]
    refine wpAnyH_ready (rs := [6]) (by kernel_rfl) (by simp) ?_
    refine AllReadyH.cons rfl (fun K hK => ?_) AllReadyH.nil
    have HZ : Hid (Nw w1 (Y.drew.setCells ub 0 (nums ms)) t ls.length q rb ub a cc rs ms) := (HYd.out.setM ms (by rw [HRL.out.2]; exact H32.out.2)).1
    refine Go.Proofs.step_copy_runI rfl (.tmp 46) (.tmp 48) 26 26 rfl (.slice (some ⟨ub, 0, none⟩) 256 256) (.slice ma ml mc) rfl rfl (HCm.out _ ub Y.drew (HS0.out _ HYd.out.up).2.2.1 (by have := HYd.out.mm; simpa using this)) ?_
    refine hK.out _ _ ⟨HZ.out.c.ms, HZ.out.c.lt, (HS0.out _ HZ.out.up).1.c 1 _ rfl, (HS0.out _ HZ.out.up).1.lt, HZ.out.up⟩ (fun hHeld => ?_)
    clear hK K HYd
    refine wpAnyH_done (by kernel_rfl) ?_ _
    clear hHeld
    generalize (Y.drew.setCells ub 0 (nums ms)) = Z at *
    go_wp2_with fail
    go_ret2
    have h1 := HZ.out
    have h2 := rch_new h1 HBs.out
    have h4 := HS0.out _ h1.up
    refine ⟨q, rb, ub, a, cc, w1.heap.size, rfl, h2, h4.2.2.2, by omega, h1.up.size, fun b e => ?_, fun V hV => HBs.out V (h1.up.trans (hV.below h1.up.size fun k hk e => by have e : w1.heap.size ≤ k := e; omega))⟩
    have l1 := h1.lq
    have l2 := h1.lr
    have l3 := h1.lu
    rcases rown_new e with e | e | e <;> omega
end Go.Proofs.YtldfjlepbbmhnaaDoor.Pp
