/- What package parse's read and Program answer: the program that the lines say, or the fault that comes first; read off the program by the walk. Conditions: the variables lie in memory as the program lays them. -/
import Derived.Test.YthjpddjfckdefaaGreatDoorPg
import Derived.Test.YthjpddjfckdefaaGreatDoorPk
import Derived.Defers
import Derived.Recover
import Derived.Laws.EntriesVeiled
namespace Go.Proofs.YthjpddjfckdefaaGreatDoor.Pr
open Go.ChangeShapes Go.WideShapes Go.ChangeAt Go.RowKit
open _root_.Go.Proofs.YthjpddjfckdefaaGreatDoor.Op
set_option maxRecDepth 20000

theorem ta_nil (w : World) : (Instr.typeAssert .nilIface 20 47 true).run Tryz.prog w = .ok (.tuple #[.pointer none, .bool false]) w := by kernel_rfl
theorem ta_hit (q : Nat) (w : World) : (Instr.typeAssert (.iface 47 (.pointer (some ⟨q, 0, none⟩))) 20 47 true).run Tryz.prog w = .ok (.tuple #[.pointer (some ⟨q, 0, none⟩), .bool true]) w := by kernel_rfl
theorem rep9 : Array.replicate 9 undef = #[undef, undef, undef, undef, undef, undef, undef, undef, undef] := rfl
set_option maxHeartbeats 1000000 in
theorem catch_idle (p : Addr) (w : World) : CallsD Tryz.prog 28 #[.pointer (some p)] .returning w fun e u' w' => e = .returned (.tuple #[]) ∧ u' = .returning ∧ w' = w := by
  refine callsD_of_wpS Tryz.func28 rfl fun c₀ cs hu => ?_
  apply wpS_seq
  apply wpS_region
  simp [wpOpsS, go_sem, recoverD, hu, Tryz.ntmps28, Exit.thenS, ta_nil, Oper.upon, Result.andThen, rep9]
  apply wpS_seq
  apply wpS_region
  simp [wpOpsS, go_sem, Exit.thenS]
  refine wpS_cond (t := false) (by simp [Act.eval]) ?_
  simp only [Bool.false_eq_true, if_false]
  refine wpS_of_wp (wp_skip ?_)
  cases c₀
  simp_all [bodyPostS, results, Tryz.results28]
set_option maxHeartbeats 1000000 in
theorem catch_panic (p : Addr) (q : Nat) (x : Value) (w : World) (hc : w.cell? p = some x) (hz : w.frozen? p = false) : CallsD Tryz.prog 28 #[.pointer (some p)] (.panicking [{ v := .iface 47 (.pointer (some ⟨q, 0, none⟩)), recovered := false }]) w fun e u' w' => e = .returned (.tuple #[]) ∧ u' = .panicking [{ v := .iface 47 (.pointer (some ⟨q, 0, none⟩)), recovered := true }] ∧ w' = w.setCell p (.pointer (some ⟨q, 0, none⟩)) := by
  refine callsD_of_wpS Tryz.func28 rfl fun c₀ cs hu => ?_
  apply wpS_seq
  apply wpS_region
  simp [wpOpsS, go_sem, recoverD, hu, Tryz.ntmps28, Exit.thenS, ta_hit, Oper.upon, Result.andThen, rep9]
  apply wpS_seq
  apply wpS_region
  simp [wpOpsS, go_sem, Exit.thenS]
  refine wpS_cond (t := true) (by simp [Act.eval]) ?_
  simp only [if_true]
  apply wpS_region
  simp [wpOpsS, go_sem, hc, hz, bodyPostS, results, Tryz.results28]

theorem progR_ok (m : Nat) : ∀ (k n : Nat) (ls : List Ln) (bs : List Bk), progR m k n ls = .ok bs → bs.length ≤ ls.length + 1 ∧ ∀ x, x ∈ bs → BkOk x ∧ x.ops.length ≤ ls.length ∧ x.body.length ≤ ls.length
  | 0, n, ls, bs, h => by cases h; simp
  | k + 1, n, ls, bs, h => by
    unfold progR at h
    obtain ⟨_, _, h⟩ := R.bind_some h
    obtain ⟨⟨x, ls2⟩, hb, h⟩ := R.bind_some h
    obtain ⟨b1, b2, b3, b4⟩ := blockR_ok hb
    have b2 : x.ops.length ≤ ls.tail.length := b2
    have b3 : x.body.length ≤ ls.tail.length := b3
    have b4 : ls2.length ≤ ls.tail.length := b4
    simp only [List.length_tail] at b2 b3 b4
    cases ls2 with
    | nil =>
      cases h
      refine ⟨by simp, fun y hy => ?_⟩
      rw [List.mem_singleton.1 hy]
      show BkOk x ∧ x.ops.length ≤ ls.length ∧ x.body.length ≤ ls.length
      exact ⟨b1, by omega, by omega⟩
    | cons l r =>
      obtain ⟨ys, hy, h⟩ := R.bind_some h
      cases h
      obtain ⟨c1, c2⟩ := progR_ok m k (n + 1) (l :: r) ys hy
      simp only [List.length_cons] at b4 c1 c2
      refine ⟨by simp; omega, fun y hy => ?_⟩
      rcases List.mem_cons.1 hy with h' | h'
      · rw [h']
        show BkOk x ∧ x.ops.length ≤ ls.length ∧ x.body.length ≤ ls.length
        exact ⟨b1, by omega, by omega⟩
      · obtain ⟨d1, d2, d3⟩ := c2 y h'
        exact ⟨d1, by omega, by omega⟩
theorem small_read {m k n : Nat} {ls : List Ln} {bs : List Bk} (h : progR m k n ls = .ok bs) (hl : ls.length ≤ 65537) : Small bs := by
  obtain ⟨h1, h2⟩ := progR_ok m k n ls bs h
  refine ⟨by omega, fun x hx => ?_⟩
  obtain ⟨h3, h4, h5⟩ := h2 x hx
  exact ⟨h3.ok, h3.o, h3.y, by omega, by omega⟩

/-- A program in memory of its own. -/
structure PRow (V : World) (B : Nat) (a : Option Addr) (c : Nat) (bs : List Bk) : Prop where
  r : ∃ pls : List Pl, pls.length = bs.length ∧ V.ownsRow B 43 6 (.slice a bs.length c) bs.length (bcells bs pls) ∧ ∀ (i : Nat) p x, pls[i]? = some p → bs[i]? = some x → LRow V B p.oa p.oc x.ops ∧ LRow V B p.ba p.bc x.body
  s : Small bs
theorem PRow.pat {V : World} {B : Nat} {a : Option Addr} {c : Nat} {bs : List Bk} (h : PRow V B a c bs) : PAt V a bs := by
  obtain ⟨pls, h1, h2, h3⟩ := h.r
  obtain ⟨a2, c2, e2, hpa⟩ := rows_done h1 h2 h3 h.s
  injection e2 with e2 _ _
  subst e2; exact hpa
theorem PRow.set {V : World} {B : Nat} {a : Option Addr} {c : Nat} {bs : List Bk} (h : PRow V B a c bs) {b j : Nat} (hb : b < B) (u : Value) : PRow (V.setCell ⟨b, j, none⟩ u) B a c bs := by
  obtain ⟨pls, h1, h2, h3⟩ := h.r
  exact ⟨⟨pls, h1, row_set h2 hb u, fun i p x hp hx => ⟨row_set (h3 i p x hp hx).1 hb u, row_set (h3 i p x hp hx).2 hb u⟩⟩, h.s⟩
theorem PRow.up {V V' : World} {B : Nat} {a : Option Addr} {c : Nat} {bs : List Bk} (h : PRow V B a c bs) (hb : Below V.heap.size V V') : PRow V' B a c bs := by
  obtain ⟨pls, h1, h2, h3⟩ := h.r
  exact ⟨⟨pls, h1, row_below h2 hb, fun i p x hp hx => ⟨row_below (h3 i p x hp hx).1 hb, row_below (h3 i p x hp hx).2 hb⟩⟩, h.s⟩
theorem PRow.le {V : World} {B B' : Nat} {a : Option Addr} {c : Nat} {bs : List Bk} (h : PRow V B a c bs) (hb : B' ≤ B) : PRow V B' a c bs := by
  obtain ⟨pls, h1, h2, h3⟩ := h.r
  exact ⟨⟨pls, h1, row_le h2 hb, fun i p x hp hx => ⟨row_le (h3 i p x hp hx).1 hb, row_le (h3 i p x hp hx).2 hb⟩⟩, h.s⟩
/-- What read answers. -/
def ReadPost (r : R (List Bk)) (w : World) (e : Ending) (w' : World) : Prop :=
  match r with
  | .ok bs => ∃ a c, e = .returned (.tuple #[.agg #[.slice a bs.length c], .pointer none]) ∧ PRow w' w.heap.size a c bs ∧ Below w.heap.size w w'
  | .no f => ∃ q, e = .returned (.tuple #[.agg #[.slice none 0 0], .pointer (some ⟨q, 0, none⟩)]) ∧ FaultAt w' q 60 f ∧ w.heap.size ≤ q ∧ Below w.heap.size w w'
/-- The reader is set up. -/
structure Rz (w V : World) (s : ByteArray) (mb : Nat) : Prop where
  rd : Rd V (w.heap.size + 1 + 1 + 1) (w.heap.size + 1 + 1) mb s (linesS s.data.toList 0 [])
  p : At V w.heap.size #[.slice none 0 0]
  f : At V (w.heap.size + 1) #[.pointer none]
  b : Below w.heap.size w V

theorem Rz.start {w w1 w2 : World} {s : ByteArray} (hV : Vars w) (hb1 : Below (w.heap.size + 1 + 1) ((w.alloc (.cells #[.slice none 0 0] 24)).alloc (.cells #[.pointer none] 47)) w1) (hrs : Rs w1 (w.heap.size + 1 + 1 + 1) (w.heap.size + 1 + 1) s (linesS s.data.toList 0 [])) (hm : MapIs w2 w1.heap.size shapeL) (hb2 : Below w1.heap.size w1 w2) : Rz w w2 s w1.heap.size := by
  have h9 : 7 ≤ w.heap.size := hV.e.big
  have hb1' : Below ((w.alloc (.cells #[.slice none 0 0] 24)).alloc (.cells #[.pointer none] 47)).heap.size ((w.alloc (.cells #[.slice none 0 0] 24)).alloc (.cells #[.pointer none] 47)) w1 := by
    rw [World.size_alloc, World.size_alloc]; exact hb1
  obtain ⟨a1, a2, hb, _, _⟩ := two_new w #[.slice none 0 0] #[.pointer none] 24 47 hb1'
  have hbw : Below w.heap.size w w2 := hb.trans (hb2.mono hb.size)
  exact ⟨⟨hrs.up hb2, hm, hV.up hbw, by omega, by omega, hrs.a⟩, a1.below hb2 a1.lt, a2.below hb2 a2.lt, hbw⟩

set_option maxHeartbeats 2000000 in
theorem read_bad (s : ByteArray) (f : Wd') (w : World) (hs : s.size ≤ 65536) (hV : Vars w) (hr : progR s.size ((linesS s.data.toList 0 []).length + 1) 0 (linesS s.data.toList 0 []) = .no f) :
    Calls Tryz.prog 14 #[.string s] w (ReadPost (.no f) w) := by
  have hmf : ∀ (fn : Fn) (first cap : Array Value) (w : World), (Instr.makeFunc fn first cap).run Tryz.prog w = .ok (.func fn first cap) w := fun _ _ _ _ => rfl
  have h9 : 7 ≤ w.heap.size := hV.e.big
  have hL := linesOf_any s ((w.alloc (.cells #[.slice none 0 0] 24)).alloc (.cells #[.pointer none] 47)) hs
  rw [World.size_alloc, World.size_alloc] at hL
  unfold nextV at hL
  have HL : Hid _ := hL
  have HV : Hid _ := hV
  clear hL hV
  have HP : Hid (∀ qa qt mb W, Rd W qa qt mb s (linesS s.data.toList 0 []) → Calls Tryz.prog 31 #[.agg #[.func (.func 38) #[] #[.pointer (some ⟨qa, 0, none⟩), .pointer (some ⟨qt, 0, none⟩)], .map (some mb)]] W fun e w' => Pan (One qa) f W e w') := fun qa qt mb W h => by
    have := program_any qa qt mb s (linesS s.data.toList 0 []) W h
    rw [hr] at this
    exact this
  clear hr
  go_enter_defers Tryz.func14, Tryz.ntmps14
  go_wp2_with (first
    | (go_at_call 29; refine Calls.mono HL.out ?_; rintro e w1 ⟨rfl, hrs, hb⟩; have HA : Hid _ := hb; have HR : Hid _ := hrs; clear hb hrs HL)
    | (go_at_call 30; refine Calls.mono (shapes_any w1) ?_; rintro e w2 ⟨rfl, hm, hb⟩; have HZ : Hid (Rz w w2 s w1.heap.size) := Rz.start HV.out HA.out HR.out hm hb; clear hm hb HA HR)
    | (go_at_call 31; refine Calls.mono (HP.out _ _ _ _ (HZ.out.rd.up (w' := w2.alloc (.cells #[.func (.func 38) #[] #[.pointer (some ⟨w.heap.size + 1 + 1 + 1, 0, none⟩), .pointer (some ⟨w.heap.size + 1 + 1, 0, none⟩)], .map (some w1.heap.size)] 80)) ((Below.refl _ _).alloc (Nat.le_refl _) _))) ?_; rintro e wp hp; have HX : Hid _ := hp; obtain ⟨fq, rfl, hp⟩ := hp; clear hp))
  obtain ⟨q', he, hfl, hq, hF⟩ := HX.out
  have hq' : q' = fq := by injection he with he; injection he with he; injection he with he; injection he with _ he; injection he with he; injection he with he; injection he with he; exact he.symm
  subst hq'
  have p1 := (at_fr (HZ.out.p.alloc _) hF (by show ¬ _ = _; omega)).c 0 _ rfl
  have hf1 := at_fr (HZ.out.f.alloc (.cells #[.func (.func 38) #[] #[.pointer (some ⟨w.heap.size + 1 + 1 + 1, 0, none⟩), .pointer (some ⟨w.heap.size + 1 + 1, 0, none⟩)], .map (some w1.heap.size)] 80)) hF (by show ¬ _ = _; omega)
  have hsz := HZ.out.f.lt
  refine leaves_cons (f := 28) (args := #[.pointer (some ⟨w.heap.size + 1, 0, none⟩)]) (by simp) (by simp [go_sem]) ?_
  refine (catch_panic ⟨w.heap.size + 1, 0, none⟩ q' (.pointer none) wp (hf1.c 0 _ rfl) (hf1.f 0)).mono ?_
  rintro e u' w'' ⟨rfl, rfl, rfl⟩
  have p2 : (wp.setCell ⟨w.heap.size + 1, 0, none⟩ (.pointer (some ⟨q', 0, none⟩))).cell? ⟨w.heap.size, 0, none⟩ = some (.slice none 0 0) := by rw [set_far _ (by omega)]; exact p1
  have f2 : (wp.setCell ⟨w.heap.size + 1, 0, none⟩ (.pointer (some ⟨q', 0, none⟩))).cell? ⟨w.heap.size + 1, 0, none⟩ = some (.pointer (some ⟨q', 0, none⟩)) := (at_set hf1 (j := 0) (by simp) _).c 0 _ rfl
  have hpost : ReadPost (.no f) w (.returned (.tuple #[.agg #[.slice none 0 0], .pointer (some ⟨q', 0, none⟩)])) (wp.setCell ⟨w.heap.size + 1, 0, none⟩ (.pointer (some ⟨q', 0, none⟩))) := by
    refine ⟨q', rfl, ?_, by simp at hq; omega, ?_⟩
    · unfold FaultAt
      rw [Below.heap_setCell _ _ _ _ (by show q' ≠ w.heap.size + 1; simp at hq; omega)]
      exact hfl
    · have hbb : Below w.heap.size w (w2.alloc (.cells #[.func (.func 38) #[] #[.pointer (some ⟨w.heap.size + 1 + 1 + 1, 0, none⟩), .pointer (some ⟨w.heap.size + 1 + 1, 0, none⟩)], .map (some w1.heap.size)] 80)) := HZ.out.b.alloc HZ.out.b.size _
      exact (hbb.trans (hF.below hbb.size (fun k hk e => by subst e; omega))).setCell (by show w.heap.size ≤ w.heap.size + 1; omega) _
  simp [Leaves, settle, results, Tryz.results14, go_sem, p2, f2]
  exact hpost
set_option maxHeartbeats 2000000 in
theorem read_good (s : ByteArray) (bs : List Bk) (w : World) (hs : s.size ≤ 65536) (hV : Vars w) (hr : progR s.size ((linesS s.data.toList 0 []).length + 1) 0 (linesS s.data.toList 0 []) = .ok bs) :
    Calls Tryz.prog 14 #[.string s] w (ReadPost (.ok bs) w) := by
  have hmf : ∀ (fn : Fn) (first cap : Array Value) (w : World), (Instr.makeFunc fn first cap).run Tryz.prog w = .ok (.func fn first cap) w := fun _ _ _ _ => rfl
  have h9 : 7 ≤ w.heap.size := hV.e.big
  have hL := linesOf_any s ((w.alloc (.cells #[.slice none 0 0] 24)).alloc (.cells #[.pointer none] 47)) hs
  rw [World.size_alloc, World.size_alloc] at hL
  unfold nextV at hL
  have HL : Hid _ := hL
  have HV : Hid _ := hV
  clear hL hV
  have HSm : Hid (Small bs) := small_read hr (by have := lines_len s.data.toList 0 []; have h2 : s.data.toList.length = s.size := rfl; omega)
  have HP : Hid (∀ qa qt mb W, Rd W qa qt mb s (linesS s.data.toList 0 []) → Calls Tryz.prog 31 #[.agg #[.func (.func 38) #[] #[.pointer (some ⟨qa, 0, none⟩), .pointer (some ⟨qt, 0, none⟩)], .map (some mb)]] W (PgPost W qa bs)) := fun qa qt mb W h => by
    have := program_any qa qt mb s (linesS s.data.toList 0 []) W h
    rw [hr] at this
    exact this
  clear hr
  go_enter_defers Tryz.func14, Tryz.ntmps14
  go_wp2_with (first
    | (go_at_call 29; refine Calls.mono HL.out ?_; rintro e w1 ⟨rfl, hrs, hb⟩; have HA : Hid _ := hb; have HR : Hid _ := hrs; clear hb hrs HL)
    | (go_at_call 30; refine Calls.mono (shapes_any w1) ?_; rintro e w2 ⟨rfl, hm, hb⟩; have HZ : Hid (Rz w w2 s w1.heap.size) := Rz.start HV.out HA.out HR.out hm hb; clear hm hb HA HR)
    | (go_at_call 31; refine Calls.mono (HP.out _ _ _ _ (HZ.out.rd.up (w' := w2.alloc (.cells #[.func (.func 38) #[] #[.pointer (some ⟨w.heap.size + 1 + 1 + 1, 0, none⟩), .pointer (some ⟨w.heap.size + 1 + 1, 0, none⟩)], .map (some w1.heap.size)] 80)) ((Below.refl _ _).alloc (Nat.le_refl _) _))) ?_; rintro e w3 ⟨a, c, pls, rfl, hlen, hrow, hins, hF⟩; have hp1 := at_fr (HZ.out.p.alloc (.cells #[.func (.func 38) #[] #[.pointer (some ⟨w.heap.size + 1 + 1 + 1, 0, none⟩), .pointer (some ⟨w.heap.size + 1 + 1, 0, none⟩)], .map (some w1.heap.size)] 80)) hF (by show ¬ _ = _; omega); have hf1 := at_fr (HZ.out.f.alloc (.cells #[.func (.func 38) #[] #[.pointer (some ⟨w.heap.size + 1 + 1 + 1, 0, none⟩), .pointer (some ⟨w.heap.size + 1 + 1, 0, none⟩)], .map (some w1.heap.size)] 80)) hF (by show ¬ _ = _; omega); have p1 := hp1.c 0 _ rfl; have p2 := hp1.f 0; have p3 := hf1.c 0 _ rfl; have p4 := hf1.f 0; have HX : Hid (PgPost (w2.alloc (.cells #[.func (.func 38) #[] #[.pointer (some ⟨w.heap.size + 1 + 1 + 1, 0, none⟩), .pointer (some ⟨w.heap.size + 1 + 1, 0, none⟩)], .map (some w1.heap.size)] 80)) (w.heap.size + 1 + 1 + 1) bs (.returned (.agg #[.slice a bs.length c])) w3) := ⟨a, c, pls, rfl, hlen, hrow, hins, hF⟩; have HPA : Hid _ := hp1; have HFA : Hid _ := hf1; clear hlen hrow hins hF hp1 hf1))
  obtain ⟨a', c', pls', he, hlen, hrow, hins, hF⟩ := HX.out
  have hsz := HZ.out.f.lt
  refine leaves_cons (f := 28) (args := #[.pointer (some ⟨w.heap.size + 1, 0, none⟩)]) (by simp) (by simp [go_sem]) ?_
  refine (catch_idle ⟨w.heap.size + 1, 0, none⟩ _).mono ?_
  rintro e u' w'' ⟨rfl, rfl, rfl⟩
  have k1 : ((w3.setCell ⟨w.heap.size, 0, none⟩ (.slice a bs.length c)).setCell ⟨w.heap.size + 1, 0, none⟩ (.pointer none)).cell? ⟨w.heap.size, 0, none⟩ = some (.slice a bs.length c) := by rw [set_far _ (by omega)]; exact (at_set HPA.out (j := 0) (by simp) _).c 0 _ rfl
  have k2 : ((w3.setCell ⟨w.heap.size, 0, none⟩ (.slice a bs.length c)).setCell ⟨w.heap.size + 1, 0, none⟩ (.pointer none)).cell? ⟨w.heap.size + 1, 0, none⟩ = some (.pointer none) := (at_set (at_fr HFA.out ((Fr.refl (One w.heap.size) w3).setCell (.inr rfl) 0 (.slice a bs.length c)) (by show ¬ _ = _; omega)) (j := 0) (by simp) _).c 0 _ rfl
  have hpost : ReadPost (.ok bs) w (.returned (.tuple #[.agg #[.slice a bs.length c], .pointer none])) ((w3.setCell ⟨w.heap.size, 0, none⟩ (.slice a bs.length c)).setCell ⟨w.heap.size + 1, 0, none⟩ (.pointer none)) := by
    have hbb : Below w.heap.size w (w2.alloc (.cells #[.func (.func 38) #[] #[.pointer (some ⟨w.heap.size + 1 + 1 + 1, 0, none⟩), .pointer (some ⟨w.heap.size + 1 + 1, 0, none⟩)], .map (some w1.heap.size)] 80)) := HZ.out.b.alloc HZ.out.b.size _
    have hB : w.heap.size + 1 < (w2.alloc (.cells #[.func (.func 38) #[] #[.pointer (some ⟨w.heap.size + 1 + 1 + 1, 0, none⟩), .pointer (some ⟨w.heap.size + 1 + 1, 0, none⟩)], .map (some w1.heap.size)] 80)).heap.size := by simp; omega
    refine ⟨a, c, rfl, ?_, ((hbb.trans (hF.below hbb.size (fun k hk e => by subst e; omega))).setCell (by show w.heap.size ≤ w.heap.size; omega) _).setCell (by show w.heap.size ≤ w.heap.size + 1; omega) _⟩
    have h0 : a' = a ∧ c' = c := by injection he with he; injection he with he; simp at he; exact ⟨he.1.symm, he.2.symm⟩
    obtain ⟨rfl, rfl⟩ := h0
    have hpr : PRow w3 _ a' c' bs := ⟨⟨pls', hlen, hrow, hins⟩, HSm.out⟩
    exact ((hpr.set (by omega) _).set hB _).le (by omega)
  simp [Leaves, settle, results, Tryz.results14, go_sem, k1, k2]
  exact hpost
theorem read_any2 (s : ByteArray) (w : World) (hs : s.size ≤ 65536) (hV : Vars w) : Calls Tryz.prog 14 #[.string s] w (ReadPost (readT s.data.toList) w) := by
  have e : readT s.data.toList = progR s.size ((linesS s.data.toList 0 []).length + 1) 0 (linesS s.data.toList 0 []) := rfl
  rw [e]
  cases hr : progR s.size ((linesS s.data.toList 0 []).length + 1) 0 (linesS s.data.toList 0 []) with
  | ok bs => exact read_good s bs w hs hV hr
  | no f => exact read_bad s f w hs hV hr
end Go.Proofs.YthjpddjfckdefaaGreatDoor.Pr
