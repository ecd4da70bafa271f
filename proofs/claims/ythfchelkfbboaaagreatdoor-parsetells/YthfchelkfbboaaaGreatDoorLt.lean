/- The statement ParseTells, out of what its callees answer: read off the program by the walk. Conditions: the variables lie in memory as the program lays them. -/
import Derived.Test.YthfchelkfbboaaaGreatDoorDk
import Derived.Test.YthfchelkfbboaaaGreatDoorLk
import Derived.Test.YthfchelkfbboaaaGreatDoorWk
namespace Go.Proofs.YthfchelkfbboaaaGreatDoor.Pr
open Go.ChangeShapes Go.WideShapes Go.ChangeAt Go.RowKit
open _root_.Go.Proofs.YthfchelkfbboaaaGreatDoor.Op
set_option maxRecDepth 20000

/-- Two programs in memory, with their boxes. -/
structure Tq (w V : World) (u1 u2 : Nat) (a a' : Option Addr) (c c' : Nat) (bs : List Bk) : Prop where
  p : At V u1 #[.slice a bs.length c]
  q : At V u2 #[.slice a' bs.length c']
  pa : PAt V a bs
  qa : PAt V a' bs
  b : Below w.heap.size w V
theorem Tq.up {w V V' : World} {u1 u2 : Nat} {a a' : Option Addr} {c c' : Nat} {bs : List Bk} (h : Tq w V u1 u2 a a' c c' bs) (hb : Below V.heap.size V V') : Tq w V' u1 u2 a a' c c' bs :=
  ⟨h.p.below hb h.p.lt, h.q.below hb h.q.lt, h.pa.below hb, h.qa.below hb, h.b.trans (hb.mono h.b.size)⟩
theorem Tq.start {w w1 w2 : World} {a a' : Option Addr} {c c' : Nat} {bs : List Bk} (x : Array Value) (hb : Below w.heap.size w w1) (hp : PAt w1 a bs) (hb2 : Below (w1.alloc (.cells #[.slice a bs.length c] 24)).heap.size (w1.alloc (.cells #[.slice a bs.length c] 24)) w2) (hq : PAt w2 a' bs) :
    Tq w ((w2.alloc (.cells #[.slice a' bs.length c'] 24)).alloc (.cells x 31)) w1.heap.size w2.heap.size a a' c c' bs := by
  obtain ⟨a1, hb0, hz⟩ := one_new w1 _ _ hb2
  have hB : Below w2.heap.size w2 ((w2.alloc (.cells #[.slice a' bs.length c'] 24)).alloc (.cells x 31)) := ((Below.refl _ _).alloc (Nat.le_refl _) _).alloc (by simp) _
  exact ⟨a1.below hB a1.lt, (At.new w2 _ 24).alloc _, (hp.below hb0).below hB, hq.below hB, (hb.trans (hb0.mono hb.size)).trans (hB.mono (by have := hb0.size; have := hb.size; omega))⟩
set_option maxHeartbeats 1000000 in
theorem tells_good (s : ByteArray) (bs : List Bk) (w : World) (hs : s.size ≤ maxLen) (hV : Vars w) (h : parseF s.data.toList = (none, bs)) : Calls Tryz.prog 3 #[.string s] w fun e w' => e = .returned (.bool true) ∧ Below w.heap.size w w' := by
  have HP : Hid (Calls Tryz.prog 6 #[.string s] w fun e w' => ∃ a c, e = .returned (.tuple #[.agg #[.slice a bs.length c], .nilIface]) ∧ PRow w' w.heap.size a c bs ∧ Below w.heap.size w w') := by
    have h' := parse_any s w hs hV
    rw [h] at h'
    exact h'
  have HR : Hid (∀ W, Calls Tryz.prog 7 #[.string s] W fun e w' => ∃ a c, e = .returned (.tuple #[.agg #[.slice a bs.length c], .agg #[.int .i64 0, .int .i64 0, .string ⟨#[]⟩]]) ∧ PAt w' a bs ∧ Below W.heap.size W w') := fun W => by
    have h' := dprog_any s W hs
    rw [h] at h'
    exact h'
  have HT : Hid (∀ W, Calls Tryz.prog 8 #[.nilIface, .agg #[.int .i64 0, .int .i64 0, .string ⟨#[]⟩]] W fun e w' => e = .returned (.bool true) ∧ Below W.heap.size W w') := fun W => told_nil W
  have HK : Hid (∀ W, Below w.heap.size w W → Calls Tryz.prog 10 #[] W fun e w' => e = .returned (.bool true) ∧ Below W.heap.size W w') := fun W hb => wakes_any W (hV.up hb)
  clear hV h
  go_enter Tryz.func3, Tryz.ntmps3
  go_wp2_with (first
    | (go_at_call 6; refine Calls.mono HP.out ?_; rintro e w1 ⟨a, c, rfl, hp, hb⟩; have H1 : Hid (PAt w1 a bs ∧ Below w.heap.size w w1) := ⟨hp.pat, hb⟩; clear hp hb HP)
    | (go_at_call 7; refine Calls.mono (HR.out _) ?_; rintro e w2 ⟨a', c', rfl, hp, hb⟩; have H2 : Hid (∀ x, Tq w ((w2.alloc (.cells #[.slice a' bs.length c'] 24)).alloc (.cells x 31)) w1.heap.size w2.heap.size a a' c c' bs) := fun x => Tq.start x H1.out.2 H1.out.1 hb hp; clear hp hb HR H1)
    | (go_at_call 8; refine Calls.mono (HT.out _) ?_; rintro e w3 ⟨rfl, hb⟩; have H3 : Hid _ := (H2.out _).up hb; have p0 := H3.out.p.c 0 _ rfl; have q0 := H3.out.q.c 0 _ rfl; clear hb HT H2)
    | (go_at_call 9; refine Calls.mono (likeProgram_any a a' c c' bs _ H3.out.pa H3.out.qa) ?_; rintro e w4 ⟨rfl, hb⟩; have H4 : Hid _ := H3.out.up hb; clear hb H3 p0 q0)
    | (go_at_call 10; refine Calls.mono (HK.out _ H4.out.b) ?_; rintro e w5 ⟨rfl, hb⟩; have H5 : Hid _ := H4.out.b.trans (hb.mono H4.out.b.size); clear hb H4 HK))
  go_ret
  exact ⟨rfl, H5.out⟩
set_option maxHeartbeats 1000000 in
theorem tells_bad (s : ByteArray) (f : Int × Wd') (bs : List Bk) (w : World) (hs : s.size ≤ maxLen) (hV : Vars w) (h : parseF s.data.toList = (some f, bs)) (hc : f.1 ≠ 0) : Calls Tryz.prog 3 #[.string s] w fun e w' => e = .returned (.bool true) ∧ Below w.heap.size w w' := by
  have HP : Hid (Calls Tryz.prog 6 #[.string s] w fun e w' => ∃ q, e = .returned (.tuple #[.agg #[.slice none 0 0], .iface 49 (.pointer (some ⟨q, 0, none⟩))]) ∧ FaultAt w' q f.1 f.2 ∧ Below w.heap.size w w') := by
    have h' := parse_any s w hs hV
    rw [h] at h'
    exact h'.mono fun e w' h => h.2
  have HR : Hid (∀ W, Calls Tryz.prog 7 #[.string s] W fun e w' => e = .returned (.tuple #[.agg #[.slice none 0 0], .agg #[.int .i64 f.1, .int .i64 (f.2.1 : Int), .string ⟨f.2.2.toArray⟩]]) ∧ Below W.heap.size W w') := fun W => by
    have h' := dprog_any s W hs
    rw [h] at h'
    exact h'
  have HT : Hid (∀ q W, Below w.heap.size w W → FaultAt W q f.1 f.2 → Calls Tryz.prog 8 #[.iface 49 (.pointer (some ⟨q, 0, none⟩)), .agg #[.int .i64 f.1, .int .i64 (f.2.1 : Int), .string ⟨f.2.2.toArray⟩]] W fun e w' => e = .returned (.bool true) ∧ Below W.heap.size W w') := fun q W hb hF => told_some q f.1 f.2 W (hV.up hb) hF hc
  have HK : Hid (∀ W, Below w.heap.size w W → Calls Tryz.prog 10 #[] W fun e w' => e = .returned (.bool true) ∧ Below W.heap.size W w') := fun W hb => wakes_any W (hV.up hb)
  have HL : Hid (∀ W, Calls Tryz.prog 9 #[.agg #[.slice none 0 0], .agg #[.slice none 0 0]] W fun e w' => e = .returned (.bool true) ∧ Below W.heap.size W w') := fun W => likeProgram_any none none 0 0 [] W (pAt_nil _ _) (pAt_nil _ _)
  have HX : Hid (∀ w1 w2 q x, FaultAt w1 q f.1 f.2 → Below w.heap.size w w1 → Below (w1.alloc (.cells #[.slice none 0 0] 24)).heap.size (w1.alloc (.cells #[.slice none 0 0] 24)) w2 → FaultAt ((w2.alloc (.cells #[.slice none 0 0] 24)).alloc (.cells x 31)) q f.1 f.2 ∧ Tq w ((w2.alloc (.cells #[.slice none 0 0] 24)).alloc (.cells x 31)) w1.heap.size w2.heap.size none none 0 0 []) := fun w1 w2 q x hF hb hb2 => by
    have ht : Tq w ((w2.alloc (.cells #[.slice none 0 0] 24)).alloc (.cells x 31)) w1.heap.size w2.heap.size none none 0 0 [] := Tq.start x hb (pAt_nil _ _) hb2 (pAt_nil _ _)
    obtain ⟨_, hb0, _⟩ := one_new w1 _ _ hb2
    have hB : Below w2.heap.size w2 ((w2.alloc (.cells #[.slice none 0 0] 24)).alloc (.cells x 31)) := ((Below.refl _ _).alloc (Nat.le_refl _) _).alloc (by simp) _
    refine ⟨?_, ht⟩
    unfold FaultAt at hF ⊢
    have hlt : q < w1.heap.size := FaultAt.lt (f := f.2) (c := f.1) hF
    rw [hB.block q (Nat.lt_of_lt_of_le hlt hb0.size), hb0.block q hlt]
    exact hF
  clear hV h
  generalize f.1 = fc at *
  generalize f.2 = ff at *
  go_enter Tryz.func3, Tryz.ntmps3
  go_wp2_with (first
    | (go_at_call 6; refine Calls.mono HP.out ?_; rintro e w1 ⟨q, rfl, hF, hb⟩; have H1 : Hid _ := hF; have H1b : Hid _ := hb; clear hF hb HP)
    | (go_at_call 7; refine Calls.mono (HR.out _) ?_; rintro e w2 ⟨rfl, hb⟩; have H2 : Hid _ := fun x => HX.out w1 w2 q x H1.out H1b.out hb; clear hb HR H1 H1b HX)
    | (go_at_call 8; refine Calls.mono (HT.out q _ (H2.out _).2.b (H2.out _).1) ?_; rintro e w3 ⟨rfl, hb⟩; have H3 : Hid _ := (H2.out _).2.up hb; have p0 := H3.out.p.c 0 _ rfl; have q0 := H3.out.q.c 0 _ rfl; clear hb HT H2)
    | (go_at_call 9; refine Calls.mono (HL.out _) ?_; rintro e w4 ⟨rfl, hb⟩; have H4 : Hid _ := H3.out.up hb; clear hb H3 p0 q0)
    | (go_at_call 10; refine Calls.mono (HK.out _ H4.out.b) ?_; rintro e w5 ⟨rfl, hb⟩; have H5 : Hid _ := H4.out.b.trans (hb.mono H4.out.b.size); clear hb H4 HK))
  go_ret
  exact ⟨rfl, H5.out⟩
theorem fault_not {l : List UInt8} {f : Int × Wd'} (h : (parseF l).1 = some f) : f.1 ≠ 0 := by
  unfold parseF at h
  split at h
  · cases h; decide
  · split at h
    · cases h; show (60 : Int) ≠ 0; decide
    · split at h
      · cases h
      · rename_i hk
        cases h; exact hk
theorem law_tells (s : ByteArray) (w : World) (hs : s.size ≤ maxLen) (hV : Vars w) : Calls Tryz.prog 3 #[.string s] w fun e w' => e = .returned (.bool true) ∧ Below w.heap.size w w' := by
  cases h : (parseF s.data.toList).1 with
  | none => exact tells_good s (parseF s.data.toList).2 w hs hV (by rw [← h])
  | some f => exact tells_bad s f (parseF s.data.toList).2 w hs hV (by rw [← h]) (fault_not h)
end Go.Proofs.YthfchelkfbboaaaGreatDoor.Pr
