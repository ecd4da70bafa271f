/- The statement ParseTells, whole: of any text, what is read is the program that the document says, or the fault that it says; the listed variables are tied to the program's text. Conditions: none. -/
import Derived.Test.YthfchelkfbboaaaGreatDoorDk
import Derived.Test.YthfchelkfbboaaaGreatDoorLk
import Derived.Test.YthfchelkfbboaaaGreatDoorWk
import Derived.Test.YthfchelkfbboaaaGreatDoorFr
namespace Go.Proofs.YthfchelkfbboaaaGreatDoor.Pr
open Go.ChangeShapes Go.WideShapes Go.ChangeAt Go.RowKit
open _root_.Go.Proofs.YthfchelkfbboaaaGreatDoor.Op
set_option maxRecDepth 20000

/-- Two programs in memory, with their boxes. -/
structure Tq (w V : World) (u1 u2 : Nat) (a a' : Option Addr) (c c' : Nat) (bs : List Bk) : Prop where
  p : At V u1 #[.slice a bs.length c]
  q : At V u2 #[.slice a' bs.length c']
  pa : PAt V a bs
  qa : PAt V a' bs
  b : Below w.heap.size w V
theorem Tq.up {w V V' : World} {u1 u2 : Nat} {a a' : Option Addr} {c c' : Nat} {bs : List Bk} (h : Tq w V u1 u2 a a' c c' bs) (hb : Below V.heap.size V V') : Tq w V' u1 u2 a a' c c' bs :=
  ⟨h.p.below hb h.p.lt, h.q.below hb h.q.lt, h.pa.below hb, h.qa.below hb, h.b.trans (hb.mono h.b.size)⟩
theorem Tq.start {w w1 w2 : World} {a a' : Option Addr} {c c' : Nat} {bs : List Bk} (x : Array Value) (hb : Below w.heap.size w w1) (hp : PAt w1 a bs) (hb2 : Below (w1.alloc (.cells #[.slice a bs.length c] 24)).heap.size (w1.alloc (.cells #[.slice a bs.length c] 24)) w2) (hq : PAt w2 a' bs) :
    Tq w ((w2.alloc (.cells #[.slice a' bs.length c'] 24)).alloc (.cells x 31)) w1.heap.size w2.heap.size a a' c c' bs := by
  obtain ⟨a1, hb0, hz⟩ := one_new w1 _ _ hb2
  have hB : Below w2.heap.size w2 ((w2.alloc (.cells #[.slice a' bs.length c'] 24)).alloc (.cells x 31)) := ((Below.refl _ _).alloc (Nat.le_refl _) _).alloc (by simp) _
  exact ⟨a1.below hB a1.lt, (At.new w2 _ 24).alloc _, (hp.below hb0).below hB, hq.below hB, (hb.trans (hb0.mono hb.size)).trans (hB.mono (by have := hb0.size; have := hb.size; omega))⟩
set_option maxHeartbeats 1000000 in
theorem tells_good (s : ByteArray) (bs : List Bk) (w : World) (hs : s.size ≤ maxLen) (hV : Vars w) (h : parseF s.data.toList = (none, bs)) : Calls Tryz.prog 3 #[.string s] w fun e w' => e = .returned (.bool true) ∧ Below w.heap.size w w' := by
  have HP : Hid (Calls Tryz.prog 6 #[.string s] w fun e w' => ∃ a c, e = .returned (.tuple #[.agg #[.slice a bs.length c], .nilIface]) ∧ PRow w' w.heap.size a c bs ∧ Below w.heap.size w w') := by
    have h' := parse_any s w hs hV
    rw [h] at h'
    exact h'
  have HR : Hid (∀ W, Calls Tryz.prog 7 #[.string s] W fun e w' => ∃ a c, e = .returned (.tuple #[.agg #[.slice a bs.length c], .agg #[.int .i64 0, .int .i64 0, .string ⟨#[]⟩]]) ∧ PAt w' a bs ∧ Below W.heap.size W w') := fun W => by
    have h' := dprog_any s W hs
    rw [h] at h'
    exact h'
  have HT : Hid (∀ W, Calls Tryz.prog 8 #[.nilIface, .agg #[.int .i64 0, .int .i64 0, .string ⟨#[]⟩]] W fun e w' => e = .returned (.bool true) ∧ Below W.heap.size W w') := fun W => told_nil W
  have HK : Hid (∀ W, Below w.heap.size w W → Calls Tryz.prog 10 #[] W fun e w' => e = .returned (.bool true) ∧ Below W.heap.size W w') := fun W hb => wakes_any W (hV.up hb)
  clear hV h
  go_enter Tryz.func3, Tryz.ntmps3
  go_wp2_with (first
    | (go_at_call 6; refine Calls.mono HP.out ?_; rintro e w1 ⟨a, c, rfl, hp, hb⟩; have H1 : Hid (PAt w1 a bs ∧ Below w.heap.size w w1) := ⟨hp.pat, hb⟩; clear hp hb HP)
    | (go_at_call 7; refine Calls.mono (HR.out _) ?_; rintro e w2 ⟨a', c', rfl, hp, hb⟩; have H2 : Hid (∀ x, Tq w ((w2.alloc (.cells #[.slice a' bs.length c'] 24)).alloc (.cells x 31)) w1.heap.size w2.heap.size a a' c c' bs) := fun x => Tq.start x H1.out.2 H1.out.1 hb hp; clear hp hb HR H1)
    | (go_at_call 8; refine Calls.mono (HT.out _) ?_; rintro e w3 ⟨rfl, hb⟩; have H3 : Hid _ := (H2.out _).up hb; have p0 := H3.out.p.c 0 _ rfl; have q0 := H3.out.q.c 0 _ rfl; clear hb HT H2)
    | (go_at_call 9; refine Calls.mono (likeProgram_any a a' c c' bs _ H3.out.pa H3.out.qa) ?_; rintro e w4 ⟨rfl, hb⟩; have H4 : Hid _ := H3.out.up hb; clear hb H3 p0 q0)
    | (go_at_call 10; refine Calls.mono (HK.out _ H4.out.b) ?_; rintro e w5 ⟨rfl, hb⟩; have H5 : Hid _ := H4.out.b.trans (hb.mono H4.out.b.size); clear hb H4 HK))
  go_ret
  exact ⟨rfl, H5.out⟩
set_option maxHeartbeats 1000000 in
theorem tells_bad (s : ByteArray) (f : Int × Wd') (bs : List Bk) (w : World) (hs : s.size ≤ maxLen) (hV : Vars w) (h : parseF s.data.toList = (some f, bs)) (hc : f.1 ≠ 0) : Calls Tryz.prog 3 #[.string s] w fun e w' => e = .returned (.bool true) ∧ Below w.heap.size w w' := by
  have HP : Hid (Calls Tryz.prog 6 #[.string s] w fun e w' => ∃ q, e = .returned (.tuple #[.agg #[.slice none 0 0], .iface 49 (.pointer (some ⟨q, 0, none⟩))]) ∧ FaultAt w' q f.1 f.2 ∧ Below w.heap.size w w') := by
    have h' := parse_any s w hs hV
    rw [h] at h'
    exact h'.mono fun e w' h => h.2
  have HR : Hid (∀ W, Calls Tryz.prog 7 #[.string s] W fun e w' => e = .returned (.tuple #[.agg #[.slice none 0 0], .agg #[.int .i64 f.1, .int .i64 (f.2.1 : Int), .string ⟨f.2.2.toArray⟩]]) ∧ Below W.heap.size W w') := fun W => by
    have h' := dprog_any s W hs
    rw [h] at h'
    exact h'
  have HT : Hid (∀ q W, Below w.heap.size w W → FaultAt W q f.1 f.2 → Calls Tryz.prog 8 #[.iface 49 (.pointer (some ⟨q, 0, none⟩)), .agg #[.int .i64 f.1, .int .i64 (f.2.1 : Int), .string ⟨f.2.2.toArray⟩]] W fun e w' => e = .returned (.bool true) ∧ Below W.heap.size W w') := fun q W hb hF => told_some q f.1 f.2 W (hV.up hb) hF hc
  have HK : Hid (∀ W, Below w.heap.size w W → Calls Tryz.prog 10 #[] W fun e w' => e = .returned (.bool true) ∧ Below W.heap.size W w') := fun W hb => wakes_any W (hV.up hb)
  have HL : Hid (∀ W, Calls Tryz.prog 9 #[.agg #[.slice none 0 0], .agg #[.slice none 0 0]] W fun e w' => e = .returned (.bool true) ∧ Below W.heap.size W w') := fun W => likeProgram_any none none 0 0 [] W (pAt_nil _ _) (pAt_nil _ _)
  have HX : Hid (∀ w1 w2 q x, FaultAt w1 q f.1 f.2 → Below w.heap.size w w1 → Below (w1.alloc (.cells #[.slice none 0 0] 24)).heap.size (w1.alloc (.cells #[.slice none 0 0] 24)) w2 → FaultAt ((w2.alloc (.cells #[.slice none 0 0] 24)).alloc (.cells x 31)) q f.1 f.2 ∧ Tq w ((w2.alloc (.cells #[.slice none 0 0] 24)).alloc (.cells x 31)) w1.heap.size w2.heap.size none none 0 0 []) := fun w1 w2 q x hF hb hb2 => by
    have ht : Tq w ((w2.alloc (.cells #[.slice none 0 0] 24)).alloc (.cells x 31)) w1.heap.size w2.heap.size none none 0 0 [] := Tq.start x hb (pAt_nil _ _) hb2 (pAt_nil _ _)
    obtain ⟨_, hb0, _⟩ := one_new w1 _ _ hb2
    have hB : Below w2.heap.size w2 ((w2.alloc (.cells #[.slice none 0 0] 24)).alloc (.cells x 31)) := ((Below.refl _ _).alloc (Nat.le_refl _) _).alloc (by simp) _
    refine ⟨?_, ht⟩
    unfold FaultAt at hF ⊢
    have hlt : q < w1.heap.size := FaultAt.lt (f := f.2) (c := f.1) hF
    rw [hB.block q (Nat.lt_of_lt_of_le hlt hb0.size), hb0.block q hlt]
    exact hF
  clear hV h
  generalize f.1 = fc at *
  generalize f.2 = ff at *
  go_enter Tryz.func3, Tryz.ntmps3
  go_wp2_with (first
    | (go_at_call 6; refine Calls.mono HP.out ?_; rintro e w1 ⟨q, rfl, hF, hb⟩; have H1 : Hid _ := hF; have H1b : Hid _ := hb; clear hF hb HP)
    | (go_at_call 7; refine Calls.mono (HR.out _) ?_; rintro e w2 ⟨rfl, hb⟩; have H2 : Hid _ := fun x => HX.out w1 w2 q x H1.out H1b.out hb; clear hb HR H1 H1b HX)
    | (go_at_call 8; refine Calls.mono (HT.out q _ (H2.out _).2.b (H2.out _).1) ?_; rintro e w3 ⟨rfl, hb⟩; have H3 : Hid _ := (H2.out _).2.up hb; have p0 := H3.out.p.c 0 _ rfl; have q0 := H3.out.q.c 0 _ rfl; clear hb HT H2)
    | (go_at_call 9; refine Calls.mono (HL.out _) ?_; rintro e w4 ⟨rfl, hb⟩; have H4 : Hid _ := H3.out.up hb; clear hb H3 p0 q0)
    | (go_at_call 10; refine Calls.mono (HK.out _ H4.out.b) ?_; rintro e w5 ⟨rfl, hb⟩; have H5 : Hid _ := H4.out.b.trans (hb.mono H4.out.b.size); clear hb H4 HK))
  go_ret
  exact ⟨rfl, H5.out⟩
theorem fault_not {l : List UInt8} {f : Int × Wd'} (h : (parseF l).1 = some f) : f.1 ≠ 0 := by
  unfold parseF at h
  split at h
  · cases h; decide
  · split at h
    · cases h; show (60 : Int) ≠ 0; decide
    · split at h
      · cases h
      · rename_i hk
        cases h; exact hk
theorem law_tells (s : ByteArray) (w : World) (hs : s.size ≤ maxLen) (hV : Vars w) : Calls Tryz.prog 3 #[.string s] w fun e w' => e = .returned (.bool true) ∧ Below w.heap.size w w' := by
  cases h : (parseF s.data.toList).1 with
  | none => exact tells_good s (parseF s.data.toList).2 w hs hV (by rw [← h])
  | some f => exact tells_bad s f (parseF s.data.toList).2 w hs hV (by rw [← h]) (fault_not h)
end Go.Proofs.YthfchelkfbboaaaGreatDoor.Pr

namespace Go.Proofs.YthfchelkfbboaaaGreatDoor.Pr
open Go.ChangeShapes Go.WideShapes Go.ChangeAt Go.RowKit

set_option maxRecDepth 100000 in
theorem tells_c_wit (os : Os) (H : Type) (enc : TypeId × Value → H) : ∃ (w : World) (tape : Tape) (i : Input), w.os = os ∧ (w.forCall tape i).Shaped Tryz.prog ∧ i.vars = [] ∧ Input.okWide Tryz.prog (w.forCall tape i) .any w.heap.size 3 i ∧
      ((Rows.parseTellsSpec.pre enc Tryz.prog Tryz.f3 [] false (w.forCall tape i).memory i.args ∧ laidMetH Tryz.prog Rows.parseTellsRow.laid (w.forCall tape i).memory) ∧ sizedMet enc Tryz.prog Tryz.f3 (OpenSpec.ofChange Rows.parseTellsSpec) false (w.forCall tape i).memory i.args) ∧ Assume.holds {} Tryz.prog (lone (Frame.enter Tryz.prog 3 i.args .normal) [] (w.forCall tape i)) :=
  ChangeSpec.witness_shaped (enc := enc) (C := Tryz.checked) (os := os) (X := fun w _ => laidMetH Tryz.prog Rows.parseTellsRow.laid w) false (({ World.holding Tryz.prog os ⟨#[], #[], []⟩ with heap := (World.holding Tryz.prog os ⟨#[], #[], []⟩).heap.modify 0 fun | .cells _ t fz => .cells #[.iface 150 (.agg #[.pointer (some ⟨8, 26, none⟩)])] t fz | o => o } : World).layVars Tryz.prog laid6) #[.string ⟨#[]⟩] 8 (wit_os os)
    (World.shaped_of_ZipB (by kernel_rfl) (by kernel_rfl)) (by kernel_rfl) (by kernel_rfl) (by kernel_rfl) (wit_met os _)

set_option maxRecDepth 100000 in
theorem tells_c_lifted (os : Os) (started : os.Started) (H : Type) (enc : TypeId × Value → H) :
    ReturnsInHanded {} Tryz.checked os 3 .any (fun w args => (Rows.parseTellsSpec.pre enc Tryz.prog Tryz.f3 [] false w args ∧ laidMetH Tryz.prog Rows.parseTellsRow.laid w) ∧ sizedMet enc Tryz.prog Tryz.f3 (OpenSpec.ofChange Rows.parseTellsSpec) false w args)
      (Rows.parseTellsSpec.post enc Tryz.prog Tryz.f3 false true false false) := by
  refine wrap started (by kernel_rfl) Tryz.func3 (tells_c_wit os H enc) ?_
  intro W base args ds gs before hval0 hW _ hL hsh
  have hval : ∀ (j : Nat) t v, Tryz.f3.params[j]? = some t → args[j]? = some v → Value.okWide Tryz.prog W .any base t v := hval0
  have hW' := hW
  obtain ⟨p, q, hA0, hV, rfl, _, _⟩ := hW
  have hA : DataW.TrodAll enc Tryz.prog W 0 (fun _ => true) true Tryz.f3.params.toList args.toList ds p := hA0
  rw [Tryz.params3] at hA hval
  obtain ⟨v0, d0, rfl, rfl, h0⟩ := trodAll_one hA
  obtain ⟨rfl, rfl⟩ := trodVars_none hV
  obtain ⟨s, rfl, rfl, rfl, hs⟩ := Go.ChangeMaps.open_string Tryz.underlying9 (hval 0 9 v0 rfl rfl) h0
  simp only [List.append_nil] at hW'
  refine (law_tells s W hs (vars_of hL hsh)).mono fun e W' ⟨he, hb⟩ => ?_
  subst he
  refine ⟨_, rfl, _, _, _, [], [], [], hW', trodAll_mk1 (shut_bool Tryz.underlying4 _), ?_, rfl, hb.frame _, fun h => by cases h⟩
  rw [Tryz.params3]
  exact trodAll_mk1 (Below.trod laidOut (by kernel_rfl) (by rw [tySize]; decide) h0 hb (fun x hx => by cases hx))

theorem tells_c_row : Rows.ParseTellsSaid :=
  OpenClaim.holds_of_wide 3 Tryz.f3 rfl rfl rfl rfl rfl rfl rfl ⟨rfl, rfl, rfl, rfl, rfl⟩ rfl rfl rfl rfl rfl (by kernel_rfl) Tryz.func3 (by kernel_rfl)
    (of_decide_eq_true (by kernel_rfl)) (by unfold Func.isWrapper; first | (rw [if_pos (by decide +kernel)]; kernel_rfl) | (rw [if_neg (by decide +kernel)]; exact ⟨rfl, rfl⟩))
    (fun os started H enc _ => tells_c_lifted os started H enc)

theorem tellsAll : Rows.ParseTellsCardSaid :=
  Claim7.holds_tied_plain_at .later [] [.data, .data, .data, .handle, .sentinel, .sentinel, .data] true (true, "559803d73ea72840fbedaa5ba8ab91b7d5ea7e0181b392575a7ca54c53adc3b6") true tells_c_row (fun _ h => by cases h) (by kernel_rfl) (fun _ h => by cases h) parseTells_row_tie rfl ⟨rfl, rfl⟩ (by kernel_rfl) rfl
    (fun f fn hf hfn => by
      obtain rfl : f = 3 := Option.some.inj ((show Tryz.prog.funcNamed "hayloft/hayloftlaw05.ParseTells" = some 3 by kernel_rfl).symm.trans hf) |>.symm
      obtain rfl : fn = Tryz.f3 := (Option.some.inj (Tryz.func3.symm.trans hfn)).symm
      exact ⟨by kernel_rfl, fun j t ht => by
        rw [Tryz.params3] at ht
        have hm : t ∈ [9] := by simpa using Array.mem_of_getElem? ht
        have hall : ([9].all fun u => !Tryz.prog.wantsStandIn u) = true := by kernel_rfl
        exact (show Tryz.prog.wantsStandIn t = false by simpa using List.all_eq_true.1 hall t hm)⟩)
    (by kernel_rfl)

end Go.Proofs.YthfchelkfbboaaaGreatDoor.Pr
