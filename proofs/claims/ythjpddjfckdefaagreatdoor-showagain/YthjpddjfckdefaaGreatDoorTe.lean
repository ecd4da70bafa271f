/- What package ops writes of an operation (Text), read off the program by the walk. Conditions: the table of powers lies in memory; the fields are numbers of their own width. -/
import Derived.Test.YthjpddjfckdefaaGreatDoorWx
namespace Go.Proofs.YthjpddjfckdefaaGreatDoor.Op
open Go.ChangeShapes Go.WideShapes Go.ChangeAt Go.RowKit
set_option maxRecDepth 20000

/-- The text of an operation, piece by piece. -/
def pD (k : K) (o : O) : List UInt8 := if k.D then 32 :: 114 :: Lib.itoa o.d else []
def pA (k : K) (o : O) : List UInt8 := if k.A then 32 :: 114 :: Lib.itoa o.a else []
def pB (k : K) (o : O) : List UInt8 := if k.B then 32 :: 114 :: Lib.itoa o.b else if k.N then 32 :: Lib.itoa o.b else []
def pI (k : K) (o : O) : List UInt8 := if k.I then 32 :: Lib.itoa o.im else []
def textL (k : K) (o : O) : List UInt8 := k.name ++ pD k o ++ pA k o ++ pB k o ++ pI k o
theorem join_eq (k : K) (o : O) : Lib.join ((wordsS k o).map (·.data.toList)) [32] = textL k o := by
  unfold wordsS textL pD pA pB pI
  cases k.D <;> cases k.A <;> cases k.B <;> cases k.N <;> cases k.I <;> simp [Lib.join_cons, Lib.joinTail, regS, itS, K.s]
theorem nameLen_all : (kindL.all fun k => decide (k.name.length ≤ 6)) = true := by decide
theorem name_len {d : Int} {k : K} (h : kOf d = some k) : k.name.length ≤ 6 := by
  obtain ⟨n, hn, -, rfl⟩ := kOf_some h
  have := List.all_eq_true.1 nameLen_all _ (List.getElem_mem (l := kindL) hn)
  simpa using this
theorem piece_len (k : K) (o : O) (ho : o.Ok) : (pD k o).length ≤ 22 ∧ (pA k o).length ≤ 22 ∧ (pB k o).length ≤ 22 ∧ (pI k o).length ≤ 22 := by
  obtain ⟨_, _, d0, d1, a0, a1, b0, b1, i0, i1⟩ := ho
  have h1 := itoa_len o.d (by omega) (by omega)
  have h2 := itoa_len o.a (by omega) (by omega)
  have h3 := itoa_len o.b (by omega) (by omega)
  have h4 := itoa_len o.im (by omega) (by omega)
  unfold pD pA pB pI
  refine ⟨?_, ?_, ?_, ?_⟩ <;> split <;> (try split) <;> simp <;> omega
theorem text_len (k : K) (o : O) (ho : o.Ok) (hn : k.name.length ≤ 6) : (textL k o).length ≤ 94 := by
  obtain ⟨h1, h2, h3, h4⟩ := piece_len k o ho
  simp [textL]; omega
theorem wordsS_len (k : K) (o : O) : (wordsS k o).length ≤ 5 := by
  unfold wordsS
  cases k.D <;> cases k.A <;> cases k.B <;> cases k.N <;> cases k.I <;> simp

theorem text_no (o : O) (w : World) (ho : o.Ok) (h : okO o = false) : Calls Tryz.prog 35 #[o.val] w fun e w' => e = .returned (.tuple #[.string ⟨#[]⟩, .int .i64 30]) ∧ Below w.heap.size w w' := by
  have HC : Hid _ := fun w => checked_no o w ho h
  clear ho h
  go_enter Tryz.func35, Tryz.ntmps35
  go_wp2_with (first | (go_at_call 47; refine Calls.mono (HC.out _) ?_; rintro e w1 ⟨rfl, hb⟩; obtain ⟨-, hb0, hz⟩ := one_new w _ _ hb; have HB : Hid (Below w.heap.size w w1) := hb0; clear hb hb0))
  go_ret2
  exact ⟨rfl, HB.out.trans ((Below.refl _ _).alloc (Nat.le_of_lt hz) _)⟩

theorem text_yes (o : O) (k : K) (w : World) (hE : Pow w) (ho : o.Ok) (hk : kOf o.op = some k) (hf : okF k o = true) :
    Calls Tryz.prog 35 #[o.val] w fun e w' => e = .returned (.tuple #[.string ⟨(textL k o).toArray⟩, .int .i64 0]) ∧ Below w.heap.size w w' := by
  have HC : Hid _ := fun w => checked_yes o k w hk hf
  have HW : Hid (∀ w, Pow w → Calls Tryz.prog 48 #[k.val, o.val] w (WordsPost k o w)) := fun w hE => words_any k o w hE ho
  have HE : Hid (Pow w) := hE
  have HL : Hid ((textL k o).length ≤ 94) := text_len k o ho (name_len hk)
  clear hk hf hE ho
  go_enter Tryz.func35, Tryz.ntmps35
  go_wp2_with (first | (go_at_call 47; refine Calls.mono (HC.out _) ?_; rintro e w1 ⟨rfl, hb⟩; obtain ⟨a1, hb0, hz⟩ := one_new w _ _ hb; obtain ⟨o0, o1, o2, o3, o4⟩ := a1.o5; have HB : Hid (Below w.heap.size w w1) := hb0; clear hb hb0 a1) | (go_at_call 48; refine Calls.mono (HW.out _ ((HE.out.bl HB.out).al _)) ?_; rintro e w2 ⟨g, cap, rfl, hcap, hcells, hlt, hb⟩; obtain ⟨-, hb0, -⟩ := one_new w1 _ _ hb; have HB2 : Hid (Below w.heap.size w w2) := HB.out.trans (hb0.mono (Nat.le_of_lt hz)); have HG : Hid _ := And.intro hcap (And.intro hcells hlt); clear hb hb0 hcap hcells hlt) | (go_at_call 18; refine Calls.mono (Tryz.strings_Join g 0 cap (wordsS k o) ⟨#[32]⟩ w2 (fun j x hj => by rw [Nat.zero_add]; exact HG.out.2.1 j x hj) HG.out.2.2 (by have := wordsS_len k o; omega) HG.out.1 (by rw [join_eq]; have := HL.out; omega)) ?_; rintro e w3 ⟨rfl, hb3⟩))
  go_ret2
  refine ⟨?_, HB2.out.trans (hb3.mono HB2.out.size)⟩
  rw [join_eq]
  rfl
end Go.Proofs.YthjpddjfckdefaaGreatDoor.Op
