/- The statement ShowWrites, out of what its callees answer: read off the program by the walk. Conditions: the program lies in memory; the variables lie there as the program lays them. -/
import Derived.Test.YthjpddjfckdefaaDoorRx
import Derived.Test.YthjpddjfckdefaaDoorSk
import Derived.Test.YthjpddjfckdefaaDoorCw
import Derived.Test.YthjpddjfckdefaaDoorLk
namespace Go.Proofs.YthjpddjfckdefaaDoor.Op
open Go.ChangeShapes Go.WideShapes Go.ChangeAt Go.RowKit
set_option maxRecDepth 20000

theorem ck_great {ps : List Bk} (h : greatB ps = true) : ckP ps = 3 := by
  unfold greatB at h
  simp at h
  unfold ckP
  rw [if_pos (.inr (by omega))]
theorem show_great {ps : List Bk} (h : greatB ps = true) : showT ps = ([], 3) := by
  unfold showT
  rw [ck_great h, if_neg (by decide)]
set_option maxHeartbeats 1000000 in
theorem writes_great (ao : Option Addr) (cap : Nat) (ps : List Bk) (w : World) (h : PAt w ao ps) (hE : Env w) (hP : Pow w) (hg : greatB ps = true) :
    Calls Tryd.prog 3 #[.agg #[.slice ao ps.length cap]] w fun e w' => e = .returned (.bool true) ∧ Below w.heap.size w w' := by
  have HQ : Hid (Tb w (w.alloc (.cells #[.slice ao ps.length cap] 24)) #[.slice ao ps.length cap]) := ⟨At.new _ _ _, (Below.refl _ _).alloc (Nat.le_refl _) _⟩
  have HG : Hid (∀ W, Below w.heap.size w W → Calls Tryd.prog 4 #[.agg #[.slice ao ps.length cap]] W fun e w' => e = .returned (.bool true) ∧ Below W.heap.size W w') := fun W hb => by
    have := great_any ao cap ps W (h.below hb)
    rw [hg] at this
    exact this
  have HT : Hid (∀ W, Below w.heap.size w W → Calls Tryd.prog 5 #[.agg #[.slice ao ps.length cap]] W fun e w' => e = .returned (.tuple #[.string ⟨#[]⟩, .int .i64 3]) ∧ Below W.heap.size W w') := fun W hb => by
    have := text_any ao cap ps W (h.below hb) (hE.up hb) (hP.bl hb)
    rw [show_great hg] at this
    exact this
  have HK : Hid (∀ W, Below w.heap.size w W → Calls Tryd.prog 6 #[] W fun e w' => e = .returned (.bool true) ∧ Below W.heap.size W w') := fun W hb => wakes_any W (hE.up hb) (hP.bl hb)
  clear h hE hP hg
  go_enter Tryd.func3, Tryd.ntmps3
  go_wp2_with (first
    | (go_at_call 4; refine Calls.mono (HG.out _ HQ.out.b) ?_; rintro e w1 ⟨rfl, hb⟩; have H1 : Hid _ := HQ.out.up hb; clear hb HQ HG; have c0 := H1.out.a.c 0 _ rfl)
    | (go_at_call 5; refine Calls.mono (HT.out _ H1.out.b) ?_; rintro e w2 ⟨rfl, hb⟩; have H2 : Hid _ := H1.out.up hb; clear hb H1 HT c0)
    | (go_at_call 6; refine Calls.mono (HK.out _ H2.out.b) ?_; rintro e w3 ⟨rfl, hb⟩; have H3 : Hid _ := H2.out.up hb; clear hb H2 HK))
  go_ret
  exact ⟨rfl, H3.out.b⟩
/-- Two programs and their boxes. -/
structure Wz (w V : World) (ao a : Option Addr) (cap c q : Nat) (ps : List Bk) : Prop where
  x : At V w.heap.size #[.slice ao ps.length cap]
  m : At V q #[.slice a ps.length c]
  p : PAt V a ps
  b : Below w.heap.size w V
theorem Wz.up {w V V' : World} {ao a : Option Addr} {cap c q : Nat} {ps : List Bk} (h : Wz w V ao a cap c q ps) (hb : Below V.heap.size V V') : Wz w V' ao a cap c q ps := ⟨h.x.below hb h.x.lt, h.m.below hb h.m.lt, h.p.below hb, h.b.trans (hb.mono h.b.size)⟩
set_option maxHeartbeats 2000000 in
theorem writes_small (ao : Option Addr) (cap : Nat) (ps : List Bk) (w : World) (h : PAt w ao ps) (hE : Env w) (hP : Pow w) (hg : greatB ps = false) :
    Calls Tryd.prog 3 #[.agg #[.slice ao ps.length cap]] w fun e w' => e = .returned (.bool true) ∧ Below w.heap.size w w' := by
  have HQ : Hid (Tb w (w.alloc (.cells #[.slice ao ps.length cap] 24)) #[.slice ao ps.length cap]) := ⟨At.new _ _ _, (Below.refl _ _).alloc (Nat.le_refl _) _⟩
  have HG : Hid (∀ W, Below w.heap.size w W → Calls Tryd.prog 4 #[.agg #[.slice ao ps.length cap]] W fun e w' => e = .returned (.bool false) ∧ Below W.heap.size W w') := fun W hb => by
    have := great_any ao cap ps W (h.below hb)
    rw [hg] at this
    exact this
  have HC : Hid (∀ W, Below w.heap.size w W → Calls Tryd.prog 7 #[.agg #[.slice ao ps.length cap]] W fun e w' => ∃ a c, e = .returned (.agg #[.slice a ps.length c]) ∧ PAt w' a ps ∧ Below W.heap.size W w') := fun W hb => copiedProgram_any ao cap ps W (h.below hb) (small_of h hg)
  have HT : Hid (∀ a c W, PAt W a ps → Below w.heap.size w W → Calls Tryd.prog 5 #[.agg #[.slice a ps.length c]] W fun e w' => e = .returned (.tuple #[.string ⟨(showT ps).1.toArray⟩, .int .i64 (showT ps).2]) ∧ Below W.heap.size W w') := fun a c W hp hb => text_any a c ps W hp (hE.up hb) (hP.bl hb)
  have HR : Hid (∀ W, Below w.heap.size w W → Calls Tryd.prog 8 #[.agg #[.slice ao ps.length cap]] W fun e w' => e = .returned (.tuple #[.string ⟨(showT ps).1.toArray⟩, .int .i64 (showT ps).2]) ∧ Below W.heap.size W w') := fun W hb => rtext_any ao cap ps W (h.below hb)
  have HL : Hid (∀ a c W, PAt W a ps → Below w.heap.size w W → Calls Tryd.prog 9 #[.agg #[.slice a ps.length c], .agg #[.slice ao ps.length cap]] W fun e w' => e = .returned (.bool true) ∧ Below W.heap.size W w') := fun a c W hp hb => likeProgram_any a ao c cap ps W hp (h.below hb)
  have HK : Hid (∀ W, Below w.heap.size w W → Calls Tryd.prog 6 #[] W fun e w' => e = .returned (.bool true) ∧ Below W.heap.size W w') := fun W hb => wakes_any W (hE.up hb) (hP.bl hb)
  clear h hE hP hg
  generalize (showT ps).1 = s1 at *
  generalize (showT ps).2 = s2 at *
  go_enter Tryd.func3, Tryd.ntmps3
  go_wp2_with (first
    | (go_at_call 4; refine Calls.mono (HG.out _ HQ.out.b) ?_; rintro e w1 ⟨rfl, hb⟩; have H1 : Hid _ := HQ.out.up hb; clear hb HQ HG; have c0 := H1.out.a.c 0 _ rfl)
    | (go_at_call 7; refine Calls.mono (HC.out _ H1.out.b) ?_; rintro e w2 ⟨a, c, rfl, hp, hb⟩; have H2 : Hid (Wz w (w2.alloc (.cells #[.slice a ps.length c] 24)) ao a cap c w2.heap.size ps) := ⟨(H1.out.up hb).a.alloc _, At.new _ _ _, hp.below ((Below.refl _ _).alloc (Nat.le_refl _) _), (H1.out.up hb).b.alloc (H1.out.up hb).b.size _⟩; clear hb hp H1 HC c0)
    | (go_at_call 5; refine Calls.mono (HT.out a c _ H2.out.p H2.out.b) ?_; rintro e w3 ⟨rfl, hb⟩; have H3 : Hid _ := H2.out.up hb; clear hb H2 HT; have c1 := H3.out.x.c 0 _ rfl)
    | (go_at_call 8; refine Calls.mono (HR.out _ H3.out.b) ?_; rintro e w4 ⟨rfl, hb⟩; have H4 : Hid _ := H3.out.up hb; clear hb H3 HR c1; have c2 := H4.out.x.c 0 _ rfl; have c3 := H4.out.m.c 0 _ rfl)
    | (go_at_call 9; refine Calls.mono (HL.out a c _ H4.out.p H4.out.b) ?_; rintro e w5 ⟨rfl, hb⟩; have H5 : Hid _ := H4.out.up hb; clear hb H4 HL c2 c3)
    | (go_at_call 6; refine Calls.mono (HK.out _ H5.out.b) ?_; rintro e w6 ⟨rfl, hb⟩; have H6 : Hid _ := H5.out.up hb; clear hb H5 HK))
  go_ret
  exact ⟨rfl, H6.out.b⟩
theorem law_writes (ao : Option Addr) (cap : Nat) (ps : List Bk) (w : World) (h : PAt w ao ps) (hE : Env w) (hP : Pow w) :
    Calls Tryd.prog 3 #[.agg #[.slice ao ps.length cap]] w fun e w' => e = .returned (.bool true) ∧ Below w.heap.size w w' := by
  cases hg : greatB ps
  · exact writes_small ao cap ps w h hE hP hg
  · exact writes_great ao cap ps w h hE hP hg
end Go.Proofs.YthjpddjfckdefaaDoor.Op
