/- The document's answer on what an operation writes and reads (Writes, Reads), read off the program by the walk. Conditions: each field is a number of its own width. -/
import Derived.Test.YtddcndlogoajkaaGreatDoorQRk
import Derived.Test.YtddcndlogoajkaaGreatDoorJa
import Derived.Test.YtddcndlogoajkaaGreatDoorQRg
import Derived.Deep.AppendLies
namespace Go.Proofs.YtddcndlogoajkaaGreatDoor.L8.Op
open Go.ChangeShapes Go.WideShapes Go.ChangeAt Go.RowKit
set_option maxRecDepth 20000
theorem and63 (n : Int) : bits .and .i64 n 63 = n % 64 := by
  have h63 : (BitVec.ofInt 64 63).toNat = 2 ^ 6 - 1 := by decide
  have key : (BitVec.ofInt 64 n &&& BitVec.ofInt 64 63).toNat = (n % ((2 ^ 64 : Nat) : Int)).toNat % 2 ^ 6 := by
    rw [BitVec.toNat_and, BitVec.toNat_ofInt, h63, Nat.and_two_pow_sub_one_eq_mod]
  show IntKind.i64.wrap ((BitVec.ofInt 64 n &&& BitVec.ofInt 64 63).toNat : Nat) = n % 64
  rw [key, IntKind.wrap_i64]
  omega
theorem ret_two {k l : IntKind} {a b c d : Int} (h : a = b) (g : c = d) : Ending.returned (.tuple #[.int k a, .int l c]) = .returned (.tuple #[.int k b, .int l d]) := by rw [h, g]
theorem truth_any (x : Bool) (w : World) : Calls Tryz.prog 87 #[.bool x] w fun e w' => e = .returned (.int .i64 (b2i x)) ∧ w' = w := by
  cases x
  all_goals
    go_enter Tryz.func87, Tryz.ntmps87
    go_wp2
    go_ret
    exact ⟨rfl, rfl⟩
theorem rf2 (a b : Int) (w : World) : Calls Tryz.prog 68 #[.int .i8 2, .int .i64 a, .int .i64 b] w fun e w' => e = .returned (.tuple #[.int .i64 (rkV 2 a b), .int .i64 (rkE 2 b)]) ∧ w' = w := by
  go_enter Tryz.func68, Tryz.ntmps68
  go_wp2_with (first | (go_at_call 87; refine (truth_any _ _).mono ?_; rintro e w' ⟨rfl, rfl⟩))
  go_ret2
  exact ⟨rfl, rfl⟩
theorem rf3 (a b : Int) (w : World) : Calls Tryz.prog 68 #[.int .i8 3, .int .i64 a, .int .i64 b] w fun e w' => e = .returned (.tuple #[.int .i64 (rkV 3 a b), .int .i64 (rkE 3 b)]) ∧ w' = w := by
  go_enter Tryz.func68, Tryz.ntmps68
  go_wp2_with (first | (go_at_call 87; refine (truth_any _ _).mono ?_; rintro e w' ⟨rfl, rfl⟩))
  go_ret2
  exact ⟨rfl, rfl⟩
theorem rf4 (a b : Int) (w : World) : Calls Tryz.prog 68 #[.int .i8 4, .int .i64 a, .int .i64 b] w fun e w' => e = .returned (.tuple #[.int .i64 (rkV 4 a b), .int .i64 (rkE 4 b)]) ∧ w' = w := by
  go_enter Tryz.func68, Tryz.ntmps68
  go_wp2_with (first | (go_at_call 87; refine (truth_any _ _).mono ?_; rintro e w' ⟨rfl, rfl⟩))
  go_ret2
  exact ⟨rfl, rfl⟩
theorem rf5 (a b : Int) (w : World) : Calls Tryz.prog 68 #[.int .i8 5, .int .i64 a, .int .i64 b] w fun e w' => e = .returned (.tuple #[.int .i64 (rkV 5 a b), .int .i64 (rkE 5 b)]) ∧ w' = w := by
  go_enter Tryz.func68, Tryz.ntmps68
  go_wp2_with (first | (go_at_call 87; refine (truth_any _ _).mono ?_; rintro e w' ⟨rfl, rfl⟩))
  go_ret2
  exact ⟨rfl, rfl⟩
theorem rf6 (a b : Int) (w : World) : Calls Tryz.prog 68 #[.int .i8 6, .int .i64 a, .int .i64 b] w fun e w' => e = .returned (.tuple #[.int .i64 (rkV 6 a b), .int .i64 (rkE 6 b)]) ∧ w' = w := by
  go_enter Tryz.func68, Tryz.ntmps68
  go_wp2_with (first | (go_at_call 87; refine (truth_any _ _).mono ?_; rintro e w' ⟨rfl, rfl⟩))
  go_ret2
  exact ⟨rfl, rfl⟩
theorem rf7 (a b : Int) (w : World) : Calls Tryz.prog 68 #[.int .i8 7, .int .i64 a, .int .i64 b] w fun e w' => e = .returned (.tuple #[.int .i64 (rkV 7 a b), .int .i64 (rkE 7 b)]) ∧ w' = w := by
  have H63 := and63 b
  have hd : 0 ≤ b % 64 := by omega
  have hd2 : b % 64 < 64 := by omega
  go_enter Tryz.func68, Tryz.ntmps68
  go_wp2_with (first | (go_at_call 87; refine (truth_any _ _).mono ?_; rintro e w' ⟨rfl, rfl⟩))
  go_ret2
  exact ⟨rfl, rfl⟩
theorem rf8 (a b : Int) (w : World) : Calls Tryz.prog 68 #[.int .i8 8, .int .i64 a, .int .i64 b] w fun e w' => e = .returned (.tuple #[.int .i64 (rkV 8 a b), .int .i64 (rkE 8 b)]) ∧ w' = w := by
  have H63 := and63 b
  have hd : 0 ≤ b % 64 := by omega
  have hd2 : b % 64 < 64 := by omega
  go_enter Tryz.func68, Tryz.ntmps68
  go_wp2_with (first | (go_at_call 87; refine (truth_any _ _).mono ?_; rintro e w' ⟨rfl, rfl⟩))
  go_ret2
  exact ⟨rfl, rfl⟩
theorem rf9 (a b : Int) (w : World) : Calls Tryz.prog 68 #[.int .i8 9, .int .i64 a, .int .i64 b] w fun e w' => e = .returned (.tuple #[.int .i64 (rkV 9 a b), .int .i64 (rkE 9 b)]) ∧ w' = w := by
  go_enter Tryz.func68, Tryz.ntmps68
  go_wp2_with (first | (go_at_call 87; refine (truth_any _ _).mono ?_; rintro e w' ⟨rfl, rfl⟩))
  go_ret2
  exact ⟨rfl, rfl⟩
theorem rf10 (a b : Int) (w : World) : Calls Tryz.prog 68 #[.int .i8 10, .int .i64 a, .int .i64 b] w fun e w' => e = .returned (.tuple #[.int .i64 (rkV 10 a b), .int .i64 (rkE 10 b)]) ∧ w' = w := by
  go_enter Tryz.func68, Tryz.ntmps68
  go_wp2_with (first | (go_at_call 87; refine (truth_any _ _).mono ?_; rintro e w' ⟨rfl, rfl⟩))
  go_ret2
  exact ⟨rfl, rfl⟩
theorem rf11 (a b : Int) (w : World) : Calls Tryz.prog 68 #[.int .i8 11, .int .i64 a, .int .i64 b] w fun e w' => e = .returned (.tuple #[.int .i64 (rkV 11 a b), .int .i64 (rkE 11 b)]) ∧ w' = w := by
  go_enter Tryz.func68, Tryz.ntmps68
  go_wp2_with (first | (go_at_call 87; refine (truth_any _ _).mono ?_; rintro e w' ⟨rfl, rfl⟩))
  go_ret2
  exact ⟨rfl, rfl⟩
theorem rf12 (a b : Int) (w : World) : Calls Tryz.prog 68 #[.int .i8 12, .int .i64 a, .int .i64 b] w fun e w' => e = .returned (.tuple #[.int .i64 (rkV 12 a b), .int .i64 (rkE 12 b)]) ∧ w' = w := by
  go_enter Tryz.func68, Tryz.ntmps68
  go_wp2_with (first | (go_at_call 87; refine (truth_any _ _).mono ?_; rintro e w' ⟨rfl, rfl⟩))
  go_ret2
  exact ⟨rfl, rfl⟩
theorem rf13 (a b : Int) (w : World) (h1 : -9223372036854775808 ≤ a) (h2 : a ≤ 9223372036854775807) : Calls Tryz.prog 68 #[.int .i8 13, .int .i64 a, .int .i64 b] w fun e w' => e = .returned (.tuple #[.int .i64 (rkV 13 a b), .int .i64 (rkE 13 b)]) ∧ w' = w := by
  have hr : Hid (wrap64 (a - wrap64 (wrap64 (a.tdiv b) * b)) = a.tmod b) := rest_form a b h1 h2
  clear h1 h2
  by_cases hb : b = 0
  · have e1 : rkV 13 a b = 0 := by subst hb; rfl
    have e2 : rkE 13 b = 101 := by subst hb; rfl
    rw [e1, e2]
    subst hb
    clear hr e1 e2
    go_enter Tryz.func68, Tryz.ntmps68
    go_wp2_with (first | (go_at_call 87; refine (truth_any _ _).mono ?_; rintro e w' ⟨rfl, rfl⟩))
    go_ret2
    exact ⟨rfl, rfl⟩
  · have e1 : rkV 13 a b = wrap64 (a.tdiv b) := by unfold rkV; simp [hb]
    have e2 : rkE 13 b = 0 := by unfold rkE; simp [hb]
    rw [e1, e2]
    clear e1 e2
    have hq : (b == 0) = false := by simp [hb]
    go_enter Tryz.func68, Tryz.ntmps68
    go_wp2_with (first | (go_at_call 87; refine (truth_any _ _).mono ?_; rintro e w' ⟨rfl, rfl⟩))
    go_ret2
    exact ⟨rfl, rfl⟩
theorem rf14 (a b : Int) (w : World) (h1 : -9223372036854775808 ≤ a) (h2 : a ≤ 9223372036854775807) : Calls Tryz.prog 68 #[.int .i8 14, .int .i64 a, .int .i64 b] w fun e w' => e = .returned (.tuple #[.int .i64 (rkV 14 a b), .int .i64 (rkE 14 b)]) ∧ w' = w := by
  have hr : Hid (wrap64 (a - wrap64 (wrap64 (a.tdiv b) * b)) = a.tmod b) := rest_form a b h1 h2
  clear h1 h2
  by_cases hb : b = 0
  · have e1 : rkV 14 a b = 0 := by subst hb; rfl
    have e2 : rkE 14 b = 101 := by subst hb; rfl
    rw [e1, e2]
    subst hb
    clear hr e1 e2
    go_enter Tryz.func68, Tryz.ntmps68
    go_wp2_with (first | (go_at_call 87; refine (truth_any _ _).mono ?_; rintro e w' ⟨rfl, rfl⟩))
    go_ret2
    exact ⟨rfl, rfl⟩
  · have e1 : rkV 14 a b = a.tmod b := by unfold rkV; simp [hb]
    have e2 : rkE 14 b = 0 := by unfold rkE; simp [hb]
    rw [e1, e2]
    clear e1 e2
    have hq : (b == 0) = false := by simp [hb]
    go_enter Tryz.func68, Tryz.ntmps68
    go_wp2_with (first | (go_at_call 87; refine (truth_any _ _).mono ?_; rintro e w' ⟨rfl, rfl⟩))
    go_ret2
    exact ⟨ret_two hr.out rfl, rfl⟩
theorem rfNone (d a b : Int) (w : World) (h : d < 2 ∨ 14 < d) : Calls Tryz.prog 68 #[.int .i8 d, .int .i64 a, .int .i64 b] w fun e w' => e = .returned (.tuple #[.int .i64 (rkV d a b), .int .i64 (rkE d b)]) ∧ w' = w := by
  have e1 : rkV d a b = 0 := by unfold rkV; repeat (rw [if_neg (by omega)])
  have e2 : rkE d b = 2 := by unfold rkE; repeat (rw [if_neg (by omega)])
  rw [e1, e2]
  clear e1 e2
  have g2 : (d == 2) = false := by simp; omega
  have g3 : (d == 3) = false := by simp; omega
  have g4 : (d == 4) = false := by simp; omega
  have g5 : (d == 5) = false := by simp; omega
  have g6 : (d == 6) = false := by simp; omega
  have g7 : (d == 7) = false := by simp; omega
  have g8 : (d == 8) = false := by simp; omega
  have g9 : (d == 9) = false := by simp; omega
  have g10 : (d == 10) = false := by simp; omega
  have g11 : (d == 11) = false := by simp; omega
  have g12 : (d == 12) = false := by simp; omega
  have g13 : (d == 13) = false := by simp; omega
  have g14 : (d == 14) = false := by simp; omega
  clear h
  go_enter Tryz.func68, Tryz.ntmps68
  go_wp2
  go_ret2
  exact ⟨rfl, rfl⟩
theorem rf_any (d a b : Int) (w : World) (h1 : -9223372036854775808 ≤ a) (h2 : a ≤ 9223372036854775807) : Calls Tryz.prog 68 #[.int .i8 d, .int .i64 a, .int .i64 b] w fun e w' => e = .returned (.tuple #[.int .i64 (rkV d a b), .int .i64 (rkE d b)]) ∧ w' = w := by
  by_cases h : d < 2 ∨ 14 < d
  · exact rfNone d a b w h
  · have hh : d = 2 ∨ d = 3 ∨ d = 4 ∨ d = 5 ∨ d = 6 ∨ d = 7 ∨ d = 8 ∨ d = 9 ∨ d = 10 ∨ d = 11 ∨ d = 12 ∨ d = 13 ∨ d = 14 := by omega
    rcases hh with rfl | rfl | rfl | rfl | rfl | rfl | rfl | rfl | rfl | rfl | rfl | rfl | rfl
    · exact rf2 a b w
    · exact rf3 a b w
    · exact rf4 a b w
    · exact rf5 a b w
    · exact rf6 a b w
    · exact rf7 a b w
    · exact rf8 a b w
    · exact rf9 a b w
    · exact rf10 a b w
    · exact rf11 a b w
    · exact rf12 a b w
    · exact rf13 a b w h1 h2
    · exact rf14 a b w h1 h2
end Go.Proofs.YtddcndlogoajkaaGreatDoor.L8.Op
namespace Go.Proofs.YtddcndlogoajkaaGreatDoor.L8.Op
open Go.ChangeShapes Go.WideShapes Go.ChangeAt Go.RowKit
set_option maxRecDepth 20000


set_option maxHeartbeats 1000000 in
theorem refWrites_any (o : O) (w : World) (ho : o.Ok) : Calls Tryz.prog 44 #[o.val] w fun e w' => e = .returned (.tuple #[.int .u8 (wrD o), .bool (wrB o)]) ∧ Below w.heap.size w w' := by
  cases hk : kOf o.op with
  | none =>
    have hw : wrB o = false := wr_no (okO_none hk)
    rw [show wrD o = 0 by simp [wrD, hw], hw]
    have HF : Hid _ := fun w => of_no o.op w hk
    have HC : Hid (∀ w, Calls Tryz.prog 74 #[o.val] w fun e w' => e = .returned (.int .i64 30) ∧ Below w.heap.size w w') := fun w => refCheck_none o w hk
    clear hk hw ho
    go_enter Tryz.func44, Tryz.ntmps44
    go_wp2_with (first | (go_at_call 67; refine Calls.mono (HF.out _) ?_; rintro e w1 ⟨rfl, hb⟩; obtain ⟨a1, hb0, hz⟩ := one_new w _ _ hb; have HB : Hid (Below w.heap.size w w1) := hb0; have HO : Hid _ := a1; obtain ⟨o0, o1, o2, o3, o4⟩ := a1.o5; clear hb hb0 a1) | (go_at_call 74; refine Calls.mono (HC.out _) ?_; rintro e w2 ⟨rfl, hb⟩; obtain ⟨-, hb0, hz2⟩ := one_new w1 _ _ hb; have HB2 : Hid (Below w.heap.size w w2) := HB.out.trans (hb0.mono (Nat.le_of_lt hz)); clear hb hb0))
    go_ret2
    exact ⟨rfl, HB2.out⟩
  | some k =>
    have HF : Hid _ := fun w => of_yes o.op k w hk
    have HC0 := fun w => refCheck_any o w ho
    cases hf : okF k o
    · have hO : okO o = false := by rw [okO_some hk]; exact hf
      have hw : wrB o = false := wr_no hO
      rw [show wrD o = 0 by simp [wrD, hw], hw]
      rw [show ckE o = 30 by simp [ckE, hO]] at HC0
      have HC : Hid _ := HC0
      clear hk hw ho hO hf HC0
      go_enter Tryz.func44, Tryz.ntmps44
      go_wp2_with (first | (go_at_call 67; refine Calls.mono (HF.out _) ?_; rintro e w1 ⟨rfl, hb⟩; obtain ⟨a1, hb0, hz⟩ := one_new w _ _ hb; have HB : Hid (Below w.heap.size w w1) := hb0; have HO : Hid _ := a1; obtain ⟨o0, o1, o2, o3, o4⟩ := a1.o5; clear hb hb0 a1) | (go_at_call 74; refine Calls.mono (HC.out _) ?_; rintro e w2 ⟨rfl, hb⟩; obtain ⟨-, hb0, hz2⟩ := one_new w1 _ _ hb; have HB2 : Hid (Below w.heap.size w w2) := HB.out.trans (hb0.mono (Nat.le_of_lt hz)); clear hb hb0))
      go_ret2
      exact ⟨rfl, HB2.out⟩
    · have hO : okO o = true := by rw [okO_some hk]; exact hf
      have hw := wr_yes hk hf
      rw [show ckE o = 0 by simp [ckE, hO]] at HC0
      have HC : Hid _ := HC0
      cases hD : k.D
      · rw [hD] at hw
        rw [show wrD o = 0 by simp [wrD, hw], hw]
        clear hk hw ho hO hf HC0
        go_enter Tryz.func44, Tryz.ntmps44
        go_wp2_with (first | (go_at_call 67; refine Calls.mono (HF.out _) ?_; rintro e w1 ⟨rfl, hb⟩; obtain ⟨a1, hb0, hz⟩ := one_new w _ _ hb; have HB : Hid (Below w.heap.size w w1) := hb0; have HO : Hid _ := a1; obtain ⟨o0, o1, o2, o3, o4⟩ := a1.o5; clear hb hb0 a1) | (go_at_call 74; refine Calls.mono (HC.out _) ?_; rintro e w2 ⟨rfl, hb⟩; obtain ⟨r1, hb0, hz2⟩ := one_new w1 _ _ hb; have HB2 : Hid (Below w.heap.size w w2) := HB.out.trans (hb0.mono (Nat.le_of_lt hz)); obtain ⟨c0, c1, c2, c3, c4, c5, c6⟩ := r1.r7; obtain ⟨o0, o1, o2, o3, o4⟩ := (HO.out.below hb0 hz).o5; clear hb hb0 r1))
        go_ret2
        exact ⟨rfl, HB2.out⟩
      · rw [hD] at hw
        rw [show wrD o = o.d by simp [wrD, hw], hw]
        clear hk hw ho hO hf HC0
        go_enter Tryz.func44, Tryz.ntmps44
        go_wp2_with (first | (go_at_call 67; refine Calls.mono (HF.out _) ?_; rintro e w1 ⟨rfl, hb⟩; obtain ⟨a1, hb0, hz⟩ := one_new w _ _ hb; have HB : Hid (Below w.heap.size w w1) := hb0; have HO : Hid _ := a1; obtain ⟨o0, o1, o2, o3, o4⟩ := a1.o5; clear hb hb0 a1) | (go_at_call 74; refine Calls.mono (HC.out _) ?_; rintro e w2 ⟨rfl, hb⟩; obtain ⟨r1, hb0, hz2⟩ := one_new w1 _ _ hb; have HB2 : Hid (Below w.heap.size w w2) := HB.out.trans (hb0.mono (Nat.le_of_lt hz)); obtain ⟨c0, c1, c2, c3, c4, c5, c6⟩ := r1.r7; obtain ⟨o0, o1, o2, o3, o4⟩ := (HO.out.below hb0 hz).o5; clear hb hb0 r1))
        go_ret2
        exact ⟨rfl, HB2.out⟩

/-- Where Reads stands: the operation's box, the row's box, the registers so far. -/
structure Rs (w0 : World) (rc : Array Value) (o : O) (rb : Nat) (w : World) (v : Value) (xs : List Int) : Prop where
  lt0 : w0.heap.size < rb
  oAt : At w w0.heap.size o.cells
  rAt : At w rb rc
  own : w.ownsRow (rb + 1) 5 1 v xs.length (xs.map (Value.int .u8))
  bel : Below w0.heap.size w0 w
theorem Rs.put {w0 : World} {k : Array Value} {o : O} {rb : Nat} {w w1 : World} {v v1 : Value} {xs : List Int} {s : Int} {ob : Obj} (h : Rs w0 k o rb w v xs) (hown : w1.ownsRow (rb + 1) 5 1 v1 (xs.length + 1) (xs.map (Value.int .u8) ++ [.int .u8 s])) (hg : (w.alloc ob).grownBy w1 v.ownBlock) :
    Rs w0 k o rb w1 v1 (xs ++ [s]) := by
  have h0 := h.lt0
  have hb : Below (rb + 1) w w1 := ((Below.refl _ w).alloc (by have := h.rAt.lt; omega) ob).grown hg (by have := h.rAt.lt; simp; omega) (fun b hb => (h.own.lt b hb).1)
  refine ⟨h0, h.oAt.below hb (by omega), h.rAt.below hb (by omega), ?_, h.bel.trans (hb.mono (by omega))⟩
  simpa using hown
theorem Rs.slAt {w0 : World} {k : Array Value} {o : O} {rb : Nat} {w : World} {v : Value} {xs : List Int} {f : Nat → Int} {n : Nat} (h : Rs w0 k o rb w v xs) (hn : xs.length = n) (hf : ∀ j, j < n → xs[j]? = some (f j)) : SlAt w v n f := by
  subst hn
  rcases Nat.eq_zero_or_pos xs.length with h0 | h0
  · left
    refine ⟨h0, ?_⟩
    rcases h.own.2 with ⟨rfl, _⟩ | ⟨g, cap, cur, rfl, _⟩
    · exact ⟨_, _, rfl⟩
    · rw [h0]; exact ⟨_, _, rfl⟩
  · right
    have hown := h.own
    obtain ⟨g, cap, rfl, hg, hlt⟩ := hown.form h0
    refine ⟨g, cap, rfl, hlt, fun j hj => ?_⟩
    rw [hown.cellAt j (by omega)]
    simp [hf j hj]
theorem info5 : (Tryz.prog.info? 5).map (fun i => (i.zero, i.size, i.bytes)) = some (some (.int .u8 0), 1, 1) := by kernel_rfl
def rf (o : O) (j : Nat) : Int := if j = 0 then o.a else o.b

set_option maxHeartbeats 1000000 in
theorem refReads_no (o : O) (w : World) (ho : o.Ok) (h : okO o = false) : Calls Tryz.prog 111 #[o.val] w fun e w' => e = .returned (.slice none 0 0) ∧ Below w.heap.size w w' := by
  have HC0 := fun w => refCheck_any o w ho
  rw [show ckE o = 30 by simp [ckE, h]] at HC0
  have HC : Hid _ := HC0
  clear ho h HC0
  cases hk : kOf o.op with
  | none =>
    have HF : Hid _ := fun w => of_no o.op w hk
    clear hk
    go_enter Tryz.func111, Tryz.ntmps111
    go_wp2_with (first | (go_at_call 67; refine Calls.mono (HF.out _) ?_; rintro e w1 ⟨rfl, hb⟩; obtain ⟨a1, hb0, hz⟩ := one_new w _ _ hb; have HB : Hid (Below w.heap.size w w1) := hb0; have HO : Hid _ := a1; obtain ⟨o0, o1, o2, o3, o4⟩ := a1.o5; clear hb hb0 a1) | (go_at_call 74; refine Calls.mono (HC.out _) ?_; rintro e w2 ⟨rfl, hb⟩; obtain ⟨-, hb0, hz2⟩ := one_new w1 _ _ hb; have HB2 : Hid (Below w.heap.size w w2) := HB.out.trans (hb0.mono (Nat.le_of_lt hz)); clear hb hb0))
    go_ret
    exact ⟨rfl, HB2.out⟩
  | some k =>
    have HF : Hid _ := fun w => of_yes o.op k w hk
    clear hk
    go_enter Tryz.func111, Tryz.ntmps111
    go_wp2_with (first | (go_at_call 67; refine Calls.mono (HF.out _) ?_; rintro e w1 ⟨rfl, hb⟩; obtain ⟨a1, hb0, hz⟩ := one_new w _ _ hb; have HB : Hid (Below w.heap.size w w1) := hb0; have HO : Hid _ := a1; obtain ⟨o0, o1, o2, o3, o4⟩ := a1.o5; clear hb hb0 a1) | (go_at_call 74; refine Calls.mono (HC.out _) ?_; rintro e w2 ⟨rfl, hb⟩; obtain ⟨-, hb0, hz2⟩ := one_new w1 _ _ hb; have HB2 : Hid (Below w.heap.size w w2) := HB.out.trans (hb0.mono (Nat.le_of_lt hz)); clear hb hb0))
    go_ret
    exact ⟨rfl, HB2.out⟩
set_option maxHeartbeats 2000000 in
theorem refReads_0 (o : O) (k : K) (w : World) (ho : o.Ok) (hk : kOf o.op = some k) (hf : okF k o = true) (hA : k.A = false) (hB : k.B = false) : Calls Tryz.prog 111 #[o.val] w fun e w' => ∃ v, e = .returned v ∧ SlAt w' v 0 (rf o) ∧ Below w.heap.size w w' := by
  have hO : okO o = true := by rw [okO_some hk]; exact hf
  have HC0 := fun w => refCheck_any o w ho
  rw [show ckE o = 0 by simp [ckE, hO]] at HC0
  have HC : Hid _ := HC0
  have HF : Hid _ := fun w => of_yes o.op k w hk
  clear ho hO hf HC0 hk
  obtain ⟨i0, hi, hi2⟩ := Option.map_eq_some_iff.1 info5
  simp only [Prod.mk.injEq] at hi2
  obtain ⟨hz0, hz1, hz2⟩ := hi2
  have HI : Hid (Tryz.prog.info? 5 = some i0 ∧ i0.zero = some (.int .u8 0) ∧ i0.size = 1 ∧ i0.bytes = 1) := ⟨hi, hz0, hz1, hz2⟩
  clear hi hz0 hz1 hz2
  go_enter Tryz.func111, Tryz.ntmps111
  go_wp2_with (first | (go_at_call 67; refine Calls.mono (HF.out _) ?_; rintro e w1 ⟨rfl, hb⟩; obtain ⟨a1, hb0, hz⟩ := one_new w _ _ hb; have HB : Hid (Below w.heap.size w w1) := hb0; have HO : Hid _ := a1; obtain ⟨o0, o1, o2, o3, o4⟩ := a1.o5; clear hb hb0 a1) | (go_at_call 74; refine Calls.mono (HC.out _) ?_; rintro e w2 ⟨rfl, hb⟩; obtain ⟨r1, hb0, hz2⟩ := one_new w1 _ _ hb; have HS : Hid (Rs w _ o w1.heap.size w2 (.slice none 0 0) []) := ⟨hz, HO.out.below hb0 hz, r1, World.ownsRow_nil _ _ _ _, HB.out.trans (hb0.mono (Nat.le_of_lt hz))⟩; obtain ⟨c0, c1, c2, c3, c4, c5, c6⟩ := HS.out.rAt.r7; obtain ⟨o0, o1, o2, o3, o4⟩ := HS.out.oAt.o5; have hzr := HS.out.rAt.lt; have hzo := HS.out.oAt.lt; clear hb hb0 r1) | (at_builtin; refine wpList_append_lies _ rfl _ _ 138 rfl (w1.heap.size + 1) 5 i0 (.int .u8 0) 1 1 Tryz.underlying138 HI.out.1 HI.out.2.1 HI.out.2.2.1 HI.out.2.2.2 rfl (by decide) _ _ _ rfl (HS.out.own.alloc _) ⟨w2.heap.size, 0, none⟩ 1 1 [.int .u8 _] rfl rfl (World.news_of_block (heap_alloc_new w2 _)) (by simp [Value.oneCell']) (by decide) (by unfold maxLen; simp) (by simp) (by have := HS.out.rAt.lt; simp; omega) (w2.heap.size + 1) (by simp) ?_; intro g cap w2 hown1 hgrow hat hlt3; have HS : Hid (Rs w _ o w1.heap.size w2 _ _) := HS.out.put hown1 hgrow; obtain ⟨c0, c1, c2, c3, c4, c5, c6⟩ := HS.out.rAt.r7; obtain ⟨o0, o1, o2, o3, o4⟩ := HS.out.oAt.o5; have hzr := HS.out.rAt.lt; have hzo := HS.out.oAt.lt; clear hown1 hgrow hat hlt3))
  go_ret
  refine ⟨_, rfl, HS.out.slAt rfl (fun j hj => ?_), HS.out.bel⟩
  match j, hj with
  | _ + 0, h => exact absurd h (by simp)
set_option maxHeartbeats 2000000 in
theorem refReads_1 (o : O) (k : K) (w : World) (ho : o.Ok) (hk : kOf o.op = some k) (hf : okF k o = true) (hA : k.A = true) (hB : k.B = false) : Calls Tryz.prog 111 #[o.val] w fun e w' => ∃ v, e = .returned v ∧ SlAt w' v 1 (rf o) ∧ Below w.heap.size w w' := by
  have hO : okO o = true := by rw [okO_some hk]; exact hf
  have HC0 := fun w => refCheck_any o w ho
  rw [show ckE o = 0 by simp [ckE, hO]] at HC0
  have HC : Hid _ := HC0
  have HF : Hid _ := fun w => of_yes o.op k w hk
  clear ho hO hf HC0 hk
  obtain ⟨i0, hi, hi2⟩ := Option.map_eq_some_iff.1 info5
  simp only [Prod.mk.injEq] at hi2
  obtain ⟨hz0, hz1, hz2⟩ := hi2
  have HI : Hid (Tryz.prog.info? 5 = some i0 ∧ i0.zero = some (.int .u8 0) ∧ i0.size = 1 ∧ i0.bytes = 1) := ⟨hi, hz0, hz1, hz2⟩
  clear hi hz0 hz1 hz2
  go_enter Tryz.func111, Tryz.ntmps111
  go_wp2_with (first | (go_at_call 67; refine Calls.mono (HF.out _) ?_; rintro e w1 ⟨rfl, hb⟩; obtain ⟨a1, hb0, hz⟩ := one_new w _ _ hb; have HB : Hid (Below w.heap.size w w1) := hb0; have HO : Hid _ := a1; obtain ⟨o0, o1, o2, o3, o4⟩ := a1.o5; clear hb hb0 a1) | (go_at_call 74; refine Calls.mono (HC.out _) ?_; rintro e w2 ⟨rfl, hb⟩; obtain ⟨r1, hb0, hz2⟩ := one_new w1 _ _ hb; have HS : Hid (Rs w _ o w1.heap.size w2 (.slice none 0 0) []) := ⟨hz, HO.out.below hb0 hz, r1, World.ownsRow_nil _ _ _ _, HB.out.trans (hb0.mono (Nat.le_of_lt hz))⟩; obtain ⟨c0, c1, c2, c3, c4, c5, c6⟩ := HS.out.rAt.r7; obtain ⟨o0, o1, o2, o3, o4⟩ := HS.out.oAt.o5; have hzr := HS.out.rAt.lt; have hzo := HS.out.oAt.lt; clear hb hb0 r1) | (at_builtin; refine wpList_append_lies _ rfl _ _ 138 rfl (w1.heap.size + 1) 5 i0 (.int .u8 0) 1 1 Tryz.underlying138 HI.out.1 HI.out.2.1 HI.out.2.2.1 HI.out.2.2.2 rfl (by decide) _ _ _ rfl (HS.out.own.alloc _) ⟨w2.heap.size, 0, none⟩ 1 1 [.int .u8 _] rfl rfl (World.news_of_block (heap_alloc_new w2 _)) (by simp [Value.oneCell']) (by decide) (by unfold maxLen; simp) (by simp) (by have := HS.out.rAt.lt; simp; omega) (w2.heap.size + 1) (by simp) ?_; intro g cap w2 hown1 hgrow hat hlt3; have HS : Hid (Rs w _ o w1.heap.size w2 _ _) := HS.out.put hown1 hgrow; obtain ⟨c0, c1, c2, c3, c4, c5, c6⟩ := HS.out.rAt.r7; obtain ⟨o0, o1, o2, o3, o4⟩ := HS.out.oAt.o5; have hzr := HS.out.rAt.lt; have hzo := HS.out.oAt.lt; clear hown1 hgrow hat hlt3))
  go_ret
  refine ⟨_, rfl, HS.out.slAt rfl (fun j hj => ?_), HS.out.bel⟩
  match j, hj with
  | 0, _ => rfl
set_option maxHeartbeats 2000000 in
theorem refReads_1e (o : O) (k : K) (w : World) (ho : o.Ok) (hk : kOf o.op = some k) (hf : okF k o = true) (hA : k.A = true) (hB : k.B = true) (hE : (o.b == o.a) = true) : Calls Tryz.prog 111 #[o.val] w fun e w' => ∃ v, e = .returned v ∧ SlAt w' v 1 (rf o) ∧ Below w.heap.size w w' := by
  have hO : okO o = true := by rw [okO_some hk]; exact hf
  have HC0 := fun w => refCheck_any o w ho
  rw [show ckE o = 0 by simp [ckE, hO]] at HC0
  have HC : Hid _ := HC0
  have HF : Hid _ := fun w => of_yes o.op k w hk
  clear ho hO hf HC0 hk
  obtain ⟨i0, hi, hi2⟩ := Option.map_eq_some_iff.1 info5
  simp only [Prod.mk.injEq] at hi2
  obtain ⟨hz0, hz1, hz2⟩ := hi2
  have HI : Hid (Tryz.prog.info? 5 = some i0 ∧ i0.zero = some (.int .u8 0) ∧ i0.size = 1 ∧ i0.bytes = 1) := ⟨hi, hz0, hz1, hz2⟩
  clear hi hz0 hz1 hz2
  go_enter Tryz.func111, Tryz.ntmps111
  go_wp2_with (first | (go_at_call 67; refine Calls.mono (HF.out _) ?_; rintro e w1 ⟨rfl, hb⟩; obtain ⟨a1, hb0, hz⟩ := one_new w _ _ hb; have HB : Hid (Below w.heap.size w w1) := hb0; have HO : Hid _ := a1; obtain ⟨o0, o1, o2, o3, o4⟩ := a1.o5; clear hb hb0 a1) | (go_at_call 74; refine Calls.mono (HC.out _) ?_; rintro e w2 ⟨rfl, hb⟩; obtain ⟨r1, hb0, hz2⟩ := one_new w1 _ _ hb; have HS : Hid (Rs w _ o w1.heap.size w2 (.slice none 0 0) []) := ⟨hz, HO.out.below hb0 hz, r1, World.ownsRow_nil _ _ _ _, HB.out.trans (hb0.mono (Nat.le_of_lt hz))⟩; obtain ⟨c0, c1, c2, c3, c4, c5, c6⟩ := HS.out.rAt.r7; obtain ⟨o0, o1, o2, o3, o4⟩ := HS.out.oAt.o5; have hzr := HS.out.rAt.lt; have hzo := HS.out.oAt.lt; clear hb hb0 r1) | (at_builtin; refine wpList_append_lies _ rfl _ _ 138 rfl (w1.heap.size + 1) 5 i0 (.int .u8 0) 1 1 Tryz.underlying138 HI.out.1 HI.out.2.1 HI.out.2.2.1 HI.out.2.2.2 rfl (by decide) _ _ _ rfl (HS.out.own.alloc _) ⟨w2.heap.size, 0, none⟩ 1 1 [.int .u8 _] rfl rfl (World.news_of_block (heap_alloc_new w2 _)) (by simp [Value.oneCell']) (by decide) (by unfold maxLen; simp) (by simp) (by have := HS.out.rAt.lt; simp; omega) (w2.heap.size + 1) (by simp) ?_; intro g cap w2 hown1 hgrow hat hlt3; have HS : Hid (Rs w _ o w1.heap.size w2 _ _) := HS.out.put hown1 hgrow; obtain ⟨c0, c1, c2, c3, c4, c5, c6⟩ := HS.out.rAt.r7; obtain ⟨o0, o1, o2, o3, o4⟩ := HS.out.oAt.o5; have hzr := HS.out.rAt.lt; have hzo := HS.out.oAt.lt; clear hown1 hgrow hat hlt3))
  go_ret
  refine ⟨_, rfl, HS.out.slAt rfl (fun j hj => ?_), HS.out.bel⟩
  match j, hj with
  | 0, _ => rfl
set_option maxHeartbeats 2000000 in
theorem refReads_2 (o : O) (k : K) (w : World) (ho : o.Ok) (hk : kOf o.op = some k) (hf : okF k o = true) (hA : k.A = true) (hB : k.B = true) (hE : (o.b == o.a) = false) : Calls Tryz.prog 111 #[o.val] w fun e w' => ∃ v, e = .returned v ∧ SlAt w' v 2 (rf o) ∧ Below w.heap.size w w' := by
  have hO : okO o = true := by rw [okO_some hk]; exact hf
  have HC0 := fun w => refCheck_any o w ho
  rw [show ckE o = 0 by simp [ckE, hO]] at HC0
  have HC : Hid _ := HC0
  have HF : Hid _ := fun w => of_yes o.op k w hk
  clear ho hO hf HC0 hk
  obtain ⟨i0, hi, hi2⟩ := Option.map_eq_some_iff.1 info5
  simp only [Prod.mk.injEq] at hi2
  obtain ⟨hz0, hz1, hz2⟩ := hi2
  have HI : Hid (Tryz.prog.info? 5 = some i0 ∧ i0.zero = some (.int .u8 0) ∧ i0.size = 1 ∧ i0.bytes = 1) := ⟨hi, hz0, hz1, hz2⟩
  clear hi hz0 hz1 hz2
  go_enter Tryz.func111, Tryz.ntmps111
  go_wp2_with (first | (go_at_call 67; refine Calls.mono (HF.out _) ?_; rintro e w1 ⟨rfl, hb⟩; obtain ⟨a1, hb0, hz⟩ := one_new w _ _ hb; have HB : Hid (Below w.heap.size w w1) := hb0; have HO : Hid _ := a1; obtain ⟨o0, o1, o2, o3, o4⟩ := a1.o5; clear hb hb0 a1) | (go_at_call 74; refine Calls.mono (HC.out _) ?_; rintro e w2 ⟨rfl, hb⟩; obtain ⟨r1, hb0, hz2⟩ := one_new w1 _ _ hb; have HS : Hid (Rs w _ o w1.heap.size w2 (.slice none 0 0) []) := ⟨hz, HO.out.below hb0 hz, r1, World.ownsRow_nil _ _ _ _, HB.out.trans (hb0.mono (Nat.le_of_lt hz))⟩; obtain ⟨c0, c1, c2, c3, c4, c5, c6⟩ := HS.out.rAt.r7; obtain ⟨o0, o1, o2, o3, o4⟩ := HS.out.oAt.o5; have hzr := HS.out.rAt.lt; have hzo := HS.out.oAt.lt; clear hb hb0 r1) | (at_builtin; refine wpList_append_lies _ rfl _ _ 138 rfl (w1.heap.size + 1) 5 i0 (.int .u8 0) 1 1 Tryz.underlying138 HI.out.1 HI.out.2.1 HI.out.2.2.1 HI.out.2.2.2 rfl (by decide) _ _ _ rfl (HS.out.own.alloc _) ⟨w2.heap.size, 0, none⟩ 1 1 [.int .u8 _] rfl rfl (World.news_of_block (heap_alloc_new w2 _)) (by simp [Value.oneCell']) (by decide) (by unfold maxLen; simp) (by simp) (by have := HS.out.rAt.lt; simp; omega) (w2.heap.size + 1) (by simp) ?_; intro g cap w2 hown1 hgrow hat hlt3; have HS : Hid (Rs w _ o w1.heap.size w2 _ _) := HS.out.put hown1 hgrow; obtain ⟨c0, c1, c2, c3, c4, c5, c6⟩ := HS.out.rAt.r7; obtain ⟨o0, o1, o2, o3, o4⟩ := HS.out.oAt.o5; have hzr := HS.out.rAt.lt; have hzo := HS.out.oAt.lt; clear hown1 hgrow hat hlt3))
  go_ret
  refine ⟨_, rfl, HS.out.slAt rfl (fun j hj => ?_), HS.out.bel⟩
  match j, hj with
  | 0, _ => rfl
  | 1, _ => rfl
theorem refReads_yes (o : O) (k : K) (w : World) (ho : o.Ok) (hk : kOf o.op = some k) (hf : okF k o = true) (hBA : k.A = false → k.B = false) : Calls Tryz.prog 111 #[o.val] w fun e w' => ∃ v, e = .returned v ∧ SlAt w' v (rcN k o) (rf o) ∧ Below w.heap.size w w' := by
  have hc : (o.b == o.a) = (o.a == o.b) := by rw [Bool.eq_iff_iff]; simp; omega
  cases hA : k.A
  · rw [show rcN k o = 0 by simp [rcN, hA]]
    exact refReads_0 o k w ho hk hf hA (hBA hA)
  · cases hB : k.B
    · rw [show rcN k o = 1 by simp [rcN, hA, hB]]
      exact refReads_1 o k w ho hk hf hA hB
    · cases hE : (o.b == o.a)
      · rw [show rcN k o = 2 by simp [rcN, hA, hB, ← hc, hE]]
        exact refReads_2 o k w ho hk hf hA hB hE
      · rw [show rcN k o = 1 by simp [rcN, hA, hB, ← hc, hE]]
        exact refReads_1e o k w ho hk hf hA hB hE
end Go.Proofs.YtddcndlogoajkaaGreatDoor.L8.Op
