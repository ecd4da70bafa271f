/- The statement SerialNil and its wake-up, out of what the callees answer: read off by the walk. Conditions: the variable lies in memory as the program lays it. -/
import Derived.Test.YtlnfhbkkodhmaaaDoorNr
namespace Go.Proofs.YtlnfhbkkodhmaaaDoor.Sm
open Go.ChangeShapes Go.WideShapes Go.ChangeAt Go.RowKit
open _root_.Go.Proofs.YtlnfhbkkodhmaaaDoor.Op _root_.Go.Proofs.YtlnfhbkkodhmaaaDoor.So
set_option maxRecDepth 20000

set_option maxHeartbeats 2000000 in
theorem nums_same (a b : Option Addr) (c d : Nat) (l : List Int) (w : World) (ha : NL w a l) (hb : NL w b l) (hl : l.length ≤ 1000000000000) : Calls Tryd.prog 17 #[.slice a l.length c, .slice b l.length d] w fun e w' => e = .returned (.bool true) ∧ Below w.heap.size w w' := by
  have HA : Hid _ := ha
  have HB : Hid _ := hb
  have hlz : (l.length : Int) ≤ 1000000000000 := by omega
  clear ha hb
  go_enter Tryd.func17, Tryd.ntmps17
  go_wp2_with fail
  go_loopw [13] (fun i wr => ∃ k : Nat, k ≤ l.length ∧ i = .int .i64 k ∧ Below w.heap.size w wr) (fun i _ => l.length - (intOf i).toNat)
  case atStart => exact ⟨0, by omega, rfl, Below.refl _ _⟩
  case round =>
    rename_i wr
    obtain ⟨k, hk, rfl, hbw⟩ := hrel
    by_cases hlt : k < l.length
    · obtain ⟨b1, f1, rfl, z1, x1⟩ := (HA.out.up hbw).is (by omega)
      obtain ⟨b2, f2, rfl, z2, x2⟩ := (HB.out.up hbw).is (by omega)
      have c1 := x1 k hlt
      have c2 := x2 k hlt
      have HW : Hid (Below w.heap.size w wr) := hbw
      clear x1 x2 hbw HA HB
      generalize l[k] = v at *
      go_wp2_with fail
      go_quiet (fail)
      go_wp2_with fail
      go_roundw
      case rel => exact ⟨k + 1, by omega, by go_num, drewN_below HW.out _⟩
      case measure => simp [intOf]; omega
    · obtain rfl : k = l.length := by omega
      go_wp2_with fail
      go_ret
      exact ⟨rfl, hbw⟩
theorem state_nil (w : World) : Calls Tryd.prog 15 #[.pointer none] w fun e w' => e = .returned (.agg #[.slice none 0 0, .slice none 0 0]) ∧ Below w.heap.size w w' := by
  go_enter Tryd.func15, Tryd.ntmps15
  go_wp2_with fail
  refine bodyPost_ret (v := .agg #[.slice none 0 0, .slice none 0 0]) (by simp [results, Tryd.results15, go_sem]) rfl ⟨rfl, by go_grown⟩
theorem run_nil (n : Int) (w : World) : Calls Tryd.prog 12 #[.pointer none, .int .i64 n] w fun e w' => e = .returned (.agg #[.int .i64 1, .int .i64 0, .slice none 0 0, .slice none 0 0, .int .i64 0]) ∧ Below w.heap.size w w' := by
  go_enter Tryd.func12, Tryd.ntmps12
  go_wp2_with fail
  refine bodyPost_ret (v := .agg #[.int .i64 1, .int .i64 0, .slice none 0 0, .slice none 0 0, .int .i64 0]) (by simp [results, Tryd.results12, go_sem]) rfl ⟨rfl, by go_grown⟩
/-- Outcomes in memory that are the same are found so. -/
theorem like_same (e v s : Int) (a b m k : Option Addr) (c d c' d' : Nat) (pr me : List Int) (w : World) (ha : NL w a pr) (hb : NL w b pr) (hm : NL w m me) (hk : NL w k me) (h1 : pr.length ≤ 1000000000000) (h2 : me.length ≤ 1000000000000) :
    Calls Tryd.prog 11 #[.agg #[.int .i64 e, .int .i64 v, .slice a pr.length c, .slice m me.length d, .int .i64 s], .agg #[.int .i64 e, .int .i64 v, .slice b pr.length c', .slice k me.length d', .int .i64 s]] w fun e w' => e = .returned (.bool true) ∧ Below w.heap.size w w' := by
  have HP : Hid (∀ W, Below w.heap.size w W → Calls Tryd.prog 17 #[.slice a pr.length c, .slice b pr.length c'] W fun e w' => e = .returned (.bool true) ∧ Below W.heap.size W w') := fun W hW => nums_same a b c c' pr W (ha.up hW) (hb.up hW) h1
  have HM : Hid (∀ W, Below w.heap.size w W → Calls Tryd.prog 17 #[.slice m me.length d, .slice k me.length d'] W fun e w' => e = .returned (.bool true) ∧ Below W.heap.size W w') := fun W hW => nums_same m k d d' me W (hm.up hW) (hk.up hW) h2
  clear ha hb hm hk h1 h2
  generalize pr.length = pl at *
  generalize me.length = ml at *
  have HT : Hid (∀ {w' : World}, Below ((w.alloc (.cells #[.int .i64 e, .int .i64 v, .slice a pl c, .slice m ml d, .int .i64 s] 39)).alloc (.cells #[.int .i64 e, .int .i64 v, .slice b pl c', .slice k ml d', .int .i64 s] 39)).heap.size ((w.alloc (.cells #[.int .i64 e, .int .i64 v, .slice a pl c, .slice m ml d, .int .i64 s] 39)).alloc (.cells #[.int .i64 e, .int .i64 v, .slice b pl c', .slice k ml d', .int .i64 s] 39)) w' → Op.At w' w.heap.size #[.int .i64 e, .int .i64 v, .slice a pl c, .slice m ml d, .int .i64 s] ∧ Op.At w' (w.heap.size + 1) #[.int .i64 e, .int .i64 v, .slice b pl c', .slice k ml d', .int .i64 s] ∧ Below w.heap.size w w') := fun {w'} hb => by
    obtain ⟨h1, h2, h3, -⟩ := two_new w #[.int .i64 e, .int .i64 v, .slice a pl c, .slice m ml d, .int .i64 s] #[.int .i64 e, .int .i64 v, .slice b pl c', .slice k ml d', .int .i64 s] 39 39 hb
    exact ⟨h1, h2, h3⟩
  go_enter Tryd.func11, Tryd.ntmps11
  go_wp2_with (first
    | (go_at_call 17; refine Calls.mono (HP.out _ (by go_grown)) ?_; rintro e' w1 ⟨rfl, hb⟩; obtain ⟨x1, x2, x3⟩ := HT.out hb; have HB : Hid (Below w.heap.size w w1) := x3; have y1 := x1.c 3 _ rfl; have y2 := x2.c 3 _ rfl; clear hb x1 x2 x3 HP HT)
    | (go_at_call 17; refine Calls.mono (HM.out _ HB.out) ?_; rintro e' w2 ⟨rfl, hb⟩; have HB2 : Hid (Below w.heap.size w w2) := HB.out.trans (hb.mono HB.out.size); clear hb HM))
  go_ret
  exact ⟨rfl, HB2.out⟩
/-! ### the wake-up -/
def k1 : O := ⟨1, 1, 0, 0, 3⟩
def k2 : O := ⟨2, 2, 2, 1, 0⟩
def k3 : O := ⟨17, 0, 2, 0, 0⟩
def wk9 : List Bk := [⟨[k1], 3, 1, [k2], 1, 0⟩, ⟨[k3], 2, 2, [], 0, 0⟩]
theorem wk9_len : wk9.length = 2 := rfl
theorem wk9_ck : ckP wk9 = 0 := by decide
theorem wk9_run : (runM wk9 (min (max 100 0) 1048576 : Int).toNat (initM [] [])).e = 0 ∧ (runM wk9 (min (max 100 0) 1048576 : Int).toNat (initM [] [])).v = 9 ∧ (runM wk9 (min (max 100 0) 1048576 : Int).toNat (initM [] [])).s = 10 ∧ (runM wk9 (min (max 100 0) 1048576 : Int).toNat (initM [] [])).pr = [9] := ⟨by kernel_rfl, by kernel_rfl, by kernel_rfl, by kernel_rfl⟩
theorem wk9_ok : ∀ x ∈ wk9, x.Ok ∧ (∀ o ∈ x.ops, o.Ok) ∧ ∀ o ∈ x.body, o.Ok := fun x hx => by
  simp only [wk9, List.mem_cons, List.not_mem_nil, or_false] at hx
  rcases hx with rfl | rfl
  · exact ⟨by constructor <;> decide, fun o ho => by simp at ho; subst ho; unfold k1; constructor <;> decide, fun o ho => by simp at ho; subst ho; unfold k2; constructor <;> decide⟩
  · exact ⟨by constructor <;> decide, fun o ho => by simp at ho; subst ho; unfold k3; constructor <;> decide, fun o ho => by simp at ho⟩
theorem at_up {w : World} {b : Nat} {c : Array Value} (h : Op.At w b c) (o : Obj) : Op.At (w.alloc o) b c := h.alloc o
theorem at_new' (w : World) (c : Array Value) (t : TypeId) (n : Nat) (hn : w.heap.size = n) : Op.At (w.alloc (.cells c t)) n c := by subst hn; exact Op.At.new w c t
theorem ops_one {w : World} {b : Nat} {o : O} (h : Op.At w b #[.int .i8 o.op, .int .u8 o.d, .int .u8 o.a, .int .u8 o.b, .int .i64 o.im]) (ho : o.Ok) : OpsAt w (some ⟨b, 0, none⟩) [o] :=
  ⟨fun x hx => by simp at hx; subst hx; exact ho, by simp, fun _ => ⟨b, 0, rfl, h.lt, fun i hi => by
    have : i = 0 := by simp at hi; omega
    subst this
    exact ⟨h.c 0 _ rfl, h.c 1 _ rfl, h.c 2 _ rfl, h.c 3 _ rfl, h.c 4 _ rfl⟩⟩⟩
theorem wk9_pat (w : World) : PAt (((((w.alloc (.cells #[.int .i8 1, .int .u8 1, .int .u8 0, .int .u8 0, .int .i64 3] 60)).alloc (.cells #[.int .i8 2, .int .u8 2, .int .u8 2, .int .u8 1, .int .i64 0] 60)).alloc (.cells #[.int .i8 17, .int .u8 0, .int .u8 2, .int .u8 0, .int .i64 0] 60)).alloc (.cells #[.slice (some ⟨w.heap.size, 0, none⟩) 1 1, .int .i8 3, .int .u8 1, .slice (some ⟨w.heap.size + 1, 0, none⟩) 1 1, .int .i64 1, .int .i64 0, .slice (some ⟨w.heap.size + 1 + 1, 0, none⟩) 1 1, .int .i8 2, .int .u8 2, .slice none 0 0, .int .i64 0, .int .i64 0] 57)).alloc (.cells #[.slice (some ⟨w.heap.size + 1 + 1 + 1, 0, none⟩) 2 2] 24)) (some ⟨w.heap.size + 1 + 1 + 1, 0, none⟩) wk9 ∧ Op.At (((((w.alloc (.cells #[.int .i8 1, .int .u8 1, .int .u8 0, .int .u8 0, .int .i64 3] 60)).alloc (.cells #[.int .i8 2, .int .u8 2, .int .u8 2, .int .u8 1, .int .i64 0] 60)).alloc (.cells #[.int .i8 17, .int .u8 0, .int .u8 2, .int .u8 0, .int .i64 0] 60)).alloc (.cells #[.slice (some ⟨w.heap.size, 0, none⟩) 1 1, .int .i8 3, .int .u8 1, .slice (some ⟨w.heap.size + 1, 0, none⟩) 1 1, .int .i64 1, .int .i64 0, .slice (some ⟨w.heap.size + 1 + 1, 0, none⟩) 1 1, .int .i8 2, .int .u8 2, .slice none 0 0, .int .i64 0, .int .i64 0] 57)).alloc (.cells #[.slice (some ⟨w.heap.size + 1 + 1 + 1, 0, none⟩) 2 2] 24)) (w.heap.size + 1 + 1 + 1 + 1) #[.slice (some ⟨w.heap.size + 1 + 1 + 1, 0, none⟩) 2 2] ∧ Below w.heap.size w (((((w.alloc (.cells #[.int .i8 1, .int .u8 1, .int .u8 0, .int .u8 0, .int .i64 3] 60)).alloc (.cells #[.int .i8 2, .int .u8 2, .int .u8 2, .int .u8 1, .int .i64 0] 60)).alloc (.cells #[.int .i8 17, .int .u8 0, .int .u8 2, .int .u8 0, .int .i64 0] 60)).alloc (.cells #[.slice (some ⟨w.heap.size, 0, none⟩) 1 1, .int .i8 3, .int .u8 1, .slice (some ⟨w.heap.size + 1, 0, none⟩) 1 1, .int .i64 1, .int .i64 0, .slice (some ⟨w.heap.size + 1 + 1, 0, none⟩) 1 1, .int .i8 2, .int .u8 2, .slice none 0 0, .int .i64 0, .int .i64 0] 57)).alloc (.cells #[.slice (some ⟨w.heap.size + 1 + 1 + 1, 0, none⟩) 2 2] 24)) := by
  have a0 := at_up (at_up (at_up (at_up (Op.At.new w #[.int .i8 1, .int .u8 1, .int .u8 0, .int .u8 0, .int .i64 3] 60) (.cells #[.int .i8 2, .int .u8 2, .int .u8 2, .int .u8 1, .int .i64 0] 60)) (.cells #[.int .i8 17, .int .u8 0, .int .u8 2, .int .u8 0, .int .i64 0] 60)) (.cells #[.slice (some ⟨w.heap.size, 0, none⟩) 1 1, .int .i8 3, .int .u8 1, .slice (some ⟨w.heap.size + 1, 0, none⟩) 1 1, .int .i64 1, .int .i64 0, .slice (some ⟨w.heap.size + 1 + 1, 0, none⟩) 1 1, .int .i8 2, .int .u8 2, .slice none 0 0, .int .i64 0, .int .i64 0] 57)) (.cells #[.slice (some ⟨w.heap.size + 1 + 1 + 1, 0, none⟩) 2 2] 24)
  have a1 := at_up (at_up (at_up (at_new' (w.alloc (.cells #[.int .i8 1, .int .u8 1, .int .u8 0, .int .u8 0, .int .i64 3] 60)) #[.int .i8 2, .int .u8 2, .int .u8 2, .int .u8 1, .int .i64 0] 60 (w.heap.size + 1) (by simp)) (.cells #[.int .i8 17, .int .u8 0, .int .u8 2, .int .u8 0, .int .i64 0] 60)) (.cells #[.slice (some ⟨w.heap.size, 0, none⟩) 1 1, .int .i8 3, .int .u8 1, .slice (some ⟨w.heap.size + 1, 0, none⟩) 1 1, .int .i64 1, .int .i64 0, .slice (some ⟨w.heap.size + 1 + 1, 0, none⟩) 1 1, .int .i8 2, .int .u8 2, .slice none 0 0, .int .i64 0, .int .i64 0] 57)) (.cells #[.slice (some ⟨w.heap.size + 1 + 1 + 1, 0, none⟩) 2 2] 24)
  have a2 := at_up (at_up (at_new' ((w.alloc (.cells #[.int .i8 1, .int .u8 1, .int .u8 0, .int .u8 0, .int .i64 3] 60)).alloc (.cells #[.int .i8 2, .int .u8 2, .int .u8 2, .int .u8 1, .int .i64 0] 60)) #[.int .i8 17, .int .u8 0, .int .u8 2, .int .u8 0, .int .i64 0] 60 (w.heap.size + 1 + 1) (by simp)) (.cells #[.slice (some ⟨w.heap.size, 0, none⟩) 1 1, .int .i8 3, .int .u8 1, .slice (some ⟨w.heap.size + 1, 0, none⟩) 1 1, .int .i64 1, .int .i64 0, .slice (some ⟨w.heap.size + 1 + 1, 0, none⟩) 1 1, .int .i8 2, .int .u8 2, .slice none 0 0, .int .i64 0, .int .i64 0] 57)) (.cells #[.slice (some ⟨w.heap.size + 1 + 1 + 1, 0, none⟩) 2 2] 24)
  have a3 := at_up (at_new' (((w.alloc (.cells #[.int .i8 1, .int .u8 1, .int .u8 0, .int .u8 0, .int .i64 3] 60)).alloc (.cells #[.int .i8 2, .int .u8 2, .int .u8 2, .int .u8 1, .int .i64 0] 60)).alloc (.cells #[.int .i8 17, .int .u8 0, .int .u8 2, .int .u8 0, .int .i64 0] 60)) #[.slice (some ⟨w.heap.size, 0, none⟩) 1 1, .int .i8 3, .int .u8 1, .slice (some ⟨w.heap.size + 1, 0, none⟩) 1 1, .int .i64 1, .int .i64 0, .slice (some ⟨w.heap.size + 1 + 1, 0, none⟩) 1 1, .int .i8 2, .int .u8 2, .slice none 0 0, .int .i64 0, .int .i64 0] 57 (w.heap.size + 1 + 1 + 1) (by simp)) (.cells #[.slice (some ⟨w.heap.size + 1 + 1 + 1, 0, none⟩) 2 2] 24)
  have a4 := at_new' ((((w.alloc (.cells #[.int .i8 1, .int .u8 1, .int .u8 0, .int .u8 0, .int .i64 3] 60)).alloc (.cells #[.int .i8 2, .int .u8 2, .int .u8 2, .int .u8 1, .int .i64 0] 60)).alloc (.cells #[.int .i8 17, .int .u8 0, .int .u8 2, .int .u8 0, .int .i64 0] 60)).alloc (.cells #[.slice (some ⟨w.heap.size, 0, none⟩) 1 1, .int .i8 3, .int .u8 1, .slice (some ⟨w.heap.size + 1, 0, none⟩) 1 1, .int .i64 1, .int .i64 0, .slice (some ⟨w.heap.size + 1 + 1, 0, none⟩) 1 1, .int .i8 2, .int .u8 2, .slice none 0 0, .int .i64 0, .int .i64 0] 57)) #[.slice (some ⟨w.heap.size + 1 + 1 + 1, 0, none⟩) 2 2] 24 (w.heap.size + 1 + 1 + 1 + 1) (by simp)
  have hb : Below w.heap.size w (((((w.alloc (.cells #[.int .i8 1, .int .u8 1, .int .u8 0, .int .u8 0, .int .i64 3] 60)).alloc (.cells #[.int .i8 2, .int .u8 2, .int .u8 2, .int .u8 1, .int .i64 0] 60)).alloc (.cells #[.int .i8 17, .int .u8 0, .int .u8 2, .int .u8 0, .int .i64 0] 60)).alloc (.cells #[.slice (some ⟨w.heap.size, 0, none⟩) 1 1, .int .i8 3, .int .u8 1, .slice (some ⟨w.heap.size + 1, 0, none⟩) 1 1, .int .i64 1, .int .i64 0, .slice (some ⟨w.heap.size + 1 + 1, 0, none⟩) 1 1, .int .i8 2, .int .u8 2, .slice none 0 0, .int .i64 0, .int .i64 0] 57)).alloc (.cells #[.slice (some ⟨w.heap.size + 1 + 1 + 1, 0, none⟩) 2 2] 24)) := by go_grown
  generalize ((((w.alloc (.cells #[.int .i8 1, .int .u8 1, .int .u8 0, .int .u8 0, .int .i64 3] 60)).alloc (.cells #[.int .i8 2, .int .u8 2, .int .u8 2, .int .u8 1, .int .i64 0] 60)).alloc (.cells #[.int .i8 17, .int .u8 0, .int .u8 2, .int .u8 0, .int .i64 0] 60)).alloc (.cells #[.slice (some ⟨w.heap.size, 0, none⟩) 1 1, .int .i8 3, .int .u8 1, .slice (some ⟨w.heap.size + 1, 0, none⟩) 1 1, .int .i64 1, .int .i64 0, .slice (some ⟨w.heap.size + 1 + 1, 0, none⟩) 1 1, .int .i8 2, .int .u8 2, .slice none 0 0, .int .i64 0, .int .i64 0] 57)).alloc (.cells #[.slice (some ⟨w.heap.size + 1 + 1 + 1, 0, none⟩) 2 2] 24) = V at *
  refine ⟨⟨by decide, fun _ => ⟨w.heap.size + 1 + 1 + 1, 0, rfl, a3.lt, fun i hi => ?_⟩⟩, a4, hb⟩
  have : i = 0 ∨ i = 1 := by rw [wk9_len] at hi; omega
  rcases this with rfl | rfl
  · have hk := wk9_ok _ (List.getElem_mem hi)
    exact ⟨⟨some ⟨w.heap.size, 0, none⟩, 1, some ⟨w.heap.size + 1, 0, none⟩, 1⟩, ⟨a3.c 0 _ rfl, a3.c 1 _ rfl, a3.c 2 _ rfl, a3.c 3 _ rfl, a3.c 4 _ rfl, a3.c 5 _ rfl⟩, hk.1, ops_one (o := k1) a0 (hk.2.1 _ (by simp [wk9])), ops_one (o := k2) a1 (hk.2.2 _ (by simp [wk9])), Nat.le_refl 1⟩
  · have hk := wk9_ok _ (List.getElem_mem hi)
    exact ⟨⟨some ⟨w.heap.size + 1 + 1, 0, none⟩, 1, none, 0⟩, ⟨a3.c 6 _ rfl, a3.c 7 _ rfl, a3.c 8 _ rfl, a3.c 9 _ rfl, a3.c 10 _ rfl, a3.c 11 _ rfl⟩, hk.1, ops_one (o := k3) a2 (hk.2.1 _ (by simp [wk9])), ⟨fun o h => by simp [wk9] at h, by simp [wk9], fun h => by simp [wk9] at h⟩, Nat.le_refl 1⟩
theorem wk9_runs (W : World) (q : Nat) (T : Nat → Prop) (h : MM W q wk9 T (initM [] [])) : Calls Tryd.prog 12 #[ptr q, .int .i64 100] W fun e w' => ∃ a m c d, e = .returned (.agg #[.int .i64 0, .int .i64 9, .slice a 1 c, .slice m 256 d, .int .i64 10]) ∧ NL w' a [9] ∧ Fr T W w' := by
  obtain ⟨r1, r2, r3, r4⟩ := wk9_run
  refine (run_done 100 h (by decide) r1).mono ?_
  rintro e w' ⟨a, m, c, d, T', rfl, h1, h2, h3, h4⟩
  refine ⟨a, m, c, d, ?_, ?_, h4.f⟩
  · unfold outV
    rw [r1, r2, r3, r4]; rfl
  · rw [r4] at h1; exact h1.nl
set_option maxHeartbeats 2000000 in
theorem wakes_any (w : World) (hE : Env w) : Calls Tryd.prog 10 #[] w fun e w' => e = .returned (.bool true) ∧ Below w.heap.size w w' := by
  obtain ⟨hp, hx, hb⟩ := wk9_pat w
  have HN : Hid (Calls Tryd.prog 8 #[.agg #[.slice (some ⟨w.heap.size + 1 + 1 + 1, 0, none⟩) 2 2], .agg #[.slice none 0 0, .slice none 0 0]] (((((w.alloc (.cells #[.int .i8 1, .int .u8 1, .int .u8 0, .int .u8 0, .int .i64 3] 60)).alloc (.cells #[.int .i8 2, .int .u8 2, .int .u8 2, .int .u8 1, .int .i64 0] 60)).alloc (.cells #[.int .i8 17, .int .u8 0, .int .u8 2, .int .u8 0, .int .i64 0] 60)).alloc (.cells #[.slice (some ⟨w.heap.size, 0, none⟩) 1 1, .int .i8 3, .int .u8 1, .slice (some ⟨w.heap.size + 1, 0, none⟩) 1 1, .int .i64 1, .int .i64 0, .slice (some ⟨w.heap.size + 1 + 1, 0, none⟩) 1 1, .int .i8 2, .int .u8 2, .slice none 0 0, .int .i64 0, .int .i64 0] 57)).alloc (.cells #[.slice (some ⟨w.heap.size + 1 + 1 + 1, 0, none⟩) 2 2] 24)) (NewPost (((((w.alloc (.cells #[.int .i8 1, .int .u8 1, .int .u8 0, .int .u8 0, .int .i64 3] 60)).alloc (.cells #[.int .i8 2, .int .u8 2, .int .u8 2, .int .u8 1, .int .i64 0] 60)).alloc (.cells #[.int .i8 17, .int .u8 0, .int .u8 2, .int .u8 0, .int .i64 0] 60)).alloc (.cells #[.slice (some ⟨w.heap.size, 0, none⟩) 1 1, .int .i8 3, .int .u8 1, .slice (some ⟨w.heap.size + 1, 0, none⟩) 1 1, .int .i64 1, .int .i64 0, .slice (some ⟨w.heap.size + 1 + 1, 0, none⟩) 1 1, .int .i8 2, .int .u8 2, .slice none 0 0, .int .i64 0, .int .i64 0] 57)).alloc (.cells #[.slice (some ⟨w.heap.size + 1 + 1 + 1, 0, none⟩) 2 2] 24)) wk9 [] [])) := new_ok _ none none 2 0 0 wk9 [] [] _ hp (hE.up hb) wk9_ck ⟨⟨fun h => by simp at h⟩, ⟨fun h => by simp at h⟩⟩ (by simp) (by simp) (fun x h => by simp at h) (fun x h => by simp at h)
  have HB : Hid (Below w.heap.size w (((((w.alloc (.cells #[.int .i8 1, .int .u8 1, .int .u8 0, .int .u8 0, .int .i64 3] 60)).alloc (.cells #[.int .i8 2, .int .u8 2, .int .u8 2, .int .u8 1, .int .i64 0] 60)).alloc (.cells #[.int .i8 17, .int .u8 0, .int .u8 2, .int .u8 0, .int .i64 0] 60)).alloc (.cells #[.slice (some ⟨w.heap.size, 0, none⟩) 1 1, .int .i8 3, .int .u8 1, .slice (some ⟨w.heap.size + 1, 0, none⟩) 1 1, .int .i64 1, .int .i64 0, .slice (some ⟨w.heap.size + 1 + 1, 0, none⟩) 1 1, .int .i8 2, .int .u8 2, .slice none 0 0, .int .i64 0, .int .i64 0] 57)).alloc (.cells #[.slice (some ⟨w.heap.size + 1 + 1 + 1, 0, none⟩) 2 2] 24))) := hb
  have hz : (((((w.alloc (.cells #[.int .i8 1, .int .u8 1, .int .u8 0, .int .u8 0, .int .i64 3] 60)).alloc (.cells #[.int .i8 2, .int .u8 2, .int .u8 2, .int .u8 1, .int .i64 0] 60)).alloc (.cells #[.int .i8 17, .int .u8 0, .int .u8 2, .int .u8 0, .int .i64 0] 60)).alloc (.cells #[.slice (some ⟨w.heap.size, 0, none⟩) 1 1, .int .i8 3, .int .u8 1, .slice (some ⟨w.heap.size + 1, 0, none⟩) 1 1, .int .i64 1, .int .i64 0, .slice (some ⟨w.heap.size + 1 + 1, 0, none⟩) 1 1, .int .i8 2, .int .u8 2, .slice none 0 0, .int .i64 0, .int .i64 0] 57)).alloc (.cells #[.slice (some ⟨w.heap.size + 1 + 1 + 1, 0, none⟩) 2 2] 24)).heap.size = w.heap.size + 5 := by simp
  have HZ : Hid ((((((w.alloc (.cells #[.int .i8 1, .int .u8 1, .int .u8 0, .int .u8 0, .int .i64 3] 60)).alloc (.cells #[.int .i8 2, .int .u8 2, .int .u8 2, .int .u8 1, .int .i64 0] 60)).alloc (.cells #[.int .i8 17, .int .u8 0, .int .u8 2, .int .u8 0, .int .i64 0] 60)).alloc (.cells #[.slice (some ⟨w.heap.size, 0, none⟩) 1 1, .int .i8 3, .int .u8 1, .slice (some ⟨w.heap.size + 1, 0, none⟩) 1 1, .int .i64 1, .int .i64 0, .slice (some ⟨w.heap.size + 1 + 1, 0, none⟩) 1 1, .int .i8 2, .int .u8 2, .slice none 0 0, .int .i64 0, .int .i64 0] 57)).alloc (.cells #[.slice (some ⟨w.heap.size + 1 + 1 + 1, 0, none⟩) 2 2] 24)).heap.size = w.heap.size + 5) := hz
  clear hp hb hx hz hE
  go_enter Tryd.func10, Tryd.ntmps10
  go_wp2_with (first
    | (go_at_call 8; refine Calls.mono HN.out ?_; rintro e w1 ⟨q, T, rfl, hm, hb1, ht⟩; have HM : Hid (MM w1 q wk9 T (initM [] []) ∧ Below w.heap.size w w1 ∧ ∀ k, T k → w.heap.size ≤ k) := ⟨hm, HB.out.trans (hb1.mono HB.out.size), fun k hk => (by have := ht k hk; have h5 := HZ.out; omega)⟩; clear hm hb1 ht HN HB HZ)
    | (go_at_call 12; refine Calls.mono (wk9_runs w1 q T HM.out.1) ?_; rintro e w2 ⟨a, m, c, d, rfl, hnl, hfr⟩; have HR : Hid (NL w2 a [9] ∧ Below w.heap.size w w2) := ⟨hnl, HM.out.2.1.trans (hfr.below HM.out.2.1.size fun k hk hT => by have := HM.out.2.2 k hT; omega)⟩; clear hnl hfr HM)
    | (go_at_call 17; refine Calls.mono (nums_same a (some ⟨w2.heap.size + 1, 0, none⟩) c 1 [9] _ (HR.out.1.up (by go_grown)) ⟨fun _ => ⟨w2.heap.size + 1, 0, rfl, by simp, fun i hi => (by have : i = 0 := (by simp at hi; omega); subst this; exact (at_new' (w2.alloc (.cells #[.int .i64 0, .int .i64 9, .slice a 1 c, .slice m 256 d, .int .i64 10] 39)) #[.int .i64 9] 2 (w2.heap.size + 1) (by simp)).c 0 _ rfl)⟩⟩ (by simp)) ?_; rintro e w3 ⟨rfl, hb3⟩; obtain ⟨y1, -, y3, -, -⟩ := two_new w2 _ _ _ _ hb3; have z3 := y1.c 3 _ rfl; have z4 := y1.lt; have HW : Hid (Below w.heap.size w w3) := HR.out.2.trans (y3.mono HR.out.2.size); clear hb3 y1 y3 HR))
  go_ret
  exact ⟨rfl, HW.out⟩
set_option maxHeartbeats 2000000 in
theorem law_nil (n : Int) (w : World) (hE : Env w) : Calls Tryd.prog 5 #[.int .i64 n] w fun e w' => e = .returned (.bool true) ∧ Below w.heap.size w w' := by
  have HE : Hid (∀ W, Below w.heap.size w W → Calls Tryd.prog 10 #[] W fun e w' => e = .returned (.bool true) ∧ Below W.heap.size W w') := fun W hb => wakes_any W (hE.up hb)
  have HL : Hid (∀ W, Calls Tryd.prog 11 #[.agg #[.int .i64 1, .int .i64 0, .slice none 0 0, .slice none 0 0, .int .i64 0], .agg #[.int .i64 1, .int .i64 0, .slice none 0 0, .slice none 0 0, .int .i64 0]] W fun e w' => e = .returned (.bool true) ∧ Below W.heap.size W w') := fun W => like_same 1 0 0 none none none none 0 0 0 0 [] [] W (nl_nil _ _) (nl_nil _ _) (nl_nil _ _) (nl_nil _ _) (by simp) (by simp)
  clear hE
  go_enter Tryd.func5, Tryd.ntmps5
  go_wp2_with (first
    | (go_at_call 15; refine Calls.mono (state_nil _) ?_; rintro e w1 ⟨rfl, hb⟩; have HB : Hid (Below w.heap.size w w1) := hb; clear hb)
    | (go_at_call 12; refine Calls.mono (run_nil n _) ?_; rintro e w2 ⟨rfl, hb⟩; obtain ⟨a1, hb0, hz⟩ := one_new w1 _ _ hb; have HB2 : Hid (Below w.heap.size w w2) := HB.out.trans (hb0.mono HB.out.size); have HA2 : Hid (Op.At w2 w1.heap.size #[.slice none 0 0, .slice none 0 0]) := a1; clear hb hb0 a1 HB)
    | (go_at_call 11; refine Calls.mono (HL.out _) ?_; rintro e w3 ⟨rfl, hb⟩; have HB3 : Hid (Below w.heap.size w w3) := HB2.out.trans (hb.mono HB2.out.size); have a3 := HA2.out.below hb HA2.out.lt; have r0 := a3.c 0 _ rfl; have r1 := a3.c 1 _ rfl; have rl := a3.lt; clear hb a3 HB2 HA2 HL)
    | (go_at_call 10; refine Calls.mono (HE.out _ HB3.out) ?_; rintro e w4 ⟨rfl, hb⟩; have HB4 : Hid (Below w.heap.size w w4) := HB3.out.trans (hb.mono HB3.out.size); clear hb HE))
  go_ret
  exact ⟨rfl, HB4.out⟩
end Go.Proofs.YtlnfhbkkodhmaaaDoor.Sm
