/- The statement LiveTells, whole: for any program of at most 300 operations that may be and any place, what is still read is told as the document says, and the program stays as it was; the listed variable is tied to the program's text. Conditions: none. -/
import Derived.Test.YtlinekpaffgcjaaDoorVg
import Derived.Test.YtlinekpaffgcjaaDoorRw
import Derived.Test.YtlinekpaffgcjaaDoorRj
import Derived.Test.YtlinekpaffgcjaaDoorCm
import Derived.Test.YtlinekpaffgcjaaDoorPk
import Derived.Deep.QuietTactic
import Derived.BigQuiet
import Derived.Deep.RegionHeld3
import Derived.Test.YtlinekpaffgcjaaDoorTie
import Derived.Test.YtlinekpaffgcjaaDoorCards
import Derived.ProofKit
import Derived.HandedShaped
import Derived.Shelf.Vars
import Derived.Lib.LaidU8
import Derived.Lay
import Derived.LaidHandle
import Derived.LaidLaws
import Derived.Stop.Joined
import Derived.RowKitTokens
import Derived.SevenTiedAt
import Derived.Carry
import Derived.ChangeMaps5
import Derived.Deep.Slices
import Derived.Lib.SmallJoins
import Derived.ChangeOld
import Derived.SizedLaws
namespace Go.Proofs.YtlinekpaffgcjaaDoor.Li
open Go.ChangeShapes Go.WideShapes Go.ChangeAt Go.RowKit Go.Maps
open _root_.Go.Proofs.YtlinekpaffgcjaaDoor.So _root_.Go.Proofs.YtlinekpaffgcjaaDoor.Op _root_.Go.Proofs.YtlinekpaffgcjaaDoor.Fl _root_.Go.Proofs.YtlinekpaffgcjaaDoor.Lv
set_option maxRecDepth 20000

def wko : O := ⟨2, 1, 1, 2, 0⟩
def wk2 : List Bk := [⟨[], 3, 4, [wko], 1, 0⟩, ⟨[], 2, 1, [], 0, 0⟩]
theorem wk2_len : wk2.length = 2 := rfl
theorem wk2_ck : ckP wk2 = 0 := by decide
theorem wko_w : wOf wko = ⟨[1, 2], some 1⟩ := by
  have h1 : rdL wko = [1, 2] := by decide
  have h2 : wrB wko = true := by decide
  unfold wOf
  rw [h1, h2]; rfl
theorem wk2_pb : PB wk2 = [⟨[], [⟨[1, 2], some 1⟩], .loop 4 1⟩, ⟨[], [], .halt 1⟩] := by
  show [bOf ⟨[], 3, 4, [wko], 1, 0⟩, bOf ⟨[], 2, 1, [], 0, 0⟩] = _
  simp only [bOf, List.map_cons, List.map_nil, wko_w]
  rfl
theorem wko_ok : wko.Ok := by unfold wko; constructor <;> decide
theorem wk2_ok : PsOk wk2 := fun x hx => by
  simp only [wk2, List.mem_cons, List.not_mem_nil, or_false] at hx
  rcases hx with rfl | rfl
  · exact ⟨by constructor <;> decide, fun o ho => by simp at ho, fun o ho => by simp at ho; subst ho; exact wko_ok⟩
  · exact ⟨by constructor <;> decide, fun o ho => by simp at ho, fun o ho => by simp at ho⟩
theorem bits22 : ∀ r, (22 : Nat).testBit r = true → r = 1 ∨ r = 2 ∨ r = 4 := fun r h => by
  by_cases hr : r < 5
  · revert h
    have : r = 0 ∨ r = 1 ∨ r = 2 ∨ r = 3 ∨ r = 4 := by omega
    rcases this with rfl | rfl | rfl | rfl | rfl <;> decide
  · rw [Nat.testBit_lt_two_pow (Nat.lt_of_lt_of_le (by decide : 22 < 2 ^ 5) (Nat.pow_le_pow_right (by decide) (by omega)))] at h
    cases h
theorem bits2 : ∀ r, (2 : Nat).testBit r = true → r = 1 := fun r h => by
  by_cases hr : r < 2
  · revert h
    have : r = 0 ∨ r = 1 := by omega
    rcases this with rfl | rfl <;> decide
  · rw [Nat.testBit_lt_two_pow (Nat.lt_of_lt_of_le (by decide : 2 < 2 ^ 2) (Nat.pow_le_pow_right (by decide) (by omega)))] at h
    cases h
theorem wk2_is : IsIn wk2 [22, 2] := by
  refine ⟨fun _ => ⟨⟨by rw [wk2_pb]; rfl, fun t => ?_, fun t r h => ?_⟩, fun i k hk => ?_⟩, fun hn => absurd wk2_ck hn⟩
  · match t with
    | 0 => decide
    | 1 => decide
    | t + 2 => simp [inN]
  · rw [wk2_pb]
    match t with
    | 0 =>
      rcases bits22 r h with rfl | rfl | rfl
      · exact .here rfl (.inr ⟨rfl, by decide⟩)
      · exact .here rfl (.inr ⟨rfl, by decide⟩)
      · exact .here rfl (.inr ⟨rfl, by decide⟩)
    | 1 =>
      obtain rfl := bits2 r h
      exact .here rfl (.inr ⟨rfl, by decide⟩)
    | t + 2 => simp [bitN, inN] at h
  · rw [wk2_pb] at hk
    match i with
    | 0 => cases hk; unfold Lv.Shut; decide
    | 1 => cases hk; unfold Lv.Shut; decide
    | i + 2 => simp at hk
theorem wk2_in : inL wk2 = [22, 2] := (inL_eq wk2_ok wk2_is).symm
theorem wk2_out : outL wk2 [22, 2] = [22, 2] := by
  unfold outL
  rw [if_pos wk2_ck]
  have h := wk2_pb
  simp only [wk2, List.map_cons, List.map_nil, List.cons.injEq, and_true] at h ⊢
  rw [h.1, h.2]
  decide
theorem wk2_at1 : atN wk2 [22, 2] 1 0 = 2 := by
  unfold atN
  rw [if_pos ⟨wk2_ck, by decide, by decide⟩]
  have h := wk2_pb
  simp only [wk2, List.map_cons, List.map_nil, List.cons.injEq, and_true] at h
  show (if 0 ≤ (0 : Int) ∧ (0 : Int) ≤ ((([] : List O).length : Nat) : Int) then aheadNL ((([] : List O).drop (0 : Int).toNat).map wOf) (endN (bOf ⟨[], 2, 1, [], 0, 0⟩) [22, 2]) else 0) = 2
  rw [if_pos (by decide), h.2]
  decide
theorem wk2_at2 : atN wk2 [22, 2] 2 0 = 0 := by
  unfold atN
  rw [if_neg (fun h => absurd h.2.2 (by decide))]
theorem ops_nil (w : World) (a : Option Addr) : OpsAt w a [] := ⟨fun o h => by simp at h, by simp, fun h => by simp at h⟩
theorem wk2_pat (w : World) : PAt (((w.alloc (.cells #[.int .i8 2, .int .u8 1, .int .u8 1, .int .u8 2, .int .i64 0] 51)).alloc (.cells #[.slice none 0 0, .int .i8 3, .int .u8 4, .slice (some ⟨w.heap.size, 0, none⟩) 1 1, .int .i64 1, .int .i64 0, .slice none 0 0, .int .i8 2, .int .u8 1, .slice none 0 0, .int .i64 0, .int .i64 0] 47)).alloc (.cells #[.slice (some ⟨w.heap.size + 1, 0, none⟩) 2 2] 24)) (some ⟨w.heap.size + 1, 0, none⟩) wk2 := by
  have a0 := ((Op.At.new w #[.int .i8 2, .int .u8 1, .int .u8 1, .int .u8 2, .int .i64 0] 51).alloc (.cells #[.slice none 0 0, .int .i8 3, .int .u8 4, .slice (some ⟨w.heap.size, 0, none⟩) 1 1, .int .i64 1, .int .i64 0, .slice none 0 0, .int .i8 2, .int .u8 1, .slice none 0 0, .int .i64 0, .int .i64 0] 47)).alloc (.cells #[.slice (some ⟨w.heap.size + 1, 0, none⟩) 2 2] 24)
  have a1 := (At.new' (w.alloc (.cells #[.int .i8 2, .int .u8 1, .int .u8 1, .int .u8 2, .int .i64 0] 51)) #[.slice none 0 0, .int .i8 3, .int .u8 4, .slice (some ⟨w.heap.size, 0, none⟩) 1 1, .int .i64 1, .int .i64 0, .slice none 0 0, .int .i8 2, .int .u8 1, .slice none 0 0, .int .i64 0, .int .i64 0] 47 (w.heap.size + 1) (by simp)).alloc (.cells #[.slice (some ⟨w.heap.size + 1, 0, none⟩) 2 2] 24)
  generalize ((w.alloc (.cells #[.int .i8 2, .int .u8 1, .int .u8 1, .int .u8 2, .int .i64 0] 51)).alloc (.cells #[.slice none 0 0, .int .i8 3, .int .u8 4, .slice (some ⟨w.heap.size, 0, none⟩) 1 1, .int .i64 1, .int .i64 0, .slice none 0 0, .int .i8 2, .int .u8 1, .slice none 0 0, .int .i64 0, .int .i64 0] 47)).alloc (.cells #[.slice (some ⟨w.heap.size + 1, 0, none⟩) 2 2] 24) = V at *
  refine ⟨by decide, fun _ => ⟨w.heap.size + 1, 0, rfl, a1.lt, fun i hi => ?_⟩⟩
  have : i = 0 ∨ i = 1 := by rw [wk2_len] at hi; omega
  rcases this with rfl | rfl
  · refine ⟨⟨none, 0, some ⟨w.heap.size, 0, none⟩, 1⟩, ⟨a1.c 0 _ rfl, a1.c 1 _ rfl, a1.c 2 _ rfl, a1.c 3 _ rfl, a1.c 4 _ rfl, a1.c 5 _ rfl⟩, (wk2_ok _ (List.getElem_mem hi)).1, ops_nil _ _, opsAt_one a0 wko_ok, Nat.le_refl 0⟩
  · refine ⟨⟨none, 0, none, 0⟩, ⟨a1.c 6 _ rfl, a1.c 7 _ rfl, a1.c 8 _ rfl, a1.c 9 _ rfl, a1.c 10 _ rfl, a1.c 11 _ rfl⟩, (wk2_ok _ (List.getElem_mem hi)).1, ops_nil _ _, ops_nil _ _, Nat.le_refl 0⟩
end Go.Proofs.YtlinekpaffgcjaaDoor.Li

namespace Go.Proofs.YtlinekpaffgcjaaDoor.Li
open Go.ChangeShapes Go.WideShapes Go.ChangeAt Go.RowKit Go.Maps
open _root_.Go.Proofs.YtlinekpaffgcjaaDoor.So _root_.Go.Proofs.YtlinekpaffgcjaaDoor.Op _root_.Go.Proofs.YtlinekpaffgcjaaDoor.Fl _root_.Go.Proofs.YtlinekpaffgcjaaDoor.Lv
set_option maxRecDepth 20000

/-- Two lists of sets, and the program's own box. -/
structure Wv (V W : World) (bx a c b d : Nat) : Prop where
  b0 : Below V.heap.size V W
  i0 : W.cell? ⟨a, 0, none⟩ = some (.int .u32 22)
  i1 : W.cell? ⟨a, 1, none⟩ = some (.int .u32 2)
  o0 : W.cell? ⟨b, 0, none⟩ = some (.int .u32 22)
  ia : a < W.heap.size
  ib : b < W.heap.size
set_option maxHeartbeats 2000000 in
theorem wakes_any (w : World) (hE : Env w) : Calls Tryd.prog 9 #[] w fun e w' => e = .returned (.bool true) ∧ Below w.heap.size w w' := by
  obtain ⟨V, hV⟩ : ∃ V, V = ((w.alloc (.cells #[.int .i8 2, .int .u8 1, .int .u8 1, .int .u8 2, .int .i64 0] 51)).alloc (.cells #[.slice none 0 0, .int .i8 3, .int .u8 4, .slice (some ⟨w.heap.size, 0, none⟩) 1 1, .int .i64 1, .int .i64 0, .slice none 0 0, .int .i8 2, .int .u8 1, .slice none 0 0, .int .i64 0, .int .i64 0] 47)).alloc (.cells #[.slice (some ⟨w.heap.size + 1, 0, none⟩) 2 2] 24) := ⟨_, rfl⟩
  have hb0 : Below w.heap.size w V := by rw [hV]; go_grown
  have hP : PAt V (some ⟨w.heap.size + 1, 0, none⟩) wk2 := by rw [hV]; exact wk2_pat w
  have hEV : Env V := hE.up hb0
  have hbx : V.cell? ⟨w.heap.size + 2, 0, none⟩ = some (.slice (some ⟨w.heap.size + 1, 0, none⟩) 2 2) ∧ w.heap.size + 2 < V.heap.size := by
    have h := At.new' ((w.alloc (.cells #[.int .i8 2, .int .u8 1, .int .u8 1, .int .u8 2, .int .i64 0] 51)).alloc (.cells #[.slice none 0 0, .int .i8 3, .int .u8 4, .slice (some ⟨w.heap.size, 0, none⟩) 1 1, .int .i64 1, .int .i64 0, .slice none 0 0, .int .i8 2, .int .u8 1, .slice none 0 0, .int .i64 0, .int .i64 0] 47)) #[.slice (some ⟨w.heap.size + 1, 0, none⟩) 2 2] 24 (w.heap.size + 2) (by simp)
    rw [← hV] at h
    exact ⟨h.c 0 _ rfl, h.lt⟩
  have HI : Hid (∀ W, W = V → Calls Tryd.prog 12 #[.agg #[.slice (some ⟨w.heap.size + 1, 0, none⟩) 2 2]] W fun e w' => ∃ a c, e = .returned (.slice (some ⟨a, 0, none⟩) 2 c) ∧ w'.cell? ⟨a, 0, none⟩ = some (.int .u32 22) ∧ w'.cell? ⟨a, 1, none⟩ = some (.int .u32 2) ∧ a < w'.heap.size ∧ Below V.heap.size V w') := by
    rintro W rfl
    have h := in_is (some ⟨w.heap.size + 1, 0, none⟩) 2 wk2 W hP hEV
    rw [wk2_len, wk2_in] at h
    refine h.mono ?_
    rintro e w' ⟨a, c, rfl, hU, _, hb⟩
    obtain ⟨b, rfl, hlt⟩ := hU.addr (by decide)
    exact ⟨b, c, rfl, hU.at (t := 0) (by decide), hU.at (t := 1) (by decide), hlt, hb⟩
  have HO : Hid (∀ W, Below V.heap.size V W → Calls Tryd.prog 14 #[.agg #[.slice (some ⟨w.heap.size + 1, 0, none⟩) 2 2]] W fun e w' => ∃ a c, e = .returned (.slice (some ⟨a, 0, none⟩) 2 c) ∧ w'.cell? ⟨a, 0, none⟩ = some (.int .u32 22) ∧ a < w'.heap.size ∧ Below W.heap.size W w') := fun W hW => by
    have h := out_is (some ⟨w.heap.size + 1, 0, none⟩) 2 wk2 W (hP.below hW) (hEV.up hW)
    rw [wk2_len, wk2_in, wk2_out] at h
    refine h.mono ?_
    rintro e w' ⟨a, c, rfl, hU, _, hb⟩
    obtain ⟨b, rfl, hlt⟩ := hU.addr (by decide)
    exact ⟨b, c, rfl, hU.at (t := 0) (by decide), hlt, hb⟩
  have HA1 : Hid (∀ W, Below V.heap.size V W → Calls Tryd.prog 16 #[.agg #[.slice (some ⟨w.heap.size + 1, 0, none⟩) 2 2], .int .i64 1, .int .i64 0] W fun e w' => e = .returned (.int .u32 2) ∧ Below W.heap.size W w') := fun W hW => by
    have h := at_is (some ⟨w.heap.size + 1, 0, none⟩) 2 wk2 1 0 W (hP.below hW) (hEV.up hW) (by rw [wk2_in]; exact wk2_is)
    rw [wk2_len, wk2_in, wk2_at1] at h
    exact h
  have HA2 : Hid (∀ W, Below V.heap.size V W → Calls Tryd.prog 16 #[.agg #[.slice (some ⟨w.heap.size + 1, 0, none⟩) 2 2], .int .i64 2, .int .i64 0] W fun e w' => e = .returned (.int .u32 0) ∧ Below W.heap.size W w') := fun W hW => by
    have h := at_is (some ⟨w.heap.size + 1, 0, none⟩) 2 wk2 2 0 W (hP.below hW) (hEV.up hW) (by rw [wk2_in]; exact wk2_is)
    rw [wk2_len, wk2_in, wk2_at2] at h
    exact h
  have HB0 : Hid (Below w.heap.size w V ∧ V.cell? ⟨w.heap.size + 2, 0, none⟩ = some (.slice (some ⟨w.heap.size + 1, 0, none⟩) 2 2) ∧ w.heap.size + 2 < V.heap.size) := ⟨hb0, hbx⟩
  have HV : Hid _ := hV
  clear hE hb0 hP hEV hbx hV
  go_enter Tryd.func9, Tryd.ntmps9
  go_wp2_with (first
    | (go_at_call 12; refine Calls.mono (HI.out _ HV.out.symm) ?_; rintro e w1 ⟨a, c, rfl, i0, i1, ia, hb1⟩; have HW1 : Hid (Below V.heap.size V w1 ∧ w1.cell? ⟨a, 0, none⟩ = some (.int .u32 22) ∧ w1.cell? ⟨a, 1, none⟩ = some (.int .u32 2) ∧ a < w1.heap.size) := ⟨hb1, i0, i1, ia⟩; have cb : w1.cell? ⟨w.heap.size + 2, 0, none⟩ = some (.slice (some ⟨w.heap.size + 1, 0, none⟩) 2 2) := (by rw [(bcell hb1).1 _ _ HB0.out.2.2]; exact HB0.out.2.1); clear hb1 i0 i1 ia HI)
    | (go_at_call 14; refine Calls.mono (HO.out _ HW1.out.1) ?_; rintro e w2 ⟨b, d, rfl, o0, ib, hb2⟩; have HW2 : Hid (Wv V w2 (w.heap.size + 2) a c b d) := ⟨HW1.out.1.trans (hb2.mono HW1.out.1.size), by rw [(bcell hb2).1 _ _ HW1.out.2.2.2]; exact HW1.out.2.1, by rw [(bcell hb2).1 _ _ HW1.out.2.2.2]; exact HW1.out.2.2.1, o0, Nat.lt_of_lt_of_le HW1.out.2.2.2 hb2.size, ib⟩; clear hb2 o0 ib HO HW1 cb))
  have hx0 : ∀ z : Wd (Below w2.heap.size w2), Below V.heap.size V z.w := fun z => HW2.out.b0.trans (z.ok.mono HW2.out.b0.size)
  have e0 : ∀ z : Wd (Below w2.heap.size w2), z.w.cell? ⟨w.heap.size + 2, 0, none⟩ = some (.slice (some ⟨w.heap.size + 1, 0, none⟩) 2 2) := fun z => by rw [(bcell (hx0 z)).1 _ _ HB0.out.2.2]; exact HB0.out.2.1
  have e1 : ∀ z : Wd (Below w2.heap.size w2), z.w.cell? ⟨a, 0, none⟩ = some (.int .u32 22) := fun z => by rw [(bcell z.ok).1 _ _ HW2.out.ia]; exact HW2.out.i0
  have e2 : ∀ z : Wd (Below w2.heap.size w2), z.w.cell? ⟨a, 1, none⟩ = some (.int .u32 2) := fun z => by rw [(bcell z.ok).1 _ _ HW2.out.ia]; exact HW2.out.i1
  have e3 : ∀ z : Wd (Below w2.heap.size w2), z.w.cell? ⟨b, 0, none⟩ = some (.int .u32 22) := fun z => by rw [(bcell z.ok).1 _ _ HW2.out.ib]; exact HW2.out.o0
  haveI inst : Nonempty (Wd (Below w2.heap.size w2)) := ⟨⟨w2, Below.refl _ _⟩⟩
  have HX : Hid _ := hx0
  clear hx0
  refine wp_region_in (Below w2.heap.size w2) (by kernel_rfl) (by kernel_rfl) ((Below.refl _ _).drew) ?_
  repeat (first | go_big_quiet_step ((first
    | (go_at_call_of 16 (Value.int IntKind.i64 1); exact calls_in (Nat.le_refl _) _ (HA1.out _ (HX.out _)))
    | (go_at_call_of 16 (Value.int IntKind.i64 2); exact calls_in (Nat.le_refl _) _ (HA2.out _ (HX.out _))))))
  refine wpQuiet_nil ?_
  rintro _ ⟨x, rfl⟩
  have hx := HX.out x
  go_wp2_with fail
  go_ret
  exact ⟨rfl, HB0.out.1.trans (hx.mono HB0.out.1.size)⟩
end Go.Proofs.YtlinekpaffgcjaaDoor.Li

namespace Go.Proofs.YtlinekpaffgcjaaDoor.Li
open Go.ChangeShapes Go.WideShapes Go.ChangeAt Go.RowKit Go.Maps
open _root_.Go.Proofs.YtlinekpaffgcjaaDoor.So _root_.Go.Proofs.YtlinekpaffgcjaaDoor.Op _root_.Go.Proofs.YtlinekpaffgcjaaDoor.Fl _root_.Go.Proofs.YtlinekpaffgcjaaDoor.Lv
set_option maxRecDepth 20000

/-- The program's box, and all that was there. -/
structure Bw (w W : World) (ao : Option Addr) (cap : Nat) (ps : List Bk) : Prop where
  a : Op.At W w.heap.size #[.slice ao ps.length cap]
  b : Below w.heap.size w W
theorem Bw.up {w W W' : World} {ao : Option Addr} {cap : Nat} {ps : List Bk} (h : Bw w W ao cap ps) (hb : Below W.heap.size W W') : Bw w W' ao cap ps := ⟨h.a.below hb h.a.lt, h.b.trans (hb.mono h.b.size)⟩
theorem Bw.new (w : World) (ao : Option Addr) (cap : Nat) (ps : List Bk) : Bw w (w.alloc (.cells #[.slice ao ps.length cap] 24)) ao cap ps := ⟨Op.At.new _ _ _, below_al _⟩
theorem Bw.cell {w W : World} {ao : Option Addr} {cap : Nat} {ps : List Bk} (h : Bw w W ao cap ps) : W.cell? ⟨w.heap.size, 0, none⟩ = some (.slice ao ps.length cap) := h.a.c 0 _ rfl
theorem put_mod {x d : Nat} (hx : x < 4294967296) (hd : d < 32) : bits .or .u32 (x : Int) ((2 : Int) ^ d % 4294967296) = ((put x d : Nat) : Int) := by rw [pow_mod hd]; exact u32_or_nat x (2 ^ d) hx (pow32 hd)
theorem clr_mod {x d : Nat} (hx : x < 4294967296) (hd : d < 32) : bits .andNot .u32 (x : Int) ((2 : Int) ^ d % 4294967296) = ((clr x d : Nat) : Int) := by rw [pow_mod hd]; exact u32_andNot_nat x (2 ^ d) hx (pow32 hd)
theorem len_le {ps : List Bk} (hc : ckP ps = 0) : ps.length ≤ 8192 := Nat.le_trans (good_of hc).le (by decide)

set_option maxHeartbeats 1000000 in
theorem ends_wake (ao : Option Addr) (cap : Nat) (ps : List Bk) (block : Int) (w : World) (h : PAt w ao ps) (he : Env w) (hn : ckP ps ≠ 0 ∨ 300 < opsN ps ∨ block < 0 ∨ (ps.length : Int) ≤ block) :
    Calls Tryd.prog 5 #[.agg #[.slice ao ps.length cap], .int .i64 block] w fun e w' => e = .returned (.bool true) ∧ Below w.heap.size w w' := by
  have HQ : Hid (Bw w (w.alloc (.cells #[.slice ao ps.length cap] 24)) ao cap ps) := Bw.new w ao cap ps
  have HC : Hid (∀ W, Bw w W ao cap ps → Calls Tryd.prog 7 #[.agg #[.slice ao ps.length cap]] W fun e w' => e = .returned (.int .i64 (ckP ps)) ∧ Below W.heap.size W w') := fun W hb => checkP_any ao cap ps W (h.below hb.b) (he.up hb.b)
  have HK : Hid (∀ W, Bw w W ao cap ps → Calls Tryd.prog 9 #[] W fun e w' => e = .returned (.bool true) ∧ Below W.heap.size W w') := fun W hb => wakes_any W (he.up hb.b)
  by_cases hc : ckP ps = 0
  · rw [hc] at HC
    have HO : Hid (∀ W, Bw w W ao cap ps → Calls Tryd.prog 8 #[.agg #[.slice ao ps.length cap]] W fun e w' => e = .returned (.int .i64 ((opsN ps : Nat) : Int)) ∧ Below W.heap.size W w') := fun W hb => ops_any ao cap ps W (h.below hb.b) (len_le hc)
    have hn' : 300 < opsN ps ∨ block < 0 ∨ (ps.length : Int) ≤ block := by rcases hn with h | h; exact absurd hc h; exact h
    clear h he hc hn
    generalize opsN ps = on at *
    by_cases h1 : 300 < on
    · have h1' : (300 : Int) < (on : Int) := by omega
      clear hn'
      go_enter Tryd.func5, Tryd.ntmps5
      go_wp2_with (first
        | (go_at_call 7; refine Calls.mono (HC.out _ HQ.out) ?_; rintro e w1 ⟨rfl, hb⟩; have H1 : Hid _ := HQ.out.up hb; have cb := H1.out.cell; clear hb HQ HC)
        | (go_at_call 8; refine Calls.mono (HO.out _ H1.out) ?_; rintro e w2 ⟨rfl, hb⟩; have H2 : Hid _ := H1.out.up hb; clear hb H1 HO cb)
        | (go_at_call 9; refine Calls.mono (HK.out _ H2.out) ?_; rintro e w3 ⟨rfl, hb⟩; have H3 : Hid _ := H2.out.up hb; clear hb H2 HK))
      go_ret
      exact ⟨rfl, H3.out.b⟩
    · have h1' : ¬ (300 : Int) < (on : Int) := by omega
      by_cases h2 : block < 0
      · clear hn'
        go_enter Tryd.func5, Tryd.ntmps5
        go_wp2_with (first
          | (go_at_call 7; refine Calls.mono (HC.out _ HQ.out) ?_; rintro e w1 ⟨rfl, hb⟩; have H1 : Hid _ := HQ.out.up hb; have cb := H1.out.cell; clear hb HQ HC)
          | (go_at_call 8; refine Calls.mono (HO.out _ H1.out) ?_; rintro e w2 ⟨rfl, hb⟩; have H2 : Hid _ := H1.out.up hb; clear hb H1 HO cb)
          | (go_at_call 9; refine Calls.mono (HK.out _ H2.out) ?_; rintro e w3 ⟨rfl, hb⟩; have H3 : Hid _ := H2.out.up hb; clear hb H2 HK))
        go_ret
        exact ⟨rfl, H3.out.b⟩
      · have h3 : (ps.length : Int) ≤ block := by omega
        clear hn'
        go_enter Tryd.func5, Tryd.ntmps5
        go_wp2_with (first
          | (go_at_call 7; refine Calls.mono (HC.out _ HQ.out) ?_; rintro e w1 ⟨rfl, hb⟩; have H1 : Hid _ := HQ.out.up hb; have cb := H1.out.cell; clear hb HQ HC)
          | (go_at_call 8; refine Calls.mono (HO.out _ H1.out) ?_; rintro e w2 ⟨rfl, hb⟩; have H2 : Hid _ := H1.out.up hb; have cb2 := H2.out.cell; clear hb H1 HO cb)
          | (go_at_call 9; refine Calls.mono (HK.out _ H2.out) ?_; rintro e w3 ⟨rfl, hb⟩; have H3 : Hid _ := H2.out.up hb; clear hb H2 HK))
        go_ret
        exact ⟨rfl, H3.out.b⟩
  · generalize ckP ps = z at *
    clear h he hn
    go_enter Tryd.func5, Tryd.ntmps5
    go_wp2_with (first
      | (go_at_call 7; refine Calls.mono (HC.out _ HQ.out) ?_; rintro e w1 ⟨rfl, hb⟩; have H1 : Hid _ := HQ.out.up hb; clear hb HQ HC)
      | (go_at_call 9; refine Calls.mono (HK.out _ H1.out) ?_; rintro e w3 ⟨rfl, hb⟩; have H3 : Hid _ := H1.out.up hb; clear hb H1 HK))
    go_ret
    exact ⟨rfl, H3.out.b⟩
/-- Both lists in memory. -/
structure Eu (w W : World) (ao : Option Addr) (cap : Nat) (ps : List Bk) (a b : Nat) (y z : Nat) (g : Nat) : Prop where
  q : Bw w W ao cap ps
  ia : a < W.heap.size
  ib : b < W.heap.size
  ca : W.cell? ⟨a, g, none⟩ = some (.int .u32 (y : Int))
  cb : W.cell? ⟨b, g, none⟩ = some (.int .u32 (z : Int))
theorem out_get {ps : List Bk} {xs : List Nat} {g : Nat} (hc : ckP ps = 0) (hg : g < ps.length) : inN (outL ps xs) g = endN (bOf ps[g]) xs := by
  unfold outL
  rw [if_pos hc, inN_eq (by simpa using hg)]
  simp
set_option maxHeartbeats 4000000 in
theorem ends_main (ao : Option Addr) (cap : Nat) (ps : List Bk) (g : Nat) (w : World) (h : PAt w ao ps) (he : Env w) (hc : ckP ps = 0) (ho : opsN ps ≤ 300) (hg : g < ps.length) :
    Calls Tryd.prog 5 #[.agg #[.slice ao ps.length cap], .int .i64 g] w fun e w' => e = .returned (.bool true) ∧ Below w.heap.size w w' := by
  have HQ : Hid (Bw w (w.alloc (.cells #[.slice ao ps.length cap] 24)) ao cap ps) := Bw.new w ao cap ps
  have HC : Hid (∀ W, Bw w W ao cap ps → Calls Tryd.prog 7 #[.agg #[.slice ao ps.length cap]] W fun e w' => e = .returned (.int .i64 0) ∧ Below W.heap.size W w') := fun W hb => by
    have := checkP_any ao cap ps W (h.below hb.b) (he.up hb.b)
    rw [hc] at this; exact this
  have HK : Hid (∀ W, Bw w W ao cap ps → Calls Tryd.prog 9 #[] W fun e w' => e = .returned (.bool true) ∧ Below W.heap.size W w') := fun W hb => wakes_any W (he.up hb.b)
  have HO : Hid (∀ W, Bw w W ao cap ps → Calls Tryd.prog 8 #[.agg #[.slice ao ps.length cap]] W fun e w' => e = .returned (.int .i64 ((opsN ps : Nat) : Int)) ∧ Below W.heap.size W w') := fun W hb => ops_any ao cap ps W (h.below hb.b) (len_le hc)
  have hok := psOk_of h
  have HI : Hid (∀ W, Bw w W ao cap ps → Calls Tryd.prog 12 #[.agg #[.slice ao ps.length cap]] W fun e w' => ∃ a c, e = .returned (.slice (some ⟨a, 0, none⟩) ps.length c) ∧ IsIn ps (inL ps) ∧ (a < w'.heap.size ∧ w'.cell? ⟨a, g, none⟩ = some (.int .u32 ((inN (inL ps) g : Nat) : Int))) ∧ Below W.heap.size W w') := fun W hb =>
    (in_is ao cap ps W (h.below hb.b) (he.up hb.b)).mono fun e w' ⟨a, c, h1, h2, h3, h4⟩ => by
      have hl := h3.len
      rw [if_pos hc] at hl
      rw [hl] at h1
      obtain ⟨b, rfl, hlt⟩ := h2.addr (by omega)
      exact ⟨b, c, h1, h3, ⟨hlt, h2.at (by omega)⟩, h4⟩
  have HU : Hid (∀ W, Bw w W ao cap ps → Calls Tryd.prog 14 #[.agg #[.slice ao ps.length cap]] W fun e w' => ∃ a c, e = .returned (.slice (some ⟨a, 0, none⟩) ps.length c) ∧ (a < w'.heap.size ∧ w'.cell? ⟨a, g, none⟩ = some (.int .u32 ((endN (bOf ps[g]) (inL ps) : Nat) : Int))) ∧ Below W.heap.size W w') := fun W hb =>
    (out_is ao cap ps W (h.below hb.b) (he.up hb.b)).mono fun e w' ⟨a, c, h1, h2, h3, h4⟩ => by
      have hl : (outL ps (inL ps)).length = ps.length := by unfold outL; rw [if_pos hc]; simp
      have hx := h2.addr (by omega)
      obtain ⟨b, rfl, hlt⟩ := hx
      have hcl := h2.at (t := g) (by omega)
      rw [out_get hc hg] at hcl
      rw [hl] at h1
      exact ⟨b, c, h1, ⟨hlt, hcl⟩, h4⟩
  have HA : Hid (∀ (k : Nat) W, k ≤ ps[g].ops.length → IsIn ps (inL ps) → Bw w W ao cap ps → Calls Tryd.prog 16 #[.agg #[.slice ao ps.length cap], .int .i64 g, .int .i64 (k : Int)] W fun e w' => e = .returned (.int .u32 ((aheadNL ((ps[g].ops.drop k).map wOf) (endN (bOf ps[g]) (inL ps)) : Nat) : Int)) ∧ Below W.heap.size W w') := fun k W hk hI hb => at_yes ao cap ps g k W (h.below hb.b) (he.up hb.b) hg (by rw [hI.len, if_pos hc]) hk
  have HF0 : Hid (IsIn ps (inL ps) → aheadNL ((ps[g].ops.drop 0).map wOf) (endN (bOf ps[g]) (inL ps)) = inN (inL ps) g) := fun hI => hI.fix hok hc hg
  have HFn : Hid (aheadNL ((ps[g].ops.drop ps[g].ops.length).map wOf) (endN (bOf ps[g]) (inL ps)) = endN (bOf ps[g]) (inL ps)) := by
    show _ = _
    rw [List.drop_length]; rfl
  have HEl : Hid (IsIn ps (inL ps) → ∀ k, aheadNL ((ps[g].ops.drop k).map wOf) (endN (bOf ps[g]) (inL ps)) < 4294967296) := fun hI k => drop_lt (end_fit hok (fine_of hI (by rw [hI.len, if_pos hc]; omega)) hg) (hok _ (List.getElem_mem hg)).2.1
  obtain ⟨bp, fp, rfl, hblt, hx⟩ := h.is (by omega)
  obtain ⟨p, hp, hin⟩ := hx g hg
  have HP : Hid (BAt w bp (fp + g * 6) ps[g] p ∧ BIn w ps[g] p) := ⟨hp, hin⟩
  have hgz : (g : Int) < (ps.length : Int) := by omega
  have hlen := hin.o.len
  have hoz : ¬ (300 : Int) < ((opsN ps : Nat) : Int) := by omega
  generalize opsN ps = on at *
  generalize hys : inN (inL ps) g = y0 at *
  generalize hes : endN (bOf ps[g]) (inL ps) = z0 at *
  generalize hIs : IsIn ps (inL ps) = IS at *
  generalize ps[g] = x at *
  clear h he hc ho hx hp hin hok hys hes hIs
  obtain ⟨xo, xf, xa, xb, xt, xe⟩ := x
  obtain ⟨oa, oc, ba, bc⟩ := p
  simp only at HA HF0 HFn HEl hlen
  go_enter Tryd.func5, Tryd.ntmps5
  go_upto_region 8 with (first
    | (go_at_call 7; refine Calls.mono (HC.out _ HQ.out) ?_; rintro e w1 ⟨rfl, hb⟩; have H1 : Hid _ := HQ.out.up hb; have c1 := H1.out.cell; clear hb HQ HC)
    | (go_at_call 8; refine Calls.mono (HO.out _ H1.out) ?_; rintro e w2 ⟨rfl, hb⟩; have H2 : Hid _ := H1.out.up hb; have c2 := H2.out.cell; clear hb H1 HO c1)
    | (go_at_call 12; refine Calls.mono (HI.out _ H2.out) ?_; rintro e w3 ⟨a, ca, rfl, hIs, ⟨ia, cia⟩, hb⟩; have H3 : Hid (Bw w w3 (some ⟨bp, fp, none⟩) cap ps ∧ a < w3.heap.size ∧ w3.cell? ⟨a, g, none⟩ = some (.int .u32 (y0 : Int))) := ⟨H2.out.up hb, ia, cia⟩; have c3 := H3.out.1.cell; have HIS : Hid IS := hIs; clear hb H2 HI c2 hIs ia cia)
    | (go_at_call 14; refine Calls.mono (HU.out _ H3.out.1) ?_; rintro e w4 ⟨b, cb', rfl, ⟨ib, cib⟩, hb⟩; have H4 : Hid (Eu w w4 (some ⟨bp, fp, none⟩) cap ps a b y0 z0 g) := ⟨H3.out.1.up hb, Nat.lt_of_lt_of_le H3.out.2.1 hb.size, ib, by rw [(bcell hb).1 _ _ H3.out.2.1]; exact H3.out.2.2, cib⟩; have c4 := H4.out.q.cell; obtain ⟨p0, p1, p2, p3, p4, p5⟩ := HP.out.1.below H4.out.q.b hblt; clear hb H3 HU c3 ib cib))
  have hfin : Hid ((xo.length : Nat) ≤ xo.length) := Nat.le_refl _
  have HX : Hid (∀ z : Wd (Below w4.heap.size w4), Bw w z.w (some ⟨bp, fp, none⟩) cap ps) := fun z => H4.out.q.up z.ok
  have e0 : ∀ z : Wd (Below w4.heap.size w4), z.w.cell? ⟨w.heap.size, 0, none⟩ = some (.slice (some ⟨bp, fp, none⟩) ps.length cap) := fun z => (HX.out z).cell
  have e1 : ∀ z : Wd (Below w4.heap.size w4), z.w.cell? ⟨a, g, none⟩ = some (.int .u32 (y0 : Int)) := fun z => by rw [(bcell z.ok).1 _ _ H4.out.ia]; exact H4.out.ca
  have e2 : ∀ z : Wd (Below w4.heap.size w4), z.w.cell? ⟨b, g, none⟩ = some (.int .u32 (z0 : Int)) := fun z => by rw [(bcell z.ok).1 _ _ H4.out.ib]; exact H4.out.cb
  have HA0 : Hid (∀ z : Wd (Below w4.heap.size w4), Calls Tryd.prog 16 #[.agg #[.slice (some ⟨bp, fp, none⟩) ps.length cap], .int .i64 g, .int .i64 0] z.w fun e w' => e = .returned (.int .u32 (y0 : Int)) ∧ Below z.w.heap.size z.w w') := fun z => by
    have := HA.out 0 z.w (Nat.zero_le _) HIS.out (HX.out z)
    rw [HF0.out HIS.out] at this; exact this
  have HAn : Hid (∀ z : Wd (Below w4.heap.size w4), Calls Tryd.prog 16 #[.agg #[.slice (some ⟨bp, fp, none⟩) ps.length cap], .int .i64 g, .int .i64 (xo.length : Int)] z.w fun e w' => e = .returned (.int .u32 (z0 : Int)) ∧ Below z.w.heap.size z.w w') := fun z => by
    have := HA.out xo.length z.w (Nat.le_refl _) HIS.out (HX.out z)
    rw [HFn.out] at this; exact this
  haveI inst : Nonempty (Wd (Below w4.heap.size w4)) := ⟨⟨w4, Below.refl _ _⟩⟩
  clear c4 p0 p1 p2 p3 p4 p5
  go_wp2_with fail
  refine wp_region_in (Below w4.heap.size w4) (by kernel_rfl) (by kernel_rfl) ((Below.refl _ _).drew) ?_
  repeat (first | go_big_quiet_step ((first
    | (go_at_call_of 16 (Value.int IntKind.i64 0); exact calls_in (Nat.le_refl _) _ (HA0.out _))
    | (go_at_call 16; exact calls_in (Nat.le_refl _) _ (HAn.out _)))))
  refine wpQuiet_nil ?_
  rintro _ ⟨x, rfl⟩
  have H5 : Hid (Bw w x.w (some ⟨bp, fp, none⟩) cap ps) := HX.out x
  have HPo : Hid (OpsAt w oa xo) := HP.out.2.o
  generalize x.w = w5 at *
  clear e0 e1 e2 HA0 HAn inst HX H4 x HF0 HFn HP hfin
  go_wp2_with fail
  go_loopw [8] (fun i wr => ∃ k : Nat, k ≤ xo.length ∧ i = .int .i64 k ∧ Hid (Bw w wr (some ⟨bp, fp, none⟩) cap ps)) (fun i _ => xo.length - (intOf i).toNat)
  case atStart => exact ⟨0, by omega, rfl, H5.out⟩
  case round =>
    rename_i wr
    clear H5
    obtain ⟨k, hk, rfl, H6⟩ := hrel
    have cb := H6.out.cell
    by_cases hlk : k < xo.length
    · have hkz : (k : Int) < (xo.length : Int) := by omega
      have e1 : ((k : Int) + 1) = ((k + 1 : Nat) : Int) := by omega
      have HA1 : Hid (∀ W, Bw w W (some ⟨bp, fp, none⟩) cap ps → Calls Tryd.prog 16 #[.agg #[.slice (some ⟨bp, fp, none⟩) ps.length cap], .int .i64 g, .int .i64 ((k : Int) + 1)] W fun e w' => e = .returned (.int .u32 ((aheadNL ((xo.drop (k + 1)).map wOf) z0 : Nat) : Int)) ∧ Below W.heap.size W w') := fun W hW => by rw [e1]; exact HA.out (k + 1) W hlk HIS.out hW
      have HA2 : Hid (∀ W, Bw w W (some ⟨bp, fp, none⟩) cap ps → Calls Tryd.prog 16 #[.agg #[.slice (some ⟨bp, fp, none⟩) ps.length cap], .int .i64 g, .int .i64 (k : Int)] W fun e w' => e = .returned (.int .u32 ((aheadN (wOf xo[k]) (aheadNL ((xo.drop (k + 1)).map wOf) z0) : Nat) : Int)) ∧ Below W.heap.size W w') := fun W hW => by
        have := HA.out k W hk HIS.out hW
        rw [drop_put hlk] at this; exact this
      have hyb : aheadNL ((xo.drop (k + 1)).map wOf) z0 < 4294967296 := HEl.out HIS.out (k + 1)
      obtain ⟨b1, f1, e2, hz1, hoc⟩ := HPo.out.is (by omega)
      have HOc : Hid (OAt w b1 (f1 + k * 5) xo[k]) := hoc k hlk
      have hoko : xo[k].Ok := HPo.out.ok _ (List.getElem_mem hlk)
      have hs := Lv.small_of xo[k] hoko
      have HW0 := fun W => writes_any xo[k] W hoko
      have HR0 := fun W => reads_sl xo[k] W hoko
      have hrd : ∀ r ∈ rdL xo[k], r < 32 := hs.1
      have hdef : ∀ y, aheadN (wOf xo[k]) y = (rdL xo[k]).foldl put (wipe (wOf xo[k]) y) := fun y => rfl
      rw [hdef] at HA2
      have hll : (rdL xo[k]).length ≤ 2 := by unfold rdL; split <;> (try split) <;> (try split) <;> simp
      generalize aheadNL ((xo.drop (k + 1)).map wOf) z0 = y at *
      clear HA hoc hdef e1 HEl
      obtain rfl : oa = some ⟨b1, f1, none⟩ := e2
      generalize hrs : rdL xo[k] = rs at *
      have HR : Hid (∀ W, Calls Tryd.prog 21 #[xo[k].val] W fun e w' => ∃ a c, e = .returned (.slice a rs.length c) ∧ Rl w' a rs ∧ Below W.heap.size W w') := HR0
      clear HR0
      cases hw : wrB xo[k] with
      | false =>
        have e0 : wipe (wOf xo[k]) y = y := by simp [wipe, wOf, hw]
        rw [e0] at HA2
        have HW : Hid (∀ W, Calls Tryd.prog 20 #[xo[k].val] W fun e w' => e = .returned (.tuple #[.int .u8 (wrD xo[k]), .bool false]) ∧ Below W.heap.size W w') := by rw [hw] at HW0; exact HW0
        generalize xo[k] = o at *
        clear hs hw e0 hoko hrs HW0
        go_wp2_with (first
          | (go_at_call 16; refine Calls.mono (HA1.out _ H6.out) ?_; rintro e w7 ⟨rfl, hb⟩; have H7 : Hid (Bw w w7 (some ⟨bp, fp, none⟩) cap ps) := H6.out.up hb; obtain ⟨o0, o1, o2, o3, o4⟩ := HOc.out.below H7.out.b hz1; clear hb H6 HA1 cb)
          | (go_at_call 20; refine Calls.mono (HW.out _) ?_; rintro e w8 ⟨rfl, hb⟩; have H8 : Hid (Bw w w8 (some ⟨bp, fp, none⟩) cap ps) := H7.out.up hb; clear o0 o1 o2 o3 o4; obtain ⟨o0, o1, o2, o3, o4⟩ := HOc.out.below H8.out.b hz1; clear hb H7 HW)
          | (go_at_call 21; refine Calls.mono (HR.out _) ?_; rintro e w9 ⟨ra, rc, rfl, hl, hb⟩; have H9 : Hid (Bw w w9 (some ⟨bp, fp, none⟩) cap ps ∧ Rl w9 ra rs) := ⟨H8.out.up hb, hl⟩; have c9 := H9.out.1.cell; clear hb hl HR H8 o0 o1 o2 o3 o4))
        go_loop [9, 13] (fun v i => ∃ j : Nat, j ≤ rs.length ∧ i = .int .i64 j ∧ v = .int .u32 (((rs.take j).foldl put y : Nat) : Int)) (fun _ i => rs.length - (intOf i).toNat)
        case atStart => exact ⟨0, by omega, rfl, rfl⟩
        case round =>
          obtain ⟨j, hj, rfl, rfl⟩ := hrel
          by_cases hlj : j < rs.length
          · obtain ⟨b2, rfl, hb2, hc2⟩ := H9.out.2.is (by omega)
            have cc := hc2 j hlj
            have hr : rs[j] < 32 := hrd _ (List.getElem_mem hlj)
            have hr1 : ((rs[j] : Nat) : Int) ≤ 32 := by omega
            have hr2 : (0 : Int) ≤ ((rs[j] : Nat) : Int) := by omega
            have hjz : (j : Int) < (rs.length : Int) := by omega
            have hb1 : (rs.take j).foldl put y < 4294967296 := take_lt hyb hrd
            have HE : Hid _ := put_mod hb1 hr
            have HT : Hid _ := take_put (y := y) hlj
            generalize rs[j] = r at *
            generalize (rs.take j).foldl put y = u at *
            clear hc2 H9 hb1 c9
            go_wp2
            go_roundw
            case rel => exact ⟨j + 1, by omega, by go_num, by rw [HT.out, HE.out]⟩
            case measure => simp [intOf]; omega
          · obtain rfl : j = rs.length := by omega
            rw [List.take_length]
            generalize rs.foldl put y = u at *
            go_wp2_with (first
              | (go_at_call 16; refine Calls.mono (HA2.out _ H9.out.1) ?_; rintro e wa ⟨rfl, hb⟩; have HZ : Hid (Bw w wa (some ⟨bp, fp, none⟩) cap ps) := H9.out.1.up hb; clear hb H9 HA2 c9))
            go_roundw
            case rel => exact ⟨k + 1, by omega, by go_num, HZ.out⟩
            case measure => simp [intOf]; omega
      | true =>
        have hd0 : wrD xo[k] = ((xo[k].d.toNat : Nat) : Int) := by
          obtain ⟨_, _, hd, _⟩ := hoko
          simp only [wrD, hw, if_true]; omega
        have hd1 : xo[k].d.toNat < 32 := hs.2 _ (by simp [wOf, hw])
        have e0 : wipe (wOf xo[k]) y = clr y xo[k].d.toNat := by simp [wipe, wOf, hw]
        rw [e0] at HA2
        have HW : Hid (∀ W, Calls Tryd.prog 20 #[xo[k].val] W fun e w' => e = .returned (.tuple #[.int .u8 ((xo[k].d.toNat : Nat) : Int), .bool true]) ∧ Below W.heap.size W w') := by rw [hw, hd0] at HW0; exact HW0
        have HCl : Hid _ := clr_mod hyb hd1
        have hd2 : ((xo[k].d.toNat : Nat) : Int) ≤ 32 := by omega
        have hd3 : (0 : Int) ≤ ((xo[k].d.toNat : Nat) : Int) := by omega
        generalize xo[k].d.toNat = d at *
        generalize xo[k] = o at *
        clear hs hw e0 hoko hrs HW0 hd0
        go_wp2_with (first
          | (go_at_call 16; refine Calls.mono (HA1.out _ H6.out) ?_; rintro e w7 ⟨rfl, hb⟩; have H7 : Hid (Bw w w7 (some ⟨bp, fp, none⟩) cap ps) := H6.out.up hb; obtain ⟨o0, o1, o2, o3, o4⟩ := HOc.out.below H7.out.b hz1; clear hb H6 HA1 cb)
          | (go_at_call 20; refine Calls.mono (HW.out _) ?_; rintro e w8 ⟨rfl, hb⟩; have H8 : Hid (Bw w w8 (some ⟨bp, fp, none⟩) cap ps) := H7.out.up hb; clear o0 o1 o2 o3 o4; obtain ⟨o0, o1, o2, o3, o4⟩ := HOc.out.below H8.out.b hz1; clear hb H7 HW)
          | (go_at_call 21; refine Calls.mono (HR.out _) ?_; rintro e w9 ⟨ra, rc, rfl, hl, hb⟩; have H9 : Hid (Bw w w9 (some ⟨bp, fp, none⟩) cap ps ∧ Rl w9 ra rs) := ⟨H8.out.up hb, hl⟩; have c9 := H9.out.1.cell; clear hb hl HR H8 o0 o1 o2 o3 o4))
        go_loop [9, 13] (fun v i => ∃ j : Nat, j ≤ rs.length ∧ i = .int .i64 j ∧ v = .int .u32 (((rs.take j).foldl put (clr y d) : Nat) : Int)) (fun _ i => rs.length - (intOf i).toNat)
        case atStart => exact ⟨0, by omega, rfl, by rw [HCl.out]; rfl⟩
        case round =>
          obtain ⟨j, hj, rfl, rfl⟩ := hrel
          by_cases hlj : j < rs.length
          · obtain ⟨b2, rfl, hb2, hc2⟩ := H9.out.2.is (by omega)
            have cc := hc2 j hlj
            have hr : rs[j] < 32 := hrd _ (List.getElem_mem hlj)
            have hr1 : ((rs[j] : Nat) : Int) ≤ 32 := by omega
            have hr2 : (0 : Int) ≤ ((rs[j] : Nat) : Int) := by omega
            have hjz : (j : Int) < (rs.length : Int) := by omega
            have hb1 : (rs.take j).foldl put (clr y d) < 4294967296 := take_lt (clr_lt d hyb) hrd
            have HE : Hid _ := put_mod hb1 hr
            have HT : Hid _ := take_put (y := (clr y d)) hlj
            generalize rs[j] = r at *
            generalize (rs.take j).foldl put (clr y d) = u at *
            clear hc2 H9 hb1 c9
            go_wp2
            go_roundw
            case rel => exact ⟨j + 1, by omega, by go_num, by rw [HT.out, HE.out]⟩
            case measure => simp [intOf]; omega
          · obtain rfl : j = rs.length := by omega
            rw [List.take_length]
            generalize rs.foldl put (clr y d) = u at *
            go_wp2_with (first
              | (go_at_call 16; refine Calls.mono (HA2.out _ H9.out.1) ?_; rintro e wa ⟨rfl, hb⟩; have HZ : Hid (Bw w wa (some ⟨bp, fp, none⟩) cap ps) := H9.out.1.up hb; clear hb H9 HA2 c9))
            go_roundw
            case rel => exact ⟨k + 1, by omega, by go_num, HZ.out⟩
            case measure => simp [intOf]; omega
    · obtain rfl : k = xo.length := by omega
      clear HA HEl HPo
      go_wp2_with (first
        | (go_at_call 9; refine Calls.mono (HK.out _ H6.out) ?_; rintro e w7 ⟨rfl, hb⟩; have H7 : Hid _ := H6.out.up hb; clear hb))
      go_ret
      exact ⟨rfl, H7.out.b⟩
theorem law_ends (ao : Option Addr) (cap : Nat) (ps : List Bk) (block : Int) (w : World) (h : PAt w ao ps) (he : Env w) :
    Calls Tryd.prog 5 #[.agg #[.slice ao ps.length cap], .int .i64 block] w fun e w' => e = .returned (.bool true) ∧ Below w.heap.size w w' := by
  by_cases hn : ckP ps ≠ 0 ∨ 300 < opsN ps ∨ block < 0 ∨ (ps.length : Int) ≤ block
  · exact ends_wake ao cap ps block w h he hn
  · obtain ⟨g, rfl⟩ : ∃ g : Nat, block = g := ⟨block.toNat, by omega⟩
    exact ends_main ao cap ps g w h he (by omega) (by omega) (by omega)
end Go.Proofs.YtlinekpaffgcjaaDoor.Li

namespace Go.Proofs.YtlinekpaffgcjaaDoor.Li
open Go.ChangeShapes Go.WideShapes Go.ChangeAt Go.RowKit
open _root_.Go.Proofs.YtlinekpaffgcjaaDoor.So _root_.Go.Proofs.YtlinekpaffgcjaaDoor.Op _root_.Go.Proofs.YtlinekpaffgcjaaDoor.Fl _root_.Go.Proofs.YtlinekpaffgcjaaDoor.Lv
set_option maxRecDepth 20000

theorem ba_all : (kindL.all fun k => !k.B || k.A) = true := by decide
theorem b_a {d : Int} {k : K} (h : kOf d = some k) (hA : k.A = false) : k.B = false := by
  obtain ⟨n, hn, -, rfl⟩ := kOf_some h
  have := List.all_eq_true.1 ba_all _ (List.getElem_mem (l := kindL) hn)
  simp [hA] at this
  exact this
theorem sl_rl {w : World} {v : Value} {n : Nat} {f : Nat → Int} {xs : List Nat} (h : SlAt w v n f) (hn : xs.length = n) (hf : ∀ (j : Nat) (hj : j < xs.length), ((xs[j] : Nat) : Int) = f j) : ∃ a c, v = .slice a xs.length c ∧ Rl w a xs := by
  subst hn
  rcases h with ⟨h0, p, c, rfl⟩ | ⟨b, c, rfl, hb, hc⟩
  · exact ⟨p, c, by rw [h0], ⟨fun h => by omega⟩⟩
  · exact ⟨_, c, rfl, ⟨fun _ => ⟨b, rfl, hb, fun i hi => by rw [hf i hi]; exact hc i hi⟩⟩⟩
theorem refReads_sl (o : O) (w : World) (ho : o.Ok) : Calls Tryd.prog 69 #[o.val] w fun e w' => ∃ a c, e = .returned (.slice a (rdL o).length c) ∧ Rl w' a (rdL o) ∧ Below w.heap.size w w' := by
  cases hO : okO o with
  | false =>
    refine (refReads_no o w ho hO).mono ?_
    rintro e w' ⟨rfl, hb⟩
    rw [rd_no hO]
    exact ⟨none, 0, rfl, ⟨fun h => by simp at h⟩, hb⟩
  | true =>
    cases hk : kOf o.op with
    | none => rw [okO_none hk] at hO; cases hO
    | some k =>
      have hf : okF k o = true := by rw [← okO_some hk]; exact hO
      refine (refReads_yes o k w ho hk hf (b_a hk)).mono ?_
      rintro e w' ⟨v, rfl, hS, hb⟩
      have h2 := rc_two k o
      have hl : (rdL o).length = rcN k o := by rw [rd_yes hk hf, List.length_take]; simp; omega
      obtain ⟨_, _, _, _, ha, _, hb', _, _, _⟩ := ho
      obtain ⟨a, c, rfl, hR⟩ := sl_rl (xs := rdL o) hS hl (fun j hj => by
        rw [hl] at hj
        have e : (rdL o)[j]? = [o.a.toNat, o.b.toNat][j]? := by rw [rd_yes hk hf, List.getElem?_take, if_pos hj]
        rcases (show j = 0 ∨ j = 1 by omega) with rfl | rfl
        · have : (rdL o)[0] = o.a.toNat := (List.getElem?_eq_some_iff.1 e).2
          rw [this]; simp only [rf, if_true]; omega
        · have : (rdL o)[1] = o.b.toNat := (List.getElem?_eq_some_iff.1 e).2
          rw [this]; simp [rf]; omega)
      exact ⟨a, c, rfl, hR, hb⟩
set_option maxHeartbeats 1000000 in
theorem refAhead_any (o : O) (x : Nat) (w : World) (ho : o.Ok) (hx : x < 4294967296) : Calls Tryd.prog 51 #[o.val, .int .u32 x] w fun e w' => e = .returned (.int .u32 (aheadN (wOf o) x : Nat)) ∧ Below w.heap.size w w' := by
  have hs := Lv.small_of o ho
  have HR : Hid _ := fun w => refReads_sl o w ho
  have HW0 := fun w => refWrites_any o w ho
  have hrd : ∀ r ∈ rdL o, r < 32 := hs.1
  have hyl : wipe (wOf o) x < 4294967296 := wipe_lt hx
  have hdef : aheadN (wOf o) x = (rdL o).foldl put (wipe (wOf o) x) := rfl
  rw [hdef]
  have hll : (rdL o).length ≤ 2 := by unfold rdL; split <;> (try split) <;> (try split) <;> simp
  generalize hxs : rdL o = xs at *
  cases hw : wrB o with
  | false =>
    have e0 : wipe (wOf o) x = x := by simp [wipe, wOf, hw]
    rw [e0]
    rw [hw] at HW0
    have HW : Hid _ := HW0
    clear HW0 hs hdef hw e0 hyl ho hxs
    go_enter Tryd.func51, Tryd.ntmps51
    go_wp2_with (first
      | (go_at_call 68; refine Calls.mono (HW.out _) ?_; rintro e w1 ⟨rfl, hb⟩; obtain ⟨a1, hb0, hz⟩ := one_new w _ _ hb; obtain ⟨o0, o1, o2, o3, o4⟩ := a1.o5; have HB : Hid (Below w.heap.size w w1) := hb0; clear hb hb0 a1 HW)
      | (go_at_call 69; refine Calls.mono (HR.out _) ?_; rintro e w2 ⟨a, c, rfl, hl, hb⟩; have HL : Hid (Rl w2 a xs) := hl; have HB2 : Hid (Below w.heap.size w w2) := HB.out.trans (hb.mono (Nat.le_of_lt hz)); clear hb hl HR o0 o1 o2 o3 o4))
    go_loop [1, 8] (fun b i => ∃ k : Nat, k ≤ xs.length ∧ i = .int .i64 k ∧ b = .int .u32 (((xs.take k).foldl put x : Nat) : Int)) (fun _ i => xs.length - (intOf i).toNat)
    case atStart => exact ⟨0, by omega, rfl, rfl⟩
    case round =>
      obtain ⟨k, hk, rfl, rfl⟩ := hrel
      by_cases hlt : k < xs.length
      · obtain ⟨b, rfl, hb, hc⟩ := HL.out.is (by omega)
        have cc := hc k hlt
        have hr : xs[k] < 32 := hrd _ (List.getElem_mem hlt)
        have hr1 : ((xs[k] : Nat) : Int) ≤ 32 := by omega
        have hr2 : (0 : Int) ≤ ((xs[k] : Nat) : Int) := by omega
        have hkz : (k : Int) < (xs.length : Int) := by omega
        have hb1 : (xs.take k).foldl put x < 4294967296 := take_lt hx hrd
        have HE : Hid _ := put_mod hb1 hr
        have HT : Hid _ := take_put (y := x) hlt
        generalize xs[k] = r at *
        generalize (xs.take k).foldl put x = y at *
        clear hc HL hb1
        go_wp2
        go_roundw
        case rel => exact ⟨k + 1, by omega, by go_num, by rw [HT.out, HE.out]⟩
        case measure => simp [intOf]; omega
      · obtain rfl : k = xs.length := by omega
        rw [List.take_length]
        go_wp2
        go_ret
        exact ⟨rfl, HB2.out⟩
  | true =>
    have hd0 : wrD o = ((o.d.toNat : Nat) : Int) := by
      obtain ⟨_, _, hd, _⟩ := ho
      simp only [wrD, hw, if_true]; omega
    have hd1 : o.d.toNat < 32 := hs.2 _ (by simp [wOf, hw])
    have e0 : wipe (wOf o) x = clr x o.d.toNat := by simp [wipe, wOf, hw]
    rw [e0] at hyl ⊢
    rw [hw, hd0] at HW0
    have HW : Hid _ := HW0
    have HC : Hid _ := clr_mod hx hd1
    have hd2 : ((o.d.toNat : Nat) : Int) ≤ 32 := by omega
    have hd3 : (0 : Int) ≤ ((o.d.toNat : Nat) : Int) := by omega
    generalize o.d.toNat = d at *
    clear HW0 hs hdef hw e0 ho hd0 hxs
    go_enter Tryd.func51, Tryd.ntmps51
    go_wp2_with (first
      | (go_at_call 68; refine Calls.mono (HW.out _) ?_; rintro e w1 ⟨rfl, hb⟩; obtain ⟨a1, hb0, hz⟩ := one_new w _ _ hb; obtain ⟨o0, o1, o2, o3, o4⟩ := a1.o5; have HB : Hid (Below w.heap.size w w1) := hb0; clear hb hb0 a1 HW)
      | (go_at_call 69; refine Calls.mono (HR.out _) ?_; rintro e w2 ⟨a, c, rfl, hl, hb⟩; have HL : Hid (Rl w2 a xs) := hl; have HB2 : Hid (Below w.heap.size w w2) := HB.out.trans (hb.mono (Nat.le_of_lt hz)); clear hb hl HR o0 o1 o2 o3 o4))
    go_loop [1, 8] (fun b i => ∃ k : Nat, k ≤ xs.length ∧ i = .int .i64 k ∧ b = .int .u32 (((xs.take k).foldl put (clr x d) : Nat) : Int)) (fun _ i => xs.length - (intOf i).toNat)
    case atStart => exact ⟨0, by omega, rfl, by rw [HC.out]; rfl⟩
    case round =>
      obtain ⟨k, hk, rfl, rfl⟩ := hrel
      by_cases hlt : k < xs.length
      · obtain ⟨b, rfl, hb, hc⟩ := HL.out.is (by omega)
        have cc := hc k hlt
        have hr : xs[k] < 32 := hrd _ (List.getElem_mem hlt)
        have hr1 : ((xs[k] : Nat) : Int) ≤ 32 := by omega
        have hr2 : (0 : Int) ≤ ((xs[k] : Nat) : Int) := by omega
        have hkz : (k : Int) < (xs.length : Int) := by omega
        have hb1 : (xs.take k).foldl put (clr x d) < 4294967296 := take_lt hyl hrd
        have HE : Hid _ := put_mod hb1 hr
        have HT : Hid _ := take_put (y := clr x d) hlt
        generalize xs[k] = r at *
        generalize (xs.take k).foldl put (clr x d) = y at *
        clear hc HL hb1
        go_wp2
        go_roundw
        case rel => exact ⟨k + 1, by omega, by go_num, by rw [HT.out, HE.out]⟩
        case measure => simp [intOf]; omega
      · obtain rfl : k = xs.length := by omega
        rw [List.take_length]
        go_wp2
        go_ret
        exact ⟨rfl, HB2.out⟩

set_option maxHeartbeats 1000000 in
theorem refList_any (ao : Option Addr) (cap : Nat) (xs : List O) (fr x : Nat) (w : World) (h : OpsAt w ao xs) (hx : x < 4294967296) (hfr : fr ≤ xs.length) :
    Calls Tryd.prog 29 #[.slice ao xs.length cap, .int .i64 fr, .int .u32 x] w fun e w' => e = .returned (.int .u32 (aheadNL ((xs.drop fr).map wOf) x : Nat)) ∧ Below w.heap.size w w' := by
  have hlen := h.len
  have HO : Hid (OpsAt w ao xs) := h
  clear h
  go_enter Tryd.func29, Tryd.ntmps29
  go_wp2
  go_loopw [2, 7] (fun b i wr => ∃ k : Nat, fr ≤ k ∧ k ≤ xs.length ∧ i = .int .i64 ((k : Int) - 1) ∧ b = .int .u32 ((aheadNL ((xs.drop k).map wOf) x : Nat) : Int) ∧ Below w.heap.size w wr) (fun _ i _ => (intOf i + 1).toNat)
  case atStart => exact ⟨xs.length, hfr, Nat.le_refl _, by go_num, by rw [List.drop_length]; rfl, Below.refl _ _⟩
  case round =>
    rename_i wr
    obtain ⟨k, hkf, hk, rfl, rfl, hbw⟩ := hrel
    by_cases hz0 : k = fr
    · subst hz0
      have i3 : ¬ ((k : Int) ≤ (k : Int) - 1) := by omega
      go_wp2
      go_ret
      exact ⟨rfl, hbw⟩
    · obtain ⟨k, rfl⟩ : ∃ j, k = j + 1 := ⟨k - 1, by omega⟩
      obtain ⟨b, f, rfl, hz, hc⟩ := HO.out.is (by omega)
      obtain ⟨c0, c1, c2, c3, c4⟩ := (hc k (by omega)).below hbw hz
      have hb1 : aheadNL ((xs.drop (k + 1)).map wOf) x < 4294967296 := drop_lt hx HO.out.ok
      have HT : Hid _ := drop_put (x := x) (show k < xs.length by omega)
      have HA : Hid _ := fun w' => refAhead_any xs[k] _ w' (HO.out.ok _ (List.getElem_mem _)) hb1
      have e1 : ((k + 1 : Nat) : Int) - 1 = (k : Int) := by omega
      rw [e1]
      have i1 : (0 : Int) ≤ (k : Int) := by omega
      have i3 : (fr : Int) ≤ (k : Int) := by omega
      have i2 : (k : Int) < (xs.length : Int) := by omega
      generalize xs[k] = o at *
      generalize aheadNL ((xs.drop (k + 1)).map wOf) x = y at *
      clear hc HO e1 hb1
      go_wp2_with (first | (go_at_call 51; refine Calls.mono (HA.out _) ?_; rintro e w3 ⟨rfl, hb3⟩))
      go_roundw
      case rel => exact ⟨k, by omega, by omega, by go_num, by rw [HT.out], hbw.trans (hb3.mono hbw.size)⟩
      case measure => simp [intOf]
end Go.Proofs.YtlinekpaffgcjaaDoor.Li

namespace Go.Proofs.YtlinekpaffgcjaaDoor.Li
open Go.ChangeShapes Go.WideShapes Go.ChangeAt Go.RowKit
open _root_.Go.Proofs.YtlinekpaffgcjaaDoor.So _root_.Go.Proofs.YtlinekpaffgcjaaDoor.Op _root_.Go.Proofs.YtlinekpaffgcjaaDoor.Fl _root_.Go.Proofs.YtlinekpaffgcjaaDoor.Lv
set_option maxRecDepth 20000

theorem or_mod {a y : Nat} (ha : a < 32) (hy : y < 4294967296) : bits .or .u32 ((2 : Int) ^ a % 4294967296) (y : Int) = ((2 ^ a ||| y : Nat) : Int) := by rw [pow_mod ha]; exact u32_or_nat (2 ^ a) y (pow32 ha) hy
theorem refHalt_any (x : Bk) (p : Pl) (v : Value) (w : World) (ha0 : 0 ≤ x.a) (ha : x.a < 32) (h0 : x.fin = 2) :
    Calls Tryd.prog 30 #[x.val p, v] w fun e w' => e = .returned (.int .u32 ((2 ^ x.a.toNat : Nat) : Int)) ∧ Below w.heap.size w w' := by
  obtain ⟨xo, xf, xa, xb, xt, xe⟩ := x
  simp only at h0 ha0 ha
  obtain ⟨a, rfl⟩ : ∃ a : Nat, xa = a := ⟨xa.toNat, by omega⟩
  subst h0
  have h2 : (a : Int) ≤ 32 := by omega
  have hp := pow_mod (r := a) (by omega)
  have HP : Hid _ := hp
  clear hp
  go_enter Tryd.func30, Tryd.ntmps30
  go_wp2
  go_ret
  exact ⟨ret_int HP.out, by go_grown⟩
theorem refJump_any (x : Bk) (p : Pl) (b c : Nat) (xs : List Nat) (w : World) (hU : Ul w (some ⟨b, 0, none⟩) xs) (ht0 : 0 ≤ x.thn) (ht : x.thn < xs.length) (h0 : x.fin = 0) :
    Calls Tryd.prog 30 #[x.val p, .slice (some ⟨b, 0, none⟩) xs.length c] w fun e w' => e = .returned (.int .u32 ((inN xs x.thn.toNat : Nat) : Int)) ∧ Below w.heap.size w w' := by
  obtain ⟨xo, xf, xa, xb, xt, xe⟩ := x
  simp only at h0 ht0 ht
  obtain ⟨t, rfl⟩ : ∃ t : Nat, xt = t := ⟨xt.toNat, by omega⟩
  subst h0
  have cc := hU.at (t := t) (by omega)
  obtain ⟨b', e, hb⟩ := hU.addr (by omega)
  cases e
  clear hU
  go_enter Tryd.func30, Tryd.ntmps30
  go_wp2
  go_ret
  exact ⟨rfl, by go_grown⟩
set_option maxHeartbeats 1000000 in
theorem refBranch_any (x : Bk) (p : Pl) (b c : Nat) (xs : List Nat) (w : World) (hU : Ul w (some ⟨b, 0, none⟩) xs) (hF : Fit xs) (ha0 : 0 ≤ x.a) (ha : x.a < 32) (ht0 : 0 ≤ x.thn) (ht : x.thn < xs.length) (he0 : 0 ≤ x.els) (he : x.els < xs.length) (h0 : x.fin = 1) :
    Calls Tryd.prog 30 #[x.val p, .slice (some ⟨b, 0, none⟩) xs.length c] w fun e w' => e = .returned (.int .u32 ((2 ^ x.a.toNat ||| inN xs x.thn.toNat ||| inN xs x.els.toNat : Nat) : Int)) ∧ Below w.heap.size w w' := by
  obtain ⟨xo, xf, xa, xb, xt, xe⟩ := x
  simp only at h0 ht0 ht he0 he ha0 ha
  obtain ⟨t, rfl⟩ : ∃ t : Nat, xt = t := ⟨xt.toNat, by omega⟩
  obtain ⟨u, rfl⟩ : ∃ u : Nat, xe = u := ⟨xe.toNat, by omega⟩
  obtain ⟨a, rfl⟩ : ∃ a : Nat, xa = a := ⟨xa.toNat, by omega⟩
  subst h0
  have c1 := hU.at (t := t) (by omega)
  have c2 := hU.at (t := u) (by omega)
  obtain ⟨b', e, hb⟩ := hU.addr (by omega)
  cases e
  simp only [Int.toNat_natCast]
  have h2 : (a : Int) ≤ 32 := by omega
  have f1 : 2 ^ a < 4294967296 := pow32 (by omega)
  have HE1 : Hid (bits .or .u32 ((2 : Int) ^ a % 4294967296) ((inN xs t : Nat) : Int) = ((2 ^ a ||| inN xs t : Nat) : Int)) := or_mod (by omega) (hF t)
  have HE2 : Hid (bits .or .u32 ((2 ^ a ||| inN xs t : Nat) : Int) ((inN xs u : Nat) : Int) = ((2 ^ a ||| inN xs t ||| inN xs u : Nat) : Int)) := or_u32 (Nat.or_lt_two_pow (n := 32) f1 (hF t)) (hF u)
  generalize inN xs t = y1 at *
  generalize inN xs u = y2 at *
  clear hU hF f1
  go_enter Tryd.func30, Tryd.ntmps30
  go_wp2_with fail
  go_quiet (fail)
  go_wp2_with fail
  go_ret
  refine ⟨ret_int ?_, ?_⟩
  · rw [HE1.out, HE2.out]
  · exact drewN_below (by go_grown) _
def lpN (l : List W) (x k : Nat) : Nat := if k = 0 then x else loopN l x
theorem lpN_step {l : List W} {x : Nat} (hx : x < 4294967296) (hl : ∀ o ∈ l, Lv.Small o) (k : Nat) : loopN l (lpN l x k) = lpN l x (k + 1) := by
  unfold lpN
  rw [if_neg (show ¬ k + 1 = 0 by omega)]
  by_cases h : k = 0
  · rw [if_pos h]
  · rw [if_neg h, loopN_again hx hl]
theorem lpN_lt {l : List W} {x : Nat} (hx : x < 4294967296) (hl : ∀ o ∈ l, Lv.Small o) (k : Nat) : lpN l x k < 4294967296 := by
  unfold lpN
  split
  · exact hx
  · exact loopN_lt hx hl
set_option maxHeartbeats 1000000 in
theorem refLoop_any (x : Bk) (p : Pl) (b c : Nat) (xs : List Nat) (w : World) (hB : OpsAt w p.ba x.body) (hU : Ul w (some ⟨b, 0, none⟩) xs) (hF : Fit xs) (ha0 : 0 ≤ x.a) (ha : x.a < 32) (ht0 : 0 ≤ x.thn) (ht : x.thn < xs.length) (h0 : x.fin = 3) :
    Calls Tryd.prog 30 #[x.val p, .slice (some ⟨b, 0, none⟩) xs.length c] w fun e w' => e = .returned (.int .u32 ((2 ^ x.a.toNat ||| loopN (x.body.map wOf) (inN xs x.thn.toNat) : Nat) : Int)) ∧ Below w.heap.size w w' := by
  obtain ⟨xo, xf, xa, xb, xt, xe⟩ := x
  simp only at h0 ht0 ht ha0 ha hB
  obtain ⟨t, rfl⟩ : ∃ t : Nat, xt = t := ⟨xt.toNat, by omega⟩
  obtain ⟨a, rfl⟩ : ∃ a : Nat, xa = a := ⟨xa.toNat, by omega⟩
  subst h0
  have c1 := hU.at (t := t) (by omega)
  obtain ⟨b', e, hb⟩ := hU.addr (by omega)
  cases e
  simp only [Int.toNat_natCast]
  have h2 : (a : Int) ≤ 32 := by omega
  have h3 : (0 : Int) ≤ (a : Int) := by omega
  have hsm := map_small hB.ok
  have hx0 := hF t
  have HE1 : Hid (bits .or .u32 ((2 : Int) ^ a % 4294967296) ((loopN (xb.map wOf) (inN xs t) : Nat) : Int) = ((2 ^ a ||| loopN (xb.map wOf) (inN xs t) : Nat) : Int)) := or_mod (by omega) (loopN_lt hx0 hsm)
  have HL : Hid (∀ k W, Below w.heap.size w W → Calls Tryd.prog 29 #[.slice p.ba xb.length p.bc, .int .i64 0, .int .u32 ((lpN (xb.map wOf) (inN xs t) k : Nat) : Int)] W fun e w' => e = .returned (.int .u32 ((aheadNL (xb.map wOf) (lpN (xb.map wOf) (inN xs t) k) : Nat) : Int)) ∧ Below W.heap.size W w') := fun k W hW => refList_any p.ba p.bc xb 0 _ W (hB.below hW) (lpN_lt hx0 hsm k) (Nat.zero_le _)
  have HS : Hid (∀ k, bits .or .u32 ((lpN (xb.map wOf) (inN xs t) k : Nat) : Int) ((aheadNL (xb.map wOf) (lpN (xb.map wOf) (inN xs t) k) : Nat) : Int) = ((lpN (xb.map wOf) (inN xs t) (k + 1) : Nat) : Int)) := fun k => by
    rw [← lpN_step hx0 hsm]
    exact or_u32 (lpN_lt hx0 hsm k) (aheadNL_lt (lpN_lt hx0 hsm k) hsm)
  have HA : Hid (Op.At (w.alloc (.cells #[.slice p.oa xo.length p.oc, .int .i8 3, .int .u8 a, .slice p.ba xb.length p.bc, .int .i64 t, .int .i64 xe] 47)) w.heap.size #[.slice p.oa xo.length p.oc, .int .i8 3, .int .u8 a, .slice p.ba xb.length p.bc, .int .i64 t, .int .i64 xe] ∧ Below w.heap.size w (w.alloc (.cells #[.slice p.oa xo.length p.oc, .int .i8 3, .int .u8 a, .slice p.ba xb.length p.bc, .int .i64 t, .int .i64 xe] 47))) := ⟨Op.At.new _ _ _, below_al _⟩
  have HLast : Hid (lpN (xb.map wOf) (inN xs t) 33 = loopN (xb.map wOf) (inN xs t)) := rfl
  have HFirst : Hid (lpN (xb.map wOf) (inN xs t) 0 = inN xs t) := rfl
  clear hU hB hF hsm hx0 ha0 ha
  go_enter Tryd.func30, Tryd.ntmps30
  go_wp2
  generalize w.alloc (.cells #[.slice p.oa xo.length p.oc, .int .i8 3, .int .u8 a, .slice p.ba xb.length p.bc, .int .i64 t, .int .i64 xe] 47) = V at *
  go_loopw [5, 6] (fun v i wr => ∃ k : Nat, k ≤ 33 ∧ i = .int .i64 k ∧ v = .int .u32 ((lpN (xb.map wOf) (inN xs t) k : Nat) : Int) ∧ Hid (Op.At wr w.heap.size #[.slice p.oa xo.length p.oc, .int .i8 3, .int .u8 a, .slice p.ba xb.length p.bc, .int .i64 t, .int .i64 xe] ∧ Below w.heap.size w wr)) (fun _ i _ => 33 - (intOf i).toNat)
  case atStart => exact ⟨0, by omega, rfl, by rw [HFirst.out], HA.out⟩
  case round =>
    rename_i wr
    clear HA
    obtain ⟨k, hk, rfl, rfl, H1⟩ := hrel
    have k2 := H1.out.1.c 2 _ rfl
    have k3 := H1.out.1.c 3 _ rfl
    by_cases hlt : k ≤ 32
    · have hlz : (k : Int) ≤ 32 := by omega
      have HL1 : Hid _ := HL.out k wr H1.out.2
      have HS1 : Hid _ := HS.out k
      generalize aheadNL (xb.map wOf) (lpN (xb.map wOf) (inN xs t) k) = y1 at *
      generalize lpN (xb.map wOf) (inN xs t) k = y0 at *
      clear HL HS
      go_wp2_with (first
        | (go_at_call 29; refine Calls.mono HL1.out ?_; rintro e w3 ⟨rfl, hb3⟩))
      go_roundw
      case rel => exact ⟨k + 1, by omega, by go_num, by rw [HS1.out], H1.out.1.below hb3 H1.out.1.lt, H1.out.2.trans (hb3.mono H1.out.2.size)⟩
      case measure => simp [intOf]; omega
    · obtain rfl : k = 33 := by omega
      rw [HLast.out]
      clear HL HS HLast HFirst
      go_wp2
      go_ret
      exact ⟨ret_int HE1.out, H1.out.2⟩
theorem refEnd8_any (x : Bk) (p : Pl) (a : Option Addr) (c : Nat) (xs : List Nat) (w : World) (hx : BIn w x p) (hU : Ul w a xs) (hF : Fit xs) (h0 : 0 < xs.length) (he : endB x xs.length = true) :
    Calls Tryd.prog 30 #[x.val p, .slice a xs.length c] w fun e w' => e = .returned (.int .u32 ((endN (bOf x) xs : Nat) : Int)) ∧ Below w.heap.size w w' := by
  obtain ⟨b, rfl, hb⟩ := hU.addr h0
  have ha0 := hx.ok.a0
  rcases end_fin he with h | h | h | h
  · have ht := end_thn he (by omega)
    have e : endN (bOf x) xs = inN xs x.thn.toNat := by simp [endN, bOf, eOf, h]
    rw [e]
    exact refJump_any x p b c xs w hU ht.1 ht.2 h
  · have ht := end_thn he (by omega)
    have hl := end_els he h
    have e : endN (bOf x) xs = 2 ^ x.a.toNat ||| inN xs x.thn.toNat ||| inN xs x.els.toNat := by simp [endN, bOf, eOf, h]
    rw [e]
    exact refBranch_any x p b c xs w hU hF ha0 (end_reg he (by omega)) ht.1 ht.2 hl.1 hl.2 h
  · have e : endN (bOf x) xs = 2 ^ x.a.toNat := by simp [endN, bOf, eOf, h]
    rw [e]
    exact refHalt_any x p _ w ha0 (end_reg he (by omega)) h
  · have ht := end_thn he (by omega)
    have e : endN (bOf x) xs = 2 ^ x.a.toNat ||| loopN (x.body.map wOf) (inN xs x.thn.toNat) := by simp [endN, bOf, eOf, h]
    rw [e]
    exact refLoop_any x p b c xs w hx.b hU hF ha0 (end_reg he (by omega)) ht.1 ht.2 h
end Go.Proofs.YtlinekpaffgcjaaDoor.Li

namespace Go.Proofs.YtlinekpaffgcjaaDoor.Li
open Go.ChangeShapes Go.WideShapes Go.ChangeAt Go.RowKit
open _root_.Go.Proofs.YtlinekpaffgcjaaDoor.So _root_.Go.Proofs.YtlinekpaffgcjaaDoor.Op _root_.Go.Proofs.YtlinekpaffgcjaaDoor.Fl _root_.Go.Proofs.YtlinekpaffgcjaaDoor.Lv
set_option maxRecDepth 20000

theorem refIn_no (ao : Option Addr) (cap : Nat) (ps : List Bk) (w : World) (h : PAt w ao ps) (hc : ckP ps ≠ 0) :
    Calls Tryd.prog 13 #[.agg #[.slice ao ps.length cap]] w fun e w' => e = .returned (.slice none 0 0) ∧ Below w.heap.size w w' := by
  have HC : Hid (Calls Tryd.prog 28 #[.agg #[.slice ao ps.length cap]] (w.alloc (.cells #[.slice ao ps.length cap] 24)) fun e w' => e = .returned (.int .i64 (ckP ps)) ∧ Below (w.alloc (.cells #[.slice ao ps.length cap] 24)).heap.size (w.alloc (.cells #[.slice ao ps.length cap] 24)) w') := refCheckP_any ao cap ps _ (h.below (below_al _))
  generalize ckP ps = z at *
  clear h
  go_enter Tryd.func13, Tryd.ntmps13
  go_wp2_with (first | (go_at_call 28; refine Calls.mono HC.out ?_; rintro e w1 ⟨rfl, hb⟩; obtain ⟨a1, hb0, hz⟩ := one_new w _ _ hb; have HB1 : Hid _ := hb0; clear hb hb0 a1 HC))
  go_ret
  exact ⟨rfl, HB1.out⟩
/-- The sets under way. -/
structure D2 (w wr : World) (ao : Option Addr) (cap : Nat) (ps : List Bk) (bI : Nat) (xs : List Nat) : Prop where
  q : Bw w wr ao cap ps
  hI : w.heap.size < bI
  u : Op.At wr bI (uc xs)
  so : So (PB ps) xs
theorem D2.xl {w wr : World} {ao : Option Addr} {cap : Nat} {ps : List Bk} {bI : Nat} {xs : List Nat} (h : D2 w wr ao cap ps bI xs) : xs.length = ps.length := by rw [h.so.len]; simp
theorem D2.up {w wr w' : World} {ao : Option Addr} {cap : Nat} {ps : List Bk} {bI : Nat} {xs : List Nat} (h : D2 w wr ao cap ps bI xs) (hb : Below wr.heap.size wr w') : D2 w w' ao cap ps bI xs := ⟨h.q.up hb, h.hI, h.u.below hb h.u.lt, h.so⟩
theorem D2.set {w wr : World} {ao : Option Addr} {cap : Nat} {ps : List Bk} {bI g : Nat} {xs : List Nat} (h : D2 w wr ao cap ps bI xs) (hs : ∀ (i : Nat) k, (PB ps)[i]? = some k → SmallB k) (hg : g < ps.length) : D2 w (wr.setCell ⟨bI, g, none⟩ (.int .u32 ((inN xs g ||| intoN (bOf ps[g]) xs : Nat) : Int))) ao cap ps bI (xs.set g (inN xs g ||| intoN (bOf ps[g]) xs)) := by
  have hx := h.xl
  have hI := h.hI
  refine ⟨⟨at_fr h.q.a ((Fr.refl (One bI) wr).setCell (Or.inr rfl) _ _) (fun e => ?_), ?_⟩, hI, ?_, h.so.put (pb_at hg) (hs g _ (pb_at hg))⟩
  · have e : w.heap.size = bI := e
    omega
  · exact ((Fr.of (X := Non) h.q.b).setCell (Or.inl (by omega)) _ _).non
  · rw [← uc_set]
    exact h.u.set (by rw [uc_size]; omega) _
theorem D2.start {w w1 : World} {ao : Option Addr} {cap : Nat} {ps : List Bk} (h : Bw w w1 ao cap ps) (t : TypeId) : D2 w (w1.alloc (.cells (madeCells #[.int .u32 0] ps.length) t)) ao cap ps w1.heap.size (List.replicate ps.length 0) := by
  refine ⟨h.up (below_al _), h.a.lt, ?_, ?_⟩
  · rw [uc_made]; exact Op.At.new _ _ _
  · have := So.init (PB ps)
    simpa using this
theorem left_step {ps : List Bk} {xs : List Nat} {g : Nat} (hs : ∀ (i : Nat) k, (PB ps)[i]? = some k → SmallB k) (hf : Fit xs) (hg : g < ps.length) (hx : xs.length = ps.length) : left (xs.set g (inN xs g ||| intoN (bOf ps[g]) xs)) ≤ left xs ∧ (inN xs g ||| intoN (bOf ps[g]) xs ≠ inN xs g → left (xs.set g (inN xs g ||| intoN (bOf ps[g]) xs)) < left xs) := by
  have key : inN xs g ||| intoN (bOf ps[g]) xs ≠ inN xs g → left (xs.set g (inN xs g ||| intoN (bOf ps[g]) xs)) < left xs := fun hne => by
    refine left_set (by omega) ?_ (Nat.or_lt_two_pow (n := 32) (hf g) (intoN_lt (hs g _ (pb_at hg)) hf))
    have := grow_lt hne
    rw [← inN_eq (by omega : g < xs.length)]
    exact this
  refine ⟨?_, key⟩
  by_cases e : inN xs g ||| intoN (bOf ps[g]) xs = inN xs g
  · rw [e, inN_eq (by omega), List.set_getElem_self]; exact Nat.le_refl _
  · exact Nat.le_of_lt (key e)
/-- A round under way: what has grown, and how far. -/
structure D3 (ps : List Bk) (xs0 xs : List Nat) (grown : Bool) (k : Nat) : Prop where
  r : Rnd (PB ps) xs grown k
  le : left xs ≤ left xs0
  lt : grown = true → left xs < left xs0
theorem D3.step {ps : List Bk} {xs0 xs : List Nat} {grown : Bool} {g : Nat} (h : D3 ps xs0 xs grown (g + 1)) (hs : ∀ (i : Nat) k, (PB ps)[i]? = some k → SmallB k) (hf : Fit xs) (hg : g < ps.length) (hx : xs.length = ps.length) :
    D3 ps xs0 (xs.set g (inN xs g ||| intoN (bOf ps[g]) xs)) (grown || (inN xs g ||| intoN (bOf ps[g]) xs) != inN xs g) g := by
  obtain ⟨h1, h2⟩ := left_step hs hf hg hx
  refine ⟨h.r.step (pb_at hg) (by omega), Nat.le_trans h1 h.le, fun hn => ?_⟩
  rw [Bool.or_eq_true] at hn
  rcases hn with hn | hn
  · exact Nat.lt_of_le_of_lt h1 (h.lt hn)
  · exact Nat.lt_of_lt_of_le (h2 (by simpa using hn)) h.le

set_option maxHeartbeats 8000000 in
theorem refIn_yes (ao : Option Addr) (cap : Nat) (ps : List Bk) (w : World) (h : PAt w ao ps) (hc : ckP ps = 0) :
    Calls Tryd.prog 13 #[.agg #[.slice ao ps.length cap]] w fun e w' => ∃ v xs, e = .returned v ∧ Gu w w' v xs ∧ So (PB ps) xs ∧ ∀ (i : Nat) k, (PB ps)[i]? = some k → Lv.Shut k xs i := by
  have HC : Hid (Calls Tryd.prog 28 #[.agg #[.slice ao ps.length cap]] (w.alloc (.cells #[.slice ao ps.length cap] 24)) fun e w' => e = .returned (.int .i64 0) ∧ Below (w.alloc (.cells #[.slice ao ps.length cap] 24)).heap.size (w.alloc (.cells #[.slice ao ps.length cap] 24)) w') := by
    have := refCheckP_any ao cap ps _ (h.below (below_al (w := w) (.cells #[.slice ao ps.length cap] 24)))
    rw [hc] at this; exact this
  have hG := good_of hc
  have hpos := hG.pos
  have hle := hG.le
  have hok := psOk_of h
  have HSm : Hid (∀ (i : Nat) k, (PB ps)[i]? = some k → SmallB k) := pb_small hc hok
  obtain ⟨bp, fp, rfl, hblt, hx⟩ := h.is hpos
  have HX : Hid (∀ (i : Nat) (h : i < ps.length), ∃ p, BAt w bp (fp + i * 6) ps[i] p ∧ BIn w ps[i] p) := hx
  have HFn : Hid (∀ (i : Nat) (h : i < ps.length), endB ps[i] ps.length = true) := fun i hi => end_of (ck_blocks hc _ (List.getElem_mem hi))
  have HE : Hid (∀ (i : Nat) (hi : i < ps.length) p bI c xs W, BIn W ps[i] p → Op.At W bI (uc xs) → Fit xs → xs.length = ps.length → Calls Tryd.prog 30 #[ps[i].val p, .slice (some ⟨bI, 0, none⟩) ps.length c] W fun e w' => e = .returned (.int .u32 ((endN (bOf ps[i]) xs : Nat) : Int)) ∧ Below W.heap.size W w') := fun i hi p bI c xs W h1 h2 h3 h4 => by
    have := refEnd8_any ps[i] p (some ⟨bI, 0, none⟩) c xs W h1 (ul_of h2) h3 (by omega) (by rw [h4]; exact HFn.out i hi)
    rw [h4] at this
    exact this
  have HL : Hid (∀ (i : Nat) (hi : i < ps.length) p xs W, BIn W ps[i] p → Fit xs → Calls Tryd.prog 29 #[.slice p.oa ps[i].ops.length p.oc, .int .i64 0, .int .u32 ((endN (bOf ps[i]) xs : Nat) : Int)] W fun e w' => e = .returned (.int .u32 ((intoN (bOf ps[i]) xs : Nat) : Int)) ∧ Below W.heap.size W w') := fun i hi p xs W h1 h2 => refList_any p.oa p.oc ps[i].ops 0 (endN (bOf ps[i]) xs) W h1.o (end_lt (HFn.out i hi) h1.ok.a0 h1.o.ok h1.b.ok h2) (Nat.zero_le _)
  obtain ⟨i1, hi, hi2⟩ := Option.map_eq_some_iff.1 info34
  simp only [Prod.mk.injEq] at hi2
  obtain ⟨hz0, hz1, hz2⟩ := hi2
  have HJ : Hid (Tryd.prog.info? 34 = some i1 ∧ i1.zero = some (.int .u32 0) ∧ i1.size = 1 ∧ i1.bytes = 4) := ⟨hi, hz0, hz1, hz2⟩
  clear hi hz0 hz1 hz2 h hG hok hx hc
  go_enter Tryd.func13, Tryd.ntmps13
  go_wp2_with (first
    | (go_at_call 28; refine Calls.mono HC.out ?_; rintro e w1 ⟨rfl, hb⟩; obtain ⟨a1, hb0, hz⟩ := one_new w _ _ hb; have H1 : Hid (Bw w w1 (some ⟨bp, fp, none⟩) cap ps) := ⟨a1, hb0⟩; have cb := H1.out.cell; clear hb hb0 a1 HC)
    | (at_make; refine wpList_make_row _ rfl _ _ 32 rfl 34 i1 (.int .u32 0) Tryd.underlying32 HJ.out.1 HJ.out.2.1 HJ.out.2.2.1 rfl .i64 .i64 ps.length rfl rfl (by rw [HJ.out.2.2.2]; omega) (by omega) ?_))
  have HS : Hid (D2 w (w1.alloc (.cells (madeCells #[.int .u32 0] ps.length) 34)) (some ⟨bp, fp, none⟩) cap ps w1.heap.size (List.replicate ps.length 0)) := D2.start H1.out 34
  generalize w1.heap.size = bI at *
  clear H1 cb
  go_loopg [5] (left (List.replicate ps.length 0) * 2 + 2) (fun g1 v wr => ∃ (xs : List Nat) (grown : Bool), v = .bool grown ∧ left xs * 2 + (if grown then 1 else 0) < g1 ∧ Hid (D2 w wr (some ⟨bp, fp, none⟩) cap ps bI xs ∧ (grown = false → ∀ (i : Nat) k, (PB ps)[i]? = some k → Lv.Shut k xs i)))
  case atStart => exact ⟨_, true, rfl, by simp, HS.out, fun h => by cases h⟩
  case round =>
    clear HS
    obtain ⟨xs, grown, rfl, hcg, H2⟩ := hrel
    cases grown with
    | false =>
      have hR : Hid (xs.length = ps.length ∧ Ul wr (some ⟨bI, 0, none⟩) xs ∧ Below w.heap.size w wr ∧ So (PB ps) xs ∧ ∀ (i : Nat) k, (PB ps)[i]? = some k → Lv.Shut k xs i) := ⟨H2.out.1.xl, ul_of H2.out.1.u, H2.out.1.q.b, H2.out.1.so, H2.out.2 rfl⟩
      clear H2
      go_wp2
      go_ret
      exact ⟨_, xs, rfl, ⟨_, _, by rw [hR.out.1]; rfl, hR.out.2.1, hR.out.2.2.1⟩, hR.out.2.2.2⟩
    | true =>
      go_wp2
      go_loopw [5, 6] (fun v i wq => ∃ (k : Nat) (ys : List Nat) (gr : Bool), k ≤ ps.length ∧ i = .int .i64 ((k : Int) - 1) ∧ v = .bool gr ∧ Hid (D2 w wq (some ⟨bp, fp, none⟩) cap ps bI ys ∧ D3 ps xs ys gr k)) (fun _ i _ => (intOf i + 1).toNat)
      case atStart => exact ⟨ps.length, xs, false, Nat.le_refl _, by go_num, rfl, H2.out.1, ⟨by have := Rnd.init (PB ps) xs; simpa using this, Nat.le_refl _, fun h => by cases h⟩⟩
      case round =>
        rename World => wq
        clear H2
        obtain ⟨k, ys, gr, hk, rfl, rfl, H3⟩ := hrel
        cases k with
        | zero =>
          have HN : Hid (D2 w wq (some ⟨bp, fp, none⟩) cap ps bI ys ∧ (gr = false → ∀ (i : Nat) k, (PB ps)[i]? = some k → Lv.Shut k ys i)) := ⟨H3.out.1, fun hg => by have := H3.out.2.r; rw [hg] at this; exact this.done⟩
          have hm : left ys * 2 + (if gr then 1 else 0) < left xs * 2 + 1 := by
            have h1 := H3.out.2.le
            have h2 := H3.out.2.lt
            cases gr with
            | false => simp; omega
            | true => have := h2 rfl; simp; omega
          simp only [if_true] at hcg
          clear H3
          go_wp2
          go_roundg (left xs * 2 + 1)
          case measure => omega
          case rel => exact ⟨ys, gr, rfl, by omega, HN.out⟩
        | succ k =>
          have hkp : k < ps.length := by omega
          have hkz : (k : Int) < (ps.length : Int) := by omega
          have e1 : ((k + 1 : Nat) : Int) - 1 = (k : Int) := by omega
          rw [e1]
          obtain ⟨p, hp, hin⟩ := HX.out k hkp
          have hyl := H3.out.1.xl
          have hfit := H3.out.1.so.fit
          have HE1 : Hid (∀ z : Wd (Below wq.heap.size wq), Calls Tryd.prog 30 #[ps[k].val p, .slice (some ⟨bI, 0, none⟩) ps.length ps.length] z.w fun e w' => e = .returned (.int .u32 ((endN (bOf ps[k]) ys : Nat) : Int)) ∧ Below z.w.heap.size z.w w') := fun z => HE.out k hkp p bI _ ys z.w (hin.below (H3.out.1.up z.ok).q.b) (H3.out.1.up z.ok).u hfit hyl
          have HL1 : Hid (∀ z : Wd (Below wq.heap.size wq), Calls Tryd.prog 29 #[.slice p.oa ps[k].ops.length p.oc, .int .i64 0, .int .u32 ((endN (bOf ps[k]) ys : Nat) : Int)] z.w fun e w' => e = .returned (.int .u32 ((intoN (bOf ps[k]) ys : Nat) : Int)) ∧ Below z.w.heap.size z.w w') := fun z => HL.out k hkp p ys z.w (hin.below (H3.out.1.up z.ok).q.b) hfit
          have HO : Hid (bits .or .u32 ((inN ys k : Nat) : Int) ((intoN (bOf ps[k]) ys : Nat) : Int) = ((inN ys k ||| intoN (bOf ps[k]) ys : Nat) : Int)) := or_u32 (hfit k) (intoN_lt (HSm.out k _ (pb_at hkp)) hfit)
          have H4 : Hid (∀ W, Below wq.heap.size wq W → D2 w (W.setCell ⟨bI, k, none⟩ (.int .u32 ((inN ys k ||| intoN (bOf ps[k]) ys : Nat) : Int))) (some ⟨bp, fp, none⟩) cap ps bI (ys.set k (inN ys k ||| intoN (bOf ps[k]) ys))) := fun W hW => (H3.out.1.up hW).set HSm.out hkp
          have H5 : Hid (D3 ps xs (ys.set k (inN ys k ||| intoN (bOf ps[k]) ys)) (gr || (inN ys k ||| intoN (bOf ps[k]) ys) != inN ys k) k) := H3.out.2.step HSm.out hfit hkp hyl
          have HP : Hid (∀ z : Wd (Below wq.heap.size wq), BAt z.w bp (fp + k * 6) ps[k] p) := fun z => hp.below (H3.out.1.up z.ok).q.b hblt
          have e0 : ∀ z : Wd (Below wq.heap.size wq), z.w.cell? ⟨w.heap.size, 0, none⟩ = some (.slice (some ⟨bp, fp, none⟩) ps.length cap) := fun z => (H3.out.1.up z.ok).q.cell
          have e2 : ∀ z : Wd (Below wq.heap.size wq), z.w.cell? ⟨bI, k, none⟩ = some (.int .u32 ((inN ys k : Nat) : Int)) := fun z => (H3.out.1.up z.ok).u.c k _ (uc_get (by omega))
          have HU : Hid (∀ z : Wd (Below wq.heap.size wq), z.w.cell? ⟨bI, k, none⟩ = some (.int .u32 ((inN ys k : Nat) : Int)) ∧ z.w.frozen? ⟨bI, k, none⟩ = false) := fun z => ⟨e2 z, (H3.out.1.up z.ok).u.f k⟩
          generalize ys.set k (inN ys k ||| intoN (bOf ps[k]) ys) = ys' at *
          generalize hyo : inN ys k ||| intoN (bOf ps[k]) ys = yo at *
          generalize intoN (bOf ps[k]) ys = yi at *
          generalize inN ys k = yk at *
          generalize endN (bOf ps[k]) ys = ye at *
          generalize ps[k] = x at *
          clear hp hin H3 hfit HE HL hyo HX HFn e1
          obtain ⟨xo, xf, xa, xb, xt, xe⟩ := x
          have q0 : ∀ z : Wd (Below wq.heap.size wq), z.w.cell? ⟨bp, fp + k * 6, none⟩ = some (.slice p.oa xo.length p.oc) := fun z => (HP.out z).c0
          have q1 : ∀ z : Wd (Below wq.heap.size wq), z.w.cell? ⟨bp, fp + k * 6 + 1, none⟩ = some (.int .i8 xf) := fun z => (HP.out z).c1
          have q2 : ∀ z : Wd (Below wq.heap.size wq), z.w.cell? ⟨bp, fp + k * 6 + 2, none⟩ = some (.int .u8 xa) := fun z => (HP.out z).c2
          have q3 : ∀ z : Wd (Below wq.heap.size wq), z.w.cell? ⟨bp, fp + k * 6 + 3, none⟩ = some (.slice p.ba xb.length p.bc) := fun z => (HP.out z).c3
          have q4 : ∀ z : Wd (Below wq.heap.size wq), z.w.cell? ⟨bp, fp + k * 6 + 4, none⟩ = some (.int .i64 xt) := fun z => (HP.out z).c4
          have q5 : ∀ z : Wd (Below wq.heap.size wq), z.w.cell? ⟨bp, fp + k * 6 + 5, none⟩ = some (.int .i64 xe) := fun z => (HP.out z).c5
          haveI inst : Nonempty (Wd (Below wq.heap.size wq)) := ⟨⟨wq, Below.refl _ _⟩⟩
          have i1' : (0 : Int) ≤ (k : Int) := by omega
          go_wp2_with fail
          refine wp_region_in (Below wq.heap.size wq) (by kernel_rfl) (by kernel_rfl) ((Below.refl _ _).drew) ?_
          repeat (first | go_big_quiet_step ((first
            | (go_at_call 30; exact calls_in (Nat.le_refl _) _ (HE1.out _))
            | (go_at_call 29; exact calls_in (Nat.le_refl _) _ (HL1.out _)))))
          refine wpQuiet_nil ?_
          rintro _ ⟨x, rfl⟩
          have hx6 := x.ok
          obtain ⟨cu, fu⟩ := HU.out x
          have H6 : Hid (Below wq.heap.size wq x.w) := hx6
          rw [HO.out]
          generalize x.w = w6 at *
          clear e0 e2 q0 q1 q2 q3 q4 q5 inst HE1 HL1 HP HU HO hx6 x
          cases gr with
          | true =>
            go_wp2_with fail
            go_roundw
            case rel => exact ⟨k, _, _, by omega, by go_num, rfl, H4.out _ H6.out, H5.out⟩
            case measure => simp [intOf]
          | false =>
            have hbq : (((yo : Nat) : Int) != ((yk : Nat) : Int)) = (yo != yk) := by
              rw [Bool.eq_iff_iff]; simp only [bne_iff_ne, ne_eq]; omega
            go_wp2_with fail
            go_roundw
            case rel => exact ⟨k, _, _, by omega, by go_num, rfl, H4.out _ H6.out, H5.out⟩
            case measure => simp [intOf]
theorem refIn_is (ao : Option Addr) (cap : Nat) (ps : List Bk) (w : World) (h : PAt w ao ps) :
    Calls Tryd.prog 13 #[.agg #[.slice ao ps.length cap]] w fun e w' => ∃ a c, e = .returned (.slice a (inL ps).length c) ∧ Ul w' a (inL ps) ∧ IsIn ps (inL ps) ∧ Below w.heap.size w w' := by
  by_cases hc : ckP ps = 0
  · refine (refIn_yes ao cap ps w h hc).mono ?_
    rintro e w' ⟨v, xs, rfl, ⟨a, c, rfl, h3, h4⟩, h5⟩
    have hI : IsIn ps xs := ⟨fun _ => h5, fun hn => absurd hc hn⟩
    have e1 := inL_eq (psOk_of h) hI
    subst e1
    exact ⟨a, c, rfl, h3, hI, h4⟩
  · refine (refIn_no ao cap ps w h hc).mono ?_
    rintro e w' ⟨rfl, hb⟩
    have hI : IsIn ps [] := ⟨fun hn => absurd hn hc, fun _ => rfl⟩
    have e1 := inL_eq (psOk_of h) hI
    rw [← e1]
    exact ⟨none, 0, rfl, Ul.nil _ _, hI, hb⟩
end Go.Proofs.YtlinekpaffgcjaaDoor.Li

namespace Go.Proofs.YtlinekpaffgcjaaDoor.Li
open Go.ChangeShapes Go.WideShapes Go.ChangeAt Go.RowKit
open _root_.Go.Proofs.YtlinekpaffgcjaaDoor.So _root_.Go.Proofs.YtlinekpaffgcjaaDoor.Op _root_.Go.Proofs.YtlinekpaffgcjaaDoor.Fl _root_.Go.Proofs.YtlinekpaffgcjaaDoor.Lv
set_option maxRecDepth 20000

def ucl (xs : List Nat) : List Value := xs.map fun (x : Nat) => Value.int .u32 (x : Int)
/-- The row of sets so far. -/
structure Or (w wI wr : World) (ao : Option Addr) (cap : Nat) (ps : List Bk) (v : Value) (ys : List Nat) : Prop where
  q : Bw w wr ao cap ps
  row : wr.ownsRow wI.heap.size 34 1 v ys.length (ucl ys)
  b : Below wI.heap.size wI wr
theorem Or.up {w wI wr w' : World} {ao : Option Addr} {cap : Nat} {ps : List Bk} {v : Value} {ys : List Nat} (h : Or w wI wr ao cap ps v ys) (hb : Below wr.heap.size wr w') : Or w wI w' ao cap ps v ys := ⟨h.q.up hb, row_below' h.row hb, h.b.trans (hb.mono h.b.size)⟩
theorem Or.put {w wI wr w4 : World} {ao : Option Addr} {cap : Nat} {ps : List Bk} {v v4 : Value} {ys : List Nat} {y : Nat} {o : Obj} (hq : Bw w wI ao cap ps) (h : Or w wI wr ao cap ps v ys) (ho : w4.ownsRow wI.heap.size 34 1 v4 (ys.length + 1) (ucl ys ++ [.int .u32 (y : Int)])) (hg : (wr.alloc o).grownBy w4 v.ownBlock) : Or w wI w4 ao cap ps v4 (ys ++ [y]) := by
  have hb : Below wI.heap.size wI w4 := (h.b.alloc h.b.size o).grown hg (by have := h.b.size; simp; omega) (fun b hb => (h.row.lt b hb).1)
  refine ⟨hq.up hb, ?_, hb⟩
  rw [List.length_append]
  simpa [ucl] using ho
theorem ul_row {w : World} {B c : Nat} {a : Option Addr} {xs : List Nat} (h : w.ownsRow B 34 1 (.slice a xs.length c) xs.length (ucl xs)) : Ul w a xs := ⟨fun h0 => by
  obtain ⟨g, cp, e, hg, hlt⟩ := h.form h0
  injection e with e1 e2 e3
  subst e1
  refine ⟨g, rfl, hlt, fun i hi => ?_⟩
  rw [h.cellAt i (by omega)]
  simp [ucl, hi]⟩
set_option maxHeartbeats 2000000 in
theorem refOut_is (ao : Option Addr) (cap : Nat) (ps : List Bk) (w : World) (h : PAt w ao ps) :
    Calls Tryd.prog 15 #[.agg #[.slice ao ps.length cap]] w fun e w' => ∃ a c, e = .returned (.slice a (outL ps (inL ps)).length c) ∧ Ul w' a (outL ps (inL ps)) ∧ IsIn ps (inL ps) ∧ Below w.heap.size w w' := by
  have HK : Hid _ := refIn_is ao cap ps (w.alloc (.cells #[.slice ao ps.length cap] 24)) (h.below (below_al _))
  have HP : Hid (PAt w ao ps) := h
  generalize hxs : inL ps = xs at *
  obtain ⟨i1, hi, hi2⟩ := Option.map_eq_some_iff.1 info34
  simp only [Prod.mk.injEq] at hi2
  obtain ⟨hz0, hz1, hz2⟩ := hi2
  have HJ : Hid (Tryd.prog.info? 34 = some i1 ∧ i1.zero = some (.int .u32 0) ∧ i1.size = 1 ∧ i1.bytes = 4) := ⟨hi, hz0, hz1, hz2⟩
  have HL : Hid (IsIn ps xs → xs.length ≤ 128) := fun hI => by
    have := hI.len
    split at this
    · rename_i hc; have := (good_of hc).le; omega
    · omega
  clear hi hz0 hz1 hz2 h hxs
  go_enter Tryd.func15, Tryd.ntmps15
  go_wp2_with (first
    | (go_at_call 13; refine Calls.mono HK.out ?_; rintro e w1 ⟨a, c, rfl, hU, hI, hb⟩; obtain ⟨a1, hb0, hz⟩ := one_new w _ _ hb; have HA1 : Hid (Bw w w1 ao cap ps) := ⟨a1, hb0⟩; have HI1 : Hid (Ul w1 a xs ∧ IsIn ps xs) := ⟨hU, hI⟩; have hle := HL.out hI; clear hb hb0 a1 HK hU hI))
  go_loopw [4, 5] (fun v i wr => ∃ (k : Nat), k ≤ xs.length ∧ i = .int .i64 k ∧ Hid (Or w w1 wr ao cap ps v ((List.range k).map (endAt ps xs)))) (fun _ i _ => xs.length - (intOf i).toNat)
  case atStart => exact ⟨0, by omega, rfl, HA1.out, World.ownsRow_nil _ _ _ _, Below.refl _ _⟩
  case round =>
    rename_i wr
    obtain ⟨k, hk, rfl, HO⟩ := hrel
    have cb := HO.out.q.cell
    by_cases hlk : k < xs.length
    · have hkz : (k : Int) < (xs.length : Int) := by omega
      have hF := fine_of HI1.out.2 (by omega)
      have hkp : k < ps.length := by rw [← hF.len]; exact hlk
      have hkpz : (k : Int) < (ps.length : Int) := by omega
      obtain ⟨bp, fp, rfl, hblt, hx⟩ := HP.out.is (by omega)
      obtain ⟨p, hp, hin⟩ := hx k hkp
      obtain ⟨p0, p1, p2, p3, p4, p5⟩ := hp.below HO.out.q.b hblt
      have HC : Hid (Calls Tryd.prog 30 #[ps[k].val p, .slice a xs.length c] wr fun e w' => e = .returned (.int .u32 ((endAt ps xs k : Nat) : Int)) ∧ Below wr.heap.size wr w') := by
        rw [endAt_eq hkp]
        exact refEnd8_any ps[k] p a c xs wr (hin.below HO.out.q.b) (HI1.out.1.below HO.out.b) hF.fit (by omega) (hF.fin k hkp)
      have hA : Hid ((List.range (k + 1)).map (endAt ps xs) = (List.range k).map (endAt ps xs) ++ [endAt ps xs k]) := by
        show _ = _
        rw [List.range_succ, List.map_append]; rfl
      have hln : ((List.range k).map (endAt ps xs)).length = k := by simp
      generalize (List.range k).map (endAt ps xs) = ys at *
      generalize endAt ps xs k = y at *
      clear hp hx hin hF
      go_wp2_with (first
        | (go_at_call 30; refine Calls.mono HC.out ?_; rintro e w2 ⟨rfl, hb2⟩; have HO2 : Hid (Or w w1 w2 (some ⟨bp, fp, none⟩) cap ps u4 ys) := HO.out.up hb2; have hsz : Hid (w1.heap.size ≤ w2.heap.size) := HO2.out.b.size; clear hb2 HC p0 p1 p2 p3 p4 p5 cb HO)
        | (at_builtin; refine wpList_append_lies _ rfl _ _ 32 rfl w1.heap.size 34 i1 (.int .u32 0) 1 4 Tryd.underlying32 HJ.out.1 HJ.out.2.1 HJ.out.2.2.1 HJ.out.2.2.2 rfl (by decide) _ _ _ rfl (HO2.out.row.alloc _) ⟨w2.heap.size, 0, none⟩ 1 1 [.int .u32 (y : Int)] rfl rfl (World.news_of_block (heap_alloc_new w2 _)) (by simp [Value.oneCell']) (by decide) (by unfold maxLen; omega) (by omega) (by have := hsz.out; simp; omega) (w2.heap.size + 1) (by simp) ?_; intro g cap' w4 hown1 hgrow hat hlt3))
      go_roundw
      case rel => exact ⟨k + 1, by omega, by go_num, by rw [hA.out]; exact Or.put HA1.out HO2.out (by have h9 := hown1; rw [hln] at h9 ⊢; exact h9) hgrow⟩
      case measure => simp [intOf]; omega
    · obtain rfl : k = xs.length := by omega
      have hys := out_eq HI1.out.2
      have HR : Hid (Or w w1 wr ao cap ps u4 (outL ps xs) ∧ IsIn ps xs) := ⟨by rw [← hys]; exact HO.out, HI1.out.2⟩
      clear hys HO HI1
      go_wp2
      go_ret
      obtain ⟨a', c', e⟩ := row_slice HR.out.1.row
      subst e
      exact ⟨a', c', rfl, ul_row HR.out.1.row, HR.out.2, HR.out.1.q.b⟩
end Go.Proofs.YtlinekpaffgcjaaDoor.Li

namespace Go.Proofs.YtlinekpaffgcjaaDoor.Li
open Go.ChangeShapes Go.WideShapes Go.ChangeAt Go.RowKit
open _root_.Go.Proofs.YtlinekpaffgcjaaDoor.So _root_.Go.Proofs.YtlinekpaffgcjaaDoor.Op _root_.Go.Proofs.YtlinekpaffgcjaaDoor.Fl _root_.Go.Proofs.YtlinekpaffgcjaaDoor.Lv
set_option maxRecDepth 20000

theorem refAt_no (ao : Option Addr) (cap : Nat) (ps : List Bk) (block op : Int) (w : World) (h : PAt w ao ps) (hn : block < 0 ∨ (outL ps (inL ps)).length ≤ block) :
    Calls Tryd.prog 17 #[.agg #[.slice ao ps.length cap], .int .i64 block, .int .i64 op] w fun e w' => e = .returned (.int .u32 0) ∧ Below w.heap.size w w' := by
  have HK : Hid _ := refOut_is ao cap ps (w.alloc (.cells #[.slice ao ps.length cap] 24)) (h.below (below_al _))
  generalize outL ps (inL ps) = xs at *
  clear h
  by_cases h0 : block < 0
  · clear hn
    go_enter Tryd.func17, Tryd.ntmps17
    go_wp2_with (first
      | (go_at_call 15; refine Calls.mono HK.out ?_; rintro e w1 ⟨a, c, rfl, hU, hI, hb⟩; obtain ⟨a1, hb0, hz⟩ := one_new w _ _ hb; have HB1 : Hid (Below w.heap.size w w1) := hb0; clear hb hb0 a1 HK hU hI))
    go_ret
    exact ⟨rfl, HB1.out⟩
  · have hn' : (xs.length : Int) ≤ block := by omega
    clear hn
    go_enter Tryd.func17, Tryd.ntmps17
    go_wp2_with (first
      | (go_at_call 15; refine Calls.mono HK.out ?_; rintro e w1 ⟨a, c, rfl, hU, hI, hb⟩; obtain ⟨a1, hb0, hz⟩ := one_new w _ _ hb; have HB1 : Hid (Below w.heap.size w w1) := hb0; clear hb hb0 a1 HK hU hI))
    go_ret
    exact ⟨rfl, HB1.out⟩
set_option maxHeartbeats 2000000 in
theorem refAt_out (ao : Option Addr) (cap : Nat) (ps : List Bk) (g : Nat) (op : Int) (w : World) (h : PAt w ao ps) (hg : g < ps.length) (hl : (outL ps (inL ps)).length = ps.length) (hn : op < 0 ∨ ps[g].ops.length < op) :
    Calls Tryd.prog 17 #[.agg #[.slice ao ps.length cap], .int .i64 g, .int .i64 op] w fun e w' => e = .returned (.int .u32 0) ∧ Below w.heap.size w w' := by
  have HK : Hid _ := refOut_is ao cap ps (w.alloc (.cells #[.slice ao ps.length cap] 24)) (h.below (below_al _))
  rw [hl] at HK
  generalize outL ps (inL ps) = xs at *
  obtain ⟨bp, fp, rfl, hblt, hx⟩ := h.is (by omega)
  obtain ⟨p, hp, hin⟩ := hx g hg
  have HP : Hid (BAt w bp (fp + g * 6) ps[g] p) := hp
  have hgz : (g : Int) < (ps.length : Int) := by omega
  have hgz' : ¬ (ps.length : Int) ≤ (g : Int) := by omega
  clear h hx hp hin hl
  by_cases h0 : op < 0
  · clear hn
    go_enter Tryd.func17, Tryd.ntmps17
    go_wp2_with (first
      | (go_at_call 15; refine Calls.mono HK.out ?_; rintro e w1 ⟨a, c, rfl, hU, hI, hb⟩; obtain ⟨a1, hb0, hz⟩ := one_new w _ _ hb; have HB1 : Hid (Below w.heap.size w w1) := hb0; have cb := a1.c 0 _ rfl; obtain ⟨c0, c1, c2, c3, c4, c5⟩ := HP.out.below hb0 hblt; clear hb hb0 a1 HK hU hI))
    go_ret
    exact ⟨rfl, HB1.out⟩
  · have hn' : (ps[g].ops.length : Int) < op := by omega
    clear hn
    go_enter Tryd.func17, Tryd.ntmps17
    go_wp2_with (first
      | (go_at_call 15; refine Calls.mono HK.out ?_; rintro e w1 ⟨a, c, rfl, hU, hI, hb⟩; obtain ⟨a1, hb0, hz⟩ := one_new w _ _ hb; have HB1 : Hid (Below w.heap.size w w1) := hb0; have cb := a1.c 0 _ rfl; obtain ⟨c0, c1, c2, c3, c4, c5⟩ := HP.out.below hb0 hblt; clear hb hb0 a1 HK hU hI))
    go_ret
    exact ⟨rfl, HB1.out⟩
set_option maxHeartbeats 2000000 in
theorem refAt_yes (ao : Option Addr) (cap : Nat) (ps : List Bk) (g op : Nat) (w : World) (h : PAt w ao ps) (hc : ckP ps = 0) (hg : g < ps.length) (ho : op ≤ ps[g].ops.length) :
    Calls Tryd.prog 17 #[.agg #[.slice ao ps.length cap], .int .i64 g, .int .i64 op] w fun e w' => e = .returned (.int .u32 ((aheadNL ((ps[g].ops.drop op).map wOf) (endN (bOf ps[g]) (inL ps)) : Nat) : Int)) ∧ Below w.heap.size w w' := by
  have hl : (outL ps (inL ps)).length = ps.length := by unfold outL; rw [if_pos hc]; simp
  have hok := psOk_of h
  have HK : Hid (Calls Tryd.prog 15 #[.agg #[.slice ao ps.length cap]] (w.alloc (.cells #[.slice ao ps.length cap] 24)) fun e w' => ∃ a c, e = .returned (.slice (some ⟨a, 0, none⟩) ps.length c) ∧ (a < w'.heap.size ∧ w'.cell? ⟨a, g, none⟩ = some (.int .u32 ((endN (bOf ps[g]) (inL ps) : Nat) : Int))) ∧ IsIn ps (inL ps) ∧ Below (w.alloc (.cells #[.slice ao ps.length cap] 24)).heap.size (w.alloc (.cells #[.slice ao ps.length cap] 24)) w') :=
    (refOut_is ao cap ps _ (h.below (below_al _))).mono fun e w' ⟨a, c, h1, h2, h3, h4⟩ => by
      obtain ⟨b, rfl, hlt⟩ := h2.addr (by omega)
      have hcl := h2.at (t := g) (by omega)
      rw [out_get hc hg] at hcl
      rw [hl] at h1
      exact ⟨b, c, h1, ⟨hlt, hcl⟩, h3, h4⟩
  obtain ⟨bp, fp, rfl, hblt, hx⟩ := h.is (by omega)
  obtain ⟨p, hp, hin⟩ := hx g hg
  have HP : Hid (BAt w bp (fp + g * 6) ps[g] p ∧ BIn w ps[g] p) := ⟨hp, hin⟩
  have hgz : (g : Int) < (ps.length : Int) := by omega
  have hgz' : ¬ (ps.length : Int) ≤ (g : Int) := by omega
  have hoz : ¬ (ps[g].ops.length : Int) < (op : Int) := by omega
  have HLi : Hid (IsIn ps (inL ps) → ∀ W, BIn W ps[g] p → Calls Tryd.prog 29 #[.slice p.oa ps[g].ops.length p.oc, .int .i64 op, .int .u32 ((endN (bOf ps[g]) (inL ps) : Nat) : Int)] W fun e w' => e = .returned (.int .u32 ((aheadNL ((ps[g].ops.drop op).map wOf) (endN (bOf ps[g]) (inL ps)) : Nat) : Int)) ∧ Below W.heap.size W w') := fun hI W hB =>
    refList_any p.oa p.oc ps[g].ops op _ W hB.o (end_fit hok (fine_of hI (by rw [hI.len, if_pos hc]; omega)) hg) ho
  generalize hIs : IsIn ps (inL ps) = IS at *
  generalize aheadNL ((ps[g].ops.drop op).map wOf) (endN (bOf ps[g]) (inL ps)) = y2 at *
  generalize endN (bOf ps[g]) (inL ps) = y1 at *
  generalize ps[g] = x at *
  clear h hx hp hin hok hl hc hIs
  obtain ⟨xo, xf, xa, xb, xt, xe⟩ := x
  go_enter Tryd.func17, Tryd.ntmps17
  go_wp2_with (first
    | (go_at_call 15; refine Calls.mono HK.out ?_; rintro e w1 ⟨a, c, rfl, ⟨ia, ca⟩, hI, hb⟩; obtain ⟨a1, hb0, hz⟩ := one_new w _ _ hb; have H1 : Hid (Bw w w1 (some ⟨bp, fp, none⟩) cap ps ∧ IS) := ⟨⟨a1, hb0⟩, hI⟩; have cb := H1.out.1.cell; obtain ⟨c0, c1, c2, c3, c4, c5⟩ := HP.out.1.below hb0 hblt; have HA : Hid (a < w1.heap.size ∧ w1.cell? ⟨a, g, none⟩ = some (.int .u32 (y1 : Int))) := ⟨ia, ca⟩; clear hb hb0 a1 HK hI ia ca))
  have hub : ∀ z : Wd (Below w1.heap.size w1), Bw w z.w (some ⟨bp, fp, none⟩) cap ps := fun z => H1.out.1.up z.ok
  have HUb : Hid _ := hub
  have e0 : ∀ z : Wd (Below w1.heap.size w1), z.w.cell? ⟨w.heap.size, 0, none⟩ = some (.slice (some ⟨bp, fp, none⟩) ps.length cap) := fun z => (hub z).cell
  have e1 : ∀ z : Wd (Below w1.heap.size w1), z.w.cell? ⟨bp, fp + g * 6, none⟩ = some (.slice p.oa xo.length p.oc) := fun z => (HP.out.1.below (hub z).b hblt).c0
  have e2 : ∀ z : Wd (Below w1.heap.size w1), z.w.cell? ⟨a, g, none⟩ = some (.int .u32 (y1 : Int)) := fun z => by rw [(bcell z.ok).1 _ _ HA.out.1]; exact HA.out.2
  haveI inst : Nonempty (Wd (Below w1.heap.size w1)) := ⟨⟨w1, Below.refl _ _⟩⟩
  have i1 : (0 : Int) ≤ (g : Int) := by omega
  clear hub c0 c1 c2 c3 c4 c5 cb HA
  refine wp_region_in (Below w1.heap.size w1) (by kernel_rfl) (by kernel_rfl) ((Below.refl _ _).drew) ?_
  repeat (first | go_big_quiet_step ((first
    | (go_at_call 29; exact calls_in (Nat.le_refl _) _ (HLi.out H1.out.2 _ (HP.out.2.below (HUb.out _).b))))))
  refine wpQuiet_nil ?_
  rintro _ ⟨x, rfl⟩
  have hx := HUb.out x
  go_wp2_with fail
  go_ret
  exact ⟨rfl, hx.b⟩
theorem refAt_is (ao : Option Addr) (cap : Nat) (ps : List Bk) (block op : Int) (w : World) (h : PAt w ao ps) :
    Calls Tryd.prog 17 #[.agg #[.slice ao ps.length cap], .int .i64 block, .int .i64 op] w fun e w' => e = .returned (.int .u32 ((atN ps (inL ps) block op : Nat) : Int)) ∧ Below w.heap.size w w' := by
  by_cases hc : ckP ps = 0
  · have hl : (outL ps (inL ps)).length = ps.length := by unfold outL; rw [if_pos hc]; simp
    by_cases hb : 0 ≤ block ∧ block < ps.length
    · obtain ⟨g, rfl⟩ : ∃ g : Nat, block = g := ⟨block.toNat, by omega⟩
      have hg : g < ps.length := by omega
      by_cases ho : 0 ≤ op ∧ op ≤ ps[g].ops.length
      · obtain ⟨k, rfl⟩ : ∃ k : Nat, op = k := ⟨op.toNat, by omega⟩
        have e : atN ps (inL ps) (g : Int) (k : Int) = aheadNL ((ps[g].ops.drop k).map wOf) (endN (bOf ps[g]) (inL ps)) := by
          unfold atN
          rw [if_pos ⟨hc, hb⟩, Int.toNat_natCast, List.getElem?_eq_getElem hg]
          simp only []
          rw [if_pos ho]; rfl
        rw [e]
        exact refAt_yes ao cap ps g k w h hc hg (by omega)
      · have e : atN ps (inL ps) (g : Int) op = 0 := by
          unfold atN
          rw [if_pos ⟨hc, hb⟩, Int.toNat_natCast, List.getElem?_eq_getElem hg]
          simp only []
          rw [if_neg ho]
        rw [e]
        exact refAt_out ao cap ps g op w h hg hl (by omega)
    · have e : atN ps (inL ps) block op = 0 := by
        unfold atN
        rw [if_neg (fun h => hb h.2)]
      rw [e]
      exact refAt_no ao cap ps block op w h (by omega)
  · have hl : (outL ps (inL ps)).length = 0 := by unfold outL; rw [if_neg hc]; rfl
    have e : atN ps (inL ps) block op = 0 := by
      unfold atN
      rw [if_neg (fun h => hc h.1)]
    rw [e]
    exact refAt_no ao cap ps block op w h (by omega)
set_option maxHeartbeats 1000000 in
theorem same_any (a b : Option Addr) (c d : Nat) (xs : List Nat) (w : World) (h : Ul w a xs) (g : Ul w b xs) (hl : xs.length ≤ 128) :
    Calls Tryd.prog 11 #[.slice a xs.length c, .slice b xs.length d] w fun e w' => e = .returned (.bool true) ∧ Below w.heap.size w w' := by
  have H1 : Hid _ := h
  have H2 : Hid _ := g
  clear h g
  go_enter Tryd.func11, Tryd.ntmps11
  go_wp2
  go_loopw [5] (fun i wr => ∃ k : Nat, k ≤ xs.length ∧ i = .int .i64 k ∧ Below w.heap.size w wr) (fun i _ => xs.length - (intOf i).toNat)
  case atStart => exact ⟨0, by omega, rfl, Below.refl _ _⟩
  case round =>
    rename_i wr
    obtain ⟨k, hk, rfl, hbw⟩ := hrel
    by_cases hlt : k < xs.length
    · have i1 : (0 : Int) ≤ (k : Int) := by omega
      have i2 : (k : Int) < (xs.length : Int) := by omega
      obtain ⟨b1, rfl, hb1, hc1⟩ := H1.out.is (by omega)
      obtain ⟨b2, rfl, hb2, hc2⟩ := H2.out.is (by omega)
      have c1 : ∀ x : Wd (Below wr.heap.size wr), x.w.cell? ⟨b1, k, none⟩ = some (.int .u32 ((xs[k] : Nat) : Int)) := fun x => by rw [(bcell x.ok).1 _ _ (Nat.lt_of_lt_of_le hb1 hbw.size), (bcell hbw).1 _ _ hb1]; exact hc1 k hlt
      have c2 : ∀ x : Wd (Below wr.heap.size wr), x.w.cell? ⟨b2, k, none⟩ = some (.int .u32 ((xs[k] : Nat) : Int)) := fun x => by rw [(bcell x.ok).1 _ _ (Nat.lt_of_lt_of_le hb2 hbw.size), (bcell hbw).1 _ _ hb2]; exact hc2 k hlt
      haveI inst : Nonempty (Wd (Below wr.heap.size wr)) := ⟨⟨wr, Below.refl _ _⟩⟩
      generalize xs[k] = y at *
      clear hc1 hc2
      go_wp2
      refine wp_region_in (Below wr.heap.size wr) (by kernel_rfl) (by kernel_rfl) ((Below.refl _ _).drew) ?_
      repeat (first | go_big_quiet_step ((fail)))
      refine wpQuiet_nil ?_
      rintro _ ⟨x, rfl⟩
      have hx := x.ok
      go_wp2
      go_roundw
      case rel => exact ⟨k + 1, by omega, by go_num, hbw.trans (hx.mono hbw.size)⟩
      case measure => simp [intOf]; omega
    · have i2 : ¬ ((k : Int) < (xs.length : Int)) := by omega
      go_wp2
      go_ret
      exact ⟨rfl, hbw⟩
end Go.Proofs.YtlinekpaffgcjaaDoor.Li

namespace Go.Proofs.YtlinekpaffgcjaaDoor.Op
open Go.ChangeShapes Go.WideShapes Go.ChangeAt Go.RowKit
set_option maxRecDepth 20000

theorem At.f6 {w : World} {b : Nat} {cs : Array Value} (h : At w b cs) : w.frozen? ⟨b, 0, none⟩ = false ∧ w.frozen? ⟨b, 3, none⟩ = false := ⟨h.f 0, h.f 3⟩
/-- One round: the block's box, its lists' copies. -/
structure Cx (w wr V : World) (x : Bk) (u0 u3 : Value) : Prop where
  b : Below wr.heap.size wr V
  lt : wr.heap.size < V.heap.size
  c : At V wr.heap.size #[u0, .int .i8 x.fin, .int .u8 x.a, u3, .int .i64 x.thn, .int .i64 x.els]
theorem Cx.start {w wr V : World} {x : Bk} {u0 u3 : Value} {t : TypeId} (hb : Below (wr.alloc (.cells #[u0, .int .i8 x.fin, .int .u8 x.a, u3, .int .i64 x.thn, .int .i64 x.els] t)).heap.size (wr.alloc (.cells #[u0, .int .i8 x.fin, .int .u8 x.a, u3, .int .i64 x.thn, .int .i64 x.els] t)) V) : Cx w wr V x u0 u3 := by
  obtain ⟨a1, b1, z1⟩ := one_new wr _ _ hb
  exact ⟨b1, z1, a1⟩
theorem Cx.set0 {w wr V : World} {x : Bk} {u0 u3 : Value} (h : Cx w wr V x u0 u3) (v : Value) : Cx w wr (V.setCell ⟨wr.heap.size, 0, none⟩ v) x v u3 :=
  ⟨h.b.setCell (Nat.le_refl _) _, by simpa using h.lt, h.c.set (j := 0) (by simp) v⟩
theorem Cx.set3 {w wr V : World} {x : Bk} {u0 u3 : Value} (h : Cx w wr V x u0 u3) (v : Value) : Cx w wr (V.setCell ⟨wr.heap.size, 3, none⟩ v) x u0 v :=
  ⟨h.b.setCell (Nat.le_refl _) _, by simpa using h.lt, h.c.set (j := 3) (by simp) v⟩
theorem Cx.go {w wr V V' : World} {x : Bk} {u0 u3 : Value} (h : Cx w wr V x u0 u3) (hb : Below V.heap.size V V') : Cx w wr V' x u0 u3 :=
  ⟨h.b.trans (hb.mono h.b.size), Nat.lt_of_lt_of_le h.lt hb.size, h.c.below hb h.lt⟩

theorem Cq.box {w V V' : World} {ao : Option Addr} {cap : Nat} {ps : List Bk} {k : Nat} {v : Value} {ls : List Pl} (h : Cq w V ao cap ps k v ls) (hg : V.grownBy V' v.ownBlock) : At V' (w.heap.size + 1 + 1) #[v] :=
  h.o.below ((Below.refl _ _).grown hg h.z fun b hb => (h.row.lt b hb).1) (by omega)

set_option maxHeartbeats 4000000 in
theorem copiedProgram_any (ao : Option Addr) (cap : Nat) (ps : List Bk) (w : World) (h : PAt w ao ps) (hs : Small ps) :
    Calls Tryd.prog 10 #[.agg #[.slice ao ps.length cap]] w fun e w' => ∃ a c, e = .returned (.agg #[.slice a ps.length c]) ∧ PAt w' a ps ∧ Below w.heap.size w w' := by
  obtain ⟨i0, hi, hi2⟩ := Option.map_eq_some_iff.1 info47
  simp only [Prod.mk.injEq] at hi2
  obtain ⟨hz0, hz1, hz2⟩ := hi2
  have HI : Hid (Tryd.prog.info? 47 = some i0 ∧ i0.zero = some (.agg #[.slice none 0 0, .int .i8 0, .int .u8 0, .slice none 0 0, .int .i64 0, .int .i64 0]) ∧ i0.size = 6 ∧ i0.bytes = 72) := ⟨hi, hz0, hz1, hz2⟩
  clear hi hz0 hz1 hz2
  have hn := hs.n
  have HS : Hid (Small ps) := hs
  have HP : Hid (PAt w ao ps) := h
  clear h hs
  have HQ : Hid (Cq w (((w.alloc (.cells #[.slice ao ps.length cap] 24)).alloc (.cells #[.slice none 0 0] 24)).alloc (.cells #[.slice none 0 0] 24)) ao cap ps 0 (.slice none 0 0) []) := Cq.start w ao cap ps 24 24 24
  go_enter Tryd.func10, Tryd.ntmps10
  go_wp2
  generalize (((w.alloc (.cells #[.slice ao ps.length cap] 24)).alloc (.cells #[.slice none 0 0] 24)).alloc (.cells #[.slice none 0 0] 24)) = V at *
  go_loopw [4] (fun i wr => ∃ (k : Nat) (v : Value) (ls : List Pl), k ≤ ps.length ∧ i = .int .i64 k ∧ Cq w wr ao cap ps k v ls) (fun i _ => ps.length - (intOf i).toNat)
  case atStart => exact ⟨0, _, [], by omega, rfl, HQ.out⟩
  case round =>
    rename World => wr
    obtain ⟨k, v, ls, hk, rfl, hq⟩ := hrel
    clear HQ
    have HQ : Hid (Cq w wr ao cap ps k v ls) := hq
    have cp := hq.p.c 0 _ rfl
    have zz := hq.z
    by_cases hlt : k < ps.length
    · obtain ⟨b, f, rfl, hz, hx⟩ := HP.out.is (by omega)
      obtain ⟨⟨oa, oc, ba, bc⟩, hp, h5⟩ := hx k hlt
      obtain ⟨c0, c1, c2, c3, c4, c5⟩ := hp.below hq.b hz
      simp only at c0 c3
      obtain ⟨-, -, -, s4, s5⟩ := HS.out.l ps[k] (List.getElem_mem hlt)
      have HO : Hid (∀ w1, Below w.heap.size w w1 → Calls Tryd.prog 23 #[.slice oa ps[k].ops.length oc] w1 fun e w' => ∃ a c, e = .returned (.slice a ps[k].ops.length c) ∧ w'.ownsRow w1.heap.size 51 5 (.slice a ps[k].ops.length c) ps[k].ops.length (ocells ps[k].ops) ∧ Below w1.heap.size w1 w') := fun w1 hb => copiedOps_any _ _ _ _ (h5.o.below hb) s4
      have HY : Hid (∀ w1, Below w.heap.size w w1 → Calls Tryd.prog 23 #[.slice ba ps[k].body.length bc] w1 fun e w' => ∃ a c, e = .returned (.slice a ps[k].body.length c) ∧ w'.ownsRow w1.heap.size 51 5 (.slice a ps[k].body.length c) ps[k].body.length (ocells ps[k].body) ∧ Below w1.heap.size w1 w') := fun w1 hb => copiedOps_any _ _ _ _ (h5.b.below hb) s5
      clear hx hp h5 HP hq s4 s5
      have HXK : Hid (∀ {V' : World} {v' : Value} {V : World} {pl : Pl}, Cq w V (some ⟨b, f, none⟩) cap ps k v ls → LRow V (w.heap.size + 3) pl.oa pl.oc ps[k].ops → LRow V (w.heap.size + 3) pl.ba pl.bc ps[k].body → V.grownBy V' v.ownBlock → V'.ownsRow (w.heap.size + 3) 47 6 v' (k + 1) (bcells (ps.take k) ls ++ [.slice pl.oa ps[k].ops.length pl.oc, .int .i8 ps[k].fin, .int .u8 ps[k].a, .slice pl.ba ps[k].body.length pl.bc, .int .i64 ps[k].thn, .int .i64 ps[k].els]) → Cq w (V'.setCell ⟨w.heap.size + 1 + 1, 0, none⟩ v') (some ⟨b, f, none⟩) cap ps (k + 1) v' (ls ++ [pl])) := fun h1 h2 h3 h4 h5 => h1.put hlt h2 h3 h4 h5
      generalize ps[k] = x at *
      go_wp2_with (first
        | (go_at_call 23; refine Calls.mono (HO.out _ (HQ.out.b.alloc HQ.out.b.size _)) ?_; rintro e w2 ⟨a1, d1, rfl, hr1, hb⟩; have HX : Hid (Cx w wr w2 x (.slice oa x.ops.length oc) (.slice ba x.body.length bc)) := Cx.start hb; have HR1 : Hid (LRow w2 (wr.heap.size + 1) a1 d1 x.ops) := (by rw [show wr.heap.size + 1 = (wr.alloc (.cells #[.slice oa x.ops.length oc, .int .i8 x.fin, .int .u8 x.a, .slice ba x.body.length bc, .int .i64 x.thn, .int .i64 x.els] 47)).heap.size by simp]; exact hr1); clear hb hr1 HO c0 c1 c2 c3 c4 c5 cp; obtain ⟨c0, c1, c2, c3, c4, c5⟩ := HX.out.c.b6; obtain ⟨f0, f3⟩ := HX.out.c.f6; have zx := HX.out.lt; have g3 := (HX.out.set0 (.slice a1 x.ops.length d1)).c.c 3 _ rfl)
        | (go_at_call 23; refine Calls.mono (HY.out _ (HQ.out.b.trans ((HX.out.set0 (.slice a1 x.ops.length d1)).b.mono HQ.out.b.size))) ?_; rintro e w3 ⟨a2, d2, rfl, hr2, hb⟩; have HX3 : Hid (Cx w wr w3 x (.slice a1 x.ops.length d1) (.slice ba x.body.length bc)) := (HX.out.set0 _).go hb; have HR1' : Hid (LRow w3 (wr.heap.size + 1) a1 d1 x.ops) := row_below (row_set HR1.out (Nat.lt_succ_self _) _) hb; have HR2 : Hid (LRow w3 (wr.heap.size + 1) a2 d2 x.body) := row_le hr2 (by rw [World.size_setCell]; exact zx); clear hb hr2 HY HX HR1 c0 c1 c2 c3 c4 c5 f0 f3 zx g3; have k3 := HX3.out.c.c 3 _ rfl; have l3 := HX3.out.c.f 3; have zx := HX3.out.lt; have HX4 : Hid (Cx w wr (w3.setCell ⟨wr.heap.size, 3, none⟩ (.slice a2 x.body.length d2)) x (.slice a1 x.ops.length d1) (.slice a2 x.body.length d2)) := HX3.out.set3 _; have HQ4 : Hid (Cq w (w3.setCell ⟨wr.heap.size, 3, none⟩ (.slice a2 x.body.length d2)) (some ⟨b, f, none⟩) cap ps k v ls) := HQ.out.go HX4.out.b; obtain ⟨c0, c1, c2, c3, c4, c5⟩ := HX4.out.c.b6; have co := HQ4.out.o.c 0 _ rfl)
        | (at_builtin; refine wpList_append_lies _ rfl (.tmp 27) (.tmp 29) 22 rfl (w.heap.size + 3) 47 i0 (.agg #[.slice none 0 0, .int .i8 0, .int .u8 0, .slice none 0 0, .int .i64 0, .int .i64 0]) 6 72 Tryd.underlying22 HI.out.1 HI.out.2.1 HI.out.2.2.1 HI.out.2.2.2 rfl (by decide) _ _ _ rfl (HQ4.out.row.alloc _) ⟨w3.heap.size, 0, none⟩ 1 1 [.slice a1 x.ops.length d1, .int .i8 x.fin, .int .u8 x.a, .slice a2 x.body.length d2, .int .i64 x.thn, .int .i64 x.els] rfl rfl (by have hh := heap_alloc_new (w3.setCell ⟨wr.heap.size, 3, none⟩ (.slice a2 x.body.length d2)) (Obj.cells #[.slice a1 x.ops.length d1, .int .i8 x.fin, .int .u8 x.a, .slice a2 x.body.length d2, .int .i64 x.thn, .int .i64 x.els] 47); rw [World.size_setCell] at hh; exact World.news_of_block hh) (by simp [Value.oneCell']) (by decide) (by unfold maxLen; omega) (by omega) (by simp; omega) (w3.heap.size + 1) (by simp) ?_; intro g cap4 w4 hown4 hgrow4 hat4 hlt4; have HQ5 : Hid (Cq w ((w3.setCell ⟨wr.heap.size, 3, none⟩ (.slice a2 x.body.length d2)).alloc (Obj.cells #[.slice a1 x.ops.length d1, .int .i8 x.fin, .int .u8 x.a, .slice a2 x.body.length d2, .int .i64 x.thn, .int .i64 x.els] 47)) (some ⟨b, f, none⟩) cap ps k v ls) := HQ4.out.go ((Below.refl _ _).alloc (Nat.le_refl _) _); have hbx := HQ5.out.box hgrow4; have co4 := hbx.c 0 _ rfl; have fo4 := hbx.f 0; have zo4 := hbx.lt; have HF : Hid (Cq w (w4.setCell ⟨w.heap.size + 1 + 1, 0, none⟩ (.slice (some ⟨g, 0, none⟩) (k + 1) cap4)) (some ⟨b, f, none⟩) cap ps (k + 1) (.slice (some ⟨g, 0, none⟩) (k + 1) cap4) (ls ++ [⟨a1, d1, a2, d2⟩])) := HXK.out (pl := ⟨a1, d1, a2, d2⟩) HQ5.out (row_le ((row_set HR1'.out (Nat.lt_succ_self _) _).alloc _) (by omega)) (row_le ((row_set HR2.out (Nat.lt_succ_self _) _).alloc _) (by omega)) hgrow4 hown4; clear hown4 hgrow4 hat4 hlt4 hbx c0 c1 c2 c3 c4 c5 co HQ4 HQ5))
      go_roundw
      case rel => exact ⟨k + 1, _, _, by omega, by go_num, HF.out⟩
      case measure => simp [intOf]; omega
    · obtain rfl : k = ps.length := by omega
      obtain ⟨a, c, e0, hpa⟩ := HQ.out.done HS.out v
      have HA : Hid (PAt (wr.setCell ⟨w.heap.size + 1, 0, none⟩ v) a ps) := hpa
      subst e0
      have co := hq.o.c 0 _ rfl
      have r0 := hq.r.c 0 _ rfl
      have rf := hq.r.f 0
      have rz := hq.r.lt
      clear hq hpa HP
      go_wp2
      refine bodyPost_ret (v := .agg #[.slice a ps.length c]) (by simp [results, Tryd.results10, go_sem, r0]) rfl ⟨a, c, rfl, HA.out, HQ.out.b.setCell (by show w.heap.size ≤ w.heap.size + 1; omega) _⟩
end Go.Proofs.YtlinekpaffgcjaaDoor.Op

namespace Go.Proofs.YtlinekpaffgcjaaDoor.Op
open Go.ChangeShapes Go.WideShapes Go.ChangeAt Go.RowKit
set_option maxRecDepth 20000

set_option maxHeartbeats 1000000 in
theorem likeOps_any (ao bo : Option Addr) (c d : Nat) (xs : List O) (w : World) (h : OpsAt w ao xs) (h' : OpsAt w bo xs) :
    Calls Tryd.prog 33 #[.slice ao xs.length c, .slice bo xs.length d] w fun e w' => e = .returned (.bool true) ∧ Below w.heap.size w w' := by
  have HA : Hid (OpsAt w ao xs) := h
  have HB : Hid (OpsAt w bo xs) := h'
  have hlen := h.len
  clear h h'
  go_enter Tryd.func33, Tryd.ntmps33
  go_wp2
  go_loopw [5] (fun i wr => ∃ k : Nat, k ≤ xs.length ∧ i = .int .i64 k ∧ Below w.heap.size w wr) (fun i _ => xs.length - (intOf i).toNat)
  case atStart => exact ⟨0, by omega, rfl, Below.refl _ _⟩
  case round =>
    rename World => wr
    obtain ⟨k, hk, rfl, hbw⟩ := hrel
    by_cases hlt : k < xs.length
    · obtain ⟨b, f, rfl, hz, hx⟩ := HA.out.is (by omega)
      obtain ⟨b', f', rfl, hz', hx'⟩ := HB.out.is (by omega)
      obtain ⟨c0, c1, c2, c3, c4⟩ := (hx k hlt).below hbw hz
      obtain ⟨d0, d1, d2, d3, d4⟩ := (hx' k hlt).below hbw hz'
      clear hx hx' HA HB
      generalize xs[k] = o at *
      go_wp2
      go_quiet (fail)
      go_wp2
      go_roundw
      case rel => exact ⟨k + 1, by omega, by go_num, drewN_below hbw nq⟩
      case measure => simp [intOf]; omega
    · obtain rfl : k = xs.length := by omega
      go_wp2
      go_ret
      exact ⟨rfl, hbw⟩
/-- Two programs' boxes. -/
structure Lw (w V : World) (u v : Value) : Prop where
  b : Below w.heap.size w V
  p : At V w.heap.size #[u]
  q : At V (w.heap.size + 1) #[v]
theorem Lw.go {w V V' : World} {u v : Value} (h : Lw w V u v) (hb : Below V.heap.size V V') : Lw w V' u v :=
  ⟨h.b.trans (hb.mono h.b.size), h.p.below hb h.p.lt, h.q.below hb h.q.lt⟩
theorem Lw.start (w : World) (u v : Value) (t t' : TypeId) : Lw w ((w.alloc (.cells #[u] t)).alloc (.cells #[v] t')) u v := by
  obtain ⟨a1, a2, b, _, _⟩ := two_new w #[u] #[v] t t' (Below.refl _ _)
  exact ⟨b, a1, a2⟩
set_option maxHeartbeats 4000000 in
theorem likeProgram_any (ao bo : Option Addr) (c d : Nat) (ps : List Bk) (w : World) (h : PAt w ao ps) (h' : PAt w bo ps) :
    Calls Tryd.prog 18 #[.agg #[.slice ao ps.length c], .agg #[.slice bo ps.length d]] w fun e w' => e = .returned (.bool true) ∧ Below w.heap.size w w' := by
  have HA : Hid (PAt w ao ps) := h
  have HB : Hid (PAt w bo ps) := h'
  have hlen := h.len
  clear h h'
  have HS : Hid (Lw w ((w.alloc (.cells #[.slice ao ps.length c] 24)).alloc (.cells #[.slice bo ps.length d] 24)) (.slice ao ps.length c) (.slice bo ps.length d)) := Lw.start _ _ _ _ _
  go_enter Tryd.func18, Tryd.ntmps18
  go_wp2
  generalize ((w.alloc (.cells #[.slice ao ps.length c] 24)).alloc (.cells #[.slice bo ps.length d] 24)) = V at *
  go_loopw [5] (fun i wr => ∃ k : Nat, k ≤ ps.length ∧ i = .int .i64 k ∧ Lw w wr (.slice ao ps.length c) (.slice bo ps.length d)) (fun i _ => ps.length - (intOf i).toNat)
  case atStart => exact ⟨0, by omega, rfl, HS.out⟩
  case round =>
    rename World => wr
    obtain ⟨k, hk, rfl, hw⟩ := hrel
    have HW : Hid (Lw w wr (.slice ao ps.length c) (.slice bo ps.length d)) := hw
    have cp := hw.p.c 0 _ rfl
    clear HS
    by_cases hlt : k < ps.length
    · obtain ⟨b, f, rfl, hz, hx⟩ := HA.out.is (by omega)
      obtain ⟨b', f', rfl, hz', hx'⟩ := HB.out.is (by omega)
      obtain ⟨⟨oa, oc, ba, bc⟩, g1, g2⟩ := hx k hlt
      obtain ⟨⟨oa', oc', ba', bc'⟩, g1', g2'⟩ := hx' k hlt
      have zw := hw.b.size
      generalize ps[k] = x at *
      have hb1 : Below wr.heap.size wr (wr.alloc (.cells #[.slice oa x.ops.length oc, .int .i8 x.fin, .int .u8 x.a, .slice ba x.body.length bc, .int .i64 x.thn, .int .i64 x.els] 47)) := (Below.refl _ _).alloc (Nat.le_refl _) _
      obtain ⟨c0, c1, c2, c3, c4, c5⟩ := g1.below hw.b hz
      obtain ⟨d0, d1, d2, d3, d4, d5⟩ := (g1'.below hw.b hz').below hb1 (Nat.lt_of_lt_of_le hz' zw)
      have cq := (hw.q.below hb1 hw.q.lt).c 0 _ rfl
      simp only at c0 c3 d0 d3
      have HO : Hid (∀ w1, Below w.heap.size w w1 → Calls Tryd.prog 33 #[.slice oa x.ops.length oc, .slice oa' x.ops.length oc'] w1 fun e w' => e = .returned (.bool true) ∧ Below w1.heap.size w1 w') := fun w1 hb => likeOps_any _ _ _ _ _ _ (g2.o.below hb) (g2'.o.below hb)
      have HY : Hid (∀ w1, Below w.heap.size w w1 → Calls Tryd.prog 33 #[.slice ba x.body.length bc, .slice ba' x.body.length bc'] w1 fun e w' => e = .returned (.bool true) ∧ Below w1.heap.size w1 w') := fun w1 hb => likeOps_any _ _ _ _ _ _ (g2.b.below hb) (g2'.b.below hb)
      clear hx hx' g1 g2 g1' g2' hw hb1 HA HB
      go_wp2_with (first
        | (go_at_call 33; refine Calls.mono (HO.out _ ((HW.out.b.alloc HW.out.b.size _).alloc (by have := HW.out.b.size; simp; omega) _)) ?_; rintro e w2 ⟨rfl, hb⟩; obtain ⟨a1, a2, hb0, -, -⟩ := two_new wr _ _ _ _ hb; have HW2 : Hid (Lw w w2 (.slice (some ⟨b, f, none⟩) ps.length c) (.slice (some ⟨b', f', none⟩) ps.length d)) := HW.out.go hb0; clear hb hb0 HO c0 c1 c2 c3 c4 c5 d0 d1 d2 d3 d4 d5 cp cq; have e3 := a1.c 3 _ rfl; have e3' := a2.c 3 _ rfl; clear a1 a2)
        | (go_at_call 33; refine Calls.mono (HY.out _ HW2.out.b) ?_; rintro e w3 ⟨rfl, hb⟩; have HW3 : Hid (Lw w w3 (.slice (some ⟨b, f, none⟩) ps.length c) (.slice (some ⟨b', f', none⟩) ps.length d)) := HW2.out.go hb; clear hb HY))
      go_roundw
      case rel => exact ⟨k + 1, by omega, by go_num, HW3.out⟩
      case measure => simp [intOf]; omega
    · obtain rfl : k = ps.length := by omega
      clear hw
      go_wp2
      go_ret
      exact ⟨rfl, HW.out.b⟩
end Go.Proofs.YtlinekpaffgcjaaDoor.Op

namespace Go.Proofs.YtlinekpaffgcjaaDoor.Li
open Go.ChangeShapes Go.WideShapes Go.ChangeAt Go.RowKit
open _root_.Go.Proofs.YtlinekpaffgcjaaDoor.So _root_.Go.Proofs.YtlinekpaffgcjaaDoor.Op _root_.Go.Proofs.YtlinekpaffgcjaaDoor.Fl _root_.Go.Proofs.YtlinekpaffgcjaaDoor.Lv
set_option maxRecDepth 20000

set_option maxHeartbeats 1000000 in
theorem tells_wake (ao : Option Addr) (cap : Nat) (ps : List Bk) (block op : Int) (w : World) (h : PAt w ao ps) (he : Env w) (hn : greatB ps = true ∨ greatB ps = false ∧ ckP ps = 0 ∧ 300 < opsN ps) :
    Calls Tryd.prog 3 #[.agg #[.slice ao ps.length cap], .int .i64 block, .int .i64 op] w fun e w' => e = .returned (.bool true) ∧ Below w.heap.size w w' := by
  have HQ : Hid (Bw w (w.alloc (.cells #[.slice ao ps.length cap] 24)) ao cap ps) := Bw.new w ao cap ps
  have HK : Hid (∀ W, Bw w W ao cap ps → Calls Tryd.prog 9 #[] W fun e w' => e = .returned (.bool true) ∧ Below W.heap.size W w') := fun W hb => wakes_any W (he.up hb.b)
  have HG0 := fun W (hb : Bw w W ao cap ps) => great_any ao cap ps W (h.below hb.b)
  rcases hn with hg | ⟨hg, hc, ho⟩
  · rw [hg] at HG0
    have HG : Hid _ := HG0
    clear h he hg HG0
    go_enter Tryd.func3, Tryd.ntmps3
    go_wp2_with (first
      | (go_at_call 6; refine Calls.mono (HG.out _ HQ.out) ?_; rintro e w1 ⟨rfl, hb⟩; have H1 : Hid _ := HQ.out.up hb; clear hb HQ HG)
      | (go_at_call 9; refine Calls.mono (HK.out _ H1.out) ?_; rintro e w3 ⟨rfl, hb⟩; have H3 : Hid _ := H1.out.up hb; clear hb H1 HK))
    go_ret
    exact ⟨rfl, H3.out.b⟩
  · rw [hg] at HG0
    have HG : Hid _ := HG0
    have HC : Hid (∀ W, Bw w W ao cap ps → Calls Tryd.prog 7 #[.agg #[.slice ao ps.length cap]] W fun e w' => e = .returned (.int .i64 0) ∧ Below W.heap.size W w') := fun W hb => by
      have := checkP_any ao cap ps W (h.below hb.b) (he.up hb.b)
      rw [hc] at this; exact this
    have HO : Hid (∀ W, Bw w W ao cap ps → Calls Tryd.prog 8 #[.agg #[.slice ao ps.length cap]] W fun e w' => e = .returned (.int .i64 ((opsN ps : Nat) : Int)) ∧ Below W.heap.size W w') := fun W hb => ops_any ao cap ps W (h.below hb.b) (len_le hc)
    have ho' : (300 : Int) < ((opsN ps : Nat) : Int) := by omega
    generalize opsN ps = on at *
    clear h he hg HG0 hc ho
    go_enter Tryd.func3, Tryd.ntmps3
    go_wp2_with (first
      | (go_at_call 6; refine Calls.mono (HG.out _ HQ.out) ?_; rintro e w1 ⟨rfl, hb⟩; have H1 : Hid _ := HQ.out.up hb; have cb := H1.out.cell; clear hb HQ HG)
      | (go_at_call 7; refine Calls.mono (HC.out _ H1.out) ?_; rintro e w2 ⟨rfl, hb⟩; have H2 : Hid _ := H1.out.up hb; have cb2 := H2.out.cell; clear hb H1 HC cb)
      | (go_at_call 8; refine Calls.mono (HO.out _ H2.out) ?_; rintro e w4 ⟨rfl, hb⟩; have H4 : Hid _ := H2.out.up hb; clear hb H2 HO cb2)
      | (go_at_call 9; refine Calls.mono (HK.out _ H4.out) ?_; rintro e w3 ⟨rfl, hb⟩; have H3 : Hid _ := H4.out.up hb; clear hb H4 HK))
    go_ret
    exact ⟨rfl, H3.out.b⟩
/-- Two programs and their boxes. -/
structure Wz (w V : World) (ao a : Option Addr) (cap c q : Nat) (ps : List Bk) : Prop where
  x : Bw w V ao cap ps
  m : Op.At V q #[.slice a ps.length c]
  p : PAt V a ps
theorem Wz.up {w V V' : World} {ao a : Option Addr} {cap c q : Nat} {ps : List Bk} (h : Wz w V ao a cap c q ps) (hb : Below V.heap.size V V') : Wz w V' ao a cap c q ps := ⟨h.x.up hb, h.m.below hb h.m.lt, h.p.below hb⟩
theorem Wz.s {w V : World} {ao a : Option Addr} {cap c q : Nat} {ps : List Bk} (h : Wz w V ao a cap c q ps) : V.cell? ⟨w.heap.size, 0, none⟩ = some (.slice ao ps.length cap) ∧ V.cell? ⟨q, 0, none⟩ = some (.slice a ps.length c) := ⟨h.x.cell, h.m.c 0 _ rfl⟩
set_option maxHeartbeats 16000000 in
theorem tells_main (ao : Option Addr) (cap : Nat) (ps : List Bk) (block op : Int) (w : World) (h : PAt w ao ps) (he : Env w) (hg : greatB ps = false) (ho : ckP ps = 0 → opsN ps ≤ 300) :
    Calls Tryd.prog 3 #[.agg #[.slice ao ps.length cap], .int .i64 block, .int .i64 op] w fun e w' => e = .returned (.bool true) ∧ Below w.heap.size w w' := by
  have HQ : Hid (Bw w (w.alloc (.cells #[.slice ao ps.length cap] 24)) ao cap ps) := Bw.new w ao cap ps
  have HG0 := fun W (hb : Bw w W ao cap ps) => great_any ao cap ps W (h.below hb.b)
  rw [hg] at HG0
  have HG : Hid _ := HG0
  have HCp : Hid (∀ W, Bw w W ao cap ps → Calls Tryd.prog 10 #[.agg #[.slice ao ps.length cap]] W fun e w' => ∃ a c, e = .returned (.agg #[.slice a ps.length c]) ∧ PAt w' a ps ∧ Below W.heap.size W w') := fun W hb => copiedProgram_any ao cap ps W (h.below hb.b) (Op.small_of h hg)
  have HCk : Hid (∀ W, Bw w W ao cap ps → Calls Tryd.prog 7 #[.agg #[.slice ao ps.length cap]] W fun e w' => e = .returned (.int .i64 (ckP ps)) ∧ Below W.heap.size W w') := fun W hb => checkP_any ao cap ps W (h.below hb.b) (he.up hb.b)
  have HO : Hid (∀ W, ckP ps = 0 → Bw w W ao cap ps → Calls Tryd.prog 8 #[.agg #[.slice ao ps.length cap]] W fun e w' => e = .returned (.int .i64 ((opsN ps : Nat) : Int)) ∧ Below W.heap.size W w') := fun W hc hb => ops_any ao cap ps W (h.below hb.b) (len_le hc)
  have hIn := fun W (hb : Below w.heap.size w W) => in_is ao cap ps W (h.below hb) (he.up hb)
  have HS : Hid (∀ (xs : List Nat) a b c d W, Ul W a xs → Ul W b xs → xs.length ≤ 128 → Calls Tryd.prog 11 #[.slice a xs.length c, .slice b xs.length d] W fun e w' => e = .returned (.bool true) ∧ Below W.heap.size W w') := fun xs a b c d W h1 h2 h3 => same_any a b c d xs W h1 h2 h3
  have H12 : Hid (∀ {am : Option Addr} {cm q : Nat} W, Wz w W ao am cap cm q ps → Calls Tryd.prog 12 #[.agg #[.slice am ps.length cm]] W fun e w' => ∃ a c, e = .returned (.slice a (inL ps).length c) ∧ (Ul w' a (inL ps) ∧ IsIn ps (inL ps)) ∧ Below W.heap.size W w') := fun {am cm q} W hU => (in_is am cm ps W hU.p (he.up hU.x.b)).mono fun e w' ⟨a, c, h1, h2, h3, h4⟩ => ⟨a, c, h1, ⟨h2, h3⟩, h4⟩
  have H13 : Hid (∀ {am : Option Addr} {cm q : Nat} W, Wz w W ao am cap cm q ps → Calls Tryd.prog 13 #[.agg #[.slice ao ps.length cap]] W fun e w' => ∃ a c, e = .returned (.slice a (inL ps).length c) ∧ Ul w' a (inL ps) ∧ Below W.heap.size W w') := fun {am cm q} W hU => (refIn_is ao cap ps W (h.below hU.x.b)).mono fun e w' ⟨a, c, h1, h2, h3, h4⟩ => ⟨a, c, h1, h2, h4⟩
  have H14 : Hid (∀ {am : Option Addr} {cm q : Nat} W, Wz w W ao am cap cm q ps → Calls Tryd.prog 14 #[.agg #[.slice am ps.length cm]] W fun e w' => ∃ a c, e = .returned (.slice a (outL ps (inL ps)).length c) ∧ Ul w' a (outL ps (inL ps)) ∧ Below W.heap.size W w') := fun {am cm q} W hU => (out_is am cm ps W hU.p (he.up hU.x.b)).mono fun e w' ⟨a, c, h1, h2, h3, h4⟩ => ⟨a, c, h1, h2, h4⟩
  have H15 : Hid (∀ {am : Option Addr} {cm q : Nat} W, Wz w W ao am cap cm q ps → Calls Tryd.prog 15 #[.agg #[.slice ao ps.length cap]] W fun e w' => ∃ a c, e = .returned (.slice a (outL ps (inL ps)).length c) ∧ Ul w' a (outL ps (inL ps)) ∧ Below W.heap.size W w') := fun {am cm q} W hU => (refOut_is ao cap ps W (h.below hU.x.b)).mono fun e w' ⟨a, c, h1, h2, h3, h4⟩ => ⟨a, c, h1, h2, h4⟩
  have H16 : Hid (∀ {am : Option Addr} {cm q : Nat} W, IsIn ps (inL ps) → Wz w W ao am cap cm q ps → Calls Tryd.prog 16 #[.agg #[.slice am ps.length cm], .int .i64 block, .int .i64 op] W fun e w' => e = .returned (.int .u32 ((atN ps (inL ps) block op : Nat) : Int)) ∧ Below W.heap.size W w') := fun {am cm q} W hI hU => at_is am cm ps block op W hU.p (he.up hU.x.b) hI
  have H17 : Hid (∀ {am : Option Addr} {cm q : Nat} W, Wz w W ao am cap cm q ps → Calls Tryd.prog 17 #[.agg #[.slice ao ps.length cap], .int .i64 block, .int .i64 op] W fun e w' => e = .returned (.int .u32 ((atN ps (inL ps) block op : Nat) : Int)) ∧ Below W.heap.size W w') := fun {am cm q} W hU => refAt_is ao cap ps block op W (h.below hU.x.b)
  have H18 : Hid (∀ {am : Option Addr} {cm q : Nat} W, Wz w W ao am cap cm q ps → Calls Tryd.prog 18 #[.agg #[.slice am ps.length cm], .agg #[.slice ao ps.length cap]] W fun e w' => e = .returned (.bool true) ∧ Below W.heap.size W w') := fun {am cm q} W hU => likeProgram_any am ao cm cap ps W hU.p (h.below hU.x.b)
  have H9 : Hid (∀ {am : Option Addr} {cm q : Nat} W, Wz w W ao am cap cm q ps → Calls Tryd.prog 9 #[] W fun e w' => e = .returned (.bool true) ∧ Below W.heap.size W w') := fun {am cm q} W hU => wakes_any W (he.up hU.x.b)
  have HL : Hid (IsIn ps (inL ps) → (inL ps).length ≤ 128 ∧ (outL ps (inL ps)).length ≤ 128) := fun hI => by
    by_cases hc : ckP ps = 0
    · have := hI.len
      have h2 := (good_of hc).le
      rw [if_pos hc] at this
      refine ⟨by omega, ?_⟩
      unfold outL; rw [if_pos hc]; simp; omega
    · have := hI.len
      rw [if_neg hc] at this
      refine ⟨by omega, ?_⟩
      unfold outL; rw [if_neg hc]; simp
  generalize hIs : IsIn ps (inL ps) = IS at *
  generalize atN ps (inL ps) block op = va at *
  generalize outL ps (inL ps) = os at *
  generalize inL ps = xs at *
  clear h he hg HG0 hIn hIs
  by_cases hc : ckP ps = 0
  · have hoz : ¬ (300 : Int) < ((opsN ps : Nat) : Int) := by have := ho hc; omega
    have HC : Hid (∀ W, Bw w W ao cap ps → Calls Tryd.prog 7 #[.agg #[.slice ao ps.length cap]] W fun e w' => e = .returned (.int .i64 0) ∧ Below W.heap.size W w') := by rw [hc] at HCk; exact HCk
    clear HCk ho
    generalize opsN ps = on at *
    go_enter Tryd.func3, Tryd.ntmps3
    go_wp2_with (first
      | (go_at_call 6; refine Calls.mono (HG.out _ HQ.out) ?_; rintro e w1 ⟨rfl, hb⟩; have H1 : Hid _ := HQ.out.up hb; have cb := H1.out.cell; clear hb HQ HG)
      | (go_at_call 7; refine Calls.mono (HC.out _ H1.out) ?_; rintro e w2 ⟨rfl, hb⟩; have H2 : Hid _ := H1.out.up hb; have cb2 := H2.out.cell; clear hb H1 HC cb)
      | (go_at_call 8; refine Calls.mono (HO.out _ hc H2.out) ?_; rintro e w4 ⟨rfl, hb⟩; have H4 : Hid (Bw w w4 ao cap ps) := H2.out.up hb; have cb4 := H4.out.cell; clear hb H2 HO cb2)
      | (go_at_call 10; refine Calls.mono (HCp.out _ H4.out) ?_; rintro e w5 ⟨am, cm, rfl, hp, hb⟩; have HU : Hid (Wz w ((w5.alloc (.cells #[.slice am ps.length cm] 24)).drew) ao am cap cm w5.heap.size ps) := (Wz.up ⟨(H4.out.up hb).up (below_al _), Op.At.new _ _ _, hp.below (below_al _)⟩ ⟨rfl, rfl, rfl, Nat.le_refl _, fun _ _ => rfl⟩); clear hb hp H4 HCp cb4))
    generalize w5.heap.size = q at *
    refine wp_region_held_drew (S := fun w' => w'.cell? ⟨w.heap.size, 0, none⟩ = some (.slice ao ps.length cap) ∧ w'.cell? ⟨q, 0, none⟩ = some (.slice am ps.length cm)) (by kernel_rfl) HU.out.s (fun hHeld => ?_)
    refine wpAnyH_take (i := 0) (v := .agg #[.slice am ps.length cm]) rfl (by kernel_rfl) (by kernel_rfl) (by kernel_rfl) (fun _ _ _ h => h) (Or.inl ⟨by rfl, fun w' hSw => by (dsimp only at hSw; obtain ⟨s0, s1⟩ := hSw; go_simp)⟩) hHeld ?_
    simp only [Act.put, List.setIfInBounds_toArray, List.set_cons_zero, List.set_cons_succ, List.getElem_cons_zero, List.getElem_toArray]
    refine wpAnyH_take (i := 2) (v := .agg #[.slice ao ps.length cap]) rfl (by kernel_rfl) (by kernel_rfl) (by kernel_rfl) (fun _ _ _ h => h) (Or.inl ⟨by rfl, fun w' hSw => by (dsimp only at hSw; obtain ⟨s0, s1⟩ := hSw; go_simp)⟩) hHeld ?_
    simp only [Act.put, List.setIfInBounds_toArray, List.set_cons_zero, List.set_cons_succ, List.getElem_cons_zero, List.getElem_cons_succ, List.getElem_toArray]
    refine wpAnyH_ready (rs := [1]) (by kernel_rfl) (by simp) ?_
    refine AllReadyH.cons rfl (fun K hK => ?_) AllReadyH.nil
    go_simp
    refine Calls.mono (H12.out _ HU.out) ?_
    rintro e wa ⟨a1, c1, rfl, ⟨hI, hIS⟩, hb⟩
    have HIS : Hid IS := hIS
    have Ia1 : Hid (Ul wa a1 xs) := hI
    have HUn : Hid (Wz w wa ao am cap cm q ps) := HU.out.up hb
    clear HU
    have HU : Hid (Wz w wa ao am cap cm q ps) := HUn.out
    clear HUn
    clear hI hb hIS
    refine hK.out _ _ HU.out.s (fun hHeld => ?_)
    clear hK K
    refine wpAnyH_ready (rs := [3]) (by kernel_rfl) (by simp) ?_
    refine AllReadyH.cons rfl (fun K hK => ?_) AllReadyH.nil
    go_simp
    refine Calls.mono (H13.out _ HU.out) ?_
    rintro e wb ⟨a2, c2, rfl, hI, hb⟩
    have Ib1 : Hid (Ul wb a1 xs) := Ia1.out.below hb
    clear Ia1
    have Ia2 : Hid (Ul wb a2 xs) := hI
    have HUn : Hid (Wz w wb ao am cap cm q ps) := HU.out.up hb
    clear HU
    have HU : Hid (Wz w wb ao am cap cm q ps) := HUn.out
    clear HUn
    clear hI hb
    refine hK.out _ _ HU.out.s (fun hHeld => ?_)
    clear hK K
    refine wpAnyH_ready (rs := [4]) (by kernel_rfl) (by simp) ?_
    refine AllReadyH.cons rfl (fun K hK => ?_) AllReadyH.nil
    go_simp
    refine Calls.mono (HS.out _ _ _ _ _ _ Ib1.out Ia2.out (HL.out HIS.out).1) ?_
    rintro e wc ⟨rfl, hb⟩
    have HUn : Hid (Wz w wc ao am cap cm q ps) := HU.out.up hb
    clear HU
    have HU : Hid (Wz w wc ao am cap cm q ps) := HUn.out
    clear HUn
    clear hb
    refine hK.out _ _ HU.out.s (fun hHeld => ?_)
    clear hK K
    refine wpAnyH_take (i := 5) (v := .bool false) rfl (by kernel_rfl) (by kernel_rfl) (by kernel_rfl) (fun _ _ _ h => h) (Or.inl ⟨by rfl, fun w' hSw => by (dsimp only at hSw; obtain ⟨s0, s1⟩ := hSw; go_simp)⟩) hHeld ?_
    simp only [Act.put, List.setIfInBounds_toArray, List.set_cons_zero, List.set_cons_succ, List.getElem_cons_zero, List.getElem_cons_succ, List.getElem_toArray]
    refine wpAnyH_take (i := 6) (v := .bool false) rfl (by kernel_rfl) (by kernel_rfl) (by kernel_rfl) (fun _ _ _ h => h) (Or.inl ⟨by rfl, fun w' hSw => by (dsimp only at hSw; obtain ⟨s0, s1⟩ := hSw; go_simp)⟩) hHeld ?_
    simp only [Act.put, List.setIfInBounds_toArray, List.set_cons_zero, List.set_cons_succ, List.getElem_cons_zero, List.getElem_cons_succ, List.getElem_toArray]
    refine wpAnyH_take (i := 7) (v := .agg #[.slice am ps.length cm]) rfl (by kernel_rfl) (by kernel_rfl) (by kernel_rfl) (fun _ _ _ h => h) (Or.inl ⟨by rfl, fun w' hSw => by (dsimp only at hSw; obtain ⟨s0, s1⟩ := hSw; go_simp)⟩) hHeld ?_
    simp only [Act.put, List.setIfInBounds_toArray, List.set_cons_zero, List.set_cons_succ, List.getElem_cons_zero, List.getElem_cons_succ, List.getElem_toArray]
    refine wpAnyH_take (i := 9) (v := .agg #[.slice ao ps.length cap]) rfl (by kernel_rfl) (by kernel_rfl) (by kernel_rfl) (fun _ _ _ h => h) (Or.inl ⟨by rfl, fun w' hSw => by (dsimp only at hSw; obtain ⟨s0, s1⟩ := hSw; go_simp)⟩) hHeld ?_
    simp only [Act.put, List.setIfInBounds_toArray, List.set_cons_zero, List.set_cons_succ, List.getElem_cons_zero, List.getElem_cons_succ, List.getElem_toArray]
    refine wpAnyH_ready (rs := [8]) (by kernel_rfl) (by simp) ?_
    refine AllReadyH.cons rfl (fun K hK => ?_) AllReadyH.nil
    go_simp
    refine Calls.mono (H14.out _ HU.out) ?_
    rintro e wd ⟨a3, c3, rfl, hI, hb⟩
    have Ia3 : Hid (Ul wd a3 os) := hI
    have HUn : Hid (Wz w wd ao am cap cm q ps) := HU.out.up hb
    clear HU
    have HU : Hid (Wz w wd ao am cap cm q ps) := HUn.out
    clear HUn
    clear hI hb
    refine hK.out _ _ HU.out.s (fun hHeld => ?_)
    clear hK K
    refine wpAnyH_ready (rs := [10]) (by kernel_rfl) (by simp) ?_
    refine AllReadyH.cons rfl (fun K hK => ?_) AllReadyH.nil
    go_simp
    refine Calls.mono (H15.out _ HU.out) ?_
    rintro e we ⟨a4, c4, rfl, hI, hb⟩
    have Ib3 : Hid (Ul we a3 os) := Ia3.out.below hb
    clear Ia3
    have Ia4 : Hid (Ul we a4 os) := hI
    have HUn : Hid (Wz w we ao am cap cm q ps) := HU.out.up hb
    clear HU
    have HU : Hid (Wz w we ao am cap cm q ps) := HUn.out
    clear HUn
    clear hI hb
    refine hK.out _ _ HU.out.s (fun hHeld => ?_)
    clear hK K
    refine wpAnyH_ready (rs := [11]) (by kernel_rfl) (by simp) ?_
    refine AllReadyH.cons rfl (fun K hK => ?_) AllReadyH.nil
    go_simp
    refine Calls.mono (HS.out _ _ _ _ _ _ Ib3.out Ia4.out (HL.out HIS.out).2) ?_
    rintro e wf ⟨rfl, hb⟩
    have HUn : Hid (Wz w wf ao am cap cm q ps) := HU.out.up hb
    clear HU
    have HU : Hid (Wz w wf ao am cap cm q ps) := HUn.out
    clear HUn
    clear hb
    refine hK.out _ _ HU.out.s (fun hHeld => ?_)
    clear hK K
    refine wpAnyH_take (i := 12) (v := .bool false) rfl (by kernel_rfl) (by kernel_rfl) (by kernel_rfl) (fun _ _ _ h => h) (Or.inl ⟨by rfl, fun w' hSw => by (dsimp only at hSw; obtain ⟨s0, s1⟩ := hSw; go_simp)⟩) hHeld ?_
    simp only [Act.put, List.setIfInBounds_toArray, List.set_cons_zero, List.set_cons_succ, List.getElem_cons_zero, List.getElem_cons_succ, List.getElem_toArray]
    refine wpAnyH_take (i := 13) (v := .bool false) rfl (by kernel_rfl) (by kernel_rfl) (by kernel_rfl) (fun _ _ _ h => h) (Or.inl ⟨by rfl, fun w' hSw => by (dsimp only at hSw; obtain ⟨s0, s1⟩ := hSw; go_simp)⟩) hHeld ?_
    simp only [Act.put, List.setIfInBounds_toArray, List.set_cons_zero, List.set_cons_succ, List.getElem_cons_zero, List.getElem_cons_succ, List.getElem_toArray]
    refine wpAnyH_done (by kernel_rfl) ?_ _
    clear Ia2 Ib1 Ia4 Ib3
    have HUd : Hid (Wz w wf.drew ao am cap cm q ps) := HU.out.up ⟨rfl, rfl, rfl, Nat.le_refl _, fun _ _ => rfl⟩
    clear HU
    have HU : Hid (Wz w wf.drew ao am cap cm q ps) := HUd.out
    clear HUd
    go_wp2_with fail
    refine wp_region_held_drew (S := fun w' => w'.cell? ⟨w.heap.size, 0, none⟩ = some (.slice ao ps.length cap) ∧ w'.cell? ⟨q, 0, none⟩ = some (.slice am ps.length cm)) (by kernel_rfl) HU.out.s (fun hHeld => ?_)
    refine wpAnyH_take (i := 0) (v := .agg #[.slice am ps.length cm]) rfl (by kernel_rfl) (by kernel_rfl) (by kernel_rfl) (fun _ _ _ h => h) (Or.inl ⟨by rfl, fun w' hSw => by (dsimp only at hSw; obtain ⟨s0, s1⟩ := hSw; go_simp)⟩) hHeld ?_
    simp only [Act.put, List.setIfInBounds_toArray, List.set_cons_zero, List.set_cons_succ, List.getElem_cons_zero, List.getElem_toArray]
    refine wpAnyH_take (i := 1) (v := .int .i64 block) rfl (by kernel_rfl) (by kernel_rfl) (by kernel_rfl) (fun _ _ _ h => h) (Or.inl ⟨by rfl, fun w' hSw => by (dsimp only at hSw; obtain ⟨s0, s1⟩ := hSw; go_simp)⟩) hHeld ?_
    simp only [Act.put, List.setIfInBounds_toArray, List.set_cons_zero, List.set_cons_succ, List.getElem_cons_zero, List.getElem_cons_succ, List.getElem_toArray]
    refine wpAnyH_take (i := 2) (v := .int .i64 op) rfl (by kernel_rfl) (by kernel_rfl) (by kernel_rfl) (fun _ _ _ h => h) (Or.inl ⟨by rfl, fun w' hSw => by (dsimp only at hSw; obtain ⟨s0, s1⟩ := hSw; go_simp)⟩) hHeld ?_
    simp only [Act.put, List.setIfInBounds_toArray, List.set_cons_zero, List.set_cons_succ, List.getElem_cons_zero, List.getElem_cons_succ, List.getElem_toArray]
    refine wpAnyH_take (i := 4) (v := .agg #[.slice ao ps.length cap]) rfl (by kernel_rfl) (by kernel_rfl) (by kernel_rfl) (fun _ _ _ h => h) (Or.inl ⟨by rfl, fun w' hSw => by (dsimp only at hSw; obtain ⟨s0, s1⟩ := hSw; go_simp)⟩) hHeld ?_
    simp only [Act.put, List.setIfInBounds_toArray, List.set_cons_zero, List.set_cons_succ, List.getElem_cons_zero, List.getElem_cons_succ, List.getElem_toArray]
    refine wpAnyH_take (i := 5) (v := .int .i64 block) rfl (by kernel_rfl) (by kernel_rfl) (by kernel_rfl) (fun _ _ _ h => h) (Or.inl ⟨by rfl, fun w' hSw => by (dsimp only at hSw; obtain ⟨s0, s1⟩ := hSw; go_simp)⟩) hHeld ?_
    simp only [Act.put, List.setIfInBounds_toArray, List.set_cons_zero, List.set_cons_succ, List.getElem_cons_zero, List.getElem_cons_succ, List.getElem_toArray]
    refine wpAnyH_take (i := 6) (v := .int .i64 op) rfl (by kernel_rfl) (by kernel_rfl) (by kernel_rfl) (fun _ _ _ h => h) (Or.inl ⟨by rfl, fun w' hSw => by (dsimp only at hSw; obtain ⟨s0, s1⟩ := hSw; go_simp)⟩) hHeld ?_
    simp only [Act.put, List.setIfInBounds_toArray, List.set_cons_zero, List.set_cons_succ, List.getElem_cons_zero, List.getElem_cons_succ, List.getElem_toArray]
    refine wpAnyH_ready (rs := [3]) (by kernel_rfl) (by simp) ?_
    refine AllReadyH.cons rfl (fun K hK => ?_) AllReadyH.nil
    go_simp
    refine Calls.mono (H16.out _ HIS.out HU.out) ?_
    rintro e wg ⟨rfl, hb⟩
    have HUn : Hid (Wz w wg ao am cap cm q ps) := HU.out.up hb
    clear HU
    have HU : Hid (Wz w wg ao am cap cm q ps) := HUn.out
    clear HUn
    clear hb
    refine hK.out _ _ HU.out.s (fun hHeld => ?_)
    clear hK K
    refine wpAnyH_ready (rs := [7]) (by kernel_rfl) (by simp) ?_
    refine AllReadyH.cons rfl (fun K hK => ?_) AllReadyH.nil
    go_simp
    refine Calls.mono (H17.out _ HU.out) ?_
    rintro e wh ⟨rfl, hb⟩
    have HUn : Hid (Wz w wh ao am cap cm q ps) := HU.out.up hb
    clear HU
    have HU : Hid (Wz w wh ao am cap cm q ps) := HUn.out
    clear HUn
    clear hb
    refine hK.out _ _ HU.out.s (fun hHeld => ?_)
    clear hK K
    refine wpAnyH_take (i := 8) (v := .bool true) rfl (by kernel_rfl) (by kernel_rfl) (by kernel_rfl) (fun _ _ _ h => h) (Or.inl ⟨by rfl, fun w' hSw => by (dsimp only at hSw; obtain ⟨s0, s1⟩ := hSw; go_simp)⟩) hHeld ?_
    simp only [Act.put, List.setIfInBounds_toArray, List.set_cons_zero, List.set_cons_succ, List.getElem_cons_zero, List.getElem_cons_succ, List.getElem_toArray]
    refine wpAnyH_take (i := 9) (v := .bool true) rfl (by kernel_rfl) (by kernel_rfl) (by kernel_rfl) (fun _ _ _ h => h) (Or.inl ⟨by rfl, fun w' hSw => by (dsimp only at hSw; obtain ⟨s0, s1⟩ := hSw; go_simp)⟩) hHeld ?_
    simp only [Act.put, List.setIfInBounds_toArray, List.set_cons_zero, List.set_cons_succ, List.getElem_cons_zero, List.getElem_cons_succ, List.getElem_toArray]
    refine wpAnyH_take (i := 10) (v := .agg #[.slice am ps.length cm]) rfl (by kernel_rfl) (by kernel_rfl) (by kernel_rfl) (fun _ _ _ h => h) (Or.inl ⟨by rfl, fun w' hSw => by (dsimp only at hSw; obtain ⟨s0, s1⟩ := hSw; go_simp)⟩) hHeld ?_
    simp only [Act.put, List.setIfInBounds_toArray, List.set_cons_zero, List.set_cons_succ, List.getElem_cons_zero, List.getElem_cons_succ, List.getElem_toArray]
    refine wpAnyH_take (i := 11) (v := .agg #[.slice ao ps.length cap]) rfl (by kernel_rfl) (by kernel_rfl) (by kernel_rfl) (fun _ _ _ h => h) (Or.inl ⟨by rfl, fun w' hSw => by (dsimp only at hSw; obtain ⟨s0, s1⟩ := hSw; go_simp)⟩) hHeld ?_
    simp only [Act.put, List.setIfInBounds_toArray, List.set_cons_zero, List.set_cons_succ, List.getElem_cons_zero, List.getElem_cons_succ, List.getElem_toArray]
    refine wpAnyH_ready (rs := [12]) (by kernel_rfl) (by simp) ?_
    refine AllReadyH.cons rfl (fun K hK => ?_) AllReadyH.nil
    go_simp
    refine Calls.mono (H18.out _ HU.out) ?_
    rintro e wi ⟨rfl, hb⟩
    have HUn : Hid (Wz w wi ao am cap cm q ps) := HU.out.up hb
    clear HU
    have HU : Hid (Wz w wi ao am cap cm q ps) := HUn.out
    clear HUn
    clear hb
    refine hK.out _ _ HU.out.s (fun hHeld => ?_)
    clear hK K
    refine wpAnyH_take (i := 13) (v := .bool true) rfl (by kernel_rfl) (by kernel_rfl) (by kernel_rfl) (fun _ _ _ h => h) (Or.inl ⟨by rfl, fun w' hSw => by (dsimp only at hSw; obtain ⟨s0, s1⟩ := hSw; go_simp)⟩) hHeld ?_
    simp only [Act.put, List.setIfInBounds_toArray, List.set_cons_zero, List.set_cons_succ, List.getElem_cons_zero, List.getElem_cons_succ, List.getElem_toArray]
    refine wpAnyH_take (i := 14) (v := .bool true) rfl (by kernel_rfl) (by kernel_rfl) (by kernel_rfl) (fun _ _ _ h => h) (Or.inl ⟨by rfl, fun w' hSw => by (dsimp only at hSw; obtain ⟨s0, s1⟩ := hSw; go_simp)⟩) hHeld ?_
    simp only [Act.put, List.setIfInBounds_toArray, List.set_cons_zero, List.set_cons_succ, List.getElem_cons_zero, List.getElem_cons_succ, List.getElem_toArray]
    refine wpAnyH_ready (rs := [15]) (by kernel_rfl) (by simp) ?_
    refine AllReadyH.cons rfl (fun K hK => ?_) AllReadyH.nil
    go_simp
    refine Calls.mono (H9.out _ HU.out) ?_
    rintro e wj ⟨rfl, hb⟩
    have HUn : Hid (Wz w wj ao am cap cm q ps) := HU.out.up hb
    clear HU
    have HU : Hid (Wz w wj ao am cap cm q ps) := HUn.out
    clear HUn
    clear hb
    refine hK.out _ _ HU.out.s (fun hHeld => ?_)
    clear hK K
    refine wpAnyH_take (i := 16) (v := .bool true) rfl (by kernel_rfl) (by kernel_rfl) (by kernel_rfl) (fun _ _ _ h => h) (Or.inl ⟨by rfl, fun w' hSw => by (dsimp only at hSw; obtain ⟨s0, s1⟩ := hSw; go_simp)⟩) hHeld ?_
    simp only [Act.put, List.setIfInBounds_toArray, List.set_cons_zero, List.set_cons_succ, List.getElem_cons_zero, List.getElem_cons_succ, List.getElem_toArray]
    refine wpAnyH_take (i := 17) (v := .bool true) rfl (by kernel_rfl) (by kernel_rfl) (by kernel_rfl) (fun _ _ _ h => h) (Or.inl ⟨by rfl, fun w' hSw => by (dsimp only at hSw; obtain ⟨s0, s1⟩ := hSw; go_simp)⟩) hHeld ?_
    simp only [Act.put, List.setIfInBounds_toArray, List.set_cons_zero, List.set_cons_succ, List.getElem_cons_zero, List.getElem_cons_succ, List.getElem_toArray]
    refine wpAnyH_done (by kernel_rfl) ?_ _
    go_wp2_with fail
    go_ret
    exact ⟨rfl, HU.out.x.b⟩
  · have HC : Hid (∀ W, Bw w W ao cap ps → Calls Tryd.prog 7 #[.agg #[.slice ao ps.length cap]] W fun e w' => e = .returned (.int .i64 (ckP ps)) ∧ Below W.heap.size W w') := HCk
    clear HCk ho HO
    generalize ckP ps = z at *
    go_enter Tryd.func3, Tryd.ntmps3
    go_wp2_with (first
      | (go_at_call 6; refine Calls.mono (HG.out _ HQ.out) ?_; rintro e w1 ⟨rfl, hb⟩; have H1 : Hid _ := HQ.out.up hb; have cb := H1.out.cell; clear hb HQ HG)
      | (go_at_call 7; refine Calls.mono (HC.out _ H1.out) ?_; rintro e w4 ⟨rfl, hb⟩; have H4 : Hid (Bw w w4 ao cap ps) := H1.out.up hb; have cb4 := H4.out.cell; clear hb H1 HC cb)
      | (go_at_call 10; refine Calls.mono (HCp.out _ H4.out) ?_; rintro e w5 ⟨am, cm, rfl, hp, hb⟩; have HU : Hid (Wz w ((w5.alloc (.cells #[.slice am ps.length cm] 24)).drew) ao am cap cm w5.heap.size ps) := (Wz.up ⟨(H4.out.up hb).up (below_al _), Op.At.new _ _ _, hp.below (below_al _)⟩ ⟨rfl, rfl, rfl, Nat.le_refl _, fun _ _ => rfl⟩); clear hb hp H4 HCp cb4))
    generalize w5.heap.size = q at *
    refine wp_region_held_drew (S := fun w' => w'.cell? ⟨w.heap.size, 0, none⟩ = some (.slice ao ps.length cap) ∧ w'.cell? ⟨q, 0, none⟩ = some (.slice am ps.length cm)) (by kernel_rfl) HU.out.s (fun hHeld => ?_)
    refine wpAnyH_take (i := 0) (v := .agg #[.slice am ps.length cm]) rfl (by kernel_rfl) (by kernel_rfl) (by kernel_rfl) (fun _ _ _ h => h) (Or.inl ⟨by rfl, fun w' hSw => by (dsimp only at hSw; obtain ⟨s0, s1⟩ := hSw; go_simp)⟩) hHeld ?_
    simp only [Act.put, List.setIfInBounds_toArray, List.set_cons_zero, List.set_cons_succ, List.getElem_cons_zero, List.getElem_toArray]
    refine wpAnyH_take (i := 2) (v := .agg #[.slice ao ps.length cap]) rfl (by kernel_rfl) (by kernel_rfl) (by kernel_rfl) (fun _ _ _ h => h) (Or.inl ⟨by rfl, fun w' hSw => by (dsimp only at hSw; obtain ⟨s0, s1⟩ := hSw; go_simp)⟩) hHeld ?_
    simp only [Act.put, List.setIfInBounds_toArray, List.set_cons_zero, List.set_cons_succ, List.getElem_cons_zero, List.getElem_cons_succ, List.getElem_toArray]
    refine wpAnyH_ready (rs := [1]) (by kernel_rfl) (by simp) ?_
    refine AllReadyH.cons rfl (fun K hK => ?_) AllReadyH.nil
    go_simp
    refine Calls.mono (H12.out _ HU.out) ?_
    rintro e wa ⟨a1, c1, rfl, ⟨hI, hIS⟩, hb⟩
    have HIS : Hid IS := hIS
    have Ia1 : Hid (Ul wa a1 xs) := hI
    have HUn : Hid (Wz w wa ao am cap cm q ps) := HU.out.up hb
    clear HU
    have HU : Hid (Wz w wa ao am cap cm q ps) := HUn.out
    clear HUn
    clear hI hb hIS
    refine hK.out _ _ HU.out.s (fun hHeld => ?_)
    clear hK K
    refine wpAnyH_ready (rs := [3]) (by kernel_rfl) (by simp) ?_
    refine AllReadyH.cons rfl (fun K hK => ?_) AllReadyH.nil
    go_simp
    refine Calls.mono (H13.out _ HU.out) ?_
    rintro e wb ⟨a2, c2, rfl, hI, hb⟩
    have Ib1 : Hid (Ul wb a1 xs) := Ia1.out.below hb
    clear Ia1
    have Ia2 : Hid (Ul wb a2 xs) := hI
    have HUn : Hid (Wz w wb ao am cap cm q ps) := HU.out.up hb
    clear HU
    have HU : Hid (Wz w wb ao am cap cm q ps) := HUn.out
    clear HUn
    clear hI hb
    refine hK.out _ _ HU.out.s (fun hHeld => ?_)
    clear hK K
    refine wpAnyH_ready (rs := [4]) (by kernel_rfl) (by simp) ?_
    refine AllReadyH.cons rfl (fun K hK => ?_) AllReadyH.nil
    go_simp
    refine Calls.mono (HS.out _ _ _ _ _ _ Ib1.out Ia2.out (HL.out HIS.out).1) ?_
    rintro e wc ⟨rfl, hb⟩
    have HUn : Hid (Wz w wc ao am cap cm q ps) := HU.out.up hb
    clear HU
    have HU : Hid (Wz w wc ao am cap cm q ps) := HUn.out
    clear HUn
    clear hb
    refine hK.out _ _ HU.out.s (fun hHeld => ?_)
    clear hK K
    refine wpAnyH_take (i := 5) (v := .bool false) rfl (by kernel_rfl) (by kernel_rfl) (by kernel_rfl) (fun _ _ _ h => h) (Or.inl ⟨by rfl, fun w' hSw => by (dsimp only at hSw; obtain ⟨s0, s1⟩ := hSw; go_simp)⟩) hHeld ?_
    simp only [Act.put, List.setIfInBounds_toArray, List.set_cons_zero, List.set_cons_succ, List.getElem_cons_zero, List.getElem_cons_succ, List.getElem_toArray]
    refine wpAnyH_take (i := 6) (v := .bool false) rfl (by kernel_rfl) (by kernel_rfl) (by kernel_rfl) (fun _ _ _ h => h) (Or.inl ⟨by rfl, fun w' hSw => by (dsimp only at hSw; obtain ⟨s0, s1⟩ := hSw; go_simp)⟩) hHeld ?_
    simp only [Act.put, List.setIfInBounds_toArray, List.set_cons_zero, List.set_cons_succ, List.getElem_cons_zero, List.getElem_cons_succ, List.getElem_toArray]
    refine wpAnyH_take (i := 7) (v := .agg #[.slice am ps.length cm]) rfl (by kernel_rfl) (by kernel_rfl) (by kernel_rfl) (fun _ _ _ h => h) (Or.inl ⟨by rfl, fun w' hSw => by (dsimp only at hSw; obtain ⟨s0, s1⟩ := hSw; go_simp)⟩) hHeld ?_
    simp only [Act.put, List.setIfInBounds_toArray, List.set_cons_zero, List.set_cons_succ, List.getElem_cons_zero, List.getElem_cons_succ, List.getElem_toArray]
    refine wpAnyH_take (i := 9) (v := .agg #[.slice ao ps.length cap]) rfl (by kernel_rfl) (by kernel_rfl) (by kernel_rfl) (fun _ _ _ h => h) (Or.inl ⟨by rfl, fun w' hSw => by (dsimp only at hSw; obtain ⟨s0, s1⟩ := hSw; go_simp)⟩) hHeld ?_
    simp only [Act.put, List.setIfInBounds_toArray, List.set_cons_zero, List.set_cons_succ, List.getElem_cons_zero, List.getElem_cons_succ, List.getElem_toArray]
    refine wpAnyH_ready (rs := [8]) (by kernel_rfl) (by simp) ?_
    refine AllReadyH.cons rfl (fun K hK => ?_) AllReadyH.nil
    go_simp
    refine Calls.mono (H14.out _ HU.out) ?_
    rintro e wd ⟨a3, c3, rfl, hI, hb⟩
    have Ia3 : Hid (Ul wd a3 os) := hI
    have HUn : Hid (Wz w wd ao am cap cm q ps) := HU.out.up hb
    clear HU
    have HU : Hid (Wz w wd ao am cap cm q ps) := HUn.out
    clear HUn
    clear hI hb
    refine hK.out _ _ HU.out.s (fun hHeld => ?_)
    clear hK K
    refine wpAnyH_ready (rs := [10]) (by kernel_rfl) (by simp) ?_
    refine AllReadyH.cons rfl (fun K hK => ?_) AllReadyH.nil
    go_simp
    refine Calls.mono (H15.out _ HU.out) ?_
    rintro e we ⟨a4, c4, rfl, hI, hb⟩
    have Ib3 : Hid (Ul we a3 os) := Ia3.out.below hb
    clear Ia3
    have Ia4 : Hid (Ul we a4 os) := hI
    have HUn : Hid (Wz w we ao am cap cm q ps) := HU.out.up hb
    clear HU
    have HU : Hid (Wz w we ao am cap cm q ps) := HUn.out
    clear HUn
    clear hI hb
    refine hK.out _ _ HU.out.s (fun hHeld => ?_)
    clear hK K
    refine wpAnyH_ready (rs := [11]) (by kernel_rfl) (by simp) ?_
    refine AllReadyH.cons rfl (fun K hK => ?_) AllReadyH.nil
    go_simp
    refine Calls.mono (HS.out _ _ _ _ _ _ Ib3.out Ia4.out (HL.out HIS.out).2) ?_
    rintro e wf ⟨rfl, hb⟩
    have HUn : Hid (Wz w wf ao am cap cm q ps) := HU.out.up hb
    clear HU
    have HU : Hid (Wz w wf ao am cap cm q ps) := HUn.out
    clear HUn
    clear hb
    refine hK.out _ _ HU.out.s (fun hHeld => ?_)
    clear hK K
    refine wpAnyH_take (i := 12) (v := .bool false) rfl (by kernel_rfl) (by kernel_rfl) (by kernel_rfl) (fun _ _ _ h => h) (Or.inl ⟨by rfl, fun w' hSw => by (dsimp only at hSw; obtain ⟨s0, s1⟩ := hSw; go_simp)⟩) hHeld ?_
    simp only [Act.put, List.setIfInBounds_toArray, List.set_cons_zero, List.set_cons_succ, List.getElem_cons_zero, List.getElem_cons_succ, List.getElem_toArray]
    refine wpAnyH_take (i := 13) (v := .bool false) rfl (by kernel_rfl) (by kernel_rfl) (by kernel_rfl) (fun _ _ _ h => h) (Or.inl ⟨by rfl, fun w' hSw => by (dsimp only at hSw; obtain ⟨s0, s1⟩ := hSw; go_simp)⟩) hHeld ?_
    simp only [Act.put, List.setIfInBounds_toArray, List.set_cons_zero, List.set_cons_succ, List.getElem_cons_zero, List.getElem_cons_succ, List.getElem_toArray]
    refine wpAnyH_done (by kernel_rfl) ?_ _
    clear Ia2 Ib1 Ia4 Ib3
    have HUd : Hid (Wz w wf.drew ao am cap cm q ps) := HU.out.up ⟨rfl, rfl, rfl, Nat.le_refl _, fun _ _ => rfl⟩
    clear HU
    have HU : Hid (Wz w wf.drew ao am cap cm q ps) := HUd.out
    clear HUd
    go_wp2_with fail
    refine wp_region_held_drew (S := fun w' => w'.cell? ⟨w.heap.size, 0, none⟩ = some (.slice ao ps.length cap) ∧ w'.cell? ⟨q, 0, none⟩ = some (.slice am ps.length cm)) (by kernel_rfl) HU.out.s (fun hHeld => ?_)
    refine wpAnyH_take (i := 0) (v := .agg #[.slice am ps.length cm]) rfl (by kernel_rfl) (by kernel_rfl) (by kernel_rfl) (fun _ _ _ h => h) (Or.inl ⟨by rfl, fun w' hSw => by (dsimp only at hSw; obtain ⟨s0, s1⟩ := hSw; go_simp)⟩) hHeld ?_
    simp only [Act.put, List.setIfInBounds_toArray, List.set_cons_zero, List.set_cons_succ, List.getElem_cons_zero, List.getElem_toArray]
    refine wpAnyH_take (i := 1) (v := .int .i64 block) rfl (by kernel_rfl) (by kernel_rfl) (by kernel_rfl) (fun _ _ _ h => h) (Or.inl ⟨by rfl, fun w' hSw => by (dsimp only at hSw; obtain ⟨s0, s1⟩ := hSw; go_simp)⟩) hHeld ?_
    simp only [Act.put, List.setIfInBounds_toArray, List.set_cons_zero, List.set_cons_succ, List.getElem_cons_zero, List.getElem_cons_succ, List.getElem_toArray]
    refine wpAnyH_take (i := 2) (v := .int .i64 op) rfl (by kernel_rfl) (by kernel_rfl) (by kernel_rfl) (fun _ _ _ h => h) (Or.inl ⟨by rfl, fun w' hSw => by (dsimp only at hSw; obtain ⟨s0, s1⟩ := hSw; go_simp)⟩) hHeld ?_
    simp only [Act.put, List.setIfInBounds_toArray, List.set_cons_zero, List.set_cons_succ, List.getElem_cons_zero, List.getElem_cons_succ, List.getElem_toArray]
    refine wpAnyH_take (i := 4) (v := .agg #[.slice ao ps.length cap]) rfl (by kernel_rfl) (by kernel_rfl) (by kernel_rfl) (fun _ _ _ h => h) (Or.inl ⟨by rfl, fun w' hSw => by (dsimp only at hSw; obtain ⟨s0, s1⟩ := hSw; go_simp)⟩) hHeld ?_
    simp only [Act.put, List.setIfInBounds_toArray, List.set_cons_zero, List.set_cons_succ, List.getElem_cons_zero, List.getElem_cons_succ, List.getElem_toArray]
    refine wpAnyH_take (i := 5) (v := .int .i64 block) rfl (by kernel_rfl) (by kernel_rfl) (by kernel_rfl) (fun _ _ _ h => h) (Or.inl ⟨by rfl, fun w' hSw => by (dsimp only at hSw; obtain ⟨s0, s1⟩ := hSw; go_simp)⟩) hHeld ?_
    simp only [Act.put, List.setIfInBounds_toArray, List.set_cons_zero, List.set_cons_succ, List.getElem_cons_zero, List.getElem_cons_succ, List.getElem_toArray]
    refine wpAnyH_take (i := 6) (v := .int .i64 op) rfl (by kernel_rfl) (by kernel_rfl) (by kernel_rfl) (fun _ _ _ h => h) (Or.inl ⟨by rfl, fun w' hSw => by (dsimp only at hSw; obtain ⟨s0, s1⟩ := hSw; go_simp)⟩) hHeld ?_
    simp only [Act.put, List.setIfInBounds_toArray, List.set_cons_zero, List.set_cons_succ, List.getElem_cons_zero, List.getElem_cons_succ, List.getElem_toArray]
    refine wpAnyH_ready (rs := [3]) (by kernel_rfl) (by simp) ?_
    refine AllReadyH.cons rfl (fun K hK => ?_) AllReadyH.nil
    go_simp
    refine Calls.mono (H16.out _ HIS.out HU.out) ?_
    rintro e wg ⟨rfl, hb⟩
    have HUn : Hid (Wz w wg ao am cap cm q ps) := HU.out.up hb
    clear HU
    have HU : Hid (Wz w wg ao am cap cm q ps) := HUn.out
    clear HUn
    clear hb
    refine hK.out _ _ HU.out.s (fun hHeld => ?_)
    clear hK K
    refine wpAnyH_ready (rs := [7]) (by kernel_rfl) (by simp) ?_
    refine AllReadyH.cons rfl (fun K hK => ?_) AllReadyH.nil
    go_simp
    refine Calls.mono (H17.out _ HU.out) ?_
    rintro e wh ⟨rfl, hb⟩
    have HUn : Hid (Wz w wh ao am cap cm q ps) := HU.out.up hb
    clear HU
    have HU : Hid (Wz w wh ao am cap cm q ps) := HUn.out
    clear HUn
    clear hb
    refine hK.out _ _ HU.out.s (fun hHeld => ?_)
    clear hK K
    refine wpAnyH_take (i := 8) (v := .bool true) rfl (by kernel_rfl) (by kernel_rfl) (by kernel_rfl) (fun _ _ _ h => h) (Or.inl ⟨by rfl, fun w' hSw => by (dsimp only at hSw; obtain ⟨s0, s1⟩ := hSw; go_simp)⟩) hHeld ?_
    simp only [Act.put, List.setIfInBounds_toArray, List.set_cons_zero, List.set_cons_succ, List.getElem_cons_zero, List.getElem_cons_succ, List.getElem_toArray]
    refine wpAnyH_take (i := 9) (v := .bool true) rfl (by kernel_rfl) (by kernel_rfl) (by kernel_rfl) (fun _ _ _ h => h) (Or.inl ⟨by rfl, fun w' hSw => by (dsimp only at hSw; obtain ⟨s0, s1⟩ := hSw; go_simp)⟩) hHeld ?_
    simp only [Act.put, List.setIfInBounds_toArray, List.set_cons_zero, List.set_cons_succ, List.getElem_cons_zero, List.getElem_cons_succ, List.getElem_toArray]
    refine wpAnyH_take (i := 10) (v := .agg #[.slice am ps.length cm]) rfl (by kernel_rfl) (by kernel_rfl) (by kernel_rfl) (fun _ _ _ h => h) (Or.inl ⟨by rfl, fun w' hSw => by (dsimp only at hSw; obtain ⟨s0, s1⟩ := hSw; go_simp)⟩) hHeld ?_
    simp only [Act.put, List.setIfInBounds_toArray, List.set_cons_zero, List.set_cons_succ, List.getElem_cons_zero, List.getElem_cons_succ, List.getElem_toArray]
    refine wpAnyH_take (i := 11) (v := .agg #[.slice ao ps.length cap]) rfl (by kernel_rfl) (by kernel_rfl) (by kernel_rfl) (fun _ _ _ h => h) (Or.inl ⟨by rfl, fun w' hSw => by (dsimp only at hSw; obtain ⟨s0, s1⟩ := hSw; go_simp)⟩) hHeld ?_
    simp only [Act.put, List.setIfInBounds_toArray, List.set_cons_zero, List.set_cons_succ, List.getElem_cons_zero, List.getElem_cons_succ, List.getElem_toArray]
    refine wpAnyH_ready (rs := [12]) (by kernel_rfl) (by simp) ?_
    refine AllReadyH.cons rfl (fun K hK => ?_) AllReadyH.nil
    go_simp
    refine Calls.mono (H18.out _ HU.out) ?_
    rintro e wi ⟨rfl, hb⟩
    have HUn : Hid (Wz w wi ao am cap cm q ps) := HU.out.up hb
    clear HU
    have HU : Hid (Wz w wi ao am cap cm q ps) := HUn.out
    clear HUn
    clear hb
    refine hK.out _ _ HU.out.s (fun hHeld => ?_)
    clear hK K
    refine wpAnyH_take (i := 13) (v := .bool true) rfl (by kernel_rfl) (by kernel_rfl) (by kernel_rfl) (fun _ _ _ h => h) (Or.inl ⟨by rfl, fun w' hSw => by (dsimp only at hSw; obtain ⟨s0, s1⟩ := hSw; go_simp)⟩) hHeld ?_
    simp only [Act.put, List.setIfInBounds_toArray, List.set_cons_zero, List.set_cons_succ, List.getElem_cons_zero, List.getElem_cons_succ, List.getElem_toArray]
    refine wpAnyH_take (i := 14) (v := .bool true) rfl (by kernel_rfl) (by kernel_rfl) (by kernel_rfl) (fun _ _ _ h => h) (Or.inl ⟨by rfl, fun w' hSw => by (dsimp only at hSw; obtain ⟨s0, s1⟩ := hSw; go_simp)⟩) hHeld ?_
    simp only [Act.put, List.setIfInBounds_toArray, List.set_cons_zero, List.set_cons_succ, List.getElem_cons_zero, List.getElem_cons_succ, List.getElem_toArray]
    refine wpAnyH_ready (rs := [15]) (by kernel_rfl) (by simp) ?_
    refine AllReadyH.cons rfl (fun K hK => ?_) AllReadyH.nil
    go_simp
    refine Calls.mono (H9.out _ HU.out) ?_
    rintro e wj ⟨rfl, hb⟩
    have HUn : Hid (Wz w wj ao am cap cm q ps) := HU.out.up hb
    clear HU
    have HU : Hid (Wz w wj ao am cap cm q ps) := HUn.out
    clear HUn
    clear hb
    refine hK.out _ _ HU.out.s (fun hHeld => ?_)
    clear hK K
    refine wpAnyH_take (i := 16) (v := .bool true) rfl (by kernel_rfl) (by kernel_rfl) (by kernel_rfl) (fun _ _ _ h => h) (Or.inl ⟨by rfl, fun w' hSw => by (dsimp only at hSw; obtain ⟨s0, s1⟩ := hSw; go_simp)⟩) hHeld ?_
    simp only [Act.put, List.setIfInBounds_toArray, List.set_cons_zero, List.set_cons_succ, List.getElem_cons_zero, List.getElem_cons_succ, List.getElem_toArray]
    refine wpAnyH_take (i := 17) (v := .bool true) rfl (by kernel_rfl) (by kernel_rfl) (by kernel_rfl) (fun _ _ _ h => h) (Or.inl ⟨by rfl, fun w' hSw => by (dsimp only at hSw; obtain ⟨s0, s1⟩ := hSw; go_simp)⟩) hHeld ?_
    simp only [Act.put, List.setIfInBounds_toArray, List.set_cons_zero, List.set_cons_succ, List.getElem_cons_zero, List.getElem_cons_succ, List.getElem_toArray]
    refine wpAnyH_done (by kernel_rfl) ?_ _
    go_wp2_with fail
    go_ret
    exact ⟨rfl, HU.out.x.b⟩
theorem law_tells (ao : Option Addr) (cap : Nat) (ps : List Bk) (block op : Int) (w : World) (h : PAt w ao ps) (he : Env w) :
    Calls Tryd.prog 3 #[.agg #[.slice ao ps.length cap], .int .i64 block, .int .i64 op] w fun e w' => e = .returned (.bool true) ∧ Below w.heap.size w w' := by
  cases hg : greatB ps with
  | true => exact tells_wake ao cap ps block op w h he (Or.inl hg)
  | false =>
    by_cases hn : ckP ps = 0 ∧ 300 < opsN ps
    · exact tells_wake ao cap ps block op w h he (Or.inr ⟨hg, hn⟩)
    · exact tells_main ao cap ps block op w h he hg (fun hc => by omega)
end Go.Proofs.YtlinekpaffgcjaaDoor.Li

namespace Go.Proofs.YtlinekpaffgcjaaDoor.Op
open Go.ChangeShapes Go.WideShapes Go.ChangeAt Go.RowKit

theorem wf64 {n : Int} (h : (Lit.int .i64 n).wf = true) : -9223372036854775808 ≤ n ∧ n ≤ 9223372036854775807 := by
  simp [Lit.wf, IntKind.min, IntKind.max, IntKind.signed, IntKind.bits] at h
  omega
theorem wf8 {n : Int} (h : (Lit.int .i8 n).wf = true) : -128 ≤ n ∧ n ≤ 127 := by
  simp [Lit.wf, IntKind.min, IntKind.max, IntKind.signed, IntKind.bits] at h
  omega
theorem wfu8 {n : Int} (h : (Lit.int .u8 n).wf = true) : 0 ≤ n ∧ n ≤ 255 := by
  simp [Lit.wf, IntKind.min, IntKind.max, IntKind.signed, IntKind.bits] at h
  omega
theorem own : ownKnob Tryd.prog.godebug = none := by kernel_rfl
def laid1 : List (String × DataW Unit) := [("hayloft/program.ends", Rows.laid_hayloft_program_ends)]
theorem four {p : Nat → Prop} (h0 : p 0) (h1 : p 1) (h2 : p 2) (h3 : p 3) : ∀ k, k < 4 → p k := by
  intro k hk
  match k, hk with
  | 0, _ => exact h0
  | 1, _ => exact h1
  | 2, _ => exact h2
  | 3, _ => exact h3
theorem trod_bool1 {H : Type} {enc : TypeId × Value → H} {W : World} {base fuel : Nat} {sp : Nat → Bool} {held : Bool} {c : Value} {y : DataW H × List MemPlace} (h : DataW.trod enc Tryd.prog W base sp held fuel 4 [c] = some y) : ∃ b : Bool, c = .bool b ∧ y.1 = .lit (.bool b) := by
  obtain ⟨b, e, f⟩ := DataW.trod_bool Tryd.underlying4 h
  exact ⟨b, by simpa using e, by rw [f]⟩
theorem trod_end {H : Type} {enc : TypeId × Value → H} {W : World} {base fuel : Nat} {sp : Nat → Bool} {held : Bool} {c0 c1 c2 c3 : Value} {y : DataW H × List MemPlace} (h : DataW.trod enc Tryd.prog W base sp held fuel 77 [c0, c1, c2, c3] = some y) :
    ∃ a b c d : Bool, c0 = .bool a ∧ c1 = .bool b ∧ c2 = .bool c ∧ c3 = .bool d ∧ y.1 = .agg [.lit (.bool a), .lit (.bool b), .lit (.bool c), .lit (.bool d)] := by
  obtain ⟨y0, y1, y2, y3, n, hx, _, h0, h1, h2, h3⟩ := Joins.trod_struct4 Tryd.underlying77 h
  have k4 : Tryd.prog.cellsOf 4 = 1 := by kernel_rfl
  rw [k4] at h0 h1 h2 h3
  obtain ⟨a, e0, f0⟩ := trod_bool1 h0
  obtain ⟨b, e1, f1⟩ := trod_bool1 h1
  obtain ⟨c, e2, f2⟩ := trod_bool1 h2
  obtain ⟨d, e3, f3⟩ := trod_bool1 h3
  exact ⟨a, b, c, d, e0, e1, e2, e3, by rw [hx, f0, f1, f2, f3]⟩
set_option maxRecDepth 20000 in
theorem ends_of {W : World} (h : Lib.VarReads Tryd.prog W "hayloft/program.ends" Rows.laid_hayloft_program_ends) : EndsAt W ∧ 1 ≤ W.heap.size := by
  have hg : Tryd.prog.globalNamed "hayloft/program.ends" = some 0 := by kernel_rfl
  have ht : (Tryd.prog.globals[0]?).map (·.type) = some 98 := by kernel_rfl
  obtain ⟨g0, t0, cs, fuel, p, h1, h2, h3, h4⟩ := h
  obtain rfl := Option.some.inj (hg.symm.trans h1)
  obtain rfl := Option.some.inj (ht.symm.trans h2)
  have hbig : 1 ≤ W.heap.size := by
    have h3' := h3
    rw [World.var?, hg, Option.bind_some] at h3'
    rcases Nat.lt_or_ge 0 W.heap.size with h | h
    · exact h
    · rw [Array.getElem?_eq_none h] at h3'; cases h3'
  obtain ⟨xs, m, _, hx, hl, hn, he⟩ := DataW.trod_array Tryd.underlying98 h4
  have c73 : Tryd.prog.cellsOf 77 = 4 := by kernel_rfl
  have c85 : Tryd.prog.cellsOf 98 = 16 := by kernel_rfl
  rw [c85] at hl
  rw [c73] at he
  obtain ⟨l⟩ := cs
  match xs, hn, l, hl with
  | [x0, x1, x2, x3], _, [v0, v1, v2, v3, v4, v5, v6, v7, v8, v9, va, vb, vc, vd, ve, vf], _ =>
    obtain ⟨a0, a1, a2, a3, rfl, rfl, rfl, rfl, e0⟩ := trod_end (he 0 (by omega))
    obtain ⟨b0, b1, b2, b3, rfl, rfl, rfl, rfl, e1⟩ := trod_end (he 1 (by omega))
    obtain ⟨c0, c1, c2, c3, rfl, rfl, rfl, rfl, e2⟩ := trod_end (he 2 (by omega))
    obtain ⟨d0, d1, d2, d3, rfl, rfl, rfl, rfl, e3⟩ := trod_end (he 3 (by omega))
    simp [Rows.laid_hayloft_program_ends, e0, e1, e2, e3] at hx
    obtain ⟨⟨⟨rfl, rfl, rfl, rfl⟩, ⟨rfl, rfl, rfl, rfl⟩, ⟨rfl, rfl, rfl, rfl⟩, ⟨rfl, rfl, rfl, rfl⟩⟩, _⟩ := hx
    have cc := fun i => World.var?_cell h1 h3 i
    refine ⟨⟨four (p := fun k => W.cell? ⟨0, k * 4, none⟩ = some (.bool (eA k)) ∧ W.cell? ⟨0, k * 4 + 1, none⟩ = some (.bool (eB k)) ∧ W.cell? ⟨0, k * 4 + 2, none⟩ = some (.bool (eT k)) ∧ W.cell? ⟨0, k * 4 + 3, none⟩ = some (.bool (eE k))) ⟨?_, ?_, ?_, ?_⟩ ⟨?_, ?_, ?_, ?_⟩ ⟨?_, ?_, ?_, ?_⟩ ⟨?_, ?_, ?_, ?_⟩⟩, hbig⟩
    · exact (cc 0)
    · exact (cc 1)
    · exact (cc 2)
    · exact (cc 3)
    · exact (cc 4)
    · exact (cc 5)
    · exact (cc 6)
    · exact (cc 7)
    · exact (cc 8)
    · exact (cc 9)
    · exact (cc 10)
    · exact (cc 11)
    · exact (cc 12)
    · exact (cc 13)
    · exact (cc 14)
    · exact (cc 15)
set_option maxRecDepth 20000 in
theorem env_of {W : World} (hL : laidMetH Tryd.prog laid1 W) : Env W := by
  have hP : laidMet Tryd.prog laid1 W := hL
  have he := ends_of (Lib.laidMet.reads hP (n := "hayloft/program.ends") (d := Rows.laid_hayloft_program_ends) (by simp [laid1]))
  exact ⟨he.1, he.2⟩

set_option maxRecDepth 100000 in
/-- The wrap: what the listed variables hold, and the world's shape, are handed to the contract. -/
theorem wrap {H : Type} {enc : TypeId × Value → H} {os : Os} {f : FuncId} {fn : Func} {s : ChangeSpec} {lv : List (String × DataW Unit)} (started : os.Started) (noInit : Tryd.prog.inits.idxOf? f = none) (hfn : Tryd.prog.funcs[f]? = some fn)
    (witness : ∃ (w : World) (tape : Tape) (i : Input), w.os = os ∧ (w.forCall tape i).Shaped Tryd.prog ∧ i.vars = [] ∧ Input.okWide Tryd.prog (w.forCall tape i) .any w.heap.size f i ∧
      ((s.pre enc Tryd.prog fn [] false (w.forCall tape i).memory i.args ∧ laidMetH Tryd.prog lv (w.forCall tape i).memory) ∧ sizedMet enc Tryd.prog fn (OpenSpec.ofChange s) false (w.forCall tape i).memory i.args) ∧ Assume.holds {} Tryd.prog (lone (Frame.enter Tryd.prog f i.args .normal) [] (w.forCall tape i)))
    (contract : ∀ (W : World) (base : Nat) (args : Array Value) (ds gs : List (DataW H)) (before : List MemPlace),
      (∀ (j : Nat) t v, fn.params[j]? = some t → args[j]? = some v → Value.okWide Tryd.prog W .any base t v) →
      DataW.Whole enc Tryd.prog fn.params.toList s.vars false W args.toList ds gs before →
      (DataW.weightsEach Tryd.prog (fn.params.toList ++ s.plain.varTypes Tryd.prog) (ds ++ gs)).all (· ≤ reachBytes) = true →
      laidMetH Tryd.prog lv W → W.ShapedOpen Tryd.prog →
      Calls Tryd.prog f args W fun e W' => ∃ v, e = .returned v ∧ s.post enc Tryd.prog fn false true false false W args v W') :
    ReturnsInHanded {} Tryd.checked os f .any (fun w args => (s.pre enc Tryd.prog fn [] false w args ∧ laidMetH Tryd.prog lv w) ∧ sizedMet enc Tryd.prog fn (OpenSpec.ofChange s) false w args) (s.post enc Tryd.prog fn false true false false) := by
  refine returnsInHanded_of_calls (C := Tryd.checked) own started noInit witness ?_
  intro w tape i _ hsh _ hok hpre hholds
  obtain ⟨_, _, _, fn', hfn', _, _, _, _, hval⟩ := hok
  have e : fn' = fn := Option.some.inj (hfn'.symm.trans hfn)
  subst e
  obtain ⟨⟨⟨ds, gs, before, hw, hc⟩, hx⟩, hz⟩ := hpre
  have hw' := DataW.Whole.of_heap (w' := w.forCall tape i) (by rfl) hw
  refine (contract (w.forCall tape i) w.heap.size i.args ds gs before hval hw' (hz.weights hw) (hx.of_heap (by rfl)) hsh).mono fun e W' ⟨v, he, hp⟩ => ?_
  subst he
  exact ChangeSpec.post_blind hp


set_option maxRecDepth 100000 in
theorem wit_met (os : Os) (args : Array Value) : laidMetH Tryd.prog laid1 ((((World.holding Tryd.prog os ⟨#[], #[], []⟩).layVars Tryd.prog laid1).forCall (fun _ _ => 0) ⟨#[], args, []⟩).memory) := by
  refine laidMetH_of_parts ?_ (by kernel_rfl)
  have h : laidMet Tryd.prog laid1 ((World.holding Tryd.prog os ⟨#[], #[], []⟩).layVars Tryd.prog laid1) :=
    laidMet_layVars (w0 := World.holding Tryd.prog os ⟨#[], #[], []⟩) ["hayloft/program.ends"] [] (by rw [show (laid1.filter fun x => (["hayloft/program.ends"] : List String).contains x.1) = laid1 from by kernel_rfl]) (by kernel_rfl) (by kernel_rfl) (by rw [show (laid1.filter fun x => !(["hayloft/program.ends"] : List String).contains x.1) = [] from by kernel_rfl]; exact LaidIn.none)
  exact h.of_heap (by simp [World.memory, World.forCall, Input.heap])
theorem wit_os (os : Os) : ((World.holding Tryd.prog os ⟨#[], #[], []⟩).layVars Tryd.prog laid1).os = os := World.layVars_os _ _ _
theorem tySize : Tryd.prog.types.size = 139 := by kernel_rfl
theorem laidOut : laidOutB Tryd.prog = true := by kernel_rfl
theorem trod_struct5 {H : Type} {enc : TypeId × Value → H} {P : Program} {w : World} {base : Nat} {spare : Nat → Bool} {held : Bool} {t : TypeId} {f0 f1 f2 f3 f4 : Field} {fuel : Nat} {cs : List Value} {x : DataW H × List MemPlace} (ht : P.underlying t = some (.struct #[f0, f1, f2, f3, f4])) (h : DataW.trod enc P w base spare held fuel t cs = some x) :
    ∃ y0 y1 y2 y3 y4 n, x = (.agg [y0.1, y1.1, y2.1, y3.1, y4.1], y0.2 ++ (y1.2 ++ (y2.2 ++ (y3.2 ++ y4.2)))) ∧ cs.length = P.cellsOf t ∧ DataW.trod enc P w base spare held n f0.type ((cs.drop f0.offset).take (P.cellsOf f0.type)) = some y0 ∧
      DataW.trod enc P w base spare held n f1.type ((cs.drop f1.offset).take (P.cellsOf f1.type)) = some y1 ∧ DataW.trod enc P w base spare held n f2.type ((cs.drop f2.offset).take (P.cellsOf f2.type)) = some y2 ∧
      DataW.trod enc P w base spare held n f3.type ((cs.drop f3.offset).take (P.cellsOf f3.type)) = some y3 ∧ DataW.trod enc P w base spare held n f4.type ((cs.drop f4.offset).take (P.cellsOf f4.type)) = some y4 := by
  obtain ⟨xs, n, _, rfl, hl, hlen, hf⟩ := DataW.trod_struct ht h
  match xs, hlen with
  | [y0, y1, y2, y3, y4], _ => exact ⟨y0, y1, y2, y3, y4, n, by simp, hl, by simpa using hf 0 f0 rfl, by simpa using hf 1 f1 rfl, by simpa using hf 2 f2 rfl, by simpa using hf 3 f3 rfl, by simpa using hf 4 f4 rfl⟩

end Go.Proofs.YtlinekpaffgcjaaDoor.Op

namespace Go.Proofs.YtlinekpaffgcjaaDoor.Op
open Go.ChangeShapes Go.WideShapes Go.ChangeAt Go.RowKit
set_option maxRecDepth 20000

theorem opsAt_nil (w : World) (ao : Option Addr) : OpsAt w ao [] := ⟨by simp, by simp, fun h => by simp at h⟩
theorem pAt_none (w : World) (ao : Option Addr) : PAt w ao [] := ⟨by simp, fun h => by simp at h⟩
theorem reach_eq : reachBytes = 140737488351232 := rfl
theorem addr_add (b f : Nat) (n : Nat) : (⟨b, f, none⟩ : Addr).add n = ⟨b, f + n, none⟩ := by
  unfold Addr.add
  split
  · rename_i h; subst h; rfl
  · rfl
/-- Cells in a row, told by block and offset. -/
theorem cells_at {w : World} {b f n : Nat} {cs : List Value} (h : w.cells? 0 ⟨b, f, none⟩ n = some cs) (hn : 0 < n) : b < w.heap.size ∧ ∀ i v, cs[i]? = some v → w.cell? ⟨b, f + i, none⟩ = some v := by
  obtain ⟨_, hl, hc⟩ := World.cells?_some h
  refine ⟨World.cells?_block h hn, fun i v e => ?_⟩
  have hi : i < n := by
    rcases Nat.lt_or_ge i n with h | h
    · exact h
    · rw [List.getElem?_eq_none (by omega)] at e; cases e
  have := hc i hi
  rw [addr_add, e] at this
  exact this
theorem spot_none {w : World} {a : Addr} {n : Nat} {cs : List Value} (h : w.cells? 0 a n = some cs) (hn : 0 < n) : a = ⟨a.block, a.off, none⟩ := by
  obtain ⟨_, hl, hc⟩ := World.cells?_some h
  have h0 := hc 0 hn
  have ha : a.add 0 = a := by unfold Addr.add; simp
  rw [ha, List.getElem?_eq_getElem (by omega)] at h0
  obtain ⟨b, f, s⟩ := a
  cases s with
  | none => rfl
  | some s =>
    unfold World.cell? at h0
    split at h0
    · simp at h0
    · cases h0
instance : Inhabited O := ⟨⟨0, 0, 0, 0, 0⟩⟩
instance : Inhabited Bk := ⟨⟨[], 0, 0, [], 0, 0⟩⟩

theorem weightsAll_mem {H : Type} {P : Program} {e : TypeId} {d : DataW H} {n : Nat} : ∀ {l : List (DataW H)}, d ∈ l → n ∈ d.weights P e → n ∈ DataW.weightsAll P e l
  | x :: r, hd, hn => by
    unfold DataW.weightsAll
    rcases List.mem_cons.1 hd with rfl | hd
    · exact List.mem_append_left _ hn
    · exact List.mem_append_right _ (weightsAll_mem hd hn)

/-- One operation, out of its cells. -/
theorem open_o {H : Type} {enc : TypeId × Value → H} {W : World} {base fuel : Nat} {sp : Nat → Bool} {held : Bool} {cs : List Value} {y : DataW H × List MemPlace} (h : DataW.trod enc Tryd.prog W base sp held fuel 51 cs = some y) : ∃ o : O, o.Ok ∧ cs = [.int .i8 o.op, .int .u8 o.d, .int .u8 o.a, .int .u8 o.b, .int .i64 o.im] := by
  have k49 : Tryd.prog.cellsOf 51 = 5 := by kernel_rfl
  have k38 : Tryd.prog.cellsOf 45 = 1 := by kernel_rfl
  have k5 : Tryd.prog.cellsOf 5 = 1 := by kernel_rfl
  have k2 : Tryd.prog.cellsOf 2 = 1 := by kernel_rfl
  obtain ⟨y0, y1, y2, y3, y4, n, hx, hl, h0, h1, h2, h3, h4⟩ := trod_struct5 Tryd.underlying51 h
  rw [k49] at hl
  match cs, hl with
  | [c0, c1, c2, c3, c4], _ =>
    rw [k38] at h0
    rw [k5] at h1 h2 h3
    rw [k2] at h4
    obtain ⟨a, a1, a2, a3⟩ := DataW.trod_int Tryd.underlying45 h0
    obtain ⟨b, b1, b2, b3⟩ := DataW.trod_int Tryd.underlying5 h1
    obtain ⟨c, c1', c2', c3'⟩ := DataW.trod_int Tryd.underlying5 h2
    obtain ⟨e, e1, e2, e3⟩ := DataW.trod_int Tryd.underlying5 h3
    obtain ⟨g, g1, g2, g3⟩ := DataW.trod_int Tryd.underlying2 h4
    have a1' : [c0] = [Value.int .i8 a] := a1
    have b1' : [c1] = [Value.int .u8 b] := b1
    have c1'' : [c2] = [Value.int .u8 c] := c1'
    have e1' : [c3] = [Value.int .u8 e] := e1
    have g1' : [c4] = [Value.int .i64 g] := g1
    obtain rfl : c0 = .int .i8 a := by simpa using a1'
    obtain rfl : c1 = .int .u8 b := by simpa using b1'
    obtain rfl : c2 = .int .u8 c := by simpa using c1''
    obtain rfl : c3 = .int .u8 e := by simpa using e1'
    obtain rfl : c4 = .int .i64 g := by simpa using g1'
    have w0 := wf8 a3
    have w1 := wfu8 b3
    have w2 := wfu8 c3'
    have w3 := wfu8 e3
    have w4 := wf64 g3
    exact ⟨⟨a, b, c, e, g⟩, ⟨w0.1, w0.2, w1.1, w1.2, w2.1, w2.2, w3.1, w3.2, w4.1, w4.2⟩, rfl⟩

/-- A list of operations, out of its cell. -/
theorem open_list {H : Type} {enc : TypeId × Value → H} {W : World} {fuel : Nat} {held : Bool} {cs : List Value} {y : DataW H × List MemPlace} (h : DataW.trod enc Tryd.prog W 0 (fun _ => true) held fuel 44 cs = some y) (hw : ∀ n, n ∈ y.1.weights Tryd.prog 44 → n ≤ reachBytes) :
    ∃ (ao : Option Addr) (cap : Nat) (xs : List O), cs = [.slice ao xs.length cap] ∧ OpsAt W ao xs ∧ xs.length ≤ cap := by
  have k49 : Tryd.prog.cellsOf 51 = 5 := by kernel_rfl
  have b49 : Tryd.prog.bytesOf 51 = 16 := by kernel_rfl
  rcases Deep.open_slice Tryd.underlying44 h with ⟨rfl, rfl⟩ | ⟨a, len, cap, m, n, D, Pl, rfl, _, hlc, _, hm, rfl, hx⟩
  · exact ⟨none, 0, [], rfl, opsAt_nil _ _, by simp⟩
  · have hmc : m = cap := by simpa using hm
    subst hmc
    have hcap : m * 16 ≤ reachBytes := by
      refine hw _ ?_
      unfold DataW.weights
      simp only [Tryd.underlying44, b49]
      refine List.mem_cons.2 (.inl ?_)
      simp; omega
    rw [reach_eq] at hcap
    rw [k49] at hx
    obtain ⟨X, hX⟩ := Deep.choose_lt (α := O) (n := len) (p := fun i o => o.Ok ∧ W.cells? 0 (a.add (i * 5)) 5 = some [.int .i8 o.op, .int .u8 o.d, .int .u8 o.a, .int .u8 o.b, .int .i64 o.im]) (fun i hi => by
      obtain ⟨cs', h1, h2⟩ := hx i (by omega)
      obtain ⟨o, ho, rfl⟩ := open_o h2
      exact ⟨o, ho, h1⟩)
    refine ⟨some a, m, (List.range len).map X, by simp, ⟨fun o ho => ?_, by simp; omega, fun h0 => ?_⟩, by simp; omega⟩
    · obtain ⟨i, hi, rfl⟩ := List.mem_map.1 ho
      exact (hX i (List.mem_range.1 hi)).1
    · have h0' : 0 < len := by simpa using h0
      have ha : a = ⟨a.block, a.off, none⟩ := by
        have := (hX 0 h0').2
        rw [show a.add (0 * 5) = a by unfold Addr.add; simp] at this
        exact spot_none this (by omega)
      refine ⟨a.block, a.off, by rw [← ha], ?_, fun i hi => ?_⟩
      · have := (hX 0 h0').2
        rw [ha, addr_add] at this
        exact (cells_at this (by omega)).1
      · have hi' : i < len := by simpa using hi
        have := (hX i hi').2
        rw [ha, addr_add] at this
        have hc := (cells_at this (by omega)).2
        simp only [List.getElem_map, List.getElem_range]
        exact ⟨hc 0 _ rfl, hc 1 _ rfl, hc 2 _ rfl, hc 3 _ rfl, hc 4 _ rfl⟩

theorem trod_struct6 {H : Type} {enc : TypeId × Value → H} {P : Program} {w : World} {base : Nat} {spare : Nat → Bool} {held : Bool} {t : TypeId} {f0 f1 f2 f3 f4 f5 : Field} {fuel : Nat} {cs : List Value} {x : DataW H × List MemPlace} (ht : P.underlying t = some (.struct #[f0, f1, f2, f3, f4, f5])) (h : DataW.trod enc P w base spare held fuel t cs = some x) :
    ∃ y0 y1 y2 y3 y4 y5 n, x.1 = .agg [y0.1, y1.1, y2.1, y3.1, y4.1, y5.1] ∧ cs.length = P.cellsOf t ∧ DataW.trod enc P w base spare held n f0.type ((cs.drop f0.offset).take (P.cellsOf f0.type)) = some y0 ∧
      DataW.trod enc P w base spare held n f1.type ((cs.drop f1.offset).take (P.cellsOf f1.type)) = some y1 ∧ DataW.trod enc P w base spare held n f2.type ((cs.drop f2.offset).take (P.cellsOf f2.type)) = some y2 ∧
      DataW.trod enc P w base spare held n f3.type ((cs.drop f3.offset).take (P.cellsOf f3.type)) = some y3 ∧ DataW.trod enc P w base spare held n f4.type ((cs.drop f4.offset).take (P.cellsOf f4.type)) = some y4 ∧ DataW.trod enc P w base spare held n f5.type ((cs.drop f5.offset).take (P.cellsOf f5.type)) = some y5 := by
  obtain ⟨xs, n, _, rfl, hl, hlen, hf⟩ := DataW.trod_struct ht h
  match xs, hlen with
  | [y0, y1, y2, y3, y4, y5], _ => exact ⟨y0, y1, y2, y3, y4, y5, n, by simp, hl, by simpa using hf 0 f0 rfl, by simpa using hf 1 f1 rfl, by simpa using hf 2 f2 rfl, by simpa using hf 3 f3 rfl, by simpa using hf 4 f4 rfl, by simpa using hf 5 f5 rfl⟩

/-- One block, out of its cells. -/
theorem open_b {H : Type} {enc : TypeId × Value → H} {W : World} {fuel : Nat} {held : Bool} {cs : List Value} {y : DataW H × List MemPlace} (h : DataW.trod enc Tryd.prog W 0 (fun _ => true) held fuel 47 cs = some y) (hw : ∀ n, n ∈ y.1.weights Tryd.prog 47 → n ≤ reachBytes) :
    ∃ (x : Bk) (p : Pl), BIn W x p ∧ cs = (x.cells p).toList := by
  have k40 : Tryd.prog.cellsOf 47 = 6 := by kernel_rfl
  have k37 : Tryd.prog.cellsOf 44 = 1 := by kernel_rfl
  have k38 : Tryd.prog.cellsOf 45 = 1 := by kernel_rfl
  have k5 : Tryd.prog.cellsOf 5 = 1 := by kernel_rfl
  have k3 : Tryd.prog.cellsOf 3 = 1 := by kernel_rfl
  obtain ⟨y0, y1, y2, y3, y4, y5, n, hx, hl, h0, h1, h2, h3, h4, h5⟩ := trod_struct6 Tryd.underlying47 h
  rw [k40] at hl
  have hw' : ∀ n, n ∈ DataW.weightsEach Tryd.prog [44, 45, 5, 44, 3, 3] [y0.1, y1.1, y2.1, y3.1, y4.1, y5.1] → n ≤ reachBytes := fun n hn => by
    refine hw n ?_
    rw [hx]
    unfold DataW.weights
    simp only [Tryd.underlying47]
    exact hn
  match cs, hl with
  | [c0, c1, c2, c3, c4, c5], _ =>
    rw [k37] at h0 h3
    rw [k38] at h1
    rw [k5] at h2
    rw [k3] at h4 h5
    obtain ⟨oa, oc, os, e0, i0, l0⟩ := open_list h0 fun n hn => hw' n (DataW.weights_mem_each (j := 0) rfl rfl n hn)
    obtain ⟨ba, bc, bs, e3, i3, -⟩ := open_list h3 fun n hn => hw' n (DataW.weights_mem_each (j := 3) rfl rfl n hn)
    obtain ⟨f, f1, _, f3⟩ := DataW.trod_int Tryd.underlying45 h1
    obtain ⟨a, a1, _, a3⟩ := DataW.trod_int Tryd.underlying5 h2
    obtain ⟨u, u1, _, u3⟩ := DataW.trod_int Tryd.underlying3 h4
    obtain ⟨v, v1, _, v3⟩ := DataW.trod_int Tryd.underlying3 h5
    have e0' : [c0] = [Value.slice oa os.length oc] := e0
    have e3' : [c3] = [Value.slice ba bs.length bc] := e3
    have f1' : [c1] = [Value.int .i8 f] := f1
    have a1' : [c2] = [Value.int .u8 a] := a1
    have u1' : [c4] = [Value.int .i64 u] := u1
    have v1' : [c5] = [Value.int .i64 v] := v1
    obtain rfl : c0 = .slice oa os.length oc := by simpa using e0'
    obtain rfl : c3 = .slice ba bs.length bc := by simpa using e3'
    obtain rfl : c1 = .int .i8 f := by simpa using f1'
    obtain rfl : c2 = .int .u8 a := by simpa using a1'
    obtain rfl : c4 = .int .i64 u := by simpa using u1'
    obtain rfl : c5 = .int .i64 v := by simpa using v1'
    have w1 := wf8 f3
    have w2 := wfu8 a3
    have w4 := wf64 u3
    have w5 := wf64 v3
    exact ⟨⟨os, f, a, bs, u, v⟩, ⟨oa, oc, ba, bc⟩, ⟨⟨w1.1, w1.2, w2.1, w2.2, w4.1, w4.2, w5.1, w5.2⟩, i0, i3, l0⟩, rfl⟩

/-- The blocks, out of their cell. -/
theorem open_blocks {H : Type} {enc : TypeId × Value → H} {W : World} {fuel : Nat} {held : Bool} {cs : List Value} {y : DataW H × List MemPlace} (h : DataW.trod enc Tryd.prog W 0 (fun _ => true) held fuel 22 cs = some y) (hw : ∀ n, n ∈ y.1.weights Tryd.prog 22 → n ≤ reachBytes) :
    ∃ (ao : Option Addr) (cap : Nat) (ps : List Bk), cs = [.slice ao ps.length cap] ∧ PAt W ao ps ∧ ps.length ≤ cap ∧ cap ≤ maxLen := by
  have k40 : Tryd.prog.cellsOf 47 = 6 := by kernel_rfl
  have b40 : Tryd.prog.bytesOf 47 = 72 := by kernel_rfl
  rcases Deep.open_slice Tryd.underlying22 h with ⟨rfl, rfl⟩ | ⟨a, len, cap, m, n, D, Pl, rfl, _, hlc, hmx, hm, rfl, hx⟩
  · exact ⟨none, 0, [], rfl, pAt_none _ _, Nat.le_refl _, Nat.zero_le _⟩
  · have hmc : m = cap := by simpa using hm
    subst hmc
    have hall : ∀ n, n ∈ (m * 72) :: (DataW.weightsAll Tryd.prog 47 ((List.range len).map D) ++ DataW.weightsAll Tryd.prog 47 ((List.range (m - len)).map fun j => D (len + j))) → n ≤ reachBytes := fun n hn => by
      refine hw n ?_
      unfold DataW.weights
      simp only [Tryd.underlying22, b40]
      rw [show ((List.range len).map D).length + ((List.range (m - len)).map fun j => D (len + j)).length = m by simp; omega]
      exact hn
    have hcap : m * 72 ≤ reachBytes := hall _ (List.mem_cons_self ..)
    rw [reach_eq] at hcap
    rw [k40] at hx
    obtain ⟨X, hX⟩ := Deep.choose_lt (α := Bk) (n := len) (p := fun i x => ∃ p, BIn W x p ∧ W.cells? 0 (a.add (i * 6)) 6 = some (x.cells p).toList) (fun i hi => by
      obtain ⟨cs', h1, h2⟩ := hx i (by omega)
      obtain ⟨x, p, hb, rfl⟩ := open_b h2 fun n hn => hall n (List.mem_cons_of_mem _ (List.mem_append_left _ (weightsAll_mem (List.mem_map.2 ⟨i, List.mem_range.2 hi, rfl⟩) hn)))
      exact ⟨x, p, hb, h1⟩)
    refine ⟨some a, m, (List.range len).map X, by simp, ⟨by simp; omega, fun h0 => ?_⟩, by simpa using hlc, hmx⟩
    have h0' : 0 < len := by simpa using h0
    have ha : a = ⟨a.block, a.off, none⟩ := by
      obtain ⟨_, _, this⟩ := hX 0 h0'
      rw [show a.add (0 * 6) = a by unfold Addr.add; simp] at this
      exact spot_none this (by omega)
    refine ⟨a.block, a.off, by rw [← ha], ?_, fun i hi => ?_⟩
    · obtain ⟨_, _, this⟩ := hX 0 h0'
      rw [ha, addr_add] at this
      exact (cells_at this (by omega)).1
    · have hi' : i < len := by simpa using hi
      obtain ⟨p, hb, this⟩ := hX i hi'
      rw [ha, addr_add] at this
      have hc := (cells_at this (by omega)).2
      simp only [List.getElem_map, List.getElem_range]
      exact ⟨p, ⟨hc 0 _ rfl, hc 1 _ rfl, hc 2 _ rfl, hc 3 _ rfl, hc 4 _ rfl, hc 5 _ rfl⟩, hb⟩

/-- A program that comes in. -/
theorem open_prog {H : Type} {enc : TypeId × Value → H} {W : World} {r : Reach} {b0 : Nat} {held : Bool} {v : Value} {d : DataW H} {p : List MemPlace} (hv : Value.okWide Tryd.prog W r b0 24 v) (h : DataW.Trod enc Tryd.prog W 0 (fun _ => true) held 24 v d p) (hw : ∀ n, n ∈ d.weights Tryd.prog 24 → n ≤ reachBytes) :
    ∃ (ao : Option Addr) (cap : Nat) (ps : List Bk), v = .agg #[.slice ao ps.length cap] ∧ PAt W ao ps ∧ ps.length ≤ cap ∧ cap ≤ maxLen := by
  obtain ⟨cs, rfl, hsz⟩ := okWide_struct Tryd.underlying24 hv
  have k24 : Tryd.prog.cellsOf 24 = 1 := by kernel_rfl
  have k22 : Tryd.prog.cellsOf 22 = 1 := by kernel_rfl
  rw [k24] at hsz
  obtain ⟨l⟩ := cs
  clear hv
  match l, hsz with
  | [c0], _ =>
    obtain ⟨fuel, hf⟩ := h
    obtain ⟨xs, n, _, hx, _, hlen, hff⟩ := DataW.trod_struct Tryd.underlying24 hf
    match xs, hlen with
    | [y0], _ =>
      have h0 : DataW.trod enc Tryd.prog W 0 (fun _ => true) held n 22 ((([c0] : List Value).drop 0).take (Tryd.prog.cellsOf 22)) = some y0 := hff 0 _ rfl
      rw [k22] at h0
      have hd : d = .agg [y0.1] := by simpa using congrArg Prod.fst hx
      obtain ⟨ao, cap, ps, e, hp, h1, h2⟩ := open_blocks (y := y0) h0 fun n hn => hw n (by
        rw [hd]
        unfold DataW.weights
        simp only [Tryd.underlying24]
        exact DataW.weights_mem_each (ts := [22]) (ds := [y0.1]) (j := 0) rfl rfl n hn)
      have e' : [c0] = [Value.slice ao ps.length cap] := e
      obtain rfl : c0 = .slice ao ps.length cap := by simpa using e'
      exact ⟨ao, cap, ps, rfl, hp, h1, h2⟩
end Go.Proofs.YtlinekpaffgcjaaDoor.Op

namespace Go.Proofs.YtlinekpaffgcjaaDoor.Li
open Go.ChangeShapes Go.WideShapes Go.ChangeAt Go.RowKit
open _root_.Go.Proofs.YtlinekpaffgcjaaDoor.Op

set_option maxRecDepth 100000 in
theorem tells_wit (os : Os) (H : Type) (enc : TypeId × Value → H) : ∃ (w : World) (tape : Tape) (i : Input), w.os = os ∧ (w.forCall tape i).Shaped Tryd.prog ∧ i.vars = [] ∧ Input.okWide Tryd.prog (w.forCall tape i) .any w.heap.size 3 i ∧
      ((Rows.liveTellsSpec.pre enc Tryd.prog Tryd.f3 [] false (w.forCall tape i).memory i.args ∧ laidMetH Tryd.prog Rows.liveTellsRow.laid (w.forCall tape i).memory) ∧ sizedMet enc Tryd.prog Tryd.f3 (OpenSpec.ofChange Rows.liveTellsSpec) false (w.forCall tape i).memory i.args) ∧ Assume.holds {} Tryd.prog (lone (Frame.enter Tryd.prog 3 i.args .normal) [] (w.forCall tape i)) :=
  ChangeSpec.witness_shaped (enc := enc) (C := Tryd.checked) (os := os) (X := fun w _ => laidMetH Tryd.prog Rows.liveTellsRow.laid w) false ((World.holding Tryd.prog os ⟨#[], #[], []⟩).layVars Tryd.prog laid1) #[.agg #[.slice none 0 0], .int .i64 0, .int .i64 0] 8 (wit_os os)
    (World.shaped_of_ZipB (by kernel_rfl) (by kernel_rfl)) (by kernel_rfl) (by kernel_rfl) (by kernel_rfl) (wit_met os _)

set_option maxRecDepth 100000 in
theorem tells_lifted (os : Os) (started : os.Started) (H : Type) (enc : TypeId × Value → H) :
    ReturnsInHanded {} Tryd.checked os 3 .any (fun w args => (Rows.liveTellsSpec.pre enc Tryd.prog Tryd.f3 [] false w args ∧ laidMetH Tryd.prog Rows.liveTellsRow.laid w) ∧ sizedMet enc Tryd.prog Tryd.f3 (OpenSpec.ofChange Rows.liveTellsSpec) false w args)
      (Rows.liveTellsSpec.post enc Tryd.prog Tryd.f3 false true false false) := by
  refine wrap started (by kernel_rfl) Tryd.func3 (tells_wit os H enc) ?_
  intro W base args ds gs before hval0 hW hsz hL _
  have hval : ∀ (j : Nat) t v, Tryd.f3.params[j]? = some t → args[j]? = some v → Value.okWide Tryd.prog W .any base t v := hval0
  have hW' := hW
  obtain ⟨p, q, hA0, hV, rfl, _, _⟩ := hW
  have hA : DataW.TrodAll enc Tryd.prog W 0 (fun _ => true) true Tryd.f3.params.toList args.toList ds p := hA0
  rw [Tryd.params3] at hA hval hsz
  obtain ⟨v0, v1, v2, d0, d1, d2, p0, p1, p2, rfl, rfl, rfl, h0, h1, h2⟩ := trodAll_three hA
  obtain ⟨rfl, rfl⟩ := trodVars_none hV
  obtain ⟨ao, cap, ps, rfl, hp, hc, hm⟩ := open_prog (hval 0 24 v0 rfl rfl) h0 fun n hn => by
    have := List.all_eq_true.1 hsz n (DataW.weights_mem_each (j := 0) rfl rfl n hn)
    simpa using this
  obtain ⟨n, rfl, rfl, rfl, hn⟩ := open_int Tryd.underlying3 (hval 1 3 v1 rfl rfl) h1
  obtain ⟨m, rfl, rfl, rfl, hm2⟩ := open_int Tryd.underlying3 (hval 2 3 v2 rfl rfl) h2
  simp only [List.append_nil] at hW'
  refine (law_tells ao cap ps n m W hp (env_of hL)).mono fun e W' ⟨he, hb⟩ => ?_
  subst he
  refine ⟨_, rfl, _, _, _, [], p0 ++ ([] ++ []), [], hW', trodAll_mk1 (shut_bool Tryd.underlying4 _), ?_, rfl, hb.frame _, fun h => by cases h⟩
  rw [Tryd.params3]
  refine trodAll_mk3 (Below.trod laidOut (by kernel_rfl) (by rw [tySize]; decide) h0 hb fun x hx => ?_) (Below.trod laidOut (by kernel_rfl) (by rw [tySize]; decide) h1 hb (fun x hx => by cases hx)) (Below.trod laidOut (by kernel_rfl) (by rw [tySize]; decide) h2 hb (fun x hx => by cases hx))
  obtain ⟨fuel, hf⟩ := h0
  exact DataW.trod_lt _ _ _ _ hf x hx

theorem tells_row : Rows.LiveTellsSaid :=
  OpenClaim.holds_of_wide 3 Tryd.f3 rfl rfl rfl rfl rfl rfl rfl ⟨rfl, rfl, rfl, rfl, rfl⟩ rfl rfl rfl rfl rfl (by kernel_rfl) Tryd.func3 (by kernel_rfl)
    (of_decide_eq_true (by kernel_rfl)) (by unfold Func.isWrapper; first | (rw [if_pos (by decide +kernel)]; kernel_rfl) | (rw [if_neg (by decide +kernel)]; exact ⟨rfl, rfl⟩))
    (fun os started H enc _ => tells_lifted os started H enc)

theorem tells : Rows.LiveTellsCardSaid :=
  Claim7.holds_tied_plain_at .later [] [.data] true (true, "75e7f77dae7501dedbe8b7086441ab48424e2c82ddf11b836d99d5a1a0a0c239") false tells_row (fun _ h => by cases h) (by kernel_rfl) (fun _ h => by cases h) liveTells_row_tie rfl ⟨rfl, rfl⟩ (by kernel_rfl) rfl
    (fun f fn hf hfn => by
      obtain rfl : f = 3 := Option.some.inj ((show Tryd.prog.funcNamed "hayloft/hayloftlaw08.LiveTells" = some 3 by kernel_rfl).symm.trans hf) |>.symm
      obtain rfl : fn = Tryd.f3 := (Option.some.inj (Tryd.func3.symm.trans hfn)).symm
      exact ⟨by kernel_rfl, fun j t ht => by
        rw [Tryd.params3] at ht
        have hm : t ∈ [24, 3, 3] := by simpa using Array.mem_of_getElem? ht
        have hall : ([24, 3, 3].all fun u => !Tryd.prog.wantsStandIn u) = true := by kernel_rfl
        exact (show Tryd.prog.wantsStandIn t = false by simpa using List.all_eq_true.1 hall t hm)⟩)
    (by kernel_rfl)

end Go.Proofs.YtlinekpaffgcjaaDoor.Li
