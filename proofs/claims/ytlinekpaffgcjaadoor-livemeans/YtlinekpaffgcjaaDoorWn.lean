/- The statements' own wake-up: what the document says of a loop: read off the program by the walk. Conditions: the variable lies in memory as the program lays it. -/
import Derived.Test.YtlinekpaffgcjaaDoorWl
namespace Go.Proofs.YtlinekpaffgcjaaDoor.Li
open Go.ChangeShapes Go.WideShapes Go.ChangeAt Go.RowKit Go.Maps
open _root_.Go.Proofs.YtlinekpaffgcjaaDoor.So _root_.Go.Proofs.YtlinekpaffgcjaaDoor.Op _root_.Go.Proofs.YtlinekpaffgcjaaDoor.Fl _root_.Go.Proofs.YtlinekpaffgcjaaDoor.Lv
set_option maxRecDepth 20000

/-- Two lists of sets, and the program's own box. -/
structure Wv (V W : World) (bx a c b d : Nat) : Prop where
  b0 : Below V.heap.size V W
  i0 : W.cell? ⟨a, 0, none⟩ = some (.int .u32 22)
  i1 : W.cell? ⟨a, 1, none⟩ = some (.int .u32 2)
  o0 : W.cell? ⟨b, 0, none⟩ = some (.int .u32 22)
  ia : a < W.heap.size
  ib : b < W.heap.size
set_option maxHeartbeats 2000000 in
theorem wakes_any (w : World) (hE : Env w) : Calls Tryd.prog 9 #[] w fun e w' => e = .returned (.bool true) ∧ Below w.heap.size w w' := by
  obtain ⟨V, hV⟩ : ∃ V, V = ((w.alloc (.cells #[.int .i8 2, .int .u8 1, .int .u8 1, .int .u8 2, .int .i64 0] 51)).alloc (.cells #[.slice none 0 0, .int .i8 3, .int .u8 4, .slice (some ⟨w.heap.size, 0, none⟩) 1 1, .int .i64 1, .int .i64 0, .slice none 0 0, .int .i8 2, .int .u8 1, .slice none 0 0, .int .i64 0, .int .i64 0] 47)).alloc (.cells #[.slice (some ⟨w.heap.size + 1, 0, none⟩) 2 2] 24) := ⟨_, rfl⟩
  have hb0 : Below w.heap.size w V := by rw [hV]; go_grown
  have hP : PAt V (some ⟨w.heap.size + 1, 0, none⟩) wk2 := by rw [hV]; exact wk2_pat w
  have hEV : Env V := hE.up hb0
  have hbx : V.cell? ⟨w.heap.size + 2, 0, none⟩ = some (.slice (some ⟨w.heap.size + 1, 0, none⟩) 2 2) ∧ w.heap.size + 2 < V.heap.size := by
    have h := At.new' ((w.alloc (.cells #[.int .i8 2, .int .u8 1, .int .u8 1, .int .u8 2, .int .i64 0] 51)).alloc (.cells #[.slice none 0 0, .int .i8 3, .int .u8 4, .slice (some ⟨w.heap.size, 0, none⟩) 1 1, .int .i64 1, .int .i64 0, .slice none 0 0, .int .i8 2, .int .u8 1, .slice none 0 0, .int .i64 0, .int .i64 0] 47)) #[.slice (some ⟨w.heap.size + 1, 0, none⟩) 2 2] 24 (w.heap.size + 2) (by simp)
    rw [← hV] at h
    exact ⟨h.c 0 _ rfl, h.lt⟩
  have HI : Hid (∀ W, W = V → Calls Tryd.prog 12 #[.agg #[.slice (some ⟨w.heap.size + 1, 0, none⟩) 2 2]] W fun e w' => ∃ a c, e = .returned (.slice (some ⟨a, 0, none⟩) 2 c) ∧ w'.cell? ⟨a, 0, none⟩ = some (.int .u32 22) ∧ w'.cell? ⟨a, 1, none⟩ = some (.int .u32 2) ∧ a < w'.heap.size ∧ Below V.heap.size V w') := by
    rintro W rfl
    have h := in_is (some ⟨w.heap.size + 1, 0, none⟩) 2 wk2 W hP hEV
    rw [wk2_len, wk2_in] at h
    refine h.mono ?_
    rintro e w' ⟨a, c, rfl, hU, _, hb⟩
    obtain ⟨b, rfl, hlt⟩ := hU.addr (by decide)
    exact ⟨b, c, rfl, hU.at (t := 0) (by decide), hU.at (t := 1) (by decide), hlt, hb⟩
  have HO : Hid (∀ W, Below V.heap.size V W → Calls Tryd.prog 14 #[.agg #[.slice (some ⟨w.heap.size + 1, 0, none⟩) 2 2]] W fun e w' => ∃ a c, e = .returned (.slice (some ⟨a, 0, none⟩) 2 c) ∧ w'.cell? ⟨a, 0, none⟩ = some (.int .u32 22) ∧ a < w'.heap.size ∧ Below W.heap.size W w') := fun W hW => by
    have h := out_is (some ⟨w.heap.size + 1, 0, none⟩) 2 wk2 W (hP.below hW) (hEV.up hW)
    rw [wk2_len, wk2_in, wk2_out] at h
    refine h.mono ?_
    rintro e w' ⟨a, c, rfl, hU, _, hb⟩
    obtain ⟨b, rfl, hlt⟩ := hU.addr (by decide)
    exact ⟨b, c, rfl, hU.at (t := 0) (by decide), hlt, hb⟩
  have HA1 : Hid (∀ W, Below V.heap.size V W → Calls Tryd.prog 16 #[.agg #[.slice (some ⟨w.heap.size + 1, 0, none⟩) 2 2], .int .i64 1, .int .i64 0] W fun e w' => e = .returned (.int .u32 2) ∧ Below W.heap.size W w') := fun W hW => by
    have h := at_is (some ⟨w.heap.size + 1, 0, none⟩) 2 wk2 1 0 W (hP.below hW) (hEV.up hW) (by rw [wk2_in]; exact wk2_is)
    rw [wk2_len, wk2_in, wk2_at1] at h
    exact h
  have HA2 : Hid (∀ W, Below V.heap.size V W → Calls Tryd.prog 16 #[.agg #[.slice (some ⟨w.heap.size + 1, 0, none⟩) 2 2], .int .i64 2, .int .i64 0] W fun e w' => e = .returned (.int .u32 0) ∧ Below W.heap.size W w') := fun W hW => by
    have h := at_is (some ⟨w.heap.size + 1, 0, none⟩) 2 wk2 2 0 W (hP.below hW) (hEV.up hW) (by rw [wk2_in]; exact wk2_is)
    rw [wk2_len, wk2_in, wk2_at2] at h
    exact h
  have HB0 : Hid (Below w.heap.size w V ∧ V.cell? ⟨w.heap.size + 2, 0, none⟩ = some (.slice (some ⟨w.heap.size + 1, 0, none⟩) 2 2) ∧ w.heap.size + 2 < V.heap.size) := ⟨hb0, hbx⟩
  have HV : Hid _ := hV
  clear hE hb0 hP hEV hbx hV
  go_enter Tryd.func9, Tryd.ntmps9
  go_wp2_with (first
    | (go_at_call 12; refine Calls.mono (HI.out _ HV.out.symm) ?_; rintro e w1 ⟨a, c, rfl, i0, i1, ia, hb1⟩; have HW1 : Hid (Below V.heap.size V w1 ∧ w1.cell? ⟨a, 0, none⟩ = some (.int .u32 22) ∧ w1.cell? ⟨a, 1, none⟩ = some (.int .u32 2) ∧ a < w1.heap.size) := ⟨hb1, i0, i1, ia⟩; have cb : w1.cell? ⟨w.heap.size + 2, 0, none⟩ = some (.slice (some ⟨w.heap.size + 1, 0, none⟩) 2 2) := (by rw [(bcell hb1).1 _ _ HB0.out.2.2]; exact HB0.out.2.1); clear hb1 i0 i1 ia HI)
    | (go_at_call 14; refine Calls.mono (HO.out _ HW1.out.1) ?_; rintro e w2 ⟨b, d, rfl, o0, ib, hb2⟩; have HW2 : Hid (Wv V w2 (w.heap.size + 2) a c b d) := ⟨HW1.out.1.trans (hb2.mono HW1.out.1.size), by rw [(bcell hb2).1 _ _ HW1.out.2.2.2]; exact HW1.out.2.1, by rw [(bcell hb2).1 _ _ HW1.out.2.2.2]; exact HW1.out.2.2.1, o0, Nat.lt_of_lt_of_le HW1.out.2.2.2 hb2.size, ib⟩; clear hb2 o0 ib HO HW1 cb))
  have hx0 : ∀ z : Wd (Below w2.heap.size w2), Below V.heap.size V z.w := fun z => HW2.out.b0.trans (z.ok.mono HW2.out.b0.size)
  have e0 : ∀ z : Wd (Below w2.heap.size w2), z.w.cell? ⟨w.heap.size + 2, 0, none⟩ = some (.slice (some ⟨w.heap.size + 1, 0, none⟩) 2 2) := fun z => by rw [(bcell (hx0 z)).1 _ _ HB0.out.2.2]; exact HB0.out.2.1
  have e1 : ∀ z : Wd (Below w2.heap.size w2), z.w.cell? ⟨a, 0, none⟩ = some (.int .u32 22) := fun z => by rw [(bcell z.ok).1 _ _ HW2.out.ia]; exact HW2.out.i0
  have e2 : ∀ z : Wd (Below w2.heap.size w2), z.w.cell? ⟨a, 1, none⟩ = some (.int .u32 2) := fun z => by rw [(bcell z.ok).1 _ _ HW2.out.ia]; exact HW2.out.i1
  have e3 : ∀ z : Wd (Below w2.heap.size w2), z.w.cell? ⟨b, 0, none⟩ = some (.int .u32 22) := fun z => by rw [(bcell z.ok).1 _ _ HW2.out.ib]; exact HW2.out.o0
  haveI inst : Nonempty (Wd (Below w2.heap.size w2)) := ⟨⟨w2, Below.refl _ _⟩⟩
  have HX : Hid _ := hx0
  clear hx0
  refine wp_region_in (Below w2.heap.size w2) (by kernel_rfl) (by kernel_rfl) ((Below.refl _ _).drew) ?_
  repeat (first | go_big_quiet_step ((first
    | (go_at_call_of 16 (Value.int IntKind.i64 1); exact calls_in (Nat.le_refl _) _ (HA1.out _ (HX.out _)))
    | (go_at_call_of 16 (Value.int IntKind.i64 2); exact calls_in (Nat.le_refl _) _ (HA2.out _ (HX.out _))))))
  refine wpQuiet_nil ?_
  rintro _ ⟨x, rfl⟩
  have hx := HX.out x
  go_wp2_with fail
  go_ret
  exact ⟨rfl, HB0.out.1.trans (hx.mono HB0.out.1.size)⟩
end Go.Proofs.YtlinekpaffgcjaaDoor.Li
