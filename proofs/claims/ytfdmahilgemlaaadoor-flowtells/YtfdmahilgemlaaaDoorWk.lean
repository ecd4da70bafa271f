/- The statements' own wake-up: what the document says of four blocks: read off the program by the walk. Conditions: the variable lies in memory as the program lays it. -/
import Derived.Test.YtfdmahilgemlaaaDoorWa
import Derived.Deep.DeepCutAuto
namespace Go.Proofs.YtfdmahilgemlaaaDoor.Fl
open Go.ChangeShapes Go.WideShapes Go.ChangeAt Go.RowKit
open _root_.Go.Proofs.YtfdmahilgemlaaaDoor.So _root_.Go.Proofs.YtfdmahilgemlaaaDoor.Ss _root_.Go.Proofs.YtfdmahilgemlaaaDoor.Op _root_.Go.Proofs.YtfdmahilgemlaaaDoor.Fw
set_option maxRecDepth 20000

theorem rowsT {xs : List Int} (a b : Option Addr) (c d B B' : Nat) (W : World) (h : Il W B a xs) (g : Il W B' b xs) (hl : xs.length < 1099511627776) :
    Calls Tryd.prog 7 #[.slice a xs.length c, .slice b xs.length d] W fun e w' => e = .returned (.bool true) ∧ Below W.heap.size W w' :=
  (rows_any a b c d xs xs B B' W h g hl hl).mono fun e w' ⟨h1, q, h2⟩ => ⟨by rw [h1]; simp, by subst h2; exact ⟨rfl, rfl, rfl, Nat.le_refl _, fun _ _ => rfl⟩⟩
theorem il1 (W : World) (x : Int) : Il (W.alloc (.cells #[.int .i64 x] 3)) W.heap.size (some ⟨W.heap.size, 0, none⟩) [x] :=
  ⟨fun _ => ⟨_, rfl, Nat.le_refl _, by simp, fun i hi => by obtain rfl : i = 0 := by simp at hi; omega
                                                            exact (At.new W #[.int .i64 x] 3).c 0 _ rfl⟩⟩
theorem il2 (W : World) (x y : Int) : Il (W.alloc (.cells #[.int .i64 x, .int .i64 y] 3)) W.heap.size (some ⟨W.heap.size, 0, none⟩) [x, y] :=
  ⟨fun _ => ⟨_, rfl, Nat.le_refl _, by simp, fun i hi => by
    have : i = 0 ∨ i = 1 := by simp at hi; omega
    rcases this with rfl | rfl
    · exact (At.new W #[.int .i64 x, .int .i64 y] 3).c 0 _ rfl
    · exact (At.new W #[.int .i64 x, .int .i64 y] 3).c 1 _ rfl⟩⟩
theorem il3 (W : World) (x y z : Int) : Il (W.alloc (.cells #[.int .i64 x, .int .i64 y, .int .i64 z] 3)) W.heap.size (some ⟨W.heap.size, 0, none⟩) [x, y, z] :=
  ⟨fun _ => ⟨_, rfl, Nat.le_refl _, by simp, fun i hi => by
    have : i = 0 ∨ i = 1 ∨ i = 2 := by simp at hi; omega
    rcases this with rfl | rfl | rfl
    · exact (At.new W #[.int .i64 x, .int .i64 y, .int .i64 z] 3).c 0 _ rfl
    · exact (At.new W #[.int .i64 x, .int .i64 y, .int .i64 z] 3).c 1 _ rfl
    · exact (At.new W #[.int .i64 x, .int .i64 y, .int .i64 z] 3).c 2 _ rfl⟩⟩
theorem Il.alloc {w : World} {B : Nat} {a : Option Addr} {xs : List Int} (h : Il w B a xs) (o : Obj) : Il (w.alloc o) B a xs := h.below ((Below.refl _ _).alloc (Nat.le_refl _) o)
/-- As far as here, since a world. -/
structure Up (w0 w : World) (bx : Nat) (v : Value) : Prop where
  b : Below w0.heap.size w0 w
  c : w.cell? ⟨bx, 0, none⟩ = some v
  lt : bx < w0.heap.size
theorem Up.go {w0 w w' : World} {bx : Nat} {v : Value} (h : Up w0 w bx v) (hb : Below w.heap.size w w') : Up w0 w' bx v :=
  ⟨h.b.trans (hb.mono h.b.size), by rw [World.cell?_of_block (w := w) (hb.block bx (Nat.lt_of_lt_of_le h.lt h.b.size))]; exact h.c, h.lt⟩
theorem Up.al {w0 w : World} {bx : Nat} {v : Value} (h : Up w0 w bx v) (o : Obj) : Up w0 (w.alloc o) bx v := h.go ((Below.refl _ _).alloc (Nat.le_refl _) o)

theorem wk4_len : wk4.length = 4 := rfl

set_option maxHeartbeats 8000000 in
theorem wakes_any (w : World) (hE : Env w) : Calls Tryd.prog 14 #[] w fun e w' => e = .returned (.bool true) ∧ Below w.heap.size w w' := by
  obtain ⟨V, hV⟩ : ∃ V, V = (w.alloc (.cells #[.slice none 0 0, .int .i8 1, .int .u8 0, .slice none 0 0, .int .i64 1, .int .i64 2, .slice none 0 0, .int .i8 0, .int .u8 0, .slice none 0 0, .int .i64 0, .int .i64 0, .slice none 0 0, .int .i8 2, .int .u8 0, .slice none 0 0, .int .i64 0, .int .i64 0, .slice none 0 0, .int .i8 0, .int .u8 0, .slice none 0 0, .int .i64 3, .int .i64 0] 50)).alloc (.cells #[.slice (some ⟨w.heap.size, 0, none⟩) 4 4] 24) := ⟨_, rfl⟩
  have hb0 : Below w.heap.size w V := by rw [hV]; go_grown
  have hP : PAt V (some ⟨w.heap.size, 0, none⟩) wk4 := by rw [hV]; exact wk4_pat w
  have hEV : Env V := hE.up hb0
  have hbx : V.cell? ⟨w.heap.size + 1, 0, none⟩ = some (.slice (some ⟨w.heap.size, 0, none⟩) 4 4) ∧ w.heap.size + 1 < V.heap.size := by
    rw [hV]; simp
  have HR : Hid (Calls Tryd.prog 5 #[.agg #[.slice (some ⟨w.heap.size, 0, none⟩) 4 4]] ((w.alloc (.cells #[.slice none 0 0, .int .i8 1, .int .u8 0, .slice none 0 0, .int .i64 1, .int .i64 2, .slice none 0 0, .int .i8 0, .int .u8 0, .slice none 0 0, .int .i64 0, .int .i64 0, .slice none 0 0, .int .i8 2, .int .u8 0, .slice none 0 0, .int .i64 0, .int .i64 0, .slice none 0 0, .int .i8 0, .int .u8 0, .slice none 0 0, .int .i64 3, .int .i64 0] 50)).alloc (.cells #[.slice (some ⟨w.heap.size, 0, none⟩) 4 4] 24)) fun e w' => ∃ a c, e = .returned (.slice a 2 c) ∧ Ll w' V.heap.size a [[0, 1], [3]] ∧ Up V w' (w.heap.size + 1) (.slice (some ⟨w.heap.size, 0, none⟩) 4 4)) := by
    rw [← hV]
    have h := rings_any (some ⟨w.heap.size, 0, none⟩) 4 wk4 V hP hEV
    rw [wk4_len] at h
    refine h.mono ?_
    rintro e w' ⟨v, rfl, a, c, rfl, h1, h2⟩
    rw [wk4_rings] at h1 ⊢
    exact ⟨a, c, rfl, h1, h2, by rw [World.cell?_of_block (w := V) (h2.block _ hbx.2)]; exact hbx.1, hbx.2⟩
  have HA : Hid (∀ W, Up V W (w.heap.size + 1) (.slice (some ⟨w.heap.size, 0, none⟩) 4 4) → Calls Tryd.prog 8 #[.agg #[.slice (some ⟨w.heap.size, 0, none⟩) 4 4], .int .i64 0] W fun e w' => ∃ a c, e = .returned (.slice a 2 c) ∧ Il w' W.heap.size a [1, 2] ∧ Below W.heap.size W w') := fun W hU => by
    have h := after_any (some ⟨w.heap.size, 0, none⟩) 4 wk4 0 W (hP.below hU.b) (hEV.up hU.b)
    rw [wk4_len] at h
    refine h.mono ?_
    rintro e w' ⟨v, rfl, a, c, rfl, h1, h2⟩
    rw [wk4_after] at h1 ⊢
    exact ⟨a, c, rfl, h1, h2⟩
  have HD : Hid (∀ W, Up V W (w.heap.size + 1) (.slice (some ⟨w.heap.size, 0, none⟩) 4 4) → Calls Tryd.prog 10 #[.agg #[.slice (some ⟨w.heap.size, 0, none⟩) 4 4], .int .i64 0] W fun e w' => ∃ a c, e = .returned (.slice a 1 c) ∧ Il w' W.heap.size a [1] ∧ Below W.heap.size W w') := fun W hU => by
    have h := ahead_any (some ⟨w.heap.size, 0, none⟩) 4 wk4 0 W (hP.below hU.b) (hEV.up hU.b)
    rw [wk4_len] at h
    refine h.mono ?_
    rintro e w' ⟨v, rfl, a, c, rfl, h1, h2⟩
    rw [wk4_ahead] at h1 ⊢
    exact ⟨a, c, rfl, h1, h2⟩
  have HC : Hid (∀ W, Up V W (w.heap.size + 1) (.slice (some ⟨w.heap.size, 0, none⟩) 4 4) → Calls Tryd.prog 12 #[.agg #[.slice (some ⟨w.heap.size, 0, none⟩) 4 4]] W fun e w' => ∃ a c, e = .returned (.slice a 3 c) ∧ Il w' W.heap.size a [0, 1, 2] ∧ Below W.heap.size W w') := fun W hU => by
    have h := reached_any (some ⟨w.heap.size, 0, none⟩) 4 wk4 W (hP.below hU.b) (hEV.up hU.b)
    rw [wk4_len] at h
    refine h.mono ?_
    rintro e w' ⟨v, rfl, a, c, rfl, h1, h2⟩
    rw [wk4_reach] at h1 ⊢
    exact ⟨a, c, rfl, h1, h2⟩
  have H71 : Hid (∀ (x : Int) a b c d B W, Il W B a [x] → b = W.heap.size → Calls Tryd.prog 7 #[.slice a 1 c, .slice (some ⟨b, 0, none⟩) 1 d] (W.alloc (.cells #[.int .i64 x] 3)) fun e w' => e = .returned (.bool true) ∧ Below (W.alloc (.cells #[.int .i64 x] 3)).heap.size (W.alloc (.cells #[.int .i64 x] 3)) w') := fun x a b c d B W h hb => by
    subst hb
    have h' := rowsT (xs := [x]) a (some ⟨W.heap.size, 0, none⟩) c d B W.heap.size _ (h.alloc _) (il1 W x) (by simp)
    rw [show [x].length = 1 from rfl] at h'
    exact h'
  have H72 : Hid (∀ (x y : Int) a b c d B W, Il W B a [x, y] → b = W.heap.size → Calls Tryd.prog 7 #[.slice a 2 c, .slice (some ⟨b, 0, none⟩) 2 d] (W.alloc (.cells #[.int .i64 x, .int .i64 y] 3)) fun e w' => e = .returned (.bool true) ∧ Below (W.alloc (.cells #[.int .i64 x, .int .i64 y] 3)).heap.size (W.alloc (.cells #[.int .i64 x, .int .i64 y] 3)) w') := fun x y a b c d B W h hb => by
    subst hb
    have h' := rowsT (xs := [x, y]) a (some ⟨W.heap.size, 0, none⟩) c d B W.heap.size _ (h.alloc _) (il2 W x y) (by simp)
    rw [show [x, y].length = 2 from rfl] at h'
    exact h'
  have H73 : Hid (∀ (x y z : Int) a b c d B W, Il W B a [x, y, z] → b = W.heap.size → Calls Tryd.prog 7 #[.slice a 3 c, .slice (some ⟨b, 0, none⟩) 3 d] (W.alloc (.cells #[.int .i64 x, .int .i64 y, .int .i64 z] 3)) fun e w' => e = .returned (.bool true) ∧ Below (W.alloc (.cells #[.int .i64 x, .int .i64 y, .int .i64 z] 3)).heap.size (W.alloc (.cells #[.int .i64 x, .int .i64 y, .int .i64 z] 3)) w') := fun x y z a b c d B W h hb => by
    subst hb
    have h' := rowsT (xs := [x, y, z]) a (some ⟨W.heap.size, 0, none⟩) c d B W.heap.size _ (h.alloc _) (il3 W x y z) (by simp)
    rw [show [x, y, z].length = 3 from rfl] at h'
    exact h'
  have HB0 : Hid (Below w.heap.size w V) := hb0
  clear hE hb0 hP hEV hbx hV
  go_enter Tryd.func14, Tryd.ntmps14
  go_wp2_with (first
    | (go_at_call 5; refine Calls.mono HR.out ?_; rintro e w5 ⟨aR, cR, rfl, hL, hU⟩; have HL : Hid (Ll w5 V.heap.size aR [[0, 1], [3]]) := hL; have HU : Hid (Up V w5 (w.heap.size + 1) (.slice (some ⟨w.heap.size, 0, none⟩) 4 4)) := hU; have cu := hU.c; have HW5 : Hid (Below w5.heap.size w5 w5) := Below.refl _ _; clear hL hU HR)
    | (go_at_call 8; refine Calls.mono (HA.out _ HU.out) ?_; rintro e w1 ⟨aA, cA, rfl, hI, hb⟩; have HU1 : Hid (Up V w1 (w.heap.size + 1) (.slice (some ⟨w.heap.size, 0, none⟩) 4 4)) := HU.out.go hb; have HW1 : Hid (Below w5.heap.size w5 w1) := hb; have HI1 : Hid (Il w1 _ aA [1, 2]) := hI; clear hI hb HU cu HA)
    | (go_at_call 7; have hx := HI1.out; clear hx; refine Calls.mono (H72.out _ _ _ _ _ _ _ _ HI1.out rfl) ?_; rintro e w2 ⟨rfl, hb⟩; have HU2 : Hid (Up V w2 (w.heap.size + 1) (.slice (some ⟨w.heap.size, 0, none⟩) 4 4)) := (HU1.out.al _).go hb; have HW2 : Hid (Below w5.heap.size w5 w2) := (HW1.out.alloc HW1.out.size _).trans (hb.mono (by have := HW1.out.size; simp; omega)); have cu := HU2.out.c; clear hb HU1 HW1 HI1)
    | (go_at_call 10; refine Calls.mono (HD.out _ HU2.out) ?_; rintro e w3 ⟨aD, cD, rfl, hI, hb⟩; have HU3 : Hid (Up V w3 (w.heap.size + 1) (.slice (some ⟨w.heap.size, 0, none⟩) 4 4)) := HU2.out.go hb; have HW3 : Hid (Below w5.heap.size w5 w3) := HW2.out.trans (hb.mono HW2.out.size); have HI3 : Hid (Il w3 _ aD [1]) := hI; clear hI hb HU2 HW2 cu HD)
    | (go_at_call 7; have hx := HI3.out; clear hx; refine Calls.mono (H71.out _ _ _ _ _ _ _ HI3.out rfl) ?_; rintro e w4 ⟨rfl, hb⟩; have HU4 : Hid (Up V w4 (w.heap.size + 1) (.slice (some ⟨w.heap.size, 0, none⟩) 4 4)) := (HU3.out.al _).go hb; have HW4 : Hid (Below w5.heap.size w5 w4) := (HW3.out.alloc HW3.out.size _).trans (hb.mono (by have := HW3.out.size; simp; omega)); have cu := HU4.out.c; clear hb HU3 HW3 HI3)
    | (go_at_call 12; refine Calls.mono (HC.out _ HU4.out) ?_; rintro e w6 ⟨aC, cC, rfl, hI, hb⟩; have HW6 : Hid (Below w5.heap.size w5 w6) := HW4.out.trans (hb.mono HW4.out.size); have HI6 : Hid (Il w6 _ aC [0, 1, 2]) := hI; have HU6 : Hid (Up V w6 (w.heap.size + 1) (.slice (some ⟨w.heap.size, 0, none⟩) 4 4)) := HU4.out.go hb; clear hI hb HU4 HW4 cu HC)
    | (go_at_call 7; have hx := HI6.out; clear hx; refine Calls.mono (H73.out _ _ _ _ _ _ _ _ _ HI6.out rfl) ?_; rintro e w7 ⟨rfl, hb⟩; have HU7 : Hid (Up V w7 (w.heap.size + 1) (.slice (some ⟨w.heap.size, 0, none⟩) 4 4)) := (HU6.out.al _).go hb; have HW7 : Hid (Below w5.heap.size w5 w7) := (HW6.out.alloc HW6.out.size _).trans (hb.mono (by have := HW6.out.size; simp; omega)); obtain ⟨bR, rfl, hR1, hR2, hRc⟩ := HL.out.is (by simp); obtain ⟨a0, k0, c70, i70⟩ := hRc 0 (by simp); obtain ⟨a1, k1, c71, i71⟩ := hRc 1 (by simp); have HR7 : Hid (w5.cell? ⟨bR, 1, none⟩ = some (.slice a1 1 k1) ∧ Il w5 V.heap.size a0 [0, 1] ∧ Il w5 V.heap.size a1 [3] ∧ bR < w5.heap.size) := ⟨c71, i70, i71, hR2⟩; have cr : w7.cell? ⟨bR, 0, none⟩ = some (.slice a0 2 k0) := (by rw [World.cell?_of_block (w := w5) (HW7.out.block bR hR2)]; exact c70); clear hb HU6 HW6 HI6 hR1 hR2 hRc c70 c71 i70 i71 HL)
    | (go_at_call 7; have hx := HW7.out; clear hx; refine Calls.mono (H72.out _ _ _ _ _ _ _ _ (HR7.out.2.1.below HW7.out) rfl) ?_; rintro e w8 ⟨rfl, hb⟩; have HU8 : Hid (Up V w8 (w.heap.size + 1) (.slice (some ⟨w.heap.size, 0, none⟩) 4 4)) := (HU7.out.al _).go hb; have HW8 : Hid (Below w5.heap.size w5 w8) := (HW7.out.alloc HW7.out.size _).trans (hb.mono (by have := HW7.out.size; simp; omega)); have cr1 : w8.cell? ⟨bR, 1, none⟩ = some (.slice a1 1 k1) := (by rw [World.cell?_of_block (w := w5) (HW8.out.block bR HR7.out.2.2.2)]; exact HR7.out.1); clear hb HU7 HW7 cr)
    | (go_at_call 7; have hx := HW8.out; clear hx; refine Calls.mono (H71.out _ _ _ _ _ _ _ (HR7.out.2.2.1.below HW8.out) rfl) ?_; rintro e w9 ⟨rfl, hb⟩; have HU9 : Hid (Up V w9 (w.heap.size + 1) (.slice (some ⟨w.heap.size, 0, none⟩) 4 4)) := (HU8.out.al _).go hb; clear hb HU8 HW8 cr1))
  go_ret
  exact ⟨rfl, HB0.out.trans (HU9.out.b.mono HB0.out.size)⟩
end Go.Proofs.YtfdmahilgemlaaaDoor.Fl
