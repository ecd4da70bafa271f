/- What package parse's shape answers (tells) and reads (read): an operation's words behind its name, read off the program by the walk. Conditions: the line lies in memory, the variables as the program lays them. -/
import Derived.Test.YthjpddjfckdefaaGreatDoorNr
import Derived.OwnWalk
namespace Go.Proofs.YthjpddjfckdefaaGreatDoor.Pr
open Go.ChangeShapes Go.WideShapes Go.ChangeAt Go.RowKit
open _root_.Go.Proofs.YthjpddjfckdefaaGreatDoor.Op
set_option maxRecDepth 20000

theorem tells_9_1 (d : Int) (w : World) : Calls Tryz.prog 86 #[.agg #[.int .i8 d, .int .u8 9], .int .u8 1] w fun e w' => e = .returned (.bool true) ∧ Below w.heap.size w w' := by
  go_enter Tryz.func86, Tryz.ntmps86
  go_wp2
  go_ret
  exact ⟨rfl, by go_grown⟩
theorem tells_9_2 (d : Int) (w : World) : Calls Tryz.prog 86 #[.agg #[.int .i8 d, .int .u8 9], .int .u8 2] w fun e w' => e = .returned (.bool false) ∧ Below w.heap.size w w' := by
  go_enter Tryz.func86, Tryz.ntmps86
  go_wp2
  go_ret
  exact ⟨rfl, by go_grown⟩
theorem tells_9_4 (d : Int) (w : World) : Calls Tryz.prog 86 #[.agg #[.int .i8 d, .int .u8 9], .int .u8 4] w fun e w' => e = .returned (.bool false) ∧ Below w.heap.size w w' := by
  go_enter Tryz.func86, Tryz.ntmps86
  go_wp2
  go_ret
  exact ⟨rfl, by go_grown⟩
theorem tells_9_8 (d : Int) (w : World) : Calls Tryz.prog 86 #[.agg #[.int .i8 d, .int .u8 9], .int .u8 8] w fun e w' => e = .returned (.bool true) ∧ Below w.heap.size w w' := by
  go_enter Tryz.func86, Tryz.ntmps86
  go_wp2
  go_ret
  exact ⟨rfl, by go_grown⟩
theorem tells_7_1 (d : Int) (w : World) : Calls Tryz.prog 86 #[.agg #[.int .i8 d, .int .u8 7], .int .u8 1] w fun e w' => e = .returned (.bool true) ∧ Below w.heap.size w w' := by
  go_enter Tryz.func86, Tryz.ntmps86
  go_wp2
  go_ret
  exact ⟨rfl, by go_grown⟩
theorem tells_7_2 (d : Int) (w : World) : Calls Tryz.prog 86 #[.agg #[.int .i8 d, .int .u8 7], .int .u8 2] w fun e w' => e = .returned (.bool true) ∧ Below w.heap.size w w' := by
  go_enter Tryz.func86, Tryz.ntmps86
  go_wp2
  go_ret
  exact ⟨rfl, by go_grown⟩
theorem tells_7_4 (d : Int) (w : World) : Calls Tryz.prog 86 #[.agg #[.int .i8 d, .int .u8 7], .int .u8 4] w fun e w' => e = .returned (.bool true) ∧ Below w.heap.size w w' := by
  go_enter Tryz.func86, Tryz.ntmps86
  go_wp2
  go_ret
  exact ⟨rfl, by go_grown⟩
theorem tells_7_8 (d : Int) (w : World) : Calls Tryz.prog 86 #[.agg #[.int .i8 d, .int .u8 7], .int .u8 8] w fun e w' => e = .returned (.bool false) ∧ Below w.heap.size w w' := by
  go_enter Tryz.func86, Tryz.ntmps86
  go_wp2
  go_ret
  exact ⟨rfl, by go_grown⟩
theorem tells_3_1 (d : Int) (w : World) : Calls Tryz.prog 86 #[.agg #[.int .i8 d, .int .u8 3], .int .u8 1] w fun e w' => e = .returned (.bool true) ∧ Below w.heap.size w w' := by
  go_enter Tryz.func86, Tryz.ntmps86
  go_wp2
  go_ret
  exact ⟨rfl, by go_grown⟩
theorem tells_3_2 (d : Int) (w : World) : Calls Tryz.prog 86 #[.agg #[.int .i8 d, .int .u8 3], .int .u8 2] w fun e w' => e = .returned (.bool true) ∧ Below w.heap.size w w' := by
  go_enter Tryz.func86, Tryz.ntmps86
  go_wp2
  go_ret
  exact ⟨rfl, by go_grown⟩
theorem tells_3_4 (d : Int) (w : World) : Calls Tryz.prog 86 #[.agg #[.int .i8 d, .int .u8 3], .int .u8 4] w fun e w' => e = .returned (.bool false) ∧ Below w.heap.size w w' := by
  go_enter Tryz.func86, Tryz.ntmps86
  go_wp2
  go_ret
  exact ⟨rfl, by go_grown⟩
theorem tells_3_8 (d : Int) (w : World) : Calls Tryz.prog 86 #[.agg #[.int .i8 d, .int .u8 3], .int .u8 8] w fun e w' => e = .returned (.bool false) ∧ Below w.heap.size w w' := by
  go_enter Tryz.func86, Tryz.ntmps86
  go_wp2
  go_ret
  exact ⟨rfl, by go_grown⟩
theorem tells_11_1 (d : Int) (w : World) : Calls Tryz.prog 86 #[.agg #[.int .i8 d, .int .u8 11], .int .u8 1] w fun e w' => e = .returned (.bool true) ∧ Below w.heap.size w w' := by
  go_enter Tryz.func86, Tryz.ntmps86
  go_wp2
  go_ret
  exact ⟨rfl, by go_grown⟩
theorem tells_11_2 (d : Int) (w : World) : Calls Tryz.prog 86 #[.agg #[.int .i8 d, .int .u8 11], .int .u8 2] w fun e w' => e = .returned (.bool true) ∧ Below w.heap.size w w' := by
  go_enter Tryz.func86, Tryz.ntmps86
  go_wp2
  go_ret
  exact ⟨rfl, by go_grown⟩
theorem tells_11_4 (d : Int) (w : World) : Calls Tryz.prog 86 #[.agg #[.int .i8 d, .int .u8 11], .int .u8 4] w fun e w' => e = .returned (.bool false) ∧ Below w.heap.size w w' := by
  go_enter Tryz.func86, Tryz.ntmps86
  go_wp2
  go_ret
  exact ⟨rfl, by go_grown⟩
theorem tells_11_8 (d : Int) (w : World) : Calls Tryz.prog 86 #[.agg #[.int .i8 d, .int .u8 11], .int .u8 8] w fun e w' => e = .returned (.bool true) ∧ Below w.heap.size w w' := by
  go_enter Tryz.func86, Tryz.ntmps86
  go_wp2
  go_ret
  exact ⟨rfl, by go_grown⟩
theorem tells_14_1 (d : Int) (w : World) : Calls Tryz.prog 86 #[.agg #[.int .i8 d, .int .u8 14], .int .u8 1] w fun e w' => e = .returned (.bool false) ∧ Below w.heap.size w w' := by
  go_enter Tryz.func86, Tryz.ntmps86
  go_wp2
  go_ret
  exact ⟨rfl, by go_grown⟩
theorem tells_14_2 (d : Int) (w : World) : Calls Tryz.prog 86 #[.agg #[.int .i8 d, .int .u8 14], .int .u8 2] w fun e w' => e = .returned (.bool true) ∧ Below w.heap.size w w' := by
  go_enter Tryz.func86, Tryz.ntmps86
  go_wp2
  go_ret
  exact ⟨rfl, by go_grown⟩
theorem tells_14_4 (d : Int) (w : World) : Calls Tryz.prog 86 #[.agg #[.int .i8 d, .int .u8 14], .int .u8 4] w fun e w' => e = .returned (.bool true) ∧ Below w.heap.size w w' := by
  go_enter Tryz.func86, Tryz.ntmps86
  go_wp2
  go_ret
  exact ⟨rfl, by go_grown⟩
theorem tells_14_8 (d : Int) (w : World) : Calls Tryz.prog 86 #[.agg #[.int .i8 d, .int .u8 14], .int .u8 8] w fun e w' => e = .returned (.bool true) ∧ Below w.heap.size w w' := by
  go_enter Tryz.func86, Tryz.ntmps86
  go_wp2
  go_ret
  exact ⟨rfl, by go_grown⟩
theorem tells_2_1 (d : Int) (w : World) : Calls Tryz.prog 86 #[.agg #[.int .i8 d, .int .u8 2], .int .u8 1] w fun e w' => e = .returned (.bool false) ∧ Below w.heap.size w w' := by
  go_enter Tryz.func86, Tryz.ntmps86
  go_wp2
  go_ret
  exact ⟨rfl, by go_grown⟩
theorem tells_2_2 (d : Int) (w : World) : Calls Tryz.prog 86 #[.agg #[.int .i8 d, .int .u8 2], .int .u8 2] w fun e w' => e = .returned (.bool true) ∧ Below w.heap.size w w' := by
  go_enter Tryz.func86, Tryz.ntmps86
  go_wp2
  go_ret
  exact ⟨rfl, by go_grown⟩
theorem tells_2_4 (d : Int) (w : World) : Calls Tryz.prog 86 #[.agg #[.int .i8 d, .int .u8 2], .int .u8 4] w fun e w' => e = .returned (.bool false) ∧ Below w.heap.size w w' := by
  go_enter Tryz.func86, Tryz.ntmps86
  go_wp2
  go_ret
  exact ⟨rfl, by go_grown⟩
theorem tells_2_8 (d : Int) (w : World) : Calls Tryz.prog 86 #[.agg #[.int .i8 d, .int .u8 2], .int .u8 8] w fun e w' => e = .returned (.bool false) ∧ Below w.heap.size w w' := by
  go_enter Tryz.func86, Tryz.ntmps86
  go_wp2
  go_ret
  exact ⟨rfl, by go_grown⟩
/-- The reader of an operation under way. -/
structure Rw (w V : World) (q d f : Nat) (o : O) (l : Ln) : Prop where
  a : At V w.heap.size #[.int .i8 (d : Int), .int .u8 (f : Int)]
  r : At V (w.heap.size + 1) #[.int .i8 0, .int .u8 0, .int .u8 0, .int .u8 0, .int .i64 0]
  o : At V (w.heap.size + 1 + 1) o.cells
  l : LIn V q l
  fr : Fr (One q) w V
  v : Vars V
  lt : q < w.heap.size
  nine : 7 ≤ q
theorem Rw.start {w : World} {q d f : Nat} {l : Ln} (h : LIn w q l) (hV : Vars w) (hq : 7 ≤ q) (t t' t'' : TypeId) :
    Rw w (((w.alloc (.cells #[.int .i8 (d : Int), .int .u8 (f : Int)] t)).alloc (.cells #[.int .i8 0, .int .u8 0, .int .u8 0, .int .u8 0, .int .i64 0] t')).alloc (.cells #[.int .i8 (d : Int), .int .u8 0, .int .u8 0, .int .u8 0, .int .i64 0] t'')) q d f ⟨d, 0, 0, 0, 0⟩ l := by
  have b0 : Below w.heap.size w (((w.alloc (.cells #[.int .i8 (d : Int), .int .u8 (f : Int)] t)).alloc (.cells #[.int .i8 0, .int .u8 0, .int .u8 0, .int .u8 0, .int .i64 0] t')).alloc (.cells #[.int .i8 (d : Int), .int .u8 0, .int .u8 0, .int .u8 0, .int .i64 0] t'')) := by go_grown
  have a1 := At.new w #[.int .i8 (d : Int), .int .u8 (f : Int)] t
  have a2 := At.new (w.alloc (.cells #[.int .i8 (d : Int), .int .u8 (f : Int)] t)) #[.int .i8 0, .int .u8 0, .int .u8 0, .int .u8 0, .int .i64 0] t'
  have a3 := At.new ((w.alloc (.cells #[.int .i8 (d : Int), .int .u8 (f : Int)] t)).alloc (.cells #[.int .i8 0, .int .u8 0, .int .u8 0, .int .u8 0, .int .i64 0] t')) #[.int .i8 (d : Int), .int .u8 0, .int .u8 0, .int .u8 0, .int .i64 0] t''
  rw [World.size_alloc] at a2 a3
  rw [World.size_alloc] at a3
  exact ⟨(a1.alloc _).alloc _, a2.alloc _, a3, h.up b0, Fr.of b0, hV.up b0, h.lt, hq⟩
theorem Rw.go {w V V' : World} {q d f : Nat} {o : O} {l : Ln} (h : Rw w V q d f o l) (hb : Below V.heap.size V V') : Rw w V' q d f o l :=
  ⟨h.a.below hb h.a.lt, h.r.below hb h.r.lt, h.o.below hb h.o.lt, h.l.up hb, h.fr.then hb, h.v.up hb, h.lt, h.nine⟩
theorem Rw.line {w V V' : World} {q d f : Nat} {o : O} {l l' : Ln} (h : Rw w V q d f o l) (hF : Fr (One q) V V') (hL : LIn V' q l') : Rw w V' q d f o l' :=
  have hq := h.lt
  ⟨at_fr h.a hF (by show ¬ _ = _; omega), at_fr h.r hF (by show ¬ _ = _; omega), at_fr h.o hF (by show ¬ _ = _; omega), hL, h.fr.same hF, h.v.one hF h.nine, h.lt, h.nine⟩
theorem Rw.set {w V : World} {q d f : Nat} {o o' : O} {l : Ln} (h : Rw w V q d f o l) (j : Nat) (v : Value) (hj : j < 5) (ho : o.cells.setIfInBounds j v = o'.cells) : Rw w (V.setCell ⟨w.heap.size + 1 + 1, j, none⟩ v) q d f o' l := by
  have hq := h.lt
  have hF : Fr (One (w.heap.size + 1 + 1)) V (V.setCell ⟨w.heap.size + 1 + 1, j, none⟩ v) := (Fr.refl (One (w.heap.size + 1 + 1)) V).setCell (.inr rfl) _ _
  have h1 := at_set h.o (j := j) (by simpa using hj) v
  rw [ho] at h1
  exact ⟨at_fr h.a hF (by show ¬ _ = _; omega), at_fr h.r hF (by show ¬ _ = _; omega), h1, h.l.far hF (by omega), h.fr.new hF (by omega), h.v.one hF (by have := h.v.e.big; have := h.fr.size; have := h.nine; omega), h.lt, h.nine⟩
theorem Rw.a2 {w V : World} {q d f : Nat} {o : O} {l : Ln} (h : Rw w V q d f o l) : V.cell? ⟨w.heap.size, 0, none⟩ = some (.int .i8 (d : Int)) ∧ V.cell? ⟨w.heap.size, 1, none⟩ = some (.int .u8 (f : Int)) := ⟨h.a.c 0 _ rfl, h.a.c 1 _ rfl⟩
theorem Rw.o5 {w V : World} {q d f : Nat} {o : O} {l : Ln} (h : Rw w V q d f o l) : V.cell? ⟨w.heap.size + 1 + 1, 0, none⟩ = some (.int .i8 o.op) ∧ V.cell? ⟨w.heap.size + 1 + 1, 1, none⟩ = some (.int .u8 o.d) ∧ V.cell? ⟨w.heap.size + 1 + 1, 2, none⟩ = some (.int .u8 o.a) ∧ V.cell? ⟨w.heap.size + 1 + 1, 3, none⟩ = some (.int .u8 o.b) ∧ V.cell? ⟨w.heap.size + 1 + 1, 4, none⟩ = some (.int .i64 o.im) := ⟨h.o.c 0 _ rfl, h.o.c 1 _ rfl, h.o.c 2 _ rfl, h.o.c 3 _ rfl, h.o.c 4 _ rfl⟩
theorem Rw.r5 {w V : World} {q d f : Nat} {o : O} {l : Ln} (h : Rw w V q d f o l) : V.cell? ⟨w.heap.size + 1, 0, none⟩ = some (.int .i8 0) ∧ V.cell? ⟨w.heap.size + 1, 1, none⟩ = some (.int .u8 0) ∧ V.cell? ⟨w.heap.size + 1, 2, none⟩ = some (.int .u8 0) ∧ V.cell? ⟨w.heap.size + 1, 3, none⟩ = some (.int .u8 0) ∧ V.cell? ⟨w.heap.size + 1, 4, none⟩ = some (.int .i64 0) := ⟨h.r.c 0 _ rfl, h.r.c 1 _ rfl, h.r.c 2 _ rfl, h.r.c 3 _ rfl, h.r.c 4 _ rfl⟩
abbrev RegC (q : Nat) (l : Ln) (x : Nat × Ln) : Prop := ∀ V, LIn V q l → Vars V → Calls Tryz.prog 56 #[.pointer (some ⟨q, 0, none⟩)] V fun e w' => e = .returned (.int .u8 (x.1 : Int)) ∧ LIn w' q x.2 ∧ Fr (One q) V w'
abbrev RegP (q : Nat) (l : Ln) (f : Wd') : Prop := ∀ V, LIn V q l → Vars V → Calls Tryz.prog 56 #[.pointer (some ⟨q, 0, none⟩)] V fun e w' => Pan (One q) f V e w'
abbrev NumC (q : Nat) (l : Ln) (x : Int × Ln) : Prop := ∀ V, LIn V q l → Vars V → Calls Tryz.prog 69 #[.pointer (some ⟨q, 0, none⟩)] V fun e w' => e = .returned (.int .i64 x.1) ∧ LIn w' q x.2 ∧ Fr (One q) V w'
abbrev NumP (q : Nat) (l : Ln) (f : Wd') : Prop := ∀ V, LIn V q l → Vars V → Calls Tryz.prog 69 #[.pointer (some ⟨q, 0, none⟩)] V fun e w' => Pan (One q) f V e w'
abbrev CloC (q : Nat) (l : Ln) : Prop := ∀ V, LIn V q l → Calls Tryz.prog 52 #[.pointer (some ⟨q, 0, none⟩)] V fun e w' => e = .returned (.tuple #[]) ∧ w' = V
abbrev CloP (q : Nat) (l : Ln) (f : Wd') : Prop := ∀ V, LIn V q l → Calls Tryz.prog 52 #[.pointer (some ⟨q, 0, none⟩)] V fun e w' => Pan (One q) f V e w'
theorem regC {q : Nat} {l : Ln} {x : Nat × Ln} (hq : 7 ≤ q) (h : regR l = .ok x) : RegC q l x := fun V h1 h2 => by have := register_any q l V h1 h2 hq; rw [h] at this; exact this
theorem regP {q : Nat} {l : Ln} {f : Wd'} (hq : 7 ≤ q) (h : regR l = .no f) : RegP q l f := fun V h1 h2 => by have := register_any q l V h1 h2 hq; rw [h] at this; exact this
theorem numC {q : Nat} {l : Ln} {x : Int × Ln} (hq : 7 ≤ q) (h : numR l = .ok x) : NumC q l x := fun V h1 h2 => by have := number_any q l V h1 h2 hq; rw [h] at this; exact this
theorem numP {q : Nat} {l : Ln} {f : Wd'} (hq : 7 ≤ q) (h : numR l = .no f) : NumP q l f := fun V h1 h2 => by have := number_any q l V h1 h2 hq; rw [h] at this; exact this
theorem cloC {q : Nat} {l : Ln} {u : Unit} (h : closeR l = .ok u) : CloC q l := fun V h1 => by have := close_any q l V h1; rw [h] at this; exact this
theorem cloP {q : Nat} {l : Ln} {f : Wd'} (h : closeR l = .no f) : CloP q l f := fun V h1 => by have := close_any q l V h1; rw [h] at this; exact this

set_option maxHeartbeats 4000000 in
theorem read_9 (q d : Nat) (l : Ln) (w : World) (h : LIn w q l) (hV : Vars w) (hq : 7 ≤ q) : Calls Tryz.prog 68 #[.agg #[.int .i8 (d : Int), .int .u8 9], .pointer (some ⟨q, 0, none⟩)] w (Does (One q) (readR d 9 l) (fun o e w' => e = .returned o.val ∧ Fr (One q) w w') w) := by
  rw [show readR d 9 l = (regR l).bind fun x1 => (numR x1.2).bind fun x2 => (closeR x2.2).bind fun _ => .ok ⟨d, x1.1, 0, 0, x2.1⟩ from rfl]
  have HS : Hid _ := Rw.start (d := d) (f := 9) h hV hq 97 46 46
  have T1 : Hid _ := tells_9_1 (d : Int)
  have T2 : Hid _ := tells_9_2 (d : Int)
  have T4 : Hid _ := tells_9_4 (d : Int)
  have T8 : Hid _ := tells_9_8 (d : Int)
  clear h hV
  cases e1 : regR l with
  | no fl =>
    have H1 : Hid _ := regP hq e1
    rw [R.bind_no]
    clear e1
    go_enter Tryz.func68, Tryz.ntmps68
    go_wp2_with (first
      | (go_at_call 86; refine Calls.mono (T1.out _) ?_; rintro e w1 ⟨rfl, hb⟩; clear T1; have HT : Hid _ := HS.out.go hb; clear HS hb; have HS : Hid _ := HT.out; clear HT; (try clear a0 a1); obtain ⟨a0, a1⟩ := HS.out.a2)
      | (go_at_call 56; refine Calls.mono (H1.out _ HS.out.l HS.out.v) ?_; rintro e wp hp; have HP : Hid _ := hp.after HS.out.fr fun _ _ hk => hk; obtain ⟨fq, rfl, hp⟩ := hp; clear hp))
    exact ⟨rfl, HP.out⟩
  | ok x1 =>
    have H1 : Hid _ := regC hq e1
    rw [R.bind_ok]
    cases e2 : numR x1.2 with
    | no fl =>
      have H2 : Hid _ := numP hq e2
      rw [R.bind_no]
      clear e1 e2
      go_enter Tryz.func68, Tryz.ntmps68
      go_wp2_with (first
        | (go_at_call 86; refine Calls.mono (T1.out _) ?_; rintro e w1 ⟨rfl, hb⟩; clear T1; have HT : Hid _ := HS.out.go hb; clear HS hb; have HS : Hid _ := HT.out; clear HT; (try clear a0 a1); obtain ⟨a0, a1⟩ := HS.out.a2)
        | (go_at_call 56; refine Calls.mono (H1.out _ HS.out.l HS.out.v) ?_; rintro e w2 ⟨rfl, hL, hF⟩; have HT : Hid _ := HS.out.line hF hL; clear HS hL hF H1 a0 a1; obtain ⟨s0, s1, s2, s3, s4⟩ := HT.out.o5; have t1 := HT.out.o.f 1; simp only at s0 s1 s2 s3 s4; have HS : Hid (Rw w (w2.setCell ⟨w.heap.size + 1 + 1, 1, none⟩ (.int .u8 (x1.1 : Int))) q d 9 ⟨d, x1.1, 0, 0, 0⟩ x1.2) := HT.out.set 1 _ (by omega) rfl; clear HT; obtain ⟨a0, a1⟩ := HS.out.a2)
        | (go_at_call 86; refine Calls.mono (T2.out _) ?_; rintro e w3 ⟨rfl, hb⟩; clear T2; have HT : Hid _ := HS.out.go hb; clear HS hb; have HS : Hid _ := HT.out; clear HT; (try clear a0 a1); obtain ⟨a0, a1⟩ := HS.out.a2)
        | (go_at_call 86; refine Calls.mono (T4.out _) ?_; rintro e w4 ⟨rfl, hb⟩; clear T4; have HT : Hid _ := HS.out.go hb; clear HS hb; have HS : Hid _ := HT.out; clear HT; (try clear a0 a1); obtain ⟨a0, a1⟩ := HS.out.a2)
        | (go_at_call 86; refine Calls.mono (T8.out _) ?_; rintro e w5 ⟨rfl, hb⟩; clear T8; have HT : Hid _ := HS.out.go hb; clear HS hb; have HS : Hid _ := HT.out; clear HT; (try clear a0 a1); obtain ⟨a0, a1⟩ := HS.out.a2)
        | (go_at_call 69; refine Calls.mono (H2.out _ HS.out.l HS.out.v) ?_; rintro e wp hp; have HP : Hid _ := hp.after HS.out.fr fun _ _ hk => hk; obtain ⟨fq, rfl, hp⟩ := hp; clear hp))
      exact ⟨rfl, HP.out⟩
    | ok x2 =>
      have H2 : Hid _ := numC hq e2
      rw [R.bind_ok]
      cases e3 : closeR x2.2 with
      | no fl =>
        have H3 : Hid _ := cloP (q := q) e3
        rw [R.bind_no]
        clear e1 e2 e3
        go_enter Tryz.func68, Tryz.ntmps68
        go_wp2_with (first
          | (go_at_call 86; refine Calls.mono (T1.out _) ?_; rintro e w1 ⟨rfl, hb⟩; clear T1; have HT : Hid _ := HS.out.go hb; clear HS hb; have HS : Hid _ := HT.out; clear HT; (try clear a0 a1); obtain ⟨a0, a1⟩ := HS.out.a2)
          | (go_at_call 56; refine Calls.mono (H1.out _ HS.out.l HS.out.v) ?_; rintro e w2 ⟨rfl, hL, hF⟩; have HT : Hid _ := HS.out.line hF hL; clear HS hL hF H1 a0 a1; obtain ⟨s0, s1, s2, s3, s4⟩ := HT.out.o5; have t1 := HT.out.o.f 1; simp only at s0 s1 s2 s3 s4; have HS : Hid (Rw w (w2.setCell ⟨w.heap.size + 1 + 1, 1, none⟩ (.int .u8 (x1.1 : Int))) q d 9 ⟨d, x1.1, 0, 0, 0⟩ x1.2) := HT.out.set 1 _ (by omega) rfl; clear HT; obtain ⟨a0, a1⟩ := HS.out.a2)
          | (go_at_call 86; refine Calls.mono (T2.out _) ?_; rintro e w3 ⟨rfl, hb⟩; clear T2; have HT : Hid _ := HS.out.go hb; clear HS hb; have HS : Hid _ := HT.out; clear HT; (try clear a0 a1); obtain ⟨a0, a1⟩ := HS.out.a2)
          | (go_at_call 86; refine Calls.mono (T4.out _) ?_; rintro e w4 ⟨rfl, hb⟩; clear T4; have HT : Hid _ := HS.out.go hb; clear HS hb; have HS : Hid _ := HT.out; clear HT; (try clear a0 a1); obtain ⟨a0, a1⟩ := HS.out.a2)
          | (go_at_call 86; refine Calls.mono (T8.out _) ?_; rintro e w5 ⟨rfl, hb⟩; clear T8; have HT : Hid _ := HS.out.go hb; clear HS hb; have HS : Hid _ := HT.out; clear HT; (try clear a0 a1); obtain ⟨a0, a1⟩ := HS.out.a2)
          | (go_at_call 69; refine Calls.mono (H2.out _ HS.out.l HS.out.v) ?_; rintro e w6 ⟨rfl, hL, hF⟩; have HT : Hid _ := HS.out.line hF hL; clear HS hL hF H2 a0 a1; obtain ⟨s0, s1, s2, s3, s4⟩ := HT.out.o5; have t4 := HT.out.o.f 4; simp only at s0 s1 s2 s3 s4; have HS : Hid (Rw w (w6.setCell ⟨w.heap.size + 1 + 1, 4, none⟩ (.int .i64 x2.1)) q d 9 ⟨d, x1.1, 0, 0, x2.1⟩ x2.2) := HT.out.set 4 _ (by omega) rfl; clear HT; obtain ⟨a0, a1⟩ := HS.out.a2)
          | (go_at_call 52; refine Calls.mono (H3.out _ HS.out.l) ?_; rintro e wp hp; have HP : Hid _ := hp.after HS.out.fr fun _ _ hk => hk; obtain ⟨fq, rfl, hp⟩ := hp; clear hp))
        exact ⟨rfl, HP.out⟩
      | ok u =>
        have H3 : Hid _ := cloC (q := q) e3
        rw [R.bind_ok]
        clear e1 e2 e3
        go_enter Tryz.func68, Tryz.ntmps68
        go_wp2_with (first
          | (go_at_call 86; refine Calls.mono (T1.out _) ?_; rintro e w1 ⟨rfl, hb⟩; clear T1; have HT : Hid _ := HS.out.go hb; clear HS hb; have HS : Hid _ := HT.out; clear HT; (try clear a0 a1); obtain ⟨a0, a1⟩ := HS.out.a2)
          | (go_at_call 56; refine Calls.mono (H1.out _ HS.out.l HS.out.v) ?_; rintro e w2 ⟨rfl, hL, hF⟩; have HT : Hid _ := HS.out.line hF hL; clear HS hL hF H1 a0 a1; obtain ⟨s0, s1, s2, s3, s4⟩ := HT.out.o5; have t1 := HT.out.o.f 1; simp only at s0 s1 s2 s3 s4; have HS : Hid (Rw w (w2.setCell ⟨w.heap.size + 1 + 1, 1, none⟩ (.int .u8 (x1.1 : Int))) q d 9 ⟨d, x1.1, 0, 0, 0⟩ x1.2) := HT.out.set 1 _ (by omega) rfl; clear HT; obtain ⟨a0, a1⟩ := HS.out.a2)
          | (go_at_call 86; refine Calls.mono (T2.out _) ?_; rintro e w3 ⟨rfl, hb⟩; clear T2; have HT : Hid _ := HS.out.go hb; clear HS hb; have HS : Hid _ := HT.out; clear HT; (try clear a0 a1); obtain ⟨a0, a1⟩ := HS.out.a2)
          | (go_at_call 86; refine Calls.mono (T4.out _) ?_; rintro e w4 ⟨rfl, hb⟩; clear T4; have HT : Hid _ := HS.out.go hb; clear HS hb; have HS : Hid _ := HT.out; clear HT; (try clear a0 a1); obtain ⟨a0, a1⟩ := HS.out.a2)
          | (go_at_call 86; refine Calls.mono (T8.out _) ?_; rintro e w5 ⟨rfl, hb⟩; clear T8; have HT : Hid _ := HS.out.go hb; clear HS hb; have HS : Hid _ := HT.out; clear HT; (try clear a0 a1); obtain ⟨a0, a1⟩ := HS.out.a2)
          | (go_at_call 69; refine Calls.mono (H2.out _ HS.out.l HS.out.v) ?_; rintro e w6 ⟨rfl, hL, hF⟩; have HT : Hid _ := HS.out.line hF hL; clear HS hL hF H2 a0 a1; obtain ⟨s0, s1, s2, s3, s4⟩ := HT.out.o5; have t4 := HT.out.o.f 4; simp only at s0 s1 s2 s3 s4; have HS : Hid (Rw w (w6.setCell ⟨w.heap.size + 1 + 1, 4, none⟩ (.int .i64 x2.1)) q d 9 ⟨d, x1.1, 0, 0, x2.1⟩ x2.2) := HT.out.set 4 _ (by omega) rfl; clear HT; obtain ⟨a0, a1⟩ := HS.out.a2)
          | (go_at_call 52; refine Calls.mono (H3.out _ HS.out.l) ?_; rintro e w' ⟨rfl, hw⟩; subst w'; obtain ⟨o0, o1, o2, o3, o4⟩ := HS.out.o5; obtain ⟨r0, r1, r2, r3, r4⟩ := HS.out.r5; have rf0 := HS.out.r.f 0; have rf1 := HS.out.r.f 1; have rf2 := HS.out.r.f 2; have rf3 := HS.out.r.f 3; have rf4 := HS.out.r.f 4))
        refine bodyPost_ret (v := O.val ⟨d, x1.1, 0, 0, x2.1⟩) (by simp [results, Tryz.results68, go_sem, r0, r1, r2, r3, r4]) rfl ⟨rfl, ?_⟩
        iterate 5 (refine Fr.setCell ?_ (.inl (Nat.le_succ _)) _ _)
        exact HS.out.fr
set_option maxHeartbeats 4000000 in
theorem read_7 (q d : Nat) (l : Ln) (w : World) (h : LIn w q l) (hV : Vars w) (hq : 7 ≤ q) : Calls Tryz.prog 68 #[.agg #[.int .i8 (d : Int), .int .u8 7], .pointer (some ⟨q, 0, none⟩)] w (Does (One q) (readR d 7 l) (fun o e w' => e = .returned o.val ∧ Fr (One q) w w') w) := by
  rw [show readR d 7 l = (regR l).bind fun x1 => (regR x1.2).bind fun x2 => (regR x2.2).bind fun x3 => (closeR x3.2).bind fun _ => .ok ⟨d, x1.1, x2.1, x3.1, 0⟩ from rfl]
  have HS : Hid _ := Rw.start (d := d) (f := 7) h hV hq 97 46 46
  have T1 : Hid _ := tells_7_1 (d : Int)
  have T2 : Hid _ := tells_7_2 (d : Int)
  have T4 : Hid _ := tells_7_4 (d : Int)
  have T8 : Hid _ := tells_7_8 (d : Int)
  clear h hV
  cases e1 : regR l with
  | no fl =>
    have H1 : Hid _ := regP hq e1
    rw [R.bind_no]
    clear e1
    go_enter Tryz.func68, Tryz.ntmps68
    go_wp2_with (first
      | (go_at_call 86; refine Calls.mono (T1.out _) ?_; rintro e w1 ⟨rfl, hb⟩; clear T1; have HT : Hid _ := HS.out.go hb; clear HS hb; have HS : Hid _ := HT.out; clear HT; (try clear a0 a1); obtain ⟨a0, a1⟩ := HS.out.a2)
      | (go_at_call 56; refine Calls.mono (H1.out _ HS.out.l HS.out.v) ?_; rintro e wp hp; have HP : Hid _ := hp.after HS.out.fr fun _ _ hk => hk; obtain ⟨fq, rfl, hp⟩ := hp; clear hp))
    exact ⟨rfl, HP.out⟩
  | ok x1 =>
    have H1 : Hid _ := regC hq e1
    rw [R.bind_ok]
    cases e2 : regR x1.2 with
    | no fl =>
      have H2 : Hid _ := regP hq e2
      rw [R.bind_no]
      clear e1 e2
      go_enter Tryz.func68, Tryz.ntmps68
      go_wp2_with (first
        | (go_at_call 86; refine Calls.mono (T1.out _) ?_; rintro e w1 ⟨rfl, hb⟩; clear T1; have HT : Hid _ := HS.out.go hb; clear HS hb; have HS : Hid _ := HT.out; clear HT; (try clear a0 a1); obtain ⟨a0, a1⟩ := HS.out.a2)
        | (go_at_call 56; refine Calls.mono (H1.out _ HS.out.l HS.out.v) ?_; rintro e w2 ⟨rfl, hL, hF⟩; have HT : Hid _ := HS.out.line hF hL; clear HS hL hF H1 a0 a1; obtain ⟨s0, s1, s2, s3, s4⟩ := HT.out.o5; have t1 := HT.out.o.f 1; simp only at s0 s1 s2 s3 s4; have HS : Hid (Rw w (w2.setCell ⟨w.heap.size + 1 + 1, 1, none⟩ (.int .u8 (x1.1 : Int))) q d 7 ⟨d, x1.1, 0, 0, 0⟩ x1.2) := HT.out.set 1 _ (by omega) rfl; clear HT; obtain ⟨a0, a1⟩ := HS.out.a2)
        | (go_at_call 86; refine Calls.mono (T2.out _) ?_; rintro e w3 ⟨rfl, hb⟩; clear T2; have HT : Hid _ := HS.out.go hb; clear HS hb; have HS : Hid _ := HT.out; clear HT; (try clear a0 a1); obtain ⟨a0, a1⟩ := HS.out.a2)
        | (go_at_call 56; refine Calls.mono (H2.out _ HS.out.l HS.out.v) ?_; rintro e wp hp; have HP : Hid _ := hp.after HS.out.fr fun _ _ hk => hk; obtain ⟨fq, rfl, hp⟩ := hp; clear hp))
      exact ⟨rfl, HP.out⟩
    | ok x2 =>
      have H2 : Hid _ := regC hq e2
      rw [R.bind_ok]
      cases e3 : regR x2.2 with
      | no fl =>
        have H3 : Hid _ := regP hq e3
        rw [R.bind_no]
        clear e1 e2 e3
        go_enter Tryz.func68, Tryz.ntmps68
        go_wp2_with (first
          | (go_at_call 86; refine Calls.mono (T1.out _) ?_; rintro e w1 ⟨rfl, hb⟩; clear T1; have HT : Hid _ := HS.out.go hb; clear HS hb; have HS : Hid _ := HT.out; clear HT; (try clear a0 a1); obtain ⟨a0, a1⟩ := HS.out.a2)
          | (go_at_call 56; refine Calls.mono (H1.out _ HS.out.l HS.out.v) ?_; rintro e w2 ⟨rfl, hL, hF⟩; have HT : Hid _ := HS.out.line hF hL; clear HS hL hF H1 a0 a1; obtain ⟨s0, s1, s2, s3, s4⟩ := HT.out.o5; have t1 := HT.out.o.f 1; simp only at s0 s1 s2 s3 s4; have HS : Hid (Rw w (w2.setCell ⟨w.heap.size + 1 + 1, 1, none⟩ (.int .u8 (x1.1 : Int))) q d 7 ⟨d, x1.1, 0, 0, 0⟩ x1.2) := HT.out.set 1 _ (by omega) rfl; clear HT; obtain ⟨a0, a1⟩ := HS.out.a2)
          | (go_at_call 86; refine Calls.mono (T2.out _) ?_; rintro e w3 ⟨rfl, hb⟩; clear T2; have HT : Hid _ := HS.out.go hb; clear HS hb; have HS : Hid _ := HT.out; clear HT; (try clear a0 a1); obtain ⟨a0, a1⟩ := HS.out.a2)
          | (go_at_call 56; refine Calls.mono (H2.out _ HS.out.l HS.out.v) ?_; rintro e w4 ⟨rfl, hL, hF⟩; have HT : Hid _ := HS.out.line hF hL; clear HS hL hF H2 a0 a1; obtain ⟨s0, s1, s2, s3, s4⟩ := HT.out.o5; have t2 := HT.out.o.f 2; simp only at s0 s1 s2 s3 s4; have HS : Hid (Rw w (w4.setCell ⟨w.heap.size + 1 + 1, 2, none⟩ (.int .u8 (x2.1 : Int))) q d 7 ⟨d, x1.1, x2.1, 0, 0⟩ x2.2) := HT.out.set 2 _ (by omega) rfl; clear HT; obtain ⟨a0, a1⟩ := HS.out.a2)
          | (go_at_call 86; refine Calls.mono (T4.out _) ?_; rintro e w5 ⟨rfl, hb⟩; clear T4; have HT : Hid _ := HS.out.go hb; clear HS hb; have HS : Hid _ := HT.out; clear HT; (try clear a0 a1); obtain ⟨a0, a1⟩ := HS.out.a2)
          | (go_at_call 56; refine Calls.mono (H3.out _ HS.out.l HS.out.v) ?_; rintro e wp hp; have HP : Hid _ := hp.after HS.out.fr fun _ _ hk => hk; obtain ⟨fq, rfl, hp⟩ := hp; clear hp))
        exact ⟨rfl, HP.out⟩
      | ok x3 =>
        have H3 : Hid _ := regC hq e3
        rw [R.bind_ok]
        cases e4 : closeR x3.2 with
        | no fl =>
          have H4 : Hid _ := cloP (q := q) e4
          rw [R.bind_no]
          clear e1 e2 e3 e4
          go_enter Tryz.func68, Tryz.ntmps68
          go_wp2_with (first
            | (go_at_call 86; refine Calls.mono (T1.out _) ?_; rintro e w1 ⟨rfl, hb⟩; clear T1; have HT : Hid _ := HS.out.go hb; clear HS hb; have HS : Hid _ := HT.out; clear HT; (try clear a0 a1); obtain ⟨a0, a1⟩ := HS.out.a2)
            | (go_at_call 56; refine Calls.mono (H1.out _ HS.out.l HS.out.v) ?_; rintro e w2 ⟨rfl, hL, hF⟩; have HT : Hid _ := HS.out.line hF hL; clear HS hL hF H1 a0 a1; obtain ⟨s0, s1, s2, s3, s4⟩ := HT.out.o5; have t1 := HT.out.o.f 1; simp only at s0 s1 s2 s3 s4; have HS : Hid (Rw w (w2.setCell ⟨w.heap.size + 1 + 1, 1, none⟩ (.int .u8 (x1.1 : Int))) q d 7 ⟨d, x1.1, 0, 0, 0⟩ x1.2) := HT.out.set 1 _ (by omega) rfl; clear HT; obtain ⟨a0, a1⟩ := HS.out.a2)
            | (go_at_call 86; refine Calls.mono (T2.out _) ?_; rintro e w3 ⟨rfl, hb⟩; clear T2; have HT : Hid _ := HS.out.go hb; clear HS hb; have HS : Hid _ := HT.out; clear HT; (try clear a0 a1); obtain ⟨a0, a1⟩ := HS.out.a2)
            | (go_at_call 56; refine Calls.mono (H2.out _ HS.out.l HS.out.v) ?_; rintro e w4 ⟨rfl, hL, hF⟩; have HT : Hid _ := HS.out.line hF hL; clear HS hL hF H2 a0 a1; obtain ⟨s0, s1, s2, s3, s4⟩ := HT.out.o5; have t2 := HT.out.o.f 2; simp only at s0 s1 s2 s3 s4; have HS : Hid (Rw w (w4.setCell ⟨w.heap.size + 1 + 1, 2, none⟩ (.int .u8 (x2.1 : Int))) q d 7 ⟨d, x1.1, x2.1, 0, 0⟩ x2.2) := HT.out.set 2 _ (by omega) rfl; clear HT; obtain ⟨a0, a1⟩ := HS.out.a2)
            | (go_at_call 86; refine Calls.mono (T4.out _) ?_; rintro e w5 ⟨rfl, hb⟩; clear T4; have HT : Hid _ := HS.out.go hb; clear HS hb; have HS : Hid _ := HT.out; clear HT; (try clear a0 a1); obtain ⟨a0, a1⟩ := HS.out.a2)
            | (go_at_call 56; refine Calls.mono (H3.out _ HS.out.l HS.out.v) ?_; rintro e w6 ⟨rfl, hL, hF⟩; have HT : Hid _ := HS.out.line hF hL; clear HS hL hF H3 a0 a1; obtain ⟨s0, s1, s2, s3, s4⟩ := HT.out.o5; have t3 := HT.out.o.f 3; simp only at s0 s1 s2 s3 s4; have HS : Hid (Rw w (w6.setCell ⟨w.heap.size + 1 + 1, 3, none⟩ (.int .u8 (x3.1 : Int))) q d 7 ⟨d, x1.1, x2.1, x3.1, 0⟩ x3.2) := HT.out.set 3 _ (by omega) rfl; clear HT; obtain ⟨a0, a1⟩ := HS.out.a2)
            | (go_at_call 86; refine Calls.mono (T8.out _) ?_; rintro e w7 ⟨rfl, hb⟩; clear T8; have HT : Hid _ := HS.out.go hb; clear HS hb; have HS : Hid _ := HT.out; clear HT; (try clear a0 a1); obtain ⟨a0, a1⟩ := HS.out.a2)
            | (go_at_call 52; refine Calls.mono (H4.out _ HS.out.l) ?_; rintro e wp hp; have HP : Hid _ := hp.after HS.out.fr fun _ _ hk => hk; obtain ⟨fq, rfl, hp⟩ := hp; clear hp))
          exact ⟨rfl, HP.out⟩
        | ok u =>
          have H4 : Hid _ := cloC (q := q) e4
          rw [R.bind_ok]
          clear e1 e2 e3 e4
          go_enter Tryz.func68, Tryz.ntmps68
          go_wp2_with (first
            | (go_at_call 86; refine Calls.mono (T1.out _) ?_; rintro e w1 ⟨rfl, hb⟩; clear T1; have HT : Hid _ := HS.out.go hb; clear HS hb; have HS : Hid _ := HT.out; clear HT; (try clear a0 a1); obtain ⟨a0, a1⟩ := HS.out.a2)
            | (go_at_call 56; refine Calls.mono (H1.out _ HS.out.l HS.out.v) ?_; rintro e w2 ⟨rfl, hL, hF⟩; have HT : Hid _ := HS.out.line hF hL; clear HS hL hF H1 a0 a1; obtain ⟨s0, s1, s2, s3, s4⟩ := HT.out.o5; have t1 := HT.out.o.f 1; simp only at s0 s1 s2 s3 s4; have HS : Hid (Rw w (w2.setCell ⟨w.heap.size + 1 + 1, 1, none⟩ (.int .u8 (x1.1 : Int))) q d 7 ⟨d, x1.1, 0, 0, 0⟩ x1.2) := HT.out.set 1 _ (by omega) rfl; clear HT; obtain ⟨a0, a1⟩ := HS.out.a2)
            | (go_at_call 86; refine Calls.mono (T2.out _) ?_; rintro e w3 ⟨rfl, hb⟩; clear T2; have HT : Hid _ := HS.out.go hb; clear HS hb; have HS : Hid _ := HT.out; clear HT; (try clear a0 a1); obtain ⟨a0, a1⟩ := HS.out.a2)
            | (go_at_call 56; refine Calls.mono (H2.out _ HS.out.l HS.out.v) ?_; rintro e w4 ⟨rfl, hL, hF⟩; have HT : Hid _ := HS.out.line hF hL; clear HS hL hF H2 a0 a1; obtain ⟨s0, s1, s2, s3, s4⟩ := HT.out.o5; have t2 := HT.out.o.f 2; simp only at s0 s1 s2 s3 s4; have HS : Hid (Rw w (w4.setCell ⟨w.heap.size + 1 + 1, 2, none⟩ (.int .u8 (x2.1 : Int))) q d 7 ⟨d, x1.1, x2.1, 0, 0⟩ x2.2) := HT.out.set 2 _ (by omega) rfl; clear HT; obtain ⟨a0, a1⟩ := HS.out.a2)
            | (go_at_call 86; refine Calls.mono (T4.out _) ?_; rintro e w5 ⟨rfl, hb⟩; clear T4; have HT : Hid _ := HS.out.go hb; clear HS hb; have HS : Hid _ := HT.out; clear HT; (try clear a0 a1); obtain ⟨a0, a1⟩ := HS.out.a2)
            | (go_at_call 56; refine Calls.mono (H3.out _ HS.out.l HS.out.v) ?_; rintro e w6 ⟨rfl, hL, hF⟩; have HT : Hid _ := HS.out.line hF hL; clear HS hL hF H3 a0 a1; obtain ⟨s0, s1, s2, s3, s4⟩ := HT.out.o5; have t3 := HT.out.o.f 3; simp only at s0 s1 s2 s3 s4; have HS : Hid (Rw w (w6.setCell ⟨w.heap.size + 1 + 1, 3, none⟩ (.int .u8 (x3.1 : Int))) q d 7 ⟨d, x1.1, x2.1, x3.1, 0⟩ x3.2) := HT.out.set 3 _ (by omega) rfl; clear HT; obtain ⟨a0, a1⟩ := HS.out.a2)
            | (go_at_call 86; refine Calls.mono (T8.out _) ?_; rintro e w7 ⟨rfl, hb⟩; clear T8; have HT : Hid _ := HS.out.go hb; clear HS hb; have HS : Hid _ := HT.out; clear HT; (try clear a0 a1); obtain ⟨a0, a1⟩ := HS.out.a2)
            | (go_at_call 52; refine Calls.mono (H4.out _ HS.out.l) ?_; rintro e w' ⟨rfl, hw⟩; subst w'; obtain ⟨o0, o1, o2, o3, o4⟩ := HS.out.o5; obtain ⟨r0, r1, r2, r3, r4⟩ := HS.out.r5; have rf0 := HS.out.r.f 0; have rf1 := HS.out.r.f 1; have rf2 := HS.out.r.f 2; have rf3 := HS.out.r.f 3; have rf4 := HS.out.r.f 4))
          refine bodyPost_ret (v := O.val ⟨d, x1.1, x2.1, x3.1, 0⟩) (by simp [results, Tryz.results68, go_sem, r0, r1, r2, r3, r4]) rfl ⟨rfl, ?_⟩
          iterate 5 (refine Fr.setCell ?_ (.inl (Nat.le_succ _)) _ _)
          exact HS.out.fr
set_option maxHeartbeats 4000000 in
theorem read_3 (q d : Nat) (l : Ln) (w : World) (h : LIn w q l) (hV : Vars w) (hq : 7 ≤ q) : Calls Tryz.prog 68 #[.agg #[.int .i8 (d : Int), .int .u8 3], .pointer (some ⟨q, 0, none⟩)] w (Does (One q) (readR d 3 l) (fun o e w' => e = .returned o.val ∧ Fr (One q) w w') w) := by
  rw [show readR d 3 l = (regR l).bind fun x1 => (regR x1.2).bind fun x2 => (closeR x2.2).bind fun _ => .ok ⟨d, x1.1, x2.1, 0, 0⟩ from rfl]
  have HS : Hid _ := Rw.start (d := d) (f := 3) h hV hq 97 46 46
  have T1 : Hid _ := tells_3_1 (d : Int)
  have T2 : Hid _ := tells_3_2 (d : Int)
  have T4 : Hid _ := tells_3_4 (d : Int)
  have T8 : Hid _ := tells_3_8 (d : Int)
  clear h hV
  cases e1 : regR l with
  | no fl =>
    have H1 : Hid _ := regP hq e1
    rw [R.bind_no]
    clear e1
    go_enter Tryz.func68, Tryz.ntmps68
    go_wp2_with (first
      | (go_at_call 86; refine Calls.mono (T1.out _) ?_; rintro e w1 ⟨rfl, hb⟩; clear T1; have HT : Hid _ := HS.out.go hb; clear HS hb; have HS : Hid _ := HT.out; clear HT; (try clear a0 a1); obtain ⟨a0, a1⟩ := HS.out.a2)
      | (go_at_call 56; refine Calls.mono (H1.out _ HS.out.l HS.out.v) ?_; rintro e wp hp; have HP : Hid _ := hp.after HS.out.fr fun _ _ hk => hk; obtain ⟨fq, rfl, hp⟩ := hp; clear hp))
    exact ⟨rfl, HP.out⟩
  | ok x1 =>
    have H1 : Hid _ := regC hq e1
    rw [R.bind_ok]
    cases e2 : regR x1.2 with
    | no fl =>
      have H2 : Hid _ := regP hq e2
      rw [R.bind_no]
      clear e1 e2
      go_enter Tryz.func68, Tryz.ntmps68
      go_wp2_with (first
        | (go_at_call 86; refine Calls.mono (T1.out _) ?_; rintro e w1 ⟨rfl, hb⟩; clear T1; have HT : Hid _ := HS.out.go hb; clear HS hb; have HS : Hid _ := HT.out; clear HT; (try clear a0 a1); obtain ⟨a0, a1⟩ := HS.out.a2)
        | (go_at_call 56; refine Calls.mono (H1.out _ HS.out.l HS.out.v) ?_; rintro e w2 ⟨rfl, hL, hF⟩; have HT : Hid _ := HS.out.line hF hL; clear HS hL hF H1 a0 a1; obtain ⟨s0, s1, s2, s3, s4⟩ := HT.out.o5; have t1 := HT.out.o.f 1; simp only at s0 s1 s2 s3 s4; have HS : Hid (Rw w (w2.setCell ⟨w.heap.size + 1 + 1, 1, none⟩ (.int .u8 (x1.1 : Int))) q d 3 ⟨d, x1.1, 0, 0, 0⟩ x1.2) := HT.out.set 1 _ (by omega) rfl; clear HT; obtain ⟨a0, a1⟩ := HS.out.a2)
        | (go_at_call 86; refine Calls.mono (T2.out _) ?_; rintro e w3 ⟨rfl, hb⟩; clear T2; have HT : Hid _ := HS.out.go hb; clear HS hb; have HS : Hid _ := HT.out; clear HT; (try clear a0 a1); obtain ⟨a0, a1⟩ := HS.out.a2)
        | (go_at_call 56; refine Calls.mono (H2.out _ HS.out.l HS.out.v) ?_; rintro e wp hp; have HP : Hid _ := hp.after HS.out.fr fun _ _ hk => hk; obtain ⟨fq, rfl, hp⟩ := hp; clear hp))
      exact ⟨rfl, HP.out⟩
    | ok x2 =>
      have H2 : Hid _ := regC hq e2
      rw [R.bind_ok]
      cases e3 : closeR x2.2 with
      | no fl =>
        have H3 : Hid _ := cloP (q := q) e3
        rw [R.bind_no]
        clear e1 e2 e3
        go_enter Tryz.func68, Tryz.ntmps68
        go_wp2_with (first
          | (go_at_call 86; refine Calls.mono (T1.out _) ?_; rintro e w1 ⟨rfl, hb⟩; clear T1; have HT : Hid _ := HS.out.go hb; clear HS hb; have HS : Hid _ := HT.out; clear HT; (try clear a0 a1); obtain ⟨a0, a1⟩ := HS.out.a2)
          | (go_at_call 56; refine Calls.mono (H1.out _ HS.out.l HS.out.v) ?_; rintro e w2 ⟨rfl, hL, hF⟩; have HT : Hid _ := HS.out.line hF hL; clear HS hL hF H1 a0 a1; obtain ⟨s0, s1, s2, s3, s4⟩ := HT.out.o5; have t1 := HT.out.o.f 1; simp only at s0 s1 s2 s3 s4; have HS : Hid (Rw w (w2.setCell ⟨w.heap.size + 1 + 1, 1, none⟩ (.int .u8 (x1.1 : Int))) q d 3 ⟨d, x1.1, 0, 0, 0⟩ x1.2) := HT.out.set 1 _ (by omega) rfl; clear HT; obtain ⟨a0, a1⟩ := HS.out.a2)
          | (go_at_call 86; refine Calls.mono (T2.out _) ?_; rintro e w3 ⟨rfl, hb⟩; clear T2; have HT : Hid _ := HS.out.go hb; clear HS hb; have HS : Hid _ := HT.out; clear HT; (try clear a0 a1); obtain ⟨a0, a1⟩ := HS.out.a2)
          | (go_at_call 56; refine Calls.mono (H2.out _ HS.out.l HS.out.v) ?_; rintro e w4 ⟨rfl, hL, hF⟩; have HT : Hid _ := HS.out.line hF hL; clear HS hL hF H2 a0 a1; obtain ⟨s0, s1, s2, s3, s4⟩ := HT.out.o5; have t2 := HT.out.o.f 2; simp only at s0 s1 s2 s3 s4; have HS : Hid (Rw w (w4.setCell ⟨w.heap.size + 1 + 1, 2, none⟩ (.int .u8 (x2.1 : Int))) q d 3 ⟨d, x1.1, x2.1, 0, 0⟩ x2.2) := HT.out.set 2 _ (by omega) rfl; clear HT; obtain ⟨a0, a1⟩ := HS.out.a2)
          | (go_at_call 86; refine Calls.mono (T4.out _) ?_; rintro e w5 ⟨rfl, hb⟩; clear T4; have HT : Hid _ := HS.out.go hb; clear HS hb; have HS : Hid _ := HT.out; clear HT; (try clear a0 a1); obtain ⟨a0, a1⟩ := HS.out.a2)
          | (go_at_call 86; refine Calls.mono (T8.out _) ?_; rintro e w6 ⟨rfl, hb⟩; clear T8; have HT : Hid _ := HS.out.go hb; clear HS hb; have HS : Hid _ := HT.out; clear HT; (try clear a0 a1); obtain ⟨a0, a1⟩ := HS.out.a2)
          | (go_at_call 52; refine Calls.mono (H3.out _ HS.out.l) ?_; rintro e wp hp; have HP : Hid _ := hp.after HS.out.fr fun _ _ hk => hk; obtain ⟨fq, rfl, hp⟩ := hp; clear hp))
        exact ⟨rfl, HP.out⟩
      | ok u =>
        have H3 : Hid _ := cloC (q := q) e3
        rw [R.bind_ok]
        clear e1 e2 e3
        go_enter Tryz.func68, Tryz.ntmps68
        go_wp2_with (first
          | (go_at_call 86; refine Calls.mono (T1.out _) ?_; rintro e w1 ⟨rfl, hb⟩; clear T1; have HT : Hid _ := HS.out.go hb; clear HS hb; have HS : Hid _ := HT.out; clear HT; (try clear a0 a1); obtain ⟨a0, a1⟩ := HS.out.a2)
          | (go_at_call 56; refine Calls.mono (H1.out _ HS.out.l HS.out.v) ?_; rintro e w2 ⟨rfl, hL, hF⟩; have HT : Hid _ := HS.out.line hF hL; clear HS hL hF H1 a0 a1; obtain ⟨s0, s1, s2, s3, s4⟩ := HT.out.o5; have t1 := HT.out.o.f 1; simp only at s0 s1 s2 s3 s4; have HS : Hid (Rw w (w2.setCell ⟨w.heap.size + 1 + 1, 1, none⟩ (.int .u8 (x1.1 : Int))) q d 3 ⟨d, x1.1, 0, 0, 0⟩ x1.2) := HT.out.set 1 _ (by omega) rfl; clear HT; obtain ⟨a0, a1⟩ := HS.out.a2)
          | (go_at_call 86; refine Calls.mono (T2.out _) ?_; rintro e w3 ⟨rfl, hb⟩; clear T2; have HT : Hid _ := HS.out.go hb; clear HS hb; have HS : Hid _ := HT.out; clear HT; (try clear a0 a1); obtain ⟨a0, a1⟩ := HS.out.a2)
          | (go_at_call 56; refine Calls.mono (H2.out _ HS.out.l HS.out.v) ?_; rintro e w4 ⟨rfl, hL, hF⟩; have HT : Hid _ := HS.out.line hF hL; clear HS hL hF H2 a0 a1; obtain ⟨s0, s1, s2, s3, s4⟩ := HT.out.o5; have t2 := HT.out.o.f 2; simp only at s0 s1 s2 s3 s4; have HS : Hid (Rw w (w4.setCell ⟨w.heap.size + 1 + 1, 2, none⟩ (.int .u8 (x2.1 : Int))) q d 3 ⟨d, x1.1, x2.1, 0, 0⟩ x2.2) := HT.out.set 2 _ (by omega) rfl; clear HT; obtain ⟨a0, a1⟩ := HS.out.a2)
          | (go_at_call 86; refine Calls.mono (T4.out _) ?_; rintro e w5 ⟨rfl, hb⟩; clear T4; have HT : Hid _ := HS.out.go hb; clear HS hb; have HS : Hid _ := HT.out; clear HT; (try clear a0 a1); obtain ⟨a0, a1⟩ := HS.out.a2)
          | (go_at_call 86; refine Calls.mono (T8.out _) ?_; rintro e w6 ⟨rfl, hb⟩; clear T8; have HT : Hid _ := HS.out.go hb; clear HS hb; have HS : Hid _ := HT.out; clear HT; (try clear a0 a1); obtain ⟨a0, a1⟩ := HS.out.a2)
          | (go_at_call 52; refine Calls.mono (H3.out _ HS.out.l) ?_; rintro e w' ⟨rfl, hw⟩; subst w'; obtain ⟨o0, o1, o2, o3, o4⟩ := HS.out.o5; obtain ⟨r0, r1, r2, r3, r4⟩ := HS.out.r5; have rf0 := HS.out.r.f 0; have rf1 := HS.out.r.f 1; have rf2 := HS.out.r.f 2; have rf3 := HS.out.r.f 3; have rf4 := HS.out.r.f 4))
        refine bodyPost_ret (v := O.val ⟨d, x1.1, x2.1, 0, 0⟩) (by simp [results, Tryz.results68, go_sem, r0, r1, r2, r3, r4]) rfl ⟨rfl, ?_⟩
        iterate 5 (refine Fr.setCell ?_ (.inl (Nat.le_succ _)) _ _)
        exact HS.out.fr
set_option maxHeartbeats 4000000 in
theorem read_11 (q d : Nat) (l : Ln) (w : World) (h : LIn w q l) (hV : Vars w) (hq : 7 ≤ q) : Calls Tryz.prog 68 #[.agg #[.int .i8 (d : Int), .int .u8 11], .pointer (some ⟨q, 0, none⟩)] w (Does (One q) (readR d 11 l) (fun o e w' => e = .returned o.val ∧ Fr (One q) w w') w) := by
  rw [show readR d 11 l = (regR l).bind fun x1 => (regR x1.2).bind fun x2 => (numR x2.2).bind fun x3 => (closeR x3.2).bind fun _ => .ok ⟨d, x1.1, x2.1, 0, x3.1⟩ from rfl]
  have HS : Hid _ := Rw.start (d := d) (f := 11) h hV hq 97 46 46
  have T1 : Hid _ := tells_11_1 (d : Int)
  have T2 : Hid _ := tells_11_2 (d : Int)
  have T4 : Hid _ := tells_11_4 (d : Int)
  have T8 : Hid _ := tells_11_8 (d : Int)
  clear h hV
  cases e1 : regR l with
  | no fl =>
    have H1 : Hid _ := regP hq e1
    rw [R.bind_no]
    clear e1
    go_enter Tryz.func68, Tryz.ntmps68
    go_wp2_with (first
      | (go_at_call 86; refine Calls.mono (T1.out _) ?_; rintro e w1 ⟨rfl, hb⟩; clear T1; have HT : Hid _ := HS.out.go hb; clear HS hb; have HS : Hid _ := HT.out; clear HT; (try clear a0 a1); obtain ⟨a0, a1⟩ := HS.out.a2)
      | (go_at_call 56; refine Calls.mono (H1.out _ HS.out.l HS.out.v) ?_; rintro e wp hp; have HP : Hid _ := hp.after HS.out.fr fun _ _ hk => hk; obtain ⟨fq, rfl, hp⟩ := hp; clear hp))
    exact ⟨rfl, HP.out⟩
  | ok x1 =>
    have H1 : Hid _ := regC hq e1
    rw [R.bind_ok]
    cases e2 : regR x1.2 with
    | no fl =>
      have H2 : Hid _ := regP hq e2
      rw [R.bind_no]
      clear e1 e2
      go_enter Tryz.func68, Tryz.ntmps68
      go_wp2_with (first
        | (go_at_call 86; refine Calls.mono (T1.out _) ?_; rintro e w1 ⟨rfl, hb⟩; clear T1; have HT : Hid _ := HS.out.go hb; clear HS hb; have HS : Hid _ := HT.out; clear HT; (try clear a0 a1); obtain ⟨a0, a1⟩ := HS.out.a2)
        | (go_at_call 56; refine Calls.mono (H1.out _ HS.out.l HS.out.v) ?_; rintro e w2 ⟨rfl, hL, hF⟩; have HT : Hid _ := HS.out.line hF hL; clear HS hL hF H1 a0 a1; obtain ⟨s0, s1, s2, s3, s4⟩ := HT.out.o5; have t1 := HT.out.o.f 1; simp only at s0 s1 s2 s3 s4; have HS : Hid (Rw w (w2.setCell ⟨w.heap.size + 1 + 1, 1, none⟩ (.int .u8 (x1.1 : Int))) q d 11 ⟨d, x1.1, 0, 0, 0⟩ x1.2) := HT.out.set 1 _ (by omega) rfl; clear HT; obtain ⟨a0, a1⟩ := HS.out.a2)
        | (go_at_call 86; refine Calls.mono (T2.out _) ?_; rintro e w3 ⟨rfl, hb⟩; clear T2; have HT : Hid _ := HS.out.go hb; clear HS hb; have HS : Hid _ := HT.out; clear HT; (try clear a0 a1); obtain ⟨a0, a1⟩ := HS.out.a2)
        | (go_at_call 56; refine Calls.mono (H2.out _ HS.out.l HS.out.v) ?_; rintro e wp hp; have HP : Hid _ := hp.after HS.out.fr fun _ _ hk => hk; obtain ⟨fq, rfl, hp⟩ := hp; clear hp))
      exact ⟨rfl, HP.out⟩
    | ok x2 =>
      have H2 : Hid _ := regC hq e2
      rw [R.bind_ok]
      cases e3 : numR x2.2 with
      | no fl =>
        have H3 : Hid _ := numP hq e3
        rw [R.bind_no]
        clear e1 e2 e3
        go_enter Tryz.func68, Tryz.ntmps68
        go_wp2_with (first
          | (go_at_call 86; refine Calls.mono (T1.out _) ?_; rintro e w1 ⟨rfl, hb⟩; clear T1; have HT : Hid _ := HS.out.go hb; clear HS hb; have HS : Hid _ := HT.out; clear HT; (try clear a0 a1); obtain ⟨a0, a1⟩ := HS.out.a2)
          | (go_at_call 56; refine Calls.mono (H1.out _ HS.out.l HS.out.v) ?_; rintro e w2 ⟨rfl, hL, hF⟩; have HT : Hid _ := HS.out.line hF hL; clear HS hL hF H1 a0 a1; obtain ⟨s0, s1, s2, s3, s4⟩ := HT.out.o5; have t1 := HT.out.o.f 1; simp only at s0 s1 s2 s3 s4; have HS : Hid (Rw w (w2.setCell ⟨w.heap.size + 1 + 1, 1, none⟩ (.int .u8 (x1.1 : Int))) q d 11 ⟨d, x1.1, 0, 0, 0⟩ x1.2) := HT.out.set 1 _ (by omega) rfl; clear HT; obtain ⟨a0, a1⟩ := HS.out.a2)
          | (go_at_call 86; refine Calls.mono (T2.out _) ?_; rintro e w3 ⟨rfl, hb⟩; clear T2; have HT : Hid _ := HS.out.go hb; clear HS hb; have HS : Hid _ := HT.out; clear HT; (try clear a0 a1); obtain ⟨a0, a1⟩ := HS.out.a2)
          | (go_at_call 56; refine Calls.mono (H2.out _ HS.out.l HS.out.v) ?_; rintro e w4 ⟨rfl, hL, hF⟩; have HT : Hid _ := HS.out.line hF hL; clear HS hL hF H2 a0 a1; obtain ⟨s0, s1, s2, s3, s4⟩ := HT.out.o5; have t2 := HT.out.o.f 2; simp only at s0 s1 s2 s3 s4; have HS : Hid (Rw w (w4.setCell ⟨w.heap.size + 1 + 1, 2, none⟩ (.int .u8 (x2.1 : Int))) q d 11 ⟨d, x1.1, x2.1, 0, 0⟩ x2.2) := HT.out.set 2 _ (by omega) rfl; clear HT; obtain ⟨a0, a1⟩ := HS.out.a2)
          | (go_at_call 86; refine Calls.mono (T4.out _) ?_; rintro e w5 ⟨rfl, hb⟩; clear T4; have HT : Hid _ := HS.out.go hb; clear HS hb; have HS : Hid _ := HT.out; clear HT; (try clear a0 a1); obtain ⟨a0, a1⟩ := HS.out.a2)
          | (go_at_call 86; refine Calls.mono (T8.out _) ?_; rintro e w6 ⟨rfl, hb⟩; clear T8; have HT : Hid _ := HS.out.go hb; clear HS hb; have HS : Hid _ := HT.out; clear HT; (try clear a0 a1); obtain ⟨a0, a1⟩ := HS.out.a2)
          | (go_at_call 69; refine Calls.mono (H3.out _ HS.out.l HS.out.v) ?_; rintro e wp hp; have HP : Hid _ := hp.after HS.out.fr fun _ _ hk => hk; obtain ⟨fq, rfl, hp⟩ := hp; clear hp))
        exact ⟨rfl, HP.out⟩
      | ok x3 =>
        have H3 : Hid _ := numC hq e3
        rw [R.bind_ok]
        cases e4 : closeR x3.2 with
        | no fl =>
          have H4 : Hid _ := cloP (q := q) e4
          rw [R.bind_no]
          clear e1 e2 e3 e4
          go_enter Tryz.func68, Tryz.ntmps68
          go_wp2_with (first
            | (go_at_call 86; refine Calls.mono (T1.out _) ?_; rintro e w1 ⟨rfl, hb⟩; clear T1; have HT : Hid _ := HS.out.go hb; clear HS hb; have HS : Hid _ := HT.out; clear HT; (try clear a0 a1); obtain ⟨a0, a1⟩ := HS.out.a2)
            | (go_at_call 56; refine Calls.mono (H1.out _ HS.out.l HS.out.v) ?_; rintro e w2 ⟨rfl, hL, hF⟩; have HT : Hid _ := HS.out.line hF hL; clear HS hL hF H1 a0 a1; obtain ⟨s0, s1, s2, s3, s4⟩ := HT.out.o5; have t1 := HT.out.o.f 1; simp only at s0 s1 s2 s3 s4; have HS : Hid (Rw w (w2.setCell ⟨w.heap.size + 1 + 1, 1, none⟩ (.int .u8 (x1.1 : Int))) q d 11 ⟨d, x1.1, 0, 0, 0⟩ x1.2) := HT.out.set 1 _ (by omega) rfl; clear HT; obtain ⟨a0, a1⟩ := HS.out.a2)
            | (go_at_call 86; refine Calls.mono (T2.out _) ?_; rintro e w3 ⟨rfl, hb⟩; clear T2; have HT : Hid _ := HS.out.go hb; clear HS hb; have HS : Hid _ := HT.out; clear HT; (try clear a0 a1); obtain ⟨a0, a1⟩ := HS.out.a2)
            | (go_at_call 56; refine Calls.mono (H2.out _ HS.out.l HS.out.v) ?_; rintro e w4 ⟨rfl, hL, hF⟩; have HT : Hid _ := HS.out.line hF hL; clear HS hL hF H2 a0 a1; obtain ⟨s0, s1, s2, s3, s4⟩ := HT.out.o5; have t2 := HT.out.o.f 2; simp only at s0 s1 s2 s3 s4; have HS : Hid (Rw w (w4.setCell ⟨w.heap.size + 1 + 1, 2, none⟩ (.int .u8 (x2.1 : Int))) q d 11 ⟨d, x1.1, x2.1, 0, 0⟩ x2.2) := HT.out.set 2 _ (by omega) rfl; clear HT; obtain ⟨a0, a1⟩ := HS.out.a2)
            | (go_at_call 86; refine Calls.mono (T4.out _) ?_; rintro e w5 ⟨rfl, hb⟩; clear T4; have HT : Hid _ := HS.out.go hb; clear HS hb; have HS : Hid _ := HT.out; clear HT; (try clear a0 a1); obtain ⟨a0, a1⟩ := HS.out.a2)
            | (go_at_call 86; refine Calls.mono (T8.out _) ?_; rintro e w6 ⟨rfl, hb⟩; clear T8; have HT : Hid _ := HS.out.go hb; clear HS hb; have HS : Hid _ := HT.out; clear HT; (try clear a0 a1); obtain ⟨a0, a1⟩ := HS.out.a2)
            | (go_at_call 69; refine Calls.mono (H3.out _ HS.out.l HS.out.v) ?_; rintro e w7 ⟨rfl, hL, hF⟩; have HT : Hid _ := HS.out.line hF hL; clear HS hL hF H3 a0 a1; obtain ⟨s0, s1, s2, s3, s4⟩ := HT.out.o5; have t4 := HT.out.o.f 4; simp only at s0 s1 s2 s3 s4; have HS : Hid (Rw w (w7.setCell ⟨w.heap.size + 1 + 1, 4, none⟩ (.int .i64 x3.1)) q d 11 ⟨d, x1.1, x2.1, 0, x3.1⟩ x3.2) := HT.out.set 4 _ (by omega) rfl; clear HT; obtain ⟨a0, a1⟩ := HS.out.a2)
            | (go_at_call 52; refine Calls.mono (H4.out _ HS.out.l) ?_; rintro e wp hp; have HP : Hid _ := hp.after HS.out.fr fun _ _ hk => hk; obtain ⟨fq, rfl, hp⟩ := hp; clear hp))
          exact ⟨rfl, HP.out⟩
        | ok u =>
          have H4 : Hid _ := cloC (q := q) e4
          rw [R.bind_ok]
          clear e1 e2 e3 e4
          go_enter Tryz.func68, Tryz.ntmps68
          go_wp2_with (first
            | (go_at_call 86; refine Calls.mono (T1.out _) ?_; rintro e w1 ⟨rfl, hb⟩; clear T1; have HT : Hid _ := HS.out.go hb; clear HS hb; have HS : Hid _ := HT.out; clear HT; (try clear a0 a1); obtain ⟨a0, a1⟩ := HS.out.a2)
            | (go_at_call 56; refine Calls.mono (H1.out _ HS.out.l HS.out.v) ?_; rintro e w2 ⟨rfl, hL, hF⟩; have HT : Hid _ := HS.out.line hF hL; clear HS hL hF H1 a0 a1; obtain ⟨s0, s1, s2, s3, s4⟩ := HT.out.o5; have t1 := HT.out.o.f 1; simp only at s0 s1 s2 s3 s4; have HS : Hid (Rw w (w2.setCell ⟨w.heap.size + 1 + 1, 1, none⟩ (.int .u8 (x1.1 : Int))) q d 11 ⟨d, x1.1, 0, 0, 0⟩ x1.2) := HT.out.set 1 _ (by omega) rfl; clear HT; obtain ⟨a0, a1⟩ := HS.out.a2)
            | (go_at_call 86; refine Calls.mono (T2.out _) ?_; rintro e w3 ⟨rfl, hb⟩; clear T2; have HT : Hid _ := HS.out.go hb; clear HS hb; have HS : Hid _ := HT.out; clear HT; (try clear a0 a1); obtain ⟨a0, a1⟩ := HS.out.a2)
            | (go_at_call 56; refine Calls.mono (H2.out _ HS.out.l HS.out.v) ?_; rintro e w4 ⟨rfl, hL, hF⟩; have HT : Hid _ := HS.out.line hF hL; clear HS hL hF H2 a0 a1; obtain ⟨s0, s1, s2, s3, s4⟩ := HT.out.o5; have t2 := HT.out.o.f 2; simp only at s0 s1 s2 s3 s4; have HS : Hid (Rw w (w4.setCell ⟨w.heap.size + 1 + 1, 2, none⟩ (.int .u8 (x2.1 : Int))) q d 11 ⟨d, x1.1, x2.1, 0, 0⟩ x2.2) := HT.out.set 2 _ (by omega) rfl; clear HT; obtain ⟨a0, a1⟩ := HS.out.a2)
            | (go_at_call 86; refine Calls.mono (T4.out _) ?_; rintro e w5 ⟨rfl, hb⟩; clear T4; have HT : Hid _ := HS.out.go hb; clear HS hb; have HS : Hid _ := HT.out; clear HT; (try clear a0 a1); obtain ⟨a0, a1⟩ := HS.out.a2)
            | (go_at_call 86; refine Calls.mono (T8.out _) ?_; rintro e w6 ⟨rfl, hb⟩; clear T8; have HT : Hid _ := HS.out.go hb; clear HS hb; have HS : Hid _ := HT.out; clear HT; (try clear a0 a1); obtain ⟨a0, a1⟩ := HS.out.a2)
            | (go_at_call 69; refine Calls.mono (H3.out _ HS.out.l HS.out.v) ?_; rintro e w7 ⟨rfl, hL, hF⟩; have HT : Hid _ := HS.out.line hF hL; clear HS hL hF H3 a0 a1; obtain ⟨s0, s1, s2, s3, s4⟩ := HT.out.o5; have t4 := HT.out.o.f 4; simp only at s0 s1 s2 s3 s4; have HS : Hid (Rw w (w7.setCell ⟨w.heap.size + 1 + 1, 4, none⟩ (.int .i64 x3.1)) q d 11 ⟨d, x1.1, x2.1, 0, x3.1⟩ x3.2) := HT.out.set 4 _ (by omega) rfl; clear HT; obtain ⟨a0, a1⟩ := HS.out.a2)
            | (go_at_call 52; refine Calls.mono (H4.out _ HS.out.l) ?_; rintro e w' ⟨rfl, hw⟩; subst w'; obtain ⟨o0, o1, o2, o3, o4⟩ := HS.out.o5; obtain ⟨r0, r1, r2, r3, r4⟩ := HS.out.r5; have rf0 := HS.out.r.f 0; have rf1 := HS.out.r.f 1; have rf2 := HS.out.r.f 2; have rf3 := HS.out.r.f 3; have rf4 := HS.out.r.f 4))
          refine bodyPost_ret (v := O.val ⟨d, x1.1, x2.1, 0, x3.1⟩) (by simp [results, Tryz.results68, go_sem, r0, r1, r2, r3, r4]) rfl ⟨rfl, ?_⟩
          iterate 5 (refine Fr.setCell ?_ (.inl (Nat.le_succ _)) _ _)
          exact HS.out.fr
set_option maxHeartbeats 4000000 in
theorem read_14 (q d : Nat) (l : Ln) (w : World) (h : LIn w q l) (hV : Vars w) (hq : 7 ≤ q) : Calls Tryz.prog 68 #[.agg #[.int .i8 (d : Int), .int .u8 14], .pointer (some ⟨q, 0, none⟩)] w (Does (One q) (readR d 14 l) (fun o e w' => e = .returned o.val ∧ Fr (One q) w w') w) := by
  rw [show readR d 14 l = (regR l).bind fun x1 => (regR x1.2).bind fun x2 => (numR x2.2).bind fun x3 => (closeR x3.2).bind fun _ => .ok ⟨d, 0, x1.1, x2.1, x3.1⟩ from rfl]
  have HS : Hid _ := Rw.start (d := d) (f := 14) h hV hq 97 46 46
  have T1 : Hid _ := tells_14_1 (d : Int)
  have T2 : Hid _ := tells_14_2 (d : Int)
  have T4 : Hid _ := tells_14_4 (d : Int)
  have T8 : Hid _ := tells_14_8 (d : Int)
  clear h hV
  cases e1 : regR l with
  | no fl =>
    have H1 : Hid _ := regP hq e1
    rw [R.bind_no]
    clear e1
    go_enter Tryz.func68, Tryz.ntmps68
    go_wp2_with (first
      | (go_at_call 86; refine Calls.mono (T1.out _) ?_; rintro e w1 ⟨rfl, hb⟩; clear T1; have HT : Hid _ := HS.out.go hb; clear HS hb; have HS : Hid _ := HT.out; clear HT; (try clear a0 a1); obtain ⟨a0, a1⟩ := HS.out.a2)
      | (go_at_call 86; refine Calls.mono (T2.out _) ?_; rintro e w2 ⟨rfl, hb⟩; clear T2; have HT : Hid _ := HS.out.go hb; clear HS hb; have HS : Hid _ := HT.out; clear HT; (try clear a0 a1); obtain ⟨a0, a1⟩ := HS.out.a2)
      | (go_at_call 56; refine Calls.mono (H1.out _ HS.out.l HS.out.v) ?_; rintro e wp hp; have HP : Hid _ := hp.after HS.out.fr fun _ _ hk => hk; obtain ⟨fq, rfl, hp⟩ := hp; clear hp))
    exact ⟨rfl, HP.out⟩
  | ok x1 =>
    have H1 : Hid _ := regC hq e1
    rw [R.bind_ok]
    cases e2 : regR x1.2 with
    | no fl =>
      have H2 : Hid _ := regP hq e2
      rw [R.bind_no]
      clear e1 e2
      go_enter Tryz.func68, Tryz.ntmps68
      go_wp2_with (first
        | (go_at_call 86; refine Calls.mono (T1.out _) ?_; rintro e w1 ⟨rfl, hb⟩; clear T1; have HT : Hid _ := HS.out.go hb; clear HS hb; have HS : Hid _ := HT.out; clear HT; (try clear a0 a1); obtain ⟨a0, a1⟩ := HS.out.a2)
        | (go_at_call 86; refine Calls.mono (T2.out _) ?_; rintro e w2 ⟨rfl, hb⟩; clear T2; have HT : Hid _ := HS.out.go hb; clear HS hb; have HS : Hid _ := HT.out; clear HT; (try clear a0 a1); obtain ⟨a0, a1⟩ := HS.out.a2)
        | (go_at_call 56; refine Calls.mono (H1.out _ HS.out.l HS.out.v) ?_; rintro e w3 ⟨rfl, hL, hF⟩; have HT : Hid _ := HS.out.line hF hL; clear HS hL hF H1 a0 a1; obtain ⟨s0, s1, s2, s3, s4⟩ := HT.out.o5; have t2 := HT.out.o.f 2; simp only at s0 s1 s2 s3 s4; have HS : Hid (Rw w (w3.setCell ⟨w.heap.size + 1 + 1, 2, none⟩ (.int .u8 (x1.1 : Int))) q d 14 ⟨d, 0, x1.1, 0, 0⟩ x1.2) := HT.out.set 2 _ (by omega) rfl; clear HT; obtain ⟨a0, a1⟩ := HS.out.a2)
        | (go_at_call 86; refine Calls.mono (T4.out _) ?_; rintro e w4 ⟨rfl, hb⟩; clear T4; have HT : Hid _ := HS.out.go hb; clear HS hb; have HS : Hid _ := HT.out; clear HT; (try clear a0 a1); obtain ⟨a0, a1⟩ := HS.out.a2)
        | (go_at_call 56; refine Calls.mono (H2.out _ HS.out.l HS.out.v) ?_; rintro e wp hp; have HP : Hid _ := hp.after HS.out.fr fun _ _ hk => hk; obtain ⟨fq, rfl, hp⟩ := hp; clear hp))
      exact ⟨rfl, HP.out⟩
    | ok x2 =>
      have H2 : Hid _ := regC hq e2
      rw [R.bind_ok]
      cases e3 : numR x2.2 with
      | no fl =>
        have H3 : Hid _ := numP hq e3
        rw [R.bind_no]
        clear e1 e2 e3
        go_enter Tryz.func68, Tryz.ntmps68
        go_wp2_with (first
          | (go_at_call 86; refine Calls.mono (T1.out _) ?_; rintro e w1 ⟨rfl, hb⟩; clear T1; have HT : Hid _ := HS.out.go hb; clear HS hb; have HS : Hid _ := HT.out; clear HT; (try clear a0 a1); obtain ⟨a0, a1⟩ := HS.out.a2)
          | (go_at_call 86; refine Calls.mono (T2.out _) ?_; rintro e w2 ⟨rfl, hb⟩; clear T2; have HT : Hid _ := HS.out.go hb; clear HS hb; have HS : Hid _ := HT.out; clear HT; (try clear a0 a1); obtain ⟨a0, a1⟩ := HS.out.a2)
          | (go_at_call 56; refine Calls.mono (H1.out _ HS.out.l HS.out.v) ?_; rintro e w3 ⟨rfl, hL, hF⟩; have HT : Hid _ := HS.out.line hF hL; clear HS hL hF H1 a0 a1; obtain ⟨s0, s1, s2, s3, s4⟩ := HT.out.o5; have t2 := HT.out.o.f 2; simp only at s0 s1 s2 s3 s4; have HS : Hid (Rw w (w3.setCell ⟨w.heap.size + 1 + 1, 2, none⟩ (.int .u8 (x1.1 : Int))) q d 14 ⟨d, 0, x1.1, 0, 0⟩ x1.2) := HT.out.set 2 _ (by omega) rfl; clear HT; obtain ⟨a0, a1⟩ := HS.out.a2)
          | (go_at_call 86; refine Calls.mono (T4.out _) ?_; rintro e w4 ⟨rfl, hb⟩; clear T4; have HT : Hid _ := HS.out.go hb; clear HS hb; have HS : Hid _ := HT.out; clear HT; (try clear a0 a1); obtain ⟨a0, a1⟩ := HS.out.a2)
          | (go_at_call 56; refine Calls.mono (H2.out _ HS.out.l HS.out.v) ?_; rintro e w5 ⟨rfl, hL, hF⟩; have HT : Hid _ := HS.out.line hF hL; clear HS hL hF H2 a0 a1; obtain ⟨s0, s1, s2, s3, s4⟩ := HT.out.o5; have t3 := HT.out.o.f 3; simp only at s0 s1 s2 s3 s4; have HS : Hid (Rw w (w5.setCell ⟨w.heap.size + 1 + 1, 3, none⟩ (.int .u8 (x2.1 : Int))) q d 14 ⟨d, 0, x1.1, x2.1, 0⟩ x2.2) := HT.out.set 3 _ (by omega) rfl; clear HT; obtain ⟨a0, a1⟩ := HS.out.a2)
          | (go_at_call 86; refine Calls.mono (T8.out _) ?_; rintro e w6 ⟨rfl, hb⟩; clear T8; have HT : Hid _ := HS.out.go hb; clear HS hb; have HS : Hid _ := HT.out; clear HT; (try clear a0 a1); obtain ⟨a0, a1⟩ := HS.out.a2)
          | (go_at_call 69; refine Calls.mono (H3.out _ HS.out.l HS.out.v) ?_; rintro e wp hp; have HP : Hid _ := hp.after HS.out.fr fun _ _ hk => hk; obtain ⟨fq, rfl, hp⟩ := hp; clear hp))
        exact ⟨rfl, HP.out⟩
      | ok x3 =>
        have H3 : Hid _ := numC hq e3
        rw [R.bind_ok]
        cases e4 : closeR x3.2 with
        | no fl =>
          have H4 : Hid _ := cloP (q := q) e4
          rw [R.bind_no]
          clear e1 e2 e3 e4
          go_enter Tryz.func68, Tryz.ntmps68
          go_wp2_with (first
            | (go_at_call 86; refine Calls.mono (T1.out _) ?_; rintro e w1 ⟨rfl, hb⟩; clear T1; have HT : Hid _ := HS.out.go hb; clear HS hb; have HS : Hid _ := HT.out; clear HT; (try clear a0 a1); obtain ⟨a0, a1⟩ := HS.out.a2)
            | (go_at_call 86; refine Calls.mono (T2.out _) ?_; rintro e w2 ⟨rfl, hb⟩; clear T2; have HT : Hid _ := HS.out.go hb; clear HS hb; have HS : Hid _ := HT.out; clear HT; (try clear a0 a1); obtain ⟨a0, a1⟩ := HS.out.a2)
            | (go_at_call 56; refine Calls.mono (H1.out _ HS.out.l HS.out.v) ?_; rintro e w3 ⟨rfl, hL, hF⟩; have HT : Hid _ := HS.out.line hF hL; clear HS hL hF H1 a0 a1; obtain ⟨s0, s1, s2, s3, s4⟩ := HT.out.o5; have t2 := HT.out.o.f 2; simp only at s0 s1 s2 s3 s4; have HS : Hid (Rw w (w3.setCell ⟨w.heap.size + 1 + 1, 2, none⟩ (.int .u8 (x1.1 : Int))) q d 14 ⟨d, 0, x1.1, 0, 0⟩ x1.2) := HT.out.set 2 _ (by omega) rfl; clear HT; obtain ⟨a0, a1⟩ := HS.out.a2)
            | (go_at_call 86; refine Calls.mono (T4.out _) ?_; rintro e w4 ⟨rfl, hb⟩; clear T4; have HT : Hid _ := HS.out.go hb; clear HS hb; have HS : Hid _ := HT.out; clear HT; (try clear a0 a1); obtain ⟨a0, a1⟩ := HS.out.a2)
            | (go_at_call 56; refine Calls.mono (H2.out _ HS.out.l HS.out.v) ?_; rintro e w5 ⟨rfl, hL, hF⟩; have HT : Hid _ := HS.out.line hF hL; clear HS hL hF H2 a0 a1; obtain ⟨s0, s1, s2, s3, s4⟩ := HT.out.o5; have t3 := HT.out.o.f 3; simp only at s0 s1 s2 s3 s4; have HS : Hid (Rw w (w5.setCell ⟨w.heap.size + 1 + 1, 3, none⟩ (.int .u8 (x2.1 : Int))) q d 14 ⟨d, 0, x1.1, x2.1, 0⟩ x2.2) := HT.out.set 3 _ (by omega) rfl; clear HT; obtain ⟨a0, a1⟩ := HS.out.a2)
            | (go_at_call 86; refine Calls.mono (T8.out _) ?_; rintro e w6 ⟨rfl, hb⟩; clear T8; have HT : Hid _ := HS.out.go hb; clear HS hb; have HS : Hid _ := HT.out; clear HT; (try clear a0 a1); obtain ⟨a0, a1⟩ := HS.out.a2)
            | (go_at_call 69; refine Calls.mono (H3.out _ HS.out.l HS.out.v) ?_; rintro e w7 ⟨rfl, hL, hF⟩; have HT : Hid _ := HS.out.line hF hL; clear HS hL hF H3 a0 a1; obtain ⟨s0, s1, s2, s3, s4⟩ := HT.out.o5; have t4 := HT.out.o.f 4; simp only at s0 s1 s2 s3 s4; have HS : Hid (Rw w (w7.setCell ⟨w.heap.size + 1 + 1, 4, none⟩ (.int .i64 x3.1)) q d 14 ⟨d, 0, x1.1, x2.1, x3.1⟩ x3.2) := HT.out.set 4 _ (by omega) rfl; clear HT; obtain ⟨a0, a1⟩ := HS.out.a2)
            | (go_at_call 52; refine Calls.mono (H4.out _ HS.out.l) ?_; rintro e wp hp; have HP : Hid _ := hp.after HS.out.fr fun _ _ hk => hk; obtain ⟨fq, rfl, hp⟩ := hp; clear hp))
          exact ⟨rfl, HP.out⟩
        | ok u =>
          have H4 : Hid _ := cloC (q := q) e4
          rw [R.bind_ok]
          clear e1 e2 e3 e4
          go_enter Tryz.func68, Tryz.ntmps68
          go_wp2_with (first
            | (go_at_call 86; refine Calls.mono (T1.out _) ?_; rintro e w1 ⟨rfl, hb⟩; clear T1; have HT : Hid _ := HS.out.go hb; clear HS hb; have HS : Hid _ := HT.out; clear HT; (try clear a0 a1); obtain ⟨a0, a1⟩ := HS.out.a2)
            | (go_at_call 86; refine Calls.mono (T2.out _) ?_; rintro e w2 ⟨rfl, hb⟩; clear T2; have HT : Hid _ := HS.out.go hb; clear HS hb; have HS : Hid _ := HT.out; clear HT; (try clear a0 a1); obtain ⟨a0, a1⟩ := HS.out.a2)
            | (go_at_call 56; refine Calls.mono (H1.out _ HS.out.l HS.out.v) ?_; rintro e w3 ⟨rfl, hL, hF⟩; have HT : Hid _ := HS.out.line hF hL; clear HS hL hF H1 a0 a1; obtain ⟨s0, s1, s2, s3, s4⟩ := HT.out.o5; have t2 := HT.out.o.f 2; simp only at s0 s1 s2 s3 s4; have HS : Hid (Rw w (w3.setCell ⟨w.heap.size + 1 + 1, 2, none⟩ (.int .u8 (x1.1 : Int))) q d 14 ⟨d, 0, x1.1, 0, 0⟩ x1.2) := HT.out.set 2 _ (by omega) rfl; clear HT; obtain ⟨a0, a1⟩ := HS.out.a2)
            | (go_at_call 86; refine Calls.mono (T4.out _) ?_; rintro e w4 ⟨rfl, hb⟩; clear T4; have HT : Hid _ := HS.out.go hb; clear HS hb; have HS : Hid _ := HT.out; clear HT; (try clear a0 a1); obtain ⟨a0, a1⟩ := HS.out.a2)
            | (go_at_call 56; refine Calls.mono (H2.out _ HS.out.l HS.out.v) ?_; rintro e w5 ⟨rfl, hL, hF⟩; have HT : Hid _ := HS.out.line hF hL; clear HS hL hF H2 a0 a1; obtain ⟨s0, s1, s2, s3, s4⟩ := HT.out.o5; have t3 := HT.out.o.f 3; simp only at s0 s1 s2 s3 s4; have HS : Hid (Rw w (w5.setCell ⟨w.heap.size + 1 + 1, 3, none⟩ (.int .u8 (x2.1 : Int))) q d 14 ⟨d, 0, x1.1, x2.1, 0⟩ x2.2) := HT.out.set 3 _ (by omega) rfl; clear HT; obtain ⟨a0, a1⟩ := HS.out.a2)
            | (go_at_call 86; refine Calls.mono (T8.out _) ?_; rintro e w6 ⟨rfl, hb⟩; clear T8; have HT : Hid _ := HS.out.go hb; clear HS hb; have HS : Hid _ := HT.out; clear HT; (try clear a0 a1); obtain ⟨a0, a1⟩ := HS.out.a2)
            | (go_at_call 69; refine Calls.mono (H3.out _ HS.out.l HS.out.v) ?_; rintro e w7 ⟨rfl, hL, hF⟩; have HT : Hid _ := HS.out.line hF hL; clear HS hL hF H3 a0 a1; obtain ⟨s0, s1, s2, s3, s4⟩ := HT.out.o5; have t4 := HT.out.o.f 4; simp only at s0 s1 s2 s3 s4; have HS : Hid (Rw w (w7.setCell ⟨w.heap.size + 1 + 1, 4, none⟩ (.int .i64 x3.1)) q d 14 ⟨d, 0, x1.1, x2.1, x3.1⟩ x3.2) := HT.out.set 4 _ (by omega) rfl; clear HT; obtain ⟨a0, a1⟩ := HS.out.a2)
            | (go_at_call 52; refine Calls.mono (H4.out _ HS.out.l) ?_; rintro e w' ⟨rfl, hw⟩; subst w'; obtain ⟨o0, o1, o2, o3, o4⟩ := HS.out.o5; obtain ⟨r0, r1, r2, r3, r4⟩ := HS.out.r5; have rf0 := HS.out.r.f 0; have rf1 := HS.out.r.f 1; have rf2 := HS.out.r.f 2; have rf3 := HS.out.r.f 3; have rf4 := HS.out.r.f 4))
          refine bodyPost_ret (v := O.val ⟨d, 0, x1.1, x2.1, x3.1⟩) (by simp [results, Tryz.results68, go_sem, r0, r1, r2, r3, r4]) rfl ⟨rfl, ?_⟩
          iterate 5 (refine Fr.setCell ?_ (.inl (Nat.le_succ _)) _ _)
          exact HS.out.fr
set_option maxHeartbeats 4000000 in
theorem read_2 (q d : Nat) (l : Ln) (w : World) (h : LIn w q l) (hV : Vars w) (hq : 7 ≤ q) : Calls Tryz.prog 68 #[.agg #[.int .i8 (d : Int), .int .u8 2], .pointer (some ⟨q, 0, none⟩)] w (Does (One q) (readR d 2 l) (fun o e w' => e = .returned o.val ∧ Fr (One q) w w') w) := by
  rw [show readR d 2 l = (regR l).bind fun x1 => (closeR x1.2).bind fun _ => .ok ⟨d, 0, x1.1, 0, 0⟩ from rfl]
  have HS : Hid _ := Rw.start (d := d) (f := 2) h hV hq 97 46 46
  have T1 : Hid _ := tells_2_1 (d : Int)
  have T2 : Hid _ := tells_2_2 (d : Int)
  have T4 : Hid _ := tells_2_4 (d : Int)
  have T8 : Hid _ := tells_2_8 (d : Int)
  clear h hV
  cases e1 : regR l with
  | no fl =>
    have H1 : Hid _ := regP hq e1
    rw [R.bind_no]
    clear e1
    go_enter Tryz.func68, Tryz.ntmps68
    go_wp2_with (first
      | (go_at_call 86; refine Calls.mono (T1.out _) ?_; rintro e w1 ⟨rfl, hb⟩; clear T1; have HT : Hid _ := HS.out.go hb; clear HS hb; have HS : Hid _ := HT.out; clear HT; (try clear a0 a1); obtain ⟨a0, a1⟩ := HS.out.a2)
      | (go_at_call 86; refine Calls.mono (T2.out _) ?_; rintro e w2 ⟨rfl, hb⟩; clear T2; have HT : Hid _ := HS.out.go hb; clear HS hb; have HS : Hid _ := HT.out; clear HT; (try clear a0 a1); obtain ⟨a0, a1⟩ := HS.out.a2)
      | (go_at_call 56; refine Calls.mono (H1.out _ HS.out.l HS.out.v) ?_; rintro e wp hp; have HP : Hid _ := hp.after HS.out.fr fun _ _ hk => hk; obtain ⟨fq, rfl, hp⟩ := hp; clear hp))
    exact ⟨rfl, HP.out⟩
  | ok x1 =>
    have H1 : Hid _ := regC hq e1
    rw [R.bind_ok]
    cases e2 : closeR x1.2 with
    | no fl =>
      have H2 : Hid _ := cloP (q := q) e2
      rw [R.bind_no]
      clear e1 e2
      go_enter Tryz.func68, Tryz.ntmps68
      go_wp2_with (first
        | (go_at_call 86; refine Calls.mono (T1.out _) ?_; rintro e w1 ⟨rfl, hb⟩; clear T1; have HT : Hid _ := HS.out.go hb; clear HS hb; have HS : Hid _ := HT.out; clear HT; (try clear a0 a1); obtain ⟨a0, a1⟩ := HS.out.a2)
        | (go_at_call 86; refine Calls.mono (T2.out _) ?_; rintro e w2 ⟨rfl, hb⟩; clear T2; have HT : Hid _ := HS.out.go hb; clear HS hb; have HS : Hid _ := HT.out; clear HT; (try clear a0 a1); obtain ⟨a0, a1⟩ := HS.out.a2)
        | (go_at_call 56; refine Calls.mono (H1.out _ HS.out.l HS.out.v) ?_; rintro e w3 ⟨rfl, hL, hF⟩; have HT : Hid _ := HS.out.line hF hL; clear HS hL hF H1 a0 a1; obtain ⟨s0, s1, s2, s3, s4⟩ := HT.out.o5; have t2 := HT.out.o.f 2; simp only at s0 s1 s2 s3 s4; have HS : Hid (Rw w (w3.setCell ⟨w.heap.size + 1 + 1, 2, none⟩ (.int .u8 (x1.1 : Int))) q d 2 ⟨d, 0, x1.1, 0, 0⟩ x1.2) := HT.out.set 2 _ (by omega) rfl; clear HT; obtain ⟨a0, a1⟩ := HS.out.a2)
        | (go_at_call 86; refine Calls.mono (T4.out _) ?_; rintro e w4 ⟨rfl, hb⟩; clear T4; have HT : Hid _ := HS.out.go hb; clear HS hb; have HS : Hid _ := HT.out; clear HT; (try clear a0 a1); obtain ⟨a0, a1⟩ := HS.out.a2)
        | (go_at_call 86; refine Calls.mono (T8.out _) ?_; rintro e w5 ⟨rfl, hb⟩; clear T8; have HT : Hid _ := HS.out.go hb; clear HS hb; have HS : Hid _ := HT.out; clear HT; (try clear a0 a1); obtain ⟨a0, a1⟩ := HS.out.a2)
        | (go_at_call 52; refine Calls.mono (H2.out _ HS.out.l) ?_; rintro e wp hp; have HP : Hid _ := hp.after HS.out.fr fun _ _ hk => hk; obtain ⟨fq, rfl, hp⟩ := hp; clear hp))
      exact ⟨rfl, HP.out⟩
    | ok u =>
      have H2 : Hid _ := cloC (q := q) e2
      rw [R.bind_ok]
      clear e1 e2
      go_enter Tryz.func68, Tryz.ntmps68
      go_wp2_with (first
        | (go_at_call 86; refine Calls.mono (T1.out _) ?_; rintro e w1 ⟨rfl, hb⟩; clear T1; have HT : Hid _ := HS.out.go hb; clear HS hb; have HS : Hid _ := HT.out; clear HT; (try clear a0 a1); obtain ⟨a0, a1⟩ := HS.out.a2)
        | (go_at_call 86; refine Calls.mono (T2.out _) ?_; rintro e w2 ⟨rfl, hb⟩; clear T2; have HT : Hid _ := HS.out.go hb; clear HS hb; have HS : Hid _ := HT.out; clear HT; (try clear a0 a1); obtain ⟨a0, a1⟩ := HS.out.a2)
        | (go_at_call 56; refine Calls.mono (H1.out _ HS.out.l HS.out.v) ?_; rintro e w3 ⟨rfl, hL, hF⟩; have HT : Hid _ := HS.out.line hF hL; clear HS hL hF H1 a0 a1; obtain ⟨s0, s1, s2, s3, s4⟩ := HT.out.o5; have t2 := HT.out.o.f 2; simp only at s0 s1 s2 s3 s4; have HS : Hid (Rw w (w3.setCell ⟨w.heap.size + 1 + 1, 2, none⟩ (.int .u8 (x1.1 : Int))) q d 2 ⟨d, 0, x1.1, 0, 0⟩ x1.2) := HT.out.set 2 _ (by omega) rfl; clear HT; obtain ⟨a0, a1⟩ := HS.out.a2)
        | (go_at_call 86; refine Calls.mono (T4.out _) ?_; rintro e w4 ⟨rfl, hb⟩; clear T4; have HT : Hid _ := HS.out.go hb; clear HS hb; have HS : Hid _ := HT.out; clear HT; (try clear a0 a1); obtain ⟨a0, a1⟩ := HS.out.a2)
        | (go_at_call 86; refine Calls.mono (T8.out _) ?_; rintro e w5 ⟨rfl, hb⟩; clear T8; have HT : Hid _ := HS.out.go hb; clear HS hb; have HS : Hid _ := HT.out; clear HT; (try clear a0 a1); obtain ⟨a0, a1⟩ := HS.out.a2)
        | (go_at_call 52; refine Calls.mono (H2.out _ HS.out.l) ?_; rintro e w' ⟨rfl, hw⟩; subst w'; obtain ⟨o0, o1, o2, o3, o4⟩ := HS.out.o5; obtain ⟨r0, r1, r2, r3, r4⟩ := HS.out.r5; have rf0 := HS.out.r.f 0; have rf1 := HS.out.r.f 1; have rf2 := HS.out.r.f 2; have rf3 := HS.out.r.f 3; have rf4 := HS.out.r.f 4))
      refine bodyPost_ret (v := O.val ⟨d, 0, x1.1, 0, 0⟩) (by simp [results, Tryz.results68, go_sem, r0, r1, r2, r3, r4]) rfl ⟨rfl, ?_⟩
      iterate 5 (refine Fr.setCell ?_ (.inl (Nat.le_succ _)) _ _)
      exact HS.out.fr
theorem shape_f : ∀ y ∈ shapeL, y.2.2 = 9 ∨ y.2.2 = 7 ∨ y.2.2 = 3 ∨ y.2.2 = 11 ∨ y.2.2 = 14 ∨ y.2.2 = 2 := by decide
theorem shape_mem {s : List UInt8} {x : Nat × Nat} (h : shapeOf s = some x) : ∃ y ∈ shapeL, y.2 = x := by
  unfold shapeOf at h
  obtain ⟨y, hy, rfl⟩ := Option.map_eq_some_iff.1 h
  exact ⟨y, List.mem_of_find?_eq_some hy, rfl⟩
theorem read_any (q d f : Nat) (l : Ln) (s : List UInt8) (w : World) (hs : shapeOf s = some (d, f)) (h : LIn w q l) (hV : Vars w) (hq : 7 ≤ q) : Calls Tryz.prog 68 #[.agg #[.int .i8 (d : Int), .int .u8 (f : Int)], .pointer (some ⟨q, 0, none⟩)] w (Does (One q) (readR d f l) (fun o e w' => e = .returned o.val ∧ Fr (One q) w w') w) := by
  obtain ⟨y, hy, e⟩ := shape_mem hs
  have hf := shape_f y hy
  rw [e] at hf
  simp only at hf
  rcases hf with rfl | rfl | rfl | rfl | rfl | rfl
  · exact read_9 q d l w h hV hq
  · exact read_7 q d l w h hV hq
  · exact read_3 q d l w h hV hq
  · exact read_11 q d l w h hV hq
  · exact read_14 q d l w h hV hq
  · exact read_2 q d l w h hV hq
end Go.Proofs.YthjpddjfckdefaaGreatDoor.Pr
