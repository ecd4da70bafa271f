/- A table of reservations in memory: its counts, a map whose keys are places; where a cycle is counted. Conditions: numbers are 64 bits wide. -/
import Derived.Test.YthjnegdgpnbkkaaDoorTk
import Derived.Maps.OwnSet
import Derived.Maps.OwnOps
import Derived.Maps.Views
import Derived.WideKeyPair
import Derived.WideKeyEntry
import Derived.Deep.DeepCutAuto
import Derived.Deep.CutBlock
namespace Go.Proofs.YthjnegdgpnbkkaaDoor.Rv
open Go.ChangeShapes Go.WideShapes Go.ChangeAt Go.RowKit Go.Maps
open _root_.Go.Proofs.YthjnegdgpnbkkaaDoor.Op _root_.Go.Proofs.YthjnegdgpnbkkaaDoor.So
open _root_.Go.Proofs.YthjnegdgpnbkkaaDoor.Tb (Tab TabAt Bnds)
set_option maxRecDepth 20000

/-- A number of 64 bits. -/
def I64 (n : Int) : Prop := -9223372036854775808 ≤ n ∧ n ≤ 9223372036854775807
theorem wf64i {n : Int} (h : I64 n) : (Lit.int .i64 n).wf = true := by
  obtain ⟨h1, h2⟩ := h
  simp [Lit.wf, IntKind.min, IntKind.max, IntKind.signed, IntKind.bits]; omega
/-- What a place reads as. -/
def kl (a b : Int) : Lit := .string (keyBytes [.int .i64 a, .int .i64 b])
theorem law57 : Keyed Tryd.prog 57 := Keyed.of_law (deep_law (m := 2) (by omega) (by kernel_rfl) (by kernel_rfl) (by kernel_rfl))
theorem klaw57 : WideMaps.KeyLaw Tryd.prog 57 := deep_law (m := 2) (by omega) (by kernel_rfl) (by kernel_rfl) (by kernel_rfl)
theorem types_pos : ∃ m, Tryd.prog.types.size = m + 1 := ⟨Tryd.prog.types.size - 1, by
  have : 0 < Tryd.prog.types.size := Nat.lt_of_lt_of_le (by decide : 0 < 1) (Nat.le_of_ble_eq_true (by kernel_rfl))
  omega⟩
theorem kt57 : Tryd.prog.keyType 57 = true := by kernel_rfl
theorem c57 : Tryd.prog.cellsOf 57 = 2 := by kernel_rfl
theorem c3 : Tryd.prog.cellsOf 3 = 1 := by kernel_rfl
theorem key57 {a b : Int} (ha : I64 a) (hb : I64 b) : keyOf Tryd.prog 57 (.agg #[.int .i64 a, .int .i64 b]) = some (kl a b) := by
  obtain ⟨m, hm⟩ := types_pos
  have wa := wf64i ha
  have wb := wf64i hb
  unfold keyOf
  simp only [Tryd.underlying57]
  rw [if_pos (by simp [kt57, Value.formed, Tryd.underlying57, c57]), hm]
  unfold Program.keyLits
  simp only [Tryd.underlying57, Value.cells]
  rw [if_pos (by rw [c57]; exact ⟨rfl, by simp⟩)]
  simp [c3, Program.keyLits, Tryd.underlying3, wa, wb, kl]
theorem kl_inj {a b c d : Int} (ha : I64 a) (hb : I64 b) (hc : I64 c) (hd : I64 d) (h : kl a b = kl c d) : a = c ∧ b = d := by
  unfold kl at h
  injection h with h
  have := keyBytes_inj (l := [.int .i64 a, .int .i64 b]) (l' := [.int .i64 c, .int .i64 d]) ⟨rfl, rfl, trivial⟩
    (fun x hx => by simp at hx; rcases hx with rfl | rfl <;> exact wf64i (by assumption)) (fun x hx => by simp at hx; rcases hx with rfl | rfl <;> exact wf64i (by assumption)) h
  simpa using this
theorem kl_key (a b : Int) : WideAt.IsKeyLit (kl a b) := by
  unfold kl
  first | exact .string _ | exact trivial | simp [WideAt.IsKeyLit]
/-- A map in memory that counts: what each place holds. -/
structure Cm (w : World) (mb n : Nat) (f : Int → Int → Int) : Prop where
  own : ∃ D : DataW Unit, w.ownsMap Tryd.prog 57 (plainElem Tryd.prog 3) mb n D ∧ ∀ a b, I64 a → I64 b → D.atKey (kl a b) (.lit (.int .i64 0)) = .lit (.int .i64 (f a b))
theorem Cm.lt {w : World} {mb n : Nat} {f : Int → Int → Int} (h : Cm w mb n f) : mb < w.heap.size := by
  obtain ⟨D, h, -⟩ := h.own
  exact h.lt
theorem Cm.below {w w' : World} {mb n B : Nat} {f : Int → Int → Int} (h : Cm w mb n f) (hb : Below B w w') (hB : mb < B) : Cm w' mb n f := by
  obtain ⟨D, ⟨es, clock, h1, h2, h3⟩, h4⟩ := h.own
  exact ⟨D, ⟨es, clock, by rw [hb.block mb hB]; exact h1, h2, h3⟩, h4⟩
theorem Cm.made (w : World) : Cm (w.alloc (.map #[] 0)) w.heap.size 0 (fun _ _ => 0) :=
  ⟨.map [], World.ownsMap_made w Tryd.prog 57 _, fun _ _ _ _ => rfl⟩
/-- One more at a place. -/
def incF (f : Int → Int → Int) (a b : Int) : Int → Int → Int := fun c d => if c = a ∧ d = b then f a b + 1 else f c d
theorem zero3 (w : World) : (zeroValue 3).run Tryd.prog w = .ok (.int .i64 0) w := by kernel_rfl
theorem Cm.look {w : World} {mb n : Nat} {f : Int → Int → Int} (h : Cm w mb n f) {a b : Int} (ha : I64 a) (hb : I64 b) : (Instr.lookup 53 (.map (some mb)) (.agg #[.int .i64 a, .int .i64 b]) false).run Tryd.prog w = .ok (.int .i64 (f a b)) w := by
  obtain ⟨D, h1, h2⟩ := h.own
  obtain ⟨c, hrun, hat, -⟩ := h1.lookup_int law57 Tryd.underlying53 Tryd.underlying3 (zero3 w) (key57 ha hb)
  rw [h2 a b ha hb] at hat
  injection hat with e
  injection e with _ e
  rw [e]
  exact hrun
/-- Where a cycle is counted. -/
def tn (ev : Option Int) (c : Int) : Int := match ev with | none => c | some e => c % e
def fv (ev : Option Int) : Value := match ev with | none => .func (.func 20) #[.agg #[]] #[] | some e => .func (.func 22) #[.agg #[.int .i64 e]] #[]
def evOk (ev : Option Int) : Prop := match ev with | none => True | some e => 1 ≤ e ∧ e ≤ 65536
theorem tn_in {ev : Option Int} (hv : evOk ev) {c : Int} (hc : I64 c) : I64 (tn ev c) := by
  cases ev with
  | none => exact hc
  | some e =>
    obtain ⟨h1, h2⟩ := hv
    have h3 := Int.emod_nonneg c (show e ≠ 0 by omega)
    have h4 := Int.emod_lt_of_pos c (show 0 < e by omega)
    show I64 (c % e)
    unfold I64
    omega
/-- A table of reservations in memory. -/
structure RAt (w : World) (rb : Nat) (t : Tab) (ev : Option Int) (mb n : Nat) (f : Int → Int → Int) : Prop where
  at' : At w rb #[.int .i64 (t.u 0), .int .i64 (t.u 1), .int .i64 (t.u 2), .int .i64 (t.u 3), .int .i64 (t.b 0), .int .i64 (t.b 1), .int .i64 (t.b 2), .int .i64 (t.b 3), .map (some mb), fv ev]
  cm : Cm w mb n f
  ne : rb ≠ mb
theorem RAt.below {w w' : World} {rb mb n B : Nat} {t : Tab} {ev : Option Int} {f : Int → Int → Int} (h : RAt w rb t ev mb n f) (hb : Below B w w') (h1 : rb < B) (h2 : mb < B) : RAt w' rb t ev mb n f :=
  ⟨h.at'.below hb h1, h.cm.below hb h2, h.ne⟩
theorem RAt.up {w w' : World} {rb mb n : Nat} {t : Tab} {ev : Option Int} {f : Int → Int → Int} (h : RAt w rb t ev mb n f) (hb : Below w.heap.size w w') : RAt w' rb t ev mb n f := h.below hb h.at'.lt h.cm.lt
theorem RAt.u {w : World} {rb mb n : Nat} {t : Tab} {ev : Option Int} {f : Int → Int → Int} (h : RAt w rb t ev mb n f) : ∀ k, k < 4 → w.cell? ⟨rb, k, none⟩ = some (.int .i64 (t.u k)) := Tb.four (h.at'.c 0 _ rfl) (h.at'.c 1 _ rfl) (h.at'.c 2 _ rfl) (h.at'.c 3 _ rfl)
theorem RAt.b {w : World} {rb mb n : Nat} {t : Tab} {ev : Option Int} {f : Int → Int → Int} (h : RAt w rb t ev mb n f) : ∀ k, k < 4 → w.cell? ⟨rb, 4 + k, none⟩ = some (.int .i64 (t.b k)) := Tb.four (h.at'.c 4 _ rfl) (h.at'.c 5 _ rfl) (h.at'.c 6 _ rfl) (h.at'.c 7 _ rfl)
theorem RAt.m {w : World} {rb mb n : Nat} {t : Tab} {ev : Option Int} {f : Int → Int → Int} (h : RAt w rb t ev mb n f) : w.cell? ⟨rb, 8, none⟩ = some (.map (some mb)) := h.at'.c 8 _ rfl
theorem RAt.fn {w : World} {rb mb n : Nat} {t : Tab} {ev : Option Int} {f : Int → Int → Int} (h : RAt w rb t ev mb n f) : w.cell? ⟨rb, 9, none⟩ = some (fv ev) := h.at'.c 9 _ rfl

theorem row_any (c : Int) (w : World) : Calls Tryd.prog 20 #[.agg #[], .int .i64 c] w fun e w' => e = .returned (.int .i64 c) ∧ Below w.heap.size w w' := by
  go_enter Tryd.func20, Tryd.ntmps20
  go_wp2
  go_ret
  exact ⟨rfl, by go_grown⟩
theorem tmod_emod {c e : Int} (he : 1 ≤ e) : Int.tmod (Int.tmod c e + e) e = c % e := by
  have h0 : (0 : Int) < e := by omega
  have h1 := Int.lt_tmod_of_pos c h0
  have e1 : Int.tmod c e = c - e * Int.tdiv c e := by have := Int.mul_tdiv_add_tmod c e; omega
  rw [Int.tmod_eq_emod_of_nonneg (by omega), e1, show c - e * Int.tdiv c e + e = c + e * (1 - Int.tdiv c e) by rw [Int.mul_sub, Int.mul_one]; omega, Int.add_mul_emod_self_left]
set_option maxHeartbeats 1000000 in
theorem ring_any (ev c : Int) (w : World) (h1 : 1 ≤ ev) (h2 : ev ≤ 65536) : Calls Tryd.prog 22 #[.agg #[.int .i64 ev], .int .i64 c] w fun e w' => e = .returned (.int .i64 (c % ev)) ∧ Below w.heap.size w w' := by
  have hz : ¬ ev = 0 := by omega
  have h0 : (0 : Int) < ev := by omega
  have h3 := Int.lt_tmod_of_pos c h0
  have h4 := Int.tmod_lt_of_pos c h0
  have hm : IntKind.i64.wrap (Int.tmod c ev) = Int.tmod c ev := by rw [IntKind.wrap_i64]; omega
  have ha : IntKind.i64.wrap (Int.tmod c ev + ev) = Int.tmod c ev + ev := by rw [IntKind.wrap_i64]; omega
  have h5 := Int.lt_tmod_of_pos (Int.tmod c ev + ev) h0
  have h6 := Int.tmod_lt_of_pos (Int.tmod c ev + ev) h0
  have hm2 : IntKind.i64.wrap (Int.tmod (Int.tmod c ev + ev) ev) = Int.tmod (Int.tmod c ev + ev) ev := by rw [IntKind.wrap_i64]; omega
  have HE : Hid (Int.tmod (Int.tmod c ev + ev) ev = c % ev) := tmod_emod h1
  clear h3 h4 h5 h6
  go_enter Tryd.func22, Tryd.ntmps22
  go_wp2
  go_quiet (fail)
  go_wp2
  go_ret
  exact ⟨ret_int HE.out, ((Fr.of (X := Non) ((Below.refl _ _).alloc (Nat.le_refl _) _)).drewN _).non⟩
end Go.Proofs.YthjnegdgpnbkkaaDoor.Rv
