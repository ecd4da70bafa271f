/- A table of reservations is made (New, Ring), read off the program by the walk. Conditions: the variables lie as the program lays them. -/
import Derived.Test.YtnckkhamkkaljaaDoorTk
import Derived.Test.YtnckkhamkkaljaaDoorKd
import Derived.Test.YtnckkhamkkaljaaDoorSm
import Derived.ProofKit
import Derived.OpenShut
import Derived.WalkKit
import Derived.WalkSpells
import Derived.WalkLawsBesides
import Derived.Handy
import Derived.ChangeOld
import Derived.Below
import Derived.BigRegion
import Derived.BigQuiet
import Derived.Deep.LoopGhost
import Derived.Deep.QuietTactic
import Derived.Deep.RegionHeld3
import Derived.Deep.DrawnRows
import Derived.Deep.WholeRow
import Derived.Maps.OwnSet
import Derived.Maps.OwnOps
import Derived.Maps.Views
import Derived.WideKeyPair
import Derived.WideKeyEntry
import Derived.Deep.DeepCutAuto
import Derived.Deep.CutBlock
namespace Go.Proofs.YtnckkhamkkaljaaDoor.Rv
open Go.ChangeShapes Go.WideShapes Go.ChangeAt Go.RowKit Go.Maps
open _root_.Go.Proofs.YtnckkhamkkaljaaDoor.Op _root_.Go.Proofs.YtnckkhamkkaljaaDoor.So
open _root_.Go.Proofs.YtnckkhamkkaljaaDoor.Tb (Tab TabAt Bnds)
set_option maxRecDepth 20000

/-- A number of 64 bits. -/
def I64 (n : Int) : Prop := -9223372036854775808 ≤ n ∧ n ≤ 9223372036854775807
theorem wf64i {n : Int} (h : I64 n) : (Lit.int .i64 n).wf = true := by
  obtain ⟨h1, h2⟩ := h
  simp [Lit.wf, IntKind.min, IntKind.max, IntKind.signed, IntKind.bits]; omega
/-- What a place reads as. -/
def kl (a b : Int) : Lit := .string (keyBytes [.int .i64 a, .int .i64 b])
theorem law57 : Keyed Tryd.prog 79 := Keyed.of_law (deep_law (m := 2) (by omega) (by kernel_rfl) (by kernel_rfl) (by kernel_rfl))
theorem klaw57 : WideMaps.KeyLaw Tryd.prog 79 := deep_law (m := 2) (by omega) (by kernel_rfl) (by kernel_rfl) (by kernel_rfl)
theorem types_pos : ∃ m, Tryd.prog.types.size = m + 1 := ⟨Tryd.prog.types.size - 1, by
  have : 0 < Tryd.prog.types.size := Nat.lt_of_lt_of_le (by decide : 0 < 1) (Nat.le_of_ble_eq_true (by kernel_rfl))
  omega⟩
theorem kt57 : Tryd.prog.keyType 79 = true := by kernel_rfl
theorem c57 : Tryd.prog.cellsOf 79 = 2 := by kernel_rfl
theorem c3 : Tryd.prog.cellsOf 3 = 1 := by kernel_rfl
theorem key57 {a b : Int} (ha : I64 a) (hb : I64 b) : keyOf Tryd.prog 79 (.agg #[.int .i64 a, .int .i64 b]) = some (kl a b) := by
  obtain ⟨m, hm⟩ := types_pos
  have wa := wf64i ha
  have wb := wf64i hb
  unfold keyOf
  simp only [Tryd.underlying79]
  rw [if_pos (by simp [kt57, Value.formed, Tryd.underlying79, c57]), hm]
  unfold Program.keyLits
  simp only [Tryd.underlying79, Value.cells]
  rw [if_pos (by rw [c57]; exact ⟨rfl, by simp⟩)]
  simp [c3, Program.keyLits, Tryd.underlying3, wa, wb, kl]
theorem kl_inj {a b c d : Int} (ha : I64 a) (hb : I64 b) (hc : I64 c) (hd : I64 d) (h : kl a b = kl c d) : a = c ∧ b = d := by
  unfold kl at h
  injection h with h
  have := keyBytes_inj (l := [.int .i64 a, .int .i64 b]) (l' := [.int .i64 c, .int .i64 d]) ⟨rfl, rfl, trivial⟩
    (fun x hx => by simp at hx; rcases hx with rfl | rfl <;> exact wf64i (by assumption)) (fun x hx => by simp at hx; rcases hx with rfl | rfl <;> exact wf64i (by assumption)) h
  simpa using this
theorem kl_key (a b : Int) : WideAt.IsKeyLit (kl a b) := by
  unfold kl
  first | exact .string _ | exact trivial | simp [WideAt.IsKeyLit]
/-- A map in memory that counts: what each place holds. -/
structure Cm (w : World) (mb n : Nat) (f : Int → Int → Int) : Prop where
  own : ∃ D : DataW Unit, w.ownsMap Tryd.prog 79 (plainElem Tryd.prog 3) mb n D ∧ ∀ a b, I64 a → I64 b → D.atKey (kl a b) (.lit (.int .i64 0)) = .lit (.int .i64 (f a b))
theorem Cm.lt {w : World} {mb n : Nat} {f : Int → Int → Int} (h : Cm w mb n f) : mb < w.heap.size := by
  obtain ⟨D, h, -⟩ := h.own
  exact h.lt
theorem Cm.below {w w' : World} {mb n B : Nat} {f : Int → Int → Int} (h : Cm w mb n f) (hb : Below B w w') (hB : mb < B) : Cm w' mb n f := by
  obtain ⟨D, ⟨es, clock, h1, h2, h3⟩, h4⟩ := h.own
  exact ⟨D, ⟨es, clock, by rw [hb.block mb hB]; exact h1, h2, h3⟩, h4⟩
theorem Cm.made (w : World) : Cm (w.alloc (.map #[] 0)) w.heap.size 0 (fun _ _ => 0) :=
  ⟨.map [], World.ownsMap_made w Tryd.prog 79 _, fun _ _ _ _ => rfl⟩
/-- One more at a place. -/
def incF (f : Int → Int → Int) (a b : Int) : Int → Int → Int := fun c d => if c = a ∧ d = b then f a b + 1 else f c d
theorem zero3 (w : World) : (zeroValue 3).run Tryd.prog w = .ok (.int .i64 0) w := by kernel_rfl
theorem Cm.look {w : World} {mb n : Nat} {f : Int → Int → Int} (h : Cm w mb n f) {a b : Int} (ha : I64 a) (hb : I64 b) : (Instr.lookup 75 (.map (some mb)) (.agg #[.int .i64 a, .int .i64 b]) false).run Tryd.prog w = .ok (.int .i64 (f a b)) w := by
  obtain ⟨D, h1, h2⟩ := h.own
  obtain ⟨c, hrun, hat, -⟩ := h1.lookup_int law57 Tryd.underlying75 Tryd.underlying3 (zero3 w) (key57 ha hb)
  rw [h2 a b ha hb] at hat
  injection hat with e
  injection e with _ e
  rw [e]
  exact hrun
/-- Where a cycle is counted. -/
def tn (ev : Option Int) (c : Int) : Int := match ev with | none => c | some e => c % e
def fv (ev : Option Int) : Value := match ev with | none => .func (.func 37) #[.agg #[]] #[] | some _ => .func (.func 37) #[.agg #[]] #[]
def evOk (ev : Option Int) : Prop := match ev with | none => True | some _ => False
theorem tn_in {ev : Option Int} (hv : evOk ev) {c : Int} (hc : I64 c) : I64 (tn ev c) := by
  cases ev with
  | none => exact hc
  | some _ => exact hv.elim
/-- A table of reservations in memory. -/
structure RAt (w : World) (rb : Nat) (t : Tab) (ev : Option Int) (mb n : Nat) (f : Int → Int → Int) : Prop where
  at' : At w rb #[.int .i64 (t.u 0), .int .i64 (t.u 1), .int .i64 (t.u 2), .int .i64 (t.u 3), .int .i64 (t.b 0), .int .i64 (t.b 1), .int .i64 (t.b 2), .int .i64 (t.b 3), .map (some mb), fv ev]
  cm : Cm w mb n f
  ne : rb ≠ mb
theorem RAt.below {w w' : World} {rb mb n B : Nat} {t : Tab} {ev : Option Int} {f : Int → Int → Int} (h : RAt w rb t ev mb n f) (hb : Below B w w') (h1 : rb < B) (h2 : mb < B) : RAt w' rb t ev mb n f :=
  ⟨h.at'.below hb h1, h.cm.below hb h2, h.ne⟩
theorem RAt.up {w w' : World} {rb mb n : Nat} {t : Tab} {ev : Option Int} {f : Int → Int → Int} (h : RAt w rb t ev mb n f) (hb : Below w.heap.size w w') : RAt w' rb t ev mb n f := h.below hb h.at'.lt h.cm.lt
theorem RAt.u {w : World} {rb mb n : Nat} {t : Tab} {ev : Option Int} {f : Int → Int → Int} (h : RAt w rb t ev mb n f) : ∀ k, k < 4 → w.cell? ⟨rb, k, none⟩ = some (.int .i64 (t.u k)) := Tb.four (h.at'.c 0 _ rfl) (h.at'.c 1 _ rfl) (h.at'.c 2 _ rfl) (h.at'.c 3 _ rfl)
theorem RAt.b {w : World} {rb mb n : Nat} {t : Tab} {ev : Option Int} {f : Int → Int → Int} (h : RAt w rb t ev mb n f) : ∀ k, k < 4 → w.cell? ⟨rb, 4 + k, none⟩ = some (.int .i64 (t.b k)) := Tb.four (h.at'.c 4 _ rfl) (h.at'.c 5 _ rfl) (h.at'.c 6 _ rfl) (h.at'.c 7 _ rfl)
theorem RAt.m {w : World} {rb mb n : Nat} {t : Tab} {ev : Option Int} {f : Int → Int → Int} (h : RAt w rb t ev mb n f) : w.cell? ⟨rb, 8, none⟩ = some (.map (some mb)) := h.at'.c 8 _ rfl
theorem RAt.fn {w : World} {rb mb n : Nat} {t : Tab} {ev : Option Int} {f : Int → Int → Int} (h : RAt w rb t ev mb n f) : w.cell? ⟨rb, 9, none⟩ = some (fv ev) := h.at'.c 9 _ rfl

theorem row_any (c : Int) (w : World) : Calls Tryd.prog 37 #[.agg #[], .int .i64 c] w fun e w' => e = .returned (.int .i64 c) ∧ Below w.heap.size w w' := by
  go_enter Tryd.func37, Tryd.ntmps37
  go_wp2
  go_ret
  exact ⟨rfl, by go_grown⟩
end Go.Proofs.YtnckkhamkkaljaaDoor.Rv

namespace Go.Proofs.YtnckkhamkkaljaaDoor.Rv
open Go.ChangeShapes Go.WideShapes Go.ChangeAt Go.RowKit Go.Maps
open _root_.Go.Proofs.YtnckkhamkkaljaaDoor.Op _root_.Go.Proofs.YtnckkhamkkaljaaDoor.So
open _root_.Go.Proofs.YtnckkhamkkaljaaDoor.Tb (Tab TabAt Bnds)
set_option maxRecDepth 20000

theorem isNone_nil (w : World) : Calls Tryd.prog 40 #[.pointer none] w fun e w' => e = .returned (.bool true) ∧ Below w.heap.size w w' := by
  go_enter Tryd.func40, Tryd.ntmps40
  go_wp2
  go_ret
  exact ⟨rfl, by go_grown⟩
theorem eq20 (W : World) : (binOp BinOp.eql 72 (Value.func (Fn.func 37) #[Value.agg #[]] #[]) Value.nilFunc).run Tryd.prog W = .ok (.bool false) W := by kernel_rfl
theorem isNone_no {rb mb n : Nat} {t : Tab} {ev : Option Int} {f : Int → Int → Int} (w : World) (h : RAt w rb t ev mb n f) : Calls Tryd.prog 40 #[.pointer (some ⟨rb, 0, none⟩)] w fun e w' => e = .returned (.bool false) ∧ Below w.heap.size w w' := by
  have hf := h.fn
  have hl := h.at'.lt
  clear h
  cases ev with
  | none =>
    have hg : w.cell? ⟨rb, 9, none⟩ = some (.func (.func 37) #[.agg #[]] #[]) := hf
    have he := eq20 w
    clear hf
    go_enter Tryd.func40, Tryd.ntmps40
    go_wp2
    go_ret
    exact ⟨rfl, by go_grown⟩
  | some q =>
    have hg : w.cell? ⟨rb, 9, none⟩ = some (.func (.func 37) #[.agg #[]] #[]) := hf
    have he := eq20 w
    clear hf
    go_enter Tryd.func40, Tryd.ntmps40
    go_wp2
    go_ret
    exact ⟨rfl, by go_grown⟩
theorem kept_any {rb mb n : Nat} {t : Tab} {ev : Option Int} {f : Int → Int → Int} (cl first k : Int) (w : World) (h : RAt w rb t ev mb n f) (hv : evOk ev) (hs : IntKind.i64.wrap (first + k) = first + k) :
    Calls Tryd.prog 39 #[.pointer (some ⟨rb, 0, none⟩), .int .i64 cl, .int .i64 first, .int .i64 k] w fun e w' => e = .returned (.agg #[.int .i64 cl, .int .i64 (tn ev (first + k))]) ∧ Below w.heap.size w w' := by
  have hf := h.fn
  have hl := h.at'.lt
  clear h
  cases ev with
  | none =>
    have hg : w.cell? ⟨rb, 9, none⟩ = some (.func (.func 37) #[.agg #[]] #[]) := hf
    have HT : Hid (∀ W, Calls Tryd.prog 37 #[.agg #[], .int .i64 (first + k)] W fun e w' => e = .returned (.int .i64 (first + k)) ∧ Below W.heap.size W w') := fun W => row_any _ W
    clear hf hv
    go_enter Tryd.func39, Tryd.ntmps39
    go_wp2_with (first | (go_at_call 37; refine Calls.mono (HT.out _) ?_; rintro e w1 ⟨rfl, b1⟩; have hx := (At.new w #[.int .i64 0, .int .i64 0] 79).below b1 (by simp); have x0 := hx.c 0 _ rfl; have x1 := hx.c 1 _ rfl; have z0 := hx.f 0; have z1 := hx.f 1; have xl := hx.lt; have HB : Hid (Below w.heap.size w w1) := ((Below.refl _ _).alloc (Nat.le_refl _) _).trans (b1.mono (by simp)); clear hx b1 HT))
    refine bodyPost_ret (by simp [results, Tryd.results39, go_sem, x0, x1]; try rfl) rfl ?_
    exact ⟨rfl, (((Fr.of (X := Non) HB.out).setCell (.inl (Nat.le_refl _)) 0 _).setCell (.inl (Nat.le_refl _)) 1 _).non⟩
  | some _ => exact hv.elim
end Go.Proofs.YtnckkhamkkaljaaDoor.Rv

namespace Go.Proofs.YtnckkhamkkaljaaDoor.Rv
open Go.ChangeShapes Go.WideShapes Go.ChangeAt Go.RowKit Go.Maps
open _root_.Go.Proofs.YtnckkhamkkaljaaDoor.Op _root_.Go.Proofs.YtnckkhamkkaljaaDoor.So
open _root_.Go.Proofs.YtnckkhamkkaljaaDoor.Tb (Tab TabAt Bnds)
set_option maxRecDepth 20000

/-- How often an operation from a cycle on counts in a cycle, of its first so many cycles. -/
def tms (ev : Option Int) (first cyc : Int) : Nat → Int
  | 0 => 0
  | k + 1 => tms ev first cyc k + (if tn ev (first + k) = cyc then 1 else 0)
theorem tms_in (ev : Option Int) (first cyc : Int) : ∀ k, 0 ≤ tms ev first cyc k ∧ tms ev first cyc k ≤ k
  | 0 => ⟨Int.le_refl _, Int.le_refl _⟩
  | k + 1 => by
    have := tms_in ev first cyc k
    unfold tms
    split <;> omega
theorem eq57 {a b c d : Int} (ha : I64 a) (hb : I64 b) (hc : I64 c) (hd : I64 d) (W : World) : (binOp BinOp.eql 79 (.agg #[.int .i64 a, .int .i64 b]) (.agg #[.int .i64 c, .int .i64 d])).run Tryd.prog W = .ok (.bool (a == c && b == d)) W := by
  obtain ⟨r, hr, hiff⟩ := run_equal_deep (P := Tryd.prog) W (m := 2) (by omega) (by kernel_rfl) (by kernel_rfl) (key57 ha hb) (key57 hc hd)
  have e : r = (a == c && b == d) := by
    rw [Bool.eq_iff_iff, hiff]
    simp only [Bool.and_eq_true, beq_iff_eq]
    constructor
    · exact fun h => kl_inj ha hb hc hd h
    · rintro ⟨rfl, rfl⟩; rfl
  simp [binOp, go_sem, hr, e]
set_option maxHeartbeats 4000000 in
theorem times_any {rb mb n : Nat} {t : Tab} {ev : Option Int} {f : Int → Int → Int} (c : Nat) (cyc first : Int) (w : World) (h : RAt w rb t ev mb n f) (hv : evOk ev) (hc : c < 4) (h0 : 0 ≤ first) (h1 : first ≤ 65536) (hb : 1 ≤ t.b c ∧ t.b c ≤ 4) (hcy : I64 cyc) :
    Calls Tryd.prog 86 #[.pointer (some ⟨rb, 0, none⟩), .agg #[.int .i64 (c : Int), .int .i64 cyc], .int .i64 first] w fun e w' => e = .returned (.int .i64 (tms ev first cyc (t.b c).toNat)) ∧ Below w.heap.size w w' := by
  have HK : Hid (∀ W k, Below w.heap.size w W → k < 4 → Calls Tryd.prog 39 #[.pointer (some ⟨rb, 0, none⟩), .int .i64 (c : Int), .int .i64 first, .int .i64 ((k : Nat) : Int)] W fun e w' => e = .returned (.agg #[.int .i64 (c : Int), .int .i64 (tn ev (first + k))]) ∧ Below W.heap.size W w') := fun W k hbw hk => kept_any _ _ _ W (h.up hbw) hv (by rw [IntKind.wrap_i64]; omega)
  obtain ⟨B, hB⟩ : ∃ B : Nat, t.b c = B := ⟨(t.b c).toNat, by omega⟩
  have HT : Hid (∀ k, k < 4 → I64 (tn ev (first + (k : Nat)))) := fun k hk => tn_in hv (by unfold I64; omega)
  have HCy : Hid (I64 cyc) := hcy
  have HCl : Hid (I64 (c : Int)) := by unfold I64 Hid; omega
  have hl := h.at'.lt
  have HA : Hid (∀ W, Below w.heap.size w W → rb < W.heap.size ∧ W.cell? ⟨rb, 4 + c, none⟩ = some (.int .i64 (B : Int))) := fun W hbw => ⟨(h.up hbw).at'.lt, by rw [← hB]; exact (h.up hbw).b c hc⟩
  rw [hB] at hb ⊢
  rw [Int.toNat_natCast]
  clear h hB hv hcy
  have c0 : (0 : Int) ≤ (c : Int) := by omega
  have c1 : (c : Int) < 4 := by omega
  have HS : Hid (At (w.alloc (.cells #[.int .i64 (c : Int), .int .i64 cyc] 79)) w.heap.size #[.int .i64 (c : Int), .int .i64 cyc] ∧ Below w.heap.size w (w.alloc (.cells #[.int .i64 (c : Int), .int .i64 cyc] 79))) := ⟨At.new _ _ _, (Below.refl _ _).alloc (Nat.le_refl _) _⟩
  go_enter Tryd.func86, Tryd.ntmps86
  go_upto_region 2 with fail
  generalize w.alloc (.cells #[.int .i64 (c : Int), .int .i64 cyc] 79) = W0 at *
  obtain ⟨g0, g1⟩ := HA.out _ HS.out.2
  have s0 := HS.out.1.c 0 _ rfl
  have sl := HS.out.1.lt
  go_quiet (fail)
  go_wp2
  clear g0 g1 s0 sl
  go_loopw [7, 16] (fun s v wr => ∃ k : Nat, k ≤ B ∧ s = .int .i64 (tms ev first cyc k) ∧ v = .int .i64 k ∧ At wr w.heap.size #[.int .i64 (c : Int), .int .i64 cyc] ∧ Below w.heap.size w wr) (fun _ v _ => B - (intOf v).toNat)
  case atStart => exact ⟨0, by omega, rfl, rfl, HS.out.1.below (B := W0.heap.size) ((Fr.refl Non W0).drewN _).non HS.out.1.lt, HS.out.2.trans (((Fr.refl Non W0).drewN _).non.mono HS.out.2.size)⟩
  case round =>
    rename World => wr
    obtain ⟨k, hk, rfl, rfl, hA, hbw⟩ := hrel
    have HQ : Hid (At wr w.heap.size #[.int .i64 (c : Int), .int .i64 cyc] ∧ Below w.heap.size w wr) := ⟨hA, hbw⟩
    clear hA hbw HS
    obtain ⟨t0, t1⟩ := tms_in ev first cyc k
    by_cases hlt : k < B
    · have k0 : (k : Int) < (B : Int) := by omega
      have ck : ∀ x : Wd (Below wr.heap.size wr), x.w.cell? ⟨w.heap.size, 0, none⟩ = some (.int .i64 (c : Int)) := fun x => (HQ.out.1.below x.ok HQ.out.1.lt).c 0 _ rfl
      have cy : ∀ x : Wd (Below wr.heap.size wr), x.w.cell? ⟨w.heap.size, 1, none⟩ = some (.int .i64 cyc) := fun x => (HQ.out.1.below x.ok HQ.out.1.lt).c 1 _ rfl
      have HKx : Hid (∀ x : Wd (Below wr.heap.size wr), Calls Tryd.prog 39 #[.pointer (some ⟨rb, 0, none⟩), .int .i64 (c : Int), .int .i64 first, .int .i64 (k : Int)] x.w fun e w'' => e = .returned (.agg #[.int .i64 (c : Int), .int .i64 (tn ev (first + k))]) ∧ ∃ y : Wd (Below wr.heap.size wr), w'' = y.w) := fun x => calls_in (Nat.le_refl _) x (HK.out x.w k (HQ.out.2.trans (x.ok.mono HQ.out.2.size)) (by omega))
      have HNx : Hid (tms ev first cyc (k + 1) = tms ev first cyc k + (if tn ev (first + k) = cyc then 1 else 0)) := rfl
      haveI inst : Nonempty (Wd (Below wr.heap.size wr)) := ⟨⟨wr, Below.refl _ _⟩⟩
      have he := fun W => eq57 HCl.out (HT.out k (by omega)) HCl.out HCy.out W
      by_cases hx : tn ev (first + k) = cyc
      · have hb2 : ((c : Int) == (c : Int) && tn ev (first + k) == cyc) = true := by simp [hx]
        rw [hb2] at he
        rw [if_pos hx] at HNx
        clear hb2 hx
        generalize tn ev (first + k) = z at *
        generalize tms ev first cyc k = s at *
        go_wp2
        refine wp_region_in (Below wr.heap.size wr) (by kernel_rfl) (by kernel_rfl) ((Below.refl _ _).drew) ?_
        repeat (first | go_big_quiet_step ((go_at_call 39; exact HKx.out _)))
        refine wpQuiet_nil ?_
        rintro _ ⟨x, rfl⟩
        have HX : Hid (Below wr.heap.size wr x.w) := x.ok
        go_wp2
        go_roundw
        case rel => exact ⟨k + 1, by omega, by rw [HNx.out], by go_num, HQ.out.1.below HX.out HQ.out.1.lt, HQ.out.2.trans (HX.out.mono HQ.out.2.size)⟩
        case measure => simp [intOf]; omega
      · have hb2 : ((c : Int) == (c : Int) && tn ev (first + k) == cyc) = false := by simp [hx]
        rw [hb2] at he
        rw [if_neg hx, Int.add_zero] at HNx
        clear hb2 hx
        generalize tn ev (first + k) = z at *
        generalize tms ev first cyc k = s at *
        go_wp2
        refine wp_region_in (Below wr.heap.size wr) (by kernel_rfl) (by kernel_rfl) ((Below.refl _ _).drew) ?_
        repeat (first | go_big_quiet_step ((go_at_call 39; exact HKx.out _)))
        refine wpQuiet_nil ?_
        rintro _ ⟨x, rfl⟩
        have HX : Hid (Below wr.heap.size wr x.w) := x.ok
        go_wp2
        go_roundw
        case rel => exact ⟨k + 1, by omega, by rw [HNx.out], by go_num, HQ.out.1.below HX.out HQ.out.1.lt, HQ.out.2.trans (HX.out.mono HQ.out.2.size)⟩
        case measure => simp [intOf]; omega
    · obtain rfl : k = B := by omega
      have k0 : ¬ (k : Int) < (k : Int) := by omega
      go_wp2
      go_ret
      exact ⟨rfl, HQ.out.2⟩
end Go.Proofs.YtnckkhamkkaljaaDoor.Rv

namespace Go.Proofs.YtnckkhamkkaljaaDoor.Rv
open Go.ChangeShapes Go.WideShapes Go.ChangeAt Go.RowKit Go.Maps
open _root_.Go.Proofs.YtnckkhamkkaljaaDoor.Op _root_.Go.Proofs.YtnckkhamkkaljaaDoor.So
open _root_.Go.Proofs.YtnckkhamkkaljaaDoor.Tb (Tab TabAt Bnds)
set_option maxRecDepth 20000

/-- Whether one operation more from a cycle on leaves each count within the units, as far as its first so many cycles. -/
def ft1 (t : Tab) (ev : Option Int) (f : Int → Int → Int) (c : Nat) (first : Int) (k : Nat) : Prop := f c (tn ev (first + k)) + tms ev first (tn ev (first + k)) (t.b c).toNat ≤ t.u c
def ftB (t : Tab) (ev : Option Int) (f : Int → Int → Int) (c : Nat) (first : Int) : Bool := (List.range (t.b c).toNat).all fun k => decide (f c (tn ev (first + k)) + tms ev first (tn ev (first + k)) (t.b c).toNat ≤ t.u c)
theorem ftB_no {t : Tab} {ev : Option Int} {f : Int → Int → Int} {c : Nat} {first : Int} {k : Nat} (hk : k < (t.b c).toNat) (h : ¬ ft1 t ev f c first k) : false = ftB t ev f c first := by
  symm
  unfold ftB
  rw [List.all_eq_false]
  exact ⟨k, List.mem_range.2 hk, by unfold ft1 at h; simpa using h⟩
theorem ftB_yes {t : Tab} {ev : Option Int} {f : Int → Int → Int} {c : Nat} {first : Int} (h : ∀ k, k < (t.b c).toNat → ft1 t ev f c first k) : true = ftB t ev f c first := by
  symm
  unfold ftB
  rw [List.all_eq_true]
  exact fun k hk => by have h2 := h k (List.mem_range.1 hk); unfold ft1 at h2; simpa using h2
/-- Counts are few. -/
def Few (f : Int → Int → Int) : Prop := ∀ a b, 0 ≤ f a b ∧ f a b ≤ 8
set_option maxHeartbeats 4000000 in
theorem fits_any {rb mb n : Nat} {t : Tab} {ev : Option Int} {f : Int → Int → Int} (c : Nat) (first : Int) (w : World) (h : RAt w rb t ev mb n f) (hv : evOk ev) (hc : c < 4) (h0 : 0 ≤ first) (h1 : first ≤ 65536) (hb : 1 ≤ t.b c ∧ t.b c ≤ 4) (hf : Few f) (hu : 0 ≤ t.u c ∧ t.u c ≤ 8) :
    Calls Tryd.prog 61 #[.pointer (some ⟨rb, 0, none⟩), .int .i64 (c : Int), .int .i64 first] w fun e w' => e = .returned (.bool (ftB t ev f c first)) ∧ Below w.heap.size w w' := by
  have HR : Hid (∀ W, Below w.heap.size w W → RAt W rb t ev mb n f) := fun W hb => h.up hb
  have HT : Hid (∀ k, k < 4 → I64 (tn ev (first + (k : Nat)))) := fun k hk => tn_in hv (by unfold I64; omega)
  have HK : Hid (∀ W k, Below w.heap.size w W → k < 4 → Calls Tryd.prog 39 #[.pointer (some ⟨rb, 0, none⟩), .int .i64 (c : Int), .int .i64 first, .int .i64 ((k : Nat) : Int)] W fun e w' => e = .returned (.agg #[.int .i64 (c : Int), .int .i64 (tn ev (first + k))]) ∧ Below W.heap.size W w') := fun W k hbw hk => kept_any _ _ _ W (h.up hbw) hv (by rw [IntKind.wrap_i64]; omega)
  have HTi : Hid (∀ W z, Below w.heap.size w W → I64 z → Calls Tryd.prog 86 #[.pointer (some ⟨rb, 0, none⟩), .agg #[.int .i64 (c : Int), .int .i64 z], .int .i64 first] W fun e w' => e = .returned (.int .i64 (tms ev first z (t.b c).toNat)) ∧ Below W.heap.size W w') := fun W z hbw hz => times_any c z first W (h.up hbw) hv hc h0 h1 hb hz
  have HNo : Hid (∀ k, k < (t.b c).toNat → ¬ ft1 t ev f c first k → false = ftB t ev f c first) := fun k hk h => ftB_no hk h
  have HYs : Hid ((∀ k, k < (t.b c).toNat → ft1 t ev f c first k) → true = ftB t ev f c first) := fun h => ftB_yes h
  have HFt : Hid (∀ k, ft1 t ev f c first k ↔ f c (tn ev (first + (k : Nat))) + tms ev first (tn ev (first + k)) (t.b c).toNat ≤ t.u c) := fun k => Iff.rfl
  generalize ftB t ev f c first = fb at *
  obtain ⟨B, hB⟩ : ∃ B : Nat, t.b c = B := ⟨(t.b c).toNat, by omega⟩
  have HBc : Hid (∀ W, Below w.heap.size w W → rb < W.heap.size ∧ W.cell? ⟨rb, 4 + c, none⟩ = some (.int .i64 (B : Int))) := fun W hbw => ⟨(h.up hbw).at'.lt, by rw [← hB]; exact (h.up hbw).b c hc⟩
  rw [hB, Int.toNat_natCast] at HTi HNo HYs HFt
  rw [hB] at hb
  have HF : Hid (Few f) := hf
  have HCl : Hid (I64 (c : Int)) := by unfold I64 Hid; omega
  obtain ⟨b1, b2⟩ := hb
  obtain ⟨u1, u2⟩ := hu
  obtain ⟨uc, huc⟩ : ∃ uc, t.u c = uc := ⟨_, rfl⟩
  have HU : Hid (t.u c = uc) := huc
  rw [huc] at HFt u1 u2
  clear h hB hv hf huc
  have c0 : (0 : Int) ≤ (c : Int) := by omega
  have c1 : (c : Int) < 4 := by omega
  obtain ⟨g0, g1⟩ := HBc.out w (Below.refl _ _)
  go_enter Tryd.func61, Tryd.ntmps61
  go_wp2
  clear g0 g1 HBc
  go_loopw [15] (fun v wr => ∃ k : Nat, k ≤ B ∧ v = .int .i64 k ∧ Below w.heap.size w wr ∧ ∀ j, j < k → ft1 t ev f c first j) (fun v _ => B - (intOf v).toNat)
  case atStart => exact ⟨0, by omega, rfl, Below.refl _ _, fun j hj => by omega⟩
  case round =>
    rename World => wr
    obtain ⟨k, hk, rfl, hbw, hok⟩ := hrel
    have HQ : Hid (Below w.heap.size w wr ∧ ∀ j, j < k → ft1 t ev f c first j) := ⟨hbw, hok⟩
    clear hbw hok
    by_cases hlt : k < B
    · have k0 : (k : Int) < (B : Int) := by omega
      have hz := HT.out k (by omega)
      have HFk : Hid (ft1 t ev f c first k ↔ f c (tn ev (first + (k : Nat))) + tms ev first (tn ev (first + k)) B ≤ uc) := HFt.out k
      have HKx : Hid (∀ W, Below w.heap.size w W → Calls Tryd.prog 39 #[.pointer (some ⟨rb, 0, none⟩), .int .i64 (c : Int), .int .i64 first, .int .i64 (k : Int)] W fun e w' => e = .returned (.agg #[.int .i64 (c : Int), .int .i64 (tn ev (first + k))]) ∧ Below W.heap.size W w') := fun W hb => HK.out W k hb (by omega)
      generalize tn ev (first + (k : Nat)) = z at *
      have HTx : Hid (∀ W, Below w.heap.size w W → Calls Tryd.prog 86 #[.pointer (some ⟨rb, 0, none⟩), .agg #[.int .i64 (c : Int), .int .i64 z], .int .i64 first] W fun e w' => e = .returned (.int .i64 (tms ev first z B)) ∧ Below W.heap.size W w') := fun W hb => HTi.out W z hb hz
      have HLo : Hid (∀ W, Below w.heap.size w W → (Instr.lookup 75 (.map (some mb)) (.agg #[.int .i64 (c : Int), .int .i64 z]) false).run Tryd.prog W = .ok (.int .i64 (f c z)) W) := fun W hb => (HR.out W hb).cm.look HCl.out hz
      obtain ⟨s1, s2⟩ := tms_in ev first z B
      obtain ⟨f1, f2⟩ := HF.out c z
      clear hz HK HTi
      generalize tms ev first z B = s at *
      generalize f c z = fz at *
      go_upto_region 5 with (first | (go_at_call 39; refine Calls.mono (HKx.out _ HQ.out.1) ?_; rintro e w2 ⟨rfl, hb2⟩; have HV : Hid (At (w2.alloc (.cells #[.int .i64 (c : Int), .int .i64 z] 79)) w2.heap.size #[.int .i64 (c : Int), .int .i64 z] ∧ Below w.heap.size w (w2.alloc (.cells #[.int .i64 (c : Int), .int .i64 z] 79))) := ⟨At.new _ _ _, (HQ.out.1.trans (hb2.mono HQ.out.1.size)).trans ((Below.refl _ _).alloc (Nat.le_trans HQ.out.1.size hb2.size) _)⟩; clear hb2 HKx))
      generalize w2.alloc (.cells #[.int .i64 (c : Int), .int .i64 z] 79) = V at *
      generalize w2.heap.size = ob at *
      have HWd : Hid (∀ x : Wd (Below V.heap.size V), Below w.heap.size w x.w) := fun x => HV.out.2.trans (x.ok.mono HV.out.2.size)
      have xm : ∀ x : Wd (Below V.heap.size V), x.w.cell? ⟨rb, 8, none⟩ = some (.map (some mb)) := fun x => (HR.out _ (HWd.out x)).m
      have xu : ∀ x : Wd (Below V.heap.size V), x.w.cell? ⟨rb, c, none⟩ = some (.int .i64 uc) := fun x => by rw [← HU.out]; exact (HR.out _ (HWd.out x)).u c hc
      have x0 : ∀ x : Wd (Below V.heap.size V), x.w.cell? ⟨ob, 0, none⟩ = some (.int .i64 (c : Int)) := fun x => (HV.out.1.below x.ok HV.out.1.lt).c 0 _ rfl
      have x1 : ∀ x : Wd (Below V.heap.size V), x.w.cell? ⟨ob, 1, none⟩ = some (.int .i64 z) := fun x => (HV.out.1.below x.ok HV.out.1.lt).c 1 _ rfl
      have xl : ∀ x : Wd (Below V.heap.size V), (Instr.lookup 75 (.map (some mb)) (.agg #[.int .i64 (c : Int), .int .i64 z]) false).run Tryd.prog x.w = .ok (.int .i64 fz) x.w := fun x => HLo.out _ (HWd.out x)
      have HTy : Hid (∀ x : Wd (Below V.heap.size V), Calls Tryd.prog 86 #[.pointer (some ⟨rb, 0, none⟩), .agg #[.int .i64 (c : Int), .int .i64 z], .int .i64 first] x.w fun e w'' => e = .returned (.int .i64 s) ∧ ∃ y : Wd (Below V.heap.size V), w'' = y.w) := fun x => calls_in (Nat.le_refl _) x (HTx.out x.w (HWd.out x))
      haveI inst : Nonempty (Wd (Below V.heap.size V)) := ⟨⟨V, Below.refl _ _⟩⟩
      have hwr : IntKind.i64.wrap (fz + s) = fz + s := by rw [IntKind.wrap_i64]; omega
      by_cases hx : uc < fz + s
      · have HNx : Hid (false = fb) := HNo.out k hlt (by rw [HFk.out]; omega)
        clear HNo HYs HFt HFk HR HT HLo HTx
        refine wp_region_in (Below V.heap.size V) (by kernel_rfl) (by kernel_rfl) ((Below.refl _ _).drew) ?_
        repeat (first | go_big_quiet_step ((go_at_call 86; exact HTy.out _)))
        refine wpQuiet_nil ?_
        rintro _ ⟨x, rfl⟩
        have HX : Hid (Below w.heap.size w x.w) := HWd.out x
        go_wp2
        go_ret
        exact ⟨ret_bool HNx.out, HX.out⟩
      · have HNx : Hid (∀ j, j < k + 1 → ft1 t ev f c first j) := fun j hj => by
          by_cases e : j = k
          · subst e; rw [HFk.out]; omega
          · exact HQ.out.2 j (by omega)
        clear HNo HFt HFk HR HT HLo HTx
        refine wp_region_in (Below V.heap.size V) (by kernel_rfl) (by kernel_rfl) ((Below.refl _ _).drew) ?_
        repeat (first | go_big_quiet_step ((go_at_call 86; exact HTy.out _)))
        refine wpQuiet_nil ?_
        rintro _ ⟨x, rfl⟩
        have HX : Hid (Below w.heap.size w x.w) := HWd.out x
        go_wp2
        go_roundw
        case rel => exact ⟨k + 1, by omega, by go_num, HX.out, HNx.out⟩
        case measure => simp [intOf]; omega
    · obtain rfl : k = B := by omega
      have k0 : ¬ (k : Int) < (k : Int) := by omega
      have HNx : Hid (true = fb) := HYs.out HQ.out.2
      go_wp2
      go_ret
      exact ⟨ret_bool HNx.out, HQ.out.1⟩
end Go.Proofs.YtnckkhamkkaljaaDoor.Rv

namespace Go.Proofs.YtnckkhamkkaljaaDoor.Rv
open Go.ChangeShapes Go.WideShapes Go.ChangeAt Go.RowKit Go.Maps
open _root_.Go.Proofs.YtnckkhamkkaljaaDoor.Op _root_.Go.Proofs.YtnckkhamkkaljaaDoor.So
open _root_.Go.Proofs.YtnckkhamkkaljaaDoor.Tb (Tab TabAt Bnds)
set_option maxRecDepth 20000

/-- Whether one operation more can be taken there. -/
def frB (t : Tab) (ev : Option Int) (f : Int → Int → Int) (cl cyc : Int) : Bool := decide (0 ≤ cl) && decide (cl ≤ 3) && (decide (0 ≤ tn ev cyc) && decide (tn ev cyc ≤ 65536) && ftB t ev f cl.toNat (tn ev cyc))
theorem free_nil (cl cyc : Int) (w : World) : Calls Tryd.prog 38 #[.pointer none, .int .i64 cl, .int .i64 cyc] w fun e w' => e = .returned (.bool false) ∧ Below w.heap.size w w' := by
  have HN : Hid (∀ W, Calls Tryd.prog 40 #[.pointer none] W fun e w' => e = .returned (.bool true) ∧ Below W.heap.size W w') := fun W => isNone_nil W
  go_enter Tryd.func38, Tryd.ntmps38
  go_wp2_with (first | (go_at_call 40; refine Calls.mono (HN.out _) ?_; rintro e w1 ⟨rfl, b1⟩; have HB : Hid (Below w.heap.size w w1) := b1; clear b1 HN))
  go_ret
  exact ⟨rfl, HB.out⟩
theorem used_nil (cl cyc : Int) (w : World) : Calls Tryd.prog 18 #[.pointer none, .int .i64 cl, .int .i64 cyc] w fun e w' => e = .returned (.int .i64 0) ∧ Below w.heap.size w w' := by
  have HN : Hid (∀ W, Calls Tryd.prog 40 #[.pointer none] W fun e w' => e = .returned (.bool true) ∧ Below W.heap.size W w') := fun W => isNone_nil W
  go_enter Tryd.func18, Tryd.ntmps18
  go_wp2_with (first | (go_at_call 40; refine Calls.mono (HN.out _) ?_; rintro e w1 ⟨rfl, b1⟩; have HB : Hid (Below w.heap.size w w1) := b1; clear b1 HN))
  go_ret
  exact ⟨rfl, HB.out⟩
theorem take_nil (cl cyc : Int) (w : World) : Calls Tryd.prog 17 #[.pointer none, .int .i64 cl, .int .i64 cyc] w fun e w' => e = .returned (.bool false) ∧ Below w.heap.size w w' := by
  have HN : Hid (∀ W, Calls Tryd.prog 38 #[.pointer none, .int .i64 cl, .int .i64 cyc] W fun e w' => e = .returned (.bool false) ∧ Below W.heap.size W w') := fun W => free_nil cl cyc W
  go_enter Tryd.func17, Tryd.ntmps17
  go_wp2_with (first | (go_at_call 38; refine Calls.mono (HN.out _) ?_; rintro e w1 ⟨rfl, b1⟩; have HB : Hid (Below w.heap.size w w1) := b1; clear b1 HN))
  go_ret
  exact ⟨rfl, HB.out⟩
set_option maxHeartbeats 4000000 in
theorem free_any {rb mb n : Nat} {t : Tab} {ev : Option Int} {f : Int → Int → Int} (cl cyc : Int) (w : World) (h : RAt w rb t ev mb n f) (hv : evOk ev) (hf : Few f) (ht : t.ok = true) :
    Calls Tryd.prog 38 #[.pointer (some ⟨rb, 0, none⟩), .int .i64 cl, .int .i64 cyc] w fun e w' => e = .returned (.bool (frB t ev f cl cyc)) ∧ Below w.heap.size w w' := by
  have HN : Hid (∀ W, Below w.heap.size w W → Calls Tryd.prog 40 #[.pointer (some ⟨rb, 0, none⟩)] W fun e w' => e = .returned (.bool false) ∧ Below W.heap.size W w') := fun W hb => isNone_no W (h.up hb)
  have HR : Hid (∀ W, Below w.heap.size w W → RAt W rb t ev mb n f) := fun W hb => h.up hb
  by_cases hc0 : cl < 0
  · have hA : frB t ev f cl cyc = false := by unfold frB; simp [show ¬ 0 ≤ cl by omega]
    rw [hA]
    clear h hv hf hA
    go_enter Tryd.func38, Tryd.ntmps38
    go_wp2_with (first | (go_at_call 40; refine Calls.mono (HN.out _ (Below.refl _ _)) ?_; rintro e w1 ⟨rfl, b1⟩; have HB : Hid (Below w.heap.size w w1) := b1; clear b1 HN))
    go_ret
    exact ⟨rfl, HB.out⟩
  by_cases hc4 : 4 ≤ cl
  · have hA : frB t ev f cl cyc = false := by unfold frB; simp [show ¬ cl ≤ 3 by omega]
    rw [hA]
    clear h hv hf hA
    go_enter Tryd.func38, Tryd.ntmps38
    go_wp2_with (first | (go_at_call 40; refine Calls.mono (HN.out _ (Below.refl _ _)) ?_; rintro e w1 ⟨rfl, b1⟩; have HB : Hid (Below w.heap.size w w1) := b1; clear b1 HN))
    go_ret
    exact ⟨rfl, HB.out⟩
  · obtain ⟨c, rfl⟩ : ∃ c : Nat, cl = c := ⟨cl.toNat, by omega⟩
    have hA : frB t ev f (c : Int) cyc = (decide (0 ≤ tn ev cyc) && decide (tn ev cyc ≤ 65536) && ftB t ev f c (tn ev cyc)) := by
      unfold frB
      rw [Int.toNat_natCast]
      simp [show (0 : Int) ≤ (c : Int) by omega, show (c : Int) ≤ 3 by omega]
    rw [hA]
    have hc : c < 4 := by omega
    obtain ⟨p1, p2, p3⟩ := (Tb.ok_parts ht).2 c hc
    have huu := Tb.inB_iff p1
    have hbb := Tb.inB_iff p3
    clear hA ht p1 p2 p3
    cases ev with
    | none =>
      have HT : Hid (∀ W, Calls Tryd.prog 37 #[.agg #[], .int .i64 cyc] W fun e w' => e = .returned (.int .i64 (tn (none) cyc)) ∧ Below W.heap.size W w') := fun W => row_any _ W
      have HG : Hid (∀ W, Below w.heap.size w W → W.cell? ⟨rb, 9, none⟩ = some (.func (.func 37) #[.agg #[]] #[])) := fun W hb => (h.up hb).fn
      have HFi : Hid (∀ W, Below w.heap.size w W → 0 ≤ tn (none) cyc → tn (none) cyc ≤ 65536 → Calls Tryd.prog 61 #[.pointer (some ⟨rb, 0, none⟩), .int .i64 (c : Int), .int .i64 (tn (none) cyc)] W fun e w' => e = .returned (.bool (ftB t (none) f c (tn (none) cyc))) ∧ Below W.heap.size W w') := fun W hb h0 h1 => fits_any c _ W (h.up hb) hv hc h0 h1 hbb hf huu
      clear h hv hf
      generalize ftB t (none) f c (tn (none) cyc) = fb at *
      generalize tn (none) cyc = first at *
      by_cases h0 : 0 ≤ first
      · by_cases h1 : first ≤ 65536
        · have HFx : Hid (∀ W, Below w.heap.size w W → Calls Tryd.prog 61 #[.pointer (some ⟨rb, 0, none⟩), .int .i64 (c : Int), .int .i64 first] W fun e w' => e = .returned (.bool fb) ∧ Below W.heap.size W w') := fun W hb => HFi.out W hb h0 h1
          have hA : (decide (0 ≤ first) && decide (first ≤ 65536) && fb) = fb := by simp [h0, h1]
          rw [hA]
          clear hA HFi
          go_enter Tryd.func38, Tryd.ntmps38
          go_wp2_with (first
            | (go_at_call 40; refine Calls.mono (HN.out _ (Below.refl _ _)) ?_; rintro e w1 ⟨rfl, b1⟩; have HB : Hid (Below w.heap.size w w1) := b1; have hg := HG.out w1 b1; have hl := (HR.out w1 b1).at'.lt; clear b1 HN HG)
            | (go_at_call 37; refine Calls.mono (HT.out _) ?_; rintro e w2 ⟨rfl, b2⟩; have HB2 : Hid (Below w.heap.size w w2) := HB.out.trans (b2.mono HB.out.size); clear b2 HT hg hl)
            | (go_at_call 61; refine Calls.mono (HFx.out _ HB2.out) ?_; rintro e w3 ⟨rfl, b3⟩; have HB3 : Hid (Below w.heap.size w w3) := HB2.out.trans (b3.mono HB2.out.size); clear b3 HFx))
          go_ret
          exact ⟨rfl, HB3.out⟩
        · have hA : (decide (0 ≤ first) && decide (first ≤ 65536) && fb) = false := by simp [h1]
          rw [hA]
          clear hA HFi
          go_enter Tryd.func38, Tryd.ntmps38
          go_wp2_with (first
            | (go_at_call 40; refine Calls.mono (HN.out _ (Below.refl _ _)) ?_; rintro e w1 ⟨rfl, b1⟩; have HB : Hid (Below w.heap.size w w1) := b1; have hg := HG.out w1 b1; have hl := (HR.out w1 b1).at'.lt; clear b1 HN HG)
            | (go_at_call 37; refine Calls.mono (HT.out _) ?_; rintro e w2 ⟨rfl, b2⟩; have HB2 : Hid (Below w.heap.size w w2) := HB.out.trans (b2.mono HB.out.size); clear b2 HT hg hl))
          go_ret
          exact ⟨rfl, HB2.out⟩
      · have hA : (decide (0 ≤ first) && decide (first ≤ 65536) && fb) = false := by simp [h0]
        rw [hA]
        clear hA HFi
        go_enter Tryd.func38, Tryd.ntmps38
        go_wp2_with (first
          | (go_at_call 40; refine Calls.mono (HN.out _ (Below.refl _ _)) ?_; rintro e w1 ⟨rfl, b1⟩; have HB : Hid (Below w.heap.size w w1) := b1; have hg := HG.out w1 b1; have hl := (HR.out w1 b1).at'.lt; clear b1 HN HG)
          | (go_at_call 37; refine Calls.mono (HT.out _) ?_; rintro e w2 ⟨rfl, b2⟩; have HB2 : Hid (Below w.heap.size w w2) := HB.out.trans (b2.mono HB.out.size); clear b2 HT hg hl))
        go_ret
        exact ⟨rfl, HB2.out⟩
    | some _ => exact hv.elim
set_option maxHeartbeats 4000000 in
theorem used_any {rb mb n : Nat} {t : Tab} {ev : Option Int} {f : Int → Int → Int} (cl cyc : Int) (w : World) (h : RAt w rb t ev mb n f) (hv : evOk ev) (hcl : I64 cl) (hcy : I64 cyc) :
    Calls Tryd.prog 18 #[.pointer (some ⟨rb, 0, none⟩), .int .i64 cl, .int .i64 cyc] w fun e w' => e = .returned (.int .i64 (f cl (tn ev cyc))) ∧ Below w.heap.size w w' := by
  have HN : Hid (∀ W, Below w.heap.size w W → Calls Tryd.prog 40 #[.pointer (some ⟨rb, 0, none⟩)] W fun e w' => e = .returned (.bool false) ∧ Below W.heap.size W w') := fun W hb => isNone_no W (h.up hb)
  cases ev with
  | none =>
    have HT : Hid (∀ W, Calls Tryd.prog 37 #[.agg #[], .int .i64 cyc] W fun e w' => e = .returned (.int .i64 (tn (none) cyc)) ∧ Below W.heap.size W w') := fun W => row_any _ W
    have HLo : Hid (∀ W, Below w.heap.size w W → (Instr.lookup 75 (.map (some mb)) (.agg #[.int .i64 cl, .int .i64 (tn (none) cyc)]) false).run Tryd.prog W = .ok (.int .i64 (f cl (tn (none) cyc))) W) := fun W hb => (h.up hb).cm.look hcl (tn_in hv hcy)
    have HR : Hid (∀ W, Below w.heap.size w W → rb < W.heap.size ∧ W.cell? ⟨rb, 8, none⟩ = some (.map (some mb)) ∧ W.cell? ⟨rb, 9, none⟩ = some (.func (.func 37) #[.agg #[]] #[])) := fun W hb => ⟨(h.up hb).at'.lt, (h.up hb).m, (h.up hb).fn⟩
    clear h hv
    generalize f cl (tn (none) cyc) = fz at *
    generalize tn (none) cyc = first at *
    go_enter Tryd.func18, Tryd.ntmps18
    go_upto_region 3 with (first | (go_at_call 40; refine Calls.mono (HN.out _ (Below.refl _ _)) ?_; rintro e w1 ⟨rfl, b1⟩; have HV : Hid (Below w.heap.size w w1) := b1; clear b1 HN))
    have HWd : Hid (∀ x : Wd (Below w1.heap.size w1), Below w.heap.size w x.w) := fun x => HV.out.trans (x.ok.mono HV.out.size)
    have xm : ∀ x : Wd (Below w1.heap.size w1), x.w.cell? ⟨rb, 8, none⟩ = some (.map (some mb)) := fun x => (HR.out _ (HWd.out x)).2.1
    have xf : ∀ x : Wd (Below w1.heap.size w1), x.w.cell? ⟨rb, 9, none⟩ = some (.func (.func 37) #[.agg #[]] #[]) := fun x => (HR.out _ (HWd.out x)).2.2
    have xl : ∀ x : Wd (Below w1.heap.size w1), (Instr.lookup 75 (.map (some mb)) (.agg #[.int .i64 cl, .int .i64 first]) false).run Tryd.prog x.w = .ok (.int .i64 fz) x.w := fun x => HLo.out _ (HWd.out x)
    have HTy : Hid (∀ x : Wd (Below w1.heap.size w1), Calls Tryd.prog 37 #[.agg #[], .int .i64 cyc] x.w fun e w'' => e = .returned (.int .i64 first) ∧ ∃ y : Wd (Below w1.heap.size w1), w'' = y.w) := fun x => calls_in (Nat.le_refl _) x (HT.out x.w)
    haveI inst : Nonempty (Wd (Below w1.heap.size w1)) := ⟨⟨w1, Below.refl _ _⟩⟩
    refine wp_region_in (Below w1.heap.size w1) (by kernel_rfl) (by kernel_rfl) ((Below.refl _ _).drew) ?_
    repeat (first | go_big_quiet_step ((go_at_call 37; exact HTy.out _)))
    refine wpQuiet_nil ?_
    rintro _ ⟨x, rfl⟩
    have HX : Hid (Below w.heap.size w x.w) := HWd.out x
    go_wp2
    go_ret
    exact ⟨rfl, HX.out⟩
  | some _ => exact hv.elim
end Go.Proofs.YtnckkhamkkaljaaDoor.Rv

namespace Go.Proofs.YtnckkhamkkaljaaDoor.Rv
open Go.ChangeShapes Go.WideShapes Go.ChangeAt Go.RowKit Go.Maps
open _root_.Go.Proofs.YtnckkhamkkaljaaDoor.Op _root_.Go.Proofs.YtnckkhamkkaljaaDoor.So
open _root_.Go.Proofs.YtnckkhamkkaljaaDoor.Tb (Tab TabAt Bnds)
set_option maxRecDepth 20000

open Go.ChangeMaps (setBlock heap_setBlock_same heap_setBlock_other modify_eq_set)
theorem drew_up (w : World) : Below w.heap.size w w.drew := ⟨rfl, rfl, rfl, Nat.le_refl _, fun _ _ => rfl⟩
/-- The first step of two looks a place up, and puts it down as it is. -/
theorem entry_upd {H : Type} {P : Program} {w : World} {t k e : TypeId} {R : Value → Option (DataW H × List MemPlace)} {b : Nat} {es : Array MapEntry} {clock : Nat} (K : WideMaps.KeyLaw P k) (ht : P.underlying t = some (.map k e)) {z : Value} (hz : ∀ u : World, (zeroValue e).run P u = .ok z u) (hb : w.heap[b]? = some (.map es clock)) (F : WideElems.Fit P k R es clock) {key : Value} {kl : Lit} (hkey : keyOf P k key = some kl) :
    ∃ (v0 : Value) (st : Int) (w1 : World), (Instr.mapEntry t (.map (some b)) key).run P w = .ok (.tuple #[v0, goInt st]) w1 ∧ (Instr.mapUpdate t (.map (some b)) key v0).run P w = .ok () w1 ∧ (Instr.lookup t (.map (some b)) key false).run P w = .ok v0 w := by
  rcases K.find w hkey es.toList F.keys with ⟨h1, -⟩ | ⟨j, e0, h1, h2, h3⟩
  · refine ⟨z, clock, setBlock w b (.map (es.push ⟨key, z, clock⟩) (clock + 1)), ?_, ?_, ?_⟩
    · simp [Instr.mapEntry, run_underlying ht, MapKept.run_getObj_map hb, K.check w false hkey, h1, hz, MapKept.run_setObj_map _ hb, Result.andThen, setBlock]
    · simp [Instr.mapUpdate, run_underlying ht, MapKept.run_getObj_map hb, K.check w false hkey, h1, MapKept.run_setObj_map _ hb, Result.andThen, setBlock]
    · simp [Instr.lookup, run_underlying ht, MapKept.run_getObj_map hb, K.check w _ hkey, h1, hz, Result.andThen]
  · have hj : es[j]? = some e0 := by simpa using h2
    have keep : ∀ g : MapEntry → MapEntry, g e0 = e0 → es.modify j g = es := fun g hg => by
      apply Array.ext'
      rw [Array.toList_modify, modify_eq_set _ _ _ _ h2, hg]
      exact WideElems.set_self _ _ _ h2
    have s1 : es.modify j (fun e => { e with key := key }) = es := keep _ (by rw [← h3])
    have s2 : es.modify j (fun e => { e with key := key, val := e0.val }) = es := keep _ (by rw [← h3])
    refine ⟨e0.val, e0.born, setBlock w b (.map es clock), ?_, ?_, ?_⟩
    · simp [Instr.mapEntry, run_underlying ht, MapKept.run_getObj_map hb, K.check w false hkey, h1, hj, h3, K.stays w hkey, s1, MapKept.run_setObj_map _ hb, Result.andThen, setBlock]
    · simp [Instr.mapUpdate, run_underlying ht, MapKept.run_getObj_map hb, K.check w false hkey, h1, hj, h3, K.stays w hkey, s2, MapKept.run_setObj_map _ hb, Result.andThen, setBlock]
    · simp [Instr.lookup, run_underlying ht, MapKept.run_getObj_map hb, K.check w _ hkey, h1, Result.andThen]
/-- A place's count is set anew, in two steps. -/
theorem Cm.entry {w : World} {mb n : Nat} {f : Int → Int → Int} (h : Cm w mb n f) (hn : n < maxLen) {a b : Int} (ha : I64 a) (hb : I64 b) (hf : I64 (f a b)) : ∃ (v0 : Value) (st : Int) (w1 : World), (Instr.mapEntry 75 (.map (some mb)) (.agg #[.int .i64 a, .int .i64 b])).run Tryd.prog w = .ok (.tuple #[v0, .int .i64 st]) w1 ∧ Fr (One mb) w w1 ∧ (Instr.lookup 75 (.map (some mb)) (.agg #[.int .i64 a, .int .i64 b]) false).run Tryd.prog w1 = .ok (.int .i64 (f a b)) w1 ∧
    ∀ v, I64 v → ∃ w2, (Instr.entryStore 75 (.map (some mb)) (.int .i64 st) (.int .i64 v)).run Tryd.prog w1 = .ok () w2 ∧ Fr (One mb) w w2 ∧ Cm w2 mb (n + 1) (fun c d => if c = a ∧ d = b then v else f c d) := by
  have hlk := h.look ha hb
  obtain ⟨D, hown, hat⟩ := h.own
  have hown' := hown
  obtain ⟨es, clock, hbk, F, hs, -⟩ := hown
  obtain ⟨v0, st, es1, clock1, hrun, -, hst⟩ := WideElems.entry_then_store klaw57 Tryd.underlying75 (z := .int .i64 0) zero3 hbk F (key57 ha hb)
  obtain ⟨v1, st1, w1, g1, g2, g3⟩ := entry_upd klaw57 Tryd.underlying75 (z := .int .i64 0) zero3 hbk F (key57 ha hb)
  have hv1 : v1 = .int .i64 (f a b) := by
    rw [hlk] at g3
    injection g3 with g3 _
    exact g3.symm
  subst hv1
  have hfr : ∀ (es' : Array MapEntry) (clock' : Nat), Fr (One mb) w (setBlock w mb (.map es' clock')) := fun es' clock' => ⟨rfl, rfl, rfl, by simp [setBlock], fun i _ hi => heap_setBlock_other hbk _ hi⟩
  have hw1 : setBlock w mb (.map es1 clock1) = w1 := by
    rw [hrun] at g1
    injection g1
  have hlk1 : (Instr.lookup 75 (.map (some mb)) (.agg #[.int .i64 a, .int .i64 b]) false).run Tryd.prog w1 = .ok (.int .i64 (f a b)) w1 := by
    obtain ⟨w', h3, h4, h5⟩ := hown'.update law57 Tryd.underlying75 hn (key57 ha hb) (plainElem_int Tryd.underlying3 (wf64i hf))
    rw [g2] at h3
    have e : w1 = w' := by injection h3
    subst e
    have hc : Cm w1 mb (n + 1) (fun c d => if c = a ∧ d = b then f a b else f c d) := ⟨_, h4, fun c d hc hd => by
      by_cases e : c = a ∧ d = b
      · obtain ⟨rfl, rfl⟩ := e
        rw [if_pos ⟨rfl, rfl⟩, atKey_put_same hown'.isMap (kl_key _ _)]
      · rw [if_neg e, atKey_put_other (fun e2 => e (kl_inj hc hd ha hb e2)), hat c d hc hd]⟩
    have := hc.look ha hb
    rw [if_pos ⟨rfl, rfl⟩] at this
    exact this
  rw [← hw1] at hlk1
  refine ⟨v0, (st : Int), _, hrun, hfr _ _, hlk1, fun v hv => ?_⟩
  obtain ⟨es', clock', h1, h2⟩ := hst _ (.int .i64 v) (heap_setBlock_same hbk _)
  obtain ⟨w', h3, h4, h5⟩ := hown'.update law57 Tryd.underlying75 hn (key57 ha hb) (plainElem_int Tryd.underlying3 (wf64i hv))
  rw [h2] at h3
  have hw' : setBlock w mb (.map es' clock') = w' := by injection h3
  subst hw'
  have hb1 : (setBlock w mb (.map es1 clock1)).heap[mb]? = some (.map es1 clock1) := heap_setBlock_same hbk _
  refine ⟨_, h1, ?_, ⟨D.put (kl a b) (.lit (.int .i64 v)), ?_, ?_⟩⟩
  · exact (hfr es1 clock1).same ⟨rfl, rfl, rfl, by simp [setBlock], fun i _ hi => heap_setBlock_other hb1 _ hi⟩
  · obtain ⟨es2, clock2, q1, q2⟩ := h4
    rw [heap_setBlock_same hbk] at q1
    exact ⟨es2, clock2, by rw [heap_setBlock_same hb1]; exact q1, q2⟩
  · intro c d hc hd
    by_cases e : c = a ∧ d = b
    · obtain ⟨rfl, rfl⟩ := e
      rw [if_pos ⟨rfl, rfl⟩, atKey_put_same hown'.isMap (kl_key _ _)]
    · rw [if_neg e, atKey_put_other (fun e2 => e (kl_inj hc hd ha hb e2)), hat c d hc hd]
/-- The counts with an operation more, as far as its first so many cycles. -/
def addK (ev : Option Int) (f : Int → Int → Int) (cl first : Int) (k : Nat) : Int → Int → Int := fun a b => if a = cl then f a b + tms ev first b k else f a b
theorem addK_0 (ev : Option Int) (f : Int → Int → Int) (cl first : Int) : addK ev f cl first 0 = f := by
  funext a b
  unfold addK tms
  split <;> simp
theorem addK_next (ev : Option Int) (f : Int → Int → Int) (cl first : Int) (k : Nat) : (fun c d => if c = cl ∧ d = tn ev (first + k) then addK ev f cl first k cl (tn ev (first + k)) + 1 else addK ev f cl first k c d) = addK ev f cl first (k + 1) := by
  funext c d
  unfold addK
  by_cases hc : c = cl
  · subst hc
    simp only [true_and, if_true]
    show _ = f c d + (tms ev first d k + if tn ev (first + k) = d then 1 else 0)
    by_cases hd : d = tn ev (first + k)
    · subst hd; rw [if_pos rfl, if_pos rfl]; omega
    · rw [if_neg hd, if_neg fun e => hd e.symm]; omega
  · simp only [hc, false_and, if_false]
theorem tms_pos {ev : Option Int} {first cyc : Int} : ∀ {k : Nat}, 0 < tms ev first cyc k → ∃ j, j < k ∧ tn ev (first + (j : Nat)) = cyc
  | 0, h => by have h : (0 : Int) < 0 := h; omega
  | k + 1, h => by
    by_cases e : tn ev (first + k) = cyc
    · exact ⟨k, by omega, e⟩
    · have h : 0 < tms ev first cyc k + (if tn ev (first + k) = cyc then 1 else 0) := h
      rw [if_neg e] at h
      obtain ⟨j, hj, e2⟩ := tms_pos (ev := ev) (first := first) (cyc := cyc) (k := k) (by omega)
      exact ⟨j, by omega, e2⟩
theorem tms_mono (ev : Option Int) (first cyc : Int) {k : Nat} : ∀ {m : Nat}, k ≤ m → tms ev first cyc k ≤ tms ev first cyc m
  | 0, h => by obtain rfl : k = 0 := by omega
               exact Int.le_refl _
  | m + 1, h => by
    by_cases e : k = m + 1
    · rw [e]; exact Int.le_refl _
    · have := tms_mono ev first cyc (k := k) (m := m) (by omega)
      have h2 : tms ev first cyc (m + 1) = tms ev first cyc m + (if tn ev (first + m) = cyc then 1 else 0) := rfl
      rw [h2]
      split <;> omega
/-- Counts stay few. -/
theorem add_few {t : Tab} {ev : Option Int} {f : Int → Int → Int} {c : Nat} {first : Int} (hf : Few f) (hu : t.u c ≤ 8) (h : ftB t ev f c first = true) {k : Nat} (hk : k ≤ (t.b c).toNat) : Few (addK ev f c first k) := fun a b => by
  have h1 := hf a b
  have h2 := tms_in ev first b k
  unfold addK
  split
  · rename_i ha
    subst ha
    refine ⟨by omega, ?_⟩
    by_cases h0 : 0 < tms ev first b (t.b c).toNat
    · obtain ⟨j, hj, e⟩ := tms_pos h0
      unfold ftB at h
      have h3 := List.all_eq_true.1 h j (List.mem_range.2 hj)
      have h3 : ft1 t ev f c first j := by unfold ft1; simpa using h3
      unfold ft1 at h3
      rw [e] at h3
      have := tms_mono ev first b hk
      omega
    · have := tms_mono ev first b hk
      omega
  · exact h1
/-- What is counted behind a Take. -/
def tkF (t : Tab) (ev : Option Int) (f : Int → Int → Int) (cl cyc : Int) : Int → Int → Int := if frB t ev f cl cyc = true then addK ev f cl (tn ev cyc) (t.b cl.toNat).toNat else f
theorem fr_parts {t : Tab} {ev : Option Int} {f : Int → Int → Int} {cl cyc : Int} (h : frB t ev f cl cyc = true) : (0 ≤ cl ∧ cl ≤ 3) ∧ (0 ≤ tn ev cyc ∧ tn ev cyc ≤ 65536) ∧ ftB t ev f cl.toNat (tn ev cyc) = true := by
  unfold frB at h
  simpa [and_assoc] using h
theorem tk_few {t : Tab} {ev : Option Int} {f : Int → Int → Int} (hf : Few f) (ht : t.ok = true) (cl cyc : Int) : Few (tkF t ev f cl cyc) := by
  unfold tkF
  split
  · rename_i h
    obtain ⟨⟨h1, h2⟩, -, h3⟩ := fr_parts h
    obtain ⟨c, rfl⟩ : ∃ c : Nat, cl = c := ⟨cl.toNat, by omega⟩
    have p := ((Tb.ok_parts ht).2 c (by omega)).1
    rw [Int.toNat_natCast] at h3 ⊢
    exact add_few hf (Tb.inB_iff p).2 h3 (Nat.le_refl _)
  · exact hf
set_option maxHeartbeats 8000000 in
theorem take_any {rb mb n : Nat} {t : Tab} {ev : Option Int} {f : Int → Int → Int} (cl cyc : Int) (w : World) (h : RAt w rb t ev mb n f) (hv : evOk ev) (hf : Few f) (ht : t.ok = true) (hn : n ≤ 1000000) :
    Calls Tryd.prog 17 #[.pointer (some ⟨rb, 0, none⟩), .int .i64 cl, .int .i64 cyc] w fun e w' => e = .returned (.bool (frB t ev f cl cyc)) ∧ ∃ n', RAt w' rb t ev mb n' (tkF t ev f cl cyc) ∧ n' ≤ n + 4 ∧ Fr (One mb) w w' := by
  have HFr : Hid (∀ W, Below w.heap.size w W → Calls Tryd.prog 38 #[.pointer (some ⟨rb, 0, none⟩), .int .i64 cl, .int .i64 cyc] W fun e w' => e = .returned (.bool (frB t ev f cl cyc)) ∧ Below W.heap.size W w') := fun W hb => free_any cl cyc W (h.up hb) hv hf ht
  unfold tkF
  cases hfb : frB t ev f cl cyc
  · rw [hfb] at HFr
    rw [if_neg (by decide)]
    have HR : Hid (∀ W, Below w.heap.size w W → RAt W rb t ev mb n f) := fun W hb => h.up hb
    clear h hv hf hfb
    go_enter Tryd.func17, Tryd.ntmps17
    go_wp2_with (first | (go_at_call 38; refine Calls.mono (HFr.out _ (Below.refl _ _)) ?_; rintro e w1 ⟨rfl, b1⟩; have HB : Hid (Below w.heap.size w w1) := b1; clear b1 HFr))
    go_ret
    exact ⟨rfl, n, HR.out _ HB.out, by omega, Fr.of HB.out⟩
  · rw [hfb] at HFr
    rw [if_pos rfl]
    obtain ⟨⟨c0, c1⟩, ⟨h0, h1⟩, h3⟩ := fr_parts hfb
    clear hfb
    obtain ⟨c, rfl⟩ : ∃ c : Nat, cl = c := ⟨cl.toNat, by omega⟩
    rw [Int.toNat_natCast] at h3 ⊢
    have hc : c < 4 := by omega
    have c4 : (c : Int) < 4 := by omega
    obtain ⟨p1, p2, p3⟩ := (Tb.ok_parts ht).2 c hc
    have huu := Tb.inB_iff p1
    have hbb := Tb.inB_iff p3
    obtain ⟨B, hB⟩ : ∃ B : Nat, t.b c = B := ⟨(t.b c).toNat, by omega⟩
    have hB4 : B ≤ 4 := by omega
    rw [hB, Int.toNat_natCast]
    clear p1 p2 p3 hbb ht
    cases ev with
    | none =>
      obtain ⟨first, hfi⟩ : ∃ first, tn (none) cyc = first := ⟨_, rfl⟩
      rw [hfi] at h0 h1 h3 ⊢
      have HT : Hid (∀ W, Calls Tryd.prog 37 #[.agg #[], .int .i64 cyc] W fun e w' => e = .returned (.int .i64 first) ∧ Below W.heap.size W w') := fun W => by rw [← hfi]; exact row_any _ W
      have HK : Hid (∀ W k n' g, RAt W rb t (none) mb n' g → k < 4 → Calls Tryd.prog 39 #[.pointer (some ⟨rb, 0, none⟩), .int .i64 (c : Int), .int .i64 first, .int .i64 ((k : Nat) : Int)] W fun e w' => e = .returned (.agg #[.int .i64 (c : Int), .int .i64 (tn (none) (first + k))]) ∧ Below W.heap.size W w') := fun W k n' g hr hk => kept_any _ _ _ W hr hv (by rw [IntKind.wrap_i64]; omega)
      have HZs : Hid (∀ k, k < 4 → I64 (tn (none) (first + (k : Nat)))) := fun k hk => tn_in hv (by unfold I64; omega)
      have HFs : Hid (∀ k, k ≤ B → Few (addK (none) f c first k)) := fun k hk => add_few hf huu.2 h3 (by rw [hB]; simpa using hk)
      have HR : Hid (∀ W, Below w.heap.size w W → RAt W rb t (none) mb n f) := fun W hb => h.up hb
      have HCl : Hid (I64 (c : Int)) := by unfold I64 Hid; omega
      have HBc : Hid (t.b c = (B : Int)) := hB
      clear h hv hf hfi h3 hB huu
      go_enter Tryd.func17, Tryd.ntmps17
      go_wp2_with (first | (go_at_call 38; refine Calls.mono (HFr.out _ (Below.refl _ _)) ?_; rintro e w1 ⟨rfl, b1⟩; have HS : Hid (RAt w1 rb t (none) mb n f ∧ Below w.heap.size w w1) := ⟨HR.out w1 b1, b1⟩; have g0 := HS.out.1.at'.lt; have g1 := HS.out.1.b c hc; rw [HBc.out] at g1; clear b1 HFr HR))
      clear g0 g1
      go_loopw [19] (fun v wr => ∃ k : Nat, k ≤ B ∧ v = .int .i64 k ∧ RAt wr rb t (none) mb (n + k) (addK (none) f c first k) ∧ Fr (One mb) w wr) (fun v _ => B - (intOf v).toNat)
      case atStart => exact ⟨0, by omega, rfl, by rw [addK_0]; exact HS.out.1, Fr.of HS.out.2⟩
      case round =>
        rename World => wr
        obtain ⟨k, hk, rfl, hra, hfr⟩ := hrel
        have HQ : Hid (RAt wr rb t (none) mb (n + k) (addK (none) f c first k) ∧ Fr (One mb) w wr) := ⟨hra, hfr⟩
        clear hra hfr HS
        by_cases hlt : k < B
        · have k0 : (k : Int) < (B : Int) := by omega
          have HZ : Hid (I64 (tn (none) (first + (k : Nat)))) := HZs.out k (by omega)
          have HFw : Hid (Few (addK (none) f c first k)) := HFs.out k (by omega)
          have HNx : Hid ((fun x y => if x = (c : Int) ∧ y = tn (none) (first + (k : Nat)) then addK (none) f c first k c (tn (none) (first + (k : Nat))) + 1 else addK (none) f c first k x y) = addK (none) f c first (k + 1)) := addK_next (none) f c first k
          have HKx : Hid (∀ W, RAt W rb t (none) mb (n + k) (addK (none) f c first k) → Calls Tryd.prog 39 #[.pointer (some ⟨rb, 0, none⟩), .int .i64 (c : Int), .int .i64 first, .int .i64 (k : Int)] W fun e w' => e = .returned (.agg #[.int .i64 (c : Int), .int .i64 (tn (none) (first + (k : Nat)))]) ∧ Below W.heap.size W w') := fun W hr => HK.out W k _ _ hr (by omega)
          generalize tn (none) (first + (k : Nat)) = z at *
          clear HK HZs HFs
          go_upto_region 6 with fail
          refine wp_region_held_drew (S := fun W => At W rb #[.int .i64 (t.u 0), .int .i64 (t.u 1), .int .i64 (t.u 2), .int .i64 (t.u 3), .int .i64 (t.b 0), .int .i64 (t.b 1), .int .i64 (t.b 2), .int .i64 (t.b 3), .map (some mb), .func (.func 37) #[.agg #[]] #[]]) (by kernel_rfl) (HQ.out.1.at'.below (drew_up _) HQ.out.1.at'.lt) (fun hHeld => ?_)
          refine wpAnyH_take (i := 0) (v := .pointer (some ⟨rb, 0, none⟩)) rfl (by kernel_rfl) (by kernel_rfl) (by kernel_rfl) (fun _ _ _ h => h) (Or.inl ⟨by rfl, fun w' hSw => by (go_simp)⟩) hHeld ?_
          simp only [Act.put, List.setIfInBounds_toArray, List.set_cons_zero, List.set_cons_succ, List.getElem_cons_zero, List.getElem_toArray]
          refine wpAnyH_take (i := 1) (v := .pointer (some ⟨rb, 0, none⟩)) rfl (by kernel_rfl) (by kernel_rfl) (by kernel_rfl) (fun _ _ _ h => h) (Or.inl ⟨by rfl, fun w' hSw => by (go_simp)⟩) hHeld ?_
          simp only [Act.put, List.setIfInBounds_toArray, List.set_cons_zero, List.set_cons_succ, List.getElem_cons_zero, List.getElem_cons_succ, List.getElem_toArray]
          refine wpAnyH_take (i := 2) (v := .pointer (some ⟨rb, 8, none⟩)) rfl (by kernel_rfl) (by kernel_rfl) (by kernel_rfl) (fun _ _ _ h => h) (Or.inl ⟨by rfl, fun w' hSw => by (go_simp)⟩) hHeld ?_
          simp only [Act.put, List.setIfInBounds_toArray, List.set_cons_zero, List.set_cons_succ, List.getElem_cons_zero, List.getElem_cons_succ, List.getElem_toArray]
          refine wpAnyH_take (i := 3) (v := .map (some mb)) rfl (by kernel_rfl) (by kernel_rfl) (by kernel_rfl) (fun _ _ _ h => h) (Or.inl ⟨by rfl, fun w' hSw => by (have y := hSw.c 8 _ rfl; have yl := hSw.lt; go_simp)⟩) hHeld ?_
          simp only [Act.put, List.setIfInBounds_toArray, List.set_cons_zero, List.set_cons_succ, List.getElem_cons_zero, List.getElem_cons_succ, List.getElem_toArray]
          refine wpAnyH_take (i := 4) (v := .pointer (some ⟨rb, 0, none⟩)) rfl (by kernel_rfl) (by kernel_rfl) (by kernel_rfl) (fun _ _ _ h => h) (Or.inl ⟨by rfl, fun w' hSw => by (go_simp)⟩) hHeld ?_
          simp only [Act.put, List.setIfInBounds_toArray, List.set_cons_zero, List.set_cons_succ, List.getElem_cons_zero, List.getElem_cons_succ, List.getElem_toArray]
          refine wpAnyH_take (i := 5) (v := .int .i64 (c : Int)) rfl (by kernel_rfl) (by kernel_rfl) (by kernel_rfl) (fun _ _ _ h => h) (Or.inl ⟨by rfl, fun w' hSw => by (go_simp)⟩) hHeld ?_
          simp only [Act.put, List.setIfInBounds_toArray, List.set_cons_zero, List.set_cons_succ, List.getElem_cons_zero, List.getElem_cons_succ, List.getElem_toArray]
          refine wpAnyH_take (i := 6) (v := .pointer (some ⟨rb, 0, none⟩)) rfl (by kernel_rfl) (by kernel_rfl) (by kernel_rfl) (fun _ _ _ h => h) (Or.inl ⟨by rfl, fun w' hSw => by (go_simp)⟩) hHeld ?_
          simp only [Act.put, List.setIfInBounds_toArray, List.set_cons_zero, List.set_cons_succ, List.getElem_cons_zero, List.getElem_cons_succ, List.getElem_toArray]
          refine wpAnyH_take (i := 7) (v := .pointer (some ⟨rb, 0, none⟩)) rfl (by kernel_rfl) (by kernel_rfl) (by kernel_rfl) (fun _ _ _ h => h) (Or.inl ⟨by rfl, fun w' hSw => by (go_simp)⟩) hHeld ?_
          simp only [Act.put, List.setIfInBounds_toArray, List.set_cons_zero, List.set_cons_succ, List.getElem_cons_zero, List.getElem_cons_succ, List.getElem_toArray]
          refine wpAnyH_take (i := 8) (v := .pointer (some ⟨rb, 9, none⟩)) rfl (by kernel_rfl) (by kernel_rfl) (by kernel_rfl) (fun _ _ _ h => h) (Or.inl ⟨by rfl, fun w' hSw => by (go_simp)⟩) hHeld ?_
          simp only [Act.put, List.setIfInBounds_toArray, List.set_cons_zero, List.set_cons_succ, List.getElem_cons_zero, List.getElem_cons_succ, List.getElem_toArray]
          refine wpAnyH_take (i := 9) (v := .func (.func 37) #[.agg #[]] #[]) rfl (by kernel_rfl) (by kernel_rfl) (by kernel_rfl) (fun _ _ _ h => h) (Or.inl ⟨by rfl, fun w' hSw => by (have y := hSw.c 9 _ rfl; have yl := hSw.lt; go_simp)⟩) hHeld ?_
          simp only [Act.put, List.setIfInBounds_toArray, List.set_cons_zero, List.set_cons_succ, List.getElem_cons_zero, List.getElem_cons_succ, List.getElem_toArray]
          refine wpAnyH_take (i := 10) (v := .int .i64 cyc) rfl (by kernel_rfl) (by kernel_rfl) (by kernel_rfl) (fun _ _ _ h => h) (Or.inl ⟨by rfl, fun w' hSw => by (go_simp)⟩) hHeld ?_
          simp only [Act.put, List.setIfInBounds_toArray, List.set_cons_zero, List.set_cons_succ, List.getElem_cons_zero, List.getElem_cons_succ, List.getElem_toArray]
          refine wpAnyH_take (i := 12) (v := .int .i64 (k : Int)) rfl (by kernel_rfl) (by kernel_rfl) (by kernel_rfl) (fun _ _ _ h => h) (Or.inl ⟨by rfl, fun w' hSw => by (go_simp)⟩) hHeld ?_
          simp only [Act.put, List.setIfInBounds_toArray, List.set_cons_zero, List.set_cons_succ, List.getElem_cons_zero, List.getElem_cons_succ, List.getElem_toArray]
          refine wpAnyH_ready (rs := [11]) (by kernel_rfl) (by simp) ?_
          refine AllReadyH.cons rfl (fun K hK => ?_) AllReadyH.nil
          go_simp
          refine Calls.mono (HT.out _) ?_
          rintro e w2 ⟨rfl, b2⟩
          have HS2 : Hid (RAt w2 rb t (none) mb (n + k) (addK (none) f c first k) ∧ Fr (One mb) w w2) := ⟨HQ.out.1.up ((drew_up _).trans b2), HQ.out.2.then ((drew_up _).trans b2)⟩
          clear b2
          refine hK.out _ _ HS2.out.1.at' (fun hHeld => ?_)
          clear hK K
          refine wpAnyH_ready (rs := [13]) (by kernel_rfl) (by simp) ?_
          refine AllReadyH.cons rfl (fun K hK => ?_) AllReadyH.nil
          go_simp
          refine Calls.mono (HKx.out _ HS2.out.1) ?_
          rintro e w3 ⟨rfl, b3⟩
          have HS3 : Hid (RAt w3 rb t (none) mb (n + k) (addK (none) f c first k) ∧ Fr (One mb) w w3) := ⟨HS2.out.1.up b3, HS2.out.2.then b3⟩
          clear b3
          refine hK.out _ _ HS3.out.1.at' (fun hHeld => ?_)
          clear hK K
          have hlk := HS3.out.1.cm.look HCl.out HZ.out
          have hgv := HFw.out (c : Int) z
          obtain ⟨v0, st, w4, hme, f4, hlk4, hes⟩ := HS3.out.1.cm.entry (by unfold maxLen; omega) HCl.out HZ.out (by unfold I64; omega)
          obtain ⟨w5, hes5, f5, m5⟩ := hes (addK (none) f c first k (c : Int) z + 1) (by unfold I64; omega)
          have HS5 : Hid (RAt w5 rb t (none) mb (n + (k + 1)) (addK (none) f c first (k + 1)) ∧ Fr (One mb) w w5) := ⟨⟨⟨fun j v e => by rw [f5.cell HS3.out.1.at'.lt HS3.out.1.ne]; exact HS3.out.1.at'.c j v e, fun j => by rw [f5.frozen HS3.out.1.at'.lt HS3.out.1.ne]; exact HS3.out.1.at'.f j, Nat.lt_of_lt_of_le HS3.out.1.at'.lt f5.size⟩, by rw [← HNx.out]; exact m5, HS3.out.1.ne⟩, HS3.out.2.same f5⟩
          have HS4 : Hid (At w4 rb #[.int .i64 (t.u 0), .int .i64 (t.u 1), .int .i64 (t.u 2), .int .i64 (t.u 3), .int .i64 (t.b 0), .int .i64 (t.b 1), .int .i64 (t.b 2), .int .i64 (t.b 3), .map (some mb), .func (.func 37) #[.agg #[]] #[]]) := ⟨fun j v e => by rw [f4.cell HS3.out.1.at'.lt HS3.out.1.ne]; exact HS3.out.1.at'.c j v e, fun j => by rw [f4.frozen HS3.out.1.at'.lt HS3.out.1.ne]; exact HS3.out.1.at'.f j, Nat.lt_of_lt_of_le HS3.out.1.at'.lt f4.size⟩
          clear m5 f5 f4 hes HS2
          obtain ⟨gv, hgv2⟩ : ∃ gv, addK (none) f c first k (c : Int) z = gv := ⟨_, rfl⟩
          rw [hgv2] at hlk hlk4 hes5 hgv
          clear hgv2
          have hwr : IntKind.i64.wrap (gv + 1) = gv + 1 := by rw [IntKind.wrap_i64]; omega
          refine wpAnyH_ready (rs := [14, 16]) (by kernel_rfl) (by simp) ?_
          refine AllReadyH.cons rfl (fun K hK => ?_) (AllReadyH.cons rfl (fun K hK => ?_) AllReadyH.nil)
          · go_simp
            refine hK.out _ _ HS3.out.1.at' (fun hHeld => ?_)
            clear hK K
            refine wpAnyH_take (i := 15) (v := .int .i64 (gv + 1)) rfl (by kernel_rfl) (by kernel_rfl) (by kernel_rfl) (fun _ _ _ h => h) (Or.inl ⟨by rfl, fun w' hSw => by (go_simp)⟩) hHeld ?_
            simp only [Act.put, List.setIfInBounds_toArray, List.set_cons_zero, List.set_cons_succ, List.getElem_cons_zero, List.getElem_cons_succ, List.getElem_toArray]
            refine wpAnyH_ready (rs := [16]) (by kernel_rfl) (by simp) ?_
            refine AllReadyH.cons rfl (fun K hK => ?_) AllReadyH.nil
            go_simp
            refine hK.out _ _ HS4.out (fun hHeld => ?_)
            clear hK K
            refine wpAnyH_take (i := 17) (v := .int .i64 st) rfl (by kernel_rfl) (by kernel_rfl) (by kernel_rfl) (fun _ _ _ h => h) (Or.inl ⟨by rfl, fun w' hSw => by (go_simp)⟩) hHeld ?_
            simp only [Act.put, List.setIfInBounds_toArray, List.set_cons_zero, List.set_cons_succ, List.getElem_cons_zero, List.getElem_cons_succ, List.getElem_toArray]
            refine wpAnyH_ready (rs := [18]) (by kernel_rfl) (by simp) ?_
            refine AllReadyH.cons rfl (fun K hK => ?_) AllReadyH.nil
            go_simp
            refine hK.out _ _ HS5.out.1.at' (fun hHeld => ?_)
            clear hK K
            refine wpAnyH_done (by kernel_rfl) ?_ _
            clear hlk hlk4 hme hes5 HS3 HS4
            go_wp2
            go_roundw
            case rel => exact ⟨k + 1, by omega, by go_num, HS5.out.1, HS5.out.2⟩
            case measure => simp [intOf]; omega
          · go_simp
            refine hK.out _ _ HS4.out (fun hHeld => ?_)
            clear hK K
            refine wpAnyH_take (i := 17) (v := .int .i64 st) rfl (by kernel_rfl) (by kernel_rfl) (by kernel_rfl) (fun _ _ _ h => h) (Or.inl ⟨by rfl, fun w' hSw => by (go_simp)⟩) hHeld ?_
            simp only [Act.put, List.setIfInBounds_toArray, List.set_cons_zero, List.set_cons_succ, List.getElem_cons_zero, List.getElem_cons_succ, List.getElem_toArray]
            refine wpAnyH_ready (rs := [14]) (by kernel_rfl) (by simp) ?_
            refine AllReadyH.cons rfl (fun K hK => ?_) AllReadyH.nil
            go_simp
            refine hK.out _ _ HS4.out (fun hHeld => ?_)
            clear hK K
            refine wpAnyH_take (i := 15) (v := .int .i64 (gv + 1)) rfl (by kernel_rfl) (by kernel_rfl) (by kernel_rfl) (fun _ _ _ h => h) (Or.inl ⟨by rfl, fun w' hSw => by (go_simp)⟩) hHeld ?_
            simp only [Act.put, List.setIfInBounds_toArray, List.set_cons_zero, List.set_cons_succ, List.getElem_cons_zero, List.getElem_cons_succ, List.getElem_toArray]
            refine wpAnyH_ready (rs := [18]) (by kernel_rfl) (by simp) ?_
            refine AllReadyH.cons rfl (fun K hK => ?_) AllReadyH.nil
            go_simp
            refine hK.out _ _ HS5.out.1.at' (fun hHeld => ?_)
            clear hK K
            refine wpAnyH_done (by kernel_rfl) ?_ _
            clear hlk hlk4 hme hes5 HS3 HS4
            go_wp2
            go_roundw
            case rel => exact ⟨k + 1, by omega, by go_num, HS5.out.1, HS5.out.2⟩
            case measure => simp [intOf]; omega
        · obtain rfl : k = B := by omega
          have k0 : ¬ (k : Int) < (k : Int) := by omega
          go_wp2
          go_ret
          exact ⟨rfl, n + k, HQ.out.1, by omega, HQ.out.2⟩
    | some _ => exact hv.elim
end Go.Proofs.YtnckkhamkkaljaaDoor.Rv

namespace Go.Proofs.YtnckkhamkkaljaaDoor.Rv
open Go.ChangeShapes Go.WideShapes Go.ChangeAt Go.RowKit Go.Maps
open _root_.Go.Proofs.YtnckkhamkkaljaaDoor.Op _root_.Go.Proofs.YtnckkhamkkaljaaDoor.So
open _root_.Go.Proofs.YtnckkhamkkaljaaDoor.Tb (Tab TabAt Bnds)
set_option maxRecDepth 20000

set_option maxHeartbeats 2000000 in
theorem nothing_any (t : Tab) (w : World) : Calls Tryd.prog 36 #[t.val, fv none] w fun e w' => e = .returned (.pointer (some ⟨w.heap.size + 2, 0, none⟩)) ∧ RAt w' (w.heap.size + 2) t none (w.heap.size + 1) 0 (fun _ _ => 0) ∧ Below w.heap.size w w' := by
  have HR : Hid (RAt (((w.alloc (.cells t.cells 25)).alloc (.map #[] 0)).alloc (.cells #[.int .i64 (t.u 0), .int .i64 (t.u 1), .int .i64 (t.u 2), .int .i64 (t.u 3), .int .i64 (t.b 0), .int .i64 (t.b 1), .int .i64 (t.b 2), .int .i64 (t.b 3), .map (some (w.heap.size + 1)), .func (.func 37) #[.agg #[]] #[]] 77)) (w.heap.size + 2) t (none) (w.heap.size + 1) 0 (fun _ _ => 0) ∧ Below w.heap.size w (((w.alloc (.cells t.cells 25)).alloc (.map #[] 0)).alloc (.cells #[.int .i64 (t.u 0), .int .i64 (t.u 1), .int .i64 (t.u 2), .int .i64 (t.u 3), .int .i64 (t.b 0), .int .i64 (t.b 1), .int .i64 (t.b 2), .int .i64 (t.b 3), .map (some (w.heap.size + 1)), .func (.func 37) #[.agg #[]] #[]] 77))) := by
    have e1 : (w.alloc (.cells t.cells 25)).heap.size = w.heap.size + 1 := by simp
    have e2 : ((w.alloc (.cells t.cells 25)).alloc (.map #[] 0)).heap.size = w.heap.size + 2 := by simp
    refine ⟨⟨?_, ?_, by omega⟩, by go_grown⟩
    · have := At.new ((w.alloc (.cells t.cells 25)).alloc (.map #[] 0)) #[.int .i64 (t.u 0), .int .i64 (t.u 1), .int .i64 (t.u 2), .int .i64 (t.u 3), .int .i64 (t.b 0), .int .i64 (t.b 1), .int .i64 (t.b 2), .int .i64 (t.b 3), .map (some (w.heap.size + 1)), .func (.func 37) #[.agg #[]] #[]] 77
      rw [e2] at this
      exact this
    · have := (Cm.made (w.alloc (.cells t.cells 25))).below (w' := (((w.alloc (.cells t.cells 25)).alloc (.map #[] 0)).alloc (.cells #[.int .i64 (t.u 0), .int .i64 (t.u 1), .int .i64 (t.u 2), .int .i64 (t.u 3), .int .i64 (t.b 0), .int .i64 (t.b 1), .int .i64 (t.b 2), .int .i64 (t.b 3), .map (some (w.heap.size + 1)), .func (.func 37) #[.agg #[]] #[]] 77))) ((Below.refl _ _).alloc (Nat.le_refl _) _) (by simp)
      rw [e1] at this
      exact this
  have hmm := @run_makeMap Tryd.prog
  show Calls Tryd.prog 36 #[t.val, .func (.func 37) #[.agg #[]] #[]] w _
  unfold Tab.val Tab.cells at *
  go_enter Tryd.func36, Tryd.ntmps36
  go_wp2
  go_ret
  exact ⟨rfl, HR.out⟩
/-- What New and Ring hand back: a table of reservations in blocks of its own. -/
def NwOut (w : World) (t : Tab) (ev : Option Int) (e : Ending) (w' : World) : Prop := ∃ rb mb, e = .returned (.tuple #[.pointer (some ⟨rb, 0, none⟩), .int .i64 0]) ∧ RAt w' rb t ev mb 0 (fun _ _ => 0) ∧ (w.heap.size ≤ rb ∧ w.heap.size ≤ mb) ∧ Below w.heap.size w w'
theorem new_ok (t : Tab) (w : World) (hG : Bnds w) (hk : Tb.ckR t = 0) : Calls Tryd.prog 16 #[t.val] w (NwOut w t none) := by
  have HC : Hid (∀ W, Below w.heap.size w W → Calls Tryd.prog 35 #[t.val] W fun e w' => e = .returned (.int .i64 0) ∧ Below W.heap.size W w') := fun W hb => by rw [← hk]; exact Tb.check_any t W (hG.below hb hG.big)
  have HN : Hid (∀ W, Calls Tryd.prog 36 #[t.val, .func (.func 37) #[.agg #[]] #[]] W fun e w' => e = .returned (.pointer (some ⟨W.heap.size + 2, 0, none⟩)) ∧ RAt w' (W.heap.size + 2) t none (W.heap.size + 1) 0 (fun _ _ => 0) ∧ Below W.heap.size W w') := fun W => nothing_any t W
  clear hG hk
  unfold Tab.val at *
  go_enter Tryd.func16, Tryd.ntmps16
  go_wp2_with (first
    | (go_at_call 35; refine Calls.mono (HC.out _ (by go_grown)) ?_; rintro e w1 ⟨rfl, b1⟩; have HT : Hid (TabAt w1 w.heap.size t ∧ Below w.heap.size w w1) := ⟨(Tb.tabAt_new w t 25).below b1 (by simp), Below.trans (by go_grown) (b1.mono (by simp))⟩; clear b1 HC; have k2 := HT.out.1; have qu0 := k2.cu 0 (by decide); have qu1 := k2.cu 1 (by decide); have qu2 := k2.cu 2 (by decide); have qu3 := k2.cu 3 (by decide); have ql0 := k2.cl 0 (by decide); have ql1 := k2.cl 1 (by decide); have ql2 := k2.cl 2 (by decide); have ql3 := k2.cl 3 (by decide); have qb0 := k2.cb 0 (by decide); have qb1 := k2.cb 1 (by decide); have qb2 := k2.cb 2 (by decide); have qb3 := k2.cb 3 (by decide); have qd := k2.cd; have qz := k2.lt; clear k2)
    | (go_at_call 36; refine Calls.mono (HN.out _) ?_; rintro e w2 ⟨rfl, r2, b2⟩; have HR : Hid (RAt w2 (w1.heap.size + 2) t none (w1.heap.size + 1) 0 (fun _ _ => 0) ∧ Below w.heap.size w w2 ∧ w.heap.size ≤ w1.heap.size) := ⟨r2, HT.out.2.trans (b2.mono HT.out.2.size), HT.out.2.size⟩; clear r2 b2 HN))
  go_ret2
  exact ⟨_, _, rfl, HR.out.1, by have := HR.out.2.2; omega, HR.out.2.1⟩
theorem new_no (t : Tab) (w : World) (hG : Bnds w) (hk : ¬ Tb.ckR t = 0) : Calls Tryd.prog 16 #[t.val] w fun e w' => e = .returned (.tuple #[.pointer none, .int .i64 (Tb.ckR t)]) ∧ Below w.heap.size w w' := by
  have HC : Hid (∀ W, Below w.heap.size w W → Calls Tryd.prog 35 #[t.val] W fun e w' => e = .returned (.int .i64 (Tb.ckR t)) ∧ Below W.heap.size W w') := fun W hb => Tb.check_any t W (hG.below hb hG.big)
  clear hG
  have hkb : (Tb.ckR t != 0) = true := by simpa using hk
  generalize Tb.ckR t = er at *
  unfold Tab.val at *
  go_enter Tryd.func16, Tryd.ntmps16
  go_wp2_with (first
    | (go_at_call 35; refine Calls.mono (HC.out _ (by go_grown)) ?_; rintro e w1 ⟨rfl, b1⟩; have HT : Hid (TabAt w1 w.heap.size t ∧ Below w.heap.size w w1) := ⟨(Tb.tabAt_new w t 25).below b1 (by simp), Below.trans (by go_grown) (b1.mono (by simp))⟩; clear b1 HC; have k2 := HT.out.1; have qu0 := k2.cu 0 (by decide); have qu1 := k2.cu 1 (by decide); have qu2 := k2.cu 2 (by decide); have qu3 := k2.cu 3 (by decide); have ql0 := k2.cl 0 (by decide); have ql1 := k2.cl 1 (by decide); have ql2 := k2.cl 2 (by decide); have ql3 := k2.cl 3 (by decide); have qb0 := k2.cb 0 (by decide); have qb1 := k2.cb 1 (by decide); have qb2 := k2.cb 2 (by decide); have qb3 := k2.cb 3 (by decide); have qd := k2.cd; have qz := k2.lt; clear k2))
  go_ret2
  exact ⟨rfl, HT.out.2⟩
end Go.Proofs.YtnckkhamkkaljaaDoor.Rv
