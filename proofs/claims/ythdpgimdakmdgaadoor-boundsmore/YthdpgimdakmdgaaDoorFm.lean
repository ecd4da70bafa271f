/- What comes in: a table with numbers of 64 bits, an operation, a list that is nil or lies somewhere. Conditions: none. -/
import Derived.Test.YthdpgimdakmdgaaDoorFr
namespace Go.Proofs.YthdpgimdakmdgaaDoor.Op
open Go.ChangeShapes Go.WideShapes Go.ChangeAt Go.RowKit
open _root_.Go.Proofs.YthdpgimdakmdgaaDoor.Tb (Tab)

def In6 (n : Int) : Prop := -9223372036854775808 ≤ n ∧ n ≤ 9223372036854775807
theorem trod_ints4R {H : Type} {enc : TypeId × Value → H} {W : World} {base fuel : Nat} {sp : Nat → Bool} {held : Bool} {c0 c1 c2 c3 : Value} {y : DataW H × List MemPlace} (h : DataW.trod enc Tryd.prog W base sp held fuel 23 [c0, c1, c2, c3] = some y) :
    ∃ a b c d : Int, c0 = .int .i64 a ∧ c1 = .int .i64 b ∧ c2 = .int .i64 c ∧ c3 = .int .i64 d ∧ y.2 = [] ∧ (In6 a ∧ In6 b ∧ In6 c ∧ In6 d) := by
  obtain ⟨xs, m, _, hx, _, hn, he⟩ := DataW.trod_array Tryd.underlying23 h
  have k3 : Tryd.prog.cellsOf 3 = 1 := by kernel_rfl
  rw [k3] at he
  have h0 := he 0 (by omega)
  have h1 := he 1 (by omega)
  have h2 := he 2 (by omega)
  have h3 := he 3 (by omega)
  match xs, hn with
  | [x0, x1, x2, x3], _ =>
    obtain ⟨a, a1, a2, a3⟩ := DataW.trod_int Tryd.underlying3 h0
    obtain ⟨b, b1, b2, b3⟩ := DataW.trod_int Tryd.underlying3 h1
    obtain ⟨c, c1', c2', c3'⟩ := DataW.trod_int Tryd.underlying3 h2
    obtain ⟨d, d1, d2, d3⟩ := DataW.trod_int Tryd.underlying3 h3
    simp at a1 b1 c1' d1
    refine ⟨a, b, c, d, a1, b1, c1', d1, ?_, wf64 a3, wf64 b3, wf64 c3', wf64 d3⟩
    rw [hx]; simp [a2, b2, c2', d2]
set_option maxRecDepth 100000 in
theorem open_tabR {H : Type} {enc : TypeId × Value → H} {W : World} {r : Reach} {b0 base : Nat} {sp : Nat → Bool} {held : Bool} {v : Value} {d : DataW H} {p : List MemPlace} (hv : Value.okWide Tryd.prog W r b0 25 v) (h : DataW.Trod enc Tryd.prog W base sp held 25 v d p) : (∃ t : Tab, v = t.val ∧ ∀ k, k < 4 → -9223372036854775808 ≤ t.u k ∧ t.u k ≤ 9223372036854775807) ∧ p = [] := by
  obtain ⟨cs, rfl, hsz⟩ := okWide_struct Tryd.underlying25 hv
  have k27 : Tryd.prog.cellsOf 25 = 13 := by kernel_rfl
  have k25 : Tryd.prog.cellsOf 23 = 4 := by kernel_rfl
  have k3 : Tryd.prog.cellsOf 3 = 1 := by kernel_rfl
  rw [k27] at hsz
  obtain ⟨l⟩ := cs
  clear hv
  match l, hsz with
  | [c0, c1, c2, c3, c4, c5, c6, c7, c8, c9, c10, c11, c12], _ =>
    obtain ⟨fuel, hf⟩ := h
    obtain ⟨y0, y1, y2, y3, n, hx, _, h0, h1, h2, h3⟩ := Joins.trod_struct4 Tryd.underlying25 hf
    rw [k25] at h0 h1 h2
    rw [k3] at h3
    obtain ⟨a0, a1, a2, a3, rfl, rfl, rfl, rfl, e0, r0, r1, r2, r3⟩ := trod_ints4R h0
    obtain ⟨l0, l1, l2, l3, rfl, rfl, rfl, rfl, e1⟩ := trod_ints4 h1
    obtain ⟨b0, b1, b2, b3, rfl, rfl, rfl, rfl, e2⟩ := trod_ints4 h2
    obtain ⟨dd, f1, f2, _⟩ := DataW.trod_int Tryd.underlying3 h3
    have f1' : [c12] = [Value.int .i64 dd] := f1
    obtain rfl : c12 = .int .i64 dd := by simpa using f1'
    refine ⟨⟨⟨ofFour a0 a1 a2 a3, ofFour l0 l1 l2 l3, ofFour b0 b1 b2 b3, dd⟩, rfl, Tb.four r0 r1 r2 r3⟩, ?_⟩
    simp [e0, e1, e2, f2] at hx
    exact hx.2
set_option maxRecDepth 100000 in
theorem open_op {H : Type} {enc : TypeId × Value → H} {W : World} {r : Reach} {b0 base : Nat} {sp : Nat → Bool} {held : Bool} {v : Value} {d : DataW H} {p : List MemPlace} (hv : Value.okWide Tryd.prog W r b0 33 v) (h : DataW.Trod enc Tryd.prog W base sp held 33 v d p) : (∃ o : O, v = o.val ∧ o.Ok) ∧ p = [] := by
  obtain ⟨cs, rfl, hsz⟩ := okWide_struct Tryd.underlying33 hv
  have k33 : Tryd.prog.cellsOf 33 = 5 := by kernel_rfl
  have k31 : Tryd.prog.cellsOf 31 = 1 := by kernel_rfl
  have k5 : Tryd.prog.cellsOf 5 = 1 := by kernel_rfl
  have k2 : Tryd.prog.cellsOf 2 = 1 := by kernel_rfl
  rw [k33] at hsz
  obtain ⟨l⟩ := cs
  clear hv
  match l, hsz with
  | [c0, c1, c2, c3, c4], _ =>
    obtain ⟨fuel, hf⟩ := h
    obtain ⟨y0, y1, y2, y3, y4, n, hx, _, h0, h1, h2, h3, h4⟩ := trod_struct5 Tryd.underlying33 hf
    rw [k31] at h0
    rw [k5] at h1 h2 h3
    rw [k2] at h4
    obtain ⟨a, a1, a2, a3⟩ := DataW.trod_int Tryd.underlying31 h0
    obtain ⟨b, b1, b2, b3⟩ := DataW.trod_int Tryd.underlying5 h1
    obtain ⟨c, c1', c2', c3'⟩ := DataW.trod_int Tryd.underlying5 h2
    obtain ⟨e, e1, e2, e3⟩ := DataW.trod_int Tryd.underlying5 h3
    obtain ⟨g, g1, g2, g3⟩ := DataW.trod_int Tryd.underlying2 h4
    have a1' : [c0] = [Value.int .i8 a] := a1
    have b1' : [c1] = [Value.int .u8 b] := b1
    have c1'' : [c2] = [Value.int .u8 c] := c1'
    have e1' : [c3] = [Value.int .u8 e] := e1
    have g1' : [c4] = [Value.int .i64 g] := g1
    obtain rfl : c0 = .int .i8 a := by simpa using a1'
    obtain rfl : c1 = .int .u8 b := by simpa using b1'
    obtain rfl : c2 = .int .u8 c := by simpa using c1''
    obtain rfl : c3 = .int .u8 e := by simpa using e1'
    obtain rfl : c4 = .int .i64 g := by simpa using g1'
    have w0 := wf8 a3
    have w1 := wfu8 b3
    have w2 := wfu8 c3'
    have w3 := wfu8 e3
    have w4 := wf64 g3
    refine ⟨⟨⟨a, b, c, e, g⟩, rfl, ⟨w0.1, w0.2, w1.1, w1.2, w2.1, w2.2, w3.1, w3.2, w4.1, w4.2⟩⟩, ?_⟩
    simp [a2, b2, c2', e2, g2] at hx
    exact hx.2
set_option maxRecDepth 20000 in
theorem open_opsN {H : Type} {enc : TypeId × Value → H} {W : World} {r : Reach} {b0 : Nat} {held : Bool} {v : Value} {d : DataW H} {p : List MemPlace} (hv : Value.okWide Tryd.prog W r b0 22 v) (h : DataW.Trod enc Tryd.prog W 0 (fun _ => true) held 22 v d p) (hw : ∀ n, n ∈ d.weights Tryd.prog 22 → n ≤ reachBytes) :
    ∃ (ao : Option Addr) (cap : Nat) (xs : List O), v = .slice ao xs.length cap ∧ OpsAt W ao xs ∧ xs.length ≤ cap ∧ (ao = none → cap = 0) := by
  obtain ⟨ao, cap, xs, rfl, h1, h2⟩ := open_ops hv h hw
  refine ⟨ao, cap, xs, rfl, h1, h2, fun e => ?_⟩
  subst e
  obtain ⟨fuel, hf⟩ := h
  have hf' : DataW.trod enc Tryd.prog W 0 (fun _ => true) held fuel 22 [.slice none xs.length cap] = some (d, p) := hf
  rcases Deep.open_slice Tryd.underlying22 hf' with ⟨e, _⟩ | ⟨a, len, cap', m, n, D, Pl, e, _⟩
  · simp at e; exact e.2
  · simp at e
end Go.Proofs.YthdpgimdakmdgaaDoor.Op
