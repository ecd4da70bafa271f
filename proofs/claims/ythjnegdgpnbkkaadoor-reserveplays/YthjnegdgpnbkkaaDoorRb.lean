/- What the parts of package reserve answer (isNone, kept, times), read off the program by the walk. Conditions: a table of reservations lies in memory. -/
import Derived.Test.YthjnegdgpnbkkaaDoorRa
namespace Go.Proofs.YthjnegdgpnbkkaaDoor.Rv
open Go.ChangeShapes Go.WideShapes Go.ChangeAt Go.RowKit Go.Maps
open _root_.Go.Proofs.YthjnegdgpnbkkaaDoor.Op _root_.Go.Proofs.YthjnegdgpnbkkaaDoor.So
open _root_.Go.Proofs.YthjnegdgpnbkkaaDoor.Tb (Tab TabAt Bnds)
set_option maxRecDepth 20000

theorem isNone_nil (w : World) : Calls Tryd.prog 24 #[.pointer none] w fun e w' => e = .returned (.bool true) ∧ Below w.heap.size w w' := by
  go_enter Tryd.func24, Tryd.ntmps24
  go_wp2
  go_ret
  exact ⟨rfl, by go_grown⟩
theorem eq20 (W : World) : (binOp BinOp.eql 45 (Value.func (Fn.func 20) #[Value.agg #[]] #[]) Value.nilFunc).run Tryd.prog W = .ok (.bool false) W := by kernel_rfl
theorem eq22 (q : Int) (W : World) : (binOp BinOp.eql 45 (Value.func (Fn.func 22) #[Value.agg #[.int .i64 q]] #[]) Value.nilFunc).run Tryd.prog W = .ok (.bool false) W := by kernel_rfl
theorem isNone_no {rb mb n : Nat} {t : Tab} {ev : Option Int} {f : Int → Int → Int} (w : World) (h : RAt w rb t ev mb n f) : Calls Tryd.prog 24 #[.pointer (some ⟨rb, 0, none⟩)] w fun e w' => e = .returned (.bool false) ∧ Below w.heap.size w w' := by
  have hf := h.fn
  have hl := h.at'.lt
  clear h
  cases ev with
  | none =>
    have hg : w.cell? ⟨rb, 9, none⟩ = some (.func (.func 20) #[.agg #[]] #[]) := hf
    have he := eq20 w
    clear hf
    go_enter Tryd.func24, Tryd.ntmps24
    go_wp2
    go_ret
    exact ⟨rfl, by go_grown⟩
  | some q =>
    have hg : w.cell? ⟨rb, 9, none⟩ = some (.func (.func 22) #[.agg #[.int .i64 q]] #[]) := hf
    have he := eq22 q w
    clear hf
    go_enter Tryd.func24, Tryd.ntmps24
    go_wp2
    go_ret
    exact ⟨rfl, by go_grown⟩
theorem kept_any {rb mb n : Nat} {t : Tab} {ev : Option Int} {f : Int → Int → Int} (cl first k : Int) (w : World) (h : RAt w rb t ev mb n f) (hv : evOk ev) (hs : IntKind.i64.wrap (first + k) = first + k) :
    Calls Tryd.prog 23 #[.pointer (some ⟨rb, 0, none⟩), .int .i64 cl, .int .i64 first, .int .i64 k] w fun e w' => e = .returned (.agg #[.int .i64 cl, .int .i64 (tn ev (first + k))]) ∧ Below w.heap.size w w' := by
  have hf := h.fn
  have hl := h.at'.lt
  clear h
  cases ev with
  | none =>
    have hg : w.cell? ⟨rb, 9, none⟩ = some (.func (.func 20) #[.agg #[]] #[]) := hf
    have HT : Hid (∀ W, Calls Tryd.prog 20 #[.agg #[], .int .i64 (first + k)] W fun e w' => e = .returned (.int .i64 (first + k)) ∧ Below W.heap.size W w') := fun W => row_any _ W
    clear hf hv
    go_enter Tryd.func23, Tryd.ntmps23
    go_wp2_with (first | (go_at_call 20; refine Calls.mono (HT.out _) ?_; rintro e w1 ⟨rfl, b1⟩; have hx := (At.new w #[.int .i64 0, .int .i64 0] 57).below b1 (by simp); have x0 := hx.c 0 _ rfl; have x1 := hx.c 1 _ rfl; have z0 := hx.f 0; have z1 := hx.f 1; have xl := hx.lt; have HB : Hid (Below w.heap.size w w1) := ((Below.refl _ _).alloc (Nat.le_refl _) _).trans (b1.mono (by simp)); clear hx b1 HT))
    refine bodyPost_ret (by simp [results, Tryd.results23, go_sem, x0, x1]; try rfl) rfl ?_
    exact ⟨rfl, (((Fr.of (X := Non) HB.out).setCell (.inl (Nat.le_refl _)) 0 _).setCell (.inl (Nat.le_refl _)) 1 _).non⟩
  | some q =>
    have hg : w.cell? ⟨rb, 9, none⟩ = some (.func (.func 22) #[.agg #[.int .i64 q]] #[]) := hf
    have HT : Hid (∀ W, Calls Tryd.prog 22 #[.agg #[.int .i64 q], .int .i64 (first + k)] W fun e w' => e = .returned (.int .i64 ((first + k) % q)) ∧ Below W.heap.size W w') := fun W => ring_any _ _ W hv.1 hv.2
    clear hf hv
    go_enter Tryd.func23, Tryd.ntmps23
    go_wp2_with (first | (go_at_call 22; refine Calls.mono (HT.out _) ?_; rintro e w1 ⟨rfl, b1⟩; have hx := (At.new w #[.int .i64 0, .int .i64 0] 57).below b1 (by simp); have x0 := hx.c 0 _ rfl; have x1 := hx.c 1 _ rfl; have z0 := hx.f 0; have z1 := hx.f 1; have xl := hx.lt; have HB : Hid (Below w.heap.size w w1) := ((Below.refl _ _).alloc (Nat.le_refl _) _).trans (b1.mono (by simp)); clear hx b1 HT))
    refine bodyPost_ret (by simp [results, Tryd.results23, go_sem, x0, x1]; try rfl) rfl ?_
    exact ⟨rfl, (((Fr.of (X := Non) HB.out).setCell (.inl (Nat.le_refl _)) 0 _).setCell (.inl (Nat.le_refl _)) 1 _).non⟩
end Go.Proofs.YthjnegdgpnbkkaaDoor.Rv
