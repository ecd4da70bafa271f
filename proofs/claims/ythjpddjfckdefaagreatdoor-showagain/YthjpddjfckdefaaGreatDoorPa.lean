/- What package parse's Program answers: the program that a text says, or the fault that comes first; read off the program by the walk. Conditions: the variables lie in memory as the program lays them. -/
import Derived.Test.YthjpddjfckdefaaGreatDoorRe
namespace Go.Proofs.YthjpddjfckdefaaGreatDoor.Pr
open Go.ChangeShapes Go.WideShapes Go.ChangeAt Go.RowKit
open _root_.Go.Proofs.YthjpddjfckdefaaGreatDoor.Op
set_option maxRecDepth 20000

/-- What Program answers of a text: the fault, if there is one; the blocks. -/
def parseF (l : List UInt8) : Option (Int × Wd') × List Bk :=
  if 65536 < l.length then (some (3, 0, []), []) else match readT l with
    | .no f => (some (60, f), [])
    | .ok bs => if ckP bs = 0 then (none, bs) else (some (ckP bs, 0, []), [])
def PsPost (F : Option (Int × Wd') × List Bk) (w : World) (e : Ending) (w' : World) : Prop :=
  match F.1 with
  | none => ∃ a c, e = .returned (.tuple #[.agg #[.slice a F.2.length c], .nilIface]) ∧ PRow w' w.heap.size a c F.2 ∧ Below w.heap.size w w'
  | some f => F.2 = [] ∧ ∃ q, e = .returned (.tuple #[.agg #[.slice none 0 0], .iface 47 (.pointer (some ⟨q, 0, none⟩))]) ∧ FaultAt w' q f.1 f.2 ∧ Below w.heap.size w w'

set_option maxHeartbeats 1000000 in
theorem parse_long (s : ByteArray) (w : World) (hs : 65536 < s.size) (hs2 : s.size ≤ maxLen) : Calls Tryz.prog 8 #[.string s] w (PsPost (parseF s.data.toList) w) := by
  rw [show parseF s.data.toList = (some (3, 0, []), []) by rw [parseF, if_pos (by show 65536 < s.size; exact hs)]]
  unfold maxLen at hs2
  go_enter Tryz.func8, Tryz.ntmps8
  go_wp2
  refine bodyPost_ret (v := .tuple #[.agg #[.slice none 0 0], .iface 47 (.pointer (some ⟨w.heap.size + 1, 0, none⟩))]) (by simp [results, Tryz.results8, go_sem]) rfl ⟨rfl, w.heap.size + 1, rfl, (by have h := heap_alloc_new (w.alloc (.cells #[.slice none 0 0] 24)) (.cells #[.int .i64 3, .int .i64 0, .string ⟨#[]⟩] 49); simpa [FaultAt] using h), by go_grown⟩
set_option maxHeartbeats 1000000 in
theorem parse_no (s : ByteArray) (f : Wd') (w : World) (hs : s.size ≤ 65536) (hV : Vars w) (hr : readT s.data.toList = .no f) : Calls Tryz.prog 8 #[.string s] w (PsPost (some (60, f), []) w) := by
  have h := read_any2 s (w.alloc (.cells #[.slice none 0 0] 24)) hs (hV.up ((Below.refl _ _).alloc (Nat.le_refl _) _))
  rw [hr] at h
  have HR : Hid (Calls Tryz.prog 14 #[.string s] (w.alloc (.cells #[.slice none 0 0] 24)) fun e w' => ∃ q, e = .returned (.tuple #[.agg #[.slice none 0 0], .pointer (some ⟨q, 0, none⟩)]) ∧ FaultAt w' q 60 f ∧ (w.alloc (.cells #[.slice none 0 0] 24)).heap.size ≤ q ∧ Below (w.alloc (.cells #[.slice none 0 0] 24)).heap.size (w.alloc (.cells #[.slice none 0 0] 24)) w') := h
  clear h hr hV
  go_enter Tryz.func8, Tryz.ntmps8
  go_wp2_with (first
    | (go_at_call 14; refine Calls.mono HR.out ?_; rintro e w1 ⟨q, rfl, hf, hq, hb⟩; obtain ⟨a1, hb0, hz⟩ := one_new w _ _ hb; have HX : Hid (FaultAt w1 q 60 f ∧ Below w.heap.size w w1 ∧ At w1 w.heap.size #[.slice none 0 0] ∧ w.heap.size < q) := ⟨hf, hb0, a1, (by simp at hq; omega)⟩; have c0 := a1.c 0 _ rfl; have f0 := a1.f 0; clear hf hb hb0 a1 HR hq))
  have hx := HX.out
  have r0 : ((w1.setCell ⟨w.heap.size,0,none⟩ (.slice none 0 0)).alloc (.cells #[.slice none 0 0] 24)).cell? ⟨w.heap.size,0,none⟩ = some (.slice none 0 0) := ((at_set hx.2.2.1 (j := 0) (by simp) _).alloc _).c 0 _ rfl
  refine bodyPost_ret (v := .tuple #[.agg #[.slice none 0 0], .iface 47 (.pointer (some ⟨q, 0, none⟩))]) (by simp [results, Tryz.results8, go_sem, r0]) rfl ⟨rfl, q, rfl, ?_, (hx.2.1.setCell (by show w.heap.size ≤ w.heap.size; omega) _).alloc (by simpa using hx.2.1.size) _⟩
  have hlt := hx.1.lt
  unfold FaultAt
  rw [((Below.refl _ _).alloc (B := w1.heap.size) (by simp) _).block q hlt, Below.heap_setCell _ _ _ _ (by show q ≠ w.heap.size; omega)]
  exact hx.1
/-- A program that is read, on its way to the checker. -/
structure Py (w V : World) (a : Option Addr) (c nb : Nat) (bs : List Bk) : Prop where
  r : At V w.heap.size #[.slice none 0 0]
  p : At V nb #[.slice a bs.length c]
  pr : PRow V (w.heap.size + 1) a c bs
  b : Below w.heap.size w V
  lt : w.heap.size < nb
set_option maxHeartbeats 1000000 in
theorem parse_ok (s : ByteArray) (bs : List Bk) (w : World) (hs : s.size ≤ 65536) (hV : Vars w) (hr : readT s.data.toList = .ok bs) : Calls Tryz.prog 8 #[.string s] w (PsPost (if ckP bs = 0 then (none, bs) else (some (ckP bs, 0, []), [])) w) := by
  have h := read_any2 s (w.alloc (.cells #[.slice none 0 0] 24)) hs (hV.up ((Below.refl _ _).alloc (Nat.le_refl _) _))
  rw [hr] at h
  have HR : Hid (Calls Tryz.prog 14 #[.string s] (w.alloc (.cells #[.slice none 0 0] 24)) fun e w' => ∃ a c, e = .returned (.tuple #[.agg #[.slice a bs.length c], .pointer none]) ∧ PRow w' (w.alloc (.cells #[.slice none 0 0] 24)).heap.size a c bs ∧ Below (w.alloc (.cells #[.slice none 0 0] 24)).heap.size (w.alloc (.cells #[.slice none 0 0] 24)) w') := h
  have HV : Hid _ := hV
  have HC : Hid (∀ a c W, PAt W a bs → Env W → Calls Tryz.prog 6 #[.agg #[.slice a bs.length c]] W fun e w' => e = .returned (.int .i64 (ckP bs)) ∧ Below W.heap.size W w') := fun a c W hp he => checkP_any a c bs W hp he
  clear h hr hV
  by_cases h0 : ckP bs = 0
  · rw [if_pos h0]
    rw [h0] at HC
    clear h0
    go_enter Tryz.func8, Tryz.ntmps8
    go_wp2_with (first
      | (go_at_call 14; refine Calls.mono HR.out ?_; rintro e w1 ⟨a, c, rfl, hp, hb⟩; obtain ⟨a1, hb0, hz⟩ := one_new w _ _ hb; have HX : Hid (Py w (w1.alloc (.cells #[.slice a bs.length c] 24)) a c w1.heap.size bs) := ⟨a1.alloc _, At.new _ _ _, (hp.le (by simp)).up ((Below.refl _ _).alloc (Nat.le_refl _) _), hb0.alloc hb0.size _, hz⟩; clear hp hb hb0 a1 HR)
      | (go_at_call 6; refine Calls.mono (HC.out a c _ HX.out.pr.pat (HV.out.up HX.out.b).e) ?_; rintro e w2 ⟨rfl, hb⟩; have HY : Hid (Py w w2 a c w1.heap.size bs) := ⟨HX.out.r.below hb HX.out.r.lt, HX.out.p.below hb HX.out.p.lt, HX.out.pr.up hb, HX.out.b.trans (hb.mono HX.out.b.size), HX.out.lt⟩; have p0 := HY.out.p.c 0 _ rfl; have r0 := HY.out.r.c 0 _ rfl; have f0 := HY.out.r.f 0; clear hb HX HC))
    have hy := HY.out
    refine bodyPost_ret (v := .tuple #[.agg #[.slice a bs.length c], .nilIface]) (by simp [results, Tryz.results8, go_sem, r0]) rfl ⟨a, c, rfl, ?_, hy.b.setCell (by show w.heap.size ≤ w.heap.size; omega) _⟩
    exact (hy.pr.set (by omega) _).le (by omega)
  · rw [if_neg h0]
    have h0' : (ckP bs == 0) = false := by simpa using h0
    generalize ckP bs = ck at *
    go_enter Tryz.func8, Tryz.ntmps8
    go_wp2_with (first
      | (go_at_call 14; refine Calls.mono HR.out ?_; rintro e w1 ⟨a, c, rfl, hp, hb⟩; obtain ⟨a1, hb0, hz⟩ := one_new w _ _ hb; have HX : Hid (Py w (w1.alloc (.cells #[.slice a bs.length c] 24)) a c w1.heap.size bs) := ⟨a1.alloc _, At.new _ _ _, (hp.le (by simp)).up ((Below.refl _ _).alloc (Nat.le_refl _) _), hb0.alloc hb0.size _, hz⟩; clear hp hb hb0 a1 HR)
      | (go_at_call 6; refine Calls.mono (HC.out a c _ HX.out.pr.pat (HV.out.up HX.out.b).e) ?_; rintro e w2 ⟨rfl, hb⟩; have HY : Hid (Py w w2 a c w1.heap.size bs) := ⟨HX.out.r.below hb HX.out.r.lt, HX.out.p.below hb HX.out.p.lt, HX.out.pr.up hb, HX.out.b.trans (hb.mono HX.out.b.size), HX.out.lt⟩; have p0 := HY.out.p.c 0 _ rfl; have r0 := HY.out.r.c 0 _ rfl; have f0 := HY.out.r.f 0; have z0 := HY.out.r.lt; clear hb HX HC))
    have hy := HY.out
    have r1 : ((w2.setCell ⟨w.heap.size, 0, none⟩ (.slice none 0 0)).alloc (.cells #[.int .i64 ck, .int .i64 0, .string ⟨#[]⟩] 49)).cell? ⟨w.heap.size, 0, none⟩ = some (.slice none 0 0) := ((at_set hy.r (j := 0) (by simp) _).alloc _).c 0 _ rfl
    refine bodyPost_ret (v := .tuple #[.agg #[.slice none 0 0], .iface 47 (.pointer (some ⟨w2.heap.size, 0, none⟩))]) (by simp [results, Tryz.results8, go_sem, r1]) rfl ⟨rfl, w2.heap.size, rfl, ?_, ?_⟩
    · have h := heap_alloc_new (w2.setCell ⟨w.heap.size, 0, none⟩ (.slice none 0 0)) (.cells #[.int .i64 ck, .int .i64 0, .string ⟨#[]⟩] 49)
      rw [World.size_setCell] at h
      simpa [FaultAt] using h
    · exact (hy.b.setCell (by show w.heap.size ≤ w.heap.size; omega) _).alloc (by simpa using hy.b.size) _
theorem parse_any (s : ByteArray) (w : World) (hs : s.size ≤ maxLen) (hV : Vars w) : Calls Tryz.prog 8 #[.string s] w (PsPost (parseF s.data.toList) w) := by
  rcases Nat.lt_or_ge 65536 s.size with h | h
  · exact parse_long s w h hs
  · rw [parseF, if_neg (by show ¬ 65536 < s.size; omega)]
    cases hr : readT s.data.toList with
    | no f => exact parse_no s f w h hV hr
    | ok bs => exact parse_ok s bs w h hV hr
end Go.Proofs.YthjpddjfckdefaaGreatDoor.Pr
