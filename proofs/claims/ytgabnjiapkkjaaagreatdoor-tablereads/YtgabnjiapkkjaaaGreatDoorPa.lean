/- What package table's Parse answers: the table, or the fault that comes first, read off the program by the walk. Conditions: the variables lie in memory as the program lays them. -/
import Derived.Test.YtgabnjiapkkjaaaGreatDoorRl
namespace Go.Proofs.YtgabnjiapkkjaaaGreatDoor.Tb
open Go.ChangeShapes Go.WideShapes Go.ChangeAt Go.RowKit

def tab0 : Tab := ⟨fun _ => 0, fun _ => 0, fun _ => 0, 0⟩
/-- What Parse answers of a text: the fault, if there is one; the table. -/
def parseF (l : List UInt8) : Option (Int × Nat × List UInt8) × Tab :=
  if 65536 < l.length then (some (3, 0, []), tab0) else ((runL (linesT l) l.length ⟨fun _ => false, tab0⟩).1, (runL (linesT l) l.length ⟨fun _ => false, tab0⟩).2.t)

def PsPost (F : Option (Int × Nat × List UInt8) × Tab) (w : World) (e : Ending) (w' : World) : Prop :=
  (F.1 = none ∧ e = .returned (.tuple #[F.2.val, .nilIface]) ∧ Below w.heap.size w w') ∨
  ∃ f q, F.1 = some f ∧ e = .returned (.tuple #[tab0.val, .iface 58 (.pointer (some ⟨q, 0, none⟩))]) ∧ FaultAt w' q f.1 (f.2.1 : Int) ⟨f.2.2.toArray⟩ ∧ w.heap.size ≤ q ∧ Below w.heap.size w w'

theorem tab_val {w : World} {b : Nat} {t : Tab} (h : TabAt w b t) : w.cell? ⟨b, 0, none⟩ = some (.int .i64 (t.u 0)) ∧ w.cell? ⟨b, 1, none⟩ = some (.int .i64 (t.u 1)) ∧ w.cell? ⟨b, 2, none⟩ = some (.int .i64 (t.u 2)) ∧ w.cell? ⟨b, 3, none⟩ = some (.int .i64 (t.u 3)) ∧ w.cell? ⟨b, 4, none⟩ = some (.int .i64 (t.l 0)) ∧ w.cell? ⟨b, 5, none⟩ = some (.int .i64 (t.l 1)) ∧ w.cell? ⟨b, 6, none⟩ = some (.int .i64 (t.l 2)) ∧ w.cell? ⟨b, 7, none⟩ = some (.int .i64 (t.l 3)) ∧ w.cell? ⟨b, 8, none⟩ = some (.int .i64 (t.b 0)) ∧ w.cell? ⟨b, 9, none⟩ = some (.int .i64 (t.b 1)) ∧ w.cell? ⟨b, 10, none⟩ = some (.int .i64 (t.b 2)) ∧ w.cell? ⟨b, 11, none⟩ = some (.int .i64 (t.b 3)) ∧ w.cell? ⟨b, 12, none⟩ = some (.int .i64 t.d) :=
  ⟨h.cu 0 (by omega), h.cu 1 (by omega), h.cu 2 (by omega), h.cu 3 (by omega), h.cl 0 (by omega), h.cl 1 (by omega), h.cl 2 (by omega), h.cl 3 (by omega), h.cb 0 (by omega), h.cb 1 (by omega), h.cb 2 (by omega), h.cb 3 (by omega), h.cd⟩

set_option maxHeartbeats 1000000 in
theorem parse_long (s : ByteArray) (w : World) (hs : 65536 < s.size) (hs2 : s.size ≤ maxLen) : Calls Tryz.prog 14 #[.string s] w (PsPost (parseF s.data.toList) w) := by
  have hF : parseF s.data.toList = (some (3, 0, []), tab0) := by rw [parseF, if_pos (by show 65536 < s.size; exact hs)]
  rw [hF]
  clear hF
  unfold maxLen at hs2
  go_enter Tryz.func14, Tryz.ntmps14
  go_wp2
  go_returns
  exact .inr ⟨(3, 0, []), w.heap.size + 1, rfl, rfl, (by have h := heap_alloc_new (w.alloc (.cells tab0.cells 24)) (.cells #[.int .i64 3, .int .i64 0, .string ⟨#[]⟩] 60); simpa [FaultAt, tab0, Tab.cells] using h), by omega, ((Below.refl _ _).alloc (Nat.le_refl _) _).alloc (by simp) _⟩

set_option maxRecDepth 20000 in
set_option maxHeartbeats 2000000 in
theorem parse_short (s : ByteArray) (w : World) (hs : s.size ≤ 65536) (hE : Env w) : Calls Tryz.prog 14 #[.string s] w (PsPost (parseF s.data.toList) w) := by
  have hF : parseF s.data.toList = ((runL (linesT s.data.toList) s.size ⟨fun _ => false, tab0⟩).1, (runL (linesT s.data.toList) s.size ⟨fun _ => false, tab0⟩).2.t) := by rw [parseF, if_neg (by show ¬ 65536 < s.size; omega)]; rfl
  have h14 := hE.G.big
  have hA1 : Below w.heap.size w (w.alloc (.cells tab0.cells 24)) := (Below.refl _ _).alloc (Nat.le_refl _) _
  have hA : Below w.heap.size w ((w.alloc (.cells tab0.cells 24)).alloc (.cells tab0.cells 24)) := hA1.alloc (by simp) _
  have hrl := readLines_any s (w.heap.size + 1) tab0 ((w.alloc (.cells tab0.cells 24)).alloc (.cells tab0.cells 24)) hs (hE.below hA h14) (by have := tabAt_new (w.alloc (.cells tab0.cells 24)) tab0 24; simpa using this) (fun k hk => by simp) (by omega)
  obtain ⟨R, hR⟩ : ∃ R, R = runL (linesT s.data.toList) s.size ⟨fun _ => false, tab0⟩ := ⟨_, rfl⟩
  rw [hF, ← hR]
  rw [← hR] at hrl
  obtain ⟨Rf, Rs⟩ := R
  cases Rf with
  | none =>
    have hrl2 : Calls Tryz.prog 24 #[.pointer (some ⟨w.heap.size + 1, 0, none⟩), .string s] ((w.alloc (.cells tab0.cells 24)).alloc (.cells tab0.cells 24)) fun e w' => e = .returned (.pointer none) ∧ TabAt w' (w.heap.size + 1) Rs.t ∧ But (w.heap.size + 1) (w.heap.size + 1) ((w.alloc (.cells tab0.cells 24)).alloc (.cells tab0.cells 24)) w' := hrl.mono fun e w' h => by
      rcases h with ⟨_, h1, h2, h3⟩ | ⟨f, q, hcon, _⟩
      · exact ⟨h1, h2, h3⟩
      · cases hcon
    have Hrl : Hid _ := hrl2
    have HA : Hid _ := hA
    clear hrl hrl2 hR hF hE hA hA1
    unfold Tab.cells tab0 at *
    go_enter Tryz.func14, Tryz.ntmps14
    go_wp2_with (first | (go_at_call 24; refine Calls.mono Hrl.out ?_; rintro e w3 ⟨rfl, hT, hB⟩; refine Hid.out ?_))
    refine Lib.hid ?_
    obtain ⟨t0, t1, t2, t3, t4, t5, t6, t7, t8, t9, t10, t11, t12⟩ := tab_val hT
    have d0 := ((hB.cell (b := w.heap.size) (j := 0) (by simp; omega) (by omega) (by omega)).trans (look [.cells #[.int .i64 0, .int .i64 0, .int .i64 0, .int .i64 0, .int .i64 0, .int .i64 0, .int .i64 0, .int .i64 0, .int .i64 0, .int .i64 0, .int .i64 0, .int .i64 0, .int .i64 0] 24, .cells #[.int .i64 0, .int .i64 0, .int .i64 0, .int .i64 0, .int .i64 0, .int .i64 0, .int .i64 0, .int .i64 0, .int .i64 0, .int .i64 0, .int .i64 0, .int .i64 0, .int .i64 0] 24] w 0 _ _ _ _ _ rfl rfl rfl))
    have d1 := ((hB.cell (b := w.heap.size) (j := 1) (by simp; omega) (by omega) (by omega)).trans (look [.cells #[.int .i64 0, .int .i64 0, .int .i64 0, .int .i64 0, .int .i64 0, .int .i64 0, .int .i64 0, .int .i64 0, .int .i64 0, .int .i64 0, .int .i64 0, .int .i64 0, .int .i64 0] 24, .cells #[.int .i64 0, .int .i64 0, .int .i64 0, .int .i64 0, .int .i64 0, .int .i64 0, .int .i64 0, .int .i64 0, .int .i64 0, .int .i64 0, .int .i64 0, .int .i64 0, .int .i64 0] 24] w 0 _ _ _ _ _ rfl rfl rfl))
    have d2 := ((hB.cell (b := w.heap.size) (j := 2) (by simp; omega) (by omega) (by omega)).trans (look [.cells #[.int .i64 0, .int .i64 0, .int .i64 0, .int .i64 0, .int .i64 0, .int .i64 0, .int .i64 0, .int .i64 0, .int .i64 0, .int .i64 0, .int .i64 0, .int .i64 0, .int .i64 0] 24, .cells #[.int .i64 0, .int .i64 0, .int .i64 0, .int .i64 0, .int .i64 0, .int .i64 0, .int .i64 0, .int .i64 0, .int .i64 0, .int .i64 0, .int .i64 0, .int .i64 0, .int .i64 0] 24] w 0 _ _ _ _ _ rfl rfl rfl))
    have d3 := ((hB.cell (b := w.heap.size) (j := 3) (by simp; omega) (by omega) (by omega)).trans (look [.cells #[.int .i64 0, .int .i64 0, .int .i64 0, .int .i64 0, .int .i64 0, .int .i64 0, .int .i64 0, .int .i64 0, .int .i64 0, .int .i64 0, .int .i64 0, .int .i64 0, .int .i64 0] 24, .cells #[.int .i64 0, .int .i64 0, .int .i64 0, .int .i64 0, .int .i64 0, .int .i64 0, .int .i64 0, .int .i64 0, .int .i64 0, .int .i64 0, .int .i64 0, .int .i64 0, .int .i64 0] 24] w 0 _ _ _ _ _ rfl rfl rfl))
    have d4 := ((hB.cell (b := w.heap.size) (j := 4) (by simp; omega) (by omega) (by omega)).trans (look [.cells #[.int .i64 0, .int .i64 0, .int .i64 0, .int .i64 0, .int .i64 0, .int .i64 0, .int .i64 0, .int .i64 0, .int .i64 0, .int .i64 0, .int .i64 0, .int .i64 0, .int .i64 0] 24, .cells #[.int .i64 0, .int .i64 0, .int .i64 0, .int .i64 0, .int .i64 0, .int .i64 0, .int .i64 0, .int .i64 0, .int .i64 0, .int .i64 0, .int .i64 0, .int .i64 0, .int .i64 0] 24] w 0 _ _ _ _ _ rfl rfl rfl))
    have d5 := ((hB.cell (b := w.heap.size) (j := 5) (by simp; omega) (by omega) (by omega)).trans (look [.cells #[.int .i64 0, .int .i64 0, .int .i64 0, .int .i64 0, .int .i64 0, .int .i64 0, .int .i64 0, .int .i64 0, .int .i64 0, .int .i64 0, .int .i64 0, .int .i64 0, .int .i64 0] 24, .cells #[.int .i64 0, .int .i64 0, .int .i64 0, .int .i64 0, .int .i64 0, .int .i64 0, .int .i64 0, .int .i64 0, .int .i64 0, .int .i64 0, .int .i64 0, .int .i64 0, .int .i64 0] 24] w 0 _ _ _ _ _ rfl rfl rfl))
    have d6 := ((hB.cell (b := w.heap.size) (j := 6) (by simp; omega) (by omega) (by omega)).trans (look [.cells #[.int .i64 0, .int .i64 0, .int .i64 0, .int .i64 0, .int .i64 0, .int .i64 0, .int .i64 0, .int .i64 0, .int .i64 0, .int .i64 0, .int .i64 0, .int .i64 0, .int .i64 0] 24, .cells #[.int .i64 0, .int .i64 0, .int .i64 0, .int .i64 0, .int .i64 0, .int .i64 0, .int .i64 0, .int .i64 0, .int .i64 0, .int .i64 0, .int .i64 0, .int .i64 0, .int .i64 0] 24] w 0 _ _ _ _ _ rfl rfl rfl))
    have d7 := ((hB.cell (b := w.heap.size) (j := 7) (by simp; omega) (by omega) (by omega)).trans (look [.cells #[.int .i64 0, .int .i64 0, .int .i64 0, .int .i64 0, .int .i64 0, .int .i64 0, .int .i64 0, .int .i64 0, .int .i64 0, .int .i64 0, .int .i64 0, .int .i64 0, .int .i64 0] 24, .cells #[.int .i64 0, .int .i64 0, .int .i64 0, .int .i64 0, .int .i64 0, .int .i64 0, .int .i64 0, .int .i64 0, .int .i64 0, .int .i64 0, .int .i64 0, .int .i64 0, .int .i64 0] 24] w 0 _ _ _ _ _ rfl rfl rfl))
    have d8 := ((hB.cell (b := w.heap.size) (j := 8) (by simp; omega) (by omega) (by omega)).trans (look [.cells #[.int .i64 0, .int .i64 0, .int .i64 0, .int .i64 0, .int .i64 0, .int .i64 0, .int .i64 0, .int .i64 0, .int .i64 0, .int .i64 0, .int .i64 0, .int .i64 0, .int .i64 0] 24, .cells #[.int .i64 0, .int .i64 0, .int .i64 0, .int .i64 0, .int .i64 0, .int .i64 0, .int .i64 0, .int .i64 0, .int .i64 0, .int .i64 0, .int .i64 0, .int .i64 0, .int .i64 0] 24] w 0 _ _ _ _ _ rfl rfl rfl))
    have d9 := ((hB.cell (b := w.heap.size) (j := 9) (by simp; omega) (by omega) (by omega)).trans (look [.cells #[.int .i64 0, .int .i64 0, .int .i64 0, .int .i64 0, .int .i64 0, .int .i64 0, .int .i64 0, .int .i64 0, .int .i64 0, .int .i64 0, .int .i64 0, .int .i64 0, .int .i64 0] 24, .cells #[.int .i64 0, .int .i64 0, .int .i64 0, .int .i64 0, .int .i64 0, .int .i64 0, .int .i64 0, .int .i64 0, .int .i64 0, .int .i64 0, .int .i64 0, .int .i64 0, .int .i64 0] 24] w 0 _ _ _ _ _ rfl rfl rfl))
    have d10 := ((hB.cell (b := w.heap.size) (j := 10) (by simp; omega) (by omega) (by omega)).trans (look [.cells #[.int .i64 0, .int .i64 0, .int .i64 0, .int .i64 0, .int .i64 0, .int .i64 0, .int .i64 0, .int .i64 0, .int .i64 0, .int .i64 0, .int .i64 0, .int .i64 0, .int .i64 0] 24, .cells #[.int .i64 0, .int .i64 0, .int .i64 0, .int .i64 0, .int .i64 0, .int .i64 0, .int .i64 0, .int .i64 0, .int .i64 0, .int .i64 0, .int .i64 0, .int .i64 0, .int .i64 0] 24] w 0 _ _ _ _ _ rfl rfl rfl))
    have d11 := ((hB.cell (b := w.heap.size) (j := 11) (by simp; omega) (by omega) (by omega)).trans (look [.cells #[.int .i64 0, .int .i64 0, .int .i64 0, .int .i64 0, .int .i64 0, .int .i64 0, .int .i64 0, .int .i64 0, .int .i64 0, .int .i64 0, .int .i64 0, .int .i64 0, .int .i64 0] 24, .cells #[.int .i64 0, .int .i64 0, .int .i64 0, .int .i64 0, .int .i64 0, .int .i64 0, .int .i64 0, .int .i64 0, .int .i64 0, .int .i64 0, .int .i64 0, .int .i64 0, .int .i64 0] 24] w 0 _ _ _ _ _ rfl rfl rfl))
    have d12 := ((hB.cell (b := w.heap.size) (j := 12) (by simp; omega) (by omega) (by omega)).trans (look [.cells #[.int .i64 0, .int .i64 0, .int .i64 0, .int .i64 0, .int .i64 0, .int .i64 0, .int .i64 0, .int .i64 0, .int .i64 0, .int .i64 0, .int .i64 0, .int .i64 0, .int .i64 0] 24, .cells #[.int .i64 0, .int .i64 0, .int .i64 0, .int .i64 0, .int .i64 0, .int .i64 0, .int .i64 0, .int .i64 0, .int .i64 0, .int .i64 0, .int .i64 0, .int .i64 0, .int .i64 0] 24] w 0 _ _ _ _ _ rfl rfl rfl))
    have hfz : ∀ j, w3.frozen? ⟨w.heap.size, j, none⟩ = false := fun j => by
      rw [World.frozen?_of_block (a := ⟨w.heap.size, j, none⟩) (hB.block w.heap.size (by simp; omega) (by omega) (by omega))]
      simp
    have HB2 : Hid (Below w.heap.size w w3) := HA.out.trans (hB.to_below (by simp; omega) (by omega) (by omega))
    clear Hrl HA hT hB
    go_wp2
    refine bodyPost_ret (v := .tuple #[Rs.t.val, .nilIface]) (by simp [results, Tryz.results14, go_sem, Tab.val, d0, d1, d2, d3, d4, d5, d6, d7, d8, d9, d10, d11, d12]) rfl ?_
    refine .inl ⟨rfl, rfl, ?_⟩
    iterate 13 (refine Below.setCell (B := w.heap.size) (p := ⟨w.heap.size, _, none⟩) ?_ (Nat.le_refl _) _)
    exact HB2.out
  | some f =>
    have hrl2 : Calls Tryz.prog 24 #[.pointer (some ⟨w.heap.size + 1, 0, none⟩), .string s] ((w.alloc (.cells tab0.cells 24)).alloc (.cells tab0.cells 24)) fun e w' => ∃ q, e = .returned (.pointer (some ⟨q, 0, none⟩)) ∧ FaultAt w' q f.1 (f.2.1 : Int) ⟨f.2.2.toArray⟩ ∧ w.heap.size + 2 ≤ q ∧ But (w.heap.size + 1) (w.heap.size + 1) ((w.alloc (.cells tab0.cells 24)).alloc (.cells tab0.cells 24)) w' := hrl.mono fun e w' h => by
      rcases h with ⟨hcon, _⟩ | ⟨f', q, hf, h1, h2, h3, h4⟩
      · cases hcon
      · cases hf
        exact ⟨q, h1, h2, by simpa using h3, h4⟩
    have Hrl : Hid _ := hrl2
    have HA : Hid _ := hA
    clear hrl hrl2 hR hF hE hA hA1
    unfold Tab.cells tab0 at *
    go_enter Tryz.func14, Tryz.ntmps14
    go_wp2_with (first | (go_at_call 24; refine Calls.mono Hrl.out ?_; rintro e w3 ⟨q, rfl, hFq, hq, hB⟩; refine Hid.out ?_))
    refine Lib.hid ?_
    have d0 := ((hB.cell (b := w.heap.size) (j := 0) (by simp; omega) (by omega) (by omega)).trans (look [.cells #[.int .i64 0, .int .i64 0, .int .i64 0, .int .i64 0, .int .i64 0, .int .i64 0, .int .i64 0, .int .i64 0, .int .i64 0, .int .i64 0, .int .i64 0, .int .i64 0, .int .i64 0] 24, .cells #[.int .i64 0, .int .i64 0, .int .i64 0, .int .i64 0, .int .i64 0, .int .i64 0, .int .i64 0, .int .i64 0, .int .i64 0, .int .i64 0, .int .i64 0, .int .i64 0, .int .i64 0] 24] w 0 _ _ _ _ _ rfl rfl rfl))
    have d1 := ((hB.cell (b := w.heap.size) (j := 1) (by simp; omega) (by omega) (by omega)).trans (look [.cells #[.int .i64 0, .int .i64 0, .int .i64 0, .int .i64 0, .int .i64 0, .int .i64 0, .int .i64 0, .int .i64 0, .int .i64 0, .int .i64 0, .int .i64 0, .int .i64 0, .int .i64 0] 24, .cells #[.int .i64 0, .int .i64 0, .int .i64 0, .int .i64 0, .int .i64 0, .int .i64 0, .int .i64 0, .int .i64 0, .int .i64 0, .int .i64 0, .int .i64 0, .int .i64 0, .int .i64 0] 24] w 0 _ _ _ _ _ rfl rfl rfl))
    have d2 := ((hB.cell (b := w.heap.size) (j := 2) (by simp; omega) (by omega) (by omega)).trans (look [.cells #[.int .i64 0, .int .i64 0, .int .i64 0, .int .i64 0, .int .i64 0, .int .i64 0, .int .i64 0, .int .i64 0, .int .i64 0, .int .i64 0, .int .i64 0, .int .i64 0, .int .i64 0] 24, .cells #[.int .i64 0, .int .i64 0, .int .i64 0, .int .i64 0, .int .i64 0, .int .i64 0, .int .i64 0, .int .i64 0, .int .i64 0, .int .i64 0, .int .i64 0, .int .i64 0, .int .i64 0] 24] w 0 _ _ _ _ _ rfl rfl rfl))
    have d3 := ((hB.cell (b := w.heap.size) (j := 3) (by simp; omega) (by omega) (by omega)).trans (look [.cells #[.int .i64 0, .int .i64 0, .int .i64 0, .int .i64 0, .int .i64 0, .int .i64 0, .int .i64 0, .int .i64 0, .int .i64 0, .int .i64 0, .int .i64 0, .int .i64 0, .int .i64 0] 24, .cells #[.int .i64 0, .int .i64 0, .int .i64 0, .int .i64 0, .int .i64 0, .int .i64 0, .int .i64 0, .int .i64 0, .int .i64 0, .int .i64 0, .int .i64 0, .int .i64 0, .int .i64 0] 24] w 0 _ _ _ _ _ rfl rfl rfl))
    have d4 := ((hB.cell (b := w.heap.size) (j := 4) (by simp; omega) (by omega) (by omega)).trans (look [.cells #[.int .i64 0, .int .i64 0, .int .i64 0, .int .i64 0, .int .i64 0, .int .i64 0, .int .i64 0, .int .i64 0, .int .i64 0, .int .i64 0, .int .i64 0, .int .i64 0, .int .i64 0] 24, .cells #[.int .i64 0, .int .i64 0, .int .i64 0, .int .i64 0, .int .i64 0, .int .i64 0, .int .i64 0, .int .i64 0, .int .i64 0, .int .i64 0, .int .i64 0, .int .i64 0, .int .i64 0] 24] w 0 _ _ _ _ _ rfl rfl rfl))
    have d5 := ((hB.cell (b := w.heap.size) (j := 5) (by simp; omega) (by omega) (by omega)).trans (look [.cells #[.int .i64 0, .int .i64 0, .int .i64 0, .int .i64 0, .int .i64 0, .int .i64 0, .int .i64 0, .int .i64 0, .int .i64 0, .int .i64 0, .int .i64 0, .int .i64 0, .int .i64 0] 24, .cells #[.int .i64 0, .int .i64 0, .int .i64 0, .int .i64 0, .int .i64 0, .int .i64 0, .int .i64 0, .int .i64 0, .int .i64 0, .int .i64 0, .int .i64 0, .int .i64 0, .int .i64 0] 24] w 0 _ _ _ _ _ rfl rfl rfl))
    have d6 := ((hB.cell (b := w.heap.size) (j := 6) (by simp; omega) (by omega) (by omega)).trans (look [.cells #[.int .i64 0, .int .i64 0, .int .i64 0, .int .i64 0, .int .i64 0, .int .i64 0, .int .i64 0, .int .i64 0, .int .i64 0, .int .i64 0, .int .i64 0, .int .i64 0, .int .i64 0] 24, .cells #[.int .i64 0, .int .i64 0, .int .i64 0, .int .i64 0, .int .i64 0, .int .i64 0, .int .i64 0, .int .i64 0, .int .i64 0, .int .i64 0, .int .i64 0, .int .i64 0, .int .i64 0] 24] w 0 _ _ _ _ _ rfl rfl rfl))
    have d7 := ((hB.cell (b := w.heap.size) (j := 7) (by simp; omega) (by omega) (by omega)).trans (look [.cells #[.int .i64 0, .int .i64 0, .int .i64 0, .int .i64 0, .int .i64 0, .int .i64 0, .int .i64 0, .int .i64 0, .int .i64 0, .int .i64 0, .int .i64 0, .int .i64 0, .int .i64 0] 24, .cells #[.int .i64 0, .int .i64 0, .int .i64 0, .int .i64 0, .int .i64 0, .int .i64 0, .int .i64 0, .int .i64 0, .int .i64 0, .int .i64 0, .int .i64 0, .int .i64 0, .int .i64 0] 24] w 0 _ _ _ _ _ rfl rfl rfl))
    have d8 := ((hB.cell (b := w.heap.size) (j := 8) (by simp; omega) (by omega) (by omega)).trans (look [.cells #[.int .i64 0, .int .i64 0, .int .i64 0, .int .i64 0, .int .i64 0, .int .i64 0, .int .i64 0, .int .i64 0, .int .i64 0, .int .i64 0, .int .i64 0, .int .i64 0, .int .i64 0] 24, .cells #[.int .i64 0, .int .i64 0, .int .i64 0, .int .i64 0, .int .i64 0, .int .i64 0, .int .i64 0, .int .i64 0, .int .i64 0, .int .i64 0, .int .i64 0, .int .i64 0, .int .i64 0] 24] w 0 _ _ _ _ _ rfl rfl rfl))
    have d9 := ((hB.cell (b := w.heap.size) (j := 9) (by simp; omega) (by omega) (by omega)).trans (look [.cells #[.int .i64 0, .int .i64 0, .int .i64 0, .int .i64 0, .int .i64 0, .int .i64 0, .int .i64 0, .int .i64 0, .int .i64 0, .int .i64 0, .int .i64 0, .int .i64 0, .int .i64 0] 24, .cells #[.int .i64 0, .int .i64 0, .int .i64 0, .int .i64 0, .int .i64 0, .int .i64 0, .int .i64 0, .int .i64 0, .int .i64 0, .int .i64 0, .int .i64 0, .int .i64 0, .int .i64 0] 24] w 0 _ _ _ _ _ rfl rfl rfl))
    have d10 := ((hB.cell (b := w.heap.size) (j := 10) (by simp; omega) (by omega) (by omega)).trans (look [.cells #[.int .i64 0, .int .i64 0, .int .i64 0, .int .i64 0, .int .i64 0, .int .i64 0, .int .i64 0, .int .i64 0, .int .i64 0, .int .i64 0, .int .i64 0, .int .i64 0, .int .i64 0] 24, .cells #[.int .i64 0, .int .i64 0, .int .i64 0, .int .i64 0, .int .i64 0, .int .i64 0, .int .i64 0, .int .i64 0, .int .i64 0, .int .i64 0, .int .i64 0, .int .i64 0, .int .i64 0] 24] w 0 _ _ _ _ _ rfl rfl rfl))
    have d11 := ((hB.cell (b := w.heap.size) (j := 11) (by simp; omega) (by omega) (by omega)).trans (look [.cells #[.int .i64 0, .int .i64 0, .int .i64 0, .int .i64 0, .int .i64 0, .int .i64 0, .int .i64 0, .int .i64 0, .int .i64 0, .int .i64 0, .int .i64 0, .int .i64 0, .int .i64 0] 24, .cells #[.int .i64 0, .int .i64 0, .int .i64 0, .int .i64 0, .int .i64 0, .int .i64 0, .int .i64 0, .int .i64 0, .int .i64 0, .int .i64 0, .int .i64 0, .int .i64 0, .int .i64 0] 24] w 0 _ _ _ _ _ rfl rfl rfl))
    have d12 := ((hB.cell (b := w.heap.size) (j := 12) (by simp; omega) (by omega) (by omega)).trans (look [.cells #[.int .i64 0, .int .i64 0, .int .i64 0, .int .i64 0, .int .i64 0, .int .i64 0, .int .i64 0, .int .i64 0, .int .i64 0, .int .i64 0, .int .i64 0, .int .i64 0, .int .i64 0] 24, .cells #[.int .i64 0, .int .i64 0, .int .i64 0, .int .i64 0, .int .i64 0, .int .i64 0, .int .i64 0, .int .i64 0, .int .i64 0, .int .i64 0, .int .i64 0, .int .i64 0, .int .i64 0] 24] w 0 _ _ _ _ _ rfl rfl rfl))
    have hfz : ∀ j, w3.frozen? ⟨w.heap.size, j, none⟩ = false := fun j => by
      rw [World.frozen?_of_block (a := ⟨w.heap.size, j, none⟩) (hB.block w.heap.size (by simp; omega) (by omega) (by omega))]
      simp
    have HB2 : Hid (Below w.heap.size w w3) := HA.out.trans (hB.to_below (by simp; omega) (by omega) (by omega))
    have HF2 : Hid (FaultAt w3 q f.1 (f.2.1 : Int) ⟨f.2.2.toArray⟩ ∧ w.heap.size + 2 ≤ q) := ⟨hFq, hq⟩
    clear Hrl HA hB hFq
    go_wp2
    refine bodyPost_ret (v := .tuple #[.agg #[.int .i64 0, .int .i64 0, .int .i64 0, .int .i64 0, .int .i64 0, .int .i64 0, .int .i64 0, .int .i64 0, .int .i64 0, .int .i64 0, .int .i64 0, .int .i64 0, .int .i64 0], .iface 58 (.pointer (some ⟨q, 0, none⟩))]) (by simp [results, Tryz.results14, go_sem, d0, d1, d2, d3, d4, d5, d6, d7, d8, d9, d10, d11, d12]) rfl ?_
    refine .inr ⟨f, q, rfl, rfl, ?_, by omega, ?_⟩
    · unfold FaultAt
      have := HF2.out.1
      unfold FaultAt at this
      iterate 13 (rw [Below.heap_setCell _ _ _ _ (by show q ≠ w.heap.size; omega)])
      exact this
    · iterate 13 (refine Below.setCell (B := w.heap.size) (p := ⟨w.heap.size, _, none⟩) ?_ (Nat.le_refl _) _)
      exact HB2.out

end Go.Proofs.YtgabnjiapkkjaaaGreatDoor.Tb
