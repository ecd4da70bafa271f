/- The reference's reader: what wrong, word and number do to it. Conditions: as each row says. -/
import Derived.Test.YtgabnjiapkkjaaaGreatDoorRn
namespace Go.Proofs.YtgabnjiapkkjaaaGreatDoor.Tb
open Go.ChangeShapes Go.WideShapes Go.ChangeAt Go.RowKit

/-- The reader's cells. -/
structure RdC (w : World) (rb : Nat) (c : Nat → Value) : Prop where
  c : ∀ k, k < 21 → w.cell? ⟨rb, k, none⟩ = some (c k)
  f : ∀ k, k < 21 → w.frozen? ⟨rb, k, none⟩ = false
  lt : rb < w.heap.size
def setC (c : Nat → Value) (o : Nat) (v : Value) : Nat → Value := fun k => if k = o then v else c k
theorem RdC.set {w : World} {rb : Nat} {c : Nat → Value} (h : RdC w rb c) (o : Nat) (v : Value) (ho : o < 21) : RdC (w.setCell ⟨rb, o, none⟩ v) rb (setC c o v) := by
  refine ⟨fun k hk => ?_, fun k hk => by rw [World.frozen?_setCell]; exact h.f k hk, by simpa using h.lt⟩
  by_cases e : k = o
  · subst e
    rw [set_same (h.c k hk)]; simp [setC]
  · rw [set_other (addr_ne (.inr (Ne.symm e))), h.c k hk]; simp [setC, e]
theorem RdC.below {w w' : World} {rb : Nat} {c : Nat → Value} (h : RdC w rb c) (hb : Below w.heap.size w w') : RdC w' rb c :=
  ⟨fun k hk => ((bcell hb).1 _ _ h.lt).trans (h.c k hk), fun k hk => ((bcell hb).2 _ _ h.lt).trans (h.f k hk), Nat.lt_of_lt_of_le h.lt hb.size⟩
def setF (c : Nat → Value) (e a : Int) (s : ByteArray) : Nat → Value := setC (setC (setC c 18 (.int .i64 e)) 19 (.int .i64 a)) 20 (.string s)

set_option maxRecDepth 20000 in
theorem wrong_yes (rb : Nat) (c : Nat → Value) (e a : Int) (s : ByteArray) (w : World) (hR : RdC w rb c) (h0 : c 18 = .int .i64 0) :
    Calls Tryz.prog 36 #[.pointer (some ⟨rb, 0, none⟩), .int .i64 e, .agg #[.string s, .int .i64 a]] w fun ev w' => ev = .returned (.tuple #[]) ∧ RdC w' rb (setF c e a s) ∧ But rb rb w w' := by
  have HR : Hid (RdC w rb c) := hR
  have c18 : w.cell? ⟨rb, 18, none⟩ = some (.int .i64 0) := by rw [hR.c 18 (by omega), h0]
  have c19 := hR.c 19 (by omega)
  have c20 := hR.c 20 (by omega)
  have f18 := hR.f 18 (by omega)
  have f19 := hR.f 19 (by omega)
  have f20 := hR.f 20 (by omega)
  have hlt := hR.lt
  have n1 : (⟨rb, 18, none⟩ : Addr) ≠ ⟨rb, 19, none⟩ := addr_ne (.inr (by omega))
  have n2 : (⟨rb, 18, none⟩ : Addr) ≠ ⟨rb, 20, none⟩ := addr_ne (.inr (by omega))
  have n3 : (⟨rb, 19, none⟩ : Addr) ≠ ⟨rb, 20, none⟩ := addr_ne (.inr (by omega))
  clear hR
  go_enter Tryz.func36, Tryz.ntmps36
  go_wp2
  refine bodyPost_end (v := .tuple #[]) (by kernel_rfl) rfl ?_
  exact ⟨rfl, (((HR.out.set 18 _ (by omega)).set 19 _ (by omega)).set 20 _ (by omega)).below ((Below.refl _ _).alloc (Nat.le_refl _) _), (((But.setCell _ (.inl rfl)).trans (But.setCell _ (.inl rfl))).trans (But.setCell _ (.inl rfl))).trans (But.of_below ((Below.refl _ _).alloc (Nat.le_refl _) _))⟩

/-- MORE -/
theorem wrong_no (rb : Nat) (c : Nat → Value) (E e a : Int) (s : ByteArray) (w : World) (hR : RdC w rb c) (h0 : c 18 = .int .i64 E) (hE : E ≠ 0) :
    Calls Tryz.prog 36 #[.pointer (some ⟨rb, 0, none⟩), .int .i64 e, .agg #[.string s, .int .i64 a]] w fun ev w' => ev = .returned (.tuple #[]) ∧ RdC w' rb c ∧ But rb rb w w' := by
  have hE' : (E == 0) = false := by simpa using hE
  have HR : Hid (RdC w rb c) := hR
  have c18 : w.cell? ⟨rb, 18, none⟩ = some (.int .i64 E) := by rw [hR.c 18 (by omega), h0]
  have c19 := hR.c 19 (by omega)
  have c20 := hR.c 20 (by omega)
  have f18 := hR.f 18 (by omega)
  have f19 := hR.f 19 (by omega)
  have f20 := hR.f 20 (by omega)
  have hlt := hR.lt
  have n1 : (⟨rb, 18, none⟩ : Addr) ≠ ⟨rb, 19, none⟩ := addr_ne (.inr (by omega))
  have n2 : (⟨rb, 18, none⟩ : Addr) ≠ ⟨rb, 20, none⟩ := addr_ne (.inr (by omega))
  have n3 : (⟨rb, 19, none⟩ : Addr) ≠ ⟨rb, 20, none⟩ := addr_ne (.inr (by omega))
  clear hR
  go_enter Tryz.func36, Tryz.ntmps36
  go_wp2
  go_end0
  exact ⟨rfl, HR.out.below ((Below.refl _ _).alloc (Nat.le_refl _) _), But.of_below ((Below.refl _ _).alloc (Nat.le_refl _) _)⟩

set_option maxRecDepth 20000 in
theorem word_done (rb g n cap i : Nat) (en E : Int) (c : Nat → Value) (s : ByteArray) (w : World) (hR : RdC w rb c) (h0 : c 18 = .int .i64 E) (_hn : n ≤ 200000) (_hil : i ≤ 200000) (hE : E ≠ 0) :
    Calls Tryz.prog 38 #[.pointer (some ⟨rb, 0, none⟩), .agg #[.slice (some ⟨g, 0, none⟩) n cap, .int .i64 en], .int .i64 i, .string s] w fun ev w' => ev = .returned (.tuple #[]) ∧ RdC w' rb c ∧ But rb rb w w' := by
  have hE' : (E == 0) = false := by simpa using hE
  have HR : Hid (RdC w rb c) := hR
  have c18 : w.cell? ⟨rb, 18, none⟩ = some (.int .i64 E) := by rw [hR.c 18 (by omega), h0]
  have c19 := hR.c 19 (by omega)
  have c20 := hR.c 20 (by omega)
  have f18 := hR.f 18 (by omega)
  have f19 := hR.f 19 (by omega)
  have f20 := hR.f 20 (by omega)
  have hlt := hR.lt
  have n1 : (⟨rb, 18, none⟩ : Addr) ≠ ⟨rb, 19, none⟩ := addr_ne (.inr (by omega))
  have n2 : (⟨rb, 18, none⟩ : Addr) ≠ ⟨rb, 20, none⟩ := addr_ne (.inr (by omega))
  have n3 : (⟨rb, 19, none⟩ : Addr) ≠ ⟨rb, 20, none⟩ := addr_ne (.inr (by omega))
  clear hR
  go_enter Tryz.func38, Tryz.ntmps38
  go_wp2
  first | go_end0 | (refine bodyPost_ret (results_none rfl _ _ _) rfl ?_)
  exact ⟨rfl, HR.out.below ((Below.refl _ _).alloc (Nat.le_refl _) _), But.of_below ((Below.refl _ _).alloc (Nat.le_refl _) _)⟩

set_option maxRecDepth 20000 in
theorem word_short (rb g n cap i : Nat) (en _E : Int) (c : Nat → Value) (s : ByteArray) (w : World) (hR : RdC w rb c) (h0 : c 18 = .int .i64 0) (_hn : n ≤ 200000) (_hil : i ≤ 200000) (_hs : n ≤ i) :
    Calls Tryz.prog 38 #[.pointer (some ⟨rb, 0, none⟩), .agg #[.slice (some ⟨g, 0, none⟩) n cap, .int .i64 en], .int .i64 i, .string s] w fun ev w' => ev = .returned (.tuple #[]) ∧ RdC w' rb (setF c 60 en ⟨#[]⟩) ∧ But rb rb w w' := by
  have HR : Hid (RdC w rb c) := hR
  have c18 : w.cell? ⟨rb, 18, none⟩ = some (.int .i64 0) := by rw [hR.c 18 (by omega), h0]
  have c19 := hR.c 19 (by omega)
  have c20 := hR.c 20 (by omega)
  have f18 := hR.f 18 (by omega)
  have f19 := hR.f 19 (by omega)
  have f20 := hR.f 20 (by omega)
  have hlt := hR.lt
  have n1 : (⟨rb, 18, none⟩ : Addr) ≠ ⟨rb, 19, none⟩ := addr_ne (.inr (by omega))
  have n2 : (⟨rb, 18, none⟩ : Addr) ≠ ⟨rb, 20, none⟩ := addr_ne (.inr (by omega))
  have n3 : (⟨rb, 19, none⟩ : Addr) ≠ ⟨rb, 20, none⟩ := addr_ne (.inr (by omega))
  clear hR
  go_enter Tryz.func38, Tryz.ntmps38
  go_wp2
  first | go_end0 | (refine bodyPost_ret (results_none rfl _ _ _) rfl ?_)
  exact ⟨rfl, (((HR.out.set 18 _ (by omega)).set 19 _ (by omega)).set 20 _ (by omega)).below ((Below.refl _ _).alloc (Nat.le_refl _) _), (((But.setCell _ (.inl rfl)).trans (But.setCell _ (.inl rfl))).trans (But.setCell _ (.inl rfl))).trans (But.of_below ((Below.refl _ _).alloc (Nat.le_refl _) _))⟩

set_option maxRecDepth 20000 in
theorem word_ok (rb g n cap i : Nat) (en _E : Int) (c : Nat → Value) (s : ByteArray) (w : World) (hR : RdC w rb c) (h0 : c 18 = .int .i64 0) (_hn : n ≤ 200000) (_hil : i ≤ 200000) (x : ByteArray) (a : Int) (_hs : i < n) (_hg : g < w.heap.size) (_hx : w.cell? ⟨g, i * 2, none⟩ = some (.string x)) (_ha : w.cell? ⟨g, i * 2 + 1, none⟩ = some (.int .i64 a)) (he : x = s) :
    Calls Tryz.prog 38 #[.pointer (some ⟨rb, 0, none⟩), .agg #[.slice (some ⟨g, 0, none⟩) n cap, .int .i64 en], .int .i64 i, .string s] w fun ev w' => ev = .returned (.tuple #[]) ∧ RdC w' rb c ∧ But rb rb w w' := by
  subst he
  have HR : Hid (RdC w rb c) := hR
  have c18 : w.cell? ⟨rb, 18, none⟩ = some (.int .i64 0) := by rw [hR.c 18 (by omega), h0]
  have c19 := hR.c 19 (by omega)
  have c20 := hR.c 20 (by omega)
  have f18 := hR.f 18 (by omega)
  have f19 := hR.f 19 (by omega)
  have f20 := hR.f 20 (by omega)
  have hlt := hR.lt
  have n1 : (⟨rb, 18, none⟩ : Addr) ≠ ⟨rb, 19, none⟩ := addr_ne (.inr (by omega))
  have n2 : (⟨rb, 18, none⟩ : Addr) ≠ ⟨rb, 20, none⟩ := addr_ne (.inr (by omega))
  have n3 : (⟨rb, 19, none⟩ : Addr) ≠ ⟨rb, 20, none⟩ := addr_ne (.inr (by omega))
  clear hR
  go_enter Tryz.func38, Tryz.ntmps38
  go_wp2
  first | go_end0 | (refine bodyPost_ret (results_none rfl _ _ _) rfl ?_)
  exact ⟨rfl, HR.out.below ((Below.refl _ _).alloc (Nat.le_refl _) _), But.of_below ((Below.refl _ _).alloc (Nat.le_refl _) _)⟩

set_option maxRecDepth 20000 in
theorem word_bad (rb g n cap i : Nat) (en _E : Int) (c : Nat → Value) (s : ByteArray) (w : World) (hR : RdC w rb c) (h0 : c 18 = .int .i64 0) (_hn : n ≤ 200000) (_hil : i ≤ 200000) (x : ByteArray) (a : Int) (_hs : i < n) (_hg : g < w.heap.size) (_hx : w.cell? ⟨g, i * 2, none⟩ = some (.string x)) (_ha : w.cell? ⟨g, i * 2 + 1, none⟩ = some (.int .i64 a)) (he : x ≠ s) :
    Calls Tryz.prog 38 #[.pointer (some ⟨rb, 0, none⟩), .agg #[.slice (some ⟨g, 0, none⟩) n cap, .int .i64 en], .int .i64 i, .string s] w fun ev w' => ev = .returned (.tuple #[]) ∧ RdC w' rb (setF c 60 a x) ∧ But rb rb w w' := by
  have he' : (x.toList == s.toList) = false := by rw [ByteArray.toList_eq, ByteArray.toList_eq]; simp only [beq_eq_false_iff_ne]; exact fun h => he (ba_eq h)
  have HR : Hid (RdC w rb c) := hR
  have c18 : w.cell? ⟨rb, 18, none⟩ = some (.int .i64 0) := by rw [hR.c 18 (by omega), h0]
  have c19 := hR.c 19 (by omega)
  have c20 := hR.c 20 (by omega)
  have f18 := hR.f 18 (by omega)
  have f19 := hR.f 19 (by omega)
  have f20 := hR.f 20 (by omega)
  have hlt := hR.lt
  have n1 : (⟨rb, 18, none⟩ : Addr) ≠ ⟨rb, 19, none⟩ := addr_ne (.inr (by omega))
  have n2 : (⟨rb, 18, none⟩ : Addr) ≠ ⟨rb, 20, none⟩ := addr_ne (.inr (by omega))
  have n3 : (⟨rb, 19, none⟩ : Addr) ≠ ⟨rb, 20, none⟩ := addr_ne (.inr (by omega))
  clear hR
  go_enter Tryz.func38, Tryz.ntmps38
  have Hw : Hid _ := fun e => wrong_yes rb c e a x (w.alloc (.cells #[.slice (some ⟨g, 0, none⟩) n cap, .int .i64 en] 71)) (HR.out.below ((Below.refl _ _).alloc (Nat.le_refl _) _)) h0
  go_wp2_with (first
    | (go_at_call 36; refine Calls.mono (Hw.out _) ?_; rintro e w2 ⟨rfl, hR2, hb2⟩))
  first | go_end0 | (refine bodyPost_ret (results_none rfl _ _ _) rfl ?_)
  exact ⟨rfl, hR2, (But.of_below ((Below.refl _ _).alloc (Nat.le_refl _) _)).trans hb2⟩

set_option maxRecDepth 20000 in
theorem num_done (rb g n cap i : Nat) (en E : Int) (c : Nat → Value) (lo hi : Int) (w : World) (hR : RdC w rb c) (h0 : c 18 = .int .i64 E) (_hn : n ≤ 200000) (_hil : i ≤ 200000) (hE : E ≠ 0) :
    Calls Tryz.prog 37 #[.pointer (some ⟨rb, 0, none⟩), .agg #[.slice (some ⟨g, 0, none⟩) n cap, .int .i64 en], .int .i64 i, .int .i64 lo, .int .i64 hi] w fun ev w' => ev = .returned (.int .i64 0) ∧ RdC w' rb c ∧ But rb rb w w' := by
  have hE' : (E == 0) = false := by simpa using hE
  have HR : Hid (RdC w rb c) := hR
  have c18 : w.cell? ⟨rb, 18, none⟩ = some (.int .i64 E) := by rw [hR.c 18 (by omega), h0]
  have c19 := hR.c 19 (by omega)
  have c20 := hR.c 20 (by omega)
  have f18 := hR.f 18 (by omega)
  have f19 := hR.f 19 (by omega)
  have f20 := hR.f 20 (by omega)
  have hlt := hR.lt
  have n1 : (⟨rb, 18, none⟩ : Addr) ≠ ⟨rb, 19, none⟩ := addr_ne (.inr (by omega))
  have n2 : (⟨rb, 18, none⟩ : Addr) ≠ ⟨rb, 20, none⟩ := addr_ne (.inr (by omega))
  have n3 : (⟨rb, 19, none⟩ : Addr) ≠ ⟨rb, 20, none⟩ := addr_ne (.inr (by omega))
  clear hR
  go_enter Tryz.func37, Tryz.ntmps37
  go_wp2
  go_ret
  exact ⟨rfl, HR.out.below ((Below.refl _ _).alloc (Nat.le_refl _) _), But.of_below ((Below.refl _ _).alloc (Nat.le_refl _) _)⟩

set_option maxRecDepth 20000 in
theorem num_short (rb g n cap i : Nat) (en _E : Int) (c : Nat → Value) (lo hi : Int) (w : World) (hR : RdC w rb c) (h0 : c 18 = .int .i64 0) (_hn : n ≤ 200000) (_hil : i ≤ 200000) (_hs : n ≤ i) :
    Calls Tryz.prog 37 #[.pointer (some ⟨rb, 0, none⟩), .agg #[.slice (some ⟨g, 0, none⟩) n cap, .int .i64 en], .int .i64 i, .int .i64 lo, .int .i64 hi] w fun ev w' => ev = .returned (.int .i64 0) ∧ RdC w' rb (setF c 60 en ⟨#[]⟩) ∧ But rb rb w w' := by
  have HR : Hid (RdC w rb c) := hR
  have c18 : w.cell? ⟨rb, 18, none⟩ = some (.int .i64 0) := by rw [hR.c 18 (by omega), h0]
  have c19 := hR.c 19 (by omega)
  have c20 := hR.c 20 (by omega)
  have f18 := hR.f 18 (by omega)
  have f19 := hR.f 19 (by omega)
  have f20 := hR.f 20 (by omega)
  have hlt := hR.lt
  have n1 : (⟨rb, 18, none⟩ : Addr) ≠ ⟨rb, 19, none⟩ := addr_ne (.inr (by omega))
  have n2 : (⟨rb, 18, none⟩ : Addr) ≠ ⟨rb, 20, none⟩ := addr_ne (.inr (by omega))
  have n3 : (⟨rb, 19, none⟩ : Addr) ≠ ⟨rb, 20, none⟩ := addr_ne (.inr (by omega))
  clear hR
  go_enter Tryz.func37, Tryz.ntmps37
  go_wp2
  go_ret
  exact ⟨rfl, (((HR.out.set 18 _ (by omega)).set 19 _ (by omega)).set 20 _ (by omega)).below ((Below.refl _ _).alloc (Nat.le_refl _) _), (((But.setCell _ (.inl rfl)).trans (But.setCell _ (.inl rfl))).trans (But.setCell _ (.inl rfl))).trans (But.of_below ((Below.refl _ _).alloc (Nat.le_refl _) _))⟩

set_option maxRecDepth 20000 in
theorem num_bad (rb g n cap i : Nat) (en _E : Int) (c : Nat → Value) (lo hi : Int) (w : World) (hR : RdC w rb c) (h0 : c 18 = .int .i64 0) (_hn : n ≤ 200000) (_hil : i ≤ 200000) (x : ByteArray) (a : Int) (_hs : i < n) (_hg : g < w.heap.size) (_hx : w.cell? ⟨g, i * 2, none⟩ = some (.string x)) (_ha : w.cell? ⟨g, i * 2 + 1, none⟩ = some (.int .i64 a)) (hxs : x.size ≤ 200000) (hx0 : 0 < x.size) (hN : isNumB x.data.toList = false) :
    Calls Tryz.prog 37 #[.pointer (some ⟨rb, 0, none⟩), .agg #[.slice (some ⟨g, 0, none⟩) n cap, .int .i64 en], .int .i64 i, .int .i64 lo, .int .i64 hi] w fun ev w' => (∃ v, ev = .returned (.int .i64 v)) ∧ RdC w' rb (setF c 60 a x) ∧ But rb rb w w' := by
  have HR : Hid (RdC w rb c) := hR
  have c18 : w.cell? ⟨rb, 18, none⟩ = some (.int .i64 0) := by rw [hR.c 18 (by omega), h0]
  have c19 := hR.c 19 (by omega)
  have c20 := hR.c 20 (by omega)
  have f18 := hR.f 18 (by omega)
  have f19 := hR.f 19 (by omega)
  have f20 := hR.f 20 (by omega)
  have hlt := hR.lt
  have n1 : (⟨rb, 18, none⟩ : Addr) ≠ ⟨rb, 19, none⟩ := addr_ne (.inr (by omega))
  have n2 : (⟨rb, 18, none⟩ : Addr) ≠ ⟨rb, 20, none⟩ := addr_ne (.inr (by omega))
  have n3 : (⟨rb, 19, none⟩ : Addr) ≠ ⟨rb, 20, none⟩ := addr_ne (.inr (by omega))
  clear hR
  go_enter Tryz.func37, Tryz.ntmps37
  have Hn : Hid _ := refNumber x (w.alloc (.cells #[.slice (some ⟨g, 0, none⟩) n cap, .int .i64 en] 71)) hxs hx0
  generalize numV x.data.toList = V at *
  generalize isNumB x.data.toList = I at *
  subst hN
  have Hw : Hid _ := fun e => wrong_yes rb c e a x (w.alloc (.cells #[.slice (some ⟨g, 0, none⟩) n cap, .int .i64 en] 71)) (HR.out.below ((Below.refl _ _).alloc (Nat.le_refl _) _)) h0
  go_wp2_with (first
    | (go_at_call 36; refine Calls.mono (Hw.out _) ?_; rintro e w2 ⟨rfl, hR2, hb2⟩)
    | (go_at_call 56; refine Calls.mono Hn.out ?_; rintro e w1 ⟨rfl, hw1⟩; subst w1))
  go_ret
  exact ⟨⟨_, rfl⟩, hR2, (But.of_below ((Below.refl _ _).alloc (Nat.le_refl _) _)).trans hb2⟩

set_option maxRecDepth 20000 in
theorem num_far (rb g n cap i : Nat) (en _E : Int) (c : Nat → Value) (lo hi : Int) (w : World) (hR : RdC w rb c) (h0 : c 18 = .int .i64 0) (_hn : n ≤ 200000) (_hil : i ≤ 200000) (x : ByteArray) (a : Int) (_hs : i < n) (_hg : g < w.heap.size) (_hx : w.cell? ⟨g, i * 2, none⟩ = some (.string x)) (_ha : w.cell? ⟨g, i * 2 + 1, none⟩ = some (.int .i64 a)) (hxs : x.size ≤ 200000) (hx0 : 0 < x.size) (hN : isNumB x.data.toList = true) (hb : inB lo hi (numV x.data.toList) = false) :
    Calls Tryz.prog 37 #[.pointer (some ⟨rb, 0, none⟩), .agg #[.slice (some ⟨g, 0, none⟩) n cap, .int .i64 en], .int .i64 i, .int .i64 lo, .int .i64 hi] w fun ev w' => (∃ v, ev = .returned (.int .i64 v)) ∧ RdC w' rb (setF c 20 a x) ∧ But rb rb w w' := by
  have HR : Hid (RdC w rb c) := hR
  have c18 : w.cell? ⟨rb, 18, none⟩ = some (.int .i64 0) := by rw [hR.c 18 (by omega), h0]
  have c19 := hR.c 19 (by omega)
  have c20 := hR.c 20 (by omega)
  have f18 := hR.f 18 (by omega)
  have f19 := hR.f 19 (by omega)
  have f20 := hR.f 20 (by omega)
  have hlt := hR.lt
  have n1 : (⟨rb, 18, none⟩ : Addr) ≠ ⟨rb, 19, none⟩ := addr_ne (.inr (by omega))
  have n2 : (⟨rb, 18, none⟩ : Addr) ≠ ⟨rb, 20, none⟩ := addr_ne (.inr (by omega))
  have n3 : (⟨rb, 19, none⟩ : Addr) ≠ ⟨rb, 20, none⟩ := addr_ne (.inr (by omega))
  clear hR
  have Hn : Hid _ := refNumber x (w.alloc (.cells #[.slice (some ⟨g, 0, none⟩) n cap, .int .i64 en] 71)) hxs hx0
  generalize numV x.data.toList = V at *
  generalize isNumB x.data.toList = I at *
  subst hN
  have hor : V < lo ∨ (lo ≤ V ∧ hi < V) := by simp only [inB, Bool.and_eq_false_iff, decide_eq_false_iff_not] at hb; omega
  clear hb
  rcases hor with hl | ⟨hl, hl2⟩
  · go_enter Tryz.func37, Tryz.ntmps37
    have Hw : Hid _ := fun e => wrong_yes rb c e a x (w.alloc (.cells #[.slice (some ⟨g, 0, none⟩) n cap, .int .i64 en] 71)) (HR.out.below ((Below.refl _ _).alloc (Nat.le_refl _) _)) h0
    go_wp2_with (first
      | (go_at_call 36; refine Calls.mono (Hw.out _) ?_; rintro e w2 ⟨rfl, hR2, hb2⟩)
      | (go_at_call 56; refine Calls.mono Hn.out ?_; rintro e w1 ⟨rfl, hw1⟩; subst w1))
    go_ret
    exact ⟨⟨_, rfl⟩, hR2, (But.of_below ((Below.refl _ _).alloc (Nat.le_refl _) _)).trans hb2⟩
  · go_enter Tryz.func37, Tryz.ntmps37
    have Hw : Hid _ := fun e => wrong_yes rb c e a x (w.alloc (.cells #[.slice (some ⟨g, 0, none⟩) n cap, .int .i64 en] 71)) (HR.out.below ((Below.refl _ _).alloc (Nat.le_refl _) _)) h0
    go_wp2_with (first
      | (go_at_call 36; refine Calls.mono (Hw.out _) ?_; rintro e w2 ⟨rfl, hR2, hb2⟩)
      | (go_at_call 56; refine Calls.mono Hn.out ?_; rintro e w1 ⟨rfl, hw1⟩; subst w1))
    go_ret
    exact ⟨⟨_, rfl⟩, hR2, (But.of_below ((Below.refl _ _).alloc (Nat.le_refl _) _)).trans hb2⟩

set_option maxRecDepth 20000 in
theorem num_ok (rb g n cap i : Nat) (en _E : Int) (c : Nat → Value) (lo hi : Int) (w : World) (hR : RdC w rb c) (h0 : c 18 = .int .i64 0) (_hn : n ≤ 200000) (_hil : i ≤ 200000) (x : ByteArray) (a : Int) (_hs : i < n) (_hg : g < w.heap.size) (_hx : w.cell? ⟨g, i * 2, none⟩ = some (.string x)) (_ha : w.cell? ⟨g, i * 2 + 1, none⟩ = some (.int .i64 a)) (hxs : x.size ≤ 200000) (hx0 : 0 < x.size) (hN : isNumB x.data.toList = true) (hb : inB lo hi (numV x.data.toList) = true) :
    Calls Tryz.prog 37 #[.pointer (some ⟨rb, 0, none⟩), .agg #[.slice (some ⟨g, 0, none⟩) n cap, .int .i64 en], .int .i64 i, .int .i64 lo, .int .i64 hi] w fun ev w' => ev = .returned (.int .i64 (numV x.data.toList)) ∧ RdC w' rb c ∧ But rb rb w w' := by
  have HR : Hid (RdC w rb c) := hR
  have c18 : w.cell? ⟨rb, 18, none⟩ = some (.int .i64 0) := by rw [hR.c 18 (by omega), h0]
  have c19 := hR.c 19 (by omega)
  have c20 := hR.c 20 (by omega)
  have f18 := hR.f 18 (by omega)
  have f19 := hR.f 19 (by omega)
  have f20 := hR.f 20 (by omega)
  have hlt := hR.lt
  have n1 : (⟨rb, 18, none⟩ : Addr) ≠ ⟨rb, 19, none⟩ := addr_ne (.inr (by omega))
  have n2 : (⟨rb, 18, none⟩ : Addr) ≠ ⟨rb, 20, none⟩ := addr_ne (.inr (by omega))
  have n3 : (⟨rb, 19, none⟩ : Addr) ≠ ⟨rb, 20, none⟩ := addr_ne (.inr (by omega))
  clear hR
  go_enter Tryz.func37, Tryz.ntmps37
  have Hn : Hid _ := refNumber x (w.alloc (.cells #[.slice (some ⟨g, 0, none⟩) n cap, .int .i64 en] 71)) hxs hx0
  generalize numV x.data.toList = V at *
  generalize isNumB x.data.toList = I at *
  subst hN
  obtain ⟨b1, b2⟩ := inB_iff hb
  go_wp2_with (first
    | (go_at_call 56; refine Calls.mono Hn.out ?_; rintro e w1 ⟨rfl, hw1⟩; subst w1))
  go_ret
  exact ⟨rfl, HR.out.below ((Below.refl _ _).alloc (Nat.le_refl _) _), But.of_below ((Below.refl _ _).alloc (Nat.le_refl _) _)⟩

end Go.Proofs.YtgabnjiapkkjaaaGreatDoor.Tb
