/- What the reference's Lines answers: the lines of a text, of each its words and its end, read off the program by the walk. Conditions: the text has at most 200000 bytes. -/
import Derived.Test.YtgabnjiapkkjaaaGreatDoorRq
import Derived.Deep.RegionLaw
namespace Go.Proofs.YtgabnjiapkkjaaaGreatDoor.Tb
open Go.ChangeShapes Go.WideShapes Go.ChangeAt Go.RowKit

theorem b_eq {b c : UInt8} (n : Nat) (hc : c.toNat = n) (h : (b.toNat : Int) = (n : Int)) : b = c := UInt8.toNat_inj.1 (by omega)
theorem b_ne {b c : UInt8} (n : Nat) (hc : c.toNat = n) (h : ¬ (b.toNat : Int) = (n : Int)) : b ≠ c := by
  rintro rfl; exact h (by omega)
theorem Lm.drew {w0 w : World} {v uv : Value} {en : Nat} {acc : Lns} {ws : List (Nat × List UInt8)} {Bt : Nat} {vs : List Value} (h : Lm w0 w v uv en acc ws Bt vs) : Lm w0 w.drew v uv en acc ws Bt vs :=
  ⟨h.c0, h.c1, h.f0, h.f1, h.lo, h.hi, h.len, h.out, h.rows, h.cur, h.bel.drew⟩
/-- What is still to come at place k: no remark, no word under way. -/
def S0 (L : List UInt8) (acc : Lns) (ws : List (Nat × List UInt8)) (k : Nat) : Prop := acc ++ headL ws [] (L.drop k) k = linesT L
/-- A word under way since fr. -/
def S1 (L : List UInt8) (acc : Lns) (ws : List (Nat × List UInt8)) (fr k : Nat) : Prop := acc ++ headL ws (cutL L fr k) (L.drop k) k = linesT L
/-- Inside a remark. -/
def S2 (L : List UInt8) (acc : Lns) (ws : List (Nat × List UInt8)) (en k : Nat) : Prop := acc ++ headR ws en (L.drop k) k = linesT L
theorem flush_nil' (k : Nat) : flush k [] = [] := rfl
theorem cut_len (L : List UInt8) (fr k : Nat) (h : fr < k) (hk : k ≤ L.length) : (cutL L fr k).length = k - fr := by unfold cutL; simp; omega
theorem flush_word (L : List UInt8) (fr k : Nat) (h : fr < k) (hk : k ≤ L.length) : flush k (cutL L fr k) = [(fr, cutL L fr k)] := by
  have hl := cut_len L fr k h hk
  unfold flush
  rw [if_neg (by intro e; rw [e] at hl; simp at hl; omega), hl, show k - (k - fr) = fr by omega]
theorem S0.end_ {L : List UInt8} {acc : Lns} {ws : List (Nat × List UInt8)} {k : Nat} (h : S0 L acc ws k) (hk : k = L.length) : acc ++ [(ws, k)] = linesT L := by
  unfold S0 at h; rw [hk, List.drop_length, headL_end, flush_nil', List.append_nil] at h; rw [hk]; exact h
theorem S0.lf {L : List UInt8} {acc : Lns} {ws : List (Nat × List UInt8)} {k : Nat} (h : S0 L acc ws k) (hk : k < L.length) (hb : L[k] = 10) : S0 L (acc ++ [(ws, k)]) [] (k + 1) := by
  unfold S0 at *; rw [List.drop_eq_getElem_cons hk, hb, headL_10, flush_nil', List.append_nil] at h
  rw [List.append_assoc]; exact h
theorem S0.hash {L : List UInt8} {acc : Lns} {ws : List (Nat × List UInt8)} {k : Nat} (h : S0 L acc ws k) (hk : k < L.length) (hb : L[k] = 35) : S2 L acc ws k (k + 1) := by
  unfold S0 at h; unfold S2; rw [List.drop_eq_getElem_cons hk, hb, headL_35, flush_nil', List.append_nil] at h; exact h
theorem S0.blank {L : List UInt8} {acc : Lns} {ws : List (Nat × List UInt8)} {k : Nat} (h : S0 L acc ws k) (hk : k < L.length) (hb : blankB L[k] = true) : S0 L acc ws (k + 1) := by
  unfold S0 at *; rw [List.drop_eq_getElem_cons hk, headL_blank _ _ _ _ hb, flush_nil', List.append_nil] at h; exact h
theorem S0.go {L : List UInt8} {acc : Lns} {ws : List (Nat × List UInt8)} {k : Nat} (h : S0 L acc ws k) (hk : k < L.length) (hb : blankB L[k] = false) (h1 : L[k] ≠ 10) (h2 : L[k] ≠ 35) : S1 L acc ws k (k + 1) := by
  unfold S0 at h; unfold S1
  rw [List.drop_eq_getElem_cons hk, headL_go _ _ _ _ hb h1 h2] at h
  rw [cutL_snoc L k k (Nat.le_refl _) hk, cutL_same]; exact h
theorem S1.end_ {L : List UInt8} {acc : Lns} {ws : List (Nat × List UInt8)} {fr k : Nat} (h : S1 L acc ws fr k) (hf : fr < k) (hk : k = L.length) : acc ++ [(ws ++ [(fr, cutL L fr k)], k)] = linesT L := by
  unfold S1 at h
  rw [← flush_word L fr k hf (by omega)]
  rw [show L.drop k = [] by rw [hk, List.drop_length], headL_end] at h; exact h
theorem S1.lf {L : List UInt8} {acc : Lns} {ws : List (Nat × List UInt8)} {fr k : Nat} (h : S1 L acc ws fr k) (hf : fr < k) (hk : k < L.length) (hb : L[k] = 10) : S0 L (acc ++ [(ws ++ [(fr, cutL L fr k)], k)]) [] (k + 1) := by
  unfold S1 at h; unfold S0
  rw [← flush_word L fr k hf (by omega)]
  rw [List.drop_eq_getElem_cons hk, hb, headL_10] at h
  rw [List.append_assoc]; exact h
theorem S1.hash {L : List UInt8} {acc : Lns} {ws : List (Nat × List UInt8)} {fr k : Nat} (h : S1 L acc ws fr k) (hf : fr < k) (hk : k < L.length) (hb : L[k] = 35) : S2 L acc (ws ++ [(fr, cutL L fr k)]) k (k + 1) := by
  unfold S1 at h; unfold S2
  rw [← flush_word L fr k hf (by omega)]
  rw [List.drop_eq_getElem_cons hk, hb, headL_35] at h; exact h
theorem S1.blank {L : List UInt8} {acc : Lns} {ws : List (Nat × List UInt8)} {fr k : Nat} (h : S1 L acc ws fr k) (hf : fr < k) (hk : k < L.length) (hb : blankB L[k] = true) : S0 L acc (ws ++ [(fr, cutL L fr k)]) (k + 1) := by
  unfold S1 at h; unfold S0
  rw [← flush_word L fr k hf (by omega)]
  rw [List.drop_eq_getElem_cons hk, headL_blank _ _ _ _ hb] at h; exact h
theorem S1.go {L : List UInt8} {acc : Lns} {ws : List (Nat × List UInt8)} {fr k : Nat} (h : S1 L acc ws fr k) (hf : fr < k) (hk : k < L.length) (hb : blankB L[k] = false) (h1 : L[k] ≠ 10) (h2 : L[k] ≠ 35) : S1 L acc ws fr (k + 1) := by
  unfold S1 at *
  rw [List.drop_eq_getElem_cons hk, headL_go _ _ _ _ hb h1 h2, ← cutL_snoc L fr k (by omega) hk] at h; exact h
theorem S2.end_ {L : List UInt8} {acc : Lns} {ws : List (Nat × List UInt8)} {en k : Nat} (h : S2 L acc ws en k) (hk : k = L.length) : acc ++ [(ws, en)] = linesT L := by
  unfold S2 at h; rw [hk, List.drop_length, headR_end] at h; exact h
theorem S2.lf {L : List UInt8} {acc : Lns} {ws : List (Nat × List UInt8)} {en k : Nat} (h : S2 L acc ws en k) (hk : k < L.length) (hb : L[k] = 10) : S0 L (acc ++ [(ws, en)]) [] (k + 1) := by
  unfold S2 at h; unfold S0; rw [List.drop_eq_getElem_cons hk, hb, headR_10] at h
  rw [List.append_assoc]; exact h
theorem S2.go {L : List UInt8} {acc : Lns} {ws : List (Nat × List UInt8)} {en k : Nat} (h : S2 L acc ws en k) (hk : k < L.length) (h1 : L[k] ≠ 10) : S2 L acc ws en (k + 1) := by
  unfold S2 at *; rw [List.drop_eq_getElem_cons hk, headR_go _ _ _ _ h1] at h; exact h

theorem one2 {u : Value} (h : u.oneCell' = true) (n : Int) : ∀ x ∈ [u, Value.int .i64 n], x.oneCell' = true := by
  intro x hx
  rw [List.mem_cons, List.mem_singleton] at hx
  rcases hx with rfl | rfl
  · exact h
  · rfl
theorem one_slice {w : World} {B : Nat} {e : TypeId} {z n : Nat} {v : Value} {xs : List Value} (h : w.ownsRow B e z v n xs) : v.oneCell' = true := by
  rcases h.2 with ⟨rfl, _⟩ | ⟨g, cap, cur, rfl, _⟩ <;> rfl
set_option maxRecDepth 20000 in
set_option maxHeartbeats 8000000 in
theorem lines_any (s : ByteArray) (w : World) (hs : s.size ≤ 200000) : Calls Tryz.prog 25 #[.string s] w fun e w' => ∃ v, e = .returned v ∧ LinesR w' (w.heap.size + 1) v (linesT s.data.toList) ∧ Below w.heap.size w w' := by
  obtain ⟨i0, hi, hi2⟩ := Option.map_eq_some_iff.1 info96
  simp only [Prod.mk.injEq] at hi2
  obtain ⟨hz0, hz1, hz2⟩ := hi2
  have HI : Hid (Tryz.prog.info? 96 = some i0 ∧ i0.zero = some (.agg #[.string ⟨#[]⟩, .int .i64 0]) ∧ i0.size = 2 ∧ i0.bytes = 24) := ⟨hi, hz0, hz1, hz2⟩
  clear hi hz0 hz1 hz2
  obtain ⟨j0, hi, hi2⟩ := Option.map_eq_some_iff.1 info71
  simp only [Prod.mk.injEq] at hi2
  obtain ⟨hz0, hz1, hz2⟩ := hi2
  have HJ : Hid (Tryz.prog.info? 71 = some j0 ∧ j0.zero = some (.agg #[.slice none 0 0, .int .i64 0]) ∧ j0.size = 2 ∧ j0.bytes = 32) := ⟨hi, hz0, hz1, hz2⟩
  clear hi hz0 hz1 hz2
  have hsl : s.data.toList.length = s.size := rfl
  have HSL : Hid (s.data.toList.length = s.size) := hsl
  clear hsl
  go_enter Tryz.func25, Tryz.ntmps25
  go_wp2
  go_loopw [3, 5, 6, 7] (fun v f r i wr => ∃ (k en : Nat) (acc : Lns) (ws : List (Nat × List UInt8)) (uv : Value) (Bt : Nat) (vs : List Value), i = .int .i64 k ∧ k ≤ s.size + 1 ∧ acc.length ≤ k ∧ ws.length ≤ k ∧ Hid (Lm w wr v uv en acc ws Bt vs) ∧
      ((r = .bool false ∧ f = .int .i64 (-1) ∧ k ≤ s.size ∧ Hid (S0 s.data.toList acc ws k)) ∨ (∃ fr : Nat, r = .bool false ∧ f = .int .i64 fr ∧ fr < k ∧ k ≤ s.size ∧ Hid (S1 s.data.toList acc ws fr k)) ∨ (r = .bool true ∧ f = .int .i64 (-1) ∧ k ≤ s.size ∧ Hid (S2 s.data.toList acc ws en k)) ∨ (r = .bool false ∧ f = .int .i64 (-1) ∧ k = s.size + 1 ∧ Hid (acc = linesT s.data.toList)))) (fun _ _ _ i _ => s.size + 2 - (intOf i).toNat)
  case atStart => exact ⟨0, 0, [], [], _, _, [], rfl, by omega, by simp, by simp, Lm.begin w, .inl ⟨rfl, rfl, by omega, (by show S0 _ _ _ _; unfold S0; simp [head_all] : S0 s.data.toList [] [] 0)⟩⟩
  case round =>
    rename_i wr
    obtain ⟨k, en, acc, ws, uv, Bt, vs, rfl, hk, hacl, hwsl, HM, hst⟩ := hrel
    have c0 := HM.out.c0
    have c1 := HM.out.c1
    have f0 := HM.out.f0
    have f1 := HM.out.f1
    have hlo := HM.out.lo
    have hhi := HM.out.hi
    have z0 : w.heap.size < wr.heap.size := by omega
    have n01 : (⟨w.heap.size, 0, none⟩ : Addr) ≠ ⟨w.heap.size, 1, none⟩ := addr_ne (.inr (by omega))
    rcases hst with ⟨rfl, rfl, hk1, HX⟩ | ⟨fr, rfl, rfl, hfr, hk1, HX⟩ | ⟨rfl, rfl, hk1, HX⟩ | ⟨rfl, rfl, rfl, HX⟩
    · by_cases hend : k = s.size
      · subst hend
        have i1 : (s.size : Int) ≤ (s.size : Int) := by omega
        have HMe : Hid (Lm w (wr.setCell ⟨w.heap.size, 1, none⟩ (.int .i64 (s.size : Int))) u3 uv s.size acc ws Bt vs) := HM.out.ends s.size
        have HU : ∀ u ∈ [uv, Value.int .i64 (s.size : Int)], u.oneCell' = true := one2 (one_slice HM.out.cur) _
        go_wp2_with (first | (at_builtin; refine wpList_append_lies _ rfl _ _ 67 rfl (w.heap.size + 1) 71 j0 (.agg #[.slice none 0 0, .int .i64 0]) 2 32 Tryz.underlying67 HJ.out.1 HJ.out.2.1 HJ.out.2.2.1 HJ.out.2.2.2 rfl (by decide) _ _ _ rfl (HMe.out.out.alloc _) ⟨wr.heap.size, 0, none⟩ 1 1 [uv, .int .i64 (s.size : Int)] rfl rfl (by have hh := heap_alloc_new (wr.setCell ⟨w.heap.size, 1, none⟩ (.int .i64 (s.size : Int))) (Obj.cells #[uv, .int .i64 (s.size : Int)] 71); rw [show (wr.setCell ⟨w.heap.size, 1, none⟩ (.int .i64 (s.size : Int))).heap.size = wr.heap.size by simp] at hh; exact World.news_of_block hh) HU (by decide) (by unfold maxLen; omega) (by omega) (by have q1 := HMe.out.hi; have q2 := HMe.out.lo; simp at q1 ⊢; omega) (wr.heap.size + 1) (by simp) ?_; intro g3 cap3 w3 hown3 hgrow3 hat3 hlt3; have hbL : Below (w.heap.size + 1) (wr.setCell ⟨w.heap.size, 1, none⟩ (.int .i64 (s.size : Int))) w3 := ((Below.refl _ _).alloc (by have q1 := HMe.out.hi; have q2 := HMe.out.lo; omega) _).grown hgrow3 (by have q1 := HMe.out.hi; have q2 := HMe.out.lo; simp at q1 ⊢; omega) (fun b hb => (HMe.out.out.lt b hb).1); have m0 := ((bcell hbL).1 _ 0 (Nat.lt_succ_self _)).trans HMe.out.c0; have m1 := ((bcell hbL).1 _ 1 (Nat.lt_succ_self _)).trans HMe.out.c1; have m2 := ((bcell hbL).2 _ 0 (Nat.lt_succ_self _)).trans HMe.out.f0; have m3 := ((bcell hbL).2 _ 1 (Nat.lt_succ_self _)).trans HMe.out.f1; have HM3 : Hid _ := HMe.out.line hown3 hgrow3; clear hbL hown3 hgrow3 hat3 hlt3))
        go_roundw
        case rel => exact ⟨s.size + 1, 0, _, [], _, _, _, by go_num, by omega, (by rw [List.length_append]; simpa using hacl), by simp, HM3, .inr (.inr (.inr ⟨rfl, rfl, by omega, HX.out.end_ rfl⟩))⟩
        case measure => (simp [intOf] <;> omega)
      · by_cases q10 : (s[k]'(by omega) |>.toNat : Int) = 10
        · have i1 : (k : Int) ≤ (s.size : Int) := by omega
          have hlt : k < s.size := by omega
          have hkn : ((k : Int) == (s.size : Int)) = false := by simp; omega
          have e10 : ((s[k].toNat : Int) == 10) = true := by simpa using q10
          have HMe : Hid (Lm w (wr.setCell ⟨w.heap.size, 1, none⟩ (.int .i64 (k : Int))) u3 uv k acc ws Bt vs) := HM.out.ends k
          have HU : ∀ u ∈ [uv, Value.int .i64 (k : Int)], u.oneCell' = true := one2 (one_slice HM.out.cur) _
          go_wp2_with (first | (at_builtin; refine wpList_append_lies _ rfl _ _ 67 rfl (w.heap.size + 1) 71 j0 (.agg #[.slice none 0 0, .int .i64 0]) 2 32 Tryz.underlying67 HJ.out.1 HJ.out.2.1 HJ.out.2.2.1 HJ.out.2.2.2 rfl (by decide) _ _ _ rfl (HMe.out.out.alloc _) ⟨wr.heap.size, 0, none⟩ 1 1 [uv, .int .i64 (k : Int)] rfl rfl (by have hh := heap_alloc_new (wr.setCell ⟨w.heap.size, 1, none⟩ (.int .i64 (k : Int))) (Obj.cells #[uv, .int .i64 (k : Int)] 71); rw [show (wr.setCell ⟨w.heap.size, 1, none⟩ (.int .i64 (k : Int))).heap.size = wr.heap.size by simp] at hh; exact World.news_of_block hh) HU (by decide) (by unfold maxLen; omega) (by omega) (by have q1 := HMe.out.hi; have q2 := HMe.out.lo; simp at q1 ⊢; omega) (wr.heap.size + 1) (by simp) ?_; intro g3 cap3 w3 hown3 hgrow3 hat3 hlt3; have hbL : Below (w.heap.size + 1) (wr.setCell ⟨w.heap.size, 1, none⟩ (.int .i64 (k : Int))) w3 := ((Below.refl _ _).alloc (by have q1 := HMe.out.hi; have q2 := HMe.out.lo; omega) _).grown hgrow3 (by have q1 := HMe.out.hi; have q2 := HMe.out.lo; simp at q1 ⊢; omega) (fun b hb => (HMe.out.out.lt b hb).1); have m0 := ((bcell hbL).1 _ 0 (Nat.lt_succ_self _)).trans HMe.out.c0; have m1 := ((bcell hbL).1 _ 1 (Nat.lt_succ_self _)).trans HMe.out.c1; have m2 := ((bcell hbL).2 _ 0 (Nat.lt_succ_self _)).trans HMe.out.f0; have m3 := ((bcell hbL).2 _ 1 (Nat.lt_succ_self _)).trans HMe.out.f1; have HM3 : Hid _ := HMe.out.line hown3 hgrow3; clear hbL hown3 hgrow3 hat3 hlt3))
          go_roundw
          case rel => exact ⟨k + 1, 0, _, [], _, _, _, by go_num, by omega, (by rw [List.length_append]; simpa using hacl), by simp, HM3, .inl ⟨rfl, rfl, by omega, HX.out.lf (by rw [HSL.out]; omega) (b_eq 10 rfl q10)⟩⟩
          case measure => (simp [intOf] <;> omega)
        · by_cases q32 : (s[k]'(by omega) |>.toNat : Int) = 32
          · have i1 : (k : Int) ≤ (s.size : Int) := by omega
            have hlt : k < s.size := by omega
            have hkn : ((k : Int) == (s.size : Int)) = false := by simp; omega
            have e10 : ((s[k].toNat : Int) == 10) = false := by simpa using q10
            have e32 : ((s[k].toNat : Int) == 32) = true := by simpa using q32
            have e35 : ((s[k].toNat : Int) == 35) = false := by simp; omega
            go_wp2
            go_roundw
            case rel => exact ⟨k + 1, en, acc, ws, uv, Bt, vs, by go_num, by omega, by omega, by omega, HM, .inl ⟨rfl, rfl, by omega, HX.out.blank (by rw [HSL.out]; omega) (by rw [show s.data.toList[k]'(by rw [HSL.out]; omega) = 32 from b_eq 32 rfl q32]; rfl)⟩⟩
            case measure => (simp [intOf] <;> omega)
          · by_cases q9 : (s[k]'(by omega) |>.toNat : Int) = 9
            · have i1 : (k : Int) ≤ (s.size : Int) := by omega
              have hlt : k < s.size := by omega
              have hkn : ((k : Int) == (s.size : Int)) = false := by simp; omega
              have e10 : ((s[k].toNat : Int) == 10) = false := by simpa using q10
              have e32 : ((s[k].toNat : Int) == 32) = false := by simpa using q32
              have e9 : ((s[k].toNat : Int) == 9) = true := by simpa using q9
              have e35 : ((s[k].toNat : Int) == 35) = false := by simp; omega
              go_wp2
              go_roundw
              case rel => exact ⟨k + 1, en, acc, ws, uv, Bt, vs, by go_num, by omega, by omega, by omega, HM, .inl ⟨rfl, rfl, by omega, HX.out.blank (by rw [HSL.out]; omega) (by rw [show s.data.toList[k]'(by rw [HSL.out]; omega) = 9 from b_eq 9 rfl q9]; rfl)⟩⟩
              case measure => (simp [intOf] <;> omega)
            · by_cases q35 : (s[k]'(by omega) |>.toNat : Int) = 35
              · have i1 : (k : Int) ≤ (s.size : Int) := by omega
                have hlt : k < s.size := by omega
                have hkn : ((k : Int) == (s.size : Int)) = false := by simp; omega
                have e10 : ((s[k].toNat : Int) == 10) = false := by simpa using q10
                have e32 : ((s[k].toNat : Int) == 32) = false := by simpa using q32
                have e9 : ((s[k].toNat : Int) == 9) = false := by simpa using q9
                have e35 : ((s[k].toNat : Int) == 35) = true := by simpa using q35
                have HMe : Hid (Lm w (wr.setCell ⟨w.heap.size, 1, none⟩ (.int .i64 (k : Int))) u3 uv k acc ws Bt vs) := HM.out.ends k
                go_wp2
                go_roundw
                case rel => exact ⟨k + 1, k, acc, ws, uv, Bt, vs, by go_num, by omega, by omega, by omega, HMe, .inr (.inr (.inl ⟨rfl, rfl, by omega, HX.out.hash (by rw [HSL.out]; omega) (b_eq 35 rfl q35)⟩))⟩
                case measure => (simp [intOf] <;> omega)
              · have i1 : (k : Int) ≤ (s.size : Int) := by omega
                have hlt : k < s.size := by omega
                have hkn : ((k : Int) == (s.size : Int)) = false := by simp; omega
                have e10 : ((s[k].toNat : Int) == 10) = false := by simpa using q10
                have e32 : ((s[k].toNat : Int) == 32) = false := by simpa using q32
                have e9 : ((s[k].toNat : Int) == 9) = false := by simpa using q9
                have e35 : ((s[k].toNat : Int) == 35) = false := by simpa using q35
                go_wp2
                go_roundw
                case rel => exact ⟨k + 1, en, acc, ws, uv, Bt, vs, by go_num, by omega, by omega, by omega, HM, .inr (.inl ⟨k, rfl, rfl, by omega, by omega, HX.out.go (by rw [HSL.out]; omega) (by unfold blankB; simp only [Bool.or_eq_false_iff, beq_eq_false_iff_ne]; exact ⟨b_ne 32 rfl q32, b_ne 9 rfl q9⟩) (b_ne 10 rfl q10) (b_ne 35 rfl q35)⟩)⟩
                case measure => (simp [intOf] <;> omega)
    · by_cases hend : k = s.size
      · subst hend
        have i1 : (s.size : Int) ≤ (s.size : Int) := by omega
        have i2 : (fr : Int) ≤ (s.size : Int) := by omega
        have i3 : (0 : Int) ≤ (fr : Int) := by omega
        go_wp2
        go_region_law ((refine step_append_lies _ (by rfl) (.tmp 56) (.tmp 63) 69 (by rfl) Bt 96 i0 (.agg #[.string ⟨#[]⟩, .int .i64 0]) 2 24 Tryz.underlying69 HI.out.1 HI.out.2.1 HI.out.2.2.1 HI.out.2.2.2 rfl (by decide) uv ws.length (rcells ws) (by rfl) (HM.out.cur.drew.alloc _) ⟨wr.heap.size, 0, none⟩ 1 1 [.string (s.extract fr s.size), .int .i64 (fr : Int)] (by rfl) rfl (World.news_of_block (heap_alloc_new wr.drew _)) (one2 rfl _) (by decide) (by unfold maxLen; omega) (by omega) (by simp; omega) (wr.heap.size + 1) (by simp) ?_; intro g cap w1 hown1 hgrow hat hlt3; have hbA : Below Bt wr w1 := ((Below.refl _ wr).drew.alloc hhi _).grown hgrow (by simp; omega) (fun b hb => (HM.out.cur.lt b hb).1); have k0 : w1.cell? ⟨w.heap.size, 0, none⟩ = some uv := ((bcell hbA).1 _ _ (by omega)).trans c0; have k1 : w1.frozen? ⟨w.heap.size, 0, none⟩ = false := ((bcell hbA).2 _ _ (by omega)).trans f0))
        all_goals
          obtain ⟨u2, hu2⟩ : ∃ u2 : Value, u2 = .slice (some ⟨g, 0, none⟩) (ws.length + 1) cap := ⟨_, rfl⟩
          rw [← hu2] at hown1
          try rw [← hu2]
          obtain ⟨w2, hw2⟩ : ∃ w2, w2 = w1.setCell ⟨w.heap.size, 0, none⟩ u2 := ⟨_, rfl⟩
          have HM2 : Hid (Lm w w2 u3 u2 en acc (ws ++ [(fr, cutL s.data.toList fr s.size)]) Bt vs) := by
            rw [hw2]; exact HM.out.drew.word (x := (fr, cutL s.data.toList fr s.size)) (by rw [← extract_eq]; exact hown1) hgrow
          rw [← hw2]
          clear hw2 hu2 hown1 hgrow hat hlt3 hbA k0 k1 c0 c1 f0 f1 z0 hhi
          have c0 := HM2.out.c0
          have c1 := HM2.out.c1
          have f0 := HM2.out.f0
          have f1 := HM2.out.f1
          have hhi := HM2.out.hi
          have z0 : w.heap.size < w2.heap.size := by omega
          have hwsl2 : (ws ++ [(fr, cutL s.data.toList fr s.size)]).length ≤ s.size + 1 := by simp; omega
          have HMe : Hid (Lm w (w2.setCell ⟨w.heap.size, 1, none⟩ (.int .i64 (s.size : Int))) u3 u2 s.size acc (ws ++ [(fr, cutL s.data.toList fr s.size)]) Bt vs) := HM2.out.ends s.size
          have HU : ∀ u ∈ [u2, Value.int .i64 (s.size : Int)], u.oneCell' = true := one2 (one_slice HM2.out.cur) _
          go_wp2_with (first | (at_builtin; refine wpList_append_lies _ rfl _ _ 67 rfl (w.heap.size + 1) 71 j0 (.agg #[.slice none 0 0, .int .i64 0]) 2 32 Tryz.underlying67 HJ.out.1 HJ.out.2.1 HJ.out.2.2.1 HJ.out.2.2.2 rfl (by decide) _ _ _ rfl (HMe.out.out.alloc _) ⟨w2.heap.size, 0, none⟩ 1 1 [u2, .int .i64 (s.size : Int)] rfl rfl (by have hh := heap_alloc_new (w2.setCell ⟨w.heap.size, 1, none⟩ (.int .i64 (s.size : Int))) (Obj.cells #[u2, .int .i64 (s.size : Int)] 71); rw [show (w2.setCell ⟨w.heap.size, 1, none⟩ (.int .i64 (s.size : Int))).heap.size = w2.heap.size by simp] at hh; exact World.news_of_block hh) HU (by decide) (by unfold maxLen; omega) (by omega) (by have q1 := HMe.out.hi; have q2 := HMe.out.lo; simp at q1 ⊢; omega) (w2.heap.size + 1) (by simp) ?_; intro g3 cap3 w3 hown3 hgrow3 hat3 hlt3; have hbL : Below (w.heap.size + 1) (w2.setCell ⟨w.heap.size, 1, none⟩ (.int .i64 (s.size : Int))) w3 := ((Below.refl _ _).alloc (by have q1 := HMe.out.hi; have q2 := HMe.out.lo; omega) _).grown hgrow3 (by have q1 := HMe.out.hi; have q2 := HMe.out.lo; simp at q1 ⊢; omega) (fun b hb => (HMe.out.out.lt b hb).1); have m0 := ((bcell hbL).1 _ 0 (Nat.lt_succ_self _)).trans HMe.out.c0; have m1 := ((bcell hbL).1 _ 1 (Nat.lt_succ_self _)).trans HMe.out.c1; have m2 := ((bcell hbL).2 _ 0 (Nat.lt_succ_self _)).trans HMe.out.f0; have m3 := ((bcell hbL).2 _ 1 (Nat.lt_succ_self _)).trans HMe.out.f1; have HM3 : Hid _ := HMe.out.line hown3 hgrow3; clear hbL hown3 hgrow3 hat3 hlt3))
          go_roundw
          case rel => exact ⟨s.size + 1, 0, _, [], _, _, _, by go_num, by omega, (by rw [List.length_append]; simpa using hacl), by simp, HM3, .inr (.inr (.inr ⟨rfl, rfl, by omega, HX.out.end_ hfr rfl⟩))⟩
          case measure => (simp [intOf] <;> omega)
      · by_cases q10 : (s[k]'(by omega) |>.toNat : Int) = 10
        · have i1 : (k : Int) ≤ (s.size : Int) := by omega
          have hlt : k < s.size := by omega
          have hkn : ((k : Int) == (s.size : Int)) = false := by simp; omega
          have e10 : ((s[k].toNat : Int) == 10) = true := by simpa using q10
          have i2 : (fr : Int) ≤ (k : Int) := by omega
          have i3 : (0 : Int) ≤ (fr : Int) := by omega
          go_wp2
          go_region_law ((refine step_append_lies _ (by rfl) (.tmp 56) (.tmp 63) 69 (by rfl) Bt 96 i0 (.agg #[.string ⟨#[]⟩, .int .i64 0]) 2 24 Tryz.underlying69 HI.out.1 HI.out.2.1 HI.out.2.2.1 HI.out.2.2.2 rfl (by decide) uv ws.length (rcells ws) (by rfl) (HM.out.cur.drew.alloc _) ⟨wr.heap.size, 0, none⟩ 1 1 [.string (s.extract fr k), .int .i64 (fr : Int)] (by rfl) rfl (World.news_of_block (heap_alloc_new wr.drew _)) (one2 rfl _) (by decide) (by unfold maxLen; omega) (by omega) (by simp; omega) (wr.heap.size + 1) (by simp) ?_; intro g cap w1 hown1 hgrow hat hlt3; have hbA : Below Bt wr w1 := ((Below.refl _ wr).drew.alloc hhi _).grown hgrow (by simp; omega) (fun b hb => (HM.out.cur.lt b hb).1); have k0 : w1.cell? ⟨w.heap.size, 0, none⟩ = some uv := ((bcell hbA).1 _ _ (by omega)).trans c0; have k1 : w1.frozen? ⟨w.heap.size, 0, none⟩ = false := ((bcell hbA).2 _ _ (by omega)).trans f0))
          all_goals
            obtain ⟨u2, hu2⟩ : ∃ u2 : Value, u2 = .slice (some ⟨g, 0, none⟩) (ws.length + 1) cap := ⟨_, rfl⟩
            rw [← hu2] at hown1
            try rw [← hu2]
            obtain ⟨w2, hw2⟩ : ∃ w2, w2 = w1.setCell ⟨w.heap.size, 0, none⟩ u2 := ⟨_, rfl⟩
            have HM2 : Hid (Lm w w2 u3 u2 en acc (ws ++ [(fr, cutL s.data.toList fr k)]) Bt vs) := by
              rw [hw2]; exact HM.out.drew.word (x := (fr, cutL s.data.toList fr k)) (by rw [← extract_eq]; exact hown1) hgrow
            rw [← hw2]
            clear hw2 hu2 hown1 hgrow hat hlt3 hbA k0 k1 c0 c1 f0 f1 z0 hhi
            have c0 := HM2.out.c0
            have c1 := HM2.out.c1
            have f0 := HM2.out.f0
            have f1 := HM2.out.f1
            have hhi := HM2.out.hi
            have z0 : w.heap.size < w2.heap.size := by omega
            have hwsl2 : (ws ++ [(fr, cutL s.data.toList fr k)]).length ≤ k + 1 := by simp; omega
            have HMe : Hid (Lm w (w2.setCell ⟨w.heap.size, 1, none⟩ (.int .i64 (k : Int))) u3 u2 k acc (ws ++ [(fr, cutL s.data.toList fr k)]) Bt vs) := HM2.out.ends k
            have HU : ∀ u ∈ [u2, Value.int .i64 (k : Int)], u.oneCell' = true := one2 (one_slice HM2.out.cur) _
            go_wp2_with (first | (at_builtin; refine wpList_append_lies _ rfl _ _ 67 rfl (w.heap.size + 1) 71 j0 (.agg #[.slice none 0 0, .int .i64 0]) 2 32 Tryz.underlying67 HJ.out.1 HJ.out.2.1 HJ.out.2.2.1 HJ.out.2.2.2 rfl (by decide) _ _ _ rfl (HMe.out.out.alloc _) ⟨w2.heap.size, 0, none⟩ 1 1 [u2, .int .i64 (k : Int)] rfl rfl (by have hh := heap_alloc_new (w2.setCell ⟨w.heap.size, 1, none⟩ (.int .i64 (k : Int))) (Obj.cells #[u2, .int .i64 (k : Int)] 71); rw [show (w2.setCell ⟨w.heap.size, 1, none⟩ (.int .i64 (k : Int))).heap.size = w2.heap.size by simp] at hh; exact World.news_of_block hh) HU (by decide) (by unfold maxLen; omega) (by omega) (by have q1 := HMe.out.hi; have q2 := HMe.out.lo; simp at q1 ⊢; omega) (w2.heap.size + 1) (by simp) ?_; intro g3 cap3 w3 hown3 hgrow3 hat3 hlt3; have hbL : Below (w.heap.size + 1) (w2.setCell ⟨w.heap.size, 1, none⟩ (.int .i64 (k : Int))) w3 := ((Below.refl _ _).alloc (by have q1 := HMe.out.hi; have q2 := HMe.out.lo; omega) _).grown hgrow3 (by have q1 := HMe.out.hi; have q2 := HMe.out.lo; simp at q1 ⊢; omega) (fun b hb => (HMe.out.out.lt b hb).1); have m0 := ((bcell hbL).1 _ 0 (Nat.lt_succ_self _)).trans HMe.out.c0; have m1 := ((bcell hbL).1 _ 1 (Nat.lt_succ_self _)).trans HMe.out.c1; have m2 := ((bcell hbL).2 _ 0 (Nat.lt_succ_self _)).trans HMe.out.f0; have m3 := ((bcell hbL).2 _ 1 (Nat.lt_succ_self _)).trans HMe.out.f1; have HM3 : Hid _ := HMe.out.line hown3 hgrow3; clear hbL hown3 hgrow3 hat3 hlt3))
            go_roundw
            case rel => exact ⟨k + 1, 0, _, [], _, _, _, by go_num, by omega, (by rw [List.length_append]; simpa using hacl), by simp, HM3, .inl ⟨rfl, rfl, by omega, HX.out.lf hfr (by rw [HSL.out]; omega) (b_eq 10 rfl q10)⟩⟩
            case measure => (simp [intOf] <;> omega)
        · by_cases q32 : (s[k]'(by omega) |>.toNat : Int) = 32
          · have i1 : (k : Int) ≤ (s.size : Int) := by omega
            have hlt : k < s.size := by omega
            have hkn : ((k : Int) == (s.size : Int)) = false := by simp; omega
            have e10 : ((s[k].toNat : Int) == 10) = false := by simpa using q10
            have e32 : ((s[k].toNat : Int) == 32) = true := by simpa using q32
            have e35 : ((s[k].toNat : Int) == 35) = false := by simp; omega
            have i2 : (fr : Int) ≤ (k : Int) := by omega
            have i3 : (0 : Int) ≤ (fr : Int) := by omega
            go_wp2
            go_region_law ((refine step_append_lies _ (by rfl) (.tmp 56) (.tmp 63) 69 (by rfl) Bt 96 i0 (.agg #[.string ⟨#[]⟩, .int .i64 0]) 2 24 Tryz.underlying69 HI.out.1 HI.out.2.1 HI.out.2.2.1 HI.out.2.2.2 rfl (by decide) uv ws.length (rcells ws) (by rfl) (HM.out.cur.drew.alloc _) ⟨wr.heap.size, 0, none⟩ 1 1 [.string (s.extract fr k), .int .i64 (fr : Int)] (by rfl) rfl (World.news_of_block (heap_alloc_new wr.drew _)) (one2 rfl _) (by decide) (by unfold maxLen; omega) (by omega) (by simp; omega) (wr.heap.size + 1) (by simp) ?_; intro g cap w1 hown1 hgrow hat hlt3; have hbA : Below Bt wr w1 := ((Below.refl _ wr).drew.alloc hhi _).grown hgrow (by simp; omega) (fun b hb => (HM.out.cur.lt b hb).1); have k0 : w1.cell? ⟨w.heap.size, 0, none⟩ = some uv := ((bcell hbA).1 _ _ (by omega)).trans c0; have k1 : w1.frozen? ⟨w.heap.size, 0, none⟩ = false := ((bcell hbA).2 _ _ (by omega)).trans f0))
            all_goals
              obtain ⟨u2, hu2⟩ : ∃ u2 : Value, u2 = .slice (some ⟨g, 0, none⟩) (ws.length + 1) cap := ⟨_, rfl⟩
              rw [← hu2] at hown1
              try rw [← hu2]
              obtain ⟨w2, hw2⟩ : ∃ w2, w2 = w1.setCell ⟨w.heap.size, 0, none⟩ u2 := ⟨_, rfl⟩
              have HM2 : Hid (Lm w w2 u3 u2 en acc (ws ++ [(fr, cutL s.data.toList fr k)]) Bt vs) := by
                rw [hw2]; exact HM.out.drew.word (x := (fr, cutL s.data.toList fr k)) (by rw [← extract_eq]; exact hown1) hgrow
              rw [← hw2]
              clear hw2 hu2 hown1 hgrow hat hlt3 hbA k0 k1 c0 c1 f0 f1 z0 hhi
              have c0 := HM2.out.c0
              have c1 := HM2.out.c1
              have f0 := HM2.out.f0
              have f1 := HM2.out.f1
              have hhi := HM2.out.hi
              have z0 : w.heap.size < w2.heap.size := by omega
              have hwsl2 : (ws ++ [(fr, cutL s.data.toList fr k)]).length ≤ k + 1 := by simp; omega
              go_wp2
              go_roundw
              case rel => exact ⟨k + 1, en, acc, _, u2, Bt, vs, by go_num, by omega, by omega, hwsl2, HM2, .inl ⟨rfl, rfl, by omega, HX.out.blank hfr (by rw [HSL.out]; omega) (by rw [show s.data.toList[k]'(by rw [HSL.out]; omega) = 32 from b_eq 32 rfl q32]; rfl)⟩⟩
              case measure => (simp [intOf] <;> omega)
          · by_cases q9 : (s[k]'(by omega) |>.toNat : Int) = 9
            · have i1 : (k : Int) ≤ (s.size : Int) := by omega
              have hlt : k < s.size := by omega
              have hkn : ((k : Int) == (s.size : Int)) = false := by simp; omega
              have e10 : ((s[k].toNat : Int) == 10) = false := by simpa using q10
              have e32 : ((s[k].toNat : Int) == 32) = false := by simpa using q32
              have e9 : ((s[k].toNat : Int) == 9) = true := by simpa using q9
              have e35 : ((s[k].toNat : Int) == 35) = false := by simp; omega
              have i2 : (fr : Int) ≤ (k : Int) := by omega
              have i3 : (0 : Int) ≤ (fr : Int) := by omega
              go_wp2
              go_region_law ((refine step_append_lies _ (by rfl) (.tmp 56) (.tmp 63) 69 (by rfl) Bt 96 i0 (.agg #[.string ⟨#[]⟩, .int .i64 0]) 2 24 Tryz.underlying69 HI.out.1 HI.out.2.1 HI.out.2.2.1 HI.out.2.2.2 rfl (by decide) uv ws.length (rcells ws) (by rfl) (HM.out.cur.drew.alloc _) ⟨wr.heap.size, 0, none⟩ 1 1 [.string (s.extract fr k), .int .i64 (fr : Int)] (by rfl) rfl (World.news_of_block (heap_alloc_new wr.drew _)) (one2 rfl _) (by decide) (by unfold maxLen; omega) (by omega) (by simp; omega) (wr.heap.size + 1) (by simp) ?_; intro g cap w1 hown1 hgrow hat hlt3; have hbA : Below Bt wr w1 := ((Below.refl _ wr).drew.alloc hhi _).grown hgrow (by simp; omega) (fun b hb => (HM.out.cur.lt b hb).1); have k0 : w1.cell? ⟨w.heap.size, 0, none⟩ = some uv := ((bcell hbA).1 _ _ (by omega)).trans c0; have k1 : w1.frozen? ⟨w.heap.size, 0, none⟩ = false := ((bcell hbA).2 _ _ (by omega)).trans f0))
              all_goals
                obtain ⟨u2, hu2⟩ : ∃ u2 : Value, u2 = .slice (some ⟨g, 0, none⟩) (ws.length + 1) cap := ⟨_, rfl⟩
                rw [← hu2] at hown1
                try rw [← hu2]
                obtain ⟨w2, hw2⟩ : ∃ w2, w2 = w1.setCell ⟨w.heap.size, 0, none⟩ u2 := ⟨_, rfl⟩
                have HM2 : Hid (Lm w w2 u3 u2 en acc (ws ++ [(fr, cutL s.data.toList fr k)]) Bt vs) := by
                  rw [hw2]; exact HM.out.drew.word (x := (fr, cutL s.data.toList fr k)) (by rw [← extract_eq]; exact hown1) hgrow
                rw [← hw2]
                clear hw2 hu2 hown1 hgrow hat hlt3 hbA k0 k1 c0 c1 f0 f1 z0 hhi
                have c0 := HM2.out.c0
                have c1 := HM2.out.c1
                have f0 := HM2.out.f0
                have f1 := HM2.out.f1
                have hhi := HM2.out.hi
                have z0 : w.heap.size < w2.heap.size := by omega
                have hwsl2 : (ws ++ [(fr, cutL s.data.toList fr k)]).length ≤ k + 1 := by simp; omega
                go_wp2
                go_roundw
                case rel => exact ⟨k + 1, en, acc, _, u2, Bt, vs, by go_num, by omega, by omega, hwsl2, HM2, .inl ⟨rfl, rfl, by omega, HX.out.blank hfr (by rw [HSL.out]; omega) (by rw [show s.data.toList[k]'(by rw [HSL.out]; omega) = 9 from b_eq 9 rfl q9]; rfl)⟩⟩
                case measure => (simp [intOf] <;> omega)
            · by_cases q35 : (s[k]'(by omega) |>.toNat : Int) = 35
              · have i1 : (k : Int) ≤ (s.size : Int) := by omega
                have hlt : k < s.size := by omega
                have hkn : ((k : Int) == (s.size : Int)) = false := by simp; omega
                have e10 : ((s[k].toNat : Int) == 10) = false := by simpa using q10
                have e32 : ((s[k].toNat : Int) == 32) = false := by simpa using q32
                have e9 : ((s[k].toNat : Int) == 9) = false := by simpa using q9
                have e35 : ((s[k].toNat : Int) == 35) = true := by simpa using q35
                have i2 : (fr : Int) ≤ (k : Int) := by omega
                have i3 : (0 : Int) ≤ (fr : Int) := by omega
                go_wp2
                go_region_law ((refine step_append_lies _ (by rfl) (.tmp 56) (.tmp 63) 69 (by rfl) Bt 96 i0 (.agg #[.string ⟨#[]⟩, .int .i64 0]) 2 24 Tryz.underlying69 HI.out.1 HI.out.2.1 HI.out.2.2.1 HI.out.2.2.2 rfl (by decide) uv ws.length (rcells ws) (by rfl) (HM.out.cur.drew.alloc _) ⟨wr.heap.size, 0, none⟩ 1 1 [.string (s.extract fr k), .int .i64 (fr : Int)] (by rfl) rfl (World.news_of_block (heap_alloc_new wr.drew _)) (one2 rfl _) (by decide) (by unfold maxLen; omega) (by omega) (by simp; omega) (wr.heap.size + 1) (by simp) ?_; intro g cap w1 hown1 hgrow hat hlt3; have hbA : Below Bt wr w1 := ((Below.refl _ wr).drew.alloc hhi _).grown hgrow (by simp; omega) (fun b hb => (HM.out.cur.lt b hb).1); have k0 : w1.cell? ⟨w.heap.size, 0, none⟩ = some uv := ((bcell hbA).1 _ _ (by omega)).trans c0; have k1 : w1.frozen? ⟨w.heap.size, 0, none⟩ = false := ((bcell hbA).2 _ _ (by omega)).trans f0))
                all_goals
                  obtain ⟨u2, hu2⟩ : ∃ u2 : Value, u2 = .slice (some ⟨g, 0, none⟩) (ws.length + 1) cap := ⟨_, rfl⟩
                  rw [← hu2] at hown1
                  try rw [← hu2]
                  obtain ⟨w2, hw2⟩ : ∃ w2, w2 = w1.setCell ⟨w.heap.size, 0, none⟩ u2 := ⟨_, rfl⟩
                  have HM2 : Hid (Lm w w2 u3 u2 en acc (ws ++ [(fr, cutL s.data.toList fr k)]) Bt vs) := by
                    rw [hw2]; exact HM.out.drew.word (x := (fr, cutL s.data.toList fr k)) (by rw [← extract_eq]; exact hown1) hgrow
                  rw [← hw2]
                  clear hw2 hu2 hown1 hgrow hat hlt3 hbA k0 k1 c0 c1 f0 f1 z0 hhi
                  have c0 := HM2.out.c0
                  have c1 := HM2.out.c1
                  have f0 := HM2.out.f0
                  have f1 := HM2.out.f1
                  have hhi := HM2.out.hi
                  have z0 : w.heap.size < w2.heap.size := by omega
                  have hwsl2 : (ws ++ [(fr, cutL s.data.toList fr k)]).length ≤ k + 1 := by simp; omega
                  have HMe : Hid (Lm w (w2.setCell ⟨w.heap.size, 1, none⟩ (.int .i64 (k : Int))) u3 u2 k acc (ws ++ [(fr, cutL s.data.toList fr k)]) Bt vs) := HM2.out.ends k
                  go_wp2
                  go_roundw
                  case rel => exact ⟨k + 1, k, acc, _, u2, Bt, vs, by go_num, by omega, by omega, hwsl2, HMe, .inr (.inr (.inl ⟨rfl, rfl, by omega, HX.out.hash hfr (by rw [HSL.out]; omega) (b_eq 35 rfl q35)⟩))⟩
                  case measure => (simp [intOf] <;> omega)
              · have i1 : (k : Int) ≤ (s.size : Int) := by omega
                have hlt : k < s.size := by omega
                have hkn : ((k : Int) == (s.size : Int)) = false := by simp; omega
                have e10 : ((s[k].toNat : Int) == 10) = false := by simpa using q10
                have e32 : ((s[k].toNat : Int) == 32) = false := by simpa using q32
                have e9 : ((s[k].toNat : Int) == 9) = false := by simpa using q9
                have e35 : ((s[k].toNat : Int) == 35) = false := by simpa using q35
                have i3 : (0 : Int) ≤ (fr : Int) := by omega
                go_wp2
                go_roundw
                case rel => exact ⟨k + 1, en, acc, ws, uv, Bt, vs, by go_num, by omega, by omega, by omega, HM, .inr (.inl ⟨fr, rfl, rfl, by omega, by omega, HX.out.go hfr (by rw [HSL.out]; omega) (by unfold blankB; simp only [Bool.or_eq_false_iff, beq_eq_false_iff_ne]; exact ⟨b_ne 32 rfl q32, b_ne 9 rfl q9⟩) (b_ne 10 rfl q10) (b_ne 35 rfl q35)⟩)⟩
                case measure => (simp [intOf] <;> omega)
    · by_cases hend : k = s.size
      · subst hend
        have i1 : (s.size : Int) ≤ (s.size : Int) := by omega
        have HMe : Hid (Lm w wr u3 uv en acc ws Bt vs) := HM.out
        have HU : ∀ u ∈ [uv, Value.int .i64 (en : Int)], u.oneCell' = true := one2 (one_slice HM.out.cur) _
        go_wp2_with (first | (at_builtin; refine wpList_append_lies _ rfl _ _ 67 rfl (w.heap.size + 1) 71 j0 (.agg #[.slice none 0 0, .int .i64 0]) 2 32 Tryz.underlying67 HJ.out.1 HJ.out.2.1 HJ.out.2.2.1 HJ.out.2.2.2 rfl (by decide) _ _ _ rfl (HMe.out.out.alloc _) ⟨wr.heap.size, 0, none⟩ 1 1 [uv, .int .i64 (en : Int)] rfl rfl (by have hh := heap_alloc_new (wr) (Obj.cells #[uv, .int .i64 (en : Int)] 71); exact World.news_of_block hh) HU (by decide) (by unfold maxLen; omega) (by omega) (by have q1 := HMe.out.hi; have q2 := HMe.out.lo; simp at q1 ⊢; omega) (wr.heap.size + 1) (by simp) ?_; intro g3 cap3 w3 hown3 hgrow3 hat3 hlt3; have hbL : Below (w.heap.size + 1) (wr) w3 := ((Below.refl _ _).alloc (by have q1 := HMe.out.hi; have q2 := HMe.out.lo; omega) _).grown hgrow3 (by have q1 := HMe.out.hi; have q2 := HMe.out.lo; simp at q1 ⊢; omega) (fun b hb => (HMe.out.out.lt b hb).1); have m0 := ((bcell hbL).1 _ 0 (Nat.lt_succ_self _)).trans HMe.out.c0; have m1 := ((bcell hbL).1 _ 1 (Nat.lt_succ_self _)).trans HMe.out.c1; have m2 := ((bcell hbL).2 _ 0 (Nat.lt_succ_self _)).trans HMe.out.f0; have m3 := ((bcell hbL).2 _ 1 (Nat.lt_succ_self _)).trans HMe.out.f1; have HM3 : Hid _ := HMe.out.line hown3 hgrow3; clear hbL hown3 hgrow3 hat3 hlt3))
        go_roundw
        case rel => exact ⟨s.size + 1, 0, _, [], _, _, _, by go_num, by omega, (by rw [List.length_append]; simpa using hacl), by simp, HM3, .inr (.inr (.inr ⟨rfl, rfl, by omega, HX.out.end_ rfl⟩))⟩
        case measure => (simp [intOf] <;> omega)
      · by_cases q10 : (s[k]'(by omega) |>.toNat : Int) = 10
        · have i1 : (k : Int) ≤ (s.size : Int) := by omega
          have hlt : k < s.size := by omega
          have hkn : ((k : Int) == (s.size : Int)) = false := by simp; omega
          have e10 : ((s[k].toNat : Int) == 10) = true := by simpa using q10
          have HMe : Hid (Lm w wr u3 uv en acc ws Bt vs) := HM.out
          have HU : ∀ u ∈ [uv, Value.int .i64 (en : Int)], u.oneCell' = true := one2 (one_slice HM.out.cur) _
          go_wp2_with (first | (at_builtin; refine wpList_append_lies _ rfl _ _ 67 rfl (w.heap.size + 1) 71 j0 (.agg #[.slice none 0 0, .int .i64 0]) 2 32 Tryz.underlying67 HJ.out.1 HJ.out.2.1 HJ.out.2.2.1 HJ.out.2.2.2 rfl (by decide) _ _ _ rfl (HMe.out.out.alloc _) ⟨wr.heap.size, 0, none⟩ 1 1 [uv, .int .i64 (en : Int)] rfl rfl (by have hh := heap_alloc_new (wr) (Obj.cells #[uv, .int .i64 (en : Int)] 71); exact World.news_of_block hh) HU (by decide) (by unfold maxLen; omega) (by omega) (by have q1 := HMe.out.hi; have q2 := HMe.out.lo; simp at q1 ⊢; omega) (wr.heap.size + 1) (by simp) ?_; intro g3 cap3 w3 hown3 hgrow3 hat3 hlt3; have hbL : Below (w.heap.size + 1) (wr) w3 := ((Below.refl _ _).alloc (by have q1 := HMe.out.hi; have q2 := HMe.out.lo; omega) _).grown hgrow3 (by have q1 := HMe.out.hi; have q2 := HMe.out.lo; simp at q1 ⊢; omega) (fun b hb => (HMe.out.out.lt b hb).1); have m0 := ((bcell hbL).1 _ 0 (Nat.lt_succ_self _)).trans HMe.out.c0; have m1 := ((bcell hbL).1 _ 1 (Nat.lt_succ_self _)).trans HMe.out.c1; have m2 := ((bcell hbL).2 _ 0 (Nat.lt_succ_self _)).trans HMe.out.f0; have m3 := ((bcell hbL).2 _ 1 (Nat.lt_succ_self _)).trans HMe.out.f1; have HM3 : Hid _ := HMe.out.line hown3 hgrow3; clear hbL hown3 hgrow3 hat3 hlt3))
          go_roundw
          case rel => exact ⟨k + 1, 0, _, [], _, _, _, by go_num, by omega, (by rw [List.length_append]; simpa using hacl), by simp, HM3, .inl ⟨rfl, rfl, by omega, HX.out.lf (by rw [HSL.out]; omega) (b_eq 10 rfl q10)⟩⟩
          case measure => (simp [intOf] <;> omega)
        · have i1 : (k : Int) ≤ (s.size : Int) := by omega
          have hlt : k < s.size := by omega
          have hkn : ((k : Int) == (s.size : Int)) = false := by simp; omega
          have e10 : ((s[k].toNat : Int) == 10) = false := by simpa using q10
          go_wp2
          all_goals
            go_roundw
            case rel => exact ⟨k + 1, en, acc, ws, uv, Bt, vs, by go_num, by omega, by omega, by omega, HM, .inr (.inr (.inl ⟨rfl, rfl, by omega, HX.out.go (by rw [HSL.out]; omega) (b_ne 10 rfl q10)⟩))⟩
            case measure => (simp [intOf] <;> omega)
    · have hnl : ¬ (((s.size + 1 : Nat) : Int) ≤ (s.size : Int)) := by omega
      go_wp2
      go_ret
      have h := HM.out.done
      rw [HX.out] at h
      exact ⟨_, rfl, h⟩

end Go.Proofs.YtgabnjiapkkjaaaGreatDoor.Tb
