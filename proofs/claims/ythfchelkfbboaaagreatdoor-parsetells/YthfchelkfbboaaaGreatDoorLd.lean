/- What the document's Lines answers: a new slice that holds the lines that say something, each with its words, read off the program by the walk. Conditions: the text has at most 65536 bytes. -/
import Derived.Test.YthfchelkfbboaaaGreatDoorRr
namespace Go.Proofs.YthfchelkfbboaaaGreatDoor.Pr
open Go.ChangeShapes Go.WideShapes Go.ChangeAt Go.RowKit
open _root_.Go.Proofs.YthfchelkfbboaaaGreatDoor.Op
set_option maxRecDepth 20000

theorem info47 : (Tryz.prog.info? 47).map (fun i => (i.zero, i.size, i.bytes)) = some (some (.agg #[.string ⟨#[]⟩, .int .i64 0]), 2, 24) := by kernel_rfl
theorem blank_any (b : UInt8) (w : World) :
    Calls Tryz.prog 39 #[.int .u8 (b.toNat : Int)] w fun e w' => e = .returned (.bool (blankB b)) ∧ w' = w := by
  have e : blankB b = (decide ((b.toNat : Int) = 32) || decide ((b.toNat : Int) = 9)) := by
    rw [Bool.eq_iff_iff]; simp [blankB, ← UInt8.toNat_inj]; omega
  have hlt := b.toNat_lt
  rw [e]
  generalize (b.toNat : Int) = n at *
  by_cases h : n = 32
  · subst h
    go_enter Tryz.func39, Tryz.ntmps39
    go_wp2
    go_ret
    exact ⟨rfl, rfl⟩
  · have h1 : (n == 32) = false := by simpa using h
    go_enter Tryz.func39, Tryz.ntmps39
    go_wp2
    go_ret
    refine ⟨ret_bool ?_, rfl⟩
    simp only [h, decide_false, Bool.false_or]
    rw [Bool.eq_iff_iff]; simp
/-- The words of a text's bytes up to a place, from another on. -/
def dwS (s : List UInt8) (en k : Nat) (cur : List UInt8) : List Wd' := wordsS ((s.take en).drop k) k cur
theorem take_len (s : List UInt8) (en : Nat) (hen : en ≤ s.length) : (s.take en).length = en := by rw [List.length_take]; omega
theorem dw_end (s : List UInt8) (en k : Nat) (hk : en ≤ k) : dwS s en k [] = [] := by
  unfold dwS
  have := wordsS_end (s.take en) k k [] (by rw [List.length_take]; omega)
  rw [this]; rfl
theorem dw_blank (s : List UInt8) (en k : Nat) (hen : en ≤ s.length) (hk : k < en) (hb : blankB (s[k]'(by omega)) = true) : dwS s en k [] = dwS s en (k + 1) [] := by
  unfold dwS
  have := wordsS_blank (s.take en) k k [] (by rw [take_len s en hen]; exact hk) (by rw [List.getElem_take]; exact hb)
  rw [this]; rfl
theorem dw_hash (s : List UInt8) (en k : Nat) (hen : en ≤ s.length) (hk : k < en) (hb : (s[k]'(by omega)) = 35) : dwS s en k [] = [] := by
  unfold dwS
  exact wordsS_hash (s.take en) k k (by rw [take_len s en hen]; exact hk) (by rw [List.getElem_take]; exact hb)
theorem dw_step (s : List UInt8) (en k m : Nat) (hen : en ≤ s.length) (hkm : k ≤ m) (hm : m < en) (hb : blankB (s[m]'(by omega)) = false) (hh : (s[k]'(by omega)) ≠ 35) : dwS s en m (cutL s k m) = dwS s en (m + 1) (cutL s k (m + 1)) := by
  unfold dwS
  have := wordsS_step (s.take en) m m (cutL s k m) (by rw [take_len s en hen]; exact hm) (by rw [List.getElem_take]; exact hb) (by
    rcases Nat.lt_or_ge k m with h' | h'
    · right; exact cutL_ne s k m h' (by omega)
    · obtain rfl : k = m := by omega
      left; rw [List.getElem_take]; exact hh)
  rw [this, cutL_snoc s k m hkm (by omega), List.getElem_take]
theorem dw_stop (s : List UInt8) (en k m : Nat) (hen : en ≤ s.length) (hkm : k < m) (hm : m ≤ en) (hb : m < en → ∃ h : m < s.length, blankB s[m] = true) : dwS s en m (cutL s k m) = (k, cutL s k m) :: dwS s en m [] := by
  have hf := flush_cut s k m 0 hkm (by omega)
  simp only [Nat.zero_add] at hf
  rcases Nat.lt_or_ge m en with h | h
  · obtain ⟨h', hb⟩ := hb h
    rw [dw_blank s en m hen h hb]
    unfold dwS
    have := wordsS_blank (s.take en) m m (cutL s k m) (by rw [take_len s en hen]; exact h) (by rw [List.getElem_take]; exact hb)
    rw [this, hf]; rfl
  · rw [dw_end s en m h]
    unfold dwS
    have := wordsS_end (s.take en) m m (cutL s k m) (by rw [List.length_take]; omega)
    rw [this, hf]
def dcells (ws : List Wd') : List Value := ws.flatMap fun x => [.string ⟨x.2.toArray⟩, .int .i64 (x.1 : Int)]
theorem dcells_snoc (ws : List Wd') (x : Wd') : dcells (ws ++ [x]) = dcells ws ++ [.string ⟨x.2.toArray⟩, .int .i64 (x.1 : Int)] := by simp [dcells]
/-- What an append of one word leaves. -/
theorem dwords_put {w wr w1 : World} {v v1 : Value} {acc : List Wd'} {s : ByteArray} {k m : Nat} {o : Obj} (hown : wr.ownsRow w.heap.size 47 2 v acc.length (dcells acc)) (hbw : Below w.heap.size w wr)
    (hown1 : w1.ownsRow w.heap.size 47 2 v1 (acc.length + 1) (dcells acc ++ [.string (s.extract k m), .int .i64 (k : Int)])) (hg : (wr.alloc o).grownBy w1 v.ownBlock) :
    w1.ownsRow w.heap.size 47 2 v1 (acc ++ [(k, cutL s.data.toList k m)]).length (dcells (acc ++ [(k, cutL s.data.toList k m)])) ∧ Below w.heap.size w w1 := by
  refine ⟨?_, (hbw.alloc hbw.size _).grown hg (by have := hbw.size; simp; omega) (fun b hb => (hown.lt b hb).1)⟩
  rw [dcells_snoc, List.length_append, List.length_singleton, ← extract_eq]
  simpa using hown1

set_option maxHeartbeats 2000000 in
theorem dwords_any (s : ByteArray) (at0 en : Nat) (w : World) (hs : s.size ≤ 65536) (ha : at0 ≤ en) (hen : en ≤ s.size) :
    Calls Tryz.prog 19 #[.string s, .int .i64 at0, .int .i64 en] w fun e w' => ∃ v, e = .returned v ∧ w'.ownsRow w.heap.size 47 2 v (dwS s.data.toList en at0 []).length (dcells (dwS s.data.toList en at0 [])) ∧ Below w.heap.size w w' := by
  have HL : Hid (en ≤ s.data.toList.length) := hen
  obtain ⟨i0, hi, hi2⟩ := Option.map_eq_some_iff.1 info47
  simp only [Prod.mk.injEq] at hi2
  obtain ⟨hz0, hz1, hz2⟩ := hi2
  have HI : Hid (Tryz.prog.info? 47 = some i0 ∧ i0.zero = some (.agg #[.string ⟨#[]⟩, .int .i64 0]) ∧ i0.size = 2 ∧ i0.bytes = 24) := ⟨hi, hz0, hz1, hz2⟩
  clear hi hz0 hz1 hz2
  go_enter Tryz.func19, Tryz.ntmps19
  go_wp2
  go_loopw [1, 7] (fun i v wr => ∃ (k : Nat) (acc : List Wd'), at0 ≤ k ∧ k ≤ en ∧ acc.length ≤ k ∧ i = .int .i64 k ∧ Hid (acc ++ dwS s.data.toList en k [] = dwS s.data.toList en at0 []) ∧ wr.ownsRow w.heap.size 47 2 v acc.length (dcells acc) ∧ Below w.heap.size w wr) (fun i _ _ => en - (intOf i).toNat)
  case atStart => exact ⟨at0, [], by omega, by omega, by simp, rfl, (rfl : _ = _), World.ownsRow_nil _ _ _ _, Below.refl _ _⟩
  case round =>
    rename_i wr
    obtain ⟨k, acc, hk0, hk, hac, rfl, Hacc, hown, hbw⟩ := hrel
    by_cases hlt : k < en
    · have hlts : k < s.size := by omega
      cases hbl : blankB s[k] with
      | true =>
        have HF : Hid (acc ++ dwS s.data.toList en (k + 1) [] = dwS s.data.toList en at0 []) := by
          have h := Hacc.out
          rw [dw_blank _ _ _ HL.out hlt hbl] at h
          exact h
        go_wp2_with (first | (go_at_call 39; refine (blank_any _ _).mono ?_; rw [hbl]; rintro e w' ⟨rfl, hw⟩; subst w'))
        go_roundw
        case rel => exact ⟨k + 1, acc, by omega, by omega, by omega, by go_num, HF, hown, hbw⟩
        case measure => simp [intOf]; omega
      | false =>
        by_cases h35 : s[k] = 35
        · have h35i : ((s[k].toNat : Int) == 35) = true := by simpa using (byte35 s[k]).2 h35
          have HF : Hid (acc = dwS s.data.toList en at0 []) := by
            have h := Hacc.out
            rw [dw_hash _ _ _ HL.out hlt h35, List.append_nil] at h
            exact h
          clear h35
          go_wp2_with (first | (go_at_call 39; refine (blank_any _ _).mono ?_; rw [hbl]; rintro e w' ⟨rfl, hw⟩; subst w'))
          go_ret
          have h := HF.out
          subst h
          exact ⟨_, rfl, hown, hbw⟩
        · have h35i : ((s[k].toNat : Int) == 35) = false := by simpa using fun h => h35 ((byte35 s[k]).1 h)
          have H35 : Hid (s[k] ≠ 35) := h35
          have HBk : Hid (blankB s[k] = false) := hbl
          clear h35
          go_wp2_with (first | (go_at_call 39; refine (blank_any _ _).mono ?_; rw [hbl]; rintro e w' ⟨rfl, hw⟩; subst w'))
          clear hbl
          go_loop [8] (fun j => ∃ m : Nat, k ≤ m ∧ m ≤ en ∧ j = .int .i64 m ∧ Hid (acc ++ dwS s.data.toList en m (cutL s.data.toList k m) = dwS s.data.toList en at0 [])) (fun j => en - (intOf j).toNat)
          case atStart => exact ⟨k, by omega, by omega, rfl, (by rw [cutL_same]; exact Hacc.out : _ = _)⟩
          case round =>
            obtain ⟨m, hkm, hm, rfl, Hm⟩ := hrel
            by_cases hgo : ∃ h : m < en, blankB (s[m]'(by omega)) = false
            · obtain ⟨hlt2, hbl⟩ := hgo
              have hlt2s : m < s.size := by omega
              go_wp2_with (first | (go_at_call 39; refine (blank_any _ _).mono ?_; rw [hbl]; rintro e w' ⟨rfl, hw⟩; subst w'))
              go_round
              case rel => exact ⟨m + 1, by omega, by omega, by go_num, (by rw [← dw_step _ _ _ _ HL.out hkm hlt2 hbl H35.out]; exact Hm.out : _ = _)⟩
              case measure => simp [intOf]; omega
            · have hkl : k < m := by
                rcases Nat.lt_or_ge k m with h | h
                · exact h
                · obtain rfl : k = m := by omega
                  exact absurd ⟨hlt, HBk.out⟩ hgo
              have hst : m < en → ∃ h : m < s.size, blankB s[m] = true := fun h => ⟨by omega, by
                cases hb : blankB (s[m]'(by omega))
                · exact absurd ⟨h, hb⟩ hgo
                · rfl⟩
              have HF : Hid (acc ++ [(k, cutL s.data.toList k m)] ++ dwS s.data.toList en m [] = dwS s.data.toList en at0 []) := by
                have h := Hm.out
                rw [dw_stop _ _ k m HL.out hkl hm hst] at h
                show acc ++ [(k, cutL s.data.toList k m)] ++ dwS s.data.toList en m [] = dwS s.data.toList en at0 []
                rw [← h, List.append_assoc]; rfl
              have hms : m ≤ s.size := by omega
              clear hgo
              by_cases hlt2 : m < en
              · obtain ⟨hlt2s, hbl⟩ := hst hlt2
                go_wp2_with (first | (go_at_call 39; refine (blank_any _ _).mono ?_; rw [hbl]; rintro e w' ⟨rfl, hw⟩; subst w') | (at_builtin; refine wpList_append_lies _ rfl _ _ 43 rfl w.heap.size 47 i0 (.agg #[.string ⟨#[]⟩, .int .i64 0]) 2 24 Tryz.underlying43 HI.out.1 HI.out.2.1 HI.out.2.2.1 HI.out.2.2.2 rfl (by decide) _ _ _ rfl (hown.alloc _) ⟨wr.heap.size, 0, none⟩ 1 1 [.string (s.extract k m), .int .i64 (k : Int)] rfl rfl (World.news_of_block (heap_alloc_new wr _)) (by simp [Value.oneCell']) (by decide) (by unfold maxLen; omega) (by omega) (by have := hbw.size; simp; omega) (wr.heap.size + 1) (by simp) ?_; intro g cap w1 hown1 hgrow hat hlt3))
                go_roundw
                case rel => exact ⟨m, acc ++ [(k, cutL s.data.toList k m)], by omega, by omega, by simp; omega, by go_num, HF, dwords_put hown hbw hown1 hgrow⟩
                case measure => simp [intOf]; omega
              · go_wp2_with (first | (go_at_call 39; refine (blank_any _ _).mono ?_; rintro e w' ⟨rfl, hw⟩; subst w') | (at_builtin; refine wpList_append_lies _ rfl _ _ 43 rfl w.heap.size 47 i0 (.agg #[.string ⟨#[]⟩, .int .i64 0]) 2 24 Tryz.underlying43 HI.out.1 HI.out.2.1 HI.out.2.2.1 HI.out.2.2.2 rfl (by decide) _ _ _ rfl (hown.alloc _) ⟨wr.heap.size, 0, none⟩ 1 1 [.string (s.extract k m), .int .i64 (k : Int)] rfl rfl (World.news_of_block (heap_alloc_new wr _)) (by simp [Value.oneCell']) (by decide) (by unfold maxLen; omega) (by omega) (by have := hbw.size; simp; omega) (wr.heap.size + 1) (by simp) ?_; intro g cap w1 hown1 hgrow hat hlt3))
                go_roundw
                case rel => exact ⟨m, acc ++ [(k, cutL s.data.toList k m)], by omega, by omega, by simp; omega, by go_num, HF, dwords_put hown hbw hown1 hgrow⟩
                case measure => simp [intOf]; omega
    · go_wp2
      go_ret
      have h := Hacc.out
      rw [dw_end _ _ _ (by omega), List.append_nil] at h
      subst h
      exact ⟨_, rfl, hown, hbw⟩
end Go.Proofs.YthfchelkfbboaaaGreatDoor.Pr

namespace Go.Proofs.YthfchelkfbboaaaGreatDoor.Pr
open Go.ChangeShapes Go.WideShapes Go.ChangeAt Go.RowKit
open _root_.Go.Proofs.YthfchelkfbboaaaGreatDoor.Op
set_option maxRecDepth 20000

theorem info45 : (Tryz.prog.info? 45).map (fun i => (i.zero, i.size, i.bytes)) = some (some (.agg #[.slice none 0 0, .int .i64 0]), 2, 32) := by kernel_rfl
/-- Where a line's words lie. -/
abbrev Pw := Option Addr × Nat
def lcells (ls : List Ln) (ps : List Pw) : List Value := (ls.zip ps).flatMap fun y => [.slice y.2.1 y.1.ws.length y.2.2, .int .i64 (y.1.en : Int)]
theorem lcells_snoc (ls : List Ln) (ps : List Pw) (l : Ln) (p : Pw) (h : ls.length = ps.length) : lcells (ls ++ [l]) (ps ++ [p]) = lcells ls ps ++ [.slice p.1 l.ws.length p.2, .int .i64 (l.en : Int)] := by
  simp [lcells, List.zip_append h]
def WRow (w : World) (B : Nat) (p : Pw) (ws : List Wd') : Prop := w.ownsRow B 47 2 (.slice p.1 ws.length p.2) ws.length (dcells ws)
/-- Lines in memory. -/
structure DLs (w V : World) (v : Value) (ls : List Ln) (ps : List Pw) : Prop where
  row : V.ownsRow w.heap.size 45 2 v ls.length (lcells ls ps)
  len : ps.length = ls.length
  ins : ∀ (i : Nat) p l, ps[i]? = some p → ls[i]? = some l → WRow V w.heap.size p l.ws
  b : Below w.heap.size w V
theorem DLs.up {w V V' : World} {v : Value} {ls : List Ln} {ps : List Pw} (h : DLs w V v ls ps) (hb : Below V.heap.size V V') : DLs w V' v ls ps :=
  ⟨row_below h.row hb, h.len, fun i p l hp hl => row_below (h.ins i p l hp hl) hb, h.b.trans (hb.mono h.b.size)⟩
theorem DLs.nil (w : World) : DLs w w (.slice none 0 0) [] [] := ⟨World.ownsRow_nil _ _ _ _, rfl, fun i p l hp => by simp at hp, Below.refl _ _⟩
theorem DLs.put {w V V' : World} {v v' : Value} {ls : List Ln} {ps : List Pw} {l : Ln} {p : Pw} {o : Obj} (h : DLs w V v ls ps) (hw : WRow V w.heap.size p l.ws) (hown : V'.ownsRow w.heap.size 45 2 v' (ls.length + 1) (lcells ls ps ++ [.slice p.1 l.ws.length p.2, .int .i64 (l.en : Int)])) (hg : (V.alloc o).grownBy V' v.ownBlock) : DLs w V' v' (ls ++ [l]) (ps ++ [p]) := by
  have far : ∀ {p : Pw} {ws : List Wd'}, WRow V w.heap.size p ws → WRow V' w.heap.size p ws := fun hl => row_far (World.ownsRow.alloc hl o) (h.row.alloc o) (by decide) hg
  refine ⟨?_, by simp [h.len], ?_, (h.b.alloc h.b.size _).grown hg (by have := h.b.size; simp; omega) (fun b hb => (h.row.lt b hb).1)⟩
  · rw [lcells_snoc _ _ _ _ h.len.symm, List.length_append]
    exact hown
  · intro i p' l' hp' hl'
    rcases Nat.lt_or_ge i ls.length with hlt | hge
    · rw [List.getElem?_append_left (by rw [h.len]; exact hlt)] at hp'
      rw [List.getElem?_append_left hlt] at hl'
      exact far (h.ins i p' l' hp' hl')
    · have hi : i = ls.length := by
        rcases Nat.lt_or_ge ls.length i with h' | h'
        · rw [List.getElem?_eq_none (by simp; omega)] at hl'; cases hl'
        · omega
      subst hi
      rw [← h.len, List.getElem?_append_right (Nat.le_refl _)] at hp'
      rw [List.getElem?_append_right (Nat.le_refl _)] at hl'
      simp at hp' hl'
      subst hp' hl'
      exact far hw
theorem headL_cut (s : List UInt8) (k e : Nat) (hke : k ≤ e) (he : e ≤ s.length) (hno : ∀ i (h : i < s.length), k ≤ i → i < e → s[i] ≠ 10) (hst : e < s.length → ∃ h : e < s.length, s[e] = 10) : headL (s.drop k) = cutL s k e ∧ (headL (s.drop k)).length = e - k := by
  have h1 : headL (s.drop k) = cutL s k e := by
    have hs : s.drop k = cutL s k e ++ s.drop e := by
      unfold cutL
      rw [show s.drop e = (s.drop k).drop (e - k) by rw [List.drop_drop]; congr 1; omega]
      exact (List.take_append_drop _ _).symm
    rw [hs]
    unfold headL
    rw [List.takeWhile_append_of_pos]
    · rcases Nat.lt_or_ge e s.length with h | h
      · obtain ⟨h', hx⟩ := hst h
        rw [List.drop_eq_getElem_cons h, List.takeWhile_cons_of_neg (by simp [hx]), List.append_nil]
      · rw [List.drop_eq_nil_of_le h]; simp
    · intro b hb
      obtain ⟨i, hi, rfl⟩ := List.getElem_of_mem hb
      rw [cutL_len s k e he] at hi
      have : (cutL s k e)[i]'(by rw [cutL_len s k e he]; exact hi) = s[k + i]'(by omega) := by
        unfold cutL; rw [List.getElem_take, List.getElem_drop]
      rw [this]
      simpa using hno (k + i) (by omega) (by omega) (by omega)
  exact ⟨h1, by rw [h1, cutL_len s k e he]⟩
theorem dw_cut (s : List UInt8) (k e : Nat) : dwS s e k [] = wordsS (cutL s k e) k [] := by
  unfold dwS cutL
  rw [List.drop_take]
/-- A line's end is found. -/
theorem lines_here (s : List UInt8) (k e : Nat) (hke : k ≤ e) (he : e ≤ s.length) (hno : ∀ i (h : i < s.length), k ≤ i → i < e → s[i] ≠ 10) (hst : e < s.length → ∃ h : e < s.length, s[e] = 10) :
    linesS (s.drop k) k [] = (if dwS s e k [] = [] then [] else [⟨dwS s e k [], e⟩]) ++ linesS (s.drop (e + 1)) (e + 1) [] := by
  obtain ⟨h1, h2⟩ := headL_cut s k e hke he hno hst
  rw [lines_cut, h2, h1, show k + (e - k) = e by omega]
  congr 1
  unfold emit
  rw [← dw_cut, cutL_len s k e he, show k + (e - k) = e by omega]
theorem byte10 (b : UInt8) : (b.toNat : Int) = 10 ↔ b = 10 := by
  rw [← UInt8.toNat_inj]; simp; omega
theorem DLs.first {w V W : World} {v : Value} {ws : List Wd'} (h : W.ownsRow V.heap.size 47 2 v ws.length (dcells ws)) (hb : Below w.heap.size w V) : ∃ p : Pw, v = .slice p.1 ws.length p.2 ∧ WRow W w.heap.size p ws := by
  have h' := row_le h hb.size
  rcases h.2 with ⟨rfl, h0⟩ | ⟨g, cap, cur, rfl, _⟩
  · exact ⟨(none, 0), by rw [h0], by unfold WRow; rw [h0]; rw [h0] at h'; exact h'⟩
  · exact ⟨(some ⟨g, 0, none⟩, cap), rfl, h'⟩

set_option maxHeartbeats 2000000 in
theorem dlines_any (s : ByteArray) (w : World) (hs : s.size ≤ 65536) :
    Calls Tryz.prog 11 #[.string s] w fun e w' => ∃ v ps, e = .returned v ∧ DLs w w' v (linesS s.data.toList 0 []) ps := by
  have HL : Hid (s.data.toList.length = s.size) := rfl
  have HW : Hid (∀ (a e : Nat) W, a ≤ e → e ≤ s.size → Calls Tryz.prog 19 #[.string s, .int .i64 a, .int .i64 e] W fun en w' => ∃ v, en = .returned v ∧ w'.ownsRow W.heap.size 47 2 v (dwS s.data.toList e a []).length (dcells (dwS s.data.toList e a [])) ∧ Below W.heap.size W w') := fun a e W h1 h2 => dwords_any s a e W hs h1 h2
  obtain ⟨i0, hi, hi2⟩ := Option.map_eq_some_iff.1 info45
  simp only [Prod.mk.injEq] at hi2
  obtain ⟨hz0, hz1, hz2⟩ := hi2
  have HI : Hid (Tryz.prog.info? 45 = some i0 ∧ i0.zero = some (.agg #[.slice none 0 0, .int .i64 0]) ∧ i0.size = 2 ∧ i0.bytes = 32) := ⟨hi, hz0, hz1, hz2⟩
  clear hi hz0 hz1 hz2
  go_enter Tryz.func11, Tryz.ntmps11
  go_wp2
  go_loopw [3, 4] (fun v i wr => ∃ (k : Nat) (acc : List Ln) (ps : List Pw), k ≤ s.size + 1 ∧ acc.length ≤ k ∧ i = .int .i64 k ∧ Hid (acc ++ linesS (s.data.toList.drop k) k [] = linesS s.data.toList 0 []) ∧ DLs w wr v acc ps) (fun _ i _ => s.size + 1 - (intOf i).toNat)
  case atStart => exact ⟨0, [], [], by omega, by simp, rfl, (rfl : _ = _), DLs.nil w⟩
  case round =>
    rename_i wr
    obtain ⟨k, acc, ps, hk, hac, rfl, Hacc, hd⟩ := hrel
    have HD : Hid _ := hd
    clear hd
    by_cases hlt : k ≤ s.size
    · go_wp2
      go_loop [5] (fun j => ∃ e : Nat, k ≤ e ∧ e ≤ s.size ∧ j = .int .i64 e ∧ Hid (∀ i (h : i < s.data.toList.length), k ≤ i → i < e → s.data.toList[i] ≠ 10)) (fun j => s.size - (intOf j).toNat)
      case atStart => exact ⟨k, by omega, by omega, rfl, (fun i h h1 h2 => absurd h1 (by omega) : ∀ i (h : i < s.data.toList.length), k ≤ i → i < k → s.data.toList[i] ≠ 10)⟩
      case round =>
        obtain ⟨e, hke, he, rfl, Hno⟩ := hrel
        by_cases hgo : ∃ h : e < s.size, s[e] ≠ 10
        · obtain ⟨hlt2, h10⟩ := hgo
          have h10i : ((s[e].toNat : Int) != 10) = true := by simpa using fun h => h10 ((byte10 s[e]).1 h)
          have H10 : Hid (s[e] ≠ 10) := h10
          clear h10
          go_wp2
          go_round
          case rel => exact ⟨e + 1, by omega, by omega, by go_num, (fun i h h1 h2 => by
            rcases Nat.lt_or_ge i e with h' | h'
            · exact Hno.out i h h1 h'
            · obtain rfl : i = e := by omega
              exact H10.out : ∀ i (h : i < s.data.toList.length), k ≤ i → i < e + 1 → s.data.toList[i] ≠ 10)⟩
          case measure => simp [intOf]; omega
        · have hst : e < s.size → ∃ h : e < s.size, s[e] = 10 := fun h => ⟨h, by
            rcases Decidable.em (s[e] = 10) with h' | h'
            · exact h'
            · exact absurd ⟨h, h'⟩ hgo⟩
          have HF : Hid _ := lines_here s.data.toList k e hke he Hno.out hst
          have hte : ∀ h : e < s.size, ((s[e].toNat : Int) != 10) = false := fun h => by
            obtain ⟨_, h'⟩ := hst h
            simpa using (byte10 s[e]).2 h'
          clear hgo hst Hno
          have HW1 : Hid (∀ W, Calls Tryz.prog 19 #[.string s, .int .i64 k, .int .i64 e] W fun en w' => ∃ v, en = .returned v ∧ w'.ownsRow W.heap.size 47 2 v (dwS s.data.toList e k []).length (dcells (dwS s.data.toList e k [])) ∧ Below W.heap.size W w') := fun W => HW.out k e W hke he
          clear HW
          generalize dwS s.data.toList e k [] = ws at *
          by_cases hne : ws = []
          · subst hne
            have HG : Hid (acc ++ linesS (s.data.toList.drop (e + 1)) (e + 1) [] = linesS s.data.toList 0 []) := by
              have h := Hacc.out
              rw [HF.out, if_pos rfl, List.nil_append] at h
              exact h
            by_cases hlt2 : e < s.size
            · have hte := hte hlt2
              go_wp2_with (first | (go_at_call 19; refine Calls.mono (HW1.out _) ?_; rintro en w1 ⟨v1, rfl, hrow, hb⟩; obtain ⟨p, rfl, hwr⟩ := DLs.first hrow HD.out.b; have HD1 : Hid _ := HD.out.up hb; have HWR : Hid _ := hwr; clear hb hwr hrow HD))
              go_roundw
              case rel => exact ⟨e + 1, acc, ps, by omega, by omega, by go_num, HG, HD1.out⟩
              case measure => simp [intOf]; omega
            · clear hte
              go_wp2_with (first | (go_at_call 19; refine Calls.mono (HW1.out _) ?_; rintro en w1 ⟨v1, rfl, hrow, hb⟩; obtain ⟨p, rfl, hwr⟩ := DLs.first hrow HD.out.b; have HD1 : Hid _ := HD.out.up hb; have HWR : Hid _ := hwr; clear hb hwr hrow HD))
              go_roundw
              case rel => exact ⟨e + 1, acc, ps, by omega, by omega, by go_num, HG, HD1.out⟩
              case measure => simp [intOf]; omega
          · have HG : Hid (acc ++ [⟨ws, e⟩] ++ linesS (s.data.toList.drop (e + 1)) (e + 1) [] = linesS s.data.toList 0 []) := by
              have h := Hacc.out
              rw [HF.out, if_neg hne, ← List.append_assoc] at h
              exact h
            have hpos : 0 < ws.length := List.length_pos_iff.2 hne
            by_cases hlt2 : e < s.size
            · have hte := hte hlt2
              go_wp2_with (first | (go_at_call 19; refine Calls.mono (HW1.out _) ?_; rintro en w1 ⟨v1, rfl, hrow, hb⟩; obtain ⟨p, rfl, hwr⟩ := DLs.first hrow HD.out.b; have HD1 : Hid _ := HD.out.up hb; have HWR : Hid _ := hwr; clear hb hwr hrow HD) | (at_builtin; refine wpList_append_lies _ rfl _ _ 41 rfl w.heap.size 45 i0 (.agg #[.slice none 0 0, .int .i64 0]) 2 32 Tryz.underlying41 HI.out.1 HI.out.2.1 HI.out.2.2.1 HI.out.2.2.2 rfl (by decide) _ _ _ rfl (HD1.out.row.alloc _) ⟨w1.heap.size, 0, none⟩ 1 1 [.slice p.1 ws.length p.2, .int .i64 (e : Int)] rfl rfl (World.news_of_block (heap_alloc_new w1 _)) (by simp [Value.oneCell']) (by decide) (by unfold maxLen; omega) (by omega) (by have := HD1.out.b.size; simp; omega) (w1.heap.size + 1) (by simp) ?_; intro g cap w2 hown1 hgrow hat hlt3; have HD2 : Hid (DLs w w2 _ (acc ++ [⟨ws, e⟩]) (ps ++ [p])) := HD1.out.put (l := ⟨ws, e⟩) HWR.out hown1 hgrow; clear hown1 hgrow hat hlt3 HD1 HWR))
              go_roundw
              case rel => exact ⟨e + 1, acc ++ [⟨ws, e⟩], ps ++ [p], by omega, by simp; omega, by go_num, HG, HD2.out⟩
              case measure => simp [intOf]; omega
            · clear hte
              go_wp2_with (first | (go_at_call 19; refine Calls.mono (HW1.out _) ?_; rintro en w1 ⟨v1, rfl, hrow, hb⟩; obtain ⟨p, rfl, hwr⟩ := DLs.first hrow HD.out.b; have HD1 : Hid _ := HD.out.up hb; have HWR : Hid _ := hwr; clear hb hwr hrow HD) | (at_builtin; refine wpList_append_lies _ rfl _ _ 41 rfl w.heap.size 45 i0 (.agg #[.slice none 0 0, .int .i64 0]) 2 32 Tryz.underlying41 HI.out.1 HI.out.2.1 HI.out.2.2.1 HI.out.2.2.2 rfl (by decide) _ _ _ rfl (HD1.out.row.alloc _) ⟨w1.heap.size, 0, none⟩ 1 1 [.slice p.1 ws.length p.2, .int .i64 (e : Int)] rfl rfl (World.news_of_block (heap_alloc_new w1 _)) (by simp [Value.oneCell']) (by decide) (by unfold maxLen; omega) (by omega) (by have := HD1.out.b.size; simp; omega) (w1.heap.size + 1) (by simp) ?_; intro g cap w2 hown1 hgrow hat hlt3; have HD2 : Hid (DLs w w2 _ (acc ++ [⟨ws, e⟩]) (ps ++ [p])) := HD1.out.put (l := ⟨ws, e⟩) HWR.out hown1 hgrow; clear hown1 hgrow hat hlt3 HD1 HWR))
              go_roundw
              case rel => exact ⟨e + 1, acc ++ [⟨ws, e⟩], ps ++ [p], by omega, by simp; omega, by go_num, HG, HD2.out⟩
              case measure => simp [intOf]; omega
    · go_wp2
      go_ret
      obtain rfl : k = s.size + 1 := by omega
      have h := Hacc.out
      rw [linesS_end _ _ _ _ (by rw [HL.out]; omega), emit_nil, List.append_nil] at h
      subst h
      exact ⟨_, _, rfl, HD.out⟩
end Go.Proofs.YthfchelkfbboaaaGreatDoor.Pr
