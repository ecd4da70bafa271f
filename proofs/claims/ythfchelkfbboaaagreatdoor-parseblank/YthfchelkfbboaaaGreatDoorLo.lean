/- The statement ParseOnes, out of what its callees answer: read off the program by the walk. Conditions: the variables lie in memory as the program lays them. -/
import Derived.Test.YthfchelkfbboaaaGreatDoorMb
import Derived.Test.YthfchelkfbboaaaGreatDoorWk
import Derived.Test.YthfchelkfbboaaaGreatDoorLd
namespace Go.Proofs.YthfchelkfbboaaaGreatDoor.Pr
open Go.ChangeShapes Go.WideShapes Go.ChangeAt Go.RowKit
open _root_.Go.Proofs.YthfchelkfbboaaaGreatDoor.Op
set_option maxRecDepth 20000

theorem parse_good (s : ByteArray) (bs : List Bk) (w : World) (hs : s.size ≤ maxLen) (hV : Vars w) (h : parseF s.data.toList = (none, bs)) : Calls Tryz.prog 6 #[.string s] w fun e w' => ∃ a c, e = .returned (.tuple #[.agg #[.slice a bs.length c], .nilIface]) ∧ PRow w' w.heap.size a c bs ∧ Below w.heap.size w w' := by
  have h' := parse_any s w hs hV
  rw [h] at h'
  exact h'
theorem parse_bad (s : ByteArray) (f : Int × Wd') (bs : List Bk) (w : World) (hs : s.size ≤ maxLen) (hV : Vars w) (h : parseF s.data.toList = (some f, bs)) : Calls Tryz.prog 6 #[.string s] w fun e w' => ∃ q, e = .returned (.tuple #[.agg #[.slice none 0 0], .iface 49 (.pointer (some ⟨q, 0, none⟩))]) ∧ FaultAt w' q f.1 f.2 ∧ Below w.heap.size w w' := by
  have h' := parse_any s w hs hV
  rw [h] at h'
  exact h'.mono fun e w' h => h.2
set_option maxHeartbeats 1000000 in
theorem ones_bad (s : ByteArray) (f : Int × Wd') (bs : List Bk) (w : World) (hs : s.size ≤ maxLen) (hV : Vars w) (h : parseF s.data.toList = (some f, bs)) : Calls Tryz.prog 5 #[.string s] w fun e w' => e = .returned (.bool true) ∧ Below w.heap.size w w' := by
  have HP : Hid _ := parse_bad s f bs w hs hV h
  have HK : Hid (∀ W, Below w.heap.size w W → Calls Tryz.prog 10 #[] W fun e w' => e = .returned (.bool true) ∧ Below W.heap.size W w') := fun W hb => wakes_any W (hV.up hb)
  clear hV h
  unfold maxLen at hs
  go_enter Tryz.func5, Tryz.ntmps5
  go_wp2_with (first
    | (go_at_call 6; refine Calls.mono HP.out ?_; rintro e w1 ⟨q, rfl, hf, hb⟩; have HB : Hid (Below w.heap.size w (w1.alloc (.cells #[.slice none 0 0] 24))) := hb.alloc hb.size _; clear hf hb HP)
    | (go_at_call 10; refine Calls.mono (HK.out _ HB.out) ?_; rintro e w2 ⟨rfl, hb⟩; have HC : Hid _ := HB.out.trans (hb.mono HB.out.size); clear hb))
  go_ret
  exact ⟨rfl, HC.out⟩
/-- The text's lines, one of which is looked at. -/
structure Ls (w V : World) (u : Nat) (a : Option Addr) (c nb : Nat) (bs : List Bk) (v : Value) (ls : List Ln) (ps : List Pw) : Prop where
  p : At V nb #[.slice a bs.length c]
  pr : PRow V w.heap.size a c bs
  row : V.ownsRow u 45 2 v ls.length (lcells ls ps)
  len : ps.length = ls.length
  ins : ∀ (i : Nat) p l, ps[i]? = some p → ls[i]? = some l → WRow V u p l.ws
  b : Below w.heap.size w V
theorem Ls.up {w V V' : World} {u : Nat} {a : Option Addr} {c nb : Nat} {bs : List Bk} {v : Value} {ls : List Ln} {ps : List Pw} (h : Ls w V u a c nb bs v ls ps) (hb : Below V.heap.size V V') : Ls w V' u a c nb bs v ls ps :=
  ⟨h.p.below hb h.p.lt, h.pr.up hb, row_below h.row hb, h.len, fun i p l hp hl => row_below (h.ins i p l hp hl) hb, h.b.trans (hb.mono h.b.size)⟩
theorem lcells_get (ls : List Ln) : ∀ (ps : List Pw) (_ : ls.length = ps.length) (i : Nat) (h : i < ls.length) (h' : i < ps.length), (lcells ls ps)[i * 2]? = some (.slice ps[i].1 ls[i].ws.length ps[i].2) ∧ (lcells ls ps)[i * 2 + 1]? = some (.int .i64 (ls[i].en : Int)) := by
  induction ls with
  | nil => intro ps _ i h; simp at h
  | cons l r ih =>
    intro ps hl i h h'
    cases ps with
    | nil => simp at h'
    | cons p ps =>
      rw [show lcells (l :: r) (p :: ps) = .slice p.1 l.ws.length p.2 :: .int .i64 (l.en : Int) :: lcells r ps from rfl]
      cases i with
      | zero => exact ⟨rfl, rfl⟩
      | succ i =>
        have := ih ps (by simpa using hl) i (by simpa using h) (by simpa using h')
        rw [show (i + 1) * 2 = i * 2 + 1 + 1 by omega]
        simpa using this
/-- A line and its first word in memory. -/
theorem Ls.line {w V : World} {u : Nat} {a : Option Addr} {c nb : Nat} {bs : List Bk} {v : Value} {ls : List Ln} {ps : List Pw} (h : Ls w V u a c nb bs v ls ps) (i : Nat) (hi : i < ls.length) (hne : ∀ l ∈ ls, l.ws ≠ []) :
    ∃ g cap h2 n2 c2, v = .slice (some ⟨g, 0, none⟩) ls.length cap ∧ g < V.heap.size ∧ V.cell? ⟨g, i * 2, none⟩ = some (.slice (some ⟨h2, 0, none⟩) n2 c2) ∧ V.cell? ⟨g, i * 2 + 1, none⟩ = some (.int .i64 (ls[i].en : Int)) ∧ 0 < n2 ∧ h2 < V.heap.size ∧ V.cell? ⟨h2, 0, none⟩ = some (.string ⟨(firstL ls[i]).toArray⟩) := by
  have hi' : i < ps.length := by rw [h.len]; exact hi
  rcases h.row.2 with ⟨_, h0⟩ | ⟨g, cap, cur, rfl, _⟩
  · omega
  · obtain ⟨g0, g1⟩ := lcells_get ls ps h.len.symm i hi hi'
    have hr := h.ins i ps[i] ls[i] (List.getElem?_eq_getElem hi') (List.getElem?_eq_getElem hi)
    have hn := hne ls[i] (List.getElem_mem hi)
    have k : ∀ j x, (lcells ls ps)[j]? = some x → V.cell? ⟨g, 0 + j, none⟩ = some x := fun j x hj => by have := h.row.cells (g := g) rfl j x hj; rw [add_at] at this; exact this
    have k0 := k _ _ g0
    have k1 := k _ _ g1
    rw [Nat.zero_add] at k0 k1
    unfold WRow at hr
    cases hw : ls[i].ws with
    | nil => exact absurd hw hn
    | cons x r =>
      rw [hw] at hr k0
      rcases hr.2 with ⟨_, h0⟩ | ⟨h2, cap', cur', e', _⟩
      · simp at h0
      · injection e' with e' _ _
        rw [e'] at hr k0
        have q0 := hr.cells (g := h2) rfl 0 _ rfl
        rw [add_at] at q0
        refine ⟨g, cap, h2, (x :: r).length, _, rfl, (h.row.lt g rfl).2, k0, k1, by simp, (hr.lt h2 rfl).2, ?_⟩
        rw [show firstL ls[i] = x.2 by unfold firstL; rw [hw]]
        exact q0
theorem DLs.slice {w V : World} {v : Value} {ls : List Ln} {ps : List Pw} (h : DLs w V v ls ps) : ∃ va vc, v = .slice va ls.length vc := by
  rcases h.row.2 with ⟨rfl, h0⟩ | ⟨g, cap, cur, rfl, _⟩
  · exact ⟨none, 0, by rw [h0]⟩
  · exact ⟨_, _, rfl⟩
theorem cntB_take (ls : List Ln) (k : Nat) (hk : k < ls.length) : cntB (ls.take (k + 1)) = cntB (ls.take k) + if firstL ls[k] = [98, 108, 111, 99, 107] then 1 else 0 := by
  unfold cntB
  rw [List.take_succ_eq_append_getElem hk, List.countP_append, List.countP_singleton]
  simp
theorem cntB_le (ls : List Ln) : cntB ls ≤ ls.length := List.countP_le_length
theorem bytes_eq (a b : List UInt8) : (⟨a.toArray⟩ : ByteArray) = ⟨b.toArray⟩ ↔ a = b := by
  constructor
  · intro h; injection h with h; injection h
  · intro h; rw [h]
set_option maxHeartbeats 2000000 in
theorem ones_good (s : ByteArray) (bs : List Bk) (w : World) (hs : s.size ≤ 65536) (hV : Vars w) (h : parseF s.data.toList = (none, bs)) (hc : ckP bs = 0) (hl : bs.length = cntB (linesS s.data.toList 0 [])) : Calls Tryz.prog 5 #[.string s] w fun e w' => e = .returned (.bool true) ∧ Below w.heap.size w w' := by
  have HP : Hid _ := parse_good s bs w (by unfold maxLen; omega) hV h
  have HK : Hid (∀ W, Below w.heap.size w W → Calls Tryz.prog 10 #[] W fun e w' => e = .returned (.bool true) ∧ Below W.heap.size W w') := fun W hb => wakes_any W (hV.up hb)
  have HC : Hid (∀ a c W, PAt W a bs → Below w.heap.size w W → Calls Tryz.prog 12 #[.agg #[.slice a bs.length c]] W fun e w' => e = .returned (.int .i64 0) ∧ Below W.heap.size W w') := fun a c W hp hb => by have := checkP_any a c bs W hp (hV.up hb).e; rw [hc] at this; exact this
  have HD : Hid (∀ W, Calls Tryz.prog 11 #[.string s] W fun e w' => ∃ v ps, e = .returned v ∧ DLs W w' v (linesS s.data.toList 0 []) ps) := fun W => dlines_any s W hs
  have HN : Hid (∀ l ∈ linesS s.data.toList 0 [], l.ws ≠ []) := lines_ne _ _ _
  have hL : (linesS s.data.toList 0 []).length ≤ 65537 := by have := lines_len s.data.toList 0 []; have h2 : s.data.toList.length = s.size := rfl; omega
  have HE : Hid _ := hl
  clear hV h hc hl
  generalize linesS s.data.toList 0 [] = ls at *
  go_enter Tryz.func5, Tryz.ntmps5
  go_wp2_with (first
    | (go_at_call 6; refine Calls.mono HP.out ?_; rintro e w1 ⟨a, c, rfl, hp, hb⟩; have HB : Hid (PRow (w1.alloc (.cells #[.slice a bs.length c] 24)) w.heap.size a c bs ∧ Below w.heap.size w (w1.alloc (.cells #[.slice a bs.length c] 24))) := ⟨hp.up ((Below.refl _ _).alloc (Nat.le_refl _) _), hb.alloc hb.size _⟩; clear hp hb HP)
    | (go_at_call 11; refine Calls.mono (HD.out _) ?_; rintro e w2 ⟨v, ps, rfl, hd⟩; have HL : Hid (Ls w w2 _ a c w1.heap.size bs v ls ps) := ⟨(At.new w1 #[.slice a bs.length c] 24).below hd.b (by simp), HB.out.1.up hd.b, hd.row, hd.len, hd.ins, HB.out.2.trans (hd.b.mono HB.out.2.size)⟩; obtain ⟨va, vc, hv⟩ := hd.slice; subst v; clear hd HD HB))
  generalize (w1.alloc (.cells #[.slice a bs.length c] 24)).heap.size = u at *
  go_loopw [25, 5] (fun i n wr => ∃ k : Nat, k ≤ ls.length ∧ i = .int .i64 k ∧ n = .int .i64 (cntB (ls.take k) : Int) ∧ Ls w wr u a c w1.heap.size bs (.slice va ls.length vc) ls ps) (fun i _ _ => ls.length - (intOf i).toNat)
  case atStart => exact ⟨0, by omega, rfl, rfl, HL.out⟩
  case round =>
    rename_i wr
    obtain ⟨k, hk, rfl, rfl, hls⟩ := hrel
    have HS : Hid _ := hls
    clear HL
    by_cases hlt : k < ls.length
    · obtain ⟨g, cap, h2, n2, c2, e, gl, b0, b1, hn2, hl2, t0⟩ := hls.line k hlt HN.out
      injection e with e1 _ e3
      subst e1 e3
      have hct := cntB_take ls k hlt
      have hle := cntB_le (ls.take k)
      rw [List.length_take] at hle
      have HCT : Hid _ := hct
      clear hct hls
      generalize cntB (ls.take k) = n at *
      by_cases hf : firstL ls[k] = [98, 108, 111, 99, 107]
      · have HG : Hid (cntB (ls.take (k + 1)) = n + 1) := by have h := HCT.out; rw [if_pos hf] at h; exact h
        rw [hf] at t0
        clear hf HCT
        generalize (ls[k].en : Int) = en at *
        go_wp2
        go_roundw
        case rel => exact ⟨k + 1, by omega, by go_num, by rw [HG.out]; go_num, HS.out.up ((Below.refl _ _).alloc (Nat.le_refl _) _)⟩
        case measure => simp [intOf]; omega
      · have HG : Hid (cntB (ls.take (k + 1)) = n) := by have h := HCT.out; rw [if_neg hf] at h; exact h
        have hne : (firstL ls[k] == [98, 108, 111, 99, 107]) = false := by simpa using hf
        clear hf HCT
        generalize (ls[k].en : Int) = en at *
        generalize firstL ls[k] = fl at *
        go_wp2
        go_roundw
        case rel => exact ⟨k + 1, by omega, by go_num, by rw [HG.out], HS.out.up ((Below.refl _ _).alloc (Nat.le_refl _) _)⟩
        case measure => simp [intOf]; omega
    · obtain rfl : k = ls.length := by omega
      rw [List.take_length, ← HE.out]
      have p0 := hls.p.c 0 _ rfl
      clear hls
      go_wp2_with (first
        | (go_at_call 12; refine Calls.mono (HC.out a c _ HS.out.pr.pat HS.out.b) ?_; rintro e w3 ⟨rfl, hb⟩; have HT : Hid _ := HS.out.up hb; have p1 := HT.out.p.c 0 _ rfl; clear hb HS p0)
        | (go_at_call 10; refine Calls.mono (HK.out _ HT.out.b) ?_; rintro e w4 ⟨rfl, hb⟩; have HU : Hid _ := HT.out.b.trans (hb.mono HT.out.b.size); clear hb))
      go_ret
      exact ⟨rfl, HU.out⟩
theorem law_ones (s : ByteArray) (w : World) (hs : s.size ≤ maxLen) (hV : Vars w) : Calls Tryz.prog 5 #[.string s] w fun e w' => e = .returned (.bool true) ∧ Below w.heap.size w w' := by
  cases h : (parseF s.data.toList).1 with
  | none =>
    obtain ⟨h1, h2, h3⟩ := parseF_whole h
    exact ones_good s _ w h1 hV (by rw [← h]) h2 h3
  | some f => exact ones_bad s f _ w hs hV (by rw [← h])
end Go.Proofs.YthfchelkfbboaaaGreatDoor.Pr
