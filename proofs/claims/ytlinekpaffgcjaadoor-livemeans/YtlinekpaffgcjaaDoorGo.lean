/- The walk of the search: a closure that calls itself. Conditions: the program is one, and lies in memory. -/
import Derived.Test.YtlinekpaffgcjaaDoorGn
namespace Go.Proofs.YtlinekpaffgcjaaDoor.Fl
open Go.ChangeShapes Go.WideShapes Go.ChangeAt Go.RowKit Go.Maps
open _root_.Go.Proofs.YtlinekpaffgcjaaDoor.So _root_.Go.Proofs.YtlinekpaffgcjaaDoor.Ss _root_.Go.Proofs.YtlinekpaffgcjaaDoor.Op _root_.Go.Proofs.YtlinekpaffgcjaaDoor.Fw
set_option maxRecDepth 20000

/-- What of the boxes is seen under way. -/
structure Sees (w : World) (bp bm bf bg mb : Nat) (ao : Option Addr) (cap fr : Nat) (ps : List Bk) : Prop where
  p : w.cell? ⟨bp, 0, none⟩ = some (.slice ao ps.length cap)
  m : w.cell? ⟨bm, 0, none⟩ = some (.map (some mb))
  f : w.cell? ⟨bf, 0, none⟩ = some (.int .i64 (fr : Int))
  g : w.cell? ⟨bg, 0, none⟩ = some (.func (.func 59) #[] #[.pointer (some ⟨bp, 0, none⟩), .pointer (some ⟨bm, 0, none⟩), .pointer (some ⟨bf, 0, none⟩), .pointer (some ⟨bg, 0, none⟩)])
theorem Bx.sees {w0 w : World} {bp bm bf bg mb : Nat} {ao : Option Addr} {cap fr : Nat} {ps : List Bk} (h : Bx w0 bp bm bf bg mb ao cap fr ps) (hF : Fr (One mb) w0 w) : Sees w bp bm bf bg mb ao cap fr ps :=
  ⟨by rw [hF.cell h.lp.1 h.lp.2]; exact h.p, by rw [hF.cell h.lm.1 h.lm.2]; exact h.m, by rw [hF.cell h.lf.1 h.lf.2]; exact h.f, by rw [hF.cell h.lg.1 h.lg.2]; exact h.g⟩
theorem BAt.fr {X : Nat → Prop} {w w' : World} {b f : Nat} {x : Bk} {p : Pl} (h : BAt w b f x p) (hF : Fr X w w') (hb : b < w.heap.size) (hx : ¬ X b) : BAt w' b f x p := by
  exact ⟨by rw [hF.cell hb hx]; exact h.c0, by rw [hF.cell hb hx]; exact h.c1, by rw [hF.cell hb hx]; exact h.c2, by rw [hF.cell hb hx]; exact h.c3, by rw [hF.cell hb hx]; exact h.c4, by rw [hF.cell hb hx]; exact h.c5⟩

set_option maxHeartbeats 4000000 in
theorem goes_any (w0 : World) (bp bm bf bg mb : Nat) (ao : Option Addr) (cap fr : Nat) (ps : List Bk) (hB : Bx w0 bp bm bf bg mb ao cap fr ps) (hG : Good ps) (hfr : fr < 1000) : ∀ d, Goes w0 bp bm bf bg mb fr d ps := by
  intro d
  induction d with
  | zero => intro x L w _ _ h; omega
  | succ d ih =>
    intro x L w hx hS hd hl
    have hle := hG.le
    obtain ⟨b, f, rfl, hlt, hbx⟩ := hB.pat.is hG.pos
    obtain ⟨p, hp, hin⟩ := hbx x hx
    have hbm : b ≠ mb := hB.apart b f rfl
    obtain ⟨sp, sm, sf, sg⟩ := hB.sees hS.fr
    obtain ⟨c0, c1, c2, c3, c4, c5⟩ := BAt.fr hp hS.fr hlt hbm
    obtain ⟨xs, hxs⟩ : ∃ xs, xs = turnL ps[x] := ⟨_, rfl⟩
    have HT : Hid (Calls Tryd.prog 47 #[ps[x].val p] w fun e w2 => ∃ v, e = .returned v ∧ Got w w2 v xs) := by rw [hxs]; exact turns_any ps[x] p w hin.ok
    have hxr : Hid (∀ z ∈ xs, 0 ≤ z ∧ z < ps.length) := fun z hz => hG.turn ps[x] (List.getElem_mem hx) z (by rw [← hxs]; exact hz)
    have hx2 : xs.length ≤ 2 := by rw [hxs]; exact turnL_two _
    have hxt : Hid (∀ y : Nat, tB ps x y = true ↔ (y : Int) ∈ xs) := fun y => by rw [tB_of hx, hxs]; simp
    have HB : Hid (Bx w0 bp bm bf bg mb (some ⟨b, f, none⟩) cap fr ps) := hB
    have HS : Hid (Gs w0 w mb L) := hS
    have HIH : Hid (Goes w0 bp bm bf bg mb fr d ps) := ih
    have hsz : Hid (mb < w.heap.size) := Nat.lt_of_lt_of_le hB.lb hS.fr.size
    clear hG hB hbx hp hin ih hS hxs
    go_enter Tryd.func59, Tryd.ntmps59
    go_wp2_with (first
      | (go_at_call 47; refine Calls.mono HT.out ?_; rintro e w2 ⟨v2, rfl, hG2⟩; obtain ⟨a2, cc, rfl, hI2, hb2⟩ := hG2; have HI2 : Hid (Il w2 w.heap.size a2 xs) := hI2; have HS2 : Hid (Gs w0 w2 mb L) := HS.out.below hb2; have HF2 : Hid (Fr (One mb) w w2) := Fr.of hb2; clear hI2 hb2 HT HS))
    clear c0 c1 c2 c3 c4 c5 sp sm sf sg
    go_loopg [7, 15] 3 (fun g1 v7 vi wr => ∃ (k : Nat) (L' : List (Nat × Nat)), vi = .int .i64 k ∧ k ≤ xs.length ∧ xs.length - k ≤ g1 ∧ Hid (Gs w0 wr mb L' ∧ Il wr w.heap.size a2 xs ∧ (Dfs ps fr x L L' fun u => ∃ j, j < k ∧ xs[j]? = some (u : Int)) ∧ Fr (One mb) w wr))
    case atStart =>
      refine ⟨0, L, rfl, by omega, by omega, HS2.out, HI2.out, ?_, HF2.out⟩
      have h := Dfs.init ps fr x L
      exact ⟨Ds.weaken h.ds fun u hu => by obtain ⟨j, hj, _⟩ := hu; omega, h.cnt, h.old, h.new⟩
    case round =>
      clear HS2 HI2 HF2
      obtain ⟨k, L', rfl, hk, hg1, hS1⟩ := hrel
      by_cases hlk : k < xs.length
      · have hkz : (k : Int) < (xs.length : Int) := by omega
        obtain ⟨q, rfl, hq1, hq2, hqc⟩ := hS1.out.2.1.is (by omega)
        have ck := hqc k hlk
        obtain ⟨z0, z1⟩ := hxr.out xs[k] (List.getElem_mem hlk)
        obtain ⟨y, hy⟩ : ∃ y : Nat, (y : Int) = xs[k] := ⟨xs[k].toNat, by omega⟩
        rw [← hy] at ck z0 z1
        have hyn : y < ps.length := by omega
        have hyt : Hid (tB ps x y = true) := (hxt.out y).2 (by rw [hy]; exact List.getElem_mem hlk)
        have hstep : Hid (∀ u : Nat, (∃ j, j < k + 1 ∧ xs[j]? = some (u : Int)) → (∃ j, j < k ∧ xs[j]? = some (u : Int)) ∨ u = y) := fun u hu => by
          obtain ⟨j, hj, e⟩ := hu
          rcases Nat.lt_or_ge j k with h | h
          · exact Or.inl ⟨j, h, e⟩
          · obtain rfl : j = k := by omega
            rw [List.getElem?_eq_getElem hlk] at e
            injection e with e
            right; omega
        obtain ⟨sp, sm, sf, sg⟩ := HB.out.sees hS1.out.1.fr
        have hmn : y < 1000 := by omega
        have HH : Hid (Calls Tryd.prog 60 #[.map (some mb), .int .i64 (fr : Int), .int .i64 (y : Int)] wr fun e w' => e = .returned (.bool (decide ((fr, y) ∈ L'))) ∧ Below wr.heap.size wr w') := has_any mb fr y L' wr hS1.out.1.m hfr hmn
        have HU : Hid (L'.length + unmet ps.length fr L' ≤ L.length + unmet ps.length fr L) := hS1.out.2.2.1.cnt
        clear hqc hq1 hq2 hy
        by_cases hin : (fr, y) ∈ L'
        · rw [decide_eq_true hin] at HH
          have hD : Hid (Dfs ps fr x L L' fun u => ∃ j, j < k + 1 ∧ xs[j]? = some (u : Int)) := hS1.out.2.2.1.skip hin hstep.out
          clear hin
          go_wp2_with (first
            | (go_at_call 60; refine Calls.mono HH.out ?_; rintro e w3 ⟨rfl, hb3⟩; have HS3 : Hid (Gs w0 w3 mb L' ∧ Il w3 w.heap.size (some ⟨q, 0, none⟩) xs ∧ Fr (One mb) w w3) := ⟨hS1.out.1.below hb3, hS1.out.2.1.below hb3, hS1.out.2.2.2.then hb3⟩; clear hb3 HH hS1 sp sm sf sg ck))
          go_roundg (xs.length - (k + 1))
          case measure => omega
          case rel => exact ⟨k + 1, L', by go_num, by omega, Nat.le_refl _, HS3.out.1, HS3.out.2.1, hD.out, HS3.out.2.2⟩
        · rw [decide_eq_false hin] at HH
          have hP := unmet_put (n := ps.length) hyn hin
          have hll : L'.length < 200000 := by have := HU.out; omega
          have HC : Hid (∀ w4, Gs w0 w4 mb (L' ++ [(fr, y)]) → Calls Tryd.prog 59 #[.int .i64 (y : Int), .pointer (some ⟨bp, 0, none⟩), .pointer (some ⟨bm, 0, none⟩), .pointer (some ⟨bf, 0, none⟩), .pointer (some ⟨bg, 0, none⟩)] w4 fun e w' => e = .returned (.tuple #[]) ∧ ∃ L2, Gs w0 w' mb L2 ∧ (Dfs ps fr x L L2 fun u => ∃ j, j < k + 1 ∧ xs[j]? = some (u : Int)) ∧ Fr (One mb) w4 w') := fun w4 h4 => by
            have h1 := unmet_mono (n := ps.length) (fr := fr) (L := L) (L' := L') hS1.out.2.2.1.old
            refine (HIH.out y (L' ++ [(fr, y)]) w4 hyn h4 (by omega) (by have := HU.out; simp; omega)).mono ?_
            rintro e w' ⟨rfl, L2, hS2, hD2, hF2⟩
            exact ⟨rfl, L2, hS2, hS1.out.2.2.1.call hyn hyt.out hin hD2 hstep.out, hF2⟩
          have HK : Hid _ := key_pair hfr hmn
          clear hin hP
          go_wp2_with (first
            | (go_at_call 60; refine Calls.mono HH.out ?_; rintro e w3 ⟨rfl, hb3⟩; have HS3 : Hid (Gs w0 w3 mb L' ∧ Il w3 w.heap.size (some ⟨q, 0, none⟩) xs ∧ Fr (One mb) w w3) := ⟨hS1.out.1.below hb3, hS1.out.2.1.below hb3, hS1.out.2.2.2.then hb3⟩; clear hb3 HH hS1 sp sm sf sg ck; obtain ⟨sp, sm, sf, sg⟩ := HB.out.sees HS3.out.1.fr)
            | (at_mapUpdate; refine wpList_mapUpdate_own _ rfl _ _ _ 84 rfl 87 62 law52 Tryd.underlying84 _ mb _ _ rfl HS3.out.1.m.own (by unfold maxLen; omega) _ _ _ rfl rfl HK.out (.agg []) [] unitElem_mk ?_; intro w4 hown4 hgr4; have hF4 : Fr (One mb) w3 w4 := ⟨hgr4.os, hgr4.tape, hgr4.output, hgr4.size, fun k hk hx => hgr4.block k hk fun e => hx (by injection e)⟩; have HS4 : Hid (Gs w0 w4 mb (L' ++ [(fr, y)]) ∧ Il w4 w.heap.size (some ⟨q, 0, none⟩) xs ∧ Fr (One mb) w w4) := ⟨HS3.out.1.put ⟨hfr, hmn⟩ hown4 hgr4, HS3.out.2.1.fr hF4 (fun b hb _ e => by (have := hsz.out; have : b = mb := e; omega)), HS3.out.2.2.same hF4⟩; clear hown4 hgr4 hF4 HS3 sp sm sf sg; obtain ⟨sp, sm, sf, sg⟩ := HB.out.sees HS4.out.1.fr)
            | (go_at_call 59; refine Calls.mono (HC.out _ HS4.out.1) ?_; rintro e w5 ⟨rfl, L2, hS5, hD5, hF5⟩; have HS5 : Hid (Gs w0 w5 mb L2 ∧ Il w5 w.heap.size (some ⟨q, 0, none⟩) xs ∧ Fr (One mb) w w5) := ⟨hS5, HS4.out.2.1.fr hF5 (fun b hb _ e => by (have := hsz.out; have : b = mb := e; omega)), HS4.out.2.2.same hF5⟩; have HD5 : Hid (Dfs ps fr x L L2 fun u => ∃ j, j < k + 1 ∧ xs[j]? = some (u : Int)) := hD5; clear hS5 hD5 hF5 HC HS4 sp sm sf sg))
          go_roundg (xs.length - (k + 1))
          case measure => omega
          case rel => exact ⟨k + 1, L2, by go_num, by omega, Nat.le_refl _, HS5.out.1, HS5.out.2.1, HD5.out, HS5.out.2.2⟩
      · have hkz : ¬ (k : Int) < (xs.length : Int) := by omega
        obtain rfl : k = xs.length := by omega
        go_wp2
        go_end0
        refine ⟨rfl, L', hS1.out.1, ?_, hS1.out.2.2.2⟩
        have h := hS1.out.2.2.1
        refine ⟨Ds.weaken h.ds fun u hu => ?_, h.cnt, h.old, h.new⟩
        obtain ⟨j, hj, e⟩ := List.getElem_of_mem ((hxt.out u).1 hu.2)
        exact ⟨j, hj, by rw [List.getElem?_eq_getElem hj, e]⟩
end Go.Proofs.YtlinekpaffgcjaaDoor.Fl
