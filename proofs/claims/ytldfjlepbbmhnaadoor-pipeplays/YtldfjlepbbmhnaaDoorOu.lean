/- The statement PipePlays, whole: whatever words, table, state and asks are handed in, the machine issues a bundle a cycle, reads what is there, and lands results as many cycles later as its table says; the listed variables are tied to the program's text. Conditions: none. -/
import Derived.Test.YtldfjlepbbmhnaaDoorZq
import Derived.Test.YtldfjlepbbmhnaaDoorFr
import Derived.ChangeSlices
import Derived.Deep.SlicePairs
namespace Go.Proofs.YtldfjlepbbmhnaaDoor.Pp
open Go.ChangeShapes Go.WideShapes Go.ChangeAt Go.RowKit
open _root_.Go.Proofs.YtldfjlepbbmhnaaDoor.Op _root_.Go.Proofs.YtldfjlepbbmhnaaDoor.So _root_.Go.Proofs.YtldfjlepbbmhnaaDoor.Bu
open _root_.Go.Proofs.YtldfjlepbbmhnaaDoor.Tb (Tab TabAt Bnds)
set_option maxRecDepth 20000

theorem bp_dec {t : Tab} {v : Nat → Int} {n : Nat} (h : deE t v n = 0) : Bp t (deL t v (n / ofs t 4)) := by
  obtain ⟨h1, -, h3, h4⟩ := deE_ok h
  have ht : (∀ k, k < 4 → 1 ≤ t.l k ∧ t.l k ≤ 8) ∧ 0 ≤ t.d ∧ t.d ≤ 7 := by
    simp only [Tb.Tab.ok, Tb.okC, Tb.inB, Bool.and_eq_true, decide_eq_true_eq] at h1
    refine ⟨fun k hk => ?_, by omega⟩
    rcases (by omega : k = 0 ∨ k = 1 ∨ k = 2 ∨ k = 3) with rfl | rfl | rfl | rfl <;> omega
  refine ⟨bo_dec h, fun x hm k hk o ho e => ?_, ht.1, ht.2⟩
  obtain ⟨i, hi, rfl⟩ := List.mem_map.1 hm
  have hb := bdK_iff.1 (deB_iff.1 h4 i (List.mem_range.1 hi)) k hk
  obtain ⟨j, hj, rfl⟩ := List.mem_map.1 ho
  have h5 := List.all_eq_true.1 hb j hj
  have h6 : clB (opW (cv t (sv t v i) k j)).op = true := by
    simp only [okW, isB, Bool.and_eq_true] at h5
    exact h5.2.1.1
  rw [e] at h6
  exact absurd h6 (by decide)
theorem law_plays (ao ra ma la : Option Addr) (n cap rc mc lc : Nat) (v : Nat → Int) (t : Tab) (rs ms : List Int) (l : List (Int × Int)) (w : World) (hx : Ws w ao n v) (hc : n ≤ cap) (hn : n ≤ 17592186044416) (hG : Bnds w) (hr : NL w ra rs) (hm : NL w ma ms) (hl : AL w la l) (hri : ∀ x ∈ rs, I64 x) (hmi : ∀ x ∈ ms, I64 x) :
    Calls Tryd.prog 3 #[.slice ao n cap, t.val, .agg #[.slice ra rs.length rc, .slice ma ms.length mc], .slice la l.length lc] w (Yes w) := by
  by_cases f0 : 16384 < n
  · exact plays_far0 ao ra ma la n cap _ rc _ mc lc t l w hG hl f0
  by_cases f1 : 40 < l.length
  · exact plays_far1 ao ra ma la n cap _ rc _ mc lc t l w hG hl f0 f1
  by_cases f2 : 2000 < smN l (min l.length 41)
  · exact plays_far2 ao ra ma la n cap _ rc _ mc lc t l w hG hl f0 f1 f2
  by_cases f3 : 1000 < rs.length
  · exact plays_far3 ao ra ma la n cap _ rc _ mc lc t l w hG hl f0 f1 f2 f3
  by_cases f4 : 1000 < ms.length
  · exact plays_far4 ao ra ma la n cap _ rc _ mc lc t l w hG hl f0 f1 f2 f3 f4
  rw [show min l.length 41 = l.length by omega] at f2
  by_cases h : deE t v n = 0
  · by_cases hlg : 32 < rs.length ∨ 256 < ms.length
    · refine plays_all ao ra ma la n cap rc mc lc v t rs ms l [] 2 w hG hx hc hr hm hl f0 f1 f2 f3 f4 hri hmi (fun e => absurd e (by decide)) (fun V hV => ?_) fun V mo nc ra' rc' ma' mc' hV hw hcc k1 k2 => ?_
      · exact (rnew_long ao ra ma n cap _ rc _ mc v t V (hx.below hV) hc hn h hlg).mono fun e w' ⟨h1, h2⟩ => ⟨.pointer none, h1, h2, fun _ => rfl, fun e => absurd e (by decide)⟩
      · exact (new_long mo ra' ma' n nc _ rc' _ mc' v t V hw hcc (hG.below hV hG.big) hn h hlg).mono fun e w' ⟨h1, h2⟩ => ⟨.pointer none, h1, h2, fun _ => rfl, fun e => absurd e (by decide)⟩
    · refine plays_all ao ra ma la n cap rc mc lc v t rs ms l (deL t v (n / ofs t 4)) 0 w hG hx hc hr hm hl f0 f1 f2 f3 f4 hri hmi (fun _ => bp_dec h) (fun V hV => ?_) fun V mo nc ra' rc' ma' mc' hV hw hcc k1 k2 => ?_
      · refine (rnew_ok ao ra ma n cap rc mc v t rs ms V (hx.below hV) hc hn h (hr.up hV) (hm.up hV) (by omega) (by omega) (deL t v (n / ofs t 4)) (by simp [LD, h])).mono ?_
        rintro e w' ⟨q, rb, ub, a, c, x0, h1, h2, h3, h4, h5, h6, h7⟩
        exact ⟨ptr q, h1, h3, fun e => absurd rfl e, fun _ => ⟨q, rb, ub, a, c, x0, rfl, h2, h4, h5, h6, h7⟩⟩
      · refine (new_far mo ra' ma' n nc rc' mc' v t rs ms V hw hcc (hG.below hV hG.big) hn h k1 k2 (by omega) (by omega) (deL t v (n / ofs t 4)) rfl (deL_len _ _ _)).mono ?_
        rintro e w' ⟨q, r, c, h1, h2, h3, h4, h5⟩
        exact ⟨ptr q, h1, h3, fun e => absurd rfl e, fun _ => ⟨q, r, c, rfl, h2, h4, h5⟩⟩
  · refine plays_all ao ra ma la n cap rc mc lc v t rs ms l [] (deE t v n) w hG hx hc hr hm hl f0 f1 f2 f3 f4 hri hmi (fun e => absurd e h) (fun V hV => ?_) fun V mo nc ra' rc' ma' mc' hV hw hcc k1 k2 => ?_
    · exact (rnew_no ao ra ma n cap _ rc _ mc v t V (hx.below hV) hc hn h).mono fun e w' ⟨h1, h2⟩ => ⟨.pointer none, h1, h2, fun _ => rfl, fun e => absurd e h⟩
    · exact (new_no mo ra' ma' n nc _ rc' _ mc' v t V hw hcc (hG.below hV hG.big) hn h).mono fun e w' ⟨h1, h2⟩ => ⟨.pointer none, h1, h2, fun _ => rfl, fun e => absurd e h⟩
end Go.Proofs.YtldfjlepbbmhnaaDoor.Pp
namespace Go.Proofs.YtldfjlepbbmhnaaDoor.Pp
open Go.ChangeShapes Go.WideShapes Go.ChangeAt Go.RowKit
open _root_.Go.Proofs.YtldfjlepbbmhnaaDoor.Op _root_.Go.Proofs.YtldfjlepbbmhnaaDoor.So _root_.Go.Proofs.YtldfjlepbbmhnaaDoor.Bu
open _root_.Go.Proofs.YtldfjlepbbmhnaaDoor.Tb (Tab TabAt Bnds)
set_option maxRecDepth 20000

theorem cell_spot {w : World} {a : Addr} {v : Value} (h : w.cell? a = some v) : a = ⟨a.block, a.off, none⟩ := by
  obtain ⟨b, f, s⟩ := a
  cases s with
  | none => rfl
  | some s =>
    unfold World.cell? at h
    split at h
    · simp at h
    · cases h
theorem wfu64 {n : Int} (h : (Lit.int .u64 n).wf = true) : 0 ≤ n ∧ n < 18446744073709551616 := by
  simp [Lit.wf, IntKind.min, IntKind.max, IntKind.signed, IntKind.bits] at h
  omega
/-- Words that come in. -/
theorem open_ws {H : Type} {enc : TypeId × Value → H} {W : World} {r : Reach} {b0 : Nat} {held : Bool} {v : Value} {d : DataW H} {p : List MemPlace} (hv : Value.okWide Tryd.prog W r b0 22 v) (h : DataW.Trod enc Tryd.prog W 0 (fun _ => true) held 22 v d p) (hw : ∀ n, n ∈ d.weights Tryd.prog 22 → n ≤ reachBytes) :
    ∃ (ao : Option Addr) (n cap : Nat) (g : Nat → Int), v = .slice ao n cap ∧ n ≤ cap ∧ n ≤ 17592186044416 ∧ Ws W ao n g := by
  obtain ⟨a0, len0, cap0, rfl⟩ := okWide_slice Tryd.underlying22 hv
  obtain ⟨fuel, hf⟩ := h
  have hf' : DataW.trod enc Tryd.prog W 0 (fun _ => true) held fuel 22 [.slice a0 len0 cap0] = some (d, p) := hf
  have b40 : Tryd.prog.bytesOf 40 = 8 := by kernel_rfl
  rcases open_ints (P := Tryd.prog) Tryd.underlying22 Tryd.underlying40 (by kernel_rfl) hf' with ⟨e, -⟩ | ⟨a, len, cap, zs, e, -, hl, hc, hz, hd, hcell, hwf⟩
  · refine ⟨none, 0, 0, fun _ => 0, by simpa using e, by omega, by omega, fun j hj => absurd hj (by omega), fun h => absurd h (by omega)⟩
  · have hz : zs.length = cap := by simpa using hz
    simp only [List.cons.injEq, Value.slice.injEq, and_true] at e
    obtain ⟨rfl, rfl, rfl⟩ := e
    have hcap : cap0 * 8 ≤ reachBytes := by
      refine hw _ ?_
      rw [show d = _ from congrArg Prod.fst hd]
      unfold DataW.weights
      simp only [Tryd.underlying22, b40]
      refine List.mem_cons.2 (.inl ?_)
      simp [lits, List.length_take, List.length_drop]; omega
    rw [reach_eq] at hcap
    refine ⟨some a, len0, cap0, fun k => zs.getD k 0, rfl, hl, by omega, fun k hk => ?_, fun h0 => ?_⟩
    · have hm : zs.getD k 0 ∈ zs := by
        have hk' : k < zs.length := by omega
        rw [List.getD_eq_getElem?_getD, List.getElem?_eq_getElem hk']; exact List.getElem_mem hk'
      exact wfu64 (hwf _ hm)
    · have h1 := hcell 0 (by omega)
      rw [show a.add 0 = a by unfold Addr.add; simp] at h1
      have ha := cell_spot h1
      refine ⟨a.block, a.off, by rw [← ha], World.block_lt_of_cell? W a h1, fun i hi => ?_⟩
      have h2 := hcell i (by omega)
      rw [ha, show (⟨a.block, a.off, none⟩ : Addr).add i = ⟨a.block, a.off + i, none⟩ by simp [Addr.add]] at h2
      exact h2
/-- A list of numbers out of a datum. -/
theorem open_nums {H : Type} {enc : TypeId × Value → H} {W : World} {fuel : Nat} {held : Bool} {c : Value} {y : DataW H × List MemPlace} (h : DataW.trod enc Tryd.prog W 0 (fun _ => true) held fuel 26 [c] = some y) :
    ∃ (ao : Option Addr) (cap : Nat) (l : List Int), c = .slice ao l.length cap ∧ NL W ao l ∧ (∀ x ∈ l, I64 x) := by
  rcases open_ints (P := Tryd.prog) Tryd.underlying26 Tryd.underlying2 (by kernel_rfl) h with ⟨e, -⟩ | ⟨a, len, cap, zs, e, -, hl, hc, hz, -, hcell, hwf⟩
  · exact ⟨none, 0, [], by simpa using e, ⟨fun h => by simp at h⟩, fun x hx => by simp at hx⟩
  · have hz : zs.length = cap := by simpa using hz
    refine ⟨some a, cap, zs.take len, by simp at e; rw [e]; congr; simp; omega, ⟨fun h0 => ?_⟩, fun x hx => ?_⟩
    · have hlen : 0 < len := by simp at h0; omega
      have h1 := hcell 0 (by omega)
      rw [show a.add 0 = a by unfold Addr.add; simp] at h1
      have ha := cell_spot h1
      refine ⟨a.block, a.off, by rw [← ha], World.block_lt_of_cell? W a h1, fun i hi => ?_⟩
      have hi' : i < zs.length := by simp at hi; omega
      have h2 := hcell i hi'
      rw [ha, add_at'] at h2
      rw [h2]
      simp [List.getD, List.getElem?_eq_getElem hi']
    · have := wf64 (hwf x (List.mem_of_mem_take hx))
      exact this
theorem open_state {H : Type} {enc : TypeId × Value → H} {W : World} {r : Reach} {b0 : Nat} {held : Bool} {v : Value} {d : DataW H} {p : List MemPlace} (hv : Value.okWide Tryd.prog W r b0 28 v) (h : DataW.Trod enc Tryd.prog W 0 (fun _ => true) held 28 v d p) :
    ∃ (ra ma : Option Addr) (rc mc : Nat) (rs ms : List Int), v = .agg #[.slice ra rs.length rc, .slice ma ms.length mc] ∧ (NL W ra rs ∧ NL W ma ms) ∧ (∀ x ∈ rs, I64 x) ∧ (∀ x ∈ ms, I64 x) := by
  obtain ⟨cs, rfl, hsz⟩ := okWide_struct Tryd.underlying28 hv
  have k27 : Tryd.prog.cellsOf 28 = 2 := by kernel_rfl
  have k25 : Tryd.prog.cellsOf 26 = 1 := by kernel_rfl
  rw [k27] at hsz
  obtain ⟨l⟩ := cs
  clear hv
  match l, hsz with
  | [c0, c1], _ =>
    obtain ⟨fuel, hf⟩ := h
    obtain ⟨xs, n, _, hx, _, hlen, hff⟩ := DataW.trod_struct Tryd.underlying28 hf
    match xs, hlen with
    | [y0, y1], _ =>
      have h0 : DataW.trod enc Tryd.prog W 0 (fun _ => true) held n 26 ((([c0, c1] : List Value).drop 0).take (Tryd.prog.cellsOf 26)) = some y0 := hff 0 _ rfl
      have h1 : DataW.trod enc Tryd.prog W 0 (fun _ => true) held n 26 ((([c0, c1] : List Value).drop 1).take (Tryd.prog.cellsOf 26)) = some y1 := hff 1 _ rfl
      rw [k25] at h0 h1
      obtain ⟨ra, rc, rs, e0, n0, i0⟩ := open_nums (c := c0) h0
      obtain ⟨ma, mc, ms, e1, n1, i1⟩ := open_nums (c := c1) h1
      subst e0 e1
      exact ⟨ra, ma, rc, mc, rs, ms, rfl, ⟨n0, n1⟩, i0, i1⟩
/-- Asks that come in. -/
theorem open_asks {H : Type} {enc : TypeId × Value → H} {W : World} {r : Reach} {b0 : Nat} {held : Bool} {v : Value} {d : DataW H} {p : List MemPlace} (hv : Value.okWide Tryd.prog W r b0 29 v) (h : DataW.Trod enc Tryd.prog W 0 (fun _ => true) held 29 v d p) :
    ∃ (la : Option Addr) (lc : Nat) (l : List (Int × Int)), v = .slice la l.length lc ∧ AL W la l := by
  obtain ⟨a0, len0, cap0, rfl⟩ := okWide_slice Tryd.underlying29 hv
  obtain ⟨fuel, hf⟩ := h
  have hf' : DataW.trod enc Tryd.prog W 0 (fun _ => true) held fuel 29 [.slice a0 len0 cap0] = some (d, p) := hf
  rcases Go.Deep.open_slice_pairs (P := Tryd.prog) Tryd.underlying29 Tryd.underlying31 (by kernel_rfl) rfl rfl (by kernel_rfl) (by kernel_rfl) hf' with ⟨e, -⟩ | ⟨a, len, cap, m, k, V0, V1, D0, D1, P0, P1, e, -, hl, hm, hmm, -, hx⟩
  · exact ⟨none, 0, [], by simpa using e, ⟨fun h => by simp at h⟩⟩
  · simp only [List.cons.injEq, Value.slice.injEq, and_true] at e
    obtain ⟨rfl, rfl, rfl⟩ := e
    have hlm : len0 ≤ m := by rw [hmm]; split <;> omega
    have hi : ∀ i, i < len0 → ∃ x : Int × Int, V0 i = .int .i64 x.1 ∧ V1 i = .int .i64 x.2 := fun i hi => by
      obtain ⟨-, -, g0, g1⟩ := hx i (by omega)
      obtain ⟨x, e0, -⟩ := DataW.trod_int Tryd.underlying3 g0
      obtain ⟨y, e1, -⟩ := DataW.trod_int Tryd.underlying3 g1
      exact ⟨(x, y), by simpa using e0, by simpa using e1⟩
    obtain ⟨f, hfs⟩ := Go.Deep.choose_lt hi
    refine ⟨some a, cap0, (List.range len0).map f, by simp, ⟨fun h0 => ?_⟩⟩
    have h0 : 0 < len0 := by simpa using h0
    have h1 := (hx 0 (by omega)).1
    rw [show a.add (0 * 2) = a by unfold Addr.add; simp] at h1
    have ha := cell_spot h1
    refine ⟨a.block, a.off, by rw [← ha], World.block_lt_of_cell? W a h1, fun i x hxi => ?_⟩
    have hlt : i < len0 := by have := (List.getElem?_eq_some_iff.1 hxi).1; simpa using this
    rw [List.getElem?_map, List.getElem?_range hlt] at hxi
    cases hxi
    obtain ⟨c0, c1, -, -⟩ := hx i (by omega)
    rw [(hfs i hlt).1] at c0
    rw [(hfs i hlt).2] at c1
    rw [ha, add_at'] at c0 c1
    exact ⟨c0, c1⟩
end Go.Proofs.YtldfjlepbbmhnaaDoor.Pp
namespace Go.Proofs.YtldfjlepbbmhnaaDoor.Pc
open Go.ChangeShapes Go.WideShapes Go.ChangeAt Go.RowKit
open _root_.Go.Proofs.YtldfjlepbbmhnaaDoor.Op _root_.Go.Proofs.YtldfjlepbbmhnaaDoor.Bu
open _root_.Go.Proofs.YtldfjlepbbmhnaaDoor.Pp (law_plays open_ws open_state open_asks)

set_option maxRecDepth 100000 in
theorem plays_wit (os : Os) (H : Type) (enc : TypeId × Value → H) : ∃ (w : World) (tape : Tape) (i : Input), w.os = os ∧ (w.forCall tape i).Shaped Tryd.prog ∧ i.vars = [] ∧ Input.okWide Tryd.prog (w.forCall tape i) .any w.heap.size 3 i ∧
      ((Rows.pipePlaysSpec.pre enc Tryd.prog Tryd.f3 [] false (w.forCall tape i).memory i.args ∧ laidMetH Tryd.prog Rows.pipePlaysRow.laid (w.forCall tape i).memory) ∧ sizedMet enc Tryd.prog Tryd.f3 (OpenSpec.ofChange Rows.pipePlaysSpec) false (w.forCall tape i).memory i.args) ∧ Assume.holds {} Tryd.prog (lone (Frame.enter Tryd.prog 3 i.args .normal) [] (w.forCall tape i)) :=
  ChangeSpec.witness_shaped (enc := enc) (C := Tryd.checked) (os := os) (X := fun w _ => laidMetH Tryd.prog Rows.pipePlaysRow.laid w) false ((World.holding Tryd.prog os ⟨#[], #[], []⟩).layVars Tryd.prog laid4) #[.slice none 0 0, .agg #[.int .i64 0, .int .i64 0, .int .i64 0, .int .i64 0, .int .i64 0, .int .i64 0, .int .i64 0, .int .i64 0, .int .i64 0, .int .i64 0, .int .i64 0, .int .i64 0, .int .i64 0], .agg #[.slice none 0 0, .slice none 0 0], .slice none 0 0] 8 (wit_os4 os)
    (World.shaped_of_ZipB (by kernel_rfl) (by kernel_rfl)) (by kernel_rfl) (by kernel_rfl) (by kernel_rfl) (wit_met4 os _)

set_option maxRecDepth 100000 in
theorem plays_lifted (os : Os) (started : os.Started) (H : Type) (enc : TypeId × Value → H) :
    ReturnsInHanded {} Tryd.checked os 3 .any (fun w args => (Rows.pipePlaysSpec.pre enc Tryd.prog Tryd.f3 [] false w args ∧ laidMetH Tryd.prog Rows.pipePlaysRow.laid w) ∧ sizedMet enc Tryd.prog Tryd.f3 (OpenSpec.ofChange Rows.pipePlaysSpec) false w args)
      (Rows.pipePlaysSpec.post enc Tryd.prog Tryd.f3 false true false false) := by
  refine wrap started (by kernel_rfl) Tryd.func3 (plays_wit os H enc) ?_
  intro W base args ds gs before hval0 hW hsz hL hsh
  have hval : ∀ (j : Nat) t v, Tryd.f3.params[j]? = some t → args[j]? = some v → Value.okWide Tryd.prog W .any base t v := hval0
  have hW' := hW
  obtain ⟨p, q, hA0, hV, rfl, _, _⟩ := hW
  have hA : DataW.TrodAll enc Tryd.prog W 0 (fun _ => true) true Tryd.f3.params.toList args.toList ds p := hA0
  rw [Tryd.params3] at hA hval hsz
  obtain ⟨v0, v1, v2, v3, d0, d1, d2, d3, p0, p1, p2, p3, rfl, rfl, rfl, h0, h1, h2, h3⟩ := trodAll_four hA
  obtain ⟨rfl, rfl⟩ := trodVars_none hV
  obtain ⟨ao0, n0, cap0, g0, rfl, hc0, hn0, hx0⟩ := open_ws (hval 0 22 v0 rfl rfl) h0 fun n hn => by
    have := List.all_eq_true.1 hsz n (DataW.weights_mem_each (j := 0) rfl rfl n hn)
    simpa using this
  obtain ⟨⟨t, rfl⟩, rfl⟩ := open_tab (hval 1 25 v1 rfl rfl) h1
  obtain ⟨ra, ma, rc, mc, rs, ms, rfl, ⟨hs1, hs2⟩, hr, hms⟩ := open_state (hval 2 28 v2 rfl rfl) h2
  obtain ⟨la, lc, l, rfl, hal⟩ := open_asks (hval 3 29 v3 rfl rfl) h3
  simp only [List.append_nil] at hW'
  refine (law_plays ao0 ra ma la n0 cap0 rc mc lc g0 t rs ms l W hx0 hc0 hn0 (env4 hL hsh) hs1 hs2 hal hr hms).mono fun e W' ⟨he, hb⟩ => ?_
  subst he
  refine ⟨_, rfl, _, _, _, [], p0 ++ ([] ++ (p2 ++ p3)), [], hW', trodAll_mk1 (shut_bool Tryd.underlying4 _), ?_, rfl, hb.frame _, fun h => by cases h⟩
  rw [Tryd.params3]
  refine trodAll_mk4 (Below.trod laidOut (by kernel_rfl) (by rw [tySize]; decide) h0 hb fun x hx => ?_) (Below.trod laidOut (by kernel_rfl) (by rw [tySize]; decide) h1 hb (fun x hx => by cases hx)) (Below.trod laidOut (by kernel_rfl) (by rw [tySize]; decide) h2 hb fun x hx => ?_) (Below.trod laidOut (by kernel_rfl) (by rw [tySize]; decide) h3 hb fun x hx => ?_)
  · obtain ⟨fuel, hf⟩ := h0
    exact DataW.trod_lt _ _ _ _ hf x hx
  · obtain ⟨fuel, hf⟩ := h2
    exact DataW.trod_lt _ _ _ _ hf x hx
  · obtain ⟨fuel, hf⟩ := h3
    exact DataW.trod_lt _ _ _ _ hf x hx

theorem plays_row : Rows.PipePlaysSaid :=
  OpenClaim.holds_of_wide 3 Tryd.f3 rfl rfl rfl rfl rfl rfl rfl ⟨rfl, rfl, rfl, rfl, rfl⟩ rfl rfl rfl rfl rfl (by kernel_rfl) Tryd.func3 (by kernel_rfl)
    (of_decide_eq_true (by kernel_rfl)) (by unfold Func.isWrapper; first | (rw [if_pos (by decide +kernel)]; kernel_rfl) | (rw [if_neg (by decide +kernel)]; exact ⟨rfl, rfl⟩))
    (fun os started H enc _ => plays_lifted os started H enc)

theorem plays_card : Rows.PipePlaysCardSaid :=
  Claim7.holds_tied_plain_at .later [] [.wider, .wider, .wider, .wider] true (true, "9c501417bfd3c41693932ee0abac4e986852cc4fce5346b0771cb3e051ecb901") true plays_row (fun _ h => by cases h) (by kernel_rfl) (fun _ h => by cases h) pipePlays_row_tie rfl ⟨rfl, rfl⟩ (by kernel_rfl) rfl
    (fun f fn hf hfn => by
      obtain rfl : f = 3 := Option.some.inj ((show Tryd.prog.funcNamed "hayloft/hayloftlaw22.PipePlays" = some 3 by kernel_rfl).symm.trans hf) |>.symm
      obtain rfl : fn = Tryd.f3 := (Option.some.inj (Tryd.func3.symm.trans hfn)).symm
      exact ⟨by kernel_rfl, fun j t ht => by
        rw [Tryd.params3] at ht
        have hm : t ∈ [22, 25, 28, 29] := by simpa using Array.mem_of_getElem? ht
        have hall : ([22, 25, 28, 29].all fun u => !Tryd.prog.wantsStandIn u) = true := by kernel_rfl
        exact (show Tryd.prog.wantsStandIn t = false by simpa using List.all_eq_true.1 hall t hm)⟩)
    (by kernel_rfl)
#print axioms plays_card
end Go.Proofs.YtldfjlepbbmhnaaDoor.Pc
