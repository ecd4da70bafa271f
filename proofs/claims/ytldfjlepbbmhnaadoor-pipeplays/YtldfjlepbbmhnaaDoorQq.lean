/- What wakes answers: true. Conditions: the table's bounds lie in memory. -/
import Derived.Test.YtldfjlepbbmhnaaDoorQo
namespace Go.Proofs.YtldfjlepbbmhnaaDoor.Pp
open Go.ChangeShapes Go.WideShapes Go.ChangeAt Go.RowKit
open _root_.Go.Proofs.YtldfjlepbbmhnaaDoor.Op _root_.Go.Proofs.YtldfjlepbbmhnaaDoor.So _root_.Go.Proofs.YtldfjlepbbmhnaaDoor.Bu
open _root_.Go.Proofs.YtldfjlepbbmhnaaDoor.Tb (Tab TabAt Bnds tabAt_new)
set_option maxRecDepth 20000

theorem tab_dl {t : Tab} (h : t.ok = true) : (0 ≤ t.d ∧ t.d ≤ 1000) ∧ ∀ k, k < 4 → 0 ≤ t.l k ∧ t.l k ≤ 1000 := by
  simp only [Tb.Tab.ok, Tb.okC, Tb.inB, Bool.and_eq_true, decide_eq_true_eq] at h
  refine ⟨by omega, fun k hk => ?_⟩
  rcases (by omega : k = 0 ∨ k = 1 ∨ k = 2 ∨ k = 3) with rfl | rfl | rfl | rfl <;> omega
theorem bo_dec {t : Tab} {v : Nat → Int} {n : Nat} (h : deE t v n = 0) : Bo t (deL t v (n / ofs t 4)) := by
  obtain ⟨h1, -, h3, h4⟩ := deE_ok h
  have hx : ∀ x ∈ deL t v (n / ofs t 4), ∃ i, i < n / ofs t 4 ∧ x = bdX t (sv t v i) := fun x hx => by
    obtain ⟨i, hi, rfl⟩ := List.mem_map.1 hx
    exact ⟨i, List.mem_range.1 hi, rfl⟩
  refine ⟨fun x hm k hk o ho => ?_, fun x hm k hk => ?_, (tab_dl h1).1, (tab_dl h1).2, by rw [deL_len]; omega⟩
  · obtain ⟨i, hi, rfl⟩ := hx x hm
    have hb := bdK_iff.1 (deB_iff.1 h4 i hi) k hk
    refine ⟨rdL_ok _ _ o ho, ?_⟩
    obtain ⟨j, hj, rfl⟩ := List.mem_map.1 ho
    have := List.all_eq_true.1 hb j hj
    unfold okW at this
    rw [Bool.and_eq_true] at this
    have h7 := this.2
    unfold isB at h7
    rw [Bool.and_eq_true] at h7
    exact h7.2
  · obtain ⟨i, hi, rfl⟩ := hx x hm
    show (rdL _ _).length ≤ 128
    rw [rdL_len]
    have h5 := stN_le (cv t (sv t v i) k) (U t k)
    have h6 := u_le h1 hk
    unfold U at *
    omega
def oT : O := ⟨12, 1, 1, 1, 0⟩
def oS : O := ⟨17, 0, 1, 0, 0⟩
def oH : O := ⟨20, 0, 1, 0, 0⟩
def bsW : List Bn := [rowB 1 oT, rowB 2 oS, ⟨fun _ => []⟩, rowB 2 oS, rowB 3 oH]
def wsW : List Int := encW oneT bsW
def vW : Nat → Int := fun j => wsW.getD j 0
def lsW : List Bn := deL oneT vW (20 / ofs oneT 4)
def sW : PM := runM oneT lsW 99 (newM [0, 3] [])
theorem ofsW : ofs oneT 4 = 4 := by decide +kernel
theorem encE : enE oneT bsW = 0 := by decide +kernel
theorem wsW_ok : ∀ y ∈ wsW, 0 ≤ y ∧ y < 18446744073709551616 := by decide +kernel
theorem decE : deE oneT vW 20 = 0 := by decide +kernel
theorem lsW_len : lsW.length = 20 / ofs oneT 4 := deL_len _ _ _
theorem sW_e : sW.e = 0 := by decide +kernel
theorem sW_v : sW.v = 9 := by decide +kernel
theorem sW_s : sW.s = 5 := by decide +kernel
theorem sW_p : sW.p = [3, 9] := by decide +kernel
theorem newM_ok {rs ms : List Int} (hr : ∀ x ∈ rs, I64 x) (hm : ∀ x ∈ ms, I64 x) : (newM rs ms).Ok 0 := by
  have g : ∀ (l : List Int), (∀ x ∈ l, I64 x) → ∀ i : Nat, I64 ((l[i]?).getD 0) := fun l hl i => by
    cases e : l[i]? with
    | none => simp [I64]
    | some x => exact hl x (List.mem_of_getElem? e)
  exact ⟨g rs hr, g ms hm, by simp [newM, I64], by simp [newM], by simp [newM], fun k x hx => by simp [newM] at hx, fun k => by simp [newM], by simp [newM]⟩
theorem okO_T : oT.Ok ∧ oS.Ok ∧ oH.Ok := ⟨⟨by decide, by decide, by decide, by decide, by decide, by decide, by decide, by decide, by decide, by decide⟩, ⟨by decide, by decide, by decide, by decide, by decide, by decide, by decide, by decide, by decide, by decide⟩, ⟨by decide, by decide, by decide, by decide, by decide, by decide, by decide, by decide, by decide, by decide⟩⟩
end Go.Proofs.YtldfjlepbbmhnaaDoor.Pp
namespace Go.Proofs.YtldfjlepbbmhnaaDoor.Pp
open Go.ChangeShapes Go.WideShapes Go.ChangeAt Go.RowKit
open _root_.Go.Proofs.YtldfjlepbbmhnaaDoor.Op _root_.Go.Proofs.YtldfjlepbbmhnaaDoor.So _root_.Go.Proofs.YtldfjlepbbmhnaaDoor.Bu
open _root_.Go.Proofs.YtldfjlepbbmhnaaDoor.Tb (Tab TabAt Bnds tabAt_new)
set_option maxRecDepth 20000

theorem bs_lit (X : World) (x1 bs x6 : Nat) (ty : TypeId) (h1 : BnIn X (rowB 1 oT) (rowP 1 x1)) (h2 : BnIn X (rowB 2 oS) (rowP 2 bs)) (h3 : BnIn X (rowB 3 oH) (rowP 3 x6)) : BsAt (X.alloc (.cells #[.slice none 0 0, .slice (some ⟨x1, 0, none⟩) 1 1, .slice none 0 0, .slice none 0 0, .slice none 0 0, .slice none 0 0, .slice (some ⟨bs, 0, none⟩) 1 1, .slice none 0 0, .slice none 0 0, .slice none 0 0, .slice none 0 0, .slice none 0 0, .slice none 0 0, .slice none 0 0, .slice (some ⟨bs, 0, none⟩) 1 1, .slice none 0 0, .slice none 0 0, .slice none 0 0, .slice none 0 0, .slice (some ⟨x6, 0, none⟩) 1 1] ty)) (some ⟨X.heap.size, 0, none⟩) bsW := by
  have hb : Below X.heap.size X (X.alloc (.cells #[.slice none 0 0, .slice (some ⟨x1, 0, none⟩) 1 1, .slice none 0 0, .slice none 0 0, .slice none 0 0, .slice none 0 0, .slice (some ⟨bs, 0, none⟩) 1 1, .slice none 0 0, .slice none 0 0, .slice none 0 0, .slice none 0 0, .slice none 0 0, .slice none 0 0, .slice none 0 0, .slice (some ⟨bs, 0, none⟩) 1 1, .slice none 0 0, .slice none 0 0, .slice none 0 0, .slice none 0 0, .slice (some ⟨x6, 0, none⟩) 1 1] ty)) := (Below.refl _ _).alloc (Nat.le_refl _) _
  have ha := At.new X #[.slice none 0 0, .slice (some ⟨x1, 0, none⟩) 1 1, .slice none 0 0, .slice none 0 0, .slice none 0 0, .slice none 0 0, .slice (some ⟨bs, 0, none⟩) 1 1, .slice none 0 0, .slice none 0 0, .slice none 0 0, .slice none 0 0, .slice none 0 0, .slice none 0 0, .slice none 0 0, .slice (some ⟨bs, 0, none⟩) 1 1, .slice none 0 0, .slice none 0 0, .slice none 0 0, .slice none 0 0, .slice (some ⟨x6, 0, none⟩) 1 1] ty
  refine ⟨by simp [bsW], fun _ => ⟨X.heap.size, 0, rfl, ha.lt, fun i hi => ?_⟩⟩
  have hi : i < 5 := hi
  have four : ∀ {f : Nat} {x : Bn} {p : Pb}, (∀ k, k < 4 → (#[.slice none 0 0, .slice (some ⟨x1, 0, none⟩) 1 1, .slice none 0 0, .slice none 0 0, .slice none 0 0, .slice none 0 0, .slice (some ⟨bs, 0, none⟩) 1 1, .slice none 0 0, .slice none 0 0, .slice none 0 0, .slice none 0 0, .slice none 0 0, .slice none 0 0, .slice none 0 0, .slice (some ⟨bs, 0, none⟩) 1 1, .slice none 0 0, .slice none 0 0, .slice none 0 0, .slice none 0 0, .slice (some ⟨x6, 0, none⟩) 1 1] : Array Value)[f + k]? = some (.slice (p.a k) (x.l k).length (p.c k))) → NAt (X.alloc (.cells #[.slice none 0 0, .slice (some ⟨x1, 0, none⟩) 1 1, .slice none 0 0, .slice none 0 0, .slice none 0 0, .slice none 0 0, .slice (some ⟨bs, 0, none⟩) 1 1, .slice none 0 0, .slice none 0 0, .slice none 0 0, .slice none 0 0, .slice none 0 0, .slice none 0 0, .slice none 0 0, .slice (some ⟨bs, 0, none⟩) 1 1, .slice none 0 0, .slice none 0 0, .slice none 0 0, .slice none 0 0, .slice (some ⟨x6, 0, none⟩) 1 1] ty)) X.heap.size f x p := fun h => ⟨fun k hk => ha.c _ _ (h k hk)⟩
  rcases (by omega : i = 0 ∨ i = 1 ∨ i = 2 ∨ i = 3 ∨ i = 4) with rfl | rfl | rfl | rfl | rfl
  · exact ⟨rowP 1 x1, four (fun k hk => by rcases (by omega : k = 0 ∨ k = 1 ∨ k = 2 ∨ k = 3) with rfl | rfl | rfl | rfl <;> rfl), h1.below hb⟩
  · exact ⟨rowP 2 bs, four (fun k hk => by rcases (by omega : k = 0 ∨ k = 1 ∨ k = 2 ∨ k = 3) with rfl | rfl | rfl | rfl <;> rfl), h2.below hb⟩
  · exact ⟨⟨fun _ => none, fun _ => 0⟩, four (fun k hk => by rcases (by omega : k = 0 ∨ k = 1 ∨ k = 2 ∨ k = 3) with rfl | rfl | rfl | rfl <;> rfl), ⟨fun k _ => ⟨fun o ho => by simp [bsW] at ho, by simp [bsW], fun h0 => by simp [bsW] at h0⟩⟩⟩
  · exact ⟨rowP 2 bs, four (fun k hk => by rcases (by omega : k = 0 ∨ k = 1 ∨ k = 2 ∨ k = 3) with rfl | rfl | rfl | rfl <;> rfl), h2.below hb⟩
  · exact ⟨rowP 3 x6, four (fun k hk => by rcases (by omega : k = 0 ∨ k = 1 ∨ k = 2 ∨ k = 3) with rfl | rfl | rfl | rfl <;> rfl), h3.below hb⟩
theorem enc_w (a : Nat) (W : World) (h : BsAt W (some ⟨a, 0, none⟩) bsW) (hG : Bnds W) : Calls Tryd.prog 23 #[.slice (some ⟨a, 0, none⟩) 5 5, .agg #[.int .i64 1, .int .i64 1, .int .i64 1, .int .i64 1, .int .i64 1, .int .i64 3, .int .i64 2, .int .i64 1, .int .i64 1, .int .i64 1, .int .i64 1, .int .i64 1, .int .i64 1]] W fun e w' => ∃ b, e = .returned (.tuple #[.slice (some ⟨b, 0, none⟩) 20 20, .int .i64 0]) ∧ Wl w' b 20 wsW ∧ Below W.heap.size W w' := by
  have := enc_yes (some ⟨a, 0, none⟩) 5 bsW oneT W h hG encE
  rw [ofsW] at this
  exact this.mono fun e w' ⟨b, h1, h2, _, h4⟩ => ⟨b, h1, h2, h4⟩
def NewW (w : World) (e : Ending) (w' : World) : Prop := ∃ q r c, e = .returned (.tuple #[ptr q, .int .i64 0]) ∧ Mch w' oneT lsW (newH q r c) (newM [0, 3] []) ∧ Below w.heap.size w w' ∧ w.heap.size ≤ q
theorem new_w {w : World} (hG : Bnds w) (b : Nat) (V : World) (ty : TypeId) (h1 : Wl V b 20 wsW) (h2 : Below w.heap.size w V) : Calls Tryd.prog 9 #[.slice (some ⟨b, 0, none⟩) 20 20, .agg #[.int .i64 1, .int .i64 1, .int .i64 1, .int .i64 1, .int .i64 1, .int .i64 3, .int .i64 2, .int .i64 1, .int .i64 1, .int .i64 1, .int .i64 1, .int .i64 1, .int .i64 1], .agg #[.slice (some ⟨V.heap.size, 0, none⟩) 2 2, .slice none 0 0]] (V.alloc (.cells #[.int .i64 0, .int .i64 3] ty)) (NewW w) := by
  have hb : Below V.heap.size V (V.alloc (.cells #[.int .i64 0, .int .i64 3] ty)) := (Below.refl _ _).alloc (Nat.le_refl _) _
  have hb2 : Below w.heap.size w (V.alloc (.cells #[.int .i64 0, .int .i64 3] ty)) := h2.trans (hb.mono h2.size)
  have ha := At.new V #[.int .i64 0, .int .i64 3] ty
  have hr : NL (V.alloc (.cells #[.int .i64 0, .int .i64 3] ty)) (some ⟨V.heap.size, 0, none⟩) [0, 3] := ⟨fun _ => ⟨V.heap.size, 0, rfl, ha.lt, fun i hi => by
    have hi : i < 2 := hi
    rcases (by omega : i = 0 ∨ i = 1) with rfl | rfl
    · exact ha.c 0 _ rfl
    · exact ha.c 1 _ rfl⟩⟩
  have hm : NL (V.alloc (.cells #[.int .i64 0, .int .i64 3] ty)) none [] := ⟨fun h => absurd h (by decide)⟩
  have := new_any (some ⟨b, 0, none⟩) (some ⟨V.heap.size, 0, none⟩) none 20 20 2 0 vW oneT [0, 3] [] (V.alloc (.cells #[.int .i64 0, .int .i64 3] ty)) ((h1.up hb).ws wsW_ok) (by decide) (hG.below hb2 hG.big) (by decide) decE hr hm (by decide) (by decide) lsW rfl lsW_len
  exact this.mono fun e w' ⟨q, r, c, h3, h4, h5, h6⟩ => ⟨q, r, c, h3, h4, hb2.trans (h5.mono hb2.size), Nat.le_trans hb2.size h6⟩
theorem row_cell {W : World} {B g n c : Nat} {xs : List Value} (h : W.ownsRow B 2 1 (.slice (some ⟨g, 0, none⟩) n c) n xs) {j : Nat} {u : Value} (hj : xs[j]? = some u) : W.cell? ⟨g, j, none⟩ = some u := by
  have := h.cells (g := g) rfl j u hj
  rw [add_at', Nat.zero_add] at this
  exact this
def RunW (w : World) (e : Ending) (w' : World) : Prop := ∃ pb pc mo mc, e = .returned (.agg #[.int .i64 0, .int .i64 9, .slice (some ⟨pb, 0, none⟩) 2 pc, .slice mo 256 mc, .int .i64 5]) ∧ w'.cell? ⟨pb, 0, none⟩ = some (.int .i64 3) ∧ w'.cell? ⟨pb, 1, none⟩ = some (.int .i64 9) ∧ pb < w'.heap.size ∧ Below w.heap.size w w'
theorem run_w {w : World} (q : Nat) (r : Option Addr) (c : Nat) (V : World) (h1 : Mch V oneT lsW (newH q r c) (newM [0, 3] [])) (h2 : Below w.heap.size w V) (h3 : w.heap.size ≤ q) : Calls Tryd.prog 10 #[ptr q, .int .i64 99] V (RunW w) := by
  have hp : sW.p.length = 2 := by rw [sW_p]; rfl
  have := run_done 99 0 h1 (newM_ok (by simp [I64]) (by simp)) (bo_dec decE) (by decide) (by decide) (by decide) sW rfl sW_e (by omega)
  refine this.mono fun e w' ⟨vp, vm, h4, h5, h6, H', _, h8⟩ => ?_
  rw [hp, sW_p] at h5
  obtain ⟨mo, mc, rfl⟩ := row_slice h6
  obtain ⟨po, pc, rfl⟩ := row_slice h5
  rw [sW_v, sW_s] at h4
  rcases h5.2 with ⟨_, h⟩ | ⟨g, cap, cur, e1, -, h9⟩
  · exact absurd h (by decide)
  · injection e1 with e1 e2 e3
    subst e1
    have hl := (World.ownsRow.lt h5 g rfl).2
    exact ⟨g, pc, mo, mc, h4, row_cell h5 (j := 0) rfl, row_cell h5 (j := 1) rfl, hl, h2.trans (h8.f.below h2.size fun k hk e => by have := own_new e; omega)⟩
theorem num_w {w : World} {pb pc : Nat} (h : w.cell? ⟨pb, 0, none⟩ = some (.int .i64 3) ∧ w.cell? ⟨pb, 1, none⟩ = some (.int .i64 9) ∧ pb < w.heap.size) (X : World) (bb : Nat) (ty : TypeId) (hX : Below w.heap.size w X) (hbb : X.heap.size = bb) (bo k : Nat) (u : Value) (hc : X.cell? ⟨bo, k, none⟩ = some u) (hl : bo < X.heap.size) : Calls Tryd.prog 19 #[.slice (some ⟨pb, 0, none⟩) 2 pc, .slice (some ⟨bb, 0, none⟩) 2 2] (X.alloc (.cells #[.int .i64 3, .int .i64 9] ty)) fun e w' => e = .returned (.bool true) ∧ Below w.heap.size w w' ∧ w'.cell? ⟨bo, k, none⟩ = some u ∧ bo < w'.heap.size := by
  subst hbb
  have hq : Below X.heap.size X (X.alloc (.cells #[.int .i64 3, .int .i64 9] ty)) := (Below.refl _ _).alloc (Nat.le_refl _) _
  have hb : Below w.heap.size w (X.alloc (.cells #[.int .i64 3, .int .i64 9] ty)) := hX.alloc hX.size _
  have ha := At.new X #[.int .i64 3, .int .i64 9] ty
  exact (numbers_yes pb X.heap.size pc 2 3 9 _ (((bcell hb).1 _ 0 h.2.2).trans h.1) (((bcell hb).1 _ 1 h.2.2).trans h.2.1) (ha.c 0 _ rfl) (ha.c 1 _ rfl) (Nat.lt_of_lt_of_le h.2.2 hb.size) ha.lt).mono fun e w' ⟨h1, h2⟩ => ⟨h1, hb.trans (h2.mono hb.size), ((bcell (hq.trans (h2.mono hq.size))).1 _ _ hl).trans hc, Nat.lt_of_lt_of_le hl (hq.trans (h2.mono hq.size)).size⟩
set_option maxHeartbeats 8000000 in
theorem wakes_any (w : World) (hG : Bnds w) : Calls Tryd.prog 7 #[] w fun e w' => e = .returned (.bool true) ∧ Below w.heap.size w w' := by
  have H0 : Hid (∀ V, Calls Tryd.prog 22 #[.int .i64 2, .agg #[.int .i8 17, .int .u8 0, .int .u8 1, .int .u8 0, .int .i64 0]] V fun e w' => ∃ b, e = .returned (.agg #[.slice none 0 0, .slice none 0 0, .slice (some ⟨b, 0, none⟩) 1 1, .slice none 0 0]) ∧ BnIn w' (rowB 2 oS) (rowP 2 b) ∧ Below V.heap.size V w') := fun V => row_2 oS okO_T.2.1 V
  have H1 : Hid (∀ V, Calls Tryd.prog 22 #[.int .i64 1, .agg #[.int .i8 12, .int .u8 1, .int .u8 1, .int .u8 1, .int .i64 0]] V fun e w' => ∃ b, e = .returned (.agg #[.slice none 0 0, .slice (some ⟨b, 0, none⟩) 1 1, .slice none 0 0, .slice none 0 0]) ∧ BnIn w' (rowB 1 oT) (rowP 1 b) ∧ Below V.heap.size V w') := fun V => row_1 oT okO_T.1 V
  have H6 : Hid (∀ V, Calls Tryd.prog 22 #[.int .i64 3, .agg #[.int .i8 20, .int .u8 0, .int .u8 1, .int .u8 0, .int .i64 0]] V fun e w' => ∃ b, e = .returned (.agg #[.slice none 0 0, .slice none 0 0, .slice none 0 0, .slice (some ⟨b, 0, none⟩) 1 1]) ∧ BnIn w' (rowB 3 oH) (rowP 3 b) ∧ Below V.heap.size V w') := fun V => row_3 oH okO_T.2.2 V
  have H8 : Hid (∀ V, Calls Tryd.prog 25 #[] V fun e w' => e = .returned (.agg #[.int .i64 1, .int .i64 1, .int .i64 1, .int .i64 1, .int .i64 1, .int .i64 3, .int .i64 2, .int .i64 1, .int .i64 1, .int .i64 1, .int .i64 1, .int .i64 1, .int .i64 1]) ∧ Below V.heap.size V w') := fun V => one_any V
  have HGb : Hid (Bnds w) := hG
  clear hG
  go_enter Tryd.func7, Tryd.ntmps7
  go_upto_region 2 with (first | (go_at_call 22; refine Calls.mono (H0.out _) ?_; rintro e w1 ⟨bs, rfl, hn1, hn2⟩; have HR : Hid (BnIn w1 (rowB 2 oS) (rowP 2 bs) ∧ Below w.heap.size w w1) := ⟨hn1, hn2⟩; clear hn1 hn2))
  have HW : Hid (At (w1.alloc (.cells #[.slice none 0 0, .slice none 0 0, .slice (some ⟨bs, 0, none⟩) 1 1, .slice none 0 0] 63)) w1.heap.size #[.slice none 0 0, .slice none 0 0, .slice (some ⟨bs, 0, none⟩) 1 1, .slice none 0 0] ∧ Below w1.heap.size w1 (w1.alloc (.cells #[.slice none 0 0, .slice none 0 0, .slice (some ⟨bs, 0, none⟩) 1 1, .slice none 0 0] 63)) ∧ Below w.heap.size w (w1.alloc (.cells #[.slice none 0 0, .slice none 0 0, .slice (some ⟨bs, 0, none⟩) 1 1, .slice none 0 0] 63))) := ⟨At.new _ _ _, (Below.refl _ _).alloc (Nat.le_refl _) _, HR.out.2.alloc HR.out.2.size _⟩
  generalize hw2 : w1.alloc (.cells #[.slice none 0 0, .slice none 0 0, .slice (some ⟨bs, 0, none⟩) 1 1, .slice none 0 0] 63) = w2 at *
  clear hw2
  have HS : Hid (∀ V, Below w2.heap.size w2 V → BnIn V (rowB 2 oS) (rowP 2 bs)) := fun V hV => HR.out.1.below (HW.out.2.1.trans (hV.mono HW.out.2.1.size))
  have HL : Hid (∀ V, Below w2.heap.size w2 V → At V w1.heap.size #[.slice none 0 0, .slice none 0 0, .slice (some ⟨bs, 0, none⟩) 1 1, .slice none 0 0]) := fun V hV => HW.out.1.below hV HW.out.1.lt
  have HEn : Hid (∀ a V, BsAt V (some ⟨a, 0, none⟩) bsW → Below w2.heap.size w2 V → Calls Tryd.prog 23 #[.slice (some ⟨a, 0, none⟩) 5 5, .agg #[.int .i64 1, .int .i64 1, .int .i64 1, .int .i64 1, .int .i64 1, .int .i64 3, .int .i64 2, .int .i64 1, .int .i64 1, .int .i64 1, .int .i64 1, .int .i64 1, .int .i64 1]] V fun e w' => ∃ b, e = .returned (.tuple #[.slice (some ⟨b, 0, none⟩) 20 20, .int .i64 0]) ∧ Wl w' b 20 wsW ∧ Below V.heap.size V w') := fun a V h hV => enc_w a V h (HGb.out.below (HW.out.2.2.trans (hV.mono HW.out.2.2.size)) HGb.out.big)
  clear HR
  generalize w1.heap.size = q1 at *
  go_cut [2, 3] (fun v2 v3 wc => ∃ b, v2 = .slice (some ⟨b, 0, none⟩) 20 20 ∧ v3 = .int .i64 0 ∧ Wl wc b 20 wsW ∧ Below w.heap.size w wc)
  case first =>
    have HHd : Hid (Below w2.heap.size w2 w2.drew) := drew_up _
    refine wp_region_held_drew (S := fun W' => Below w2.heap.size w2 W') (by kernel_rfl) (drew_up _) (fun hHeld => ?_)
    refine wpAnyH_take (i := 0) (v := .agg #[.int .i8 12, .int .u8 1, .int .u8 1, .int .u8 1, .int .i64 0]) rfl (by kernel_rfl) (by kernel_rfl) (by kernel_rfl) (fun _ _ _ h => h) (Or.inl ⟨by rfl, fun w' hSw => by (go_simp)⟩) hHeld ?_
    simp only [Act.put, List.setIfInBounds_toArray, List.set_cons_zero, List.set_cons_succ, List.getElem_cons_zero, List.getElem_toArray]
    refine wpAnyH_take (i := 2) (v := .agg #[.slice none 0 0, .slice none 0 0, .slice (some ⟨bs, 0, none⟩) 1 1, .slice none 0 0]) rfl (by kernel_rfl) (by kernel_rfl) (by kernel_rfl) (fun _ _ _ h => h) (Or.inl ⟨by rfl, fun w' hSw => by (have hl := HL.out _ hSw; have l0 := hl.c 0 _ rfl; have l1 := hl.c 1 _ rfl; have l2 := hl.c 2 _ rfl; have l3 := hl.c 3 _ rfl; have ll := hl.lt; go_simp)⟩) hHeld ?_
    simp only [Act.put, List.setIfInBounds_toArray, List.set_cons_zero, List.set_cons_succ, List.getElem_cons_zero, List.getElem_cons_succ, List.getElem_toArray]
    refine wpAnyH_take (i := 3) (v := .agg #[.slice none 0 0, .slice none 0 0, .slice none 0 0, .slice none 0 0]) rfl (by kernel_rfl) (by kernel_rfl) (by kernel_rfl) (fun _ _ _ h => h) (Or.inl ⟨by rfl, fun w' hSw => by (go_simp)⟩) hHeld ?_
    simp only [Act.put, List.setIfInBounds_toArray, List.set_cons_zero, List.set_cons_succ, List.getElem_cons_zero, List.getElem_cons_succ, List.getElem_toArray]
    refine wpAnyH_take (i := 4) (v := .agg #[.slice none 0 0, .slice none 0 0, .slice (some ⟨bs, 0, none⟩) 1 1, .slice none 0 0]) rfl (by kernel_rfl) (by kernel_rfl) (by kernel_rfl) (fun _ _ _ h => h) (Or.inl ⟨by rfl, fun w' hSw => by (have hl := HL.out _ hSw; have l0 := hl.c 0 _ rfl; have l1 := hl.c 1 _ rfl; have l2 := hl.c 2 _ rfl; have l3 := hl.c 3 _ rfl; have ll := hl.lt; go_simp)⟩) hHeld ?_
    simp only [Act.put, List.setIfInBounds_toArray, List.set_cons_zero, List.set_cons_succ, List.getElem_cons_zero, List.getElem_cons_succ, List.getElem_toArray]
    refine wpAnyH_take (i := 5) (v := .agg #[.int .i8 20, .int .u8 0, .int .u8 1, .int .u8 0, .int .i64 0]) rfl (by kernel_rfl) (by kernel_rfl) (by kernel_rfl) (fun _ _ _ h => h) (Or.inl ⟨by rfl, fun w' hSw => by (go_simp)⟩) hHeld ?_
    simp only [Act.put, List.setIfInBounds_toArray, List.set_cons_zero, List.set_cons_succ, List.getElem_cons_zero, List.getElem_cons_succ, List.getElem_toArray]
    refine wpAnyH_ready (rs := [1]) (by kernel_rfl) (by simp) ?_
    refine AllReadyH.cons rfl (fun K hK => ?_) AllReadyH.nil
    · go_simp
      refine Calls.mono (H1.out _) ?_
      rintro e wn1 ⟨x1, rfl, hn1, hn2⟩
      have HT : Hid (∀ V, Below wn1.heap.size wn1 V → BnIn V (rowB 1 oT) (rowP 1 x1)) := fun V hV => hn1.below hV
      have HG1 : Hid (Below w2.drew.heap.size w2.drew wn1) := hn2
      have HHd : Hid (Below w2.heap.size w2 wn1) := HHd.out.trans (HG1.out.mono HHd.out.size)
      refine hK.out _ _ HHd.out (fun hHeld => ?_)
      clear hK K
      refine wpAnyH_ready (rs := [6]) (by kernel_rfl) (by simp) ?_
      refine AllReadyH.cons rfl (fun K hK => ?_) AllReadyH.nil
      · go_simp
        refine Calls.mono (H6.out _) ?_
        rintro e wn2 ⟨x6, rfl, hn1, hn2⟩
        have HH : Hid (∀ V, Below wn2.heap.size wn2 V → BnIn V (rowB 3 oH) (rowP 3 x6)) := fun V hV => hn1.below hV
        have HG2 : Hid (Below wn1.heap.size wn1 wn2) := hn2
        have HHd : Hid (Below w2.heap.size w2 wn2) := HHd.out.trans (HG2.out.mono HHd.out.size)
        have HT : Hid (∀ V, Below wn2.heap.size wn2 V → BnIn V (rowB 1 oT) (rowP 1 x1)) := fun V hV => HT.out V (HG2.out.trans (hV.mono HG2.out.size))
        refine hK.out _ _ HHd.out (fun hHeld => ?_)
        clear hK K
        refine wpAnyH_ready (rs := [7, 8]) (by kernel_rfl) (by simp) ?_
        refine AllReadyH.cons rfl (fun K hK => ?_) (AllReadyH.cons rfl (fun K hK => ?_) AllReadyH.nil)
        · go_simp
          have HG3 : Hid (Below wn2.heap.size wn2 (wn2.alloc (.cells #[.slice none 0 0, .slice (some ⟨x1, 0, none⟩) 1 1, .slice none 0 0, .slice none 0 0, .slice none 0 0, .slice none 0 0, .slice (some ⟨bs, 0, none⟩) 1 1, .slice none 0 0, .slice none 0 0, .slice none 0 0, .slice none 0 0, .slice none 0 0, .slice none 0 0, .slice none 0 0, .slice (some ⟨bs, 0, none⟩) 1 1, .slice none 0 0, .slice none 0 0, .slice none 0 0, .slice none 0 0, .slice (some ⟨x6, 0, none⟩) 1 1] 63))) := (Below.refl _ _).alloc (Nat.le_refl _) _
          have HBq : Hid (BsAt (wn2.alloc (.cells #[.slice none 0 0, .slice (some ⟨x1, 0, none⟩) 1 1, .slice none 0 0, .slice none 0 0, .slice none 0 0, .slice none 0 0, .slice (some ⟨bs, 0, none⟩) 1 1, .slice none 0 0, .slice none 0 0, .slice none 0 0, .slice none 0 0, .slice none 0 0, .slice none 0 0, .slice none 0 0, .slice (some ⟨bs, 0, none⟩) 1 1, .slice none 0 0, .slice none 0 0, .slice none 0 0, .slice none 0 0, .slice (some ⟨x6, 0, none⟩) 1 1] 63)) (some ⟨wn2.heap.size, 0, none⟩) bsW) := bs_lit _ _ _ _ _ (HT.out _ (Below.refl _ _)) (HS.out _ HHd.out) (HH.out _ (Below.refl _ _))
          have HHd : Hid (Below w2.heap.size w2 (wn2.alloc (.cells #[.slice none 0 0, .slice (some ⟨x1, 0, none⟩) 1 1, .slice none 0 0, .slice none 0 0, .slice none 0 0, .slice none 0 0, .slice (some ⟨bs, 0, none⟩) 1 1, .slice none 0 0, .slice none 0 0, .slice none 0 0, .slice none 0 0, .slice none 0 0, .slice none 0 0, .slice none 0 0, .slice (some ⟨bs, 0, none⟩) 1 1, .slice none 0 0, .slice none 0 0, .slice none 0 0, .slice none 0 0, .slice (some ⟨x6, 0, none⟩) 1 1] 63))) := HHd.out.trans (HG3.out.mono HHd.out.size)
          have HT : Hid (∀ V, Below (wn2.alloc (.cells #[.slice none 0 0, .slice (some ⟨x1, 0, none⟩) 1 1, .slice none 0 0, .slice none 0 0, .slice none 0 0, .slice none 0 0, .slice (some ⟨bs, 0, none⟩) 1 1, .slice none 0 0, .slice none 0 0, .slice none 0 0, .slice none 0 0, .slice none 0 0, .slice none 0 0, .slice none 0 0, .slice (some ⟨bs, 0, none⟩) 1 1, .slice none 0 0, .slice none 0 0, .slice none 0 0, .slice none 0 0, .slice (some ⟨x6, 0, none⟩) 1 1] 63)).heap.size (wn2.alloc (.cells #[.slice none 0 0, .slice (some ⟨x1, 0, none⟩) 1 1, .slice none 0 0, .slice none 0 0, .slice none 0 0, .slice none 0 0, .slice (some ⟨bs, 0, none⟩) 1 1, .slice none 0 0, .slice none 0 0, .slice none 0 0, .slice none 0 0, .slice none 0 0, .slice none 0 0, .slice none 0 0, .slice (some ⟨bs, 0, none⟩) 1 1, .slice none 0 0, .slice none 0 0, .slice none 0 0, .slice none 0 0, .slice (some ⟨x6, 0, none⟩) 1 1] 63)) V → BnIn V (rowB 1 oT) (rowP 1 x1)) := fun V hV => HT.out V (HG3.out.trans (hV.mono HG3.out.size))
          have HH : Hid (∀ V, Below (wn2.alloc (.cells #[.slice none 0 0, .slice (some ⟨x1, 0, none⟩) 1 1, .slice none 0 0, .slice none 0 0, .slice none 0 0, .slice none 0 0, .slice (some ⟨bs, 0, none⟩) 1 1, .slice none 0 0, .slice none 0 0, .slice none 0 0, .slice none 0 0, .slice none 0 0, .slice none 0 0, .slice none 0 0, .slice (some ⟨bs, 0, none⟩) 1 1, .slice none 0 0, .slice none 0 0, .slice none 0 0, .slice none 0 0, .slice (some ⟨x6, 0, none⟩) 1 1] 63)).heap.size (wn2.alloc (.cells #[.slice none 0 0, .slice (some ⟨x1, 0, none⟩) 1 1, .slice none 0 0, .slice none 0 0, .slice none 0 0, .slice none 0 0, .slice (some ⟨bs, 0, none⟩) 1 1, .slice none 0 0, .slice none 0 0, .slice none 0 0, .slice none 0 0, .slice none 0 0, .slice none 0 0, .slice none 0 0, .slice (some ⟨bs, 0, none⟩) 1 1, .slice none 0 0, .slice none 0 0, .slice none 0 0, .slice none 0 0, .slice (some ⟨x6, 0, none⟩) 1 1] 63)) V → BnIn V (rowB 3 oH) (rowP 3 x6)) := fun V hV => HH.out V (HG3.out.trans (hV.mono HG3.out.size))
          have HBs : Hid (BsAt (wn2.alloc (.cells #[.slice none 0 0, .slice (some ⟨x1, 0, none⟩) 1 1, .slice none 0 0, .slice none 0 0, .slice none 0 0, .slice none 0 0, .slice (some ⟨bs, 0, none⟩) 1 1, .slice none 0 0, .slice none 0 0, .slice none 0 0, .slice none 0 0, .slice none 0 0, .slice none 0 0, .slice none 0 0, .slice (some ⟨bs, 0, none⟩) 1 1, .slice none 0 0, .slice none 0 0, .slice none 0 0, .slice none 0 0, .slice (some ⟨x6, 0, none⟩) 1 1] 63)) (some ⟨wn2.heap.size, 0, none⟩) bsW) := HBq.out
          refine hK.out _ _ HHd.out (fun hHeld => ?_)
          clear hK K
          generalize (wn2.alloc (.cells #[.slice none 0 0, .slice (some ⟨x1, 0, none⟩) 1 1, .slice none 0 0, .slice none 0 0, .slice none 0 0, .slice none 0 0, .slice (some ⟨bs, 0, none⟩) 1 1, .slice none 0 0, .slice none 0 0, .slice none 0 0, .slice none 0 0, .slice none 0 0, .slice none 0 0, .slice none 0 0, .slice (some ⟨bs, 0, none⟩) 1 1, .slice none 0 0, .slice none 0 0, .slice none 0 0, .slice none 0 0, .slice (some ⟨x6, 0, none⟩) 1 1] 63)) = wn3 at *
          refine wpAnyH_ready (rs := [8]) (by kernel_rfl) (by simp) ?_
          refine AllReadyH.cons rfl (fun K hK => ?_) AllReadyH.nil
          · go_simp
            refine Calls.mono (H8.out _) ?_
            rintro e wn4 ⟨rfl, hn2⟩
            have HG4 : Hid (Below wn3.heap.size wn3 wn4) := hn2
            have HHd : Hid (Below w2.heap.size w2 wn4) := HHd.out.trans (HG4.out.mono HHd.out.size)
            have HT : Hid (∀ V, Below wn4.heap.size wn4 V → BnIn V (rowB 1 oT) (rowP 1 x1)) := fun V hV => HT.out V (HG4.out.trans (hV.mono HG4.out.size))
            have HH : Hid (∀ V, Below wn4.heap.size wn4 V → BnIn V (rowB 3 oH) (rowP 3 x6)) := fun V hV => HH.out V (HG4.out.trans (hV.mono HG4.out.size))
            have HBs : Hid (BsAt wn4 (some ⟨wn2.heap.size, 0, none⟩) bsW) := HBs.out.below HG4.out
            refine hK.out _ _ HHd.out (fun hHeld => ?_)
            clear hK K
            refine wpAnyH_ready (rs := [9]) (by kernel_rfl) (by simp) ?_
            refine AllReadyH.cons rfl (fun K hK => ?_) AllReadyH.nil
            go_simp
            refine Calls.mono (HEn.out _ _ HBs.out HHd.out) ?_
            rintro e wz ⟨bz, rfl, hz1, hz2⟩
            have HZ : Hid (Wl wz bz 20 wsW ∧ Below w2.heap.size w2 wz) := ⟨hz1, HHd.out.trans (hz2.mono HHd.out.size)⟩
            clear hz1 hz2
            refine hK.out _ _ HZ.out.2 (fun hHeld => ?_)
            clear hK K
            refine wpAnyH_take (i := 10) (v := .tuple #[.slice (some ⟨bz, 0, none⟩) 20 20, .int .i64 0]) rfl (by kernel_rfl) (by kernel_rfl) (by kernel_rfl) (fun _ _ _ h => h) (Or.inl ⟨by rfl, fun w' hSw => by (go_simp)⟩) hHeld ?_
            simp only [Act.put, List.setIfInBounds_toArray, List.set_cons_zero, List.set_cons_succ, List.getElem_cons_zero, List.getElem_cons_succ, List.getElem_toArray]
            refine wpAnyH_take (i := 11) (v := .slice (some ⟨bz, 0, none⟩) 20 20) rfl (by kernel_rfl) (by kernel_rfl) (by kernel_rfl) (fun _ _ _ h => h) (Or.inl ⟨by rfl, fun w' hSw => by (go_simp)⟩) hHeld ?_
            simp only [Act.put, List.setIfInBounds_toArray, List.set_cons_zero, List.set_cons_succ, List.getElem_cons_zero, List.getElem_cons_succ, List.getElem_toArray]
            refine wpAnyH_take (i := 12) (v := .int .i64 0) rfl (by kernel_rfl) (by kernel_rfl) (by kernel_rfl) (fun _ _ _ h => h) (Or.inl ⟨by rfl, fun w' hSw => by (go_simp)⟩) hHeld ?_
            simp only [Act.put, List.setIfInBounds_toArray, List.set_cons_zero, List.set_cons_succ, List.getElem_cons_zero, List.getElem_cons_succ, List.getElem_toArray]
            refine wpAnyH_take (i := 13) (v := .slice (some ⟨bz, 0, none⟩) 20 20) rfl (by kernel_rfl) (by kernel_rfl) (by kernel_rfl) (fun _ _ _ h => h) (Or.inl ⟨by rfl, fun w' hSw => by (go_simp)⟩) hHeld ?_
            simp only [Act.put, List.setIfInBounds_toArray, List.set_cons_zero, List.set_cons_succ, List.getElem_cons_zero, List.getElem_cons_succ, List.getElem_toArray]
            refine wpAnyH_take (i := 14) (v := .int .i64 0) rfl (by kernel_rfl) (by kernel_rfl) (by kernel_rfl) (fun _ _ _ h => h) (Or.inl ⟨by rfl, fun w' hSw => by (go_simp)⟩) hHeld ?_
            simp only [Act.put, List.setIfInBounds_toArray, List.set_cons_zero, List.set_cons_succ, List.getElem_cons_zero, List.getElem_cons_succ, List.getElem_toArray]
            refine wpAnyH_done (by kernel_rfl) ?_ _
            clear hHeld
            go_wp2_with fail
            go_meet
            exact ⟨bz, rfl, rfl, HZ.out.1, HW.out.2.2.trans (HZ.out.2.mono HW.out.2.2.size)⟩
        · go_simp
          refine Calls.mono (H8.out _) ?_
          rintro e wn5 ⟨rfl, hn2⟩
          have HG5 : Hid (Below wn2.heap.size wn2 wn5) := hn2
          have HHd : Hid (Below w2.heap.size w2 wn5) := HHd.out.trans (HG5.out.mono HHd.out.size)
          have HT : Hid (∀ V, Below wn5.heap.size wn5 V → BnIn V (rowB 1 oT) (rowP 1 x1)) := fun V hV => HT.out V (HG5.out.trans (hV.mono HG5.out.size))
          have HH : Hid (∀ V, Below wn5.heap.size wn5 V → BnIn V (rowB 3 oH) (rowP 3 x6)) := fun V hV => HH.out V (HG5.out.trans (hV.mono HG5.out.size))
          refine hK.out _ _ HHd.out (fun hHeld => ?_)
          clear hK K
          refine wpAnyH_ready (rs := [7]) (by kernel_rfl) (by simp) ?_
          refine AllReadyH.cons rfl (fun K hK => ?_) AllReadyH.nil
          · go_simp
            have HG6 : Hid (Below wn5.heap.size wn5 (wn5.alloc (.cells #[.slice none 0 0, .slice (some ⟨x1, 0, none⟩) 1 1, .slice none 0 0, .slice none 0 0, .slice none 0 0, .slice none 0 0, .slice (some ⟨bs, 0, none⟩) 1 1, .slice none 0 0, .slice none 0 0, .slice none 0 0, .slice none 0 0, .slice none 0 0, .slice none 0 0, .slice none 0 0, .slice (some ⟨bs, 0, none⟩) 1 1, .slice none 0 0, .slice none 0 0, .slice none 0 0, .slice none 0 0, .slice (some ⟨x6, 0, none⟩) 1 1] 63))) := (Below.refl _ _).alloc (Nat.le_refl _) _
            have HBq : Hid (BsAt (wn5.alloc (.cells #[.slice none 0 0, .slice (some ⟨x1, 0, none⟩) 1 1, .slice none 0 0, .slice none 0 0, .slice none 0 0, .slice none 0 0, .slice (some ⟨bs, 0, none⟩) 1 1, .slice none 0 0, .slice none 0 0, .slice none 0 0, .slice none 0 0, .slice none 0 0, .slice none 0 0, .slice none 0 0, .slice (some ⟨bs, 0, none⟩) 1 1, .slice none 0 0, .slice none 0 0, .slice none 0 0, .slice none 0 0, .slice (some ⟨x6, 0, none⟩) 1 1] 63)) (some ⟨wn5.heap.size, 0, none⟩) bsW) := bs_lit _ _ _ _ _ (HT.out _ (Below.refl _ _)) (HS.out _ HHd.out) (HH.out _ (Below.refl _ _))
            have HHd : Hid (Below w2.heap.size w2 (wn5.alloc (.cells #[.slice none 0 0, .slice (some ⟨x1, 0, none⟩) 1 1, .slice none 0 0, .slice none 0 0, .slice none 0 0, .slice none 0 0, .slice (some ⟨bs, 0, none⟩) 1 1, .slice none 0 0, .slice none 0 0, .slice none 0 0, .slice none 0 0, .slice none 0 0, .slice none 0 0, .slice none 0 0, .slice (some ⟨bs, 0, none⟩) 1 1, .slice none 0 0, .slice none 0 0, .slice none 0 0, .slice none 0 0, .slice (some ⟨x6, 0, none⟩) 1 1] 63))) := HHd.out.trans (HG6.out.mono HHd.out.size)
            have HT : Hid (∀ V, Below (wn5.alloc (.cells #[.slice none 0 0, .slice (some ⟨x1, 0, none⟩) 1 1, .slice none 0 0, .slice none 0 0, .slice none 0 0, .slice none 0 0, .slice (some ⟨bs, 0, none⟩) 1 1, .slice none 0 0, .slice none 0 0, .slice none 0 0, .slice none 0 0, .slice none 0 0, .slice none 0 0, .slice none 0 0, .slice (some ⟨bs, 0, none⟩) 1 1, .slice none 0 0, .slice none 0 0, .slice none 0 0, .slice none 0 0, .slice (some ⟨x6, 0, none⟩) 1 1] 63)).heap.size (wn5.alloc (.cells #[.slice none 0 0, .slice (some ⟨x1, 0, none⟩) 1 1, .slice none 0 0, .slice none 0 0, .slice none 0 0, .slice none 0 0, .slice (some ⟨bs, 0, none⟩) 1 1, .slice none 0 0, .slice none 0 0, .slice none 0 0, .slice none 0 0, .slice none 0 0, .slice none 0 0, .slice none 0 0, .slice (some ⟨bs, 0, none⟩) 1 1, .slice none 0 0, .slice none 0 0, .slice none 0 0, .slice none 0 0, .slice (some ⟨x6, 0, none⟩) 1 1] 63)) V → BnIn V (rowB 1 oT) (rowP 1 x1)) := fun V hV => HT.out V (HG6.out.trans (hV.mono HG6.out.size))
            have HH : Hid (∀ V, Below (wn5.alloc (.cells #[.slice none 0 0, .slice (some ⟨x1, 0, none⟩) 1 1, .slice none 0 0, .slice none 0 0, .slice none 0 0, .slice none 0 0, .slice (some ⟨bs, 0, none⟩) 1 1, .slice none 0 0, .slice none 0 0, .slice none 0 0, .slice none 0 0, .slice none 0 0, .slice none 0 0, .slice none 0 0, .slice (some ⟨bs, 0, none⟩) 1 1, .slice none 0 0, .slice none 0 0, .slice none 0 0, .slice none 0 0, .slice (some ⟨x6, 0, none⟩) 1 1] 63)).heap.size (wn5.alloc (.cells #[.slice none 0 0, .slice (some ⟨x1, 0, none⟩) 1 1, .slice none 0 0, .slice none 0 0, .slice none 0 0, .slice none 0 0, .slice (some ⟨bs, 0, none⟩) 1 1, .slice none 0 0, .slice none 0 0, .slice none 0 0, .slice none 0 0, .slice none 0 0, .slice none 0 0, .slice none 0 0, .slice (some ⟨bs, 0, none⟩) 1 1, .slice none 0 0, .slice none 0 0, .slice none 0 0, .slice none 0 0, .slice (some ⟨x6, 0, none⟩) 1 1] 63)) V → BnIn V (rowB 3 oH) (rowP 3 x6)) := fun V hV => HH.out V (HG6.out.trans (hV.mono HG6.out.size))
            have HBs : Hid (BsAt (wn5.alloc (.cells #[.slice none 0 0, .slice (some ⟨x1, 0, none⟩) 1 1, .slice none 0 0, .slice none 0 0, .slice none 0 0, .slice none 0 0, .slice (some ⟨bs, 0, none⟩) 1 1, .slice none 0 0, .slice none 0 0, .slice none 0 0, .slice none 0 0, .slice none 0 0, .slice none 0 0, .slice none 0 0, .slice (some ⟨bs, 0, none⟩) 1 1, .slice none 0 0, .slice none 0 0, .slice none 0 0, .slice none 0 0, .slice (some ⟨x6, 0, none⟩) 1 1] 63)) (some ⟨wn5.heap.size, 0, none⟩) bsW) := HBq.out
            refine hK.out _ _ HHd.out (fun hHeld => ?_)
            clear hK K
            generalize (wn5.alloc (.cells #[.slice none 0 0, .slice (some ⟨x1, 0, none⟩) 1 1, .slice none 0 0, .slice none 0 0, .slice none 0 0, .slice none 0 0, .slice (some ⟨bs, 0, none⟩) 1 1, .slice none 0 0, .slice none 0 0, .slice none 0 0, .slice none 0 0, .slice none 0 0, .slice none 0 0, .slice none 0 0, .slice (some ⟨bs, 0, none⟩) 1 1, .slice none 0 0, .slice none 0 0, .slice none 0 0, .slice none 0 0, .slice (some ⟨x6, 0, none⟩) 1 1] 63)) = wn6 at *
            refine wpAnyH_ready (rs := [9]) (by kernel_rfl) (by simp) ?_
            refine AllReadyH.cons rfl (fun K hK => ?_) AllReadyH.nil
            go_simp
            refine Calls.mono (HEn.out _ _ HBs.out HHd.out) ?_
            rintro e wz ⟨bz, rfl, hz1, hz2⟩
            have HZ : Hid (Wl wz bz 20 wsW ∧ Below w2.heap.size w2 wz) := ⟨hz1, HHd.out.trans (hz2.mono HHd.out.size)⟩
            clear hz1 hz2
            refine hK.out _ _ HZ.out.2 (fun hHeld => ?_)
            clear hK K
            refine wpAnyH_take (i := 10) (v := .tuple #[.slice (some ⟨bz, 0, none⟩) 20 20, .int .i64 0]) rfl (by kernel_rfl) (by kernel_rfl) (by kernel_rfl) (fun _ _ _ h => h) (Or.inl ⟨by rfl, fun w' hSw => by (go_simp)⟩) hHeld ?_
            simp only [Act.put, List.setIfInBounds_toArray, List.set_cons_zero, List.set_cons_succ, List.getElem_cons_zero, List.getElem_cons_succ, List.getElem_toArray]
            refine wpAnyH_take (i := 11) (v := .slice (some ⟨bz, 0, none⟩) 20 20) rfl (by kernel_rfl) (by kernel_rfl) (by kernel_rfl) (fun _ _ _ h => h) (Or.inl ⟨by rfl, fun w' hSw => by (go_simp)⟩) hHeld ?_
            simp only [Act.put, List.setIfInBounds_toArray, List.set_cons_zero, List.set_cons_succ, List.getElem_cons_zero, List.getElem_cons_succ, List.getElem_toArray]
            refine wpAnyH_take (i := 12) (v := .int .i64 0) rfl (by kernel_rfl) (by kernel_rfl) (by kernel_rfl) (fun _ _ _ h => h) (Or.inl ⟨by rfl, fun w' hSw => by (go_simp)⟩) hHeld ?_
            simp only [Act.put, List.setIfInBounds_toArray, List.set_cons_zero, List.set_cons_succ, List.getElem_cons_zero, List.getElem_cons_succ, List.getElem_toArray]
            refine wpAnyH_take (i := 13) (v := .slice (some ⟨bz, 0, none⟩) 20 20) rfl (by kernel_rfl) (by kernel_rfl) (by kernel_rfl) (fun _ _ _ h => h) (Or.inl ⟨by rfl, fun w' hSw => by (go_simp)⟩) hHeld ?_
            simp only [Act.put, List.setIfInBounds_toArray, List.set_cons_zero, List.set_cons_succ, List.getElem_cons_zero, List.getElem_cons_succ, List.getElem_toArray]
            refine wpAnyH_take (i := 14) (v := .int .i64 0) rfl (by kernel_rfl) (by kernel_rfl) (by kernel_rfl) (fun _ _ _ h => h) (Or.inl ⟨by rfl, fun w' hSw => by (go_simp)⟩) hHeld ?_
            simp only [Act.put, List.setIfInBounds_toArray, List.set_cons_zero, List.set_cons_succ, List.getElem_cons_zero, List.getElem_cons_succ, List.getElem_toArray]
            refine wpAnyH_done (by kernel_rfl) ?_ _
            clear hHeld
            go_wp2_with fail
            go_meet
            exact ⟨bz, rfl, rfl, HZ.out.1, HW.out.2.2.trans (HZ.out.2.mono HW.out.2.2.size)⟩
  case rest =>
    rename World => wc
    obtain ⟨b, rfl, rfl, hwl, hbw⟩ := hcut
    have HC : Hid (Wl wc b 20 wsW ∧ Below w.heap.size w wc) := ⟨hwl, hbw⟩
    have HN : Hid (∀ (b : Nat) (V : World) (ty : TypeId), Wl V b 20 wsW → Below w.heap.size w V → Calls Tryd.prog 9 #[.slice (some ⟨b, 0, none⟩) 20 20, .agg #[.int .i64 1, .int .i64 1, .int .i64 1, .int .i64 1, .int .i64 1, .int .i64 3, .int .i64 2, .int .i64 1, .int .i64 1, .int .i64 1, .int .i64 1, .int .i64 1, .int .i64 1], .agg #[.slice (some ⟨V.heap.size, 0, none⟩) 2 2, .slice none 0 0]] (V.alloc (.cells #[.int .i64 0, .int .i64 3] ty)) (NewW w)) := fun b V ty h1 h2 => new_w HGb.out b V ty h1 h2
    have HRn : Hid (∀ (q : Nat) (r : Option Addr) (c : Nat) (V : World), Mch V oneT lsW (newH q r c) (newM [0, 3] []) → Below w.heap.size w V → w.heap.size ≤ q → Calls Tryd.prog 10 #[ptr q, .int .i64 99] V (RunW w)) := fun q r c V h1 h2 h3 => run_w q r c V h1 h2 h3
    clear hwl hbw HEn HL HS HW H0 H1 H6 HGb
    go_wp2_with (first
      | (go_at_call 25; refine Calls.mono (H8.out _) ?_; rintro e w3 ⟨rfl, hb⟩; have HC3 : Hid (Wl w3 b 20 wsW ∧ Below w.heap.size w w3) := ⟨HC.out.1.up hb, HC.out.2.trans (hb.mono HC.out.2.size)⟩; clear hb HC)
      | (go_at_call 9; refine Calls.mono (HN.out _ _ _ HC3.out.1 HC3.out.2) ?_; rintro e w5 ⟨q, r, c, rfl, hm, hb, hq⟩; have HC5 : Hid (Mch w5 oneT lsW (newH q r c) (newM [0, 3] []) ∧ Below w.heap.size w w5 ∧ w.heap.size ≤ q) := ⟨hm, hb, hq⟩; clear hm hb hq HC3)
      | (go_at_call 10; refine Calls.mono (HRn.out _ _ _ _ HC5.out.1 HC5.out.2.1 HC5.out.2.2) ?_; rintro e w6 ⟨pb, pc, mo, mc, rfl, p0, p1, pl, hb⟩; have HC6 : Hid (Below w.heap.size w w6) := hb; have HP : Hid (w6.cell? ⟨pb, 0, none⟩ = some (.int .i64 3) ∧ w6.cell? ⟨pb, 1, none⟩ = some (.int .i64 9) ∧ pb < w6.heap.size) := ⟨p0, p1, pl⟩; clear hb HC5)
      | (go_at_call 19; refine Calls.mono (num_w HP.out _ _ _ (by go_grown) (by simp) w6.heap.size 3 (.slice mo 256 mc) (by simp) (by simp)) ?_; rintro e w7 ⟨rfl, hb, m3, m4⟩; have HC7 : Hid (Below w.heap.size w w7) := HC6.out.trans (hb.mono HC6.out.size); clear hb p0 p1 pl))
    go_ret
    exact ⟨rfl, HC7.out⟩
end Go.Proofs.YtldfjlepbbmhnaaDoor.Pp
