/- The statement PipeLands: its boxes, its twelve bundles, and what it answers of an operation that writes nothing. Conditions: the state's lists and the table's bounds lie in memory. -/
import Derived.Test.YtldfjlepbbmhnaaDoorTe
import Derived.Test.YtldfjlepbbmhnaaDoorQq
namespace Go.Proofs.YtldfjlepbbmhnaaDoor.Op
open Go.ChangeShapes Go.WideShapes Go.ChangeAt Go.RowKit
set_option maxRecDepth 20000

theorem cnt_D (k : K) (w : World) : Calls Tryd.prog 34 #[k.val, .int .u8 1] w fun e w' => e = .returned (.bool k.D) ∧ Below w.heap.size w w' := by
  have h := counts_any k.s k.cls k.fields 1 w
  rw [and_D] at h; exact h
def wrB (o : O) : Bool := match kOf o.op with | some k => okF k o && k.D | none => false
def wrD (o : O) : Int := if wrB o then o.d else 0
theorem wr_no {o : O} (h : okO o = false) : wrB o = false := by
  unfold wrB; unfold okO at h
  split <;> simp_all
theorem wr_yes {o : O} {k : K} (h : kOf o.op = some k) (hf : okF k o = true) : wrB o = k.D := by
  unfold wrB; rw [h]; simp [hf]
set_option maxHeartbeats 1000000 in
theorem writes_any (o : O) (w : World) (ho : o.Ok) : Calls Tryd.prog 21 #[o.val] w fun e w' => e = .returned (.tuple #[.int .u8 (wrD o), .bool (wrB o)]) ∧ Below w.heap.size w w' := by
  cases hO : okO o
  · have hw := wr_no hO
    rw [show wrD o = 0 by simp [wrD, hw], hw]
    have HC : Hid _ := fun w => checked_no o w ho hO
    clear hO hw ho
    go_enter Tryd.func21, Tryd.ntmps21
    go_wp2_with (first | (go_at_call 33; refine Calls.mono (HC.out _) ?_; rintro e w1 ⟨rfl, hb⟩; obtain ⟨-, hb0, hz⟩ := one_new w _ _ hb; have HB : Hid (Below w.heap.size w w1) := hb0; clear hb hb0))
    go_ret2
    exact ⟨rfl, HB.out.trans ((Below.refl _ _).alloc (Nat.le_of_lt hz) _)⟩
  · cases hk : kOf o.op with
    | none => rw [okO_none hk] at hO; cases hO
    | some k =>
      have hf : okF k o = true := by rw [← okO_some hk]; exact hO
      have hw := wr_yes hk hf
      have HC : Hid _ := fun w => checked_yes o k w hk hf
      have HD : Hid _ := fun w => cnt_D k w
      cases hD : k.D
      · rw [hD] at hw
        rw [show wrD o = 0 by simp [wrD, hw], hw]
        rw [hD] at HD
        clear hO hw ho hk hf
        go_enter Tryd.func21, Tryd.ntmps21
        go_wp2_with (first | (go_at_call 33; refine Calls.mono (HC.out _) ?_; rintro e w1 ⟨rfl, hb⟩; obtain ⟨-, hb0, hz⟩ := one_new w _ _ hb; have HB : Hid (Below w.heap.size w w1) := hb0; clear hb hb0) | (go_at_call 34; refine Calls.mono (HD.out _) ?_; rintro e w2 ⟨rfl, hb⟩; obtain ⟨-, hb0, hz2⟩ := one_new w1 _ _ hb; have HB2 : Hid (Below w.heap.size w w2) := HB.out.trans (hb0.mono (Nat.le_of_lt hz)); clear hb hb0))
        go_ret2
        exact ⟨rfl, HB2.out⟩
      · rw [hD] at hw
        rw [show wrD o = o.d by simp [wrD, hw], hw]
        rw [hD] at HD
        clear hO hw ho hk hf
        go_enter Tryd.func21, Tryd.ntmps21
        go_wp2_with (first | (go_at_call 33; refine Calls.mono (HC.out _) ?_; rintro e w1 ⟨rfl, hb⟩; obtain ⟨a1, hb0, hz⟩ := one_new w _ _ hb; have HA : Hid _ := a1; have HB : Hid (Below w.heap.size w w1) := hb0; clear hb hb0 a1) | (go_at_call 34; refine Calls.mono (HD.out _) ?_; rintro e w2 ⟨rfl, hb⟩; obtain ⟨-, hb0, hz2⟩ := one_new w1 _ _ hb; have HB2 : Hid (Below w.heap.size w w2) := HB.out.trans (hb0.mono (Nat.le_of_lt hz)); have o1 := (HA.out.below hb0 hz).o5.2.1; clear hb hb0))
        go_ret2
        exact ⟨rfl, HB2.out⟩
end Go.Proofs.YtldfjlepbbmhnaaDoor.Op
namespace Go.Proofs.YtldfjlepbbmhnaaDoor.Bu
open Go.ChangeShapes Go.WideShapes Go.ChangeAt Go.RowKit
open _root_.Go.Proofs.YtldfjlepbbmhnaaDoor.Op
open _root_.Go.Proofs.YtldfjlepbbmhnaaDoor.Tb (Tab)
theorem Fld.back {o : O} (h : Fld o) : opW (wdO o) = o := by
  obtain ⟨p0, p1, d0, d1, a0, a1, b0, b1, i0, i1⟩ := h
  obtain ⟨p, d, a, b, i⟩ := o
  simp only at p0 p1 d0 d1 a0 a1 b0 b1 i0 i1
  unfold opW wdO
  simp only [O.mk.injEq]
  refine ⟨?_, ?_, ?_, ?_, ?_⟩ <;> omega
theorem isB_pos {c : Int} {o : O} (ho : o.Ok) (h : isB c o = true) : wdO o ≠ 0 := by
  obtain ⟨p0, p1, d0, d1, a0, a1, b0, b1, i0, i1⟩ := isB_fld ho h
  simp only [isB, Bool.and_eq_true] at h
  have hne : o.op ≠ 0 := by
    intro e
    have := h.1.1
    rw [e] at this
    exact absurd this (by decide)
  unfold wdO
  omega

theorem stN_zero (v : Nat → Int) : ∀ n j, stN v n ≤ j → j < n → v j = 0
  | 0, _, _, h => absurd h (by omega)
  | n + 1, j, h1, h2 => by
    unfold stN at h1
    split at h1
    · rename_i h0
      by_cases e : j = n
      · rw [e]; exact h0
      · exact stN_zero v n j h1 (by omega)
    · omega
theorem stN_is (v : Nat → Int) (m : Nat) (hm : ∀ j, j < m → v j ≠ 0) : ∀ n, m ≤ n → (∀ j, m ≤ j → j < n → v j = 0) → stN v n = m
  | 0, h, _ => by unfold stN; omega
  | n + 1, h, hz => by
    unfold stN
    by_cases e : m = n + 1
    · rw [if_neg (hm n (by omega))]; exact e.symm
    · rw [if_pos (hz n (by omega) (by omega))]
      exact stN_is v m hm n (by omega) fun j h1 h2 => hz j h1 (by omega)
theorem stN_same {v v' : Nat → Int} : ∀ n, (∀ j, j < n → v j = v' j) → stN v n = stN v' n
  | 0, _ => rfl
  | n + 1, h => by
    unfold stN
    rw [h n (by omega), stN_same n fun j hj => h j (by omega)]

theorem rdL_same {v v' : Nat → Int} {m : Nat} (h : ∀ j, j < m → v j = v' j) : rdL v m = rdL v' m := by
  unfold rdL
  exact List.map_congr_left fun j hj => by rw [h j (List.mem_range.1 hj)]
theorem rdB_same {c : Int} {v v' : Nat → Int} {m : Nat} (h : ∀ j, j < m → v j = v' j) : rdB c v m = rdB c v' m := by
  rw [Bool.eq_iff_iff, rdB_iff, rdB_iff]
  exact ⟨fun g j hj => by rw [← h j hj]; exact g j hj, fun g j hj => by rw [h j hj]; exact g j hj⟩
theorem wsL_at {n : Nat} {xs : List O} {j : Nat} (h : j < xs.length) : (wsL n xs).getD j 0 = wdO xs[j] := by
  unfold wsL
  rw [List.getD_eq_getElem?_getD, List.getElem?_append_left (by simpa using h)]
  simp [h]
theorem wsL_zero {n : Nat} {xs : List O} {j : Nat} (h : xs.length ≤ j) : (wsL n xs).getD j 0 = 0 := by
  unfold wsL
  rw [List.getD_eq_getElem?_getD, List.getElem?_append_right (by simpa using h), List.getElem?_replicate]
  split <;> rfl

theorem okW_of {c : Int} {o : O} (ho : o.Ok) (h : isB c o = true) : okW c (wdO o) = true := by
  have hf := isB_fld ho h
  unfold okW
  rw [hf.back, h, decide_eq_true hf.hi]; rfl
/-- What is written of one class is read as it was. -/
theorem cls_back {c : Int} {n : Nat} {xs : List O} {v : Nat → Int} (hok : ∀ o ∈ xs, o.Ok) (hb : xs.all (isB c) = true) (hl : xs.length ≤ n) (hv : ∀ j, j < n → v j = (wsL n xs).getD j 0) :
    stN v n = xs.length ∧ rdB c v xs.length = true ∧ rdL v xs.length = xs := by
  rw [List.all_eq_true] at hb
  refine ⟨stN_is v _ (fun j hj => ?_) n hl fun j h1 h2 => ?_, rdB_iff.2 fun j hj => ?_, ?_⟩
  · rw [hv j (by omega), wsL_at hj]
    exact isB_pos (hok _ (List.getElem_mem hj)) (hb _ (List.getElem_mem hj))
  · rw [hv j h2, wsL_zero h1]
  · rw [hv j (by omega), wsL_at hj]
    exact okW_of (hok _ (List.getElem_mem hj)) (hb _ (List.getElem_mem hj))
  · apply List.ext_getElem
    · rw [rdL_len]
    · intro j h1 h2
      simp only [rdL, List.getElem_map, List.getElem_range]
      rw [hv j (by omega), wsL_at h2]
      exact (isB_fld (hok _ (List.getElem_mem h2)) (hb _ (List.getElem_mem h2))).back
theorem wBk_at {t : Tab} {x : Bn} {k j : Nat} (hj : j < U t k) : ∀ {n : Nat}, wfK t x n = true → k < n → (wBk t x n).getD (ofs t k + j) 0 = (wsL (U t k) (x.l k)).getD j 0
  | 0, _, h => absurd h (by omega)
  | n + 1, hw, h => by
    have h' := wfK_iff.1 hw
    have hw' : wfK t x n = true := wfK_iff.2 fun k hk => h' k (by omega)
    have hl := wBk_len hw'
    show (wBk t x n ++ wsL (U t n) (x.l n)).getD _ 0 = _
    by_cases e : k = n
    · subst e
      rw [List.getD_eq_getElem?_getD, List.getElem?_append_right (by omega), hl, List.getD_eq_getElem?_getD]
      congr 2
      omega
    · have := ofs_mono (t := t) (k := k) (n := n) (by omega)
      rw [List.getD_eq_getElem?_getD, List.getElem?_append_left (by omega), ← List.getD_eq_getElem?_getD]
      exact wBk_at hj hw' (by omega)

theorem bdX_ok (t : Tab) (v : Nat → Int) : (bdX t v).Ok := fun _ _ => rdL_ok _ _
theorem bd_back {t : Tab} {x : Bn} {v : Nat → Int} (hok : x.Ok) (hw : wfB t x = true) (hv : ∀ j, j < ofs t 4 → v j = (wBk t x 4).getD j 0) :
    bdK t v 4 = true ∧ ∀ k, k < 4 → (bdX t v).l k = x.l k := by
  have h' := wfK_iff.1 hw
  have key : ∀ k, k < 4 → stN (cv t v k) (U t k) = (x.l k).length ∧ rdB k (cv t v k) (x.l k).length = true ∧ rdL (cv t v k) (x.l k).length = x.l k := fun k hk => by
    obtain ⟨h1, h2⟩ := clsB_parts (h' k hk)
    refine cls_back (hok k hk) h2 h1 fun j hj => ?_
    have := ofs_mono (t := t) hk
    show v (ofs t k + j) = _
    rw [hv _ (by omega), wBk_at hj hw hk]
  refine ⟨bdK_iff.2 fun k hk => ?_, fun k hk => ?_⟩
  · obtain ⟨e1, e2, -⟩ := key k hk
    rw [e1]; exact e2
  · obtain ⟨e1, -, e3⟩ := key k hk
    show rdL _ (stN _ _) = _
    rw [e1, e3]

theorem encW_at {t : Tab} : ∀ {ls : List Bn} {i j : Nat} (_ : allW t ls = true) (hi : i < ls.length) (_ : j < ofs t 4), (encW t ls).getD (i * ofs t 4 + j) 0 = (wBk t ls[i] 4).getD j 0
  | [], _, _, _, hi, _ => absurd hi (by simp)
  | x :: ls, i, j, h, hi, hj => by
    simp only [allW, List.all_cons, Bool.and_eq_true] at h
    have hl := wBk_len h.1
    show (wBk t x 4 ++ encW t ls).getD _ 0 = _
    match i, hi with
    | 0, _ =>
      rw [List.getD_eq_getElem?_getD, List.getElem?_append_left (by omega), ← List.getD_eq_getElem?_getD]
      simp
    | i + 1, hi =>
      have e : (i + 1) * ofs t 4 + j = ofs t 4 + (i * ofs t 4 + j) := by rw [Nat.succ_mul]; omega
      rw [e, List.getD_eq_getElem?_getD, List.getElem?_append_right (by omega), hl, Nat.add_sub_cancel_left, ← List.getD_eq_getElem?_getD]
      exact encW_at (ls := ls) h.2 (by simpa using hi) hj

theorem deL_next (t : Tab) (v : Nat → Int) (n : Nat) : deL t v (n + 1) = deL t v n ++ [bdX t (sv t v n)] := by simp [deL, List.range_succ]
theorem de_ok (t : Tab) (v : Nat → Int) (n : Nat) : ∀ x ∈ deL t v n, x.Ok := by
  intro x hx
  obtain ⟨i, -, rfl⟩ := List.mem_map.1 hx
  exact bdX_ok _ _
/-- Bundles that are the same, class by class. -/
def sameL (a b : List Bn) : Prop := a.length = b.length ∧ ∀ i (h : i < a.length) (h' : i < b.length) k, k < 4 → a[i].l k = b[i].l k
theorem de_back {t : Tab} {ls : List Bn} {v : Nat → Int} (hok : ∀ x ∈ ls, x.Ok) (hw : allW t ls = true) (hv : ∀ j, j < ls.length * ofs t 4 → v j = (encW t ls).getD j 0) :
    deB t v ls.length = true ∧ sameL (deL t v ls.length) ls := by
  have key : ∀ i (h : i < ls.length), bdK t (sv t v i) 4 = true ∧ ∀ k, k < 4 → (bdX t (sv t v i)).l k = ls[i].l k := fun i hi => by
    refine bd_back (hok _ (List.getElem_mem hi)) ((List.all_eq_true.1 hw) _ (List.getElem_mem hi)) fun j hj => ?_
    have : (i + 1) * ofs t 4 ≤ ls.length * ofs t 4 := Nat.mul_le_mul_right _ hi
    rw [Nat.succ_mul] at this
    show v (i * ofs t 4 + j) = _
    rw [hv _ (by omega), encW_at hw hi hj]
  refine ⟨deB_iff.2 fun i hi => (key i hi).1, deL_len _ _ _, fun i h h' k hk => ?_⟩
  simp only [deL, List.getElem_map, List.getElem_range]
  exact (key i h').2 k hk
end Go.Proofs.YtldfjlepbbmhnaaDoor.Bu
namespace Go.Proofs.YtldfjlepbbmhnaaDoor.Pp
open Go.ChangeShapes Go.WideShapes Go.ChangeAt Go.RowKit
open _root_.Go.Proofs.YtldfjlepbbmhnaaDoor.Op _root_.Go.Proofs.YtldfjlepbbmhnaaDoor.So _root_.Go.Proofs.YtldfjlepbbmhnaaDoor.Bu
open _root_.Go.Proofs.YtldfjlepbbmhnaaDoor.Tb (Tab TabAt Bnds)
set_option maxRecDepth 20000

section
variable {t : Tab}
theorem wr_in {o : O} (h : wrB o = true) : (1 ≤ o.op ∧ o.op ≤ 15) ∧ okO o = true := by
  unfold wrB at h
  cases hk : kOf o.op with
  | none => rw [hk] at h; cases h
  | some k =>
    rw [hk] at h
    simp only [Bool.and_eq_true] at h
    refine ⟨?_, by rw [okO_some hk]; exact h.1⟩
    obtain ⟨n, hn, e, hk2⟩ := kOf_some hk
    have key : ∀ n : Fin 24, (kindL[n.1]'n.2).D = true → 1 ≤ n.1 ∧ n.1 ≤ 15 := by decide
    have := key ⟨n, hn⟩ (by rw [hk2]; exact h.2)
    have t2 : 1 ≤ n ∧ n ≤ 15 := this
    omega
/-- An operation's class, for those that write. -/
theorem wr_cls {o : O} (h : wrB o = true) : clB o.op = true ∧ ∃ c : Nat, c < 3 ∧ clV o.op = c := by
  unfold wrB at h
  cases hk : kOf o.op with
  | none => rw [hk] at h; cases h
  | some k =>
    rw [hk] at h
    simp only [Bool.and_eq_true] at h
    obtain ⟨n, hn, e, hk2⟩ := kOf_some hk
    have key : ∀ n : Fin 24, (kindL[n.1]'n.2).D = true → (kindL[n.1]'n.2).cls = 0 ∨ (kindL[n.1]'n.2).cls = 1 ∨ (kindL[n.1]'n.2).cls = 2 := by decide
    have hc := key ⟨n, hn⟩ (by rw [hk2]; exact h.2)
    have hc : k.cls = 0 ∨ k.cls = 1 ∨ k.cls = 2 := by rw [← hk2]; exact hc
    simp only [clB, clV, hk]
    rcases hc with hc | hc | hc
    · rw [hc]; exact ⟨rfl, 0, by decide, rfl⟩
    · rw [hc]; exact ⟨rfl, 1, by decide, rfl⟩
    · rw [hc]; exact ⟨rfl, 2, by decide, rfl⟩
theorem isE_wr {S : PM} {o : O} (h : 1 ≤ o.op ∧ o.op ≤ 15) : isE S o = if resE S o = 0 then none else some (resE S o, 0) := by
  unfold isE
  rw [if_neg (by omega), if_neg (by omega)]
theorem resE_wr {S : PM} {o : O} (h : 1 ≤ o.op ∧ o.op ≤ 15) : resE S o = 0 ∨ (resE S o = 101 ∧ (o.op = 13 ∨ o.op = 14) ∧ S.r o.b.toNat = 0) := by
  unfold resE
  split
  · exact .inl rfl
  · split
    · exact .inl rfl
    · unfold rkE
      split
      · exact .inl rfl
      · split
        · rename_i h2
          split
          · rename_i h3
            exact .inr ⟨rfl, h2, h3⟩
          · exact .inl rfl
        · omega
theorem isM_wr {S : PM} {o : O} (la : Nat) (h : 1 ≤ o.op ∧ o.op ≤ 15) : isM t S o la = putF S la ⟨0, o.d, resV S o⟩ := by
  unfold isM
  rw [if_neg (by omega), if_neg (by omega), if_neg (by omega), if_neg (by omega), if_neg (by omega), if_neg (by omega), if_neg (by omega)]
/-- The bundles: one operation, and then nothing. -/
structure OneB (bs : List Bn) (o : O) (c : Nat) : Prop where
  n : bs.length = 12
  z : ∀ k, k < 4 → (bs.getD 0 ⟨fun _ => []⟩).l k = if k = c then [o] else []
  e : ∀ i, 1 ≤ i → i < 12 → ∀ k, k < 4 → (bs.getD i ⟨fun _ => []⟩).l k = []
  c : c < 4
theorem rest_one {x : Bn} {o : O} {c : Nat} (hc : c < 4) (h : ∀ k, k < 4 → x.l k = if k = c then [o] else []) : restO x 4 = [(o, c)] := by
  have e : restO x 4 = clsO x 0 ++ (clsO x 1 ++ (clsO x 2 ++ (clsO x 3 ++ []))) := rfl
  rw [e]
  unfold clsO
  rw [h 0 (by decide), h 1 (by decide), h 2 (by decide), h 3 (by decide)]
  rcases (by omega : c = 0 ∨ c = 1 ∨ c = 2 ∨ c = 3) with rfl | rfl | rfl | rfl <;> rfl
theorem rest_none {x : Bn} (h : ∀ k, k < 4 → x.l k = []) : restO x 4 = [] := by
  have e : restO x 4 = clsO x 0 ++ (clsO x 1 ++ (clsO x 2 ++ (clsO x 3 ++ []))) := rfl
  rw [e]
  unfold clsO
  rw [h 0 (by decide), h 1 (by decide), h 2 (by decide), h 3 (by decide)]
  rfl
/-- The machine behind so many cycles. -/
def lnS (rs ms : List Int) (d : Nat) (x : Int) (la k : Nat) : PM := ⟨fun i => if la < k ∧ i = d then x else (rs[i]?).getD 0, fun i => (ms[i]?).getD 0, (k : Int), 0, fun j => if k ≤ la ∧ j = la % 8 then [⟨0, (d : Int), x⟩] else [], 100, 0, [], k⟩
theorem land_new (rs ms : List Int) : landM (newM rs ms) = newM rs ms := by
  unfold landM
  show takeF (newM rs ms) = _
  unfold takeF newM
  simp only [PM.mk.injEq, true_and, and_true]
  funext k
  split <;> rfl
theorem cy_first {bs : List Bn} {o : O} {c : Nat} (h : OneB bs o c) (rs ms : List Int) : cyM t bs (newM rs ms) = (match bdM t (newM rs ms) [(o, c)] with | (S2, none) => (stepM S2, none) | (S2, some z) => (S2, some z)) := by
  unfold cyM
  rw [land_new]
  have ha : (newM rs ms).a = 0 := rfl
  rw [ha, if_pos ⟨by decide, by rw [h.n]; decide⟩]
  rw [show (0 : Int).toNat = 0 from rfl, rest_one h.c h.z]
  rfl
theorem cy_halt {bs : List Bn} {o : O} {c : Nat} (h : OneB bs o c) (rs ms : List Int) {z : Int × Int} (he : isE (newM rs ms) o = some z) : cyM t bs (newM rs ms) = (newM rs ms, some z) := by
  rw [cy_first h]
  unfold bdM
  rw [he]
theorem cy_one {bs : List Bn} {o : O} {c : Nat} (h : OneB bs o c) (hc3 : 1 ≤ t.l c ∧ t.l c ≤ 8) (hw : 1 ≤ o.op ∧ o.op ≤ 15) (hd : 0 ≤ o.d) (rs ms : List Int) (he : isE (newM rs ms) o = none) :
    cyM t bs (newM rs ms) = (lnS rs ms o.d.toNat (resV (newM rs ms) o) (t.l c).toNat 1, none) := by
  rw [cy_first h]
  unfold bdM
  rw [he]
  dsimp only
  rw [isM_wr _ hw]
  show (stepM (putF (newM rs ms) ((newM rs ms).s + (t.l c).toNat) _), none) = _
  have hla : ¬ (t.l c).toNat < 1 := by omega
  have hla2 : 1 ≤ (t.l c).toNat := by omega
  have hdd : ((o.d.toNat : Nat) : Int) = o.d := by omega
  generalize resV (newM rs ms) o = x
  generalize (t.l c).toNat = la at *
  unfold lnS stepM putF newM
  simp only [Prod.mk.injEq, and_true, PM.mk.injEq, true_and]
  refine ⟨?_, rfl, ?_⟩
  · funext i; simp [hla]
  · funext j
    rw [Nat.zero_add, hdd]
    simp [hla2]
theorem land_ln {rs ms : List Int} {d : Nat} {x : Int} {la k : Nat} (h1 : 1 ≤ k) (h8 : la ≤ 8) (hl : 1 ≤ la) :
    landM (lnS rs ms d x la k) = { lnS rs ms d x la (k + 1) with a := (k : Int), s := k } := by
  have e : (lnS rs ms d x la k).f ((lnS rs ms d x la k).s % 8) = if k = la then [⟨0, (d : Int), x⟩] else [] := by
    show (if k ≤ la ∧ k % 8 = la % 8 then [(⟨0, (d : Int), x⟩ : F)] else []) = _
    by_cases hk : k = la
    · subst hk; simp
    · rw [if_neg hk, if_neg (by omega)]
  unfold landM
  rw [e]
  by_cases hk : k = la
  · rw [if_pos hk]
    subst hk
    show ld1 (takeF (lnS rs ms d x k k)) ⟨0, (d : Int), x⟩ = _
    unfold ld1
    rw [if_pos rfl]
    unfold takeF lnS upd
    simp only [PM.mk.injEq, true_and, and_true]
    refine ⟨?_, ?_⟩
    · funext i
      by_cases hi : i = d
      · subst hi; simp
      · simp [hi]
    · funext j
      by_cases hj : j = k % 8
      · rw [if_pos hj, if_neg (by omega)]
      · rw [if_neg hj, if_neg (by omega), if_neg (by omega)]
  · rw [if_neg hk]
    show takeF (lnS rs ms d x la k) = _
    unfold takeF lnS
    simp only [PM.mk.injEq, true_and, and_true]
    refine ⟨?_, ?_⟩
    · funext i
      have : (la < k ∧ i = d) ↔ (la < k + 1 ∧ i = d) := by omega
      simp only [this]
    · funext j
      by_cases hj : j = k % 8
      · rw [if_pos hj]
        rw [if_neg (by omega)]
      · rw [if_neg hj]
        have : (k ≤ la ∧ j = la % 8) ↔ (k + 1 ≤ la ∧ j = la % 8) := by omega
        simp only [this]
theorem cy_next {bs : List Bn} {o : O} {c : Nat} (h : OneB bs o c) {rs ms : List Int} {d : Nat} {x : Int} {la k : Nat} (h1 : 1 ≤ k) (hk : k < 12) (h8 : la ≤ 8) (hl : 1 ≤ la) : cyM t bs (lnS rs ms d x la k) = (lnS rs ms d x la (k + 1), none) := by
  unfold cyM
  rw [land_ln h1 h8 hl]
  dsimp only
  rw [if_pos ⟨by omega, by rw [h.n]; omega⟩, show ((k : Nat) : Int).toNat = k by simp, rest_none (h.e k h1 hk)]
  unfold bdM
  dsimp only
  unfold stepM lnS
  simp
theorem run_lands {bs : List Bn} {o : O} {c : Nat} (h : OneB bs o c) (hc3 : 1 ≤ t.l c ∧ t.l c ≤ 8) (hw : 1 ≤ o.op ∧ o.op ≤ 15) (hd : 0 ≤ o.d) (rs ms : List Int) (he : isE (newM rs ms) o = none) :
    runM t bs 1 (newM rs ms) = lnS rs ms o.d.toNat (resV (newM rs ms) o) (t.l c).toNat 1 := by
  rw [run_none t bs rfl (cy_one h hc3 hw hd rs ms he), run_zero]
theorem run_more {bs : List Bn} {o : O} {c : Nat} (h : OneB bs o c) {rs ms : List Int} {d : Nat} {x : Int} {la k : Nat} (h1 : 1 ≤ k) (hk : k < 12) (h8 : la ≤ 8) (hl : 1 ≤ la) : runM t bs 1 (lnS rs ms d x la k) = lnS rs ms d x la (k + 1) := by
  rw [run_none t bs rfl (cy_next (t := t) h h1 hk h8 hl), run_zero]
theorem run_halts {bs : List Bn} {o : O} {c : Nat} (h : OneB bs o c) (rs ms : List Int) {z : Int × Int} (he : isE (newM rs ms) o = some z) : runM t bs 1 (newM rs ms) = endM (newM rs ms) z := by
  rw [run_some t bs rfl (cy_halt h rs ms he)]
/-- What is in flight then. -/
theorem fly_ln {rs ms : List Int} {d : Nat} {x : Int} {la k : Nat} (hd : d < 32) : flyL (lnS rs ms d x la k) = if k ≤ la then [d] else [] := by
  have hg : ∀ n q, goB (lnS rs ms d x la k) n q = (decide (k ≤ la) && decide (la % 8 < n) && decide (q = d)) := fun n q => by
    induction n with
    | zero => simp [goB]
    | succ n ih =>
      unfold goB
      rw [ih]
      have e : (lnS rs ms d x la k).f n = if k ≤ la ∧ n = la % 8 then [⟨0, (d : Int), x⟩] else [] := rfl
      rw [e]
      by_cases h1 : k ≤ la
      · by_cases h2 : n = la % 8
        · rw [if_pos ⟨h1, h2⟩]
          have n1 : ¬ la % 8 < n := by omega
          have n2 : la % 8 < n + 1 := by omega
          have e2 : ((d : Int) = (q : Int)) ↔ (q = d) := by omega
          simp [occ, h1, n1, n2, e2]
        · rw [if_neg (by omega)]
          have : (la % 8 < n) ↔ (la % 8 < n + 1) := by omega
          simp [occ, h1, this]
      · rw [if_neg (by omega)]
        simp [occ, h1]
  have hm : la % 8 < 8 := Nat.mod_lt _ (by decide)
  unfold flyL
  by_cases h1 : k ≤ la
  · rw [if_pos h1]
    have : ∀ n, (List.range n).filter (goB (lnS rs ms d x la k) 8) = if d < n then [d] else [] := fun n => by
      induction n with
      | zero => simp
      | succ n ih =>
        rw [List.range_succ, List.filter_append, ih]
        have e : goB (lnS rs ms d x la k) 8 n = decide (n = d) := by rw [hg]; simp [h1, hm]
        by_cases h2 : n = d
        · subst h2
          simp [e]
        · have : ¬ d = n := fun e' => h2 e'.symm
          by_cases h3 : d < n
          · simp [e, h2, h3, show d < n + 1 by omega]
          · simp [e, h2, h3, show ¬ d < n + 1 by omega]
    rw [this 32, if_pos hd]
  · rw [if_neg h1]
    rw [List.filter_eq_nil_iff]
    intro q _
    rw [hg]
    simp [h1]
theorem ln_ok {rs ms : List Int} (hr : ∀ x ∈ rs, I64 x) (hm : ∀ x ∈ ms, I64 x) {d : Nat} {x : Int} {la k : Nat} (hd : d < 32) (hx : I64 x) (hk : k ≤ 100) : (lnS rs ms d x la k).Ok 1 := by
  have h0 := newM_ok hr hm
  refine ⟨fun i => ?_, h0.m, ?_, by show (0 : Int) ≤ 0; decide, by show (0 : Int) < _; decide, fun j y hy => ?_, fun j => ?_, by show (0 : Nat) ≤ 1; decide⟩
  · show I64 (if _ then _ else _)
    split
    · exact hx
    · exact h0.r i
  · show I64 (k : Int)
    unfold I64
    omega
  · change y ∈ (if k ≤ la ∧ j = la % 8 then [(⟨0, (d : Int), x⟩ : F)] else []) at hy
    split at hy
    · rw [List.mem_singleton.1 hy]
      exact ⟨.inl rfl, (show (0 : Int) ≤ (d : Int) by omega), (show (d : Int) < 256 by omega), fun _ => (show (d : Int) < 32 by omega), hx⟩
    · cases hy
  · change (if k ≤ la ∧ j = la % 8 then [(⟨0, (d : Int), x⟩ : F)] else []).length ≤ 1
    split <;> simp
end
end Go.Proofs.YtldfjlepbbmhnaaDoor.Pp
namespace Go.Proofs.YtldfjlepbbmhnaaDoor.Pp
open Go.ChangeShapes Go.WideShapes Go.ChangeAt Go.RowKit
open _root_.Go.Proofs.YtldfjlepbbmhnaaDoor.Op _root_.Go.Proofs.YtldfjlepbbmhnaaDoor.So _root_.Go.Proofs.YtldfjlepbbmhnaaDoor.Bu
open _root_.Go.Proofs.YtldfjlepbbmhnaaDoor.Tb (Tab TabAt Bnds)
set_option maxRecDepth 20000

theorem al_up (W : World) (c : Array Value) (ty : TypeId) : Below W.heap.size W (W.alloc (.cells c ty)) := (Below.refl _ _).alloc (Nat.le_refl _) _
def Yes (w : World) (e : Ending) (w' : World) : Prop := e = .returned (.bool true) ∧ Below w.heap.size w w'
/-- The boxes of the arguments. -/
structure Bz (w W : World) (o : O) (t : Tab) (ra ma : Option Addr) (rl rc ml mc : Nat) : Prop where
  o : At W w.heap.size #[.int .i8 o.op, .int .u8 o.d, .int .u8 o.a, .int .u8 o.b, .int .i64 o.im]
  t : TabAt W (w.heap.size + 1) t
  s : At W (w.heap.size + 2) #[.slice ra rl rc, .slice ma ml mc]
  b : Below w.heap.size w W
theorem Bz.up {w W W' : World} {o : O} {t : Tab} {ra ma : Option Addr} {rl rc ml mc : Nat} (h : Bz w W o t ra ma rl rc ml mc) (hb : Below W.heap.size W W') : Bz w W' o t ra ma rl rc ml mc := ⟨h.o.below hb h.o.lt, h.t.below hb h.t.lt, h.s.below hb h.s.lt, h.b.trans (hb.mono h.b.size)⟩
theorem Bz.new (w : World) (o : O) (t : Tab) (ra ma : Option Addr) (rl rc ml mc : Nat) : Bz w (((w.alloc (.cells #[.int .i8 o.op, .int .u8 o.d, .int .u8 o.a, .int .u8 o.b, .int .i64 o.im] 55)).alloc (.cells t.cells 25)).alloc (.cells #[.slice ra rl rc, .slice ma ml mc] 28)) o t ra ma rl rc ml mc := by
  have g1 : Below (w.alloc (.cells #[.int .i8 o.op, .int .u8 o.d, .int .u8 o.a, .int .u8 o.b, .int .i64 o.im] 55)).heap.size (w.alloc (.cells #[.int .i8 o.op, .int .u8 o.d, .int .u8 o.a, .int .u8 o.b, .int .i64 o.im] 55)) ((w.alloc (.cells #[.int .i8 o.op, .int .u8 o.d, .int .u8 o.a, .int .u8 o.b, .int .i64 o.im] 55)).alloc (.cells t.cells 25)) := (Below.refl _ _).alloc (Nat.le_refl _) _
  have g2 : Below ((w.alloc (.cells #[.int .i8 o.op, .int .u8 o.d, .int .u8 o.a, .int .u8 o.b, .int .i64 o.im] 55)).alloc (.cells t.cells 25)).heap.size ((w.alloc (.cells #[.int .i8 o.op, .int .u8 o.d, .int .u8 o.a, .int .u8 o.b, .int .i64 o.im] 55)).alloc (.cells t.cells 25)) (((w.alloc (.cells #[.int .i8 o.op, .int .u8 o.d, .int .u8 o.a, .int .u8 o.b, .int .i64 o.im] 55)).alloc (.cells t.cells 25)).alloc (.cells #[.slice ra rl rc, .slice ma ml mc] 28)) := (Below.refl _ _).alloc (Nat.le_refl _) _
  have a0 := At.new w #[.int .i8 o.op, .int .u8 o.d, .int .u8 o.a, .int .u8 o.b, .int .i64 o.im] 55
  have a1 := Tb.tabAt_new (w.alloc (.cells #[.int .i8 o.op, .int .u8 o.d, .int .u8 o.a, .int .u8 o.b, .int .i64 o.im] 55)) t 25
  have a2 := At.new ((w.alloc (.cells #[.int .i8 o.op, .int .u8 o.d, .int .u8 o.a, .int .u8 o.b, .int .i64 o.im] 55)).alloc (.cells t.cells 25)) #[.slice ra rl rc, .slice ma ml mc] 28
  rw [show (w.alloc (.cells #[.int .i8 o.op, .int .u8 o.d, .int .u8 o.a, .int .u8 o.b, .int .i64 o.im] 55)).heap.size = w.heap.size + 1 by simp] at a1
  rw [show ((w.alloc (.cells #[.int .i8 o.op, .int .u8 o.d, .int .u8 o.a, .int .u8 o.b, .int .i64 o.im] 55)).alloc (.cells t.cells 25)).heap.size = w.heap.size + 2 by simp] at a2
  exact ⟨(a0.below g1 a0.lt).below g2 (by simp; omega), a1.below g2 a1.lt, a2, by go_grown⟩
theorem row_0 (o : O) (ho : o.Ok) (w : World) : Calls Tryd.prog 22 #[.int .i64 0, o.val] w (RowPost 0 o w) := by
  have HO : Hid o.Ok := ho
  clear ho
  obtain ⟨o0, o1, o2, o3, o4⟩ := o
  go_enter Tryd.func22, Tryd.ntmps22
  go_wp2_with fail
  refine bodyPost_ret (v := bval (rowB 0 ⟨o0, o1, o2, o3, o4⟩) (rowP 0 (w.heap.size + 3))) (by simp [results, Tryd.results22, go_sem, rowB, rowP]) rfl ?_
  refine ⟨w.heap.size + 3, rfl, row_in HO.out ?_ (by simp), by go_grown⟩
  refine oat_last _ _ ⟨o0, o1, o2, o3, o4⟩ ?_
  simp
/-- A bundle of one operation, of whatever class. -/
theorem row_any (c : Nat) (hc : c < 3) (o : O) (ho : o.Ok) (w : World) : Calls Tryd.prog 22 #[.int .i64 (c : Int), o.val] w fun e w' => ∃ p, e = .returned (bval (rowB c o) p) ∧ BnIn w' (rowB c o) p ∧ (∀ j, j < 4 → ∀ A, p.a j = some A → A.block < w'.heap.size) ∧ Below w.heap.size w w' := by
  have key : ∀ e w', RowPost c o w e w' → ∃ p, e = .returned (bval (rowB c o) p) ∧ BnIn w' (rowB c o) p ∧ (∀ j, j < 4 → ∀ A, p.a j = some A → A.block < w'.heap.size) ∧ Below w.heap.size w w' := by
    rintro e w' ⟨b, h1, h2, h3⟩
    refine ⟨_, h1, h2, fun j hj A hA => ?_, h3⟩
    obtain ⟨b', f', e1, z, -⟩ := (h2.o c (by omega)).is (by simp [rowB])
    simp only [rowP] at hA e1
    split at hA
    · rw [if_pos trivial] at e1
      cases hA
      cases e1
      exact z
    · cases hA
  rcases (by omega : c = 0 ∨ c = 1 ∨ c = 2) with rfl | rfl | rfl
  · exact (row_0 o ho w).mono key
  · exact (row_1 o ho w).mono key
  · exact (row_2 o ho w).mono key
theorem enc_table (ao : Option Addr) (cap : Nat) (ls : List Bn) (t : Tab) (w : World) (hG : Bnds w) (ht : t.ok = false) :
    Calls Tryd.prog 23 #[.slice ao ls.length cap, t.val] w fun e w' => e = .returned (.tuple #[.slice none 0 0, .int .i64 20]) ∧ Below w.heap.size w w' := by
  have HC : Hid (∀ W, Below w.heap.size w W → Calls Tryd.prog 35 #[t.val] W fun e w' => e = .returned (.int .i64 20) ∧ Below W.heap.size W w') := fun W hb => by
    have := Tb.check_any t W (hG.below hb hG.big)
    rw [ck_bad ht] at this
    exact this
  clear ht hG
  unfold Tab.val at *
  go_enter Tryd.func23, Tryd.ntmps23
  go_wp2_with (first | (go_at_call 35; refine Calls.mono (HC.out _ (by go_grown)) ?_; rintro e w1 ⟨rfl, hb⟩; obtain ⟨-, hb0, hz⟩ := one_new w _ _ hb; have HB : Hid (Below w.heap.size w w1) := hb0; clear hb hb0))
  go_ret2
  exact ⟨rfl, HB.out⟩
theorem enc_bad (ao : Option Addr) (cap : Nat) (ls : List Bn) (t : Tab) (w : World) (hx : BsAt w ao ls) (hG : Bnds w) (hl : ls.length ≤ 65536) (h : enE t ls ≠ 0) :
    Calls Tryd.prog 23 #[.slice ao ls.length cap, t.val] w fun e w' => e = .returned (.tuple #[.slice none 0 0, .int .i64 (enE t ls)]) ∧ Below w.heap.size w w' := by
  have hl' : ¬ 65536 < ls.length := by omega
  cases ht : t.ok
  · rw [show enE t ls = 20 by simp [enE, ht]]
    exact enc_table ao cap ls t w hG ht
  · cases hw : allW t ls
    · rw [show enE t ls = 210 by simp [enE, ht, hl', hw]]
      have := enc_any ao cap ls t w hx hG ht hl
      unfold EnOut at this
      rw [hw] at this
      exact this
    · exact absurd (by simp [enE, ht, hl', hw]) h
def eB : Bn := ⟨fun _ => []⟩
def tw (x : Bn) : List Bn := x :: List.replicate 11 eB
theorem tw_len (x : Bn) : (tw x).length = 12 := rfl
theorem tw_at (x : Bn) {i : Nat} (h : i < (tw x).length) (h0 : i ≠ 0) : (tw x)[i] = eB := by
  cases i with
  | zero => exact absurd rfl h0
  | succ i =>
    have hi : i < (List.replicate 11 eB).length := by have h' : i + 1 < 12 := h; simp; omega
    show (List.replicate 11 eB)[i]'hi = eB
    exact List.getElem_replicate _
/-- The twelve bundles in memory. -/
theorem bs_twelve {W0 : World} {B L : Nat} {x : Bn} {p : Pb} (row : W0.ownsRow B 63 4 (.slice (some ⟨L, 0, none⟩) 12 12) 12 (madeCells bz.cells (12 * 4)).toList) (hx : BnIn W0 x p) (hf : ∀ j, j < 4 → ∀ A, p.a j = some A → A.block ≠ L) :
    BsAt (set4 W0 L 0 (.slice (p.a 0) (x.l 0).length (p.c 0)) (.slice (p.a 1) (x.l 1).length (p.c 1)) (.slice (p.a 2) (x.l 2).length (p.c 2)) (.slice (p.a 3) (x.l 3).length (p.c 3))) (some ⟨L, 0, none⟩) (tw x) := by
  have g := set4_fr W0 L 0 (.slice (p.a 0) (x.l 0).length (p.c 0)) (.slice (p.a 1) (x.l 1).length (p.c 1)) (.slice (p.a 2) (x.l 2).length (p.c 2)) (.slice (p.a 3) (x.l 3).length (p.c 3))
  have hz : ∀ j, j < 48 → W0.cell? ⟨L, j, none⟩ = some (.slice none 0 0) := fun j hj => row_cell' row (made_get _ j hj)
  have at4 := set4_at (W := W0) (b := L) (o := 0) (.slice (p.a 0) (x.l 0).length (p.c 0)) (.slice (p.a 1) (x.l 1).length (p.c 1)) (.slice (p.a 2) (x.l 2).length (p.c 2)) (.slice (p.a 3) (x.l 3).length (p.c 3)) (fun j hj => ⟨_, hz _ (by omega)⟩)
  have hl := (row.lt L rfl).2
  generalize set4 W0 L 0 _ _ _ _ = W' at *
  refine ⟨by rw [tw_len]; decide, fun _ => ⟨L, 0, rfl, Nat.lt_of_lt_of_le hl g.size, fun i hi => ?_⟩⟩
  have hi' : i < 12 := hi
  by_cases h0 : i = 0
  · subst h0
    refine ⟨p, ⟨Tb.four ?_ ?_ ?_ ?_⟩, ⟨fun j hj => opsAt_fr (hx.o j hj) g fun A hA e => hf j hj A hA e⟩⟩
    · rw [at4]; simp [tw]
    · rw [at4]; simp [tw]
    · rw [at4]; simp [tw]
    · rw [at4]; simp [tw]
  · rw [tw_at x hi h0]
    refine ⟨⟨fun _ => none, fun _ => 0⟩, ⟨fun k hk => ?_⟩, ⟨fun k hk => ⟨fun y hy => by simp [eB] at hy, by simp [eB], fun h => by simp [eB] at h⟩⟩⟩
    rw [at4, if_neg (by omega), if_neg (by omega), if_neg (by omega), if_neg (by omega), hz _ (by omega)]
    rfl
/-- What is read of the twelve bundles' words. -/
theorem one_dec {t : Tab} {o : O} {c : Nat} (ho : o.Ok) (hc : c < 4) (he : enE t (tw (rowB c o)) = 0) (v : Nat → Int) (hv : v = fun j => (encW t (tw (rowB c o))).getD j 0) :
    deE t v (12 * ofs t 4) = 0 ∧ 12 * ofs t 4 / ofs t 4 = 12 ∧ OneB (deL t v 12) o c := by
  obtain ⟨h1, h2, h3⟩ := enE_ok he
  have hok : ∀ x ∈ tw (rowB c o), x.Ok := fun x hx => by
    rcases List.mem_cons.1 hx with e | e
    · subst e
      intro k _ y hy
      simp only [rowB] at hy
      split at hy
      · rw [List.mem_singleton.1 hy]; exact ho
      · cases hy
    · rw [List.eq_of_mem_replicate e]
      intro k _ y hy
      cases hy
  have hb := de_back (v := v) hok h3 (fun j _ => by rw [hv])
  rw [tw_len] at hb
  have hu : 1 ≤ ofs t 4 := by
    have hw := List.all_eq_true.1 h3 (rowB c o) (by simp [tw])
    have hk := (clsB_parts (wfK_iff.1 hw c hc)).1
    simp [rowB] at hk
    have := ofs_mono (t := t) (k := c) (n := 4) hc
    omega
  have hdiv : 12 * ofs t 4 / ofs t 4 = 12 := Nat.mul_div_cancel _ (by omega)
  refine ⟨?_, hdiv, ?_⟩
  · unfold deE
    rw [if_pos h1, if_pos (Nat.mul_mod_left _ _), hdiv, if_neg (by decide), if_pos hb.1]
  · obtain ⟨-, hlen, hs⟩ := hb
    have hl : (deL t v 12).length = 12 := deL_len _ _ _
    refine ⟨hl, fun k hk => ?_, fun i h1 h2 k hk => ?_, hc⟩
    · rw [List.getD_eq_getElem?_getD, List.getElem?_eq_getElem (by omega), Option.getD_some, hs 0 (by omega) (by rw [tw_len]; decide) k hk]
      rfl
    · rw [List.getD_eq_getElem?_getD, List.getElem?_eq_getElem (by omega), Option.getD_some, hs i (by omega) (by rw [tw_len]; omega) k hk, tw_at _ _ (by omega)]
      rfl
/-- What is asked of operations that write nothing, or of a state that is too great. -/
theorem lands_none (o : O) (t : Tab) (ra ma : Option Addr) (rl rc ml mc : Nat) (w : World) (hG : Bnds w) (ho : o.Ok) (h : wrB o = false ∨ 32 < rl ∨ 256 < ml) :
    Calls Tryd.prog 5 #[o.val, t.val, .agg #[.slice ra rl rc, .slice ma ml mc]] w (Yes w) := by
  have HW : Hid (∀ V, Below w.heap.size w V → Calls Tryd.prog 7 #[] V fun e w' => e = .returned (.bool true) ∧ Below V.heap.size V w') := fun V hV => wakes_any V (hG.below hV hG.big)
  have HC : Hid (∀ V, Calls Tryd.prog 20 #[.int .i8 o.op] V fun e w' => e = .returned (.tuple #[.int .i64 (clV o.op), .bool (clB o.op)]) ∧ Below V.heap.size V w') := fun V => class_any o.op V ho.op0 ho.op1
  have HR : Hid (∀ V, Calls Tryd.prog 21 #[.agg #[.int .i8 o.op, .int .u8 o.d, .int .u8 o.a, .int .u8 o.b, .int .i64 o.im]] V fun e w' => e = .returned (.tuple #[.int .u8 (wrD o), .bool (wrB o)]) ∧ Below V.heap.size V w') := fun V => writes_any o V ho
  have HB0 : Hid (Bz w (((w.alloc (.cells #[.int .i8 o.op, .int .u8 o.d, .int .u8 o.a, .int .u8 o.b, .int .i64 o.im] 55)).alloc (.cells t.cells 25)).alloc (.cells #[.slice ra rl rc, .slice ma ml mc] 28)) o t ra ma rl rc ml mc) := Bz.new w o t ra ma rl rc ml mc
  clear hG ho
  unfold Tab.val
  cases hw : wrB o
  · rw [hw] at HR
    clear h
    cases hc : clB o.op
    all_goals
      rw [hc] at HC
      clear hw hc
      go_enter Tryd.func5, Tryd.ntmps5
      go_wp2_with (first
          | (go_at_call 20; refine Calls.mono (HC.out _) ?_; rintro e w1 ⟨rfl, hb⟩; have HB1 : Hid (Bz w w1 o t ra ma rl rc ml mc) := HB0.out.up hb; clear hb HC; have o0 := HB1.out.o.c 0 _ rfl; have o1 := HB1.out.o.c 1 _ rfl; have o2 := HB1.out.o.c 2 _ rfl; have o3 := HB1.out.o.c 3 _ rfl; have o4 := HB1.out.o.c 4 _ rfl; have ol := HB1.out.o.lt)
          | (go_at_call 21; refine Calls.mono (HR.out _) ?_; rintro e w2 ⟨rfl, hb⟩; have HB2 : Hid (Bz w w2 o t ra ma rl rc ml mc) := HB1.out.up hb; clear hb HR o0 o1 o2 o3 o4 ol; have s0 := HB2.out.s.c 0 _ rfl; have s1 := HB2.out.s.c 1 _ rfl; have sl := HB2.out.s.lt)
          | (go_at_call 7; refine Calls.mono (HW.out _ HB2.out.b) ?_; rintro e w4 ⟨rfl, hb⟩; have HC4 : Hid (Below w.heap.size w w4) := HB2.out.b.trans (hb.mono HB2.out.b.size); clear hb))
      go_ret
      exact ⟨rfl, HC4.out⟩
  · rw [hw] at HR
    rw [(wr_cls hw).1] at HC
    by_cases h1 : 32 < rl
    · have i1 : (32 : Int) < (rl : Int) := by omega
      clear h hw h1
      go_enter Tryd.func5, Tryd.ntmps5
      go_wp2_with (first
          | (go_at_call 20; refine Calls.mono (HC.out _) ?_; rintro e w1 ⟨rfl, hb⟩; have HB1 : Hid (Bz w w1 o t ra ma rl rc ml mc) := HB0.out.up hb; clear hb HC; have o0 := HB1.out.o.c 0 _ rfl; have o1 := HB1.out.o.c 1 _ rfl; have o2 := HB1.out.o.c 2 _ rfl; have o3 := HB1.out.o.c 3 _ rfl; have o4 := HB1.out.o.c 4 _ rfl; have ol := HB1.out.o.lt)
          | (go_at_call 21; refine Calls.mono (HR.out _) ?_; rintro e w2 ⟨rfl, hb⟩; have HB2 : Hid (Bz w w2 o t ra ma rl rc ml mc) := HB1.out.up hb; clear hb HR o0 o1 o2 o3 o4 ol; have s0 := HB2.out.s.c 0 _ rfl; have s1 := HB2.out.s.c 1 _ rfl; have sl := HB2.out.s.lt)
          | (go_at_call 7; refine Calls.mono (HW.out _ HB2.out.b) ?_; rintro e w4 ⟨rfl, hb⟩; have HC4 : Hid (Below w.heap.size w w4) := HB2.out.b.trans (hb.mono HB2.out.b.size); clear hb))
      go_ret
      exact ⟨rfl, HC4.out⟩
    · have i1 : ¬ (32 : Int) < (rl : Int) := by omega
      have i2 : (256 : Int) < (ml : Int) := by
        rcases h with h | h | h
        · rw [hw] at h; cases h
        · omega
        · omega
      clear h hw h1
      go_enter Tryd.func5, Tryd.ntmps5
      go_wp2_with (first
          | (go_at_call 20; refine Calls.mono (HC.out _) ?_; rintro e w1 ⟨rfl, hb⟩; have HB1 : Hid (Bz w w1 o t ra ma rl rc ml mc) := HB0.out.up hb; clear hb HC; have o0 := HB1.out.o.c 0 _ rfl; have o1 := HB1.out.o.c 1 _ rfl; have o2 := HB1.out.o.c 2 _ rfl; have o3 := HB1.out.o.c 3 _ rfl; have o4 := HB1.out.o.c 4 _ rfl; have ol := HB1.out.o.lt)
          | (go_at_call 21; refine Calls.mono (HR.out _) ?_; rintro e w2 ⟨rfl, hb⟩; have HB2 : Hid (Bz w w2 o t ra ma rl rc ml mc) := HB1.out.up hb; clear hb HR o0 o1 o2 o3 o4 ol; have s0 := HB2.out.s.c 0 _ rfl; have s1 := HB2.out.s.c 1 _ rfl; have sl := HB2.out.s.lt)
          | (go_at_call 7; refine Calls.mono (HW.out _ HB2.out.b) ?_; rintro e w4 ⟨rfl, hb⟩; have HC4 : Hid (Below w.heap.size w w4) := HB2.out.b.trans (hb.mono HB2.out.b.size); clear hb))
      go_ret
      exact ⟨rfl, HC4.out⟩
/-- The machine under way, with the boxes and the state that it had at first. -/
structure Lz (w W : World) (o : O) (t : Tab) (ls : List Bn) (H : Hx) (S : PM) (q b17 B : Nat) (ro uo : Option Addr) (rc uc : Nat) (S0 : PM) : Prop where
  m : Mch W t ls H S
  e : H.mb = q
  o1 : ∀ b, own H b → B ≤ b
  hB : w.heap.size + 2 < B
  up : Below w.heap.size w W
  bo : At W w.heap.size #[.int .i8 o.op, .int .u8 o.d, .int .u8 o.a, .int .u8 o.b, .int .i64 o.im]
  bt : TabAt W (w.heap.size + 1) t
  bw : At W b17 #[.slice ro 32 rc, .slice uo 256 uc]
  fw : ¬ own H b17
  rr : W.ownsRow B 2 1 (.slice ro 32 rc) 32 (nums (rL S0))
  ru : W.ownsRow B 2 1 (.slice uo 256 uc) 256 (nums (mL S0))
  fr : ∀ b, (Value.slice ro 32 rc).ownBlock = some b → ¬ own H b
  fu : ∀ b, (Value.slice uo 256 uc).ownBlock = some b → ¬ own H b
section
variable {w W W' : World} {o : O} {t : Tab} {ls : List Bn} {H H' : Hx} {S S' : PM} {q b17 B : Nat} {ro uo : Option Addr} {rc uc : Nat} {S0 : PM}
theorem Lz.next (h : Lz w W o t ls H S q b17 B ro uo rc uc S0) (g : Below W.heap.size W W') : Lz w W' o t ls H S q b17 B ro uo rc uc S0 :=
  ⟨h.m.up g, h.e, h.o1, h.hB, h.up.trans (g.mono h.up.size), h.bo.below g h.bo.lt, h.bt.below g h.bt.lt, h.bw.below g h.bw.lt, h.fw, row_up h.rr g, row_up h.ru g, h.fr, h.fu⟩
theorem Lz.go (h : Lz w W o t ls H S q b17 B ro uo rc uc S0) (m : Mch W' t ls H' S') (g : Tn W H W' H') : Lz w W' o t ls H' S' q b17 B ro uo rc uc S0 := by
  have hmb : B ≤ H.mb := h.o1 _ (.inl rfl)
  have hlt := h.m.c.lt
  have hB := h.hB
  have hz := h.up.size
  have n0 : ¬ own H w.heap.size := fun e => by have := h.o1 _ e; omega
  have n1 : ¬ own H (w.heap.size + 1) := fun e => by have := h.o1 _ e; omega
  have tf : ∀ {b : Nat}, b < W.heap.size → ¬ own H b → ¬ own H' b := fun {b} hb hn e => (g.t b e).elim hn fun e' => by omega
  exact ⟨m, g.q.trans h.e, fun b e => (g.t b e).elim (h.o1 b) fun e' => by omega, h.hB, h.up.trans (g.f.below hz fun k hk e => by have := h.o1 k e; omega), At.frb h.bo g.f n0, tab_fr h.bt g.f n1, At.frb h.bw g.f h.fw, tf h.bw.lt h.fw, row_fr h.rr g.f h.fr, row_fr h.ru g.f h.fu, fun b hb => tf (h.rr.lt b hb).2 (h.fr b hb), fun b hb => tf (h.ru.lt b hb).2 (h.fu b hb)⟩
theorem lz_make {w w7 w8 : World} {ra ma : Option Addr} {rl rcc ml mcc c' : Nat} {r : Option Addr} (hz : Bz w w7 o t ra ma rl rcc ml mcc) (hm : Mch w7 t ls (newH q r c') S) (hq : B ≤ q) (hB : w.heap.size + 2 < B) (hBz : B ≤ w7.heap.size) (k1 : w8.ownsRow w7.heap.size 2 1 (.slice ro 32 rc) 32 (nums (rL S))) (k2 : w8.ownsRow w7.heap.size 2 1 (.slice uo 256 uc) 256 (nums (mL S))) (hb : Below w7.heap.size w7 w8) :
    Lz w (w8.alloc (.cells #[.slice ro 32 rc, .slice uo 256 uc] 28)) o t ls (newH q r c') S q w8.heap.size B ro uo rc uc S := by
  have g := al_up w8 #[.slice ro 32 rc, .slice uo 256 uc] 28
  have z8 := hz.up hb
  have z9 := z8.up g
  have hlt := hm.c.lt
  have hlt' : q < w7.heap.size := hlt
  have hs := hb.size
  refine ⟨(hm.up hb).up g, rfl, fun b e => by have := own_new e; omega, hB, z9.b, z9.o, z9.t, At.new _ _ _, fun e => by have := own_new e; omega, row_le (row_up k1 g) hBz, row_le (row_up k2 g) hBz, fun b hb' e => ?_, fun b hb' e => ?_⟩
  · have := (k1.lt b hb').1
    have := own_new e
    omega
  · have := (k2.lt b hb').1
    have := own_new e
    omega
end
theorem state_q {V : World} {t : Tab} {ls : List Bn} {H : Hx} {S : PM} (q : Nat) (h : Mch V t ls H S) (hq : H.mb = q) : Calls Tryd.prog 13 #[ptr q] V (StOut V S) := by
  have := state_any h
  rw [hq] at this
  exact this
theorem flying_q {V : World} {t : Tab} {ls : List Bn} {H : Hx} {S : PM} {L : Nat} (q : Nat) (h : Mch V t ls H S) (hS : S.Ok L) (hL : L ≤ 1000000000) (hq : H.mb = q) : Calls Tryd.prog 17 #[ptr q] V (FlOut V S) := by
  have := flying_any h hS hL
  rw [hq] at this
  exact this
/-- A run of one cycle, with its outcome's error. -/
def RunE (V : World) (t : Tab) (ls : List Bn) (H : Hx) (S1 : PM) (E : Int) (e : Ending) (w' : World) : Prop :=
  ∃ po pc mo mc n1 n2 v1 s1, e = .returned (.agg #[.int .i64 E, .int .i64 v1, .slice po n1 pc, .slice mo n2 mc, .int .i64 s1]) ∧ ∃ H', Mch w' t ls H' S1 ∧ Tn V H w' H'
theorem run_e {V : World} {t : Tab} {ls : List Bn} {H : Hx} {S S1 : PM} {E : Int} {L q : Nat} (h : Mch V t ls H S) (hS : S.Ok L) (hB : Bo t ls) (hs : S.s ≤ 1000) (hL : L ≤ 1000) (hr : runM t ls 1 S = S1) (hE : S1.e = E) (hq : H.mb = q) : Calls Tryd.prog 10 #[ptr q, .int .i64 1] V (RunE V t ls H S1 E) := by
  have := run_any 1 L h hS hB (by decide) (by omega) (by omega)
  rw [hr, hq] at this
  refine Calls.mono this ?_
  rintro e w' ⟨po, pc, mo, mc, rfl, -, -, H', h1, h2, -⟩
  exact ⟨po, pc, mo, mc, _, _, _, _, by rw [hE], H', h1, h2⟩
/-- A round of the check: what State and Flying told. -/
structure Kz (w W : World) (o : O) (t : Tab) (ls : List Bn) (H : Hx) (S : PM) (q b17 B : Nat) (ro uo : Option Addr) (rc uc : Nat) (S0 : PM) (b23 : Nat) (no nu fo : Option Addr) (nc nuc : Nat) (fl : List Nat) : Prop where
  l : Lz w W o t ls H S q b17 B ro uo rc uc S0
  bn : At W b23 #[.slice no 32 nc, .slice nu 256 nuc]
  rn : W.ownsRow B 2 1 (.slice no 32 nc) 32 (nums (rL S))
  nf : NB W fo fl
theorem Kz.next {w W W' : World} {o : O} {t : Tab} {ls : List Bn} {H : Hx} {S : PM} {q b17 B : Nat} {ro uo : Option Addr} {rc uc : Nat} {S0 : PM} {b23 : Nat} {no nu fo : Option Addr} {nc nuc : Nat} {fl : List Nat} (h : Kz w W o t ls H S q b17 B ro uo rc uc S0 b23 no nu fo nc nuc fl) (g : Below W.heap.size W W') : Kz w W' o t ls H S q b17 B ro uo rc uc S0 b23 no nu fo nc nuc fl :=
  ⟨h.l.next g, h.bn.below g h.bn.lt, row_up h.rn g, h.nf.up g⟩
theorem row_some {W : World} {B : Nat} {ro : Option Addr} {rc : Nat} {xs : List Value} (h : W.ownsRow B 2 1 (.slice ro 32 rc) 32 xs) : ∃ g, ro = some ⟨g, 0, none⟩ := by
  rcases h.2 with ⟨h1, h2⟩ | ⟨g, cap, cur, h1, h2, h3⟩
  · exact absurd h2 (by decide)
  · injection h1 with h1
    exact ⟨g, h1⟩
theorem row_256 {W : World} {B : Nat} {ro : Option Addr} {rc : Nat} {xs : List Value} (h : W.ownsRow B 2 1 (.slice ro 256 rc) 256 xs) : ∃ g, ro = some ⟨g, 0, none⟩ := by
  rcases h.2 with ⟨h1, h2⟩ | ⟨g, cap, cur, h1, h2, h3⟩
  · exact absurd h2 (by decide)
  · injection h1 with h1
    exact ⟨g, h1⟩
theorem rL_at (S : PM) {i : Nat} (h : i < 32) : (nums (rL S))[i]? = some (.int .i64 (S.r i)) := by simp [nums, rL, h]
theorem mL_at (S : PM) {i : Nat} (h : i < 256) : (nums (mL S))[i]? = some (.int .i64 (S.m i)) := by simp [nums, mL, h]
/-- The list of one register is found to be that. -/
theorem regs_one {W : World} {fo : Option Addr} {c nd b : Nat} {l : List Nat} (e : l = [nd]) (h : NB W fo l) (a : At W b #[.int .u8 (nd : Int)]) : Calls Tryd.prog 16 #[.slice fo 1 c, .slice (some ⟨b, 0, none⟩) 1 1] W fun e w' => e = .returned (.bool true) ∧ Below W.heap.size W w' := by
  subst e
  exact regs_same fo (some ⟨b, 0, none⟩) c 1 [nd] W h ⟨fun _ => ⟨b, 0, rfl, a.lt, fun i hi => by
    obtain rfl : i = 0 := by simpa using hi
    exact a.c 0 _ rfl⟩⟩ (by show (1 : Nat) ≤ _; decide)
end Go.Proofs.YtldfjlepbbmhnaaDoor.Pp
