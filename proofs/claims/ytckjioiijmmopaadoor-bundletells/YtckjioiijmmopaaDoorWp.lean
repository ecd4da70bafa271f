/- Bundles as words and back, as plain mathematics: what is written is read as it was, what is read is written as it was. Conditions: none. -/
import Derived.Test.YtckjioiijmmopaaDoorWa
namespace Go.Proofs.YtckjioiijmmopaaDoor.Bu
open _root_.Go.Proofs.YtckjioiijmmopaaDoor.Op
open _root_.Go.Proofs.YtckjioiijmmopaaDoor.Tb (Tab)
set_option maxRecDepth 20000

theorem fld_of {o : O} (ho : o.Ok) (h : okO o = true) : Fld o := by
  unfold okO at h
  split at h
  · rename_i k hk
    obtain ⟨n, hn, e, -⟩ := kOf_some hk
    simp only [okF, Bool.and_eq_true, rH, iH] at h
    obtain ⟨⟨⟨h1, h2⟩, h3⟩, h4⟩ := h
    have d0 := ho.d0
    have a0 := ho.a0
    have b0 := ho.b0
    have q : ∀ (r : Int) (c : Bool), (if c = true then decide (r < 32) else r == 0) = true → r < 32 := fun r c hq => by
      cases c
      · have : r = 0 := by simpa using hq
        omega
      · simpa using hq
    refine ⟨by omega, by omega, d0, q _ _ h1, a0, q _ _ h2, b0, q _ _ h3, ?_, ?_⟩
    · cases hI : k.I
      · rw [hI] at h4
        have : o.im = 0 := by simpa using h4
        omega
      · rw [hI] at h4
        have : -2147483648 ≤ o.im ∧ o.im ≤ 2147483647 := by simpa using h4
        exact this.1
    · cases hI : k.I
      · rw [hI] at h4
        have : o.im = 0 := by simpa using h4
        omega
      · rw [hI] at h4
        have : -2147483648 ≤ o.im ∧ o.im ≤ 2147483647 := by simpa using h4
        exact this.2
  · cases h
theorem isB_fld {c : Int} {o : O} (ho : o.Ok) (h : isB c o = true) : Fld o := by
  simp only [isB, Bool.and_eq_true] at h
  exact fld_of ho h.2
theorem isB_pos {c : Int} {o : O} (ho : o.Ok) (h : isB c o = true) : wdO o ≠ 0 := by
  obtain ⟨p0, p1, d0, d1, a0, a1, b0, b1, i0, i1⟩ := isB_fld ho h
  simp only [isB, Bool.and_eq_true] at h
  have hne : o.op ≠ 0 := by
    intro e
    have := h.1.1
    rw [e] at this
    exact absurd this (by decide)
  unfold wdO
  omega

/-- The words without the 0s at their end. -/
def stN (v : Nat → Int) : Nat → Nat
  | 0 => 0
  | n + 1 => if v n = 0 then stN v n else n + 1
theorem stN_le (v : Nat → Int) : ∀ n, stN v n ≤ n
  | 0 => Nat.le_refl _
  | n + 1 => by
    unfold stN
    split
    · exact Nat.le_succ_of_le (stN_le v n)
    · exact Nat.le_refl _
theorem stN_zero (v : Nat → Int) : ∀ n j, stN v n ≤ j → j < n → v j = 0
  | 0, _, _, h => absurd h (by omega)
  | n + 1, j, h1, h2 => by
    unfold stN at h1
    split at h1
    · rename_i h0
      by_cases e : j = n
      · rw [e]; exact h0
      · exact stN_zero v n j h1 (by omega)
    · omega
theorem stN_is (v : Nat → Int) (m : Nat) (hm : ∀ j, j < m → v j ≠ 0) : ∀ n, m ≤ n → (∀ j, m ≤ j → j < n → v j = 0) → stN v n = m
  | 0, h, _ => by unfold stN; omega
  | n + 1, h, hz => by
    unfold stN
    by_cases e : m = n + 1
    · rw [if_neg (hm n (by omega))]; exact e.symm
    · rw [if_pos (hz n (by omega) (by omega))]
      exact stN_is v m hm n (by omega) fun j h1 h2 => hz j h1 (by omega)
theorem stN_same {v v' : Nat → Int} : ∀ n, (∀ j, j < n → v j = v' j) → stN v n = stN v' n
  | 0, _ => rfl
  | n + 1, h => by
    unfold stN
    rw [h n (by omega), stN_same n fun j hj => h j (by omega)]

def okW (c x : Int) : Bool := decide (x < 9007199254740992) && isB c (opW x)
def rdB (c : Int) (v : Nat → Int) (m : Nat) : Bool := (List.range m).all fun j => okW c (v j)
def rdL (v : Nat → Int) (m : Nat) : List O := (List.range m).map fun j => opW (v j)
def wsL (n : Nat) (xs : List O) : List Int := xs.map wdO ++ List.replicate (n - xs.length) 0
theorem rdL_len (v : Nat → Int) (m : Nat) : (rdL v m).length = m := by simp [rdL]
theorem rdL_ok (v : Nat → Int) (m : Nat) : ∀ o ∈ rdL v m, o.Ok := by
  intro o ho
  obtain ⟨j, -, rfl⟩ := List.mem_map.1 ho
  exact opW_ok _
theorem rdL_next (v : Nat → Int) (m : Nat) : rdL v (m + 1) = rdL v m ++ [opW (v m)] := by simp [rdL, List.range_succ]
theorem rdB_next (c : Int) (v : Nat → Int) (m : Nat) : rdB c v (m + 1) = (rdB c v m && okW c (v m)) := by simp [rdB, List.range_succ]
theorem rdB_iff {c : Int} {v : Nat → Int} {m : Nat} : rdB c v m = true ↔ ∀ j, j < m → okW c (v j) = true := by
  unfold rdB
  rw [List.all_eq_true]
  exact ⟨fun h j hj => h j (List.mem_range.2 hj), fun h j hj => h j (List.mem_range.1 hj)⟩
theorem rdB_no {c : Int} {v : Nat → Int} {m k : Nat} (hk : k < m) (h : okW c (v k) = false) : rdB c v m = false := by
  cases hb : rdB c v m
  · rfl
  · rw [rdB_iff.1 hb k hk] at h; cases h
theorem rdL_same {v v' : Nat → Int} {m : Nat} (h : ∀ j, j < m → v j = v' j) : rdL v m = rdL v' m := by
  unfold rdL
  exact List.map_congr_left fun j hj => by rw [h j (List.mem_range.1 hj)]
theorem rdB_same {c : Int} {v v' : Nat → Int} {m : Nat} (h : ∀ j, j < m → v j = v' j) : rdB c v m = rdB c v' m := by
  rw [Bool.eq_iff_iff, rdB_iff, rdB_iff]
  exact ⟨fun g j hj => by rw [← h j hj]; exact g j hj, fun g j hj => by rw [h j hj]; exact g j hj⟩
theorem wsL_len {n : Nat} {xs : List O} (h : xs.length ≤ n) : (wsL n xs).length = n := by simp [wsL]; omega
theorem wsL_at {n : Nat} {xs : List O} {j : Nat} (h : j < xs.length) : (wsL n xs).getD j 0 = wdO xs[j] := by
  unfold wsL
  rw [List.getD_eq_getElem?_getD, List.getElem?_append_left (by simpa using h)]
  simp [h]
theorem wsL_zero {n : Nat} {xs : List O} {j : Nat} (h : xs.length ≤ j) : (wsL n xs).getD j 0 = 0 := by
  unfold wsL
  rw [List.getD_eq_getElem?_getD, List.getElem?_append_right (by simpa using h), List.getElem?_replicate]
  split <;> rfl

theorem okW_of {c : Int} {o : O} (ho : o.Ok) (h : isB c o = true) : okW c (wdO o) = true := by
  have hf := isB_fld ho h
  unfold okW
  rw [hf.back, h, decide_eq_true hf.hi]; rfl
/-- What is written of one class is read as it was. -/
theorem cls_back {c : Int} {n : Nat} {xs : List O} {v : Nat → Int} (hok : ∀ o ∈ xs, o.Ok) (hb : xs.all (isB c) = true) (hl : xs.length ≤ n) (hv : ∀ j, j < n → v j = (wsL n xs).getD j 0) :
    stN v n = xs.length ∧ rdB c v xs.length = true ∧ rdL v xs.length = xs := by
  rw [List.all_eq_true] at hb
  refine ⟨stN_is v _ (fun j hj => ?_) n hl fun j h1 h2 => ?_, rdB_iff.2 fun j hj => ?_, ?_⟩
  · rw [hv j (by omega), wsL_at hj]
    exact isB_pos (hok _ (List.getElem_mem hj)) (hb _ (List.getElem_mem hj))
  · rw [hv j h2, wsL_zero h1]
  · rw [hv j (by omega), wsL_at hj]
    exact okW_of (hok _ (List.getElem_mem hj)) (hb _ (List.getElem_mem hj))
  · apply List.ext_getElem
    · rw [rdL_len]
    · intro j h1 h2
      simp only [rdL, List.getElem_map, List.getElem_range]
      rw [hv j (by omega), wsL_at h2]
      exact (isB_fld (hok _ (List.getElem_mem h2)) (hb _ (List.getElem_mem h2))).back
theorem getD_at (l : List Int) (j : Nat) (h : j < l.length) : l[j] = l.getD j 0 := by simp [List.getD_eq_getElem?_getD, h]
/-- What is read of one class is written as it was. -/
theorem cls_just {c : Int} {n : Nat} {v : Nat → Int} (h0 : ∀ j, j < n → 0 ≤ v j) (hb : rdB c v (stN v n) = true) :
    wsL n (rdL v (stN v n)) = (List.range n).map v := by
  have hle := stN_le v n
  apply List.ext_getElem
  · rw [wsL_len (by rw [rdL_len]; exact hle)]; simp
  · intro j h1 h2
    have hj : j < n := by simpa using h2
    rw [getD_at _ _ h1]
    simp only [List.getElem_map, List.getElem_range]
    by_cases hlt : j < stN v n
    · rw [wsL_at (by rw [rdL_len]; exact hlt)]
      simp only [rdL, List.getElem_map, List.getElem_range]
      have := rdB_iff.1 hb j hlt
      simp only [okW, Bool.and_eq_true, decide_eq_true_eq] at this
      exact wd_op (h0 j hj) this.1
    · rw [wsL_zero (by rw [rdL_len]; omega), stN_zero v n j (by omega) hj]
theorem cls_all {c : Int} {v : Nat → Int} {m : Nat} (hb : rdB c v m = true) : (rdL v m).all (isB c) = true := by
  rw [List.all_eq_true]
  intro o ho
  obtain ⟨j, hj, rfl⟩ := List.mem_map.1 ho
  have := rdB_iff.1 hb j (List.mem_range.1 hj)
  simp only [okW, Bool.and_eq_true] at this
  exact this.2

/-- A bundle: a list of operations for each class. -/
structure Bn where
  l : Nat → List O
def Bn.Ok (x : Bn) : Prop := ∀ k, k < 4 → ∀ o ∈ x.l k, o.Ok
def U (t : Tab) (k : Nat) : Nat := (t.u k).toNat
def ofs (t : Tab) : Nat → Nat
  | 0 => 0
  | k + 1 => ofs t k + U t k
def wBk (t : Tab) (x : Bn) : Nat → List Int
  | 0 => []
  | k + 1 => wBk t x k ++ wsL (U t k) (x.l k)
def clsB (t : Tab) (x : Bn) (k : Nat) : Bool := decide ((x.l k).length ≤ U t k) && (x.l k).all (isB k)
def wfK (t : Tab) (x : Bn) : Nat → Bool
  | 0 => true
  | k + 1 => wfK t x k && clsB t x k
def wfB (t : Tab) (x : Bn) : Bool := wfK t x 4
theorem wfK_iff {t : Tab} {x : Bn} : ∀ {n : Nat}, wfK t x n = true ↔ ∀ k, k < n → clsB t x k = true
  | 0 => ⟨fun _ k hk => absurd hk (by omega), fun _ => rfl⟩
  | n + 1 => by
    unfold wfK
    rw [Bool.and_eq_true, wfK_iff (n := n)]
    refine ⟨fun h k hk => ?_, fun h => ⟨fun k hk => h k (by omega), h n (by omega)⟩⟩
    by_cases e : k = n
    · rw [e]; exact h.2
    · exact h.1 k (by omega)
theorem wfK_no {t : Tab} {x : Bn} {k n : Nat} (hk : k < n) (h : clsB t x k = false) : wfK t x n = false := by
  cases hw : wfK t x n
  · rfl
  · rw [wfK_iff.1 hw k hk] at h; cases h
theorem clsB_parts {t : Tab} {x : Bn} {k : Nat} (h : clsB t x k = true) : (x.l k).length ≤ U t k ∧ (x.l k).all (isB k) = true := by
  unfold clsB at h
  rw [Bool.and_eq_true, decide_eq_true_eq] at h
  exact h
theorem wBk_len {t : Tab} {x : Bn} : ∀ {n : Nat}, wfK t x n = true → (wBk t x n).length = ofs t n
  | 0, _ => rfl
  | n + 1, h => by
    have h' := wfK_iff.1 h
    unfold wBk ofs
    rw [List.length_append, wBk_len (wfK_iff.2 fun k hk => h' k (by omega)), wsL_len (clsB_parts (h' n (by omega))).1]
theorem ofs_mono {t : Tab} {k : Nat} : ∀ {n : Nat}, k < n → ofs t k + U t k ≤ ofs t n
  | 0, h => absurd h (by omega)
  | n + 1, h => by
    by_cases e : k = n
    · subst e; exact Nat.le_refl _
    · have := ofs_mono (t := t) (k := k) (n := n) (by omega)
      show _ ≤ ofs t n + U t n
      omega
theorem wBk_at {t : Tab} {x : Bn} {k j : Nat} (hj : j < U t k) : ∀ {n : Nat}, wfK t x n = true → k < n → (wBk t x n).getD (ofs t k + j) 0 = (wsL (U t k) (x.l k)).getD j 0
  | 0, _, h => absurd h (by omega)
  | n + 1, hw, h => by
    have h' := wfK_iff.1 hw
    have hw' : wfK t x n = true := wfK_iff.2 fun k hk => h' k (by omega)
    have hl := wBk_len hw'
    show (wBk t x n ++ wsL (U t n) (x.l n)).getD _ 0 = _
    by_cases e : k = n
    · subst e
      rw [List.getD_eq_getElem?_getD, List.getElem?_append_right (by omega), hl, List.getD_eq_getElem?_getD]
      congr 2
      omega
    · have := ofs_mono (t := t) (k := k) (n := n) (by omega)
      rw [List.getD_eq_getElem?_getD, List.getElem?_append_left (by omega), ← List.getD_eq_getElem?_getD]
      exact wBk_at hj hw' (by omega)

/-- The bundle that words are read as. -/
def cv (t : Tab) (v : Nat → Int) (k : Nat) : Nat → Int := fun j => v (ofs t k + j)
def bdK (t : Tab) (v : Nat → Int) : Nat → Bool
  | 0 => true
  | k + 1 => bdK t v k && rdB k (cv t v k) (stN (cv t v k) (U t k))
def bdX (t : Tab) (v : Nat → Int) : Bn := ⟨fun k => rdL (cv t v k) (stN (cv t v k) (U t k))⟩
theorem bdK_iff {t : Tab} {v : Nat → Int} : ∀ {n : Nat}, bdK t v n = true ↔ ∀ k, k < n → rdB k (cv t v k) (stN (cv t v k) (U t k)) = true
  | 0 => ⟨fun _ k hk => absurd hk (by omega), fun _ => rfl⟩
  | n + 1 => by
    unfold bdK
    rw [Bool.and_eq_true, bdK_iff (n := n)]
    refine ⟨fun h k hk => ?_, fun h => ⟨fun k hk => h k (by omega), h n (by omega)⟩⟩
    by_cases e : k = n
    · rw [e]; exact h.2
    · exact h.1 k (by omega)
theorem bdK_no {t : Tab} {v : Nat → Int} {k n : Nat} (hk : k < n) (h : rdB k (cv t v k) (stN (cv t v k) (U t k)) = false) : bdK t v n = false := by
  cases hw : bdK t v n
  · rfl
  · rw [bdK_iff.1 hw k hk] at h; cases h
theorem bdX_ok (t : Tab) (v : Nat → Int) : (bdX t v).Ok := fun _ _ => rdL_ok _ _
theorem bd_wf {t : Tab} {v : Nat → Int} {n : Nat} (h : bdK t v n = true) : wfK t (bdX t v) n = true := wfK_iff.2 fun k hk => by
  unfold clsB
  rw [Bool.and_eq_true]
  refine ⟨decide_eq_true ?_, cls_all (bdK_iff.1 h k hk)⟩
  show (rdL _ _).length ≤ _
  rw [rdL_len]
  exact stN_le _ _
theorem range_map_add (v : Nat → Int) (a b : Nat) : (List.range (a + b)).map v = (List.range a).map v ++ (List.range b).map fun j => v (a + j) := by
  rw [List.range_add]; simp
theorem bd_just {t : Tab} {v : Nat → Int} : ∀ {n : Nat}, bdK t v n = true → (∀ j, j < ofs t n → 0 ≤ v j) → wBk t (bdX t v) n = (List.range (ofs t n)).map v
  | 0, _, _ => rfl
  | n + 1, h, h0 => by
    have h' := bdK_iff.1 h
    have e : ofs t (n + 1) = ofs t n + U t n := rfl
    rw [e, range_map_add, ← bd_just (n := n) (bdK_iff.2 fun k hk => h' k (by omega)) fun j hj => h0 j (by omega)]
    show _ ++ wsL _ _ = _
    rw [← cls_just (c := n) (fun j hj => h0 _ (by omega)) (h' n (by omega))]
    rfl
theorem bd_back {t : Tab} {x : Bn} {v : Nat → Int} (hok : x.Ok) (hw : wfB t x = true) (hv : ∀ j, j < ofs t 4 → v j = (wBk t x 4).getD j 0) :
    bdK t v 4 = true ∧ ∀ k, k < 4 → (bdX t v).l k = x.l k := by
  have h' := wfK_iff.1 hw
  have key : ∀ k, k < 4 → stN (cv t v k) (U t k) = (x.l k).length ∧ rdB k (cv t v k) (x.l k).length = true ∧ rdL (cv t v k) (x.l k).length = x.l k := fun k hk => by
    obtain ⟨h1, h2⟩ := clsB_parts (h' k hk)
    refine cls_back (hok k hk) h2 h1 fun j hj => ?_
    have := ofs_mono (t := t) hk
    show v (ofs t k + j) = _
    rw [hv _ (by omega), wBk_at hj hw hk]
  refine ⟨bdK_iff.2 fun k hk => ?_, fun k hk => ?_⟩
  · obtain ⟨e1, e2, -⟩ := key k hk
    rw [e1]; exact e2
  · obtain ⟨e1, -, e3⟩ := key k hk
    show rdL _ (stN _ _) = _
    rw [e1, e3]

def encW (t : Tab) (ls : List Bn) : List Int := ls.flatMap fun x => wBk t x 4
theorem encW_next (t : Tab) (ls : List Bn) (x : Bn) : encW t (ls ++ [x]) = encW t ls ++ wBk t x 4 := by simp [encW]
def allW (t : Tab) (ls : List Bn) : Bool := ls.all (wfB t)
theorem encW_len {t : Tab} : ∀ {ls : List Bn}, allW t ls = true → (encW t ls).length = ls.length * ofs t 4
  | [], _ => by simp [encW]
  | x :: ls, h => by
    simp only [allW, List.all_cons, Bool.and_eq_true] at h
    have := encW_len (t := t) (ls := ls) h.2
    show (wBk t x 4 ++ encW t ls).length = _
    rw [List.length_append, this, wBk_len h.1, List.length_cons, Nat.succ_mul, Nat.add_comm]
theorem encW_at {t : Tab} : ∀ {ls : List Bn} {i j : Nat} (_ : allW t ls = true) (hi : i < ls.length) (_ : j < ofs t 4), (encW t ls).getD (i * ofs t 4 + j) 0 = (wBk t ls[i] 4).getD j 0
  | [], _, _, _, hi, _ => absurd hi (by simp)
  | x :: ls, i, j, h, hi, hj => by
    simp only [allW, List.all_cons, Bool.and_eq_true] at h
    have hl := wBk_len h.1
    show (wBk t x 4 ++ encW t ls).getD _ 0 = _
    match i, hi with
    | 0, _ =>
      rw [List.getD_eq_getElem?_getD, List.getElem?_append_left (by omega), ← List.getD_eq_getElem?_getD]
      simp
    | i + 1, hi =>
      have e : (i + 1) * ofs t 4 + j = ofs t 4 + (i * ofs t 4 + j) := by rw [Nat.succ_mul]; omega
      rw [e, List.getD_eq_getElem?_getD, List.getElem?_append_right (by omega), hl, Nat.add_sub_cancel_left, ← List.getD_eq_getElem?_getD]
      exact encW_at (ls := ls) h.2 (by simpa using hi) hj

/-- The bundles that words are read as. -/
def sv (t : Tab) (v : Nat → Int) (i : Nat) : Nat → Int := fun j => v (i * ofs t 4 + j)
def deB (t : Tab) (v : Nat → Int) (n : Nat) : Bool := (List.range n).all fun i => bdK t (sv t v i) 4
def deL (t : Tab) (v : Nat → Int) (n : Nat) : List Bn := (List.range n).map fun i => bdX t (sv t v i)
theorem deL_len (t : Tab) (v : Nat → Int) (n : Nat) : (deL t v n).length = n := by simp [deL]
theorem deL_next (t : Tab) (v : Nat → Int) (n : Nat) : deL t v (n + 1) = deL t v n ++ [bdX t (sv t v n)] := by simp [deL, List.range_succ]
theorem deB_iff {t : Tab} {v : Nat → Int} {n : Nat} : deB t v n = true ↔ ∀ i, i < n → bdK t (sv t v i) 4 = true := by
  unfold deB
  rw [List.all_eq_true]
  exact ⟨fun h i hi => h i (List.mem_range.2 hi), fun h i hi => h i (List.mem_range.1 hi)⟩
theorem deB_no {t : Tab} {v : Nat → Int} {n k : Nat} (hk : k < n) (h : bdK t (sv t v k) 4 = false) : deB t v n = false := by
  cases hw : deB t v n
  · rfl
  · rw [deB_iff.1 hw k hk] at h; cases h
theorem de_wf {t : Tab} {v : Nat → Int} {n : Nat} (h : deB t v n = true) : allW t (deL t v n) = true := by
  unfold allW
  rw [List.all_eq_true]
  intro x hx
  obtain ⟨i, hi, rfl⟩ := List.mem_map.1 hx
  exact bd_wf (deB_iff.1 h i (List.mem_range.1 hi))
theorem de_ok (t : Tab) (v : Nat → Int) (n : Nat) : ∀ x ∈ deL t v n, x.Ok := by
  intro x hx
  obtain ⟨i, -, rfl⟩ := List.mem_map.1 hx
  exact bdX_ok _ _
theorem de_just {t : Tab} {v : Nat → Int} : ∀ {n : Nat}, deB t v n = true → (∀ j, j < n * ofs t 4 → 0 ≤ v j) → encW t (deL t v n) = (List.range (n * ofs t 4)).map v
  | 0, _, _ => by simp [deL, encW]
  | n + 1, h, h0 => by
    have h' := deB_iff.1 h
    rw [deL_next, encW_next, Nat.succ_mul, range_map_add, de_just (n := n) (deB_iff.2 fun i hi => h' i (by omega)) fun j hj => h0 j (by rw [Nat.succ_mul]; omega), bd_just (h' n (by omega)) fun j hj => h0 _ (by rw [Nat.succ_mul]; omega)]
    rfl
/-- Bundles that are the same, class by class. -/
def sameL (a b : List Bn) : Prop := a.length = b.length ∧ ∀ i (h : i < a.length) (h' : i < b.length) k, k < 4 → a[i].l k = b[i].l k
theorem de_back {t : Tab} {ls : List Bn} {v : Nat → Int} (hok : ∀ x ∈ ls, x.Ok) (hw : allW t ls = true) (hv : ∀ j, j < ls.length * ofs t 4 → v j = (encW t ls).getD j 0) :
    deB t v ls.length = true ∧ sameL (deL t v ls.length) ls := by
  have key : ∀ i (h : i < ls.length), bdK t (sv t v i) 4 = true ∧ ∀ k, k < 4 → (bdX t (sv t v i)).l k = ls[i].l k := fun i hi => by
    refine bd_back (hok _ (List.getElem_mem hi)) ((List.all_eq_true.1 hw) _ (List.getElem_mem hi)) fun j hj => ?_
    have : (i + 1) * ofs t 4 ≤ ls.length * ofs t 4 := Nat.mul_le_mul_right _ hi
    rw [Nat.succ_mul] at this
    show v (i * ofs t 4 + j) = _
    rw [hv _ (by omega), encW_at hw hi hj]
  refine ⟨deB_iff.2 fun i hi => (key i hi).1, deL_len _ _ _, fun i h h' k hk => ?_⟩
  simp only [deL, List.getElem_map, List.getElem_range]
  exact (key i h').2 k hk
theorem wBk_same {t : Tab} {x y : Bn} : ∀ {n : Nat}, (∀ k, k < n → x.l k = y.l k) → wBk t x n = wBk t y n
  | 0, _ => rfl
  | n + 1, h => by
    unfold wBk
    rw [wBk_same (n := n) fun k hk => h k (by omega), h n (by omega)]
theorem encW_same {t : Tab} : ∀ {a b : List Bn}, sameL a b → encW t a = encW t b
  | [], [], _ => rfl
  | [], _ :: _, h => by have := h.1; simp at this
  | _ :: _, [], h => by have := h.1; simp at this
  | x :: a, y :: b, h => by
    show wBk t x 4 ++ encW t a = wBk t y 4 ++ encW t b
    rw [wBk_same (fun k hk => h.2 0 (by simp) (by simp) k hk), encW_same (a := a) (b := b) ⟨by have := h.1; simpa using this, fun i h1 h2 k hk => h.2 (i + 1) (by simpa using h1) (by simpa using h2) k hk⟩]
end Go.Proofs.YtckjioiijmmopaaDoor.Bu
