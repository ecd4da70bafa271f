/- Bundles as words and back, as plain mathematics: what is written is read as it was, what is read is written as it was. Conditions: none. -/
import Derived.Test.YtldfjlepbbmhnaaDoorWa
namespace Go.Proofs.YtldfjlepbbmhnaaDoor.Bu
open _root_.Go.Proofs.YtldfjlepbbmhnaaDoor.Op
open _root_.Go.Proofs.YtldfjlepbbmhnaaDoor.Tb (Tab)
set_option maxRecDepth 20000

theorem fld_of {o : O} (ho : o.Ok) (h : okO o = true) : Fld o := by
  unfold okO at h
  split at h
  · rename_i k hk
    obtain ⟨n, hn, e, -⟩ := kOf_some hk
    simp only [okF, Bool.and_eq_true, rH, iH] at h
    obtain ⟨⟨⟨h1, h2⟩, h3⟩, h4⟩ := h
    have d0 := ho.d0
    have a0 := ho.a0
    have b0 := ho.b0
    have q : ∀ (r : Int) (c : Bool), (if c = true then decide (r < 32) else r == 0) = true → r < 32 := fun r c hq => by
      cases c
      · have : r = 0 := by simpa using hq
        omega
      · simpa using hq
    refine ⟨by omega, by omega, d0, q _ _ h1, a0, q _ _ h2, b0, q _ _ h3, ?_, ?_⟩
    · cases hI : k.I
      · rw [hI] at h4
        have : o.im = 0 := by simpa using h4
        omega
      · rw [hI] at h4
        have : -2147483648 ≤ o.im ∧ o.im ≤ 2147483647 := by simpa using h4
        exact this.1
    · cases hI : k.I
      · rw [hI] at h4
        have : o.im = 0 := by simpa using h4
        omega
      · rw [hI] at h4
        have : -2147483648 ≤ o.im ∧ o.im ≤ 2147483647 := by simpa using h4
        exact this.2
  · cases h
theorem isB_fld {c : Int} {o : O} (ho : o.Ok) (h : isB c o = true) : Fld o := by
  simp only [isB, Bool.and_eq_true] at h
  exact fld_of ho h.2
/-- The words without the 0s at their end. -/
def stN (v : Nat → Int) : Nat → Nat
  | 0 => 0
  | n + 1 => if v n = 0 then stN v n else n + 1
theorem stN_le (v : Nat → Int) : ∀ n, stN v n ≤ n
  | 0 => Nat.le_refl _
  | n + 1 => by
    unfold stN
    split
    · exact Nat.le_succ_of_le (stN_le v n)
    · exact Nat.le_refl _
def okW (c x : Int) : Bool := decide (x < 9007199254740992) && isB c (opW x)
def rdB (c : Int) (v : Nat → Int) (m : Nat) : Bool := (List.range m).all fun j => okW c (v j)
def rdL (v : Nat → Int) (m : Nat) : List O := (List.range m).map fun j => opW (v j)
def wsL (n : Nat) (xs : List O) : List Int := xs.map wdO ++ List.replicate (n - xs.length) 0
theorem rdL_len (v : Nat → Int) (m : Nat) : (rdL v m).length = m := by simp [rdL]
theorem rdL_ok (v : Nat → Int) (m : Nat) : ∀ o ∈ rdL v m, o.Ok := by
  intro o ho
  obtain ⟨j, -, rfl⟩ := List.mem_map.1 ho
  exact opW_ok _
theorem rdL_next (v : Nat → Int) (m : Nat) : rdL v (m + 1) = rdL v m ++ [opW (v m)] := by simp [rdL, List.range_succ]
theorem rdB_next (c : Int) (v : Nat → Int) (m : Nat) : rdB c v (m + 1) = (rdB c v m && okW c (v m)) := by simp [rdB, List.range_succ]
theorem rdB_iff {c : Int} {v : Nat → Int} {m : Nat} : rdB c v m = true ↔ ∀ j, j < m → okW c (v j) = true := by
  unfold rdB
  rw [List.all_eq_true]
  exact ⟨fun h j hj => h j (List.mem_range.2 hj), fun h j hj => h j (List.mem_range.1 hj)⟩
theorem rdB_no {c : Int} {v : Nat → Int} {m k : Nat} (hk : k < m) (h : okW c (v k) = false) : rdB c v m = false := by
  cases hb : rdB c v m
  · rfl
  · rw [rdB_iff.1 hb k hk] at h; cases h
theorem wsL_len {n : Nat} {xs : List O} (h : xs.length ≤ n) : (wsL n xs).length = n := by simp [wsL]; omega
theorem cls_all {c : Int} {v : Nat → Int} {m : Nat} (hb : rdB c v m = true) : (rdL v m).all (isB c) = true := by
  rw [List.all_eq_true]
  intro o ho
  obtain ⟨j, hj, rfl⟩ := List.mem_map.1 ho
  have := rdB_iff.1 hb j (List.mem_range.1 hj)
  simp only [okW, Bool.and_eq_true] at this
  exact this.2

/-- A bundle: a list of operations for each class. -/
structure Bn where
  l : Nat → List O
def Bn.Ok (x : Bn) : Prop := ∀ k, k < 4 → ∀ o ∈ x.l k, o.Ok
def U (t : Tab) (k : Nat) : Nat := (t.u k).toNat
def ofs (t : Tab) : Nat → Nat
  | 0 => 0
  | k + 1 => ofs t k + U t k
def wBk (t : Tab) (x : Bn) : Nat → List Int
  | 0 => []
  | k + 1 => wBk t x k ++ wsL (U t k) (x.l k)
def clsB (t : Tab) (x : Bn) (k : Nat) : Bool := decide ((x.l k).length ≤ U t k) && (x.l k).all (isB k)
def wfK (t : Tab) (x : Bn) : Nat → Bool
  | 0 => true
  | k + 1 => wfK t x k && clsB t x k
def wfB (t : Tab) (x : Bn) : Bool := wfK t x 4
theorem wfK_iff {t : Tab} {x : Bn} : ∀ {n : Nat}, wfK t x n = true ↔ ∀ k, k < n → clsB t x k = true
  | 0 => ⟨fun _ k hk => absurd hk (by omega), fun _ => rfl⟩
  | n + 1 => by
    unfold wfK
    rw [Bool.and_eq_true, wfK_iff (n := n)]
    refine ⟨fun h k hk => ?_, fun h => ⟨fun k hk => h k (by omega), h n (by omega)⟩⟩
    by_cases e : k = n
    · rw [e]; exact h.2
    · exact h.1 k (by omega)
theorem wfK_no {t : Tab} {x : Bn} {k n : Nat} (hk : k < n) (h : clsB t x k = false) : wfK t x n = false := by
  cases hw : wfK t x n
  · rfl
  · rw [wfK_iff.1 hw k hk] at h; cases h
theorem clsB_parts {t : Tab} {x : Bn} {k : Nat} (h : clsB t x k = true) : (x.l k).length ≤ U t k ∧ (x.l k).all (isB k) = true := by
  unfold clsB at h
  rw [Bool.and_eq_true, decide_eq_true_eq] at h
  exact h
theorem wBk_len {t : Tab} {x : Bn} : ∀ {n : Nat}, wfK t x n = true → (wBk t x n).length = ofs t n
  | 0, _ => rfl
  | n + 1, h => by
    have h' := wfK_iff.1 h
    unfold wBk ofs
    rw [List.length_append, wBk_len (wfK_iff.2 fun k hk => h' k (by omega)), wsL_len (clsB_parts (h' n (by omega))).1]
theorem ofs_mono {t : Tab} {k : Nat} : ∀ {n : Nat}, k < n → ofs t k + U t k ≤ ofs t n
  | 0, h => absurd h (by omega)
  | n + 1, h => by
    by_cases e : k = n
    · subst e; exact Nat.le_refl _
    · have := ofs_mono (t := t) (k := k) (n := n) (by omega)
      show _ ≤ ofs t n + U t n
      omega
/-- The bundle that words are read as. -/
def cv (t : Tab) (v : Nat → Int) (k : Nat) : Nat → Int := fun j => v (ofs t k + j)
def bdK (t : Tab) (v : Nat → Int) : Nat → Bool
  | 0 => true
  | k + 1 => bdK t v k && rdB k (cv t v k) (stN (cv t v k) (U t k))
def bdX (t : Tab) (v : Nat → Int) : Bn := ⟨fun k => rdL (cv t v k) (stN (cv t v k) (U t k))⟩
theorem bdK_iff {t : Tab} {v : Nat → Int} : ∀ {n : Nat}, bdK t v n = true ↔ ∀ k, k < n → rdB k (cv t v k) (stN (cv t v k) (U t k)) = true
  | 0 => ⟨fun _ k hk => absurd hk (by omega), fun _ => rfl⟩
  | n + 1 => by
    unfold bdK
    rw [Bool.and_eq_true, bdK_iff (n := n)]
    refine ⟨fun h k hk => ?_, fun h => ⟨fun k hk => h k (by omega), h n (by omega)⟩⟩
    by_cases e : k = n
    · rw [e]; exact h.2
    · exact h.1 k (by omega)
theorem bdK_no {t : Tab} {v : Nat → Int} {k n : Nat} (hk : k < n) (h : rdB k (cv t v k) (stN (cv t v k) (U t k)) = false) : bdK t v n = false := by
  cases hw : bdK t v n
  · rfl
  · rw [bdK_iff.1 hw k hk] at h; cases h
def encW (t : Tab) (ls : List Bn) : List Int := ls.flatMap fun x => wBk t x 4
theorem encW_next (t : Tab) (ls : List Bn) (x : Bn) : encW t (ls ++ [x]) = encW t ls ++ wBk t x 4 := by simp [encW]
def allW (t : Tab) (ls : List Bn) : Bool := ls.all (wfB t)
theorem encW_len {t : Tab} : ∀ {ls : List Bn}, allW t ls = true → (encW t ls).length = ls.length * ofs t 4
  | [], _ => by simp [encW]
  | x :: ls, h => by
    simp only [allW, List.all_cons, Bool.and_eq_true] at h
    have := encW_len (t := t) (ls := ls) h.2
    show (wBk t x 4 ++ encW t ls).length = _
    rw [List.length_append, this, wBk_len h.1, List.length_cons, Nat.succ_mul, Nat.add_comm]
/-- The bundles that words are read as. -/
def sv (t : Tab) (v : Nat → Int) (i : Nat) : Nat → Int := fun j => v (i * ofs t 4 + j)
def deB (t : Tab) (v : Nat → Int) (n : Nat) : Bool := (List.range n).all fun i => bdK t (sv t v i) 4
def deL (t : Tab) (v : Nat → Int) (n : Nat) : List Bn := (List.range n).map fun i => bdX t (sv t v i)
theorem deL_len (t : Tab) (v : Nat → Int) (n : Nat) : (deL t v n).length = n := by simp [deL]
theorem deB_iff {t : Tab} {v : Nat → Int} {n : Nat} : deB t v n = true ↔ ∀ i, i < n → bdK t (sv t v i) 4 = true := by
  unfold deB
  rw [List.all_eq_true]
  exact ⟨fun h i hi => h i (List.mem_range.2 hi), fun h i hi => h i (List.mem_range.1 hi)⟩
theorem deB_no {t : Tab} {v : Nat → Int} {n k : Nat} (hk : k < n) (h : bdK t (sv t v k) 4 = false) : deB t v n = false := by
  cases hw : deB t v n
  · rfl
  · rw [deB_iff.1 hw k hk] at h; cases h
end Go.Proofs.YtldfjlepbbmhnaaDoor.Bu
