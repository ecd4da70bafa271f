/- Plain mathematics of a table's text: blanks, words, lines; no program in it. Conditions: none. -/
namespace Go.Proofs.YtgabnjiapkkjaaaGreatDoor.Tb

def blankB (b : UInt8) : Bool := b == 32 || b == 9
/-- A word under way that ends here. -/
def flush (p : Nat) (cur : List UInt8) : List (Nat × List UInt8) := if cur = [] then [] else [(p - cur.length, cur)]
/-- The words of a piece of text: 'p': the place of its first byte; 'cur': the word under way. -/
def wordsS : List UInt8 → Nat → List UInt8 → List (Nat × List UInt8)
  | [], p, cur => flush p cur
  | b :: r, p, cur => if blankB b then flush p cur ++ wordsS r (p + 1) [] else wordsS r (p + 1) (cur ++ [b])

theorem wordsS_step (s : List UInt8) (k p : Nat) (cur : List UInt8) (hk : k < s.length) (hb : blankB s[k] = false) :
    wordsS (s.drop k) p cur = wordsS (s.drop (k + 1)) (p + 1) (cur ++ [s[k]]) := by
  rw [List.drop_eq_getElem_cons hk]
  simp [wordsS, hb]
theorem wordsS_blank (s : List UInt8) (k p : Nat) (cur : List UInt8) (hk : k < s.length) (hb : blankB s[k] = true) :
    wordsS (s.drop k) p cur = flush p cur ++ wordsS (s.drop (k + 1)) (p + 1) [] := by
  rw [List.drop_eq_getElem_cons hk]
  simp [wordsS, hb]
theorem wordsS_end (s : List UInt8) (k p : Nat) (cur : List UInt8) (hk : s.length ≤ k) :
    wordsS (s.drop k) p cur = flush p cur := by
  rw [List.drop_eq_nil_of_le hk]; rfl
theorem flush_nil (p : Nat) : flush p [] = [] := rfl
def cutL (s : List UInt8) (a b : Nat) : List UInt8 := (s.drop a).take (b - a)
theorem cutL_len (s : List UInt8) (a b : Nat) (hb : b ≤ s.length) : (cutL s a b).length = b - a := by
  simp [cutL]; omega
theorem cutL_same (s : List UInt8) (a : Nat) : cutL s a a = [] := by simp [cutL]
theorem cutL_snoc (s : List UInt8) (a b : Nat) (hab : a ≤ b) (hb : b < s.length) : cutL s a (b + 1) = cutL s a b ++ [s[b]] := by
  unfold cutL
  rw [show b + 1 - a = (b - a) + 1 from by omega, List.take_succ_eq_append_getElem (by simp; omega)]
  simp [show a + (b - a) = b from by omega]
theorem flush_cut (s : List UInt8) (a b p : Nat) (hab : a < b) (hb : b ≤ s.length) : flush (p + b) (cutL s a b) = [(p + a, cutL s a b)] := by
  have hl := cutL_len s a b hb
  have : cutL s a b ≠ [] := by intro h; rw [h] at hl; simp at hl; omega
  simp [flush, this, hl]; omega

/-- A text, cut at its bytes 10. -/
def splitN0 : List UInt8 → List (List UInt8)
  | [] => [[]]
  | b :: r => if b = 10 then [] :: splitN0 r else
    match splitN0 r with
    | [] => [[b]]
    | x :: xs => (b :: x) :: xs
theorem splitN0_no : ∀ (s : List UInt8), (∀ b ∈ s, b ≠ 10) → splitN0 s = [s]
  | [], _ => rfl
  | b :: r, h => by
    have h1 := splitN0_no r (fun x hx => h x (List.mem_cons_of_mem _ hx))
    have h2 : b ≠ 10 := h b (List.mem_cons_self ..)
    simp [splitN0, h1, h2]
theorem splitN0_cut : ∀ (a r : List UInt8), (∀ b ∈ a, b ≠ 10) → splitN0 (a ++ 10 :: r) = a :: splitN0 r
  | [], r, _ => by simp [splitN0]
  | b :: a, r, h => by
    have h1 := splitN0_cut a r (fun x hx => h x (List.mem_cons_of_mem _ hx))
    have h2 : b ≠ 10 := h b (List.mem_cons_self ..)
    simp [splitN0, h1, h2]
def tot (ps : List (List UInt8)) : Nat := (ps.map fun p => p.length + 1).sum
theorem tot_cons (p : List UInt8) (ps : List (List UInt8)) : tot (p :: ps) = p.length + 1 + tot ps := by simp [tot]
theorem tot_split : ∀ s : List UInt8, tot (splitN0 s) = s.length + 1
  | [] => by simp [splitN0, tot]
  | b :: r => by
    have h := tot_split r
    by_cases hb : b = 10
    · simp [splitN0, hb, tot_cons, h]; omega
    · simp only [splitN0, hb, if_false]
      cases hr : splitN0 r with
      | nil => rw [hr] at h; simp [tot] at h
      | cons x xs => rw [hr, tot_cons] at h; simp [tot_cons]; omega
/-- A line without its remark. -/
def said (l : List UInt8) : List UInt8 := l.takeWhile fun b => b != 35
/-- The lines of a text, piece by piece: of each its words and where it ends. -/
def linesL : List (List UInt8) → Nat → List (List (Nat × List UInt8) × Nat)
  | [], _ => []
  | x :: r, p => (wordsS (said x) p [], p + (said x).length) :: linesL r (p + (x.length + 1))
theorem linesL_len : ∀ (ps : List (List UInt8)) (p : Nat), (linesL ps p).length = ps.length
  | [], _ => rfl
  | x :: r, p => by simp [linesL, linesL_len r]
theorem linesL_step (ps : List (List UInt8)) (j p : Nat) (hj : j < ps.length) : linesL (ps.drop j) p = (wordsS (said ps[j]) p [], p + (said ps[j]).length) :: linesL (ps.drop (j + 1)) (p + (ps[j].length + 1)) := by
  rw [List.drop_eq_getElem_cons hj]; rfl
theorem tot_step (ps : List (List UInt8)) (j : Nat) (hj : j < ps.length) : tot (ps.drop j) = ps[j].length + 1 + tot (ps.drop (j + 1)) := by
  rw [List.drop_eq_getElem_cons hj, tot_cons]
theorem said_len (l : List UInt8) : (said l).length ≤ l.length := List.Sublist.length_le (List.takeWhile_sublist _)

def digB (b : UInt8) : Bool := decide (48 ≤ b.toNat) && decide (b.toNat ≤ 57)
/-- Digits, the first of which is 0 only if it is alone. -/
def isNumB (l : List UInt8) : Bool := l.all digB && (l == [48] || !([48].isPrefixOf l))
def decA (a : Nat) (l : List UInt8) : Nat := l.foldl (fun a c => a * 10 + (c.toNat - 48)) a
def decV (l : List UInt8) : Nat := decA 0 l
theorem decA_ge : ∀ (l : List UInt8) (a : Nat), a ≤ decA a l
  | [], a => Nat.le_refl _
  | c :: r, a => by
    have h := decA_ge r (a * 10 + (c.toNat - 48))
    simp only [decA, List.foldl_cons] at h ⊢
    omega

end Go.Proofs.YtgabnjiapkkjaaaGreatDoor.Tb
