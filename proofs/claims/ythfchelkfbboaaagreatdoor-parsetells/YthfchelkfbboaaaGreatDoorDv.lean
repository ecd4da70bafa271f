/- Blocks and programs as the code's reader and as the document's take them: plain mathematics. Conditions: none. -/
import Derived.Test.YthfchelkfbboaaaGreatDoorDt
namespace Go.Proofs.YthfchelkfbboaaaGreatDoor.Pr
open _root_.Go.Proofs.YthfchelkfbboaaaGreatDoor.Op

theorem bind_congr {α β : Type} {x : R α} {f g : α → R β} (h : ∀ a, x = .ok a → f a = g a) : x.bind f = x.bind g := by
  cases x with
  | no e => rfl
  | ok a => exact h a rfl
/-- The line that comes, if its first word is this one. -/
def lnR (s : List UInt8) (ls : List Ln) (nx m : Nat) : R Ln := match ls[nx]? with
  | none => .no (m, [])
  | some l => match l.ws with
    | [] => .no (l.en, [])
    | x :: _ => if x.2 = s then .ok l else .no x
theorem first_ln (s : List UInt8) (ls : List Ln) (nx m : Nat) : firstR s ls nx m = (lnR s ls nx m).bind fun _ => .ok () := by
  unfold firstR lnR
  cases ls[nx]? with
  | none => rfl
  | some l =>
    obtain ⟨ws, en⟩ := l
    cases ws with
    | nil => rfl
    | cons x r => simp only; split <;> rfl
theorem ln_some {s : List UInt8} {ls : List Ln} {nx m : Nat} {l : Ln} (h : lnR s ls nx m = .ok l) : ls[nx]? = some l ∧ nx < ls.length := by
  unfold lnR at h
  cases hl : ls[nx]? with
  | none => rw [hl] at h; cases h
  | some l' =>
    rw [hl] at h
    obtain ⟨ws, en⟩ := l'
    cases ws with
    | nil => cases h
    | cons x r =>
      simp only at h
      split at h
      · cases h; exact ⟨rfl, (List.getElem?_eq_some_iff.1 hl).1⟩
      · cases h
/-- A word that must be this one. -/
def isR (s : List UInt8) (x : Wd') : R Unit := if x.2 = s then .ok () else .no x
theorem exact_at (s : List UInt8) (l : Ln) (i : Nat) : exactR s ⟨l.ws.drop i, l.en⟩ = (wordR l i).bind fun x => (isR s x).bind fun _ => .ok ⟨l.ws.drop (i + 1), l.en⟩ := by
  unfold exactR
  rw [take_at]
  cases wordR l i with
  | no f => rfl
  | ok x => simp only [R.bind, isR]; split <;> rfl
theorem exact_ln (s : List UInt8) (ls : List Ln) (nx m : Nat) : exactR s (nextL m (ls.drop nx)) = (lnR s ls nx m).bind fun l => .ok ⟨l.ws.drop 1, l.en⟩ := by
  unfold lnR
  rcases Nat.lt_or_ge nx ls.length with h | h
  · rw [List.getElem?_eq_getElem h, List.drop_eq_getElem_cons h]
    show exactR s ls[nx] = _
    unfold exactR takeR
    generalize ls[nx] = l
    obtain ⟨ws, en⟩ := l
    cases ws with
    | nil => rfl
    | cons x r => simp only [R.bind]; split <;> rfl
  · rw [List.getElem?_eq_none h, List.drop_eq_nil_of_le h]; rfl
/-- A block's first line. -/
def headD (n : Nat) (ls : List Ln) (nx m : Nat) : R Unit := (lnR [98, 108, 111, 99, 107] ls nx m).bind fun l => (wordR l 1).bind fun x => (isR (Lib.decDigits n ++ [58]) x).bind fun _ => endsR l 2
theorem head_same (n : Nat) (ls : List Ln) (nx m : Nat) : headR n (nextL m (ls.drop nx)) = headD n ls nx m := by
  unfold headR headD
  rw [exact_ln, bind_assoc]
  refine bind_congr fun l _ => ?_
  rw [R.bind_ok, exact_at, bind_assoc]
  refine bind_congr fun x _ => ?_
  rw [bind_assoc]
  refine bind_congr fun u _ => ?_
  rw [R.bind_ok]
  exact close_at l 2
/-- A loop's lines. -/
def loopD (l : Ln) (ls : List Ln) (nx m : Nat) : R (Int × List O × Int × Nat) :=
  (regAt l 1).bind fun a => (wordR l 2).bind fun x => (isR [123] x).bind fun _ => (endsR l 3).bind fun _ => (opsD (ls.drop nx) nx).bind fun y => (lnR [125] ls y.2 m).bind fun l2 => (endsR l2 1).bind fun _ =>
  (lnR [106, 117, 109, 112] ls (y.2 + 1) m).bind fun l3 => (numAt l3 1).bind fun t => (endsR l3 2).bind fun _ => .ok (a, y.1, t, y.2 + 2)
theorem drop_at (ls : List Ln) {nx k : Nat} (h : nx ≤ k) : (ls.drop nx).drop (k - nx) = ls.drop k := by rw [List.drop_drop]; congr 1; omega
theorem loop_same (os : List O) (l : Ln) (ls : List Ln) (nx m : Nat) : ((regR ⟨l.ws.drop 1, l.en⟩).bind fun a => (exactR [123] a.2).bind fun b => (closeR b).bind fun _ => (bodyR m (ls.drop nx)).bind fun y =>
    (exactR [106, 117, 109, 112] (nextL m y.2)).bind fun c => (numR c).bind fun t => (closeR t.2).bind fun _ => (.ok (⟨os, 3, a.1, y.1, t.1, 0⟩, y.2.tail) : R (Bk × List Ln))) = (loopD l ls nx m).bind fun z => .ok (⟨os, 3, z.1, z.2.1, z.2.2.1, 0⟩, ls.drop z.2.2.2) := by
  unfold loopD bodyR
  rw [reg_N, regAt_N]
  simp only [bind_assoc, R.bind_ok]
  refine bind_congr fun a _ => ?_
  rw [exact_at]
  simp only [bind_assoc, R.bind_ok]
  refine bind_congr fun x _ => bind_congr fun u _ => ?_
  rw [close_at]
  refine bind_congr fun u _ => ?_
  rw [(ops_same m (ls.drop nx) nx).1]
  simp only [bind_assoc, R.bind_ok]
  refine bind_congr fun y hy => ?_
  obtain ⟨h1, _⟩ := (ops_same m (ls.drop nx) nx).2 y hy
  rw [drop_at ls h1, exact_ln]
  simp only [bind_assoc, R.bind_ok]
  refine bind_congr fun l2 _ => ?_
  rw [close_at]
  refine bind_congr fun u _ => ?_
  rw [List.tail_drop, exact_ln]
  simp only [bind_assoc, R.bind_ok]
  refine bind_congr fun l3 _ => ?_
  rw [num_at]
  simp only [bind_assoc, R.bind_ok]
  refine bind_congr fun t _ => ?_
  rw [close_at]
  refine bind_congr fun u _ => ?_
  rw [List.tail_drop]
/-- How a block ends, by its last line's first word. -/
def endW (os : List O) (ls : List Ln) (nx m : Nat) (l : Ln) (x : Wd') : R (Bk × Nat) :=
  if x.2 = [106, 117, 109, 112] then (numAt l 1).bind fun t => (endsR l 2).bind fun _ => .ok (⟨os, 0, 0, [], t, 0⟩, nx + 1)
  else if x.2 = [98, 114, 97, 110, 99, 104] then (regAt l 1).bind fun a => (numAt l 2).bind fun t => (numAt l 3).bind fun e => (endsR l 4).bind fun _ => .ok (⟨os, 1, a, [], t, e⟩, nx + 1)
  else if x.2 = [104, 97, 108, 116] then (regAt l 1).bind fun a => (endsR l 2).bind fun _ => .ok (⟨os, 2, a, [], 0, 0⟩, nx + 1)
  else if x.2 = [108, 111, 111, 112] then (loopD l ls (nx + 1) m).bind fun z => .ok (⟨os, 3, z.1, z.2.1, z.2.2.1, 0⟩, z.2.2.2)
  else .no x
/-- How a block ends. -/
def endD (os : List O) (ls : List Ln) (nx m : Nat) : R (Bk × Nat) := match ls[nx]? with
  | none => .no (m, [])
  | some l => match l.ws with
    | [] => .no (l.en, [])
    | x :: _ => endW os ls nx m l x
theorem endD_nil {os : List O} {ls : List Ln} {nx m : Nat} {l : Ln} (h : ls[nx]? = some l) (hw : l.ws = []) : endD os ls nx m = .no (l.en, []) := by
  unfold endD; rw [h]; simp only [hw]
theorem endD_cons {os : List O} {ls : List Ln} {nx m : Nat} {l : Ln} {x : Wd'} {r : List Wd'} (h : ls[nx]? = some l) (hw : l.ws = x :: r) : endD os ls nx m = endW os ls nx m l x := by
  unfold endD; rw [h]; simp only [hw]
theorem end_same (os : List O) (ls : List Ln) (nx m : Nat) : endR m os (nextL m (ls.drop nx)) (ls.drop nx).tail = (endD os ls nx m).bind fun z => .ok (z.1, ls.drop z.2) := by
  rcases Nat.lt_or_ge nx ls.length with h | h
  · have hl := List.getElem?_eq_getElem h
    rw [List.tail_drop, show nextL m (ls.drop nx) = ls[nx] by rw [List.drop_eq_getElem_cons h]; rfl]
    generalize ls[nx] = l at *
    have hk : ∀ x r, l.ws = x :: r → takeR l = .ok (x, ⟨l.ws.drop 1, l.en⟩) := fun x r e => by unfold takeR; rw [e]; rfl
    cases hw : l.ws with
    | nil => rw [endD_nil hl hw]; unfold endR takeR; rw [hw]; rfl
    | cons x r =>
      rw [endD_cons hl hw]
      unfold endR endW
      rw [hk x r hw, R.bind_ok]
      simp only
      by_cases h1 : x.2 = [106, 117, 109, 112]
      · rw [if_pos h1, if_pos h1, num_at]
        simp only [bind_assoc, R.bind_ok, close_at]
      · rw [if_neg h1, if_neg h1]
        by_cases h2 : x.2 = [98, 114, 97, 110, 99, 104]
        · rw [if_pos h2, if_pos h2, reg_N, regAt_N]
          simp only [bind_assoc, R.bind_ok, close_at, num_at]
        · rw [if_neg h2, if_neg h2]
          by_cases h3 : x.2 = [104, 97, 108, 116]
          · rw [if_pos h3, if_pos h3, reg_N, regAt_N]
            simp only [bind_assoc, R.bind_ok, close_at]
          · rw [if_neg h3, if_neg h3]
            by_cases h4 : x.2 = [108, 111, 111, 112]
            · rw [if_pos h4, if_pos h4, loop_same, bind_assoc]
              rfl
            · rw [if_neg h4, if_neg h4]; rfl
  · unfold endD
    rw [List.getElem?_eq_none h, List.drop_eq_nil_of_le h]; rfl
/-- A block. -/
def blockD (n : Nat) (ls : List Ln) (nx m : Nat) : R (Bk × Nat) := (headD n ls nx m).bind fun _ => (opsD (ls.drop (nx + 1)) (nx + 1)).bind fun y => endD y.1 ls y.2 m
theorem block_same (n : Nat) (ls : List Ln) (nx m : Nat) : ((headR n (nextL m (ls.drop nx))).bind fun _ => blockR m (ls.drop nx).tail) = (blockD n ls nx m).bind fun z => .ok (z.1, ls.drop z.2) := by
  unfold blockD blockR
  rw [head_same, bind_assoc]
  refine bind_congr fun u _ => ?_
  rw [List.tail_drop, (ops_same m (ls.drop (nx + 1)) (nx + 1)).1]
  simp only [bind_assoc, R.bind_ok]
  refine bind_congr fun y hy => ?_
  obtain ⟨h1, _⟩ := (ops_same m (ls.drop (nx + 1)) (nx + 1)).2 y hy
  rw [drop_at ls h1]
  exact end_same y.1 ls y.2 m
theorem loop_to {l : Ln} {ls : List Ln} {nx m : Nat} {z : Int × List O × Int × Nat} (h : loopD l ls nx m = .ok z) : nx ≤ z.2.2.2 ∧ z.2.2.2 ≤ ls.length := by
  unfold loopD at h
  obtain ⟨_, _, h⟩ := bind_is h
  obtain ⟨_, _, h⟩ := bind_is h
  obtain ⟨_, _, h⟩ := bind_is h
  obtain ⟨_, _, h⟩ := bind_is h
  obtain ⟨y, hy, h⟩ := bind_is h
  obtain ⟨_, _, h⟩ := bind_is h
  obtain ⟨_, _, h⟩ := bind_is h
  obtain ⟨l3, h3, h⟩ := bind_is h
  obtain ⟨_, _, h⟩ := bind_is h
  obtain ⟨_, _, h⟩ := bind_is h
  obtain ⟨h1, _⟩ := (ops_same m (ls.drop nx) nx).2 y hy
  have h4 := (ln_some h3).2
  cases h
  simp only
  omega
theorem end_to {os : List O} {ls : List Ln} {nx m : Nat} {z : Bk × Nat} (h : endD os ls nx m = .ok z) : nx < z.2 ∧ z.2 ≤ ls.length := by
  unfold endD at h
  cases hl : ls[nx]? with
  | none => rw [hl] at h; cases h
  | some l =>
    have hn := (List.getElem?_eq_some_iff.1 hl).1
    rw [hl] at h
    simp only at h
    split at h
    · cases h
    · unfold endW at h
      split at h
      · obtain ⟨_, _, h⟩ := bind_is h
        obtain ⟨_, _, h⟩ := bind_is h
        cases h; exact ⟨Nat.lt_succ_self _, hn⟩
      · split at h
        · obtain ⟨_, _, h⟩ := bind_is h
          obtain ⟨_, _, h⟩ := bind_is h
          obtain ⟨_, _, h⟩ := bind_is h
          obtain ⟨_, _, h⟩ := bind_is h
          cases h; exact ⟨Nat.lt_succ_self _, hn⟩
        · split at h
          · obtain ⟨_, _, h⟩ := bind_is h
            obtain ⟨_, _, h⟩ := bind_is h
            cases h; exact ⟨Nat.lt_succ_self _, hn⟩
          · split at h
            · obtain ⟨y, hy, h⟩ := bind_is h
              have := loop_to hy
              cases h; simp only; omega
            · cases h
theorem block_to {n : Nat} {ls : List Ln} {nx m : Nat} {z : Bk × Nat} (h : blockD n ls nx m = .ok z) : nx < z.2 ∧ z.2 ≤ ls.length := by
  unfold blockD at h
  obtain ⟨_, _, h⟩ := bind_is h
  obtain ⟨y, hy, h⟩ := bind_is h
  have h1 := ((ops_same m (ls.drop (nx + 1)) (nx + 1)).2 y hy).1
  have := end_to h
  omega
/-- The blocks that are left. -/
def restP (m k n : Nat) (t : List Ln) : R (List Bk) := match t with
  | [] => .ok []
  | l :: r => progR m k n (l :: r)
theorem rest_step (m k n : Nat) (ls : List Ln) (nx : Nat) (h : nx < ls.length) : restP m (k + 1) n (ls.drop nx) = (blockD n ls nx m).bind fun z => (restP m k (n + 1) (ls.drop z.2)).bind fun y => .ok (z.1 :: y) := by
  have e : restP m (k + 1) n (ls.drop nx) = ((headR n (nextL m (ls.drop nx))).bind fun _ => blockR m (ls.drop nx).tail).bind fun x => (restP m k (n + 1) x.2).bind fun y => .ok (x.1 :: y) := by
    rw [List.drop_eq_getElem_cons h]
    show progR m (k + 1) n _ = _
    rw [progR, bind_assoc]
    refine bind_congr fun u _ => bind_congr fun x _ => ?_
    obtain ⟨x1, x2⟩ := x
    cases x2 with
    | nil => rfl
    | cons l r => rfl
  rw [e, block_same, bind_assoc]
  rfl
/-- What stands behind some blocks. -/
def Bep (RES : R (List Bk)) (ls : List Ln) (m nx : Nat) (fl : Option Wd') (acc : List Bk) : Prop := match fl with
  | some f => RES = .no f
  | none => ∃ k, ls.length - nx < k ∧ RES = (restP m k acc.length (ls.drop nx)).bind fun y => .ok (acc ++ y)
theorem bep_next {RES : R (List Bk)} {ls : List Ln} {m nx n' : Nat} {acc : List Bk} {b : Bk} (h : Bep RES ls m nx none acc) (hn : nx < ls.length) (hb : ∀ z, blockD acc.length ls nx m = .ok z → b = z.1 ∧ n' = z.2) : Bep RES ls m n' (stF (blockD acc.length ls nx m)) (acc ++ [b]) := by
  obtain ⟨k, hk, h⟩ := h
  obtain ⟨k, rfl⟩ : ∃ j, k = j + 1 := ⟨k - 1, by omega⟩
  rw [rest_step _ _ _ _ _ hn] at h
  cases hB : blockD acc.length ls nx m with
  | no f => rw [hB] at h; exact h
  | ok z =>
    obtain ⟨rfl, rfl⟩ := hb z hB
    have ht := block_to hB
    rw [hB] at h
    refine ⟨k, by omega, ?_⟩
    rw [h]
    simp only [R.bind_ok, bind_assoc, List.length_append, List.length_singleton]
    refine bind_congr fun y _ => ?_
    simp
theorem bep_end {RES : R (List Bk)} {ls : List Ln} {m nx : Nat} {acc : List Bk} (h : Bep RES ls m nx none acc) (hn : ls.length ≤ nx) : RES = .ok acc := by
  obtain ⟨k, _, h⟩ := h
  rw [h, List.drop_eq_nil_of_le hn]
  show R.ok (acc ++ []) = _
  rw [List.append_nil]
theorem bep_start (m : Nat) (ls : List Ln) : Bep (progR m (ls.length + 1) 0 ls) ls m 0 (stF (haveR ls.length 0 m)) [] := by
  unfold haveR
  cases ls with
  | nil => rfl
  | cons l r =>
    rw [if_pos (by simp)]
    refine ⟨(l :: r).length + 1, by omega, ?_⟩
    show _ = (progR m _ 0 (l :: r)).bind _
    cases progR m ((l :: r).length + 1) 0 (l :: r) <;> rfl
end Go.Proofs.YthfchelkfbboaaaGreatDoor.Pr
