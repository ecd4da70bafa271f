/- What the lines of a program's text say: plain mathematics of the reader, no program in it. Conditions: none. -/
import Derived.Test.YthjpddjfckdefaaGreatDoorMa
import Derived.Test.YthjpddjfckdefaaGreatDoorPm
import Derived.Lib.ItoaNum
import Derived.Lib.ParseIntB
namespace Go.Proofs.YthjpddjfckdefaaGreatDoor.Pr
open _root_.Go.Proofs.YthjpddjfckdefaaGreatDoor.Op

/-- A word and its place; a fault is one, too. -/
abbrev Wd' := Nat × List UInt8
/-- What is read, or the first fault. -/
inductive R (α : Type) where
  | ok (v : α)
  | no (f : Wd')
def R.bind {α β : Type} (r : R α) (f : α → R β) : R β := match r with | .ok v => f v | .no e => .no e
theorem R.bind_ok {α β : Type} (v : α) (f : α → R β) : (R.ok v).bind f = f v := rfl
theorem R.bind_no {α β : Type} (e : Wd') (f : α → R β) : (R.no e : R α).bind f = .no e := rfl

/-- The next word. -/
def takeR (l : Ln) : R (Wd' × Ln) := match l.ws with | [] => .no (l.en, []) | x :: r => .ok (x, ⟨r, l.en⟩)
/-- No word more. -/
def closeR (l : Ln) : R Unit := match l.ws with | [] => .ok () | x :: _ => .no x
def exactR (s : List UInt8) (l : Ln) : R Ln := (takeR l).bind fun x => if x.1.2 = s then .ok x.2 else .no x.1
/-- A number within 32 bits, as it is written. -/
def numV (s : List UInt8) : Option Int := match Lib.parseIntB 32 s with | .ok n => if Lib.itoa n = s then some n else none | _ => none
/-- A register, as it is written. -/
def regV (s : List UInt8) : Option Nat := match Lib.parseUintB 8 (if [114].isPrefixOf s then s.drop 1 else s) with | .ok n => if n < 32 ∧ 114 :: Lib.decDigits n = s then some n else none | _ => none
def numR (l : Ln) : R (Int × Ln) := (takeR l).bind fun x => match numV x.1.2 with | some n => .ok (n, x.2) | none => .no x.1
def regR (l : Ln) : R (Nat × Ln) := (takeR l).bind fun x => match regV x.1.2 with | some n => .ok (n, x.2) | none => .no x.1

/-- The operations of a program: name, kind, fields. -/
def shapeL : List (List UInt8 × Nat × Nat) :=
  [([99, 111, 110, 115, 116], 1, 9), ([97, 100, 100], 2, 7), ([115, 117, 98], 3, 7), ([97, 110, 100], 4, 7), ([111, 114], 5, 7), ([120, 111, 114], 6, 7),
   ([115, 104, 108], 7, 7), ([115, 104, 114], 8, 7), ([108, 101, 115, 115], 9, 7), ([101, 113, 117, 97, 108], 10, 7), ([109, 111, 118, 101], 11, 3),
   ([116, 105, 109, 101, 115], 12, 7), ([100, 105, 118, 105, 100, 101], 13, 7), ([114, 101, 115, 116], 14, 7), ([108, 111, 97, 100], 15, 11), ([115, 116, 111, 114, 101], 16, 14), ([112, 114, 105, 110, 116], 17, 2)]
def shapeOf (s : List UInt8) : Option (Nat × Nat) := (shapeL.find? fun x => x.1 == s).map (·.2)
/-- Does a shape tell a field? -/
def tells (f b : Nat) : Bool := f / b % 2 == 1
/-- The words behind a name. -/
def regIf (c : Bool) (l : Ln) : R (Nat × Ln) := if c then regR l else .ok (0, l)
def numIf (c : Bool) (l : Ln) : R (Int × Ln) := if c then numR l else .ok (0, l)
def readR (d f : Nat) (l : Ln) : R O :=
  (regIf (tells f 1) l).bind fun x => (regIf (tells f 2) x.2).bind fun y => (regIf (tells f 4) y.2).bind fun z => (numIf (tells f 8) z.2).bind fun v =>
  (closeR v.2).bind fun _ => .ok ⟨d, x.1, y.1, z.1, v.1⟩
def firstL (l : Ln) : List UInt8 := match l.ws with | [] => [] | x :: _ => x.2
/-- The line behind the lines that are operations; at the text's end an empty one. 'm': the text's size. -/
def opsR (m : Nat) : List Ln → R (List O × Ln × List Ln)
  | [] => .ok ([], ⟨[], m⟩, [])
  | l :: ls => match shapeOf (firstL l) with
    | none => .ok ([], l, ls)
    | some sh => (readR sh.1 sh.2 ⟨l.ws.tail, l.en⟩).bind fun o => (opsR m ls).bind fun x => .ok (o :: x.1, x.2.1, x.2.2)
/-- The line that comes. -/
def nextL (m : Nat) (ls : List Ln) : Ln := match ls with | [] => ⟨[], m⟩ | l :: _ => l
def bodyR (m : Nat) (ls : List Ln) : R (List O × List Ln) :=
  (opsR m ls).bind fun x => (exactR [125] x.2.1).bind fun l => (closeR l).bind fun _ => .ok (x.1, x.2.2)
/-- How a block ends. -/
def endR (m : Nat) (os : List O) (l : Ln) (ls : List Ln) : R (Bk × List Ln) :=
  (takeR l).bind fun x =>
  if x.1.2 = [106, 117, 109, 112] then (numR x.2).bind fun t => (closeR t.2).bind fun _ => .ok (⟨os, 0, 0, [], t.1, 0⟩, ls)
  else if x.1.2 = [98, 114, 97, 110, 99, 104] then (regR x.2).bind fun a => (numR a.2).bind fun t => (numR t.2).bind fun e => (closeR e.2).bind fun _ => .ok (⟨os, 1, a.1, [], t.1, e.1⟩, ls)
  else if x.1.2 = [104, 97, 108, 116] then (regR x.2).bind fun a => (closeR a.2).bind fun _ => .ok (⟨os, 2, a.1, [], 0, 0⟩, ls)
  else if x.1.2 = [108, 111, 111, 112] then (regR x.2).bind fun a => (exactR [123] a.2).bind fun b => (closeR b).bind fun _ => (bodyR m ls).bind fun y =>
    (exactR [106, 117, 109, 112] (nextL m y.2)).bind fun c => (numR c).bind fun t => (closeR t.2).bind fun _ => .ok (⟨os, 3, a.1, y.1, t.1, 0⟩, y.2.tail)
  else .no x.1
def blockR (m : Nat) (ls : List Ln) : R (Bk × List Ln) := (opsR m ls).bind fun x => endR m x.1 x.2.1 x.2.2
def headR (n : Nat) (l : Ln) : R Unit := (exactR [98, 108, 111, 99, 107] l).bind fun a => (exactR (Lib.decDigits n ++ [58]) a).bind fun b => closeR b
/-- The blocks from one on, at the line that comes. -/
def progR (m : Nat) : Nat → Nat → List Ln → R (List Bk)
  | 0, _, _ => .ok []
  | k + 1, n, ls => (headR n (nextL m ls)).bind fun _ => (blockR m ls.tail).bind fun x =>
    match x.2 with
    | [] => .ok [x.1]
    | l :: r => (progR m k (n + 1) (l :: r)).bind fun y => .ok (x.1 :: y)
/-- What a text says. -/
def readT (s : List UInt8) : R (List Bk) := progR s.length ((linesS s 0 []).length + 1) 0 (linesS s 0 [])

theorem opsR_le (m : Nat) : ∀ (ls : List Ln) os l r, opsR m ls = .ok (os, l, r) → r.length ≤ ls.length ∧ os.length ≤ ls.length ∧ (ls ≠ [] → l.ws = [] ∨ r.length < ls.length)
  | [], os, l, r, h => by
    simp only [opsR, R.ok.injEq, Prod.mk.injEq] at h
    obtain ⟨rfl, rfl, rfl⟩ := h; simp
  | x :: ls, os, l, r, h => by
    unfold opsR at h
    cases hs : shapeOf (firstL x) with
    | none =>
      rw [hs] at h
      simp only [R.ok.injEq, Prod.mk.injEq] at h
      obtain ⟨rfl, rfl, rfl⟩ := h; simp
    | some sh =>
      rw [hs] at h
      simp only at h
      cases ho : readR sh.1 sh.2 ⟨x.ws.tail, x.en⟩ with
      | no e => rw [ho] at h; cases h
      | ok o =>
        rw [ho] at h
        simp only [R.bind] at h
        cases hr : opsR m ls with
        | no e => rw [hr] at h; cases h
        | ok y =>
          obtain ⟨a, b, c⟩ := y
          rw [hr] at h
          simp only [R.ok.injEq, Prod.mk.injEq] at h
          obtain ⟨rfl, rfl, rfl⟩ := h
          have := opsR_le m ls _ _ _ hr
          simp; omega
end Go.Proofs.YthjpddjfckdefaaGreatDoor.Pr
