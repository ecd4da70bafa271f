/- The machine in memory: the program's and the document's; what stays of it as memory turns, and what a store makes of it. Conditions: none. -/
import Derived.Test.YtccakjijoadjkaaDoorNa
import Derived.Test.YtccakjijoadjkaaDoorSm
import Derived.Laws.EntriesVeiled
namespace Go.Proofs.YtccakjijoadjkaaDoor.Sm
open Go.ChangeShapes Go.WideShapes Go.ChangeAt Go.RowKit
open _root_.Go.Proofs.YtccakjijoadjkaaDoor.Op
set_option maxRecDepth 20000

theorem co {w : World} {q j k : Nat} {v : Value} (h : ¬ j = k) : (w.setCell ⟨q, j, none⟩ v).cell? ⟨q, k, none⟩ = w.cell? ⟨q, k, none⟩ := by
  rw [World.cell?_setCell_other]
  intro e; injection e with _ e; exact h e
theorem cs {w : World} {q j : Nat} {v u : Value} (h : w.cell? ⟨q, j, none⟩ = some u) : (w.setCell ⟨q, j, none⟩ v).cell? ⟨q, j, none⟩ = some v := World.cell?_setCell_same _ _ _ h
/-- What an operation's kind does: its two functions; what a block's end does. -/
def fnV (n : Nat) : Value := .func (.func n) #[] #[]
def valN (k : Nat) : Nat := if k = 1 then 71 else if k = 15 then 73 else if k = 16 then 74 else if k = 17 then 76 else 82
def landN (k : Nat) : Nat := if k = 16 then 75 else if k = 17 then 77 else 72
def deedF (j : Nat) : Value := if j < 2 then .nilFunc else if j % 2 = 0 then fnV (valN (j / 2)) else fnV (landN (j / 2))
/-- The program's machine at a block. -/
structure MAt (w : World) (q : Nat) (ba : Option Addr) (bl bc : Nat) (po : Option Addr) (pc : Nat) (M : Ma) : Prop where
  lt : q < w.heap.size
  fz : ∀ j : Nat, w.frozen? ⟨q, j, none⟩ = false
  bk : w.cell? ⟨q, 0, none⟩ = some (.slice ba bl bc)
  b : w.cell? ⟨q, 329, none⟩ = some (.int .i64 (M.b : Int))
  y : w.cell? ⟨q, 330, none⟩ = some (.bool M.y)
  o : w.cell? ⟨q, 331, none⟩ = some (.int .i64 (M.o : Int))
  n : w.cell? ⟨q, 332, none⟩ = some (.int .i64 M.n)
  e : w.cell? ⟨q, 333, none⟩ = some (.int .i64 M.e)
  v : w.cell? ⟨q, 334, none⟩ = some (.int .i64 M.v)
  p : w.cell? ⟨q, 335, none⟩ = some (.slice po M.pr.length pc)
  s : w.cell? ⟨q, 336, none⟩ = some (.int .i64 (M.s : Int))
  r : ∀ i : Nat, i < 32 → w.cell? ⟨q, 41 + i, none⟩ = some (.int .i64 (M.r i))
  m : ∀ i : Nat, i < 256 → w.cell? ⟨q, 73 + i, none⟩ = some (.int .i64 (M.m i))
  d : ∀ i : Nat, i < 36 → w.cell? ⟨q, 1 + i, none⟩ = some (deedF i)
  en : ∀ i : Nat, i < 4 → w.cell? ⟨q, 37 + i, none⟩ = some (fnV (78 + i))
  hi : ∀ j : Nat, 337 ≤ j → w.cell? ⟨q, j, none⟩ = none
theorem MAt.fr {w : World} {q : Nat} {ba : Option Addr} {bl bc : Nat} {po : Option Addr} {pc : Nat} {M : Ma} (h : MAt w q ba bl bc po pc M) {X : Nat → Prop} {w' : World} (g : So.Fr X w w') (hx : ¬ X q) : MAt w' q ba bl bc po pc M := by
  have c := fun o => g.cell h.lt hx o
  exact ⟨Nat.lt_of_lt_of_le h.lt g.size, fun j => (g.frozen h.lt hx j).trans (h.fz j), (c _).trans h.bk, (c _).trans h.b, (c _).trans h.y, (c _).trans h.o, (c _).trans h.n, (c _).trans h.e, (c _).trans h.v, (c _).trans h.p, (c _).trans h.s, fun i hi => (c _).trans (h.r i hi), fun i hi => (c _).trans (h.m i hi), fun i hi => (c _).trans (h.d i hi), fun i hi => (c _).trans (h.en i hi), fun j hj => (c _).trans (h.hi j hj)⟩
theorem MAt.up {w : World} {q : Nat} {ba : Option Addr} {bl bc : Nat} {po : Option Addr} {pc : Nat} {M : Ma} (h : MAt w q ba bl bc po pc M) {w' : World} (g : Below w.heap.size w w') : MAt w' q ba bl bc po pc M := h.fr (So.Fr.of (X := So.Non) g) fun hk => hk
theorem MAt.set_b {w : World} {q : Nat} {ba : Option Addr} {bl bc : Nat} {po : Option Addr} {pc : Nat} {M : Ma} (h : MAt w q ba bl bc po pc M) (k : Nat) : MAt (w.setCell ⟨q, 329, none⟩ (.int .i64 (k : Int))) q ba bl bc po pc { M with b := k } := by
  exact ⟨by rw [World.size_setCell]; exact h.lt,
    fun j => by rw [World.frozen?_setCell]; exact h.fz j,
    (co (by omega)).trans h.bk,
    cs h.b,
    (co (by omega)).trans h.y,
    (co (by omega)).trans h.o,
    (co (by omega)).trans h.n,
    (co (by omega)).trans h.e,
    (co (by omega)).trans h.v,
    (co (by omega)).trans h.p,
    (co (by omega)).trans h.s,
    fun j hj => (co (by omega)).trans (h.r j hj),
    fun j hj => (co (by omega)).trans (h.m j hj),
    fun j hj => (co (by omega)).trans (h.d j hj),
    fun j hj => (co (by omega)).trans (h.en j hj),
    fun j hj => (co (by omega)).trans (h.hi j hj)⟩
theorem MAt.set_y {w : World} {q : Nat} {ba : Option Addr} {bl bc : Nat} {po : Option Addr} {pc : Nat} {M : Ma} (h : MAt w q ba bl bc po pc M) (k : Bool) : MAt (w.setCell ⟨q, 330, none⟩ (.bool k)) q ba bl bc po pc { M with y := k } := by
  exact ⟨by rw [World.size_setCell]; exact h.lt,
    fun j => by rw [World.frozen?_setCell]; exact h.fz j,
    (co (by omega)).trans h.bk,
    (co (by omega)).trans h.b,
    cs h.y,
    (co (by omega)).trans h.o,
    (co (by omega)).trans h.n,
    (co (by omega)).trans h.e,
    (co (by omega)).trans h.v,
    (co (by omega)).trans h.p,
    (co (by omega)).trans h.s,
    fun j hj => (co (by omega)).trans (h.r j hj),
    fun j hj => (co (by omega)).trans (h.m j hj),
    fun j hj => (co (by omega)).trans (h.d j hj),
    fun j hj => (co (by omega)).trans (h.en j hj),
    fun j hj => (co (by omega)).trans (h.hi j hj)⟩
theorem MAt.set_o {w : World} {q : Nat} {ba : Option Addr} {bl bc : Nat} {po : Option Addr} {pc : Nat} {M : Ma} (h : MAt w q ba bl bc po pc M) (k : Nat) : MAt (w.setCell ⟨q, 331, none⟩ (.int .i64 (k : Int))) q ba bl bc po pc { M with o := k } := by
  exact ⟨by rw [World.size_setCell]; exact h.lt,
    fun j => by rw [World.frozen?_setCell]; exact h.fz j,
    (co (by omega)).trans h.bk,
    (co (by omega)).trans h.b,
    (co (by omega)).trans h.y,
    cs h.o,
    (co (by omega)).trans h.n,
    (co (by omega)).trans h.e,
    (co (by omega)).trans h.v,
    (co (by omega)).trans h.p,
    (co (by omega)).trans h.s,
    fun j hj => (co (by omega)).trans (h.r j hj),
    fun j hj => (co (by omega)).trans (h.m j hj),
    fun j hj => (co (by omega)).trans (h.d j hj),
    fun j hj => (co (by omega)).trans (h.en j hj),
    fun j hj => (co (by omega)).trans (h.hi j hj)⟩
theorem MAt.set_n {w : World} {q : Nat} {ba : Option Addr} {bl bc : Nat} {po : Option Addr} {pc : Nat} {M : Ma} (h : MAt w q ba bl bc po pc M) (k : Int) : MAt (w.setCell ⟨q, 332, none⟩ (.int .i64 k)) q ba bl bc po pc { M with n := k } := by
  exact ⟨by rw [World.size_setCell]; exact h.lt,
    fun j => by rw [World.frozen?_setCell]; exact h.fz j,
    (co (by omega)).trans h.bk,
    (co (by omega)).trans h.b,
    (co (by omega)).trans h.y,
    (co (by omega)).trans h.o,
    cs h.n,
    (co (by omega)).trans h.e,
    (co (by omega)).trans h.v,
    (co (by omega)).trans h.p,
    (co (by omega)).trans h.s,
    fun j hj => (co (by omega)).trans (h.r j hj),
    fun j hj => (co (by omega)).trans (h.m j hj),
    fun j hj => (co (by omega)).trans (h.d j hj),
    fun j hj => (co (by omega)).trans (h.en j hj),
    fun j hj => (co (by omega)).trans (h.hi j hj)⟩
theorem MAt.set_e {w : World} {q : Nat} {ba : Option Addr} {bl bc : Nat} {po : Option Addr} {pc : Nat} {M : Ma} (h : MAt w q ba bl bc po pc M) (k : Int) : MAt (w.setCell ⟨q, 333, none⟩ (.int .i64 k)) q ba bl bc po pc { M with e := k } := by
  exact ⟨by rw [World.size_setCell]; exact h.lt,
    fun j => by rw [World.frozen?_setCell]; exact h.fz j,
    (co (by omega)).trans h.bk,
    (co (by omega)).trans h.b,
    (co (by omega)).trans h.y,
    (co (by omega)).trans h.o,
    (co (by omega)).trans h.n,
    cs h.e,
    (co (by omega)).trans h.v,
    (co (by omega)).trans h.p,
    (co (by omega)).trans h.s,
    fun j hj => (co (by omega)).trans (h.r j hj),
    fun j hj => (co (by omega)).trans (h.m j hj),
    fun j hj => (co (by omega)).trans (h.d j hj),
    fun j hj => (co (by omega)).trans (h.en j hj),
    fun j hj => (co (by omega)).trans (h.hi j hj)⟩
theorem MAt.set_v {w : World} {q : Nat} {ba : Option Addr} {bl bc : Nat} {po : Option Addr} {pc : Nat} {M : Ma} (h : MAt w q ba bl bc po pc M) (k : Int) : MAt (w.setCell ⟨q, 334, none⟩ (.int .i64 k)) q ba bl bc po pc { M with v := k } := by
  exact ⟨by rw [World.size_setCell]; exact h.lt,
    fun j => by rw [World.frozen?_setCell]; exact h.fz j,
    (co (by omega)).trans h.bk,
    (co (by omega)).trans h.b,
    (co (by omega)).trans h.y,
    (co (by omega)).trans h.o,
    (co (by omega)).trans h.n,
    (co (by omega)).trans h.e,
    cs h.v,
    (co (by omega)).trans h.p,
    (co (by omega)).trans h.s,
    fun j hj => (co (by omega)).trans (h.r j hj),
    fun j hj => (co (by omega)).trans (h.m j hj),
    fun j hj => (co (by omega)).trans (h.d j hj),
    fun j hj => (co (by omega)).trans (h.en j hj),
    fun j hj => (co (by omega)).trans (h.hi j hj)⟩
theorem MAt.set_p {w : World} {q : Nat} {ba : Option Addr} {bl bc : Nat} {po : Option Addr} {pc : Nat} {M : Ma} (h : MAt w q ba bl bc po pc M) (po' : Option Addr) (pc' : Nat) (l : List Int) : MAt (w.setCell ⟨q, 335, none⟩ (.slice po' l.length pc')) q ba bl bc po' pc' { M with pr := l } := by
  exact ⟨by rw [World.size_setCell]; exact h.lt,
    fun j => by rw [World.frozen?_setCell]; exact h.fz j,
    (co (by omega)).trans h.bk,
    (co (by omega)).trans h.b,
    (co (by omega)).trans h.y,
    (co (by omega)).trans h.o,
    (co (by omega)).trans h.n,
    (co (by omega)).trans h.e,
    (co (by omega)).trans h.v,
    cs h.p,
    (co (by omega)).trans h.s,
    fun j hj => (co (by omega)).trans (h.r j hj),
    fun j hj => (co (by omega)).trans (h.m j hj),
    fun j hj => (co (by omega)).trans (h.d j hj),
    fun j hj => (co (by omega)).trans (h.en j hj),
    fun j hj => (co (by omega)).trans (h.hi j hj)⟩
theorem MAt.set_s {w : World} {q : Nat} {ba : Option Addr} {bl bc : Nat} {po : Option Addr} {pc : Nat} {M : Ma} (h : MAt w q ba bl bc po pc M) (k : Nat) : MAt (w.setCell ⟨q, 336, none⟩ (.int .i64 (k : Int))) q ba bl bc po pc { M with s := k } := by
  exact ⟨by rw [World.size_setCell]; exact h.lt,
    fun j => by rw [World.frozen?_setCell]; exact h.fz j,
    (co (by omega)).trans h.bk,
    (co (by omega)).trans h.b,
    (co (by omega)).trans h.y,
    (co (by omega)).trans h.o,
    (co (by omega)).trans h.n,
    (co (by omega)).trans h.e,
    (co (by omega)).trans h.v,
    (co (by omega)).trans h.p,
    cs h.s,
    fun j hj => (co (by omega)).trans (h.r j hj),
    fun j hj => (co (by omega)).trans (h.m j hj),
    fun j hj => (co (by omega)).trans (h.d j hj),
    fun j hj => (co (by omega)).trans (h.en j hj),
    fun j hj => (co (by omega)).trans (h.hi j hj)⟩
theorem MAt.set_r {w : World} {q : Nat} {ba : Option Addr} {bl bc : Nat} {po : Option Addr} {pc : Nat} {M : Ma} (h : MAt w q ba bl bc po pc M) {i : Nat} (hi : i < 32) (v : Int) : MAt (w.setCell ⟨q, 41 + i, none⟩ (.int .i64 v)) q ba bl bc po pc { M with r := upd M.r i v } := by
  exact ⟨by rw [World.size_setCell]; exact h.lt,
    fun j => by rw [World.frozen?_setCell]; exact h.fz j,
    (co (by omega)).trans h.bk,
    (co (by omega)).trans h.b,
    (co (by omega)).trans h.y,
    (co (by omega)).trans h.o,
    (co (by omega)).trans h.n,
    (co (by omega)).trans h.e,
    (co (by omega)).trans h.v,
    (co (by omega)).trans h.p,
    (co (by omega)).trans h.s,
    fun j hj => by
      by_cases e : j = i
      · subst e; rw [cs (h.r j hj)]; simp [upd]
      · rw [co (by omega), h.r j hj]; simp [upd, e],
    fun j hj => (co (by omega)).trans (h.m j hj),
    fun j hj => (co (by omega)).trans (h.d j hj),
    fun j hj => (co (by omega)).trans (h.en j hj),
    fun j hj => (co (by omega)).trans (h.hi j hj)⟩
theorem MAt.set_m {w : World} {q : Nat} {ba : Option Addr} {bl bc : Nat} {po : Option Addr} {pc : Nat} {M : Ma} (h : MAt w q ba bl bc po pc M) {i : Nat} (hi : i < 256) (v : Int) : MAt (w.setCell ⟨q, 73 + i, none⟩ (.int .i64 v)) q ba bl bc po pc { M with m := upd M.m i v } := by
  exact ⟨by rw [World.size_setCell]; exact h.lt,
    fun j => by rw [World.frozen?_setCell]; exact h.fz j,
    (co (by omega)).trans h.bk,
    (co (by omega)).trans h.b,
    (co (by omega)).trans h.y,
    (co (by omega)).trans h.o,
    (co (by omega)).trans h.n,
    (co (by omega)).trans h.e,
    (co (by omega)).trans h.v,
    (co (by omega)).trans h.p,
    (co (by omega)).trans h.s,
    fun j hj => (co (by omega)).trans (h.r j hj),
    fun j hj => by
      by_cases e : j = i
      · subst e; rw [cs (h.m j hj)]; simp [upd]
      · rw [co (by omega), h.m j hj]; simp [upd, e],
    fun j hj => (co (by omega)).trans (h.d j hj),
    fun j hj => (co (by omega)).trans (h.en j hj),
    fun j hj => (co (by omega)).trans (h.hi j hj)⟩
end Go.Proofs.YtccakjijoadjkaaDoor.Sm
