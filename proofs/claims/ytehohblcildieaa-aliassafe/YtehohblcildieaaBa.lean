/- Rows of cells that are touched, in memory, and what is said of them. Conditions: none. -/
import Derived.Test.YtehohblcildieaaAi
import Derived.Test.YtehohblcildieaaAj
import Derived.Deep.AppendLies
import Derived.OwnWalk
namespace Go.Proofs.Ytehohblcildieaa.Al
open Go.ChangeShapes Go.WideShapes Go.ChangeAt Go.RowKit
open _root_.Go.Proofs.Ytehohblcildieaa.Op _root_.Go.Proofs.Ytehohblcildieaa.So
set_option maxRecDepth 20000

theorem info3 : (Try.prog.info? 3).map (fun i => (i.zero, i.size, i.bytes)) = some (some (.int .i64 0), 1, 8) := by kernel_rfl
theorem info35 : (Try.prog.info? 35).map (fun i => (i.zero, i.size, i.bytes)) = some (some (.slice none 0 0), 1, 24) := by kernel_rfl
/-- Numbers as cells. -/
def nums (l : List Int) : List Value := l.map fun x => .int .i64 x
theorem nums_snoc (l : List Int) (x : Int) : nums (l ++ [x]) = nums l ++ [.int .i64 x] := by simp [nums]
theorem nums_get (l : List Int) (i : Nat) (h : i < l.length) : (nums l)[i]? = some (.int .i64 l[i]) := by simp [nums, h]
theorem add_at' (b f j : Nat) : (⟨b, f, none⟩ : Addr).add j = ⟨b, f + j, none⟩ := by simp [Addr.add]
/-- A row of numbers at a place. -/
structure Ro1 where
  a : Option Addr
  c : Nat
  l : List Int
def rcs (rows : List Ro1) : List Value := rows.map fun r => .slice r.a r.l.length r.c
theorem rcs_len (rows : List Ro1) : (rcs rows).length = rows.length := by simp [rcs]
theorem rcs_get (rows : List Ro1) (i : Nat) (h : i < rows.length) : (rcs rows)[i]? = some (.slice rows[i].a rows[i].l.length rows[i].c) := by simp [rcs, h]
/-- A list of numbers whose block lies at or behind a place, and is none that is named. -/
structure Rw (W : World) (B : Nat) (X : Option Addr) (r : Ro1) : Prop where
  nl : NL W r.a r.l
  lo : 0 < r.l.length → ∀ x, r.a = some x → B ≤ x.block ∧ ∀ y, X = some y → x.block ≠ y.block
/-- All rows so far. -/
structure Cs (W : World) (B : Nat) (a : Option Addr) (c : Nat) (rows : List Ro1) : Prop where
  row : W.ownsRow B 35 1 (.slice a rows.length c) rows.length (rcs rows)
  each : ∀ r ∈ rows, Rw W B a r
theorem row_fr {T : Nat → Prop} {w w' : World} {B : Nat} {e : TypeId} {z : Nat} {v : Value} {n : Nat} {xs : List Value} (h : w.ownsRow B e z v n xs) (g : Fr T w w') (hT : ∀ k, v.ownBlock = some k → ¬ T k) : w'.ownsRow B e z v n xs := by
  refine ⟨h.1, h.2.imp id ?_⟩
  rintro ⟨b, cap, cur, rfl, h2, h3, h4⟩
  have hz : b < w.heap.size := (h.lt b rfl).2
  exact ⟨b, cap, cur, rfl, h2, by rw [g.block b hz (hT b rfl)]; exact h3, h4⟩
theorem own_block {w : World} {B : Nat} {e : TypeId} {z n c : Nat} {a : Option Addr} {xs : List Value} (h : w.ownsRow B e z (.slice a n c) n xs) {x : Addr} (hx : a = some x) : B ≤ x.block ∧ x.block < w.heap.size := by
  subst hx
  exact h.lt x.block rfl
theorem own_blk {a : Option Addr} {n c k : Nat} (h : Value.ownBlock (.slice a n c) = some k) : ∃ x, a = some x ∧ x.block = k := by
  cases a with
  | none => simp [Value.ownBlock] at h
  | some x => simp only [Value.ownBlock, Option.some.injEq] at h; exact ⟨x, rfl, h⟩
theorem nl_lt {W : World} {a : Option Addr} {l : List Int} (h : NL W a l) (hl : 0 < l.length) {x : Addr} (e : a = some x) : x.block < W.heap.size := by
  obtain ⟨b, f, e', z, _⟩ := h.is hl
  rw [e'] at e; cases e; exact z
theorem Rw.fr {X : Nat → Prop} {W W' : World} {B : Nat} {a : Option Addr} {r : Ro1} (h : Rw W B a r) (g : Fr X W W') (hx : ∀ k, B ≤ k → (∀ y, a = some y → k ≠ y.block) → ¬ X k) : Rw W' B a r :=
  ⟨h.nl.fr g fun h0 x e => hx _ (h.lo h0 x e).1 (h.lo h0 x e).2, h.lo⟩
/-- What turns nothing at or behind B leaves the rows. -/
theorem Cs.fr {X : Nat → Prop} {W W' : World} {B : Nat} {a : Option Addr} {c : Nat} {rows : List Ro1} (h : Cs W B a c rows) (g : Fr X W W') (hx : ∀ k, B ≤ k → k < W.heap.size → ¬ X k) : Cs W' B a c rows := by
  refine ⟨row_fr h.row g fun k hk => ?_, fun r hr => ⟨?_, (h.each r hr).lo⟩⟩
  · obtain ⟨x, e, rfl⟩ := own_blk hk
    have := own_block h.row e
    exact hx _ this.1 this.2
  · exact (h.each r hr).nl.fr g fun h0 x e => hx _ ((h.each r hr).lo h0 x e).1 (nl_lt (h.each r hr).nl h0 e)
theorem grown_fr {w w' : World} {row : Option Nat} (h : w.grownBy w' row) : Fr (fun k => row = some k) w w' :=
  ⟨h.os, h.tape, h.output, h.size, fun k hk hx => h.block k hk fun e => hx e.symm⟩
theorem nl_row {w : World} {B c : Nat} {a : Option Addr} {l : List Int} (h : w.ownsRow B 3 1 (.slice a l.length c) l.length (nums l)) : NL w a l := by
  refine ⟨fun h0 => ?_⟩
  rcases h.2 with ⟨_, h1⟩ | ⟨g, cap, cur, h1, h2, h3, h4⟩
  · omega
  · injection h1 with e1 e2 e3
    subst e1
    have hc := h.cells (g := g) rfl
    refine ⟨g, 0, rfl, (h.lt g rfl).2, fun i hi => ?_⟩
    have := hc i _ (nums_get l i hi)
    rw [add_at'] at this
    exact this
/-- One row more. -/
theorem Cs.snoc {W W' : World} {B : Nat} {a : Option Addr} {c g c2 : Nat} {rows : List Ro1} {r : Ro1} (h : Cs W B a c rows) (hr : NL W r.a r.l) (hl : 0 < r.l.length → ∀ x, r.a = some x → B ≤ x.block ∧ ∀ y, a = some y → x.block ≠ y.block) (hg : W.grownBy W' (Value.ownBlock (.slice a rows.length c))) (hn : Value.ownBlock (.slice a rows.length c) = some g ∨ g = W.heap.size)
    (hrow : W'.ownsRow B 35 1 (.slice (some ⟨g, 0, none⟩) (rows.length + 1) c2) (rows.length + 1) (rcs rows ++ [.slice r.a r.l.length r.c])) : Cs W' B (some ⟨g, 0, none⟩) c2 (rows ++ [r]) := by
  have hF := grown_fr hg
  have key : ∀ s : Ro1, Rw W B a s → Rw W' B (some ⟨g, 0, none⟩) s := fun s hs => by
    refine ⟨(hs.fr hF fun k hk hne e => ?_).nl, fun h0 x e => ⟨(hs.lo h0 x e).1, fun y ey => ?_⟩⟩
    · obtain ⟨x, ex, hx⟩ := own_blk e
      exact hne x ex hx.symm
    · cases ey
      show x.block ≠ g
      rcases hn with hn | hn
      · obtain ⟨z, ez, hz⟩ := own_blk hn
        have := (hs.lo h0 x e).2 z ez
        omega
      · have := nl_lt hs.nl h0 e
        omega
  refine ⟨?_, fun s hs => ?_⟩
  · have e1 : (rows ++ [r]).length = rows.length + 1 := by simp
    have e2 : rcs (rows ++ [r]) = rcs rows ++ [.slice r.a r.l.length r.c] := by simp [rcs]
    rw [e1, e2]; exact hrow
  · rcases List.mem_append.1 hs with hs | hs
    · exact key s (h.each s hs)
    · rw [List.mem_singleton.1 hs]; exact key r ⟨hr, hl⟩
/-- What is said of all rows: each is a way through the list. -/
def Ways (xs : List O) (r0 : Nat → Int) (rows : List Ro1) : Prop := ∀ r ∈ rows, ∃ R, Rg xs r0 r.l R
/-- Between two rounds. -/
structure Ou (w W : World) (xs : List O) (rb mb : Nat) (r0 R M : Nat → Int) (a : Option Addr) (c : Nat) (rows : List Ro1) : Prop where
  up : Below w.heap.size w W
  rm : Rm W rb mb R M
  cs : Cs W (mb + 1) a c rows
  ws : Ways xs r0 rows
  st : ∀ r : Int, 0 ≤ r → wtL xs r = false → R r.toNat = r0 r.toNat
  lo : w.heap.size ≤ rb ∧ rb < mb
/-- Within a round: the row so far. -/
structure In (w V W : World) (xs : List O) (rb mb : Nat) (r0 R M : Nat → Int) (a : Option Addr) (c : Nat) (rows : List Ro1) (ra : Option Addr) (rc : Nat) (row : List Int) (RR : Nat → Nat → Int) : Prop where
  up : Below w.heap.size w W
  rm : Rm W rb mb R M
  fr : Fr (fun k => k = rb ∨ k = mb) V W
  own : W.ownsRow V.heap.size 3 1 (.slice ra row.length rc) row.length (nums row)
  rg : Rg xs r0 row RR
  at_ : RR row.length = R
theorem Ou.begin {w W : World} {xs : List O} {rb mb : Nat} {r0 R M : Nat → Int} {a : Option Addr} {c : Nat} {rows : List Ro1} (h : Ou w W xs rb mb r0 R M a c rows) : In w W W xs rb mb r0 R M a c rows none 0 [] (fun _ => R) :=
  ⟨h.up, h.rm, Fr.refl _ _, World.ownsRow_nil _ _ _ _, Rg.start xs r0 R h.st, rfl⟩
theorem In.up' {w V W W' : World} {xs : List O} {rb mb : Nat} {r0 R M : Nat → Int} {a : Option Addr} {c : Nat} {rows : List Ro1} {ra : Option Addr} {rc : Nat} {row : List Int} {RR : Nat → Nat → Int} (h : In w V W xs rb mb r0 R M a c rows ra rc row RR) (g : Below W.heap.size W W') : In w V W' xs rb mb r0 R M a c rows ra rc row RR :=
  ⟨h.up.trans (g.mono h.up.size), h.rm.up g, h.fr.then g, row_fr h.own (Fr.of (X := Non) g) fun _ _ h => h, h.rg, h.at_⟩
end Go.Proofs.Ytehohblcildieaa.Al
