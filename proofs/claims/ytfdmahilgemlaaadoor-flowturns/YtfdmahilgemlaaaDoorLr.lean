/- No block lies on two rings, and none twice on one: counted one by one. A row of counts in memory. Conditions: none. -/
import Derived.Test.YtfdmahilgemlaaaDoorLa
import Derived.Laws.OwnMore
namespace Go.Proofs.YtfdmahilgemlaaaDoor.Fl
open Go.ChangeShapes Go.WideShapes Go.ChangeAt Go.RowKit
open _root_.Go.Proofs.YtfdmahilgemlaaaDoor.So _root_.Go.Proofs.YtfdmahilgemlaaaDoor.Ss _root_.Go.Proofs.YtfdmahilgemlaaaDoor.Op _root_.Go.Proofs.YtfdmahilgemlaaaDoor.Fw
set_option maxRecDepth 20000

theorem rings_flat (ps : List Bk) : (ringsI ps).flatten.Nodup ∧ ∀ z ∈ (ringsI ps).flatten, 0 ≤ z ∧ z < ps.length := by
  unfold ringsI
  split
  · constructor
    · unfold List.Nodup
      rw [List.pairwise_flatten]
      constructor
      · intro l hl
        obtain ⟨r, hr, rfl⟩ := List.mem_map.1 hl
        unfold ringsTo at hr
        obtain ⟨i, _, rfl⟩ := List.mem_map.1 hr
        rw [List.pairwise_map]
        refine (ring_nodup i).imp ?_
        intro a b h e; exact h (by omega)
      · rw [List.pairwise_map]
        unfold ringsTo
        rw [List.pairwise_map]
        have hs : ((List.range ps.length).filter (headB (tB ps) ps.length)).Pairwise (fun a b => a < b ∧ headB (tB ps) ps.length b = true) := by
          have h1 : ((List.range ps.length).filter (headB (tB ps) ps.length)).Pairwise (· < ·) := (List.pairwise_lt_range (n := ps.length)).filter _
          refine List.Pairwise.imp_of_mem (R := (· < ·)) (fun {a b} _ hb hab => ⟨hab, (List.mem_filter.1 hb).2⟩) h1
        refine hs.imp ?_
        rintro a b ⟨hab, hb⟩ x hx y hy e
        obtain ⟨i, hi, rfl⟩ := List.mem_map.1 hx
        obtain ⟨j, hj, rfl⟩ := List.mem_map.1 hy
        obtain rfl : i = j := by omega
        exact rings_apart hab hb hi hj
    · intro z hz
      obtain ⟨l, hl, hzl⟩ := List.mem_flatten.1 hz
      obtain ⟨r, hr, rfl⟩ := List.mem_map.1 hl
      obtain ⟨i, hi, rfl⟩ := List.mem_map.1 hzl
      unfold ringsTo at hr
      obtain ⟨k, _, rfl⟩ := List.mem_map.1 hr
      have := (ring_mem.1 hi).1
      omega
  · simp
/-- What is counted when k rings are through, and j blocks of the next. -/
def seen (xss : List (List Int)) (k j : Nat) : List Int := (xss.take k).flatten ++ ((xss[k]?).getD []).take j
theorem seen_next {xss : List (List Int)} {k j : Nat} (hk : k < xss.length) (hj : j < xss[k].length) : seen xss k (j + 1) = seen xss k j ++ [xss[k][j]] := by
  unfold seen
  rw [List.getElem?_eq_getElem hk]
  simp only [Option.getD_some]
  rw [List.take_succ_eq_append_getElem hj, List.append_assoc]
theorem seen_ring {xss : List (List Int)} {k : Nat} (hk : k < xss.length) : seen xss (k + 1) 0 = seen xss k xss[k].length := by
  unfold seen
  have e : (xss.take (k + 1)).flatten = (xss.take k).flatten ++ xss[k] := by
    rw [List.take_succ_eq_append_getElem hk, List.flatten_append, List.flatten_singleton]
  rw [List.getElem?_eq_getElem hk, e]
  simp
theorem seen_pre {xss : List (List Int)} {k j : Nat} (hk : k < xss.length) : ∃ r, seen xss k j ++ r = xss.flatten := by
  refine ⟨xss[k].drop j ++ (xss.drop (k + 1)).flatten, ?_⟩
  unfold seen
  rw [List.getElem?_eq_getElem hk]
  simp only [Option.getD_some]
  rw [List.append_assoc, ← List.append_assoc (xss[k].take j), List.take_append_drop]
  conv => rhs; rw [← List.take_append_drop k xss, List.flatten_append, List.drop_eq_getElem_cons hk, List.flatten_cons]
theorem fresh_next {xss : List (List Int)} {k j : Nat} (hn : xss.flatten.Nodup) (hk : k < xss.length) (hj : j < xss[k].length) : ¬ xss[k][j] ∈ seen xss k j := by
  obtain ⟨r, hr⟩ := seen_pre (j := j + 1) hk
  rw [seen_next hk hj] at hr
  rw [← hr, List.append_assoc] at hn
  intro hm
  have := (List.nodup_append.1 hn).2.2 _ hm xss[k][j] (by simp)
  exact this rfl
/-- A row of counts. -/
structure Ct (wr : World) (q n : Nat) (D : List Int) : Prop where
  lt : q < wr.heap.size
  c : ∀ i, i < n → wr.cell? ⟨q, i, none⟩ = some (.int .i64 (if (i : Int) ∈ D then 1 else 0))
  z : ∀ i, wr.frozen? ⟨q, i, none⟩ = false
theorem Ct.put {wr : World} {q n x : Nat} {D : List Int} (h : Ct wr q n D) (hx : x < n) : Ct (wr.setCell ⟨q, x, none⟩ (.int .i64 1)) q n (D ++ [(x : Int)]) := by
  refine ⟨by simpa using h.lt, fun i hi => ?_, fun i => by rw [World.frozen?_setCell]; exact h.z i⟩
  by_cases e : i = x
  · subst e
    rw [World.cell?_setCell_same (h := h.c i hi)]
    simp
  · rw [World.cell?_setCell_other, h.c i hi]
    · have : ((i : Int) ∈ D ++ [(x : Int)]) ↔ (i : Int) ∈ D := by simp; omega
      by_cases c : (i : Int) ∈ D
      · rw [if_pos c, if_pos (this.2 c)]
      · rw [if_neg c, if_neg fun h => c (this.1 h)]
    · intro h'; injection h' with _ h2; exact e h2.symm
theorem Ct.go {wr w' : World} {q n : Nat} {D : List Int} (h : Ct wr q n D) (hb : Below wr.heap.size wr w') : Ct w' q n D :=
  ⟨Nat.lt_of_lt_of_le h.lt hb.size, fun i hi => by rw [World.cell?_of_block (w := wr) (hb.block q h.lt)]; exact h.c i hi, fun i => by rw [World.frozen?_of_block (w := wr) (a := ⟨q, i, none⟩) (hb.block q h.lt)]; exact h.z i⟩
theorem Ll.fr {X : Nat → Prop} {w w' : World} {B : Nat} {a : Option Addr} {xss : List (List Int)} (h : Ll w B a xss) (hF : Fr X w w') (hX : ∀ b, B ≤ b → b < w.heap.size → ¬ X b) : Ll w' B a xss := by
  refine ⟨fun h0 => ?_⟩
  obtain ⟨b, e, hB, hlt, hc⟩ := h.is h0
  refine ⟨b, e, hB, Nat.lt_of_lt_of_le hlt hF.size, fun i hi => ?_⟩
  obtain ⟨a', c, h1, h2⟩ := hc i hi
  exact ⟨a', c, by rw [hF.cell hlt (hX b hB hlt)]; exact h1, h2.fr hF hX⟩
/-- Rings are counted. -/
structure T3 (w1 wr : World) (B bx : Nat) (v : Value) (aS : Option Addr) (xss : List (List Int)) (q n k j : Nat) : Prop where
  b : Below w1.heap.size w1 wr
  c : wr.cell? ⟨bx, 0, none⟩ = some v
  lx : bx < w1.heap.size
  hq : w1.heap.size ≤ q
  hB : q < B
  ll : Ll wr B aS xss
  ct : Ct wr q n (seen xss k j)
theorem T3.put {w1 wr : World} {B bx : Nat} {v : Value} {aS : Option Addr} {xss : List (List Int)} {q n k j x : Nat} (h : T3 w1 wr B bx v aS xss q n k j) (hx : x < n) (hk : k < xss.length) (hj : j < xss[k].length) (he : (x : Int) = xss[k][j]) :
    T3 w1 (wr.setCell ⟨q, x, none⟩ (.int .i64 1)) B bx v aS xss q n k (j + 1) := by
  have hF : Fr (One q) wr (wr.setCell ⟨q, x, none⟩ (.int .i64 1)) := (Fr.refl (One q) wr).setCell (Or.inr rfl) _ _
  refine ⟨h.b.trans (hF.below h.b.size fun k hk e => by have : k = q := e; have := h.hq; omega), ?_, h.lx, h.hq, h.hB, h.ll.fr hF fun b hb _ e => by (have : b = q := e; have := h.hB; omega), ?_⟩
  · rw [hF.cell (Nat.lt_of_lt_of_le h.lx h.b.size) fun e => by have : bx = q := e; have := h.hq; have := h.lx; omega]; exact h.c
  · have := h.ct.put hx
    rw [he, ← seen_next hk hj] at this
    exact this
theorem T3.ring {w1 wr : World} {B bx : Nat} {v : Value} {aS : Option Addr} {xss : List (List Int)} {q n k : Nat} (hk : k < xss.length) (h : T3 w1 wr B bx v aS xss q n k xss[k].length) : T3 w1 wr B bx v aS xss q n (k + 1) 0 :=
  ⟨h.b, h.c, h.lx, h.hq, h.hB, h.ll, by rw [seen_ring hk]; exact h.ct⟩
theorem rings_len (ps : List Bk) : (ringsI ps).length ≤ ps.length ∧ ∀ l ∈ ringsI ps, l.length ≤ ps.length := by
  unfold ringsI
  split
  · constructor
    · rw [List.length_map]
      unfold ringsTo
      rw [List.length_map]
      have := List.length_filter_le (headB (tB ps) ps.length) (List.range ps.length)
      simpa using this
    · intro l hl
      obtain ⟨r, hr, rfl⟩ := List.mem_map.1 hl
      unfold ringsTo at hr
      obtain ⟨i, _, rfl⟩ := List.mem_map.1 hr
      rw [List.length_map]
      unfold ringL
      have := List.length_filter_le (fun j => wB (tB ps) ps.length i j && wB (tB ps) ps.length j i) (List.range ps.length)
      simpa using this
  · simp
theorem made_zero (n i : Nat) (h : i < n) : (madeCells (#[.int .i64 0] : Array Value) (n * 1)).toList[i]? = some (.int .i64 0) := by
  simp [madeCells, h, Nat.mod_one]
theorem Ct.made {wm : World} {B q n : Nat} (hrow : wm.ownsRow B 3 1 (.slice (some ⟨q, 0, none⟩) n n) n (madeCells (#[.int .i64 0] : Array Value) (n * 1)).toList) (xss : List (List Int)) : Ct wm q n (seen xss 0 0) := by
  have hs : seen xss 0 0 = [] := by unfold seen; simp
  have hh : ∃ cur, wm.heap[q]? = some (.cells cur 3 (0, 0)) := by
    rcases hrow.2 with ⟨h1, _⟩ | ⟨g, cap, cur, h1, _, h3, _⟩
    · cases h1
    · injection h1 with h1; injection h1 with h1; injection h1 with h1; subst h1; exact ⟨cur, h3⟩
  obtain ⟨cur, hh⟩ := hh
  have hlt : q < wm.heap.size := (hrow.lt q rfl).2
  refine ⟨hlt, fun i hi => ?_, fun i => by simp [World.frozen?, hh]⟩
  rw [hs]
  have := hrow.cells (g := q) rfl i _ (made_zero n i hi)
  have e : (⟨q, 0, none⟩ : Addr).add i = ⟨q, i, none⟩ := by
    by_cases c : i = 0
    · subst c; simp [Addr.add]
    · simp [Addr.add, c]
  rw [e] at this
  rw [this]; simp
end Go.Proofs.YtfdmahilgemlaaaDoor.Fl
