/- Whether a program has a block; the blocks that come after one and ahead of one: read off the program by the walk. Conditions: the program lies in memory. -/
import Derived.Test.YtlinekpaffgcjaaDoorTu
import Derived.Test.YtlinekpaffgcjaaDoorPk
import Derived.Test.YtlinekpaffgcjaaDoorFw
import Derived.Deep.AppendLies
import Derived.OwnWalk
namespace Go.Proofs.YtlinekpaffgcjaaDoor.Fl
open Go.ChangeShapes Go.WideShapes Go.ChangeAt Go.RowKit
open _root_.Go.Proofs.YtlinekpaffgcjaaDoor.So _root_.Go.Proofs.YtlinekpaffgcjaaDoor.Ss _root_.Go.Proofs.YtlinekpaffgcjaaDoor.Op
set_option maxRecDepth 20000

theorem firstE_all {n : Int} {ps : List Bk} (h : firstE n ps = 0) : ∀ x ∈ ps, ckB x n = 0 := by
  induction ps with
  | nil => intro x hx; simp at hx
  | cons y r ih =>
    unfold firstE at h
    by_cases hy : ckB y n = 0
    · rw [if_pos hy] at h
      intro x hx
      rcases List.mem_cons.1 hx with rfl | hx
      · exact hy
      · exact ih h x hx
    · rw [if_neg hy] at h; exact absurd h hy
/-- Of a program: as many blocks as there may be, and each turn goes to one of them. -/
structure Good (ps : List Bk) : Prop where
  pos : 0 < ps.length
  le : ps.length ≤ 128
  turn : ∀ x ∈ ps, ∀ z ∈ turnL x, 0 ≤ z ∧ z < ps.length
theorem good_of {ps : List Bk} (h : ckP ps = 0) : Good ps := by
  unfold ckP at h
  by_cases h1 : 128 < ps.length ∨ 1024 < opsN ps
  · rw [if_pos h1] at h; omega
  · rw [if_neg h1] at h
    by_cases h2 : ps.length = 0
    · rw [if_pos h2] at h; omega
    · rw [if_neg h2] at h
      refine ⟨by omega, by omega, fun x hx z hz => ?_⟩
      have hk := firstE_all h x hx
      have he : endB x ps.length = true := by
        unfold ckB at hk
        by_cases a : allB x.ops = true
        · rw [if_pos a] at hk
          by_cases b : endB x ps.length = true
          · exact b
          · rw [if_neg b] at hk; omega
        · rw [if_neg a] at hk; omega
      unfold endB at he
      simp only [Bool.and_eq_true] at he
      obtain ⟨⟨⟨⟨-, -⟩, ht⟩, hl⟩, -⟩ := he
      unfold turnL at hz
      have T : x.fin = 0 ∨ x.fin = 3 ∨ x.fin = 1 → 0 ≤ x.thn ∧ x.thn < ps.length := fun hf => by
        have e : eT x.fin = true := by unfold eT; exact decide_eq_true (by omega)
        rw [e] at ht
        simpa [bH] using ht
      have L : x.fin = 1 → 0 ≤ x.els ∧ x.els < ps.length := fun hf => by
        have e : eE x.fin = true := by unfold eE; exact decide_eq_true hf
        rw [e] at hl
        simpa [bH] using hl
      split at hz
      · simp at hz; subst hz; exact T (by omega)
      · split at hz
        · rename_i hf
          split at hz
          · simp at hz
            rcases hz with rfl | rfl
            · exact T (by omega)
            · exact L hf
          · split at hz
            · simp at hz
              rcases hz with rfl | rfl
              · exact L hf
              · exact T (by omega)
            · simp at hz; subst hz; exact T (by omega)
        · simp at hz

/-- May the end of block i turn to block j? -/
def tB (ps : List Bk) (i j : Nat) : Bool := match ps[i]? with | some x => decide ((j : Int) ∈ turnL x) | none => false
theorem tB_of {ps : List Bk} {i j : Nat} (h : i < ps.length) : tB ps i j = decide ((j : Int) ∈ turnL ps[i]) := by
  unfold tB; rw [List.getElem?_eq_getElem h]
/-- Has the program that block? -/
def knB (ps : List Bk) (block : Int) : Bool := decide (0 ≤ block) && decide (block < ps.length) && decide (ckP ps = 0)

theorem known_any (ao : Option Addr) (cap : Nat) (ps : List Bk) (block : Int) (w : World) (h : PAt w ao ps) (he : Env w) :
    Calls Tryd.prog 42 #[.agg #[.slice ao ps.length cap], .int .i64 block] w fun e w' => e = .returned (.bool (knB ps block)) ∧ Below w.heap.size w w' := by
  have hb1 : Below w.heap.size w (w.alloc (.cells #[.slice ao ps.length cap] 24)) := by go_grown
  have HC : Hid (Calls Tryd.prog 7 #[.agg #[.slice ao ps.length cap]] (w.alloc (.cells #[.slice ao ps.length cap] 24)) fun e w' => e = .returned (.int .i64 (ckP ps)) ∧ Below w.heap.size w w') :=
    (checkP_any ao cap ps _ (h.below hb1) (he.up hb1)).mono fun e w' hh => ⟨hh.1, hb1.trans (hh.2.mono hb1.size)⟩
  clear h he hb1
  obtain ⟨c, hc⟩ : ∃ c, c = ckP ps := ⟨_, rfl⟩
  unfold knB
  rw [← hc] at HC ⊢
  clear hc
  by_cases h0 : 0 ≤ block
  · by_cases h1 : block < ps.length
    · rw [decide_eq_true h0, decide_eq_true h1]
      go_enter Tryd.func42, Tryd.ntmps42
      go_wp2_with (first | (go_at_call 7; refine Calls.mono HC.out ?_; rintro e w' ⟨rfl, hb⟩; have HB : Hid _ := hb; clear hb HC))
      go_ret
      exact ⟨by simp [BEq.beq], HB.out⟩
    · rw [decide_eq_true h0, decide_eq_false h1]
      clear HC
      go_enter Tryd.func42, Tryd.ntmps42
      go_wp2
      go_ret
      exact ⟨by simp, by go_grown⟩
  · rw [decide_eq_false h0]
    clear HC
    go_enter Tryd.func42, Tryd.ntmps42
    go_wp2
    go_ret
    exact ⟨by simp, by go_grown⟩

/-- The blocks to which a block's end may turn. -/
def afterL (ps : List Bk) (block : Int) : List Int := if knB ps block then (match ps[block.toNat]? with | some x => turnL x | none => []) else []

end Go.Proofs.YtlinekpaffgcjaaDoor.Fl
