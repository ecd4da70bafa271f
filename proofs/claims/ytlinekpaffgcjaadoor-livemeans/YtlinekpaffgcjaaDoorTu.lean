/- To which blocks a block's end may turn, read off the program by the walk: a list of numbers in memory. Conditions: the block's fields are numbers of their own width. -/
import Derived.Test.YtlinekpaffgcjaaDoorSri
import Derived.Test.YtlinekpaffgcjaaDoorPm
import Derived.Test.YtlinekpaffgcjaaDoorKd
namespace Go.Proofs.YtlinekpaffgcjaaDoor.Fl
open Go.ChangeShapes Go.WideShapes Go.ChangeAt Go.RowKit
open _root_.Go.Proofs.YtlinekpaffgcjaaDoor.So _root_.Go.Proofs.YtlinekpaffgcjaaDoor.Ss _root_.Go.Proofs.YtlinekpaffgcjaaDoor.Op
set_option maxRecDepth 20000

/-- A list of numbers in memory, at a block's beginning, at or above a block. -/
structure Il (w : World) (B : Nat) (a : Option Addr) (xs : List Int) : Prop where
  is : 0 < xs.length → ∃ b, a = some ⟨b, 0, none⟩ ∧ B ≤ b ∧ b < w.heap.size ∧ ∀ (i : Nat) (h : i < xs.length), w.cell? ⟨b, i, none⟩ = some (.int .i64 xs[i])
theorem Il.nil (w : World) (B : Nat) (a : Option Addr) : Il w B a [] := ⟨fun h => by simp at h⟩
theorem Il.below {w w' : World} {B : Nat} {a : Option Addr} {xs : List Int} (h : Il w B a xs) (hb : Below w.heap.size w w') : Il w' B a xs := by
  refine ⟨fun h0 => ?_⟩
  obtain ⟨b, e, hB, hlt, hc⟩ := h.is h0
  exact ⟨b, e, hB, Nat.lt_of_lt_of_le hlt hb.size, fun i hi => by rw [World.cell?_of_block (w := w) (hb.block b hlt)]; exact hc i hi⟩
theorem Il.fr {X : Nat → Prop} {w w' : World} {B : Nat} {a : Option Addr} {xs : List Int} (h : Il w B a xs) (hF : Fr X w w') (hX : ∀ b, B ≤ b → b < w.heap.size → ¬ X b) : Il w' B a xs := by
  refine ⟨fun h0 => ?_⟩
  obtain ⟨b, e, hB, hlt, hc⟩ := h.is h0
  exact ⟨b, e, hB, Nat.lt_of_lt_of_le hlt hF.size, fun i hi => by rw [hF.cell hlt (hX b hB hlt)]; exact hc i hi⟩
theorem Il.low {w : World} {B B' : Nat} {a : Option Addr} {xs : List Int} (h : Il w B a xs) (hB : B' ≤ B) : Il w B' a xs := by
  refine ⟨fun h0 => ?_⟩
  obtain ⟨b, e, h1, h2, hc⟩ := h.is h0
  exact ⟨b, e, Nat.le_trans hB h1, h2, hc⟩

/-- A list of numbers that is handed back: new, and nothing else has turned. -/
def Got (w w' : World) (v : Value) (xs : List Int) : Prop := ∃ a c, v = .slice a xs.length c ∧ Il w' w.heap.size a xs ∧ Below w.heap.size w w'
/-- Lists that rise are told by what is in them. -/
theorem rise_same : ∀ (xs ys : List Int), xs.Pairwise (· < ·) → ys.Pairwise (· < ·) → (∀ z, z ∈ xs ↔ z ∈ ys) → xs = ys
  | [], [], _, _, _ => rfl
  | [], y :: ys, _, _, h => by have := (h y).2 (by simp); simp at this
  | x :: xs, [], _, _, h => by have := (h x).1 (by simp); simp at this
  | x :: xs, y :: ys, h1, h2, h => by
    obtain ⟨a1, a2⟩ := List.pairwise_cons.1 h1
    obtain ⟨b1, b2⟩ := List.pairwise_cons.1 h2
    have hxy : x = y := by
      have p := (h x).1 (by simp)
      have q := (h y).2 (by simp)
      rcases List.mem_cons.1 p with e | e
      · exact e
      · rcases List.mem_cons.1 q with e' | e'
        · exact e'.symm
        · have := b1 x e; have := a1 y e'; omega
    subst hxy
    congr 1
    refine rise_same xs ys a2 b2 fun z => ⟨fun hz => ?_, fun hz => ?_⟩
    · rcases List.mem_cons.1 ((h z).1 (List.mem_cons_of_mem _ hz)) with e | e
      · have := a1 z hz; omega
      · exact e
    · rcases List.mem_cons.1 ((h z).2 (List.mem_cons_of_mem _ hz)) with e | e
      · have := b1 z hz; omega
      · exact e
/-- What putting numbers into order answers, as a list. -/
theorem rised_list {blk n k : Nat} {f g : Nat → Int} {w w' : World} (h : Si.Rised id blk n f w w' k g) {B : Nat} (hB : B ≤ blk) (hb : blk < w.heap.size) {xs : List Int} (hx : xs.Pairwise (· < ·)) (hm : ∀ z, z ∈ xs ↔ ∃ j, j < n ∧ f j = z) :
    k = xs.length ∧ Il w' B (some ⟨blk, 0, none⟩) xs := by
  have e : (List.range k).map g = xs := by
    refine rise_same _ _ ?_ hx fun z => ?_
    · rw [List.pairwise_map]
      refine List.Pairwise.imp_of_mem (R := (· < ·)) (fun {a b} ha hb' hab => ?_) List.pairwise_lt_range
      exact h.rise a b hab (List.mem_range.1 hb')
    · rw [hm z, List.mem_map]
      constructor
      · rintro ⟨i, hi, rfl⟩
        obtain ⟨j, j1, e⟩ := h.of i (List.mem_range.1 hi)
        exact ⟨j, j1, e.symm⟩
      · rintro ⟨j, j1, rfl⟩
        obtain ⟨i, i1, e⟩ := h.all j j1
        exact ⟨i, List.mem_range.2 i1, e⟩
  subst e
  refine ⟨by simp, ⟨fun _ => ⟨blk, rfl, hB, Nat.lt_of_lt_of_le hb h.fr.size, fun i hi => ?_⟩⟩⟩
  rw [List.getElem_map, List.getElem_range]
  exact h.c i (by simpa using hi)

/-- The blocks to which a block's end may turn. -/
def turnL (x : Bk) : List Int := if x.fin = 0 ∨ x.fin = 3 then [x.thn] else if x.fin = 1 then (if x.thn < x.els then [x.thn, x.els] else if x.els < x.thn then [x.els, x.thn] else [x.thn]) else []
theorem turnL_rise (x : Bk) : (turnL x).Pairwise (· < ·) := by
  unfold turnL
  split
  · simp
  · split
    · split
      · simp; assumption
      · split
        · simp; assumption
        · simp
    · simp
theorem turnL_mem (x : Bk) (h : x.fin = 1) (z : Int) : z ∈ turnL x ↔ z = x.thn ∨ z = x.els := by
  unfold turnL
  rw [if_neg (by omega), if_pos h]
  split
  · simp
  · split
    · simp; omega
    · simp; omega
theorem turnL_two (x : Bk) : (turnL x).length ≤ 2 := by
  unfold turnL
  split
  · simp
  · split
    · split
      · simp
      · split <;> simp
    · simp

theorem turns_any (x : Bk) (p : Pl) (w : World) (hok : x.Ok) :
    Calls Tryd.prog 47 #[x.val p] w fun e w' => ∃ v, e = .returned v ∧ Got w w' v (turnL x) := by
  obtain ⟨f0, f1, a0, a1, t0, t1, e0, e1⟩ := hok
  by_cases h0 : x.fin = 0 ∨ x.fin = 3
  · have hL : turnL x = [x.thn] := by unfold turnL; rw [if_pos h0]
    rw [hL]
    clear hL
    obtain ⟨xo, xf, xa, xb, xt, xe⟩ := x
    have hI : Hid (Il ((w.alloc (.cells #[.slice p.oa xo.length p.oc, .int .i8 xf, .int .u8 xa, .slice p.ba xb.length p.bc, .int .i64 xt, .int .i64 xe] 47)).alloc (.cells #[.int .i64 xt] 3)) w.heap.size (some ⟨w.heap.size + 1, 0, none⟩) [xt]) :=
      ⟨fun _ => ⟨w.heap.size + 1, rfl, by omega, by simp, fun i hi => by
        obtain rfl : i = 0 := by simp at hi; omega
        simp⟩⟩
    rcases h0 with h0 | h0
    · simp only at h0
      subst h0
      go_enter Tryd.func47, Tryd.ntmps47
      go_wp2
      go_ret
      exact ⟨_, rfl, _, _, rfl, hI.out, by go_grown⟩
    · simp only at h0
      subst h0
      go_enter Tryd.func47, Tryd.ntmps47
      go_wp2
      go_ret
      exact ⟨_, rfl, _, _, rfl, hI.out, by go_grown⟩
  · by_cases h1 : x.fin = 1
    · have hrise := turnL_rise x
      have hmem := turnL_mem x h1
      obtain ⟨L, hL⟩ : ∃ L, L = turnL x := ⟨_, rfl⟩
      rw [← hL] at hrise hmem ⊢
      clear hL
      obtain ⟨xo, xf, xa, xb, xt, xe⟩ := x
      simp only at h1
      subst h1
      have HR : Hid (∀ w2, w2 = (w.alloc (.cells #[.slice p.oa xo.length p.oc, .int .i8 1, .int .u8 xa, .slice p.ba xb.length p.bc, .int .i64 xt, .int .i64 xe] 47)).alloc (.cells #[.int .i64 xt, .int .i64 xe] 3) → Calls Tryd.prog 44 #[.slice (some ⟨w.heap.size + 1, 0, none⟩) 2 2, .func (.func 45) #[] #[]] w2 fun e w' => ∃ k, e = .returned (.slice (some ⟨w.heap.size + 1, 0, none⟩) k 2) ∧ (k = L.length ∧ Il w' w.heap.size (some ⟨w.heap.size + 1, 0, none⟩) L) ∧ Below w.heap.size w w') := by
        rintro w2 rfl
        refine (Si.rising_any (w.heap.size + 1) 2 2 (fun k => if k = 0 then xt else xe) _ (fun k hk => ?_) (fun k => by simp) (by simp) (by omega) (by omega) (by omega)).mono ?_
        · match k, hk with
          | 0, _ => simp
          | 1, _ => simp
        · rintro e w' ⟨k, rfl, g, hg⟩
          refine ⟨k, rfl, rised_list hg (by omega) (by simp) hrise fun z => ?_, ?_⟩
          · rw [hmem z]
            constructor
            · rintro (rfl | rfl)
              · exact ⟨0, by omega, by simp⟩
              · exact ⟨1, by omega, by simp⟩
            · rintro ⟨j, j1, e⟩
              by_cases c : j = 0
              · left; rw [if_pos c] at e; exact e.symm
              · right; rw [if_neg c] at e; exact e.symm
          · refine Fr.below ((((Fr.refl (One (w.heap.size + 1)) w).alloc _).alloc _).same hg.fr) (Nat.le_refl _) fun k hk h => ?_
            have : k = w.heap.size + 1 := h
            omega
      clear hrise hmem
      go_enter Tryd.func47, Tryd.ntmps47
      go_wp2_with (first | (go_at_call 44; refine Calls.mono (HR.out _ rfl) ?_; rintro e w' ⟨k, rfl, ⟨hk, hI⟩, hb⟩; have HI : Aside (k = L.length ∧ Il w' w.heap.size (some ⟨w.heap.size + 1, 0, none⟩) L ∧ Below w.heap.size w w') := ⟨hk, hI, hb⟩; clear hk hI hb HR))
      go_ret
      obtain ⟨rfl, hI, hb⟩ := HI.out
      exact ⟨_, rfl, _, _, rfl, hI, hb⟩
    · have hL : turnL x = [] := by unfold turnL; rw [if_neg h0, if_neg h1]
      rw [hL]
      clear hL
      obtain ⟨xo, xf, xa, xb, xt, xe⟩ := x
      simp only at h0 h1 f0 f1
      have z0 : ¬ xf = 0 := by omega
      have z3 : ¬ xf = 3 := by omega
      clear h0
      go_enter Tryd.func47, Tryd.ntmps47
      go_wp2
      go_ret
      exact ⟨_, rfl, _, _, rfl, Il.nil _ _ _, by go_grown⟩
end Go.Proofs.YtlinekpaffgcjaaDoor.Fl
