/- Two rows of registers are held against one another (regs), read off the program by the walk. Conditions: the rows are of one length, of two at most. -/
import Derived.Test.YtddcndlogoajkaaGreatDoorQSri
import Derived.Test.YtddcndlogoajkaaGreatDoorQKc
import Derived.Test.YtddcndlogoajkaaGreatDoorQKd
import Derived.Test.YtddcndlogoajkaaGreatDoorQPk
import Derived.Deep.AppendLies
import Derived.OwnWalk
import Derived.Test.YtddcndlogoajkaaGreatDoorQLy
namespace Go.Proofs.YtddcndlogoajkaaGreatDoor.L8.Fl
open Go.ChangeShapes Go.WideShapes Go.ChangeAt Go.RowKit
open _root_.Go.Proofs.YtddcndlogoajkaaGreatDoor.L8.So _root_.Go.Proofs.YtddcndlogoajkaaGreatDoor.L8.Ss _root_.Go.Proofs.YtddcndlogoajkaaGreatDoor.L8.Op
set_option maxRecDepth 20000

/-- A list of numbers in memory, at a block's beginning, at or above a block. -/
structure Il (w : World) (B : Nat) (a : Option Addr) (xs : List Int) : Prop where
  is : 0 < xs.length → ∃ b, a = some ⟨b, 0, none⟩ ∧ B ≤ b ∧ b < w.heap.size ∧ ∀ (i : Nat) (h : i < xs.length), w.cell? ⟨b, i, none⟩ = some (.int .i64 xs[i])
theorem Il.nil (w : World) (B : Nat) (a : Option Addr) : Il w B a [] := ⟨fun h => by simp at h⟩
theorem Il.below {w w' : World} {B : Nat} {a : Option Addr} {xs : List Int} (h : Il w B a xs) (hb : Below w.heap.size w w') : Il w' B a xs := by
  refine ⟨fun h0 => ?_⟩
  obtain ⟨b, e, hB, hlt, hc⟩ := h.is h0
  exact ⟨b, e, hB, Nat.lt_of_lt_of_le hlt hb.size, fun i hi => by rw [World.cell?_of_block (w := w) (hb.block b hlt)]; exact hc i hi⟩
theorem Il.fr {X : Nat → Prop} {w w' : World} {B : Nat} {a : Option Addr} {xs : List Int} (h : Il w B a xs) (hF : Fr X w w') (hX : ∀ b, B ≤ b → b < w.heap.size → ¬ X b) : Il w' B a xs := by
  refine ⟨fun h0 => ?_⟩
  obtain ⟨b, e, hB, hlt, hc⟩ := h.is h0
  exact ⟨b, e, hB, Nat.lt_of_lt_of_le hlt hF.size, fun i hi => by rw [hF.cell hlt (hX b hB hlt)]; exact hc i hi⟩
theorem Il.low {w : World} {B B' : Nat} {a : Option Addr} {xs : List Int} (h : Il w B a xs) (hB : B' ≤ B) : Il w B' a xs := by
  refine ⟨fun h0 => ?_⟩
  obtain ⟨b, e, h1, h2, hc⟩ := h.is h0
  exact ⟨b, e, Nat.le_trans hB h1, h2, hc⟩

/-- A list of numbers that is handed back: new, and nothing else has turned. -/
def Got (w w' : World) (v : Value) (xs : List Int) : Prop := ∃ a c, v = .slice a xs.length c ∧ Il w' w.heap.size a xs ∧ Below w.heap.size w w'
/-- Lists that rise are told by what is in them. -/
theorem rise_same : ∀ (xs ys : List Int), xs.Pairwise (· < ·) → ys.Pairwise (· < ·) → (∀ z, z ∈ xs ↔ z ∈ ys) → xs = ys
  | [], [], _, _, _ => rfl
  | [], y :: ys, _, _, h => by have := (h y).2 (by simp); simp at this
  | x :: xs, [], _, _, h => by have := (h x).1 (by simp); simp at this
  | x :: xs, y :: ys, h1, h2, h => by
    obtain ⟨a1, a2⟩ := List.pairwise_cons.1 h1
    obtain ⟨b1, b2⟩ := List.pairwise_cons.1 h2
    have hxy : x = y := by
      have p := (h x).1 (by simp)
      have q := (h y).2 (by simp)
      rcases List.mem_cons.1 p with e | e
      · exact e
      · rcases List.mem_cons.1 q with e' | e'
        · exact e'.symm
        · have := b1 x e; have := a1 y e'; omega
    subst hxy
    congr 1
    refine rise_same xs ys a2 b2 fun z => ⟨fun hz => ?_, fun hz => ?_⟩
    · rcases List.mem_cons.1 ((h z).1 (List.mem_cons_of_mem _ hz)) with e | e
      · have := a1 z hz; omega
      · exact e
    · rcases List.mem_cons.1 ((h z).2 (List.mem_cons_of_mem _ hz)) with e | e
      · have := b1 z hz; omega
      · exact e
/-- What putting numbers into order answers, as a list. -/
theorem rised_list {blk n k : Nat} {f g : Nat → Int} {w w' : World} (h : Si.Rised id blk n f w w' k g) {B : Nat} (hB : B ≤ blk) (hb : blk < w.heap.size) {xs : List Int} (hx : xs.Pairwise (· < ·)) (hm : ∀ z, z ∈ xs ↔ ∃ j, j < n ∧ f j = z) :
    k = xs.length ∧ Il w' B (some ⟨blk, 0, none⟩) xs := by
  have e : (List.range k).map g = xs := by
    refine rise_same _ _ ?_ hx fun z => ?_
    · rw [List.pairwise_map]
      refine List.Pairwise.imp_of_mem (R := (· < ·)) (fun {a b} ha hb' hab => ?_) List.pairwise_lt_range
      exact h.rise a b hab (List.mem_range.1 hb')
    · rw [hm z, List.mem_map]
      constructor
      · rintro ⟨i, hi, rfl⟩
        obtain ⟨j, j1, e⟩ := h.of i (List.mem_range.1 hi)
        exact ⟨j, j1, e.symm⟩
      · rintro ⟨j, j1, rfl⟩
        obtain ⟨i, i1, e⟩ := h.all j j1
        exact ⟨i, List.mem_range.2 i1, e⟩
  subst e
  refine ⟨by simp, ⟨fun _ => ⟨blk, rfl, hB, Nat.lt_of_lt_of_le hb h.fr.size, fun i hi => ?_⟩⟩⟩
  rw [List.getElem_map, List.getElem_range]
  exact h.c i (by simpa using hi)

/-- The blocks to which a block's end may turn. -/
def turnL (x : Bk) : List Int := if x.fin = 0 ∨ x.fin = 3 then [x.thn] else if x.fin = 1 then (if x.thn < x.els then [x.thn, x.els] else if x.els < x.thn then [x.els, x.thn] else [x.thn]) else []
theorem turnL_rise (x : Bk) : (turnL x).Pairwise (· < ·) := by
  unfold turnL
  split
  · simp
  · split
    · split
      · simp; assumption
      · split
        · simp; assumption
        · simp
    · simp
theorem turnL_mem (x : Bk) (h : x.fin = 1) (z : Int) : z ∈ turnL x ↔ z = x.thn ∨ z = x.els := by
  unfold turnL
  rw [if_neg (by omega), if_pos h]
  split
  · simp
  · split
    · simp; omega
    · simp; omega
theorem turnL_two (x : Bk) : (turnL x).length ≤ 2 := by
  unfold turnL
  split
  · simp
  · split
    · split
      · simp
      · split <;> simp
    · simp

theorem turns_any (x : Bk) (p : Pl) (w : World) (hok : x.Ok) :
    Calls Tryz.prog 109 #[x.val p] w fun e w' => ∃ v, e = .returned v ∧ Got w w' v (turnL x) := by
  obtain ⟨f0, f1, a0, a1, t0, t1, e0, e1⟩ := hok
  by_cases h0 : x.fin = 0 ∨ x.fin = 3
  · have hL : turnL x = [x.thn] := by unfold turnL; rw [if_pos h0]
    rw [hL]
    clear hL
    obtain ⟨xo, xf, xa, xb, xt, xe⟩ := x
    have hI : Hid (Il ((w.alloc (.cells #[.slice p.oa xo.length p.oc, .int .i8 xf, .int .u8 xa, .slice p.ba xb.length p.bc, .int .i64 xt, .int .i64 xe] 49)).alloc (.cells #[.int .i64 xt] 3)) w.heap.size (some ⟨w.heap.size + 1, 0, none⟩) [xt]) :=
      ⟨fun _ => ⟨w.heap.size + 1, rfl, by omega, by simp, fun i hi => by
        obtain rfl : i = 0 := by simp at hi; omega
        simp⟩⟩
    rcases h0 with h0 | h0
    · simp only at h0
      subst h0
      go_enter Tryz.func109, Tryz.ntmps109
      go_wp2
      go_ret
      exact ⟨_, rfl, _, _, rfl, hI.out, by go_grown⟩
    · simp only at h0
      subst h0
      go_enter Tryz.func109, Tryz.ntmps109
      go_wp2
      go_ret
      exact ⟨_, rfl, _, _, rfl, hI.out, by go_grown⟩
  · by_cases h1 : x.fin = 1
    · have hrise := turnL_rise x
      have hmem := turnL_mem x h1
      obtain ⟨L, hL⟩ : ∃ L, L = turnL x := ⟨_, rfl⟩
      rw [← hL] at hrise hmem ⊢
      clear hL
      obtain ⟨xo, xf, xa, xb, xt, xe⟩ := x
      simp only at h1
      subst h1
      have HR : Hid (∀ w2, w2 = (w.alloc (.cells #[.slice p.oa xo.length p.oc, .int .i8 1, .int .u8 xa, .slice p.ba xb.length p.bc, .int .i64 xt, .int .i64 xe] 49)).alloc (.cells #[.int .i64 xt, .int .i64 xe] 3) → Calls Tryz.prog 106 #[.slice (some ⟨w.heap.size + 1, 0, none⟩) 2 2, .func (.func 107) #[] #[]] w2 fun e w' => ∃ k, e = .returned (.slice (some ⟨w.heap.size + 1, 0, none⟩) k 2) ∧ (k = L.length ∧ Il w' w.heap.size (some ⟨w.heap.size + 1, 0, none⟩) L) ∧ Below w.heap.size w w') := by
        rintro w2 rfl
        refine (Si.rising_any (w.heap.size + 1) 2 2 (fun k => if k = 0 then xt else xe) _ (fun k hk => ?_) (fun k => by simp) (by simp) (by omega) (by omega) (by omega)).mono ?_
        · match k, hk with
          | 0, _ => simp
          | 1, _ => simp
        · rintro e w' ⟨k, rfl, g, hg⟩
          refine ⟨k, rfl, rised_list hg (by omega) (by simp) hrise fun z => ?_, ?_⟩
          · rw [hmem z]
            constructor
            · rintro (rfl | rfl)
              · exact ⟨0, by omega, by simp⟩
              · exact ⟨1, by omega, by simp⟩
            · rintro ⟨j, j1, e⟩
              by_cases c : j = 0
              · left; rw [if_pos c] at e; exact e.symm
              · right; rw [if_neg c] at e; exact e.symm
          · refine Fr.below ((((Fr.refl (One (w.heap.size + 1)) w).alloc _).alloc _).same hg.fr) (Nat.le_refl _) fun k hk h => ?_
            have : k = w.heap.size + 1 := h
            omega
      clear hrise hmem
      go_enter Tryz.func109, Tryz.ntmps109
      go_wp2_with (first | (go_at_call 106; refine Calls.mono (HR.out _ rfl) ?_; rintro e w' ⟨k, rfl, ⟨hk, hI⟩, hb⟩; have HI : Aside (k = L.length ∧ Il w' w.heap.size (some ⟨w.heap.size + 1, 0, none⟩) L ∧ Below w.heap.size w w') := ⟨hk, hI, hb⟩; clear hk hI hb HR))
      go_ret
      obtain ⟨rfl, hI, hb⟩ := HI.out
      exact ⟨_, rfl, _, _, rfl, hI, hb⟩
    · have hL : turnL x = [] := by unfold turnL; rw [if_neg h0, if_neg h1]
      rw [hL]
      clear hL
      obtain ⟨xo, xf, xa, xb, xt, xe⟩ := x
      simp only at h0 h1 f0 f1
      have z0 : ¬ xf = 0 := by omega
      have z3 : ¬ xf = 3 := by omega
      clear h0
      go_enter Tryz.func109, Tryz.ntmps109
      go_wp2
      go_ret
      exact ⟨_, rfl, _, _, rfl, Il.nil _ _ _, by go_grown⟩
end Go.Proofs.YtddcndlogoajkaaGreatDoor.L8.Fl
namespace Go.Proofs.YtddcndlogoajkaaGreatDoor.L8.Fw

/-- One step or more from x to y, by steps of t that stay below n. -/
inductive Way (t : Nat → Nat → Bool) (n : Nat) : Nat → Nat → Prop
  | one {x y : Nat} : y < n → t x y = true → Way t n x y
  | more {x y z : Nat} : Way t n x y → z < n → t y z = true → Way t n x z
theorem Way.lt {t : Nat → Nat → Bool} {n x y : Nat} (h : Way t n x y) : y < n := by cases h <;> assumption
theorem Way.trans {t : Nat → Nat → Bool} {n x y z : Nat} (h : Way t n x y) (g : Way t n y z) : Way t n x z := by
  induction g with
  | one hy ht => exact .more h hy ht
  | more _ hz ht ih => exact .more ih hz ht

/-- A search under way from b: the blocks r that are met behind b in the order in which they were met; the i-th of them is looked at, up to y. -/
structure Fi (t : Nat → Nat → Bool) (n b : Nat) (met : List Bool) (r : List Nat) (i y : Nat) : Prop where
  len : met.length = n
  iff : ∀ z, z < n → (met[z]? = some true ↔ z ∈ r)
  lt : ∀ z ∈ r, z < n
  way : ∀ z ∈ r, Way t n b z
  cnt : r.length + met.count false = n
  cl : ∀ k, k < i → ∀ x, (b :: r)[k]? = some x → ∀ z, z < n → t x z = true → z ∈ r
  cur : ∀ x, (b :: r)[i]? = some x → ∀ z, z < y → z < n → t x z = true → z ∈ r
section
variable {t : Nat → Nat → Bool} {n b : Nat} {met : List Bool} {r : List Nat} {i y x : Nat}
theorem Fi.init (t : Nat → Nat → Bool) (n b : Nat) : Fi t n b (List.replicate n false) [] 0 0 where
  len := by simp
  iff := fun z hz => by simp [hz]
  lt := fun z hz => by simp at hz
  way := fun z hz => by simp at hz
  cnt := by simp
  cl := fun k hk => by omega
  cur := fun x _ z hz => by omega
theorem Fi.small (h : Fi t n b met r i y) : r.length ≤ n := by have := h.cnt; omega
theorem Fi.at (_h : Fi t n b met r i y) {k : Nat} (hk : (b :: r)[k]? = some x) : x = b ∨ x ∈ r := by
  have := List.mem_of_getElem? hk
  simpa using this
theorem old {k y : Nat} (h : k < (b :: r).length) : (b :: (r ++ [y]))[k]? = (b :: r)[k]? := by
  rw [← List.cons_append, List.getElem?_append_left h]
theorem Fi.yes (h : Fi t n b met r i y) (hy : y < n) (hx : (b :: r)[i]? = some x) (ht : t x y = true) (hm : met[y]? = some false) : Fi t n b (met.set y true) (r ++ [y]) i (y + 1) := by
  have hi : i < (b :: r).length := by
    rcases Nat.lt_or_ge i (b :: r).length with h | h
    · exact h
    · rw [List.getElem?_eq_none h] at hx; cases hx
  have hyl : y < met.length := by rw [h.len]; exact hy
  have hg : met[y] = false := by rw [List.getElem?_eq_getElem hyl] at hm; exact Option.some.inj hm
  have hw : Way t n b y := by
    rcases h.at hx with e | e
    · rw [← e]; exact .one hy ht
    · exact .more (h.way x e) hy ht
  refine ⟨by simp [h.len], fun z hz => ?_, fun z hz => ?_, fun z hz => ?_, ?_, fun k hk x' hx' z hz hz' => ?_, fun x' hx' z hz hz' ht' => ?_⟩
  · by_cases e : y = z
    · subst e; simp [hyl]
    · rw [List.getElem?_set_ne e, h.iff z hz]
      simp only [List.mem_append, List.mem_singleton]
      exact ⟨Or.inl, fun g => g.resolve_right fun g => e g.symm⟩
  · rcases List.mem_append.1 hz with g | g
    · exact h.lt z g
    · rw [List.mem_singleton.1 g]; exact hy
  · rcases List.mem_append.1 hz with g | g
    · exact h.way z g
    · rw [List.mem_singleton.1 g]; exact hw
  · have hc := h.cnt
    have hp : 0 < met.count false := List.count_pos_iff.2 (by rw [← hg]; exact List.getElem_mem hyl)
    rw [List.count_set hyl, hg]
    simp
    omega
  · rw [old (by omega)] at hx'
    exact List.mem_append_left _ (h.cl k hk x' hx' z hz hz')
  · rw [old hi] at hx'
    obtain rfl : x = x' := Option.some.inj (hx.symm.trans hx')
    by_cases e : z = y
    · subst e; simp
    · exact List.mem_append_left _ (h.cur x hx z (by omega) hz' ht')
theorem Fi.no (h : Fi t n b met r i y) (hx : (b :: r)[i]? = some x) (hn : t x y = false ∨ met[y]? = some true) : Fi t n b met r i (y + 1) := by
  refine ⟨h.len, h.iff, h.lt, h.way, h.cnt, h.cl, fun x' hx' z hz hz' ht' => ?_⟩
  obtain rfl : x = x' := Option.some.inj (hx.symm.trans hx')
  by_cases e : z = y
  · subst e
    rcases hn with g | g
    · rw [g] at ht'; cases ht'
    · exact (h.iff z hz').1 g
  · exact h.cur x hx z (by omega) hz' ht'
theorem Fi.turn (h : Fi t n b met r i y) (hy : n ≤ y) : Fi t n b met r (i + 1) 0 := by
  refine ⟨h.len, h.iff, h.lt, h.way, h.cnt, fun k hk x hx z hz ht => ?_, fun x _ z hz => by omega⟩
  by_cases e : k = i
  · subst e; exact h.cur x hx z (by omega) hz ht
  · exact h.cl k (by omega) x hx z hz ht
theorem Fi.closed (h : Fi t n b met r i y) (hi : r.length + 1 ≤ i) {z : Nat} (hw : Way t n b z) : z ∈ r := by
  induction hw with
  | one hz ht => exact h.cl 0 (by omega) _ rfl _ hz ht
  | more _ hz ht ih =>
    obtain ⟨k, hk, e⟩ := List.getElem_of_mem ih
    exact h.cl (k + 1) (by omega) _ (by rw [List.getElem?_cons_succ, List.getElem?_eq_getElem hk, e]) _ hz ht
theorem Fi.done (h : Fi t n b met r i y) (hi : r.length + 1 ≤ i) {z : Nat} (hz : z < n) : met[z]? = some true ↔ Way t n b z :=
  ⟨fun g => h.way z ((h.iff z hz).1 g), fun g => (h.iff z hz).2 (h.closed hi g)⟩
end

open Classical in
/-- Can y be come to from x? -/
noncomputable def wB (t : Nat → Nat → Bool) (n x y : Nat) : Bool := decide (Way t n x y)
section
variable {t : Nat → Nat → Bool} {n : Nat}
theorem wB_iff {x y : Nat} : wB t n x y = true ↔ Way t n x y := by simp [wB]
theorem wB_trans {x y z : Nat} (h : wB t n x y = true) (g : wB t n y z = true) : wB t n x z = true := wB_iff.2 ((wB_iff.1 h).trans (wB_iff.1 g))
/-- What a search has met, when it is done. -/
theorem Fi.met {b : Nat} {met : List Bool} {r : List Nat} {i y : Nat} (h : Fi t n b met r i y) (hi : r.length + 1 ≤ i) : met = (List.range n).map (wB t n b) := by
  apply List.ext_getElem (by simp [h.len])
  intro z h1 h2
  have hz : z < n := by rw [← h.len]; exact h1
  have hd := h.done hi hz
  rw [List.getElem?_eq_getElem h1] at hd
  simp only [List.getElem_map, List.getElem_range]
  cases e : met[z] with
  | true =>
    rw [e] at hd
    exact (wB_iff.2 (hd.1 rfl)).symm
  | false =>
    rw [e] at hd
    cases g : wB t n b z with
    | true => exact absurd (hd.2 (wB_iff.1 g)) (by simp)
    | false => rfl
end
/-- What is reached. -/
noncomputable def reachL (t : Nat → Nat → Bool) (n : Nat) : List Nat := (List.range n).filter fun i => wB t n 0 i || i == 0
/-- The ring of i. -/
noncomputable def ringL (t : Nat → Nat → Bool) (n i : Nat) : List Nat := (List.range n).filter fun j => wB t n i j && wB t n j i
/-- Was j told, in a ring of one below i? -/
noncomputable def told (t : Nat → Nat → Bool) (n i j : Nat) : Bool := (List.range i).any fun k => wB t n k j && wB t n j k
/-- Is i the first of a ring? -/
noncomputable def headB (t : Nat → Nat → Bool) (n i : Nat) : Bool := wB t n i i && !told t n i i
noncomputable def ringsTo (t : Nat → Nat → Bool) (n i : Nat) : List (List Nat) := ((List.range i).filter (headB t n)).map (ringL t n)
section
variable {t : Nat → Nat → Bool} {n : Nat}
theorem told_iff {i j : Nat} : told t n i j = true ↔ ∃ k, k < i ∧ wB t n k j = true ∧ wB t n j k = true := by
  simp [told]
theorem told_zero (j : Nat) : told t n 0 j = false := by simp [told]
theorem told_succ (i j : Nat) : told t n (i + 1) j = (told t n i j || (wB t n i j && wB t n j i)) := by
  simp [told, List.range_succ]
theorem told_skip {i : Nat} (h : headB t n i = false) (j : Nat) : told t n (i + 1) j = told t n i j := by
  rw [told_succ]
  cases hw : wB t n i j && wB t n j i with
  | false => simp
  | true =>
    simp only [Bool.and_eq_true] at hw
    have hii := wB_trans hw.1 hw.2
    have ht : told t n i i = true := by
      cases e : told t n i i with
      | true => rfl
      | false => simp [headB, hii, e] at h
    obtain ⟨k, hk, h1, h2⟩ := told_iff.1 ht
    have : told t n i j = true := told_iff.2 ⟨k, hk, wB_trans h1 hw.1, wB_trans hw.2 h2⟩
    simp [this]
theorem rings_zero : ringsTo t n 0 = [] := by simp [ringsTo]
theorem rings_skip {i : Nat} (h : headB t n i = false) : ringsTo t n (i + 1) = ringsTo t n i := by
  simp [ringsTo, List.range_succ, h]
theorem rings_ring {i : Nat} (h : headB t n i = true) : ringsTo t n (i + 1) = ringsTo t n i ++ [ringL t n i] := by
  simp [ringsTo, List.range_succ, h]
/-- Two rings have no block in common. -/
theorem rings_apart {i k j : Nat} (hik : i < k) (hk : headB t n k = true) (h1 : j ∈ ringL t n i) (h2 : j ∈ ringL t n k) : False := by
  simp only [ringL, List.mem_filter, Bool.and_eq_true] at h1 h2
  have : told t n k k = true := told_iff.2 ⟨i, hik, wB_trans h1.2.1 h2.2.2, wB_trans h2.2.1 h1.2.2⟩
  simp [headB, this] at hk
theorem ring_nodup (i : Nat) : (ringL t n i).Nodup := List.Pairwise.filter _ List.nodup_range
/-- How often a block stands in the rings so far. -/
theorem ring_count (i j : Nat) : (ringL t n i).count j ≤ 1 := List.nodup_iff_count.1 (ring_nodup i) j
/-- A block that stands in a ring of one that is first was not told. -/
theorem fresh {i j : Nat} (h : headB t n i = true) (hj : j ∈ ringL t n i) : told t n i j = false := by
  cases e : told t n i j with
  | false => rfl
  | true =>
    obtain ⟨k, hk, h1, h2⟩ := told_iff.1 e
    simp only [ringL, List.mem_filter, Bool.and_eq_true] at hj
    have : told t n i i = true := told_iff.2 ⟨k, hk, wB_trans h1 hj.2.2, wB_trans hj.2.1 h2⟩
    simp [headB, this] at h
/-- What is reached is closed. -/
theorem reach_closed {x y : Nat} (hx : x ∈ reachL t n) (hy : y < n) (ht : t x y = true) : y ∈ reachL t n := by
  simp only [reachL, List.mem_filter, List.mem_range, Bool.or_eq_true, beq_iff_eq] at hx ⊢
  refine ⟨hy, Or.inl ?_⟩
  rcases hx.2 with h | h
  · exact wB_iff.2 (.more (wB_iff.1 h) hy ht)
  · subst h; exact wB_iff.2 (.one hy ht)
theorem reach_first (h : 0 < n) : (reachL t n)[0]? = some 0 := by
  obtain ⟨m, rfl⟩ : ∃ m, n = m + 1 := ⟨n - 1, by omega⟩
  unfold reachL
  rw [List.range_succ_eq_map, List.filter_cons_of_pos (by simp)]
  rfl
end

/-- A search that goes down first, at x: M was met when it came to x, M' now; the steps d of x are looked at. -/
structure Ds (t : Nat → Nat → Bool) (n x : Nat) (M M' d : Nat → Prop) : Prop where
  sub : ∀ z, M z → M' z
  way : ∀ z, M' z → ¬ M z → Way t n x z
  cl : ∀ z, M' z → ¬ M z → ∀ u, u < n → t z u = true → M' u
  own : ∀ u, d u → M' u
section
variable {t : Nat → Nat → Bool} {n x y : Nat} {M M' M2 d : Nat → Prop}
theorem Ds.init (t : Nat → Nat → Bool) (n x : Nat) (M : Nat → Prop) : Ds t n x M M fun _ => False :=
  ⟨fun _ h => h, fun _ h g => absurd h g, fun _ h g => absurd h g, fun _ h => h.elim⟩
theorem Ds.skip (h : Ds t n x M M' d) (hy : M' y) : Ds t n x M M' fun u => d u ∨ u = y :=
  ⟨h.sub, h.way, h.cl, fun u hu => hu.elim (h.own u) fun e => by rw [e]; exact hy⟩
/-- A step to one that was not met: it is met, and searched. -/
theorem Ds.call (h : Ds t n x M M' d) (hy : y < n) (ht : t x y = true) (g : Ds t n y (fun z => M' z ∨ z = y) M2 fun u => u < n ∧ t y u = true) : Ds t n x M M2 fun u => d u ∨ u = y := by
  have hyy : M2 y := g.sub y (Or.inr rfl)
  refine ⟨fun z hz => g.sub z (Or.inl (h.sub z hz)), fun z hz hm => ?_, fun z hz hm u hu hzu => ?_, fun u hu => ?_⟩
  · by_cases h1 : M' z
    · exact h.way z h1 hm
    · by_cases h2 : z = y
      · rw [h2]; exact .one hy ht
      · exact (Way.one hy ht).trans (g.way z hz fun e => e.elim h1 h2)
  · by_cases h1 : M' z
    · exact g.sub u (Or.inl (h.cl z h1 hm u hu hzu))
    · by_cases h2 : z = y
      · subst h2; exact g.own u ⟨hu, hzu⟩
      · exact g.cl z hz (fun e => e.elim h1 h2) u hu hzu
  · rcases hu with hu | rfl
    · exact g.sub u (Or.inl (h.own u hu))
    · exact hyy
/-- Begun with nothing met: what is met is what can be come to. -/
theorem Ds.done (h : Ds t n x (fun _ => False) M' fun u => u < n ∧ t x u = true) (z : Nat) : M' z ↔ Way t n x z := by
  refine ⟨fun hz => h.way z hz id, fun hw => ?_⟩
  induction hw with
  | one hy ht => exact h.own _ ⟨hy, ht⟩
  | more _ hz ht ih => exact h.cl _ ih id _ hz ht
/-- Begun with itself met. -/
theorem Ds.done_self (h : Ds t n x (fun z => z = x) M' fun u => u < n ∧ t x u = true) (z : Nat) : M' z ↔ z = x ∨ Way t n x z := by
  refine ⟨fun hz => ?_, fun hw => ?_⟩
  · by_cases e : z = x
    · exact Or.inl e
    · exact Or.inr (h.way z hz e)
  · rcases hw with rfl | hw
    · exact h.sub _ rfl
    · induction hw with
      | one hy ht => exact h.own _ ⟨hy, ht⟩
      | @more y z _ hz ht ih =>
        by_cases e : y = x
        · subst e; exact h.own _ ⟨hz, ht⟩
        · exact h.cl _ ih e _ hz ht
end
end Go.Proofs.YtddcndlogoajkaaGreatDoor.L8.Fw
namespace Go.Proofs.YtddcndlogoajkaaGreatDoor.L8.Fl
open Go.ChangeShapes Go.WideShapes Go.ChangeAt Go.RowKit
open _root_.Go.Proofs.YtddcndlogoajkaaGreatDoor.L8.So _root_.Go.Proofs.YtddcndlogoajkaaGreatDoor.L8.Ss _root_.Go.Proofs.YtddcndlogoajkaaGreatDoor.L8.Op
set_option maxRecDepth 20000

theorem firstE_all {n : Int} {ps : List Bk} (h : firstE n ps = 0) : ∀ x ∈ ps, ckB x n = 0 := by
  induction ps with
  | nil => intro x hx; simp at hx
  | cons y r ih =>
    unfold firstE at h
    by_cases hy : ckB y n = 0
    · rw [if_pos hy] at h
      intro x hx
      rcases List.mem_cons.1 hx with rfl | hx
      · exact hy
      · exact ih h x hx
    · rw [if_neg hy] at h; exact absurd h hy
/-- Of a program: as many blocks as there may be, and each turn goes to one of them. -/
structure Good (ps : List Bk) : Prop where
  pos : 0 < ps.length
  le : ps.length ≤ 128
  turn : ∀ x ∈ ps, ∀ z ∈ turnL x, 0 ≤ z ∧ z < ps.length
theorem good_of {ps : List Bk} (h : ckP ps = 0) : Good ps := by
  unfold ckP at h
  by_cases h1 : 128 < ps.length ∨ 1024 < opsN ps
  · rw [if_pos h1] at h; omega
  · rw [if_neg h1] at h
    by_cases h2 : ps.length = 0
    · rw [if_pos h2] at h; omega
    · rw [if_neg h2] at h
      refine ⟨by omega, by omega, fun x hx z hz => ?_⟩
      have hk := firstE_all h x hx
      have he : endB x ps.length = true := by
        unfold ckB at hk
        by_cases a : allB x.ops = true
        · rw [if_pos a] at hk
          by_cases b : endB x ps.length = true
          · exact b
          · rw [if_neg b] at hk; omega
        · rw [if_neg a] at hk; omega
      unfold endB at he
      simp only [Bool.and_eq_true] at he
      obtain ⟨⟨⟨⟨-, -⟩, ht⟩, hl⟩, -⟩ := he
      unfold turnL at hz
      have T : x.fin = 0 ∨ x.fin = 3 ∨ x.fin = 1 → 0 ≤ x.thn ∧ x.thn < ps.length := fun hf => by
        have e : eT x.fin = true := by unfold eT; exact decide_eq_true (by omega)
        rw [e] at ht
        simpa [bH] using ht
      have L : x.fin = 1 → 0 ≤ x.els ∧ x.els < ps.length := fun hf => by
        have e : eE x.fin = true := by unfold eE; exact decide_eq_true hf
        rw [e] at hl
        simpa [bH] using hl
      split at hz
      · simp at hz; subst hz; exact T (by omega)
      · split at hz
        · rename_i hf
          split at hz
          · simp at hz
            rcases hz with rfl | rfl
            · exact T (by omega)
            · exact L hf
          · split at hz
            · simp at hz
              rcases hz with rfl | rfl
              · exact L hf
              · exact T (by omega)
            · simp at hz; subst hz; exact T (by omega)
        · simp at hz

/-- May the end of block i turn to block j? -/
def tB (ps : List Bk) (i j : Nat) : Bool := match ps[i]? with | some x => decide ((j : Int) ∈ turnL x) | none => false
theorem tB_of {ps : List Bk} {i j : Nat} (h : i < ps.length) : tB ps i j = decide ((j : Int) ∈ turnL ps[i]) := by
  unfold tB; rw [List.getElem?_eq_getElem h]
/-- Has the program that block? -/
def knB (ps : List Bk) (block : Int) : Bool := decide (0 ≤ block) && decide (block < ps.length) && decide (ckP ps = 0)

theorem known_any (ao : Option Addr) (cap : Nat) (ps : List Bk) (block : Int) (w : World) (h : PAt w ao ps) (he : Env w) :
    Calls Tryz.prog 104 #[.agg #[.slice ao ps.length cap], .int .i64 block] w fun e w' => e = .returned (.bool (knB ps block)) ∧ Below w.heap.size w w' := by
  have hb1 : Below w.heap.size w (w.alloc (.cells #[.slice ao ps.length cap] 24)) := by go_grown
  have HC : Hid (Calls Tryz.prog 14 #[.agg #[.slice ao ps.length cap]] (w.alloc (.cells #[.slice ao ps.length cap] 24)) fun e w' => e = .returned (.int .i64 (ckP ps)) ∧ Below w.heap.size w w') :=
    (checkP_any ao cap ps _ (h.below hb1) (he.up hb1)).mono fun e w' hh => ⟨hh.1, hb1.trans (hh.2.mono hb1.size)⟩
  clear h he hb1
  obtain ⟨c, hc⟩ : ∃ c, c = ckP ps := ⟨_, rfl⟩
  unfold knB
  rw [← hc] at HC ⊢
  clear hc
  by_cases h0 : 0 ≤ block
  · by_cases h1 : block < ps.length
    · rw [decide_eq_true h0, decide_eq_true h1]
      go_enter Tryz.func104, Tryz.ntmps104
      go_wp2_with (first | (go_at_call 14; refine Calls.mono HC.out ?_; rintro e w' ⟨rfl, hb⟩; have HB : Hid _ := hb; clear hb HC))
      go_ret
      exact ⟨by simp [BEq.beq], HB.out⟩
    · rw [decide_eq_true h0, decide_eq_false h1]
      clear HC
      go_enter Tryz.func104, Tryz.ntmps104
      go_wp2
      go_ret
      exact ⟨by simp, by go_grown⟩
  · rw [decide_eq_false h0]
    clear HC
    go_enter Tryz.func104, Tryz.ntmps104
    go_wp2
    go_ret
    exact ⟨by simp, by go_grown⟩

end Go.Proofs.YtddcndlogoajkaaGreatDoor.L8.Fl
namespace Go.Proofs.YtddcndlogoajkaaGreatDoor.L8.Lv
open _root_.Go.Proofs.YtddcndlogoajkaaGreatDoor.L8.Op _root_.Go.Proofs.YtddcndlogoajkaaGreatDoor.L8.Fl

theorem into_mono {k : B} {f g : Nat → Nat → Bool} {r : Nat} (h : ∀ t, f t r = true → g t r = true) (hi : into k f r = true) : into k g r = true := by
  rw [into_iff] at hi ⊢
  rcases hi with h1 | ⟨h1, h2 | ⟨t, ht, h3⟩⟩
  · exact .inl h1
  · exact .inr ⟨h1, .inl h2⟩
  · exact .inr ⟨h1, .inr ⟨t, ht, h t h3⟩⟩
theorem or_sub {x y : Nat} : x ||| y = y ↔ ∀ r, x.testBit r = true → y.testBit r = true := by
  constructor
  · intro h r hr
    have := congrArg (fun z => Nat.testBit z r) h
    simp only [Nat.testBit_or, hr, Bool.true_or] at this
    exact this.symm
  · intro h
    refine Nat.eq_of_testBit_eq fun r => ?_
    rw [Nat.testBit_or]
    cases hx : x.testBit r
    · simp
    · rw [h r hx]; rfl
/-- No block has more than what is asked of it. -/
def Rise (P : List B) (xs : List Nat) : Prop := ∀ (i : Nat) k, P[i]? = some k → inN xs i ||| intoN k xs = intoN k xs
theorem Rise.init (P : List B) (n : Nat) : Rise P (List.replicate n 0) := fun i k _ => by
  have : inN (List.replicate n 0) i = 0 := by
    unfold inN; rw [List.getD_eq_getElem?_getD, List.getElem?_replicate]; split <;> simp
  rw [this]; simp
theorem Rise.set {P : List B} {xs : List Nat} (h : Rise P xs) (hs : ∀ (i : Nat) k, P[i]? = some k → SmallB k) (hf : Fit xs) {i : Nat} {k : B} (hi : i < xs.length) (hk : P[i]? = some k) : Rise P (xs.set i (intoN k xs)) := fun j k' hk' => by
  have hfy : Fit (xs.set i (intoN k xs)) := hf.set (intoN_lt (hs i k hk) hf)
  have up : ∀ t r, bitN xs t r = true → bitN (xs.set i (intoN k xs)) t r = true := fun t r ht => by
    unfold bitN at ht ⊢
    rw [inN_set hi]
    split
    · rename_i e; subst e; exact or_sub.1 (h i k hk) r ht
    · exact ht
  refine or_sub.2 fun r hr => ?_
  rw [intoN_bit (hs j k' hk') hfy]
  rw [inN_set hi] at hr
  split at hr
  · rename_i e
    subst e
    rw [hk] at hk'; cases hk'
    rw [intoN_bit (hs i k hk) hf] at hr
    exact into_mono (fun t => up t r) hr
  · have := or_sub.1 (h j k' hk') r hr
    rw [intoN_bit (hs j k' hk') hf] at this
    exact into_mono (fun t => up t r) this
theorem left_init (n : Nat) : left (List.replicate n 0) = n * 4294967296 := by
  induction n with
  | zero => rfl
  | succ n ih => rw [List.replicate_succ]; simp only [left, List.map_cons, List.sum_cons] at *; omega

/-- All numbers are of their own width. -/
def PsOk (ps : List Bk) : Prop := ∀ x ∈ ps, x.Ok ∧ (∀ o ∈ x.ops, o.Ok) ∧ ∀ o ∈ x.body, o.Ok
theorem psOk_of {w : World} {ao : Option Addr} {ps : List Bk} (h : PAt w ao ps) : PsOk ps := fun x hx => by
  obtain ⟨i, hi, e⟩ := List.getElem_of_mem hx
  obtain ⟨b, f, -, -, hc⟩ := h.is (by omega)
  obtain ⟨p, -, hb⟩ := hc i hi
  rw [e] at hb
  exact ⟨hb.ok, hb.o.ok, hb.b.ok⟩
theorem ck_blocks {ps : List Bk} (h : ckP ps = 0) : ∀ x ∈ ps, ckB x ps.length = 0 := by
  have h' := h
  unfold ckP at h'
  by_cases h1 : 128 < ps.length ∨ 1024 < opsN ps
  · rw [if_pos h1] at h'; omega
  · rw [if_neg h1] at h'
    by_cases h2 : ps.length = 0
    · rw [if_pos h2] at h'; omega
    · rw [if_neg h2] at h'
      exact firstE_all h'
abbrev PB (ps : List Bk) : List B := ps.map bOf
theorem pb_small {ps : List Bk} (hc : ckP ps = 0) (ho : PsOk ps) (i : Nat) (k : B) (hk : (PB ps)[i]? = some k) : SmallB k := by
  rw [List.getElem?_map, Option.map_eq_some_iff] at hk
  obtain ⟨x, hx, rfl⟩ := hk
  have hm := List.mem_of_getElem? hx
  exact smallB_of (end_of (ck_blocks hc x hm)) (ho x hm).1.a0 (ho x hm).2.1 (ho x hm).2.2
theorem pb_at {ps : List Bk} {i : Nat} (h : i < ps.length) : (PB ps)[i]? = some (bOf ps[i]) := by
  rw [List.getElem?_map, List.getElem?_eq_getElem h]; rfl
/-- What is into the blocks: the least sets; none, if it is no program. -/
structure IsIn (ps : List Bk) (xs : List Nat) : Prop where
  yes : ckP ps = 0 → So (PB ps) xs ∧ ∀ (i : Nat) k, (PB ps)[i]? = some k → Shut k xs i
  no : ckP ps ≠ 0 → xs = []
theorem IsIn.same {ps : List Bk} {xs ys : List Nat} (ho : PsOk ps) (h : IsIn ps xs) (g : IsIn ps ys) : xs = ys := by
  by_cases hc : ckP ps = 0
  · exact So.same (pb_small hc ho) (h.yes hc).1 (h.yes hc).2 (g.yes hc).1 (g.yes hc).2
  · rw [h.no hc, g.no hc]
theorem IsIn.len {ps : List Bk} {xs : List Nat} (h : IsIn ps xs) : xs.length = if ckP ps = 0 then ps.length else 0 := by
  by_cases hc : ckP ps = 0
  · rw [if_pos hc, (h.yes hc).1.len]; simp
  · rw [if_neg hc, h.no hc]; rfl
theorem IsIn.fit {ps : List Bk} {xs : List Nat} (h : IsIn ps xs) : Fit xs := by
  by_cases hc : ckP ps = 0
  · exact (h.yes hc).1.fit
  · rw [h.no hc]; intro t; simp [inN]
/-- The end of a block turns to just those blocks. -/
theorem succ_turn (x : Bk) (h : ∃ n : Int, endB x n = true) (t : Nat) : t ∈ (bOf x).e.succ ↔ (t : Int) ∈ turnL x := by
  obtain ⟨n, h⟩ := h
  simp only [bOf, eOf]
  by_cases h0 : x.fin = 0
  · have := end_thn h (by omega)
    rw [if_pos h0]
    unfold turnL
    rw [if_pos (Or.inl h0)]
    simp only [E.succ, List.mem_singleton]; omega
  · rw [if_neg h0]
    by_cases h1 : x.fin = 1
    · have a := end_thn h (by omega)
      have b := end_els h h1
      rw [if_pos h1, turnL_mem x h1]
      simp only [E.succ, List.mem_cons, List.not_mem_nil, or_false]; omega
    · rw [if_neg h1]
      by_cases h2 : x.fin = 2
      · rw [if_pos h2]
        unfold turnL
        rw [if_neg (by omega), if_neg h1]
        simp [E.succ]
      · rw [if_neg h2]
        have h3 : x.fin = 3 := by
          simp only [endB, Bool.and_eq_true, eK, decide_eq_true_eq] at h
          omega
        have := end_thn h (by omega)
        unfold turnL
        rw [if_pos (Or.inr h3)]
        simp only [E.succ, List.mem_singleton]; omega
end Go.Proofs.YtddcndlogoajkaaGreatDoor.L8.Lv
namespace Go.Proofs.YtddcndlogoajkaaGreatDoor.L8.Op
open Go.ChangeShapes Go.WideShapes Go.ChangeAt Go.RowKit
set_option maxRecDepth 20000

/-- A slice of n numbers, which are f 0, f 1 and so on. -/
def SlAt (w : World) (v : Value) (n : Nat) (f : Nat → Int) : Prop :=
  (n = 0 ∧ ∃ p c, v = .slice p 0 c) ∨ ∃ b c : Nat, v = .slice (some ⟨b, 0, none⟩) n c ∧ b < w.heap.size ∧ ∀ j, j < n → w.cell? ⟨b, j, none⟩ = some (.int .u8 (f j))
theorem SlAt.on {w w' : World} {v : Value} {n : Nat} {f : Nat → Int} (h : SlAt w v n f) (hb : Below w.heap.size w w') : SlAt w' v n f := by
  rcases h with h | ⟨b, c, h1, h2, h3⟩
  · exact .inl h
  · exact .inr ⟨b, c, h1, Nat.lt_of_lt_of_le h2 hb.size, fun j hj => by rw [(bcell hb).1 _ _ h2]; exact h3 j hj⟩

end Go.Proofs.YtddcndlogoajkaaGreatDoor.L8.Op
