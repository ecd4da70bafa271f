/- What package table's wantsOf answers: a new slice of closures, one a word, read off the program by the walk. Conditions: the bounds and the names lie in memory as the program lays them. -/
import Derived.Test.YtgabnjiapkkjaaaGreatDoorMk
namespace Go.Proofs.YtgabnjiapkkjaaaGreatDoor.Tb
open Go.ChangeShapes Go.WideShapes Go.ChangeAt Go.RowKit

/-- A want: tag 0: nothing; 1: the line 'o', once; 2: a number from lo to hi, for the table's place 'o'; 3: the word s. -/
structure Wk where
  tag : Nat
  o : Nat
  lo : Int
  hi : Int
  s : List UInt8

/-- A closure in memory. hb: the block of what was had; tb: the table's. -/
def WantAt (w : World) (hb tb : Nat) (f : Value) (K : Wk) : Prop :=
  (K.tag = 0 ∧ f = .func (.func 69) #[] #[]) ∨
  (K.tag = 1 ∧ K.o < 5 ∧ ∃ c, f = .func (.func 70) #[] #[.pointer (some ⟨c, 0, none⟩)] ∧ w.cell? ⟨c, 0, none⟩ = some (.pointer (some ⟨hb, K.o, none⟩)) ∧ c < w.heap.size ∧ c ≠ hb ∧ c ≠ tb) ∨
  (K.tag = 2 ∧ K.o < 13 ∧ K.hi ≤ 1000 ∧ ∃ cw ct, f = .func (.func 71) #[] #[.pointer (some ⟨cw, 0, none⟩), .pointer (some ⟨ct, 0, none⟩)] ∧ w.cell? ⟨cw, 0, none⟩ = some (.int .i64 K.lo) ∧ w.cell? ⟨cw, 1, none⟩ = some (.int .i64 K.hi) ∧ w.cell? ⟨ct, 0, none⟩ = some (.pointer (some ⟨tb, K.o, none⟩)) ∧ cw < w.heap.size ∧ ct < w.heap.size ∧ cw ≠ hb ∧ cw ≠ tb ∧ ct ≠ hb ∧ ct ≠ tb) ∨
  (K.tag = 3 ∧ ∃ c, f = .func (.func 74) #[] #[.pointer (some ⟨c, 0, none⟩)] ∧ w.cell? ⟨c, 0, none⟩ = some (.string ⟨K.s.toArray⟩) ∧ c < w.heap.size ∧ c ≠ hb ∧ c ≠ tb)

def wNothing : Wk := ⟨0, 0, 0, 0, []⟩
def wOnce (o : Nat) : Wk := ⟨1, o, 0, 0, []⟩
def wNum (o : Nat) (lo hi : Int) : Wk := ⟨2, o, lo, hi, []⟩
def wExact (s : List UInt8) : Wk := ⟨3, 0, 0, 0, s⟩
/-- What a line of a kind must say. -/
def wantsK (k : Nat) : List Wk :=
  if k = 5 then [wNothing] else if k = 4 then [wOnce 4, wNum 12 0 4]
  else [wOnce k, wNum k 0 8, wExact [108, 97, 116], wNum (4 + k) 1 8, wExact [98, 117, 115, 121], wNum (8 + k) 1 4]

/-- The slice of closures. -/
def WantsAt (w : World) (hb tb : Nat) (v : Value) (Ks : List Wk) : Prop :=
  (v = .slice none 0 0 ∧ Ks = []) ∨ ∃ g, v = .slice (some ⟨g, 0, none⟩) Ks.length Ks.length ∧ g < w.heap.size ∧ g ≠ hb ∧ g ≠ tb ∧ ∀ (i : Nat) K, Ks[i]? = some K → ∃ f, w.cell? ⟨g, i, none⟩ = some f ∧ WantAt w hb tb f K

theorem wants_none (a : Option Addr) (c : Nat) (e : Int) (tb hb : Nat) (w : World) :
    Calls Tryz.prog 33 #[.agg #[.slice a 0 c, .int .i64 e], .pointer (some ⟨tb, 0, none⟩), .pointer (some ⟨hb, 0, none⟩)] w fun r w' => r = .returned (.slice none 0 0) ∧ Below w.heap.size w w' := by
  go_enter Tryz.func33, Tryz.ntmps33
  go_wp2
  go_ret
  exact ⟨rfl, (Below.refl _ _).alloc (Nat.le_refl _) _⟩

theorem wants_bad (g n c : Nat) (e : Int) (l : List UInt8) (tb hb : Nat) (w : World) (hn : 0 < n) (hN : Names w) (hc : w.cell? ⟨g, 1, none⟩ = some (.string ⟨l.toArray⟩)) (hg : g < w.heap.size) (hk : kindL l = 5) (hhb : hb < w.heap.size) (htb : tb < w.heap.size) :
    Calls Tryz.prog 33 #[.agg #[.slice (some ⟨g, 0, none⟩) n c, .int .i64 e], .pointer (some ⟨tb, 0, none⟩), .pointer (some ⟨hb, 0, none⟩)] w fun r w' => (∃ v, r = .returned v ∧ WantsAt w' hb tb v (wantsK 5)) ∧ Below w.heap.size w w' := by
  have hN1 := hN.below ((Below.refl _ w).alloc (Nat.le_refl _) (.cells #[.slice (some ⟨g, 0, none⟩) n c, .int .i64 e] 84)) hN.big
  have hko := kindOf_any l (w.alloc (.cells #[.slice (some ⟨g, 0, none⟩) n c, .int .i64 e] 84)) hN1
  rw [hk] at hko
  have Hko : Hid _ := hko
  have hn0 : ((n : Int) == 0) = false := by simp; omega
  have hn1 : (0 : Int) < (n : Int) := by omega
  clear hN hN1 hko hk
  go_enter Tryz.func33, Tryz.ntmps33
  go_wp2_with (first | (go_at_call 49; refine Calls.mono Hko.out ?_; rintro e w' ⟨rfl, hw⟩; subst w') | (go_at_call 50; refine (mk_nothing _).mono ?_; rintro e w' ⟨rfl, hw⟩; subst w'))
  go_ret
  refine ⟨⟨_, rfl, .inr ⟨w.heap.size + 1, rfl, by simp, by omega, by omega, ?_⟩⟩, by go_grown⟩
  intro i K hK
  match i, hK with
  | 0, hK => cases hK; exact ⟨_, by simp, .inl ⟨rfl, rfl⟩⟩
  | i + 1, hK => cases hK

def allocs (w : World) : List Obj → World
  | [] => w
  | o :: os => allocs (w.alloc o) os
theorem look_old (w : World) (o : Obj) (b j : Nat) (hb : b < w.heap.size) : (w.alloc o).cell? ⟨b, j, none⟩ = w.cell? ⟨b, j, none⟩ := World.cell?_alloc_lt _ _ ⟨b, j, none⟩ hb
theorem allocs_old : ∀ (os : List Obj) (w : World) (b j : Nat), b < w.heap.size → (allocs w os).cell? ⟨b, j, none⟩ = w.cell? ⟨b, j, none⟩
  | [], _, _, _, _ => rfl
  | o :: os, w, b, j, h => by
    rw [allocs, allocs_old os (w.alloc o) b j (by simp; omega), look_old w o b j h]
theorem look : ∀ (os : List Obj) (w : World) (m b j : Nat) (cs : Array Value) (t : TypeId) (v : Value), b = w.heap.size + m → os[m]? = some (.cells cs t) → cs[j]? = some v → (allocs w os).cell? ⟨b, j, none⟩ = some v
  | [], _, _, _, _, _, _, _, _, h, _ => by simp at h
  | o :: os, w, 0, b, j, cs, t, v, hb, ho, hv => by
    simp at ho
    subst ho
    rw [allocs, allocs_old os _ b j (by simp; omega), hb, Nat.add_zero]
    rw [World.cell?_alloc_at _ _ _ _ (by rfl)]
    exact hv
  | o :: os, w, m + 1, b, j, cs, t, v, hb, ho, hv => by
    rw [allocs]
    exact look os (w.alloc o) m b j cs t v (by simp; omega) (by simpa using ho) hv
theorem wants2_of (w W : World) (x0 : Array Value) (hb tb : Nat) (hhb : hb < w.heap.size) (htb : tb < w.heap.size) (OS : List Obj) (hO : OS = [.cells x0 84, .cells #[.pointer (some ⟨hb, 4, none⟩)] 121, .cells #[.pointer (some ⟨tb, 12, none⟩)] 123, .cells #[.int .i64 0, .int .i64 4] 55, .cells #[.func (.func 70) #[] #[.pointer (some ⟨w.heap.size + 1, 0, none⟩)], .func (.func 71) #[] #[.pointer (some ⟨w.heap.size + 1 + 1 + 1, 0, none⟩), .pointer (some ⟨w.heap.size + 1 + 1, 0, none⟩)]] 92])
    (hW : ∀ b j, W.cell? ⟨b, j, none⟩ = (allocs w OS).cell? ⟨b, j, none⟩) (hz : W.heap.size = w.heap.size + 5) : WantsAt W hb tb (.slice (some ⟨w.heap.size + 1 + 1 + 1 + 1, 0, none⟩) 2 2) (wantsK 4) := by
  subst hO
  refine .inr ⟨w.heap.size + 1 + 1 + 1 + 1, rfl, by omega, by omega, by omega, ?_⟩
  intro i K hK
  match i, hK with
  | 0, hK => cases hK; exact ⟨_, (hW _ _).trans (look _ w 4 _ _ _ _ _ rfl rfl rfl), .inr (.inl ⟨rfl, by decide, w.heap.size + 1, rfl, (hW _ _).trans (look _ w 1 _ _ _ _ _ rfl rfl rfl), by omega, by omega, by omega⟩)⟩
  | 1, hK => cases hK; exact ⟨_, (hW _ _).trans (look _ w 4 _ _ _ _ _ rfl rfl rfl), .inr (.inr (.inl ⟨rfl, by decide, by decide, w.heap.size + 1 + 1 + 1, w.heap.size + 1 + 1, rfl, (hW _ _).trans (look _ w 3 _ _ _ _ _ rfl rfl rfl), (hW _ _).trans (look _ w 3 _ _ _ _ _ rfl rfl rfl), (hW _ _).trans (look _ w 2 _ _ _ _ _ rfl rfl rfl), by omega, by omega, by omega, by omega, by omega, by omega⟩))⟩
  | i + 2, hK => cases hK

theorem wants6_of (w W : World) (x0 : Array Value) (hb tb k : Nat) (hk : k < 4) (hhb : hb < w.heap.size) (htb : tb < w.heap.size) (OS : List Obj) (hO : OS = [.cells x0 84, .cells #[.pointer (some ⟨hb, k, none⟩)] 121, .cells #[.pointer (some ⟨tb, k, none⟩)] 123, .cells #[.int .i64 0, .int .i64 8] 55, .cells #[.string ⟨#[108, 97, 116]⟩] 9, .cells #[.pointer (some ⟨tb, 4 + k, none⟩)] 123, .cells #[.int .i64 1, .int .i64 8] 55, .cells #[.string ⟨#[98, 117, 115, 121]⟩] 9, .cells #[.pointer (some ⟨tb, 8 + k, none⟩)] 123, .cells #[.int .i64 1, .int .i64 4] 55, .cells #[.func (.func 70) #[] #[.pointer (some ⟨w.heap.size + 1, 0, none⟩)], .func (.func 71) #[] #[.pointer (some ⟨w.heap.size + 1 + 1 + 1, 0, none⟩), .pointer (some ⟨w.heap.size + 1 + 1, 0, none⟩)], .func (.func 74) #[] #[.pointer (some ⟨w.heap.size + 1 + 1 + 1 + 1, 0, none⟩)], .func (.func 71) #[] #[.pointer (some ⟨w.heap.size + 1 + 1 + 1 + 1 + 1 + 1, 0, none⟩), .pointer (some ⟨w.heap.size + 1 + 1 + 1 + 1 + 1, 0, none⟩)], .func (.func 74) #[] #[.pointer (some ⟨w.heap.size + 1 + 1 + 1 + 1 + 1 + 1 + 1, 0, none⟩)], .func (.func 71) #[] #[.pointer (some ⟨w.heap.size + 1 + 1 + 1 + 1 + 1 + 1 + 1 + 1 + 1, 0, none⟩), .pointer (some ⟨w.heap.size + 1 + 1 + 1 + 1 + 1 + 1 + 1 + 1, 0, none⟩)]] 92])
    (hW : ∀ b j, W.cell? ⟨b, j, none⟩ = (allocs w OS).cell? ⟨b, j, none⟩) (hz : W.heap.size = w.heap.size + 11) : WantsAt W hb tb (.slice (some ⟨w.heap.size + 1 + 1 + 1 + 1 + 1 + 1 + 1 + 1 + 1 + 1, 0, none⟩) 6 6) [wOnce k, wNum k 0 8, wExact [108, 97, 116], wNum (4 + k) 1 8, wExact [98, 117, 115, 121], wNum (8 + k) 1 4] := by
  subst hO
  refine .inr ⟨w.heap.size + 1 + 1 + 1 + 1 + 1 + 1 + 1 + 1 + 1 + 1, rfl, by omega, by omega, by omega, ?_⟩
  intro i K hK
  match i, hK with
  | 0, hK => cases hK; exact ⟨_, (hW _ _).trans (look _ w 10 _ _ _ _ _ rfl rfl rfl), .inr (.inl ⟨rfl, by show k < 5; omega, w.heap.size + 1, rfl, (hW _ _).trans (look _ w 1 _ _ _ _ _ rfl rfl rfl), by omega, by omega, by omega⟩)⟩
  | 1, hK => cases hK; exact ⟨_, (hW _ _).trans (look _ w 10 _ _ _ _ _ rfl rfl rfl), .inr (.inr (.inl ⟨rfl, by show k < 13; omega, by simp [wNum], w.heap.size + 1 + 1 + 1, w.heap.size + 1 + 1, rfl, (hW _ _).trans (look _ w 3 _ _ _ _ _ rfl rfl rfl), (hW _ _).trans (look _ w 3 _ _ _ _ _ rfl rfl rfl), (hW _ _).trans (look _ w 2 _ _ _ _ _ rfl rfl rfl), by omega, by omega, by omega, by omega, by omega, by omega⟩))⟩
  | 2, hK => cases hK; exact ⟨_, (hW _ _).trans (look _ w 10 _ _ _ _ _ rfl rfl rfl), .inr (.inr (.inr ⟨rfl, w.heap.size + 1 + 1 + 1 + 1, rfl, (hW _ _).trans (look _ w 4 _ _ _ _ _ rfl rfl rfl), by omega, by omega, by omega⟩))⟩
  | 3, hK => cases hK; exact ⟨_, (hW _ _).trans (look _ w 10 _ _ _ _ _ rfl rfl rfl), .inr (.inr (.inl ⟨rfl, by show 4 + k < 13; omega, by simp [wNum], w.heap.size + 1 + 1 + 1 + 1 + 1 + 1, w.heap.size + 1 + 1 + 1 + 1 + 1, rfl, (hW _ _).trans (look _ w 6 _ _ _ _ _ rfl rfl rfl), (hW _ _).trans (look _ w 6 _ _ _ _ _ rfl rfl rfl), (hW _ _).trans (look _ w 5 _ _ _ _ _ rfl rfl rfl), by omega, by omega, by omega, by omega, by omega, by omega⟩))⟩
  | 4, hK => cases hK; exact ⟨_, (hW _ _).trans (look _ w 10 _ _ _ _ _ rfl rfl rfl), .inr (.inr (.inr ⟨rfl, w.heap.size + 1 + 1 + 1 + 1 + 1 + 1 + 1, rfl, (hW _ _).trans (look _ w 7 _ _ _ _ _ rfl rfl rfl), by omega, by omega, by omega⟩))⟩
  | 5, hK => cases hK; exact ⟨_, (hW _ _).trans (look _ w 10 _ _ _ _ _ rfl rfl rfl), .inr (.inr (.inl ⟨rfl, by show 8 + k < 13; omega, by simp [wNum], w.heap.size + 1 + 1 + 1 + 1 + 1 + 1 + 1 + 1 + 1, w.heap.size + 1 + 1 + 1 + 1 + 1 + 1 + 1 + 1, rfl, (hW _ _).trans (look _ w 9 _ _ _ _ _ rfl rfl rfl), (hW _ _).trans (look _ w 9 _ _ _ _ _ rfl rfl rfl), (hW _ _).trans (look _ w 8 _ _ _ _ _ rfl rfl rfl), by omega, by omega, by omega, by omega, by omega, by omega⟩))⟩
  | i + 6, hK => cases hK

theorem wants_delay (g n c : Nat) (e : Int) (l : List UInt8) (tb hb : Nat) (w : World) (hn : 0 < n) (hN : Names w) (hG : Bnds w) (hc : w.cell? ⟨g, 1, none⟩ = some (.string ⟨l.toArray⟩)) (hg : g < w.heap.size) (hk : kindL l = 4) (hhb : hb < w.heap.size) (htb : tb < w.heap.size) :
    Calls Tryz.prog 33 #[.agg #[.slice (some ⟨g, 0, none⟩) n c, .int .i64 e], .pointer (some ⟨tb, 0, none⟩), .pointer (some ⟨hb, 0, none⟩)] w fun r w' => (∃ v, r = .returned v ∧ WantsAt w' hb tb v (wantsK 4)) ∧ Below w.heap.size w w' := by
  have hz := hG.big
  have hN1 := hN.below ((Below.refl _ w).alloc (Nat.le_refl _) (.cells #[.slice (some ⟨g, 0, none⟩) n c, .int .i64 e] 84)) hN.big
  have hko := kindOf_any l (w.alloc (.cells #[.slice (some ⟨g, 0, none⟩) n c, .int .i64 e] 84)) hN1
  rw [hk] at hko
  have Hko : Hid _ := hko
  have hn0 : ((n : Int) == 0) = false := by simp; omega
  have hn1 : (0 : Int) < (n : Int) := by omega
  have d0 := hG.d0
  have d1 := hG.d1
  have z1 : 1 < w.heap.size := by omega
  clear hN hN1 hko hk hG
  go_enter Tryz.func33, Tryz.ntmps33
  go_wp2_with (first | (go_at_call 49; refine Calls.mono Hko.out ?_; rintro e w' ⟨rfl, hw⟩; subst w'))
  go_region_held3 (fun w' => w'.cell? ⟨1, 0, none⟩ = some (.int .i64 0) ∧ w'.cell? ⟨1, 1, none⟩ = some (.int .i64 4)) (first | (go_keep; done) | ((try dsimp only); (repeat' apply And.intro) <;> (exact ((bcell (B := w.heap.size) (W := w) (by go_grown)).1 _ _ (by omega)).trans (by assumption))))
    (first
     | (go_at_call 51; refine (mk_once _ _).mono ?_; rintro e w' ⟨rfl, hw⟩; subst w')
     | (go_at_call 52; refine (mk_number _ _ _ _).mono ?_; rintro e w' ⟨rfl, hw⟩; subst w'))
  go_wp2
  go_ret
  exact ⟨⟨_, rfl, wants2_of w _ _ hb tb hhb htb _ rfl (fun _ _ => rfl) (by simp)⟩, by go_grown⟩

set_option maxHeartbeats 2000000 in
theorem wants_class (g n c : Nat) (e : Int) (l : List UInt8) (k tb hb : Nat) (w : World) (hn : 0 < n) (hN : Names w) (hG : Bnds w) (hc : w.cell? ⟨g, 1, none⟩ = some (.string ⟨l.toArray⟩)) (hg : g < w.heap.size) (hk : kindL l = k) (hk4 : k < 4) (hhb : hb < w.heap.size) (htb : tb < w.heap.size) :
    Calls Tryz.prog 33 #[.agg #[.slice (some ⟨g, 0, none⟩) n c, .int .i64 e], .pointer (some ⟨tb, 0, none⟩), .pointer (some ⟨hb, 0, none⟩)] w fun r w' => (∃ v, r = .returned v ∧ WantsAt w' hb tb v (wantsK k)) ∧ Below w.heap.size w w' := by
  have hz := hG.big
  have hN1 := hN.below ((Below.refl _ w).alloc (Nat.le_refl _) (.cells #[.slice (some ⟨g, 0, none⟩) n c, .int .i64 e] 84)) hN.big
  have hko := kindOf_any l (w.alloc (.cells #[.slice (some ⟨g, 0, none⟩) n c, .int .i64 e] 84)) hN1
  rw [hk] at hko
  have Hko : Hid _ := hko
  have hn0 : ((n : Int) == 0) = false := by simp; omega
  have hn1 : (0 : Int) < (n : Int) := by omega
  have hk5 : ((k : Int) == 5) = false := by simp; omega
  have hk4' : ((k : Int) == 4) = false := by simp; omega
  have i1 : (0 : Int) ≤ (k : Int) := by omega
  have i2 : (k : Int) < 4 := by omega
  have i3 : (k : Int) < 5 := by omega
  have u0 := hG.u0
  have u1 := hG.u1
  have l0 := hG.l0
  have l1 := hG.l1
  have b0 := hG.b0
  have b1 := hG.b1
  have z2 : 2 < w.heap.size := by omega
  have z3 : 3 < w.heap.size := by omega
  have z4 : 4 < w.heap.size := by omega
  have hwk : wantsK k = [wOnce k, wNum k 0 8, wExact [108, 97, 116], wNum (4 + k) 1 8, wExact [98, 117, 115, 121], wNum (8 + k) 1 4] := by
    rw [wantsK, if_neg (by omega), if_neg (by omega)]
  rw [hwk]
  clear hN hN1 hko hk hG hwk
  go_enter Tryz.func33, Tryz.ntmps33
  go_wp2_with (first | (go_at_call 49; refine Calls.mono Hko.out ?_; rintro e w' ⟨rfl, hw⟩; subst w'))
  go_region_held3 (fun w' => w'.cell? ⟨2, 0, none⟩ = some (.int .i64 0) ∧ w'.cell? ⟨2, 1, none⟩ = some (.int .i64 8) ∧ w'.cell? ⟨3, 0, none⟩ = some (.int .i64 1) ∧ w'.cell? ⟨3, 1, none⟩ = some (.int .i64 8) ∧ w'.cell? ⟨4, 0, none⟩ = some (.int .i64 1) ∧ w'.cell? ⟨4, 1, none⟩ = some (.int .i64 4)) (first | (go_keep; done) | ((try dsimp only); (repeat' apply And.intro) <;> (exact ((bcell (B := w.heap.size) (W := w) (by go_grown)).1 _ _ (by omega)).trans (by assumption))))
    (first
     | (go_at_call 51; refine (mk_once _ _).mono ?_; rintro e w' ⟨rfl, hw⟩; subst w')
     | (go_at_call 52; refine (mk_number _ _ _ _).mono ?_; rintro e w' ⟨rfl, hw⟩; subst w')
     | (go_at_call 53; refine (mk_exactly _ _).mono ?_; rintro e w' ⟨rfl, hw⟩; subst w'))
  go_wp2
  go_ret
  exact ⟨⟨_, rfl, wants6_of w _ _ hb tb k hk4 hhb htb _ rfl (fun _ _ => rfl) (by simp)⟩, by go_grown⟩

end Go.Proofs.YtgabnjiapkkjaaaGreatDoor.Tb
