/- A list is put into the order of its things' numbers, each number once, in memory. Conditions: the list lies at a block's beginning. -/
import Derived.Test.YtlinekpaffgcjaaDoorSn
namespace Go.Proofs.YtlinekpaffgcjaaDoor.Si
open Go.ChangeShapes Go.WideShapes Go.ChangeAt Go.RowKit
open _root_.Go.Proofs.YtlinekpaffgcjaaDoor.So _root_.Go.Proofs.YtlinekpaffgcjaaDoor.Ss
set_option maxRecDepth 20000

/-- What putting into order answers. -/
structure Rised (key : Int → Int) (blk n : Nat) (f : Nat → Int) (w w' : World) (k : Nat) (g : Nat → Int) : Prop where
  fr : Fr (One blk) w w'
  c : ∀ i, i < k → w'.cell? ⟨blk, i, none⟩ = some (.int .i64 (g i))
  le : k ≤ n
  rise : ∀ i j, i < j → j < k → key (g i) < key (g j)
  of : ∀ i, i < k → ∃ j, j < n ∧ g i = f j
  all : ∀ j, j < n → ∃ i, i < k ∧ key (g i) = key (f j)

theorem rising_any (blk n cap : Nat) (f : Nat → Int) (w : World) (hc : ∀ k, k < n → w.cell? ⟨blk, k, none⟩ = some (.int .i64 (f k))) (hz : ∀ k, w.frozen? ⟨blk, k, none⟩ = false) (hb : blk < w.heap.size) (hcap : n ≤ cap) (hcx : cap ≤ 9223372036854775807) (hn : n < 1099511627776) :
    Calls Tryd.prog 44 #[.slice (some ⟨blk, 0, none⟩) n cap, .func (.func 45) #[] #[]] w fun e w' => ∃ k, e = .returned (.slice (some ⟨blk, 0, none⟩) k cap) ∧ ∃ g, Rised id blk n f w w' k g := by
  obtain ⟨w1, hw1⟩ : ∃ w1, w1 = w.alloc (.cells #[.func (.func 45) #[] #[]] 89) := ⟨_, rfl⟩
  obtain ⟨bx, hbx⟩ : ∃ bx, bx = w.heap.size := ⟨_, rfl⟩
  have F1 : Fr (One blk) w w1 := by rw [hw1]; exact (Fr.refl _ w).alloc _
  have hs1 : w1.heap.size = w.heap.size + 1 := by rw [hw1]; simp
  have ct : w1.cell? ⟨bx, 0, none⟩ = some (.func (.func 45) #[] #[]) := by rw [hw1, hbx]; simp
  have hne : bx ≠ blk := by omega
  have hlt : bx < w1.heap.size := by omega
  have F1' : Fr Non w w1 := by rw [hw1]; exact (Fr.refl _ w).alloc _
  have S1 : Rw blk n (fun _ => True) w1 w1 f := ⟨Fr.refl _ _, by omega, fun k hk => by rw [F1'.cell hb (fun h => h)]; exact hc k hk, fun k => by rw [F1'.frozen hb (fun h => h)]; exact hz k, fun _ _ => trivial⟩
  have HS : Hid (Calls Tryd.prog 61 #[.slice (some ⟨blk, 0, none⟩) n cap, .func (.func 62) #[] #[.pointer (some ⟨w.heap.size, 0, none⟩)]] (w.alloc (.cells #[.func (.func 45) #[] #[]] 89)) fun e w' => e = .returned (.tuple #[]) ∧ ∃ g, Rw blk n (fun _ => True) w1 w' g ∧ Pm 0 n f g ∧ Srt id g 0 n) := by
    rw [← hw1, ← hbx]; exact sort_any bx blk n cap _ id f w1 w1 (cmpI_any bx blk w1 ct hlt hne) S1 hn
  have HE : Hid (∀ w' g, Rw blk n (fun _ => True) w1 w' g → Srt id g 0 n → Calls Tryd.prog 64 #[.slice (some ⟨blk, 0, none⟩) n cap, .func (.func 65) #[] #[.pointer (some ⟨w.heap.size, 0, none⟩)]] w' fun e w2 => ∃ k, e = .returned (.slice (some ⟨blk, 0, none⟩) k cap) ∧ ∃ h, Rw blk k (fun _ => True) w1 w2 h ∧ Cd id g h n k) :=
    fun w' g S' O' => by rw [← hbx]; exact compact_any bx blk n cap _ id g w1 w' (eqI_any bx blk w1 ct hlt hne) S' O' hcap hcx hn
  have HF : Aside (Fr (One blk) w w1) := F1
  clear F1 F1' S1 ct hc hz hs1 hlt hne
  clear hbx hw1
  go_enter Tryd.func44, Tryd.ntmps44
  go_wp2_with (first
    | (go_at_call 61; refine Calls.mono HS.out ?_; rintro e w2 ⟨rfl, g, hS, hP, hO⟩; have S2 : Aside (Rw blk n (fun _ => True) w1 w2 g) := hS; have P2 : Aside (Pm 0 n f g) := hP; have O2 : Aside (Srt id g 0 n) := hO; clear hS hP hO HS)
    | (go_at_call 64; refine Calls.mono (HE.out _ g S2.out O2.out) ?_; rintro e w3 ⟨k, rfl, h, hS, hD⟩; have S3 : Aside (Rw blk k (fun _ => True) w1 w3 h) := hS; have D3 : Aside (Cd id g h n k) := hD; clear hS hD HE))
  go_ret
  refine ⟨k, rfl, h, ⟨HF.out.same S3.out.fr, S3.out.c, D3.out.le, D3.out.rise, fun i hi => ?_, fun j hj => ?_⟩⟩
  · obtain ⟨j, j1, e⟩ := D3.out.of i hi
    obtain ⟨l, _, l1, e'⟩ := P2.out.fwd j (Nat.zero_le _) j1
    exact ⟨l, l1, e.trans e'⟩
  · obtain ⟨l, _, l1, e⟩ := P2.out.bwd j (Nat.zero_le _) hj
    obtain ⟨i, i1, e'⟩ := D3.out.all l l1
    exact ⟨i, i1, by rw [e', ← e]⟩
end Go.Proofs.YtlinekpaffgcjaaDoor.Si
