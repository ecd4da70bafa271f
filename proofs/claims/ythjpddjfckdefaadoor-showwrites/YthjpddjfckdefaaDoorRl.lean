/- The document's lines: read off the program by the walk. Conditions: the operations lie in memory. -/
import Derived.Test.YthjpddjfckdefaaDoorRd
namespace Go.Proofs.YthjpddjfckdefaaDoor.Op
open Go.ChangeShapes Go.WideShapes Go.ChangeAt Go.RowKit
set_option maxRecDepth 20000

theorem cat_l (a b : List UInt8) (h : a.length + b.length ≤ 1000000) (P : Program) (w : World) : (Op.stringOp .add ⟨a.toArray⟩ ⟨b.toArray⟩).run P w = .ok (.string ⟨(a ++ b).toArray⟩) w := by
  obtain ⟨c, hc, _, hr⟩ := cat_rule ⟨a.toArray⟩ ⟨b.toArray⟩ a.length b.length (by rw [ba_size]; omega) (by rw [ba_size]; omega) h
  rw [hr P w]
  have : c = ⟨(a ++ b).toArray⟩ := ba_eq (by rw [hc])
  rw [this]
set_option maxHeartbeats 2000000 in
theorem rlines_any (ao : Option Addr) (c : Nat) (xs : List O) (bl : List UInt8) (w : World) (hO : OpsAt w ao xs) (hok : ∀ o ∈ xs, okO o = true) (hl : (linesL bl xs).length ≤ 900000) (hb : bl.length ≤ 100) :
    Calls Tryd.prog 16 #[.slice ao xs.length c, .string ⟨bl.toArray⟩] w fun e w' => e = .returned (.string ⟨(linesL bl xs).toArray⟩) ∧ Below w.heap.size w w' := by
  have HO : Hid (OpsAt w ao xs) := hO
  have HK : Hid _ := hok
  have hlen := hO.len
  have HL : Hid (∀ k, (linesL bl (xs.take k)).length ≤ 900000) := fun k => Nat.le_trans (linesL_le bl xs k) hl
  clear hO hok hl
  go_enter Tryd.func16, Tryd.ntmps16
  go_wp2
  go_loopw [5, 6] (fun s i wr => ∃ k : Nat, k ≤ xs.length ∧ i = .int .i64 k ∧ s = .string ⟨(linesL bl (xs.take k)).toArray⟩ ∧ Below w.heap.size w wr) (fun _ i _ => xs.length - (intOf i).toNat)
  case atStart => exact ⟨0, by omega, rfl, rfl, Below.refl _ _⟩
  case round =>
    rename_i wr
    obtain ⟨k, hk, rfl, rfl, hbel⟩ := hrel
    have HS : Hid (Below w.heap.size w wr) := hbel
    by_cases hlt : k < xs.length
    · have ho1 := HO.out.below hbel
      obtain ⟨b, f, rfl, hz, hat⟩ := ho1.is (by omega)
      obtain ⟨c0, c1, c2, c3, c4⟩ := hat k hlt
      have hoo := HO.out.ok xs[k] (List.getElem_mem hlt)
      obtain ⟨kk, hkk, hff, hop⟩ := okO_text (HK.out xs[k] (List.getElem_mem hlt))
      have htl := linesL_take bl xs k hlt
      rw [hop] at htl
      have hxl := text_len kk xs[k] hoo (name_len hkk)
      have hL := HL.out k
      have HT : Hid (∀ W, Calls Tryd.prog 32 #[xs[k].val] W fun e w' => e = .returned (.tuple #[.string ⟨(textL kk xs[k]).toArray⟩, .int .i64 0]) ∧ Below W.heap.size W w') := fun W => refText_yes xs[k] kk W hoo hkk hff
      unfold O.val at HT
      have a1 := cat_l (linesL bl (xs.take k)) bl (by omega)
      have a2 := cat_l (linesL bl (xs.take k) ++ bl) (textL kk xs[k]) (by rw [List.length_append]; omega)
      have a3 := cat_l (linesL bl (xs.take k) ++ bl ++ textL kk xs[k]) [10] (by simp only [List.length_append, List.length_singleton]; omega)
      rw [show linesL bl (xs.take k) ++ bl ++ textL kk xs[k] ++ [10] = linesL bl (xs.take (k + 1)) by rw [htl]; simp] at a3
      obtain ⟨s4, hs4⟩ : ∃ s, s = linesL bl (xs.take (k + 1)) := ⟨_, rfl⟩
      rw [← hs4] at a3
      have HS4 : Hid _ := hs4
      clear hbel ho1 hat hop hkk hff htl hxl hL hs4
      generalize textL kk xs[k] = tx at *
      generalize xs[k] = o at *
      generalize linesL bl (xs.take k) ++ bl ++ tx = s3 at *
      generalize linesL bl (xs.take k) ++ bl = s2 at *
      generalize linesL bl (xs.take k) = s1 at *
      go_wp2_with (first | (go_at_call 32; refine Calls.mono (HT.out _) ?_; rintro e w1 ⟨rfl, hb1⟩; have HS1 : Hid (Below w.heap.size w w1) := HS.out.trans (hb1.mono HS.out.size); clear hb1 HT HS))
      go_roundw
      case rel => exact ⟨k + 1, by omega, by go_num, by rw [HS4.out], HS1.out⟩
      case measure => simp [intOf]; omega
    · obtain rfl : k = xs.length := by omega
      clear hbel
      rw [List.take_length]
      go_wp2
      go_ret
      exact ⟨rfl, HS.out⟩
end Go.Proofs.YthjpddjfckdefaaDoor.Op
