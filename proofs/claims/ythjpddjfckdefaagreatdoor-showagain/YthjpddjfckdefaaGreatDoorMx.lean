/- Blanks, remarks and empty lines between lines change no word: plain mathematics. Conditions: none. -/
import Derived.Test.YthjpddjfckdefaaGreatDoorMw
namespace Go.Proofs.YthjpddjfckdefaaGreatDoor.Pr
open _root_.Go.Proofs.YthjpddjfckdefaaGreatDoor.Op

theorem flush_snd (p q : Nat) (cur : List UInt8) : (flush p cur).map (·.2) = (flush q cur).map (·.2) := by
  unfold flush; split <;> rfl
theorem words_snd : ∀ (s : List UInt8) (p q : Nat) (cur : List UInt8), (wordsS s p cur).map (·.2) = (wordsS s q cur).map (·.2)
  | [], p, q, cur => flush_snd p q cur
  | b :: r, p, q, cur => by
    unfold wordsS
    split
    · rw [List.map_append, List.map_append, flush_snd p q cur, words_snd r (p + 1) (q + 1) []]
    · split
      · rfl
      · exact words_snd r _ _ _
theorem emit_conts (st st' : Nat) (cur : List UInt8) : conts (emit st cur) = conts (emit st' cur) := by
  have h := words_snd cur st st' []
  unfold emit
  by_cases h1 : wordsS cur st [] = []
  · have h2 : wordsS cur st' [] = [] := by rw [h1] at h; simpa using h.symm
    rw [if_pos h1, if_pos h2]
  · have h2 : ¬ wordsS cur st' [] = [] := fun e => h1 (by rw [e] at h; simpa using h)
    rw [if_neg h1, if_neg h2]
    show [(wordsS cur st []).map (·.2)] = [(wordsS cur st' []).map (·.2)]
    rw [h]
theorem conts_append (a b : List Ln) : conts (a ++ b) = conts a ++ conts b := List.map_append
/-- Where a text begins is nothing to its words. -/
theorem lines_conts : ∀ (s : List UInt8) (p q : Nat) (cur : List UInt8), conts (linesS s p cur) = conts (linesS s q cur)
  | [], p, q, cur => emit_conts p q cur
  | b :: r, p, q, cur => by
    unfold linesS
    split
    · rw [conts_append, conts_append, emit_conts p q cur, lines_conts r (p + cur.length + 1) (q + cur.length + 1) []]
    · exact lines_conts r _ _ _
end Go.Proofs.YthjpddjfckdefaaGreatDoor.Pr
