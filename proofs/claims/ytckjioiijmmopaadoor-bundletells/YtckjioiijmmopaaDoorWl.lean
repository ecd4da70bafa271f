/- What BundleJust answers: true. Conditions: words and the table's bounds lie in memory. -/
import Derived.Test.YtckjioiijmmopaaDoorWk
namespace Go.Proofs.YtckjioiijmmopaaDoor.Bu
open Go.ChangeShapes Go.WideShapes Go.ChangeAt Go.RowKit
open _root_.Go.Proofs.YtckjioiijmmopaaDoor.Op
open _root_.Go.Proofs.YtckjioiijmmopaaDoor.Tb (Tab TabAt Bnds four tabAt_new ckR)
open _root_.Go.Proofs.YtckjioiijmmopaaDoor.So
set_option maxRecDepth 20000

set_option maxHeartbeats 2000000 in
theorem law_just (ao : Option Addr) (n cap : Nat) (v : Nat → Int) (t : Tab) (w : World) (hx : Ws w ao n v) (hc : n ≤ cap) (hn : n ≤ 17592186044416) (hG : Bnds w) :
    Calls Tryd.prog 5 #[.slice ao n cap, t.val] w fun e w' => e = .returned (.bool true) ∧ Below w.heap.size w w' := by
  have HK : Hid (∀ W, Below w.heap.size w W → Calls Tryd.prog 15 #[] W fun e w' => e = .returned (.bool true) ∧ Below W.heap.size W w') := fun W hb => wakes_any W (hG.below hb hG.big)
  by_cases he : deE t v n = 0
  · have HD : Hid (∀ W, Below w.heap.size w W → Calls Tryd.prog 9 #[.slice ao n cap, t.val] W fun e w' => ∃ b, e = .returned (.tuple #[.slice (some ⟨b, 0, none⟩) (n / ofs t 4) (n / ofs t 4), .int .i64 0]) ∧ BsAt w' (some ⟨b, 0, none⟩) (deL t v (n / ofs t 4)) ∧ Below W.heap.size W w') := fun W hb => dec_yes ao n cap v t W (hx.below hb) hc (hG.below hb hG.big) hn he
    obtain ⟨h1, h2, h3, h4⟩ := deE_ok he
    have hmul : n / ofs t 4 * ofs t 4 = n := Nat.div_mul_cancel (Nat.dvd_of_mod_eq_zero h2)
    have hwf := de_wf h4
    have hen : enE t (deL t v (n / ofs t 4)) = 0 := by
      unfold enE
      rw [h1, hwf, deL_len, if_pos rfl, if_neg (by omega), if_pos rfl]
    have hju := de_just (t := t) (v := v) (n := n / ofs t 4) h4 (fun j hj => (hx.ok j (by omega)).1)
    rw [hmul] at hju
    have HE : Hid (∀ b W, Below w.heap.size w W → BsAt W (some ⟨b, 0, none⟩) (deL t v (n / ofs t 4)) → Calls Tryd.prog 7 #[.slice (some ⟨b, 0, none⟩) (n / ofs t 4) (n / ofs t 4), t.val] W fun e w' => ∃ b, e = .returned (.tuple #[.slice (some ⟨b, 0, none⟩) n n, .int .i64 0]) ∧ Ws w' (some ⟨b, 0, none⟩) n v ∧ Below W.heap.size W w') := fun b W hb hB => by
      have := enc_yes (some ⟨b, 0, none⟩) (n / ofs t 4) _ t W hB (hG.below hb hG.big) hen
      rw [deL_len, hmul, hju] at this
      refine this.mono fun e w' ⟨b', e1, e2, _, e4⟩ => ⟨b', e1, (e2.ws ?_).same fun j hj => by simp [List.getD_eq_getElem?_getD, hj], e4⟩
      intro y hy
      obtain ⟨j, hj, rfl⟩ := List.mem_map.1 hy
      exact hx.ok j (List.mem_range.1 hj)
    have HWo : Hid (∀ b W, Below w.heap.size w W → Ws W (some ⟨b, 0, none⟩) n v → Calls Tryd.prog 13 #[.slice (some ⟨b, 0, none⟩) n n, .slice ao n cap] W fun e w' => e = .returned (.bool true) ∧ Below W.heap.size W w') := fun b W hb hw => by
      have := words_any (some ⟨b, 0, none⟩) ao n n n cap v v W hw (hx.below hb) hn hn
      rw [eqB_yes fun _ _ => rfl] at this
      exact this
    clear he h1 h2 h3 h4 hwf hen hju hG hx hmul
    generalize hLL : deL t v (n / ofs t 4) = L at *
    clear hLL
    generalize n / ofs t 4 = cnt at *
    unfold Tab.val at *
    go_enter Tryd.func5, Tryd.ntmps5
    go_wp2_with (first
      | (go_at_call 9; refine Calls.mono (HD.out _ (by go_grown)) ?_; rintro e w1 ⟨b, rfl, hB, hb⟩; have HS1 : Hid (TabAt w1 w.heap.size t ∧ Below w.heap.size w w1 ∧ BsAt w1 (some ⟨b, 0, none⟩) L) := ⟨(tabAt_new w t 26).below hb (by simp), (by go_grown : Below w.heap.size w (w.alloc (.cells t.cells 26))).trans (hb.mono (by simp)), hB⟩; clear hb hB; have k2 := HS1.out.1; have qu0 := k2.cu 0 (by decide); have qu1 := k2.cu 1 (by decide); have qu2 := k2.cu 2 (by decide); have qu3 := k2.cu 3 (by decide); have ql0 := k2.cl 0 (by decide); have ql1 := k2.cl 1 (by decide); have ql2 := k2.cl 2 (by decide); have ql3 := k2.cl 3 (by decide); have qb0 := k2.cb 0 (by decide); have qb1 := k2.cb 1 (by decide); have qb2 := k2.cb 2 (by decide); have qb3 := k2.cb 3 (by decide); have qd := k2.cd; have qz := k2.lt; clear k2)
      | (go_at_call 7; refine Calls.mono (HE.out _ _ HS1.out.2.1 HS1.out.2.2) ?_; rintro e w2 ⟨b2, rfl, hw2, hb⟩; have HS2 : Hid (Below w.heap.size w w2 ∧ Ws w2 (some ⟨b2, 0, none⟩) n v) := ⟨HS1.out.2.1.trans (hb.mono HS1.out.2.1.size), hw2⟩; clear hb hw2 qu0 qu1 qu2 qu3 ql0 ql1 ql2 ql3 qb0 qb1 qb2 qb3 qd qz)
      | (go_at_call 13; refine Calls.mono (HWo.out _ _ HS2.out.1 HS2.out.2) ?_; rintro e w3 ⟨rfl, hb⟩; have HS3 : Hid (Below w.heap.size w w3) := HS2.out.1.trans (hb.mono HS2.out.1.size); clear hb)
      | (go_at_call 15; refine Calls.mono (HK.out _ HS3.out) ?_; rintro e w9 ⟨rfl, hb9⟩; have HS9 : Hid (Below w.heap.size w w9) := HS3.out.trans (hb9.mono HS3.out.size); clear hb9))
    go_ret
    exact ⟨rfl, HS9.out⟩
  · have HD : Hid (∀ W, Below w.heap.size w W → Calls Tryd.prog 9 #[.slice ao n cap, t.val] W fun e w' => e = .returned (.tuple #[.slice none 0 0, .int .i64 (deE t v n)]) ∧ Below W.heap.size W w') := fun W hb => dec_no ao n cap v t W (hx.below hb) hc (hG.below hb hG.big) hn he
    have he' : (deE t v n != 0) = true := by simpa using he
    obtain ⟨i0, i1⟩ := deE_in t v n
    clear he hG hx
    generalize deE t v n = er at *
    unfold Tab.val at *
    go_enter Tryd.func5, Tryd.ntmps5
    go_wp2_with (first
      | (go_at_call 9; refine Calls.mono (HD.out _ (by go_grown)) ?_; rintro e w1 ⟨rfl, hb⟩; have HS1 : Hid (TabAt w1 w.heap.size t ∧ Below w.heap.size w w1) := ⟨(tabAt_new w t 26).below hb (by simp), (by go_grown : Below w.heap.size w (w.alloc (.cells t.cells 26))).trans (hb.mono (by simp))⟩; clear hb)
      | (go_at_call 15; refine Calls.mono (HK.out _ HS1.out.2) ?_; rintro e w9 ⟨rfl, hb9⟩; have HS9 : Hid (Below w.heap.size w w9) := HS1.out.2.trans (hb9.mono HS1.out.2.size); clear hb9))
    go_ret
    exact ⟨rfl, HS9.out⟩
end Go.Proofs.YtckjioiijmmopaaDoor.Bu
