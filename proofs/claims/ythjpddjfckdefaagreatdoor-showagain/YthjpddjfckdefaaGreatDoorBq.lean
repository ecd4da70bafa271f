/- What package parse's reader answers of a block (block): read off the program by the walk. Conditions: the reader's state lies in memory, the variables as the program lays them. -/
import Derived.Test.YthjpddjfckdefaaGreatDoorBj
import Derived.Test.YthjpddjfckdefaaGreatDoorBk
import Derived.Test.YthjpddjfckdefaaGreatDoorBo
namespace Go.Proofs.YthjpddjfckdefaaGreatDoor.Pr
open Go.ChangeShapes Go.WideShapes Go.ChangeAt Go.RowKit
open _root_.Go.Proofs.YthjpddjfckdefaaGreatDoor.Op
set_option maxRecDepth 20000

set_option maxHeartbeats 1000000 in
theorem block_ops (qa qt mb : Nat) (s : ByteArray) (ls : List Ln) (fl : Wd') (w : World) (h : Rd w qa qt mb s ls) (hO : opsR s.size ls = .no fl) :
    Calls Tryz.prog 42 #[rdV qa qt mb] w fun e w' => Pan (One qa) fl w e w' := by
  have HR : Hid (Rd ((w.alloc (.cells #[nextV qa qt, .map (some mb)] 80)).alloc (.cells bz6 43)) qa qt mb s ls) := (h.up ((Below.refl _ _).alloc (Nat.le_refl _) _)).up ((Below.refl _ _).alloc (Nat.le_refl _) _)
  have H0 : Hid (OpsP qa qt mb s ls fl) := opsP hO
  clear h hO
  unfold rdV nextV
  unfold nextV at HR
  go_enter Tryz.func42, Tryz.ntmps42
  go_wp2_with (first
    | (go_at_call 53; refine Calls.mono (H0.out _ HR.out) ?_; rintro e wp hp; have HP : Hid _ := hp.after (X := One qa) (((Fr.refl _ _).alloc _).alloc _) (fun _ _ hk => hk); obtain ⟨fq, rfl, hp⟩ := hp; clear hp))
  exact ⟨rfl, HP.out⟩
set_option maxHeartbeats 1000000 in
theorem block_take (qa qt mb : Nat) (s : ByteArray) (ls ls' : List Ln) (os : List O) (en : Nat) (w : World) (h : Rd w qa qt mb s ls) (hO : opsR s.size ls = .ok (os, ⟨[], en⟩, ls')) :
    Calls Tryz.prog 42 #[rdV qa qt mb] w fun e w' => Pan (One qa) (en, []) w e w' := by
  have HR : Hid (Rd ((w.alloc (.cells #[nextV qa qt, .map (some mb)] 80)).alloc (.cells bz6 43)) qa qt mb s ls) := (h.up ((Below.refl _ _).alloc (Nat.le_refl _) _)).up ((Below.refl _ _).alloc (Nat.le_refl _) _)
  have hm : mb < w.heap.size := h.m.lt
  have H0 : Hid (OpsC qa qt mb s ls (os, ⟨[], en⟩, ls')) := opsC hO
  have HT : Hid (∀ q V, LIn V q ⟨[], en⟩ → Calls Tryz.prog 54 #[.pointer (some ⟨q, 0, none⟩)] V fun e w' => Pan Non (en, []) V e w') := fun q V hl => take_no q en V hl
  clear h hO
  unfold rdV nextV
  unfold nextV at HR
  go_enter Tryz.func42, Tryz.ntmps42
  go_wp2_with (first
    | (go_at_call 53; refine Calls.mono (H0.out _ HR.out) ?_; rintro e w1 ⟨a, c, q, rfl, hrow, hrq, hok, hlen, hL, hrd, hq, hF⟩; have HS : Hid (Bs w (w1.alloc (.cells #[.slice a os.length c, .int .i8 0, .int .u8 0, .slice none 0 0, .int .i64 0, .int .i64 0] 43)) qa qt mb s ls' w1.heap.size ⟨os, 0, 0, [], 0, 0⟩ ⟨a, c, none, 0⟩ q ⟨[], en⟩) := Bs.start hm (row_le hrow (by simp)) hrq hL hrd (by simpa using hq) hF; clear hrow hrq hok hlen hL hrd hq hF H0 HR)
    | (go_at_call 54; refine Calls.mono (HT.out q _ HS.out.l) ?_; rintro e wp hp; have HP : Hid _ := hp.after HS.out.t.fr (fun _ _ hk => hk.elim); obtain ⟨fq, rfl, hp⟩ := hp; clear hp))
  exact ⟨rfl, HP.out⟩
set_option maxHeartbeats 1000000 in
theorem block_other (qa qt mb : Nat) (s : ByteArray) (ls ls' : List Ln) (os : List O) (x : Wd') (r : List Wd') (en : Nat) (w : World) (h : Rd w qa qt mb s ls) (hO : opsR s.size ls = .ok (os, ⟨x :: r, en⟩, ls')) (h1 : ¬ x.2 = [106, 117, 109, 112]) (h2 : ¬ x.2 = [98, 114, 97, 110, 99, 104]) (h3 : ¬ x.2 = [104, 97, 108, 116]) (h4 : ¬ x.2 = [108, 111, 111, 112]) :
    Calls Tryz.prog 42 #[rdV qa qt mb] w fun e w' => Pan (One qa) x w e w' := by
  have HR : Hid (Rd ((w.alloc (.cells #[nextV qa qt, .map (some mb)] 80)).alloc (.cells bz6 43)) qa qt mb s ls) := (h.up ((Below.refl _ _).alloc (Nat.le_refl _) _)).up ((Below.refl _ _).alloc (Nat.le_refl _) _)
  have hm : mb < w.heap.size := h.m.lt
  have H0 : Hid (OpsC qa qt mb s ls (os, ⟨x :: r, en⟩, ls')) := opsC hO
  have HT : Hid (∀ q, TakC q x r en) := fun q V hl => take_ok q en x r V hl
  have HF : Hid (x.2.length ≤ 65536 → ∀ V, Calls Tryz.prog 58 #[.agg #[.int .i64 (x.1 : Int), .string ⟨x.2.toArray⟩]] V fun e w' => Pan Non x V e w') := fun hx V => refuse_any x V hx
  have g1 : (x.2 == [106, 117, 109, 112]) = false := by simpa using h1
  have g2 : (x.2 == [98, 114, 97, 110, 99, 104]) = false := by simpa using h2
  have g3 : (x.2 == [104, 97, 108, 116]) = false := by simpa using h3
  have g4 : (x.2 == [108, 111, 111, 112]) = false := by simpa using h4
  clear h hO h1 h2 h3 h4
  unfold rdV nextV
  unfold nextV at HR
  go_enter Tryz.func42, Tryz.ntmps42
  go_wp2_with (first
    | (go_at_call 53; refine Calls.mono (H0.out _ HR.out) ?_; rintro e w1 ⟨a, c, q, rfl, hrow, hrq, hok, hlen, hL, hrd, hq, hF⟩; have HK : Hid (x.2.length ≤ 65536) := hL.ok.2; have HS : Hid (Bs w (w1.alloc (.cells #[.slice a os.length c, .int .i8 0, .int .u8 0, .slice none 0 0, .int .i64 0, .int .i64 0] 43)) qa qt mb s ls' w1.heap.size ⟨os, 0, 0, [], 0, 0⟩ ⟨a, c, none, 0⟩ q ⟨x :: r, en⟩) := Bs.start hm (row_le hrow (by simp)) hrq hL hrd (by simpa using hq) hF; clear hrow hrq hok hlen hL hrd hq hF H0 HR)
    | (go_at_call 54; refine Calls.mono (HT.out q _ HS.out.l) ?_; rintro e w2 ⟨rfl, hL, hF⟩; have HS2 : Hid (Bs w (w2.alloc (.cells #[.int .i64 (x.1 : Int), .string ⟨x.2.toArray⟩] 108)) qa qt mb s ls' w1.heap.size ⟨os, 0, 0, [], 0, 0⟩ ⟨a, c, none, 0⟩ q ⟨r, en⟩) := (HS.out.line hL hF).go ((Below.refl _ _).alloc (Nat.le_refl _) _); clear HS hL hF HT; have HS : Hid _ := HS2.out; clear HS2)
    | (go_at_call 58; refine Calls.mono (HF.out HK.out _) ?_; rintro e wp hp; have HP : Hid _ := hp.after HS.out.t.fr (fun _ _ hk => hk.elim); obtain ⟨fq, rfl, hp⟩ := hp; clear hp))
  exact ⟨rfl, HP.out⟩

theorem block_any (qa qt mb : Nat) (s : ByteArray) (ls : List Ln) (w : World) (h : Rd w qa qt mb s ls) : Calls Tryz.prog 42 #[rdV qa qt mb] w (Does (One qa) (blockR s.size ls) (BlPost w qa qt mb s) w) := by
  unfold blockR
  cases hO : opsR s.size ls with
  | no fl => exact block_ops qa qt mb s ls fl w h hO
  | ok y =>
    obtain ⟨os, ⟨ws, en⟩, ls'⟩ := y
    rw [R.bind_ok]
    cases ws with
    | nil => exact block_take qa qt mb s ls ls' os en w h hO
    | cons x r =>
      simp only [endR, takeR_cons, R.bind_ok]
      by_cases h1 : x.2 = [106, 117, 109, 112]
      · rw [if_pos h1]; exact block_jump qa qt mb s ls ls' os x r en w h hO h1
      · rw [if_neg h1]
        by_cases h2 : x.2 = [98, 114, 97, 110, 99, 104]
        · rw [if_pos h2]; exact block_branch qa qt mb s ls ls' os x r en w h hO h2
        · rw [if_neg h2]
          by_cases h3 : x.2 = [104, 97, 108, 116]
          · rw [if_pos h3]; exact block_halt qa qt mb s ls ls' os x r en w h hO h3
          · rw [if_neg h3]
            by_cases h4 : x.2 = [108, 111, 111, 112]
            · rw [if_pos h4]; exact block_loop qa qt mb s ls ls' os x r en w h hO h4
            · rw [if_neg h4]; exact block_other qa qt mb s ls ls' os x r en w h hO h1 h2 h3 h4

/-! ### what is read is of the right kind -/
theorem opsR_ok (m : Nat) : ∀ (ls : List Ln) os l r, opsR m ls = .ok (os, l, r) → ∀ o, o ∈ os → o.Ok
  | [], os, l, r, h => by
    simp only [opsR, R.ok.injEq, Prod.mk.injEq] at h
    obtain ⟨rfl, rfl, rfl⟩ := h; simp
  | x :: ls, os, l, r, h => by
    unfold opsR at h
    cases hs : shapeOf (firstL x) with
    | none =>
      rw [hs] at h
      simp only [R.ok.injEq, Prod.mk.injEq] at h
      obtain ⟨rfl, rfl, rfl⟩ := h; simp
    | some sh =>
      rw [hs] at h
      obtain ⟨o, ho, h⟩ := R.bind_some h
      obtain ⟨y, hy, h⟩ := R.bind_some h
      cases h
      obtain ⟨z, hz, e⟩ := shape_mem hs
      have hd := shape_d z hz
      rw [e] at hd
      intro o' h'
      rcases List.mem_cons.1 h' with rfl | h'
      · exact readR_ok ho hd
      · exact opsR_ok m ls _ _ _ hy o' h'
/-- A block of the right kind. -/
structure BkOk (x : Bk) : Prop where
  ok : x.Ok
  o : ∀ o, o ∈ x.ops → o.Ok
  y : ∀ o, o ∈ x.body → o.Ok
theorem bodyR_ok {m : Nat} {ls : List Ln} {x : List O × List Ln} (h : bodyR m ls = .ok x) : (∀ o, o ∈ x.1 → o.Ok) ∧ x.1.length ≤ ls.length ∧ x.2.length ≤ ls.length := by
  unfold bodyR at h
  obtain ⟨⟨os, l, r⟩, h1, h⟩ := R.bind_some h
  obtain ⟨_, _, h⟩ := R.bind_some h
  obtain ⟨_, _, h⟩ := R.bind_some h
  cases h
  exact ⟨opsR_ok m ls _ _ _ h1, (opsR_le m ls _ _ _ h1).2.1, (opsR_le m ls _ _ _ h1).1⟩
theorem blockR_ok {m : Nat} {ls : List Ln} {x : Bk × List Ln} (h : blockR m ls = .ok x) : BkOk x.1 ∧ x.1.ops.length ≤ ls.length ∧ x.1.body.length ≤ ls.length ∧ x.2.length ≤ ls.length := by
  unfold blockR at h
  obtain ⟨⟨os, l, r⟩, h1, h⟩ := R.bind_some h
  have h2 := opsR_ok m ls _ _ _ h1
  obtain ⟨h3, h4, _⟩ := opsR_le m ls _ _ _ h1
  unfold endR at h
  obtain ⟨y, _, h⟩ := R.bind_some h
  simp only at h
  split at h
  · obtain ⟨t, ht, h⟩ := R.bind_some h
    obtain ⟨_, _, h⟩ := R.bind_some h
    cases h
    have := numR_bd ht
    exact ⟨⟨by constructor <;> simp only <;> omega, h2, by simp⟩, h4, by simp, h3⟩
  split at h
  · obtain ⟨a, ha, h⟩ := R.bind_some h
    obtain ⟨t, ht, h⟩ := R.bind_some h
    obtain ⟨e, he, h⟩ := R.bind_some h
    obtain ⟨_, _, h⟩ := R.bind_some h
    cases h
    have := numR_bd ht; have := numR_bd he; have := regR_lt ha
    exact ⟨⟨by constructor <;> simp only <;> omega, h2, by simp⟩, h4, by simp, h3⟩
  split at h
  · obtain ⟨a, ha, h⟩ := R.bind_some h
    obtain ⟨_, _, h⟩ := R.bind_some h
    cases h
    have := regR_lt ha
    exact ⟨⟨by constructor <;> simp only <;> omega, h2, by simp⟩, h4, by simp, h3⟩
  split at h
  · obtain ⟨a, ha, h⟩ := R.bind_some h
    obtain ⟨_, _, h⟩ := R.bind_some h
    obtain ⟨_, _, h⟩ := R.bind_some h
    obtain ⟨b, hb, h⟩ := R.bind_some h
    obtain ⟨_, _, h⟩ := R.bind_some h
    obtain ⟨t, ht, h⟩ := R.bind_some h
    obtain ⟨_, _, h⟩ := R.bind_some h
    cases h
    have := numR_bd ht; have := regR_lt ha
    obtain ⟨b1, b2, b3⟩ := bodyR_ok hb
    refine ⟨⟨by constructor <;> simp only <;> omega, h2, b1⟩, h4, ?_, ?_⟩
    · exact Nat.le_trans b2 h3
    · simp only [List.length_tail]; omega
  · cases h
end Go.Proofs.YthjpddjfckdefaaGreatDoor.Pr
