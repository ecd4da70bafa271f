/- What is read of a text hangs on its words alone, and blanks, remarks and empty lines between lines change no word: plain mathematics. Conditions: none. -/
import Derived.Test.YthjpddjfckdefaaGreatDoorMr
namespace Go.Proofs.YthjpddjfckdefaaGreatDoor.Pr
open _root_.Go.Proofs.YthjpddjfckdefaaGreatDoor.Op

/-- A line's words without their places. -/
def cont (l : Ln) : List (List UInt8) := l.ws.map (·.2)
def conts (ls : List Ln) : List (List (List UInt8)) := ls.map cont
/-- Two results that are alike: both read, and related; or both refused. -/
def Al {α : Type} (P : α → α → Prop) (r r' : R α) : Prop := match r, r' with | .ok a, .ok b => P a b | .no _, .no _ => True | _, _ => False
theorem Al.bind {α β : Type} {P : α → α → Prop} {Q : β → β → Prop} {r r' : R α} {f f' : α → R β} (h : Al P r r') (g : ∀ a b, P a b → Al Q (f a) (f' b)) : Al Q (r.bind f) (r'.bind f') := by
  cases r <;> cases r' <;> simp only [Al] at h
  · exact g _ _ h
  · trivial
theorem al_take {l l' : Ln} (h : cont l = cont l') : Al (fun x y => x.1.2 = y.1.2 ∧ cont x.2 = cont y.2) (takeR l) (takeR l') := by
  obtain ⟨ws, en⟩ := l
  obtain ⟨ws', en'⟩ := l'
  unfold cont at h
  cases ws <;> cases ws' <;> simp at h
  · trivial
  · exact ⟨h.1, h.2⟩
theorem al_close {l l' : Ln} (h : cont l = cont l') : Al (fun _ _ => True) (closeR l) (closeR l') := by
  obtain ⟨ws, en⟩ := l
  obtain ⟨ws', en'⟩ := l'
  unfold cont at h
  cases ws <;> cases ws' <;> simp at h <;> trivial
theorem al_exact {l l' : Ln} (s : List UInt8) (h : cont l = cont l') : Al (fun x y => cont x = cont y) (exactR s l) (exactR s l') := by
  unfold exactR
  refine (al_take h).bind fun a b hab => ?_
  rw [hab.1]
  split
  · exact hab.2
  · trivial
theorem al_num {l l' : Ln} (h : cont l = cont l') : Al (fun x y => x.1 = y.1 ∧ cont x.2 = cont y.2) (numR l) (numR l') := by
  unfold numR
  refine (al_take h).bind fun a b hab => ?_
  rw [hab.1]
  cases numV b.1.2 with
  | none => trivial
  | some n => exact ⟨rfl, hab.2⟩
theorem al_reg {l l' : Ln} (h : cont l = cont l') : Al (fun x y => x.1 = y.1 ∧ cont x.2 = cont y.2) (regR l) (regR l') := by
  unfold regR
  refine (al_take h).bind fun a b hab => ?_
  rw [hab.1]
  cases regV b.1.2 with
  | none => trivial
  | some n => exact ⟨rfl, hab.2⟩
theorem al_regIf {l l' : Ln} (c : Bool) (h : cont l = cont l') : Al (fun x y => x.1 = y.1 ∧ cont x.2 = cont y.2) (regIf c l) (regIf c l') := by
  unfold regIf
  split
  · exact al_reg h
  · exact ⟨rfl, h⟩
theorem al_numIf {l l' : Ln} (c : Bool) (h : cont l = cont l') : Al (fun x y => x.1 = y.1 ∧ cont x.2 = cont y.2) (numIf c l) (numIf c l') := by
  unfold numIf
  split
  · exact al_num h
  · exact ⟨rfl, h⟩
theorem al_read (d f : Nat) {l l' : Ln} (h : cont l = cont l') : Al (fun x y => x = y) (readR d f l) (readR d f l') := by
  unfold readR
  refine (al_regIf _ h).bind fun a b h1 => (al_regIf _ h1.2).bind fun a2 b2 h2 => (al_regIf _ h2.2).bind fun a3 b3 h3 => (al_numIf _ h3.2).bind fun a4 b4 h4 => (al_close h4.2).bind fun _ _ _ => ?_
  show _ = _
  rw [h1.1, h2.1, h3.1, h4.1]
theorem firstL_cont {l l' : Ln} (h : cont l = cont l') : firstL l = firstL l' := by
  obtain ⟨ws, en⟩ := l
  obtain ⟨ws', en'⟩ := l'
  unfold cont at h
  cases ws <;> cases ws' <;> simp at h
  · rfl
  · exact h.1
theorem cont_tail {l l' : Ln} (h : cont l = cont l') : cont ⟨l.ws.tail, l.en⟩ = cont ⟨l'.ws.tail, l'.en⟩ := by
  unfold cont at h ⊢
  simp only [List.map_tail]
  rw [h]
theorem al_ops (m m' : Nat) : ∀ (ls ls' : List Ln), conts ls = conts ls' → Al (fun x y => x.1 = y.1 ∧ cont x.2.1 = cont y.2.1 ∧ conts x.2.2 = conts y.2.2) (opsR m ls) (opsR m' ls')
  | [], [], _ => ⟨rfl, rfl, rfl⟩
  | [], _ :: _, h => by simp [conts] at h
  | _ :: _, [], h => by simp [conts] at h
  | l :: ls, l' :: ls', h => by
    have h1 : cont l = cont l' := by simp [conts] at h; exact h.1
    have h2 : conts ls = conts ls' := by simp [conts] at h; simpa [conts] using h.2
    unfold opsR
    rw [firstL_cont h1]
    cases shapeOf (firstL l') with
    | none => exact ⟨rfl, h1, h2⟩
    | some sh =>
      refine (al_read _ _ (cont_tail h1)).bind fun o o' ho => (al_ops m m' ls ls' h2).bind fun a b hab => ?_
      exact ⟨by rw [ho, hab.1], hab.2.1, hab.2.2⟩
theorem al_body (m m' : Nat) {ls ls' : List Ln} (h : conts ls = conts ls') : Al (fun x y => x.1 = y.1 ∧ conts x.2 = conts y.2) (bodyR m ls) (bodyR m' ls') := by
  unfold bodyR
  refine (al_ops m m' ls ls' h).bind fun a b hab => (al_exact _ hab.2.1).bind fun c d hc => (al_close hc).bind fun _ _ _ => ?_
  exact ⟨hab.1, hab.2.2⟩
theorem conts_tail {ls ls' : List Ln} (h : conts ls = conts ls') : conts ls.tail = conts ls'.tail := by
  unfold conts at h ⊢
  rw [List.map_tail, List.map_tail, h]
theorem cont_next (m m' : Nat) {ls ls' : List Ln} (h : conts ls = conts ls') : cont (nextL m ls) = cont (nextL m' ls') := by
  cases ls <;> cases ls' <;> simp [conts] at h
  · rfl
  · exact h.1
theorem al_end (m m' : Nat) (os : List O) {l l' : Ln} {ls ls' : List Ln} (hl : cont l = cont l') (h : conts ls = conts ls') : Al (fun x y => x.1 = y.1 ∧ conts x.2 = conts y.2) (endR m os l ls) (endR m' os l' ls') := by
  unfold endR
  refine (al_take hl).bind fun a b hab => ?_
  rw [hab.1]
  split
  · refine (al_num hab.2).bind fun t t' ht => (al_close ht.2).bind fun _ _ _ => ⟨?_, h⟩
    simp only [ht.1]
  split
  · refine (al_reg hab.2).bind fun x y hx => (al_num hx.2).bind fun t t' ht => (al_num ht.2).bind fun e e' he => (al_close he.2).bind fun _ _ _ => ⟨?_, h⟩
    simp only [hx.1, ht.1, he.1]
  split
  · refine (al_reg hab.2).bind fun x y hx => (al_close hx.2).bind fun _ _ _ => ⟨?_, h⟩
    simp only [hx.1]
  split
  · refine (al_reg hab.2).bind fun x y hx => (al_exact _ hx.2).bind fun c d hc => (al_close hc).bind fun _ _ _ => (al_body m m' h).bind fun z z' hz => (al_exact _ (cont_next m m' hz.2)).bind fun u v hu => (al_num hu).bind fun t t' ht => (al_close ht.2).bind fun _ _ _ => ⟨?_, conts_tail hz.2⟩
    simp only [hx.1, hz.1, ht.1]
  · trivial
theorem al_block (m m' : Nat) {ls ls' : List Ln} (h : conts ls = conts ls') : Al (fun x y => x.1 = y.1 ∧ conts x.2 = conts y.2) (blockR m ls) (blockR m' ls') := by
  unfold blockR
  refine (al_ops m m' ls ls' h).bind fun a b hab => ?_
  rw [hab.1]
  exact al_end m m' _ hab.2.1 hab.2.2
theorem al_head (n : Nat) {l l' : Ln} (h : cont l = cont l') : Al (fun _ _ => True) (headR n l) (headR n l') := by
  unfold headR
  exact (al_exact _ h).bind fun a b hab => (al_exact _ hab).bind fun c d hc => al_close hc
theorem al_prog (m m' : Nat) : ∀ (k n : Nat) (ls ls' : List Ln), conts ls = conts ls' → Al (fun x y => x = y) (progR m k n ls) (progR m' k n ls')
  | 0, _, _, _, _ => rfl
  | k + 1, n, ls, ls', h => by
    unfold progR
    refine (al_head n (cont_next m m' h)).bind fun _ _ _ => (al_block m m' (conts_tail h)).bind fun a b hab => ?_
    obtain ⟨x, r⟩ := a
    obtain ⟨x', r'⟩ := b
    obtain ⟨h1, h2⟩ := hab
    simp only at h1 h2
    subst h1
    cases r with
    | nil => cases r' with
      | nil => exact rfl
      | cons _ _ => simp [conts] at h2
    | cons l r => cases r' with
      | nil => simp [conts] at h2
      | cons l' r' =>
        refine (al_prog m m' k (n + 1) (l :: r) (l' :: r') h2).bind fun a b hab => ?_
        show _ = _
        rw [hab]
end Go.Proofs.YthjpddjfckdefaaGreatDoor.Pr
