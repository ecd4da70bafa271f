/- What package parse's reader answers of a loop's body (body), and a block under way in memory: read off the program by the walk. Conditions: the reader's state lies in memory, the variables as the program lays them. -/
import Derived.Test.YthjpddjfckdefaaGreatDoorOq
namespace Go.Proofs.YthjpddjfckdefaaGreatDoor.Pr
open Go.ChangeShapes Go.WideShapes Go.ChangeAt Go.RowKit
open _root_.Go.Proofs.YthjpddjfckdefaaGreatDoor.Op
set_option maxRecDepth 20000

abbrev OpsC (qa qt mb : Nat) (s : ByteArray) (ls : List Ln) (x : List O × Ln × List Ln) : Prop := ∀ W, Rd W qa qt mb s ls → Calls Tryz.prog 53 #[.agg #[.func (.func 38) #[] #[.pointer (some ⟨qa, 0, none⟩), .pointer (some ⟨qt, 0, none⟩)], .map (some mb)]] W fun e w' => ∃ a c q, e = .returned (.tuple #[.slice a x.1.length c, .pointer (some ⟨q, 0, none⟩)]) ∧ LRow w' W.heap.size a c x.1 ∧ (∀ g, (Value.slice a x.1.length c).ownBlock = some g → g < q) ∧ (∀ o, o ∈ x.1 → o.Ok) ∧ x.1.length ≤ 65537 ∧ LIn w' q x.2.1 ∧ Rd w' qa qt mb s x.2.2 ∧ W.heap.size ≤ q ∧ Fr (One qa) W w'
abbrev OpsP (qa qt mb : Nat) (s : ByteArray) (ls : List Ln) (f : Wd') : Prop := ∀ W, Rd W qa qt mb s ls → Calls Tryz.prog 53 #[.agg #[.func (.func 38) #[] #[.pointer (some ⟨qa, 0, none⟩), .pointer (some ⟨qt, 0, none⟩)], .map (some mb)]] W fun e w' => Pan (One qa) f W e w'
theorem opsC {qa qt mb : Nat} {s : ByteArray} {ls : List Ln} {x : List O × Ln × List Ln} (h : opsR s.size ls = .ok x) : OpsC qa qt mb s ls x := fun W hr => by have := operations_any qa qt mb s ls W hr; rw [h] at this; exact this
theorem opsP {qa qt mb : Nat} {s : ByteArray} {ls : List Ln} {f : Wd'} (h : opsR s.size ls = .no f) : OpsP qa qt mb s ls f := fun W hr => by have := operations_any qa qt mb s ls W hr; rw [h] at this; exact this
abbrev TakC (q : Nat) (x : Wd') (r : List Wd') (en : Nat) : Prop := ∀ V, LIn V q ⟨x :: r, en⟩ → Calls Tryz.prog 54 #[.pointer (some ⟨q, 0, none⟩)] V fun e w' => e = .returned (.agg #[.int .i64 (x.1 : Int), .string ⟨x.2.toArray⟩]) ∧ LIn w' q ⟨r, en⟩ ∧ Fr (One q) V w'
abbrev ExaC (q : Nat) (s : List UInt8) (l l' : Ln) : Prop := ∀ V, LIn V q l → Calls Tryz.prog 51 #[.pointer (some ⟨q, 0, none⟩), .string ⟨s.toArray⟩] V fun e w' => e = .returned (.tuple #[]) ∧ LIn w' q l' ∧ Fr (One q) V w'
abbrev ExaP (q : Nat) (s : List UInt8) (l : Ln) (f : Wd') : Prop := ∀ V, LIn V q l → Calls Tryz.prog 51 #[.pointer (some ⟨q, 0, none⟩), .string ⟨s.toArray⟩] V fun e w' => Pan (One q) f V e w'
theorem exaC {q : Nat} {s : List UInt8} {l l' : Ln} (h : exactR s l = .ok l') : ExaC q s l l' := fun V h1 => by have := exactly_any q s l V h1; rw [h] at this; exact this
theorem exaP {q : Nat} {s : List UInt8} {l : Ln} {f : Wd'} (h : exactR s l = .no f) : ExaP q s l f := fun V h1 => by have := exactly_any q s l V h1; rw [h] at this; exact this
abbrev TarC (q : Nat) (l : Ln) (x : Int × Ln) : Prop := ∀ V, LIn V q l → Vars V → Calls Tryz.prog 55 #[.pointer (some ⟨q, 0, none⟩)] V fun e w' => e = .returned (.int .i64 x.1) ∧ LIn w' q x.2 ∧ Fr (One q) V w'
abbrev TarP (q : Nat) (l : Ln) (f : Wd') : Prop := ∀ V, LIn V q l → Vars V → Calls Tryz.prog 55 #[.pointer (some ⟨q, 0, none⟩)] V fun e w' => Pan (One q) f V e w'
theorem tarC {q : Nat} {l : Ln} {x : Int × Ln} (hq : 7 ≤ q) (h : numR l = .ok x) : TarC q l x := fun V h1 h2 => by have := target_any q l V h1 h2 hq; rw [h] at this; exact this
theorem tarP {q : Nat} {l : Ln} {f : Wd'} (hq : 7 ≤ q) (h : numR l = .no f) : TarP q l f := fun V h1 h2 => by have := target_any q l V h1 h2 hq; rw [h] at this; exact this

/-- A list of operations that is read, and the line behind it. -/
structure Od (w V : World) (qa qt mb : Nat) (s : ByteArray) (ls : List Ln) (a : Option Addr) (c : Nat) (xs : List O) (q : Nat) (l : Ln) : Prop where
  row : LRow V w.heap.size a c xs
  rq : ∀ g, (Value.slice a xs.length c).ownBlock = some g → g < q
  l : LIn V q l
  rd : Rd V qa qt mb s ls
  lt : w.heap.size ≤ q
  fr : Fr (One qa) w V
  mlt : mb < w.heap.size
theorem Od.take {w V V' : World} {qa qt mb : Nat} {s : ByteArray} {ls : List Ln} {a : Option Addr} {c : Nat} {xs : List O} {q : Nat} {l l' : Ln} (h : Od w V qa qt mb s ls a c xs q l) (hL : LIn V' q l') (hF : Fr (One q) V V') : Od w V' qa qt mb s ls a c xs q l' :=
  have h4 := h.mlt
  have h5 := h.lt
  ⟨row_fr h.row hF (fun g hg e => by have := h.rq g hg; subst e; omega), h.rq, hL, h.rd.far hF (by omega), h.lt, h.fr.new hF (by omega), h.mlt⟩

set_option maxHeartbeats 4000000 in
theorem body_any (qa qt mb : Nat) (s : ByteArray) (ls : List Ln) (w : World) (h : Rd w qa qt mb s ls) :
    Calls Tryz.prog 57 #[rdV qa qt mb] w (Does (One qa) (bodyR s.size ls) (fun x e w' => ∃ a c, e = .returned (.slice a x.1.length c) ∧ LRow w' w.heap.size a c x.1 ∧ (∀ o, o ∈ x.1 → o.Ok) ∧ x.1.length ≤ 65537 ∧ Rd w' qa qt mb s x.2 ∧ Fr (One qa) w w') w) := by
  have HR : Hid (Rd (w.alloc (.cells #[nextV qa qt, .map (some mb)] 80)) qa qt mb s ls) := h.up ((Below.refl _ _).alloc (Nat.le_refl _) _)
  have hm : mb < w.heap.size := h.m.lt
  clear h
  unfold rdV nextV
  unfold nextV at HR
  unfold bodyR
  cases e1 : opsR s.size ls with
  | no f =>
    have H1 : Hid (OpsP qa qt mb s ls f) := opsP e1
    rw [R.bind_no]
    clear e1
    go_enter Tryz.func57, Tryz.ntmps57
    go_wp2_with (first
      | (go_at_call 53; refine Calls.mono (H1.out _ HR.out) ?_; rintro e wp hp; have HP : Hid _ := hp.after (X := One qa) ((Fr.refl _ _).alloc _) (fun _ _ hk => hk); obtain ⟨fq, rfl, hp⟩ := hp; clear hp))
    exact ⟨rfl, HP.out⟩
  | ok y =>
    obtain ⟨xs, l, ls'⟩ := y
    have H1 : Hid (OpsC qa qt mb s ls (xs, l, ls')) := opsC e1
    rw [R.bind_ok]
    simp only
    have h2 : ∀ q V, LIn V q l → Calls Tryz.prog 51 #[.pointer (some ⟨q, 0, none⟩), .string ⟨#[125]⟩] V _ := fun q V hl => exactly_any q [125] l V hl
    cases e2 : exactR [125] l with
    | no f =>
      rw [e2] at h2
      have H2 : Hid (∀ q, ExaP q [125] l f) := h2
      rw [R.bind_no]
      clear e1 e2 h2
      go_enter Tryz.func57, Tryz.ntmps57
      go_wp2_with (first
        | (go_at_call 53; refine Calls.mono (H1.out _ HR.out) ?_; rintro e w1 ⟨a, c, q, rfl, hrow, hrq, hok, hlen, hL, hrd, hq, hF⟩; have HD : Hid (Od w w1 qa qt mb s ls' a c xs q l) := ⟨row_le hrow (by simp), hrq, hL, hrd, (by simp at hq; omega), ((Fr.refl _ _).alloc _).same hF, hm⟩; clear hrow hrq hL hrd hq hF H1)
        | (go_at_call 51; refine Calls.mono (H2.out q _ HD.out.l) ?_; rintro e wp hp; have HP : Hid _ := hp.after HD.out.fr (fun k hk hy => by have := HD.out.lt; subst hy; omega); obtain ⟨fq, rfl, hp⟩ := hp; clear hp))
      exact ⟨rfl, HP.out⟩
    | ok l2 =>
      rw [e2] at h2
      have H2 : Hid (∀ q, ExaC q [125] l l2) := h2
      rw [R.bind_ok]
      have h3 : ∀ q V, LIn V q l2 → Calls Tryz.prog 52 #[.pointer (some ⟨q, 0, none⟩)] V _ := fun q V hl => close_any q l2 V hl
      cases e3 : closeR l2 with
      | no f =>
        rw [e3] at h3
        have H3 : Hid (∀ q, CloP q l2 f) := h3
        rw [R.bind_no]
        clear e1 e2 e3 h2 h3
        go_enter Tryz.func57, Tryz.ntmps57
        go_wp2_with (first
          | (go_at_call 53; refine Calls.mono (H1.out _ HR.out) ?_; rintro e w1 ⟨a, c, q, rfl, hrow, hrq, hok, hlen, hL, hrd, hq, hF⟩; have HD : Hid (Od w w1 qa qt mb s ls' a c xs q l) := ⟨row_le hrow (by simp), hrq, hL, hrd, (by simp at hq; omega), ((Fr.refl _ _).alloc _).same hF, hm⟩; clear hrow hrq hL hrd hq hF H1)
          | (go_at_call 51; refine Calls.mono (H2.out q _ HD.out.l) ?_; rintro e w2 ⟨rfl, hL, hF⟩; have HD2 : Hid _ := HD.out.take hL hF; clear hL hF HD)
          | (go_at_call 52; refine Calls.mono (H3.out q _ HD2.out.l) ?_; rintro e wp hp; have HP : Hid _ := hp.after HD2.out.fr (fun k hk hy => by have := HD2.out.lt; subst hy; omega); obtain ⟨fq, rfl, hp⟩ := hp; clear hp))
        exact ⟨rfl, HP.out⟩
      | ok u =>
        rw [e3] at h3
        have H3 : Hid (∀ q, CloC q l2) := h3
        rw [R.bind_ok]
        clear e1 e2 e3 h2 h3
        go_enter Tryz.func57, Tryz.ntmps57
        go_wp2_with (first
          | (go_at_call 53; refine Calls.mono (H1.out _ HR.out) ?_; rintro e w1 ⟨a, c, q, rfl, hrow, hrq, hok, hlen, hL, hrd, hq, hF⟩; have HD : Hid (Od w w1 qa qt mb s ls' a c xs q l) := ⟨row_le hrow (by simp), hrq, hL, hrd, (by simp at hq; omega), ((Fr.refl _ _).alloc _).same hF, hm⟩; have HK : Hid ((∀ o, o ∈ xs → o.Ok) ∧ xs.length ≤ 65537) := ⟨hok, hlen⟩; clear hrow hrq hL hrd hq hF H1 hok hlen)
          | (go_at_call 51; refine Calls.mono (H2.out q _ HD.out.l) ?_; rintro e w2 ⟨rfl, hL, hF⟩; have HD2 : Hid _ := HD.out.take hL hF; clear hL hF HD)
          | (go_at_call 52; refine Calls.mono (H3.out q _ HD2.out.l) ?_; rintro e w' ⟨rfl, hw⟩; subst w'))
        go_ret
        exact ⟨a, c, rfl, HD2.out.row, HK.out.1, HK.out.2, HD2.out.rd, HD2.out.fr⟩
end Go.Proofs.YthjpddjfckdefaaGreatDoor.Pr
