/- What package parse's line answers of a register (register), and of the line that begins a block (blockLine): read off the program by the walk. Conditions: the line lies in memory, the variables as the program lays them. -/
import Derived.Test.YthjpddjfckdefaaGreatDoorNm
import Derived.Lib.ItoaLen
namespace Go.Proofs.YthjpddjfckdefaaGreatDoor.Pr
open Go.ChangeShapes Go.WideShapes Go.ChangeAt Go.RowKit
open _root_.Go.Proofs.YthjpddjfckdefaaGreatDoor.Op
set_option maxRecDepth 20000

theorem cat_list (a b : List UInt8) (h : a.length + b.length ≤ 1000000) (w : World) : (Op.stringOp .add ⟨a.toArray⟩ ⟨b.toArray⟩).run Tryz.prog w = .ok (.string ⟨(a ++ b).toArray⟩) w := by
  have ha := size_list a
  have hb := size_list b
  have hc : (⟨a.toArray⟩ : ByteArray) ++ ⟨b.toArray⟩ = ⟨(a ++ b).toArray⟩ := by
    apply ba_eq; simp
  rw [← hc]
  exact run_string_add_sum w ⟨a.toArray⟩ ⟨b.toArray⟩ (by omega)
/-- What of a word is read as a register's number. -/
def regD (s : List UInt8) : List UInt8 := if [114].isPrefixOf s then s.drop 1 else s
theorem regD_len (s : List UInt8) : (regD s).length ≤ s.length := by unfold regD; split <;> simp
set_option maxHeartbeats 2000000 in
theorem register_bad (q en : Nat) (x : Wd') (r : List Wd') (w : World) (h : LIn w q ⟨x :: r, en⟩) (hV : Vars w) (hq : 7 ≤ q)
    (hI : ∀ w', Vars w' → Calls Tryz.prog 71 #[.string ⟨(regD x.2).toArray⟩, .int .i64 10, .int .i64 8] w' fun e w2 => Below w'.heap.size w' w2 ∧ ∃ n p, e = .returned (.tuple #[.int .u64 n, .iface 160 p])) :
    Calls Tryz.prog 56 #[.pointer (some ⟨q, 0, none⟩)] w fun e w' => Pan (One q) x w e w' := by
  have HT : Hid _ := take_ok q en x r w h
  have HF : Hid _ := fun w' => refuse_any x w' h.ok.2
  have HC : Hid (∀ w', Calls Tryz.prog 70 #[.string ⟨x.2.toArray⟩, .string ⟨#[114]⟩] w' fun e w2 => ∃ b, e = .returned (.tuple #[.string ⟨(regD x.2).toArray⟩, .bool b]) ∧ w2 = w') := fun w' => (cutR_any x.2 w' h.ok.2).mono fun _ _ hh => ⟨_, hh⟩
  have HI : Hid _ := hI
  clear h hI
  generalize regD x.2 = rd at *
  go_enter Tryz.func56, Tryz.ntmps56
  go_wp2_with (first
    | (go_at_call 54; refine Calls.mono HT.out ?_; rintro e w1 ⟨rfl, hL, hF⟩; have HX : Hid _ := Tk.start (x := x) hV hq hL hF; clear hL hF hV)
    | (go_at_call 70; refine Calls.mono (HC.out _) ?_; rintro e w' ⟨cb, rfl, hw⟩; subst w')
    | (go_at_call 71; refine Calls.mono (HI.out _ HX.out.v) ?_; rintro e w2 ⟨hb, nv, pv, rfl⟩; have HY : Hid _ := HX.out.go hb; have b0 := HY.out.a.c 0 _ rfl; have b1 := HY.out.a.c 1 _ rfl; clear hb HX))
  go_quiet (fail)
  go_wp2_with (first
    | (go_at_call 58; refine Calls.mono (HF.out _) ?_; rintro e w3 hp; have HP : Hid _ := hp.after (HY.out.drew _).f fun _ _ hk => hk.elim; obtain ⟨fq, rfl, hp⟩ := hp; clear hp))
  exact ⟨rfl, HP.out⟩
set_option maxHeartbeats 2000000 in
theorem register_big (q en : Nat) (x : Wd') (r : List Wd') (n : Nat) (w : World) (h : LIn w q ⟨x :: r, en⟩) (hV : Vars w) (hq : 7 ≤ q) (hn : 32 ≤ n)
    (hI : ∀ w', Vars w' → Calls Tryz.prog 71 #[.string ⟨(regD x.2).toArray⟩, .int .i64 10, .int .i64 8] w' fun e w2 => Below w'.heap.size w' w2 ∧ e = .returned (.tuple #[.int .u64 n, .nilIface])) :
    Calls Tryz.prog 56 #[.pointer (some ⟨q, 0, none⟩)] w fun e w' => Pan (One q) x w e w' := by
  have HT : Hid _ := take_ok q en x r w h
  have HF : Hid _ := fun w' => refuse_any x w' h.ok.2
  have HC : Hid (∀ w', Calls Tryz.prog 70 #[.string ⟨x.2.toArray⟩, .string ⟨#[114]⟩] w' fun e w2 => ∃ b, e = .returned (.tuple #[.string ⟨(regD x.2).toArray⟩, .bool b]) ∧ w2 = w') := fun w' => (cutR_any x.2 w' h.ok.2).mono fun _ _ hh => ⟨_, hh⟩
  have HI : Hid _ := hI
  clear h hI
  generalize regD x.2 = rd at *
  have hnI : (32 : Int) ≤ (n : Int) := by omega
  go_enter Tryz.func56, Tryz.ntmps56
  go_wp2_with (first
    | (go_at_call 54; refine Calls.mono HT.out ?_; rintro e w1 ⟨rfl, hL, hF⟩; have HX : Hid _ := Tk.start (x := x) hV hq hL hF; clear hL hF hV)
    | (go_at_call 70; refine Calls.mono (HC.out _) ?_; rintro e w' ⟨cb, rfl, hw⟩; subst w')
    | (go_at_call 71; refine Calls.mono (HI.out _ HX.out.v) ?_; rintro e w2 ⟨hb, rfl⟩; have HY : Hid _ := HX.out.go hb; have b0 := HY.out.a.c 0 _ rfl; have b1 := HY.out.a.c 1 _ rfl; clear hb HX))
  go_quiet (fail)
  go_wp2_with (first
    | (go_at_call 58; refine Calls.mono (HF.out _) ?_; rintro e w3 hp; have HP : Hid _ := hp.after (HY.out.drew _).f fun _ _ hk => hk.elim; obtain ⟨fq, rfl, hp⟩ := hp; clear hp))
  exact ⟨rfl, HP.out⟩
set_option maxHeartbeats 2000000 in
theorem register_small (q en : Nat) (x : Wd') (r : List Wd') (n : Nat) (b : Bool) (w : World) (h : LIn w q ⟨x :: r, en⟩) (hV : Vars w) (hq : 7 ≤ q) (hn : n < 32) (hb : (114 :: Lib.decDigits n == x.2) = b)
    (hI : ∀ w', Vars w' → Calls Tryz.prog 71 #[.string ⟨(regD x.2).toArray⟩, .int .i64 10, .int .i64 8] w' fun e w2 => Below w'.heap.size w' w2 ∧ e = .returned (.tuple #[.int .u64 n, .nilIface])) :
    Calls Tryz.prog 56 #[.pointer (some ⟨q, 0, none⟩)] w fun e w' => if b then e = .returned (.int .u8 n) ∧ LIn w' q ⟨r, en⟩ ∧ Fr (One q) w w' else Pan (One q) x w e w' := by
  have HT : Hid _ := take_ok q en x r w h
  have HF : Hid _ := fun w' => refuse_any x w' h.ok.2
  have HC : Hid (∀ w', Calls Tryz.prog 70 #[.string ⟨x.2.toArray⟩, .string ⟨#[114]⟩] w' fun e w2 => ∃ b, e = .returned (.tuple #[.string ⟨(regD x.2).toArray⟩, .bool b]) ∧ w2 = w') := fun w' => (cutR_any x.2 w' h.ok.2).mono fun _ _ hh => ⟨_, hh⟩
  have HI : Hid _ := hI
  have HO : Hid _ := fun w' => formatUint_any n w' (by omega)
  have hcat : ∀ w', (Op.stringOp .add ⟨#[114]⟩ ⟨(Lib.decDigits n).toArray⟩).run Tryz.prog w' = .ok (.string ⟨(114 :: Lib.decDigits n).toArray⟩) w' := fun w' => by
    have hd : (Lib.decDigits n).length ≤ 2 := by
      rw [Lib.decDigits_length]
      by_cases h10 : n < 10
      · rw [Lib.nDigits_small h10]; omega
      · rw [Lib.nDigits_big h10, Lib.nDigits_small (by omega)]; omega
    exact cat_list [114] _ (by simp; omega) w'
  clear h hI
  generalize regD x.2 = rd at *
  generalize hdd : Lib.decDigits n = dd at *
  clear hdd
  have hnI : ¬ (32 : Int) ≤ (n : Int) := by omega
  have hn0 : (n : Int) < 32 := by omega
  cases b
  · simp only [Bool.false_eq_true, if_false]
    go_enter Tryz.func56, Tryz.ntmps56
    go_wp2_with (first
      | (go_at_call 54; refine Calls.mono HT.out ?_; rintro e w1 ⟨rfl, hL, hF⟩; have HX : Hid _ := Tk.start (x := x) hV hq hL hF; clear hL hF hV)
      | (go_at_call 70; refine Calls.mono (HC.out _) ?_; rintro e w' ⟨cb, rfl, hw⟩; subst w')
      | (go_at_call 71; refine Calls.mono (HI.out _ HX.out.v) ?_; rintro e w2 ⟨hb, rfl⟩; have HY : Hid _ := HX.out.go hb; have b0 := HY.out.a.c 0 _ rfl; have b1 := HY.out.a.c 1 _ rfl; clear hb HX))
    go_quiet (first | (go_at_call 72; refine Calls.quiet_of_same (HO.out _)))
    go_wp2_with (first
      | (go_at_call 58; refine Calls.mono (HF.out _) ?_; rintro e w3 hp; have HP : Hid _ := hp.after (HY.out.drew _).f fun _ _ hk => hk.elim; obtain ⟨fq, rfl, hp⟩ := hp; clear hp))
    exact ⟨rfl, HP.out⟩
  · simp only [if_true]
    go_enter Tryz.func56, Tryz.ntmps56
    go_wp2_with (first
      | (go_at_call 54; refine Calls.mono HT.out ?_; rintro e w1 ⟨rfl, hL, hF⟩; have HX : Hid _ := Tk.start (x := x) hV hq hL hF; clear hL hF hV)
      | (go_at_call 70; refine Calls.mono (HC.out _) ?_; rintro e w' ⟨cb, rfl, hw⟩; subst w')
      | (go_at_call 71; refine Calls.mono (HI.out _ HX.out.v) ?_; rintro e w2 ⟨hb, rfl⟩; have HY : Hid _ := HX.out.go hb; have b0 := HY.out.a.c 0 _ rfl; have b1 := HY.out.a.c 1 _ rfl; clear hb HX))
    go_quiet (first | (go_at_call 72; refine Calls.quiet_of_same (HO.out _)))
    go_wp2
    go_ret
    exact ⟨rfl, (HY.out.drew _).l, (HY.out.drew _).f⟩

theorem register_any (q : Nat) (l : Ln) (w : World) (h : LIn w q l) (hV : Vars w) (hq : 7 ≤ q) : Calls Tryz.prog 56 #[.pointer (some ⟨q, 0, none⟩)] w (Does (One q) (regR l) (fun x e w' => e = .returned (.int .u8 x.1) ∧ LIn w' q x.2 ∧ Fr (One q) w w') w) := by
  obtain ⟨ws, en⟩ := l
  cases ws with
  | nil =>
    have HT : Hid _ := take_no q en w h
    simp only [regR, takeR_nil, R.bind_no]
    clear h
    go_enter Tryz.func56, Tryz.ntmps56
    go_wp2_with (first
      | (go_at_call 54; refine Calls.mono HT.out ?_; rintro e w1 hp; have HP : Hid _ := hp.after (X := One q) (Fr.refl _ _) fun _ _ hk => hk.elim; obtain ⟨fq, rfl, hp⟩ := hp; clear hp))
    exact ⟨rfl, HP.out⟩
  | cons x r =>
    have hI : ∀ w', Vars w' → Calls Tryz.prog 71 #[.string ⟨(regD x.2).toArray⟩, .int .i64 10, .int .i64 8] w' (PuPost (Lib.parseUintB 8 (regD x.2)) w') := fun w' hv => parseUint_any (regD x.2) w' (Nat.le_trans (regD_len _) h.ok.2) hv
    simp only [regR, takeR_cons, R.bind_ok, regV]
    rw [show (if [114].isPrefixOf x.2 then x.2.drop 1 else x.2) = regD x.2 from rfl]
    cases hp : Lib.parseUintB 8 (regD x.2) with
    | ok n =>
      rw [hp] at hI
      by_cases hn : n < 32
      · have hs := register_small q en x r n _ w h hV hq hn rfl hI
        by_cases he : 114 :: Lib.decDigits n = x.2
        · simp only [hn, he, and_self, if_true]
          simp only [he, beq_self_eq_true, if_true] at hs
          exact hs
        · simp only [hn, he, and_false, if_false]
          simp only [beq_eq_false_iff_ne.2 he, Bool.false_eq_true, if_false] at hs
          exact hs
      · simp only [hn, false_and, if_false]
        exact register_big q en x r n w h hV hq (by omega) hI
    | «syntax» => rw [hp] at hI; exact register_bad q en x r w h hV hq hI
    | range => rw [hp] at hI; exact register_bad q en x r w h hV hq hI

set_option maxHeartbeats 2000000 in
theorem blockLine_any (q : Nat) (l : Ln) (n : Nat) (w : World) (h : LIn w q l) (hV : Vars w) (hq : 7 ≤ q) (hn : n ≤ 100000) : Calls Tryz.prog 41 #[.pointer (some ⟨q, 0, none⟩), .int .i64 n] w (Does (One q) (headR n l) (fun _ e w' => e = .returned (.tuple #[]) ∧ Fr (One q) w w') w) := by
  have h1 := exactly_any q [98, 108, 111, 99, 107] l w h
  have h2 : ∀ l' w', LIn w' q l' → Calls Tryz.prog 51 #[.pointer (some ⟨q, 0, none⟩), .string ⟨(Lib.decDigits n ++ [58]).toArray⟩] w' _ := fun l' w' hl => exactly_any q (Lib.decDigits n ++ [58]) l' w' hl
  have h3 : ∀ l' w', LIn w' q l' → Calls Tryz.prog 52 #[.pointer (some ⟨q, 0, none⟩)] w' _ := fun l' w' hl => close_any q l' w' hl
  have hi : Lib.itoa (n : Int) = Lib.decDigits n := by simp [Lib.itoa]
  have HI : Hid (∀ w', Vars w' → Calls Tryz.prog 34 #[.int .i64 n] w' fun e w2 => e = .returned (.string ⟨(Lib.decDigits n).toArray⟩) ∧ Below w'.heap.size w' w2) := fun w' hv => by
    have := itoa_any (n : Int) w' (by omega) (by omega) hv
    rw [hi] at this; exact this
  have hd : (Lib.decDigits n).length ≤ 20 := by rw [Lib.decDigits_length]; exact Lib.nDigits_le20 n (by omega)
  have hcat : ∀ w', (Op.stringOp .add ⟨(Lib.decDigits n).toArray⟩ ⟨#[58]⟩).run Tryz.prog w' = .ok (.string ⟨(Lib.decDigits n ++ [58]).toArray⟩) w' := fun w' => cat_list _ [58] (by simp; omega) w'
  clear hi hd
  unfold headR
  generalize Lib.decDigits n = dd at *
  cases e1 : exactR [98, 108, 111, 99, 107] l with
  | no f =>
    rw [e1] at h1
    have H1 : Hid (Calls Tryz.prog 51 #[.pointer (some ⟨q, 0, none⟩), .string ⟨#[98, 108, 111, 99, 107]⟩] w fun e w' => Pan (One q) f w e w') := h1
    rw [R.bind_no]
    clear h h1 h2 h3 e1
    go_enter Tryz.func41, Tryz.ntmps41
    go_wp2_with (first
      | (go_at_call 51; refine Calls.mono H1.out ?_; rintro e w1 hp; have HP : Hid _ := hp; obtain ⟨fq, rfl, hp⟩ := hp; clear hp))
    exact ⟨rfl, HP.out⟩
  | ok a =>
    rw [e1] at h1
    have H1 : Hid (Calls Tryz.prog 51 #[.pointer (some ⟨q, 0, none⟩), .string ⟨#[98, 108, 111, 99, 107]⟩] w fun e w' => e = .returned (.tuple #[]) ∧ LIn w' q a ∧ Fr (One q) w w') := h1
    rw [R.bind_ok]
    have h2 := h2 a
    cases e2 : exactR (dd ++ [58]) a with
    | no f =>
      rw [e2] at h2
      have H2 : Hid (∀ w', LIn w' q a → Calls Tryz.prog 51 #[.pointer (some ⟨q, 0, none⟩), .string ⟨(dd ++ [58]).toArray⟩] w' fun e w2 => Pan (One q) f w' e w2) := h2
      rw [R.bind_no]
      clear h h1 h2 h3 e1 e2
      go_enter Tryz.func41, Tryz.ntmps41
      go_wp2_with (first
        | (go_at_call 51; refine Calls.mono H1.out ?_; rintro e w1 ⟨rfl, hL, hF⟩; have HX : Hid (LIn w1 q a ∧ Fr (One q) w w1) := ⟨hL, hF⟩; clear H1 hL hF)
        | (go_at_call 34; refine Calls.mono (HI.out _ (hV.one HX.out.2 hq)) ?_; rintro e w2 ⟨rfl, hb⟩; have HY : Hid (LIn w2 q a ∧ Fr (One q) w w2) := ⟨HX.out.1.up hb, HX.out.2.then hb⟩; clear hb)
        | (go_at_call 51; refine Calls.mono (H2.out _ HY.out.1) ?_; rintro e w3 hp; have HP : Hid _ := hp.after HY.out.2 fun _ _ hk => hk; obtain ⟨fq, rfl, hp⟩ := hp; clear hp))
      exact ⟨rfl, HP.out⟩
    | ok b =>
      rw [e2] at h2
      have H2 : Hid (∀ w', LIn w' q a → Calls Tryz.prog 51 #[.pointer (some ⟨q, 0, none⟩), .string ⟨(dd ++ [58]).toArray⟩] w' fun e w2 => e = .returned (.tuple #[]) ∧ LIn w2 q b ∧ Fr (One q) w' w2) := h2
      rw [R.bind_ok]
      have h3 := h3 b
      cases e3 : closeR b with
      | no f =>
        rw [e3] at h3
        have H3 : Hid (∀ w', LIn w' q b → Calls Tryz.prog 52 #[.pointer (some ⟨q, 0, none⟩)] w' fun e w2 => Pan (One q) f w' e w2) := h3
        clear h h1 h2 h3 e1 e2 e3
        go_enter Tryz.func41, Tryz.ntmps41
        go_wp2_with (first
          | (go_at_call 51; refine Calls.mono H1.out ?_; rintro e w1 ⟨rfl, hL, hF⟩; have HX : Hid (LIn w1 q a ∧ Fr (One q) w w1) := ⟨hL, hF⟩; clear H1 hL hF)
          | (go_at_call 34; refine Calls.mono (HI.out _ (hV.one HX.out.2 hq)) ?_; rintro e w2 ⟨rfl, hb⟩; have HY : Hid (LIn w2 q a ∧ Fr (One q) w w2) := ⟨HX.out.1.up hb, HX.out.2.then hb⟩; clear hb)
          | (go_at_call 51; refine Calls.mono (H2.out _ HY.out.1) ?_; rintro e w3 ⟨rfl, hL, hF⟩; have HZ : Hid (LIn w3 q b ∧ Fr (One q) w w3) := ⟨hL, HY.out.2.same hF⟩; clear hL hF)
          | (go_at_call 52; refine Calls.mono (H3.out _ HZ.out.1) ?_; rintro e w4 hp; have HP : Hid _ := hp.after HZ.out.2 fun _ _ hk => hk; obtain ⟨fq, rfl, hp⟩ := hp; clear hp))
        exact ⟨rfl, HP.out⟩
      | ok u =>
        rw [e3] at h3
        have H3 : Hid (∀ w', LIn w' q b → Calls Tryz.prog 52 #[.pointer (some ⟨q, 0, none⟩)] w' fun e w2 => e = .returned (.tuple #[]) ∧ w2 = w') := h3
        clear h h1 h2 h3 e1 e2 e3
        go_enter Tryz.func41, Tryz.ntmps41
        go_wp2_with (first
          | (go_at_call 51; refine Calls.mono H1.out ?_; rintro e w1 ⟨rfl, hL, hF⟩; have HX : Hid (LIn w1 q a ∧ Fr (One q) w w1) := ⟨hL, hF⟩; clear H1 hL hF)
          | (go_at_call 34; refine Calls.mono (HI.out _ (hV.one HX.out.2 hq)) ?_; rintro e w2 ⟨rfl, hb⟩; have HY : Hid (LIn w2 q a ∧ Fr (One q) w w2) := ⟨HX.out.1.up hb, HX.out.2.then hb⟩; clear hb)
          | (go_at_call 51; refine Calls.mono (H2.out _ HY.out.1) ?_; rintro e w3 ⟨rfl, hL, hF⟩; have HZ : Hid (LIn w3 q b ∧ Fr (One q) w w3) := ⟨hL, HY.out.2.same hF⟩; clear hL hF)
          | (go_at_call 52; refine Calls.mono (H3.out _ HZ.out.1) ?_; rintro e w' ⟨rfl, hw⟩; subst w'))
        go_end0
        exact ⟨rfl, HZ.out.2⟩
end Go.Proofs.YthjpddjfckdefaaGreatDoor.Pr
