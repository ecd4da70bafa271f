/- What package parse's line answers of a number and of a register (number, target, register), and of the line that begins a block: read off the program by the walk. Conditions: the line lies in memory, the variables as the program lays them. -/
import Derived.Test.YthjpddjfckdefaaGreatDoorLx
import Derived.Lib.ParseIntBTie
import Derived.Deep.RegionHeld3
import Derived.Deep.QuietTactic
import Derived.BigQuiet
namespace Go.Proofs.YthjpddjfckdefaaGreatDoor.Pr
open Go.ChangeShapes Go.WideShapes Go.ChangeAt Go.RowKit
open _root_.Go.Proofs.YthjpddjfckdefaaGreatDoor.Op
set_option maxRecDepth 20000

theorem ba_eq {a : ByteArray} {l : List UInt8} (h : a.data.toList = l) : a = ⟨l.toArray⟩ := by
  cases a with | mk d => subst h; simp
theorem extract_eq (s : ByteArray) (a b : Nat) : s.extract a b = ⟨(cutL s.data.toList a b).toArray⟩ := by
  apply ba_eq
  rw [ByteArray.data_extract]
  simp [cutL]
theorem size_list (l : List UInt8) : (⟨l.toArray⟩ : ByteArray).size = l.length := by show l.toArray.size = _; simp
theorem below_grow {w : World} (k : Nat) (os : Array Obj) : Below w.heap.size w (Sort.grow (w.drewN k) os) :=
  ⟨rfl, rfl, rfl, by simp, fun i hi => by simp [Sort.grow, Array.getElem?_append_left hi]⟩
theorem below_bytes {w : World} (s : ByteArray) : Below w.heap.size w (Lib.bytesWorld w 5 s) := Lib.bytesWorld_below w 5 s

/-- How strconv.ParseInt ends. -/
def PiPost (r : Lib.NumEnd Int) (w : World) (e : Ending) (w' : World) : Prop :=
  Below w.heap.size w w' ∧ match r with | .ok v => e = .returned (.tuple #[.int .i64 v, .nilIface]) | _ => ∃ n p, e = .returned (.tuple #[.int .i64 n, .iface 160 p])
theorem parseInt_any (l : List UInt8) (w : World) (hl : l.length ≤ 65536) (hV : Vars w) : Calls Tryz.prog 87 #[.string ⟨l.toArray⟩, .int .i64 10, .int .i64 32] w (PiPost (Lib.parseIntB 32 l) w) := by
  have hs := size_list l
  obtain ⟨tp, p, hr⟩ := hV.rs
  obtain ⟨tp', p', hr'⟩ := hV.rr
  cases h : Lib.parseIntB 32 l with
  | ok v =>
    refine (Tryz.strconv_ParseInt_10_at32_ok ⟨l.toArray⟩ (by omega) v (by simpa using h) w).mono ?_
    rintro e w' ⟨rfl, hw⟩
    refine ⟨?_, rfl⟩
    rcases hw with rfl | ⟨t, rfl⟩
    · exact Below.refl _ _
    · exact below_bytes _
  | «syntax» =>
    refine (Tryz.strconv_ParseInt_10_at32_syntax_var ⟨l.toArray⟩ (by omega) (by simpa using h) tp p w hr).mono ?_
    rintro e w' ⟨n, rfl, _, _, hb⟩
    exact ⟨hb, _, _, rfl⟩
  | range =>
    refine (Tryz.strconv_ParseInt_10_at32_range_var ⟨l.toArray⟩ (by omega) (by simpa using h) tp' p' w hr').mono ?_
    rintro e w' ⟨n, rfl, _, _, hb⟩
    exact ⟨hb, _, _, rfl⟩
/-- How strconv.ParseUint ends. -/
def PuPost (r : Lib.NumEnd Nat) (w : World) (e : Ending) (w' : World) : Prop :=
  Below w.heap.size w w' ∧ match r with | .ok v => e = .returned (.tuple #[.int .u64 v, .nilIface]) | _ => ∃ n p, e = .returned (.tuple #[.int .u64 n, .iface 160 p])
theorem parseUint_any (l : List UInt8) (w : World) (hl : l.length ≤ 65536) (hV : Vars w) : Calls Tryz.prog 71 #[.string ⟨l.toArray⟩, .int .i64 10, .int .i64 8] w (PuPost (Lib.parseUintB 8 l) w) := by
  have hs := size_list l
  obtain ⟨tp, p, hr⟩ := hV.rs
  obtain ⟨tp', p', hr'⟩ := hV.rr
  cases h : Lib.parseUintB 8 l with
  | ok v =>
    refine (Tryz.strconv_ParseUint_10_at8_ok ⟨l.toArray⟩ (by omega) v (by simpa using h) w).mono ?_
    rintro e w' ⟨rfl, hw⟩
    refine ⟨?_, rfl⟩
    rcases hw with rfl | rfl
    · exact Below.refl _ _
    · exact below_bytes _
  | «syntax» =>
    refine (Tryz.strconv_ParseUint_10_at8_syntax_var ⟨l.toArray⟩ (by omega) (by simpa using h) tp p w hr).mono ?_
    rintro e w' ⟨n, rfl, _, _, hb⟩
    exact ⟨hb, _, _, rfl⟩
  | range =>
    refine (Tryz.strconv_ParseUint_10_at8_range_var ⟨l.toArray⟩ (by omega) (by simpa using h) tp' p' w hr').mono ?_
    rintro e w' ⟨n, rfl, _, _, hb⟩
    exact ⟨hb, _, _, rfl⟩
theorem formatInt_any (v : Int) (w : World) (h0 : -9223372036854775808 ≤ v) (h1 : v ≤ 9223372036854775807) (hV : Vars w) : Calls Tryz.prog 81 #[.int .i64 v, .int .i64 10] w fun e w' => e = .returned (.string ⟨(Lib.itoa v).toArray⟩) ∧ Below w.heap.size w w' := by
  refine (Tryz.strconv_FormatInt_10 v h0 h1 w hV.tb).mono ?_
  rintro e w' ⟨rfl, k, os, rfl⟩
  exact ⟨rfl, below_grow _ _⟩
theorem itoa_any (v : Int) (w : World) (h0 : -9223372036854775808 ≤ v) (h1 : v ≤ 9223372036854775807) (hV : Vars w) : Calls Tryz.prog 34 #[.int .i64 v] w fun e w' => e = .returned (.string ⟨(Lib.itoa v).toArray⟩) ∧ Below w.heap.size w w' := by
  refine (Tryz.strconv_Itoa v h0 h1 w hV.tb).mono ?_
  rintro e w' ⟨rfl, k, os, rfl⟩
  exact ⟨rfl, below_grow _ _⟩
theorem formatUint_any (n : Nat) (w : World) (hn : n < 100) : Calls Tryz.prog 72 #[.int .u64 n, .int .i64 10] w fun e w' => e = .returned (.string ⟨(Lib.decDigits n).toArray⟩) ∧ w' = w := by
  have HS : Hid _ := fun w => Tryz.internal_strconv_small n hn w
  have h2 : (n : Int) < 100 := by omega
  have h3 : Calls Tryz.prog 91 #[.int .u64 n, .int .i64 10] w fun e w' => e = .returned (.string ⟨(Lib.decDigits n).toArray⟩) ∧ w' = w := by
    go_enter Tryz.func91, Tryz.ntmps91
    go_wp2_with (first | (go_at_call 74; refine Calls.mono (HS.out _) ?_; rintro e w' ⟨rfl, hw⟩; subst w'))
    go_ret
    exact ⟨rfl, rfl⟩
  have H3 : Hid _ := h3
  clear h3
  go_enter Tryz.func72, Tryz.ntmps72
  go_wp2_with (first | (go_at_call 91; refine Calls.mono H3.out ?_; rintro e w' ⟨rfl, hw⟩; subst w'))
  go_ret
  exact ⟨rfl, rfl⟩

theorem cutR_any (l : List UInt8) (w : World) (hl : l.length ≤ 65536) : Calls Tryz.prog 70 #[.string ⟨l.toArray⟩, .string ⟨#[114]⟩] w fun e w' => e = .returned (.tuple #[.string ⟨(if [114].isPrefixOf l then l.drop 1 else l).toArray⟩, .bool ([114].isPrefixOf l)]) ∧ w' = w := by
  have hnot : ∀ (x : Bool) (w : World), (Op.unary .not (.bool x)).run Tryz.prog w = .ok (.bool (!x)) w := fun _ _ => rfl
  have HP : Hid (∀ w, Calls Tryz.prog 102 #[.string ⟨l.toArray⟩, .string ⟨#[114]⟩] w fun e w' => e = .returned (.bool ([114].isPrefixOf l)) ∧ w' = w) := fun w => by
    have := Tryz.stringslite_HasPrefix ⟨l.toArray⟩ ⟨#[114]⟩ w
    simpa [Lib.hasPrefix] using this
  have h3 : Calls Tryz.prog 88 #[.string ⟨l.toArray⟩, .string ⟨#[114]⟩] w fun e w' => e = .returned (.tuple #[.string ⟨(if [114].isPrefixOf l then l.drop 1 else l).toArray⟩, .bool ([114].isPrefixOf l)]) ∧ w' = w := by
    cases hp : [114].isPrefixOf l
    · rw [hp] at HP
      simp only [Bool.false_eq_true, if_false]
      go_enter Tryz.func88, Tryz.ntmps88
      go_wp2_with (first | (go_at_call 102; refine Calls.mono (HP.out _) ?_; rintro e w' ⟨rfl, hw⟩; subst w'))
      go_returns
      exact ⟨rfl, rfl⟩
    · rw [hp] at HP
      simp only [if_true]
      have hl1 : 1 ≤ l.length := by
        cases l with
        | nil => simp at hp
        | cons a b => simp
      have hsz := size_list l
      go_enter Tryz.func88, Tryz.ntmps88
      go_wp2_with (first | (go_at_call 102; refine Calls.mono (HP.out _) ?_; rintro e w' ⟨rfl, hw⟩; subst w'))
      go_returns
      have e1 : (⟨l.toArray⟩ : ByteArray).extract 1 l.length = ⟨(l.drop 1).toArray⟩ := by
        rw [extract_eq]
        have e2 : cutL (⟨l.toArray⟩ : ByteArray).data.toList 1 l.length = l.drop 1 := by
          simp [cutL, List.take_of_length_le]
        rw [e2]
      rw [e1]
      exact ⟨rfl, rfl⟩
  generalize (if [114].isPrefixOf l then l.drop 1 else l) = t at *
  generalize [114].isPrefixOf l = b at *
  have H3 : Hid _ := h3
  clear h3 HP
  go_enter Tryz.func70, Tryz.ntmps70
  go_wp2_with (first | (go_at_call 88; refine Calls.mono H3.out ?_; rintro e w' ⟨rfl, hw⟩; subst w'))
  go_returns
  exact ⟨rfl, rfl⟩

/-- A state behind a word that was taken: the word's box. -/
structure Tk (q : Nat) (x : Wd') (r : List Wd') (en b : Nat) (w V : World) : Prop where
  v : Vars V
  f : Fr (One q) w V
  a : At V b #[.int .i64 (x.1 : Int), .string ⟨x.2.toArray⟩]
  l : LIn V q ⟨r, en⟩
  n : w.heap.size ≤ b
theorem Tk.start {q : Nat} {x : Wd'} {r : List Wd'} {en : Nat} {w w1 : World} (hV : Vars w) (hq : 7 ≤ q) (hL : LIn w1 q ⟨r, en⟩) (hF : Fr (One q) w w1) : Tk q x r en w1.heap.size w (w1.alloc (.cells #[.int .i64 (x.1 : Int), .string ⟨x.2.toArray⟩] 108)) :=
  ⟨(hV.one hF hq).up ((Below.refl _ _).alloc (Nat.le_refl _) _), hF.alloc _, At.new _ _ _, hL.up ((Below.refl _ _).alloc (Nat.le_refl _) _), hF.size⟩
theorem Tk.go {q : Nat} {x : Wd'} {r : List Wd'} {en b : Nat} {w V V' : World} (h : Tk q x r en b w V) (hb : Below V.heap.size V V') : Tk q x r en b w V' :=
  ⟨h.v.up hb, h.f.then hb, h.a.below hb h.a.lt, h.l.up hb, h.n⟩
theorem Tk.drew {q : Nat} {x : Wd'} {r : List Wd'} {en b : Nat} {w V : World} (h : Tk q x r en b w V) (n : Nat) : Tk q x r en b w (V.drewN n) := h.go ⟨rfl, rfl, rfl, Nat.le_refl _, fun _ _ => rfl⟩

set_option maxHeartbeats 2000000 in
theorem number_bad (q en : Nat) (x : Wd') (r : List Wd') (w : World) (h : LIn w q ⟨x :: r, en⟩) (hV : Vars w) (hq : 7 ≤ q)
    (hI : ∀ w', Vars w' → Calls Tryz.prog 87 #[.string ⟨x.2.toArray⟩, .int .i64 10, .int .i64 32] w' fun e w2 => Below w'.heap.size w' w2 ∧ ∃ n p, e = .returned (.tuple #[.int .i64 n, .iface 160 p])) :
    Calls Tryz.prog 69 #[.pointer (some ⟨q, 0, none⟩)] w fun e w' => Pan (One q) x w e w' := by
  have HT : Hid _ := take_ok q en x r w h
  have HF : Hid _ := fun w' => refuse_any x w' h.ok.2
  have HI : Hid _ := hI
  clear h hI
  go_enter Tryz.func69, Tryz.ntmps69
  go_wp2_with (first
    | (go_at_call 54; refine Calls.mono HT.out ?_; rintro e w1 ⟨rfl, hL, hF⟩; have HX : Hid _ := Tk.start (x := x) hV hq hL hF; clear hL hF hV)
    | (go_at_call 87; refine Calls.mono (HI.out _ HX.out.v) ?_; rintro e w2 ⟨hb, nv, pv, rfl⟩; have HY : Hid _ := HX.out.go hb; have b0 := HY.out.a.c 0 _ rfl; have b1 := HY.out.a.c 1 _ rfl; clear hb HX))
  go_quiet (fail)
  go_wp2_with (first
    | (go_at_call 58; refine Calls.mono (HF.out _) ?_; rintro e w3 hp; have HP : Hid _ := hp.after (HY.out.drew _).f fun _ _ hk => hk.elim; obtain ⟨fq, rfl, hp⟩ := hp; clear hp))
  exact ⟨rfl, HP.out⟩
set_option maxHeartbeats 2000000 in
theorem number_ok (q en : Nat) (x : Wd') (r : List Wd') (v : Int) (w : World) (h : LIn w q ⟨x :: r, en⟩) (hV : Vars w) (hq : 7 ≤ q) (h0 : -9223372036854775808 ≤ v) (h1 : v ≤ 9223372036854775807)
    (hI : ∀ w', Vars w' → Calls Tryz.prog 87 #[.string ⟨x.2.toArray⟩, .int .i64 10, .int .i64 32] w' fun e w2 => Below w'.heap.size w' w2 ∧ e = .returned (.tuple #[.int .i64 v, .nilIface])) (hs : Lib.itoa v = x.2) :
    Calls Tryz.prog 69 #[.pointer (some ⟨q, 0, none⟩)] w fun e w' => e = .returned (.int .i64 v) ∧ LIn w' q ⟨r, en⟩ ∧ Fr (One q) w w' := by
  have HT : Hid _ := take_ok q en x r w h
  have HF : Hid _ := fun w' => refuse_any x w' h.ok.2
  have HI : Hid _ := hI
  have HO : Hid _ := fun w' hv => formatInt_any v w' h0 h1 hv
  clear h hI h0 h1
  have hne : (Lib.itoa v == x.2) = true := by simpa using hs
  clear hs
  generalize Lib.itoa v = iv at *
  go_enter Tryz.func69, Tryz.ntmps69
  go_wp2_with (first
    | (go_at_call 54; refine Calls.mono HT.out ?_; rintro e w1 ⟨rfl, hL, hF⟩; have HX : Hid _ := Tk.start (x := x) hV hq hL hF; clear hL hF hV)
    | (go_at_call 87; refine Calls.mono (HI.out _ HX.out.v) ?_; rintro e w2 ⟨hb, rfl⟩; have HY : Hid _ := HX.out.go hb; have b1 := HY.out.a.c 1 _ rfl; clear hb HX))
  generalize w1.heap.size = bx at *
  go_region_held3 (fun w' => w'.cell? ⟨bx, 1, none⟩ = some (.string ⟨x.2.toArray⟩)) (first | (go_keep; done) | exact HZ.out.a.c 1 _ rfl)
    (first | (go_at_call 81; refine Calls.mono (HO.out _ (HY.out.drew 1).v) ?_; rintro e w3 ⟨rfl, hb⟩; have HZ : Hid _ := (HY.out.drew 1).go hb; clear hb))
  go_wp2
  go_ret
  exact ⟨rfl, HZ.out.l, HZ.out.f⟩
set_option maxHeartbeats 2000000 in
theorem number_ne (q en : Nat) (x : Wd') (r : List Wd') (v : Int) (w : World) (h : LIn w q ⟨x :: r, en⟩) (hV : Vars w) (hq : 7 ≤ q) (h0 : -9223372036854775808 ≤ v) (h1 : v ≤ 9223372036854775807)
    (hI : ∀ w', Vars w' → Calls Tryz.prog 87 #[.string ⟨x.2.toArray⟩, .int .i64 10, .int .i64 32] w' fun e w2 => Below w'.heap.size w' w2 ∧ e = .returned (.tuple #[.int .i64 v, .nilIface])) (hs : ¬ Lib.itoa v = x.2) :
    Calls Tryz.prog 69 #[.pointer (some ⟨q, 0, none⟩)] w fun e w' => Pan (One q) x w e w' := by
  have HT : Hid _ := take_ok q en x r w h
  have HF : Hid _ := fun w' => refuse_any x w' h.ok.2
  have HI : Hid _ := hI
  have HO : Hid _ := fun w' hv => formatInt_any v w' h0 h1 hv
  clear h hI h0 h1
  have hne : (Lib.itoa v == x.2) = false := by simpa using hs
  clear hs
  generalize Lib.itoa v = iv at *
  go_enter Tryz.func69, Tryz.ntmps69
  go_wp2_with (first
    | (go_at_call 54; refine Calls.mono HT.out ?_; rintro e w1 ⟨rfl, hL, hF⟩; have HX : Hid _ := Tk.start (x := x) hV hq hL hF; clear hL hF hV)
    | (go_at_call 87; refine Calls.mono (HI.out _ HX.out.v) ?_; rintro e w2 ⟨hb, rfl⟩; have HY : Hid _ := HX.out.go hb; have b1 := HY.out.a.c 1 _ rfl; clear hb HX))
  generalize w1.heap.size = bx at *
  go_region_held3 (fun w' => w'.cell? ⟨bx, 1, none⟩ = some (.string ⟨x.2.toArray⟩)) (first | (go_keep; done) | exact HZ.out.a.c 1 _ rfl)
    (first | (go_at_call 81; refine Calls.mono (HO.out _ (HY.out.drew 1).v) ?_; rintro e w3 ⟨rfl, hb⟩; have HZ : Hid _ := (HY.out.drew 1).go hb; clear hb))
  have d0 := HZ.out.a.c 0 _ rfl
  have d1 := HZ.out.a.c 1 _ rfl
  go_wp2_with (first
    | (go_at_call 58; refine Calls.mono (HF.out _) ?_; rintro e w4 hp; have HP : Hid _ := hp.after HZ.out.f fun _ _ hk => hk.elim; obtain ⟨fq, rfl, hp⟩ := hp; clear hp))
  exact ⟨rfl, HP.out⟩

theorem number_any (q : Nat) (l : Ln) (w : World) (h : LIn w q l) (hV : Vars w) (hq : 7 ≤ q) : Calls Tryz.prog 69 #[.pointer (some ⟨q, 0, none⟩)] w (Does (One q) (numR l) (fun x e w' => e = .returned (.int .i64 x.1) ∧ LIn w' q x.2 ∧ Fr (One q) w w') w) := by
  obtain ⟨ws, en⟩ := l
  cases ws with
  | nil =>
    have HT : Hid _ := take_no q en w h
    simp only [numR, takeR_nil, R.bind_no]
    clear h
    go_enter Tryz.func69, Tryz.ntmps69
    go_wp2_with (first
      | (go_at_call 54; refine Calls.mono HT.out ?_; rintro e w1 hp; have HP : Hid _ := hp.after (X := One q) (Fr.refl _ _) fun _ _ hk => hk.elim; obtain ⟨fq, rfl, hp⟩ := hp; clear hp))
    exact ⟨rfl, HP.out⟩
  | cons x r =>
    have hI : ∀ w', Vars w' → Calls Tryz.prog 87 #[.string ⟨x.2.toArray⟩, .int .i64 10, .int .i64 32] w' (PiPost (Lib.parseIntB 32 x.2) w') := fun w' hv => parseInt_any x.2 w' h.ok.2 hv
    simp only [numR, takeR_cons, R.bind_ok, numV]
    cases hp : Lib.parseIntB 32 x.2 with
    | ok v =>
      rw [hp] at hI
      have hbd := Lib.parseIntB_bounds hp
      by_cases hs : Lib.itoa v = x.2
      · simp only [hs, if_true]
        exact number_ok q en x r v w h hV hq (by omega) (by omega) hI hs
      · simp only [hs, if_false]
        exact number_ne q en x r v w h hV hq (by omega) (by omega) hI hs
    | «syntax» => rw [hp] at hI; exact number_bad q en x r w h hV hq hI
    | range => rw [hp] at hI; exact number_bad q en x r w h hV hq hI
theorem target_any (q : Nat) (l : Ln) (w : World) (h : LIn w q l) (hV : Vars w) (hq : 7 ≤ q) : Calls Tryz.prog 55 #[.pointer (some ⟨q, 0, none⟩)] w (Does (One q) (numR l) (fun x e w' => e = .returned (.int .i64 x.1) ∧ LIn w' q x.2 ∧ Fr (One q) w w') w) := by
  have hn := number_any q l w h hV hq
  cases hr : numR l with
  | ok v =>
    rw [hr] at hn
    have HN : Hid (Calls Tryz.prog 69 #[.pointer (some ⟨q, 0, none⟩)] w fun e w' => e = .returned (.int .i64 v.1) ∧ LIn w' q v.2 ∧ Fr (One q) w w') := hn
    clear hn hr h hV
    go_enter Tryz.func55, Tryz.ntmps55
    go_wp2_with (first | (go_at_call 69; refine Calls.mono HN.out ?_; rintro e w1 ⟨rfl, hL⟩; have HL : Hid _ := hL; clear hL))
    go_ret
    exact ⟨rfl, HL.out⟩
  | no f =>
    rw [hr] at hn
    have HN : Hid (Calls Tryz.prog 69 #[.pointer (some ⟨q, 0, none⟩)] w fun e w' => Pan (One q) f w e w') := hn
    clear hn hr h hV
    go_enter Tryz.func55, Tryz.ntmps55
    go_wp2_with (first | (go_at_call 69; refine Calls.mono HN.out ?_; rintro e w1 hp; have HP : Hid _ := hp; obtain ⟨fq, rfl, hp⟩ := hp; clear hp))
    exact ⟨rfl, HP.out⟩
end Go.Proofs.YthjpddjfckdefaaGreatDoor.Pr
