/- The statement ParseBlank, out of what its callees answer: read off the program by the walk. Conditions: the variables lie in memory as the program lays them. -/
import Derived.Test.YthfchelkfbboaaaGreatDoorMx
import Derived.Test.YthfchelkfbboaaaGreatDoorLk
import Derived.Test.YthfchelkfbboaaaGreatDoorLo
namespace Go.Proofs.YthfchelkfbboaaaGreatDoor.Pr
open Go.ChangeShapes Go.WideShapes Go.ChangeAt Go.RowKit
open _root_.Go.Proofs.YthfchelkfbboaaaGreatDoor.Op
set_option maxRecDepth 20000

/-- Bytes that come in. -/
structure BtAt (w : World) (bo : Option Addr) (bl : Nat) : Prop where
  len : bl ≤ maxLen
  is : 0 < bl → ∃ b f, bo = some ⟨b, f, none⟩ ∧ b < w.heap.size ∧ ∀ j, j < bl → ∃ x : Nat, x ≤ 255 ∧ w.cell? ⟨b, f + j, none⟩ = some (.int .u8 (x : Int))
theorem BtAt.up {w w' : World} {bo : Option Addr} {bl : Nat} (h : BtAt w bo bl) (hb : Below w.heap.size w w') : BtAt w' bo bl := by
  refine ⟨h.len, fun h0 => ?_⟩
  obtain ⟨b, f, e, z, hx⟩ := h.is h0
  refine ⟨b, f, e, Nat.lt_of_lt_of_le z hb.size, fun j hj => ?_⟩
  obtain ⟨x, h1, h2⟩ := hx j hj
  exact ⟨x, h1, by rw [(bcell hb).1 _ _ z]; exact h2⟩
theorem cat_rule (a b : ByteArray) (n m : Nat) (ha : a.size ≤ n) (hb : b.size ≤ m) (h : n + m ≤ 1000000) :
    ∃ c : ByteArray, c.data.toList = a.data.toList ++ b.data.toList ∧ c.size ≤ n + m ∧ ∀ (P : Program) (w : World), (Op.stringOp .add a b).run P w = .ok (.string c) w :=
  ⟨a ++ b, by rw [ByteArray.data_append, Array.toList_append], by rw [ByteArray.size_append]; omega, fun P w => run_string_add_sum (P := P) w a b (by omega)⟩
def fillV : Array Value := #[.string ⟨#[]⟩, .string ⟨#[10]⟩, .string ⟨#[32, 9]⟩, .string ⟨#[35, 32, 120]⟩, .string ⟨#[10, 10, 35, 32, 98, 108, 111, 99, 107, 32, 57, 58, 10]⟩, .string ⟨#[9, 35]⟩]
theorem fill_get (j : Nat) (hj : j < 6) : ∃ F, F ∈ fillL ∧ F.length ≤ 13 ∧ fillV[j]? = some (.string ⟨F.toArray⟩) := by
  match j, hj with
  | 0, _ => exact ⟨[], by decide, by decide, rfl⟩
  | 1, _ => exact ⟨[10], by decide, by decide, rfl⟩
  | 2, _ => exact ⟨[32, 9], by decide, by decide, rfl⟩
  | 3, _ => exact ⟨[35, 32, 120], by decide, by decide, rfl⟩
  | 4, _ => exact ⟨[10, 10, 35, 32, 98, 108, 111, 99, 107, 32, 57, 58, 10], by decide, by decide, rfl⟩
  | 5, _ => exact ⟨[9, 35], by decide, by decide, rfl⟩
theorem take_next (s : ByteArray) (k : Nat) (hk : k < s.size) : s.data.toList.take (k + 1) = s.data.toList.take k ++ [s[k]] := List.take_succ_eq_append_getElem (l := s.data.toList) hk
theorem ext_one (s : ByteArray) (k : Nat) (hk : k < s.size) : (s.extract k (k + 1)).data.toList = [s[k]] ∧ (s.extract k (k + 1)).size = 1 := by
  have h1 : (s.extract k (k + 1)).data.toList = [s[k]] := by
    rw [extract_eq]
    show cutL s.data.toList k (k + 1) = [s[k]]
    rw [cutL_snoc s.data.toList k k (Nat.le_refl _) hk, cutL_same]; rfl
  exact ⟨h1, by show (s.extract k (k + 1)).data.toList.length = 1; rw [h1]; rfl⟩
/-- A byte more. -/
theorem blank_step (s S : ByteArray) (k : Nat) (hk : k < s.size) (hS : S.size ≤ 32782 + k) (hs : s.size ≤ 16384) (h : Same S.data.toList (s.data.toList.take k)) :
    ∃ T : ByteArray, T.size ≤ 32782 + (k + 1) ∧ Same T.data.toList (s.data.toList.take (k + 1)) ∧ ∀ (P : Program) (w : World), (Op.stringOp .add S (s.extract k (k + 1))).run P w = .ok (.string T) w := by
  obtain ⟨e1, e2⟩ := ext_one s k hk
  obtain ⟨T, h1, h2, h3⟩ := cat_rule S (s.extract k (k + 1)) (32782 + k) 1 hS (by omega) (by omega)
  exact ⟨T, h2, by rw [h1, e1, take_next s k hk]; exact h.byte _, h3⟩
/-- What is set between lines, and a byte more. -/
theorem blank_fill (s S : ByteArray) (F : List UInt8) (k : Nat) (hk : k < s.size) (hS : S.size < 32768) (hF : F ∈ fillL) (hl : F.length ≤ 13) (h10 : s[k] = 10) (h : Same S.data.toList (s.data.toList.take k)) :
    ∃ T1 T2 T : ByteArray, T.size ≤ 32782 + (k + 1) ∧ Same T.data.toList (s.data.toList.take (k + 1)) ∧ (∀ (P : Program) (w : World), (Op.stringOp .add ⟨#[32]⟩ ⟨F.toArray⟩).run P w = .ok (.string T1) w) ∧ (∀ (P : Program) (w : World), (Op.stringOp .add S T1).run P w = .ok (.string T2) w) ∧ (∀ (P : Program) (w : World), (Op.stringOp .add T2 (s.extract k (k + 1))).run P w = .ok (.string T) w) := by
  obtain ⟨e1, e2⟩ := ext_one s k hk
  obtain ⟨T1, a1, a2, a3⟩ := cat_rule ⟨#[32]⟩ ⟨F.toArray⟩ 1 13 (by decide) (by rw [size_list]; exact hl) (by omega)
  obtain ⟨T2, b1, b2, b3⟩ := cat_rule S T1 32767 14 (by omega) a2 (by omega)
  obtain ⟨T, c1, c2, c3⟩ := cat_rule T2 (s.extract k (k + 1)) 32781 1 b2 (by omega) (by omega)
  refine ⟨T1, T2, T, by omega, ?_, a3, b3, c3⟩
  rw [c1, b1, a1, e1, take_next s k hk, h10]
  exact h.fill F hF
theorem blank_long (s : ByteArray) (bv : Value) (w : World) (hs : 16384 < s.size) (hs2 : s.size ≤ maxLen) (hV : Vars w) : Calls Tryz.prog 4 #[.string s, bv] w fun e w' => e = .returned (.bool true) ∧ Below w.heap.size w w' := by
  have HK : Hid _ := wakes_any w hV
  unfold maxLen at hs2
  clear hV
  go_enter Tryz.func4, Tryz.ntmps4
  go_wp2_with (first | (go_at_call 10; refine Calls.mono HK.out ?_; rintro e w2 ⟨rfl, hb⟩))
  go_ret
  exact ⟨rfl, hb⟩
/-- The programs' boxes, and what is set between lines. -/
structure Bb (w V : World) (a : Option Addr) (c nb : Nat) (bs : List Bk) (bo : Option Addr) (bl : Nat) : Prop where
  p : At V nb #[.slice a bs.length c]
  f : At V (nb + 1) fillV
  pa : PAt V a bs
  bt : BtAt V bo bl
  b : Below w.heap.size w V
/-- Both programs' boxes. -/
structure Be (w V : World) (a a2 : Option Addr) (c c2 nb nb2 : Nat) (bs : List Bk) : Prop where
  p : At V nb #[.slice a bs.length c]
  q : At V nb2 #[.slice a2 bs.length c2]
  pa : PAt V a bs
  qa : PAt V a2 bs
  b : Below w.heap.size w V

set_option maxHeartbeats 4000000 in
theorem blank_good (s : ByteArray) (bo : Option Addr) (bl bcap : Nat) (bs : List Bk) (w : World) (hs : s.size ≤ 16384) (hV : Vars w) (hbt : BtAt w bo bl)
    (hP : ∀ (W : World) (t : ByteArray), Vars W → t.size ≤ 65536 → conts (linesS t.data.toList 0 []) = conts (linesS s.data.toList 0 []) → Calls Tryz.prog 6 #[.string t] W fun e w' => ∃ a c , e = .returned (.tuple #[.agg #[.slice a bs.length c], .nilIface]) ∧ PAt w' a bs ∧ Below W.heap.size W w') :
    Calls Tryz.prog 4 #[.string s, .slice bo bl bcap] w fun e w' => e = .returned (.bool true) ∧ Below w.heap.size w w' := by
  have HP1 : Hid _ := hP w s hV (by omega) rfl
  have HP : Hid (∀ (W : World) (t : ByteArray), Below w.heap.size w W → t.size ≤ 65536 → conts (linesS t.data.toList 0 []) = conts (linesS s.data.toList 0 []) → Calls Tryz.prog 6 #[.string t] W fun e w' => ∃ a c , e = .returned (.tuple #[.agg #[.slice a bs.length c], .nilIface]) ∧ PAt w' a bs ∧ Below W.heap.size W w') := fun W t h1 h2 h3 => hP W t (hV.up h1) h2 h3
  have HK : Hid (∀ W, Below w.heap.size w W → Calls Tryz.prog 10 #[] W fun e w' => e = .returned (.bool true) ∧ Below W.heap.size W w') := fun W hb => wakes_any W (hV.up hb)
  have HT : Hid _ := hbt
  have hbl := hbt.len
  unfold maxLen at hbl
  clear hV hP hbt
  go_enter Tryz.func4, Tryz.ntmps4
  go_wp2_with (first
    | (go_at_call 6; refine Calls.mono HP1.out ?_; rintro e w1 ⟨a, c, rfl, hp, hb⟩; have HB : Hid (Bb w ((w1.alloc (.cells #[.slice a bs.length c] 24)).alloc (.cells fillV 9)) a c w1.heap.size bs bo bl) := ⟨(At.new _ _ _).alloc _, (by have h := At.new (w1.alloc (.cells #[.slice a bs.length c] 24)) fillV 9; rw [World.size_alloc] at h; exact h), hp.below (((Below.refl _ _).alloc (Nat.le_refl _) _).alloc (by simp) _), HT.out.up ((hb.alloc hb.size _).alloc (by have := hb.size; simp; omega) _), (hb.alloc hb.size _).alloc (by have := hb.size; simp; omega) _⟩; clear hp hb HP1 HT))
  unfold fillV at HB
  generalize hV0 : ((w1.alloc (.cells #[.slice a bs.length c] 24)).alloc (.cells #[.string ⟨#[]⟩, .string ⟨#[10]⟩, .string ⟨#[32, 9]⟩, .string ⟨#[35, 32, 120]⟩, .string ⟨#[10, 10, 35, 32, 98, 108, 111, 99, 107, 32, 57, 58, 10]⟩, .string ⟨#[9, 35]⟩] 9)) = V at *
  clear hV0
  go_loop [8, 9, 10] (fun sv nv iv => ∃ (k n : Nat) (S : ByteArray), k ≤ s.size ∧ sv = .string S ∧ nv = .int .i64 n ∧ iv = .int .i64 k ∧ n ≤ k ∧ Hid (S.size ≤ 32782 + k) ∧ Hid (Same S.data.toList (s.data.toList.take k))) (fun _ _ iv => s.size - (intOf iv).toNat)
  case atStart => exact ⟨0, 0, ⟨#[10]⟩, by omega, rfl, rfl, rfl, by omega, (by decide : ByteArray.size _ ≤ _), (Same.start : Same _ _)⟩
  case round =>
    obtain ⟨k, n, S, hk, rfl, rfl, rfl, hn, HZ, HS⟩ := hrel
    by_cases hlt : k < s.size
    · by_cases hc : s[k] = 10 ∧ 0 < bl ∧ S.size < 32768
      · obtain ⟨h10, hb0, hS2⟩ := hc
        have h10i : ((s[k].toNat : Int) == 10) = true := by simpa using (byte10 s[k]).2 h10
        obtain ⟨b, f, rfl, hz, hx⟩ := HB.out.bt.is hb0
        obtain ⟨x, hx1, hx2⟩ := hx (n % bl) (Nat.mod_lt _ hb0)
        obtain ⟨F, hF, hFl, hFv⟩ := fill_get (x % 6) (by omega)
        have hfc := HB.out.f.c (x % 6) _ hFv
        obtain ⟨T1, T2, T, hT, hTS, r1, r2, r3⟩ := blank_fill s S F k hlt hS2 hF hFl h10 HS.out
        have HTS : Hid _ := hTS
        have hm1 : ((n : Int)).tmod (bl : Int) = ((n % bl : Nat) : Int) := by rw [Int.tmod_eq_emod_of_nonneg (by omega)]; simp
        have hm2 : ((x : Int)).tmod 6 = ((x % 6 : Nat) : Int) := by rw [Int.tmod_eq_emod_of_nonneg (by omega)]; simp
        have hj1 : n % bl < bl := Nat.mod_lt _ hb0
        have hj2 : x % 6 < 6 := by omega
        have HT : Hid _ := hT
        have hS2i : (S.size : Int) < 32768 := by omega
        have hS2b : decide ((S.size : Int) < 32768) = true := decide_eq_true hS2i
        clear hTS hx hF hFl hFv h10 hT hS2
        generalize n % bl = j1 at *
        generalize x % 6 = j2 at *
        go_wp2
        go_round
        case rel => exact ⟨k + 1, n + 1, T, by omega, rfl, by go_num, by go_num, by omega, HT, HTS⟩
        case measure => simp [intOf]; omega
      · obtain ⟨T, hT, hTS, hTr⟩ := blank_step s S k hlt HZ.out hs HS.out
        have HTS : Hid _ := hTS
        have HT : Hid _ := hT
        clear hTS hT
        by_cases h10 : s[k] = 10
        · have h10i : ((s[k].toNat : Int) == 10) = true := by simpa using (byte10 s[k]).2 h10
          by_cases hb0 : 0 < bl
          · have hS2 : 32768 ≤ S.size := by
              rcases Nat.lt_or_ge S.size 32768 with h | h
              · exact absurd ⟨h10, hb0, h⟩ hc
              · exact h
            have hS2i : ¬ (S.size : Int) < 32768 := by omega
            have hS2b : decide ((S.size : Int) < 32768) = false := decide_eq_false hS2i
            clear hc h10 hS2
            go_wp2
            go_round
            case rel => exact ⟨k + 1, n, T, by omega, rfl, rfl, by go_num, by omega, HT, HTS⟩
            case measure => simp [intOf]; omega
          · obtain rfl : bl = 0 := by omega
            clear hc h10
            go_wp2
            go_round
            case rel => exact ⟨k + 1, n, T, by omega, rfl, rfl, by go_num, by omega, HT, HTS⟩
            case measure => simp [intOf]; omega
        · have h10i : ((s[k].toNat : Int) == 10) = false := by simpa using fun h => h10 ((byte10 s[k]).1 h)
          clear hc h10
          go_wp2
          go_round
          case rel => exact ⟨k + 1, n, T, by omega, rfl, rfl, by go_num, by omega, HT, HTS⟩
          case measure => simp [intOf]; omega
    · obtain rfl : k = s.size := by omega
      have HSA : Hid (conts (linesS S.data.toList 0 []) = conts (linesS s.data.toList 0 [])) := by
        have h := HS.out.all
        rw [show s.data.toList.take s.size = s.data.toList from List.take_length] at h
        exact h
      go_wp2_with (first
        | (go_at_call 6; refine Calls.mono (HP.out _ S HB.out.b (by have := HZ.out; omega) HSA.out) ?_; rintro e w2 ⟨a2, c2, rfl, hp, hb⟩; have HD : Hid (Be w (w2.alloc (.cells #[.slice a2 bs.length c2] 24)) a a2 c c2 w1.heap.size w2.heap.size bs) := ⟨(HB.out.p.below hb HB.out.p.lt).alloc _, At.new _ _ _, (HB.out.pa.below hb).below ((Below.refl _ _).alloc (Nat.le_refl _) _), hp.below ((Below.refl _ _).alloc (Nat.le_refl _) _), (HB.out.b.trans (hb.mono HB.out.b.size)).alloc (Nat.le_trans HB.out.b.size hb.size) _⟩; clear hp hb HB HP))
      generalize (w2.alloc (.cells #[.slice a2 bs.length c2] 24)) = V2 at *
      have hin := HD.out
      have t0 : ∀ x : Wd (Below V2.heap.size V2), x.w.cell? ⟨w1.heap.size, 0, none⟩ = some (.slice a bs.length c) := fun x => (hin.p.below x.ok hin.p.lt).c 0 _ rfl
      have t1 : ∀ x : Wd (Below V2.heap.size V2), x.w.cell? ⟨w2.heap.size, 0, none⟩ = some (.slice a2 bs.length c2) := fun x => (hin.q.below x.ok hin.q.lt).c 0 _ rfl
      haveI inst : Nonempty (Wd (Below V2.heap.size V2)) := ⟨⟨V2, Below.refl _ _⟩⟩
      have HLK : Hid (∀ x : Wd (Below V2.heap.size V2), Calls Tryz.prog 9 #[.agg #[.slice a bs.length c], .agg #[.slice a2 bs.length c2]] x.w fun e w' => e = .returned (.bool true) ∧ Below x.w.heap.size x.w w') := fun x => likeProgram_any a a2 c c2 bs x.w (hin.pa.below x.ok) (hin.qa.below x.ok)
      have HWK : Hid (∀ x : Wd (Below V2.heap.size V2), Calls Tryz.prog 10 #[] x.w fun e w' => e = .returned (.bool true) ∧ Below x.w.heap.size x.w w') := fun x => HK.out x.w (hin.b.trans (x.ok.mono hin.b.size))
      clear hin HK
      refine wp_region_in (Below V2.heap.size V2) (by kernel_rfl) (by kernel_rfl) ((Below.refl _ _).drew) ?_
      repeat (first | go_big_quiet_step ((first
        | (go_at_call 9; exact calls_in (Nat.le_refl _) _ (HLK.out _))
        | (go_at_call 10; exact calls_in (Nat.le_refl _) _ (HWK.out _)))))
      refine wpQuiet_nil ?_
      rintro _ ⟨x, rfl⟩
      have hx := x.ok
      go_wp2
      go_ret
      exact ⟨rfl, HD.out.b.trans (hx.mono HD.out.b.size)⟩

set_option maxHeartbeats 4000000 in
theorem blank_bad (s : ByteArray) (bo : Option Addr) (bl bcap : Nat) (bs : List Bk) (w : World) (hs : s.size ≤ 16384) (hV : Vars w) (hbt : BtAt w bo bl)
    (hP : ∀ (W : World) (t : ByteArray), Vars W → t.size ≤ 65536 → conts (linesS t.data.toList 0 []) = conts (linesS s.data.toList 0 []) → Calls Tryz.prog 6 #[.string t] W fun e w' => ∃ a c q, e = .returned (.tuple #[.agg #[.slice a bs.length c], .iface 49 (.pointer (some ⟨q, 0, none⟩))]) ∧ PAt w' a bs ∧ Below W.heap.size W w') :
    Calls Tryz.prog 4 #[.string s, .slice bo bl bcap] w fun e w' => e = .returned (.bool true) ∧ Below w.heap.size w w' := by
  have HP1 : Hid _ := hP w s hV (by omega) rfl
  have HP : Hid (∀ (W : World) (t : ByteArray), Below w.heap.size w W → t.size ≤ 65536 → conts (linesS t.data.toList 0 []) = conts (linesS s.data.toList 0 []) → Calls Tryz.prog 6 #[.string t] W fun e w' => ∃ a c q, e = .returned (.tuple #[.agg #[.slice a bs.length c], .iface 49 (.pointer (some ⟨q, 0, none⟩))]) ∧ PAt w' a bs ∧ Below W.heap.size W w') := fun W t h1 h2 h3 => hP W t (hV.up h1) h2 h3
  have HK : Hid (∀ W, Below w.heap.size w W → Calls Tryz.prog 10 #[] W fun e w' => e = .returned (.bool true) ∧ Below W.heap.size W w') := fun W hb => wakes_any W (hV.up hb)
  have HT : Hid _ := hbt
  have hbl := hbt.len
  unfold maxLen at hbl
  clear hV hP hbt
  go_enter Tryz.func4, Tryz.ntmps4
  go_wp2_with (first
    | (go_at_call 6; refine Calls.mono HP1.out ?_; rintro e w1 ⟨a, c, q, rfl, hp, hb⟩; have HB : Hid (Bb w ((w1.alloc (.cells #[.slice a bs.length c] 24)).alloc (.cells fillV 9)) a c w1.heap.size bs bo bl) := ⟨(At.new _ _ _).alloc _, (by have h := At.new (w1.alloc (.cells #[.slice a bs.length c] 24)) fillV 9; rw [World.size_alloc] at h; exact h), hp.below (((Below.refl _ _).alloc (Nat.le_refl _) _).alloc (by simp) _), HT.out.up ((hb.alloc hb.size _).alloc (by have := hb.size; simp; omega) _), (hb.alloc hb.size _).alloc (by have := hb.size; simp; omega) _⟩; clear hp hb HP1 HT))
  unfold fillV at HB
  generalize hV0 : ((w1.alloc (.cells #[.slice a bs.length c] 24)).alloc (.cells #[.string ⟨#[]⟩, .string ⟨#[10]⟩, .string ⟨#[32, 9]⟩, .string ⟨#[35, 32, 120]⟩, .string ⟨#[10, 10, 35, 32, 98, 108, 111, 99, 107, 32, 57, 58, 10]⟩, .string ⟨#[9, 35]⟩] 9)) = V at *
  clear hV0
  go_loop [8, 9, 10] (fun sv nv iv => ∃ (k n : Nat) (S : ByteArray), k ≤ s.size ∧ sv = .string S ∧ nv = .int .i64 n ∧ iv = .int .i64 k ∧ n ≤ k ∧ Hid (S.size ≤ 32782 + k) ∧ Hid (Same S.data.toList (s.data.toList.take k))) (fun _ _ iv => s.size - (intOf iv).toNat)
  case atStart => exact ⟨0, 0, ⟨#[10]⟩, by omega, rfl, rfl, rfl, by omega, (by decide : ByteArray.size _ ≤ _), (Same.start : Same _ _)⟩
  case round =>
    obtain ⟨k, n, S, hk, rfl, rfl, rfl, hn, HZ, HS⟩ := hrel
    by_cases hlt : k < s.size
    · by_cases hc : s[k] = 10 ∧ 0 < bl ∧ S.size < 32768
      · obtain ⟨h10, hb0, hS2⟩ := hc
        have h10i : ((s[k].toNat : Int) == 10) = true := by simpa using (byte10 s[k]).2 h10
        obtain ⟨b, f, rfl, hz, hx⟩ := HB.out.bt.is hb0
        obtain ⟨x, hx1, hx2⟩ := hx (n % bl) (Nat.mod_lt _ hb0)
        obtain ⟨F, hF, hFl, hFv⟩ := fill_get (x % 6) (by omega)
        have hfc := HB.out.f.c (x % 6) _ hFv
        obtain ⟨T1, T2, T, hT, hTS, r1, r2, r3⟩ := blank_fill s S F k hlt hS2 hF hFl h10 HS.out
        have HTS : Hid _ := hTS
        have hm1 : ((n : Int)).tmod (bl : Int) = ((n % bl : Nat) : Int) := by rw [Int.tmod_eq_emod_of_nonneg (by omega)]; simp
        have hm2 : ((x : Int)).tmod 6 = ((x % 6 : Nat) : Int) := by rw [Int.tmod_eq_emod_of_nonneg (by omega)]; simp
        have hj1 : n % bl < bl := Nat.mod_lt _ hb0
        have hj2 : x % 6 < 6 := by omega
        have HT : Hid _ := hT
        have hS2i : (S.size : Int) < 32768 := by omega
        have hS2b : decide ((S.size : Int) < 32768) = true := decide_eq_true hS2i
        clear hTS hx hF hFl hFv h10 hT hS2
        generalize n % bl = j1 at *
        generalize x % 6 = j2 at *
        go_wp2
        go_round
        case rel => exact ⟨k + 1, n + 1, T, by omega, rfl, by go_num, by go_num, by omega, HT, HTS⟩
        case measure => simp [intOf]; omega
      · obtain ⟨T, hT, hTS, hTr⟩ := blank_step s S k hlt HZ.out hs HS.out
        have HTS : Hid _ := hTS
        have HT : Hid _ := hT
        clear hTS hT
        by_cases h10 : s[k] = 10
        · have h10i : ((s[k].toNat : Int) == 10) = true := by simpa using (byte10 s[k]).2 h10
          by_cases hb0 : 0 < bl
          · have hS2 : 32768 ≤ S.size := by
              rcases Nat.lt_or_ge S.size 32768 with h | h
              · exact absurd ⟨h10, hb0, h⟩ hc
              · exact h
            have hS2i : ¬ (S.size : Int) < 32768 := by omega
            have hS2b : decide ((S.size : Int) < 32768) = false := decide_eq_false hS2i
            clear hc h10 hS2
            go_wp2
            go_round
            case rel => exact ⟨k + 1, n, T, by omega, rfl, rfl, by go_num, by omega, HT, HTS⟩
            case measure => simp [intOf]; omega
          · obtain rfl : bl = 0 := by omega
            clear hc h10
            go_wp2
            go_round
            case rel => exact ⟨k + 1, n, T, by omega, rfl, rfl, by go_num, by omega, HT, HTS⟩
            case measure => simp [intOf]; omega
        · have h10i : ((s[k].toNat : Int) == 10) = false := by simpa using fun h => h10 ((byte10 s[k]).1 h)
          clear hc h10
          go_wp2
          go_round
          case rel => exact ⟨k + 1, n, T, by omega, rfl, rfl, by go_num, by omega, HT, HTS⟩
          case measure => simp [intOf]; omega
    · obtain rfl : k = s.size := by omega
      have HSA : Hid (conts (linesS S.data.toList 0 []) = conts (linesS s.data.toList 0 [])) := by
        have h := HS.out.all
        rw [show s.data.toList.take s.size = s.data.toList from List.take_length] at h
        exact h
      go_wp2_with (first
        | (go_at_call 6; refine Calls.mono (HP.out _ S HB.out.b (by have := HZ.out; omega) HSA.out) ?_; rintro e w2 ⟨a2, c2, q, rfl, hp, hb⟩; have HD : Hid (Be w (w2.alloc (.cells #[.slice a2 bs.length c2] 24)) a a2 c c2 w1.heap.size w2.heap.size bs) := ⟨(HB.out.p.below hb HB.out.p.lt).alloc _, At.new _ _ _, (HB.out.pa.below hb).below ((Below.refl _ _).alloc (Nat.le_refl _) _), hp.below ((Below.refl _ _).alloc (Nat.le_refl _) _), (HB.out.b.trans (hb.mono HB.out.b.size)).alloc (Nat.le_trans HB.out.b.size hb.size) _⟩; clear hp hb HB HP))
      generalize (w2.alloc (.cells #[.slice a2 bs.length c2] 24)) = V2 at *
      have hin := HD.out
      have t0 : ∀ x : Wd (Below V2.heap.size V2), x.w.cell? ⟨w1.heap.size, 0, none⟩ = some (.slice a bs.length c) := fun x => (hin.p.below x.ok hin.p.lt).c 0 _ rfl
      have t1 : ∀ x : Wd (Below V2.heap.size V2), x.w.cell? ⟨w2.heap.size, 0, none⟩ = some (.slice a2 bs.length c2) := fun x => (hin.q.below x.ok hin.q.lt).c 0 _ rfl
      haveI inst : Nonempty (Wd (Below V2.heap.size V2)) := ⟨⟨V2, Below.refl _ _⟩⟩
      have HLK : Hid (∀ x : Wd (Below V2.heap.size V2), Calls Tryz.prog 9 #[.agg #[.slice a bs.length c], .agg #[.slice a2 bs.length c2]] x.w fun e w' => e = .returned (.bool true) ∧ Below x.w.heap.size x.w w') := fun x => likeProgram_any a a2 c c2 bs x.w (hin.pa.below x.ok) (hin.qa.below x.ok)
      have HWK : Hid (∀ x : Wd (Below V2.heap.size V2), Calls Tryz.prog 10 #[] x.w fun e w' => e = .returned (.bool true) ∧ Below x.w.heap.size x.w w') := fun x => HK.out x.w (hin.b.trans (x.ok.mono hin.b.size))
      clear hin HK
      refine wp_region_in (Below V2.heap.size V2) (by kernel_rfl) (by kernel_rfl) ((Below.refl _ _).drew) ?_
      repeat (first | go_big_quiet_step ((first
        | (go_at_call 9; exact calls_in (Nat.le_refl _) _ (HLK.out _))
        | (go_at_call 10; exact calls_in (Nat.le_refl _) _ (HWK.out _)))))
      refine wpQuiet_nil ?_
      rintro _ ⟨x, rfl⟩
      have hx := x.ok
      go_wp2
      go_ret
      exact ⟨rfl, HD.out.b.trans (hx.mono HD.out.b.size)⟩

theorem law_blank (s : ByteArray) (bo : Option Addr) (bl bcap : Nat) (w : World) (hs : s.size ≤ maxLen) (hV : Vars w) (hbt : BtAt w bo bl) : Calls Tryz.prog 4 #[.string s, .slice bo bl bcap] w fun e w' => e = .returned (.bool true) ∧ Below w.heap.size w w' := by
  rcases Nat.lt_or_ge 16384 s.size with hl | hl
  · exact blank_long s _ w hl hs hV
  · cases h : (parseF s.data.toList).1 with
    | none =>
      refine blank_good s bo bl bcap (parseF s.data.toList).2 w hl hV hbt fun W t hW ht hc => ?_
      obtain ⟨h1, h2⟩ := parse_same (s := t.data.toList) (t := s.data.toList) ht (by show s.size ≤ _; omega) hc
      refine (parse_good t (parseF s.data.toList).2 W (by unfold maxLen; omega) hW (by rw [← h2, ← h1.2 h])).mono ?_
      rintro e w' ⟨a, c, he, hp, hb⟩
      exact ⟨a, c, he, hp.pat, hb⟩
    | some f =>
      refine blank_bad s bo bl bcap [] w hl hV hbt fun W t hW ht hc => ?_
      obtain ⟨h1, h2⟩ := parse_same (s := t.data.toList) (t := s.data.toList) ht (by show s.size ≤ _; omega) hc
      cases h' : (parseF t.data.toList).1 with
      | none => rw [h1.1 h'] at h; cases h
      | some f' =>
        refine (parse_bad t f' (parseF t.data.toList).2 W (by unfold maxLen; omega) hW (by rw [← h'])).mono ?_
        rintro e w' ⟨q, he, _, hb⟩
        exact ⟨none, 0, q, he, pAt_nil _ _, hb⟩
end Go.Proofs.YthfchelkfbboaaaGreatDoor.Pr
