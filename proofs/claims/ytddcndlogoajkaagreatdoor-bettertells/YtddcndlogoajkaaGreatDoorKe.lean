/- The first dead operation of a program, as the document finds it (dead): read off the program by the walk. Conditions: the program lies in memory and is one. -/
import Derived.Test.YtddcndlogoajkaaGreatDoorKd
import Derived.Test.YtddcndlogoajkaaGreatDoorQDe
import Derived.Test.YtddcndlogoajkaaGreatDoorQRw
namespace Go.Proofs.YtddcndlogoajkaaGreatDoor.L8.Bt
open Go.ChangeShapes Go.WideShapes Go.ChangeAt Go.RowKit Go.Great
open _root_.Go.Proofs.YtddcndlogoajkaaGreatDoor.L8.Op _root_.Go.Proofs.YtddcndlogoajkaaGreatDoor.L8.So _root_.Go.Proofs.YtddcndlogoajkaaGreatDoor.L8.Fl
open _root_.Go.Proofs.YtddcndlogoajkaaGreatDoor.L8.Li (InIs in_ex refAt_yes)
open _root_.Go.Proofs.YtddcndlogoajkaaGreatDoor.L8.Lv (rdL wOf PsOk psOk_of IsIn endN bOf PB W aheadNL)
set_option maxRecDepth 20000

theorem bit_not {ps : List Bk} {I : List Nat} (hI : IsIn ps I) (hG : PsG ps) {i j : Nat} (hi : i < ps.length) (d : Nat) : (aheadNL ((ps[i].ops.drop (j + 1)).map wOf) (endN (bOf ps[i]) I)).testBit d = false ↔ ¬ NdP ((ps[i].ops.drop (j + 1)).map wOf) (EndP (PB ps) (bOf ps[i])) d := by
  have hok : PsOk ps := fun x hx => by
    have hb := hG.b x hx
    exact ⟨hb.ok, fun o ho => (hb.o o ho).1, fun o ho => (hb.b o ho).1⟩
  have h := bit_nd (l := ps[i].ops.drop (j + 1)) (end_32 hI hG.ck hok hi) (fun o ho => (hok _ (List.getElem_mem hi)).2.1 o (List.mem_of_mem_drop ho)) d
  have e : ∀ r, (endN (bOf ps[i]) I).testBit r = true ↔ EndP (PB ps) (bOf ps[i]) r := fun r => end_bit hI hG.ck hok hi r
  constructor
  · intro q n
    have := h.2 (ndP_mono (fun r hr => (e r).2 hr) n)
    rw [q] at this; cases this
  · intro q
    cases hb : (aheadNL ((ps[i].ops.drop (j + 1)).map wOf) (endN (bOf ps[i]) I)).testBit d with
    | false => rfl
    | true => exact absurd (ndP_mono (fun r hr => (e r).1 hr) (h.1 hb)) q
theorem shr_bit {y d : Nat} (hy : y < 4294967296) : (bits .and .u32 ((y : Int) / 2 ^ d) 1 == 0) = !(y.testBit d) := by
  have e1 : ((y : Int) / 2 ^ d) = ((y / 2 ^ d : Nat) : Int) := by simp
  have hl : y / 2 ^ d < 4294967296 := Nat.lt_of_le_of_lt (Nat.div_le_self _ _) hy
  have e2 := u32_and_nat (y / 2 ^ d) 1 hl (by decide)
  rw [e1, show (1 : Int) = ((1 : Nat) : Int) from rfl, e2, Nat.and_one_is_mod, Nat.testBit_eq_decide_div_mod_eq]
  rcases Nat.mod_two_eq_zero_or_one (y / 2 ^ d) with h | h <;> simp [h]
theorem dd_lt {ps : List Bk} {i j : Nat} (h : DdP ps i j) : i < ps.length ∧ ∀ hi : i < ps.length, j < ps[i].ops.length := by
  obtain ⟨h1, h2, -⟩ := h
  exact ⟨h1, fun _ => h2⟩
theorem bt_true {b : Bool} {P : Prop} (h : b = false ↔ ¬ P) (hp : P) : b = true := by
  cases b with
  | true => rfl
  | false => exact absurd hp (h.1 rfl)
set_option maxHeartbeats 8000000 in
theorem rdead_any (ao : Option Addr) (cap : Nat) (ps : List Bk) (w : World) (h : PAt w ao ps) (hG : PsG ps) :
    Calls Tryz.prog 26 #[.agg #[.slice ao ps.length cap]] w fun e w' => Below w.heap.size w w' ∧ ((∃ i j : Nat, e = .returned (.tuple #[.int .i64 i, .int .i64 j, .bool true]) ∧ DdP ps i j) ∨ (e = .returned (.tuple #[.int .i64 0, .int .i64 0, .bool false]) ∧ ∀ i j, ¬ DdP ps i j)) := by
  have HP : Hid (PAt w ao ps) := h
  have HGd : Hid (PsG ps) := hG
  obtain ⟨I, hI⟩ := in_ex (psOk_of h)
  have HAt : Hid (∀ (i j : Nat) (hi : i < ps.length), j < ps[i].ops.length → ∀ W, Below w.heap.size w W → Calls Tryz.prog 45 #[.agg #[.slice ao ps.length cap], .int .i64 i, .int .i64 ((j : Int) + 1)] W fun e w' => ∃ y : Nat, e = .returned (.int .u32 (y : Int)) ∧ y < 4294967296 ∧ (∀ d, y.testBit d = false ↔ ¬ NdP ((ps[i].ops.drop (j + 1)).map wOf) (EndP (PB ps) (bOf ps[i])) d) ∧ Below W.heap.size W w') := fun i j hi hj W hb => by
    refine (refAt_yes I ao cap ps i (j + 1) W hI (h.below hb) hG.ck hi (by omega)).mono ?_
    rintro e w' ⟨rfl, h1, h2⟩
    have hok := psOk_of h
    exact ⟨_, rfl, Lv.aheadNL_lt (end_32 h2 hG.ck hok hi) (fun o ho => by
      obtain ⟨u, hu, rfl⟩ := List.mem_map.1 ho
      exact Lv.small_of u ((hok _ (List.getElem_mem hi)).2.1 u (List.mem_of_mem_drop hu))), fun d => bit_not h2 hG hi d, h1⟩
  have HB0 : Hid (Op.At (w.alloc (.cells #[.slice ao ps.length cap] 24)) w.heap.size #[.slice ao ps.length cap] ∧ Below w.heap.size w (w.alloc (.cells #[.slice ao ps.length cap] 24))) := ⟨Op.At.new _ _ _, below_al _⟩
  have hn := hG.n
  have hni : (ps.length : Int) ≤ 128 := by omega
  clear h hG hI
  go_enter Tryz.func26, Tryz.ntmps26
  go_wp2_with fail
  generalize w.alloc (.cells #[.slice ao ps.length cap] 24) = W0 at *
  go_loopw [5] (fun i wr => ∃ k : Nat, k ≤ ps.length ∧ i = .int .i64 k ∧ (Op.At wr w.heap.size #[.slice ao ps.length cap] ∧ Below w.heap.size w wr) ∧ ∀ i j, i < k → ¬ DdP ps i j) (fun i _ => ps.length - (intOf i).toNat)
  case atStart => exact ⟨0, by omega, rfl, HB0.out, fun i j h => absurd h (by omega)⟩
  case round =>
    rename World => wr
    obtain ⟨k, hk, rfl, hd, hno⟩ := hrel
    clear HB0
    have HD : Hid _ := hd
    have HNo : Hid _ := hno
    have cp := hd.1.c 0 _ rfl
    have cl := hd.1.lt
    clear hd hno
    by_cases hlt : k < ps.length
    · have hki : (k : Int) < (ps.length : Int) := by omega
      have hk0 : (0 : Int) ≤ (k : Int) := by omega
      have HAk : Hid _ := fun j => HAt.out k j hlt
      obtain ⟨b, f, rfl, hz, hx⟩ := HP.out.is (by omega)
      obtain ⟨p, hp, h5⟩ := hx k hlt
      have HC0 : Hid (∀ W, Below w.heap.size w W → W.cell? ⟨b, f + k * 6, none⟩ = some (.slice p.oa ps[k].ops.length p.oc)) := fun W hb => (hp.below hb hz).c0
      have HOs : Hid (∀ W, Below w.heap.size w W → OpsAt W p.oa ps[k].ops) := fun W hb => h5.o.below hb
      have HDd : Hid (∀ j, DdP ps k j ↔ ∃ hj : j < ps[k].ops.length, wrB ps[k].ops[j] = true ∧ ps[k].ops[j].op ≠ 13 ∧ ps[k].ops[j].op ≠ 14 ∧ ¬ NdP ((ps[k].ops.drop (j + 1)).map wOf) (EndP (PB ps) (bOf ps[k])) ps[k].ops[j].d.toNat) := fun j => ⟨fun ⟨_, h⟩ => h, fun h => ⟨hlt, h⟩⟩
      have HLt : Hid (∀ j, DdP ps k j → j < ps[k].ops.length) := fun j h => (dd_lt h).2 hlt
      have HOk : Hid (∀ o ∈ ps[k].ops, o.Ok ∧ okP o = true) := (HGd.out.b _ (List.getElem_mem hlt)).o
      have hl8 := (psG_small HGd.out _ (List.getElem_mem hlt)).1
      have b0 := HC0.out wr HD.out.2
      clear hx hp h5
      generalize bOf ps[k] = bk at *
      generalize hxo : ps[k].ops = xo at *
      clear hxo
      obtain ⟨oa, oc, ba, bc⟩ := p
      go_wp2_with fail
      go_loopw [6] (fun j wr => ∃ m : Nat, m ≤ xo.length ∧ j = .int .i64 m ∧ (Op.At wr w.heap.size #[.slice (some ⟨b, f, none⟩) ps.length cap] ∧ Below w.heap.size w wr) ∧ ∀ j, j < m → ¬ DdP ps k j) (fun j _ => xo.length - (intOf j).toNat)
      case atStart => exact ⟨0, by omega, rfl, HD.out, fun j h => absurd h (by omega)⟩
      case round =>
        rename World => wi
        obtain ⟨m, hm, rfl, hd, hnm⟩ := hrel
        clear cp cl b0
        have HE : Hid _ := hd
        have HNm : Hid _ := hnm
        have cp := hd.1.c 0 _ rfl
        have cl := hd.1.lt
        have b0 := HC0.out wi hd.2
        clear hd hnm
        try simp only at b0
        by_cases hmt : m < xo.length
        · have hmi : (m : Int) < (xo.length : Int) := by omega
          have hm0 : (0 : Int) ≤ (m : Int) := by omega
          have hx := HOk.out _ (List.getElem_mem hmt)
          obtain ⟨ob, of, e1, hol, hoc⟩ := (HOs.out wi HE.out.2).is (by omega)
          try simp only at e1
          subst e1
          obtain ⟨c0, c1, c2, c3, c4⟩ := hoc m hmt
          have HW : Hid (∀ W, Calls Tryz.prog 44 #[xo[m].val] W fun e w' => e = .returned (.tuple #[.int .u8 (wrD xo[m]), .bool (wrB xo[m])]) ∧ Below W.heap.size W w') := fun W => refWrites_any _ W hx.1
          have HA3 : Hid _ := fun W => HAk.out m hmt W
          have HD3 : Hid (DdP ps k m ↔ wrB xo[m] = true ∧ xo[m].op ≠ 13 ∧ xo[m].op ≠ 14 ∧ ¬ NdP ((xo.drop (m + 1)).map wOf) (EndP (PB ps) bk) xo[m].d.toNat) := ⟨fun h => by obtain ⟨_, h2⟩ := (HDd.out m).1 h; exact h2, fun h => (HDd.out m).2 ⟨hmt, h⟩⟩
          have hd0 := hx.1.d0
          have hdl : wrB xo[m] = true → xo[m].d < 32 := fun hw => by
            have hs := (Lv.small_of _ hx.1).2 xo[m].d.toNat (by simp [wOf, hw])
            omega
          have hop := hx.1
          have HSt : Hid (∀ W, Below w.heap.size w W → ¬ DdP ps k m → ∃ m2 : Nat, m2 ≤ xo.length ∧ (.int .i64 ((m : Int) + 1) : Value) = .int .i64 m2 ∧ ∀ j, j < m2 → ¬ DdP ps k j) := fun W _ hn => ⟨m + 1, by omega, by simp, fun j hj => by
            rcases Nat.lt_or_ge j m with h | h
            · exact HNm.out j h
            · obtain rfl : j = m := by omega
              exact hn⟩
          have hwd : wrD xo[m] = if wrB xo[m] = true then xo[m].d else 0 := rfl
          clear hx hoc HAk HDd
          generalize xo[m] = x at *
          obtain ⟨o, d, a, b', im⟩ := x
          try simp only at c0 c1 c2 c3 c4 hd0 hdl hwd
          go_upto_region 9 with (first | (go_at_call 44; go_loud (refine Calls.mono (HW.out _) ?_; rintro e w2 ⟨rfl, hb⟩; obtain ⟨a1, hb0, hz1⟩ := one_new wi _ _ hb; have H2 : Hid ((Op.At w2 w.heap.size #[.slice (some ⟨b, f, none⟩) ps.length cap] ∧ Below w.heap.size w w2) ∧ Op.At w2 wi.heap.size #[.int .i8 o, .int .u8 d, .int .u8 a, .int .u8 b', .int .i64 im]) := ⟨⟨HE.out.1.below hb0 cl, HE.out.2.trans (hb0.mono HE.out.2.size)⟩, a1⟩; clear hb hb0 a1 hz1 HW cp b0 c0 c1 c2 c3 c4)))
          have cp := H2.out.1.1.c 0 _ rfl
          have cl := H2.out.1.1.lt
          obtain ⟨t0, t1, t2, t3, t4⟩ := H2.out.2.o5
          have tl := H2.out.2.lt
          generalize hwb : wrB ⟨o, d, a, b', im⟩ = wb at *
          by_cases hdd : DdP ps k m
          · obtain ⟨h1, h2, h3, h4⟩ := HD3.out.1 hdd
            replace h2 : ¬ o = 13 := h2
            replace h3 : ¬ o = 14 := h3
            have h13 : (o != 13) = true := by simpa using h2
            have h14 : (o != 14) = true := by simpa using h3
            obtain rfl : wb = true := h1
            obtain ⟨nd, rfl⟩ : ∃ n : Nat, d = n := ⟨d.toNat, by omega⟩
            have hnd : nd < 32 := by have := hdl rfl; omega
            have hndi : (nd : Int) < 32 := by omega
            simp only [if_true] at *
            have HNd : Hid (¬ NdP ((xo.drop (m + 1)).map wOf) (EndP (PB ps) bk) nd) := h4
            clear h4 hdl hwd hwb HSt HD3
            go_wp2_with (first | (go_at_call 45; go_loud (refine Calls.mono (HA3.out _ H2.out.1.2) ?_; rintro e w3 ⟨y, rfl, hy, hyb, hb⟩; have hsb := shr_bit (d := nd) hy; rw [(hyb nd).2 HNd.out, Bool.not_false] at hsb; have H3 : Hid (Op.At w3 w.heap.size #[.slice (some ⟨b, f, none⟩) ps.length cap] ∧ Below w.heap.size w w3) := ⟨H2.out.1.1.below hb H2.out.1.1.lt, H2.out.1.2.trans (hb.mono H2.out.1.2.size)⟩; clear hb hyb H2 HA3 t0 t1 t2 t3 t4 tl cp cl)))
            refine bodyPost_ret (v := .tuple #[.int .i64 k, .int .i64 m, .bool true]) (by simp [results, Tryz.results26, go_sem]) rfl ⟨H3.out.2, .inl ⟨k, m, rfl, hdd⟩⟩
          · cases wb with
            | false =>
              clear HD3 hdl hwd hwb
              go_wp2_with fail
              go_roundw
              case rel =>
                obtain ⟨m2, q1, q2, q3⟩ := HSt.out _ H2.out.1.2 hdd
                exact ⟨m2, q1, q2, H2.out.1, q3⟩
              case measure => simp [intOf]; omega
            | true =>
              obtain ⟨nd, rfl⟩ : ∃ n : Nat, d = n := ⟨d.toNat, by omega⟩
              have hnd : nd < 32 := by have := hdl rfl; omega
              have hndi : (nd : Int) < 32 := by omega
              have HNd : Hid (¬ o = 13 → ¬ o = 14 → NdP ((xo.drop (m + 1)).map wOf) (EndP (PB ps) bk) nd) := fun h1 h2 => Classical.byContradiction fun h3 => hdd (HD3.out.2 ⟨rfl, h1, h2, h3⟩)
              simp only [if_true] at *
              clear HD3 hdl hwd hwb
              by_cases h2 : o = 13
              · subst h2
                go_wp2_with fail
                go_roundw
                case rel =>
                  obtain ⟨m2, q1, q2, q3⟩ := HSt.out _ H2.out.1.2 hdd
                  exact ⟨m2, q1, q2, H2.out.1, q3⟩
                case measure => simp [intOf]; omega
              · have h13 : (o != 13) = true := by simpa using h2
                by_cases h3 : o = 14
                · subst h3
                  go_wp2_with fail
                  go_roundw
                  case rel =>
                    obtain ⟨m2, q1, q2, q3⟩ := HSt.out _ H2.out.1.2 hdd
                    exact ⟨m2, q1, q2, H2.out.1, q3⟩
                  case measure => simp [intOf]; omega
                · have h14 : (o != 14) = true := by simpa using h3
                  go_wp2_with (first | (go_at_call 45; go_loud (refine Calls.mono (HA3.out _ H2.out.1.2) ?_; rintro e w3 ⟨y, rfl, hy, hyb, hb⟩; have hsb := shr_bit (d := nd) hy; rw [bt_true (hyb nd) (HNd.out h2 h3), Bool.not_true] at hsb; have H3 : Hid (Op.At w3 w.heap.size #[.slice (some ⟨b, f, none⟩) ps.length cap] ∧ Below w.heap.size w w3) := ⟨H2.out.1.1.below hb H2.out.1.1.lt, H2.out.1.2.trans (hb.mono H2.out.1.2.size)⟩; clear hb hyb H2 HA3 t0 t1 t2 t3 t4 tl cp cl)))
                  go_roundw
                  case rel =>
                    obtain ⟨m2, q1, q2, q3⟩ := HSt.out _ H3.out.2 hdd
                    exact ⟨m2, q1, q2, H3.out, q3⟩
                  case measure => simp [intOf]; omega
        · obtain rfl : m = xo.length := by omega
          go_wp2_with fail
          go_roundw
          case rel => exact ⟨k + 1, by omega, by go_num, HE.out, fun i j hi => by
            rcases Nat.lt_or_ge i k with h | h
            · exact HNo.out i j h
            · obtain rfl : i = k := by omega
              intro hdd
              exact HNm.out j (HLt.out j hdd) hdd⟩
          case measure => simp [intOf]; omega
    · obtain rfl : k = ps.length := by omega
      go_wp2_with fail
      refine bodyPost_ret (v := .tuple #[.int .i64 0, .int .i64 0, .bool false]) (by simp [results, Tryz.results26, go_sem]) rfl ⟨HD.out.2, .inr ⟨rfl, fun i j hdd => HNo.out i j (dd_lt hdd).1 hdd⟩⟩
end Go.Proofs.YtddcndlogoajkaaGreatDoor.L8.Bt
