/- ModuloRounds over the program: rounds that overlap as a plan says keep every dependence of the rounds written one behind the other, and never need more units than there are. Conditions: the lists lie in memory, the variables as the program lays them. -/
import Derived.Test.YteccifanbgcakaaGreatDoorM47
import Derived.Test.YteccifanbgcakaaGreatDoorM40
import Derived.Deep.AppendLies
namespace Go.Proofs.YteccifanbgcakaaGreatDoor.Mo
open Go.ChangeShapes Go.WideShapes Go.ChangeAt Go.RowKit
open _root_.Go.Proofs.YteccifanbgcakaaGreatDoor.Op _root_.Go.Proofs.YteccifanbgcakaaGreatDoor.So _root_.Go.Proofs.YteccifanbgcakaaGreatDoor.Dp _root_.Go.Proofs.YteccifanbgcakaaGreatDoor.Bn
open _root_.Go.Proofs.YteccifanbgcakaaGreatDoor.Ls (clN clN_at clN_lt Nl arC arC_all arC_yes arC_no areCycles_any)
open _root_.Go.Proofs.YteccifanbgcakaaGreatDoor.Rv (RAt Few frB tkF tk_few take_any evOk NwOut ring_ok tn addK)
open _root_.Go.Proofs.YteccifanbgcakaaGreatDoor.Tb (Tab TabAt Bnds)
set_option maxRecDepth 20000

open _root_.Go.Proofs.YteccifanbgcakaaGreatDoor.Ls (clV_D)
theorem cnt_len (p : Nat → Bool) : ∀ n, cnt p n ≤ n
  | 0 => Nat.le_refl _
  | n + 1 => by
    have := cnt_len p n
    unfold cnt
    split <;> omega
/-- The rounds, their cycles and their dependences in memory. -/
structure Rr (w W : World) (t : Tab) (E : Int) (a : Option Addr) (n ccap : Nat) (S : Int) (aa : Option Addr) (ys : List O) (ca : Option Addr) (L : Nat) (cf : Nat → Int) (ea : Option Addr) (es : List Ed) : Prop where
  x : Cx w W t E a n ccap S
  o : OpsAt W aa ys
  c : Nl W ca L cf
  e : Es W ea es
theorem Rr.next {w W W' : World} {t : Tab} {E : Int} {a : Option Addr} {n ccap : Nat} {S : Int} {aa : Option Addr} {ys : List O} {ca : Option Addr} {L : Nat} {cf : Nat → Int} {ea : Option Addr} {es : List Ed} (h : Rr w W t E a n ccap S aa ys ca L cf ea es) (g : Below W.heap.size W W') : Rr w W' t E a n ccap S aa ys ca L cf ea es := ⟨h.x.next g, h.o.below g, h.c.up g, h.e.up g⟩
theorem five (q : Int) : ∃ nr : Nat, 1 + Int.tmod (Int.tmod q 5 + 5) 5 = nr ∧ 1 ≤ nr ∧ nr ≤ 5 ∧ (-5 < Int.tmod q 5 ∧ Int.tmod q 5 < 5) ∧ (0 ≤ Int.tmod (Int.tmod q 5 + 5) 5 ∧ Int.tmod (Int.tmod q 5 + 5) 5 < 5) := by
  have h1 := Int.lt_tmod_of_pos q (show (0 : Int) < 5 by omega)
  have h2 := Int.tmod_lt_of_pos q (show (0 : Int) < 5 by omega)
  have h3 := Int.tmod_lt_of_pos (Int.tmod q 5 + 5) (show (0 : Int) < 5 by omega)
  have h4 : 0 ≤ Int.tmod (Int.tmod q 5 + 5) 5 := by rw [Int.tmod_eq_emod_of_nonneg (by omega)]; omega
  exact ⟨(1 + Int.tmod (Int.tmod q 5 + 5) 5).toNat, by omega, by omega, by omega, ⟨by omega, h2⟩, h4, h3⟩
set_option maxHeartbeats 40000000 in
theorem law_rounds (a ao : Option Addr) (n ccap cap : Nat) (xs : List O) (t : Tab) (g : Nat → Int) (E S q : Int) (w : World) (hg : Nl w a n g) (h : OpsAt w ao xs) (hcap : xs.length ≤ cap) (hG : Bnds w) (hnn : n ≤ 9000000000000000000) :
    Calls Tryz.prog 6 #[.slice ao xs.length cap, t.val, .agg #[.int .i64 E, .slice a n ccap, .int .i64 S], .int .i64 q] w fun e w' => e = .returned (.bool true) ∧ Below w.heap.size w w' := by
  have HW : Hid (∀ W, Below w.heap.size w W → Calls Tryz.prog 8 #[] W fun e w' => e = .returned (.bool true) ∧ Below W.heap.size W w') := fun W hb => wakes_any W (hG.below hb hG.big)
  have HC : Hid (∀ W, Below w.heap.size w W → Calls Tryz.prog 10 #[.slice ao xs.length cap, .agg #[.int .i64 (t.u 0), .int .i64 (t.u 1), .int .i64 (t.u 2), .int .i64 (t.u 3), .int .i64 (t.l 0), .int .i64 (t.l 1), .int .i64 (t.l 2), .int .i64 (t.l 3), .int .i64 (t.b 0), .int .i64 (t.b 1), .int .i64 (t.b 2), .int .i64 (t.b 3), .int .i64 t.d], .agg #[.int .i64 E, .slice a n ccap, .int .i64 S]] W fun e w' => e = .returned (.bool (mcB t xs n g E S)) ∧ Below W.heap.size W w') := fun W hb => check_any a ao n ccap cap xs t g E S W (hg.up hb) (h.below hb) hcap (hG.below hb hG.big) hnn
  have HT0 : Hid (Cx w ((w.alloc (.cells #[.int .i64 (t.u 0), .int .i64 (t.u 1), .int .i64 (t.u 2), .int .i64 (t.u 3), .int .i64 (t.l 0), .int .i64 (t.l 1), .int .i64 (t.l 2), .int .i64 (t.l 3), .int .i64 (t.b 0), .int .i64 (t.b 1), .int .i64 (t.b 2), .int .i64 (t.b 3), .int .i64 t.d] 25)).alloc (.cells #[.int .i64 E, .slice a n ccap, .int .i64 S] 28)) t E a n ccap S) := cx_new w t E S a n ccap
  have hlen := h.len
  have hli : (xs.length : Int) ≤ 8796093022208 := by omega
  have hni : (n : Int) ≤ 9000000000000000000 := by omega
  by_cases hl : 12 < xs.length
  · have hl' : (12 : Int) < (xs.length : Int) := by omega
    clear h hcap hG hg HC
    unfold Tab.val
    go_enter Tryz.func6, Tryz.ntmps6
    go_wp2_with (first
      | (go_at_call 8; refine Calls.mono (HW.out _ HT0.out.up) ?_; rintro e w9 ⟨rfl, b9⟩; have HB9 : Hid (Below w.heap.size w w9) := (HT0.out.next b9).up; clear b9 HW HT0))
    go_ret
    exact ⟨rfl, HB9.out⟩
  · have hl' : ¬ (12 : Int) < (xs.length : Int) := by omega
    by_cases hEl : 1000 < E
    · clear h hcap hG hg HC
      unfold Tab.val
      go_enter Tryz.func6, Tryz.ntmps6
      go_wp2_with (first
        | (go_at_call 8; refine Calls.mono (HW.out _ HT0.out.up) ?_; rintro e w9 ⟨rfl, b9⟩; have HB9 : Hid (Below w.heap.size w w9) := (HT0.out.next b9).up; clear b9 HW HT0))
      go_ret
      exact ⟨rfl, HB9.out⟩
    · cases hm : mcB t xs n g E S
      · rw [hm] at HC
        clear h hcap hG hg hm
        unfold Tab.val
        go_enter Tryz.func6, Tryz.ntmps6
        go_wp2_with (first
          | (go_at_call 10; refine Calls.mono (HC.out _ HT0.out.up) ?_; rintro e w1 ⟨rfl, b1⟩; have HT : Hid (Cx w w1 t E a n ccap S) := HT0.out.next b1; clear b1 HC HT0)
          | (go_at_call 8; refine Calls.mono (HW.out _ HT.out.up) ?_; rintro e w9 ⟨rfl, b9⟩; have HB9 : Hid (Below w.heap.size w w9) := (HT.out.next b9).up; clear b9 HW HT))
        go_ret
        exact ⟨rfl, HB9.out⟩
      · obtain ⟨he, q2, q3, q4, q5, -, -, -, -⟩ := mc_parts hm
        subst q4
        obtain ⟨ht, hn64, hlis, -⟩ := rg_ok he
        obtain ⟨⟨d0, d4⟩, -⟩ := tab_in ht
        obtain ⟨nr, hnr, hr1, hr5, ⟨m1, m2⟩, m3, m4⟩ := five q
        have hgr := arC_all q5
        have hall := (lis_all hlis).2.2
        have hlr := lis_rep hlis hr5 (by omega)
        have HCl : Hid (∀ (ys : List O), (∀ o ∈ ys, o ∈ xs) → ∀ (k : Nat) (hk : k < ys.length) Z, Calls Tryz.prog 18 #[.int .i8 ys[k].op] Z fun e w' => e = .returned (.tuple #[.int .i64 (clN ys k : Int), .bool true]) ∧ Below Z.heap.size Z w') := fun ys hys k hk Z => by
          have hm := hys _ (List.getElem_mem hk)
          have hw := h.ok ys[k] hm
          have := class_any ys[k].op Z hw.op0 hw.op1
          obtain ⟨c1, c2⟩ := clV_D (hall _ hm)
          rw [c1, c2] at this
          rw [clN_at hk]
          exact this
        have HOf : Hid (∀ W aa ac, Below w.heap.size w W → OpsAt W aa (rep xs nr) → (rep xs nr).length ≤ ac → Calls Tryz.prog 19 #[.slice aa (rep xs nr).length ac, .agg #[.int .i64 (t.u 0), .int .i64 (t.u 1), .int .i64 (t.u 2), .int .i64 (t.u 3), .int .i64 (t.l 0), .int .i64 (t.l 1), .int .i64 (t.l 2), .int .i64 (t.l 3), .int .i64 (t.b 0), .int .i64 (t.b 1), .int .i64 (t.b 2), .int .i64 (t.b 3), .int .i64 t.d]] W (EdOut W 0 (ofE t (rep xs nr)))) := fun W aa ac hb hO hc => by
          have := of_any aa ac (rep xs nr) t W hO hc (hG.below hb hG.big)
          unfold erE at this
          rw [if_pos hlr, hlr] at this
          exact this
        have hrl : (rep xs nr).length ≤ 60 := by rw [rep_len]; exact Nat.le_trans (Nat.mul_le_mul hr5 (show xs.length ≤ 12 by omega)) (by omega)
        have HEO : Hid (EOk (rep xs nr).length (ofE t (rep xs nr)) ∧ (ofE t (rep xs nr)).length ≤ 100000000) := ⟨ofE_ok t _ (pts_ok t _ (fun o ho => ⟨h.ok o (rep_mem ho), okL_okO (hall o (rep_mem ho))⟩) ht), Nat.le_trans (withinE_len _ _ _ (by omega)) (by omega)⟩
        have HKp : Hid (∀ x ∈ ofE t (rep xs nr), crF xs.length E g x.f.toNat + x.l ≤ crF xs.length E g x.t.toNat) := rounds_kept h hm
        have HCn : Hid (∀ c, c < 4 → ∀ y, cnt (fun j => decide (clN (rep xs nr) j = c) && decide (crF xs.length E g j ≤ y ∧ y < crF xs.length E g j + (t.b c).toNat)) (nr * xs.length) ≤ (t.u c).toNat) := fun c hc y => rounds_cnt hm hc y
        have HO : Hid (OpsAt w ao xs ∧ Nl w a xs.length g ∧ (∀ k, k < xs.length → 0 ≤ g k ∧ g k ≤ 65536) ∧ ∀ o ∈ xs, o.Ok) := ⟨h, hg, hgr, h.ok⟩
        have HTi : Hid (∀ k, k < 4 → (0 ≤ t.u k ∧ t.u k ≤ 8) ∧ (1 ≤ t.l k ∧ t.l k ≤ 8) ∧ (1 ≤ t.b k ∧ t.b k ≤ 4)) := (tab_in ht).2
        rw [hm] at HC
        clear h hcap hG hg hm he hlis ht q5 hgr hall hlr hrl
        obtain ⟨n, hN⟩ : ∃ n, xs.length = n := ⟨_, rfl⟩
        have HN : Hid (xs.length = n) := hN
        rw [hN] at HC HT0 HKp HCn HO hl hl' hlen hli hn64 hnn hni ⊢
        clear hN
        have hn' : (n : Int) ≤ 12 := by omega
        have hE0 : 1 ≤ E := by omega
        have hE1 : E ≤ 1000 := by omega
        have hcrB : ∀ (r i : Nat), r ≤ 4 → i < n → 0 ≤ (r : Int) * E ∧ (r : Int) * E ≤ 4000 := fun r i hr hi => by
          have h1 : 0 ≤ (r : Int) * E := Int.mul_nonneg (by omega) (by omega)
          have h2 : (r : Int) * E ≤ 4 * 1000 := Int.mul_le_mul (by omega) hE1 (by omega) (by omega)
          omega
        have HcrB : Hid (∀ (r i : Nat), r ≤ 4 → i < n → 0 ≤ (r : Int) * E ∧ (r : Int) * E ≤ 4000) := hcrB
        clear hcrB
        have hw1 : IntKind.i64.wrap (Int.tmod q 5) = Int.tmod q 5 := by rw [IntKind.wrap_i64]; omega
        have hw2 : IntKind.i64.wrap (Int.tmod q 5 + 5) = Int.tmod q 5 + 5 := by rw [IntKind.wrap_i64]; omega
        have hw3 : IntKind.i64.wrap (Int.tmod (Int.tmod q 5 + 5) 5) = Int.tmod (Int.tmod q 5 + 5) 5 := by rw [IntKind.wrap_i64]; omega
        have hw4 : IntKind.i64.wrap (1 + Int.tmod (Int.tmod q 5 + 5) 5) = nr := by rw [IntKind.wrap_i64]; omega
        clear m1 m2 m3 m4
        obtain ⟨i0, hi, hi2⟩ := Option.map_eq_some_iff.1 info46
        simp only [Prod.mk.injEq] at hi2
        obtain ⟨hz0, hz1, hz2⟩ := hi2
        have HI : Hid (Tryz.prog.info? 46 = some i0 ∧ i0.zero = some (.agg #[.int .i8 0, .int .u8 0, .int .u8 0, .int .u8 0, .int .i64 0]) ∧ i0.size = 5 ∧ i0.bytes = 16) := ⟨hi, hz0, hz1, hz2⟩
        clear hi hz0 hz1 hz2
        obtain ⟨i1, hi, hi2⟩ := Option.map_eq_some_iff.1 Dp.info3
        simp only [Prod.mk.injEq] at hi2
        obtain ⟨hz0, hz1, hz2⟩ := hi2
        have HI3 : Hid (Tryz.prog.info? 3 = some i1 ∧ i1.zero = some (.int .i64 0) ∧ i1.size = 1 ∧ i1.bytes = 8) := ⟨hi, hz0, hz1, hz2⟩
        clear hi hz0 hz1 hz2
        unfold Tab.val
        go_enter Tryz.func6, Tryz.ntmps6
        go_wp2_with (first
          | (go_at_call 10; refine Calls.mono (HC.out _ HT0.out.up) ?_; rintro e w1 ⟨rfl, b1⟩; have HT : Hid (Cx w w1 t E a n ccap S) := HT0.out.next b1; clear b1 HC HT0))
        go_loopw [10, 11, 12] (fun va vc v wr => ∃ k : Nat, k ≤ nr ∧ v = .int .i64 k ∧ Rs w wr t E a n ccap S va vc (rep xs k) (k * n) (crF n E g)) (fun _ _ v _ => nr - (intOf v).toNat)
        case atStart => exact ⟨0, by omega, rfl, by rw [Nat.zero_mul]; exact rs_start HT.out⟩
        case round =>
          rename World => wr
          obtain ⟨k, hk, rfl, hq⟩ := hrel
          clear HT
          by_cases hlt : k < nr
          · have k0 : (0 : Int) ≤ (k : Int) := by omega
            have k1 : (k : Int) < (nr : Int) := by omega
            have k4 : k ≤ 4 := by omega
            have HQ0 : Hid _ := hq
            clear hq
            go_wp2_with fail
            go_loopw [10, 11, 13] (fun va vc v wz => ∃ i : Nat, i ≤ n ∧ v = .int .i64 i ∧ Rs w wz t E a n ccap S va vc (rep xs k ++ xs.take i) (k * n + i) (crF n E g)) (fun _ _ v _ => n - (intOf v).toNat)
            case atStart => exact ⟨0, by omega, rfl, by have := HQ0.out; simpa using this⟩
            case round =>
              rename World => wz
              obtain ⟨i, hi, rfl, hs⟩ := hrel
              clear HQ0
              obtain ⟨aa, ac, rfl, hac⟩ := row_cap hs.o
              obtain ⟨ca, cc, rfl, hcc⟩ := row_cap hs.c
              have hLl : (rep xs k ++ xs.take i).length = k * n + i := by rw [rep_part_len xs k (by rw [HN.out]; exact hi), HN.out]
              have HS : Hid (Rs w wz t E a n ccap S (.slice aa (rep xs k ++ xs.take i).length ac) (.slice ca (k * n + i) cc) (rep xs k ++ xs.take i) (k * n + i) (crF n E g)) := hs
              have hkn : k * n ≤ 4 * 12 := Nat.mul_le_mul k4 (by omega)
              have p0 := hs.x.p.c 0 _ rfl
              have p1 := hs.x.p.c 1 _ rfl
              have pz := hs.x.p.lt
              clear hs
              by_cases hil : i < n
              · have i00 : (0 : Int) ≤ (i : Int) := by omega
                have i01 : (i : Int) < (n : Int) := by omega
                have hix : i < xs.length := by rw [HN.out]; exact hil
                obtain ⟨cb, cfo, rfl, hcl, hcx⟩ := HO.out.2.1.is (by omega)
                have HCb : Hid (∀ Z, Below w.heap.size w Z → Z.cell? ⟨cb, cfo + i, none⟩ = some (.int .i64 (g i)) ∧ cb < Z.heap.size) := fun Z hZ => ⟨by rw [(bcell hZ).1 _ _ hcl]; exact hcx i hil, Nat.lt_of_lt_of_le hcl hZ.size⟩
                obtain ⟨y0, y1⟩ := HCb.out _ HS.out.x.up
                obtain ⟨g1, g2⟩ := HO.out.2.2.1 i (by omega)
                have HCr : Hid (crF n E g (k * n + i) = (k : Int) * E + g i) := crF_at hil
                obtain ⟨b1, b2⟩ := HcrB.out k i k4 hil
                obtain ⟨ke, hke⟩ : ∃ ke, (k : Int) * E = ke := ⟨_, rfl⟩
                rw [hke] at HCr b1 b2
                have hkw : IntKind.i64.wrap ((k : Int) * E) = ke := by rw [hke, IntKind.wrap_i64]; omega
                clear hke hcl hcx
                obtain ⟨gi, hgi⟩ : ∃ v, g i = v := ⟨_, rfl⟩
                rw [hgi] at HCb HCr g1 g2 y0
                clear hgi
                by_cases h32 : 32768 < gi
                · have HX1 : Hid (Cx w wz t E (some ⟨cb, cfo, none⟩) n ccap S) := HS.out.x
                  go_wp2_with (first
                    | (go_at_call 8; refine Calls.mono (HW.out _ HX1.out.up) ?_; rintro e w9 ⟨rfl, b9⟩; have HB9 : Hid (Below w.heap.size w w9) := (HX1.out.next b9).up; clear b9 HW HX1))
                  go_ret
                  exact ⟨rfl, HB9.out⟩
                · obtain ⟨ob, og, rfl, hz2, hx⟩ := (HO.out.1.below HS.out.x.up).is (by omega)
                  obtain ⟨q0, q1, q2, q3, q4⟩ := hx i hix
                  have HPt : Hid (rep xs k ++ xs.take (i + 1) = (rep xs k ++ xs.take i) ++ [xs[i]]) := rep_put xs k hix
                  obtain ⟨o, hoe⟩ : ∃ o, xs[i]'hix = o := ⟨_, rfl⟩
                  rw [hoe] at HPt q0 q1 q2 q3 q4
                  clear hx hoe
                  obtain ⟨ys, hys⟩ : ∃ ys, rep xs k ++ xs.take i = ys := ⟨_, rfl⟩
                  clear hac
                  rw [hys] at HPt HS hLl ⊢
                  clear hys
                  rw [hLl]
                  have hLi : ((k * n + i : Nat) : Int) ≤ 60 := by omega
                  obtain ⟨L, hL⟩ : ∃ L, k * n + i = L := ⟨_, rfl⟩
                  rw [hL] at HS HCr hLl hcc hLi ⊢
                  have HL : Hid (k * n + i = L ∧ ys.length = L) := ⟨hL, hLl⟩
                  clear hL
                  have hrow : wz.ownsRow (w.heap.size + 2) 46 5 (.slice aa L ac) L (ocells ys) := by have := HS.out.o; rw [hLl] at this; exact this
                  have HRow : Hid (wz.ownsRow (w.heap.size + 2) 46 5 (.slice aa L ac) L (ocells ys)) := hrow
                  clear hrow hLl
                  go_upto_region 15 with (first
                    | (at_builtin; refine wpList_append_lies _ rfl _ _ 22 rfl (w.heap.size + 2) 46 i0 (.agg #[.int .i8 0, .int .u8 0, .int .u8 0, .int .u8 0, .int .i64 0]) 5 16 Tryz.underlying22 HI.out.1 HI.out.2.1 HI.out.2.2.1 HI.out.2.2.2 rfl (by decide) (.slice aa L ac) L (ocells ys) rfl (World.ownsRow.alloc HRow.out _) ⟨wz.heap.size, 0, none⟩ 1 1 [.int .i8 o.op, .int .u8 o.d, .int .u8 o.a, .int .u8 o.b, .int .i64 o.im] rfl rfl (World.news_of_block (heap_alloc_new wz _)) (by simp [Value.oneCell']) (by decide) (by unfold maxLen; omega) (by omega) (by have h5 := HS.out.x.p.lt; simp; omega) (wz.heap.size + 1) (by simp) ?_; intro gg cp w3 hown hgrow hat hlt3; have HS3 : Hid (Rs w w3 t E (some ⟨cb, cfo, none⟩) n ccap S (.slice (some ⟨gg, 0, none⟩) (ys ++ [o]).length cp) (.slice ca L cc) (ys ++ [o]) L (crF n E g)) := (by
                        have hs := HS.out
                        rw [HL.out.2] at hs
                        exact hs.addO ((Below.refl _ _).alloc (Nat.le_refl _) _) hgrow (by rw [HL.out.2]; exact hown) (hat.imp id fun e => by rw [e]; simp)); clear hown hgrow hat hlt3 HS HRow))
                  clear q0 q1 q2 q3 q4 hz2 p0 p1 pz y0 y1
                  have hla : (ys ++ [o]).length = L + 1 := by rw [List.length_append, HL.out.2]; rfl
                  have HX : Hid (Rs w w3.drew t E (some ⟨cb, cfo, none⟩) n ccap S (.slice (some ⟨gg, 0, none⟩) (ys ++ [o]).length cp) (.slice ca L cc) (ys ++ [o]) L (crF n E g)) := HS3.out.next (drew_up _)
                  clear HS3
                  have HCb2 : Hid (∀ Z, Cx w Z t E (some ⟨cb, cfo, none⟩) n ccap S → Z.cell? ⟨cb, cfo + i, none⟩ = some (.int .i64 gi) ∧ cb < Z.heap.size) := fun Z hZ => HCb.out Z hZ.up
                  refine wp_region_held_drew (S := fun Z => At Z (w.heap.size + 1) #[.int .i64 E, .slice (some ⟨cb, cfo, none⟩) n ccap, .int .i64 S] ∧ Z.cell? ⟨cb, cfo + i, none⟩ = some (.int .i64 gi) ∧ cb < Z.heap.size) (by kernel_rfl) ⟨HX.out.x.p, HCb2.out _ HX.out.x⟩ (fun hHeld => ?_)
                  refine wpAnyH_take (i := 0) (v := .slice ca L cc) rfl (by kernel_rfl) (by kernel_rfl) (by kernel_rfl) (fun _ _ _ h => h) (Or.inl ⟨by rfl, fun w' hSw => by (go_simp)⟩) hHeld ?_
                  simp only [Act.put, List.setIfInBounds_toArray, List.set_cons_zero, List.set_cons_succ, List.getElem_cons_zero, List.getElem_toArray]
                  refine wpAnyH_take (i := 1) (v := .int .i64 (k : Int)) rfl (by kernel_rfl) (by kernel_rfl) (by kernel_rfl) (fun _ _ _ h => h) (Or.inl ⟨by rfl, fun w' hSw => by (go_simp)⟩) hHeld ?_
                  simp only [Act.put, List.setIfInBounds_toArray, List.set_cons_zero, List.set_cons_succ, List.getElem_cons_zero, List.getElem_cons_succ, List.getElem_toArray]
                  refine wpAnyH_take (i := 2) (v := .pointer (some ⟨w.heap.size + 1, 0, none⟩)) rfl (by kernel_rfl) (by kernel_rfl) (by kernel_rfl) (fun _ _ _ h => h) (Or.inl ⟨by rfl, fun w' hSw => by (go_simp)⟩) hHeld ?_
                  simp only [Act.put, List.setIfInBounds_toArray, List.set_cons_zero, List.set_cons_succ, List.getElem_cons_zero, List.getElem_cons_succ, List.getElem_toArray]
                  refine wpAnyH_take (i := 3) (v := .int .i64 E) rfl (by kernel_rfl) (by kernel_rfl) (by kernel_rfl) (fun _ _ _ h => h) (Or.inl ⟨by rfl, fun w' hSw => by (have y0 := hSw.1.c 0 _ rfl; have yl := hSw.1.lt; go_simp)⟩) hHeld ?_
                  simp only [Act.put, List.setIfInBounds_toArray, List.set_cons_zero, List.set_cons_succ, List.getElem_cons_zero, List.getElem_cons_succ, List.getElem_toArray]
                  refine wpAnyH_take (i := 4) (v := .int .i64 ke) rfl (by kernel_rfl) (by kernel_rfl) (by kernel_rfl) (fun _ _ _ h => h) (Or.inl ⟨by rfl, fun w' hSw => by (go_simp; first | done | rw [hkw] | exact hkw)⟩) hHeld ?_
                  simp only [Act.put, List.setIfInBounds_toArray, List.set_cons_zero, List.set_cons_succ, List.getElem_cons_zero, List.getElem_cons_succ, List.getElem_toArray]
                  refine wpAnyH_take (i := 5) (v := .pointer (some ⟨w.heap.size + 1, 1, none⟩)) rfl (by kernel_rfl) (by kernel_rfl) (by kernel_rfl) (fun _ _ _ h => h) (Or.inl ⟨by rfl, fun w' hSw => by (go_simp)⟩) hHeld ?_
                  simp only [Act.put, List.setIfInBounds_toArray, List.set_cons_zero, List.set_cons_succ, List.getElem_cons_zero, List.getElem_cons_succ, List.getElem_toArray]
                  refine wpAnyH_take (i := 6) (v := .slice (some ⟨cb, cfo, none⟩) n ccap) rfl (by kernel_rfl) (by kernel_rfl) (by kernel_rfl) (fun _ _ _ h => h) (Or.inl ⟨by rfl, fun w' hSw => by (have y0 := hSw.1.c 1 _ rfl; have yl := hSw.1.lt; go_simp)⟩) hHeld ?_
                  simp only [Act.put, List.setIfInBounds_toArray, List.set_cons_zero, List.set_cons_succ, List.getElem_cons_zero, List.getElem_cons_succ, List.getElem_toArray]
                  refine wpAnyH_take (i := 7) (v := .int .i64 (i : Int)) rfl (by kernel_rfl) (by kernel_rfl) (by kernel_rfl) (fun _ _ _ h => h) (Or.inl ⟨by rfl, fun w' hSw => by (go_simp)⟩) hHeld ?_
                  simp only [Act.put, List.setIfInBounds_toArray, List.set_cons_zero, List.set_cons_succ, List.getElem_cons_zero, List.getElem_cons_succ, List.getElem_toArray]
                  refine wpAnyH_take (i := 8) (v := .pointer (some ⟨cb, cfo + i, none⟩)) rfl (by kernel_rfl) (by kernel_rfl) (by kernel_rfl) (fun _ _ _ h => h) (Or.inl ⟨by rfl, fun w' hSw => by (go_simp)⟩) hHeld ?_
                  simp only [Act.put, List.setIfInBounds_toArray, List.set_cons_zero, List.set_cons_succ, List.getElem_cons_zero, List.getElem_cons_succ, List.getElem_toArray]
                  refine wpAnyH_take (i := 9) (v := .int .i64 gi) rfl (by kernel_rfl) (by kernel_rfl) (by kernel_rfl) (fun _ _ _ h => h) (Or.inl ⟨by rfl, fun w' hSw => by (have y0 := hSw.2.1; have yl := hSw.2.2; go_simp)⟩) hHeld ?_
                  simp only [Act.put, List.setIfInBounds_toArray, List.set_cons_zero, List.set_cons_succ, List.getElem_cons_zero, List.getElem_cons_succ, List.getElem_toArray]
                  refine wpAnyH_take (i := 10) (v := .int .i64 (ke + gi)) rfl (by kernel_rfl) (by kernel_rfl) (by kernel_rfl) (fun _ _ _ h => h) (Or.inl ⟨by rfl, fun w' hSw => by (go_simp; rw [IntKind.wrap_i64]; omega)⟩) hHeld ?_
                  simp only [Act.put, List.setIfInBounds_toArray, List.set_cons_zero, List.set_cons_succ, List.getElem_cons_zero, List.getElem_cons_succ, List.getElem_toArray]
                  refine wpAnyH_ready (rs := [11]) (by kernel_rfl) (by simp) ?_
                  refine AllReadyH.cons rfl (fun K hK => ?_) AllReadyH.nil
                  go_simp
                  have gB : Below w3.drew.heap.size w3.drew (w3.drew.alloc (.cells #[.int .i64 (ke + gi)] 3)) := (Below.refl _ _).alloc (Nat.le_refl _) _
                  have HX2 : Hid (Rs w (w3.drew.alloc (.cells #[.int .i64 (ke + gi)] 3)) t E (some ⟨cb, cfo, none⟩) n ccap S (.slice (some ⟨gg, 0, none⟩) (ys ++ [o]).length cp) (.slice ca L cc) (ys ++ [o]) L (crF n E g)) := HX.out.next gB
                  refine hK.out _ _ ⟨HX2.out.x.p, HCb2.out _ HX2.out.x⟩ (fun hHeld => ?_)
                  clear hK K
                  refine wpAnyH_ready (rs := [12]) (by kernel_rfl) (by simp) ?_
                  refine AllReadyH.cons rfl (fun K hK => ?_) AllReadyH.nil
                  refine step_append_lies _ (by rfl) _ _ 26 (by rfl) (w.heap.size + 2) 3 i1 (.int .i64 0) 1 8 Tryz.underlying26 HI3.out.1 HI3.out.2.1 HI3.out.2.2.1 HI3.out.2.2.2 rfl (by decide) (.slice ca L cc) L (ncells L (crF n E g)) (by rfl) HX2.out.c ⟨w3.heap.size, 0, none⟩ 1 1 [.int .i64 (ke + gi)] (by rfl) rfl (World.news_of_block (heap_alloc_new w3.drew (.cells #[.int .i64 (ke + gi)] 3))) (by simp [Value.oneCell']) (by decide) (by unfold maxLen; omega) (by omega) (by have h5 := HX.out.x.p.lt; simp; have : w.heap.size + 1 < w3.heap.size := h5; omega) _ rfl ?_
                  intro cg cq w4 hown hgrow hat hlt3
                  have HX3 : Hid (Rs w w4 t E (some ⟨cb, cfo, none⟩) n ccap S (.slice (some ⟨gg, 0, none⟩) (ys ++ [o]).length cp) (.slice (some ⟨cg, 0, none⟩) (L + 1) cq) (ys ++ [o]) (L + 1) (crF n E g)) := HX2.out.addC (Below.refl _ _) hgrow (by rw [HCr.out]; exact hown) hat
                  clear hown hgrow hat hlt3
                  refine hK.out _ _ ⟨HX3.out.x.p, HCb2.out _ HX3.out.x⟩ (fun hHeld => ?_)
                  clear hK K HX HX2
                  refine wpAnyH_take (i := 13) (v := .slice (some ⟨cg, 0, none⟩) (L + 1) cq) rfl (by kernel_rfl) (by kernel_rfl) (by kernel_rfl) (fun _ _ _ h => h) (Or.inl ⟨by rfl, fun w' hSw => by (go_simp)⟩) hHeld ?_
                  simp only [Act.put, List.setIfInBounds_toArray, List.set_cons_zero, List.set_cons_succ, List.getElem_cons_zero, List.getElem_cons_succ, List.getElem_toArray]
                  refine wpAnyH_done (by kernel_rfl) ?_ _
                  clear hHeld
                  go_wp2_with fail
                  go_roundw
                  case rel =>
                    have e1 : k * n + (i + 1) = L + 1 := by have := HL.out.1; omega
                    refine ⟨i + 1, by omega, by go_num, ?_⟩
                    rw [e1, HPt.out]
                    have := HX3.out
                    rw [hla] at this
                    exact this
                  case measure => simp [intOf]; omega
              · obtain rfl : i = n := by omega
                have i01 : ¬ (i : Int) < (i : Int) := by omega
                have HF : Hid (rep xs k ++ xs.take i = rep xs (k + 1)) := by rw [← HN.out]; exact rep_full xs k
                go_wp2_with fail
                go_roundw
                case rel =>
                  refine ⟨k + 1, by omega, by go_num, ?_⟩
                  have h1 := HS.out
                  rw [HF.out] at h1
                  rw [show (k + 1) * i = k * i + i by rw [Nat.add_mul, Nat.one_mul], HF.out]
                  exact h1
                case measure => simp [intOf]; omega
          · obtain rfl : k = nr := by omega
            have k1 : ¬ (k : Int) < (k : Int) := by omega
            obtain ⟨aa, ac, rfl, hac⟩ := row_cap hq.o
            obtain ⟨ca, cc, rfl, hcc⟩ := row_cap hq.c
            have hLn : (rep xs k).length = k * n := by rw [rep_len, HN.out]
            have hkn : k * n ≤ 5 * 12 := Nat.mul_le_mul hr5 (by omega)
            have hor := hq.o
            have hNl : Nl wr ca (k * n) (crF n E g) := by
              refine ⟨fun h0 => ?_, fun j hj => ?_⟩
              · obtain ⟨b, rfl, hb, -⟩ := nl_row hq.c 0 h0
                refine ⟨b, 0, rfl, hb, fun j hj => ?_⟩
                obtain ⟨b', e, -, hc⟩ := nl_row hq.c j hj
                injection e with e
                injection e with e1 _ _
                subst e1
                rw [Nat.zero_add]
                exact hc
              · obtain ⟨r, i, h1, h2, rfl⟩ := parts hj
                rw [crF_at h2]
                have := HcrB.out r i (by omega) h2
                have := HO.out.2.2.1 i h2
                omega
            have hOps : OpsAt wr aa (rep xs k) := opsAt_row hor (fun o ho => HO.out.2.2.2 o (rep_mem ho)) (by omega)
            have HQ : Hid (Cx w wr t E a n ccap S ∧ OpsAt wr aa (rep xs k) ∧ Nl wr ca (k * n) (crF n E g)) := ⟨hq.x, hOps, hNl⟩
            have HCrB : Hid (∀ j, j < k * n → 0 ≤ crF n E g j ∧ crF n E g j ≤ 70000) := fun j hj => by
              obtain ⟨r, i, h1, h2, rfl⟩ := parts hj
              rw [crF_at h2]
              have := HcrB.out r i (by omega) h2
              have := HO.out.2.2.1 i h2
              omega
            have HCl2 : Hid (∀ (j : Nat) (hj : j < (rep xs k).length) Z, Calls Tryz.prog 18 #[.int .i8 (rep xs k)[j].op] Z fun e w' => e = .returned (.tuple #[.int .i64 (clN (rep xs k) j : Int), .bool true]) ∧ Below Z.heap.size Z w') := HCl.out _ fun o ho => rep_mem ho
            clear hq hor hNl hOps HCl HcrB HI HI3 HO hw1 hw2 hw3 hw4 hnr
            rw [hLn] at HOf HEO hac ⊢
            generalize hyse : rep xs k = ys at *
            clear hyse
            generalize crF n E g = cf at *
            generalize k * n = L at *
            have hL' : (L : Int) ≤ 60 := by omega
            unfold EdOut at HOf
            generalize ofE t ys = es at *
            obtain ⟨M, hM⟩ : ∃ M, es.length = M := ⟨_, rfl⟩
            have HM : Hid (es.length = M) := hM
            have hM' : (M : Int) ≤ 100000000 := by have := HEO.out.2; omega
            rw [hM] at HOf
            clear hM
            have HLy : Hid (ys.length = L) := hLn
            clear hLn
            have tf := HQ.out.1.t
            have k2 := tf
            have qu0 := k2.cu 0 (by decide)
            have qu1 := k2.cu 1 (by decide)
            have qu2 := k2.cu 2 (by decide)
            have qu3 := k2.cu 3 (by decide)
            have ql0 := k2.cl 0 (by decide)
            have ql1 := k2.cl 1 (by decide)
            have ql2 := k2.cl 2 (by decide)
            have ql3 := k2.cl 3 (by decide)
            have qb0 := k2.cb 0 (by decide)
            have qb1 := k2.cb 1 (by decide)
            have qb2 := k2.cb 2 (by decide)
            have qb3 := k2.cb 3 (by decide)
            have qd := k2.cd
            have qz := k2.lt
            clear k2
            clear tf
            go_wp2_with (first
              | (go_at_call 19; refine Calls.mono (HOf.out _ _ _ HQ.out.1.up HQ.out.2.1 hac) ?_; rintro e w2 ⟨ea, ec, rfl, o2, b2⟩; have HT2 : Hid (Rr w w2 t E a n ccap S aa ys ca L cf ea es) := ⟨HQ.out.1.next b2, HQ.out.2.1.below b2, HQ.out.2.2.up b2, es_of o2⟩; clear b2 o2 HOf HQ qu0 qu1 qu2 qu3 ql0 ql1 ql2 ql3 qb0 qb1 qb2 qb3 qd qz))
            go_loopw [16] (fun v wz => ∃ k : Nat, k ≤ M ∧ v = .int .i64 k ∧ Rr w wz t E a n ccap S aa ys ca L cf ea es) (fun v _ => M - (intOf v).toNat)
            case atStart => exact ⟨0, by omega, rfl, HT2.out⟩
            case round =>
              rename World => wz
              obtain ⟨k2, hk2, rfl, hq⟩ := hrel
              have HQ : Hid (Rr w wz t E a n ccap S aa ys ca L cf ea es) := hq
              clear hq HT2
              by_cases hlt2 : k2 < M
              · have k20 : (0 : Int) ≤ (k2 : Int) := by omega
                have k21 : (k2 : Int) < (M : Int) := by omega
                have hke : k2 < es.length := by rw [HM.out]; exact hlt2
                obtain ⟨eb, rfl, l1, f0, f1, f2, f3, f4⟩ := HQ.out.e.2 k2 hke
                have hm := List.getElem_mem hke
                have g1 := HEO.out.1.f0 _ hm
                have g2 := HEO.out.1.ft _ hm
                have g3 := HEO.out.1.tn _ hm
                obtain ⟨g4, g5⟩ := HEO.out.1.l0 _ hm
                have hkp := HKp.out _ hm
                clear hm
                generalize es[k2] = x at *
                obtain ⟨xf, xt, xl, xd, xy⟩ := x
                obtain ⟨fi, rfl⟩ : ∃ fi : Nat, xf = fi := ⟨xf.toNat, by have g1 : 0 ≤ xf := g1; omega⟩
                obtain ⟨ti, rfl⟩ : ∃ ti : Nat, xt = ti := ⟨xt.toNat, by have g1 : 0 ≤ (fi : Int) := g1; have g2 : (fi : Int) < xt := g2; omega⟩
                have g2 : (fi : Int) < (ti : Int) := g2
                have g3 : (ti : Int) < (L : Int) := g3
                have g4 : 0 ≤ xl := g4
                have g5 : xl ≤ 8 := g5
                have g6 : (0 : Int) ≤ (fi : Int) := by omega
                have g7 : (fi : Int) < (L : Int) := by omega
                have g8 : (0 : Int) ≤ (ti : Int) := by omega
                have hkp : cf fi + xl ≤ cf ti := hkp
                obtain ⟨h1, h2⟩ := HCrB.out fi (by omega)
                obtain ⟨h3, h4⟩ := HCrB.out ti (by omega)
                clear g1
                obtain ⟨b, f, rfl, hz2, hx⟩ := HQ.out.c.is (by omega)
                have cF := hx fi (by omega)
                have cT := hx ti (by omega)
                clear hx
                obtain ⟨vf, hvf⟩ : ∃ v, cf fi = v := ⟨_, rfl⟩
                obtain ⟨vt, hvt⟩ : ∃ v, cf ti = v := ⟨_, rfl⟩
                rw [hvf] at hkp h1 h2 cF
                rw [hvt] at hkp h3 h4 cT
                clear hvf hvt
                have hc : ¬ vt < vf + xl := by omega
                go_upto_region 22 with fail
                go_quiet (fail)
                go_wp2_with fail
                go_roundw
                case rel => exact ⟨k2 + 1, by omega, by go_num, HQ.out.next ⟨rfl, rfl, rfl, Nat.le_refl _, fun _ _ => rfl⟩⟩
                case measure => simp [intOf]; omega
              · obtain rfl : k2 = M := by omega
                have k21 : ¬ (k2 : Int) < (k2 : Int) := by omega
                go_wp2_with fail
                go_loopw [17] (fun v wy => ∃ i : Nat, i ≤ L ∧ v = .int .i64 i ∧ Rr w wy t E a n ccap S aa ys ca L cf ea es) (fun v _ => L - (intOf v).toNat)
                case atStart => exact ⟨0, by omega, rfl, HQ.out⟩
                case round =>
                  rename World => wy
                  obtain ⟨i, hi, rfl, hq⟩ := hrel
                  have HY : Hid (Rr w wy t E a n ccap S aa ys ca L cf ea es) := hq
                  clear hq HQ
                  by_cases hil : i < L
                  · have i00 : (0 : Int) ≤ (i : Int) := by omega
                    have i01 : (i : Int) < (L : Int) := by omega
                    have hiy : i < ys.length := by rw [HLy.out]; exact hil
                    obtain ⟨ob, og, rfl, hz2, hx⟩ := HY.out.o.is (by omega)
                    obtain ⟨q0, -, -, -, -⟩ := hx i hiy
                    have HC1 : Hid (∀ Z, Calls Tryz.prog 18 #[.int .i8 ys[i].op] Z fun e w' => e = .returned (.tuple #[.int .i64 (clN ys i : Int), .bool true]) ∧ Below Z.heap.size Z w') := HCl2.out i hiy
                    have hc4 := clN_lt ys i
                    obtain ⟨op, hop⟩ : ∃ op, ys[i].op = op := ⟨_, rfl⟩
                    rw [hop] at HC1 q0
                    obtain ⟨c, hc⟩ : ∃ c, clN ys i = c := ⟨_, rfl⟩
                    rw [hc] at HC1 hc4
                    clear hx hop hc
                    obtain ⟨⟨u0, u8⟩, -, b1, b4⟩ := HTi.out c hc4
                    have HTl : Hid (∀ Z, Rr w Z t E a n ccap S (some ⟨ob, og, none⟩) ys ca L cf ea es → Z.cell? ⟨w.heap.size, c, none⟩ = some (.int .i64 (t.u c)) ∧ Z.cell? ⟨w.heap.size, 8 + c, none⟩ = some (.int .i64 (t.b c)) ∧ w.heap.size < Z.heap.size) := fun Z hZ => ⟨hZ.x.t.cu c hc4, hZ.x.t.cb c hc4, hZ.x.t.lt⟩
                    have hc40 : (0 : Int) ≤ (c : Int) := by omega
                    have hc41 : (c : Int) < 4 := by omega
                    obtain ⟨y1, y2⟩ := HCrB.out i hil
                    obtain ⟨vi, hvi⟩ : ∃ v, cf i = v := ⟨_, rfl⟩
                    rw [hvi] at y1 y2
                    have HVi : Hid (cf i = vi) := hvi
                    clear hvi
                    have HCc : Hid (∀ y, cnt (fun j => decide (clN ys j = c) && decide (cf j ≤ y ∧ y < cf j + (t.b c).toNat)) L ≤ (t.u c).toNat) := HCn.out c hc4
                    go_wp2_with (first
                      | (go_at_call 18; refine Calls.mono (HC1.out _) ?_; rintro e w3 ⟨rfl, b3⟩; have HY3 : Hid (Rr w w3 t E a n ccap S (some ⟨ob, og, none⟩) ys ca L cf ea es) := HY.out.next b3; clear b3 HC1 HY q0 hz2))
                    go_loopw [20] (fun v wx => ∃ kk : Nat, (kk : Int) ≤ t.b c ∧ v = .int .i64 kk ∧ Rr w wx t E a n ccap S (some ⟨ob, og, none⟩) ys ca L cf ea es) (fun v _ => (t.b c - intOf v).toNat)
                    case atStart => exact ⟨0, by omega, rfl, HY3.out⟩
                    case round =>
                      rename World => wx
                      obtain ⟨kk, hkk, rfl, hq⟩ := hrel
                      have HX : Hid (Rr w wx t E a n ccap S (some ⟨ob, og, none⟩) ys ca L cf ea es) := hq
                      clear hq HY3
                      obtain ⟨tu, tb, tz⟩ := HTl.out _ HX.out
                      by_cases hkl : (kk : Int) < t.b c
                      · have kk0 : (0 : Int) ≤ (kk : Int) := by omega
                        obtain ⟨P, hP⟩ : ∃ P : Nat → Bool, P = fun j => decide (clN ys j = c) && decide (cf j ≤ vi + kk ∧ vi + kk < cf j + (t.b c).toNat) := ⟨_, rfl⟩
                        have HPc : Hid (cnt P L ≤ (t.u c).toNat) := by rw [hP]; exact HCc.out (vi + kk)
                        have HPe : Hid (P = fun j => decide (clN ys j = c) && decide (cf j ≤ vi + kk ∧ vi + kk < cf j + (t.b c).toNat)) := hP
                        clear hP
                        go_wp2_with fail
                        go_loopw [21, 22] (fun u v wv => ∃ j : Nat, j ≤ L ∧ v = .int .i64 j ∧ u = .int .i64 (cnt P j : Nat) ∧ Rr w wv t E a n ccap S (some ⟨ob, og, none⟩) ys ca L cf ea es) (fun _ v _ => L - (intOf v).toNat)
                        case atStart => exact ⟨0, by omega, rfl, rfl, HX.out⟩
                        case round =>
                          rename World => wv
                          obtain ⟨j, hj, rfl, rfl, hq⟩ := hrel
                          have HV : Hid (Rr w wv t E a n ccap S (some ⟨ob, og, none⟩) ys ca L cf ea es) := hq
                          clear hq HX tu tb tz
                          by_cases hjl : j < L
                          · have j00 : (0 : Int) ≤ (j : Int) := by omega
                            have j01 : (j : Int) < (L : Int) := by omega
                            have hjy : j < ys.length := by rw [HLy.out]; exact hjl
                            obtain ⟨ob', og', hoe, hz2, hx⟩ := HV.out.o.is (by omega)
                            injection hoe with hoe
                            injection hoe with ho1 ho2 _
                            subst ho1 ho2
                            obtain ⟨q0, -, -, -, -⟩ := hx j hjy
                            have HC1 : Hid (∀ Z, Calls Tryz.prog 18 #[.int .i8 ys[j].op] Z fun e w' => e = .returned (.tuple #[.int .i64 (clN ys j : Int), .bool true]) ∧ Below Z.heap.size Z w') := HCl2.out j hjy
                            obtain ⟨op, hop⟩ : ∃ op, ys[j].op = op := ⟨_, rfl⟩
                            rw [hop] at HC1 q0
                            have HSt : Hid (cnt P (j + 1) = cnt P j + if P j then 1 else 0) := rfl
                            have HPj : Hid (P j = (decide (clN ys j = c) && decide (cf j ≤ vi + kk ∧ vi + kk < cf j + (t.b c).toNat))) := congrFun HPe.out j
                            have hcj := clN_lt ys j
                            have HCle : Hid (cnt P j ≤ j) := cnt_len P j
                            obtain ⟨n1, n2⟩ := HCrB.out j hjl
                            obtain ⟨vj, hvj⟩ : ∃ v, cf j = v := ⟨_, rfl⟩
                            rw [hvj] at n1 n2 HPj
                            obtain ⟨cj, hcje⟩ : ∃ c, clN ys j = c := ⟨_, rfl⟩
                            rw [hcje] at HC1 HPj hcj
                            clear hx hop hcje
                            have hcn : ((cnt P j : Nat) : Int) ≤ 60 := by have := HCle.out; omega
                            obtain ⟨N, hNe⟩ : ∃ N, cnt P j = N := ⟨_, rfl⟩
                            rw [hNe] at HSt hcn ⊢
                            clear hNe HCle
                            go_upto_region 36 with (first
                              | (go_at_call 18; refine Calls.mono (HC1.out _) ?_; rintro e w4 ⟨rfl, b4⟩; have HV4 : Hid (Rr w w4 t E a n ccap S (some ⟨ob, og, none⟩) ys ca L cf ea es) := HV.out.next b4; clear b4 HC1 HV q0 hz2))
                            obtain ⟨tu, tb, tz⟩ := HTl.out _ HV4.out
                            obtain ⟨vb, vo, rfl, vz, hvx⟩ := HV4.out.c.is (by omega)
                            have cI := hvx i hil
                            have cJ := hvx j hjl
                            rw [HVi.out] at cI
                            rw [hvj] at cJ
                            clear hvx hvj
                            have HV5 : Hid (∀ m, Rr w (w4.drewN m) t E a n ccap S (some ⟨ob, og, none⟩) ys (some ⟨vb, vo, none⟩) L cf ea es) := fun m => HV4.out.next ⟨rfl, rfl, rfl, Nat.le_refl _, fun _ _ => rfl⟩
                            have HV6 : Hid (Rr w w4.drew t E a n ccap S (some ⟨ob, og, none⟩) ys (some ⟨vb, vo, none⟩) L cf ea es) := HV4.out.next (drew_up _)
                            by_cases e1 : cj = c
                            · subst e1
                              have e1b : ((cj : Int) == (cj : Int)) = true := by simp
                              by_cases e2 : vj ≤ vi + kk
                              · have e2d : decide (vj ≤ vi + kk) = true := decide_eq_true e2
                                by_cases e3 : vi + kk < vj + t.b cj
                                · have e3d : decide (vi + kk < vj + t.b cj) = true := decide_eq_true e3
                                  have HNx : Hid (cnt P (j + 1) = N + 1) := by
                                    have hp : P j = true := by rw [HPj.out, decide_eq_true (show cj = cj from rfl), decide_eq_true (show vj ≤ vi + kk ∧ vi + kk < vj + ((t.b cj).toNat : Int) from ⟨e2, by omega⟩)]; rfl
                                    rw [HSt.out, if_pos hp]
                                    rfl
                                  go_quiet (fail)
                                  go_wp2_with fail
                                  go_roundw
                                  case rel => exact ⟨j + 1, by omega, by go_num, by rw [HNx.out]; go_num, (by first | exact HV6.out | exact HV5.out _)⟩
                                  case measure => simp [intOf]; omega
                                · have e3d : decide (vi + kk < vj + t.b cj) = false := decide_eq_false e3
                                  have HNx : Hid (cnt P (j + 1) = N) := by
                                    have hp : P j = false := by rw [HPj.out, decide_eq_false (show ¬ (vj ≤ vi + kk ∧ vi + kk < vj + ((t.b cj).toNat : Int)) from fun hh => e3 (by have := hh.2; omega)), Bool.and_false]
                                    rw [HSt.out, if_neg (by rw [hp]; decide)]
                                    rfl
                                  go_quiet (fail)
                                  go_wp2_with fail
                                  go_roundw
                                  case rel => exact ⟨j + 1, by omega, by go_num, by rw [HNx.out], (by first | exact HV6.out | exact HV5.out _)⟩
                                  case measure => simp [intOf]; omega
                              · have e2d : decide (vj ≤ vi + kk) = false := decide_eq_false e2
                                have HNx : Hid (cnt P (j + 1) = N) := by
                                  have hp : P j = false := by rw [HPj.out, decide_eq_false (show ¬ (vj ≤ vi + kk ∧ vi + kk < vj + ((t.b cj).toNat : Int)) from fun hh => e2 hh.1), Bool.and_false]
                                  rw [HSt.out, if_neg (by rw [hp]; decide)]
                                  rfl
                                go_quiet (fail)
                                go_wp2_with fail
                                go_roundw
                                case rel => exact ⟨j + 1, by omega, by go_num, by rw [HNx.out], (by first | exact HV6.out | exact HV5.out _)⟩
                                case measure => simp [intOf]; omega
                            · have e1b : ((cj : Int) == (c : Int)) = false := by simp; omega
                              have HNx : Hid (cnt P (j + 1) = N) := by
                                have hp : P j = false := by rw [HPj.out, decide_eq_false e1, Bool.false_and]
                                rw [HSt.out, if_neg (by rw [hp]; decide)]
                                rfl
                              go_quiet (fail)
                              go_wp2_with fail
                              go_roundw
                              case rel => exact ⟨j + 1, by omega, by go_num, by rw [HNx.out], (by first | exact HV6.out | exact HV5.out _)⟩
                              case measure => simp [intOf]; omega
                          · obtain rfl : j = L := by omega
                            have j01 : ¬ (j : Int) < (j : Int) := by omega
                            obtain ⟨tu, tb, tz⟩ := HTl.out _ HV.out
                            have hfin : ¬ t.u c < ((cnt P j : Nat) : Int) := by have := HPc.out; omega
                            generalize cnt P j = N at *
                            go_wp2_with fail
                            go_roundw
                            case rel => exact ⟨kk + 1, by omega, by go_num, HV.out⟩
                            case measure => simp [intOf]; omega
                      · go_wp2_with fail
                        go_roundw
                        case rel => exact ⟨i + 1, by omega, by go_num, HX.out⟩
                        case measure => simp [intOf]; omega
                  · obtain rfl : i = L := by omega
                    have i01 : ¬ (i : Int) < (i : Int) := by omega
                    have HY1 : Hid (Cx w wy t E a n ccap S) := HY.out.x
                    go_wp2_with (first
                      | (go_at_call 8; refine Calls.mono (HW.out _ HY1.out.up) ?_; rintro e w9 ⟨rfl, b9⟩; have HB9 : Hid (Below w.heap.size w w9) := (HY1.out.next b9).up; clear b9 HW HY1))
                    go_ret
                    exact ⟨rfl, HB9.out⟩
end Go.Proofs.YteccifanbgcakaaGreatDoor.Mo
