/- The document's answer on a list of operations (list): what package better folds it to, and what is known behind it. Conditions: the list lies in memory; its operations are a program's. -/
import Derived.Test.YtddcndlogoajkaaGreatDoorJk
import Derived.Test.YtddcndlogoajkaaGreatDoorQVd
namespace Go.Proofs.YtddcndlogoajkaaGreatDoor.L8.Bt
open Go.ChangeShapes Go.WideShapes Go.ChangeAt Go.RowKit Go.Great
open _root_.Go.Proofs.YtddcndlogoajkaaGreatDoor.L8.Op _root_.Go.Proofs.YtddcndlogoajkaaGreatDoor.L8.So
open _root_.Go.Proofs.YtddcndlogoajkaaGreatDoor.L8.Lv (rdL wOf PsOk)
set_option maxRecDepth 20000

theorem wp_runTo {P : Program} {o : Oper} {a : Act} {w : World} {K : Act → World → Prop} {Q : Exit → Act → World → Prop} (v : Value) (w' : World) (hrun : (execOp a.eval o).run P w = .ok (.value v) w') (h : K (a.put o.dst v) w') : o.wp P a w K Q := by
  unfold Oper.wp
  rw [hrun, Oper.upon_value]
  exact h
theorem row_one {w w' : World} {B p : Nat} {e : TypeId} {z : Nat} {v : Value} {n : Nat} {xs : List Value} (h : w.ownsRow B e z v n xs) (hF : Fr (One p) w w') (hp : v.ownBlock ≠ some p) : w'.ownsRow B e z v n xs :=
  h.kept (row := some p) ⟨hF.os, hF.tape, hF.output, hF.size, fun k hk hne => hF.block k hk fun e => hne (by rw [show k = p from e])⟩ (.inr hp)
theorem Rs.fr {X : Nat → Prop} {w w' : World} {q : Nat} {K : Kn} {M : Nat → Int} (h : Rs w q K M) (hF : Fr X w w') (hq : ¬ X q) : Rs w' q K M :=
  ⟨Nat.lt_of_lt_of_le h.lt hF.size, fun j => by rw [hF.frozen h.lt hq]; exact h.fz j, fun j hj => by rw [hF.cell h.lt hq]; exact h.c j hj⟩
/-- The list under way: what is known, what is there already. -/
structure Ls (w W : World) (xs : List O) (k : Nat) (K : Kn) (M : Nat → Int) (v : Value) : Prop where
  b : Below w.heap.size w W
  s : w.heap.size + 2 ≤ W.heap.size
  q : Rs W w.heap.size kn0 fun _ => 0
  kr : Rs W (w.heap.size + 1) K M
  row : W.ownsRow (w.heap.size + 2) 51 5 v k (ocells (fdL kn0 (xs.take k)))
theorem Ls.up {w W W' : World} {xs : List O} {k : Nat} {K : Kn} {M : Nat → Int} {v : Value} (h : Ls w W xs k K M v) (hb : Below W.heap.size W W') : Ls w W' xs k K M v :=
  ⟨h.b.trans (hb.mono h.b.size), Nat.le_trans h.s hb.size, h.q.below hb, h.kr.below hb, row_below h.row hb⟩
theorem Ls.far {w W W' : World} {xs : List O} {k : Nat} {K : Kn} {M : Nat → Int} {v : Value} {p : Nat} (h : Ls w W xs k K M v) (hF : Fr (One p) W W') (hp : w.heap.size + 2 ≤ p) (ho : v.ownBlock ≠ some p) : Ls w W' xs k K M v :=
  ⟨h.b.trans (hF.below h.b.size fun j hj q => by have q : j = p := q; omega), Nat.le_trans h.s hF.size, h.q.fr hF (fun q => by have q : w.heap.size = p := q; omega), h.kr.fr hF (fun q => by have q : w.heap.size + 1 = p := q; omega), row_one h.row hF ho⟩
theorem Ls.start (w : World) (xs : List O) : Ls w ((w.alloc (.cells (rA kn0 fun _ => 0) 58)).alloc (.cells (rA kn0 fun _ => 0) 58)) xs 0 kn0 (fun _ => 0) (.slice none 0 0) := by
  have h1 := Rs.new w kn0 (fun _ => 0) 58
  have h2 := Rs.new (w.alloc (.cells (rA kn0 fun _ => 0) 58)) kn0 (fun _ => 0) 58
  simp only [World.size_alloc] at h2
  exact ⟨((Below.refl _ _).alloc (Nat.le_refl _) _).alloc (by simp) _, by simp, h1.below (below_al _), h2, World.ownsRow_nil _ _ _ _⟩
/-- An operation folded, in its two boxes. -/
structure Lt (w W : World) (xs : List O) (k : Nat) (K : Kn) (M : Nat → Int) (v : Value) (p7 p8 : Nat) (y : O) (K' : Kn) (M' : Nat → Int) : Prop where
  l : Ls w W xs k K M v
  a : Op.At W p7 #[.int .i8 y.op, .int .u8 y.d, .int .u8 y.a, .int .u8 y.b, .int .i64 y.im]
  d : Rs W p8 K' M'
  n7 : w.heap.size + 2 ≤ p7
  n8 : w.heap.size + 2 ≤ p8
  o7 : v.ownBlock ≠ some p7
  o8 : v.ownBlock ≠ some p8
theorem Lt.up {w W W' : World} {xs : List O} {k : Nat} {K : Kn} {M : Nat → Int} {v : Value} {p7 p8 : Nat} {y : O} {K' : Kn} {M' : Nat → Int} (h : Lt w W xs k K M v p7 p8 y K' M') (hb : Below W.heap.size W W') : Lt w W' xs k K M v p7 p8 y K' M' :=
  ⟨h.l.up hb, h.a.below hb h.a.lt, h.d.below hb, h.n7, h.n8, h.o7, h.o8⟩
theorem fr_grown {w w' : World} {r : Option Nat} (hg : w.grownBy w' r) : Fr (fun b => some b = r) w w' := ⟨hg.os, hg.tape, hg.output, hg.size, fun j hj hn => hg.block j hj hn⟩
theorem at_put5 {W : World} {p : Nat} {x0 x1 x2 x3 x4 : Value} (h : Op.At W p #[x0, x1, x2, x3, x4]) (y0 y1 y2 y3 y4 : Value) : Op.At (((((W.setCell ⟨p, 0, none⟩ y0).setCell ⟨p, 1, none⟩ y1).setCell ⟨p, 2, none⟩ y2).setCell ⟨p, 3, none⟩ y3).setCell ⟨p, 4, none⟩ y4) p #[y0, y1, y2, y3, y4] ∧ Fr (One p) W (((((W.setCell ⟨p, 0, none⟩ y0).setCell ⟨p, 1, none⟩ y1).setCell ⟨p, 2, none⟩ y2).setCell ⟨p, 3, none⟩ y3).setCell ⟨p, 4, none⟩ y4) := by
  refine ⟨?_, (((((Fr.refl (One p) W).setCell (.inr rfl) 0 y0).setCell (.inr rfl) 1 y1).setCell (.inr rfl) 2 y2).setCell (.inr rfl) 3 y3).setCell (.inr rfl) 4 y4⟩
  exact ((((Op.At.set h (j := 0) (by simp) y0).set (j := 1) (by simp) y1).set (j := 2) (by simp) y2).set (j := 3) (by simp) y3).set (j := 4) (by simp) y4
theorem Ls.own {w W : World} {xs : List O} {k : Nat} {K : Kn} {M : Nat → Int} {v : Value} (h : Ls w W xs k K M v) {p : Nat} (hp : W.heap.size ≤ p) : v.ownBlock ≠ some p := fun e => by
  have := (h.row.lt p e).2
  omega
/-- The list as it is behind the append and the store. -/
theorem Lt.next {w W W' : World} {xs : List O} {k : Nat} {K : Kn} {M : Nat → Int} {v v' : Value} {p7 p8 : Nat} {y : O} {K' : Kn} {M' : Nat → Int} (h : Lt w W xs k K M v p7 p8 y K' M') (hk : k < xs.length) (hy : fdO (fdK kn0 (xs.take k)) xs[k] = y)
    (hg : W.grownBy W' v.ownBlock) (hown : W'.ownsRow (w.heap.size + 2) 51 5 v' (k + 1) (ocells (fdL kn0 (xs.take k)) ++ [.int .i8 y.op, .int .u8 y.d, .int .u8 y.a, .int .u8 y.b, .int .i64 y.im])) :
    Ls w (W'.setCells (w.heap.size + 1) 0 (rA K' M').toList) xs (k + 1) K' M' v' := by
  have hs := h.l.s
  have hnb : ∀ b, b < w.heap.size + 2 → some b ≠ v.ownBlock := fun b hb e => by
    have := (h.l.row.lt b e.symm).1
    omega
  have hF0 : Fr (fun b => some b = v.ownBlock) W W' := ⟨hg.os, hg.tape, hg.output, hg.size, fun j hj hn => hg.block j hj hn⟩
  have hF : Fr (One (w.heap.size + 1)) W' (W'.setCells (w.heap.size + 1) 0 (rA K' M').toList) := fr_setCells (X := One (w.heap.size + 1)) rfl _ _ (Fr.refl _ _)
  have hb1 : Below w.heap.size w W' := h.l.b.trans (hF0.below h.l.b.size fun j hj q => hnb j (by omega) q)
  refine ⟨hb1.trans (hF.below hb1.size fun j hj q => by have q : j = w.heap.size + 1 := q; omega), Nat.le_trans hs (Nat.le_trans hg.size hF.size), (h.l.q.fr hF0 (hnb _ (by omega))).fr hF (fun q => by have q : w.heap.size = w.heap.size + 1 := q; omega), rs_laid (h.l.kr.fr hF0 (hnb _ (by omega))), ?_⟩
  have e : ocells (fdL kn0 (xs.take (k + 1))) = ocells (fdL kn0 (xs.take k)) ++ [.int .i8 y.op, .int .u8 y.d, .int .u8 y.a, .int .u8 y.b, .int .i64 y.im] := by
    rw [fdL_take kn0 xs k hk, hy]
    simp [ocells]
  rw [e]
  exact row_one hown hF fun q => by have := (hown.lt _ q).1; omega
/-- The answer. -/
theorem Ls.laid {w W : World} {xs : List O} {K : Kn} {M : Nat → Int} {v : Value} (h : Ls w W xs xs.length K M v) : Below w.heap.size w (W.setCells w.heap.size 0 (rA K M).toList) ∧ Rs (W.setCells w.heap.size 0 (rA K M).toList) w.heap.size K M ∧ (W.setCells w.heap.size 0 (rA K M).toList).ownsRow w.heap.size 51 5 v xs.length (ocells (fdL kn0 xs)) := by
  have hF : Fr (One w.heap.size) W (W.setCells w.heap.size 0 (rA K M).toList) := fr_setCells (X := One w.heap.size) rfl _ _ (Fr.refl _ _)
  have hr := h.row
  rw [List.take_length] at hr
  exact ⟨h.b.trans (hF.below h.b.size fun j hj q => by have q : j = w.heap.size := q; omega), rs_laid h.q, row_le (row_one hr hF fun q => by have := (hr.lt _ q).1; omega) (by omega)⟩

set_option maxHeartbeats 8000000 in
theorem list_any (ao : Option Addr) (cap : Nat) (xs : List O) (w : World) (h : OpsAt w ao xs) (hok : ∀ o ∈ xs, o.Ok ∧ okP o = true) (hl : xs.length ≤ 8192) :
    Calls Tryz.prog 23 #[.slice ao xs.length cap] w fun e w' => ∃ v M, e = .returned (.tuple #[v, .agg (rA (fdK kn0 xs) M)]) ∧ w'.ownsRow w.heap.size 51 5 v xs.length (ocells (fdL kn0 xs)) ∧ Say (fdK kn0 xs) M ∧ Below w.heap.size w w' := by
  obtain ⟨i0, hi, hi2⟩ := Option.map_eq_some_iff.1 info51
  simp only [Prod.mk.injEq] at hi2
  obtain ⟨hz0, hz1, hz2⟩ := hi2
  have HI : Hid (Tryz.prog.info? 51 = some i0 ∧ i0.zero = some (.agg #[.int .i8 0, .int .u8 0, .int .u8 0, .int .u8 0, .int .i64 0]) ∧ i0.size = 5 ∧ i0.bytes = 16) := ⟨hi, hz0, hz1, hz2⟩
  clear hi hz0 hz1 hz2
  have HS0 : Hid _ := Ls.start w xs
  have HA : Hid (OpsAt w ao xs) := h
  have HOk : Hid _ := hok
  clear h hok
  go_enter Tryz.func23, Tryz.ntmps23
  apply wp_seq_k; intro K0 hK0
  apply wp_region_lit
  refine wpList_readTo rfl (some 2) rfl (.slice none 0 0) (by kernel_rfl) ?_
  refine wpList_allocTo rfl (some 3) rfl (.pointer (some ⟨w.heap.size, 0, none⟩)) (.cells (rA kn0 fun _ => 0) 58) (by kernel_rfl) ?_
  refine wpList_nil ?_
  refine hK0 _ _ ?_
  apply wp_seq_k; intro K1 hK1
  apply wp_region_lit
  refine wpList_allocTo rfl (some 4) rfl (.pointer (some ⟨(w.alloc (.cells (rA kn0 fun _ => 0) 58)).heap.size, 0, none⟩)) (.cells (rA kn0 fun _ => 0) 58) (by kernel_rfl) ?_
  refine wpList_nil ?_
  refine hK1 _ _ ?_
  clear hK1 hK0 K1 K0
  generalize (w.alloc (.cells (rA kn0 fun _ => 0) 58)).alloc (.cells (rA kn0 fun _ => 0) 58) = W0 at *
  simp only [Act.put, List.setIfInBounds_toArray, List.set_cons_zero, List.set_cons_succ, World.size_alloc]
  go_wp2_with fail
  go_loopw [5, 6] (fun v i wr => ∃ (k : Nat) (M : Nat → Int), k ≤ xs.length ∧ i = .int .i64 k ∧ Ls w wr xs k (fdK kn0 (xs.take k)) M v ∧ Say (fdK kn0 (xs.take k)) M ∧ ∀ r, -9223372036854775808 ≤ M r ∧ M r ≤ 9223372036854775807) (fun _ i _ => xs.length - (intOf i).toNat)
  case atStart => exact ⟨0, fun _ => 0, by omega, rfl, HS0.out, (fun r v e => by cases e), fun r => ⟨by simp, by simp⟩⟩
  case round =>
    rename World => wr
    obtain ⟨k, M, hk, rfl, hls, hsay, hM⟩ := hrel
    clear HS0
    have HL : Hid _ := hls
    have hsz := hls.s
    clear hls
    by_cases hlt : k < xs.length
    · have hx := HOk.out _ (List.getElem_mem hlt)
      have hkz : (k : Int) < (xs.length : Int) := by omega
      have hk0 : (0 : Int) ≤ (k : Int) := by omega
      obtain ⟨b, f, rfl, hbl, hxs⟩ := HA.out.is (by omega)
      have HX : Hid (∀ W, Below w.heap.size w W → OAt W b (f + k * 5) xs[k]) := fun W hb => (hxs k hlt).below hb hbl
      have HC : Hid (∀ W, Calls Tryz.prog 41 #[xs[k].val, .agg (rA (fdK kn0 (xs.take k)) M)] W fun e w' => e = .returned (.tuple #[(fdO (fdK kn0 (xs.take k)) xs[k]).val, .agg (rA (ntO (fdK kn0 (xs.take k)) (fdO (fdK kn0 (xs.take k)) xs[k])) (ntN M (fdO (fdK kn0 (xs.take k)) xs[k])))]) ∧ Below W.heap.size W w') := fun W => op_any _ _ _ W hsay hM hx.1 hx.2
      have hyo := (fdO_ok (fdK kn0 (xs.take k)) hx.1 hx.2).1
      have HN : Hid (∀ w2 v', Ls w w2 xs (k + 1) (ntO (fdK kn0 (xs.take k)) (fdO (fdK kn0 (xs.take k)) xs[k])) (ntN M (fdO (fdK kn0 (xs.take k)) xs[k])) v' → ∃ (k2 : Nat) (M : Nat → Int), k2 ≤ xs.length ∧ (.int .i64 ((k : Int) + 1) : Value) = .int .i64 k2 ∧ Ls w w2 xs k2 (fdK kn0 (xs.take k2)) M v' ∧ Say (fdK kn0 (xs.take k2)) M ∧ ∀ r, -9223372036854775808 ≤ M r ∧ M r ≤ 9223372036854775807) := fun w2 v' h2 => by
        refine ⟨k + 1, _, by omega, by simp, by rw [fdK_take kn0 xs k hlt]; exact h2, by rw [fdK_take kn0 xs k hlt]; exact hsay.nt _, fun r => ?_⟩
        unfold ntN
        split
        · unfold putN
          split
          · exact ⟨hyo.i0, hyo.i1⟩
          · exact hM r
        · exact hM r
      have HT : Hid (∀ W W' v' p7 p8 y K' M', Lt w W xs k (fdK kn0 (xs.take k)) M u5 p7 p8 y K' M' → fdO (fdK kn0 (xs.take k)) xs[k] = y → W.grownBy W' u5.ownBlock → W'.ownsRow (w.heap.size + 2) 51 5 v' (k + 1) (ocells (fdL kn0 (xs.take k)) ++ [.int .i8 y.op, .int .u8 y.d, .int .u8 y.a, .int .u8 y.b, .int .i64 y.im]) → Ls w (W'.setCells (w.heap.size + 1) 0 (rA K' M').toList) xs (k + 1) K' M' v') := fun W W' v' p7 p8 y K' M' h1 h2 h3 h4 => h1.next hlt h2 h3 h4
      clear hx hxs hsay hM hyo
      generalize hY : fdO (fdK kn0 (xs.take k)) xs[k] = y at *
      generalize hK9 : ntO (fdK kn0 (xs.take k)) y = K9 at *
      generalize hM9 : ntN M y = M9 at *
      clear hY hK9 hM9
      generalize fdK kn0 (xs.take k) = K at *
      generalize xs[k] = x at *
      obtain ⟨xo, xd, xa, xb, xi⟩ := x
      obtain ⟨yo, yd, ya, yb, yi⟩ := y
      try simp only at *
      go_upto_region 6 with fail
      rename_i K3 hK3
      have HK2 : ∀ (v15 v16 v17 v18 v19 v20 v21 v22 v23 : Value) (p7 p8 : Nat) (W : World), Lt w W xs k K M u5 p7 p8 ⟨yo, yd, ya, yb, yi⟩ K9 M9 → K3 { tmps := #[.slice (some ⟨b, f, none⟩) xs.length cap, undef, .slice none 0 0, .pointer (some ⟨w.heap.size, 0, none⟩), .pointer (some ⟨w.heap.size + 1, 0, none⟩), u5, .int .i64 k, .pointer (some ⟨p7, 0, none⟩), .pointer (some ⟨p8, 0, none⟩), .int .i64 k, .slice (some ⟨b, f, none⟩) xs.length cap, .int .i64 xs.length, .bool true, u13, u14, v15, v16, v17, v18, v19, v20, v21, v22, v23, u24, u25, u26, u27, u28, undef, undef], defers := [] } W := by
        intro v15 v16 v17 v18 v19 v20 v21 v22 v23 p7 p8 W hlt2
        have H2 : Hid _ := hlt2
        obtain ⟨a0, a1, a2, a3, a4⟩ := hlt2.a.o5
        have al := hlt2.a.lt
        clear hlt2
        refine hK3 _ _ ?_
        go_upto_region 8 with (first
          | (at_builtin; refine wpList_append_lies _ rfl (.tmp 24) (.tmp 26) 46 rfl (w.heap.size + 2) 51 i0 (.agg #[.int .i8 0, .int .u8 0, .int .u8 0, .int .u8 0, .int .i64 0]) 5 16 Tryz.underlying46 HI.out.1 HI.out.2.1 HI.out.2.2.1 HI.out.2.2.2 rfl (by decide) _ _ _ rfl (H2.out.l.row.alloc _) ⟨W.heap.size, 0, none⟩ 1 1 [.int .i8 yo, .int .u8 yd, .int .u8 ya, .int .u8 yb, .int .i64 yi] rfl rfl (World.news_of_block (heap_alloc_new W _)) (by simp [Value.oneCell']) (by decide) (by unfold maxLen; omega) (by omega) (by have := H2.out.l.s; simp; omega) (W.heap.size + 1) (by simp) ?_; intro g cap4 w4 hown4 hgrow4 hat4 hlt4))
        have H3 : Hid (Lt w (W.alloc (.cells #[.int .i8 yo, .int .u8 yd, .int .u8 ya, .int .u8 yb, .int .i64 yi] 51)) xs k K M u5 p7 p8 ⟨yo, yd, ya, yb, yi⟩ K9 M9) := H2.out.up (below_al _)
        clear H2 a0 a1 a2 a3 a4 al hat4 hlt4
        generalize W.alloc (.cells #[.int .i8 yo, .int .u8 yd, .int .u8 ya, .int .u8 yb, .int .i64 yi] 51) = W2 at *
        replace hgrow4 : W2.grownBy w4 u5.ownBlock := hgrow4
        have H4 : Hid _ := HT.out _ _ _ _ _ _ _ _ H3.out rfl hgrow4 hown4
        have hF4 := fr_grown hgrow4
        have hr8 : Rs w4 p8 K9 M9 := H3.out.d.fr hF4 (fun q => H3.out.o8 q.symm)
        have hrk : Rs w4 (w.heap.size + 1) K M := H3.out.l.kr.fr hF4 (fun q => by have := (H3.out.l.row.lt _ q.symm).1; omega)
        have hi2 : (Tryz.prog.info? 58).map (·.size) = some (rA K9 M9).size := by rw [rA_size]; exact info58
        have hi3 : (Tryz.prog.info? 58).map (·.size) = some (rA K9 M9).toList.length := by rw [rA_len]; exact info58
        have ht8 : w4.there (w.heap.size + 1) 0 (rA K9 M9).size := by rw [rA_size]; exact rs_there hrk
        have h18 := rA_one K9 M9
        have hrr := rs_range hr8
        clear hr8 hrk hF4 H3 hgrow4 hown4 HT
        generalize rA K9 M9 = A at *
        apply wp_region_lit
        refine wpList_load_mid rfl 58 (.tmp 8) rfl p8 0 rfl A.toList _ hrr Tryz.underlying58 rfl hi3 ?_
        refine wpList_store_mid rfl 58 (.tmp 4) (.tmp 28) rfl (w.heap.size + 1) 0 A rfl rfl ht8 hi2 h18 ?_
        refine wpList_nil ?_
        simp only [Act.put, List.setIfInBounds_toArray, List.set_cons_zero, List.set_cons_succ]
        generalize w4.setCells (w.heap.size + 1) 0 A.toList = w5 at *
        go_wp2_with fail
        go_roundw
        case rel => exact HN.out _ _ H4.out
        case measure => simp [intOf]; omega
      have HD6 := HL.out.up (Below.refl _ _).drew
      refine wp_region_held_drew (S := fun W' => Ls w W' xs k K M u5) (by kernel_rfl) HD6 (fun hHeld => ?_)
      have HL0 : Hid _ := HD6
      clear HD6 HL hK3
      generalize wr.drew = W0 at *
      refine wpAnyH_take (i := 0) (v := .slice (some ⟨b, f, none⟩) xs.length cap) rfl (by kernel_rfl) (by kernel_rfl) (by kernel_rfl) (fun _ _ _ h => h) (Or.inl ⟨by rfl, fun w' hSw => by (clear hSw; go_simp)⟩) hHeld ?_
      simp only [Act.put, List.setIfInBounds_toArray, List.set_cons_zero, List.set_cons_succ, List.getElem_cons_zero, List.getElem_toArray]
      refine wpAnyH_take (i := 1) (v := .int .i64 (k : Int)) rfl (by kernel_rfl) (by kernel_rfl) (by kernel_rfl) (fun _ _ _ h => h) (Or.inl ⟨by rfl, fun w' hSw => by (clear hSw; go_simp)⟩) hHeld ?_
      simp only [Act.put, List.setIfInBounds_toArray, List.set_cons_zero, List.set_cons_succ, List.getElem_cons_zero, List.getElem_cons_succ, List.getElem_toArray]
      refine wpAnyH_take (i := 2) (v := .pointer (some ⟨b, f + k * 5, none⟩)) rfl (by kernel_rfl) (by kernel_rfl) (by kernel_rfl) (fun _ _ _ h => h) (Or.inl ⟨by rfl, fun w' hSw => by (clear hSw; go_simp)⟩) hHeld ?_
      simp only [Act.put, List.setIfInBounds_toArray, List.set_cons_zero, List.set_cons_succ, List.getElem_cons_zero, List.getElem_cons_succ, List.getElem_toArray]
      refine wpAnyH_take (i := 3) (v := .agg #[.int .i8 xo, .int .u8 xd, .int .u8 xa, .int .u8 xb, .int .i64 xi]) rfl (by kernel_rfl) (by kernel_rfl) (by kernel_rfl) (fun _ _ _ h => h) (Or.inl ⟨by rfl, fun w' hSw => by (obtain ⟨c0, c1, c2, c3, c4⟩ := HX.out _ hSw.b; clear hSw; go_simp)⟩) hHeld ?_
      simp only [Act.put, List.setIfInBounds_toArray, List.set_cons_zero, List.set_cons_succ, List.getElem_cons_zero, List.getElem_cons_succ, List.getElem_toArray]
      refine wpAnyH_take (i := 4) (v := .agg (rA K M).toList.toArray) rfl (by kernel_rfl) (by kernel_rfl) (by kernel_rfl) (fun _ _ _ h => h) (yieldsIf_load_mid (by rfl) 58 (.tmp 4) rfl (w.heap.size + 1) 0 rfl (rA K M).toList _ (fun w' hSw => rs_range hSw.kr) Tryz.underlying58 rfl (by rw [rA_len]; exact info58)) hHeld ?_
      simp only [Act.put, List.setIfInBounds_toArray, List.set_cons_zero, List.set_cons_succ, List.getElem_cons_zero, List.getElem_cons_succ, List.getElem_toArray]
      refine wpAnyH_ready (rs := [5, 9, 10]) (by kernel_rfl) (by simp) ?_
      refine AllReadyH.cons rfl (fun KK hKK => ?_) (AllReadyH.cons rfl (fun KK hKK => ?_) (AllReadyH.cons rfl (fun KK hKK => ?_) AllReadyH.nil))
      · skip
        go_simp
        refine Calls.mono (HC.out _) ?_
        rintro e W1 ⟨rfl, hb⟩
        have HL1 : Hid _ := HL0.out.up hb
        clear HL0 hb HC
        refine hKK.out _ _ HL1.out (fun hHeld => ?_)
        clear hKK KK
        try simp only [Act.put, List.setIfInBounds_toArray, List.set_cons_zero, List.set_cons_succ, List.getElem_cons_zero, List.getElem_cons_succ, List.getElem_toArray]
        refine wpAnyH_take (i := 6) (v := .tuple #[.agg #[.int .i8 yo, .int .u8 yd, .int .u8 ya, .int .u8 yb, .int .i64 yi], .agg (rA K9 M9)]) rfl (by kernel_rfl) (by kernel_rfl) (by kernel_rfl) (fun _ _ _ h => h) (Or.inl ⟨by rfl, fun w' hSw => by (clear hSw; go_simp)⟩) hHeld ?_
        simp only [Act.put, List.setIfInBounds_toArray, List.set_cons_zero, List.set_cons_succ, List.getElem_cons_zero, List.getElem_cons_succ, List.getElem_toArray]
        refine wpAnyH_take (i := 7) (v := .agg #[.int .i8 yo, .int .u8 yd, .int .u8 ya, .int .u8 yb, .int .i64 yi]) rfl (by kernel_rfl) (by kernel_rfl) (by kernel_rfl) (fun _ _ _ h => h) (Or.inl ⟨by rfl, fun w' hSw => by (clear hSw; go_simp)⟩) hHeld ?_
        simp only [Act.put, List.setIfInBounds_toArray, List.set_cons_zero, List.set_cons_succ, List.getElem_cons_zero, List.getElem_cons_succ, List.getElem_toArray]
        refine wpAnyH_take (i := 8) (v := .agg (rA K9 M9)) rfl (by kernel_rfl) (by kernel_rfl) (by kernel_rfl) (fun _ _ _ h => h) (Or.inl ⟨by rfl, fun w' hSw => by (clear hSw; go_simp)⟩) hHeld ?_
        simp only [Act.put, List.setIfInBounds_toArray, List.set_cons_zero, List.set_cons_succ, List.getElem_cons_zero, List.getElem_cons_succ, List.getElem_toArray]
        refine wpAnyH_ready (rs := [9, 10]) (by kernel_rfl) (by simp) ?_
        refine AllReadyH.cons rfl (fun KK hKK => ?_) (AllReadyH.cons rfl (fun KK hKK => ?_) AllReadyH.nil)
        · skip
          rw [if_pos (by rfl)]
          refine wp_runTo (.pointer (some ⟨W1.heap.size, 0, none⟩)) (W1.alloc (.cells #[.int .i8 0, .int .u8 0, .int .u8 0, .int .u8 0, .int .i64 0] 51)) (by kernel_rfl) ?_
          have hb : Below W1.heap.size W1 (W1.alloc (.cells #[.int .i8 0, .int .u8 0, .int .u8 0, .int .u8 0, .int .i64 0] 51)) := below_al _
          have hs2 := HL1.out.s
          have HA2 : Hid (Op.At (W1.alloc (.cells #[.int .i8 0, .int .u8 0, .int .u8 0, .int .u8 0, .int .i64 0] 51)) W1.heap.size #[.int .i8 0, .int .u8 0, .int .u8 0, .int .u8 0, .int .i64 0] ∧ w.heap.size + 2 ≤ W1.heap.size ∧ u5.ownBlock ≠ some W1.heap.size) := ⟨Op.At.new _ _ _, hs2, HL1.out.own (Nat.le_refl _)⟩
          have HL2 : Hid _ := HL1.out.up hb
          clear HL1 hb hs2
          generalize W1.alloc (.cells #[.int .i8 0, .int .u8 0, .int .u8 0, .int .u8 0, .int .i64 0] 51) = W2 at *
          generalize W1.heap.size = p7 at *
          refine hKK.out _ _ HL2.out (fun hHeld => ?_)
          clear hKK KK
          try simp only [Act.put, List.setIfInBounds_toArray, List.set_cons_zero, List.set_cons_succ, List.getElem_cons_zero, List.getElem_cons_succ, List.getElem_toArray]
          refine wpAnyH_ready (rs := [10]) (by kernel_rfl) (by simp) ?_
          refine AllReadyH.cons rfl (fun KK hKK => ?_) AllReadyH.nil
          rw [if_pos (by rfl)]
          refine wp_runTo (.pointer (some ⟨W2.heap.size, 0, none⟩)) (W2.alloc (.cells (rA kn0 fun _ => 0) 58)) (by kernel_rfl) ?_
          have hb : Below W2.heap.size W2 (W2.alloc (.cells (rA kn0 fun _ => 0) 58)) := below_al _
          have hs3 := HL2.out.s
          have HD3 : Hid (Rs (W2.alloc (.cells (rA kn0 fun _ => 0) 58)) W2.heap.size kn0 (fun _ => 0) ∧ w.heap.size + 2 ≤ W2.heap.size ∧ u5.ownBlock ≠ some W2.heap.size) := ⟨Rs.new _ _ _ _, hs3, HL2.out.own (Nat.le_refl _)⟩
          have HA3 : Hid (Op.At (W2.alloc (.cells (rA kn0 fun _ => 0) 58)) p7 #[.int .i8 0, .int .u8 0, .int .u8 0, .int .u8 0, .int .i64 0] ∧ w.heap.size + 2 ≤ p7 ∧ u5.ownBlock ≠ some p7) := ⟨HA2.out.1.below hb HA2.out.1.lt, HA2.out.2⟩
          have hne : p7 ≠ W2.heap.size := fun q => by have := HA2.out.1.lt; omega
          have HL3 : Hid _ := HL2.out.up hb
          clear HL2 hb hs3 HA2
          generalize W2.alloc (.cells (rA kn0 fun _ => 0) 58) = W3 at *
          generalize W2.heap.size = p8 at *
          refine hKK.out _ _ HL3.out (fun hHeld => ?_)
          clear hKK KK
          try simp only [Act.put, List.setIfInBounds_toArray, List.set_cons_zero, List.set_cons_succ, List.getElem_cons_zero, List.getElem_cons_succ, List.getElem_toArray]
          refine wpAnyH_ready (rs := [11]) (by kernel_rfl) (by simp) ?_
          refine AllReadyH.cons rfl (fun KK hKK => ?_) AllReadyH.nil
          obtain ⟨t0, t1, t2, t3, t4⟩ := HA3.out.1.o5
          have f0 := HA3.out.1.f 0; have f1 := HA3.out.1.f 1; have f2 := HA3.out.1.f 2; have f3 := HA3.out.1.f 3; have f4 := HA3.out.1.f 4
          go_simp
          obtain ⟨ha5, hf5⟩ := at_put5 HA3.out.1 (.int .i8 yo) (.int .u8 yd) (.int .u8 ya) (.int .u8 yb) (.int .i64 yi)
          have HLa : Hid _ := HL3.out.far hf5 HA3.out.2.1 HA3.out.2.2
          have HDa : Hid _ := HD3.out.1.fr hf5 (fun q => hne (show p8 = p7 from q).symm)
          have HAa : Hid _ := ha5
          have HP : Hid (w.heap.size + 2 ≤ p7 ∧ w.heap.size + 2 ≤ p8 ∧ u5.ownBlock ≠ some p7 ∧ u5.ownBlock ≠ some p8 ∧ p7 ≠ p8) := ⟨HA3.out.2.1, HD3.out.2.1, HA3.out.2.2, HD3.out.2.2, hne⟩
          clear t0 t1 t2 t3 t4 f0 f1 f2 f3 f4 ha5 hf5 HL3 HA3 HD3 hne
          generalize (((((W3.setCell ⟨p7, 0, none⟩ (.int .i8 yo)).setCell ⟨p7, 1, none⟩ (.int .u8 yd)).setCell ⟨p7, 2, none⟩ (.int .u8 ya)).setCell ⟨p7, 3, none⟩ (.int .u8 yb)).setCell ⟨p7, 4, none⟩ (.int .i64 yi)) = Wa at *
          refine hKK.out _ _ HLa.out (fun hHeld => ?_)
          clear hKK KK
          refine wpAnyH_ready (rs := [12]) (by kernel_rfl) (by simp) ?_
          refine AllReadyH.cons rfl (fun KK hKK => ?_) AllReadyH.nil
          rw [if_pos (by rfl)]
          refine wp_store_mid 58 (.tmp 8) (.tmp 23) rfl p8 0 (rA K9 M9) rfl rfl (by rw [rA_size]; exact rs_there HDa.out) (by rw [rA_size]; exact info58) (rA_one K9 M9) ?_
          have hF8 : Fr (One p8) Wa (Wa.setCells p8 0 (rA K9 M9).toList) := fr_setCells (X := One p8) rfl _ _ (Fr.refl _ _)
          have HZ : Hid (Lt w (Wa.setCells p8 0 (rA K9 M9).toList) xs k K M u5 p7 p8 ⟨yo, yd, ya, yb, yi⟩ K9 M9) := ⟨HLa.out.far hF8 HP.out.2.1 HP.out.2.2.2.1, at_fr HAa.out hF8 (fun q => HP.out.2.2.2.2 q), rs_laid HDa.out, HP.out.1, HP.out.2.1, HP.out.2.2.1, HP.out.2.2.2.1⟩
          clear HLa HDa HAa HP hF8
          refine hKK.out _ _ HZ.out.l (fun hHeld => ?_)
          clear hKK KK
          refine wpAnyH_done (by kernel_rfl) ?_ _
          exact HK2 _ _ _ _ _ _ _ _ _ _ _ _ HZ.out
        · skip
          rw [if_pos (by rfl)]
          refine wp_runTo (.pointer (some ⟨W1.heap.size, 0, none⟩)) (W1.alloc (.cells (rA kn0 fun _ => 0) 58)) (by kernel_rfl) ?_
          have hb : Below W1.heap.size W1 (W1.alloc (.cells (rA kn0 fun _ => 0) 58)) := below_al _
          have hs2 := HL1.out.s
          have HD2 : Hid (Rs (W1.alloc (.cells (rA kn0 fun _ => 0) 58)) W1.heap.size kn0 (fun _ => 0) ∧ w.heap.size + 2 ≤ W1.heap.size ∧ u5.ownBlock ≠ some W1.heap.size) := ⟨Rs.new _ _ _ _, hs2, HL1.out.own (Nat.le_refl _)⟩
          have HL2 : Hid _ := HL1.out.up hb
          clear HL1 hb hs2
          generalize W1.alloc (.cells (rA kn0 fun _ => 0) 58) = W2 at *
          generalize W1.heap.size = p8 at *
          refine hKK.out _ _ HL2.out (fun hHeld => ?_)
          clear hKK KK
          try simp only [Act.put, List.setIfInBounds_toArray, List.set_cons_zero, List.set_cons_succ, List.getElem_cons_zero, List.getElem_cons_succ, List.getElem_toArray]
          refine wpAnyH_ready (rs := [9]) (by kernel_rfl) (by simp) ?_
          refine AllReadyH.cons rfl (fun KK hKK => ?_) AllReadyH.nil
          rw [if_pos (by rfl)]
          refine wp_runTo (.pointer (some ⟨W2.heap.size, 0, none⟩)) (W2.alloc (.cells #[.int .i8 0, .int .u8 0, .int .u8 0, .int .u8 0, .int .i64 0] 51)) (by kernel_rfl) ?_
          have hb : Below W2.heap.size W2 (W2.alloc (.cells #[.int .i8 0, .int .u8 0, .int .u8 0, .int .u8 0, .int .i64 0] 51)) := below_al _
          have hs3 := HL2.out.s
          have HA3 : Hid (Op.At (W2.alloc (.cells #[.int .i8 0, .int .u8 0, .int .u8 0, .int .u8 0, .int .i64 0] 51)) W2.heap.size #[.int .i8 0, .int .u8 0, .int .u8 0, .int .u8 0, .int .i64 0] ∧ w.heap.size + 2 ≤ W2.heap.size ∧ u5.ownBlock ≠ some W2.heap.size) := ⟨Op.At.new _ _ _, hs3, HL2.out.own (Nat.le_refl _)⟩
          have HD3 : Hid (Rs (W2.alloc (.cells #[.int .i8 0, .int .u8 0, .int .u8 0, .int .u8 0, .int .i64 0] 51)) p8 kn0 (fun _ => 0) ∧ w.heap.size + 2 ≤ p8 ∧ u5.ownBlock ≠ some p8) := ⟨HD2.out.1.below hb, HD2.out.2⟩
          have hne : W2.heap.size ≠ p8 := fun q => by have := HD2.out.1.lt; omega
          have HL3 : Hid _ := HL2.out.up hb
          clear HL2 hb hs3 HD2
          generalize W2.alloc (.cells #[.int .i8 0, .int .u8 0, .int .u8 0, .int .u8 0, .int .i64 0] 51) = W3 at *
          generalize W2.heap.size = p7 at *
          refine hKK.out _ _ HL3.out (fun hHeld => ?_)
          clear hKK KK
          try simp only [Act.put, List.setIfInBounds_toArray, List.set_cons_zero, List.set_cons_succ, List.getElem_cons_zero, List.getElem_cons_succ, List.getElem_toArray]
          refine wpAnyH_ready (rs := [11]) (by kernel_rfl) (by simp) ?_
          refine AllReadyH.cons rfl (fun KK hKK => ?_) AllReadyH.nil
          obtain ⟨t0, t1, t2, t3, t4⟩ := HA3.out.1.o5
          have f0 := HA3.out.1.f 0; have f1 := HA3.out.1.f 1; have f2 := HA3.out.1.f 2; have f3 := HA3.out.1.f 3; have f4 := HA3.out.1.f 4
          go_simp
          obtain ⟨ha5, hf5⟩ := at_put5 HA3.out.1 (.int .i8 yo) (.int .u8 yd) (.int .u8 ya) (.int .u8 yb) (.int .i64 yi)
          have HLa : Hid _ := HL3.out.far hf5 HA3.out.2.1 HA3.out.2.2
          have HDa : Hid _ := HD3.out.1.fr hf5 (fun q => hne (show p8 = p7 from q).symm)
          have HAa : Hid _ := ha5
          have HP : Hid (w.heap.size + 2 ≤ p7 ∧ w.heap.size + 2 ≤ p8 ∧ u5.ownBlock ≠ some p7 ∧ u5.ownBlock ≠ some p8 ∧ p7 ≠ p8) := ⟨HA3.out.2.1, HD3.out.2.1, HA3.out.2.2, HD3.out.2.2, hne⟩
          clear t0 t1 t2 t3 t4 f0 f1 f2 f3 f4 ha5 hf5 HL3 HA3 HD3 hne
          generalize (((((W3.setCell ⟨p7, 0, none⟩ (.int .i8 yo)).setCell ⟨p7, 1, none⟩ (.int .u8 yd)).setCell ⟨p7, 2, none⟩ (.int .u8 ya)).setCell ⟨p7, 3, none⟩ (.int .u8 yb)).setCell ⟨p7, 4, none⟩ (.int .i64 yi)) = Wa at *
          refine hKK.out _ _ HLa.out (fun hHeld => ?_)
          clear hKK KK
          refine wpAnyH_ready (rs := [12]) (by kernel_rfl) (by simp) ?_
          refine AllReadyH.cons rfl (fun KK hKK => ?_) AllReadyH.nil
          rw [if_pos (by rfl)]
          refine wp_store_mid 58 (.tmp 8) (.tmp 23) rfl p8 0 (rA K9 M9) rfl rfl (by rw [rA_size]; exact rs_there HDa.out) (by rw [rA_size]; exact info58) (rA_one K9 M9) ?_
          have hF8 : Fr (One p8) Wa (Wa.setCells p8 0 (rA K9 M9).toList) := fr_setCells (X := One p8) rfl _ _ (Fr.refl _ _)
          have HZ : Hid (Lt w (Wa.setCells p8 0 (rA K9 M9).toList) xs k K M u5 p7 p8 ⟨yo, yd, ya, yb, yi⟩ K9 M9) := ⟨HLa.out.far hF8 HP.out.2.1 HP.out.2.2.2.1, at_fr HAa.out hF8 (fun q => HP.out.2.2.2.2 q), rs_laid HDa.out, HP.out.1, HP.out.2.1, HP.out.2.2.1, HP.out.2.2.2.1⟩
          clear HLa HDa HAa HP hF8
          refine hKK.out _ _ HZ.out.l (fun hHeld => ?_)
          clear hKK KK
          refine wpAnyH_done (by kernel_rfl) ?_ _
          exact HK2 _ _ _ _ _ _ _ _ _ _ _ _ HZ.out
      · skip
        rw [if_pos (by rfl)]
        refine wp_runTo (.pointer (some ⟨W0.heap.size, 0, none⟩)) (W0.alloc (.cells #[.int .i8 0, .int .u8 0, .int .u8 0, .int .u8 0, .int .i64 0] 51)) (by kernel_rfl) ?_
        have hb : Below W0.heap.size W0 (W0.alloc (.cells #[.int .i8 0, .int .u8 0, .int .u8 0, .int .u8 0, .int .i64 0] 51)) := below_al _
        have hs1 := HL0.out.s
        have HA1 : Hid (Op.At (W0.alloc (.cells #[.int .i8 0, .int .u8 0, .int .u8 0, .int .u8 0, .int .i64 0] 51)) W0.heap.size #[.int .i8 0, .int .u8 0, .int .u8 0, .int .u8 0, .int .i64 0] ∧ w.heap.size + 2 ≤ W0.heap.size ∧ u5.ownBlock ≠ some W0.heap.size) := ⟨Op.At.new _ _ _, hs1, HL0.out.own (Nat.le_refl _)⟩
        have HL1 : Hid _ := HL0.out.up hb
        clear HL0 hb hs1
        generalize W0.alloc (.cells #[.int .i8 0, .int .u8 0, .int .u8 0, .int .u8 0, .int .i64 0] 51) = W1 at *
        generalize W0.heap.size = p7 at *
        refine hKK.out _ _ HL1.out (fun hHeld => ?_)
        clear hKK KK
        try simp only [Act.put, List.setIfInBounds_toArray, List.set_cons_zero, List.set_cons_succ, List.getElem_cons_zero, List.getElem_cons_succ, List.getElem_toArray]
        refine wpAnyH_ready (rs := [5, 10]) (by kernel_rfl) (by simp) ?_
        refine AllReadyH.cons rfl (fun KK hKK => ?_) (AllReadyH.cons rfl (fun KK hKK => ?_) AllReadyH.nil)
        · skip
          go_simp
          refine Calls.mono (HC.out _) ?_
          rintro e W2 ⟨rfl, hb⟩
          have HA2 : Hid (Op.At W2 p7 #[.int .i8 0, .int .u8 0, .int .u8 0, .int .u8 0, .int .i64 0] ∧ w.heap.size + 2 ≤ p7 ∧ u5.ownBlock ≠ some p7) := ⟨HA1.out.1.below hb HA1.out.1.lt, HA1.out.2⟩
          have HL2 : Hid _ := HL1.out.up hb
          clear HL1 hb HC HA1
          refine hKK.out _ _ HL2.out (fun hHeld => ?_)
          clear hKK KK
          try simp only [Act.put, List.setIfInBounds_toArray, List.set_cons_zero, List.set_cons_succ, List.getElem_cons_zero, List.getElem_cons_succ, List.getElem_toArray]
          refine wpAnyH_take (i := 6) (v := .tuple #[.agg #[.int .i8 yo, .int .u8 yd, .int .u8 ya, .int .u8 yb, .int .i64 yi], .agg (rA K9 M9)]) rfl (by kernel_rfl) (by kernel_rfl) (by kernel_rfl) (fun _ _ _ h => h) (Or.inl ⟨by rfl, fun w' hSw => by (clear hSw; go_simp)⟩) hHeld ?_
          simp only [Act.put, List.setIfInBounds_toArray, List.set_cons_zero, List.set_cons_succ, List.getElem_cons_zero, List.getElem_cons_succ, List.getElem_toArray]
          refine wpAnyH_take (i := 7) (v := .agg #[.int .i8 yo, .int .u8 yd, .int .u8 ya, .int .u8 yb, .int .i64 yi]) rfl (by kernel_rfl) (by kernel_rfl) (by kernel_rfl) (fun _ _ _ h => h) (Or.inl ⟨by rfl, fun w' hSw => by (clear hSw; go_simp)⟩) hHeld ?_
          simp only [Act.put, List.setIfInBounds_toArray, List.set_cons_zero, List.set_cons_succ, List.getElem_cons_zero, List.getElem_cons_succ, List.getElem_toArray]
          refine wpAnyH_take (i := 8) (v := .agg (rA K9 M9)) rfl (by kernel_rfl) (by kernel_rfl) (by kernel_rfl) (fun _ _ _ h => h) (Or.inl ⟨by rfl, fun w' hSw => by (clear hSw; go_simp)⟩) hHeld ?_
          simp only [Act.put, List.setIfInBounds_toArray, List.set_cons_zero, List.set_cons_succ, List.getElem_cons_zero, List.getElem_cons_succ, List.getElem_toArray]
          refine wpAnyH_ready (rs := [10]) (by kernel_rfl) (by simp) ?_
          refine AllReadyH.cons rfl (fun KK hKK => ?_) AllReadyH.nil
          rw [if_pos (by rfl)]
          refine wp_runTo (.pointer (some ⟨W2.heap.size, 0, none⟩)) (W2.alloc (.cells (rA kn0 fun _ => 0) 58)) (by kernel_rfl) ?_
          have hb : Below W2.heap.size W2 (W2.alloc (.cells (rA kn0 fun _ => 0) 58)) := below_al _
          have hs3 := HL2.out.s
          have HD3 : Hid (Rs (W2.alloc (.cells (rA kn0 fun _ => 0) 58)) W2.heap.size kn0 (fun _ => 0) ∧ w.heap.size + 2 ≤ W2.heap.size ∧ u5.ownBlock ≠ some W2.heap.size) := ⟨Rs.new _ _ _ _, hs3, HL2.out.own (Nat.le_refl _)⟩
          have HA3 : Hid (Op.At (W2.alloc (.cells (rA kn0 fun _ => 0) 58)) p7 #[.int .i8 0, .int .u8 0, .int .u8 0, .int .u8 0, .int .i64 0] ∧ w.heap.size + 2 ≤ p7 ∧ u5.ownBlock ≠ some p7) := ⟨HA2.out.1.below hb HA2.out.1.lt, HA2.out.2⟩
          have hne : p7 ≠ W2.heap.size := fun q => by have := HA2.out.1.lt; omega
          have HL3 : Hid _ := HL2.out.up hb
          clear HL2 hb hs3 HA2
          generalize W2.alloc (.cells (rA kn0 fun _ => 0) 58) = W3 at *
          generalize W2.heap.size = p8 at *
          refine hKK.out _ _ HL3.out (fun hHeld => ?_)
          clear hKK KK
          try simp only [Act.put, List.setIfInBounds_toArray, List.set_cons_zero, List.set_cons_succ, List.getElem_cons_zero, List.getElem_cons_succ, List.getElem_toArray]
          refine wpAnyH_ready (rs := [11]) (by kernel_rfl) (by simp) ?_
          refine AllReadyH.cons rfl (fun KK hKK => ?_) AllReadyH.nil
          obtain ⟨t0, t1, t2, t3, t4⟩ := HA3.out.1.o5
          have f0 := HA3.out.1.f 0; have f1 := HA3.out.1.f 1; have f2 := HA3.out.1.f 2; have f3 := HA3.out.1.f 3; have f4 := HA3.out.1.f 4
          go_simp
          obtain ⟨ha5, hf5⟩ := at_put5 HA3.out.1 (.int .i8 yo) (.int .u8 yd) (.int .u8 ya) (.int .u8 yb) (.int .i64 yi)
          have HLa : Hid _ := HL3.out.far hf5 HA3.out.2.1 HA3.out.2.2
          have HDa : Hid _ := HD3.out.1.fr hf5 (fun q => hne (show p8 = p7 from q).symm)
          have HAa : Hid _ := ha5
          have HP : Hid (w.heap.size + 2 ≤ p7 ∧ w.heap.size + 2 ≤ p8 ∧ u5.ownBlock ≠ some p7 ∧ u5.ownBlock ≠ some p8 ∧ p7 ≠ p8) := ⟨HA3.out.2.1, HD3.out.2.1, HA3.out.2.2, HD3.out.2.2, hne⟩
          clear t0 t1 t2 t3 t4 f0 f1 f2 f3 f4 ha5 hf5 HL3 HA3 HD3 hne
          generalize (((((W3.setCell ⟨p7, 0, none⟩ (.int .i8 yo)).setCell ⟨p7, 1, none⟩ (.int .u8 yd)).setCell ⟨p7, 2, none⟩ (.int .u8 ya)).setCell ⟨p7, 3, none⟩ (.int .u8 yb)).setCell ⟨p7, 4, none⟩ (.int .i64 yi)) = Wa at *
          refine hKK.out _ _ HLa.out (fun hHeld => ?_)
          clear hKK KK
          refine wpAnyH_ready (rs := [12]) (by kernel_rfl) (by simp) ?_
          refine AllReadyH.cons rfl (fun KK hKK => ?_) AllReadyH.nil
          rw [if_pos (by rfl)]
          refine wp_store_mid 58 (.tmp 8) (.tmp 23) rfl p8 0 (rA K9 M9) rfl rfl (by rw [rA_size]; exact rs_there HDa.out) (by rw [rA_size]; exact info58) (rA_one K9 M9) ?_
          have hF8 : Fr (One p8) Wa (Wa.setCells p8 0 (rA K9 M9).toList) := fr_setCells (X := One p8) rfl _ _ (Fr.refl _ _)
          have HZ : Hid (Lt w (Wa.setCells p8 0 (rA K9 M9).toList) xs k K M u5 p7 p8 ⟨yo, yd, ya, yb, yi⟩ K9 M9) := ⟨HLa.out.far hF8 HP.out.2.1 HP.out.2.2.2.1, at_fr HAa.out hF8 (fun q => HP.out.2.2.2.2 q), rs_laid HDa.out, HP.out.1, HP.out.2.1, HP.out.2.2.1, HP.out.2.2.2.1⟩
          clear HLa HDa HAa HP hF8
          refine hKK.out _ _ HZ.out.l (fun hHeld => ?_)
          clear hKK KK
          refine wpAnyH_done (by kernel_rfl) ?_ _
          exact HK2 _ _ _ _ _ _ _ _ _ _ _ _ HZ.out
        · skip
          rw [if_pos (by rfl)]
          refine wp_runTo (.pointer (some ⟨W1.heap.size, 0, none⟩)) (W1.alloc (.cells (rA kn0 fun _ => 0) 58)) (by kernel_rfl) ?_
          have hb : Below W1.heap.size W1 (W1.alloc (.cells (rA kn0 fun _ => 0) 58)) := below_al _
          have hs2 := HL1.out.s
          have HD2 : Hid (Rs (W1.alloc (.cells (rA kn0 fun _ => 0) 58)) W1.heap.size kn0 (fun _ => 0) ∧ w.heap.size + 2 ≤ W1.heap.size ∧ u5.ownBlock ≠ some W1.heap.size) := ⟨Rs.new _ _ _ _, hs2, HL1.out.own (Nat.le_refl _)⟩
          have HA2 : Hid (Op.At (W1.alloc (.cells (rA kn0 fun _ => 0) 58)) p7 #[.int .i8 0, .int .u8 0, .int .u8 0, .int .u8 0, .int .i64 0] ∧ w.heap.size + 2 ≤ p7 ∧ u5.ownBlock ≠ some p7) := ⟨HA1.out.1.below hb HA1.out.1.lt, HA1.out.2⟩
          have hne : p7 ≠ W1.heap.size := fun q => by have := HA1.out.1.lt; omega
          have HL2 : Hid _ := HL1.out.up hb
          clear HL1 hb hs2 HA1
          generalize W1.alloc (.cells (rA kn0 fun _ => 0) 58) = W2 at *
          generalize W1.heap.size = p8 at *
          refine hKK.out _ _ HL2.out (fun hHeld => ?_)
          clear hKK KK
          try simp only [Act.put, List.setIfInBounds_toArray, List.set_cons_zero, List.set_cons_succ, List.getElem_cons_zero, List.getElem_cons_succ, List.getElem_toArray]
          refine wpAnyH_ready (rs := [5]) (by kernel_rfl) (by simp) ?_
          refine AllReadyH.cons rfl (fun KK hKK => ?_) AllReadyH.nil
          go_simp
          refine Calls.mono (HC.out _) ?_
          rintro e W3 ⟨rfl, hb⟩
          have HA3 : Hid (Op.At W3 p7 #[.int .i8 0, .int .u8 0, .int .u8 0, .int .u8 0, .int .i64 0] ∧ w.heap.size + 2 ≤ p7 ∧ u5.ownBlock ≠ some p7) := ⟨HA2.out.1.below hb HA2.out.1.lt, HA2.out.2⟩
          have HD3 : Hid (Rs W3 p8 kn0 (fun _ => 0) ∧ w.heap.size + 2 ≤ p8 ∧ u5.ownBlock ≠ some p8) := ⟨HD2.out.1.below hb, HD2.out.2⟩
          have HL3 : Hid _ := HL2.out.up hb
          clear HL2 hb HC HA2 HD2
          refine hKK.out _ _ HL3.out (fun hHeld => ?_)
          clear hKK KK
          try simp only [Act.put, List.setIfInBounds_toArray, List.set_cons_zero, List.set_cons_succ, List.getElem_cons_zero, List.getElem_cons_succ, List.getElem_toArray]
          refine wpAnyH_take (i := 6) (v := .tuple #[.agg #[.int .i8 yo, .int .u8 yd, .int .u8 ya, .int .u8 yb, .int .i64 yi], .agg (rA K9 M9)]) rfl (by kernel_rfl) (by kernel_rfl) (by kernel_rfl) (fun _ _ _ h => h) (Or.inl ⟨by rfl, fun w' hSw => by (clear hSw; go_simp)⟩) hHeld ?_
          simp only [Act.put, List.setIfInBounds_toArray, List.set_cons_zero, List.set_cons_succ, List.getElem_cons_zero, List.getElem_cons_succ, List.getElem_toArray]
          refine wpAnyH_take (i := 7) (v := .agg #[.int .i8 yo, .int .u8 yd, .int .u8 ya, .int .u8 yb, .int .i64 yi]) rfl (by kernel_rfl) (by kernel_rfl) (by kernel_rfl) (fun _ _ _ h => h) (Or.inl ⟨by rfl, fun w' hSw => by (clear hSw; go_simp)⟩) hHeld ?_
          simp only [Act.put, List.setIfInBounds_toArray, List.set_cons_zero, List.set_cons_succ, List.getElem_cons_zero, List.getElem_cons_succ, List.getElem_toArray]
          refine wpAnyH_take (i := 8) (v := .agg (rA K9 M9)) rfl (by kernel_rfl) (by kernel_rfl) (by kernel_rfl) (fun _ _ _ h => h) (Or.inl ⟨by rfl, fun w' hSw => by (clear hSw; go_simp)⟩) hHeld ?_
          simp only [Act.put, List.setIfInBounds_toArray, List.set_cons_zero, List.set_cons_succ, List.getElem_cons_zero, List.getElem_cons_succ, List.getElem_toArray]
          refine wpAnyH_ready (rs := [11]) (by kernel_rfl) (by simp) ?_
          refine AllReadyH.cons rfl (fun KK hKK => ?_) AllReadyH.nil
          obtain ⟨t0, t1, t2, t3, t4⟩ := HA3.out.1.o5
          have f0 := HA3.out.1.f 0; have f1 := HA3.out.1.f 1; have f2 := HA3.out.1.f 2; have f3 := HA3.out.1.f 3; have f4 := HA3.out.1.f 4
          go_simp
          obtain ⟨ha5, hf5⟩ := at_put5 HA3.out.1 (.int .i8 yo) (.int .u8 yd) (.int .u8 ya) (.int .u8 yb) (.int .i64 yi)
          have HLa : Hid _ := HL3.out.far hf5 HA3.out.2.1 HA3.out.2.2
          have HDa : Hid _ := HD3.out.1.fr hf5 (fun q => hne (show p8 = p7 from q).symm)
          have HAa : Hid _ := ha5
          have HP : Hid (w.heap.size + 2 ≤ p7 ∧ w.heap.size + 2 ≤ p8 ∧ u5.ownBlock ≠ some p7 ∧ u5.ownBlock ≠ some p8 ∧ p7 ≠ p8) := ⟨HA3.out.2.1, HD3.out.2.1, HA3.out.2.2, HD3.out.2.2, hne⟩
          clear t0 t1 t2 t3 t4 f0 f1 f2 f3 f4 ha5 hf5 HL3 HA3 HD3 hne
          generalize (((((W3.setCell ⟨p7, 0, none⟩ (.int .i8 yo)).setCell ⟨p7, 1, none⟩ (.int .u8 yd)).setCell ⟨p7, 2, none⟩ (.int .u8 ya)).setCell ⟨p7, 3, none⟩ (.int .u8 yb)).setCell ⟨p7, 4, none⟩ (.int .i64 yi)) = Wa at *
          refine hKK.out _ _ HLa.out (fun hHeld => ?_)
          clear hKK KK
          refine wpAnyH_ready (rs := [12]) (by kernel_rfl) (by simp) ?_
          refine AllReadyH.cons rfl (fun KK hKK => ?_) AllReadyH.nil
          rw [if_pos (by rfl)]
          refine wp_store_mid 58 (.tmp 8) (.tmp 23) rfl p8 0 (rA K9 M9) rfl rfl (by rw [rA_size]; exact rs_there HDa.out) (by rw [rA_size]; exact info58) (rA_one K9 M9) ?_
          have hF8 : Fr (One p8) Wa (Wa.setCells p8 0 (rA K9 M9).toList) := fr_setCells (X := One p8) rfl _ _ (Fr.refl _ _)
          have HZ : Hid (Lt w (Wa.setCells p8 0 (rA K9 M9).toList) xs k K M u5 p7 p8 ⟨yo, yd, ya, yb, yi⟩ K9 M9) := ⟨HLa.out.far hF8 HP.out.2.1 HP.out.2.2.2.1, at_fr HAa.out hF8 (fun q => HP.out.2.2.2.2 q), rs_laid HDa.out, HP.out.1, HP.out.2.1, HP.out.2.2.1, HP.out.2.2.2.1⟩
          clear HLa HDa HAa HP hF8
          refine hKK.out _ _ HZ.out.l (fun hHeld => ?_)
          clear hKK KK
          refine wpAnyH_done (by kernel_rfl) ?_ _
          exact HK2 _ _ _ _ _ _ _ _ _ _ _ _ HZ.out
      · skip
        rw [if_pos (by rfl)]
        refine wp_runTo (.pointer (some ⟨W0.heap.size, 0, none⟩)) (W0.alloc (.cells (rA kn0 fun _ => 0) 58)) (by kernel_rfl) ?_
        have hb : Below W0.heap.size W0 (W0.alloc (.cells (rA kn0 fun _ => 0) 58)) := below_al _
        have hs1 := HL0.out.s
        have HD1 : Hid (Rs (W0.alloc (.cells (rA kn0 fun _ => 0) 58)) W0.heap.size kn0 (fun _ => 0) ∧ w.heap.size + 2 ≤ W0.heap.size ∧ u5.ownBlock ≠ some W0.heap.size) := ⟨Rs.new _ _ _ _, hs1, HL0.out.own (Nat.le_refl _)⟩
        have HL1 : Hid _ := HL0.out.up hb
        clear HL0 hb hs1
        generalize W0.alloc (.cells (rA kn0 fun _ => 0) 58) = W1 at *
        generalize W0.heap.size = p8 at *
        refine hKK.out _ _ HL1.out (fun hHeld => ?_)
        clear hKK KK
        try simp only [Act.put, List.setIfInBounds_toArray, List.set_cons_zero, List.set_cons_succ, List.getElem_cons_zero, List.getElem_cons_succ, List.getElem_toArray]
        refine wpAnyH_ready (rs := [5, 9]) (by kernel_rfl) (by simp) ?_
        refine AllReadyH.cons rfl (fun KK hKK => ?_) (AllReadyH.cons rfl (fun KK hKK => ?_) AllReadyH.nil)
        · skip
          go_simp
          refine Calls.mono (HC.out _) ?_
          rintro e W2 ⟨rfl, hb⟩
          have HD2 : Hid (Rs W2 p8 kn0 (fun _ => 0) ∧ w.heap.size + 2 ≤ p8 ∧ u5.ownBlock ≠ some p8) := ⟨HD1.out.1.below hb, HD1.out.2⟩
          have HL2 : Hid _ := HL1.out.up hb
          clear HL1 hb HC HD1
          refine hKK.out _ _ HL2.out (fun hHeld => ?_)
          clear hKK KK
          try simp only [Act.put, List.setIfInBounds_toArray, List.set_cons_zero, List.set_cons_succ, List.getElem_cons_zero, List.getElem_cons_succ, List.getElem_toArray]
          refine wpAnyH_take (i := 6) (v := .tuple #[.agg #[.int .i8 yo, .int .u8 yd, .int .u8 ya, .int .u8 yb, .int .i64 yi], .agg (rA K9 M9)]) rfl (by kernel_rfl) (by kernel_rfl) (by kernel_rfl) (fun _ _ _ h => h) (Or.inl ⟨by rfl, fun w' hSw => by (clear hSw; go_simp)⟩) hHeld ?_
          simp only [Act.put, List.setIfInBounds_toArray, List.set_cons_zero, List.set_cons_succ, List.getElem_cons_zero, List.getElem_cons_succ, List.getElem_toArray]
          refine wpAnyH_take (i := 7) (v := .agg #[.int .i8 yo, .int .u8 yd, .int .u8 ya, .int .u8 yb, .int .i64 yi]) rfl (by kernel_rfl) (by kernel_rfl) (by kernel_rfl) (fun _ _ _ h => h) (Or.inl ⟨by rfl, fun w' hSw => by (clear hSw; go_simp)⟩) hHeld ?_
          simp only [Act.put, List.setIfInBounds_toArray, List.set_cons_zero, List.set_cons_succ, List.getElem_cons_zero, List.getElem_cons_succ, List.getElem_toArray]
          refine wpAnyH_take (i := 8) (v := .agg (rA K9 M9)) rfl (by kernel_rfl) (by kernel_rfl) (by kernel_rfl) (fun _ _ _ h => h) (Or.inl ⟨by rfl, fun w' hSw => by (clear hSw; go_simp)⟩) hHeld ?_
          simp only [Act.put, List.setIfInBounds_toArray, List.set_cons_zero, List.set_cons_succ, List.getElem_cons_zero, List.getElem_cons_succ, List.getElem_toArray]
          refine wpAnyH_ready (rs := [9]) (by kernel_rfl) (by simp) ?_
          refine AllReadyH.cons rfl (fun KK hKK => ?_) AllReadyH.nil
          rw [if_pos (by rfl)]
          refine wp_runTo (.pointer (some ⟨W2.heap.size, 0, none⟩)) (W2.alloc (.cells #[.int .i8 0, .int .u8 0, .int .u8 0, .int .u8 0, .int .i64 0] 51)) (by kernel_rfl) ?_
          have hb : Below W2.heap.size W2 (W2.alloc (.cells #[.int .i8 0, .int .u8 0, .int .u8 0, .int .u8 0, .int .i64 0] 51)) := below_al _
          have hs3 := HL2.out.s
          have HA3 : Hid (Op.At (W2.alloc (.cells #[.int .i8 0, .int .u8 0, .int .u8 0, .int .u8 0, .int .i64 0] 51)) W2.heap.size #[.int .i8 0, .int .u8 0, .int .u8 0, .int .u8 0, .int .i64 0] ∧ w.heap.size + 2 ≤ W2.heap.size ∧ u5.ownBlock ≠ some W2.heap.size) := ⟨Op.At.new _ _ _, hs3, HL2.out.own (Nat.le_refl _)⟩
          have HD3 : Hid (Rs (W2.alloc (.cells #[.int .i8 0, .int .u8 0, .int .u8 0, .int .u8 0, .int .i64 0] 51)) p8 kn0 (fun _ => 0) ∧ w.heap.size + 2 ≤ p8 ∧ u5.ownBlock ≠ some p8) := ⟨HD2.out.1.below hb, HD2.out.2⟩
          have hne : W2.heap.size ≠ p8 := fun q => by have := HD2.out.1.lt; omega
          have HL3 : Hid _ := HL2.out.up hb
          clear HL2 hb hs3 HD2
          generalize W2.alloc (.cells #[.int .i8 0, .int .u8 0, .int .u8 0, .int .u8 0, .int .i64 0] 51) = W3 at *
          generalize W2.heap.size = p7 at *
          refine hKK.out _ _ HL3.out (fun hHeld => ?_)
          clear hKK KK
          try simp only [Act.put, List.setIfInBounds_toArray, List.set_cons_zero, List.set_cons_succ, List.getElem_cons_zero, List.getElem_cons_succ, List.getElem_toArray]
          refine wpAnyH_ready (rs := [11]) (by kernel_rfl) (by simp) ?_
          refine AllReadyH.cons rfl (fun KK hKK => ?_) AllReadyH.nil
          obtain ⟨t0, t1, t2, t3, t4⟩ := HA3.out.1.o5
          have f0 := HA3.out.1.f 0; have f1 := HA3.out.1.f 1; have f2 := HA3.out.1.f 2; have f3 := HA3.out.1.f 3; have f4 := HA3.out.1.f 4
          go_simp
          obtain ⟨ha5, hf5⟩ := at_put5 HA3.out.1 (.int .i8 yo) (.int .u8 yd) (.int .u8 ya) (.int .u8 yb) (.int .i64 yi)
          have HLa : Hid _ := HL3.out.far hf5 HA3.out.2.1 HA3.out.2.2
          have HDa : Hid _ := HD3.out.1.fr hf5 (fun q => hne (show p8 = p7 from q).symm)
          have HAa : Hid _ := ha5
          have HP : Hid (w.heap.size + 2 ≤ p7 ∧ w.heap.size + 2 ≤ p8 ∧ u5.ownBlock ≠ some p7 ∧ u5.ownBlock ≠ some p8 ∧ p7 ≠ p8) := ⟨HA3.out.2.1, HD3.out.2.1, HA3.out.2.2, HD3.out.2.2, hne⟩
          clear t0 t1 t2 t3 t4 f0 f1 f2 f3 f4 ha5 hf5 HL3 HA3 HD3 hne
          generalize (((((W3.setCell ⟨p7, 0, none⟩ (.int .i8 yo)).setCell ⟨p7, 1, none⟩ (.int .u8 yd)).setCell ⟨p7, 2, none⟩ (.int .u8 ya)).setCell ⟨p7, 3, none⟩ (.int .u8 yb)).setCell ⟨p7, 4, none⟩ (.int .i64 yi)) = Wa at *
          refine hKK.out _ _ HLa.out (fun hHeld => ?_)
          clear hKK KK
          refine wpAnyH_ready (rs := [12]) (by kernel_rfl) (by simp) ?_
          refine AllReadyH.cons rfl (fun KK hKK => ?_) AllReadyH.nil
          rw [if_pos (by rfl)]
          refine wp_store_mid 58 (.tmp 8) (.tmp 23) rfl p8 0 (rA K9 M9) rfl rfl (by rw [rA_size]; exact rs_there HDa.out) (by rw [rA_size]; exact info58) (rA_one K9 M9) ?_
          have hF8 : Fr (One p8) Wa (Wa.setCells p8 0 (rA K9 M9).toList) := fr_setCells (X := One p8) rfl _ _ (Fr.refl _ _)
          have HZ : Hid (Lt w (Wa.setCells p8 0 (rA K9 M9).toList) xs k K M u5 p7 p8 ⟨yo, yd, ya, yb, yi⟩ K9 M9) := ⟨HLa.out.far hF8 HP.out.2.1 HP.out.2.2.2.1, at_fr HAa.out hF8 (fun q => HP.out.2.2.2.2 q), rs_laid HDa.out, HP.out.1, HP.out.2.1, HP.out.2.2.1, HP.out.2.2.2.1⟩
          clear HLa HDa HAa HP hF8
          refine hKK.out _ _ HZ.out.l (fun hHeld => ?_)
          clear hKK KK
          refine wpAnyH_done (by kernel_rfl) ?_ _
          exact HK2 _ _ _ _ _ _ _ _ _ _ _ _ HZ.out
        · skip
          rw [if_pos (by rfl)]
          refine wp_runTo (.pointer (some ⟨W1.heap.size, 0, none⟩)) (W1.alloc (.cells #[.int .i8 0, .int .u8 0, .int .u8 0, .int .u8 0, .int .i64 0] 51)) (by kernel_rfl) ?_
          have hb : Below W1.heap.size W1 (W1.alloc (.cells #[.int .i8 0, .int .u8 0, .int .u8 0, .int .u8 0, .int .i64 0] 51)) := below_al _
          have hs2 := HL1.out.s
          have HA2 : Hid (Op.At (W1.alloc (.cells #[.int .i8 0, .int .u8 0, .int .u8 0, .int .u8 0, .int .i64 0] 51)) W1.heap.size #[.int .i8 0, .int .u8 0, .int .u8 0, .int .u8 0, .int .i64 0] ∧ w.heap.size + 2 ≤ W1.heap.size ∧ u5.ownBlock ≠ some W1.heap.size) := ⟨Op.At.new _ _ _, hs2, HL1.out.own (Nat.le_refl _)⟩
          have HD2 : Hid (Rs (W1.alloc (.cells #[.int .i8 0, .int .u8 0, .int .u8 0, .int .u8 0, .int .i64 0] 51)) p8 kn0 (fun _ => 0) ∧ w.heap.size + 2 ≤ p8 ∧ u5.ownBlock ≠ some p8) := ⟨HD1.out.1.below hb, HD1.out.2⟩
          have hne : W1.heap.size ≠ p8 := fun q => by have := HD1.out.1.lt; omega
          have HL2 : Hid _ := HL1.out.up hb
          clear HL1 hb hs2 HD1
          generalize W1.alloc (.cells #[.int .i8 0, .int .u8 0, .int .u8 0, .int .u8 0, .int .i64 0] 51) = W2 at *
          generalize W1.heap.size = p7 at *
          refine hKK.out _ _ HL2.out (fun hHeld => ?_)
          clear hKK KK
          try simp only [Act.put, List.setIfInBounds_toArray, List.set_cons_zero, List.set_cons_succ, List.getElem_cons_zero, List.getElem_cons_succ, List.getElem_toArray]
          refine wpAnyH_ready (rs := [5]) (by kernel_rfl) (by simp) ?_
          refine AllReadyH.cons rfl (fun KK hKK => ?_) AllReadyH.nil
          go_simp
          refine Calls.mono (HC.out _) ?_
          rintro e W3 ⟨rfl, hb⟩
          have HA3 : Hid (Op.At W3 p7 #[.int .i8 0, .int .u8 0, .int .u8 0, .int .u8 0, .int .i64 0] ∧ w.heap.size + 2 ≤ p7 ∧ u5.ownBlock ≠ some p7) := ⟨HA2.out.1.below hb HA2.out.1.lt, HA2.out.2⟩
          have HD3 : Hid (Rs W3 p8 kn0 (fun _ => 0) ∧ w.heap.size + 2 ≤ p8 ∧ u5.ownBlock ≠ some p8) := ⟨HD2.out.1.below hb, HD2.out.2⟩
          have HL3 : Hid _ := HL2.out.up hb
          clear HL2 hb HC HA2 HD2
          refine hKK.out _ _ HL3.out (fun hHeld => ?_)
          clear hKK KK
          try simp only [Act.put, List.setIfInBounds_toArray, List.set_cons_zero, List.set_cons_succ, List.getElem_cons_zero, List.getElem_cons_succ, List.getElem_toArray]
          refine wpAnyH_take (i := 6) (v := .tuple #[.agg #[.int .i8 yo, .int .u8 yd, .int .u8 ya, .int .u8 yb, .int .i64 yi], .agg (rA K9 M9)]) rfl (by kernel_rfl) (by kernel_rfl) (by kernel_rfl) (fun _ _ _ h => h) (Or.inl ⟨by rfl, fun w' hSw => by (clear hSw; go_simp)⟩) hHeld ?_
          simp only [Act.put, List.setIfInBounds_toArray, List.set_cons_zero, List.set_cons_succ, List.getElem_cons_zero, List.getElem_cons_succ, List.getElem_toArray]
          refine wpAnyH_take (i := 7) (v := .agg #[.int .i8 yo, .int .u8 yd, .int .u8 ya, .int .u8 yb, .int .i64 yi]) rfl (by kernel_rfl) (by kernel_rfl) (by kernel_rfl) (fun _ _ _ h => h) (Or.inl ⟨by rfl, fun w' hSw => by (clear hSw; go_simp)⟩) hHeld ?_
          simp only [Act.put, List.setIfInBounds_toArray, List.set_cons_zero, List.set_cons_succ, List.getElem_cons_zero, List.getElem_cons_succ, List.getElem_toArray]
          refine wpAnyH_take (i := 8) (v := .agg (rA K9 M9)) rfl (by kernel_rfl) (by kernel_rfl) (by kernel_rfl) (fun _ _ _ h => h) (Or.inl ⟨by rfl, fun w' hSw => by (clear hSw; go_simp)⟩) hHeld ?_
          simp only [Act.put, List.setIfInBounds_toArray, List.set_cons_zero, List.set_cons_succ, List.getElem_cons_zero, List.getElem_cons_succ, List.getElem_toArray]
          refine wpAnyH_ready (rs := [11]) (by kernel_rfl) (by simp) ?_
          refine AllReadyH.cons rfl (fun KK hKK => ?_) AllReadyH.nil
          obtain ⟨t0, t1, t2, t3, t4⟩ := HA3.out.1.o5
          have f0 := HA3.out.1.f 0; have f1 := HA3.out.1.f 1; have f2 := HA3.out.1.f 2; have f3 := HA3.out.1.f 3; have f4 := HA3.out.1.f 4
          go_simp
          obtain ⟨ha5, hf5⟩ := at_put5 HA3.out.1 (.int .i8 yo) (.int .u8 yd) (.int .u8 ya) (.int .u8 yb) (.int .i64 yi)
          have HLa : Hid _ := HL3.out.far hf5 HA3.out.2.1 HA3.out.2.2
          have HDa : Hid _ := HD3.out.1.fr hf5 (fun q => hne (show p8 = p7 from q).symm)
          have HAa : Hid _ := ha5
          have HP : Hid (w.heap.size + 2 ≤ p7 ∧ w.heap.size + 2 ≤ p8 ∧ u5.ownBlock ≠ some p7 ∧ u5.ownBlock ≠ some p8 ∧ p7 ≠ p8) := ⟨HA3.out.2.1, HD3.out.2.1, HA3.out.2.2, HD3.out.2.2, hne⟩
          clear t0 t1 t2 t3 t4 f0 f1 f2 f3 f4 ha5 hf5 HL3 HA3 HD3 hne
          generalize (((((W3.setCell ⟨p7, 0, none⟩ (.int .i8 yo)).setCell ⟨p7, 1, none⟩ (.int .u8 yd)).setCell ⟨p7, 2, none⟩ (.int .u8 ya)).setCell ⟨p7, 3, none⟩ (.int .u8 yb)).setCell ⟨p7, 4, none⟩ (.int .i64 yi)) = Wa at *
          refine hKK.out _ _ HLa.out (fun hHeld => ?_)
          clear hKK KK
          refine wpAnyH_ready (rs := [12]) (by kernel_rfl) (by simp) ?_
          refine AllReadyH.cons rfl (fun KK hKK => ?_) AllReadyH.nil
          rw [if_pos (by rfl)]
          refine wp_store_mid 58 (.tmp 8) (.tmp 23) rfl p8 0 (rA K9 M9) rfl rfl (by rw [rA_size]; exact rs_there HDa.out) (by rw [rA_size]; exact info58) (rA_one K9 M9) ?_
          have hF8 : Fr (One p8) Wa (Wa.setCells p8 0 (rA K9 M9).toList) := fr_setCells (X := One p8) rfl _ _ (Fr.refl _ _)
          have HZ : Hid (Lt w (Wa.setCells p8 0 (rA K9 M9).toList) xs k K M u5 p7 p8 ⟨yo, yd, ya, yb, yi⟩ K9 M9) := ⟨HLa.out.far hF8 HP.out.2.1 HP.out.2.2.2.1, at_fr HAa.out hF8 (fun q => HP.out.2.2.2.2 q), rs_laid HDa.out, HP.out.1, HP.out.2.1, HP.out.2.2.1, HP.out.2.2.2.1⟩
          clear HLa HDa HAa HP hF8
          refine hKK.out _ _ HZ.out.l (fun hHeld => ?_)
          clear hKK KK
          refine wpAnyH_done (by kernel_rfl) ?_ _
          exact HK2 _ _ _ _ _ _ _ _ _ _ _ _ HZ.out
    · obtain rfl : k = xs.length := by omega
      have HL2 : Hid (Ls w wr xs xs.length (fdK kn0 xs) M u5 ∧ Say (fdK kn0 xs) M) := by
        have h1 := HL.out
        rw [List.take_length] at h1 hsay
        exact ⟨h1, hsay⟩
      clear HL hsay
      generalize hKK : fdK kn0 xs = K at *
      go_upto_region 9 with fail
      have HDd := HL2.out.1.up (Below.refl _ _).drew
      refine wp_region_held_drew (S := fun W' => Rs W' (w.heap.size + 1) K M) (by kernel_rfl) HDd.kr (fun hHeld => ?_)
      have HX : Hid _ := HDd
      clear HDd
      generalize wr.drew = XD at *
      refine wpAnyH_take (i := 0) (v := u5) rfl (by kernel_rfl) (by kernel_rfl) (by kernel_rfl) (fun _ _ _ h => h) (Or.inl ⟨by rfl, fun w' hSw => by (clear hSw; go_simp)⟩) hHeld ?_
      simp only [Act.put, List.setIfInBounds_toArray, List.set_cons_zero, List.set_cons_succ, List.getElem_cons_zero, List.getElem_toArray]
      refine wpAnyH_take (i := 1) (v := .agg (rA K M).toList.toArray) rfl (by kernel_rfl) (by kernel_rfl) (by kernel_rfl) (fun _ _ _ h => h) (yieldsIf_load_mid (by rfl) 58 (.tmp 4) rfl (w.heap.size + 1) 0 rfl (rA K M).toList _ (fun w' hSw => rs_range hSw) Tryz.underlying58 rfl (by rw [rA_len]; exact info58)) hHeld ?_
      simp only [Act.put, List.setIfInBounds_toArray, List.set_cons_zero, List.set_cons_succ, List.getElem_cons_zero, List.getElem_cons_succ, List.getElem_toArray]
      refine wpAnyH_ready (rs := [2]) (by kernel_rfl) (by simp) ?_
      refine AllReadyH.cons rfl (fun KK hKK => ?_) AllReadyH.nil
      go_simp
      refine hKK.out _ _ HX.out.kr (fun hHeld => ?_)
      clear hKK KK
      refine wpAnyH_ready (rs := [3]) (by kernel_rfl) (by simp) ?_
      refine AllReadyH.cons rfl (fun KK hKK => ?_) AllReadyH.nil
      rw [if_pos (by rfl)]
      have HX2 := HX.out
      refine wp_store_mid 58 (.tmp 3) (.tmp 30) rfl w.heap.size 0 (rA K M) rfl rfl (by rw [rA_size]; exact rs_there HX2.q) (by rw [rA_size]; exact info58) (rA_one K M) ?_
      obtain ⟨hb9, hr9, ho9⟩ := HX2.laid
      have hl9 := run_loadVar_mid (P := Tryz.prog) _ w.heap.size 0 58 (rA K M).toList _ (rs_range hr9) Tryz.underlying58 rfl (by rw [rA_len]; exact info58)
      rw [Array.toArray_toList] at hl9
      have hF : Fr (One w.heap.size) XD (XD.setCells w.heap.size 0 (rA K M).toList) := fr_setCells (X := One w.heap.size) rfl _ _ (Fr.refl _ _)
      have hk9 := HX2.kr.fr hF (fun q => by have q : w.heap.size + 1 = w.heap.size := q; omega)
      have HZ : Hid (xs.length = xs.length ∧ Below w.heap.size w (XD.setCells w.heap.size 0 (rA K M).toList) ∧ (XD.setCells w.heap.size 0 (rA K M).toList).ownsRow w.heap.size 51 5 u5 xs.length (ocells (fdL kn0 xs))) := ⟨rfl, hb9, ho9⟩
      clear HX HX2 hb9 hr9 ho9 hF
      refine hKK.out _ _ hk9 (fun hHeld => ?_)
      clear hKK KK
      refine wpAnyH_done (by kernel_rfl) ?_ _
      have hK9 := ‹∀ (a : Act) (w : World), Code.wp Tryz.prog Code.ret _ a w → _›
      refine hK9 _ _ ?_
      refine wp_ret ?_
      have HS9 := HL2.out.2
      subst hKK
      refine bodyPost_ret (v := .tuple #[u5, .agg (rA (fdK kn0 xs) M)]) (by simp [results, Tryz.results23, asAddr, Act.put, hl9]) rfl ⟨u5, M, rfl, HZ.out.2.2, HS9, HZ.out.2.1⟩
end Go.Proofs.YtddcndlogoajkaaGreatDoor.L8.Bt
