/- The document's reader: what ops answers: read off the program by the walk. Conditions: the reader and the lines lie in memory. -/
import Derived.Test.YthfchelkfbboaaaGreatDoorDf
import Derived.Test.YthfchelkfbboaaaGreatDoorDo
namespace Go.Proofs.YthfchelkfbboaaaGreatDoor.Pr
open Go.ChangeShapes Go.WideShapes Go.ChangeAt Go.RowKit
open _root_.Go.Proofs.YthfchelkfbboaaaGreatDoor.Op
set_option maxRecDepth 20000

/-- Lines of operations, and the number of the line behind them. -/
def opsD : List Ln → Nat → R (List O × Nat)
  | [], n => .ok ([], n)
  | l :: t, n => match shapeOf (firstL l) with
    | none => .ok ([], n)
    | some sh => match kindL[sh.1]? with
      | none => .ok ([], n)
      | some k => (opAt sh.1 k l).bind fun o => (opsD t (n + 1)).bind fun x => .ok (o :: x.1, x.2)
def leftD (w : World) (r L : Nat) : Nat := L - (match w.cell? ⟨r, 1, none⟩ with | some (.int _ n) => n.toNat | _ => 0)
theorem Dr.left {V : World} {r : Nat} {lv : Value} {nx m : Nat} {fl : Option Wd'} (h : Dr V r lv nx m fl) (L : Nat) : leftD V r L = L - nx := by
  have h1 := h.a.c 1 _ rfl
  unfold leftD
  rw [h1]
  simp
/-- Operations that are read. -/
structure Ds (w V : World) (r : Nat) (la : Option Addr) (lc m : Nat) (ls : List Ln) (ps : List Pw) (n : Nat) (fl : Option Wd') (v : Value) (acc : List O) : Prop where
  d : Dr V r (.slice la ls.length lc) n m fl
  l : DL V r la ls ps
  row : V.ownsRow w.heap.size 67 5 v acc.length (ocells acc)
  f : Fr (One r) w V
  r1 : r < w.heap.size
/-- What stands behind a round. -/
def Beh (RES : R (List O × Nat)) (ls : List Ln) (n : Nat) (fl : Option Wd') (acc : List O) : Prop := match fl with
  | some f => RES = .no f
  | none => RES = (opsD (ls.drop n) n).bind fun x => .ok (acc ++ x.1, x.2)
theorem firstL_zero (l : Ln) (h : 0 < l.ws.length) : firstL l = l.ws[0].2 := by
  obtain ⟨ws, en⟩ := l
  cases ws with
  | nil => simp at h
  | cons x t => rfl
theorem shape_is {s : List UInt8} {sh : Nat × Nat} (h : shapeOf s = some sh) : ∃ k, 1 ≤ sh.1 ∧ sh.1 ≤ 17 ∧ kindL[sh.1]? = some k := by
  unfold shapeOf at h
  obtain ⟨y, hy, rfl⟩ := Option.map_eq_some_iff.1 h
  have hm := List.mem_of_find?_eq_some hy
  obtain ⟨j, hj, rfl⟩ := List.getElem_of_mem hm
  have hl : shapeL.length = 17 := rfl
  obtain ⟨k, h1, h2⟩ := shape_kind j (by omega)
  rw [List.getElem?_eq_getElem hj] at h2
  injection h2 with h2
  rw [h2]
  exact ⟨k, by simp, by simp; omega, h1⟩
theorem Ds.below {w V V' : World} {r : Nat} {la : Option Addr} {lc m : Nat} {ls : List Ln} {ps : List Pw} {n : Nat} {fl : Option Wd'} {v : Value} {acc : List O} (h : Ds w V r la lc m ls ps n fl v acc) (hb : Below V.heap.size V V') : Ds w V' r la lc m ls ps n fl v acc :=
  ⟨h.d.below hb, h.l.fr (Fr.of hb) h.d.lt, row_below h.row hb, h.f.then hb, h.r1⟩
theorem Ds.go {w V V' : World} {r : Nat} {la : Option Addr} {lc m : Nat} {ls : List Ln} {ps : List Pw} {n n' : Nat} {fl fl' : Option Wd'} {v : Value} {acc : List O} (h : Ds w V r la lc m ls ps n fl v acc) (hd : Dr V' r (.slice la ls.length lc) n' m fl') (hf : Fr (One r) V V') : Ds w V' r la lc m ls ps n' fl' v acc :=
  ⟨hd, h.l.fr hf h.d.lt, row_old h.row hf h.r1, h.f.same hf, h.r1⟩
theorem Ds.next {w V : World} {r : Nat} {la : Option Addr} {lc m : Nat} {ls : List Ln} {ps : List Pw} {n : Nat} {v : Value} {acc : List O} (h : Ds w V r la lc m ls ps n none v acc) : Ds w (V.setCell ⟨r, 1, none⟩ (.int .i64 ((n : Int) + 1))) r la lc m ls ps (n + 1) none v acc :=
  h.go ⟨at_set h.d.a (j := 1) (by simp) (.int .i64 ((n : Int) + 1))⟩ ((Fr.refl (One r) V).setCell (.inr rfl) _ _)
theorem DW.frX {X : Nat → Prop} {V V' : World} {r : Nat} {p : Pw} {ws : List Wd'} (h : DW V r p ws) (g : Fr X V V') (hr : r < V.heap.size) (hX : ∀ q, q < r → ¬ X q) : DW V' r p ws := by
  refine ⟨h.len, fun j hj => ?_⟩
  obtain ⟨b, e, z, h1, h2⟩ := h.is j hj
  exact ⟨b, e, z, by rw [g.cell (by omega) (hX b z)]; exact h1, by rw [g.cell (by omega) (hX b z)]; exact h2⟩
theorem DL.frX {X : Nat → Prop} {V V' : World} {r : Nat} {la : Option Addr} {ls : List Ln} {ps : List Pw} (h : DL V r la ls ps) (g : Fr X V V') (hr : r < V.heap.size) (hX : ∀ q, q < r → ¬ X q) : DL V' r la ls ps := by
  refine ⟨h.len, h.n, h.ne, h.sh, fun i hi hi' => ?_⟩
  obtain ⟨b, e, z, h1, h2, h3⟩ := h.is i hi hi'
  exact ⟨b, e, z, by rw [g.cell (by omega) (hX b z)]; exact h1, by rw [g.cell (by omega) (hX b z)]; exact h2, h3.frX g hr hX⟩
theorem ocells_snoc (xs : List O) (o : O) : ocells (xs ++ [o]) = ocells xs ++ [.int .i8 o.op, .int .u8 o.d, .int .u8 o.a, .int .u8 o.b, .int .i64 o.im] := by simp [ocells]
theorem Ds.put {w V V' : World} {r : Nat} {la : Option Addr} {lc m : Nat} {ls : List Ln} {ps : List Pw} {n : Nat} {fl : Option Wd'} {v v' : Value} {acc : List O} {o : O} {ob : Obj} (h : Ds w V r la lc m ls ps n fl v acc) (hown : V'.ownsRow w.heap.size 67 5 v' (acc.length + 1) (ocells acc ++ [.int .i8 o.op, .int .u8 o.d, .int .u8 o.a, .int .u8 o.b, .int .i64 o.im])) (hg : (V.alloc ob).grownBy V' v.ownBlock) : Ds w V' r la lc m ls ps n fl v' (acc ++ [o]) := by
  have hsz := h.f.size
  have h1 := h.r1
  have hb : Below w.heap.size V V' := ((Below.refl _ _).alloc hsz _).grown hg (by simp; omega) fun b hb => (h.row.lt b hb).1
  have hF : Fr (fun k => w.heap.size ≤ k) V V' := ⟨hb.os, hb.tape, hb.output, hb.size, fun k hk hx => hb.block k (by omega)⟩
  refine ⟨⟨h.d.a.below hb h1⟩, h.l.frX hF h.d.lt (fun q hq => by omega), ?_, h.f.trans hF (fun k hk hy => by omega), h1⟩
  rw [ocells_snoc, List.length_append]
  exact hown
theorem box_drew {V w2 : World} {cs : Array Value} {t : TypeId} (hb : Below (V.alloc (.cells cs t)).drew.heap.size (V.alloc (.cells cs t)).drew w2) : At w2 V.heap.size cs := by
  have h := (At.new V cs t).below ((Below.refl _ _).drew : Below (V.alloc (.cells cs t)).heap.size (V.alloc (.cells cs t)) (V.alloc (.cells cs t)).drew) (At.new V cs t).lt
  exact h.below hb h.lt
theorem beh_next {RES : R (List O × Nat)} {ls : List Ln} {n : Nat} {acc : List O} {OR : R O} {o : O} (h : RES = (OR.bind fun o => (opsD (ls.drop (n + 1)) (n + 1)).bind fun x => .ok (o :: x.1, x.2)).bind fun x => .ok (acc ++ x.1, x.2)) (ho : ∀ o0, OR = .ok o0 → o = o0) : Beh RES ls (n + 1) (stF OR) (acc ++ [o]) := by
  cases OR with
  | no f => exact h
  | ok a =>
    have := ho a rfl
    subst this
    show RES = _
    rw [h]
    simp only [R.bind]
    cases opsD (ls.drop (n + 1)) (n + 1) with
    | no f => rfl
    | ok x => simp
set_option maxHeartbeats 4000000 in
theorem dops_any (r : Nat) (la : Option Addr) (ls : List Ln) (ps : List Pw) (lc nx m : Nat) (fl : Option Wd') (w : World) (h : Dr w r (.slice la ls.length lc) nx m fl) (hl : DL w r la ls ps) (hn : nx ≤ ls.length) :
    Calls Tryz.prog 31 #[.pointer (some ⟨r, 0, none⟩)] w fun e w' => ∃ v os n, e = .returned v ∧ Ds w w' r la lc m ls ps n (stF (guardR fl (opsD (ls.drop nx) nx))) v os ∧ n ≤ ls.length ∧ ∀ x, guardR fl (opsD (ls.drop nx) nx) = .ok x → os = x.1 ∧ n = x.2 := by
  have HS : Hid (Ds w w r la lc m ls ps nx fl (.slice none 0 0) []) := ⟨h, hl, World.ownsRow_nil _ _ _ _, Fr.refl _ _, h.lt⟩
  have HL : Hid (ls.length ≤ 65537) := hl.n
  have HB0 : Hid (Beh (guardR fl (opsD (ls.drop nx) nx)) ls nx fl []) := by
    cases fl with
    | some f => exact (rfl : _ = _)
    | none => show _ = _; simp only [guardR, List.nil_append]; cases opsD (ls.drop nx) nx <;> rfl
  generalize guardR fl (opsD (ls.drop nx) nx) = RES at *
  obtain ⟨i0, hi, hi2⟩ := Option.map_eq_some_iff.1 info67
  simp only [Prod.mk.injEq] at hi2
  obtain ⟨hz0, hz1, hz2⟩ := hi2
  have HI : Hid (Tryz.prog.info? 67 = some i0 ∧ i0.zero = some (.agg #[.int .i8 0, .int .u8 0, .int .u8 0, .int .u8 0, .int .i64 0]) ∧ i0.size = 5 ∧ i0.bytes = 16) := ⟨hi, hz0, hz1, hz2⟩
  clear hi hz0 hz1 hz2
  clear h hl
  go_enter Tryz.func31, Tryz.ntmps31
  go_wp2
  go_loopw [3] (fun v wr => ∃ (n : Nat) (acc : List O) (fl' : Option Wd'), n ≤ ls.length ∧ acc.length ≤ n ∧ Ds w wr r la lc m ls ps n fl' v acc ∧ Hid (Beh RES ls n fl' acc)) (fun _ wr => leftD wr r ls.length)
  case atStart => exact ⟨nx, [], fl, hn, by simp, HS.out, HB0⟩
  case round =>
    rename World => wr
    clear HS HB0
    obtain ⟨n, acc, fl', hn', hac, hs, HB⟩ := hrel
    have c0 := hs.d.a.c 0 _ rfl
    have c1 := hs.d.a.c 1 _ rfl
    have c3 := hs.d.a.c 3 _ rfl
    have HD : Hid _ := hs
    cases fl' with
    | some f =>
      simp only at c3
      have hR : RES = .no f := HB.out
      subst hR
      clear hs
      go_wp2
      go_quiet (fail)
      go_wp2
      go_ret
      have hx := HD.out
      have hbq : Below wr.heap.size wr (wr.drewN nq) := drewN_below (Below.refl _ _) nq
      exact ⟨_, acc, n, rfl, ⟨hx.d.below hbq, hx.l.fr (Fr.of hbq) hx.d.lt, row_below hx.row hbq, hx.f.then hbq, hx.r1⟩, hn', fun x h => by cases h⟩
    | none =>
      simp only at c3
      by_cases hlt : n < ls.length
      · have hlt' : n < ps.length := by rw [hs.l.len]; exact hlt
        obtain ⟨g, hla, hg, k0, k1, hw⟩ := hs.l.is n hlt hlt'
        have hne := hs.l.ne ls[n] (List.getElem_mem hlt)
        have hsh := hs.l.sh ls[n] (List.getElem_mem hlt)
        have hpos : 0 < ls[n].ws.length := List.length_pos_iff.2 hne
        obtain ⟨b, hpb, hb, w0, w1⟩ := hw.is 0 hpos
        have HZ : Hid (∀ V, Fr (One r) wr V → V.cell? ⟨g, n * 2, none⟩ = some (.slice (some ⟨b, 0, none⟩) ls[n].ws.length ps[n].2) ∧ V.cell? ⟨g, n * 2 + 1, none⟩ = some (.int .i64 (ls[n].en : Int)) ∧ V.cell? ⟨b, 0, none⟩ = some (.string ⟨ls[n].ws[0].2.toArray⟩)) := fun V hf => by
          have hz := hs.d.lt
          have k : ∀ q j, q < r → V.cell? ⟨q, j, none⟩ = wr.cell? ⟨q, j, none⟩ := fun q j hq => hf.cell (by omega) (by show ¬ _ = _; omega) j
          rw [hpb] at k0
          exact ⟨by rw [k _ _ hg]; exact k0, by rw [k _ _ hg]; exact k1, by rw [k _ _ hb]; exact w0⟩
        subst hla
        clear hs k0 k1 hw w0 w1
        go_wp2
        go_quiet (fail)
        go_wp2
        have hx := HD.out.below (drewN_below (Below.refl _ _) nq)
        have hq := HZ.out (wr.drewN nq) (Fr.of (drewN_below (Below.refl _ _) nq))
        have hrt := HD.out.r1
        have HWL : Hid (leftD wr r ls.length = ls.length - n) := HD.out.d.left _
        clear c0 c1 c3 HZ HD
        generalize wr.drewN nq = V at *
        obtain ⟨q0, q1, q2⟩ := hq
        have l0 := hx.d.a.c 0 _ rfl
        have l1 := hx.d.a.c 1 _ rfl
        have lf := hx.d.a.f
        have zr := hx.d.lt
        have zg : g < V.heap.size := by omega
        have zb : b < V.heap.size := by omega
        have HX : Hid _ := hx
        clear hx
        have hfl : firstL ls[n] = ls[n].ws[0].2 := firstL_zero ls[n] hpos
        have hst : opsD (ls.drop n) n = match shapeOf (firstL ls[n]) with
            | none => .ok ([], n)
            | some sh => match kindL[sh.1]? with
              | none => .ok ([], n)
              | some k => (opAt sh.1 k ls[n]).bind fun o => (opsD (ls.drop (n + 1)) (n + 1)).bind fun x => .ok (o :: x.1, x.2) := by rw [List.drop_eq_getElem_cons hlt]; rfl
        have HB' : RES = (opsD (ls.drop n) n).bind fun x => .ok (acc ++ x.1, x.2) := HB.out
        rw [hst, hfl] at HB'
        clear hst HB
        have hkd := kind_doc ls[n].ws[0].2
        cases hsp : shapeOf ls[n].ws[0].2 with
        | none =>
          rw [show kindD ls[n].ws[0].2 = (0, false) by unfold kindD; rw [hsp]] at hkd
          have HK : Hid _ := hkd
          rw [hsp] at HB'
          have hR : RES = .ok (acc, n) := by rw [HB']; show R.ok (acc ++ [], n) = _; rw [List.append_nil]
          subst hR
          clear hkd hsp hfl HB' hpb hsh hne
          generalize ls[n].ws[0] = x at *
          generalize ls[n].ws.length = wl at *
          generalize ls[n].en = en at *
          generalize ps[n].2 = pc at *
          go_region
          go_wp2_with (first | (go_at_call 50; refine Calls.mono (HK.out _) ?_; rintro e w2 ⟨rfl, hb2⟩; have HY : Hid _ := (HX.out.below (((Below.refl _ _).alloc (Nat.le_refl _) (.cells #[.slice (some ⟨b, 0, none⟩) wl pc, .int .i64 (en : Int)] 45)).drew)).below hb2; clear hb2 HK))
          go_ret
          exact ⟨_, acc, n, rfl, HY.out, by omega, fun x h => by cases h; exact ⟨rfl, rfl⟩⟩
        | some sh =>
          obtain ⟨k, h1, h2, hk⟩ := shape_is hsp
          rw [show kindD ls[n].ws[0].2 = ((sh.1 : Int), true) by unfold kindD; rw [hsp]] at hkd
          have HK : Hid _ := hkd
          rw [hsp] at HB'
          simp only [hk] at HB'
          have HOp : Hid (∀ W, Dr W r (.slice (some ⟨g, 0, none⟩) ls.length lc) (n + 1) m none → DL W r (some ⟨g, 0, none⟩) ls ps → Calls Tryz.prog 51 #[.pointer (some ⟨r, 0, none⟩), .agg #[.slice (some ⟨b, 0, none⟩) ls[n].ws.length ps[n].2, .int .i64 (ls[n].en : Int)], .int .i8 (sh.1 : Int)] W (OpPost r (.slice (some ⟨g, 0, none⟩) ls.length lc) (n + 1) m (opAt sh.1 k ls[n]) W)) := fun W hd hl => by
            obtain ⟨_, _, _, _, _, hw⟩ := hl.is n hlt hlt'
            have h := dop_any r ps[n] ls[n] _ (n + 1) m none sh.1 k W hd hw hsh h1 h2 hk
            rw [hpb] at h
            exact h
          have HBn : Hid (∀ o, (∀ o0, opAt sh.1 k ls[n] = .ok o0 → o = o0) → Beh RES ls (n + 1) (stF (opAt sh.1 k ls[n])) (acc ++ [o])) := fun o ho => beh_next HB' ho
          have hl65 := HL.out
          have HLt : Hid _ := hlt
          clear hkd hsp hfl HB' hpb hsh hne hk
          generalize opAt (sh.1 : Int) k ls[n] = OR at *
          generalize ls[n].ws[0] = x at *
          generalize ls[n].ws.length = wl at *
          generalize ls[n].en = en at *
          generalize ps[n].2 = pc at *
          generalize hd0 : (sh.1 : Int) = d at *
          go_region
          go_wp2_with (first
            | (go_at_call 50; refine Calls.mono (HK.out _) ?_; rintro e w2 ⟨rfl, hb2⟩; have HY : Hid _ := (HX.out.below (((Below.refl _ _).alloc (Nat.le_refl _) (.cells #[.slice (some ⟨b, 0, none⟩) wl pc, .int .i64 (en : Int)] 45)).drew)).below hb2; have bx := box_drew hb2; have HBX : Hid _ := bx; have y0 := bx.c 0 _ rfl; have y1 := bx.c 1 _ rfl; have r0 := HY.out.d.a.c 1 _ rfl; have rf := HY.out.d.a.f; clear hb2 HK bx)
            | (go_at_call 51; refine Calls.mono (HOp.out _ HY.out.next.d HY.out.next.l) ?_; rintro e w3 ⟨o, rfl, ho, hd, hf⟩; have HM : Hid _ := HY.out.next.go hd hf; have HO : Hid _ := ho; clear hd hf ho HOp)
            | (at_builtin; refine wpList_append_lies _ rfl _ _ 57 rfl w.heap.size 67 i0 (.agg #[.int .i8 0, .int .u8 0, .int .u8 0, .int .u8 0, .int .i64 0]) 5 16 Tryz.underlying57 HI.out.1 HI.out.2.1 HI.out.2.2.1 HI.out.2.2.2 rfl (by decide) _ _ _ rfl (HM.out.row.alloc _) ⟨w3.heap.size, 0, none⟩ 1 1 [.int .i8 o.op, .int .u8 o.d, .int .u8 o.a, .int .u8 o.b, .int .i64 o.im] rfl rfl (World.news_of_block (heap_alloc_new w3 _)) (by simp [Value.oneCell']) (by decide) (by unfold maxLen; omega) (by omega) (by have := HM.out.f.size; simp; omega) (w3.heap.size + 1) (by simp) ?_; intro g' cap w4 hown1 hgrow hat hlt3; have HP : Hid _ := HM.out.put hown1 hgrow; clear hown1 hgrow hat hlt3))
          go_roundw
          case rel => exact ⟨n + 1, acc ++ [o], stF OR, by have := HLt.out; omega, by simp; omega, HP.out, HBn.out o HO.out⟩
          case measure =>
            have h1 := HLt.out
            show leftD _ r ls.length < leftD wr r ls.length
            rw [HP.out.d.left, HWL.out]
            omega
      · obtain rfl : n = ls.length := by omega
        have hR : RES = .ok (acc, ls.length) := by
          have h1 : RES = (opsD (ls.drop ls.length) ls.length).bind fun x => .ok (acc ++ x.1, x.2) := HB.out
          rw [h1, List.drop_length]
          show R.ok (acc ++ [], ls.length) = _
          rw [List.append_nil]
        subst hR
        clear hs
        go_wp2
        go_quiet (fail)
        go_wp2
        go_ret
        have hx := HD.out
        have hbq : Below wr.heap.size wr (wr.drewN nq) := drewN_below (Below.refl _ _) nq
        exact ⟨_, acc, ls.length, rfl, ⟨hx.d.below hbq, hx.l.fr (Fr.of hbq) hx.d.lt, row_below hx.row hbq, hx.f.then hbq, hx.r1⟩, by omega, fun x h => by cases h; exact ⟨rfl, rfl⟩⟩
end Go.Proofs.YthfchelkfbboaaaGreatDoor.Pr
