/- Lists of operations and of blocks, laid anew (slices.Clone): read off the program by the walk. Conditions: said at each. -/
import Derived.Test.YtddcndlogoajkaaGreatDoorQVe
import Derived.Test.YtddcndlogoajkaaGreatDoorGb
import Derived.Test.YtddcndlogoajkaaGreatDoorQVd
import Derived.Test.YtddcndlogoajkaaGreatDoorQSm
import Derived.Test.YtddcndlogoajkaaGreatDoorQRk
namespace Go.Proofs.YtddcndlogoajkaaGreatDoor.L8.Li
open Go.ChangeShapes Go.WideShapes Go.ChangeAt Go.RowKit Go.Maps
open _root_.Go.Proofs.YtddcndlogoajkaaGreatDoor.L8.So _root_.Go.Proofs.YtddcndlogoajkaaGreatDoor.L8.Op _root_.Go.Proofs.YtddcndlogoajkaaGreatDoor.L8.Fl _root_.Go.Proofs.YtddcndlogoajkaaGreatDoor.L8.Lv
set_option maxRecDepth 20000

/-- The sets into the blocks: this list alone can be they. -/
def InIs (ps : List Bk) (I : List Nat) : Prop := ∀ xs, IsIn ps xs → xs = I
theorem in_ex {ps : List Bk} (ho : PsOk ps) : ∃ I, InIs ps I := by
  by_cases h : ∃ xs, IsIn ps xs
  · obtain ⟨xs, hx⟩ := h
    exact ⟨xs, fun ys hy => hy.same ho hx⟩
  · exact ⟨[], fun ys hy => absurd ⟨ys, hy⟩ h⟩
theorem in_is (I : List Nat) (ao : Option Addr) (cap : Nat) (ps : List Bk) (w : World) (hI : InIs ps I) (h : PAt w ao ps) (he : Env w) :
    Calls Tryz.prog 70 #[.agg #[.slice ao ps.length cap]] w fun e w' => ∃ a c, e = .returned (.slice a I.length c) ∧ Ul w' a I ∧ IsIn ps I ∧ Below w.heap.size w w' :=
  (in_any ao cap ps w h he).mono fun e w' ⟨v, xs, h1, ⟨a, c, h2, h3, h4⟩, h5⟩ => by
    have e1 := hI xs h5
    subst e1
    exact ⟨a, c, by rw [h1, h2], h3, h5, h4⟩
/-- A list of sets under way. -/
structure Ot (wI wr : World) (n bO k : Nat) (f : Nat → Nat) (ys : List Nat) : Prop where
  b : Below wI.heap.size wI wr
  hO : wI.heap.size ≤ bO
  u : Op.At wr bO (uc ys)
  len : ys.length = n
  is : ∀ i, i < k → inN ys i = f i
theorem Ot.start (wI : World) (n : Nat) (f : Nat → Nat) (t : TypeId) : Ot wI (wI.alloc (.cells (madeCells #[.int .u32 0] n) t)) n wI.heap.size 0 f (List.replicate n 0) :=
  ⟨below_al _, Nat.le_refl _, by rw [uc_made]; exact Op.At.new _ _ _, by simp, fun i hi => by omega⟩
theorem Ot.step {wI wr w2 : World} {n bO k : Nat} {f : Nat → Nat} {ys : List Nat} (h : Ot wI wr n bO k f ys) (hk : k < n) (hb : Below wr.heap.size wr w2) : Ot wI (w2.setCell ⟨bO, k, none⟩ (.int .u32 ((f k : Nat) : Int))) n bO (k + 1) f (ys.set k (f k)) := by
  have hl := h.len
  have hO := h.hO
  refine ⟨?_, hO, ?_, by simp [hl], fun i hi => ?_⟩
  · have f1 : Fr Non wI w2 := Fr.of (h.b.trans (hb.mono h.b.size))
    exact (f1.setCell (Or.inl hO) k _).non
  · rw [← uc_set]
    exact (h.u.below hb h.u.lt).set (by rw [uc_size]; omega) _
  · rw [inN_set (by omega)]
    split
    · rename_i e; rw [← e]
    · exact h.is i (by omega)
theorem Ot.done {wI wr : World} {n bO : Nat} {f : Nat → Nat} {ys : List Nat} (h : Ot wI wr n bO n f ys) : ys = (List.range n).map f :=
  List.ext_getElem (by simp [h.len]) fun i h1 h2 => by
    rw [← inN_eq h1, h.is i (by rw [← h.len]; exact h1)]; simp
end Go.Proofs.YtddcndlogoajkaaGreatDoor.L8.Li
namespace Go.Proofs.YtddcndlogoajkaaGreatDoor.L8.Li
open Go.ChangeShapes Go.WideShapes Go.ChangeAt Go.RowKit
open _root_.Go.Proofs.YtddcndlogoajkaaGreatDoor.L8.So _root_.Go.Proofs.YtddcndlogoajkaaGreatDoor.L8.Op _root_.Go.Proofs.YtddcndlogoajkaaGreatDoor.L8.Fl _root_.Go.Proofs.YtddcndlogoajkaaGreatDoor.L8.Lv
set_option maxRecDepth 20000

theorem info99b : (Tryz.prog.info? 99).map (fun i => (i.zero, i.size, i.bytes)) = some (some (.int .u32 0), 1, 4) := by kernel_rfl
def endAt (ps : List Bk) (xs : List Nat) (i : Nat) : Nat := match ps[i]? with
  | some x => endN (bOf x) xs
  | none => 0
theorem endAt_eq {ps : List Bk} {xs : List Nat} {i : Nat} (h : i < ps.length) : endAt ps xs i = endN (bOf ps[i]) xs := by
  unfold endAt; rw [List.getElem?_eq_getElem h]
theorem out_map {ps : List Bk} {xs : List Nat} : (List.range ps.length).map (endAt ps xs) = ps.map fun x => endN (bOf x) xs := by
  refine List.ext_getElem (by simp) fun i h1 h2 => ?_
  have hi : i < ps.length := by simpa using h2
  simp [endAt_eq hi]
set_option maxHeartbeats 2000000 in
theorem out_any (I : List Nat) (ao : Option Addr) (cap : Nat) (ps : List Bk) (w : World) (hI : InIs ps I) (h : PAt w ao ps) (he : Env w) (hc : ckP ps = 0) :
    Calls Tryz.prog 42 #[.agg #[.slice ao ps.length cap]] w fun e w' => ∃ a c, e = .returned (.slice a ps.length c) ∧ Ul w' a (ps.map fun x => endN (bOf x) I) ∧ IsIn ps I ∧ Below w.heap.size w w' := by
  have hb1 : Below w.heap.size w (w.alloc (.cells #[.slice ao ps.length cap] 24)) := below_al _
  have HK : Hid _ := in_is I ao cap ps (w.alloc (.cells #[.slice ao ps.length cap] 24)) hI (h.below hb1) (he.up hb1)
  have HP : Hid (PAt w ao ps) := h
  obtain ⟨i1, hi, hi2⟩ := Option.map_eq_some_iff.1 info99b
  simp only [Prod.mk.injEq] at hi2
  obtain ⟨hz0, hz1, hz2⟩ := hi2
  have HJ : Hid (Tryz.prog.info? 99 = some i1 ∧ i1.zero = some (.int .u32 0) ∧ i1.size = 1 ∧ i1.bytes = 4) := ⟨hi, hz0, hz1, hz2⟩
  have hpl := (good_of hc).le
  have hp0 := (good_of hc).pos
  have HL : Hid (IsIn ps I → I.length = ps.length) := fun hI => by
    have := hI.len
    rw [if_pos hc] at this
    exact this
  have HE : Hid (∀ (k : Nat) (hk : k < ps.length), endB ps[k] ps.length = true) := fun k hk => end_of (ck_blocks hc _ (List.getElem_mem hk))
  clear hi hz0 hz1 hz2 h he hb1 hI hc
  go_enter Tryz.func42, Tryz.ntmps42
  go_wp2_with (first
    | (go_at_call 70; refine Calls.mono HK.out ?_; rintro e w1 ⟨a, c, rfl, hU, hI, hb⟩; obtain ⟨a1, hb0, hz⟩ := one_new w _ _ hb; have HB1 : Hid (Below w.heap.size w w1) := hb0; have HA1 : Hid (Op.At w1 w.heap.size #[.slice ao ps.length cap]) := a1; have HI1 : Hid (Ul w1 a I ∧ IsIn ps I) := ⟨hU, hI⟩; rw [HL.out hI]; have hle := HL.out hI; have HLl : Hid _ := hle; clear hle hb hb0 a1 HK hU hI)
    | (at_make; refine wpList_make_row _ rfl _ _ 97 rfl 99 i1 (.int .u32 0) Tryz.underlying97 HJ.out.1 HJ.out.2.1 HJ.out.2.2.1 rfl .i64 .i64 ps.length rfl rfl (by rw [HJ.out.2.2.2]; omega) (by omega) ?_))
  have HS : Hid (Ot w1 (w1.alloc (.cells (madeCells #[.int .u32 0] ps.length) 99)) ps.length w1.heap.size 0 (endAt ps I) (List.replicate ps.length 0)) := Ot.start _ _ _ _
  generalize hbO : w1.heap.size = bO at *
  go_loopw [13] (fun i wr => ∃ (k : Nat) (ys : List Nat), k ≤ ps.length ∧ i = .int .i64 k ∧ Hid (Ot w1 wr ps.length bO k (endAt ps I) ys)) (fun i _ => ps.length - (intOf i).toNat)
  case atStart => exact ⟨0, _, by omega, rfl, HS.out⟩
  case round =>
    rename_i wr
    clear HS
    obtain ⟨k, ys, hk, rfl, HO⟩ := hrel
    by_cases hkp : k < ps.length
    · have hkpz : (k : Int) < (ps.length : Int) := by omega
      obtain ⟨bp, fp, rfl, hblt, hx⟩ := HP.out.is (by omega)
      obtain ⟨p, hp, hin⟩ := hx k hkp
      have hbw : Below w.heap.size w wr := HB1.out.trans (HO.out.b.mono HB1.out.size)
      obtain ⟨p0, p1, p2, p3, p4, p5⟩ := hp.below hbw hblt
      have cb := (HA1.out.below HO.out.b HA1.out.lt).c 0 _ rfl
      have HC : Hid (Calls Tryz.prog 71 #[ps[k].val p, .slice a ps.length c] wr fun e w' => e = .returned (.int .u32 ((endAt ps I k : Nat) : Int)) ∧ Below wr.heap.size wr w') := by
        have hA := aheadOfEnd_any ps[k] p a c I wr (hin.below hbw) (HI1.out.1.below HO.out.b) HI1.out.2.fit (by rw [HLl.out]; omega) (by rw [HLl.out]; exact HE.out k hkp)
        rw [HLl.out] at hA
        rw [endAt_eq hkp]
        exact hA
      have hyk : k < ys.length := by rw [HO.out.len]; exact hkp
      clear hp hx hin hbw
      go_wp2_with (first
        | (go_at_call 71; refine Calls.mono HC.out ?_; rintro e w2 ⟨rfl, hb2⟩; have HB2 : Hid (Below wr.heap.size wr w2) := hb2; have cv := (HO.out.u.below hb2 HO.out.u.lt).c k _ (uc_get hyk); have fv := (HO.out.u.below hb2 HO.out.u.lt).f k; clear hb2 HC p0 p1 p2 p3 p4 p5 cb))
      go_roundw
      case rel => exact ⟨k + 1, _, by omega, by go_num, HO.out.step hkp HB2.out⟩
      case measure => simp [intOf]; omega
    · obtain rfl : k = ps.length := by omega
      have hys := HO.out.done
      rw [out_map] at hys
      have HR : Hid (Ul wr (some ⟨bO, 0, none⟩) (ps.map fun x => endN (bOf x) I) ∧ IsIn ps I ∧ Below w.heap.size w wr) := ⟨by rw [← hys]; exact ul_of HO.out.u, HI1.out.2, HB1.out.trans (HO.out.b.mono HB1.out.size)⟩
      clear hys HO HI1
      go_wp2
      go_ret
      exact ⟨_, _, rfl, HR.out⟩
end Go.Proofs.YtddcndlogoajkaaGreatDoor.L8.Li
namespace Go.Proofs.YtddcndlogoajkaaGreatDoor.L8.Op
open Go.ChangeShapes Go.WideShapes Go.ChangeAt Go.RowKit
set_option maxRecDepth 20000

theorem At.f6 {w : World} {b : Nat} {cs : Array Value} (h : At w b cs) : w.frozen? ⟨b, 0, none⟩ = false ∧ w.frozen? ⟨b, 3, none⟩ = false := ⟨h.f 0, h.f 3⟩
/-- One round: the block's box, its lists' copies. -/
structure Cx (w wr V : World) (x : Bk) (u0 u3 : Value) : Prop where
  b : Below wr.heap.size wr V
  lt : wr.heap.size < V.heap.size
  c : At V wr.heap.size #[u0, .int .i8 x.fin, .int .u8 x.a, u3, .int .i64 x.thn, .int .i64 x.els]
theorem Cx.start {w wr V : World} {x : Bk} {u0 u3 : Value} {t : TypeId} (hb : Below (wr.alloc (.cells #[u0, .int .i8 x.fin, .int .u8 x.a, u3, .int .i64 x.thn, .int .i64 x.els] t)).heap.size (wr.alloc (.cells #[u0, .int .i8 x.fin, .int .u8 x.a, u3, .int .i64 x.thn, .int .i64 x.els] t)) V) : Cx w wr V x u0 u3 := by
  obtain ⟨a1, b1, z1⟩ := one_new wr _ _ hb
  exact ⟨b1, z1, a1⟩
theorem Cx.set0 {w wr V : World} {x : Bk} {u0 u3 : Value} (h : Cx w wr V x u0 u3) (v : Value) : Cx w wr (V.setCell ⟨wr.heap.size, 0, none⟩ v) x v u3 :=
  ⟨h.b.setCell (Nat.le_refl _) _, by simpa using h.lt, h.c.set (j := 0) (by simp) v⟩
theorem Cx.set3 {w wr V : World} {x : Bk} {u0 u3 : Value} (h : Cx w wr V x u0 u3) (v : Value) : Cx w wr (V.setCell ⟨wr.heap.size, 3, none⟩ v) x u0 v :=
  ⟨h.b.setCell (Nat.le_refl _) _, by simpa using h.lt, h.c.set (j := 3) (by simp) v⟩
theorem Cx.go {w wr V V' : World} {x : Bk} {u0 u3 : Value} (h : Cx w wr V x u0 u3) (hb : Below V.heap.size V V') : Cx w wr V' x u0 u3 :=
  ⟨h.b.trans (hb.mono h.b.size), Nat.lt_of_lt_of_le h.lt hb.size, h.c.below hb h.lt⟩

theorem Cq.box {w V V' : World} {ao : Option Addr} {cap : Nat} {ps : List Bk} {k : Nat} {v : Value} {ls : List Pl} (h : Cq w V ao cap ps k v ls) (hg : V.grownBy V' v.ownBlock) : At V' (w.heap.size + 1 + 1) #[v] :=
  h.o.below ((Below.refl _ _).grown hg h.z fun b hb => (h.row.lt b hb).1) (by omega)

set_option maxHeartbeats 4000000 in
theorem copiedProgram_any (ao : Option Addr) (cap : Nat) (ps : List Bk) (w : World) (h : PAt w ao ps) (hs : Small ps) :
    Calls Tryz.prog 8 #[.agg #[.slice ao ps.length cap]] w fun e w' => ∃ a c, e = .returned (.agg #[.slice a ps.length c]) ∧ PAt w' a ps ∧ Below w.heap.size w w' := by
  obtain ⟨i0, hi, hi2⟩ := Option.map_eq_some_iff.1 info49
  simp only [Prod.mk.injEq] at hi2
  obtain ⟨hz0, hz1, hz2⟩ := hi2
  have HI : Hid (Tryz.prog.info? 49 = some i0 ∧ i0.zero = some (.agg #[.slice none 0 0, .int .i8 0, .int .u8 0, .slice none 0 0, .int .i64 0, .int .i64 0]) ∧ i0.size = 6 ∧ i0.bytes = 72) := ⟨hi, hz0, hz1, hz2⟩
  clear hi hz0 hz1 hz2
  have hn := hs.n
  have HS : Hid (Small ps) := hs
  have HP : Hid (PAt w ao ps) := h
  clear h hs
  have HQ : Hid (Cq w (((w.alloc (.cells #[.slice ao ps.length cap] 24)).alloc (.cells #[.slice none 0 0] 24)).alloc (.cells #[.slice none 0 0] 24)) ao cap ps 0 (.slice none 0 0) []) := Cq.start w ao cap ps 24 24 24
  go_enter Tryz.func8, Tryz.ntmps8
  go_wp2
  generalize (((w.alloc (.cells #[.slice ao ps.length cap] 24)).alloc (.cells #[.slice none 0 0] 24)).alloc (.cells #[.slice none 0 0] 24)) = V at *
  go_loopw [4] (fun i wr => ∃ (k : Nat) (v : Value) (ls : List Pl), k ≤ ps.length ∧ i = .int .i64 k ∧ Cq w wr ao cap ps k v ls) (fun i _ => ps.length - (intOf i).toNat)
  case atStart => exact ⟨0, _, [], by omega, rfl, HQ.out⟩
  case round =>
    rename World => wr
    obtain ⟨k, v, ls, hk, rfl, hq⟩ := hrel
    clear HQ
    have HQ : Hid (Cq w wr ao cap ps k v ls) := hq
    have cp := hq.p.c 0 _ rfl
    have zz := hq.z
    by_cases hlt : k < ps.length
    · obtain ⟨b, f, rfl, hz, hx⟩ := HP.out.is (by omega)
      obtain ⟨⟨oa, oc, ba, bc⟩, hp, h5⟩ := hx k hlt
      obtain ⟨c0, c1, c2, c3, c4, c5⟩ := hp.below hq.b hz
      simp only at c0 c3
      obtain ⟨-, -, -, s4, s5⟩ := HS.out.l ps[k] (List.getElem_mem hlt)
      have HO : Hid (∀ w1, Below w.heap.size w w1 → Calls Tryz.prog 21 #[.slice oa ps[k].ops.length oc] w1 fun e w' => ∃ a c, e = .returned (.slice a ps[k].ops.length c) ∧ w'.ownsRow w1.heap.size 51 5 (.slice a ps[k].ops.length c) ps[k].ops.length (ocells ps[k].ops) ∧ Below w1.heap.size w1 w') := fun w1 hb => copiedOps_any _ _ _ _ (h5.o.below hb) s4
      have HY : Hid (∀ w1, Below w.heap.size w w1 → Calls Tryz.prog 21 #[.slice ba ps[k].body.length bc] w1 fun e w' => ∃ a c, e = .returned (.slice a ps[k].body.length c) ∧ w'.ownsRow w1.heap.size 51 5 (.slice a ps[k].body.length c) ps[k].body.length (ocells ps[k].body) ∧ Below w1.heap.size w1 w') := fun w1 hb => copiedOps_any _ _ _ _ (h5.b.below hb) s5
      clear hx hp h5 HP hq s4 s5
      have HXK : Hid (∀ {V' : World} {v' : Value} {V : World} {pl : Pl}, Cq w V (some ⟨b, f, none⟩) cap ps k v ls → LRow V (w.heap.size + 3) pl.oa pl.oc ps[k].ops → LRow V (w.heap.size + 3) pl.ba pl.bc ps[k].body → V.grownBy V' v.ownBlock → V'.ownsRow (w.heap.size + 3) 49 6 v' (k + 1) (bcells (ps.take k) ls ++ [.slice pl.oa ps[k].ops.length pl.oc, .int .i8 ps[k].fin, .int .u8 ps[k].a, .slice pl.ba ps[k].body.length pl.bc, .int .i64 ps[k].thn, .int .i64 ps[k].els]) → Cq w (V'.setCell ⟨w.heap.size + 1 + 1, 0, none⟩ v') (some ⟨b, f, none⟩) cap ps (k + 1) v' (ls ++ [pl])) := fun h1 h2 h3 h4 h5 => h1.put hlt h2 h3 h4 h5
      generalize ps[k] = x at *
      go_wp2_with (first
        | (go_at_call 21; refine Calls.mono (HO.out _ (HQ.out.b.alloc HQ.out.b.size _)) ?_; rintro e w2 ⟨a1, d1, rfl, hr1, hb⟩; have HX : Hid (Cx w wr w2 x (.slice oa x.ops.length oc) (.slice ba x.body.length bc)) := Cx.start hb; have HR1 : Hid (LRow w2 (wr.heap.size + 1) a1 d1 x.ops) := (by rw [show wr.heap.size + 1 = (wr.alloc (.cells #[.slice oa x.ops.length oc, .int .i8 x.fin, .int .u8 x.a, .slice ba x.body.length bc, .int .i64 x.thn, .int .i64 x.els] 49)).heap.size by simp]; exact hr1); clear hb hr1 HO c0 c1 c2 c3 c4 c5 cp; obtain ⟨c0, c1, c2, c3, c4, c5⟩ := HX.out.c.b6; obtain ⟨f0, f3⟩ := HX.out.c.f6; have zx := HX.out.lt; have g3 := (HX.out.set0 (.slice a1 x.ops.length d1)).c.c 3 _ rfl)
        | (go_at_call 21; refine Calls.mono (HY.out _ (HQ.out.b.trans ((HX.out.set0 (.slice a1 x.ops.length d1)).b.mono HQ.out.b.size))) ?_; rintro e w3 ⟨a2, d2, rfl, hr2, hb⟩; have HX3 : Hid (Cx w wr w3 x (.slice a1 x.ops.length d1) (.slice ba x.body.length bc)) := (HX.out.set0 _).go hb; have HR1' : Hid (LRow w3 (wr.heap.size + 1) a1 d1 x.ops) := row_below (row_set HR1.out (Nat.lt_succ_self _) _) hb; have HR2 : Hid (LRow w3 (wr.heap.size + 1) a2 d2 x.body) := row_le hr2 (by rw [World.size_setCell]; exact zx); clear hb hr2 HY HX HR1 c0 c1 c2 c3 c4 c5 f0 f3 zx g3; have k3 := HX3.out.c.c 3 _ rfl; have l3 := HX3.out.c.f 3; have zx := HX3.out.lt; have HX4 : Hid (Cx w wr (w3.setCell ⟨wr.heap.size, 3, none⟩ (.slice a2 x.body.length d2)) x (.slice a1 x.ops.length d1) (.slice a2 x.body.length d2)) := HX3.out.set3 _; have HQ4 : Hid (Cq w (w3.setCell ⟨wr.heap.size, 3, none⟩ (.slice a2 x.body.length d2)) (some ⟨b, f, none⟩) cap ps k v ls) := HQ.out.go HX4.out.b; obtain ⟨c0, c1, c2, c3, c4, c5⟩ := HX4.out.c.b6; have co := HQ4.out.o.c 0 _ rfl)
        | (at_builtin; refine wpList_append_lies _ rfl (.tmp 27) (.tmp 29) 22 rfl (w.heap.size + 3) 49 i0 (.agg #[.slice none 0 0, .int .i8 0, .int .u8 0, .slice none 0 0, .int .i64 0, .int .i64 0]) 6 72 Tryz.underlying22 HI.out.1 HI.out.2.1 HI.out.2.2.1 HI.out.2.2.2 rfl (by decide) _ _ _ rfl (HQ4.out.row.alloc _) ⟨w3.heap.size, 0, none⟩ 1 1 [.slice a1 x.ops.length d1, .int .i8 x.fin, .int .u8 x.a, .slice a2 x.body.length d2, .int .i64 x.thn, .int .i64 x.els] rfl rfl (by have hh := heap_alloc_new (w3.setCell ⟨wr.heap.size, 3, none⟩ (.slice a2 x.body.length d2)) (Obj.cells #[.slice a1 x.ops.length d1, .int .i8 x.fin, .int .u8 x.a, .slice a2 x.body.length d2, .int .i64 x.thn, .int .i64 x.els] 49); rw [World.size_setCell] at hh; exact World.news_of_block hh) (by simp [Value.oneCell']) (by decide) (by unfold maxLen; omega) (by omega) (by simp; omega) (w3.heap.size + 1) (by simp) ?_; intro g cap4 w4 hown4 hgrow4 hat4 hlt4; have HQ5 : Hid (Cq w ((w3.setCell ⟨wr.heap.size, 3, none⟩ (.slice a2 x.body.length d2)).alloc (Obj.cells #[.slice a1 x.ops.length d1, .int .i8 x.fin, .int .u8 x.a, .slice a2 x.body.length d2, .int .i64 x.thn, .int .i64 x.els] 49)) (some ⟨b, f, none⟩) cap ps k v ls) := HQ4.out.go ((Below.refl _ _).alloc (Nat.le_refl _) _); have hbx := HQ5.out.box hgrow4; have co4 := hbx.c 0 _ rfl; have fo4 := hbx.f 0; have zo4 := hbx.lt; have HF : Hid (Cq w (w4.setCell ⟨w.heap.size + 1 + 1, 0, none⟩ (.slice (some ⟨g, 0, none⟩) (k + 1) cap4)) (some ⟨b, f, none⟩) cap ps (k + 1) (.slice (some ⟨g, 0, none⟩) (k + 1) cap4) (ls ++ [⟨a1, d1, a2, d2⟩])) := HXK.out (pl := ⟨a1, d1, a2, d2⟩) HQ5.out (row_le ((row_set HR1'.out (Nat.lt_succ_self _) _).alloc _) (by omega)) (row_le ((row_set HR2.out (Nat.lt_succ_self _) _).alloc _) (by omega)) hgrow4 hown4; clear hown4 hgrow4 hat4 hlt4 hbx c0 c1 c2 c3 c4 c5 co HQ4 HQ5))
      go_roundw
      case rel => exact ⟨k + 1, _, _, by omega, by go_num, HF.out⟩
      case measure => simp [intOf]; omega
    · obtain rfl : k = ps.length := by omega
      obtain ⟨a, c, e0, hpa⟩ := HQ.out.done HS.out v
      have HA : Hid (PAt (wr.setCell ⟨w.heap.size + 1, 0, none⟩ v) a ps) := hpa
      subst e0
      have co := hq.o.c 0 _ rfl
      have r0 := hq.r.c 0 _ rfl
      have rf := hq.r.f 0
      have rz := hq.r.lt
      clear hq hpa HP
      go_wp2
      refine bodyPost_ret (v := .agg #[.slice a ps.length c]) (by simp [results, Tryz.results8, go_sem, r0]) rfl ⟨a, c, rfl, HA.out, HQ.out.b.setCell (by show w.heap.size ≤ w.heap.size + 1; omega) _⟩
end Go.Proofs.YtddcndlogoajkaaGreatDoor.L8.Op
namespace Go.Proofs.YtddcndlogoajkaaGreatDoor.L8.Op
open Go.ChangeShapes Go.WideShapes Go.ChangeAt Go.RowKit
set_option maxRecDepth 20000

end Go.Proofs.YtddcndlogoajkaaGreatDoor.L8.Op
namespace Go.Proofs.YtddcndlogoajkaaGreatDoor.L8.Bt
open Go.ChangeShapes Go.WideShapes Go.ChangeAt Go.RowKit
open _root_.Go.Proofs.YtddcndlogoajkaaGreatDoor.L8.Op _root_.Go.Proofs.YtddcndlogoajkaaGreatDoor.L8.So
set_option maxRecDepth 20000

theorem add_at' (b f j : Nat) : (⟨b, f, none⟩ : Addr).add j = ⟨b, f + j, none⟩ := by simp [Addr.add]
theorem co {w : World} {q j k : Nat} {v : Value} (h : ¬ j = k) : (w.setCell ⟨q, j, none⟩ v).cell? ⟨q, k, none⟩ = w.cell? ⟨q, k, none⟩ := by
  rw [World.cell?_setCell_other]
  intro e; injection e with _ e; exact h e
theorem cs {w : World} {q j : Nat} {v u : Value} (h : w.cell? ⟨q, j, none⟩ = some u) : (w.setCell ⟨q, j, none⟩ v).cell? ⟨q, j, none⟩ = some v := World.cell?_setCell_same _ _ _ h
theorem ob {w : World} {q b j k : Nat} {v : Value} (h : ¬ q = b) : (w.setCell ⟨q, j, none⟩ v).cell? ⟨b, k, none⟩ = w.cell? ⟨b, k, none⟩ := by
  rw [World.cell?_setCell_other]
  intro e; injection e with e _; exact h e
/-- A row that is laid anew. -/
structure Cf (w w' : World) (E : TypeId) (z : Nat) (v : Value) (n : Nat) (cs : List Value) : Prop where
  r : w'.ownsRow w.heap.size E z v n cs
  b : Below w.heap.size w w'
theorem eq_nil54' (a : Addr) (n cap : Nat) (w : World) : (binOp .eql 46 (.slice (some a) n cap) (.slice none 0 0)).run Tryz.prog w = .ok (.bool false) w := by kernel_rfl
set_option maxHeartbeats 2000000 in
theorem cloneO_some (a : Addr) (n cap : Nat) (cs : List Value) (w : World) (hl : n ≤ 1000000000000) (hc : cs.length = n * 5) (h1 : ∀ u, u ∈ cs → u.oneCell' = true) (hn : ∀ j u, cs[j]? = some u → w.cell? (a.add j) = some u) :
    Calls Tryz.prog 35 #[.slice (some a) n cap] w fun e w' => ∃ r c, e = .returned (.slice r n c) ∧ w'.ownsRow w.heap.size 51 5 (.slice r n c) n cs ∧ Below w.heap.size w w' := by
  obtain ⟨i0, hi, hi2⟩ := Option.map_eq_some_iff.1 info51
  simp only [Prod.mk.injEq] at hi2
  obtain ⟨hz0, hz1, hz2⟩ := hi2
  have HI : Hid (Tryz.prog.info? 51 = some i0 ∧ i0.zero = some (.agg #[.int .i8 0, .int .u8 0, .int .u8 0, .int .u8 0, .int .i64 0]) ∧ i0.size = 5 ∧ i0.bytes = 16) := ⟨hi, hz0, hz1, hz2⟩
  clear hi hz0 hz1 hz2
  have HN : Hid _ := hn
  have H1 : Hid _ := h1
  clear hn h1
  have hnil := eq_nil54' a n cap
  go_enter Tryz.func35, Tryz.ntmps35
  go_wp2_with (first
    | (at_builtin; refine wpList_append_own _ rfl (.tmp 5) (.tmp 6) 46 rfl w.heap.size 51 i0 (.agg #[.int .i8 0, .int .u8 0, .int .u8 0, .int .u8 0, .int .i64 0]) 5 16 Tryz.underlying46 HI.out.1 HI.out.2.1 HI.out.2.2.1 HI.out.2.2.2 rfl (by decide) _ 0 [] rfl ?ho a n cap cs rfl hc ?hn H1.out (by unfold maxLen; omega) (by omega) (by simp) ?_; (case ho => exact World.ownsRow_made w #[] 0 (Nat.le_refl _) (by decide) rfl); (case hn => exact fun j u hj => (World.cell?_alloc_some _ _ _ (by rw [HN.out j u hj]; rfl)).trans (HN.out j u hj)); intro v' w2 hown2 hgrow2 hnil2; have HF : Hid (Cf w w2 51 5 v' n cs) := ⟨(by have := hown2; simp only [Nat.zero_add, List.nil_append] at this; exact this), ((Below.refl _ _).alloc (Nat.le_refl _) _).grown hgrow2 (by simp) (fun b hb => by cases hb; exact Nat.le_refl _)⟩; clear hown2 hgrow2 hnil2))
  go_ret
  obtain ⟨h1, hb⟩ := HF.out
  rcases h1.2 with ⟨rfl, h0⟩ | ⟨g, c, cur, rfl, _⟩
  · exact ⟨none, 0, by rw [h0]; rfl, by rw [h0] at h1 ⊢; exact h1, hb⟩
  · exact ⟨_, _, rfl, h1, hb⟩
theorem eq_nil22' (a : Addr) (n cap : Nat) (w : World) : (binOp .eql 22 (.slice (some a) n cap) (.slice none 0 0)).run Tryz.prog w = .ok (.bool false) w := by kernel_rfl
set_option maxHeartbeats 2000000 in
theorem cloneB_some (a : Addr) (n cap : Nat) (cs : List Value) (w : World) (hl : n ≤ 1000000000000) (hc : cs.length = n * 6) (h1 : ∀ u, u ∈ cs → u.oneCell' = true) (hn : ∀ j u, cs[j]? = some u → w.cell? (a.add j) = some u) :
    Calls Tryz.prog 34 #[.slice (some a) n cap] w fun e w' => ∃ r c, e = .returned (.slice r n c) ∧ w'.ownsRow w.heap.size 49 6 (.slice r n c) n cs ∧ Below w.heap.size w w' := by
  obtain ⟨i0, hi, hi2⟩ := Option.map_eq_some_iff.1 info49
  simp only [Prod.mk.injEq] at hi2
  obtain ⟨hz0, hz1, hz2⟩ := hi2
  have HI : Hid (Tryz.prog.info? 49 = some i0 ∧ i0.zero = some (.agg #[.slice none 0 0, .int .i8 0, .int .u8 0, .slice none 0 0, .int .i64 0, .int .i64 0]) ∧ i0.size = 6 ∧ i0.bytes = 72) := ⟨hi, hz0, hz1, hz2⟩
  clear hi hz0 hz1 hz2
  have HN : Hid _ := hn
  have H1 : Hid _ := h1
  clear hn h1
  have hnil := eq_nil22' a n cap
  go_enter Tryz.func34, Tryz.ntmps34
  go_wp2_with (first
    | (at_builtin; refine wpList_append_own _ rfl (.tmp 5) (.tmp 6) 22 rfl w.heap.size 49 i0 (.agg #[.slice none 0 0, .int .i8 0, .int .u8 0, .slice none 0 0, .int .i64 0, .int .i64 0]) 6 72 Tryz.underlying22 HI.out.1 HI.out.2.1 HI.out.2.2.1 HI.out.2.2.2 rfl (by decide) _ 0 [] rfl ?ho a n cap cs rfl hc ?hn H1.out (by unfold maxLen; omega) (by omega) (by simp) ?_; (case ho => exact World.ownsRow_made w #[] 0 (Nat.le_refl _) (by decide) rfl); (case hn => exact fun j u hj => (World.cell?_alloc_some _ _ _ (by rw [HN.out j u hj]; rfl)).trans (HN.out j u hj)); intro v' w2 hown2 hgrow2 hnil2; have HF : Hid (Cf w w2 49 6 v' n cs) := ⟨(by have := hown2; simp only [Nat.zero_add, List.nil_append] at this; exact this), ((Below.refl _ _).alloc (Nat.le_refl _) _).grown hgrow2 (by simp) (fun b hb => by cases hb; exact Nat.le_refl _)⟩; clear hown2 hgrow2 hnil2))
  go_ret
  obtain ⟨h1, hb⟩ := HF.out
  rcases h1.2 with ⟨rfl, h0⟩ | ⟨g, c, cur, rfl, _⟩
  · exact ⟨none, 0, by rw [h0]; rfl, by rw [h0] at h1 ⊢; exact h1, hb⟩
  · exact ⟨_, _, rfl, h1, hb⟩
theorem nil54 (c : Nat) (w : World) : (binOp .eql 46 (.slice none 0 c) (.slice none 0 0)).run Tryz.prog w = .ok (.bool true) w := by kernel_rfl
theorem cloneO_nil (c : Nat) (w : World) : Calls Tryz.prog 35 #[.slice none 0 c] w fun e w' => e = .returned (.slice none 0 0) ∧ w' = w := by
  have hnil := nil54 c
  go_enter Tryz.func35, Tryz.ntmps35
  go_wp2_with fail
  go_ret
  exact ⟨rfl, rfl⟩
/-- A list of operations at the head of a block. -/
structure Ol (w : World) (b : Nat) (xs : List O) : Prop where
  lt : b < w.heap.size
  fz : ∀ j : Nat, w.frozen? ⟨b, j, none⟩ = false
  c : ∀ (i : Nat) (h : i < xs.length), OAt w b (i * 5) xs[i]
theorem Ol.below {w w' : World} {b : Nat} {xs : List O} (h : Ol w b xs) (hb : Below w.heap.size w w') : Ol w' b xs :=
  ⟨Nat.lt_of_lt_of_le h.lt hb.size, fun j => by rw [(bcell hb).2 _ _ h.lt]; exact h.fz j, fun i hi => (h.c i hi).below hb h.lt⟩
theorem Ol.fr {X : Nat → Prop} {w w' : World} {b : Nat} {xs : List O} (h : Ol w b xs) (g : Fr X w w') (hx : ¬ X b) : Ol w' b xs :=
  ⟨Nat.lt_of_lt_of_le h.lt g.size, fun j => by rw [g.frozen h.lt hx]; exact h.fz j, fun i hi => by
    obtain ⟨c0, c1, c2, c3, c4⟩ := h.c i hi
    exact ⟨(g.cell h.lt hx _).trans c0, (g.cell h.lt hx _).trans c1, (g.cell h.lt hx _).trans c2, (g.cell h.lt hx _).trans c3, (g.cell h.lt hx _).trans c4⟩⟩
theorem ol_row {w : World} {B g c : Nat} {xs : List O} (h : w.ownsRow B 51 5 (.slice (some ⟨g, 0, none⟩) xs.length c) xs.length (Op.ocells xs)) : Ol w g xs := by
  refine ⟨(h.lt g rfl).2, fun j => h.frozenAt j, fun i hi => ?_⟩
  obtain ⟨g0, g1, g2, g3, g4⟩ := Op.ocells_get xs i hi
  have k : ∀ j u, (Op.ocells xs)[j]? = some u → w.cell? ⟨g, j, none⟩ = some u := fun j u hj => by
    have := h.cells (g := g) rfl j u hj
    rw [add_at', Nat.zero_add] at this; exact this
  exact ⟨k _ _ g0, k _ _ g1, k _ _ g2, k _ _ g3, k _ _ g4⟩
/-- A list laid anew: at the head of a block that was not there. -/
structure Oc (w w' : World) (r : Option Addr) (c : Nat) (xs : List O) : Prop where
  is : 0 < xs.length → ∃ b, r = some ⟨b, 0, none⟩ ∧ w.heap.size ≤ b ∧ Ol w' b xs
  cap : xs.length ≤ c
  up : Below w.heap.size w w'
theorem oc_of {w w' : World} {r : Option Addr} {c : Nat} {xs : List O} (h1 : w'.ownsRow w.heap.size 51 5 (.slice r xs.length c) xs.length (Op.ocells xs)) (h2 : Below w.heap.size w w') : Oc w w' r c xs := by
  rcases h1.2 with ⟨h3, h4⟩ | ⟨g, cap', cur, h3, h5, _, h6, _⟩
  · exact ⟨fun h => by omega, by omega, h2⟩
  · injection h3 with e1 e2 e3
    subst e1
    exact ⟨fun _ => ⟨g, rfl, h5, ol_row h1⟩, by omega, h2⟩
theorem ocells_at {w : World} {b f : Nat} (xs : List O) (h : ∀ (i : Nat) (h : i < xs.length), OAt w b (f + i * 5) xs[i]) : ∀ j u, (Op.ocells xs)[j]? = some u → w.cell? ((⟨b, f, none⟩ : Addr).add j) = some u := by
  intro j u hu
  have hj : j < (Op.ocells xs).length := by
    rcases Nat.lt_or_ge j (Op.ocells xs).length with h' | h'
    · exact h'
    · rw [List.getElem?_eq_none h'] at hu; cases hu
  rw [Op.ocells_len] at hj
  have hi : j / 5 < xs.length := by omega
  obtain ⟨c0, c1, c2, c3, c4⟩ := h (j / 5) hi
  obtain ⟨g0, g1, g2, g3, g4⟩ := Op.ocells_get xs (j / 5) hi
  have hq : j = j / 5 * 5 + j % 5 := by omega
  have hm : j % 5 = 0 ∨ j % 5 = 1 ∨ j % 5 = 2 ∨ j % 5 = 3 ∨ j % 5 = 4 := by omega
  rw [add_at']
  generalize j / 5 = q at *
  rcases hm with hm | hm | hm | hm | hm
  · obtain rfl : j = q * 5 := by omega
    rw [g0] at hu; rw [← hu]; exact c0
  · obtain rfl : j = q * 5 + 1 := by omega
    rw [g1] at hu; rw [← hu, ← Nat.add_assoc]; exact c1
  · obtain rfl : j = q * 5 + 2 := by omega
    rw [g2] at hu; rw [← hu, ← Nat.add_assoc]; exact c2
  · obtain rfl : j = q * 5 + 3 := by omega
    rw [g3] at hu; rw [← hu, ← Nat.add_assoc]; exact c3
  · obtain rfl : j = q * 5 + 4 := by omega
    rw [g4] at hu; rw [← hu, ← Nat.add_assoc]; exact c4
theorem cloneO_any (ao : Option Addr) (cap : Nat) (xs : List O) (w : World) (h : OpsAt w ao xs) (hl : xs.length ≤ 8192) :
    Calls Tryz.prog 35 #[.slice ao xs.length cap] w fun e w' => ∃ r c, e = .returned (.slice r xs.length c) ∧ Oc w w' r c xs := by
  have key : ∀ a : Addr, ao = some a → (∀ j u, (Op.ocells xs)[j]? = some u → w.cell? (a.add j) = some u) → Calls Tryz.prog 35 #[.slice ao xs.length cap] w fun e w' => ∃ r c, e = .returned (.slice r xs.length c) ∧ Oc w w' r c xs := fun a e hc => by
    subst e
    refine (cloneO_some a xs.length cap (Op.ocells xs) w (by omega) (Op.ocells_len xs) (Op.ocells_one xs) hc).mono ?_
    rintro e w' ⟨r, c, rfl, h1, h2⟩
    exact ⟨r, c, rfl, oc_of h1 h2⟩
  rcases Nat.eq_zero_or_pos xs.length with h0 | h0
  · cases ao with
    | none =>
      obtain rfl : xs = [] := List.eq_nil_of_length_eq_zero h0
      refine (cloneO_nil cap w).mono ?_
      rintro e w' ⟨rfl, rfl⟩
      exact ⟨none, 0, rfl, ⟨fun h => by simp at h, Nat.le_refl _, Below.refl _ _⟩⟩
    | some a => exact key a rfl fun j u hu => by obtain rfl : xs = [] := List.eq_nil_of_length_eq_zero h0; simp [Op.ocells] at hu
  · obtain ⟨b, f, e, _, hx⟩ := h.is h0
    exact key _ e (ocells_at xs hx)
/-- The cells of blocks in a row. -/
def bcs : List Bk → List Pl → List Value
  | x :: r, p :: t => .slice p.oa x.ops.length p.oc :: .int .i8 x.fin :: .int .u8 x.a :: .slice p.ba x.body.length p.bc :: .int .i64 x.thn :: .int .i64 x.els :: bcs r t
  | _, _ => []
theorem bcs_len : ∀ (ps : List Bk) (pl : List Pl), pl.length = ps.length → (bcs ps pl).length = ps.length * 6
  | [], [], _ => rfl
  | x :: r, p :: t, h => by
    have := bcs_len r t (by simpa using h)
    simp [bcs, this]; omega
theorem bcs_one : ∀ (ps : List Bk) (pl : List Pl), ∀ u, u ∈ bcs ps pl → u.oneCell' = true
  | [], _, u, h => by simp [bcs] at h
  | x :: r, [], u, h => by simp [bcs] at h
  | x :: r, p :: t, u, h => by
    simp only [bcs, List.mem_cons] at h
    rcases h with rfl | rfl | rfl | rfl | rfl | rfl | h
    · rfl
    · rfl
    · rfl
    · rfl
    · rfl
    · rfl
    · exact bcs_one r t u h
theorem bcs_get : ∀ (ps : List Bk) (pl : List Pl) (i : Nat) (h : i < ps.length) (g : i < pl.length), (bcs ps pl)[i * 6]? = some (.slice pl[i].oa ps[i].ops.length pl[i].oc) ∧ (bcs ps pl)[i * 6 + 1]? = some (.int .i8 ps[i].fin) ∧ (bcs ps pl)[i * 6 + 2]? = some (.int .u8 ps[i].a) ∧ (bcs ps pl)[i * 6 + 3]? = some (.slice pl[i].ba ps[i].body.length pl[i].bc) ∧ (bcs ps pl)[i * 6 + 4]? = some (.int .i64 ps[i].thn) ∧ (bcs ps pl)[i * 6 + 5]? = some (.int .i64 ps[i].els)
  | [], _, i, h, _ => by simp at h
  | x :: r, [], i, _, g => by simp at g
  | x :: r, p :: t, 0, _, _ => ⟨rfl, rfl, rfl, rfl, rfl, rfl⟩
  | x :: r, p :: t, i + 1, h, g => by
    have := bcs_get r t i (by simpa using h) (by simpa using g)
    rw [show (i + 1) * 6 = i * 6 + 1 + 1 + 1 + 1 + 1 + 1 by omega]
    simpa [bcs] using this
theorem bcs_at {w : World} {b : Nat} : ∀ (ps : List Bk) (pl : List Pl) (f : Nat), pl.length = ps.length → (∀ (i : Nat) (h : i < ps.length) (g : i < pl.length), BAt w b (f + i * 6) ps[i] pl[i]) → ∀ j u, (bcs ps pl)[j]? = some u → w.cell? ((⟨b, f, none⟩ : Addr).add j) = some u
  | [], _, _, _, _, j, u, h => by simp [bcs] at h
  | x :: r, [], _, _, _, j, u, h => by simp [bcs] at h
  | x :: r, p :: t, f, hl, hx, j, u, h => by
    rw [add_at']
    obtain ⟨c0, c1, c2, c3, c4, c5⟩ := hx 0 (by simp) (by simp)
    simp only [Nat.zero_mul, Nat.add_zero, List.getElem_cons_zero] at c0 c1 c2 c3 c4 c5
    match j with
    | 0 => simp [bcs] at h; rw [← h]; exact c0
    | 1 => simp [bcs] at h; rw [← h]; exact c1
    | 2 => simp [bcs] at h; rw [← h]; exact c2
    | 3 => simp [bcs] at h; rw [← h]; exact c3
    | 4 => simp [bcs] at h; rw [← h]; exact c4
    | 5 => simp [bcs] at h; rw [← h]; exact c5
    | j + 6 =>
      have := bcs_at r t (f + 6) (by simpa using hl) (fun i h1 h2 => by
        have := hx (i + 1) (by simpa using h1) (by simpa using h2)
        rw [show f + (i + 1) * 6 = f + 6 + i * 6 by omega] at this
        simpa using this) j u (by simpa [bcs] using h)
      rw [add_at'] at this
      rw [show f + (j + 6) = f + 6 + j by omega]
      exact this
theorem pls_of {w : World} {b f : Nat} {ps : List Bk} (h : ∀ (i : Nat) (h : i < ps.length), ∃ p, BAt w b (f + i * 6) ps[i] p ∧ BIn w ps[i] p) : ∃ pl : List Pl, pl.length = ps.length ∧ ∀ (i : Nat) (h : i < ps.length) (g : i < pl.length), BAt w b (f + i * 6) ps[i] pl[i] ∧ BIn w ps[i] pl[i] := by
  refine ⟨(List.finRange ps.length).map fun i => (h i.1 i.2).choose, by simp, fun i hi g => ?_⟩
  have := (h i hi).choose_spec
  simpa using this
end Go.Proofs.YtddcndlogoajkaaGreatDoor.L8.Bt
