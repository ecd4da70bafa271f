/- A program in memory of its own (CopiedProgram): read off the program by the walk. Conditions: the program lies in memory, and has at most 8192 operations and blocks. -/
import Derived.Test.YthjpddjfckdefaaDoorCm
namespace Go.Proofs.YthjpddjfckdefaaDoor.Op
open Go.ChangeShapes Go.WideShapes Go.ChangeAt Go.RowKit
set_option maxRecDepth 20000

theorem At.f6 {w : World} {b : Nat} {cs : Array Value} (h : At w b cs) : w.frozen? ⟨b, 0, none⟩ = false ∧ w.frozen? ⟨b, 3, none⟩ = false := ⟨h.f 0, h.f 3⟩
/-- One round: the block's box, its lists' copies. -/
structure Cx (w wr V : World) (x : Bk) (u0 u3 : Value) : Prop where
  b : Below wr.heap.size wr V
  lt : wr.heap.size < V.heap.size
  c : At V wr.heap.size #[u0, .int .i8 x.fin, .int .u8 x.a, u3, .int .i64 x.thn, .int .i64 x.els]
theorem Cx.start {w wr V : World} {x : Bk} {u0 u3 : Value} {t : TypeId} (hb : Below (wr.alloc (.cells #[u0, .int .i8 x.fin, .int .u8 x.a, u3, .int .i64 x.thn, .int .i64 x.els] t)).heap.size (wr.alloc (.cells #[u0, .int .i8 x.fin, .int .u8 x.a, u3, .int .i64 x.thn, .int .i64 x.els] t)) V) : Cx w wr V x u0 u3 := by
  obtain ⟨a1, b1, z1⟩ := one_new wr _ _ hb
  exact ⟨b1, z1, a1⟩
theorem Cx.set0 {w wr V : World} {x : Bk} {u0 u3 : Value} (h : Cx w wr V x u0 u3) (v : Value) : Cx w wr (V.setCell ⟨wr.heap.size, 0, none⟩ v) x v u3 :=
  ⟨h.b.setCell (Nat.le_refl _) _, by simpa using h.lt, h.c.set (j := 0) (by simp) v⟩
theorem Cx.set3 {w wr V : World} {x : Bk} {u0 u3 : Value} (h : Cx w wr V x u0 u3) (v : Value) : Cx w wr (V.setCell ⟨wr.heap.size, 3, none⟩ v) x u0 v :=
  ⟨h.b.setCell (Nat.le_refl _) _, by simpa using h.lt, h.c.set (j := 3) (by simp) v⟩
theorem Cx.go {w wr V V' : World} {x : Bk} {u0 u3 : Value} (h : Cx w wr V x u0 u3) (hb : Below V.heap.size V V') : Cx w wr V' x u0 u3 :=
  ⟨h.b.trans (hb.mono h.b.size), Nat.lt_of_lt_of_le h.lt hb.size, h.c.below hb h.lt⟩

theorem Cq.box {w V V' : World} {ao : Option Addr} {cap : Nat} {ps : List Bk} {k : Nat} {v : Value} {ls : List Pl} (h : Cq w V ao cap ps k v ls) (hg : V.grownBy V' v.ownBlock) : At V' (w.heap.size + 1 + 1) #[v] :=
  h.o.below ((Below.refl _ _).grown hg h.z fun b hb => (h.row.lt b hb).1) (by omega)

set_option maxHeartbeats 4000000 in
theorem copiedProgram_any (ao : Option Addr) (cap : Nat) (ps : List Bk) (w : World) (h : PAt w ao ps) (hs : Small ps) :
    Calls Tryd.prog 7 #[.agg #[.slice ao ps.length cap]] w fun e w' => ∃ a c, e = .returned (.agg #[.slice a ps.length c]) ∧ PAt w' a ps ∧ Below w.heap.size w w' := by
  obtain ⟨i0, hi, hi2⟩ := Option.map_eq_some_iff.1 info35
  simp only [Prod.mk.injEq] at hi2
  obtain ⟨hz0, hz1, hz2⟩ := hi2
  have HI : Hid (Tryd.prog.info? 35 = some i0 ∧ i0.zero = some (.agg #[.slice none 0 0, .int .i8 0, .int .u8 0, .slice none 0 0, .int .i64 0, .int .i64 0]) ∧ i0.size = 6 ∧ i0.bytes = 72) := ⟨hi, hz0, hz1, hz2⟩
  clear hi hz0 hz1 hz2
  have hn := hs.n
  have HS : Hid (Small ps) := hs
  have HP : Hid (PAt w ao ps) := h
  clear h hs
  have HQ : Hid (Cq w (((w.alloc (.cells #[.slice ao ps.length cap] 24)).alloc (.cells #[.slice none 0 0] 24)).alloc (.cells #[.slice none 0 0] 24)) ao cap ps 0 (.slice none 0 0) []) := Cq.start w ao cap ps 24 24 24
  go_enter Tryd.func7, Tryd.ntmps7
  go_wp2
  generalize (((w.alloc (.cells #[.slice ao ps.length cap] 24)).alloc (.cells #[.slice none 0 0] 24)).alloc (.cells #[.slice none 0 0] 24)) = V at *
  go_loopw [4] (fun i wr => ∃ (k : Nat) (v : Value) (ls : List Pl), k ≤ ps.length ∧ i = .int .i64 k ∧ Cq w wr ao cap ps k v ls) (fun i _ => ps.length - (intOf i).toNat)
  case atStart => exact ⟨0, _, [], by omega, rfl, HQ.out⟩
  case round =>
    rename World => wr
    obtain ⟨k, v, ls, hk, rfl, hq⟩ := hrel
    clear HQ
    have HQ : Hid (Cq w wr ao cap ps k v ls) := hq
    have cp := hq.p.c 0 _ rfl
    have zz := hq.z
    by_cases hlt : k < ps.length
    · obtain ⟨b, f, rfl, hz, hx⟩ := HP.out.is (by omega)
      obtain ⟨⟨oa, oc, ba, bc⟩, hp, h5⟩ := hx k hlt
      obtain ⟨c0, c1, c2, c3, c4, c5⟩ := hp.below hq.b hz
      simp only at c0 c3
      obtain ⟨-, -, -, s4, s5⟩ := HS.out.l ps[k] (List.getElem_mem hlt)
      have HO : Hid (∀ w1, Below w.heap.size w w1 → Calls Tryd.prog 13 #[.slice oa ps[k].ops.length oc] w1 fun e w' => ∃ a c, e = .returned (.slice a ps[k].ops.length c) ∧ w'.ownsRow w1.heap.size 40 5 (.slice a ps[k].ops.length c) ps[k].ops.length (ocells ps[k].ops) ∧ Below w1.heap.size w1 w') := fun w1 hb => copiedOps_any _ _ _ _ (h5.o.below hb) s4
      have HY : Hid (∀ w1, Below w.heap.size w w1 → Calls Tryd.prog 13 #[.slice ba ps[k].body.length bc] w1 fun e w' => ∃ a c, e = .returned (.slice a ps[k].body.length c) ∧ w'.ownsRow w1.heap.size 40 5 (.slice a ps[k].body.length c) ps[k].body.length (ocells ps[k].body) ∧ Below w1.heap.size w1 w') := fun w1 hb => copiedOps_any _ _ _ _ (h5.b.below hb) s5
      clear hx hp h5 HP hq s4 s5
      have HXK : Hid (∀ {V' : World} {v' : Value} {V : World} {pl : Pl}, Cq w V (some ⟨b, f, none⟩) cap ps k v ls → LRow V (w.heap.size + 3) pl.oa pl.oc ps[k].ops → LRow V (w.heap.size + 3) pl.ba pl.bc ps[k].body → V.grownBy V' v.ownBlock → V'.ownsRow (w.heap.size + 3) 35 6 v' (k + 1) (bcells (ps.take k) ls ++ [.slice pl.oa ps[k].ops.length pl.oc, .int .i8 ps[k].fin, .int .u8 ps[k].a, .slice pl.ba ps[k].body.length pl.bc, .int .i64 ps[k].thn, .int .i64 ps[k].els]) → Cq w (V'.setCell ⟨w.heap.size + 1 + 1, 0, none⟩ v') (some ⟨b, f, none⟩) cap ps (k + 1) v' (ls ++ [pl])) := fun h1 h2 h3 h4 h5 => h1.put hlt h2 h3 h4 h5
      generalize ps[k] = x at *
      go_wp2_with (first
        | (go_at_call 13; refine Calls.mono (HO.out _ (HQ.out.b.alloc HQ.out.b.size _)) ?_; rintro e w2 ⟨a1, d1, rfl, hr1, hb⟩; have HX : Hid (Cx w wr w2 x (.slice oa x.ops.length oc) (.slice ba x.body.length bc)) := Cx.start hb; have HR1 : Hid (LRow w2 (wr.heap.size + 1) a1 d1 x.ops) := (by rw [show wr.heap.size + 1 = (wr.alloc (.cells #[.slice oa x.ops.length oc, .int .i8 x.fin, .int .u8 x.a, .slice ba x.body.length bc, .int .i64 x.thn, .int .i64 x.els] 35)).heap.size by simp]; exact hr1); clear hb hr1 HO c0 c1 c2 c3 c4 c5 cp; obtain ⟨c0, c1, c2, c3, c4, c5⟩ := HX.out.c.b6; obtain ⟨f0, f3⟩ := HX.out.c.f6; have zx := HX.out.lt; have g3 := (HX.out.set0 (.slice a1 x.ops.length d1)).c.c 3 _ rfl)
        | (go_at_call 13; refine Calls.mono (HY.out _ (HQ.out.b.trans ((HX.out.set0 (.slice a1 x.ops.length d1)).b.mono HQ.out.b.size))) ?_; rintro e w3 ⟨a2, d2, rfl, hr2, hb⟩; have HX3 : Hid (Cx w wr w3 x (.slice a1 x.ops.length d1) (.slice ba x.body.length bc)) := (HX.out.set0 _).go hb; have HR1' : Hid (LRow w3 (wr.heap.size + 1) a1 d1 x.ops) := row_below (row_set HR1.out (Nat.lt_succ_self _) _) hb; have HR2 : Hid (LRow w3 (wr.heap.size + 1) a2 d2 x.body) := row_le hr2 (by rw [World.size_setCell]; exact zx); clear hb hr2 HY HX HR1 c0 c1 c2 c3 c4 c5 f0 f3 zx g3; have k3 := HX3.out.c.c 3 _ rfl; have l3 := HX3.out.c.f 3; have zx := HX3.out.lt; have HX4 : Hid (Cx w wr (w3.setCell ⟨wr.heap.size, 3, none⟩ (.slice a2 x.body.length d2)) x (.slice a1 x.ops.length d1) (.slice a2 x.body.length d2)) := HX3.out.set3 _; have HQ4 : Hid (Cq w (w3.setCell ⟨wr.heap.size, 3, none⟩ (.slice a2 x.body.length d2)) (some ⟨b, f, none⟩) cap ps k v ls) := HQ.out.go HX4.out.b; obtain ⟨c0, c1, c2, c3, c4, c5⟩ := HX4.out.c.b6; have co := HQ4.out.o.c 0 _ rfl)
        | (at_builtin; refine wpList_append_lies _ rfl (.tmp 27) (.tmp 29) 22 rfl (w.heap.size + 3) 35 i0 (.agg #[.slice none 0 0, .int .i8 0, .int .u8 0, .slice none 0 0, .int .i64 0, .int .i64 0]) 6 72 Tryd.underlying22 HI.out.1 HI.out.2.1 HI.out.2.2.1 HI.out.2.2.2 rfl (by decide) _ _ _ rfl (HQ4.out.row.alloc _) ⟨w3.heap.size, 0, none⟩ 1 1 [.slice a1 x.ops.length d1, .int .i8 x.fin, .int .u8 x.a, .slice a2 x.body.length d2, .int .i64 x.thn, .int .i64 x.els] rfl rfl (by have hh := heap_alloc_new (w3.setCell ⟨wr.heap.size, 3, none⟩ (.slice a2 x.body.length d2)) (Obj.cells #[.slice a1 x.ops.length d1, .int .i8 x.fin, .int .u8 x.a, .slice a2 x.body.length d2, .int .i64 x.thn, .int .i64 x.els] 35); rw [World.size_setCell] at hh; exact World.news_of_block hh) (by simp [Value.oneCell']) (by decide) (by unfold maxLen; omega) (by omega) (by simp; omega) (w3.heap.size + 1) (by simp) ?_; intro g cap4 w4 hown4 hgrow4 hat4 hlt4; have HQ5 : Hid (Cq w ((w3.setCell ⟨wr.heap.size, 3, none⟩ (.slice a2 x.body.length d2)).alloc (Obj.cells #[.slice a1 x.ops.length d1, .int .i8 x.fin, .int .u8 x.a, .slice a2 x.body.length d2, .int .i64 x.thn, .int .i64 x.els] 35)) (some ⟨b, f, none⟩) cap ps k v ls) := HQ4.out.go ((Below.refl _ _).alloc (Nat.le_refl _) _); have hbx := HQ5.out.box hgrow4; have co4 := hbx.c 0 _ rfl; have fo4 := hbx.f 0; have zo4 := hbx.lt; have HF : Hid (Cq w (w4.setCell ⟨w.heap.size + 1 + 1, 0, none⟩ (.slice (some ⟨g, 0, none⟩) (k + 1) cap4)) (some ⟨b, f, none⟩) cap ps (k + 1) (.slice (some ⟨g, 0, none⟩) (k + 1) cap4) (ls ++ [⟨a1, d1, a2, d2⟩])) := HXK.out (pl := ⟨a1, d1, a2, d2⟩) HQ5.out (row_le ((row_set HR1'.out (Nat.lt_succ_self _) _).alloc _) (by omega)) (row_le ((row_set HR2.out (Nat.lt_succ_self _) _).alloc _) (by omega)) hgrow4 hown4; clear hown4 hgrow4 hat4 hlt4 hbx c0 c1 c2 c3 c4 c5 co HQ4 HQ5))
      go_roundw
      case rel => exact ⟨k + 1, _, _, by omega, by go_num, HF.out⟩
      case measure => simp [intOf]; omega
    · obtain rfl : k = ps.length := by omega
      obtain ⟨a, c, e0, hpa⟩ := HQ.out.done HS.out v
      have HA : Hid (PAt (wr.setCell ⟨w.heap.size + 1, 0, none⟩ v) a ps) := hpa
      subst e0
      have co := hq.o.c 0 _ rfl
      have r0 := hq.r.c 0 _ rfl
      have rf := hq.r.f 0
      have rz := hq.r.lt
      clear hq hpa HP
      go_wp2
      refine bodyPost_ret (v := .agg #[.slice a ps.length c]) (by simp [results, Tryd.results7, go_sem, r0]) rfl ⟨a, c, rfl, HA.out, HQ.out.b.setCell (by show w.heap.size ≤ w.heap.size + 1; omega) _⟩
end Go.Proofs.YthjpddjfckdefaaDoor.Op
