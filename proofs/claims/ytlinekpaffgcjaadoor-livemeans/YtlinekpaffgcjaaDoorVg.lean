/- What is ahead of an operation, read off the program by the walk. Conditions: the program lies in memory; the variable lies there as the program lays it. -/
import Derived.Test.YtlinekpaffgcjaaDoorVf
namespace Go.Proofs.YtlinekpaffgcjaaDoor.Li
open Go.ChangeShapes Go.WideShapes Go.ChangeAt Go.RowKit Go.Maps
open _root_.Go.Proofs.YtlinekpaffgcjaaDoor.So _root_.Go.Proofs.YtlinekpaffgcjaaDoor.Op _root_.Go.Proofs.YtlinekpaffgcjaaDoor.Fl _root_.Go.Proofs.YtlinekpaffgcjaaDoor.Lv
set_option maxRecDepth 20000

/-- A list from an operation on, as it lies in memory. -/
theorem opsAt_drop {w : World} {a : Option Addr} {xs : List O} {c k : Nat} (h : OpsAt w a xs) (hc : xs.length ≤ c) (hk : k ≤ xs.length) : OpsAt w (if c = k then a else a.map (·.add (k * 5))) (xs.drop k) := by
  refine ⟨fun o ho => h.ok o (List.mem_of_mem_drop ho), by rw [List.length_drop]; have := h.len; omega, fun h0 => ?_⟩
  rw [List.length_drop] at h0
  obtain ⟨b, f, rfl, hb, hx⟩ := h.is (by omega)
  refine ⟨b, f + k * 5, ?_, hb, fun i hi => ?_⟩
  · rw [if_neg (by omega)]
    simp only [Option.map_some, Addr.add]
    split <;> simp_all
  · rw [List.length_drop] at hi
    have := hx (k + i) (by omega)
    rw [List.getElem_drop]
    rw [show f + k * 5 + i * 5 = f + (k + i) * 5 by omega]
    exact this
theorem at_no (ao : Option Addr) (cap : Nat) (ps : List Bk) (block op : Int) (w : World) (h : PAt w ao ps) (he : Env w) (hn : block < 0 ∨ (inL ps).length ≤ block) :
    Calls Tryd.prog 16 #[.agg #[.slice ao ps.length cap], .int .i64 block, .int .i64 op] w fun e w' => e = .returned (.int .u32 0) ∧ Below w.heap.size w w' := by
  have hb1 : Below w.heap.size w (w.alloc (.cells #[.slice ao ps.length cap] 24)) := below_al _
  have HK : Hid _ := in_is ao cap ps (w.alloc (.cells #[.slice ao ps.length cap] 24)) (h.below hb1) (he.up hb1)
  generalize inL ps = xs at *
  clear h he hb1
  by_cases h0 : block < 0
  · clear hn
    go_enter Tryd.func16, Tryd.ntmps16
    go_wp2_with (first
      | (go_at_call 12; refine Calls.mono HK.out ?_; rintro e w1 ⟨a, c, rfl, hU, hI, hb⟩; obtain ⟨a1, hb0, hz⟩ := one_new w _ _ hb; have HB1 : Hid (Below w.heap.size w w1) := hb0; clear hb hb0 a1 HK hU hI))
    go_ret
    exact ⟨rfl, HB1.out⟩
  · have hn' : (xs.length : Int) ≤ block := by omega
    clear hn
    go_enter Tryd.func16, Tryd.ntmps16
    go_wp2_with (first
      | (go_at_call 12; refine Calls.mono HK.out ?_; rintro e w1 ⟨a, c, rfl, hU, hI, hb⟩; obtain ⟨a1, hb0, hz⟩ := one_new w _ _ hb; have HB1 : Hid (Below w.heap.size w w1) := hb0; clear hb hb0 a1 HK hU hI))
    go_ret
    exact ⟨rfl, HB1.out⟩
set_option maxHeartbeats 2000000 in
theorem at_out (ao : Option Addr) (cap : Nat) (ps : List Bk) (g : Nat) (op : Int) (w : World) (h : PAt w ao ps) (he : Env w) (hg : g < ps.length) (hl : (inL ps).length = ps.length) (hn : op < 0 ∨ ps[g].ops.length < op) :
    Calls Tryd.prog 16 #[.agg #[.slice ao ps.length cap], .int .i64 g, .int .i64 op] w fun e w' => e = .returned (.int .u32 0) ∧ Below w.heap.size w w' := by
  have hb1 : Below w.heap.size w (w.alloc (.cells #[.slice ao ps.length cap] 24)) := below_al _
  have HK : Hid _ := in_is ao cap ps (w.alloc (.cells #[.slice ao ps.length cap] 24)) (h.below hb1) (he.up hb1)
  rw [hl] at HK
  generalize inL ps = xs at *
  obtain ⟨bp, fp, rfl, hblt, hx⟩ := h.is (by omega)
  obtain ⟨p, hp, hin⟩ := hx g hg
  have HP : Hid (BAt w bp (fp + g * 6) ps[g] p) := hp
  have hgz : (g : Int) < (ps.length : Int) := by omega
  clear h he hb1 hx hp hin hl
  by_cases h0 : op < 0
  · clear hn
    go_enter Tryd.func16, Tryd.ntmps16
    go_wp2_with (first
      | (go_at_call 12; refine Calls.mono HK.out ?_; rintro e w1 ⟨a, c, rfl, hU, hI, hb⟩; obtain ⟨a1, hb0, hz⟩ := one_new w _ _ hb; have HB1 : Hid (Below w.heap.size w w1) := hb0; have cb := a1.c 0 _ rfl; obtain ⟨c0, c1, c2, c3, c4, c5⟩ := HP.out.below hb0 hblt; clear hb hb0 a1 HK hU hI))
    go_ret
    exact ⟨rfl, HB1.out.alloc HB1.out.size _⟩
  · have hn' : (ps[g].ops.length : Int) < op := by omega
    clear hn
    go_enter Tryd.func16, Tryd.ntmps16
    go_wp2_with (first
      | (go_at_call 12; refine Calls.mono HK.out ?_; rintro e w1 ⟨a, c, rfl, hU, hI, hb⟩; obtain ⟨a1, hb0, hz⟩ := one_new w _ _ hb; have HB1 : Hid (Below w.heap.size w w1) := hb0; have cb := a1.c 0 _ rfl; obtain ⟨c0, c1, c2, c3, c4, c5⟩ := HP.out.below hb0 hblt; clear hb hb0 a1 HK hU hI))
    go_ret
    exact ⟨rfl, HB1.out.alloc HB1.out.size _⟩
/-- The world behind the block's own copy, and what lies in it. -/
structure Av (w1 V : World) (x : Bk) (p : Pl) (a : Option Addr) (xs : List Nat) : Prop where
  at0 : Op.At V w1.heap.size (x.cells p)
  bin : BIn V x p
  ul : Ul V a xs
  b : Below w1.heap.size w1 V
set_option maxHeartbeats 2000000 in
theorem at_yes (ao : Option Addr) (cap : Nat) (ps : List Bk) (g op : Nat) (w : World) (h : PAt w ao ps) (he : Env w) (hg : g < ps.length) (hl : (inL ps).length = ps.length) (ho : op ≤ ps[g].ops.length) :
    Calls Tryd.prog 16 #[.agg #[.slice ao ps.length cap], .int .i64 g, .int .i64 op] w fun e w' => e = .returned (.int .u32 ((aheadNL ((ps[g].ops.drop op).map wOf) (endN (bOf ps[g]) (inL ps)) : Nat) : Int)) ∧ Below w.heap.size w w' := by
  have hb1 : Below w.heap.size w (w.alloc (.cells #[.slice ao ps.length cap] 24)) := below_al _
  have HK : Hid _ := in_is ao cap ps (w.alloc (.cells #[.slice ao ps.length cap] 24)) (h.below hb1) (he.up hb1)
  have hok := psOk_of h
  rw [hl] at HK
  generalize inL ps = xs at *
  obtain ⟨bp, fp, rfl, hblt, hx⟩ := h.is (by omega)
  obtain ⟨p, hp, hin⟩ := hx g hg
  have HP : Hid (BAt w bp (fp + g * 6) ps[g] p ∧ BIn w ps[g] p) := ⟨hp, hin⟩
  have hgz : (g : Int) < (ps.length : Int) := by omega
  have HE : Hid (∀ W a c, Ul W a xs → BIn W ps[g] p → IsIn ps xs → Calls Tryd.prog 31 #[ps[g].val p, .slice a ps.length c] W fun e w' => e = .returned (.int .u32 ((endN (bOf ps[g]) xs : Nat) : Int)) ∧ Below W.heap.size W w') := fun W a c hU hB hI => by
    have hF := fine_of hI (by omega)
    have := aheadOfEnd_any ps[g] p a c xs W hB hU hF.fit (by omega) (hF.fin g hg)
    rw [hl] at this
    exact this
  have HLi : Hid (∀ W, BIn W ps[g] p → IsIn ps xs → Calls Tryd.prog 32 #[.slice (if p.oc = op then p.oa else p.oa.map (·.add (op * 5))) (ps[g].ops.length - op) (p.oc - op), .int .u32 ((endN (bOf ps[g]) xs : Nat) : Int)] W fun e w' => e = .returned (.int .u32 ((aheadNL ((ps[g].ops.drop op).map wOf) (endN (bOf ps[g]) xs) : Nat) : Int)) ∧ Below W.heap.size W w') := fun W hB hI => by
    have := aheadOfList_any _ (p.oc - op) (ps[g].ops.drop op) (endN (bOf ps[g]) xs) W (opsAt_drop hB.o hB.c ho) (end_fit hok (fine_of hI (by omega)) hg)
    rw [List.length_drop] at this
    exact this
  have hoz : (op : Int) ≤ (ps[g].ops.length : Int) := by omega
  have hoz' : ¬ (ps[g].ops.length : Int) < (op : Int) := by omega
  generalize aheadNL ((ps[g].ops.drop op).map wOf) (endN (bOf ps[g]) xs) = y2 at *
  generalize endN (bOf ps[g]) xs = y1 at *
  generalize ps[g] = x at *
  clear h he hb1 hx hp hin hok
  obtain ⟨xo, xf, xa, xb, xt, xe⟩ := x
  go_enter Tryd.func16, Tryd.ntmps16
  go_wp2_with (first
    | (go_at_call 12; refine Calls.mono HK.out ?_; rintro e w1 ⟨a, c, rfl, hU, hI, hb⟩; obtain ⟨a1, hb0, hz⟩ := one_new w _ _ hb; have HB1 : Hid (Below w.heap.size w w1) := hb0; have cb := a1.c 0 _ rfl; obtain ⟨c0, c1, c2, c3, c4, c5⟩ := HP.out.1.below hb0 hblt; have HU : Hid (Ul w1 a xs ∧ IsIn ps xs) := ⟨hU, hI⟩; clear hb hb0 a1 HK hU hI))
  have HA : Hid (Av w1 (w1.alloc (.cells (Bk.cells ⟨xo, xf, xa, xb, xt, xe⟩ p) 47)) ⟨xo, xf, xa, xb, xt, xe⟩ p a xs) := ⟨Op.At.new _ _ _, (HP.out.2.below HB1.out).below (below_al _), HU.out.1.below (below_al _), below_al _⟩
  generalize hV : w1.alloc (.cells (Bk.cells ⟨xo, xf, xa, xb, xt, xe⟩ p) 47) = V at *
  have d0 : ∀ z : Wd (Below V.heap.size V), z.w.cell? ⟨w1.heap.size, 0, none⟩ = some (.slice p.oa xo.length p.oc) := fun z => by rw [(bcell z.ok).1 _ _ HA.out.at0.lt]; exact HA.out.at0.c 0 _ rfl
  have d1 : ∀ z : Wd (Below V.heap.size V), z.w.cell? ⟨w1.heap.size, 1, none⟩ = some (.int .i8 xf) := fun z => by rw [(bcell z.ok).1 _ _ HA.out.at0.lt]; exact HA.out.at0.c 1 _ rfl
  have d2 : ∀ z : Wd (Below V.heap.size V), z.w.cell? ⟨w1.heap.size, 2, none⟩ = some (.int .u8 xa) := fun z => by rw [(bcell z.ok).1 _ _ HA.out.at0.lt]; exact HA.out.at0.c 2 _ rfl
  have d3 : ∀ z : Wd (Below V.heap.size V), z.w.cell? ⟨w1.heap.size, 3, none⟩ = some (.slice p.ba xb.length p.bc) := fun z => by rw [(bcell z.ok).1 _ _ HA.out.at0.lt]; exact HA.out.at0.c 3 _ rfl
  have d4 : ∀ z : Wd (Below V.heap.size V), z.w.cell? ⟨w1.heap.size, 4, none⟩ = some (.int .i64 xt) := fun z => by rw [(bcell z.ok).1 _ _ HA.out.at0.lt]; exact HA.out.at0.c 4 _ rfl
  have d5 : ∀ z : Wd (Below V.heap.size V), z.w.cell? ⟨w1.heap.size, 5, none⟩ = some (.int .i64 xe) := fun z => by rw [(bcell z.ok).1 _ _ HA.out.at0.lt]; exact HA.out.at0.c 5 _ rfl
  haveI inst : Nonempty (Wd (Below V.heap.size V)) := ⟨⟨V, Below.refl _ _⟩⟩
  clear c0 c1 c2 c3 c4 c5 cb hV
  refine wp_region_in (Below V.heap.size V) (by kernel_rfl) (by kernel_rfl) ((Below.refl _ _).drew) ?_
  repeat (first | go_big_quiet_step ((first
    | (go_at_call 31; exact calls_in (Nat.le_refl _) _ (HE.out _ _ _ (HA.out.ul.below (Wd.ok _)) (HA.out.bin.below (Wd.ok _)) HU.out.2))
    | (go_at_call 32; exact calls_in (Nat.le_refl _) _ (HLi.out _ (HA.out.bin.below (Wd.ok _)) HU.out.2)))))
  refine wpQuiet_nil ?_
  rintro _ ⟨x, rfl⟩
  have hx := x.ok
  go_wp2_with fail
  all_goals
    go_ret
    exact ⟨rfl, HB1.out.trans ((HA.out.b.trans (hx.mono HA.out.b.size)).mono HB1.out.size)⟩
theorem at_is (ao : Option Addr) (cap : Nat) (ps : List Bk) (block op : Int) (w : World) (h : PAt w ao ps) (he : Env w) (hI : IsIn ps (inL ps)) :
    Calls Tryd.prog 16 #[.agg #[.slice ao ps.length cap], .int .i64 block, .int .i64 op] w fun e w' => e = .returned (.int .u32 ((atN ps (inL ps) block op : Nat) : Int)) ∧ Below w.heap.size w w' := by
  have hl := hI.len
  by_cases hc : ckP ps = 0
  · rw [if_pos hc] at hl
    by_cases hb : 0 ≤ block ∧ block < ps.length
    · obtain ⟨g, rfl⟩ : ∃ g : Nat, block = g := ⟨block.toNat, by omega⟩
      have hg : g < ps.length := by omega
      by_cases ho : 0 ≤ op ∧ op ≤ ps[g].ops.length
      · obtain ⟨k, rfl⟩ : ∃ k : Nat, op = k := ⟨op.toNat, by omega⟩
        have e : atN ps (inL ps) (g : Int) (k : Int) = aheadNL ((ps[g].ops.drop k).map wOf) (endN (bOf ps[g]) (inL ps)) := by
          unfold atN
          rw [if_pos ⟨hc, hb⟩, Int.toNat_natCast, List.getElem?_eq_getElem hg]
          simp only []
          rw [if_pos ho]; rfl
        rw [e]
        exact at_yes ao cap ps g k w h he hg hl (by omega)
      · have e : atN ps (inL ps) (g : Int) op = 0 := by
          unfold atN
          rw [if_pos ⟨hc, hb⟩, Int.toNat_natCast, List.getElem?_eq_getElem hg]
          simp only []
          rw [if_neg ho]
        rw [e]
        exact at_out ao cap ps g op w h he hg hl (by omega)
    · have e : atN ps (inL ps) block op = 0 := by
        unfold atN
        rw [if_neg (fun h => hb h.2)]
      rw [e]
      exact at_no ao cap ps block op w h he (by omega)
  · rw [if_neg hc] at hl
    have e : atN ps (inL ps) block op = 0 := by
      unfold atN
      rw [if_neg (fun h => hc h.1)]
    rw [e]
    exact at_no ao cap ps block op w h he (by omega)
end Go.Proofs.YtlinekpaffgcjaaDoor.Li
