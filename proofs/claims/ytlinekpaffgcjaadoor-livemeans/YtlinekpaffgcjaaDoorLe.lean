/- The statement LiveEnds, out of what its callees answer: read off the program by the walk. Conditions: the program lies in memory; the variable lies there as the program lays it. -/
import Derived.Test.YtlinekpaffgcjaaDoorWn
namespace Go.Proofs.YtlinekpaffgcjaaDoor.Li
open Go.ChangeShapes Go.WideShapes Go.ChangeAt Go.RowKit Go.Maps
open _root_.Go.Proofs.YtlinekpaffgcjaaDoor.So _root_.Go.Proofs.YtlinekpaffgcjaaDoor.Op _root_.Go.Proofs.YtlinekpaffgcjaaDoor.Fl _root_.Go.Proofs.YtlinekpaffgcjaaDoor.Lv
set_option maxRecDepth 20000

/-- The program's box, and all that was there. -/
structure Bw (w W : World) (ao : Option Addr) (cap : Nat) (ps : List Bk) : Prop where
  a : Op.At W w.heap.size #[.slice ao ps.length cap]
  b : Below w.heap.size w W
theorem Bw.up {w W W' : World} {ao : Option Addr} {cap : Nat} {ps : List Bk} (h : Bw w W ao cap ps) (hb : Below W.heap.size W W') : Bw w W' ao cap ps := ⟨h.a.below hb h.a.lt, h.b.trans (hb.mono h.b.size)⟩
theorem Bw.new (w : World) (ao : Option Addr) (cap : Nat) (ps : List Bk) : Bw w (w.alloc (.cells #[.slice ao ps.length cap] 24)) ao cap ps := ⟨Op.At.new _ _ _, below_al _⟩
theorem Bw.cell {w W : World} {ao : Option Addr} {cap : Nat} {ps : List Bk} (h : Bw w W ao cap ps) : W.cell? ⟨w.heap.size, 0, none⟩ = some (.slice ao ps.length cap) := h.a.c 0 _ rfl
theorem put_mod {x d : Nat} (hx : x < 4294967296) (hd : d < 32) : bits .or .u32 (x : Int) ((2 : Int) ^ d % 4294967296) = ((put x d : Nat) : Int) := by rw [pow_mod hd]; exact u32_or_nat x (2 ^ d) hx (pow32 hd)
theorem clr_mod {x d : Nat} (hx : x < 4294967296) (hd : d < 32) : bits .andNot .u32 (x : Int) ((2 : Int) ^ d % 4294967296) = ((clr x d : Nat) : Int) := by rw [pow_mod hd]; exact u32_andNot_nat x (2 ^ d) hx (pow32 hd)
theorem len_le {ps : List Bk} (hc : ckP ps = 0) : ps.length ≤ 8192 := Nat.le_trans (good_of hc).le (by decide)

set_option maxHeartbeats 1000000 in
theorem ends_wake (ao : Option Addr) (cap : Nat) (ps : List Bk) (block : Int) (w : World) (h : PAt w ao ps) (he : Env w) (hn : ckP ps ≠ 0 ∨ 300 < opsN ps ∨ block < 0 ∨ (ps.length : Int) ≤ block) :
    Calls Tryd.prog 5 #[.agg #[.slice ao ps.length cap], .int .i64 block] w fun e w' => e = .returned (.bool true) ∧ Below w.heap.size w w' := by
  have HQ : Hid (Bw w (w.alloc (.cells #[.slice ao ps.length cap] 24)) ao cap ps) := Bw.new w ao cap ps
  have HC : Hid (∀ W, Bw w W ao cap ps → Calls Tryd.prog 7 #[.agg #[.slice ao ps.length cap]] W fun e w' => e = .returned (.int .i64 (ckP ps)) ∧ Below W.heap.size W w') := fun W hb => checkP_any ao cap ps W (h.below hb.b) (he.up hb.b)
  have HK : Hid (∀ W, Bw w W ao cap ps → Calls Tryd.prog 9 #[] W fun e w' => e = .returned (.bool true) ∧ Below W.heap.size W w') := fun W hb => wakes_any W (he.up hb.b)
  by_cases hc : ckP ps = 0
  · rw [hc] at HC
    have HO : Hid (∀ W, Bw w W ao cap ps → Calls Tryd.prog 8 #[.agg #[.slice ao ps.length cap]] W fun e w' => e = .returned (.int .i64 ((opsN ps : Nat) : Int)) ∧ Below W.heap.size W w') := fun W hb => ops_any ao cap ps W (h.below hb.b) (len_le hc)
    have hn' : 300 < opsN ps ∨ block < 0 ∨ (ps.length : Int) ≤ block := by rcases hn with h | h; exact absurd hc h; exact h
    clear h he hc hn
    generalize opsN ps = on at *
    by_cases h1 : 300 < on
    · have h1' : (300 : Int) < (on : Int) := by omega
      clear hn'
      go_enter Tryd.func5, Tryd.ntmps5
      go_wp2_with (first
        | (go_at_call 7; refine Calls.mono (HC.out _ HQ.out) ?_; rintro e w1 ⟨rfl, hb⟩; have H1 : Hid _ := HQ.out.up hb; have cb := H1.out.cell; clear hb HQ HC)
        | (go_at_call 8; refine Calls.mono (HO.out _ H1.out) ?_; rintro e w2 ⟨rfl, hb⟩; have H2 : Hid _ := H1.out.up hb; clear hb H1 HO cb)
        | (go_at_call 9; refine Calls.mono (HK.out _ H2.out) ?_; rintro e w3 ⟨rfl, hb⟩; have H3 : Hid _ := H2.out.up hb; clear hb H2 HK))
      go_ret
      exact ⟨rfl, H3.out.b⟩
    · have h1' : ¬ (300 : Int) < (on : Int) := by omega
      by_cases h2 : block < 0
      · clear hn'
        go_enter Tryd.func5, Tryd.ntmps5
        go_wp2_with (first
          | (go_at_call 7; refine Calls.mono (HC.out _ HQ.out) ?_; rintro e w1 ⟨rfl, hb⟩; have H1 : Hid _ := HQ.out.up hb; have cb := H1.out.cell; clear hb HQ HC)
          | (go_at_call 8; refine Calls.mono (HO.out _ H1.out) ?_; rintro e w2 ⟨rfl, hb⟩; have H2 : Hid _ := H1.out.up hb; clear hb H1 HO cb)
          | (go_at_call 9; refine Calls.mono (HK.out _ H2.out) ?_; rintro e w3 ⟨rfl, hb⟩; have H3 : Hid _ := H2.out.up hb; clear hb H2 HK))
        go_ret
        exact ⟨rfl, H3.out.b⟩
      · have h3 : (ps.length : Int) ≤ block := by omega
        clear hn'
        go_enter Tryd.func5, Tryd.ntmps5
        go_wp2_with (first
          | (go_at_call 7; refine Calls.mono (HC.out _ HQ.out) ?_; rintro e w1 ⟨rfl, hb⟩; have H1 : Hid _ := HQ.out.up hb; have cb := H1.out.cell; clear hb HQ HC)
          | (go_at_call 8; refine Calls.mono (HO.out _ H1.out) ?_; rintro e w2 ⟨rfl, hb⟩; have H2 : Hid _ := H1.out.up hb; have cb2 := H2.out.cell; clear hb H1 HO cb)
          | (go_at_call 9; refine Calls.mono (HK.out _ H2.out) ?_; rintro e w3 ⟨rfl, hb⟩; have H3 : Hid _ := H2.out.up hb; clear hb H2 HK))
        go_ret
        exact ⟨rfl, H3.out.b⟩
  · generalize ckP ps = z at *
    clear h he hn
    go_enter Tryd.func5, Tryd.ntmps5
    go_wp2_with (first
      | (go_at_call 7; refine Calls.mono (HC.out _ HQ.out) ?_; rintro e w1 ⟨rfl, hb⟩; have H1 : Hid _ := HQ.out.up hb; clear hb HQ HC)
      | (go_at_call 9; refine Calls.mono (HK.out _ H1.out) ?_; rintro e w3 ⟨rfl, hb⟩; have H3 : Hid _ := H1.out.up hb; clear hb H1 HK))
    go_ret
    exact ⟨rfl, H3.out.b⟩
/-- Both lists in memory. -/
structure Eu (w W : World) (ao : Option Addr) (cap : Nat) (ps : List Bk) (a b : Nat) (y z : Nat) (g : Nat) : Prop where
  q : Bw w W ao cap ps
  ia : a < W.heap.size
  ib : b < W.heap.size
  ca : W.cell? ⟨a, g, none⟩ = some (.int .u32 (y : Int))
  cb : W.cell? ⟨b, g, none⟩ = some (.int .u32 (z : Int))
theorem out_get {ps : List Bk} {xs : List Nat} {g : Nat} (hc : ckP ps = 0) (hg : g < ps.length) : inN (outL ps xs) g = endN (bOf ps[g]) xs := by
  unfold outL
  rw [if_pos hc, inN_eq (by simpa using hg)]
  simp
set_option maxHeartbeats 4000000 in
theorem ends_main (ao : Option Addr) (cap : Nat) (ps : List Bk) (g : Nat) (w : World) (h : PAt w ao ps) (he : Env w) (hc : ckP ps = 0) (ho : opsN ps ≤ 300) (hg : g < ps.length) :
    Calls Tryd.prog 5 #[.agg #[.slice ao ps.length cap], .int .i64 g] w fun e w' => e = .returned (.bool true) ∧ Below w.heap.size w w' := by
  have HQ : Hid (Bw w (w.alloc (.cells #[.slice ao ps.length cap] 24)) ao cap ps) := Bw.new w ao cap ps
  have HC : Hid (∀ W, Bw w W ao cap ps → Calls Tryd.prog 7 #[.agg #[.slice ao ps.length cap]] W fun e w' => e = .returned (.int .i64 0) ∧ Below W.heap.size W w') := fun W hb => by
    have := checkP_any ao cap ps W (h.below hb.b) (he.up hb.b)
    rw [hc] at this; exact this
  have HK : Hid (∀ W, Bw w W ao cap ps → Calls Tryd.prog 9 #[] W fun e w' => e = .returned (.bool true) ∧ Below W.heap.size W w') := fun W hb => wakes_any W (he.up hb.b)
  have HO : Hid (∀ W, Bw w W ao cap ps → Calls Tryd.prog 8 #[.agg #[.slice ao ps.length cap]] W fun e w' => e = .returned (.int .i64 ((opsN ps : Nat) : Int)) ∧ Below W.heap.size W w') := fun W hb => ops_any ao cap ps W (h.below hb.b) (len_le hc)
  have hok := psOk_of h
  have HI : Hid (∀ W, Bw w W ao cap ps → Calls Tryd.prog 12 #[.agg #[.slice ao ps.length cap]] W fun e w' => ∃ a c, e = .returned (.slice (some ⟨a, 0, none⟩) ps.length c) ∧ IsIn ps (inL ps) ∧ (a < w'.heap.size ∧ w'.cell? ⟨a, g, none⟩ = some (.int .u32 ((inN (inL ps) g : Nat) : Int))) ∧ Below W.heap.size W w') := fun W hb =>
    (in_is ao cap ps W (h.below hb.b) (he.up hb.b)).mono fun e w' ⟨a, c, h1, h2, h3, h4⟩ => by
      have hl := h3.len
      rw [if_pos hc] at hl
      rw [hl] at h1
      obtain ⟨b, rfl, hlt⟩ := h2.addr (by omega)
      exact ⟨b, c, h1, h3, ⟨hlt, h2.at (by omega)⟩, h4⟩
  have HU : Hid (∀ W, Bw w W ao cap ps → Calls Tryd.prog 14 #[.agg #[.slice ao ps.length cap]] W fun e w' => ∃ a c, e = .returned (.slice (some ⟨a, 0, none⟩) ps.length c) ∧ (a < w'.heap.size ∧ w'.cell? ⟨a, g, none⟩ = some (.int .u32 ((endN (bOf ps[g]) (inL ps) : Nat) : Int))) ∧ Below W.heap.size W w') := fun W hb =>
    (out_is ao cap ps W (h.below hb.b) (he.up hb.b)).mono fun e w' ⟨a, c, h1, h2, h3, h4⟩ => by
      have hl : (outL ps (inL ps)).length = ps.length := by unfold outL; rw [if_pos hc]; simp
      have hx := h2.addr (by omega)
      obtain ⟨b, rfl, hlt⟩ := hx
      have hcl := h2.at (t := g) (by omega)
      rw [out_get hc hg] at hcl
      rw [hl] at h1
      exact ⟨b, c, h1, ⟨hlt, hcl⟩, h4⟩
  have HA : Hid (∀ (k : Nat) W, k ≤ ps[g].ops.length → IsIn ps (inL ps) → Bw w W ao cap ps → Calls Tryd.prog 16 #[.agg #[.slice ao ps.length cap], .int .i64 g, .int .i64 (k : Int)] W fun e w' => e = .returned (.int .u32 ((aheadNL ((ps[g].ops.drop k).map wOf) (endN (bOf ps[g]) (inL ps)) : Nat) : Int)) ∧ Below W.heap.size W w') := fun k W hk hI hb => at_yes ao cap ps g k W (h.below hb.b) (he.up hb.b) hg (by rw [hI.len, if_pos hc]) hk
  have HF0 : Hid (IsIn ps (inL ps) → aheadNL ((ps[g].ops.drop 0).map wOf) (endN (bOf ps[g]) (inL ps)) = inN (inL ps) g) := fun hI => hI.fix hok hc hg
  have HFn : Hid (aheadNL ((ps[g].ops.drop ps[g].ops.length).map wOf) (endN (bOf ps[g]) (inL ps)) = endN (bOf ps[g]) (inL ps)) := by
    show _ = _
    rw [List.drop_length]; rfl
  have HEl : Hid (IsIn ps (inL ps) → ∀ k, aheadNL ((ps[g].ops.drop k).map wOf) (endN (bOf ps[g]) (inL ps)) < 4294967296) := fun hI k => drop_lt (end_fit hok (fine_of hI (by rw [hI.len, if_pos hc]; omega)) hg) (hok _ (List.getElem_mem hg)).2.1
  obtain ⟨bp, fp, rfl, hblt, hx⟩ := h.is (by omega)
  obtain ⟨p, hp, hin⟩ := hx g hg
  have HP : Hid (BAt w bp (fp + g * 6) ps[g] p ∧ BIn w ps[g] p) := ⟨hp, hin⟩
  have hgz : (g : Int) < (ps.length : Int) := by omega
  have hlen := hin.o.len
  have hoz : ¬ (300 : Int) < ((opsN ps : Nat) : Int) := by omega
  generalize opsN ps = on at *
  generalize hys : inN (inL ps) g = y0 at *
  generalize hes : endN (bOf ps[g]) (inL ps) = z0 at *
  generalize hIs : IsIn ps (inL ps) = IS at *
  generalize ps[g] = x at *
  clear h he hc ho hx hp hin hok hys hes hIs
  obtain ⟨xo, xf, xa, xb, xt, xe⟩ := x
  obtain ⟨oa, oc, ba, bc⟩ := p
  simp only at HA HF0 HFn HEl hlen
  go_enter Tryd.func5, Tryd.ntmps5
  go_upto_region 8 with (first
    | (go_at_call 7; refine Calls.mono (HC.out _ HQ.out) ?_; rintro e w1 ⟨rfl, hb⟩; have H1 : Hid _ := HQ.out.up hb; have c1 := H1.out.cell; clear hb HQ HC)
    | (go_at_call 8; refine Calls.mono (HO.out _ H1.out) ?_; rintro e w2 ⟨rfl, hb⟩; have H2 : Hid _ := H1.out.up hb; have c2 := H2.out.cell; clear hb H1 HO c1)
    | (go_at_call 12; refine Calls.mono (HI.out _ H2.out) ?_; rintro e w3 ⟨a, ca, rfl, hIs, ⟨ia, cia⟩, hb⟩; have H3 : Hid (Bw w w3 (some ⟨bp, fp, none⟩) cap ps ∧ a < w3.heap.size ∧ w3.cell? ⟨a, g, none⟩ = some (.int .u32 (y0 : Int))) := ⟨H2.out.up hb, ia, cia⟩; have c3 := H3.out.1.cell; have HIS : Hid IS := hIs; clear hb H2 HI c2 hIs ia cia)
    | (go_at_call 14; refine Calls.mono (HU.out _ H3.out.1) ?_; rintro e w4 ⟨b, cb', rfl, ⟨ib, cib⟩, hb⟩; have H4 : Hid (Eu w w4 (some ⟨bp, fp, none⟩) cap ps a b y0 z0 g) := ⟨H3.out.1.up hb, Nat.lt_of_lt_of_le H3.out.2.1 hb.size, ib, by rw [(bcell hb).1 _ _ H3.out.2.1]; exact H3.out.2.2, cib⟩; have c4 := H4.out.q.cell; obtain ⟨p0, p1, p2, p3, p4, p5⟩ := HP.out.1.below H4.out.q.b hblt; clear hb H3 HU c3 ib cib))
  have hfin : Hid ((xo.length : Nat) ≤ xo.length) := Nat.le_refl _
  have HX : Hid (∀ z : Wd (Below w4.heap.size w4), Bw w z.w (some ⟨bp, fp, none⟩) cap ps) := fun z => H4.out.q.up z.ok
  have e0 : ∀ z : Wd (Below w4.heap.size w4), z.w.cell? ⟨w.heap.size, 0, none⟩ = some (.slice (some ⟨bp, fp, none⟩) ps.length cap) := fun z => (HX.out z).cell
  have e1 : ∀ z : Wd (Below w4.heap.size w4), z.w.cell? ⟨a, g, none⟩ = some (.int .u32 (y0 : Int)) := fun z => by rw [(bcell z.ok).1 _ _ H4.out.ia]; exact H4.out.ca
  have e2 : ∀ z : Wd (Below w4.heap.size w4), z.w.cell? ⟨b, g, none⟩ = some (.int .u32 (z0 : Int)) := fun z => by rw [(bcell z.ok).1 _ _ H4.out.ib]; exact H4.out.cb
  have HA0 : Hid (∀ z : Wd (Below w4.heap.size w4), Calls Tryd.prog 16 #[.agg #[.slice (some ⟨bp, fp, none⟩) ps.length cap], .int .i64 g, .int .i64 0] z.w fun e w' => e = .returned (.int .u32 (y0 : Int)) ∧ Below z.w.heap.size z.w w') := fun z => by
    have := HA.out 0 z.w (Nat.zero_le _) HIS.out (HX.out z)
    rw [HF0.out HIS.out] at this; exact this
  have HAn : Hid (∀ z : Wd (Below w4.heap.size w4), Calls Tryd.prog 16 #[.agg #[.slice (some ⟨bp, fp, none⟩) ps.length cap], .int .i64 g, .int .i64 (xo.length : Int)] z.w fun e w' => e = .returned (.int .u32 (z0 : Int)) ∧ Below z.w.heap.size z.w w') := fun z => by
    have := HA.out xo.length z.w (Nat.le_refl _) HIS.out (HX.out z)
    rw [HFn.out] at this; exact this
  haveI inst : Nonempty (Wd (Below w4.heap.size w4)) := ⟨⟨w4, Below.refl _ _⟩⟩
  clear c4 p0 p1 p2 p3 p4 p5
  go_wp2_with fail
  refine wp_region_in (Below w4.heap.size w4) (by kernel_rfl) (by kernel_rfl) ((Below.refl _ _).drew) ?_
  repeat (first | go_big_quiet_step ((first
    | (go_at_call_of 16 (Value.int IntKind.i64 0); exact calls_in (Nat.le_refl _) _ (HA0.out _))
    | (go_at_call 16; exact calls_in (Nat.le_refl _) _ (HAn.out _)))))
  refine wpQuiet_nil ?_
  rintro _ ⟨x, rfl⟩
  have H5 : Hid (Bw w x.w (some ⟨bp, fp, none⟩) cap ps) := HX.out x
  have HPo : Hid (OpsAt w oa xo) := HP.out.2.o
  generalize x.w = w5 at *
  clear e0 e1 e2 HA0 HAn inst HX H4 x HF0 HFn HP hfin
  go_wp2_with fail
  go_loopw [8] (fun i wr => ∃ k : Nat, k ≤ xo.length ∧ i = .int .i64 k ∧ Hid (Bw w wr (some ⟨bp, fp, none⟩) cap ps)) (fun i _ => xo.length - (intOf i).toNat)
  case atStart => exact ⟨0, by omega, rfl, H5.out⟩
  case round =>
    rename_i wr
    clear H5
    obtain ⟨k, hk, rfl, H6⟩ := hrel
    have cb := H6.out.cell
    by_cases hlk : k < xo.length
    · have hkz : (k : Int) < (xo.length : Int) := by omega
      have e1 : ((k : Int) + 1) = ((k + 1 : Nat) : Int) := by omega
      have HA1 : Hid (∀ W, Bw w W (some ⟨bp, fp, none⟩) cap ps → Calls Tryd.prog 16 #[.agg #[.slice (some ⟨bp, fp, none⟩) ps.length cap], .int .i64 g, .int .i64 ((k : Int) + 1)] W fun e w' => e = .returned (.int .u32 ((aheadNL ((xo.drop (k + 1)).map wOf) z0 : Nat) : Int)) ∧ Below W.heap.size W w') := fun W hW => by rw [e1]; exact HA.out (k + 1) W hlk HIS.out hW
      have HA2 : Hid (∀ W, Bw w W (some ⟨bp, fp, none⟩) cap ps → Calls Tryd.prog 16 #[.agg #[.slice (some ⟨bp, fp, none⟩) ps.length cap], .int .i64 g, .int .i64 (k : Int)] W fun e w' => e = .returned (.int .u32 ((aheadN (wOf xo[k]) (aheadNL ((xo.drop (k + 1)).map wOf) z0) : Nat) : Int)) ∧ Below W.heap.size W w') := fun W hW => by
        have := HA.out k W hk HIS.out hW
        rw [drop_put hlk] at this; exact this
      have hyb : aheadNL ((xo.drop (k + 1)).map wOf) z0 < 4294967296 := HEl.out HIS.out (k + 1)
      obtain ⟨b1, f1, e2, hz1, hoc⟩ := HPo.out.is (by omega)
      have HOc : Hid (OAt w b1 (f1 + k * 5) xo[k]) := hoc k hlk
      have hoko : xo[k].Ok := HPo.out.ok _ (List.getElem_mem hlk)
      have hs := Lv.small_of xo[k] hoko
      have HW0 := fun W => writes_any xo[k] W hoko
      have HR0 := fun W => reads_sl xo[k] W hoko
      have hrd : ∀ r ∈ rdL xo[k], r < 32 := hs.1
      have hdef : ∀ y, aheadN (wOf xo[k]) y = (rdL xo[k]).foldl put (wipe (wOf xo[k]) y) := fun y => rfl
      rw [hdef] at HA2
      have hll : (rdL xo[k]).length ≤ 2 := by unfold rdL; split <;> (try split) <;> (try split) <;> simp
      generalize aheadNL ((xo.drop (k + 1)).map wOf) z0 = y at *
      clear HA hoc hdef e1 HEl
      obtain rfl : oa = some ⟨b1, f1, none⟩ := e2
      generalize hrs : rdL xo[k] = rs at *
      have HR : Hid (∀ W, Calls Tryd.prog 21 #[xo[k].val] W fun e w' => ∃ a c, e = .returned (.slice a rs.length c) ∧ Rl w' a rs ∧ Below W.heap.size W w') := HR0
      clear HR0
      cases hw : wrB xo[k] with
      | false =>
        have e0 : wipe (wOf xo[k]) y = y := by simp [wipe, wOf, hw]
        rw [e0] at HA2
        have HW : Hid (∀ W, Calls Tryd.prog 20 #[xo[k].val] W fun e w' => e = .returned (.tuple #[.int .u8 (wrD xo[k]), .bool false]) ∧ Below W.heap.size W w') := by rw [hw] at HW0; exact HW0
        generalize xo[k] = o at *
        clear hs hw e0 hoko hrs HW0
        go_wp2_with (first
          | (go_at_call 16; refine Calls.mono (HA1.out _ H6.out) ?_; rintro e w7 ⟨rfl, hb⟩; have H7 : Hid (Bw w w7 (some ⟨bp, fp, none⟩) cap ps) := H6.out.up hb; obtain ⟨o0, o1, o2, o3, o4⟩ := HOc.out.below H7.out.b hz1; clear hb H6 HA1 cb)
          | (go_at_call 20; refine Calls.mono (HW.out _) ?_; rintro e w8 ⟨rfl, hb⟩; have H8 : Hid (Bw w w8 (some ⟨bp, fp, none⟩) cap ps) := H7.out.up hb; clear o0 o1 o2 o3 o4; obtain ⟨o0, o1, o2, o3, o4⟩ := HOc.out.below H8.out.b hz1; clear hb H7 HW)
          | (go_at_call 21; refine Calls.mono (HR.out _) ?_; rintro e w9 ⟨ra, rc, rfl, hl, hb⟩; have H9 : Hid (Bw w w9 (some ⟨bp, fp, none⟩) cap ps ∧ Rl w9 ra rs) := ⟨H8.out.up hb, hl⟩; have c9 := H9.out.1.cell; clear hb hl HR H8 o0 o1 o2 o3 o4))
        go_loop [9, 13] (fun v i => ∃ j : Nat, j ≤ rs.length ∧ i = .int .i64 j ∧ v = .int .u32 (((rs.take j).foldl put y : Nat) : Int)) (fun _ i => rs.length - (intOf i).toNat)
        case atStart => exact ⟨0, by omega, rfl, rfl⟩
        case round =>
          obtain ⟨j, hj, rfl, rfl⟩ := hrel
          by_cases hlj : j < rs.length
          · obtain ⟨b2, rfl, hb2, hc2⟩ := H9.out.2.is (by omega)
            have cc := hc2 j hlj
            have hr : rs[j] < 32 := hrd _ (List.getElem_mem hlj)
            have hr1 : ((rs[j] : Nat) : Int) ≤ 32 := by omega
            have hr2 : (0 : Int) ≤ ((rs[j] : Nat) : Int) := by omega
            have hjz : (j : Int) < (rs.length : Int) := by omega
            have hb1 : (rs.take j).foldl put y < 4294967296 := take_lt hyb hrd
            have HE : Hid _ := put_mod hb1 hr
            have HT : Hid _ := take_put (y := y) hlj
            generalize rs[j] = r at *
            generalize (rs.take j).foldl put y = u at *
            clear hc2 H9 hb1 c9
            go_wp2
            go_roundw
            case rel => exact ⟨j + 1, by omega, by go_num, by rw [HT.out, HE.out]⟩
            case measure => simp [intOf]; omega
          · obtain rfl : j = rs.length := by omega
            rw [List.take_length]
            generalize rs.foldl put y = u at *
            go_wp2_with (first
              | (go_at_call 16; refine Calls.mono (HA2.out _ H9.out.1) ?_; rintro e wa ⟨rfl, hb⟩; have HZ : Hid (Bw w wa (some ⟨bp, fp, none⟩) cap ps) := H9.out.1.up hb; clear hb H9 HA2 c9))
            go_roundw
            case rel => exact ⟨k + 1, by omega, by go_num, HZ.out⟩
            case measure => simp [intOf]; omega
      | true =>
        have hd0 : wrD xo[k] = ((xo[k].d.toNat : Nat) : Int) := by
          obtain ⟨_, _, hd, _⟩ := hoko
          simp only [wrD, hw, if_true]; omega
        have hd1 : xo[k].d.toNat < 32 := hs.2 _ (by simp [wOf, hw])
        have e0 : wipe (wOf xo[k]) y = clr y xo[k].d.toNat := by simp [wipe, wOf, hw]
        rw [e0] at HA2
        have HW : Hid (∀ W, Calls Tryd.prog 20 #[xo[k].val] W fun e w' => e = .returned (.tuple #[.int .u8 ((xo[k].d.toNat : Nat) : Int), .bool true]) ∧ Below W.heap.size W w') := by rw [hw, hd0] at HW0; exact HW0
        have HCl : Hid _ := clr_mod hyb hd1
        have hd2 : ((xo[k].d.toNat : Nat) : Int) ≤ 32 := by omega
        have hd3 : (0 : Int) ≤ ((xo[k].d.toNat : Nat) : Int) := by omega
        generalize xo[k].d.toNat = d at *
        generalize xo[k] = o at *
        clear hs hw e0 hoko hrs HW0 hd0
        go_wp2_with (first
          | (go_at_call 16; refine Calls.mono (HA1.out _ H6.out) ?_; rintro e w7 ⟨rfl, hb⟩; have H7 : Hid (Bw w w7 (some ⟨bp, fp, none⟩) cap ps) := H6.out.up hb; obtain ⟨o0, o1, o2, o3, o4⟩ := HOc.out.below H7.out.b hz1; clear hb H6 HA1 cb)
          | (go_at_call 20; refine Calls.mono (HW.out _) ?_; rintro e w8 ⟨rfl, hb⟩; have H8 : Hid (Bw w w8 (some ⟨bp, fp, none⟩) cap ps) := H7.out.up hb; clear o0 o1 o2 o3 o4; obtain ⟨o0, o1, o2, o3, o4⟩ := HOc.out.below H8.out.b hz1; clear hb H7 HW)
          | (go_at_call 21; refine Calls.mono (HR.out _) ?_; rintro e w9 ⟨ra, rc, rfl, hl, hb⟩; have H9 : Hid (Bw w w9 (some ⟨bp, fp, none⟩) cap ps ∧ Rl w9 ra rs) := ⟨H8.out.up hb, hl⟩; have c9 := H9.out.1.cell; clear hb hl HR H8 o0 o1 o2 o3 o4))
        go_loop [9, 13] (fun v i => ∃ j : Nat, j ≤ rs.length ∧ i = .int .i64 j ∧ v = .int .u32 (((rs.take j).foldl put (clr y d) : Nat) : Int)) (fun _ i => rs.length - (intOf i).toNat)
        case atStart => exact ⟨0, by omega, rfl, by rw [HCl.out]; rfl⟩
        case round =>
          obtain ⟨j, hj, rfl, rfl⟩ := hrel
          by_cases hlj : j < rs.length
          · obtain ⟨b2, rfl, hb2, hc2⟩ := H9.out.2.is (by omega)
            have cc := hc2 j hlj
            have hr : rs[j] < 32 := hrd _ (List.getElem_mem hlj)
            have hr1 : ((rs[j] : Nat) : Int) ≤ 32 := by omega
            have hr2 : (0 : Int) ≤ ((rs[j] : Nat) : Int) := by omega
            have hjz : (j : Int) < (rs.length : Int) := by omega
            have hb1 : (rs.take j).foldl put (clr y d) < 4294967296 := take_lt (clr_lt d hyb) hrd
            have HE : Hid _ := put_mod hb1 hr
            have HT : Hid _ := take_put (y := (clr y d)) hlj
            generalize rs[j] = r at *
            generalize (rs.take j).foldl put (clr y d) = u at *
            clear hc2 H9 hb1 c9
            go_wp2
            go_roundw
            case rel => exact ⟨j + 1, by omega, by go_num, by rw [HT.out, HE.out]⟩
            case measure => simp [intOf]; omega
          · obtain rfl : j = rs.length := by omega
            rw [List.take_length]
            generalize rs.foldl put (clr y d) = u at *
            go_wp2_with (first
              | (go_at_call 16; refine Calls.mono (HA2.out _ H9.out.1) ?_; rintro e wa ⟨rfl, hb⟩; have HZ : Hid (Bw w wa (some ⟨bp, fp, none⟩) cap ps) := H9.out.1.up hb; clear hb H9 HA2 c9))
            go_roundw
            case rel => exact ⟨k + 1, by omega, by go_num, HZ.out⟩
            case measure => simp [intOf]; omega
    · obtain rfl : k = xo.length := by omega
      clear HA HEl HPo
      go_wp2_with (first
        | (go_at_call 9; refine Calls.mono (HK.out _ H6.out) ?_; rintro e w7 ⟨rfl, hb⟩; have H7 : Hid _ := H6.out.up hb; clear hb))
      go_ret
      exact ⟨rfl, H7.out.b⟩
theorem law_ends (ao : Option Addr) (cap : Nat) (ps : List Bk) (block : Int) (w : World) (h : PAt w ao ps) (he : Env w) :
    Calls Tryd.prog 5 #[.agg #[.slice ao ps.length cap], .int .i64 block] w fun e w' => e = .returned (.bool true) ∧ Below w.heap.size w w' := by
  by_cases hn : ckP ps ≠ 0 ∨ 300 < opsN ps ∨ block < 0 ∨ (ps.length : Int) ≤ block
  · exact ends_wake ao cap ps block w h he hn
  · obtain ⟨g, rfl⟩ : ∃ g : Nat, block = g := ⟨block.toNat, by omega⟩
    exact ends_main ao cap ps g w h he (by omega) (by omega) (by omega)
end Go.Proofs.YtlinekpaffgcjaaDoor.Li
