/- A program without what is dead (Bury): read off the program by the walk. Conditions: the program lies in memory; the variables as the program lays them. -/
import Derived.Test.YtddcndlogoajkaaDoorGj
namespace Go.Proofs.YtddcndlogoajkaaDoor.L8.Bt
open Go.ChangeShapes Go.WideShapes Go.ChangeAt Go.RowKit Go.Great
open _root_.Go.Proofs.YtddcndlogoajkaaDoor.L8.Op _root_.Go.Proofs.YtddcndlogoajkaaDoor.L8.So
open _root_.Go.Proofs.YtddcndlogoajkaaDoor.L8.Li (InIs in_ex)
open _root_.Go.Proofs.YtddcndlogoajkaaDoor.L8.Lv (rdL wOf PsOk psOk_of IsIn endN bOf)
set_option maxRecDepth 20000

theorem bu_less {zs : List Bk} {I : List Nat} (hI : IsIn zs I) (hG : PsG zs) (hb : buB zs I zs.length = true) : ∃ m, 0 < m ∧ Tks m zs (swP zs I zs.length) := by
  obtain ⟨m, hm⟩ := swP_tks hI hG.ck hG.ok zs.length (Nat.le_refl _)
  cases m with
  | succ m => exact ⟨m + 1, by omega, hm⟩
  | zero =>
    have hm : zs = swP zs I zs.length := hm
    have : buB zs I zs.length = false := buB_stay.2 fun i hi _ => by
      have h2 : (swP zs I zs.length)[i]? = some (swx I zs[i]) := by rw [swP_end, List.getElem?_map, List.getElem?_eq_getElem hi]; rfl
      rw [← hm, List.getElem?_eq_getElem hi] at h2
      have h3 := Option.some.inj h2
      have h4 := congrArg (fun x => x.ops.length) h3
      exact h4.symm
    rw [this] at hb; cases hb
/-- The burying, under way. -/
structure Br (w wr : World) (g c t : Nat) (ps zs : List Bk) : Prop where
  p : Pw wr (w.heap.size + 2) g zs
  r : At wr (w.heap.size + 1) #[.slice none 0 0]
  q : At wr t #[.slice (some ⟨g, 0, none⟩) ps.length c]
  b : Below w.heap.size w wr
  o : t ≠ g
  m : ∃ m, Tks m ps zs
theorem Br.step {w wr w' : World} {g c t : Nat} {ps zs zs' : List Bk} (h : Br w wr g c t ps zs) (hp : Pw w' (w.heap.size + 2) g zs') (hF : Fr (One g) wr w') (hm : ∃ m, Tks m zs zs') : Br w w' g c t ps zs' := by
  have hg := h.p.zg
  refine ⟨hp, at_fr h.r hF (fun q => by have q : w.heap.size + 1 = g := q; omega), at_fr h.q hF (fun q => h.o q), h.b.trans (hF.below h.b.size fun j hj q => by have q : j = g := q; omega), h.o, ?_⟩
  obtain ⟨m1, h1⟩ := h.m
  obtain ⟨m2, h2⟩ := hm
  exact ⟨m1 + m2, tks_add h1 h2⟩
set_option maxHeartbeats 4000000 in
theorem bury_ok (qs : List Bk) (ao : Option Addr) (cap : Nat) (ps : List Bk) (w : World) (h : PAt w ao ps) (he : Env w) (hG : PsG ps) (hq : FinIs ps qs) :
    Calls Tryd.prog 8 #[.agg #[.slice ao ps.length cap]] w fun e w' => ∃ a c, e = .returned (.tuple #[.agg #[.slice a ps.length c], .int .i64 0]) ∧ PAt w' a qs ∧ Fin ps qs ∧ Below w.heap.size w w' := by
  have HC : Hid (∀ W, Below w.heap.size w W → Calls Tryd.prog 4 #[.agg #[.slice ao ps.length cap]] W fun e w' => e = .returned (.int .i64 0) ∧ Below W.heap.size W w') := fun W hb => by
    have := checkP_any ao cap ps W (h.below hb) (he.up hb)
    rw [hG.ck] at this
    exact this
  have HCp : Hid (∀ W, Below w.heap.size w W → Calls Tryd.prog 11 #[.agg #[.slice ao ps.length cap]] W fun e w' => ∃ g c own, e = .returned (.agg #[.slice (some ⟨g, 0, none⟩) ps.length c]) ∧ Pr w' W.heap.size own g ps ∧ Below W.heap.size W w' ∧ ∀ b, own b ≠ 0 → W.heap.size ≤ b ∧ b < w'.heap.size) := fun W hb => copied_any ao cap ps W (h.below hb) hG.p hG.n (psG_small hG)
  have HBD : Hid (∀ (W : World) (g c t : Nat) (zs : List Bk) (I : List Nat), Br w W g c t ps zs → InIs zs I → Calls Tryd.prog 13 #[.agg #[.slice (some ⟨g, 0, none⟩) ps.length c]] W fun e w' => e = .returned (.bool (buB zs I zs.length)) ∧ IsIn zs I ∧ PsG zs ∧ ∀ m, Tks m zs (swP zs I zs.length) → Br w w' g c t ps (swP zs I zs.length)) := fun W g c t zs I hb hI => by
    obtain ⟨m, hm⟩ := hb.m
    obtain ⟨hz, hzl, -⟩ := psG_tks hm hG
    have := buryDead_any I _ g c zs W hb.p hz hI (he.up hb.b)
    rw [hzl] at this ⊢
    refine this.mono ?_
    rintro e w' ⟨rfl, h1, h2, h3⟩
    exact ⟨rfl, h3, hz, fun m hm => hb.step h1 h2 ⟨m, hm⟩⟩
  have HL : Hid (∀ zs m, Tks m ps zs → zs.length = ps.length) := fun zs m hm => (psG_tks hm hG).2.1
  have HQ : Hid (∀ zs, Nrm zs → (∃ m, Tks m ps zs) → zs = qs) := fun zs h1 h2 => hq zs ⟨h1, h2⟩
  have HB0 : Hid (Below w.heap.size w ((w.alloc (.cells #[.slice ao ps.length cap] 24)).alloc (.cells #[.slice none 0 0] 24))) := ((Below.refl _ _).alloc (Nat.le_refl _) _).alloc (by simp) _
  have hn := hG.n
  have hni : (ps.length : Int) ≤ 128 := by omega
  have hn0 : (0 : Int) ≤ (ps.length : Int) := by omega
  clear h he hG hq
  go_enter Tryd.func8, Tryd.ntmps8
  go_upto_region 5 with (first
    | (go_at_call 4; go_loud (refine Calls.mono (HC.out _ HB0.out) ?_; rintro e w1 ⟨rfl, hb⟩; obtain ⟨a1, a2, hb0, hz, hz1⟩ := two_new w _ _ _ _ hb; have r1 := a1.c 0 _ rfl; have HA : Hid (At w1 (w.heap.size + 1) #[.slice none 0 0] ∧ Below w.heap.size w w1 ∧ w.heap.size + 2 ≤ w1.heap.size) := ⟨a2, hb0, by omega⟩; clear hb hb0 a1 a2 HC HB0))
    | (go_at_call 11; go_loud (refine Calls.mono (HCp.out _ HA.out.2.1) ?_; rintro e w2 ⟨g, c, own, rfl, hp, hb, ho⟩; have HP : Hid _ := hp; have HB : Hid _ := hb; clear hp ho hb r1 HCp)))
  have HD : Hid (Br w (w2.alloc (.cells #[.slice (some ⟨g, 0, none⟩) ps.length c] 24)) g c w2.heap.size ps ps) := by
    have b2 : Below w2.heap.size w2 (w2.alloc (.cells #[.slice (some ⟨g, 0, none⟩) ps.length c] 24)) := below_al _
    have h1 := HP.out.pw.next b2
    refine ⟨h1.low HA.out.2.2, (HA.out.1.below HB.out HA.out.1.lt).below b2 (Nat.lt_of_lt_of_le HA.out.1.lt HB.out.size), Op.At.new _ _ _, (HA.out.2.1.trans (HB.out.mono HA.out.2.1.size)).trans (b2.mono (Nat.le_trans HA.out.2.1.size HB.out.size)), ?_, 0, rfl⟩
    have := HP.out.lt
    omega
  clear HP HB HA hz hz1
  generalize w2.alloc (.cells #[.slice (some ⟨g, 0, none⟩) ps.length c] 24) = w3 at *
  generalize w2.heap.size = t at *
  clear w2
  go_loopg [] (opsN ps + 1) (fun g1 wr => ∃ zs : List Bk, opsN zs < g1 ∧ Br w wr g c t ps zs)
  case atStart => exact ⟨ps, by omega, HD.out⟩
  case round =>
    rename World => wr
    obtain ⟨zs, hg1, hd⟩ := hrel
    clear HD
    have HD : Hid _ := hd
    clear hd
    obtain ⟨I, hI⟩ := in_ex (psOk_of HD.out.p.pat)
    have HB1 : Hid _ := HBD.out _ _ _ _ zs I HD.out hI
    have q0 := HD.out.q.c 0 _ rfl
    cases hb : buB zs I zs.length with
    | true =>
      rw [hb] at HB1
      go_wp2_with (first
        | (go_at_call 13; go_loud (refine Calls.mono HB1.out ?_; rintro e w4 ⟨rfl, h1, h2, h3⟩; obtain ⟨m, hm0, hm⟩ := bu_less h1 h2 hb; have hle := (psG_tks hm h2).2.2; have H4 : Hid _ := h3 m hm; clear h1 h2 h3 hm HB1 q0 HD)))
      go_roundg (opsN zs)
      case measure => omega
      case rel => exact ⟨_, by omega, H4.out⟩
    | false =>
      rw [hb] at HB1
      go_upto_region 6 with (first
        | (go_at_call 13; go_loud (refine Calls.mono HB1.out ?_; rintro e w4 ⟨rfl, h1, h2, h3⟩; obtain ⟨e1, e2⟩ := stay_nrm h1 h2.ck h2.ok (buB_stay.1 hb); have H4 : Hid _ := h3 0 (show zs = _ from e1.symm); have HN : Hid (Nrm zs) := e2; rw [e1] at H4; clear h1 h2 h3 e1 e2 HB1 q0 HD)))
      obtain ⟨m, hm⟩ := H4.out.m
      obtain rfl := HQ.out zs HN.out ⟨m, hm⟩
      have hzl : zs.length = ps.length := HL.out zs m hm
      have q1 := H4.out.q.c 0 _ rfl
      have r0 := H4.out.r.c 0 _ rfl
      have f0 := H4.out.r.f 0
      have HZ : Hid (∀ v, PAt (w4.setCell ⟨w.heap.size + 1, 0, none⟩ v) (some ⟨g, 0, none⟩) zs ∧ Fin ps zs ∧ Below w.heap.size w (w4.setCell ⟨w.heap.size + 1, 0, none⟩ v) ∧ zs.length = ps.length) := fun v => by
        have hzg := H4.out.p.zg
        have h1 : Pw (w4.setCell ⟨w.heap.size + 1, 0, none⟩ v) (w.heap.size + 2) g zs := by
          exact H4.out.p.fr ((Fr.refl (One (w.heap.size + 1)) w4).setCell (.inr rfl) 0 v) fun j q => by have q : j = w.heap.size + 1 := q; omega
        exact ⟨h1.pat, ⟨HN.out, m, hm⟩, H4.out.b.setCell (Nat.le_succ _) _, hzl⟩
      clear H4 HN HBD hm hb HQ HL
      go_wp2_with fail
      refine bodyPost_ret (v := .tuple #[.agg #[.slice (some ⟨g, 0, none⟩) ps.length c], .int .i64 0]) (by simp [results, Tryd.results8, go_sem, cs r0]) rfl ⟨_, c, rfl, (HZ.out _).1, (HZ.out (.int .i64 0)).2.1, (HZ.out _).2.2.1⟩
end Go.Proofs.YtddcndlogoajkaaDoor.L8.Bt
