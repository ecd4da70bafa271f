/- The pairs of one round, and from round to round (withinRound, acrossRounds), read off the program by the walk. Conditions: the finder and the list lie in memory. -/
import Derived.Test.YthdpgimdakmdgaaDoorEh
namespace Go.Proofs.YthdpgimdakmdgaaDoor.Dp
open Go.ChangeShapes Go.WideShapes Go.ChangeAt Go.RowKit
open _root_.Go.Proofs.YthdpgimdakmdgaaDoor.Op _root_.Go.Proofs.YthdpgimdakmdgaaDoor.So
open _root_.Go.Proofs.YthdpgimdakmdgaaDoor.Al (meetB roundB meet_any)
set_option maxRecDepth 20000

/-- The finder under way: from the world w on the finder's box and its list turn, nothing else. -/
structure Wi (w W : World) (f pb pc lb : Nat) (ao : Option Addr) (n cap : Nat) (ps : List Pt) (L : Nat → Int) (ve0 ve : Value) (es : List Ed) : Prop where
  fd : Fd W f pb pc ps lb L ve es
  c0 : W.cell? ⟨f, 0, none⟩ = some (.slice ao n cap)
  gr : Gr f ve0 w ve W
  lw : w.heap.size ≤ lb
  np : ¬ pb = lb
theorem Wi.up {w W W' : World} {f pb pc lb n cap : Nat} {ao : Option Addr} {ps : List Pt} {L : Nat → Int} {ve0 ve : Value} {es : List Ed} (h : Wi w W f pb pc lb ao n cap ps L ve0 ve es) (hb : Below W.heap.size W W') : Wi w W' f pb pc lb ao n cap ps L ve0 ve es :=
  ⟨h.fd.up hb, by rw [(bcell hb).1 _ _ h.fd.fe.lt]; exact h.c0, h.gr.up hb, h.lw, h.np⟩
theorem Wi.more {w W W' : World} {f pb pc lb n cap : Nat} {ao : Option Addr} {ps : List Pt} {L : Nat → Int} {ve0 ve ve' : Value} {es es' : List Ed} (h : Wi w W f pb pc lb ao n cap ps L ve0 ve es) (hf : FE W' f ve' es') (hg : Gr f ve W ve' W') : Wi w W' f pb pc lb ao n cap ps L ve0 ve' es' := by
  have hl := h.fd.fe.lt
  refine ⟨⟨hf, (hg.fc hl 1 (by decide)).trans h.fd.cp, h.fd.ps.fr hg.fr ?_, h.fd.la.fr hg.fr ?_, h.fd.n1, h.fd.n2, fun e => h.fd.n3 (hg.ow _ h.fd.ps.lt e), fun e => h.fd.n4 (hg.ow _ h.fd.la.lt e)⟩, (hg.fc hl 0 (by decide)).trans h.c0, h.gr.trans hg, h.lw, h.np⟩
  · rintro (e | e)
    · exact h.fd.n1 e
    · exact h.fd.n3 e
  · rintro (e | e)
    · exact h.fd.n2 e
    · exact h.fd.n4 e
theorem Wi.bec {w W W' : World} {f pb pc lb n cap : Nat} {ao : Option Addr} {ps : List Pt} {L L' : Nat → Int} {ve0 ve : Value} {es : List Ed} (h : Wi w W f pb pc lb ao n cap ps L ve0 ve es) (hl : La W' lb L') (hg : Fr (One lb) W W') : Wi w W' f pb pc lb ao n cap ps L' ve0 ve es := by
  have hf := h.fd.fe
  have nf : ¬ One lb f := fun e => h.fd.n2 (Eq.symm e)
  refine ⟨⟨⟨(hg.cell hf.lt nf 2).trans hf.c, (hg.frozen hf.lt nf 2).trans hf.z, Nat.lt_of_lt_of_le hf.lt hg.size, row_fr hf.row hg fun k hk e => ?_⟩, (hg.cell hf.lt nf 1).trans h.fd.cp, h.fd.ps.fr hg h.np, hl, h.fd.n1, h.fd.n2, h.fd.n3, h.fd.n4⟩, (hg.cell hf.lt nf 0).trans h.c0, ⟨?_, h.gr.ow, fun hfw j hj => (hg.cell hf.lt nf j).trans (h.gr.fc hfw j hj)⟩, h.lw, h.np⟩
  · have e' : k = lb := e
    subst e'
    exact h.fd.n4 hk
  · exact h.gr.fr.trans hg fun k hk e => by
      have e' : k = lb := e
      have := h.lw
      omega
/-- The contract of a pair, over the finder. -/
theorem wi_pair {w W : World} {f pb pc lb n cap : Nat} {ao : Option Addr} {ps : List Pt} {L : Nat → Int} {ve0 ve : Value} {es : List Ed} (h : Wi w W f pb pc lb ao n cap ps L ve0 ve es) (hp : PtsOk ps) {i j : Nat} (hi : i < ps.length) (hj : j < ps.length) (d : Int) (meet : Bool) (hel : es.length ≤ 1000000000) :
    Calls Tryd.prog 43 #[.pointer (some ⟨f, 0, none⟩), .agg #[.int .i64 (i : Int), .int .i64 (j : Int), .int .i64 0, .int .i64 d, .int .i8 0], .pointer (some ⟨lb, 0, none⟩), .bool meet] W fun r w' => r = .returned (.tuple #[]) ∧ ∃ ve', Wi w w' f pb pc lb ao n cap ps L ve0 ve' (es ++ pairE ps L d meet i j) := by
  have hpi := hp _ (List.getElem_mem hi)
  have hpj := hp _ (List.getElem_mem hj)
  have := pair_any f pb pc lb ps L ve es ⟨i, j, 0, d, 0⟩ i j meet W h.fd hi hj rfl rfl hpi.1 hpi.2 hpj.2 hel
  refine Calls.mono this ?_
  rintro r w' ⟨rfl, ve', h1, h2⟩
  refine ⟨rfl, ve', ?_⟩
  unfold pairE
  rw [pAt_at hi, pAt_at hj]
  exact h.more h1 h2
theorem wi_bec {w W : World} {f pb pc lb n cap : Nat} {ao : Option Addr} {ps : List Pt} {L : Nat → Int} {ve0 ve : Value} {es : List Ed} (h : Wi w W f pb pc lb ao n cap ps L ve0 ve es) (hp : PtsOk ps) {j : Nat} (hj : j < ps.length) (v : Int) {W' : World} (hb : Below W.heap.size W W') :
    Calls Tryd.prog 45 #[.pointer (some ⟨lb, 0, none⟩), .agg #[.int .i8 ps[j].o, .int .u8 ps[j].r, .int .u32 ps[j].w, .int .u32 ps[j].m, .int .i64 ps[j].l, .bool ps[j].b], .int .i64 v] W' fun r w' => r = .returned (.tuple #[]) ∧ Wi w w' f pb pc lb ao n cap ps (Dp.bec L (pAt ps j) v) ve0 ve es := by
  have h' := h.up hb
  refine Calls.mono (become_any lb ps[j] v L W' h'.fd.la (hp _ (List.getElem_mem hj)).1) ?_
  rintro r w' ⟨rfl, h1, h2⟩
  refine ⟨rfl, ?_⟩
  rw [pAt_at hj]
  exact h'.bec h1 h2
/-- The last writers' box, new. -/
theorem la_zero (w : World) (c : Array Value) (t : TypeId) (hc : ∀ j, j < 32 → c[j]? = some (.int .i64 0)) : La (w.alloc (.cells c t)) w.heap.size (fun _ => 0) :=
  ⟨fun j hj => (At.new w c t).c j _ (hc j hj), fun j => (At.new w c t).f j, (At.new w c t).lt⟩
theorem wi_start {w : World} {f pb pc n cap : Nat} {ao : Option Addr} {ps : List Pt} {ve0 : Value} {es : List Ed} (h : FE w f ve0 es) (c0 : w.cell? ⟨f, 0, none⟩ = some (.slice ao n cap)) (c1 : w.cell? ⟨f, 1, none⟩ = some (.slice (some ⟨pb, 0, none⟩) ps.length pc)) (hps : PsAt w pb ps) (n1 : ¬ pb = f) (n3 : ¬ ve0.ownBlock = some pb) (c : Array Value) (t : TypeId) (hc : ∀ j, j < 32 → c[j]? = some (.int .i64 0)) :
    Wi w (w.alloc (.cells c t)) f pb pc w.heap.size ao n cap ps (fun _ => 0) ve0 ve0 es := by
  have hb : Below w.heap.size w (w.alloc (.cells c t)) := (Below.refl _ _).alloc (Nat.le_refl _) _
  have hl := h.lt
  have hp := hps.lt
  exact ⟨⟨h.up hb, by rw [(bcell hb).1 _ _ hl]; exact c1, hps.fr (Fr.of (X := Non) hb) (fun h => h), la_zero w c t hc, n1, by omega, n3, fun e => by have := (h.row.lt _ e).2; omega⟩, by rw [(bcell hb).1 _ _ hl]; exact c0, Gr.of hb, Nat.le_refl _, by omega⟩
def z32 : Array Value := #[.int .i64 0, .int .i64 0, .int .i64 0, .int .i64 0, .int .i64 0, .int .i64 0, .int .i64 0, .int .i64 0, .int .i64 0, .int .i64 0, .int .i64 0, .int .i64 0, .int .i64 0, .int .i64 0, .int .i64 0, .int .i64 0, .int .i64 0, .int .i64 0, .int .i64 0, .int .i64 0, .int .i64 0, .int .i64 0, .int .i64 0, .int .i64 0, .int .i64 0, .int .i64 0, .int .i64 0, .int .i64 0, .int .i64 0, .int .i64 0, .int .i64 0, .int .i64 0]
theorem z32_at : ∀ j, j < 32 → z32[j]? = some (.int .i64 0)
  | 0, _ => rfl
  | 1, _ => rfl
  | 2, _ => rfl
  | 3, _ => rfl
  | 4, _ => rfl
  | 5, _ => rfl
  | 6, _ => rfl
  | 7, _ => rfl
  | 8, _ => rfl
  | 9, _ => rfl
  | 10, _ => rfl
  | 11, _ => rfl
  | 12, _ => rfl
  | 13, _ => rfl
  | 14, _ => rfl
  | 15, _ => rfl
  | 16, _ => rfl
  | 17, _ => rfl
  | 18, _ => rfl
  | 19, _ => rfl
  | 20, _ => rfl
  | 21, _ => rfl
  | 22, _ => rfl
  | 23, _ => rfl
  | 24, _ => rfl
  | 25, _ => rfl
  | 26, _ => rfl
  | 27, _ => rfl
  | 28, _ => rfl
  | 29, _ => rfl
  | 30, _ => rfl
  | 31, _ => rfl
  | _ + 32, h => absurd h (by omega)
set_option maxHeartbeats 4000000 in
theorem within_any (f pb pc cap : Nat) (ao : Option Addr) (xs : List O) (ps : List Pt) (ve0 : Value) (es0 : List Ed) (w : World) (hfe : FE w f ve0 es0) (c0 : w.cell? ⟨f, 0, none⟩ = some (.slice ao xs.length cap)) (c1 : w.cell? ⟨f, 1, none⟩ = some (.slice (some ⟨pb, 0, none⟩) ps.length pc)) (hps : PsAt w pb ps) (n1 : ¬ pb = f) (n3 : ¬ ve0.ownBlock = some pb)
    (hO : ∀ W, Fr (fun k => k = f ∨ ve0.ownBlock = some k) w W → OpsAt W ao xs) (hcap : xs.length ≤ cap) (hl : ps.length = xs.length) (hn : xs.length ≤ 1024) (hpt : PtsOk ps) (he0 : es0.length ≤ 100000000) :
    Calls Tryd.prog 24 #[.pointer (some ⟨f, 0, none⟩)] w fun r w' => r = .returned (.tuple #[]) ∧ ∃ ve', FE w' f ve' (es0 ++ withinE xs ps xs.length) ∧ Gr f ve0 w ve' w' := by
  have HS : Hid (Wi w (w.alloc (.cells #[.int .i64 0, .int .i64 0, .int .i64 0, .int .i64 0, .int .i64 0, .int .i64 0, .int .i64 0, .int .i64 0, .int .i64 0, .int .i64 0, .int .i64 0, .int .i64 0, .int .i64 0, .int .i64 0, .int .i64 0, .int .i64 0, .int .i64 0, .int .i64 0, .int .i64 0, .int .i64 0, .int .i64 0, .int .i64 0, .int .i64 0, .int .i64 0, .int .i64 0, .int .i64 0, .int .i64 0, .int .i64 0, .int .i64 0, .int .i64 0, .int .i64 0, .int .i64 0] 72)) f pb pc w.heap.size ao xs.length cap ps (fun _ => 0) ve0 ve0 es0) := wi_start hfe c0 c1 hps n1 n3 z32 72 z32_at
  have HO : Hid (∀ W ve L es, Wi w W f pb pc w.heap.size ao xs.length cap ps L ve0 ve es → OpsAt W ao xs) := fun W ve L es h => hO W h.gr.fr
  have HM : Hid (∀ W ve L es (i j : Nat), Wi w W f pb pc w.heap.size ao xs.length cap ps L ve0 ve es → Calls Tryd.prog 44 #[.slice ao xs.length cap, .int .i64 (i : Int), .int .i64 (j : Int)] W fun e w' => e = .returned (.bool (meetB xs i j)) ∧ Wi w w' f pb pc w.heap.size ao xs.length cap ps L ve0 ve es) := fun W ve L es i j h => (meet_any ao cap xs i j W (HO.out _ _ _ _ h) hcap).mono fun e w' h' => ⟨h'.1, h.up h'.2⟩
  have HP : Hid (∀ W ve L es (i j : Nat) (m : Bool), Wi w W f pb pc w.heap.size ao xs.length cap ps L ve0 ve es → i < xs.length → j < xs.length → es.length ≤ 1000000000 → Calls Tryd.prog 43 #[.pointer (some ⟨f, 0, none⟩), .agg #[.int .i64 (i : Int), .int .i64 (j : Int), .int .i64 0, .int .i64 0, .int .i8 0], .pointer (some ⟨w.heap.size, 0, none⟩), .bool m] W fun r w' => r = .returned (.tuple #[]) ∧ ∃ ve', Wi w w' f pb pc w.heap.size ao xs.length cap ps L ve0 ve' (es ++ pairE ps L 0 m i j)) := fun W ve L es i j m h hi hj he => wi_pair h hpt (by omega) (by omega) 0 m he
  have HL : Hid (ps.length = xs.length ∧ xs.length ≤ 1024 ∧ PtsOk ps ∧ es0.length ≤ 100000000) := ⟨hl, hn, hpt, he0⟩
  have hfl := hfe.lt
  have hn' : (xs.length : Int) ≤ 1024 := by omega
  clear hfe c0 c1 hps n1 n3 hO hcap hl hn hpt he0
  generalize hlb : w.heap.size = lb at *
  go_enter Tryd.func24, Tryd.ntmps24
  go_upto_region 1 with fail
  generalize w.alloc (.cells #[.int .i64 0, .int .i64 0, .int .i64 0, .int .i64 0, .int .i64 0, .int .i64 0, .int .i64 0, .int .i64 0, .int .i64 0, .int .i64 0, .int .i64 0, .int .i64 0, .int .i64 0, .int .i64 0, .int .i64 0, .int .i64 0, .int .i64 0, .int .i64 0, .int .i64 0, .int .i64 0, .int .i64 0, .int .i64 0, .int .i64 0, .int .i64 0, .int .i64 0, .int .i64 0, .int .i64 0, .int .i64 0, .int .i64 0, .int .i64 0, .int .i64 0, .int .i64 0] 72) = W0 at *
  have c0 := HS.out.c0
  have fl := HS.out.fd.fe.lt
  go_wp2_with fail
  clear c0 fl
  go_loopw [10] (fun v wr => ∃ (j : Nat) (ve : Value), j ≤ xs.length ∧ v = .int .i64 j ∧ Wi w wr f pb pc lb ao xs.length cap ps (lastW ps j) ve0 ve (es0 ++ withinE xs ps j)) (fun v _ => xs.length - (intOf v).toNat)
  case atStart => exact ⟨0, ve0, by omega, rfl, by simpa [lastW, withinE, cat] using HS.out⟩
  case round =>
    rename World => wr
    obtain ⟨j, ve, hj, rfl, hw⟩ := hrel
    have HQ : Hid (Wi w wr f pb pc lb ao xs.length cap ps (lastW ps j) ve0 ve (es0 ++ withinE xs ps j)) := hw
    clear hw HS
    by_cases hlt : j < xs.length
    · have j0 : (0 : Int) ≤ (j : Int) := by omega
      have j1 : (j : Int) < (xs.length : Int) := by omega
      go_wp2_with fail
      go_loopw [14] (fun v wr2 => ∃ (i : Nat) (ve : Value), i ≤ j ∧ v = .int .i64 i ∧ Wi w wr2 f pb pc lb ao xs.length cap ps (lastW ps j) ve0 ve (es0 ++ withinE xs ps j ++ rowW xs ps j i)) (fun v _ => j - (intOf v).toNat)
      case atStart => exact ⟨0, ve, by omega, rfl, by simpa [rowW, cat] using HQ.out⟩
      case round =>
        rename World => wz
        obtain ⟨i, ve1, hi, rfl, hw⟩ := hrel
        have HR : Hid (Wi w wz f pb pc lb ao xs.length cap ps (lastW ps j) ve0 ve1 (es0 ++ withinE xs ps j ++ rowW xs ps j i)) := hw
        clear hw HQ
        by_cases hlt2 : i < j
        · have i0 : (0 : Int) ≤ (i : Int) := by omega
          have i1 : (i : Int) < (j : Int) := by omega
          have c0 := HR.out.c0
          have fl := HR.out.fd.fe.lt
          have HNx : Hid (rowW xs ps j (i + 1) = rowW xs ps j i ++ pairE ps (lastW ps j) 0 (meetB xs i j) i j) := rfl
          have HEl : Hid ((es0 ++ withinE xs ps j ++ rowW xs ps j i).length ≤ 1000000000) := by
            show (es0 ++ withinE xs ps j ++ rowW xs ps j i).length ≤ 1000000000
            obtain ⟨h1, h2, h3, h4⟩ := HL.out
            have h5 := withinE_len xs ps j (by omega)
            have h6 := rowW_len xs ps j i
            rw [List.length_append, List.length_append]
            omega
          have HMm : Hid _ := HM.out wz ve1 (lastW ps j) _ i j HR.out
          obtain ⟨es1, hes⟩ : ∃ es1, es0 ++ withinE xs ps j ++ rowW xs ps j i = es1 := ⟨_, rfl⟩
          have HES : Hid (es0 ++ withinE xs ps j ++ rowW xs ps j i = es1) := hes
          rw [hes] at HR HEl HMm
          clear hes
          generalize lastW ps j = L at *
          generalize meetB xs i j = mb at *
          go_wp2_with (first
            | (go_at_call 44; refine Calls.mono HMm.out ?_; rintro e w1 ⟨rfl, hw⟩; have HR1 : Hid (Wi w w1 f pb pc lb ao xs.length cap ps L ve0 ve1 es1) := hw; clear hw HMm HR c0 fl)
            | (go_at_call 43; refine Calls.mono (HP.out _ _ _ _ i j mb HR1.out (by omega) hlt HEl.out) ?_; rintro e w2 ⟨rfl, ve2, hw⟩; have HR2 : Hid (Wi w w2 f pb pc lb ao xs.length cap ps L ve0 ve2 (es1 ++ pairE ps L 0 mb i j)) := hw; clear hw HR1))
          go_roundw
          case rel => exact ⟨i + 1, ve2, by omega, by go_num, by rw [HNx.out, ← List.append_assoc, HES.out]; exact HR2.out⟩
          case measure => simp [intOf]; omega
        · obtain rfl : i = j := by omega
          have i1 : ¬ (i : Int) < (i : Int) := by omega
          have c1 := HR.out.fd.cp
          have fl := HR.out.fd.fe.lt
          have pl := HR.out.fd.ps.lt
          have hip : i < ps.length := by rw [HL.out.1]; exact hlt
          obtain ⟨p0, p1, p2, p3, p4, p5⟩ := HR.out.fd.ps.c i hip
          have HBc : Hid (∀ W, Below wz.heap.size wz W → _) := fun W hb => wi_bec HR.out HL.out.2.2.1 hip (i : Int) hb
          have HNx : Hid (withinE xs ps (i + 1) = withinE xs ps i ++ rowW xs ps i i ∧ lastW ps (i + 1) = Dp.bec (lastW ps i) (pAt ps i) i) := ⟨rfl, rfl⟩
          rw [HL.out.1] at c1
          generalize ps[i] = p at *
          generalize Dp.bec (lastW ps i) (pAt ps i) i = L2 at *
          generalize lastW ps i = L at *
          go_wp2_with (first
            | (go_at_call 45; refine Calls.mono (HBc.out _ (by go_grown)) ?_; rintro e w1 ⟨rfl, hw⟩; have HR1 : Hid (Wi w w1 f pb pc lb ao xs.length cap ps L2 ve0 ve1 (es0 ++ withinE xs ps i ++ rowW xs ps i i)) := hw; clear hw HBc HR c1 fl pl p0 p1 p2 p3 p4 p5))
          go_roundw
          case rel => exact ⟨i + 1, ve1, by omega, by go_num, by rw [HNx.out.1, HNx.out.2, ← List.append_assoc]; exact HR1.out⟩
          case measure => simp [intOf]; omega
    · obtain rfl : j = xs.length := by omega
      have j1 : ¬ (xs.length : Int) < (xs.length : Int) := by omega
      go_wp2_with fail
      go_end0
      exact ⟨rfl, ve, HQ.out.fd.fe, HQ.out.gr⟩
end Go.Proofs.YthdpgimdakmdgaaDoor.Dp
