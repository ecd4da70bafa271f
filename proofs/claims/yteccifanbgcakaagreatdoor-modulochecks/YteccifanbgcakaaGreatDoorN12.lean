/- Loop, and what the statements wake by (wakes), read off the program by the walk. Conditions: the list lies in memory, the variables as the program lays them. -/
import Derived.Test.YteccifanbgcakaaGreatDoorN11
namespace Go.Proofs.YteccifanbgcakaaGreatDoor.Dp
open Go.ChangeShapes Go.WideShapes Go.ChangeAt Go.RowKit
open _root_.Go.Proofs.YteccifanbgcakaaGreatDoor.Op _root_.Go.Proofs.YteccifanbgcakaaGreatDoor.So
open _root_.Go.Proofs.YteccifanbgcakaaGreatDoor.Tb (Tab TabAt Bnds)
set_option maxRecDepth 20000

/-- The parts of a list, the dependences in one round, and with those from round to round. -/
def ptsL (t : Tab) (xs : List O) : List Pt := xs.map (ptL t)
def ofE (t : Tab) (xs : List O) : List Ed := withinE xs (ptsL t xs) xs.length
def loopE (t : Tab) (xs : List O) : List Ed := withinE xs (ptsL t xs) xs.length ++ acrossE xs (ptsL t xs) xs.length
theorem ptsL_len (t : Tab) (xs : List O) : (ptsL t xs).length = xs.length := by simp [ptsL]
/-- A list of dependences that was made: no older block. -/
def EOwn (B : Nat) (w : World) (a : Option Addr) (c : Nat) (es : List Ed) : Prop := w.ownsRow B 51 5 (.slice a es.length c) es.length (ecells es)
theorem eOwn_of {w : World} {B B' : Nat} {v : Value} {es : List Ed} (h : w.ownsRow B 51 5 v es.length (ecells es)) (hB : B' ≤ B) : ∃ a c, v = .slice a es.length c ∧ EOwn B' w a c es := by
  obtain ⟨h1, h2⟩ := h
  rcases h2 with ⟨rfl, h0⟩ | ⟨b, cap, cur, rfl, g1, g2⟩
  · exact ⟨none, 0, by rw [h0], h1, .inl ⟨by rw [h0], h0⟩⟩
  · exact ⟨_, cap, rfl, h1, .inr ⟨b, cap, cur, rfl, by omega, g2⟩⟩
theorem ptL_ok (t : Tab) (o : O) (ho : o.Ok) (hk : okO o = true) (ht : t.ok = true) : (0 ≤ (ptL t o).r ∧ (ptL t o).r ≤ 31) ∧ 1 ≤ (ptL t o).l ∧ (ptL t o).l ≤ 8 := by
  unfold ptL
  cases h : kOf o.op with
  | none => rw [okO_none h] at hk; cases hk
  | some k =>
    have hf : okF k o = true := by rw [← okO_some h]; exact hk
    have hl := clV_in o.op
    have hc := (Tb.ok_parts ht).2 (clV o.op).toNat (by omega)
    have hc := Tb.inB_iff hc.2.1
    refine ⟨?_, hc⟩
    show 0 ≤ wrD o ∧ wrD o ≤ 31
    unfold wrD
    cases hw : wrB o
    · simp
    · have h0 := ho.d0
      have : o.d ≤ 31 := by
        unfold wrB at hw
        rw [h] at hw
        simp only [Bool.and_eq_true] at hw
        simp only [okF, Bool.and_eq_true, hw.2] at hf
        have := hf.1.1.1
        simp [rH] at this
        omega
      simp; omega
theorem pts_ok (t : Tab) (xs : List O) (hok : ∀ o ∈ xs, o.Ok ∧ okO o = true) (ht : t.ok = true) : PtsOk (ptsL t xs) := fun p hp => by
  obtain ⟨o, ho, rfl⟩ := List.mem_map.1 hp
  exact ptL_ok t o (hok o ho).1 (hok o ho).2 ht
theorem lis_all {t : Tab} {xs : List O} (h : lisE t xs = 0) : t.ok = true ∧ xs.length ≤ 1024 ∧ ∀ o ∈ xs, okL o = true := by
  unfold lisE at h
  split at h
  · omega
  · rename_i h1
    split at h
    · omega
    · rename_i h2
      split at h
      · rename_i h3
        exact ⟨by simpa using h1, by omega, fun o ho => List.all_eq_true.1 h3 o ho⟩
      · omega
theorem okL_okO {o : O} (h : okL o = true) : okO o = true := by
  simp only [okL, Bool.and_eq_true] at h
  exact h.2
/-- The finder, when it is made and under way. -/
structure Fm (w W : World) (ao : Option Addr) (n cap : Nat) (ps : List Pt) (ve : Value) (es : List Ed) : Prop where
  fe : FE W (w.heap.size + 1) ve es
  c0 : W.cell? ⟨w.heap.size + 1, 0, none⟩ = some (.slice ao n cap)
  pt : (ps = [] ∧ W.cell? ⟨w.heap.size + 1, 1, none⟩ = some (.slice none 0 0)) ∨ ∃ pb pc, W.cell? ⟨w.heap.size + 1, 1, none⟩ = some (.slice (some ⟨pb, 0, none⟩) ps.length pc) ∧ PsAt W pb ps ∧ ¬ pb = w.heap.size + 1 ∧ ¬ ve.ownBlock = some pb
  up : Below w.heap.size w W
theorem fm_of {w W : World} {ao : Option Addr} {n cap : Nat} {t : Tab} {vp : Value} {ps : List Pt} (h : Nf w W ao n cap t vp ps) : Fm w W ao n cap ps (.slice none 0 0) [] := by
  refine ⟨⟨h.f.c 2 _ rfl, h.f.f 2, h.f.lt, World.ownsRow_nil _ _ _ _⟩, h.f.c 0 _ rfl, ?_, h.up⟩
  rcases h.row.2 with ⟨e, h0⟩ | ⟨b, cap, cur, e, g1, g2⟩
  · subst e
    exact .inl ⟨List.eq_nil_of_length_eq_zero h0, h.f.c 1 _ rfl⟩
  · subst e
    exact .inr ⟨b, cap, h.f.c 1 _ rfl, psAt_row h.row, by omega, fun e => by cases e⟩
theorem Fm.own {w W : World} {ao : Option Addr} {n cap : Nat} {ps : List Pt} {ve : Value} {es : List Ed} (h : Fm w W ao n cap ps ve es) : ∀ k, ve.ownBlock = some k → w.heap.size ≤ k := fun k e => by have := (h.fe.row.lt k e).1; omega
theorem Fm.next {w W W' : World} {ao : Option Addr} {n cap : Nat} {ps : List Pt} {ve ve' : Value} {es es' : List Ed} (h : Fm w W ao n cap ps ve es) (hf : FE W' (w.heap.size + 1) ve' es') (hg : Gr (w.heap.size + 1) ve W ve' W') : Fm w W' ao n cap ps ve' es' := by
  have hl := h.fe.lt
  refine ⟨hf, (hg.fc hl 0 (by decide)).trans h.c0, ?_, h.up.trans (hg.below (by omega) h.up.size h.own)⟩
  rcases h.pt with ⟨e, c1⟩ | ⟨pb, pc, c1, hp, n1, n3⟩
  · exact .inl ⟨e, (hg.fc hl 1 (by decide)).trans c1⟩
  · refine .inr ⟨pb, pc, (hg.fc hl 1 (by decide)).trans c1, hp.fr hg.fr ?_, n1, fun e => n3 (hg.ow _ hp.lt e)⟩
    rintro (e | e)
    · exact n1 e
    · exact n3 e
theorem Fm.ops {w W : World} {ao : Option Addr} {n cap : Nat} {ps : List Pt} {ve : Value} {es : List Ed} (h : Fm w W ao n cap ps ve es) {xs : List O} (ho : OpsAt w ao xs) : ∀ W', Fr (fun k => k = w.heap.size + 1 ∨ ve.ownBlock = some k) W W' → OpsAt W' ao xs := fun W' hF =>
  ho.below (h.up.trans (hF.below h.up.size fun k hk e => by
    rcases e with e | e
    · omega
    · have := h.own k e; omega))
set_option maxHeartbeats 2000000 in
theorem within_none (f cap : Nat) (ao : Option Addr) (w : World) (hf : f < w.heap.size) (c0 : w.cell? ⟨f, 0, none⟩ = some (.slice ao 0 cap)) : Calls Tryz.prog 46 #[.pointer (some ⟨f, 0, none⟩)] w fun r w' => r = .returned (.tuple #[]) ∧ Below w.heap.size w w' := by
  have hn : ¬ f = w.heap.size := by omega
  have hn' : ¬ w.heap.size = f := by omega
  go_enter Tryz.func46, Tryz.ntmps46
  go_wp2_with fail
  go_loop [10] (fun i => i = .int .i64 0) (fun _ => 0)
  case atStart => rfl
  case round =>
    subst hrel
    go_wp2_with fail
    go_end0
    exact ⟨rfl, by go_grown⟩
set_option maxHeartbeats 2000000 in
theorem across_none (f cap : Nat) (ao : Option Addr) (w : World) (hf : f < w.heap.size) (c0 : w.cell? ⟨f, 0, none⟩ = some (.slice ao 0 cap)) (c1 : w.cell? ⟨f, 1, none⟩ = some (.slice none 0 0)) : Calls Tryz.prog 47 #[.pointer (some ⟨f, 0, none⟩)] w fun r w' => r = .returned (.tuple #[]) ∧ Below w.heap.size w w' := by
  have hn : ¬ f = w.heap.size := by omega
  have hn' : ¬ w.heap.size = f := by omega
  go_enter Tryz.func47, Tryz.ntmps47
  go_wp2_with fail
  go_loop [12] (fun i => i = .int .i64 0) (fun _ => 0)
  case atStart => rfl
  case round =>
    subst hrel
    go_wp2_with fail
    go_loop [26] (fun i => i = .int .i64 0) (fun _ => 0)
    case atStart => rfl
    case round =>
      subst hrel
      go_wp2_with fail
      go_end0
      exact ⟨rfl, by go_grown⟩
theorem fm_within {w W : World} {ao : Option Addr} {cap : Nat} {xs : List O} {ps : List Pt} {ve : Value} {es : List Ed} (h : Fm w W ao xs.length cap ps ve es) (ho : OpsAt w ao xs) (hcap : xs.length ≤ cap) (hl : ps.length = xs.length) (hn : xs.length ≤ 1024) (hpt : PtsOk ps) (he : es.length ≤ 100000000) :
    Calls Tryz.prog 46 #[.pointer (some ⟨w.heap.size + 1, 0, none⟩)] W fun r w' => r = .returned (.tuple #[]) ∧ ∃ ve', Fm w w' ao xs.length cap ps ve' (es ++ withinE xs ps xs.length) := by
  rcases h.pt with ⟨e, c1⟩ | ⟨pb, pc, c1, hp, n1, n3⟩
  · have h0 : xs.length = 0 := by rw [← hl, e]; rfl
    have c0 := h.c0
    rw [h0] at c0
    refine (within_none _ _ _ W h.fe.lt c0).mono ?_
    rintro r w' ⟨rfl, hb⟩
    refine ⟨rfl, ve, ?_⟩
    rw [show withinE xs ps xs.length = [] by rw [h0]; rfl, List.append_nil]
    exact h.next (h.fe.up hb) (Gr.of hb)
  · refine (within_any _ pb pc cap ao xs ps ve es W h.fe h.c0 c1 hp n1 n3 (h.ops ho) hcap hl hn hpt he).mono ?_
    rintro r w' ⟨rfl, ve', h1, h2⟩
    exact ⟨rfl, ve', h.next h1 h2⟩
theorem fm_across {w W : World} {ao : Option Addr} {cap : Nat} {xs : List O} {ps : List Pt} {ve : Value} {es : List Ed} (h : Fm w W ao xs.length cap ps ve es) (ho : OpsAt w ao xs) (hl : ps.length = xs.length) (hn : xs.length ≤ 1024) (hpt : PtsOk ps) (he : es.length ≤ 100000000) :
    Calls Tryz.prog 47 #[.pointer (some ⟨w.heap.size + 1, 0, none⟩)] W fun r w' => r = .returned (.tuple #[]) ∧ ∃ ve', Fm w w' ao xs.length cap ps ve' (es ++ acrossE xs ps xs.length) := by
  rcases h.pt with ⟨e, c1⟩ | ⟨pb, pc, c1, hp, n1, n3⟩
  · have h0 : xs.length = 0 := by rw [← hl, e]; rfl
    have c0 := h.c0
    rw [h0] at c0
    refine (across_none _ _ _ W h.fe.lt c0 c1).mono ?_
    rintro r w' ⟨rfl, hb⟩
    refine ⟨rfl, ve, ?_⟩
    rw [show acrossE xs ps xs.length = [] by rw [h0]; rfl, List.append_nil]
    exact h.next (h.fe.up hb) (Gr.of hb)
  · refine (across_any _ pb pc cap ao xs ps ve es W h.fe h.c0 c1 hp n1 n3 (h.ops ho) hl hn hpt he).mono ?_
    rintro r w' ⟨rfl, ve', h1, h2⟩
    exact ⟨rfl, ve', h.next h1 h2⟩
/-- What Of and Loop answer. -/
def EdOut (w : World) (er : Int) (es : List Ed) (e : Ending) (w' : World) : Prop := ∃ a c, e = .returned (.tuple #[.slice a es.length c, .int .i64 er]) ∧ EOwn w.heap.size w' a c es ∧ Below w.heap.size w w'
def erE (t : Tab) (xs : List O) (es : List Ed) : List Ed := if lisE t xs = 0 then es else []
structure Tc (w W : World) (t : Tab) : Prop where
  t : TabAt W w.heap.size t
  up : Below w.heap.size w W
theorem Tc.start (w : World) (t : Tab) {c : Array Value} (hc : c = t.cells) {W : World} (hb : Below (w.alloc (.cells c 25)).heap.size (w.alloc (.cells c 25)) W) : Tc w W t := by
  subst hc
  have h2 := Tb.tabAt_new w t 25
  exact ⟨h2.below hb h2.lt, ((Below.refl _ _).alloc (Nat.le_refl _) _).trans (hb.mono (by simp))⟩
set_option maxHeartbeats 4000000 in
theorem of_any (ao : Option Addr) (cap : Nat) (xs : List O) (t : Tab) (w : World) (h : OpsAt w ao xs) (hcap : xs.length ≤ cap) (hG : Bnds w) :
    Calls Tryz.prog 19 #[.slice ao xs.length cap, t.val] w (EdOut w (lisE t xs) (erE t xs (ofE t xs))) := by
  have HC : Hid (∀ W, Below w.heap.size w W → Calls Tryz.prog 44 #[.slice ao xs.length cap, t.val] W fun e w' => e = .returned (.int .i64 (lisE t xs)) ∧ Below W.heap.size W w') := fun W hb => lis_any ao cap xs t W (hG.below hb hG.big) (h.below hb)
  unfold erE
  by_cases he : lisE t xs = 0
  · rw [if_pos he]
    obtain ⟨ht, hn, hok⟩ := lis_all he
    have hpt := pts_ok t xs (fun o ho => ⟨h.ok o ho, okL_okO (hok o ho)⟩) ht
    have HN : Hid (∀ W, Below w.heap.size w W → Calls Tryz.prog 45 #[.slice ao xs.length cap, t.val] W fun e w' => e = .returned (.pointer (some ⟨W.heap.size + 1, 0, none⟩)) ∧ Fm W w' ao xs.length cap (ptsL t xs) (.slice none 0 0) []) := fun W hb => (new_any ao cap xs t W (h.below hb) (fun o ho => okL_okO (hok o ho)) hn).mono fun e w' h' => by
      obtain ⟨h1, vp, h2⟩ := h'
      exact ⟨h1, fm_of h2⟩
    have HWi : Hid (∀ W0 W ve es, Below w.heap.size w W0 → Fm W0 W ao xs.length cap (ptsL t xs) ve es → es.length ≤ 100000000 → Calls Tryz.prog 46 #[.pointer (some ⟨W0.heap.size + 1, 0, none⟩)] W fun r w' => r = .returned (.tuple #[]) ∧ ∃ ve', Fm W0 w' ao xs.length cap (ptsL t xs) ve' (es ++ withinE xs (ptsL t xs) xs.length)) := fun W0 W ve es hb hf hl => fm_within hf (h.below hb) hcap (ptsL_len t xs) hn hpt hl
    rw [he] at HC ⊢
    clear h hcap hG hok hpt ht he
    unfold ofE
    generalize ptsL t xs = ps at *
    unfold Tab.val at *
    go_enter Tryz.func19, Tryz.ntmps19
    go_wp2_with (first
      | (go_at_call 44; refine Calls.mono (HC.out _ (by go_grown)) ?_; rintro e w1 ⟨rfl, hb⟩; have HT : Hid (Tc w w1 t) := Tc.start w t rfl hb; have s1 := HT.out.t; have tu0 := s1.cu 0 (by decide); have tu1 := s1.cu 1 (by decide); have tu2 := s1.cu 2 (by decide); have tu3 := s1.cu 3 (by decide); have tl0 := s1.cl 0 (by decide); have tl1 := s1.cl 1 (by decide); have tl2 := s1.cl 2 (by decide); have tl3 := s1.cl 3 (by decide); have tb0 := s1.cb 0 (by decide); have tb1 := s1.cb 1 (by decide); have tb2 := s1.cb 2 (by decide); have tb3 := s1.cb 3 (by decide); have td := s1.cd; have tl := s1.lt; clear hb s1 HC)
      | (go_at_call 45; refine Calls.mono (HN.out _ HT.out.up) ?_; rintro e w2 ⟨rfl, hf⟩; have HF : Hid (Fm w1 w2 ao xs.length cap ps (.slice none 0 0) []) := hf; clear hf HN tu0 tu1 tu2 tu3 tl0 tl1 tl2 tl3 tb0 tb1 tb2 tb3 td tl)
      | (go_at_call 46; refine Calls.mono (HWi.out w1 _ _ _ HT.out.up HF.out (by simp)) ?_; rintro e w3 ⟨rfl, ve, hf⟩; have HF3 : Hid (Fm w1 w3 ao xs.length cap ps ve (withinE xs ps xs.length)) := hf; have c2 := hf.fe.c; have fl := hf.fe.lt; clear hf HF HWi))
    go_ret2
    obtain ⟨a, c, e, ho⟩ := eOwn_of HF3.out.fe.row (B' := w.heap.size) (by have := HT.out.up.size; omega)
    exact ⟨a, c, by rw [e]; rfl, ho, HT.out.up.trans (HF3.out.up.mono HT.out.up.size)⟩
  · rw [if_neg he]
    have he2 : (lisE t xs != 0) = true := by simpa using he
    generalize lisE t xs = er at *
    clear h hcap hG
    unfold Tab.val at *
    go_enter Tryz.func19, Tryz.ntmps19
    go_wp2_with (first
      | (go_at_call 44; refine Calls.mono (HC.out _ (by go_grown)) ?_; rintro e w1 ⟨rfl, hb⟩; have HT : Hid (Tc w w1 t) := Tc.start w t rfl hb; clear hb HC))
    go_ret2
    exact ⟨none, 0, rfl, World.ownsRow_nil _ _ _ _, HT.out.up⟩
end Go.Proofs.YteccifanbgcakaaGreatDoor.Dp

namespace Go.Proofs.YteccifanbgcakaaGreatDoor.Dp
open Go.ChangeShapes Go.WideShapes Go.ChangeAt Go.RowKit
open _root_.Go.Proofs.YteccifanbgcakaaGreatDoor.Op _root_.Go.Proofs.YteccifanbgcakaaGreatDoor.So
open _root_.Go.Proofs.YteccifanbgcakaaGreatDoor.Tb (Tab TabAt Bnds)
set_option maxRecDepth 20000

set_option maxHeartbeats 4000000 in
theorem loop_any (ao : Option Addr) (cap : Nat) (xs : List O) (t : Tab) (w : World) (h : OpsAt w ao xs) (hcap : xs.length ≤ cap) (hG : Bnds w) :
    Calls Tryz.prog 20 #[.slice ao xs.length cap, t.val] w (EdOut w (lisE t xs) (erE t xs (loopE t xs))) := by
  have HC : Hid (∀ W, Below w.heap.size w W → Calls Tryz.prog 44 #[.slice ao xs.length cap, t.val] W fun e w' => e = .returned (.int .i64 (lisE t xs)) ∧ Below W.heap.size W w') := fun W hb => lis_any ao cap xs t W (hG.below hb hG.big) (h.below hb)
  unfold erE
  by_cases he : lisE t xs = 0
  · rw [if_pos he]
    obtain ⟨ht, hn, hok⟩ := lis_all he
    have hpt := pts_ok t xs (fun o ho => ⟨h.ok o ho, okL_okO (hok o ho)⟩) ht
    have HN : Hid (∀ W, Below w.heap.size w W → Calls Tryz.prog 45 #[.slice ao xs.length cap, t.val] W fun e w' => e = .returned (.pointer (some ⟨W.heap.size + 1, 0, none⟩)) ∧ Fm W w' ao xs.length cap (ptsL t xs) (.slice none 0 0) []) := fun W hb => (new_any ao cap xs t W (h.below hb) (fun o ho => okL_okO (hok o ho)) hn).mono fun e w' h' => by
      obtain ⟨h1, vp, h2⟩ := h'
      exact ⟨h1, fm_of h2⟩
    have HWi : Hid (∀ W0 W ve es, Below w.heap.size w W0 → Fm W0 W ao xs.length cap (ptsL t xs) ve es → es.length ≤ 100000000 → Calls Tryz.prog 46 #[.pointer (some ⟨W0.heap.size + 1, 0, none⟩)] W fun r w' => r = .returned (.tuple #[]) ∧ ∃ ve', Fm W0 w' ao xs.length cap (ptsL t xs) ve' (es ++ withinE xs (ptsL t xs) xs.length)) := fun W0 W ve es hb hf hl => fm_within hf (h.below hb) hcap (ptsL_len t xs) hn hpt hl
    have HAc : Hid (∀ W0 W ve es, Below w.heap.size w W0 → Fm W0 W ao xs.length cap (ptsL t xs) ve es → es.length ≤ 100000000 → Calls Tryz.prog 47 #[.pointer (some ⟨W0.heap.size + 1, 0, none⟩)] W fun r w' => r = .returned (.tuple #[]) ∧ ∃ ve', Fm W0 w' ao xs.length cap (ptsL t xs) ve' (es ++ acrossE xs (ptsL t xs) xs.length)) := fun W0 W ve es hb hf hl => fm_across hf (h.below hb) (ptsL_len t xs) hn hpt hl
    have HWl : Hid ((withinE xs (ptsL t xs) xs.length).length ≤ 100000000) := Nat.le_trans (withinE_len _ _ _ hn) (by omega)
    rw [he] at HC ⊢
    clear h hcap hG hok hpt ht he
    unfold loopE
    generalize ptsL t xs = ps at *
    unfold Tab.val at *
    go_enter Tryz.func20, Tryz.ntmps20
    go_wp2_with (first
      | (go_at_call 44; refine Calls.mono (HC.out _ (by go_grown)) ?_; rintro e w1 ⟨rfl, hb⟩; have HT : Hid (Tc w w1 t) := Tc.start w t rfl hb; have s1 := HT.out.t; have tu0 := s1.cu 0 (by decide); have tu1 := s1.cu 1 (by decide); have tu2 := s1.cu 2 (by decide); have tu3 := s1.cu 3 (by decide); have tl0 := s1.cl 0 (by decide); have tl1 := s1.cl 1 (by decide); have tl2 := s1.cl 2 (by decide); have tl3 := s1.cl 3 (by decide); have tb0 := s1.cb 0 (by decide); have tb1 := s1.cb 1 (by decide); have tb2 := s1.cb 2 (by decide); have tb3 := s1.cb 3 (by decide); have td := s1.cd; have tl := s1.lt; clear hb s1 HC)
      | (go_at_call 45; refine Calls.mono (HN.out _ HT.out.up) ?_; rintro e w2 ⟨rfl, hf⟩; have HF : Hid (Fm w1 w2 ao xs.length cap ps (.slice none 0 0) []) := hf; clear hf HN tu0 tu1 tu2 tu3 tl0 tl1 tl2 tl3 tb0 tb1 tb2 tb3 td tl)
      | (go_at_call 46; refine Calls.mono (HWi.out w1 _ _ _ HT.out.up HF.out (by simp)) ?_; rintro e w3 ⟨rfl, ve, hf⟩; have HF4 : Hid (Fm w1 w3 ao xs.length cap ps ve (withinE xs ps xs.length)) := hf; clear hf HF HWi)
      | (go_at_call 47; refine Calls.mono (HAc.out w1 _ _ _ HT.out.up HF4.out HWl.out) ?_; rintro e w4 ⟨rfl, ve2, hf⟩; have HF3 : Hid (Fm w1 w4 ao xs.length cap ps ve2 (withinE xs ps xs.length ++ acrossE xs ps xs.length)) := hf; have c2 := hf.fe.c; have fl := hf.fe.lt; clear hf HF4 HAc))
    go_ret2
    obtain ⟨a, c, e, ho⟩ := eOwn_of HF3.out.fe.row (B' := w.heap.size) (by have := HT.out.up.size; omega)
    exact ⟨a, c, by rw [e]; rfl, ho, HT.out.up.trans (HF3.out.up.mono HT.out.up.size)⟩
  · rw [if_neg he]
    have he2 : (lisE t xs != 0) = true := by simpa using he
    generalize lisE t xs = er at *
    clear h hcap hG
    unfold Tab.val at *
    go_enter Tryz.func20, Tryz.ntmps20
    go_wp2_with (first
      | (go_at_call 44; refine Calls.mono (HC.out _ (by go_grown)) ?_; rintro e w1 ⟨rfl, hb⟩; have HT : Hid (Tc w w1 t) := Tc.start w t rfl hb; clear hb HC))
    go_ret2
    exact ⟨none, 0, rfl, World.ownsRow_nil _ _ _ _, HT.out.up⟩
theorem eOwn_at {B c : Nat} {w : World} {a : Option Addr} {es : List Ed} (h : EOwn B w a c es) {k : Nat} (hk : k < es.length) :
    ∃ b, a = some ⟨b, 0, none⟩ ∧ b < w.heap.size ∧ B ≤ b ∧ w.cell? ⟨b, k * 5, none⟩ = some (.int .i64 es[k].f) ∧ w.cell? ⟨b, k * 5 + 1, none⟩ = some (.int .i64 es[k].t) ∧ w.cell? ⟨b, k * 5 + 2, none⟩ = some (.int .i64 es[k].l) ∧ w.cell? ⟨b, k * 5 + 3, none⟩ = some (.int .i64 es[k].d) ∧ w.cell? ⟨b, k * 5 + 4, none⟩ = some (.int .i8 es[k].y) := by
  have h0 : w.ownsRow B 51 5 (.slice a es.length c) es.length (ecells es) := h
  rcases h0.2 with ⟨-, e⟩ | ⟨b, cap, cur, e, g1, -⟩
  · omega
  · injection e with e1 e2 e3
    subst e1
    have hb := (h0.lt b rfl).2
    have k5 : ∀ j, j < 5 → w.cell? ⟨b, k * 5 + j, none⟩ = es[k].cells[j]? := fun j hj => by
      rw [h0.cellAt _ (by have : k * 5 + j < (k + 1) * 5 := by omega
                          exact Nat.lt_of_lt_of_le this (Nat.mul_le_mul_right 5 hk)), ecells_at es k hk j hj]
    exact ⟨b, rfl, hb, g1, k5 0 (by omega), k5 1 (by omega), k5 2 (by omega), k5 3 (by omega), k5 4 (by omega)⟩
theorem EOwn.up {B c : Nat} {w w' : World} {a : Option Addr} {es : List Ed} (h : EOwn B w a c es) (hb : Below w.heap.size w w') : EOwn B w' a c es := row_up h hb
end Go.Proofs.YteccifanbgcakaaGreatDoor.Dp
