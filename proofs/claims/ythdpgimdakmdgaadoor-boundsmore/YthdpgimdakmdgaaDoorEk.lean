/- What depends on what (Of, Loop), read off the program by the walk. Conditions: the list lies in memory, the variables as the program lays them. -/
import Derived.Test.YthdpgimdakmdgaaDoorEj
namespace Go.Proofs.YthdpgimdakmdgaaDoor.Dp
open Go.ChangeShapes Go.WideShapes Go.ChangeAt Go.RowKit
open _root_.Go.Proofs.YthdpgimdakmdgaaDoor.Op _root_.Go.Proofs.YthdpgimdakmdgaaDoor.So
open _root_.Go.Proofs.YthdpgimdakmdgaaDoor.Tb (Tab TabAt Bnds)
set_option maxRecDepth 20000

/-- The parts of a list, the dependences in one round, and with those from round to round. -/
def ptsL (t : Tab) (xs : List O) : List Pt := xs.map (ptL t)
def ofE (t : Tab) (xs : List O) : List Ed := withinE xs (ptsL t xs) xs.length
def loopE (t : Tab) (xs : List O) : List Ed := withinE xs (ptsL t xs) xs.length ++ acrossE xs (ptsL t xs) xs.length
theorem ptsL_len (t : Tab) (xs : List O) : (ptsL t xs).length = xs.length := by simp [ptsL]
/-- A list of dependences that was made: no older block. -/
def EOwn (B : Nat) (w : World) (a : Option Addr) (c : Nat) (es : List Ed) : Prop := w.ownsRow B 51 5 (.slice a es.length c) es.length (ecells es)
theorem eOwn_of {w : World} {B B' : Nat} {v : Value} {es : List Ed} (h : w.ownsRow B 51 5 v es.length (ecells es)) (hB : B' ≤ B) : ∃ a c, v = .slice a es.length c ∧ EOwn B' w a c es := by
  obtain ⟨h1, h2⟩ := h
  rcases h2 with ⟨rfl, h0⟩ | ⟨b, cap, cur, rfl, g1, g2⟩
  · exact ⟨none, 0, by rw [h0], h1, .inl ⟨by rw [h0], h0⟩⟩
  · exact ⟨_, cap, rfl, h1, .inr ⟨b, cap, cur, rfl, by omega, g2⟩⟩
theorem ptL_ok (t : Tab) (o : O) (ho : o.Ok) (hk : okO o = true) (ht : t.ok = true) : (0 ≤ (ptL t o).r ∧ (ptL t o).r ≤ 31) ∧ 1 ≤ (ptL t o).l ∧ (ptL t o).l ≤ 8 := by
  unfold ptL
  cases h : kOf o.op with
  | none => rw [okO_none h] at hk; cases hk
  | some k =>
    have hf : okF k o = true := by rw [← okO_some h]; exact hk
    have hl := clV_in o.op
    have hc := (Tb.ok_parts ht).2 (clV o.op).toNat (by omega)
    have hc := Tb.inB_iff hc.2.1
    refine ⟨?_, hc⟩
    show 0 ≤ wrD o ∧ wrD o ≤ 31
    unfold wrD
    cases hw : wrB o
    · simp
    · have h0 := ho.d0
      have : o.d ≤ 31 := by
        unfold wrB at hw
        rw [h] at hw
        simp only [Bool.and_eq_true] at hw
        simp only [okF, Bool.and_eq_true, hw.2] at hf
        have := hf.1.1.1
        simp [rH] at this
        omega
      simp; omega
theorem pts_ok (t : Tab) (xs : List O) (hok : ∀ o ∈ xs, o.Ok ∧ okO o = true) (ht : t.ok = true) : PtsOk (ptsL t xs) := fun p hp => by
  obtain ⟨o, ho, rfl⟩ := List.mem_map.1 hp
  exact ptL_ok t o (hok o ho).1 (hok o ho).2 ht
theorem lis_all {t : Tab} {xs : List O} (h : lisE t xs = 0) : t.ok = true ∧ xs.length ≤ 1024 ∧ ∀ o ∈ xs, okL o = true := by
  unfold lisE at h
  split at h
  · omega
  · rename_i h1
    split at h
    · omega
    · rename_i h2
      split at h
      · rename_i h3
        exact ⟨by simpa using h1, by omega, fun o ho => List.all_eq_true.1 h3 o ho⟩
      · omega
theorem okL_okO {o : O} (h : okL o = true) : okO o = true := by
  simp only [okL, Bool.and_eq_true] at h
  exact h.2
/-- The finder, when it is made and under way. -/
structure Fm (w W : World) (ao : Option Addr) (n cap : Nat) (ps : List Pt) (ve : Value) (es : List Ed) : Prop where
  fe : FE W (w.heap.size + 1) ve es
  c0 : W.cell? ⟨w.heap.size + 1, 0, none⟩ = some (.slice ao n cap)
  pt : (ps = [] ∧ W.cell? ⟨w.heap.size + 1, 1, none⟩ = some (.slice none 0 0)) ∨ ∃ pb pc, W.cell? ⟨w.heap.size + 1, 1, none⟩ = some (.slice (some ⟨pb, 0, none⟩) ps.length pc) ∧ PsAt W pb ps ∧ ¬ pb = w.heap.size + 1 ∧ ¬ ve.ownBlock = some pb
  up : Below w.heap.size w W
theorem fm_of {w W : World} {ao : Option Addr} {n cap : Nat} {t : Tab} {vp : Value} {ps : List Pt} (h : Nf w W ao n cap t vp ps) : Fm w W ao n cap ps (.slice none 0 0) [] := by
  refine ⟨⟨h.f.c 2 _ rfl, h.f.f 2, h.f.lt, World.ownsRow_nil _ _ _ _⟩, h.f.c 0 _ rfl, ?_, h.up⟩
  rcases h.row.2 with ⟨e, h0⟩ | ⟨b, cap, cur, e, g1, g2⟩
  · subst e
    exact .inl ⟨List.eq_nil_of_length_eq_zero h0, h.f.c 1 _ rfl⟩
  · subst e
    exact .inr ⟨b, cap, h.f.c 1 _ rfl, psAt_row h.row, by omega, fun e => by cases e⟩
theorem Fm.own {w W : World} {ao : Option Addr} {n cap : Nat} {ps : List Pt} {ve : Value} {es : List Ed} (h : Fm w W ao n cap ps ve es) : ∀ k, ve.ownBlock = some k → w.heap.size ≤ k := fun k e => by have := (h.fe.row.lt k e).1; omega
theorem Fm.next {w W W' : World} {ao : Option Addr} {n cap : Nat} {ps : List Pt} {ve ve' : Value} {es es' : List Ed} (h : Fm w W ao n cap ps ve es) (hf : FE W' (w.heap.size + 1) ve' es') (hg : Gr (w.heap.size + 1) ve W ve' W') : Fm w W' ao n cap ps ve' es' := by
  have hl := h.fe.lt
  refine ⟨hf, (hg.fc hl 0 (by decide)).trans h.c0, ?_, h.up.trans (hg.below (by omega) h.up.size h.own)⟩
  rcases h.pt with ⟨e, c1⟩ | ⟨pb, pc, c1, hp, n1, n3⟩
  · exact .inl ⟨e, (hg.fc hl 1 (by decide)).trans c1⟩
  · refine .inr ⟨pb, pc, (hg.fc hl 1 (by decide)).trans c1, hp.fr hg.fr ?_, n1, fun e => n3 (hg.ow _ hp.lt e)⟩
    rintro (e | e)
    · exact n1 e
    · exact n3 e
theorem Fm.ops {w W : World} {ao : Option Addr} {n cap : Nat} {ps : List Pt} {ve : Value} {es : List Ed} (h : Fm w W ao n cap ps ve es) {xs : List O} (ho : OpsAt w ao xs) : ∀ W', Fr (fun k => k = w.heap.size + 1 ∨ ve.ownBlock = some k) W W' → OpsAt W' ao xs := fun W' hF =>
  ho.below (h.up.trans (hF.below h.up.size fun k hk e => by
    rcases e with e | e
    · omega
    · have := h.own k e; omega))
set_option maxHeartbeats 2000000 in
theorem within_none (f cap : Nat) (ao : Option Addr) (w : World) (hf : f < w.heap.size) (c0 : w.cell? ⟨f, 0, none⟩ = some (.slice ao 0 cap)) : Calls Tryd.prog 24 #[.pointer (some ⟨f, 0, none⟩)] w fun r w' => r = .returned (.tuple #[]) ∧ Below w.heap.size w w' := by
  have hn : ¬ f = w.heap.size := by omega
  have hn' : ¬ w.heap.size = f := by omega
  go_enter Tryd.func24, Tryd.ntmps24
  go_wp2_with fail
  go_loop [10] (fun i => i = .int .i64 0) (fun _ => 0)
  case atStart => rfl
  case round =>
    subst hrel
    go_wp2_with fail
    go_end0
    exact ⟨rfl, by go_grown⟩
set_option maxHeartbeats 2000000 in
theorem across_none (f cap : Nat) (ao : Option Addr) (w : World) (hf : f < w.heap.size) (c0 : w.cell? ⟨f, 0, none⟩ = some (.slice ao 0 cap)) (c1 : w.cell? ⟨f, 1, none⟩ = some (.slice none 0 0)) : Calls Tryd.prog 25 #[.pointer (some ⟨f, 0, none⟩)] w fun r w' => r = .returned (.tuple #[]) ∧ Below w.heap.size w w' := by
  have hn : ¬ f = w.heap.size := by omega
  have hn' : ¬ w.heap.size = f := by omega
  go_enter Tryd.func25, Tryd.ntmps25
  go_wp2_with fail
  go_loop [12] (fun i => i = .int .i64 0) (fun _ => 0)
  case atStart => rfl
  case round =>
    subst hrel
    go_wp2_with fail
    go_loop [26] (fun i => i = .int .i64 0) (fun _ => 0)
    case atStart => rfl
    case round =>
      subst hrel
      go_wp2_with fail
      go_end0
      exact ⟨rfl, by go_grown⟩
theorem fm_within {w W : World} {ao : Option Addr} {cap : Nat} {xs : List O} {ps : List Pt} {ve : Value} {es : List Ed} (h : Fm w W ao xs.length cap ps ve es) (ho : OpsAt w ao xs) (hcap : xs.length ≤ cap) (hl : ps.length = xs.length) (hn : xs.length ≤ 1024) (hpt : PtsOk ps) (he : es.length ≤ 100000000) :
    Calls Tryd.prog 24 #[.pointer (some ⟨w.heap.size + 1, 0, none⟩)] W fun r w' => r = .returned (.tuple #[]) ∧ ∃ ve', Fm w w' ao xs.length cap ps ve' (es ++ withinE xs ps xs.length) := by
  rcases h.pt with ⟨e, c1⟩ | ⟨pb, pc, c1, hp, n1, n3⟩
  · have h0 : xs.length = 0 := by rw [← hl, e]; rfl
    have c0 := h.c0
    rw [h0] at c0
    refine (within_none _ _ _ W h.fe.lt c0).mono ?_
    rintro r w' ⟨rfl, hb⟩
    refine ⟨rfl, ve, ?_⟩
    rw [show withinE xs ps xs.length = [] by rw [h0]; rfl, List.append_nil]
    exact h.next (h.fe.up hb) (Gr.of hb)
  · refine (within_any _ pb pc cap ao xs ps ve es W h.fe h.c0 c1 hp n1 n3 (h.ops ho) hcap hl hn hpt he).mono ?_
    rintro r w' ⟨rfl, ve', h1, h2⟩
    exact ⟨rfl, ve', h.next h1 h2⟩
theorem fm_across {w W : World} {ao : Option Addr} {cap : Nat} {xs : List O} {ps : List Pt} {ve : Value} {es : List Ed} (h : Fm w W ao xs.length cap ps ve es) (ho : OpsAt w ao xs) (hl : ps.length = xs.length) (hn : xs.length ≤ 1024) (hpt : PtsOk ps) (he : es.length ≤ 100000000) :
    Calls Tryd.prog 25 #[.pointer (some ⟨w.heap.size + 1, 0, none⟩)] W fun r w' => r = .returned (.tuple #[]) ∧ ∃ ve', Fm w w' ao xs.length cap ps ve' (es ++ acrossE xs ps xs.length) := by
  rcases h.pt with ⟨e, c1⟩ | ⟨pb, pc, c1, hp, n1, n3⟩
  · have h0 : xs.length = 0 := by rw [← hl, e]; rfl
    have c0 := h.c0
    rw [h0] at c0
    refine (across_none _ _ _ W h.fe.lt c0 c1).mono ?_
    rintro r w' ⟨rfl, hb⟩
    refine ⟨rfl, ve, ?_⟩
    rw [show acrossE xs ps xs.length = [] by rw [h0]; rfl, List.append_nil]
    exact h.next (h.fe.up hb) (Gr.of hb)
  · refine (across_any _ pb pc cap ao xs ps ve es W h.fe h.c0 c1 hp n1 n3 (h.ops ho) hl hn hpt he).mono ?_
    rintro r w' ⟨rfl, ve', h1, h2⟩
    exact ⟨rfl, ve', h.next h1 h2⟩
/-- What Of and Loop answer. -/
def EdOut (w : World) (er : Int) (es : List Ed) (e : Ending) (w' : World) : Prop := ∃ a c, e = .returned (.tuple #[.slice a es.length c, .int .i64 er]) ∧ EOwn w.heap.size w' a c es ∧ Below w.heap.size w w'
def erE (t : Tab) (xs : List O) (es : List Ed) : List Ed := if lisE t xs = 0 then es else []
structure Tc (w W : World) (t : Tab) : Prop where
  t : TabAt W w.heap.size t
  up : Below w.heap.size w W
theorem Tc.start (w : World) (t : Tab) {c : Array Value} (hc : c = t.cells) {W : World} (hb : Below (w.alloc (.cells c 25)).heap.size (w.alloc (.cells c 25)) W) : Tc w W t := by
  subst hc
  have h2 := Tb.tabAt_new w t 25
  exact ⟨h2.below hb h2.lt, ((Below.refl _ _).alloc (Nat.le_refl _) _).trans (hb.mono (by simp))⟩
end Go.Proofs.YthdpgimdakmdgaaDoor.Dp
