/- The document's machine: so many cycles, and what is told of them (Run), read off the program by the walk. Conditions: the machine lies in memory, its bundles are well formed. -/
import Derived.Test.YtldfjlepbbmhnaaDoorZi
import Derived.Deep.CutBlock
namespace Go.Proofs.YtldfjlepbbmhnaaDoor.Pp
open Go.ChangeShapes Go.WideShapes Go.ChangeAt Go.RowKit
open _root_.Go.Proofs.YtldfjlepbbmhnaaDoor.Op _root_.Go.Proofs.YtldfjlepbbmhnaaDoor.So _root_.Go.Proofs.YtldfjlepbbmhnaaDoor.Bu
open _root_.Go.Proofs.YtldfjlepbbmhnaaDoor.Tb (Tab TabAt Bnds)
set_option maxRecDepth 20000

section
variable {w w' W : World} {t : Tab} {bs : List Bn} {H H0 : Rx} {R R0 : RM} {L : Nat}
theorem bdR_ok (hB : Bp t bs) : ∀ (l : List (O × Nat)) {R : RM} {L : Nat}, R.Ok L → L + l.length ≤ 1000000000 → R.s ≤ 100000000000 → (∀ p ∈ l, OkM p.1 ∧ p.2 < 4) → (bdR t R l).Ok (L + l.length) ∧ (bdR t R l).s = R.s ∧ (bdR t R l).a = R.a
  | [], R, L, h, _, _, _ => ⟨h, rfl, rfl⟩
  | p :: l, R, L, h, hl, hs, hp => by
    have hp0 := hp p (by simp)
    rw [List.length_cons] at hl ⊢
    have ho := iss_ok (k := p.2) h (by omega) hs hB.tt hB.d hp0.2 hp0.1
    have hsa := issR_same t p.2 R p.1
    unfold bdR
    by_cases he : (issR t p.2 R p.1).en = true
    · rw [if_pos he]
      exact ⟨ho.mono (by omega), hsa⟩
    · rw [if_neg he]
      have := bdR_ok hB l ho (by omega) (by rw [hsa.1]; exact hs) (fun q hq => hp q (by simp [hq]))
      exact ⟨this.1.mono (by omega), this.2.1.trans hsa.1, this.2.2.trans hsa.2⟩
theorem cyR_ok (hB : Bp t bs) (h : R.Ok L) (hL : L ≤ 100000000) (hs : R.s ≤ 99999999999) : (cyR t bs R).Ok (L + 512) ∧ (cyR t bs R).s ≤ R.s + 1 := by
  unfold cyR
  by_cases he : R.en = true
  · rw [if_pos he]
    exact ⟨h.mono (by omega), by omega⟩
  · rw [if_neg he]
    have hT := turnR_ok (landR_ok h)
    have hTs : (turnR (landR R)).s = R.s := (landR_se R).1
    generalize turnR (landR R) = T at *
    unfold goR
    by_cases ha : 0 ≤ T.a ∧ T.a < (bs.length : Int)
    · rw [if_pos ha]
      unfold atR
      have hi : T.a.toNat < bs.length := by omega
      rw [show bs.getD T.a.toNat ⟨fun _ => []⟩ = bs[T.a.toNat] by rw [List.getD_eq_getElem?_getD, List.getElem?_eq_getElem hi]; rfl]
      have hm : bs[T.a.toNat] ∈ bs := List.getElem_mem hi
      have hlen := restO_len (hB.b.n _ hm) 4 (by decide)
      have hb := bdR_ok hB (restO bs[T.a.toNat] 4) hT (by omega) (by omega) (fun p hp => by
        obtain ⟨k, hk, hx⟩ := restO_mem 4 (by decide) hp
        exact ⟨hB.b.o _ hm k hk _ hx, restO_cls 4 (by decide) hp⟩)
      generalize bdR t T (restO bs[T.a.toNat] 4) = U at *
      obtain ⟨u1, u2, u3⟩ := hb
      have u4 := u1.mono (L' := L + 512) (by omega)
      have hbl := hB.b.b
      split
      · exact ⟨⟨u4.r, u4.m, u4.a, u4.c0, u4.c1, u4.f, u4.u, u4.lf, u4.lt, u4.lp⟩, by show U.s + 1 ≤ _; omega⟩
      · exact ⟨⟨u4.r, u4.m, by show I64 (U.a + 1); rw [u3]; unfold I64; omega, u4.c0, u4.c1, u4.f, u4.u, u4.lf, u4.lt, u4.lp⟩, by show U.s + 1 ≤ _; omega⟩
    · rw [if_neg ha]
      have h2 := hT.mono (L' := L + 512) (by omega)
      exact ⟨⟨h2.r, h2.m, h2.a, h2.c0, h2.c1, h2.f, h2.u, h2.lf, h2.lt, h2.lp⟩, by show T.s ≤ _; omega⟩
theorem stB_no (h : stB bs R = false) : (cyR t bs R).en = true := by
  unfold stB at h
  unfold cyR
  by_cases he : R.en = true
  · rw [if_pos he]; exact he
  · rw [if_neg he]
    have he : R.en = false := by simpa using he
    rw [he] at h
    have h : decide (0 ≤ (turnR (landR R)).a ∧ (turnR (landR R)).a < (bs.length : Int)) = false := h
    unfold goR
    rw [if_neg (of_decide_eq_false h)]
    rfl
theorem runR_one (t : Tab) (bs : List Bn) (n : Nat) (R : RM) : runR t bs (n + 1) R = runR t bs n (cyR t bs R) := rfl
/-- Something that the machine does not hold turns. -/
theorem Rch.far {X : Nat → Prop} (h0 : Rch W t bs H0 R0) (h : Rch w t bs H R) (n : Rn W H0 w H) (g : Fr X w w') (hx : ∀ b, X b → W.heap.size ≤ b ∧ ¬ rown H b) : Rch w' t bs H R ∧ Rn W H0 w' H := by
  have off : ∀ i, i < 6 → ∀ b, blk H i = some b → ¬ X b := fun i hi b e hX => (hx b hX).2 ⟨i, hi, e⟩
  have tn : Rn W H0 w' H := ⟨n.f.trans g fun k hk hX => absurd (hx k hX).1 (by omega), n.t, n.q, n.a, n.rb, n.ub⟩
  exact ⟨⟨h.c.fr g (off 0 (by decide) _ rfl), h.rr.fr g (off 1 (by decide) _ rfl), h.mm.fr g (off 2 (by decide) _ rfl), row_fr h.ff g (off 3 (by decide)), row_fr h.tt g (off 4 (by decide)), row_fr h.pp g (off 5 (by decide)), h.d, rF_go h0.bF tn⟩, tn⟩
theorem rown_lt (h : Rch W t bs H R) {b : Nat} (e : rown H b) : b < W.heap.size := by
  obtain ⟨i, hi, e⟩ := e
  exact h.blt i hi b e
def ouE (R : RM) : Int := if R.en then R.e else 100
def ouV (R : RM) : Int := if R.en then R.v else 0
def ouM (R : RM) : List Int := if R.en = true ∧ R.e = 0 then mmR R else []
/-- What Run answers. -/
def RrOut (w : World) (t : Tab) (bs : List Bn) (H : Rx) (R2 : RM) (e : Ending) (w' : World) : Prop :=
  ∃ po pc mo mc, e = .returned (.agg #[.int .i64 (ouE R2), .int .i64 (ouV R2), .slice po R2.p.length pc, .slice mo (ouM R2).length mc, .int .i64 (R2.s : Int)]) ∧ w'.ownsRow w.heap.size 2 1 (.slice po R2.p.length pc) R2.p.length (nums R2.p) ∧ w'.ownsRow w.heap.size 2 1 (.slice mo (ouM R2).length mc) (ouM R2).length (nums (ouM R2)) ∧
    ∃ H', Rch w' t bs H' R2 ∧ Rn w H w' H' ∧ (∀ b, (Value.slice po R2.p.length pc).ownBlock = some b → ¬ rown H' b) ∧ (∀ b, (Value.slice mo (ouM R2).length mc).ownBlock = some b → ¬ rown H' b)
/-- Cycles under way. -/
structure Ru (w W : World) (t : Tab) (bs : List Bn) (H : Rx) (R : RM) (n L j : Nat) : Prop where
  ex : ∃ H' R', Rch W t bs H' R' ∧ Rn w H W H' ∧ runR t bs n R = runR t bs (n - j) R' ∧ R'.Ok (L + 512 * j) ∧ R'.s ≤ R.s + j ∧ ¬ rown H' w.heap.size
  bx : At W w.heap.size #[.int .i64 0, .int .i64 0, .slice none 0 0, .slice none 0 0, .int .i64 0]
/-- Behind the cycles. -/
structure Rv (w W : World) (t : Tab) (bs : List Bn) (H : Rx) (R2 : RM) : Prop where
  ex : ∃ H', Rch W t bs H' R2 ∧ Rn w H W H' ∧ ¬ rown H' w.heap.size
  bx : At W w.heap.size #[.int .i64 0, .int .i64 0, .slice none 0 0, .slice none 0 0, .int .i64 0]
/-- What is told, under way. -/
structure Rz (wc W : World) (u v p m x : Value) : Prop where
  b : At W wc.heap.size #[u, v, p, m, x]
  up : Below wc.heap.size wc W
  z : wc.heap.size + 1 ≤ W.heap.size
theorem Rz.next {wc W W' : World} {u v p m x : Value} (h : Rz wc W u v p m x) (g : Below W.heap.size W W') : Rz wc W' u v p m x := ⟨h.b.below g h.b.lt, h.up.trans (g.mono h.up.size), Nat.le_trans h.z g.size⟩
theorem Rz.setx {wc W : World} {cs : Array Value} {k : Nat} {y : Value} (hb : At W wc.heap.size cs) (up : Below wc.heap.size wc W) (z : wc.heap.size + 1 ≤ W.heap.size) (hk : k < cs.size) : At (W.setCell ⟨wc.heap.size, k, none⟩ y) wc.heap.size (cs.setIfInBounds k y) ∧ Below wc.heap.size wc (W.setCell ⟨wc.heap.size, k, none⟩ y) ∧ wc.heap.size + 1 ≤ (W.setCell ⟨wc.heap.size, k, none⟩ y).heap.size ∧ ∀ (B : Nat) (v : Value) (n : Nat) (xs : List Value), wc.heap.size + 1 ≤ B → W.ownsRow B 2 1 v n xs → (W.setCell ⟨wc.heap.size, k, none⟩ y).ownsRow B 2 1 v n xs := by
  have f : Fr (One wc.heap.size) W (W.setCell ⟨wc.heap.size, k, none⟩ y) := (Fr.refl (One wc.heap.size) _).setCell (.inr rfl) _ _
  exact ⟨At.setk hb hk, up.trans (f.below up.size fun b hb e => by have e : b = wc.heap.size := e; omega), Nat.le_trans z f.size, fun B v n xs hB hr => row_fr hr f fun b e e2 => by
    have e2 : b = wc.heap.size := e2
    have := (hr.lt b e).1
    omega⟩
set_option maxHeartbeats 8000000 in
theorem rrun_any (N : Int) (n L : Nat) (h : Rch w t bs H R) (hR : R.Ok L) (hB : Bp t bs) (hN : max N 0 = (n : Int)) (hn : n ≤ 100000) (hs : R.s + n ≤ 10000000000) (hL : L + 512 * n ≤ 100000000) : Calls Tryd.prog 12 #[ptr H.mb, .int .i64 N] w (RrOut w t bs H (runR t bs n R)) := by
  have H0 : Hid (Rch w t bs H R) := h
  have HB : Hid (Bp t bs) := hB
  have HU0 : Hid (Ru w (w.alloc (.cells #[.int .i64 0, .int .i64 0, .slice none 0 0, .slice none 0 0, .int .i64 0] 42)) t bs H R n L 0) := by
    have g : Below w.heap.size w (w.alloc (.cells #[.int .i64 0, .int .i64 0, .slice none 0 0, .slice none 0 0, .int .i64 0] 42)) := (Below.refl _ _).alloc (Nat.le_refl _) _
    exact ⟨⟨H, R, h.up g, Rn.of g, rfl, hR, Nat.le_refl _, fun e => absurd (rown_lt h e) (by omega)⟩, At.new _ _ _⟩
  have HE : Hid (∀ (V : World) (R' : RM), Rv w V t bs H R' → R' = runR t bs n R → Rv w V t bs H (runR t bs n R)) := fun V R' a b => b ▸ a
  have hp : (runR t bs n R).p.length ≤ 1000000000 := by
    have key : ∀ (m : Nat) {R' : RM} {L' : Nat}, R'.Ok L' → L' + 512 * m ≤ 100000000 → R'.s + m ≤ 10000000000 → (runR t bs m R').Ok (L' + 512 * m) := fun m => by
      induction m with
      | zero => exact fun h _ _ => h
      | succ m ih =>
        intro R' L' h h1 h2
        have hc := cyR_ok hB h (by omega) (by omega)
        rw [runR_one]
        exact (ih hc.1 (by omega) (by omega)).mono (by omega)
    have := (key n hR hL hs).lp
    omega
  clear h hR hB
  have n0 : (0 : Int) ≤ (n : Int) := by omega
  have n4 : min (n : Int) 1048576 = (n : Int) := by omega
  go_enter Tryd.func12, Tryd.ntmps12
  go_upto_block 0 with fail
  generalize (w.alloc (.cells #[.int .i64 0, .int .i64 0, .slice none 0 0, .slice none 0 0, .int .i64 0] 42)) = X at *
  go_cut [5] (fun _ wc => Hid (Rv w wc t bs H (runR t bs n R)))
  case first =>
    go_wp2_with fail
    go_loopw [5] (fun v wr => ∃ j : Nat, j ≤ n ∧ v = .int .i64 j ∧ Hid (Ru w wr t bs H R n L j)) (fun v _ => n - (intOf v).toNat)
    case atStart => exact ⟨0, by omega, rfl, HU0⟩
    case round =>
      rename World => wr
      clear HU0
      obtain ⟨j, hj, rfl, HU⟩ := hrel
      by_cases hlt : j < n
      · have j0 : (0 : Int) ≤ (j : Int) := by omega
        have j1 : (j : Int) < (n : Int) := by omega
        obtain ⟨H1, R1, m1, t1, r1, o1, s1, b1⟩ := HU.out.ex
        have hbx := HU.out.bx
        have HS : Hid (Calls Tryd.prog 30 #[ptr H.mb] wr fun e w' => StP wr t bs H1 (stB bs R1) (cyR t bs R1) e w') := by
          have := rstep_any m1 o1 (by omega) (by omega) HB.out
          rw [t1.q] at this
          exact this
        have hc := cyR_ok HB.out o1 (by omega) (by omega)
        have HNx : Hid (∀ w', (∃ H', Rch w' t bs H' (cyR t bs R1) ∧ Rn wr H1 w' H') → Ru w w' t bs H R n L (j + 1)) := fun w' ⟨H', m2, t2⟩ => by
          have hz := hbx.lt
          have hb2 : ¬ rown H' w.heap.size := fun e => (t2.t _ e).elim b1 (fun e => by omega)
          exact ⟨⟨H', _, m2, t1.trans t2, by rw [r1, show n - j = (n - (j + 1)) + 1 by omega, runR_one], hc.1.mono (by omega), by omega, hb2⟩, At.frb hbx t2.f b1⟩
        cases hst : stB bs R1 with
        | false =>
          rw [hst] at HS
          have HNe : Hid (∀ w', (∃ H', Rch w' t bs H' (cyR t bs R1) ∧ Rn wr H1 w' H') → Rv w w' t bs H (runR t bs n R)) := fun w' hw => by
            have he := stB_no (t := t) hst
            have hx := HNx.out w' hw
            obtain ⟨H', m2, t2⟩ := hw
            have hz := hbx.lt
            have hb2 : ¬ rown H' w.heap.size := fun e => (t2.t _ e).elim b1 (fun e => by omega)
            refine HE.out _ _ ⟨⟨H', m2, t1.trans t2, hb2⟩, hx.bx⟩ ?_
            rw [r1, show n - j = (n - (j + 1)) + 1 by omega, runR_one, runR_over t bs he]
          clear m1 t1 r1 o1 s1 b1 hbx hc HU hst
          go_wp2_with (first | (go_at_call 30; refine Calls.mono HS.out ?_; rintro e w3 ⟨rfl, h3⟩; have HV : Hid _ := HNe.out w3 h3; clear h3))
          go_meet
          exact HV
        | true =>
          rw [hst] at HS
          clear m1 t1 r1 o1 s1 b1 hbx hc HU hst
          go_wp2_with (first | (go_at_call 30; refine Calls.mono HS.out ?_; rintro e w3 ⟨rfl, h3⟩; have HU3 : Hid _ := HNx.out w3 h3; clear h3))
          go_roundw
          case rel => exact ⟨j + 1, by omega, by go_num, HU3⟩
          case measure => simp [intOf]; omega
      · obtain rfl : j = n := by omega
        have j1 : ¬ (j : Int) < (j : Int) := by omega
        have HV : Hid (Rv w wr t bs H (runR t bs j R)) := by
          obtain ⟨H1, R1, m1, t1, r1, o1, s1, b1⟩ := HU.out.ex
          refine HE.out _ _ ⟨⟨H1, m1, t1, b1⟩, HU.out.bx⟩ ?_
          rw [r1, Nat.sub_self]
          rfl
        clear HU
        go_wp2_with fail
        go_meet
        exact HV
  case rest =>
    have HV : Hid (Rv w wc t bs H (runR t bs n R)) := hcut
    clear hcut HU0 HE
    generalize runR t bs n R = R2 at *
    obtain ⟨H2, m2, t2, b2⟩ := HV.out.ex
    have hq := t2.q
    have HM : Hid (∀ V, Below wc.heap.size wc V → H.mb < V.heap.size ∧ V.cell? ⟨H.mb, 24, none⟩ = some H2.pv ∧ V.cell? ⟨H.mb, 15, none⟩ = some (.slice (some ⟨H2.ub, 0, none⟩) 256 256) ∧ Src V H2.pv R2.p ∧ Src V (.slice (some ⟨H2.ub, 0, none⟩) 256 256) (mmR R2) ∧ V.cell? ⟨H.mb, 21, none⟩ = some (.bool R2.en) ∧ V.cell? ⟨H.mb, 22, none⟩ = some (.int .i64 R2.e) ∧ V.cell? ⟨H.mb, 23, none⟩ = some (.int .i64 R2.v)) := fun V hV => by
      have m := m2.up hV
      rw [← hq]
      exact ⟨m.c.lt, m.c.p, m.c.ms, Src.row m.pp, Src.blk m.mm, m.c.en, m.c.e, m.c.v⟩
    have HL : Hid (R2.p.length ≤ 1000000000) := hp
    have q0 := m2.c.s
    have ql := m2.c.lt
    rw [hq] at q0 ql
    have HF : Hid (∀ (V : World) (a0 : Option Addr) (c0 : Nat) (mo : Option Addr) (mc : Nat), Rz wc V (.int .i64 (ouE R2)) (.int .i64 (ouV R2)) (.slice a0 R2.p.length c0) (.slice mo (ouM R2).length mc) (.int .i64 (R2.s : Int)) → V.ownsRow (wc.heap.size + 1) 2 1 (.slice a0 R2.p.length c0) R2.p.length (nums R2.p) → V.ownsRow (wc.heap.size + 1) 2 1 (.slice mo (ouM R2).length mc) (ouM R2).length (nums (ouM R2)) → At V w.heap.size #[.int .i64 0, .int .i64 0, .slice none 0 0, .slice none 0 0, .int .i64 0] ∧ At (((((V.setCell ⟨w.heap.size, 0, none⟩ (.int .i64 (ouE R2))).setCell ⟨w.heap.size, 1, none⟩ (.int .i64 (ouV R2))).setCell ⟨w.heap.size, 2, none⟩ (.slice a0 R2.p.length c0)).setCell ⟨w.heap.size, 3, none⟩ (.slice mo (ouM R2).length mc)).setCell ⟨w.heap.size, 4, none⟩ (.int .i64 (R2.s : Int))) w.heap.size #[.int .i64 (ouE R2), .int .i64 (ouV R2), .slice a0 R2.p.length c0, .slice mo (ouM R2).length mc, .int .i64 (R2.s : Int)] ∧ RrOut w t bs H R2 (.returned (.agg #[.int .i64 (ouE R2), .int .i64 (ouV R2), .slice a0 R2.p.length c0, .slice mo (ouM R2).length mc, .int .i64 (R2.s : Int)])) (((((V.setCell ⟨w.heap.size, 0, none⟩ (.int .i64 (ouE R2))).setCell ⟨w.heap.size, 1, none⟩ (.int .i64 (ouV R2))).setCell ⟨w.heap.size, 2, none⟩ (.slice a0 R2.p.length c0)).setCell ⟨w.heap.size, 3, none⟩ (.slice mo (ouM R2).length mc)).setCell ⟨w.heap.size, 4, none⟩ (.int .i64 (R2.s : Int)))) := fun V a0 c0 mo mc hz r0 r1 => by
      have hwl : w.heap.size < wc.heap.size := HV.out.bx.lt
      have ha : At V w.heap.size #[.int .i64 0, .int .i64 0, .slice none 0 0, .slice none 0 0, .int .i64 0] := HV.out.bx.below hz.up HV.out.bx.lt
      have f3 : Fr (One w.heap.size) V (((((V.setCell ⟨w.heap.size, 0, none⟩ (.int .i64 (ouE R2))).setCell ⟨w.heap.size, 1, none⟩ (.int .i64 (ouV R2))).setCell ⟨w.heap.size, 2, none⟩ (.slice a0 R2.p.length c0)).setCell ⟨w.heap.size, 3, none⟩ (.slice mo (ouM R2).length mc)).setCell ⟨w.heap.size, 4, none⟩ (.int .i64 (R2.s : Int))) := (((((Fr.refl (One w.heap.size) V).setCell (.inr rfl) _ _).setCell (.inr rfl) _ _).setCell (.inr rfl) _ _).setCell (.inr rfl) _ _).setCell (.inr rfl) _ _
      have hb : At (((((V.setCell ⟨w.heap.size, 0, none⟩ (.int .i64 (ouE R2))).setCell ⟨w.heap.size, 1, none⟩ (.int .i64 (ouV R2))).setCell ⟨w.heap.size, 2, none⟩ (.slice a0 R2.p.length c0)).setCell ⟨w.heap.size, 3, none⟩ (.slice mo (ouM R2).length mc)).setCell ⟨w.heap.size, 4, none⟩ (.int .i64 (R2.s : Int))) w.heap.size #[.int .i64 (ouE R2), .int .i64 (ouV R2), .slice a0 R2.p.length c0, .slice mo (ouM R2).length mc, .int .i64 (R2.s : Int)] := At.setk (k := 4) (At.setk (k := 3) (At.setk (k := 2) (At.setk (k := 1) (At.setk (k := 0) ha (by simp)) (by simp)) (by simp)) (by simp)) (by simp)
      have k0 := row_fr r0 f3 fun b e e2 => by have e2 : b = w.heap.size := e2; have := (r0.lt b e).1; omega
      have k1 := row_fr r1 f3 fun b e e2 => by have e2 : b = w.heap.size := e2; have := (r1.lt b e).1; omega
      have hm := H0.out.far (m2.up hz.up) (t2.up hz.up) f3 fun b e => ⟨Nat.le_of_eq (Eq.symm e), by have e : b = w.heap.size := e; rw [e]; exact b2⟩
      exact ⟨ha, hb, _, _, _, _, rfl, row_le k0 (by omega), row_le k1 (by omega), H2, hm.1, hm.2, fun b e e2 => by have := (r0.lt b e).1; have := rown_lt m2 e2; omega, fun b e e2 => by have := (r1.lt b e).1; have := rown_lt m2 e2; omega⟩
    clear m2 t2 b2 hq HV H0 HB hp n0 n4 hN hn hs hL
    go_upto_region 8 with fail
    have HX : Hid (Rz wc (wc.alloc (.cells #[.int .i64 100, .int .i64 0, .slice none 0 0, .slice none 0 0, .int .i64 (R2.s : Int)] 42)) (.int .i64 100) (.int .i64 0) (.slice none 0 0) (.slice none 0 0) (.int .i64 (R2.s : Int))) := ⟨At.new _ _ _, (Below.refl _ _).alloc (Nat.le_refl _) _, by rw [World.size_alloc]; omega⟩
    clear q0 ql
    generalize (wc.alloc (.cells #[.int .i64 100, .int .i64 0, .slice none 0 0, .slice none 0 0, .int .i64 (R2.s : Int)] 42)) = X at *
    refine wp_region_held_drew (S := fun V => Below wc.heap.size wc V) (by kernel_rfl) HX.out.up.drew (fun hHeld => ?_)
    refine wpAnyH_take (i := 0) (v := .pointer (some ⟨wc.heap.size, 2, none⟩)) rfl (by kernel_rfl) (by kernel_rfl) (by kernel_rfl) (fun _ _ _ h => h) (Or.inl ⟨by rfl, fun w' hSw => by (go_simp)⟩) hHeld ?_
    simp only [Act.put, List.setIfInBounds_toArray, List.set_cons_zero, List.set_cons_succ, List.getElem_cons_zero, List.getElem_toArray]
    refine wpAnyH_take (i := 2) (v := .pointer (some ⟨H.mb, 0, none⟩)) rfl (by kernel_rfl) (by kernel_rfl) (by kernel_rfl) (fun _ _ _ h => h) (Or.inl ⟨by rfl, fun w' hSw => by (go_simp)⟩) hHeld ?_
    simp only [Act.put, List.setIfInBounds_toArray, List.set_cons_zero, List.set_cons_succ, List.getElem_cons_zero, List.getElem_cons_succ, List.getElem_toArray]
    refine wpAnyH_take (i := 3) (v := .pointer (some ⟨H.mb, 0, none⟩)) rfl (by kernel_rfl) (by kernel_rfl) (by kernel_rfl) (fun _ _ _ h => h) (Or.inl ⟨by rfl, fun w' hSw => by (go_simp)⟩) hHeld ?_
    simp only [Act.put, List.setIfInBounds_toArray, List.set_cons_zero, List.set_cons_succ, List.getElem_cons_zero, List.getElem_cons_succ, List.getElem_toArray]
    refine wpAnyH_take (i := 4) (v := .pointer (some ⟨H.mb, 24, none⟩)) rfl (by kernel_rfl) (by kernel_rfl) (by kernel_rfl) (fun _ _ _ h => h) (Or.inl ⟨by rfl, fun w' hSw => by (go_simp)⟩) hHeld ?_
    simp only [Act.put, List.setIfInBounds_toArray, List.set_cons_zero, List.set_cons_succ, List.getElem_cons_zero, List.getElem_cons_succ, List.getElem_toArray]
    refine wpAnyH_take (i := 5) (v := H2.pv) rfl (by kernel_rfl) (by kernel_rfl) (by kernel_rfl) (fun _ _ _ h => h) (Or.inl ⟨by rfl, fun w' hSw => by (have y := (HM.out w' hSw).2.1; have yl := (HM.out w' hSw).1; go_simp)⟩) hHeld ?_
    simp only [Act.put, List.setIfInBounds_toArray, List.set_cons_zero, List.set_cons_succ, List.getElem_cons_zero, List.getElem_cons_succ, List.getElem_toArray]
    have z0 : X.drew.cell? ⟨wc.heap.size, 2, none⟩ = some (.slice none 0 0) := HX.out.b.c 2 _ rfl
    have zl : wc.heap.size < X.drew.heap.size := HX.out.b.lt
    refine wpAnyH_ready (rs := [1]) (by kernel_rfl) (by simp) ?_
    refine AllReadyH.cons rfl (fun K hK => ?_) AllReadyH.nil
    go_simp
    refine hK.out _ _ hHeld (fun hHeld => ?_)
    clear hK K z0 zl
    refine wpAnyH_ready (rs := [6]) (by kernel_rfl) (by simp) ?_
    refine AllReadyH.cons rfl (fun K hK => ?_) AllReadyH.nil
    refine step_copy_row _ (by rfl) _ _ (by rfl) (by rfl) (H2.pv) (R2.p) (by rfl) (HM.out _ hHeld).2.2.2.1 (by have := HL.out; have := mmR_len R2; omega) ?_
    intro a2 c2 w5 hown hb
    have HS : Hid (Rz wc w5 (.int .i64 100) (.int .i64 0) (.slice none 0 0) (.slice none 0 0) (.int .i64 (R2.s : Int)) ∧ w5.ownsRow (wc.heap.size + 1) 2 1 (.slice a2 R2.p.length c2) R2.p.length (nums R2.p)) := ⟨(HX.out.next (drew_up _)).next hb, row_le hown HX.out.z⟩
    clear hown hb
    refine hK.out _ _ HS.out.1.up (fun hHeld => ?_)
    clear hK K
    refine wpAnyH_take (i := 7) (v := .pointer (some ⟨wc.heap.size, 2, none⟩)) rfl (by kernel_rfl) (by kernel_rfl) (by kernel_rfl) (fun _ _ _ h => h) (Or.inl ⟨by rfl, fun w' hSw => by (go_simp)⟩) hHeld ?_
    simp only [Act.put, List.setIfInBounds_toArray, List.set_cons_zero, List.set_cons_succ, List.getElem_cons_zero, List.getElem_cons_succ, List.getElem_toArray]
    have z0 := HS.out.1.b.c 2 _ rfl
    have zl := HS.out.1.b.lt
    have zf := HS.out.1.b.f
    refine wpAnyH_ready (rs := [8]) (by kernel_rfl) (by simp) ?_
    refine AllReadyH.cons rfl (fun K hK => ?_) AllReadyH.nil
    go_simp
    have HT : Hid (Rz wc (w5.setCell ⟨wc.heap.size, 2, none⟩ (.slice a2 R2.p.length c2)) (.int .i64 100) (.int .i64 0) (.slice a2 R2.p.length c2) (.slice none 0 0) (.int .i64 (R2.s : Int)) ∧ (w5.setCell ⟨wc.heap.size, 2, none⟩ (.slice a2 R2.p.length c2)).ownsRow (wc.heap.size + 1) 2 1 (.slice a2 R2.p.length c2) R2.p.length (nums R2.p)) := by
      have hx := Rz.setx (k := 2) (y := .slice a2 R2.p.length c2) HS.out.1.b HS.out.1.up HS.out.1.z (by simp)
      exact ⟨⟨hx.1, hx.2.1, hx.2.2.1⟩, hx.2.2.2 _ _ _ _ (Nat.le_refl _) HS.out.2⟩
    refine hK.out _ _ HT.out.1.up (fun hHeld => ?_)
    clear hK K z0 zl zf
    refine wpAnyH_done (by kernel_rfl) ?_ _
    clear hHeld HS HX
    generalize (w5.setCell ⟨wc.heap.size, 2, none⟩ (.slice a2 R2.p.length c2)) = Y at *
    have q1 := (HM.out Y HT.out.1.up).2.2.2.2.2.1
    have q2 := (HM.out Y HT.out.1.up).2.2.2.2.2.2.1
    have q3 := (HM.out Y HT.out.1.up).2.2.2.2.2.2.2
    have ql := (HM.out Y HT.out.1.up).1
    have y0 := HT.out.1.b.c 0 _ rfl
    have y1 := HT.out.1.b.c 1 _ rfl
    have y2 := HT.out.1.b.c 2 _ rfl
    have y3 := HT.out.1.b.c 3 _ rfl
    have y4 := HT.out.1.b.c 4 _ rfl
    have yl := HT.out.1.b.lt
    have yf := HT.out.1.b.f
    cases hen : R2.en with
    | false =>
      rw [hen] at q1
      have e1 : ouE R2 = 100 := by unfold ouE; rw [hen]; rfl
      have e2 : ouV R2 = 0 := by unfold ouV; rw [hen]; rfl
      have e3 : ouM R2 = [] := by unfold ouM; rw [hen]; rfl
      rw [e1, e2, e3] at HF
      simp only [List.length_nil] at HF
      have hf := HF.out Y a2 c2 none 0 HT.out.1 HT.out.2 (World.ownsRow_nil _ _ _ _)
      have u0 := hf.1.c 0 _ rfl
      have u1 := hf.1.c 1 _ rfl
      have u2 := hf.1.c 2 _ rfl
      have u3 := hf.1.c 3 _ rfl
      have u4 := hf.1.c 4 _ rfl
      have ul := hf.1.lt
      have uf := hf.1.f
      have HFx : Hid _ := hf
      clear hf HF HT hen e1 e2 e3
      go_wp2_with fail
      have k0 := HFx.out.2.1.c 0 _ rfl
      have k1 := HFx.out.2.1.c 1 _ rfl
      have k2 := HFx.out.2.1.c 2 _ rfl
      have k3 := HFx.out.2.1.c 3 _ rfl
      have k4 := HFx.out.2.1.c 4 _ rfl
      exact bodyPost_ret (v := .agg #[.int .i64 100, .int .i64 0, .slice a2 R2.p.length c2, .slice none 0 0, .int .i64 (R2.s : Int)]) (by simp [results, Tryd.results12, go_sem, k0, k1, k2, k3, k4]) rfl HFx.out.2.2
    | true =>
      rw [hen] at q1
      have e1 : ouE R2 = R2.e := by unfold ouE; rw [hen]; rfl
      have e2 : ouV R2 = R2.v := by unfold ouV; rw [hen]; rfl
      have HT2 : Hid (Rz wc ((Y.setCell ⟨wc.heap.size, 0, none⟩ (.int .i64 R2.e)).setCell ⟨wc.heap.size, 1, none⟩ (.int .i64 R2.v)) (.int .i64 R2.e) (.int .i64 R2.v) (.slice a2 R2.p.length c2) (.slice none 0 0) (.int .i64 (R2.s : Int)) ∧ ((Y.setCell ⟨wc.heap.size, 0, none⟩ (.int .i64 R2.e)).setCell ⟨wc.heap.size, 1, none⟩ (.int .i64 R2.v)).ownsRow (wc.heap.size + 1) 2 1 (.slice a2 R2.p.length c2) R2.p.length (nums R2.p)) := by
        have hx := Rz.setx (k := 0) (y := .int .i64 R2.e) HT.out.1.b HT.out.1.up HT.out.1.z (by simp)
        have hy := Rz.setx (k := 1) (y := .int .i64 R2.v) hx.1 hx.2.1 hx.2.2.1 (by simp)
        exact ⟨⟨hy.1, hy.2.1, hy.2.2.1⟩, hy.2.2.2 _ _ _ _ (Nat.le_refl _) (hx.2.2.2 _ _ _ _ (Nat.le_refl _) HT.out.2)⟩
      by_cases h0 : R2.e = 0
      · have hb0 : (R2.e == 0) = true := by simpa using h0
        have e3 : ouM R2 = mmR R2 := by unfold ouM; rw [if_pos ⟨hen, h0⟩]
        rw [e1, e2, e3, mmR_len R2] at HF
        clear e1 e2 e3 hen h0 HT
        go_upto_region 13 with fail
        clear y0 y1 y2 y3 y4 yl yf q1 q2 q3 ql
        generalize ((Y.setCell ⟨wc.heap.size, 0, none⟩ (.int .i64 R2.e)).setCell ⟨wc.heap.size, 1, none⟩ (.int .i64 R2.v)) = Z at *
        have HZ : Hid (Rz wc Z (.int .i64 R2.e) (.int .i64 R2.v) (.slice a2 R2.p.length c2) (.slice none 0 0) (.int .i64 (R2.s : Int))) := HT2.out.1
        refine wp_region_held_drew (S := fun V => Below wc.heap.size wc V) (by kernel_rfl) HZ.out.up.drew (fun hHeld => ?_)
        refine wpAnyH_take (i := 0) (v := .pointer (some ⟨wc.heap.size, 3, none⟩)) rfl (by kernel_rfl) (by kernel_rfl) (by kernel_rfl) (fun _ _ _ h => h) (Or.inl ⟨by rfl, fun w' hSw => by (go_simp)⟩) hHeld ?_
        simp only [Act.put, List.setIfInBounds_toArray, List.set_cons_zero, List.set_cons_succ, List.getElem_cons_zero, List.getElem_toArray]
        refine wpAnyH_take (i := 2) (v := .pointer (some ⟨H.mb, 0, none⟩)) rfl (by kernel_rfl) (by kernel_rfl) (by kernel_rfl) (fun _ _ _ h => h) (Or.inl ⟨by rfl, fun w' hSw => by (go_simp)⟩) hHeld ?_
        simp only [Act.put, List.setIfInBounds_toArray, List.set_cons_zero, List.set_cons_succ, List.getElem_cons_zero, List.getElem_cons_succ, List.getElem_toArray]
        refine wpAnyH_take (i := 3) (v := .pointer (some ⟨H.mb, 0, none⟩)) rfl (by kernel_rfl) (by kernel_rfl) (by kernel_rfl) (fun _ _ _ h => h) (Or.inl ⟨by rfl, fun w' hSw => by (go_simp)⟩) hHeld ?_
        simp only [Act.put, List.setIfInBounds_toArray, List.set_cons_zero, List.set_cons_succ, List.getElem_cons_zero, List.getElem_cons_succ, List.getElem_toArray]
        refine wpAnyH_take (i := 4) (v := .pointer (some ⟨H.mb, 15, none⟩)) rfl (by kernel_rfl) (by kernel_rfl) (by kernel_rfl) (fun _ _ _ h => h) (Or.inl ⟨by rfl, fun w' hSw => by (go_simp)⟩) hHeld ?_
        simp only [Act.put, List.setIfInBounds_toArray, List.set_cons_zero, List.set_cons_succ, List.getElem_cons_zero, List.getElem_cons_succ, List.getElem_toArray]
        refine wpAnyH_take (i := 5) (v := .slice (some ⟨H2.ub, 0, none⟩) 256 256) rfl (by kernel_rfl) (by kernel_rfl) (by kernel_rfl) (fun _ _ _ h => h) (Or.inl ⟨by rfl, fun w' hSw => by (have y := (HM.out w' hSw).2.2.1; have yl := (HM.out w' hSw).1; go_simp)⟩) hHeld ?_
        simp only [Act.put, List.setIfInBounds_toArray, List.set_cons_zero, List.set_cons_succ, List.getElem_cons_zero, List.getElem_cons_succ, List.getElem_toArray]
        have z0 : Z.drew.cell? ⟨wc.heap.size, 3, none⟩ = some (.slice none 0 0) := HZ.out.b.c 3 _ rfl
        have zl : wc.heap.size < Z.drew.heap.size := HZ.out.b.lt
        refine wpAnyH_ready (rs := [1]) (by kernel_rfl) (by simp) ?_
        refine AllReadyH.cons rfl (fun K hK => ?_) AllReadyH.nil
        go_simp
        refine hK.out _ _ hHeld (fun hHeld => ?_)
        clear hK K z0 zl
        refine wpAnyH_ready (rs := [6]) (by kernel_rfl) (by simp) ?_
        refine AllReadyH.cons rfl (fun K hK => ?_) AllReadyH.nil
        refine step_copy_row _ (by rfl) _ _ (by rfl) (by rfl) (.slice (some ⟨H2.ub, 0, none⟩) 256 256) (mmR R2) (by rfl) (HM.out _ hHeld).2.2.2.2.1 (by have := HL.out; have := mmR_len R2; omega) ?_
        intro a3 c3 w6 hown hb
        rw [mmR_len R2] at hown ⊢
        have HS : Hid (Rz wc w6 (.int .i64 R2.e) (.int .i64 R2.v) (.slice a2 R2.p.length c2) (.slice none 0 0) (.int .i64 (R2.s : Int)) ∧ w6.ownsRow (wc.heap.size + 1) 2 1 (.slice a2 R2.p.length c2) R2.p.length (nums R2.p) ∧ w6.ownsRow (wc.heap.size + 1) 2 1 (.slice a3 256 c3) 256 (nums (mmR R2))) := ⟨(HZ.out.next (drew_up _)).next hb, row_up (row_up HT2.out.2 (drew_up _)) hb, row_le hown HZ.out.z⟩
        clear hown hb
        refine hK.out _ _ HS.out.1.up (fun hHeld => ?_)
        clear hK K
        refine wpAnyH_take (i := 7) (v := .pointer (some ⟨wc.heap.size, 3, none⟩)) rfl (by kernel_rfl) (by kernel_rfl) (by kernel_rfl) (fun _ _ _ h => h) (Or.inl ⟨by rfl, fun w' hSw => by (go_simp)⟩) hHeld ?_
        simp only [Act.put, List.setIfInBounds_toArray, List.set_cons_zero, List.set_cons_succ, List.getElem_cons_zero, List.getElem_cons_succ, List.getElem_toArray]
        have z0 := HS.out.1.b.c 3 _ rfl
        have zl := HS.out.1.b.lt
        have zf := HS.out.1.b.f
        refine wpAnyH_ready (rs := [8]) (by kernel_rfl) (by simp) ?_
        refine AllReadyH.cons rfl (fun K hK => ?_) AllReadyH.nil
        go_simp
        have HT : Hid (Rz wc (w6.setCell ⟨wc.heap.size, 3, none⟩ (.slice a3 256 c3)) (.int .i64 R2.e) (.int .i64 R2.v) (.slice a2 R2.p.length c2) (.slice a3 256 c3) (.int .i64 (R2.s : Int)) ∧ (w6.setCell ⟨wc.heap.size, 3, none⟩ (.slice a3 256 c3)).ownsRow (wc.heap.size + 1) 2 1 (.slice a2 R2.p.length c2) R2.p.length (nums R2.p) ∧ (w6.setCell ⟨wc.heap.size, 3, none⟩ (.slice a3 256 c3)).ownsRow (wc.heap.size + 1) 2 1 (.slice a3 256 c3) 256 (nums (mmR R2))) := by
          have hx := Rz.setx (k := 3) (y := .slice a3 256 c3) HS.out.1.b HS.out.1.up HS.out.1.z (by simp)
          exact ⟨⟨hx.1, hx.2.1, hx.2.2.1⟩, hx.2.2.2 _ _ _ _ (Nat.le_refl _) HS.out.2.1, hx.2.2.2 _ _ _ _ (Nat.le_refl _) HS.out.2.2⟩
        refine hK.out _ _ HT.out.1.up (fun hHeld => ?_)
        clear hK K z0 zl zf
        refine wpAnyH_done (by kernel_rfl) ?_ _
        clear hHeld HS HZ HT2
        generalize (w6.setCell ⟨wc.heap.size, 3, none⟩ (.slice a3 256 c3)) = V at *
        have y0 := HT.out.1.b.c 0 _ rfl
        have y1 := HT.out.1.b.c 1 _ rfl
        have y2 := HT.out.1.b.c 2 _ rfl
        have y3 := HT.out.1.b.c 3 _ rfl
        have y4 := HT.out.1.b.c 4 _ rfl
        have yl := HT.out.1.b.lt
        have hf := HF.out V a2 c2 a3 c3 HT.out.1 HT.out.2.1 HT.out.2.2
        have u0 := hf.1.c 0 _ rfl
        have u1 := hf.1.c 1 _ rfl
        have u2 := hf.1.c 2 _ rfl
        have u3 := hf.1.c 3 _ rfl
        have u4 := hf.1.c 4 _ rfl
        have ul := hf.1.lt
        have uf := hf.1.f
        have HFx : Hid _ := hf
        clear hf HF HT
        go_wp2_with fail
        have k0 := HFx.out.2.1.c 0 _ rfl
        have k1 := HFx.out.2.1.c 1 _ rfl
        have k2 := HFx.out.2.1.c 2 _ rfl
        have k3 := HFx.out.2.1.c 3 _ rfl
        have k4 := HFx.out.2.1.c 4 _ rfl
        exact bodyPost_ret (v := .agg #[.int .i64 R2.e, .int .i64 R2.v, .slice a2 R2.p.length c2, .slice a3 256 c3, .int .i64 (R2.s : Int)]) (by simp [results, Tryd.results12, go_sem, k0, k1, k2, k3, k4]) rfl HFx.out.2.2
      · have hb0 : (R2.e == 0) = false := by simpa using h0
        have e3 : ouM R2 = [] := by unfold ouM; rw [if_neg fun e => h0 e.2]
        rw [e1, e2, e3] at HF
        simp only [List.length_nil] at HF
        clear e1 e2 e3 hen h0 HT
        go_upto_region 14 with fail
        clear y0 y1 y2 y3 y4 yl yf q1 q2 q3 ql
        generalize ((Y.setCell ⟨wc.heap.size, 0, none⟩ (.int .i64 R2.e)).setCell ⟨wc.heap.size, 1, none⟩ (.int .i64 R2.v)) = V at *
        have y0 := HT2.out.1.b.c 0 _ rfl
        have y1 := HT2.out.1.b.c 1 _ rfl
        have y2 := HT2.out.1.b.c 2 _ rfl
        have y3 := HT2.out.1.b.c 3 _ rfl
        have y4 := HT2.out.1.b.c 4 _ rfl
        have yl := HT2.out.1.b.lt
        have hf := HF.out V a2 c2 none 0 HT2.out.1 HT2.out.2 (World.ownsRow_nil _ _ _ _)
        have u0 := hf.1.c 0 _ rfl
        have u1 := hf.1.c 1 _ rfl
        have u2 := hf.1.c 2 _ rfl
        have u3 := hf.1.c 3 _ rfl
        have u4 := hf.1.c 4 _ rfl
        have ul := hf.1.lt
        have uf := hf.1.f
        have HFx : Hid _ := hf
        clear hf HF HT2
        go_wp2_with fail
        have k0 := HFx.out.2.1.c 0 _ rfl
        have k1 := HFx.out.2.1.c 1 _ rfl
        have k2 := HFx.out.2.1.c 2 _ rfl
        have k3 := HFx.out.2.1.c 3 _ rfl
        have k4 := HFx.out.2.1.c 4 _ rfl
        exact bodyPost_ret (v := .agg #[.int .i64 R2.e, .int .i64 R2.v, .slice a2 R2.p.length c2, .slice none 0 0, .int .i64 (R2.s : Int)]) (by simp [results, Tryd.results12, go_sem, k0, k1, k2, k3, k4]) rfl HFx.out.2.2
end
end Go.Proofs.YtldfjlepbbmhnaaDoor.Pp
