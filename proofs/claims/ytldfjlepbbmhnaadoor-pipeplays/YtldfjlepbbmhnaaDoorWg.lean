/- The bundle that words are read as (read), and how many there are (countOf), read off the program by the walk. Conditions: the words lie in memory. -/
import Derived.Test.YtldfjlepbbmhnaaDoorWf
namespace Go.Proofs.YtldfjlepbbmhnaaDoor.Bu
open Go.ChangeShapes Go.WideShapes Go.ChangeAt Go.RowKit
open _root_.Go.Proofs.YtldfjlepbbmhnaaDoor.Op
open _root_.Go.Proofs.YtldfjlepbbmhnaaDoor.Tb (Tab TabAt Bnds four tabAt_new ckR)
open _root_.Go.Proofs.YtldfjlepbbmhnaaDoor.So
set_option maxRecDepth 20000

theorem opsAt_fr {X : Nat → Prop} {W W' : World} {a : Option Addr} {xs : List O} (h : OpsAt W a xs) (g : Fr X W W') (hx : ∀ A, a = some A → ¬ X A.block) : OpsAt W' a xs := by
  refine ⟨h.ok, h.len, fun h0 => ?_⟩
  obtain ⟨b, f, e, z, hc⟩ := h.is h0
  have hb := hx _ e
  refine ⟨b, f, e, Nat.lt_of_lt_of_le z g.size, fun i hi => ?_⟩
  obtain ⟨c0, c1, c2, c3, c4⟩ := hc i hi
  exact ⟨(g.cell z hb _).trans c0, (g.cell z hb _).trans c1, (g.cell z hb _).trans c2, (g.cell z hb _).trans c3, (g.cell z hb _).trans c4⟩
def pv (x : Bn) (p : Pb) (k j : Nat) : Value := if j < k then .slice (p.a j) (x.l j).length (p.c j) else .slice none 0 0
/-- A bundle under way. -/
structure Rb (w W : World) (t : Tab) (x : Bn) (p : Pb) (k : Nat) : Prop where
  t : TabAt W w.heap.size t
  r : At W (w.heap.size + 1) #[.slice none 0 0, .slice none 0 0, .slice none 0 0, .slice none 0 0]
  c : ∀ j, j < 4 → W.cell? ⟨w.heap.size + 2, j, none⟩ = some (pv x p k j)
  f : ∀ j, W.frozen? ⟨w.heap.size + 2, j, none⟩ = false
  lt : w.heap.size + 2 < W.heap.size
  o : ∀ j, j < k → OpsAt W (p.a j) (x.l j) ∧ ∀ A, p.a j = some A → w.heap.size + 2 < A.block
  up : Below w.heap.size w W
theorem Rb.next {w W W' : World} {t : Tab} {x : Bn} {p : Pb} {k : Nat} (h : Rb w W t x p k) (g : Below W.heap.size W W') : Rb w W' t x p k :=
  ⟨h.t.below g h.t.lt, h.r.below g h.r.lt, fun j hj => by rw [(bcell g).1 _ _ h.lt]; exact h.c j hj, fun j => by rw [(bcell g).2 _ _ h.lt]; exact h.f j, Nat.lt_of_lt_of_le h.lt g.size, fun j hj => ⟨(h.o j hj).1.below g, (h.o j hj).2⟩, h.up.trans (g.mono h.up.size)⟩
theorem Rb.start (w : World) (t : Tab) (x : Bn) (p : Pb) (t1 t2 t3 : TypeId) : Rb w (((w.alloc (.cells t.cells t1)).alloc (.cells #[.slice none 0 0, .slice none 0 0, .slice none 0 0, .slice none 0 0] t2)).alloc (.cells #[.slice none 0 0, .slice none 0 0, .slice none 0 0, .slice none 0 0] t3)) t x p 0 := by
  have e1 : (w.alloc (.cells t.cells t1)).heap.size = w.heap.size + 1 := by simp
  have e2 : ((w.alloc (.cells t.cells t1)).alloc (.cells #[.slice none 0 0, .slice none 0 0, .slice none 0 0, .slice none 0 0] t2)).heap.size = w.heap.size + 2 := by simp
  have h1 := tabAt_new w t t1
  have h2 := At.new (w.alloc (.cells t.cells t1)) #[.slice none 0 0, .slice none 0 0, .slice none 0 0, .slice none 0 0] t2
  have h3 := At.new ((w.alloc (.cells t.cells t1)).alloc (.cells #[.slice none 0 0, .slice none 0 0, .slice none 0 0, .slice none 0 0] t2)) #[.slice none 0 0, .slice none 0 0, .slice none 0 0, .slice none 0 0] t3
  rw [e1] at h2
  rw [e2] at h3
  have g1 := (Below.refl _ (w.alloc (.cells t.cells t1))).alloc (Nat.le_refl _) (.cells #[.slice none 0 0, .slice none 0 0, .slice none 0 0, .slice none 0 0] t2)
  have g2 := (Below.refl _ ((w.alloc (.cells t.cells t1)).alloc (.cells #[.slice none 0 0, .slice none 0 0, .slice none 0 0, .slice none 0 0] t2))).alloc (Nat.le_refl _) (.cells #[.slice none 0 0, .slice none 0 0, .slice none 0 0, .slice none 0 0] t3)
  have h1' := h1.below g1 h1.lt
  exact ⟨h1'.below g2 h1'.lt, h2.below g2 h2.lt, four (h3.c 0 _ rfl) (h3.c 1 _ rfl) (h3.c 2 _ rfl) (h3.c 3 _ rfl), h3.f, h3.lt, fun j hj => absurd hj (by omega), by go_grown⟩
def Pb.put (p : Pb) (k : Nat) (a : Option Addr) (c : Nat) : Pb := ⟨fun j => if j = k then a else p.a j, fun j => if j = k then c else p.c j⟩
theorem Rb.set {w W : World} {t : Tab} {x : Bn} {p : Pb} {k : Nat} {a : Option Addr} {c : Nat} (h : Rb w W t x p k) (hk : k < 4) (ho : OpsAt W a (x.l k)) (ha : ∀ A, a = some A → w.heap.size + 2 < A.block) : Rb w (W.setCell ⟨w.heap.size + 2, k, none⟩ (.slice a (x.l k).length c)) t x (p.put k a c) (k + 1) := by
  have g : Fr (One (w.heap.size + 2)) W (W.setCell ⟨w.heap.size + 2, k, none⟩ (.slice a (x.l k).length c)) := (Fr.refl (One (w.heap.size + 2)) W).setCell (.inr rfl) _ _
  refine ⟨tab_fr h.t g (by show ¬ _ = _; omega), At.frb h.r g (by show ¬ _ = _; omega), fun j hj => ?_, fun j => by rw [World.frozen?_setCell]; exact h.f j, by simpa using h.lt, fun j hj => ?_, h.up.setCell (by show w.heap.size ≤ w.heap.size + 2; omega) _⟩
  · by_cases e : j = k
    · subst e
      rw [World.cell?_setCell_same _ _ _ (h.c j hj)]
      simp [pv, Pb.put]
    · rw [World.cell?_setCell_other]
      · rw [h.c j hj]
        unfold pv Pb.put
        simp only [if_neg e]
        by_cases hj2 : j < k
        · rw [if_pos hj2, if_pos (by omega)]
        · rw [if_neg hj2, if_neg (by omega)]
      · intro h'; injection h' with _ h2; exact e h2.symm
  · by_cases e : j = k
    · subst e
      simp only [Pb.put, if_true]
      exact ⟨opsAt_fr ho g fun A hA e => by have := ha A hA; have e : A.block = w.heap.size + 2 := e; omega, ha⟩
    · simp only [Pb.put, if_neg e]
      obtain ⟨h1, h2⟩ := h.o j (by omega)
      exact ⟨opsAt_fr h1 g fun A hA e => by have := h2 A hA; have e : A.block = w.heap.size + 2 := e; omega, h2⟩

abbrev bz : Value := .agg #[.slice none 0 0, .slice none 0 0, .slice none 0 0, .slice none 0 0]
/-- What read answers. -/
def ReOut (w : World) (t : Tab) (v : Nat → Int) (e : Ending) (w' : World) : Prop :=
  if bdK t v 4 then ∃ p, e = .returned (.tuple #[bval (bdX t v) p, .bool true]) ∧ BnIn w' (bdX t v) p ∧ (∀ j, j < 4 → ∀ A, (p.a j) = some A → w.heap.size ≤ A.block) ∧ Below w.heap.size w w'
  else e = .returned (.tuple #[bz, .bool false]) ∧ Below w.heap.size w w'
theorem ReOut.no {w w' : World} {t : Tab} {v : Nat → Int} (h : bdK t v 4 = false) (hb : Below w.heap.size w w') : ReOut w t v (.returned (.tuple #[bz, .bool false])) w' := by
  unfold ReOut; rw [h]; exact ⟨rfl, hb⟩
theorem ReOut.yes {w w' : World} {t : Tab} {v : Nat → Int} {p : Pb} (h : bdK t v 4 = true) (h1 : BnIn w' (bdX t v) p) (h2 : ∀ j, j < 4 → ∀ A, (p.a j) = some A → w.heap.size ≤ A.block) (hb : Below w.heap.size w w') : ReOut w t v (.returned (.tuple #[bval (bdX t v) p, .bool true])) w' := by
  unfold ReOut; rw [h]; exact ⟨p, rfl, h1, h2, hb⟩
theorem rd_use {W W' : World} {v : Nat → Int} {m : Nat} {a' : Option Addr} {c' : Nat} (ho : W'.ownsRow W.heap.size 55 5 (.slice a' m c') m (ocells (rdL v m))) (hm : m ≤ 8) : OpsAt W' a' (rdL v m) ∧ ∀ A, a' = some A → W.heap.size ≤ A.block := by
  have h : W'.ownsRow W.heap.size 55 5 (.slice a' (rdL v m).length c') (rdL v m).length (ocells (rdL v m)) := by rw [rdL_len]; exact ho
  refine ⟨opsAt_row h (rdL_ok v m) (by rw [rdL_len]; omega), fun A e => ?_⟩
  subst e
  exact (ho.lt A.block rfl).1

set_option maxHeartbeats 4000000 in
theorem read_any (a : Option Addr) (n c : Nat) (v : Nat → Int) (t : Tab) (w : World) (h : Ws w a n v) (hc : n ≤ c) (ht : t.ok = true) (ho : ofs t 4 ≤ n) :
    Calls Tryd.prog 46 #[.slice a n c, t.val] w (ReOut w t v) := by
  have HU : Hid (∀ k, k < 4 → t.u k = (U t k : Int) ∧ U t k ≤ 8) := fun k hk => ⟨u_nat ht hk, u_le ht hk⟩
  have HI : Hid (∀ k : Nat, k < 4 → ∀ w, (Instr.index 23 (.agg #[.int .i64 (t.u 0), .int .i64 (t.u 1), .int .i64 (t.u 2), .int .i64 (t.u 3)]) (.int .i64 k)).run Tryd.prog w = .ok (.int .i64 (t.u k)) w) := fun k hk w => idx24 (fun j => .int .i64 (t.u j)) k hk w fun j _ => ⟨_, rfl⟩
  have HW : Hid (Ws w a n v) := h
  have HO : Hid (∀ k, k < 4 → ofs t k + U t k ≤ n) := fun k hk => Nat.le_trans (ofs_mono hk) ho
  have HS : Hid (Rb w (((w.alloc (.cells t.cells 25)).alloc (.cells #[.slice none 0 0, .slice none 0 0, .slice none 0 0, .slice none 0 0] 63)).alloc (.cells #[.slice none 0 0, .slice none 0 0, .slice none 0 0, .slice none 0 0] 63)) t (bdX t v) ⟨fun _ => none, fun _ => 0⟩ 0) := Rb.start w t _ _ _ _ _
  clear h ht
  unfold Tab.val at *
  go_enter Tryd.func46, Tryd.ntmps46
  go_upto_region 3 with fail
  generalize (((w.alloc (.cells t.cells 25)).alloc (.cells #[.slice none 0 0, .slice none 0 0, .slice none 0 0, .slice none 0 0] 63)).alloc (.cells #[.slice none 0 0, .slice none 0 0, .slice none 0 0, .slice none 0 0] 63)) = W0 at *
  go_loopw [0, 13] (fun s i wr => ∃ (k n' c' : Nat) (a' : Option Addr) (p : Pb), k ≤ 4 ∧ i = .int .i64 k ∧ s = .slice a' n' c' ∧ n' + ofs t k = n ∧ n' ≤ c' ∧ Ws w a' n' (cv t v k) ∧ bdK t v k = true ∧ Rb w wr t (bdX t v) p k) (fun _ i _ => 4 - (intOf i).toNat)
  case atStart => exact ⟨0, n, c, a, _, by omega, rfl, rfl, rfl, hc, HW.out.same fun j _ => by unfold cv; rw [show ofs t 0 + j = j from Nat.zero_add j], rfl, HS.out⟩
  case round =>
    rename World => wr
    obtain ⟨k, n', c', a', p, hk, rfl, rfl, g1, g2, g3, g4, g5⟩ := hrel
    have HQ : Hid (Ws w a' n' (cv t v k) ∧ bdK t v k = true ∧ Rb w wr t (bdX t v) p k) := ⟨g3, g4, g5⟩
    clear g3 g4 g5 HS
    by_cases hlt : k < 4
    · have hi := HI.out k hlt
      obtain ⟨hu, hu8⟩ := HU.out k hlt
      rw [hu] at hi
      have k0 : (0 : Int) ≤ (k : Int) := by omega
      have k4 : (k : Int) < 4 := by omega
      have hun : U t k ≤ n' := by have := HO.out k hlt; omega
      have HRd : Hid (∀ W, Below w.heap.size w W → Calls Tryd.prog 61 #[.slice a' (U t k) c', .int .i64 k] W (RdOut W k (cv t v k) (stN (cv t v k) (U t k)))) := fun W hb => readList_any a' (U t k) c' (cv t v k) k W ((HQ.out.1.take hun).below hb) (by omega) hu8
      have HNo : Hid (rdB k (cv t v k) (stN (cv t v k) (U t k)) = false → bdK t v 4 = false) := fun e => bdK_no hlt e
      have HYe : Hid (rdB k (cv t v k) (stN (cv t v k) (U t k)) = true → bdK t v (k + 1) = true) := fun e => by show (bdK t v k && _) = true; rw [HQ.out.2.1, e]; rfl
      have HL : Hid ((bdX t v).l k = rdL (cv t v k) (stN (cv t v k) (U t k)) ∧ ((bdX t v).l k).length = stN (cv t v k) (U t k) ∧ stN (cv t v k) (U t k) ≤ 8) := ⟨rfl, rdL_len _ _, Nat.le_trans (stN_le _ _) hu8⟩
      have HCut : Hid (Ws w (if c' = U t k then a' else Option.map (fun x => x.add (U t k)) a') (n' - U t k) (cv t v (k + 1)) ∧ ofs t (k + 1) = ofs t k + U t k) := ⟨(HQ.out.1.cut g2).same fun j _ => by unfold cv; rw [show ofs t (k + 1) = ofs t k + U t k from rfl, Nat.add_assoc], rfl⟩
      clear hu
      generalize hst : stN (cv t v k) (U t k) = m at *
      clear hst
      generalize U t k = u at *
      have u0 : (0 : Int) ≤ (u : Int) := by omega
      have u1 : (u : Int) ≤ (n' : Int) := by omega
      have u2 : (u : Int) ≤ (c' : Int) := by omega
      cases hR : rdB k (cv t v k) m
      · have hN := HNo.out hR
        have HRd2 : Hid (∀ W, Below w.heap.size w W → Calls Tryd.prog 61 #[.slice a' u c', .int .i64 k] W fun e w' => e = .returned (.tuple #[.slice none 0 0, .bool false]) ∧ Below W.heap.size W w') := fun W hb => by
          have := HRd.out W hb
          unfold RdOut at this
          rw [hR] at this
          exact this
        clear hR HRd HNo HYe HCut HL
        go_wp2_with (first
          | (go_at_call 61; refine Calls.mono (HRd2.out _ HQ.out.2.2.up) ?_; rintro e w2 ⟨rfl, hb2⟩; have HR2 : Hid (Rb w w2 t (bdX t v) p k) := HQ.out.2.2.next hb2; clear hb2; have ra := HR2.out.r; have r0 := ra.c 0 _ rfl; have r1 := ra.c 1 _ rfl; have r2 := ra.c 2 _ rfl; have r3 := ra.c 3 _ rfl; have rf0 := ra.f 0; have rf1 := ra.f 1; have rf2 := ra.f 2; have rf3 := ra.f 3; have rl := ra.lt; clear ra))
        refine bodyPost_ret (v := .tuple #[bz, .bool false]) (by simp [results, Tryd.results46, go_sem, r0, r1, r2, r3]) rfl (ReOut.no hN (HR2.out.up.trans ?_))
        go_grown
      · have HRd2 : Hid (∀ W, Below w.heap.size w W → Calls Tryd.prog 61 #[.slice a' u c', .int .i64 k] W fun e w' => ∃ aa cc, e = .returned (.tuple #[.slice aa m cc, .bool true]) ∧ w'.ownsRow W.heap.size 55 5 (.slice aa m cc) m (ocells (rdL (cv t v k) m)) ∧ Below W.heap.size W w') := fun W hb => by
          have := HRd.out W hb
          unfold RdOut at this
          rw [hR] at this
          exact this
        have HY2 : Hid _ := HYe.out hR
        clear hR HRd HNo HYe
        go_wp2_with (first
          | (go_at_call 61; refine Calls.mono (HRd2.out _ HQ.out.2.2.up) ?_; rintro e w2 ⟨aa, cc, rfl, hown, hb2⟩; have HR2 : Hid (Rb w w2 t (bdX t v) p k ∧ OpsAt w2 aa ((bdX t v).l k) ∧ ∀ A, aa = some A → w.heap.size + 2 < A.block) := ⟨HQ.out.2.2.next hb2, (by rw [HL.out.1]; exact (rd_use hown HL.out.2.2).1), fun A hA => Nat.lt_of_lt_of_le HQ.out.2.2.lt ((rd_use hown HL.out.2.2).2 A hA)⟩; clear hb2 hown; have rc := HR2.out.1.c k hlt; have rf := HR2.out.1.f k; have rl := HR2.out.1.lt))
        go_roundw
        case rel =>
          have hs := HR2.out.1.set (c := cc) hlt HR2.out.2.1 HR2.out.2.2
          rw [HL.out.2.1] at hs
          exact ⟨k + 1, n' - u, c' - u, _, _, by omega, by go_num, rfl, by have := HCut.out.2; omega, by omega, HCut.out.1, HY2.out, hs⟩
        case measure => simp [intOf]; omega
    · obtain rfl : k = 4 := by omega
      have q := HQ.out.2.2
      have c0 : wr.cell? ⟨w.heap.size + 2, 0, none⟩ = some (.slice (p.a 0) ((bdX t v).l 0).length (p.c 0)) := q.c 0 (by decide)
      have c1 : wr.cell? ⟨w.heap.size + 2, 1, none⟩ = some (.slice (p.a 1) ((bdX t v).l 1).length (p.c 1)) := q.c 1 (by decide)
      have c2 : wr.cell? ⟨w.heap.size + 2, 2, none⟩ = some (.slice (p.a 2) ((bdX t v).l 2).length (p.c 2)) := q.c 2 (by decide)
      have c3 : wr.cell? ⟨w.heap.size + 2, 3, none⟩ = some (.slice (p.a 3) ((bdX t v).l 3).length (p.c 3)) := q.c 3 (by decide)
      have cl := q.lt
      have ra := q.r; have r0 := ra.c 0 _ rfl; have r1 := ra.c 1 _ rfl; have r2 := ra.c 2 _ rfl; have r3 := ra.c 3 _ rfl; have rf0 := ra.f 0; have rf1 := ra.f 1; have rf2 := ra.f 2; have rf3 := ra.f 3; have rl := ra.lt; clear ra q
      go_wp2
      refine bodyPost_ret (v := .tuple #[bval (bdX t v) p, .bool true]) (by simp [results, Tryd.results46, go_sem, r0, r1, r2, r3]) rfl (ReOut.yes HQ.out.2.1 ⟨fun j hj => opsAt_fr (HQ.out.2.2.o j hj).1 (((((Fr.refl (One (w.heap.size + 1)) wr).setCell (.inr rfl) _ _).setCell (.inr rfl) _ _).setCell (.inr rfl) _ _).setCell (.inr rfl) _ _) fun A hA e => ?_⟩ (fun j hj A hA => ?_) (HQ.out.2.2.up.trans ?_))
      · have := (HQ.out.2.2.o j hj).2 A hA
        have e : A.block = w.heap.size + 1 := e
        omega
      · have := (HQ.out.2.2.o j hj).2 A hA
        omega
      · go_grown

theorem countOf_zero (n : Nat) (w : World) : Calls Tryd.prog 45 #[.int .i64 (n : Int), .int .i64 0] w fun e w' => e = .returned (.tuple #[.int .i64 0, .bool (decide (n = 0))]) ∧ w' = w := by
  by_cases h : n = 0
  · subst h
    go_enter Tryd.func45, Tryd.ntmps45
    go_wp2
    go_ret2
    exact ⟨rfl, rfl⟩
  · have h' : ((n : Int) == 0) = false := by simpa using h
    rw [decide_eq_false h]
    clear h
    go_enter Tryd.func45, Tryd.ntmps45
    go_wp2
    go_ret2
    exact ⟨rfl, rfl⟩
theorem countOf_any (n d : Nat) (w : World) (hd : 0 < d) (hn : n ≤ 17592186044416) : Calls Tryd.prog 45 #[.int .i64 (n : Int), .int .i64 (d : Int)] w fun e w' => e = .returned (.tuple #[.int .i64 ((n / d : Nat) : Int), .bool (decide (n % d = 0))]) ∧ Below w.heap.size w w' := by
  have h1 : ((d : Int) == 0) = false := by simp; omega
  have h2 : (n : Int).tdiv (d : Int) = ((n / d : Nat) : Int) := by simp
  have h3 : (n : Int).tmod (d : Int) = ((n % d : Nat) : Int) := by rw [Int.tmod_eq_emod_of_nonneg (Int.natCast_nonneg n), Int.natCast_emod]
  have h4 : n / d ≤ 17592186044416 := Nat.le_trans (Nat.div_le_self _ _) hn
  have h5 : ¬ (d : Int) = 0 := by omega
  generalize n / d = q at *
  generalize n % d = r at *
  go_enter Tryd.func45, Tryd.ntmps45
  go_wp2
  go_quiet (fail)
  go_wp2
  go_ret2
  have e : ((r : Int) == 0) = decide (r = 0) := by rw [Bool.eq_iff_iff]; simp
  exact ⟨by rw [← e]; rfl, drewN_bu (Below.refl _ _) nq⟩
theorem countOf_all (n d : Nat) (w : World) (hn : n ≤ 17592186044416) : Calls Tryd.prog 45 #[.int .i64 (n : Int), .int .i64 (d : Int)] w fun e w' => e = .returned (.tuple #[.int .i64 ((n / d : Nat) : Int), .bool (decide (n % d = 0))]) ∧ Below w.heap.size w w' := by
  by_cases hd : d = 0
  · subst hd
    rw [Nat.div_zero, Nat.mod_zero]
    exact (countOf_zero n w).mono fun e w' h => ⟨h.1, by rw [h.2]; exact Below.refl _ _⟩
  · exact countOf_any n d w (by omega) hn
end Go.Proofs.YtldfjlepbbmhnaaDoor.Bu
