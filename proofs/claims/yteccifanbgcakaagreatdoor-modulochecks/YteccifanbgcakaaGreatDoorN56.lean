/- The document's Stages and its ring, read off the program by the walk. Conditions: the lists lie in memory. -/
import Derived.Test.YteccifanbgcakaaGreatDoorN35
import Derived.Test.YteccifanbgcakaaGreatDoorN39
import Derived.Test.YteccifanbgcakaaGreatDoorN07
import Derived.Test.YteccifanbgcakaaGreatDoorN32
namespace Go.Proofs.YteccifanbgcakaaGreatDoor.Mo
open Go.ChangeShapes Go.WideShapes Go.ChangeAt Go.RowKit
open _root_.Go.Proofs.YteccifanbgcakaaGreatDoor.Op _root_.Go.Proofs.YteccifanbgcakaaGreatDoor.So _root_.Go.Proofs.YteccifanbgcakaaGreatDoor.Dp _root_.Go.Proofs.YteccifanbgcakaaGreatDoor.Bn
open _root_.Go.Proofs.YteccifanbgcakaaGreatDoor.Ls (clN clN_at clN_lt Nl arC arC_all arC_yes arC_no areCycles_any)
open _root_.Go.Proofs.YteccifanbgcakaaGreatDoor.Rv (RAt Few frB tkF tk_few take_any evOk NwOut ring_ok tn addK)
open _root_.Go.Proofs.YteccifanbgcakaaGreatDoor.Tb (Tab TabAt Bnds)
set_option maxRecDepth 20000

open _root_.Go.Proofs.YteccifanbgcakaaGreatDoor.Ls (clV_D)
open _root_.Go.Proofs.YteccifanbgcakaaGreatDoor.Rv (tms tms_in tms_mono)
set_option maxHeartbeats 4000000 in
theorem refStages_any (a : Option Addr) (n cap : Nat) (g : Nat → Int) (E : Int) (w : World) (h : Nl w a n g) (hn : n ≤ 1000000000000) (hg : ∀ k, k < n → 0 ≤ g k ∧ g k ≤ 65536) (hE : 1 ≤ E) (hE2 : E ≤ 65536) :
    Calls Tryz.prog 29 #[.slice a n cap, .int .i64 E] w fun e w' => e = .returned (.int .i64 (stg n g E)) ∧ Below w.heap.size w w' := by
  have HX : Hid (Nl w a n g) := h
  have HG : Hid (∀ k, k < n → 0 ≤ g k ∧ g k ≤ 65536) := hg
  have hn' : (n : Int) ≤ 1000000000000 := by omega
  clear h hg
  go_enter Tryz.func29, Tryz.ntmps29
  go_wp2_with fail
  go_loop [5, 6] (fun m i => ∃ k : Nat, k ≤ n ∧ i = .int .i64 k ∧ m = .int .i64 (mxN g k)) (fun _ i => n - (intOf i).toNat)
  case atStart => exact ⟨0, by omega, rfl, rfl⟩
  case round =>
    obtain ⟨k, hk, rfl, rfl⟩ := hrel
    by_cases hlt : k < n
    · have k0 : (0 : Int) ≤ (k : Int) := by omega
      have k1 : (k : Int) < (n : Int) := by omega
      obtain ⟨b, f, rfl, hz, hx⟩ := HX.out.is (by omega)
      have q0 := hx k hlt
      have HR : Hid (mxN g (k + 1) = max (mxN g k) (g k)) := rfl
      obtain ⟨x, hx2⟩ : ∃ v, g k = v := ⟨_, rfl⟩
      rw [hx2] at q0 HR
      obtain ⟨m, hm⟩ : ∃ v, mxN g k = v := ⟨_, rfl⟩
      rw [hm] at HR ⊢
      clear hx hx2 hm
      go_wp2_with fail
      go_round
      case rel => exact ⟨k + 1, by omega, by go_num, by rw [HR.out]⟩
      case measure => simp [intOf]; omega
    · obtain rfl : k = n := by omega
      have k1 : ¬ (k : Int) < (k : Int) := by omega
      have m0 := mxN_ge g k
      have m1 : mxN g k ≤ 65536 := mxN_le (by omega) fun j hj => (HG.out j hj).2
      have hE0 : ¬ E = 0 := by omega
      have HS : Hid ((mxN g k + E).tdiv E = stg k g E) := by
        show (mxN g k + E).tdiv E = mxN g k / E + 1
        rw [Int.tdiv_eq_ediv_of_nonneg (by omega)]
        have := Int.add_mul_ediv_right (mxN g k) 1 hE0
        rwa [Int.one_mul] at this
      have d0 : 0 ≤ (mxN g k + E).tdiv E := by rw [Int.tdiv_eq_ediv_of_nonneg (by omega)]; exact Int.ediv_nonneg (by omega) (by omega)
      have d1 : (mxN g k + E).tdiv E ≤ 131072 := by
        rw [Int.tdiv_eq_ediv_of_nonneg (by omega)]
        exact Int.le_trans (Int.ediv_le_self _ (by omega)) (by omega)
      generalize mxN g k = m at *
      have hw : IntKind.i64.wrap (Int.tdiv (m + E) E) = Int.tdiv (m + E) E := by rw [IntKind.wrap_i64]; omega
      go_wp2_with fail
      go_ret
      exact ⟨ret_int HS.out, by go_grown⟩
/-- The class and the cycle of the i-th, the one that turns back behind them all. -/
def clI (xs : List O) (i : Nat) : Nat := if i < xs.length then clN xs i else 3
def atI (t : Tab) (xs : List O) (g : Nat → Int) (E : Int) (i : Nat) : Int := if i < xs.length then g i else E - 1 - t.d
def gF (t : Tab) (xs : List O) (g : Nat → Int) (E : Int) : Nat → Int → Int → Int
  | 0 => fun _ _ => 0
  | i + 1 => addK (some E) (gF t xs g E i) (clI xs i : Int) (atI t xs g E i % E) (t.b (clI xs i)).toNat
theorem gF_rc (t : Tab) (xs : List O) (g : Nat → Int) (E : Int) : ∀ i, i ≤ xs.length → gF t xs g E i = rcF t xs g E i
  | 0, _ => rfl
  | i + 1, h => by
    unfold gF rcF
    rw [gF_rc t xs g E i (by omega)]
    unfold clI atI
    rw [if_pos (by omega), if_pos (by omega)]
theorem gF_to (t : Tab) (xs : List O) (g : Nat → Int) (E : Int) : gF t xs g E (xs.length + 1) = toF t xs g E := by
  unfold gF toF
  rw [gF_rc t xs g E _ (Nat.le_refl _)]
  unfold clI atI
  rw [if_neg (by omega), if_neg (by omega)]
  rfl
/-- And with k of the cycles in which the i-th is busy. -/
def hF (t : Tab) (xs : List O) (g : Nat → Int) (E : Int) (i k : Nat) (c : Nat) (z : Int) : Int := gF t xs g E i c z + if clI xs i = c then tms (some E) (atI t xs g E i % E) z k else 0
theorem gF_other {t : Tab} {xs : List O} {g : Nat → Int} {E : Int} {i ci c : Nat} (hi : clI xs i = ci) (hc : ¬ ci = c) (k : Nat) (z : Int) : gF t xs g E (i + 1) c z = hF t xs g E i k c z := by
  unfold hF
  rw [if_neg (by rw [hi]; exact hc)]
  show addK _ _ _ _ _ _ _ = _
  rw [addK_at, if_neg (by rw [hi]; omega)]
theorem gF_next {t : Tab} {xs : List O} {g : Nat → Int} {E : Int} {i ci c : Nat} {ai : Int} (hi : clI xs i = ci) (_ : atI t xs g E i = ai) (hc : ci = c) (z : Int) : gF t xs g E (i + 1) c z = hF t xs g E i (t.b c).toNat c z := by
  unfold hF
  rw [if_pos (by rw [hi]; exact hc)]
  show addK _ _ _ _ _ _ _ = _
  rw [addK_at, if_pos (by rw [hi, hc]), hi, hc]
theorem hF_step {t : Tab} {xs : List O} {g : Nat → Int} {E : Int} {i ci c : Nat} {ai : Int} (_ : i ≤ xs.length) (hi : clI xs i = ci) (ha : atI t xs g E i = ai) (hc : ci = c) (k : Nat) (z : Int) : hF t xs g E i (k + 1) c z = hF t xs g E i k c z + if (ai + k) % E = z then 1 else 0 := by
  unfold hF
  rw [if_pos (by rw [hi]; exact hc), if_pos (by rw [hi]; exact hc), ha]
  show _ + (tms (some E) (ai % E) z k + if tn (some E) (ai % E + (k : Nat)) = z then 1 else 0) = _
  have : tn (some E) (ai % E + (k : Nat)) = (ai + k) % E := by show (ai % E + (k : Nat)) % E = _; rw [Int.emod_add_emod]
  rw [this]
  omega
theorem gF_up (t : Tab) (xs : List O) (g : Nat → Int) (E : Int) (i : Nat) (a b : Int) : gF t xs g E i a b ≤ gF t xs g E (i + 1) a b := by
  show _ ≤ addK _ _ _ _ _ a b
  rw [addK_at]
  have := (tms_in (some E) (atI t xs g E i % E) b (t.b (clI xs i)).toNat).1
  split <;> omega
theorem gF_mono (t : Tab) (xs : List O) (g : Nat → Int) (E : Int) (a b : Int) {i : Nat} : ∀ {m : Nat}, i ≤ m → gF t xs g E i a b ≤ gF t xs g E m a b
  | 0, h => by obtain rfl : i = 0 := by omega
               exact Int.le_refl _
  | m + 1, h => by
    rcases Nat.lt_or_ge m i with c | c
    · obtain rfl : i = m + 1 := by omega
      exact Int.le_refl _
    · exact Int.le_trans (gF_mono t xs g E a b c) (gF_up t xs g E m a b)
theorem hF_le {t : Tab} {xs : List O} {g : Nat → Int} {E : Int} {i : Nat} (hi : i ≤ xs.length) {k : Nat} (c' : Nat) (hk : k ≤ (t.b c').toNat) (z : Int) : hF t xs g E i k c' z ≤ toF t xs g E c' z := by
  have h1 : hF t xs g E i k c' z ≤ gF t xs g E (i + 1) c' z := by
    by_cases hc : clI xs i = c'
    · rw [gF_next rfl rfl hc]
      unfold hF
      rw [if_pos hc, if_pos hc]
      have := tms_mono (some E) (atI t xs g E i % E) z hk
      omega
    · rw [gF_other rfl hc k]
      omega
  have h2 := gF_mono t xs g E c' z (show i + 1 ≤ xs.length + 1 by omega)
  rw [gF_to] at h2
  omega
/-- Whether units of a class are enough on the ring. -/
def rqB (t : Tab) (xs : List O) (g : Nat → Int) (E : Int) (c : Nat) : Bool := (List.range E.toNat).all fun z => decide (toF t xs g E c (z : Int) ≤ t.u c)
theorem rq_no {t : Tab} {xs : List O} {g : Nat → Int} {E : Int} {c : Nat} (_ : 1 ≤ E) {z : Nat} (hz : (z : Int) < E) (h : t.u c < toF t xs g E c z) : false = rqB t xs g E c := by
  symm
  refine List.all_eq_false.2 ⟨z, List.mem_range.2 (by omega), ?_⟩
  simp
  omega
theorem rq_yes {t : Tab} {xs : List O} {g : Nat → Int} {E : Int} {c : Nat} (h : ∀ z : Int, toF t xs g E c z ≤ t.u c) : true = rqB t xs g E c := by
  symm
  exact List.all_eq_true.2 fun z _ => by simpa using h z
/-- Where the ring has come to. -/
structure Rgs (w W : World) (t : Tab) (E : Int) (a : Option Addr) (n ccap : Nat) (S : Int) (E' : Nat) (f : Nat → Int) : Prop where
  x : Cx w W t E a n ccap S
  u : Iv W (w.heap.size + 2) E' f
theorem Rgs.next {w W W' : World} {t : Tab} {E : Int} {a : Option Addr} {n ccap : Nat} {S : Int} {E' : Nat} {f : Nat → Int} (h : Rgs w W t E a n ccap S E' f) (g : Below W.heap.size W W') : Rgs w W' t E a n ccap S E' f := ⟨h.x.next g, h.u.up g⟩
theorem Rgs.same {w W : World} {t : Tab} {E : Int} {a : Option Addr} {n ccap : Nat} {S : Int} {E' : Nat} {f : Nat → Int} {f' : Nat → Int} (h : Rgs w W t E a n ccap S E' f) (e : ∀ z, z < E' → f z = f' z) : Rgs w W t E a n ccap S E' f' := ⟨h.x, h.u.same e⟩
theorem Rgs.set {w W : World} {t : Tab} {E : Int} {a : Option Addr} {n ccap : Nat} {S : Int} {E' : Nat} {f : Nat → Int} (h : Rgs w W t E a n ccap S E' f) {k : Nat} (hk : k < E') (v : Int) : Rgs w (W.setCell ⟨w.heap.size + 2, k, none⟩ (.int .i64 v)) t E a n ccap S E' (up1 f k v) := by
  have g : Fr (One (w.heap.size + 2)) W (W.setCell ⟨w.heap.size + 2, k, none⟩ (.int .i64 v)) := (Fr.refl (One (w.heap.size + 2)) W).setCell (.inr rfl) _ _
  have hz := h.u.lt
  have hb : Below (w.heap.size + 2) W (W.setCell ⟨w.heap.size + 2, k, none⟩ (.int .i64 v)) := g.below (by omega) fun j hj e => by have e : j = w.heap.size + 2 := e; omega
  exact ⟨⟨h.x.t.below hb (by omega), h.x.p.below hb (by omega), h.x.up.trans (hb.mono (by omega))⟩, h.u.set hk v⟩
set_option maxHeartbeats 16000000 in
theorem refring_any (a ao : Option Addr) (ccap cap : Nat) (xs : List O) (t : Tab) (g : Nat → Int) (E S : Int) (c : Nat) (w : World) (hg : Nl w a xs.length g) (hr : ∀ k, k < xs.length → 0 ≤ g k ∧ g k ≤ 65536) (h : OpsAt w ao xs) (hok : ∀ o ∈ xs, okL o = true) (hn : xs.length ≤ 1024) (ht : t.ok = true) (hE : 1 + t.d ≤ E) (hE2 : E ≤ 65536) (hc : c < 4) :
    Calls Tryz.prog 59 #[.slice ao xs.length cap, t.val, .agg #[.int .i64 E, .slice a xs.length ccap, .int .i64 S], .int .i64 (c : Int)] w fun e w' => e = .returned (.bool (rqB t xs g E c)) ∧ Below w.heap.size w w' := by
  have HCl : Hid (∀ (k : Nat) (hk : k < xs.length) Z, Calls Tryz.prog 66 #[.int .i8 xs[k].op] Z fun e w' => e = .returned (.tuple #[.int .i64 (clN xs k : Int), .bool true]) ∧ Below Z.heap.size Z w') := fun k hk Z => by
    have := refClass_any xs[k].op Z
    obtain ⟨c1, c2⟩ := clV_D (hok _ (List.getElem_mem hk))
    rw [c1, c2] at this
    rw [clN_at hk]
    exact this
  obtain ⟨d0, d4⟩ := (tab_in ht).1
  have HTi : Hid (∀ k, k < 4 → (0 ≤ t.u k ∧ t.u k ≤ 8) ∧ (1 ≤ t.l k ∧ t.l k ≤ 8) ∧ (1 ≤ t.b k ∧ t.b k ≤ 4)) := (tab_in ht).2
  have HO : Hid (OpsAt w ao xs ∧ Nl w a xs.length g ∧ ∀ k, k < xs.length → 0 ≤ g k ∧ g k ≤ 65536) := ⟨h, hg, hr⟩
  have hE0 : 1 ≤ E := by omega
  obtain ⟨E', hE'⟩ : ∃ E' : Nat, E = E' := ⟨E.toNat, by omega⟩
  have HE' : Hid (E = (E' : Int)) := hE'
  have hEa : (E' : Int) ≤ E := by omega
  have hEb : E ≤ (E' : Int) := by omega
  clear hE'
  obtain ⟨i0, hi, hi2⟩ := Option.map_eq_some_iff.1 Bn.info3
  simp only [Prod.mk.injEq] at hi2
  obtain ⟨hz0, hz1, hz2⟩ := hi2
  have HI : Hid (Tryz.prog.info? 3 = some i0 ∧ i0.zero = some (.int .i64 0) ∧ i0.size = 1 ∧ i0.bytes = 8) := ⟨hi, hz0, hz1, hz2⟩
  have HYs : Hid ((∀ z : Int, gF t xs g E (xs.length + 1) c z ≤ t.u c) → true = rqB t xs g E c) := fun q => rq_yes fun z => by have := q z; rw [gF_to] at this; exact this
  have HCI : Hid ((∀ i, i < xs.length → clI xs i = clN xs i ∧ atI t xs g E i = g i) ∧ clI xs xs.length = 3 ∧ atI t xs g E xs.length = E - 1 - t.d) := ⟨fun i hi => ⟨if_pos hi, if_pos hi⟩, if_neg (by omega), if_neg (by omega)⟩
  clear hi hz0 hz1 hz2 h hg hr hok ht
  have HS0 : Hid (Rgs w (((w.alloc (.cells #[.int .i64 (t.u 0), .int .i64 (t.u 1), .int .i64 (t.u 2), .int .i64 (t.u 3), .int .i64 (t.l 0), .int .i64 (t.l 1), .int .i64 (t.l 2), .int .i64 (t.l 3), .int .i64 (t.b 0), .int .i64 (t.b 1), .int .i64 (t.b 2), .int .i64 (t.b 3), .int .i64 t.d] 25)).alloc (.cells #[.int .i64 E, .slice a xs.length ccap, .int .i64 S] 28)).alloc (.cells (madeCells #[.int .i64 0] E') 3)) t E a xs.length ccap S E' (fun _ => 0)) := by
    have x0 := cx_new w t E S a xs.length ccap
    have g0 : Below ((w.alloc (.cells t.cells 25)).alloc (.cells #[.int .i64 E, .slice a xs.length ccap, .int .i64 S] 28)).heap.size ((w.alloc (.cells t.cells 25)).alloc (.cells #[.int .i64 E, .slice a xs.length ccap, .int .i64 S] 28)) (((w.alloc (.cells t.cells 25)).alloc (.cells #[.int .i64 E, .slice a xs.length ccap, .int .i64 S] 28)).alloc (.cells (madeCells #[.int .i64 0] E') 3)) := (Below.refl _ _).alloc (Nat.le_refl _) _
    have iv := iv_made ((w.alloc (.cells t.cells 25)).alloc (.cells #[.int .i64 E, .slice a xs.length ccap, .int .i64 S] 28)) E' 3
    rw [show ((w.alloc (.cells t.cells 25)).alloc (.cells #[.int .i64 E, .slice a xs.length ccap, .int .i64 S] 28)).heap.size = w.heap.size + 2 by simp] at iv
    exact ⟨x0.next g0, iv⟩
  obtain ⟨n, hN⟩ : ∃ n, xs.length = n := ⟨_, rfl⟩
  have HN : Hid (xs.length = n) := hN
  rw [hN] at HS0 HO HYs HCI hn ⊢
  clear hN
  have hn' : (n : Int) ≤ 1024 := by omega
  have hEE : (E' : Int) ≤ 65536 := by omega
  unfold Tab.val
  go_enter Tryz.func59, Tryz.ntmps59
  go_upto_region 2 with (first
    | (at_make; refine wpList_make_row _ rfl _ _ 26 rfl 3 i0 (.int .i64 0) Tryz.underlying26 HI.out.1 HI.out.2.1 HI.out.2.2.1 rfl .i64 .i64 E' (by rw [← HE'.out]; rfl) (by rw [← HE'.out]; rfl) (by rw [HI.out.2.2.2]; omega) (by omega) ?_))
  generalize hWe : ((w.alloc (.cells #[.int .i64 (t.u 0), .int .i64 (t.u 1), .int .i64 (t.u 2), .int .i64 (t.u 3), .int .i64 (t.l 0), .int .i64 (t.l 1), .int .i64 (t.l 2), .int .i64 (t.l 3), .int .i64 (t.b 0), .int .i64 (t.b 1), .int .i64 (t.b 2), .int .i64 (t.b 3), .int .i64 t.d] 25)).alloc (.cells #[.int .i64 E, .slice a n ccap, .int .i64 S] 28)).alloc (.cells (madeCells #[.int .i64 0] E') 3) = W0 at *
  clear hWe
  go_wp2_with fail
  go_loopw [10] (fun v wr => ∃ i : Nat, i ≤ n + 1 ∧ v = .int .i64 i ∧ (Rgs w wr t E a n ccap S E' (fun z => gF t xs g E i c z)) ∧ ∀ z : Int, 0 ≤ gF t xs g E i c z ∧ gF t xs g E i c z ≤ t.u c) (fun v _ => n + 1 - (intOf v).toNat)
  case atStart => exact ⟨0, by omega, rfl, HS0.out, fun z => ⟨Int.le_refl _, (HTi.out c hc).1.1⟩⟩
  case round =>
    rename World => wr
    obtain ⟨i, hi, rfl, hq, hbd⟩ := hrel
    have HQ : Hid ((Rgs w wr t E a n ccap S E' (fun z => gF t xs g E i c z)) ∧ ∀ z : Int, 0 ≤ gF t xs g E i c z ∧ gF t xs g E i c z ≤ t.u c) := ⟨hq, hbd⟩
    clear hq hbd HS0
    by_cases hin : i ≤ n
    · have i00 : (0 : Int) ≤ (i : Int) := by omega
      have i01 : (i : Int) ≤ (n : Int) := by omega
      have hii : i ≤ xs.length := by rw [HN.out]; exact hin
      have p0 := HQ.out.1.x.p.c 0 _ rfl
      have p1 := HQ.out.1.x.p.c 1 _ rfl
      have pz := HQ.out.1.x.p.lt
      have qd := HQ.out.1.x.t.cd
      have qz := HQ.out.1.x.t.lt
      have HI00 : Hid (∀ z : Int, hF t xs g E i 0 c z = gF t xs g E i c z) := fun z => by
        unfold hF
        split
        · show gF t xs g E i c z + 0 = _; omega
        · omega
      by_cases hil : i < n
      · have i02 : (i : Int) < (n : Int) := by omega
        have hix : i < xs.length := by rw [HN.out]; exact hil
        obtain ⟨ob, og, rfl, hz2, hx⟩ := (HO.out.1.below HQ.out.1.x.up).is (by omega)
        obtain ⟨q0, -, -, -, -⟩ := hx i hix
        obtain ⟨cb, cfo, rfl, hcl, hcx⟩ := HO.out.2.1.is (by omega)
        have HCb : Hid (∀ Z, Below w.heap.size w Z → Z.cell? ⟨cb, cfo + i, none⟩ = some (.int .i64 (g i)) ∧ cb < Z.heap.size) := fun Z hZ => ⟨by rw [(bcell hZ).1 _ _ hcl]; exact hcx i hil, Nat.lt_of_lt_of_le hcl hZ.size⟩
        obtain ⟨g1, g2⟩ := HO.out.2.2 i hil
        have HC1 : Hid (∀ Z, Calls Tryz.prog 66 #[.int .i8 xs[i].op] Z fun e w' => e = .returned (.tuple #[.int .i64 (clN xs i : Int), .bool true]) ∧ Below Z.heap.size Z w') := HCl.out i hix
        have HCi : Hid (clI xs i = clN xs i ∧ atI t xs g E i = g i) := HCI.out.1 i hil
        have hci := clN_lt xs i
        obtain ⟨op, hop⟩ : ∃ op, xs[i].op = op := ⟨_, rfl⟩
        rw [hop] at HC1 q0
        obtain ⟨ci, hcie⟩ : ∃ c, clN xs i = c := ⟨_, rfl⟩
        rw [hcie] at HC1 HCi hci
        obtain ⟨ai, hai⟩ : ∃ v, g i = v := ⟨_, rfl⟩
        rw [hai] at HCb HCi g1 g2
        clear hx hcl hcx hop hcie hai
        obtain ⟨-, -, b1, b4⟩ := HTi.out ci hci
        go_wp2_with (first
          | (go_at_call 66; refine Calls.mono (HC1.out _) ?_; rintro e w3 ⟨rfl, b3⟩; have HQ3 : Hid ((Rgs w w3 t E (some ⟨cb, cfo, none⟩) n ccap S E' (fun z => gF t xs g E i c z)) ∧ ∀ z : Int, 0 ≤ gF t xs g E i c z ∧ gF t xs g E i c z ≤ t.u c) := ⟨HQ.out.1.next b3, HQ.out.2⟩; clear b3 HC1 HQ q0 hz2 p0 p1 pz qd qz; have p0 := HQ3.out.1.x.p.c 0 _ rfl; have p1 := HQ3.out.1.x.p.c 1 _ rfl; have pz := HQ3.out.1.x.p.lt; have y0 := (HCb.out _ HQ3.out.1.x.up).1; have y1 := (HCb.out _ HQ3.out.1.x.up).2))
        have HI0 : Hid ((Rgs w w3 t E (some ⟨cb, cfo, none⟩) n ccap S E' (fun z => hF t xs g E i 0 c z)) ∧ ∀ z : Int, 0 ≤ hF t xs g E i 0 c z ∧ hF t xs g E i 0 c z ≤ t.u c) := ⟨HQ3.out.1.same fun z _ => (HI00.out z).symm, fun z => by rw [HI00.out]; exact HQ3.out.2 z⟩
        clear HQ3 p0 p1 pz y0 y1
        go_loopw [13] (fun v wz => ∃ k : Nat, k ≤ (t.b ci).toNat ∧ v = .int .i64 k ∧ (¬ ci = c → k = 0) ∧ (Rgs w wz t E (some ⟨cb, cfo, none⟩) n ccap S E' (fun z => hF t xs g E i k c z)) ∧ ∀ z : Int, 0 ≤ hF t xs g E i k c z ∧ hF t xs g E i k c z ≤ t.u c) (fun v _ => (t.b ci).toNat - (intOf v).toNat)
        case atStart => exact ⟨0, by omega, rfl, fun _ => rfl, HI0.out.1, HI0.out.2⟩
        case round =>
          rename World => wz
          obtain ⟨k, hk, rfl, hk0, hq, hbd⟩ := hrel
          have HZ : Hid ((Rgs w wz t E (some ⟨cb, cfo, none⟩) n ccap S E' (fun z => hF t xs g E i k c z)) ∧ (∀ z : Int, 0 ≤ hF t xs g E i k c z ∧ hF t xs g E i k c z ≤ t.u c) ∧ (¬ ci = c → k = 0)) := ⟨hq, hbd, hk0⟩
          clear hq hbd hk0 HI0
          have tb := HZ.out.1.x.t.cb ci hci
          have tu := HZ.out.1.x.t.cu ci hci
          have tz := HZ.out.1.x.t.lt
          have p0 := HZ.out.1.x.p.c 0 _ rfl
          have pz := HZ.out.1.x.p.lt
          have hc0 : (0 : Int) ≤ ((ci : Nat) : Int) := by omega
          have hc4 : (((ci : Nat) : Int)) < 4 := by omega
          by_cases hkB : (k : Int) < t.b ci
          · by_cases hcc : ci = c
            · subst hcc
              have hcb : (((ci : Nat) : Int) == ((ci : Nat) : Int)) = true := by simp
              have k0 : (0 : Int) ≤ (k : Int) := by omega
              have hx0 := Int.emod_nonneg (ai + k) (show E ≠ 0 by omega)
              have hx1 := Int.emod_lt_of_pos (ai + k) (show 0 < E by omega)
              have hxt : Int.tmod (ai + k) E = (ai + k) % E := Int.tmod_eq_emod_of_nonneg (by omega)
              have HSt : Hid (∀ z, hF t xs g E i (k + 1) ci z = hF t xs g E i k ci z + if (ai + k) % E = z then 1 else 0) := hF_step hii HCi.out.1 HCi.out.2 rfl k
              obtain ⟨x, hx⟩ : ∃ x : Nat, (ai + k) % E = x := ⟨((ai + k) % E).toNat, by omega⟩
              rw [hx] at hx0 hx1 hxt HSt
              clear hx
              have hxE : x < E' := by omega
              have hxE2 : (x : Int) < (E' : Int) := by omega
              have cX := HZ.out.1.u.c x hxE
              have cZ := HZ.out.1.u.f x
              have cL := HZ.out.1.u.lt
              obtain ⟨v1, v2⟩ := HZ.out.2.1 x
              have HSet : Hid (Rgs w (wz.setCell ⟨w.heap.size + 2, x, none⟩ (.int .i64 (hF t xs g E i k ci x + 1))) t E (some ⟨cb, cfo, none⟩) n ccap S E' (fun z => hF t xs g E i (k + 1) ci z)) := (HZ.out.1.set hxE _).same fun z hz => by
                rw [HSt.out]
                unfold up1
                by_cases e : z = x
                · subst e; rw [if_pos rfl, if_pos rfl]
                · rw [if_neg e, if_neg (by omega)]
                  show hF t xs g E i k ci (z : Int) = hF t xs g E i k ci (z : Int) + 0
                  omega
              have HBd : Hid (hF t xs g E i k ci x + 1 ≤ t.u ci → ∀ z : Int, 0 ≤ hF t xs g E i (k + 1) ci z ∧ hF t xs g E i (k + 1) ci z ≤ t.u ci) := fun hh z => by
                have := HZ.out.2.1 z
                rw [HSt.out]
                by_cases e : (x : Int) = z
                · subst e; rw [if_pos rfl]; omega
                · rw [if_neg e]; omega
              have HNo : Hid (t.u ci < hF t xs g E i k ci x + 1 → false = rqB t xs g E ci) := fun hh => rq_no hE0 (z := x) (by omega) (by
                have h1 := hF_le (t := t) (xs := xs) (g := g) (E := E) hii (k := k + 1) ci (by omega) x
                rw [HSt.out, if_pos rfl] at h1
                omega)
              have hu8 := (HTi.out ci (by omega)).1
              obtain ⟨hv, hhv⟩ : ∃ v, hF t xs g E i k ci x = v := ⟨_, rfl⟩
              have HVx : Hid (hF t xs g E i (k + 1) ci x = hv + 1) := by show hF t xs g E i (k + 1) ci x = hv + 1; rw [HSt.out, if_pos rfl, hhv]
              rw [hhv] at HSet HBd HNo cX v1 v2
              clear hhv
              have hxw : IntKind.i64.wrap (Int.tmod (ai + k) E) = x := by rw [hxt, IntKind.wrap_i64]; omega
              go_upto_region 15 with fail
              generalize (wz.setCell ⟨w.heap.size + 2, x, none⟩ (.int .i64 (hv + 1))) = Y at *
              have tb := HSet.out.x.t.cb ci hci
              have tu := HSet.out.x.t.cu ci hci
              have tz := HSet.out.x.t.lt
              clear cX cZ cL
              have cX := HSet.out.u.c x hxE
              have cL := HSet.out.u.lt
              rw [show hF t xs g E i (k + 1) ci x = hv + 1 from HVx.out] at cX
              by_cases hu : t.u ci < hv + 1
              · have HR : Hid (false = rqB t xs g E ci) := HNo.out hu
                go_quiet (fail)
                go_wp2_with fail
                go_ret
                exact ⟨ret_bool HR.out, ⟨HSet.out.x.up.os, HSet.out.x.up.tape, HSet.out.x.up.output, HSet.out.x.up.size, HSet.out.x.up.block⟩⟩
              · have HB2 : Hid _ := HBd.out (by omega)
                go_quiet (fail)
                go_wp2_with fail
                go_roundw
                case rel => exact ⟨k + 1, by omega, by go_num, fun h => (by first | exact absurd rfl h | exact absurd trivial h), HSet.out.next ⟨rfl, rfl, rfl, Nat.le_refl _, fun _ _ => rfl⟩, HB2.out⟩
                case measure => simp [intOf] <;> omega
            · have hcb : (((ci : Nat) : Int) == (c : Int)) = false := by simp <;> omega
              have HE : Hid (∀ z, gF t xs g E (i + 1) c z = hF t xs g E i k c z) := fun z => gF_other HCi.out.1 hcc k z
              go_wp2_with fail
              go_roundw
              case rel => exact ⟨i + 1, by omega, by go_num, HZ.out.1.same fun z _ => (HE.out z).symm, fun z => by rw [HE.out]; exact HZ.out.2.1 z⟩
              case measure => simp [intOf] <;> omega
          · have HE : Hid (∀ z, gF t xs g E (i + 1) c z = hF t xs g E i k c z) := fun z => by
              by_cases hcc : ci = c
              · have ek : k = (t.b c).toNat := by rw [← hcc]; omega
                rw [ek]; exact gF_next HCi.out.1 HCi.out.2 hcc z
              · exact gF_other HCi.out.1 hcc k z
            go_wp2_with fail
            go_roundw
            case rel => exact ⟨i + 1, by omega, by go_num, HZ.out.1.same fun z _ => (HE.out z).symm, fun z => by rw [HE.out]; exact HZ.out.2.1 z⟩
            case measure => simp [intOf] <;> omega
      · obtain rfl : i = n := by omega
        have i02 : ¬ (i : Int) < (i : Int) := by omega
        have HCi : Hid (clI xs i = 3 ∧ atI t xs g E i = E - 1 - t.d) := HCI.out.2
        have hci : 3 < 4 := by omega
        obtain ⟨-, -, b1, b4⟩ := HTi.out 3 hci
        have HI0 : Hid ((Rgs w wr t E a i ccap S E' (fun z => hF t xs g E i 0 c z)) ∧ ∀ z : Int, 0 ≤ hF t xs g E i 0 c z ∧ hF t xs g E i 0 c z ≤ t.u c) := ⟨HQ.out.1.same fun z _ => (HI00.out z).symm, fun z => by rw [HI00.out]; exact HQ.out.2 z⟩
        obtain ⟨ai, hai⟩ : ∃ v, E - 1 - t.d = v := ⟨_, rfl⟩
        rw [hai] at HCi
        have g1 : 0 ≤ ai := by omega
        have g2 : ai ≤ 65536 := by omega
        have hw1 : IntKind.i64.wrap (E - 1) = E - 1 := by rw [IntKind.wrap_i64]; omega
        have hw2 : IntKind.i64.wrap (E - 1 - t.d) = ai := by rw [hai, IntKind.wrap_i64]; omega
        go_wp2_with fail
        clear HQ p0 p1 pz qd qz hw1 hw2 hai
        go_loopw [13] (fun v wz => ∃ k : Nat, k ≤ (t.b 3).toNat ∧ v = .int .i64 k ∧ (¬ 3 = c → k = 0) ∧ (Rgs w wz t E a i ccap S E' (fun z => hF t xs g E i k c z)) ∧ ∀ z : Int, 0 ≤ hF t xs g E i k c z ∧ hF t xs g E i k c z ≤ t.u c) (fun v _ => (t.b 3).toNat - (intOf v).toNat)
        case atStart => exact ⟨0, by omega, rfl, fun _ => rfl, HI0.out.1, HI0.out.2⟩
        case round =>
          rename World => wz
          obtain ⟨k, hk, rfl, hk0, hq, hbd⟩ := hrel
          have HZ : Hid ((Rgs w wz t E a i ccap S E' (fun z => hF t xs g E i k c z)) ∧ (∀ z : Int, 0 ≤ hF t xs g E i k c z ∧ hF t xs g E i k c z ≤ t.u c) ∧ (¬ 3 = c → k = 0)) := ⟨hq, hbd, hk0⟩
          clear hq hbd hk0 HI0
          have tb := HZ.out.1.x.t.cb 3 hci
          have tu := HZ.out.1.x.t.cu 3 hci
          have tz := HZ.out.1.x.t.lt
          have p0 := HZ.out.1.x.p.c 0 _ rfl
          have pz := HZ.out.1.x.p.lt
          have hc0 : (0 : Int) ≤ ((3 : Nat) : Int) := by omega
          have hc4 : (((3 : Nat) : Int)) < 4 := by omega
          by_cases hkB : (k : Int) < t.b 3
          · by_cases hcc : 3 = c
            · subst hcc
              have hcb : (((3 : Nat) : Int) == ((3 : Nat) : Int)) = true := by simp
              have k0 : (0 : Int) ≤ (k : Int) := by omega
              have hx0 := Int.emod_nonneg (ai + k) (show E ≠ 0 by omega)
              have hx1 := Int.emod_lt_of_pos (ai + k) (show 0 < E by omega)
              have hxt : Int.tmod (ai + k) E = (ai + k) % E := Int.tmod_eq_emod_of_nonneg (by omega)
              have HSt : Hid (∀ z, hF t xs g E i (k + 1) 3 z = hF t xs g E i k 3 z + if (ai + k) % E = z then 1 else 0) := hF_step hii HCi.out.1 HCi.out.2 rfl k
              obtain ⟨x, hx⟩ : ∃ x : Nat, (ai + k) % E = x := ⟨((ai + k) % E).toNat, by omega⟩
              rw [hx] at hx0 hx1 hxt HSt
              clear hx
              have hxE : x < E' := by omega
              have hxE2 : (x : Int) < (E' : Int) := by omega
              have cX := HZ.out.1.u.c x hxE
              have cZ := HZ.out.1.u.f x
              have cL := HZ.out.1.u.lt
              obtain ⟨v1, v2⟩ := HZ.out.2.1 x
              have HSet : Hid (Rgs w (wz.setCell ⟨w.heap.size + 2, x, none⟩ (.int .i64 (hF t xs g E i k 3 x + 1))) t E a i ccap S E' (fun z => hF t xs g E i (k + 1) 3 z)) := (HZ.out.1.set hxE _).same fun z hz => by
                rw [HSt.out]
                unfold up1
                by_cases e : z = x
                · subst e; rw [if_pos rfl, if_pos rfl]
                · rw [if_neg e, if_neg (by omega)]
                  show hF t xs g E i k 3 (z : Int) = hF t xs g E i k 3 (z : Int) + 0
                  omega
              have HBd : Hid (hF t xs g E i k 3 x + 1 ≤ t.u 3 → ∀ z : Int, 0 ≤ hF t xs g E i (k + 1) 3 z ∧ hF t xs g E i (k + 1) 3 z ≤ t.u 3) := fun hh z => by
                have := HZ.out.2.1 z
                rw [HSt.out]
                by_cases e : (x : Int) = z
                · subst e; rw [if_pos rfl]; omega
                · rw [if_neg e]; omega
              have HNo : Hid (t.u 3 < hF t xs g E i k 3 x + 1 → false = rqB t xs g E 3) := fun hh => rq_no hE0 (z := x) (by omega) (by
                have h1 := hF_le (t := t) (xs := xs) (g := g) (E := E) hii (k := k + 1) 3 (by omega) x
                rw [HSt.out, if_pos rfl] at h1
                omega)
              have hu8 := (HTi.out 3 (by omega)).1
              obtain ⟨hv, hhv⟩ : ∃ v, hF t xs g E i k 3 x = v := ⟨_, rfl⟩
              have HVx : Hid (hF t xs g E i (k + 1) 3 x = hv + 1) := by show hF t xs g E i (k + 1) 3 x = hv + 1; rw [HSt.out, if_pos rfl, hhv]
              rw [hhv] at HSet HBd HNo cX v1 v2
              clear hhv
              have hxw : IntKind.i64.wrap (Int.tmod (ai + k) E) = x := by rw [hxt, IntKind.wrap_i64]; omega
              go_upto_region 15 with fail
              generalize (wz.setCell ⟨w.heap.size + 2, x, none⟩ (.int .i64 (hv + 1))) = Y at *
              have tb := HSet.out.x.t.cb 3 hci
              have tu := HSet.out.x.t.cu 3 hci
              have tz := HSet.out.x.t.lt
              clear cX cZ cL
              have cX := HSet.out.u.c x hxE
              have cL := HSet.out.u.lt
              rw [show hF t xs g E i (k + 1) 3 x = hv + 1 from HVx.out] at cX
              by_cases hu : t.u 3 < hv + 1
              · have HR : Hid (false = rqB t xs g E 3) := HNo.out hu
                go_quiet (fail)
                go_wp2_with fail
                go_ret
                exact ⟨ret_bool HR.out, ⟨HSet.out.x.up.os, HSet.out.x.up.tape, HSet.out.x.up.output, HSet.out.x.up.size, HSet.out.x.up.block⟩⟩
              · have HB2 : Hid _ := HBd.out (by omega)
                go_quiet (fail)
                go_wp2_with fail
                go_roundw
                case rel => exact ⟨k + 1, by omega, by go_num, fun h => (by first | exact absurd rfl h | exact absurd trivial h), HSet.out.next ⟨rfl, rfl, rfl, Nat.le_refl _, fun _ _ => rfl⟩, HB2.out⟩
                case measure => simp [intOf] <;> omega
            · have hcb : (((3 : Nat) : Int) == (c : Int)) = false := by simp <;> omega
              have HE : Hid (∀ z, gF t xs g E (i + 1) c z = hF t xs g E i k c z) := fun z => gF_other HCi.out.1 hcc k z
              go_wp2_with fail
              go_roundw
              case rel => exact ⟨i + 1, by omega, by go_num, HZ.out.1.same fun z _ => (HE.out z).symm, fun z => by rw [HE.out]; exact HZ.out.2.1 z⟩
              case measure => simp [intOf] <;> omega
          · have HE : Hid (∀ z, gF t xs g E (i + 1) c z = hF t xs g E i k c z) := fun z => by
              by_cases hcc : 3 = c
              · have ek : k = (t.b c).toNat := by rw [← hcc]; omega
                rw [ek]; exact gF_next HCi.out.1 HCi.out.2 hcc z
              · exact gF_other HCi.out.1 hcc k z
            go_wp2_with fail
            go_roundw
            case rel => exact ⟨i + 1, by omega, by go_num, HZ.out.1.same fun z _ => (HE.out z).symm, fun z => by rw [HE.out]; exact HZ.out.2.1 z⟩
            case measure => simp [intOf] <;> omega
    · obtain rfl : i = n + 1 := by omega
      have i01 : ¬ ((n + 1 : Nat) : Int) ≤ (n : Int) := by omega
      have HR : Hid (true = rqB t xs g E c) := HYs.out fun z => (HQ.out.2 z).2
      go_wp2_with fail
      go_ret
      exact ⟨ret_bool HR.out, HQ.out.1.x.up⟩
end Go.Proofs.YteccifanbgcakaaGreatDoor.Mo
