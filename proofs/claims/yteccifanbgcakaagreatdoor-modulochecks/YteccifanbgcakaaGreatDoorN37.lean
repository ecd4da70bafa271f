/- Package modulo: a plan out of cycles, whether a body's plan goes, the first way to a plan (planOf, keeps, the first of tries), read off the program by the walk. Conditions: the lists lie in memory, the variables as the program lays them. -/
import Derived.Test.YteccifanbgcakaaGreatDoorN36
namespace Go.Proofs.YteccifanbgcakaaGreatDoor.Mo
open Go.ChangeShapes Go.WideShapes Go.ChangeAt Go.RowKit
open _root_.Go.Proofs.YteccifanbgcakaaGreatDoor.Op _root_.Go.Proofs.YteccifanbgcakaaGreatDoor.So _root_.Go.Proofs.YteccifanbgcakaaGreatDoor.Dp _root_.Go.Proofs.YteccifanbgcakaaGreatDoor.Bn
open _root_.Go.Proofs.YteccifanbgcakaaGreatDoor.Ls (clN clN_at clN_lt Nl arC arC_all arC_yes arC_no areCycles_any)
open _root_.Go.Proofs.YteccifanbgcakaaGreatDoor.Rv (RAt Few frB tkF tk_few take_any evOk NwOut ring_ok tn addK)
open _root_.Go.Proofs.YteccifanbgcakaaGreatDoor.Tb (Tab TabAt Bnds)
set_option maxRecDepth 20000

set_option maxHeartbeats 2000000 in
theorem planOf_any (a : Option Addr) (n cap : Nat) (g : Nat → Int) (E : Int) (w : World) (h : Nl w a n g) (hn : n ≤ 1000000000000) (hg : ∀ k, k < n → 0 ≤ g k ∧ g k ≤ 65536) (hE : 1 ≤ E) (hE2 : E ≤ 65536) :
    Calls Tryz.prog 61 #[.slice a n cap, .int .i64 E] w fun e w' => e = .returned (.agg #[.int .i64 E, .slice a n cap, .int .i64 (stg n g E)]) ∧ Below w.heap.size w w' := by
  have HS : Hid (∀ W, Below w.heap.size w W → Calls Tryz.prog 24 #[.slice a n cap, .int .i64 E] W fun e w' => e = .returned (.int .i64 (stg n g E)) ∧ Below W.heap.size W w') := fun W hb => stages_any a n cap g E W (h.up hb) hn hg hE hE2
  clear h hg
  generalize stg n g E = st at *
  have HP0 : Hid (At (w.alloc (.cells #[.int .i64 0, .slice none 0 0, .int .i64 0] 28)) w.heap.size #[.int .i64 0, .slice none 0 0, .int .i64 0] ∧ Below w.heap.size w (w.alloc (.cells #[.int .i64 0, .slice none 0 0, .int .i64 0] 28))) := ⟨At.new _ _ _, by go_grown⟩
  go_enter Tryz.func61, Tryz.ntmps61
  go_wp2_with (first
    | (go_at_call 24; refine Calls.mono (HS.out _ HP0.out.2) ?_; rintro e w1 ⟨rfl, b1⟩; have HP1 : Hid (At w1 w.heap.size #[.int .i64 0, .slice none 0 0, .int .i64 0] ∧ Below w.heap.size w w1) := ⟨HP0.out.1.below b1 HP0.out.1.lt, HP0.out.2.trans (b1.mono HP0.out.2.size)⟩; clear b1 HS HP0; have p0 := HP1.out.1.c 0 _ rfl; have p1 := HP1.out.1.c 1 _ rfl; have p2 := HP1.out.1.c 2 _ rfl; have f0 := HP1.out.1.f 0; have f1 := HP1.out.1.f 1; have f2 := HP1.out.1.f 2; have pl := HP1.out.1.lt))
  refine bodyPost_ret (v := .agg #[.int .i64 E, .slice a n cap, .int .i64 st]) (by simp [results, Tryz.results61, go_sem, p0, p1, p2]) rfl ⟨rfl, ?_⟩
  exact ((HP1.out.2.setCell (Nat.le_refl _) _).setCell (Nat.le_refl _) _).setCell (Nat.le_refl _) _
/-- A body in memory, as it stays. -/
structure Bo (W : World) (bb : Nat) (ao : Option Addr) (cap : Nat) (xs : List O) (t : Tab) (ea : Option Addr) (ec : Nat) (a : Option Addr) (cc : Nat) (g : Nat → Int) (D : Int) : Prop where
  at' : At W bb (boC ao xs.length cap t ea (loopE t xs).length ec a cc D)
  l : OpsAt W ao xs
  e : Es W ea (loopE t xs)
  c : Nl W a xs.length g
  G : Bnds W
theorem Bo.up {W W' : World} {bb : Nat} {ao : Option Addr} {cap : Nat} {xs : List O} {t : Tab} {ea : Option Addr} {ec : Nat} {a : Option Addr} {cc : Nat} {g : Nat → Int} {D : Int} (h : Bo W bb ao cap xs t ea ec a cc g D) (b : Below W.heap.size W W') : Bo W' bb ao cap xs t ea ec a cc g D := ⟨h.at'.below b h.at'.lt, h.l.below b, h.e.up b, h.c.up b, h.G.below b h.G.big⟩
/-- What holds of a body's numbers. -/
structure BoOk (xs : List O) (t : Tab) (g : Nat → Int) (D : Int) : Prop where
  e : rgE t xs = 0
  g : ∀ k, k < xs.length → 0 ≤ g k ∧ g k ≤ 65536
  d : D ≤ 65536
/-- Whether a plan of those cycles goes. -/
def kgB (t : Tab) (xs : List O) (g : Nat → Int) (E : Int) : Bool := decide (stg xs.length g E ≤ 31) && (kpB (loopE t xs) g E && kuB t xs g E)
set_option maxHeartbeats 8000000 in
theorem keeps_any (bb : Nat) (ao : Option Addr) (cap : Nat) (xs : List O) (t : Tab) (ea : Option Addr) (ec : Nat) (a : Option Addr) (cc : Nat) (g : Nat → Int) (D : Int) (a2 : Option Addr) (c2 : Nat) (g2 : Nat → Int) (E : Int) (w : World) (h : Bo w bb ao cap xs t ea ec a cc g D) (ok : BoOk xs t g D) (h2 : Nl w a2 xs.length g2) (hg2 : ∀ k, k < xs.length → 0 ≤ g2 k ∧ g2 k ≤ 65536) (hE : 1 + t.d ≤ E) (hE2 : E ≤ 65536) :
    Calls Tryz.prog 106 #[.pointer (some ⟨bb, 0, none⟩), .agg #[.int .i64 E, .slice a2 xs.length c2, .int .i64 (stg xs.length g2 E)]] w fun e w' => e = .returned (.bool (kgB t xs g2 E)) ∧ Below w.heap.size w w' := by
  obtain ⟨ht, hn64, hlis, hhu⟩ := rg_ok ok.e
  have hd := (tab_in ht).1
  have HKe : Hid (∀ W, Below w.heap.size w W → Calls Tryz.prog 25 #[.agg #[.int .i64 E, .slice a2 xs.length c2, .int .i64 (stg xs.length g2 E)], .slice ea (loopE t xs).length ec] W fun e w' => e = .returned (.bool (kpB (loopE t xs) g2 E)) ∧ Below W.heap.size W w') := fun W hb => keepEdges_any a2 xs.length c2 g2 E _ ea ec _ W (h2.up hb) hg2 (h.e.up hb) (loopE_ok h.l ok.e) (loopE_len (by omega)) (by omega) (by omega) hE2
  have HKu : Hid (∀ W, Below w.heap.size w W → Calls Tryz.prog 27 #[.agg #[.int .i64 E, .slice a2 xs.length c2, .int .i64 (stg xs.length g2 E)], .slice ao xs.length cap, .agg #[.int .i64 (t.u 0), .int .i64 (t.u 1), .int .i64 (t.u 2), .int .i64 (t.u 3), .int .i64 (t.l 0), .int .i64 (t.l 1), .int .i64 (t.l 2), .int .i64 (t.l 3), .int .i64 (t.b 0), .int .i64 (t.b 1), .int .i64 (t.b 2), .int .i64 (t.b 3), .int .i64 t.d]] W fun e w' => e = .returned (.bool (kuB t xs g2 E)) ∧ Below W.heap.size W w') := fun W hb => keepUnits_any a2 ao c2 cap xs t g2 E _ W (h2.up hb) hg2 (h.l.below hb) (by omega) (h.G.below hb h.G.big) ht hE hE2
  have HB0 : Hid (At w bb (boC ao xs.length cap t ea (loopE t xs).length ec a cc D)) := h.at'
  clear h ok h2 hg2 ht hlis hhu
  unfold kgB
  unfold boC at HB0
  generalize stg xs.length g2 E = st at *
  generalize kpB (loopE t xs) g2 E = be at *
  generalize kuB t xs g2 E = bu at *
  generalize (loopE t xs).length = M at *
  generalize xs.length = n at *
  have HP0 : Hid (At (w.alloc (.cells #[.int .i64 E, .slice a2 n c2, .int .i64 st] 28)) w.heap.size #[.int .i64 E, .slice a2 n c2, .int .i64 st] ∧ At (w.alloc (.cells #[.int .i64 E, .slice a2 n c2, .int .i64 st] 28)) bb (boC ao n cap t ea M ec a cc D) ∧ Below w.heap.size w (w.alloc (.cells #[.int .i64 E, .slice a2 n c2, .int .i64 st] 28))) := ⟨At.new _ _ _, HB0.out.alloc _, by go_grown⟩
  clear HB0
  obtain ⟨R, hR⟩ : ∃ R, (decide (st ≤ 31) && (be && bu)) = R := ⟨_, rfl⟩
  rw [hR]
  have HR : Hid ((decide (st ≤ 31) && (be && bu)) = R) := hR
  clear hR
  go_enter Tryz.func106, Tryz.ntmps106
  go_upto_region 1 with fail
  generalize (w.alloc (.cells #[.int .i64 E, .slice a2 n c2, .int .i64 st] 28)) = X at *
  have HX : Hid (At X.drew w.heap.size #[.int .i64 E, .slice a2 n c2, .int .i64 st] ∧ At X.drew bb (boC ao n cap t ea M ec a cc D) ∧ Below w.heap.size w X.drew) := ⟨HP0.out.1.below (drew_up _) HP0.out.1.lt, HP0.out.2.1.below (drew_up _) HP0.out.2.1.lt, HP0.out.2.2.trans ((drew_up _).mono HP0.out.2.2.size)⟩
  clear HP0
  refine wp_region_held_drew (S := fun Z => At Z w.heap.size #[.int .i64 E, .slice a2 n c2, .int .i64 st] ∧ At Z bb (boC ao n cap t ea M ec a cc D)) (by kernel_rfl) ⟨HX.out.1, HX.out.2.1⟩ (fun hHeld => ?_)
  refine wpAnyH_take (i := 0) (v := .pointer (some ⟨w.heap.size, 2, none⟩)) rfl (by kernel_rfl) (by kernel_rfl) (by kernel_rfl) (fun _ _ _ h => h) (Or.inl ⟨by rfl, fun w' hSw => by (go_simp)⟩) hHeld ?_
  simp only [Act.put, List.setIfInBounds_toArray, List.set_cons_zero, List.set_cons_succ, List.getElem_cons_zero, List.getElem_toArray]
  refine wpAnyH_take (i := 1) (v := .int .i64 st) rfl (by kernel_rfl) (by kernel_rfl) (by kernel_rfl) (fun _ _ _ h => h) (Or.inl ⟨by rfl, fun w' hSw => by (have y2 := hSw.1.c 2 _ rfl; have yl := hSw.1.lt; go_simp)⟩) hHeld ?_
  simp only [Act.put, List.setIfInBounds_toArray, List.set_cons_zero, List.set_cons_succ, List.getElem_cons_zero, List.getElem_cons_succ, List.getElem_toArray]
  by_cases c1 : st ≤ 31
  · have c1d : decide (st ≤ 31) = true := decide_eq_true c1
    have HC : Hid (decide (st ≤ 31) = true) := c1d
    refine wpAnyH_take (i := 2) (v := .bool true) rfl (by kernel_rfl) (by kernel_rfl) (by kernel_rfl) (fun _ _ _ h => h) (Or.inl ⟨by rfl, fun w' hSw => by (go_simp)⟩) hHeld ?_
    simp only [Act.put, List.setIfInBounds_toArray, List.set_cons_zero, List.set_cons_succ, List.getElem_cons_zero, List.getElem_cons_succ, List.getElem_toArray]
    refine wpAnyH_take (i := 3) (v := .bool true) rfl (by kernel_rfl) (by kernel_rfl) (by kernel_rfl) (fun _ _ _ h => h) (Or.inl ⟨by rfl, fun w' hSw => by (go_simp)⟩) hHeld ?_
    simp only [Act.put, List.setIfInBounds_toArray, List.set_cons_zero, List.set_cons_succ, List.getElem_cons_zero, List.getElem_cons_succ, List.getElem_toArray]
    refine wpAnyH_take (i := 4) (v := .agg #[.int .i64 E, .slice a2 n c2, .int .i64 st]) rfl (by kernel_rfl) (by kernel_rfl) (by kernel_rfl) (fun _ _ _ h => h) (Or.inl ⟨by rfl, fun w' hSw => by (have y0 := hSw.1.c 0 _ rfl; have y1 := hSw.1.c 1 _ rfl; have y2 := hSw.1.c 2 _ rfl; have yl := hSw.1.lt; go_simp)⟩) hHeld ?_
    simp only [Act.put, List.setIfInBounds_toArray, List.set_cons_zero, List.set_cons_succ, List.getElem_cons_zero, List.getElem_cons_succ, List.getElem_toArray]
    refine wpAnyH_take (i := 5) (v := .pointer (some ⟨bb, 0, none⟩)) rfl (by kernel_rfl) (by kernel_rfl) (by kernel_rfl) (fun _ _ _ h => h) (Or.inl ⟨by rfl, fun w' hSw => by (go_simp)⟩) hHeld ?_
    simp only [Act.put, List.setIfInBounds_toArray, List.set_cons_zero, List.set_cons_succ, List.getElem_cons_zero, List.getElem_cons_succ, List.getElem_toArray]
    refine wpAnyH_take (i := 6) (v := .pointer (some ⟨bb, 0, none⟩)) rfl (by kernel_rfl) (by kernel_rfl) (by kernel_rfl) (fun _ _ _ h => h) (Or.inl ⟨by rfl, fun w' hSw => by (go_simp)⟩) hHeld ?_
    simp only [Act.put, List.setIfInBounds_toArray, List.set_cons_zero, List.set_cons_succ, List.getElem_cons_zero, List.getElem_cons_succ, List.getElem_toArray]
    refine wpAnyH_take (i := 7) (v := .pointer (some ⟨bb, 14, none⟩)) rfl (by kernel_rfl) (by kernel_rfl) (by kernel_rfl) (fun _ _ _ h => h) (Or.inl ⟨by rfl, fun w' hSw => by (go_simp)⟩) hHeld ?_
    simp only [Act.put, List.setIfInBounds_toArray, List.set_cons_zero, List.set_cons_succ, List.getElem_cons_zero, List.getElem_cons_succ, List.getElem_toArray]
    refine wpAnyH_take (i := 8) (v := .slice ea M ec) rfl (by kernel_rfl) (by kernel_rfl) (by kernel_rfl) (fun _ _ _ h => h) (Or.inl ⟨by rfl, fun w' hSw => by (have y0 := hSw.2.c 14 _ rfl; have yl := hSw.2.lt; go_simp)⟩) hHeld ?_
    simp only [Act.put, List.setIfInBounds_toArray, List.set_cons_zero, List.set_cons_succ, List.getElem_cons_zero, List.getElem_cons_succ, List.getElem_toArray]
    refine wpAnyH_ready (rs := [9]) (by kernel_rfl) (by simp) ?_
    refine AllReadyH.cons rfl (fun K hK => ?_) AllReadyH.nil
    go_simp
    refine Calls.mono (HKe.out _ HX.out.2.2) ?_
    rintro e w3 ⟨rfl, b3⟩
    have HX3 : Hid (At w3 w.heap.size #[.int .i64 E, .slice a2 n c2, .int .i64 st] ∧ At w3 bb (boC ao n cap t ea M ec a cc D) ∧ Below w.heap.size w w3) := ⟨HX.out.1.below b3 HX.out.1.lt, HX.out.2.1.below b3 HX.out.2.1.lt, HX.out.2.2.trans (b3.mono HX.out.2.2.size)⟩
    clear b3 HKe HX
    refine hK.out _ _ ⟨HX3.out.1, HX3.out.2.1⟩ (fun hHeld => ?_)
    clear hK K
    cases be
    · have HR2 : Hid (false = R) := by rw [← HR.out, HC.out]; rfl
      refine wpAnyH_take (i := 10) (v := .bool false) rfl (by kernel_rfl) (by kernel_rfl) (by kernel_rfl) (fun _ _ _ h => h) (Or.inl ⟨by rfl, fun w' hSw => by (go_simp)⟩) hHeld ?_
      simp only [Act.put, List.setIfInBounds_toArray, List.set_cons_zero, List.set_cons_succ, List.getElem_cons_zero, List.getElem_cons_succ, List.getElem_toArray]
      refine wpAnyH_take (i := 11) (v := .bool false) rfl (by kernel_rfl) (by kernel_rfl) (by kernel_rfl) (fun _ _ _ h => h) (Or.inl ⟨by rfl, fun w' hSw => by (go_simp)⟩) hHeld ?_
      simp only [Act.put, List.setIfInBounds_toArray, List.set_cons_zero, List.set_cons_succ, List.getElem_cons_zero, List.getElem_cons_succ, List.getElem_toArray]
      refine wpAnyH_take (i := 12) (v := undef) rfl (by kernel_rfl) (by kernel_rfl) (by kernel_rfl) (fun _ _ _ h => h) (Or.inr ⟨by rfl, rfl⟩) hHeld ?_
      simp only [Act.put, List.setIfInBounds_toArray, List.set_cons_zero, List.set_cons_succ, List.getElem_cons_zero, List.getElem_cons_succ, List.getElem_toArray]
      refine wpAnyH_take (i := 13) (v := undef) rfl (by kernel_rfl) (by kernel_rfl) (by kernel_rfl) (fun _ _ _ h => h) (Or.inr ⟨by rfl, rfl⟩) hHeld ?_
      simp only [Act.put, List.setIfInBounds_toArray, List.set_cons_zero, List.set_cons_succ, List.getElem_cons_zero, List.getElem_cons_succ, List.getElem_toArray]
      refine wpAnyH_take (i := 14) (v := undef) rfl (by kernel_rfl) (by kernel_rfl) (by kernel_rfl) (fun _ _ _ h => h) (Or.inr ⟨by rfl, rfl⟩) hHeld ?_
      simp only [Act.put, List.setIfInBounds_toArray, List.set_cons_zero, List.set_cons_succ, List.getElem_cons_zero, List.getElem_cons_succ, List.getElem_toArray]
      refine wpAnyH_take (i := 15) (v := undef) rfl (by kernel_rfl) (by kernel_rfl) (by kernel_rfl) (fun _ _ _ h => h) (Or.inr ⟨by rfl, rfl⟩) hHeld ?_
      simp only [Act.put, List.setIfInBounds_toArray, List.set_cons_zero, List.set_cons_succ, List.getElem_cons_zero, List.getElem_cons_succ, List.getElem_toArray]
      refine wpAnyH_take (i := 16) (v := undef) rfl (by kernel_rfl) (by kernel_rfl) (by kernel_rfl) (fun _ _ _ h => h) (Or.inr ⟨by rfl, rfl⟩) hHeld ?_
      simp only [Act.put, List.setIfInBounds_toArray, List.set_cons_zero, List.set_cons_succ, List.getElem_cons_zero, List.getElem_cons_succ, List.getElem_toArray]
      refine wpAnyH_take (i := 17) (v := undef) rfl (by kernel_rfl) (by kernel_rfl) (by kernel_rfl) (fun _ _ _ h => h) (Or.inr ⟨by rfl, rfl⟩) hHeld ?_
      simp only [Act.put, List.setIfInBounds_toArray, List.set_cons_zero, List.set_cons_succ, List.getElem_cons_zero, List.getElem_cons_succ, List.getElem_toArray]
      refine wpAnyH_take (i := 18) (v := undef) rfl (by kernel_rfl) (by kernel_rfl) (by kernel_rfl) (fun _ _ _ h => h) (Or.inr ⟨by rfl, rfl⟩) hHeld ?_
      simp only [Act.put, List.setIfInBounds_toArray, List.set_cons_zero, List.set_cons_succ, List.getElem_cons_zero, List.getElem_cons_succ, List.getElem_toArray]
      refine wpAnyH_take (i := 19) (v := undef) rfl (by kernel_rfl) (by kernel_rfl) (by kernel_rfl) (fun _ _ _ h => h) (Or.inr ⟨by rfl, rfl⟩) hHeld ?_
      simp only [Act.put, List.setIfInBounds_toArray, List.set_cons_zero, List.set_cons_succ, List.getElem_cons_zero, List.getElem_cons_succ, List.getElem_toArray]
      refine wpAnyH_take (i := 20) (v := undef) rfl (by kernel_rfl) (by kernel_rfl) (by kernel_rfl) (fun _ _ _ h => h) (Or.inr ⟨by rfl, rfl⟩) hHeld ?_
      simp only [Act.put, List.setIfInBounds_toArray, List.set_cons_zero, List.set_cons_succ, List.getElem_cons_zero, List.getElem_cons_succ, List.getElem_toArray]
      refine wpAnyH_take (i := 21) (v := undef) rfl (by kernel_rfl) (by kernel_rfl) (by kernel_rfl) (fun _ _ _ h => h) (Or.inr ⟨by rfl, rfl⟩) hHeld ?_
      simp only [Act.put, List.setIfInBounds_toArray, List.set_cons_zero, List.set_cons_succ, List.getElem_cons_zero, List.getElem_cons_succ, List.getElem_toArray]
      refine wpAnyH_take (i := 22) (v := .bool false) rfl (by kernel_rfl) (by kernel_rfl) (by kernel_rfl) (fun _ _ _ h => h) (Or.inl ⟨by rfl, fun w' hSw => by (go_simp)⟩) hHeld ?_
      simp only [Act.put, List.setIfInBounds_toArray, List.set_cons_zero, List.set_cons_succ, List.getElem_cons_zero, List.getElem_cons_succ, List.getElem_toArray]
      refine wpAnyH_take (i := 23) (v := .bool false) rfl (by kernel_rfl) (by kernel_rfl) (by kernel_rfl) (fun _ _ _ h => h) (Or.inl ⟨by rfl, fun w' hSw => by (go_simp)⟩) hHeld ?_
      simp only [Act.put, List.setIfInBounds_toArray, List.set_cons_zero, List.set_cons_succ, List.getElem_cons_zero, List.getElem_cons_succ, List.getElem_toArray]
      refine wpAnyH_done (by kernel_rfl) ?_ _
      clear hHeld
      go_wp2_with fail
      go_ret
      exact ⟨ret_bool HR2.out, HX3.out.2.2⟩
    · have HR2 : Hid (bu = R) := by rw [← HR.out, HC.out]; cases bu <;> rfl
      refine wpAnyH_take (i := 10) (v := .bool true) rfl (by kernel_rfl) (by kernel_rfl) (by kernel_rfl) (fun _ _ _ h => h) (Or.inl ⟨by rfl, fun w' hSw => by (go_simp)⟩) hHeld ?_
      simp only [Act.put, List.setIfInBounds_toArray, List.set_cons_zero, List.set_cons_succ, List.getElem_cons_zero, List.getElem_cons_succ, List.getElem_toArray]
      refine wpAnyH_take (i := 11) (v := .bool true) rfl (by kernel_rfl) (by kernel_rfl) (by kernel_rfl) (fun _ _ _ h => h) (Or.inl ⟨by rfl, fun w' hSw => by (go_simp)⟩) hHeld ?_
      simp only [Act.put, List.setIfInBounds_toArray, List.set_cons_zero, List.set_cons_succ, List.getElem_cons_zero, List.getElem_cons_succ, List.getElem_toArray]
      refine wpAnyH_take (i := 12) (v := .agg #[.int .i64 E, .slice a2 n c2, .int .i64 st]) rfl (by kernel_rfl) (by kernel_rfl) (by kernel_rfl) (fun _ _ _ h => h) (Or.inl ⟨by rfl, fun w' hSw => by (have y0 := hSw.1.c 0 _ rfl; have y1 := hSw.1.c 1 _ rfl; have y2 := hSw.1.c 2 _ rfl; have yl := hSw.1.lt; go_simp)⟩) hHeld ?_
      simp only [Act.put, List.setIfInBounds_toArray, List.set_cons_zero, List.set_cons_succ, List.getElem_cons_zero, List.getElem_cons_succ, List.getElem_toArray]
      refine wpAnyH_take (i := 13) (v := .pointer (some ⟨bb, 0, none⟩)) rfl (by kernel_rfl) (by kernel_rfl) (by kernel_rfl) (fun _ _ _ h => h) (Or.inl ⟨by rfl, fun w' hSw => by (go_simp)⟩) hHeld ?_
      simp only [Act.put, List.setIfInBounds_toArray, List.set_cons_zero, List.set_cons_succ, List.getElem_cons_zero, List.getElem_cons_succ, List.getElem_toArray]
      refine wpAnyH_take (i := 14) (v := .pointer (some ⟨bb, 0, none⟩)) rfl (by kernel_rfl) (by kernel_rfl) (by kernel_rfl) (fun _ _ _ h => h) (Or.inl ⟨by rfl, fun w' hSw => by (go_simp)⟩) hHeld ?_
      simp only [Act.put, List.setIfInBounds_toArray, List.set_cons_zero, List.set_cons_succ, List.getElem_cons_zero, List.getElem_cons_succ, List.getElem_toArray]
      refine wpAnyH_take (i := 15) (v := .pointer (some ⟨bb, 0, none⟩)) rfl (by kernel_rfl) (by kernel_rfl) (by kernel_rfl) (fun _ _ _ h => h) (Or.inl ⟨by rfl, fun w' hSw => by (go_simp)⟩) hHeld ?_
      simp only [Act.put, List.setIfInBounds_toArray, List.set_cons_zero, List.set_cons_succ, List.getElem_cons_zero, List.getElem_cons_succ, List.getElem_toArray]
      refine wpAnyH_take (i := 16) (v := .slice ao n cap) rfl (by kernel_rfl) (by kernel_rfl) (by kernel_rfl) (fun _ _ _ h => h) (Or.inl ⟨by rfl, fun w' hSw => by (have y0 := hSw.2.c 0 _ rfl; have yl := hSw.2.lt; go_simp)⟩) hHeld ?_
      simp only [Act.put, List.setIfInBounds_toArray, List.set_cons_zero, List.set_cons_succ, List.getElem_cons_zero, List.getElem_cons_succ, List.getElem_toArray]
      refine wpAnyH_take (i := 17) (v := .pointer (some ⟨bb, 0, none⟩)) rfl (by kernel_rfl) (by kernel_rfl) (by kernel_rfl) (fun _ _ _ h => h) (Or.inl ⟨by rfl, fun w' hSw => by (go_simp)⟩) hHeld ?_
      simp only [Act.put, List.setIfInBounds_toArray, List.set_cons_zero, List.set_cons_succ, List.getElem_cons_zero, List.getElem_cons_succ, List.getElem_toArray]
      refine wpAnyH_take (i := 18) (v := .pointer (some ⟨bb, 0, none⟩)) rfl (by kernel_rfl) (by kernel_rfl) (by kernel_rfl) (fun _ _ _ h => h) (Or.inl ⟨by rfl, fun w' hSw => by (go_simp)⟩) hHeld ?_
      simp only [Act.put, List.setIfInBounds_toArray, List.set_cons_zero, List.set_cons_succ, List.getElem_cons_zero, List.getElem_cons_succ, List.getElem_toArray]
      refine wpAnyH_take (i := 19) (v := .pointer (some ⟨bb, 1, none⟩)) rfl (by kernel_rfl) (by kernel_rfl) (by kernel_rfl) (fun _ _ _ h => h) (Or.inl ⟨by rfl, fun w' hSw => by (go_simp)⟩) hHeld ?_
      simp only [Act.put, List.setIfInBounds_toArray, List.set_cons_zero, List.set_cons_succ, List.getElem_cons_zero, List.getElem_cons_succ, List.getElem_toArray]
      refine wpAnyH_take (i := 20) (v := .agg #[.int .i64 (t.u 0), .int .i64 (t.u 1), .int .i64 (t.u 2), .int .i64 (t.u 3), .int .i64 (t.l 0), .int .i64 (t.l 1), .int .i64 (t.l 2), .int .i64 (t.l 3), .int .i64 (t.b 0), .int .i64 (t.b 1), .int .i64 (t.b 2), .int .i64 (t.b 3), .int .i64 t.d]) rfl (by kernel_rfl) (by kernel_rfl) (by kernel_rfl) (fun _ _ _ h => h) (Or.inl ⟨by rfl, fun w' hSw => by (have y1 := hSw.2.c 1 _ rfl; have y2 := hSw.2.c 2 _ rfl; have y3 := hSw.2.c 3 _ rfl; have y4 := hSw.2.c 4 _ rfl; have y5 := hSw.2.c 5 _ rfl; have y6 := hSw.2.c 6 _ rfl; have y7 := hSw.2.c 7 _ rfl; have y8 := hSw.2.c 8 _ rfl; have y9 := hSw.2.c 9 _ rfl; have y10 := hSw.2.c 10 _ rfl; have y11 := hSw.2.c 11 _ rfl; have y12 := hSw.2.c 12 _ rfl; have y13 := hSw.2.c 13 _ rfl; have yl := hSw.2.lt; go_simp)⟩) hHeld ?_
      simp only [Act.put, List.setIfInBounds_toArray, List.set_cons_zero, List.set_cons_succ, List.getElem_cons_zero, List.getElem_cons_succ, List.getElem_toArray]
      refine wpAnyH_ready (rs := [21]) (by kernel_rfl) (by simp) ?_
      refine AllReadyH.cons rfl (fun K hK => ?_) AllReadyH.nil
      go_simp
      refine Calls.mono (HKu.out _ HX3.out.2.2) ?_
      rintro e w4 ⟨rfl, b4⟩
      have HX4 : Hid (At w4 w.heap.size #[.int .i64 E, .slice a2 n c2, .int .i64 st] ∧ At w4 bb (boC ao n cap t ea M ec a cc D) ∧ Below w.heap.size w w4) := ⟨HX3.out.1.below b4 HX3.out.1.lt, HX3.out.2.1.below b4 HX3.out.2.1.lt, HX3.out.2.2.trans (b4.mono HX3.out.2.2.size)⟩
      clear b4 HKu HX3
      refine hK.out _ _ ⟨HX4.out.1, HX4.out.2.1⟩ (fun hHeld => ?_)
      clear hK K
      refine wpAnyH_take (i := 22) (v := .bool bu) rfl (by kernel_rfl) (by kernel_rfl) (by kernel_rfl) (fun _ _ _ h => h) (Or.inl ⟨by rfl, fun w' hSw => by (go_simp)⟩) hHeld ?_
      simp only [Act.put, List.setIfInBounds_toArray, List.set_cons_zero, List.set_cons_succ, List.getElem_cons_zero, List.getElem_cons_succ, List.getElem_toArray]
      refine wpAnyH_take (i := 23) (v := .bool bu) rfl (by kernel_rfl) (by kernel_rfl) (by kernel_rfl) (fun _ _ _ h => h) (Or.inl ⟨by rfl, fun w' hSw => by (go_simp)⟩) hHeld ?_
      simp only [Act.put, List.setIfInBounds_toArray, List.set_cons_zero, List.set_cons_succ, List.getElem_cons_zero, List.getElem_cons_succ, List.getElem_toArray]
      refine wpAnyH_done (by kernel_rfl) ?_ _
      clear hHeld
      go_wp2_with fail
      go_ret
      exact ⟨ret_bool HR2.out, HX4.out.2.2⟩
  · have c1d : decide (st ≤ 31) = false := decide_eq_false c1
    have HR2 : Hid (false = R) := by rw [← HR.out, c1d]; rfl
    refine wpAnyH_take (i := 2) (v := .bool false) rfl (by kernel_rfl) (by kernel_rfl) (by kernel_rfl) (fun _ _ _ h => h) (Or.inl ⟨by rfl, fun w' hSw => by (go_simp)⟩) hHeld ?_
    simp only [Act.put, List.setIfInBounds_toArray, List.set_cons_zero, List.set_cons_succ, List.getElem_cons_zero, List.getElem_cons_succ, List.getElem_toArray]
    refine wpAnyH_take (i := 3) (v := .bool false) rfl (by kernel_rfl) (by kernel_rfl) (by kernel_rfl) (fun _ _ _ h => h) (Or.inl ⟨by rfl, fun w' hSw => by (go_simp)⟩) hHeld ?_
    simp only [Act.put, List.setIfInBounds_toArray, List.set_cons_zero, List.set_cons_succ, List.getElem_cons_zero, List.getElem_cons_succ, List.getElem_toArray]
    refine wpAnyH_take (i := 4) (v := undef) rfl (by kernel_rfl) (by kernel_rfl) (by kernel_rfl) (fun _ _ _ h => h) (Or.inr ⟨by rfl, rfl⟩) hHeld ?_
    simp only [Act.put, List.setIfInBounds_toArray, List.set_cons_zero, List.set_cons_succ, List.getElem_cons_zero, List.getElem_cons_succ, List.getElem_toArray]
    refine wpAnyH_take (i := 5) (v := undef) rfl (by kernel_rfl) (by kernel_rfl) (by kernel_rfl) (fun _ _ _ h => h) (Or.inr ⟨by rfl, rfl⟩) hHeld ?_
    simp only [Act.put, List.setIfInBounds_toArray, List.set_cons_zero, List.set_cons_succ, List.getElem_cons_zero, List.getElem_cons_succ, List.getElem_toArray]
    refine wpAnyH_take (i := 6) (v := undef) rfl (by kernel_rfl) (by kernel_rfl) (by kernel_rfl) (fun _ _ _ h => h) (Or.inr ⟨by rfl, rfl⟩) hHeld ?_
    simp only [Act.put, List.setIfInBounds_toArray, List.set_cons_zero, List.set_cons_succ, List.getElem_cons_zero, List.getElem_cons_succ, List.getElem_toArray]
    refine wpAnyH_take (i := 7) (v := undef) rfl (by kernel_rfl) (by kernel_rfl) (by kernel_rfl) (fun _ _ _ h => h) (Or.inr ⟨by rfl, rfl⟩) hHeld ?_
    simp only [Act.put, List.setIfInBounds_toArray, List.set_cons_zero, List.set_cons_succ, List.getElem_cons_zero, List.getElem_cons_succ, List.getElem_toArray]
    refine wpAnyH_take (i := 8) (v := undef) rfl (by kernel_rfl) (by kernel_rfl) (by kernel_rfl) (fun _ _ _ h => h) (Or.inr ⟨by rfl, rfl⟩) hHeld ?_
    simp only [Act.put, List.setIfInBounds_toArray, List.set_cons_zero, List.set_cons_succ, List.getElem_cons_zero, List.getElem_cons_succ, List.getElem_toArray]
    refine wpAnyH_take (i := 9) (v := undef) rfl (by kernel_rfl) (by kernel_rfl) (by kernel_rfl) (fun _ _ _ h => h) (Or.inr ⟨by rfl, rfl⟩) hHeld ?_
    simp only [Act.put, List.setIfInBounds_toArray, List.set_cons_zero, List.set_cons_succ, List.getElem_cons_zero, List.getElem_cons_succ, List.getElem_toArray]
    refine wpAnyH_take (i := 10) (v := .bool false) rfl (by kernel_rfl) (by kernel_rfl) (by kernel_rfl) (fun _ _ _ h => h) (Or.inl ⟨by rfl, fun w' hSw => by (go_simp)⟩) hHeld ?_
    simp only [Act.put, List.setIfInBounds_toArray, List.set_cons_zero, List.set_cons_succ, List.getElem_cons_zero, List.getElem_cons_succ, List.getElem_toArray]
    refine wpAnyH_take (i := 11) (v := .bool false) rfl (by kernel_rfl) (by kernel_rfl) (by kernel_rfl) (fun _ _ _ h => h) (Or.inl ⟨by rfl, fun w' hSw => by (go_simp)⟩) hHeld ?_
    simp only [Act.put, List.setIfInBounds_toArray, List.set_cons_zero, List.set_cons_succ, List.getElem_cons_zero, List.getElem_cons_succ, List.getElem_toArray]
    refine wpAnyH_take (i := 12) (v := undef) rfl (by kernel_rfl) (by kernel_rfl) (by kernel_rfl) (fun _ _ _ h => h) (Or.inr ⟨by rfl, rfl⟩) hHeld ?_
    simp only [Act.put, List.setIfInBounds_toArray, List.set_cons_zero, List.set_cons_succ, List.getElem_cons_zero, List.getElem_cons_succ, List.getElem_toArray]
    refine wpAnyH_take (i := 13) (v := undef) rfl (by kernel_rfl) (by kernel_rfl) (by kernel_rfl) (fun _ _ _ h => h) (Or.inr ⟨by rfl, rfl⟩) hHeld ?_
    simp only [Act.put, List.setIfInBounds_toArray, List.set_cons_zero, List.set_cons_succ, List.getElem_cons_zero, List.getElem_cons_succ, List.getElem_toArray]
    refine wpAnyH_take (i := 14) (v := undef) rfl (by kernel_rfl) (by kernel_rfl) (by kernel_rfl) (fun _ _ _ h => h) (Or.inr ⟨by rfl, rfl⟩) hHeld ?_
    simp only [Act.put, List.setIfInBounds_toArray, List.set_cons_zero, List.set_cons_succ, List.getElem_cons_zero, List.getElem_cons_succ, List.getElem_toArray]
    refine wpAnyH_take (i := 15) (v := undef) rfl (by kernel_rfl) (by kernel_rfl) (by kernel_rfl) (fun _ _ _ h => h) (Or.inr ⟨by rfl, rfl⟩) hHeld ?_
    simp only [Act.put, List.setIfInBounds_toArray, List.set_cons_zero, List.set_cons_succ, List.getElem_cons_zero, List.getElem_cons_succ, List.getElem_toArray]
    refine wpAnyH_take (i := 16) (v := undef) rfl (by kernel_rfl) (by kernel_rfl) (by kernel_rfl) (fun _ _ _ h => h) (Or.inr ⟨by rfl, rfl⟩) hHeld ?_
    simp only [Act.put, List.setIfInBounds_toArray, List.set_cons_zero, List.set_cons_succ, List.getElem_cons_zero, List.getElem_cons_succ, List.getElem_toArray]
    refine wpAnyH_take (i := 17) (v := undef) rfl (by kernel_rfl) (by kernel_rfl) (by kernel_rfl) (fun _ _ _ h => h) (Or.inr ⟨by rfl, rfl⟩) hHeld ?_
    simp only [Act.put, List.setIfInBounds_toArray, List.set_cons_zero, List.set_cons_succ, List.getElem_cons_zero, List.getElem_cons_succ, List.getElem_toArray]
    refine wpAnyH_take (i := 18) (v := undef) rfl (by kernel_rfl) (by kernel_rfl) (by kernel_rfl) (fun _ _ _ h => h) (Or.inr ⟨by rfl, rfl⟩) hHeld ?_
    simp only [Act.put, List.setIfInBounds_toArray, List.set_cons_zero, List.set_cons_succ, List.getElem_cons_zero, List.getElem_cons_succ, List.getElem_toArray]
    refine wpAnyH_take (i := 19) (v := undef) rfl (by kernel_rfl) (by kernel_rfl) (by kernel_rfl) (fun _ _ _ h => h) (Or.inr ⟨by rfl, rfl⟩) hHeld ?_
    simp only [Act.put, List.setIfInBounds_toArray, List.set_cons_zero, List.set_cons_succ, List.getElem_cons_zero, List.getElem_cons_succ, List.getElem_toArray]
    refine wpAnyH_take (i := 20) (v := undef) rfl (by kernel_rfl) (by kernel_rfl) (by kernel_rfl) (fun _ _ _ h => h) (Or.inr ⟨by rfl, rfl⟩) hHeld ?_
    simp only [Act.put, List.setIfInBounds_toArray, List.set_cons_zero, List.set_cons_succ, List.getElem_cons_zero, List.getElem_cons_succ, List.getElem_toArray]
    refine wpAnyH_take (i := 21) (v := undef) rfl (by kernel_rfl) (by kernel_rfl) (by kernel_rfl) (fun _ _ _ h => h) (Or.inr ⟨by rfl, rfl⟩) hHeld ?_
    simp only [Act.put, List.setIfInBounds_toArray, List.set_cons_zero, List.set_cons_succ, List.getElem_cons_zero, List.getElem_cons_succ, List.getElem_toArray]
    refine wpAnyH_take (i := 22) (v := .bool false) rfl (by kernel_rfl) (by kernel_rfl) (by kernel_rfl) (fun _ _ _ h => h) (Or.inl ⟨by rfl, fun w' hSw => by (go_simp)⟩) hHeld ?_
    simp only [Act.put, List.setIfInBounds_toArray, List.set_cons_zero, List.set_cons_succ, List.getElem_cons_zero, List.getElem_cons_succ, List.getElem_toArray]
    refine wpAnyH_take (i := 23) (v := .bool false) rfl (by kernel_rfl) (by kernel_rfl) (by kernel_rfl) (fun _ _ _ h => h) (Or.inl ⟨by rfl, fun w' hSw => by (go_simp)⟩) hHeld ?_
    simp only [Act.put, List.setIfInBounds_toArray, List.set_cons_zero, List.set_cons_succ, List.getElem_cons_zero, List.getElem_cons_succ, List.getElem_toArray]
    refine wpAnyH_done (by kernel_rfl) ?_ _
    clear hHeld
    go_wp2_with fail
    go_ret
    exact ⟨ret_bool HR2.out, HX.out.2.2⟩
set_option maxHeartbeats 4000000 in
theorem try1_any (b1 b2 bb : Nat) (ao : Option Addr) (cap : Nat) (xs : List O) (t : Tab) (ea : Option Addr) (ec : Nat) (a : Option Addr) (cc : Nat) (g : Nat → Int) (D E : Int) (w : World) (h : Bo w bb ao cap xs t ea ec a cc g D) (ok : BoOk xs t g D) (hb1 : At w b1 #[.pointer (some ⟨bb, 0, none⟩)]) (hb2 : At w b2 #[.int .i64 E]) (hE : 1 + t.d ≤ E) (hE2 : E ≤ 65536) :
    Calls Tryz.prog 105 #[.pointer (some ⟨b1, 0, none⟩), .pointer (some ⟨b2, 0, none⟩)] w fun e w' => e = .returned (.tuple #[.slice a xs.length cc, .bool (kgB t xs g E)]) ∧ Below w.heap.size w w' := by
  obtain ⟨ht, hn64, -, -⟩ := rg_ok ok.e
  have hd := (tab_in ht).1
  have HPl : Hid (∀ W, Below w.heap.size w W → Calls Tryz.prog 61 #[.slice a xs.length cc, .int .i64 E] W fun e w' => e = .returned (.agg #[.int .i64 E, .slice a xs.length cc, .int .i64 (stg xs.length g E)]) ∧ Below W.heap.size W w') := fun W hb => planOf_any a xs.length cc g E W (h.c.up hb) (by omega) ok.g (by omega) hE2
  have HKp : Hid (∀ W, Below w.heap.size w W → Calls Tryz.prog 106 #[.pointer (some ⟨bb, 0, none⟩), .agg #[.int .i64 E, .slice a xs.length cc, .int .i64 (stg xs.length g E)]] W fun e w' => e = .returned (.bool (kgB t xs g E)) ∧ Below W.heap.size W w') := fun W hb => keeps_any bb ao cap xs t ea ec a cc g D a cc g E W (h.up hb) ok (h.c.up hb) ok.g hE hE2
  have HX : Hid (At w.drew b1 #[.pointer (some ⟨bb, 0, none⟩)] ∧ At w.drew b2 #[.int .i64 E] ∧ At w.drew bb (boC ao xs.length cap t ea (loopE t xs).length ec a cc D)) := ⟨hb1.below (drew_up _) hb1.lt, hb2.below (drew_up _) hb2.lt, h.at'.below (drew_up _) h.at'.lt⟩
  clear h ok hb1 hb2 ht hE
  generalize kgB t xs g E = r at *
  generalize stg xs.length g E = st at *
  generalize (loopE t xs).length = M at *
  generalize xs.length = n at *
  go_enter Tryz.func105, Tryz.ntmps105
  go_upto_region 1 with fail
  refine wp_region_held_drew (S := fun Z => At Z b1 #[.pointer (some ⟨bb, 0, none⟩)] ∧ At Z b2 #[.int .i64 E] ∧ At Z bb (boC ao n cap t ea M ec a cc D)) (by kernel_rfl) HX.out (fun hHeld => ?_)
  refine wpAnyH_take (i := 0) (v := .pointer (some ⟨bb, 0, none⟩)) rfl (by kernel_rfl) (by kernel_rfl) (by kernel_rfl) (fun _ _ _ h => h) (Or.inl ⟨by rfl, fun w' hSw => by (have y0 := hSw.1.c 0 _ rfl; have yl := hSw.1.lt; go_simp)⟩) hHeld ?_
  simp only [Act.put, List.setIfInBounds_toArray, List.set_cons_zero, List.set_cons_succ, List.getElem_cons_zero, List.getElem_toArray]
  refine wpAnyH_take (i := 1) (v := .pointer (some ⟨bb, 0, none⟩)) rfl (by kernel_rfl) (by kernel_rfl) (by kernel_rfl) (fun _ _ _ h => h) (Or.inl ⟨by rfl, fun w' hSw => by (go_simp)⟩) hHeld ?_
  simp only [Act.put, List.setIfInBounds_toArray, List.set_cons_zero, List.set_cons_succ, List.getElem_cons_zero, List.getElem_cons_succ, List.getElem_toArray]
  refine wpAnyH_take (i := 2) (v := .pointer (some ⟨bb, 15, none⟩)) rfl (by kernel_rfl) (by kernel_rfl) (by kernel_rfl) (fun _ _ _ h => h) (Or.inl ⟨by rfl, fun w' hSw => by (go_simp)⟩) hHeld ?_
  simp only [Act.put, List.setIfInBounds_toArray, List.set_cons_zero, List.set_cons_succ, List.getElem_cons_zero, List.getElem_cons_succ, List.getElem_toArray]
  refine wpAnyH_take (i := 3) (v := .slice a n cc) rfl (by kernel_rfl) (by kernel_rfl) (by kernel_rfl) (fun _ _ _ h => h) (Or.inl ⟨by rfl, fun w' hSw => by (have y0 := hSw.2.2.c 15 _ rfl; have yl := hSw.2.2.lt; go_simp)⟩) hHeld ?_
  simp only [Act.put, List.setIfInBounds_toArray, List.set_cons_zero, List.set_cons_succ, List.getElem_cons_zero, List.getElem_cons_succ, List.getElem_toArray]
  refine wpAnyH_take (i := 4) (v := .pointer (some ⟨bb, 0, none⟩)) rfl (by kernel_rfl) (by kernel_rfl) (by kernel_rfl) (fun _ _ _ h => h) (Or.inl ⟨by rfl, fun w' hSw => by (have y0 := hSw.1.c 0 _ rfl; have yl := hSw.1.lt; go_simp)⟩) hHeld ?_
  simp only [Act.put, List.setIfInBounds_toArray, List.set_cons_zero, List.set_cons_succ, List.getElem_cons_zero, List.getElem_cons_succ, List.getElem_toArray]
  refine wpAnyH_take (i := 5) (v := .pointer (some ⟨bb, 0, none⟩)) rfl (by kernel_rfl) (by kernel_rfl) (by kernel_rfl) (fun _ _ _ h => h) (Or.inl ⟨by rfl, fun w' hSw => by (have y0 := hSw.1.c 0 _ rfl; have yl := hSw.1.lt; go_simp)⟩) hHeld ?_
  simp only [Act.put, List.setIfInBounds_toArray, List.set_cons_zero, List.set_cons_succ, List.getElem_cons_zero, List.getElem_cons_succ, List.getElem_toArray]
  refine wpAnyH_take (i := 6) (v := .pointer (some ⟨bb, 0, none⟩)) rfl (by kernel_rfl) (by kernel_rfl) (by kernel_rfl) (fun _ _ _ h => h) (Or.inl ⟨by rfl, fun w' hSw => by (go_simp)⟩) hHeld ?_
  simp only [Act.put, List.setIfInBounds_toArray, List.set_cons_zero, List.set_cons_succ, List.getElem_cons_zero, List.getElem_cons_succ, List.getElem_toArray]
  refine wpAnyH_take (i := 7) (v := .pointer (some ⟨bb, 15, none⟩)) rfl (by kernel_rfl) (by kernel_rfl) (by kernel_rfl) (fun _ _ _ h => h) (Or.inl ⟨by rfl, fun w' hSw => by (go_simp)⟩) hHeld ?_
  simp only [Act.put, List.setIfInBounds_toArray, List.set_cons_zero, List.set_cons_succ, List.getElem_cons_zero, List.getElem_cons_succ, List.getElem_toArray]
  refine wpAnyH_take (i := 8) (v := .slice a n cc) rfl (by kernel_rfl) (by kernel_rfl) (by kernel_rfl) (fun _ _ _ h => h) (Or.inl ⟨by rfl, fun w' hSw => by (have y0 := hSw.2.2.c 15 _ rfl; have yl := hSw.2.2.lt; go_simp)⟩) hHeld ?_
  simp only [Act.put, List.setIfInBounds_toArray, List.set_cons_zero, List.set_cons_succ, List.getElem_cons_zero, List.getElem_cons_succ, List.getElem_toArray]
  refine wpAnyH_take (i := 9) (v := .int .i64 E) rfl (by kernel_rfl) (by kernel_rfl) (by kernel_rfl) (fun _ _ _ h => h) (Or.inl ⟨by rfl, fun w' hSw => by (have y0 := hSw.2.1.c 0 _ rfl; have yl := hSw.2.1.lt; go_simp)⟩) hHeld ?_
  simp only [Act.put, List.setIfInBounds_toArray, List.set_cons_zero, List.set_cons_succ, List.getElem_cons_zero, List.getElem_cons_succ, List.getElem_toArray]
  refine wpAnyH_ready (rs := [10]) (by kernel_rfl) (by simp) ?_
  refine AllReadyH.cons rfl (fun K hK => ?_) AllReadyH.nil
  go_simp
  refine Calls.mono (HPl.out _ (drew_up _)) ?_
  rintro e w3 ⟨rfl, b3⟩
  have HX3 : Hid (At w3 b1 #[.pointer (some ⟨bb, 0, none⟩)] ∧ At w3 b2 #[.int .i64 E] ∧ At w3 bb (boC ao n cap t ea M ec a cc D) ∧ Below w.heap.size w w3) := ⟨HX.out.1.below b3 HX.out.1.lt, HX.out.2.1.below b3 HX.out.2.1.lt, HX.out.2.2.below b3 HX.out.2.2.lt, (drew_up w).trans (b3.mono (Nat.le_refl _))⟩
  clear b3 HPl HX
  refine hK.out _ _ ⟨HX3.out.1, HX3.out.2.1, HX3.out.2.2.1⟩ (fun hHeld => ?_)
  clear hK K
  refine wpAnyH_ready (rs := [11]) (by kernel_rfl) (by simp) ?_
  refine AllReadyH.cons rfl (fun K hK => ?_) AllReadyH.nil
  go_simp
  refine Calls.mono (HKp.out _ HX3.out.2.2.2) ?_
  rintro e w4 ⟨rfl, b4⟩
  have HX4 : Hid (At w4 b1 #[.pointer (some ⟨bb, 0, none⟩)] ∧ At w4 b2 #[.int .i64 E] ∧ At w4 bb (boC ao n cap t ea M ec a cc D) ∧ Below w.heap.size w w4) := ⟨HX3.out.1.below b4 HX3.out.1.lt, HX3.out.2.1.below b4 HX3.out.2.1.lt, HX3.out.2.2.1.below b4 HX3.out.2.2.1.lt, HX3.out.2.2.2.trans (b4.mono HX3.out.2.2.2.size)⟩
  clear b4 HKp HX3
  refine hK.out _ _ ⟨HX4.out.1, HX4.out.2.1, HX4.out.2.2.1⟩ (fun hHeld => ?_)
  clear hK K
  refine wpAnyH_take (i := 12) (v := .slice a n cc) rfl (by kernel_rfl) (by kernel_rfl) (by kernel_rfl) (fun _ _ _ h => h) (Or.inl ⟨by rfl, fun w' hSw => by (go_simp)⟩) hHeld ?_
  simp only [Act.put, List.setIfInBounds_toArray, List.set_cons_zero, List.set_cons_succ, List.getElem_cons_zero, List.getElem_cons_succ, List.getElem_toArray]
  refine wpAnyH_take (i := 13) (v := .bool r) rfl (by kernel_rfl) (by kernel_rfl) (by kernel_rfl) (fun _ _ _ h => h) (Or.inl ⟨by rfl, fun w' hSw => by (go_simp)⟩) hHeld ?_
  simp only [Act.put, List.setIfInBounds_toArray, List.set_cons_zero, List.set_cons_succ, List.getElem_cons_zero, List.getElem_cons_succ, List.getElem_toArray]
  refine wpAnyH_done (by kernel_rfl) ?_ _
  clear hHeld
  go_wp2_with fail
  go_ret2
  exact ⟨rfl, HX4.out.2.2.2⟩
end Go.Proofs.YteccifanbgcakaaGreatDoor.Mo
