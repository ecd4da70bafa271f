/- Package modulo: a body with what is told of it (newBody), read off the program by the walk. Conditions: the lists lie in memory, the variables as the program lays them. -/
import Derived.Test.YteccifanbgcakaaGreatDoorN35
import Derived.Test.YteccifanbgcakaaGreatDoorN23
import Derived.Test.YteccifanbgcakaaGreatDoorN32
namespace Go.Proofs.YteccifanbgcakaaGreatDoor.Mo
open Go.ChangeShapes Go.WideShapes Go.ChangeAt Go.RowKit
open _root_.Go.Proofs.YteccifanbgcakaaGreatDoor.Op _root_.Go.Proofs.YteccifanbgcakaaGreatDoor.So _root_.Go.Proofs.YteccifanbgcakaaGreatDoor.Dp _root_.Go.Proofs.YteccifanbgcakaaGreatDoor.Bn
open _root_.Go.Proofs.YteccifanbgcakaaGreatDoor.Ls (clN clN_at clN_lt Nl arC arC_all arC_yes arC_no areCycles_any)
open _root_.Go.Proofs.YteccifanbgcakaaGreatDoor.Rv (RAt Few frB tkF tk_few take_any evOk NwOut ring_ok tn addK)
open _root_.Go.Proofs.YteccifanbgcakaaGreatDoor.Tb (Tab TabAt Bnds)
set_option maxRecDepth 20000

open _root_.Go.Proofs.YteccifanbgcakaaGreatDoor.Ls (atFr atSet)
/-- The drained length, of the first k operations. -/
def drn (t : Tab) (xs : List O) (g : Nat → Int) : Nat → Int
  | 0 => max (1 + t.d) (t.b 3)
  | k + 1 => max (drn t xs g k) (g k + max (t.l (clN xs k)) (t.b (clN xs k)))
theorem drn_ge (t : Tab) (xs : List O) (g : Nat → Int) : ∀ k, 1 + t.d ≤ drn t xs g k ∧ t.b 3 ≤ drn t xs g k
  | 0 => by unfold drn; omega
  | k + 1 => by have := drn_ge t xs g k; unfold drn; omega
theorem drn_le {t : Tab} {xs : List O} {g : Nat → Int} (ht : t.ok = true) {m : Int} (hm : 5 ≤ m) : ∀ {n : Nat}, (∀ k, k < n → g k + 8 ≤ m) → drn t xs g n ≤ m
  | 0, _ => by
    have h1 := (tab_in ht).1
    have h2 := ((tab_in ht).2 3 (by omega)).2.2
    unfold drn; omega
  | n + 1, h => by
    have h1 := drn_le ht hm (n := n) (xs := xs) fun k hk => h k (by omega)
    have h2 := h n (by omega)
    have h3 := (tab_in ht).2 _ (clN_lt xs n)
    unfold drn; omega
/-- A body in memory. -/
abbrev boC (ao : Option Addr) (n cap : Nat) (t : Tab) (ea : Option Addr) (M ec : Nat) (a : Option Addr) (cc : Nat) (D : Int) : Array Value := #[.slice ao n cap, .int .i64 (t.u 0), .int .i64 (t.u 1), .int .i64 (t.u 2), .int .i64 (t.u 3), .int .i64 (t.l 0), .int .i64 (t.l 1), .int .i64 (t.l 2), .int .i64 (t.l 3), .int .i64 (t.b 0), .int .i64 (t.b 1), .int .i64 (t.b 2), .int .i64 (t.b 3), .int .i64 t.d, .slice ea M ec, .slice a n cc, .int .i64 D]
structure Nbd (w W : World) (t : Tab) (ao : Option Addr) (n cap : Nat) (ea : Option Addr) (M ec : Nat) (a : Option Addr) (cc : Nat) (es : List Ed) (bb : Nat) (D : Int) : Prop where
  at' : At W bb (boC ao n cap t ea M ec a cc D)
  t : TabAt W w.heap.size t
  up : Below w.heap.size w W
  b0 : w.heap.size < bb
  eo : EOwn w.heap.size W ea ec es
  em : es.length = M
  en : ∀ b, (Value.slice ea es.length ec).ownBlock = some b → b < bb
theorem Nbd.next {w W W' : World} {t : Tab} {ao : Option Addr} {n cap : Nat} {ea : Option Addr} {M ec : Nat} {a : Option Addr} {cc : Nat} {es : List Ed} {bb : Nat} {D : Int} (h : Nbd w W t ao n cap ea M ec a cc es bb D) (g : Below W.heap.size W W') : Nbd w W' t ao n cap ea M ec a cc es bb D := ⟨h.at'.below g h.at'.lt, h.t.below g h.t.lt, h.up.trans (g.mono h.up.size), h.b0, h.eo.up g, h.em, h.en⟩
theorem Nbd.set {w W : World} {t : Tab} {ao : Option Addr} {n cap : Nat} {ea : Option Addr} {M ec : Nat} {a : Option Addr} {cc : Nat} {es : List Ed} {bb : Nat} {D : Int} (h : Nbd w W t ao n cap ea M ec a cc es bb D) (D' : Int) : Nbd w (W.setCell ⟨bb, 16, none⟩ (.int .i64 D')) t ao n cap ea M ec a cc es bb D' := by
  have g : Fr (One bb) W (W.setCell ⟨bb, 16, none⟩ (.int .i64 D')) := (Fr.refl (One bb) W).setCell (.inr rfl) _ _
  have h0 := h.b0
  have hz := h.at'.lt
  have hb : Below bb W (W.setCell ⟨bb, 16, none⟩ (.int .i64 D')) := g.below (by omega) fun k hk e => by have e : k = bb := e; omega
  exact ⟨atSet h.at' (j := 16) (show 16 < 17 by omega) _, h.t.below hb h0, h.up.trans (hb.mono (by omega)), h0, row_fr h.eo g fun k hk e => by have e : k = bb := e; have := h.en k hk; omega, h.em, h.en⟩
theorem nbd_start {w W : World} {t : Tab} {ao : Option Addr} {n cap : Nat} {ea : Option Addr} {M ec : Nat} {a : Option Addr} {cc : Nat} {es : List Ed} {D : Int} (ht : TabAt W w.heap.size t) (hu : Below w.heap.size w W) (he : EOwn w.heap.size W ea ec es) (hM : es.length = M) : Nbd w (W.alloc (.cells (boC ao n cap t ea M ec a cc D) 92)) t ao n cap ea M ec a cc es W.heap.size D := by
  have g : Below W.heap.size W (W.alloc (.cells (boC ao n cap t ea M ec a cc D) 92)) := (Below.refl _ _).alloc (Nat.le_refl _) _
  have := ht.lt
  exact ⟨At.new _ _ _, ht.below g ht.lt, hu.trans (g.mono hu.size), ht.lt, he.up g, hM, fun b hb => ((show W.ownsRow w.heap.size 51 5 _ _ _ from he).lt b hb).2⟩
set_option maxHeartbeats 8000000 in
theorem newBody_any (a ao : Option Addr) (cap cc : Nat) (xs : List O) (t : Tab) (g : Nat → Int) (w : World) (hg : Nl w a xs.length g) (hr : ∀ k, k < xs.length → 0 ≤ g k ∧ g k ≤ 65536) (h : OpsAt w ao xs) (hcap : xs.length ≤ cap) (hG : Bnds w) (he : lisE t xs = 0) :
    Calls Tryz.prog 32 #[.slice ao xs.length cap, t.val, .slice a xs.length cc] w fun e w' => ∃ bb ea ec, e = .returned (.pointer (some ⟨bb, 0, none⟩)) ∧ At w' bb (boC ao xs.length cap t ea (loopE t xs).length ec a cc (drn t xs g xs.length)) ∧ EOwn w.heap.size w' ea ec (loopE t xs) ∧ w.heap.size < bb ∧ Below w.heap.size w w' := by
  obtain ⟨ht, hn, hok⟩ := lis_all he
  have HEg : Hid (∀ W, Below w.heap.size w W → Calls Tryz.prog 26 #[.slice ao xs.length cap, .agg #[.int .i64 (t.u 0), .int .i64 (t.u 1), .int .i64 (t.u 2), .int .i64 (t.u 3), .int .i64 (t.l 0), .int .i64 (t.l 1), .int .i64 (t.l 2), .int .i64 (t.l 3), .int .i64 (t.b 0), .int .i64 (t.b 1), .int .i64 (t.b 2), .int .i64 (t.b 3), .int .i64 t.d]] W fun e w' => ∃ a c, e = .returned (.slice a (loopE t xs).length c) ∧ EOwn W.heap.size w' a c (loopE t xs) ∧ Below W.heap.size W w') := fun W hb => edges_any ao cap xs t W (h.below hb) hcap (hG.below hb hG.big) he
  have HO : Hid (OpsAt w ao xs ∧ Nl w a xs.length g) := ⟨h, hg⟩
  have HRg : Hid (∀ k, k < xs.length → 0 ≤ g k ∧ g k ≤ 65536) := hr
  have HTi : Hid (∀ k, k < 4 → (0 ≤ t.u k ∧ t.u k ≤ 8) ∧ (1 ≤ t.l k ∧ t.l k ≤ 8) ∧ (1 ≤ t.b k ∧ t.b k ≤ 4)) := (tab_in ht).2
  have HDr : Hid (∀ k, k ≤ xs.length → 1 ≤ drn t xs g k ∧ drn t xs g k ≤ 65544) := fun k hk => by
    have h1 := drn_ge t xs g k
    have h2 := (tab_in ht).1
    refine ⟨by omega, drn_le ht (by omega) fun j hj => ?_⟩
    have := hr j (by omega)
    omega
  have HStp : Hid (∀ k, drn t xs g (k + 1) = max (drn t xs g k) (g k + max (t.l (clN xs k)) (t.b (clN xs k)))) := fun k => rfl
  have HD0 : Hid (drn t xs g 0 = max (1 + t.d) (t.b 3)) := rfl
  obtain ⟨d0, d4⟩ := (tab_in ht).1
  obtain ⟨b0, b4⟩ := ((tab_in ht).2 3 (by omega)).2.2
  clear h hg hr hG he ht hok hcap
  generalize loopE t xs = es at *
  obtain ⟨M, hM⟩ : ∃ M, es.length = M := ⟨_, rfl⟩
  have HM : Hid (es.length = M) := hM
  rw [hM] at HEg ⊢
  obtain ⟨n, hN⟩ : ∃ n, xs.length = n := ⟨_, rfl⟩
  have HN : Hid (xs.length = n) := hN
  rw [hN] at HEg ⊢
  have hn' : (n : Int) ≤ 1024 := by omega
  clear hM hN hn
  have HT0 : Hid (TabAt (w.alloc (.cells t.cells 25)) w.heap.size t ∧ Below w.heap.size w (w.alloc (.cells t.cells 25))) := ⟨Tb.tabAt_new w t 25, by go_grown⟩
  unfold Tab.cells at HT0
  unfold Tab.val
  go_enter Tryz.func32, Tryz.ntmps32
  go_upto_region 1 with fail
  generalize (w.alloc (.cells #[.int .i64 (t.u 0), .int .i64 (t.u 1), .int .i64 (t.u 2), .int .i64 (t.u 3), .int .i64 (t.l 0), .int .i64 (t.l 1), .int .i64 (t.l 2), .int .i64 (t.l 3), .int .i64 (t.b 0), .int .i64 (t.b 1), .int .i64 (t.b 2), .int .i64 (t.b 3), .int .i64 t.d] 25)) = X0 at *
  obtain ⟨mx, hmx⟩ : ∃ m, drn t xs g 0 = m := ⟨_, rfl⟩
  have HMx : Hid (drn t xs g 0 = mx) := hmx
  have hmx2 : max (1 + t.d) (t.b 3) = mx := by rw [← HD0.out]; exact hmx
  clear hmx HD0
  refine wp_region_held_drew (S := fun Z => TabAt Z w.heap.size t) (by kernel_rfl) (HT0.out.1.below (drew_up _) HT0.out.1.lt) (fun hHeld => ?_)
  refine wpAnyH_take (i := 0) (v := .slice ao n cap) rfl (by kernel_rfl) (by kernel_rfl) (by kernel_rfl) (fun _ _ _ h => h) (Or.inl ⟨by rfl, fun w' hSw => by (go_simp)⟩) hHeld ?_
  simp only [Act.put, List.setIfInBounds_toArray, List.set_cons_zero, List.set_cons_succ, List.getElem_cons_zero, List.getElem_toArray]
  refine wpAnyH_take (i := 1) (v := .agg #[.int .i64 (t.u 0), .int .i64 (t.u 1), .int .i64 (t.u 2), .int .i64 (t.u 3), .int .i64 (t.l 0), .int .i64 (t.l 1), .int .i64 (t.l 2), .int .i64 (t.l 3), .int .i64 (t.b 0), .int .i64 (t.b 1), .int .i64 (t.b 2), .int .i64 (t.b 3), .int .i64 t.d]) rfl (by kernel_rfl) (by kernel_rfl) (by kernel_rfl) (fun _ _ _ h => h) (Or.inl ⟨by rfl, fun w' hSw => by (have hSw : TabAt w' w.heap.size t := hSw; have k2 := hSw; have qu0 := k2.cu 0 (by decide); have qu1 := k2.cu 1 (by decide); have qu2 := k2.cu 2 (by decide); have qu3 := k2.cu 3 (by decide); have ql0 := k2.cl 0 (by decide); have ql1 := k2.cl 1 (by decide); have ql2 := k2.cl 2 (by decide); have ql3 := k2.cl 3 (by decide); have qb0 := k2.cb 0 (by decide); have qb1 := k2.cb 1 (by decide); have qb2 := k2.cb 2 (by decide); have qb3 := k2.cb 3 (by decide); have qd := k2.cd; have qz := k2.lt; clear k2; go_simp)⟩) hHeld ?_
  simp only [Act.put, List.setIfInBounds_toArray, List.set_cons_zero, List.set_cons_succ, List.getElem_cons_zero, List.getElem_cons_succ, List.getElem_toArray]
  refine wpAnyH_take (i := 2) (v := .slice ao n cap) rfl (by kernel_rfl) (by kernel_rfl) (by kernel_rfl) (fun _ _ _ h => h) (Or.inl ⟨by rfl, fun w' hSw => by (go_simp)⟩) hHeld ?_
  simp only [Act.put, List.setIfInBounds_toArray, List.set_cons_zero, List.set_cons_succ, List.getElem_cons_zero, List.getElem_cons_succ, List.getElem_toArray]
  refine wpAnyH_take (i := 3) (v := .agg #[.int .i64 (t.u 0), .int .i64 (t.u 1), .int .i64 (t.u 2), .int .i64 (t.u 3), .int .i64 (t.l 0), .int .i64 (t.l 1), .int .i64 (t.l 2), .int .i64 (t.l 3), .int .i64 (t.b 0), .int .i64 (t.b 1), .int .i64 (t.b 2), .int .i64 (t.b 3), .int .i64 t.d]) rfl (by kernel_rfl) (by kernel_rfl) (by kernel_rfl) (fun _ _ _ h => h) (Or.inl ⟨by rfl, fun w' hSw => by (have hSw : TabAt w' w.heap.size t := hSw; have k2 := hSw; have qu0 := k2.cu 0 (by decide); have qu1 := k2.cu 1 (by decide); have qu2 := k2.cu 2 (by decide); have qu3 := k2.cu 3 (by decide); have ql0 := k2.cl 0 (by decide); have ql1 := k2.cl 1 (by decide); have ql2 := k2.cl 2 (by decide); have ql3 := k2.cl 3 (by decide); have qb0 := k2.cb 0 (by decide); have qb1 := k2.cb 1 (by decide); have qb2 := k2.cb 2 (by decide); have qb3 := k2.cb 3 (by decide); have qd := k2.cd; have qz := k2.lt; clear k2; go_simp)⟩) hHeld ?_
  simp only [Act.put, List.setIfInBounds_toArray, List.set_cons_zero, List.set_cons_succ, List.getElem_cons_zero, List.getElem_cons_succ, List.getElem_toArray]
  refine wpAnyH_take (i := 5) (v := .slice a n cc) rfl (by kernel_rfl) (by kernel_rfl) (by kernel_rfl) (fun _ _ _ h => h) (Or.inl ⟨by rfl, fun w' hSw => by (go_simp)⟩) hHeld ?_
  simp only [Act.put, List.setIfInBounds_toArray, List.set_cons_zero, List.set_cons_succ, List.getElem_cons_zero, List.getElem_cons_succ, List.getElem_toArray]
  refine wpAnyH_take (i := 6) (v := .pointer (some ⟨w.heap.size, 12, none⟩)) rfl (by kernel_rfl) (by kernel_rfl) (by kernel_rfl) (fun _ _ _ h => h) (Or.inl ⟨by rfl, fun w' hSw => by (go_simp)⟩) hHeld ?_
  simp only [Act.put, List.setIfInBounds_toArray, List.set_cons_zero, List.set_cons_succ, List.getElem_cons_zero, List.getElem_cons_succ, List.getElem_toArray]
  refine wpAnyH_take (i := 7) (v := .int .i64 t.d) rfl (by kernel_rfl) (by kernel_rfl) (by kernel_rfl) (fun _ _ _ h => h) (Or.inl ⟨by rfl, fun w' hSw => by (have hSw : TabAt w' w.heap.size t := hSw; have k2 := hSw; have qu0 := k2.cu 0 (by decide); have qu1 := k2.cu 1 (by decide); have qu2 := k2.cu 2 (by decide); have qu3 := k2.cu 3 (by decide); have ql0 := k2.cl 0 (by decide); have ql1 := k2.cl 1 (by decide); have ql2 := k2.cl 2 (by decide); have ql3 := k2.cl 3 (by decide); have qb0 := k2.cb 0 (by decide); have qb1 := k2.cb 1 (by decide); have qb2 := k2.cb 2 (by decide); have qb3 := k2.cb 3 (by decide); have qd := k2.cd; have qz := k2.lt; clear k2; go_simp)⟩) hHeld ?_
  simp only [Act.put, List.setIfInBounds_toArray, List.set_cons_zero, List.set_cons_succ, List.getElem_cons_zero, List.getElem_cons_succ, List.getElem_toArray]
  refine wpAnyH_take (i := 8) (v := .int .i64 (1 + t.d)) rfl (by kernel_rfl) (by kernel_rfl) (by kernel_rfl) (fun _ _ _ h => h) (Or.inl ⟨by rfl, fun w' hSw => by (go_simp; rw [IntKind.wrap_i64]; omega)⟩) hHeld ?_
  simp only [Act.put, List.setIfInBounds_toArray, List.set_cons_zero, List.set_cons_succ, List.getElem_cons_zero, List.getElem_cons_succ, List.getElem_toArray]
  refine wpAnyH_take (i := 9) (v := .pointer (some ⟨w.heap.size, 8, none⟩)) rfl (by kernel_rfl) (by kernel_rfl) (by kernel_rfl) (fun _ _ _ h => h) (Or.inl ⟨by rfl, fun w' hSw => by (go_simp)⟩) hHeld ?_
  simp only [Act.put, List.setIfInBounds_toArray, List.set_cons_zero, List.set_cons_succ, List.getElem_cons_zero, List.getElem_cons_succ, List.getElem_toArray]
  refine wpAnyH_take (i := 10) (v := .pointer (some ⟨w.heap.size, 11, none⟩)) rfl (by kernel_rfl) (by kernel_rfl) (by kernel_rfl) (fun _ _ _ h => h) (Or.inl ⟨by rfl, fun w' hSw => by (go_simp)⟩) hHeld ?_
  simp only [Act.put, List.setIfInBounds_toArray, List.set_cons_zero, List.set_cons_succ, List.getElem_cons_zero, List.getElem_cons_succ, List.getElem_toArray]
  refine wpAnyH_take (i := 11) (v := .int .i64 (t.b 3)) rfl (by kernel_rfl) (by kernel_rfl) (by kernel_rfl) (fun _ _ _ h => h) (Or.inl ⟨by rfl, fun w' hSw => by (have hSw : TabAt w' w.heap.size t := hSw; have k2 := hSw; have qu0 := k2.cu 0 (by decide); have qu1 := k2.cu 1 (by decide); have qu2 := k2.cu 2 (by decide); have qu3 := k2.cu 3 (by decide); have ql0 := k2.cl 0 (by decide); have ql1 := k2.cl 1 (by decide); have ql2 := k2.cl 2 (by decide); have ql3 := k2.cl 3 (by decide); have qb0 := k2.cb 0 (by decide); have qb1 := k2.cb 1 (by decide); have qb2 := k2.cb 2 (by decide); have qb3 := k2.cb 3 (by decide); have qd := k2.cd; have qz := k2.lt; clear k2; go_simp)⟩) hHeld ?_
  simp only [Act.put, List.setIfInBounds_toArray, List.set_cons_zero, List.set_cons_succ, List.getElem_cons_zero, List.getElem_cons_succ, List.getElem_toArray]
  refine wpAnyH_take (i := 12) (v := .int .i64 mx) rfl (by kernel_rfl) (by kernel_rfl) (by kernel_rfl) (fun _ _ _ h => h) (Or.inl ⟨by rfl, fun w' hSw => by (go_simp; first | done | (split <;> omega) | omega)⟩) hHeld ?_
  simp only [Act.put, List.setIfInBounds_toArray, List.set_cons_zero, List.set_cons_succ, List.getElem_cons_zero, List.getElem_cons_succ, List.getElem_toArray]
  refine wpAnyH_ready (rs := [4]) (by kernel_rfl) (by simp) ?_
  refine AllReadyH.cons rfl (fun K hK => ?_) AllReadyH.nil
  go_simp
  refine Calls.mono (HEg.out _ (HT0.out.2.trans ((drew_up _).mono HT0.out.2.size))) ?_
  rintro e w1 ⟨ea, ec, rfl, o1, b1⟩
  have HT1 : Hid (TabAt w1 w.heap.size t ∧ Below w.heap.size w w1 ∧ EOwn w.heap.size w1 ea ec es) := ⟨(HT0.out.1.below (drew_up _) HT0.out.1.lt).below b1 HT0.out.1.lt, (HT0.out.2.trans ((drew_up _).mono HT0.out.2.size)).trans (b1.mono HT0.out.2.size), rowB o1 (by have := HT0.out.2.size; exact this)⟩
  clear o1 b1 HEg HT0
  refine hK.out _ _ HT1.out.1 (fun hHeld => ?_)
  clear hK K
  refine wpAnyH_take (i := 13) (v := .agg #[.slice ao n cap, .int .i64 (t.u 0), .int .i64 (t.u 1), .int .i64 (t.u 2), .int .i64 (t.u 3), .int .i64 (t.l 0), .int .i64 (t.l 1), .int .i64 (t.l 2), .int .i64 (t.l 3), .int .i64 (t.b 0), .int .i64 (t.b 1), .int .i64 (t.b 2), .int .i64 (t.b 3), .int .i64 t.d, .slice ea M ec, .slice a n cc, .int .i64 mx]) rfl (by kernel_rfl) (by kernel_rfl) (by kernel_rfl) (fun _ _ _ h => h) (Or.inl ⟨by rfl, fun w' hSw => by (go_simp)⟩) hHeld ?_
  simp only [Act.put, List.setIfInBounds_toArray, List.set_cons_zero, List.set_cons_succ, List.getElem_cons_zero, List.getElem_cons_succ, List.getElem_toArray]
  refine wpAnyH_ready (rs := [14]) (by kernel_rfl) (by simp) ?_
  refine AllReadyH.cons rfl (fun K hK => ?_) AllReadyH.nil
  go_simp
  have HX : Hid (Nbd w (w1.alloc (.cells #[.slice ao n cap, .int .i64 (t.u 0), .int .i64 (t.u 1), .int .i64 (t.u 2), .int .i64 (t.u 3), .int .i64 (t.l 0), .int .i64 (t.l 1), .int .i64 (t.l 2), .int .i64 (t.l 3), .int .i64 (t.b 0), .int .i64 (t.b 1), .int .i64 (t.b 2), .int .i64 (t.b 3), .int .i64 t.d, .slice ea M ec, .slice a n cc, .int .i64 mx] 92)) t ao n cap ea M ec a cc es w1.heap.size mx) := nbd_start HT1.out.1 HT1.out.2.1 HT1.out.2.2 HM.out
  refine hK.out _ _ HX.out.t (fun hHeld => ?_)
  clear hK K
  refine wpAnyH_take (i := 15) (v := .pointer (some ⟨w1.heap.size, 0, none⟩)) rfl (by kernel_rfl) (by kernel_rfl) (by kernel_rfl) (fun _ _ _ h => h) (Or.inl ⟨by rfl, fun w' hSw => by (go_simp)⟩) hHeld ?_
  simp only [Act.put, List.setIfInBounds_toArray, List.set_cons_zero, List.set_cons_succ, List.getElem_cons_zero, List.getElem_cons_succ, List.getElem_toArray]
  refine wpAnyH_done (by kernel_rfl) ?_ _
  clear hHeld
  generalize (w1.alloc (.cells #[.slice ao n cap, .int .i64 (t.u 0), .int .i64 (t.u 1), .int .i64 (t.u 2), .int .i64 (t.u 3), .int .i64 (t.l 0), .int .i64 (t.l 1), .int .i64 (t.l 2), .int .i64 (t.l 3), .int .i64 (t.b 0), .int .i64 (t.b 1), .int .i64 (t.b 2), .int .i64 (t.b 3), .int .i64 t.d, .slice ea M ec, .slice a n cc, .int .i64 mx] 92)) = X at *
  generalize w1.heap.size = bb at *
  clear HT1
  go_wp2_with fail
  go_loopw [28] (fun v wr => ∃ k : Nat, k ≤ n ∧ v = .int .i64 k ∧ Nbd w wr t ao n cap ea M ec a cc es bb (drn t xs g k)) (fun v _ => n - (intOf v).toNat)
  case atStart => exact ⟨0, by omega, rfl, by rw [HMx.out]; exact HX.out⟩
  case round =>
    rename World => wr
    obtain ⟨k, hk, rfl, hq⟩ := hrel
    have HQ : Hid (Nbd w wr t ao n cap ea M ec a cc es bb (drn t xs g k)) := hq
    clear hq HX
    by_cases hlt : k < n
    · have k0 : (0 : Int) ≤ (k : Int) := by omega
      have k1 : (k : Int) < (n : Int) := by omega
      have hkx : k < xs.length := by rw [HN.out]; exact hlt
      obtain ⟨ob, of, rfl, hz2, hx⟩ := (HO.out.1.below HQ.out.up).is (by omega)
      obtain ⟨q0, q1, q2, q3, q4⟩ := hx k hkx
      obtain ⟨cb, cf, rfl, hcl, hcx⟩ := HO.out.2.is (by omega)
      have HCk : Hid (∀ Z, Below w.heap.size w Z → Z.cell? ⟨cb, cf + k, none⟩ = some (.int .i64 (g k)) ∧ cb < Z.heap.size) := fun Z hZ => ⟨by rw [(bcell hZ).1 _ _ hcl]; exact hcx k hkx, Nat.lt_of_lt_of_le hcl hZ.size⟩
      obtain ⟨g1, g2⟩ := HRg.out k hkx
      have HCl : Hid (∀ Z, Calls Tryz.prog 51 #[xs[k].val] Z fun e w' => e = .returned (.int .i64 (clN xs k : Int)) ∧ Below Z.heap.size Z w') := fun Z => by rw [clN_at hkx]; exact classOf_any xs[k] Z
      obtain ⟨d1, d2⟩ := HDr.out k (by omega)
      have hcl4 := clN_lt xs k
      obtain ⟨-, ⟨l1, l2⟩, b1, b2⟩ := HTi.out _ hcl4
      have HSt : Hid (drn t xs g (k + 1) = max (drn t xs g k) (g k + max (t.l (clN xs k)) (t.b (clN xs k)))) := HStp.out k
      obtain ⟨o, hoe⟩ : ∃ o, xs[k]'hkx = o := ⟨_, rfl⟩
      rw [hoe] at HCl q0 q1 q2 q3 q4
      obtain ⟨gk, hgk⟩ : ∃ v, g k = v := ⟨_, rfl⟩
      rw [hgk] at HCk HSt g1 g2
      obtain ⟨dk, hdk⟩ : ∃ v, drn t xs g k = v := ⟨_, rfl⟩
      rw [hdk] at HSt HQ d1 d2
      clear hx hcx hoe hgk hdk hcl
      obtain ⟨cl, hcl2⟩ : ∃ cl, clN xs k = cl := ⟨_, rfl⟩
      rw [hcl2] at HCl HSt hcl4 l1 l2 b1 b2
      clear hcl2
      have HTl : Hid (∀ Z, TabAt Z w.heap.size t → Z.cell? ⟨w.heap.size, 4 + cl, none⟩ = some (.int .i64 (t.l cl)) ∧ Z.cell? ⟨w.heap.size, 8 + cl, none⟩ = some (.int .i64 (t.b cl))) := fun Z hZ => ⟨hZ.cl cl hcl4, hZ.cb cl hcl4⟩
      obtain ⟨mb, hmb⟩ : ∃ m, max (t.l cl) (t.b cl) = m := ⟨_, rfl⟩
      obtain ⟨nd, hnd⟩ : ∃ m, max dk (gk + mb) = m := ⟨_, rfl⟩
      rw [hmb, hnd] at HSt
      have hc4 : (cl : Int) < 4 := by omega
      have hc0 : (0 : Int) ≤ (cl : Int) := by omega
      have HX2 : Hid (Nbd w (wr.alloc (.cells #[.int .i8 o.op, .int .u8 o.d, .int .u8 o.a, .int .u8 o.b, .int .i64 o.im] 46)) t (some ⟨ob, of, none⟩) n cap ea M ec (some ⟨cb, cf, none⟩) cc es bb dk) := HQ.out.next ((Below.refl _ _).alloc (Nat.le_refl _) _)
      go_upto_region 6 with (first
        | (go_at_call 51; refine Calls.mono (HCl.out _) ?_; rintro e w2 ⟨rfl, b2⟩; have HX3 : Hid (Nbd w w2 t (some ⟨ob, of, none⟩) n cap ea M ec (some ⟨cb, cf, none⟩) cc es bb dk) := HX2.out.next b2; clear b2 HCl HX2 HQ))
      clear q0 q1 q2 q3 q4 hz2
      have HCk2 : Hid (∀ Z, Nbd w Z t (some ⟨ob, of, none⟩) n cap ea M ec (some ⟨cb, cf, none⟩) cc es bb dk → Z.cell? ⟨cb, cf + k, none⟩ = some (.int .i64 gk) ∧ cb < Z.heap.size) := fun Z hZ => HCk.out Z hZ.up
      refine wp_region_held_drew (S := fun Z => TabAt Z w.heap.size t ∧ Z.cell? ⟨cb, cf + k, none⟩ = some (.int .i64 gk) ∧ cb < Z.heap.size) (by kernel_rfl) ⟨(HX3.out.next (drew_up _)).t, HCk2.out _ (HX3.out.next (drew_up _))⟩ (fun hHeld => ?_)
      refine wpAnyH_take (i := 0) (v := .pointer (some ⟨bb, 0, none⟩)) rfl (by kernel_rfl) (by kernel_rfl) (by kernel_rfl) (fun _ _ _ h => h) (Or.inl ⟨by rfl, fun w' hSw => by (go_simp)⟩) hHeld ?_
      simp only [Act.put, List.setIfInBounds_toArray, List.set_cons_zero, List.set_cons_succ, List.getElem_cons_zero, List.getElem_toArray]
      refine wpAnyH_take (i := 1) (v := .pointer (some ⟨bb, 0, none⟩)) rfl (by kernel_rfl) (by kernel_rfl) (by kernel_rfl) (fun _ _ _ h => h) (Or.inl ⟨by rfl, fun w' hSw => by (go_simp)⟩) hHeld ?_
      simp only [Act.put, List.setIfInBounds_toArray, List.set_cons_zero, List.set_cons_succ, List.getElem_cons_zero, List.getElem_cons_succ, List.getElem_toArray]
      refine wpAnyH_take (i := 2) (v := .pointer (some ⟨bb, 0, none⟩)) rfl (by kernel_rfl) (by kernel_rfl) (by kernel_rfl) (fun _ _ _ h => h) (Or.inl ⟨by rfl, fun w' hSw => by (go_simp)⟩) hHeld ?_
      simp only [Act.put, List.setIfInBounds_toArray, List.set_cons_zero, List.set_cons_succ, List.getElem_cons_zero, List.getElem_cons_succ, List.getElem_toArray]
      refine wpAnyH_take (i := 3) (v := .pointer (some ⟨bb, 16, none⟩)) rfl (by kernel_rfl) (by kernel_rfl) (by kernel_rfl) (fun _ _ _ h => h) (Or.inl ⟨by rfl, fun w' hSw => by (go_simp)⟩) hHeld ?_
      simp only [Act.put, List.setIfInBounds_toArray, List.set_cons_zero, List.set_cons_succ, List.getElem_cons_zero, List.getElem_cons_succ, List.getElem_toArray]
      refine wpAnyH_take (i := 5) (v := .slice (some ⟨cb, cf, none⟩) n cc) rfl (by kernel_rfl) (by kernel_rfl) (by kernel_rfl) (fun _ _ _ h => h) (Or.inl ⟨by rfl, fun w' hSw => by (go_simp)⟩) hHeld ?_
      simp only [Act.put, List.setIfInBounds_toArray, List.set_cons_zero, List.set_cons_succ, List.getElem_cons_zero, List.getElem_cons_succ, List.getElem_toArray]
      refine wpAnyH_take (i := 6) (v := .int .i64 (k : Int)) rfl (by kernel_rfl) (by kernel_rfl) (by kernel_rfl) (fun _ _ _ h => h) (Or.inl ⟨by rfl, fun w' hSw => by (go_simp)⟩) hHeld ?_
      simp only [Act.put, List.setIfInBounds_toArray, List.set_cons_zero, List.set_cons_succ, List.getElem_cons_zero, List.getElem_cons_succ, List.getElem_toArray]
      refine wpAnyH_take (i := 7) (v := .pointer (some ⟨cb, cf + k, none⟩)) rfl (by kernel_rfl) (by kernel_rfl) (by kernel_rfl) (fun _ _ _ h => h) (Or.inl ⟨by rfl, fun w' hSw => by (go_simp)⟩) hHeld ?_
      simp only [Act.put, List.setIfInBounds_toArray, List.set_cons_zero, List.set_cons_succ, List.getElem_cons_zero, List.getElem_cons_succ, List.getElem_toArray]
      refine wpAnyH_take (i := 8) (v := .int .i64 gk) rfl (by kernel_rfl) (by kernel_rfl) (by kernel_rfl) (fun _ _ _ h => h) (Or.inl ⟨by rfl, fun w' hSw => by (have y0 := hSw.2.1; have yl := hSw.2.2; go_simp)⟩) hHeld ?_
      simp only [Act.put, List.setIfInBounds_toArray, List.set_cons_zero, List.set_cons_succ, List.getElem_cons_zero, List.getElem_cons_succ, List.getElem_toArray]
      refine wpAnyH_take (i := 9) (v := .int .i64 (cl : Int)) rfl (by kernel_rfl) (by kernel_rfl) (by kernel_rfl) (fun _ _ _ h => h) (Or.inl ⟨by rfl, fun w' hSw => by (go_simp)⟩) hHeld ?_
      simp only [Act.put, List.setIfInBounds_toArray, List.set_cons_zero, List.set_cons_succ, List.getElem_cons_zero, List.getElem_cons_succ, List.getElem_toArray]
      refine wpAnyH_take (i := 10) (v := .pointer (some ⟨w.heap.size, 4, none⟩)) rfl (by kernel_rfl) (by kernel_rfl) (by kernel_rfl) (fun _ _ _ h => h) (Or.inl ⟨by rfl, fun w' hSw => by (go_simp)⟩) hHeld ?_
      simp only [Act.put, List.setIfInBounds_toArray, List.set_cons_zero, List.set_cons_succ, List.getElem_cons_zero, List.getElem_cons_succ, List.getElem_toArray]
      refine wpAnyH_take (i := 11) (v := .pointer (some ⟨w.heap.size, 4 + cl, none⟩)) rfl (by kernel_rfl) (by kernel_rfl) (by kernel_rfl) (fun _ _ _ h => h) (Or.inl ⟨by rfl, fun w' hSw => by (go_simp)⟩) hHeld ?_
      simp only [Act.put, List.setIfInBounds_toArray, List.set_cons_zero, List.set_cons_succ, List.getElem_cons_zero, List.getElem_cons_succ, List.getElem_toArray]
      refine wpAnyH_take (i := 12) (v := .int .i64 (t.l cl)) rfl (by kernel_rfl) (by kernel_rfl) (by kernel_rfl) (fun _ _ _ h => h) (Or.inl ⟨by rfl, fun w' hSw => by (have y0 := (HTl.out _ hSw.1).1; have yl := hSw.1.lt; go_simp)⟩) hHeld ?_
      simp only [Act.put, List.setIfInBounds_toArray, List.set_cons_zero, List.set_cons_succ, List.getElem_cons_zero, List.getElem_cons_succ, List.getElem_toArray]
      refine wpAnyH_take (i := 13) (v := .int .i64 (cl : Int)) rfl (by kernel_rfl) (by kernel_rfl) (by kernel_rfl) (fun _ _ _ h => h) (Or.inl ⟨by rfl, fun w' hSw => by (go_simp)⟩) hHeld ?_
      simp only [Act.put, List.setIfInBounds_toArray, List.set_cons_zero, List.set_cons_succ, List.getElem_cons_zero, List.getElem_cons_succ, List.getElem_toArray]
      refine wpAnyH_take (i := 14) (v := .pointer (some ⟨w.heap.size, 8, none⟩)) rfl (by kernel_rfl) (by kernel_rfl) (by kernel_rfl) (fun _ _ _ h => h) (Or.inl ⟨by rfl, fun w' hSw => by (go_simp)⟩) hHeld ?_
      simp only [Act.put, List.setIfInBounds_toArray, List.set_cons_zero, List.set_cons_succ, List.getElem_cons_zero, List.getElem_cons_succ, List.getElem_toArray]
      refine wpAnyH_take (i := 15) (v := .pointer (some ⟨w.heap.size, 8 + cl, none⟩)) rfl (by kernel_rfl) (by kernel_rfl) (by kernel_rfl) (fun _ _ _ h => h) (Or.inl ⟨by rfl, fun w' hSw => by (go_simp)⟩) hHeld ?_
      simp only [Act.put, List.setIfInBounds_toArray, List.set_cons_zero, List.set_cons_succ, List.getElem_cons_zero, List.getElem_cons_succ, List.getElem_toArray]
      refine wpAnyH_take (i := 16) (v := .int .i64 (t.b cl)) rfl (by kernel_rfl) (by kernel_rfl) (by kernel_rfl) (fun _ _ _ h => h) (Or.inl ⟨by rfl, fun w' hSw => by (have y0 := (HTl.out _ hSw.1).2; have yl := hSw.1.lt; go_simp)⟩) hHeld ?_
      simp only [Act.put, List.setIfInBounds_toArray, List.set_cons_zero, List.set_cons_succ, List.getElem_cons_zero, List.getElem_cons_succ, List.getElem_toArray]
      refine wpAnyH_take (i := 17) (v := .int .i64 mb) rfl (by kernel_rfl) (by kernel_rfl) (by kernel_rfl) (fun _ _ _ h => h) (Or.inl ⟨by rfl, fun w' hSw => by (go_simp; first | done | (split <;> omega) | omega)⟩) hHeld ?_
      simp only [Act.put, List.setIfInBounds_toArray, List.set_cons_zero, List.set_cons_succ, List.getElem_cons_zero, List.getElem_cons_succ, List.getElem_toArray]
      refine wpAnyH_take (i := 18) (v := .int .i64 (gk + mb)) rfl (by kernel_rfl) (by kernel_rfl) (by kernel_rfl) (fun _ _ _ h => h) (Or.inl ⟨by rfl, fun w' hSw => by (go_simp; rw [IntKind.wrap_i64]; omega)⟩) hHeld ?_
      simp only [Act.put, List.setIfInBounds_toArray, List.set_cons_zero, List.set_cons_succ, List.getElem_cons_zero, List.getElem_cons_succ, List.getElem_toArray]
      have HS0 : Hid (Nbd w w2.drew t (some ⟨ob, of, none⟩) n cap ea M ec (some ⟨cb, cf, none⟩) cc es bb dk) := HX3.out.next (drew_up _)
      have y16 := HS0.out.at'.c 16 _ rfl
      have z16 := HS0.out.at'.f 16
      have yl := HS0.out.at'.lt
      refine wpAnyH_ready (rs := [4]) (by kernel_rfl) (by simp) ?_
      refine AllReadyH.cons rfl (fun K hK => ?_) AllReadyH.nil
      go_simp
      refine hK.out _ _ ⟨HS0.out.t, HCk2.out _ HS0.out⟩ (fun hHeld => ?_)
      clear hK K
      refine wpAnyH_take (i := 19) (v := .int .i64 nd) rfl (by kernel_rfl) (by kernel_rfl) (by kernel_rfl) (fun _ _ _ h => h) (Or.inl ⟨by rfl, fun w' hSw => by (go_simp; first | done | (split <;> omega) | omega)⟩) hHeld ?_
      simp only [Act.put, List.setIfInBounds_toArray, List.set_cons_zero, List.set_cons_succ, List.getElem_cons_zero, List.getElem_cons_succ, List.getElem_toArray]
      refine wpAnyH_take (i := 20) (v := .pointer (some ⟨bb, 0, none⟩)) rfl (by kernel_rfl) (by kernel_rfl) (by kernel_rfl) (fun _ _ _ h => h) (Or.inl ⟨by rfl, fun w' hSw => by (go_simp)⟩) hHeld ?_
      simp only [Act.put, List.setIfInBounds_toArray, List.set_cons_zero, List.set_cons_succ, List.getElem_cons_zero, List.getElem_cons_succ, List.getElem_toArray]
      refine wpAnyH_take (i := 21) (v := .pointer (some ⟨bb, 16, none⟩)) rfl (by kernel_rfl) (by kernel_rfl) (by kernel_rfl) (fun _ _ _ h => h) (Or.inl ⟨by rfl, fun w' hSw => by (go_simp)⟩) hHeld ?_
      simp only [Act.put, List.setIfInBounds_toArray, List.set_cons_zero, List.set_cons_succ, List.getElem_cons_zero, List.getElem_cons_succ, List.getElem_toArray]
      refine wpAnyH_ready (rs := [22]) (by kernel_rfl) (by simp) ?_
      refine AllReadyH.cons rfl (fun K hK => ?_) AllReadyH.nil
      go_simp
      have HY : Hid (Nbd w (w2.drew.setCell ⟨bb, 16, none⟩ (.int .i64 nd)) t (some ⟨ob, of, none⟩) n cap ea M ec (some ⟨cb, cf, none⟩) cc es bb nd) := HS0.out.set nd
      refine hK.out _ _ ⟨HY.out.t, HCk.out _ HY.out.up⟩ (fun hHeld => ?_)
      clear hK K
      refine wpAnyH_done (by kernel_rfl) ?_ _
      clear hHeld
      go_wp2_with fail
      go_roundw
      case rel => exact ⟨k + 1, by omega, by go_num, by rw [HSt.out]; exact HY.out⟩
      case measure => simp [intOf]; omega
    · obtain rfl : k = n := by omega
      have k1 : ¬ (k : Int) < (k : Int) := by omega
      go_wp2_with fail
      go_ret
      exact ⟨bb, rfl, ea, ec, HQ.out.at', HQ.out.eo, HQ.out.b0, HQ.out.up⟩
end Go.Proofs.YteccifanbgcakaaGreatDoor.Mo
