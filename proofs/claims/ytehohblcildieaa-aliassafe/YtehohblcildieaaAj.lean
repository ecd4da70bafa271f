/- Registers and cells out of a state (the statement's own start), read off the program by the walk. Conditions: the state lies in memory. -/
import Derived.Test.YtehohblcildieaaAh
import Derived.Great.Walk
import Derived.Great.BuildSlice
import Derived.Great.Ranges
import Derived.Deep.MidRow
import Derived.Deep.RegionHeld3
namespace Go.Proofs.Ytehohblcildieaa.Al
open Go.ChangeShapes Go.WideShapes Go.ChangeAt Go.RowKit Go.Great
open _root_.Go.Proofs.Ytehohblcildieaa.Op _root_.Go.Proofs.Ytehohblcildieaa.So
set_option maxRecDepth 20000

/-- A list of numbers in memory. -/
structure NL (w : World) (ao : Option Addr) (l : List Int) : Prop where
  is : 0 < l.length → ∃ b f, ao = some ⟨b, f, none⟩ ∧ b < w.heap.size ∧ ∀ (i : Nat) (h : i < l.length), w.cell? ⟨b, f + i, none⟩ = some (.int .i64 l[i])
theorem NL.up {w w' : World} {ao : Option Addr} {l : List Int} (h : NL w ao l) (hb : Below w.heap.size w w') : NL w' ao l := by
  refine ⟨fun h0 => ?_⟩
  obtain ⟨b, f, e, z, hc⟩ := h.is h0
  exact ⟨b, f, e, Nat.lt_of_lt_of_le z hb.size, fun i hi => by rw [(bcell hb).1 _ _ z]; exact hc i hi⟩
theorem NL.fr {X : Nat → Prop} {w w' : World} {ao : Option Addr} {l : List Int} (h : NL w ao l) (g : Fr X w w') (hf : 0 < l.length → ∀ a, ao = some a → ¬ X a.block) : NL w' ao l := by
  refine ⟨fun h0 => ?_⟩
  obtain ⟨b, f, e, z, hc⟩ := h.is h0
  exact ⟨b, f, e, Nat.lt_of_lt_of_le z g.size, fun i hi => (g.cell z (hf h0 _ e) _).trans (hc i hi)⟩

/-- So many numbers as cells. -/
def ncs (n : Nat) (R : Nat → Int) : List Value := (List.range n).map fun j => .int .i64 (R j)
theorem ncs_len (n : Nat) (R : Nat → Int) : (ncs n R).length = n := by simp [ncs]
theorem ncs_get {n : Nat} {R : Nat → Int} {j : Nat} (h : j < n) : (ncs n R)[j]? = some (.int .i64 (R j)) := by simp [ncs, h]
theorem ncs_one (n : Nat) (R : Nat → Int) : (ncs n R).toArray.all (·.oneCell') = true := by
  rw [Array.all_eq_true_iff_forall_mem]
  intro v hv
  simp only [ncs, List.mem_toArray, List.mem_map] at hv
  obtain ⟨j, _, rfl⟩ := hv
  rfl
theorem info30 : (Try.prog.info? 30).map (·.size) = some 32 := by kernel_rfl
theorem info31 : (Try.prog.info? 31).map (·.size) = some 256 := by kernel_rfl
theorem range_of {w : World} {b n : Nat} {R : Nat → Int} (h : ∀ j : Nat, j < n → w.cell? ⟨b, j, none⟩ = some (.int .i64 (R j))) : w.rangeAt b 0 (ncs n R) := fun j v hv => by
  have hj : j < n := by
    rcases Nat.lt_or_ge j n with h' | h'
    · exact h'
    · rw [List.getElem?_eq_none (by rw [ncs_len]; exact h')] at hv; cases hv
  rw [ncs_get hj] at hv
  rw [Nat.zero_add, h j hj]; exact hv
theorem there_of {w : World} {b n : Nat} {R : Nat → Int} (h : ∀ j : Nat, j < n → w.cell? ⟨b, j, none⟩ = some (.int .i64 (R j))) (hf : ∀ j : Nat, w.frozen? ⟨b, j, none⟩ = false) (R' : Nat → Int) : w.there b 0 (ncs n R').toArray.size := fun j hj => by
  simp only [List.size_toArray, ncs_len] at hj
  rw [Nat.zero_add, h j hj]
  exact ⟨rfl, hf j⟩
/-- A whole row of numbers is stored: it lies there. -/
theorem ncs_in {w : World} {b n : Nat} {R : Nat → Int} (h : ∀ j : Nat, j < n → w.cell? ⟨b, j, none⟩ = some (.int .i64 (R j))) (R' : Nat → Int) : ∀ j : Nat, j < n → (w.setCells b 0 (ncs n R')).cell? ⟨b, j, none⟩ = some (.int .i64 (R' j)) := fun j hj => by
  have := World.cell?_setCells_in b (ncs n R') 0 w (fun i hi => by rw [ncs_len] at hi; rw [Nat.zero_add, h i hi]; rfl) j (by rw [ncs_len]; exact hj)
  rw [Nat.zero_add] at this
  rw [this]
  have e := ncs_get (R := R') hj
  rw [List.getElem?_eq_getElem (by rw [ncs_len]; exact hj)] at e
  exact e
theorem fr_setCells {X : Nat → Prop} {b : Nat} (hb : X b) : ∀ (vs : List Value) (o : Nat) {w0 w : World}, Fr X w0 w → Fr X w0 (w.setCells b o vs)
  | [], _, _, _, h => h
  | v :: r, o, _, _, h => fr_setCells hb r (o + 1) (h.setCell (.inr hb) o v)
theorem size_setCells (b : Nat) : ∀ (vs : List Value) (o : Nat) (w : World), (w.setCells b o vs).heap.size = w.heap.size
  | [], _, _ => rfl
  | v :: r, o, w => by rw [World.setCells, size_setCells b r, World.size_setCell]
theorem Rm.putR {w : World} {rb mb : Nat} {R M : Nat → Int} (h : Rm w rb mb R M) {R' : Nat → Int} (hi : ∀ j, In64 (R' j)) : Rm (w.setCells rb 0 (ncs 32 R')) rb mb R' M := by
  have hF : Fr (One rb) w (w.setCells rb 0 (ncs 32 R')) := fr_setCells (X := One rb) rfl _ _ (Fr.refl _ _)
  have hm : ¬ One rb mb := fun e => h.ne (show mb = rb from e).symm
  exact ⟨ncs_in h.r R', fun j hj => (hF.cell h.ml hm j).trans (h.m j hj), fun j => by rw [World.frozen?_setCells]; exact h.rf j, fun j => by rw [World.frozen?_setCells]; exact h.mf j, by rw [size_setCells]; exact h.rl, by rw [size_setCells]; exact h.ml, h.ne, hi, h.mi⟩
theorem Rm.putM {w : World} {rb mb : Nat} {R M : Nat → Int} (h : Rm w rb mb R M) {M' : Nat → Int} (hi : ∀ j, In64 (M' j)) : Rm (w.setCells mb 0 (ncs 256 M')) rb mb R M' := by
  have hF : Fr (One mb) w (w.setCells mb 0 (ncs 256 M')) := fr_setCells (X := One mb) rfl _ _ (Fr.refl _ _)
  have hm : ¬ One mb rb := fun e => h.ne (show rb = mb from e)
  exact ⟨fun j hj => (hF.cell h.rl hm j).trans (h.r j hj), ncs_in h.m M', fun j => by rw [World.frozen?_setCells]; exact h.rf j, fun j => by rw [World.frozen?_setCells]; exact h.mf j, by rw [size_setCells]; exact h.rl, by rw [size_setCells]; exact h.ml, h.ne, h.ri, hi⟩
def zeroF : Nat → Int := fun _ => 0
theorem zero_in : ∀ j, In64 (zeroF j) := fun j => by unfold In64 zeroF; omega
theorem cells_new {w : World} {n : Nat} {R : Nat → Int} {t : TypeId} : (∀ j : Nat, j < n → (w.alloc (.cells (ncs n R).toArray t)).cell? ⟨w.heap.size, j, none⟩ = some (.int .i64 (R j))) ∧ ∀ j : Nat, (w.alloc (.cells (ncs n R).toArray t)).frozen? ⟨w.heap.size, j, none⟩ = false := by
  have hA := At.new w (ncs n R).toArray t
  exact ⟨fun j hj => hA.c j _ (by rw [List.getElem?_toArray]; exact ncs_get hj), hA.f⟩
/-- Where start stands: the state's box, registers, cells. -/
structure Sw (w W : World) (ra ma : Option Addr) (rl rc ml mc : Nat) (R M : Nat → Int) : Prop where
  up : Below w.heap.size w W
  bx : At W w.heap.size #[.slice ra rl rc, .slice ma ml mc]
  rm : Rm W (w.heap.size + 1) (w.heap.size + 2) R M
theorem Sw.fr {w W W' : World} {ra ma : Option Addr} {rl rc ml mc : Nat} {R M R' M' : Nat → Int} (h : Sw w W ra ma rl rc ml mc R M) (g : Fr (fun k => k = w.heap.size + 1 ∨ k = w.heap.size + 2) W W') (hr : Rm W' (w.heap.size + 1) (w.heap.size + 2) R' M') : Sw w W' ra ma rl rc ml mc R' M' := by
  have hx : ¬ (w.heap.size = w.heap.size + 1 ∨ w.heap.size = w.heap.size + 2) := by omega
  exact ⟨h.up.trans (g.below h.up.size fun k hk e => by omega), ⟨fun j v e => (g.cell h.bx.lt hx j).trans (h.bx.c j v e), fun j => (g.frozen h.bx.lt hx j).trans (h.bx.f j), Nat.lt_of_lt_of_le h.bx.lt g.size⟩, hr⟩
theorem sw_start (w : World) (ra ma : Option Addr) (rl rc ml mc : Nat) : Sw w (((w.alloc (.cells #[.slice ra rl rc, .slice ma ml mc] 29)).alloc (.cells (ncs 32 zeroF).toArray 30)).alloc (.cells (ncs 256 zeroF).toArray 31)) ra ma rl rc ml mc zeroF zeroF := by
  have e1 : (w.alloc (.cells #[.slice ra rl rc, .slice ma ml mc] 29)).heap.size = w.heap.size + 1 := by simp
  have e2 : ((w.alloc (.cells #[.slice ra rl rc, .slice ma ml mc] 29)).alloc (.cells (ncs 32 zeroF).toArray 30)).heap.size = w.heap.size + 2 := by simp
  have a1 := ((At.new w #[.slice ra rl rc, .slice ma ml mc] 29).alloc (.cells (ncs 32 zeroF).toArray 30)).alloc (.cells (ncs 256 zeroF).toArray 31)
  have a2 := (At.new (w.alloc (.cells #[.slice ra rl rc, .slice ma ml mc] 29)) (ncs 32 zeroF).toArray 30).alloc (.cells (ncs 256 zeroF).toArray 31)
  have a3 := At.new ((w.alloc (.cells #[.slice ra rl rc, .slice ma ml mc] 29)).alloc (.cells (ncs 32 zeroF).toArray 30)) (ncs 256 zeroF).toArray 31
  rw [e1] at a2
  rw [e2] at a3
  exact ⟨by go_grown, a1, ⟨fun j hj => a2.c j _ (by rw [List.getElem?_toArray]; exact ncs_get hj), fun j hj => a3.c j _ (by rw [List.getElem?_toArray]; exact ncs_get hj), a2.f, a3.f, a2.lt, a3.lt, by omega, zero_in, zero_in⟩⟩
/-- What start leaves. -/
def StartPost (w : World) (e : Ending) (w' : World) : Prop := ∃ (R M : Nat → Int) (ok : Bool), e = .returned (.tuple #[.agg (ncs 32 R).toArray, .agg (ncs 256 M).toArray, .bool ok]) ∧ (∀ j, In64 (R j)) ∧ (∀ j, In64 (M j)) ∧ Below w.heap.size w w'
theorem start_ret {w W : World} {ra ma : Option Addr} {rl rc ml mc : Nat} {R M : Nat → Int} {ok : Bool} {a : Act} (h : Sw w W ra ma rl rc ml mc R M) (h2 : a.tmps.getD 2 undef = .pointer (some ⟨w.heap.size + 1, 0, none⟩)) (h3 : a.tmps.getD 3 undef = .pointer (some ⟨w.heap.size + 2, 0, none⟩)) (h4 : a.tmps.getD 4 undef = .bool ok) (hd : a.defers = []) : bodyPost Try.prog Try.f13 (StartPost w) Exit.ret a W := by
  have k1 := run_loadVar_mid (P := Try.prog) W (w.heap.size + 1) 0 30 (ncs 32 R) _ (range_of h.rm.r) Try.underlying30 rfl (by rw [ncs_len]; exact info30)
  have k2 := run_loadVar_mid (P := Try.prog) W (w.heap.size + 2) 0 31 (ncs 256 M) _ (range_of h.rm.m) Try.underlying31 rfl (by rw [ncs_len]; exact info31)
  refine bodyPost_ret (v := .tuple #[.agg (ncs 32 R).toArray, .agg (ncs 256 M).toArray, .bool ok]) ?_ hd ⟨R, M, ok, rfl, h.rm.ri, h.rm.mi, h.up⟩
  have h2' : a.tmps[2]?.getD undef = .pointer (some ⟨w.heap.size + 1, 0, none⟩) := by simpa using h2
  have h3' : a.tmps[3]?.getD undef = .pointer (some ⟨w.heap.size + 2, 0, none⟩) := by simpa using h3
  have h4' : a.tmps[4]?.getD undef = .bool ok := by simpa using h4
  generalize ncs 32 R = c32 at *
  generalize ncs 256 M = c256 at *
  simp [results, Try.results13, asAddr, h2', h3', h4', k1, k2]
set_option maxHeartbeats 4000000 in
theorem start_x (ra ma : Option Addr) (rc mc rl ml : Nat) (w : World) (h32 : 32 < (rl : Int) ∨ 256 < (ml : Int)) :
    Calls Try.prog 13 #[.agg #[.slice ra rl rc, .slice ma ml mc]] w (StartPost w) := by
  have h1e : (w.alloc (.cells #[.slice ra rl rc, .slice ma ml mc] 29)).heap.size = w.heap.size + 1 := by simp
  have h2e : ((w.alloc (.cells #[.slice ra rl rc, .slice ma ml mc] 29)).alloc (.cells (ncs 32 zeroF).toArray 30)).heap.size = w.heap.size + 2 := by simp
  by_cases hr : 32 < (rl : Int)
  · clear h32
    go_enter Try.func13, Try.ntmps13
    apply wp_seq_k; intro K0 hK0
    refine wp_region_lit ?_
    refine wpList_boxTo rfl 29 (.tmp 0) rfl (some 1) rfl w.heap.size rfl #[.slice ra rl rc, .slice ma ml mc] (by kernel_rfl) ?_
    refine wpList_allocTo rfl (some 2) rfl (.pointer (some ⟨w.heap.size + 1, 0, none⟩)) (.cells (ncs 32 zeroF).toArray 30) (by rw [← h1e]; kernel_rfl) ?_
    refine wpList_allocTo rfl (some 3) rfl (.pointer (some ⟨w.heap.size + 2, 0, none⟩)) (.cells (ncs 256 zeroF).toArray 31) (by rw [← h2e]; kernel_rfl) ?_
    refine wpList_readTo rfl (some 4) rfl (.bool false) (by kernel_rfl) ?_
    refine wpList_nil ?_
    refine hK0 _ _ ?_
    clear hK0 K0 h1e h2e
    have HS : Hid (Sw w (((w.alloc (.cells #[.slice ra rl rc, .slice ma ml mc] 29)).alloc (.cells (ncs 32 zeroF).toArray 30)).alloc (.cells (ncs 256 zeroF).toArray 31)) ra ma rl rc ml mc zeroF zeroF) := sw_start w ra ma rl rc ml mc
    generalize (((w.alloc (.cells #[.slice ra rl rc, .slice ma ml mc] 29)).alloc (.cells (ncs 32 zeroF).toArray 30)).alloc (.cells (ncs 256 zeroF).toArray 31)) = V at *
    simp only [Act.put, List.setIfInBounds_toArray, List.set_cons_zero, List.set_cons_succ]
    have c0 := HS.out.bx.c 0 _ rfl
    have c1 := HS.out.bx.c 1 _ rfl
    have z0 := HS.out.bx.lt
    go_wp2_with fail
    obtain ⟨L32, hL32⟩ : ∃ L, L = ncs 32 zeroF := ⟨_, rfl⟩
    obtain ⟨L256, hL256⟩ : ∃ L, L = ncs 256 zeroF := ⟨_, rfl⟩
    have HSd : Hid (Sw w V.drew ra ma rl rc ml mc zeroF zeroF) := ⟨HS.out.up.drew, HS.out.bx.below ⟨rfl, rfl, rfl, Nat.le_refl _, fun _ _ => rfl⟩ HS.out.bx.lt, HS.out.rm.up ⟨rfl, rfl, rfl, Nat.le_refl _, fun _ _ => rfl⟩⟩
    refine wp_region_held_drew (S := fun W' => Sw w W' ra ma rl rc ml mc zeroF zeroF) (by kernel_rfl) HSd.out (fun hHeld => ?_)
    refine wpAnyH_take (i := 0) (v := .agg L32.toArray) rfl (by kernel_rfl) (by kernel_rfl) (by kernel_rfl) (fun _ _ _ h => h) (yieldsIf_load_mid (by kernel_rfl) 30 (.tmp 2) rfl (w.heap.size + 1) 0 (by kernel_rfl) L32 _ (fun w' hS => by rw [hL32]; exact range_of hS.rm.r) Try.underlying30 rfl (by rw [hL32, ncs_len]; exact info30)) hHeld ?_
    refine wpAnyH_ready (rs := [1, 2]) (by kernel_rfl) (by simp) ?_
    refine AllReadyH.cons rfl (fun K hK => ?_) (AllReadyH.cons rfl (fun K hK => ?_) AllReadyH.nil)
    · rw [if_pos (by kernel_rfl)]
      refine wp_load_mid 31 (.tmp 3) rfl (w.heap.size + 2) 0 (by kernel_rfl) L256 _ (by rw [hL256]; exact range_of hHeld.rm.m) Try.underlying31 rfl (by rw [hL256, ncs_len]; exact info31) ?_
      refine hK.out _ _ hHeld (fun hHeld => ?_)
      clear hK K
      refine wpAnyH_ready (rs := [2]) (by kernel_rfl) (by simp) ?_
      refine AllReadyH.cons rfl (fun K hK => ?_) AllReadyH.nil
      rw [if_pos (by kernel_rfl)]
      refine wp_store_mid 30 (.tmp 2) (.tmp 17) rfl (w.heap.size + 1) 0 L32.toArray (by kernel_rfl) (by kernel_rfl) (by rw [hL32]; exact there_of hHeld.rm.r hHeld.rm.rf _) (by rw [List.size_toArray, hL32, ncs_len]; exact info30) (by rw [hL32]; exact ncs_one _ _) ?_
      refine hK.out _ _ (hHeld.fr (fr_setCells (X := fun k => k = w.heap.size + 1 ∨ k = w.heap.size + 2) (.inl rfl) _ _ (Fr.refl _ _)) (by show Rm (World.setCells _ _ _ L32.toArray.toList) _ _ _ _; rw [hL32]; exact hHeld.rm.putR hHeld.rm.ri)) (fun hHeld => ?_)
      clear hK K
      refine wpAnyH_ready (rs := [3]) (by kernel_rfl) (by simp) ?_
      refine AllReadyH.cons rfl (fun K hK => ?_) AllReadyH.nil
      rw [if_pos (by kernel_rfl)]
      refine wp_store_mid 31 (.tmp 3) (.tmp 18) rfl (w.heap.size + 2) 0 L256.toArray (by kernel_rfl) (by kernel_rfl) (by rw [hL256]; exact there_of hHeld.rm.m hHeld.rm.mf _) (by rw [List.size_toArray, hL256, ncs_len]; exact info31) (by rw [hL256]; exact ncs_one _ _) ?_
      refine hK.out _ _ (hHeld.fr (fr_setCells (X := fun k => k = w.heap.size + 1 ∨ k = w.heap.size + 2) (.inr rfl) _ _ (Fr.refl _ _)) (by show Rm (World.setCells _ _ _ L256.toArray.toList) _ _ _ _; rw [hL256]; exact hHeld.rm.putM hHeld.rm.mi)) (fun hHeld => ?_)
      clear hK K
      refine wpAnyH_take (i := 4) (v := .bool false) rfl (by kernel_rfl) (by kernel_rfl) (by kernel_rfl) (fun _ _ _ h => h) (Or.inl ⟨by rfl, fun w' hSw => by (go_simp)⟩) hHeld ?_
      refine wpAnyH_done (by kernel_rfl) ?_ _
      simp only [Act.put, List.setIfInBounds_toArray, List.set_cons_zero, List.set_cons_succ, List.getElem_cons_zero, List.getElem_cons_succ, List.getElem_toArray]
      have HSe : Hid (Sw w (((V.drew).setCells (w.heap.size + 1) 0 L32.toArray.toList).setCells (w.heap.size + 2) 0 L256.toArray.toList) ra ma rl rc ml mc zeroF zeroF) := hHeld
      clear hHeld HS HSd c0 c1 z0
      generalize ((V.drew).setCells (w.heap.size + 1) 0 L32.toArray.toList).setCells (w.heap.size + 2) 0 L256.toArray.toList = Z at *
      go_wp2_with fail
      exact start_ret HSe.out rfl rfl rfl rfl
    · rw [if_pos (by kernel_rfl)]
      refine wp_store_mid 30 (.tmp 2) (.tmp 17) rfl (w.heap.size + 1) 0 L32.toArray (by kernel_rfl) (by kernel_rfl) (by rw [hL32]; exact there_of hHeld.rm.r hHeld.rm.rf _) (by rw [List.size_toArray, hL32, ncs_len]; exact info30) (by rw [hL32]; exact ncs_one _ _) ?_
      refine hK.out _ _ (hHeld.fr (fr_setCells (X := fun k => k = w.heap.size + 1 ∨ k = w.heap.size + 2) (.inl rfl) _ _ (Fr.refl _ _)) (by show Rm (World.setCells _ _ _ L32.toArray.toList) _ _ _ _; rw [hL32]; exact hHeld.rm.putR hHeld.rm.ri)) (fun hHeld => ?_)
      clear hK K
      refine wpAnyH_ready (rs := [1]) (by kernel_rfl) (by simp) ?_
      refine AllReadyH.cons rfl (fun K hK => ?_) AllReadyH.nil
      rw [if_pos (by kernel_rfl)]
      refine wp_load_mid 31 (.tmp 3) rfl (w.heap.size + 2) 0 (by kernel_rfl) L256 _ (by rw [hL256]; exact range_of hHeld.rm.m) Try.underlying31 rfl (by rw [hL256, ncs_len]; exact info31) ?_
      refine hK.out _ _ hHeld (fun hHeld => ?_)
      clear hK K
      refine wpAnyH_ready (rs := [3]) (by kernel_rfl) (by simp) ?_
      refine AllReadyH.cons rfl (fun K hK => ?_) AllReadyH.nil
      rw [if_pos (by kernel_rfl)]
      refine wp_store_mid 31 (.tmp 3) (.tmp 18) rfl (w.heap.size + 2) 0 L256.toArray (by kernel_rfl) (by kernel_rfl) (by rw [hL256]; exact there_of hHeld.rm.m hHeld.rm.mf _) (by rw [List.size_toArray, hL256, ncs_len]; exact info31) (by rw [hL256]; exact ncs_one _ _) ?_
      refine hK.out _ _ (hHeld.fr (fr_setCells (X := fun k => k = w.heap.size + 1 ∨ k = w.heap.size + 2) (.inr rfl) _ _ (Fr.refl _ _)) (by show Rm (World.setCells _ _ _ L256.toArray.toList) _ _ _ _; rw [hL256]; exact hHeld.rm.putM hHeld.rm.mi)) (fun hHeld => ?_)
      clear hK K
      refine wpAnyH_take (i := 4) (v := .bool false) rfl (by kernel_rfl) (by kernel_rfl) (by kernel_rfl) (fun _ _ _ h => h) (Or.inl ⟨by rfl, fun w' hSw => by (go_simp)⟩) hHeld ?_
      refine wpAnyH_done (by kernel_rfl) ?_ _
      simp only [Act.put, List.setIfInBounds_toArray, List.set_cons_zero, List.set_cons_succ, List.getElem_cons_zero, List.getElem_cons_succ, List.getElem_toArray]
      have HSe : Hid (Sw w (((V.drew).setCells (w.heap.size + 1) 0 L32.toArray.toList).setCells (w.heap.size + 2) 0 L256.toArray.toList) ra ma rl rc ml mc zeroF zeroF) := hHeld
      clear hHeld HS HSd c0 c1 z0
      generalize ((V.drew).setCells (w.heap.size + 1) 0 L32.toArray.toList).setCells (w.heap.size + 2) 0 L256.toArray.toList = Z at *
      go_wp2_with fail
      exact start_ret HSe.out rfl rfl rfl rfl
  · have hm : 256 < (ml : Int) := h32.resolve_left hr
    have hr2 : (rl : Int) ≤ 32 := by omega
    clear h32 hr
    go_enter Try.func13, Try.ntmps13
    apply wp_seq_k; intro K0 hK0
    refine wp_region_lit ?_
    refine wpList_boxTo rfl 29 (.tmp 0) rfl (some 1) rfl w.heap.size rfl #[.slice ra rl rc, .slice ma ml mc] (by kernel_rfl) ?_
    refine wpList_allocTo rfl (some 2) rfl (.pointer (some ⟨w.heap.size + 1, 0, none⟩)) (.cells (ncs 32 zeroF).toArray 30) (by rw [← h1e]; kernel_rfl) ?_
    refine wpList_allocTo rfl (some 3) rfl (.pointer (some ⟨w.heap.size + 2, 0, none⟩)) (.cells (ncs 256 zeroF).toArray 31) (by rw [← h2e]; kernel_rfl) ?_
    refine wpList_readTo rfl (some 4) rfl (.bool false) (by kernel_rfl) ?_
    refine wpList_nil ?_
    refine hK0 _ _ ?_
    clear hK0 K0 h1e h2e
    have HS : Hid (Sw w (((w.alloc (.cells #[.slice ra rl rc, .slice ma ml mc] 29)).alloc (.cells (ncs 32 zeroF).toArray 30)).alloc (.cells (ncs 256 zeroF).toArray 31)) ra ma rl rc ml mc zeroF zeroF) := sw_start w ra ma rl rc ml mc
    generalize (((w.alloc (.cells #[.slice ra rl rc, .slice ma ml mc] 29)).alloc (.cells (ncs 32 zeroF).toArray 30)).alloc (.cells (ncs 256 zeroF).toArray 31)) = V at *
    simp only [Act.put, List.setIfInBounds_toArray, List.set_cons_zero, List.set_cons_succ]
    have c0 := HS.out.bx.c 0 _ rfl
    have c1 := HS.out.bx.c 1 _ rfl
    have z0 := HS.out.bx.lt
    go_wp2_with fail
    obtain ⟨L32, hL32⟩ : ∃ L, L = ncs 32 zeroF := ⟨_, rfl⟩
    obtain ⟨L256, hL256⟩ : ∃ L, L = ncs 256 zeroF := ⟨_, rfl⟩
    have HSd : Hid (Sw w V.drew ra ma rl rc ml mc zeroF zeroF) := ⟨HS.out.up.drew, HS.out.bx.below ⟨rfl, rfl, rfl, Nat.le_refl _, fun _ _ => rfl⟩ HS.out.bx.lt, HS.out.rm.up ⟨rfl, rfl, rfl, Nat.le_refl _, fun _ _ => rfl⟩⟩
    refine wp_region_held_drew (S := fun W' => Sw w W' ra ma rl rc ml mc zeroF zeroF) (by kernel_rfl) HSd.out (fun hHeld => ?_)
    refine wpAnyH_take (i := 0) (v := .agg L32.toArray) rfl (by kernel_rfl) (by kernel_rfl) (by kernel_rfl) (fun _ _ _ h => h) (yieldsIf_load_mid (by kernel_rfl) 30 (.tmp 2) rfl (w.heap.size + 1) 0 (by kernel_rfl) L32 _ (fun w' hS => by rw [hL32]; exact range_of hS.rm.r) Try.underlying30 rfl (by rw [hL32, ncs_len]; exact info30)) hHeld ?_
    refine wpAnyH_ready (rs := [1, 2]) (by kernel_rfl) (by simp) ?_
    refine AllReadyH.cons rfl (fun K hK => ?_) (AllReadyH.cons rfl (fun K hK => ?_) AllReadyH.nil)
    · rw [if_pos (by kernel_rfl)]
      refine wp_load_mid 31 (.tmp 3) rfl (w.heap.size + 2) 0 (by kernel_rfl) L256 _ (by rw [hL256]; exact range_of hHeld.rm.m) Try.underlying31 rfl (by rw [hL256, ncs_len]; exact info31) ?_
      refine hK.out _ _ hHeld (fun hHeld => ?_)
      clear hK K
      refine wpAnyH_ready (rs := [2]) (by kernel_rfl) (by simp) ?_
      refine AllReadyH.cons rfl (fun K hK => ?_) AllReadyH.nil
      rw [if_pos (by kernel_rfl)]
      refine wp_store_mid 30 (.tmp 2) (.tmp 17) rfl (w.heap.size + 1) 0 L32.toArray (by kernel_rfl) (by kernel_rfl) (by rw [hL32]; exact there_of hHeld.rm.r hHeld.rm.rf _) (by rw [List.size_toArray, hL32, ncs_len]; exact info30) (by rw [hL32]; exact ncs_one _ _) ?_
      refine hK.out _ _ (hHeld.fr (fr_setCells (X := fun k => k = w.heap.size + 1 ∨ k = w.heap.size + 2) (.inl rfl) _ _ (Fr.refl _ _)) (by show Rm (World.setCells _ _ _ L32.toArray.toList) _ _ _ _; rw [hL32]; exact hHeld.rm.putR hHeld.rm.ri)) (fun hHeld => ?_)
      clear hK K
      refine wpAnyH_ready (rs := [3]) (by kernel_rfl) (by simp) ?_
      refine AllReadyH.cons rfl (fun K hK => ?_) AllReadyH.nil
      rw [if_pos (by kernel_rfl)]
      refine wp_store_mid 31 (.tmp 3) (.tmp 18) rfl (w.heap.size + 2) 0 L256.toArray (by kernel_rfl) (by kernel_rfl) (by rw [hL256]; exact there_of hHeld.rm.m hHeld.rm.mf _) (by rw [List.size_toArray, hL256, ncs_len]; exact info31) (by rw [hL256]; exact ncs_one _ _) ?_
      refine hK.out _ _ (hHeld.fr (fr_setCells (X := fun k => k = w.heap.size + 1 ∨ k = w.heap.size + 2) (.inr rfl) _ _ (Fr.refl _ _)) (by show Rm (World.setCells _ _ _ L256.toArray.toList) _ _ _ _; rw [hL256]; exact hHeld.rm.putM hHeld.rm.mi)) (fun hHeld => ?_)
      clear hK K
      refine wpAnyH_take (i := 4) (v := .bool false) rfl (by kernel_rfl) (by kernel_rfl) (by kernel_rfl) (fun _ _ _ h => h) (Or.inl ⟨by rfl, fun w' hSw => by (go_simp)⟩) hHeld ?_
      refine wpAnyH_done (by kernel_rfl) ?_ _
      simp only [Act.put, List.setIfInBounds_toArray, List.set_cons_zero, List.set_cons_succ, List.getElem_cons_zero, List.getElem_cons_succ, List.getElem_toArray]
      have HSe : Hid (Sw w (((V.drew).setCells (w.heap.size + 1) 0 L32.toArray.toList).setCells (w.heap.size + 2) 0 L256.toArray.toList) ra ma rl rc ml mc zeroF zeroF) := hHeld
      clear hHeld HS HSd c0 c1 z0
      generalize ((V.drew).setCells (w.heap.size + 1) 0 L32.toArray.toList).setCells (w.heap.size + 2) 0 L256.toArray.toList = Z at *
      go_wp2_with fail
      exact start_ret HSe.out rfl rfl rfl rfl
    · rw [if_pos (by kernel_rfl)]
      refine wp_store_mid 30 (.tmp 2) (.tmp 17) rfl (w.heap.size + 1) 0 L32.toArray (by kernel_rfl) (by kernel_rfl) (by rw [hL32]; exact there_of hHeld.rm.r hHeld.rm.rf _) (by rw [List.size_toArray, hL32, ncs_len]; exact info30) (by rw [hL32]; exact ncs_one _ _) ?_
      refine hK.out _ _ (hHeld.fr (fr_setCells (X := fun k => k = w.heap.size + 1 ∨ k = w.heap.size + 2) (.inl rfl) _ _ (Fr.refl _ _)) (by show Rm (World.setCells _ _ _ L32.toArray.toList) _ _ _ _; rw [hL32]; exact hHeld.rm.putR hHeld.rm.ri)) (fun hHeld => ?_)
      clear hK K
      refine wpAnyH_ready (rs := [1]) (by kernel_rfl) (by simp) ?_
      refine AllReadyH.cons rfl (fun K hK => ?_) AllReadyH.nil
      rw [if_pos (by kernel_rfl)]
      refine wp_load_mid 31 (.tmp 3) rfl (w.heap.size + 2) 0 (by kernel_rfl) L256 _ (by rw [hL256]; exact range_of hHeld.rm.m) Try.underlying31 rfl (by rw [hL256, ncs_len]; exact info31) ?_
      refine hK.out _ _ hHeld (fun hHeld => ?_)
      clear hK K
      refine wpAnyH_ready (rs := [3]) (by kernel_rfl) (by simp) ?_
      refine AllReadyH.cons rfl (fun K hK => ?_) AllReadyH.nil
      rw [if_pos (by kernel_rfl)]
      refine wp_store_mid 31 (.tmp 3) (.tmp 18) rfl (w.heap.size + 2) 0 L256.toArray (by kernel_rfl) (by kernel_rfl) (by rw [hL256]; exact there_of hHeld.rm.m hHeld.rm.mf _) (by rw [List.size_toArray, hL256, ncs_len]; exact info31) (by rw [hL256]; exact ncs_one _ _) ?_
      refine hK.out _ _ (hHeld.fr (fr_setCells (X := fun k => k = w.heap.size + 1 ∨ k = w.heap.size + 2) (.inr rfl) _ _ (Fr.refl _ _)) (by show Rm (World.setCells _ _ _ L256.toArray.toList) _ _ _ _; rw [hL256]; exact hHeld.rm.putM hHeld.rm.mi)) (fun hHeld => ?_)
      clear hK K
      refine wpAnyH_take (i := 4) (v := .bool false) rfl (by kernel_rfl) (by kernel_rfl) (by kernel_rfl) (fun _ _ _ h => h) (Or.inl ⟨by rfl, fun w' hSw => by (go_simp)⟩) hHeld ?_
      refine wpAnyH_done (by kernel_rfl) ?_ _
      simp only [Act.put, List.setIfInBounds_toArray, List.set_cons_zero, List.set_cons_succ, List.getElem_cons_zero, List.getElem_cons_succ, List.getElem_toArray]
      have HSe : Hid (Sw w (((V.drew).setCells (w.heap.size + 1) 0 L32.toArray.toList).setCells (w.heap.size + 2) 0 L256.toArray.toList) ra ma rl rc ml mc zeroF zeroF) := hHeld
      clear hHeld HS HSd c0 c1 z0
      generalize ((V.drew).setCells (w.heap.size + 1) 0 L32.toArray.toList).setCells (w.heap.size + 2) 0 L256.toArray.toList = Z at *
      go_wp2_with fail
      exact start_ret HSe.out rfl rfl rfl rfl
end Go.Proofs.Ytehohblcildieaa.Al
