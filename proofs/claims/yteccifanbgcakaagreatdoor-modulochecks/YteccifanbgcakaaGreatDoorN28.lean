/- Package bounds: the least number of cycles that lets every way back be in time (leastOf, byRounds), read off the program by the walk. Conditions: the dependences lie in memory. -/
import Derived.Test.YteccifanbgcakaaGreatDoorN27
import Derived.Great.Walk
import Derived.Test.YteccifanbgcakaaGreatDoorN26
namespace Go.Proofs.YteccifanbgcakaaGreatDoor.Bn
open Go.ChangeShapes Go.WideShapes Go.ChangeAt Go.RowKit Go.Great
open _root_.Go.Proofs.YteccifanbgcakaaGreatDoor.Op _root_.Go.Proofs.YteccifanbgcakaaGreatDoor.So
open _root_.Go.Proofs.YteccifanbgcakaaGreatDoor.Dp (Ed)
set_option maxRecDepth 20000

def zcs (n : Nat) : List Value := List.replicate n (.int .i64 0)
theorem ws_new (w : World) (t : TypeId) {n : Nat} (hn : n ≤ 64) : Ws (w.alloc (.cells (zcs 4096).toArray t)) w.heap.size n (fun _ _ => 0) := by
  have h := At.new w (zcs 4096).toArray t
  refine ⟨fun i j hi hj => h.c _ _ ?_, h.f, h.lt⟩
  rw [List.getElem?_toArray]
  unfold zcs
  rw [List.getElem?_replicate, if_pos (by omega)]
/-- No number is too great. -/
def Fit (n : Nat) (F : Mat) : Prop := ∀ k, k < n → (∀ j, j < k → fw F j j j ≤ 0) → Sm 2305843009213693951 (fw F k)
set_option maxHeartbeats 8000000 in
theorem inTime_any (n : Nat) (hn : n ≤ 64) (a : Option Addr) (c N : Nat) (es : List Ed) (hN : es.length = N) (q : Int) (w : World) (he : Es w a es) (hE : EL n es) (hq0 : 0 ≤ q) (hq1 : q ≤ 512) (hl : N ≤ 100000000) (hF : Fit n (stp q es)) :
    Calls Tryz.prog 73 #[.int .i64 n, .slice a N c, .int .i64 q] w fun e w' => e = .returned (.bool (inT (stp q es) n)) ∧ Below w.heap.size w w' := by
  have hne : ∀ x, a = some x → ¬ x.block = w.heap.size := fun x hx => by have := he.1 x hx; omega
  have g0 : Below w.heap.size w (w.alloc (.cells (zcs 4096).toArray 153)) := (Below.refl _ _).alloc (Nat.le_refl _) _
  have HSt : Hid (Calls Tryz.prog 115 #[.pointer (some ⟨w.heap.size, 0, none⟩), .int .i64 n, .slice a N c, .int .i64 q] (w.alloc (.cells (zcs 4096).toArray 153)) fun e w' => e = .returned (.tuple #[]) ∧ Wz (w.alloc (.cells (zcs 4096).toArray 153)) w' w.heap.size n (stp q es) a es) := steps_any w.heap.size n hn a c N es hN q _ (ws_new w 153 hn) (he.up g0) hne hE hq0 hq1 hl
  have HGo : Hid (∀ k W, k < n → (∀ j, j < k → fw (stp q es) j j j ≤ 0) → fw (stp q es) k k k ≤ 0 → Wz (w.alloc (.cells (zcs 4096).toArray 153)) W w.heap.size n (fw (stp q es) k) a es → Calls Tryz.prog 116 #[.pointer (some ⟨w.heap.size, 0, none⟩), .int .i64 n, .int .i64 (k : Int)] W fun e w' => e = .returned (.tuple #[]) ∧ Wz (w.alloc (.cells (zcs 4096).toArray 153)) w' w.heap.size n (fw (stp q es) (k + 1)) a es) := fun k W hk h0 h1 h2 => goOver_any w.heap.size n k hn hk a es (fw (stp q es) k) _ (Int.le_refl _) (hF k hk h0) h1 W _ h2 hne
  have HUp : Hid (∀ W F, Wz (w.alloc (.cells (zcs 4096).toArray 153)) W w.heap.size n F a es → Below w.heap.size w W) := fun W F h => g0.trans (h.fr.below (by simp) fun k hk e => by have e : k = w.heap.size := e; omega)
  have hn' : (n : Int) ≤ 64 := by omega
  clear he hE hl hF hne hN g0
  go_enter Tryz.func73, Tryz.ntmps73
  go_upto_region 1 with fail
  rename_i K0 hK0
  refine wp_region_lit ?_
  refine wpList_allocTo rfl (some 7) rfl (.pointer (some ⟨w.heap.size, 0, none⟩)) (.cells (zcs 4096).toArray 153) (by kernel_rfl) ?_
  refine wpList_nil ?_
  refine hK0 _ _ ?_
  clear hK0 K0
  simp only [Act.put, List.setIfInBounds_toArray, List.set_cons_zero, List.set_cons_succ]
  generalize (w.alloc (.cells (zcs 4096).toArray 153)) = V at *
  go_wp2_with (first
    | (go_at_call 115; refine Calls.mono HSt.out ?_; rintro e w1 ⟨rfl, hb⟩; have HQ : Hid (Wz V w1 w.heap.size n (fw (stp q es) 0) a es) := hb; clear hb HSt))
  go_loopw [14] (fun v wr => ∃ k : Nat, k ≤ n ∧ v = .int .i64 k ∧ (∀ j, j < k → fw (stp q es) j j j ≤ 0) ∧ Wz V wr w.heap.size n (fw (stp q es) k) a es) (fun v _ => n - (intOf v).toNat)
  case atStart => exact ⟨0, by omega, rfl, fun j hj => by omega, HQ.out⟩
  case round =>
    rename World => wr
    obtain ⟨k, hk, rfl, hall, hs⟩ := hrel
    have HZ : Hid (Wz V wr w.heap.size n (fw (stp q es) k) a es) := hs
    have HA : Hid (∀ j, j < k → fw (stp q es) j j j ≤ 0) := hall
    clear hs hall HQ
    by_cases hlt : k < n
    · have k0 : (0 : Int) ≤ (k : Int) := by omega
      have k1 : (k : Int) < (n : Int) := by omega
      have cc := HZ.out.m.c k k hlt hlt
      have cl := HZ.out.m.lt
      by_cases hp : 0 < fw (stp q es) k k k
      · have HRes : Hid (inT (stp q es) n = false) := inT_no hlt hp
        generalize fw (stp q es) k k k = g at *
        go_wp2_with fail
        go_ret
        exact ⟨by rw [HRes.out]; rfl, HUp.out _ _ HZ.out⟩
      · have hp' : fw (stp q es) k k k ≤ 0 := by omega
        have HGk : Hid (∀ W, Wz V W w.heap.size n (fw (stp q es) k) a es → Calls Tryz.prog 116 #[.pointer (some ⟨w.heap.size, 0, none⟩), .int .i64 n, .int .i64 (k : Int)] W fun e w' => e = .returned (.tuple #[]) ∧ Wz V w' w.heap.size n (fw (stp q es) (k + 1)) a es) := fun W hW => HGo.out k W hlt HA.out hp' hW
        have HA2 : Hid (∀ j, j < k + 1 → fw (stp q es) j j j ≤ 0) := fun j hj => by
          by_cases e : j = k
          · subst e; exact hp'
          · exact HA.out j (by omega)
        generalize fw (stp q es) k k k = g at *
        go_wp2_with (first
          | (go_at_call 116; refine Calls.mono (HGk.out _ HZ.out) ?_; rintro e w2 ⟨rfl, hb⟩; have HZ2 : Hid (Wz V w2 w.heap.size n (fw (stp q es) (k + 1)) a es) := hb; clear hb HGk HZ cc cl))
        go_roundw
        case rel => exact ⟨k + 1, by omega, by go_num, HA2.out, HZ2.out⟩
        case measure => simp [intOf]; omega
    · obtain rfl : k = n := by omega
      have k1 : ¬ (k : Int) < (k : Int) := by omega
      have HRes : Hid (inT (stp q es) k = true) := inT_of HA.out
      go_wp2_with fail
      go_ret
      exact ⟨by rw [HRes.out]; rfl, HUp.out _ _ HZ.out⟩
end Go.Proofs.YteccifanbgcakaaGreatDoor.Bn

namespace Go.Proofs.YteccifanbgcakaaGreatDoor.Bn
open _root_.Go.Proofs.YteccifanbgcakaaGreatDoor.Dp (Ed)
set_option maxRecDepth 20000

/-- How long the way from i over these to j is. -/
def Wk (F : Mat) (j : Nat) : Nat → List Nat → Int → Prop
  | i, [], x => F i j ≠ (-9223372036854775808) ∧ x = F i j
  | i, v :: l, x => F i v ≠ (-9223372036854775808) ∧ ∃ y, Wk F j v l y ∧ x = F i v + y
theorem Wk.cat {F : Mat} {v j : Nat} {l2 : List Nat} {y : Int} (h2 : Wk F j v l2 y) : ∀ {i : Nat} {l1 : List Nat} {x : Int}, Wk F v i l1 x → Wk F j i (l1 ++ v :: l2) (x + y)
  | i, [], x, h => ⟨h.1, y, h2, by rw [h.2]⟩
  | i, a :: l, x, ⟨h, z, h1, e⟩ => ⟨h, z + y, Wk.cat h2 h1, by rw [e]; omega⟩
theorem Wk.split {F : Mat} {v j : Nat} : ∀ {i : Nat} {l : List Nat} {x : Int}, Wk F j i l x → v ∈ l → ∃ l1 l2 x1 x2, Wk F v i l1 x1 ∧ Wk F j v l2 x2 ∧ x = x1 + x2 ∧ (∀ a, a ∈ l1 → a ∈ l) ∧ (∀ a, a ∈ l2 → a ∈ l)
  | i, [], x, _, h => by cases h
  | i, a :: l, x, ⟨h0, y, h1, e⟩, h => by
    rcases List.mem_cons.1 h with rfl | h
    · exact ⟨[], l, F i v, y, ⟨h0, rfl⟩, h1, e, fun a ha => (by cases ha), fun a ha => List.mem_cons_of_mem _ ha⟩
    · obtain ⟨l1, l2, x1, x2, g1, g2, g3, g4, g5⟩ := Wk.split h1 h
      refine ⟨a :: l1, l2, F i a + x1, x2, ⟨h0, x1, g1, rfl⟩, g2, by omega, fun b hb => ?_, fun b hb => List.mem_cons_of_mem _ (g5 b hb)⟩
      rcases List.mem_cons.1 hb with rfl | hb
      · exact List.mem_cons_self ..
      · exact List.mem_cons_of_mem _ (g4 b hb)
theorem Wk.le {F : Mat} {j : Nat} (hs : Sm 512 F) : ∀ {i : Nat} {l : List Nat} {x : Int}, Wk F j i l x → -512 * ((l.length : Int) + 1) ≤ x ∧ x ≤ 512 * ((l.length : Int) + 1)
  | i, [], x, h => by
    have := hs i j
    have h2 := h.2; have h1 := h.1
    simp only [List.length_nil]
    omega
  | i, a :: l, x, ⟨h0, y, h1, e⟩ => by
    have := hs i a
    have ih := Wk.le hs h1
    simp only [List.length_cons]
    omega
theorem Wk.dom {F G : Mat} {j k : Nat} (hs : Sm 512 F) (hg : ∀ a b, F a b ≤ G a b) (ht : ∀ o, o < k → Tri G o) : ∀ {i : Nat} {l : List Nat} {x : Int}, Wk F j i l x → (∀ a, a ∈ l → a < k) → G i j ≠ (-9223372036854775808) ∧ x ≤ G i j
  | i, [], x, h, _ => by
    have := hs i j
    have h2 := h.2; have h1 := h.1
    have h3 := hg i j
    omega
  | i, a :: l, x, ⟨h0, y, h1, e⟩, hl => by
    have := hs i a
    have h3 := hg i a
    obtain ⟨g1, g2⟩ := Wk.dom hs hg ht h1 fun b hb => hl b (List.mem_cons_of_mem _ hb)
    have := ht a (hl a (List.mem_cons_self ..)) i j (by omega) g1
    omega
theorem nodup_le : ∀ (k : Nat) (l : List Nat), l.Nodup → (∀ a, a ∈ l → a < k) → l.length ≤ k
  | 0, l, _, h => by
    rcases l with _ | ⟨a, l⟩
    · exact Nat.le_refl _
    · exact absurd (h a (List.mem_cons_self ..)) (by omega)
  | k + 1, l, hn, h => by
    have ih := nodup_le k (l.erase k) (hn.erase k) fun a ha => by
      have h1 := h a (List.mem_of_mem_erase ha)
      have h2 : a ≠ k := ((hn.mem_erase_iff).1 ha).1
      omega
    have := List.length_erase (a := k) (l := l)
    split at this <;> omega
/-- A longest way that goes over no operation twice. -/
def Smp (F : Mat) (k : Nat) : Prop := ∀ i j, fw F k i j = (-9223372036854775808) ∨ ∃ l : List Nat, l.Nodup ∧ (∀ a, a ∈ l → a < k) ∧ Wk F j i l (fw F k i j)
theorem Smp.sm {F : Mat} {k : Nat} (hs : Sm 512 F) (h : Smp F k) (hk : k ≤ 64) : Sm 33280 (fw F k) := fun i j => by
  rcases h i j with h | ⟨l, h1, h2, h3⟩
  · exact .inl h
  · have h4 := h3.le hs
    have h5 := nodup_le k l h1 h2
    right
    omega
theorem smp_all {F : Mat} (hs : Sm 512 F) : ∀ k, k ≤ 64 → (∀ j, j < k → fw F j j j ≤ 0) → (∀ m, m ≤ k → Sm 33280 (fw F m)) ∧ Smp F k
  | 0, _, _ => ⟨fun m hm => by
      obtain rfl : m = 0 := by omega
      intro i j
      have := hs i j
      show F i j = _ ∨ _
      show F i j = _ ∨ -33280 ≤ F i j ∧ F i j ≤ 33280
      omega, fun i j => by
      by_cases e : fw F 0 i j = (-9223372036854775808)
      · exact .inl e
      · exact .inr ⟨[], List.nodup_nil, fun a ha => (by cases ha), e, rfl⟩⟩
  | k + 1, hk, hd => by
    obtain ⟨hm, ih⟩ := smp_all hs k (by omega) fun j hj => hd j (by omega)
    have hkk := hd k (by omega)
    have ht : ∀ o, o < k → Tri (fw F k) o := fw_tri (by omega) hm fun j hj => hd j (by omega)
    have hg : ∀ a b, F a b ≤ fw F k a b := fun a b => fw_ge F a b k
    have key : Smp F (k + 1) := fun i j => by
      have up : (∃ l : List Nat, l.Nodup ∧ (∀ a, a ∈ l → a < k) ∧ Wk F j i l (fw F k i j)) → ∃ l : List Nat, l.Nodup ∧ (∀ a, a ∈ l → a < k + 1) ∧ Wk F j i l (fw F k i j) := fun ⟨l, h1, h2, h3⟩ => ⟨l, h1, fun a ha => by have := h2 a ha; omega, h3⟩
      show gOv (fw F k) k i j = _ ∨ ∃ l : List Nat, l.Nodup ∧ (∀ a, a ∈ l → a < k + 1) ∧ Wk F j i l (gOv (fw F k) k i j)
      by_cases c : fw F k i k = (-9223372036854775808) ∨ fw F k k j = (-9223372036854775808)
      · rw [gOv_no c]
        exact (ih i j).imp id up
      · rw [gOv_yes c]
        have c1 : fw F k i k ≠ (-9223372036854775808) := fun e => c (.inl e)
        have c2 : fw F k k j ≠ (-9223372036854775808) := fun e => c (.inr e)
        by_cases c3 : fw F k i j ≠ (-9223372036854775808) ∧ fw F k i k + fw F k k j ≤ fw F k i j
        · rw [Int.max_eq_left c3.2]
          exact (ih i j).imp id up
        · have s1 := hm k (Nat.le_refl _) i j
          have s2 := hm k (Nat.le_refl _) i k
          have s3 := hm k (Nat.le_refl _) k j
          rw [Int.max_eq_right (by omega)]
          obtain ⟨l1, n1, b1, w1⟩ := (ih i k).resolve_left c1
          obtain ⟨l2, n2, b2, w2⟩ := (ih k j).resolve_left c2
          refine .inr ⟨l1 ++ k :: l2, ?_, fun a ha => ?_, w2.cat w1⟩
          · have hne : ∀ a, a ∈ l1 → ∀ b, b ∈ k :: l2 → a ≠ b := fun a ha b hb e => by
              subst e
              rcases List.mem_cons.1 hb with e | hb
              · have := b1 a ha; omega
              · obtain ⟨p1, p2, x1, x2, g1, g2, g3, g4, g5⟩ := w1.split ha
                obtain ⟨q1, q2, y1, y2, f1, f2, f3, f4, f5⟩ := w2.split hb
                have d1 := g1.dom hs hg ht fun z hz => b1 z (g4 z hz)
                have d2 := g2.dom hs hg ht fun z hz => b1 z (g5 z hz)
                have d3 := f1.dom hs hg ht fun z hz => b2 z (f4 z hz)
                have d4 := f2.dom hs hg ht fun z hz => b2 z (f5 z hz)
                have t1 := ht a (b1 a ha) i j d1.1 d4.1
                have t2 := ht a (b1 a ha) k k d3.1 d2.1
                exact c3 ⟨t1.1, by omega⟩
            exact List.nodup_append.2 ⟨n1, List.nodup_cons.2 ⟨fun h => by have := b2 k h; omega, n2⟩, hne⟩
          · rcases List.mem_append.1 ha with ha | ha
            · have := b1 a ha; omega
            · rcases List.mem_cons.1 ha with rfl | ha
              · omega
              · have := b2 a ha; omega
    refine ⟨fun m h => ?_, key⟩
    by_cases e : m = k + 1
    · subst e; exact key.sm hs hk
    · exact hm m (by omega)
/-- No number is too great, for every body. -/
theorem fw_small {n : Nat} {es : List Ed} (he : EL n es) (hn : n ≤ 64) {q : Int} (h0 : 0 ≤ q) (h1 : q ≤ 512) {k : Nat} (hk : k ≤ n) (hd : ∀ j, j < k → fw (stp q es) j j j ≤ 0) : Sm 33280 (fw (stp q es) k) :=
  (smp_all (stp_sm he h0 h1) k (by omega) hd).1 k (Nat.le_refl _)
theorem pot_inT64 {n : Nat} {es : List Ed} (he : EL n es) (hn : n ≤ 64) {q : Int} (h0 : 0 ≤ q) (h1 : q ≤ 512) (h : inT (stp q es) n = true) : Pot es q := by
  have hd := inT_all h
  have hs := (smp_all (stp_sm he h0 h1) n hn hd).1
  have ht := fw_tri (by omega) hs hd
  have hg : ∀ e ∈ es, wt q e ≤ fw (stp q es) n e.f.toNat e.t.toNat := fun e hm => Int.le_trans (foldl_mem q es _ e hm) (fw_ge ..)
  generalize fw (stp q es) n = F at *
  refine ⟨fun j => mxF F j n, fun e hm => ?_⟩
  have e1 := he e hm
  have f0 := e1.f0; have fn := e1.fn
  have g1 := hg e hm
  have g2 := wt_in e1 h0 h1
  have hf : e.f.toNat < n := by omega
  have h2 := mxF_ge F e.t.toNat hf
  have nw : F e.f.toNat e.t.toNat ≠ (-9223372036854775808) := by omega
  show mxF F e.f.toNat n + wt q e ≤ mxF F e.t.toNat n
  rcases mxF_ex F e.f.toNat n with h3 | ⟨i, hi, h3⟩
  · omega
  · have h4 := mxF_ge F e.t.toNat hi
    have h5 := mxF_0 F e.f.toNat n
    have t := ht _ hf i e.t.toNat (by omega) nw
    omega
theorem inT_iff64 {n : Nat} {es : List Ed} (he : EL n es) (hn : n ≤ 64) {q : Int} (h0 : 0 ≤ q) (h1 : q ≤ 512) : inT (stp q es) n = true ↔ Pot es q := ⟨pot_inT64 he hn h0 h1, inT_pot⟩
end Go.Proofs.YteccifanbgcakaaGreatDoor.Bn

namespace Go.Proofs.YteccifanbgcakaaGreatDoor.Bn
open Go.ChangeShapes Go.WideShapes Go.ChangeAt Go.RowKit
open _root_.Go.Proofs.YteccifanbgcakaaGreatDoor.Op _root_.Go.Proofs.YteccifanbgcakaaGreatDoor.So
open _root_.Go.Proofs.YteccifanbgcakaaGreatDoor.Dp (Ed)
set_option maxRecDepth 20000

/-- What the search rests on. -/
structure Srch (P : Int → Bool) : Prop where
  top : P 512 = true
  up : ∀ q p, 1 ≤ q → q ≤ p → p ≤ 512 → P q = true → P p = true
set_option maxHeartbeats 4000000 in
theorem leastOf_any (P : Int → Bool) (hP : Srch P) (x y : Value) (w : World) (hC : ∀ W (q : Int), Below w.heap.size w W → 1 ≤ q → q ≤ 512 → Calls Tryz.prog 72 #[.int .i64 q, x, y] W fun e w' => e = .returned (.bool (P q)) ∧ Below W.heap.size W w') :
    Calls Tryz.prog 71 #[.int .i64 1, .int .i64 512, .func (.func 72) #[] #[x, y]] w fun e w' => e = .returned (.int .i64 (rnd P)) ∧ Below w.heap.size w w' := by
  have HC : Hid (∀ W (q : Int), Below w.heap.size w W → 1 ≤ q → q ≤ 512 → Calls Tryz.prog 72 #[.int .i64 q, x, y] W fun e w' => e = .returned (.bool (P q)) ∧ Below W.heap.size W w') := hC
  have HP : Hid (Srch P) := hP
  clear hC hP
  go_enter Tryz.func71, Tryz.ntmps71
  go_wp2_with fail
  go_loopw [0, 1] (fun u v wr => ∃ l h : Int, 1 ≤ l ∧ l ≤ h ∧ h ≤ 512 ∧ u = .int .i64 l ∧ v = .int .i64 h ∧ P h = true ∧ (∀ m, 1 ≤ m → m < l → P m = false) ∧ Below w.heap.size w wr) (fun u v _ => (intOf v - intOf u).toNat)
  case atStart => exact ⟨1, 512, by omega, by omega, by omega, rfl, rfl, HP.out.top, fun m h1 h2 => by omega, Below.refl _ _⟩
  case round =>
    rename World => wr
    obtain ⟨l, h, h1, h2, h3, rfl, rfl, h4, h5, h6⟩ := hrel
    have HI : Hid (P h = true ∧ (∀ m, 1 ≤ m → m < l → P m = false) ∧ Below w.heap.size w wr) := ⟨h4, h5, h6⟩
    clear h4 h5 h6
    by_cases hlt : l < h
    · obtain ⟨m, hm⟩ : ∃ m, l + (h - l) / 2 = m := ⟨_, rfl⟩
      have m1 : l ≤ m := by omega
      have m2 : m < h := by omega
      have ht : (h - l).tdiv 2 = (h - l) / 2 := Int.tdiv_eq_ediv_of_nonneg (by omega)
      have HCm : Hid (Calls Tryz.prog 72 #[.int .i64 m, x, y] wr fun e w' => e = .returned (.bool (P m)) ∧ Below wr.heap.size wr w') := HC.out wr m HI.out.2.2 (by omega) (by omega)
      cases hPm : P m
      · have HL : Hid (∀ k, 1 ≤ k → k < m + 1 → P k = false) := fun k k1 k2 => by
          cases e : P k
          · rfl
          · rw [HP.out.up k m k1 (by omega) (by omega) e] at hPm; cases hPm
        rw [hPm] at HCm
        clear hPm
        go_wp2_with (first
          | (rw [ht, hm]; go_at_call 72; refine Calls.mono HCm.out ?_; rintro e w1 ⟨rfl, hb⟩; have HB : Hid (Below w.heap.size w w1) := HI.out.2.2.trans (hb.mono HI.out.2.2.size); clear hb HCm)
          | (go_at_call 72; refine Calls.mono HCm.out ?_; rintro e w1 ⟨rfl, hb⟩; have HB : Hid (Below w.heap.size w w1) := HI.out.2.2.trans (hb.mono HI.out.2.2.size); clear hb HCm))
        go_roundw
        case rel => exact ⟨m + 1, h, by omega, by omega, by omega, rfl, rfl, HI.out.1, HL.out, HB.out⟩
        case measure => simp [intOf]; omega
      · have HT : Hid (P m = true) := hPm
        rw [hPm] at HCm
        clear hPm
        go_wp2_with (first
          | (rw [ht, hm]; go_at_call 72; refine Calls.mono HCm.out ?_; rintro e w1 ⟨rfl, hb⟩; have HB : Hid (Below w.heap.size w w1) := HI.out.2.2.trans (hb.mono HI.out.2.2.size); clear hb HCm)
          | (go_at_call 72; refine Calls.mono HCm.out ?_; rintro e w1 ⟨rfl, hb⟩; have HB : Hid (Below w.heap.size w w1) := HI.out.2.2.trans (hb.mono HI.out.2.2.size); clear hb HCm))
        go_roundw
        case rel => exact ⟨l, m, by omega, by omega, by omega, rfl, rfl, HT.out, HI.out.2.1, HB.out⟩
        case measure => simp [intOf]; omega
    · obtain rfl : l = h := by omega
      have hlt' : ¬ l < l := by omega
      have HR : Hid (l = rnd P) := rnd_uniq HP.out.top HI.out.1 h1 HI.out.2.1
      go_wp2_with fail
      go_ret
      exact ⟨by rw [← HR.out]; rfl, HI.out.2.2⟩
set_option maxHeartbeats 2000000 in
theorem clo_any (n : Nat) (a : Option Addr) (c N b1 b2 : Nat) (q : Int) (P : Bool) (w : World) (h1 : w.cell? ⟨b1, 0, none⟩ = some (.int .i64 n)) (h2 : w.cell? ⟨b2, 0, none⟩ = some (.slice a N c)) (hC : Calls Tryz.prog 73 #[.int .i64 n, .slice a N c, .int .i64 q] w fun e w' => e = .returned (.bool P) ∧ Below w.heap.size w w') :
    Calls Tryz.prog 72 #[.int .i64 q, .pointer (some ⟨b1, 0, none⟩), .pointer (some ⟨b2, 0, none⟩)] w fun e w' => e = .returned (.bool P) ∧ Below w.heap.size w w' := by
  have HC : Hid (Calls Tryz.prog 73 #[.int .i64 n, .slice a N c, .int .i64 q] w fun e w' => e = .returned (.bool P) ∧ Below w.heap.size w w') := hC
  clear hC
  go_enter Tryz.func72, Tryz.ntmps72
  go_wp2_with (first
    | (go_at_call 73; refine Calls.mono HC.out ?_; rintro e w1 ⟨rfl, hb⟩; have HB : Hid (Below w.heap.size w w1) := hb; clear hb HC))
  go_ret
  exact ⟨rfl, HB.out⟩
/-- In how many cycles every way back is in time. -/
def rndE (n : Nat) (es : List Ed) : Int := rnd fun q => inT (stp q es) n
theorem srch_of {n : Nat} {es : List Ed} (hE : EL n es) (hn : n ≤ 64) : Srch fun q => inT (stp q es) n :=
  ⟨(inT_iff64 hE hn (by omega) (by omega)).2 (pot_big hE (by omega) (by omega)), fun q p h1 h2 h3 h => (inT_iff64 hE hn (by omega) h3).2 (pot_mono hE h2 ((inT_iff64 hE hn (by omega) (by omega)).1 h))⟩
theorem fit_of {n : Nat} {es : List Ed} (hE : EL n es) (hn : n ≤ 64) {q : Int} (h0 : 0 ≤ q) (h1 : q ≤ 512) : Fit n (stp q es) := fun k hk hd i j => by
  have := fw_small hE hn h0 h1 (k := k) (by omega) hd i j
  omega
set_option maxHeartbeats 2000000 in
theorem byRounds_any (n : Nat) (hn : n ≤ 64) (a : Option Addr) (c N : Nat) (es : List Ed) (hN : es.length = N) (w : World) (he : Es w a es) (hE : EL n es) (hl : N ≤ 100000000) (hP : Srch fun q => inT (stp q es) n) (hF : ∀ q : Int, 0 ≤ q → q ≤ 512 → Fit n (stp q es)) :
    Calls Tryz.prog 38 #[.int .i64 n, .slice a N c] w fun e w' => e = .returned (.int .i64 (rndE n es)) ∧ Below w.heap.size w w' := by
  have HL : Hid (∀ W, Below (w.heap.size + 1 + 1) ((w.alloc (.cells #[.int .i64 n] 3)).alloc (.cells #[.slice a N c] 47)) W → Calls Tryz.prog 71 #[.int .i64 1, .int .i64 512, .func (.func 72) #[] #[.pointer (some ⟨w.heap.size, 0, none⟩), .pointer (some ⟨w.heap.size + 1, 0, none⟩)]] W fun e w' => e = .returned (.int .i64 (rndE n es)) ∧ Below W.heap.size W w') := fun W hb => by
    have hz := hb.size
    simp at hz
    have a1 := ((At.new w #[.int .i64 n] 3).alloc (.cells #[.slice a N c] 47)).below hb (by omega)
    have a2 := At.new (w.alloc (.cells #[.int .i64 n] 3)) #[.slice a N c] 47
    rw [show (w.alloc (.cells #[.int .i64 n] 3)).heap.size = w.heap.size + 1 by simp] at a2
    have a2 := a2.below hb (by omega)
    have hw : Below w.heap.size w W := Below.trans (by go_grown) (hb.mono (by omega))
    refine leastOf_any _ hP _ _ W fun X q hX h1 h2 => ?_
    refine clo_any n a c N _ _ q _ X ((a1.below hX a1.lt).c 0 _ rfl) ((a2.below hX a2.lt).c 0 _ rfl) ?_
    exact inTime_any n hn a c N es hN q X ((he.up hw).up hX) hE (by omega) h2 hl (hF q (by omega) h2)
  clear he hE hl hP hF
  generalize rndE n es = r at *
  go_enter Tryz.func38, Tryz.ntmps38
  go_wp2_with (first
    | (go_at_call 71; refine Calls.mono (HL.out _ (Below.refl _ _)) ?_; rintro e w1 ⟨rfl, hb⟩; have HB : Hid (Below w.heap.size w w1) := Below.trans (by go_grown) (hb.mono (by simp; omega)); clear hb HL))
  go_ret
  exact ⟨rfl, HB.out⟩
end Go.Proofs.YteccifanbgcakaaGreatDoor.Bn
