/- A list folded in its place, any list; a program in lists of its own, and what of it stays while one of them turns. Conditions: said at each. -/
import Derived.Test.YtddcndlogoajkaaGreatDoorGd
namespace Go.Proofs.YtddcndlogoajkaaGreatDoor.L8.Bt
open Go.ChangeShapes Go.WideShapes Go.ChangeAt Go.RowKit Go.Great
open _root_.Go.Proofs.YtddcndlogoajkaaGreatDoor.L8.Op _root_.Go.Proofs.YtddcndlogoajkaaGreatDoor.L8.So
open _root_.Go.Proofs.YtddcndlogoajkaaGreatDoor.L8.Lv (rdL wOf PsOk)
set_option maxRecDepth 20000

theorem fs_start {w : World} {b : Nat} {xs : List O} (h : Ol w b xs) : Fs w ((w.alloc (.cells (fA kn0) 90)).alloc (.cells (fA kn0) 90)) b xs 0 := by
  have h1 := Op.At.new w (fA kn0) 90
  have h2 := Op.At.new (w.alloc (.cells (fA kn0) 90)) (fA kn0) 90
  have hz : (w.alloc (.cells (fA kn0) 90)).heap.size = w.heap.size + 1 := by simp
  rw [hz] at h2
  have h1' := h1.alloc (.cells (fA kn0) 90)
  have hb : Below w.heap.size w ((w.alloc (.cells (fA kn0) 90)).alloc (.cells (fA kn0) 90)) := ((Below.refl _ _).alloc (Nat.le_refl _) _).alloc (by simp) _
  refine ⟨?_, ⟨h2.lt, h2.f, fun r hr => ?_, fun r hr => ?_⟩, fun j hj => ⟨by rw [h1'.c j _ (fA_get _ j hj)]; rfl, h1'.f j⟩, by simp, Fr.of hb⟩
  · have e : mixL xs 0 = xs := by simp [mixL, fdL]
    rw [e]
    exact h.below hb
  · have := h2.c (r * 2) _ (fA_get _ (r * 2) (by omega))
    rw [this]
    unfold fF
    rw [if_pos (by omega), show r * 2 / 2 = r by omega]
    rfl
  · have := h2.c (r * 2 + 1) _ (fA_get _ (r * 2 + 1) (by omega))
    rw [this]
    unfold fF
    rw [if_neg (by omega), show (r * 2 + 1) / 2 = r by omega]
    rfl
/-- What foldList tells and leaves. -/
structure Fo (w w' : World) (b : Nat) (xs : List O) (e : Ending) : Prop where
  v : e = .returned (.agg (fA (fdK kn0 xs)))
  o : Ol w' b (fdL kn0 xs)
  f : Fr (One b) w w'
theorem Fs.step {w w2 w4 : World} {b : Nat} {xs : List O} {k : Nat} (h : Fs w w2 b xs k) (hk : k < xs.length) (hb : b < w.heap.size) (y : O) (hy : fdO (fdK kn0 (xs.take k)) xs[k] = y)
    (hn : Nt (((((w2.setCell ⟨b, k * 5, none⟩ (.int .i8 y.op)).setCell ⟨b, k * 5 + 1, none⟩ (.int .u8 y.d)).setCell ⟨b, k * 5 + 2, none⟩ (.int .u8 y.a)).setCell ⟨b, k * 5 + 3, none⟩ (.int .u8 y.b)).setCell ⟨b, k * 5 + 4, none⟩ (.int .i64 y.im)) w4 (w.heap.size + 1) (ntO (fdK kn0 (xs.take k)) y)) : Fs w w4 b xs (k + 1) := by
  have hs := h.s
  have hf := fr_set5 (Fr.refl (One b) w2) (b := b) (j := k * 5) (.inr rfl) (.int .i8 y.op) (.int .u8 y.d) (.int .u8 y.a) (.int .u8 y.b) (.int .i64 y.im)
  have ho := h.o.put k y
  generalize hW : ((((w2.setCell ⟨b, k * 5, none⟩ (.int .i8 y.op)).setCell ⟨b, k * 5 + 1, none⟩ (.int .u8 y.d)).setCell ⟨b, k * 5 + 2, none⟩ (.int .u8 y.a)).setCell ⟨b, k * 5 + 3, none⟩ (.int .u8 y.b)).setCell ⟨b, k * 5 + 4, none⟩ (.int .i64 y.im) = W at *
  have hsz := hf.size
  refine ⟨?_, ?_, fun j hj => ?_, Nat.le_trans hs (Nat.le_trans hsz hn.f.size), ?_⟩
  · rw [mixL_next xs k hk, hy]
    exact ho.fr hn.f (fun q => by have q : b = w.heap.size + 1 := q; omega)
  · rw [fdK_take kn0 xs k hk, hy]
    exact hn.k
  · have n1 : ¬ One b w.heap.size := fun q => by have q : w.heap.size = b := q; omega
    have n2 : ¬ One (w.heap.size + 1) w.heap.size := fun q => by have q : w.heap.size = w.heap.size + 1 := q; omega
    obtain ⟨r1, r2⟩ := h.r j hj
    exact ⟨by rw [hn.f.cell (by omega) n2, hf.cell (by omega) n1]; exact r1, by rw [hn.f.frozen (by omega) n2, hf.frozen (by omega) n1]; exact r2⟩
  · exact (h.f.same hf).new hn.f (by omega)
set_option maxHeartbeats 8000000 in
theorem foldList_some (b cap : Nat) (xs : List O) (w : World) (h : Ol w b xs) (hok : ∀ o ∈ xs, o.Ok ∧ okP o = true) (hl : xs.length ≤ 8192) :
    Calls Tryz.prog 36 #[.slice (some ⟨b, 0, none⟩) xs.length cap] w fun e w' => Fo w w' b xs e := by
  have HS0 : Hid _ := fs_start h
  have HOk : Hid _ := hok
  have hbw := h.lt
  clear h hok
  go_enter Tryz.func36, Tryz.ntmps36
  apply wp_seq_k; intro K0 hK0
  apply wp_region_lit
  refine wpList_allocTo rfl (some 2) rfl (.pointer (some ⟨w.heap.size, 0, none⟩)) (.cells (fA kn0) 90) (by kernel_rfl) ?_
  refine wpList_nil ?_
  refine hK0 _ _ ?_
  apply wp_seq_k; intro K1 hK1
  apply wp_region_lit
  refine wpList_allocTo rfl (some 3) rfl (.pointer (some ⟨(w.alloc (.cells (fA kn0) 90)).heap.size, 0, none⟩)) (.cells (fA kn0) 90) (by kernel_rfl) ?_
  refine wpList_nil ?_
  refine hK1 _ _ ?_
  clear hK1 hK0 K1 K0
  generalize (w.alloc (.cells (fA kn0) 90)).alloc (.cells (fA kn0) 90) = W0 at *
  simp only [Act.put, List.setIfInBounds_toArray, List.set_cons_zero, List.set_cons_succ, World.size_alloc]
  go_wp2_with fail
  go_loopw [8] (fun i wr => ∃ k : Nat, k ≤ xs.length ∧ i = .int .i64 k ∧ Fs w wr b xs k) (fun i _ => xs.length - (intOf i).toNat)
  case atStart => exact ⟨0, by omega, rfl, HS0.out⟩
  case round =>
    rename_i wr
    obtain ⟨k, hk, rfl, hs⟩ := hrel
    clear HS0
    have HS : Hid _ := hs
    clear hs
    by_cases hlt : k < xs.length
    · have hx := HOk.out _ (List.getElem_mem hlt)
      have hM := mixL_at xs k hlt
      obtain ⟨hMk, hMe⟩ := List.getElem?_eq_some_iff.1 hM
      have hsz := HS.out.s
      have hkz : (k : Int) < (xs.length : Int) := by omega
      have hat := HS.out.o.c k hMk
      rw [hMe] at hat
      obtain ⟨c0, c1, c2, c3, c4⟩ := hat
      have hK := fdK_in kn0 (xs.take k) kin0 (fun o ho => HOk.out o (List.mem_of_mem_take ho))
      obtain ⟨hya, hyb⟩ := regs_small hx.2
      have HF : Hid (∀ W, Fk W (w.heap.size + 1) (fdK kn0 (xs.take k)) → Calls Tryz.prog 64 #[.pointer (some ⟨w.heap.size + 1, 0, none⟩), xs[k].val] W fun e w' => e = .returned (fdO (fdK kn0 (xs.take k)) xs[k]).val ∧ Below W.heap.size W w') := fun W hW => fold_any _ _ _ W hW hK hx.1 hya hyb
      have hy := (fdO_ok (fdK kn0 (xs.take k)) hx.1 hx.2).1
      have HN : Hid (∀ W, Fk W (w.heap.size + 1) (fdK kn0 (xs.take k)) → Calls Tryz.prog 65 #[.pointer (some ⟨w.heap.size + 1, 0, none⟩), (fdO (fdK kn0 (xs.take k)) xs[k]).val] W fun e w' => e = .returned (.tuple #[]) ∧ Nt W w' (w.heap.size + 1) (ntO (fdK kn0 (xs.take k)) (fdO (fdK kn0 (xs.take k)) xs[k]))) := fun W hW => note_any _ _ _ W hW hy
      have HT : Hid (∀ w2 w4 y, Fs w w2 b xs k → fdO (fdK kn0 (xs.take k)) xs[k] = y → Nt (((((w2.setCell ⟨b, k * 5, none⟩ (.int .i8 y.op)).setCell ⟨b, k * 5 + 1, none⟩ (.int .u8 y.d)).setCell ⟨b, k * 5 + 2, none⟩ (.int .u8 y.a)).setCell ⟨b, k * 5 + 3, none⟩ (.int .u8 y.b)).setCell ⟨b, k * 5 + 4, none⟩ (.int .i64 y.im)) w4 (w.heap.size + 1) (ntO (fdK kn0 (xs.take k)) y) → Fs w w4 b xs (k + 1)) := fun w2 w4 y h1 h2 h3 => Fs.step h1 hlt hbw y h2 h3
      clear hx hM hMe hK hya hyb hy
      generalize hY : fdO (fdK kn0 (xs.take k)) xs[k] = y at *

      clear hY
      have HKf : Hid (Fk wr (w.heap.size + 1) (fdK kn0 (xs.take k))) := HS.out.k
      have HG : Hid (∀ w2, Fs w w2 b xs k → Fk (((((w2.setCell ⟨b, k * 5, none⟩ (.int .i8 y.op)).setCell ⟨b, k * 5 + 1, none⟩ (.int .u8 y.d)).setCell ⟨b, k * 5 + 2, none⟩ (.int .u8 y.a)).setCell ⟨b, k * 5 + 3, none⟩ (.int .u8 y.b)).setCell ⟨b, k * 5 + 4, none⟩ (.int .i64 y.im)) (w.heap.size + 1) (fdK kn0 (xs.take k))) := fun w2 h2 => h2.k.fr (fr_set5 (Fr.refl (One b) w2) (b := b) (j := k * 5) (.inr rfl) _ _ _ _ _) (fun q => by have q : w.heap.size + 1 = b := q; omega)
      generalize fdK kn0 (xs.take k) = K at *
      generalize xs[k] = x at *
      obtain ⟨xo, xd, xa, xb, xi⟩ := x
      obtain ⟨yo, yd, ya, yb, yi⟩ := y
      simp only at *
      have hbr : ¬ b = wr.heap.size := by omega
      have hbr' : ¬ wr.heap.size = b := by omega
      go_wp2_with (first
        | (go_at_call 64; go_loud (refine Calls.mono (HF.out _ (HKf.out.below (below_al _))) ?_; rintro e w2 ⟨rfl, hb⟩; obtain ⟨a1, hb0, hz⟩ := one_new wr _ _ hb; have HS2 : Hid (Fs w w2 b xs k) := HS.out.next hb0; obtain ⟨d0, d1, d2, d3, d4⟩ := HS2.out.o.c k hMk; have g0 := HS2.out.o.fz (k * 5); have g1 := HS2.out.o.fz (k * 5 + 1); have g2 := HS2.out.o.fz (k * 5 + 2); have g3 := HS2.out.o.fz (k * 5 + 3); have g4 := HS2.out.o.fz (k * 5 + 4); clear hb hb0 a1 HF c0 c1 c2 c3 c4))
        | (go_at_call 65; go_loud (refine Calls.mono (HN.out _ (HG.out _ HS2.out)) ?_; rintro e w4 ⟨rfl, hn⟩; have HS3 : Hid (Fs w w4 b xs (k + 1)) := HT.out w2 w4 _ HS2.out rfl hn; clear hn HN)))
      go_roundw
      case rel => exact ⟨k + 1, by omega, by go_num, HS3.out⟩
      case measure => simp [intOf]; omega
    · obtain rfl : k = xs.length := by omega
      go_upto_region 8 with fail
      rename_i K3 hK3
      have hr := fk_range HS.out.k
      have hsz := HS.out.s
      have ho := HS.out.o
      have hf := HS.out.f
      have ht : wr.there w.heap.size 0 (fA (fdK kn0 (xs.take xs.length))).size := fun j hj => by
        have hj : j < 64 := by rw [← Array.length_toList, fA_len] at hj; exact hj
        rw [Nat.zero_add]
        exact HS.out.r j hj
      have hi : (Tryz.prog.info? 90).map (·.size) = some (fA (fdK kn0 (xs.take xs.length))).toList.length := by rw [fA_len]; exact info90
      have hi2 : (Tryz.prog.info? 90).map (·.size) = some (fA (fdK kn0 (xs.take xs.length))).size := by rw [← Array.length_toList, fA_len]; exact info90
      have h1 := fA_one (fdK kn0 (xs.take xs.length))
      rw [mixL_end] at ho
      have hA : fA (fdK kn0 xs) = fA (fdK kn0 (xs.take xs.length)) := by rw [List.take_length]
      generalize fA (fdK kn0 (xs.take xs.length)) = A at *
      apply wp_region_lit
      refine wpList_load_mid rfl 90 (.tmp 3) rfl (w.heap.size + 1) 0 rfl A.toList _ hr Tryz.underlying90 rfl hi ?_
      refine wpList_store_mid rfl 90 (.tmp 2) (.tmp 24) rfl w.heap.size 0 A rfl rfl ht hi2 h1 ?_
      refine wpList_nil ?_
      refine hK3 _ _ ?_
      refine wp_ret ?_
      have hl := run_loadVar_mid (P := Tryz.prog) (wr.setCells w.heap.size 0 A.toList) w.heap.size 0 90 A.toList _ (World.rangeAt_setCells_same wr w.heap.size 0 A.toList (by simpa using ht)) Tryz.underlying90 rfl hi
      rw [Array.toArray_toList] at hl
      have hF : Fr (One w.heap.size) wr (wr.setCells w.heap.size 0 A.toList) := fr_setCells (X := One w.heap.size) rfl _ _ (Fr.refl _ _)
      refine bodyPost_ret (v := .agg A) (by simp [results, Tryz.results36, asAddr, Act.put, hl]) rfl ⟨by rw [hA], ho.fr hF (fun q => by have q : b = w.heap.size := q; omega), hf.new hF (Nat.le_refl _)⟩
end Go.Proofs.YtddcndlogoajkaaGreatDoor.L8.Bt
namespace Go.Proofs.YtddcndlogoajkaaGreatDoor.L8.Bt
open Go.ChangeShapes Go.WideShapes Go.ChangeAt Go.RowKit Go.Great
open _root_.Go.Proofs.YtddcndlogoajkaaGreatDoor.L8.Op _root_.Go.Proofs.YtddcndlogoajkaaGreatDoor.L8.So
open _root_.Go.Proofs.YtddcndlogoajkaaGreatDoor.L8.Lv (rdL wOf PsOk)
set_option maxRecDepth 20000

set_option maxHeartbeats 8000000 in
theorem foldList_nil (a : Option Addr) (cap : Nat) (w : World) :
    Calls Tryz.prog 36 #[.slice a 0 cap] w fun e w' => e = .returned (.agg (fA kn0)) ∧ Below w.heap.size w w' := by
  have hb : Below w.heap.size w ((w.alloc (.cells (fA kn0) 90)).alloc (.cells (fA kn0) 90)) := ((Below.refl _ _).alloc (Nat.le_refl _) _).alloc (by simp) _
  have h1 := Op.At.new w (fA kn0) 90
  have h2 := Op.At.new (w.alloc (.cells (fA kn0) 90)) (fA kn0) 90
  have hz : (w.alloc (.cells (fA kn0) 90)).heap.size = w.heap.size + 1 := by simp
  rw [hz] at h2
  have h1' := h1.alloc (.cells (fA kn0) 90)
  have H1 : Hid _ := h1'
  have H2 : Hid _ := h2
  have HB : Hid _ := hb
  clear h1 h2 h1' hz hb
  go_enter Tryz.func36, Tryz.ntmps36
  apply wp_seq_k; intro K0 hK0
  apply wp_region_lit
  refine wpList_allocTo rfl (some 2) rfl (.pointer (some ⟨w.heap.size, 0, none⟩)) (.cells (fA kn0) 90) (by kernel_rfl) ?_
  refine wpList_nil ?_
  refine hK0 _ _ ?_
  apply wp_seq_k; intro K1 hK1
  apply wp_region_lit
  refine wpList_allocTo rfl (some 3) rfl (.pointer (some ⟨(w.alloc (.cells (fA kn0) 90)).heap.size, 0, none⟩)) (.cells (fA kn0) 90) (by kernel_rfl) ?_
  refine wpList_nil ?_
  refine hK1 _ _ ?_
  clear hK1 hK0 K1 K0
  generalize (w.alloc (.cells (fA kn0) 90)).alloc (.cells (fA kn0) 90) = wr at *
  simp only [Act.put, List.setIfInBounds_toArray, List.set_cons_zero, List.set_cons_succ, World.size_alloc]
  go_wp2_with fail
  go_loop [8] (fun i => i = .int .i64 0) (fun _ => 0)
  case atStart => rfl
  case round =>
    subst hrel
    go_upto_region 8 with fail
    rename_i K3 hK3
    have hr : wr.rangeAt (w.heap.size + 1) 0 (fA kn0).toList := fun j v hv => by
      rw [Nat.zero_add]
      exact H2.out.c j v (by rw [← Array.getElem?_toList]; exact hv)
    have ht : wr.there w.heap.size 0 (fA kn0).size := fun j hj => by
      have hj : j < 64 := by rw [← Array.length_toList, fA_len] at hj; exact hj
      rw [Nat.zero_add]
      exact ⟨by rw [H1.out.c j _ (fA_get _ j hj)]; rfl, H1.out.f j⟩
    have hi : (Tryz.prog.info? 90).map (·.size) = some (fA kn0).toList.length := by rw [fA_len]; exact info90
    have hi2 : (Tryz.prog.info? 90).map (·.size) = some (fA kn0).size := by rw [← Array.length_toList, fA_len]; exact info90
    have h1 := fA_one kn0
    clear H1 H2
    generalize hA : fA kn0 = A at *
    apply wp_region_lit
    refine wpList_load_mid rfl 90 (.tmp 3) rfl (w.heap.size + 1) 0 rfl A.toList _ hr Tryz.underlying90 rfl hi ?_
    refine wpList_store_mid rfl 90 (.tmp 2) (.tmp 24) rfl w.heap.size 0 A rfl rfl ht hi2 h1 ?_
    refine wpList_nil ?_
    refine hK3 _ _ ?_
    refine wp_ret ?_
    have hl := run_loadVar_mid (P := Tryz.prog) (wr.setCells w.heap.size 0 A.toList) w.heap.size 0 90 A.toList _ (World.rangeAt_setCells_same wr w.heap.size 0 A.toList (by simpa using ht)) Tryz.underlying90 rfl hi
    rw [Array.toArray_toList] at hl
    have hF : Fr (One w.heap.size) wr (wr.setCells w.heap.size 0 A.toList) := fr_setCells (X := One w.heap.size) rfl _ _ (Fr.refl _ _)
    exact bodyPost_ret (v := .agg A) (by simp [results, Tryz.results36, asAddr, Act.put, hl]) rfl ⟨by rw [hA], HB.out.trans (hF.below HB.out.size fun k hk q => by have q : k = w.heap.size := q; omega)⟩
/-- A list's blocks: none, if it is empty. -/
def Lk (a : Option Addr) (xs : List O) (j : Nat) : Prop := 0 < xs.length ∧ ∃ b, a = some ⟨b, 0, none⟩ ∧ j = b
/-- A list at the head of a block, where it is not empty. -/
def Oz (w : World) (a : Option Addr) (xs : List O) : Prop := 0 < xs.length → ∃ b, a = some ⟨b, 0, none⟩ ∧ Ol w b xs
theorem foldList_any (a : Option Addr) (cap : Nat) (xs : List O) (w : World) (h : Oz w a xs) (hok : ∀ o ∈ xs, o.Ok ∧ okP o = true) (hl : xs.length ≤ 8192) :
    Calls Tryz.prog 36 #[.slice a xs.length cap] w fun e w' => e = .returned (.agg (fA (fdK kn0 xs))) ∧ Oz w' a (fdL kn0 xs) ∧ Fr (Lk a xs) w w' := by
  rcases Nat.eq_zero_or_pos xs.length with h0 | h0
  · obtain rfl : xs = [] := List.eq_nil_of_length_eq_zero h0
    refine (foldList_nil a cap w).mono ?_
    rintro e w' ⟨rfl, hb⟩
    exact ⟨rfl, fun q => by simp [fdL] at q, Fr.of hb⟩
  · obtain ⟨b, rfl, hb⟩ := h h0
    refine (foldList_some b cap xs w hb hok hl).mono ?_
    rintro e w' ⟨rfl, h2, h3⟩
    exact ⟨rfl, fun _ => ⟨b, rfl, h2⟩, h3.mono fun k _ q => ⟨h0, b, rfl, q⟩⟩
/-- Whose a block is: 1 the row of blocks; 2 + 2 i the operations of block i; 3 + 2 i its body. -/
structure Pr (w : World) (z : Nat) (own : Nat → Nat) (g : Nat) (qs : List Bk) : Prop where
  old : ∀ b, own b ≠ 0 → z ≤ b
  g1 : own g = 1
  lt : g < w.heap.size
  fz : ∀ j : Nat, w.frozen? ⟨g, j, none⟩ = false
  n : qs.length ≤ 128
  ok : ∀ x ∈ qs, x.Ok ∧ (∀ o ∈ x.ops, o.Ok) ∧ (∀ o ∈ x.body, o.Ok) ∧ x.ops.length ≤ 8192 ∧ x.body.length ≤ 8192
  is : ∀ (i : Nat) (h : i < qs.length), ∃ p : Pl, BAt w g (i * 6) qs[i] p ∧ qs[i].ops.length ≤ p.oc ∧ Oz w p.oa qs[i].ops ∧ Oz w p.ba qs[i].body ∧ (∀ j, Lk p.oa qs[i].ops j → own j = 2 + 2 * i) ∧ ∀ j, Lk p.ba qs[i].body j → own j = 3 + 2 * i
theorem Oz.fr {X : Nat → Prop} {w w' : World} {a : Option Addr} {xs : List O} (h : Oz w a xs) (g : Fr X w w') (hx : ∀ j, Lk a xs j → ¬ X j) : Oz w' a xs := fun h0 => by
  obtain ⟨b, e, ho⟩ := h h0
  exact ⟨b, e, ho.fr g (hx b ⟨h0, b, e, rfl⟩)⟩
theorem Oz.below {w w' : World} {a : Option Addr} {xs : List O} (h : Oz w a xs) (hb : Below w.heap.size w w') : Oz w' a xs := fun h0 => by
  obtain ⟨b, e, ho⟩ := h h0
  exact ⟨b, e, ho.below hb⟩
theorem oz_at {w : World} {a : Option Addr} {xs : List O} (h : Oz w a xs) (ho : ∀ o ∈ xs, o.Ok) (hl : xs.length ≤ 8192) : OpsAt w a xs := by
  refine ⟨ho, by omega, fun h0 => ?_⟩
  obtain ⟨b, e, hb⟩ := h h0
  exact ⟨b, 0, e, hb.lt, fun i hi => by rw [Nat.zero_add]; exact hb.c i hi⟩
theorem BAt.fr {X : Nat → Prop} {w w' : World} {g f : Nat} {x : Bk} {p : Pl} (h : BAt w g f x p) (hF : Fr X w w') (hl : g < w.heap.size) (hx : ¬ X g) : BAt w' g f x p :=
  ⟨(hF.cell hl hx _).trans h.c0, (hF.cell hl hx _).trans h.c1, (hF.cell hl hx _).trans h.c2, (hF.cell hl hx _).trans h.c3, (hF.cell hl hx _).trans h.c4, (hF.cell hl hx _).trans h.c5⟩
section
variable {w w' : World} {z g : Nat} {own : Nat → Nat} {qs : List Bk}
theorem Pr.pat (h : Pr w z own g qs) : PAt w (some ⟨g, 0, none⟩) qs := by
  refine ⟨by have := h.n; omega, fun _ => ⟨g, 0, rfl, h.lt, fun i hi => ?_⟩⟩
  obtain ⟨p, h1, h2, h3, h4, -⟩ := h.is i hi
  obtain ⟨k1, k2, k3, k4, k5⟩ := h.ok _ (List.getElem_mem hi)
  exact ⟨p, by rw [Nat.zero_add]; exact h1, k1, oz_at h3 k2 k4, oz_at h4 k3 k5, h2⟩
theorem Pr.next (h : Pr w z own g qs) (hb : Below w.heap.size w w') : Pr w' z own g qs := by
  refine ⟨h.old, h.g1, Nat.lt_of_lt_of_le h.lt hb.size, fun j => by rw [(bcell hb).2 _ _ h.lt]; exact h.fz j, h.n, h.ok, fun i hi => ?_⟩
  obtain ⟨p, h1, h2, h3, h4, h5⟩ := h.is i hi
  exact ⟨p, h1.below hb h.lt, h2, h3.below hb, h4.below hb, h5⟩
/-- One block's lists have turned in their places. -/
theorem Pr.turn (h : Pr w z own g qs) {k : Nat} (hk : k < qs.length) {X : Nat → Prop} (hF : Fr X w w') (hX : ∀ j, X j → own j = 2 + 2 * k ∨ own j = 3 + 2 * k) {os bs : List O}
    (hn : ∀ p : Pl, BAt w g (k * 6) qs[k] p → qs[k].ops.length ≤ p.oc → Oz w p.oa qs[k].ops → Oz w p.ba qs[k].body → Oz w' p.oa os ∧ Oz w' p.ba bs) (lo : os.length = qs[k].ops.length) (lb : bs.length = qs[k].body.length) (ho : ∀ o ∈ os, o.Ok) (hb : ∀ o ∈ bs, o.Ok) :
    Pr w' z own g (qs.set k { qs[k] with ops := os, body := bs }) := by
  have hXg : ¬ X g := fun q => by have := hX g q; have := h.g1; omega
  refine ⟨h.old, h.g1, Nat.lt_of_lt_of_le h.lt hF.size, fun j => by rw [hF.frozen h.lt hXg]; exact h.fz j, by simpa using h.n, fun x hx => ?_, fun i hi => ?_⟩
  · rcases List.mem_or_eq_of_mem_set hx with hm | rfl
    · exact h.ok x hm
    · obtain ⟨k1, k2, k3, k4, k5⟩ := h.ok _ (List.getElem_mem hk)
      exact ⟨⟨k1.1, k1.2, k1.3, k1.4, k1.5, k1.6, k1.7, k1.8⟩, ho, hb, by rw [lo]; exact k4, by rw [lb]; exact k5⟩
  · have hi' : i < qs.length := by simpa using hi
    obtain ⟨p, h1, h2, h3, h4, h5, h6⟩ := h.is i hi'
    by_cases e : k = i
    · subst e
      obtain ⟨n1, n2⟩ := hn p h1 h2 h3 h4
      obtain ⟨c0, c1, c2, c3, c4, c5⟩ := BAt.fr h1 hF h.lt hXg
      simp only [List.getElem_set_self]
      refine ⟨p, ⟨by rw [c0, lo], c1, c2, by rw [c3, lb], c4, c5⟩, by rw [lo]; exact h2, n1, n2, fun j q => h5 j ?_, fun j q => h6 j ?_⟩
      · obtain ⟨q1, q2⟩ := q; exact ⟨by rw [← lo]; exact q1, q2⟩
      · obtain ⟨q1, q2⟩ := q; exact ⟨by rw [← lb]; exact q1, q2⟩
    · rw [List.getElem_set_ne e]
      exact ⟨p, BAt.fr h1 hF h.lt hXg, h2, h3.fr hF fun j q x => by have := h5 j q; have := hX j x; omega, h4.fr hF fun j q x => by have := h6 j q; have := hX j x; omega, h5, h6⟩
end
end Go.Proofs.YtddcndlogoajkaaGreatDoor.L8.Bt
