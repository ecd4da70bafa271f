/- The document's Text: read off the program by the walk. Conditions: the program lies in memory. -/
import Derived.Test.YthjpddjfckdefaaDoorRq
import Derived.Test.YthjpddjfckdefaaDoorSy
import Derived.Test.YthjpddjfckdefaaDoorRj
import Derived.Deep.RegionHeld3
namespace Go.Proofs.YthjpddjfckdefaaDoor.Op
open Go.ChangeShapes Go.WideShapes Go.ChangeAt Go.RowKit
set_option maxRecDepth 20000

/-- A block of a program that is looked at. -/
structure Rw (w V : World) (ao : Option Addr) (n cap b g : Nat) (x : Bk) (p : Pl) : Prop where
  a : At V w.heap.size #[.slice ao n cap]
  c : BAt V b g x p
  hb : b < w.heap.size
  bl : Below w.heap.size w V
theorem Rw.up {w V V' : World} {ao : Option Addr} {n cap b g : Nat} {x : Bk} {p : Pl} (h : Rw w V ao n cap b g x p) (hb : Below V.heap.size V V') : Rw w V' ao n cap b g x p :=
  ⟨h.a.below hb h.a.lt, h.c.below hb (Nat.lt_of_lt_of_le h.hb h.bl.size), h.hb, h.bl.trans (hb.mono h.bl.size)⟩
theorem Rw.all {w V : World} {ao : Option Addr} {n cap b g : Nat} {x : Bk} {p : Pl} (h : Rw w V ao n cap b g x p) : V.cell? ⟨w.heap.size, 0, none⟩ = some (.slice ao n cap) ∧ V.cell? ⟨b, g, none⟩ = some (.slice p.oa x.ops.length p.oc) ∧ V.cell? ⟨b, g + 1, none⟩ = some (.int .i8 x.fin) ∧ V.cell? ⟨b, g + 2, none⟩ = some (.int .u8 x.a) ∧ V.cell? ⟨b, g + 3, none⟩ = some (.slice p.ba x.body.length p.bc) ∧ V.cell? ⟨b, g + 4, none⟩ = some (.int .i64 x.thn) ∧ V.cell? ⟨b, g + 5, none⟩ = some (.int .i64 x.els) :=
  ⟨h.a.c 0 _ rfl, h.c.c0, h.c.c1, h.c.c2, h.c.c3, h.c.c4, h.c.c5⟩
theorem bkN_len (ps : List Bk) (x : Bk) (hx : x ∈ ps) : x.ops.length ≤ opsN ps ∧ x.body.length ≤ opsN ps := by
  obtain ⟨k, hk, rfl⟩ := List.getElem_of_mem hx
  have h1 := sumTo_succ hk
  have h2 := sumTo_mono ps (ps.length - (k + 1)) (k + 1) (by omega)
  rw [show k + 1 + (ps.length - (k + 1)) = ps.length by omega] at h2
  unfold opsN
  unfold bkN at h1
  omega
set_option maxHeartbeats 4000000 in
theorem rtext_good (ao : Option Addr) (cap : Nat) (ps : List Bk) (w : World) (h : PAt w ao ps) (hc : ckP ps = 0) :
    Calls Tryd.prog 8 #[.agg #[.slice ao ps.length cap]] w fun e w' => e = .returned (.tuple #[.string ⟨(showT ps).1.toArray⟩, .int .i64 (showT ps).2]) ∧ Below w.heap.size w w' := by
  have HA : Hid (PAt w ao ps) := h
  obtain ⟨hn, hN, hK⟩ := ck_ok hc
  have HK : Hid _ := hK
  have HN : Hid (∀ x ∈ ps, x.ops.length ≤ 1024 ∧ x.body.length ≤ 1024) := fun x hx => by have := bkN_len ps x hx; omega
  have HT : Hid (∀ k, k ≤ ps.length → (blkTo ps k).length ≤ 200000) := fun k hk => by
    have h1 := blkTo_mono ps k (ps.length - k)
    rw [show k + (ps.length - k) = ps.length by omega] at h1
    have h2 := progL_len h hc
    unfold progL at h2
    omega
  have HC : Hid (∀ W, Below w.heap.size w W → Calls Tryd.prog 14 #[.agg #[.slice ao ps.length cap]] W fun e w' => e = .returned (.int .i64 0) ∧ Below W.heap.size W w') := fun W hb => by
    have := refCheckP_any ao cap ps W (h.below hb)
    rw [hc] at this
    exact this
  have HR : Hid (showT ps = if 65536 < (blkTo ps ps.length).length then ([], 3) else (blkTo ps ps.length, 0)) := by show _ = _; unfold showT progL; rw [if_pos hc]
  have HQ : Hid (Tb w (w.alloc (.cells #[.slice ao ps.length cap] 24)) #[.slice ao ps.length cap]) := ⟨At.new _ _ _, (Below.refl _ _).alloc (Nat.le_refl _) _⟩
  generalize showT ps = RS at *
  clear h hK hc hN
  go_enter Tryd.func8, Tryd.ntmps8
  go_wp2_with (first
    | (go_at_call 14; refine Calls.mono (HC.out _ HQ.out.b) ?_; rintro e w1 ⟨rfl, hb⟩; have H1 : Hid _ := HQ.out.up hb; clear hb HQ HC))
  go_loopw [5, 6] (fun s i wr => ∃ k : Nat, k ≤ ps.length ∧ i = .int .i64 k ∧ s = .string ⟨(blkTo ps k).toArray⟩ ∧ Tb w wr #[.slice ao ps.length cap]) (fun _ i _ => ps.length - (intOf i).toNat)
  case atStart => exact ⟨0, by omega, rfl, rfl, H1.out⟩
  case round =>
    rename_i wr
    clear H1
    obtain ⟨k, hk, rfl, rfl, htb⟩ := hrel
    have HB : Hid _ := htb
    have e0 := htb.a.c 0 _ rfl
    by_cases hlt : k < ps.length
    · obtain ⟨b, f, rfl, hz, hx⟩ := HA.out.is (by omega)
      obtain ⟨p, hat, hin⟩ := hx k hlt
      have hmem := List.getElem_mem hlt
      have hbk := HK.out ps[k] hmem
      have hnn := HN.out ps[k] hmem
      have hL := HT.out (k + 1) hlt
      have hs := blkTo_succ hlt
      obtain ⟨x, hxe⟩ : ∃ x, x = ps[k] := ⟨_, rfl⟩
      rw [← hxe] at hat hin hbk hs hnn
      have hd := itoa_le (k : Int) (by omega) (by omega)
      have hs2 : blkTo ps (k + 1) = blkTo ps k ++ [98, 108, 111, 99, 107, 32] ++ Lib.itoa k ++ [58, 10] ++ linesL sp2 x.ops ++ endL x := by rw [hs]; unfold blockL; rw [join_cons, join_one]; simp
      have hL2 := hL
      rw [hs2] at hL2
      simp only [List.length_append, List.length_cons, List.length_nil] at hL2
      have a1 := cat_l (blkTo ps k) [98, 108, 111, 99, 107, 32] (by simp; omega)
      have a2 := cat_l (blkTo ps k ++ [98, 108, 111, 99, 107, 32]) (Lib.itoa k) (by simp; omega)
      have a3 := cat_l (blkTo ps k ++ [98, 108, 111, 99, 107, 32] ++ Lib.itoa k) [58, 10] (by simp; omega)
      have a4 := cat_l (blkTo ps k ++ [98, 108, 111, 99, 107, 32] ++ Lib.itoa k ++ [58, 10]) (linesL sp2 x.ops) (by simp only [List.length_append, List.length_cons, List.length_nil]; omega)
      have a5 := cat_l (blkTo ps k ++ [98, 108, 111, 99, 107, 32] ++ Lib.itoa k ++ [58, 10] ++ linesL sp2 x.ops) (endL x) (by simp only [List.length_append, List.length_cons, List.length_nil]; omega)
      rw [← hs2] at a5
      have hlo := linesL_len sp2 x.ops hin.o.ok
      have hlb := linesL_len sp4 x.body hin.b.ok
      have H15 : Hid (∀ W, Calls Tryd.prog 15 #[.int .i64 (k : Int)] W fun e w' => e = .returned (.string ⟨(Lib.itoa k).toArray⟩) ∧ Below W.heap.size W w') := fun W => rdig_int k W (by omega) (by omega)
      have H16 : Hid (∀ W, Below w.heap.size w W → Calls Tryd.prog 16 #[.slice p.oa x.ops.length p.oc, .string ⟨#[32, 32]⟩] W fun e w' => e = .returned (.string ⟨(linesL sp2 x.ops).toArray⟩) ∧ Below W.heap.size W w') := fun W hb => rlines_any p.oa p.oc x.ops sp2 W (hin.o.below hb) hbk.o (by have : sp2.length = 2 := rfl; rw [this] at hlo; omega) (by simp)
      have H17 : Hid (∀ W, Below w.heap.size w W → Calls Tryd.prog 17 #[.agg #[.slice p.oa x.ops.length p.oc, .int .i8 x.fin, .int .u8 x.a, .slice p.ba x.body.length p.bc, .int .i64 x.thn, .int .i64 x.els]] W fun e w' => e = .returned (.string ⟨(endL x).toArray⟩) ∧ Below W.heap.size W w') := fun W hb => rend_any x p W hin.ok hbk (hin.b.below hb) (by have : sp4.length = 4 := rfl; rw [this] at hlb; omega)
      have HS : Hid (Rw w wr.drew (some ⟨b, f, none⟩) ps.length cap b (f + k * 6) x p) := ⟨htb.a.below (Below.refl _ _).drew htb.a.lt, (hat.below htb.b hz).below (Below.refl _ _).drew (Nat.lt_of_lt_of_le hz htb.b.size), hz, htb.b.drew⟩
      obtain ⟨s5, hs5⟩ : ∃ s, s = blkTo ps (k + 1) := ⟨_, rfl⟩
      rw [← hs5] at a5
      have HS5 : Hid _ := hs5
      have hzr : b < wr.heap.size := Nat.lt_of_lt_of_le hz htb.b.size
      have hzw := htb.a.lt
      clear hat hin hmem hbk hnn hL hs hs2 hL2 hd hlo hlb hx htb hs5 hxe
      generalize blkTo ps k ++ [98, 108, 111, 99, 107, 32] ++ Lib.itoa k ++ [58, 10] ++ linesL sp2 x.ops = b4 at *
      generalize blkTo ps k ++ [98, 108, 111, 99, 107, 32] ++ Lib.itoa k ++ [58, 10] = b3 at *
      generalize blkTo ps k ++ [98, 108, 111, 99, 107, 32] ++ Lib.itoa k = b2 at *
      generalize blkTo ps k ++ [98, 108, 111, 99, 107, 32] = b1 at *
      generalize linesL sp2 x.ops = lo at *
      generalize endL x = le at *
      generalize Lib.itoa k = ti at *
      generalize blkTo ps k = L0 at *
      go_wp2
      obtain ⟨q0, q1, q2, q3, q4, q5, q6⟩ := HS.out.all
      go_region_held3 (fun w' => w'.cell? ⟨w.heap.size, 0, none⟩ = some (.slice (some ⟨b, f, none⟩) ps.length cap) ∧ w'.cell? ⟨b, f + k * 6, none⟩ = some (.slice p.oa x.ops.length p.oc) ∧ w'.cell? ⟨b, f + k * 6 + 1, none⟩ = some (.int .i8 x.fin) ∧ w'.cell? ⟨b, f + k * 6 + 2, none⟩ = some (.int .u8 x.a) ∧ w'.cell? ⟨b, f + k * 6 + 3, none⟩ = some (.slice p.ba x.body.length p.bc) ∧ w'.cell? ⟨b, f + k * 6 + 4, none⟩ = some (.int .i64 x.thn) ∧ w'.cell? ⟨b, f + k * 6 + 5, none⟩ = some (.int .i64 x.els))
        (first | exact HS.out.all | go_keep)
        (first
          | (go_at_call 15; refine Calls.mono (H15.out _) ?_; rintro e w1 ⟨rfl, hb⟩; have HS : Hid (Rw w w1 (some ⟨b, f, none⟩) ps.length cap b (f + k * 6) x p) := HS.out.up hb; clear hb)
          | (go_at_call 16; refine Calls.mono (H16.out _ HS.out.bl) ?_; rintro e w1 ⟨rfl, hb⟩; have HS : Hid (Rw w w1 (some ⟨b, f, none⟩) ps.length cap b (f + k * 6) x p) := HS.out.up hb; clear hb)
          | (go_at_call 17; refine Calls.mono (H17.out _ HS.out.bl) ?_; rintro e w1 ⟨rfl, hb⟩; have HS : Hid (Rw w w1 (some ⟨b, f, none⟩) ps.length cap b (f + k * 6) x p) := HS.out.up hb; clear hb))
      go_wp2
      go_roundw
      case rel => exact ⟨k + 1, by omega, by go_num, by rw [HS5.out], ⟨HS.out.a, HS.out.bl⟩⟩
      case measure => simp [intOf]; omega
    · obtain rfl : k = ps.length := by omega
      have hT := HT.out ps.length (Nat.le_refl _)
      have hR := HR.out
      have hsz : (⟨(blkTo ps ps.length).toArray⟩ : ByteArray).size = (blkTo ps ps.length).length := ba_size _
      clear htb
      obtain ⟨S, hS⟩ : ∃ S, S = (⟨(blkTo ps ps.length).toArray⟩ : ByteArray) := ⟨_, rfl⟩
      rw [← hS] at hsz ⊢
      have HS : Hid _ := hS
      clear hS
      by_cases h6 : 65536 < (blkTo ps ps.length).length
      · rw [if_pos h6] at hR
        have HR2 : Hid _ := hR
        have hi : (65536 : Int) < (S.size : Int) := by omega
        clear hR hT HT
        go_wp2
        go_returns
        rw [HR2.out]
        exact ⟨rfl, HB.out.b⟩
      · rw [if_neg h6] at hR
        have HR2 : Hid _ := hR
        have hi : ¬ (65536 : Int) < (S.size : Int) := by omega
        clear hR hT HT
        go_wp2
        go_returns
        rw [HR2.out, HS.out]
        exact ⟨rfl, HB.out.b⟩
set_option maxHeartbeats 1000000 in
theorem rtext_any (ao : Option Addr) (cap : Nat) (ps : List Bk) (w : World) (h : PAt w ao ps) :
    Calls Tryd.prog 8 #[.agg #[.slice ao ps.length cap]] w fun e w' => e = .returned (.tuple #[.string ⟨(showT ps).1.toArray⟩, .int .i64 (showT ps).2]) ∧ Below w.heap.size w w' := by
  by_cases hc : ckP ps = 0
  · exact rtext_good ao cap ps w h hc
  · have hs : showT ps = ([], ckP ps) := by unfold showT; rw [if_neg hc]
    rw [hs]
    have HC : Hid (∀ W, Below w.heap.size w W → Calls Tryd.prog 14 #[.agg #[.slice ao ps.length cap]] W fun e w' => e = .returned (.int .i64 (ckP ps)) ∧ Below W.heap.size W w') := fun W hb => refCheckP_any ao cap ps W (h.below hb)
    have HQ : Hid (Tb w (w.alloc (.cells #[.slice ao ps.length cap] 24)) #[.slice ao ps.length cap]) := ⟨At.new _ _ _, (Below.refl _ _).alloc (Nat.le_refl _) _⟩
    have hc1 : (ckP ps == 0) = false := by simpa using hc
    have hc2 : (ckP ps != 0) = true := by simpa using hc
    clear h hc hs
    generalize ckP ps = ec at *
    go_enter Tryd.func8, Tryd.ntmps8
    go_wp2_with (first
      | (go_at_call 14; refine Calls.mono (HC.out _ HQ.out.b) ?_; rintro e w1 ⟨rfl, hb⟩; have H1 : Hid _ := HQ.out.up hb; clear hb HQ HC))
    go_returns
    exact ⟨rfl, H1.out.b⟩
end Go.Proofs.YthjpddjfckdefaaDoor.Op
