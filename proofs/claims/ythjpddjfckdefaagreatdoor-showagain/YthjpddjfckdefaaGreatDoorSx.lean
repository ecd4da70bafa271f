/- What show's written, within and Text answer: read off the program by the walk. Conditions: the program lies in memory; the variables lie there as the program lays them. -/
import Derived.Test.YthjpddjfckdefaaGreatDoorSw
namespace Go.Proofs.YthjpddjfckdefaaGreatDoor.Op
open Go.ChangeShapes Go.WideShapes Go.ChangeAt Go.RowKit
set_option maxRecDepth 20000

theorem cat_s (a b : List UInt8) (h : a.length + b.length ≤ 1000000) (P : Program) (w : World) : (Op.stringOp .add ⟨a.toArray⟩ ⟨b.toArray⟩).run P w = .ok (.string ⟨(a ++ b).toArray⟩) w := by
  obtain ⟨c, hc, _, hr⟩ := cat_rule ⟨a.toArray⟩ ⟨b.toArray⟩ a.length b.length (by rw [ba_size]; omega) (by rw [ba_size]; omega) h
  rw [hr P w]
  have : c = ⟨(a ++ b).toArray⟩ := ba_eq (by rw [hc])
  rw [this]
/-- The builder and a block's box. -/
structure Wx' (w V : World) (l : List UInt8) (q : Nat) (cs : Array Value) : Prop where
  bd : Bd (w.heap.size + 1) l V
  hp : Hp V q cs 43
  bl : Below w.heap.size w V
theorem Wx'.up {w V V' : World} {l : List UInt8} {q : Nat} {cs : Array Value} (h : Wx' w V l q cs) (hb : Below V.heap.size V V') : Wx' w V' l q cs := ⟨h.bd.up hb, h.hp.up hb, h.bl.trans (hb.mono h.bl.size)⟩
theorem Wx'.put {w V V' : World} {l l' : List UInt8} {q : Nat} {cs : Array Value} (h : Wx' w V l q cs) (hb : Bd (w.heap.size + 1) l' V') (hk : Kp (w.heap.size + 1) V V') (hq : q ≠ w.heap.size + 1) : Wx' w V' l' q cs := ⟨hb, h.hp.kp hk hq (by decide), h.bl.trans (hk.b.mono (Nat.le_succ _))⟩
set_option maxHeartbeats 4000000 in
theorem written_any (ao : Option Addr) (cap : Nat) (ps : List Bk) (w : World) (h : PAt w ao ps) (hP : Pow w) (hc : ckP ps = 0) :
    Calls Tryz.prog 11 #[.agg #[.slice ao ps.length cap]] w fun e w' => e = .returned (.string ⟨(progL ps).toArray⟩) ∧ Below w.heap.size w w' := by
  have HA : Hid (PAt w ao ps) := h
  have HP : Hid (Pow w) := hP
  obtain ⟨hn, _, hK⟩ := ck_ok hc
  have HK : Hid _ := hK
  have HT : Hid (∀ k, k ≤ ps.length → (blkTo ps k).length ≤ 200000) := fun k hk => by
    have h1 := blkTo_mono ps k (ps.length - k)
    rw [show k + (ps.length - k) = ps.length by omega] at h1
    have h2 := progL_len h hc
    unfold progL at h2
    omega
  have hb0 : Below w.heap.size w ((w.alloc (.cells #[.slice ao ps.length cap] 24)).alloc (.cells #[.pointer none, .slice none 0 0] 56)) := by go_grown
  have HB0 : Hid (Bd (w.heap.size + 1) (blkTo ps 0) ((w.alloc (.cells #[.slice ao ps.length cap] 24)).alloc (.cells #[.pointer none, .slice none 0 0] 56))) := by
    have := Lib.IsBuilderF.of (Lib.fresh_isBuilder 56 5 (w.alloc (.cells #[.slice ao ps.length cap] 24)))
    rw [World.size_alloc] at this
    exact this
  have HS0 : Hid (Below w.heap.size w ((w.alloc (.cells #[.slice ao ps.length cap] 24)).alloc (.cells #[.pointer none, .slice none 0 0] 56))) := hb0
  clear h hP hK hc hb0
  go_enter Tryz.func11, Tryz.ntmps11
  go_wp2
  go_loopw [11] (fun i wr => ∃ k : Nat, k ≤ ps.length ∧ i = .int .i64 k ∧ Bd (w.heap.size + 1) (blkTo ps k) wr ∧ Below w.heap.size w wr) (fun i _ => ps.length - (intOf i).toNat)
  case atStart => exact ⟨0, by omega, rfl, HB0.out, HS0.out⟩
  case round =>
    rename_i wr
    clear HB0 HS0
    obtain ⟨k, hk, rfl, hbd, hbl⟩ := hrel
    have HS : Hid (Bd (w.heap.size + 1) (blkTo ps k) wr ∧ Below w.heap.size w wr) := ⟨hbd, hbl⟩
    by_cases hlt : k < ps.length
    · obtain ⟨b, f, rfl, hz, hx⟩ := HA.out.is (by omega)
      obtain ⟨p, hat0, hin⟩ := hx k hlt
      have hat := hat0.below hbl hz
      have hzr : b < wr.heap.size := Nat.lt_of_lt_of_le hz hbl.size
      have hbk := HK.out ps[k] (List.getElem_mem hlt)
      have hL := HT.out (k + 1) hlt
      have hs := blkTo_succ hlt
      obtain ⟨x, hxe⟩ : ∃ x, x = ps[k] := ⟨_, rfl⟩
      rw [← hxe] at hat hin hbk hs
      have hd := itoa_le (k : Int) (by omega) (by omega)
      have hs2 : blkTo ps (k + 1) = blkTo ps k ++ (joinL [blockW, Lib.itoa k ++ [58]] ++ [10]) ++ linesL sp2 x.ops ++ endL x := by rw [hs]; unfold blockL; simp only [List.append_assoc]
      rw [hs2] at hL
      simp only [List.length_append] at hL
      have HD : Hid (∀ W, Below w.heap.size w W → Calls Tryz.prog 20 #[.int .i64 (k : Int)] W fun e w' => e = .returned (.string ⟨(Lib.itoa k).toArray⟩) ∧ Below W.heap.size W w') := fun W hb => showDigits_any k W (HP.out.bl hb) (by omega) (by omega)
      have hcat := cat_s (Lib.itoa k) [58] (by simp; omega)
      have HPut : Hid (∀ W bk, Bd (w.heap.size + 1) (blkTo ps k) W → Hp W bk #[.string ⟨blockW.toArray⟩, .string ⟨(Lib.itoa k ++ [58]).toArray⟩] 9 → bk ≠ w.heap.size + 1 → Calls Tryz.prog 16 #[.string ⟨#[]⟩, .slice (some ⟨bk, 0, none⟩) 2 2, .pointer (some ⟨w.heap.size + 1, 0, none⟩)] W fun e w' => e = .returned (.tuple #[]) ∧ Bd (w.heap.size + 1) (blkTo ps k ++ (joinL [blockW, Lib.itoa k ++ [58]] ++ [10])) w' ∧ Kp (w.heap.size + 1) W w') := fun W bk hb hp hne => by
        have h := put_any (w.heap.size + 1) _ ⟨#[]⟩ bk [blockW, Lib.itoa k ++ [58]] W hb hp hne (by omega) (by decide) (by rw [join_cons, join_one]; simp; omega) (by simp)
        rw [show blkTo ps k ++ (⟨#[]⟩ : ByteArray).data.toList ++ joinL [blockW, Lib.itoa k ++ [58]] ++ [10] = blkTo ps k ++ (joinL [blockW, Lib.itoa k ++ [58]] ++ [10]) by simp] at h
        exact h
      have HOps : Hid (∀ W, Below w.heap.size w W → Bd (w.heap.size + 1) (blkTo ps k ++ (joinL [blockW, Lib.itoa k ++ [58]] ++ [10])) W → Calls Tryz.prog 21 #[.func (.func 16) #[] #[.pointer (some ⟨w.heap.size + 1, 0, none⟩)], .string ⟨#[32, 32]⟩, .slice p.oa x.ops.length p.oc] W fun e w' => e = .returned (.tuple #[]) ∧ Bd (w.heap.size + 1) (blkTo ps k ++ (joinL [blockW, Lib.itoa k ++ [58]] ++ [10]) ++ linesL sp2 x.ops) w' ∧ Kp (w.heap.size + 1) W w') := fun W hb hB => putOps_any w (w.heap.size + 1) _ ⟨#[32, 32]⟩ p.oa p.oc x.ops W hb (Nat.le_succ _) hin.o HP.out hbk.o hB (by show (_ ++ linesL sp2 x.ops).length ≤ _; simp only [List.length_append]; omega) (by decide)
      have HEnd : Hid (∀ W, Below w.heap.size w W → Bd (w.heap.size + 1) (blkTo ps k ++ (joinL [blockW, Lib.itoa k ++ [58]] ++ [10]) ++ linesL sp2 x.ops) W → Calls Tryz.prog 22 #[.func (.func 16) #[] #[.pointer (some ⟨w.heap.size + 1, 0, none⟩)], .agg #[.slice p.oa x.ops.length p.oc, .int .i8 x.fin, .int .u8 x.a, .slice p.ba x.body.length p.bc, .int .i64 x.thn, .int .i64 x.els]] W fun e w' => e = .returned (.tuple #[]) ∧ Bd (w.heap.size + 1) (blkTo ps (k + 1)) w' ∧ Kp (w.heap.size + 1) W w') := fun W hb hB => by
        rw [hs2]
        exact putEnd_any w (w.heap.size + 1) _ x p W hb (Nat.le_succ _) hin.ok HP.out hB (by simp only [List.length_append]; omega) hin.b hbk
      obtain ⟨c0, c1, c2, c3, c4, c5⟩ := hat
      have HQ : Hid (Wx' w (wr.alloc (.cells #[.slice p.oa x.ops.length p.oc, .int .i8 x.fin, .int .u8 x.a, .slice p.ba x.body.length p.bc, .int .i64 x.thn, .int .i64 x.els] 43)) (blkTo ps k) wr.heap.size #[.slice p.oa x.ops.length p.oc, .int .i8 x.fin, .int .u8 x.a, .slice p.ba x.body.length p.bc, .int .i64 x.thn, .int .i64 x.els]) := ⟨hbd.up ((Below.refl _ _).alloc (Nat.le_refl _) _), Hp.new _ _ _, hbl.trans ((Below.refl _ _).alloc hbl.size _)⟩
      have hne : wr.heap.size ≠ w.heap.size + 1 := by have := Bd.lt hbd; omega
      clear hbd hbl hat0 hin hbk hs hs2 hL hd hx hxe HS
      generalize linesL sp2 x.ops = lo at *
      generalize joinL [blockW, Lib.itoa k ++ [58]] ++ [10] = lh at *
      generalize Lib.itoa k ++ [58] = w2 at *
      generalize Lib.itoa k = w1 at *
      generalize blkTo ps k = L0 at *
      go_wp2_with (first
        | (go_at_call 20; refine Calls.mono (HD.out _ HQ.out.bl) ?_; rintro e u1 ⟨rfl, hb⟩; have H1 : Hid _ := HQ.out.up hb; have HN : Hid (u1.heap.size ≠ w.heap.size + 1) := (by have := H1.out.bd.lt; show _ ≠ _; omega); have H1a : Hid _ := H1.out.up ((Below.refl _ _).alloc (Nat.le_refl _) (.cells #[.string ⟨#[98, 108, 111, 99, 107]⟩, .string ⟨w2.toArray⟩] 9)); clear hb HQ H1)
        | (go_at_call 16; refine Calls.mono (HPut.out _ u1.heap.size H1a.out.bd (Hp.new u1 _ 9) HN.out) ?_; rintro e u2 ⟨rfl, hb, hk2⟩; have H2 : Hid _ := H1a.out.put hb hk2 hne; clear hb hk2 H1a; have d0 := H2.out.hp.cell 0 _ rfl)
        | (go_at_call 21; refine Calls.mono (HOps.out _ H2.out.bl H2.out.bd) ?_; rintro e u3 ⟨rfl, hb, hk2⟩; have H3 : Hid _ := H2.out.put hb hk2 hne; clear hb hk2 H2 d0; have d0 := H3.out.hp.cell 0 _ rfl; have d1 := H3.out.hp.cell 1 _ rfl; have d2 := H3.out.hp.cell 2 _ rfl; have d3 := H3.out.hp.cell 3 _ rfl; have d4 := H3.out.hp.cell 4 _ rfl; have d5 := H3.out.hp.cell 5 _ rfl)
        | (go_at_call 22; refine Calls.mono (HEnd.out _ H3.out.bl H3.out.bd) ?_; rintro e u4 ⟨rfl, hb, hk2⟩; have H4 : Hid (Bd (w.heap.size + 1) (blkTo ps (k + 1)) u4 ∧ Below w.heap.size w u4) := ⟨hb, H3.out.bl.trans (hk2.b.mono (Nat.le_succ _))⟩; clear hb hk2 H3))
      go_roundw
      case rel => exact ⟨k + 1, by omega, by go_num, H4.out.1, H4.out.2⟩
      case measure => simp [intOf]; omega
    · obtain rfl : k = ps.length := by omega
      have HX : Hid (Calls Tryz.prog 23 #[.pointer (some ⟨w.heap.size + 1, 0, none⟩)] wr fun e w' => e = .returned (.string ⟨(blkTo ps ps.length).toArray⟩) ∧ Below w.heap.size w w') := (Tryz.Builder_String_any_k (w.heap.size + 1) (w.heap.size + 1) (blkTo ps ps.length) wr hbd (Nat.le_of_lt (Bd.lt hbd))).mono fun e w' hh => ⟨hh.1, hbl.trans (hh.2.2.1.mono (Nat.le_succ _))⟩
      clear hbd hbl
      go_wp2_with (first | (go_at_call 23; refine Calls.mono HX.out ?_; rintro e w2 ⟨rfl, hb⟩; have HR : Hid _ := hb; clear hb))
      go_ret
      exact ⟨rfl, HR.out⟩
end Go.Proofs.YthjpddjfckdefaaGreatDoor.Op
