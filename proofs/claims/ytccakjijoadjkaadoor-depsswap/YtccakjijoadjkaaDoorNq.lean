/- The blocks of a program in memory of its own (copied): read off the program by the walk. Conditions: the program lies in memory. -/
import Derived.Test.YtccakjijoadjkaaDoorNp
namespace Go.Proofs.YtccakjijoadjkaaDoor.Sm
open Go.ChangeShapes Go.WideShapes Go.ChangeAt Go.RowKit
open _root_.Go.Proofs.YtccakjijoadjkaaDoor.Op _root_.Go.Proofs.YtccakjijoadjkaaDoor.So
set_option maxRecDepth 20000

theorem Ci.pat {w wr : World} {g : Nat} {ps : List Bk} (h : Ci w wr g ps) (hl : ps.length ≤ 128) : PAt wr (some ⟨g, 0, none⟩) ps := by
  refine ⟨by omega, fun _ => ⟨g, 0, rfl, h.lt, fun i hi => ?_⟩⟩
  obtain ⟨p, h1, h2, -⟩ := h.is i hi
  exact ⟨p, by rw [Nat.zero_add]; exact h1, h2⟩
theorem ci_start {w w1 : World} {ps : List Bk} {r : Option Addr} {c : Nat} {pl : List Pl} {b f : Nat} (hp : pl.length = ps.length) (hx : ∀ (i : Nat) (h : i < ps.length) (g : i < pl.length), BAt w b (f + i * 6) ps[i] pl[i] ∧ BIn w ps[i] pl[i]) (h0 : 0 < ps.length) (h1 : w1.ownsRow w.heap.size 45 6 (.slice r ps.length c) ps.length (bcs ps pl)) (h2 : Below w.heap.size w w1) : ∃ g, r = some ⟨g, 0, none⟩ ∧ Ci w w1 g ps := by
  rcases h1.2 with ⟨h3, h4⟩ | ⟨g, cap', cur, h3, h5, _⟩
  · omega
  · injection h3 with e1 e2 e3
    subst e1
    have hc := h1.cells (g := g) rfl
    have k : ∀ j u, (bcs ps pl)[j]? = some u → w1.cell? ⟨g, j, none⟩ = some u := fun j u hj => by have := hc j u hj; rw [add_at', Nat.zero_add] at this; exact this
    refine ⟨g, rfl, (h1.lt g rfl).2, fun j => h1.frozenAt j, fun i hi => ?_, h2, h5⟩
    obtain ⟨g0, g1, g2, g3, g4, g5⟩ := bcs_get ps pl i hi (by omega)
    have hn := (hx i hi (by omega)).2
    have fa : ∀ {a : Option Addr} {xs : List O}, OpsAt w a xs → Far (One g) a xs.length := fun {a xs} ho h0 x e hx => by
      obtain ⟨b', f', e', z, hc⟩ := ho.is h0
      rw [e'] at e; cases e
      have hx : b' = g := hx
      omega
    exact ⟨pl[i], ⟨k _ _ g0, k _ _ g1, k _ _ g2, k _ _ g3, k _ _ g4, k _ _ g5⟩, hn.below h2, fa hn.o, fa hn.b⟩
theorem ops_far {wr w2 : World} {g : Nat} {r : Option Addr} {c : Nat} {xs : List O} (h : Oc wr w2 r c xs) (hg : g < wr.heap.size) : Far (One g) r xs.length := fun h0 a e hx => by
  have := h.new h0 a e
  have hx : a.block = g := hx
  omega
set_option maxHeartbeats 4000000 in
theorem copied_any (ao : Option Addr) (cap : Nat) (ps : List Bk) (w : World) (h : PAt w ao ps) (h0 : 0 < ps.length) (hl : ps.length ≤ 128) (ho : ∀ x ∈ ps, x.ops.length ≤ 8192 ∧ x.body.length ≤ 8192) :
    Calls Tryd.prog 40 #[.slice ao ps.length cap] w fun e w' => ∃ r c, e = .returned (.slice r ps.length c) ∧ PAt w' r ps ∧ Below w.heap.size w w' := by
  obtain ⟨b, f, rfl, hz, hx⟩ := h.is h0
  obtain ⟨pl, hp, hx⟩ := pls_of hx
  have HC : Hid (Calls Tryd.prog 69 #[.slice (some ⟨b, f, none⟩) ps.length cap] w fun e w' => ∃ g c, e = .returned (.slice (some ⟨g, 0, none⟩) ps.length c) ∧ Ci w w' g ps) := by
    refine (cloneB_some ⟨b, f, none⟩ ps.length cap (bcs ps pl) w (by omega) (bcs_len ps pl hp) (bcs_one ps pl) (bcs_at ps pl f hp fun i h g => (hx i h g).1)).mono ?_
    rintro e w' ⟨r, c, rfl, h1, h2⟩
    obtain ⟨g, rfl, hc⟩ := ci_start hp hx h0 h1 h2
    exact ⟨g, c, rfl, hc⟩
  have hlz : (ps.length : Int) ≤ 128 := by omega
  have HO : Hid (∀ x ∈ ps, x.ops.length ≤ 8192 ∧ x.body.length ≤ 8192) := ho
  clear h hx hp ho h0
  go_enter Tryd.func40, Tryd.ntmps40
  go_wp2_with (first | (go_at_call 69; refine Calls.mono HC.out ?_; rintro e w1 ⟨g, c, rfl, hc⟩; have HI : Hid _ := hc; clear hc HC))
  go_loopw [10] (fun i wr => ∃ k : Nat, k ≤ ps.length ∧ i = .int .i64 k ∧ Ci w wr g ps) (fun i _ => ps.length - (intOf i).toNat)
  case atStart => exact ⟨0, by omega, rfl, HI.out⟩
  case round =>
    rename_i wr
    obtain ⟨k, hk, rfl, hc⟩ := hrel
    by_cases hlt : k < ps.length
    · obtain ⟨p, hp, hn, hf1, hf2⟩ := hc.is k hlt
      obtain ⟨c0, c1, c2, c3, c4, c5⟩ := hp
      have hg := hc.lt
      have hkz : (k : Int) < ps.length := by omega
      have fz := hc.fz (k * 6)
      have fz3 := hc.fz (k * 6 + 3)
      have HOo : Hid (∀ W, Below wr.heap.size wr W → Calls Tryd.prog 70 #[.slice p.oa ps[k].ops.length p.oc] W fun e w' => ∃ r c, e = .returned (.slice r ps[k].ops.length c) ∧ Oc W w' r c ps[k].ops) := fun W hb => cloneO_any _ _ _ _ (hn.o.below hb) (HO.out _ (List.getElem_mem hlt)).1
      have HOy : Hid (∀ W, OpsAt W p.ba ps[k].body → Calls Tryd.prog 70 #[.slice p.ba ps[k].body.length p.bc] W fun e w' => ∃ r c, e = .returned (.slice r ps[k].body.length c) ∧ Oc W w' r c ps[k].body) := fun W hb => cloneO_any _ _ _ _ hb (HO.out _ (List.getElem_mem hlt)).2
      have HK : Hid (Ci w wr g ps) := hc
      have HY : Hid (OpsAt wr p.ba ps[k].body ∧ Far (One g) p.ba ps[k].body.length) := ⟨hn.b, hf2⟩
      clear hc hn hf1 hf2 HI HO
      have HX : Hid (∀ {r c} {W : World}, Ci w W g ps → OpsAt W r ps[k].ops → ps[k].ops.length ≤ c → Far (One g) r ps[k].ops.length → Ci w (W.setCell ⟨g, k * 6, none⟩ (.slice r ps[k].ops.length c)) g ps) := fun {r c W} h1 h2 h3 h4 => h1.setO hlt h2 h3 h4
      have HXy : Hid (∀ {r c} {W : World}, Ci w W g ps → OpsAt W r ps[k].body → Far (One g) r ps[k].body.length → Ci w (W.setCell ⟨g, k * 6 + 3, none⟩ (.slice r ps[k].body.length c)) g ps) := fun {r c W} h1 h2 h4 => h1.setY hlt h2 h4
      generalize ps[k] = x at *
      have hne : ¬ g = wr.heap.size := by omega
      have hne' : ¬ wr.heap.size = g := by omega
      go_wp2_with (first
        | (go_at_call 70; refine Calls.mono (HOo.out _ (by go_grown)) ?_; rintro e w2 ⟨r1, d1, rfl, h1⟩; have HB1 : Hid (Below wr.heap.size wr w2) := (((Below.refl _ _).alloc (Nat.le_refl _) _).trans (h1.up.mono (by simp))); have HR1 : Hid (Ci w (w2.setCell ⟨g, k * 6, none⟩ (.slice r1 x.ops.length d1)) g ps) := (HX.out (HK.out.up' HB1.out) h1.at_ h1.cap (ops_far h1 (by simp; omega))); have k1 := (Op.At.new wr #[.slice p.oa x.ops.length p.oc, .int .i8 x.fin, .int .u8 x.a, .slice p.ba x.body.length p.bc, .int .i64 x.thn, .int .i64 x.els] 45).below h1.up (by simp); have b3 := k1.c 3 _ rfl; have bl := k1.lt; have e0 := ((bcell HB1.out).1 g (k * 6) hg).trans c0; have e1 := ((bcell HB1.out).2 g (k * 6) hg).trans fz; have e2 : g < w2.heap.size := Nat.lt_of_lt_of_le hg HB1.out.size; clear h1 HOo k1)
        | (go_at_call 70; refine Calls.mono (HOy.out _ (opsAt_fr (HY.out.1.below HB1.out) ((Fr.refl (One g) w2).setCell (.inr rfl) _ _) HY.out.2)) ?_; rintro e w3 ⟨r2, d2, rfl, h2⟩; have HR2 : Hid (Ci w (w3.setCell ⟨g, k * 6 + 3, none⟩ (.slice r2 x.body.length d2)) g ps) := (HXy.out (HR1.out.up' h2.up) h2.at_ (ops_far h2 HR1.out.lt)); have i0 := ((bcell h2.up).1 g (k * 6 + 3) HR1.out.lt).trans ((co (by omega)).trans (((bcell HB1.out).1 g (k * 6 + 3) hg).trans c3)); have i1 := ((bcell h2.up).2 g (k * 6 + 3) HR1.out.lt).trans (HR1.out.fz _); have i2 : g < w3.heap.size := Nat.lt_of_lt_of_le HR1.out.lt h2.up.size; clear h2 HOy))
      go_roundw
      case rel => exact ⟨k + 1, by omega, by go_num, HR2.out⟩
      case measure => simp [intOf]; omega
    · obtain rfl : k = ps.length := by omega
      have HK : Hid (Ci w wr g ps) := hc
      clear hc
      go_wp2_with fail
      go_ret
      exact ⟨_, _, rfl, HK.out.pat hl, HK.out.up⟩
end Go.Proofs.YtccakjijoadjkaaDoor.Sm
