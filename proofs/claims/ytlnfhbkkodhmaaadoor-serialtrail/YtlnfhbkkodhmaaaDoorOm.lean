/- The statement SerialTrail, whole: what a run did is told step by step as the document says, whatever the program, the state and the number of steps; the listed variable is tied to the program text. Conditions: none. -/
import Derived.Test.YtlnfhbkkodhmaaaDoorDf
import Derived.Test.YtlnfhbkkodhmaaaDoorNr
import Derived.Test.YtlnfhbkkodhmaaaDoorRj
import Derived.Test.YtlnfhbkkodhmaaaDoorDg
import Derived.Test.YtlnfhbkkodhmaaaDoorQb
import Derived.Test.YtlnfhbkkodhmaaaDoorQc
import Derived.Deep.RegionHeld3
import Derived.Test.YtlnfhbkkodhmaaaDoorFr
import Derived.ChangeOld
import Derived.SizedLaws
import Derived.Test.YtlnfhbkkodhmaaaDoorNs
import Derived.ChangeSlices
namespace Go.Proofs.YtlnfhbkkodhmaaaDoor.Sm
open Go.ChangeShapes Go.WideShapes Go.ChangeAt Go.RowKit
open _root_.Go.Proofs.YtlnfhbkkodhmaaaDoor.Op _root_.Go.Proofs.YtlnfhbkkodhmaaaDoor.So
set_option maxRecDepth 20000

/-- The first k of a list laid over. -/
def over (f : Nat → Int) (l : List Int) (k : Nat) : Nat → Int := fun i => if i < k then l.getD i 0 else f i
theorem over_zero (f : Nat → Int) (l : List Int) : over f l 0 = f := by funext i; simp [over]
theorem over_succ (f : Nat → Int) (l : List Int) {k : Nat} (h : k < l.length) : upd (over f l k) k l[k] = over f l (k + 1) := by
  funext i
  unfold upd over
  by_cases e : i = k
  · subst e
    rw [if_pos rfl, if_pos (by omega), List.getD_eq_getElem?_getD, List.getElem?_eq_getElem h]
    rfl
  · rw [if_neg e]
    by_cases h1 : i < k
    · rw [if_pos h1, if_pos (by omega)]
    · rw [if_neg h1, if_neg (by omega)]
section
variable {w : World} {q : Nat} {ba : Option Addr} {bl bc : Nat} {po : Option Addr} {pc : Nat} {M : Ma} {L : Tg}
/-- Fill on its way: the state's box, the machine. -/
structure Fw (w wz : World) (q : Nat) (cs : Array Value) (f : Nat → Value) : Prop where
  up : Fr (One q) w wz
  bx : Op.At wz w.heap.size cs
  at_ : DAt wz q f
  ne : q < w.heap.size
theorem fw_start (h : DAt w q (dG ba bl bc po pc M L)) (cs : Array Value) : Fw w (w.alloc (.cells cs 27)) q cs (dG ba bl bc po pc M L) := by
  have hb : Below w.heap.size w (w.alloc (.cells cs 27)) := (Below.refl _ _).alloc (Nat.le_refl _) _
  exact ⟨Fr.of hb, Op.At.new _ _ _, h.up hb, h.lt⟩
theorem Fw.set {W : World} {cs : Array Value} {f g : Nat → Value} (h : Fw w W q cs f) {k : Nat} (hk : k < 302) {v : Value} (e : updV f k v = g) : Fw w (W.setCell ⟨q, k, none⟩ v).drew q cs g := by
  have hF : Fr (One q) W (W.setCell ⟨q, k, none⟩ v).drew := ((Fr.refl (One q) W).setCell (.inr (show One q q from rfl)) _ _).then (drew_up _)
  have hn : ¬ One q w.heap.size := fun e => by have e : w.heap.size = q := e; have := h.ne; omega
  have hd := (h.at_.set hk v).up (drew_up _)
  rw [e] at hd
  exact ⟨h.up.same hF, at_fr' h.bx hF hn, hd, h.ne⟩
theorem rfill_no (ra ma : Option Addr) (rc mc : Nat) (rs ms : List Int) (w : World) (q : Nat) (hg : 32 < rs.length ∨ 256 < ms.length) : Calls Tryd.prog 25 #[.agg #[.slice ra rs.length rc, .slice ma ms.length mc], .pointer (some ⟨q, 1, none⟩), .pointer (some ⟨q, 33, none⟩)] w fun e w' => e = .returned (.bool false) ∧ Below w.heap.size w w' := by
  generalize rs.length = rl at *
  generalize ms.length = ml at *
  have HB : Hid (Below w.heap.size w (w.alloc (.cells #[.slice ra rl rc, .slice ma ml mc] 27))) := (Below.refl _ _).alloc (Nat.le_refl _) _
  by_cases h1 : 32 < rl
  · have h1i : (32 : Int) < rl := by omega
    go_enter Tryd.func25, Tryd.ntmps25
    go_wp2_with fail
    go_ret
    exact ⟨rfl, HB.out⟩
  · have h1i : ¬ (32 : Int) < rl := by omega
    have h2i : (256 : Int) < ml := by omega
    go_enter Tryd.func25, Tryd.ntmps25
    go_wp2_with fail
    go_ret
    exact ⟨rfl, HB.out⟩
set_option maxHeartbeats 4000000 in
theorem rfill_any (ra ma : Option Addr) (rc mc : Nat) (rs ms : List Int) (h : DAt w q (dG ba bl bc po pc M L)) (h1 : NL w ra rs) (h2 : NL w ma ms) (n1 : 0 < rs.length → ∀ x, ra = some x → ¬ x.block = q) (n2 : 0 < ms.length → ∀ x, ma = some x → ¬ x.block = q) (l1 : rs.length ≤ 32) (l2 : ms.length ≤ 256) :
    Calls Tryd.prog 25 #[.agg #[.slice ra rs.length rc, .slice ma ms.length mc], .pointer (some ⟨q, 1, none⟩), .pointer (some ⟨q, 33, none⟩)] w fun e w' => e = .returned (.bool true) ∧ DAt w' q (dG ba bl bc po pc { M with r := over M.r rs rs.length, m := over M.m ms ms.length } L) ∧ Fr (One q) w w' := by
  have HN1 : Hid (∀ W, Fr (One q) w W → NL W ra rs) := fun W g => h1.fr g n1
  have HN2 : Hid (∀ W, Fr (One q) w W → NL W ma ms) := fun W g => h2.fr g n2
  have HF0 : Hid (Fw w (w.alloc (.cells #[.slice ra rs.length rc, .slice ma ms.length mc] 27)) q #[.slice ra rs.length rc, .slice ma ms.length mc] (dG ba bl bc po pc M L)) := fw_start h _
  have hne : ¬ q = w.heap.size := by have := h.lt; omega
  have hne' : ¬ w.heap.size = q := fun e => hne e.symm
  have k1i : ¬ (32 : Int) < rs.length := by omega
  have k2i : ¬ (256 : Int) < ms.length := by omega
  clear h h1 h2
  go_enter Tryd.func25, Tryd.ntmps25
  go_wp2_with fail
  go_loopw [7] (fun i wz => ∃ k : Nat, k ≤ rs.length ∧ i = .int .i64 k ∧ Fw w wz q #[.slice ra rs.length rc, .slice ma ms.length mc] (dG ba bl bc po pc { M with r := over M.r rs k } L)) (fun i _ => rs.length - (intOf i).toNat)
  case atStart => exact ⟨0, by omega, rfl, by rw [over_zero]; exact HF0.out⟩
  case round =>
    rename World => wz
    obtain ⟨k, hk, rfl, hfw⟩ := hrel
    have HF : Hid (Fw w wz q #[.slice ra rs.length rc, .slice ma ms.length mc] (dG ba bl bc po pc { M with r := over M.r rs k } L)) := hfw
    clear hfw HF0
    have c0 := HF.out.bx.c 0 _ rfl
    have c1 := HF.out.bx.c 1 _ rfl
    have z0 := HF.out.bx.lt
    have z1 := HF.out.at_.lt
    by_cases hlt : k < rs.length
    · have hki : (k : Int) < rs.length := by omega
      have hk32 : (k : Int) < 32 := by omega
      obtain ⟨b, f, rfl, hz, hx⟩ := (HN1.out wz HF.out.up).is (by omega)
      have x0 := hx k hlt
      have r0 := HF.out.at_.kr (show k < 32 by omega)
      have f0 := HF.out.at_.fz (1 + k)
      have HU : Hid (Fw w (wz.setCell ⟨q, 1 + k, none⟩ (.int .i64 rs[k])).drew q #[.slice (some ⟨b, f, none⟩) rs.length rc, .slice ma ms.length mc] (dG ba bl bc po pc { M with r := over M.r rs (k + 1) } L)) := HF.out.set (by omega) (by rw [up_r (show k < 32 by omega), over_succ _ _ hlt])
      clear hx
      generalize rs[k] = rv at *
      go_wp2_with fail
      go_big_region
      all_goals
        go_wp2_with fail
        go_roundw
        case rel => exact ⟨k + 1, by omega, by go_num, HU.out⟩
        case measure => simp [intOf]; omega
    · obtain rfl : rs.length = k := by omega
      go_wp2_with fail
      clear c0 c1 z0 z1
      go_loopw [8] (fun i wy => ∃ k : Nat, k ≤ ms.length ∧ i = .int .i64 k ∧ Fw w wy q #[.slice ra rs.length rc, .slice ma ms.length mc] (dG ba bl bc po pc { M with r := over M.r rs rs.length, m := over M.m ms k } L)) (fun i _ => ms.length - (intOf i).toNat)
      case atStart => exact ⟨0, by omega, rfl, by rw [over_zero]; exact HF.out⟩
      case round =>
        rename World => wy
        obtain ⟨k, hk2, rfl, hfw⟩ := hrel
        have HG : Hid (Fw w wy q #[.slice ra rs.length rc, .slice ma ms.length mc] (dG ba bl bc po pc { M with r := over M.r rs rs.length, m := over M.m ms k } L)) := hfw
        clear hfw HF
        have c0 := HG.out.bx.c 0 _ rfl
        have c1 := HG.out.bx.c 1 _ rfl
        have z0 := HG.out.bx.lt
        have z1 := HG.out.at_.lt
        by_cases hlt2 : k < ms.length
        · have hki : (k : Int) < ms.length := by omega
          have hk256 : (k : Int) < 256 := by omega
          obtain ⟨b, f, rfl, hz, hx⟩ := (HN2.out wy HG.out.up).is (by omega)
          have x0 := hx k hlt2
          have r0 := HG.out.at_.km (show k < 256 by omega)
          have f0 := HG.out.at_.fz (33 + k)
          have HU : Hid (Fw w (wy.setCell ⟨q, 33 + k, none⟩ (.int .i64 ms[k])).drew q #[.slice ra rs.length rc, .slice (some ⟨b, f, none⟩) ms.length mc] (dG ba bl bc po pc { M with r := over M.r rs rs.length, m := over M.m ms (k + 1) } L)) := HG.out.set (by omega) (by rw [up_m (show k < 256 by omega), over_succ _ _ hlt2])
          clear hx
          generalize ms[k] = rv at *
          go_wp2_with fail
          go_big_region
          all_goals
            go_wp2_with fail
            go_roundw
            case rel => exact ⟨k + 1, by omega, by go_num, HU.out⟩
            case measure => simp [intOf]; omega
        · obtain rfl : ms.length = k := by omega
          go_wp2_with fail
          go_ret
          exact ⟨rfl, HG.out.at_, HG.out.up⟩
end
end Go.Proofs.YtlnfhbkkodhmaaaDoor.Sm

namespace Go.Proofs.YtlnfhbkkodhmaaaDoor.Sm
open Go.ChangeShapes Go.WideShapes Go.ChangeAt Go.RowKit Go.Great
open _root_.Go.Proofs.YtlnfhbkkodhmaaaDoor.Op _root_.Go.Proofs.YtlnfhbkkodhmaaaDoor.So
set_option maxRecDepth 20000

/-- What a new machine's cells hold. -/
def dzA (r : Option Addr) (n c : Nat) : Array Value := ((List.range 302).map (dG r n c none 0 (initM [] []) (0, false, 0))).toArray
theorem dzA_at (w : World) (r : Option Addr) (n c : Nat) : DAt (w.alloc (.cells (dzA r n c) 84)) w.heap.size (dG r n c none 0 (initM [] []) (0, false, 0)) := by
  have h := Op.At.new w (dzA r n c) 84
  refine ⟨h.lt, h.f, fun j hj => h.c j _ ?_⟩
  unfold dzA
  rw [List.getElem?_toArray, List.getElem?_map, List.getElem?_range hj]
  rfl
theorem over_init (l : List Int) (k : Nat) (hk : k = l.length) : over (fun i => (([] : List Int)[i]?).getD 0) l k = fun i => (l[i]?).getD 0 := by
  subst hk
  funext i
  unfold over
  by_cases h : i < l.length
  · rw [if_pos h, List.getD_eq_getElem?_getD]
  · rw [if_neg h, List.getElem?_eq_none (by omega)]
    simp
/-- What New leaves. -/
def RNew (w : World) (ps : List Bk) (rs ms : List Int) (e : Ending) (w' : World) : Prop := ∃ q, e = .returned (.tuple #[ptr q, .int .i64 0]) ∧ w.heap.size ≤ q ∧ DM w' q ps (One q) (initM rs ms) (0, false, 0) ∧ Below w.heap.size w w'
set_option maxHeartbeats 4000000 in
theorem rnew_ok (ao : Option Addr) (cap : Nat) (ps : List Bk) (ra ma : Option Addr) (rc mc : Nat) (rs ms : List Int) (w : World) (h : PAt w ao ps) (hc : ckP ps = 0) (hP : PsM ps) (h1 : NL w ra rs) (h2 : NL w ma ms) (h32 : rs.length ≤ 32) (h256 : ms.length ≤ 256) (hr : ∀ x ∈ rs, In64 x) (hm : ∀ x ∈ ms, In64 x) :
    Calls Tryd.prog 9 #[.agg #[.slice ao ps.length cap], .agg #[.slice ra rs.length rc, .slice ma ms.length mc]] w (RNew w ps rs ms) := by
  have HCk : Hid (∀ W, Below w.heap.size w W → Calls Tryd.prog 24 #[.agg #[.slice ao ps.length cap]] W fun e w' => e = .returned (.int .i64 0) ∧ Below W.heap.size W w') := fun W hb => by
    have := refCheckP_any ao cap ps W (h.below hb)
    rw [hc] at this; exact this
  have HPA : Hid (∀ W, Below w.heap.size w W → PAt W ao ps) := fun W hb => h.below hb
  have HPs : Hid (PsM ps ∧ Inv ps (initM rs ms)) := ⟨hP, inv_init hP hr hm⟩
  have nb : ∀ {a : Option Addr} {l : List Int}, NL w a l → 0 < l.length → ∀ x, a = some x → x.block < w.heap.size := fun {a l} hn h0 x e => by
    obtain ⟨b, f, e', z, -⟩ := hn.is h0
    rw [e'] at e; cases e; exact z
  have HFi : Hid (∀ (W : World) (q : Nat), Below w.heap.size w W → w.heap.size ≤ q → DAt W q (dG ao ps.length cap none 0 (initM [] []) (0, false, 0)) → Calls Tryd.prog 25 #[.agg #[.slice ra rs.length rc, .slice ma ms.length mc], .pointer (some ⟨q, 1, none⟩), .pointer (some ⟨q, 33, none⟩)] W fun e w' => e = .returned (.bool true) ∧ DAt w' q (dG ao ps.length cap none 0 (initM rs ms) (0, false, 0)) ∧ Fr (One q) W w') := fun W q hb hq hd => by
    have h9 := rfill_any ra ma rc mc rs ms hd (h1.up hb) (h2.up hb) (fun h0 x e e' => by have := nb h1 h0 x e; omega) (fun h0 x e e' => by have := nb h2 h0 x e; omega) h32 h256
    have e : ({ initM [] [] with r := over (initM [] []).r rs rs.length, m := over (initM [] []).m ms ms.length } : Ma) = initM rs ms := by
      show (⟨over (fun i => (([] : List Int)[i]?).getD 0) rs rs.length, over (fun i => (([] : List Int)[i]?).getD 0) ms ms.length, 0, false, 0, 0, 100, 0, [], 0⟩ : Ma) = _
      rw [over_init rs _ rfl, over_init ms _ rfl]; rfl
    rw [e] at h9
    exact h9
  have HB0 : Hid (Bx w ((w.alloc (.cells #[.slice ao ps.length cap] 24)).alloc (.cells #[.slice ra rs.length rc, .slice ma ms.length mc] 27)) ao ps.length cap ra ma rs.length rc ms.length mc) := by
    obtain ⟨a1, a2, hb, -, -⟩ := two_new w #[.slice ao ps.length cap] #[.slice ra rs.length rc, .slice ma ms.length mc] 24 27 (Below.refl _ _)
    exact ⟨a1, a2, hb⟩
  clear h hc hP h1 h2 h32 h256 hr hm nb
  generalize rs.length = rl at *
  generalize ms.length = ml at *
  go_enter Tryd.func9, Tryd.ntmps9
  go_upto_region 4 with (first | (go_at_call 24; refine Calls.mono (HCk.out _ (by go_grown)) ?_; rintro e w1 ⟨rfl, hb⟩; have HB1 : Hid (Bx w w1 ao ps.length cap ra ma rl rc ml mc) := (HB0.out.up hb); have p0 := HB1.out.p.c 0 _ rfl; have s0 := HB1.out.s.c 0 _ rfl; have s1 := HB1.out.s.c 1 _ rfl; have pl := HB1.out.p.lt; have sl := HB1.out.s.lt; clear hb HB0 HCk))
  rename_i K6 hK6
  apply wp_region_lit
  refine wpList_plain rfl (fun K hK => ?_)
  go_simp
  refine hK _ _ ?_
  clear hK K
  refine wpList_buildTo rfl 84 _ rfl (some 14) rfl (dzA ao ps.length cap) (by kernel_rfl) ?_
  refine wpList_boxTo rfl 84 (.tmp 14) rfl (some 15) rfl w1.heap.size rfl (dzA ao ps.length cap) (by kernel_rfl) ?_
  refine wpList_readTo rfl (some 7) rfl (ptr w1.heap.size) (by kernel_rfl) ?_
  refine wpList_nil ?_
  refine hK6 _ _ ?_
  clear hK6 K6
  have HX : Hid (Bx w (w1.alloc (.cells (dzA ao ps.length cap) 84)) ao ps.length cap ra ma rl rc ml mc ∧ DAt (w1.alloc (.cells (dzA ao ps.length cap) 84)) w1.heap.size (dG ao ps.length cap none 0 (initM [] []) (0, false, 0)) ∧ w.heap.size ≤ w1.heap.size) := ⟨HB1.out.up ((Below.refl _ _).alloc (Nat.le_refl _) _), dzA_at _ _ _ _, HB1.out.b.size⟩
  clear HB1 p0 s0 s1 pl sl
  generalize dzA ao ps.length cap = mzz at *
  generalize w1.alloc (.cells mzz 84) = X at *
  generalize w1.heap.size = q at *
  simp only [Act.put, List.setIfInBounds_toArray, List.set_cons_zero, List.set_cons_succ]
  have s0 := HX.out.1.s.c 0 _ rfl
  have s1 := HX.out.1.s.c 1 _ rfl
  have sl := HX.out.1.s.lt
  have ql := HX.out.2.1.lt
  have HXd : Hid (Below w.heap.size w X.drew ∧ DAt X.drew q (dG ao ps.length cap none 0 (initM [] []) (0, false, 0))) := ⟨(HX.out.1.up (drew_up X)).b, HX.out.2.1.up (drew_up X)⟩
  go_wp2_with fail
  go_region_with (first | (go_at_call 25; refine Calls.mono (HFi.out _ q HXd.out.1 HX.out.2.2 HXd.out.2) ?_; rintro e w6 ⟨rfl, h6, g6⟩; have H6 : Hid (DAt w6 q (dG ao ps.length cap none 0 (initM rs ms) (0, false, 0)) ∧ Fr (One q) X.drew w6) := ⟨h6, g6⟩; clear h6 g6 HFi))
  all_goals
    clear s0 s1
    go_wp2_with fail
    go_ret2
    have hq := HX.out.2.2
    have hb : Below w.heap.size w w6 := HXd.out.1.trans (H6.out.2.below HXd.out.1.size fun k hk e => by have e : k = q := e; omega)
    refine ⟨q, rfl, hq, ⟨⟨⟨ao, cap, none, 0, H6.out.1, (pin_of (HPA.out w (Below.refl _ _)) (T := fun k => One q k ∨ q ≤ k) (fun k hk e => e.elim (fun e => by have e : k = q := e; omega) fun e => by omega)).fr ?_, World.ownsRow_nil _ _ _ _, fun a e => by cases e⟩, rfl, fun k e => by have e : k = q := e; rw [e]; exact H6.out.1.lt⟩, HPs.out.2, HPs.out.1, .inl rfl⟩, hb⟩
    exact Fr.of hb
theorem rnew_bad (ao : Option Addr) (cap : Nat) (ps : List Bk) (sv : Value) (ra ma : Option Addr) (rl rc ml mc : Nat) (hsv : sv = .agg #[.slice ra rl rc, .slice ma ml mc]) (w : World) (h : PAt w ao ps) (hc : ¬ ckP ps = 0) :
    Calls Tryd.prog 9 #[.agg #[.slice ao ps.length cap], sv] w fun e w' => e = .returned (.tuple #[.pointer none, .int .i64 (ckP ps)]) ∧ Below w.heap.size w w' := by
  subst hsv
  have HCk : Hid (∀ W, Below w.heap.size w W → Calls Tryd.prog 24 #[.agg #[.slice ao ps.length cap]] W fun e w' => e = .returned (.int .i64 (ckP ps)) ∧ Below W.heap.size W w') := fun W hb => refCheckP_any ao cap ps W (h.below hb)
  have HB0 : Hid (Bx w ((w.alloc (.cells #[.slice ao ps.length cap] 24)).alloc (.cells #[.slice ra rl rc, .slice ma ml mc] 27)) ao ps.length cap ra ma rl rc ml mc) := by
    obtain ⟨a1, a2, hb, -, -⟩ := two_new w #[.slice ao ps.length cap] #[.slice ra rl rc, .slice ma ml mc] 24 27 (Below.refl _ _)
    exact ⟨a1, a2, hb⟩
  have hcb : (ckP ps == 0) = false := by simpa using hc
  clear h hc
  generalize ckP ps = ce at *
  have hc : ¬ ce = 0 := by simpa using hcb
  go_enter Tryd.func9, Tryd.ntmps9
  go_wp2_with (first | (go_at_call 24; refine Calls.mono (HCk.out _ (by go_grown)) ?_; rintro e w1 ⟨rfl, hb⟩; have HB1 : Hid (Bx w w1 ao ps.length cap ra ma rl rc ml mc) := (HB0.out.up hb); clear hb HB0 HCk))
  go_ret2
  exact ⟨rfl, HB1.out.b⟩
set_option maxHeartbeats 4000000 in
theorem rnew_great (ao : Option Addr) (cap : Nat) (ps : List Bk) (ra ma : Option Addr) (rc mc : Nat) (rs ms : List Int) (w : World) (h : PAt w ao ps) (hc : ckP ps = 0) (hg : 32 < rs.length ∨ 256 < ms.length) :
    Calls Tryd.prog 9 #[.agg #[.slice ao ps.length cap], .agg #[.slice ra rs.length rc, .slice ma ms.length mc]] w fun e w' => e = .returned (.tuple #[.pointer none, .int .i64 2]) ∧ Below w.heap.size w w' := by
  have HCk : Hid (∀ W, Below w.heap.size w W → Calls Tryd.prog 24 #[.agg #[.slice ao ps.length cap]] W fun e w' => e = .returned (.int .i64 0) ∧ Below W.heap.size W w') := fun W hb => by
    have := refCheckP_any ao cap ps W (h.below hb)
    rw [hc] at this; exact this
  have HFi : Hid (∀ (W : World) (q : Nat), Calls Tryd.prog 25 #[.agg #[.slice ra rs.length rc, .slice ma ms.length mc], .pointer (some ⟨q, 1, none⟩), .pointer (some ⟨q, 33, none⟩)] W fun e w' => e = .returned (.bool false) ∧ Below W.heap.size W w') := fun W q => rfill_no ra ma rc mc rs ms W q hg
  have HB0 : Hid (Bx w ((w.alloc (.cells #[.slice ao ps.length cap] 24)).alloc (.cells #[.slice ra rs.length rc, .slice ma ms.length mc] 27)) ao ps.length cap ra ma rs.length rc ms.length mc) := by
    obtain ⟨a1, a2, hb, -, -⟩ := two_new w #[.slice ao ps.length cap] #[.slice ra rs.length rc, .slice ma ms.length mc] 24 27 (Below.refl _ _)
    exact ⟨a1, a2, hb⟩
  clear h hc hg
  generalize rs.length = rl at *
  generalize ms.length = ml at *
  go_enter Tryd.func9, Tryd.ntmps9
  go_upto_region 4 with (first | (go_at_call 24; refine Calls.mono (HCk.out _ (by go_grown)) ?_; rintro e w1 ⟨rfl, hb⟩; have HB1 : Hid (Bx w w1 ao ps.length cap ra ma rl rc ml mc) := (HB0.out.up hb); have p0 := HB1.out.p.c 0 _ rfl; have s0 := HB1.out.s.c 0 _ rfl; have s1 := HB1.out.s.c 1 _ rfl; have pl := HB1.out.p.lt; have sl := HB1.out.s.lt; clear hb HB0 HCk))
  rename_i K6 hK6
  apply wp_region_lit
  refine wpList_plain rfl (fun K hK => ?_)
  go_simp
  refine hK _ _ ?_
  clear hK K
  refine wpList_buildTo rfl 84 _ rfl (some 14) rfl (dzA ao ps.length cap) (by kernel_rfl) ?_
  refine wpList_boxTo rfl 84 (.tmp 14) rfl (some 15) rfl w1.heap.size rfl (dzA ao ps.length cap) (by kernel_rfl) ?_
  refine wpList_readTo rfl (some 7) rfl (ptr w1.heap.size) (by kernel_rfl) ?_
  refine wpList_nil ?_
  refine hK6 _ _ ?_
  clear hK6 K6
  have HX : Hid (Bx w (w1.alloc (.cells (dzA ao ps.length cap) 84)) ao ps.length cap ra ma rl rc ml mc ∧ DAt (w1.alloc (.cells (dzA ao ps.length cap) 84)) w1.heap.size (dG ao ps.length cap none 0 (initM [] []) (0, false, 0)) ∧ w.heap.size ≤ w1.heap.size) := ⟨HB1.out.up ((Below.refl _ _).alloc (Nat.le_refl _) _), dzA_at _ _ _ _, HB1.out.b.size⟩
  clear HB1 p0 s0 s1 pl sl
  generalize dzA ao ps.length cap = mzz at *
  generalize w1.alloc (.cells mzz 84) = X at *
  generalize w1.heap.size = q at *
  simp only [Act.put, List.setIfInBounds_toArray, List.set_cons_zero, List.set_cons_succ]
  have s0 := HX.out.1.s.c 0 _ rfl
  have s1 := HX.out.1.s.c 1 _ rfl
  have sl := HX.out.1.s.lt
  have ql := HX.out.2.1.lt
  have HXd : Hid (Below w.heap.size w X.drew ∧ DAt X.drew q (dG ao ps.length cap none 0 (initM [] []) (0, false, 0))) := ⟨(HX.out.1.up (drew_up X)).b, HX.out.2.1.up (drew_up X)⟩
  go_wp2_with fail
  go_region_with (first | (go_at_call 25; refine Calls.mono (HFi.out _ q) ?_; rintro e w6 ⟨rfl, h6⟩; have H6 : Hid (Below X.drew.heap.size X.drew w6) := h6; clear h6 HFi))
  all_goals
    clear s0 s1
    go_wp2_with fail
    go_ret2
    exact ⟨rfl, HXd.out.1.trans (H6.out.mono HXd.out.1.size)⟩
end Go.Proofs.YtlnfhbkkodhmaaaDoor.Sm

namespace Go.Proofs.YtlnfhbkkodhmaaaDoor.Sm
open Go.ChangeShapes Go.WideShapes Go.ChangeAt Go.RowKit
open _root_.Go.Proofs.YtlnfhbkkodhmaaaDoor.Op _root_.Go.Proofs.YtlnfhbkkodhmaaaDoor.So
set_option maxRecDepth 20000

theorem rtrail_no (ao ra ma : Option Addr) (cap n0 rl rc ml mc : Nat) (n : Int) (er : Int) (her : (er == 0) = false) (w : World)
    (hN : ∀ W, Below w.heap.size w W → Calls Tryd.prog 9 #[.agg #[.slice ao n0 cap], .agg #[.slice ra rl rc, .slice ma ml mc]] W fun e w' => e = .returned (.tuple #[.pointer none, .int .i64 er]) ∧ Below W.heap.size W w') :
    Calls Tryd.prog 19 #[.agg #[.slice ao n0 cap], .agg #[.slice ra rl rc, .slice ma ml mc], .int .i64 n] w fun e w' => e = .returned (.tuple #[.slice none 0 0, .int .i64 er]) ∧ Below w.heap.size w w' := by
  have HN : Hid _ := hN
  have her2 : (er != 0) = true := by simpa using her
  clear hN
  go_enter Tryd.func19, Tryd.ntmps19
  go_wp2_with (first
    | (go_at_call 9; refine Calls.mono (HN.out _ (by go_grown)) ?_; rintro e w1 ⟨rfl, hb⟩; obtain ⟨-, -, hb0, -, -⟩ := two_new w _ _ _ _ hb; have HB : Hid (Below w.heap.size w w1) := hb0; clear hb hb0 HN))
  go_ret2
  exact ⟨rfl, HB.out⟩
/-- The document's trail under way: k tags in a row, the machine behind so many steps. -/
structure Td (w wr : World) (q : Nat) (ps : List Bk) (M0 : Ma) (k : Nat) (a : Option Addr) (c : Nat) (M : Ma) : Prop where
  up : Below w.heap.size w wr
  wq : w.heap.size ≤ q
  row : wr.ownsRow (q + 1) 49 4 (.slice a k c) k (tcells (trailM ps k M0))
  len : (trailM ps k M0).length = k
  j : ∀ b, trailM ps (k + b) M0 = trailM ps k M0 ++ trailM ps b M
  s : M.s ≤ k
  mm : ∃ T L, DM wr q ps T M L ∧ (∀ j, T j → q ≤ j) ∧ ∀ x, a = some x → ¬ T x.block
/-- Behind one step more. -/
structure Te (w wr : World) (q : Nat) (ps : List Bk) (M0 : Ma) (k : Nat) (a : Option Addr) (c : Nat) (M M' : Ma) (L : Tg) : Prop where
  up : Below w.heap.size w wr
  row : wr.ownsRow (q + 1) 49 4 (.slice a k c) k (tcells (trailM ps k M0))
  mm : ∃ T, DM wr q ps T M' L ∧ (∀ j, T j → q ≤ j) ∧ ∀ x, a = some x → ¬ T x.block
theorem Td.step {w wr : World} {q : Nat} {ps : List Bk} {M0 M M' : Ma} {k c : Nat} {a : Option Addr} {b : Bool} {L' : Tg} {f : FuncId} {args : Array Value} (h : Td w wr q ps M0 k a c M) (hs : ∀ T L, DM wr q ps T M L → ∃ L'', Calls Tryd.prog f args wr (RSt wr q ps T b M' L'') ∧ (b = true → L'' = L')) :
    Calls Tryd.prog f args wr fun e w' => e = .returned (.bool b) ∧ ∃ L'', Te w w' q ps M0 k a c M M' L'' ∧ (b = true → L'' = L') := by
  obtain ⟨T, L, h1, h2, h3⟩ := h.mm
  obtain ⟨L'', hc, hl⟩ := hs T L h1
  refine hc.mono ?_
  rintro e w' ⟨rfl, T', hm, ht⟩
  have hq := h.wq
  refine ⟨rfl, L'', ⟨h.up.trans (ht.below h.up.size fun j hj hT => by have := h2 j hT; omega), row_fr h.row ht.f fun j hj => ?_, T', hm, fun j hj => (ht.t j hj).elim (h2 j) fun h' => Nat.le_trans (Nat.le_of_lt (h1.dr.tl q h1.dr.tq)) h', fun x e hT => ?_⟩, hl⟩
  · cases a with
    | none => simp [Value.ownBlock] at hj
    | some x =>
      simp only [Value.ownBlock, Option.some.injEq] at hj
      subst hj
      exact h3 x rfl
  · have hl := (own_block h.row e).2
    exact (ht.t _ hT).elim (h3 x e) fun h' => by omega
theorem Te.snoc {w wr W w2 : World} {q : Nat} {ps : List Bk} {M0 M : Ma} {k g c c2 : Nat} {a : Option Addr} (h0 : Td w wr q ps M0 k a c M) {wx : World} (h : Te w wx q ps M0 k a c M (stepM ps M) (tagM ps M)) (he : M.e = 100) (ht : trapB ps M = false) (hW : Below wx.heap.size wx W) (hg : W.grownBy w2 (Value.ownBlock (.slice a k c))) (hn : Value.ownBlock (.slice a k c) = some g ∨ wx.heap.size ≤ g)
    (hr : w2.ownsRow (q + 1) 49 4 (.slice (some ⟨g, 0, none⟩) (k + 1) c2) (k + 1) (tcells (trailM ps k M0) ++ [.int .i64 (tagM ps M).1, .bool (tagM ps M).2.1, .int .i64 (tagM ps M).2.2, .bool false])) : Td w w2 q ps M0 (k + 1) (some ⟨g, 0, none⟩) c2 (stepM ps M) := by
  obtain ⟨T, m1, m2, m3⟩ := h.mm
  have hF : Fr (fun b => Value.ownBlock (.slice a k c) = some b) wx w2 := (Fr.of hW).trans (grown_fr hg) fun _ _ e => e
  have hq := h0.wq
  have hx : ∀ j, Value.ownBlock (.slice a k c) = some j → q + 1 ≤ j ∧ ¬ T j := fun j hj => by
    have := (h.row.lt j hj).1
    cases a with
    | none => simp [Value.ownBlock] at hj
    | some x =>
      simp only [Value.ownBlock, Option.some.injEq] at hj
      subst hj
      exact ⟨this, m3 x rfl⟩
  have st : ∀ b, trailM ps (b + 1) M = tagM ps M :: trailM ps b (stepM ps M) := fun b => by simp [trailM, he, ht]
  have e1 : trailM ps (k + 1) M0 = trailM ps k M0 ++ [tagM ps M] := by
    rw [h0.j 1, st 0]
    simp [trailM]
  refine ⟨h.up.trans (hF.below h.up.size fun j hj e => by have := (hx j e).1; omega), hq, ?_, by rw [e1, List.length_append, h0.len]; rfl, fun b => ?_, ?_, T, tagM ps M, m1.aside hF (fun j hj _ e => (hx j e).2 hj) (fun j _ e => .inr (by have := (hx j e).1; omega)), m2, fun x e hT => ?_⟩
  · rw [e1, tcells_snoc]; exact hr
  · rw [e1, show k + 1 + b = k + (b + 1) by omega, h0.j (b + 1), st b]; simp
  · have := h0.s
    show M.s + 1 ≤ k + 1
    omega
  · cases e
    rcases hn with hn | hn
    · exact (hx g hn).2 hT
    · have := m1.dr.tl _ hT
      have hT' : g < wx.heap.size := this
      omega
theorem td_stop {w wr : World} {q : Nat} {ps : List Bk} {M0 M : Ma} {k c N : Nat} {a : Option Addr} (h : Td w wr q ps M0 k a c M) (hk : k ≤ N) (hst : ¬ M.e = 100 ∨ trapB ps M = true) : trailM ps N M0 = trailM ps k M0 := by
  obtain ⟨d, rfl⟩ : ∃ d, N = k + d := ⟨N - k, by omega⟩
  have : trailM ps d M = [] := by
    rcases hst with h1 | h1
    · cases d <;> simp [trailM, h1]
    · cases d
      · simp [trailM]
      · by_cases he : M.e = 100
        · simp [trailM, he, h1]
        · simp [trailM, he]
  rw [h.j d, this, List.append_nil]
set_option maxHeartbeats 4000000 in
theorem rtrail_any (ao ra ma : Option Addr) (cap rc mc : Nat) (ps : List Bk) (rs ms : List Int) (n : Int) (w : World) (h : PAt w ao ps) (hc : ckP ps = 0) (hs : Sn w ra ma rs ms) (h32 : rs.length ≤ 32) (h256 : ms.length ≤ 256) (hr : ∀ x ∈ rs, In64 x) (hm : ∀ x ∈ ms, In64 x) (hn5 : n ≤ 65536) :
    Calls Tryd.prog 19 #[.agg #[.slice ao ps.length cap], .agg #[.slice ra rs.length rc, .slice ma ms.length mc], .int .i64 n] w (TrailPost w (trailM ps (min (max n 0) 65536).toNat (initM rs ms))) := by
  obtain ⟨i0, hi, hi2⟩ := Option.map_eq_some_iff.1 info49
  simp only [Prod.mk.injEq] at hi2
  obtain ⟨hz0, hz1, hz2⟩ := hi2
  have HI : Hid (Tryd.prog.info? 49 = some i0 ∧ i0.zero = some (.agg #[.int .i64 0, .bool false, .int .i64 0, .bool false]) ∧ i0.size = 4 ∧ i0.bytes = 32) := ⟨hi, hz0, hz1, hz2⟩
  clear hi hz0 hz1 hz2
  have hP := psM_of (psOk_of h) hc
  have HN : Hid (∀ W, Below w.heap.size w W → Calls Tryd.prog 9 #[.agg #[.slice ao ps.length cap], .agg #[.slice ra rs.length rc, .slice ma ms.length mc]] W (RNew W ps rs ms)) := fun W hb => rnew_ok ao cap ps ra ma rc mc rs ms W (h.below hb) hc hP (hs.up hb).r (hs.up hb).m h32 h256 hr hm
  obtain ⟨N, hN⟩ : ∃ N : Nat, (min (max n 0) 65536).toNat = N := ⟨_, rfl⟩
  have hN6 : N ≤ 65536 := by omega
  have hNv : min (max n 0) 65536 = (N : Int) := by omega
  rw [hN]
  have HM0 : Hid ((initM rs ms).s = 0) := rfl
  clear h hc hs h32 h256 hr hm hP hN
  generalize rs.length = rl at *
  generalize ms.length = ml at *
  generalize hM0 : initM rs ms = M0 at *
  have hz2 : ((w.alloc (.cells #[.slice ao ps.length cap] 24)).alloc (.cells #[.slice ra rl rc, .slice ma ml mc] 27)).heap.size = w.heap.size + 2 := by simp
  have HZ2 : Hid _ := hz2
  clear hz2
  by_cases hn0 : n < 0
  · clear hn5
    have hNa : N ≤ 0 := by omega
    have hn0' : n ≤ 0 := by omega
    have hn0'' : ¬ 0 < n := by omega
    clear hNv
    go_enter Tryd.func19, Tryd.ntmps19
    go_wp2_with (first
      | (go_at_call 9; refine Calls.mono (HN.out _ (by go_grown)) ?_; rintro e w1 ⟨q, rfl, hq, hm1, hb1⟩; rw [hM0] at hm1; rw [HZ2.out] at hq; have HT : Hid (Td w w1 q ps M0 0 none 0 M0) := ⟨(two_new w _ _ _ _ hb1).2.2.1, (by omega), World.ownsRow_nil _ _ _ _, rfl, (fun b => by rw [Nat.zero_add]; rfl), (by rw [HM0.out]; omega), One q, (0, false, 0), hm1, (fun j e => by have e : j = q := e; omega), (fun x e => by cases e)⟩; clear hm1 hb1 hq HN HZ2))
    clear hM0
    go_loopw [10, 11] (fun v i wr => ∃ (k : Nat) (a : Option Addr) (c : Nat) (M : Ma), k ≤ N ∧ i = .int .i64 k ∧ v = .slice a k c ∧ Td w wr q ps M0 k a c M) (fun _ i _ => N - (intOf i).toNat)
    case atStart => exact ⟨0, none, 0, M0, by omega, rfl, rfl, HT.out⟩
    case round =>
      rename World => wr
      obtain ⟨k, a, c, M, hk, rfl, rfl, ht⟩ := hrel
      have HTd : Hid (Td w wr q ps M0 k a c M) := ht
      clear ht HT
      by_cases hlt : k < N
      · exact absurd hlt (by omega)
      · have hki : ¬ (k : Int) < 0 := by omega
        obtain rfl : k = N := by omega
        go_wp2_with fail
        go_ret2
        exact trail_post HTd.out.row HTd.out.len HTd.out.wq HTd.out.up rfl
  · by_cases hn6 : n ≤ 65536
    · clear hn5
      obtain rfl : n = (N : Int) := by omega
      clear hNv
      go_enter Tryd.func19, Tryd.ntmps19
      go_wp2_with (first
        | (go_at_call 9; refine Calls.mono (HN.out _ (by go_grown)) ?_; rintro e w1 ⟨q, rfl, hq, hm1, hb1⟩; rw [hM0] at hm1; rw [HZ2.out] at hq; have HT : Hid (Td w w1 q ps M0 0 none 0 M0) := ⟨(two_new w _ _ _ _ hb1).2.2.1, (by omega), World.ownsRow_nil _ _ _ _, rfl, (fun b => by rw [Nat.zero_add]; rfl), (by rw [HM0.out]; omega), One q, (0, false, 0), hm1, (fun j e => by have e : j = q := e; omega), (fun x e => by cases e)⟩; clear hm1 hb1 hq HN HZ2))
      clear hM0
      go_loopw [10, 11] (fun v i wr => ∃ (k : Nat) (a : Option Addr) (c : Nat) (M : Ma), k ≤ N ∧ i = .int .i64 k ∧ v = .slice a k c ∧ Td w wr q ps M0 k a c M) (fun _ i _ => N - (intOf i).toNat)
      case atStart => exact ⟨0, none, 0, M0, by omega, rfl, rfl, HT.out⟩
      case round =>
        rename World => wr
        obtain ⟨k, a, c, M, hk, rfl, rfl, ht⟩ := hrel
        have HTd : Hid (Td w wr q ps M0 k a c M) := ht
        clear ht HT
        by_cases hlt : k < N
        · have hki : (k : Int) < (N : Int) := by omega
          have hks := HTd.out.s
          by_cases hst : M.e = 100 ∧ trapB ps M = false
          · have HSt : Hid (Calls Tryd.prog 29 #[ptr q] wr fun e w' => e = .returned (.bool true) ∧ ∃ L'', Te w w' q ps M0 k a c M (stepM ps M) L'' ∧ (true = true → L'' = tagM ps M)) := HTd.out.step (b := true) (L' := tagM ps M) (fun T L hm => ⟨_, rstep_on hm hst.1 hst.2 (by omega), fun _ => rfl⟩)
            have HSt2 : Hid (M.e = 100 ∧ trapB ps M = false) := hst
            clear hst hks
            go_wp2_with (first
              | (go_at_call 29; refine Calls.mono HSt.out ?_; rintro e w2 ⟨rfl, L2, hte, hl⟩; obtain rfl := hl rfl; have HTe : Hid (Te w w2 q ps M0 k a c M (stepM ps M) (tagM ps M)) := hte; obtain ⟨T5, hd5, -, -⟩ := hte.mm; obtain ⟨ba, bc, po, pc, hD, -⟩ := hd5.dr.ex; have t0 := hD.l0; have t1 := hD.l1; have t2 := hD.l2; have t3 := hD.l3; have tl := hD.lt; clear hD hd5 hte hl HSt)
              | (at_builtin; refine wpList_append_lies _ rfl _ _ 45 rfl (q + 1) 49 i0 (.agg #[.int .i64 0, .bool false, .int .i64 0, .bool false]) 4 32 Tryd.underlying45 HI.out.1 HI.out.2.1 HI.out.2.2.1 HI.out.2.2.2 rfl (by decide) _ _ _ rfl (HTe.out.row.alloc _) ⟨w2.heap.size, 0, none⟩ 1 1 [.int .i64 (tagM ps M).1, .bool (tagM ps M).2.1, .int .i64 (tagM ps M).2.2, .bool false] rfl rfl (World.news_of_block (heap_alloc_new w2 (.cells #[.int .i64 (tagM ps M).1, .bool (tagM ps M).2.1, .int .i64 (tagM ps M).2.2, .bool false] 49))) (by simp [Value.oneCell']) (by decide) (by unfold maxLen; omega) (by omega) (by simp; omega) _ rfl ?_; intro g cap w3 hown hgrow hg hlt3; have HT3 : Hid (Td w w3 q ps M0 (k + 1) (some ⟨g, 0, none⟩) cap (stepM ps M)) := Te.snoc HTd.out HTe.out HSt2.out.1 HSt2.out.2 ((Below.refl _ _).alloc (Nat.le_refl _) _) hgrow (hg.imp id fun e => by rw [e]; simp) hown; clear hown hgrow hg hlt3))
            go_roundw
            case rel => exact ⟨k + 1, _, _, _, by omega, by go_num, rfl, HT3.out⟩
            case measure => simp [intOf]; omega
          · have hst' : ¬ M.e = 100 ∨ trapB ps M = true := by
              by_cases h1 : M.e = 100
              · right
                cases h2 : trapB ps M
                · exact absurd ⟨h1, h2⟩ hst
                · rfl
              · exact .inl h1
            have HSt : Hid (Calls Tryd.prog 29 #[ptr q] wr fun e w' => e = .returned (.bool false) ∧ ∃ L'', Te w w' q ps M0 k a c M (runM ps 0 M) L'' ∧ (false = true → L'' = ((0, false, 0) : Tg))) := HTd.out.step (b := false) (L' := (0, false, 0)) (fun T L hm => ⟨_, rstep_stop hm hst', fun h => by cases h⟩)
            have HEnd : Hid (trailM ps N M0 = trailM ps k M0) := td_stop HTd.out (by omega) hst'
            clear hst hst' hks
            go_wp2_with (first
              | (go_at_call 29; refine Calls.mono HSt.out ?_; rintro e w2 ⟨rfl, L2, hte, -⟩; have HTe : Hid (Te w w2 q ps M0 k a c M (runM ps 0 M) L2) := hte; clear hte HSt))
            go_ret2
            exact trail_post HTe.out.row HTd.out.len HTd.out.wq HTe.out.up HEnd.out
        · have hki : ¬ (k : Int) < (N : Int) := by omega
          obtain rfl : k = N := by omega
          go_wp2_with fail
          go_ret2
          exact trail_post HTd.out.row HTd.out.len HTd.out.wq HTd.out.up rfl
    · exact absurd hn5 hn6
end Go.Proofs.YtlnfhbkkodhmaaaDoor.Sm

namespace Go.Proofs.YtlnfhbkkodhmaaaDoor.Sm
open Go.ChangeShapes Go.WideShapes Go.ChangeAt Go.RowKit
open _root_.Go.Proofs.YtlnfhbkkodhmaaaDoor.Op _root_.Go.Proofs.YtlnfhbkkodhmaaaDoor.So
set_option maxRecDepth 20000

set_option maxHeartbeats 2000000 in
theorem dealt_no (ao ra ma : Option Addr) (cap rl rc ml mc : Nat) (ps : List Bk) (a b : Int) (w : World) (h : PAt w ao ps) (he : Env w) (hn : ¬ ckP ps = 0 ∨ 32 < rl ∨ 256 < ml) :
    Calls Tryd.prog 6 #[.agg #[.slice ao ps.length cap], .agg #[.slice ra rl rc, .slice ma ml mc], .int .i64 a, .int .i64 b] w fun e w' => e = .returned (.bool true) ∧ Below w.heap.size w w' := by
  obtain ⟨er, her, hN⟩ := new_no ao ra ma cap rl rc ml mc ps w h he hn
  have her2 : ¬ er = 0 := by simpa using her
  have her3 : (er != 0) = true := by simpa using her2
  have HN : Hid _ := hN
  have HN2 : Hid _ := hN
  have HW : Hid (∀ W, Below w.heap.size w W → Calls Tryd.prog 10 #[] W fun e w' => e = .returned (.bool true) ∧ Below W.heap.size W w') := fun W hb => wakes_any W (he.up hb)
  have HSa : Hid (∀ W, Calls Tryd.prog 13 #[.int .i64 a] W fun e w' => e = .returned (.int .i64 (stN a)) ∧ w' = W) := fun W => steps_any a W
  have HSb : Hid (∀ W, Calls Tryd.prog 13 #[.int .i64 b] W fun e w' => e = .returned (.int .i64 (stN b)) ∧ w' = W) := fun W => steps_any b W
  clear h he hn hN
  generalize stN a = sa at *
  generalize stN b = sb at *
  go_enter Tryd.func6, Tryd.ntmps6
  go_wp2_with (first
    | (go_at_call 13; refine Calls.mono (HSa.out _) ?_; rintro e _ ⟨rfl, rfl⟩; clear HSa)
    | (go_at_call 13; refine Calls.mono (HSb.out _) ?_; rintro e _ ⟨rfl, rfl⟩; clear HSb)
    | (go_at_call 8; refine Calls.mono (HN.out _ (by go_grown)) ?_; rintro e w1 ⟨rfl, hb⟩; obtain ⟨t1, t2, hb0, -, -⟩ := two_new w _ _ _ _ hb; have HB : Hid (Below w.heap.size w w1) := hb0; have c0 := t1.c 0 _ rfl; have d0 := t2.c 0 _ rfl; have d1 := t2.c 1 _ rfl; have z1 := t1.lt; have z2 := t2.lt; clear hb hb0 HN t1 t2)
    | (go_at_call 8; refine Calls.mono (HN2.out _ HB.out) ?_; rintro e w2 ⟨rfl, hb⟩; have HB2 : Hid (Below w.heap.size w w2) := HB.out.trans (hb.mono HB.out.size); clear hb HN2)
    | (go_at_call 10; refine Calls.mono (HW.out _ HB2.out) ?_; rintro e w3 ⟨rfl, hb⟩; have HB3 : Hid (Below w.heap.size w w3) := HB2.out.trans (hb.mono HB2.out.size); clear hb HW))
  go_ret
  exact ⟨rfl, HB3.out⟩
/-- What a run leaves, told in letters. -/
def RunPost' (w : World) (q : Nat) (ps : List Bk) (T : Nat → Prop) (M' : Ma) (E V : Int) (P K : Nat) (S : Int) (e : Ending) (w' : World) : Prop := ∃ a m c d T', e = .returned (.agg #[.int .i64 E, .int .i64 V, .slice a P c, .slice m K d, .int .i64 S]) ∧ Own w w' a M'.pr ∧ Own w w' m (outMem M') ∧ MM w' q ps T' M' ∧ Tn w T w' T'
theorem run_post' {w : World} {q : Nat} {ps : List Bk} {T : Nat → Prop} {M' : Ma} {e : Ending} {w' : World} (h : RunPost w q ps T M' e w') : RunPost' w q ps T M' M'.e (if M'.e = 0 then M'.v else 0) M'.pr.length (outMem M').length (M'.s : Int) e w' := by
  obtain ⟨a, m, c, d, T', rfl, h1, h2, h3, h4⟩ := h
  refine ⟨a, m, c, d, T', ?_, h1, h2, h3, h4⟩
  have : (outMem M').length = if M'.e = 0 then 256 else 0 := by
    unfold outMem
    split
    · exact memL_len M'
    · rfl
  rw [this]
  rfl
theorem stN_le (n : Int) : stN n ≤ 5000 := by unfold stN; split <;> omega
theorem tlen_le (ps : List Bk) (k : Nat) (M : Ma) (h : M.s = 0) : ((runM ps k M).s : Int) = ((trailM ps k M).length : Int) := by rw [trail_len, h]; omega
/-- Two outcomes and two states in memory, alike. -/
structure Al4 (W : World) (a1 m1 a2 m2 r1 g1 r2 g2 : Option Addr) (M : Ma) : Prop where
  a1 : NL W a1 M.pr
  m1 : NL W m1 (outMem M)
  a2 : NL W a2 M.pr
  m2 : NL W m2 (outMem M)
  r1 : NL W r1 (regL M)
  g1 : NL W g1 (memL M)
  r2 : NL W r2 (regL M)
  g2 : NL W g2 (memL M)
theorem Al4.up {W W' : World} {a1 m1 a2 m2 r1 g1 r2 g2 : Option Addr} {M : Ma} (h : Al4 W a1 m1 a2 m2 r1 g1 r2 g2 M) (g : Below W.heap.size W W') : Al4 W' a1 m1 a2 m2 r1 g1 r2 g2 M :=
  ⟨h.a1.up g, h.m1.up g, h.a2.up g, h.m2.up g, h.r1.up g, h.g1.up g, h.r2.up g, h.g2.up g⟩
/-- All that is kept aside. -/
structure Zs (w W : World) (ao : Option Addr) (n cap : Nat) (ra ma : Option Addr) (rl rc ml mc b13 b15 : Nat) (x1 x2 s1 s2 : Array Value) (a1 m1 a2 m2 r1 g1 r2 g2 : Option Addr) (M : Ma) : Prop where
  bx : Bx w W ao n cap ra ma rl rc ml mc
  p1 : Op.At W b13 x1
  p2 : Op.At W (b13 + 1) x2
  p3 : Op.At W b15 s1
  p4 : Op.At W (b15 + 1) s2
  al : Al4 W a1 m1 a2 m2 r1 g1 r2 g2 M
theorem Zs.up {w W W' : World} {ao : Option Addr} {n cap : Nat} {ra ma : Option Addr} {rl rc ml mc b13 b15 : Nat} {x1 x2 s1 s2 : Array Value} {a1 m1 a2 m2 r1 g1 r2 g2 : Option Addr} {M : Ma} (h : Zs w W ao n cap ra ma rl rc ml mc b13 b15 x1 x2 s1 s2 a1 m1 a2 m2 r1 g1 r2 g2 M) (g : Below W.heap.size W W') : Zs w W' ao n cap ra ma rl rc ml mc b13 b15 x1 x2 s1 s2 a1 m1 a2 m2 r1 g1 r2 g2 M :=
  ⟨h.bx.up g, h.p1.below g h.p1.lt, h.p2.below g h.p2.lt, h.p3.below g h.p3.lt, h.p4.below g h.p4.lt, h.al.up g⟩
theorem nok_up {w w' : World} {q : Nat} (h : NoK w q) (hq : q < w.heap.size) (g : Below w.heap.size w w') : NoK w' q := fun j i e => h j i (by rw [(bcell g).1 _ _ hq] at e; exact e)
theorem two_up (w : World) (o o' : Obj) : Below w.heap.size w ((w.alloc o).alloc o') := ((Below.refl _ _).alloc (Nat.le_refl _) _).alloc (by simp) _
set_option maxHeartbeats 4000000 in
theorem dealt_main (ao ra ma : Option Addr) (cap rc mc : Nat) (ps : List Bk) (rs ms : List Int) (a b : Int) (w : World) (h : PAt w ao ps) (he : Env w) (hc : ckP ps = 0) (hs : Sn w ra ma rs ms) (h32 : rs.length ≤ 32) (h256 : ms.length ≤ 256) (hr : ∀ x ∈ rs, In64 x) (hm : ∀ x ∈ ms, In64 x) :
    Calls Tryd.prog 6 #[.agg #[.slice ao ps.length cap], .agg #[.slice ra rs.length rc, .slice ma ms.length mc], .int .i64 a, .int .i64 b] w fun e w' => e = .returned (.bool true) ∧ Below w.heap.size w w' := by
  obtain ⟨na, hna⟩ : ∃ na : Nat, max (stN a) 0 = na := ⟨(max (stN a) 0).toNat, by omega⟩
  obtain ⟨nb, hnb⟩ : ∃ nb : Nat, max (stN b) 0 = nb := ⟨(max (stN b) 0).toNat, by omega⟩
  have hla : na ≤ 5000 := by have := stN_le a; omega
  have hlb : nb ≤ 5000 := by have := stN_le b; omega
  have HN : Hid (∀ W, Below w.heap.size w W → Calls Tryd.prog 8 #[.agg #[.slice ao ps.length cap], .agg #[.slice ra rs.length rc, .slice ma ms.length mc]] W (NewPost' W ps rs ms)) := fun W hb => new_ok' ao ra ma cap rc mc ps rs ms W (h.below hb) (he.up hb) hc (hs.up hb) h32 h256 hr hm
  have HN2 : Hid (∀ W, Below w.heap.size w W → Calls Tryd.prog 8 #[.agg #[.slice ao ps.length cap], .agg #[.slice ra rs.length rc, .slice ma ms.length mc]] W (NewPost' W ps rs ms)) := HN.out
  have HTl : Hid (∀ W, Below w.heap.size w W → Calls Tryd.prog 18 #[.agg #[.slice ao ps.length cap], .agg #[.slice ra rs.length rc, .slice ma ms.length mc], .int .i64 ((na : Int) + nb)] W (TrailPost W (trailM ps (na + nb) (initM rs ms)))) := fun W hb => by
    have := trail_any ao ra ma cap rc mc ps rs ms ((na : Int) + nb) W (h.below hb) (he.up hb) hc (hs.up hb) h32 h256 hr hm
    rw [show (min (max ((na : Int) + nb) 0) 65536).toNat = na + nb by omega] at this
    exact this
  have HW : Hid (∀ W, Below w.heap.size w W → Calls Tryd.prog 10 #[] W fun e w' => e = .returned (.bool true) ∧ Below W.heap.size W w') := fun W hb => wakes_any W (he.up hb)
  have HSa : Hid (∀ W, Calls Tryd.prog 13 #[.int .i64 a] W fun e w' => e = .returned (.int .i64 (stN a)) ∧ w' = W) := fun W => steps_any a W
  have HSb : Hid (∀ W, Calls Tryd.prog 13 #[.int .i64 b] W fun e w' => e = .returned (.int .i64 (stN b)) ∧ w' = W) := fun W => steps_any b W
  have hM0s : (initM rs ms).s = 0 := rfl
  have HM0s : Hid ((initM rs ms).s = 0) := hM0s
  have HInv0 : Hid (Inv ps (initM rs ms) ∧ PsM ps) := ⟨inv_init (psM_of (psOk_of h) hc) hr hm, psM_of (psOk_of h) hc⟩
  clear h he hc hs h32 h256 hr hm hM0s
  generalize rs.length = rl at *
  generalize ms.length = ml at *
  generalize stN a = sa at *
  generalize stN b = sb at *
  generalize hM0 : initM rs ms = M0 at *
  have HR1 : Hid (∀ W q T, MM W q ps T M0 → Calls Tryd.prog 12 #[ptr q, .int .i64 (na : Int)] W (RunPost W q ps T (runM ps na M0))) := fun W q T hm => by
    have := run_any (na : Int) hm (by rw [HM0s.out]; omega)
    rw [show (min (max (na : Int) 0) 1048576).toNat = na by omega] at this
    exact this
  have HR2 : Hid (∀ W q T, MM W q ps T (runM ps na M0) → Calls Tryd.prog 12 #[ptr q, .int .i64 (nb : Int)] W (RunPost W q ps T (runM ps (na + nb) M0))) := fun W q T hm => by
    have := run_any (nb : Int) hm (by have h1 := trail_len ps na M0; have h2 := trail_le ps na M0; rw [HM0s.out] at h1; omega)
    rw [show (min (max (nb : Int) 0) 1048576).toNat = nb by omega, run_add] at this
    exact this
  have HR3 : Hid (∀ W q T, MM W q ps T M0 → Calls Tryd.prog 12 #[ptr q, .int .i64 ((na : Int) + nb)] W (RunPost W q ps T (runM ps (na + nb) M0))) := fun W q T hm => by
    have := run_any ((na : Int) + nb) hm (by rw [HM0s.out]; omega)
    rw [show (min (max ((na : Int) + nb) 0) 1048576).toNat = na + nb by omega] at this
    exact this
  have HLn : Hid (((runM ps (na + nb) M0).s : Int) = ((trailM ps (na + nb) M0).length : Int)) := tlen_le _ _ _ HM0s.out
  have HPr : Hid ((runM ps (na + nb) M0).pr.length ≤ 1000000000000 ∧ (outMem (runM ps (na + nb) M0)).length ≤ 1000000000000) := by
    have h1 := (inv_run HInv0.out.2 (na + nb) HInv0.out.1).p
    have h2 := trail_len ps (na + nb) M0
    have h3 := trail_le ps (na + nb) M0
    have h4 := HM0s.out
    have h5 : (outMem (runM ps (na + nb) M0)).length ≤ 256 := by
      unfold outMem
      split
      · rw [memL_len]; omega
      · simp
    exact ⟨by omega, by omega⟩
  clear HInv0
  generalize hMa : runM ps na M0 = Ma1 at *
  clear hMa
  generalize hM2 : runM ps (na + nb) M0 = M2 at *
  clear hM2
  have HR2' : Hid (∀ W q T, MM W q ps T Ma1 → Calls Tryd.prog 12 #[ptr q, .int .i64 (nb : Int)] W (RunPost' W q ps T M2 M2.e (if M2.e = 0 then M2.v else 0) M2.pr.length (outMem M2).length (M2.s : Int))) := fun W q T hm => (HR2.out W q T hm).mono fun e w' h => run_post' h
  have HR3' : Hid (∀ W q T, MM W q ps T M0 → Calls Tryd.prog 12 #[ptr q, .int .i64 ((na : Int) + nb)] W (RunPost' W q ps T M2 M2.e (if M2.e = 0 then M2.v else 0) M2.pr.length (outMem M2).length (M2.s : Int))) := fun W q T hm => (HR3.out W q T hm).mono fun e w' h => run_post' h
  clear HR2 HR3
  have HLk : Hid (∀ (W : World) (a1 m1 a2 m2 : Option Addr) (c1 d1 c2 d2 : Nat), NL W a1 M2.pr → NL W m1 (outMem M2) → NL W a2 M2.pr → NL W m2 (outMem M2) → Calls Tryd.prog 11 #[.agg #[.int .i64 M2.e, .int .i64 (if M2.e = 0 then M2.v else 0), .slice a1 M2.pr.length c1, .slice m1 (outMem M2).length d1, .int .i64 (M2.s : Int)], .agg #[.int .i64 M2.e, .int .i64 (if M2.e = 0 then M2.v else 0), .slice a2 M2.pr.length c2, .slice m2 (outMem M2).length d2, .int .i64 (M2.s : Int)]] W fun e w' => e = .returned (.bool true) ∧ Below W.heap.size W w') := fun W a1 m1 a2 m2 c1 d1 c2 d2 k1 k2 k3 k4 => like_same _ _ _ a1 a2 m1 m2 c1 d1 c2 d2 _ _ W k1 k3 k2 k4 HPr.out.1 HPr.out.2
  have HNr : Hid (∀ (W : World) (r1 r2 : Option Addr) (c1 c2 : Nat), NL W r1 (regL M2) → NL W r2 (regL M2) → Calls Tryd.prog 17 #[.slice r1 32 c1, .slice r2 32 c2] W fun e w' => e = .returned (.bool true) ∧ Below W.heap.size W w') := fun W r1 r2 c1 c2 k1 k2 => by
    have := nums_same r1 r2 c1 c2 (regL M2) W k1 k2 (by rw [regL_len]; omega)
    rw [regL_len] at this; exact this
  have HNm : Hid (∀ (W : World) (r1 r2 : Option Addr) (c1 c2 : Nat), NL W r1 (memL M2) → NL W r2 (memL M2) → Calls Tryd.prog 17 #[.slice r1 256 c1, .slice r2 256 c2] W fun e w' => e = .returned (.bool true) ∧ Below W.heap.size W w') := fun W r1 r2 c1 c2 k1 k2 => by
    have := nums_same r1 r2 c1 c2 (memL M2) W k1 k2 (by rw [memL_len]; omega)
    rw [memL_len] at this; exact this
  clear HPr
  rw [HLn.out] at HR2' HR3' HLk
  clear HLn
  generalize trailM ps (na + nb) M0 = tr at *
  generalize hE : M2.e = E at *
  clear hE
  generalize hV : (if E = 0 then M2.v else 0) = V at *
  clear hV
  generalize hP : M2.pr.length = P at *
  clear hP
  generalize hK : (outMem M2).length = K at *
  clear hK
  have hz2 : ((w.alloc (.cells #[.slice ao ps.length cap] 24)).alloc (.cells #[.slice ra rl rc, .slice ma ml mc] 27)).heap.size = w.heap.size + 2 := by simp
  have HZ2 : Hid _ := hz2
  clear hz2
  have hia : (na : Int) ≤ 5000 := by omega
  have hib : (nb : Int) ≤ 5000 := by omega
  have hia0 : (0 : Int) ≤ na := by omega
  have hib0 : (0 : Int) ≤ nb := by omega
  go_enter Tryd.func6, Tryd.ntmps6
  go_wp2_with (first
    | (go_at_call 13; refine Calls.mono (HSa.out _) ?_; rintro e _ ⟨rfl, rfl⟩; clear HSa)
    | (go_at_call 13; refine Calls.mono (HSb.out _) ?_; rintro e _ ⟨rfl, rfl⟩; clear HSb)
    | (go_at_call 8; refine Calls.mono (HN.out _ (by go_grown)) ?_; rintro e w1 ⟨q1, rfl, hm1, hb1, hq1, hk1⟩; rw [hM0] at hm1; rw [HZ2.out] at hq1; obtain ⟨t1, t2, hb0, -, -⟩ := two_new w _ _ _ _ hb1; have HA : Hid (MM w1 q1 ps (One q1) M0 ∧ Bx w w1 ao ps.length cap ra ma rl rc ml mc ∧ w.heap.size + 2 ≤ q1 ∧ NoK w1 q1) := ⟨hm1, ⟨t1, t2, hb0⟩, hq1, hk1⟩; have c0 := t1.c 0 _ rfl; have d0 := t2.c 0 _ rfl; have d1 := t2.c 1 _ rfl; have z1 := t1.lt; have z2 := t2.lt; clear hb1 hb0 HN t1 t2 hm1 hq1 hk1 HZ2)
    | (go_at_call 8; refine Calls.mono (HN2.out _ HA.out.2.1.b) ?_; rintro e w2 ⟨q2, rfl, hm2, hb2, hq2, -⟩; rw [hM0] at hm2; have HD : Hid (Dl w w2 ao ps.length cap ra ma rl rc ml mc q1 q2 w2.heap.size ps (One q1) M0 M0) := ⟨HA.out.2.1.up hb2, HA.out.1.up hb2, (hm2.widen (Nat.lt_of_lt_of_le (HA.out.1.mr.tl q1 rfl) hb2.size) (nok_up HA.out.2.2.2 (HA.out.1.mr.tl q1 rfl) hb2)), (fun k e => .inl e), ⟨HA.out.2.2.1, Nat.lt_of_lt_of_le (HA.out.1.mr.tl q1 rfl) hq2, hm2.mr.tl q2 rfl, Nat.le_refl _⟩⟩; clear hb2 hm2 hq2 HN2 c0 d0 d1 z1 z2)
    | (go_at_call 12; refine Calls.mono (HR1.out _ _ _ HD.out.m) ?_; rintro e w3 ⟨a3, m3, c3, d3, T3, rfl, -, -, hm3, ht3⟩; have HD3 : Hid (Dl w w3 ao ps.length cap ra ma rl rc ml mc q1 q2 w2.heap.size ps T3 Ma1 M0) := HD.out.go hm3 ht3; clear hm3 ht3 HR1 HD)
    | (go_at_call 12; refine Calls.mono (HR2'.out _ _ _ HD3.out.m) ?_; rintro e w4 ⟨a4, m4, c4, d4, T4, rfl, o1, o2, hm4, ht4⟩; have HD4 : Hid (Dl w w4 ao ps.length cap ra ma rl rc ml mc q1 q2 w2.heap.size ps T4 M2 M0 ∧ Own w3 w4 a4 M2.pr ∧ Own w3 w4 m4 (outMem M2) ∧ w2.heap.size ≤ w3.heap.size) := ⟨HD3.out.go hm4 ht4, o1, o2, HD3.out.q.2.2.2⟩; clear hm4 ht4 HR2' HD3 o1 o2)
    | (go_at_call 12; refine Calls.mono (HR3'.out _ _ _ HD4.out.1.n') ?_; rintro e w5 ⟨a5, m5, c5, d5, T5, rfl, o3, o4, hm5, ht5⟩; have hq2z := HD4.out.1.q.2.2.1; have HD5 : Hid (Dm w w5 ao ps.length cap ra ma rl rc ml mc q1 q2 ps T4 T5 M2 ∧ (NL w5 a4 M2.pr ∧ NL w5 m4 (outMem M2)) ∧ NL w5 a5 M2.pr ∧ NL w5 m5 (outMem M2)) := ⟨HD4.out.1.go2 hm5 ht5, ⟨HD4.out.2.1.off ht5.f (fun k hk e => (by have e : k = q2 := e; have h9 := HD4.out.2.2.2; omega)), HD4.out.2.2.1.off ht5.f (fun k hk e => (by have e : k = q2 := e; have h9 := HD4.out.2.2.2; omega))⟩, o3.nl, o4.nl⟩; clear hm5 ht5 HR3' HD4 o3 o4 hq2z)
    | (go_at_call 15; refine Calls.mono (state_any (HD5.out.1.up (two_up _ _ _)).m.mr) ?_; rintro e w6 ⟨r6, c6, g6, d6, rfl, o5, o6, hb6⟩; have HD6 : Hid ((Dm w w6 ao ps.length cap ra ma rl rc ml mc q1 q2 ps T4 T5 M2 ∧ (NL w6 a4 M2.pr ∧ NL w6 m4 (outMem M2)) ∧ NL w6 a5 M2.pr ∧ NL w6 m5 (outMem M2)) ∧ (NL w6 r6 (regL M2) ∧ NL w6 g6 (memL M2)) ∧ Op.At w6 w5.heap.size #[.int .i64 E, .int .i64 V, .slice a4 P c4, .slice m4 K d4, .int .i64 (tr.length : Int)] ∧ Op.At w6 (w5.heap.size + 1) #[.int .i64 E, .int .i64 V, .slice a5 P c5, .slice m5 K d5, .int .i64 (tr.length : Int)]) := (by obtain ⟨e1, e2, e3, -, -⟩ := two_new w5 #[.int .i64 E, .int .i64 V, .slice a4 P c4, .slice m4 K d4, .int .i64 (tr.length : Int)] #[.int .i64 E, .int .i64 V, .slice a5 P c5, .slice m5 K d5, .int .i64 (tr.length : Int)] 39 39 hb6; exact ⟨⟨HD5.out.1.up e3, ⟨HD5.out.2.1.1.up e3, HD5.out.2.1.2.up e3⟩, HD5.out.2.2.1.up e3, HD5.out.2.2.2.up e3⟩, ⟨o5.nl, o6.nl⟩, e1, e2⟩); clear o5 o6 hb6 HD5)
    | (go_at_call 15; refine Calls.mono (state_any HD6.out.1.1.n.mr) ?_; rintro e w7 ⟨r7, c7, g7, d7, rfl, o5, o6, hb7⟩; have HZ : Hid (Zs w ((w7.alloc (.cells #[.slice r6 32 c6, .slice g6 256 d6] 27)).alloc (.cells #[.slice r7 32 c7, .slice g7 256 d7] 27)) ao ps.length cap ra ma rl rc ml mc w5.heap.size w7.heap.size #[.int .i64 E, .int .i64 V, .slice a4 P c4, .slice m4 K d4, .int .i64 (tr.length : Int)] #[.int .i64 E, .int .i64 V, .slice a5 P c5, .slice m5 K d5, .int .i64 (tr.length : Int)] #[.slice r6 32 c6, .slice g6 256 d6] #[.slice r7 32 c7, .slice g7 256 d7] a4 m4 a5 m5 r6 g6 r7 g7 M2) := (by have e1 := Op.At.new w7 #[.slice r6 32 c6, .slice g6 256 d6] 27; have e2 := at_new' (w7.alloc (.cells #[.slice r6 32 c6, .slice g6 256 d6] 27)) #[.slice r7 32 c7, .slice g7 256 d7] 27 (w7.heap.size + 1) (by simp); have e3 := two_up w7 (.cells #[.slice r6 32 c6, .slice g6 256 d6] 27) (.cells #[.slice r7 32 c7, .slice g7 256 d7] 27); have f := HD6.out; have g3 := hb7.trans (e3.mono hb7.size); exact ⟨f.1.1.bx.up g3, f.2.2.1.below g3 f.2.2.1.lt, f.2.2.2.below g3 f.2.2.2.lt, e1.alloc _, e2, ⟨f.1.2.1.1.up g3, f.1.2.1.2.up g3, f.1.2.2.1.up g3, f.1.2.2.2.up g3, f.2.1.1.up g3, f.2.1.2.up g3, o5.nl.up e3, o6.nl.up e3⟩⟩); clear o5 o6 hb7 HD6; have c0 := HZ.out.bx.p.c 0 _ rfl; have d0 := HZ.out.bx.s.c 0 _ rfl; have d1 := HZ.out.bx.s.c 1 _ rfl; have z1 := HZ.out.bx.p.lt; have z2 := HZ.out.bx.s.lt)
    | (go_at_call 18; refine Calls.mono (HTl.out _ HZ.out.bx.b) ?_; rintro e w8 ⟨a8, c8, rfl, -, hb8⟩; have HZ8 : Hid (Zs w w8 ao ps.length cap ra ma rl rc ml mc w5.heap.size w7.heap.size #[.int .i64 E, .int .i64 V, .slice a4 P c4, .slice m4 K d4, .int .i64 (tr.length : Int)] #[.int .i64 E, .int .i64 V, .slice a5 P c5, .slice m5 K d5, .int .i64 (tr.length : Int)] #[.slice r6 32 c6, .slice g6 256 d6] #[.slice r7 32 c7, .slice g7 256 d7] a4 m4 a5 m5 r6 g6 r7 g7 M2) := HZ.out.up hb8; clear hb8 HTl HZ c0 d0 d1 z1 z2; have x0 := HZ8.out.p1.c 0 _ rfl; have x1 := HZ8.out.p1.c 1 _ rfl; have x2 := HZ8.out.p1.c 2 _ rfl; have x3 := HZ8.out.p1.c 3 _ rfl; have x4 := HZ8.out.p1.c 4 _ rfl; have xl := HZ8.out.p1.lt; have y0 := HZ8.out.p2.c 0 _ rfl; have y1 := HZ8.out.p2.c 1 _ rfl; have y2 := HZ8.out.p2.c 2 _ rfl; have y3 := HZ8.out.p2.c 3 _ rfl; have y4 := HZ8.out.p2.c 4 _ rfl; have yl := HZ8.out.p2.lt)
    | (go_at_call 11; refine Calls.mono (HLk.out _ _ _ _ _ _ _ _ _ HZ8.out.al.a1 HZ8.out.al.m1 HZ8.out.al.a2 HZ8.out.al.m2) ?_; rintro e w9 ⟨rfl, hb9⟩; have HZ9 : Hid (Zs w w9 ao ps.length cap ra ma rl rc ml mc w5.heap.size w7.heap.size #[.int .i64 E, .int .i64 V, .slice a4 P c4, .slice m4 K d4, .int .i64 (tr.length : Int)] #[.int .i64 E, .int .i64 V, .slice a5 P c5, .slice m5 K d5, .int .i64 (tr.length : Int)] #[.slice r6 32 c6, .slice g6 256 d6] #[.slice r7 32 c7, .slice g7 256 d7] a4 m4 a5 m5 r6 g6 r7 g7 M2) := HZ8.out.up hb9; clear hb9 HLk HZ8 x0 x1 x2 x3 x4 xl y0 y1 y2 y3 y4 yl; have x0 := HZ9.out.p3.c 0 _ rfl; have xl := HZ9.out.p3.lt; have y0 := HZ9.out.p4.c 0 _ rfl; have yl := HZ9.out.p4.lt)
    | (go_at_call 17; refine Calls.mono (HNr.out _ _ _ _ _ HZ9.out.al.r1 HZ9.out.al.r2) ?_; rintro e w10 ⟨rfl, hb10⟩; have HZ10 : Hid (Zs w w10 ao ps.length cap ra ma rl rc ml mc w5.heap.size w7.heap.size #[.int .i64 E, .int .i64 V, .slice a4 P c4, .slice m4 K d4, .int .i64 (tr.length : Int)] #[.int .i64 E, .int .i64 V, .slice a5 P c5, .slice m5 K d5, .int .i64 (tr.length : Int)] #[.slice r6 32 c6, .slice g6 256 d6] #[.slice r7 32 c7, .slice g7 256 d7] a4 m4 a5 m5 r6 g6 r7 g7 M2) := HZ9.out.up hb10; clear hb10 HNr HZ9 x0 xl y0 yl; have x0 := HZ10.out.p3.c 1 _ rfl; have xl := HZ10.out.p3.lt; have y0 := HZ10.out.p4.c 1 _ rfl; have yl := HZ10.out.p4.lt)
    | (go_at_call 17; refine Calls.mono (HNm.out _ _ _ _ _ HZ10.out.al.g1 HZ10.out.al.g2) ?_; rintro e w11 ⟨rfl, hb11⟩; have HZ11 : Hid (Zs w w11 ao ps.length cap ra ma rl rc ml mc w5.heap.size w7.heap.size #[.int .i64 E, .int .i64 V, .slice a4 P c4, .slice m4 K d4, .int .i64 (tr.length : Int)] #[.int .i64 E, .int .i64 V, .slice a5 P c5, .slice m5 K d5, .int .i64 (tr.length : Int)] #[.slice r6 32 c6, .slice g6 256 d6] #[.slice r7 32 c7, .slice g7 256 d7] a4 m4 a5 m5 r6 g6 r7 g7 M2) := HZ10.out.up hb11; clear hb11 HNm HZ10 x0 xl y0 yl; have y4 := HZ11.out.p2.c 4 _ rfl; have yl := HZ11.out.p2.lt)
    | (go_at_call 10; refine Calls.mono (HW.out _ HZ11.out.bx.b) ?_; rintro e w12 ⟨rfl, hb12⟩; have HB12 : Hid (Below w.heap.size w w12) := HZ11.out.bx.b.trans (hb12.mono HZ11.out.bx.b.size); clear hb12 HW))
  go_ret
  exact ⟨rfl, HB12.out⟩
theorem law_dealt (ao ra ma : Option Addr) (cap rc mc : Nat) (ps : List Bk) (rs ms : List Int) (a b : Int) (w : World) (h : PAt w ao ps) (he : Env w) (hs : Sn w ra ma rs ms) (hr : ∀ x ∈ rs, In64 x) (hm : ∀ x ∈ ms, In64 x) :
    Calls Tryd.prog 6 #[.agg #[.slice ao ps.length cap], .agg #[.slice ra rs.length rc, .slice ma ms.length mc], .int .i64 a, .int .i64 b] w fun e w' => e = .returned (.bool true) ∧ Below w.heap.size w w' := by
  by_cases hc : ckP ps = 0
  · by_cases h32 : rs.length ≤ 32
    · by_cases h256 : ms.length ≤ 256
      · exact dealt_main ao ra ma cap rc mc ps rs ms a b w h he hc hs h32 h256 hr hm
      · exact dealt_no ao ra ma cap _ rc _ mc ps a b w h he (.inr (.inr (by omega)))
    · exact dealt_no ao ra ma cap _ rc _ mc ps a b w h he (.inr (.inl (by omega)))
  · exact dealt_no ao ra ma cap _ rc _ mc ps a b w h he (.inl hc)
end Go.Proofs.YtlnfhbkkodhmaaaDoor.Sm

namespace Go.Proofs.YtlnfhbkkodhmaaaDoor.Sm
open Go.ChangeShapes Go.WideShapes Go.ChangeAt Go.RowKit
open _root_.Go.Proofs.YtlnfhbkkodhmaaaDoor.Op _root_.Go.Proofs.YtlnfhbkkodhmaaaDoor.So
set_option maxRecDepth 20000

theorem tcells_at (ts : List Tg) (i : Nat) (h : i < ts.length) (j : Nat) (hj : j < 4) : (tcells ts)[i * 4 + j]? = ([.int .i64 ts[i].1, .bool ts[i].2.1, .int .i64 ts[i].2.2, .bool false] : List Value)[j]? := by
  induction ts generalizing i with
  | nil => simp at h
  | cons e es ih =>
    have hc : tcells (e :: es) = [.int .i64 e.1, .bool e.2.1, .int .i64 e.2.2, .bool false] ++ tcells es := rfl
    rw [hc]
    cases i with
    | zero =>
      rw [List.getElem?_append_left (by show 0 * 4 + j < 4; omega)]
      simp
    | succ i =>
      rw [List.getElem?_append_right (by show 4 ≤ _; omega), show (i + 1) * 4 + j - ([.int .i64 e.1, .bool e.2.1, .int .i64 e.2.2, .bool false] : List Value).length = i * 4 + j by show (i + 1) * 4 + j - 4 = _; omega, ih i (by simpa using h)]
      simp
theorem row_tag {w : World} {B c : Nat} {a : Option Addr} {tr : List Tg} (h : w.ownsRow B 49 4 (.slice a tr.length c) tr.length (tcells tr)) {k : Nat} (hk : k < tr.length) :
    ∃ b, a = some ⟨b, 0, none⟩ ∧ b < w.heap.size ∧ w.cell? ⟨b, k * 4, none⟩ = some (.int .i64 tr[k].1) ∧ w.cell? ⟨b, k * 4 + 1, none⟩ = some (.bool tr[k].2.1) ∧ w.cell? ⟨b, k * 4 + 2, none⟩ = some (.int .i64 tr[k].2.2) ∧ w.cell? ⟨b, k * 4 + 3, none⟩ = some (.bool false) := by
  have h0 := h
  rcases h.2 with ⟨e, -⟩ | ⟨b, cap, cur, e, -⟩
  · exfalso
    injection e with e1 e2
    omega
  · injection e with e1 e2 e3
    subst e1
    have hb := (h0.lt b rfl).2
    have k4 : ∀ j, j < 4 → w.cell? ⟨b, k * 4 + j, none⟩ = ([.int .i64 tr[k].1, .bool tr[k].2.1, .int .i64 tr[k].2.2, .bool false] : List Value)[j]? := fun j hj => by
      rw [h0.cellAt _ (by have : k * 4 + j < (k + 1) * 4 := by omega
                          exact Nat.lt_of_lt_of_le this (Nat.mul_le_mul_right 4 hk)), tcells_at tr k hk j hj]
    exact ⟨b, rfl, hb, k4 0 (by omega), k4 1 (by omega), k4 2 (by omega), k4 3 (by omega)⟩
/-- What both trails leave. -/
def TrOut (w : World) (tr : List Tg) (er : Int) (e : Ending) (w' : World) : Prop := ∃ a c, e = .returned (.tuple #[.slice a tr.length c, .int .i64 er]) ∧ w'.ownsRow w.heap.size 49 4 (.slice a tr.length c) tr.length (tcells tr) ∧ Below w.heap.size w w'
set_option maxHeartbeats 4000000 in
theorem trail_law (ao ra ma : Option Addr) (cap n0 rl rc ml mc : Nat) (n : Int) (tr : List Tg) (er : Int) (w : World) (he : Env w) (hl : tr.length ≤ 100000)
    (h18 : ∀ W, Below w.heap.size w W → Calls Tryd.prog 18 #[.agg #[.slice ao n0 cap], .agg #[.slice ra rl rc, .slice ma ml mc], .int .i64 (stN n)] W (TrOut W tr er))
    (h19 : ∀ W, Below w.heap.size w W → Calls Tryd.prog 19 #[.agg #[.slice ao n0 cap], .agg #[.slice ra rl rc, .slice ma ml mc], .int .i64 (stN n)] W (TrOut W tr er)) :
    Calls Tryd.prog 4 #[.agg #[.slice ao n0 cap], .agg #[.slice ra rl rc, .slice ma ml mc], .int .i64 n] w fun e w' => e = .returned (.bool true) ∧ Below w.heap.size w w' := by
  have H18 : Hid _ := h18
  have H19 : Hid _ := h19
  have HW : Hid (∀ W, Below w.heap.size w W → Calls Tryd.prog 10 #[] W fun e w' => e = .returned (.bool true) ∧ Below W.heap.size W w') := fun W hb => wakes_any W (he.up hb)
  have HSa : Hid (∀ W, Calls Tryd.prog 13 #[.int .i64 n] W fun e w' => e = .returned (.int .i64 (stN n)) ∧ w' = W) := fun W => steps_any n W
  clear h18 h19 he
  generalize stN n = sn at *
  obtain ⟨N, hN⟩ : ∃ N, tr.length = N := ⟨_, rfl⟩
  have HTL : Hid (tr.length = N) := hN
  have HO : Hid (∀ W e w', TrOut W tr er e w' → ∃ a c, e = .returned (.tuple #[.slice a N c, .int .i64 er]) ∧ w'.ownsRow W.heap.size 49 4 (.slice a tr.length c) tr.length (tcells tr) ∧ Below W.heap.size W w') := fun W e w' h => by
    obtain ⟨a, c, h1, h2⟩ := h
    exact ⟨a, c, by rw [← hN]; exact h1, h2⟩
  have hNl : (N : Int) ≤ 100000 := by omega
  clear hl hN
  have HX : Hid (Bx w ((w.alloc (.cells #[.slice ao n0 cap] 24)).alloc (.cells #[.slice ra rl rc, .slice ma ml mc] 27)) ao n0 cap ra ma rl rc ml mc) := by
    obtain ⟨t1, t2, hb0, -, -⟩ := two_new w #[.slice ao n0 cap] #[.slice ra rl rc, .slice ma ml mc] 24 27 (Below.refl _ _)
    exact ⟨t1, t2, hb0⟩
  go_enter Tryd.func4, Tryd.ntmps4
  go_upto_region 1 with fail
  generalize (w.alloc (.cells #[.slice ao n0 cap] 24)).alloc (.cells #[.slice ra rl rc, .slice ma ml mc] 27) = W0 at *
  have HK : Hid (∀ W, Below W0.heap.size W0 W → W.cell? ⟨w.heap.size, 0, none⟩ = some (.slice ao n0 cap) ∧ W.cell? ⟨w.heap.size + 1, 0, none⟩ = some (.slice ra rl rc) ∧ W.cell? ⟨w.heap.size + 1, 1, none⟩ = some (.slice ma ml mc)) := fun W hb => ⟨(HX.out.up hb).p.c 0 _ rfl, (HX.out.up hb).s.c 0 _ rfl, (HX.out.up hb).s.c 1 _ rfl⟩
  obtain ⟨c0, d0, d1⟩ := HK.out W0 (Below.refl _ _)
  have z1 := HX.out.p.lt
  have z2 := HX.out.s.lt
  go_region_held3 (fun W => W.cell? ⟨w.heap.size, 0, none⟩ = some (.slice ao n0 cap) ∧ W.cell? ⟨w.heap.size + 1, 0, none⟩ = some (.slice ra rl rc) ∧ W.cell? ⟨w.heap.size + 1, 1, none⟩ = some (.slice ma ml mc))
    (first | (go_keep; done) | exact HK.out _ HB1.out)
    (first
      | (go_at_call 13; refine Calls.mono (HSa.out _) ?_; rintro e _ ⟨rfl, rfl⟩)
      | (go_at_call 18; refine Calls.mono (H18.out _ (HX.out.b.trans ((drew_up W0).mono HX.out.b.size))) ?_; rintro e w1 ho; obtain ⟨a1, c1, rfl, hr1, hb1⟩ := HO.out _ _ _ ho; have HB1 : Hid (Below W0.heap.size W0 w1) := (drew_up W0).trans hb1; have HR1 : Hid (w1.ownsRow W0.heap.size 49 4 (.slice a1 tr.length c1) tr.length (tcells tr)) := hr1; clear hr1 hb1 ho H18))
  clear c0 d0 d1 z1 z2
  go_upto_region 2 with fail
  obtain ⟨c0, d0, d1⟩ := HK.out w1 HB1.out
  have z1 := Nat.lt_of_lt_of_le HX.out.p.lt HB1.out.size
  have z2 := Nat.lt_of_lt_of_le HX.out.s.lt HB1.out.size
  have HB1' : Hid (Below w.heap.size w w1.drew) := (HX.out.b.trans (HB1.out.mono HX.out.b.size)).trans ((drew_up w1).mono (Nat.le_trans HX.out.b.size HB1.out.size))
  go_region_held3 (fun W => W.cell? ⟨w.heap.size, 0, none⟩ = some (.slice ao n0 cap) ∧ W.cell? ⟨w.heap.size + 1, 0, none⟩ = some (.slice ra rl rc) ∧ W.cell? ⟨w.heap.size + 1, 1, none⟩ = some (.slice ma ml mc))
    (first | (go_keep; done) | exact HK.out _ HB2.out)
    (first
      | (go_at_call 13; refine Calls.mono (HSa.out _) ?_; rintro e _ ⟨rfl, rfl⟩)
      | (go_at_call 19; refine Calls.mono (H19.out _ HB1'.out) ?_; rintro e w2 ho; obtain ⟨a2, c2, rfl, hr2, hb2⟩ := HO.out _ _ _ ho; have HB2 : Hid (Below W0.heap.size W0 w2) := HB1.out.trans (((drew_up w1).trans hb2).mono HB1.out.size); have HR2 : Hid (w2.ownsRow W0.heap.size 49 4 (.slice a1 tr.length c1) tr.length (tcells tr) ∧ w2.ownsRow w1.drew.heap.size 49 4 (.slice a2 tr.length c2) tr.length (tcells tr)) := ⟨row_up HR1.out ((drew_up w1).trans hb2), hr2⟩; clear hr2 hb2 ho H19))
  clear c0 d0 d1 z1 z2 HK HR1 HB1' HO HSa HB1
  have HBw : Hid (Below w.heap.size w w2) := HX.out.b.trans (HB2.out.mono HX.out.b.size)
  clear HX HB2
  have HTg : Hid (∀ (q k : Nat), k < N → ∃ b1 b2 : Nat, ∃ x y z, a1 = some ⟨b1, 0, none⟩ ∧ a2 = some ⟨b2, 0, none⟩ ∧ b1 < w2.heap.size ∧ b2 < w2.heap.size ∧ ((w2.drewN q).cell? ⟨b1, k * 4, none⟩ = some (.int .i64 x) ∧ (w2.drewN q).cell? ⟨b1, k * 4 + 1, none⟩ = some (.bool y) ∧ (w2.drewN q).cell? ⟨b1, k * 4 + 2, none⟩ = some (.int .i64 z) ∧ (w2.drewN q).cell? ⟨b1, k * 4 + 3, none⟩ = some (.bool false)) ∧ (w2.drewN q).cell? ⟨b2, k * 4, none⟩ = some (.int .i64 x) ∧ (w2.drewN q).cell? ⟨b2, k * 4 + 1, none⟩ = some (.bool y) ∧ (w2.drewN q).cell? ⟨b2, k * 4 + 2, none⟩ = some (.int .i64 z) ∧ (w2.drewN q).cell? ⟨b2, k * 4 + 3, none⟩ = some (.bool false)) := fun q k hk => by
    have hk' : k < tr.length := by rw [HTL.out]; exact hk
    obtain ⟨b1, e1, l1, f1⟩ := row_tag HR2.out.1 hk'
    obtain ⟨b2, e2, l2, f2⟩ := row_tag HR2.out.2 hk'
    exact ⟨b1, b2, _, _, _, e1, e2, l1, l2, f1, f2⟩
  clear HR2
  go_wp2_with fail
  go_loopw [40] (fun i wr => ∃ (k q : Nat), k ≤ N ∧ i = .int .i64 k ∧ wr = w2.drewN q) (fun i _ => N - (intOf i).toNat)
  case atStart => exact ⟨0, 0, by omega, rfl, rfl⟩
  case round =>
    rename World => wr
    obtain ⟨k, q, hk, rfl, rfl⟩ := hrel
    by_cases hlt : k < N
    · have k0 : (0 : Int) ≤ (k : Int) := by omega
      have k1 : (k : Int) < (N : Int) := by omega
      obtain ⟨b1, b2, x, y, z, rfl, rfl, l1, l2, ⟨f0, f1, f2, f3⟩, g0, g1, g2, g3⟩ := HTg.out q k hlt
      have l1' : b1 < (w2.drewN q).heap.size := l1
      have l2' : b2 < (w2.drewN q).heap.size := l2
      generalize hW : w2.drewN q = W at *
      go_wp2_with fail
      go_quiet (fail)
      go_wp2_with fail
      go_roundw
      case rel => exact ⟨k + 1, q + nq, by omega, by go_num, by rw [← hW]; simp⟩
      case measure => simp [intOf]; omega
    · have k1 : ¬ (k : Int) < (N : Int) := by omega
      have HBq : Hid (Below w.heap.size w (w2.drewN q)) := drewN_below HBw.out q
      go_wp2_with (first | (go_at_call 10; refine Calls.mono (HW.out _ HBq.out) ?_; rintro e w3 ⟨rfl, hb⟩; have HB3 : Hid (Below w.heap.size w w3) := HBq.out.trans (hb.mono HBq.out.size); clear hb HW))
      go_ret
      exact ⟨rfl, HB3.out⟩
theorem law_trail (ao ra ma : Option Addr) (cap rc mc : Nat) (ps : List Bk) (rs ms : List Int) (n : Int) (w : World) (h : PAt w ao ps) (he : Env w) (hs : Sn w ra ma rs ms) (hr : ∀ x ∈ rs, In64 x) (hm : ∀ x ∈ ms, In64 x) :
    Calls Tryd.prog 4 #[.agg #[.slice ao ps.length cap], .agg #[.slice ra rs.length rc, .slice ma ms.length mc], .int .i64 n] w fun e w' => e = .returned (.bool true) ∧ Below w.heap.size w w' := by
  have hn5 := stN_le n
  by_cases hg : ckP ps = 0 ∧ ¬ (32 < rs.length ∨ 256 < ms.length)
  · obtain ⟨hc, hg⟩ := hg
    have hl : (trailM ps (min (max (stN n) 0) 65536).toNat (initM rs ms)).length ≤ 100000 := Nat.le_trans (trail_le ..) (by omega)
    refine trail_law ao ra ma cap _ _ rc _ mc n (trailM ps (min (max (stN n) 0) 65536).toNat (initM rs ms)) 0 w he hl (fun W hb => ?_) (fun W hb => ?_)
    · refine (trail_any ao ra ma cap rc mc ps rs ms (stN n) W (h.below hb) (he.up hb) hc (hs.up hb) (by omega) (by omega) hr hm).mono ?_
      rintro e w' ⟨a, c, h1, h2, h3⟩
      exact ⟨a, c, h1, h2, h3⟩
    · refine (rtrail_any ao ra ma cap rc mc ps rs ms (stN n) W (h.below hb) hc (hs.up hb) (by omega) (by omega) hr hm (by omega)).mono ?_
      rintro e w' ⟨a, c, h1, h2, h3⟩
      exact ⟨a, c, h1, h2, h3⟩
  · obtain ⟨er, her, h8, h9⟩ : ∃ er : Int, (er == 0) = false ∧ (∀ W, Below w.heap.size w W → Calls Tryd.prog 8 #[.agg #[.slice ao ps.length cap], .agg #[.slice ra rs.length rc, .slice ma ms.length mc]] W fun e w' => e = .returned (.tuple #[.pointer none, .int .i64 er]) ∧ Below W.heap.size W w') ∧ (∀ W, Below w.heap.size w W → Calls Tryd.prog 9 #[.agg #[.slice ao ps.length cap], .agg #[.slice ra rs.length rc, .slice ma ms.length mc]] W fun e w' => e = .returned (.tuple #[.pointer none, .int .i64 er]) ∧ Below W.heap.size W w') := by
      by_cases hc : ckP ps = 0
      · have hg' : 32 < rs.length ∨ 256 < ms.length := by
          by_cases h1 : 32 < rs.length ∨ 256 < ms.length
          · exact h1
          · exact absurd ⟨hc, h1⟩ hg
        exact ⟨2, by decide, fun W hb => new_great ao ra ma cap _ rc _ mc ps W (h.below hb) (he.up hb) hc hg', fun W hb => rnew_great ao cap ps ra ma rc mc rs ms W (h.below hb) hc hg'⟩
      · exact ⟨ckP ps, by simpa using hc, fun W hb => new_bad ao ra ma cap _ rc _ mc ps W (h.below hb) (he.up hb) hc, fun W hb => rnew_bad ao cap ps _ ra ma _ rc _ mc rfl W (h.below hb) hc⟩
    refine trail_law ao ra ma cap _ _ rc _ mc n [] er w he (by simp) (fun W hb => ?_) (fun W hb => ?_)
    · refine (trail_no ao ra ma cap _ rc _ mc ps (stN n) er her W fun W' hb' => h8 W' (hb.trans (hb'.mono hb.size))).mono ?_
      rintro e w' ⟨rfl, h3⟩
      exact ⟨none, 0, rfl, World.ownsRow_nil _ _ _ _, h3⟩
    · refine (rtrail_no ao ra ma cap _ _ rc _ mc (stN n) er her W fun W' hb' => h9 W' (hb.trans (hb'.mono hb.size))).mono ?_
      rintro e w' ⟨rfl, h3⟩
      exact ⟨none, 0, rfl, World.ownsRow_nil _ _ _ _, h3⟩
end Go.Proofs.YtlnfhbkkodhmaaaDoor.Sm

namespace Go.Proofs.YtlnfhbkkodhmaaaDoor.Op
open Go.ChangeShapes Go.WideShapes Go.ChangeAt Go.RowKit
set_option maxRecDepth 20000

theorem opsAt_nil (w : World) (ao : Option Addr) : OpsAt w ao [] := ⟨by simp, by simp, fun h => by simp at h⟩
theorem pAt_none (w : World) (ao : Option Addr) : PAt w ao [] := ⟨by simp, fun h => by simp at h⟩
theorem reach_eq : reachBytes = 140737488351232 := rfl
theorem addr_add (b f : Nat) (n : Nat) : (⟨b, f, none⟩ : Addr).add n = ⟨b, f + n, none⟩ := by
  unfold Addr.add
  split
  · rename_i h; subst h; rfl
  · rfl
/-- Cells in a row, told by block and offset. -/
theorem cells_at {w : World} {b f n : Nat} {cs : List Value} (h : w.cells? 0 ⟨b, f, none⟩ n = some cs) (hn : 0 < n) : b < w.heap.size ∧ ∀ i v, cs[i]? = some v → w.cell? ⟨b, f + i, none⟩ = some v := by
  obtain ⟨_, hl, hc⟩ := World.cells?_some h
  refine ⟨World.cells?_block h hn, fun i v e => ?_⟩
  have hi : i < n := by
    rcases Nat.lt_or_ge i n with h | h
    · exact h
    · rw [List.getElem?_eq_none (by omega)] at e; cases e
  have := hc i hi
  rw [addr_add, e] at this
  exact this
theorem spot_none {w : World} {a : Addr} {n : Nat} {cs : List Value} (h : w.cells? 0 a n = some cs) (hn : 0 < n) : a = ⟨a.block, a.off, none⟩ := by
  obtain ⟨_, hl, hc⟩ := World.cells?_some h
  have h0 := hc 0 hn
  have ha : a.add 0 = a := by unfold Addr.add; simp
  rw [ha, List.getElem?_eq_getElem (by omega)] at h0
  obtain ⟨b, f, s⟩ := a
  cases s with
  | none => rfl
  | some s =>
    unfold World.cell? at h0
    split at h0
    · simp at h0
    · cases h0
instance : Inhabited O := ⟨⟨0, 0, 0, 0, 0⟩⟩
instance : Inhabited Bk := ⟨⟨[], 0, 0, [], 0, 0⟩⟩

theorem weightsAll_mem {H : Type} {P : Program} {e : TypeId} {d : DataW H} {n : Nat} : ∀ {l : List (DataW H)}, d ∈ l → n ∈ d.weights P e → n ∈ DataW.weightsAll P e l
  | x :: r, hd, hn => by
    unfold DataW.weightsAll
    rcases List.mem_cons.1 hd with rfl | hd
    · exact List.mem_append_left _ hn
    · exact List.mem_append_right _ (weightsAll_mem hd hn)

/-- One operation, out of its cells. -/
theorem open_o {H : Type} {enc : TypeId × Value → H} {W : World} {base fuel : Nat} {sp : Nat → Bool} {held : Bool} {cs : List Value} {y : DataW H × List MemPlace} (h : DataW.trod enc Tryd.prog W base sp held fuel 60 cs = some y) : ∃ o : O, o.Ok ∧ cs = [.int .i8 o.op, .int .u8 o.d, .int .u8 o.a, .int .u8 o.b, .int .i64 o.im] := by
  have k49 : Tryd.prog.cellsOf 60 = 5 := by kernel_rfl
  have k38 : Tryd.prog.cellsOf 55 = 1 := by kernel_rfl
  have k5 : Tryd.prog.cellsOf 5 = 1 := by kernel_rfl
  have k2 : Tryd.prog.cellsOf 2 = 1 := by kernel_rfl
  obtain ⟨y0, y1, y2, y3, y4, n, hx, hl, h0, h1, h2, h3, h4⟩ := trod_struct5 Tryd.underlying60 h
  rw [k49] at hl
  match cs, hl with
  | [c0, c1, c2, c3, c4], _ =>
    rw [k38] at h0
    rw [k5] at h1 h2 h3
    rw [k2] at h4
    obtain ⟨a, a1, a2, a3⟩ := DataW.trod_int Tryd.underlying55 h0
    obtain ⟨b, b1, b2, b3⟩ := DataW.trod_int Tryd.underlying5 h1
    obtain ⟨c, c1', c2', c3'⟩ := DataW.trod_int Tryd.underlying5 h2
    obtain ⟨e, e1, e2, e3⟩ := DataW.trod_int Tryd.underlying5 h3
    obtain ⟨g, g1, g2, g3⟩ := DataW.trod_int Tryd.underlying2 h4
    have a1' : [c0] = [Value.int .i8 a] := a1
    have b1' : [c1] = [Value.int .u8 b] := b1
    have c1'' : [c2] = [Value.int .u8 c] := c1'
    have e1' : [c3] = [Value.int .u8 e] := e1
    have g1' : [c4] = [Value.int .i64 g] := g1
    obtain rfl : c0 = .int .i8 a := by simpa using a1'
    obtain rfl : c1 = .int .u8 b := by simpa using b1'
    obtain rfl : c2 = .int .u8 c := by simpa using c1''
    obtain rfl : c3 = .int .u8 e := by simpa using e1'
    obtain rfl : c4 = .int .i64 g := by simpa using g1'
    have w0 := wf8 a3
    have w1 := wfu8 b3
    have w2 := wfu8 c3'
    have w3 := wfu8 e3
    have w4 := wf64 g3
    exact ⟨⟨a, b, c, e, g⟩, ⟨w0.1, w0.2, w1.1, w1.2, w2.1, w2.2, w3.1, w3.2, w4.1, w4.2⟩, rfl⟩

/-- A list of operations, out of its cell. -/
theorem open_list {H : Type} {enc : TypeId × Value → H} {W : World} {fuel : Nat} {held : Bool} {cs : List Value} {y : DataW H × List MemPlace} (h : DataW.trod enc Tryd.prog W 0 (fun _ => true) held fuel 54 cs = some y) (hw : ∀ n, n ∈ y.1.weights Tryd.prog 54 → n ≤ reachBytes) :
    ∃ (ao : Option Addr) (cap : Nat) (xs : List O), cs = [.slice ao xs.length cap] ∧ OpsAt W ao xs ∧ xs.length ≤ cap := by
  have k49 : Tryd.prog.cellsOf 60 = 5 := by kernel_rfl
  have b49 : Tryd.prog.bytesOf 60 = 16 := by kernel_rfl
  rcases Deep.open_slice Tryd.underlying54 h with ⟨rfl, rfl⟩ | ⟨a, len, cap, m, n, D, Pl, rfl, _, hlc, _, hm, rfl, hx⟩
  · exact ⟨none, 0, [], rfl, opsAt_nil _ _, by simp⟩
  · have hmc : m = cap := by simpa using hm
    subst hmc
    have hcap : m * 16 ≤ reachBytes := by
      refine hw _ ?_
      unfold DataW.weights
      simp only [Tryd.underlying54, b49]
      refine List.mem_cons.2 (.inl ?_)
      simp; omega
    rw [reach_eq] at hcap
    rw [k49] at hx
    obtain ⟨X, hX⟩ := Deep.choose_lt (α := O) (n := len) (p := fun i o => o.Ok ∧ W.cells? 0 (a.add (i * 5)) 5 = some [.int .i8 o.op, .int .u8 o.d, .int .u8 o.a, .int .u8 o.b, .int .i64 o.im]) (fun i hi => by
      obtain ⟨cs', h1, h2⟩ := hx i (by omega)
      obtain ⟨o, ho, rfl⟩ := open_o h2
      exact ⟨o, ho, h1⟩)
    refine ⟨some a, m, (List.range len).map X, by simp, ⟨fun o ho => ?_, by simp; omega, fun h0 => ?_⟩, by simp; omega⟩
    · obtain ⟨i, hi, rfl⟩ := List.mem_map.1 ho
      exact (hX i (List.mem_range.1 hi)).1
    · have h0' : 0 < len := by simpa using h0
      have ha : a = ⟨a.block, a.off, none⟩ := by
        have := (hX 0 h0').2
        rw [show a.add (0 * 5) = a by unfold Addr.add; simp] at this
        exact spot_none this (by omega)
      refine ⟨a.block, a.off, by rw [← ha], ?_, fun i hi => ?_⟩
      · have := (hX 0 h0').2
        rw [ha, addr_add] at this
        exact (cells_at this (by omega)).1
      · have hi' : i < len := by simpa using hi
        have := (hX i hi').2
        rw [ha, addr_add] at this
        have hc := (cells_at this (by omega)).2
        simp only [List.getElem_map, List.getElem_range]
        exact ⟨hc 0 _ rfl, hc 1 _ rfl, hc 2 _ rfl, hc 3 _ rfl, hc 4 _ rfl⟩

theorem trod_struct6 {H : Type} {enc : TypeId × Value → H} {P : Program} {w : World} {base : Nat} {spare : Nat → Bool} {held : Bool} {t : TypeId} {f0 f1 f2 f3 f4 f5 : Field} {fuel : Nat} {cs : List Value} {x : DataW H × List MemPlace} (ht : P.underlying t = some (.struct #[f0, f1, f2, f3, f4, f5])) (h : DataW.trod enc P w base spare held fuel t cs = some x) :
    ∃ y0 y1 y2 y3 y4 y5 n, x.1 = .agg [y0.1, y1.1, y2.1, y3.1, y4.1, y5.1] ∧ cs.length = P.cellsOf t ∧ DataW.trod enc P w base spare held n f0.type ((cs.drop f0.offset).take (P.cellsOf f0.type)) = some y0 ∧
      DataW.trod enc P w base spare held n f1.type ((cs.drop f1.offset).take (P.cellsOf f1.type)) = some y1 ∧ DataW.trod enc P w base spare held n f2.type ((cs.drop f2.offset).take (P.cellsOf f2.type)) = some y2 ∧
      DataW.trod enc P w base spare held n f3.type ((cs.drop f3.offset).take (P.cellsOf f3.type)) = some y3 ∧ DataW.trod enc P w base spare held n f4.type ((cs.drop f4.offset).take (P.cellsOf f4.type)) = some y4 ∧ DataW.trod enc P w base spare held n f5.type ((cs.drop f5.offset).take (P.cellsOf f5.type)) = some y5 := by
  obtain ⟨xs, n, _, rfl, hl, hlen, hf⟩ := DataW.trod_struct ht h
  match xs, hlen with
  | [y0, y1, y2, y3, y4, y5], _ => exact ⟨y0, y1, y2, y3, y4, y5, n, by simp, hl, by simpa using hf 0 f0 rfl, by simpa using hf 1 f1 rfl, by simpa using hf 2 f2 rfl, by simpa using hf 3 f3 rfl, by simpa using hf 4 f4 rfl, by simpa using hf 5 f5 rfl⟩

/-- One block, out of its cells. -/
theorem open_b {H : Type} {enc : TypeId × Value → H} {W : World} {fuel : Nat} {held : Bool} {cs : List Value} {y : DataW H × List MemPlace} (h : DataW.trod enc Tryd.prog W 0 (fun _ => true) held fuel 57 cs = some y) (hw : ∀ n, n ∈ y.1.weights Tryd.prog 57 → n ≤ reachBytes) :
    ∃ (x : Bk) (p : Pl), BIn W x p ∧ cs = (x.cells p).toList := by
  have k40 : Tryd.prog.cellsOf 57 = 6 := by kernel_rfl
  have k37 : Tryd.prog.cellsOf 54 = 1 := by kernel_rfl
  have k38 : Tryd.prog.cellsOf 55 = 1 := by kernel_rfl
  have k5 : Tryd.prog.cellsOf 5 = 1 := by kernel_rfl
  have k3 : Tryd.prog.cellsOf 3 = 1 := by kernel_rfl
  obtain ⟨y0, y1, y2, y3, y4, y5, n, hx, hl, h0, h1, h2, h3, h4, h5⟩ := trod_struct6 Tryd.underlying57 h
  rw [k40] at hl
  have hw' : ∀ n, n ∈ DataW.weightsEach Tryd.prog [54, 55, 5, 54, 3, 3] [y0.1, y1.1, y2.1, y3.1, y4.1, y5.1] → n ≤ reachBytes := fun n hn => by
    refine hw n ?_
    rw [hx]
    unfold DataW.weights
    simp only [Tryd.underlying57]
    exact hn
  match cs, hl with
  | [c0, c1, c2, c3, c4, c5], _ =>
    rw [k37] at h0 h3
    rw [k38] at h1
    rw [k5] at h2
    rw [k3] at h4 h5
    obtain ⟨oa, oc, os, e0, i0, l0⟩ := open_list h0 fun n hn => hw' n (DataW.weights_mem_each (j := 0) rfl rfl n hn)
    obtain ⟨ba, bc, bs, e3, i3, -⟩ := open_list h3 fun n hn => hw' n (DataW.weights_mem_each (j := 3) rfl rfl n hn)
    obtain ⟨f, f1, _, f3⟩ := DataW.trod_int Tryd.underlying55 h1
    obtain ⟨a, a1, _, a3⟩ := DataW.trod_int Tryd.underlying5 h2
    obtain ⟨u, u1, _, u3⟩ := DataW.trod_int Tryd.underlying3 h4
    obtain ⟨v, v1, _, v3⟩ := DataW.trod_int Tryd.underlying3 h5
    have e0' : [c0] = [Value.slice oa os.length oc] := e0
    have e3' : [c3] = [Value.slice ba bs.length bc] := e3
    have f1' : [c1] = [Value.int .i8 f] := f1
    have a1' : [c2] = [Value.int .u8 a] := a1
    have u1' : [c4] = [Value.int .i64 u] := u1
    have v1' : [c5] = [Value.int .i64 v] := v1
    obtain rfl : c0 = .slice oa os.length oc := by simpa using e0'
    obtain rfl : c3 = .slice ba bs.length bc := by simpa using e3'
    obtain rfl : c1 = .int .i8 f := by simpa using f1'
    obtain rfl : c2 = .int .u8 a := by simpa using a1'
    obtain rfl : c4 = .int .i64 u := by simpa using u1'
    obtain rfl : c5 = .int .i64 v := by simpa using v1'
    have w1 := wf8 f3
    have w2 := wfu8 a3
    have w4 := wf64 u3
    have w5 := wf64 v3
    exact ⟨⟨os, f, a, bs, u, v⟩, ⟨oa, oc, ba, bc⟩, ⟨⟨w1.1, w1.2, w2.1, w2.2, w4.1, w4.2, w5.1, w5.2⟩, i0, i3, l0⟩, rfl⟩

/-- The blocks, out of their cell. -/
theorem open_blocks {H : Type} {enc : TypeId × Value → H} {W : World} {fuel : Nat} {held : Bool} {cs : List Value} {y : DataW H × List MemPlace} (h : DataW.trod enc Tryd.prog W 0 (fun _ => true) held fuel 22 cs = some y) (hw : ∀ n, n ∈ y.1.weights Tryd.prog 22 → n ≤ reachBytes) :
    ∃ (ao : Option Addr) (cap : Nat) (ps : List Bk), cs = [.slice ao ps.length cap] ∧ PAt W ao ps ∧ ps.length ≤ cap ∧ cap ≤ maxLen := by
  have k40 : Tryd.prog.cellsOf 57 = 6 := by kernel_rfl
  have b40 : Tryd.prog.bytesOf 57 = 72 := by kernel_rfl
  rcases Deep.open_slice Tryd.underlying22 h with ⟨rfl, rfl⟩ | ⟨a, len, cap, m, n, D, Pl, rfl, _, hlc, hmx, hm, rfl, hx⟩
  · exact ⟨none, 0, [], rfl, pAt_none _ _, Nat.le_refl _, Nat.zero_le _⟩
  · have hmc : m = cap := by simpa using hm
    subst hmc
    have hall : ∀ n, n ∈ (m * 72) :: (DataW.weightsAll Tryd.prog 57 ((List.range len).map D) ++ DataW.weightsAll Tryd.prog 57 ((List.range (m - len)).map fun j => D (len + j))) → n ≤ reachBytes := fun n hn => by
      refine hw n ?_
      unfold DataW.weights
      simp only [Tryd.underlying22, b40]
      rw [show ((List.range len).map D).length + ((List.range (m - len)).map fun j => D (len + j)).length = m by simp; omega]
      exact hn
    have hcap : m * 72 ≤ reachBytes := hall _ (List.mem_cons_self ..)
    rw [reach_eq] at hcap
    rw [k40] at hx
    obtain ⟨X, hX⟩ := Deep.choose_lt (α := Bk) (n := len) (p := fun i x => ∃ p, BIn W x p ∧ W.cells? 0 (a.add (i * 6)) 6 = some (x.cells p).toList) (fun i hi => by
      obtain ⟨cs', h1, h2⟩ := hx i (by omega)
      obtain ⟨x, p, hb, rfl⟩ := open_b h2 fun n hn => hall n (List.mem_cons_of_mem _ (List.mem_append_left _ (weightsAll_mem (List.mem_map.2 ⟨i, List.mem_range.2 hi, rfl⟩) hn)))
      exact ⟨x, p, hb, h1⟩)
    refine ⟨some a, m, (List.range len).map X, by simp, ⟨by simp; omega, fun h0 => ?_⟩, by simpa using hlc, hmx⟩
    have h0' : 0 < len := by simpa using h0
    have ha : a = ⟨a.block, a.off, none⟩ := by
      obtain ⟨_, _, this⟩ := hX 0 h0'
      rw [show a.add (0 * 6) = a by unfold Addr.add; simp] at this
      exact spot_none this (by omega)
    refine ⟨a.block, a.off, by rw [← ha], ?_, fun i hi => ?_⟩
    · obtain ⟨_, _, this⟩ := hX 0 h0'
      rw [ha, addr_add] at this
      exact (cells_at this (by omega)).1
    · have hi' : i < len := by simpa using hi
      obtain ⟨p, hb, this⟩ := hX i hi'
      rw [ha, addr_add] at this
      have hc := (cells_at this (by omega)).2
      simp only [List.getElem_map, List.getElem_range]
      exact ⟨p, ⟨hc 0 _ rfl, hc 1 _ rfl, hc 2 _ rfl, hc 3 _ rfl, hc 4 _ rfl, hc 5 _ rfl⟩, hb⟩

/-- A program that comes in. -/
theorem open_prog {H : Type} {enc : TypeId × Value → H} {W : World} {r : Reach} {b0 : Nat} {held : Bool} {v : Value} {d : DataW H} {p : List MemPlace} (hv : Value.okWide Tryd.prog W r b0 24 v) (h : DataW.Trod enc Tryd.prog W 0 (fun _ => true) held 24 v d p) (hw : ∀ n, n ∈ d.weights Tryd.prog 24 → n ≤ reachBytes) :
    ∃ (ao : Option Addr) (cap : Nat) (ps : List Bk), v = .agg #[.slice ao ps.length cap] ∧ PAt W ao ps ∧ ps.length ≤ cap ∧ cap ≤ maxLen := by
  obtain ⟨cs, rfl, hsz⟩ := okWide_struct Tryd.underlying24 hv
  have k24 : Tryd.prog.cellsOf 24 = 1 := by kernel_rfl
  have k22 : Tryd.prog.cellsOf 22 = 1 := by kernel_rfl
  rw [k24] at hsz
  obtain ⟨l⟩ := cs
  clear hv
  match l, hsz with
  | [c0], _ =>
    obtain ⟨fuel, hf⟩ := h
    obtain ⟨xs, n, _, hx, _, hlen, hff⟩ := DataW.trod_struct Tryd.underlying24 hf
    match xs, hlen with
    | [y0], _ =>
      have h0 : DataW.trod enc Tryd.prog W 0 (fun _ => true) held n 22 ((([c0] : List Value).drop 0).take (Tryd.prog.cellsOf 22)) = some y0 := hff 0 _ rfl
      rw [k22] at h0
      have hd : d = .agg [y0.1] := by simpa using congrArg Prod.fst hx
      obtain ⟨ao, cap, ps, e, hp, h1, h2⟩ := open_blocks (y := y0) h0 fun n hn => hw n (by
        rw [hd]
        unfold DataW.weights
        simp only [Tryd.underlying24]
        exact DataW.weights_mem_each (ts := [22]) (ds := [y0.1]) (j := 0) rfl rfl n hn)
      have e' : [c0] = [Value.slice ao ps.length cap] := e
      obtain rfl : c0 = .slice ao ps.length cap := by simpa using e'
      exact ⟨ao, cap, ps, rfl, hp, h1, h2⟩
end Go.Proofs.YtlnfhbkkodhmaaaDoor.Op

namespace Go.Proofs.YtlnfhbkkodhmaaaDoor.Sm
open Go.ChangeShapes Go.WideShapes Go.ChangeAt Go.RowKit
open _root_.Go.Proofs.YtlnfhbkkodhmaaaDoor.Op _root_.Go.Proofs.YtlnfhbkkodhmaaaDoor.So
set_option maxRecDepth 20000

theorem cell_spot {w : World} {a : Addr} {v : Value} (h : w.cell? a = some v) : a = ⟨a.block, a.off, none⟩ := by
  obtain ⟨b, f, s⟩ := a
  cases s with
  | none => rfl
  | some s =>
    unfold World.cell? at h
    split at h
    · simp at h
    · cases h
/-- A list of numbers out of a datum. -/
theorem open_nums {H : Type} {enc : TypeId × Value → H} {W : World} {fuel : Nat} {held : Bool} {c : Value} {y : DataW H × List MemPlace} (h : DataW.trod enc Tryd.prog W 0 (fun _ => true) held fuel 25 [c] = some y) :
    ∃ (ao : Option Addr) (cap : Nat) (l : List Int), c = .slice ao l.length cap ∧ NL W ao l ∧ (∀ x ∈ l, In64 x) := by
  rcases open_ints (P := Tryd.prog) Tryd.underlying25 Tryd.underlying2 (by kernel_rfl) h with ⟨e, -⟩ | ⟨a, len, cap, zs, e, -, hl, hc, hz, -, hcell, hwf⟩
  · exact ⟨none, 0, [], by simpa using e, ⟨fun h => by simp at h⟩, fun x hx => by simp at hx⟩
  · have hz : zs.length = cap := by simpa using hz
    refine ⟨some a, cap, zs.take len, by simp at e; rw [e]; congr; simp; omega, ⟨fun h0 => ?_⟩, fun x hx => ?_⟩
    · have hlen : 0 < len := by simp at h0; omega
      have h1 := hcell 0 (by omega)
      rw [show a.add 0 = a by unfold Addr.add; simp] at h1
      have ha := cell_spot h1
      refine ⟨a.block, a.off, by rw [← ha], World.block_lt_of_cell? W a h1, fun i hi => ?_⟩
      have hi' : i < zs.length := by simp at hi; omega
      have h2 := hcell i hi'
      rw [ha, add_at'] at h2
      rw [h2]
      simp [List.getD, List.getElem?_eq_getElem hi']
    · have := wf64 (hwf x (List.mem_of_mem_take hx))
      exact this
theorem open_state {H : Type} {enc : TypeId × Value → H} {W : World} {r : Reach} {b0 : Nat} {held : Bool} {v : Value} {d : DataW H} {p : List MemPlace} (hv : Value.okWide Tryd.prog W r b0 27 v) (h : DataW.Trod enc Tryd.prog W 0 (fun _ => true) held 27 v d p) :
    ∃ (ra ma : Option Addr) (rc mc : Nat) (rs ms : List Int), v = .agg #[.slice ra rs.length rc, .slice ma ms.length mc] ∧ Sn W ra ma rs ms ∧ (∀ x ∈ rs, In64 x) ∧ (∀ x ∈ ms, In64 x) := by
  obtain ⟨cs, rfl, hsz⟩ := okWide_struct Tryd.underlying27 hv
  have k27 : Tryd.prog.cellsOf 27 = 2 := by kernel_rfl
  have k25 : Tryd.prog.cellsOf 25 = 1 := by kernel_rfl
  rw [k27] at hsz
  obtain ⟨l⟩ := cs
  clear hv
  match l, hsz with
  | [c0, c1], _ =>
    obtain ⟨fuel, hf⟩ := h
    obtain ⟨xs, n, _, hx, _, hlen, hff⟩ := DataW.trod_struct Tryd.underlying27 hf
    match xs, hlen with
    | [y0, y1], _ =>
      have h0 : DataW.trod enc Tryd.prog W 0 (fun _ => true) held n 25 ((([c0, c1] : List Value).drop 0).take (Tryd.prog.cellsOf 25)) = some y0 := hff 0 _ rfl
      have h1 : DataW.trod enc Tryd.prog W 0 (fun _ => true) held n 25 ((([c0, c1] : List Value).drop 1).take (Tryd.prog.cellsOf 25)) = some y1 := hff 1 _ rfl
      rw [k25] at h0 h1
      obtain ⟨ra, rc, rs, e0, n0, i0⟩ := open_nums (c := c0) h0
      obtain ⟨ma, mc, ms, e1, n1, i1⟩ := open_nums (c := c1) h1
      subst e0 e1
      exact ⟨ra, ma, rc, mc, rs, ms, rfl, ⟨n0, n1⟩, i0, i1⟩
end Go.Proofs.YtlnfhbkkodhmaaaDoor.Sm

namespace Go.Proofs.YtlnfhbkkodhmaaaDoor.Sm
open Go.ChangeShapes Go.WideShapes Go.ChangeAt Go.RowKit
open _root_.Go.Proofs.YtlnfhbkkodhmaaaDoor.Op

set_option maxRecDepth 100000 in
theorem strail_wit (os : Os) (H : Type) (enc : TypeId × Value → H) : ∃ (w : World) (tape : Tape) (i : Input), w.os = os ∧ (w.forCall tape i).Shaped Tryd.prog ∧ i.vars = [] ∧ Input.okWide Tryd.prog (w.forCall tape i) .any w.heap.size 4 i ∧
      ((Rows.serialTrailSpec.pre enc Tryd.prog Tryd.f4 [] false (w.forCall tape i).memory i.args ∧ laidMetH Tryd.prog Rows.serialTrailRow.laid (w.forCall tape i).memory) ∧ sizedMet enc Tryd.prog Tryd.f4 (OpenSpec.ofChange Rows.serialTrailSpec) false (w.forCall tape i).memory i.args) ∧ Assume.holds {} Tryd.prog (lone (Frame.enter Tryd.prog 4 i.args .normal) [] (w.forCall tape i)) :=
  ChangeSpec.witness_shaped (enc := enc) (C := Tryd.checked) (os := os) (X := fun w _ => laidMetH Tryd.prog Rows.serialTrailRow.laid w) false ((World.holding Tryd.prog os ⟨#[], #[], []⟩).layVars Tryd.prog laid1) #[.agg #[.slice none 0 0], .agg #[.slice none 0 0, .slice none 0 0], .int .i64 0] 8 (wit_os os)
    (World.shaped_of_ZipB (by kernel_rfl) (by kernel_rfl)) (by kernel_rfl) (by kernel_rfl) (by kernel_rfl) (wit_met os _)

set_option maxRecDepth 100000 in
theorem strail_lifted (os : Os) (started : os.Started) (H : Type) (enc : TypeId × Value → H) :
    ReturnsInHanded {} Tryd.checked os 4 .any (fun w args => (Rows.serialTrailSpec.pre enc Tryd.prog Tryd.f4 [] false w args ∧ laidMetH Tryd.prog Rows.serialTrailRow.laid w) ∧ sizedMet enc Tryd.prog Tryd.f4 (OpenSpec.ofChange Rows.serialTrailSpec) false w args)
      (Rows.serialTrailSpec.post enc Tryd.prog Tryd.f4 false true false false) := by
  refine wrap started (by kernel_rfl) Tryd.func4 (strail_wit os H enc) ?_
  intro W base args ds gs before hval0 hW hsz hL _
  have hval : ∀ (j : Nat) t v, Tryd.f4.params[j]? = some t → args[j]? = some v → Value.okWide Tryd.prog W .any base t v := hval0
  have hW' := hW
  obtain ⟨p, q, hA0, hV, rfl, _, _⟩ := hW
  have hA : DataW.TrodAll enc Tryd.prog W 0 (fun _ => true) true Tryd.f4.params.toList args.toList ds p := hA0
  rw [Tryd.params4] at hA hval hsz
  obtain ⟨v0, v1, v2, d0, d1, d2, p0, p1, p2, rfl, rfl, rfl, h0, h1, h2⟩ := trodAll_three hA
  obtain ⟨rfl, rfl⟩ := trodVars_none hV
  obtain ⟨ao, cap, ps, rfl, hp, hc, hm⟩ := open_prog (hval 0 24 v0 rfl rfl) h0 fun n hn => by
    have := List.all_eq_true.1 hsz n (DataW.weights_mem_each (j := 0) rfl rfl n hn)
    simpa using this
  obtain ⟨ra, ma, rc, mc, rs, ms, rfl, hs, hr, hms⟩ := open_state (hval 1 27 v1 rfl rfl) h1
  obtain ⟨n, rfl, rfl, rfl, hn⟩ := open_int Tryd.underlying3 (hval 2 3 v2 rfl rfl) h2
  simp only [List.append_nil] at hW'
  refine (law_trail ao ra ma cap rc mc ps rs ms n W hp (env_of hL) hs hr hms).mono fun e W' ⟨he, hb⟩ => ?_
  subst he
  refine ⟨_, rfl, _, _, _, [], p0 ++ (p1 ++ []), [], hW', trodAll_mk1 (shut_bool Tryd.underlying4 _), ?_, rfl, hb.frame _, fun h => by cases h⟩
  rw [Tryd.params4]
  exact trodAll_mk3 (Below.trod laidOut (by kernel_rfl) (by rw [tySize]; decide) h0 hb fun x hx => by obtain ⟨fuel, hf⟩ := h0; exact DataW.trod_lt _ _ _ _ hf x hx) (Below.trod laidOut (by kernel_rfl) (by rw [tySize]; decide) h1 hb fun x hx => by obtain ⟨fuel, hf⟩ := h1; exact DataW.trod_lt _ _ _ _ hf x hx) (Below.trod laidOut (by kernel_rfl) (by rw [tySize]; decide) h2 hb (fun x hx => by cases hx))

theorem strail_row : Rows.SerialTrailSaid :=
  OpenClaim.holds_of_wide 4 Tryd.f4 rfl rfl rfl rfl rfl rfl rfl ⟨rfl, rfl, rfl, rfl, rfl⟩ rfl rfl rfl rfl rfl (by kernel_rfl) Tryd.func4 (by kernel_rfl)
    (of_decide_eq_true (by kernel_rfl)) (by unfold Func.isWrapper; first | (rw [if_pos (by decide +kernel)]; kernel_rfl) | (rw [if_neg (by decide +kernel)]; exact ⟨rfl, rfl⟩))
    (fun os started H enc _ => strail_lifted os started H enc)

theorem strail_card : Rows.SerialTrailCardSaid :=
  Claim7.holds_tied_plain_at .later [] [.data] true (true, "2cd15914c1cc916fa85673181e1e7625814c33a0071ee3ea218290e15ea07353") true strail_row (fun _ h => by cases h) (by kernel_rfl) (fun _ h => by cases h) serialTrail_row_tie rfl ⟨rfl, rfl⟩ (by kernel_rfl) rfl
    (fun f fn hf hfn => by
      obtain rfl : f = 4 := Option.some.inj ((show Tryd.prog.funcNamed "hayloft/hayloftlaw09.SerialTrail" = some 4 by kernel_rfl).symm.trans hf) |>.symm
      obtain rfl : fn = Tryd.f4 := (Option.some.inj (Tryd.func4.symm.trans hfn)).symm
      exact ⟨by kernel_rfl, fun j t ht => by
        rw [Tryd.params4] at ht
        have hm : t ∈ [24, 27, 3] := by simpa using Array.mem_of_getElem? ht
        have hall : ([24, 27, 3].all fun u => !Tryd.prog.wantsStandIn u) = true := by kernel_rfl
        exact (show Tryd.prog.wantsStandIn t = false by simpa using List.all_eq_true.1 hall t hm)⟩)
    (by kernel_rfl)
#print axioms strail_card
end Go.Proofs.YtlnfhbkkodhmaaaDoor.Sm
