/- The statement SerialRuns, whole: the program's machine and the document's answer alike, run by run, whatever the program, the state and the numbers of steps; the listed variable is tied to the program text. Conditions: none. -/
import Derived.Test.YtlnfhbkkodhmaaaDoorDf
import Derived.Test.YtlnfhbkkodhmaaaDoorNr
import Derived.Test.YtlnfhbkkodhmaaaDoorRj
import Derived.Test.YtlnfhbkkodhmaaaDoorQc
import Derived.Test.YtlnfhbkkodhmaaaDoorDh
import Derived.Test.YtlnfhbkkodhmaaaDoorFr
import Derived.ChangeOld
import Derived.SizedLaws
import Derived.Test.YtlnfhbkkodhmaaaDoorNs
import Derived.ChangeSlices
namespace Go.Proofs.YtlnfhbkkodhmaaaDoor.Sm
open Go.ChangeShapes Go.WideShapes Go.ChangeAt Go.RowKit
open _root_.Go.Proofs.YtlnfhbkkodhmaaaDoor.Op _root_.Go.Proofs.YtlnfhbkkodhmaaaDoor.So
set_option maxRecDepth 20000

/-- The first k of a list laid over. -/
def over (f : Nat → Int) (l : List Int) (k : Nat) : Nat → Int := fun i => if i < k then l.getD i 0 else f i
theorem over_zero (f : Nat → Int) (l : List Int) : over f l 0 = f := by funext i; simp [over]
theorem over_succ (f : Nat → Int) (l : List Int) {k : Nat} (h : k < l.length) : upd (over f l k) k l[k] = over f l (k + 1) := by
  funext i
  unfold upd over
  by_cases e : i = k
  · subst e
    rw [if_pos rfl, if_pos (by omega), List.getD_eq_getElem?_getD, List.getElem?_eq_getElem h]
    rfl
  · rw [if_neg e]
    by_cases h1 : i < k
    · rw [if_pos h1, if_pos (by omega)]
    · rw [if_neg h1, if_neg (by omega)]
section
variable {w : World} {q : Nat} {ba : Option Addr} {bl bc : Nat} {po : Option Addr} {pc : Nat} {M : Ma} {L : Tg}
/-- Fill on its way: the state's box, the machine. -/
structure Fw (w wz : World) (q : Nat) (cs : Array Value) (f : Nat → Value) : Prop where
  up : Fr (One q) w wz
  bx : Op.At wz w.heap.size cs
  at_ : DAt wz q f
  ne : q < w.heap.size
theorem fw_start (h : DAt w q (dG ba bl bc po pc M L)) (cs : Array Value) : Fw w (w.alloc (.cells cs 27)) q cs (dG ba bl bc po pc M L) := by
  have hb : Below w.heap.size w (w.alloc (.cells cs 27)) := (Below.refl _ _).alloc (Nat.le_refl _) _
  exact ⟨Fr.of hb, Op.At.new _ _ _, h.up hb, h.lt⟩
theorem Fw.set {W : World} {cs : Array Value} {f g : Nat → Value} (h : Fw w W q cs f) {k : Nat} (hk : k < 302) {v : Value} (e : updV f k v = g) : Fw w (W.setCell ⟨q, k, none⟩ v).drew q cs g := by
  have hF : Fr (One q) W (W.setCell ⟨q, k, none⟩ v).drew := ((Fr.refl (One q) W).setCell (.inr (show One q q from rfl)) _ _).then (drew_up _)
  have hn : ¬ One q w.heap.size := fun e => by have e : w.heap.size = q := e; have := h.ne; omega
  have hd := (h.at_.set hk v).up (drew_up _)
  rw [e] at hd
  exact ⟨h.up.same hF, at_fr' h.bx hF hn, hd, h.ne⟩
theorem rfill_no (ra ma : Option Addr) (rc mc : Nat) (rs ms : List Int) (w : World) (q : Nat) (hg : 32 < rs.length ∨ 256 < ms.length) : Calls Tryd.prog 25 #[.agg #[.slice ra rs.length rc, .slice ma ms.length mc], .pointer (some ⟨q, 1, none⟩), .pointer (some ⟨q, 33, none⟩)] w fun e w' => e = .returned (.bool false) ∧ Below w.heap.size w w' := by
  generalize rs.length = rl at *
  generalize ms.length = ml at *
  have HB : Hid (Below w.heap.size w (w.alloc (.cells #[.slice ra rl rc, .slice ma ml mc] 27))) := (Below.refl _ _).alloc (Nat.le_refl _) _
  by_cases h1 : 32 < rl
  · have h1i : (32 : Int) < rl := by omega
    go_enter Tryd.func25, Tryd.ntmps25
    go_wp2_with fail
    go_ret
    exact ⟨rfl, HB.out⟩
  · have h1i : ¬ (32 : Int) < rl := by omega
    have h2i : (256 : Int) < ml := by omega
    go_enter Tryd.func25, Tryd.ntmps25
    go_wp2_with fail
    go_ret
    exact ⟨rfl, HB.out⟩
set_option maxHeartbeats 4000000 in
theorem rfill_any (ra ma : Option Addr) (rc mc : Nat) (rs ms : List Int) (h : DAt w q (dG ba bl bc po pc M L)) (h1 : NL w ra rs) (h2 : NL w ma ms) (n1 : 0 < rs.length → ∀ x, ra = some x → ¬ x.block = q) (n2 : 0 < ms.length → ∀ x, ma = some x → ¬ x.block = q) (l1 : rs.length ≤ 32) (l2 : ms.length ≤ 256) :
    Calls Tryd.prog 25 #[.agg #[.slice ra rs.length rc, .slice ma ms.length mc], .pointer (some ⟨q, 1, none⟩), .pointer (some ⟨q, 33, none⟩)] w fun e w' => e = .returned (.bool true) ∧ DAt w' q (dG ba bl bc po pc { M with r := over M.r rs rs.length, m := over M.m ms ms.length } L) ∧ Fr (One q) w w' := by
  have HN1 : Hid (∀ W, Fr (One q) w W → NL W ra rs) := fun W g => h1.fr g n1
  have HN2 : Hid (∀ W, Fr (One q) w W → NL W ma ms) := fun W g => h2.fr g n2
  have HF0 : Hid (Fw w (w.alloc (.cells #[.slice ra rs.length rc, .slice ma ms.length mc] 27)) q #[.slice ra rs.length rc, .slice ma ms.length mc] (dG ba bl bc po pc M L)) := fw_start h _
  have hne : ¬ q = w.heap.size := by have := h.lt; omega
  have hne' : ¬ w.heap.size = q := fun e => hne e.symm
  have k1i : ¬ (32 : Int) < rs.length := by omega
  have k2i : ¬ (256 : Int) < ms.length := by omega
  clear h h1 h2
  go_enter Tryd.func25, Tryd.ntmps25
  go_wp2_with fail
  go_loopw [7] (fun i wz => ∃ k : Nat, k ≤ rs.length ∧ i = .int .i64 k ∧ Fw w wz q #[.slice ra rs.length rc, .slice ma ms.length mc] (dG ba bl bc po pc { M with r := over M.r rs k } L)) (fun i _ => rs.length - (intOf i).toNat)
  case atStart => exact ⟨0, by omega, rfl, by rw [over_zero]; exact HF0.out⟩
  case round =>
    rename World => wz
    obtain ⟨k, hk, rfl, hfw⟩ := hrel
    have HF : Hid (Fw w wz q #[.slice ra rs.length rc, .slice ma ms.length mc] (dG ba bl bc po pc { M with r := over M.r rs k } L)) := hfw
    clear hfw HF0
    have c0 := HF.out.bx.c 0 _ rfl
    have c1 := HF.out.bx.c 1 _ rfl
    have z0 := HF.out.bx.lt
    have z1 := HF.out.at_.lt
    by_cases hlt : k < rs.length
    · have hki : (k : Int) < rs.length := by omega
      have hk32 : (k : Int) < 32 := by omega
      obtain ⟨b, f, rfl, hz, hx⟩ := (HN1.out wz HF.out.up).is (by omega)
      have x0 := hx k hlt
      have r0 := HF.out.at_.kr (show k < 32 by omega)
      have f0 := HF.out.at_.fz (1 + k)
      have HU : Hid (Fw w (wz.setCell ⟨q, 1 + k, none⟩ (.int .i64 rs[k])).drew q #[.slice (some ⟨b, f, none⟩) rs.length rc, .slice ma ms.length mc] (dG ba bl bc po pc { M with r := over M.r rs (k + 1) } L)) := HF.out.set (by omega) (by rw [up_r (show k < 32 by omega), over_succ _ _ hlt])
      clear hx
      generalize rs[k] = rv at *
      go_wp2_with fail
      go_big_region
      all_goals
        go_wp2_with fail
        go_roundw
        case rel => exact ⟨k + 1, by omega, by go_num, HU.out⟩
        case measure => simp [intOf]; omega
    · obtain rfl : rs.length = k := by omega
      go_wp2_with fail
      clear c0 c1 z0 z1
      go_loopw [8] (fun i wy => ∃ k : Nat, k ≤ ms.length ∧ i = .int .i64 k ∧ Fw w wy q #[.slice ra rs.length rc, .slice ma ms.length mc] (dG ba bl bc po pc { M with r := over M.r rs rs.length, m := over M.m ms k } L)) (fun i _ => ms.length - (intOf i).toNat)
      case atStart => exact ⟨0, by omega, rfl, by rw [over_zero]; exact HF.out⟩
      case round =>
        rename World => wy
        obtain ⟨k, hk2, rfl, hfw⟩ := hrel
        have HG : Hid (Fw w wy q #[.slice ra rs.length rc, .slice ma ms.length mc] (dG ba bl bc po pc { M with r := over M.r rs rs.length, m := over M.m ms k } L)) := hfw
        clear hfw HF
        have c0 := HG.out.bx.c 0 _ rfl
        have c1 := HG.out.bx.c 1 _ rfl
        have z0 := HG.out.bx.lt
        have z1 := HG.out.at_.lt
        by_cases hlt2 : k < ms.length
        · have hki : (k : Int) < ms.length := by omega
          have hk256 : (k : Int) < 256 := by omega
          obtain ⟨b, f, rfl, hz, hx⟩ := (HN2.out wy HG.out.up).is (by omega)
          have x0 := hx k hlt2
          have r0 := HG.out.at_.km (show k < 256 by omega)
          have f0 := HG.out.at_.fz (33 + k)
          have HU : Hid (Fw w (wy.setCell ⟨q, 33 + k, none⟩ (.int .i64 ms[k])).drew q #[.slice ra rs.length rc, .slice (some ⟨b, f, none⟩) ms.length mc] (dG ba bl bc po pc { M with r := over M.r rs rs.length, m := over M.m ms (k + 1) } L)) := HG.out.set (by omega) (by rw [up_m (show k < 256 by omega), over_succ _ _ hlt2])
          clear hx
          generalize ms[k] = rv at *
          go_wp2_with fail
          go_big_region
          all_goals
            go_wp2_with fail
            go_roundw
            case rel => exact ⟨k + 1, by omega, by go_num, HU.out⟩
            case measure => simp [intOf]; omega
        · obtain rfl : ms.length = k := by omega
          go_wp2_with fail
          go_ret
          exact ⟨rfl, HG.out.at_, HG.out.up⟩
end
end Go.Proofs.YtlnfhbkkodhmaaaDoor.Sm

namespace Go.Proofs.YtlnfhbkkodhmaaaDoor.Sm
open Go.ChangeShapes Go.WideShapes Go.ChangeAt Go.RowKit Go.Great
open _root_.Go.Proofs.YtlnfhbkkodhmaaaDoor.Op _root_.Go.Proofs.YtlnfhbkkodhmaaaDoor.So
set_option maxRecDepth 20000

/-- What a new machine's cells hold. -/
def dzA (r : Option Addr) (n c : Nat) : Array Value := ((List.range 302).map (dG r n c none 0 (initM [] []) (0, false, 0))).toArray
theorem dzA_at (w : World) (r : Option Addr) (n c : Nat) : DAt (w.alloc (.cells (dzA r n c) 84)) w.heap.size (dG r n c none 0 (initM [] []) (0, false, 0)) := by
  have h := Op.At.new w (dzA r n c) 84
  refine ⟨h.lt, h.f, fun j hj => h.c j _ ?_⟩
  unfold dzA
  rw [List.getElem?_toArray, List.getElem?_map, List.getElem?_range hj]
  rfl
theorem over_init (l : List Int) (k : Nat) (hk : k = l.length) : over (fun i => (([] : List Int)[i]?).getD 0) l k = fun i => (l[i]?).getD 0 := by
  subst hk
  funext i
  unfold over
  by_cases h : i < l.length
  · rw [if_pos h, List.getD_eq_getElem?_getD]
  · rw [if_neg h, List.getElem?_eq_none (by omega)]
    simp
/-- What New leaves. -/
def RNew (w : World) (ps : List Bk) (rs ms : List Int) (e : Ending) (w' : World) : Prop := ∃ q, e = .returned (.tuple #[ptr q, .int .i64 0]) ∧ w.heap.size ≤ q ∧ DM w' q ps (One q) (initM rs ms) (0, false, 0) ∧ Below w.heap.size w w'
set_option maxHeartbeats 4000000 in
theorem rnew_ok (ao : Option Addr) (cap : Nat) (ps : List Bk) (ra ma : Option Addr) (rc mc : Nat) (rs ms : List Int) (w : World) (h : PAt w ao ps) (hc : ckP ps = 0) (hP : PsM ps) (h1 : NL w ra rs) (h2 : NL w ma ms) (h32 : rs.length ≤ 32) (h256 : ms.length ≤ 256) (hr : ∀ x ∈ rs, In64 x) (hm : ∀ x ∈ ms, In64 x) :
    Calls Tryd.prog 9 #[.agg #[.slice ao ps.length cap], .agg #[.slice ra rs.length rc, .slice ma ms.length mc]] w (RNew w ps rs ms) := by
  have HCk : Hid (∀ W, Below w.heap.size w W → Calls Tryd.prog 24 #[.agg #[.slice ao ps.length cap]] W fun e w' => e = .returned (.int .i64 0) ∧ Below W.heap.size W w') := fun W hb => by
    have := refCheckP_any ao cap ps W (h.below hb)
    rw [hc] at this; exact this
  have HPA : Hid (∀ W, Below w.heap.size w W → PAt W ao ps) := fun W hb => h.below hb
  have HPs : Hid (PsM ps ∧ Inv ps (initM rs ms)) := ⟨hP, inv_init hP hr hm⟩
  have nb : ∀ {a : Option Addr} {l : List Int}, NL w a l → 0 < l.length → ∀ x, a = some x → x.block < w.heap.size := fun {a l} hn h0 x e => by
    obtain ⟨b, f, e', z, -⟩ := hn.is h0
    rw [e'] at e; cases e; exact z
  have HFi : Hid (∀ (W : World) (q : Nat), Below w.heap.size w W → w.heap.size ≤ q → DAt W q (dG ao ps.length cap none 0 (initM [] []) (0, false, 0)) → Calls Tryd.prog 25 #[.agg #[.slice ra rs.length rc, .slice ma ms.length mc], .pointer (some ⟨q, 1, none⟩), .pointer (some ⟨q, 33, none⟩)] W fun e w' => e = .returned (.bool true) ∧ DAt w' q (dG ao ps.length cap none 0 (initM rs ms) (0, false, 0)) ∧ Fr (One q) W w') := fun W q hb hq hd => by
    have h9 := rfill_any ra ma rc mc rs ms hd (h1.up hb) (h2.up hb) (fun h0 x e e' => by have := nb h1 h0 x e; omega) (fun h0 x e e' => by have := nb h2 h0 x e; omega) h32 h256
    have e : ({ initM [] [] with r := over (initM [] []).r rs rs.length, m := over (initM [] []).m ms ms.length } : Ma) = initM rs ms := by
      show (⟨over (fun i => (([] : List Int)[i]?).getD 0) rs rs.length, over (fun i => (([] : List Int)[i]?).getD 0) ms ms.length, 0, false, 0, 0, 100, 0, [], 0⟩ : Ma) = _
      rw [over_init rs _ rfl, over_init ms _ rfl]; rfl
    rw [e] at h9
    exact h9
  have HB0 : Hid (Bx w ((w.alloc (.cells #[.slice ao ps.length cap] 24)).alloc (.cells #[.slice ra rs.length rc, .slice ma ms.length mc] 27)) ao ps.length cap ra ma rs.length rc ms.length mc) := by
    obtain ⟨a1, a2, hb, -, -⟩ := two_new w #[.slice ao ps.length cap] #[.slice ra rs.length rc, .slice ma ms.length mc] 24 27 (Below.refl _ _)
    exact ⟨a1, a2, hb⟩
  clear h hc hP h1 h2 h32 h256 hr hm nb
  generalize rs.length = rl at *
  generalize ms.length = ml at *
  go_enter Tryd.func9, Tryd.ntmps9
  go_upto_region 4 with (first | (go_at_call 24; refine Calls.mono (HCk.out _ (by go_grown)) ?_; rintro e w1 ⟨rfl, hb⟩; have HB1 : Hid (Bx w w1 ao ps.length cap ra ma rl rc ml mc) := (HB0.out.up hb); have p0 := HB1.out.p.c 0 _ rfl; have s0 := HB1.out.s.c 0 _ rfl; have s1 := HB1.out.s.c 1 _ rfl; have pl := HB1.out.p.lt; have sl := HB1.out.s.lt; clear hb HB0 HCk))
  rename_i K6 hK6
  apply wp_region_lit
  refine wpList_plain rfl (fun K hK => ?_)
  go_simp
  refine hK _ _ ?_
  clear hK K
  refine wpList_buildTo rfl 84 _ rfl (some 14) rfl (dzA ao ps.length cap) (by kernel_rfl) ?_
  refine wpList_boxTo rfl 84 (.tmp 14) rfl (some 15) rfl w1.heap.size rfl (dzA ao ps.length cap) (by kernel_rfl) ?_
  refine wpList_readTo rfl (some 7) rfl (ptr w1.heap.size) (by kernel_rfl) ?_
  refine wpList_nil ?_
  refine hK6 _ _ ?_
  clear hK6 K6
  have HX : Hid (Bx w (w1.alloc (.cells (dzA ao ps.length cap) 84)) ao ps.length cap ra ma rl rc ml mc ∧ DAt (w1.alloc (.cells (dzA ao ps.length cap) 84)) w1.heap.size (dG ao ps.length cap none 0 (initM [] []) (0, false, 0)) ∧ w.heap.size ≤ w1.heap.size) := ⟨HB1.out.up ((Below.refl _ _).alloc (Nat.le_refl _) _), dzA_at _ _ _ _, HB1.out.b.size⟩
  clear HB1 p0 s0 s1 pl sl
  generalize dzA ao ps.length cap = mzz at *
  generalize w1.alloc (.cells mzz 84) = X at *
  generalize w1.heap.size = q at *
  simp only [Act.put, List.setIfInBounds_toArray, List.set_cons_zero, List.set_cons_succ]
  have s0 := HX.out.1.s.c 0 _ rfl
  have s1 := HX.out.1.s.c 1 _ rfl
  have sl := HX.out.1.s.lt
  have ql := HX.out.2.1.lt
  have HXd : Hid (Below w.heap.size w X.drew ∧ DAt X.drew q (dG ao ps.length cap none 0 (initM [] []) (0, false, 0))) := ⟨(HX.out.1.up (drew_up X)).b, HX.out.2.1.up (drew_up X)⟩
  go_wp2_with fail
  go_region_with (first | (go_at_call 25; refine Calls.mono (HFi.out _ q HXd.out.1 HX.out.2.2 HXd.out.2) ?_; rintro e w6 ⟨rfl, h6, g6⟩; have H6 : Hid (DAt w6 q (dG ao ps.length cap none 0 (initM rs ms) (0, false, 0)) ∧ Fr (One q) X.drew w6) := ⟨h6, g6⟩; clear h6 g6 HFi))
  all_goals
    clear s0 s1
    go_wp2_with fail
    go_ret2
    have hq := HX.out.2.2
    have hb : Below w.heap.size w w6 := HXd.out.1.trans (H6.out.2.below HXd.out.1.size fun k hk e => by have e : k = q := e; omega)
    refine ⟨q, rfl, hq, ⟨⟨⟨ao, cap, none, 0, H6.out.1, (pin_of (HPA.out w (Below.refl _ _)) (T := fun k => One q k ∨ q ≤ k) (fun k hk e => e.elim (fun e => by have e : k = q := e; omega) fun e => by omega)).fr ?_, World.ownsRow_nil _ _ _ _, fun a e => by cases e⟩, rfl, fun k e => by have e : k = q := e; rw [e]; exact H6.out.1.lt⟩, HPs.out.2, HPs.out.1, .inl rfl⟩, hb⟩
    exact Fr.of hb
theorem rnew_bad (ao : Option Addr) (cap : Nat) (ps : List Bk) (sv : Value) (ra ma : Option Addr) (rl rc ml mc : Nat) (hsv : sv = .agg #[.slice ra rl rc, .slice ma ml mc]) (w : World) (h : PAt w ao ps) (hc : ¬ ckP ps = 0) :
    Calls Tryd.prog 9 #[.agg #[.slice ao ps.length cap], sv] w fun e w' => e = .returned (.tuple #[.pointer none, .int .i64 (ckP ps)]) ∧ Below w.heap.size w w' := by
  subst hsv
  have HCk : Hid (∀ W, Below w.heap.size w W → Calls Tryd.prog 24 #[.agg #[.slice ao ps.length cap]] W fun e w' => e = .returned (.int .i64 (ckP ps)) ∧ Below W.heap.size W w') := fun W hb => refCheckP_any ao cap ps W (h.below hb)
  have HB0 : Hid (Bx w ((w.alloc (.cells #[.slice ao ps.length cap] 24)).alloc (.cells #[.slice ra rl rc, .slice ma ml mc] 27)) ao ps.length cap ra ma rl rc ml mc) := by
    obtain ⟨a1, a2, hb, -, -⟩ := two_new w #[.slice ao ps.length cap] #[.slice ra rl rc, .slice ma ml mc] 24 27 (Below.refl _ _)
    exact ⟨a1, a2, hb⟩
  have hcb : (ckP ps == 0) = false := by simpa using hc
  clear h hc
  generalize ckP ps = ce at *
  have hc : ¬ ce = 0 := by simpa using hcb
  go_enter Tryd.func9, Tryd.ntmps9
  go_wp2_with (first | (go_at_call 24; refine Calls.mono (HCk.out _ (by go_grown)) ?_; rintro e w1 ⟨rfl, hb⟩; have HB1 : Hid (Bx w w1 ao ps.length cap ra ma rl rc ml mc) := (HB0.out.up hb); clear hb HB0 HCk))
  go_ret2
  exact ⟨rfl, HB1.out.b⟩
set_option maxHeartbeats 4000000 in
theorem rnew_great (ao : Option Addr) (cap : Nat) (ps : List Bk) (ra ma : Option Addr) (rc mc : Nat) (rs ms : List Int) (w : World) (h : PAt w ao ps) (hc : ckP ps = 0) (hg : 32 < rs.length ∨ 256 < ms.length) :
    Calls Tryd.prog 9 #[.agg #[.slice ao ps.length cap], .agg #[.slice ra rs.length rc, .slice ma ms.length mc]] w fun e w' => e = .returned (.tuple #[.pointer none, .int .i64 2]) ∧ Below w.heap.size w w' := by
  have HCk : Hid (∀ W, Below w.heap.size w W → Calls Tryd.prog 24 #[.agg #[.slice ao ps.length cap]] W fun e w' => e = .returned (.int .i64 0) ∧ Below W.heap.size W w') := fun W hb => by
    have := refCheckP_any ao cap ps W (h.below hb)
    rw [hc] at this; exact this
  have HFi : Hid (∀ (W : World) (q : Nat), Calls Tryd.prog 25 #[.agg #[.slice ra rs.length rc, .slice ma ms.length mc], .pointer (some ⟨q, 1, none⟩), .pointer (some ⟨q, 33, none⟩)] W fun e w' => e = .returned (.bool false) ∧ Below W.heap.size W w') := fun W q => rfill_no ra ma rc mc rs ms W q hg
  have HB0 : Hid (Bx w ((w.alloc (.cells #[.slice ao ps.length cap] 24)).alloc (.cells #[.slice ra rs.length rc, .slice ma ms.length mc] 27)) ao ps.length cap ra ma rs.length rc ms.length mc) := by
    obtain ⟨a1, a2, hb, -, -⟩ := two_new w #[.slice ao ps.length cap] #[.slice ra rs.length rc, .slice ma ms.length mc] 24 27 (Below.refl _ _)
    exact ⟨a1, a2, hb⟩
  clear h hc hg
  generalize rs.length = rl at *
  generalize ms.length = ml at *
  go_enter Tryd.func9, Tryd.ntmps9
  go_upto_region 4 with (first | (go_at_call 24; refine Calls.mono (HCk.out _ (by go_grown)) ?_; rintro e w1 ⟨rfl, hb⟩; have HB1 : Hid (Bx w w1 ao ps.length cap ra ma rl rc ml mc) := (HB0.out.up hb); have p0 := HB1.out.p.c 0 _ rfl; have s0 := HB1.out.s.c 0 _ rfl; have s1 := HB1.out.s.c 1 _ rfl; have pl := HB1.out.p.lt; have sl := HB1.out.s.lt; clear hb HB0 HCk))
  rename_i K6 hK6
  apply wp_region_lit
  refine wpList_plain rfl (fun K hK => ?_)
  go_simp
  refine hK _ _ ?_
  clear hK K
  refine wpList_buildTo rfl 84 _ rfl (some 14) rfl (dzA ao ps.length cap) (by kernel_rfl) ?_
  refine wpList_boxTo rfl 84 (.tmp 14) rfl (some 15) rfl w1.heap.size rfl (dzA ao ps.length cap) (by kernel_rfl) ?_
  refine wpList_readTo rfl (some 7) rfl (ptr w1.heap.size) (by kernel_rfl) ?_
  refine wpList_nil ?_
  refine hK6 _ _ ?_
  clear hK6 K6
  have HX : Hid (Bx w (w1.alloc (.cells (dzA ao ps.length cap) 84)) ao ps.length cap ra ma rl rc ml mc ∧ DAt (w1.alloc (.cells (dzA ao ps.length cap) 84)) w1.heap.size (dG ao ps.length cap none 0 (initM [] []) (0, false, 0)) ∧ w.heap.size ≤ w1.heap.size) := ⟨HB1.out.up ((Below.refl _ _).alloc (Nat.le_refl _) _), dzA_at _ _ _ _, HB1.out.b.size⟩
  clear HB1 p0 s0 s1 pl sl
  generalize dzA ao ps.length cap = mzz at *
  generalize w1.alloc (.cells mzz 84) = X at *
  generalize w1.heap.size = q at *
  simp only [Act.put, List.setIfInBounds_toArray, List.set_cons_zero, List.set_cons_succ]
  have s0 := HX.out.1.s.c 0 _ rfl
  have s1 := HX.out.1.s.c 1 _ rfl
  have sl := HX.out.1.s.lt
  have ql := HX.out.2.1.lt
  have HXd : Hid (Below w.heap.size w X.drew ∧ DAt X.drew q (dG ao ps.length cap none 0 (initM [] []) (0, false, 0))) := ⟨(HX.out.1.up (drew_up X)).b, HX.out.2.1.up (drew_up X)⟩
  go_wp2_with fail
  go_region_with (first | (go_at_call 25; refine Calls.mono (HFi.out _ q) ?_; rintro e w6 ⟨rfl, h6⟩; have H6 : Hid (Below X.drew.heap.size X.drew w6) := h6; clear h6 HFi))
  all_goals
    clear s0 s1
    go_wp2_with fail
    go_ret2
    exact ⟨rfl, HXd.out.1.trans (H6.out.mono HXd.out.1.size)⟩
end Go.Proofs.YtlnfhbkkodhmaaaDoor.Sm

namespace Go.Proofs.YtlnfhbkkodhmaaaDoor.Sm
open Go.ChangeShapes Go.WideShapes Go.ChangeAt Go.RowKit
open _root_.Go.Proofs.YtlnfhbkkodhmaaaDoor.Op _root_.Go.Proofs.YtlnfhbkkodhmaaaDoor.So
set_option maxRecDepth 20000

set_option maxHeartbeats 2000000 in
theorem dealt_no (ao ra ma : Option Addr) (cap rl rc ml mc : Nat) (ps : List Bk) (a b : Int) (w : World) (h : PAt w ao ps) (he : Env w) (hn : ¬ ckP ps = 0 ∨ 32 < rl ∨ 256 < ml) :
    Calls Tryd.prog 6 #[.agg #[.slice ao ps.length cap], .agg #[.slice ra rl rc, .slice ma ml mc], .int .i64 a, .int .i64 b] w fun e w' => e = .returned (.bool true) ∧ Below w.heap.size w w' := by
  obtain ⟨er, her, hN⟩ := new_no ao ra ma cap rl rc ml mc ps w h he hn
  have her2 : ¬ er = 0 := by simpa using her
  have her3 : (er != 0) = true := by simpa using her2
  have HN : Hid _ := hN
  have HN2 : Hid _ := hN
  have HW : Hid (∀ W, Below w.heap.size w W → Calls Tryd.prog 10 #[] W fun e w' => e = .returned (.bool true) ∧ Below W.heap.size W w') := fun W hb => wakes_any W (he.up hb)
  have HSa : Hid (∀ W, Calls Tryd.prog 13 #[.int .i64 a] W fun e w' => e = .returned (.int .i64 (stN a)) ∧ w' = W) := fun W => steps_any a W
  have HSb : Hid (∀ W, Calls Tryd.prog 13 #[.int .i64 b] W fun e w' => e = .returned (.int .i64 (stN b)) ∧ w' = W) := fun W => steps_any b W
  clear h he hn hN
  generalize stN a = sa at *
  generalize stN b = sb at *
  go_enter Tryd.func6, Tryd.ntmps6
  go_wp2_with (first
    | (go_at_call 13; refine Calls.mono (HSa.out _) ?_; rintro e _ ⟨rfl, rfl⟩; clear HSa)
    | (go_at_call 13; refine Calls.mono (HSb.out _) ?_; rintro e _ ⟨rfl, rfl⟩; clear HSb)
    | (go_at_call 8; refine Calls.mono (HN.out _ (by go_grown)) ?_; rintro e w1 ⟨rfl, hb⟩; obtain ⟨t1, t2, hb0, -, -⟩ := two_new w _ _ _ _ hb; have HB : Hid (Below w.heap.size w w1) := hb0; have c0 := t1.c 0 _ rfl; have d0 := t2.c 0 _ rfl; have d1 := t2.c 1 _ rfl; have z1 := t1.lt; have z2 := t2.lt; clear hb hb0 HN t1 t2)
    | (go_at_call 8; refine Calls.mono (HN2.out _ HB.out) ?_; rintro e w2 ⟨rfl, hb⟩; have HB2 : Hid (Below w.heap.size w w2) := HB.out.trans (hb.mono HB.out.size); clear hb HN2)
    | (go_at_call 10; refine Calls.mono (HW.out _ HB2.out) ?_; rintro e w3 ⟨rfl, hb⟩; have HB3 : Hid (Below w.heap.size w w3) := HB2.out.trans (hb.mono HB2.out.size); clear hb HW))
  go_ret
  exact ⟨rfl, HB3.out⟩
/-- What a run leaves, told in letters. -/
def RunPost' (w : World) (q : Nat) (ps : List Bk) (T : Nat → Prop) (M' : Ma) (E V : Int) (P K : Nat) (S : Int) (e : Ending) (w' : World) : Prop := ∃ a m c d T', e = .returned (.agg #[.int .i64 E, .int .i64 V, .slice a P c, .slice m K d, .int .i64 S]) ∧ Own w w' a M'.pr ∧ Own w w' m (outMem M') ∧ MM w' q ps T' M' ∧ Tn w T w' T'
theorem run_post' {w : World} {q : Nat} {ps : List Bk} {T : Nat → Prop} {M' : Ma} {e : Ending} {w' : World} (h : RunPost w q ps T M' e w') : RunPost' w q ps T M' M'.e (if M'.e = 0 then M'.v else 0) M'.pr.length (outMem M').length (M'.s : Int) e w' := by
  obtain ⟨a, m, c, d, T', rfl, h1, h2, h3, h4⟩ := h
  refine ⟨a, m, c, d, T', ?_, h1, h2, h3, h4⟩
  have : (outMem M').length = if M'.e = 0 then 256 else 0 := by
    unfold outMem
    split
    · exact memL_len M'
    · rfl
  rw [this]
  rfl
theorem stN_le (n : Int) : stN n ≤ 5000 := by unfold stN; split <;> omega
theorem tlen_le (ps : List Bk) (k : Nat) (M : Ma) (h : M.s = 0) : ((runM ps k M).s : Int) = ((trailM ps k M).length : Int) := by rw [trail_len, h]; omega
/-- Two outcomes and two states in memory, alike. -/
structure Al4 (W : World) (a1 m1 a2 m2 r1 g1 r2 g2 : Option Addr) (M : Ma) : Prop where
  a1 : NL W a1 M.pr
  m1 : NL W m1 (outMem M)
  a2 : NL W a2 M.pr
  m2 : NL W m2 (outMem M)
  r1 : NL W r1 (regL M)
  g1 : NL W g1 (memL M)
  r2 : NL W r2 (regL M)
  g2 : NL W g2 (memL M)
theorem Al4.up {W W' : World} {a1 m1 a2 m2 r1 g1 r2 g2 : Option Addr} {M : Ma} (h : Al4 W a1 m1 a2 m2 r1 g1 r2 g2 M) (g : Below W.heap.size W W') : Al4 W' a1 m1 a2 m2 r1 g1 r2 g2 M :=
  ⟨h.a1.up g, h.m1.up g, h.a2.up g, h.m2.up g, h.r1.up g, h.g1.up g, h.r2.up g, h.g2.up g⟩
/-- All that is kept aside. -/
structure Zs (w W : World) (ao : Option Addr) (n cap : Nat) (ra ma : Option Addr) (rl rc ml mc b13 b15 : Nat) (x1 x2 s1 s2 : Array Value) (a1 m1 a2 m2 r1 g1 r2 g2 : Option Addr) (M : Ma) : Prop where
  bx : Bx w W ao n cap ra ma rl rc ml mc
  p1 : Op.At W b13 x1
  p2 : Op.At W (b13 + 1) x2
  p3 : Op.At W b15 s1
  p4 : Op.At W (b15 + 1) s2
  al : Al4 W a1 m1 a2 m2 r1 g1 r2 g2 M
theorem Zs.up {w W W' : World} {ao : Option Addr} {n cap : Nat} {ra ma : Option Addr} {rl rc ml mc b13 b15 : Nat} {x1 x2 s1 s2 : Array Value} {a1 m1 a2 m2 r1 g1 r2 g2 : Option Addr} {M : Ma} (h : Zs w W ao n cap ra ma rl rc ml mc b13 b15 x1 x2 s1 s2 a1 m1 a2 m2 r1 g1 r2 g2 M) (g : Below W.heap.size W W') : Zs w W' ao n cap ra ma rl rc ml mc b13 b15 x1 x2 s1 s2 a1 m1 a2 m2 r1 g1 r2 g2 M :=
  ⟨h.bx.up g, h.p1.below g h.p1.lt, h.p2.below g h.p2.lt, h.p3.below g h.p3.lt, h.p4.below g h.p4.lt, h.al.up g⟩
theorem nok_up {w w' : World} {q : Nat} (h : NoK w q) (hq : q < w.heap.size) (g : Below w.heap.size w w') : NoK w' q := fun j i e => h j i (by rw [(bcell g).1 _ _ hq] at e; exact e)
theorem two_up (w : World) (o o' : Obj) : Below w.heap.size w ((w.alloc o).alloc o') := ((Below.refl _ _).alloc (Nat.le_refl _) _).alloc (by simp) _
set_option maxHeartbeats 4000000 in
theorem dealt_main (ao ra ma : Option Addr) (cap rc mc : Nat) (ps : List Bk) (rs ms : List Int) (a b : Int) (w : World) (h : PAt w ao ps) (he : Env w) (hc : ckP ps = 0) (hs : Sn w ra ma rs ms) (h32 : rs.length ≤ 32) (h256 : ms.length ≤ 256) (hr : ∀ x ∈ rs, In64 x) (hm : ∀ x ∈ ms, In64 x) :
    Calls Tryd.prog 6 #[.agg #[.slice ao ps.length cap], .agg #[.slice ra rs.length rc, .slice ma ms.length mc], .int .i64 a, .int .i64 b] w fun e w' => e = .returned (.bool true) ∧ Below w.heap.size w w' := by
  obtain ⟨na, hna⟩ : ∃ na : Nat, max (stN a) 0 = na := ⟨(max (stN a) 0).toNat, by omega⟩
  obtain ⟨nb, hnb⟩ : ∃ nb : Nat, max (stN b) 0 = nb := ⟨(max (stN b) 0).toNat, by omega⟩
  have hla : na ≤ 5000 := by have := stN_le a; omega
  have hlb : nb ≤ 5000 := by have := stN_le b; omega
  have HN : Hid (∀ W, Below w.heap.size w W → Calls Tryd.prog 8 #[.agg #[.slice ao ps.length cap], .agg #[.slice ra rs.length rc, .slice ma ms.length mc]] W (NewPost' W ps rs ms)) := fun W hb => new_ok' ao ra ma cap rc mc ps rs ms W (h.below hb) (he.up hb) hc (hs.up hb) h32 h256 hr hm
  have HN2 : Hid (∀ W, Below w.heap.size w W → Calls Tryd.prog 8 #[.agg #[.slice ao ps.length cap], .agg #[.slice ra rs.length rc, .slice ma ms.length mc]] W (NewPost' W ps rs ms)) := HN.out
  have HTl : Hid (∀ W, Below w.heap.size w W → Calls Tryd.prog 18 #[.agg #[.slice ao ps.length cap], .agg #[.slice ra rs.length rc, .slice ma ms.length mc], .int .i64 ((na : Int) + nb)] W (TrailPost W (trailM ps (na + nb) (initM rs ms)))) := fun W hb => by
    have := trail_any ao ra ma cap rc mc ps rs ms ((na : Int) + nb) W (h.below hb) (he.up hb) hc (hs.up hb) h32 h256 hr hm
    rw [show (min (max ((na : Int) + nb) 0) 65536).toNat = na + nb by omega] at this
    exact this
  have HW : Hid (∀ W, Below w.heap.size w W → Calls Tryd.prog 10 #[] W fun e w' => e = .returned (.bool true) ∧ Below W.heap.size W w') := fun W hb => wakes_any W (he.up hb)
  have HSa : Hid (∀ W, Calls Tryd.prog 13 #[.int .i64 a] W fun e w' => e = .returned (.int .i64 (stN a)) ∧ w' = W) := fun W => steps_any a W
  have HSb : Hid (∀ W, Calls Tryd.prog 13 #[.int .i64 b] W fun e w' => e = .returned (.int .i64 (stN b)) ∧ w' = W) := fun W => steps_any b W
  have hM0s : (initM rs ms).s = 0 := rfl
  have HM0s : Hid ((initM rs ms).s = 0) := hM0s
  have HInv0 : Hid (Inv ps (initM rs ms) ∧ PsM ps) := ⟨inv_init (psM_of (psOk_of h) hc) hr hm, psM_of (psOk_of h) hc⟩
  clear h he hc hs h32 h256 hr hm hM0s
  generalize rs.length = rl at *
  generalize ms.length = ml at *
  generalize stN a = sa at *
  generalize stN b = sb at *
  generalize hM0 : initM rs ms = M0 at *
  have HR1 : Hid (∀ W q T, MM W q ps T M0 → Calls Tryd.prog 12 #[ptr q, .int .i64 (na : Int)] W (RunPost W q ps T (runM ps na M0))) := fun W q T hm => by
    have := run_any (na : Int) hm (by rw [HM0s.out]; omega)
    rw [show (min (max (na : Int) 0) 1048576).toNat = na by omega] at this
    exact this
  have HR2 : Hid (∀ W q T, MM W q ps T (runM ps na M0) → Calls Tryd.prog 12 #[ptr q, .int .i64 (nb : Int)] W (RunPost W q ps T (runM ps (na + nb) M0))) := fun W q T hm => by
    have := run_any (nb : Int) hm (by have h1 := trail_len ps na M0; have h2 := trail_le ps na M0; rw [HM0s.out] at h1; omega)
    rw [show (min (max (nb : Int) 0) 1048576).toNat = nb by omega, run_add] at this
    exact this
  have HR3 : Hid (∀ W q T, MM W q ps T M0 → Calls Tryd.prog 12 #[ptr q, .int .i64 ((na : Int) + nb)] W (RunPost W q ps T (runM ps (na + nb) M0))) := fun W q T hm => by
    have := run_any ((na : Int) + nb) hm (by rw [HM0s.out]; omega)
    rw [show (min (max ((na : Int) + nb) 0) 1048576).toNat = na + nb by omega] at this
    exact this
  have HLn : Hid (((runM ps (na + nb) M0).s : Int) = ((trailM ps (na + nb) M0).length : Int)) := tlen_le _ _ _ HM0s.out
  have HPr : Hid ((runM ps (na + nb) M0).pr.length ≤ 1000000000000 ∧ (outMem (runM ps (na + nb) M0)).length ≤ 1000000000000) := by
    have h1 := (inv_run HInv0.out.2 (na + nb) HInv0.out.1).p
    have h2 := trail_len ps (na + nb) M0
    have h3 := trail_le ps (na + nb) M0
    have h4 := HM0s.out
    have h5 : (outMem (runM ps (na + nb) M0)).length ≤ 256 := by
      unfold outMem
      split
      · rw [memL_len]; omega
      · simp
    exact ⟨by omega, by omega⟩
  clear HInv0
  generalize hMa : runM ps na M0 = Ma1 at *
  clear hMa
  generalize hM2 : runM ps (na + nb) M0 = M2 at *
  clear hM2
  have HR2' : Hid (∀ W q T, MM W q ps T Ma1 → Calls Tryd.prog 12 #[ptr q, .int .i64 (nb : Int)] W (RunPost' W q ps T M2 M2.e (if M2.e = 0 then M2.v else 0) M2.pr.length (outMem M2).length (M2.s : Int))) := fun W q T hm => (HR2.out W q T hm).mono fun e w' h => run_post' h
  have HR3' : Hid (∀ W q T, MM W q ps T M0 → Calls Tryd.prog 12 #[ptr q, .int .i64 ((na : Int) + nb)] W (RunPost' W q ps T M2 M2.e (if M2.e = 0 then M2.v else 0) M2.pr.length (outMem M2).length (M2.s : Int))) := fun W q T hm => (HR3.out W q T hm).mono fun e w' h => run_post' h
  clear HR2 HR3
  have HLk : Hid (∀ (W : World) (a1 m1 a2 m2 : Option Addr) (c1 d1 c2 d2 : Nat), NL W a1 M2.pr → NL W m1 (outMem M2) → NL W a2 M2.pr → NL W m2 (outMem M2) → Calls Tryd.prog 11 #[.agg #[.int .i64 M2.e, .int .i64 (if M2.e = 0 then M2.v else 0), .slice a1 M2.pr.length c1, .slice m1 (outMem M2).length d1, .int .i64 (M2.s : Int)], .agg #[.int .i64 M2.e, .int .i64 (if M2.e = 0 then M2.v else 0), .slice a2 M2.pr.length c2, .slice m2 (outMem M2).length d2, .int .i64 (M2.s : Int)]] W fun e w' => e = .returned (.bool true) ∧ Below W.heap.size W w') := fun W a1 m1 a2 m2 c1 d1 c2 d2 k1 k2 k3 k4 => like_same _ _ _ a1 a2 m1 m2 c1 d1 c2 d2 _ _ W k1 k3 k2 k4 HPr.out.1 HPr.out.2
  have HNr : Hid (∀ (W : World) (r1 r2 : Option Addr) (c1 c2 : Nat), NL W r1 (regL M2) → NL W r2 (regL M2) → Calls Tryd.prog 17 #[.slice r1 32 c1, .slice r2 32 c2] W fun e w' => e = .returned (.bool true) ∧ Below W.heap.size W w') := fun W r1 r2 c1 c2 k1 k2 => by
    have := nums_same r1 r2 c1 c2 (regL M2) W k1 k2 (by rw [regL_len]; omega)
    rw [regL_len] at this; exact this
  have HNm : Hid (∀ (W : World) (r1 r2 : Option Addr) (c1 c2 : Nat), NL W r1 (memL M2) → NL W r2 (memL M2) → Calls Tryd.prog 17 #[.slice r1 256 c1, .slice r2 256 c2] W fun e w' => e = .returned (.bool true) ∧ Below W.heap.size W w') := fun W r1 r2 c1 c2 k1 k2 => by
    have := nums_same r1 r2 c1 c2 (memL M2) W k1 k2 (by rw [memL_len]; omega)
    rw [memL_len] at this; exact this
  clear HPr
  rw [HLn.out] at HR2' HR3' HLk
  clear HLn
  generalize trailM ps (na + nb) M0 = tr at *
  generalize hE : M2.e = E at *
  clear hE
  generalize hV : (if E = 0 then M2.v else 0) = V at *
  clear hV
  generalize hP : M2.pr.length = P at *
  clear hP
  generalize hK : (outMem M2).length = K at *
  clear hK
  have hz2 : ((w.alloc (.cells #[.slice ao ps.length cap] 24)).alloc (.cells #[.slice ra rl rc, .slice ma ml mc] 27)).heap.size = w.heap.size + 2 := by simp
  have HZ2 : Hid _ := hz2
  clear hz2
  have hia : (na : Int) ≤ 5000 := by omega
  have hib : (nb : Int) ≤ 5000 := by omega
  have hia0 : (0 : Int) ≤ na := by omega
  have hib0 : (0 : Int) ≤ nb := by omega
  go_enter Tryd.func6, Tryd.ntmps6
  go_wp2_with (first
    | (go_at_call 13; refine Calls.mono (HSa.out _) ?_; rintro e _ ⟨rfl, rfl⟩; clear HSa)
    | (go_at_call 13; refine Calls.mono (HSb.out _) ?_; rintro e _ ⟨rfl, rfl⟩; clear HSb)
    | (go_at_call 8; refine Calls.mono (HN.out _ (by go_grown)) ?_; rintro e w1 ⟨q1, rfl, hm1, hb1, hq1, hk1⟩; rw [hM0] at hm1; rw [HZ2.out] at hq1; obtain ⟨t1, t2, hb0, -, -⟩ := two_new w _ _ _ _ hb1; have HA : Hid (MM w1 q1 ps (One q1) M0 ∧ Bx w w1 ao ps.length cap ra ma rl rc ml mc ∧ w.heap.size + 2 ≤ q1 ∧ NoK w1 q1) := ⟨hm1, ⟨t1, t2, hb0⟩, hq1, hk1⟩; have c0 := t1.c 0 _ rfl; have d0 := t2.c 0 _ rfl; have d1 := t2.c 1 _ rfl; have z1 := t1.lt; have z2 := t2.lt; clear hb1 hb0 HN t1 t2 hm1 hq1 hk1 HZ2)
    | (go_at_call 8; refine Calls.mono (HN2.out _ HA.out.2.1.b) ?_; rintro e w2 ⟨q2, rfl, hm2, hb2, hq2, -⟩; rw [hM0] at hm2; have HD : Hid (Dl w w2 ao ps.length cap ra ma rl rc ml mc q1 q2 w2.heap.size ps (One q1) M0 M0) := ⟨HA.out.2.1.up hb2, HA.out.1.up hb2, (hm2.widen (Nat.lt_of_lt_of_le (HA.out.1.mr.tl q1 rfl) hb2.size) (nok_up HA.out.2.2.2 (HA.out.1.mr.tl q1 rfl) hb2)), (fun k e => .inl e), ⟨HA.out.2.2.1, Nat.lt_of_lt_of_le (HA.out.1.mr.tl q1 rfl) hq2, hm2.mr.tl q2 rfl, Nat.le_refl _⟩⟩; clear hb2 hm2 hq2 HN2 c0 d0 d1 z1 z2)
    | (go_at_call 12; refine Calls.mono (HR1.out _ _ _ HD.out.m) ?_; rintro e w3 ⟨a3, m3, c3, d3, T3, rfl, -, -, hm3, ht3⟩; have HD3 : Hid (Dl w w3 ao ps.length cap ra ma rl rc ml mc q1 q2 w2.heap.size ps T3 Ma1 M0) := HD.out.go hm3 ht3; clear hm3 ht3 HR1 HD)
    | (go_at_call 12; refine Calls.mono (HR2'.out _ _ _ HD3.out.m) ?_; rintro e w4 ⟨a4, m4, c4, d4, T4, rfl, o1, o2, hm4, ht4⟩; have HD4 : Hid (Dl w w4 ao ps.length cap ra ma rl rc ml mc q1 q2 w2.heap.size ps T4 M2 M0 ∧ Own w3 w4 a4 M2.pr ∧ Own w3 w4 m4 (outMem M2) ∧ w2.heap.size ≤ w3.heap.size) := ⟨HD3.out.go hm4 ht4, o1, o2, HD3.out.q.2.2.2⟩; clear hm4 ht4 HR2' HD3 o1 o2)
    | (go_at_call 12; refine Calls.mono (HR3'.out _ _ _ HD4.out.1.n') ?_; rintro e w5 ⟨a5, m5, c5, d5, T5, rfl, o3, o4, hm5, ht5⟩; have hq2z := HD4.out.1.q.2.2.1; have HD5 : Hid (Dm w w5 ao ps.length cap ra ma rl rc ml mc q1 q2 ps T4 T5 M2 ∧ (NL w5 a4 M2.pr ∧ NL w5 m4 (outMem M2)) ∧ NL w5 a5 M2.pr ∧ NL w5 m5 (outMem M2)) := ⟨HD4.out.1.go2 hm5 ht5, ⟨HD4.out.2.1.off ht5.f (fun k hk e => (by have e : k = q2 := e; have h9 := HD4.out.2.2.2; omega)), HD4.out.2.2.1.off ht5.f (fun k hk e => (by have e : k = q2 := e; have h9 := HD4.out.2.2.2; omega))⟩, o3.nl, o4.nl⟩; clear hm5 ht5 HR3' HD4 o3 o4 hq2z)
    | (go_at_call 15; refine Calls.mono (state_any (HD5.out.1.up (two_up _ _ _)).m.mr) ?_; rintro e w6 ⟨r6, c6, g6, d6, rfl, o5, o6, hb6⟩; have HD6 : Hid ((Dm w w6 ao ps.length cap ra ma rl rc ml mc q1 q2 ps T4 T5 M2 ∧ (NL w6 a4 M2.pr ∧ NL w6 m4 (outMem M2)) ∧ NL w6 a5 M2.pr ∧ NL w6 m5 (outMem M2)) ∧ (NL w6 r6 (regL M2) ∧ NL w6 g6 (memL M2)) ∧ Op.At w6 w5.heap.size #[.int .i64 E, .int .i64 V, .slice a4 P c4, .slice m4 K d4, .int .i64 (tr.length : Int)] ∧ Op.At w6 (w5.heap.size + 1) #[.int .i64 E, .int .i64 V, .slice a5 P c5, .slice m5 K d5, .int .i64 (tr.length : Int)]) := (by obtain ⟨e1, e2, e3, -, -⟩ := two_new w5 #[.int .i64 E, .int .i64 V, .slice a4 P c4, .slice m4 K d4, .int .i64 (tr.length : Int)] #[.int .i64 E, .int .i64 V, .slice a5 P c5, .slice m5 K d5, .int .i64 (tr.length : Int)] 39 39 hb6; exact ⟨⟨HD5.out.1.up e3, ⟨HD5.out.2.1.1.up e3, HD5.out.2.1.2.up e3⟩, HD5.out.2.2.1.up e3, HD5.out.2.2.2.up e3⟩, ⟨o5.nl, o6.nl⟩, e1, e2⟩); clear o5 o6 hb6 HD5)
    | (go_at_call 15; refine Calls.mono (state_any HD6.out.1.1.n.mr) ?_; rintro e w7 ⟨r7, c7, g7, d7, rfl, o5, o6, hb7⟩; have HZ : Hid (Zs w ((w7.alloc (.cells #[.slice r6 32 c6, .slice g6 256 d6] 27)).alloc (.cells #[.slice r7 32 c7, .slice g7 256 d7] 27)) ao ps.length cap ra ma rl rc ml mc w5.heap.size w7.heap.size #[.int .i64 E, .int .i64 V, .slice a4 P c4, .slice m4 K d4, .int .i64 (tr.length : Int)] #[.int .i64 E, .int .i64 V, .slice a5 P c5, .slice m5 K d5, .int .i64 (tr.length : Int)] #[.slice r6 32 c6, .slice g6 256 d6] #[.slice r7 32 c7, .slice g7 256 d7] a4 m4 a5 m5 r6 g6 r7 g7 M2) := (by have e1 := Op.At.new w7 #[.slice r6 32 c6, .slice g6 256 d6] 27; have e2 := at_new' (w7.alloc (.cells #[.slice r6 32 c6, .slice g6 256 d6] 27)) #[.slice r7 32 c7, .slice g7 256 d7] 27 (w7.heap.size + 1) (by simp); have e3 := two_up w7 (.cells #[.slice r6 32 c6, .slice g6 256 d6] 27) (.cells #[.slice r7 32 c7, .slice g7 256 d7] 27); have f := HD6.out; have g3 := hb7.trans (e3.mono hb7.size); exact ⟨f.1.1.bx.up g3, f.2.2.1.below g3 f.2.2.1.lt, f.2.2.2.below g3 f.2.2.2.lt, e1.alloc _, e2, ⟨f.1.2.1.1.up g3, f.1.2.1.2.up g3, f.1.2.2.1.up g3, f.1.2.2.2.up g3, f.2.1.1.up g3, f.2.1.2.up g3, o5.nl.up e3, o6.nl.up e3⟩⟩); clear o5 o6 hb7 HD6; have c0 := HZ.out.bx.p.c 0 _ rfl; have d0 := HZ.out.bx.s.c 0 _ rfl; have d1 := HZ.out.bx.s.c 1 _ rfl; have z1 := HZ.out.bx.p.lt; have z2 := HZ.out.bx.s.lt)
    | (go_at_call 18; refine Calls.mono (HTl.out _ HZ.out.bx.b) ?_; rintro e w8 ⟨a8, c8, rfl, -, hb8⟩; have HZ8 : Hid (Zs w w8 ao ps.length cap ra ma rl rc ml mc w5.heap.size w7.heap.size #[.int .i64 E, .int .i64 V, .slice a4 P c4, .slice m4 K d4, .int .i64 (tr.length : Int)] #[.int .i64 E, .int .i64 V, .slice a5 P c5, .slice m5 K d5, .int .i64 (tr.length : Int)] #[.slice r6 32 c6, .slice g6 256 d6] #[.slice r7 32 c7, .slice g7 256 d7] a4 m4 a5 m5 r6 g6 r7 g7 M2) := HZ.out.up hb8; clear hb8 HTl HZ c0 d0 d1 z1 z2; have x0 := HZ8.out.p1.c 0 _ rfl; have x1 := HZ8.out.p1.c 1 _ rfl; have x2 := HZ8.out.p1.c 2 _ rfl; have x3 := HZ8.out.p1.c 3 _ rfl; have x4 := HZ8.out.p1.c 4 _ rfl; have xl := HZ8.out.p1.lt; have y0 := HZ8.out.p2.c 0 _ rfl; have y1 := HZ8.out.p2.c 1 _ rfl; have y2 := HZ8.out.p2.c 2 _ rfl; have y3 := HZ8.out.p2.c 3 _ rfl; have y4 := HZ8.out.p2.c 4 _ rfl; have yl := HZ8.out.p2.lt)
    | (go_at_call 11; refine Calls.mono (HLk.out _ _ _ _ _ _ _ _ _ HZ8.out.al.a1 HZ8.out.al.m1 HZ8.out.al.a2 HZ8.out.al.m2) ?_; rintro e w9 ⟨rfl, hb9⟩; have HZ9 : Hid (Zs w w9 ao ps.length cap ra ma rl rc ml mc w5.heap.size w7.heap.size #[.int .i64 E, .int .i64 V, .slice a4 P c4, .slice m4 K d4, .int .i64 (tr.length : Int)] #[.int .i64 E, .int .i64 V, .slice a5 P c5, .slice m5 K d5, .int .i64 (tr.length : Int)] #[.slice r6 32 c6, .slice g6 256 d6] #[.slice r7 32 c7, .slice g7 256 d7] a4 m4 a5 m5 r6 g6 r7 g7 M2) := HZ8.out.up hb9; clear hb9 HLk HZ8 x0 x1 x2 x3 x4 xl y0 y1 y2 y3 y4 yl; have x0 := HZ9.out.p3.c 0 _ rfl; have xl := HZ9.out.p3.lt; have y0 := HZ9.out.p4.c 0 _ rfl; have yl := HZ9.out.p4.lt)
    | (go_at_call 17; refine Calls.mono (HNr.out _ _ _ _ _ HZ9.out.al.r1 HZ9.out.al.r2) ?_; rintro e w10 ⟨rfl, hb10⟩; have HZ10 : Hid (Zs w w10 ao ps.length cap ra ma rl rc ml mc w5.heap.size w7.heap.size #[.int .i64 E, .int .i64 V, .slice a4 P c4, .slice m4 K d4, .int .i64 (tr.length : Int)] #[.int .i64 E, .int .i64 V, .slice a5 P c5, .slice m5 K d5, .int .i64 (tr.length : Int)] #[.slice r6 32 c6, .slice g6 256 d6] #[.slice r7 32 c7, .slice g7 256 d7] a4 m4 a5 m5 r6 g6 r7 g7 M2) := HZ9.out.up hb10; clear hb10 HNr HZ9 x0 xl y0 yl; have x0 := HZ10.out.p3.c 1 _ rfl; have xl := HZ10.out.p3.lt; have y0 := HZ10.out.p4.c 1 _ rfl; have yl := HZ10.out.p4.lt)
    | (go_at_call 17; refine Calls.mono (HNm.out _ _ _ _ _ HZ10.out.al.g1 HZ10.out.al.g2) ?_; rintro e w11 ⟨rfl, hb11⟩; have HZ11 : Hid (Zs w w11 ao ps.length cap ra ma rl rc ml mc w5.heap.size w7.heap.size #[.int .i64 E, .int .i64 V, .slice a4 P c4, .slice m4 K d4, .int .i64 (tr.length : Int)] #[.int .i64 E, .int .i64 V, .slice a5 P c5, .slice m5 K d5, .int .i64 (tr.length : Int)] #[.slice r6 32 c6, .slice g6 256 d6] #[.slice r7 32 c7, .slice g7 256 d7] a4 m4 a5 m5 r6 g6 r7 g7 M2) := HZ10.out.up hb11; clear hb11 HNm HZ10 x0 xl y0 yl; have y4 := HZ11.out.p2.c 4 _ rfl; have yl := HZ11.out.p2.lt)
    | (go_at_call 10; refine Calls.mono (HW.out _ HZ11.out.bx.b) ?_; rintro e w12 ⟨rfl, hb12⟩; have HB12 : Hid (Below w.heap.size w w12) := HZ11.out.bx.b.trans (hb12.mono HZ11.out.bx.b.size); clear hb12 HW))
  go_ret
  exact ⟨rfl, HB12.out⟩
theorem law_dealt (ao ra ma : Option Addr) (cap rc mc : Nat) (ps : List Bk) (rs ms : List Int) (a b : Int) (w : World) (h : PAt w ao ps) (he : Env w) (hs : Sn w ra ma rs ms) (hr : ∀ x ∈ rs, In64 x) (hm : ∀ x ∈ ms, In64 x) :
    Calls Tryd.prog 6 #[.agg #[.slice ao ps.length cap], .agg #[.slice ra rs.length rc, .slice ma ms.length mc], .int .i64 a, .int .i64 b] w fun e w' => e = .returned (.bool true) ∧ Below w.heap.size w w' := by
  by_cases hc : ckP ps = 0
  · by_cases h32 : rs.length ≤ 32
    · by_cases h256 : ms.length ≤ 256
      · exact dealt_main ao ra ma cap rc mc ps rs ms a b w h he hc hs h32 h256 hr hm
      · exact dealt_no ao ra ma cap _ rc _ mc ps a b w h he (.inr (.inr (by omega)))
    · exact dealt_no ao ra ma cap _ rc _ mc ps a b w h he (.inr (.inl (by omega)))
  · exact dealt_no ao ra ma cap _ rc _ mc ps a b w h he (.inl hc)
end Go.Proofs.YtlnfhbkkodhmaaaDoor.Sm

namespace Go.Proofs.YtlnfhbkkodhmaaaDoor.Sm
open Go.ChangeShapes Go.WideShapes Go.ChangeAt Go.RowKit
open _root_.Go.Proofs.YtlnfhbkkodhmaaaDoor.Op _root_.Go.Proofs.YtlnfhbkkodhmaaaDoor.So
set_option maxRecDepth 20000

set_option maxHeartbeats 2000000 in
theorem runs_no (ao ra ma da : Option Addr) (cap n rl rc ml mc dl dc : Nat) (w : World) (he : Env w) (er : Int) (her : ¬ er = 0)
    (hN : ∀ W, Below w.heap.size w W → Calls Tryd.prog 8 #[.agg #[.slice ao n cap], .agg #[.slice ra rl rc, .slice ma ml mc]] W fun e w' => e = .returned (.tuple #[.pointer none, .int .i64 er]) ∧ Below W.heap.size W w')
    (hR : ∀ W, Below w.heap.size w W → Calls Tryd.prog 9 #[.agg #[.slice ao n cap], .agg #[.slice ra rl rc, .slice ma ml mc]] W fun e w' => e = .returned (.tuple #[.pointer none, .int .i64 er]) ∧ Below W.heap.size W w') :
    Calls Tryd.prog 3 #[.agg #[.slice ao n cap], .agg #[.slice ra rl rc, .slice ma ml mc], .slice da dl dc] w fun e w' => e = .returned (.bool true) ∧ Below w.heap.size w w' := by
  have her2 : (er == 0) = false := by simpa using her
  have her3 : (er != 0) = true := by simpa using her
  have HN : Hid _ := hN
  have HR : Hid _ := hR
  have HW : Hid (∀ W, Below w.heap.size w W → Calls Tryd.prog 10 #[] W fun e w' => e = .returned (.bool true) ∧ Below W.heap.size W w') := fun W hb => wakes_any W (he.up hb)
  clear he hN hR
  go_enter Tryd.func3, Tryd.ntmps3
  go_wp2_with (first
    | (go_at_call 8; refine Calls.mono (HN.out _ (by go_grown)) ?_; rintro e w1 ⟨rfl, hb⟩; obtain ⟨t1, t2, hb0, -, -⟩ := two_new w _ _ _ _ hb; have HB : Hid (Below w.heap.size w w1) := hb0; have c0 := t1.c 0 _ rfl; have d0 := t2.c 0 _ rfl; have d1 := t2.c 1 _ rfl; have z1 := t1.lt; have z2 := t2.lt; clear hb hb0 HN t1 t2)
    | (go_at_call 9; refine Calls.mono (HR.out _ HB.out) ?_; rintro e w2 ⟨rfl, hb⟩; have HB2 : Hid (Below w.heap.size w w2) := HB.out.trans (hb.mono HB.out.size); clear hb HR)
    | (go_at_call 10; refine Calls.mono (HW.out _ HB2.out) ?_; rintro e w3 ⟨rfl, hb⟩; have HB3 : Hid (Below w.heap.size w w3) := HB2.out.trans (hb.mono HB2.out.size); clear hb HW))
  go_ret
  exact ⟨rfl, HB3.out⟩
end Go.Proofs.YtlnfhbkkodhmaaaDoor.Sm

namespace Go.Proofs.YtlnfhbkkodhmaaaDoor.Sm
open Go.ChangeShapes Go.WideShapes Go.ChangeAt Go.RowKit
open _root_.Go.Proofs.YtlnfhbkkodhmaaaDoor.Op _root_.Go.Proofs.YtlnfhbkkodhmaaaDoor.So
set_option maxRecDepth 20000

theorem deed_no (i : Nat) (k : Int) : deedF i ≠ .int .i8 k := fun e => by
  unfold deedF at e
  (repeat' split at e) <;> cases e
/-- A machine's block holds no kind. -/
theorem MAt.nok {w : World} {q bl bc pc : Nat} {ba po : Option Addr} {M : Ma} (h : MAt w q ba bl bc po pc M) : NoK w q := fun j i e => by
  rcases Nat.lt_or_ge j 337 with hj | hj
  · rcases Nat.lt_or_ge j 1 with h0 | h0
    · obtain rfl : j = 0 := by omega
      rw [h.bk] at e; cases e
    · rcases Nat.lt_or_ge j 37 with h1 | h1
      · obtain ⟨m, rfl⟩ : ∃ m, j = 1 + m := ⟨j - 1, by omega⟩
        rw [h.d m (by omega)] at e
        exact deed_no m i (Option.some.inj e)
      · rcases Nat.lt_or_ge j 41 with h2 | h2
        · obtain ⟨m, rfl⟩ : ∃ m, j = 37 + m := ⟨j - 37, by omega⟩
          rw [h.en m (by omega)] at e; cases e
        · rcases Nat.lt_or_ge j 73 with h3 | h3
          · obtain ⟨m, rfl⟩ : ∃ m, j = 41 + m := ⟨j - 41, by omega⟩
            rw [h.r m (by omega)] at e; cases e
          · rcases Nat.lt_or_ge j 329 with h4 | h4
            · obtain ⟨m, rfl⟩ : ∃ m, j = 73 + m := ⟨j - 73, by omega⟩
              rw [h.m m (by omega)] at e; cases e
            · have : j = 329 ∨ j = 330 ∨ j = 331 ∨ j = 332 ∨ j = 333 ∨ j = 334 ∨ j = 335 ∨ j = 336 := by omega
              rcases this with rfl | rfl | rfl | rfl | rfl | rfl | rfl | rfl
              · rw [h.b] at e; cases e
              · rw [h.y] at e; cases e
              · rw [h.o] at e; cases e
              · rw [h.n] at e; cases e
              · rw [h.e] at e; cases e
              · rw [h.v] at e; cases e
              · rw [h.p] at e; cases e
              · rw [h.s] at e; cases e
  · rw [h.hi j hj] at e; cases e
theorem DM.shrink {w : World} {q : Nat} {ps : List Bk} {T : Nat → Prop} {M : Ma} {L : Tg} (h : DM w q ps T M L) : DM w q ps (fun k => T k ∧ q ≤ k) M L := by
  obtain ⟨ba, bc, po, pc, h1, h2, h3, h4⟩ := h.dr.ex
  refine ⟨⟨⟨ba, bc, po, pc, h1, h2.grow fun k _ hk => hk.elim (fun h => .inr h.2) .inr, h3, fun a e => ⟨h4 a e, ?_⟩⟩, ⟨h.dr.tq, Nat.le_refl _⟩, fun k hk => h.dr.tl k hk.1⟩, h.inv, h.ps, h.eo⟩
  have := (own_block h3 e).1
  omega
theorem vz_run {ps : List Bk} : ∀ (k : Nat) {M : Ma}, VZ M → VZ (runM ps k M)
  | 0, M, h => vz_zero h
  | k + 1, M, h => by
    unfold runM
    split
    · rename_i he
      split
      · rcases h with e | e
        · omega
        · exact .inr e
      · exact vz_run k (vz_step he h)
    · exact h
/-- What a run of the document's machine leaves, told in letters. -/
def RRun' (w : World) (q : Nat) (ps : List Bk) (T : Nat → Prop) (M' : Ma) (E V : Int) (P K : Nat) (S : Int) (e : Ending) (w' : World) : Prop := ∃ a m c d T' L', e = .returned (.agg #[.int .i64 E, .int .i64 V, .slice a P c, .slice m K d, .int .i64 S]) ∧ Own w w' a M'.pr ∧ Own w w' m (outMem M') ∧ DM w' q ps T' M' L' ∧ Tn w T w' T'
theorem rrun_post' {w : World} {q : Nat} {ps : List Bk} {T : Nat → Prop} {M' : Ma} {e : Ending} {w' : World} (h : RRun w q ps T M' e w') : RRun' w q ps T M' M'.e (if M'.e = 0 then M'.v else 0) M'.pr.length (outMem M').length (M'.s : Int) e w' := by
  obtain ⟨a, m, c, d, T', L', rfl, h1, h2, h3, h4⟩ := h
  refine ⟨a, m, c, d, T', L', ?_, h1, h2, h3, h4⟩
  have : (outMem M').length = if M'.e = 0 then 256 else 0 := by
    unfold outMem
    split
    · exact memL_len M'
    · rfl
  rw [this]
  rfl
/-- Both machines, side by side: M1 the program's, M2 the document's; what the latter may turn lies ahead of Z. -/
structure Sr (w W : World) (Z q1 q2 : Nat) (ps : List Bk) (M1 M2 : Ma) : Prop where
  b : Below w.heap.size w W
  q : w.heap.size ≤ q1 ∧ q1 < q2
  ex : ∃ T1 T2 L, MM W q1 ps T1 M1 ∧ DM W q2 ps T2 M2 L ∧ (∀ k, T1 k → k = q1 ∨ q2 ≤ k) ∧ (∀ k, T2 k → q2 ≤ k ∧ k < Z) ∧ ∀ k, T1 k → ¬ T2 k
theorem Sr.up {w W W' : World} {Z q1 q2 : Nat} {ps : List Bk} {M1 M2 : Ma} (h : Sr w W Z q1 q2 ps M1 M2) (g : Below W.heap.size W W') : Sr w W' Z q1 q2 ps M1 M2 := by
  obtain ⟨T1, T2, L, h1, h2, h3⟩ := h.ex
  exact ⟨h.b.trans (g.mono h.b.size), h.q, T1, T2, L, h1.up g, h2.up g, h3⟩
/-- The program's machine runs. -/
theorem Sr.run1 {w W : World} {Z q1 q2 : Nat} {ps : List Bk} {M1 M2 M1' : Ma} {E V S : Int} {P K : Nat} {f : FuncId} {args : Array Value} (h : Sr w W Z q1 q2 ps M1 M2) (hR : ∀ T, MM W q1 ps T M1 → Calls Tryd.prog f args W (RunPost' W q1 ps T M1' E V P K S)) :
    Calls Tryd.prog f args W fun e w' => ∃ a m c d, e = .returned (.agg #[.int .i64 E, .int .i64 V, .slice a P c, .slice m K d, .int .i64 S]) ∧ Own W w' a M1'.pr ∧ Own W w' m (outMem M1') ∧ Sr w w' W.heap.size q1 q2 ps M1' M2 := by
  obtain ⟨T1, T2, L, h1, h2, h3, h4, h5⟩ := h.ex
  refine (hR T1 h1).mono ?_
  rintro e w' ⟨a, m, c, d, T', rfl, o1, o2, hm, ht⟩
  obtain ⟨hq0, hq1⟩ := h.q
  obtain ⟨ba, bc, po, pc, hM, -⟩ := h1.mr.ex
  have hd := ((h2.widen (h1.mr.tl q1 h1.mr.tq) hM.nok).aside ht.f (fun k hk hq hT => by
    rcases hk with hk | rfl
    · exact h5 k hT hk
    · omega) (fun k _ hT => by
    rcases h3 k hT with e | e
    · exact .inl (.inr e)
    · exact .inr e)).shrink
  refine ⟨a, m, c, d, rfl, o1, o2, ⟨h.b.trans (ht.f.below h.b.size fun k hk hT => ?_), h.q, T', _, L, hm, hd, fun k hk => ?_, fun k hk => ⟨hk.2, ?_⟩, fun k hk hT => ?_⟩⟩
  · rcases h3 k hT with e | e <;> omega
  · rcases ht.t k hk with e | e
    · exact h3 k e
    · exact .inr (by have := h2.dr.tl q2 h2.dr.tq; omega)
  · rcases hk.1 with e | e
    · exact h2.dr.tl k e
    · have := hk.2; omega
  · rcases hT.1 with e | e
    · rcases ht.t k hk with e' | e'
      · exact h5 k e' e
      · have := h2.dr.tl k e; omega
    · have := hT.2; omega
/-- The document's machine runs; lists that were made behind stay. -/
theorem Sr.run2 {w W0 W : World} {Z q1 q2 : Nat} {ps : List Bk} {M1 M2 M2' : Ma} {E V S : Int} {P K : Nat} {f : FuncId} {args : Array Value} {a0 m0 : Option Addr} {l0 k0 : List Int} (h : Sr w W Z q1 q2 ps M1 M2) (o1 : Own W0 W a0 l0) (o2 : Own W0 W m0 k0) (hZ : Z ≤ W0.heap.size) (hR : ∀ T L, DM W q2 ps T M2 L → Calls Tryd.prog f args W (RRun' W q2 ps T M2' E V P K S)) :
    Calls Tryd.prog f args W fun e w' => ∃ a m c d, e = .returned (.agg #[.int .i64 E, .int .i64 V, .slice a P c, .slice m K d, .int .i64 S]) ∧ NL w' a0 l0 ∧ NL w' m0 k0 ∧ NL w' a M2'.pr ∧ NL w' m (outMem M2') ∧ Sr w w' w'.heap.size q1 q2 ps M1 M2' := by
  obtain ⟨T1, T2, L, h1, h2, h3, h4, h5⟩ := h.ex
  refine (hR T2 L h2).mono ?_
  rintro e w' ⟨a, m, c, d, T', L', rfl, p1, p2, hm, ht⟩
  obtain ⟨hq0, hq1⟩ := h.q
  have hp := h1.aside ht.f (fun k hk _ hT => h5 k hk hT) (fun k _ hT => .inr (by have := (h4 k hT).1; omega))
  refine ⟨a, m, c, d, rfl, o1.off ht.f fun k hk hT => ?_, o2.off ht.f fun k hk hT => ?_, p1.nl, p2.nl, ⟨h.b.trans (ht.f.below h.b.size fun k hk hT => ?_), h.q, T1, T', L', hp, hm, h3, fun k hk => ⟨?_, hm.dr.tl k hk⟩, fun k hk hT => ?_⟩⟩
  · have := (h4 k hT).2; omega
  · have := (h4 k hT).2; omega
  · have := (h4 k hT).1; omega
  · rcases ht.t k hk with e | e
    · exact (h4 k e).1
    · have := h2.dr.tl q2 h2.dr.tq; omega
  · rcases ht.t k hT with e | e
    · exact h5 k hk e
    · have := h1.mr.tl k hk; omega
theorem Sr.st1 {w W : World} {Z q1 q2 : Nat} {ps : List Bk} {M1 M2 : Ma} (h : Sr w W Z q1 q2 ps M1 M2) : Calls Tryd.prog 15 #[ptr q1] W fun e w' => ∃ a c b d, e = .returned (.agg #[.slice a 32 c, .slice b 256 d]) ∧ NL w' a (regL M1) ∧ NL w' b (memL M1) ∧ Below W.heap.size W w' := by
  obtain ⟨T1, T2, L, h1, -⟩ := h.ex
  refine (state_any h1.mr).mono ?_
  rintro e w' ⟨a, c, b, d, rfl, o1, o2, hb⟩
  exact ⟨a, c, b, d, rfl, o1.nl, o2.nl, hb⟩
theorem Sr.st2 {w W : World} {Z q1 q2 : Nat} {ps : List Bk} {M1 M2 : Ma} (h : Sr w W Z q1 q2 ps M1 M2) : Calls Tryd.prog 16 #[ptr q2] W fun e w' => ∃ a c b d, e = .returned (.agg #[.slice a 32 c, .slice b 256 d]) ∧ NL w' a (regL M2) ∧ NL w' b (memL M2) ∧ Below W.heap.size W w' := by
  obtain ⟨T1, T2, L, -, h2, -⟩ := h.ex
  obtain ⟨ba, bc, po, pc, hD, -⟩ := h2.dr.ex
  refine (rstate_any hD).mono ?_
  rintro e w' ⟨a, c, b, d, rfl, o1, o2, hb⟩
  exact ⟨a, c, b, d, rfl, o1.nl, o2.nl, hb⟩
theorem Sr.inv {w W : World} {Z q1 q2 : Nat} {ps : List Bk} {M1 M2 : Ma} (h : Sr w W Z q1 q2 ps M1 M2) : Inv ps M1 ∧ PsM ps := by
  obtain ⟨T1, T2, L, h1, -⟩ := h.ex
  exact ⟨h1.inv, h1.ps⟩
set_option maxHeartbeats 8000000 in
theorem runs_main (ao ra ma da : Option Addr) (cap rc mc dc : Nat) (ps : List Bk) (rs ms ds : List Int) (w : World) (h : PAt w ao ps) (he : Env w) (hc : ckP ps = 0) (hs : Sn w ra ma rs ms) (h32 : rs.length ≤ 32) (h256 : ms.length ≤ 256) (hr : ∀ x ∈ rs, In64 x) (hm : ∀ x ∈ ms, In64 x) (hd : NL w da ds) :
    Calls Tryd.prog 3 #[.agg #[.slice ao ps.length cap], .agg #[.slice ra rs.length rc, .slice ma ms.length mc], .slice da ds.length dc] w fun e w' => e = .returned (.bool true) ∧ Below w.heap.size w w' := by
  have hP := psM_of (psOk_of h) hc
  have HN : Hid (∀ W, Below w.heap.size w W → Calls Tryd.prog 8 #[.agg #[.slice ao ps.length cap], .agg #[.slice ra rs.length rc, .slice ma ms.length mc]] W (NewPost' W ps rs ms)) := fun W hb => new_ok' ao ra ma cap rc mc ps rs ms W (h.below hb) (he.up hb) hc (hs.up hb) h32 h256 hr hm
  have HN2 : Hid (∀ W, Below w.heap.size w W → Calls Tryd.prog 9 #[.agg #[.slice ao ps.length cap], .agg #[.slice ra rs.length rc, .slice ma ms.length mc]] W (RNew W ps rs ms)) := fun W hb => rnew_ok ao cap ps ra ma rc mc rs ms W (h.below hb) hc hP (hs.up hb).r (hs.up hb).m h32 h256 hr hm
  have HW : Hid (∀ W, Below w.heap.size w W → Calls Tryd.prog 10 #[] W fun e w' => e = .returned (.bool true) ∧ Below W.heap.size W w') := fun W hb => wakes_any W (he.up hb)
  have HSa : Hid (∀ a W, Calls Tryd.prog 13 #[.int .i64 a] W fun e w' => e = .returned (.int .i64 (stN a)) ∧ w' = W) := fun a W => steps_any a W
  have HD : Hid (NL w da ds) := hd
  have HV0 : Hid (VZ (initM rs ms) ∧ (initM rs ms).s = 0) := ⟨.inr rfl, rfl⟩
  clear h he hc hs h32 h256 hr hm hP hd
  generalize rs.length = rl at *
  generalize ms.length = ml at *
  generalize hM0 : initM rs ms = M0 at *
  have hz2 : ((w.alloc (.cells #[.slice ao ps.length cap] 24)).alloc (.cells #[.slice ra rl rc, .slice ma ml mc] 27)).heap.size = w.heap.size + 2 := by simp
  have HZ2 : Hid _ := hz2
  clear hz2
  go_enter Tryd.func3, Tryd.ntmps3
  go_wp2_with (first
    | (go_at_call 8; refine Calls.mono (HN.out _ (by go_grown)) ?_; rintro e w1 ⟨q1, rfl, hm1, hb1, hq1, -⟩; rw [hM0] at hm1; rw [HZ2.out] at hq1; obtain ⟨t1, t2, hb0, -, -⟩ := two_new w _ _ _ _ hb1; have HA : Hid (MM w1 q1 ps (One q1) M0 ∧ Below w.heap.size w w1 ∧ w.heap.size + 2 ≤ q1) := ⟨hm1, hb0, hq1⟩; have c0 := t1.c 0 _ rfl; have d0 := t2.c 0 _ rfl; have d1 := t2.c 1 _ rfl; have z1 := t1.lt; have z2 := t2.lt; clear hb1 hb0 HN t1 t2 hm1 hq1 HZ2)
    | (go_at_call 9; refine Calls.mono (HN2.out _ HA.out.2.1) ?_; rintro e w2 ⟨q2, rfl, hq2, hm2, hb2⟩; rw [hM0] at hm2; have HS : Hid (Sr w w2 w2.heap.size q1 q2 ps M0 M0) := (by have h1 := HA.out.1; have h2 := h1.mr.tl q1 rfl; have h3 := HA.out.2.2; exact ⟨HA.out.2.1.trans (hb2.mono HA.out.2.1.size), ⟨by omega, by omega⟩, One q1, One q2, (0, false, 0), h1.up hb2, hm2, (fun k e => .inl e), (fun k e => ⟨Nat.le_of_eq (show q2 = k from (show k = q2 from e).symm), hm2.dr.tl k e⟩), (fun k e e' => by have e : k = q1 := e; have e' : k = q2 := e'; omega)⟩); clear hb2 hm2 hq2 HN2 c0 d0 d1 z1 z2 HA))
  go_loopw [42] (fun i wr => ∃ (k : Nat) (M : Ma) (Z : Nat), k ≤ ds.length ∧ k ≤ 8 ∧ i = .int .i64 k ∧ Sr w wr Z q1 q2 ps M M ∧ VZ M ∧ M.s ≤ 5000 * k) (fun i _ => ds.length - (intOf i).toNat)
  case atStart => exact ⟨0, M0, _, by omega, by omega, rfl, HS.out, HV0.out.1, by rw [HV0.out.2]; omega⟩
  case round =>
    rename World => wr
    obtain ⟨k, M, Z, hk, hk8, rfl, hsr, hvz, hms⟩ := hrel
    have HSr : Hid (Sr w wr Z q1 q2 ps M M) := hsr
    have HVz : Hid (VZ M ∧ M.s ≤ 5000 * k) := ⟨hvz, hms⟩
    clear hsr hvz hms HS HV0
    by_cases hlt : k < ds.length
    · have k0 : (0 : Int) ≤ (k : Int) := by omega
      have k1 : (k : Int) < (ds.length : Int) := by omega
      obtain ⟨db, df, rfl, pz, px⟩ := (HD.out.up HSr.out.b).is (by omega)
      have p0 := px k hlt
      clear px
      generalize ds[k] = n at *
      by_cases h8 : 8 ≤ k
      · have h8i : (8 : Int) ≤ (k : Int) := by omega
        go_wp2_with (first | (go_at_call 10; refine Calls.mono (HW.out _ HSr.out.b) ?_; rintro e w9 ⟨rfl, hb⟩; have HB9 : Hid (Below w.heap.size w w9) := HSr.out.b.trans (hb.mono HSr.out.b.size); clear hb HW))
        go_ret
        exact ⟨rfl, HB9.out⟩
      · have h8i : ¬ (8 : Int) ≤ (k : Int) := by omega
        have hsl := stN_le n
        obtain ⟨N, hN⟩ : ∃ N : Nat, (min (max (stN n) 0) 1048576).toNat = N := ⟨_, rfl⟩
        have hN5 : N ≤ 5000 := by omega
        have HSn : Hid (∀ W, Calls Tryd.prog 13 #[.int .i64 n] W fun e w' => e = .returned (.int .i64 (stN n)) ∧ w' = W) := HSa.out n
        have HR1 : Hid (∀ W T, MM W q1 ps T M → Calls Tryd.prog 12 #[ptr q1, .int .i64 (stN n)] W (RunPost' W q1 ps T (runM ps N M) (runM ps N M).e (if (runM ps N M).e = 0 then (runM ps N M).v else 0) (runM ps N M).pr.length (outMem (runM ps N M)).length ((runM ps N M).s : Int))) := fun W T hm => by
          have := run_any (stN n) hm (by rw [hN]; have := HVz.out.2; omega)
          rw [hN] at this
          exact this.mono fun e w' h => run_post' h
        have HR2 : Hid (∀ W T L, DM W q2 ps T M L → Calls Tryd.prog 14 #[ptr q2, .int .i64 (stN n)] W (RRun' W q2 ps T (runM ps N M) (runM ps N M).e (if (runM ps N M).e = 0 then (runM ps N M).v else 0) (runM ps N M).pr.length (outMem (runM ps N M)).length ((runM ps N M).s : Int))) := fun W T L hm => by
          have := rrun_any (stN n) hm HVz.out.1 (by rw [hN]; have := HVz.out.2; omega)
          rw [hN] at this
          exact this.mono fun e w' h => rrun_post' h
        have HV2 : Hid (VZ (runM ps N M) ∧ (runM ps N M).s ≤ 5000 * (k + 1)) := ⟨vz_run N HVz.out.1, by have h1 := trail_len ps N M; have h2 := trail_le ps N M; have h3 := HVz.out.2; omega⟩
        have HPr : Hid ((runM ps N M).pr.length ≤ 1000000000000 ∧ (outMem (runM ps N M)).length ≤ 1000000000000) := by
          have h1 := (inv_run HSr.out.inv.2 N HSr.out.inv.1).p
          have h2 := HV2.out.2
          have h5 : (outMem (runM ps N M)).length ≤ 256 := by
            unfold outMem
            split
            · rw [memL_len]; omega
            · simp
          exact ⟨by omega, by omega⟩
        generalize stN n = sn at *
        generalize runM ps N M = M2 at *
        have HLk : Hid (∀ (W : World) (a1 m1 a2 m2 : Option Addr) (c1 d1 c2 d2 : Nat), NL W a1 M2.pr → NL W m1 (outMem M2) → NL W a2 M2.pr → NL W m2 (outMem M2) → Calls Tryd.prog 11 #[.agg #[.int .i64 M2.e, .int .i64 (if M2.e = 0 then M2.v else 0), .slice a1 M2.pr.length c1, .slice m1 (outMem M2).length d1, .int .i64 (M2.s : Int)], .agg #[.int .i64 M2.e, .int .i64 (if M2.e = 0 then M2.v else 0), .slice a2 M2.pr.length c2, .slice m2 (outMem M2).length d2, .int .i64 (M2.s : Int)]] W fun e w' => e = .returned (.bool true) ∧ Below W.heap.size W w') := fun W a1 m1 a2 m2 c1 d1 c2 d2 k1 k2 k3 k4 => like_same _ _ _ a1 a2 m1 m2 c1 d1 c2 d2 _ _ W k1 k3 k2 k4 HPr.out.1 HPr.out.2
        have HNr : Hid (∀ (W : World) (r1 r2 : Option Addr) (c1 c2 : Nat), NL W r1 (regL M2) → NL W r2 (regL M2) → Calls Tryd.prog 17 #[.slice r1 32 c1, .slice r2 32 c2] W fun e w' => e = .returned (.bool true) ∧ Below W.heap.size W w') := fun W r1 r2 c1 c2 k1 k2 => by
          have := nums_same r1 r2 c1 c2 (regL M2) W k1 k2 (by rw [regL_len]; omega)
          rw [regL_len] at this; exact this
        have HNm : Hid (∀ (W : World) (r1 r2 : Option Addr) (c1 c2 : Nat), NL W r1 (memL M2) → NL W r2 (memL M2) → Calls Tryd.prog 17 #[.slice r1 256 c1, .slice r2 256 c2] W fun e w' => e = .returned (.bool true) ∧ Below W.heap.size W w') := fun W r1 r2 c1 c2 k1 k2 => by
          have := nums_same r1 r2 c1 c2 (memL M2) W k1 k2 (by rw [memL_len]; omega)
          rw [memL_len] at this; exact this
        clear HPr hN hN5 hsl HSa
        have HSt : Hid ((M2.s : Int) = (M2.s : Int)) := rfl
        generalize hE : M2.e = E at *
        clear hE
        generalize hV : (if E = 0 then M2.v else 0) = V at *
        clear hV
        generalize hPP : M2.pr.length = P at *
        clear hPP
        generalize hK : (outMem M2).length = K at *
        clear hK
        go_wp2_with (first
          | (go_at_call 13; refine Calls.mono (HSn.out _) ?_; rintro e _ ⟨rfl, rfl⟩)
          | (go_at_call 12; refine Calls.mono (HSr.out.run1 fun T hm => HR1.out _ T hm) ?_; rintro e w3 ⟨a3, m3, c3, d3, rfl, o1, o2, hs3⟩; have HS3 : Hid (Sr w w3 _ q1 q2 ps M2 M ∧ Own _ w3 a3 M2.pr ∧ Own _ w3 m3 (outMem M2)) := ⟨hs3, o1, o2⟩; clear o1 o2 hs3 HR1)
          | (go_at_call 14; refine Calls.mono (HS3.out.1.run2 HS3.out.2.1 HS3.out.2.2 (Nat.le_refl _) fun T L hm => HR2.out _ T L hm) ?_; rintro e w4 ⟨a4, m4, c4, d4, rfl, n1, n2, n3, n4, hs4⟩; have HS4 : Hid (Sr w w4 w4.heap.size q1 q2 ps M2 M2 ∧ NL w4 a3 M2.pr ∧ NL w4 m3 (outMem M2) ∧ NL w4 a4 M2.pr ∧ NL w4 m4 (outMem M2)) := ⟨hs4, n1, n2, n3, n4⟩; clear n1 n2 n3 n4 hs4 HR2 HS3)
          | (go_at_call 11; refine Calls.mono (HLk.out _ _ _ _ _ _ _ _ _ HS4.out.2.1 HS4.out.2.2.1 HS4.out.2.2.2.1 HS4.out.2.2.2.2) ?_; rintro e w5 ⟨rfl, hb⟩; have HS5 : Hid (Sr w w5 w4.heap.size q1 q2 ps M2 M2) := HS4.out.1.up hb; clear hb HLk HS4)
          | (go_at_call 15; refine Calls.mono HS5.out.st1 ?_; rintro e w6 ⟨r6, c6, g6, d6, rfl, n1, n2, hb⟩; have HS6 : Hid (Sr w w6 w4.heap.size q1 q2 ps M2 M2 ∧ NL w6 r6 (regL M2) ∧ NL w6 g6 (memL M2)) := ⟨HS5.out.up hb, n1, n2⟩; clear n1 n2 hb HS5)
          | (go_at_call 16; refine Calls.mono HS6.out.1.st2 ?_; rintro e w7 ⟨r7, c7, g7, d7, rfl, n1, n2, hb⟩; have HS7 : Hid (Sr w w7 w4.heap.size q1 q2 ps M2 M2 ∧ NL w7 r6 (regL M2) ∧ NL w7 g6 (memL M2) ∧ NL w7 r7 (regL M2) ∧ NL w7 g7 (memL M2)) := ⟨HS6.out.1.up hb, HS6.out.2.1.up hb, HS6.out.2.2.up hb, n1, n2⟩; clear n1 n2 hb HS6)
          | (go_at_call 17; refine Calls.mono (HNr.out _ _ _ _ _ (HS7.out.2.1.up (two_up _ _ _)) (HS7.out.2.2.2.1.up (two_up _ _ _))) ?_; rintro e w8 ⟨rfl, hb⟩; obtain ⟨t1, t2, hb0, -, -⟩ := two_new w7 _ _ _ _ hb; have HS8 : Hid (Sr w w8 w4.heap.size q1 q2 ps M2 M2 ∧ NL w8 g6 (memL M2) ∧ NL w8 g7 (memL M2)) := ⟨HS7.out.1.up hb0, HS7.out.2.2.1.up hb0, HS7.out.2.2.2.2.up hb0⟩; have x1 := t1.c 1 _ rfl; have xl := t1.lt; have y1 := t2.c 1 _ rfl; have yl := t2.lt; clear t1 t2 hb hb0 HS7 HNr)
          | (go_at_call 17; refine Calls.mono (HNm.out _ _ _ _ _ HS8.out.2.1 HS8.out.2.2) ?_; rintro e w9 ⟨rfl, hb⟩; have HS9 : Hid (Sr w w9 w4.heap.size q1 q2 ps M2 M2) := HS8.out.1.up hb; clear hb HS8 HNm x1 y1 xl yl))
        go_roundw
        case rel => exact ⟨k + 1, M2, _, by omega, by omega, by go_num, HS9.out, HV2.out.1, HV2.out.2⟩
        case measure => simp [intOf]; omega
    · have k1 : ¬ (k : Int) < (ds.length : Int) := by omega
      go_wp2_with (first | (go_at_call 10; refine Calls.mono (HW.out _ HSr.out.b) ?_; rintro e w9 ⟨rfl, hb⟩; have HB9 : Hid (Below w.heap.size w w9) := HSr.out.b.trans (hb.mono HSr.out.b.size); clear hb HW))
      go_ret
      exact ⟨rfl, HB9.out⟩
theorem law_runs (ao ra ma da : Option Addr) (cap rc mc dc : Nat) (ps : List Bk) (rs ms ds : List Int) (w : World) (h : PAt w ao ps) (he : Env w) (hs : Sn w ra ma rs ms) (hr : ∀ x ∈ rs, In64 x) (hm : ∀ x ∈ ms, In64 x) (hd : NL w da ds) :
    Calls Tryd.prog 3 #[.agg #[.slice ao ps.length cap], .agg #[.slice ra rs.length rc, .slice ma ms.length mc], .slice da ds.length dc] w fun e w' => e = .returned (.bool true) ∧ Below w.heap.size w w' := by
  by_cases hc : ckP ps = 0
  · by_cases hg : 32 < rs.length ∨ 256 < ms.length
    · exact runs_no ao ra ma da cap _ _ rc _ mc _ dc w he 2 (by decide) (fun W hb => new_great ao ra ma cap _ rc _ mc ps W (h.below hb) (he.up hb) hc hg) (fun W hb => rnew_great ao cap ps ra ma rc mc rs ms W (h.below hb) hc hg)
    · exact runs_main ao ra ma da cap rc mc dc ps rs ms ds w h he hc hs (by omega) (by omega) hr hm hd
  · exact runs_no ao ra ma da cap _ _ rc _ mc _ dc w he (ckP ps) hc (fun W hb => new_bad ao ra ma cap _ rc _ mc ps W (h.below hb) (he.up hb) hc) (fun W hb => rnew_bad ao cap ps _ ra ma _ rc _ mc rfl W (h.below hb) hc)
end Go.Proofs.YtlnfhbkkodhmaaaDoor.Sm

namespace Go.Proofs.YtlnfhbkkodhmaaaDoor.Op
open Go.ChangeShapes Go.WideShapes Go.ChangeAt Go.RowKit
set_option maxRecDepth 20000

theorem opsAt_nil (w : World) (ao : Option Addr) : OpsAt w ao [] := ⟨by simp, by simp, fun h => by simp at h⟩
theorem pAt_none (w : World) (ao : Option Addr) : PAt w ao [] := ⟨by simp, fun h => by simp at h⟩
theorem reach_eq : reachBytes = 140737488351232 := rfl
theorem addr_add (b f : Nat) (n : Nat) : (⟨b, f, none⟩ : Addr).add n = ⟨b, f + n, none⟩ := by
  unfold Addr.add
  split
  · rename_i h; subst h; rfl
  · rfl
/-- Cells in a row, told by block and offset. -/
theorem cells_at {w : World} {b f n : Nat} {cs : List Value} (h : w.cells? 0 ⟨b, f, none⟩ n = some cs) (hn : 0 < n) : b < w.heap.size ∧ ∀ i v, cs[i]? = some v → w.cell? ⟨b, f + i, none⟩ = some v := by
  obtain ⟨_, hl, hc⟩ := World.cells?_some h
  refine ⟨World.cells?_block h hn, fun i v e => ?_⟩
  have hi : i < n := by
    rcases Nat.lt_or_ge i n with h | h
    · exact h
    · rw [List.getElem?_eq_none (by omega)] at e; cases e
  have := hc i hi
  rw [addr_add, e] at this
  exact this
theorem spot_none {w : World} {a : Addr} {n : Nat} {cs : List Value} (h : w.cells? 0 a n = some cs) (hn : 0 < n) : a = ⟨a.block, a.off, none⟩ := by
  obtain ⟨_, hl, hc⟩ := World.cells?_some h
  have h0 := hc 0 hn
  have ha : a.add 0 = a := by unfold Addr.add; simp
  rw [ha, List.getElem?_eq_getElem (by omega)] at h0
  obtain ⟨b, f, s⟩ := a
  cases s with
  | none => rfl
  | some s =>
    unfold World.cell? at h0
    split at h0
    · simp at h0
    · cases h0
instance : Inhabited O := ⟨⟨0, 0, 0, 0, 0⟩⟩
instance : Inhabited Bk := ⟨⟨[], 0, 0, [], 0, 0⟩⟩

theorem weightsAll_mem {H : Type} {P : Program} {e : TypeId} {d : DataW H} {n : Nat} : ∀ {l : List (DataW H)}, d ∈ l → n ∈ d.weights P e → n ∈ DataW.weightsAll P e l
  | x :: r, hd, hn => by
    unfold DataW.weightsAll
    rcases List.mem_cons.1 hd with rfl | hd
    · exact List.mem_append_left _ hn
    · exact List.mem_append_right _ (weightsAll_mem hd hn)

/-- One operation, out of its cells. -/
theorem open_o {H : Type} {enc : TypeId × Value → H} {W : World} {base fuel : Nat} {sp : Nat → Bool} {held : Bool} {cs : List Value} {y : DataW H × List MemPlace} (h : DataW.trod enc Tryd.prog W base sp held fuel 60 cs = some y) : ∃ o : O, o.Ok ∧ cs = [.int .i8 o.op, .int .u8 o.d, .int .u8 o.a, .int .u8 o.b, .int .i64 o.im] := by
  have k49 : Tryd.prog.cellsOf 60 = 5 := by kernel_rfl
  have k38 : Tryd.prog.cellsOf 55 = 1 := by kernel_rfl
  have k5 : Tryd.prog.cellsOf 5 = 1 := by kernel_rfl
  have k2 : Tryd.prog.cellsOf 2 = 1 := by kernel_rfl
  obtain ⟨y0, y1, y2, y3, y4, n, hx, hl, h0, h1, h2, h3, h4⟩ := trod_struct5 Tryd.underlying60 h
  rw [k49] at hl
  match cs, hl with
  | [c0, c1, c2, c3, c4], _ =>
    rw [k38] at h0
    rw [k5] at h1 h2 h3
    rw [k2] at h4
    obtain ⟨a, a1, a2, a3⟩ := DataW.trod_int Tryd.underlying55 h0
    obtain ⟨b, b1, b2, b3⟩ := DataW.trod_int Tryd.underlying5 h1
    obtain ⟨c, c1', c2', c3'⟩ := DataW.trod_int Tryd.underlying5 h2
    obtain ⟨e, e1, e2, e3⟩ := DataW.trod_int Tryd.underlying5 h3
    obtain ⟨g, g1, g2, g3⟩ := DataW.trod_int Tryd.underlying2 h4
    have a1' : [c0] = [Value.int .i8 a] := a1
    have b1' : [c1] = [Value.int .u8 b] := b1
    have c1'' : [c2] = [Value.int .u8 c] := c1'
    have e1' : [c3] = [Value.int .u8 e] := e1
    have g1' : [c4] = [Value.int .i64 g] := g1
    obtain rfl : c0 = .int .i8 a := by simpa using a1'
    obtain rfl : c1 = .int .u8 b := by simpa using b1'
    obtain rfl : c2 = .int .u8 c := by simpa using c1''
    obtain rfl : c3 = .int .u8 e := by simpa using e1'
    obtain rfl : c4 = .int .i64 g := by simpa using g1'
    have w0 := wf8 a3
    have w1 := wfu8 b3
    have w2 := wfu8 c3'
    have w3 := wfu8 e3
    have w4 := wf64 g3
    exact ⟨⟨a, b, c, e, g⟩, ⟨w0.1, w0.2, w1.1, w1.2, w2.1, w2.2, w3.1, w3.2, w4.1, w4.2⟩, rfl⟩

/-- A list of operations, out of its cell. -/
theorem open_list {H : Type} {enc : TypeId × Value → H} {W : World} {fuel : Nat} {held : Bool} {cs : List Value} {y : DataW H × List MemPlace} (h : DataW.trod enc Tryd.prog W 0 (fun _ => true) held fuel 54 cs = some y) (hw : ∀ n, n ∈ y.1.weights Tryd.prog 54 → n ≤ reachBytes) :
    ∃ (ao : Option Addr) (cap : Nat) (xs : List O), cs = [.slice ao xs.length cap] ∧ OpsAt W ao xs ∧ xs.length ≤ cap := by
  have k49 : Tryd.prog.cellsOf 60 = 5 := by kernel_rfl
  have b49 : Tryd.prog.bytesOf 60 = 16 := by kernel_rfl
  rcases Deep.open_slice Tryd.underlying54 h with ⟨rfl, rfl⟩ | ⟨a, len, cap, m, n, D, Pl, rfl, _, hlc, _, hm, rfl, hx⟩
  · exact ⟨none, 0, [], rfl, opsAt_nil _ _, by simp⟩
  · have hmc : m = cap := by simpa using hm
    subst hmc
    have hcap : m * 16 ≤ reachBytes := by
      refine hw _ ?_
      unfold DataW.weights
      simp only [Tryd.underlying54, b49]
      refine List.mem_cons.2 (.inl ?_)
      simp; omega
    rw [reach_eq] at hcap
    rw [k49] at hx
    obtain ⟨X, hX⟩ := Deep.choose_lt (α := O) (n := len) (p := fun i o => o.Ok ∧ W.cells? 0 (a.add (i * 5)) 5 = some [.int .i8 o.op, .int .u8 o.d, .int .u8 o.a, .int .u8 o.b, .int .i64 o.im]) (fun i hi => by
      obtain ⟨cs', h1, h2⟩ := hx i (by omega)
      obtain ⟨o, ho, rfl⟩ := open_o h2
      exact ⟨o, ho, h1⟩)
    refine ⟨some a, m, (List.range len).map X, by simp, ⟨fun o ho => ?_, by simp; omega, fun h0 => ?_⟩, by simp; omega⟩
    · obtain ⟨i, hi, rfl⟩ := List.mem_map.1 ho
      exact (hX i (List.mem_range.1 hi)).1
    · have h0' : 0 < len := by simpa using h0
      have ha : a = ⟨a.block, a.off, none⟩ := by
        have := (hX 0 h0').2
        rw [show a.add (0 * 5) = a by unfold Addr.add; simp] at this
        exact spot_none this (by omega)
      refine ⟨a.block, a.off, by rw [← ha], ?_, fun i hi => ?_⟩
      · have := (hX 0 h0').2
        rw [ha, addr_add] at this
        exact (cells_at this (by omega)).1
      · have hi' : i < len := by simpa using hi
        have := (hX i hi').2
        rw [ha, addr_add] at this
        have hc := (cells_at this (by omega)).2
        simp only [List.getElem_map, List.getElem_range]
        exact ⟨hc 0 _ rfl, hc 1 _ rfl, hc 2 _ rfl, hc 3 _ rfl, hc 4 _ rfl⟩

theorem trod_struct6 {H : Type} {enc : TypeId × Value → H} {P : Program} {w : World} {base : Nat} {spare : Nat → Bool} {held : Bool} {t : TypeId} {f0 f1 f2 f3 f4 f5 : Field} {fuel : Nat} {cs : List Value} {x : DataW H × List MemPlace} (ht : P.underlying t = some (.struct #[f0, f1, f2, f3, f4, f5])) (h : DataW.trod enc P w base spare held fuel t cs = some x) :
    ∃ y0 y1 y2 y3 y4 y5 n, x.1 = .agg [y0.1, y1.1, y2.1, y3.1, y4.1, y5.1] ∧ cs.length = P.cellsOf t ∧ DataW.trod enc P w base spare held n f0.type ((cs.drop f0.offset).take (P.cellsOf f0.type)) = some y0 ∧
      DataW.trod enc P w base spare held n f1.type ((cs.drop f1.offset).take (P.cellsOf f1.type)) = some y1 ∧ DataW.trod enc P w base spare held n f2.type ((cs.drop f2.offset).take (P.cellsOf f2.type)) = some y2 ∧
      DataW.trod enc P w base spare held n f3.type ((cs.drop f3.offset).take (P.cellsOf f3.type)) = some y3 ∧ DataW.trod enc P w base spare held n f4.type ((cs.drop f4.offset).take (P.cellsOf f4.type)) = some y4 ∧ DataW.trod enc P w base spare held n f5.type ((cs.drop f5.offset).take (P.cellsOf f5.type)) = some y5 := by
  obtain ⟨xs, n, _, rfl, hl, hlen, hf⟩ := DataW.trod_struct ht h
  match xs, hlen with
  | [y0, y1, y2, y3, y4, y5], _ => exact ⟨y0, y1, y2, y3, y4, y5, n, by simp, hl, by simpa using hf 0 f0 rfl, by simpa using hf 1 f1 rfl, by simpa using hf 2 f2 rfl, by simpa using hf 3 f3 rfl, by simpa using hf 4 f4 rfl, by simpa using hf 5 f5 rfl⟩

/-- One block, out of its cells. -/
theorem open_b {H : Type} {enc : TypeId × Value → H} {W : World} {fuel : Nat} {held : Bool} {cs : List Value} {y : DataW H × List MemPlace} (h : DataW.trod enc Tryd.prog W 0 (fun _ => true) held fuel 57 cs = some y) (hw : ∀ n, n ∈ y.1.weights Tryd.prog 57 → n ≤ reachBytes) :
    ∃ (x : Bk) (p : Pl), BIn W x p ∧ cs = (x.cells p).toList := by
  have k40 : Tryd.prog.cellsOf 57 = 6 := by kernel_rfl
  have k37 : Tryd.prog.cellsOf 54 = 1 := by kernel_rfl
  have k38 : Tryd.prog.cellsOf 55 = 1 := by kernel_rfl
  have k5 : Tryd.prog.cellsOf 5 = 1 := by kernel_rfl
  have k3 : Tryd.prog.cellsOf 3 = 1 := by kernel_rfl
  obtain ⟨y0, y1, y2, y3, y4, y5, n, hx, hl, h0, h1, h2, h3, h4, h5⟩ := trod_struct6 Tryd.underlying57 h
  rw [k40] at hl
  have hw' : ∀ n, n ∈ DataW.weightsEach Tryd.prog [54, 55, 5, 54, 3, 3] [y0.1, y1.1, y2.1, y3.1, y4.1, y5.1] → n ≤ reachBytes := fun n hn => by
    refine hw n ?_
    rw [hx]
    unfold DataW.weights
    simp only [Tryd.underlying57]
    exact hn
  match cs, hl with
  | [c0, c1, c2, c3, c4, c5], _ =>
    rw [k37] at h0 h3
    rw [k38] at h1
    rw [k5] at h2
    rw [k3] at h4 h5
    obtain ⟨oa, oc, os, e0, i0, l0⟩ := open_list h0 fun n hn => hw' n (DataW.weights_mem_each (j := 0) rfl rfl n hn)
    obtain ⟨ba, bc, bs, e3, i3, -⟩ := open_list h3 fun n hn => hw' n (DataW.weights_mem_each (j := 3) rfl rfl n hn)
    obtain ⟨f, f1, _, f3⟩ := DataW.trod_int Tryd.underlying55 h1
    obtain ⟨a, a1, _, a3⟩ := DataW.trod_int Tryd.underlying5 h2
    obtain ⟨u, u1, _, u3⟩ := DataW.trod_int Tryd.underlying3 h4
    obtain ⟨v, v1, _, v3⟩ := DataW.trod_int Tryd.underlying3 h5
    have e0' : [c0] = [Value.slice oa os.length oc] := e0
    have e3' : [c3] = [Value.slice ba bs.length bc] := e3
    have f1' : [c1] = [Value.int .i8 f] := f1
    have a1' : [c2] = [Value.int .u8 a] := a1
    have u1' : [c4] = [Value.int .i64 u] := u1
    have v1' : [c5] = [Value.int .i64 v] := v1
    obtain rfl : c0 = .slice oa os.length oc := by simpa using e0'
    obtain rfl : c3 = .slice ba bs.length bc := by simpa using e3'
    obtain rfl : c1 = .int .i8 f := by simpa using f1'
    obtain rfl : c2 = .int .u8 a := by simpa using a1'
    obtain rfl : c4 = .int .i64 u := by simpa using u1'
    obtain rfl : c5 = .int .i64 v := by simpa using v1'
    have w1 := wf8 f3
    have w2 := wfu8 a3
    have w4 := wf64 u3
    have w5 := wf64 v3
    exact ⟨⟨os, f, a, bs, u, v⟩, ⟨oa, oc, ba, bc⟩, ⟨⟨w1.1, w1.2, w2.1, w2.2, w4.1, w4.2, w5.1, w5.2⟩, i0, i3, l0⟩, rfl⟩

/-- The blocks, out of their cell. -/
theorem open_blocks {H : Type} {enc : TypeId × Value → H} {W : World} {fuel : Nat} {held : Bool} {cs : List Value} {y : DataW H × List MemPlace} (h : DataW.trod enc Tryd.prog W 0 (fun _ => true) held fuel 22 cs = some y) (hw : ∀ n, n ∈ y.1.weights Tryd.prog 22 → n ≤ reachBytes) :
    ∃ (ao : Option Addr) (cap : Nat) (ps : List Bk), cs = [.slice ao ps.length cap] ∧ PAt W ao ps ∧ ps.length ≤ cap ∧ cap ≤ maxLen := by
  have k40 : Tryd.prog.cellsOf 57 = 6 := by kernel_rfl
  have b40 : Tryd.prog.bytesOf 57 = 72 := by kernel_rfl
  rcases Deep.open_slice Tryd.underlying22 h with ⟨rfl, rfl⟩ | ⟨a, len, cap, m, n, D, Pl, rfl, _, hlc, hmx, hm, rfl, hx⟩
  · exact ⟨none, 0, [], rfl, pAt_none _ _, Nat.le_refl _, Nat.zero_le _⟩
  · have hmc : m = cap := by simpa using hm
    subst hmc
    have hall : ∀ n, n ∈ (m * 72) :: (DataW.weightsAll Tryd.prog 57 ((List.range len).map D) ++ DataW.weightsAll Tryd.prog 57 ((List.range (m - len)).map fun j => D (len + j))) → n ≤ reachBytes := fun n hn => by
      refine hw n ?_
      unfold DataW.weights
      simp only [Tryd.underlying22, b40]
      rw [show ((List.range len).map D).length + ((List.range (m - len)).map fun j => D (len + j)).length = m by simp; omega]
      exact hn
    have hcap : m * 72 ≤ reachBytes := hall _ (List.mem_cons_self ..)
    rw [reach_eq] at hcap
    rw [k40] at hx
    obtain ⟨X, hX⟩ := Deep.choose_lt (α := Bk) (n := len) (p := fun i x => ∃ p, BIn W x p ∧ W.cells? 0 (a.add (i * 6)) 6 = some (x.cells p).toList) (fun i hi => by
      obtain ⟨cs', h1, h2⟩ := hx i (by omega)
      obtain ⟨x, p, hb, rfl⟩ := open_b h2 fun n hn => hall n (List.mem_cons_of_mem _ (List.mem_append_left _ (weightsAll_mem (List.mem_map.2 ⟨i, List.mem_range.2 hi, rfl⟩) hn)))
      exact ⟨x, p, hb, h1⟩)
    refine ⟨some a, m, (List.range len).map X, by simp, ⟨by simp; omega, fun h0 => ?_⟩, by simpa using hlc, hmx⟩
    have h0' : 0 < len := by simpa using h0
    have ha : a = ⟨a.block, a.off, none⟩ := by
      obtain ⟨_, _, this⟩ := hX 0 h0'
      rw [show a.add (0 * 6) = a by unfold Addr.add; simp] at this
      exact spot_none this (by omega)
    refine ⟨a.block, a.off, by rw [← ha], ?_, fun i hi => ?_⟩
    · obtain ⟨_, _, this⟩ := hX 0 h0'
      rw [ha, addr_add] at this
      exact (cells_at this (by omega)).1
    · have hi' : i < len := by simpa using hi
      obtain ⟨p, hb, this⟩ := hX i hi'
      rw [ha, addr_add] at this
      have hc := (cells_at this (by omega)).2
      simp only [List.getElem_map, List.getElem_range]
      exact ⟨p, ⟨hc 0 _ rfl, hc 1 _ rfl, hc 2 _ rfl, hc 3 _ rfl, hc 4 _ rfl, hc 5 _ rfl⟩, hb⟩

/-- A program that comes in. -/
theorem open_prog {H : Type} {enc : TypeId × Value → H} {W : World} {r : Reach} {b0 : Nat} {held : Bool} {v : Value} {d : DataW H} {p : List MemPlace} (hv : Value.okWide Tryd.prog W r b0 24 v) (h : DataW.Trod enc Tryd.prog W 0 (fun _ => true) held 24 v d p) (hw : ∀ n, n ∈ d.weights Tryd.prog 24 → n ≤ reachBytes) :
    ∃ (ao : Option Addr) (cap : Nat) (ps : List Bk), v = .agg #[.slice ao ps.length cap] ∧ PAt W ao ps ∧ ps.length ≤ cap ∧ cap ≤ maxLen := by
  obtain ⟨cs, rfl, hsz⟩ := okWide_struct Tryd.underlying24 hv
  have k24 : Tryd.prog.cellsOf 24 = 1 := by kernel_rfl
  have k22 : Tryd.prog.cellsOf 22 = 1 := by kernel_rfl
  rw [k24] at hsz
  obtain ⟨l⟩ := cs
  clear hv
  match l, hsz with
  | [c0], _ =>
    obtain ⟨fuel, hf⟩ := h
    obtain ⟨xs, n, _, hx, _, hlen, hff⟩ := DataW.trod_struct Tryd.underlying24 hf
    match xs, hlen with
    | [y0], _ =>
      have h0 : DataW.trod enc Tryd.prog W 0 (fun _ => true) held n 22 ((([c0] : List Value).drop 0).take (Tryd.prog.cellsOf 22)) = some y0 := hff 0 _ rfl
      rw [k22] at h0
      have hd : d = .agg [y0.1] := by simpa using congrArg Prod.fst hx
      obtain ⟨ao, cap, ps, e, hp, h1, h2⟩ := open_blocks (y := y0) h0 fun n hn => hw n (by
        rw [hd]
        unfold DataW.weights
        simp only [Tryd.underlying24]
        exact DataW.weights_mem_each (ts := [22]) (ds := [y0.1]) (j := 0) rfl rfl n hn)
      have e' : [c0] = [Value.slice ao ps.length cap] := e
      obtain rfl : c0 = .slice ao ps.length cap := by simpa using e'
      exact ⟨ao, cap, ps, rfl, hp, h1, h2⟩
end Go.Proofs.YtlnfhbkkodhmaaaDoor.Op

namespace Go.Proofs.YtlnfhbkkodhmaaaDoor.Sm
open Go.ChangeShapes Go.WideShapes Go.ChangeAt Go.RowKit
open _root_.Go.Proofs.YtlnfhbkkodhmaaaDoor.Op _root_.Go.Proofs.YtlnfhbkkodhmaaaDoor.So
set_option maxRecDepth 20000

theorem cell_spot {w : World} {a : Addr} {v : Value} (h : w.cell? a = some v) : a = ⟨a.block, a.off, none⟩ := by
  obtain ⟨b, f, s⟩ := a
  cases s with
  | none => rfl
  | some s =>
    unfold World.cell? at h
    split at h
    · simp at h
    · cases h
/-- A list of numbers out of a datum. -/
theorem open_nums {H : Type} {enc : TypeId × Value → H} {W : World} {fuel : Nat} {held : Bool} {c : Value} {y : DataW H × List MemPlace} (h : DataW.trod enc Tryd.prog W 0 (fun _ => true) held fuel 25 [c] = some y) :
    ∃ (ao : Option Addr) (cap : Nat) (l : List Int), c = .slice ao l.length cap ∧ NL W ao l ∧ (∀ x ∈ l, In64 x) := by
  rcases open_ints (P := Tryd.prog) Tryd.underlying25 Tryd.underlying2 (by kernel_rfl) h with ⟨e, -⟩ | ⟨a, len, cap, zs, e, -, hl, hc, hz, -, hcell, hwf⟩
  · exact ⟨none, 0, [], by simpa using e, ⟨fun h => by simp at h⟩, fun x hx => by simp at hx⟩
  · have hz : zs.length = cap := by simpa using hz
    refine ⟨some a, cap, zs.take len, by simp at e; rw [e]; congr; simp; omega, ⟨fun h0 => ?_⟩, fun x hx => ?_⟩
    · have hlen : 0 < len := by simp at h0; omega
      have h1 := hcell 0 (by omega)
      rw [show a.add 0 = a by unfold Addr.add; simp] at h1
      have ha := cell_spot h1
      refine ⟨a.block, a.off, by rw [← ha], World.block_lt_of_cell? W a h1, fun i hi => ?_⟩
      have hi' : i < zs.length := by simp at hi; omega
      have h2 := hcell i hi'
      rw [ha, add_at'] at h2
      rw [h2]
      simp [List.getD, List.getElem?_eq_getElem hi']
    · have := wf64 (hwf x (List.mem_of_mem_take hx))
      exact this
theorem open_state {H : Type} {enc : TypeId × Value → H} {W : World} {r : Reach} {b0 : Nat} {held : Bool} {v : Value} {d : DataW H} {p : List MemPlace} (hv : Value.okWide Tryd.prog W r b0 27 v) (h : DataW.Trod enc Tryd.prog W 0 (fun _ => true) held 27 v d p) :
    ∃ (ra ma : Option Addr) (rc mc : Nat) (rs ms : List Int), v = .agg #[.slice ra rs.length rc, .slice ma ms.length mc] ∧ Sn W ra ma rs ms ∧ (∀ x ∈ rs, In64 x) ∧ (∀ x ∈ ms, In64 x) := by
  obtain ⟨cs, rfl, hsz⟩ := okWide_struct Tryd.underlying27 hv
  have k27 : Tryd.prog.cellsOf 27 = 2 := by kernel_rfl
  have k25 : Tryd.prog.cellsOf 25 = 1 := by kernel_rfl
  rw [k27] at hsz
  obtain ⟨l⟩ := cs
  clear hv
  match l, hsz with
  | [c0, c1], _ =>
    obtain ⟨fuel, hf⟩ := h
    obtain ⟨xs, n, _, hx, _, hlen, hff⟩ := DataW.trod_struct Tryd.underlying27 hf
    match xs, hlen with
    | [y0, y1], _ =>
      have h0 : DataW.trod enc Tryd.prog W 0 (fun _ => true) held n 25 ((([c0, c1] : List Value).drop 0).take (Tryd.prog.cellsOf 25)) = some y0 := hff 0 _ rfl
      have h1 : DataW.trod enc Tryd.prog W 0 (fun _ => true) held n 25 ((([c0, c1] : List Value).drop 1).take (Tryd.prog.cellsOf 25)) = some y1 := hff 1 _ rfl
      rw [k25] at h0 h1
      obtain ⟨ra, rc, rs, e0, n0, i0⟩ := open_nums (c := c0) h0
      obtain ⟨ma, mc, ms, e1, n1, i1⟩ := open_nums (c := c1) h1
      subst e0 e1
      exact ⟨ra, ma, rc, mc, rs, ms, rfl, ⟨n0, n1⟩, i0, i1⟩
end Go.Proofs.YtlnfhbkkodhmaaaDoor.Sm

namespace Go.Proofs.YtlnfhbkkodhmaaaDoor.Sm
set_option maxRecDepth 20000
open Go.ChangeShapes Go.WideShapes Go.ChangeAt Go.RowKit
open _root_.Go.Proofs.YtlnfhbkkodhmaaaDoor.Op


theorem open_dealt {H : Type} {enc : TypeId × Value → H} {W : World} {fuel : Nat} {held : Bool} {c : Value} {y : DataW H × List MemPlace} (h : DataW.trod enc Tryd.prog W 0 (fun _ => true) held fuel 28 [c] = some y) :
    ∃ (ao : Option Addr) (cap : Nat) (l : List Int), c = .slice ao l.length cap ∧ NL W ao l := by
  rcases open_ints (P := Tryd.prog) Tryd.underlying28 Tryd.underlying3 (by kernel_rfl) h with ⟨e, -⟩ | ⟨a, len, cap, zs, e, -, hl, hc, hz, -, hcell, hwf⟩
  · exact ⟨none, 0, [], by simpa using e, ⟨fun h => by simp at h⟩⟩
  · have hz : zs.length = cap := by simpa using hz
    refine ⟨some a, cap, zs.take len, by simp at e; rw [e]; congr; simp; omega, ⟨fun h0 => ?_⟩⟩
    have hlen : 0 < len := by simp at h0; omega
    have h1 := hcell 0 (by omega)
    rw [show a.add 0 = a by unfold Addr.add; simp] at h1
    have ha := cell_spot h1
    refine ⟨a.block, a.off, by rw [← ha], World.block_lt_of_cell? W a h1, fun i hi => ?_⟩
    have hi' : i < zs.length := by simp at hi; omega
    have h2 := hcell i hi'
    rw [ha, add_at'] at h2
    rw [h2]
    simp [List.getD, List.getElem?_eq_getElem hi']
theorem open_dealt2 {H : Type} {enc : TypeId × Value → H} {W : World} {r : Reach} {b0 : Nat} {held : Bool} {v : Value} {d : DataW H} {p : List MemPlace} (hv : Value.okWide Tryd.prog W r b0 28 v) (h : DataW.Trod enc Tryd.prog W 0 (fun _ => true) held 28 v d p) :
    ∃ (ao : Option Addr) (cap : Nat) (l : List Int), v = .slice ao l.length cap ∧ NL W ao l := by
  obtain ⟨a, len, cap, rfl⟩ := okWide_slice Tryd.underlying28 hv
  obtain ⟨fuel, hf⟩ := h
  have hf' : DataW.trod enc Tryd.prog W 0 (fun _ => true) held fuel 28 [.slice a len cap] = some (d, p) := hf
  exact open_dealt hf'

set_option maxRecDepth 100000 in
theorem runs_wit (os : Os) (H : Type) (enc : TypeId × Value → H) : ∃ (w : World) (tape : Tape) (i : Input), w.os = os ∧ (w.forCall tape i).Shaped Tryd.prog ∧ i.vars = [] ∧ Input.okWide Tryd.prog (w.forCall tape i) .any w.heap.size 3 i ∧
      ((Rows.serialRunsSpec.pre enc Tryd.prog Tryd.f3 [] false (w.forCall tape i).memory i.args ∧ laidMetH Tryd.prog Rows.serialRunsRow.laid (w.forCall tape i).memory) ∧ sizedMet enc Tryd.prog Tryd.f3 (OpenSpec.ofChange Rows.serialRunsSpec) false (w.forCall tape i).memory i.args) ∧ Assume.holds {} Tryd.prog (lone (Frame.enter Tryd.prog 3 i.args .normal) [] (w.forCall tape i)) :=
  ChangeSpec.witness_shaped (enc := enc) (C := Tryd.checked) (os := os) (X := fun w _ => laidMetH Tryd.prog Rows.serialRunsRow.laid w) false ((World.holding Tryd.prog os ⟨#[], #[], []⟩).layVars Tryd.prog laid1) #[.agg #[.slice none 0 0], .agg #[.slice none 0 0, .slice none 0 0], .slice none 0 0] 8 (wit_os os)
    (World.shaped_of_ZipB (by kernel_rfl) (by kernel_rfl)) (by kernel_rfl) (by kernel_rfl) (by kernel_rfl) (wit_met os _)

set_option maxRecDepth 100000 in
theorem runs_lifted (os : Os) (started : os.Started) (H : Type) (enc : TypeId × Value → H) :
    ReturnsInHanded {} Tryd.checked os 3 .any (fun w args => (Rows.serialRunsSpec.pre enc Tryd.prog Tryd.f3 [] false w args ∧ laidMetH Tryd.prog Rows.serialRunsRow.laid w) ∧ sizedMet enc Tryd.prog Tryd.f3 (OpenSpec.ofChange Rows.serialRunsSpec) false w args)
      (Rows.serialRunsSpec.post enc Tryd.prog Tryd.f3 false true false false) := by
  refine wrap started (by kernel_rfl) Tryd.func3 (runs_wit os H enc) ?_
  intro W base args ds gs before hval0 hW hsz hL _
  have hval : ∀ (j : Nat) t v, Tryd.f3.params[j]? = some t → args[j]? = some v → Value.okWide Tryd.prog W .any base t v := hval0
  have hW' := hW
  obtain ⟨p, q, hA0, hV, rfl, _, _⟩ := hW
  have hA : DataW.TrodAll enc Tryd.prog W 0 (fun _ => true) true Tryd.f3.params.toList args.toList ds p := hA0
  rw [Tryd.params3] at hA hval hsz
  obtain ⟨v0, v1, v2, d0, d1, d2, p0, p1, p2, rfl, rfl, rfl, h0, h1, h2⟩ := trodAll_three hA
  obtain ⟨rfl, rfl⟩ := trodVars_none hV
  obtain ⟨ao, cap, ps, rfl, hp, hc, hm⟩ := open_prog (hval 0 24 v0 rfl rfl) h0 fun n hn => by
    have := List.all_eq_true.1 hsz n (DataW.weights_mem_each (j := 0) rfl rfl n hn)
    simpa using this
  obtain ⟨ra, ma, rc, mc, rs, ms, rfl, hs, hr, hms⟩ := open_state (hval 1 27 v1 rfl rfl) h1
  obtain ⟨da, dc, ds, rfl, hd⟩ := open_dealt2 (hval 2 28 v2 rfl rfl) h2
  simp only [List.append_nil] at hW'
  refine (law_runs ao ra ma da cap rc mc dc ps rs ms ds W hp (env_of hL) hs hr hms hd).mono fun e W' ⟨he, hb⟩ => ?_
  subst he
  refine ⟨_, rfl, _, _, _, [], p0 ++ (p1 ++ p2), [], hW', trodAll_mk1 (shut_bool Tryd.underlying4 _), ?_, rfl, hb.frame _, fun h => by cases h⟩
  rw [Tryd.params3]
  exact trodAll_mk3 (Below.trod laidOut (by kernel_rfl) (by rw [tySize]; decide) h0 hb fun x hx => by obtain ⟨fuel, hf⟩ := h0; exact DataW.trod_lt _ _ _ _ hf x hx) (Below.trod laidOut (by kernel_rfl) (by rw [tySize]; decide) h1 hb fun x hx => by obtain ⟨fuel, hf⟩ := h1; exact DataW.trod_lt _ _ _ _ hf x hx) (Below.trod laidOut (by kernel_rfl) (by rw [tySize]; decide) h2 hb fun x hx => by obtain ⟨fuel, hf⟩ := h2; exact DataW.trod_lt _ _ _ _ hf x hx)

theorem runs_row : Rows.SerialRunsSaid :=
  OpenClaim.holds_of_wide 3 Tryd.f3 rfl rfl rfl rfl rfl rfl rfl ⟨rfl, rfl, rfl, rfl, rfl⟩ rfl rfl rfl rfl rfl (by kernel_rfl) Tryd.func3 (by kernel_rfl)
    (of_decide_eq_true (by kernel_rfl)) (by unfold Func.isWrapper; first | (rw [if_pos (by decide +kernel)]; kernel_rfl) | (rw [if_neg (by decide +kernel)]; exact ⟨rfl, rfl⟩))
    (fun os started H enc _ => runs_lifted os started H enc)

theorem runs_card : Rows.SerialRunsCardSaid :=
  Claim7.holds_tied_plain_at .later [] [.data] true (true, "2cd15914c1cc916fa85673181e1e7625814c33a0071ee3ea218290e15ea07353") true runs_row (fun _ h => by cases h) (by kernel_rfl) (fun _ h => by cases h) serialRuns_row_tie rfl ⟨rfl, rfl⟩ (by kernel_rfl) rfl
    (fun f fn hf hfn => by
      obtain rfl : f = 3 := Option.some.inj ((show Tryd.prog.funcNamed "hayloft/hayloftlaw09.SerialRuns" = some 3 by kernel_rfl).symm.trans hf) |>.symm
      obtain rfl : fn = Tryd.f3 := (Option.some.inj (Tryd.func3.symm.trans hfn)).symm
      exact ⟨by kernel_rfl, fun j t ht => by
        rw [Tryd.params3] at ht
        have hm : t ∈ [24, 27, 28] := by simpa using Array.mem_of_getElem? ht
        have hall : ([24, 27, 28].all fun u => !Tryd.prog.wantsStandIn u) = true := by kernel_rfl
        exact (show Tryd.prog.wantsStandIn t = false by simpa using List.all_eq_true.1 hall t hm)⟩)
    (by kernel_rfl)
#print axioms runs_card
end Go.Proofs.YtlnfhbkkodhmaaaDoor.Sm
