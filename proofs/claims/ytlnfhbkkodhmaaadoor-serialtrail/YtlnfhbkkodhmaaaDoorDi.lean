/- Filling the document's machine (Fill): read off the program by the walk. Conditions: the machine lies in memory, the lists apart from it. -/
import Derived.Test.YtlnfhbkkodhmaaaDoorDf
namespace Go.Proofs.YtlnfhbkkodhmaaaDoor.Sm
open Go.ChangeShapes Go.WideShapes Go.ChangeAt Go.RowKit
open _root_.Go.Proofs.YtlnfhbkkodhmaaaDoor.Op _root_.Go.Proofs.YtlnfhbkkodhmaaaDoor.So
set_option maxRecDepth 20000

/-- The first k of a list laid over. -/
def over (f : Nat → Int) (l : List Int) (k : Nat) : Nat → Int := fun i => if i < k then l.getD i 0 else f i
theorem over_zero (f : Nat → Int) (l : List Int) : over f l 0 = f := by funext i; simp [over]
theorem over_succ (f : Nat → Int) (l : List Int) {k : Nat} (h : k < l.length) : upd (over f l k) k l[k] = over f l (k + 1) := by
  funext i
  unfold upd over
  by_cases e : i = k
  · subst e
    rw [if_pos rfl, if_pos (by omega), List.getD_eq_getElem?_getD, List.getElem?_eq_getElem h]
    rfl
  · rw [if_neg e]
    by_cases h1 : i < k
    · rw [if_pos h1, if_pos (by omega)]
    · rw [if_neg h1, if_neg (by omega)]
section
variable {w : World} {q : Nat} {ba : Option Addr} {bl bc : Nat} {po : Option Addr} {pc : Nat} {M : Ma} {L : Tg}
/-- Fill on its way: the state's box, the machine. -/
structure Fw (w wz : World) (q : Nat) (cs : Array Value) (f : Nat → Value) : Prop where
  up : Fr (One q) w wz
  bx : Op.At wz w.heap.size cs
  at_ : DAt wz q f
  ne : q < w.heap.size
theorem fw_start (h : DAt w q (dG ba bl bc po pc M L)) (cs : Array Value) : Fw w (w.alloc (.cells cs 27)) q cs (dG ba bl bc po pc M L) := by
  have hb : Below w.heap.size w (w.alloc (.cells cs 27)) := (Below.refl _ _).alloc (Nat.le_refl _) _
  exact ⟨Fr.of hb, Op.At.new _ _ _, h.up hb, h.lt⟩
theorem Fw.set {W : World} {cs : Array Value} {f g : Nat → Value} (h : Fw w W q cs f) {k : Nat} (hk : k < 302) {v : Value} (e : updV f k v = g) : Fw w (W.setCell ⟨q, k, none⟩ v).drew q cs g := by
  have hF : Fr (One q) W (W.setCell ⟨q, k, none⟩ v).drew := ((Fr.refl (One q) W).setCell (.inr (show One q q from rfl)) _ _).then (drew_up _)
  have hn : ¬ One q w.heap.size := fun e => by have e : w.heap.size = q := e; have := h.ne; omega
  have hd := (h.at_.set hk v).up (drew_up _)
  rw [e] at hd
  exact ⟨h.up.same hF, at_fr' h.bx hF hn, hd, h.ne⟩
theorem rfill_no (ra ma : Option Addr) (rc mc : Nat) (rs ms : List Int) (w : World) (q : Nat) (hg : 32 < rs.length ∨ 256 < ms.length) : Calls Tryd.prog 25 #[.agg #[.slice ra rs.length rc, .slice ma ms.length mc], .pointer (some ⟨q, 1, none⟩), .pointer (some ⟨q, 33, none⟩)] w fun e w' => e = .returned (.bool false) ∧ Below w.heap.size w w' := by
  generalize rs.length = rl at *
  generalize ms.length = ml at *
  have HB : Hid (Below w.heap.size w (w.alloc (.cells #[.slice ra rl rc, .slice ma ml mc] 27))) := (Below.refl _ _).alloc (Nat.le_refl _) _
  by_cases h1 : 32 < rl
  · have h1i : (32 : Int) < rl := by omega
    go_enter Tryd.func25, Tryd.ntmps25
    go_wp2_with fail
    go_ret
    exact ⟨rfl, HB.out⟩
  · have h1i : ¬ (32 : Int) < rl := by omega
    have h2i : (256 : Int) < ml := by omega
    go_enter Tryd.func25, Tryd.ntmps25
    go_wp2_with fail
    go_ret
    exact ⟨rfl, HB.out⟩
set_option maxHeartbeats 4000000 in
theorem rfill_any (ra ma : Option Addr) (rc mc : Nat) (rs ms : List Int) (h : DAt w q (dG ba bl bc po pc M L)) (h1 : NL w ra rs) (h2 : NL w ma ms) (n1 : 0 < rs.length → ∀ x, ra = some x → ¬ x.block = q) (n2 : 0 < ms.length → ∀ x, ma = some x → ¬ x.block = q) (l1 : rs.length ≤ 32) (l2 : ms.length ≤ 256) :
    Calls Tryd.prog 25 #[.agg #[.slice ra rs.length rc, .slice ma ms.length mc], .pointer (some ⟨q, 1, none⟩), .pointer (some ⟨q, 33, none⟩)] w fun e w' => e = .returned (.bool true) ∧ DAt w' q (dG ba bl bc po pc { M with r := over M.r rs rs.length, m := over M.m ms ms.length } L) ∧ Fr (One q) w w' := by
  have HN1 : Hid (∀ W, Fr (One q) w W → NL W ra rs) := fun W g => h1.fr g n1
  have HN2 : Hid (∀ W, Fr (One q) w W → NL W ma ms) := fun W g => h2.fr g n2
  have HF0 : Hid (Fw w (w.alloc (.cells #[.slice ra rs.length rc, .slice ma ms.length mc] 27)) q #[.slice ra rs.length rc, .slice ma ms.length mc] (dG ba bl bc po pc M L)) := fw_start h _
  have hne : ¬ q = w.heap.size := by have := h.lt; omega
  have hne' : ¬ w.heap.size = q := fun e => hne e.symm
  have k1i : ¬ (32 : Int) < rs.length := by omega
  have k2i : ¬ (256 : Int) < ms.length := by omega
  clear h h1 h2
  go_enter Tryd.func25, Tryd.ntmps25
  go_wp2_with fail
  go_loopw [7] (fun i wz => ∃ k : Nat, k ≤ rs.length ∧ i = .int .i64 k ∧ Fw w wz q #[.slice ra rs.length rc, .slice ma ms.length mc] (dG ba bl bc po pc { M with r := over M.r rs k } L)) (fun i _ => rs.length - (intOf i).toNat)
  case atStart => exact ⟨0, by omega, rfl, by rw [over_zero]; exact HF0.out⟩
  case round =>
    rename World => wz
    obtain ⟨k, hk, rfl, hfw⟩ := hrel
    have HF : Hid (Fw w wz q #[.slice ra rs.length rc, .slice ma ms.length mc] (dG ba bl bc po pc { M with r := over M.r rs k } L)) := hfw
    clear hfw HF0
    have c0 := HF.out.bx.c 0 _ rfl
    have c1 := HF.out.bx.c 1 _ rfl
    have z0 := HF.out.bx.lt
    have z1 := HF.out.at_.lt
    by_cases hlt : k < rs.length
    · have hki : (k : Int) < rs.length := by omega
      have hk32 : (k : Int) < 32 := by omega
      obtain ⟨b, f, rfl, hz, hx⟩ := (HN1.out wz HF.out.up).is (by omega)
      have x0 := hx k hlt
      have r0 := HF.out.at_.kr (show k < 32 by omega)
      have f0 := HF.out.at_.fz (1 + k)
      have HU : Hid (Fw w (wz.setCell ⟨q, 1 + k, none⟩ (.int .i64 rs[k])).drew q #[.slice (some ⟨b, f, none⟩) rs.length rc, .slice ma ms.length mc] (dG ba bl bc po pc { M with r := over M.r rs (k + 1) } L)) := HF.out.set (by omega) (by rw [up_r (show k < 32 by omega), over_succ _ _ hlt])
      clear hx
      generalize rs[k] = rv at *
      go_wp2_with fail
      go_big_region
      all_goals
        go_wp2_with fail
        go_roundw
        case rel => exact ⟨k + 1, by omega, by go_num, HU.out⟩
        case measure => simp [intOf]; omega
    · obtain rfl : rs.length = k := by omega
      go_wp2_with fail
      clear c0 c1 z0 z1
      go_loopw [8] (fun i wy => ∃ k : Nat, k ≤ ms.length ∧ i = .int .i64 k ∧ Fw w wy q #[.slice ra rs.length rc, .slice ma ms.length mc] (dG ba bl bc po pc { M with r := over M.r rs rs.length, m := over M.m ms k } L)) (fun i _ => ms.length - (intOf i).toNat)
      case atStart => exact ⟨0, by omega, rfl, by rw [over_zero]; exact HF.out⟩
      case round =>
        rename World => wy
        obtain ⟨k, hk2, rfl, hfw⟩ := hrel
        have HG : Hid (Fw w wy q #[.slice ra rs.length rc, .slice ma ms.length mc] (dG ba bl bc po pc { M with r := over M.r rs rs.length, m := over M.m ms k } L)) := hfw
        clear hfw HF
        have c0 := HG.out.bx.c 0 _ rfl
        have c1 := HG.out.bx.c 1 _ rfl
        have z0 := HG.out.bx.lt
        have z1 := HG.out.at_.lt
        by_cases hlt2 : k < ms.length
        · have hki : (k : Int) < ms.length := by omega
          have hk256 : (k : Int) < 256 := by omega
          obtain ⟨b, f, rfl, hz, hx⟩ := (HN2.out wy HG.out.up).is (by omega)
          have x0 := hx k hlt2
          have r0 := HG.out.at_.km (show k < 256 by omega)
          have f0 := HG.out.at_.fz (33 + k)
          have HU : Hid (Fw w (wy.setCell ⟨q, 33 + k, none⟩ (.int .i64 ms[k])).drew q #[.slice ra rs.length rc, .slice (some ⟨b, f, none⟩) ms.length mc] (dG ba bl bc po pc { M with r := over M.r rs rs.length, m := over M.m ms (k + 1) } L)) := HG.out.set (by omega) (by rw [up_m (show k < 256 by omega), over_succ _ _ hlt2])
          clear hx
          generalize ms[k] = rv at *
          go_wp2_with fail
          go_big_region
          all_goals
            go_wp2_with fail
            go_roundw
            case rel => exact ⟨k + 1, by omega, by go_num, HU.out⟩
            case measure => simp [intOf]; omega
        · obtain rfl : ms.length = k := by omega
          go_wp2_with fail
          go_ret
          exact ⟨rfl, HG.out.at_, HG.out.up⟩
end
end Go.Proofs.YtlnfhbkkodhmaaaDoor.Sm
