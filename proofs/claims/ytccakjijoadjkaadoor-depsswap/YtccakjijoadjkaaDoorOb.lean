/- The statement DepsSwap, whole: two operations side by side that do not depend on one another can change places: the same prints, the same trap, and without one the same state, whatever the list, the table, the state and the place; the listed variables are tied to the program text. Conditions: none. -/
import Derived.Test.YtccakjijoadjkaaDoorNr
import Derived.Test.YtccakjijoadjkaaDoorEk
import Derived.Test.YtccakjijoadjkaaDoorEc
import Derived.Test.YtccakjijoadjkaaDoorNa
import Derived.Deep.DeepCutAuto
import Derived.Test.YtccakjijoadjkaaDoorTk
import Derived.Test.YtccakjijoadjkaaDoorPc
import Derived.Test.YtccakjijoadjkaaDoorPm
import Derived.Test.YtccakjijoadjkaaDoorTie
import Derived.Test.YtccakjijoadjkaaDoorCards
import Derived.ProofKit
import Derived.HandedShaped
import Derived.Shelf.Vars
import Derived.Lib.LaidU8
import Derived.Lay
import Derived.LaidHandle
import Derived.LaidLaws
import Derived.Stop.Joined
import Derived.RowKitTokens
import Derived.SevenTiedAt
import Derived.Carry
import Derived.ChangeMaps5
import Derived.Deep.Slices
import Derived.Lib.SmallJoins
import Derived.SizedLaws
import Derived.ChangeOld
import Derived.OpenShut
import Derived.ChangeSlices
namespace Go.Proofs.YtccakjijoadjkaaDoor.Sm
open Go.ChangeShapes Go.WideShapes Go.ChangeAt Go.RowKit
open _root_.Go.Proofs.YtccakjijoadjkaaDoor.Op _root_.Go.Proofs.YtccakjijoadjkaaDoor.So
set_option maxRecDepth 20000

set_option maxHeartbeats 2000000 in
theorem nums_same (a b : Option Addr) (c d : Nat) (l : List Int) (w : World) (ha : NL w a l) (hb : NL w b l) (hl : l.length ≤ 1000000000000) : Calls Tryd.prog 18 #[.slice a l.length c, .slice b l.length d] w fun e w' => e = .returned (.bool true) ∧ Below w.heap.size w w' := by
  have HA : Hid _ := ha
  have HB : Hid _ := hb
  have hlz : (l.length : Int) ≤ 1000000000000 := by omega
  clear ha hb
  go_enter Tryd.func18, Tryd.ntmps18
  go_wp2_with fail
  go_loopw [13] (fun i wr => ∃ k : Nat, k ≤ l.length ∧ i = .int .i64 k ∧ Below w.heap.size w wr) (fun i _ => l.length - (intOf i).toNat)
  case atStart => exact ⟨0, by omega, rfl, Below.refl _ _⟩
  case round =>
    rename_i wr
    obtain ⟨k, hk, rfl, hbw⟩ := hrel
    by_cases hlt : k < l.length
    · obtain ⟨b1, f1, rfl, z1, x1⟩ := (HA.out.up hbw).is (by omega)
      obtain ⟨b2, f2, rfl, z2, x2⟩ := (HB.out.up hbw).is (by omega)
      have c1 := x1 k hlt
      have c2 := x2 k hlt
      have HW : Hid (Below w.heap.size w wr) := hbw
      clear x1 x2 hbw HA HB
      generalize l[k] = v at *
      go_wp2_with fail
      go_quiet (fail)
      go_wp2_with fail
      go_roundw
      case rel => exact ⟨k + 1, by omega, by go_num, drewN_below HW.out _⟩
      case measure => simp [intOf]; omega
    · obtain rfl : k = l.length := by omega
      go_wp2_with fail
      go_ret
      exact ⟨rfl, hbw⟩
theorem at_up {w : World} {b : Nat} {c : Array Value} (h : Op.At w b c) (o : Obj) : Op.At (w.alloc o) b c := h.alloc o
theorem at_new' (w : World) (c : Array Value) (t : TypeId) (n : Nat) (hn : w.heap.size = n) : Op.At (w.alloc (.cells c t)) n c := by subst hn; exact Op.At.new w c t
theorem ops_one {w : World} {b : Nat} {o : O} (h : Op.At w b #[.int .i8 o.op, .int .u8 o.d, .int .u8 o.a, .int .u8 o.b, .int .i64 o.im]) (ho : o.Ok) : OpsAt w (some ⟨b, 0, none⟩) [o] :=
  ⟨fun x hx => by simp at hx; subst hx; exact ho, by simp, fun _ => ⟨b, 0, rfl, h.lt, fun i hi => by
    have : i = 0 := by simp at hi; omega
    subst this
    exact ⟨h.c 0 _ rfl, h.c 1 _ rfl, h.c 2 _ rfl, h.c 3 _ rfl, h.c 4 _ rfl⟩⟩⟩
end Go.Proofs.YtccakjijoadjkaaDoor.Sm

namespace Go.Proofs.YtccakjijoadjkaaDoor.Sm
open Go.ChangeShapes Go.WideShapes Go.ChangeAt Go.RowKit
open _root_.Go.Proofs.YtccakjijoadjkaaDoor.Op _root_.Go.Proofs.YtccakjijoadjkaaDoor.So
set_option maxRecDepth 20000

set_option maxHeartbeats 2000000 in
theorem new_bad (ao ra ma : Option Addr) (cap rl rc ml mc : Nat) (ps : List Bk) (w : World) (h : PAt w ao ps) (he : Env w) (hc : ¬ ckP ps = 0) :
    Calls Tryd.prog 15 #[.agg #[.slice ao ps.length cap], .agg #[.slice ra rl rc, .slice ma ml mc]] w fun e w' => e = .returned (.tuple #[.pointer none, .int .i64 (ckP ps)]) ∧ Below w.heap.size w w' := by
  have HCk : Hid (∀ W, Below w.heap.size w W → Calls Tryd.prog 39 #[.agg #[.slice ao ps.length cap]] W fun e w' => e = .returned (.int .i64 (ckP ps)) ∧ Below W.heap.size W w') := fun W hb => checkP_any ao cap ps W (h.below hb) (he.up hb)
  have hc' : (ckP ps == 0) = false := by simpa using hc
  clear h he
  generalize ckP ps = ck at *
  go_enter Tryd.func15, Tryd.ntmps15
  go_wp2_with (first | (go_at_call 39; refine Calls.mono (HCk.out _ (by go_grown)) ?_; rintro e w1 ⟨rfl, hb⟩; obtain ⟨-, -, hb0, -, -⟩ := two_new w _ _ _ _ hb; have HB : Hid (Below w.heap.size w w1) := hb0; clear hb hb0))
  go_ret2
  exact ⟨rfl, HB.out⟩
set_option maxHeartbeats 2000000 in
theorem new_great (ao ra ma : Option Addr) (cap rl rc ml mc : Nat) (ps : List Bk) (w : World) (h : PAt w ao ps) (he : Env w) (hc : ckP ps = 0) (hg : 32 < rl ∨ 256 < ml) :
    Calls Tryd.prog 15 #[.agg #[.slice ao ps.length cap], .agg #[.slice ra rl rc, .slice ma ml mc]] w fun e w' => e = .returned (.tuple #[.pointer none, .int .i64 2]) ∧ Below w.heap.size w w' := by
  have HCk : Hid (∀ W, Below w.heap.size w W → Calls Tryd.prog 39 #[.agg #[.slice ao ps.length cap]] W fun e w' => e = .returned (.int .i64 0) ∧ Below W.heap.size W w') := fun W hb => by
    have := checkP_any ao cap ps W (h.below hb) (he.up hb)
    rw [hc] at this; exact this
  have HT : Hid (∀ {w' : World}, Below ((w.alloc (.cells #[.slice ao ps.length cap] 48)).alloc (.cells #[.slice ra rl rc, .slice ma ml mc] 35)).heap.size ((w.alloc (.cells #[.slice ao ps.length cap] 48)).alloc (.cells #[.slice ra rl rc, .slice ma ml mc] 35)) w' → Op.At w' (w.heap.size + 1) #[.slice ra rl rc, .slice ma ml mc] ∧ Below w.heap.size w w') := fun {w'} hb => by
    obtain ⟨-, h2, h3, -⟩ := two_new w #[.slice ao ps.length cap] #[.slice ra rl rc, .slice ma ml mc] 48 35 hb
    exact ⟨h2, h3⟩
  clear h he hc
  rcases Nat.lt_or_ge 32 rl with h1 | h1
  · have hi : (32 : Int) < (rl : Int) := by omega
    clear hg h1
    go_enter Tryd.func15, Tryd.ntmps15
    go_wp2_with (first | (go_at_call 39; refine Calls.mono (HCk.out _ (by go_grown)) ?_; rintro e w1 ⟨rfl, hb⟩; obtain ⟨x2, x3⟩ := HT.out hb; have HB : Hid (Below w.heap.size w w1) := x3; have s0 := x2.c 0 _ rfl; have s1 := x2.c 1 _ rfl; have sl := x2.lt; clear hb x2 x3 HT HCk))
    go_ret2
    exact ⟨rfl, HB.out⟩
  · have hi : ¬ (32 : Int) < (rl : Int) := by omega
    have hi2 : (256 : Int) < (ml : Int) := by omega
    clear hg h1
    go_enter Tryd.func15, Tryd.ntmps15
    go_wp2_with (first | (go_at_call 39; refine Calls.mono (HCk.out _ (by go_grown)) ?_; rintro e w1 ⟨rfl, hb⟩; obtain ⟨x2, x3⟩ := HT.out hb; have HB : Hid (Below w.heap.size w w1) := x3; have s0 := x2.c 0 _ rfl; have s1 := x2.c 1 _ rfl; have sl := x2.lt; clear hb x2 x3 HT HCk))
    go_ret2
    exact ⟨rfl, HB.out⟩
theorem run_any {w : World} {q : Nat} {ps : List Bk} {T : Nat → Prop} {M : Ma} (n : Int) (h : MM w q ps T M) (hb : M.s + (min (max n 0) 1048576).toNat ≤ 1000000000000) : Calls Tryd.prog 16 #[ptr q, .int .i64 n] w (RunPost w q ps T (runM ps (min (max n 0) 1048576).toNat M)) := by
  by_cases he : (runM ps (min (max n 0) 1048576).toNat M).e = 0
  · exact run_done n h hb he
  · exact run_over' n h hb he
end Go.Proofs.YtccakjijoadjkaaDoor.Sm

namespace Go.Proofs.YtccakjijoadjkaaDoor.Sm
open Go.ChangeShapes Go.WideShapes Go.ChangeAt Go.RowKit
open _root_.Go.Proofs.YtccakjijoadjkaaDoor.Op _root_.Go.Proofs.YtccakjijoadjkaaDoor.So
set_option maxRecDepth 20000

/-- New refuses. -/
theorem new_no (ao ra ma : Option Addr) (cap rl rc ml mc : Nat) (ps : List Bk) (w : World) (h : PAt w ao ps) (he : Env w) (hn : ¬ ckP ps = 0 ∨ 32 < rl ∨ 256 < ml) : ∃ er : Int, (er == 0) = false ∧ ∀ W, Below w.heap.size w W → Calls Tryd.prog 15 #[.agg #[.slice ao ps.length cap], .agg #[.slice ra rl rc, .slice ma ml mc]] W fun e w' => e = .returned (.tuple #[.pointer none, .int .i64 er]) ∧ Below W.heap.size W w' := by
  by_cases hc : ckP ps = 0
  · have hg : 32 < rl ∨ 256 < ml := hn.elim (fun h => absurd hc h) id
    exact ⟨2, rfl, fun W hb => new_great ao ra ma cap rl rc ml mc ps W (h.below hb) (he.up hb) hc hg⟩
  · exact ⟨ckP ps, by simpa using hc, fun W hb => new_bad ao ra ma cap rl rc ml mc ps W (h.below hb) (he.up hb) hc⟩
end Go.Proofs.YtccakjijoadjkaaDoor.Sm

namespace Go.Proofs.YtccakjijoadjkaaDoor.Sm
open Go.ChangeShapes Go.WideShapes Go.ChangeAt Go.RowKit
open _root_.Go.Proofs.YtccakjijoadjkaaDoor.Op _root_.Go.Proofs.YtccakjijoadjkaaDoor.So
set_option maxRecDepth 20000

theorem own_block {w : World} {B : Nat} {e : TypeId} {z n c : Nat} {a : Option Addr} {xs : List Value} (h : w.ownsRow B e z (.slice a n c) n xs) {x : Addr} (hx : a = some x) : B ≤ x.block ∧ x.block < w.heap.size := by
  subst hx
  exact h.lt x.block rfl
/-- What turns another's leaves this one, if that is what this one is said to turn, or lies behind it. -/
theorem MM.aside {w w' : World} {q : Nat} {ps : List Bk} {T X : Nat → Prop} {M : Ma} (h : MM w q ps T M) (g : Fr X w w') (hx : ∀ k, T k → q ≤ k → ¬ X k) (hp : ∀ k, k < w.heap.size → X k → T k ∨ q ≤ k) : MM w' q ps T M := by
  obtain ⟨ba, bc, po, pc, h1, h2, h3, h4⟩ := h.mr.ex
  refine ⟨⟨⟨ba, bc, po, pc, h1.fr g (hx q h.mr.tq (Nat.le_refl _)), h2.fr (g.mono hp), row_fr h3 g fun k hk => ?_, h4⟩, h.mr.tq, fun k hk => Nat.lt_of_lt_of_le (h.mr.tl k hk) g.size⟩, h.inv, h.ps⟩
  have hq := (h3.lt k hk).1
  cases po with
  | none => simp [Value.ownBlock] at hk
  | some a =>
    simp only [Value.ownBlock, Option.some.injEq] at hk
    subst hk
    exact hx _ (h4 a rfl) (by omega)
theorem MM.shrink {w : World} {q : Nat} {ps : List Bk} {T : Nat → Prop} {M : Ma} (h : MM w q ps T M) : MM w q ps (fun k => T k ∧ q ≤ k) M := by
  obtain ⟨ba, bc, po, pc, h1, h2, h3, h4⟩ := h.mr.ex
  refine ⟨⟨⟨ba, bc, po, pc, h1, h2.grow fun k _ hk => hk.elim (fun h => .inr h.2) .inr, h3, fun a e => ⟨h4 a e, ?_⟩⟩, ⟨h.mr.tq, Nat.le_refl _⟩, fun k hk => h.mr.tl k hk.1⟩, h.inv, h.ps⟩
  have := (own_block h3 e).1
  omega
/-- A machine is said to turn a block without a kind, too. -/
theorem MM.widen {w : World} {q b : Nat} {ps : List Bk} {T : Nat → Prop} {M : Ma} (h : MM w q ps T M) (hb : b < w.heap.size) (hn : NoK w b) : MM w q ps (fun k => T k ∨ k = b) M := by
  obtain ⟨ba, bc, po, pc, h1, h2, h3, h4⟩ := h.mr.ex
  have h2' : PIn w (fun k => (T k ∨ k = b) ∨ q ≤ k) ba ps := by
    have fa : ∀ {a : Option Addr} {xs : List O}, OpsAt w a xs → Far (fun k => T k ∨ q ≤ k) a xs.length → Far (fun k => (T k ∨ k = b) ∨ q ≤ k) a xs.length := fun {a xs} ho hf h0 x e hx => by
      obtain ⟨b', f, e', z, hc⟩ := ho.is h0
      rw [e'] at e; cases e
      rcases hx with (hx | hx) | hx
      · exact hf h0 _ e' (.inl hx)
      · have hx : b' = b := hx
        subst hx
        exact hn _ _ (hc 0 h0).c0
      · exact hf h0 _ e' (.inr hx)
    refine ⟨h2.len, fun h0 => ?_⟩
    obtain ⟨b', f, e, z, hT, hc⟩ := h2.is h0
    refine ⟨b', f, e, z, fun hx => ?_, fun i hi => ?_⟩
    · rcases hx with (hx | hx) | hx
      · exact hT (.inl hx)
      · subst hx
        obtain ⟨p, k1, -⟩ := hc 0 h0
        exact hn _ _ k1.c1
      · exact hT (.inr hx)
    · obtain ⟨p, k1, k2, k3, k4⟩ := hc i hi
      exact ⟨p, k1, k2, fa k2.o k3, fa k2.b k4⟩
  exact ⟨⟨⟨ba, bc, po, pc, h1, h2', h3, fun a e => .inl (h4 a e)⟩, .inl h.mr.tq, fun k hk => hk.elim (h.mr.tl k) fun e => by rw [e]; exact hb⟩, h.inv, h.ps⟩
end Go.Proofs.YtccakjijoadjkaaDoor.Sm

namespace Go.Proofs.YtccakjijoadjkaaDoor.Dp
open Go.ChangeShapes Go.WideShapes Go.ChangeAt Go.RowKit
open _root_.Go.Proofs.YtccakjijoadjkaaDoor.Op _root_.Go.Proofs.YtccakjijoadjkaaDoor.So
open _root_.Go.Proofs.YtccakjijoadjkaaDoor.Tb (Tab TabAt Bnds)
set_option maxRecDepth 20000

set_option maxHeartbeats 4000000 in
theorem loop_any (ao : Option Addr) (cap : Nat) (xs : List O) (t : Tab) (w : World) (h : OpsAt w ao xs) (hcap : xs.length ≤ cap) (hG : Bnds w) :
    Calls Tryd.prog 11 #[.slice ao xs.length cap, t.val] w (EdOut w (lisE t xs) (erE t xs (loopE t xs))) := by
  have HC : Hid (∀ W, Below w.heap.size w W → Calls Tryd.prog 29 #[.slice ao xs.length cap, t.val] W fun e w' => e = .returned (.int .i64 (lisE t xs)) ∧ Below W.heap.size W w') := fun W hb => lis_any ao cap xs t W (hG.below hb hG.big) (h.below hb)
  unfold erE
  by_cases he : lisE t xs = 0
  · rw [if_pos he]
    obtain ⟨ht, hn, hok⟩ := lis_all he
    have hpt := pts_ok t xs (fun o ho => ⟨h.ok o ho, okL_okO (hok o ho)⟩) ht
    have HN : Hid (∀ W, Below w.heap.size w W → Calls Tryd.prog 30 #[.slice ao xs.length cap, t.val] W fun e w' => e = .returned (.pointer (some ⟨W.heap.size + 1, 0, none⟩)) ∧ Fm W w' ao xs.length cap (ptsL t xs) (.slice none 0 0) []) := fun W hb => (new_any ao cap xs t W (h.below hb) (fun o ho => okL_okO (hok o ho)) hn).mono fun e w' h' => by
      obtain ⟨h1, vp, h2⟩ := h'
      exact ⟨h1, fm_of h2⟩
    have HWi : Hid (∀ W0 W ve es, Below w.heap.size w W0 → Fm W0 W ao xs.length cap (ptsL t xs) ve es → es.length ≤ 100000000 → Calls Tryd.prog 31 #[.pointer (some ⟨W0.heap.size + 1, 0, none⟩)] W fun r w' => r = .returned (.tuple #[]) ∧ ∃ ve', Fm W0 w' ao xs.length cap (ptsL t xs) ve' (es ++ withinE xs (ptsL t xs) xs.length)) := fun W0 W ve es hb hf hl => fm_within hf (h.below hb) hcap (ptsL_len t xs) hn hpt hl
    have HAc : Hid (∀ W0 W ve es, Below w.heap.size w W0 → Fm W0 W ao xs.length cap (ptsL t xs) ve es → es.length ≤ 100000000 → Calls Tryd.prog 37 #[.pointer (some ⟨W0.heap.size + 1, 0, none⟩)] W fun r w' => r = .returned (.tuple #[]) ∧ ∃ ve', Fm W0 w' ao xs.length cap (ptsL t xs) ve' (es ++ acrossE xs (ptsL t xs) xs.length)) := fun W0 W ve es hb hf hl => fm_across hf (h.below hb) (ptsL_len t xs) hn hpt hl
    have HWl : Hid ((withinE xs (ptsL t xs) xs.length).length ≤ 100000000) := Nat.le_trans (withinE_len _ _ _ hn) (by omega)
    rw [he] at HC ⊢
    clear h hcap hG hok hpt ht he
    unfold loopE
    generalize ptsL t xs = ps at *
    unfold Tab.val at *
    go_enter Tryd.func11, Tryd.ntmps11
    go_wp2_with (first
      | (go_at_call 29; refine Calls.mono (HC.out _ (by go_grown)) ?_; rintro e w1 ⟨rfl, hb⟩; have HT : Hid (Tc w w1 t) := Tc.start w t rfl hb; have s1 := HT.out.t; have tu0 := s1.cu 0 (by decide); have tu1 := s1.cu 1 (by decide); have tu2 := s1.cu 2 (by decide); have tu3 := s1.cu 3 (by decide); have tl0 := s1.cl 0 (by decide); have tl1 := s1.cl 1 (by decide); have tl2 := s1.cl 2 (by decide); have tl3 := s1.cl 3 (by decide); have tb0 := s1.cb 0 (by decide); have tb1 := s1.cb 1 (by decide); have tb2 := s1.cb 2 (by decide); have tb3 := s1.cb 3 (by decide); have td := s1.cd; have tl := s1.lt; clear hb s1 HC)
      | (go_at_call 30; refine Calls.mono (HN.out _ HT.out.up) ?_; rintro e w2 ⟨rfl, hf⟩; have HF : Hid (Fm w1 w2 ao xs.length cap ps (.slice none 0 0) []) := hf; clear hf HN tu0 tu1 tu2 tu3 tl0 tl1 tl2 tl3 tb0 tb1 tb2 tb3 td tl)
      | (go_at_call 31; refine Calls.mono (HWi.out w1 _ _ _ HT.out.up HF.out (by simp)) ?_; rintro e w3 ⟨rfl, ve, hf⟩; have HF4 : Hid (Fm w1 w3 ao xs.length cap ps ve (withinE xs ps xs.length)) := hf; clear hf HF HWi)
      | (go_at_call 37; refine Calls.mono (HAc.out w1 _ _ _ HT.out.up HF4.out HWl.out) ?_; rintro e w4 ⟨rfl, ve2, hf⟩; have HF3 : Hid (Fm w1 w4 ao xs.length cap ps ve2 (withinE xs ps xs.length ++ acrossE xs ps xs.length)) := hf; have c2 := hf.fe.c; have fl := hf.fe.lt; clear hf HF4 HAc))
    go_ret2
    obtain ⟨a, c, e, ho⟩ := eOwn_of HF3.out.fe.row (B' := w.heap.size) (by have := HT.out.up.size; omega)
    exact ⟨a, c, by rw [e]; rfl, ho, HT.out.up.trans (HF3.out.up.mono HT.out.up.size)⟩
  · rw [if_neg he]
    have he2 : (lisE t xs != 0) = true := by simpa using he
    generalize lisE t xs = er at *
    clear h hcap hG
    unfold Tab.val at *
    go_enter Tryd.func11, Tryd.ntmps11
    go_wp2_with (first
      | (go_at_call 29; refine Calls.mono (HC.out _ (by go_grown)) ?_; rintro e w1 ⟨rfl, hb⟩; have HT : Hid (Tc w w1 t) := Tc.start w t rfl hb; clear hb HC))
    go_ret2
    exact ⟨none, 0, rfl, World.ownsRow_nil _ _ _ _, HT.out.up⟩
theorem eOwn_at {B c : Nat} {w : World} {a : Option Addr} {es : List Ed} (h : EOwn B w a c es) {k : Nat} (hk : k < es.length) :
    ∃ b, a = some ⟨b, 0, none⟩ ∧ b < w.heap.size ∧ B ≤ b ∧ w.cell? ⟨b, k * 5, none⟩ = some (.int .i64 es[k].f) ∧ w.cell? ⟨b, k * 5 + 1, none⟩ = some (.int .i64 es[k].t) ∧ w.cell? ⟨b, k * 5 + 2, none⟩ = some (.int .i64 es[k].l) ∧ w.cell? ⟨b, k * 5 + 3, none⟩ = some (.int .i64 es[k].d) ∧ w.cell? ⟨b, k * 5 + 4, none⟩ = some (.int .i8 es[k].y) := by
  have h0 : w.ownsRow B 38 5 (.slice a es.length c) es.length (ecells es) := h
  rcases h0.2 with ⟨-, e⟩ | ⟨b, cap, cur, e, g1, -⟩
  · omega
  · injection e with e1 e2 e3
    subst e1
    have hb := (h0.lt b rfl).2
    have k5 : ∀ j, j < 5 → w.cell? ⟨b, k * 5 + j, none⟩ = es[k].cells[j]? := fun j hj => by
      rw [h0.cellAt _ (by have : k * 5 + j < (k + 1) * 5 := by omega
                          exact Nat.lt_of_lt_of_le this (Nat.mul_le_mul_right 5 hk)), ecells_at es k hk j hj]
    exact ⟨b, rfl, hb, g1, k5 0 (by omega), k5 1 (by omega), k5 2 (by omega), k5 3 (by omega), k5 4 (by omega)⟩
theorem EOwn.up {B c : Nat} {w w' : World} {a : Option Addr} {es : List Ed} (h : EOwn B w a c es) (hb : Below w.heap.size w w') : EOwn B w' a c es := row_up h hb
/-- The list and the table that the statements wake by. -/
def wl : List O := [⟨1, 1, 0, 0, 0⟩, ⟨12, 2, 1, 1, 0⟩, ⟨2, 1, 2, 1, 0⟩, ⟨17, 0, 1, 0, 0⟩]
def wt4 : Tab := ⟨fun _ => 1, fun k => if k = 1 then 3 else if k = 2 then 2 else 1, fun _ => 1, 0⟩
theorem wl_ok : ∀ o ∈ wl, o.Ok := fun o h => by
  simp only [wl, List.mem_cons, List.not_mem_nil, or_false] at h
  rcases h with rfl | rfl | rfl | rfl <;> constructor <;> decide
theorem wl_lis : lisE wt4 wl = 0 := by decide
theorem wl_len : (ofE wt4 wl).length = 6 := by kernel_rfl
theorem wl_0 : (ofE wt4 wl)[0]? = some ⟨0, 1, 1, 0, 0⟩ := by kernel_rfl
theorem wl_3 : (ofE wt4 wl)[3]? = some ⟨1, 2, 3, 0, 0⟩ := by kernel_rfl
abbrev wlC : Array Value := #[.int .i8 1, .int .u8 1, .int .u8 0, .int .u8 0, .int .i64 0, .int .i8 12, .int .u8 2, .int .u8 1, .int .u8 1, .int .i64 0, .int .i8 2, .int .u8 1, .int .u8 2, .int .u8 1, .int .i64 0, .int .i8 17, .int .u8 0, .int .u8 1, .int .u8 0, .int .i64 0]
theorem wl_at (w : World) (t : TypeId) : OpsAt (w.alloc (.cells wlC t)) (some ⟨w.heap.size, 0, none⟩) wl := by
  have h := At.new w wlC t
  refine ⟨wl_ok, by decide, fun _ => ⟨w.heap.size, 0, rfl, h.lt, fun i hi => ?_⟩⟩
  have hi : i < 4 := hi
  match i, hi with
  | 0, _ => exact ⟨h.c 0 _ rfl, h.c 1 _ rfl, h.c 2 _ rfl, h.c 3 _ rfl, h.c 4 _ rfl⟩
  | 1, _ => exact ⟨h.c 5 _ rfl, h.c 6 _ rfl, h.c 7 _ rfl, h.c 8 _ rfl, h.c 9 _ rfl⟩
  | 2, _ => exact ⟨h.c 10 _ rfl, h.c 11 _ rfl, h.c 12 _ rfl, h.c 13 _ rfl, h.c 14 _ rfl⟩
  | 3, _ => exact ⟨h.c 15 _ rfl, h.c 16 _ rfl, h.c 17 _ rfl, h.c 18 _ rfl, h.c 19 _ rfl⟩
set_option maxHeartbeats 4000000 in
theorem wakes_any (w : World) (hG : Bnds w) : Calls Tryd.prog 14 #[] w fun e w' => e = .returned (.bool true) ∧ Below w.heap.size w w' := by
  have HF : Hid (∀ W, Below w.heap.size w W → OpsAt W (some ⟨w.heap.size, 0, none⟩) wl → Calls Tryd.prog 9 #[.slice (some ⟨w.heap.size, 0, none⟩) 4 4, .agg #[.int .i64 1, .int .i64 1, .int .i64 1, .int .i64 1, .int .i64 1, .int .i64 3, .int .i64 2, .int .i64 1, .int .i64 1, .int .i64 1, .int .i64 1, .int .i64 1, .int .i64 0]] W fun e w' => ∃ b c, e = .returned (.tuple #[.slice (some ⟨b, 0, none⟩) 6 c, .int .i64 0]) ∧ b < w'.heap.size ∧ (w'.cell? ⟨b, 0, none⟩ = some (.int .i64 0) ∧ w'.cell? ⟨b, 1, none⟩ = some (.int .i64 1) ∧ w'.cell? ⟨b, 2, none⟩ = some (.int .i64 1) ∧ w'.cell? ⟨b, 3, none⟩ = some (.int .i64 0) ∧ w'.cell? ⟨b, 4, none⟩ = some (.int .i8 0)) ∧ (w'.cell? ⟨b, 15, none⟩ = some (.int .i64 1) ∧ w'.cell? ⟨b, 16, none⟩ = some (.int .i64 2) ∧ w'.cell? ⟨b, 17, none⟩ = some (.int .i64 3) ∧ w'.cell? ⟨b, 18, none⟩ = some (.int .i64 0) ∧ w'.cell? ⟨b, 19, none⟩ = some (.int .i8 0)) ∧ Below W.heap.size W w') := fun W hb ho => by
    refine (of_any _ 4 wl wt4 W ho (by decide) (hG.below hb hG.big)).mono ?_
    rintro e w' ⟨a, c, rfl, h1, h2⟩
    have e1 : erE wt4 wl (ofE wt4 wl) = ofE wt4 wl := by unfold erE; rw [if_pos wl_lis]
    rw [e1] at h1 ⊢
    have hl := wl_len
    obtain ⟨b, rfl, l1, -, f0, f1, f2, f3, f4⟩ := eOwn_at h1 (k := 0) (by omega)
    obtain ⟨b', e, -, -, g0, g1, g2, g3, g4⟩ := eOwn_at h1 (k := 3) (by omega)
    cases e
    have i0 : (ofE wt4 wl)[0]'(by omega) = ⟨0, 1, 1, 0, 0⟩ := by have := wl_0; rw [List.getElem?_eq_getElem (by omega)] at this; exact Option.some.inj this
    have i3 : (ofE wt4 wl)[3]'(by omega) = ⟨1, 2, 3, 0, 0⟩ := by have := wl_3; rw [List.getElem?_eq_getElem (by omega)] at this; exact Option.some.inj this
    rw [i0] at f0 f1 f2 f3 f4
    rw [i3] at g0 g1 g2 g3 g4
    exact ⟨b, c, by rw [hl, wl_lis], l1, ⟨f0, f1, f2, f3, f4⟩, ⟨g0, g1, g2, g3, g4⟩, h2⟩
  have HW : Hid (OpsAt (w.alloc (.cells wlC 40)) (some ⟨w.heap.size, 0, none⟩) wl) := wl_at w 40
  clear hG
  go_enter Tryd.func14, Tryd.ntmps14
  go_wp2_with (first
    | (go_at_call 9; refine Calls.mono (HF.out _ (by go_grown) (HW.out.below (by go_grown))) ?_; rintro e w1 ⟨b, c, rfl, bl, ⟨f0, f1, f2, f3, f4⟩, ⟨g0, g1, g2, g3, g4⟩, hb⟩; have HB : Hid (Below w.heap.size w w1) := Below.trans (by go_grown) (hb.mono (by simp; omega)); clear hb HF HW))
  go_ret
  exact ⟨rfl, HB.out⟩
end Go.Proofs.YtccakjijoadjkaaDoor.Dp

namespace Go.Proofs.YtccakjijoadjkaaDoor.Dp
open Go.ChangeShapes Go.WideShapes Go.ChangeAt Go.RowKit
open _root_.Go.Proofs.YtccakjijoadjkaaDoor.Op _root_.Go.Proofs.YtccakjijoadjkaaDoor.So
open _root_.Go.Proofs.YtccakjijoadjkaaDoor.Tb (Tab TabAt)
set_option maxRecDepth 20000

theorem wrapU (n : Int) : IntKind.u32.wrap n = n % 4294967296 := by simp [IntKind.wrap, IntKind.bits, IntKind.signed]
theorem toNatU (x : Nat) (hx : x < 4294967296) : (BitVec.ofInt 32 (x : Int)).toNat = x := by
  rw [BitVec.toNat_ofInt]
  omega
theorem andU (x y : Nat) (hx : x < 4294967296) (hy : y < 4294967296) : bits .and .u32 (x : Int) (y : Int) = ((x &&& y : Nat) : Int) := by
  show IntKind.u32.wrap ((BitVec.ofInt 32 (x : Int) &&& BitVec.ofInt 32 (y : Int)).toNat : Nat) = _
  rw [BitVec.toNat_and, toNatU x hx, toNatU y hy, wrapU]
  have : x &&& y ≤ x := Nat.and_le_left
  omega
theorem orU (x y : Nat) (hx : x < 4294967296) (hy : y < 4294967296) : bits .or .u32 (x : Int) (y : Int) = ((x ||| y : Nat) : Int) := by
  show IntKind.u32.wrap ((BitVec.ofInt 32 (x : Int) ||| BitVec.ofInt 32 (y : Int)).toNat : Nat) = _
  rw [BitVec.toNat_or, toNatU x hx, toNatU y hy, wrapU]
  have h : x ||| y < 2 ^ 32 := Nat.or_lt_two_pow (by simpa using hx) (by simpa using hy)
  have h : x ||| y < 4294967296 := h
  omega
theorem sh_nat (d : Nat) (h : d ≤ 31) : sh (d : Int) = ((2 ^ d : Nat) : Int) := by
  unfold sh
  rw [Int.toNat_natCast, Nat.min_eq_left (by omega)]
  have h1 : (2 : Nat) ^ d < 2 ^ 32 := Nat.pow_lt_pow_right (by decide) (by omega)
  have h2 : ((2 ^ d : Nat) : Int) = (2 : Int) ^ d := by simp
  rw [← h2]
  have h3 : (2 : Nat) ^ 32 = 4294967296 := by decide
  generalize (2 : Nat) ^ d = p at *
  omega
theorem pow_lt (d : Nat) (h : d ≤ 31) : 2 ^ d < 4294967296 := by
  have h1 : (2 : Nat) ^ d < 2 ^ 32 := Nat.pow_lt_pow_right (by decide) (by omega)
  have h3 : (2 : Nat) ^ 32 = 4294967296 := by decide
  omega
/-- A set of registers as a word. -/
structure Msk (m : Int) (P : Nat → Prop) : Prop where
  ex : ∃ x : Nat, m = x ∧ x < 4294967296 ∧ ∀ d, x.testBit d = true ↔ P d
theorem Msk.zero : Msk 0 (fun _ => False) := ⟨0, rfl, by decide, fun d => by simp⟩
theorem Msk.one (d : Nat) (h : d ≤ 31) : Msk (sh (d : Int)) (fun k => k = d) := ⟨2 ^ d, sh_nat d h, pow_lt d h, fun k => by rw [Nat.testBit_two_pow]; simp [eq_comm]⟩
theorem Msk.or {m n : Int} {P Q : Nat → Prop} (h : Msk m P) (g : Msk n Q) : Msk (bits .or .u32 m n) (fun k => P k ∨ Q k) := by
  obtain ⟨x, rfl, hx, h1⟩ := h.ex
  obtain ⟨y, rfl, hy, h2⟩ := g.ex
  refine ⟨x ||| y, orU x y hx hy, ?_, fun d => ?_⟩
  · have h : x ||| y < 2 ^ 32 := Nat.or_lt_two_pow (by simpa using hx) (by simpa using hy)
    exact h
  · rw [Nat.testBit_or, Bool.or_eq_true, h1, h2]
theorem Msk.and {m n : Int} {P Q : Nat → Prop} (h : Msk m P) (g : Msk n Q) : (bits .and .u32 m n != 0) = true ↔ ∃ d, P d ∧ Q d := by
  obtain ⟨x, rfl, hx, h1⟩ := h.ex
  obtain ⟨y, rfl, hy, h2⟩ := g.ex
  rw [andU x y hx hy]
  constructor
  · intro hne
    have hne : ¬ (x &&& y) = 0 := fun e => by rw [e] at hne; simp at hne
    obtain ⟨d, hd⟩ : ∃ d, (x &&& y).testBit d = true := by
      by_cases hz : ∃ d, (x &&& y).testBit d = true
      · exact hz
      · exfalso
        refine hne (Nat.eq_of_testBit_eq fun d => ?_)
        rw [Nat.zero_testBit]
        cases hb : (x &&& y).testBit d
        · rfl
        · exact absurd ⟨d, hb⟩ hz
    rw [Nat.testBit_and, Bool.and_eq_true] at hd
    exact ⟨d, (h1 d).1 hd.1, (h2 d).1 hd.2⟩
  · rintro ⟨d, p, q⟩
    have hb : (x &&& y).testBit d = true := by rw [Nat.testBit_and, (h1 d).2 p, (h2 d).2 q]; rfl
    have : ¬ (x &&& y) = 0 := fun e => by rw [e, Nat.zero_testBit] at hb; cases hb
    simpa using this
/-- What an operation writes and reads. -/
def wrs (o : O) (d : Nat) : Prop := wrB o = true ∧ o.d = (d : Int)
def rds (o : O) (k : K) (d : Nat) : Prop := (k.A = true ∧ o.a = (d : Int)) ∨ (k.A = true ∧ k.B = true ∧ o.b = (d : Int))
theorem okF_regs {k : K} {o : O} (h : okF k o = true) : (k.D = true → o.d ≤ 31) ∧ (k.A = true → o.a ≤ 31) ∧ (k.B = true → o.b ≤ 31) := by
  simp only [okF, Bool.and_eq_true] at h
  obtain ⟨⟨⟨h1, h2⟩, h3⟩, -⟩ := h
  refine ⟨fun e => ?_, fun e => ?_, fun e => ?_⟩
  · rw [e] at h1; simp [rH] at h1; omega
  · rw [e] at h2; simp [rH] at h2; omega
  · rw [e] at h3; simp [rH] at h3; omega
theorem msk_w (t : Tab) (o : O) (k : K) (ho : o.Ok) (hk : kOf o.op = some k) : Msk (ptOf t o k).w (wrs o) := by
  show Msk (if wrB o then sh o.d else 0) (wrs o)
  cases hw : wrB o
  · have : wrs o = fun _ => False := funext fun d => propext ⟨fun h => by rw [wrs, hw] at h; exact absurd h.1 (by decide), fun h => h.elim⟩
    rw [this]; exact Msk.zero
  · have hd : o.d ≤ 31 := by
      unfold wrB at hw
      rw [hk] at hw
      simp only [Bool.and_eq_true] at hw
      exact (okF_regs hw.1).1 hw.2
    obtain ⟨d, e⟩ : ∃ d : Nat, o.d = d := ⟨o.d.toNat, by have := ho.d0; omega⟩
    have : wrs o = fun k => k = d := funext fun j => propext ⟨fun h => by have h2 := h.2; omega, fun h => ⟨hw, by rw [e, h]⟩⟩
    rw [this, e]
    exact Msk.one d (by omega)
theorem msk_m (t : Tab) (o : O) (k : K) (ho : o.Ok) (hf : okF k o = true) : Msk (ptOf t o k).m (rds o k) := by
  show Msk (mk o (rcN k o)) (rds o k)
  obtain ⟨-, ha, hb⟩ := okF_regs hf
  obtain ⟨a, ea⟩ : ∃ a : Nat, o.a = a := ⟨o.a.toNat, by have := ho.a0; omega⟩
  obtain ⟨b, eb⟩ : ∃ b : Nat, o.b = b := ⟨o.b.toNat, by have := ho.b0; omega⟩
  cases hA : k.A
  · have e0 : rcN k o = 0 := by simp [rcN, hA]
    have : rds o k = fun _ => False := funext fun d => propext ⟨fun h => by rcases h with h | h <;> (rw [hA] at h; exact absurd h.1 (by decide)), fun h => h.elim⟩
    rw [e0, this]; exact Msk.zero
  · have m1 : Msk (mk o 1) (fun k => False ∨ k = a) := by
      show Msk (bits .or .u32 0 (sh (rf o 0))) _
      refine Msk.zero.or ?_
      have : rf o 0 = (a : Int) := ea
      rw [this]
      exact Msk.one a (by have := ha hA; omega)
    by_cases h2 : (k.B && !(o.a == o.b)) = true
    · have e2 : rcN k o = 2 := by simp only [rcN, hA, h2, if_true]
      simp only [Bool.and_eq_true] at h2
      have m2 : Msk (mk o 2) (fun k => (False ∨ k = a) ∨ k = b) := by
        show Msk (bits .or .u32 (mk o 1) (sh (rf o 1))) _
        refine m1.or ?_
        have : rf o 1 = (b : Int) := eb
        rw [this]
        exact Msk.one b (by have := hb h2.1; omega)
      have : rds o k = fun k => (False ∨ k = a) ∨ k = b := funext fun d => propext ⟨fun h => by
        rcases h with h | h
        · left; right; have := h.2; omega
        · right; have := h.2.2; omega, fun h => by
        rcases h with (h | h) | h
        · exact h.elim
        · left; exact ⟨hA, by omega⟩
        · right; exact ⟨hA, h2.1, by omega⟩⟩
      rw [e2, this]; exact m2
    · have h2' : (k.B && !(o.a == o.b)) = false := by simpa using h2
      have e1 : rcN k o = 1 := by simp [rcN, hA, h2']
      have : rds o k = fun k => False ∨ k = a := funext fun d => propext ⟨fun h => by
        rcases h with h | h
        · right; have := h.2; omega
        · right
          have hB := h.2.1
          rw [hB] at h2'
          have : o.a = o.b := by simpa using h2'
          have := h.2.2
          omega, fun h => by
        rcases h with h | h
        · exact h.elim
        · left; exact ⟨hA, by omega⟩⟩
      rw [e1, this]; exact m1
end Go.Proofs.YtccakjijoadjkaaDoor.Dp

namespace Go.Proofs.YtccakjijoadjkaaDoor.Sm
open Go.ChangeShapes Go.WideShapes Go.ChangeAt Go.RowKit
open _root_.Go.Proofs.YtccakjijoadjkaaDoor.Op _root_.Go.Proofs.YtccakjijoadjkaaDoor.So
open _root_.Go.Proofs.YtccakjijoadjkaaDoor.Dp (wrs rds ordB)
set_option maxRecDepth 20000

/-- What an operation of a list reads and writes. -/
def rA (o : O) : Prop := 2 ≤ o.op
def rB (o : O) : Prop := (2 ≤ o.op ∧ o.op ≤ 10) ∨ (12 ≤ o.op ∧ o.op ≤ 14) ∨ o.op = 16
def rdO (o : O) (d : Nat) : Prop := (rA o ∧ o.a = (d : Int)) ∨ (rB o ∧ o.b = (d : Int))
def wrO (o : O) (d : Nat) : Prop := o.op ≤ 15 ∧ o.d = (d : Int)
/-- No dependence. -/
structure Ind (a b : O) : Prop where
  pr : ¬ (ordB a.op = true ∧ ordB b.op = true)
  tr : ∀ d, ¬ (wrO a d ∧ rdO b d)
  an : ∀ d, ¬ (rdO a d ∧ wrO b d)
  ou : ∀ d, ¬ (wrO a d ∧ wrO b d)
  me : (a.op = 15 ∨ a.op = 16) → (b.op = 15 ∨ b.op = 16) → (a.op = 16 ∨ b.op = 16) → a.a = b.a ∧ ¬ a.im % 256 = b.im % 256
structure Co (M N : Ma) : Prop where
  r : M.r = N.r
  m : M.m = N.m
  p : M.pr = N.pr
theorem Co.refl (M : Ma) : Co M M := ⟨rfl, rfl, rfl⟩
theorem val_co {M N : Ma} (h : Co M N) (o : O) : valO o M = valO o N := by unfold valO; rw [h.r, h.m]
theorem trap_co {M N : Ma} (h : Co M N) (o : O) : trapO o M = trapO o N := by unfold trapO; rw [h.r]
theorem land_co {M N : Ma} (h : Co M N) (o : O) (v : Int) : Co (landO o v M) (landO o v N) := by
  unfold landO
  split
  · exact ⟨h.r, by show upd M.m _ v = upd N.m _ v; rw [h.r, h.m], h.p⟩
  · split
    · exact ⟨h.r, h.m, by show M.pr ++ [v] = N.pr ++ [v]; rw [h.p]⟩
    · exact ⟨by show upd M.r _ v = upd N.r _ v; rw [h.r], h.m, h.p⟩
theorem land_e (o : O) (v : Int) (M : Ma) : (landO o v M).e = M.e ∧ (landO o v M).b = M.b ∧ (landO o v M).y = M.y ∧ (landO o v M).o = M.o := by
  unfold landO
  split
  · exact ⟨rfl, rfl, rfl, rfl⟩
  · split <;> exact ⟨rfl, rfl, rfl, rfl⟩
/-- The operations one behind the other. -/
def ex : List O → Ma → Ma
  | [], M => M
  | o :: l, M => if trapO o M = true then { M with e := 101 } else ex l (landO o (valO o M) M)
theorem ex_co : ∀ (l : List O) {M N : Ma}, Co M N → M.e = N.e → Co (ex l M) (ex l N) ∧ (ex l M).e = (ex l N).e
  | [], M, N, h, he => ⟨h, he⟩
  | o :: l, M, N, h, he => by
    unfold ex
    rw [trap_co h o]
    split
    · exact ⟨⟨h.r, h.m, h.p⟩, rfl⟩
    · rw [val_co h o]
      exact ex_co l (land_co h o _) (by rw [(land_e o _ M).1, (land_e o _ N).1]; exact he)
theorem ex_e : ∀ (l : List O) {M : Ma}, M.e = 100 → (ex l M).e = 100 ∨ (ex l M).e = 101
  | [], M, h => .inl h
  | o :: l, M, h => by
    unfold ex
    split
    · exact .inr rfl
    · exact ex_e l (by rw [(land_e o _ M).1]; exact h)
/-- A program of one block that halts: its run is that of its operations. -/
structure Rn (E R : Ma) : Prop where
  bad : E.e = 101 → R.e = 101 ∧ R.pr = E.pr
  good : ¬ E.e = 101 → R.e = 0 ∧ R.r = E.r ∧ R.m = E.m ∧ R.pr = E.pr
theorem run_ex (x : Bk) (hf : x.fin = 2) : ∀ (k n : Nat) (M : Ma), M.b = 0 → M.y = false → M.e = 100 → M.o + k = x.ops.length → k < n → Rn (ex (x.ops.drop M.o) M) (runM [x] n M)
  | 0, n + 1, M, hb, hy, he, hk, hn => by
    have hd : x.ops.drop M.o = [] := List.drop_eq_nil_of_le (by omega)
    have hl : (lst x false)[M.o]? = none := List.getElem?_eq_none (by show x.ops.length ≤ M.o; omega)
    have ht : trapB [x] M = false := by simp [trapB, listM, hb, hy, hl]
    have hs : stepM [x] M = { endM x M with s := M.s + 1 } := by simp [stepM, nextM, hb, hy, hl]
    have h2 : endM x M = { M with e := 0, v := M.r x.a.toNat } := by simp [endM, hf]
    have hr : runM [x] (n + 1) M = runM [x] n (stepM [x] M) := by simp [runM, he, ht]
    rw [hd, hr, hs, h2, run_over (by simp)]
    refine ⟨fun h => ?_, fun _ => ⟨rfl, rfl, rfl, rfl⟩⟩
    have h : M.e = 101 := h
    omega
  | k + 1, n + 1, M, hb, hy, he, hk, hn => by
    have hlt : M.o < x.ops.length := by omega
    have hl : (lst x false)[M.o]? = some x.ops[M.o] := List.getElem?_eq_getElem (l := x.ops) hlt
    have ht : trapB [x] M = trapO x.ops[M.o] M := by simp [trapB, listM, hb, hy, hl]
    have hs : stepM [x] M = { opM x.ops[M.o] M with s := M.s + 1 } := by simp [stepM, nextM, hb, hy, hl]
    rw [List.drop_eq_getElem_cons hlt]
    generalize x.ops[M.o] = o at *
    unfold ex
    cases htr : trapO o M
    · rw [htr] at ht
      have hr : runM [x] (n + 1) M = runM [x] n (stepM [x] M) := by simp [runM, he, ht]
      rw [if_neg (by decide), hr, hs]
      obtain ⟨e1, e2, e3, e4⟩ := land_e o (valO o M) M
      have ih := run_ex x hf k n { opM o M with s := M.s + 1 } (by show (landO o (valO o M) M).b = 0; rw [e2]; exact hb) (by show (landO o (valO o M) M).y = false; rw [e3]; exact hy) (by show (landO o (valO o M) M).e = 100; rw [e1]; exact he) (by show M.o + 1 + k = _; omega) (by omega)
      obtain ⟨c1, c2⟩ := ex_co (x.ops.drop (M.o + 1)) (M := { opM o M with s := M.s + 1 }) (N := landO o (valO o M) M) ⟨rfl, rfl, rfl⟩ rfl
      have ih : Rn (ex (x.ops.drop (M.o + 1)) { opM o M with s := M.s + 1 }) (runM [x] n { opM o M with s := M.s + 1 }) := ih
      exact ⟨fun h => by
        obtain ⟨h1, h2⟩ := ih.bad (by rw [c2]; exact h)
        exact ⟨h1, h2.trans c1.p⟩, fun h => by
        obtain ⟨h1, h2, h3, h4⟩ := ih.good (by rw [c2]; exact h)
        exact ⟨h1, h2.trans c1.r, h3.trans c1.m, h4.trans c1.p⟩⟩
    · rw [htr] at ht
      have hr : runM [x] (n + 1) M = { M with e := 101 } := by simp [runM, he, ht]
      rw [if_pos rfl, hr]
      exact ⟨fun _ => ⟨rfl, rfl⟩, fun h => absurd rfl h⟩
/-- The same prints, the same trap, and without one the same state. -/
structure Sw (E F : Ma) : Prop where
  e : E.e = F.e
  p : E.pr = F.pr
  s : ¬ E.e = 101 → E.r = F.r ∧ E.m = F.m
theorem Sw.of {E F : Ma} (h : Co E F) (he : E.e = F.e) : Sw E F := ⟨he, h.p, fun _ => ⟨h.r, h.m⟩⟩
theorem ex_pre (l1 l2 : List O) (h : ∀ M : Ma, M.e = 100 → Sw (ex l1 M) (ex l2 M)) : ∀ (p : List O) (M : Ma), M.e = 100 → Sw (ex (p ++ l1) M) (ex (p ++ l2) M)
  | [], M, he => h M he
  | o :: p, M, he => by
    show Sw (ex (o :: (p ++ l1)) M) (ex (o :: (p ++ l2)) M)
    unfold ex
    split
    · exact ⟨rfl, rfl, fun h => absurd rfl h⟩
    · exact ex_pre l1 l2 h p _ (by rw [(land_e o _ M).1]; exact he)
/-- Two states that an operation can't tell apart. -/
structure Ag (o : O) (M N : Ma) : Prop where
  a : rA o → M.r o.a.toNat = N.r o.a.toNat
  b : rB o → M.r o.b.toNat = N.r o.b.toNat
  m : o.op = 15 → M.m (cellN (M.r o.a.toNat) o.im) = N.m (cellN (M.r o.a.toNat) o.im)
theorem rk_move (x y : Int) : rkV 11 x y = x := by simp [rkV]
theorem val_ag {o : O} {M N : Ma} (h : Ag o M N) (ho : 1 ≤ o.op ∧ o.op ≤ 17) : valO o M = valO o N := by
  obtain ⟨h1, h2⟩ := ho
  unfold valO
  by_cases c1 : o.op = 1
  · rw [if_pos c1, if_pos c1]
  rw [if_neg c1, if_neg c1]
  have ha := h.a (by unfold rA; omega)
  by_cases c15 : o.op = 15
  · rw [if_pos c15, if_pos c15, h.m c15, ha]
  rw [if_neg c15, if_neg c15]
  by_cases c16 : o.op = 16
  · rw [if_pos c16, if_pos c16]; exact h.b (.inr (.inr c16))
  rw [if_neg c16, if_neg c16]
  by_cases c17 : o.op = 17
  · rw [if_pos c17, if_pos c17]; exact ha
  rw [if_neg c17, if_neg c17]
  by_cases c11 : o.op = 11
  · rw [c11, rk_move, rk_move]; exact ha
  · rw [ha, h.b (by unfold rB; omega)]
theorem trap_ag {o : O} {M N : Ma} (h : Ag o M N) : trapO o M = trapO o N := by
  unfold trapO
  by_cases c : o.op = 13 ∨ o.op = 14
  · rw [h.b (by unfold rB; omega)]
  · simp [c]
theorem upd_comm {f : Nat → Int} {i j : Nat} (u v : Int) (h : ¬ i = j) : upd (upd f i u) j v = upd (upd f j v) i u := by
  funext k
  unfold upd
  by_cases h1 : k = j
  · rw [if_pos h1, if_neg (by omega), if_pos h1]
  · rw [if_neg h1]
    by_cases h2 : k = i
    · rw [if_pos h2, if_pos h2]
    · rw [if_neg h2, if_neg h2, if_neg h1]
theorem land_m {o : O} (h : o.op = 16) (v : Int) (M : Ma) : landO o v M = { M with m := upd M.m (cellN (M.r o.a.toNat) o.im) v } := by unfold landO; rw [if_pos h]
theorem land_p {o : O} (h : o.op = 17) (v : Int) (M : Ma) : landO o v M = { M with pr := M.pr ++ [v] } := by unfold landO; rw [if_neg (by omega), if_pos h]
theorem land_r {o : O} (h : o.op ≤ 15) (v : Int) (M : Ma) : landO o v M = { M with r := upd M.r o.d.toNat v } := by unfold landO; rw [if_neg (by omega), if_neg (by omega)]
theorem cell_far {x y i j : Int} (h : x = y) (hij : ¬ i % 256 = j % 256) : ¬ cellN x i = cellN y j := by
  subst h
  unfold cellN
  omega
/-- An operation can't tell whether another on which it does not depend was done. -/
theorem ag_land {a b : O} (hb : OkM b) (ha : OkM a) (M : Ma) (va : Int) (tr : ∀ d, ¬ (wrO a d ∧ rdO b d)) (me : a.op = 16 → b.op = 15 → a.a = b.a ∧ ¬ a.im % 256 = b.im % 256) : Ag b M (landO a va M) := by
  have k : ∀ (c : Int), 0 ≤ c → (∀ d : Nat, c = d → rdO b d) → M.r c.toNat = (landO a va M).r c.toNat := fun c hc hr => by
    by_cases h15 : a.op ≤ 15
    · rw [land_r h15]
      refine (upd_other _ _ fun e => ?_).symm
      exact tr c.toNat ⟨⟨h15, by have := ha.d.1; omega⟩, hr _ (by omega)⟩
    · by_cases h16 : a.op = 16
      · rw [land_m h16]
      · have := ha.op.2
        rw [land_p (by omega)]
  refine ⟨fun h => k b.a hb.a.1 fun d e => .inl ⟨h, e⟩, fun h => k b.b hb.b.1 fun d e => .inr ⟨h, e⟩, fun h => ?_⟩
  by_cases h16 : a.op = 16
  · rw [land_m h16]
    obtain ⟨e1, e2⟩ := me h16 h
    exact (upd_other _ _ fun e => cell_far (by rw [e1]) e2 e.symm).symm
  · by_cases h15 : a.op ≤ 15
    · rw [land_r h15]
    · have := ha.op.2
      rw [land_p (by omega)]
theorem swap_two {a b : O} (ha : OkM a) (hb : OkM b) (h : Ind a b) (q : List O) (M : Ma) : Sw (ex (a :: b :: q) M) (ex (b :: a :: q) M) := by
  have gb : ∀ v, Ag b M (landO a v M) := fun v => ag_land hb ha M v h.tr fun h1 h2 => h.me (.inr h1) (.inl h2) (.inl h1)
  have ga : ∀ v, Ag a M (landO b v M) := fun v => ag_land ha hb M v (fun d hd => h.an d ⟨hd.2, hd.1⟩) fun h1 h2 => by
    obtain ⟨e1, e2⟩ := h.me (.inl h2) (.inr h1) (.inr h1)
    exact ⟨e1.symm, fun e => e2 e.symm⟩
  have ob := ha.op
  have oa := hb.op
  have tb : ∀ v, trapO b (landO a v M) = trapO b M := fun v => (trap_ag (gb v)).symm
  have ta : ∀ v, trapO a (landO b v M) = trapO a M := fun v => (trap_ag (ga v)).symm
  have vb : ∀ v, valO b (landO a v M) = valO b M := fun v => (val_ag (gb v) oa).symm
  have va : ∀ v, valO a (landO b v M) = valO a M := fun v => (val_ag (ga v) ob).symm
  have np : ∀ o v, ¬ ordB o.op = true → (landO o v M).pr = M.pr := fun o v ho => by
    have h17 : ¬ o.op = 17 := fun e => ho (by rw [e]; decide)
    unfold landO
    split
    · rfl
    · rfl
  have tro : ∀ o, trapO o M = true → ordB o.op = true := fun o ht => by
    simp only [trapO, decide_eq_true_eq] at ht
    rcases ht.1 with e | e <;> rw [e] <;> decide
  have e1 : ex (a :: b :: q) M = if trapO a M = true then { M with e := 101 } else if trapO b M = true then { landO a (valO a M) M with e := 101 } else ex q (landO b (valO b M) (landO a (valO a M) M)) := by
    show (if trapO a M = true then _ else ex (b :: q) (landO a (valO a M) M)) = _
    split
    · rfl
    · show (if trapO b (landO a (valO a M) M) = true then _ else ex q (landO b (valO b (landO a (valO a M) M)) (landO a (valO a M) M))) = _
      rw [tb, vb]
  have e2 : ex (b :: a :: q) M = if trapO b M = true then { M with e := 101 } else if trapO a M = true then { landO b (valO b M) M with e := 101 } else ex q (landO a (valO a M) (landO b (valO b M) M)) := by
    show (if trapO b M = true then _ else ex (a :: q) (landO b (valO b M) M)) = _
    split
    · rfl
    · show (if trapO a (landO b (valO b M) M) = true then _ else ex q (landO a (valO a (landO b (valO b M) M)) (landO b (valO b M) M))) = _
      rw [ta, va]
  rw [e1, e2]
  cases hta : trapO a M
  · cases htb : trapO b M
    · rw [if_neg (by decide), if_neg (by decide), if_neg (by decide), if_neg (by decide)]
      generalize valO a M = x
      generalize valO b M = y
      have ga := ga y
      have gb := gb x
      have hco : Co (landO b y (landO a x M)) (landO a x (landO b y M)) := by
        rcases (show a.op ≤ 15 ∨ a.op = 16 ∨ a.op = 17 by omega) with h1 | h1 | h1
        · rcases (show b.op ≤ 15 ∨ b.op = 16 ∨ b.op = 17 by omega) with h2 | h2 | h2
          · rw [land_r h2, land_r h1, land_r h1, land_r h2]
            refine ⟨upd_comm x y fun e => ?_, rfl, rfl⟩
            exact h.ou a.d.toNat ⟨⟨h1, by have := ha.d.1; omega⟩, ⟨h2, by have := ha.d.1; have := hb.d.1; omega⟩⟩
          · have := gb.a (by unfold rA; omega)
            rw [land_r h1] at this
            rw [land_m h2, land_r h1, land_r h1, land_m h2]
            refine ⟨rfl, ?_, rfl⟩
            show upd M.m (cellN (upd M.r a.d.toNat x b.a.toNat) b.im) y = upd M.m (cellN (M.r b.a.toNat) b.im) y
            have this : M.r b.a.toNat = upd M.r a.d.toNat x b.a.toNat := this
            rw [← this]
          · rw [land_p h2, land_r h1, land_r h1, land_p h2]
            exact ⟨rfl, rfl, rfl⟩
        · rcases (show b.op ≤ 15 ∨ b.op = 16 ∨ b.op = 17 by omega) with h2 | h2 | h2
          · have := ga.a (by unfold rA; omega)
            rw [land_r h2] at this
            rw [land_r h2, land_m h1, land_m h1, land_r h2]
            refine ⟨rfl, ?_, rfl⟩
            show upd M.m (cellN (M.r a.a.toNat) a.im) x = upd M.m (cellN (upd M.r b.d.toNat y a.a.toNat) a.im) x
            have this : M.r a.a.toNat = upd M.r b.d.toNat y a.a.toNat := this
            rw [← this]
          · rw [land_m h2, land_m h1, land_m h1, land_m h2]
            refine ⟨rfl, ?_, rfl⟩
            obtain ⟨f1, f2⟩ := h.me (.inr h1) (.inr h2) (.inl h1)
            exact upd_comm x y (cell_far (by rw [f1]) f2)
          · rw [land_p h2, land_m h1, land_m h1, land_p h2]
            exact ⟨rfl, rfl, rfl⟩
        · rcases (show b.op ≤ 15 ∨ b.op = 16 ∨ b.op = 17 by omega) with h2 | h2 | h2
          · rw [land_r h2, land_p h1, land_p h1, land_r h2]
            exact ⟨rfl, rfl, rfl⟩
          · rw [land_m h2, land_p h1, land_p h1, land_m h2]
            exact ⟨rfl, rfl, rfl⟩
          · exact absurd ⟨by rw [h1]; decide, by rw [h2]; decide⟩ h.pr
      obtain ⟨c1, c2⟩ := ex_co q hco (by rw [(land_e ..).1, (land_e ..).1, (land_e ..).1, (land_e ..).1])
      exact Sw.of c1 c2
    · rw [if_neg (by decide), if_pos rfl, if_pos rfl]
      have hb' := tro b htb
      exact ⟨rfl, np a _ (fun e => h.pr ⟨e, hb'⟩), fun h => absurd rfl h⟩
  · have ha' := tro a hta
    have hb' : ¬ ordB b.op = true := fun e => h.pr ⟨ha', e⟩
    have htb : trapO b M = false := by
      cases e : trapO b M
      · rfl
      · exact absurd (tro b e) hb'
    rw [if_pos rfl, htb, if_neg (by decide), if_pos rfl]
    exact ⟨rfl, (np b _ hb').symm, fun h => absurd rfl h⟩
end Go.Proofs.YtccakjijoadjkaaDoor.Sm

namespace Go.Proofs.YtccakjijoadjkaaDoor.Sm
open Go.ChangeShapes Go.WideShapes Go.ChangeAt Go.RowKit
open _root_.Go.Proofs.YtccakjijoadjkaaDoor.Op _root_.Go.Proofs.YtccakjijoadjkaaDoor.So
open _root_.Go.Proofs.YtccakjijoadjkaaDoor.Dp (wrs rds ordB Msk msk_w msk_m ptOf ptL pairE rowsP edL ofE ptsL pAt pAt_at withinE rowW cat_mem lastW Ed Rw okL bec ptsL_len)
open _root_.Go.Proofs.YtccakjijoadjkaaDoor.Tb (Tab TabAt Bnds)
set_option maxRecDepth 20000

theorem flags_all : ∀ n : Nat, 1 ≤ n → n ≤ 17 → ∀ k, kindL[n]? = some k → k.A = decide (2 ≤ n) ∧ k.B = (decide (2 ≤ n ∧ n ≤ 10) || decide (12 ≤ n ∧ n ≤ 14) || decide (n = 16)) ∧ k.D = decide (n ≤ 15)
  | 1, _, _, k, h => by cases h; decide
  | 2, _, _, k, h => by cases h; decide
  | 3, _, _, k, h => by cases h; decide
  | 4, _, _, k, h => by cases h; decide
  | 5, _, _, k, h => by cases h; decide
  | 6, _, _, k, h => by cases h; decide
  | 7, _, _, k, h => by cases h; decide
  | 8, _, _, k, h => by cases h; decide
  | 9, _, _, k, h => by cases h; decide
  | 10, _, _, k, h => by cases h; decide
  | 11, _, _, k, h => by cases h; decide
  | 12, _, _, k, h => by cases h; decide
  | 13, _, _, k, h => by cases h; decide
  | 14, _, _, k, h => by cases h; decide
  | 15, _, _, k, h => by cases h; decide
  | 16, _, _, k, h => by cases h; decide
  | 17, _, _, k, h => by cases h; decide
  | 0, h, _, _, _ => by omega
  | _ + 18, _, h, _, _ => by omega
theorem flags {o : O} {k : K} (h : kOf o.op = some k) (h1 : 1 ≤ o.op) (h2 : o.op ≤ 17) : k.A = decide (2 ≤ o.op) ∧ k.B = (decide (2 ≤ o.op ∧ o.op ≤ 10) || decide (12 ≤ o.op ∧ o.op ≤ 14) || decide (o.op = 16)) ∧ k.D = decide (o.op ≤ 15) := by
  obtain ⟨n, hn⟩ : ∃ n : Nat, o.op = n := ⟨o.op.toNat, by omega⟩
  unfold kOf at h
  rw [hn] at h h1 h2 ⊢
  rw [if_pos (by omega), Int.toNat_natCast] at h
  obtain ⟨f1, f2, f3⟩ := flags_all n (by omega) (by omega) k h
  rw [f1, f2, f3]
  refine ⟨?_, ?_, ?_⟩
  · exact decide_eq_decide.2 (by omega)
  · congr 1
    · congr 1 <;> exact decide_eq_decide.2 (by omega)
    · exact decide_eq_decide.2 (by omega)
  · exact decide_eq_decide.2 (by omega)
theorem okL_parts {o : O} (h : okL o = true) : (1 ≤ o.op ∧ o.op ≤ 17) ∧ ∃ k, kOf o.op = some k ∧ okF k o = true := by
  simp only [okL, Bool.and_eq_true, decide_eq_true_eq] at h
  refine ⟨h.1, ?_⟩
  cases hk : kOf o.op with
  | none => have := h.2; rw [okO_none hk] at this; cases this
  | some k => exact ⟨k, rfl, by rw [← okO_some hk]; exact h.2⟩
theorem okL_okP {o : O} (h : okL o = true) : okP o = true := h
theorem rds_iff {o : O} {k : K} (hk : kOf o.op = some k) (h1 : 1 ≤ o.op) (h2 : o.op ≤ 17) (d : Nat) : rdO o d → rds o k d := fun h => by
  obtain ⟨fa, fb, -⟩ := flags hk h1 h2
  rcases h with ⟨ha, e⟩ | ⟨hb, e⟩
  · exact .inl ⟨by rw [fa]; exact decide_eq_true ha, e⟩
  · refine .inr ⟨?_, ?_, e⟩
    · rw [fa]; exact decide_eq_true (by unfold rB at hb; omega)
    · rw [fb]
      simp only [Bool.or_eq_true, decide_eq_true_eq]
      unfold rB at hb
      omega
theorem wrs_iff {o : O} {k : K} (hk : kOf o.op = some k) (hf : okF k o = true) (h1 : 1 ≤ o.op) (h2 : o.op ≤ 17) (d : Nat) : wrO o d → wrs o d := fun h => by
  obtain ⟨-, -, fd⟩ := flags hk h1 h2
  refine ⟨?_, h.2⟩
  unfold wrB
  rw [hk]
  show (okF k o && k.D) = true
  rw [hf, fd]
  exact decide_eq_true h.1
theorem edL_nil {e : Ed} {rs : List Rw} (h : edL e rs = []) : ∀ r ∈ rs, r.b = false := fun r hr => by
  cases hb : r.b
  · rfl
  · exfalso
    have : (⟨e.f, e.t, r.l, e.d, r.y⟩ : Ed) ∈ edL e rs := by
      unfold edL
      exact List.mem_flatMap.2 ⟨r, hr, by rw [hb]; simp⟩
    rw [h] at this; cases this
theorem edL_from {e x : Ed} {rs : List Rw} (h : x ∈ edL e rs) : x.f = e.f ∧ x.t = e.t := by
  unfold edL at h
  obtain ⟨r, -, hx⟩ := List.mem_flatMap.1 h
  split at hx
  · rw [List.mem_singleton.1 hx]; exact ⟨rfl, rfl⟩
  · cases hx
/-- The pair's dependences are among the list's. -/
theorem pair_sub {t : Tab} {xs : List O} {i j : Nat} (hij : i < j) (hj : j < xs.length) {x : Ed} (hx : x ∈ pairE (ptsL t xs) (lastW (ptsL t xs) j) 0 (Al.meetB xs i j) i j) : x ∈ ofE t xs := by
  unfold ofE withinE
  refine cat_mem.2 ⟨j, hj, ?_⟩
  exact cat_mem.2 ⟨i, hij, hx⟩
theorem ind_of {t : Tab} {xs : List O} (hok : ∀ o ∈ xs, o.Ok ∧ okL o = true) {i : Nat} (hi : i + 1 < xs.length) (hno : ∀ x ∈ ofE t xs, ¬ (x.f = (i : Int) ∧ x.t = (i : Int) + 1)) : Ind (xs[i]'(by omega)) xs[i + 1] := by
  have hnil : pairE (ptsL t xs) (lastW (ptsL t xs) (i + 1)) 0 (Al.meetB xs i ((i + 1 : Nat) : Int)) i (i + 1) = [] := by
    cases hp : pairE (ptsL t xs) (lastW (ptsL t xs) (i + 1)) 0 (Al.meetB xs i ((i + 1 : Nat) : Int)) i (i + 1) with
    | nil => rfl
    | cons x l =>
      exfalso
      have hx : x ∈ pairE (ptsL t xs) (lastW (ptsL t xs) (i + 1)) 0 (Al.meetB xs i ((i + 1 : Nat) : Int)) i (i + 1) := by rw [hp]; exact List.mem_cons_self ..
      have h2 := edL_from hx
      refine hno x (pair_sub (by omega) hi hx) ⟨h2.1, ?_⟩
      have : x.t = ((i + 1 : Nat) : Int) := h2.2
      omega
  have hm := edL_nil hnil
  have l1 : i < (ptsL t xs).length := by rw [ptsL_len]; omega
  have l2 : i + 1 < (ptsL t xs).length := by rw [ptsL_len]; omega
  have ea : pAt (ptsL t xs) i = ptL t (xs[i]'(by omega)) := by rw [pAt_at l1]; simp [ptsL]
  have eb : pAt (ptsL t xs) (i + 1) = ptL t xs[i + 1] := by rw [pAt_at l2]; simp [ptsL]
  have el : lastW (ptsL t xs) (i + 1) = bec (lastW (ptsL t xs) i) (pAt (ptsL t xs) i) i := rfl
  rw [el, ea, eb] at hm
  have hma : Al.memB xs (i : Int) = Al.memO (xs[i]'(by omega)) := Al.memB_at (by omega)
  have hmb : Al.memB xs ((i + 1 : Nat) : Int) = Al.memO xs[i + 1] := Al.memB_at hi
  have ata : Al.atL xs (i : Int) = xs[i]'(by omega) := Al.atL_at (by omega)
  have atb : Al.atL xs ((i + 1 : Nat) : Int) = xs[i + 1] := Al.atL_at hi
  have hme : Al.meetB xs i ((i + 1 : Nat) : Int) = false := hm ⟨3, Al.meetB xs i ((i + 1 : Nat) : Int), _⟩ (by unfold rowsP; exact List.mem_cons_of_mem _ (List.mem_cons_of_mem _ (List.mem_cons_of_mem _ (List.mem_cons_self ..))))
  unfold Al.meetB Al.pairB Al.may at hme
  rw [hma, hmb, ata, atb, decide_eq_true (show (i : Int) < ((i + 1 : Nat) : Int) by omega), Bool.true_and] at hme
  obtain ⟨oa, ka⟩ := hok _ (List.getElem_mem (show i < xs.length by omega))
  obtain ⟨ob, kb⟩ := hok _ (List.getElem_mem hi)
  generalize xs[i]'(by omega) = a at *
  generalize xs[i + 1] = b at *
  obtain ⟨⟨a1, a2⟩, k, hk, hf⟩ := okL_parts ka
  obtain ⟨⟨b1, b2⟩, k', hk', hf'⟩ := okL_parts kb
  have pa : ptL t a = ptOf t a k := by unfold ptL; rw [hk]
  have pb : ptL t b = ptOf t b k' := by unfold ptL; rw [hk']
  rw [pa, pb] at hm
  have wa := msk_w t a k oa hk
  have wb := msk_w t b k' ob hk'
  have ra := msk_m t a k oa hf
  have rb := msk_m t b k' ob hf'
  have r0 := hm ⟨0, (bits BinOp.and IntKind.u32 (ptOf t a k).w (ptOf t b k').m != 0) && (bec (lastW (ptsL t xs) i) (ptOf t a k) i (ptOf t a k).r.toNat == (i : Int)), _⟩ (by unfold rowsP; exact List.mem_cons_self ..)
  have r1 := hm ⟨1, (bits BinOp.and IntKind.u32 (ptOf t a k).m (ptOf t b k').w != 0), 0⟩ (by unfold rowsP; exact List.mem_cons_of_mem _ (List.mem_cons_self ..))
  have r2 := hm ⟨2, (bits BinOp.and IntKind.u32 (ptOf t a k).w (ptOf t b k').w != 0), _⟩ (by unfold rowsP; exact List.mem_cons_of_mem _ (List.mem_cons_of_mem _ (List.mem_cons_self ..)))
  have r4 := hm ⟨4, ordB a.op && ordB b.op, 1⟩ (by unfold rowsP; exact List.mem_cons_of_mem _ (List.mem_cons_of_mem _ (List.mem_cons_of_mem _ (List.mem_cons_of_mem _ (List.mem_cons_self ..)))))
  have r0' : (bits BinOp.and IntKind.u32 (ptOf t a k).w (ptOf t b k').m != 0) = false := by
    cases hx : (bits BinOp.and IntKind.u32 (ptOf t a k).w (ptOf t b k').m != 0)
    · rfl
    · exfalso
      have r0 : (_ && _) = false := r0
      rw [hx, Bool.true_and] at r0
      obtain ⟨d, hd, -⟩ := (wa.and rb).1 hx
      have hw : ¬ (ptOf t a k).w = 0 := fun e => by
        obtain ⟨x, ex, -, hx⟩ := wa.ex
        have : x = 0 := by rw [e] at ex; omega
        subst this
        have := (hx d).2 hd
        rw [Nat.zero_testBit] at this
        cases this
      unfold bec at r0
      rw [if_neg hw] at r0
      unfold Dp.upd at r0
      rw [if_pos rfl] at r0
      simp at r0
  refine ⟨fun h => ?_, fun d h => ?_, fun d h => ?_, fun d h => ?_, fun h1 h2 h3 => ?_⟩
  · have r4 : (ordB a.op && ordB b.op) = false := r4
    rw [h.1, h.2] at r4; cases r4
  · have := (wa.and rb).2 ⟨d, wrs_iff hk hf a1 a2 d h.1, rds_iff hk' b1 b2 d h.2⟩
    rw [r0'] at this; cases this
  · have := (ra.and wb).2 ⟨d, rds_iff hk a1 a2 d h.1, wrs_iff hk' hf' b1 b2 d h.2⟩
    have r1 : (_ != _) = false := r1
    rw [r1] at this; cases this
  · have := (wa.and wb).2 ⟨d, wrs_iff hk hf a1 a2 d h.1, wrs_iff hk' hf' b1 b2 d h.2⟩
    have r2 : (_ != _) = false := r2
    rw [r2] at this; cases this
  · have m1 : Al.memO a = true := by
      unfold Al.memO
      rw [okO_some hk, hf]
      rcases h1 with e | e <;> rw [e] <;> decide
    have m2 : Al.memO b = true := by
      unfold Al.memO
      rw [okO_some hk', hf']
      rcases h2 with e | e <;> rw [e] <;> decide
    have m3 : (a.op == 16 || b.op == 16) = true := by
      rcases h3 with e | e <;> rw [e] <;> simp
    rw [m1, m2, m3] at hme
    simp only [Bool.and_self, Bool.true_and, Bool.or_eq_false_iff] at hme
    exact ⟨by simpa using hme.1.1, by simpa using hme.1.2⟩
/-- Two neighbours change places. -/
def swL (xs : List O) (i : Nat) : List O := match xs[i]?, xs[i + 1]? with | some a, some b => (xs.set i b).set (i + 1) a | _, _ => xs
theorem swL_split (p q : List O) (a b : O) : swL (p ++ a :: b :: q) p.length = p ++ b :: a :: q := by
  have e1 : (p ++ a :: b :: q)[p.length]? = some a := by simp
  have e2 : (p ++ a :: b :: q)[p.length + 1]? = some b := by rw [List.getElem?_append_right (by omega)]; simp
  unfold swL
  rw [e1, e2]
  show ((p ++ a :: b :: q).set p.length b).set (p.length + 1) a = _
  rw [List.set_append_right _ _ (Nat.le_refl _), Nat.sub_self, List.set_cons_zero, List.set_append_right _ _ (by omega), show p.length + 1 - p.length = 1 by omega]
  rfl
theorem split_at (xs : List O) (i : Nat) (h : i + 1 < xs.length) : ∃ p q, p.length = i ∧ xs = p ++ (xs[i]'(by omega)) :: xs[i + 1] :: q :=
  ⟨xs.take i, xs.drop (i + 2), by simp; omega, by
    conv => lhs; rw [← List.take_append_drop i xs, List.drop_eq_getElem_cons (show i < xs.length by omega), List.drop_eq_getElem_cons h]⟩
theorem swL_len (xs : List O) (i : Nat) : (swL xs i).length = xs.length := by
  unfold swL
  split <;> simp
theorem swL_mem {xs : List O} {i : Nat} (h : i + 1 < xs.length) {o : O} (ho : o ∈ swL xs i) : o ∈ xs := by
  obtain ⟨p, q, hp, e⟩ := split_at xs i h
  generalize xs[i]'(by omega) = a at *
  generalize xs[i + 1] = b at *
  subst e
  subst hp
  rw [swL_split] at ho
  simp only [List.mem_append, List.mem_cons] at ho ⊢
  rcases ho with h | h | h | h
  · exact .inl h
  · exact .inr (.inr (.inl h))
  · exact .inr (.inl h)
  · exact .inr (.inr (.inr h))
/-- The program of one block that halts. -/
def oneB (xs : List O) : Bk := ⟨xs, 2, 0, [], 0, 0⟩
theorem one_ck {xs : List O} (hok : ∀ o ∈ xs, okL o = true) (hl : xs.length ≤ 200) : ckP [oneB xs] = 0 := by
  have h1 : allB xs = true := List.all_eq_true.2 fun o ho => okL_okP (hok o ho)
  have h2 : ckB (oneB xs) 1 = 0 := by
    unfold ckB
    have e1 : (oneB xs).ops = xs := rfl
    rw [e1, h1]
    rfl
  have h3 : opsN [oneB xs] = 1 + xs.length := by
    unfold opsN sumTo bkN
    simp [oneB]
  unfold ckP
  rw [h3, if_neg (by simp; omega), if_neg (by simp)]
  show firstE 1 [oneB xs] = 0
  unfold firstE
  rw [if_pos h2]; rfl
theorem one_ok (xs : List O) : (oneB xs).Ok := ⟨by show (-128 : Int) ≤ 2; decide, by show (2 : Int) ≤ 127; decide, by show (0 : Int) ≤ 0; decide, by show (0 : Int) ≤ 255; decide, by show (-9223372036854775808 : Int) ≤ 0; decide, by show (0 : Int) ≤ 9223372036854775807; decide, by show (-9223372036854775808 : Int) ≤ 0; decide, by show (0 : Int) ≤ 9223372036854775807; decide⟩
theorem one_at {w : World} {b cap : Nat} {ao : Option Addr} {xs : List O} (h : OpsAt w ao xs) (hc : xs.length ≤ cap) (hA : Op.At w b #[.slice ao xs.length cap, .int .i8 2, .int .u8 0, .slice none 0 0, .int .i64 0, .int .i64 0]) : PAt w (some ⟨b, 0, none⟩) [oneB xs] := by
  refine ⟨by simp, fun _ => ⟨b, 0, rfl, hA.lt, fun i hi => ?_⟩⟩
  obtain rfl : i = 0 := by simpa using hi
  exact ⟨⟨ao, cap, none, 0⟩, ⟨hA.c 0 _ rfl, hA.c 1 _ rfl, hA.c 2 _ rfl, hA.c 3 _ rfl, hA.c 4 _ rfl, hA.c 5 _ rfl⟩, ⟨one_ok xs, h, ⟨fun o h => (by cases h), Nat.zero_le _, fun h => (by cases h)⟩, hc⟩⟩
/-- Both runs. -/
theorem swap_runs {xs : List O} {i : Nat} (hi : i + 1 < xs.length) (hl : xs.length ≤ 200) (hM : ∀ o ∈ xs, OkM o) (h : Ind (xs[i]'(by omega)) xs[i + 1]) (rs ms : List Int) :
    (runM [oneB xs] 1000 (initM rs ms)).e = (runM [oneB (swL xs i)] 1000 (initM rs ms)).e ∧ (runM [oneB xs] 1000 (initM rs ms)).pr = (runM [oneB (swL xs i)] 1000 (initM rs ms)).pr ∧ ((runM [oneB xs] 1000 (initM rs ms)).e = 0 → regL (runM [oneB xs] 1000 (initM rs ms)) = regL (runM [oneB (swL xs i)] 1000 (initM rs ms)) ∧ memL (runM [oneB xs] 1000 (initM rs ms)) = memL (runM [oneB (swL xs i)] 1000 (initM rs ms))) := by
  have r1 := run_ex (oneB xs) rfl xs.length 1000 (initM rs ms) rfl rfl rfl (by show 0 + xs.length = xs.length; omega) (by omega)
  have r2 := run_ex (oneB (swL xs i)) rfl (swL xs i).length 1000 (initM rs ms) rfl rfl rfl (by show 0 + (swL xs i).length = (swL xs i).length; omega) (by rw [swL_len]; omega)
  have r1 : Rn (ex xs (initM rs ms)) (runM [oneB xs] 1000 (initM rs ms)) := r1
  have r2 : Rn (ex (swL xs i) (initM rs ms)) (runM [oneB (swL xs i)] 1000 (initM rs ms)) := r2
  have hs : Sw (ex xs (initM rs ms)) (ex (swL xs i) (initM rs ms)) := by
    obtain ⟨p, q, hp, e⟩ := split_at xs i hi
    have ha := hM _ (List.getElem_mem (show i < xs.length by omega))
    have hb := hM _ (List.getElem_mem hi)
    generalize xs[i]'(by omega) = a at *
    generalize xs[i + 1] = b at *
    rw [e]
    subst hp
    rw [swL_split]
    exact ex_pre _ _ (fun M _ => swap_two ha hb h q M) p _ rfl
  generalize runM [oneB xs] 1000 (initM rs ms) = R1 at *
  generalize runM [oneB (swL xs i)] 1000 (initM rs ms) = R2 at *
  generalize ex xs (initM rs ms) = E at *
  generalize ex (swL xs i) (initM rs ms) = F at *
  by_cases he : E.e = 101
  · obtain ⟨a1, a2⟩ := r1.bad he
    obtain ⟨b1, b2⟩ := r2.bad (by rw [← hs.e]; exact he)
    exact ⟨by rw [a1, b1], by rw [a2, b2]; exact hs.p, fun h => by omega⟩
  · obtain ⟨a1, a2, a3, a4⟩ := r1.good he
    obtain ⟨b1, b2, b3, b4⟩ := r2.good (by rw [← hs.e]; exact he)
    obtain ⟨s1, s2⟩ := hs.s he
    refine ⟨by rw [a1, b1], by rw [a4, b4]; exact hs.p, fun _ => ⟨?_, ?_⟩⟩
    · unfold regL; rw [a2, b2, s1]
    · unfold memL; rw [a3, b3, s2]
end Go.Proofs.YtccakjijoadjkaaDoor.Sm

namespace Go.Proofs.YtccakjijoadjkaaDoor.Sm
open Go.ChangeShapes Go.WideShapes Go.ChangeAt Go.RowKit
open _root_.Go.Proofs.YtccakjijoadjkaaDoor.Op _root_.Go.Proofs.YtccakjijoadjkaaDoor.So
open _root_.Go.Proofs.YtccakjijoadjkaaDoor.Tb (Tab TabAt Bnds)
set_option maxRecDepth 20000

/-- An operation is stored. -/
def st5 (W : World) (g f : Nat) (o : O) : World := ((((W.setCell ⟨g, f, none⟩ (.int .i8 o.op)).setCell ⟨g, f + 1, none⟩ (.int .u8 o.d)).setCell ⟨g, f + 2, none⟩ (.int .u8 o.a)).setCell ⟨g, f + 3, none⟩ (.int .u8 o.b)).setCell ⟨g, f + 4, none⟩ (.int .i64 o.im)
theorem set_far (W : World) (g j k : Nat) (v : Value) (h : ¬ j = k) : (W.setCell ⟨g, j, none⟩ v).cell? ⟨g, k, none⟩ = W.cell? ⟨g, k, none⟩ := by
  rw [World.cell?_setCell_other]
  intro h'; injection h' with _ h2; exact h h2
theorem st5_far (W : World) (g f k : Nat) (o : O) (h : k < f ∨ f + 5 ≤ k) : (st5 W g f o).cell? ⟨g, k, none⟩ = W.cell? ⟨g, k, none⟩ := by
  unfold st5
  rw [set_far _ _ _ _ _ (by omega), set_far _ _ _ _ _ (by omega), set_far _ _ _ _ _ (by omega), set_far _ _ _ _ _ (by omega), set_far _ _ _ _ _ (by omega)]
theorem st5_at {W : World} {g f : Nat} {x : O} (h : OAt W g f x) (o : O) : OAt (st5 W g f o) g f o := by
  unfold st5
  refine ⟨?_, ?_, ?_, ?_, ?_⟩
  · rw [set_far _ _ _ _ _ (by omega), set_far _ _ _ _ _ (by omega), set_far _ _ _ _ _ (by omega), set_far _ _ _ _ _ (by omega)]
    exact World.cell?_setCell_same _ _ _ h.c0
  · rw [set_far _ _ _ _ _ (by omega), set_far _ _ _ _ _ (by omega), set_far _ _ _ _ _ (by omega)]
    exact World.cell?_setCell_same _ _ _ ((set_far _ _ _ _ _ (by omega)).trans h.c1)
  · rw [set_far _ _ _ _ _ (by omega), set_far _ _ _ _ _ (by omega)]
    exact World.cell?_setCell_same _ _ _ ((set_far _ _ _ _ _ (by omega)).trans ((set_far _ _ _ _ _ (by omega)).trans h.c2))
  · rw [set_far _ _ _ _ _ (by omega)]
    exact World.cell?_setCell_same _ _ _ ((set_far _ _ _ _ _ (by omega)).trans ((set_far _ _ _ _ _ (by omega)).trans ((set_far _ _ _ _ _ (by omega)).trans h.c3)))
  · exact World.cell?_setCell_same _ _ _ ((set_far _ _ _ _ _ (by omega)).trans ((set_far _ _ _ _ _ (by omega)).trans ((set_far _ _ _ _ _ (by omega)).trans ((set_far _ _ _ _ _ (by omega)).trans h.c4))))
theorem OAt.far {W : World} {g f k : Nat} {x : O} (h : OAt W g k x) (o : O) (hk : k + 5 ≤ f ∨ f + 5 ≤ k) : OAt (st5 W g f o) g k x :=
  ⟨(st5_far _ _ _ _ _ (by omega)).trans h.c0, (st5_far _ _ _ _ _ (by omega)).trans h.c1, (st5_far _ _ _ _ _ (by omega)).trans h.c2, (st5_far _ _ _ _ _ (by omega)).trans h.c3, (st5_far _ _ _ _ _ (by omega)).trans h.c4⟩
theorem st5_size (W : World) (g f : Nat) (o : O) : (st5 W g f o).heap.size = W.heap.size := by unfold st5; simp
theorem st5_below {B : Nat} {w W : World} (h : Below B w W) {g : Nat} (hg : B ≤ g) (f : Nat) (o : O) : Below B w (st5 W g f o) := ((((h.setCell hg _).setCell hg _).setCell hg _).setCell hg _).setCell hg _
/-- Two operations of a row change places. -/
theorem ops_swap {W : World} {g : Nat} {xs : List O} {i : Nat} (h : ∀ (k : Nat) (hk : k < xs.length), OAt W g (k * 5) xs[k]) (hok : ∀ o ∈ xs, o.Ok) (hlen : xs.length ≤ 8796093022208) (hg : g < W.heap.size) (hi : i + 1 < xs.length) : OpsAt (st5 (st5 W g (i * 5) xs[i + 1]) g ((i + 1) * 5) (xs[i]'(by omega))) (some ⟨g, 0, none⟩) (swL xs i) := by
  have e1 : xs[i]? = some (xs[i]'(by omega)) := List.getElem?_eq_getElem (by omega)
  have e2 : xs[i + 1]? = some xs[i + 1] := List.getElem?_eq_getElem hi
  have es : swL xs i = (xs.set i xs[i + 1]).set (i + 1) (xs[i]'(by omega)) := by unfold swL; rw [e1, e2]
  refine ⟨fun o ho => hok o (swL_mem hi ho), by rw [swL_len]; exact hlen, fun _ => ⟨g, 0, rfl, by rw [st5_size, st5_size]; exact hg, fun k hk => ?_⟩⟩
  rw [swL_len] at hk
  rw [Nat.zero_add]
  have hget : (swL xs i)[k]? = if k = i + 1 then some (xs[i]'(by omega)) else if k = i then some xs[i + 1] else some xs[k] := by
    by_cases h1 : k = i + 1
    · subst h1
      rw [es, List.getElem?_set_self (by simp; omega), if_pos rfl]
    · rw [if_neg h1]
      by_cases h2 : k = i
      · subst h2
        rw [es, List.getElem?_set_ne (by omega), List.getElem?_set_self (by omega), if_pos rfl]
      · rw [es, List.getElem?_set_ne (by omega), List.getElem?_set_ne (by omega), if_neg h2]
        exact List.getElem?_eq_getElem hk
  have hk' : k < (swL xs i).length := by rw [swL_len]; exact hk
  rw [List.getElem?_eq_getElem hk'] at hget
  by_cases h1 : k = i + 1
  · rw [if_pos h1] at hget
    rw [Option.some.inj hget]
    subst h1
    exact st5_at (OAt.far (h (i + 1) hi) _ (by omega)) _
  · rw [if_neg h1] at hget
    by_cases h2 : k = i
    · rw [if_pos h2] at hget
      rw [Option.some.inj hget]
      subst h2
      exact OAt.far (st5_at (h k (by omega)) _) _ (by omega)
    · rw [if_neg h2] at hget
      rw [Option.some.inj hget]
      exact OAt.far (OAt.far (h k hk) _ (by omega)) _ (by omega)
/-- Both machines, the one behind the other. -/
structure D2 (w W : World) (q1 q2 z : Nat) (p1 p2 : List Bk) (T1 : Nat → Prop) (M N : Ma) : Prop where
  m : MM W q1 p1 T1 M
  n : MM W q2 p2 (fun k => k = q2 ∨ k = q1) N
  t : ∀ k, T1 k → k = q1 ∨ z ≤ k
  q : w.heap.size ≤ q1 ∧ q1 < q2 ∧ q2 < z ∧ z ≤ W.heap.size
  up : Below w.heap.size w W
theorem D2.go {w W W' : World} {q1 q2 z : Nat} {p1 p2 : List Bk} {T1 T' : Nat → Prop} {M M' N : Ma} (h : D2 w W q1 q2 z p1 p2 T1 M N) (hm : MM W' q1 p1 T' M') (ht : Tn W T1 W' T') : D2 w W' q1 q2 z p1 p2 T' M' N := by
  obtain ⟨h1, h2, h3, h4⟩ := h.q
  refine ⟨hm, h.n.aside ht.f (fun k hk hq hT => ?_) (fun k _ hT => ?_), fun k hk => ?_, ⟨h1, h2, h3, Nat.le_trans h4 ht.f.size⟩, h.up.trans (ht.f.below h.up.size fun k hk hT => ?_)⟩
  · rcases h.t k hT with e | e
    · omega
    · rcases hk with e' | e' <;> omega
  · rcases h.t k hT with e | e
    · exact .inl (.inr e)
    · exact .inr (by omega)
  · rcases ht.t k hk with e | e
    · exact h.t k e
    · exact .inr (by omega)
  · rcases h.t k hT with e | e <;> omega
/-- The second machine, told what it turns alone. -/
theorem D2.n' {w W : World} {q1 q2 z : Nat} {p1 p2 : List Bk} {T1 : Nat → Prop} {M N : Ma} (h : D2 w W q1 q2 z p1 p2 T1 M N) : MM W q2 p2 (fun k => (k = q2 ∨ k = q1) ∧ q2 ≤ k) N := h.n.shrink
structure D3 (w W : World) (q1 q2 : Nat) (p1 p2 : List Bk) (M N : Ma) : Prop where
  m : ∃ T, MM W q1 p1 T M
  n : ∃ T, MM W q2 p2 T N
  up : Below w.heap.size w W
theorem D2.go2 {w W W' : World} {q1 q2 z : Nat} {p1 p2 : List Bk} {T1 T' : Nat → Prop} {M N N' : Ma} (h : D2 w W q1 q2 z p1 p2 T1 M N) (hm : MM W' q2 p2 T' N') (ht : Tn W (fun k => (k = q2 ∨ k = q1) ∧ q2 ≤ k) W' T') : D3 w W' q1 q2 p1 p2 M N' := by
  obtain ⟨h1, h2, h3, h4⟩ := h.q
  refine ⟨⟨T1, h.m.aside ht.f (fun k hk _ hT => ?_) (fun k _ hT => .inr (by omega))⟩, ⟨T', hm⟩, h.up.trans (ht.f.below h.up.size fun k hk hT => by omega)⟩
  rcases h.t k hk with e | e
  · omega
  · rcases hT.1 with e' | e' <;> omega
theorem D3.next {w W W' : World} {q1 q2 : Nat} {p1 p2 : List Bk} {M N : Ma} (h : D3 w W q1 q2 p1 p2 M N) (hb : Below W.heap.size W W') : D3 w W' q1 q2 p1 p2 M N := by
  obtain ⟨T, h1⟩ := h.m
  obtain ⟨T', h2⟩ := h.n
  exact ⟨⟨T, h1.up hb⟩, ⟨T', h2.up hb⟩, h.up.trans (hb.mono h.up.size)⟩
theorem tmod_in (m : Int) (d : Nat) (h : 0 < d) : -(d : Int) < m.tmod d ∧ m.tmod d < d := by
  rcases Int.le_total 0 m with h0 | h0
  · rw [Int.tmod_eq_emod_of_nonneg h0]
    have h1 := Int.emod_nonneg m (show (d : Int) ≠ 0 by omega)
    have h2 := Int.emod_lt_of_pos m (show (0 : Int) < d by omega)
    omega
  · have e : m.tmod d = -((-m).tmod d) := by rw [Int.neg_tmod]; omega
    rw [e, Int.tmod_eq_emod_of_nonneg (by omega)]
    have h1 := Int.emod_nonneg (-m) (show (d : Int) ≠ 0 by omega)
    have h2 := Int.emod_lt_of_pos (-m) (show (0 : Int) < d by omega)
    omega
/-- The place that is meant. -/
theorem place_of (m : Int) (n : Nat) (h : 2 ≤ n) : ∃ i : Nat, i + 1 < n ∧ ∃ r : Int, m.tmod ((n : Int) - 1) = r ∧ -((n : Int) - 1) < r ∧ r < (n : Int) - 1 ∧ (r + (n : Int) - 1).tmod ((n : Int) - 1) = (i : Int) := by
  obtain ⟨d, hd⟩ : ∃ d : Nat, (n : Int) - 1 = d := ⟨n - 1, by omega⟩
  have h1 := tmod_in m d (by omega)
  have h0 : 0 ≤ m.tmod d + (n : Int) - 1 := by omega
  have h2 := tmod_in (m.tmod d + (n : Int) - 1) d (by omega)
  have h3 : 0 ≤ (m.tmod d + (n : Int) - 1).tmod d := by
    rw [Int.tmod_eq_emod_of_nonneg h0]
    exact Int.emod_nonneg _ (by omega)
  refine ⟨((m.tmod d + (n : Int) - 1).tmod d).toNat, by omega, m.tmod d, by rw [hd], by omega, by omega, by rw [hd]; omega⟩
end Go.Proofs.YtccakjijoadjkaaDoor.Sm

namespace Go.Proofs.YtccakjijoadjkaaDoor.Sm
open Go.ChangeShapes Go.WideShapes Go.ChangeAt Go.RowKit
open _root_.Go.Proofs.YtccakjijoadjkaaDoor.Op _root_.Go.Proofs.YtccakjijoadjkaaDoor.So
open _root_.Go.Proofs.YtccakjijoadjkaaDoor.Tb (Tab TabAt Bnds)
open _root_.Go.Proofs.YtccakjijoadjkaaDoor.Dp (Ed EOwn EdOut erE ofE lisE okL eOwn_at of_any wakes_any lis_all withinE_len)
set_option maxRecDepth 20000

/-- The two boxes. -/
structure Sb (w W : World) (t : Tab) (ra : Option Addr) (rl rc : Nat) (ma : Option Addr) (ml mc : Nat) : Prop where
  t : TabAt W w.heap.size t
  s : Op.At W (w.heap.size + 1) #[.slice ra rl rc, .slice ma ml mc]
  up : Below w.heap.size w W
theorem Sb.next {w W W' : World} {t : Tab} {ra ma : Option Addr} {rl rc ml mc : Nat} (h : Sb w W t ra rl rc ma ml mc) (hb : Below W.heap.size W W') : Sb w W' t ra rl rc ma ml mc := ⟨h.t.below hb h.t.lt, h.s.below hb h.s.lt, h.up.trans (hb.mono h.up.size)⟩
theorem Sb.start (w : World) (t : Tab) (ra ma : Option Addr) (rl rc ml mc : Nat) (c : Array Value) (hc : c = t.cells) : Sb w ((w.alloc (.cells c 25)).alloc (.cells #[.slice ra rl rc, .slice ma ml mc] 35)) t ra rl rc ma ml mc := by
  subst hc
  have h1 := Tb.tabAt_new w t 25
  have h3 := Op.At.new (w.alloc (.cells t.cells 25)) #[.slice ra rl rc, .slice ma ml mc] 35
  rw [show (w.alloc (.cells t.cells 25)).heap.size = w.heap.size + 1 by simp] at h3
  exact ⟨h1.below ((Below.refl _ _).alloc (Nat.le_refl _) _) h1.lt, h3, by go_grown⟩
theorem Own.off {w w' w2 : World} {a : Option Addr} {l : List Int} (h : Own w w' a l) {X : Nat → Prop} (g : Fr X w' w2) (hx : ∀ k, w.heap.size ≤ k → ¬ X k) : NL w2 a l := h.nl.fr g fun h0 x e => hx _ (h.new h0 x e)
theorem d2_start {w w4 W w5 : World} {q1 q2 : Nat} {p1 p2 : List Bk} {M N : Ma} (hm : MM w4 q1 p1 (One q1) M) (hk : NoK w4 q1) (hq : w.heap.size ≤ q1) (hu : Below w.heap.size w w4) (hb : Below w4.heap.size w4 W) (hb5 : Below W.heap.size W w5) (hm2 : MM w5 q2 p2 (One q2) N) (hq2 : W.heap.size ≤ q2) : D2 w w5 q1 q2 w5.heap.size p1 p2 (One q1) M N := by
  have hb' : Below w4.heap.size w4 w5 := hb.trans (hb5.mono hb.size)
  have h1 := hm.mr.tl q1 rfl
  have hk5 : NoK w5 q1 := fun j i e => hk j i (by rw [(bcell hb').1 _ _ h1] at e; exact e)
  exact ⟨hm.up hb', hm2.widen (Nat.lt_of_lt_of_le h1 hb'.size) hk5, fun k e => .inl e, ⟨hq, Nat.lt_of_lt_of_le (Nat.lt_of_lt_of_le h1 hb.size) hq2, hm2.mr.tl q2 rfl, Nat.le_refl _⟩, hu.trans (hb'.mono hu.size)⟩
/-- What a run leaves, told in letters. -/
def RunPost' (w : World) (q : Nat) (ps : List Bk) (T : Nat → Prop) (M' : Ma) (E V : Int) (P K : Nat) (S : Int) (e : Ending) (w' : World) : Prop := ∃ a m c d T', e = .returned (.agg #[.int .i64 E, .int .i64 V, .slice a P c, .slice m K d, .int .i64 S]) ∧ Own w w' a M'.pr ∧ MM w' q ps T' M' ∧ Tn w T w' T'
theorem run_post' {w : World} {q : Nat} {ps : List Bk} {T : Nat → Prop} {M' : Ma} {e : Ending} {w' : World} (h : RunPost w q ps T M' e w') : RunPost' w q ps T M' M'.e (if M'.e = 0 then M'.v else 0) M'.pr.length (if M'.e = 0 then 256 else 0) (M'.s : Int) e w' := by
  obtain ⟨a, m, c, d, T', rfl, h1, -, h3, h4⟩ := h
  exact ⟨a, m, c, d, T', rfl, h1, h3, h4⟩
theorem at_two {w : World} {x y : Array Value} {t : TypeId} : Op.At ((w.alloc (.cells x t)).alloc (.cells y t)) w.heap.size x ∧ Op.At ((w.alloc (.cells x t)).alloc (.cells y t)) (w.heap.size + 1) y := by
  have h1 := (Op.At.new w x t).alloc (.cells y t)
  have h2 := Op.At.new (w.alloc (.cells x t)) y t
  rw [show (w.alloc (.cells x t)).heap.size = w.heap.size + 1 by simp] at h2
  exact ⟨h1, h2⟩
theorem two_below (w : World) (o o' : Obj) : Below w.heap.size w ((w.alloc o).alloc o') := ((Below.refl _ _).alloc (Nat.le_refl _) _).alloc (by simp) _
/-- Both outcomes kept. -/
structure Zq (w W : World) (q1 q2 : Nat) (p1 p2 : List Bk) (R1 R2 : Ma) (b : Nat) (x1 x2 : Array Value) (a6 a7 : Option Addr) : Prop where
  d : D3 w W q1 q2 p1 p2 R1 R2
  x1 : Op.At W b x1
  x2 : Op.At W (b + 1) x2
  n1 : NL W a6 R1.pr
  n2 : NL W a7 R2.pr
theorem Zq.next {w W W' : World} {q1 q2 b : Nat} {p1 p2 : List Bk} {R1 R2 : Ma} {x1 x2 : Array Value} {a6 a7 : Option Addr} (h : Zq w W q1 q2 p1 p2 R1 R2 b x1 x2 a6 a7) (hb : Below W.heap.size W W') : Zq w W' q1 q2 p1 p2 R1 R2 b x1 x2 a6 a7 := ⟨h.d.next hb, h.x1.below hb h.x1.lt, h.x2.below hb h.x2.lt, h.n1.up hb, h.n2.up hb⟩
theorem Zq.start {w W : World} {q1 q2 : Nat} {p1 p2 : List Bk} {R1 R2 : Ma} {a6 a7 : Option Addr} (h : D3 w W q1 q2 p1 p2 R1 R2) (n1 : NL W a6 R1.pr) (n2 : NL W a7 R2.pr) (x1 x2 : Array Value) (t : TypeId) : Zq w ((W.alloc (.cells x1 t)).alloc (.cells x2 t)) q1 q2 p1 p2 R1 R2 W.heap.size x1 x2 a6 a7 :=
  ⟨h.next (two_below _ _ _), at_two.1, at_two.2, n1.up (two_below _ _ _), n2.up (two_below _ _ _)⟩
/-- Both states kept, too. -/
structure Zu (w W : World) (b c : Nat) (x1 x2 y1 y2 : Array Value) (R1 R2 : Ma) (a6 a7 r1 g1 r2 g2 : Option Addr) : Prop where
  x1 : Op.At W b x1
  x2 : Op.At W (b + 1) x2
  y1 : Op.At W c y1
  y2 : Op.At W (c + 1) y2
  n1 : NL W a6 R1.pr
  n2 : NL W a7 R2.pr
  n3 : NL W r1 (regL R1)
  n4 : NL W g1 (memL R1)
  n5 : NL W r2 (regL R2)
  n6 : NL W g2 (memL R2)
  p : R1.pr.length ≤ R1.s
  up : Below w.heap.size w W
theorem Zu.next {w W W' : World} {b c : Nat} {x1 x2 y1 y2 : Array Value} {R1 R2 : Ma} {a6 a7 r1 g1 r2 g2 : Option Addr} (h : Zu w W b c x1 x2 y1 y2 R1 R2 a6 a7 r1 g1 r2 g2) (hb : Below W.heap.size W W') : Zu w W' b c x1 x2 y1 y2 R1 R2 a6 a7 r1 g1 r2 g2 :=
  ⟨h.x1.below hb h.x1.lt, h.x2.below hb h.x2.lt, h.y1.below hb h.y1.lt, h.y2.below hb h.y2.lt, h.n1.up hb, h.n2.up hb, h.n3.up hb, h.n4.up hb, h.n5.up hb, h.n6.up hb, h.p, h.up.trans (hb.mono h.up.size)⟩
theorem Zu.start {w W : World} {q1 q2 b : Nat} {p1 p2 : List Bk} {R1 R2 : Ma} {x1 x2 : Array Value} {a6 a7 r1 g1 r2 g2 : Option Addr} (h : Zq w W q1 q2 p1 p2 R1 R2 b x1 x2 a6 a7) (n3 : NL W r1 (regL R1)) (n4 : NL W g1 (memL R1)) (n5 : NL W r2 (regL R2)) (n6 : NL W g2 (memL R2)) (y1 y2 : Array Value) (t : TypeId) : Zu w ((W.alloc (.cells y1 t)).alloc (.cells y2 t)) b W.heap.size x1 x2 y1 y2 R1 R2 a6 a7 r1 g1 r2 g2 := by
  have hb := two_below W (.cells y1 t) (.cells y2 t)
  obtain ⟨T, hm⟩ := h.d.m
  exact ⟨h.x1.below hb h.x1.lt, h.x2.below hb h.x2.lt, at_two.1, at_two.2, h.n1.up hb, h.n2.up hb, n3.up hb, n4.up hb, n5.up hb, n6.up hb, hm.inv.p, h.d.up.trans (hb.mono h.d.up.size)⟩
theorem st_any {W : World} {q : Nat} {ps : List Bk} {M : Ma} (h : ∃ T, MM W q ps T M) : Calls Tryd.prog 17 #[ptr q] W fun e w' => ∃ a c b d, e = .returned (.agg #[.slice a 32 c, .slice b 256 d]) ∧ NL w' a (regL M) ∧ NL w' b (memL M) ∧ Below W.heap.size W w' := by
  obtain ⟨T, hm⟩ := h
  refine (state_any hm.mr).mono ?_
  rintro e w' ⟨a, c, b, d, rfl, o1, o2, hb⟩
  exact ⟨a, c, b, d, rfl, o1.nl, o2.nl, hb⟩
theorem erE_len' (t : Tab) (xs : List O) (h : xs.length ≤ 200) : (erE t xs (ofE t xs)).length ≤ 100000000 := by
  unfold erE
  split
  · have h1 := withinE_len xs (Dp.ptsL t xs) xs.length (by omega)
    show (Dp.withinE xs (Dp.ptsL t xs) xs.length).length ≤ _
    omega
  · simp
set_option maxHeartbeats 8000000 in
theorem swap_main (ao ra ma : Option Addr) (cap rc mc : Nat) (xs : List O) (t : Tab) (rs ms : List Int) (m : Int) (w : World) (h : OpsAt w ao xs) (hcap : xs.length ≤ cap) (hG : Bnds w) (hE : Env w) (hs : Sn w ra ma rs ms) (hr : ∀ x ∈ rs, In64 x) (hm : ∀ x ∈ ms, In64 x) (hn2 : 2 ≤ xs.length) (hn : xs.length ≤ 200) :
    Calls Tryd.prog 4 #[.slice ao xs.length cap, t.val, .agg #[.slice ra rs.length rc, .slice ma ms.length mc], .int .i64 m] w fun e w' => e = .returned (.bool true) ∧ Below w.heap.size w w' := by
  have HW : Hid (∀ W, Below w.heap.size w W → Calls Tryd.prog 14 #[] W fun e w' => e = .returned (.bool true) ∧ Below W.heap.size W w') := fun W hb => wakes_any W (hG.below hb hG.big)
  have HOf : Hid (∀ W, Below w.heap.size w W → Calls Tryd.prog 9 #[.slice ao xs.length cap, t.val] W (EdOut W (lisE t xs) (erE t xs (ofE t xs)))) := fun W hb => of_any ao cap xs t W (h.below hb) hcap (hG.below hb hG.big)
  have HIn : Hid (OpsAt w ao xs ∧ xs.length ≤ cap ∧ Env w ∧ Sn w ra ma rs ms ∧ (∀ x ∈ rs, In64 x) ∧ (∀ x ∈ ms, In64 x)) := ⟨h, hcap, hE, hs, hr, hm⟩
  have HS : Hid (Sb w ((w.alloc (.cells t.cells 25)).alloc (.cells #[.slice ra rs.length rc, .slice ma ms.length mc] 35)) t ra rs.length rc ma ms.length mc) := Sb.start w t ra ma _ rc _ mc _ rfl
  have HEl : Hid ((erE t xs (ofE t xs)).length ≤ 100000000) := erE_len' t xs hn
  have HAll : Hid (lisE t xs = 0 → (∀ o ∈ xs, okL o = true) ∧ erE t xs (ofE t xs) = ofE t xs) := fun he => ⟨(lis_all he).2.2, by unfold erE; rw [if_pos he]⟩
  obtain ⟨i, hi, r, e1, e2, e3, e4⟩ := place_of m xs.length hn2
  have i1 : ¬ (200 : Int) < (xs.length : Int) := by omega
  have i2 : ¬ (xs.length : Int) < 2 := by omega
  have i3 : (xs.length : Int) ≤ 200 := by omega
  have i4 : ¬ (xs.length : Int) - 1 = 0 := by omega
  have i5 : (i : Int) + 1 < (xs.length : Int) := by omega
  clear h hcap hG hE hs hr hm
  unfold Tab.val at *
  go_enter Tryd.func4, Tryd.ntmps4
  go_upto_region 1 with fail
  generalize (w.alloc (.cells t.cells 25)).alloc (.cells #[.slice ra rs.length rc, .slice ma ms.length mc] 35) = W0 at *
  have k1 := HS.out.t
  have tu0 := k1.cu 0 (by decide); have tu1 := k1.cu 1 (by decide); have tu2 := k1.cu 2 (by decide); have tu3 := k1.cu 3 (by decide); have tl0 := k1.cl 0 (by decide); have tl1 := k1.cl 1 (by decide); have tl2 := k1.cl 2 (by decide); have tl3 := k1.cl 3 (by decide); have tb0 := k1.cb 0 (by decide); have tb1 := k1.cb 1 (by decide); have tb2 := k1.cb 2 (by decide); have tb3 := k1.cb 3 (by decide); have td := k1.cd; have tz := k1.lt
  clear k1
  generalize hes : erE t xs (ofE t xs) = es at *
  clear hes
  have her : lisE t xs = 0 ∨ ¬ lisE t xs = 0 := by omega
  generalize lisE t xs = er at *
  go_upto_region 4 with (first
    | (go_at_call 9; refine Calls.mono (HOf.out _ HS.out.up) ?_; rintro e w1 ⟨a1, c1, rfl, o1, b1⟩; have HS1 : Hid (Sb w w1 t ra rs.length rc ma ms.length mc ∧ EOwn W0.heap.size w1 a1 c1 es) := ⟨HS.out.next b1, o1⟩; clear o1 b1 HOf HS tu0 tu1 tu2 tu3 tl0 tl1 tl2 tl3 tb0 tb1 tb2 tb3 td tz))
  rcases her with her | her
  · subst her
    have HAl : Hid ((∀ o ∈ xs, okL o = true) ∧ es = ofE t xs) := HAll.out rfl
    clear HAll
    obtain ⟨N, hN⟩ : ∃ N, es.length = N := ⟨_, rfl⟩
    have HNl : Hid (es.length = N) := hN
    have hNb : (N : Int) ≤ 100000000 := by have := HEl.out; omega
    clear HEl
    rw [hN]
    clear hN
    go_upto_region 8 with fail
    go_loopw [55] (fun v wr => ∃ (k : Nat), k ≤ N ∧ v = .int .i64 k ∧ Below w1.heap.size w1 wr ∧ ∀ (j : Nat) (hj : j < es.length), j < k → ¬ (es[j].f = (i : Int) ∧ es[j].t = (i : Int) + 1)) (fun v _ => N - (intOf v).toNat)
    case atStart => exact ⟨0, by omega, rfl, Below.refl _ _, fun j _ hj => by omega⟩
    case round =>
      rename World => wr
      obtain ⟨k, hk, rfl, hb, hno⟩ := hrel
      have HB : Hid (Below w1.heap.size w1 wr) := hb
      have HNo : Hid (∀ (j : Nat) (hj : j < es.length), j < k → ¬ (es[j].f = (i : Int) ∧ es[j].t = (i : Int) + 1)) := hno
      clear hb hno
      by_cases hlt : k < N
      · have j0 : (0 : Int) ≤ (k : Int) := by omega
        have j1 : (k : Int) < (N : Int) := by omega
        have hke : k < es.length := by rw [HNl.out]; exact hlt
        obtain ⟨b1, rfl, l1, -, f0, f1, f2, f3, f4⟩ := eOwn_at (HS1.out.2.up HB.out) hke
        have HX : Hid (es[k].f = (i : Int) ∧ es[k].t = (i : Int) + 1 ∨ ¬ (es[k].f = (i : Int) ∧ es[k].t = (i : Int) + 1)) := by
          by_cases hx : es[k].f = (i : Int) ∧ es[k].t = (i : Int) + 1
          · exact .inl hx
          · exact .inr hx
        have HNx : Hid (¬ (es[k].f = (i : Int) ∧ es[k].t = (i : Int) + 1) → ∀ (j : Nat) (hj : j < es.length), j < k + 1 → ¬ (es[j].f = (i : Int) ∧ es[j].t = (i : Int) + 1)) := fun hx j hj hjk => by
          by_cases e : j = k
          · subst e; exact hx
          · exact HNo.out j hj (by omega)
        have HBw : Hid (Below w.heap.size w (wr.alloc (.cells #[.int .i64 es[k].f, .int .i64 es[k].t, .int .i64 es[k].l, .int .i64 es[k].d, .int .i8 es[k].y] 38))) := ((HS1.out.1.up.trans (HB.out.mono HS1.out.1.up.size)).alloc (Nat.le_trans HS1.out.1.up.size HB.out.size) _)
        generalize es[k] = x at *
        obtain ⟨xf, xt, xl, xd, xy⟩ := x
        by_cases hf : xf = (i : Int)
        · by_cases ht : xt = (i : Int) + 1
          · subst hf
            subst ht
            go_wp2_with (first | (go_at_call 14; refine Calls.mono (HW.out _ HBw.out) ?_; rintro e w3 ⟨rfl, hb⟩; have HB3 : Hid (Below w.heap.size w w3) := HBw.out.trans (hb.mono HBw.out.size); clear hb HW))
            go_ret
            exact ⟨rfl, HB3.out⟩
          · subst hf
            go_wp2_with fail
            go_roundw
            case rel => exact ⟨k + 1, by omega, by go_num, HB.out.alloc HB.out.size _, HNx.out fun hx => ht hx.2⟩
            case measure => simp [intOf]; omega
        · go_wp2_with fail
          go_roundw
          case rel => exact ⟨k + 1, by omega, by go_num, HB.out.alloc HB.out.size _, HNx.out fun hx => hf hx.1⟩
          case measure => simp [intOf]; omega
      · have j1 : ¬ (k : Int) < (N : Int) := by omega
        have HInd : Hid (Ind (xs[i]'(by omega)) xs[i + 1]) := ind_of (t := t) (fun o ho => ⟨HIn.out.1.ok o ho, HAl.out.1 o ho⟩) hi (fun x hx => by
          rw [← HAl.out.2] at hx
          obtain ⟨j, hj, rfl⟩ := List.getElem_of_mem hx
          exact HNo.out j hj (by have := HNl.out; omega))
        have HS2 : Hid (Sb w wr t ra rs.length rc ma ms.length mc) := HS1.out.1.next HB.out
        clear HNo HB HS1
        go_upto_region 13 with fail
        obtain ⟨b0, f0, hao, zb, hx⟩ := (HIn.out.1.below HS2.out.up).is (by omega)
        have HCs : Hid (∀ j u, (ocells xs)[j]? = some u → wr.cell? ((⟨b0, f0, none⟩ : Addr).add j) = some u) := ocells_at xs hx
        have H1c : Hid (∀ u, u ∈ ocells xs → u.oneCell' = true) := ocells_one xs
        have HCl : Hid ((ocells xs).length = xs.length * 5) := ocells_len xs
        obtain ⟨i0, hi0, hi2⟩ := Option.map_eq_some_iff.1 info40
        simp only [Prod.mk.injEq] at hi2
        obtain ⟨hz0, hz1, hz2⟩ := hi2
        have HI : Hid (Tryd.prog.info? 40 = some i0 ∧ i0.zero = some (.agg #[.int .i8 0, .int .u8 0, .int .u8 0, .int .u8 0, .int .i64 0]) ∧ i0.size = 5 ∧ i0.bytes = 16) := ⟨hi0, hz0, hz1, hz2⟩
        clear hi0 hz0 hz1 hz2 hx
        have HAo : Hid (ao = some ⟨b0, f0, none⟩) := hao
        rw [hao]
        clear hao
        go_upto_region 14 with (first
          | (at_builtin; refine wpList_append_own _ rfl (.tmp 72) (.tmp 73) 22 rfl wr.heap.size 40 i0 (.agg #[.int .i8 0, .int .u8 0, .int .u8 0, .int .u8 0, .int .i64 0]) 5 16 Tryd.underlying22 HI.out.1 HI.out.2.1 HI.out.2.2.1 HI.out.2.2.2 rfl (by decide) _ 0 [] rfl ?ho ⟨b0, f0, none⟩ xs.length cap (ocells xs) rfl HCl.out ?hn H1c.out (by unfold maxLen; omega) (by omega) (by simp) ?_; (case ho => exact World.ownsRow_made wr #[] 0 (Nat.le_refl _) (by decide) rfl); (case hn => exact fun j u hj => (World.cell?_alloc_some _ _ _ (by rw [HCs.out j u hj]; rfl)).trans (HCs.out j u hj)); intro v' w2 hown2 hgrow2 hnil2; have HF : Hid (Cf wr w2 40 5 v' xs.length (ocells xs)) := ⟨(by have := hown2; simp only [Nat.zero_add, List.nil_append] at this; exact this), ((Below.refl _ _).alloc (Nat.le_refl _) _).grown hgrow2 (by simp) (fun b hb => by cases hb; exact Nat.le_refl _)⟩; clear hown2 hgrow2 hnil2))
        obtain ⟨hr2, hb2⟩ := HF.out
        clear HF
        rcases hr2.2 with ⟨-, h0⟩ | ⟨g, c2, cur, rfl, hg, -⟩
        · exact absurd h0 (by omega)
        have HR : Hid ((∀ (k : Nat) (hk : k < xs.length), OAt w2 g (k * 5) xs[k]) ∧ wr.heap.size ≤ g ∧ xs.length ≤ c2 ∧ Below wr.heap.size wr w2) := by
          obtain ⟨b', f', e', -, hx'⟩ := (opsAt_row hr2 (fun o ho => HIn.out.1.ok o ho) (by omega)).is (by omega)
          cases e'
          refine ⟨fun k hk => by have := hx' k hk; rwa [Nat.zero_add] at this, hg, ?_, hb2⟩
          rcases hr2.2 with ⟨e, -⟩ | ⟨g', c', cur', e, -, -, hc', -⟩
          · cases e
          · cases e; exact hc'
        have gz : ∀ j, w2.frozen? ⟨g, j, none⟩ = false := fun j => hr2.frozenAt j
        have gl : g < w2.heap.size := (hr2.lt g rfl).2
        clear hr2 hb2 cur hg HCs H1c HCl HI
        have HOx : Hid (OpsAt (st5 (st5 w2 g (i * 5) xs[i + 1]) g ((i + 1) * 5) (xs[i]'(by omega))) (some ⟨g, 0, none⟩) (swL xs i)) := ops_swap HR.out.1 HIn.out.1.ok HIn.out.1.len gl hi
        obtain ⟨p0, p1, p2, p3, p4⟩ := HR.out.1 i (by omega)
        obtain ⟨q0, q1, q2, q3, q4⟩ := HR.out.1 (i + 1) hi
        obtain ⟨j, hj⟩ : ∃ j, j = i + 1 := ⟨_, rfl⟩
        have jt : ((i : Int) + 1).toNat = j := by omega
        have jp : (0 : Int) ≤ (i : Int) + 1 := by omega
        have ip : (0 : Int) ≤ (i : Int) := by omega
        have il : (i : Int) < (xs.length : Int) := by omega
        have HSl : Hid ((swL xs i).length = xs.length ∧ j = i + 1) := ⟨swL_len xs i, hj⟩
        have HM : Hid (∀ o ∈ xs, OkM o) := fun o ho => okM_of (HIn.out.1.ok o ho) (HAl.out.1 o ho)
        have HRun : Hid _ := swap_runs hi hn HM.out HInd.out rs ms
        have HXi : Hid (∀ o ∈ swL xs i, okL o = true) := fun o ho => HAl.out.1 o (swL_mem hi ho)
        have hij : ∀ (a b : Nat), a < 5 → b < 5 → ¬ i * 5 + a = j * 5 + b := by omega
        clear HInd HM
        generalize xs[i]'(by omega) = oa at *
        generalize xs[i + 1] = ob at *
        rw [← hj] at q0 q1 q2 q3 q4
        unfold st5 at HOx
        rw [← hj] at HOx
        clear hj
        go_region
        have HB2 : Hid (Below wr.heap.size wr (((((((((((w2.setCell ⟨g, i * 5, none⟩ (.int .i8 ob.op)).setCell ⟨g, i * 5 + 1, none⟩ (.int .u8 ob.d)).setCell ⟨g, i * 5 + 2, none⟩ (.int .u8 ob.a)).setCell ⟨g, i * 5 + 3, none⟩ (.int .u8 ob.b)).setCell ⟨g, i * 5 + 4, none⟩ (.int .i64 ob.im)).setCell ⟨g, j * 5, none⟩ (.int .i8 oa.op)).setCell ⟨g, j * 5 + 1, none⟩ (.int .u8 oa.d)).setCell ⟨g, j * 5 + 2, none⟩ (.int .u8 oa.a)).setCell ⟨g, j * 5 + 3, none⟩ (.int .u8 oa.b)).setCell ⟨g, j * 5 + 4, none⟩ (.int .i64 oa.im)).drew)) := ((((((((((HR.out.2.2.2.setCell HR.out.2.1 _).setCell HR.out.2.1 _).setCell HR.out.2.1 _).setCell HR.out.2.1 _).setCell HR.out.2.1 _).setCell HR.out.2.1 _).setCell HR.out.2.1 _).setCell HR.out.2.1 _).setCell HR.out.2.1 _).setCell HR.out.2.1 _).drew
        have HO3 : Hid (OpsAt (((((((((((w2.setCell ⟨g, i * 5, none⟩ (.int .i8 ob.op)).setCell ⟨g, i * 5 + 1, none⟩ (.int .u8 ob.d)).setCell ⟨g, i * 5 + 2, none⟩ (.int .u8 ob.a)).setCell ⟨g, i * 5 + 3, none⟩ (.int .u8 ob.b)).setCell ⟨g, i * 5 + 4, none⟩ (.int .i64 ob.im)).setCell ⟨g, j * 5, none⟩ (.int .i8 oa.op)).setCell ⟨g, j * 5 + 1, none⟩ (.int .u8 oa.d)).setCell ⟨g, j * 5 + 2, none⟩ (.int .u8 oa.a)).setCell ⟨g, j * 5 + 3, none⟩ (.int .u8 oa.b)).setCell ⟨g, j * 5 + 4, none⟩ (.int .i64 oa.im)).drew) (some ⟨g, 0, none⟩) (swL xs i)) := HOx.out.below ((Below.refl _ _).drew)
        generalize ((((((((((w2.setCell ⟨g, i * 5, none⟩ (.int .i8 ob.op)).setCell ⟨g, i * 5 + 1, none⟩ (.int .u8 ob.d)).setCell ⟨g, i * 5 + 2, none⟩ (.int .u8 ob.a)).setCell ⟨g, i * 5 + 3, none⟩ (.int .u8 ob.b)).setCell ⟨g, i * 5 + 4, none⟩ (.int .i64 ob.im)).setCell ⟨g, j * 5, none⟩ (.int .i8 oa.op)).setCell ⟨g, j * 5 + 1, none⟩ (.int .u8 oa.d)).setCell ⟨g, j * 5 + 2, none⟩ (.int .u8 oa.a)).setCell ⟨g, j * 5 + 3, none⟩ (.int .u8 oa.b)).setCell ⟨g, j * 5 + 4, none⟩ (.int .i64 oa.im)).drew = w3 at *
        have HS3 : Hid (Sb w w3 t ra rs.length rc ma ms.length mc) := HS2.out.next HB2.out
        have HcR : Hid (xs.length ≤ c2) := HR.out.2.2.1
        clear HOx HR gz gl p0 p1 p2 p3 p4 q0 q1 q2 q3 q4 HS2 HB2 jt jp ip il hij
        obtain ⟨zs, hzs⟩ : ∃ zs, swL xs i = zs := ⟨_, rfl⟩
        rw [hzs] at HO3 HSl HRun HXi
        have hzl : zs.length = xs.length := HSl.out.1
        clear hzs HSl
        have d0 := HS3.out.s.c 0 _ rfl
        have d1 := HS3.out.s.c 1 _ rfl
        have dl := HS3.out.s.lt
        have HP1 : Hid (PAt (w3.alloc (.cells #[.slice (some ⟨b0, f0, none⟩) xs.length cap, .int .i8 2, .int .u8 0, .slice none 0 0, .int .i64 0, .int .i64 0] 45)) (some ⟨w3.heap.size, 0, none⟩) [oneB xs]) := one_at ((by have := HIn.out.1.below HS3.out.up; rw [HAo.out] at this; exact this : OpsAt w3 (some ⟨b0, f0, none⟩) xs).below ((Below.refl _ _).alloc (Nat.le_refl _) _)) HIn.out.2.1 (Op.At.new w3 _ 45)
        have HP2 : Hid (∀ W, Below w3.heap.size w3 W → PAt (W.alloc (.cells #[.slice (some ⟨g, 0, none⟩) xs.length c2, .int .i8 2, .int .u8 0, .slice none 0 0, .int .i64 0, .int .i64 0] 45)) (some ⟨W.heap.size, 0, none⟩) [oneB zs]) := fun W hb => one_at ((HO3.out.below hb).below ((Below.refl _ _).alloc (Nat.le_refl _) _)) (by rw [hzl]; exact HcR.out) (by rw [hzl]; exact Op.At.new W _ 45)
        have ck1 : ckP [oneB xs] = 0 := one_ck HAl.out.1 hn
        have ck2 : ckP [oneB zs] = 0 := one_ck HXi.out (by omega)
        by_cases hgr : 32 < rs.length ∨ 256 < ms.length
        · have HN : Hid (∀ (W : World) (b : Nat) (ys : List O), Below w.heap.size w W → PAt W (some ⟨b, 0, none⟩) [oneB ys] → ckP [oneB ys] = 0 → Calls Tryd.prog 15 #[.agg #[.slice (some ⟨b, 0, none⟩) 1 1], .agg #[.slice ra rs.length rc, .slice ma ms.length mc]] W fun e w' => e = .returned (.tuple #[.pointer none, .int .i64 2]) ∧ Below W.heap.size W w') := fun W b ys hb hp hc => new_great (some ⟨b, 0, none⟩) ra ma 1 _ rc _ mc [oneB ys] W hp (HIn.out.2.2.1.up hb) hc hgr
          have HN2 : Hid _ := HN.out
          clear hgr HIn HAl HRun
          go_wp2_with (first
            | (go_at_call 15; refine Calls.mono (HN.out _ _ xs (Below.alloc HS3.out.up HS3.out.up.size _) HP1.out ck1) ?_; rintro e w4 ⟨rfl, hb⟩; have HB4 : Hid (Sb w w4 t ra rs.length rc ma ms.length mc ∧ Below w3.heap.size w3 w4) := ⟨(HS3.out.next ((Below.refl _ _).alloc (Nat.le_refl _) _)).next hb, ((Below.refl _ _).alloc (Nat.le_refl _) _).trans (hb.mono (by simp))⟩; clear hb HN HP1 d0 d1 dl; have d0 := HB4.out.1.s.c 0 _ rfl; have d1 := HB4.out.1.s.c 1 _ rfl; have dl := HB4.out.1.s.lt)
            | (go_at_call 15; refine Calls.mono (HN2.out _ _ zs (Below.alloc HB4.out.1.up HB4.out.1.up.size _) (HP2.out _ HB4.out.2) ck2) ?_; rintro e w5 ⟨rfl, hb⟩; have HB5 : Hid (Below w.heap.size w w5) := (Below.alloc HB4.out.1.up HB4.out.1.up.size _).trans (hb.mono (by have := HB4.out.1.up.size; simp; omega)); clear hb HN2 HP2)
            | (go_at_call 14; refine Calls.mono (HW.out _ HB5.out) ?_; rintro e w6 ⟨rfl, hb⟩; have HB3 : Hid (Below w.heap.size w w6) := HB5.out.trans (hb.mono HB5.out.size); clear hb HW))
          go_ret
          exact ⟨rfl, HB3.out⟩
        · have HN : Hid (∀ (W : World) (b : Nat) (ys : List O), Below w.heap.size w W → PAt W (some ⟨b, 0, none⟩) [oneB ys] → ckP [oneB ys] = 0 → Calls Tryd.prog 15 #[.agg #[.slice (some ⟨b, 0, none⟩) 1 1], .agg #[.slice ra rs.length rc, .slice ma ms.length mc]] W (NewPost' W [oneB ys] rs ms)) := fun W b ys hb hp hc => new_ok' (some ⟨b, 0, none⟩) ra ma 1 rc mc [oneB ys] rs ms W hp (HIn.out.2.2.1.up hb) hc (HIn.out.2.2.2.1.up hb) (by omega) (by omega) HIn.out.2.2.2.2.1 HIn.out.2.2.2.2.2
          have HN2 : Hid _ := HN.out
          clear hgr HIn HAl
          go_upto_region 19 with (first
            | (go_at_call 15; refine Calls.mono (HN.out _ _ xs (Below.alloc HS3.out.up HS3.out.up.size _) HP1.out ck1) ?_; rintro e w4 ⟨q1, rfl, hm1, hb, hq1, hk1⟩; have HB4 : Hid ((Sb w w4 t ra rs.length rc ma ms.length mc ∧ Below w3.heap.size w3 w4) ∧ MM w4 q1 [oneB xs] (One q1) (initM rs ms) ∧ NoK w4 q1 ∧ w.heap.size ≤ q1) := ⟨⟨(HS3.out.next ((Below.refl _ _).alloc (Nat.le_refl _) _)).next hb, ((Below.refl _ _).alloc (Nat.le_refl _) _).trans (hb.mono (by simp))⟩, hm1, hk1, Nat.le_trans (Nat.le_trans HS3.out.up.size (by simp)) hq1⟩; clear hb hm1 hk1 hq1 HN HP1 d0 d1 dl; have d0 := HB4.out.1.1.s.c 0 _ rfl; have d1 := HB4.out.1.1.s.c 1 _ rfl; have dl := HB4.out.1.1.s.lt)
            | (go_at_call 15; refine Calls.mono (HN2.out _ _ zs (Below.alloc HB4.out.1.1.up HB4.out.1.1.up.size _) (HP2.out _ HB4.out.1.2) ck2) ?_; rintro e w5 ⟨q2, rfl, hm2, hb, hq2, -⟩; have HD : Hid (D2 w w5 q1 q2 w5.heap.size [oneB xs] [oneB zs] (One q1) (initM rs ms) (initM rs ms)) := d2_start HB4.out.2.1 HB4.out.2.2.1 HB4.out.2.2.2 HB4.out.1.1.up ((Below.refl _ _).alloc (Nat.le_refl _) _) hb hm2 hq2; clear hb hm2 hq2 HN2 HP2 HB4 d0 d1 dl))
          have hM0 : (initM rs ms).s = 0 := rfl
          have HR1 : Hid (∀ W T, MM W q1 [oneB xs] T (initM rs ms) → Calls Tryd.prog 16 #[ptr q1, .int .i64 1000] W (RunPost' W q1 [oneB xs] T (runM [oneB xs] 1000 (initM rs ms)) (runM [oneB xs] 1000 (initM rs ms)).e (if (runM [oneB xs] 1000 (initM rs ms)).e = 0 then (runM [oneB xs] 1000 (initM rs ms)).v else 0) (runM [oneB xs] 1000 (initM rs ms)).pr.length (if (runM [oneB xs] 1000 (initM rs ms)).e = 0 then 256 else 0) ((runM [oneB xs] 1000 (initM rs ms)).s : Int))) := fun W T hm => (run_any 1000 hm (by rw [hM0]; omega)).mono fun e w' h => run_post' h
          have HR2 : Hid (∀ W T, MM W q2 [oneB zs] T (initM rs ms) → Calls Tryd.prog 16 #[ptr q2, .int .i64 1000] W (RunPost' W q2 [oneB zs] T (runM [oneB zs] 1000 (initM rs ms)) (runM [oneB zs] 1000 (initM rs ms)).e (if (runM [oneB zs] 1000 (initM rs ms)).e = 0 then (runM [oneB zs] 1000 (initM rs ms)).v else 0) (runM [oneB zs] 1000 (initM rs ms)).pr.length (if (runM [oneB zs] 1000 (initM rs ms)).e = 0 then 256 else 0) ((runM [oneB zs] 1000 (initM rs ms)).s : Int))) := fun W T hm => (run_any 1000 hm (by rw [hM0]; omega)).mono fun e w' h => run_post' h
          have HSs : Hid ((runM [oneB xs] 1000 (initM rs ms)).s ≤ 1000 ∧ (runM [oneB zs] 1000 (initM rs ms)).s ≤ 1000) := by
            have h1 := trail_len [oneB xs] 1000 (initM rs ms)
            have h2 := trail_le [oneB xs] 1000 (initM rs ms)
            have h3 := trail_len [oneB zs] 1000 (initM rs ms)
            have h4 := trail_le [oneB zs] 1000 (initM rs ms)
            rw [hM0] at h1 h3
            exact ⟨by omega, by omega⟩
          generalize runM [oneB xs] 1000 (initM rs ms) = R1 at *
          generalize runM [oneB zs] 1000 (initM rs ms) = R2 at *
          obtain ⟨he, hp, hrm⟩ := HRun.out
          have HRm : Hid (R1.e = 0 → regL R1 = regL R2 ∧ memL R1 = memL R2) := hrm
          have HPr : Hid (R1.pr = R2.pr) := hp
          rw [← he, ← hp] at HR2
          clear hp hrm HRun hM0 he
          generalize hV1 : (if R1.e = 0 then R1.v else 0) = V1 at *
          generalize hV2 : (if R1.e = 0 then R2.v else 0) = V2 at *
          generalize hK : (if R1.e = 0 then 256 else 0) = K at *
          clear hV1 hV2 hK
          obtain ⟨E, hEe⟩ : ∃ E, R1.e = E := ⟨_, rfl⟩
          obtain ⟨P, hPe⟩ : ∃ P, R1.pr.length = P := ⟨_, rfl⟩
          have HEe : Hid (R1.e = E) := hEe
          have HPe : Hid (R1.pr.length = P) := hPe
          rw [hEe, hPe] at HR1 HR2
          clear hEe hPe
          generalize (R1.s : Int) = S1 at HR1
          generalize (R2.s : Int) = S2 at HR2
          go_upto_region 20 with (first
            | (go_at_call 16; refine Calls.mono (HR1.out _ _ HD.out.m) ?_; rintro e w6 ⟨a6, m6, c6, d6, T6, rfl, o6, hm6, ht6⟩; have HD6 : Hid (D2 w w6 q1 q2 w5.heap.size [oneB xs] [oneB zs] T6 R1 (initM rs ms) ∧ Own w5 w6 a6 R1.pr) := ⟨HD.out.go hm6 ht6, o6⟩; clear o6 hm6 ht6 HR1)
            | (go_at_call 16; refine Calls.mono (HR2.out _ _ HD6.out.1.n') ?_; rintro e w7 ⟨a7, m7, c7, d7, T7, rfl, o7, hm7, ht7⟩; have HD7 : Hid (D3 w w7 q1 q2 [oneB xs] [oneB zs] R1 R2 ∧ NL w7 a6 R1.pr ∧ NL w7 a7 R2.pr) := ⟨HD6.out.1.go2 hm7 ht7, HD6.out.2.off ht7.f (fun k hk hT => (by have h9 := HD.out.q.2.2.1; have h8 := hT.1; have h7 := HD.out.q.2.1; omega)), o7.nl⟩; clear o7 hm7 ht7 HR2 HD6 HD))
          have HZ : Hid (Zq w ((w7.alloc (.cells #[.int .i64 E, .int .i64 V1, .slice a6 P c6, .slice m6 K d6, .int .i64 S1] 50)).alloc (.cells #[.int .i64 E, .int .i64 V2, .slice a7 P c7, .slice m7 K d7, .int .i64 S2] 50)) q1 q2 [oneB xs] [oneB zs] R1 R2 w7.heap.size #[.int .i64 E, .int .i64 V1, .slice a6 P c6, .slice m6 K d6, .int .i64 S1] #[.int .i64 E, .int .i64 V2, .slice a7 P c7, .slice m7 K d7, .int .i64 S2] a6 a7) := Zq.start HD7.out.1 HD7.out.2.1 HD7.out.2.2 _ _ 50
          generalize ((w7.alloc (.cells #[.int .i64 E, .int .i64 V1, .slice a6 P c6, .slice m6 K d6, .int .i64 S1] 50)).alloc (.cells #[.int .i64 E, .int .i64 V2, .slice a7 P c7, .slice m7 K d7, .int .i64 S2] 50)) = w8 at *
          clear HD7
          have HT1 : Hid (∀ W, (∃ T, MM W q1 [oneB xs] T R1) → Calls Tryd.prog 17 #[ptr q1] W fun e w' => ∃ a c b d, e = .returned (.agg #[.slice a 32 c, .slice b 256 d]) ∧ NL w' a (regL R1) ∧ NL w' b (memL R1) ∧ Below W.heap.size W w') := fun W hm => st_any hm
          have HT2 : Hid (∀ W, (∃ T, MM W q2 [oneB zs] T R2) → Calls Tryd.prog 17 #[ptr q2] W fun e w' => ∃ a c b d, e = .returned (.agg #[.slice a 32 c, .slice b 256 d]) ∧ NL w' a (regL R2) ∧ NL w' b (memL R2) ∧ Below W.heap.size W w') := fun W hm => st_any hm
          go_upto_region 21 with (first
            | (go_at_call 17; refine Calls.mono (HT1.out _ HZ.out.d.m) ?_; rintro e w9 ⟨r1, cr1, g1, cg1, rfl, n1, n2, hb⟩; have HZ9 : Hid (Zq w w9 q1 q2 [oneB xs] [oneB zs] R1 R2 w7.heap.size #[.int .i64 E, .int .i64 V1, .slice a6 P c6, .slice m6 K d6, .int .i64 S1] #[.int .i64 E, .int .i64 V2, .slice a7 P c7, .slice m7 K d7, .int .i64 S2] a6 a7 ∧ NL w9 r1 (regL R1) ∧ NL w9 g1 (memL R1)) := ⟨HZ.out.next hb, n1, n2⟩; clear n1 n2 hb HT1 HZ)
            | (go_at_call 17; refine Calls.mono (HT2.out _ HZ9.out.1.d.n) ?_; rintro e w10 ⟨r2, cr2, g2, cg2, rfl, n1, n2, hb⟩; have HZ10 : Hid (Zq w w10 q1 q2 [oneB xs] [oneB zs] R1 R2 w7.heap.size #[.int .i64 E, .int .i64 V1, .slice a6 P c6, .slice m6 K d6, .int .i64 S1] #[.int .i64 E, .int .i64 V2, .slice a7 P c7, .slice m7 K d7, .int .i64 S2] a6 a7 ∧ (NL w10 r1 (regL R1) ∧ NL w10 g1 (memL R1)) ∧ NL w10 r2 (regL R2) ∧ NL w10 g2 (memL R2)) := ⟨HZ9.out.1.next hb, ⟨HZ9.out.2.1.up hb, HZ9.out.2.2.up hb⟩, n1, n2⟩; clear n1 n2 hb HT2 HZ9))
          have HU : Hid (Zu w ((w10.alloc (.cells #[.slice r1 32 cr1, .slice g1 256 cg1] 35)).alloc (.cells #[.slice r2 32 cr2, .slice g2 256 cg2] 35)) w7.heap.size w10.heap.size #[.int .i64 E, .int .i64 V1, .slice a6 P c6, .slice m6 K d6, .int .i64 S1] #[.int .i64 E, .int .i64 V2, .slice a7 P c7, .slice m7 K d7, .int .i64 S2] #[.slice r1 32 cr1, .slice g1 256 cg1] #[.slice r2 32 cr2, .slice g2 256 cg2] R1 R2 a6 a7 r1 g1 r2 g2) := Zu.start HZ10.out.1 HZ10.out.2.1.1 HZ10.out.2.1.2 HZ10.out.2.2.1 HZ10.out.2.2.2 _ _ 35
          generalize ((w10.alloc (.cells #[.slice r1 32 cr1, .slice g1 256 cg1] 35)).alloc (.cells #[.slice r2 32 cr2, .slice g2 256 cg2] 35)) = w11 at *
          clear HZ10
          generalize w7.heap.size = bx at *
          generalize w10.heap.size = by1 at *
          have HPl : Hid (R1.pr.length ≤ 1000000000000) := by
            obtain ⟨k1, k2⟩ := HSs.out
            have k3 := HU.out.p
            show R1.pr.length ≤ 1000000000000
            omega
          have HNp : Hid (∀ W, Zu w W bx by1 #[.int .i64 E, .int .i64 V1, .slice a6 P c6, .slice m6 K d6, .int .i64 S1] #[.int .i64 E, .int .i64 V2, .slice a7 P c7, .slice m7 K d7, .int .i64 S2] #[.slice r1 32 cr1, .slice g1 256 cg1] #[.slice r2 32 cr2, .slice g2 256 cg2] R1 R2 a6 a7 r1 g1 r2 g2 → Calls Tryd.prog 18 #[.slice a6 P c6, .slice a7 P c7] W fun e w' => e = .returned (.bool true) ∧ Below W.heap.size W w') := fun W hz => by
            have := nums_same a6 a7 c6 c7 R1.pr W hz.n1 (by rw [HPr.out]; exact hz.n2) HPl.out
            rw [HPe.out] at this; exact this
          have HNr : Hid (E = 0 → ∀ W, Zu w W bx by1 #[.int .i64 E, .int .i64 V1, .slice a6 P c6, .slice m6 K d6, .int .i64 S1] #[.int .i64 E, .int .i64 V2, .slice a7 P c7, .slice m7 K d7, .int .i64 S2] #[.slice r1 32 cr1, .slice g1 256 cg1] #[.slice r2 32 cr2, .slice g2 256 cg2] R1 R2 a6 a7 r1 g1 r2 g2 → Calls Tryd.prog 18 #[.slice r1 32 cr1, .slice r2 32 cr2] W fun e w' => e = .returned (.bool true) ∧ Below W.heap.size W w') := fun h0 W hz => by
            have e := (HRm.out (by rw [HEe.out]; exact h0)).1
            have := nums_same r1 r2 cr1 cr2 (regL R1) W hz.n3 (by rw [e]; exact hz.n5) (by rw [regL_len]; omega)
            rw [regL_len] at this; exact this
          have HNm : Hid (E = 0 → ∀ W, Zu w W bx by1 #[.int .i64 E, .int .i64 V1, .slice a6 P c6, .slice m6 K d6, .int .i64 S1] #[.int .i64 E, .int .i64 V2, .slice a7 P c7, .slice m7 K d7, .int .i64 S2] #[.slice r1 32 cr1, .slice g1 256 cg1] #[.slice r2 32 cr2, .slice g2 256 cg2] R1 R2 a6 a7 r1 g1 r2 g2 → Calls Tryd.prog 18 #[.slice g1 256 cg1, .slice g2 256 cg2] W fun e w' => e = .returned (.bool true) ∧ Below W.heap.size W w') := fun h0 W hz => by
            have e := (HRm.out (by rw [HEe.out]; exact h0)).2
            have := nums_same g1 g2 cg1 cg2 (memL R1) W hz.n4 (by rw [e]; exact hz.n6) (by rw [memL_len]; omega)
            rw [memL_len] at this; exact this
          clear HPr HPe HRm HEe HPl HSs
          obtain ⟨x1, x2, y1, y2⟩ := (⟨HU.out.x1, HU.out.x2, HU.out.y1, HU.out.y2⟩ : _ ∧ _ ∧ _ ∧ _)
          have u0 := x1.c 0 _ rfl
          have u2 := x1.c 2 _ rfl
          have ul := x1.lt
          have v0 := x2.c 0 _ rfl
          have v2 := x2.c 2 _ rfl
          have vl := x2.lt
          clear x1 x2 y1 y2
          by_cases hE0 : E = 0
          · have HNr' : Hid _ := HNr.out hE0
            have HNm' : Hid _ := HNm.out hE0
            clear HNr HNm
            subst hE0
            go_wp2_with (first
              | (go_at_call 18; refine Calls.mono (HNp.out _ HU.out) ?_; rintro e w12 ⟨rfl, hb⟩; have HU2 : Hid _ := HU.out.next hb; clear hb HNp HU u0 u2 ul v0 v2 vl; obtain ⟨x1, x2, y1, y2⟩ := (⟨HU2.out.x1, HU2.out.x2, HU2.out.y1, HU2.out.y2⟩ : _ ∧ _ ∧ _ ∧ _); have u0 := x1.c 0 _ rfl; have ul := x1.lt; have s0 := y1.c 0 _ rfl; have s1 := y1.c 1 _ rfl; have sl := y1.lt; have t0 := y2.c 0 _ rfl; have t1 := y2.c 1 _ rfl; have tl := y2.lt; clear x1 x2 y1 y2)
              | (go_at_call 18; refine Calls.mono (HNr'.out _ HU2.out) ?_; rintro e w13 ⟨rfl, hb⟩; have HU3 : Hid _ := HU2.out.next hb; clear hb HNr' HU2 u0 ul s0 s1 sl t0 t1 tl; obtain ⟨y1, y2⟩ := (⟨HU3.out.y1, HU3.out.y2⟩ : _ ∧ _); have s1 := y1.c 1 _ rfl; have sl := y1.lt; have t1 := y2.c 1 _ rfl; have tl := y2.lt; clear y1 y2)
              | (go_at_call 18; refine Calls.mono (HNm'.out _ HU3.out) ?_; rintro e w14 ⟨rfl, hb⟩; have HU4 : Hid _ := HU3.out.next hb; clear hb HNm' HU3 s1 sl t1 tl)
              | (go_at_call 14; refine Calls.mono (HW.out _ HU4.out.up) ?_; rintro e w15 ⟨rfl, hb⟩; have HB3 : Hid (Below w.heap.size w w15) := HU4.out.up.trans (hb.mono HU4.out.up.size); clear hb HW))
            go_ret
            exact ⟨rfl, HB3.out⟩
          · clear HNr HNm
            go_wp2_with (first
              | (go_at_call 18; refine Calls.mono (HNp.out _ HU.out) ?_; rintro e w12 ⟨rfl, hb⟩; have HU2 : Hid _ := HU.out.next hb; clear hb HNp HU u0 u2 ul v0 v2 vl; have u0 := HU2.out.x1.c 0 _ rfl; have ul := HU2.out.x1.lt)
              | (go_at_call 14; refine Calls.mono (HW.out _ HU2.out.up) ?_; rintro e w15 ⟨rfl, hb⟩; have HB3 : Hid (Below w.heap.size w w15) := HU2.out.up.trans (hb.mono HU2.out.up.size); clear hb HW))
            go_ret
            exact ⟨rfl, HB3.out⟩
  · go_wp2_with (first | (go_at_call 14; refine Calls.mono (HW.out _ HS1.out.1.up) ?_; rintro e w3 ⟨rfl, hb⟩; have HB3 : Hid (Below w.heap.size w w3) := HS1.out.1.up.trans (hb.mono HS1.out.1.up.size); clear hb HW))
    go_ret
    exact ⟨rfl, HB3.out⟩
theorem law_swap (ao ra ma : Option Addr) (cap rc mc : Nat) (xs : List O) (t : Tab) (rs ms : List Int) (m : Int) (w : World) (h : OpsAt w ao xs) (hcap : xs.length ≤ cap) (hG : Bnds w) (hE : Env w) (hs : Sn w ra ma rs ms) (hr : ∀ x ∈ rs, In64 x) (hm : ∀ x ∈ ms, In64 x) :
    Calls Tryd.prog 4 #[.slice ao xs.length cap, t.val, .agg #[.slice ra rs.length rc, .slice ma ms.length mc], .int .i64 m] w fun e w' => e = .returned (.bool true) ∧ Below w.heap.size w w' := by
  by_cases hn : xs.length ≤ 200
  · by_cases hn2 : 2 ≤ xs.length
    · exact swap_main ao ra ma cap rc mc xs t rs ms m w h hcap hG hE hs hr hm hn2 hn
    · have HW : Hid (∀ W, Below w.heap.size w W → Calls Tryd.prog 14 #[] W fun e w' => e = .returned (.bool true) ∧ Below W.heap.size W w') := fun W hb => wakes_any W (hG.below hb hG.big)
      have hi : ¬ (200 : Int) < (xs.length : Int) := by omega
      have hi2 : (xs.length : Int) < 2 := by omega
      clear h hcap hG hn hn2 hE hs hr hm
      unfold Tab.val
      go_enter Tryd.func4, Tryd.ntmps4
      go_wp2_with (first | (go_at_call 14; refine Calls.mono (HW.out _ (by go_grown)) ?_; rintro e w3 ⟨rfl, hb⟩; have HB3 : Hid (Below w.heap.size w w3) := Below.trans (by go_grown) (hb.mono (by simp; omega)); clear hb HW))
      go_ret
      exact ⟨rfl, HB3.out⟩
  · have HW : Hid (∀ W, Below w.heap.size w W → Calls Tryd.prog 14 #[] W fun e w' => e = .returned (.bool true) ∧ Below W.heap.size W w') := fun W hb => wakes_any W (hG.below hb hG.big)
    have hi : (200 : Int) < (xs.length : Int) := by omega
    clear h hcap hG hn hE hs hr hm
    unfold Tab.val
    go_enter Tryd.func4, Tryd.ntmps4
    go_wp2_with (first | (go_at_call 14; refine Calls.mono (HW.out _ (by go_grown)) ?_; rintro e w3 ⟨rfl, hb⟩; have HB3 : Hid (Below w.heap.size w w3) := Below.trans (by go_grown) (hb.mono (by simp; omega)); clear hb HW))
    go_ret
    exact ⟨rfl, HB3.out⟩

end Go.Proofs.YtccakjijoadjkaaDoor.Sm

namespace Go.Proofs.YtccakjijoadjkaaDoor.Op
open Go.ChangeShapes Go.WideShapes Go.ChangeAt Go.RowKit
open Tb (Tab)

theorem wf64 {n : Int} (h : (Lit.int .i64 n).wf = true) : -9223372036854775808 ≤ n ∧ n ≤ 9223372036854775807 := by
  simp [Lit.wf, IntKind.min, IntKind.max, IntKind.signed, IntKind.bits] at h
  omega
theorem wf8 {n : Int} (h : (Lit.int .i8 n).wf = true) : -128 ≤ n ∧ n ≤ 127 := by
  simp [Lit.wf, IntKind.min, IntKind.max, IntKind.signed, IntKind.bits] at h
  omega
theorem wfu8 {n : Int} (h : (Lit.int .u8 n).wf = true) : 0 ≤ n ∧ n ≤ 255 := by
  simp [Lit.wf, IntKind.min, IntKind.max, IntKind.signed, IntKind.bits] at h
  omega
theorem own : ownKnob Tryd.prog.godebug = none := by kernel_rfl
def laid5 : List (String × DataW Unit) := [("hayloft/table.unitsBounds", Rows.laid_hayloft_table_unitsBounds), ("hayloft/table.latBounds", Rows.laid_hayloft_table_latBounds), ("hayloft/table.busyBounds", Rows.laid_hayloft_table_busyBounds), ("hayloft/table.delayBounds", Rows.laid_hayloft_table_delayBounds), ("hayloft/program.ends", Rows.laid_hayloft_program_ends)]
set_option maxRecDepth 20000 in
/-- A pair of bounds, out of its reading. -/
theorem bnd_of {W : World} {n : String} {g : Nat} {a b : Int} (h : Lib.VarReads Tryd.prog W n (.agg [.lit (.int .i64 a), .lit (.int .i64 b)])) (hg : Tryd.prog.globalNamed n = some g) (ht : (Tryd.prog.globals[g]?).map (·.type) = some 107) :
    W.cell? ⟨g, 0, none⟩ = some (.int .i64 a) ∧ W.cell? ⟨g, 1, none⟩ = some (.int .i64 b) := by
  obtain ⟨g0, t0, cs, fuel, p, h1, h2, h3, h4⟩ := h
  obtain rfl := Option.some.inj (hg.symm.trans h1)
  obtain rfl := Option.some.inj (ht.symm.trans h2)
  obtain ⟨y0, y1, n', hx, hl, e0, e1⟩ := trod_struct2 Tryd.underlying107 h4
  have c3 : Tryd.prog.cellsOf 3 = 1 := by kernel_rfl
  have c62 : Tryd.prog.cellsOf 107 = 2 := by kernel_rfl
  obtain ⟨k0, f0, f1, _⟩ := DataW.trod_int Tryd.underlying3 e0
  obtain ⟨k1, f2, f3, _⟩ := DataW.trod_int Tryd.underlying3 e1
  rw [c3] at f0 f2
  rw [c62] at hl
  obtain ⟨l⟩ := cs
  match l, hl with
  | [v0, v1], _ =>
    simp at f0 f2
    subst f0 f2
    simp [f1, f3] at hx
    obtain ⟨⟨rfl, rfl⟩, _⟩ := hx
    exact ⟨by simpa using World.var?_cell h1 h3 0, by simpa using World.var?_cell h1 h3 1⟩


theorem trod_bool1 {H : Type} {enc : TypeId × Value → H} {W : World} {base fuel : Nat} {sp : Nat → Bool} {held : Bool} {c : Value} {y : DataW H × List MemPlace} (h : DataW.trod enc Tryd.prog W base sp held fuel 4 [c] = some y) : ∃ b : Bool, c = .bool b ∧ y.1 = .lit (.bool b) := by
  obtain ⟨b, e, f⟩ := DataW.trod_bool Tryd.underlying4 h
  exact ⟨b, by simpa using e, by rw [f]⟩
theorem trod_end {H : Type} {enc : TypeId × Value → H} {W : World} {base fuel : Nat} {sp : Nat → Bool} {held : Bool} {c0 c1 c2 c3 : Value} {y : DataW H × List MemPlace} (h : DataW.trod enc Tryd.prog W base sp held fuel 154 [c0, c1, c2, c3] = some y) :
    ∃ a b c d : Bool, c0 = .bool a ∧ c1 = .bool b ∧ c2 = .bool c ∧ c3 = .bool d ∧ y.1 = .agg [.lit (.bool a), .lit (.bool b), .lit (.bool c), .lit (.bool d)] := by
  obtain ⟨y0, y1, y2, y3, n, hx, _, h0, h1, h2, h3⟩ := Joins.trod_struct4 Tryd.underlying154 h
  have k4 : Tryd.prog.cellsOf 4 = 1 := by kernel_rfl
  rw [k4] at h0 h1 h2 h3
  obtain ⟨a, e0, f0⟩ := trod_bool1 h0
  obtain ⟨b, e1, f1⟩ := trod_bool1 h1
  obtain ⟨c, e2, f2⟩ := trod_bool1 h2
  obtain ⟨d, e3, f3⟩ := trod_bool1 h3
  exact ⟨a, b, c, d, e0, e1, e2, e3, by rw [hx, f0, f1, f2, f3]⟩
set_option maxRecDepth 20000 in
theorem ends_of {W : World} (h : Lib.VarReads Tryd.prog W "hayloft/program.ends" Rows.laid_hayloft_program_ends) : EndsAt W ∧ 5 ≤ W.heap.size := by
  have hg : Tryd.prog.globalNamed "hayloft/program.ends" = some 4 := by kernel_rfl
  have ht : (Tryd.prog.globals[4]?).map (·.type) = some 175 := by kernel_rfl
  obtain ⟨g0, t0, cs, fuel, p, h1, h2, h3, h4⟩ := h
  obtain rfl := Option.some.inj (hg.symm.trans h1)
  obtain rfl := Option.some.inj (ht.symm.trans h2)
  have hbig : 5 ≤ W.heap.size := by
    have h3' := h3
    rw [World.var?, hg, Option.bind_some] at h3'
    rcases Nat.lt_or_ge 4 W.heap.size with h | h
    · exact h
    · rw [Array.getElem?_eq_none h] at h3'; cases h3'
  obtain ⟨xs, m, _, hx, hl, hn, he⟩ := DataW.trod_array Tryd.underlying175 h4
  have c56 : Tryd.prog.cellsOf 154 = 4 := by kernel_rfl
  have c68 : Tryd.prog.cellsOf 175 = 16 := by kernel_rfl
  rw [c68] at hl
  rw [c56] at he
  obtain ⟨l⟩ := cs
  match xs, hn, l, hl with
  | [x0, x1, x2, x3], _, [v0, v1, v2, v3, v4, v5, v6, v7, v8, v9, va, vb, vc, vd, ve, vf], _ =>
    obtain ⟨a0, a1, a2, a3, rfl, rfl, rfl, rfl, e0⟩ := trod_end (he 0 (by omega))
    obtain ⟨b0, b1, b2, b3, rfl, rfl, rfl, rfl, e1⟩ := trod_end (he 1 (by omega))
    obtain ⟨c0, c1, c2, c3, rfl, rfl, rfl, rfl, e2⟩ := trod_end (he 2 (by omega))
    obtain ⟨d0, d1, d2, d3, rfl, rfl, rfl, rfl, e3⟩ := trod_end (he 3 (by omega))
    simp [Rows.laid_hayloft_program_ends, e0, e1, e2, e3] at hx
    obtain ⟨⟨⟨rfl, rfl, rfl, rfl⟩, ⟨rfl, rfl, rfl, rfl⟩, ⟨rfl, rfl, rfl, rfl⟩, ⟨rfl, rfl, rfl, rfl⟩⟩, _⟩ := hx
    have cc := fun i => World.var?_cell h1 h3 i
    refine ⟨⟨Tb.four (p := fun k => W.cell? ⟨4, k * 4, none⟩ = some (.bool (eA k)) ∧ W.cell? ⟨4, k * 4 + 1, none⟩ = some (.bool (eB k)) ∧ W.cell? ⟨4, k * 4 + 2, none⟩ = some (.bool (eT k)) ∧ W.cell? ⟨4, k * 4 + 3, none⟩ = some (.bool (eE k))) ⟨?_, ?_, ?_, ?_⟩ ⟨?_, ?_, ?_, ?_⟩ ⟨?_, ?_, ?_, ?_⟩ ⟨?_, ?_, ?_, ?_⟩⟩, hbig⟩
    · exact (cc 0)
    · exact (cc 1)
    · exact (cc 2)
    · exact (cc 3)
    · exact (cc 4)
    · exact (cc 5)
    · exact (cc 6)
    · exact (cc 7)
    · exact (cc 8)
    · exact (cc 9)
    · exact (cc 10)
    · exact (cc 11)
    · exact (cc 12)
    · exact (cc 13)
    · exact (cc 14)
    · exact (cc 15)
def laid4 : List (String × DataW Unit) := [("hayloft/table.unitsBounds", Rows.laid_hayloft_table_unitsBounds), ("hayloft/table.latBounds", Rows.laid_hayloft_table_latBounds), ("hayloft/table.busyBounds", Rows.laid_hayloft_table_busyBounds), ("hayloft/table.delayBounds", Rows.laid_hayloft_table_delayBounds)]
theorem big_of {W : World} (hsh : W.ShapedOpen Tryd.prog) : 5 ≤ W.heap.size := by
  have globs : Tryd.prog.globals.size = 5 := by kernel_rfl
  have big : 5 < (begin Tryd.prog (fun _ _ => 0) default).world.heap.size := of_decide_eq_true (by kernel_rfl)
  obtain ⟨o, o0, h1, _⟩ := hsh.2 5 (by rw [globs]; decide) big
  rcases Nat.lt_or_ge 5 W.heap.size with h | h
  · omega
  · rw [Array.getElem?_eq_none h] at h1; cases h1

set_option maxRecDepth 20000 in
theorem bnds_of {W : World} {l : List (String × DataW Unit)} (hP : laidMet Tryd.prog l W) (hu : ("hayloft/table.unitsBounds", Rows.laid_hayloft_table_unitsBounds) ∈ l) (hl : ("hayloft/table.latBounds", Rows.laid_hayloft_table_latBounds) ∈ l) (hb : ("hayloft/table.busyBounds", Rows.laid_hayloft_table_busyBounds) ∈ l) (hd : ("hayloft/table.delayBounds", Rows.laid_hayloft_table_delayBounds) ∈ l) (hz : 5 ≤ W.heap.size) : Tb.Bnds W := by
  have hd := bnd_of (Lib.laidMet.reads hP (n := "hayloft/table.delayBounds") (d := Rows.laid_hayloft_table_delayBounds) hd) (g := 0) (by kernel_rfl) (by kernel_rfl)
  have hu := bnd_of (Lib.laidMet.reads hP (n := "hayloft/table.unitsBounds") (d := Rows.laid_hayloft_table_unitsBounds) hu) (g := 1) (by kernel_rfl) (by kernel_rfl)
  have hl := bnd_of (Lib.laidMet.reads hP (n := "hayloft/table.latBounds") (d := Rows.laid_hayloft_table_latBounds) hl) (g := 2) (by kernel_rfl) (by kernel_rfl)
  have hb := bnd_of (Lib.laidMet.reads hP (n := "hayloft/table.busyBounds") (d := Rows.laid_hayloft_table_busyBounds) hb) (g := 3) (by kernel_rfl) (by kernel_rfl)
  exact ⟨hd.1, hd.2, hu.1, hu.2, hl.1, hl.2, hb.1, hb.2, hz⟩
theorem env4 {W : World} (hL : laidMetH Tryd.prog laid4 W) (hsh : W.ShapedOpen Tryd.prog) : Tb.Bnds W :=
  bnds_of (l := laid4) hL (by simp [laid4]) (by simp [laid4]) (by simp [laid4]) (by simp [laid4]) (big_of hsh)
theorem env5 {W : World} (hL : laidMetH Tryd.prog laid5 W) : Tb.Bnds W ∧ Env W := by
  have hP : laidMet Tryd.prog laid5 W := hL
  have he := ends_of (Lib.laidMet.reads hP (n := "hayloft/program.ends") (d := Rows.laid_hayloft_program_ends) (by simp [laid5]))
  exact ⟨bnds_of (l := laid5) hL (by simp [laid5]) (by simp [laid5]) (by simp [laid5]) (by simp [laid5]) he.2, ⟨he.1, he.2⟩⟩

set_option maxRecDepth 100000 in
/-- The wrap: what the listed variables hold, and the world's shape, are handed to the contract. -/
theorem wrap {H : Type} {enc : TypeId × Value → H} {os : Os} {f : FuncId} {fn : Func} {s : ChangeSpec} {lv : List (String × DataW Unit)} (started : os.Started) (noInit : Tryd.prog.inits.idxOf? f = none) (hfn : Tryd.prog.funcs[f]? = some fn)
    (witness : ∃ (w : World) (tape : Tape) (i : Input), w.os = os ∧ (w.forCall tape i).Shaped Tryd.prog ∧ i.vars = [] ∧ Input.okWide Tryd.prog (w.forCall tape i) .any w.heap.size f i ∧
      ((s.pre enc Tryd.prog fn [] false (w.forCall tape i).memory i.args ∧ laidMetH Tryd.prog lv (w.forCall tape i).memory) ∧ sizedMet enc Tryd.prog fn (OpenSpec.ofChange s) false (w.forCall tape i).memory i.args) ∧ Assume.holds {} Tryd.prog (lone (Frame.enter Tryd.prog f i.args .normal) [] (w.forCall tape i)))
    (contract : ∀ (W : World) (base : Nat) (args : Array Value) (ds gs : List (DataW H)) (before : List MemPlace),
      (∀ (j : Nat) t v, fn.params[j]? = some t → args[j]? = some v → Value.okWide Tryd.prog W .any base t v) →
      DataW.Whole enc Tryd.prog fn.params.toList s.vars false W args.toList ds gs before →
      (DataW.weightsEach Tryd.prog (fn.params.toList ++ s.plain.varTypes Tryd.prog) (ds ++ gs)).all (· ≤ reachBytes) = true →
      laidMetH Tryd.prog lv W → W.ShapedOpen Tryd.prog →
      Calls Tryd.prog f args W fun e W' => ∃ v, e = .returned v ∧ s.post enc Tryd.prog fn false true false false W args v W') :
    ReturnsInHanded {} Tryd.checked os f .any (fun w args => (s.pre enc Tryd.prog fn [] false w args ∧ laidMetH Tryd.prog lv w) ∧ sizedMet enc Tryd.prog fn (OpenSpec.ofChange s) false w args) (s.post enc Tryd.prog fn false true false false) := by
  refine returnsInHanded_of_calls (C := Tryd.checked) own started noInit witness ?_
  intro w tape i _ hsh _ hok hpre hholds
  obtain ⟨_, _, _, fn', hfn', _, _, _, _, hval⟩ := hok
  have e : fn' = fn := Option.some.inj (hfn'.symm.trans hfn)
  subst e
  obtain ⟨⟨⟨ds, gs, before, hw, hc⟩, hx⟩, hz⟩ := hpre
  have hw' := DataW.Whole.of_heap (w' := w.forCall tape i) (by rfl) hw
  refine (contract (w.forCall tape i) w.heap.size i.args ds gs before hval hw' (hz.weights hw) (hx.of_heap (by rfl)) hsh).mono fun e W' ⟨v, he, hp⟩ => ?_
  subst he
  exact ChangeSpec.post_blind hp


set_option maxRecDepth 100000 in
theorem wit_met4 (os : Os) (args : Array Value) : laidMetH Tryd.prog laid4 ((((World.holding Tryd.prog os ⟨#[], #[], []⟩).layVars Tryd.prog laid4).forCall (fun _ _ => 0) ⟨#[], args, []⟩).memory) := by
  refine laidMetH_of_parts ?_ (by kernel_rfl)
  have h : laidMet Tryd.prog laid4 ((World.holding Tryd.prog os ⟨#[], #[], []⟩).layVars Tryd.prog laid4) :=
    laidMet_layVars (w0 := World.holding Tryd.prog os ⟨#[], #[], []⟩) ["hayloft/table.unitsBounds", "hayloft/table.latBounds", "hayloft/table.busyBounds", "hayloft/table.delayBounds"] [] (by rw [show (laid4.filter fun x => (["hayloft/table.unitsBounds", "hayloft/table.latBounds", "hayloft/table.busyBounds", "hayloft/table.delayBounds"] : List String).contains x.1) = laid4 from by kernel_rfl]) (by kernel_rfl) (by kernel_rfl) (by rw [show (laid4.filter fun x => !(["hayloft/table.unitsBounds", "hayloft/table.latBounds", "hayloft/table.busyBounds", "hayloft/table.delayBounds"] : List String).contains x.1) = [] from by kernel_rfl]; exact LaidIn.none)
  exact h.of_heap (by simp [World.memory, World.forCall, Input.heap])
theorem wit_os4 (os : Os) : ((World.holding Tryd.prog os ⟨#[], #[], []⟩).layVars Tryd.prog laid4).os = os := World.layVars_os _ _ _
set_option maxRecDepth 100000 in
theorem wit_met5 (os : Os) (args : Array Value) : laidMetH Tryd.prog laid5 ((((World.holding Tryd.prog os ⟨#[], #[], []⟩).layVars Tryd.prog laid5).forCall (fun _ _ => 0) ⟨#[], args, []⟩).memory) := by
  refine laidMetH_of_parts ?_ (by kernel_rfl)
  have h : laidMet Tryd.prog laid5 ((World.holding Tryd.prog os ⟨#[], #[], []⟩).layVars Tryd.prog laid5) :=
    laidMet_layVars (w0 := World.holding Tryd.prog os ⟨#[], #[], []⟩) ["hayloft/table.unitsBounds", "hayloft/table.latBounds", "hayloft/table.busyBounds", "hayloft/table.delayBounds", "hayloft/program.ends"] [] (by rw [show (laid5.filter fun x => (["hayloft/table.unitsBounds", "hayloft/table.latBounds", "hayloft/table.busyBounds", "hayloft/table.delayBounds", "hayloft/program.ends"] : List String).contains x.1) = laid5 from by kernel_rfl]) (by kernel_rfl) (by kernel_rfl) (by rw [show (laid5.filter fun x => !(["hayloft/table.unitsBounds", "hayloft/table.latBounds", "hayloft/table.busyBounds", "hayloft/table.delayBounds", "hayloft/program.ends"] : List String).contains x.1) = [] from by kernel_rfl]; exact LaidIn.none)
  exact h.of_heap (by simp [World.memory, World.forCall, Input.heap])
theorem wit_os5 (os : Os) : ((World.holding Tryd.prog os ⟨#[], #[], []⟩).layVars Tryd.prog laid5).os = os := World.layVars_os _ _ _
theorem tySize : Tryd.prog.types.size = 204 := by kernel_rfl
theorem laidOut : laidOutB Tryd.prog = true := by kernel_rfl
theorem trod_ints4 {H : Type} {enc : TypeId × Value → H} {W : World} {base fuel : Nat} {sp : Nat → Bool} {held : Bool} {c0 c1 c2 c3 : Value} {y : DataW H × List MemPlace} (h : DataW.trod enc Tryd.prog W base sp held fuel 23 [c0, c1, c2, c3] = some y) :
    ∃ a b c d : Int, c0 = .int .i64 a ∧ c1 = .int .i64 b ∧ c2 = .int .i64 c ∧ c3 = .int .i64 d ∧ y.2 = [] := by
  obtain ⟨xs, m, _, hx, _, hn, he⟩ := DataW.trod_array Tryd.underlying23 h
  have k3 : Tryd.prog.cellsOf 3 = 1 := by kernel_rfl
  rw [k3] at he
  have h0 := he 0 (by omega)
  have h1 := he 1 (by omega)
  have h2 := he 2 (by omega)
  have h3 := he 3 (by omega)
  match xs, hn with
  | [x0, x1, x2, x3], _ =>
    obtain ⟨a, a1, a2, _⟩ := DataW.trod_int Tryd.underlying3 h0
    obtain ⟨b, b1, b2, _⟩ := DataW.trod_int Tryd.underlying3 h1
    obtain ⟨c, c1', c2', _⟩ := DataW.trod_int Tryd.underlying3 h2
    obtain ⟨d, d1, d2, _⟩ := DataW.trod_int Tryd.underlying3 h3
    simp at a1 b1 c1' d1
    refine ⟨a, b, c, d, a1, b1, c1', d1, ?_⟩
    rw [hx]; simp [a2, b2, c2', d2]

def ofFour (a b c d : Int) : Nat → Int := fun k => if k = 0 then a else if k = 1 then b else if k = 2 then c else d

set_option maxRecDepth 100000 in
theorem open_tab {H : Type} {enc : TypeId × Value → H} {W : World} {r : Reach} {b0 base : Nat} {sp : Nat → Bool} {held : Bool} {v : Value} {d : DataW H} {p : List MemPlace} (hv : Value.okWide Tryd.prog W r b0 25 v) (h : DataW.Trod enc Tryd.prog W base sp held 25 v d p) : (∃ t : Tab, v = t.val) ∧ p = [] := by
  obtain ⟨cs, rfl, hsz⟩ := okWide_struct Tryd.underlying25 hv
  have k27 : Tryd.prog.cellsOf 25 = 13 := by kernel_rfl
  have k25 : Tryd.prog.cellsOf 23 = 4 := by kernel_rfl
  have k3 : Tryd.prog.cellsOf 3 = 1 := by kernel_rfl
  rw [k27] at hsz
  obtain ⟨l⟩ := cs
  clear hv
  match l, hsz with
  | [c0, c1, c2, c3, c4, c5, c6, c7, c8, c9, c10, c11, c12], _ =>
    obtain ⟨fuel, hf⟩ := h
    obtain ⟨y0, y1, y2, y3, n, hx, _, h0, h1, h2, h3⟩ := Joins.trod_struct4 Tryd.underlying25 hf
    rw [k25] at h0 h1 h2
    rw [k3] at h3
    obtain ⟨a0, a1, a2, a3, rfl, rfl, rfl, rfl, e0⟩ := trod_ints4 h0
    obtain ⟨l0, l1, l2, l3, rfl, rfl, rfl, rfl, e1⟩ := trod_ints4 h1
    obtain ⟨b0, b1, b2, b3, rfl, rfl, rfl, rfl, e2⟩ := trod_ints4 h2
    obtain ⟨dd, f1, f2, _⟩ := DataW.trod_int Tryd.underlying3 h3
    have f1' : [c12] = [Value.int .i64 dd] := f1
    obtain rfl : c12 = .int .i64 dd := by simpa using f1'
    refine ⟨⟨⟨ofFour a0 a1 a2 a3, ofFour l0 l1 l2 l3, ofFour b0 b1 b2 b3, dd⟩, rfl⟩, ?_⟩
    simp [e0, e1, e2, f2] at hx
    exact hx.2

theorem trod_struct5 {H : Type} {enc : TypeId × Value → H} {P : Program} {w : World} {base : Nat} {spare : Nat → Bool} {held : Bool} {t : TypeId} {f0 f1 f2 f3 f4 : Field} {fuel : Nat} {cs : List Value} {x : DataW H × List MemPlace} (ht : P.underlying t = some (.struct #[f0, f1, f2, f3, f4])) (h : DataW.trod enc P w base spare held fuel t cs = some x) :
    ∃ y0 y1 y2 y3 y4 n, x = (.agg [y0.1, y1.1, y2.1, y3.1, y4.1], y0.2 ++ (y1.2 ++ (y2.2 ++ (y3.2 ++ y4.2)))) ∧ cs.length = P.cellsOf t ∧ DataW.trod enc P w base spare held n f0.type ((cs.drop f0.offset).take (P.cellsOf f0.type)) = some y0 ∧
      DataW.trod enc P w base spare held n f1.type ((cs.drop f1.offset).take (P.cellsOf f1.type)) = some y1 ∧ DataW.trod enc P w base spare held n f2.type ((cs.drop f2.offset).take (P.cellsOf f2.type)) = some y2 ∧
      DataW.trod enc P w base spare held n f3.type ((cs.drop f3.offset).take (P.cellsOf f3.type)) = some y3 ∧ DataW.trod enc P w base spare held n f4.type ((cs.drop f4.offset).take (P.cellsOf f4.type)) = some y4 := by
  obtain ⟨xs, n, _, rfl, hl, hlen, hf⟩ := DataW.trod_struct ht h
  match xs, hlen with
  | [y0, y1, y2, y3, y4], _ => exact ⟨y0, y1, y2, y3, y4, n, by simp, hl, by simpa using hf 0 f0 rfl, by simpa using hf 1 f1 rfl, by simpa using hf 2 f2 rfl, by simpa using hf 3 f3 rfl, by simpa using hf 4 f4 rfl⟩

set_option maxRecDepth 20000
theorem opsAt_nil (w : World) (ao : Option Addr) : OpsAt w ao [] := ⟨by simp, by simp, fun h => by simp at h⟩
theorem reach_eq : reachBytes = 140737488351232 := rfl
theorem addr_add (b f : Nat) (n : Nat) : (⟨b, f, none⟩ : Addr).add n = ⟨b, f + n, none⟩ := by
  unfold Addr.add
  split
  · rename_i h; subst h; rfl
  · rfl
/-- Cells in a row, told by block and offset. -/
theorem cells_at {w : World} {b f n : Nat} {cs : List Value} (h : w.cells? 0 ⟨b, f, none⟩ n = some cs) (hn : 0 < n) : b < w.heap.size ∧ ∀ i v, cs[i]? = some v → w.cell? ⟨b, f + i, none⟩ = some v := by
  obtain ⟨_, hl, hc⟩ := World.cells?_some h
  refine ⟨World.cells?_block h hn, fun i v e => ?_⟩
  have hi : i < n := by
    rcases Nat.lt_or_ge i n with h | h
    · exact h
    · rw [List.getElem?_eq_none (by omega)] at e; cases e
  have := hc i hi
  rw [addr_add, e] at this
  exact this
theorem spot_none {w : World} {a : Addr} {n : Nat} {cs : List Value} (h : w.cells? 0 a n = some cs) (hn : 0 < n) : a = ⟨a.block, a.off, none⟩ := by
  obtain ⟨_, hl, hc⟩ := World.cells?_some h
  have h0 := hc 0 hn
  have ha : a.add 0 = a := by unfold Addr.add; simp
  rw [ha, List.getElem?_eq_getElem (by omega)] at h0
  obtain ⟨b, f, s⟩ := a
  cases s with
  | none => rfl
  | some s =>
    unfold World.cell? at h0
    split at h0
    · simp at h0
    · cases h0

theorem weightsAll_mem {H : Type} {P : Program} {e : TypeId} {d : DataW H} {n : Nat} : ∀ {l : List (DataW H)}, d ∈ l → n ∈ d.weights P e → n ∈ DataW.weightsAll P e l
  | x :: r, hd, hn => by
    unfold DataW.weightsAll
    rcases List.mem_cons.1 hd with rfl | hd
    · exact List.mem_append_left _ hn
    · exact List.mem_append_right _ (weightsAll_mem hd hn)

/-- One operation, out of its cells. -/
theorem open_o {H : Type} {enc : TypeId × Value → H} {W : World} {base fuel : Nat} {sp : Nat → Bool} {held : Bool} {cs : List Value} {y : DataW H × List MemPlace} (h : DataW.trod enc Tryd.prog W base sp held fuel 40 cs = some y) : ∃ o : O, o.Ok ∧ cs = [.int .i8 o.op, .int .u8 o.d, .int .u8 o.a, .int .u8 o.b, .int .i64 o.im] := by
  have k49 : Tryd.prog.cellsOf 40 = 5 := by kernel_rfl
  have k38 : Tryd.prog.cellsOf 36 = 1 := by kernel_rfl
  have k5 : Tryd.prog.cellsOf 5 = 1 := by kernel_rfl
  have k2 : Tryd.prog.cellsOf 2 = 1 := by kernel_rfl
  obtain ⟨y0, y1, y2, y3, y4, n, hx, hl, h0, h1, h2, h3, h4⟩ := trod_struct5 Tryd.underlying40 h
  rw [k49] at hl
  match cs, hl with
  | [c0, c1, c2, c3, c4], _ =>
    rw [k38] at h0
    rw [k5] at h1 h2 h3
    rw [k2] at h4
    obtain ⟨a, a1, a2, a3⟩ := DataW.trod_int Tryd.underlying36 h0
    obtain ⟨b, b1, b2, b3⟩ := DataW.trod_int Tryd.underlying5 h1
    obtain ⟨c, c1', c2', c3'⟩ := DataW.trod_int Tryd.underlying5 h2
    obtain ⟨e, e1, e2, e3⟩ := DataW.trod_int Tryd.underlying5 h3
    obtain ⟨g, g1, g2, g3⟩ := DataW.trod_int Tryd.underlying2 h4
    have a1' : [c0] = [Value.int .i8 a] := a1
    have b1' : [c1] = [Value.int .u8 b] := b1
    have c1'' : [c2] = [Value.int .u8 c] := c1'
    have e1' : [c3] = [Value.int .u8 e] := e1
    have g1' : [c4] = [Value.int .i64 g] := g1
    obtain rfl : c0 = .int .i8 a := by simpa using a1'
    obtain rfl : c1 = .int .u8 b := by simpa using b1'
    obtain rfl : c2 = .int .u8 c := by simpa using c1''
    obtain rfl : c3 = .int .u8 e := by simpa using e1'
    obtain rfl : c4 = .int .i64 g := by simpa using g1'
    have w0 := wf8 a3
    have w1 := wfu8 b3
    have w2 := wfu8 c3'
    have w3 := wfu8 e3
    have w4 := wf64 g3
    exact ⟨⟨a, b, c, e, g⟩, ⟨w0.1, w0.2, w1.1, w1.2, w2.1, w2.2, w3.1, w3.2, w4.1, w4.2⟩, rfl⟩

/-- A list of operations, out of its cell. -/
theorem open_list {H : Type} {enc : TypeId × Value → H} {W : World} {fuel : Nat} {held : Bool} {cs : List Value} {y : DataW H × List MemPlace} (h : DataW.trod enc Tryd.prog W 0 (fun _ => true) held fuel 22 cs = some y) (hw : ∀ n, n ∈ y.1.weights Tryd.prog 22 → n ≤ reachBytes) :
    ∃ (ao : Option Addr) (cap : Nat) (xs : List O), cs = [.slice ao xs.length cap] ∧ OpsAt W ao xs ∧ xs.length ≤ cap := by
  have k49 : Tryd.prog.cellsOf 40 = 5 := by kernel_rfl
  have b49 : Tryd.prog.bytesOf 40 = 16 := by kernel_rfl
  rcases Deep.open_slice Tryd.underlying22 h with ⟨rfl, rfl⟩ | ⟨a, len, cap, m, n, D, Pl, rfl, _, hlc, _, hm, rfl, hx⟩
  · exact ⟨none, 0, [], rfl, opsAt_nil _ _, by simp⟩
  · have hmc : m = cap := by simpa using hm
    subst hmc
    have hcap : m * 16 ≤ reachBytes := by
      refine hw _ ?_
      unfold DataW.weights
      simp only [Tryd.underlying22, b49]
      refine List.mem_cons.2 (.inl ?_)
      simp; omega
    rw [reach_eq] at hcap
    rw [k49] at hx
    haveI : Inhabited O := ⟨⟨0, 0, 0, 0, 0⟩⟩
    obtain ⟨X, hX⟩ := Deep.choose_lt (α := O) (n := len) (p := fun i o => o.Ok ∧ W.cells? 0 (a.add (i * 5)) 5 = some [.int .i8 o.op, .int .u8 o.d, .int .u8 o.a, .int .u8 o.b, .int .i64 o.im]) (fun i hi => by
      obtain ⟨cs', h1, h2⟩ := hx i (by omega)
      obtain ⟨o, ho, rfl⟩ := open_o h2
      exact ⟨o, ho, h1⟩)
    refine ⟨some a, m, (List.range len).map X, by simp, ⟨fun o ho => ?_, by simp; omega, fun h0 => ?_⟩, by simp; omega⟩
    · obtain ⟨i, hi, rfl⟩ := List.mem_map.1 ho
      exact (hX i (List.mem_range.1 hi)).1
    · have h0' : 0 < len := by simpa using h0
      have ha : a = ⟨a.block, a.off, none⟩ := by
        have := (hX 0 h0').2
        rw [show a.add (0 * 5) = a by unfold Addr.add; simp] at this
        exact spot_none this (by omega)
      refine ⟨a.block, a.off, by rw [← ha], ?_, fun i hi => ?_⟩
      · have := (hX 0 h0').2
        rw [ha, addr_add] at this
        exact (cells_at this (by omega)).1
      · have hi' : i < len := by simpa using hi
        have := (hX i hi').2
        rw [ha, addr_add] at this
        have hc := (cells_at this (by omega)).2
        simp only [List.getElem_map, List.getElem_range]
        exact ⟨hc 0 _ rfl, hc 1 _ rfl, hc 2 _ rfl, hc 3 _ rfl, hc 4 _ rfl⟩


theorem open_ops {H : Type} {enc : TypeId × Value → H} {W : World} {r : Reach} {b0 : Nat} {held : Bool} {v : Value} {d : DataW H} {p : List MemPlace} (hv : Value.okWide Tryd.prog W r b0 22 v) (h : DataW.Trod enc Tryd.prog W 0 (fun _ => true) held 22 v d p) (hw : ∀ n, n ∈ d.weights Tryd.prog 22 → n ≤ reachBytes) :
    ∃ (ao : Option Addr) (cap : Nat) (xs : List O), v = .slice ao xs.length cap ∧ OpsAt W ao xs ∧ xs.length ≤ cap := by
  obtain ⟨a, len, cap, rfl⟩ := okWide_slice Tryd.underlying22 hv
  obtain ⟨fuel, hf⟩ := h
  have hf' : DataW.trod enc Tryd.prog W 0 (fun _ => true) held fuel 22 [.slice a len cap] = some (d, p) := hf
  obtain ⟨ao, c, xs, e, h1, h2⟩ := open_list hf' hw
  exact ⟨ao, c, xs, by simpa using e, h1, h2⟩
end Go.Proofs.YtccakjijoadjkaaDoor.Op

namespace Go.Proofs.YtccakjijoadjkaaDoor.Sm
open Go.ChangeShapes Go.WideShapes Go.ChangeAt Go.RowKit
open _root_.Go.Proofs.YtccakjijoadjkaaDoor.Op _root_.Go.Proofs.YtccakjijoadjkaaDoor.So
set_option maxRecDepth 20000

theorem cell_spot {w : World} {a : Addr} {v : Value} (h : w.cell? a = some v) : a = ⟨a.block, a.off, none⟩ := by
  obtain ⟨b, f, s⟩ := a
  cases s with
  | none => rfl
  | some s =>
    unfold World.cell? at h
    split at h
    · simp at h
    · cases h
/-- A list of numbers out of a datum. -/
theorem open_nums {H : Type} {enc : TypeId × Value → H} {W : World} {fuel : Nat} {held : Bool} {c : Value} {y : DataW H × List MemPlace} (h : DataW.trod enc Tryd.prog W 0 (fun _ => true) held fuel 33 [c] = some y) :
    ∃ (ao : Option Addr) (cap : Nat) (l : List Int), c = .slice ao l.length cap ∧ NL W ao l ∧ (∀ x ∈ l, In64 x) := by
  rcases open_ints (P := Tryd.prog) Tryd.underlying33 Tryd.underlying2 (by kernel_rfl) h with ⟨e, -⟩ | ⟨a, len, cap, zs, e, -, hl, hc, hz, -, hcell, hwf⟩
  · exact ⟨none, 0, [], by simpa using e, ⟨fun h => by simp at h⟩, fun x hx => by simp at hx⟩
  · have hz : zs.length = cap := by simpa using hz
    refine ⟨some a, cap, zs.take len, by simp at e; rw [e]; congr; simp; omega, ⟨fun h0 => ?_⟩, fun x hx => ?_⟩
    · have hlen : 0 < len := by simp at h0; omega
      have h1 := hcell 0 (by omega)
      rw [show a.add 0 = a by unfold Addr.add; simp] at h1
      have ha := cell_spot h1
      refine ⟨a.block, a.off, by rw [← ha], World.block_lt_of_cell? W a h1, fun i hi => ?_⟩
      have hi' : i < zs.length := by simp at hi; omega
      have h2 := hcell i hi'
      rw [ha, add_at'] at h2
      rw [h2]
      simp [List.getD, List.getElem?_eq_getElem hi']
    · have := wf64 (hwf x (List.mem_of_mem_take hx))
      exact this
theorem open_state {H : Type} {enc : TypeId × Value → H} {W : World} {r : Reach} {b0 : Nat} {held : Bool} {v : Value} {d : DataW H} {p : List MemPlace} (hv : Value.okWide Tryd.prog W r b0 35 v) (h : DataW.Trod enc Tryd.prog W 0 (fun _ => true) held 35 v d p) :
    ∃ (ra ma : Option Addr) (rc mc : Nat) (rs ms : List Int), v = .agg #[.slice ra rs.length rc, .slice ma ms.length mc] ∧ Sn W ra ma rs ms ∧ (∀ x ∈ rs, In64 x) ∧ (∀ x ∈ ms, In64 x) := by
  obtain ⟨cs, rfl, hsz⟩ := okWide_struct Tryd.underlying35 hv
  have k27 : Tryd.prog.cellsOf 35 = 2 := by kernel_rfl
  have k25 : Tryd.prog.cellsOf 33 = 1 := by kernel_rfl
  rw [k27] at hsz
  obtain ⟨l⟩ := cs
  clear hv
  match l, hsz with
  | [c0, c1], _ =>
    obtain ⟨fuel, hf⟩ := h
    obtain ⟨xs, n, _, hx, _, hlen, hff⟩ := DataW.trod_struct Tryd.underlying35 hf
    match xs, hlen with
    | [y0, y1], _ =>
      have h0 : DataW.trod enc Tryd.prog W 0 (fun _ => true) held n 33 ((([c0, c1] : List Value).drop 0).take (Tryd.prog.cellsOf 33)) = some y0 := hff 0 _ rfl
      have h1 : DataW.trod enc Tryd.prog W 0 (fun _ => true) held n 33 ((([c0, c1] : List Value).drop 1).take (Tryd.prog.cellsOf 33)) = some y1 := hff 1 _ rfl
      rw [k25] at h0 h1
      obtain ⟨ra, rc, rs, e0, n0, i0⟩ := open_nums (c := c0) h0
      obtain ⟨ma, mc, ms, e1, n1, i1⟩ := open_nums (c := c1) h1
      subst e0 e1
      exact ⟨ra, ma, rc, mc, rs, ms, rfl, ⟨n0, n1⟩, i0, i1⟩
end Go.Proofs.YtccakjijoadjkaaDoor.Sm

namespace Go.Proofs.YtccakjijoadjkaaDoor.Sm
open Go.ChangeShapes Go.WideShapes Go.ChangeAt Go.RowKit
open _root_.Go.Proofs.YtccakjijoadjkaaDoor.Op

set_option maxRecDepth 100000 in
theorem swap_wit (os : Os) (H : Type) (enc : TypeId × Value → H) : ∃ (w : World) (tape : Tape) (i : Input), w.os = os ∧ (w.forCall tape i).Shaped Tryd.prog ∧ i.vars = [] ∧ Input.okWide Tryd.prog (w.forCall tape i) .any w.heap.size 4 i ∧
      ((Rows.depsSwapSpec.pre enc Tryd.prog Tryd.f4 [] false (w.forCall tape i).memory i.args ∧ laidMetH Tryd.prog Rows.depsSwapRow.laid (w.forCall tape i).memory) ∧ sizedMet enc Tryd.prog Tryd.f4 (OpenSpec.ofChange Rows.depsSwapSpec) false (w.forCall tape i).memory i.args) ∧ Assume.holds {} Tryd.prog (lone (Frame.enter Tryd.prog 4 i.args .normal) [] (w.forCall tape i)) :=
  ChangeSpec.witness_shaped (enc := enc) (C := Tryd.checked) (os := os) (X := fun w _ => laidMetH Tryd.prog Rows.depsSwapRow.laid w) false ((World.holding Tryd.prog os ⟨#[], #[], []⟩).layVars Tryd.prog laid5) #[.slice none 0 0, .agg #[.int .i64 0, .int .i64 0, .int .i64 0, .int .i64 0, .int .i64 0, .int .i64 0, .int .i64 0, .int .i64 0, .int .i64 0, .int .i64 0, .int .i64 0, .int .i64 0, .int .i64 0], .agg #[.slice none 0 0, .slice none 0 0], .int .i64 0] 8 (wit_os5 os)
    (World.shaped_of_ZipB (by kernel_rfl) (by kernel_rfl)) (by kernel_rfl) (by kernel_rfl) (by kernel_rfl) (wit_met5 os _)

set_option maxRecDepth 100000 in
theorem swap_lifted (os : Os) (started : os.Started) (H : Type) (enc : TypeId × Value → H) :
    ReturnsInHanded {} Tryd.checked os 4 .any (fun w args => (Rows.depsSwapSpec.pre enc Tryd.prog Tryd.f4 [] false w args ∧ laidMetH Tryd.prog Rows.depsSwapRow.laid w) ∧ sizedMet enc Tryd.prog Tryd.f4 (OpenSpec.ofChange Rows.depsSwapSpec) false w args)
      (Rows.depsSwapSpec.post enc Tryd.prog Tryd.f4 false true false false) := by
  refine wrap started (by kernel_rfl) Tryd.func4 (swap_wit os H enc) ?_
  intro W base args ds gs before hval0 hW hsz hL hsh
  have hval : ∀ (j : Nat) t v, Tryd.f4.params[j]? = some t → args[j]? = some v → Value.okWide Tryd.prog W .any base t v := hval0
  have hW' := hW
  obtain ⟨p, q, hA0, hV, rfl, _, _⟩ := hW
  have hA : DataW.TrodAll enc Tryd.prog W 0 (fun _ => true) true Tryd.f4.params.toList args.toList ds p := hA0
  rw [Tryd.params4] at hA hval hsz
  obtain ⟨v0, vs0, d0, ds0, p0, q0, hargs, rfl, rfl, h0, r0⟩ := trodAll_cons hA
  obtain ⟨v1, vs1, d1, ds1, p1, q1, rfl, rfl, rfl, h1, r1⟩ := trodAll_cons r0
  obtain ⟨v2, vs2, d2, ds2, p2, q2, rfl, rfl, rfl, h2, r2⟩ := trodAll_cons r1
  obtain ⟨v3, vs3, d3, ds3, p3, q3, rfl, rfl, rfl, h3, r3⟩ := trodAll_cons r2
  obtain ⟨rfl, rfl, rfl⟩ := trodAll_nil r3
  obtain rfl : args = #[v0, v1, v2, v3] := by cases args; simp_all
  obtain ⟨rfl, rfl⟩ := trodVars_none hV
  obtain ⟨ao, cap, xs, rfl, hp, hc⟩ := open_ops (hval 0 22 v0 rfl rfl) h0 fun n hn => by
    have := List.all_eq_true.1 hsz n (DataW.weights_mem_each (j := 0) rfl rfl n hn)
    simpa using this
  obtain ⟨⟨t, rfl⟩, rfl⟩ := open_tab (hval 1 25 v1 rfl rfl) h1
  obtain ⟨ra, ma, rc, mc, rs, ms, rfl, hs, hr, hms⟩ := open_state (hval 2 35 v2 rfl rfl) h2
  obtain ⟨n, rfl, rfl, rfl, hn⟩ := open_int Tryd.underlying3 (hval 3 3 v3 rfl rfl) h3
  simp only [List.append_nil] at hW'
  refine (law_swap ao ra ma cap rc mc xs t rs ms n W hp hc (env5 hL).1 (env5 hL).2 hs hr hms).mono fun e W' ⟨he, hb⟩ => ?_
  subst he
  refine ⟨_, rfl, _, _, _, [], p0 ++ ([] ++ (p2 ++ ([] ++ []))), [], hW', trodAll_mk1 (shut_bool Tryd.underlying4 _), ?_, rfl, hb.frame _, fun h => by cases h⟩
  rw [Tryd.params4]
  exact trodAll_cons_mk (Below.trod laidOut (by kernel_rfl) (by rw [tySize]; decide) h0 hb fun x hx => by obtain ⟨fuel, hf⟩ := h0; exact DataW.trod_lt _ _ _ _ hf x hx) (trodAll_cons_mk (Below.trod laidOut (by kernel_rfl) (by rw [tySize]; decide) h1 hb (fun x hx => by cases hx)) (trodAll_cons_mk (Below.trod laidOut (by kernel_rfl) (by rw [tySize]; decide) h2 hb fun x hx => by obtain ⟨fuel, hf⟩ := h2; exact DataW.trod_lt _ _ _ _ hf x hx) (trodAll_cons_mk (Below.trod laidOut (by kernel_rfl) (by rw [tySize]; decide) h3 hb (fun x hx => by cases hx)) (trodAll_mk0))))

theorem swap_row : Rows.DepsSwapSaid :=
  OpenClaim.holds_of_wide 4 Tryd.f4 rfl rfl rfl rfl rfl rfl rfl ⟨rfl, rfl, rfl, rfl, rfl⟩ rfl rfl rfl rfl rfl (by kernel_rfl) Tryd.func4 (by kernel_rfl)
    (of_decide_eq_true (by kernel_rfl)) (by unfold Func.isWrapper; first | (rw [if_pos (by decide +kernel)]; kernel_rfl) | (rw [if_neg (by decide +kernel)]; exact ⟨rfl, rfl⟩))
    (fun os started H enc _ => swap_lifted os started H enc)

theorem swap_card : Rows.DepsSwapCardSaid :=
  Claim7.holds_tied_plain_at .later [] [.wider, .wider, .wider, .wider, .data] true (true, "a30ebd5077f33e5cdccaff7d2a4a0209575c01e2b2de5e3f09ea03bda577cf6e") true swap_row (fun _ h => by cases h) (by kernel_rfl) (fun _ h => by cases h) depsSwap_row_tie rfl ⟨rfl, rfl⟩ (by kernel_rfl) rfl
    (fun f fn hf hfn => by
      obtain rfl : f = 4 := Option.some.inj ((show Tryd.prog.funcNamed "hayloft/hayloftlaw11.DepsSwap" = some 4 by kernel_rfl).symm.trans hf) |>.symm
      obtain rfl : fn = Tryd.f4 := (Option.some.inj (Tryd.func4.symm.trans hfn)).symm
      exact ⟨by kernel_rfl, fun j t ht => by
        rw [Tryd.params4] at ht
        have hm : t ∈ [22, 25, 35, 3] := by simpa using Array.mem_of_getElem? ht
        have hall : ([22, 25, 35, 3].all fun u => !Tryd.prog.wantsStandIn u) = true := by kernel_rfl
        exact (show Tryd.prog.wantsStandIn t = false by simpa using List.all_eq_true.1 hall t hm)⟩)
    (by kernel_rfl)
#print axioms swap_card
end Go.Proofs.YtccakjijoadjkaaDoor.Sm
