/- What the statements of layer 16 wake by (wakes): two bodies. Conditions: the variables as the program lays them. -/
import Derived.Test.YteccifanbgcakaaGreatDoorN38
import Derived.Test.YteccifanbgcakaaGreatDoorN32
import Derived.Test.YteccifanbgcakaaGreatDoorN26
import Derived.Test.YteccifanbgcakaaGreatDoorN27
import Derived.Deep.WholeRow
import Derived.Test.YteccifanbgcakaaGreatDoorN29
namespace Go.Proofs.YteccifanbgcakaaGreatDoor.Mo
open Go.ChangeShapes Go.WideShapes Go.ChangeAt Go.RowKit
open _root_.Go.Proofs.YteccifanbgcakaaGreatDoor.Op _root_.Go.Proofs.YteccifanbgcakaaGreatDoor.So _root_.Go.Proofs.YteccifanbgcakaaGreatDoor.Dp _root_.Go.Proofs.YteccifanbgcakaaGreatDoor.Bn
open _root_.Go.Proofs.YteccifanbgcakaaGreatDoor.Ls (clN clN_at clN_lt Nl arC arC_all arC_yes arC_no areCycles_any)
open _root_.Go.Proofs.YteccifanbgcakaaGreatDoor.Rv (RAt Few frB tkF tk_few take_any evOk NwOut ring_ok tn addK)
open _root_.Go.Proofs.YteccifanbgcakaaGreatDoor.Tb (Tab TabAt Bnds)
set_option maxRecDepth 20000

open _root_.Go.Proofs.YteccifanbgcakaaGreatDoor.Ls (cyL cyL_is cycles_ok hvU hvU_yes cy_nl)
theorem clD_same (d : Int) : Ls.clD d = Bn.clD d := rfl
/-- Where there is a unit for each round there is one for each operation. -/
theorem hu_hv {t : Tab} {xs : List O} (h : huB t (cts xs) 4 = true) : hvU t xs = true ∧ ¬ t.u 3 = 0 := by
  have key : ∀ k, k < 4 → 0 < cts xs k → ¬ t.u k = 0 := fun k hk h1 h2 => by
    rw [huB_le (n := 4) hk (by simp [h1, h2])] at h
    cases h
  refine ⟨(hvU_yes fun j hj => ?_).symm, key 3 (by omega) (by rw [cts_3]; omega)⟩
  rw [clD_same]
  exact key _ (by have := Bn.clD_lt xs[j].op; omega) (cts_pos hj)
/-- The numbers of a body are small. -/
theorem body_ok {w : World} {ao : Option Addr} {xs : List O} {t : Tab} (h : OpsAt w ao xs) (he : rgE t xs = 0) : BoOk xs t (cyL t xs) (drn t xs (cyL t xs) xs.length) ∧ 1 + t.d ≤ drn t xs (cyL t xs) xs.length ∧ drn t xs (cyL t xs) xs.length ≤ 512 ∧ ∀ k, k < xs.length → 0 ≤ cyL t xs k ∧ cyL t xs k + 8 ≤ 8 * (xs.length : Int) := by
  obtain ⟨ht, hn, hl, hu⟩ := rg_ok he
  have hc := (cyL_is h.ok hl (hu_hv hu).1).1
  have hd : drn t xs (cyL t xs) xs.length ≤ 512 := drn_le ht (by omega) fun k hk => by have := hc k hk; omega
  exact ⟨⟨he, fun k hk => by have := hc k hk; omega, by omega⟩, (drn_ge t xs (cyL t xs) xs.length).1, hd, hc⟩
/-- Where Find has come to: its table and its result in their boxes. -/
structure Fi (w W : World) (t : Tab) : Prop where
  t : TabAt W w.heap.size t
  r : At W (w.heap.size + 1) #[.int .i64 0, .slice none 0 0, .int .i64 0]
  up : Below w.heap.size w W
theorem Fi.next {w W W' : World} {t : Tab} (h : Fi w W t) (g : Below W.heap.size W W') : Fi w W' t := ⟨h.t.below g h.t.lt, h.r.below g h.r.lt, h.up.trans (g.mono h.up.size)⟩
theorem fi_new (w : World) (t : Tab) {W : World} (hb : Below ((w.alloc (.cells t.cells 25)).alloc (.cells #[.int .i64 0, .slice none 0 0, .int .i64 0] 28)).heap.size ((w.alloc (.cells t.cells 25)).alloc (.cells #[.int .i64 0, .slice none 0 0, .int .i64 0] 28)) W) : Fi w W t := by
  have a1 := Tb.tabAt_new w t 25
  have a2 := At.new (w.alloc (.cells t.cells 25)) #[.int .i64 0, .slice none 0 0, .int .i64 0] 28
  rw [show (w.alloc (.cells t.cells 25)).heap.size = w.heap.size + 1 by simp] at a2
  exact (⟨a1.below ((Below.refl _ _).alloc (Nat.le_refl _) _) a1.lt, a2, by go_grown⟩ : Fi w _ t).next hb
/-- What Find hands back. -/
def FdOut (n : Nat) (p : Int × (Nat → Int)) (w : World) (e : Ending) (w' : World) : Prop := ∃ ra rc, e = .returned (.tuple #[.agg #[.int .i64 p.1, .slice ra n rc, .int .i64 (stg n p.2 p.1)], .int .i64 0]) ∧ Nl w' ra n p.2 ∧ Below w.heap.size w w'
set_option maxHeartbeats 8000000 in
theorem find_ok (ao : Option Addr) (cap : Nat) (xs : List O) (t : Tab) (sr : Int → Option (Nat → Int)) (w : World) (h : OpsAt w ao xs) (hcap : xs.length ≤ cap) (hG : Bnds w) (he : rgE t xs = 0)
    (hsr : ∀ W bb ea ec a cc b1 b2 E, Bo W bb ao cap xs t ea ec a cc (cyL t xs) (drn t xs (cyL t xs) xs.length) → At W b1 #[.pointer (some ⟨bb, 0, none⟩)] → At W b2 #[.int .i64 E] → leE t xs ≤ E → E < drn t xs (cyL t xs) xs.length → kgB t xs (cyL t xs) E = false → Calls Tryz.prog 107 #[.pointer (some ⟨b1, 0, none⟩), .pointer (some ⟨b2, 0, none⟩)] W (SrOut xs.length (sr E) W))
    (hsc : ∀ E c, leE t xs ≤ E → E < drn t xs (cyL t xs) xs.length → sr E = some c → ∀ k, k < xs.length → 0 ≤ c k ∧ c k ≤ 65536) :
    Calls Tryz.prog 14 #[.slice ao xs.length cap, t.val] w (FdOut xs.length (fpP (kgB t xs (cyL t xs)) sr (cyL t xs) (drn t xs (cyL t xs) xs.length) (drn t xs (cyL t xs) xs.length - leE t xs).toNat (leE t xs)) w) := by
  have HL : Hid (∀ W, Below w.heap.size w W → Calls Tryz.prog 16 #[.slice ao xs.length cap, .agg #[.int .i64 (t.u 0), .int .i64 (t.u 1), .int .i64 (t.u 2), .int .i64 (t.u 3), .int .i64 (t.l 0), .int .i64 (t.l 1), .int .i64 (t.l 2), .int .i64 (t.l 3), .int .i64 (t.b 0), .int .i64 (t.b 1), .int .i64 (t.b 2), .int .i64 (t.b 3), .int .i64 t.d]] W fun e w' => e = .returned (.tuple #[.int .i64 (leE t xs), .int .i64 0]) ∧ Below W.heap.size W w') := fun W hb => by
    have := least_any ao cap xs t W (h.below hb) hcap (hG.below hb hG.big)
    rw [he] at this
    exact this
  obtain ⟨ht, hn, hl, hu⟩ := rg_ok he
  obtain ⟨hok, hd1, hd2, hcr⟩ := body_ok h he
  have hle : 1 + t.d ≤ leE t xs := by unfold leE; rw [if_pos he]; omega
  have HC : Hid (∀ W, Below w.heap.size w W → Calls Tryz.prog 17 #[.slice ao xs.length cap, .agg #[.int .i64 (t.u 0), .int .i64 (t.u 1), .int .i64 (t.u 2), .int .i64 (t.u 3), .int .i64 (t.l 0), .int .i64 (t.l 1), .int .i64 (t.l 2), .int .i64 (t.l 3), .int .i64 (t.b 0), .int .i64 (t.b 1), .int .i64 (t.b 2), .int .i64 (t.b 3), .int .i64 t.d]] W fun e w' => ∃ hb, e = .returned (.tuple #[.slice (some ⟨hb, 0, none⟩) xs.length xs.length, .int .i64 0]) ∧ Nl w' (some ⟨hb, 0, none⟩) xs.length (cyL t xs) ∧ W.heap.size ≤ hb ∧ Below W.heap.size W w') := fun W hb => by
    refine (cycles_ok ao cap xs t W (h.below hb) hcap (hG.below hb hG.big) hl (hu_hv hu).1).mono ?_
    rintro e w' ⟨hb, rfl, hi, hz, hb2⟩
    exact ⟨hb, rfl, cy_nl h.ok hl (hu_hv hu).1 hi, hz, hb2⟩
  have HNb : Hid (∀ W hb, Below w.heap.size w W → Nl W (some ⟨hb, 0, none⟩) xs.length (cyL t xs) → Calls Tryz.prog 32 #[.slice ao xs.length cap, .agg #[.int .i64 (t.u 0), .int .i64 (t.u 1), .int .i64 (t.u 2), .int .i64 (t.u 3), .int .i64 (t.l 0), .int .i64 (t.l 1), .int .i64 (t.l 2), .int .i64 (t.l 3), .int .i64 (t.b 0), .int .i64 (t.b 1), .int .i64 (t.b 2), .int .i64 (t.b 3), .int .i64 t.d], .slice (some ⟨hb, 0, none⟩) xs.length xs.length] W fun e w' => ∃ bb ea ec, e = .returned (.pointer (some ⟨bb, 0, none⟩)) ∧ Bo w' bb ao cap xs t ea ec (some ⟨hb, 0, none⟩) xs.length (cyL t xs) (drn t xs (cyL t xs) xs.length) ∧ Below W.heap.size W w') := fun W hb hbe hN => by
    refine (newBody_any (some ⟨hb, 0, none⟩) ao cap xs.length xs t (cyL t xs) W hN hok.g (h.below hbe) hcap (hG.below hbe hG.big) hl).mono ?_
    rintro e w' ⟨bb, ea, ec, rfl, h1, h2, -, h4⟩
    exact ⟨bb, ea, ec, rfl, ⟨h1, (h.below hbe).below h4, es_of h2, hN.up h4, (hG.below hbe hG.big).below h4 (hG.below hbe hG.big).big⟩, h4⟩
  have HFp : Hid (∀ W bb ea ec hb, Bo W bb ao cap xs t ea ec (some ⟨hb, 0, none⟩) xs.length (cyL t xs) (drn t xs (cyL t xs) xs.length) → Calls Tryz.prog 33 #[.pointer (some ⟨bb, 0, none⟩), .int .i64 (leE t xs)] W (FpOut (some ⟨hb, 0, none⟩) xs.length (fpP (kgB t xs (cyL t xs)) sr (cyL t xs) (drn t xs (cyL t xs) xs.length) (drn t xs (cyL t xs) xs.length - leE t xs).toNat (leE t xs)) W)) := fun W bb ea ec hb hB => firstPlan_any bb ao cap xs t ea ec (some ⟨hb, 0, none⟩) xs.length (cyL t xs) _ _ sr W hB hok hle hd1 (fun W b1 b2 E q1 q2 q3 q4 q5 q6 => hsr W bb ea ec (some ⟨hb, 0, none⟩) xs.length b1 b2 E q1 q2 q3 q4 q5 q6) hsc
  have hlen := h.len
  clear h hcap hG he ht hn hl hu hok hcr hsr hsc
  unfold FpOut at HFp
  unfold FdOut
  generalize fpP (kgB t xs (cyL t xs)) sr (cyL t xs) (drn t xs (cyL t xs) xs.length) (drn t xs (cyL t xs) xs.length - leE t xs).toNat (leE t xs) = R at *
  obtain ⟨R1, R2⟩ := R
  generalize drn t xs (cyL t xs) xs.length = D at *
  generalize leE t xs = le at *
  obtain ⟨st, hst⟩ : ∃ st, stg xs.length R2 R1 = st := ⟨_, rfl⟩
  have HS : Hid (stg xs.length R2 R1 = st) := hst
  have HFp2 : Hid (∀ W bb ea ec hb, Bo W bb ao cap xs t ea ec (some ⟨hb, 0, none⟩) xs.length (cyL t xs) D → Calls Tryz.prog 33 #[.pointer (some ⟨bb, 0, none⟩), .int .i64 le] W fun e w' => ∃ ra rc, e = .returned (.agg #[.int .i64 R1, .slice ra xs.length rc, .int .i64 st]) ∧ Nl w' ra xs.length R2 ∧ (ra = some ⟨hb, 0, none⟩ ∨ ∀ x, ra = some x → W.heap.size ≤ x.block) ∧ Below W.heap.size W w') := fun W bb ea ec hb hB => by
    have := HFp.out W bb ea ec hb hB
    rw [← HS.out]; exact this
  clear HFp hst
  unfold Tab.val
  go_enter Tryz.func14, Tryz.ntmps14
  go_wp2_with (first
    | (go_at_call 16; refine Calls.mono (HL.out _ (by go_grown)) ?_; rintro e w1 ⟨rfl, b1⟩; have HT : Hid (Fi w w1 t) := fi_new w t b1; clear b1 HL; have k2 := HT.out.t; have qu0 := k2.cu 0 (by decide); have qu1 := k2.cu 1 (by decide); have qu2 := k2.cu 2 (by decide); have qu3 := k2.cu 3 (by decide); have ql0 := k2.cl 0 (by decide); have ql1 := k2.cl 1 (by decide); have ql2 := k2.cl 2 (by decide); have ql3 := k2.cl 3 (by decide); have qb0 := k2.cb 0 (by decide); have qb1 := k2.cb 1 (by decide); have qb2 := k2.cb 2 (by decide); have qb3 := k2.cb 3 (by decide); have qd := k2.cd; have qz := k2.lt; clear k2)
    | (go_at_call 17; refine Calls.mono (HC.out _ HT.out.up) ?_; rintro e w2 ⟨hb, rfl, n2, z2, b2⟩; have HT2 : Hid (Fi w w2 t ∧ Nl w2 (some ⟨hb, 0, none⟩) xs.length (cyL t xs) ∧ w.heap.size + 1 < hb) := ⟨HT.out.next b2, n2, (by have := HT.out.r.lt; omega)⟩; clear b2 n2 z2 HC HT qu0 qu1 qu2 qu3 ql0 ql1 ql2 ql3 qb0 qb1 qb2 qb3 qd qz; have k2 := HT2.out.1.t; have qu0 := k2.cu 0 (by decide); have qu1 := k2.cu 1 (by decide); have qu2 := k2.cu 2 (by decide); have qu3 := k2.cu 3 (by decide); have ql0 := k2.cl 0 (by decide); have ql1 := k2.cl 1 (by decide); have ql2 := k2.cl 2 (by decide); have ql3 := k2.cl 3 (by decide); have qb0 := k2.cb 0 (by decide); have qb1 := k2.cb 1 (by decide); have qb2 := k2.cb 2 (by decide); have qb3 := k2.cb 3 (by decide); have qd := k2.cd; have qz := k2.lt; clear k2)
    | (go_at_call 32; refine Calls.mono (HNb.out _ _ HT2.out.1.up HT2.out.2.1) ?_; rintro e w3 ⟨bb, ea, ec, rfl, o3, b3⟩; have HT3 : Hid (Fi w w3 t ∧ Bo w3 bb ao cap xs t ea ec (some ⟨hb, 0, none⟩) xs.length (cyL t xs) D ∧ w.heap.size + 1 < hb) := ⟨HT2.out.1.next b3, o3, HT2.out.2.2⟩; clear b3 o3 HNb HT2 qu0 qu1 qu2 qu3 ql0 ql1 ql2 ql3 qb0 qb1 qb2 qb3 qd qz)
    | (go_at_call 33; refine Calls.mono (HFp2.out _ _ _ _ _ HT3.out.2.1) ?_; rintro e w4 ⟨ra, rc, rfl, n4, a4, b4⟩; have HT4 : Hid (Fi w w4 t ∧ Nl w4 ra xs.length R2 ∧ ∀ x, ra = some x → x.block ≠ w.heap.size + 1) := ⟨HT3.out.1.next b4, n4, fun x hx => (by rcases a4 with a4 | a4; (rw [a4] at hx; injection hx with hx; rw [← hx]; have := HT3.out.2.2; show hb ≠ w.heap.size + 1; omega); (have := a4 x hx; have := HT3.out.1.r.lt; omega))⟩; clear b4 n4 a4 HFp2 HT3; have r0 := HT4.out.1.r.c 0 _ rfl; have r1 := HT4.out.1.r.c 1 _ rfl; have r2 := HT4.out.1.r.c 2 _ rfl; have rf0 := HT4.out.1.r.f 0; have rf1 := HT4.out.1.r.f 1; have rf2 := HT4.out.1.r.f 2; have rl := HT4.out.1.r.lt))
  refine bodyPost_ret (v := .tuple #[.agg #[.int .i64 R1, .slice ra xs.length rc, .int .i64 st], .int .i64 0]) (by simp [results, Tryz.results14, go_sem, r0, r1, r2]) rfl ?_
  have hq := fw_out (z := w.heap.size + 1) HT4.out.2.1 HT4.out.1.up (by omega) (fun _ x hx => HT4.out.2.2 x hx) (.int .i64 R1) (.slice ra xs.length rc) (.int .i64 st)
  exact ⟨ra, rc, by rw [HS.out], hq.1, hq.2⟩
end Go.Proofs.YteccifanbgcakaaGreatDoor.Mo

namespace Go.Proofs.YteccifanbgcakaaGreatDoor.Bn
open Go.ChangeShapes Go.WideShapes Go.ChangeAt Go.RowKit
open _root_.Go.Proofs.YteccifanbgcakaaGreatDoor.Op _root_.Go.Proofs.YteccifanbgcakaaGreatDoor.So
open _root_.Go.Proofs.YteccifanbgcakaaGreatDoor.Dp (Ed)
set_option maxRecDepth 20000

theorem pas_put (q : Int) (l : List Ed) (e : Ed) (g : Nat → Int) : pas q (l ++ [e]) g = rlx q (pas q l g) e := by unfold pas; rw [List.foldl_append]; rfl
theorem chg_put (q : Int) (e : Ed) : ∀ (l : List Ed) (g : Nat → Int), chg q (l ++ [e]) g = (chg q l g || decide (pas q l g e.t.toNat < pas q l g e.f.toNat + wt q e))
  | [], g => by show (decide _ || false) = (false || decide _); rw [Bool.or_false, Bool.false_or]; rfl
  | a :: l, g => by
    show (decide _ || chg q (l ++ [e]) (rlx q g a)) = ((decide _ || chg q l (rlx q g a)) || decide (pas q l (rlx q g a) _ < pas q l (rlx q g a) _ + _))
    rw [chg_put q e l (rlx q g a), Bool.or_assoc]
theorem take_put {es : List Ed} {j : Nat} (h : j < es.length) : es.take (j + 1) = es.take j ++ [es[j]] := List.take_succ_eq_append_getElem h
theorem info3 : (Tryz.prog.info? 3).map (fun i => (i.zero, i.size, i.bytes)) = some (some (.int .i64 0), 1, 8) := by kernel_rfl
theorem iv_made (W : World) (n : Nat) (t : TypeId) : Iv (W.alloc (.cells (madeCells #[.int .i64 0] n) t)) W.heap.size n (fun _ => 0) := by
  have h := At.new W (madeCells #[.int .i64 0] n) t
  refine ⟨fun k hk => h.c k _ ?_, h.f, h.lt⟩
  rw [← Array.getElem?_toList, toList_madeCells_one]
  simp [hk]
/-- Longest ways under way: their row, and the dependences. -/
structure Lw (w W : World) (b n : Nat) (g : Nat → Int) (a : Option Addr) (es : List Ed) : Prop where
  m : Iv W b n g
  e : Es W a es
  up : Below w.heap.size w W
  hb : w.heap.size ≤ b
  ha : ∀ x, a = some x → x.block < w.heap.size
theorem Lw.next {w W W' : World} {b n : Nat} {g : Nat → Int} {a : Option Addr} {es : List Ed} (h : Lw w W b n g a es) (k : Below W.heap.size W W') : Lw w W' b n g a es := ⟨h.m.up k, h.e.up k, h.up.trans (k.mono h.up.size), h.hb, h.ha⟩
theorem Lw.set {w W : World} {b n : Nat} {g : Nat → Int} {a : Option Addr} {es : List Ed} (h : Lw w W b n g a es) {k : Nat} (hk : k < n) (v : Int) : Lw w (W.setCell ⟨b, k, none⟩ (.int .i64 v)) b n (up1 g k v) a es :=
  ⟨h.m.set hk v, h.e.fr ((So.Fr.refl (So.One b) W).setCell (.inr rfl) _ _) fun x hx e => by have := h.ha x hx; have := h.hb; have e : x.block = b := e; omega, h.up.setCell h.hb _, h.hb, h.ha⟩
theorem lw_start {w : World} {n : Nat} {a : Option Addr} {es : List Ed} (he : Es w a es) : Lw w (w.alloc (.cells (madeCells #[.int .i64 0] n) 3)) w.heap.size n (fun _ => 0) a es :=
  ⟨iv_made w n 3, he.up ((Below.refl _ _).alloc (Nat.le_refl _) _), (Below.refl _ _).alloc (Nat.le_refl _) _, Nat.le_refl _, he.1⟩
/-- How long ways can be so far. -/
def Bd (n : Nat) (g : Nat → Int) (M : Int) : Prop := ∀ i, i < n → 0 ≤ g i ∧ g i ≤ M
theorem Bd.rlx {n : Nat} {g : Nat → Int} {M q : Int} {e : Ed} (h : Bd n g M) (he : EIn n e) (hq : 0 ≤ q) : Bd n (rlx q g e) (M + 8) := fun i hi => by
  have h1 := h i hi
  have f0 := he.f0; have fn := he.fn; have t0 := he.t0; have tn := he.tn; have l8 := he.l8
  have h2 := h e.f.toNat (by omega)
  have h3 := h e.t.toNat (by omega)
  have hw : wt q e ≤ 8 := by
    unfold wt
    rcases he.d with ⟨e1, -⟩ | e1 <;> rw [e1] <;> simp <;> omega
  unfold Bn.rlx
  split
  · unfold up1
    split
    · rename_i c; omega
    · omega
  · omega
theorem Bd.up {n : Nat} {g : Nat → Int} {M K : Int} (h : Bd n g M) (hk : M ≤ K) : Bd n g K := fun i hi => by have := h i hi; omega
theorem bf_step {q : Int} {es : List Ed} {r : Nat} {g : Nat → Int} (h : chg q es g = true) : bf q es (r + 1) g = bf q es r (pas q es g) := by
  show (if chg q es g = true then _ else _) = _
  rw [if_pos h]
theorem bf_stop {q : Int} {es : List Ed} {r : Nat} {g : Nat → Int} (h : chg q es g = false) : bf q es (r + 1) g = true := by
  show (if chg q es g = true then _ else _) = _
  rw [if_neg (by rw [h]; decide)]
end Go.Proofs.YteccifanbgcakaaGreatDoor.Bn

namespace Go.Proofs.YteccifanbgcakaaGreatDoor.Bn
open Go.ChangeShapes Go.WideShapes Go.ChangeAt Go.RowKit
open _root_.Go.Proofs.YteccifanbgcakaaGreatDoor.Op _root_.Go.Proofs.YteccifanbgcakaaGreatDoor.So
open _root_.Go.Proofs.YteccifanbgcakaaGreatDoor.Dp (Ed lisE okL loopE EdOut EOwn erE loop_any lis_all)
open _root_.Go.Proofs.YteccifanbgcakaaGreatDoor.Tb (Tab TabAt Bnds ckR)
set_option maxRecDepth 20000

def tW : Tab := ⟨fun _ => 1, fun k => if k = 1 then 3 else if k = 2 then 2 else 1, fun _ => 1, 1⟩
def xW : List O := [⟨12, 1, 1, 2, 0⟩]
abbrev xWC : Array Value := #[.int .i8 12, .int .u8 1, .int .u8 1, .int .u8 2, .int .i64 0]
theorem xW_rg : rgE tW xW = 0 := by kernel_rfl
theorem xW_le : leE tW xW = 3 := by kernel_rfl
theorem xW_ok : ∀ o ∈ xW, o.Ok := fun o h => by
  simp only [xW, List.mem_cons, List.not_mem_nil, or_false] at h
  subst h
  constructor <;> decide
theorem xW_at {w : World} {b : Nat} (h : At w b xWC) : OpsAt w (some ⟨b, 0, none⟩) xW := by
  refine ⟨xW_ok, by decide, fun _ => ⟨b, 0, rfl, h.lt, fun i hi => ?_⟩⟩
  have hi : i < 1 := hi
  match i, hi with
  | 0, _ => exact ⟨h.c 0 _ rfl, h.c 1 _ rfl, h.c 2 _ rfl, h.c 3 _ rfl, h.c 4 _ rfl⟩
/-- What Rounds' answer is. -/
theorem ring_is {n : Nat} {es : List Ed} (hE : EL n es) (hn : n ≤ 64) : (1 ≤ rndE n es ∧ rndE n es ≤ 512) ∧ bf (rndE n es) es (n + 1) (fun _ => 0) = true ∧ (¬ rndE n es = 1 → bf (rndE n es - 1) es (n + 1) (fun _ => 0) = false) := by
  obtain ⟨h1, h2, h3, h4⟩ := rnd_is (P := fun q => inT (stp q es) n) (srch_of hE hn).top
  have e : rnd (fun q => inT (stp q es) n) = rndE n es := rfl
  rw [e] at h1 h2 h3 h4
  refine ⟨⟨h2, h3⟩, (bf_iff hE _).2 ((inT_iff64 hE hn (by omega) h3).1 h1), fun hr => ?_⟩
  have h5 := h4 (rndE n es - 1) (by omega) (by omega)
  cases e2 : bf (rndE n es - 1) es (n + 1) (fun _ => 0)
  · rfl
  · have h5 : inT (stp (rndE n es - 1) es) n = false := h5
    rw [(inT_iff64 hE hn (by omega) (by omega)).2 ((bf_iff hE _).1 e2)] at h5
    cases h5
end Go.Proofs.YteccifanbgcakaaGreatDoor.Bn

namespace Go.Proofs.YteccifanbgcakaaGreatDoor.Mo
open Go.ChangeShapes Go.WideShapes Go.ChangeAt Go.RowKit
open _root_.Go.Proofs.YteccifanbgcakaaGreatDoor.Op _root_.Go.Proofs.YteccifanbgcakaaGreatDoor.So _root_.Go.Proofs.YteccifanbgcakaaGreatDoor.Dp _root_.Go.Proofs.YteccifanbgcakaaGreatDoor.Bn
open _root_.Go.Proofs.YteccifanbgcakaaGreatDoor.Ls (clN clN_at clN_lt Nl arC arC_all arC_yes arC_no areCycles_any)
open _root_.Go.Proofs.YteccifanbgcakaaGreatDoor.Rv (RAt Few frB tkF tk_few take_any evOk NwOut ring_ok tn addK)
open _root_.Go.Proofs.YteccifanbgcakaaGreatDoor.Tb (Tab TabAt Bnds)
set_option maxRecDepth 20000

open _root_.Go.Proofs.YteccifanbgcakaaGreatDoor.Ls (cyL cyL_is sysL sysL_ok ordC lis_parts hvU)
open _root_.Go.Proofs.YteccifanbgcakaaGreatDoor.ListWay (way placed sch_is okB)
def xB : List O := [⟨15, 1, 2, 0, 0⟩, ⟨2, 3, 3, 1, 0⟩]
abbrev xBC : Array Value := #[.int .i8 15, .int .u8 1, .int .u8 2, .int .u8 0, .int .i64 0, .int .i8 2, .int .u8 3, .int .u8 3, .int .u8 1, .int .i64 0]
theorem xB_ok : ∀ o ∈ xB, o.Ok := fun o h => by
  simp only [xB, List.mem_cons, List.not_mem_nil, or_false] at h
  rcases h with rfl | rfl <;> constructor <;> decide
theorem xB_at {w : World} {b : Nat} (h : At w b xBC) : OpsAt w (some ⟨b, 0, none⟩) xB := by
  refine ⟨xB_ok, by decide, fun _ => ⟨b, 0, rfl, h.lt, fun i hi => ?_⟩⟩
  have hi : i < 2 := hi
  match i, hi with
  | 0, _ => exact ⟨h.c 0 _ rfl, h.c 1 _ rfl, h.c 2 _ rfl, h.c 3 _ rfl, h.c 4 _ rfl⟩
  | 1, _ => exact ⟨h.c 5 _ rfl, h.c 6 _ rfl, h.c 7 _ rfl, h.c 8 _ rfl, h.c 9 _ rfl⟩
theorem xB_rg : rgE tW xB = 0 := by kernel_rfl
theorem xB_le : leE tW xB = 2 := by kernel_rfl
theorem xB_lis : lisE tW xB = 0 := by kernel_rfl
theorem xB_of : ofE tW xB = [⟨0, 1, 2, 0, 0⟩] := by kernel_rfl
theorem xB_hv : hvU tW xB = true := by kernel_rfl
theorem xB_ord : ordC (hts (latN tW xB) [⟨0, 1, 2, 0, 0⟩]) 2 = [0, 1] := by kernel_rfl
theorem xW_lis : lisE tW xW = 0 := by kernel_rfl
theorem xW_of : ofE tW xW = [] := by kernel_rfl
theorem xW_hv : hvU tW xW = true := by kernel_rfl
theorem xW_ord : ordC (hts (latN tW xW) []) 1 = [0] := by kernel_rfl
theorem stp_yes {s : ListWay.Sys} {ord : List Nat} {c : Nat → Int} {y : Int} {i : Nat} (h1 : placed s c < s.n) (h2 : ord.find? (okB s c y) = some i) : ListWay.stp s ord (c, y) = (ListWay.upd c i y, y) := by
  unfold ListWay.stp
  simp only [h1, if_true, h2]
theorem stp_no {s : ListWay.Sys} {ord : List Nat} {c : Nat → Int} {y : Int} (h1 : placed s c < s.n) (h2 : ord.find? (okB s c y) = none) : ListWay.stp s ord (c, y) = (c, y + 1) := by
  unfold ListWay.stp
  simp only [h1, if_true, h2]
abbrev sB : ListWay.Sys := sysL tW xB [⟨0, 1, 2, 0, 0⟩]
abbrev cB0 : Nat → Int := fun _ => -1
abbrev cB1 : Nat → Int := ListWay.upd cB0 0 0
abbrev cB2 : Nat → Int := ListWay.upd cB1 1 2
theorem wB : way sB [0, 1] 4 = (cB2, 2) := by
  have w1 : way sB [0, 1] 1 = (cB1, 0) := stp_yes (by decide) (by kernel_rfl)
  have w2 : way sB [0, 1] 2 = (cB1, 1) := by show ListWay.stp _ _ (way sB [0, 1] 1) = _; rw [w1]; exact stp_no (by decide) (by kernel_rfl)
  have w3 : way sB [0, 1] 3 = (cB1, 2) := by show ListWay.stp _ _ (way sB [0, 1] 2) = _; rw [w2]; exact stp_no (by decide) (by kernel_rfl)
  show ListWay.stp _ _ (way sB [0, 1] 3) = _
  rw [w3]
  exact stp_yes (by decide) (by kernel_rfl)
theorem cB_is : cyL tW xB = cB2 := by
  have ho : ∀ i, i ∈ ([0, 1] : List Nat) ↔ i < sB.n := fun i => by
    show i ∈ ([0, 1] : List Nat) ↔ i < 2
    simp
    omega
  have hE : EOk xB.length [⟨0, 1, 2, 0, 0⟩] := by
    have := (lis_parts xB_ok xB_lis).1
    rw [xB_of] at this
    exact this
  unfold cyL
  rw [xB_of]
  have h3 : xB.length = 2 := rfl
  rw [h3, xB_ord]
  have hp : placed sB (way sB [0, 1] 4).1 = sB.n := by rw [wB]; decide
  have := sch_is (sysL_ok (lis_all xB_lis).1 xB_hv hE) ho hp
  rw [wB] at this
  exact this.symm
abbrev sW : ListWay.Sys := sysL tW xW []
abbrev cW1 : Nat → Int := ListWay.upd cB0 0 0
theorem wW : way sW [0] 1 = (cW1, 0) := stp_yes (by decide) (by kernel_rfl)
theorem cW_is : cyL tW xW = cW1 := by
  have ho : ∀ i, i ∈ ([0] : List Nat) ↔ i < sW.n := fun i => by
    show i ∈ ([0] : List Nat) ↔ i < 1
    simp
  have hE : EOk xW.length [] := by
    have := (lis_parts xW_ok xW_lis).1
    rw [xW_of] at this
    exact this
  unfold cyL
  rw [xW_of]
  have h3 : xW.length = 1 := rfl
  rw [h3, xW_ord]
  have hp : placed sW (way sW [0] 1).1 = sW.n := by rw [wW]; decide
  have := sch_is (sysL_ok (lis_all xW_lis).1 xW_hv hE) ho hp
  rw [wW] at this
  exact this.symm
theorem xB_dr : drn tW xB cB2 2 = 3 := by kernel_rfl
theorem xB_kg : kgB tW xB cB2 2 = true := by kernel_rfl
theorem xW_dr : drn tW xW cW1 1 = 3 := by kernel_rfl
theorem ck_two : mcB tW xB 2 cB2 2 2 = true := by kernel_rfl
theorem ck_bad : mcB tW xB 2 cB2 2 1 = false := by kernel_rfl
theorem st_two : stg 2 cB2 2 = 2 := by kernel_rfl
theorem st_one : stg 1 cW1 3 = 1 := by kernel_rfl
/-- What Find answers of the first body. -/
theorem findB (b : Nat) (w : World) (h : At w b xBC) (hG : Bnds w) : Calls Tryz.prog 14 #[.slice (some ⟨b, 0, none⟩) 2 2, .agg #[.int .i64 1, .int .i64 1, .int .i64 1, .int .i64 1, .int .i64 1, .int .i64 3, .int .i64 2, .int .i64 1, .int .i64 1, .int .i64 1, .int .i64 1, .int .i64 1, .int .i64 1]] w fun e w' => ∃ ra rc, e = .returned (.tuple #[.agg #[.int .i64 2, .slice ra 2 rc, .int .i64 2], .int .i64 0]) ∧ Nl w' ra 2 cB2 ∧ Below w.heap.size w w' := by
  have hf := find_ok (some ⟨b, 0, none⟩) 2 xB tW (fun _ => none) w (xB_at h) (by decide) hG xB_rg (fun W bb ea ec a cc b1 b2 E q1 q2 q3 q4 q5 q6 => by
    rw [cB_is] at q5 q6
    have q5 : E < 3 := by rw [show xB.length = 2 from rfl, xB_dr] at q5; exact q5
    rw [xB_le] at q4
    obtain rfl : E = 2 := by omega
    rw [xB_kg] at q6
    cases q6) (fun E c _ _ h => by cases h)
  have e : fpP (kgB tW xB (cyL tW xB)) (fun _ => none) (cyL tW xB) (drn tW xB (cyL tW xB) xB.length) (drn tW xB (cyL tW xB) xB.length - leE tW xB).toNat (leE tW xB) = (2, cB2) := by
    rw [cB_is, xB_le, show xB.length = 2 from rfl, xB_dr]
    exact fp_yes (by decide) xB_kg
  rw [e] at hf
  refine hf.mono ?_
  rintro e w' ⟨ra, rc, h1, h2, h3⟩
  have st2 : stg xB.length cB2 2 = 2 := st_two
  simp only [st2] at h1
  exact ⟨ra, rc, h1, h2, h3⟩
theorem findW (b : Nat) (w : World) (h : At w b xWC) (hG : Bnds w) : Calls Tryz.prog 14 #[.slice (some ⟨b, 0, none⟩) 1 1, .agg #[.int .i64 1, .int .i64 1, .int .i64 1, .int .i64 1, .int .i64 1, .int .i64 3, .int .i64 2, .int .i64 1, .int .i64 1, .int .i64 1, .int .i64 1, .int .i64 1, .int .i64 1]] w fun e w' => ∃ ra rc, e = .returned (.tuple #[.agg #[.int .i64 3, .slice ra 1 rc, .int .i64 1], .int .i64 0]) ∧ Nl w' ra 1 cW1 ∧ Below w.heap.size w w' := by
  have hf := find_ok (some ⟨b, 0, none⟩) 1 xW tW (fun _ => none) w (xW_at h) (by decide) hG xW_rg (fun W bb ea ec a cc b1 b2 E q1 q2 q3 q4 q5 q6 => by
    rw [cW_is] at q5
    have q5 : E < 3 := by rw [show xW.length = 1 from rfl, xW_dr] at q5; exact q5
    rw [xW_le] at q4
    omega) (fun E c _ _ h => by cases h)
  have e : fpP (kgB tW xW (cyL tW xW)) (fun _ => none) (cyL tW xW) (drn tW xW (cyL tW xW) xW.length) (drn tW xW (cyL tW xW) xW.length - leE tW xW).toNat (leE tW xW) = (3, cW1) := by
    rw [cW_is, xW_le, show xW.length = 1 from rfl, xW_dr]
    rfl
  rw [e] at hf
  refine hf.mono ?_
  rintro e w' ⟨ra, rc, h1, h2, h3⟩
  have st2 : stg xW.length cW1 3 = 1 := st_one
  simp only [st2] at h1
  exact ⟨ra, rc, h1, h2, h3⟩
set_option maxHeartbeats 1000000 in
theorem one_any (w : World) : Calls Tryz.prog 21 #[] w fun e w' => e = .returned (.agg #[.int .i64 1, .int .i64 1, .int .i64 1, .int .i64 1, .int .i64 1, .int .i64 3, .int .i64 2, .int .i64 1, .int .i64 1, .int .i64 1, .int .i64 1, .int .i64 1, .int .i64 1]) ∧ Below w.heap.size w w' := by
  go_enter Tryz.func21, Tryz.ntmps21
  go_wp2_with fail
  refine bodyPost_ret (v := .agg #[.int .i64 1, .int .i64 1, .int .i64 1, .int .i64 1, .int .i64 1, .int .i64 3, .int .i64 2, .int .i64 1, .int .i64 1, .int .i64 1, .int .i64 1, .int .i64 1, .int .i64 1]) (by simp [results, Tryz.results21, go_sem]) rfl ⟨rfl, ?_⟩
  go_grown
/-- A row of two numbers. -/
theorem nl2 {W : World} {b : Nat} (h : At W b #[.int .i64 0, .int .i64 2]) : Nl W (some ⟨b, 0, none⟩) 2 cB2 := by
  refine ⟨fun _ => ⟨b, 0, rfl, h.lt, fun k hk => ?_⟩, fun k hk => ?_⟩
  · match k, hk with
    | 0, _ => exact h.c 0 _ rfl
    | 1, _ => exact h.c 1 _ rfl
  · match k, hk with
    | 0, _ => decide
    | 1, _ => decide
/-- Where wakes has come to. -/
structure Wk (w W : World) (tb lb : Nat) : Prop where
  t : At W tb #[.int .i64 1, .int .i64 1, .int .i64 1, .int .i64 1, .int .i64 1, .int .i64 3, .int .i64 2, .int .i64 1, .int .i64 1, .int .i64 1, .int .i64 1, .int .i64 1, .int .i64 1]
  l : At W lb xBC
  up : Below w.heap.size w W
theorem Wk.next {w W W' : World} {tb lb : Nat} (h : Wk w W tb lb) (g : Below W.heap.size W W') : Wk w W' tb lb := ⟨h.t.below g h.t.lt, h.l.below g h.l.lt, h.up.trans (g.mono h.up.size)⟩
end Go.Proofs.YteccifanbgcakaaGreatDoor.Mo
