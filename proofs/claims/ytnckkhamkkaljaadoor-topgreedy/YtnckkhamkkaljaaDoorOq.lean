/- The statement TopGreedy, whole: an operation is put into the first cycle in which its operands are ready and a unit is free, whatever the list and the table; the listed variables are tied to the program text. Conditions: none. -/
import Derived.Test.YtnckkhamkkaljaaDoorWk
import Derived.Laws.Rows
import Derived.Test.YtnckkhamkkaljaaDoorWm
import Derived.Test.YtnckkhamkkaljaaDoorTk
import Derived.Test.YtnckkhamkkaljaaDoorPm
import Derived.Test.YtnckkhamkkaljaaDoorTie
import Derived.Test.YtnckkhamkkaljaaDoorCards
import Derived.ProofKit
import Derived.HandedShaped
import Derived.Shelf.Vars
import Derived.Lib.LaidU8
import Derived.Lay
import Derived.LaidHandle
import Derived.LaidLaws
import Derived.Stop.Joined
import Derived.RowKitTokens
import Derived.SevenTiedAt
import Derived.Carry
import Derived.ChangeMaps5
import Derived.Deep.Slices
import Derived.Lib.SmallJoins
import Derived.SizedLaws
import Derived.ChangeOld
import Derived.OpenShut
namespace Go.Proofs.YtnckkhamkkaljaaDoor.Ls
open Go.ChangeShapes Go.WideShapes Go.ChangeAt Go.RowKit
open _root_.Go.Proofs.YtnckkhamkkaljaaDoor.Op _root_.Go.Proofs.YtnckkhamkkaljaaDoor.So _root_.Go.Proofs.YtnckkhamkkaljaaDoor.Dp _root_.Go.Proofs.YtnckkhamkkaljaaDoor.ListWay
open _root_.Go.Proofs.YtnckkhamkkaljaaDoor.Tb (Tab TabAt Bnds)
set_option maxRecDepth 20000

def tG : Tab := ⟨fun k => if k = 0 then 2 else 1, fun _ => 1, fun _ => 1, 0⟩
def xG : List O := [⟨1, 1, 0, 0, 0⟩, ⟨1, 2, 0, 0, 0⟩, ⟨2, 3, 1, 2, 0⟩]
theorem tG_lis : lisE tG xG = 0 := by kernel_rfl
theorem tG_hv : hvU tG xG = true := by kernel_rfl
theorem tG_ord : ordC (hts (latN tG xG) (ofE tG xG)) 3 = [0, 1, 2] := by kernel_rfl
abbrev sG : ListWay.Sys := sysL tG xG (ofE tG xG)
abbrev cG1 : Nat → Int := ListWay.upd (fun _ => -1) 0 0
abbrev cG2 : Nat → Int := ListWay.upd cG1 1 0
abbrev cG3 : Nat → Int := ListWay.upd cG2 2 1
theorem wG : way sG [0, 1, 2] 4 = (cG3, 1) := by
  have w1 : way sG [0, 1, 2] 1 = (cG1, 0) := stp_yes (of_decide_eq_true (by kernel_rfl)) (by kernel_rfl)
  have w2 : way sG [0, 1, 2] 2 = (cG2, 0) := by show stp _ _ (way sG [0, 1, 2] 1) = _; rw [w1]; exact stp_yes (of_decide_eq_true (by kernel_rfl)) (by kernel_rfl)
  have w3 : way sG [0, 1, 2] 3 = (cG2, 1) := by show stp _ _ (way sG [0, 1, 2] 2) = _; rw [w2]; exact stp_no (of_decide_eq_true (by kernel_rfl)) (by kernel_rfl)
  show stp _ _ (way sG [0, 1, 2] 3) = _
  rw [w3]
  exact stp_yes (of_decide_eq_true (by kernel_rfl)) (by kernel_rfl)
theorem xG_ok : ∀ o ∈ xG, o.Ok := fun o h => by
  simp only [xG, List.mem_cons, List.not_mem_nil, or_false] at h
  rcases h with rfl | rfl | rfl <;> constructor <;> decide
theorem cG_is : cyL tG xG = cG3 := by
  have ho : ∀ i, i ∈ ([0, 1, 2] : List Nat) ↔ i < sG.n := fun i => by
    show i ∈ ([0, 1, 2] : List Nat) ↔ i < 3
    simp
    omega
  have hE : EOk xG.length (ofE tG xG) := (lis_parts xG_ok tG_lis).1
  unfold cyL
  have h3 : xG.length = 3 := rfl
  rw [h3, tG_ord]
  have hp : placed sG (way sG [0, 1, 2] 4).1 = sG.n := by rw [wG]; kernel_rfl
  have := sch_is (sysL_ok (lis_all tG_lis).1 tG_hv hE) ho hp
  rw [wG] at this
  exact this.symm
abbrev xGC : Array Value := #[.int .i8 1, .int .u8 1, .int .u8 0, .int .u8 0, .int .i64 0, .int .i8 1, .int .u8 2, .int .u8 0, .int .u8 0, .int .i64 0, .int .i8 2, .int .u8 3, .int .u8 1, .int .u8 2, .int .i64 0]
theorem xG_at {w : World} {b : Nat} (h : At w b xGC) : OpsAt w (some ⟨b, 0, none⟩) xG := by
  refine ⟨xG_ok, by decide, fun _ => ⟨b, 0, rfl, h.lt, fun i hi => ?_⟩⟩
  have hi : i < 3 := hi
  match i, hi with
  | 0, _ => exact ⟨h.c 0 _ rfl, h.c 1 _ rfl, h.c 2 _ rfl, h.c 3 _ rfl, h.c 4 _ rfl⟩
  | 1, _ => exact ⟨h.c 5 _ rfl, h.c 6 _ rfl, h.c 7 _ rfl, h.c 8 _ rfl, h.c 9 _ rfl⟩
  | 2, _ => exact ⟨h.c 10 _ rfl, h.c 11 _ rfl, h.c 12 _ rfl, h.c 13 _ rfl, h.c 14 _ rfl⟩
theorem plain_any (w : World) : Calls Tryd.prog 34 #[] w fun e w' => e = .returned (.agg #[.int .i64 1, .int .i64 1, .int .i64 1, .int .i64 1, .int .i64 1, .int .i64 1, .int .i64 1, .int .i64 1, .int .i64 1, .int .i64 1, .int .i64 1, .int .i64 1, .int .i64 0]) ∧ Below w.heap.size w w' := by
  go_enter Tryd.func34, Tryd.ntmps34
  go_wp2_with fail
  refine bodyPost_ret (v := .agg #[.int .i64 1, .int .i64 1, .int .i64 1, .int .i64 1, .int .i64 1, .int .i64 1, .int .i64 1, .int .i64 1, .int .i64 1, .int .i64 1, .int .i64 1, .int .i64 1, .int .i64 0]) (results_cell_row (P := Tryd.prog) Tryd.results34 _ _ w.heap.size 25 #[.int .i64 1, .int .i64 1, .int .i64 1, .int .i64 1, .int .i64 1, .int .i64 1, .int .i64 1, .int .i64 1, .int .i64 1, .int .i64 1, .int .i64 1, .int .i64 1, .int .i64 0] (0, 0) _ rfl (heap_alloc_last w _) Tryd.underlying25 rfl (by kernel_rfl)) rfl ⟨rfl, by go_grown⟩
set_option maxHeartbeats 8000000 in
theorem listed_any (w : World) (hG : Bnds w) : Calls Tryd.prog 15 #[] w fun e w' => e = .returned (.bool true) ∧ Below w.heap.size w w' := by
  have HGi : Hid (Bnds w) := hG
  have HPl : Hid (∀ W, Calls Tryd.prog 34 #[] W fun e w' => e = .returned (.agg #[.int .i64 1, .int .i64 1, .int .i64 1, .int .i64 1, .int .i64 1, .int .i64 1, .int .i64 1, .int .i64 1, .int .i64 1, .int .i64 1, .int .i64 1, .int .i64 1, .int .i64 0]) ∧ Below W.heap.size W w') := fun W => plain_any W
  have HCy : Hid (∀ W b, Below w.heap.size w W → At W b xGC → Calls Tryd.prog 11 #[.slice (some ⟨b, 0, none⟩) 3 3, .agg #[.int .i64 2, .int .i64 1, .int .i64 1, .int .i64 1, .int .i64 1, .int .i64 1, .int .i64 1, .int .i64 1, .int .i64 1, .int .i64 1, .int .i64 1, .int .i64 1, .int .i64 0]] W fun e w' => ∃ hb, e = .returned (.tuple #[.slice (some ⟨hb, 0, none⟩) 3 3, .int .i64 0]) ∧ R3 w' hb 0 0 1 ∧ Below W.heap.size W w') := fun W b hb h => by
    refine (cycles_ok (some ⟨b, 0, none⟩) 3 xG tG W (xG_at h) (by decide) (HGi.out.below hb HGi.out.big) tG_lis tG_hv).mono ?_
    rintro e w' ⟨hb, rfl, hi, -, hu⟩
    rw [cG_is] at hi
    exact ⟨hb, rfl, ⟨hi.lt, hi.c 0 (by decide), hi.c 1 (by decide), hi.c 2 (by decide)⟩, hu⟩
  clear hG HGi
  go_enter Tryd.func15, Tryd.ntmps15
  go_upto_region 2 with (first
    | (go_at_call 34; refine Calls.mono (HPl.out _) ?_; rintro e w0 ⟨rfl, b0⟩; have HB : Hid (Below w.heap.size w w0) := b0; clear b0 HPl))
  go_upto_region 3 with fail
  have HB0 : Hid (At ((w0.alloc (.cells #[.int .i64 2, .int .i64 1, .int .i64 1, .int .i64 1, .int .i64 1, .int .i64 1, .int .i64 1, .int .i64 1, .int .i64 1, .int .i64 1, .int .i64 1, .int .i64 1, .int .i64 0] 25)).alloc (.cells xGC 40)) (w0.heap.size + 1) xGC ∧ Below w.heap.size w ((w0.alloc (.cells #[.int .i64 2, .int .i64 1, .int .i64 1, .int .i64 1, .int .i64 1, .int .i64 1, .int .i64 1, .int .i64 1, .int .i64 1, .int .i64 1, .int .i64 1, .int .i64 1, .int .i64 0] 25)).alloc (.cells xGC 40))) := by
    have a2 := At.new (w0.alloc (.cells #[.int .i64 2, .int .i64 1, .int .i64 1, .int .i64 1, .int .i64 1, .int .i64 1, .int .i64 1, .int .i64 1, .int .i64 1, .int .i64 1, .int .i64 1, .int .i64 1, .int .i64 0] 25)) xGC 40
    rw [show (w0.alloc (.cells #[.int .i64 2, .int .i64 1, .int .i64 1, .int .i64 1, .int .i64 1, .int .i64 1, .int .i64 1, .int .i64 1, .int .i64 1, .int .i64 1, .int .i64 1, .int .i64 1, .int .i64 0] 25)).heap.size = w0.heap.size + 1 by simp] at a2
    exact ⟨a2, HB.out.trans (by have := HB.out.size; exact (((Below.refl w0.heap.size w0).alloc (Nat.le_refl _) _).alloc (by simp) _).mono this)⟩
  go_upto_region 4 with (first
    | (go_at_call 11; refine Calls.mono (HCy.out _ _ HB0.out.2 HB0.out.1) ?_; rintro e w1 ⟨hb, rfl, hr, b1⟩; have HB1 : Hid (Below w.heap.size w w1) := HB0.out.2.trans (b1.mono HB0.out.2.size); obtain ⟨r0, r1, r2, r3⟩ := hr; clear b1 HB0 HCy HB))
  go_wp2_with fail
  go_ret
  exact ⟨rfl, HB1.out⟩
end Go.Proofs.YtnckkhamkkaljaaDoor.Ls

namespace Go.Proofs.YtnckkhamkkaljaaDoor.Ls
open Go.ChangeShapes Go.WideShapes Go.ChangeAt Go.RowKit
open _root_.Go.Proofs.YtnckkhamkkaljaaDoor.Op _root_.Go.Proofs.YtnckkhamkkaljaaDoor.So _root_.Go.Proofs.YtnckkhamkkaljaaDoor.Dp _root_.Go.Proofs.YtnckkhamkkaljaaDoor.ListWay
open _root_.Go.Proofs.YtnckkhamkkaljaaDoor.Rv (RAt Few frB tkF tk_few take_any free_any evOk NwOut new_ok used_any)
open _root_.Go.Proofs.YtnckkhamkkaljaaDoor.Tb (Tab TabAt Bnds)
set_option maxRecDepth 20000

/-- The first cycle that the edges leave. -/
def fsE (c : Nat → Int) (i : Nat) : List Ed → Int → Int
  | [], m => m
  | e :: es, m => fsE c i es (if e.t = (i : Int) then max m (c e.f.toNat + e.l) else m)
theorem fsE_app (c : Nat → Int) (i : Nat) : ∀ (es fs : List Ed) (m : Int), fsE c i (es ++ fs) m = fsE c i fs (fsE c i es m)
  | [], _, _ => rfl
  | _ :: es, fs, _ => fsE_app c i es fs _
theorem fsE_take (c : Nat → Int) (i : Nat) (es : List Ed) (k : Nat) (hk : k < es.length) (m : Int) : fsE c i (es.take (k + 1)) m = if es[k].t = (i : Int) then max (fsE c i (es.take k) m) (c es[k].f.toNat + es[k].l) else fsE c i (es.take k) m := by
  rw [List.take_succ_eq_append_getElem hk, fsE_app]
  rfl
theorem fsE_ge (c : Nat → Int) (i : Nat) : ∀ (es : List Ed) (m : Int), m ≤ fsE c i es m ∧ ∀ e ∈ es, e.t = (i : Int) → c e.f.toNat + e.l ≤ fsE c i es m
  | [], m => ⟨Int.le_refl _, fun _ h => by cases h⟩
  | a :: es, m => by
    obtain ⟨h1, h2⟩ := fsE_ge c i es (if a.t = (i : Int) then max m (c a.f.toNat + a.l) else m)
    refine ⟨Int.le_trans (by split <;> omega) h1, fun e he h => ?_⟩
    rcases List.mem_cons.1 he with rfl | he
    · exact Int.le_trans (by rw [if_pos h]; omega) h1
    · exact h2 e he h
theorem fsE_le (c : Nat → Int) (i : Nat) (B : Int) : ∀ (es : List Ed) (m : Int), m ≤ B → (∀ e ∈ es, e.t = (i : Int) → c e.f.toNat + e.l ≤ B) → fsE c i es m ≤ B
  | [], _, h, _ => h
  | a :: es, m, h, hall => by
    refine fsE_le c i B es _ ?_ fun e he => hall e (List.mem_cons_of_mem _ he)
    split
    · rename_i hh
      have := hall a (List.mem_cons_self ..) hh
      omega
    · exact h

set_option maxHeartbeats 16000000 in
theorem topg_ok (ao : Option Addr) (cap : Nat) (xs : List O) (t : Tab) (w : World) (h : OpsAt w ao xs) (hcap : xs.length ≤ cap) (hG : Bnds w) (hn : xs.length ≤ 60) (he : lisE t xs = 0) (hu : hvU t xs = true) :
    Calls Tryd.prog 6 #[.slice ao xs.length cap, t.val] w fun e w' => e = .returned (.bool true) ∧ Below w.heap.size w w' := by
  obtain ⟨c1, c2, c3, c4w⟩ := cyL_is h.ok he hu
  obtain ⟨ht, -, hok⟩ := lis_all he
  obtain ⟨hEO, hEl, -⟩ := lis_parts h.ok he
  have hck : Tb.ckR t = 0 := by unfold Tb.ckR; rw [if_pos ht]
  have HCy : Hid (∀ W, Below w.heap.size w W → Calls Tryd.prog 11 #[.slice ao xs.length cap, .agg #[.int .i64 (t.u 0), .int .i64 (t.u 1), .int .i64 (t.u 2), .int .i64 (t.u 3), .int .i64 (t.l 0), .int .i64 (t.l 1), .int .i64 (t.l 2), .int .i64 (t.l 3), .int .i64 (t.b 0), .int .i64 (t.b 1), .int .i64 (t.b 2), .int .i64 (t.b 3), .int .i64 t.d]] W fun e w' => ∃ hb, e = .returned (.tuple #[.slice (some ⟨hb, 0, none⟩) xs.length xs.length, .int .i64 0]) ∧ Ir w' hb xs.length (cyL t xs) ∧ W.heap.size ≤ hb ∧ Below W.heap.size W w') := fun W hb => cycles_ok ao cap xs t W (h.below hb) hcap (hG.below hb hG.big) he hu
  obtain ⟨M, hM⟩ : ∃ M, (ofE t xs).length = M := ⟨_, rfl⟩
  have hMb : (M : Int) ≤ 100000000 := by omega
  have HM : Hid ((ofE t xs).length = M) := hM
  have HOf : Hid (∀ W, Below w.heap.size w W → Calls Tryd.prog 12 #[.slice ao xs.length cap, .agg #[.int .i64 (t.u 0), .int .i64 (t.u 1), .int .i64 (t.u 2), .int .i64 (t.u 3), .int .i64 (t.l 0), .int .i64 (t.l 1), .int .i64 (t.l 2), .int .i64 (t.l 3), .int .i64 (t.b 0), .int .i64 (t.b 1), .int .i64 (t.b 2), .int .i64 (t.b 3), .int .i64 t.d]] W fun e w' => ∃ a c, e = .returned (.tuple #[.slice a M c, .int .i64 0]) ∧ EOwn W.heap.size w' a c (ofE t xs) ∧ Below W.heap.size W w') := fun W hb => by
    have := of_any ao cap xs t W (h.below hb) hcap (hG.below hb hG.big)
    unfold erE at this
    rw [if_pos he, he] at this
    rw [← hM]
    exact this
  have HNw : Hid (∀ W, Below w.heap.size w W → Calls Tryd.prog 16 #[.agg #[.int .i64 (t.u 0), .int .i64 (t.u 1), .int .i64 (t.u 2), .int .i64 (t.u 3), .int .i64 (t.l 0), .int .i64 (t.l 1), .int .i64 (t.l 2), .int .i64 (t.l 3), .int .i64 (t.b 0), .int .i64 (t.b 1), .int .i64 (t.b 2), .int .i64 (t.b 3), .int .i64 t.d]] W fun e w' => ∃ rb mb, e = .returned (.tuple #[.pointer (some ⟨rb, 0, none⟩), .int .i64 0]) ∧ RAt w' rb t none mb 0 (fun _ _ => 0) ∧ (W.heap.size ≤ rb ∧ W.heap.size ≤ mb) ∧ Below W.heap.size W w') := fun W hb => new_ok t W (hG.below hb hG.big) hck
  have HLs : Hid (∀ W, Below w.heap.size w W → Calls Tryd.prog 15 #[] W fun e w' => e = .returned (.bool true) ∧ Below W.heap.size W w') := fun W hb => listed_any W (hG.below hb hG.big)
  have HCls : Hid (∀ (i : Nat) (hi : i < xs.length) W, Calls Tryd.prog 13 #[.int .i8 xs[i].op] W fun e w' => e = .returned (.tuple #[.int .i64 (clN xs i : Int), .bool true]) ∧ Below W.heap.size W w') := fun i hi W => by
    have hol := hok _ (List.getElem_mem hi)
    have ho := h.ok _ (List.getElem_mem hi)
    obtain ⟨hv1, hv2⟩ := clV_D hol
    have h1 := class_any xs[i].op W ho.op0 ho.op1
    rw [hv1, hv2] at h1
    rw [clN_at hi]
    exact h1
  have HC1 : Hid (∀ i, i < xs.length → 0 ≤ cyL t xs i ∧ cyL t xs i ≤ 480) := fun i hi => by have := c1 i hi; omega
  have HTk : Hid (∀ (V Z : World) (rb mb m k : Nat), k < xs.length → Ku V Z t rb mb m (cntF (sysL t xs []) (cut (cyL t xs) k)) → Few (cntF (sysL t xs []) (cut (cyL t xs) k)) → m ≤ 4 * k → Few (cntF (sysL t xs []) (cut (cyL t xs) (k + 1))) ∧ Calls Tryd.prog 17 #[.pointer (some ⟨rb, 0, none⟩), .int .i64 (clN xs k : Int), .int .i64 (cyL t xs k)] Z fun e w' => e = .returned (.bool true) ∧ ∃ n', RAt w' rb t none mb n' (cntF (sysL t xs []) (cut (cyL t xs) (k + 1))) ∧ n' ≤ m + 4 ∧ Fr (One mb) Z w') := fun V Z rb mb m k hk hK hF hm => by
    have hb := c1 k hk
    have hfr : frB t none (cntF (sysL t xs []) (cut (cyL t xs) k)) (clN xs k : Int) (cyL t xs k) = true := by
      refine (free_sys ht _ k (by omega) (by omega)).2 ?_
      exact units_taken (s := sysL t xs []) (c := cyL t xs) (fun i hi => (c1 i hi).1) (fun i hi z => c3 i hi z) hk
    have h1 := take_sys hk (cut_neg (cyL t xs) k) hb.1 hfr
    rw [← cut_next] at h1
    refine ⟨by rw [← h1]; exact tk_few hF ht _ _, ?_⟩
    have h2 := take_any (clN xs k : Int) (cyL t xs k) Z hK.ra trivial hF ht (by omega)
    rw [hfr, h1] at h2
    exact h2
  have HUs : Hid (∀ (V Z : World) (rb mb m cl : Nat) (y : Int), Ku V Z t rb mb m (cntF (sysL t xs []) (cut (cyL t xs) xs.length)) → cl < 4 → 0 ≤ y → y ≤ 480 → Calls Tryd.prog 18 #[.pointer (some ⟨rb, 0, none⟩), .int .i64 (cl : Int), .int .i64 y] Z fun e w' => e = .returned (.int .i64 (busy (sysL t xs (ofE t xs)) (cyL t xs) cl y : Int)) ∧ Below Z.heap.size Z w') := fun V Z rb mb m cl y hK h4 y0 y1 => by
    have h2 := used_any (cl : Int) y Z hK.ra trivial (by unfold Rv.I64; omega) (by unfold Rv.I64; omega)
    have e : cntF (sysL t xs []) (cut (cyL t xs) xs.length) (cl : Int) (Rv.tn none y) = (busy (sysL t xs (ofE t xs)) (cyL t xs) cl y : Int) := by
      unfold cntF
      rw [if_pos (by omega), Int.toNat_natCast]
      exact congrArg Nat.cast (busy_cut (sysL t xs []) (cyL t xs) cl y)
    rw [e] at h2
    exact h2
  have HFs : Hid (∀ i, i < xs.length → (∀ k, 0 ≤ fsE (cyL t xs) i ((ofE t xs).take k) 0 ∧ fsE (cyL t xs) i ((ofE t xs).take k) 0 ≤ cyL t xs i) ∧ ∀ y, fsE (cyL t xs) i (ofE t xs) 0 ≤ y → y < cyL t xs i → t.u (clN xs i) ≤ (busy (sysL t xs (ofE t xs)) (cyL t xs) (clN xs i) y : Int)) := fun i hi => by
    have hle : ∀ e ∈ ofE t xs, e.t = (i : Int) → cyL t xs e.f.toNat + e.l ≤ cyL t xs i := fun e hee hti => by
      have := c2 (eg e) (List.mem_map.2 ⟨e, hee, rfl⟩)
      have h2 : cyL t xs e.f.toNat + e.l ≤ cyL t xs e.t.toNat := this
      rw [hti, Int.toNat_natCast] at h2
      exact h2
    refine ⟨fun k => ⟨(fsE_ge _ _ _ _).1, fsE_le _ _ _ _ _ (c1 i hi).1 fun e hee => hle e (List.mem_of_mem_take hee)⟩, fun y hy hyc => ?_⟩
    have h0 := (fsE_ge (cyL t xs) i (ofE t xs) 0)
    rcases c4w i hi y (by omega) hyc with ⟨x, hx, hxt, hxc⟩ | hb
    · obtain ⟨e, hee, rfl⟩ := List.mem_map.1 hx
      have hxt : e.t.toNat = i := hxt
      have hxc : cyL t xs e.f.toNat < 0 ∨ y < cyL t xs e.f.toNat + e.l := hxc
      have g0 := hEO.f0 e hee
      have g1 := hEO.ft e hee
      have g2 := hEO.tn e hee
      have g3 := (c1 e.f.toNat (by omega)).1
      have g4 := h0.2 e hee (by omega)
      omega
    · have hb : (t.u (clN xs i)).toNat ≤ busy (sysL t xs (ofE t xs)) (cyL t xs) (clN xs i) y := hb
      omega
  have HO : Hid (OpsAt w ao xs) := h
  have HEO : Hid (EOk xs.length (ofE t xs)) := hEO
  have hl : ¬ (60 : Int) < (xs.length : Int) := by omega
  have hn' : (xs.length : Int) ≤ 60 := by omega
  have hnn : ((xs.length : Int) != (xs.length : Int)) = false := by simp
  clear h hcap hG hn he hu c1 c2 c3 c4w ht hok hEO hEl hM hck
  generalize hce : cyL t xs = c at *
  generalize hee : ofE t xs = es at *
  generalize hse : sysL t xs es = s at *
  clear hce hee hse
  obtain ⟨n, hN⟩ : ∃ n, xs.length = n := ⟨_, rfl⟩
  have HN : Hid (xs.length = n) := hN
  rw [hN] at HCy HOf HTk HUs HFs hl hn' hnn HC1 HEO ⊢
  have HN2 : Hid (∀ i, i < n → i < xs.length) := fun i hi => by rw [HN.out]; exact hi
  clear hN
  unfold Tab.val
  go_enter Tryd.func6, Tryd.ntmps6
  go_upto_region 8 with (first
    | (go_at_call 11; refine Calls.mono (HCy.out _ (by go_grown)) ?_; rintro e w1 ⟨hb, rfl, i1, -, b1⟩; have HT : Hid ((TabAt w1 w.heap.size t ∧ Below w.heap.size w w1) ∧ Ir w1 hb n c) := ⟨tabNx ⟨Tb.tabAt_new w t 25, by go_grown⟩ b1, i1⟩; clear b1 i1 HCy; have k2 := HT.out.1.1; have qu0 := k2.cu 0 (by decide); have qu1 := k2.cu 1 (by decide); have qu2 := k2.cu 2 (by decide); have qu3 := k2.cu 3 (by decide); have ql0 := k2.cl 0 (by decide); have ql1 := k2.cl 1 (by decide); have ql2 := k2.cl 2 (by decide); have ql3 := k2.cl 3 (by decide); have qb0 := k2.cb 0 (by decide); have qb1 := k2.cb 1 (by decide); have qb2 := k2.cb 2 (by decide); have qb3 := k2.cb 3 (by decide); have qd := k2.cd; have qz := k2.lt; clear k2)
    | (go_at_call 12; refine Calls.mono (HOf.out _ HT.out.1.2) ?_; rintro e w2 ⟨ea, ec, rfl, o2, b2⟩; have HL2 : Hid (Lo w w2 t hb n c ea ec es) := ⟨(tabNx HT.out.1 b2).1, (tabNx HT.out.1 b2).2, HT.out.2.up b2, rowBase2 o2 HT.out.1.2.size⟩; clear b2 o2 HOf HT qu0 qu1 qu2 qu3 ql0 ql1 ql2 ql3 qb0 qb1 qb2 qb3 qd qz; have k2 := HL2.out.t; have qu0 := k2.cu 0 (by decide); have qu1 := k2.cu 1 (by decide); have qu2 := k2.cu 2 (by decide); have qu3 := k2.cu 3 (by decide); have ql0 := k2.cl 0 (by decide); have ql1 := k2.cl 1 (by decide); have ql2 := k2.cl 2 (by decide); have ql3 := k2.cl 3 (by decide); have qb0 := k2.cb 0 (by decide); have qb1 := k2.cb 1 (by decide); have qb2 := k2.cb 2 (by decide); have qb3 := k2.cb 3 (by decide); have qd := k2.cd; have qz := k2.lt; clear k2)
    | (go_at_call 16; refine Calls.mono (HNw.out _ HL2.out.up) ?_; rintro e w3 ⟨rb, mb, rfl, r1, l1, b1⟩; have HK0 : Hid (Ku w2 w3 t rb mb 0 (fun _ _ => 0)) := ⟨r1, b1, l1.2⟩; clear r1 l1 b1 HNw qu0 qu1 qu2 qu3 ql0 ql1 ql2 ql3 qb0 qb1 qb2 qb3 qd qz))
  go_wp2_with fail
  go_loopw [68] (fun v wr => ∃ k m : Nat, k ≤ n ∧ v = .int .i64 k ∧ Ku w2 wr t rb mb m (cntF (sysL t xs []) (cut c k)) ∧ Few (cntF (sysL t xs []) (cut c k)) ∧ m ≤ 4 * k) (fun v _ => n - (intOf v).toNat)
  case atStart => exact ⟨0, 0, by omega, rfl, by rw [cut_0, cntF_start]; exact HK0.out, by rw [cut_0, cntF_start]; exact fun _ _ => ⟨Int.le_refl _, by show (0 : Int) ≤ 8; decide⟩, by omega⟩
  case round =>
    rename World => wr
    obtain ⟨k, m, hk, rfl, hku, hfw, hm⟩ := hrel
    have HQ : Hid (Ku w2 wr t rb mb m (cntF (sysL t xs []) (cut c k)) ∧ Few (cntF (sysL t xs []) (cut c k)) ∧ m ≤ 4 * k) := ⟨hku, hfw, hm⟩
    clear hku hfw hm HK0
    by_cases hlt : k < n
    · have k0 : (0 : Int) ≤ (k : Int) := by omega
      have k1 : (k : Int) < (n : Int) := by omega
      have hkx := HN2.out k hlt
      obtain ⟨b, g0, rfl, hz2, hx⟩ := (HO.out.below (HL2.out.next HQ.out.1.up).up).is (by omega)
      obtain ⟨q0, q1, q2, q3, q4⟩ := hx k hkx
      have HX0 : Hid (Ku w2 (wr.alloc (.cells #[.int .i8 xs[k].op, .int .u8 xs[k].d, .int .u8 xs[k].a, .int .u8 xs[k].b, .int .i64 xs[k].im] 40)) t rb mb m (cntF (sysL t xs []) (cut c k)) ∧ At (wr.alloc (.cells #[.int .i8 xs[k].op, .int .u8 xs[k].d, .int .u8 xs[k].a, .int .u8 xs[k].b, .int .i64 xs[k].im] 40)) wr.heap.size #[.int .i8 xs[k].op, .int .u8 xs[k].d, .int .u8 xs[k].a, .int .u8 xs[k].b, .int .i64 xs[k].im]) := ⟨HQ.out.1.next ((Below.refl _ _).alloc (Nat.le_refl _) _), At.new _ _ _⟩
      have HCi : Hid (∀ W, Calls Tryd.prog 13 #[.int .i8 xs[k].op] W fun e w' => e = .returned (.tuple #[.int .i64 (clN xs k : Int), .bool true]) ∧ Below W.heap.size W w') := fun W => HCls.out k hkx W
      have HTk1 : Hid (∀ Z, Ku w2 Z t rb mb m (cntF (sysL t xs []) (cut c k)) → Calls Tryd.prog 17 #[.pointer (some ⟨rb, 0, none⟩), .int .i64 (clN xs k : Int), .int .i64 (c k)] Z fun e w' => e = .returned (.bool true) ∧ ∃ n', RAt w' rb t none mb n' (cntF (sysL t xs []) (cut c (k + 1))) ∧ n' ≤ m + 4 ∧ Fr (One mb) Z w') := fun Z hZ => (HTk.out w2 Z rb mb m k hlt hZ HQ.out.2.1 HQ.out.2.2).2
      have HFw : Hid (Few (cntF (sysL t xs []) (cut c (k + 1)))) := (HTk.out w2 wr rb mb m k hlt HQ.out.1 HQ.out.2.1 HQ.out.2.2).1
      have HMm : Hid (m ≤ 4 * k) := HQ.out.2.2
      have HCe : Hid (∀ Z, Ku w2 Z t rb mb m (cntF (sysL t xs []) (cut c k)) → Z.cell? ⟨hb, k, none⟩ = some (.int .i64 (c k)) ∧ hb < Z.heap.size) := fun Z hZ => ⟨(HL2.out.next hZ.up).ir.c k hlt, (HL2.out.next hZ.up).ir.lt⟩
      obtain ⟨o, hoe⟩ : ∃ o, xs[k]'hkx = o := ⟨_, rfl⟩
      rw [hoe] at HX0 HCi q0 q1 q2 q3 q4
      clear hx hoe
      generalize clN xs k = cl at *
      generalize c k = ck at *
      generalize cntF (sysL t xs []) (cut c k) = f at *
      go_upto_region 13 with fail
      generalize (wr.alloc (.cells #[.int .i8 o.op, .int .u8 o.d, .int .u8 o.a, .int .u8 o.b, .int .i64 o.im] 40)) = X at *
      have HX : Hid (Ku w2 X t rb mb m f ∧ At X wr.heap.size #[.int .i8 o.op, .int .u8 o.d, .int .u8 o.a, .int .u8 o.b, .int .i64 o.im]) := HX0.out
      generalize wr.heap.size = ob at *
      clear HQ HX0 q0 q1 q2 q3 q4 hz2
      have a0 := HX.out.2.c 0 _ rfl
      have al := HX.out.2.lt
      go_upto_region 14 with (first
        | (go_at_call 13; refine Calls.mono (HCi.out _) ?_; rintro e wy ⟨rfl, b3⟩; have HX3 : Hid (Ku w2 wy t rb mb m f) := HX.out.1.next b3; clear b3 HCi HX a0 al))
      obtain ⟨cc, chl⟩ := HCe.out _ HX3.out
      go_wp2_with (first
        | (go_at_call 17; refine Calls.mono (HTk1.out _ HX3.out) ?_; rintro e w4 ⟨rfl, m4, r4, l4, f4⟩; have HX4 : Hid (Ku w2 w4 t rb mb m4 (cntF (sysL t xs []) (cut c (k + 1))) ∧ m4 ≤ m + 4) := ⟨HX3.out.take f4 r4, l4⟩; clear r4 l4 f4 HTk1 HX3 cc chl))
      go_roundw
      case rel => exact ⟨k + 1, m4, by omega, by go_num, HX4.out.1, HFw.out, by have := HX4.out.2; have := HMm.out; omega⟩
      case measure => simp [intOf]; omega
    · obtain rfl : k = n := by omega
      have k1 : ¬ (k : Int) < (k : Int) := by omega
      have HK : Hid (Ku w2 wr t rb mb m (cntF (sysL t xs []) (cut c k))) := HQ.out.1
      clear HQ HTk
      obtain ⟨n, hkn⟩ : ∃ n, k = n := ⟨_, rfl⟩
      subst hkn
      generalize cntF (sysL t xs []) (cut c k) = F at *
      go_wp2_with fail
      go_loopw [94] (fun v wr => ∃ i : Nat, i ≤ k ∧ v = .int .i64 i ∧ Ku w2 wr t rb mb m F) (fun v _ => k - (intOf v).toNat)
      case atStart => exact ⟨0, by omega, rfl, HK.out⟩
      case round =>
        rename World => wv
        obtain ⟨i, hi, rfl, hs⟩ := hrel
        have HV : Hid (Ku w2 wv t rb mb m F) := hs
        clear hs HK
        by_cases hin : i < k
        · have i0 : (0 : Int) ≤ (i : Int) := by omega
          have i1 : (i : Int) < (k : Int) := by omega
          have hix := HN2.out i hin
          obtain ⟨b, g0, rfl, hz2, hx⟩ := (HO.out.below (HL2.out.next HV.out.up).up).is (by omega)
          obtain ⟨q0, q1, q2, q3, q4⟩ := hx i hix
          have HX0 : Hid (Ku w2 (wv.alloc (.cells #[.int .i8 xs[i].op, .int .u8 xs[i].d, .int .u8 xs[i].a, .int .u8 xs[i].b, .int .i64 xs[i].im] 40)) t rb mb m F ∧ At (wv.alloc (.cells #[.int .i8 xs[i].op, .int .u8 xs[i].d, .int .u8 xs[i].a, .int .u8 xs[i].b, .int .i64 xs[i].im] 40)) wv.heap.size #[.int .i8 xs[i].op, .int .u8 xs[i].d, .int .u8 xs[i].a, .int .u8 xs[i].b, .int .i64 xs[i].im]) := ⟨HV.out.next ((Below.refl _ _).alloc (Nat.le_refl _) _), At.new _ _ _⟩
          have HCi : Hid (∀ W, Calls Tryd.prog 13 #[.int .i8 xs[i].op] W fun e w' => e = .returned (.tuple #[.int .i64 (clN xs i : Int), .bool true]) ∧ Below W.heap.size W w') := fun W => HCls.out i hix W
          obtain ⟨hf1, hf2⟩ := HFs.out i hin
          have HF1 : Hid (∀ k, 0 ≤ fsE c i (es.take k) 0 ∧ fsE c i (es.take k) 0 ≤ c i) := hf1
          have HF2 : Hid (∀ y, fsE c i es 0 ≤ y → y < c i → t.u (clN xs i) ≤ (busy s c (clN xs i) y : Int)) := hf2
          clear hf1 hf2
          have HCe : Hid (∀ Z, Ku w2 Z t rb mb m F → Z.cell? ⟨hb, i, none⟩ = some (.int .i64 (c i)) ∧ hb < Z.heap.size) := fun Z hZ => ⟨(HL2.out.next hZ.up).ir.c i hin, (HL2.out.next hZ.up).ir.lt⟩
          obtain ⟨r1, r2⟩ := HC1.out i hin
          have c4 := clN_lt xs i
          have HUi : Hid (∀ Z (y : Int), Ku w2 Z t rb mb m F → 0 ≤ y → y ≤ 480 → Calls Tryd.prog 18 #[.pointer (some ⟨rb, 0, none⟩), .int .i64 (clN xs i : Int), .int .i64 y] Z fun e w' => e = .returned (.int .i64 (busy s c (clN xs i) y : Int)) ∧ Below Z.heap.size Z w') := fun Z y hZ h1 h2 => HUs.out w2 Z rb mb m (clN xs i) y hZ c4 h1 h2
          obtain ⟨o, hoe⟩ : ∃ o, xs[i]'hix = o := ⟨_, rfl⟩
          rw [hoe] at HX0 HCi q0 q1 q2 q3 q4
          clear hx hoe
          generalize clN xs i = cl at *
          go_upto_region 20 with fail
          generalize (wv.alloc (.cells #[.int .i8 o.op, .int .u8 o.d, .int .u8 o.a, .int .u8 o.b, .int .i64 o.im] 40)) = X at *
          have HX : Hid (Ku w2 X t rb mb m F ∧ At X wv.heap.size #[.int .i8 o.op, .int .u8 o.d, .int .u8 o.a, .int .u8 o.b, .int .i64 o.im]) := HX0.out
          generalize wv.heap.size = ob at *
          clear HV HX0 q0 q1 q2 q3 q4 hz2
          go_wp2_with fail
          go_loopw [17, 101] (fun v1 v wr => ∃ j : Nat, j ≤ M ∧ v1 = .int .i64 (fsE c i (es.take j) 0) ∧ v = .int .i64 j ∧ Ku w2 wr t rb mb m F ∧ At wr ob #[.int .i8 o.op, .int .u8 o.d, .int .u8 o.a, .int .u8 o.b, .int .i64 o.im]) (fun _ v _ => M - (intOf v).toNat)
          case atStart => exact ⟨0, by omega, rfl, rfl, HX.out⟩
          case round =>
            rename World => wx
            obtain ⟨j, hj, rfl, rfl, hs1, hs2⟩ := hrel
            have HY : Hid (Ku w2 wx t rb mb m F ∧ At wx ob #[.int .i8 o.op, .int .u8 o.d, .int .u8 o.a, .int .u8 o.b, .int .i64 o.im]) := ⟨hs1, hs2⟩
            clear hs1 hs2 HX
            by_cases hjm : j < M
            · have j0 : (0 : Int) ≤ (j : Int) := by omega
              have j1 : (j : Int) < (M : Int) := by omega
              have hke : j < es.length := by rw [HM.out]; exact hjm
              obtain ⟨eb, rfl, l1, lb1, f0, f1, f2, f3, f4⟩ := eOwn_at (HL2.out.next HY.out.1.up).eo hke
              have hm := List.getElem_mem hke
              have g1 := HEO.out.f0 _ hm
              have g2 := HEO.out.ft _ hm
              have g3 := HEO.out.tn _ hm
              obtain ⟨g4, g5⟩ := HEO.out.l0 _ hm
              have HNx : Hid (fsE c i (es.take (j + 1)) 0 = if es[j].t = (i : Int) then max (fsE c i (es.take j) 0) (c es[j].f.toNat + es[j].l) else fsE c i (es.take j) 0) := fsE_take _ _ _ _ hke _
              have HX2 : Hid (Ku w2 (wx.alloc (.cells #[.int .i64 es[j].f, .int .i64 es[j].t, .int .i64 es[j].l, .int .i64 es[j].d, .int .i8 es[j].y] 42)) t rb mb m F ∧ At (wx.alloc (.cells #[.int .i64 es[j].f, .int .i64 es[j].t, .int .i64 es[j].l, .int .i64 es[j].d, .int .i8 es[j].y] 42)) ob #[.int .i8 o.op, .int .u8 o.d, .int .u8 o.a, .int .u8 o.b, .int .i64 o.im] ∧ At (wx.alloc (.cells #[.int .i64 es[j].f, .int .i64 es[j].t, .int .i64 es[j].l, .int .i64 es[j].d, .int .i8 es[j].y] 42)) wx.heap.size #[.int .i64 es[j].f, .int .i64 es[j].t, .int .i64 es[j].l, .int .i64 es[j].d, .int .i8 es[j].y]) := ⟨HY.out.1.next ((Below.refl _ _).alloc (Nat.le_refl _) _), HY.out.2.below ((Below.refl _ _).alloc (Nat.le_refl _) _) HY.out.2.lt, At.new _ _ _⟩
              clear hm
              generalize es[j] = x at *
              obtain ⟨xf, xt, xl, xd, xy⟩ := x
              obtain ⟨fi, rfl⟩ : ∃ fi : Nat, xf = fi := ⟨xf.toNat, by have g1 : 0 ≤ xf := g1; omega⟩
              obtain ⟨ti, rfl⟩ : ∃ ti : Nat, xt = ti := ⟨xt.toNat, by have g1 : 0 ≤ (fi : Int) := g1; have g2 : (fi : Int) < xt := g2; omega⟩
              have g2 : (fi : Int) < (ti : Int) := g2
              have g3 : (ti : Int) < (k : Int) := g3
              have g4 : 0 ≤ xl := g4
              have g5 : xl ≤ 8 := g5
              have g6 : (0 : Int) ≤ (fi : Int) := by omega
              have g7 : (fi : Int) < (k : Int) := by omega
              have HNx : Hid (fsE c i (es.take (j + 1)) 0 = if (ti : Int) = (i : Int) then max (fsE c i (es.take j) 0) (c fi + xl) else fsE c i (es.take j) 0) := HNx.out
              obtain ⟨h1, h2⟩ := HC1.out fi (by omega)
              obtain ⟨h3, h4⟩ := HF1.out j
              clear g1
              generalize fsE c i (es.take j) 0 = fs at *
              have HCf : Hid (∀ Z, Ku w2 Z t rb mb m F → Z.cell? ⟨hb, fi, none⟩ = some (.int .i64 (c fi)) ∧ hb < Z.heap.size) := fun Z hZ => ⟨(HL2.out.next hZ.up).ir.c fi (by omega), (HL2.out.next hZ.up).ir.lt⟩
              generalize c fi = vf at *
              go_upto_region 24 with fail
              generalize (wx.alloc (.cells #[.int .i64 fi, .int .i64 ti, .int .i64 xl, .int .i64 xd, .int .i8 xy] 42)) = X2 at *
              have HX3 : Hid (Ku w2 X2 t rb mb m F ∧ At X2 ob #[.int .i8 o.op, .int .u8 o.d, .int .u8 o.a, .int .u8 o.b, .int .i64 o.im] ∧ At X2 wx.heap.size #[.int .i64 fi, .int .i64 ti, .int .i64 xl, .int .i64 xd, .int .i8 xy]) := HX2.out
              generalize wx.heap.size = xb at *
              clear HY HX2 f0 f1 f2 f3 f4 l1 lb1
              have s2 := HX3.out.2.2
              have o0 := s2.c 0 _ rfl
              have o1 := s2.c 1 _ rfl
              have o2 := s2.c 2 _ rfl
              have ol := s2.lt
              clear s2
              by_cases hti : ti = i
              · subst hti
                obtain ⟨cc, chl⟩ := HCf.out _ HX3.out.1
                go_upto_region 25 with fail
                go_region
                all_goals
                  go_wp2_with fail
                  go_roundw
                  case rel => exact ⟨j + 1, by omega, by rw [HNx.out, if_pos rfl], by go_num, HX3.out.1.next ((Below.refl _ _).drew), HX3.out.2.1.below ((Below.refl _ _).drew) HX3.out.2.1.lt⟩
                  case measure => first | (simp [intOf]; done) | (simp [intOf]; omega)
              · have hti2 : ¬ (ti : Int) = (i : Int) := by omega
                have HVx : Hid (fsE c i (es.take (j + 1)) 0 = fs) := by show fsE c i (es.take (j + 1)) 0 = fs; rw [HNx.out, if_neg hti2]
                have hti3 : ((ti : Int) == (i : Int)) = false := by simpa using hti2
                go_wp2_with fail
                go_roundw
                case rel => exact ⟨j + 1, by omega, by rw [HVx.out], by go_num, HX3.out.1, HX3.out.2.1⟩
                case measure => simp [intOf]; omega
            · obtain rfl : j = M := by omega
              have j1 : ¬ (j : Int) < (j : Int) := by omega
              have htk : es.take j = es := by rw [← HM.out, List.take_length]
              obtain ⟨h3, h4⟩ := HF1.out j
              rw [htk] at h3 h4 ⊢
              clear htk HF1
              generalize fsE c i es 0 = fs at *
              have HB0 : Hid (∀ y, fs ≤ y → y < c i → t.u cl ≤ (busy s c cl y : Int)) := HF2.out
              clear HF2
              generalize hci : c i = ci at *
              obtain ⟨cc, chl⟩ := HCe.out _ HY.out.1
              have n0 : ¬ ci < fs := by omega
              have a0 := HY.out.2.c 0 _ rfl
              have al := HY.out.2.lt
              go_upto_region 30 with (first
                | (go_at_call 13; refine Calls.mono (HCi.out _) ?_; rintro e wy ⟨rfl, b3⟩; have HZ2 : Hid (Ku w2 wy t rb mb m F) := HY.out.1.next b3; clear b3 HCi HY a0 al cc chl))
              go_wp2_with fail
              go_loopw [22] (fun v wr => ∃ y : Int, fs ≤ y ∧ y ≤ ci ∧ v = .int .i64 y ∧ Ku w2 wr t rb mb m F) (fun v _ => (ci - intOf v).toNat)
              case atStart => exact ⟨fs, by omega, by omega, rfl, HZ2.out⟩
              case round =>
                rename World => wz
                obtain ⟨y, hy1, hy2, rfl, hs⟩ := hrel
                have HW : Hid (Ku w2 wz t rb mb m F) := hs
                clear hs HZ2
                obtain ⟨cc, chl⟩ := HCe.out _ HW.out
                by_cases hyc : y < ci
                · have hbz := HB0.out y hy1 hyc
                  have HUy : Hid (∀ Z, Ku w2 Z t rb mb m F → Calls Tryd.prog 18 #[.pointer (some ⟨rb, 0, none⟩), .int .i64 (cl : Int), .int .i64 y] Z fun e w' => e = .returned (.int .i64 (busy s c cl y : Int)) ∧ Below Z.heap.size Z w') := fun Z hZ => HUi.out Z y hZ (by omega) (by omega)
                  generalize busy s c cl y = bz at *
                  have hd : ¬ (bz : Int) < t.u cl := by omega
                  have c0 : (0 : Int) ≤ (cl : Int) := by omega
                  have c3 : (cl : Int) < 4 := by omega
                  go_upto_region 33 with fail
                  clear cc chl
                  refine wp_region_held_drew (S := fun Z => TabAt Z w.heap.size t) (by kernel_rfl) ((HL2.out.next HW.out.up).t.below (drew_up _) (HL2.out.next HW.out.up).t.lt) (fun hHeld => ?_)
                  refine wpAnyH_take (i := 0) (v := .pointer (some ⟨rb, 0, none⟩)) rfl (by kernel_rfl) (by kernel_rfl) (by kernel_rfl) (fun _ _ _ h => h) (Or.inl ⟨by rfl, fun w' hSw => by (go_simp)⟩) hHeld ?_
                  simp only [Act.put, List.setIfInBounds_toArray, List.set_cons_zero, List.set_cons_succ, List.getElem_cons_zero, List.getElem_toArray]
                  refine wpAnyH_take (i := 1) (v := .int .i64 (cl : Int)) rfl (by kernel_rfl) (by kernel_rfl) (by kernel_rfl) (fun _ _ _ h => h) (Or.inl ⟨by rfl, fun w' hSw => by (go_simp)⟩) hHeld ?_
                  simp only [Act.put, List.setIfInBounds_toArray, List.set_cons_zero, List.set_cons_succ, List.getElem_cons_zero, List.getElem_cons_succ, List.getElem_toArray]
                  refine wpAnyH_take (i := 2) (v := .int .i64 y) rfl (by kernel_rfl) (by kernel_rfl) (by kernel_rfl) (fun _ _ _ h => h) (Or.inl ⟨by rfl, fun w' hSw => by (go_simp)⟩) hHeld ?_
                  simp only [Act.put, List.setIfInBounds_toArray, List.set_cons_zero, List.set_cons_succ, List.getElem_cons_zero, List.getElem_cons_succ, List.getElem_toArray]
                  refine wpAnyH_take (i := 4) (v := .int .i64 (cl : Int)) rfl (by kernel_rfl) (by kernel_rfl) (by kernel_rfl) (fun _ _ _ h => h) (Or.inl ⟨by rfl, fun w' hSw => by (go_simp)⟩) hHeld ?_
                  simp only [Act.put, List.setIfInBounds_toArray, List.set_cons_zero, List.set_cons_succ, List.getElem_cons_zero, List.getElem_cons_succ, List.getElem_toArray]
                  refine wpAnyH_take (i := 5) (v := .pointer (some ⟨w.heap.size, 0, none⟩)) rfl (by kernel_rfl) (by kernel_rfl) (by kernel_rfl) (fun _ _ _ h => h) (Or.inl ⟨by rfl, fun w' hSw => by (go_simp)⟩) hHeld ?_
                  simp only [Act.put, List.setIfInBounds_toArray, List.set_cons_zero, List.set_cons_succ, List.getElem_cons_zero, List.getElem_cons_succ, List.getElem_toArray]
                  refine wpAnyH_take (i := 6) (v := .pointer (some ⟨w.heap.size, cl, none⟩)) rfl (by kernel_rfl) (by kernel_rfl) (by kernel_rfl) (fun _ _ _ h => h) (Or.inl ⟨by rfl, fun w' hSw => by (go_simp)⟩) hHeld ?_
                  simp only [Act.put, List.setIfInBounds_toArray, List.set_cons_zero, List.set_cons_succ, List.getElem_cons_zero, List.getElem_cons_succ, List.getElem_toArray]
                  refine wpAnyH_take (i := 7) (v := .int .i64 (t.u cl)) rfl (by kernel_rfl) (by kernel_rfl) (by kernel_rfl) (fun _ _ _ h => h) (Or.inl ⟨by rfl, fun w' hSw => by (have hcu := hSw.cu cl c4; have htl := hSw.lt; go_simp)⟩) hHeld ?_
                  simp only [Act.put, List.setIfInBounds_toArray, List.set_cons_zero, List.set_cons_succ, List.getElem_cons_zero, List.getElem_cons_succ, List.getElem_toArray]
                  refine wpAnyH_ready (rs := [3]) (by kernel_rfl) (by simp) ?_
                  refine AllReadyH.cons rfl (fun K hK => ?_) AllReadyH.nil
                  go_simp
                  refine Calls.mono (HUy.out _ (HW.out.next (drew_up _))) ?_
                  rintro e w3 ⟨rfl, b3⟩
                  have HW3 : Hid (Ku w2 w3 t rb mb m F) := (HW.out.next (drew_up _)).next b3
                  refine hK.out _ _ (HL2.out.next HW3.out.up).t (fun hHeld => ?_)
                  clear hK K b3 HUy
                  refine wpAnyH_take (i := 8) (v := .bool false) rfl (by kernel_rfl) (by kernel_rfl) (by kernel_rfl) (fun _ _ _ h => h) (Or.inl ⟨by rfl, fun w' hSw => by (go_simp)⟩) hHeld ?_
                  simp only [Act.put, List.setIfInBounds_toArray, List.set_cons_zero, List.set_cons_succ, List.getElem_cons_zero, List.getElem_cons_succ, List.getElem_toArray]
                  refine wpAnyH_done (by kernel_rfl) ?_ _
                  clear hHeld
                  go_wp2_with fail
                  go_roundw
                  case rel => exact ⟨y + 1, by omega, by omega, by go_num, HW3.out⟩
                  case measure => simp [intOf]; omega
                · go_wp2_with fail
                  go_roundw
                  case rel => exact ⟨i + 1, by omega, by go_num, HW.out⟩
                  case measure => simp [intOf]; omega
        · obtain rfl : i = k := by omega
          have i1 : ¬ (i : Int) < (i : Int) := by omega
          go_wp2_with (first
            | (go_at_call 15; refine Calls.mono (HLs.out _ (HL2.out.next HV.out.up).up) ?_; rintro e w9 ⟨rfl, b9⟩; have HB9 : Hid (Below w.heap.size w w9) := (HL2.out.next HV.out.up).up.trans (b9.mono (HL2.out.next HV.out.up).up.size); clear b9 HLs))
          go_ret
          exact ⟨rfl, HB9.out⟩
end Go.Proofs.YtnckkhamkkaljaaDoor.Ls

namespace Go.Proofs.YtnckkhamkkaljaaDoor.Ls
open Go.ChangeShapes Go.WideShapes Go.ChangeAt Go.RowKit
open _root_.Go.Proofs.YtnckkhamkkaljaaDoor.Op _root_.Go.Proofs.YtnckkhamkkaljaaDoor.So _root_.Go.Proofs.YtnckkhamkkaljaaDoor.Dp _root_.Go.Proofs.YtnckkhamkkaljaaDoor.ListWay
open _root_.Go.Proofs.YtnckkhamkkaljaaDoor.Rv (RAt Few frB tkF tk_few take_any free_any evOk NwOut new_ok used_any)
open _root_.Go.Proofs.YtnckkhamkkaljaaDoor.Tb (Tab TabAt Bnds)
set_option maxRecDepth 20000

set_option maxHeartbeats 16000000 in
theorem topg_long (ao : Option Addr) (L cap : Nat) (hL : 60 < L) (hLc : L ≤ cap) (hLm : L ≤ 8796093022208) (xs : List O) (t : Tab) (w : World) (h : OpsAt w ao xs) (hcap : xs.length ≤ cap) (hG : Bnds w) (hn : xs.length = 60) (he : lisE t xs = 0) (hu : hvU t xs = true) :
    Calls Tryd.prog 6 #[.slice ao L cap, t.val] w fun e w' => e = .returned (.bool true) ∧ Below w.heap.size w w' := by
  obtain ⟨c1, c2, c3, c4w⟩ := cyL_is h.ok he hu
  obtain ⟨ht, -, hok⟩ := lis_all he
  obtain ⟨hEO, hEl, -⟩ := lis_parts h.ok he
  have hck : Tb.ckR t = 0 := by unfold Tb.ckR; rw [if_pos ht]
  have HCy : Hid (∀ W, Below w.heap.size w W → Calls Tryd.prog 11 #[.slice ao xs.length cap, .agg #[.int .i64 (t.u 0), .int .i64 (t.u 1), .int .i64 (t.u 2), .int .i64 (t.u 3), .int .i64 (t.l 0), .int .i64 (t.l 1), .int .i64 (t.l 2), .int .i64 (t.l 3), .int .i64 (t.b 0), .int .i64 (t.b 1), .int .i64 (t.b 2), .int .i64 (t.b 3), .int .i64 t.d]] W fun e w' => ∃ hb, e = .returned (.tuple #[.slice (some ⟨hb, 0, none⟩) xs.length xs.length, .int .i64 0]) ∧ Ir w' hb xs.length (cyL t xs) ∧ W.heap.size ≤ hb ∧ Below W.heap.size W w') := fun W hb => cycles_ok ao cap xs t W (h.below hb) hcap (hG.below hb hG.big) he hu
  obtain ⟨M, hM⟩ : ∃ M, (ofE t xs).length = M := ⟨_, rfl⟩
  have hMb : (M : Int) ≤ 100000000 := by omega
  have HM : Hid ((ofE t xs).length = M) := hM
  have HOf : Hid (∀ W, Below w.heap.size w W → Calls Tryd.prog 12 #[.slice ao xs.length cap, .agg #[.int .i64 (t.u 0), .int .i64 (t.u 1), .int .i64 (t.u 2), .int .i64 (t.u 3), .int .i64 (t.l 0), .int .i64 (t.l 1), .int .i64 (t.l 2), .int .i64 (t.l 3), .int .i64 (t.b 0), .int .i64 (t.b 1), .int .i64 (t.b 2), .int .i64 (t.b 3), .int .i64 t.d]] W fun e w' => ∃ a c, e = .returned (.tuple #[.slice a M c, .int .i64 0]) ∧ EOwn W.heap.size w' a c (ofE t xs) ∧ Below W.heap.size W w') := fun W hb => by
    have := of_any ao cap xs t W (h.below hb) hcap (hG.below hb hG.big)
    unfold erE at this
    rw [if_pos he, he] at this
    rw [← hM]
    exact this
  have HNw : Hid (∀ W, Below w.heap.size w W → Calls Tryd.prog 16 #[.agg #[.int .i64 (t.u 0), .int .i64 (t.u 1), .int .i64 (t.u 2), .int .i64 (t.u 3), .int .i64 (t.l 0), .int .i64 (t.l 1), .int .i64 (t.l 2), .int .i64 (t.l 3), .int .i64 (t.b 0), .int .i64 (t.b 1), .int .i64 (t.b 2), .int .i64 (t.b 3), .int .i64 t.d]] W fun e w' => ∃ rb mb, e = .returned (.tuple #[.pointer (some ⟨rb, 0, none⟩), .int .i64 0]) ∧ RAt w' rb t none mb 0 (fun _ _ => 0) ∧ (W.heap.size ≤ rb ∧ W.heap.size ≤ mb) ∧ Below W.heap.size W w') := fun W hb => new_ok t W (hG.below hb hG.big) hck
  have HLs : Hid (∀ W, Below w.heap.size w W → Calls Tryd.prog 15 #[] W fun e w' => e = .returned (.bool true) ∧ Below W.heap.size W w') := fun W hb => listed_any W (hG.below hb hG.big)
  have HCls : Hid (∀ (i : Nat) (hi : i < xs.length) W, Calls Tryd.prog 13 #[.int .i8 xs[i].op] W fun e w' => e = .returned (.tuple #[.int .i64 (clN xs i : Int), .bool true]) ∧ Below W.heap.size W w') := fun i hi W => by
    have hol := hok _ (List.getElem_mem hi)
    have ho := h.ok _ (List.getElem_mem hi)
    obtain ⟨hv1, hv2⟩ := clV_D hol
    have h1 := class_any xs[i].op W ho.op0 ho.op1
    rw [hv1, hv2] at h1
    rw [clN_at hi]
    exact h1
  have HC1 : Hid (∀ i, i < xs.length → 0 ≤ cyL t xs i ∧ cyL t xs i ≤ 480) := fun i hi => by have := c1 i hi; omega
  have HTk : Hid (∀ (V Z : World) (rb mb m k : Nat), k < xs.length → Ku V Z t rb mb m (cntF (sysL t xs []) (cut (cyL t xs) k)) → Few (cntF (sysL t xs []) (cut (cyL t xs) k)) → m ≤ 4 * k → Few (cntF (sysL t xs []) (cut (cyL t xs) (k + 1))) ∧ Calls Tryd.prog 17 #[.pointer (some ⟨rb, 0, none⟩), .int .i64 (clN xs k : Int), .int .i64 (cyL t xs k)] Z fun e w' => e = .returned (.bool true) ∧ ∃ n', RAt w' rb t none mb n' (cntF (sysL t xs []) (cut (cyL t xs) (k + 1))) ∧ n' ≤ m + 4 ∧ Fr (One mb) Z w') := fun V Z rb mb m k hk hK hF hm => by
    have hb := c1 k hk
    have hfr : frB t none (cntF (sysL t xs []) (cut (cyL t xs) k)) (clN xs k : Int) (cyL t xs k) = true := by
      refine (free_sys ht _ k (by omega) (by omega)).2 ?_
      exact units_taken (s := sysL t xs []) (c := cyL t xs) (fun i hi => (c1 i hi).1) (fun i hi z => c3 i hi z) hk
    have h1 := take_sys hk (cut_neg (cyL t xs) k) hb.1 hfr
    rw [← cut_next] at h1
    refine ⟨by rw [← h1]; exact tk_few hF ht _ _, ?_⟩
    have h2 := take_any (clN xs k : Int) (cyL t xs k) Z hK.ra trivial hF ht (by omega)
    rw [hfr, h1] at h2
    exact h2
  have HUs : Hid (∀ (V Z : World) (rb mb m cl : Nat) (y : Int), Ku V Z t rb mb m (cntF (sysL t xs []) (cut (cyL t xs) xs.length)) → cl < 4 → 0 ≤ y → y ≤ 480 → Calls Tryd.prog 18 #[.pointer (some ⟨rb, 0, none⟩), .int .i64 (cl : Int), .int .i64 y] Z fun e w' => e = .returned (.int .i64 (busy (sysL t xs (ofE t xs)) (cyL t xs) cl y : Int)) ∧ Below Z.heap.size Z w') := fun V Z rb mb m cl y hK h4 y0 y1 => by
    have h2 := used_any (cl : Int) y Z hK.ra trivial (by unfold Rv.I64; omega) (by unfold Rv.I64; omega)
    have e : cntF (sysL t xs []) (cut (cyL t xs) xs.length) (cl : Int) (Rv.tn none y) = (busy (sysL t xs (ofE t xs)) (cyL t xs) cl y : Int) := by
      unfold cntF
      rw [if_pos (by omega), Int.toNat_natCast]
      exact congrArg Nat.cast (busy_cut (sysL t xs []) (cyL t xs) cl y)
    rw [e] at h2
    exact h2
  have HFs : Hid (∀ i, i < xs.length → (∀ k, 0 ≤ fsE (cyL t xs) i ((ofE t xs).take k) 0 ∧ fsE (cyL t xs) i ((ofE t xs).take k) 0 ≤ cyL t xs i) ∧ ∀ y, fsE (cyL t xs) i (ofE t xs) 0 ≤ y → y < cyL t xs i → t.u (clN xs i) ≤ (busy (sysL t xs (ofE t xs)) (cyL t xs) (clN xs i) y : Int)) := fun i hi => by
    have hle : ∀ e ∈ ofE t xs, e.t = (i : Int) → cyL t xs e.f.toNat + e.l ≤ cyL t xs i := fun e hee hti => by
      have := c2 (eg e) (List.mem_map.2 ⟨e, hee, rfl⟩)
      have h2 : cyL t xs e.f.toNat + e.l ≤ cyL t xs e.t.toNat := this
      rw [hti, Int.toNat_natCast] at h2
      exact h2
    refine ⟨fun k => ⟨(fsE_ge _ _ _ _).1, fsE_le _ _ _ _ _ (c1 i hi).1 fun e hee => hle e (List.mem_of_mem_take hee)⟩, fun y hy hyc => ?_⟩
    have h0 := (fsE_ge (cyL t xs) i (ofE t xs) 0)
    rcases c4w i hi y (by omega) hyc with ⟨x, hx, hxt, hxc⟩ | hb
    · obtain ⟨e, hee, rfl⟩ := List.mem_map.1 hx
      have hxt : e.t.toNat = i := hxt
      have hxc : cyL t xs e.f.toNat < 0 ∨ y < cyL t xs e.f.toNat + e.l := hxc
      have g0 := hEO.f0 e hee
      have g1 := hEO.ft e hee
      have g2 := hEO.tn e hee
      have g3 := (c1 e.f.toNat (by omega)).1
      have g4 := h0.2 e hee (by omega)
      omega
    · have hb : (t.u (clN xs i)).toNat ≤ busy (sysL t xs (ofE t xs)) (cyL t xs) (clN xs i) y := hb
      omega
  have HO : Hid (OpsAt w ao xs) := h
  have HEO : Hid (EOk xs.length (ofE t xs)) := hEO
  have hl : (60 : Int) < (L : Int) := by omega
  have hlc : (L : Int) ≤ (cap : Int) := by omega
  have hlm : (L : Int) ≤ 8796093022208 := by omega
  have hcap6 : (60 : Int) ≤ (cap : Int) := by omega
  have HLf : Hid (∃ b f, ao = some ⟨b, f, none⟩) := by
    obtain ⟨b, f, e, -⟩ := h.is (by omega)
    exact ⟨b, f, e⟩
  have hn' : (xs.length : Int) ≤ 60 := by omega
  have hnn : ((xs.length : Int) != (xs.length : Int)) = false := by simp
  have HNn : Hid (xs.length = 60) := hn
  clear h hcap hG hn hL hLc hLm he hu c1 c2 c3 c4w ht hok hEO hEl hM hck
  generalize hce : cyL t xs = c at *
  generalize hee : ofE t xs = es at *
  generalize hse : sysL t xs es = s at *
  clear hce hee hse
  obtain ⟨n, hN⟩ : ∃ n, xs.length = n := ⟨_, rfl⟩
  have HN : Hid (xs.length = n) := hN
  rw [hN] at HCy HOf HTk HUs HFs hn' hnn HC1 HEO HNn
  have hn60 : n = 60 := HNn.out
  have HN2 : Hid (∀ i, i < n → i < xs.length) := fun i hi => by rw [HN.out]; exact hi
  clear hN
  unfold Tab.val
  obtain ⟨b0, f0, hab⟩ := HLf.out
  clear HLf HNn
  subst hab
  go_enter Tryd.func6, Tryd.ntmps6
  go_upto_region 3 with fail
  clear hl hlc hlm hcap6
  rw [show (Value.slice (some ⟨b0, f0, none⟩) 60 cap) = Value.slice (some ⟨b0, f0, none⟩) n cap by rw [hn60]]
  clear hn60
  generalize (some (⟨b0, f0, none⟩ : Addr)) = ao at *
  go_upto_region 8 with (first
    | (go_at_call 11; refine Calls.mono (HCy.out _ (by go_grown)) ?_; rintro e w1 ⟨hb, rfl, i1, -, b1⟩; have HT : Hid ((TabAt w1 w.heap.size t ∧ Below w.heap.size w w1) ∧ Ir w1 hb n c) := ⟨tabNx ⟨Tb.tabAt_new w t 25, by go_grown⟩ b1, i1⟩; clear b1 i1 HCy; have k2 := HT.out.1.1; have qu0 := k2.cu 0 (by decide); have qu1 := k2.cu 1 (by decide); have qu2 := k2.cu 2 (by decide); have qu3 := k2.cu 3 (by decide); have ql0 := k2.cl 0 (by decide); have ql1 := k2.cl 1 (by decide); have ql2 := k2.cl 2 (by decide); have ql3 := k2.cl 3 (by decide); have qb0 := k2.cb 0 (by decide); have qb1 := k2.cb 1 (by decide); have qb2 := k2.cb 2 (by decide); have qb3 := k2.cb 3 (by decide); have qd := k2.cd; have qz := k2.lt; clear k2)
    | (go_at_call 12; refine Calls.mono (HOf.out _ HT.out.1.2) ?_; rintro e w2 ⟨ea, ec, rfl, o2, b2⟩; have HL2 : Hid (Lo w w2 t hb n c ea ec es) := ⟨(tabNx HT.out.1 b2).1, (tabNx HT.out.1 b2).2, HT.out.2.up b2, rowBase2 o2 HT.out.1.2.size⟩; clear b2 o2 HOf HT qu0 qu1 qu2 qu3 ql0 ql1 ql2 ql3 qb0 qb1 qb2 qb3 qd qz; have k2 := HL2.out.t; have qu0 := k2.cu 0 (by decide); have qu1 := k2.cu 1 (by decide); have qu2 := k2.cu 2 (by decide); have qu3 := k2.cu 3 (by decide); have ql0 := k2.cl 0 (by decide); have ql1 := k2.cl 1 (by decide); have ql2 := k2.cl 2 (by decide); have ql3 := k2.cl 3 (by decide); have qb0 := k2.cb 0 (by decide); have qb1 := k2.cb 1 (by decide); have qb2 := k2.cb 2 (by decide); have qb3 := k2.cb 3 (by decide); have qd := k2.cd; have qz := k2.lt; clear k2)
    | (go_at_call 16; refine Calls.mono (HNw.out _ HL2.out.up) ?_; rintro e w3 ⟨rb, mb, rfl, r1, l1, b1⟩; have HK0 : Hid (Ku w2 w3 t rb mb 0 (fun _ _ => 0)) := ⟨r1, b1, l1.2⟩; clear r1 l1 b1 HNw qu0 qu1 qu2 qu3 ql0 ql1 ql2 ql3 qb0 qb1 qb2 qb3 qd qz))
  go_wp2_with fail
  go_loopw [68] (fun v wr => ∃ k m : Nat, k ≤ n ∧ v = .int .i64 k ∧ Ku w2 wr t rb mb m (cntF (sysL t xs []) (cut c k)) ∧ Few (cntF (sysL t xs []) (cut c k)) ∧ m ≤ 4 * k) (fun v _ => n - (intOf v).toNat)
  case atStart => exact ⟨0, 0, by omega, rfl, by rw [cut_0, cntF_start]; exact HK0.out, by rw [cut_0, cntF_start]; exact fun _ _ => ⟨Int.le_refl _, by show (0 : Int) ≤ 8; decide⟩, by omega⟩
  case round =>
    rename World => wr
    obtain ⟨k, m, hk, rfl, hku, hfw, hm⟩ := hrel
    have HQ : Hid (Ku w2 wr t rb mb m (cntF (sysL t xs []) (cut c k)) ∧ Few (cntF (sysL t xs []) (cut c k)) ∧ m ≤ 4 * k) := ⟨hku, hfw, hm⟩
    clear hku hfw hm HK0
    by_cases hlt : k < n
    · have k0 : (0 : Int) ≤ (k : Int) := by omega
      have k1 : (k : Int) < (n : Int) := by omega
      have hkx := HN2.out k hlt
      obtain ⟨b, g0, rfl, hz2, hx⟩ := (HO.out.below (HL2.out.next HQ.out.1.up).up).is (by omega)
      obtain ⟨q0, q1, q2, q3, q4⟩ := hx k hkx
      have HX0 : Hid (Ku w2 (wr.alloc (.cells #[.int .i8 xs[k].op, .int .u8 xs[k].d, .int .u8 xs[k].a, .int .u8 xs[k].b, .int .i64 xs[k].im] 40)) t rb mb m (cntF (sysL t xs []) (cut c k)) ∧ At (wr.alloc (.cells #[.int .i8 xs[k].op, .int .u8 xs[k].d, .int .u8 xs[k].a, .int .u8 xs[k].b, .int .i64 xs[k].im] 40)) wr.heap.size #[.int .i8 xs[k].op, .int .u8 xs[k].d, .int .u8 xs[k].a, .int .u8 xs[k].b, .int .i64 xs[k].im]) := ⟨HQ.out.1.next ((Below.refl _ _).alloc (Nat.le_refl _) _), At.new _ _ _⟩
      have HCi : Hid (∀ W, Calls Tryd.prog 13 #[.int .i8 xs[k].op] W fun e w' => e = .returned (.tuple #[.int .i64 (clN xs k : Int), .bool true]) ∧ Below W.heap.size W w') := fun W => HCls.out k hkx W
      have HTk1 : Hid (∀ Z, Ku w2 Z t rb mb m (cntF (sysL t xs []) (cut c k)) → Calls Tryd.prog 17 #[.pointer (some ⟨rb, 0, none⟩), .int .i64 (clN xs k : Int), .int .i64 (c k)] Z fun e w' => e = .returned (.bool true) ∧ ∃ n', RAt w' rb t none mb n' (cntF (sysL t xs []) (cut c (k + 1))) ∧ n' ≤ m + 4 ∧ Fr (One mb) Z w') := fun Z hZ => (HTk.out w2 Z rb mb m k hlt hZ HQ.out.2.1 HQ.out.2.2).2
      have HFw : Hid (Few (cntF (sysL t xs []) (cut c (k + 1)))) := (HTk.out w2 wr rb mb m k hlt HQ.out.1 HQ.out.2.1 HQ.out.2.2).1
      have HMm : Hid (m ≤ 4 * k) := HQ.out.2.2
      have HCe : Hid (∀ Z, Ku w2 Z t rb mb m (cntF (sysL t xs []) (cut c k)) → Z.cell? ⟨hb, k, none⟩ = some (.int .i64 (c k)) ∧ hb < Z.heap.size) := fun Z hZ => ⟨(HL2.out.next hZ.up).ir.c k hlt, (HL2.out.next hZ.up).ir.lt⟩
      obtain ⟨o, hoe⟩ : ∃ o, xs[k]'hkx = o := ⟨_, rfl⟩
      rw [hoe] at HX0 HCi q0 q1 q2 q3 q4
      clear hx hoe
      generalize clN xs k = cl at *
      generalize c k = ck at *
      generalize cntF (sysL t xs []) (cut c k) = f at *
      go_upto_region 13 with fail
      generalize (wr.alloc (.cells #[.int .i8 o.op, .int .u8 o.d, .int .u8 o.a, .int .u8 o.b, .int .i64 o.im] 40)) = X at *
      have HX : Hid (Ku w2 X t rb mb m f ∧ At X wr.heap.size #[.int .i8 o.op, .int .u8 o.d, .int .u8 o.a, .int .u8 o.b, .int .i64 o.im]) := HX0.out
      generalize wr.heap.size = ob at *
      clear HQ HX0 q0 q1 q2 q3 q4 hz2
      have a0 := HX.out.2.c 0 _ rfl
      have al := HX.out.2.lt
      go_upto_region 14 with (first
        | (go_at_call 13; refine Calls.mono (HCi.out _) ?_; rintro e wy ⟨rfl, b3⟩; have HX3 : Hid (Ku w2 wy t rb mb m f) := HX.out.1.next b3; clear b3 HCi HX a0 al))
      obtain ⟨cc, chl⟩ := HCe.out _ HX3.out
      go_wp2_with (first
        | (go_at_call 17; refine Calls.mono (HTk1.out _ HX3.out) ?_; rintro e w4 ⟨rfl, m4, r4, l4, f4⟩; have HX4 : Hid (Ku w2 w4 t rb mb m4 (cntF (sysL t xs []) (cut c (k + 1))) ∧ m4 ≤ m + 4) := ⟨HX3.out.take f4 r4, l4⟩; clear r4 l4 f4 HTk1 HX3 cc chl))
      go_roundw
      case rel => exact ⟨k + 1, m4, by omega, by go_num, HX4.out.1, HFw.out, by have := HX4.out.2; have := HMm.out; omega⟩
      case measure => simp [intOf]; omega
    · obtain rfl : k = n := by omega
      have k1 : ¬ (k : Int) < (k : Int) := by omega
      have HK : Hid (Ku w2 wr t rb mb m (cntF (sysL t xs []) (cut c k))) := HQ.out.1
      clear HQ HTk
      obtain ⟨n, hkn⟩ : ∃ n, k = n := ⟨_, rfl⟩
      subst hkn
      generalize cntF (sysL t xs []) (cut c k) = F at *
      go_wp2_with fail
      go_loopw [94] (fun v wr => ∃ i : Nat, i ≤ k ∧ v = .int .i64 i ∧ Ku w2 wr t rb mb m F) (fun v _ => k - (intOf v).toNat)
      case atStart => exact ⟨0, by omega, rfl, HK.out⟩
      case round =>
        rename World => wv
        obtain ⟨i, hi, rfl, hs⟩ := hrel
        have HV : Hid (Ku w2 wv t rb mb m F) := hs
        clear hs HK
        by_cases hin : i < k
        · have i0 : (0 : Int) ≤ (i : Int) := by omega
          have i1 : (i : Int) < (k : Int) := by omega
          have hix := HN2.out i hin
          obtain ⟨b, g0, rfl, hz2, hx⟩ := (HO.out.below (HL2.out.next HV.out.up).up).is (by omega)
          obtain ⟨q0, q1, q2, q3, q4⟩ := hx i hix
          have HX0 : Hid (Ku w2 (wv.alloc (.cells #[.int .i8 xs[i].op, .int .u8 xs[i].d, .int .u8 xs[i].a, .int .u8 xs[i].b, .int .i64 xs[i].im] 40)) t rb mb m F ∧ At (wv.alloc (.cells #[.int .i8 xs[i].op, .int .u8 xs[i].d, .int .u8 xs[i].a, .int .u8 xs[i].b, .int .i64 xs[i].im] 40)) wv.heap.size #[.int .i8 xs[i].op, .int .u8 xs[i].d, .int .u8 xs[i].a, .int .u8 xs[i].b, .int .i64 xs[i].im]) := ⟨HV.out.next ((Below.refl _ _).alloc (Nat.le_refl _) _), At.new _ _ _⟩
          have HCi : Hid (∀ W, Calls Tryd.prog 13 #[.int .i8 xs[i].op] W fun e w' => e = .returned (.tuple #[.int .i64 (clN xs i : Int), .bool true]) ∧ Below W.heap.size W w') := fun W => HCls.out i hix W
          obtain ⟨hf1, hf2⟩ := HFs.out i hin
          have HF1 : Hid (∀ k, 0 ≤ fsE c i (es.take k) 0 ∧ fsE c i (es.take k) 0 ≤ c i) := hf1
          have HF2 : Hid (∀ y, fsE c i es 0 ≤ y → y < c i → t.u (clN xs i) ≤ (busy s c (clN xs i) y : Int)) := hf2
          clear hf1 hf2
          have HCe : Hid (∀ Z, Ku w2 Z t rb mb m F → Z.cell? ⟨hb, i, none⟩ = some (.int .i64 (c i)) ∧ hb < Z.heap.size) := fun Z hZ => ⟨(HL2.out.next hZ.up).ir.c i hin, (HL2.out.next hZ.up).ir.lt⟩
          obtain ⟨r1, r2⟩ := HC1.out i hin
          have c4 := clN_lt xs i
          have HUi : Hid (∀ Z (y : Int), Ku w2 Z t rb mb m F → 0 ≤ y → y ≤ 480 → Calls Tryd.prog 18 #[.pointer (some ⟨rb, 0, none⟩), .int .i64 (clN xs i : Int), .int .i64 y] Z fun e w' => e = .returned (.int .i64 (busy s c (clN xs i) y : Int)) ∧ Below Z.heap.size Z w') := fun Z y hZ h1 h2 => HUs.out w2 Z rb mb m (clN xs i) y hZ c4 h1 h2
          obtain ⟨o, hoe⟩ : ∃ o, xs[i]'hix = o := ⟨_, rfl⟩
          rw [hoe] at HX0 HCi q0 q1 q2 q3 q4
          clear hx hoe
          generalize clN xs i = cl at *
          go_upto_region 20 with fail
          generalize (wv.alloc (.cells #[.int .i8 o.op, .int .u8 o.d, .int .u8 o.a, .int .u8 o.b, .int .i64 o.im] 40)) = X at *
          have HX : Hid (Ku w2 X t rb mb m F ∧ At X wv.heap.size #[.int .i8 o.op, .int .u8 o.d, .int .u8 o.a, .int .u8 o.b, .int .i64 o.im]) := HX0.out
          generalize wv.heap.size = ob at *
          clear HV HX0 q0 q1 q2 q3 q4 hz2
          go_wp2_with fail
          go_loopw [17, 101] (fun v1 v wr => ∃ j : Nat, j ≤ M ∧ v1 = .int .i64 (fsE c i (es.take j) 0) ∧ v = .int .i64 j ∧ Ku w2 wr t rb mb m F ∧ At wr ob #[.int .i8 o.op, .int .u8 o.d, .int .u8 o.a, .int .u8 o.b, .int .i64 o.im]) (fun _ v _ => M - (intOf v).toNat)
          case atStart => exact ⟨0, by omega, rfl, rfl, HX.out⟩
          case round =>
            rename World => wx
            obtain ⟨j, hj, rfl, rfl, hs1, hs2⟩ := hrel
            have HY : Hid (Ku w2 wx t rb mb m F ∧ At wx ob #[.int .i8 o.op, .int .u8 o.d, .int .u8 o.a, .int .u8 o.b, .int .i64 o.im]) := ⟨hs1, hs2⟩
            clear hs1 hs2 HX
            by_cases hjm : j < M
            · have j0 : (0 : Int) ≤ (j : Int) := by omega
              have j1 : (j : Int) < (M : Int) := by omega
              have hke : j < es.length := by rw [HM.out]; exact hjm
              obtain ⟨eb, rfl, l1, lb1, f0, f1, f2, f3, f4⟩ := eOwn_at (HL2.out.next HY.out.1.up).eo hke
              have hm := List.getElem_mem hke
              have g1 := HEO.out.f0 _ hm
              have g2 := HEO.out.ft _ hm
              have g3 := HEO.out.tn _ hm
              obtain ⟨g4, g5⟩ := HEO.out.l0 _ hm
              have HNx : Hid (fsE c i (es.take (j + 1)) 0 = if es[j].t = (i : Int) then max (fsE c i (es.take j) 0) (c es[j].f.toNat + es[j].l) else fsE c i (es.take j) 0) := fsE_take _ _ _ _ hke _
              have HX2 : Hid (Ku w2 (wx.alloc (.cells #[.int .i64 es[j].f, .int .i64 es[j].t, .int .i64 es[j].l, .int .i64 es[j].d, .int .i8 es[j].y] 42)) t rb mb m F ∧ At (wx.alloc (.cells #[.int .i64 es[j].f, .int .i64 es[j].t, .int .i64 es[j].l, .int .i64 es[j].d, .int .i8 es[j].y] 42)) ob #[.int .i8 o.op, .int .u8 o.d, .int .u8 o.a, .int .u8 o.b, .int .i64 o.im] ∧ At (wx.alloc (.cells #[.int .i64 es[j].f, .int .i64 es[j].t, .int .i64 es[j].l, .int .i64 es[j].d, .int .i8 es[j].y] 42)) wx.heap.size #[.int .i64 es[j].f, .int .i64 es[j].t, .int .i64 es[j].l, .int .i64 es[j].d, .int .i8 es[j].y]) := ⟨HY.out.1.next ((Below.refl _ _).alloc (Nat.le_refl _) _), HY.out.2.below ((Below.refl _ _).alloc (Nat.le_refl _) _) HY.out.2.lt, At.new _ _ _⟩
              clear hm
              generalize es[j] = x at *
              obtain ⟨xf, xt, xl, xd, xy⟩ := x
              obtain ⟨fi, rfl⟩ : ∃ fi : Nat, xf = fi := ⟨xf.toNat, by have g1 : 0 ≤ xf := g1; omega⟩
              obtain ⟨ti, rfl⟩ : ∃ ti : Nat, xt = ti := ⟨xt.toNat, by have g1 : 0 ≤ (fi : Int) := g1; have g2 : (fi : Int) < xt := g2; omega⟩
              have g2 : (fi : Int) < (ti : Int) := g2
              have g3 : (ti : Int) < (k : Int) := g3
              have g4 : 0 ≤ xl := g4
              have g5 : xl ≤ 8 := g5
              have g6 : (0 : Int) ≤ (fi : Int) := by omega
              have g7 : (fi : Int) < (k : Int) := by omega
              have HNx : Hid (fsE c i (es.take (j + 1)) 0 = if (ti : Int) = (i : Int) then max (fsE c i (es.take j) 0) (c fi + xl) else fsE c i (es.take j) 0) := HNx.out
              obtain ⟨h1, h2⟩ := HC1.out fi (by omega)
              obtain ⟨h3, h4⟩ := HF1.out j
              clear g1
              generalize fsE c i (es.take j) 0 = fs at *
              have HCf : Hid (∀ Z, Ku w2 Z t rb mb m F → Z.cell? ⟨hb, fi, none⟩ = some (.int .i64 (c fi)) ∧ hb < Z.heap.size) := fun Z hZ => ⟨(HL2.out.next hZ.up).ir.c fi (by omega), (HL2.out.next hZ.up).ir.lt⟩
              generalize c fi = vf at *
              go_upto_region 24 with fail
              generalize (wx.alloc (.cells #[.int .i64 fi, .int .i64 ti, .int .i64 xl, .int .i64 xd, .int .i8 xy] 42)) = X2 at *
              have HX3 : Hid (Ku w2 X2 t rb mb m F ∧ At X2 ob #[.int .i8 o.op, .int .u8 o.d, .int .u8 o.a, .int .u8 o.b, .int .i64 o.im] ∧ At X2 wx.heap.size #[.int .i64 fi, .int .i64 ti, .int .i64 xl, .int .i64 xd, .int .i8 xy]) := HX2.out
              generalize wx.heap.size = xb at *
              clear HY HX2 f0 f1 f2 f3 f4 l1 lb1
              have s2 := HX3.out.2.2
              have o0 := s2.c 0 _ rfl
              have o1 := s2.c 1 _ rfl
              have o2 := s2.c 2 _ rfl
              have ol := s2.lt
              clear s2
              by_cases hti : ti = i
              · subst hti
                obtain ⟨cc, chl⟩ := HCf.out _ HX3.out.1
                go_upto_region 25 with fail
                go_region
                all_goals
                  go_wp2_with fail
                  go_roundw
                  case rel => exact ⟨j + 1, by omega, by rw [HNx.out, if_pos rfl], by go_num, HX3.out.1.next ((Below.refl _ _).drew), HX3.out.2.1.below ((Below.refl _ _).drew) HX3.out.2.1.lt⟩
                  case measure => first | (simp [intOf]; done) | (simp [intOf]; omega)
              · have hti2 : ¬ (ti : Int) = (i : Int) := by omega
                have HVx : Hid (fsE c i (es.take (j + 1)) 0 = fs) := by show fsE c i (es.take (j + 1)) 0 = fs; rw [HNx.out, if_neg hti2]
                have hti3 : ((ti : Int) == (i : Int)) = false := by simpa using hti2
                go_wp2_with fail
                go_roundw
                case rel => exact ⟨j + 1, by omega, by rw [HVx.out], by go_num, HX3.out.1, HX3.out.2.1⟩
                case measure => simp [intOf]; omega
            · obtain rfl : j = M := by omega
              have j1 : ¬ (j : Int) < (j : Int) := by omega
              have htk : es.take j = es := by rw [← HM.out, List.take_length]
              obtain ⟨h3, h4⟩ := HF1.out j
              rw [htk] at h3 h4 ⊢
              clear htk HF1
              generalize fsE c i es 0 = fs at *
              have HB0 : Hid (∀ y, fs ≤ y → y < c i → t.u cl ≤ (busy s c cl y : Int)) := HF2.out
              clear HF2
              generalize hci : c i = ci at *
              obtain ⟨cc, chl⟩ := HCe.out _ HY.out.1
              have n0 : ¬ ci < fs := by omega
              have a0 := HY.out.2.c 0 _ rfl
              have al := HY.out.2.lt
              go_upto_region 30 with (first
                | (go_at_call 13; refine Calls.mono (HCi.out _) ?_; rintro e wy ⟨rfl, b3⟩; have HZ2 : Hid (Ku w2 wy t rb mb m F) := HY.out.1.next b3; clear b3 HCi HY a0 al cc chl))
              go_wp2_with fail
              go_loopw [22] (fun v wr => ∃ y : Int, fs ≤ y ∧ y ≤ ci ∧ v = .int .i64 y ∧ Ku w2 wr t rb mb m F) (fun v _ => (ci - intOf v).toNat)
              case atStart => exact ⟨fs, by omega, by omega, rfl, HZ2.out⟩
              case round =>
                rename World => wz
                obtain ⟨y, hy1, hy2, rfl, hs⟩ := hrel
                have HW : Hid (Ku w2 wz t rb mb m F) := hs
                clear hs HZ2
                obtain ⟨cc, chl⟩ := HCe.out _ HW.out
                by_cases hyc : y < ci
                · have hbz := HB0.out y hy1 hyc
                  have HUy : Hid (∀ Z, Ku w2 Z t rb mb m F → Calls Tryd.prog 18 #[.pointer (some ⟨rb, 0, none⟩), .int .i64 (cl : Int), .int .i64 y] Z fun e w' => e = .returned (.int .i64 (busy s c cl y : Int)) ∧ Below Z.heap.size Z w') := fun Z hZ => HUi.out Z y hZ (by omega) (by omega)
                  generalize busy s c cl y = bz at *
                  have hd : ¬ (bz : Int) < t.u cl := by omega
                  have c0 : (0 : Int) ≤ (cl : Int) := by omega
                  have c3 : (cl : Int) < 4 := by omega
                  go_upto_region 33 with fail
                  clear cc chl
                  refine wp_region_held_drew (S := fun Z => TabAt Z w.heap.size t) (by kernel_rfl) ((HL2.out.next HW.out.up).t.below (drew_up _) (HL2.out.next HW.out.up).t.lt) (fun hHeld => ?_)
                  refine wpAnyH_take (i := 0) (v := .pointer (some ⟨rb, 0, none⟩)) rfl (by kernel_rfl) (by kernel_rfl) (by kernel_rfl) (fun _ _ _ h => h) (Or.inl ⟨by rfl, fun w' hSw => by (go_simp)⟩) hHeld ?_
                  simp only [Act.put, List.setIfInBounds_toArray, List.set_cons_zero, List.set_cons_succ, List.getElem_cons_zero, List.getElem_toArray]
                  refine wpAnyH_take (i := 1) (v := .int .i64 (cl : Int)) rfl (by kernel_rfl) (by kernel_rfl) (by kernel_rfl) (fun _ _ _ h => h) (Or.inl ⟨by rfl, fun w' hSw => by (go_simp)⟩) hHeld ?_
                  simp only [Act.put, List.setIfInBounds_toArray, List.set_cons_zero, List.set_cons_succ, List.getElem_cons_zero, List.getElem_cons_succ, List.getElem_toArray]
                  refine wpAnyH_take (i := 2) (v := .int .i64 y) rfl (by kernel_rfl) (by kernel_rfl) (by kernel_rfl) (fun _ _ _ h => h) (Or.inl ⟨by rfl, fun w' hSw => by (go_simp)⟩) hHeld ?_
                  simp only [Act.put, List.setIfInBounds_toArray, List.set_cons_zero, List.set_cons_succ, List.getElem_cons_zero, List.getElem_cons_succ, List.getElem_toArray]
                  refine wpAnyH_take (i := 4) (v := .int .i64 (cl : Int)) rfl (by kernel_rfl) (by kernel_rfl) (by kernel_rfl) (fun _ _ _ h => h) (Or.inl ⟨by rfl, fun w' hSw => by (go_simp)⟩) hHeld ?_
                  simp only [Act.put, List.setIfInBounds_toArray, List.set_cons_zero, List.set_cons_succ, List.getElem_cons_zero, List.getElem_cons_succ, List.getElem_toArray]
                  refine wpAnyH_take (i := 5) (v := .pointer (some ⟨w.heap.size, 0, none⟩)) rfl (by kernel_rfl) (by kernel_rfl) (by kernel_rfl) (fun _ _ _ h => h) (Or.inl ⟨by rfl, fun w' hSw => by (go_simp)⟩) hHeld ?_
                  simp only [Act.put, List.setIfInBounds_toArray, List.set_cons_zero, List.set_cons_succ, List.getElem_cons_zero, List.getElem_cons_succ, List.getElem_toArray]
                  refine wpAnyH_take (i := 6) (v := .pointer (some ⟨w.heap.size, cl, none⟩)) rfl (by kernel_rfl) (by kernel_rfl) (by kernel_rfl) (fun _ _ _ h => h) (Or.inl ⟨by rfl, fun w' hSw => by (go_simp)⟩) hHeld ?_
                  simp only [Act.put, List.setIfInBounds_toArray, List.set_cons_zero, List.set_cons_succ, List.getElem_cons_zero, List.getElem_cons_succ, List.getElem_toArray]
                  refine wpAnyH_take (i := 7) (v := .int .i64 (t.u cl)) rfl (by kernel_rfl) (by kernel_rfl) (by kernel_rfl) (fun _ _ _ h => h) (Or.inl ⟨by rfl, fun w' hSw => by (have hcu := hSw.cu cl c4; have htl := hSw.lt; go_simp)⟩) hHeld ?_
                  simp only [Act.put, List.setIfInBounds_toArray, List.set_cons_zero, List.set_cons_succ, List.getElem_cons_zero, List.getElem_cons_succ, List.getElem_toArray]
                  refine wpAnyH_ready (rs := [3]) (by kernel_rfl) (by simp) ?_
                  refine AllReadyH.cons rfl (fun K hK => ?_) AllReadyH.nil
                  go_simp
                  refine Calls.mono (HUy.out _ (HW.out.next (drew_up _))) ?_
                  rintro e w3 ⟨rfl, b3⟩
                  have HW3 : Hid (Ku w2 w3 t rb mb m F) := (HW.out.next (drew_up _)).next b3
                  refine hK.out _ _ (HL2.out.next HW3.out.up).t (fun hHeld => ?_)
                  clear hK K b3 HUy
                  refine wpAnyH_take (i := 8) (v := .bool false) rfl (by kernel_rfl) (by kernel_rfl) (by kernel_rfl) (fun _ _ _ h => h) (Or.inl ⟨by rfl, fun w' hSw => by (go_simp)⟩) hHeld ?_
                  simp only [Act.put, List.setIfInBounds_toArray, List.set_cons_zero, List.set_cons_succ, List.getElem_cons_zero, List.getElem_cons_succ, List.getElem_toArray]
                  refine wpAnyH_done (by kernel_rfl) ?_ _
                  clear hHeld
                  go_wp2_with fail
                  go_roundw
                  case rel => exact ⟨y + 1, by omega, by omega, by go_num, HW3.out⟩
                  case measure => simp [intOf]; omega
                · go_wp2_with fail
                  go_roundw
                  case rel => exact ⟨i + 1, by omega, by go_num, HW.out⟩
                  case measure => simp [intOf]; omega
        · obtain rfl : i = k := by omega
          have i1 : ¬ (i : Int) < (i : Int) := by omega
          go_wp2_with (first
            | (go_at_call 15; refine Calls.mono (HLs.out _ (HL2.out.next HV.out.up).up) ?_; rintro e w9 ⟨rfl, b9⟩; have HB9 : Hid (Below w.heap.size w w9) := (HL2.out.next HV.out.up).up.trans (b9.mono (HL2.out.next HV.out.up).up.size); clear b9 HLs))
          go_ret
          exact ⟨rfl, HB9.out⟩

set_option maxHeartbeats 8000000 in
theorem topg_bad (ao : Option Addr)  (cap n : Nat) (t : Tab) (w : World) (hG : Bnds w) (hn : n ≤ 60) (er : Int) (he : ¬ er = 0) (hcy : ∀ W, Below w.heap.size w W → Calls Tryd.prog 11 #[.slice ao n cap, t.val] W fun e w' => e = .returned (.tuple #[.slice none 0 0, .int .i64 er]) ∧ Below W.heap.size W w') :
    Calls Tryd.prog 6 #[.slice ao n cap, t.val] w fun e w' => e = .returned (.bool true) ∧ Below w.heap.size w w' := by
  have HCy : Hid (∀ W, Below w.heap.size w W → Calls Tryd.prog 11 #[.slice ao n cap, .agg #[.int .i64 (t.u 0), .int .i64 (t.u 1), .int .i64 (t.u 2), .int .i64 (t.u 3), .int .i64 (t.l 0), .int .i64 (t.l 1), .int .i64 (t.l 2), .int .i64 (t.l 3), .int .i64 (t.b 0), .int .i64 (t.b 1), .int .i64 (t.b 2), .int .i64 (t.b 3), .int .i64 t.d]] W fun e w' => e = .returned (.tuple #[.slice none 0 0, .int .i64 er]) ∧ Below W.heap.size W w') := hcy
  have HLs : Hid (∀ W, Below w.heap.size w W → Calls Tryd.prog 15 #[] W fun e w' => e = .returned (.bool true) ∧ Below W.heap.size W w') := fun W hb => listed_any W (hG.below hb hG.big)
  have hne : (er != 0) = true := by simpa using he
  have hl : ¬ (60 : Int) < (n : Int) := by omega
  clear hG hcy
  unfold Tab.val at *
  go_enter Tryd.func6, Tryd.ntmps6
  go_wp2_with (first
    | (go_at_call 11; refine Calls.mono (HCy.out _ (by go_grown)) ?_; rintro e w1 ⟨rfl, b1⟩; have HT : Hid (Below w.heap.size w w1) := (tabNx ⟨Tb.tabAt_new w t 25, by go_grown⟩ b1).2; clear b1 HCy)
    | (go_at_call 15; refine Calls.mono (HLs.out _ HT.out) ?_; rintro e w3 ⟨rfl, b3⟩; have HT3 : Hid (Below w.heap.size w w3) := HT.out.trans (b3.mono HT.out.size); clear b3 HLs HT))
  go_ret
  exact ⟨rfl, HT3.out⟩

set_option maxHeartbeats 8000000 in
theorem topg_badL (ao : Option Addr) (b0 f0 L : Nat) (hao : ao = some ⟨b0, f0, none⟩) (cap n : Nat) (t : Tab) (w : World) (hG : Bnds w) (hn : n = 60) (hL : 60 < L) (hLc : L ≤ cap) (hLm : L ≤ 8796093022208) (er : Int) (he : ¬ er = 0) (hcy : ∀ W, Below w.heap.size w W → Calls Tryd.prog 11 #[.slice ao n cap, t.val] W fun e w' => e = .returned (.tuple #[.slice none 0 0, .int .i64 er]) ∧ Below W.heap.size W w') :
    Calls Tryd.prog 6 #[.slice ao L cap, t.val] w fun e w' => e = .returned (.bool true) ∧ Below w.heap.size w w' := by
  have HCy : Hid (∀ W, Below w.heap.size w W → Calls Tryd.prog 11 #[.slice ao n cap, .agg #[.int .i64 (t.u 0), .int .i64 (t.u 1), .int .i64 (t.u 2), .int .i64 (t.u 3), .int .i64 (t.l 0), .int .i64 (t.l 1), .int .i64 (t.l 2), .int .i64 (t.l 3), .int .i64 (t.b 0), .int .i64 (t.b 1), .int .i64 (t.b 2), .int .i64 (t.b 3), .int .i64 t.d]] W fun e w' => e = .returned (.tuple #[.slice none 0 0, .int .i64 er]) ∧ Below W.heap.size W w') := hcy
  have HLs : Hid (∀ W, Below w.heap.size w W → Calls Tryd.prog 15 #[] W fun e w' => e = .returned (.bool true) ∧ Below W.heap.size W w') := fun W hb => listed_any W (hG.below hb hG.big)
  have hne : (er != 0) = true := by simpa using he
  subst hn
  subst hao
  have hl : (60 : Int) < (L : Int) := by omega
  have hlc : (L : Int) ≤ (cap : Int) := by omega
  have hlm : (L : Int) ≤ 8796093022208 := by omega
  have hcap6 : (60 : Int) ≤ (cap : Int) := by omega
  clear hG hcy
  unfold Tab.val at *
  go_enter Tryd.func6, Tryd.ntmps6
  go_wp2_with (first
    | (go_at_call 11; refine Calls.mono (HCy.out _ (by go_grown)) ?_; rintro e w1 ⟨rfl, b1⟩; have HT : Hid (Below w.heap.size w w1) := (tabNx ⟨Tb.tabAt_new w t 25, by go_grown⟩ b1).2; clear b1 HCy)
    | (go_at_call 15; refine Calls.mono (HLs.out _ HT.out) ?_; rintro e w3 ⟨rfl, b3⟩; have HT3 : Hid (Below w.heap.size w w3) := HT.out.trans (b3.mono HT.out.size); clear b3 HLs HT))
  go_ret
  exact ⟨rfl, HT3.out⟩

theorem opsAt_cut60 {w : World} {ao : Option Addr} {xs : List O} (h : OpsAt w ao xs) : OpsAt w ao (xs.take 60) := by
  refine ⟨fun o ho => h.ok o (List.mem_of_mem_take ho), by have := h.len; rw [List.length_take]; omega, fun h0 => ?_⟩
  obtain ⟨b, f, e, hz, hx⟩ := h.is (by rw [List.length_take] at h0; omega)
  refine ⟨b, f, e, hz, fun i hi => ?_⟩
  have hi2 : i < xs.length := by rw [List.length_take] at hi; omega
  have := hx i hi2
  rw [List.getElem_take]
  exact this

theorem law_topg (ao : Option Addr) (cap : Nat) (xs : List O) (t : Tab) (w : World) (h : OpsAt w ao xs) (hcap : xs.length ≤ cap) (hG : Bnds w) :
    Calls Tryd.prog 6 #[.slice ao xs.length cap, t.val] w fun e w' => e = .returned (.bool true) ∧ Below w.heap.size w w' := by
  by_cases h1 : 60 < xs.length
  · have hm := h.len
    obtain ⟨b0, f0, hao, -⟩ := h.is (by omega)
    have h6 : (xs.take 60).length = 60 := by rw [List.length_take]; omega
    have ht : OpsAt w ao (xs.take 60) := opsAt_cut60 h
    by_cases he : lisE t (xs.take 60) = 0
    · cases hu : hvU t (xs.take 60)
      · exact topg_badL ao b0 f0 xs.length hao cap (xs.take 60).length t w hG h6 h1 hcap (by omega) 21 (by decide) fun W hb => cycles_unit ao cap (xs.take 60) t W (ht.below hb) (by omega) (hG.below hb hG.big) he hu
      · exact topg_long ao xs.length cap h1 hcap (by omega) (xs.take 60) t w ht (by omega) hG h6 he hu
    · exact topg_badL ao b0 f0 xs.length hao cap (xs.take 60).length t w hG h6 h1 hcap (by omega) _ he fun W hb => cycles_no ao cap (xs.take 60) t W (ht.below hb) (by omega) (hG.below hb hG.big) he
  · by_cases he : lisE t xs = 0
    · cases hu : hvU t xs
      · exact topg_bad ao cap xs.length t w hG (by omega) 21 (by decide) fun W hb => cycles_unit ao cap xs t W (h.below hb) hcap (hG.below hb hG.big) he hu
      · exact topg_ok ao cap xs t w h hcap hG (by omega) he hu
    · exact topg_bad ao cap xs.length t w hG (by omega) _ he fun W hb => cycles_no ao cap xs t W (h.below hb) hcap (hG.below hb hG.big) he
end Go.Proofs.YtnckkhamkkaljaaDoor.Ls

namespace Go.Proofs.YtnckkhamkkaljaaDoor.Op
open Go.ChangeShapes Go.WideShapes Go.ChangeAt Go.RowKit
open Tb (Tab)
theorem wf64 {n : Int} (h : (Lit.int .i64 n).wf = true) : -9223372036854775808 ≤ n ∧ n ≤ 9223372036854775807 := by
  simp [Lit.wf, IntKind.min, IntKind.max, IntKind.signed, IntKind.bits] at h
  omega
theorem wf8 {n : Int} (h : (Lit.int .i8 n).wf = true) : -128 ≤ n ∧ n ≤ 127 := by
  simp [Lit.wf, IntKind.min, IntKind.max, IntKind.signed, IntKind.bits] at h
  omega
theorem wfu8 {n : Int} (h : (Lit.int .u8 n).wf = true) : 0 ≤ n ∧ n ≤ 255 := by
  simp [Lit.wf, IntKind.min, IntKind.max, IntKind.signed, IntKind.bits] at h
  omega
theorem own : ownKnob Tryd.prog.godebug = none := by kernel_rfl
set_option maxRecDepth 20000 in
/-- A pair of bounds, out of its reading. -/
theorem bnd_of {W : World} {n : String} {g : Nat} {a b : Int} (h : Lib.VarReads Tryd.prog W n (.agg [.lit (.int .i64 a), .lit (.int .i64 b)])) (hg : Tryd.prog.globalNamed n = some g) (ht : (Tryd.prog.globals[g]?).map (·.type) = some 106) :
    W.cell? ⟨g, 0, none⟩ = some (.int .i64 a) ∧ W.cell? ⟨g, 1, none⟩ = some (.int .i64 b) := by
  obtain ⟨g0, t0, cs, fuel, p, h1, h2, h3, h4⟩ := h
  obtain rfl := Option.some.inj (hg.symm.trans h1)
  obtain rfl := Option.some.inj (ht.symm.trans h2)
  obtain ⟨y0, y1, n', hx, hl, e0, e1⟩ := trod_struct2 Tryd.underlying106 h4
  have c3 : Tryd.prog.cellsOf 3 = 1 := by kernel_rfl
  have c62 : Tryd.prog.cellsOf 106 = 2 := by kernel_rfl
  obtain ⟨k0, f0, f1, _⟩ := DataW.trod_int Tryd.underlying3 e0
  obtain ⟨k1, f2, f3, _⟩ := DataW.trod_int Tryd.underlying3 e1
  rw [c3] at f0 f2
  rw [c62] at hl
  obtain ⟨l⟩ := cs
  match l, hl with
  | [v0, v1], _ =>
    simp at f0 f2
    subst f0 f2
    simp [f1, f3] at hx
    obtain ⟨⟨rfl, rfl⟩, _⟩ := hx
    exact ⟨by simpa using World.var?_cell h1 h3 0, by simpa using World.var?_cell h1 h3 1⟩
theorem trod_bool1 {H : Type} {enc : TypeId × Value → H} {W : World} {base fuel : Nat} {sp : Nat → Bool} {held : Bool} {c : Value} {y : DataW H × List MemPlace} (h : DataW.trod enc Tryd.prog W base sp held fuel 4 [c] = some y) : ∃ b : Bool, c = .bool b ∧ y.1 = .lit (.bool b) := by
  obtain ⟨b, e, f⟩ := DataW.trod_bool Tryd.underlying4 h
  exact ⟨b, by simpa using e, by rw [f]⟩
def laid4 : List (String × DataW Unit) := [("hayloft/table.unitsBounds", Rows.laid_hayloft_table_unitsBounds), ("hayloft/table.latBounds", Rows.laid_hayloft_table_latBounds), ("hayloft/table.busyBounds", Rows.laid_hayloft_table_busyBounds), ("hayloft/table.delayBounds", Rows.laid_hayloft_table_delayBounds)]
theorem big_of {W : World} (hsh : W.ShapedOpen Tryd.prog) : 5 ≤ W.heap.size := by
  have globs : Tryd.prog.globals.size = 4 := by kernel_rfl
  have big : 5 < (begin Tryd.prog (fun _ _ => 0) default).world.heap.size := of_decide_eq_true (by kernel_rfl)
  obtain ⟨o, o0, h1, _⟩ := hsh.2 5 (by rw [globs]; decide) big
  rcases Nat.lt_or_ge 5 W.heap.size with h | h
  · omega
  · rw [Array.getElem?_eq_none h] at h1; cases h1
set_option maxRecDepth 20000 in
theorem bnds_of {W : World} {l : List (String × DataW Unit)} (hP : laidMet Tryd.prog l W) (hu : ("hayloft/table.unitsBounds", Rows.laid_hayloft_table_unitsBounds) ∈ l) (hl : ("hayloft/table.latBounds", Rows.laid_hayloft_table_latBounds) ∈ l) (hb : ("hayloft/table.busyBounds", Rows.laid_hayloft_table_busyBounds) ∈ l) (hd : ("hayloft/table.delayBounds", Rows.laid_hayloft_table_delayBounds) ∈ l) (hz : 5 ≤ W.heap.size) : Tb.Bnds W := by
  have hd := bnd_of (Lib.laidMet.reads hP (n := "hayloft/table.delayBounds") (d := Rows.laid_hayloft_table_delayBounds) hd) (g := 0) (by kernel_rfl) (by kernel_rfl)
  have hu := bnd_of (Lib.laidMet.reads hP (n := "hayloft/table.unitsBounds") (d := Rows.laid_hayloft_table_unitsBounds) hu) (g := 1) (by kernel_rfl) (by kernel_rfl)
  have hl := bnd_of (Lib.laidMet.reads hP (n := "hayloft/table.latBounds") (d := Rows.laid_hayloft_table_latBounds) hl) (g := 2) (by kernel_rfl) (by kernel_rfl)
  have hb := bnd_of (Lib.laidMet.reads hP (n := "hayloft/table.busyBounds") (d := Rows.laid_hayloft_table_busyBounds) hb) (g := 3) (by kernel_rfl) (by kernel_rfl)
  exact ⟨hd.1, hd.2, hu.1, hu.2, hl.1, hl.2, hb.1, hb.2, hz⟩
theorem env4 {W : World} (hL : laidMetH Tryd.prog laid4 W) (hsh : W.ShapedOpen Tryd.prog) : Tb.Bnds W :=
  bnds_of (l := laid4) hL (by simp [laid4]) (by simp [laid4]) (by simp [laid4]) (by simp [laid4]) (big_of hsh)
set_option maxRecDepth 100000 in
/-- The wrap: what the listed variables hold, and the world's shape, are handed to the contract. -/
theorem wrap {H : Type} {enc : TypeId × Value → H} {os : Os} {f : FuncId} {fn : Func} {s : ChangeSpec} {lv : List (String × DataW Unit)} (started : os.Started) (noInit : Tryd.prog.inits.idxOf? f = none) (hfn : Tryd.prog.funcs[f]? = some fn)
    (witness : ∃ (w : World) (tape : Tape) (i : Input), w.os = os ∧ (w.forCall tape i).Shaped Tryd.prog ∧ i.vars = [] ∧ Input.okWide Tryd.prog (w.forCall tape i) .any w.heap.size f i ∧
      ((s.pre enc Tryd.prog fn [] false (w.forCall tape i).memory i.args ∧ laidMetH Tryd.prog lv (w.forCall tape i).memory) ∧ sizedMet enc Tryd.prog fn (OpenSpec.ofChange s) false (w.forCall tape i).memory i.args) ∧ Assume.holds {} Tryd.prog (lone (Frame.enter Tryd.prog f i.args .normal) [] (w.forCall tape i)))
    (contract : ∀ (W : World) (base : Nat) (args : Array Value) (ds gs : List (DataW H)) (before : List MemPlace),
      (∀ (j : Nat) t v, fn.params[j]? = some t → args[j]? = some v → Value.okWide Tryd.prog W .any base t v) →
      DataW.Whole enc Tryd.prog fn.params.toList s.vars false W args.toList ds gs before →
      (DataW.weightsEach Tryd.prog (fn.params.toList ++ s.plain.varTypes Tryd.prog) (ds ++ gs)).all (· ≤ reachBytes) = true →
      laidMetH Tryd.prog lv W → W.ShapedOpen Tryd.prog →
      Calls Tryd.prog f args W fun e W' => ∃ v, e = .returned v ∧ s.post enc Tryd.prog fn false true false false W args v W') :
    ReturnsInHanded {} Tryd.checked os f .any (fun w args => (s.pre enc Tryd.prog fn [] false w args ∧ laidMetH Tryd.prog lv w) ∧ sizedMet enc Tryd.prog fn (OpenSpec.ofChange s) false w args) (s.post enc Tryd.prog fn false true false false) := by
  refine returnsInHanded_of_calls (C := Tryd.checked) own started noInit witness ?_
  intro w tape i _ hsh _ hok hpre hholds
  obtain ⟨_, _, _, fn', hfn', _, _, _, _, hval⟩ := hok
  have e : fn' = fn := Option.some.inj (hfn'.symm.trans hfn)
  subst e
  obtain ⟨⟨⟨ds, gs, before, hw, hc⟩, hx⟩, hz⟩ := hpre
  have hw' := DataW.Whole.of_heap (w' := w.forCall tape i) (by rfl) hw
  refine (contract (w.forCall tape i) w.heap.size i.args ds gs before hval hw' (hz.weights hw) (hx.of_heap (by rfl)) hsh).mono fun e W' ⟨v, he, hp⟩ => ?_
  subst he
  exact ChangeSpec.post_blind hp
set_option maxRecDepth 100000 in
theorem wit_met4 (os : Os) (args : Array Value) : laidMetH Tryd.prog laid4 ((((World.holding Tryd.prog os ⟨#[], #[], []⟩).layVars Tryd.prog laid4).forCall (fun _ _ => 0) ⟨#[], args, []⟩).memory) := by
  refine laidMetH_of_parts ?_ (by kernel_rfl)
  have h : laidMet Tryd.prog laid4 ((World.holding Tryd.prog os ⟨#[], #[], []⟩).layVars Tryd.prog laid4) :=
    laidMet_layVars (w0 := World.holding Tryd.prog os ⟨#[], #[], []⟩) ["hayloft/table.unitsBounds", "hayloft/table.latBounds", "hayloft/table.busyBounds", "hayloft/table.delayBounds"] [] (by rw [show (laid4.filter fun x => (["hayloft/table.unitsBounds", "hayloft/table.latBounds", "hayloft/table.busyBounds", "hayloft/table.delayBounds"] : List String).contains x.1) = laid4 from by kernel_rfl]) (by kernel_rfl) (by kernel_rfl) (by rw [show (laid4.filter fun x => !(["hayloft/table.unitsBounds", "hayloft/table.latBounds", "hayloft/table.busyBounds", "hayloft/table.delayBounds"] : List String).contains x.1) = [] from by kernel_rfl]; exact LaidIn.none)
  exact h.of_heap (by simp [World.memory, World.forCall, Input.heap])
theorem wit_os4 (os : Os) : ((World.holding Tryd.prog os ⟨#[], #[], []⟩).layVars Tryd.prog laid4).os = os := World.layVars_os _ _ _
theorem tySize : Tryd.prog.types.size = 160 := by kernel_rfl
theorem laidOut : laidOutB Tryd.prog = true := by kernel_rfl
theorem trod_ints4 {H : Type} {enc : TypeId × Value → H} {W : World} {base fuel : Nat} {sp : Nat → Bool} {held : Bool} {c0 c1 c2 c3 : Value} {y : DataW H × List MemPlace} (h : DataW.trod enc Tryd.prog W base sp held fuel 23 [c0, c1, c2, c3] = some y) :
    ∃ a b c d : Int, c0 = .int .i64 a ∧ c1 = .int .i64 b ∧ c2 = .int .i64 c ∧ c3 = .int .i64 d ∧ y.2 = [] := by
  obtain ⟨xs, m, _, hx, _, hn, he⟩ := DataW.trod_array Tryd.underlying23 h
  have k3 : Tryd.prog.cellsOf 3 = 1 := by kernel_rfl
  rw [k3] at he
  have h0 := he 0 (by omega)
  have h1 := he 1 (by omega)
  have h2 := he 2 (by omega)
  have h3 := he 3 (by omega)
  match xs, hn with
  | [x0, x1, x2, x3], _ =>
    obtain ⟨a, a1, a2, _⟩ := DataW.trod_int Tryd.underlying3 h0
    obtain ⟨b, b1, b2, _⟩ := DataW.trod_int Tryd.underlying3 h1
    obtain ⟨c, c1', c2', _⟩ := DataW.trod_int Tryd.underlying3 h2
    obtain ⟨d, d1, d2, _⟩ := DataW.trod_int Tryd.underlying3 h3
    simp at a1 b1 c1' d1
    refine ⟨a, b, c, d, a1, b1, c1', d1, ?_⟩
    rw [hx]; simp [a2, b2, c2', d2]
def ofFour (a b c d : Int) : Nat → Int := fun k => if k = 0 then a else if k = 1 then b else if k = 2 then c else d
set_option maxRecDepth 100000 in
theorem open_tab {H : Type} {enc : TypeId × Value → H} {W : World} {r : Reach} {b0 base : Nat} {sp : Nat → Bool} {held : Bool} {v : Value} {d : DataW H} {p : List MemPlace} (hv : Value.okWide Tryd.prog W r b0 25 v) (h : DataW.Trod enc Tryd.prog W base sp held 25 v d p) : (∃ t : Tab, v = t.val) ∧ p = [] := by
  obtain ⟨cs, rfl, hsz⟩ := okWide_struct Tryd.underlying25 hv
  have k27 : Tryd.prog.cellsOf 25 = 13 := by kernel_rfl
  have k25 : Tryd.prog.cellsOf 23 = 4 := by kernel_rfl
  have k3 : Tryd.prog.cellsOf 3 = 1 := by kernel_rfl
  rw [k27] at hsz
  obtain ⟨l⟩ := cs
  clear hv
  match l, hsz with
  | [c0, c1, c2, c3, c4, c5, c6, c7, c8, c9, c10, c11, c12], _ =>
    obtain ⟨fuel, hf⟩ := h
    obtain ⟨y0, y1, y2, y3, n, hx, _, h0, h1, h2, h3⟩ := Joins.trod_struct4 Tryd.underlying25 hf
    rw [k25] at h0 h1 h2
    rw [k3] at h3
    obtain ⟨a0, a1, a2, a3, rfl, rfl, rfl, rfl, e0⟩ := trod_ints4 h0
    obtain ⟨l0, l1, l2, l3, rfl, rfl, rfl, rfl, e1⟩ := trod_ints4 h1
    obtain ⟨b0, b1, b2, b3, rfl, rfl, rfl, rfl, e2⟩ := trod_ints4 h2
    obtain ⟨dd, f1, f2, _⟩ := DataW.trod_int Tryd.underlying3 h3
    have f1' : [c12] = [Value.int .i64 dd] := f1
    obtain rfl : c12 = .int .i64 dd := by simpa using f1'
    refine ⟨⟨⟨ofFour a0 a1 a2 a3, ofFour l0 l1 l2 l3, ofFour b0 b1 b2 b3, dd⟩, rfl⟩, ?_⟩
    simp [e0, e1, e2, f2] at hx
    exact hx.2
theorem trod_struct5 {H : Type} {enc : TypeId × Value → H} {P : Program} {w : World} {base : Nat} {spare : Nat → Bool} {held : Bool} {t : TypeId} {f0 f1 f2 f3 f4 : Field} {fuel : Nat} {cs : List Value} {x : DataW H × List MemPlace} (ht : P.underlying t = some (.struct #[f0, f1, f2, f3, f4])) (h : DataW.trod enc P w base spare held fuel t cs = some x) :
    ∃ y0 y1 y2 y3 y4 n, x = (.agg [y0.1, y1.1, y2.1, y3.1, y4.1], y0.2 ++ (y1.2 ++ (y2.2 ++ (y3.2 ++ y4.2)))) ∧ cs.length = P.cellsOf t ∧ DataW.trod enc P w base spare held n f0.type ((cs.drop f0.offset).take (P.cellsOf f0.type)) = some y0 ∧
      DataW.trod enc P w base spare held n f1.type ((cs.drop f1.offset).take (P.cellsOf f1.type)) = some y1 ∧ DataW.trod enc P w base spare held n f2.type ((cs.drop f2.offset).take (P.cellsOf f2.type)) = some y2 ∧
      DataW.trod enc P w base spare held n f3.type ((cs.drop f3.offset).take (P.cellsOf f3.type)) = some y3 ∧ DataW.trod enc P w base spare held n f4.type ((cs.drop f4.offset).take (P.cellsOf f4.type)) = some y4 := by
  obtain ⟨xs, n, _, rfl, hl, hlen, hf⟩ := DataW.trod_struct ht h
  match xs, hlen with
  | [y0, y1, y2, y3, y4], _ => exact ⟨y0, y1, y2, y3, y4, n, by simp, hl, by simpa using hf 0 f0 rfl, by simpa using hf 1 f1 rfl, by simpa using hf 2 f2 rfl, by simpa using hf 3 f3 rfl, by simpa using hf 4 f4 rfl⟩
set_option maxRecDepth 20000
theorem opsAt_nil (w : World) (ao : Option Addr) : OpsAt w ao [] := ⟨by simp, by simp, fun h => by simp at h⟩
theorem reach_eq : reachBytes = 140737488351232 := rfl
theorem addr_add (b f : Nat) (n : Nat) : (⟨b, f, none⟩ : Addr).add n = ⟨b, f + n, none⟩ := by
  unfold Addr.add
  split
  · rename_i h; subst h; rfl
  · rfl
/-- Cells in a row, told by block and offset. -/
theorem cells_at {w : World} {b f n : Nat} {cs : List Value} (h : w.cells? 0 ⟨b, f, none⟩ n = some cs) (hn : 0 < n) : b < w.heap.size ∧ ∀ i v, cs[i]? = some v → w.cell? ⟨b, f + i, none⟩ = some v := by
  obtain ⟨_, hl, hc⟩ := World.cells?_some h
  refine ⟨World.cells?_block h hn, fun i v e => ?_⟩
  have hi : i < n := by
    rcases Nat.lt_or_ge i n with h | h
    · exact h
    · rw [List.getElem?_eq_none (by omega)] at e; cases e
  have := hc i hi
  rw [addr_add, e] at this
  exact this
theorem spot_none {w : World} {a : Addr} {n : Nat} {cs : List Value} (h : w.cells? 0 a n = some cs) (hn : 0 < n) : a = ⟨a.block, a.off, none⟩ := by
  obtain ⟨_, hl, hc⟩ := World.cells?_some h
  have h0 := hc 0 hn
  have ha : a.add 0 = a := by unfold Addr.add; simp
  rw [ha, List.getElem?_eq_getElem (by omega)] at h0
  obtain ⟨b, f, s⟩ := a
  cases s with
  | none => rfl
  | some s =>
    unfold World.cell? at h0
    split at h0
    · simp at h0
    · cases h0
theorem weightsAll_mem {H : Type} {P : Program} {e : TypeId} {d : DataW H} {n : Nat} : ∀ {l : List (DataW H)}, d ∈ l → n ∈ d.weights P e → n ∈ DataW.weightsAll P e l
  | x :: r, hd, hn => by
    unfold DataW.weightsAll
    rcases List.mem_cons.1 hd with rfl | hd
    · exact List.mem_append_left _ hn
    · exact List.mem_append_right _ (weightsAll_mem hd hn)
/-- One operation, out of its cells. -/
theorem open_o {H : Type} {enc : TypeId × Value → H} {W : World} {base fuel : Nat} {sp : Nat → Bool} {held : Bool} {cs : List Value} {y : DataW H × List MemPlace} (h : DataW.trod enc Tryd.prog W base sp held fuel 40 cs = some y) : ∃ o : O, o.Ok ∧ cs = [.int .i8 o.op, .int .u8 o.d, .int .u8 o.a, .int .u8 o.b, .int .i64 o.im] := by
  have k49 : Tryd.prog.cellsOf 40 = 5 := by kernel_rfl
  have k38 : Tryd.prog.cellsOf 38 = 1 := by kernel_rfl
  have k5 : Tryd.prog.cellsOf 5 = 1 := by kernel_rfl
  have k2 : Tryd.prog.cellsOf 2 = 1 := by kernel_rfl
  obtain ⟨y0, y1, y2, y3, y4, n, hx, hl, h0, h1, h2, h3, h4⟩ := trod_struct5 Tryd.underlying40 h
  rw [k49] at hl
  match cs, hl with
  | [c0, c1, c2, c3, c4], _ =>
    rw [k38] at h0
    rw [k5] at h1 h2 h3
    rw [k2] at h4
    obtain ⟨a, a1, a2, a3⟩ := DataW.trod_int Tryd.underlying38 h0
    obtain ⟨b, b1, b2, b3⟩ := DataW.trod_int Tryd.underlying5 h1
    obtain ⟨c, c1', c2', c3'⟩ := DataW.trod_int Tryd.underlying5 h2
    obtain ⟨e, e1, e2, e3⟩ := DataW.trod_int Tryd.underlying5 h3
    obtain ⟨g, g1, g2, g3⟩ := DataW.trod_int Tryd.underlying2 h4
    have a1' : [c0] = [Value.int .i8 a] := a1
    have b1' : [c1] = [Value.int .u8 b] := b1
    have c1'' : [c2] = [Value.int .u8 c] := c1'
    have e1' : [c3] = [Value.int .u8 e] := e1
    have g1' : [c4] = [Value.int .i64 g] := g1
    obtain rfl : c0 = .int .i8 a := by simpa using a1'
    obtain rfl : c1 = .int .u8 b := by simpa using b1'
    obtain rfl : c2 = .int .u8 c := by simpa using c1''
    obtain rfl : c3 = .int .u8 e := by simpa using e1'
    obtain rfl : c4 = .int .i64 g := by simpa using g1'
    have w0 := wf8 a3
    have w1 := wfu8 b3
    have w2 := wfu8 c3'
    have w3 := wfu8 e3
    have w4 := wf64 g3
    exact ⟨⟨a, b, c, e, g⟩, ⟨w0.1, w0.2, w1.1, w1.2, w2.1, w2.2, w3.1, w3.2, w4.1, w4.2⟩, rfl⟩
/-- A list of operations, out of its cell. -/
theorem open_list {H : Type} {enc : TypeId × Value → H} {W : World} {fuel : Nat} {held : Bool} {cs : List Value} {y : DataW H × List MemPlace} (h : DataW.trod enc Tryd.prog W 0 (fun _ => true) held fuel 22 cs = some y) (hw : ∀ n, n ∈ y.1.weights Tryd.prog 22 → n ≤ reachBytes) :
    ∃ (ao : Option Addr) (cap : Nat) (xs : List O), cs = [.slice ao xs.length cap] ∧ OpsAt W ao xs ∧ xs.length ≤ cap := by
  have k49 : Tryd.prog.cellsOf 40 = 5 := by kernel_rfl
  have b49 : Tryd.prog.bytesOf 40 = 16 := by kernel_rfl
  rcases Deep.open_slice Tryd.underlying22 h with ⟨rfl, rfl⟩ | ⟨a, len, cap, m, n, D, Pl, rfl, _, hlc, _, hm, rfl, hx⟩
  · exact ⟨none, 0, [], rfl, opsAt_nil _ _, by simp⟩
  · have hmc : m = cap := by simpa using hm
    subst hmc
    have hcap : m * 16 ≤ reachBytes := by
      refine hw _ ?_
      unfold DataW.weights
      simp only [Tryd.underlying22, b49]
      refine List.mem_cons.2 (.inl ?_)
      simp; omega
    rw [reach_eq] at hcap
    rw [k49] at hx
    haveI : Inhabited O := ⟨⟨0, 0, 0, 0, 0⟩⟩
    obtain ⟨X, hX⟩ := Deep.choose_lt (α := O) (n := len) (p := fun i o => o.Ok ∧ W.cells? 0 (a.add (i * 5)) 5 = some [.int .i8 o.op, .int .u8 o.d, .int .u8 o.a, .int .u8 o.b, .int .i64 o.im]) (fun i hi => by
      obtain ⟨cs', h1, h2⟩ := hx i (by omega)
      obtain ⟨o, ho, rfl⟩ := open_o h2
      exact ⟨o, ho, h1⟩)
    refine ⟨some a, m, (List.range len).map X, by simp, ⟨fun o ho => ?_, by simp; omega, fun h0 => ?_⟩, by simp; omega⟩
    · obtain ⟨i, hi, rfl⟩ := List.mem_map.1 ho
      exact (hX i (List.mem_range.1 hi)).1
    · have h0' : 0 < len := by simpa using h0
      have ha : a = ⟨a.block, a.off, none⟩ := by
        have := (hX 0 h0').2
        rw [show a.add (0 * 5) = a by unfold Addr.add; simp] at this
        exact spot_none this (by omega)
      refine ⟨a.block, a.off, by rw [← ha], ?_, fun i hi => ?_⟩
      · have := (hX 0 h0').2
        rw [ha, addr_add] at this
        exact (cells_at this (by omega)).1
      · have hi' : i < len := by simpa using hi
        have := (hX i hi').2
        rw [ha, addr_add] at this
        have hc := (cells_at this (by omega)).2
        simp only [List.getElem_map, List.getElem_range]
        exact ⟨hc 0 _ rfl, hc 1 _ rfl, hc 2 _ rfl, hc 3 _ rfl, hc 4 _ rfl⟩
theorem open_ops {H : Type} {enc : TypeId × Value → H} {W : World} {r : Reach} {b0 : Nat} {held : Bool} {v : Value} {d : DataW H} {p : List MemPlace} (hv : Value.okWide Tryd.prog W r b0 22 v) (h : DataW.Trod enc Tryd.prog W 0 (fun _ => true) held 22 v d p) (hw : ∀ n, n ∈ d.weights Tryd.prog 22 → n ≤ reachBytes) :
    ∃ (ao : Option Addr) (cap : Nat) (xs : List O), v = .slice ao xs.length cap ∧ OpsAt W ao xs ∧ xs.length ≤ cap := by
  obtain ⟨a, len, cap, rfl⟩ := okWide_slice Tryd.underlying22 hv
  obtain ⟨fuel, hf⟩ := h
  have hf' : DataW.trod enc Tryd.prog W 0 (fun _ => true) held fuel 22 [.slice a len cap] = some (d, p) := hf
  obtain ⟨ao, c, xs, e, h1, h2⟩ := open_list hf' hw
  exact ⟨ao, c, xs, by simpa using e, h1, h2⟩
end Go.Proofs.YtnckkhamkkaljaaDoor.Op

namespace Go.Proofs.YtnckkhamkkaljaaDoor.Lc
open Go.ChangeShapes Go.WideShapes Go.ChangeAt Go.RowKit
open _root_.Go.Proofs.YtnckkhamkkaljaaDoor.Op

set_option maxRecDepth 100000 in
theorem ltopg_wit (os : Os) (H : Type) (enc : TypeId × Value → H) : ∃ (w : World) (tape : Tape) (i : Input), w.os = os ∧ (w.forCall tape i).Shaped Tryd.prog ∧ i.vars = [] ∧ Input.okWide Tryd.prog (w.forCall tape i) .any w.heap.size 6 i ∧
      ((Rows.topGreedySpec.pre enc Tryd.prog Tryd.f6 [] false (w.forCall tape i).memory i.args ∧ laidMetH Tryd.prog Rows.topGreedyRow.laid (w.forCall tape i).memory) ∧ sizedMet enc Tryd.prog Tryd.f6 (OpenSpec.ofChange Rows.topGreedySpec) false (w.forCall tape i).memory i.args) ∧ Assume.holds {} Tryd.prog (lone (Frame.enter Tryd.prog 6 i.args .normal) [] (w.forCall tape i)) :=
  ChangeSpec.witness_shaped (enc := enc) (C := Tryd.checked) (os := os) (X := fun w _ => laidMetH Tryd.prog Rows.topGreedyRow.laid w) false ((World.holding Tryd.prog os ⟨#[], #[], []⟩).layVars Tryd.prog laid4) #[.slice none 0 0, .agg #[.int .i64 0, .int .i64 0, .int .i64 0, .int .i64 0, .int .i64 0, .int .i64 0, .int .i64 0, .int .i64 0, .int .i64 0, .int .i64 0, .int .i64 0, .int .i64 0, .int .i64 0]] 8 (wit_os4 os)
    (World.shaped_of_ZipB (by kernel_rfl) (by kernel_rfl)) (by kernel_rfl) (by kernel_rfl) (by kernel_rfl) (wit_met4 os _)

set_option maxRecDepth 100000 in
theorem ltopg_lifted (os : Os) (started : os.Started) (H : Type) (enc : TypeId × Value → H) :
    ReturnsInHanded {} Tryd.checked os 6 .any (fun w args => (Rows.topGreedySpec.pre enc Tryd.prog Tryd.f6 [] false w args ∧ laidMetH Tryd.prog Rows.topGreedyRow.laid w) ∧ sizedMet enc Tryd.prog Tryd.f6 (OpenSpec.ofChange Rows.topGreedySpec) false w args)
      (Rows.topGreedySpec.post enc Tryd.prog Tryd.f6 false true false false) := by
  refine wrap started (by kernel_rfl) Tryd.func6 (ltopg_wit os H enc) ?_
  intro W base args ds gs before hval0 hW hsz hL hsh
  have hval : ∀ (j : Nat) t v, Tryd.f6.params[j]? = some t → args[j]? = some v → Value.okWide Tryd.prog W .any base t v := hval0
  have hW' := hW
  obtain ⟨p, q, hA0, hV, rfl, _, _⟩ := hW
  have hA : DataW.TrodAll enc Tryd.prog W 0 (fun _ => true) true Tryd.f6.params.toList args.toList ds p := hA0
  rw [Tryd.params6] at hA hval hsz
  obtain ⟨v0, v1, d0, d1, p0, p1, rfl, rfl, rfl, h0, h1⟩ := trodAll_two hA
  obtain ⟨rfl, rfl⟩ := trodVars_none hV
  obtain ⟨ao, cap, xs, rfl, hp, hc⟩ := open_ops (hval 0 22 v0 rfl rfl) h0 fun n hn => by
    have := List.all_eq_true.1 hsz n (DataW.weights_mem_each (j := 0) rfl rfl n hn)
    simpa using this
  obtain ⟨⟨t, rfl⟩, rfl⟩ := open_tab (hval 1 25 v1 rfl rfl) h1
  simp only [List.append_nil] at hW'
  refine (Ls.law_topg ao cap xs t W hp hc (env4 hL hsh)).mono fun e W' ⟨he, hb⟩ => ?_
  subst he
  refine ⟨_, rfl, _, _, _, [], p0 ++ [], [], hW', trodAll_mk1 (shut_bool Tryd.underlying4 _), ?_, rfl, hb.frame _, fun h => by cases h⟩
  rw [Tryd.params6]
  exact trodAll_mk2 (Below.trod laidOut (by kernel_rfl) (by rw [tySize]; decide) h0 hb fun x hx => by obtain ⟨fuel, hf⟩ := h0; exact DataW.trod_lt _ _ _ _ hf x hx) (Below.trod laidOut (by kernel_rfl) (by rw [tySize]; decide) h1 hb (fun x hx => by cases hx))

theorem ltopg_row : Rows.TopGreedySaid :=
  OpenClaim.holds_of_wide 6 Tryd.f6 rfl rfl rfl rfl rfl rfl rfl ⟨rfl, rfl, rfl, rfl, rfl⟩ rfl rfl rfl rfl rfl (by kernel_rfl) Tryd.func6 (by kernel_rfl)
    (of_decide_eq_true (by kernel_rfl)) (by unfold Func.isWrapper; first | (rw [if_pos (by decide +kernel)]; kernel_rfl) | (rw [if_neg (by decide +kernel)]; exact ⟨rfl, rfl⟩))
    (fun os started H enc _ => ltopg_lifted os started H enc)

theorem ltopg_card : Rows.TopGreedyCardSaid :=
  Claim7.holds_tied_plain_at .later [] [.wider, .wider, .wider, .wider] true (true, "c07084858d27ea713fda486f4809b308d69d484b91a84cbd48a355e6ff8934d4") false ltopg_row (fun _ h => by cases h) (by kernel_rfl) (fun _ h => by cases h) topGreedy_row_tie rfl ⟨rfl, rfl⟩ (by kernel_rfl) rfl
    (fun f fn hf hfn => by
      obtain rfl : f = 6 := Option.some.inj ((show Tryd.prog.funcNamed "hayloft/haylofttop.TopGreedy" = some 6 by kernel_rfl).symm.trans hf) |>.symm
      obtain rfl : fn = Tryd.f6 := (Option.some.inj (Tryd.func6.symm.trans hfn)).symm
      exact ⟨by kernel_rfl, fun j t ht => by
        rw [Tryd.params6] at ht
        have hm : t ∈ [22, 25] := by simpa using Array.mem_of_getElem? ht
        have hall : ([22, 25].all fun u => !Tryd.prog.wantsStandIn u) = true := by kernel_rfl
        exact (show Tryd.prog.wantsStandIn t = false by simpa using List.all_eq_true.1 hall t hm)⟩)
    (by kernel_rfl)
#print axioms ltopg_card
end Go.Proofs.YtnckkhamkkaljaaDoor.Lc
