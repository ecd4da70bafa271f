/- The statement LiveMeans, whole: for any program of at most 300 operations, any of its blocks and any register, the register is live into the block just if some way from there reads it ahead of any operation that writes it; the listed variable is tied to the program's text. Conditions: none. -/
import Derived.Test.YtlinekpaffgcjaaDoorAl
import Derived.Test.YtlinekpaffgcjaaDoorAm
import Derived.Deep.RegionHeld3
import Derived.Test.YtlinekpaffgcjaaDoorPk
import Derived.Test.YtlinekpaffgcjaaDoorTie
import Derived.Test.YtlinekpaffgcjaaDoorCards
import Derived.ProofKit
import Derived.HandedShaped
import Derived.Shelf.Vars
import Derived.Lib.LaidU8
import Derived.Lay
import Derived.LaidHandle
import Derived.LaidLaws
import Derived.Stop.Joined
import Derived.RowKitTokens
import Derived.SevenTiedAt
import Derived.Carry
import Derived.ChangeMaps5
import Derived.Deep.Slices
import Derived.Lib.SmallJoins
import Derived.ChangeOld
import Derived.SizedLaws
namespace Go.Proofs.YtlinekpaffgcjaaDoor.Li
open Go.ChangeShapes Go.WideShapes Go.ChangeAt Go.RowKit Go.Maps
open _root_.Go.Proofs.YtlinekpaffgcjaaDoor.So _root_.Go.Proofs.YtlinekpaffgcjaaDoor.Op _root_.Go.Proofs.YtlinekpaffgcjaaDoor.Fl _root_.Go.Proofs.YtlinekpaffgcjaaDoor.Lv
set_option maxRecDepth 20000

theorem pls1 {w : World} {b B : Nat} {x : Lv.Pc} (h : Op.At w b #[.int .i64 (x.b : Int), .int .i64 (x.part : Int), .int .i64 (x.op : Int)]) (hB : B ≤ b) : Pls w B (some ⟨b, 0, none⟩) [x] := ⟨fun _ => ⟨b, rfl, hB, h.lt, fun i hi => by
  obtain rfl : i = 0 := by simp at hi; omega
  exact ⟨h.c 0 _ rfl, h.c 1 _ rfl, h.c 2 _ rfl⟩⟩⟩
theorem pls2 {w : World} {b B : Nat} {x y : Lv.Pc} (h : Op.At w b #[.int .i64 (x.b : Int), .int .i64 (x.part : Int), .int .i64 (x.op : Int), .int .i64 (y.b : Int), .int .i64 (y.part : Int), .int .i64 (y.op : Int)]) (hB : B ≤ b) : Pls w B (some ⟨b, 0, none⟩) [x, y] := ⟨fun _ => ⟨b, rfl, hB, h.lt, fun i hi => by
  have : i = 0 ∨ i = 1 := by simp at hi; omega
  rcases this with rfl | rfl
  · exact ⟨h.c 0 _ rfl, h.c 1 _ rfl, h.c 2 _ rfl⟩
  · exact ⟨h.c 3 _ rfl, h.c 4 _ rfl, h.c 5 _ rfl⟩⟩⟩
theorem pls0 (w : World) (B : Nat) (a : Option Addr) : Pls w B a [] := ⟨fun h => by simp at h⟩
set_option maxHeartbeats 1000000 in
theorem along_opsEnd (ao : Option Addr) (cap : Nat) (ps : List Bk) (g op : Nat) (r : Nat) (w : World) (h : PAt w ao ps) (hg : g < ps.length) (hop : ps[g].ops.length ≤ op) :
    Calls Tryd.prog 19 #[.agg #[.slice ao ps.length cap], .agg #[.int .i64 (g : Int), .int .i64 0, .int .i64 (op : Int)], .int .u8 (r : Int)] w fun e w' => Alg w w' e [⟨g, 1, 0⟩] false false := by
  obtain ⟨bp, fp, rfl, hblt, hx⟩ := h.is (by omega)
  obtain ⟨p, hp, hin⟩ := hx g hg
  have hgz : (g : Int) < (ps.length : Int) := by omega
  obtain ⟨c0, c1, c2, c3, c4, c5⟩ := hp
  generalize ps[g] = x at *
  clear h hx hin
  obtain ⟨oa, oc, ba, bc⟩ := p
  obtain ⟨xo, xf, xa, xb, xt, xe⟩ := x
  simp only at c0 c1 c2 c3 c4 c5 hop
  have hop' : ¬ (op : Int) < (xo.length : Int) := by omega
  have HV : Hid (Ab w (((w.alloc (.cells #[.slice (some ⟨bp, fp, none⟩) ps.length cap] 24)).alloc (.cells #[.int .i64 (g : Int), .int .i64 0, .int .i64 (op : Int)] 39)).alloc (.cells #[.slice oa xo.length oc, .int .i8 xf, .int .u8 xa, .slice ba xb.length bc, .int .i64 xt, .int .i64 xe] 47)) (some ⟨bp, fp, none⟩) cap ps g 0 op ⟨xo, xf, xa, xb, xt, xe⟩ ⟨oa, oc, ba, bc⟩) := Ab.mk' w (some ⟨bp, fp, none⟩) cap ps g 0 op ⟨xo, xf, xa, xb, xt, xe⟩ ⟨oa, oc, ba, bc⟩
  go_enter Tryd.func19, Tryd.ntmps19
  go_upto_region 2 with fail
  generalize ((w.alloc (.cells #[.slice (some ⟨bp, fp, none⟩) ps.length cap] 24)).alloc (.cells #[.int .i64 (g : Int), .int .i64 0, .int .i64 (op : Int)] 39)).alloc (.cells #[.slice oa xo.length oc, .int .i8 xf, .int .u8 xa, .slice ba xb.length bc, .int .i64 xt, .int .i64 xe] 47) = V at *
  have k0 := HV.out.a1.c 0 _ rfl
  have k1 := HV.out.a1.c 1 _ rfl
  have k2 := HV.out.a1.c 2 _ rfl
  have k3 := HV.out.a2.c 0 _ rfl
  have k4 := HV.out.a2.c 3 _ rfl
  have k5 := HV.out.a2.c 1 _ rfl
  have k6 := HV.out.a2.c 2 _ rfl
  have k7 := HV.out.a2.c 4 _ rfl
  have k8 := HV.out.a2.c 5 _ rfl
  have HB : Hid (Below w.heap.size w V) := HV.out.b
  clear HV c0 c1 c2 c3 c4 c5
  go_wp2_with fail
  refine bodyPost_ret (v := .tuple #[.slice (some ⟨V.heap.size, 0, none⟩) 1 1, .bool false, .bool false]) (by simp [results, Tryd.results19, go_sem]) rfl ?_
  exact ⟨some ⟨V.heap.size, 0, none⟩, 1, rfl, pls1 (x := ⟨g, 1, 0⟩) (Op.At.new V _ _) HB.out.size, HB.out.alloc HB.out.size _⟩
set_option maxHeartbeats 1000000 in
theorem along_bodyEnd (ao : Option Addr) (cap : Nat) (ps : List Bk) (g op : Nat) (r : Nat) (w : World) (h : PAt w ao ps) (hg : g < ps.length) (hop : ps[g].body.length ≤ op) :
    Calls Tryd.prog 19 #[.agg #[.slice ao ps.length cap], .agg #[.int .i64 (g : Int), .int .i64 2, .int .i64 (op : Int)], .int .u8 (r : Int)] w fun e w' => Alg w w' e [⟨g, 3, 0⟩] false false := by
  obtain ⟨bp, fp, rfl, hblt, hx⟩ := h.is (by omega)
  obtain ⟨p, hp, hin⟩ := hx g hg
  have hgz : (g : Int) < (ps.length : Int) := by omega
  obtain ⟨c0, c1, c2, c3, c4, c5⟩ := hp
  generalize ps[g] = x at *
  clear h hx hin
  obtain ⟨oa, oc, ba, bc⟩ := p
  obtain ⟨xo, xf, xa, xb, xt, xe⟩ := x
  simp only at c0 c1 c2 c3 c4 c5 hop
  have hop' : ¬ (op : Int) < (xb.length : Int) := by omega
  have HV : Hid (Ab w (((w.alloc (.cells #[.slice (some ⟨bp, fp, none⟩) ps.length cap] 24)).alloc (.cells #[.int .i64 (g : Int), .int .i64 2, .int .i64 (op : Int)] 39)).alloc (.cells #[.slice oa xo.length oc, .int .i8 xf, .int .u8 xa, .slice ba xb.length bc, .int .i64 xt, .int .i64 xe] 47)) (some ⟨bp, fp, none⟩) cap ps g 2 op ⟨xo, xf, xa, xb, xt, xe⟩ ⟨oa, oc, ba, bc⟩) := Ab.mk' w (some ⟨bp, fp, none⟩) cap ps g 2 op ⟨xo, xf, xa, xb, xt, xe⟩ ⟨oa, oc, ba, bc⟩
  go_enter Tryd.func19, Tryd.ntmps19
  go_upto_region 2 with fail
  generalize ((w.alloc (.cells #[.slice (some ⟨bp, fp, none⟩) ps.length cap] 24)).alloc (.cells #[.int .i64 (g : Int), .int .i64 2, .int .i64 (op : Int)] 39)).alloc (.cells #[.slice oa xo.length oc, .int .i8 xf, .int .u8 xa, .slice ba xb.length bc, .int .i64 xt, .int .i64 xe] 47) = V at *
  have k0 := HV.out.a1.c 0 _ rfl
  have k1 := HV.out.a1.c 1 _ rfl
  have k2 := HV.out.a1.c 2 _ rfl
  have k3 := HV.out.a2.c 0 _ rfl
  have k4 := HV.out.a2.c 3 _ rfl
  have k5 := HV.out.a2.c 1 _ rfl
  have k6 := HV.out.a2.c 2 _ rfl
  have k7 := HV.out.a2.c 4 _ rfl
  have k8 := HV.out.a2.c 5 _ rfl
  have HB : Hid (Below w.heap.size w V) := HV.out.b
  clear HV c0 c1 c2 c3 c4 c5
  go_wp2_with fail
  refine bodyPost_ret (v := .tuple #[.slice (some ⟨V.heap.size, 0, none⟩) 1 1, .bool false, .bool false]) (by simp [results, Tryd.results19, go_sem]) rfl ?_
  exact ⟨some ⟨V.heap.size, 0, none⟩, 1, rfl, pls1 (x := ⟨g, 3, 0⟩) (Op.At.new V _ _) HB.out.size, HB.out.alloc HB.out.size _⟩
set_option maxHeartbeats 1000000 in
theorem along_1_0 (ao : Option Addr) (cap : Nat) (ps : List Bk) (g op : Nat) (r : Nat) (w : World) (h : PAt w ao ps) (hg : g < ps.length) (hf : ps[g].fin = 0) (t : Nat) (ht : ps[g].thn = (t : Int)) :
    Calls Tryd.prog 19 #[.agg #[.slice ao ps.length cap], .agg #[.int .i64 (g : Int), .int .i64 1, .int .i64 (op : Int)], .int .u8 (r : Int)] w fun e w' => Alg w w' e [⟨t, 0, 0⟩] false false := by
  obtain ⟨bp, fp, rfl, hblt, hx⟩ := h.is (by omega)
  obtain ⟨p, hp, hin⟩ := hx g hg
  have hgz : (g : Int) < (ps.length : Int) := by omega
  obtain ⟨c0, c1, c2, c3, c4, c5⟩ := hp
  generalize ps[g] = x at *
  clear h hx hin
  obtain ⟨oa, oc, ba, bc⟩ := p
  obtain ⟨xo, xf, xa, xb, xt, xe⟩ := x
  simp only at c0 c1 c2 c3 c4 c5 hf ht
  subst hf
  subst ht
  have HV : Hid (Ab w (((w.alloc (.cells #[.slice (some ⟨bp, fp, none⟩) ps.length cap] 24)).alloc (.cells #[.int .i64 (g : Int), .int .i64 1, .int .i64 (op : Int)] 39)).alloc (.cells #[.slice oa xo.length oc, .int .i8 (0 : Int), .int .u8 xa, .slice ba xb.length bc, .int .i64 (t : Int), .int .i64 xe] 47)) (some ⟨bp, fp, none⟩) cap ps g 1 op ⟨xo, (0 : Int), xa, xb, (t : Int), xe⟩ ⟨oa, oc, ba, bc⟩) := Ab.mk' w (some ⟨bp, fp, none⟩) cap ps g 1 op ⟨xo, (0 : Int), xa, xb, (t : Int), xe⟩ ⟨oa, oc, ba, bc⟩
  go_enter Tryd.func19, Tryd.ntmps19
  go_upto_region 2 with fail
  generalize ((w.alloc (.cells #[.slice (some ⟨bp, fp, none⟩) ps.length cap] 24)).alloc (.cells #[.int .i64 (g : Int), .int .i64 1, .int .i64 (op : Int)] 39)).alloc (.cells #[.slice oa xo.length oc, .int .i8 (0 : Int), .int .u8 xa, .slice ba xb.length bc, .int .i64 (t : Int), .int .i64 xe] 47) = V at *
  have k0 := HV.out.a1.c 0 _ rfl
  have k1 := HV.out.a1.c 1 _ rfl
  have k2 := HV.out.a1.c 2 _ rfl
  have k3 := HV.out.a2.c 0 _ rfl
  have k4 := HV.out.a2.c 3 _ rfl
  have k5 := HV.out.a2.c 1 _ rfl
  have k6 := HV.out.a2.c 2 _ rfl
  have k7 := HV.out.a2.c 4 _ rfl
  have k8 := HV.out.a2.c 5 _ rfl
  have HB : Hid (Below w.heap.size w V) := HV.out.b
  clear HV c0 c1 c2 c3 c4 c5
  go_wp2_with fail
  refine bodyPost_ret (v := .tuple #[.slice (some ⟨V.heap.size, 0, none⟩) 1 1, .bool false, .bool false]) (by simp [results, Tryd.results19, go_sem]) rfl ?_
  exact ⟨some ⟨V.heap.size, 0, none⟩, 1, rfl, pls1 (x := ⟨t, 0, 0⟩) (Op.At.new V _ _) HB.out.size, HB.out.alloc HB.out.size _⟩
set_option maxHeartbeats 1000000 in
theorem along_1_1 (ao : Option Addr) (cap : Nat) (ps : List Bk) (g op : Nat) (r : Nat) (w : World) (h : PAt w ao ps) (hg : g < ps.length) (hf : ps[g].fin = 1) (t : Nat) (ht : ps[g].thn = (t : Int)) (u : Nat) (hu : ps[g].els = (u : Int)) (rb : Bool) (hrb : (ps[g].a == (r : Int)) = rb) :
    Calls Tryd.prog 19 #[.agg #[.slice ao ps.length cap], .agg #[.int .i64 (g : Int), .int .i64 1, .int .i64 (op : Int)], .int .u8 (r : Int)] w fun e w' => Alg w w' e [⟨t, 0, 0⟩, ⟨u, 0, 0⟩] rb false := by
  obtain ⟨bp, fp, rfl, hblt, hx⟩ := h.is (by omega)
  obtain ⟨p, hp, hin⟩ := hx g hg
  have hgz : (g : Int) < (ps.length : Int) := by omega
  obtain ⟨c0, c1, c2, c3, c4, c5⟩ := hp
  generalize ps[g] = x at *
  clear h hx hin
  obtain ⟨oa, oc, ba, bc⟩ := p
  obtain ⟨xo, xf, xa, xb, xt, xe⟩ := x
  simp only at c0 c1 c2 c3 c4 c5 hf ht hu hrb
  subst hf
  subst ht
  subst hu
  cases rb with
  | true =>
    have hre : xa = (r : Int) := by simpa using hrb
    subst hre
    have HV : Hid (Ab w (((w.alloc (.cells #[.slice (some ⟨bp, fp, none⟩) ps.length cap] 24)).alloc (.cells #[.int .i64 (g : Int), .int .i64 1, .int .i64 (op : Int)] 39)).alloc (.cells #[.slice oa xo.length oc, .int .i8 (1 : Int), .int .u8 (r : Int), .slice ba xb.length bc, .int .i64 (t : Int), .int .i64 (u : Int)] 47)) (some ⟨bp, fp, none⟩) cap ps g 1 op ⟨xo, (1 : Int), (r : Int), xb, (t : Int), (u : Int)⟩ ⟨oa, oc, ba, bc⟩) := Ab.mk' w (some ⟨bp, fp, none⟩) cap ps g 1 op ⟨xo, (1 : Int), (r : Int), xb, (t : Int), (u : Int)⟩ ⟨oa, oc, ba, bc⟩
    go_enter Tryd.func19, Tryd.ntmps19
    go_upto_region 2 with fail
    generalize ((w.alloc (.cells #[.slice (some ⟨bp, fp, none⟩) ps.length cap] 24)).alloc (.cells #[.int .i64 (g : Int), .int .i64 1, .int .i64 (op : Int)] 39)).alloc (.cells #[.slice oa xo.length oc, .int .i8 (1 : Int), .int .u8 (r : Int), .slice ba xb.length bc, .int .i64 (t : Int), .int .i64 (u : Int)] 47) = V at *
    have k0 := HV.out.a1.c 0 _ rfl
    have k1 := HV.out.a1.c 1 _ rfl
    have k2 := HV.out.a1.c 2 _ rfl
    have k3 := HV.out.a2.c 0 _ rfl
    have k4 := HV.out.a2.c 3 _ rfl
    have k5 := HV.out.a2.c 1 _ rfl
    have k6 := HV.out.a2.c 2 _ rfl
    have k7 := HV.out.a2.c 4 _ rfl
    have k8 := HV.out.a2.c 5 _ rfl
    have HB : Hid (Below w.heap.size w V) := HV.out.b
    clear HV c0 c1 c2 c3 c4 c5
    go_wp2_with fail
    refine bodyPost_ret (v := .tuple #[.slice (some ⟨V.heap.size, 0, none⟩) 2 2, .bool true, .bool false]) (by simp [results, Tryd.results19, go_sem]) rfl ?_
    exact ⟨some ⟨V.heap.size, 0, none⟩, 2, rfl, pls2 (x := ⟨t, 0, 0⟩) (y := ⟨u, 0, 0⟩) (Op.At.new V _ _) HB.out.size, HB.out.alloc HB.out.size _⟩
  | false =>
    have hre : ¬ xa = (r : Int) := by simpa using hrb
    have HV : Hid (Ab w (((w.alloc (.cells #[.slice (some ⟨bp, fp, none⟩) ps.length cap] 24)).alloc (.cells #[.int .i64 (g : Int), .int .i64 1, .int .i64 (op : Int)] 39)).alloc (.cells #[.slice oa xo.length oc, .int .i8 (1 : Int), .int .u8 xa, .slice ba xb.length bc, .int .i64 (t : Int), .int .i64 (u : Int)] 47)) (some ⟨bp, fp, none⟩) cap ps g 1 op ⟨xo, (1 : Int), xa, xb, (t : Int), (u : Int)⟩ ⟨oa, oc, ba, bc⟩) := Ab.mk' w (some ⟨bp, fp, none⟩) cap ps g 1 op ⟨xo, (1 : Int), xa, xb, (t : Int), (u : Int)⟩ ⟨oa, oc, ba, bc⟩
    go_enter Tryd.func19, Tryd.ntmps19
    go_upto_region 2 with fail
    generalize ((w.alloc (.cells #[.slice (some ⟨bp, fp, none⟩) ps.length cap] 24)).alloc (.cells #[.int .i64 (g : Int), .int .i64 1, .int .i64 (op : Int)] 39)).alloc (.cells #[.slice oa xo.length oc, .int .i8 (1 : Int), .int .u8 xa, .slice ba xb.length bc, .int .i64 (t : Int), .int .i64 (u : Int)] 47) = V at *
    have k0 := HV.out.a1.c 0 _ rfl
    have k1 := HV.out.a1.c 1 _ rfl
    have k2 := HV.out.a1.c 2 _ rfl
    have k3 := HV.out.a2.c 0 _ rfl
    have k4 := HV.out.a2.c 3 _ rfl
    have k5 := HV.out.a2.c 1 _ rfl
    have k6 := HV.out.a2.c 2 _ rfl
    have k7 := HV.out.a2.c 4 _ rfl
    have k8 := HV.out.a2.c 5 _ rfl
    have HB : Hid (Below w.heap.size w V) := HV.out.b
    clear HV c0 c1 c2 c3 c4 c5
    go_wp2_with fail
    refine bodyPost_ret (v := .tuple #[.slice (some ⟨V.heap.size, 0, none⟩) 2 2, .bool false, .bool false]) (by simp [results, Tryd.results19, go_sem]) rfl ?_
    exact ⟨some ⟨V.heap.size, 0, none⟩, 2, rfl, pls2 (x := ⟨t, 0, 0⟩) (y := ⟨u, 0, 0⟩) (Op.At.new V _ _) HB.out.size, HB.out.alloc HB.out.size _⟩
set_option maxHeartbeats 1000000 in
theorem along_1_2 (ao : Option Addr) (cap : Nat) (ps : List Bk) (g op : Nat) (r : Nat) (w : World) (h : PAt w ao ps) (hg : g < ps.length) (hf : ps[g].fin = 2) (rb : Bool) (hrb : (ps[g].a == (r : Int)) = rb) :
    Calls Tryd.prog 19 #[.agg #[.slice ao ps.length cap], .agg #[.int .i64 (g : Int), .int .i64 1, .int .i64 (op : Int)], .int .u8 (r : Int)] w fun e w' => Alg w w' e [] rb false := by
  obtain ⟨bp, fp, rfl, hblt, hx⟩ := h.is (by omega)
  obtain ⟨p, hp, hin⟩ := hx g hg
  have hgz : (g : Int) < (ps.length : Int) := by omega
  obtain ⟨c0, c1, c2, c3, c4, c5⟩ := hp
  generalize ps[g] = x at *
  clear h hx hin
  obtain ⟨oa, oc, ba, bc⟩ := p
  obtain ⟨xo, xf, xa, xb, xt, xe⟩ := x
  simp only at c0 c1 c2 c3 c4 c5 hf hrb
  subst hf
  cases rb with
  | true =>
    have hre : xa = (r : Int) := by simpa using hrb
    subst hre
    have HV : Hid (Ab w (((w.alloc (.cells #[.slice (some ⟨bp, fp, none⟩) ps.length cap] 24)).alloc (.cells #[.int .i64 (g : Int), .int .i64 1, .int .i64 (op : Int)] 39)).alloc (.cells #[.slice oa xo.length oc, .int .i8 (2 : Int), .int .u8 (r : Int), .slice ba xb.length bc, .int .i64 xt, .int .i64 xe] 47)) (some ⟨bp, fp, none⟩) cap ps g 1 op ⟨xo, (2 : Int), (r : Int), xb, xt, xe⟩ ⟨oa, oc, ba, bc⟩) := Ab.mk' w (some ⟨bp, fp, none⟩) cap ps g 1 op ⟨xo, (2 : Int), (r : Int), xb, xt, xe⟩ ⟨oa, oc, ba, bc⟩
    go_enter Tryd.func19, Tryd.ntmps19
    go_upto_region 2 with fail
    generalize ((w.alloc (.cells #[.slice (some ⟨bp, fp, none⟩) ps.length cap] 24)).alloc (.cells #[.int .i64 (g : Int), .int .i64 1, .int .i64 (op : Int)] 39)).alloc (.cells #[.slice oa xo.length oc, .int .i8 (2 : Int), .int .u8 (r : Int), .slice ba xb.length bc, .int .i64 xt, .int .i64 xe] 47) = V at *
    have k0 := HV.out.a1.c 0 _ rfl
    have k1 := HV.out.a1.c 1 _ rfl
    have k2 := HV.out.a1.c 2 _ rfl
    have k3 := HV.out.a2.c 0 _ rfl
    have k4 := HV.out.a2.c 3 _ rfl
    have k5 := HV.out.a2.c 1 _ rfl
    have k6 := HV.out.a2.c 2 _ rfl
    have k7 := HV.out.a2.c 4 _ rfl
    have k8 := HV.out.a2.c 5 _ rfl
    have HB : Hid (Below w.heap.size w V) := HV.out.b
    clear HV c0 c1 c2 c3 c4 c5
    go_wp2_with fail
    refine bodyPost_ret (v := .tuple #[.slice none 0 0, .bool true, .bool false]) (by simp [results, Tryd.results19, go_sem]) rfl ?_
    exact ⟨none, 0, rfl, pls0 _ _ _, HB.out⟩
  | false =>
    have hre : ¬ xa = (r : Int) := by simpa using hrb
    have HV : Hid (Ab w (((w.alloc (.cells #[.slice (some ⟨bp, fp, none⟩) ps.length cap] 24)).alloc (.cells #[.int .i64 (g : Int), .int .i64 1, .int .i64 (op : Int)] 39)).alloc (.cells #[.slice oa xo.length oc, .int .i8 (2 : Int), .int .u8 xa, .slice ba xb.length bc, .int .i64 xt, .int .i64 xe] 47)) (some ⟨bp, fp, none⟩) cap ps g 1 op ⟨xo, (2 : Int), xa, xb, xt, xe⟩ ⟨oa, oc, ba, bc⟩) := Ab.mk' w (some ⟨bp, fp, none⟩) cap ps g 1 op ⟨xo, (2 : Int), xa, xb, xt, xe⟩ ⟨oa, oc, ba, bc⟩
    go_enter Tryd.func19, Tryd.ntmps19
    go_upto_region 2 with fail
    generalize ((w.alloc (.cells #[.slice (some ⟨bp, fp, none⟩) ps.length cap] 24)).alloc (.cells #[.int .i64 (g : Int), .int .i64 1, .int .i64 (op : Int)] 39)).alloc (.cells #[.slice oa xo.length oc, .int .i8 (2 : Int), .int .u8 xa, .slice ba xb.length bc, .int .i64 xt, .int .i64 xe] 47) = V at *
    have k0 := HV.out.a1.c 0 _ rfl
    have k1 := HV.out.a1.c 1 _ rfl
    have k2 := HV.out.a1.c 2 _ rfl
    have k3 := HV.out.a2.c 0 _ rfl
    have k4 := HV.out.a2.c 3 _ rfl
    have k5 := HV.out.a2.c 1 _ rfl
    have k6 := HV.out.a2.c 2 _ rfl
    have k7 := HV.out.a2.c 4 _ rfl
    have k8 := HV.out.a2.c 5 _ rfl
    have HB : Hid (Below w.heap.size w V) := HV.out.b
    clear HV c0 c1 c2 c3 c4 c5
    go_wp2_with fail
    refine bodyPost_ret (v := .tuple #[.slice none 0 0, .bool false, .bool false]) (by simp [results, Tryd.results19, go_sem]) rfl ?_
    exact ⟨none, 0, rfl, pls0 _ _ _, HB.out⟩
set_option maxHeartbeats 1000000 in
theorem along_1_3 (ao : Option Addr) (cap : Nat) (ps : List Bk) (g op : Nat) (r : Nat) (w : World) (h : PAt w ao ps) (hg : g < ps.length) (hf : ps[g].fin = 3) (t : Nat) (ht : ps[g].thn = (t : Int)) (rb : Bool) (hrb : (ps[g].a == (r : Int)) = rb) :
    Calls Tryd.prog 19 #[.agg #[.slice ao ps.length cap], .agg #[.int .i64 (g : Int), .int .i64 1, .int .i64 (op : Int)], .int .u8 (r : Int)] w fun e w' => Alg w w' e [⟨g, 2, 0⟩, ⟨t, 0, 0⟩] rb false := by
  obtain ⟨bp, fp, rfl, hblt, hx⟩ := h.is (by omega)
  obtain ⟨p, hp, hin⟩ := hx g hg
  have hgz : (g : Int) < (ps.length : Int) := by omega
  obtain ⟨c0, c1, c2, c3, c4, c5⟩ := hp
  generalize ps[g] = x at *
  clear h hx hin
  obtain ⟨oa, oc, ba, bc⟩ := p
  obtain ⟨xo, xf, xa, xb, xt, xe⟩ := x
  simp only at c0 c1 c2 c3 c4 c5 hf ht hrb
  subst hf
  subst ht
  cases rb with
  | true =>
    have hre : xa = (r : Int) := by simpa using hrb
    subst hre
    have HV : Hid (Ab w (((w.alloc (.cells #[.slice (some ⟨bp, fp, none⟩) ps.length cap] 24)).alloc (.cells #[.int .i64 (g : Int), .int .i64 1, .int .i64 (op : Int)] 39)).alloc (.cells #[.slice oa xo.length oc, .int .i8 (3 : Int), .int .u8 (r : Int), .slice ba xb.length bc, .int .i64 (t : Int), .int .i64 xe] 47)) (some ⟨bp, fp, none⟩) cap ps g 1 op ⟨xo, (3 : Int), (r : Int), xb, (t : Int), xe⟩ ⟨oa, oc, ba, bc⟩) := Ab.mk' w (some ⟨bp, fp, none⟩) cap ps g 1 op ⟨xo, (3 : Int), (r : Int), xb, (t : Int), xe⟩ ⟨oa, oc, ba, bc⟩
    go_enter Tryd.func19, Tryd.ntmps19
    go_upto_region 2 with fail
    generalize ((w.alloc (.cells #[.slice (some ⟨bp, fp, none⟩) ps.length cap] 24)).alloc (.cells #[.int .i64 (g : Int), .int .i64 1, .int .i64 (op : Int)] 39)).alloc (.cells #[.slice oa xo.length oc, .int .i8 (3 : Int), .int .u8 (r : Int), .slice ba xb.length bc, .int .i64 (t : Int), .int .i64 xe] 47) = V at *
    have k0 := HV.out.a1.c 0 _ rfl
    have k1 := HV.out.a1.c 1 _ rfl
    have k2 := HV.out.a1.c 2 _ rfl
    have k3 := HV.out.a2.c 0 _ rfl
    have k4 := HV.out.a2.c 3 _ rfl
    have k5 := HV.out.a2.c 1 _ rfl
    have k6 := HV.out.a2.c 2 _ rfl
    have k7 := HV.out.a2.c 4 _ rfl
    have k8 := HV.out.a2.c 5 _ rfl
    have HB : Hid (Below w.heap.size w V) := HV.out.b
    clear HV c0 c1 c2 c3 c4 c5
    go_wp2_with fail
    refine bodyPost_ret (v := .tuple #[.slice (some ⟨V.heap.size, 0, none⟩) 2 2, .bool true, .bool false]) (by simp [results, Tryd.results19, go_sem]) rfl ?_
    exact ⟨some ⟨V.heap.size, 0, none⟩, 2, rfl, pls2 (x := ⟨g, 2, 0⟩) (y := ⟨t, 0, 0⟩) (Op.At.new V _ _) HB.out.size, HB.out.alloc HB.out.size _⟩
  | false =>
    have hre : ¬ xa = (r : Int) := by simpa using hrb
    have HV : Hid (Ab w (((w.alloc (.cells #[.slice (some ⟨bp, fp, none⟩) ps.length cap] 24)).alloc (.cells #[.int .i64 (g : Int), .int .i64 1, .int .i64 (op : Int)] 39)).alloc (.cells #[.slice oa xo.length oc, .int .i8 (3 : Int), .int .u8 xa, .slice ba xb.length bc, .int .i64 (t : Int), .int .i64 xe] 47)) (some ⟨bp, fp, none⟩) cap ps g 1 op ⟨xo, (3 : Int), xa, xb, (t : Int), xe⟩ ⟨oa, oc, ba, bc⟩) := Ab.mk' w (some ⟨bp, fp, none⟩) cap ps g 1 op ⟨xo, (3 : Int), xa, xb, (t : Int), xe⟩ ⟨oa, oc, ba, bc⟩
    go_enter Tryd.func19, Tryd.ntmps19
    go_upto_region 2 with fail
    generalize ((w.alloc (.cells #[.slice (some ⟨bp, fp, none⟩) ps.length cap] 24)).alloc (.cells #[.int .i64 (g : Int), .int .i64 1, .int .i64 (op : Int)] 39)).alloc (.cells #[.slice oa xo.length oc, .int .i8 (3 : Int), .int .u8 xa, .slice ba xb.length bc, .int .i64 (t : Int), .int .i64 xe] 47) = V at *
    have k0 := HV.out.a1.c 0 _ rfl
    have k1 := HV.out.a1.c 1 _ rfl
    have k2 := HV.out.a1.c 2 _ rfl
    have k3 := HV.out.a2.c 0 _ rfl
    have k4 := HV.out.a2.c 3 _ rfl
    have k5 := HV.out.a2.c 1 _ rfl
    have k6 := HV.out.a2.c 2 _ rfl
    have k7 := HV.out.a2.c 4 _ rfl
    have k8 := HV.out.a2.c 5 _ rfl
    have HB : Hid (Below w.heap.size w V) := HV.out.b
    clear HV c0 c1 c2 c3 c4 c5
    go_wp2_with fail
    refine bodyPost_ret (v := .tuple #[.slice (some ⟨V.heap.size, 0, none⟩) 2 2, .bool false, .bool false]) (by simp [results, Tryd.results19, go_sem]) rfl ?_
    exact ⟨some ⟨V.heap.size, 0, none⟩, 2, rfl, pls2 (x := ⟨g, 2, 0⟩) (y := ⟨t, 0, 0⟩) (Op.At.new V _ _) HB.out.size, HB.out.alloc HB.out.size _⟩
set_option maxHeartbeats 1000000 in
theorem along_3_0 (ao : Option Addr) (cap : Nat) (ps : List Bk) (g op : Nat) (r : Nat) (w : World) (h : PAt w ao ps) (hg : g < ps.length) (hf : ps[g].fin = 0) (t : Nat) (ht : ps[g].thn = (t : Int)) :
    Calls Tryd.prog 19 #[.agg #[.slice ao ps.length cap], .agg #[.int .i64 (g : Int), .int .i64 3, .int .i64 (op : Int)], .int .u8 (r : Int)] w fun e w' => Alg w w' e [⟨t, 0, 0⟩] false false := by
  obtain ⟨bp, fp, rfl, hblt, hx⟩ := h.is (by omega)
  obtain ⟨p, hp, hin⟩ := hx g hg
  have hgz : (g : Int) < (ps.length : Int) := by omega
  obtain ⟨c0, c1, c2, c3, c4, c5⟩ := hp
  generalize ps[g] = x at *
  clear h hx hin
  obtain ⟨oa, oc, ba, bc⟩ := p
  obtain ⟨xo, xf, xa, xb, xt, xe⟩ := x
  simp only at c0 c1 c2 c3 c4 c5 hf ht
  subst hf
  subst ht
  have HV : Hid (Ab w (((w.alloc (.cells #[.slice (some ⟨bp, fp, none⟩) ps.length cap] 24)).alloc (.cells #[.int .i64 (g : Int), .int .i64 3, .int .i64 (op : Int)] 39)).alloc (.cells #[.slice oa xo.length oc, .int .i8 (0 : Int), .int .u8 xa, .slice ba xb.length bc, .int .i64 (t : Int), .int .i64 xe] 47)) (some ⟨bp, fp, none⟩) cap ps g 3 op ⟨xo, (0 : Int), xa, xb, (t : Int), xe⟩ ⟨oa, oc, ba, bc⟩) := Ab.mk' w (some ⟨bp, fp, none⟩) cap ps g 3 op ⟨xo, (0 : Int), xa, xb, (t : Int), xe⟩ ⟨oa, oc, ba, bc⟩
  go_enter Tryd.func19, Tryd.ntmps19
  go_upto_region 2 with fail
  generalize ((w.alloc (.cells #[.slice (some ⟨bp, fp, none⟩) ps.length cap] 24)).alloc (.cells #[.int .i64 (g : Int), .int .i64 3, .int .i64 (op : Int)] 39)).alloc (.cells #[.slice oa xo.length oc, .int .i8 (0 : Int), .int .u8 xa, .slice ba xb.length bc, .int .i64 (t : Int), .int .i64 xe] 47) = V at *
  have k0 := HV.out.a1.c 0 _ rfl
  have k1 := HV.out.a1.c 1 _ rfl
  have k2 := HV.out.a1.c 2 _ rfl
  have k3 := HV.out.a2.c 0 _ rfl
  have k4 := HV.out.a2.c 3 _ rfl
  have k5 := HV.out.a2.c 1 _ rfl
  have k6 := HV.out.a2.c 2 _ rfl
  have k7 := HV.out.a2.c 4 _ rfl
  have k8 := HV.out.a2.c 5 _ rfl
  have HB : Hid (Below w.heap.size w V) := HV.out.b
  clear HV c0 c1 c2 c3 c4 c5
  go_wp2_with fail
  refine bodyPost_ret (v := .tuple #[.slice (some ⟨V.heap.size, 0, none⟩) 1 1, .bool false, .bool false]) (by simp [results, Tryd.results19, go_sem]) rfl ?_
  exact ⟨some ⟨V.heap.size, 0, none⟩, 1, rfl, pls1 (x := ⟨t, 0, 0⟩) (Op.At.new V _ _) HB.out.size, HB.out.alloc HB.out.size _⟩
set_option maxHeartbeats 1000000 in
theorem along_3_1 (ao : Option Addr) (cap : Nat) (ps : List Bk) (g op : Nat) (r : Nat) (w : World) (h : PAt w ao ps) (hg : g < ps.length) (hf : ps[g].fin = 1) (t : Nat) (ht : ps[g].thn = (t : Int)) (u : Nat) (hu : ps[g].els = (u : Int)) :
    Calls Tryd.prog 19 #[.agg #[.slice ao ps.length cap], .agg #[.int .i64 (g : Int), .int .i64 3, .int .i64 (op : Int)], .int .u8 (r : Int)] w fun e w' => Alg w w' e [⟨t, 0, 0⟩, ⟨u, 0, 0⟩] false false := by
  obtain ⟨bp, fp, rfl, hblt, hx⟩ := h.is (by omega)
  obtain ⟨p, hp, hin⟩ := hx g hg
  have hgz : (g : Int) < (ps.length : Int) := by omega
  obtain ⟨c0, c1, c2, c3, c4, c5⟩ := hp
  generalize ps[g] = x at *
  clear h hx hin
  obtain ⟨oa, oc, ba, bc⟩ := p
  obtain ⟨xo, xf, xa, xb, xt, xe⟩ := x
  simp only at c0 c1 c2 c3 c4 c5 hf ht hu
  subst hf
  subst ht
  subst hu
  have HV : Hid (Ab w (((w.alloc (.cells #[.slice (some ⟨bp, fp, none⟩) ps.length cap] 24)).alloc (.cells #[.int .i64 (g : Int), .int .i64 3, .int .i64 (op : Int)] 39)).alloc (.cells #[.slice oa xo.length oc, .int .i8 (1 : Int), .int .u8 xa, .slice ba xb.length bc, .int .i64 (t : Int), .int .i64 (u : Int)] 47)) (some ⟨bp, fp, none⟩) cap ps g 3 op ⟨xo, (1 : Int), xa, xb, (t : Int), (u : Int)⟩ ⟨oa, oc, ba, bc⟩) := Ab.mk' w (some ⟨bp, fp, none⟩) cap ps g 3 op ⟨xo, (1 : Int), xa, xb, (t : Int), (u : Int)⟩ ⟨oa, oc, ba, bc⟩
  go_enter Tryd.func19, Tryd.ntmps19
  go_upto_region 2 with fail
  generalize ((w.alloc (.cells #[.slice (some ⟨bp, fp, none⟩) ps.length cap] 24)).alloc (.cells #[.int .i64 (g : Int), .int .i64 3, .int .i64 (op : Int)] 39)).alloc (.cells #[.slice oa xo.length oc, .int .i8 (1 : Int), .int .u8 xa, .slice ba xb.length bc, .int .i64 (t : Int), .int .i64 (u : Int)] 47) = V at *
  have k0 := HV.out.a1.c 0 _ rfl
  have k1 := HV.out.a1.c 1 _ rfl
  have k2 := HV.out.a1.c 2 _ rfl
  have k3 := HV.out.a2.c 0 _ rfl
  have k4 := HV.out.a2.c 3 _ rfl
  have k5 := HV.out.a2.c 1 _ rfl
  have k6 := HV.out.a2.c 2 _ rfl
  have k7 := HV.out.a2.c 4 _ rfl
  have k8 := HV.out.a2.c 5 _ rfl
  have HB : Hid (Below w.heap.size w V) := HV.out.b
  clear HV c0 c1 c2 c3 c4 c5
  go_wp2_with fail
  refine bodyPost_ret (v := .tuple #[.slice (some ⟨V.heap.size, 0, none⟩) 2 2, .bool false, .bool false]) (by simp [results, Tryd.results19, go_sem]) rfl ?_
  exact ⟨some ⟨V.heap.size, 0, none⟩, 2, rfl, pls2 (x := ⟨t, 0, 0⟩) (y := ⟨u, 0, 0⟩) (Op.At.new V _ _) HB.out.size, HB.out.alloc HB.out.size _⟩
set_option maxHeartbeats 1000000 in
theorem along_3_2 (ao : Option Addr) (cap : Nat) (ps : List Bk) (g op : Nat) (r : Nat) (w : World) (h : PAt w ao ps) (hg : g < ps.length) (hf : ps[g].fin = 2) :
    Calls Tryd.prog 19 #[.agg #[.slice ao ps.length cap], .agg #[.int .i64 (g : Int), .int .i64 3, .int .i64 (op : Int)], .int .u8 (r : Int)] w fun e w' => Alg w w' e [] false false := by
  obtain ⟨bp, fp, rfl, hblt, hx⟩ := h.is (by omega)
  obtain ⟨p, hp, hin⟩ := hx g hg
  have hgz : (g : Int) < (ps.length : Int) := by omega
  obtain ⟨c0, c1, c2, c3, c4, c5⟩ := hp
  generalize ps[g] = x at *
  clear h hx hin
  obtain ⟨oa, oc, ba, bc⟩ := p
  obtain ⟨xo, xf, xa, xb, xt, xe⟩ := x
  simp only at c0 c1 c2 c3 c4 c5 hf
  subst hf
  have HV : Hid (Ab w (((w.alloc (.cells #[.slice (some ⟨bp, fp, none⟩) ps.length cap] 24)).alloc (.cells #[.int .i64 (g : Int), .int .i64 3, .int .i64 (op : Int)] 39)).alloc (.cells #[.slice oa xo.length oc, .int .i8 (2 : Int), .int .u8 xa, .slice ba xb.length bc, .int .i64 xt, .int .i64 xe] 47)) (some ⟨bp, fp, none⟩) cap ps g 3 op ⟨xo, (2 : Int), xa, xb, xt, xe⟩ ⟨oa, oc, ba, bc⟩) := Ab.mk' w (some ⟨bp, fp, none⟩) cap ps g 3 op ⟨xo, (2 : Int), xa, xb, xt, xe⟩ ⟨oa, oc, ba, bc⟩
  go_enter Tryd.func19, Tryd.ntmps19
  go_upto_region 2 with fail
  generalize ((w.alloc (.cells #[.slice (some ⟨bp, fp, none⟩) ps.length cap] 24)).alloc (.cells #[.int .i64 (g : Int), .int .i64 3, .int .i64 (op : Int)] 39)).alloc (.cells #[.slice oa xo.length oc, .int .i8 (2 : Int), .int .u8 xa, .slice ba xb.length bc, .int .i64 xt, .int .i64 xe] 47) = V at *
  have k0 := HV.out.a1.c 0 _ rfl
  have k1 := HV.out.a1.c 1 _ rfl
  have k2 := HV.out.a1.c 2 _ rfl
  have k3 := HV.out.a2.c 0 _ rfl
  have k4 := HV.out.a2.c 3 _ rfl
  have k5 := HV.out.a2.c 1 _ rfl
  have k6 := HV.out.a2.c 2 _ rfl
  have k7 := HV.out.a2.c 4 _ rfl
  have k8 := HV.out.a2.c 5 _ rfl
  have HB : Hid (Below w.heap.size w V) := HV.out.b
  clear HV c0 c1 c2 c3 c4 c5
  go_wp2_with fail
  refine bodyPost_ret (v := .tuple #[.slice none 0 0, .bool false, .bool false]) (by simp [results, Tryd.results19, go_sem]) rfl ?_
  exact ⟨none, 0, rfl, pls0 _ _ _, HB.out⟩
set_option maxHeartbeats 1000000 in
theorem along_3_3 (ao : Option Addr) (cap : Nat) (ps : List Bk) (g op : Nat) (r : Nat) (w : World) (h : PAt w ao ps) (hg : g < ps.length) (hf : ps[g].fin = 3) (t : Nat) (ht : ps[g].thn = (t : Int)) :
    Calls Tryd.prog 19 #[.agg #[.slice ao ps.length cap], .agg #[.int .i64 (g : Int), .int .i64 3, .int .i64 (op : Int)], .int .u8 (r : Int)] w fun e w' => Alg w w' e [⟨g, 2, 0⟩, ⟨t, 0, 0⟩] false false := by
  obtain ⟨bp, fp, rfl, hblt, hx⟩ := h.is (by omega)
  obtain ⟨p, hp, hin⟩ := hx g hg
  have hgz : (g : Int) < (ps.length : Int) := by omega
  obtain ⟨c0, c1, c2, c3, c4, c5⟩ := hp
  generalize ps[g] = x at *
  clear h hx hin
  obtain ⟨oa, oc, ba, bc⟩ := p
  obtain ⟨xo, xf, xa, xb, xt, xe⟩ := x
  simp only at c0 c1 c2 c3 c4 c5 hf ht
  subst hf
  subst ht
  have HV : Hid (Ab w (((w.alloc (.cells #[.slice (some ⟨bp, fp, none⟩) ps.length cap] 24)).alloc (.cells #[.int .i64 (g : Int), .int .i64 3, .int .i64 (op : Int)] 39)).alloc (.cells #[.slice oa xo.length oc, .int .i8 (3 : Int), .int .u8 xa, .slice ba xb.length bc, .int .i64 (t : Int), .int .i64 xe] 47)) (some ⟨bp, fp, none⟩) cap ps g 3 op ⟨xo, (3 : Int), xa, xb, (t : Int), xe⟩ ⟨oa, oc, ba, bc⟩) := Ab.mk' w (some ⟨bp, fp, none⟩) cap ps g 3 op ⟨xo, (3 : Int), xa, xb, (t : Int), xe⟩ ⟨oa, oc, ba, bc⟩
  go_enter Tryd.func19, Tryd.ntmps19
  go_upto_region 2 with fail
  generalize ((w.alloc (.cells #[.slice (some ⟨bp, fp, none⟩) ps.length cap] 24)).alloc (.cells #[.int .i64 (g : Int), .int .i64 3, .int .i64 (op : Int)] 39)).alloc (.cells #[.slice oa xo.length oc, .int .i8 (3 : Int), .int .u8 xa, .slice ba xb.length bc, .int .i64 (t : Int), .int .i64 xe] 47) = V at *
  have k0 := HV.out.a1.c 0 _ rfl
  have k1 := HV.out.a1.c 1 _ rfl
  have k2 := HV.out.a1.c 2 _ rfl
  have k3 := HV.out.a2.c 0 _ rfl
  have k4 := HV.out.a2.c 3 _ rfl
  have k5 := HV.out.a2.c 1 _ rfl
  have k6 := HV.out.a2.c 2 _ rfl
  have k7 := HV.out.a2.c 4 _ rfl
  have k8 := HV.out.a2.c 5 _ rfl
  have HB : Hid (Below w.heap.size w V) := HV.out.b
  clear HV c0 c1 c2 c3 c4 c5
  go_wp2_with fail
  refine bodyPost_ret (v := .tuple #[.slice (some ⟨V.heap.size, 0, none⟩) 2 2, .bool false, .bool false]) (by simp [results, Tryd.results19, go_sem]) rfl ?_
  exact ⟨some ⟨V.heap.size, 0, none⟩, 2, rfl, pls2 (x := ⟨g, 2, 0⟩) (y := ⟨t, 0, 0⟩) (Op.At.new V _ _) HB.out.size, HB.out.alloc HB.out.size _⟩
end Go.Proofs.YtlinekpaffgcjaaDoor.Li

namespace Go.Proofs.YtlinekpaffgcjaaDoor.Li
open Go.ChangeShapes Go.WideShapes Go.ChangeAt Go.RowKit Go.Maps
open _root_.Go.Proofs.YtlinekpaffgcjaaDoor.So _root_.Go.Proofs.YtlinekpaffgcjaaDoor.Op _root_.Go.Proofs.YtlinekpaffgcjaaDoor.Fl _root_.Go.Proofs.YtlinekpaffgcjaaDoor.Lv
set_option maxRecDepth 20000

theorem wr_eq (o : O) (ho : o.Ok) (r : Nat) : ((wOf o).wr == some r) = (wrB o && wrD o == (r : Int)) := by
  obtain ⟨_, _, hd, _⟩ := ho
  unfold wOf
  cases hw : wrB o with
  | false => simp
  | true =>
    have e : wrD o = o.d := by simp [wrD, hw]
    rw [e, Bool.eq_iff_iff]
    simp
    omega
theorem along_any (ao : Option Addr) (cap : Nat) (ps : List Bk) (x : Lv.Pc) (r : Nat) (w : World) (h : PAt w ao ps) (hc : ckP ps = 0) (hx : x.b < ps.length) (hp : x.part < 4) :
    Calls Tryd.prog 19 #[.agg #[.slice ao ps.length cap], pcv x, .int .u8 (r : Int)] w fun e w' => Alg w w' e (next (bOf ps[x.b]) x) (readAt (bOf ps[x.b]) x r) (wroteAt (bOf ps[x.b]) x r) := by
  have hok := psOk_of h ps[x.b] (List.getElem_mem hx)
  have he := end_of (ck_blocks hc _ (List.getElem_mem hx))
  obtain ⟨g, part, op⟩ := x
  simp only at hx hp hok he ⊢
  have hparts : part = 0 ∨ part = 2 ∨ part = 1 ∨ part = 3 := by omega
  rcases hparts with rfl | rfl | rfl | rfl
  · by_cases hl : op < ps[g].ops.length
    · have e1 : next (bOf ps[g]) ⟨g, 0, op⟩ = [⟨g, 0, op + 1⟩] := by simp [next, listOf, bOf, hl]
      have e2 : readAt (bOf ps[g]) ⟨g, 0, op⟩ r = (rdL ps[g].ops[op]).contains r := by simp [readAt, listOf, bOf, hl, wOf]
      have e3 : wroteAt (bOf ps[g]) ⟨g, 0, op⟩ r = (wrB ps[g].ops[op] && wrD ps[g].ops[op] == (r : Int)) := by
        rw [← wr_eq _ (hok.2.1 _ (List.getElem_mem hl))]
        simp [wroteAt, listOf, bOf, hl]
      rw [e1, e2, e3]
      exact along_ops ao cap ps g op r w h hx hl
    · have e1 : next (bOf ps[g]) ⟨g, 0, op⟩ = [⟨g, 1, 0⟩] := by simp [next, listOf, bOf, hl]
      have e2 : readAt (bOf ps[g]) ⟨g, 0, op⟩ r = false := by simp [readAt, listOf, bOf, List.getElem?_eq_none (Nat.le_of_not_lt hl)]
      have e3 : wroteAt (bOf ps[g]) ⟨g, 0, op⟩ r = false := by simp [wroteAt, listOf, bOf, List.getElem?_eq_none (Nat.le_of_not_lt hl)]
      rw [e1, e2, e3]
      exact along_opsEnd ao cap ps g op r w h hx (by omega)
  · by_cases hl : op < ps[g].body.length
    · have e1 : next (bOf ps[g]) ⟨g, 2, op⟩ = [⟨g, 2, op + 1⟩] := by simp [next, listOf, bOf, hl]
      have e2 : readAt (bOf ps[g]) ⟨g, 2, op⟩ r = (rdL ps[g].body[op]).contains r := by simp [readAt, listOf, bOf, hl, wOf]
      have e3 : wroteAt (bOf ps[g]) ⟨g, 2, op⟩ r = (wrB ps[g].body[op] && wrD ps[g].body[op] == (r : Int)) := by
        rw [← wr_eq _ (hok.2.2 _ (List.getElem_mem hl))]
        simp [wroteAt, listOf, bOf, hl]
      rw [e1, e2, e3]
      exact along_body ao cap ps g op r w h hx hl
    · have e1 : next (bOf ps[g]) ⟨g, 2, op⟩ = [⟨g, 3, 0⟩] := by simp [next, listOf, bOf, hl]
      have e2 : readAt (bOf ps[g]) ⟨g, 2, op⟩ r = false := by simp [readAt, listOf, bOf, List.getElem?_eq_none (Nat.le_of_not_lt hl)]
      have e3 : wroteAt (bOf ps[g]) ⟨g, 2, op⟩ r = false := by simp [wroteAt, listOf, bOf, List.getElem?_eq_none (Nat.le_of_not_lt hl)]
      rw [e1, e2, e3]
      exact along_bodyEnd ao cap ps g op r w h hx (by omega)
  · have ha0 := hok.1.a0
    have hre : ∀ a : Int, 0 ≤ a → (r == a.toNat) = (a == (r : Int)) := fun a ha => by rw [Bool.eq_iff_iff]; simp; omega
    have e3 : wroteAt (bOf ps[g]) ⟨g, 1, op⟩ r = false := rfl
    rw [e3]
    rcases end_fin he with hf | hf | hf | hf
    · have ht := end_thn he (by omega)
      have e1 : next (bOf ps[g]) ⟨g, 1, op⟩ = [⟨ps[g].thn.toNat, 0, 0⟩] := by simp [next, nextE, bOf, eOf, hf]
      have e2 : readAt (bOf ps[g]) ⟨g, 1, op⟩ r = false := by simp [readAt, E.own, bOf, eOf, hf]
      rw [e1, e2]
      exact along_1_0 ao cap ps g op r w h hx hf _ (by omega)
    · have ht := end_thn he (by omega)
      have hl := end_els he hf
      have e1 : next (bOf ps[g]) ⟨g, 1, op⟩ = [⟨ps[g].thn.toNat, 0, 0⟩, ⟨ps[g].els.toNat, 0, 0⟩] := by simp [next, nextE, bOf, eOf, hf]
      have e2 : readAt (bOf ps[g]) ⟨g, 1, op⟩ r = (ps[g].a == (r : Int)) := by rw [← hre _ ha0]; simp [readAt, E.own, bOf, eOf, hf]
      rw [e1, e2]
      exact along_1_1 ao cap ps g op r w h hx hf _ (by omega) _ (by omega) _ rfl
    · have e1 : next (bOf ps[g]) ⟨g, 1, op⟩ = [] := by simp [next, nextE, bOf, eOf, hf]
      have e2 : readAt (bOf ps[g]) ⟨g, 1, op⟩ r = (ps[g].a == (r : Int)) := by rw [← hre _ ha0]; simp [readAt, E.own, bOf, eOf, hf]
      rw [e1, e2]
      exact along_1_2 ao cap ps g op r w h hx hf _ rfl
    · have ht := end_thn he (by omega)
      have e1 : next (bOf ps[g]) ⟨g, 1, op⟩ = [⟨g, 2, 0⟩, ⟨ps[g].thn.toNat, 0, 0⟩] := by simp [next, nextE, bOf, eOf, hf]
      have e2 : readAt (bOf ps[g]) ⟨g, 1, op⟩ r = (ps[g].a == (r : Int)) := by rw [← hre _ ha0]; simp [readAt, E.own, bOf, eOf, hf]
      rw [e1, e2]
      exact along_1_3 ao cap ps g op r w h hx hf _ (by omega) _ rfl
  · have e3 : wroteAt (bOf ps[g]) ⟨g, 3, op⟩ r = false := rfl
    have e2 : readAt (bOf ps[g]) ⟨g, 3, op⟩ r = false := rfl
    rw [e3, e2]
    rcases end_fin he with hf | hf | hf | hf
    · have ht := end_thn he (by omega)
      have e1 : next (bOf ps[g]) ⟨g, 3, op⟩ = [⟨ps[g].thn.toNat, 0, 0⟩] := by simp [next, nextE, bOf, eOf, hf]
      rw [e1]
      exact along_3_0 ao cap ps g op r w h hx hf _ (by omega)
    · have ht := end_thn he (by omega)
      have hl := end_els he hf
      have e1 : next (bOf ps[g]) ⟨g, 3, op⟩ = [⟨ps[g].thn.toNat, 0, 0⟩, ⟨ps[g].els.toNat, 0, 0⟩] := by simp [next, nextE, bOf, eOf, hf]
      rw [e1]
      exact along_3_1 ao cap ps g op r w h hx hf _ (by omega) _ (by omega)
    · have e1 : next (bOf ps[g]) ⟨g, 3, op⟩ = [] := by simp [next, nextE, bOf, eOf, hf]
      rw [e1]
      exact along_3_2 ao cap ps g op r w h hx hf
    · have ht := end_thn he (by omega)
      have e1 : next (bOf ps[g]) ⟨g, 3, op⟩ = [⟨g, 2, 0⟩, ⟨ps[g].thn.toNat, 0, 0⟩] := by simp [next, nextE, bOf, eOf, hf]
      rw [e1]
      exact along_3_3 ao cap ps g op r w h hx hf _ (by omega)
/-- Places that there are. -/
def Vd (ps : List Bk) (x : Lv.Pc) : Prop := x.b < ps.length ∧ x.part < 4 ∧ x.op < 302
theorem len_ops {ps : List Bk} (ho : opsN ps ≤ 300) : ∀ x ∈ ps, x.ops.length ≤ 300 ∧ x.body.length ≤ 300 := fun x hx => by
  obtain ⟨i, hi, e⟩ := List.getElem_of_mem hx
  have h1 := sumTo_succ hi
  have h2 := sumTo_mono ps (ps.length - (i + 1)) (i + 1) (by omega)
  rw [show i + 1 + (ps.length - (i + 1)) = ps.length by omega] at h2
  rw [e] at h1
  unfold bkN at h1
  unfold opsN at ho
  omega
theorem next_vd {ps : List Bk} (hc : ckP ps = 0) (ho : opsN ps ≤ 300) {x : Lv.Pc} (hx : x.b < ps.length) (hv : Vd ps x) : ∀ y ∈ next (bOf ps[x.b]) x, Vd ps y := fun y hy => by
  have he := end_of (ck_blocks hc _ (List.getElem_mem hx))
  obtain ⟨l1, l2⟩ := len_ops ho _ (List.getElem_mem hx)
  obtain ⟨v1, v2, v3⟩ := hv
  obtain ⟨g, part, op⟩ := x
  simp only at *
  unfold next at hy
  simp only at hy
  split at hy
  · rename_i hpp
    split at hy
    · rename_i hlt
      have hlt' : op < 300 := by
        unfold listOf bOf at hlt
        split at hlt <;> simp at hlt <;> omega
      simp only [List.mem_singleton] at hy
      subst hy
      exact ⟨v1, v2, by simp; omega⟩
    · simp only [List.mem_singleton] at hy
      subst hy
      exact ⟨v1, by simp; omega, by simp⟩
  · have key : ∀ t, t ∈ (bOf ps[g]).e.succ → t < ps.length := fun t ht => by have := succ_lt he t ht; omega
    cases hE : (bOf ps[g]).e with
    | jump t => rw [hE] at hy key; simp only [nextE, List.mem_singleton] at hy; subst hy; exact ⟨key t (by simp [E.succ]), by simp, by simp⟩
    | branch a t e =>
      rw [hE] at hy key; simp only [nextE, List.mem_cons, List.not_mem_nil, or_false] at hy
      rcases hy with rfl | rfl
      · exact ⟨key t (by simp [E.succ]), by simp, by simp⟩
      · exact ⟨key e (by simp [E.succ]), by simp, by simp⟩
    | halt a => rw [hE] at hy; simp [nextE] at hy
    | loop a t =>
      rw [hE] at hy key; simp only [nextE, List.mem_cons, List.not_mem_nil, or_false] at hy
      rcases hy with rfl | rfl
      · exact ⟨v1, by simp, by simp⟩
      · exact ⟨key t (by simp [E.succ]), by simp, by simp⟩
theorem next_two (k : B) (x : Lv.Pc) : (next k x).length ≤ 2 := by
  unfold next
  split
  · split <;> simp
  · cases k.e <;> simp [nextE]
end Go.Proofs.YtlinekpaffgcjaaDoor.Li

namespace Go.Proofs.YtlinekpaffgcjaaDoor.Li
open Go.ChangeShapes Go.WideShapes Go.ChangeAt Go.RowKit Go.Maps
open _root_.Go.Proofs.YtlinekpaffgcjaaDoor.So _root_.Go.Proofs.YtlinekpaffgcjaaDoor.Op _root_.Go.Proofs.YtlinekpaffgcjaaDoor.Fl _root_.Go.Proofs.YtlinekpaffgcjaaDoor.Lv
set_option maxRecDepth 20000

theorem info39 : (Tryd.prog.info? 39).map (fun i => (i.zero, i.size, i.bytes)) = some (some (.agg #[.int .i64 0, .int .i64 0, .int .i64 0]), 3, 24) := by kernel_rfl
def pcl (xs : List Lv.Pc) : List Value := xs.flatMap pcs
theorem pcl_snoc (xs : List Lv.Pc) (y : Lv.Pc) : pcl (xs ++ [y]) = pcl xs ++ pcs y := by simp [pcl]
theorem pcl_cons (x : Lv.Pc) (xs : List Lv.Pc) : pcl (x :: xs) = .int .i64 (x.b : Int) :: .int .i64 (x.part : Int) :: .int .i64 (x.op : Int) :: pcl xs := rfl
theorem pcl_get (xs : List Lv.Pc) : ∀ (i : Nat) (h : i < xs.length), (pcl xs)[i * 3]? = some (.int .i64 (xs[i].b : Int)) ∧ (pcl xs)[i * 3 + 1]? = some (.int .i64 (xs[i].part : Int)) ∧ (pcl xs)[i * 3 + 2]? = some (.int .i64 (xs[i].op : Int)) := by
  induction xs with
  | nil => intro i h; simp at h
  | cons x xs ih =>
    intro i h
    rw [pcl_cons]
    cases i with
    | zero => exact ⟨rfl, rfl, rfl⟩
    | succ i =>
      have := ih i (by simpa using h)
      rw [show (i + 1) * 3 = i * 3 + 3 by omega]
      simpa [Nat.add_assoc] using this
/-- The row of places met, beside the program's box. -/
structure Sn (w wr : World) (ao : Option Addr) (cap : Nat) (ps : List Bk) (B : Nat) (v : Value) (seen : List Lv.Pc) : Prop where
  q : Bw w wr ao cap ps
  row : wr.ownsRow B 39 3 v seen.length (pcl seen)
  hB : w.heap.size < B
  le : B ≤ wr.heap.size
theorem Sn.up {w wr w' : World} {ao : Option Addr} {cap : Nat} {ps : List Bk} {B : Nat} {v : Value} {seen : List Lv.Pc} (h : Sn w wr ao cap ps B v seen) (hb : Below wr.heap.size wr w') : Sn w w' ao cap ps B v seen := ⟨h.q.up hb, row_below' h.row hb, h.hB, Nat.le_trans h.le hb.size⟩
theorem Sn.put {w wr w4 : World} {ao : Option Addr} {cap : Nat} {ps : List Bk} {B : Nat} {v v4 : Value} {seen : List Lv.Pc} {y : Lv.Pc} {o : Obj} (h : Sn w wr ao cap ps B v seen) (ho : w4.ownsRow B 39 3 v4 (seen.length + 1) (pcl seen ++ pcs y)) (hg : (wr.alloc o).grownBy w4 v.ownBlock) : Sn w w4 ao cap ps B v4 (seen ++ [y]) := by
  have hle := h.le
  have hB := h.hB
  have hb : Below B wr w4 := ((Below.refl _ _).alloc h.le o).grown hg (by simp; omega) (fun b hb => (h.row.lt b hb).1)
  refine ⟨⟨h.q.a.below hb hB, h.q.b.trans (hb.mono (by omega))⟩, ?_, hB, Nat.le_trans hle hb.size⟩
  rw [List.length_append, pcl_snoc]; exact ho
theorem Sn.cells {w wr : World} {ao : Option Addr} {cap : Nat} {ps : List Bk} {B : Nat} {v : Value} {seen : List Lv.Pc} (h : Sn w wr ao cap ps B v seen) (h0 : 0 < seen.length) : ∃ g c, v = .slice (some ⟨g, 0, none⟩) seen.length c ∧ B ≤ g ∧ g < wr.heap.size ∧ ∀ (i : Nat) (hi : i < seen.length), wr.cell? ⟨g, i * 3, none⟩ = some (.int .i64 (seen[i].b : Int)) ∧ wr.cell? ⟨g, i * 3 + 1, none⟩ = some (.int .i64 (seen[i].part : Int)) ∧ wr.cell? ⟨g, i * 3 + 2, none⟩ = some (.int .i64 (seen[i].op : Int)) := by
  obtain ⟨g, c, e, hg, hlt⟩ := h.row.form h0
  have hrow := h.row
  rw [e] at hrow
  have hc := hrow.cells (g := g) rfl
  refine ⟨g, c, e, hg, hlt, fun i hi => ?_⟩
  obtain ⟨g0, g1, g2⟩ := pcl_get seen i hi
  have k : ∀ j u, (pcl seen)[j]? = some u → wr.cell? ⟨g, j, none⟩ = some u := fun j u hj => by
    have := hc j u hj
    rw [add_at] at this
    simpa using this
  exact ⟨k _ _ g0, k _ _ g1, k _ _ g2⟩
/-- The search, as far as it goes. -/
structure Sp (ps : List Bk) (r : Nat) (st : Lv.Pc) (seen : List Lv.Pc) (k : Nat) (found : Bool) : Prop where
  nd : seen.Nodup
  vd : ∀ x ∈ seen, Vd ps x
  le : k ≤ seen.length
  pos : 0 < seen.length
  t : found = true → Lv.At (PB ps) r st
  f : found = false → Bf (PB ps) r st seen k
theorem Sp.len {ps : List Bk} {r : Nat} {st : Lv.Pc} {seen : List Lv.Pc} {k : Nat} {found : Bool} (h : Sp ps r st seen k found) (hn : ps.length ≤ 128) : seen.length ≤ 154624 := by
  have := places h.nd h.vd
  have h2 : ps.length * 4 * 302 ≤ 128 * 4 * 302 := by omega
  omega
theorem Sp.init {ps : List Bk} {r : Nat} {st : Lv.Pc} (hv : Vd ps st) : Sp ps r st [st] 0 false :=
  ⟨by simp, fun x hx => by simp at hx; exact hx ▸ hv, by simp, by simp, fun h => (by cases h), fun _ => Bf.init _ _ _⟩
/-- One place is looked at: its next ones are met, the first j of them. -/
structure Sq (ps : List Bk) (r : Nat) (st : Lv.Pc) (seen : List Lv.Pc) (k : Nat) (x : Lv.Pc) (nx : List Lv.Pc) (rd : Bool) (j : Nat) : Prop where
  nd : seen.Nodup
  vd : ∀ x ∈ seen, Vd ps x
  at' : seen[k]? = some x
  t : rd = true → Lv.At (PB ps) r st
  f : rd = false → Bf (PB ps) r st seen k ∧ ∀ y ∈ nx.take j, y ∈ seen
theorem Sp.look {ps : List Bk} {r : Nat} {st : Lv.Pc} {seen : List Lv.Pc} {k : Nat} (h : Sp ps r st seen k false) (hk : k < seen.length) (hb : seen[k].b < ps.length) (nx : List Lv.Pc) : Sq ps r st seen k seen[k] nx (readAt (bOf ps[seen[k].b]) seen[k] r) 0 := by
  refine ⟨h.nd, h.vd, List.getElem?_eq_getElem hk, fun hr => ?_, fun _ => ⟨h.f rfl, fun y hy => by simp at hy⟩⟩
  exact (h.f rfl).found (List.getElem?_eq_getElem hk) (pb_at hb) hr
/-- A next place is there already, or is met now. -/
theorem Sq.skip {ps : List Bk} {r : Nat} {st x y : Lv.Pc} {seen nx : List Lv.Pc} {k j : Nat} {rd : Bool} (h : Sq ps r st seen k x nx rd j) (hj : j < nx.length) (hy : nx[j] = y) (hm : y ∈ seen) : Sq ps r st seen k x nx rd (j + 1) :=
  ⟨h.nd, h.vd, h.at', h.t, fun hr => ⟨(h.f hr).1, fun z hz => by
    rw [List.take_succ_eq_append_getElem hj, List.mem_append, List.mem_singleton] at hz
    rcases hz with hz | hz
    · exact (h.f hr).2 z hz
    · rw [hz, hy]; exact hm⟩⟩
theorem Sq.meet {ps : List Bk} {r : Nat} {st x y : Lv.Pc} {seen nx : List Lv.Pc} {k j : Nat} {rd : Bool} (h : Sq ps r st seen k x nx rd j) (hj : j < nx.length) (hy : nx[j] = y) (hm : y ∉ seen) (hv : Vd ps y) (hb : x.b < ps.length) (hn : nx = next (bOf ps[x.b]) x) (hw : wroteAt (bOf ps[x.b]) x r = false) : Sq ps r st (seen ++ [y]) k x nx rd (j + 1) := by
  have hk := (List.getElem?_eq_some_iff.1 h.at').1
  refine ⟨?_, fun z hz => ?_, by rw [List.getElem?_append_left hk]; exact h.at', h.t, fun hr => ?_⟩
  · rw [List.nodup_append]
    exact ⟨h.nd, by simp, fun a ha b hb e => by simp at hb; subst hb; subst e; exact hm ha⟩
  · rcases List.mem_append.1 hz with hz | hz
    · exact h.vd z hz
    · simp at hz; exact hz ▸ hv
  · have h1 := (h.f hr).1
    refine ⟨?_, fun z hz => ?_⟩
    · have := Bf.meet (seen := seen) (more := []) (by simpa using h1) (x := x) (y := y) (by simpa using List.mem_of_getElem? h.at') (pb_at hb) hw (by rw [← hn, ← hy]; exact List.getElem_mem hj)
      simpa using this
    · rw [List.take_succ_eq_append_getElem hj, List.mem_append, List.mem_singleton] at hz
      rcases hz with hz | hz
      · exact List.mem_append_left _ ((h.f hr).2 z hz)
      · rw [hz, hy]; simp
/-- All next places are met, or the register is written there. -/
theorem Sq.done {ps : List Bk} {r : Nat} {st x : Lv.Pc} {seen nx : List Lv.Pc} {k j : Nat} {rd : Bool} (h : Sq ps r st seen k x nx rd j) (hb : x.b < ps.length) (hn : nx = next (bOf ps[x.b]) x) (hrd : rd = readAt (bOf ps[x.b]) x r) (hj : j = nx.length ∨ wroteAt (bOf ps[x.b]) x r = true) : Sp ps r st seen (k + 1) rd := by
  have hk := (List.getElem?_eq_some_iff.1 h.at').1
  refine ⟨h.nd, h.vd, hk, by omega, h.t, fun hr => ?_⟩
  refine (h.f hr).1.turn h.at' (pb_at hb) (by rw [← hrd]; exact hr) fun hw y hy => ?_
  rcases hj with hj | hj
  · refine (h.f hr).2 y ?_
    rw [hj, List.take_length, hn]; exact hy
  · rw [hw] at hj; cases hj
end Go.Proofs.YtlinekpaffgcjaaDoor.Li

namespace Go.Proofs.YtlinekpaffgcjaaDoor.Li
open Go.ChangeShapes Go.WideShapes Go.ChangeAt Go.RowKit Go.Maps
open _root_.Go.Proofs.YtlinekpaffgcjaaDoor.So _root_.Go.Proofs.YtlinekpaffgcjaaDoor.Op _root_.Go.Proofs.YtlinekpaffgcjaaDoor.Fl _root_.Go.Proofs.YtlinekpaffgcjaaDoor.Lv
set_option maxRecDepth 20000

set_option maxHeartbeats 1000000 in
theorem means_wake (ao : Option Addr) (cap : Nat) (ps : List Bk) (block : Int) (r : Nat) (w : World) (h : PAt w ao ps) (he : Env w) (hn : ckP ps ≠ 0 ∨ 300 < opsN ps ∨ block < 0 ∨ (ps.length : Int) ≤ block ∨ 32 ≤ r) :
    Calls Tryd.prog 4 #[.agg #[.slice ao ps.length cap], .int .i64 block, .int .u8 (r : Int)] w fun e w' => e = .returned (.bool true) ∧ Below w.heap.size w w' := by
  have HQ : Hid (Bw w (w.alloc (.cells #[.slice ao ps.length cap] 24)) ao cap ps) := Bw.new w ao cap ps
  have HC : Hid (∀ W, Bw w W ao cap ps → Calls Tryd.prog 7 #[.agg #[.slice ao ps.length cap]] W fun e w' => e = .returned (.int .i64 (ckP ps)) ∧ Below W.heap.size W w') := fun W hb => checkP_any ao cap ps W (h.below hb.b) (he.up hb.b)
  have HK : Hid (∀ W, Bw w W ao cap ps → Calls Tryd.prog 9 #[] W fun e w' => e = .returned (.bool true) ∧ Below W.heap.size W w') := fun W hb => wakes_any W (he.up hb.b)
  by_cases hc : ckP ps = 0
  · rw [hc] at HC
    have HO : Hid (∀ W, Bw w W ao cap ps → Calls Tryd.prog 8 #[.agg #[.slice ao ps.length cap]] W fun e w' => e = .returned (.int .i64 ((opsN ps : Nat) : Int)) ∧ Below W.heap.size W w') := fun W hb => ops_any ao cap ps W (h.below hb.b) (len_le hc)
    have hn' : 300 < opsN ps ∨ block < 0 ∨ (ps.length : Int) ≤ block ∨ 32 ≤ r := by rcases hn with h | h; exact absurd hc h; exact h
    clear h he hc hn
    generalize opsN ps = on at *
    by_cases h1 : 300 < on
    · have h1' : (300 : Int) < (on : Int) := by omega
      clear hn'
      go_enter Tryd.func4, Tryd.ntmps4
      go_wp2_with (first
        | (go_at_call 7; refine Calls.mono (HC.out _ HQ.out) ?_; rintro e w1 ⟨rfl, hb⟩; have H1 : Hid _ := HQ.out.up hb; have cb := H1.out.cell; clear hb HQ HC)
        | (go_at_call 8; refine Calls.mono (HO.out _ H1.out) ?_; rintro e w2 ⟨rfl, hb⟩; have H2 : Hid _ := H1.out.up hb; clear hb H1 HO cb)
        | (go_at_call 9; refine Calls.mono (HK.out _ H2.out) ?_; rintro e w3 ⟨rfl, hb⟩; have H3 : Hid _ := H2.out.up hb; clear hb H2 HK))
      go_ret
      exact ⟨rfl, H3.out.b⟩
    · have h1' : ¬ (300 : Int) < (on : Int) := by omega
      by_cases h2 : block < 0
      · clear hn'
        go_enter Tryd.func4, Tryd.ntmps4
        go_wp2_with (first
          | (go_at_call 7; refine Calls.mono (HC.out _ HQ.out) ?_; rintro e w1 ⟨rfl, hb⟩; have H1 : Hid _ := HQ.out.up hb; have cb := H1.out.cell; clear hb HQ HC)
          | (go_at_call 8; refine Calls.mono (HO.out _ H1.out) ?_; rintro e w2 ⟨rfl, hb⟩; have H2 : Hid _ := H1.out.up hb; clear hb H1 HO cb)
          | (go_at_call 9; refine Calls.mono (HK.out _ H2.out) ?_; rintro e w3 ⟨rfl, hb⟩; have H3 : Hid _ := H2.out.up hb; clear hb H2 HK))
        go_ret
        exact ⟨rfl, H3.out.b⟩
      · by_cases h3 : (ps.length : Int) ≤ block
        · clear hn'
          go_enter Tryd.func4, Tryd.ntmps4
          go_wp2_with (first
            | (go_at_call 7; refine Calls.mono (HC.out _ HQ.out) ?_; rintro e w1 ⟨rfl, hb⟩; have H1 : Hid _ := HQ.out.up hb; have cb := H1.out.cell; clear hb HQ HC)
            | (go_at_call 8; refine Calls.mono (HO.out _ H1.out) ?_; rintro e w2 ⟨rfl, hb⟩; have H2 : Hid _ := H1.out.up hb; have cb2 := H2.out.cell; clear hb H1 HO cb)
            | (go_at_call 9; refine Calls.mono (HK.out _ H2.out) ?_; rintro e w3 ⟨rfl, hb⟩; have H3 : Hid _ := H2.out.up hb; clear hb H2 HK))
          go_ret
          exact ⟨rfl, H3.out.b⟩
        · have h4 : (32 : Int) ≤ (r : Int) := by omega
          have h5 : ¬ (ps.length : Int) ≤ block := h3
          clear hn'
          go_enter Tryd.func4, Tryd.ntmps4
          go_wp2_with (first
            | (go_at_call 7; refine Calls.mono (HC.out _ HQ.out) ?_; rintro e w1 ⟨rfl, hb⟩; have H1 : Hid _ := HQ.out.up hb; have cb := H1.out.cell; clear hb HQ HC)
            | (go_at_call 8; refine Calls.mono (HO.out _ H1.out) ?_; rintro e w2 ⟨rfl, hb⟩; have H2 : Hid _ := H1.out.up hb; have cb2 := H2.out.cell; clear hb H1 HO cb)
            | (go_at_call 9; refine Calls.mono (HK.out _ H2.out) ?_; rintro e w3 ⟨rfl, hb⟩; have H3 : Hid _ := H2.out.up hb; clear hb H2 HK))
          go_ret
          exact ⟨rfl, H3.out.b⟩
  · generalize ckP ps = z at *
    clear h he hn
    go_enter Tryd.func4, Tryd.ntmps4
    go_wp2_with (first
      | (go_at_call 7; refine Calls.mono (HC.out _ HQ.out) ?_; rintro e w1 ⟨rfl, hb⟩; have H1 : Hid _ := HQ.out.up hb; clear hb HQ HC)
      | (go_at_call 9; refine Calls.mono (HK.out _ H1.out) ?_; rintro e w3 ⟨rfl, hb⟩; have H3 : Hid _ := H1.out.up hb; clear hb H1 HK))
    go_ret
    exact ⟨rfl, H3.out.b⟩
theorem bit_and {x r : Nat} (hx : x < 4294967296) : bits .and .u32 ((x : Int) / 2 ^ r) 1 = if x.testBit r then 1 else 0 := by
  have e : ((x : Int) / 2 ^ r) = ((x / 2 ^ r : Nat) : Int) := by simp
  have h1 : x / 2 ^ r < 4294967296 := Nat.lt_of_le_of_lt (Nat.div_le_self _ _) hx
  rw [e]
  have := u32_and_nat (x / 2 ^ r) 1 h1 (by decide)
  rw [show ((1 : Nat) : Int) = 1 from rfl] at this
  rw [this, Nat.and_one_is_mod, Nat.testBit_eq_decide_div_mod_eq]
  by_cases h : x / 2 ^ r % 2 = 1
  · simp [h]
  · have h0 : x / 2 ^ r % 2 = 0 := by omega
    simp [h0]
theorem Sn.start {w w2 : World} {ao : Option Addr} {cap : Nat} {ps : List Bk} (h : Bw w w2 ao cap ps) (g : Nat) : Sn w (w2.alloc (.cells #[.int .i64 (g : Int), .int .i64 0, .int .i64 0] 39)) ao cap ps w2.heap.size (.slice (some ⟨w2.heap.size, 0, none⟩) 1 1) [⟨g, 0, 0⟩] :=
  ⟨h.up (below_al _), ⟨rfl, .inr ⟨w2.heap.size, 1, #[.int .i64 (g : Int), .int .i64 0, .int .i64 0], rfl, Nat.le_refl _, heap_alloc_new w2 _, Nat.le_refl _, by unfold maxLen; omega, rfl, rfl⟩⟩, h.a.lt, by simp⟩
/-- The row is none of the list's block. -/
def Nb (v : Value) (a : Option Addr) (n : Nat) : Prop := 0 < n → ∀ b, a = some ⟨b, 0, none⟩ → v.ownBlock ≠ some b
/-- What the search has come to: the register's bit. -/
structure Fd (ps : List Bk) (g r : Nat) (found : Bool) : Prop where
  t : found = true → Lv.At (PB ps) r ⟨g, 0, 0⟩
  f : found = false → ¬ Lv.At (PB ps) r ⟨g, 0, 0⟩
theorem Fd.bit {ps : List Bk} {g r : Nat} {found : Bool} {xs : List Nat} (h : Fd ps g r found) (hok : PsOk ps) (hc : ckP ps = 0) (hI : IsIn ps xs) : (inN xs g).testBit r = found := by
  have hb := (hI.yes hc).1.done (pb_small hc hok) (hI.yes hc).2 g r
  rw [← at_iff] at hb
  cases found with
  | true => exact hb.2 (h.t rfl)
  | false =>
    cases hx : (inN xs g).testBit r with
    | false => rfl
    | true => exact absurd (hb.1 hx) (h.f rfl)
theorem Sp.fd {ps : List Bk} {g r : Nat} {seen : List Lv.Pc} {k : Nat} {found : Bool} (h : Sp ps r ⟨g, 0, 0⟩ seen k found) (hk : found = false → k = seen.length) : Fd ps g r found :=
  ⟨h.t, fun hf => by have := h.f hf; rw [hk hf] at this; exact this.done⟩
theorem Pls.grown {wt w8 : World} {B bn : Nat} {xs : List Lv.Pc} {o : Obj} {own : Option Nat} (h : Pls wt B (some ⟨bn, 0, none⟩) xs) (hg : (wt.alloc o).grownBy w8 own) (hne : own ≠ some bn) : Pls w8 B (some ⟨bn, 0, none⟩) xs := ⟨fun h0 => by
  obtain ⟨b, e, hB, hlt, hc⟩ := h.is h0
  cases e
  have hlt2 : bn < (wt.alloc o).heap.size := by simp; omega
  have hb : w8.heap[bn]? = wt.heap[bn]? := (hg.block bn hlt2 (fun e => hne e.symm)).trans ((below_al o).block bn hlt)
  have hs := hg.size
  refine ⟨bn, rfl, hB, by omega, fun i hi => ?_⟩
  have k : ∀ o', w8.cell? ⟨bn, o', none⟩ = wt.cell? ⟨bn, o', none⟩ := fun o' => World.cell?_of_block (w := wt) hb
  rw [k, k, k]
  exact hc i hi⟩
def R1 (w wr : World) (ao : Option Addr) (cap : Nat) (ps : List Bk) (B r g : Nat) (v fd : Value) (seen : List Lv.Pc) (k : Nat) : Prop := ∃ found : Bool, fd = .bool found ∧ Sn w wr ao cap ps B v seen ∧ Sp ps r ⟨g, 0, 0⟩ seen k found
/-- Whether it is among the first of them. -/
def R3 (wq wt : World) (y : Lv.Pc) (seen : List Lv.Pc) (m : Nat) (th : Value) : Prop := ∃ t : Bool, th = .bool t ∧ (t = true ↔ y ∈ seen.take m) ∧ Below wq.heap.size wq wt
theorem R3.step {wq wt' : World} {y : Lv.Pc} {seen : List Lv.Pc} {m : Nat} {t t' : Bool} (h : t = true ↔ y ∈ seen.take m) (hm : m < seen.length) (hb : Below wq.heap.size wq wt') (ht : t' = true ↔ t = true ∨ seen[m] = y) : R3 wq wt' y seen (m + 1) (.bool t') :=
  ⟨t', rfl, by rw [ht, h, List.take_succ_eq_append_getElem hm, List.mem_append, List.mem_singleton, @eq_comm _ y], hb⟩
set_option maxHeartbeats 16000000 in
theorem means_main (ao : Option Addr) (cap : Nat) (ps : List Bk) (g r : Nat) (w : World) (h : PAt w ao ps) (he : Env w) (hc : ckP ps = 0) (ho : opsN ps ≤ 300) (hg : g < ps.length) (hr : r < 32) :
    Calls Tryd.prog 4 #[.agg #[.slice ao ps.length cap], .int .i64 (g : Int), .int .u8 (r : Int)] w fun e w' => e = .returned (.bool true) ∧ Below w.heap.size w w' := by
  have HQ : Hid (Bw w (w.alloc (.cells #[.slice ao ps.length cap] 24)) ao cap ps) := Bw.new w ao cap ps
  have HC : Hid (∀ W, Bw w W ao cap ps → Calls Tryd.prog 7 #[.agg #[.slice ao ps.length cap]] W fun e w' => e = .returned (.int .i64 0) ∧ Below W.heap.size W w') := fun W hb => by
    have := checkP_any ao cap ps W (h.below hb.b) (he.up hb.b)
    rw [hc] at this; exact this
  have HK : Hid (∀ W, Bw w W ao cap ps → Calls Tryd.prog 9 #[] W fun e w' => e = .returned (.bool true) ∧ Below W.heap.size W w') := fun W hb => wakes_any W (he.up hb.b)
  have HO : Hid (∀ W, Bw w W ao cap ps → Calls Tryd.prog 8 #[.agg #[.slice ao ps.length cap]] W fun e w' => e = .returned (.int .i64 ((opsN ps : Nat) : Int)) ∧ Below W.heap.size W w') := fun W hb => ops_any ao cap ps W (h.below hb.b) (len_le hc)
  have hok := psOk_of h
  have hle := (good_of hc).le
  have HI : Hid (∀ W found, Fd ps g r found → Bw w W ao cap ps → Calls Tryd.prog 12 #[.agg #[.slice ao ps.length cap]] W fun e w' => ∃ a c y, e = .returned (.slice (some ⟨a, 0, none⟩) ps.length c) ∧ (a < w'.heap.size ∧ w'.cell? ⟨a, g, none⟩ = some (.int .u32 ((y : Nat) : Int)) ∧ bits .and .u32 ((y : Int) / 2 ^ r) 1 = if found then 1 else 0) ∧ Below W.heap.size W w') := fun W found hfd hb =>
    (in_is ao cap ps W (h.below hb.b) (he.up hb.b)).mono fun e w' ⟨a, c, h1, h2, h3, h4⟩ => by
      have hl := h3.len
      rw [if_pos hc] at hl
      rw [hl] at h1
      obtain ⟨b, rfl, hlt⟩ := h2.addr (by omega)
      exact ⟨b, c, inN (inL ps) g, h1, ⟨hlt, h2.at (by omega), by rw [bit_and (h3.fit g), hfd.bit hok hc h3]⟩, h4⟩
  have HA : Hid (∀ (x : Lv.Pc) (hx : x.b < ps.length) W, x.part < 4 → Bw w W ao cap ps → Calls Tryd.prog 19 #[.agg #[.slice ao ps.length cap], .agg #[.int .i64 (x.b : Int), .int .i64 (x.part : Int), .int .i64 (x.op : Int)], .int .u8 (r : Int)] W fun e w' => Alg W w' e (next (bOf ps[x.b]) x) (readAt (bOf ps[x.b]) x r) (wroteAt (bOf ps[x.b]) x r)) := fun x hx W hp hb => along_any ao cap ps x r W (h.below hb.b) hc hx hp
  have HN : Hid (∀ (x : Lv.Pc) (hx : x.b < ps.length), Vd ps x → ∀ y ∈ next (bOf ps[x.b]) x, Vd ps y) := fun x hx hv => next_vd hc ho hx hv
  obtain ⟨i1, hi, hi2⟩ := Option.map_eq_some_iff.1 info39
  simp only [Prod.mk.injEq] at hi2
  obtain ⟨hz0, hz1, hz2⟩ := hi2
  have HJ : Hid (Tryd.prog.info? 39 = some i1 ∧ i1.zero = some (.agg #[.int .i64 0, .int .i64 0, .int .i64 0]) ∧ i1.size = 3 ∧ i1.bytes = 24) := ⟨hi, hz0, hz1, hz2⟩
  have hgz : (g : Int) < (ps.length : Int) := by omega
  have hgz' : ¬ (ps.length : Int) ≤ (g : Int) := by omega
  have hrz : ¬ (32 : Int) ≤ (r : Int) := by omega
  have hrz1 : (r : Int) ≤ 32 := by omega
  have hrz2 : (0 : Int) ≤ (r : Int) := by omega
  have hoz : ¬ (300 : Int) < ((opsN ps : Nat) : Int) := by omega
  have HSp : Hid (Sp ps r ⟨g, 0, 0⟩ [⟨g, 0, 0⟩] 0 false) := Sp.init ⟨hg, by simp, by simp⟩
  generalize opsN ps = on at *
  clear hi hz0 hz1 hz2 h he hok hc ho
  go_enter Tryd.func4, Tryd.ntmps4
  go_wp2_with (first
    | (go_at_call 7; refine Calls.mono (HC.out _ HQ.out) ?_; rintro e w1 ⟨rfl, hb⟩; have H1 : Hid _ := HQ.out.up hb; have c1 := H1.out.cell; clear hb HQ HC)
    | (go_at_call 8; refine Calls.mono (HO.out _ H1.out) ?_; rintro e w2 ⟨rfl, hb⟩; have H2 : Hid (Bw w w2 ao cap ps) := H1.out.up hb; have c2 := H2.out.cell; clear hb H1 HO c1))
  have HS : Hid (Sn w (w2.alloc (.cells #[.int .i64 (g : Int), .int .i64 0, .int .i64 0] 39)) ao cap ps w2.heap.size (.slice (some ⟨w2.heap.size, 0, none⟩) 1 1) [⟨g, 0, 0⟩]) := Sn.start H2.out g
  generalize hB0 : w2.heap.size = B at *
  clear c2 H2
  go_loopw [7, 8, 9] (fun v fd i wr => ∃ (seen : List Lv.Pc) (k : Nat), i = .int .i64 (k : Int) ∧ Hid (R1 w wr ao cap ps B r g v fd seen k)) (fun _ _ i _ => 200000 - (intOf i).toNat)
  case atStart => exact ⟨_, 0, rfl, ⟨false, rfl, HS.out, HSp.out⟩⟩
  case round =>
    rename_i wr
    clear HS HSp
    obtain ⟨seen, k, rfl, H3x⟩ := hrel
    obtain ⟨found, rfl, H3y⟩ := H3x.out
    have H3 : Hid _ := H3y
    clear H3x H3y
    have hlen := H3.out.2.len hle
    have hkl := H3.out.2.le
    obtain ⟨gs, cs, hv, hgB, hgl, hcells⟩ := H3.out.1.cells H3.out.2.pos
    have HCe : Hid _ := hcells
    have cb := H3.out.1.q.cell
    clear hcells
    by_cases hex : found = true ∨ k = seen.length
    · have HF : Hid (Fd ps g r found) := H3.out.2.fd (fun hf => by rcases hex with h | h; rw [hf] at h; cases h; exact h)
      have H4 : Hid (Bw w wr ao cap ps) := H3.out.1.q
      subst hv
      cases found with
      | true =>
        by_cases hkz : (k : Int) < (seen.length : Int)
        all_goals
          clear H3 HCe
          go_wp2_with (first
            | (go_at_call 12; refine Calls.mono (HI.out _ _ HF.out H4.out) ?_; rintro e w5 ⟨a, c, y, rfl, ⟨ia, ca, hbit⟩, hb⟩; have H5 : Hid (Bw w w5 ao cap ps) := H4.out.up hb; have c5 := H5.out.cell; (first | simp only [if_true] at hbit | simp only [Bool.false_eq_true, if_false] at hbit); clear hb H4 HI)
            | (go_at_call 9; refine Calls.mono (HK.out _ H5.out) ?_; rintro e w6 ⟨rfl, hb⟩; have H6 : Hid _ := H5.out.up hb; clear hb))
          go_ret
          exact ⟨rfl, H6.out.b⟩
      | false =>
        obtain rfl : k = seen.length := by simpa using hex
        clear H3 HCe
        go_wp2_with (first
          | (go_at_call 12; refine Calls.mono (HI.out _ _ HF.out H4.out) ?_; rintro e w5 ⟨a, c, y, rfl, ⟨ia, ca, hbit⟩, hb⟩; have H5 : Hid (Bw w w5 ao cap ps) := H4.out.up hb; have c5 := H5.out.cell; (first | simp only [if_true] at hbit | simp only [Bool.false_eq_true, if_false] at hbit); clear hb H4 HI)
          | (go_at_call 9; refine Calls.mono (HK.out _ H5.out) ?_; rintro e w6 ⟨rfl, hb⟩; have H6 : Hid _ := H5.out.up hb; clear hb))
        go_ret
        exact ⟨rfl, H6.out.b⟩
    · have hfd : found = false := by cases found; rfl; exact absurd (Or.inl rfl) hex
      subst hfd
      have hk : k < seen.length := by omega
      have hkz : (k : Int) < (seen.length : Int) := by omega
      have hxv := H3.out.2.vd seen[k] (List.getElem_mem hk)
      have hxb : seen[k].b < ps.length := hxv.1
      have HLk : Hid _ := H3.out.2.look hk hxv.1 (next (bOf ps[seen[k].b]) seen[k])
      have HAl : Hid _ := fun W (hb : Bw w W ao cap ps) => HA.out seen[k] hxv.1 W hxv.2.1 hb
      have HNx : Hid _ := HN.out seen[k] hxv.1 hxv
      have HDn : Hid (∀ seen' j, Sq ps r ⟨g, 0, 0⟩ seen' k seen[k] (next (bOf ps[seen[k].b]) seen[k]) (readAt (bOf ps[seen[k].b]) seen[k] r) j → (j = (next (bOf ps[seen[k].b]) seen[k]).length ∨ wroteAt (bOf ps[seen[k].b]) seen[k] r = true) → Sp ps r ⟨g, 0, 0⟩ seen' (k + 1) (readAt (bOf ps[seen[k].b]) seen[k] r)) := fun seen' j hq hj => hq.done hxv.1 rfl rfl hj
      have HMt : Hid (∀ seen' j y (hj : j < (next (bOf ps[seen[k].b]) seen[k]).length), Sq ps r ⟨g, 0, 0⟩ seen' k seen[k] (next (bOf ps[seen[k].b]) seen[k]) (readAt (bOf ps[seen[k].b]) seen[k] r) j → (next (bOf ps[seen[k].b]) seen[k])[j] = y → y ∉ seen' → wroteAt (bOf ps[seen[k].b]) seen[k] r = false → Sq ps r ⟨g, 0, 0⟩ (seen' ++ [y]) k seen[k] (next (bOf ps[seen[k].b]) seen[k]) (readAt (bOf ps[seen[k].b]) seen[k] r) (j + 1)) := fun seen' j y hj hq hy hm hw => hq.meet hj hy hm (HNx.out y (by rw [← hy]; exact List.getElem_mem hj)) hxv.1 rfl hw
      have h2 := next_two (bOf ps[seen[k].b]) seen[k]
      have HSx : Hid (∀ W, Below wr.heap.size wr W → W.cell? ⟨w.heap.size, 0, none⟩ = some (.slice ao ps.length cap) ∧ W.cell? ⟨gs, k * 3, none⟩ = some (.int .i64 (seen[k].b : Int)) ∧ W.cell? ⟨gs, k * 3 + 1, none⟩ = some (.int .i64 (seen[k].part : Int)) ∧ W.cell? ⟨gs, k * 3 + 2, none⟩ = some (.int .i64 (seen[k].op : Int))) := fun W hW => by
        obtain ⟨k0, k1, k2⟩ := HCe.out k hk
        refine ⟨(H3.out.1.q.up hW).cell, ?_, ?_, ?_⟩
        · rw [(bcell hW).1 _ _ hgl]; exact k0
        · rw [(bcell hW).1 _ _ hgl]; exact k1
        · rw [(bcell hW).1 _ _ hgl]; exact k2
      generalize hnx : next (bOf ps[seen[k].b]) seen[k] = nx at *
      generalize hrd : readAt (bOf ps[seen[k].b]) seen[k] r = rd at *
      generalize hwt : wroteAt (bOf ps[seen[k].b]) seen[k] r = wt at *
      generalize hxx : seen[k] = x at *
      subst hv
      clear HA HN HCe hnx hrd hwt hxx hxv hex HNx cb hxb
      have hd0 : Below wr.heap.size wr wr.drew := ⟨rfl, rfl, rfl, Nat.le_refl _, fun _ _ => rfl⟩
      have HQ4 : Hid (Sn w wr.drew ao cap ps B (.slice (some ⟨gs, 0, none⟩) seen.length cs) seen) := H3.out.1.up hd0
      clear H3
      go_wp2_with fail
      refine wp_region_held_drew (S := fun w' => w'.cell? ⟨w.heap.size, 0, none⟩ = some (.slice ao ps.length cap) ∧ w'.cell? ⟨gs, k * 3, none⟩ = some (.int .i64 (x.b : Int)) ∧ w'.cell? ⟨gs, k * 3 + 1, none⟩ = some (.int .i64 (x.part : Int)) ∧ w'.cell? ⟨gs, k * 3 + 2, none⟩ = some (.int .i64 (x.op : Int))) (by kernel_rfl) (HSx.out _ hd0) (fun hHeld => ?_)
      refine wpAnyH_take (i := 0) (v := .agg #[.slice ao ps.length cap]) rfl (by kernel_rfl) (by kernel_rfl) (by kernel_rfl) (fun _ _ _ h => h) (Or.inl ⟨by rfl, fun w' hSw => by (dsimp only at hSw; obtain ⟨s0, s1, s2, s3⟩ := hSw; go_simp)⟩) hHeld ?_
      simp only [Act.put, List.setIfInBounds_toArray, List.set_cons_zero, List.set_cons_succ, List.getElem_cons_zero, List.getElem_toArray]
      refine wpAnyH_take (i := 1) (v := .slice (some ⟨gs, 0, none⟩) seen.length cs) rfl (by kernel_rfl) (by kernel_rfl) (by kernel_rfl) (fun _ _ _ h => h) (Or.inl ⟨by rfl, fun w' hSw => by (dsimp only at hSw; obtain ⟨s0, s1, s2, s3⟩ := hSw; go_simp)⟩) hHeld ?_
      simp only [Act.put, List.setIfInBounds_toArray, List.set_cons_zero, List.set_cons_succ, List.getElem_cons_zero, List.getElem_cons_succ, List.getElem_toArray]
      refine wpAnyH_take (i := 2) (v := .int .i64 (k : Int)) rfl (by kernel_rfl) (by kernel_rfl) (by kernel_rfl) (fun _ _ _ h => h) (Or.inl ⟨by rfl, fun w' hSw => by (dsimp only at hSw; obtain ⟨s0, s1, s2, s3⟩ := hSw; go_simp)⟩) hHeld ?_
      simp only [Act.put, List.setIfInBounds_toArray, List.set_cons_zero, List.set_cons_succ, List.getElem_cons_zero, List.getElem_cons_succ, List.getElem_toArray]
      refine wpAnyH_take (i := 3) (v := .pointer (some ⟨gs, k * 3, none⟩)) rfl (by kernel_rfl) (by kernel_rfl) (by kernel_rfl) (fun _ _ _ h => h) (Or.inl ⟨by rfl, fun w' hSw => by (dsimp only at hSw; obtain ⟨s0, s1, s2, s3⟩ := hSw; go_simp)⟩) hHeld ?_
      simp only [Act.put, List.setIfInBounds_toArray, List.set_cons_zero, List.set_cons_succ, List.getElem_cons_zero, List.getElem_cons_succ, List.getElem_toArray]
      refine wpAnyH_take (i := 4) (v := .agg #[.int .i64 (x.b : Int), .int .i64 (x.part : Int), .int .i64 (x.op : Int)]) rfl (by kernel_rfl) (by kernel_rfl) (by kernel_rfl) (fun _ _ _ h => h) (Or.inl ⟨by rfl, fun w' hSw => by (dsimp only at hSw; obtain ⟨s0, s1, s2, s3⟩ := hSw; go_simp)⟩) hHeld ?_
      simp only [Act.put, List.setIfInBounds_toArray, List.set_cons_zero, List.set_cons_succ, List.getElem_cons_zero, List.getElem_cons_succ, List.getElem_toArray]
      refine wpAnyH_take (i := 5) (v := .int .u8 (r : Int)) rfl (by kernel_rfl) (by kernel_rfl) (by kernel_rfl) (fun _ _ _ h => h) (Or.inl ⟨by rfl, fun w' hSw => by (dsimp only at hSw; obtain ⟨s0, s1, s2, s3⟩ := hSw; go_simp)⟩) hHeld ?_
      simp only [Act.put, List.setIfInBounds_toArray, List.set_cons_zero, List.set_cons_succ, List.getElem_cons_zero, List.getElem_cons_succ, List.getElem_toArray]
      refine wpAnyH_ready (rs := [6]) (by kernel_rfl) (by simp) ?_
      refine AllReadyH.cons rfl (fun K hK => ?_) AllReadyH.nil
      go_simp
      refine Calls.mono (HAl.out _ HQ4.out.q) ?_
      rintro e w4 ⟨a, c, rfl, hP, hb⟩
      have H4 : Hid (Sn w w4 ao cap ps B (.slice (some ⟨gs, 0, none⟩) seen.length cs) seen ∧ Pls w4 wr.heap.size a nx) := ⟨HQ4.out.up hb, hP⟩
      refine hK.out _ _ (HSx.out _ (hd0.trans hb)) (fun hHeld => ?_)
      clear hK K hb hP HAl HQ4 HSx
      refine wpAnyH_take (i := 7) (v := .tuple #[.slice a nx.length c, .bool rd, .bool wt]) rfl (by kernel_rfl) (by kernel_rfl) (by kernel_rfl) (fun _ _ _ h => h) (Or.inl ⟨by rfl, fun w' hSw => by (dsimp only at hSw; obtain ⟨s0, s1, s2, s3⟩ := hSw; go_simp)⟩) hHeld ?_
      simp only [Act.put, List.setIfInBounds_toArray, List.set_cons_zero, List.set_cons_succ, List.getElem_cons_zero, List.getElem_cons_succ, List.getElem_toArray]
      refine wpAnyH_take (i := 8) (v := .slice a nx.length c) rfl (by kernel_rfl) (by kernel_rfl) (by kernel_rfl) (fun _ _ _ h => h) (Or.inl ⟨by rfl, fun w' hSw => by (dsimp only at hSw; obtain ⟨s0, s1, s2, s3⟩ := hSw; go_simp)⟩) hHeld ?_
      simp only [Act.put, List.setIfInBounds_toArray, List.set_cons_zero, List.set_cons_succ, List.getElem_cons_zero, List.getElem_cons_succ, List.getElem_toArray]
      refine wpAnyH_take (i := 9) (v := .bool rd) rfl (by kernel_rfl) (by kernel_rfl) (by kernel_rfl) (fun _ _ _ h => h) (Or.inl ⟨by rfl, fun w' hSw => by (dsimp only at hSw; obtain ⟨s0, s1, s2, s3⟩ := hSw; go_simp)⟩) hHeld ?_
      simp only [Act.put, List.setIfInBounds_toArray, List.set_cons_zero, List.set_cons_succ, List.getElem_cons_zero, List.getElem_cons_succ, List.getElem_toArray]
      refine wpAnyH_take (i := 10) (v := .bool wt) rfl (by kernel_rfl) (by kernel_rfl) (by kernel_rfl) (fun _ _ _ h => h) (Or.inl ⟨by rfl, fun w' hSw => by (dsimp only at hSw; obtain ⟨s0, s1, s2, s3⟩ := hSw; go_simp)⟩) hHeld ?_
      simp only [Act.put, List.setIfInBounds_toArray, List.set_cons_zero, List.set_cons_succ, List.getElem_cons_zero, List.getElem_cons_succ, List.getElem_toArray]
      refine wpAnyH_take (i := 11) (v := .slice a nx.length c) rfl (by kernel_rfl) (by kernel_rfl) (by kernel_rfl) (fun _ _ _ h => h) (Or.inl ⟨by rfl, fun w' hSw => by (dsimp only at hSw; obtain ⟨s0, s1, s2, s3⟩ := hSw; go_simp)⟩) hHeld ?_
      simp only [Act.put, List.setIfInBounds_toArray, List.set_cons_zero, List.set_cons_succ, List.getElem_cons_zero, List.getElem_cons_succ, List.getElem_toArray]
      refine wpAnyH_take (i := 12) (v := .bool rd) rfl (by kernel_rfl) (by kernel_rfl) (by kernel_rfl) (fun _ _ _ h => h) (Or.inl ⟨by rfl, fun w' hSw => by (dsimp only at hSw; obtain ⟨s0, s1, s2, s3⟩ := hSw; go_simp)⟩) hHeld ?_
      simp only [Act.put, List.setIfInBounds_toArray, List.set_cons_zero, List.set_cons_succ, List.getElem_cons_zero, List.getElem_cons_succ, List.getElem_toArray]
      refine wpAnyH_take (i := 13) (v := .bool wt) rfl (by kernel_rfl) (by kernel_rfl) (by kernel_rfl) (fun _ _ _ h => h) (Or.inl ⟨by rfl, fun w' hSw => by (dsimp only at hSw; obtain ⟨s0, s1, s2, s3⟩ := hSw; go_simp)⟩) hHeld ?_
      simp only [Act.put, List.setIfInBounds_toArray, List.set_cons_zero, List.set_cons_succ, List.getElem_cons_zero, List.getElem_cons_succ, List.getElem_toArray]
      refine wpAnyH_done (by kernel_rfl) ?_ _
      have HNb : Hid (Nb (.slice (some ⟨gs, 0, none⟩) seen.length cs) a nx.length) := fun h0 b hb he => by
        obtain ⟨b', e', hB', hlt', hc'⟩ := H4.out.2.is h0
        rw [hb] at e'; cases e'
        simp only [Value.ownBlock, Option.some.injEq] at he
        omega
      clear hHeld hd0
      go_wp2_with fail
      go_loopw [7, 13] (fun v jv wq => ∃ (seen' : List Lv.Pc) (j : Nat), jv = .int .i64 (j : Int) ∧ j ≤ nx.length ∧ Hid (Sn w wq ao cap ps B v seen' ∧ Sq ps r ⟨g, 0, 0⟩ seen' k x nx rd j ∧ Pls wq wr.heap.size a nx ∧ Nb v a nx.length)) (fun _ jv _ => 3 - (intOf jv).toNat)
      case atStart => exact ⟨seen, 0, rfl, Nat.zero_le _, H4.out.1, HLk.out, H4.out.2, HNb.out⟩
      case round =>
        rename World => wq
        clear H4 HLk HNb
        obtain ⟨seen', j, rfl, hj, H5⟩ := hrel
        by_cases hxt : wt = true ∨ j = nx.length
        · have HZ : Hid (Sn w wq ao cap ps B u7 seen' ∧ Sp ps r ⟨g, 0, 0⟩ seen' (k + 1) rd) := ⟨H5.out.1, HDn.out seen' j H5.out.2.1 (by rcases hxt with h | h; exact Or.inr h; exact Or.inl h)⟩
          have hk1 : k < 154624 := by omega
          clear H5
          by_cases hjz : (j : Int) < (nx.length : Int)
          · obtain rfl : wt = true := by rcases hxt with h | h; exact h; omega
            go_wp2_with fail
            go_roundw
            case rel => exact ⟨u7, .bool rd, .int .i64 ((k : Int) + 1), ⟨seen', k + 1, by go_num, ⟨rd, rfl, HZ.out⟩⟩, rfl, rfl, rfl⟩
            case measure => simp [intOf]; omega
          · go_wp2_with fail
            go_roundw
            case rel => exact ⟨u7, .bool rd, .int .i64 ((k : Int) + 1), ⟨seen', k + 1, by go_num, ⟨rd, rfl, HZ.out⟩⟩, rfl, rfl, rfl⟩
            case measure => simp [intOf]; omega
        · obtain rfl : wt = false := by cases wt; rfl; exact absurd (Or.inl rfl) hxt
          have hjl : j < nx.length := by omega
          have hjz : (j : Int) < (nx.length : Int) := by omega
          obtain ⟨y, hy⟩ : ∃ y, nx[j] = y := ⟨_, rfl⟩
          have HY : Hid (nx[j] = y) := hy
          have hsl : seen'.length ≤ 154624 := by
            have := places H5.out.2.1.nd H5.out.2.1.vd
            omega
          have hsp : 0 < seen'.length := by have := (List.getElem?_eq_some_iff.1 H5.out.2.1.at').1; omega
          obtain ⟨bn, rfl, hbB, hbl, hbc⟩ := H5.out.2.2.1.is (by omega)
          have HYc : Hid (∀ W, Below wq.heap.size wq W → W.cell? ⟨bn, j * 3, none⟩ = some (.int .i64 (y.b : Int)) ∧ W.cell? ⟨bn, j * 3 + 1, none⟩ = some (.int .i64 (y.part : Int)) ∧ W.cell? ⟨bn, j * 3 + 2, none⟩ = some (.int .i64 (y.op : Int))) := fun W hW => by
            have := hbc j hjl
            rw [hy] at this
            rw [(bcell hW).1 _ _ hbl, (bcell hW).1 _ _ hbl, (bcell hW).1 _ _ hbl]
            exact this
          obtain ⟨gv, cv, hv7, hgB7, hgl7, hce7⟩ := H5.out.1.cells hsp
          have HSc : Hid _ := hce7
          subst hv7
          clear hy hbc hce7
          go_wp2_with fail
          go_loopw [14, 15] (fun th mv wt => ∃ m : Nat, m ≤ seen'.length ∧ mv = .int .i64 (m : Int) ∧ Hid (R3 wq wt y seen' m th)) (fun _ mv _ => seen'.length - (intOf mv).toNat)
          case atStart => exact ⟨0, Nat.zero_le _, rfl, ⟨false, rfl, by simp, Below.refl _ _⟩⟩
          case round =>
            rename World => wt
            obtain ⟨m, hm, rfl, H6x⟩ := hrel
            obtain ⟨th, rfl, hth, hb6⟩ := H6x.out
            have HB6 : Hid (Below wq.heap.size wq wt) := hb6
            clear H6x
            by_cases hml : m < seen'.length
            · have hmz : (m : Int) < (seen'.length : Int) := by omega
              obtain ⟨y0, y1, y2⟩ := HYc.out wt hb6
              obtain ⟨s0, s1, s2⟩ := HSc.out m hml
              have s0' : wt.cell? ⟨gv, m * 3, none⟩ = some (.int .i64 (seen'[m].b : Int)) := by rw [(bcell hb6).1 _ _ hgl7]; exact s0
              have s1' : wt.cell? ⟨gv, m * 3 + 1, none⟩ = some (.int .i64 (seen'[m].part : Int)) := by rw [(bcell hb6).1 _ _ hgl7]; exact s1
              have s2' : wt.cell? ⟨gv, m * 3 + 2, none⟩ = some (.int .i64 (seen'[m].op : Int)) := by rw [(bcell hb6).1 _ _ hgl7]; exact s2
              clear s0 s1 s2 hb6
              have HST : Hid (∀ W t', Below wq.heap.size wq W → (t' = true ↔ th = true ∨ seen'[m] = y) → R3 wq W y seen' (m + 1) (.bool t')) := fun W t' hW ht => R3.step hth hml hW ht
              clear hth
              generalize seen'[m] = z at *
              cases th with
              | true =>
                go_wp2_with fail
                go_quiet (fail)
                go_wp2_with fail
                go_roundw
                case rel => exact ⟨m + 1, by omega, by go_num, HST.out _ _ (drewN_below HB6.out _) (by simp)⟩
                case measure => simp [intOf]; omega
              | false =>
                by_cases hzy : z = y
                · subst hzy
                  go_wp2_with fail
                  go_quiet (fail)
                  go_wp2_with fail
                  go_roundw
                  case rel => exact ⟨m + 1, by omega, by go_num, HST.out _ _ (drewN_below HB6.out _) (by simp)⟩
                  case measure => simp [intOf]; omega
                · have hz3 : z.b ≠ y.b ∨ (z.b = y.b ∧ z.part ≠ y.part) ∨ (z.b = y.b ∧ z.part = y.part ∧ z.op ≠ y.op) := by
                    obtain ⟨zb, zp, zo⟩ := z
                    obtain ⟨yb, yp, yo⟩ := y
                    simp only [Lv.Pc.mk.injEq] at hzy ⊢
                    omega
                  rcases hz3 with h1 | ⟨h1, h2'⟩ | ⟨h1, h2', h3'⟩
                  · have q1 : ((z.b : Int) == (y.b : Int)) = false := by simp; omega
                    have q2 : ¬ (z.b : Int) = (y.b : Int) := by omega
                    go_wp2_with fail
                    go_quiet (fail)
                    go_wp2_with fail
                    go_roundw
                    case rel => exact ⟨m + 1, by omega, by go_num, HST.out _ _ (drewN_below HB6.out _) (by simp [hzy])⟩
                    case measure => simp [intOf]; omega
                  · rw [h1] at s0'
                    have q1 : ((z.part : Int) == (y.part : Int)) = false := by simp; omega
                    have q2 : ¬ (z.part : Int) = (y.part : Int) := by omega
                    go_wp2_with fail
                    go_quiet (fail)
                    go_wp2_with fail
                    go_roundw
                    case rel => exact ⟨m + 1, by omega, by go_num, HST.out _ _ (drewN_below HB6.out _) (by simp [hzy])⟩
                    case measure => simp [intOf]; omega
                  · rw [h1] at s0'
                    rw [h2'] at s1'
                    have q1 : ((z.op : Int) == (y.op : Int)) = false := by simp; omega
                    have q2 : ¬ (z.op : Int) = (y.op : Int) := by omega
                    go_wp2_with fail
                    go_quiet (fail)
                    go_wp2_with fail
                    go_roundw
                    case rel => exact ⟨m + 1, by omega, by go_num, HST.out _ _ (drewN_below HB6.out _) (by simp [hzy])⟩
                    case measure => simp [intOf]; omega
            · obtain rfl : m = seen'.length := by omega
              rw [List.take_length] at hth
              have HSn : Hid (Sn w wt ao cap ps B (.slice (some ⟨gv, 0, none⟩) seen'.length cv) seen') := H5.out.1.up hb6
              have HPl : Hid (Pls wt wr.heap.size (some ⟨bn, 0, none⟩) nx) := H5.out.2.2.1.below hb6
              cases th with
              | true =>
                have HSq : Hid (Sq ps r ⟨g, 0, 0⟩ seen' k x nx rd (j + 1)) := H5.out.2.1.skip hjl HY.out (hth.1 rfl)
                have HNb2 : Hid (Nb (.slice (some ⟨gv, 0, none⟩) seen'.length cv) (some ⟨bn, 0, none⟩) nx.length) := H5.out.2.2.2
                clear H5 hth HSc HYc
                go_wp2_with fail
                go_roundw
                case rel => exact ⟨seen', j + 1, by go_num, by omega, HSn.out, HSq.out, HPl.out, HNb2.out⟩
                case measure => simp [intOf]; omega
              | false =>
                have hym : y ∉ seen' := fun hm => by have := hth.2 hm; cases this
                have HSq : Hid (Sq ps r ⟨g, 0, 0⟩ (seen' ++ [y]) k x nx rd (j + 1)) := HMt.out seen' j y hjl H5.out.2.1 HY.out hym (by first | rfl | trivial)
                have hnb := H5.out.2.2.2 (by omega) bn rfl
                obtain ⟨y0, y1, y2⟩ := HYc.out wt hb6
                have hgle : Hid (B ≤ wt.heap.size) := HSn.out.le
                have hbw : bn < wt.heap.size := Nat.lt_of_lt_of_le hbl hb6.size
                clear H5 hth HSc HYc hb6
                go_wp2_with (first
                  | (at_builtin; refine wpList_append_lies _ rfl _ _ 40 rfl B 39 i1 (.agg #[.int .i64 0, .int .i64 0, .int .i64 0]) 3 24 Tryd.underlying40 HJ.out.1 HJ.out.2.1 HJ.out.2.2.1 HJ.out.2.2.2 rfl (by decide) _ _ _ rfl (HSn.out.row.alloc _) ⟨wt.heap.size, 0, none⟩ 1 1 (pcs y) rfl rfl (World.news_of_block (heap_alloc_new wt _)) (by simp [pcs, Value.oneCell']) (by decide) (by unfold maxLen; omega) (by omega) (by have := hgle.out; simp; omega) (wt.heap.size + 1) (by simp) ?_; intro gn cn w8 hown8 hgrow8 hat8 hlt8))
                go_roundw
                case rel =>
                  refine ⟨seen' ++ [y], j + 1, by go_num, by omega, HSn.out.put hown8 hgrow8, HSq.out, HPl.out.grown hgrow8 hnb, fun _ b hb hbe => ?_⟩
                  cases hb
                  simp only [Value.ownBlock, Option.some.injEq] at hbe
                  subst hbe
                  rcases hat8 with h9 | h9
                  · exact hnb h9
                  · omega
                case measure => simp [intOf]; omega
theorem law_means (ao : Option Addr) (cap : Nat) (ps : List Bk) (block : Int) (r : Nat) (w : World) (h : PAt w ao ps) (he : Env w) :
    Calls Tryd.prog 4 #[.agg #[.slice ao ps.length cap], .int .i64 block, .int .u8 (r : Int)] w fun e w' => e = .returned (.bool true) ∧ Below w.heap.size w w' := by
  by_cases hn : ckP ps ≠ 0 ∨ 300 < opsN ps ∨ block < 0 ∨ (ps.length : Int) ≤ block ∨ 32 ≤ r
  · exact means_wake ao cap ps block r w h he hn
  · obtain ⟨g, rfl⟩ : ∃ g : Nat, block = g := ⟨block.toNat, by omega⟩
    exact means_main ao cap ps g r w h he (by omega) (by omega) (by omega) (by omega)
end Go.Proofs.YtlinekpaffgcjaaDoor.Li

namespace Go.Proofs.YtlinekpaffgcjaaDoor.Op
open Go.ChangeShapes Go.WideShapes Go.ChangeAt Go.RowKit

theorem wf64 {n : Int} (h : (Lit.int .i64 n).wf = true) : -9223372036854775808 ≤ n ∧ n ≤ 9223372036854775807 := by
  simp [Lit.wf, IntKind.min, IntKind.max, IntKind.signed, IntKind.bits] at h
  omega
theorem wf8 {n : Int} (h : (Lit.int .i8 n).wf = true) : -128 ≤ n ∧ n ≤ 127 := by
  simp [Lit.wf, IntKind.min, IntKind.max, IntKind.signed, IntKind.bits] at h
  omega
theorem wfu8 {n : Int} (h : (Lit.int .u8 n).wf = true) : 0 ≤ n ∧ n ≤ 255 := by
  simp [Lit.wf, IntKind.min, IntKind.max, IntKind.signed, IntKind.bits] at h
  omega
theorem own : ownKnob Tryd.prog.godebug = none := by kernel_rfl
def laid1 : List (String × DataW Unit) := [("hayloft/program.ends", Rows.laid_hayloft_program_ends)]
theorem four {p : Nat → Prop} (h0 : p 0) (h1 : p 1) (h2 : p 2) (h3 : p 3) : ∀ k, k < 4 → p k := by
  intro k hk
  match k, hk with
  | 0, _ => exact h0
  | 1, _ => exact h1
  | 2, _ => exact h2
  | 3, _ => exact h3
theorem trod_bool1 {H : Type} {enc : TypeId × Value → H} {W : World} {base fuel : Nat} {sp : Nat → Bool} {held : Bool} {c : Value} {y : DataW H × List MemPlace} (h : DataW.trod enc Tryd.prog W base sp held fuel 4 [c] = some y) : ∃ b : Bool, c = .bool b ∧ y.1 = .lit (.bool b) := by
  obtain ⟨b, e, f⟩ := DataW.trod_bool Tryd.underlying4 h
  exact ⟨b, by simpa using e, by rw [f]⟩
theorem trod_end {H : Type} {enc : TypeId × Value → H} {W : World} {base fuel : Nat} {sp : Nat → Bool} {held : Bool} {c0 c1 c2 c3 : Value} {y : DataW H × List MemPlace} (h : DataW.trod enc Tryd.prog W base sp held fuel 77 [c0, c1, c2, c3] = some y) :
    ∃ a b c d : Bool, c0 = .bool a ∧ c1 = .bool b ∧ c2 = .bool c ∧ c3 = .bool d ∧ y.1 = .agg [.lit (.bool a), .lit (.bool b), .lit (.bool c), .lit (.bool d)] := by
  obtain ⟨y0, y1, y2, y3, n, hx, _, h0, h1, h2, h3⟩ := Joins.trod_struct4 Tryd.underlying77 h
  have k4 : Tryd.prog.cellsOf 4 = 1 := by kernel_rfl
  rw [k4] at h0 h1 h2 h3
  obtain ⟨a, e0, f0⟩ := trod_bool1 h0
  obtain ⟨b, e1, f1⟩ := trod_bool1 h1
  obtain ⟨c, e2, f2⟩ := trod_bool1 h2
  obtain ⟨d, e3, f3⟩ := trod_bool1 h3
  exact ⟨a, b, c, d, e0, e1, e2, e3, by rw [hx, f0, f1, f2, f3]⟩
set_option maxRecDepth 20000 in
theorem ends_of {W : World} (h : Lib.VarReads Tryd.prog W "hayloft/program.ends" Rows.laid_hayloft_program_ends) : EndsAt W ∧ 1 ≤ W.heap.size := by
  have hg : Tryd.prog.globalNamed "hayloft/program.ends" = some 0 := by kernel_rfl
  have ht : (Tryd.prog.globals[0]?).map (·.type) = some 98 := by kernel_rfl
  obtain ⟨g0, t0, cs, fuel, p, h1, h2, h3, h4⟩ := h
  obtain rfl := Option.some.inj (hg.symm.trans h1)
  obtain rfl := Option.some.inj (ht.symm.trans h2)
  have hbig : 1 ≤ W.heap.size := by
    have h3' := h3
    rw [World.var?, hg, Option.bind_some] at h3'
    rcases Nat.lt_or_ge 0 W.heap.size with h | h
    · exact h
    · rw [Array.getElem?_eq_none h] at h3'; cases h3'
  obtain ⟨xs, m, _, hx, hl, hn, he⟩ := DataW.trod_array Tryd.underlying98 h4
  have c73 : Tryd.prog.cellsOf 77 = 4 := by kernel_rfl
  have c85 : Tryd.prog.cellsOf 98 = 16 := by kernel_rfl
  rw [c85] at hl
  rw [c73] at he
  obtain ⟨l⟩ := cs
  match xs, hn, l, hl with
  | [x0, x1, x2, x3], _, [v0, v1, v2, v3, v4, v5, v6, v7, v8, v9, va, vb, vc, vd, ve, vf], _ =>
    obtain ⟨a0, a1, a2, a3, rfl, rfl, rfl, rfl, e0⟩ := trod_end (he 0 (by omega))
    obtain ⟨b0, b1, b2, b3, rfl, rfl, rfl, rfl, e1⟩ := trod_end (he 1 (by omega))
    obtain ⟨c0, c1, c2, c3, rfl, rfl, rfl, rfl, e2⟩ := trod_end (he 2 (by omega))
    obtain ⟨d0, d1, d2, d3, rfl, rfl, rfl, rfl, e3⟩ := trod_end (he 3 (by omega))
    simp [Rows.laid_hayloft_program_ends, e0, e1, e2, e3] at hx
    obtain ⟨⟨⟨rfl, rfl, rfl, rfl⟩, ⟨rfl, rfl, rfl, rfl⟩, ⟨rfl, rfl, rfl, rfl⟩, ⟨rfl, rfl, rfl, rfl⟩⟩, _⟩ := hx
    have cc := fun i => World.var?_cell h1 h3 i
    refine ⟨⟨four (p := fun k => W.cell? ⟨0, k * 4, none⟩ = some (.bool (eA k)) ∧ W.cell? ⟨0, k * 4 + 1, none⟩ = some (.bool (eB k)) ∧ W.cell? ⟨0, k * 4 + 2, none⟩ = some (.bool (eT k)) ∧ W.cell? ⟨0, k * 4 + 3, none⟩ = some (.bool (eE k))) ⟨?_, ?_, ?_, ?_⟩ ⟨?_, ?_, ?_, ?_⟩ ⟨?_, ?_, ?_, ?_⟩ ⟨?_, ?_, ?_, ?_⟩⟩, hbig⟩
    · exact (cc 0)
    · exact (cc 1)
    · exact (cc 2)
    · exact (cc 3)
    · exact (cc 4)
    · exact (cc 5)
    · exact (cc 6)
    · exact (cc 7)
    · exact (cc 8)
    · exact (cc 9)
    · exact (cc 10)
    · exact (cc 11)
    · exact (cc 12)
    · exact (cc 13)
    · exact (cc 14)
    · exact (cc 15)
set_option maxRecDepth 20000 in
theorem env_of {W : World} (hL : laidMetH Tryd.prog laid1 W) : Env W := by
  have hP : laidMet Tryd.prog laid1 W := hL
  have he := ends_of (Lib.laidMet.reads hP (n := "hayloft/program.ends") (d := Rows.laid_hayloft_program_ends) (by simp [laid1]))
  exact ⟨he.1, he.2⟩

set_option maxRecDepth 100000 in
/-- The wrap: what the listed variables hold, and the world's shape, are handed to the contract. -/
theorem wrap {H : Type} {enc : TypeId × Value → H} {os : Os} {f : FuncId} {fn : Func} {s : ChangeSpec} {lv : List (String × DataW Unit)} (started : os.Started) (noInit : Tryd.prog.inits.idxOf? f = none) (hfn : Tryd.prog.funcs[f]? = some fn)
    (witness : ∃ (w : World) (tape : Tape) (i : Input), w.os = os ∧ (w.forCall tape i).Shaped Tryd.prog ∧ i.vars = [] ∧ Input.okWide Tryd.prog (w.forCall tape i) .any w.heap.size f i ∧
      ((s.pre enc Tryd.prog fn [] false (w.forCall tape i).memory i.args ∧ laidMetH Tryd.prog lv (w.forCall tape i).memory) ∧ sizedMet enc Tryd.prog fn (OpenSpec.ofChange s) false (w.forCall tape i).memory i.args) ∧ Assume.holds {} Tryd.prog (lone (Frame.enter Tryd.prog f i.args .normal) [] (w.forCall tape i)))
    (contract : ∀ (W : World) (base : Nat) (args : Array Value) (ds gs : List (DataW H)) (before : List MemPlace),
      (∀ (j : Nat) t v, fn.params[j]? = some t → args[j]? = some v → Value.okWide Tryd.prog W .any base t v) →
      DataW.Whole enc Tryd.prog fn.params.toList s.vars false W args.toList ds gs before →
      (DataW.weightsEach Tryd.prog (fn.params.toList ++ s.plain.varTypes Tryd.prog) (ds ++ gs)).all (· ≤ reachBytes) = true →
      laidMetH Tryd.prog lv W → W.ShapedOpen Tryd.prog →
      Calls Tryd.prog f args W fun e W' => ∃ v, e = .returned v ∧ s.post enc Tryd.prog fn false true false false W args v W') :
    ReturnsInHanded {} Tryd.checked os f .any (fun w args => (s.pre enc Tryd.prog fn [] false w args ∧ laidMetH Tryd.prog lv w) ∧ sizedMet enc Tryd.prog fn (OpenSpec.ofChange s) false w args) (s.post enc Tryd.prog fn false true false false) := by
  refine returnsInHanded_of_calls (C := Tryd.checked) own started noInit witness ?_
  intro w tape i _ hsh _ hok hpre hholds
  obtain ⟨_, _, _, fn', hfn', _, _, _, _, hval⟩ := hok
  have e : fn' = fn := Option.some.inj (hfn'.symm.trans hfn)
  subst e
  obtain ⟨⟨⟨ds, gs, before, hw, hc⟩, hx⟩, hz⟩ := hpre
  have hw' := DataW.Whole.of_heap (w' := w.forCall tape i) (by rfl) hw
  refine (contract (w.forCall tape i) w.heap.size i.args ds gs before hval hw' (hz.weights hw) (hx.of_heap (by rfl)) hsh).mono fun e W' ⟨v, he, hp⟩ => ?_
  subst he
  exact ChangeSpec.post_blind hp


set_option maxRecDepth 100000 in
theorem wit_met (os : Os) (args : Array Value) : laidMetH Tryd.prog laid1 ((((World.holding Tryd.prog os ⟨#[], #[], []⟩).layVars Tryd.prog laid1).forCall (fun _ _ => 0) ⟨#[], args, []⟩).memory) := by
  refine laidMetH_of_parts ?_ (by kernel_rfl)
  have h : laidMet Tryd.prog laid1 ((World.holding Tryd.prog os ⟨#[], #[], []⟩).layVars Tryd.prog laid1) :=
    laidMet_layVars (w0 := World.holding Tryd.prog os ⟨#[], #[], []⟩) ["hayloft/program.ends"] [] (by rw [show (laid1.filter fun x => (["hayloft/program.ends"] : List String).contains x.1) = laid1 from by kernel_rfl]) (by kernel_rfl) (by kernel_rfl) (by rw [show (laid1.filter fun x => !(["hayloft/program.ends"] : List String).contains x.1) = [] from by kernel_rfl]; exact LaidIn.none)
  exact h.of_heap (by simp [World.memory, World.forCall, Input.heap])
theorem wit_os (os : Os) : ((World.holding Tryd.prog os ⟨#[], #[], []⟩).layVars Tryd.prog laid1).os = os := World.layVars_os _ _ _
theorem tySize : Tryd.prog.types.size = 139 := by kernel_rfl
theorem laidOut : laidOutB Tryd.prog = true := by kernel_rfl
theorem trod_struct5 {H : Type} {enc : TypeId × Value → H} {P : Program} {w : World} {base : Nat} {spare : Nat → Bool} {held : Bool} {t : TypeId} {f0 f1 f2 f3 f4 : Field} {fuel : Nat} {cs : List Value} {x : DataW H × List MemPlace} (ht : P.underlying t = some (.struct #[f0, f1, f2, f3, f4])) (h : DataW.trod enc P w base spare held fuel t cs = some x) :
    ∃ y0 y1 y2 y3 y4 n, x = (.agg [y0.1, y1.1, y2.1, y3.1, y4.1], y0.2 ++ (y1.2 ++ (y2.2 ++ (y3.2 ++ y4.2)))) ∧ cs.length = P.cellsOf t ∧ DataW.trod enc P w base spare held n f0.type ((cs.drop f0.offset).take (P.cellsOf f0.type)) = some y0 ∧
      DataW.trod enc P w base spare held n f1.type ((cs.drop f1.offset).take (P.cellsOf f1.type)) = some y1 ∧ DataW.trod enc P w base spare held n f2.type ((cs.drop f2.offset).take (P.cellsOf f2.type)) = some y2 ∧
      DataW.trod enc P w base spare held n f3.type ((cs.drop f3.offset).take (P.cellsOf f3.type)) = some y3 ∧ DataW.trod enc P w base spare held n f4.type ((cs.drop f4.offset).take (P.cellsOf f4.type)) = some y4 := by
  obtain ⟨xs, n, _, rfl, hl, hlen, hf⟩ := DataW.trod_struct ht h
  match xs, hlen with
  | [y0, y1, y2, y3, y4], _ => exact ⟨y0, y1, y2, y3, y4, n, by simp, hl, by simpa using hf 0 f0 rfl, by simpa using hf 1 f1 rfl, by simpa using hf 2 f2 rfl, by simpa using hf 3 f3 rfl, by simpa using hf 4 f4 rfl⟩

end Go.Proofs.YtlinekpaffgcjaaDoor.Op

namespace Go.Proofs.YtlinekpaffgcjaaDoor.Op
open Go.ChangeShapes Go.WideShapes Go.ChangeAt Go.RowKit
set_option maxRecDepth 20000

theorem opsAt_nil (w : World) (ao : Option Addr) : OpsAt w ao [] := ⟨by simp, by simp, fun h => by simp at h⟩
theorem pAt_none (w : World) (ao : Option Addr) : PAt w ao [] := ⟨by simp, fun h => by simp at h⟩
theorem reach_eq : reachBytes = 140737488351232 := rfl
theorem addr_add (b f : Nat) (n : Nat) : (⟨b, f, none⟩ : Addr).add n = ⟨b, f + n, none⟩ := by
  unfold Addr.add
  split
  · rename_i h; subst h; rfl
  · rfl
/-- Cells in a row, told by block and offset. -/
theorem cells_at {w : World} {b f n : Nat} {cs : List Value} (h : w.cells? 0 ⟨b, f, none⟩ n = some cs) (hn : 0 < n) : b < w.heap.size ∧ ∀ i v, cs[i]? = some v → w.cell? ⟨b, f + i, none⟩ = some v := by
  obtain ⟨_, hl, hc⟩ := World.cells?_some h
  refine ⟨World.cells?_block h hn, fun i v e => ?_⟩
  have hi : i < n := by
    rcases Nat.lt_or_ge i n with h | h
    · exact h
    · rw [List.getElem?_eq_none (by omega)] at e; cases e
  have := hc i hi
  rw [addr_add, e] at this
  exact this
theorem spot_none {w : World} {a : Addr} {n : Nat} {cs : List Value} (h : w.cells? 0 a n = some cs) (hn : 0 < n) : a = ⟨a.block, a.off, none⟩ := by
  obtain ⟨_, hl, hc⟩ := World.cells?_some h
  have h0 := hc 0 hn
  have ha : a.add 0 = a := by unfold Addr.add; simp
  rw [ha, List.getElem?_eq_getElem (by omega)] at h0
  obtain ⟨b, f, s⟩ := a
  cases s with
  | none => rfl
  | some s =>
    unfold World.cell? at h0
    split at h0
    · simp at h0
    · cases h0
instance : Inhabited O := ⟨⟨0, 0, 0, 0, 0⟩⟩
instance : Inhabited Bk := ⟨⟨[], 0, 0, [], 0, 0⟩⟩

theorem weightsAll_mem {H : Type} {P : Program} {e : TypeId} {d : DataW H} {n : Nat} : ∀ {l : List (DataW H)}, d ∈ l → n ∈ d.weights P e → n ∈ DataW.weightsAll P e l
  | x :: r, hd, hn => by
    unfold DataW.weightsAll
    rcases List.mem_cons.1 hd with rfl | hd
    · exact List.mem_append_left _ hn
    · exact List.mem_append_right _ (weightsAll_mem hd hn)

/-- One operation, out of its cells. -/
theorem open_o {H : Type} {enc : TypeId × Value → H} {W : World} {base fuel : Nat} {sp : Nat → Bool} {held : Bool} {cs : List Value} {y : DataW H × List MemPlace} (h : DataW.trod enc Tryd.prog W base sp held fuel 51 cs = some y) : ∃ o : O, o.Ok ∧ cs = [.int .i8 o.op, .int .u8 o.d, .int .u8 o.a, .int .u8 o.b, .int .i64 o.im] := by
  have k49 : Tryd.prog.cellsOf 51 = 5 := by kernel_rfl
  have k38 : Tryd.prog.cellsOf 45 = 1 := by kernel_rfl
  have k5 : Tryd.prog.cellsOf 5 = 1 := by kernel_rfl
  have k2 : Tryd.prog.cellsOf 2 = 1 := by kernel_rfl
  obtain ⟨y0, y1, y2, y3, y4, n, hx, hl, h0, h1, h2, h3, h4⟩ := trod_struct5 Tryd.underlying51 h
  rw [k49] at hl
  match cs, hl with
  | [c0, c1, c2, c3, c4], _ =>
    rw [k38] at h0
    rw [k5] at h1 h2 h3
    rw [k2] at h4
    obtain ⟨a, a1, a2, a3⟩ := DataW.trod_int Tryd.underlying45 h0
    obtain ⟨b, b1, b2, b3⟩ := DataW.trod_int Tryd.underlying5 h1
    obtain ⟨c, c1', c2', c3'⟩ := DataW.trod_int Tryd.underlying5 h2
    obtain ⟨e, e1, e2, e3⟩ := DataW.trod_int Tryd.underlying5 h3
    obtain ⟨g, g1, g2, g3⟩ := DataW.trod_int Tryd.underlying2 h4
    have a1' : [c0] = [Value.int .i8 a] := a1
    have b1' : [c1] = [Value.int .u8 b] := b1
    have c1'' : [c2] = [Value.int .u8 c] := c1'
    have e1' : [c3] = [Value.int .u8 e] := e1
    have g1' : [c4] = [Value.int .i64 g] := g1
    obtain rfl : c0 = .int .i8 a := by simpa using a1'
    obtain rfl : c1 = .int .u8 b := by simpa using b1'
    obtain rfl : c2 = .int .u8 c := by simpa using c1''
    obtain rfl : c3 = .int .u8 e := by simpa using e1'
    obtain rfl : c4 = .int .i64 g := by simpa using g1'
    have w0 := wf8 a3
    have w1 := wfu8 b3
    have w2 := wfu8 c3'
    have w3 := wfu8 e3
    have w4 := wf64 g3
    exact ⟨⟨a, b, c, e, g⟩, ⟨w0.1, w0.2, w1.1, w1.2, w2.1, w2.2, w3.1, w3.2, w4.1, w4.2⟩, rfl⟩

/-- A list of operations, out of its cell. -/
theorem open_list {H : Type} {enc : TypeId × Value → H} {W : World} {fuel : Nat} {held : Bool} {cs : List Value} {y : DataW H × List MemPlace} (h : DataW.trod enc Tryd.prog W 0 (fun _ => true) held fuel 44 cs = some y) (hw : ∀ n, n ∈ y.1.weights Tryd.prog 44 → n ≤ reachBytes) :
    ∃ (ao : Option Addr) (cap : Nat) (xs : List O), cs = [.slice ao xs.length cap] ∧ OpsAt W ao xs ∧ xs.length ≤ cap := by
  have k49 : Tryd.prog.cellsOf 51 = 5 := by kernel_rfl
  have b49 : Tryd.prog.bytesOf 51 = 16 := by kernel_rfl
  rcases Deep.open_slice Tryd.underlying44 h with ⟨rfl, rfl⟩ | ⟨a, len, cap, m, n, D, Pl, rfl, _, hlc, _, hm, rfl, hx⟩
  · exact ⟨none, 0, [], rfl, opsAt_nil _ _, by simp⟩
  · have hmc : m = cap := by simpa using hm
    subst hmc
    have hcap : m * 16 ≤ reachBytes := by
      refine hw _ ?_
      unfold DataW.weights
      simp only [Tryd.underlying44, b49]
      refine List.mem_cons.2 (.inl ?_)
      simp; omega
    rw [reach_eq] at hcap
    rw [k49] at hx
    obtain ⟨X, hX⟩ := Deep.choose_lt (α := O) (n := len) (p := fun i o => o.Ok ∧ W.cells? 0 (a.add (i * 5)) 5 = some [.int .i8 o.op, .int .u8 o.d, .int .u8 o.a, .int .u8 o.b, .int .i64 o.im]) (fun i hi => by
      obtain ⟨cs', h1, h2⟩ := hx i (by omega)
      obtain ⟨o, ho, rfl⟩ := open_o h2
      exact ⟨o, ho, h1⟩)
    refine ⟨some a, m, (List.range len).map X, by simp, ⟨fun o ho => ?_, by simp; omega, fun h0 => ?_⟩, by simp; omega⟩
    · obtain ⟨i, hi, rfl⟩ := List.mem_map.1 ho
      exact (hX i (List.mem_range.1 hi)).1
    · have h0' : 0 < len := by simpa using h0
      have ha : a = ⟨a.block, a.off, none⟩ := by
        have := (hX 0 h0').2
        rw [show a.add (0 * 5) = a by unfold Addr.add; simp] at this
        exact spot_none this (by omega)
      refine ⟨a.block, a.off, by rw [← ha], ?_, fun i hi => ?_⟩
      · have := (hX 0 h0').2
        rw [ha, addr_add] at this
        exact (cells_at this (by omega)).1
      · have hi' : i < len := by simpa using hi
        have := (hX i hi').2
        rw [ha, addr_add] at this
        have hc := (cells_at this (by omega)).2
        simp only [List.getElem_map, List.getElem_range]
        exact ⟨hc 0 _ rfl, hc 1 _ rfl, hc 2 _ rfl, hc 3 _ rfl, hc 4 _ rfl⟩

theorem trod_struct6 {H : Type} {enc : TypeId × Value → H} {P : Program} {w : World} {base : Nat} {spare : Nat → Bool} {held : Bool} {t : TypeId} {f0 f1 f2 f3 f4 f5 : Field} {fuel : Nat} {cs : List Value} {x : DataW H × List MemPlace} (ht : P.underlying t = some (.struct #[f0, f1, f2, f3, f4, f5])) (h : DataW.trod enc P w base spare held fuel t cs = some x) :
    ∃ y0 y1 y2 y3 y4 y5 n, x.1 = .agg [y0.1, y1.1, y2.1, y3.1, y4.1, y5.1] ∧ cs.length = P.cellsOf t ∧ DataW.trod enc P w base spare held n f0.type ((cs.drop f0.offset).take (P.cellsOf f0.type)) = some y0 ∧
      DataW.trod enc P w base spare held n f1.type ((cs.drop f1.offset).take (P.cellsOf f1.type)) = some y1 ∧ DataW.trod enc P w base spare held n f2.type ((cs.drop f2.offset).take (P.cellsOf f2.type)) = some y2 ∧
      DataW.trod enc P w base spare held n f3.type ((cs.drop f3.offset).take (P.cellsOf f3.type)) = some y3 ∧ DataW.trod enc P w base spare held n f4.type ((cs.drop f4.offset).take (P.cellsOf f4.type)) = some y4 ∧ DataW.trod enc P w base spare held n f5.type ((cs.drop f5.offset).take (P.cellsOf f5.type)) = some y5 := by
  obtain ⟨xs, n, _, rfl, hl, hlen, hf⟩ := DataW.trod_struct ht h
  match xs, hlen with
  | [y0, y1, y2, y3, y4, y5], _ => exact ⟨y0, y1, y2, y3, y4, y5, n, by simp, hl, by simpa using hf 0 f0 rfl, by simpa using hf 1 f1 rfl, by simpa using hf 2 f2 rfl, by simpa using hf 3 f3 rfl, by simpa using hf 4 f4 rfl, by simpa using hf 5 f5 rfl⟩

/-- One block, out of its cells. -/
theorem open_b {H : Type} {enc : TypeId × Value → H} {W : World} {fuel : Nat} {held : Bool} {cs : List Value} {y : DataW H × List MemPlace} (h : DataW.trod enc Tryd.prog W 0 (fun _ => true) held fuel 47 cs = some y) (hw : ∀ n, n ∈ y.1.weights Tryd.prog 47 → n ≤ reachBytes) :
    ∃ (x : Bk) (p : Pl), BIn W x p ∧ cs = (x.cells p).toList := by
  have k40 : Tryd.prog.cellsOf 47 = 6 := by kernel_rfl
  have k37 : Tryd.prog.cellsOf 44 = 1 := by kernel_rfl
  have k38 : Tryd.prog.cellsOf 45 = 1 := by kernel_rfl
  have k5 : Tryd.prog.cellsOf 5 = 1 := by kernel_rfl
  have k3 : Tryd.prog.cellsOf 3 = 1 := by kernel_rfl
  obtain ⟨y0, y1, y2, y3, y4, y5, n, hx, hl, h0, h1, h2, h3, h4, h5⟩ := trod_struct6 Tryd.underlying47 h
  rw [k40] at hl
  have hw' : ∀ n, n ∈ DataW.weightsEach Tryd.prog [44, 45, 5, 44, 3, 3] [y0.1, y1.1, y2.1, y3.1, y4.1, y5.1] → n ≤ reachBytes := fun n hn => by
    refine hw n ?_
    rw [hx]
    unfold DataW.weights
    simp only [Tryd.underlying47]
    exact hn
  match cs, hl with
  | [c0, c1, c2, c3, c4, c5], _ =>
    rw [k37] at h0 h3
    rw [k38] at h1
    rw [k5] at h2
    rw [k3] at h4 h5
    obtain ⟨oa, oc, os, e0, i0, l0⟩ := open_list h0 fun n hn => hw' n (DataW.weights_mem_each (j := 0) rfl rfl n hn)
    obtain ⟨ba, bc, bs, e3, i3, -⟩ := open_list h3 fun n hn => hw' n (DataW.weights_mem_each (j := 3) rfl rfl n hn)
    obtain ⟨f, f1, _, f3⟩ := DataW.trod_int Tryd.underlying45 h1
    obtain ⟨a, a1, _, a3⟩ := DataW.trod_int Tryd.underlying5 h2
    obtain ⟨u, u1, _, u3⟩ := DataW.trod_int Tryd.underlying3 h4
    obtain ⟨v, v1, _, v3⟩ := DataW.trod_int Tryd.underlying3 h5
    have e0' : [c0] = [Value.slice oa os.length oc] := e0
    have e3' : [c3] = [Value.slice ba bs.length bc] := e3
    have f1' : [c1] = [Value.int .i8 f] := f1
    have a1' : [c2] = [Value.int .u8 a] := a1
    have u1' : [c4] = [Value.int .i64 u] := u1
    have v1' : [c5] = [Value.int .i64 v] := v1
    obtain rfl : c0 = .slice oa os.length oc := by simpa using e0'
    obtain rfl : c3 = .slice ba bs.length bc := by simpa using e3'
    obtain rfl : c1 = .int .i8 f := by simpa using f1'
    obtain rfl : c2 = .int .u8 a := by simpa using a1'
    obtain rfl : c4 = .int .i64 u := by simpa using u1'
    obtain rfl : c5 = .int .i64 v := by simpa using v1'
    have w1 := wf8 f3
    have w2 := wfu8 a3
    have w4 := wf64 u3
    have w5 := wf64 v3
    exact ⟨⟨os, f, a, bs, u, v⟩, ⟨oa, oc, ba, bc⟩, ⟨⟨w1.1, w1.2, w2.1, w2.2, w4.1, w4.2, w5.1, w5.2⟩, i0, i3, l0⟩, rfl⟩

/-- The blocks, out of their cell. -/
theorem open_blocks {H : Type} {enc : TypeId × Value → H} {W : World} {fuel : Nat} {held : Bool} {cs : List Value} {y : DataW H × List MemPlace} (h : DataW.trod enc Tryd.prog W 0 (fun _ => true) held fuel 22 cs = some y) (hw : ∀ n, n ∈ y.1.weights Tryd.prog 22 → n ≤ reachBytes) :
    ∃ (ao : Option Addr) (cap : Nat) (ps : List Bk), cs = [.slice ao ps.length cap] ∧ PAt W ao ps ∧ ps.length ≤ cap ∧ cap ≤ maxLen := by
  have k40 : Tryd.prog.cellsOf 47 = 6 := by kernel_rfl
  have b40 : Tryd.prog.bytesOf 47 = 72 := by kernel_rfl
  rcases Deep.open_slice Tryd.underlying22 h with ⟨rfl, rfl⟩ | ⟨a, len, cap, m, n, D, Pl, rfl, _, hlc, hmx, hm, rfl, hx⟩
  · exact ⟨none, 0, [], rfl, pAt_none _ _, Nat.le_refl _, Nat.zero_le _⟩
  · have hmc : m = cap := by simpa using hm
    subst hmc
    have hall : ∀ n, n ∈ (m * 72) :: (DataW.weightsAll Tryd.prog 47 ((List.range len).map D) ++ DataW.weightsAll Tryd.prog 47 ((List.range (m - len)).map fun j => D (len + j))) → n ≤ reachBytes := fun n hn => by
      refine hw n ?_
      unfold DataW.weights
      simp only [Tryd.underlying22, b40]
      rw [show ((List.range len).map D).length + ((List.range (m - len)).map fun j => D (len + j)).length = m by simp; omega]
      exact hn
    have hcap : m * 72 ≤ reachBytes := hall _ (List.mem_cons_self ..)
    rw [reach_eq] at hcap
    rw [k40] at hx
    obtain ⟨X, hX⟩ := Deep.choose_lt (α := Bk) (n := len) (p := fun i x => ∃ p, BIn W x p ∧ W.cells? 0 (a.add (i * 6)) 6 = some (x.cells p).toList) (fun i hi => by
      obtain ⟨cs', h1, h2⟩ := hx i (by omega)
      obtain ⟨x, p, hb, rfl⟩ := open_b h2 fun n hn => hall n (List.mem_cons_of_mem _ (List.mem_append_left _ (weightsAll_mem (List.mem_map.2 ⟨i, List.mem_range.2 hi, rfl⟩) hn)))
      exact ⟨x, p, hb, h1⟩)
    refine ⟨some a, m, (List.range len).map X, by simp, ⟨by simp; omega, fun h0 => ?_⟩, by simpa using hlc, hmx⟩
    have h0' : 0 < len := by simpa using h0
    have ha : a = ⟨a.block, a.off, none⟩ := by
      obtain ⟨_, _, this⟩ := hX 0 h0'
      rw [show a.add (0 * 6) = a by unfold Addr.add; simp] at this
      exact spot_none this (by omega)
    refine ⟨a.block, a.off, by rw [← ha], ?_, fun i hi => ?_⟩
    · obtain ⟨_, _, this⟩ := hX 0 h0'
      rw [ha, addr_add] at this
      exact (cells_at this (by omega)).1
    · have hi' : i < len := by simpa using hi
      obtain ⟨p, hb, this⟩ := hX i hi'
      rw [ha, addr_add] at this
      have hc := (cells_at this (by omega)).2
      simp only [List.getElem_map, List.getElem_range]
      exact ⟨p, ⟨hc 0 _ rfl, hc 1 _ rfl, hc 2 _ rfl, hc 3 _ rfl, hc 4 _ rfl, hc 5 _ rfl⟩, hb⟩

/-- A program that comes in. -/
theorem open_prog {H : Type} {enc : TypeId × Value → H} {W : World} {r : Reach} {b0 : Nat} {held : Bool} {v : Value} {d : DataW H} {p : List MemPlace} (hv : Value.okWide Tryd.prog W r b0 24 v) (h : DataW.Trod enc Tryd.prog W 0 (fun _ => true) held 24 v d p) (hw : ∀ n, n ∈ d.weights Tryd.prog 24 → n ≤ reachBytes) :
    ∃ (ao : Option Addr) (cap : Nat) (ps : List Bk), v = .agg #[.slice ao ps.length cap] ∧ PAt W ao ps ∧ ps.length ≤ cap ∧ cap ≤ maxLen := by
  obtain ⟨cs, rfl, hsz⟩ := okWide_struct Tryd.underlying24 hv
  have k24 : Tryd.prog.cellsOf 24 = 1 := by kernel_rfl
  have k22 : Tryd.prog.cellsOf 22 = 1 := by kernel_rfl
  rw [k24] at hsz
  obtain ⟨l⟩ := cs
  clear hv
  match l, hsz with
  | [c0], _ =>
    obtain ⟨fuel, hf⟩ := h
    obtain ⟨xs, n, _, hx, _, hlen, hff⟩ := DataW.trod_struct Tryd.underlying24 hf
    match xs, hlen with
    | [y0], _ =>
      have h0 : DataW.trod enc Tryd.prog W 0 (fun _ => true) held n 22 ((([c0] : List Value).drop 0).take (Tryd.prog.cellsOf 22)) = some y0 := hff 0 _ rfl
      rw [k22] at h0
      have hd : d = .agg [y0.1] := by simpa using congrArg Prod.fst hx
      obtain ⟨ao, cap, ps, e, hp, h1, h2⟩ := open_blocks (y := y0) h0 fun n hn => hw n (by
        rw [hd]
        unfold DataW.weights
        simp only [Tryd.underlying24]
        exact DataW.weights_mem_each (ts := [22]) (ds := [y0.1]) (j := 0) rfl rfl n hn)
      have e' : [c0] = [Value.slice ao ps.length cap] := e
      obtain rfl : c0 = .slice ao ps.length cap := by simpa using e'
      exact ⟨ao, cap, ps, rfl, hp, h1, h2⟩
end Go.Proofs.YtlinekpaffgcjaaDoor.Op

namespace Go.Proofs.YtlinekpaffgcjaaDoor.Li
open Go.ChangeShapes Go.WideShapes Go.ChangeAt Go.RowKit
open _root_.Go.Proofs.YtlinekpaffgcjaaDoor.Op

set_option maxRecDepth 100000 in
theorem means_wit (os : Os) (H : Type) (enc : TypeId × Value → H) : ∃ (w : World) (tape : Tape) (i : Input), w.os = os ∧ (w.forCall tape i).Shaped Tryd.prog ∧ i.vars = [] ∧ Input.okWide Tryd.prog (w.forCall tape i) .any w.heap.size 4 i ∧
      ((Rows.liveMeansSpec.pre enc Tryd.prog Tryd.f4 [] false (w.forCall tape i).memory i.args ∧ laidMetH Tryd.prog Rows.liveMeansRow.laid (w.forCall tape i).memory) ∧ sizedMet enc Tryd.prog Tryd.f4 (OpenSpec.ofChange Rows.liveMeansSpec) false (w.forCall tape i).memory i.args) ∧ Assume.holds {} Tryd.prog (lone (Frame.enter Tryd.prog 4 i.args .normal) [] (w.forCall tape i)) :=
  ChangeSpec.witness_shaped (enc := enc) (C := Tryd.checked) (os := os) (X := fun w _ => laidMetH Tryd.prog Rows.liveMeansRow.laid w) false ((World.holding Tryd.prog os ⟨#[], #[], []⟩).layVars Tryd.prog laid1) #[.agg #[.slice none 0 0], .int .i64 0, .int .u8 0] 8 (wit_os os)
    (World.shaped_of_ZipB (by kernel_rfl) (by kernel_rfl)) (by kernel_rfl) (by kernel_rfl) (by kernel_rfl) (wit_met os _)

set_option maxRecDepth 100000 in
theorem means_lifted (os : Os) (started : os.Started) (H : Type) (enc : TypeId × Value → H) :
    ReturnsInHanded {} Tryd.checked os 4 .any (fun w args => (Rows.liveMeansSpec.pre enc Tryd.prog Tryd.f4 [] false w args ∧ laidMetH Tryd.prog Rows.liveMeansRow.laid w) ∧ sizedMet enc Tryd.prog Tryd.f4 (OpenSpec.ofChange Rows.liveMeansSpec) false w args)
      (Rows.liveMeansSpec.post enc Tryd.prog Tryd.f4 false true false false) := by
  refine wrap started (by kernel_rfl) Tryd.func4 (means_wit os H enc) ?_
  intro W base args ds gs before hval0 hW hsz hL _
  have hval : ∀ (j : Nat) t v, Tryd.f4.params[j]? = some t → args[j]? = some v → Value.okWide Tryd.prog W .any base t v := hval0
  have hW' := hW
  obtain ⟨p, q, hA0, hV, rfl, _, _⟩ := hW
  have hA : DataW.TrodAll enc Tryd.prog W 0 (fun _ => true) true Tryd.f4.params.toList args.toList ds p := hA0
  rw [Tryd.params4] at hA hval hsz
  obtain ⟨v0, v1, v2, d0, d1, d2, p0, p1, p2, rfl, rfl, rfl, h0, h1, h2⟩ := trodAll_three hA
  obtain ⟨rfl, rfl⟩ := trodVars_none hV
  obtain ⟨ao, cap, ps, rfl, hp, hc, hm⟩ := open_prog (hval 0 24 v0 rfl rfl) h0 fun n hn => by
    have := List.all_eq_true.1 hsz n (DataW.weights_mem_each (j := 0) rfl rfl n hn)
    simpa using this
  obtain ⟨n, rfl, rfl, rfl, hn⟩ := open_int Tryd.underlying3 (hval 1 3 v1 rfl rfl) h1
  obtain ⟨m, rfl, rfl, rfl, hm2⟩ := open_int Tryd.underlying5 (hval 2 5 v2 rfl rfl) h2
  obtain ⟨r, rfl⟩ : ∃ r : Nat, m = (r : Int) := ⟨m.toNat, by have := wfu8 hm2; omega⟩
  simp only [List.append_nil] at hW'
  refine (law_means ao cap ps n r W hp (env_of hL)).mono fun e W' ⟨he, hb⟩ => ?_
  subst he
  refine ⟨_, rfl, _, _, _, [], p0 ++ ([] ++ []), [], hW', trodAll_mk1 (shut_bool Tryd.underlying4 _), ?_, rfl, hb.frame _, fun h => by cases h⟩
  rw [Tryd.params4]
  refine trodAll_mk3 (Below.trod laidOut (by kernel_rfl) (by rw [tySize]; decide) h0 hb fun x hx => ?_) (Below.trod laidOut (by kernel_rfl) (by rw [tySize]; decide) h1 hb (fun x hx => by cases hx)) (Below.trod laidOut (by kernel_rfl) (by rw [tySize]; decide) h2 hb (fun x hx => by cases hx))
  obtain ⟨fuel, hf⟩ := h0
  exact DataW.trod_lt _ _ _ _ hf x hx

theorem means_row : Rows.LiveMeansSaid :=
  OpenClaim.holds_of_wide 4 Tryd.f4 rfl rfl rfl rfl rfl rfl rfl ⟨rfl, rfl, rfl, rfl, rfl⟩ rfl rfl rfl rfl rfl (by kernel_rfl) Tryd.func4 (by kernel_rfl)
    (of_decide_eq_true (by kernel_rfl)) (by unfold Func.isWrapper; first | (rw [if_pos (by decide +kernel)]; kernel_rfl) | (rw [if_neg (by decide +kernel)]; exact ⟨rfl, rfl⟩))
    (fun os started H enc _ => means_lifted os started H enc)

theorem means : Rows.LiveMeansCardSaid :=
  Claim7.holds_tied_plain_at .later [] [.data] true (true, "75e7f77dae7501dedbe8b7086441ab48424e2c82ddf11b836d99d5a1a0a0c239") false means_row (fun _ h => by cases h) (by kernel_rfl) (fun _ h => by cases h) liveMeans_row_tie rfl ⟨rfl, rfl⟩ (by kernel_rfl) rfl
    (fun f fn hf hfn => by
      obtain rfl : f = 4 := Option.some.inj ((show Tryd.prog.funcNamed "hayloft/hayloftlaw08.LiveMeans" = some 4 by kernel_rfl).symm.trans hf) |>.symm
      obtain rfl : fn = Tryd.f4 := (Option.some.inj (Tryd.func4.symm.trans hfn)).symm
      exact ⟨by kernel_rfl, fun j t ht => by
        rw [Tryd.params4] at ht
        have hm : t ∈ [24, 3, 5] := by simpa using Array.mem_of_getElem? ht
        have hall : ([24, 3, 5].all fun u => !Tryd.prog.wantsStandIn u) = true := by kernel_rfl
        exact (show Tryd.prog.wantsStandIn t = false by simpa using List.all_eq_true.1 hall t hm)⟩)
    (by kernel_rfl)

end Go.Proofs.YtlinekpaffgcjaaDoor.Li
