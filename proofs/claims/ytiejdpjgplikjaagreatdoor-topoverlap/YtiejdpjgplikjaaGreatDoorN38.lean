/- Parts Zk Zm. -/
import Derived.Test.YtiejdpjgplikjaaGreatDoorN17
import Derived.Test.YtiejdpjgplikjaaGreatDoorN18
import Derived.Deep.WholeRow
import Derived.Test.YtiejdpjgplikjaaGreatDoorN21
set_option maxRecDepth 20000
namespace Go.Proofs.YtiejdpjgplikjaaGreatDoor.Bn
open Go.ChangeShapes Go.WideShapes Go.ChangeAt Go.RowKit
open YtiejdpjgplikjaaGreatDoor.Op YtiejdpjgplikjaaGreatDoor.So
open YtiejdpjgplikjaaGreatDoor.Dp (Ed)
theorem info3:(Tryz.prog.info? 3).map (fun i=>(i.zero,i.size,i.bytes))=some (some (.int .i64 0),1,8):=by kernel_rfl
structure Lw (w W:World) (b n:Nat) (g:Nat->Int) (a:Option Addr) (es:List Ed):Prop where
 m:Iv W b n g
 e:Es W a es
 up:Below w.heap.size w W
 hb:w.heap.size<=b
 ha:∀ x,a=some x->x.block<w.heap.size
theorem Lw.next {w W W':World} {b n:Nat} {g:Nat->Int} {a:Option Addr} {es:List Ed} (h:Lw w W b n g a es) (k:Below W.heap.size W W'):Lw w W' b n g a es:=⟨h.m.up k,h.e.up k,h.up.trans (k.mono h.up.size),h.hb,h.ha⟩
theorem Lw.set {w W:World} {b n:Nat} {g:Nat->Int} {a:Option Addr} {es:List Ed} (h:Lw w W b n g a es) {k:Nat} (hk:k<n) (v:Int):Lw w (W.setCell ⟨b,k,none⟩ (.int .i64 v)) b n (up1 g k v) a es:=
 ⟨h.m.set hk v,h.e.fr ((So.Fr.refl (So.One b) W).setCell (.inr rfl) _ _) fun x hx e=>by have:=h.ha x hx;have:=h.hb;have e:x.block=b:=e;omega,h.up.setCell h.hb _,h.hb,h.ha⟩
def Bd (n:Nat) (g:Nat->Int) (M:Int):Prop:=∀ i,i<n->0<=g i/\g i<=M
theorem Bd.rlx {n:Nat} {g:Nat->Int} {M q:Int} {e:Ed} (h:Bd n g M) (he:EIn n e) (hq:0<=q):Bd n (rlx q g e) (M+8):=fun i hi=>by
 have h1:=h i hi;have f0:=he.f0;have fn:=he.fn;have t0:=he.t0;have tn:=he.tn;have l8:=he.l8;have h2:=h e.f.toNat (by omega);have h3:=h e.t.toNat (by omega);have hw:wt q e<=8:=by
  unfold wt;rcases he.d with ⟨e1,-⟩|e1 <;> rw [e1] <;> simp <;> omega
 unfold Bn.rlx
 split
 ·unfold up1
  split
  ·rename_i c;omega
  ·omega
 ·omega
theorem Bd.up {n:Nat} {g:Nat->Int} {M K:Int} (h:Bd n g M) (hk:M<=K):Bd n g K:=fun i hi=>by have:=h i hi;omega
end Go.Proofs.YtiejdpjgplikjaaGreatDoor.Bn
namespace Go.Proofs.YtiejdpjgplikjaaGreatDoor.Bn
open Go.ChangeShapes Go.WideShapes Go.ChangeAt Go.RowKit
open YtiejdpjgplikjaaGreatDoor.Op YtiejdpjgplikjaaGreatDoor.So
open YtiejdpjgplikjaaGreatDoor.Dp (Ed lisE okL loopE EdOut EOwn erE loop_any lis_all)
open YtiejdpjgplikjaaGreatDoor.Tb (Tab TabAt Bnds ckR)
theorem ops_take {w:World} {ao:Option Addr} {xs:List O} (h:OpsAt w ao xs) (k:Nat):OpsAt w ao (xs.take k):=by
 refine ⟨fun o ho=>h.ok o (List.mem_of_mem_take ho),by have:=h.len;rw [List.length_take];omega,fun h0=>?_⟩;rw [List.length_take] at h0;obtain ⟨b,f,e,z,hx⟩:=h.is (by omega);refine ⟨b,f,e,z,fun i hi=>?_⟩;rw [List.length_take] at hi;rw [List.getElem_take];exact hx i (by omega)
end Go.Proofs.YtiejdpjgplikjaaGreatDoor.Bn
