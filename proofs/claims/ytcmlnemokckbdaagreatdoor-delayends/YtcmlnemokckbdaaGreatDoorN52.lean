/- Parts Wv. -/
import Derived.Test.YtcmlnemokckbdaaGreatDoorN45
import Derived.Test.YtcmlnemokckbdaaGreatDoorN51
import Derived.ChangeSlices
set_option maxRecDepth 20000
namespace Go.Proofs.YtcmlnemokckbdaaGreatDoor.Ls
open Go.ChangeShapes Go.WideShapes Go.ChangeAt Go.RowKit
open YtcmlnemokckbdaaGreatDoor.Op YtcmlnemokckbdaaGreatDoor.So YtcmlnemokckbdaaGreatDoor.Dp YtcmlnemokckbdaaGreatDoor.ListWay
open YtcmlnemokckbdaaGreatDoor.Tb (Tab TabAt Bnds)
theorem cell_spot57 {w:World} {a:Addr} {v:Value} (h:w.cell? a=some v):a=⟨a.block,a.off,none⟩:=by
 obtain ⟨b,f,s⟩:=a
 cases s with
 | none=>rfl
 | some s=>
  unfold World.cell? at h
  split at h
  ·simp at h
  ·cases h
theorem nums_small {H:Type} {enc:TypeId×Value->H} {W:World} {held:Bool} {ao:Option Addr} {n cap:Nat} {d:DataW H} {p:List MemPlace} (h:DataW.Trod enc Tryz.prog W 0 (fun _=>true) held 29 (.slice ao n cap) d p) (hw:∀ n,n∈d.weights Tryz.prog 29->n<=reachBytes):n<=17592186044400:=by
 have b49:Tryz.prog.bytesOf 3=8:=by kernel_rfl
 obtain ⟨fuel,hf⟩:=h;have hf':DataW.trod enc Tryz.prog W 0 (fun _=>true) held fuel 29 [.slice ao n cap]=some (d,p):=hf;rcases Deep.open_slice Tryz.underlying29 hf' with ⟨e,-⟩|⟨a,len,cap2,m,q,D,Pl,e,-,hlc,-,hm,e2,-⟩
 ·injection e with e _
  injection e with _ e _
  omega
 ·have hmc:m=cap2:=by simpa using hm
  have hcap:m*8<=reachBytes:=by
   refine hw _ ?_;have e3:d=_:=congrArg Prod.fst e2;rw [e3];unfold DataW.weights;simp only [Tryz.underlying29,b49];refine List.mem_cons.2 (.inl ?_)
   simp;omega
  rw [reach_eq] at hcap
  injection e with e _
  injection e with _ e _
  omega
theorem open_nums {H:Type} {enc:TypeId×Value->H} {W:World} {r:Reach} {b0:Nat} {held:Bool} {v:Value} {d:DataW H} {p:List MemPlace} (hv:Value.okWide Tryz.prog W r b0 29 v) (h:DataW.Trod enc Tryz.prog W 0 (fun _=>true) held 29 v d p) (hw:∀ n,n∈d.weights Tryz.prog 29->n<=reachBytes) :
  ∃ (la:Option Addr) (lc n:Nat) (g:Nat->Int),v=.slice la n lc/\n<=17592186044400/\((la=none/\n=0/\lc=0)\/∃ x,la=some x/\Nl W (some x) n g/\(∀ j u,(ncells n g)[j]?=some u->W.cell? (x.add j)=some u)/\(n=0\/x.block<W.heap.size)):=by
 obtain ⟨a0,len0,cap0,rfl⟩:=okWide_slice Tryz.underlying29 hv;have hsm:=nums_small h hw;obtain ⟨fuel,hf⟩:=h;have hf':DataW.trod enc Tryz.prog W 0 (fun _=>true) held fuel 29 [.slice a0 len0 cap0]=some (d,p):=hf;rcases open_ints (P:=Tryz.prog) Tryz.underlying29 Tryz.underlying3 (by kernel_rfl) hf' with ⟨e,-⟩|⟨a,len,cap,zs,e,-,hl,hc,hz,-,hcell,hwf⟩
 ·refine ⟨none,0,0,fun _=>0,by simpa using e,by omega,.inl ⟨rfl,rfl,rfl⟩⟩
 ·have hz:zs.length=cap:=by simpa using hz
  simp only [List.cons.injEq,Value.slice.injEq,and_true] at e;obtain ⟨rfl,rfl,rfl⟩:=e;refine ⟨some a,cap0,len0,fun k=>zs.getD k 0,rfl,hsm,.inr ⟨a,rfl,⟨fun h0=>?_,fun k hk=>?_⟩,fun j u hu=>?_,?_⟩⟩
  ·have h1:=hcell 0 (by omega);rw [show a.add 0=a by unfold Addr.add;simp] at h1;have ha:=cell_spot57 h1;refine ⟨a.block,a.off,by rw [<- ha],World.block_lt_of_cell? W a h1,fun i hi=>?_⟩;have h2:=hcell i (by omega);rw [ha,show (⟨a.block,a.off,none⟩:Addr).add i=⟨a.block,a.off+i,none⟩ by simp [Addr.add]] at h2;exact h2
  ·have hm:zs.getD k 0∈zs:=by
    have hk':k<zs.length:=by omega
    rw [List.getD_eq_getElem?_getD,List.getElem?_eq_getElem hk'];exact List.getElem_mem hk'
   exact wf64 (hwf _ hm)
  ·unfold ncells at hu;rw [List.getElem?_map] at hu;obtain ⟨k,hk,rfl⟩:=Option.map_eq_some_iff.1 hu;obtain ⟨hj,rfl⟩:=List.getElem?_eq_some_iff.1 hk;simp only [List.length_range] at hj;simp only [List.getElem_range];exact hcell j (by omega)
  ·by_cases h0:len0=0
   ·exact .inl h0
   ·exact .inr (by have h1:=hcell 0 (by omega);rw [show a.add 0=a by unfold Addr.add;simp] at h1;exact World.block_lt_of_cell? W a h1)
end Go.Proofs.YtcmlnemokckbdaaGreatDoor.Ls
