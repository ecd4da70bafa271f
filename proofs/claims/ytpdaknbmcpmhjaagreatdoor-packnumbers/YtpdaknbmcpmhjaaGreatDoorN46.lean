/- Parts Xo Xq. -/
import Derived.Test.YtpdaknbmcpmhjaaGreatDoorN02
import Derived.Test.YtpdaknbmcpmhjaaGreatDoorN29
import Derived.Test.YtpdaknbmcpmhjaaGreatDoorTie
import Derived.Test.YtpdaknbmcpmhjaaGreatDoorCards
import Derived.ProofKit
import Derived.HandedShaped
import Derived.Shelf.Vars
import Derived.Lib.LaidU8
import Derived.Lay
import Derived.LaidHandle
import Derived.LaidLaws
import Derived.Stop.Joined
import Derived.RowKitTokens
import Derived.SevenTiedAt
import Derived.Carry
import Derived.ChangeMaps5
import Derived.Deep.Slices
import Derived.Lib.SmallJoins
import Derived.SizedLaws
import Derived.ChangeOld
import Derived.OpenShut
import Derived.Test.YtpdaknbmcpmhjaaGreatDoorN23
set_option maxRecDepth 100000
namespace Go.Proofs.YtpdaknbmcpmhjaaGreatDoor.Op
open Go.ChangeShapes Go.WideShapes Go.ChangeAt Go.RowKit
open Tb (Tab)
theorem own:ownKnob Tryz.prog.godebug=none:=by kernel_rfl
theorem bnd_of {W:World} {n:String} {g:Nat} {a b:Int} (h:Lib.VarReads Tryz.prog W n (.agg [.lit (.int .i64 a),.lit (.int .i64 b)])) (hg:Tryz.prog.globalNamed n=some g) (ht:(Tryz.prog.globals[g]?).map (·.type)=some 210) :
  W.cell? ⟨g,0,none⟩=some (.int .i64 a)/\W.cell? ⟨g,1,none⟩=some (.int .i64 b):=by
 obtain ⟨g0,t0,cs,fuel,p,h1,h2,h3,h4⟩:=h;obtain rfl:=Option.some.inj (hg.symm.trans h1);obtain rfl:=Option.some.inj (ht.symm.trans h2);obtain ⟨y0,y1,n',hx,hl,e0,e1⟩:=trod_struct2 Tryz.underlying210 h4;have c3:Tryz.prog.cellsOf 3=1:=by kernel_rfl
 have c62:Tryz.prog.cellsOf 210=2:=by kernel_rfl
 obtain ⟨k0,f0,f1,_⟩:=DataW.trod_int Tryz.underlying3 e0;obtain ⟨k1,f2,f3,_⟩:=DataW.trod_int Tryz.underlying3 e1;rw [c3] at f0 f2;rw [c62] at hl;obtain ⟨l⟩:=cs
 match l,hl with
 | [v0,v1],_=>
  simp at f0 f2
  subst f0 f2;simp [f1,f3] at hx
  obtain ⟨⟨rfl,rfl⟩,_⟩:=hx;exact ⟨by simpa using World.var?_cell h1 h3 0,by simpa using World.var?_cell h1 h3 1⟩
theorem trod_bool1 {H:Type} {enc:TypeId×Value->H} {W:World} {base fuel:Nat} {sp:Nat->Bool} {held:Bool} {c:Value} {y:DataW H×List MemPlace} (h:DataW.trod enc Tryz.prog W base sp held fuel 4 [c]=some y):∃ b:Bool,c=.bool b/\y.1=.lit (.bool b):=by
 obtain ⟨b,e,f⟩:=DataW.trod_bool Tryz.underlying4 h;exact ⟨b,by simpa using e,by rw [f]⟩
theorem big_of {W:World} (hsh:W.ShapedOpen Tryz.prog):5<=W.heap.size:=by
 have globs:Tryz.prog.globals.size=5:=by kernel_rfl
 have big:5<(begin Tryz.prog (fun _ _=>0) default).world.heap.size:=of_decide_eq_true (by kernel_rfl);obtain ⟨o,o0,h1,_⟩:=hsh.2 5 (by rw [globs];decide) big;rcases Nat.lt_or_ge 5 W.heap.size with h|h
 ·omega
 ·rw [Array.getElem?_eq_none h] at h1;cases h1
theorem bnds_of {W:World} {l:List (String×DataW Unit)} (hP:laidMet Tryz.prog l W) (hu:("hayloft/table.unitsBounds",Rows.laid_hayloft_table_unitsBounds)∈l) (hl:("hayloft/table.latBounds",Rows.laid_hayloft_table_latBounds)∈l) (hb:("hayloft/table.busyBounds",Rows.laid_hayloft_table_busyBounds)∈l) (hd:("hayloft/table.delayBounds",Rows.laid_hayloft_table_delayBounds)∈l) (hz:5<=W.heap.size):Tb.Bnds W:=by
 have hd:=bnd_of (Lib.laidMet.reads hP (n:= "hayloft/table.delayBounds") (d:=Rows.laid_hayloft_table_delayBounds) hd) (g:=0) (by kernel_rfl) (by kernel_rfl);have hu:=bnd_of (Lib.laidMet.reads hP (n:= "hayloft/table.unitsBounds") (d:=Rows.laid_hayloft_table_unitsBounds) hu) (g:=1) (by kernel_rfl) (by kernel_rfl);have hl:=bnd_of (Lib.laidMet.reads hP (n:= "hayloft/table.latBounds") (d:=Rows.laid_hayloft_table_latBounds) hl) (g:=2) (by kernel_rfl) (by kernel_rfl);have hb:=bnd_of (Lib.laidMet.reads hP (n:= "hayloft/table.busyBounds") (d:=Rows.laid_hayloft_table_busyBounds) hb) (g:=3) (by kernel_rfl) (by kernel_rfl);exact ⟨hd.1,hd.2,hu.1,hu.2,hl.1,hl.2,hb.1,hb.2,hz⟩
theorem wrap {H:Type} {enc:TypeId×Value->H} {os:Os} {f:FuncId} {fn:Func} {s:ChangeSpec} {lv:List (String×DataW Unit)} (started:os.Started) (noInit:Tryz.prog.inits.idxOf? f=none) (hfn:Tryz.prog.funcs[f]?=some fn)
  (witness:∃ (w:World) (tape:Tape) (i:Input),w.os=os/\(w.forCall tape i).Shaped Tryz.prog/\i.vars=[]/\Input.okWide Tryz.prog (w.forCall tape i) .any w.heap.size f i /\
   ((s.pre enc Tryz.prog fn [] false (w.forCall tape i).memory i.args/\laidMetH Tryz.prog lv (w.forCall tape i).memory)/\sizedMet enc Tryz.prog fn (OpenSpec.ofChange s) false (w.forCall tape i).memory i.args)/\Assume.holds {} Tryz.prog (lone (Frame.enter Tryz.prog f i.args .normal) [] (w.forCall tape i)))
  (contract:∀ (W:World) (base:Nat) (args:Array Value) (ds gs:List (DataW H)) (before:List MemPlace),
   (∀ (j:Nat) t v,fn.params[j]?=some t->args[j]?=some v->Value.okWide Tryz.prog W .any base t v)->
   DataW.Whole enc Tryz.prog fn.params.toList s.vars false W args.toList ds gs before->
   (DataW.weightsEach Tryz.prog (fn.params.toList++s.plain.varTypes Tryz.prog) (ds++gs)).all (·<=reachBytes)=true->
   laidMetH Tryz.prog lv W->W.ShapedOpen Tryz.prog->
   Calls Tryz.prog f args W fun e W'=>∃ v,e=.returned v/\s.post enc Tryz.prog fn false true false false W args v W') :
  ReturnsInHanded {} Tryz.checked os f .any (fun w args=>(s.pre enc Tryz.prog fn [] false w args/\laidMetH Tryz.prog lv w)/\sizedMet enc Tryz.prog fn (OpenSpec.ofChange s) false w args) (s.post enc Tryz.prog fn false true false false):=by
 refine returnsInHanded_of_calls (C:=Tryz.checked) own started noInit witness ?_;intro w tape i _ hsh _ hok hpre hholds;obtain ⟨_,_,_,fn',hfn',_,_,_,_,hval⟩:=hok;have e:fn'=fn:=Option.some.inj (hfn'.symm.trans hfn);subst e;obtain ⟨⟨⟨ds,gs,before,hw,hc⟩,hx⟩,hz⟩:=hpre;have hw':=DataW.Whole.of_heap (w':=w.forCall tape i) (by rfl) hw;refine (contract (w.forCall tape i) w.heap.size i.args ds gs before hval hw' (hz.weights hw) (hx.of_heap (by rfl)) hsh).mono fun e W' ⟨v,he,hp⟩=>?_;subst he;exact ChangeSpec.post_blind hp
theorem tySize:Tryz.prog.types.size=448:=by kernel_rfl
theorem laidOut:laidOutB Tryz.prog=true:=by kernel_rfl
theorem trod_ints4 {H:Type} {enc:TypeId×Value->H} {W:World} {base fuel:Nat} {sp:Nat->Bool} {held:Bool} {c0 c1 c2 c3:Value} {y:DataW H×List MemPlace} (h:DataW.trod enc Tryz.prog W base sp held fuel 25 [c0,c1,c2,c3]=some y) :
  ∃ a b c d:Int,c0=.int .i64 a/\c1=.int .i64 b/\c2=.int .i64 c/\c3=.int .i64 d/\y.2=[]:=by
 obtain ⟨xs,m,_,hx,_,hn,he⟩:=DataW.trod_array Tryz.underlying25 h;have k3:Tryz.prog.cellsOf 3=1:=by kernel_rfl
 rw [k3] at he;have h0:=he 0 (by omega);have h1:=he 1 (by omega);have h2:=he 2 (by omega);have h3:=he 3 (by omega)
 match xs,hn with
 | [x0,x1,x2,x3],_=>
  obtain ⟨a,a1,a2,_⟩:=DataW.trod_int Tryz.underlying3 h0;obtain ⟨b,b1,b2,_⟩:=DataW.trod_int Tryz.underlying3 h1;obtain ⟨c,c1',c2',_⟩:=DataW.trod_int Tryz.underlying3 h2;obtain ⟨d,d1,d2,_⟩:=DataW.trod_int Tryz.underlying3 h3;simp at a1 b1 c1' d1
  refine ⟨a,b,c,d,a1,b1,c1',d1,?_⟩;rw [hx];simp [a2,b2,c2',d2]
def ofFour (a b c d:Int):Nat->Int:=fun k=>if k=0 then a else if k=1 then b else if k=2 then c else d
theorem open_tab {H:Type} {enc:TypeId×Value->H} {W:World} {r:Reach} {b0 base:Nat} {sp:Nat->Bool} {held:Bool} {v:Value} {d:DataW H} {p:List MemPlace} (hv:Value.okWide Tryz.prog W r b0 27 v) (h:DataW.Trod enc Tryz.prog W base sp held 27 v d p):(∃ t:Tab,v=t.val)/\p=[]:=by
 obtain ⟨cs,rfl,hsz⟩:=okWide_struct Tryz.underlying27 hv;have k27:Tryz.prog.cellsOf 27=13:=by kernel_rfl
 have k25:Tryz.prog.cellsOf 25=4:=by kernel_rfl
 have k3:Tryz.prog.cellsOf 3=1:=by kernel_rfl
 rw [k27] at hsz;obtain ⟨l⟩:=cs;clear hv
 match l,hsz with
 | [c0,c1,c2,c3,c4,c5,c6,c7,c8,c9,c10,c11,c12],_=>
  obtain ⟨fuel,hf⟩:=h;obtain ⟨y0,y1,y2,y3,n,hx,_,h0,h1,h2,h3⟩:=Joins.trod_struct4 Tryz.underlying27 hf;rw [k25] at h0 h1 h2;rw [k3] at h3;obtain ⟨a0,a1,a2,a3,rfl,rfl,rfl,rfl,e0⟩:=trod_ints4 h0;obtain ⟨l0,l1,l2,l3,rfl,rfl,rfl,rfl,e1⟩:=trod_ints4 h1;obtain ⟨b0,b1,b2,b3,rfl,rfl,rfl,rfl,e2⟩:=trod_ints4 h2;obtain ⟨dd,f1,f2,_⟩:=DataW.trod_int Tryz.underlying3 h3;have f1':[c12]=[Value.int .i64 dd]:=f1;obtain rfl:c12=.int .i64 dd:=by simpa using f1'
  refine ⟨⟨⟨ofFour a0 a1 a2 a3,ofFour l0 l1 l2 l3,ofFour b0 b1 b2 b3,dd⟩,rfl⟩,?_⟩;simp [e0,e1,e2,f2] at hx
  exact hx.2
theorem reach_eq:reachBytes=140737488351232:=rfl
def laid5:List (String×DataW Unit):=[("hayloft/table.unitsBounds",Rows.laid_hayloft_table_unitsBounds),("hayloft/table.latBounds",Rows.laid_hayloft_table_latBounds),("hayloft/table.busyBounds",Rows.laid_hayloft_table_busyBounds),("hayloft/table.delayBounds",Rows.laid_hayloft_table_delayBounds),("hayloft/program.ends",Rows.laid_hayloft_program_ends)]
theorem trod_end {H:Type} {enc:TypeId×Value->H} {W:World} {base fuel:Nat} {sp:Nat->Bool} {held:Bool} {c0 c1 c2 c3:Value} {y:DataW H×List MemPlace} (h:DataW.trod enc Tryz.prog W base sp held fuel 147 [c0,c1,c2,c3]=some y) :
  ∃ a b c d:Bool,c0=.bool a/\c1=.bool b/\c2=.bool c/\c3=.bool d/\y.1=.agg [.lit (.bool a),.lit (.bool b),.lit (.bool c),.lit (.bool d)]:=by
 obtain ⟨y0,y1,y2,y3,n,hx,_,h0,h1,h2,h3⟩:=Joins.trod_struct4 Tryz.underlying147 h;have k4:Tryz.prog.cellsOf 4=1:=by kernel_rfl
 rw [k4] at h0 h1 h2 h3;obtain ⟨a,e0,f0⟩:=trod_bool1 h0;obtain ⟨b,e1,f1⟩:=trod_bool1 h1;obtain ⟨c,e2,f2⟩:=trod_bool1 h2;obtain ⟨d,e3,f3⟩:=trod_bool1 h3;exact ⟨a,b,c,d,e0,e1,e2,e3,by rw [hx,f0,f1,f2,f3]⟩
theorem ends_of {W:World} (h:Lib.VarReads Tryz.prog W "hayloft/program.ends" Rows.laid_hayloft_program_ends):EndsAt W:=by
 have hg:Tryz.prog.globalNamed "hayloft/program.ends" = some 4:=by kernel_rfl
 have ht:(Tryz.prog.globals[4]?).map (·.type)=some 232:=by kernel_rfl
 obtain ⟨g0,t0,cs,fuel,p,h1,h2,h3,h4⟩:=h;obtain rfl:=Option.some.inj (hg.symm.trans h1);obtain rfl:=Option.some.inj (ht.symm.trans h2);obtain ⟨xs,m,_,hx,hl,hn,he⟩:=DataW.trod_array Tryz.underlying232 h4;have c73:Tryz.prog.cellsOf 147=4:=by kernel_rfl
 have c85:Tryz.prog.cellsOf 232=16:=by kernel_rfl
 rw [c85] at hl;rw [c73] at he;obtain ⟨l⟩:=cs
 match xs,hn,l,hl with
 | [x0,x1,x2,x3],_,[v0,v1,v2,v3,v4,v5,v6,v7,v8,v9,va,vb,vc,vd,ve,vf],_=>
  obtain ⟨a0,a1,a2,a3,rfl,rfl,rfl,rfl,e0⟩:=trod_end (he 0 (by omega));obtain ⟨b0,b1,b2,b3,rfl,rfl,rfl,rfl,e1⟩:=trod_end (he 1 (by omega));obtain ⟨c0,c1,c2,c3,rfl,rfl,rfl,rfl,e2⟩:=trod_end (he 2 (by omega));obtain ⟨d0,d1,d2,d3,rfl,rfl,rfl,rfl,e3⟩:=trod_end (he 3 (by omega));simp [Rows.laid_hayloft_program_ends,e0,e1,e2,e3] at hx
  obtain ⟨⟨⟨rfl,rfl,rfl,rfl⟩,⟨rfl,rfl,rfl,rfl⟩,⟨rfl,rfl,rfl,rfl⟩,⟨rfl,rfl,rfl,rfl⟩⟩,_⟩:=hx;have cc:=fun i=>World.var?_cell h1 h3 i;refine ⟨Tb.four (p:=fun k=>W.cell? ⟨4,k*4,none⟩=some (.bool (eA k))/\W.cell? ⟨4,k*4+1,none⟩=some (.bool (eB k))/\W.cell? ⟨4,k*4+2,none⟩=some (.bool (eT k))/\W.cell? ⟨4,k*4+3,none⟩=some (.bool (eE k))) ⟨?_,?_,?_,?_⟩ ⟨?_,?_,?_,?_⟩ ⟨?_,?_,?_,?_⟩ ⟨?_,?_,?_,?_⟩⟩
  ·exact (cc 0)
  ·exact (cc 1)
  ·exact (cc 2)
  ·exact (cc 3)
  ·exact (cc 4)
  ·exact (cc 5)
  ·exact (cc 6)
  ·exact (cc 7)
  ·exact (cc 8)
  ·exact (cc 9)
  ·exact (cc 10)
  ·exact (cc 11)
  ·exact (cc 12)
  ·exact (cc 13)
  ·exact (cc 14)
  ·exact (cc 15)
theorem env5 {W:World} (hL:laidMetH Tryz.prog laid5 W) (hsh:W.ShapedOpen Tryz.prog):Env W:=by
 have hP:laidMet Tryz.prog laid5 W:=hL;have he:=ends_of (Lib.laidMet.reads hP (n:= "hayloft/program.ends") (d:=Rows.laid_hayloft_program_ends) (by simp [laid5]));exact ⟨bnds_of (l:=laid5) hL (by simp [laid5]) (by simp [laid5]) (by simp [laid5]) (by simp [laid5]) (big_of hsh),he⟩
theorem wit_met5 (os:Os) (args:Array Value):laidMetH Tryz.prog laid5 ((((World.holding Tryz.prog os ⟨#[],#[],[]⟩).layVars Tryz.prog laid5).forCall (fun _ _=>0) ⟨#[],args,[]⟩).memory):=by
 refine laidMetH_of_parts ?_ (by kernel_rfl);have h:laidMet Tryz.prog laid5 ((World.holding Tryz.prog os ⟨#[],#[],[]⟩).layVars Tryz.prog laid5):=
  laidMet_layVars (w0:=World.holding Tryz.prog os ⟨#[],#[],[]⟩) ["hayloft/table.unitsBounds","hayloft/table.latBounds","hayloft/table.busyBounds","hayloft/table.delayBounds","hayloft/program.ends"] [] (by rw [show (laid5.filter fun x=>(["hayloft/table.unitsBounds","hayloft/table.latBounds","hayloft/table.busyBounds","hayloft/table.delayBounds","hayloft/program.ends"]:List String).contains x.1)=laid5 from by kernel_rfl]) (by kernel_rfl) (by kernel_rfl) (by rw [show (laid5.filter fun x=>!(["hayloft/table.unitsBounds","hayloft/table.latBounds","hayloft/table.busyBounds","hayloft/table.delayBounds","hayloft/program.ends"]:List String).contains x.1)=[] from by kernel_rfl];exact LaidIn.none)
 exact h.of_heap (by simp [World.memory,World.forCall,Input.heap])
theorem wit_os5 (os:Os):((World.holding Tryz.prog os ⟨#[],#[],[]⟩).layVars Tryz.prog laid5).os=os:=World.layVars_os _ _ _
end Go.Proofs.YtpdaknbmcpmhjaaGreatDoor.Op
namespace Go.Proofs.YtpdaknbmcpmhjaaGreatDoor.Bu
open Go.ChangeShapes Go.WideShapes Go.ChangeAt Go.RowKit
open YtpdaknbmcpmhjaaGreatDoor.Op
theorem cell_spot {w:World} {a:Addr} {v:Value} (h:w.cell? a=some v):a=⟨a.block,a.off,none⟩:=by
 obtain ⟨b,f,s⟩:=a
 cases s with
 | none=>rfl
 | some s=>
  unfold World.cell? at h
  split at h
  ·simp at h
  ·cases h
theorem wfu64 {n:Int} (h:(Lit.int .u64 n).wf=true):0<=n/\n<18446744073709551616:=by
 simp [Lit.wf,IntKind.min,IntKind.max,IntKind.signed,IntKind.bits] at h
 omega
theorem open_ws {H:Type} {enc:TypeId×Value->H} {W:World} {held:Bool} {fuel:Nat} {v:Value} {d:DataW H} {p:List MemPlace} (hf':DataW.trod enc Tryz.prog W 0 (fun _=>true) held fuel 71 [v]=some (d,p)) (hw:∀ n,n∈d.weights Tryz.prog 71->n<=reachBytes) :
  ∃ (ao:Option Addr) (n cap:Nat) (g:Nat->Int),v=.slice ao n cap/\n<=cap/\n<=17592186044416/\Ws W ao n g:=by
 have b44:Tryz.prog.bytesOf 282=8:=by kernel_rfl
 rcases open_ints (P:=Tryz.prog) Tryz.underlying71 Tryz.underlying282 (by kernel_rfl) hf' with ⟨e,-⟩|⟨a,len,cap,zs,e,-,hl,hc,hz,hd,hcell,hwf⟩
 ·refine ⟨none,0,0,fun _=>0,by simpa using e,by omega,by omega,fun j hj=>absurd hj (by omega),fun h=>absurd h (by omega)⟩
 ·have hz:zs.length=cap:=by simpa using hz
  obtain rfl:v=.slice (some a) len cap:=by simpa using e
  have hcap:cap*8<=reachBytes:=by
   refine hw _ ?_;rw [show d=_ from congrArg Prod.fst hd];unfold DataW.weights;simp only [Tryz.underlying71,b44];refine List.mem_cons.2 (.inl ?_);simp [lits,List.length_take,List.length_drop];omega
  rw [reach_eq] at hcap;refine ⟨some a,len,cap,fun k=>zs.getD k 0,rfl,hl,by omega,fun k hk=>?_,fun h0=>?_⟩
  ·have hm:zs.getD k 0∈zs:=by
    have hk':k<zs.length:=by omega
    rw [List.getD_eq_getElem?_getD,List.getElem?_eq_getElem hk'];exact List.getElem_mem hk'
   exact wfu64 (hwf _ hm)
  ·have h1:=hcell 0 (by omega);rw [show a.add 0=a by unfold Addr.add;simp] at h1;have ha:=cell_spot h1;refine ⟨a.block,a.off,by rw [<- ha],World.block_lt_of_cell? W a h1,fun i hi=>?_⟩;have h2:=hcell i (by omega);rw [ha,show (⟨a.block,a.off,none⟩:Addr).add i=⟨a.block,a.off+i,none⟩ by simp [Addr.add]] at h2;exact h2
theorem open_any {H:Type} {enc:TypeId×Value->H} {W:World} {held:Bool} {fuel e:Nat} {ty:TypeId} {v:Value} {y:DataW H×List MemPlace} (hu:Tryz.prog.underlying ty=some (.slice e)) (h:DataW.trod enc Tryz.prog W 0 (fun _=>true) held fuel ty [v]=some y):∃ (ao:Option Addr) (n cap:Nat),v=.slice ao n cap/\n<=maxLen:=by
 rcases Deep.open_slice hu h with ⟨e,-⟩|⟨a,len,cap,m,n,D,Pl,e,_,hlc,hmx,_⟩
 ·exact ⟨none,0,0,by simpa using e,Nat.zero_le _⟩
 ·exact ⟨some a,len,cap,by simpa using e,Nat.le_trans hlc hmx⟩
theorem open_pk {H:Type} {enc:TypeId×Value->H} {W:World} {r:Reach} {b0:Nat} {held:Bool} {v:Value} {d:DataW H} {p:List MemPlace} (hv:Value.okWide Tryz.prog W r b0 73 v) (h:DataW.Trod enc Tryz.prog W 0 (fun _=>true) held 73 v d p) (hw:∀ n,n∈d.weights Tryz.prog 73->n<=reachBytes) :
  ∃ (wa ta ba:Option Addr) (n wc tn tc bn bc:Nat) (g:Nat->Int),v=.agg #[.slice wa n wc,.slice ta tn tc,.slice ba bn bc]/\n<=wc/\n<=17592186044416/\tn<=maxLen/\Ws W wa n g:=by
 obtain ⟨cs,rfl,hsz⟩:=okWide_struct Tryz.underlying73 hv;have k73:Tryz.prog.cellsOf 73=3:=by kernel_rfl
 have k71:Tryz.prog.cellsOf 71=1:=by kernel_rfl
 have k39:Tryz.prog.cellsOf 39=1:=by kernel_rfl
 have k48:Tryz.prog.cellsOf 48=1:=by kernel_rfl
 rw [k73] at hsz;obtain ⟨l⟩:=cs;clear hv
 match l,hsz with
 | [c0,c1,c2],_=>
  obtain ⟨fuel,hf⟩:=h;obtain ⟨xs,n,_,hx,_,hlen,hff⟩:=DataW.trod_struct Tryz.underlying73 hf
  match xs,hlen with
  | [y0,y1,y2],_=>
   have h0:DataW.trod enc Tryz.prog W 0 (fun _=>true) held n 71 ((([c0,c1,c2]:List Value).drop 0).take (Tryz.prog.cellsOf 71))=some y0:=hff 0 _ rfl;have h1:DataW.trod enc Tryz.prog W 0 (fun _=>true) held n 39 ((([c0,c1,c2]:List Value).drop 1).take (Tryz.prog.cellsOf 39))=some y1:=hff 1 _ rfl;have h2:DataW.trod enc Tryz.prog W 0 (fun _=>true) held n 48 ((([c0,c1,c2]:List Value).drop 2).take (Tryz.prog.cellsOf 48))=some y2:=hff 2 _ rfl;rw [k71] at h0;rw [k39] at h1;rw [k48] at h2;have hd:d=.agg [y0.1,y1.1,y2.1]:=by simpa using congrArg Prod.fst hx
   have h0':DataW.trod enc Tryz.prog W 0 (fun _=>true) held n 71 [c0]=some (y0.1,y0.2):=h0;obtain ⟨wa,m,wc,g,rfl,hc,hn,hws⟩:=open_ws h0' fun n hn=>hw n (by
    rw [hd];unfold DataW.weights;simp only [Tryz.underlying73];exact DataW.weights_mem_each (ts:=[71,39,48]) (ds:=[y0.1,y1.1,y2.1]) (j:=0) rfl rfl n hn)
   obtain ⟨ta,tn,tc,rfl,htn⟩:=open_any Tryz.underlying39 (show DataW.trod enc Tryz.prog W 0 (fun _=>true) held n 39 [c1]=some y1 from h1);obtain ⟨ba,bn,bc,rfl,-⟩:=open_any Tryz.underlying48 (show DataW.trod enc Tryz.prog W 0 (fun _=>true) held n 48 [c2]=some y2 from h2);exact ⟨wa,ta,ba,m,wc,tn,tc,bn,bc,g,rfl,hc,hn,htn,hws⟩
end Go.Proofs.YtpdaknbmcpmhjaaGreatDoor.Bu
