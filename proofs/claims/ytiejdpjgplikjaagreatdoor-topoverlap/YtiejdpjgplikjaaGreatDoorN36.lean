/- Parts Wm0 Zn0 Yh Yk Ym. -/
import Derived.Test.YtiejdpjgplikjaaGreatDoorN24
import Derived.Test.YtiejdpjgplikjaaGreatDoorN17
import Derived.Test.YtiejdpjgplikjaaGreatDoorN26
import Derived.Test.YtiejdpjgplikjaaGreatDoorN23
set_option maxRecDepth 20000
set_option maxHeartbeats 8000000
namespace Go.Proofs.YtiejdpjgplikjaaGreatDoor.Ls
open Go.ChangeShapes Go.WideShapes Go.ChangeAt Go.RowKit
open YtiejdpjgplikjaaGreatDoor.Op YtiejdpjgplikjaaGreatDoor.So YtiejdpjgplikjaaGreatDoor.Dp YtiejdpjgplikjaaGreatDoor.ListWay
open YtiejdpjgplikjaaGreatDoor.Tb (Tab TabAt Bnds)
theorem cy_nl {W:World} {t:Tab} {xs:List O} {hb:Nat} (hok':∀ o∈xs,o.Ok) (he:lisE t xs=0) (hu:hvU t xs=true) (h:Ir W hb xs.length (cyL t xs)):Nl W (some ⟨hb,0,none⟩) xs.length (cyL t xs):=Nl.of h fun k hk=>by
 have:=(cyL_is hok' he hu).1 k hk
 have:=(lis_all he).2.1
 omega
end Go.Proofs.YtiejdpjgplikjaaGreatDoor.Ls
namespace Go.Proofs.YtiejdpjgplikjaaGreatDoor.Bn
open YtiejdpjgplikjaaGreatDoor.Op
theorem ctL_pos (xs:List O) (c:Nat):∀ k,k<=xs.length->(0<ctL (xs.take k) c↔∃ (j:Nat) (hj:j<xs.length),j<k/\clD xs[j].op=c)
 | 0,_=>by
  refine ⟨fun h=>?_,fun ⟨j,hj,h,_⟩=>by omega⟩;unfold ctL at h;simp at h
 | k+1,h=>by
  have ih:=ctL_pos xs c k (by omega);have h0:=ctL_take xs c k (by omega);have hk:k<xs.length:=by omega
  rw [ctL_next hk];unfold up1
  by_cases e:c=clD xs[k].op
  ·rw [if_pos e,<- e];exact ⟨fun _=>⟨k,hk,by omega,e.symm⟩,fun _=>by omega⟩
  ·rw [if_neg e,ih];refine ⟨fun ⟨j,hj,h1,h2⟩=>⟨j,hj,by omega,h2⟩,fun ⟨j,hj,h1,h2⟩=>⟨j,hj,?_,h2⟩⟩
   by_cases e2:j=k
   ·subst e2;exact absurd h2.symm e
   ·omega
theorem cts_pos {xs:List O} {j:Nat} (hj:j<xs.length):0<cts xs (clD xs[j].op):=by
 have h3:=clD_lt xs[j].op;rw [cts_lo xs (by omega)]
 have:=(ctL_pos xs (clD xs[j].op) xs.length (Nat.le_refl _)).2 ⟨j,hj,hj,rfl⟩
 rw [List.take_length] at this;exact this
end Go.Proofs.YtiejdpjgplikjaaGreatDoor.Bn
namespace Go.Proofs.YtiejdpjgplikjaaGreatDoor.Mo
open Go.ChangeShapes Go.WideShapes Go.ChangeAt Go.RowKit
open YtiejdpjgplikjaaGreatDoor.Op YtiejdpjgplikjaaGreatDoor.So YtiejdpjgplikjaaGreatDoor.Dp YtiejdpjgplikjaaGreatDoor.Bn
open YtiejdpjgplikjaaGreatDoor.Ls (clN clN_at clN_lt Nl arC arC_all arC_yes arC_no areCycles_any)
open YtiejdpjgplikjaaGreatDoor.Rv (RAt Few frB tkF tk_few take_any evOk NwOut ring_ok tn addK)
open YtiejdpjgplikjaaGreatDoor.Tb (Tab TabAt Bnds)
open YtiejdpjgplikjaaGreatDoor.Ls (cyL cyL_is cycles_ok hvU hvU_yes cy_nl)
theorem clD_same (d:Int):Ls.clD d=Bn.clD d:=rfl
theorem hu_hv {t:Tab} {xs:List O} (h:huB t (cts xs) 4=true):hvU t xs=true/\¬ t.u 3=0:=by
 have key:∀ k,k<4->0<cts xs k->¬ t.u k=0:=fun k hk h1 h2=>by
  rw [huB_le (n:=4) hk (by simp [h1,h2])] at h
  cases h
 refine ⟨(hvU_yes fun j hj=>?_).symm,key 3 (by omega) (by rw [cts_3];omega)⟩;rw [clD_same];exact key _ (by have:=Bn.clD_lt xs[j].op;omega) (cts_pos hj)
theorem body_ok {w:World} {ao:Option Addr} {xs:List O} {t:Tab} (h:OpsAt w ao xs) (he:rgE t xs=0):BoOk xs t (cyL t xs) (drn t xs (cyL t xs) xs.length)/\1+t.d<=drn t xs (cyL t xs) xs.length/\drn t xs (cyL t xs) xs.length<=512/\∀ k,k<xs.length->0<=cyL t xs k/\cyL t xs k+8<=8*(xs.length:Int):=by
 obtain ⟨ht,hn,hl,hu⟩:=rg_ok he;have hc:=(cyL_is h.ok hl (hu_hv hu).1).1;have hd:drn t xs (cyL t xs) xs.length<=512:=drn_le ht (by omega) fun k hk=>by have:=hc k hk;omega
 exact ⟨⟨he,fun k hk=>by have:=hc k hk;omega,by omega⟩,(drn_ge t xs (cyL t xs) xs.length).1,hd,hc⟩
structure Fi (w W:World) (t:Tab):Prop where
 t:TabAt W w.heap.size t
 r:At W (w.heap.size+1) #[.int .i64 0,.slice none 0 0,.int .i64 0]
 up:Below w.heap.size w W
theorem Fi.next {w W W':World} {t:Tab} (h:Fi w W t) (g:Below W.heap.size W W'):Fi w W' t:=⟨h.t.below g h.t.lt,h.r.below g h.r.lt,h.up.trans (g.mono h.up.size)⟩
theorem fi_new (w:World) (t:Tab) {W:World} (hb:Below ((w.alloc (.cells t.cells 25)).alloc (.cells #[.int .i64 0,.slice none 0 0,.int .i64 0] 29)).heap.size ((w.alloc (.cells t.cells 25)).alloc (.cells #[.int .i64 0,.slice none 0 0,.int .i64 0] 29)) W):Fi w W t:=by
 have a1:=Tb.tabAt_new w t 25;have a2:=At.new (w.alloc (.cells t.cells 25)) #[.int .i64 0,.slice none 0 0,.int .i64 0] 29;rw [show (w.alloc (.cells t.cells 25)).heap.size=w.heap.size+1 by simp] at a2;exact (⟨a1.below ((Below.refl _ _).alloc (Nat.le_refl _) _) a1.lt,a2,by go_grown⟩:Fi w _ t).next hb
def FdOut (n:Nat) (p:Int×(Nat->Int)) (w:World) (e:Ending) (w':World):Prop:=∃ ra rc,e=.returned (.tuple #[.agg #[.int .i64 p.1,.slice ra n rc,.int .i64 (stg n p.2 p.1)],.int .i64 0])/\Nl w' ra n p.2/\Below w.heap.size w w'
theorem find_no (ao:Option Addr) (cap:Nat) (xs:List O) (t:Tab) (w:World) (h:OpsAt w ao xs) (hcap:xs.length<=cap) (hG:Bnds w) (he:¬ rgE t xs=0) :
  Calls Tryz.prog 6 #[.slice ao xs.length cap,t.val] w fun e w'=>e=.returned (.tuple #[.agg #[.int .i64 0,.slice none 0 0,.int .i64 0],.int .i64 (rgE t xs)])/\Below w.heap.size w w':=by
 have HL:Hid (∀ W,Below w.heap.size w W->Calls Tryz.prog 8 #[.slice ao xs.length cap,.agg #[.int .i64 (t.u 0),.int .i64 (t.u 1),.int .i64 (t.u 2),.int .i64 (t.u 3),.int .i64 (t.l 0),.int .i64 (t.l 1),.int .i64 (t.l 2),.int .i64 (t.l 3),.int .i64 (t.b 0),.int .i64 (t.b 1),.int .i64 (t.b 2),.int .i64 (t.b 3),.int .i64 t.d]] W fun e w'=>e=.returned (.tuple #[.int .i64 (leE t xs),.int .i64 (rgE t xs)])/\Below W.heap.size W w'):=fun W hb=>least_any ao cap xs t W (h.below hb) hcap (hG.below hb hG.big);have hlen:=h.len;have he':(rgE t xs != 0)=true:=by simpa using he
 clear h hcap hG;generalize rgE t xs=er at *;generalize leE t xs=le at *;unfold Tab.val;go_enter Tryz.func6,Tryz.ntmps6;go_wp2_with (first
  | (go_at_call 8;refine Calls.mono (HL.out _ (by go_grown)) ?_;rintro e w1 ⟨rfl,b1⟩;have HT:Hid (Fi w w1 t):=fi_new w t b1;clear b1 HL;have r0:=HT.out.r.c 0 _ rfl;have r1:=HT.out.r.c 1 _ rfl;have r2:=HT.out.r.c 2 _ rfl;have rf0:=HT.out.r.f 0;have rf1:=HT.out.r.f 1;have rf2:=HT.out.r.f 2;have rl:=HT.out.r.lt))
 refine bodyPost_ret (v:=.tuple #[.agg #[.int .i64 0,.slice none 0 0,.int .i64 0],.int .i64 er]) (by simp [results,Tryz.results6,go_sem,r0,r1,r2]) rfl ⟨rfl,?_⟩;exact ((HT.out.up.setCell (Nat.le_succ _) _).setCell (Nat.le_succ _) _).setCell (Nat.le_succ _) _
theorem find_ok (ao:Option Addr) (cap:Nat) (xs:List O) (t:Tab) (sr:Int->Option (Nat->Int)) (w:World) (h:OpsAt w ao xs) (hcap:xs.length<=cap) (hG:Bnds w) (he:rgE t xs=0)
  (hsr:∀ W bb ea ec a cc b1 b2 E,Bo W bb ao cap xs t ea ec a cc (cyL t xs) (drn t xs (cyL t xs) xs.length)->At W b1 #[.pointer (some ⟨bb,0,none⟩)]->At W b2 #[.int .i64 E]->leE t xs<=E->E<drn t xs (cyL t xs) xs.length->kgB t xs (cyL t xs) E=false->Calls Tryz.prog 89 #[.pointer (some ⟨b1,0,none⟩),.pointer (some ⟨b2,0,none⟩)] W (SrOut xs.length (sr E) W))
  (hsc:∀ E c,leE t xs<=E->E<drn t xs (cyL t xs) xs.length->sr E=some c->∀ k,k<xs.length->0<=c k/\c k<=65536) :
  Calls Tryz.prog 6 #[.slice ao xs.length cap,t.val] w (FdOut xs.length (fpP (kgB t xs (cyL t xs)) sr (cyL t xs) (drn t xs (cyL t xs) xs.length) (drn t xs (cyL t xs) xs.length-leE t xs).toNat (leE t xs)) w):=by
 have HL:Hid (∀ W,Below w.heap.size w W->Calls Tryz.prog 8 #[.slice ao xs.length cap,.agg #[.int .i64 (t.u 0),.int .i64 (t.u 1),.int .i64 (t.u 2),.int .i64 (t.u 3),.int .i64 (t.l 0),.int .i64 (t.l 1),.int .i64 (t.l 2),.int .i64 (t.l 3),.int .i64 (t.b 0),.int .i64 (t.b 1),.int .i64 (t.b 2),.int .i64 (t.b 3),.int .i64 t.d]] W fun e w'=>e=.returned (.tuple #[.int .i64 (leE t xs),.int .i64 0])/\Below W.heap.size W w'):=fun W hb=>by
  have:=least_any ao cap xs t W (h.below hb) hcap (hG.below hb hG.big)
  rw [he] at this;exact this
 obtain ⟨ht,hn,hl,hu⟩:=rg_ok he;obtain ⟨hok,hd1,hd2,hcr⟩:=body_ok h he;have hle:1+t.d<=leE t xs:=by unfold leE;rw [if_pos he];omega
 have HC:Hid (∀ W,Below w.heap.size w W->Calls Tryz.prog 17 #[.slice ao xs.length cap,.agg #[.int .i64 (t.u 0),.int .i64 (t.u 1),.int .i64 (t.u 2),.int .i64 (t.u 3),.int .i64 (t.l 0),.int .i64 (t.l 1),.int .i64 (t.l 2),.int .i64 (t.l 3),.int .i64 (t.b 0),.int .i64 (t.b 1),.int .i64 (t.b 2),.int .i64 (t.b 3),.int .i64 t.d]] W fun e w'=>∃ hb,e=.returned (.tuple #[.slice (some ⟨hb,0,none⟩) xs.length xs.length,.int .i64 0])/\Nl w' (some ⟨hb,0,none⟩) xs.length (cyL t xs)/\W.heap.size<=hb/\Below W.heap.size W w'):=fun W hb=>by
  refine (cycles_ok ao cap xs t W (h.below hb) hcap (hG.below hb hG.big) hl (hu_hv hu).1).mono ?_;rintro e w' ⟨hb,rfl,hi,hz,hb2⟩;exact ⟨hb,rfl,cy_nl h.ok hl (hu_hv hu).1 hi,hz,hb2⟩
 have HNb:Hid (∀ W hb,Below w.heap.size w W->Nl W (some ⟨hb,0,none⟩) xs.length (cyL t xs)->Calls Tryz.prog 18 #[.slice ao xs.length cap,.agg #[.int .i64 (t.u 0),.int .i64 (t.u 1),.int .i64 (t.u 2),.int .i64 (t.u 3),.int .i64 (t.l 0),.int .i64 (t.l 1),.int .i64 (t.l 2),.int .i64 (t.l 3),.int .i64 (t.b 0),.int .i64 (t.b 1),.int .i64 (t.b 2),.int .i64 (t.b 3),.int .i64 t.d],.slice (some ⟨hb,0,none⟩) xs.length xs.length] W fun e w'=>∃ bb ea ec,e=.returned (.pointer (some ⟨bb,0,none⟩))/\Bo w' bb ao cap xs t ea ec (some ⟨hb,0,none⟩) xs.length (cyL t xs) (drn t xs (cyL t xs) xs.length)/\Below W.heap.size W w'):=fun W hb hbe hN=>by
  refine (newBody_any (some ⟨hb,0,none⟩) ao cap xs.length xs t (cyL t xs) W hN hok.g (h.below hbe) hcap (hG.below hbe hG.big) hl).mono ?_;rintro e w' ⟨bb,ea,ec,rfl,h1,h2,-,h4⟩;exact ⟨bb,ea,ec,rfl,⟨h1,(h.below hbe).below h4,es_of h2,hN.up h4,(hG.below hbe hG.big).below h4 (hG.below hbe hG.big).big⟩,h4⟩
 have HFp:Hid (∀ W bb ea ec hb,Bo W bb ao cap xs t ea ec (some ⟨hb,0,none⟩) xs.length (cyL t xs) (drn t xs (cyL t xs) xs.length)->Calls Tryz.prog 19 #[.pointer (some ⟨bb,0,none⟩),.int .i64 (leE t xs)] W (FpOut (some ⟨hb,0,none⟩) xs.length (fpP (kgB t xs (cyL t xs)) sr (cyL t xs) (drn t xs (cyL t xs) xs.length) (drn t xs (cyL t xs) xs.length-leE t xs).toNat (leE t xs)) W)):=fun W bb ea ec hb hB=>firstPlan_any bb ao cap xs t ea ec (some ⟨hb,0,none⟩) xs.length (cyL t xs) _ _ sr W hB hok hle hd1 (fun W b1 b2 E q1 q2 q3 q4 q5 q6=>hsr W bb ea ec (some ⟨hb,0,none⟩) xs.length b1 b2 E q1 q2 q3 q4 q5 q6) hsc;have hlen:=h.len;clear h hcap hG he ht hn hl hu hok hcr hsr hsc;unfold FpOut at HFp;unfold FdOut;generalize fpP (kgB t xs (cyL t xs)) sr (cyL t xs) (drn t xs (cyL t xs) xs.length) (drn t xs (cyL t xs) xs.length-leE t xs).toNat (leE t xs)=R at *;obtain ⟨R1,R2⟩:=R;generalize drn t xs (cyL t xs) xs.length=D at *;generalize leE t xs=le at *;obtain ⟨st,hst⟩:∃ st,stg xs.length R2 R1=st:=⟨_,rfl⟩;have HS:Hid (stg xs.length R2 R1=st):=hst;have HFp2:Hid (∀ W bb ea ec hb,Bo W bb ao cap xs t ea ec (some ⟨hb,0,none⟩) xs.length (cyL t xs) D->Calls Tryz.prog 19 #[.pointer (some ⟨bb,0,none⟩),.int .i64 le] W fun e w'=>∃ ra rc,e=.returned (.agg #[.int .i64 R1,.slice ra xs.length rc,.int .i64 st])/\Nl w' ra xs.length R2/\(ra=some ⟨hb,0,none⟩\/∀ x,ra=some x->W.heap.size<=x.block)/\Below W.heap.size W w'):=fun W bb ea ec hb hB=>by
  have:=HFp.out W bb ea ec hb hB
  rw [<- HS.out];exact this
 clear HFp hst;unfold Tab.val;go_enter Tryz.func6,Tryz.ntmps6;go_wp2_with (first
  | (go_at_call 8;refine Calls.mono (HL.out _ (by go_grown)) ?_;rintro e w1 ⟨rfl,b1⟩;have HT:Hid (Fi w w1 t):=fi_new w t b1;clear b1 HL;have k2:=HT.out.t;have qu0:=k2.cu 0 (by decide);have qu1:=k2.cu 1 (by decide);have qu2:=k2.cu 2 (by decide);have qu3:=k2.cu 3 (by decide);have ql0:=k2.cl 0 (by decide);have ql1:=k2.cl 1 (by decide);have ql2:=k2.cl 2 (by decide);have ql3:=k2.cl 3 (by decide);have qb0:=k2.cb 0 (by decide);have qb1:=k2.cb 1 (by decide);have qb2:=k2.cb 2 (by decide);have qb3:=k2.cb 3 (by decide);have qd:=k2.cd;have qz:=k2.lt;clear k2)
  | (go_at_call 17;refine Calls.mono (HC.out _ HT.out.up) ?_;rintro e w2 ⟨hb,rfl,n2,z2,b2⟩;have HT2:Hid (Fi w w2 t/\Nl w2 (some ⟨hb,0,none⟩) xs.length (cyL t xs)/\w.heap.size+1<hb):=⟨HT.out.next b2,n2,(by have:=HT.out.r.lt;omega)⟩;clear b2 n2 z2 HC HT qu0 qu1 qu2 qu3 ql0 ql1 ql2 ql3 qb0 qb1 qb2 qb3 qd qz;have k2:=HT2.out.1.t;have qu0:=k2.cu 0 (by decide);have qu1:=k2.cu 1 (by decide);have qu2:=k2.cu 2 (by decide);have qu3:=k2.cu 3 (by decide);have ql0:=k2.cl 0 (by decide);have ql1:=k2.cl 1 (by decide);have ql2:=k2.cl 2 (by decide);have ql3:=k2.cl 3 (by decide);have qb0:=k2.cb 0 (by decide);have qb1:=k2.cb 1 (by decide);have qb2:=k2.cb 2 (by decide);have qb3:=k2.cb 3 (by decide);have qd:=k2.cd;have qz:=k2.lt;clear k2)
  | (go_at_call 18;refine Calls.mono (HNb.out _ _ HT2.out.1.up HT2.out.2.1) ?_;rintro e w3 ⟨bb,ea,ec,rfl,o3,b3⟩;have HT3:Hid (Fi w w3 t/\Bo w3 bb ao cap xs t ea ec (some ⟨hb,0,none⟩) xs.length (cyL t xs) D/\w.heap.size+1<hb):=⟨HT2.out.1.next b3,o3,HT2.out.2.2⟩;clear b3 o3 HNb HT2 qu0 qu1 qu2 qu3 ql0 ql1 ql2 ql3 qb0 qb1 qb2 qb3 qd qz)
  | (go_at_call 19;refine Calls.mono (HFp2.out _ _ _ _ _ HT3.out.2.1) ?_;rintro e w4 ⟨ra,rc,rfl,n4,a4,b4⟩;have HT4:Hid (Fi w w4 t/\Nl w4 ra xs.length R2/\∀ x,ra=some x->x.block≠w.heap.size+1):=⟨HT3.out.1.next b4,n4,fun x hx=>(by rcases a4 with a4|a4;(rw [a4] at hx;injection hx with hx;rw [<- hx];have:=HT3.out.2.2;show hb≠w.heap.size+1;omega);(have:=a4 x hx;have:=HT3.out.1.r.lt;omega))⟩;clear b4 n4 a4 HFp2 HT3;have r0:=HT4.out.1.r.c 0 _ rfl;have r1:=HT4.out.1.r.c 1 _ rfl;have r2:=HT4.out.1.r.c 2 _ rfl;have rf0:=HT4.out.1.r.f 0;have rf1:=HT4.out.1.r.f 1;have rf2:=HT4.out.1.r.f 2;have rl:=HT4.out.1.r.lt))
 refine bodyPost_ret (v:=.tuple #[.agg #[.int .i64 R1,.slice ra xs.length rc,.int .i64 st],.int .i64 0]) (by simp [results,Tryz.results6,go_sem,r0,r1,r2]) rfl ?_;have hq:=fw_out (z:=w.heap.size+1) HT4.out.2.1 HT4.out.1.up (by omega) (fun _ x hx=>HT4.out.2.2 x hx) (.int .i64 R1) (.slice ra xs.length rc) (.int .i64 st);exact ⟨ra,rc,by rw [HS.out],hq.1,hq.2⟩
end Go.Proofs.YtiejdpjgplikjaaGreatDoor.Mo
namespace Go.Proofs.YtiejdpjgplikjaaGreatDoor.Mo
open Go.ChangeShapes Go.WideShapes Go.ChangeAt Go.RowKit
open YtiejdpjgplikjaaGreatDoor.Op YtiejdpjgplikjaaGreatDoor.So YtiejdpjgplikjaaGreatDoor.Dp YtiejdpjgplikjaaGreatDoor.Bn
open YtiejdpjgplikjaaGreatDoor.Ls (clN clN_at clN_lt Nl arC arC_all arC_yes arC_no areCycles_any)
open YtiejdpjgplikjaaGreatDoor.Rv (RAt Few frB tkF tk_few take_any evOk NwOut ring_ok tn addK)
open YtiejdpjgplikjaaGreatDoor.Tb (Tab TabAt Bnds)
theorem ct_cnt (xs:List O) (c:Nat):∀ k,k<=xs.length->ctL (xs.take k) c=(cnt (fun a=>decide (clN xs a=c)) k:Nat)
 | 0,_=>by unfold ctL;simp [cnt]
 | k+1,h=>by
  have ih:=ct_cnt xs c k (by omega);rw [ctL_next (by omega)];have e:clN xs k=Bn.clD xs[k].op:=clN_at (by omega);unfold cnt
  by_cases q:clN xs k=c
  ·have q2:Bn.clD xs[k].op=c:=by rw [<- e];exact q
   rw [q2,up1_same,ih,if_pos (by simpa using q)];omega
  ·have q2:¬ c=Bn.clD xs[k].op:=fun e2=>q (by rw [e];exact e2.symm);rw [up1_other _ _ q2,ih,if_neg (by simpa using q)];omega
theorem ct_all (xs:List O) (c:Nat):ctL xs c=(cnt (fun a=>decide (clN xs a=c)) xs.length:Nat):=by
 have:=ct_cnt xs c xs.length (Nat.le_refl _)
 rwa [List.take_length] at this
theorem up_div {x u E:Int} (hx:0<=x) (hu:0<u) (h:x<=E*u):(x+u-1).tdiv u<=E:=by
 rw [Int.tdiv_eq_ediv_of_nonneg (by omega)]
 have:(x+u-1) / u<E+1:=Int.ediv_lt_of_lt_mul hu (by rw [Int.add_mul,Int.one_mul];omega)
 omega
theorem bu_le {t:Tab} {f:Nat->Int} {E:Int} (hE:1<=E) (hf:∀ c,0<=f c) (hb:∀ c,c<4->0<=t.b c):∀ {k:Nat},k<=4->(∀ c,c<k->0<f c->0<t.u c/\f c*t.b c<=E*t.u c)->buI t f k<=E
 | 0,_,_=>by unfold buI;omega
 | k+1,hk,h=>by
  have ih:=bu_le hE hf hb (k:=k) (by omega) fun c hc=>h c (by omega);unfold buI
  split
  ·rename_i hp;obtain ⟨h1,h2⟩:=h k (by omega) hp
   have:=up_div (Int.mul_nonneg (hf k) (hb k (by omega))) h1 h2
   omega
  ·exact ih
theorem ku_su {t:Tab} {xs:List O} {g:Nat->Int} {E:Int} (ht:t.ok=true) (hE:1<=E) (hE2:E<=65536) (h:kuB t xs g E=true) (c:Nat) (hc:c<4) (z:Int):su (fun a=>if clN xs a=c then rg E (g a) z (t.b c).toNat else 0) xs.length<=(t.u c).toNat/\(c=3->rg E (E-1-t.d) z (t.b 3).toNat<=(t.u 3).toNat):=by
 have hti:=(tab_in ht).2;have h1:=(kuB_iff hE hE2 fun c hc=>(hti c hc).1.1).1 h c z hc;rw [toF_su] at h1;have h2:=(hti c hc).1.1
 by_cases e:c=3
 ·subst e;rw [if_pos rfl] at h1;exact ⟨by omega,fun _=>by omega⟩
 ·rw [if_neg e] at h1;exact ⟨by omega,fun e2=>absurd e2 e⟩
theorem mc_least {w:World} {ao:Option Addr} {t:Tab} {xs:List O} {n:Nat} {g:Nat->Int} {E S:Int} (hO:OpsAt w ao xs) (h:mcB t xs n g E S=true):leE t xs<=E/\Kp (loopE t xs) g E:=by
 obtain ⟨h1,h2,h3,h4,h5,h6,h7,h8,h9⟩:=mc_parts h;obtain ⟨ht,hn,hl,hu⟩:=rg_ok h1;have hd:=(tab_in ht).1;have hti:=(tab_in ht).2;have hk:=kpB_iff.1 h8;have hr:=rnd_le (loopE_ok hO h1) hn (E:=E) (by omega) hk.pot;have hbu:buI t (cts xs) 4<=E:=bu_le (by omega) (fun c=>(cts_in xs c).1) (fun c hc=>by have:=(hti c hc).2.2.1;omega) (Nat.le_refl _) fun c hc hp=>by
  have hu0:¬ t.u c=0:=fun e=>by rw [huB_le (n:=4) hc (by simp [hp,e])] at hu;cases hu
  have hu1:=(hti c hc).1.1;have hb1:=(hti c hc).2.2.1;refine ⟨by omega,?_⟩;obtain ⟨E',rfl⟩:∃ E':Nat,E=E':=⟨E.toNat,by omega⟩
  by_cases e:c=3
  ·subst e;have hb:=ring_bound (n:=1) (E:=E') (B:=(t.b 3).toNat) (U:=(t.u 3).toNat) (by omega) (C:=fun _=>(E':Int)-1-t.d) (cl:=fun _=>true) fun z hz=>by
    have:=(ku_su ht (by omega) h3 h9 3 (by omega) z).2 rfl
    simpa [su] using this
   rw [cts_3]
   have:cnt (fun _=>true) 1=1:=rfl
   rw [this] at hb;have q1:((1*(t.b 3).toNat : Nat):Int)<=((E'*(t.u 3).toNat : Nat):Int):=by omega
   rw [Int.natCast_mul,Int.natCast_mul,Int.toNat_of_nonneg (by omega),Int.toNat_of_nonneg hu1] at q1;simpa using q1
  ·have hb:=ring_bound (n:=xs.length) (E:=E') (B:=(t.b c).toNat) (U:=(t.u c).toNat) (by omega) (C:=g) (cl:=fun a=>decide (clN xs a=c)) fun z hz=>by
    have:=(ku_su ht (by omega) h3 h9 c hc z).1
    simpa using this
   rw [cts_lo xs e,ct_all];have q1:((cnt (fun a=>decide (clN xs a=c)) xs.length*(t.b c).toNat : Nat):Int)<=((E'*(t.u c).toNat : Nat):Int):=by omega
   rw [Int.natCast_mul,Int.natCast_mul,Int.toNat_of_nonneg (by omega),Int.toNat_of_nonneg hu1] at q1;exact q1
 refine ⟨?_,hk⟩;unfold leE;rw [if_pos h1];omega
end Go.Proofs.YtiejdpjgplikjaaGreatDoor.Mo
namespace Go.Proofs.YtiejdpjgplikjaaGreatDoor.Mo
open Go.ChangeShapes Go.WideShapes Go.ChangeAt Go.RowKit
open YtiejdpjgplikjaaGreatDoor.Op YtiejdpjgplikjaaGreatDoor.So YtiejdpjgplikjaaGreatDoor.Dp YtiejdpjgplikjaaGreatDoor.Bn
open YtiejdpjgplikjaaGreatDoor.Ls (clN clN_at clN_lt Nl arC arC_all arC_yes arC_no areCycles_any)
open YtiejdpjgplikjaaGreatDoor.Rv (RAt Few frB tkF tk_few take_any evOk NwOut ring_ok tn addK)
open YtiejdpjgplikjaaGreatDoor.Tb (Tab TabAt Bnds)
open YtiejdpjgplikjaaGreatDoor.Ls (cyL cyL_is hvU sysL clV_D eg)
theorem lat_cls {t:Tab} {xs:List O} (hok:∀ o∈xs,okL o=true) {i:Nat} (hi:i<xs.length):latN t xs i=t.l (clN xs i):=by
 rw [latN_at t hi,latV_class t (hok _ (List.getElem_mem hi)),(clV_D (hok _ (List.getElem_mem hi))).1,clN_at hi,Int.toNat_natCast]
theorem su_busy (t:Tab) (xs:List O) (es:List Ed) {g:Nat->Int} {D:Int} {c:Nat} (hc:c<4) (z:Int):∀ {n:Nat},(∀ k,k<n->0<=g k/\(clN xs k=c->g k+(t.b c).toNat<=D))->su (fun a=>if clN xs a=c then rg D (g a) z (t.b c).toNat else 0) n=ListWay.cnt (ListWay.bsy (sysL t xs es) g c z) n
 | 0,_=>rfl
 | n+1,h=>by
  have ih:=su_busy t xs es hc z (n:=n) fun k hk=>h k (by omega);obtain ⟨h0,h1⟩:=h n (by omega);unfold su ListWay.cnt;rw [ih]
  congr 1
  have hb:(sysL t xs es).b c=(t.b c).toNat:=by show (if c<4 then _ else _)=_;rw [if_pos hc]
  unfold ListWay.bsy;show (if clN xs n=c then rg D (g n) z (t.b c).toNat else 0)=if (decide (clN xs n=c)&&(decide (0<=g n)&&(decide (g n<=z)&&decide (z<g n+(sysL t xs es).b c))))=true then 1 else 0;rw [hb]
  by_cases e:clN xs n=c
  ·rw [if_pos e,rg_row h0 (h1 e)]
   by_cases q:g n<=z/\z<g n+(t.b c).toNat
   ·rw [if_pos q,if_pos (by simp only [Bool.and_eq_true,decide_eq_true_eq];exact ⟨e,h0,q⟩)]
   ·rw [if_neg q,if_neg (by simp only [Bool.and_eq_true,decide_eq_true_eq];exact fun hh=>q hh.2.2)]
  ·rw [if_neg e,if_neg (by simp [e])]
theorem there_ok {w:World} {ao:Option Addr} {xs:List O} {t:Tab} (h:OpsAt w ao xs) (he:rgE t xs=0):mcB t xs xs.length (cyL t xs) (drn t xs (cyL t xs) xs.length) 1=true:=by
 obtain ⟨ht,hn,hl,hu⟩:=rg_ok he;obtain ⟨hok,hd1,hd2,hcr⟩:=body_ok h he;obtain ⟨hv,hu3⟩:=hu_hv hu;have hti:=(tab_in ht).2;have htd:=(tab_in ht).1;have hall:=(lis_all hl).2.2;obtain ⟨q1,q2,q3,-⟩:=cyL_is h.ok hl hv;have hdl:∀ i,i<xs.length->cyL t xs i+t.l (clN xs i)<=drn t xs (cyL t xs) xs.length/\cyL t xs i+t.b (clN xs i)<=drn t xs (cyL t xs) xs.length:=fun i hi=>drn_at hi;generalize hD:drn t xs (cyL t xs) xs.length=D at *;have hm:mxN (cyL t xs) xs.length<=D-1:=mxN_le (by omega) fun k hk=>by have:=(hdl k hk).1;have:=(hti _ (clN_lt xs k)).2.1;omega
 have hst:(1:Int)=stg xs.length (cyL t xs) D:=by
  unfold stg;rw [Int.ediv_eq_zero_of_lt (mxN_ge _ _) (by omega)];rfl
 have har:arC xs.length (cyL t xs)=true:=(arC_yes fun k hk=>hok.g k hk).symm;have hkp:kpB (loopE t xs) (cyL t xs) D=true:=kpB_iff.2 (drained_kept (pts_ok t xs (fun o ho=>⟨h.ok o ho,okL_okO (hall o ho)⟩) ht) hall (fun e hm=>q2 (eg e) (List.mem_map_of_mem hm)) (fun i hi=>(q1 i hi).1) fun i hi=>by rw [lat_cls hall hi];exact (hdl i hi).1);have hku:kuB t xs (cyL t xs) D=true:=by
  refine (kuB_iff (by omega) (by omega) fun c hc=>(hti c hc).1.1).2 fun c z hc=>?_;rw [toF_su];have hsb:=su_busy t xs (ofE t xs) (g:=cyL t xs) (D:=D) hc z (n:=xs.length) fun k hk=>⟨(q1 k hk).1,fun e=>by
   have:=(hdl k hk).2
   rw [e] at this
   have:=(hti c hc).2.2.1
   omega⟩
  have h0:=(hti c hc).1.1;have hs:su (fun a=>if clN xs a=c then rg D (cyL t xs a) z (t.b c).toNat else 0) xs.length<=(t.u c).toNat:=by
   by_cases ex:∃ i,i<xs.length/\clN xs i=c
   ·obtain ⟨i,hi,e⟩:=ex
    have:=q3 i hi z
    rw [e] at this;rw [hsb];exact this
   ·have:su (fun a=>if clN xs a=c then rg D (cyL t xs a) z (t.b c).toNat else 0) xs.length=0:=(su_congr (g:=fun _=>0) fun a ha=>by rw [if_neg fun e=>ex ⟨a,ha,e⟩]).trans (su_zero _)
    omega
  by_cases e:c=3
  ·subst e;rw [if_pos rfl];have hz:su (fun a=>if clN xs a=3 then rg D (cyL t xs a) z (t.b 3).toNat else 0) xs.length=0:=(su_congr (g:=fun _=>0) fun a ha=>by
    rw [if_neg fun e=>by rw [clN_at ha,clD_same] at e;have:=Bn.clD_lt xs[a].op;omega]).trans (su_zero _)
   have hr:rg D (D-1-t.d) z (t.b 3).toNat<=1:=rg_le (by omega) (by have:=(drn_ge t xs (cyL t xs) xs.length).2;have:=(hti 3 (by omega)).2.2.1;omega);omega
  ·rw [if_neg e];omega
 rw [mc_last he hd1 (by omega) rfl har (by omega) hst,hkp,hku];rfl
end Go.Proofs.YtiejdpjgplikjaaGreatDoor.Mo
