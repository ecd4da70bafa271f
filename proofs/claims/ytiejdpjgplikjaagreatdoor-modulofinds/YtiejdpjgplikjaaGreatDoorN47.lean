/- Parts Wr. -/
import Derived.Test.YtiejdpjgplikjaaGreatDoorN41
import Derived.Test.YtiejdpjgplikjaaGreatDoorN27
import Derived.Test.YtiejdpjgplikjaaGreatDoorN46
set_option maxRecDepth 20000
set_option maxHeartbeats 32000000
namespace Go.Proofs.YtiejdpjgplikjaaGreatDoor.Ls
open Go.ChangeShapes Go.WideShapes Go.ChangeAt Go.RowKit
open YtiejdpjgplikjaaGreatDoor.Op YtiejdpjgplikjaaGreatDoor.So YtiejdpjgplikjaaGreatDoor.Dp YtiejdpjgplikjaaGreatDoor.ListWay
open YtiejdpjgplikjaaGreatDoor.Tb (Tab TabAt Bnds)
theorem dOrd_same {H:Nat->Int} {n k k':Nat} {m m':Int} (h1:m-k<0) (h2:m'-k'<0) (hH:∀ i,i<n->0<=H i/\H i<=m) (hH':∀ i,i<n->0<=H i/\H i<=m'):dOrd H n m k=dOrd H n m' k':=by
 refine pw_uniq (ahd_asym H) _ _ (dOrd_pw H n m k) (dOrd_pw H n m' k') fun x=>?_;rw [dOrd_mem,dOrd_mem];constructor
 ·rintro ⟨j,hj,rfl,-,-⟩
  have:=hH' j hj
  exact ⟨j,hj,rfl,by omega,by omega⟩
 ·rintro ⟨j,hj,rfl,-,-⟩
  have:=hH j hj
  exact ⟨j,hj,rfl,by omega,by omega⟩
structure Dy (w W:World) (t:Tab) (ea:Option Addr) (ec:Nat) (es:List Ed) (oa:Option Addr) (oc:Nat) (L:List Int) (cb n:Nat) (c:Nat->Int):Prop where
 t:TabAt W w.heap.size t
 up:Below w.heap.size w W
 eo:EOwn w.heap.size W ea ec es
 en:∀ b,(Value.slice ea es.length ec).ownBlock=some b->b<cb
 od:W.ownsRow w.heap.size 3 1 (.slice oa L.length oc) L.length (L.map (Value.int .i64))
 on:∀ b,(Value.slice oa L.length oc).ownBlock=some b->b<cb
 ir:Ir W cb n c
 lb:w.heap.size<cb
theorem Dy.next {w W W':World} {t:Tab} {ea:Option Addr} {ec:Nat} {es:List Ed} {oa:Option Addr} {oc:Nat} {L:List Int} {cb n:Nat} {c:Nat->Int} (h:Dy w W t ea ec es oa oc L cb n c) (g:Below W.heap.size W W'):Dy w W' t ea ec es oa oc L cb n c:=⟨h.t.below g h.t.lt,h.up.trans (g.mono h.up.size),row_up h.eo g,h.en,row_up h.od g,h.on,h.ir.up g,h.lb⟩
theorem Dy.set {w W:World} {t:Tab} {ea:Option Addr} {ec:Nat} {es:List Ed} {oa:Option Addr} {oc:Nat} {L:List Int} {cb n:Nat} {c:Nat->Int} (h:Dy w W t ea ec es oa oc L cb n c) {k:Nat} (hk:k<n) (v:Int):Dy w (W.setCell ⟨cb,k,none⟩ (.int .i64 v)) t ea ec es oa oc L cb n (updI c k v):=by
 have g:Fr (One cb) W (W.setCell ⟨cb,k,none⟩ (.int .i64 v)):=(Fr.refl (One cb) W).setCell (.inr rfl) _ _;have hb:Below cb W (W.setCell ⟨cb,k,none⟩ (.int .i64 v)):=g.below (Nat.le_of_lt h.ir.lt) fun j hj e=>by have e:j=cb:=e;omega
 exact ⟨h.t.below hb h.lb,h.up.trans (hb.mono (Nat.le_of_lt h.lb)),row_fr h.eo g fun b hb' e=>by have:=h.en b hb';have e:b=cb:=e;omega,h.en,row_fr h.od g fun b hb' e=>by have:=h.on b hb';have e:b=cb:=e;omega,h.on,h.ir.set hk v,h.lb⟩
theorem Dy.same {w W:World} {t:Tab} {ea:Option Addr} {ec:Nat} {es:List Ed} {oa:Option Addr} {oc:Nat} {L:List Int} {cb n:Nat} {c d:Nat->Int} (h:Dy w W t ea ec es oa oc L cb n c) (e:∀ i,i<n->c i=d i):Dy w W t ea ec es oa oc L cb n d:=⟨h.t,h.up,h.eo,h.en,h.od,h.on,h.ir.same e,h.lb⟩
theorem Dy.ord {w W:World} {t:Tab} {ea:Option Addr} {ec:Nat} {es:List Ed} {oa:Option Addr} {oc:Nat} {L:List Int} {cb n:Nat} {c:Nat->Int} (h:Dy w W t ea ec es oa oc L cb n c) (k:Nat) (hk:k<L.length):∃ b,oa=some ⟨b,0,none⟩/\b<W.heap.size/\W.cell? ⟨b,k,none⟩=some (.int .i64 L[k]):=by
 rcases h.od.2 with ⟨-,e0⟩|⟨b,cap2,cur,e,-⟩
 ·omega
 ·injection e with e1 _ _
  subst e1;refine ⟨b,rfl,(h.od.lt b rfl).2,?_⟩;rw [h.od.cellAt k (by omega)];simp [hk]
def ngTo (k:Nat):Nat->Int:=fun i=>if i<k then -1 else 0
theorem ngTo_next (k:Nat):updI (ngTo k) k (-1)=ngTo (k+1):=by
 funext i
 unfold updI ngTo
 by_cases e:i=k
 ·subst e;rw [if_pos rfl,if_pos (by omega)]
 ·rw [if_neg e]
  by_cases e2:i<k
  ·rw [if_pos e2,if_pos (by omega)]
  ·rw [if_neg e2,if_neg (by omega)]
theorem refOrd_do (ao:Option Addr) (cap:Nat) (xs:List O) (t:Tab) (w:World) (h:OpsAt w ao xs) (hq:xs.length<=60) (he:lisE t xs=0):Calls Tryz.prog 49 #[.slice ao xs.length cap,t.val] w fun e w'=>∃ a c,e=.returned (.tuple #[.slice a (dOrd (hts (latN t xs) (ofE t xs)) xs.length (8*(xs.length:Int)) (8*xs.length+1)).length c,.int .i64 0])/\w'.ownsRow w.heap.size 3 1 (.slice a (dOrd (hts (latN t xs) (ofE t xs)) xs.length (8*(xs.length:Int)) (8*xs.length+1)).length c) (dOrd (hts (latN t xs) (ofE t xs)) xs.length (8*(xs.length:Int)) (8*xs.length+1)).length ((dOrd (hts (latN t xs) (ofE t xs)) xs.length (8*(xs.length:Int)) (8*xs.length+1)).map (Value.int .i64))/\Below w.heap.size w w':=by
 obtain ⟨ht,hn,hok⟩:=lis_all he;have hEO:=(lis_parts h.ok he).1;have hle:=(hts_is (lat:=latN t xs) hEO).le hEO (fun i hi=>by rw [latN_at t hi];exact latV_in ht _);refine (refOrd_ok ao cap xs.length t _ w (by omega) (fun i hi=>by have:=hle i hi;omega) fun W hb=>refHof_ok ao cap xs t W (h.below hb) (by omega) he).mono fun e w' h'=>?_;obtain ⟨a,c,L,rfl,hrow,⟨most,k,hL,hk,hH⟩,hb⟩:=h';have e1:L=dOrd (hts (latN t xs) (ofE t xs)) xs.length (8*(xs.length:Int)) (8*xs.length+1):=by
  rw [hL];exact dOrd_same hk (by omega) hH fun i hi=>by have:=hle i hi;omega
 rw [<- e1];exact ⟨a,c,rfl,hrow,hb⟩
theorem rowB {W:World} {B B' e s n:Nat} {v:Value} {xs:List Value} (h:W.ownsRow B e s v n xs) (hB:B'<=B):W.ownsRow B' e s v n xs:=by
 obtain ⟨h1,h2⟩:=h;rcases h2 with h0|⟨g,cap,cur,e1,e2,e3⟩
 ·exact ⟨h1,.inl h0⟩
 ·exact ⟨h1,.inr ⟨g,cap,cur,e1,by omega,e3⟩⟩
theorem refCycles_ok (ao:Option Addr) (cap:Nat) (xs:List O) (t:Tab) (w:World) (h:OpsAt w ao xs) (hq:xs.length<=60) (he:lisE t xs=0) (hu:hvU t xs=true) :
  Calls Tryz.prog 21 #[.slice ao xs.length cap,t.val] w (HtOut w xs.length (cyL t xs)):=by
 obtain ⟨ht,-,hok⟩:=lis_all he;obtain ⟨hEO,hEl,-⟩:=lis_parts h.ok he;have hSok:=sysL_ok ht hu hEO;have hmem:=ordC_mem h.ok he;obtain ⟨L,hL⟩:∃ L,dOrd (hts (latN t xs) (ofE t xs)) xs.length (8*(xs.length:Int)) (8*xs.length+1)=L:=⟨_,rfl⟩;have hLp:∀ x∈L,0<=x:=fun x hx=>by
  rw [<- hL] at hx;obtain ⟨j,-,rfl,-,-⟩:=(dOrd_mem _ _ _ _ _).1 hx;omega
 have HO1:Hid (∀ W,Below w.heap.size w W->Calls Tryz.prog 49 #[.slice ao xs.length cap,.agg #[.int .i64 (t.u 0),.int .i64 (t.u 1),.int .i64 (t.u 2),.int .i64 (t.u 3),.int .i64 (t.l 0),.int .i64 (t.l 1),.int .i64 (t.l 2),.int .i64 (t.l 3),.int .i64 (t.b 0),.int .i64 (t.b 1),.int .i64 (t.b 2),.int .i64 (t.b 3),.int .i64 t.d]] W fun e w'=>∃ a c,e=.returned (.tuple #[.slice a L.length c,.int .i64 0])/\w'.ownsRow W.heap.size 3 1 (.slice a L.length c) L.length (L.map (Value.int .i64))/\Below W.heap.size W w'):=fun W hb=>by rw [<- hL];exact refOrd_do ao cap xs t W (h.below hb) hq he
 obtain ⟨ord,hord⟩:∃ ord,ordC (hts (latN t xs) (ofE t xs)) xs.length=ord:=⟨_,rfl⟩;have hLo:L.map Int.toNat = ord:=by rw [<- hL,<- hord];rfl
 have HLo:Hid (∀ k (hk:k<L.length),∃ hk2:k<ord.length,L[k]=((ord[k]:Nat):Int)):=fun k hk=>by
  subst hLo;refine ⟨by simpa using hk,?_⟩
  have:=hLp _ (List.getElem_mem hk)
  simp
  omega
 have HLl:Hid (ord.length=L.length):=by show ord.length=L.length;rw [<- hLo];simp
 have HU:Hid (∀ W,Below w.heap.size w W->Calls Tryz.prog 50 #[.slice ao xs.length cap,.agg #[.int .i64 (t.u 0),.int .i64 (t.u 1),.int .i64 (t.u 2),.int .i64 (t.u 3),.int .i64 (t.l 0),.int .i64 (t.l 1),.int .i64 (t.l 2),.int .i64 (t.l 3),.int .i64 (t.b 0),.int .i64 (t.b 1),.int .i64 (t.b 2),.int .i64 (t.b 3),.int .i64 t.d]] W fun e w'=>e=.returned (.bool false)/\Below W.heap.size W w'):=fun W hb=>by
  have:=uses_any ao cap xs t W (h.below hb) hok (by omega)
  rw [hu] at this;exact this
 obtain ⟨M,hM⟩:∃ M,(ofE t xs).length=M:=⟨_,rfl⟩;have HM:Hid ((ofE t xs).length=M):=hM;have HOf:Hid (∀ W,Below w.heap.size w W->Calls Tryz.prog 51 #[.slice ao xs.length cap,.agg #[.int .i64 (t.u 0),.int .i64 (t.u 1),.int .i64 (t.u 2),.int .i64 (t.u 3),.int .i64 (t.l 0),.int .i64 (t.l 1),.int .i64 (t.l 2),.int .i64 (t.l 3),.int .i64 (t.b 0),.int .i64 (t.b 1),.int .i64 (t.b 2),.int .i64 (t.b 3),.int .i64 t.d]] W fun e w'=>∃ a c,e=.returned (.tuple #[.slice a M c,.int .i64 0])/\EOwn W.heap.size w' a c (ofE t xs)/\Below W.heap.size W w'):=fun W hb=>by
  have:=ofRefN (cap:=cap) (t:=t) h (fun _=>by omega) W hb
  unfold erE at this;rw [if_pos he,he] at this;rw [<- hM];exact this
 have hcy:cyL t xs=sch (sysL t xs (ofE t xs)) ord:=by unfold cyL;rw [hord]
 rw [hcy];rw [hord] at hmem;obtain ⟨s,hs⟩:∃ s,sysL t xs (ofE t xs)=s:=⟨_,rfl⟩;have hsn:s.n=xs.length:=by rw [<- hs];rfl
 have HFr0:Hid (∀ Z cb (c:Nat->Int) (i:Nat) (y:Int),Below w.heap.size w Z->Ir Z cb xs.length c->(∀ i,i<xs.length→-1<=c i/\c i<=100000)->i<xs.length->0<=y->y<=100000->Calls Tryz.prog 53 #[.slice ao xs.length cap,.agg #[.int .i64 (t.u 0),.int .i64 (t.u 1),.int .i64 (t.u 2),.int .i64 (t.u 3),.int .i64 (t.l 0),.int .i64 (t.l 1),.int .i64 (t.l 2),.int .i64 (t.l 3),.int .i64 (t.b 0),.int .i64 (t.b 1),.int .i64 (t.b 2),.int .i64 (t.b 3),.int .i64 t.d],.slice (some ⟨cb,0,none⟩) xs.length xs.length,.int .i64 (i:Int),.int .i64 y] Z fun e w'=>e=.returned (.bool (fdB s c y i))/\Below Z.heap.size Z w'):=fun Z cb c i y q1 q2 q3 q4 q5 q6=>by
  rw [<- hs];exact dfree_any ao cap xs t (ofE t xs) (some ⟨cb,0,none⟩) xs.length c i y Z (h.below q1) hok (by omega) ht (Nl.of q2 fun k hk=>by have:=q3 k hk;omega) q3 q4 q5 q6
 have HRd0:Hid (∀ Z cb ea ec (c:Nat->Int) (i:Nat) (y:Int),EOwn w.heap.size Z ea ec (ofE t xs)->Ir Z cb xs.length c->(∀ i,i<xs.length→-1<=c i/\c i<=100000)->i<xs.length->0<=y->y<=100000->Calls Tryz.prog 52 #[.slice ea M ec,.slice (some ⟨cb,0,none⟩) xs.length xs.length,.int .i64 (i:Int),.int .i64 y] Z fun e w'=>e=.returned (.bool (rdB (ofE t xs) c y i))/\Below Z.heap.size Z w'):=fun Z cb ea ec c i y q1 q2 q3 q4 q5 q6=>by
  rw [<- hM];exact dready_any ea ec w.heap.size (ofE t xs) cb xs.length i c y Z q1 hEO hEl q2 q3 (by omega) q4 q5 q6
 have HSp:Hid (∀ (c:Nat->Int) (y:Int) (i:Nat),okB s c y i=(decide (c i<0)&&(rdB (ofE t xs) c y i&&fdB s c y i))):=fun c y i=>by
  rw [<- hs,<- rf_split];rfl
 rw [hs] at hSok ⊢;have HOk:Hid (s.Ok/\(∀ i,i∈ord↔i<s.n)/\s.n=xs.length):=⟨hSok,by rw [hsn];exact hmem,hsn⟩;have hn':(xs.length:Int)<=60:=by omega
 have hLlen:L.length<=1000000:=by
  rw [<- hL]
  have:=dOrd_len (hts (latN t xs) (ofE t xs)) xs.length (8*(xs.length:Int)) (8*xs.length+1)
  have h2:(8*xs.length+1)*xs.length<=481*60:=Nat.mul_le_mul (by omega) hq;omega
 have hLi:(L.length:Int)<=1000000:=by omega
 obtain ⟨i0,hi,hi2⟩:=Option.map_eq_some_iff.1 info3;simp only [Prod.mk.injEq] at hi2;obtain ⟨hz0,hz1,hz2⟩:=hi2;have HI:Hid (Tryz.prog.info? 3=some i0/\i0.zero=some (.int .i64 0)/\i0.size=1/\i0.bytes=8):=⟨hi,hz0,hz1,hz2⟩;clear h hq he hu ht hok hEO hEl hSok hmem hL hLp hord hLo hM hcy hs hsn hLlen hi hz0 hz1 hz2;generalize ofE t xs=es at *;generalize xs.length=n at *;unfold HtOut;unfold Tab.val;go_enter Tryz.func21,Tryz.ntmps21;go_upto_region 8 with (first
  | (go_at_call 49;refine Calls.mono (HO1.out _ (by go_grown)) ?_;rintro e w1 ⟨oa,oc,rfl,o1,b1⟩;have HT:Hid (TabAt w1 w.heap.size t/\Below w.heap.size w w1):=tabNext ⟨Tb.tabAt_new w t 25,by go_grown⟩ b1;have HR1:Hid (w1.ownsRow w.heap.size 3 1 (.slice oa L.length oc) L.length (L.map (Value.int .i64))):=rowB o1 (by simp);clear b1 o1 HO1;have k2:=HT.out.1;have qu0:=k2.cu 0 (by decide);have qu1:=k2.cu 1 (by decide);have qu2:=k2.cu 2 (by decide);have qu3:=k2.cu 3 (by decide);have ql0:=k2.cl 0 (by decide);have ql1:=k2.cl 1 (by decide);have ql2:=k2.cl 2 (by decide);have ql3:=k2.cl 3 (by decide);have qb0:=k2.cb 0 (by decide);have qb1:=k2.cb 1 (by decide);have qb2:=k2.cb 2 (by decide);have qb3:=k2.cb 3 (by decide);have qd:=k2.cd;have qz:=k2.lt;clear k2)
  | (go_at_call 50;refine Calls.mono (HU.out _ HT.out.2) ?_;rintro e w2 ⟨rfl,b2⟩;have HT2:Hid (TabAt w2 w.heap.size t/\Below w.heap.size w w2):=tabNext HT.out b2;have HR2:Hid (w2.ownsRow w.heap.size 3 1 (.slice oa L.length oc) L.length (L.map (Value.int .i64))):=row_up HR1.out b2;clear b2 HU HT HR1 qu0 qu1 qu2 qu3 ql0 ql1 ql2 ql3 qb0 qb1 qb2 qb3 qd qz;have k2:=HT2.out.1;have qu0:=k2.cu 0 (by decide);have qu1:=k2.cu 1 (by decide);have qu2:=k2.cu 2 (by decide);have qu3:=k2.cu 3 (by decide);have ql0:=k2.cl 0 (by decide);have ql1:=k2.cl 1 (by decide);have ql2:=k2.cl 2 (by decide);have ql3:=k2.cl 3 (by decide);have qb0:=k2.cb 0 (by decide);have qb1:=k2.cb 1 (by decide);have qb2:=k2.cb 2 (by decide);have qb3:=k2.cb 3 (by decide);have qd:=k2.cd;have qz:=k2.lt;clear k2)
  | (go_at_call 51;refine Calls.mono (HOf.out _ HT2.out.2) ?_;rintro e w3 ⟨ea,ec,rfl,o3,b3⟩;have HT3:Hid (TabAt w3 w.heap.size t/\Below w.heap.size w w3):=tabNext HT2.out b3;have HR3:Hid (w3.ownsRow w.heap.size 3 1 (.slice oa L.length oc) L.length (L.map (Value.int .i64))/\EOwn w.heap.size w3 ea ec es):=⟨row_up HR2.out b3,rowB o3 HT2.out.2.size⟩;clear b3 o3 HOf HT2 HR2 qu0 qu1 qu2 qu3 ql0 ql1 ql2 ql3 qb0 qb1 qb2 qb3 qd qz)
  | (at_make;refine wpList_make_row _ rfl _ _ 27 rfl 3 i0 (.int .i64 0) Tryz.underlying27 HI.out.1 HI.out.2.1 HI.out.2.2.1 rfl .i64 .i64 n rfl rfl (by rw [HI.out.2.2.2];omega) (by omega) ?_))
 have HS:Hid (Dy w (w3.alloc (.cells (madeCells #[.int .i64 0] n) 3)) t ea ec es oa oc L w3.heap.size n (ngTo 0)):=by
  have g:Below w3.heap.size w3 (w3.alloc (.cells (madeCells #[.int .i64 0] n) 3)):=(Below.refl _ _).alloc (Nat.le_refl _) _;exact ⟨HT3.out.1.below g HT3.out.1.lt,HT3.out.2.trans (g.mono HT3.out.2.size),row_up HR3.out.2 g,fun b hb=>(HR3.out.2.lt b hb).2,row_up HR3.out.1 g,fun b hb=>(HR3.out.1.lt b hb).2,(Ir.new w3 n 3).same (fun k hk=>by unfold ngTo;rw [if_neg (by omega)]),HT3.out.1.lt⟩
 generalize w3.alloc (.cells (madeCells #[.int .i64 0] n) 3)=W0 at *;generalize w3.heap.size=cb at *;clear HT3 HR3;go_wp2_with fail
 go_loopw [11] (fun v wr=>∃ k:Nat,k<=n/\v=.int .i64 k/\Dy w wr t ea ec es oa oc L cb n (ngTo k)) (fun v _=>n-(intOf v).toNat)
 case atStart=>exact ⟨0,by omega,rfl,HS.out⟩
 case round=>
  rename World=>wr;obtain ⟨k,hk,rfl,hs⟩:=hrel;have HQ:Hid (Dy w wr t ea ec es oa oc L cb n (ngTo k)):=hs;clear hs HS
  by_cases hlt:k<n
  ·have k0:(0:Int)<=(k:Int):=by omega
   have k1:(k:Int)<(n:Int):=by omega
   have cc:=HQ.out.ir.c k hlt;have cz:=HQ.out.ir.f k;have cl:=HQ.out.ir.lt;have HNx:Hid (updI (ngTo k) k (-1)=ngTo (k+1)):=ngTo_next k;go_wp2_with fail
   go_roundw
   case rel=>exact ⟨k+1,by omega,by go_num,by rw [<- HNx.out];exact HQ.out.set hlt _⟩
   case measure=>simp [intOf];omega
  ·obtain rfl:k=n:=by omega
   have k1:¬ (k:Int)<(k:Int):=by omega
   obtain ⟨n,hkn⟩:∃ n,k=n:=⟨_,rfl⟩;subst hkn;have HS0:Hid (Dy w wr t ea ec es oa oc L cb k (fun _=>-1)):=HQ.out.same fun i hi=>by unfold ngTo;rw [if_pos hi]
   have hp0:((k:Nat):Int)=(k:Int)-(placed s (fun _=>-1):Nat):=by
    have:placed s (fun _=>-1)=0:=cnt_zero fun i _=>by simp
    rw [this];omega
   have HP0:Hid (((k:Nat):Int)=(k:Int)-(placed s (fun _=>-1):Nat)):=hp0;clear hp0 HQ;go_upto_region 14 with fail
   go_loopw [12,13] (fun lv cv wr=>∃ (c:Nat->Int) (y:Int),lv=.int .i64 ((k:Int)-(placed s c:Nat))/\cv=.int .i64 y/\Dy w wr t ea ec es oa oc L cb k c/\(∃ y0,OnWay s ord c y0)/\(placed s c<k->OnWay s ord c y)/\0<=y/\y<=8*(k:Int)+1) (fun _ cv _=>(8*(k:Int)+2-intOf cv).toNat)
   case atStart=>exact ⟨fun _=>-1,0,by rw [<- HP0.out],rfl,HS0.out,⟨0,OnWay.start s ord⟩,fun _=>OnWay.start s ord,by omega,by omega⟩
   case round=>
    rename World=>wz;obtain ⟨c,y,rfl,rfl,hd,hw0,hw,hy0,hy1⟩:=hrel;have HD:Hid (Dy w wz t ea ec es oa oc L cb k c):=hd;have HW0:Hid (∃ y0,OnWay s ord c y0):=hw0;have hple:placed s c<=k:=by have:=placed_le s c;have:=HOk.out.2.2;omega
    by_cases hpl:placed s c<k
    ·have l0:(0:Int)<(k:Int)-(placed s c:Nat):=by omega
     have HWz:Hid (OnWay s ord c y):=hw hpl;clear hd hw0 hw HS0 HW0;have hiv:=HWz.out.inv HOk.out.1 HOk.out.2.1;have hyp:y<=8*(k:Int):=by have h1:=hiv.yp;omega
     clear hiv;go_upto_region 17 with fail
     go_loopw [12,14] (fun lv kv wr=>∃ (c:Nat->Int) (m:Nat),lv=.int .i64 ((k:Int)-(placed s c:Nat))/\kv=.int .i64 m/\m<=L.length/\Dy w wr t ea ec es oa oc L cb k c/\OnWay s ord c y/\∀ (j:Nat) (hj:j<ord.length),j<m->okB s c y ord[j]=false) (fun lv kv _=>(intOf lv).toNat * (L.length+2)+(L.length-(intOf kv).toNat))
     case atStart=>exact ⟨c,0,rfl,rfl,by omega,HD.out,HWz.out,fun j _ hj=>by omega⟩
     case round=>
      rename World=>wx;obtain ⟨c,m,rfl,rfl,hm,hd,hw,hno⟩:=hrel;have HQ:Hid (Dy w wx t ea ec es oa oc L cb k c):=hd;have HWx:Hid (OnWay s ord c y):=hw;have HNo:Hid (∀ (j:Nat) (hj:j<ord.length),j<m->okB s c y ord[j]=false):=hno;have hiv:=hw.inv HOk.out.1 HOk.out.2.1;have hple2:placed s c<=k:=by have:=placed_le s c;have:=HOk.out.2.2;omega
      have HRg:Hid (∀ i,i<k→-1<=c i/\c i<=100000):=fun i hi=>by
       have h1:=hiv.lo i (by rw [HOk.out.2.2];exact hi);have h2:=hiv.le i (by rw [HOk.out.2.2];exact hi);omega
      clear hd hw hno HD hiv
      by_cases hml:m<L.length
      ·have m0:(0:Int)<=(m:Int):=by omega
       have m1:(m:Int)<(L.length:Int):=by omega
       obtain ⟨hmo,hme⟩:=HLo.out m hml;obtain ⟨ob,rfl,obl,obc⟩:=HQ.out.ord m hml;rw [hme] at obc;have hin:ord[m]<k:=by rw [<- HOk.out.2.2];exact (HOk.out.2.1 _).1 (List.getElem_mem hmo)
       have HNx:Hid (okB s c y ord[m]=false->∀ (j:Nat) (hj:j<ord.length),j<m+1->okB s c y ord[j]=false):=fun e j hj hjm=>by
        rcases Nat.lt_or_ge j m with h|h
        ·exact HNo.out j hj h
        ·obtain rfl:j=m:=by omega
         exact e
       have HFd:Hid (okB s c y ord[m]=true->OnWay s ord (ListWay.upd c ord[m] y) y):=fun e=>HWx.out.place HOk.out.2.1 (find_first hmo e fun j hj=>HNo.out j (by omega) hj);have HAsk:Hid (okB s c y ord[m]=(decide (c ord[m]<0)&&(rdB es c y ord[m]&&fdB s c y ord[m]))):=HSp.out c y ord[m];have HPl:Hid (c ord[m]<0->placed s (ListWay.upd c ord[m] y)=placed s c+1):=fun e=>placed_upd (by rw [HOk.out.2.2];exact hin) e hy0;generalize ord[m]=i at *;have i0:(0:Int)<=(i:Int):=by omega
       have i1:(i:Int)<(k:Int):=by omega
       have HRd:Hid (∀ Z,Dy w Z t ea ec es (some ⟨ob,0,none⟩) oc L cb k c->Calls Tryz.prog 52 #[.slice ea M ec,.slice (some ⟨cb,0,none⟩) k k,.int .i64 (i:Int),.int .i64 y] Z fun e w'=>e=.returned (.bool (rdB es c y i))/\Below Z.heap.size Z w'):=fun Z hZ=>HRd0.out Z cb ea ec c i y hZ.eo hZ.ir HRg.out hin hy0 (by omega);have HFr:Hid (∀ Z,Dy w Z t ea ec es (some ⟨ob,0,none⟩) oc L cb k c->Calls Tryz.prog 53 #[.slice ao k cap,.agg #[.int .i64 (t.u 0),.int .i64 (t.u 1),.int .i64 (t.u 2),.int .i64 (t.u 3),.int .i64 (t.l 0),.int .i64 (t.l 1),.int .i64 (t.l 2),.int .i64 (t.l 3),.int .i64 (t.b 0),.int .i64 (t.b 1),.int .i64 (t.b 2),.int .i64 (t.b 3),.int .i64 t.d],.slice (some ⟨cb,0,none⟩) k k,.int .i64 (i:Int),.int .i64 y] Z fun e w'=>e=.returned (.bool (fdB s c y i))/\Below Z.heap.size Z w'):=fun Z hZ=>HFr0.out Z cb c i y hZ.up hZ.ir HRg.out hin hy0 (by omega);have cc:=HQ.out.ir.c i hin;have clt:=HQ.out.ir.lt
       by_cases hci:c i<0
       ·generalize rdB es c y i=rd at *;generalize fdB s c y i=fd at *;have HCn:Hid (c i<0):=hci
        cases rd
        ·have hv0:okB s c y i=false:=by rw [HAsk.out];simp
         have HV:Hid _:=HNx.out hv0;clear hv0;generalize hcv:c i=cv at *;go_wp2_with (first
      | (go_at_call 52;refine Calls.mono (HRd.out _ HQ.out) ?_;rintro e w2 ⟨rfl,b2⟩;have HQ2:Hid (Dy w w2 t ea ec es (some ⟨ob,0,none⟩) oc L cb k c):=HQ.out.next b2;clear b2 HRd HQ;have k2:=HQ2.out.t;have qu0:=k2.cu 0 (by decide);have qu1:=k2.cu 1 (by decide);have qu2:=k2.cu 2 (by decide);have qu3:=k2.cu 3 (by decide);have ql0:=k2.cl 0 (by decide);have ql1:=k2.cl 1 (by decide);have ql2:=k2.cl 2 (by decide);have ql3:=k2.cl 3 (by decide);have qb0:=k2.cb 0 (by decide);have qb1:=k2.cb 1 (by decide);have qb2:=k2.cb 2 (by decide);have qb3:=k2.cb 3 (by decide);have qd:=k2.cd;have qz:=k2.lt;clear k2)
      | (go_at_call 53;refine Calls.mono (HFr.out _ HQ2.out) ?_;rintro e w3 ⟨rfl,b3⟩;have HQ3:Hid (Dy w w3 t ea ec es (some ⟨ob,0,none⟩) oc L cb k c):=HQ2.out.next b3;clear b3 HFr HQ2 qu0 qu1 qu2 qu3 ql0 ql1 ql2 ql3 qb0 qb1 qb2 qb3 qd qz))
         go_roundw
         case rel=>exact ⟨c,m+1,rfl,by go_num,by omega,HQ2.out,HWx.out,HV.out⟩
         case measure=>simp [intOf];omega
        ·cases fd
         ·have hv0:okB s c y i=false:=by rw [HAsk.out];simp
          have HV:Hid _:=HNx.out hv0;clear hv0;generalize hcv:c i=cv at *;go_wp2_with (first
      | (go_at_call 52;refine Calls.mono (HRd.out _ HQ.out) ?_;rintro e w2 ⟨rfl,b2⟩;have HQ2:Hid (Dy w w2 t ea ec es (some ⟨ob,0,none⟩) oc L cb k c):=HQ.out.next b2;clear b2 HRd HQ;have k2:=HQ2.out.t;have qu0:=k2.cu 0 (by decide);have qu1:=k2.cu 1 (by decide);have qu2:=k2.cu 2 (by decide);have qu3:=k2.cu 3 (by decide);have ql0:=k2.cl 0 (by decide);have ql1:=k2.cl 1 (by decide);have ql2:=k2.cl 2 (by decide);have ql3:=k2.cl 3 (by decide);have qb0:=k2.cb 0 (by decide);have qb1:=k2.cb 1 (by decide);have qb2:=k2.cb 2 (by decide);have qb3:=k2.cb 3 (by decide);have qd:=k2.cd;have qz:=k2.lt;clear k2)
      | (go_at_call 53;refine Calls.mono (HFr.out _ HQ2.out) ?_;rintro e w3 ⟨rfl,b3⟩;have HQ3:Hid (Dy w w3 t ea ec es (some ⟨ob,0,none⟩) oc L cb k c):=HQ2.out.next b3;clear b3 HFr HQ2 qu0 qu1 qu2 qu3 ql0 ql1 ql2 ql3 qb0 qb1 qb2 qb3 qd qz))
          go_roundw
          case rel=>exact ⟨c,m+1,rfl,by go_num,by omega,HQ3.out,HWx.out,HV.out⟩
          case measure=>simp [intOf];omega
         ·have hv0:okB s c y i=true:=by rw [HAsk.out];simp [hci]
          have HV:Hid _:=HFd.out hv0;have HP1:Hid (placed s (ListWay.upd c i y)=placed s c+1):=HPl.out hci;clear hv0;generalize hcv:c i=cv at *;go_upto_region 21 with (first
      | (go_at_call 52;refine Calls.mono (HRd.out _ HQ.out) ?_;rintro e w2 ⟨rfl,b2⟩;have HQ2:Hid (Dy w w2 t ea ec es (some ⟨ob,0,none⟩) oc L cb k c):=HQ.out.next b2;clear b2 HRd HQ;have k2:=HQ2.out.t;have qu0:=k2.cu 0 (by decide);have qu1:=k2.cu 1 (by decide);have qu2:=k2.cu 2 (by decide);have qu3:=k2.cu 3 (by decide);have ql0:=k2.cl 0 (by decide);have ql1:=k2.cl 1 (by decide);have ql2:=k2.cl 2 (by decide);have ql3:=k2.cl 3 (by decide);have qb0:=k2.cb 0 (by decide);have qb1:=k2.cb 1 (by decide);have qb2:=k2.cb 2 (by decide);have qb3:=k2.cb 3 (by decide);have qd:=k2.cd;have qz:=k2.lt;clear k2)
      | (go_at_call 53;refine Calls.mono (HFr.out _ HQ2.out) ?_;rintro e w3 ⟨rfl,b3⟩;have HQ3:Hid (Dy w w3 t ea ec es (some ⟨ob,0,none⟩) oc L cb k c):=HQ2.out.next b3;clear b3 HFr HQ2 qu0 qu1 qu2 qu3 ql0 ql1 ql2 ql3 qb0 qb1 qb2 qb3 qd qz))
          have cc:=HQ3.out.ir.c i hin;have cz:=HQ3.out.ir.f i;have clt:=HQ3.out.ir.lt;have hp1:=HP1.out;have hpk:placed s (ListWay.upd c i y)<=k:=by have:=placed_le s (ListWay.upd c i y);have:=HOk.out.2.2;omega
          go_wp2_with fail
          go_roundw
          case rel=>exact ⟨ListWay.upd c i y,0,by rw [HP1.out];go_num,by first|rfl|go_num,by omega,HQ3.out.set hin y,HV.out,fun j _ hj=>by omega⟩
          case measure=>
           simp [intOf]
           obtain ⟨d,hd⟩:∃ d,k-placed s c=d+1:=⟨k-placed s c-1,by omega⟩;rw [hd,Nat.add_sub_cancel,Nat.add_mul];generalize d*(L.length+2)=q;omega
       ·have hv0:okB s c y i=false:=by rw [HAsk.out];simp [hci]
        have HV:Hid _:=HNx.out hv0;clear hv0 HRd HFr;generalize hcv:c i=cv at *;have hcd:decide (cv<0)=false:=by simpa using hci
        go_wp2_with fail
        go_roundw
        case rel=>exact ⟨c,m+1,rfl,by go_num,by omega,HQ.out,HWx.out,HV.out⟩
        case measure=>simp [intOf];omega
      ·obtain rfl:m=L.length:=by omega
       have m1:¬ ((L.length:Nat):Int)<((L.length:Nat):Int):=by omega
       have hfn:ord.find? (okB s c y)=none:=find_not fun j hj=>HNo.out j hj (by rw [<- HLl.out];exact hj);have HFn:Hid (ord.find? (okB s c y)=none):=hfn;clear hfn;go_wp2_with fail
       go_roundw
       case rel=>exact ⟨c,y+1,rfl,by go_num,HQ.out,⟨y,HWx.out⟩,fun hp=>HWx.out.next (by rw [HOk.out.2.2];exact hp) HFn.out,by omega,by omega⟩
       case measure=>simp [intOf];omega
    ·have hpe:placed s c=k:=by omega
     rw [hpe];have l0:¬ (0:Int)<(k:Int)-((k:Nat):Int):=by omega
     have HFin:Hid (c=sch s ord):=by
      obtain ⟨y0,hy⟩:=hw0;exact hy.done HOk.out.1 HOk.out.2.1 (by rw [HOk.out.2.2];exact hpe)
     clear hd hw0 hw HS0;go_wp2_with fail
     go_ret2
     refine ⟨cb,rfl,?_,Nat.le_of_lt HD.out.lb,HD.out.up⟩;rw [<- HFin.out];exact HD.out.ir
end Go.Proofs.YtiejdpjgplikjaaGreatDoor.Ls
