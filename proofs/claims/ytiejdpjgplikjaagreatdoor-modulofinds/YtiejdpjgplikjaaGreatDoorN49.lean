/- Parts Zp Mc. -/
import Derived.Test.YtiejdpjgplikjaaGreatDoorN48
import Derived.Test.YtiejdpjgplikjaaGreatDoorN40
import Derived.Test.YtiejdpjgplikjaaGreatDoorN47
set_option maxRecDepth 20000
set_option maxHeartbeats 8000000
namespace Go.Proofs.YtiejdpjgplikjaaGreatDoor.Bn
open Go.ChangeShapes Go.WideShapes Go.ChangeAt Go.RowKit
open YtiejdpjgplikjaaGreatDoor.Op YtiejdpjgplikjaaGreatDoor.So
open YtiejdpjgplikjaaGreatDoor.Dp (Ed lisE okL loopE ofE EdOut erE lis_all Lall ofD roundD ofD_eq roundD_eq refLoop_any)
open YtiejdpjgplikjaaGreatDoor.Tb (Tab TabAt Bnds ckR)
theorem loopD {t:Tab} {xs:List O} (hA:Lall xs):ofD t xs xs.length++roundD t xs xs.length=loopE t xs:=by
 rw [<- ofD_eq t hA,<- roundD_eq t hA];rfl
theorem bf_below {n:Nat} {es:List Ed} (hE:EL n es) (hn:n<=64) {q:Int} (h1:1<=q) (h2:q<rndE n es):bf q es (n+1) (fun _=>0)=false:=by
 have h5:inT (stp q es) n=false:=(rnd_is (P:=fun q=>inT (stp q es) n) (srch_of hE hn).top).2.2.2 q h1 h2;have h6:rndE n es<=512:=(rnd_is (P:=fun q=>inT (stp q es) n) (srch_of hE hn).top).2.2.1
 cases e2:bf q es (n+1) (fun _=>0)
 ·rfl
 ·rw [(inT_iff64 hE hn (by omega) (by omega)).2 ((bf_iff hE _).1 e2)] at h5
  cases h5
theorem refRounds_any (ao:Option Addr) (cap:Nat) (xs:List O) (t:Tab) (w:World) (h:OpsAt w ao xs) :
  Calls Tryz.prog 48 #[.slice ao xs.length cap,t.val] w fun e w'=>e=.returned (.tuple #[.int .i64 (roE t xs),.int .i64 (rgE t xs)])/\Below w.heap.size w w':=by
 have HR:Hid (∀ W,Below w.heap.size w W->Calls Tryz.prog 92 #[.slice ao xs.length cap,t.val] W fun e w'=>e=.returned (.int .i64 (rgE t xs))/\Below W.heap.size W w'):=fun W hb=>refRight_any ao cap xs t W (h.below hb);unfold roE
 by_cases he:rgE t xs=0
 ·obtain ⟨h1,h2,h3,h4⟩:=rg_ok he;have h41:=h2;have hE:=loopE_ok h he;have hA:Lall xs:=fun o ho=>⟨h.ok o ho,(lis_all h3).2.2 o ho⟩;have HL:Hid (∀ W,Below w.heap.size w W->Calls Tryz.prog 93 #[.slice ao xs.length cap,t.val] W (EdOut W 0 (loopE t xs))):=fun W hb=>by
   have:=refLoop_any ao cap xs t W (h.below hb) fun _=>by omega
   unfold erE at this;rw [if_pos h3,h3,loopD hA] at this;exact this
  obtain ⟨⟨r1,r2⟩,r3,-⟩:=ring_is hE h41;have HG:Hid (∀ W ea ec (q:Int),Es W ea (loopE t xs)->1<=q->q<=rndE xs.length (loopE t xs)->Calls Tryz.prog 94 #[.slice ea (loopE t xs).length ec,.int .i64 xs.length,.int .i64 q] W fun e w'=>e=.returned (.bool (decide (q=rndE xs.length (loopE t xs))))/\Below W.heap.size W w'):=fun W ea ec q hs g1 g2=>by
   have:=goes_any xs.length (by omega) ea ec _ _ rfl q W hs hE (by omega) (by omega) (loopE_len (by omega))
   by_cases e:q=rndE xs.length (loopE t xs)
   ·rw [e,r3] at this;rw [e];simpa using this
   ·rw [bf_below hE h41 g1 (by omega)] at this;simpa [e] using this
  rw [if_pos he,he];rw [he] at HR;have hlen:=h.len;clear h he h1 h2 h3 h4 hE hA r3 h41;unfold EdOut at HL;generalize hrr:rndE xs.length (loopE t xs)=r at *;have HRR:Hid (rndE xs.length (loopE t xs)=r):=hrr;clear hrr;generalize loopE t xs=es at *;unfold Tab.val at *;go_enter Tryz.func48,Tryz.ntmps48;go_wp2_with (first
   | (go_at_call 92;refine Calls.mono (HR.out _ (by go_grown)) ?_;rintro e w1 ⟨rfl,hb⟩;have HT:Hid (Tq w w1 t):=Tq.start w t hb;clear hb HR;have s1:=HT.out.t;have tu0:=s1.cu 0 (by decide);have tu1:=s1.cu 1 (by decide);have tu2:=s1.cu 2 (by decide);have tu3:=s1.cu 3 (by decide);have tl0:=s1.cl 0 (by decide);have tl1:=s1.cl 1 (by decide);have tl2:=s1.cl 2 (by decide);have tl3:=s1.cl 3 (by decide);have tb0:=s1.cb 0 (by decide);have tb1:=s1.cb 1 (by decide);have tb2:=s1.cb 2 (by decide);have tb3:=s1.cb 3 (by decide);have td:=s1.cd;have tz:=s1.lt;clear s1)
   | (go_at_call 93;refine Calls.mono (HL.out _ HT.out.up) ?_;rintro e w2 ⟨ea,ec,rfl,ho,hb⟩;have HT2:Hid (Tq w w2 t/\Es w2 ea es):=⟨HT.out.next hb,es_of ho⟩;clear hb ho HL HT;clear tu0 tu1 tu2 tu3 tl0 tl1 tl2 tl3 tb0 tb1 tb2 tb3 td tz))
  go_loopw [9] (fun v wr=>∃ q:Int,1<=q/\q<=r/\v=.int .i64 q/\Tq w wr t/\Es wr ea es) (fun v _=>(r-intOf v).toNat)
  case atStart=>exact ⟨1,by omega,r1,rfl,HT2.out⟩
  case round=>
   rename World=>wr;obtain ⟨q,q1,q2,rfl,hs⟩:=hrel;have HQ:Hid (Tq w wr t/\Es wr ea es):=hs;clear hs HT2;have HGq:Hid (Calls Tryz.prog 94 #[.slice ea es.length ec,.int .i64 xs.length,.int .i64 q] wr fun e w'=>e=.returned (.bool (decide (q=r)))/\Below wr.heap.size wr w'):=HG.out wr ea ec q HQ.out.2 q1 q2
   by_cases hq:q=r
   ·subst hq;have HGr:Hid (Calls Tryz.prog 94 #[.slice ea es.length ec,.int .i64 xs.length,.int .i64 q] wr fun e w'=>e=.returned (.bool true)/\Below wr.heap.size wr w'):=by have h:=HGq.out;rw [show decide (q=q)=true by simp] at h;exact h
    clear HGq;go_wp2_with (first
     | (go_at_call 94;refine Calls.mono HGr.out ?_;rintro e w3 ⟨rfl,hb⟩;have HQ3:Hid (Tq w w3 t):=HQ.out.1.next hb;clear hb HGr HQ))
    go_ret2
    exact ⟨rfl,HQ3.out.up⟩
   ·have HGr:Hid (Calls Tryz.prog 94 #[.slice ea es.length ec,.int .i64 xs.length,.int .i64 q] wr fun e w'=>e=.returned (.bool false)/\Below wr.heap.size wr w'):=by have h:=HGq.out;rw [show decide (q=r)=false by simpa using hq] at h;exact h
    have hq2:q<r:=by omega
    clear HGq hq;go_wp2_with (first
     | (go_at_call 94;refine Calls.mono HGr.out ?_;rintro e w3 ⟨rfl,hb⟩;have HQ3:Hid (Tq w w3 t/\Es w3 ea es):=⟨HQ.out.1.next hb,HQ.out.2.up hb⟩;clear hb HGr HQ))
    go_roundw
    case rel=>exact ⟨q+1,by omega,by omega,by first|rfl|go_num,HQ3.out⟩
    case measure=>simp [intOf];omega
 ·rw [if_neg he];have he2:(rgE t xs != 0)=true:=by simpa using he
  clear h;generalize rgE t xs=er at *;unfold Tab.val at *;go_enter Tryz.func48,Tryz.ntmps48;go_wp2_with (first
   | (go_at_call 92;refine Calls.mono (HR.out _ (by go_grown)) ?_;rintro e w1 ⟨rfl,hb⟩;have HT:Hid (Tq w w1 t):=Tq.start w t hb;clear hb HR))
  go_ret2
  exact ⟨rfl,HT.out.up⟩
theorem refLeast_any (ao:Option Addr) (cap:Nat) (xs:List O) (t:Tab) (w:World) (h:OpsAt w ao xs) :
  Calls Tryz.prog 20 #[.slice ao xs.length cap,t.val] w fun e w'=>e=.returned (.tuple #[.int .i64 (leE t xs),.int .i64 (rgE t xs)])/\Below w.heap.size w w':=by
 have HU:Hid (∀ W,Below w.heap.size w W->Calls Tryz.prog 47 #[.slice ao xs.length cap,t.val] W fun e w'=>e=.returned (.tuple #[.int .i64 (unE t xs),.int .i64 (rgE t xs)])/\Below W.heap.size W w'):=fun W hb=>refUnits_any ao cap xs t W (h.below hb);have HR:Hid (∀ W,Below w.heap.size w W->Calls Tryz.prog 48 #[.slice ao xs.length cap,t.val] W fun e w'=>e=.returned (.tuple #[.int .i64 (roE t xs),.int .i64 (rgE t xs)])/\Below W.heap.size W w'):=fun W hb=>refRounds_any ao cap xs t W (h.below hb)
 by_cases he:rgE t xs=0
 ·obtain ⟨h1,h2,h3,h4⟩:=rg_ok he;have ht:=(tab_in h1).1;have hu:unE t xs=buI t (cts xs) 4:=if_pos he;have hr:roE t xs=rndE xs.length (loopE t xs):=if_pos he;have hl:leE t xs=max (max (buI t (cts xs) 4) (rndE xs.length (loopE t xs))) (1+t.d):=if_pos he;rw [hl,he];rw [hu,he] at HU;rw [hr,he] at HR;clear h he h1 h2 h3 h4 hu hr hl;generalize rndE xs.length (loopE t xs)=ro at *;generalize buI t (cts xs) 4=bu at *;unfold Tab.val at *;go_enter Tryz.func20,Tryz.ntmps20;go_upto_region 7 with (first
   | (go_at_call 47;refine Calls.mono (HU.out _ (by go_grown)) ?_;rintro e w1 ⟨rfl,hb⟩;have HT:Hid (Tq w w1 t):=Tq.start w t hb;clear hb HU;have s1:=HT.out.t;have tu0:=s1.cu 0 (by decide);have tu1:=s1.cu 1 (by decide);have tu2:=s1.cu 2 (by decide);have tu3:=s1.cu 3 (by decide);have tl0:=s1.cl 0 (by decide);have tl1:=s1.cl 1 (by decide);have tl2:=s1.cl 2 (by decide);have tl3:=s1.cl 3 (by decide);have tb0:=s1.cb 0 (by decide);have tb1:=s1.cb 1 (by decide);have tb2:=s1.cb 2 (by decide);have tb3:=s1.cb 3 (by decide);have td:=s1.cd;have tz:=s1.lt;clear s1)
   | (go_at_call 48;refine Calls.mono (HR.out _ HT.out.up) ?_;rintro e w2 ⟨rfl,hb⟩;have HT2:Hid (Tq w w2 t):=HT.out.next hb;clear hb HR HT;clear tu0 tu1 tu2 tu3 tl0 tl1 tl2 tl3 tb0 tb1 tb2 tb3 td tz))
  have td:=HT2.out.t.cd;have tz:=HT2.out.t.lt
  by_cases c1:bu<ro
  ·by_cases c2:ro<1+t.d
   ·have HM:Hid (max (max bu ro) (1+t.d)=1+t.d/\max bu (max ro (1+t.d))=1+t.d):=⟨by omega,by omega⟩;go_wp2_with fail
    go_ret2
    exact ⟨by first|(rw [HM.out.1];rfl)|(rw [HM.out.2];rfl),HT2.out.up⟩
   ·have HM:Hid (max (max bu ro) (1+t.d)=ro/\max bu (max ro (1+t.d))=ro):=⟨by omega,by omega⟩;go_wp2_with fail
    go_ret2
    exact ⟨by first|(rw [HM.out.1];rfl)|(rw [HM.out.2];rfl),HT2.out.up⟩
  ·by_cases c2:bu<1+t.d
   ·have HM:Hid (max (max bu ro) (1+t.d)=1+t.d/\max bu (max ro (1+t.d))=1+t.d):=⟨by omega,by omega⟩;go_wp2_with fail
    go_ret2
    exact ⟨by first|(rw [HM.out.1];rfl)|(rw [HM.out.2];rfl),HT2.out.up⟩
   ·have HM:Hid (max (max bu ro) (1+t.d)=bu/\max bu (max ro (1+t.d))=bu):=⟨by omega,by omega⟩;go_wp2_with fail
    go_ret2
    exact ⟨by first|(rw [HM.out.1];rfl)|(rw [HM.out.2];rfl),HT2.out.up⟩
 ·have hu:unE t xs=0:=if_neg he;have hl:leE t xs=0:=if_neg he;rw [hl];rw [hu] at HU;have he2:(rgE t xs != 0)=true:=by simpa using he
  clear h HR hu hl he;generalize rgE t xs=er at *;unfold Tab.val at *;go_enter Tryz.func20,Tryz.ntmps20;go_wp2_with (first
   | (go_at_call 47;refine Calls.mono (HU.out _ (by go_grown)) ?_;rintro e w1 ⟨rfl,hb⟩;have HT:Hid (Tq w w1 t):=Tq.start w t hb;clear hb HU))
  go_ret2
  exact ⟨rfl,HT.out.up⟩
end Go.Proofs.YtiejdpjgplikjaaGreatDoor.Bn
namespace Go.Proofs.YtiejdpjgplikjaaGreatDoor.Mo
open Go.ChangeShapes Go.WideShapes Go.ChangeAt Go.RowKit
open YtiejdpjgplikjaaGreatDoor.Op YtiejdpjgplikjaaGreatDoor.So YtiejdpjgplikjaaGreatDoor.Dp YtiejdpjgplikjaaGreatDoor.Bn
open YtiejdpjgplikjaaGreatDoor.Ls (clN clN_at clN_lt Nl cyL cyL_is clV_D cy_nl hvU refCycles_ok)
open YtiejdpjgplikjaaGreatDoor.Tb (Tab TabAt Bnds)
theorem always_no (ao:Option Addr) (cap:Nat) (xs:List O) (t:Tab) (w:World) (h:OpsAt w ao xs) (he:¬ rgE t xs=0) :
  Calls Tryz.prog 7 #[.slice ao xs.length cap,t.val] w fun e w'=>e=.returned (.tuple #[.agg #[.int .i64 0,.slice none 0 0,.int .i64 0],.int .i64 (rgE t xs)])/\Below w.heap.size w w':=by
 have HL:Hid (∀ W,Below w.heap.size w W->Calls Tryz.prog 20 #[.slice ao xs.length cap,.agg #[.int .i64 (t.u 0),.int .i64 (t.u 1),.int .i64 (t.u 2),.int .i64 (t.u 3),.int .i64 (t.l 0),.int .i64 (t.l 1),.int .i64 (t.l 2),.int .i64 (t.l 3),.int .i64 (t.b 0),.int .i64 (t.b 1),.int .i64 (t.b 2),.int .i64 (t.b 3),.int .i64 t.d]] W fun e w'=>e=.returned (.tuple #[.int .i64 (leE t xs),.int .i64 (rgE t xs)])/\Below W.heap.size W w'):=fun W hb=>refLeast_any ao cap xs t W (h.below hb);have hlen:=h.len;have he':(rgE t xs != 0)=true:=by simpa using he
 clear h;generalize rgE t xs=er at *;generalize leE t xs=le at *;unfold Tab.val;go_enter Tryz.func7,Tryz.ntmps7;go_wp2_with (first
  | (go_at_call 20;refine Calls.mono (HL.out _ (by go_grown)) ?_;rintro e w1 ⟨rfl,b1⟩;have HT:Hid (Fi w w1 t):=fi_new w t b1;clear b1 HL;have r0:=HT.out.r.c 0 _ rfl;have r1:=HT.out.r.c 1 _ rfl;have r2:=HT.out.r.c 2 _ rfl;have rf0:=HT.out.r.f 0;have rf1:=HT.out.r.f 1;have rf2:=HT.out.r.f 2;have rl:=HT.out.r.lt))
 refine bodyPost_ret (v:=.tuple #[.agg #[.int .i64 0,.slice none 0 0,.int .i64 0],.int .i64 er]) (by simp [results,Tryz.results7,go_sem,r0,r1,r2]) rfl ⟨rfl,?_⟩;exact ((HT.out.up.setCell (Nat.le_succ _) _).setCell (Nat.le_succ _) _).setCell (Nat.le_succ _) _
theorem always_ok (ao:Option Addr) (cap:Nat) (xs:List O) (t:Tab) (w:World) (h:OpsAt w ao xs) (hq:xs.length<=60) (he:rgE t xs=0) :
  Calls Tryz.prog 7 #[.slice ao xs.length cap,t.val] w fun e w'=>∃ hb,e=.returned (.tuple #[.agg #[.int .i64 (drn t xs (cyL t xs) xs.length),.slice (some ⟨hb,0,none⟩) xs.length xs.length,.int .i64 1],.int .i64 0])/\Below w.heap.size w w':=by
 obtain ⟨ht,hn,hl,hu⟩:=rg_ok he;obtain ⟨hok,hd1,hd2,hcr⟩:=body_ok h he;have HL:Hid (∀ W,Below w.heap.size w W->Calls Tryz.prog 20 #[.slice ao xs.length cap,.agg #[.int .i64 (t.u 0),.int .i64 (t.u 1),.int .i64 (t.u 2),.int .i64 (t.u 3),.int .i64 (t.l 0),.int .i64 (t.l 1),.int .i64 (t.l 2),.int .i64 (t.l 3),.int .i64 (t.b 0),.int .i64 (t.b 1),.int .i64 (t.b 2),.int .i64 (t.b 3),.int .i64 t.d]] W fun e w'=>e=.returned (.tuple #[.int .i64 (leE t xs),.int .i64 0])/\Below W.heap.size W w'):=fun W hb=>by have:=refLeast_any ao cap xs t W (h.below hb);rw [he] at this;exact this
 have HC:Hid (∀ W,Below w.heap.size w W->Calls Tryz.prog 21 #[.slice ao xs.length cap,.agg #[.int .i64 (t.u 0),.int .i64 (t.u 1),.int .i64 (t.u 2),.int .i64 (t.u 3),.int .i64 (t.l 0),.int .i64 (t.l 1),.int .i64 (t.l 2),.int .i64 (t.l 3),.int .i64 (t.b 0),.int .i64 (t.b 1),.int .i64 (t.b 2),.int .i64 (t.b 3),.int .i64 t.d]] W fun e w'=>∃ hb,e=.returned (.tuple #[.slice (some ⟨hb,0,none⟩) xs.length xs.length,.int .i64 0])/\Nl w' (some ⟨hb,0,none⟩) xs.length (cyL t xs)/\Below W.heap.size W w'):=fun W hb=>by
  refine (refCycles_ok ao cap xs t W (h.below hb) hq hl (hu_hv hu).1).mono ?_;rintro e w' ⟨hb,rfl,hi,hz,hb2⟩;exact ⟨hb,rfl,cy_nl h.ok hl (hu_hv hu).1 hi,hb2⟩
 have HD:Hid (∀ W hb,Below w.heap.size w W->Nl W (some ⟨hb,0,none⟩) xs.length (cyL t xs)->Calls Tryz.prog 22 #[.slice ao xs.length cap,.agg #[.int .i64 (t.u 0),.int .i64 (t.u 1),.int .i64 (t.u 2),.int .i64 (t.u 3),.int .i64 (t.l 0),.int .i64 (t.l 1),.int .i64 (t.l 2),.int .i64 (t.l 3),.int .i64 (t.b 0),.int .i64 (t.b 1),.int .i64 (t.b 2),.int .i64 (t.b 3),.int .i64 t.d],.slice (some ⟨hb,0,none⟩) xs.length xs.length] W fun e w'=>e=.returned (.int .i64 (drn t xs (cyL t xs) xs.length))/\Below W.heap.size W w'):=fun W hb g hN=>drained_any _ ao cap xs.length xs t (cyL t xs) W hN (fun k hk=>by have:=hcr k hk;omega) (h.below g) hl;have hlen:=h.len;clear h hok hcr hl hu he ht;generalize drn t xs (cyL t xs) xs.length=D at *;generalize leE t xs=le at *;unfold Tab.val;go_enter Tryz.func7,Tryz.ntmps7;go_wp2_with (first
  | (go_at_call 20;refine Calls.mono (HL.out _ (by go_grown)) ?_;rintro e w1 ⟨rfl,b1⟩;have HT:Hid (Fi w w1 t):=fi_new w t b1;clear b1 HL;have k2:=HT.out.t;have qu0:=k2.cu 0 (by decide);have qu1:=k2.cu 1 (by decide);have qu2:=k2.cu 2 (by decide);have qu3:=k2.cu 3 (by decide);have ql0:=k2.cl 0 (by decide);have ql1:=k2.cl 1 (by decide);have ql2:=k2.cl 2 (by decide);have ql3:=k2.cl 3 (by decide);have qb0:=k2.cb 0 (by decide);have qb1:=k2.cb 1 (by decide);have qb2:=k2.cb 2 (by decide);have qb3:=k2.cb 3 (by decide);have qd:=k2.cd;have qz:=k2.lt;clear k2)
  | (go_at_call 21;refine Calls.mono (HC.out _ HT.out.up) ?_;rintro e w2 ⟨hb,rfl,n2,b2⟩;have HT2:Hid (Fi w w2 t/\Nl w2 (some ⟨hb,0,none⟩) xs.length (cyL t xs)):=⟨HT.out.next b2,n2⟩;clear b2 n2 HC HT qu0 qu1 qu2 qu3 ql0 ql1 ql2 ql3 qb0 qb1 qb2 qb3 qd qz;have k2:=HT2.out.1.t;have qu0:=k2.cu 0 (by decide);have qu1:=k2.cu 1 (by decide);have qu2:=k2.cu 2 (by decide);have qu3:=k2.cu 3 (by decide);have ql0:=k2.cl 0 (by decide);have ql1:=k2.cl 1 (by decide);have ql2:=k2.cl 2 (by decide);have ql3:=k2.cl 3 (by decide);have qb0:=k2.cb 0 (by decide);have qb1:=k2.cb 1 (by decide);have qb2:=k2.cb 2 (by decide);have qb3:=k2.cb 3 (by decide);have qd:=k2.cd;have qz:=k2.lt;clear k2)
  | (go_at_call 22;refine Calls.mono (HD.out _ _ HT2.out.1.up HT2.out.2) ?_;rintro e w3 ⟨rfl,b3⟩;have HT3:Hid (Fi w w3 t):=HT2.out.1.next b3;clear b3 HD HT2 qu0 qu1 qu2 qu3 ql0 ql1 ql2 ql3 qb0 qb1 qb2 qb3 qd qz;have r0:=HT3.out.r.c 0 _ rfl;have r1:=HT3.out.r.c 1 _ rfl;have r2:=HT3.out.r.c 2 _ rfl;have rf0:=HT3.out.r.f 0;have rf1:=HT3.out.r.f 1;have rf2:=HT3.out.r.f 2;have rl:=HT3.out.r.lt))
 refine bodyPost_ret (v:=.tuple #[.agg #[.int .i64 D,.slice (some ⟨hb,0,none⟩) xs.length xs.length,.int .i64 1],.int .i64 0]) (by simp [results,Tryz.results7,go_sem,r0,r1,r2]) rfl ⟨hb,rfl,?_⟩;exact ((HT3.out.up.setCell (Nat.le_succ _) _).setCell (Nat.le_succ _) _).setCell (Nat.le_succ _) _
end Go.Proofs.YtiejdpjgplikjaaGreatDoor.Mo
