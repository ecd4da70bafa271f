/- Parts Wa. -/
import Derived.Test.YtpdaknbmcpmhjaaGreatDoorN10
import Derived.Test.YtpdaknbmcpmhjaaGreatDoorN11
import Derived.Test.YtpdaknbmcpmhjaaGreatDoorN04
import Derived.Deep.DrawnRows
set_option maxRecDepth 20000
set_option maxHeartbeats 8000000
namespace Go.Proofs.YtpdaknbmcpmhjaaGreatDoor.Ls
open Go.ChangeShapes Go.WideShapes Go.ChangeAt Go.RowKit
open YtpdaknbmcpmhjaaGreatDoor.Op YtpdaknbmcpmhjaaGreatDoor.So YtpdaknbmcpmhjaaGreatDoor.Dp YtpdaknbmcpmhjaaGreatDoor.ListWay
open YtpdaknbmcpmhjaaGreatDoor.Tb (Tab TabAt Bnds)
def clD (d:Int):Nat:=if 15<=d then 2 else if 12<=d then 1 else 0
theorem clD_lt (d:Int):clD d<4:=by
 unfold clD;split;· omega
 ·split <;> omega
theorem classOf_any (o:O) (w:World):Calls Tryz.prog 155 #[o.val] w fun e w'=>e=.returned (.int .i64 (clD o.op:Int))/\Below w.heap.size w w':=by
 unfold clD
 by_cases h1:15<=o.op
 ·rw [if_pos h1];go_enter Tryz.func155,Tryz.ntmps155;go_wp2
  go_ret
  exact ⟨rfl,by go_grown⟩
 ·rw [if_neg h1]
  by_cases h2:12<=o.op
  ·rw [if_pos h2];go_enter Tryz.func155,Tryz.ntmps155;go_wp2
   go_ret
   exact ⟨rfl,by go_grown⟩
  ·rw [if_neg h2];go_enter Tryz.func155,Tryz.ntmps155;go_wp2
   go_ret
   exact ⟨rfl,by go_grown⟩
def hvU (t:Tab) (xs:List O):Bool:=xs.all fun o=>!(t.u (clD o.op)==0)
theorem hvU_no {t:Tab} {xs:List O} {k:Nat} (h:k<xs.length) (e:t.u (clD xs[k].op)=0):false=hvU t xs:=by
 symm
 refine List.all_eq_false.2 ⟨xs[k],List.getElem_mem h,?_⟩;simp [e]
theorem hvU_yes {t:Tab} {xs:List O} (h:∀ (j:Nat) (hj:j<xs.length),¬ t.u (clD xs[j].op)=0):true=hvU t xs:=by
 symm
 refine List.all_eq_true.2 fun o ho=>?_;obtain ⟨i,hi,rfl⟩:=List.getElem_of_mem ho;simpa using h i hi
theorem hvU_all {t:Tab} {xs:List O} (h:hvU t xs=true) (k:Nat) (hk:k<xs.length):¬ t.u (clD xs[k].op)=0:=by
 have:=List.all_eq_true.1 h _ (List.getElem_mem hk)
 simpa using this
structure Hu2 (w W:World) (t:Tab):Prop where
 t:TabAt W w.heap.size t
 up:Below w.heap.size w W
theorem Hu2.next {w W W':World} {t:Tab} (s:Hu2 w W t) (g:Below W.heap.size W W'):Hu2 w W' t:=⟨s.t.below g s.t.lt,s.up.trans (g.mono s.up.size)⟩
theorem haveUnits_any (ao:Option Addr) (cap:Nat) (xs:List O) (t:Tab) (w:World) (h:OpsAt w ao xs) (hn:xs.length<=1024) :
  Calls Tryz.prog 88 #[.slice ao xs.length cap,t.val] w fun e w'=>e=.returned (.bool (hvU t xs))/\Below w.heap.size w w':=by
 have HO:Hid (OpsAt w ao xs):=h;have hn':(xs.length:Int)<=1024:=by omega
 clear h;have HS:Hid (Hu2 w (w.alloc (.cells t.cells 27)) t):=⟨Tb.tabAt_new w t 27,(Below.refl _ _).alloc (Nat.le_refl _) _⟩;unfold Tab.val;go_enter Tryz.func88,Tryz.ntmps88;go_wp2
 generalize w.alloc (.cells t.cells 27)=W0 at *
 go_loopw [9] (fun v wr=>∃ k:Nat,k<=xs.length/\v=.int .i64 k/\(∀ (j:Nat) (hj:j<xs.length),j<k->¬ t.u (clD xs[j].op)=0)/\Hu2 w wr t) (fun v _=>xs.length-(intOf v).toNat)
 case atStart=>exact ⟨0,by omega,rfl,fun j _ hj=>by omega,HS.out⟩
 case round=>
  rename World=>wr;obtain ⟨k,hk,rfl,hok,hs⟩:=hrel;have HK:Hid (∀ (j:Nat) (hj:j<xs.length),j<k->¬ t.u (clD xs[j].op)=0):=hok;have HQ:Hid (Hu2 w wr t):=hs;clear hs HS hok
  by_cases hlt:k<xs.length
  ·have k0:(0:Int)<=(k:Int):=by omega
   have k1:(k:Int)<(xs.length:Int):=by omega
   obtain ⟨b,f,rfl,hz2,hx⟩:=(HO.out.below HQ.out.up).is (by omega);obtain ⟨q0,q1,q2,q3,q4⟩:=hx k hlt;have HQ2:Hid (Hu2 w (wr.alloc (.cells #[.int .i8 xs[k].op,.int .u8 xs[k].d,.int .u8 xs[k].a,.int .u8 xs[k].b,.int .i64 xs[k].im] 60)) t/\At (wr.alloc (.cells #[.int .i8 xs[k].op,.int .u8 xs[k].d,.int .u8 xs[k].a,.int .u8 xs[k].b,.int .i64 xs[k].im] 60)) wr.heap.size xs[k].cells):=⟨HQ.out.next ((Below.refl _ _).alloc (Nat.le_refl _) _),At.new _ _ _⟩;clear hx;have HC:Hid (∀ W,Calls Tryz.prog 155 #[.agg #[.int .i8 xs[k].op,.int .u8 xs[k].d,.int .u8 xs[k].a,.int .u8 xs[k].b,.int .i64 xs[k].im]] W fun e w'=>e=.returned (.int .i64 (clD xs[k].op:Int))/\Below W.heap.size W w'):=fun W=>classOf_any xs[k] W;have HE:Hid (t.u (clD xs[k].op)=t.u (clD xs[k].op)):=rfl;obtain ⟨c,hc⟩:∃ c,clD xs[k].op=c:=⟨_,rfl⟩;have HNo:Hid (t.u (clD xs[k].op)=0->false=hvU t xs):=fun e=>hvU_no hlt e;have HNx:Hid (¬ t.u (clD xs[k].op)=0->∀ (j:Nat) (hj:j<xs.length),j<k+1->¬ t.u (clD xs[j].op)=0):=fun e j hj hjk=>by
    rcases Nat.lt_or_ge j k with h|h
    ·exact HK.out j hj h
    ·obtain rfl:j=k:=by omega
     exact e
   have c4:c<4:=by rw [<- hc];exact clD_lt _
   rw [hc] at HC HNo HNx;clear hc HE;generalize xs[k]=o at *;go_upto_region 4 with fail
   generalize (wr.alloc (.cells #[.int .i8 o.op,.int .u8 o.d,.int .u8 o.a,.int .u8 o.b,.int .i64 o.im] 60))=X at *;generalize wr.heap.size=ob at *;clear HQ q0 q1 q2 q3 q4 hz2;have s2:=HQ2.out.2;have o0:=s2.c 0 _ rfl;have o1:=s2.c 1 _ rfl;have o2:=s2.c 2 _ rfl;have o3:=s2.c 3 _ rfl;have o4:=s2.c 4 _ rfl;have ol:=s2.lt;clear s2;have c0:(0:Int)<=(c:Int):=by omega
   have c3:(c:Int)<4:=by omega
   by_cases hu:t.u c=0
   ·have HR:Hid (false=hvU t xs):=HNo.out hu;go_wp2_with (first
     | (go_at_call 155;refine Calls.mono (HC.out _) ?_;rintro e w2 ⟨rfl,hb2⟩;have HQ3:Hid (Hu2 w w2 t):=HQ2.out.1.next hb2;clear hb2 HC HQ2 o0 o1 o2 o3 o4 ol;have hc:=HQ3.out.t.cu c c4;have hl:=HQ3.out.t.lt))
    go_ret
    exact ⟨ret_bool HR.out,HQ3.out.up⟩
   ·have hub:(t.u c==0)=false:=by simpa using hu
    go_wp2_with (first
     | (go_at_call 155;refine Calls.mono (HC.out _) ?_;rintro e w2 ⟨rfl,hb2⟩;have HQ3:Hid (Hu2 w w2 t):=HQ2.out.1.next hb2;clear hb2 HC HQ2 o0 o1 o2 o3 o4 ol;have hc:=HQ3.out.t.cu c c4;have hl:=HQ3.out.t.lt))
    go_roundw
    case rel=>exact ⟨k+1,by omega,by go_num,HNx.out hu,HQ3.out⟩
    case measure=>simp [intOf];omega
  ·obtain rfl:k=xs.length:=by omega
   have k1:¬ (xs.length:Int)<(xs.length:Int):=by omega
   have HR:Hid (true=hvU t xs):=hvU_yes fun j hj=>HK.out j hj hj;go_wp2_with fail
   go_ret
   exact ⟨ret_bool HR.out,HQ.out.up⟩
structure Nl (W:World) (a:Option Addr) (n:Nat) (g:Nat->Int):Prop where
 is:0<n->∃ b f,a=some ⟨b,f,none⟩/\b<W.heap.size/\∀ k,k<n->W.cell? ⟨b,f+k,none⟩=some (.int .i64 (g k))
 rg:∀ k,k<n→-9223372036854775808<=g k/\g k<=9223372036854775807
theorem Nl.up {W W':World} {a:Option Addr} {n:Nat} {g:Nat->Int} (h:Nl W a n g) (hb:Below W.heap.size W W'):Nl W' a n g:=⟨fun h0=>by
 obtain ⟨b,f,e,z,hx⟩:=h.is h0;exact ⟨b,f,e,Nat.lt_of_lt_of_le z hb.size,fun k hk=>by rw [(bcell hb).1 _ _ z];exact hx k hk⟩,h.rg⟩
theorem Nl.of {W:World} {b n:Nat} {g:Nat->Int} (h:Ir W b n g) (hr:∀ k,k<n→-9223372036854775808<=g k/\g k<=9223372036854775807):Nl W (some ⟨b,0,none⟩) n g:=⟨fun _=>⟨b,0,rfl,h.lt,fun k hk=>by rw [Nat.zero_add];exact h.c k hk⟩,hr⟩
def arC (n:Nat) (g:Nat->Int):Bool:=(List.range n).all fun k=>decide (0<=g k)&&decide (g k<=65536)
theorem arC_no {n:Nat} {g:Nat->Int} {k:Nat} (h:k<n) (e:g k<0\/65536<g k):false=arC n g:=by
 symm
 refine List.all_eq_false.2 ⟨k,List.mem_range.2 h,?_⟩;simp
 omega
theorem arC_yes {n:Nat} {g:Nat->Int} (h:∀ k,k<n->0<=g k/\g k<=65536):true=arC n g:=by
 symm
 refine List.all_eq_true.2 fun k hk=>?_
 have:=h k (List.mem_range.1 hk)
 simpa using this
theorem arC_all {n:Nat} {g:Nat->Int} (h:arC n g=true) (k:Nat) (hk:k<n):0<=g k/\g k<=65536:=by
 have:=List.all_eq_true.1 h k (List.mem_range.2 hk)
 simpa using this
theorem areCycles_any (a:Option Addr) (n cap:Nat) (g:Nat->Int) (w:World) (h:Nl w a n g) (hn:n<=1000000000000) :
  Calls Tryz.prog 220 #[.slice a n cap] w fun e w'=>e=.returned (.bool (arC n g))/\Below w.heap.size w w':=by
 have HO:Hid (Nl w a n g):=h;have hn':(n:Int)<=1000000000000:=by omega
 clear h;go_enter Tryz.func220,Tryz.ntmps220;go_wp2
 go_loop [7] (fun v=>∃ k:Nat,k<=n/\v=.int .i64 k/\∀ j,j<k->0<=g j/\g j<=65536) (fun v=>n-(intOf v).toNat)
 case atStart=>exact ⟨0,by omega,rfl,fun j hj=>by omega⟩
 case round=>
  obtain ⟨k,hk,rfl,hok⟩:=hrel;have HK:Hid (∀ j,j<k->0<=g j/\g j<=65536):=hok;clear hok
  by_cases hlt:k<n
  ·have k0:(0:Int)<=(k:Int):=by omega
   have k1:(k:Int)<(n:Int):=by omega
   obtain ⟨b,f,rfl,hz2,hx⟩:=HO.out.is (by omega);have q0:=hx k hlt;clear hx
   by_cases h0:g k<0
   ·have HR:Hid (false=arC n g):=arC_no hlt (.inl h0);generalize g k=x at *;go_wp2_with fail
    go_ret
    exact ⟨ret_bool HR.out,by go_grown⟩
   ·by_cases h1:65536<g k
    ·have HR:Hid (false=arC n g):=arC_no hlt (.inr h1);generalize g k=x at *;go_wp2_with fail
     go_ret
     exact ⟨ret_bool HR.out,by go_grown⟩
    ·have HNx:Hid (∀ j,j<k+1->0<=g j/\g j<=65536):=fun j hj=>by
      rcases Nat.lt_or_ge j k with h|h
      ·exact HK.out j h
      ·obtain rfl:j=k:=by omega
       omega
     generalize g k=x at *;go_wp2_with fail
     go_round
     case rel=>exact ⟨k+1,by omega,by go_num,HNx.out⟩
     case measure=>simp [intOf];omega
  ·obtain rfl:k=n:=by omega
   have k1:¬ (k:Int)<(k:Int):=by omega
   have HR:Hid (true=arC k g):=arC_yes HK.out;go_wp2_with fail
   go_ret
   exact ⟨ret_bool HR.out,by go_grown⟩
def kpE (es:List Ed) (g:Nat->Int):Bool:=es.all fun e=>decide (g e.f.toNat + e.l<=g e.t.toNat)
theorem kpE_no {es:List Ed} {g:Nat->Int} {k:Nat} (h:k<es.length) (e:g es[k].t.toNat<g es[k].f.toNat + es[k].l):false=kpE es g:=by
 symm
 refine List.all_eq_false.2 ⟨es[k],List.getElem_mem h,?_⟩;simp
 omega
theorem kpE_yes {es:List Ed} {g:Nat->Int} (h:∀ (k:Nat) (hk:k<es.length),g es[k].f.toNat + es[k].l<=g es[k].t.toNat):true=kpE es g:=by
 symm
 refine List.all_eq_true.2 fun e he=>?_;obtain ⟨i,hi,rfl⟩:=List.getElem_of_mem he;simpa using h i hi
theorem keepEdges_any (a:Option Addr) (n cap:Nat) (g:Nat->Int) (ea:Option Addr) (ec B:Nat) (es:List Ed) (w:World) (h:Nl w a n g) (hr:∀ k,k<n->0<=g k/\g k<=65536) (he:EOwn B w ea ec es) (ho:EOk n es) (hl:es.length<=100000000) (hn:n<=1024) :
  Calls Tryz.prog 221 #[.slice a n cap,.slice ea es.length ec] w fun e w'=>e=.returned (.bool (kpE es g))/\Below w.heap.size w w':=by
 have HO:Hid (Nl w a n g):=h;have HE:Hid (EOwn B w ea ec es):=he;have HEO:Hid (EOk n es):=ho;have HRg:Hid (∀ k,k<n->0<=g k/\g k<=65536):=hr;obtain ⟨M,hM⟩:∃ M,es.length=M:=⟨_,rfl⟩;have HM:Hid (es.length=M):=hM;have hM':(M:Int)<=100000000:=by omega
 have hn':(n:Int)<=1024:=by omega
 rw [hM];clear h he ho hr hl hM;go_enter Tryz.func221,Tryz.ntmps221;go_wp2
 go_loopw [9] (fun v wr=>∃ k:Nat,k<=M/\v=.int .i64 k/\(∀ (j:Nat) (hj:j<es.length),j<k->g es[j].f.toNat + es[j].l<=g es[j].t.toNat)/\Below w.heap.size w wr) (fun v _=>M-(intOf v).toNat)
 case atStart=>exact ⟨0,by omega,rfl,fun j _ hj=>by omega,Below.refl _ _⟩
 case round=>
  rename World=>wr;obtain ⟨k,hk,rfl,hok,hb⟩:=hrel;have HK:Hid (∀ (j:Nat) (hj:j<es.length),j<k->g es[j].f.toNat + es[j].l<=g es[j].t.toNat):=hok;have HB:Hid (Below w.heap.size w wr):=hb;clear hok hb
  by_cases hlt:k<M
  ·have k0:(0:Int)<=(k:Int):=by omega
   have k1:(k:Int)<(M:Int):=by omega
   have hke:k<es.length:=by rw [HM.out];exact hlt
   obtain ⟨eb,rfl,l1,lb1,f0,f1,f2,f3,f4⟩:=eOwn_at (row_fr HE.out (Fr.of (X:=Non) HB.out) fun _ _ h=>h) hke;have hm:=List.getElem_mem hke;have g1:=HEO.out.f0 _ hm;have g2:=HEO.out.ft _ hm;have g3:=HEO.out.tn _ hm;obtain ⟨g4,g5⟩:=HEO.out.l0 _ hm;have HNo:Hid (g es[k].t.toNat<g es[k].f.toNat + es[k].l->false=kpE es g):=fun e=>kpE_no hke e;have HNx:Hid (g es[k].f.toNat + es[k].l<=g es[k].t.toNat->∀ (j:Nat) (hj:j<es.length),j<k+1->g es[j].f.toNat + es[j].l<=g es[j].t.toNat):=fun e j hj hjk=>by
    rcases Nat.lt_or_ge j k with h|h
    ·exact HK.out j hj h
    ·obtain rfl:j=k:=by omega
     exact e
   have HX:Hid (Below w.heap.size w (wr.alloc (.cells #[.int .i64 es[k].f,.int .i64 es[k].t,.int .i64 es[k].l,.int .i64 es[k].d,.int .i8 es[k].y] 122))/\At (wr.alloc (.cells #[.int .i64 es[k].f,.int .i64 es[k].t,.int .i64 es[k].l,.int .i64 es[k].d,.int .i8 es[k].y] 122)) wr.heap.size #[.int .i64 es[k].f,.int .i64 es[k].t,.int .i64 es[k].l,.int .i64 es[k].d,.int .i8 es[k].y]):=⟨HB.out.alloc HB.out.size _,At.new _ _ _⟩;clear hm;generalize es[k]=x at *;obtain ⟨xf,xt,xl,xd,xy⟩:=x;obtain ⟨fi,rfl⟩:∃ fi:Nat,xf=fi:=⟨xf.toNat,by have g1:0<=xf:=g1;omega⟩;obtain ⟨ti,rfl⟩:∃ ti:Nat,xt=ti:=⟨xt.toNat,by have g1:0<=(fi:Int):=g1;have g2:(fi:Int)<xt:=g2;omega⟩;have g2:(fi:Int)<(ti:Int):=g2;have g3:(ti:Int)<(n:Int):=g3;have g4:0<=xl:=g4;have g5:xl<=8:=g5;have g6:(0:Int)<=(fi:Int):=by omega
   have g7:(fi:Int)<(n:Int):=by omega
   have g8:(0:Int)<=(ti:Int):=by omega
   obtain ⟨h1,h2⟩:=HRg.out fi (by omega);obtain ⟨h3,h4⟩:=HRg.out ti (by omega);clear g1;have HNo:Hid (g ti<g fi+xl->false=kpE es g):=HNo.out;have HNx:Hid (g fi+xl<=g ti->∀ (j:Nat) (hj:j<es.length),j<k+1->g es[j].f.toNat + es[j].l<=g es[j].t.toNat):=HNx.out;go_upto_region 4 with fail
   generalize (wr.alloc (.cells #[.int .i64 (fi:Int),.int .i64 (ti:Int),.int .i64 xl,.int .i64 xd,.int .i8 xy] 122))=X at *;generalize wr.heap.size=ob at *;clear f0 f1 f2 f3 f4 l1 lb1;have s2:=HX.out.2;have o0:=s2.c 0 _ rfl;have o1:=s2.c 1 _ rfl;have o2:=s2.c 2 _ rfl;have ol:=s2.lt;obtain ⟨b,f,rfl,hz2,hx⟩:=(HO.out.up HX.out.1).is (by omega);have cf:=hx fi (by omega);have ct:=hx ti (by omega);clear hx s2;obtain ⟨vf,hvf⟩:∃ v,g fi=v:=⟨_,rfl⟩;obtain ⟨vt,hvt⟩:∃ v,g ti=v:=⟨_,rfl⟩;rw [hvf] at HNo HNx h1 h2 cf;rw [hvt] at HNo HNx h3 h4 ct;clear hvf hvt
   by_cases hc:vt<vf+xl
   ·have HR:Hid (false=kpE es g):=HNo.out hc;go_quiet (fail)
    go_wp2_with fail
    go_ret
    exact ⟨ret_bool HR.out,⟨HX.out.1.os,HX.out.1.tape,HX.out.1.output,HX.out.1.size,HX.out.1.block⟩⟩
   ·have HR:Hid _:=HNx.out (by omega);go_quiet (fail)
    go_wp2_with fail
    go_roundw
    case rel=>exact ⟨k+1,by omega,by go_num,HR.out,⟨HX.out.1.os,HX.out.1.tape,HX.out.1.output,HX.out.1.size,HX.out.1.block⟩⟩
    case measure=>simp [intOf];omega
  ·obtain rfl:k=M:=by omega
   have k1:¬ (k:Int)<(k:Int):=by omega
   have HR:Hid (true=kpE es g):=kpE_yes fun j hj=>HK.out j hj (by rw [<- HM.out];exact hj);go_wp2_with fail
   go_ret
   exact ⟨ret_bool HR.out,HB.out⟩
end Go.Proofs.YtpdaknbmcpmhjaaGreatDoor.Ls
