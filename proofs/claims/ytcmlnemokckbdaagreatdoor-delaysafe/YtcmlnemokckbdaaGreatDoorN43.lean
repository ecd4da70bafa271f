/- Parts Xf Xg Xi. -/
import Derived.Test.YtcmlnemokckbdaaGreatDoorN42
import Derived.Deep.RegionLaw
import Derived.Maps.AppendAt
import Derived.Deep.DeepCutAuto
import Derived.Test.YtcmlnemokckbdaaGreatDoorN37
set_option maxRecDepth 20000
set_option maxHeartbeats 16000000
namespace Go.Proofs.YtcmlnemokckbdaaGreatDoor.L8.Op
open Go.ChangeShapes Go.WideShapes Go.ChangeAt Go.RowKit
def mvL (ps:List Bk) (k T n:Nat) (x y:Bk):List Bk:=(ps.set k { x with ops:=x.ops++y.ops.take n }).set T { y with ops:=y.ops.drop n }
structure Mw (w W:World) (B g qb c:Nat) (qs:List Bk) (ls:List Pl):Prop where
 q:Qs W B g qs ls
 x:At W qb #[.slice (some ⟨g,0,none⟩) qs.length c]
 r:At W (w.heap.size+1) #[.slice none 0 0]
 up:Below w.heap.size w W
 b1:w.heap.size+1<B
 gB:B<=g
 qn:g<qb
 far:∀ (i:Nat) p,ls[i]?=some p->∀ e,bkOf p.oa=some e->e≠qb/\B<=e
theorem Mw.next {w W W':World} {B g qb c:Nat} {qs:List Bk} {ls:List Pl} (h:Mw w W B g qb c qs ls) (b:Below W.heap.size W W'):Mw w W' B g qb c qs ls:=⟨h.q.next b,h.x.below b h.x.lt,h.r.below b h.r.lt,h.up.trans (b.mono h.up.size),h.b1,h.gB,h.qn,h.far⟩
theorem Mw.start {w W0 w1:World} {g c:Nat} {ps:List Bk} {ls:List Pl} (h:Qs w1 (W0.heap.size+3) g ps ls) (hr:At W0 (w.heap.size+1) #[.slice none 0 0]) (hu:Below w.heap.size w W0) (hz:W0.heap.size=w.heap.size+2) (b1:Below W0.heap.size W0 w1) (hg:W0.heap.size+3<=g):Mw w (w1.alloc (.cells #[.slice (some ⟨g,0,none⟩) ps.length c] 40)) (W0.heap.size+3) g w1.heap.size c ps ls:=by
 have u1:Below w.heap.size w w1:=hu.trans (b1.mono hu.size);have hl:=h.lt;refine ⟨h.next ((Below.refl _ _).alloc (Nat.le_refl _) _),At.new _ _ _,(hr.below b1 hr.lt).alloc _,u1.alloc u1.size _,by omega,hg,by omega,fun i p hp=>?_⟩;have hi:i<ps.length:=by rw [<- h.len];exact (List.getElem?_eq_some_iff.1 hp).1
 obtain ⟨r1,-⟩:=h.r i ps[i] p (List.getElem?_eq_getElem hi) hp;intro e q
 have:=World.ownsRow.lt r1 e (by rw [own_sl];exact q)
 omega
theorem ocells_app (xs ys:List O):ocells (xs++ys)=ocells xs++ocells ys:=by unfold ocells;simp
theorem news_take {W:World} {B c tg:Nat} {xs:List O} (h:LRow W B (some ⟨tg,0,none⟩) c xs) (n:Nat):∀ j u,(ocells (xs.take n))[j]?=some u->W.cell? ((⟨tg,0,none⟩:Addr).add j)=some u:=by
 intro j u hj;have hs:ocells xs=ocells (xs.take n)++ocells (xs.drop n):=by rw [<- ocells_app,List.take_append_drop]
 refine World.ownsRow.cells h (g:=tg) rfl j u ?_;rw [hs,List.getElem?_append_left (List.getElem?_eq_some_iff.1 hj).1];exact hj
theorem news_drop {W:World} {B c tg:Nat} {xs:List O} (h:LRow W B (some ⟨tg,0,none⟩) c xs) (n:Nat) (hn:n<=xs.length):∀ j u,(ocells (xs.drop n))[j]?=some u->W.cell? ((⟨tg,n*5,none⟩:Addr).add j)=some u:=by
 intro j u hj;have hs:ocells xs=ocells (xs.take n)++ocells (xs.drop n):=by rw [<- ocells_app,List.take_append_drop]
 have hl:(ocells (xs.take n)).length=n*5:=by rw [ocells_len,List.length_take];omega
 have:=World.ownsRow.cells h (g:=tg) rfl (n*5+j) u (by
  rw [hs,List.getElem?_append_right (by omega),hl,show n*5+j-n*5=j by omega];exact hj)
 rw [add_at] at this ⊢;rw [Nat.zero_add] at this;exact this
theorem step_append_any {P:Program} (w:World) {ops:Array Oper} {o:Oper} {a:Act} {K:Act->World->Prop} {Q:Exit->Act->World->Prop} {E:Prop} (hgd:o.guard=none) (s x:Operand) (t:TypeId)
  (ho:o.op=.call { callee:=.builtin .append,args:=#[s,x],argTypes:=#[t,t] })
  (base:Nat) (e:TypeId) (i:TypeInfo) (z:Value) (size bytes:Nat) (ht:P.underlying t=some (.slice e)) (hi:P.info? e=some i) (hz:i.zero=some z)
  (hsize:i.size=size) (hby:i.bytes=bytes) (hzs:z.cells.size=size) (hsz:0<size)
  (v:Value) (n:Nat) (xs:List Value) (hs:a.eval s=v) (hown:w.ownsRow base e size v n xs)
  (ad:Addr) (m c:Nat) (news:List Value) (hx:a.eval x=.slice (some ad) m c) (hl:news.length=m*size) (hnews:∀ j u,news[j]?=some u->w.cell? (ad.add j)=some u) (h1:∀ u∈news,u.oneCell'=true)
  (h63:n+m<=maxLen) (hbytes:(n+m)*bytes<=140737488355328) (hbase:base<=w.heap.size)
  (h:∀ v' w',w'.ownsRow base e size v' (n+m) (xs++news)->w.grownBy w' v.ownBlock->(v'.ownBlock=v.ownBlock\/v'.ownBlock=some w.heap.size)->K (a.put o.dst v') w') :
  if Region.wanted o (yielded ops a.tmps)=true then Oper.wp P o a w K Q else E:=by
 rw [if_pos (by simp [Region.wanted,hgd])];obtain ⟨v',w',hr,h2,h3,-,h5⟩:=run_append_own_at (P:=P) w base t o.type e i z size bytes ht hi hz hsize hby hzs hsz v n xs hown ad m c news hl hnews h1 h63 hbytes hbase;unfold Oper.wp execOp;simp only [ho,resolve,invoke,builtin,Sem.run_bind,Sem.run_pure,Result.andThen_ok,List.map_toArray,List.map_cons,List.map_nil,hs,hx,hr];exact h v' w' h2 h3 h5
theorem Qs.other {W:World} {B g:Nat} {qs:List Bk} {ls:List Pl} (h:Qs W B g qs ls) (hg:B<=g) {r j:Nat} (hr:r<B) (u:Value):Qs (W.setCell ⟨r,j,none⟩ u) B g qs ls:=by
 have hb:(W.setCell ⟨r,j,none⟩ u).heap[g]?=W.heap[g]?:=Below.heap_setCell _ _ _ _ (by show g≠r;omega);have cl:∀ k,(W.setCell ⟨r,j,none⟩ u).cell? ⟨g,k,none⟩=W.cell? ⟨g,k,none⟩:=fun k=>World.cell?_of_block hb;refine ⟨h.len,by simpa using h.lt,fun k=>by rw [World.frozen?_of_block hb];exact h.z k,fun i x p hx hp=>?_,fun i x p hx hp=>⟨row_set (h.r i x p hx hp).1 hr _,row_set (h.r i x p hx hp).2 hr _⟩,h.ng,h.nd,h.ok,h.n⟩;have o:=h.b i x p hx hp;exact ⟨by rw [cl];exact o.c0,by rw [cl];exact o.c1,by rw [cl];exact o.c2,by rw [cl];exact o.c3,by rw [cl];exact o.c4,by rw [cl];exact o.c5⟩
theorem Mw.upd {w W W':World} {B g qb c:Nat} {qs:List Bk} {ls:List Pl} (h:Mw w W B g qb c qs ls) {k:Nat} {x:Bk} {p:Pl} (hx:qs[k]?=some x) (hp:ls[k]?=some p) (hg:W.grownBy W' (bkOf p.oa)) {a':Option Addr} {c':Nat} {os:List O} (hrow:LRow W' B a' c' os) (hnew:∀ e,bkOf a'=some e->bkOf p.oa=some e\/W.heap.size<=e) (hok:∀ o∈os,o.Ok) (hl:os.length<=8192) :
  Mw w (W'.setCell ⟨g,k*6,none⟩ (.slice a' os.length c')) B g qb c (qs.set k { x with ops:=os }) (ls.set k ⟨a',c',p.ba,p.bc⟩)/\W'.cell? ⟨g,k*6,none⟩=some (.slice p.oa x.ops.length p.oc)/\W'.frozen? ⟨g,k*6,none⟩=false/\g<W'.heap.size/\W'.cell? ⟨qb,0,none⟩=some (.slice (some ⟨g,0,none⟩) qs.length c)/\qb<W'.heap.size:=by
 have hgk:=h.q.ng k p hp;have hf:=h.far k p hp;have hbg:W'.heap[g]?=W.heap[g]?:=hg.block g h.q.lt fun e=>hgk.1 e.symm;have hbq:W'.heap[qb]?=W.heap[qb]?:=hg.block qb h.x.lt fun e=>(hf qb e.symm).1 rfl;have hz:=hg.size;have hB:Below (w.heap.size+2) W W':=⟨hg.os,hg.tape,hg.output,hg.size,fun b hb=>hg.block b (by have:=h.r.lt;omega) fun e=>by have:=(hf b e.symm).2;have:=h.b1;omega⟩;have hBs:Below (w.heap.size+2) W (W'.setCell ⟨g,k*6,none⟩ (.slice a' os.length c')):=hB.setCell (by show w.heap.size+2<=g;have:=h.b1;have:=h.gB;omega) _;refine ⟨⟨h.q.upd hx hp hg hrow hnew hok hl,?_,h.r.below hBs (by omega),h.up.trans (hBs.mono (by omega)),h.b1,h.gB,h.qn,fun i q hq=>?_⟩,?_,?_,?_,?_,?_⟩
 ·refine ⟨fun j v e=>?_,fun j=>?_,by simpa using Nat.lt_of_lt_of_le h.x.lt hz⟩
  ·rw [World.cell?_setCell_other _ _ _ _ (by intro q;injection q with q _;have:=h.qn;omega),World.cell?_of_block hbq]
   have:=h.x.c j v
   simp only [List.length_set] at e;exact this e
  ·rw [World.frozen?_setCell,World.frozen?_of_block hbq];exact h.x.f j
 ·rw [List.getElem?_set] at hq
  by_cases e:k=i
  ·rw [if_pos e,if_pos (List.getElem?_eq_some_iff.1 hp).1] at hq;obtain rfl:=Option.some.inj hq;intro e2 q2;rcases hnew e2 q2 with q3|q3
   ·exact hf e2 q3
   ·have:=h.x.lt;have:=h.q.lt;have:=h.gB;exact ⟨by omega,by omega⟩
  ·rw [if_neg e] at hq;exact h.far i q hq
 ·rw [World.cell?_of_block hbg];exact (h.q.b k x p hx hp).c0
 ·rw [World.frozen?_of_block hbg];exact h.q.z _
 ·exact Nat.lt_of_lt_of_le h.q.lt hz
 ·rw [World.cell?_of_block hbq];exact h.x.c 0 _ rfl
 ·exact Nat.lt_of_lt_of_le h.x.lt hz
theorem own_slice {W:World} {B e z n:Nat} {v:Value} {xs:List Value} (h:W.ownsRow B e z v n xs):∃ a c,v=.slice a n c:=by
 rcases h.2 with ⟨h1,h2⟩|⟨g,cap,cur,h1,_⟩
 ·exact ⟨none,0,by rw [h1,h2]⟩
 ·exact ⟨_,_,h1⟩
theorem row_some {W:World} {B:Nat} {a:Option Addr} {c:Nat} {xs:List O} (h:LRow W B a c xs) (h0:0<xs.length):∃ g,a=some ⟨g,0,none⟩:=by
 rcases h.2 with ⟨_,h1⟩|⟨g,cap,cur,e,_⟩
 ·omega
 ·injection e with e1
  exact ⟨g,e1⟩
theorem moved_any (ao:Option Addr) (cap:Nat) (ps:List Bk) (k T n:Nat) (w:World) (h:PAt w ao ps) (hs:Small ps) (hk:k<ps.length) (hT:T<ps.length) (ht:ps[k].thn=(T:Int)) (hne:T≠k) (hn1:1<=n) (hn2:n<=2) (hn:n<=ps[T].ops.length) (hl:ps[k].ops.length<=8000) :
  Calls Tryz.prog 20 #[.agg #[.slice ao ps.length cap],.int .i64 k,.int .i64 n] w fun e w'=>∃ a c,e=.returned (.agg #[.slice a ps.length c])/\PAt w' a (mvL ps k T n ps[k] ps[T])/\Below w.heap.size w w':=by
 have HCp:Hid (∀ W,Below w.heap.size w W->Calls Tryz.prog 15 #[.agg #[.slice ao ps.length cap]] W fun e w'=>∃ a c ls,e=.returned (.agg #[.slice a ps.length c])/\CpR w' (W.heap.size+3) a c ps ls/\PAt w' a ps/\Below W.heap.size W w'):=fun W hb=>copiedProgram_own ao cap ps W (h.below hb) hs;have HSm:Hid (Small ps):=hs;have k0:(0:Int)<=(k:Int):=by omega
 have k1:(k:Int)<(ps.length:Int):=by omega
 have t0:(0:Int)<=(T:Int):=by omega
 have t1:(T:Int)<(ps.length:Int):=by omega
 have hll:=hs.n;have p0:0<ps.length:=by omega
 clear h hs;go_enter Tryz.func20,Tryz.ntmps20;go_upto_region 1 with fail
 have HB0:Hid (At ((w.alloc (.cells #[.slice ao ps.length cap] 40)).alloc (.cells #[.slice none 0 0] 40)) w.heap.size #[.slice ao ps.length cap]/\At ((w.alloc (.cells #[.slice ao ps.length cap] 40)).alloc (.cells #[.slice none 0 0] 40)) (w.heap.size+1) #[.slice none 0 0]/\Below w.heap.size w ((w.alloc (.cells #[.slice ao ps.length cap] 40)).alloc (.cells #[.slice none 0 0] 40))/\((w.alloc (.cells #[.slice ao ps.length cap] 40)).alloc (.cells #[.slice none 0 0] 40)).heap.size=w.heap.size+2):=by
  obtain ⟨a1,a2,hb,-,-⟩:=two_new w #[.slice ao ps.length cap] #[.slice none 0 0] 40 40 (Below.refl _ _);exact ⟨a1,a2,hb,by simp⟩
 generalize (w.alloc (.cells #[.slice ao ps.length cap] 40)).alloc (.cells #[.slice none 0 0] 40)=W0 at *;have g0:=HB0.out.1.c 0 _ rfl;have gl:=HB0.out.1.lt;go_upto_region 2 with (first
  | (go_at_call 15;refine Calls.mono (HCp.out _ HB0.out.2.2.1) ?_;rintro e w1 ⟨a,c,ls,rfl,hc1,-,b1⟩;obtain ⟨g,rfl,hq1⟩:=Qs.start hc1 HSm.out p0;have HM:Hid (Mw w (w1.alloc (.cells #[.slice (some ⟨g,0,none⟩) ps.length c] 40)) (W0.heap.size+3) g w1.heap.size c ps ls):=Mw.start hq1 HB0.out.2.1 HB0.out.2.2.1 HB0.out.2.2.2 b1 (hc1.row.lt g rfl).1;clear hc1 hq1 b1 HB0 HCp g0 gl))
 generalize w1.alloc (.cells #[.slice (some ⟨g,0,none⟩) ps.length c] 40)=X at *;generalize w1.heap.size=qb at *;generalize W0.heap.size+3=B at *;have hkl:k<ls.length:=by rw [HM.out.q.len];exact hk
 have hTl:T<ls.length:=by rw [HM.out.q.len];exact hT
 have hx:ps[k]?=some ps[k]:=List.getElem?_eq_getElem hk;have hy:ps[T]?=some ps[T]:=List.getElem?_eq_getElem hT;have hp:ls[k]?=some ls[k]:=List.getElem?_eq_getElem hkl;have hq:ls[T]?=some ls[T]:=List.getElem?_eq_getElem hTl;have HX:Hid (ps[k]?=some ps[k]/\ps[T]?=some ps[T]/\ls[k]?=some ls[k]/\ls[T]?=some ls[T]):=⟨hx,hy,hp,hq⟩;have HOk:Hid ((∀ o∈ps[k].ops,o.Ok)/\(∀ o∈ps[T].ops,o.Ok)/\ps[T].ops.length<=8192):=⟨(HSm.out.l _ (List.getElem_mem hk)).2.1,(HSm.out.l _ (List.getElem_mem hT)).2.1,(HSm.out.l _ (List.getElem_mem hT)).2.2.2.1⟩;clear hx hy hp hq;generalize hxe:ps[k]=x at *;generalize hye:ps[T]=y at *;have HEq:Hid (ps[k]=x/\ps[T]=y):=⟨hxe,hye⟩;clear hxe hye;generalize ls[k]=p at *;generalize ls[T]=q at *;obtain ⟨tg,hqo⟩:=row_some (HM.out.q.r T y q HX.out.2.1 HX.out.2.2.2).1 (by omega);obtain ⟨qoa,qoc,qba,qbc⟩:=q;simp only at hqo
 subst hqo;have x0:=HM.out.x.c 0 _ rfl;have xl:=HM.out.x.lt;have c4:=(HM.out.q.b k x p HX.out.1 HX.out.2.2.1).c4;rw [ht] at c4;have d0:=(HM.out.q.b T y _ HX.out.2.1 HX.out.2.2.2).c0;have gl:=HM.out.q.lt;have hyl:=HOk.out.2.2;have hyi:(y.ops.length:Int)<=8192:=by omega
 have hqc:=row_cap (HM.out.q.r T y _ HX.out.2.1 HX.out.2.2.2).1;simp only at hqc
 go_upto_region 4 with fail
 clear c4 d0;obtain ⟨i0,hi,hi2⟩:=Option.map_eq_some_iff.1 info60;simp only [Prod.mk.injEq] at hi2;obtain ⟨hz0,hz1,hz2⟩:=hi2;have HI:Hid (Tryz.prog.info? 60=some i0/\i0.zero=some (.agg #[.int .i8 0,.int .u8 0,.int .u8 0,.int .u8 0,.int .i64 0])/\i0.size=5/\i0.bytes=16):=⟨hi,hz0,hz1,hz2⟩;clear hi hz0 hz1 hz2
 go_cut [36] (fun v wc=>∃ ls',Mw w wc B g qb c (ps.set k { x with ops:=x.ops++y.ops.take n }) ls'/\ls'[T]?=some ⟨some ⟨tg,0,none⟩,qoc,qba,qbc⟩)
 case first=>
  have e1:X.drew.heap.size=X.heap.size:=rfl;have HMd:Hid (Mw w X.drew B g qb c ps ls):=HM.out.next (Below.refl _ _).drew;have HRk:Hid (X.drew.ownsRow B 60 5 (.slice p.oa x.ops.length p.oc) x.ops.length (ocells x.ops)):=(HMd.out.q.r k x p HX.out.1 HX.out.2.2.1).1;have HNw:Hid (∀ j u,(ocells (y.ops.take n))[j]?=some u->X.drew.cell? ((⟨tg,0,none⟩:Addr).add j)=some u):=fun j u hj=>news_take (HMd.out.q.r T y _ HX.out.2.1 HX.out.2.2.2).1 n j u hj;have hol:(ocells (y.ops.take n)).length=n*5:=by rw [ocells_len,List.length_take];omega
  have hbx:B<=X.drew.heap.size:=by have h1:=HMd.out.gB;have h2:=HMd.out.q.lt;omega
  have c0:=(HMd.out.q.b k x p HX.out.1 HX.out.2.2.1).c0;have z0:=HMd.out.q.z (k*6);have x0:=HMd.out.x.c 0 _ rfl;have xl:=HMd.out.x.lt;have gl:=HMd.out.q.lt;have nn0:(0:Int)<=(n:Int):=by omega
  have nn1:(n:Int)<=(y.ops.length:Int):=by omega
  have nn2:(n:Int)<=(qoc:Int):=by omega
  have HG4:Hid (∀ g4 cp w4,w4.ownsRow B 60 5 (.slice (some ⟨g4,0,none⟩) (x.ops.length+n) cp) (x.ops.length+n) (ocells x.ops++ocells (y.ops.take n))->X.drew.grownBy w4 (Value.slice p.oa x.ops.length p.oc).ownBlock->((Value.slice p.oa x.ops.length p.oc).ownBlock=some g4\/g4=X.drew.heap.size)->(∃ ls',Mw w (w4.setCell ⟨g,k*6,none⟩ (.slice (some ⟨g4,0,none⟩) (x.ops.length+n) cp)) B g qb c (ps.set k { x with ops:=x.ops++y.ops.take n }) ls'/\ls'[T]?=some ⟨some ⟨tg,0,none⟩,qoc,qba,qbc⟩)/\w4.cell? ⟨g,k*6,none⟩=some (.slice p.oa x.ops.length p.oc)/\w4.frozen? ⟨g,k*6,none⟩=false/\g<w4.heap.size/\w4.cell? ⟨qb,0,none⟩=some (.slice (some ⟨g,0,none⟩) ps.length c)/\qb<w4.heap.size):=fun g4 cp w4 h1 h2 h3=>by
   have hlen:(x.ops++y.ops.take n).length=x.ops.length+n:=by rw [List.length_append,List.length_take];omega
   have r4:LRow w4 B (some ⟨g4,0,none⟩) cp (x.ops++y.ops.take n):=by
    unfold LRow;rw [hlen,ocells_app];exact h1
   have u:=HMd.out.upd HX.out.1 HX.out.2.2.1 (by rw [own_sl] at h2;exact h2) r4 (fun e q=>by
    rw [own_sl] at h3;have q:g4=e:=Option.some.inj q;subst q;rcases h3 with h3|h3
    ·exact .inl h3
    ·exact .inr (Nat.le_of_eq h3.symm)) (fun o ho=>by
    rcases List.mem_append.1 ho with ho|ho
    ·exact HOk.out.1 o ho
    ·exact HOk.out.2.1 o (List.mem_of_mem_take ho)) (by rw [hlen];omega)
   rw [hlen] at u;obtain ⟨u1,u2,u3,u4,u5,u6⟩:=u;refine ⟨⟨_,u1,?_⟩,u2,u3,u4,u5,u6⟩;rw [List.getElem?_set,if_neg (fun e=>hne e.symm)];exact HX.out.2.2.2
  clear HM HMd
  go_region_law
   ((refine step_append_lies _ (by rfl) _ _ 22 (by rfl) B 60 i0 (.agg #[.int .i8 0,.int .u8 0,.int .u8 0,.int .u8 0,.int .i64 0]) 5 16 Tryz.underlying22 HI.out.1 HI.out.2.1 HI.out.2.2.1 HI.out.2.2.2 rfl (by decide) (.slice p.oa x.ops.length p.oc) x.ops.length (ocells x.ops) (by rfl) HRk.out ⟨tg,0,none⟩ n qoc (ocells (y.ops.take n)) (by rfl) hol HNw.out (ocells_one _) (by omega) (by unfold maxLen;omega) (by omega) hbx _ rfl ?_;intro g4 cp w4 hown hgrow hg hlt4;obtain ⟨m1,m2,m3,m4,m5,m6⟩:=HG4.out g4 cp w4 hown hgrow hg;have HM4:Hid _:=m1;clear hown hgrow hg hlt4 m1))
  all_goals
   go_wp2_with fail
   go_meet
   exact HM4.out
 case rest=>
  obtain ⟨ls2,hm2,hq2⟩:=hcut;have hy2:(ps.set k { x with ops:=x.ops++y.ops.take n })[T]?=some y:=by rw [List.getElem?_set,if_neg (fun e=>hne e.symm)];exact HX.out.2.1
  have hpl:(ps.set k { x with ops:=x.ops++y.ops.take n }).length=ps.length:=by simp
  have HD:Hid (mvL ps k T n x y=(ps.set k { x with ops:=x.ops++y.ops.take n }).set T { y with ops:=y.ops.drop n }):=(rfl:mvL ps k T n x y=_);have HM2:Hid (Mw w wc B g qb c (ps.set k { x with ops:=x.ops++y.ops.take n }) ls2/\ls2[T]?=some ⟨some ⟨tg,0,none⟩,qoc,qba,qbc⟩/\(ps.set k { x with ops:=x.ops++y.ops.take n })[T]?=some y/\(ps.set k { x with ops:=x.ops++y.ops.take n }).length=ps.length):=⟨hm2,hq2,hy2,hpl⟩;clear hm2 hq2 hy2 hpl HM x0 xl gl;generalize ps.set k { x with ops:=x.ops++y.ops.take n } = ps1 at *;have hx0:=HM2.out.1.x.c 0 _ rfl;rw [HM2.out.2.2.2] at hx0;have hxl:=HM2.out.1.x.lt;have hgl:=HM2.out.1.q.lt;have n0:(0:Int)<=(n:Int):=by omega
  have n1:(n:Int)<=(y.ops.length:Int):=by omega
  have n2:(y.ops.length:Int)<=(qoc:Int):=by omega
  go_upto_region 5 with fail
  go_cut [46] (fun v wd=>∃ ls3,Mw w wd B g qb c (ps1.set T { y with ops:=y.ops.drop n }) ls3)
  case first=>
   have HM3:Hid (Mw w wc.drew B g qb c ps1 ls2):=HM2.out.1.next (Below.refl _ _).drew;have e1:wc.drew.heap.size=wc.heap.size:=rfl;have x0:=HM3.out.x.c 0 _ rfl;rw [HM2.out.2.2.2] at x0;have xl:=HM3.out.x.lt;have gl:=HM3.out.q.lt;have HNw:Hid (∀ j u,(ocells (y.ops.drop n))[j]?=some u->wc.drew.cell? ((⟨tg,n*5,none⟩:Addr).add j)=some u):=fun j u hj=>news_drop (HM3.out.q.r T y _ HM2.out.2.2.1 HM2.out.2.1).1 n hn j u hj;have htl:tg<wc.drew.heap.size:=(lrow_lt (HM3.out.q.r T y _ HM2.out.2.2.1 HM2.out.2.1).1 _ rfl).2;have hol:(ocells (y.ops.drop n)).length=(y.ops.length-n)*5:=by rw [ocells_len,List.length_drop]
   have hbx:B<=wc.drew.heap.size:=by have h1:=HM3.out.gB;have h2:=HM3.out.q.lt;omega
   have HRo:Hid (((wc.alloc (.cells #[] 60)).drew).ownsRow B 60 5 (.slice (some ⟨wc.heap.size,0,none⟩) 0 0) 0 []):=(World.ownsRow_made wc #[] 0 hbx (by decide) rfl).drew;have HG5:Hid (∀ a4 c4 w4,w4.ownsRow B 60 5 (.slice a4 (y.ops.length-n) c4) (y.ops.length-n) (ocells (y.ops.drop n))->(wc.alloc (.cells #[] 60)).drew.grownBy w4 (some wc.heap.size)->(bkOf a4=some wc.heap.size\/bkOf a4=some (wc.alloc (.cells #[] 60)).drew.heap.size)->(∃ ls3,Mw w (w4.setCell ⟨g,T*6,none⟩ (.slice a4 (y.ops.length-n) c4)) B g qb c (ps1.set T { y with ops:=y.ops.drop n }) ls3)/\w4.cell? ⟨g,T*6,none⟩=some (.slice (some ⟨tg,0,none⟩) y.ops.length qoc)/\w4.frozen? ⟨g,T*6,none⟩=false/\g<w4.heap.size/\w4.cell? ⟨qb,0,none⟩=some (.slice (some ⟨g,0,none⟩) ps.length c)/\qb<w4.heap.size):=fun a4 c4 w4 h1 h2 h3=>by
    have hlen:(y.ops.drop n).length=y.ops.length-n:=List.length_drop;have hsz:wc.heap.size+1<=w4.heap.size:=by have:=h2.size;simpa using this
    have hgr:wc.grownBy w4 (bkOf (some ⟨tg,0,none⟩)):=⟨h2.os,h2.tape,h2.output,by omega,fun b hb _=>(h2.block b (by simp;omega) (fun e=>by injection e with e;omega)).trans (((Below.refl wc.heap.size wc).alloc (Nat.le_refl _) (.cells #[] 60)).block b hb)⟩;have r4:LRow w4 B a4 c4 (y.ops.drop n):=by
     unfold LRow;rw [hlen];exact h1
    have u:=HM2.out.1.upd HM2.out.2.2.1 HM2.out.2.1 hgr r4 (fun e q=>by
     refine .inr ?_;rcases h3 with h3|h3
     ·rw [h3] at q;injection q with q;omega
     ·rw [h3] at q
      have:(wc.alloc (.cells #[] 60)).drew.heap.size=wc.heap.size+1:=by show (wc.alloc (.cells #[] 60)).heap.size=_;simp
      injection q with q
      omega) (fun o ho=>HOk.out.2.1 o (List.mem_of_mem_drop ho)) (by rw [hlen];omega)
    rw [hlen,HM2.out.2.2.2] at u;obtain ⟨u1,u2,u3,u4,u5,u6⟩:=u;exact ⟨⟨_,u1⟩,u2,u3,u4,u5,u6⟩
   have htl':tg<wc.heap.size:=htl
   by_cases hqn:qoc=n
   ·subst hqn;have HNz:Hid (∀ j u,(ocells (y.ops.drop qoc))[j]?=some u->(wc.alloc (.cells #[] 60)).drew.cell? ((⟨tg,0,none⟩:Addr).add j)=some u):=fun j u hj=>by
     have:=(List.getElem?_eq_some_iff.1 hj).1
     rw [hol] at this;omega
    have hy0:y.ops.length-qoc=0:=by omega
    have hol0:(ocells (y.ops.drop qoc)).length=0*5:=by rw [hol,hy0]
    rw [hy0] at HG5
    go_region_law
     ((refine step_append_any _ (by rfl) _ _ 22 (by rfl) B 60 i0 (.agg #[.int .i8 0,.int .u8 0,.int .u8 0,.int .u8 0,.int .i64 0]) 5 16 Tryz.underlying22 HI.out.1 HI.out.2.1 HI.out.2.2.1 HI.out.2.2.2 rfl (by decide) (.slice (some ⟨wc.heap.size,0,none⟩) 0 0) 0 [] (by rfl) HRo.out ⟨tg,0,none⟩ 0 0 (ocells (y.ops.drop qoc)) (by rfl) hol0 HNz.out (ocells_one _) (by unfold maxLen;omega) (by omega) (by simp;omega) ?_;intro v4 w4 hown hgrow hg;rw [Nat.zero_add,List.nil_append] at hown;obtain ⟨a4,c4,hv4⟩:=own_slice hown;subst hv4;rw [own_sl] at hg;obtain ⟨m1,m2,m3,m4,m5,m6⟩:=HG5.out a4 c4 w4 hown hgrow hg;have HM5:Hid _:=m1;clear hown hgrow hg m1))
    all_goals
     go_wp2_with fail
     go_meet
     exact HM5.out
   ·have HNz:Hid (∀ j u,(ocells (y.ops.drop n))[j]?=some u->(wc.alloc (.cells #[] 60)).drew.cell? ((⟨tg,n*5,none⟩:Addr).add j)=some u):=fun j u hj=>by
     have h1:=HNw.out j u hj;rw [add_at] at h1 ⊢;rw [<- h1];exact (bcell ((Below.refl wc.heap.size wc).alloc (Nat.le_refl _) (.cells #[] 60))).1 _ _ htl'
    go_region_law
     ((refine step_append_any _ (by rfl) _ _ 22 (by rfl) B 60 i0 (.agg #[.int .i8 0,.int .u8 0,.int .u8 0,.int .u8 0,.int .i64 0]) 5 16 Tryz.underlying22 HI.out.1 HI.out.2.1 HI.out.2.2.1 HI.out.2.2.2 rfl (by decide) (.slice (some ⟨wc.heap.size,0,none⟩) 0 0) 0 [] (by rfl) HRo.out ⟨tg,n*5,none⟩ (y.ops.length-n) (qoc-n) (ocells (y.ops.drop n)) (by rfl) hol HNz.out (ocells_one _) (by unfold maxLen;omega) (by omega) (by simp;omega) ?_;intro v4 w4 hown hgrow hg;rw [Nat.zero_add,List.nil_append] at hown;obtain ⟨a4,c4,hv4⟩:=own_slice hown;subst hv4;rw [own_sl] at hg;obtain ⟨m1,m2,m3,m4,m5,m6⟩:=HG5.out a4 c4 w4 hown hgrow hg;have HM5:Hid _:=m1;clear hown hgrow hg m1))
    all_goals
     go_wp2_with fail
     go_meet
     exact HM5.out
  case rest=>
   obtain ⟨ls3,hm3⟩:=hcut;have HM5:Hid (Mw w wc B g qb c (ps1.set T { y with ops:=y.ops.drop n }) ls3):=hm3;clear hm3 hx0 hxl hgl;have hl3:(ps1.set T { y with ops:=y.ops.drop n }).length=ps.length:=by rw [List.length_set];exact HM2.out.2.2.2
   have x0:=HM5.out.x.c 0 _ rfl;rw [hl3] at x0;have xl:=HM5.out.x.lt;have r0:=HM5.out.r.c 0 _ rfl;have rf:=HM5.out.r.f 0;have rl:=HM5.out.r.lt;have HF:Hid (PAt (wc.setCell ⟨w.heap.size+1,0,none⟩ (.slice (some ⟨g,0,none⟩) ps.length c)) (some ⟨g,0,none⟩) (ps1.set T { y with ops:=y.ops.drop n })/\Below w.heap.size w (wc.setCell ⟨w.heap.size+1,0,none⟩ (.slice (some ⟨g,0,none⟩) ps.length c))):=⟨(HM5.out.q.other HM5.out.gB HM5.out.b1 _).done,HM5.out.up.setCell (by show w.heap.size<=w.heap.size+1;omega) _⟩;clear HM2 HM5;go_wp2
   refine bodyPost_ret (v:=.agg #[.slice (some ⟨g,0,none⟩) ps.length c]) (by simp [results,Tryz.results20,go_sem,r0]) rfl ⟨some ⟨g,0,none⟩,c,rfl,?_,HF.out.2⟩;rw [HEq.out.1,HEq.out.2,HD.out];exact HF.out.1
end Go.Proofs.YtcmlnemokckbdaaGreatDoor.L8.Op
namespace Go.Proofs.YtcmlnemokckbdaaGreatDoor.L8.El
open Go.ChangeShapes Go.WideShapes Go.ChangeAt Go.RowKit
open YtcmlnemokckbdaaGreatDoor.L8.Op YtcmlnemokckbdaaGreatDoor.L8.Fl YtcmlnemokckbdaaGreatDoor.L8.Li
open YtcmlnemokckbdaaGreatDoor.L8.Lv (inN pow32 PB bOf eOf wOf rdL Pc pb_at IsIn So SmallB intoN bitN Fit)
theorem sum_set:∀ (xs:List Nat) (i y:Nat) (hi:i<xs.length),xs[i]<y->xs.sum<(xs.set i y).sum
 | [],_,_,hi,_=>absurd hi (by simp)
 | x::xs,0,y,_,h=>by
  have h:x<y:=h;simp only [List.set_cons_zero,List.sum_cons];omega
 | x::xs,i+1,y,hi,h=>by
  have:=sum_set xs i y (by simpa using hi) (by simpa using h)
  simp only [List.set_cons_succ,List.sum_cons];omega
theorem sum_le:∀ (xs:List Nat),(∀ x∈xs,x<4294967296)->xs.sum<=xs.length*4294967296
 | [],_=>by simp
 | x::xs,h=>by
  have h1:=h x List.mem_cons_self;have h2:=sum_le xs fun z hz=>h z (List.mem_cons_of_mem _ hz);simp only [List.sum_cons,List.length_cons];omega
theorem in_have {P:List YtcmlnemokckbdaaGreatDoor.L8.Lv.B} (hs:∀ (i:Nat) k,P[i]?=some k->SmallB k):∃ xs,So P xs/\∀ (i:Nat) k,P[i]?=some k->YtcmlnemokckbdaaGreatDoor.L8.Lv.Shut k xs i:=by
 have fit:∀ xs,So P xs->xs.sum<=P.length*4294967296:=fun xs h=>by
  rw [<- h.len];refine sum_le xs fun x hx=>?_;obtain ⟨i,hi,rfl⟩:=List.getElem_of_mem hx
  have:=h.fit i
  unfold YtcmlnemokckbdaaGreatDoor.L8.Lv.inN at this;rw [List.getD_eq_getElem?_getD,List.getElem?_eq_getElem hi] at this;exact this
 have key:∀ d xs,So P xs->P.length*4294967296-xs.sum<=d->∃ ys,So P ys/\∀ (i:Nat) k,P[i]?=some k->YtcmlnemokckbdaaGreatDoor.L8.Lv.Shut k ys i:=by
  intro d
  induction d with
  | zero=>
   intro xs h hd;refine ⟨xs,h,fun i k hk=>?_⟩;apply Classical.byContradiction
   intro hn;have hi:i<xs.length:=by rw [h.len];exact (List.getElem?_eq_some_iff.1 hk).1
   have hp:=h.put hk (hs i k hk);have hlt:xs[i]<inN xs i ||| intoN k xs:=by
    have e:inN xs i=xs[i]:=by unfold YtcmlnemokckbdaaGreatDoor.L8.Lv.inN;rw [List.getD_eq_getElem?_getD,List.getElem?_eq_getElem hi];rfl
    have:=Nat.left_le_or (n:=inN xs i) (m:=intoN k xs)
    unfold YtcmlnemokckbdaaGreatDoor.L8.Lv.Shut at hn;omega
   have h1:=sum_set xs i _ hi hlt;have h2:=fit _ hp;omega
  | succ d ih=>
   intro xs h hd
   by_cases ha:∀ (i:Nat) k,P[i]?=some k->YtcmlnemokckbdaaGreatDoor.L8.Lv.Shut k xs i
   ·exact ⟨xs,h,ha⟩
   ·simp only [Classical.not_forall] at ha;obtain ⟨i,k,hk,hn⟩:=ha;have hi:i<xs.length:=by rw [h.len];exact (List.getElem?_eq_some_iff.1 hk).1
    have hp:=h.put hk (hs i k hk);have hlt:xs[i]<inN xs i ||| intoN k xs:=by
     have e:inN xs i=xs[i]:=by unfold YtcmlnemokckbdaaGreatDoor.L8.Lv.inN;rw [List.getD_eq_getElem?_getD,List.getElem?_eq_getElem hi];rfl
     have:=Nat.left_le_or (n:=inN xs i) (m:=intoN k xs)
     unfold YtcmlnemokckbdaaGreatDoor.L8.Lv.Shut at hn;omega
    have h1:=sum_set xs i _ hi hlt;have h2:=fit _ hp;exact ih _ hp (by omega)
 exact key _ _ (So.init P) (Nat.le_refl _)
theorem isIn_have {ps:List Bk} (ho:YtcmlnemokckbdaaGreatDoor.L8.Lv.PsOk ps) (hc:ckP ps=0):∃ I,IsIn ps I:=by
 obtain ⟨xs,h1,h2⟩:=in_have (_root_.Go.Proofs.YtcmlnemokckbdaaGreatDoor.L8.Lv.pb_small hc ho);exact ⟨xs,fun _=>⟨h1,h2⟩,fun q=>absurd hc q⟩
theorem mvL_get {ps:List Bk} {k T n:Nat} (hk:k<ps.length) (hT:T<ps.length) (hne:T≠k) (x y:Bk):(mvL ps k T n x y).length=ps.length/\(mvL ps k T n x y)[k]?=some { x with ops:=x.ops++y.ops.take n }/\(mvL ps k T n x y)[T]?=some { y with ops:=y.ops.drop n }/\∀ b,b≠k->b≠T->(mvL ps k T n x y)[b]?=ps[b]?:=by
 unfold mvL;refine ⟨by simp,?_,?_,fun b h1 h2=>?_⟩
 ·rw [List.getElem?_set,if_neg hne,List.getElem?_set,if_pos rfl,if_pos hk]
 ·rw [List.getElem?_set,if_pos rfl,if_pos (by simpa using hT)]
 ·rw [List.getElem?_set,if_neg (fun e=>h2 e.symm),List.getElem?_set,if_neg (fun e=>h1 e.symm)]
theorem tw_stop_le (p:O->Bool):∀ xs:List O,(xs.takeWhile p).length<=xs.length
 | []=>Nat.le_refl _
 | x::xs=>by
  rw [List.takeWhile_cons]
  split
  ·have:=tw_stop_le p xs
   simp only [List.length_cons];omega
  ·simp
theorem body_okp {ps:List Bk} (hc:ckP ps=0) {x:Bk} (hx:x∈ps):∀ o∈x.body,okP o=true:=by
 have h:=ck_all hc x hx;unfold ckB at h
 split at h
 ·split at h
  ·split at h
   ·rename_i q;exact fun o ho=>List.all_eq_true.1 q o ho
   ·exact absurd h (by decide)
  ·exact absurd h (by decide)
 ·exact absurd h (by decide)
theorem tw_mem (p:O->Bool):∀ (xs:List O) (m:Nat),m<=(xs.takeWhile p).length->∀ o∈xs.take m,p o=true
 | [],m,_,o,h=>by simp at h
 | x::xs,0,_,o,h=>by simp at h
 | x::xs,m+1,hm,o,h=>by
  rw [List.takeWhile_cons] at hm
  by_cases hp:p x=true
  ·rw [if_pos hp] at hm;rw [List.take_succ_cons] at h;rcases List.mem_cons.1 h with rfl|h
   ·exact hp
   ·exact tw_mem p xs m (by simpa using hm) o h
  ·rw [if_neg hp] at hm;simp at hm
theorem early_mv {ps:List Bk} {I:List Nat} {k T EL:Nat} (ho:YtcmlnemokckbdaaGreatDoor.L8.Lv.PsOk ps) (hc:ckP ps=0) (hI:IsIn ps I) (hk:k<ps.length) (hla:laB ps ps[k] k=true) (hTH:ps[k].thn=T) (hEL:ps[k].els=EL) (hT:T<ps.length) (hM:YtcmlnemokckbdaaGreatDoor.L8.Sm.PsM ps) :
  YtcmlnemokckbdaaGreatDoor.L8.Sm.Mv ps (mvL ps k T (erN (kpN I ps[k]) ps[T].ops) ps[k] ps[T]) k T (erN (kpN I ps[k]) ps[T].ops) EL:=by
 obtain ⟨hfin,l1,l2,l3,l4⟩:=laB_yes hla;obtain ⟨b1,b2,b3⟩:=br_of hc (List.getElem_mem hk) hfin;rw [hTH] at l1 l2 l3;rw [hEL] at l2 b3;have hne:T≠k:=fun e=>l3 (by rw [e]);have hone:=(ahead_one hk hc hfin b2.1 b2.2).2 l4;have hE:EL<ps.length:=by omega
 obtain ⟨m1,m2,m3,m4⟩:=mvL_get (n:=erN (kpN I ps[k]) ps[T].ops) hk hT hne ps[k] ps[T];have hkx:=ho _ (List.getElem_mem hk);have ha0:=hkx.1.a0;have hIy:=hI.yes hc;have dn:=So.done hIy.1 (_root_.Go.Proofs.YtcmlnemokckbdaaGreatDoor.L8.Lv.pb_small hc ho) hIy.2;refine ⟨hk,hT,hE,hne,fun e=>l1 (by rw [e];rfl),fun e=>l2 (by rw [e]),?_,hfin,hTH,hEL,m1,m2,m3,m4,fun b hb hbk hm=>?_,fun o hom=>?_,hM.2.2,fun x hx=>?_⟩
 ·unfold erN;have h1:=tw_stop_le (hmB (kpN I ps[k])) (ps[T].ops.take 2);rw [List.length_take] at h1;omega
 ·have h2:(T:Int)∈turnL ps[b]:=(_root_.Go.Proofs.YtcmlnemokckbdaaGreatDoor.L8.Lv.succ_turn ps[b] ⟨_,YtcmlnemokckbdaaGreatDoor.L8.Lv.end_of (ck_all hc _ (List.getElem_mem hb))⟩ T).1 hm;have h3:((b:Nat):Int)∈aheadL ps (T:Int):=by
   have hkn:knB ps (T:Int)=true:=by simp [knB,hc,hT]
   unfold aheadL aheadTo;rw [if_pos hkn,List.mem_map];refine ⟨b,List.mem_filter.2 ⟨List.mem_range.2 hb,?_⟩,rfl⟩;rw [List.getElem?_eq_getElem hb];simpa using h2
  rw [hTH] at hone;rw [hone,List.mem_singleton] at h3;exact hbk (by omega)
 ·have hom2:o∈(ps[T].ops.take 2).take (erN (kpN I ps[k]) ps[T].ops):=by
   rw [List.take_take];have hle:erN (kpN I ps[k]) ps[T].ops<=2:=by
    have h1:=tw_stop_le (hmB (kpN I ps[k])) (ps[T].ops.take 2);rw [List.length_take] at h1;unfold erN;omega
   rw [Nat.min_eq_left hle];exact hom
  have hmB1:=tw_mem (hmB (kpN I ps[k])) (ps[T].ops.take 2) _ (Nat.le_refl _) o hom2;have hmem:o∈ps[T].ops:=List.mem_of_mem_take hom;have hoT:=(ho _ (List.getElem_mem hT)).2.1 o hmem;have hkp:=List.all_eq_true.1 (ckB_parts (ck_all hc _ (List.getElem_mem hT))).1 o hmem;obtain ⟨nn,-,e1,e2,-,-,-⟩:=YtcmlnemokckbdaaGreatDoor.L8.Sm.ok_kind hkp;have hd:=ops_d hc (List.getElem_mem hT) hmem;have hIlt:inN I ps[k].els.toNat<4294967296:=hIy.1.fit _;have hal:ps[k].a.toNat<32:=by omega
  have hrm:=hm_eq hIlt hal hoT.d0 hd;unfold kpN at hmB1;rw [hrm] at hmB1;unfold rmB at hmB1;simp only [Bool.and_eq_true,decide_eq_true_eq,Bool.not_eq_true',beq_eq_false_iff_ne] at hmB1;obtain ⟨⟨q1,q2⟩,q3⟩:=hmB1;refine ⟨⟨by omega,q1⟩,q2,fun hat=>?_⟩;have hlv:=(_root_.Go.Proofs.YtcmlnemokckbdaaGreatDoor.L8.Lv.at_iff).1 hat;have hbit:=(dn EL o.d.toNat).2 hlv;unfold YtcmlnemokckbdaaGreatDoor.L8.Lv.bitN at hbit;rw [hEL,Int.toNat_natCast] at q3;rw [q3] at hbit
  cases hbit
 ·have h1:=ckB_parts (ck_all hc x hx);exact ⟨fun o hh=>List.all_eq_true.1 h1.1 o hh,body_okp hc hx⟩
end Go.Proofs.YtcmlnemokckbdaaGreatDoor.L8.El
namespace Go.Proofs.YtcmlnemokckbdaaGreatDoor.L8.El
open Go.ChangeShapes Go.WideShapes Go.ChangeAt Go.RowKit
open YtcmlnemokckbdaaGreatDoor.L8.Op YtcmlnemokckbdaaGreatDoor.L8.Fl YtcmlnemokckbdaaGreatDoor.L8.Li
theorem sum_put:∀ (xs:List Nat) (i y:Nat) (hi:i<xs.length),(xs.set i y).sum+xs[i]=xs.sum+y
 | [],_,_,hi=>absurd hi (by simp)
 | x::xs,0,y,_=>by
  simp only [List.set_cons_zero,List.sum_cons,List.getElem_cons_zero];omega
 | x::xs,i+1,y,hi=>by
  have:=sum_put xs i y (by simpa using hi)
  simp only [List.set_cons_succ,List.sum_cons,List.getElem_cons_succ];omega
theorem bkN_new (x:Bk) (os:List O):bkN { x with ops:=os } = os.length+x.body.length:=rfl
theorem opsN_mv {ps:List Bk} {k T n:Nat} (hk:k<ps.length) (hT:T<ps.length) (hne:T≠k) (hn:n<=ps[T].ops.length):opsN (mvL ps k T n ps[k] ps[T])=opsN ps:=by
 unfold opsN sumTo mvL;rw [List.take_length,List.take_length,List.map_set,List.map_set];have h1:=sum_put (ps.map bkN) k (bkN { ps[k] with ops:=ps[k].ops++ps[T].ops.take n }) (by simpa using hk);have h2:=sum_put ((ps.map bkN).set k (bkN { ps[k] with ops:=ps[k].ops++ps[T].ops.take n })) T (bkN { ps[T] with ops:=ps[T].ops.drop n }) (by simpa using hT);rw [List.getElem_set_ne (fun e=>hne e.symm)] at h2;simp only [List.getElem_map] at h1 h2;rw [bkN_new] at h1;rw [bkN_new,bkN_new] at h2;rw [bkN_new,bkN_new];rw [List.length_append,List.length_take] at h1 h2 ⊢;rw [List.length_drop] at h2 ⊢;have e1:bkN ps[k]=ps[k].ops.length+ps[k].body.length:=rfl;have e2:bkN ps[T]=ps[T].ops.length+ps[T].body.length:=rfl;rw [e1] at h1;rw [e2] at h2;rw [List.length_set,List.length_set];omega
theorem firstE_zero {n:Int} : ∀ {ps:List Bk},(∀ x∈ps,ckB x n=0)->firstE n ps=0
 | [],_=>rfl
 | x::ps,h=>by
  have h1:=h x List.mem_cons_self;have h2:=firstE_zero (n:=n) (ps:=ps) fun y hy=>h y (List.mem_cons_of_mem _ hy);unfold firstE;simp [h1,h2]
theorem ckB_new {x:Bk} {n:Int} {os:List O} (h:ckB x n=0) (ho:∀ o∈os,okP o=true):ckB { x with ops:=os } n=0:=by
 have h1:=ckB_parts h;unfold ckB at h ⊢;rw [if_pos h1.1,if_pos h1.2] at h;have e:allB os=true:=List.all_eq_true.2 ho;have e2:endB { x with ops:=os } n=endB x n:=rfl;show (if allB os then if endB { x with ops:=os } n then if allB x.body then 0 else 30 else 50 else 30)=(0:Int);rw [if_pos e,e2,if_pos h1.2];exact h
theorem ckP_mv {ps:List Bk} {k T n:Nat} (hc:ckP ps=0) (hk:k<ps.length) (hT:T<ps.length) (hne:T≠k) (hn:n<=ps[T].ops.length):ckP (mvL ps k T n ps[k] ps[T])=0:=by
 have hl:(mvL ps k T n ps[k] ps[T]).length=ps.length:=by unfold mvL;simp
 have hall:=ck_all hc;have hc':=hc;unfold ckP at hc ⊢;rw [opsN_mv hk hT hne hn,hl]
 split at hc
 ·exact absurd hc (by decide)
 ·rename_i q1;rw [if_neg q1]
  split at hc
  ·exact absurd hc (by decide)
  ·rename_i q2;rw [if_neg q2];refine firstE_zero fun x hx=>?_;have okT:=(ckB_parts (hall _ (List.getElem_mem hT))).1;have okk:=(ckB_parts (hall _ (List.getElem_mem hk))).1;unfold mvL at hx;rcases List.mem_or_eq_of_mem_set hx with hx|rfl
   ·rcases List.mem_or_eq_of_mem_set hx with hx|rfl
    ·exact hall x hx
    ·refine ckB_new (hall _ (List.getElem_mem hk)) fun o ho=>?_;rcases List.mem_append.1 ho with ho|ho
     ·exact List.all_eq_true.1 okk o ho
     ·exact List.all_eq_true.1 okT o (List.mem_of_mem_take ho)
   ·exact ckB_new (hall _ (List.getElem_mem hT)) fun o ho=>List.all_eq_true.1 okT o (List.mem_of_mem_drop ho)
end Go.Proofs.YtcmlnemokckbdaaGreatDoor.L8.El
