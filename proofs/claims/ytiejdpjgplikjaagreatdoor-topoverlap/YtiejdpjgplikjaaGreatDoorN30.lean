/- Parts Uo. -/
import Derived.Test.YtiejdpjgplikjaaGreatDoorN29
import Derived.Deep.AppendLies
import Derived.Test.YtiejdpjgplikjaaGreatDoorN00
set_option maxRecDepth 20000
set_option maxHeartbeats 16000000
namespace Go.Proofs.YtiejdpjgplikjaaGreatDoor.Mo
open Go.ChangeShapes Go.WideShapes Go.ChangeAt Go.RowKit Go.Great Go.Maps
open YtiejdpjgplikjaaGreatDoor.Op YtiejdpjgplikjaaGreatDoor.So YtiejdpjgplikjaaGreatDoor.Dp YtiejdpjgplikjaaGreatDoor.Bn
open YtiejdpjgplikjaaGreatDoor.Rv (I64)
open YtiejdpjgplikjaaGreatDoor.Ls (clN clN_at)
theorem infoI:(Tryz.prog.info? 3).map (fun i=>(i.zero,i.size,i.bytes))=some (some (.int .i64 0),1,8):=by kernel_rfl
structure Zs (X Z:World) (mb xb sb n:Nat) (sec bx:Array Value):Prop where
 s:At Z sb sec
 x:At Z xb bx
 fr:So.Fr (fun q=>q=mb\/False) X Z
 blk:Z.heap[X.heap.size]?=some (.cells #[.int .i64 (n:Int)] 3)
 sz:X.heap.size<Z.heap.size
theorem cntL_k (cl c E:Int) (a b:Int):∀ k,cntL cl c E k a b<=k
 | 0=>Nat.le_refl _
 | k+1=>by
  show cntL cl c E k a b+(if _ then 1 else 0)<=k+1
  have:=cntL_k cl c E a b k
  split <;> omega
theorem Zs.news {X Z:World} {mb xb sb n:Nat} {sec bx:Array Value} (h:Zs X Z mb xb sb n sec bx):∀ j u,[Value.int .i64 (n:Int)][j]?=some u->Z.cell? ((⟨X.heap.size,0,none⟩:Addr).add j)=some u:=World.news_of_block h.blk
theorem Zs.mk1 {X w1:World} {mb xb sb n:Nat} {sec bx:Array Value} (h1:At X sb sec) (h2:At X xb bx) (g:So.Fr (So.One mb) (X.drew.alloc (.cells #[.int .i64 (n:Int)] 3)) w1) (hm:mb<X.heap.size) (n1:mb≠sb) (n2:¬ xb=mb):Zs X w1 mb xb sb n sec bx:=by
 have u:Below X.heap.size X (X.drew.alloc (.cells #[.int .i64 (n:Int)] 3)):=(drew_up X).alloc (Nat.le_refl _) _;have nx:¬ So.One mb X.heap.size:=fun e=>by have e:X.heap.size=mb:=e;omega
 refine ⟨atFr2 (h1.below u h1.lt) g (fun e=>n1 (by have e:sb=mb:=e;exact e.symm)),atFr2 (h2.below u h2.lt) g (fun e=>n2 e),(So.Fr.of u).trans g fun q _ e=>.inl e,?_,Nat.lt_of_lt_of_le (by simp) g.size⟩;rw [g.block _ (by simp) nx];exact heap_alloc_new X.drew _
theorem Zs.row {X Z:World} {mb xb sb n B m:Nat} {sec bx:Array Value} {v:Value} {xs:List Value} (h:Zs X Z mb xb sb n sec bx) (hx:X.ownsRow B 3 1 v m xs) (hB:mb<B) (_hX:B<=X.heap.size):Z.ownsRow B 3 1 v m xs:=by
 have hlt:=hx.lt;obtain ⟨h1,⟨h2,h3⟩|⟨q,cap,cur,h2,h3,h4,h5⟩⟩:=hx
 ·exact ⟨h1,.inl ⟨h2,h3⟩⟩
 ·have hq:=hlt q (by rw [h2];rfl);exact ⟨h1,.inr ⟨q,cap,cur,h2,h3,(h.fr.block q hq.2 fun e=>by rcases e with e|e;omega;exact e).trans h4,h5⟩⟩
theorem Zs.grown {X Z w4:World} {mb xb sb n B:Nat} {sec bx:Array Value} {r:Option Nat} (h:Zs X Z mb xb sb n sec bx) {Y:Nat->Prop} (hg:Z.grownBy w4 r) (hy:∀ q,r=some q->Y q) (hr:∀ q,r=some q->B<=q) (hs:sb<B) (hx:¬ r=some xb) (hm:mb<B) (hmz:mb<Z.heap.size):So.Fr Y Z w4/\At w4 sb sec/\At w4 xb bx/\w4.heap[mb]?=Z.heap[mb]?:=by
 have f:So.Fr (fun q=>r=some q) Z w4:=⟨hg.os,hg.tape,hg.output,hg.size,fun k hk hx=>hg.block k hk fun e=>hx e.symm⟩;exact ⟨f.mono fun q _ e=>hy q e,atFr2 h.s f (fun e=>by have:=hr _ e;omega),atFr2 h.x f (fun e=>hx e),hg.block mb hmz fun e=>by have:=hr _ e.symm;omega⟩
theorem taken {X Z w4 w5:World} {mb xb sb n B nn m g cp:Nat} {sec bx:Array Value} {fk:Int->Int->Value} {hl:Int->Int->Nat} {cl z:Int} {xs:List Value} (h:Hd X B mb nn fk hl) (hz:Zs X Z mb xb sb n sec bx) (hX:B<=X.heap.size) (hgrow:Z.grownBy w4 (fk cl z).ownBlock) (hown:w4.ownsRow B 3 1 (.slice (some ⟨g,0,none⟩) (m+1) cp) (m+1) xs) (hg:(fk cl z).ownBlock=some g\/g=Z.heap.size) (f5:So.Fr (So.One mb) w4 w5) (m5:Hm w5 mb (nn+1) (setF fk cl z (.slice (some ⟨g,0,none⟩) (m+1) cp))) :
  Hd w5 B mb (nn+1) (setF fk cl z (.slice (some ⟨g,0,none⟩) (m+1) cp)) (setL hl cl z (m+1)):=by
 have f:So.Fr (fun q=>(fk cl z).ownBlock=some q) Z w4:=⟨hgrow.os,hgrow.tape,hgrow.output,hgrow.size,fun k hk hx=>hgrow.block k hk fun e=>hx e.symm⟩;refine h.put m5 (fun a b hab=>?_) ⟨_,row_far hown f5 h.lt⟩ ?_
 ·obtain ⟨ys,hy⟩:=h.row a b;have hlt:=hy.lt;refine ⟨ys,row_far ?_ f5 h.lt⟩;have hy2:=hz.row hy h.lt hX;obtain ⟨h1,⟨h2,h3⟩|⟨q,cap,cur,h2,h3,h4,h5⟩⟩:=hy2
  ·exact ⟨h1,.inl ⟨h2,h3⟩⟩
  ·have hq:=hlt q (by rw [h2];rfl);exact ⟨h1,.inr ⟨q,cap,cur,h2,h3,(f.block q (Nat.lt_of_lt_of_le hq.2 hz.fr.size) fun e=>by
    have e2:(fk a b).ownBlock=some q:=by rw [h2];rfl
    have:=h.inj a b cl z (by rw [e2];simp) (by rw [e2];exact e.symm)
    exact hab this).trans h4,h5⟩⟩
 ·rcases hg with hg|hg
  ·left;rw [hg];rfl
  ·right
   intro a b e;have e:some g=(fk a b).ownBlock:=e;obtain ⟨ys,hy⟩:=h.row a b
   have:=(hy.lt g e.symm).2
   have:=hz.fr.size
   omega
theorem take_any (sb bb N n mb nn B pb pf cl L cap bc pc fc:Nat) (E st c:Int) (ba fa ao:Option Addr) (xs:List O) (f:Int->Int->Value) (hl:Int->Int->Nat) (w:World) (hS:At w sb #[.pointer (some ⟨bb,0,none⟩),.int .i64 E,.slice ba N bc,.slice (some ⟨pb,pf,none⟩) N pc,.map (some mb),.slice fa N fc,.int .i64 st]) (hO:OpsAt w ao xs) (hxs:xs.length=N) (hn:n<N) (hb0:w.cell? ⟨bb,0,none⟩=some (.slice ao N cap)) (hbz:w.cell? ⟨bb,9+cl,none⟩=some (.int .i64 (L:Int))) (hbb:bb<w.heap.size) (hcl:clN xs n=cl) (hc4:cl<4) (hL:L<=4)
  (v0:Value) (hp:w.cell? ⟨pb,pf+n,none⟩=some v0) (hpf:w.frozen? ⟨pb,pf+n,none⟩=false) (hH:Hd w B mb nn f hl) (hll:∀ a b,hl a b<=1000000) (hnn:nn<=1000000) (hc0:0<=c) (hc1:c<=10000000) (hE:1<=E) (hE2:E<=65536) (hN:N<=64)
  (n1:mb≠sb) (n2:mb≠bb) (n3:mb≠pb) (n4:∀ x,ao=some x->mb≠x.block) (n5:∀ x,ao=some x->pb≠x.block) (n6:pb≠sb) (n7:pb≠bb) (b1:sb<B) (b3:pb<B) (b5:B<=w.heap.size) (Y:Nat->Prop) (y1:∀ a b q,(f a b).ownBlock=some q->Y q) (y2:∀ q,w.heap.size<=q->Y q) (y3:¬ Y sb) (y4:¬ Y bb) :
  Calls Tryz.prog 158 #[.pointer (some ⟨sb,0,none⟩),.int .i64 (n:Int),.int .i64 c] w fun r w'=>r=.returned (.tuple #[])/\∃ f2,So.Fr (fun q=>q=mb\/Y q) (w.setCell ⟨pb,pf+n,none⟩ (.int .i64 c)) w'/\Hd w' B mb (nn+L) f2 (fun a b=>hl a b+cntL cl c E L a b)/\∀ a b q,(f2 a b).ownBlock=some q->Y q:=by
 have hnx:n<xs.length:=by omega
 obtain ⟨ob,of,rfl,hoz,hox⟩:=hO.is (by omega);obtain ⟨q0,q1,q2,q3,q4⟩:=hox n hnx;have n4:=n4 _ rfl;have n5:=n5 _ rfl;have HCl:Hid (∀ Z,Calls Tryz.prog 44 #[xs[n].val] Z fun e w'=>e=.returned (.int .i64 (cl:Int))/\Below Z.heap.size Z w'):=fun Z=>by rw [<- hcl,clN_at hnx];exact classOf_any xs[n] Z
 have hpl:pb<w.heap.size:=by omega
 have g0:So.Fr (So.One pb) w (w.setCell ⟨pb,pf+n,none⟩ (.int .i64 c)):=(So.Fr.refl (So.One pb) w).setCell (.inr rfl) _ _;have HSt:Hid (∀ W,So.Fr (fun q=>q=mb\/Y q) (w.setCell ⟨pb,pf+n,none⟩ (.int .i64 c)) W->At W sb #[.pointer (some ⟨bb,0,none⟩),.int .i64 E,.slice ba N bc,.slice (some ⟨pb,pf,none⟩) N pc,.map (some mb),.slice fa N fc,.int .i64 st]/\W.cell? ⟨bb,0,none⟩=some (.slice (some ⟨ob,of,none⟩) N cap)/\W.cell? ⟨bb,9+cl,none⟩=some (.int .i64 (L:Int))/\bb<W.heap.size):=fun W g=>by
  have zs:(w.setCell ⟨pb,pf+n,none⟩ (.int .i64 c)).heap.size=w.heap.size:=World.size_setCell _ _ _;have nb:¬ (bb=mb\/Y bb):=fun e=>by rcases e with e|e;exact n2 e.symm;exact y4 e
  have np:¬ So.One pb bb:=fun e=>n7 (by have e:bb=pb:=e;exact e.symm);exact ⟨atFr2 (atFr2 hS g0 fun e=>n6 (by have e:sb=pb:=e;exact e.symm)) g (fun e=>by rcases e with e|e;exact n1 e.symm;exact y3 e),(g.cell (by omega) nb _).trans ((g0.cell hbb np _).trans hb0),(g.cell (by omega) nb _).trans ((g0.cell hbb np _).trans hbz),Nat.lt_of_lt_of_le (by omega) g.size⟩
 have HQ0:Hid (Hd (w.setCell ⟨pb,pf+n,none⟩ (.int .i64 c)) B mb (nn+0) f (fun a b=>hl a b+cntL cl c E 0 a b)):=⟨hH.m.below (g0.block _ hH.m.lt fun e=>n3 e),fun a b=>by
  obtain ⟨ys,hy⟩:=hH.row a b;exact ⟨ys,row_far hy g0 b3⟩,hH.inj,hH.lt⟩
 have HCn:Hid (∀ a b,hl a b<=1000000):=hll;have HY1:Hid (∀ a b q,(f a b).ownBlock=some q->Y q):=y1;have HY2:Hid (∀ q,w.heap.size<=q->Y q):=y2;have HPo:Hid (∀ W x,At W sb #[.pointer (some ⟨bb,0,none⟩),.int .i64 E,.slice ba N bc,.slice (some ⟨pb,pf,none⟩) N pc,.map (some mb),.slice fa N fc,.int .i64 st]->0<=x->Calls Tryz.prog 173 #[.pointer (some ⟨sb,0,none⟩),.int .i64 (cl:Int),.int .i64 x] W fun r w'=>r=.returned (.agg #[.int .i64 (cl:Int),.int .i64 (x%E)])/\Below W.heap.size W w'):=fun W x hA hx=>placeOf_any sb cl x E W (hA.c 1 _ rfl) hA.lt hx hE hE2;obtain ⟨i0,hi,hi2⟩:=Option.map_eq_some_iff.1 infoI;simp only [Prod.mk.injEq] at hi2;obtain ⟨hz0,hz1,hz2⟩:=hi2;have HI:Hid (Tryz.prog.info? 3=some i0/\i0.zero=some (.int .i64 0)/\i0.size=1/\i0.bytes=8):=⟨hi,hz0,hz1,hz2⟩;have s3:w.cell? ⟨sb,3,none⟩=some (.slice (some ⟨pb,pf,none⟩) N pc):=hS.c 3 _ rfl;have sl:=hS.lt;have z0:(0:Int)<=(n:Int):=by omega
 have z1:(n:Int)<(N:Int):=by omega
 have z2:(cl:Int)<4:=by omega
 have z3:(0:Int)<=(cl:Int):=by omega
 have z4:(L:Int)<=4:=by omega
 have HOp:Hid (∀ j,(w.setCell ⟨pb,pf+n,none⟩ (.int .i64 c)).cell? ⟨ob,j,none⟩=w.cell? ⟨ob,j,none⟩):=fun j=>g0.cell hoz (fun e=>n5 (by have e:ob=pb:=e;exact e.symm)) j;clear hS hO hox hcl hH hll hxs hi hz0 hz1 hz2 g0 y1 y2;generalize xs[n]=o at *;go_enter Tryz.func158,Tryz.ntmps158;go_upto_region 1 with fail
 clear s3;rw [<- HOp.out] at q0 q1 q2 q3 q4;have hsz1:w.heap.size<=(w.setCell ⟨pb,pf+n,none⟩ (.int .i64 c)).heap.size:=by rw [World.size_setCell];exact Nat.le_refl _
 have hsz0:B<=(w.setCell ⟨pb,pf+n,none⟩ (.int .i64 c)).heap.size:=by rw [World.size_setCell];exact b5
 have hs0:=HSt.out _ (So.Fr.refl _ _);generalize he0:w.setCell ⟨pb,pf+n,none⟩ (.int .i64 c)=w0 at *;have HE0:Hid (w.setCell ⟨pb,pf+n,none⟩ (.int .i64 c)=w0):=he0;clear he0;have s0:w0.cell? ⟨sb,0,none⟩=some (.pointer (some ⟨bb,0,none⟩)):=hs0.1.c 0 _ rfl;have sl:=hs0.1.lt;have hb0:=hs0.2.1;have hbb:=hs0.2.2.2;clear hs0 HOp;go_wp2_with (first
  | (go_at_call 44;refine Calls.mono (HCl.out _) ?_;rintro e1 w1 ⟨rfl,b1⟩;have HF:Hid (So.Fr (fun q=>q=mb\/Y q) w0 w1/\Hd w1 B mb (nn+0) f (fun a b=>hl a b+cntL cl c E 0 a b)):=⟨So.Fr.of b1,HQ0.out.fr b1⟩;have t0:=(HSt.out _ HF.out.1).1.c 0 _ rfl;have t1:=(HSt.out _ HF.out.1).2.2.1;clear b1 HCl HQ0 q0 q1 q2 q3 q4 s0 hb0))
 clear t0 t1
 go_loopw [37] (fun v wr=>∃ (k:Nat) (fk:Int->Int->Value),k<=L/\v=.int .i64 k/\So.Fr (fun q=>q=mb\/Y q) w0 wr/\Hd wr B mb (nn+k) fk (fun a b=>hl a b+cntL cl c E k a b)/\∀ a b q,(fk a b).ownBlock=some q->Y q) (fun v _=>L-(intOf v).toNat)
 case atStart=>exact ⟨0,f,by omega,rfl,HF.out.1,HF.out.2,HY1.out⟩
 case round=>
  rename World=>wr;obtain ⟨k,fk,hk,rfl,hq1,hq2,hq3⟩:=hrel;have HY0:Hid (∀ a b q,(fk a b).ownBlock=some q->Y q):=hq3;have HQ:Hid (So.Fr (fun q=>q=mb\/Y q) w0 wr/\Hd wr B mb (nn+k) fk (fun a b=>hl a b+cntL cl c E k a b)):=⟨hq1,hq2⟩;clear hq1 hq2 hq3 HF;obtain ⟨sA,b0,b9,bl⟩:=HSt.out _ HQ.out.1;have HA:Hid (At wr sb #[.pointer (some ⟨bb,0,none⟩),.int .i64 E,.slice ba N bc,.slice (some ⟨pb,pf,none⟩) N pc,.map (some mb),.slice fa N fc,.int .i64 st]):=sA;clear sA b0 b9
  by_cases hlt:k<L
  ·have k0:(0:Int)<=(k:Int):=by omega
   have k1:(k:Int)<(L:Int):=by omega
   have HP:Hid (Calls Tryz.prog 173 #[.pointer (some ⟨sb,0,none⟩),.int .i64 (cl:Int),.int .i64 (c+(k:Int))] wr fun r w'=>r=.returned (.agg #[.int .i64 (cl:Int),.int .i64 ((c+(k:Int))%E)])/\Below wr.heap.size wr w'):=HPo.out _ _ HA.out (by omega);have hz0:=Int.emod_nonneg (c+(k:Int)) (show E≠0 by omega);have hz1:=Int.emod_lt_of_pos (c+(k:Int)) (show 0<E by omega);obtain ⟨m,hm⟩:∃ m,hl cl ((c+(k:Nat))%E)+cntL cl c E k cl ((c+(k:Nat))%E)=m:=⟨_,rfl⟩;have hcl4:cntL cl c E k cl ((c+(k:Nat))%E)<=k:=cntL_k _ _ _ _ _ _;have hml:m<=1000010:=by have:=HCn.out cl ((c+(k:Nat))%E);omega
   have HSb:Hid (setL (fun a b=>hl a b+cntL cl c E k a b) cl ((c+(k:Nat))%E) (m+1)=fun a b=>hl a b+cntL cl c E (k+1) a b):=by rw [<- hm];exact cntL_set cl c E k hl
   have HHm:Hid ((fun a b=>hl a b+cntL cl c E k a b) (cl:Int) ((c+(k:Nat))%E)=m):=hm;clear hm hcl4;generalize (c+(k:Nat))%E=z at *;have hwk:IntKind.i64.wrap (c+(k:Int))=c+(k:Int):=by rw [IntKind.wrap_i64];omega
   have al:=HA.out.lt;go_upto_region 6 with (first
    | (go_at_call 173;refine Calls.mono HP.out ?_;rintro e1 w2 ⟨rfl,b2⟩;have HB2:Hid (Below wr.heap.size wr w2):=b2;clear b2 HP))
   have hxB:¬ (fk cl z).ownBlock=some w2.heap.size:=fun e=>by
    obtain ⟨ys,hy⟩:=HQ.out.2.row cl z;have h1:=(hy.lt _ e).2;have h2:=HB2.out.size;omega
   have HX:Hid (At (w2.alloc (.cells #[.int .i64 (cl:Int),.int .i64 z] 228)) sb #[.pointer (some ⟨bb,0,none⟩),.int .i64 E,.slice ba N bc,.slice (some ⟨pb,pf,none⟩) N pc,.map (some mb),.slice fa N fc,.int .i64 st]/\At (w2.alloc (.cells #[.int .i64 (cl:Int),.int .i64 z] 228)) w2.heap.size #[.int .i64 (cl:Int),.int .i64 z]/\Hd (w2.alloc (.cells #[.int .i64 (cl:Int),.int .i64 z] 228)) B mb (nn+k) fk (fun a b=>hl a b+cntL cl c E k a b)/\So.Fr (fun q=>q=mb\/Y q) w0 (w2.alloc (.cells #[.int .i64 (cl:Int),.int .i64 z] 228))/\mb<w2.heap.size/\w2.heap.size<(w2.alloc (.cells #[.int .i64 (cl:Int),.int .i64 z] 228)).heap.size/\B<=w2.heap.size):=by
    have b3':Below wr.heap.size wr (w2.alloc (.cells #[.int .i64 (cl:Int),.int .i64 z] 228)):=HB2.out.alloc HB2.out.size _;have b6:=HB2.out.size;have b7:=HQ.out.1.size;exact ⟨HA.out.below b3' HA.out.lt,At.new _ _ _,HQ.out.2.fr b3',HQ.out.1.then b3',Nat.lt_of_lt_of_le HQ.out.2.m.lt HB2.out.size,by simp,by omega⟩
   clear HB2 HQ HA bl al;generalize w2.alloc (.cells #[.int .i64 (cl:Int),.int .i64 z] 228)=X at *;have hxm:¬ w2.heap.size=mb:=by have:=HX.out.2.2.2.2.1;omega
   have hmx:mb<X.heap.size:=by have:=HX.out.2.2.2.2;omega
   have hBX:B<=X.heap.size:=by have:=HX.out.2.2.2.2;omega
   have hxx:w2.heap.size<X.heap.size:=HX.out.2.2.2.2.2.1;have hwX:w.heap.size<=X.heap.size:=by have:=HX.out.2.2.2.1.size;omega
   generalize w2.heap.size=xb at *;have ia:I64 (cl:Int):=by unfold I64;omega
   have iz:I64 z:=by unfold I64;omega
   refine wp_region_held_drew (S:=fun W=>At W sb #[.pointer (some ⟨bb,0,none⟩),.int .i64 E,.slice ba N bc,.slice (some ⟨pb,pf,none⟩) N pc,.map (some mb),.slice fa N fc,.int .i64 st]/\At W xb #[.int .i64 (cl:Int),.int .i64 z]) (by kernel_rfl) ⟨HX.out.1.below (drew_up _) HX.out.1.lt,HX.out.2.1.below (drew_up _) HX.out.2.1.lt⟩ (fun zH=>?_);refine wg 0 (.pointer (some ⟨sb,0,none⟩)) rfl zH ?_;simp only [pq];refine wg 1 (.pointer (some ⟨sb,0,none⟩)) rfl zH ?_;simp only [pq];refine wg 2 (.pointer (some ⟨sb,4,none⟩)) rfl zH ?_;simp only [pq];refine wt 3 (.map (some mb)) rfl (fun w' hSw=>by (have y:=hSw.1.c 4 _ rfl;have yl:=hSw.1.lt;go_simp)) zH ?_;simp only [pq];refine wt 4 (.agg #[.int .i64 (cl:Int),.int .i64 z]) rfl (fun w' hSw=>by (have y0:=hSw.2.c 0 _ rfl;have y1:=hSw.2.c 1 _ rfl;have yl:=hSw.2.lt;go_simp)) zH ?_;simp only [pq];refine wg 5 (.int .i64 (n:Int)) rfl zH ?_;simp only [pq];refine wpAnyH_ready (rs:=[6]) (by kernel_rfl) (by simp) ?_;refine AllReadyH.cons rfl (fun K hK=>?_) AllReadyH.nil
   ·obtain ⟨s0,w1,hrun,g1,g2,g3⟩:=(HX.out.2.2.1.m.below (w':=X.drew.alloc (.cells #[.int .i64 (n:Int)] 3)) (heap_alloc_old X.drew _ hmx)).entry (by unfold maxLen;omega) ia iz;have hrun2:(Instr.mapEntry 180 (.map (some mb)) (.agg #[.int .i64 (cl:Int),.int .i64 z])).run Tryz.prog (X.alloc (.cells #[.int .i64 (n:Int)] 3)).drew=.ok (.tuple #[fk cl z,.int .i64 s0]) w1:=hrun;go_simp
    refine hK.out _ _ ⟨(HX.out.1.below (drew_up _) HX.out.1.lt).alloc _,(HX.out.2.1.below (drew_up _) HX.out.2.1.lt).alloc _⟩ (fun zH=>?_);clear hK K;have HZ:Hid (Zs X w1 mb xb sb n #[.pointer (some ⟨bb,0,none⟩),.int .i64 E,.slice ba N bc,.slice (some ⟨pb,pf,none⟩) N pc,.map (some mb),.slice fa N fc,.int .i64 st] #[.int .i64 (cl:Int),.int .i64 z]):=Zs.mk1 HX.out.1 HX.out.2.1 g1 hmx n1 hxm;refine wpAnyH_ready (rs:=[7]) (by kernel_rfl) (by simp) ?_;refine AllReadyH.cons rfl (fun K hK=>?_) AllReadyH.nil;go_simp
    refine hK.out _ _ ⟨HZ.out.s,HZ.out.x⟩ (fun zH=>?_);clear hK K;refine wg 8 (fk cl z) rfl zH ?_;simp only [pq];refine wg 10 (.int .i64 s0) rfl zH ?_;simp only [pq];obtain ⟨xs,hxs⟩:=HX.out.2.2.1.row cl z;have HO:Hid (w1.ownsRow B 3 1 (fk cl z) m xs):=by rw [<- HHm.out];exact HZ.out.row hxs HX.out.2.2.1.lt hBX
    refine wpAnyH_ready (rs:=[9]) (by kernel_rfl) (by simp) ?_;refine AllReadyH.cons rfl (fun K hK=>?_) AllReadyH.nil;refine step_append_lies _ (by rfl) _ _ 27 (by rfl) B 3 i0 (.int .i64 0) 1 8 Tryz.underlying27 HI.out.1 HI.out.2.1 HI.out.2.2.1 HI.out.2.2.2 rfl (by decide) (fk cl z) m xs (by rfl) HO.out ⟨X.heap.size,0,none⟩ 1 1 [.int .i64 (n:Int)] (by rfl) rfl HZ.out.news (by simp [Value.oneCell']) (by decide) (by unfold maxLen;omega) (by omega) (by have:=HZ.out.sz;omega) _ rfl ?_;intro g cp w4 hown hgrow hg hlt4;have H4:Hid (So.Fr Y w1 w4/\At w4 sb #[.pointer (some ⟨bb,0,none⟩),.int .i64 E,.slice ba N bc,.slice (some ⟨pb,pf,none⟩) N pc,.map (some mb),.slice fa N fc,.int .i64 st]/\At w4 xb #[.int .i64 (cl:Int),.int .i64 z]/\w4.heap[mb]?=w1.heap[mb]?):=HZ.out.grown hgrow (fun q e=>HY0.out cl z q e) (fun q e=>(HO.out.lt q e).1) b1 hxB HX.out.2.2.1.lt (by have:=HZ.out.sz;omega);refine hK.out _ _ ⟨H4.out.2.1,H4.out.2.2.1⟩ (fun zH=>?_);clear hK K;obtain ⟨w5,hes,f5,z5,m5⟩:=g3 w4 (.slice (some ⟨g,0,none⟩) (m+1) cp) H4.out.2.2.2;have HY:Hid ((So.Fr (fun q=>q=mb\/Y q) w0 w5/\Hd w5 B mb (nn+(k+1)) (setF fk cl z (.slice (some ⟨g,0,none⟩) (m+1) cp)) (fun a b=>hl a b+cntL cl c E (k+1) a b))/\At w5 sb #[.pointer (some ⟨bb,0,none⟩),.int .i64 E,.slice ba N bc,.slice (some ⟨pb,pf,none⟩) N pc,.map (some mb),.slice fa N fc,.int .i64 st]/\At w5 xb #[.int .i64 (cl:Int),.int .i64 z]):=by
     refine ⟨⟨?_,?_⟩,atFr2 H4.out.2.1 f5 (fun e=>n1 (by have e:sb=mb:=e;exact e.symm)),atFr2 H4.out.2.2.1 f5 (fun e=>hxm e)⟩
     ·exact ((HX.out.2.2.2.1.same (HZ.out.fr.mono fun q _ e=>.inl (e.resolve_right id))).same (H4.out.1.mono fun q _ e=>.inr e)).same (f5.mono fun q _ e=>.inl e)
     ·rw [<- HSb.out];exact taken HX.out.2.2.1 HZ.out hBX hgrow hown hg f5 m5
    have HY3:Hid (∀ a b q,((setF fk cl z (.slice (some ⟨g,0,none⟩) (m+1) cp)) a b).ownBlock=some q->Y q):=fun a b q e=>by
     unfold setF at e
     by_cases h:a=(cl:Int)/\b=z
     ·rw [if_pos h] at e;have e:some g=some q:=e
      injection e with e
      subst e;rcases hg with hg|hg
      ·exact HY0.out cl z g hg
      ·exact HY2.out g (by have:=HZ.out.sz;omega)
     ·rw [if_neg h] at e;exact HY0.out a b q e
    clear hown hgrow hg hlt4 f5 z5 m5 g1 g2 g3;refine wpAnyH_ready (rs:=[11]) (by kernel_rfl) (by simp) ?_;refine AllReadyH.cons rfl (fun K hK=>?_) AllReadyH.nil;go_simp
    refine hK.out _ _ ⟨HY.out.2.1,HY.out.2.2⟩ (fun zH=>?_);clear hK K;refine wpAnyH_done (by kernel_rfl) ?_ _;clear zH;clear hrun hes;go_wp2_with fail
    go_roundw
    case rel=>exact ⟨k+1,_,by omega,by go_num,HY.out.1.1,HY.out.1.2,HY3.out⟩
    case measure=>simp [intOf];omega
  ·obtain rfl:k=L:=by omega
   have k1:¬ (k:Int)<(k:Int):=by omega
   go_wp2_with fail
   go_end0
   exact ⟨rfl,(by rw [HE0.out];exact HQ.out.1),fk,HQ.out.2,HY0.out⟩
end Go.Proofs.YtiejdpjgplikjaaGreatDoor.Mo
