/- Parts Uw Ux. -/
import Derived.Test.YtpdaknbmcpmhjaaGreatDoorN26
import Derived.RegionTactic
import Derived.Deep.RegionLaw
set_option maxRecDepth 20000
set_option maxHeartbeats 8000000
namespace Go.Proofs.YtpdaknbmcpmhjaaGreatDoor.Bu
open Go.ChangeShapes Go.WideShapes Go.ChangeAt Go.RowKit
open YtpdaknbmcpmhjaaGreatDoor.Op
open YtpdaknbmcpmhjaaGreatDoor.Tb (Tab TabAt Bnds four tabAt_new ckR)
open YtpdaknbmcpmhjaaGreatDoor.So
theorem stN_gt {v:Nat->Int} : ∀ {n j:Nat},j<n->v j≠0->j<stN v n
 | 0,_,h,_=>absurd h (by omega)
 | n+1,j,h,hv=>by
  rw [stN_succ]
  split
  ·rename_i h0
   by_cases e:j=n
   ·rw [e] at hv;exact absurd h0 hv
   ·exact stN_gt (by omega) hv
  ·omega
theorem okW_zero (c:Int):okW c 0=false:=by
 have h:isB c (opW 0)=false:=by
  unfold isB;rw [show clB (opW 0).op=false from by decide];rfl
 unfold okW;rw [h,Bool.and_false]
def InJ (w:World) (t:Tab) (x:Bn) (p:Pb) (k:Nat) (g:Nat->Int) (u o:Nat) (v7 v9 v10:Value) (wz:World):Prop:=∃ (j m c:Nat) (a:Option Addr),j<=u/\m<=j/\v10=.int .i64 j/\v7=.int .i64 ((o+j:Nat):Int)/\v9=.bool (decide (m<j))/\(∀ i,i<m->okW k (g i)=true/\g i≠0)/\(∀ i,m<=i->i<j->g i=0)/\Rc w wz t x p k a c (rdL g m)
theorem rbundle_any (a:Option Addr) (n c:Nat) (v:Nat->Int) (t:Tab) (w:World) (h:Ws w a n v) (ht:t.ok=true) (ho:ofs t 4<=n) :
  Calls Tryz.prog 150 #[.slice a n c,t.val] w (ReOut w t v):=by
 have HU:Hid (∀ k,k<4->t.u k=(U t k:Int)/\U t k<=8/\ofs t k+U t k<=32):=fun k hk=>⟨u_nat ht hk,u_le ht hk,Nat.le_trans (ofs_mono hk) (ofs_le ht)⟩;have HW:Hid (Ws w a n v):=h;have HO:Hid (∀ k,k<4->ofs t k+U t k<=n):=fun k hk=>Nat.le_trans (ofs_mono hk) ho;have HRo:Hid (∀ x W,0<=x->x<18446744073709551616->Calls Tryz.prog 207 #[.int .u64 x] W fun e w'=>e=.returned (.tuple #[(opW x).val,.bool (decide (x<9007199254740992)&&okO (opW x))])/\Below W.heap.size W w'):=fun x W h0 h1=>rop_any x W h0 h1;have HCl:Hid (∀ d W,Calls Tryz.prog 107 #[.int .i8 d] W fun e w'=>e=.returned (.tuple #[.int .i64 (clV d),.bool (clB d)])/\Below W.heap.size W w'):=fun d W=>refClass_any d W;have HS:Hid (Rb w (((w.alloc (.cells t.cells 27)).alloc (.cells #[.slice none 0 0,.slice none 0 0,.slice none 0 0,.slice none 0 0] 65)).alloc (.cells #[.slice none 0 0,.slice none 0 0,.slice none 0 0,.slice none 0 0] 65)) t (bdX t v) ⟨fun _=>none,fun _=>0⟩ 0):=Rb.start w t _ _ _ _ _;obtain ⟨i0,hi,hi2⟩:=Option.map_eq_some_iff.1 info60;simp only [Prod.mk.injEq] at hi2;obtain ⟨hz0,hz1,hz2⟩:=hi2;have HI:Hid (Tryz.prog.info? 60=some i0/\i0.zero=some (.agg #[.int .i8 0,.int .u8 0,.int .u8 0,.int .u8 0,.int .i64 0])/\i0.size=5/\i0.bytes=16):=⟨hi,hz0,hz1,hz2⟩;clear h ht hi hz0 hz1 hz2;unfold Tab.val at *;go_enter Tryz.func150,Tryz.ntmps150;go_upto_region 4 with fail
 generalize (((w.alloc (.cells t.cells 27)).alloc (.cells #[.slice none 0 0,.slice none 0 0,.slice none 0 0,.slice none 0 0] 65)).alloc (.cells #[.slice none 0 0,.slice none 0 0,.slice none 0 0,.slice none 0 0] 65))=W0 at *
 go_loopw [7,8] (fun s i wr=>∃ (k:Nat) (p:Pb),k<=4/\i=.int .i64 k/\s=.int .i64 (ofs t k:Int)/\bdK t v k=true/\Rb w wr t (bdX t v) p k) (fun _ i _=>4-(intOf i).toNat)
 case atStart=>exact ⟨0,_,by omega,rfl,rfl,rfl,HS.out⟩
 case round=>
  rename World=>wr;obtain ⟨k,p,hk,rfl,rfl,h1,h2⟩:=hrel;have HQ:Hid (bdK t v k=true/\Rb w wr t (bdX t v) p k):=⟨h1,h2⟩;clear h1 h2 HS
  by_cases hlt:k<4
  ·have k0:(0:Int)<=(k:Int):=by omega
   have k4:(k:Int)<4:=by omega
   obtain ⟨hu,hu8,hu32⟩:=HU.out k hlt;have HUk:Hid (t.u k=(U t k:Int)):=hu;have hon:=HO.out k hlt;have HNo:Hid (rdB k (cv t v k) (stN (cv t v k) (U t k))=false->bdK t v 4=false):=fun e=>bdK_no hlt e;have HYe:Hid (rdB k (cv t v k) (stN (cv t v k) (U t k))=true->bdK t v (k+1)=true):=fun e=>by show (bdK t v k&&_)=true;rw [HQ.out.1,e];rfl
   have HXk:Hid ((bdX t v).l k=rdL (cv t v k) (stN (cv t v k) (U t k))/\ofs t (k+1)=ofs t k+U t k):=⟨rfl,rfl⟩;have HCv:Hid (∀ j,cv t v k j=v (ofs t k+j)):=fun _=>rfl;clear hu;generalize cv t v k=g at *;generalize U t k=u at *;obtain ⟨OF,hOF⟩:∃ OF,ofs t k=OF:=⟨_,rfl⟩;rw [hOF] at hon hu32 HCv HXk ⊢;clear hOF;go_upto_region 8 with fail
   go_loopw [7,9,10] (fun v7 v9 v10 wz=>InJ w t (bdX t v) p k g u OF v7 v9 v10 wz) (fun _ _ v10 _=>u-(intOf v10).toNat)
   case atStart=>exact ⟨0,0,0,none,by omega,by omega,rfl,rfl,rfl,fun i hi=>absurd hi (by omega),fun i h1 h2=>absurd h2 (by omega),Rc.of HQ.out.2⟩
   case round=>
    rename World=>wz;obtain ⟨j,m,c3,a3,hju,hmj,rfl,rfl,rfl,h1,h2,h3⟩:=hrel;have HZ:Hid (Rc w wz t (bdX t v) p k a3 c3 (rdL g m)):=h3;have HA:Hid (∀ i,i<m->okW k (g i)=true/\g i≠0):=h1;have HB:Hid (∀ i,m<=i->i<j->g i=0):=h2;clear h1 h2 h3 HQ;have tu:=HZ.out.t.cu k hlt;rw [HUk.out] at tu;have tz:=HZ.out.t.lt
    by_cases hj:j<u
    ·have j0:(0:Int)<=(j:Int):=by omega
     have j1:(j:Int)<(u:Int):=by omega
     have oj0:(0:Int)<=((OF+j:Nat):Int):=by omega
     have oj1:((OF+j:Nat):Int)<(n:Int):=by omega
     obtain ⟨wb,wf,rfl,wz0,wx⟩:=(HW.out.below HZ.out.up).is (by omega);have q0:=wx (OF+j) (by omega);obtain ⟨x0,x1⟩:=HW.out.ok (OF+j) (by omega);have hgj:g j=v (OF+j):=HCv.out j;rw [<- hgj] at q0 x0 x1;have HFail:Hid (g j≠0->(m<j\/okW k (g j)=false)->bdK t v 4=false):=fun hne hor=>HNo.out (by
      have hst:=stN_gt (n:=u) hj hne;rcases hor with hm|hk0
      ·refine rdB_no (k:=m) (by omega) ?_;rw [HB.out m (Nat.le_refl _) hm];exact okW_zero _
      ·exact rdB_no hst hk0)
     clear wx hgj;have HGj:Hid (∀ y,g j=y->True):=fun _ _=>trivial;obtain ⟨x,hx⟩:∃ x,g j=x:=⟨_,rfl⟩;have HX:Hid (g j=x):=hx;rw [hx] at q0 x0 x1 HFail;clear hx HGj;have ej:((OF+j:Nat):Int)+1=((OF+(j+1):Nat):Int):=by omega
     generalize hOJ:OF+j=OJ at *;have HOJ:Hid (OF+j=OJ):=hOJ;clear hOJ
     by_cases hx0:x=0
     ·subst hx0;clear HFail;generalize decide (m<j)=dm at *;go_wp2_with fail
      go_roundw
      case rel=>exact ⟨j+1,m,c3,a3,by omega,by omega,by go_num,by first|(congr 1;done)|(congr 1;have:=HOJ.out;omega),by rw [decide_eq_true (show m<j+1 by omega)],HA.out,fun i h1 h2=>by
       by_cases e:i=j
       ·rw [e];exact HX.out
       ·exact HB.out i h1 (by omega),HZ.out⟩
      case measure=>simp [intOf];omega
     ·have hx0':(x==0)=false:=by simpa using hx0
      have HOp:Hid (∀ W,Calls Tryz.prog 207 #[.int .u64 x] W fun e w'=>e=.returned (.tuple #[(opW x).val,.bool (decide (x<9007199254740992)&&okO (opW x))])/\Below W.heap.size W w'):=fun W=>HRo.out x W x0 x1;have HFl:Hid ((m<j\/okW k x=false)->bdK t v 4=false):=fun hor=>HFail.out hx0 hor;have HOk:Hid (okW k x=((decide (x<9007199254740992)&&okO (opW x))&&clB (opW x).op&&(clV (opW x).op==k))):=(by unfold okW isB;cases decide (x<9007199254740992) <;> cases okO (opW x) <;> cases clB (opW x).op <;> simp:okW k x=((decide (x<9007199254740992)&&okO (opW x))&&clB (opW x).op&&(clV (opW x).op==k)));have HNxt:Hid (m=j->okW k x=true->(∀ i,i<j+1->okW k (g i)=true/\g i≠0)/\rdL g (j+1)=rdL g m++[opW x]/\(rdL g m).length=j):=fun hm hok=>⟨fun i hi=>by
       by_cases e:i=j
       ·rw [e,HX.out];exact ⟨hok,hx0⟩
       ·exact HA.out i (by omega),by rw [rdL_next,HX.out,hm],by rw [rdL_len,hm]⟩
      clear HFail hx0;have HCl1:Hid (∀ W,Calls Tryz.prog 107 #[.int .i8 (opW x).op] W fun e w'=>e=.returned (.tuple #[.int .i64 (clV (opW x).op),.bool (clB (opW x).op)])/\Below W.heap.size W w'):=fun W=>HCl.out _ W;generalize okW k x=kw at *;generalize (decide (x<9007199254740992)&&okO (opW x))=o1 at *;generalize opW x=o at *;generalize clB o.op=cb at *;generalize clV o.op=cvv at *
      by_cases hm:m<j
      ·rw [decide_eq_true hm];have hN:=HFl.out (.inl hm);go_wp2_with (first
        | (go_at_call 207;refine Calls.mono (HOp.out _) ?_;rintro e w2 ⟨rfl,hb2⟩;have HR2:Hid (Rc w w2 t (bdX t v) p k a3 c3 (rdL g m)):=HZ.out.next hb2;clear hb2)
        | (go_at_call 107;refine Calls.mono (HCl1.out _) ?_;rintro e w3 ⟨rfl,hb3⟩;obtain ⟨b3,hb30,hz3⟩:=one_new w2 _ _ hb3;have HR3:Hid (Rc w w3 t (bdX t v) p k a3 c3 (rdL g m)):=HR2.out.next hb30;clear hb3 hb30 b3;have ra:=HR3.out.r;have r0:=ra.c 0 _ rfl;have r1:=ra.c 1 _ rfl;have r2:=ra.c 2 _ rfl;have r3:=ra.c 3 _ rfl;have rf0:=ra.f 0;have rf1:=ra.f 1;have rf2:=ra.f 2;have rf3:=ra.f 3;have rl:=ra.lt;clear ra))
       refine bodyPost_ret (v:=.tuple #[bz,.bool false]) (by simp [results,Tryz.results150,go_sem,r0,r1,r2,r3]) rfl (ReOut.no hN (HR3.out.up.trans ?_))
       go_grown
      ·rw [decide_eq_false hm];have hmj':m=j:=by omega
       cases o1
       ·have hN:=HFl.out (.inr (by rw [HOk.out];rfl));go_wp2_with (first
         | (go_at_call 207;refine Calls.mono (HOp.out _) ?_;rintro e w2 ⟨rfl,hb2⟩;have HR2:Hid (Rc w w2 t (bdX t v) p k a3 c3 (rdL g m)):=HZ.out.next hb2;clear hb2)
         | (go_at_call 107;refine Calls.mono (HCl1.out _) ?_;rintro e w3 ⟨rfl,hb3⟩;obtain ⟨b3,hb30,hz3⟩:=one_new w2 _ _ hb3;have HR3:Hid (Rc w w3 t (bdX t v) p k a3 c3 (rdL g m)):=HR2.out.next hb30;clear hb3 hb30 b3;have ra:=HR3.out.r;have r0:=ra.c 0 _ rfl;have r1:=ra.c 1 _ rfl;have r2:=ra.c 2 _ rfl;have r3:=ra.c 3 _ rfl;have rf0:=ra.f 0;have rf1:=ra.f 1;have rf2:=ra.f 2;have rf3:=ra.f 3;have rl:=ra.lt;clear ra))
        refine bodyPost_ret (v:=.tuple #[bz,.bool false]) (by simp [results,Tryz.results150,go_sem,r0,r1,r2,r3]) rfl (ReOut.no hN (HR3.out.up.trans ?_))
        go_grown
       ·cases cb
        ·have hN:=HFl.out (.inr (by rw [HOk.out];rfl));go_wp2_with (first
          | (go_at_call 207;refine Calls.mono (HOp.out _) ?_;rintro e w2 ⟨rfl,hb2⟩;have HR2:Hid (Rc w w2 t (bdX t v) p k a3 c3 (rdL g m)):=HZ.out.next hb2;clear hb2)
          | (go_at_call 107;refine Calls.mono (HCl1.out _) ?_;rintro e w3 ⟨rfl,hb3⟩;obtain ⟨b3,hb30,hz3⟩:=one_new w2 _ _ hb3;have HR3:Hid (Rc w w3 t (bdX t v) p k a3 c3 (rdL g m)):=HR2.out.next hb30;clear hb3 hb30 b3;have ra:=HR3.out.r;have r0:=ra.c 0 _ rfl;have r1:=ra.c 1 _ rfl;have r2:=ra.c 2 _ rfl;have r3:=ra.c 3 _ rfl;have rf0:=ra.f 0;have rf1:=ra.f 1;have rf2:=ra.f 2;have rf3:=ra.f 3;have rl:=ra.lt;clear ra))
         refine bodyPost_ret (v:=.tuple #[bz,.bool false]) (by simp [results,Tryz.results150,go_sem,r0,r1,r2,r3]) rfl (ReOut.no hN (HR3.out.up.trans ?_))
         go_grown
        ·by_cases hcv:cvv=k
         ·subst hcv;have hkw:kw=true:=by rw [HOk.out];simp
          obtain ⟨n1,n2,n3⟩:=HNxt.out hmj' hkw;have HN:Hid ((∀ i,i<j+1->okW k (g i)=true/\g i≠0)/\rdL g (j+1)=rdL g m++[o]/\(rdL g m).length=j):=⟨n1,n2,n3⟩;clear n1 n2 n3 HNxt HFl HOk;subst hmj';go_upto_region 18 with (first
           | (go_at_call 207;refine Calls.mono (HOp.out _) ?_;rintro e w2 ⟨rfl,hb2⟩;have HR2:Hid (Rc w w2 t (bdX t v) p k a3 c3 (rdL g m)):=HZ.out.next hb2;clear hb2)
           | (go_at_call 107;refine Calls.mono (HCl1.out _) ?_;rintro e w3 ⟨rfl,hb3⟩;obtain ⟨b3,hb30,hz3⟩:=one_new w2 _ _ hb3;have HR3:Hid (Rc w w3 t (bdX t v) p k a3 c3 (rdL g m)):=HR2.out.next hb30;have HBo:Hid (At w3 w2.heap.size o.cells):=b3;clear hb3 hb30 b3;have ra:=HR3.out.r;have r0:=ra.c 0 _ rfl;have r1:=ra.c 1 _ rfl;have r2:=ra.c 2 _ rfl;have r3:=ra.c 3 _ rfl;have rf0:=ra.f 0;have rf1:=ra.f 1;have rf2:=ra.f 2;have rf3:=ra.f 3;have rl:=ra.lt;clear ra))
          have hxl:(rdL g m).length<=8:=by rw [rdL_len];omega
          have HXl:Hid ((rdL g m).length=m):=rdL_len g m;have y0:=HR3.out.cl k hlt;rw [if_pos rfl] at y0;have y1:=HR3.out.f k;have y2:=HR3.out.lt;obtain ⟨o0,o1',o2,o3,o4⟩:=HBo.out.o5;have ol:=HBo.out.lt;clear HZ HR2 r0 r1 r2 r3 rf0 rf1 rf2 rf3 rl q0 tu tz;have HNn:Hid (rdL g (m+1)=rdL g m++[o]/\(∀ i,i<m+1->okW k (g i)=true/\g i≠0)):=⟨HN.out.2.1,HN.out.1⟩;clear HN;generalize rdL g m=xs at *;generalize w2.heap.size=ob at *;go_wp2_with fail
          have e1:w3.drew.heap.size=w3.heap.size:=rfl
          go_region_law
           ((refine step_append_lies _ (by rfl) _ _ 33 (by rfl) (w.heap.size+3) 60 i0 (.agg #[.int .i8 0,.int .u8 0,.int .u8 0,.int .u8 0,.int .i64 0]) 5 16 Tryz.underlying33 HI.out.1 HI.out.2.1 HI.out.2.2.1 HI.out.2.2.2 rfl (by decide) (.slice a3 xs.length c3) xs.length (ocells xs) (by rfl) (HR3.out.row.drew.alloc _) ⟨w3.heap.size,0,none⟩ 1 1 [.int .i8 o.op,.int .u8 o.d,.int .u8 o.a,.int .u8 o.b,.int .i64 o.im] (by rfl) rfl (World.news_of_block (heap_alloc_new w3.drew (.cells #[.int .i8 o.op,.int .u8 o.d,.int .u8 o.a,.int .u8 o.b,.int .i64 o.im] 60))) (by simp [Value.oneCell']) (by decide) (by unfold maxLen;omega) (by omega) (by have h5:=HR3.out.lt;simp;omega) _ rfl ?_;intro g4 cp w4 hown hgrow hg hlt3;have HP3:Hid ((w4.cell? ⟨w.heap.size+2,k,none⟩=some (.slice a3 xs.length c3)/\w4.frozen? ⟨w.heap.size+2,k,none⟩=false/\w.heap.size+2<w4.heap.size)/\Rc w (w4.setCell ⟨w.heap.size+2,k,none⟩ (.slice (some ⟨g4,0,none⟩) (xs.length+1) cp)) t (bdX t v) p k (some ⟨g4,0,none⟩) cp (xs++[o])):=(HR3.out.next ((Below.refl _ _).drew.alloc (Nat.le_refl _) _)).add hlt hgrow hown (hg.imp id fun e=>by rw [e];simp);have z0:=HP3.out.1.1;have z1:=HP3.out.1.2.1;have z2:=HP3.out.1.2.2;clear hown hgrow hg hlt3))
          all_goals
           go_wp2_with fail
           go_roundw
           case rel=>exact ⟨m+1,m+1,cp,some ⟨g4,0,none⟩,by omega,by omega,by go_num,by first|(congr 1;done)|(congr 1;have:=HOJ.out;omega),by rw [decide_eq_false (show ¬ m+1<m+1 by omega)],HNn.out.2,fun i h1 h2=>absurd h2 (by omega),by rw [HNn.out.1];exact HP3.out.2⟩
           case measure=>simp [intOf];omega
         ·have hcv':(cvv != (k:Int))=true:=by simpa using hcv
          have hN:=HFl.out (.inr (by rw [HOk.out];simp [hcv]));clear hcv;go_wp2_with (first
           | (go_at_call 207;refine Calls.mono (HOp.out _) ?_;rintro e w2 ⟨rfl,hb2⟩;have HR2:Hid (Rc w w2 t (bdX t v) p k a3 c3 (rdL g m)):=HZ.out.next hb2;clear hb2)
           | (go_at_call 107;refine Calls.mono (HCl1.out _) ?_;rintro e w3 ⟨rfl,hb3⟩;obtain ⟨b3,hb30,hz3⟩:=one_new w2 _ _ hb3;have HR3:Hid (Rc w w3 t (bdX t v) p k a3 c3 (rdL g m)):=HR2.out.next hb30;clear hb3 hb30 b3;have ra:=HR3.out.r;have r0:=ra.c 0 _ rfl;have r1:=ra.c 1 _ rfl;have r2:=ra.c 2 _ rfl;have r3:=ra.c 3 _ rfl;have rf0:=ra.f 0;have rf1:=ra.f 1;have rf2:=ra.f 2;have rf3:=ra.f 3;have rl:=ra.lt;clear ra))
          refine bodyPost_ret (v:=.tuple #[bz,.bool false]) (by simp [results,Tryz.results150,go_sem,r0,r1,r2,r3]) rfl (ReOut.no hN (HR3.out.up.trans ?_))
          go_grown
    ·obtain rfl:j=u:=by omega
     have j1:¬ (j:Int)<(j:Int):=by omega
     have hst:stN g j=m:=stN_is g m (fun i hi=>(HA.out i hi).2) j hmj HB.out;have HY2:Hid (bdK t v (k+1)=true):=HYe.out (by rw [hst];exact rdB_iff.2 fun i hi=>(HA.out i hi).1);have HRb:Hid (Rb w wz t (bdX t v) (p.put k a3 c3) (k+1)):=HZ.out.done (by rw [HXk.out.1,hst]) (rdL_ok _ _) (by rw [rdL_len];omega);have HOf:Hid (ofs t (k+1)=OF+j):=HXk.out.2;clear hst;generalize decide (m<j)=dm at *;go_wp2_with fail
     go_roundw
     case rel=>exact ⟨k+1,p.put k a3 c3,by omega,by go_num,by rw [HOf.out],HY2.out,HRb.out⟩
     case measure=>simp [intOf];omega
  ·obtain rfl:k=4:=by omega
   have q:=HQ.out.2;have c0:wr.cell? ⟨w.heap.size+2,0,none⟩=some (.slice (p.a 0) ((bdX t v).l 0).length (p.c 0)):=q.c 0 (by decide);have c1:wr.cell? ⟨w.heap.size+2,1,none⟩=some (.slice (p.a 1) ((bdX t v).l 1).length (p.c 1)):=q.c 1 (by decide);have c2:wr.cell? ⟨w.heap.size+2,2,none⟩=some (.slice (p.a 2) ((bdX t v).l 2).length (p.c 2)):=q.c 2 (by decide);have c3:wr.cell? ⟨w.heap.size+2,3,none⟩=some (.slice (p.a 3) ((bdX t v).l 3).length (p.c 3)):=q.c 3 (by decide);have cl:=q.lt;have ra:=q.r;have r0:=ra.c 0 _ rfl;have r1:=ra.c 1 _ rfl;have r2:=ra.c 2 _ rfl;have r3:=ra.c 3 _ rfl;have rf0:=ra.f 0;have rf1:=ra.f 1;have rf2:=ra.f 2;have rf3:=ra.f 3;have rl:=ra.lt;clear ra q;go_wp2
   refine bodyPost_ret (v:=.tuple #[bval (bdX t v) p,.bool true]) (by simp [results,Tryz.results150,go_sem,r0,r1,r2,r3]) rfl (ReOut.yes HQ.out.1 ⟨fun j hj=>opsAt_fr (HQ.out.2.o j hj).1 (((((Fr.refl (One (w.heap.size+1)) wr).setCell (.inr rfl) _ _).setCell (.inr rfl) _ _).setCell (.inr rfl) _ _).setCell (.inr rfl) _ _) fun A hA e=>?_⟩ (fun j hj A hA=>?_) (HQ.out.2.up.trans ?_))
   ·have:=(HQ.out.2.o j hj).2 A hA
    have e:A.block=w.heap.size+1:=e;omega
   ·have:=(HQ.out.2.o j hj).2 A hA
    omega
   ·go_grown
structure Rd (w W:World) (t:Tab) (a:Option Addr) (c:Nat) (ls:List Bn):Prop where
 t:TabAt W w.heap.size t
 up:Below w.heap.size w W
 row:∃ cs,W.ownsRow (w.heap.size+1) 65 4 (.slice a ls.length c) ls.length cs/\∀ (i:Nat) (h:i<ls.length),∃ p:Pb,(∀ k,k<4->cs[i*4+k]?=some (.slice (p.a k) (ls[i].l k).length (p.c k)))/\∀ k,k<4->OpsAt W (p.a k) (ls[i].l k)/\(0<(ls[i].l k).length->∀ A,p.a k=some A->∀ A',a=some A'->A.block≠A'.block)
theorem Rd.next {w W W':World} {t:Tab} {a:Option Addr} {c:Nat} {ls:List Bn} (h:Rd w W t a c ls) (g:Below W.heap.size W W'):Rd w W' t a c ls:=by
 obtain ⟨cs,h1,h2⟩:=h.row;refine ⟨h.t.below g h.t.lt,h.up.trans (g.mono h.up.size),cs,row_up h1 g,fun i hi=>?_⟩;obtain ⟨p,h3,h4⟩:=h2 i hi;exact ⟨p,h3,fun k hk=>⟨(h4 k hk).1.below g,(h4 k hk).2⟩⟩
theorem Rd.start (w:World) {W:World} {t:Tab} (ht:TabAt W w.heap.size t) (hu:Below w.heap.size w W):Rd w W t none 0 []:=⟨ht,hu,[],⟨rfl,.inl ⟨rfl,rfl⟩⟩,fun i hi=>absurd hi (by simp)⟩
theorem Rd.add {w X w4:World} {t:Tab} {a:Option Addr} {c g cap:Nat} {ls:List Bn} {x:Bn} {p:Pb} {cs:List Value} (s:Rd w X t a c ls) (hcs:X.ownsRow (w.heap.size+1) 65 4 (.slice a ls.length c) ls.length cs) (hrow:∀ (i:Nat) (h:i<ls.length),∃ p:Pb,(∀ k,k<4->cs[i*4+k]?=some (.slice (p.a k) (ls[i].l k).length (p.c k)))/\∀ k,k<4->OpsAt X (p.a k) (ls[i].l k)/\(0<(ls[i].l k).length->∀ A,p.a k=some A->∀ A',a=some A'->A.block≠A'.block)) (hx:BnIn X x p) (hd:∀ k,k<4->∀ A,p.a k=some A->∀ A',a=some A'->A.block≠A'.block) (hgrow:X.grownBy w4 (Value.slice a ls.length c).ownBlock) (hown:w4.ownsRow (w.heap.size+1) 65 4 (.slice (some ⟨g,0,none⟩) (ls.length+1) cap) (ls.length+1) (cs++(bcs x p).toList)) (hg:(Value.slice a ls.length c).ownBlock=some g\/g=X.heap.size) :
  Rd w w4 t (some ⟨g,0,none⟩) cap (ls++[x]):=by
 have hl:=s.t.lt;have hlen:cs.length=ls.length*4:=hcs.1;have B:Below (w.heap.size+1) X w4:=⟨hgrow.os,hgrow.tape,hgrow.output,hgrow.size,fun j hj=>hgrow.block j (Nat.lt_of_lt_of_le hj hl) fun e=>by
  have:=(hcs.lt j e.symm).1
  omega⟩
 have key:∀ (q:Option Addr) (xs:List O),OpsAt X q xs->(0<xs.length->∀ A,q=some A->∀ A',a=some A'->A.block≠A'.block)->OpsAt w4 q xs/\(0<xs.length->∀ A,q=some A->∀ A',(some ⟨g,0,none⟩:Option Addr)=some A'->A.block≠A'.block):=by
  intro q xs h1 h2;refine ⟨⟨h1.ok,h1.len,fun h0=>?_⟩,fun hn A hA A' e=>?_⟩
  ·obtain ⟨b,f,e,z,hc'⟩:=h1.is h0;have hb:w4.heap[b]?=X.heap[b]?:=hgrow.block b z fun e2=>by
    cases a with
    | none=>simp [Value.ownBlock] at e2
    | some y=>
     simp only [Value.ownBlock,Option.some.injEq] at e2;exact h2 h0 _ e y rfl e2
   refine ⟨b,f,e,Nat.lt_of_lt_of_le z hgrow.size,fun i hi=>?_⟩;obtain ⟨c0,c1,c2,c3,c4⟩:=hc' i hi;have cc:∀ q,w4.cell? ⟨b,q,none⟩=X.cell? ⟨b,q,none⟩:=fun q=>World.cell?_of_block (w:=X) hb;exact ⟨by rw [cc];exact c0,by rw [cc];exact c1,by rw [cc];exact c2,by rw [cc];exact c3,by rw [cc];exact c4⟩
  ·injection e with e
   subst e;rcases hg with hg|hg
   ·cases a with
    | none=>simp [Value.ownBlock] at hg
    | some y=>
     simp only [Value.ownBlock,Option.some.injEq] at hg
     have:=h2 hn A hA y rfl
     rw [hg] at this;exact this
   ·obtain ⟨b,f,e',z,-⟩:=h1.is hn;rw [e'] at hA
    injection hA with hA
    subst hA;show ¬ b=g;omega
 refine ⟨s.t.below B (by omega),s.up.trans (B.mono (by omega)),cs++(bcs x p).toList,by rw [List.length_append];exact hown,fun i hi=>?_⟩
 by_cases e:i<ls.length
 ·obtain ⟨p',h3,h4⟩:=hrow i e;have e1:(ls++[x])[i]=ls[i]:=List.getElem_append_left e;rw [e1];exact ⟨p',fun k hk=>by rw [List.getElem?_append_left (by omega)];exact h3 k hk,fun k hk=>key _ _ (h4 k hk).1 (h4 k hk).2⟩
 ·have e2:i=ls.length:=by simp at hi;omega
  subst e2;have e1:(ls++[x])[ls.length]=x:=by simp
  rw [e1];refine ⟨p,fun k hk=>?_,fun k hk=>key _ _ (hx.o k hk) fun _=>hd k hk⟩;rw [List.getElem?_append_right (by omega),hlen,Nat.add_sub_cancel_left]
  match k,hk with
  | 0,_=>rfl
  | 1,_=>rfl
  | 2,_=>rfl
  | 3,_=>rfl
theorem Rd.at {w W:World} {t:Tab} {a:Option Addr} {c:Nat} {ls:List Bn} (h:Rd w W t a c ls) (hl:ls.length<=65536):BsAt W a ls:=by
 obtain ⟨cs,h1,h2⟩:=h.row;refine ⟨by omega,fun h0=>?_⟩;rcases h1.2 with ⟨_,e⟩|⟨g,cap,cur,e,-,-,-⟩
 ·omega
 ·injection e with e1 e2 e3
  subst e1;refine ⟨g,0,rfl,(h1.lt g rfl).2,fun i hi=>?_⟩;obtain ⟨p,h3,h4⟩:=h2 i hi;refine ⟨p,⟨fun k hk=>?_⟩,⟨fun k hk=>(h4 k hk).1⟩⟩
  have:=h1.cells (g:=g) rfl _ _ (h3 k hk)
  rw [add_bu,<- Nat.add_assoc] at this;exact this
def RdeOut (w:World) (t:Tab) (v:Nat->Int) (n:Nat) (e:Ending) (w':World):Prop:=
 if deB t v n then ∃ a c,e=.returned (.tuple #[.slice a n c,.int .i64 0])/\BsAt w' a (deL t v n)/\Below w.heap.size w w'
 else e=.returned (.tuple #[.slice none 0 0,.int .i64 210])/\Below w.heap.size w w'
theorem RdeOut.no {w w':World} {t:Tab} {v:Nat->Int} {n:Nat} (h:deB t v n=false) (hb:Below w.heap.size w w'):RdeOut w t v n (.returned (.tuple #[.slice none 0 0,.int .i64 210])) w':=by
 unfold RdeOut;rw [h];exact ⟨rfl,hb⟩
theorem RdeOut.yes {w w':World} {t:Tab} {v:Nat->Int} {n c:Nat} {a:Option Addr} (h:deB t v n=true) (h1:BsAt w' a (deL t v n)) (hb:Below w.heap.size w w'):RdeOut w t v n (.returned (.tuple #[.slice a n c,.int .i64 0])) w':=by
 unfold RdeOut;rw [h];exact ⟨a,c,rfl,h1,hb⟩
theorem rdec_table (ao:Option Addr) (n cap:Nat) (t:Tab) (w:World) (ht:t.ok=false) :
  Calls Tryz.prog 82 #[.slice ao n cap,t.val] w fun e w'=>e=.returned (.tuple #[.slice none 0 0,.int .i64 20])/\Below w.heap.size w w':=by
 have HC:Hid (∀ W,Calls Tryz.prog 54 #[t.val] W fun e w'=>e=.returned (.int .i64 20)/\Below W.heap.size W w'):=fun W=>by
  have:=Tb.refCheck_any t W
  rw [ck_bad ht] at this;exact this
 clear ht;unfold Tab.val at *;go_enter Tryz.func82,Tryz.ntmps82;go_wp2_with (first|(go_at_call 54;refine Calls.mono (HC.out _) ?_;rintro e w1 ⟨rfl,hb⟩;have HS1:Hid (TabAt w1 w.heap.size t/\Below w.heap.size w w1):=⟨(tabAt_new w t 27).below hb (by simp),(by go_grown:Below w.heap.size w (w.alloc (.cells t.cells 27))).trans (hb.mono (by simp))⟩;clear hb;have k2:=HS1.out.1;have qu0:=k2.cu 0 (by decide);have qu1:=k2.cu 1 (by decide);have qu2:=k2.cu 2 (by decide);have qu3:=k2.cu 3 (by decide);have ql0:=k2.cl 0 (by decide);have ql1:=k2.cl 1 (by decide);have ql2:=k2.cl 2 (by decide);have ql3:=k2.cl 3 (by decide);have qb0:=k2.cb 0 (by decide);have qb1:=k2.cb 1 (by decide);have qb2:=k2.cb 2 (by decide);have qb3:=k2.cb 3 (by decide);have qd:=k2.cd;have qz:=k2.lt;clear k2))
 go_ret2
 exact ⟨rfl,HS1.out.2⟩
theorem rdec_none (ao:Option Addr) (cap:Nat) (t:Tab) (w:World) (ht:t.ok=true) :
  Calls Tryz.prog 82 #[.slice ao 0 cap,t.val] w fun e w'=>e=.returned (.tuple #[.slice none 0 0,.int .i64 0])/\Below w.heap.size w w':=by
 have HC:Hid (∀ W,Calls Tryz.prog 54 #[t.val] W fun e w'=>e=.returned (.int .i64 0)/\Below W.heap.size W w'):=fun W=>by
  have:=Tb.refCheck_any t W
  rw [ck_good ht] at this;exact this
 have HWd:Hid (∀ W,Calls Tryz.prog 149 #[t.val] W fun e w'=>e=.returned (.int .i64 (ofs t 4:Int))/\Below W.heap.size W w'):=fun W=>rwidth_any t W ht;clear ht;unfold Tab.val at *;go_enter Tryz.func82,Tryz.ntmps82;go_wp2_with (first|(go_at_call 54;refine Calls.mono (HC.out _) ?_;rintro e w1 ⟨rfl,hb⟩;have HS1:Hid (TabAt w1 w.heap.size t/\Below w.heap.size w w1):=⟨(tabAt_new w t 27).below hb (by simp),(by go_grown:Below w.heap.size w (w.alloc (.cells t.cells 27))).trans (hb.mono (by simp))⟩;clear hb;have k2:=HS1.out.1;have qu0:=k2.cu 0 (by decide);have qu1:=k2.cu 1 (by decide);have qu2:=k2.cu 2 (by decide);have qu3:=k2.cu 3 (by decide);have ql0:=k2.cl 0 (by decide);have ql1:=k2.cl 1 (by decide);have ql2:=k2.cl 2 (by decide);have ql3:=k2.cl 3 (by decide);have qb0:=k2.cb 0 (by decide);have qb1:=k2.cb 1 (by decide);have qb2:=k2.cb 2 (by decide);have qb3:=k2.cb 3 (by decide);have qd:=k2.cd;have qz:=k2.lt;clear k2)|(go_at_call 149;refine Calls.mono (HWd.out _) ?_;rintro e w2 ⟨rfl,hb⟩;have HS2:Hid (TabAt w2 w.heap.size t/\Below w.heap.size w w2):=⟨HS1.out.1.below hb HS1.out.1.lt,HS1.out.2.trans (hb.mono HS1.out.2.size)⟩;clear hb qu0 qu1 qu2 qu3 ql0 ql1 ql2 ql3 qb0 qb1 qb2 qb3 qd qz))
 go_ret2
 exact ⟨rfl,HS2.out.2⟩
theorem rdec_odd (ao:Option Addr) (n cap:Nat) (t:Tab) (w:World) (ht:t.ok=true) (h0:n≠0) (hm:n%ofs t 4≠0) :
  Calls Tryz.prog 82 #[.slice ao n cap,t.val] w fun e w'=>e=.returned (.tuple #[.slice none 0 0,.int .i64 210])/\Below w.heap.size w w':=by
 have HC:Hid (∀ W,Calls Tryz.prog 54 #[t.val] W fun e w'=>e=.returned (.int .i64 0)/\Below W.heap.size W w'):=fun W=>by
  have:=Tb.refCheck_any t W
  rw [ck_good ht] at this;exact this
 have HWd:Hid (∀ W,Calls Tryz.prog 149 #[t.val] W fun e w'=>e=.returned (.int .i64 (ofs t 4:Int))/\Below W.heap.size W w'):=fun W=>rwidth_any t W ht;have hn0:((n:Int)==0)=false:=by simpa using h0
 clear ht
 by_cases hd:ofs t 4=0
 ·rw [hd] at HWd;clear hm hd h0;unfold Tab.val at *;go_enter Tryz.func82,Tryz.ntmps82;go_wp2_with (first|(go_at_call 54;refine Calls.mono (HC.out _) ?_;rintro e w1 ⟨rfl,hb⟩;have HS1:Hid (TabAt w1 w.heap.size t/\Below w.heap.size w w1):=⟨(tabAt_new w t 27).below hb (by simp),(by go_grown:Below w.heap.size w (w.alloc (.cells t.cells 27))).trans (hb.mono (by simp))⟩;clear hb;have k2:=HS1.out.1;have qu0:=k2.cu 0 (by decide);have qu1:=k2.cu 1 (by decide);have qu2:=k2.cu 2 (by decide);have qu3:=k2.cu 3 (by decide);have ql0:=k2.cl 0 (by decide);have ql1:=k2.cl 1 (by decide);have ql2:=k2.cl 2 (by decide);have ql3:=k2.cl 3 (by decide);have qb0:=k2.cb 0 (by decide);have qb1:=k2.cb 1 (by decide);have qb2:=k2.cb 2 (by decide);have qb3:=k2.cb 3 (by decide);have qd:=k2.cd;have qz:=k2.lt;clear k2)|(go_at_call 149;refine Calls.mono (HWd.out _) ?_;rintro e w2 ⟨rfl,hb⟩;have HS2:Hid (TabAt w2 w.heap.size t/\Below w.heap.size w w2):=⟨HS1.out.1.below hb HS1.out.1.lt,HS1.out.2.trans (hb.mono HS1.out.2.size)⟩;clear hb qu0 qu1 qu2 qu3 ql0 ql1 ql2 ql3 qb0 qb1 qb2 qb3 qd qz))
  go_ret2
  exact ⟨rfl,HS2.out.2⟩
 ·generalize ofs t 4=d at *;have h1:((d:Int)==0)=false:=by simp;omega
  have h3:(n:Int).tmod (d:Int)=((n%d:Nat):Int):=by rw [Int.tmod_eq_emod_of_nonneg (Int.natCast_nonneg n),Int.natCast_emod]
  have h5:¬ (d:Int)=0:=by omega
  generalize n%d=r at *;have h6:((r:Int) != 0)=true:=by simp;omega
  clear hm hd h0;unfold Tab.val at *;go_enter Tryz.func82,Tryz.ntmps82;go_wp2_with (first|(go_at_call 54;refine Calls.mono (HC.out _) ?_;rintro e w1 ⟨rfl,hb⟩;have HS1:Hid (TabAt w1 w.heap.size t/\Below w.heap.size w w1):=⟨(tabAt_new w t 27).below hb (by simp),(by go_grown:Below w.heap.size w (w.alloc (.cells t.cells 27))).trans (hb.mono (by simp))⟩;clear hb;have k2:=HS1.out.1;have qu0:=k2.cu 0 (by decide);have qu1:=k2.cu 1 (by decide);have qu2:=k2.cu 2 (by decide);have qu3:=k2.cu 3 (by decide);have ql0:=k2.cl 0 (by decide);have ql1:=k2.cl 1 (by decide);have ql2:=k2.cl 2 (by decide);have ql3:=k2.cl 3 (by decide);have qb0:=k2.cb 0 (by decide);have qb1:=k2.cb 1 (by decide);have qb2:=k2.cb 2 (by decide);have qb3:=k2.cb 3 (by decide);have qd:=k2.cd;have qz:=k2.lt;clear k2)|(go_at_call 149;refine Calls.mono (HWd.out _) ?_;rintro e w2 ⟨rfl,hb⟩;have HS2:Hid (TabAt w2 w.heap.size t/\Below w.heap.size w w2):=⟨HS1.out.1.below hb HS1.out.1.lt,HS1.out.2.trans (hb.mono HS1.out.2.size)⟩;clear hb qu0 qu1 qu2 qu3 ql0 ql1 ql2 ql3 qb0 qb1 qb2 qb3 qd qz))
  go_ret2
  exact ⟨rfl,HS2.out.2⟩
theorem rdec_long (ao:Option Addr) (n cap:Nat) (t:Tab) (w:World) (ht:t.ok=true) (hn:n<=17592186044416) (h0:n≠0) (hm:n%ofs t 4=0) (hl:65536<n / ofs t 4) :
  Calls Tryz.prog 82 #[.slice ao n cap,t.val] w fun e w'=>e=.returned (.tuple #[.slice none 0 0,.int .i64 3])/\Below w.heap.size w w':=by
 have HC:Hid (∀ W,Calls Tryz.prog 54 #[t.val] W fun e w'=>e=.returned (.int .i64 0)/\Below W.heap.size W w'):=fun W=>by
  have:=Tb.refCheck_any t W
  rw [ck_good ht] at this;exact this
 have HWd:Hid (∀ W,Calls Tryz.prog 149 #[t.val] W fun e w'=>e=.returned (.int .i64 (ofs t 4:Int))/\Below W.heap.size W w'):=fun W=>rwidth_any t W ht;have hn0:((n:Int)==0)=false:=by simpa using h0
 clear ht;have hd:ofs t 4≠0:=fun e=>by rw [e,Nat.div_zero] at hl;omega
 generalize ofs t 4=d at *;have h1:((d:Int)==0)=false:=by simp;omega
 have h2:(n:Int).tdiv (d:Int)=((n / d:Nat):Int):=by simp
 have h3:(n:Int).tmod (d:Int)=0:=by rw [Int.tmod_eq_emod_of_nonneg (Int.natCast_nonneg n)];omega
 have h5:¬ (d:Int)=0:=by omega
 have h4:n / d<=17592186044416:=Nat.le_trans (Nat.div_le_self _ _) hn;generalize n / d=q at *;have h7:(65536:Int)<(q:Int):=by omega
 clear hm hd h0 hl;unfold Tab.val at *;go_enter Tryz.func82,Tryz.ntmps82;go_wp2_with (first|(go_at_call 54;refine Calls.mono (HC.out _) ?_;rintro e w1 ⟨rfl,hb⟩;have HS1:Hid (TabAt w1 w.heap.size t/\Below w.heap.size w w1):=⟨(tabAt_new w t 27).below hb (by simp),(by go_grown:Below w.heap.size w (w.alloc (.cells t.cells 27))).trans (hb.mono (by simp))⟩;clear hb;have k2:=HS1.out.1;have qu0:=k2.cu 0 (by decide);have qu1:=k2.cu 1 (by decide);have qu2:=k2.cu 2 (by decide);have qu3:=k2.cu 3 (by decide);have ql0:=k2.cl 0 (by decide);have ql1:=k2.cl 1 (by decide);have ql2:=k2.cl 2 (by decide);have ql3:=k2.cl 3 (by decide);have qb0:=k2.cb 0 (by decide);have qb1:=k2.cb 1 (by decide);have qb2:=k2.cb 2 (by decide);have qb3:=k2.cb 3 (by decide);have qd:=k2.cd;have qz:=k2.lt;clear k2)|(go_at_call 149;refine Calls.mono (HWd.out _) ?_;rintro e w2 ⟨rfl,hb⟩;have HS2:Hid (TabAt w2 w.heap.size t/\Below w.heap.size w w2):=⟨HS1.out.1.below hb HS1.out.1.lt,HS1.out.2.trans (hb.mono HS1.out.2.size)⟩;clear hb qu0 qu1 qu2 qu3 ql0 ql1 ql2 ql3 qb0 qb1 qb2 qb3 qd qz))
 go_ret2
 exact ⟨rfl,HS2.out.2⟩
end Go.Proofs.YtpdaknbmcpmhjaaGreatDoor.Bu
