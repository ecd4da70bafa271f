/- Parts Zv Zf Zi Zj Zy. -/
import Derived.Test.YtiejdpjgplikjaaGreatDoorN17
import Derived.Test.YtiejdpjgplikjaaGreatDoorN20
import Derived.Test.YtiejdpjgplikjaaGreatDoorN18
import Derived.Test.YtiejdpjgplikjaaGreatDoorN07
set_option maxRecDepth 20000
set_option maxHeartbeats 4000000
namespace Go.Proofs.YtiejdpjgplikjaaGreatDoor.Bn
open YtiejdpjgplikjaaGreatDoor.Dp (Ed)
def Wk (F:Mat) (j:Nat):Nat->List Nat->Int->Prop
 | i,[],x=>F i j≠(-9223372036854775808)/\x=F i j
 | i,v::l,x=>F i v≠(-9223372036854775808)/\∃ y,Wk F j v l y/\x=F i v+y
theorem Wk.cat {F:Mat} {v j:Nat} {l2:List Nat} {y:Int} (h2:Wk F j v l2 y):∀ {i:Nat} {l1:List Nat} {x:Int},Wk F v i l1 x->Wk F j i (l1++v::l2) (x+y)
 | i,[],x,h=>⟨h.1,y,h2,by rw [h.2]⟩
 | i,a::l,x,⟨h,z,h1,e⟩=>⟨h,z+y,Wk.cat h2 h1,by rw [e];omega⟩
theorem Wk.split {F:Mat} {v j:Nat} : ∀ {i:Nat} {l:List Nat} {x:Int},Wk F j i l x->v∈l->∃ l1 l2 x1 x2,Wk F v i l1 x1/\Wk F j v l2 x2/\x=x1+x2/\(∀ a,a∈l1->a∈l)/\(∀ a,a∈l2->a∈l)
 | i,[],x,_,h=>by cases h
 | i,a::l,x,⟨h0,y,h1,e⟩,h=>by
  rcases List.mem_cons.1 h with rfl|h
  ·exact ⟨[],l,F i v,y,⟨h0,rfl⟩,h1,e,fun a ha=>(by cases ha),fun a ha=>List.mem_cons_of_mem _ ha⟩
  ·obtain ⟨l1,l2,x1,x2,g1,g2,g3,g4,g5⟩:=Wk.split h1 h;refine ⟨a::l1,l2,F i a+x1,x2,⟨h0,x1,g1,rfl⟩,g2,by omega,fun b hb=>?_,fun b hb=>List.mem_cons_of_mem _ (g5 b hb)⟩;rcases List.mem_cons.1 hb with rfl|hb
   ·exact List.mem_cons_self ..
   ·exact List.mem_cons_of_mem _ (g4 b hb)
theorem Wk.le {F:Mat} {j:Nat} (hs:Sm 512 F):∀ {i:Nat} {l:List Nat} {x:Int},Wk F j i l x→-512*((l.length:Int)+1)<=x/\x<=512*((l.length:Int)+1)
 | i,[],x,h=>by
  have:=hs i j
  have h2:=h.2;have h1:=h.1;simp only [List.length_nil];omega
 | i,a::l,x,⟨h0,y,h1,e⟩=>by
  have:=hs i a
  have ih:=Wk.le hs h1;simp only [List.length_cons];omega
theorem Wk.dom {F G:Mat} {j k:Nat} (hs:Sm 512 F) (hg:∀ a b,F a b<=G a b) (ht:∀ o,o<k->Tri G o):∀ {i:Nat} {l:List Nat} {x:Int},Wk F j i l x->(∀ a,a∈l->a<k)->G i j≠(-9223372036854775808)/\x<=G i j
 | i,[],x,h,_=>by
  have:=hs i j
  have h2:=h.2;have h1:=h.1;have h3:=hg i j;omega
 | i,a::l,x,⟨h0,y,h1,e⟩,hl=>by
  have:=hs i a
  have h3:=hg i a;obtain ⟨g1,g2⟩:=Wk.dom hs hg ht h1 fun b hb=>hl b (List.mem_cons_of_mem _ hb)
  have:=ht a (hl a (List.mem_cons_self ..)) i j (by omega) g1
  omega
theorem nodup_le:∀ (k:Nat) (l:List Nat),l.Nodup->(∀ a,a∈l->a<k)->l.length<=k
 | 0,l,_,h=>by
  rcases l with _|⟨a,l⟩
  ·exact Nat.le_refl _
  ·exact absurd (h a (List.mem_cons_self ..)) (by omega)
 | k+1,l,hn,h=>by
  have ih:=nodup_le k (l.erase k) (hn.erase k) fun a ha=>by
   have h1:=h a (List.mem_of_mem_erase ha);have h2:a≠k:=((hn.mem_erase_iff).1 ha).1;omega
  have:=List.length_erase (a:=k) (l:=l)
  split at this <;> omega
def Smp (F:Mat) (k:Nat):Prop:=∀ i j,fw F k i j=(-9223372036854775808)\/∃ l:List Nat,l.Nodup/\(∀ a,a∈l->a<k)/\Wk F j i l (fw F k i j)
theorem Smp.sm {F:Mat} {k:Nat} (hs:Sm 512 F) (h:Smp F k) (hk:k<=64):Sm 33280 (fw F k):=fun i j=>by
 rcases h i j with h|⟨l,h1,h2,h3⟩
 ·exact .inl h
 ·have h4:=h3.le hs;have h5:=nodup_le k l h1 h2
  right
  omega
theorem smp_all {F:Mat} (hs:Sm 512 F):∀ k,k<=64->(∀ j,j<k->fw F j j j<=0)->(∀ m,m<=k->Sm 33280 (fw F m))/\Smp F k
 | 0,_,_=>⟨fun m hm=>by
   obtain rfl:m=0:=by omega
   intro i j
   have:=hs i j
   show F i j=_\/_;show F i j=_∨-33280<=F i j/\F i j<=33280
   omega,fun i j=>by
   by_cases e:fw F 0 i j=(-9223372036854775808)
   ·exact .inl e
   ·exact .inr ⟨[],List.nodup_nil,fun a ha=>(by cases ha),e,rfl⟩⟩
 | k+1,hk,hd=>by
  obtain ⟨hm,ih⟩:=smp_all hs k (by omega) fun j hj=>hd j (by omega);have hkk:=hd k (by omega);have ht:∀ o,o<k->Tri (fw F k) o:=fw_tri (by omega) hm fun j hj=>hd j (by omega);have hg:∀ a b,F a b<=fw F k a b:=fun a b=>fw_ge F a b k;have key:Smp F (k+1):=fun i j=>by
   have up:(∃ l:List Nat,l.Nodup/\(∀ a,a∈l->a<k)/\Wk F j i l (fw F k i j))->∃ l:List Nat,l.Nodup/\(∀ a,a∈l->a<k+1)/\Wk F j i l (fw F k i j):=fun ⟨l,h1,h2,h3⟩=>⟨l,h1,fun a ha=>by have:=h2 a ha;omega,h3⟩;show gOv (fw F k) k i j=_\/∃ l:List Nat,l.Nodup/\(∀ a,a∈l->a<k+1)/\Wk F j i l (gOv (fw F k) k i j)
   by_cases c:fw F k i k=(-9223372036854775808)\/fw F k k j=(-9223372036854775808)
   ·rw [gOv_no c];exact (ih i j).imp id up
   ·rw [gOv_yes c];have c1:fw F k i k≠(-9223372036854775808):=fun e=>c (.inl e);have c2:fw F k k j≠(-9223372036854775808):=fun e=>c (.inr e)
    by_cases c3:fw F k i j≠(-9223372036854775808)/\fw F k i k+fw F k k j<=fw F k i j
    ·rw [Int.max_eq_left c3.2];exact (ih i j).imp id up
    ·have s1:=hm k (Nat.le_refl _) i j;have s2:=hm k (Nat.le_refl _) i k;have s3:=hm k (Nat.le_refl _) k j;rw [Int.max_eq_right (by omega)];obtain ⟨l1,n1,b1,w1⟩:=(ih i k).resolve_left c1;obtain ⟨l2,n2,b2,w2⟩:=(ih k j).resolve_left c2;refine .inr ⟨l1++k::l2,?_,fun a ha=>?_,w2.cat w1⟩
     ·have hne:∀ a,a∈l1->∀ b,b∈k::l2->a≠b:=fun a ha b hb e=>by
       subst e;rcases List.mem_cons.1 hb with e|hb
       ·have:=b1 a ha;omega
       ·obtain ⟨p1,p2,x1,x2,g1,g2,g3,g4,g5⟩:=w1.split ha;obtain ⟨q1,q2,y1,y2,f1,f2,f3,f4,f5⟩:=w2.split hb;have d1:=g1.dom hs hg ht fun z hz=>b1 z (g4 z hz);have d2:=g2.dom hs hg ht fun z hz=>b1 z (g5 z hz);have d3:=f1.dom hs hg ht fun z hz=>b2 z (f4 z hz);have d4:=f2.dom hs hg ht fun z hz=>b2 z (f5 z hz);have t1:=ht a (b1 a ha) i j d1.1 d4.1;have t2:=ht a (b1 a ha) k k d3.1 d2.1;exact c3 ⟨t1.1,by omega⟩
      exact List.nodup_append.2 ⟨n1,List.nodup_cons.2 ⟨fun h=>by have:=b2 k h;omega,n2⟩,hne⟩
     ·rcases List.mem_append.1 ha with ha|ha
      ·have:=b1 a ha;omega
      ·rcases List.mem_cons.1 ha with rfl|ha
       ·omega
       ·have:=b2 a ha;omega
  refine ⟨fun m h=>?_,key⟩
  by_cases e:m=k+1
  ·subst e;exact key.sm hs hk
  ·exact hm m (by omega)
theorem fw_small {n:Nat} {es:List Ed} (he:EL n es) (hn:n<=64) {q:Int} (h0:0<=q) (h1:q<=512) {k:Nat} (hk:k<=n) (hd:∀ j,j<k->fw (stp q es) j j j<=0):Sm 33280 (fw (stp q es) k):=
 (smp_all (stp_sm he h0 h1) k (by omega) hd).1 k (Nat.le_refl _)
theorem pot_inT64 {n:Nat} {es:List Ed} (he:EL n es) (hn:n<=64) {q:Int} (h0:0<=q) (h1:q<=512) (h:inT (stp q es) n=true):Pot es q:=by
 have hd:=inT_all h;have hs:=(smp_all (stp_sm he h0 h1) n hn hd).1;have ht:=fw_tri (by omega) hs hd;have hg:∀ e∈es,wt q e<=fw (stp q es) n e.f.toNat e.t.toNat:=fun e hm=>Int.le_trans (foldl_mem q es _ e hm) (fw_ge ..);generalize fw (stp q es) n=F at *;refine ⟨fun j=>mxF F j n,fun e hm=>?_⟩;have e1:=he e hm;have f0:=e1.f0;have fn:=e1.fn;have g1:=hg e hm;have g2:=wt_in e1 h0 h1;have hf:e.f.toNat<n:=by omega
 have h2:=mxF_ge F e.t.toNat hf;have nw:F e.f.toNat e.t.toNat≠(-9223372036854775808):=by omega
 show mxF F e.f.toNat n+wt q e<=mxF F e.t.toNat n;rcases mxF_ex F e.f.toNat n with h3|⟨i,hi,h3⟩
 ·omega
 ·have h4:=mxF_ge F e.t.toNat hi;have h5:=mxF_0 F e.f.toNat n;have t:=ht _ hf i e.t.toNat (by omega) nw;omega
theorem inT_iff64 {n:Nat} {es:List Ed} (he:EL n es) (hn:n<=64) {q:Int} (h0:0<=q) (h1:q<=512):inT (stp q es) n=true↔Pot es q:=⟨pot_inT64 he hn h0 h1,inT_pot⟩
end Go.Proofs.YtiejdpjgplikjaaGreatDoor.Bn
namespace Go.Proofs.YtiejdpjgplikjaaGreatDoor.Bn
open Go.ChangeShapes Go.WideShapes Go.ChangeAt Go.RowKit
open YtiejdpjgplikjaaGreatDoor.Op YtiejdpjgplikjaaGreatDoor.So
open YtiejdpjgplikjaaGreatDoor.Dp (Ed)
structure Srch (P:Int->Bool):Prop where
 top:P 512=true
 up:∀ q p,1<=q->q<=p->p<=512->P q=true->P p=true
theorem leastOf_any (P:Int->Bool) (hP:Srch P) (x y:Value) (w:World) (hC:∀ W (q:Int),Below w.heap.size w W->1<=q->q<=512->Calls Tryz.prog 60 #[.int .i64 q,x,y] W fun e w'=>e=.returned (.bool (P q))/\Below W.heap.size W w') :
  Calls Tryz.prog 59 #[.int .i64 1,.int .i64 512,.func (.func 60) #[] #[x,y]] w fun e w'=>e=.returned (.int .i64 (rnd P))/\Below w.heap.size w w':=by
 have HC:Hid (∀ W (q:Int),Below w.heap.size w W->1<=q->q<=512->Calls Tryz.prog 60 #[.int .i64 q,x,y] W fun e w'=>e=.returned (.bool (P q))/\Below W.heap.size W w'):=hC;have HP:Hid (Srch P):=hP;clear hC hP;go_enter Tryz.func59,Tryz.ntmps59;go_wp2_with fail
 go_loopw [0,1] (fun u v wr=>∃ l h:Int,1<=l/\l<=h/\h<=512/\u=.int .i64 l/\v=.int .i64 h/\P h=true/\(∀ m,1<=m->m<l->P m=false)/\Below w.heap.size w wr) (fun u v _=>(intOf v-intOf u).toNat)
 case atStart=>exact ⟨1,512,by omega,by omega,by omega,rfl,rfl,HP.out.top,fun m h1 h2=>by omega,Below.refl _ _⟩
 case round=>
  rename World=>wr;obtain ⟨l,h,h1,h2,h3,rfl,rfl,h4,h5,h6⟩:=hrel;have HI:Hid (P h=true/\(∀ m,1<=m->m<l->P m=false)/\Below w.heap.size w wr):=⟨h4,h5,h6⟩;clear h4 h5 h6
  by_cases hlt:l<h
  ·obtain ⟨m,hm⟩:∃ m,l+(h-l) / 2=m:=⟨_,rfl⟩;have m1:l<=m:=by omega
   have m2:m<h:=by omega
   have ht:(h-l).tdiv 2=(h-l) / 2:=Int.tdiv_eq_ediv_of_nonneg (by omega);have HCm:Hid (Calls Tryz.prog 60 #[.int .i64 m,x,y] wr fun e w'=>e=.returned (.bool (P m))/\Below wr.heap.size wr w'):=HC.out wr m HI.out.2.2 (by omega) (by omega)
   cases hPm:P m
   ·have HL:Hid (∀ k,1<=k->k<m+1->P k=false):=fun k k1 k2=>by
     cases e:P k
     ·rfl
     ·rw [HP.out.up k m k1 (by omega) (by omega) e] at hPm;cases hPm
    rw [hPm] at HCm;clear hPm;go_wp2_with (first
     | (rw [ht,hm];go_at_call 60;refine Calls.mono HCm.out ?_;rintro e w1 ⟨rfl,hb⟩;have HB:Hid (Below w.heap.size w w1):=HI.out.2.2.trans (hb.mono HI.out.2.2.size);clear hb HCm)
     | (go_at_call 60;refine Calls.mono HCm.out ?_;rintro e w1 ⟨rfl,hb⟩;have HB:Hid (Below w.heap.size w w1):=HI.out.2.2.trans (hb.mono HI.out.2.2.size);clear hb HCm))
    go_roundw
    case rel=>exact ⟨m+1,h,by omega,by omega,by omega,rfl,rfl,HI.out.1,HL.out,HB.out⟩
    case measure=>simp [intOf];omega
   ·have HT:Hid (P m=true):=hPm;rw [hPm] at HCm;clear hPm;go_wp2_with (first
     | (rw [ht,hm];go_at_call 60;refine Calls.mono HCm.out ?_;rintro e w1 ⟨rfl,hb⟩;have HB:Hid (Below w.heap.size w w1):=HI.out.2.2.trans (hb.mono HI.out.2.2.size);clear hb HCm)
     | (go_at_call 60;refine Calls.mono HCm.out ?_;rintro e w1 ⟨rfl,hb⟩;have HB:Hid (Below w.heap.size w w1):=HI.out.2.2.trans (hb.mono HI.out.2.2.size);clear hb HCm))
    go_roundw
    case rel=>exact ⟨l,m,by omega,by omega,by omega,rfl,rfl,HT.out,HI.out.2.1,HB.out⟩
    case measure=>simp [intOf];omega
  ·obtain rfl:l=h:=by omega
   have hlt':¬ l<l:=by omega
   have HR:Hid (l=rnd P):=rnd_uniq HP.out.top HI.out.1 h1 HI.out.2.1;go_wp2_with fail
   go_ret
   exact ⟨by rw [<- HR.out];rfl,HI.out.2.2⟩
theorem clo_any (n:Nat) (a:Option Addr) (c N b1 b2:Nat) (q:Int) (P:Bool) (w:World) (h1:w.cell? ⟨b1,0,none⟩=some (.int .i64 n)) (h2:w.cell? ⟨b2,0,none⟩=some (.slice a N c)) (hC:Calls Tryz.prog 61 #[.int .i64 n,.slice a N c,.int .i64 q] w fun e w'=>e=.returned (.bool P)/\Below w.heap.size w w') :
  Calls Tryz.prog 60 #[.int .i64 q,.pointer (some ⟨b1,0,none⟩),.pointer (some ⟨b2,0,none⟩)] w fun e w'=>e=.returned (.bool P)/\Below w.heap.size w w':=by
 have HC:Hid (Calls Tryz.prog 61 #[.int .i64 n,.slice a N c,.int .i64 q] w fun e w'=>e=.returned (.bool P)/\Below w.heap.size w w'):=hC;clear hC;go_enter Tryz.func60,Tryz.ntmps60;go_wp2_with (first
  | (go_at_call 61;refine Calls.mono HC.out ?_;rintro e w1 ⟨rfl,hb⟩;have HB:Hid (Below w.heap.size w w1):=hb;clear hb HC))
 go_ret
 exact ⟨rfl,HB.out⟩
def rndE (n:Nat) (es:List Ed):Int:=rnd fun q=>inT (stp q es) n
theorem srch_of {n:Nat} {es:List Ed} (hE:EL n es) (hn:n<=64):Srch fun q=>inT (stp q es) n:=
 ⟨(inT_iff64 hE hn (by omega) (by omega)).2 (pot_big hE (by omega) (by omega)),fun q p h1 h2 h3 h=>(inT_iff64 hE hn (by omega) h3).2 (pot_mono hE h2 ((inT_iff64 hE hn (by omega) (by omega)).1 h))⟩
theorem fit_of {n:Nat} {es:List Ed} (hE:EL n es) (hn:n<=64) {q:Int} (h0:0<=q) (h1:q<=512):Fit n (stp q es):=fun k hk hd i j=>by
 have:=fw_small hE hn h0 h1 (k:=k) (by omega) hd i j
 omega
theorem byRounds_any (n:Nat) (hn:n<=64) (a:Option Addr) (c N:Nat) (es:List Ed) (hN:es.length=N) (w:World) (he:Es w a es) (hE:EL n es) (hl:N<=100000000) (hP:Srch fun q=>inT (stp q es) n) (hF:∀ q:Int,0<=q->q<=512->Fit n (stp q es)) :
  Calls Tryz.prog 25 #[.int .i64 n,.slice a N c] w fun e w'=>e=.returned (.int .i64 (rndE n es))/\Below w.heap.size w w':=by
 have HL:Hid (∀ W,Below (w.heap.size+1+1) ((w.alloc (.cells #[.int .i64 n] 3)).alloc (.cells #[.slice a N c] 38)) W->Calls Tryz.prog 59 #[.int .i64 1,.int .i64 512,.func (.func 60) #[] #[.pointer (some ⟨w.heap.size,0,none⟩),.pointer (some ⟨w.heap.size+1,0,none⟩)]] W fun e w'=>e=.returned (.int .i64 (rndE n es))/\Below W.heap.size W w'):=fun W hb=>by
  have hz:=hb.size;simp at hz
  have a1:=((At.new w #[.int .i64 n] 3).alloc (.cells #[.slice a N c] 38)).below hb (by omega);have a2:=At.new (w.alloc (.cells #[.int .i64 n] 3)) #[.slice a N c] 38;rw [show (w.alloc (.cells #[.int .i64 n] 3)).heap.size=w.heap.size+1 by simp] at a2;have a2:=a2.below hb (by omega);have hw:Below w.heap.size w W:=Below.trans (by go_grown) (hb.mono (by omega));refine leastOf_any _ hP _ _ W fun X q hX h1 h2=>?_;refine clo_any n a c N _ _ q _ X ((a1.below hX a1.lt).c 0 _ rfl) ((a2.below hX a2.lt).c 0 _ rfl) ?_;exact inTime_any n hn a c N es hN q X ((he.up hw).up hX) hE (by omega) h2 hl (hF q (by omega) h2)
 clear he hE hl hP hF;generalize rndE n es=r at *;go_enter Tryz.func25,Tryz.ntmps25;go_wp2_with (first
  | (go_at_call 59;refine Calls.mono (HL.out _ (Below.refl _ _)) ?_;rintro e w1 ⟨rfl,hb⟩;have HB:Hid (Below w.heap.size w w1):=Below.trans (by go_grown) (hb.mono (by simp;omega));clear hb HL))
 go_ret
 exact ⟨rfl,HB.out⟩
end Go.Proofs.YtiejdpjgplikjaaGreatDoor.Bn
namespace Go.Proofs.YtiejdpjgplikjaaGreatDoor.Bn
open Go.ChangeShapes Go.WideShapes Go.ChangeAt Go.RowKit
open YtiejdpjgplikjaaGreatDoor.Op YtiejdpjgplikjaaGreatDoor.So
open YtiejdpjgplikjaaGreatDoor.Dp (Ed lisE okL loopE EdOut EOwn erE loop_any lis_all pts_ok okL_okO ptsL ptsL_len eOwn_at)
open YtiejdpjgplikjaaGreatDoor.Tb (Tab TabAt Bnds ckR)
def rgE (t:Tab) (xs:List O):Int:=if t.ok=false then 20 else if 64<xs.length then 3 else if xs.all okL=false then 30 else if huB t (cts xs) 4=false then 21 else 0
theorem rg_ok {t:Tab} {xs:List O} (h:rgE t xs=0):t.ok=true/\xs.length<=64/\lisE t xs=0/\huB t (cts xs) 4=true:=by
 unfold rgE at h
 split at h
 ·cases h
 ·split at h
  ·cases h
  ·split at h
   ·cases h
   ·split at h
    ·cases h
    ·rename_i h1 h2 h3 h4;have h1:t.ok=true:=by simpa using h1
     have h3:xs.all okL=true:=by simpa using h3
     refine ⟨h1,by omega,?_,by simpa using h4⟩;unfold lisE;rw [if_neg (by rw [h1];decide),if_neg (by omega),if_pos h3]
abbrev Bx (w W:World) (t:Tab):Prop:=Tq w W t
theorem ringOf_no (ao:Option Addr) (cap:Nat) (xs:List O) (t:Tab) (w:World) (h:OpsAt w ao xs) (hcap:xs.length<=cap) (hG:Bnds w) (he:¬ rgE t xs=0) :
  Calls Tryz.prog 23 #[.slice ao xs.length cap,t.val] w fun e w'=>e=.returned (.tuple #[.slice none 0 0,.int .i64 (rgE t xs)])/\Below w.heap.size w w':=by
 have HC:Hid (∀ W,Below w.heap.size w W->Calls Tryz.prog 55 #[t.val] W fun e w'=>e=.returned (.int .i64 (ckR t))/\Below W.heap.size W w'):=fun W hb=>Tb.check_any t W (hG.below hb hG.big);have HL:Hid (∀ W,Below w.heap.size w W->Calls Tryz.prog 12 #[.slice ao xs.length cap,t.val] W (EdOut W (lisE t xs) (erE t xs (loopE t xs)))):=fun W hb=>loop_any ao cap xs t W (h.below hb) hcap (hG.below hb hG.big);have HU:Hid (∀ W,Below w.heap.size w W->Calls Tryz.prog 56 #[.slice ao xs.length cap,t.val] W fun e w'=>e=.returned (.bool (huB t (cts xs) 4))/\Below W.heap.size W w'):=fun W hb=>haveUnits_any ao cap xs t W (h.below hb);have hlen:=h.len;clear h hcap hG;unfold EdOut at HL
 cases h1:t.ok
 ·have hr:rgE t xs=20:=by unfold rgE;rw [if_pos h1]
  have hk:ckR t=20:=by unfold ckR;rw [h1];rfl
  rw [hr];rw [hk] at HC;clear hr hk he h1 HL HU;unfold Tab.val at *;go_enter Tryz.func23,Tryz.ntmps23;go_wp2_with (first
   | (go_at_call 55;refine Calls.mono (HC.out _ (by go_grown)) ?_;rintro e w1 ⟨rfl,hb⟩;have HT:Hid (Tq w w1 t):=Tq.start w t hb;clear hb HC))
  go_ret2
  exact ⟨rfl,HT.out.up⟩
 ·have hk:ckR t=0:=by unfold ckR;rw [h1];rfl
  rw [hk] at HC;clear hk
  by_cases h2:64<xs.length
  ·have hr:rgE t xs=3:=by unfold rgE;rw [if_neg (by rw [h1];decide),if_pos h2]
   have h2':(64:Int)<(xs.length:Int):=by omega
   rw [hr];clear hr he h1 h2 HL HU;unfold Tab.val at *;go_enter Tryz.func23,Tryz.ntmps23;go_wp2_with (first
    | (go_at_call 55;refine Calls.mono (HC.out _ (by go_grown)) ?_;rintro e w1 ⟨rfl,hb⟩;have HT:Hid (Tq w w1 t):=Tq.start w t hb;clear hb HC))
   go_ret2
   exact ⟨rfl,HT.out.up⟩
  ·have h2':¬ (64:Int)<(xs.length:Int):=by omega
   cases h3:xs.all okL
   ·have hr:rgE t xs=30:=by unfold rgE;rw [if_neg (by rw [h1];decide),if_neg h2,if_pos h3]
    have hl:lisE t xs=30:=by unfold lisE;rw [if_neg (by rw [h1];decide),if_neg (by omega),if_neg (by rw [h3];decide)]
    rw [hr];rw [hl] at HL;clear hr hl he h1 h2 h3 HU;generalize erE t xs (loopE t xs)=es at *;unfold Tab.val at *;go_enter Tryz.func23,Tryz.ntmps23;go_wp2_with (first
     | (go_at_call 55;refine Calls.mono (HC.out _ (by go_grown)) ?_;rintro e w1 ⟨rfl,hb⟩;have HT:Hid (Tq w w1 t):=Tq.start w t hb;clear hb HC;have s1:=HT.out.t;have tu0:=s1.cu 0 (by decide);have tu1:=s1.cu 1 (by decide);have tu2:=s1.cu 2 (by decide);have tu3:=s1.cu 3 (by decide);have tl0:=s1.cl 0 (by decide);have tl1:=s1.cl 1 (by decide);have tl2:=s1.cl 2 (by decide);have tl3:=s1.cl 3 (by decide);have tb0:=s1.cb 0 (by decide);have tb1:=s1.cb 1 (by decide);have tb2:=s1.cb 2 (by decide);have tb3:=s1.cb 3 (by decide);have td:=s1.cd;have tz:=s1.lt;clear s1)
     | (go_at_call 12;refine Calls.mono (HL.out _ HT.out.up) ?_;rintro e w2 ⟨ea,ec,rfl,ho,hb⟩;have HT2:Hid (Tq w w2 t):=HT.out.next hb;clear hb ho HL HT;clear tu0 tu1 tu2 tu3 tl0 tl1 tl2 tl3 tb0 tb1 tb2 tb3 td tz))
    go_ret2
    exact ⟨rfl,HT2.out.up⟩
   ·have hl:lisE t xs=0:=by unfold lisE;rw [if_neg (by rw [h1];decide),if_neg (by omega),if_pos h3]
    have hu:huB t (cts xs) 4=false:=by
     cases e:huB t (cts xs) 4
     ·rfl
     ·exact absurd (by unfold rgE;rw [if_neg (by rw [h1];decide),if_neg h2,if_neg (by rw [h3];decide),if_neg (by rw [e];decide)]) he
    have hr:rgE t xs=21:=by unfold rgE;rw [if_neg (by rw [h1];decide),if_neg h2,if_neg (by rw [h3];decide),if_pos hu]
    rw [hr];rw [hl] at HL;rw [hu] at HU;clear hr hl he h1 h2 h3 hu;generalize erE t xs (loopE t xs)=es at *;unfold Tab.val at *;go_enter Tryz.func23,Tryz.ntmps23;go_wp2_with (first
     | (go_at_call 55;refine Calls.mono (HC.out _ (by go_grown)) ?_;rintro e w1 ⟨rfl,hb⟩;have HT:Hid (Tq w w1 t):=Tq.start w t hb;clear hb HC;have s1:=HT.out.t;have tu0:=s1.cu 0 (by decide);have tu1:=s1.cu 1 (by decide);have tu2:=s1.cu 2 (by decide);have tu3:=s1.cu 3 (by decide);have tl0:=s1.cl 0 (by decide);have tl1:=s1.cl 1 (by decide);have tl2:=s1.cl 2 (by decide);have tl3:=s1.cl 3 (by decide);have tb0:=s1.cb 0 (by decide);have tb1:=s1.cb 1 (by decide);have tb2:=s1.cb 2 (by decide);have tb3:=s1.cb 3 (by decide);have td:=s1.cd;have tz:=s1.lt;clear s1)
     | (go_at_call 12;refine Calls.mono (HL.out _ HT.out.up) ?_;rintro e w2 ⟨ea,ec,rfl,ho,hb⟩;have HT2:Hid (Tq w w2 t):=HT.out.next hb;clear hb ho HL HT;clear tu0 tu1 tu2 tu3 tl0 tl1 tl2 tl3 tb0 tb1 tb2 tb3 td tz;have s1:=HT2.out.t;have tu0:=s1.cu 0 (by decide);have tu1:=s1.cu 1 (by decide);have tu2:=s1.cu 2 (by decide);have tu3:=s1.cu 3 (by decide);have tl0:=s1.cl 0 (by decide);have tl1:=s1.cl 1 (by decide);have tl2:=s1.cl 2 (by decide);have tl3:=s1.cl 3 (by decide);have tb0:=s1.cb 0 (by decide);have tb1:=s1.cb 1 (by decide);have tb2:=s1.cb 2 (by decide);have tb3:=s1.cb 3 (by decide);have td:=s1.cd;have tz:=s1.lt;clear s1)
     | (go_at_call 56;refine Calls.mono (HU.out _ HT2.out.up) ?_;rintro e w3 ⟨rfl,hb⟩;have HT3:Hid (Tq w w3 t):=HT2.out.next hb;clear hb HU HT2;clear tu0 tu1 tu2 tu3 tl0 tl1 tl2 tl3 tb0 tb1 tb2 tb3 td tz))
    go_ret2
    exact ⟨rfl,HT3.out.up⟩
theorem rowB {W:World} {B B' c:Nat} {a:Option Addr} {es:List Ed} (h:EOwn B W a c es) (hB:B'<=B):EOwn B' W a c es:=by
 obtain ⟨h1,h2⟩:=h;rcases h2 with h0|⟨g,cap,cur,e1,e2,e3⟩
 ·exact ⟨h1,.inl h0⟩
 ·exact ⟨h1,.inr ⟨g,cap,cur,e1,by omega,e3⟩⟩
theorem ringOf_ok (ao:Option Addr) (cap:Nat) (xs:List O) (t:Tab) (w:World) (h:OpsAt w ao xs) (hcap:xs.length<=cap) (hG:Bnds w) (he:rgE t xs=0) :
  Calls Tryz.prog 23 #[.slice ao xs.length cap,t.val] w (EdOut w 0 (loopE t xs)):=by
 obtain ⟨h1,h2,h3,h4⟩:=rg_ok he;have HC:Hid (∀ W,Below w.heap.size w W->Calls Tryz.prog 55 #[t.val] W fun e w'=>e=.returned (.int .i64 0)/\Below W.heap.size W w'):=fun W hb=>by
  have:=Tb.check_any t W (hG.below hb hG.big)
  rw [show ckR t=0 by unfold ckR;rw [h1];rfl] at this;exact this
 have HL:Hid (∀ W,Below w.heap.size w W->Calls Tryz.prog 12 #[.slice ao xs.length cap,t.val] W (EdOut W 0 (loopE t xs))):=fun W hb=>by
  have:=loop_any ao cap xs t W (h.below hb) hcap (hG.below hb hG.big)
  unfold erE at this;rw [if_pos h3,h3] at this;exact this
 have HU:Hid (∀ W,Below w.heap.size w W->Calls Tryz.prog 56 #[.slice ao xs.length cap,t.val] W fun e w'=>e=.returned (.bool true)/\Below W.heap.size W w'):=fun W hb=>by
  have:=haveUnits_any ao cap xs t W (h.below hb)
  rw [h4] at this;exact this
 have hlen:=h.len;have h2':¬ (64:Int)<(xs.length:Int):=by omega
 clear h hcap hG he h1 h2 h3 h4;unfold EdOut at HL ⊢;generalize loopE t xs=es at *;unfold Tab.val at *;go_enter Tryz.func23,Tryz.ntmps23;go_wp2_with (first
  | (go_at_call 55;refine Calls.mono (HC.out _ (by go_grown)) ?_;rintro e w1 ⟨rfl,hb⟩;have HT:Hid (Tq w w1 t):=Tq.start w t hb;clear hb HC;have s1:=HT.out.t;have tu0:=s1.cu 0 (by decide);have tu1:=s1.cu 1 (by decide);have tu2:=s1.cu 2 (by decide);have tu3:=s1.cu 3 (by decide);have tl0:=s1.cl 0 (by decide);have tl1:=s1.cl 1 (by decide);have tl2:=s1.cl 2 (by decide);have tl3:=s1.cl 3 (by decide);have tb0:=s1.cb 0 (by decide);have tb1:=s1.cb 1 (by decide);have tb2:=s1.cb 2 (by decide);have tb3:=s1.cb 3 (by decide);have td:=s1.cd;have tz:=s1.lt;clear s1)
  | (go_at_call 12;refine Calls.mono (HL.out _ HT.out.up) ?_;rintro e w2 ⟨ea,ec,rfl,ho,hb⟩;have HT2:Hid (Tq w w2 t/\EOwn w1.heap.size w2 ea ec es/\w.heap.size<=w1.heap.size):=⟨HT.out.next hb,ho,HT.out.up.size⟩;clear hb ho HL HT;clear tu0 tu1 tu2 tu3 tl0 tl1 tl2 tl3 tb0 tb1 tb2 tb3 td tz;have s1:=HT2.out.1.t;have tu0:=s1.cu 0 (by decide);have tu1:=s1.cu 1 (by decide);have tu2:=s1.cu 2 (by decide);have tu3:=s1.cu 3 (by decide);have tl0:=s1.cl 0 (by decide);have tl1:=s1.cl 1 (by decide);have tl2:=s1.cl 2 (by decide);have tl3:=s1.cl 3 (by decide);have tb0:=s1.cb 0 (by decide);have tb1:=s1.cb 1 (by decide);have tb2:=s1.cb 2 (by decide);have tb3:=s1.cb 3 (by decide);have td:=s1.cd;have tz:=s1.lt;clear s1)
  | (go_at_call 56;refine Calls.mono (HU.out _ HT2.out.1.up) ?_;rintro e w3 ⟨rfl,hb⟩;have HT3:Hid (Tq w w3 t/\EOwn w1.heap.size w3 ea ec es/\w.heap.size<=w1.heap.size):=⟨HT2.out.1.next hb,HT2.out.2.1.up hb,HT2.out.2.2⟩;clear hb HU HT2;clear tu0 tu1 tu2 tu3 tl0 tl1 tl2 tl3 tb0 tb1 tb2 tb3 td tz))
 go_ret2
 exact ⟨ea,ec,rfl,rowB HT3.out.2.1 HT3.out.2.2,HT3.out.1.up⟩
end Go.Proofs.YtiejdpjgplikjaaGreatDoor.Bn
namespace Go.Proofs.YtiejdpjgplikjaaGreatDoor.Bn
open Go.ChangeShapes Go.WideShapes Go.ChangeAt Go.RowKit
open YtiejdpjgplikjaaGreatDoor.Op YtiejdpjgplikjaaGreatDoor.So
open YtiejdpjgplikjaaGreatDoor.Dp (Ed Rw Pt PtsOk lisE okL loopE EdOut EOwn erE loop_any lis_all pts_ok okL_okO ptsL ptsL_len eOwn_at edL pairE pairE_mem rowW rowA withinE acrossE cat_mem withinE_len acrossE_len)
open YtiejdpjgplikjaaGreatDoor.Tb (Tab TabAt Bnds ckR)
theorem edL_d {e x:Ed} {rs:List Rw} (h:x∈edL e rs):x.d=e.d:=by
 unfold edL at h;obtain ⟨r,hr,hx⟩:=List.mem_flatMap.1 h
 split at hx
 ·rw [List.mem_singleton.1 hx]
 ·cases hx
theorem loopE_el {t:Tab} {xs:List O} (hp:PtsOk (ptsL t xs)):EL xs.length (loopE t xs):=fun x hx=>by
 have hl:=ptsL_len t xs;unfold loopE at hx;rcases List.mem_append.1 hx with hx|hx
 ·obtain ⟨j,hj,hx⟩:=cat_mem.1 hx;obtain ⟨i,hi,hx⟩:=cat_mem.1 hx;obtain ⟨h1,h2,h3,h4⟩:=pairE_mem hp (by omega) (by omega) hx;have hd:x.d=0:=edL_d hx;exact ⟨by omega,by omega,by omega,by omega,h3,h4,.inl ⟨hd,by omega⟩⟩
 ·obtain ⟨j,hj,hx⟩:=cat_mem.1 hx;obtain ⟨i,hi,hx⟩:=cat_mem.1 hx;obtain ⟨h1,h2,h3,h4⟩:=pairE_mem hp (by omega) (by omega) hx;have hd:x.d=1:=edL_d hx;exact ⟨by omega,by omega,by omega,by omega,h3,h4,.inr hd⟩
theorem loopE_len {t:Tab} {xs:List O} (hn:xs.length<=1024):(loopE t xs).length<=100000000:=by
 have hl:=ptsL_len t xs;have h1:=withinE_len xs (ptsL t xs) xs.length hn;have h2:=acrossE_len xs (ptsL t xs) xs.length (by omega);unfold loopE;rw [List.length_append];omega
theorem es_of {B c:Nat} {w:World} {a:Option Addr} {es:List Ed} (h:EOwn B w a c es):Es w a es:=by
 refine ⟨fun x hx=>?_,fun k hk=>?_⟩
 ·subst hx;have h0:w.ownsRow B 47 5 (.slice (some x) es.length c) es.length (Dp.ecells es):=h;exact (h0.lt x.block rfl).2
 ·obtain ⟨b,h1,h2,h3,h4⟩:=eOwn_at h hk;exact ⟨b,h1,h2,h4⟩
def Rdy (n:Nat) (es:List Ed):Prop:=Srch (fun q=>inT (stp q es) n)/\∀ q:Int,0<=q->q<=512->Fit n (stp q es)
theorem rdy_of {n:Nat} {es:List Ed} (hE:EL n es) (hn:n<=64):Rdy n es:=⟨srch_of hE hn,fun _ h0 h1=>fit_of hE hn h0 h1⟩
def unE (t:Tab) (xs:List O):Int:=if rgE t xs=0 then buI t (cts xs) 4 else 0
def leE (t:Tab) (xs:List O):Int:=if rgE t xs=0 then max (max (buI t (cts xs) 4) (rndE xs.length (loopE t xs))) (1+t.d) else 0
theorem loopE_ok {w:World} {ao:Option Addr} {t:Tab} {xs:List O} (h:OpsAt w ao xs) (he:rgE t xs=0):EL xs.length (loopE t xs):=by
 obtain ⟨h1,h2,h3,h4⟩:=rg_ok he;exact loopE_el (pts_ok t xs (fun o ho=>⟨h.ok o ho,okL_okO ((lis_all h3).2.2 o ho)⟩) h1)
theorem units_any (ao:Option Addr) (cap:Nat) (xs:List O) (t:Tab) (w:World) (h:OpsAt w ao xs) (hcap:xs.length<=cap) (hG:Bnds w) :
  Calls Tryz.prog 26 #[.slice ao xs.length cap,t.val] w fun e w'=>e=.returned (.tuple #[.int .i64 (unE t xs),.int .i64 (rgE t xs)])/\Below w.heap.size w w':=by
 unfold unE
 by_cases he:rgE t xs=0
 ·obtain ⟨h1,h2,h3,h4⟩:=rg_ok he;have HR:Hid (∀ W,Below w.heap.size w W->Calls Tryz.prog 23 #[.slice ao xs.length cap,t.val] W (EdOut W 0 (loopE t xs))):=fun W hb=>ringOf_ok ao cap xs t W (h.below hb) hcap (hG.below hb hG.big) he;have HB:Hid (∀ W,Below w.heap.size w W->Calls Tryz.prog 24 #[.slice ao xs.length cap,t.val] W fun e w'=>e=.returned (.int .i64 (buI t (cts xs) 4))/\Below W.heap.size W w'):=fun W hb=>byUnits_any ao cap xs t W (h.below hb) h2 h1 h4;rw [if_pos he,he];clear h hcap hG he h1 h2 h3 h4;unfold EdOut at HR;generalize loopE t xs=es at *;generalize buI t (cts xs) 4=bu at *;unfold Tab.val at *;go_enter Tryz.func26,Tryz.ntmps26;go_wp2_with (first
   | (go_at_call 23;refine Calls.mono (HR.out _ (by go_grown)) ?_;rintro e w1 ⟨ea,ec,rfl,ho,hb⟩;have HT:Hid (Tq w w1 t):=Tq.start w t hb;clear hb ho HR;have s1:=HT.out.t;have tu0:=s1.cu 0 (by decide);have tu1:=s1.cu 1 (by decide);have tu2:=s1.cu 2 (by decide);have tu3:=s1.cu 3 (by decide);have tl0:=s1.cl 0 (by decide);have tl1:=s1.cl 1 (by decide);have tl2:=s1.cl 2 (by decide);have tl3:=s1.cl 3 (by decide);have tb0:=s1.cb 0 (by decide);have tb1:=s1.cb 1 (by decide);have tb2:=s1.cb 2 (by decide);have tb3:=s1.cb 3 (by decide);have td:=s1.cd;have tz:=s1.lt;clear s1)
   | (go_at_call 24;refine Calls.mono (HB.out _ HT.out.up) ?_;rintro e w2 ⟨rfl,hb⟩;have HT2:Hid (Tq w w2 t):=HT.out.next hb;clear hb HB HT;clear tu0 tu1 tu2 tu3 tl0 tl1 tl2 tl3 tb0 tb1 tb2 tb3 td tz))
  go_ret2
  exact ⟨rfl,HT2.out.up⟩
 ·have HR:Hid (∀ W,Below w.heap.size w W->Calls Tryz.prog 23 #[.slice ao xs.length cap,t.val] W fun e w'=>e=.returned (.tuple #[.slice none 0 0,.int .i64 (rgE t xs)])/\Below W.heap.size W w'):=fun W hb=>ringOf_no ao cap xs t W (h.below hb) hcap (hG.below hb hG.big) he;rw [if_neg he];have he2:(rgE t xs != 0)=true:=by simpa using he
  clear h hcap hG;generalize rgE t xs=er at *;unfold Tab.val at *;go_enter Tryz.func26,Tryz.ntmps26;go_wp2_with (first
   | (go_at_call 23;refine Calls.mono (HR.out _ (by go_grown)) ?_;rintro e w1 ⟨rfl,hb⟩;have HT:Hid (Tq w w1 t):=Tq.start w t hb;clear hb HR))
  go_ret2
  exact ⟨rfl,HT.out.up⟩
theorem least_any (ao:Option Addr) (cap:Nat) (xs:List O) (t:Tab) (w:World) (h:OpsAt w ao xs) (hcap:xs.length<=cap) (hG:Bnds w) :
  Calls Tryz.prog 8 #[.slice ao xs.length cap,t.val] w fun e w'=>e=.returned (.tuple #[.int .i64 (leE t xs),.int .i64 (rgE t xs)])/\Below w.heap.size w w':=by
 unfold leE
 by_cases he:rgE t xs=0
 ·obtain ⟨h1,h2,h3,h4⟩:=rg_ok he;have hE:=loopE_ok h he;have hR:=rdy_of hE h2;have HR:Hid (∀ W,Below w.heap.size w W->Calls Tryz.prog 23 #[.slice ao xs.length cap,t.val] W (EdOut W 0 (loopE t xs))):=fun W hb=>ringOf_ok ao cap xs t W (h.below hb) hcap (hG.below hb hG.big) he;have HB:Hid (∀ W,Below w.heap.size w W->Calls Tryz.prog 24 #[.slice ao xs.length cap,t.val] W fun e w'=>e=.returned (.int .i64 (buI t (cts xs) 4))/\Below W.heap.size W w'):=fun W hb=>byUnits_any ao cap xs t W (h.below hb) h2 h1 h4;have HD:Hid (∀ W a c,Es W a (loopE t xs)->Calls Tryz.prog 25 #[.int .i64 xs.length,.slice a (loopE t xs).length c] W fun e w'=>e=.returned (.int .i64 (rndE xs.length (loopE t xs)))/\Below W.heap.size W w'):=fun W a c hs=>byRounds_any xs.length h2 a c _ _ rfl W hs hE (loopE_len (by omega)) hR.1 hR.2;have ht:=(tab_in h1).1;rw [if_pos he,he];have hlen:=h.len;clear h hcap hG he h1 h2 h3 h4 hR hE;unfold EdOut at HR;generalize rndE xs.length (loopE t xs)=ro at *;generalize loopE t xs=es at *;generalize buI t (cts xs) 4=bu at *;unfold Tab.val at *;go_enter Tryz.func8,Tryz.ntmps8;go_upto_region 4 with (first
   | (go_at_call 23;refine Calls.mono (HR.out _ (by go_grown)) ?_;rintro e w1 ⟨ea,ec,rfl,ho,hb⟩;have HT:Hid (Tq w w1 t/\Es w1 ea es):=⟨Tq.start w t hb,es_of ho⟩;clear hb ho HR))
  have HT2:Hid (∀ x:Wd (Below w1.heap.size w1),Tq w x.w t):=fun x=>HT.out.1.next x.ok;have tu0:∀ x:Wd (Below w1.heap.size w1),x.w.cell? ⟨w.heap.size,0,none⟩=some (.int .i64 (t.u 0)):=fun x=>(HT2.out x).t.cu 0 (by decide);have tu1:∀ x:Wd (Below w1.heap.size w1),x.w.cell? ⟨w.heap.size,1,none⟩=some (.int .i64 (t.u 1)):=fun x=>(HT2.out x).t.cu 1 (by decide);have tu2:∀ x:Wd (Below w1.heap.size w1),x.w.cell? ⟨w.heap.size,2,none⟩=some (.int .i64 (t.u 2)):=fun x=>(HT2.out x).t.cu 2 (by decide);have tu3:∀ x:Wd (Below w1.heap.size w1),x.w.cell? ⟨w.heap.size,3,none⟩=some (.int .i64 (t.u 3)):=fun x=>(HT2.out x).t.cu 3 (by decide);have tl0:∀ x:Wd (Below w1.heap.size w1),x.w.cell? ⟨w.heap.size,4,none⟩=some (.int .i64 (t.l 0)):=fun x=>(HT2.out x).t.cl 0 (by decide);have tl1:∀ x:Wd (Below w1.heap.size w1),x.w.cell? ⟨w.heap.size,5,none⟩=some (.int .i64 (t.l 1)):=fun x=>(HT2.out x).t.cl 1 (by decide);have tl2:∀ x:Wd (Below w1.heap.size w1),x.w.cell? ⟨w.heap.size,6,none⟩=some (.int .i64 (t.l 2)):=fun x=>(HT2.out x).t.cl 2 (by decide);have tl3:∀ x:Wd (Below w1.heap.size w1),x.w.cell? ⟨w.heap.size,7,none⟩=some (.int .i64 (t.l 3)):=fun x=>(HT2.out x).t.cl 3 (by decide);have tb0:∀ x:Wd (Below w1.heap.size w1),x.w.cell? ⟨w.heap.size,8,none⟩=some (.int .i64 (t.b 0)):=fun x=>(HT2.out x).t.cb 0 (by decide);have tb1:∀ x:Wd (Below w1.heap.size w1),x.w.cell? ⟨w.heap.size,9,none⟩=some (.int .i64 (t.b 1)):=fun x=>(HT2.out x).t.cb 1 (by decide);have tb2:∀ x:Wd (Below w1.heap.size w1),x.w.cell? ⟨w.heap.size,10,none⟩=some (.int .i64 (t.b 2)):=fun x=>(HT2.out x).t.cb 2 (by decide);have tb3:∀ x:Wd (Below w1.heap.size w1),x.w.cell? ⟨w.heap.size,11,none⟩=some (.int .i64 (t.b 3)):=fun x=>(HT2.out x).t.cb 3 (by decide);have td:∀ x:Wd (Below w1.heap.size w1),x.w.cell? ⟨w.heap.size,12,none⟩=some (.int .i64 t.d):=fun x=>(HT2.out x).t.cd;have HB2:Hid (∀ x:Wd (Below w1.heap.size w1),Calls Tryz.prog 24 #[.slice ao xs.length cap,.agg #[.int .i64 (t.u 0),.int .i64 (t.u 1),.int .i64 (t.u 2),.int .i64 (t.u 3),.int .i64 (t.l 0),.int .i64 (t.l 1),.int .i64 (t.l 2),.int .i64 (t.l 3),.int .i64 (t.b 0),.int .i64 (t.b 1),.int .i64 (t.b 2),.int .i64 (t.b 3),.int .i64 t.d]] x.w fun e w'=>e=.returned (.int .i64 bu)/\Below x.w.heap.size x.w w'):=fun x=>HB.out _ (HT2.out x).up;have HD2:Hid (∀ x:Wd (Below w1.heap.size w1),Calls Tryz.prog 25 #[.int .i64 xs.length,.slice ea es.length ec] x.w fun e w'=>e=.returned (.int .i64 ro)/\Below x.w.heap.size x.w w'):=fun x=>HD.out _ _ _ (HT.out.2.up x.ok)
  haveI inst:Nonempty (Wd (Below w1.heap.size w1)):=⟨⟨w1,Below.refl _ _⟩⟩
  clear HB HD;refine wp_region_in (Below w1.heap.size w1) (by kernel_rfl) (by kernel_rfl) ((Below.refl _ _).drew) ?_
  repeat (first|go_big_quiet_step ((first|(go_at_call 24;exact calls_in (Nat.le_refl _) _ (HB2.out _))|(go_at_call 25;exact calls_in (Nat.le_refl _) _ (HD2.out _)))))
  refine wpQuiet_nil ?_;rintro _ ⟨x,rfl⟩;have HQ2:Hid (Tq w x.w t):=HT2.out x
  by_cases c1:bu<ro
  ·by_cases c2:ro<1+t.d
   ·have HM:Hid (max bu (max ro (1+t.d))=1+t.d):=by show max bu (max ro (1+t.d))=1+t.d;omega
    go_wp2_with fail
    go_ret2
    exact ⟨by rw [HM.out];rfl,HQ2.out.up⟩
   ·have HM:Hid (max bu (max ro (1+t.d))=ro):=by show max bu (max ro (1+t.d))=ro;omega
    go_wp2_with fail
    go_ret2
    exact ⟨by rw [HM.out];rfl,HQ2.out.up⟩
  ·by_cases c2:bu<1+t.d
   ·have HM:Hid (max bu (max ro (1+t.d))=1+t.d):=by show max bu (max ro (1+t.d))=1+t.d;omega
    go_wp2_with fail
    go_ret2
    exact ⟨by rw [HM.out];rfl,HQ2.out.up⟩
   ·have HM:Hid (max bu (max ro (1+t.d))=bu):=by show max bu (max ro (1+t.d))=bu;omega
    go_wp2_with fail
    go_ret2
    exact ⟨by rw [HM.out];rfl,HQ2.out.up⟩
 ·have HR:Hid (∀ W,Below w.heap.size w W->Calls Tryz.prog 23 #[.slice ao xs.length cap,t.val] W fun e w'=>e=.returned (.tuple #[.slice none 0 0,.int .i64 (rgE t xs)])/\Below W.heap.size W w'):=fun W hb=>ringOf_no ao cap xs t W (h.below hb) hcap (hG.below hb hG.big) he;rw [if_neg he];have he2:(rgE t xs != 0)=true:=by simpa using he
  clear h hcap hG;generalize rgE t xs=er at *;unfold Tab.val at *;go_enter Tryz.func8,Tryz.ntmps8;go_wp2_with (first
   | (go_at_call 23;refine Calls.mono (HR.out _ (by go_grown)) ?_;rintro e w1 ⟨rfl,hb⟩;have HT:Hid (Tq w w1 t):=Tq.start w t hb;clear hb HR))
  go_ret2
  exact ⟨rfl,HT.out.up⟩
end Go.Proofs.YtiejdpjgplikjaaGreatDoor.Bn
namespace Go.Proofs.YtiejdpjgplikjaaGreatDoor.Bn
open YtiejdpjgplikjaaGreatDoor.Op
open YtiejdpjgplikjaaGreatDoor.Dp
open YtiejdpjgplikjaaGreatDoor.Tb (Tab)
def Kp (es:List Ed) (C:Nat->Int) (E:Int):Prop:=∀ e∈es,C e.f.toNat + e.l<=C e.t.toNat + e.d*E
theorem Kp.pot {es:List Ed} {C:Nat->Int} {E:Int} (h:Kp es C E):Pot es E:=⟨C,fun e hm=>by
 have:=h e hm
 unfold wt;rw [Int.mul_comm E e.d]
 omega⟩
theorem rnd_le {n:Nat} {es:List Ed} (hE:EL n es) (hn:n<=64) {E:Int} (h1:1<=E) (h:Pot es E):rndE n es<=E:=by
 obtain ⟨-,g2,g3,g4⟩:=rnd_is (P:=fun q=>inT (stp q es) n) (srch_of hE hn).top;have e:rnd (fun q=>inT (stp q es) n)=rndE n es:=rfl;rw [e] at g2 g3 g4;rcases Int.lt_or_le E (rndE n es) with c|c
 ·have h5:inT (stp E es) n=false:=g4 E h1 c;rw [(inT_iff64 hE hn (by omega) (by omega)).2 h] at h5
  cases h5
 ·exact c
theorem Kp.more {n:Nat} {es:List Ed} (hE:EL n es) {C:Nat->Int} {E:Int} (h:Kp es C E) {D:Int} (hD:E<=D):Kp es C D:=fun e hm=>by
 have h1:=h e hm;rcases (hE e hm).d with ⟨e1,-⟩|e1
 ·rw [e1] at h1 ⊢;omega
 ·rw [e1] at h1 ⊢;omega
theorem rows_le {a b:Pt} (ha:1<=a.l) (hb:1<=b.l) (lr i:Int) (m:Bool):∀ r∈rowsP a b lr i m,r.l<=a.l:=fun r hr=>by
 simp only [rowsP,List.mem_cons,List.not_mem_nil,or_false] at hr;rcases hr with rfl|rfl|rfl|rfl|rfl
 ·exact Int.le_refl _
 ·show (0:Int)<=a.l;omega
 ·show max 0 (a.l-b.l+1)<=a.l;omega
 ·show memL a b<=a.l;unfold memL
  split
  ·omega
  ·split <;> omega
 ·exact ha
theorem pairE_le {ps:List Pt} (hp:PtsOk ps) {L:Nat->Int} {d:Int} {m:Bool} {i j:Nat} (hi:i<ps.length) (hj:j<ps.length) {x:Ed} (h:x∈pairE ps L d m i j):x.l<=(ps[i]).l:=by
 obtain ⟨h1,h2,r,hr,h3⟩:=edL_mem h;rw [pAt_at hi,pAt_at hj] at hr
 have:=rows_le (hp _ (List.getElem_mem hi)).2.1 (hp _ (List.getElem_mem hj)).2.1 _ _ _ r hr
 omega
theorem ptL_lat (t:Tab) {o:O} (h:okL o=true):(ptL t o).l=latV t o.op:=by
 rw [latV_class t h];unfold ptL
 cases hk:kOf o.op with
 | none=>
  have:=okL_okO h
  rw [okO_none hk] at this;cases this
 | some k=>rfl
theorem loopE_lat {t:Tab} {xs:List O} (hp:PtsOk (ptsL t xs)) (hok:∀ o∈xs,okL o=true) {x:Ed} (hx:x∈loopE t xs):x.l<=latN t xs x.f.toNat:=by
 have hl:=ptsL_len t xs;have key:∀ (i j:Nat) (L:Nat->Int) (d:Int) (m:Bool),i<xs.length->j<xs.length->x∈pairE (ptsL t xs) L d m i j->x.l<=latN t xs x.f.toNat:=fun i j L d m hi hj h=>by
  have h1:=pairE_le hp (by omega) (by omega) h;have h2:=(pairE_mem hp (by omega) (by omega) h).1;rw [h2,Int.toNat_natCast,latN_at t hi,<- ptL_lat t (hok _ (List.getElem_mem hi))];have e:(ptsL t xs)[i]'(by omega)=ptL t xs[i]:=by unfold ptsL;rw [List.getElem_map]
  rw [e] at h1;exact h1
 unfold loopE at hx;rcases List.mem_append.1 hx with hx|hx
 ·obtain ⟨j,hj,hx⟩:=cat_mem.1 hx;obtain ⟨i,hi,hx⟩:=cat_mem.1 hx;exact key i j _ _ _ (by omega) hj hx
 ·obtain ⟨j,hj,hx⟩:=cat_mem.1 hx;obtain ⟨i,hi,hx⟩:=cat_mem.1 hx;exact key i j _ _ _ (by omega) hj hx
theorem drained_kept {t:Tab} {xs:List O} (hp:PtsOk (ptsL t xs)) (hok:∀ o∈xs,okL o=true) {C:Nat->Int} {D:Int} (hof:∀ e∈ofE t xs,C e.f.toNat + e.l<=C e.t.toNat) (h0:∀ i,i<xs.length->0<=C i) (hD:∀ i,i<xs.length->C i+latN t xs i<=D):Kp (loopE t xs) C D:=fun e hm=>by
 have hE:=loopE_el hp e hm;have f0:=hE.f0;have fn:=hE.fn;have t0:=hE.t0;have tn:=hE.tn;have h1:=loopE_lat hp hok hm;have hd2:e∈ofE t xs\/e.d=1:=by
  unfold loopE at hm;rcases List.mem_append.1 hm with h|h
  ·exact .inl h
  ·obtain ⟨j,hj,h⟩:=cat_mem.1 h;obtain ⟨i,hi,h⟩:=cat_mem.1 h;exact .inr (edL_d h)
 rcases hd2 with h|h
 ·have h2:=hof e h;have h3:=h0 e.t.toNat (by omega);have h4:=hD e.f.toNat (by omega);have h5:=h0 e.f.toNat (by omega);rcases hE.d with ⟨e1,-⟩|e1
  ·rw [e1];omega
  ·rw [e1];omega
 ·rw [h];have h3:=h0 e.t.toNat (by omega);have h4:=hD e.f.toNat (by omega);omega
end Go.Proofs.YtiejdpjgplikjaaGreatDoor.Bn
