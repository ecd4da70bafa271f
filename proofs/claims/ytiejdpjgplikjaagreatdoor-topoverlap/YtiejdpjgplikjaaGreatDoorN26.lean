/- Parts Yg Ua. -/
import Derived.Test.YtiejdpjgplikjaaGreatDoorN25
import Derived.BigQuiet
import Derived.Test.YtiejdpjgplikjaaGreatDoorN00
set_option maxRecDepth 20000
set_option maxHeartbeats 16000000
namespace Go.Proofs.YtiejdpjgplikjaaGreatDoor.Mo
open Go.ChangeShapes Go.WideShapes Go.ChangeAt Go.RowKit
open YtiejdpjgplikjaaGreatDoor.Op YtiejdpjgplikjaaGreatDoor.So YtiejdpjgplikjaaGreatDoor.Dp YtiejdpjgplikjaaGreatDoor.Bn
open YtiejdpjgplikjaaGreatDoor.Ls (clN clN_at clN_lt Nl arC arC_all arC_yes arC_no areCycles_any)
open YtiejdpjgplikjaaGreatDoor.Rv (RAt Few frB tkF tk_few take_any evOk NwOut ring_ok tn addK)
open YtiejdpjgplikjaaGreatDoor.Tb (Tab TabAt Bnds)
theorem tries_any (bb:Nat) (E:Int) (w:World) :
  Calls Tryz.prog 45 #[.pointer (some ⟨bb,0,none⟩),.int .i64 E] w fun e w'=>e=.returned (.slice (some ⟨w.heap.size+2,0,none⟩) 2 2)/\At w' (w.heap.size+2) #[.func (.func 87) #[] #[.pointer (some ⟨w.heap.size,0,none⟩),.pointer (some ⟨w.heap.size+1,0,none⟩)],.func (.func 89) #[] #[.pointer (some ⟨w.heap.size,0,none⟩),.pointer (some ⟨w.heap.size+1,0,none⟩)]]/\At w' w.heap.size #[.pointer (some ⟨bb,0,none⟩)]/\At w' (w.heap.size+1) #[.int .i64 E]/\Below w.heap.size w w':=by
 have HX:Hid (At (((w.alloc (.cells #[.pointer (some ⟨bb,0,none⟩)] 60)).alloc (.cells #[.int .i64 E] 3)).alloc (.cells #[.func (.func 87) #[] #[.pointer (some ⟨w.heap.size,0,none⟩),.pointer (some ⟨w.heap.size+1,0,none⟩)],.func (.func 89) #[] #[.pointer (some ⟨w.heap.size,0,none⟩),.pointer (some ⟨w.heap.size+1,0,none⟩)]] 95)) (w.heap.size+2) #[.func (.func 87) #[] #[.pointer (some ⟨w.heap.size,0,none⟩),.pointer (some ⟨w.heap.size+1,0,none⟩)],.func (.func 89) #[] #[.pointer (some ⟨w.heap.size,0,none⟩),.pointer (some ⟨w.heap.size+1,0,none⟩)]]/\At (((w.alloc (.cells #[.pointer (some ⟨bb,0,none⟩)] 60)).alloc (.cells #[.int .i64 E] 3)).alloc (.cells #[.func (.func 87) #[] #[.pointer (some ⟨w.heap.size,0,none⟩),.pointer (some ⟨w.heap.size+1,0,none⟩)],.func (.func 89) #[] #[.pointer (some ⟨w.heap.size,0,none⟩),.pointer (some ⟨w.heap.size+1,0,none⟩)]] 95)) w.heap.size #[.pointer (some ⟨bb,0,none⟩)]/\At (((w.alloc (.cells #[.pointer (some ⟨bb,0,none⟩)] 60)).alloc (.cells #[.int .i64 E] 3)).alloc (.cells #[.func (.func 87) #[] #[.pointer (some ⟨w.heap.size,0,none⟩),.pointer (some ⟨w.heap.size+1,0,none⟩)],.func (.func 89) #[] #[.pointer (some ⟨w.heap.size,0,none⟩),.pointer (some ⟨w.heap.size+1,0,none⟩)]] 95)) (w.heap.size+1) #[.int .i64 E]/\Below w.heap.size w (((w.alloc (.cells #[.pointer (some ⟨bb,0,none⟩)] 60)).alloc (.cells #[.int .i64 E] 3)).alloc (.cells #[.func (.func 87) #[] #[.pointer (some ⟨w.heap.size,0,none⟩),.pointer (some ⟨w.heap.size+1,0,none⟩)],.func (.func 89) #[] #[.pointer (some ⟨w.heap.size,0,none⟩),.pointer (some ⟨w.heap.size+1,0,none⟩)]] 95))):=by
  have a1:=At.new w #[.pointer (some ⟨bb,0,none⟩)] 60;have a2:=At.new (w.alloc (.cells #[.pointer (some ⟨bb,0,none⟩)] 60)) #[.int .i64 E] 3;rw [show (w.alloc (.cells #[.pointer (some ⟨bb,0,none⟩)] 60)).heap.size=w.heap.size+1 by simp] at a2;have a3:=At.new ((w.alloc (.cells #[.pointer (some ⟨bb,0,none⟩)] 60)).alloc (.cells #[.int .i64 E] 3)) #[.func (.func 87) #[] #[.pointer (some ⟨w.heap.size,0,none⟩),.pointer (some ⟨w.heap.size+1,0,none⟩)],.func (.func 89) #[] #[.pointer (some ⟨w.heap.size,0,none⟩),.pointer (some ⟨w.heap.size+1,0,none⟩)]] 95;rw [show ((w.alloc (.cells #[.pointer (some ⟨bb,0,none⟩)] 60)).alloc (.cells #[.int .i64 E] 3)).heap.size=w.heap.size+2 by simp] at a3;exact ⟨a3,(a1.alloc _).alloc _,a2.alloc _,by go_grown⟩
 go_enter Tryz.func45,Tryz.ntmps45;go_wp2_with fail
 go_ret
 exact ⟨rfl,HX.out⟩
def SrOut (n:Nat) (sr:Option (Nat->Int)) (W:World) (e:Ending) (w':World):Prop:=match sr with
 | none=>e=.returned (.tuple #[.slice none 0 0,.bool false])/\Below W.heap.size W w'
 | some c=>∃ ca c2,e=.returned (.tuple #[.slice ca n c2,.bool true])/\Nl w' ca n c/\(∀ x,ca=some x->W.heap.size<=x.block)/\Below W.heap.size W w'
def fpP (kB:Int->Bool) (sr:Int->Option (Nat->Int)) (g:Nat->Int) (D:Int):Nat->Int->Int×(Nat->Int)
 | 0,_=>(D,g)
 | k+1,E=>if kB E=true then (E,g) else match sr E with|some c=>(E,c)|none=>fpP kB sr g D k (E+1)
def FpOut (a:Option Addr) (n:Nat) (p:Int×(Nat->Int)) (w:World) (e:Ending) (w':World):Prop:=∃ ra rc,e=.returned (.agg #[.int .i64 p.1,.slice ra n rc,.int .i64 (stg n p.2 p.1)])/\Nl w' ra n p.2/\(ra=a\/∀ x,ra=some x->w.heap.size<=x.block)/\Below w.heap.size w w'
structure Fw (w W:World) (bb:Nat) (ao:Option Addr) (cap:Nat) (xs:List O) (t:Tab) (ea:Option Addr) (ec:Nat) (a:Option Addr) (cc:Nat) (g:Nat->Int) (D:Int):Prop where
 b:Bo W bb ao cap xs t ea ec a cc g D
 r:At W w.heap.size #[.int .i64 0,.slice none 0 0,.int .i64 0]
 up:Below w.heap.size w W
theorem Fw.next {w W W':World} {bb:Nat} {ao:Option Addr} {cap:Nat} {xs:List O} {t:Tab} {ea:Option Addr} {ec:Nat} {a:Option Addr} {cc:Nat} {g:Nat->Int} {D:Int} (h:Fw w W bb ao cap xs t ea ec a cc g D) (k:Below W.heap.size W W'):Fw w W' bb ao cap xs t ea ec a cc g D:=⟨h.b.up k,h.r.below k h.r.lt,h.up.trans (k.mono h.up.size)⟩
theorem fw_out {w W:World} {z n:Nat} {ra:Option Addr} {c:Nat->Int} (hn:Nl W ra n c) (hu:Below w.heap.size w W) (h0z:w.heap.size<=z) (hz:0<n->∀ x,ra=some x->x.block≠z) (v0 v1 v2:Value):Nl (((W.setCell ⟨z,0,none⟩ v0).setCell ⟨z,1,none⟩ v1).setCell ⟨z,2,none⟩ v2) ra n c/\Below w.heap.size w (((W.setCell ⟨z,0,none⟩ v0).setCell ⟨z,1,none⟩ v1).setCell ⟨z,2,none⟩ v2):=by
 have g:Fr (One z) W (((W.setCell ⟨z,0,none⟩ v0).setCell ⟨z,1,none⟩ v1).setCell ⟨z,2,none⟩ v2):=(((Fr.refl (One z) W).setCell (.inr rfl) _ _).setCell (.inr rfl) _ _).setCell (.inr rfl) _ _;refine ⟨⟨fun h0=>?_,hn.rg⟩,hu.trans (g.below hu.size fun k hk e=>by have e:k=z:=e;omega)⟩;obtain ⟨b,f,e,z,hx⟩:=hn.is h0;exact ⟨b,f,e,Nat.lt_of_lt_of_le z g.size,fun k hk=>(g.cell z (fun e2=>hz h0 _ e e2) _).trans (hx k hk)⟩
theorem nl_far {w:World} {ra:Option Addr} {n:Nat} {c:Nat->Int} (h:Nl w ra n c):0<n->∀ x,ra=some x->x.block≠w.heap.size:=fun h0 x hx=>by
 obtain ⟨b,f,e,z,-⟩:=h.is h0;rw [e] at hx
 injection hx with hx
 rw [<- hx];exact Nat.ne_of_lt z
theorem fp_yes {kB:Int->Bool} {sr:Int->Option (Nat->Int)} {g:Nat->Int} {D E:Int} (h:E<D) (hk:kB E=true):fpP kB sr g D (D-E).toNat E=(E,g):=by
 obtain ⟨k,hk2⟩:∃ k,(D-E).toNat = k+1:=⟨(D-E).toNat - 1,by omega⟩;rw [hk2];unfold fpP;rw [if_pos hk]
theorem fp_some {kB:Int->Bool} {sr:Int->Option (Nat->Int)} {g c:Nat->Int} {D E:Int} (h:E<D) (hk:kB E=false) (hs:sr E=some c):fpP kB sr g D (D-E).toNat E=(E,c):=by
 obtain ⟨k,hk2⟩:∃ k,(D-E).toNat = k+1:=⟨(D-E).toNat - 1,by omega⟩;rw [hk2];unfold fpP;rw [if_neg (by rw [hk];decide),hs]
theorem fp_none {kB:Int->Bool} {sr:Int->Option (Nat->Int)} {g:Nat->Int} {D E:Int} (h:E<D) (hk:kB E=false) (hs:sr E=none):fpP kB sr g D (D-E).toNat E=fpP kB sr g D (D-(E+1)).toNat (E+1):=by
 have hk2:(D-E).toNat = (D-(E+1)).toNat + 1:=by omega
 rw [hk2]
 conv=>lhs;unfold fpP
 rw [if_neg (by rw [hk];decide),hs]
theorem fp_end {kB:Int->Bool} {sr:Int->Option (Nat->Int)} {g:Nat->Int} {D E:Int} (h:¬ E<D):fpP kB sr g D (D-E).toNat E=(D,g):=by
 have hk2:(D-E).toNat = 0:=by omega
 rw [hk2];rfl
theorem firstPlan_any (bb:Nat) (ao:Option Addr) (cap:Nat) (xs:List O) (t:Tab) (ea:Option Addr) (ec:Nat) (a:Option Addr) (cc:Nat) (g:Nat->Int) (D least:Int) (sr:Int->Option (Nat->Int)) (w:World) (h:Bo w bb ao cap xs t ea ec a cc g D) (ok:BoOk xs t g D) (hl:1+t.d<=least) (hD:1+t.d<=D)
  (hsr:∀ W b1 b2 E,Bo W bb ao cap xs t ea ec a cc g D->At W b1 #[.pointer (some ⟨bb,0,none⟩)]->At W b2 #[.int .i64 E]->least<=E->E<D->kgB t xs g E=false->Calls Tryz.prog 89 #[.pointer (some ⟨b1,0,none⟩),.pointer (some ⟨b2,0,none⟩)] W (SrOut xs.length (sr E) W))
  (hsc:∀ E c,least<=E->E<D->sr E=some c->∀ k,k<xs.length->0<=c k/\c k<=65536) :
  Calls Tryz.prog 19 #[.pointer (some ⟨bb,0,none⟩),.int .i64 least] w (FpOut a xs.length (fpP (kgB t xs g) sr g D (D-least).toNat least) w):=by
 obtain ⟨ht,hn64,-,-⟩:=rg_ok ok.e;obtain ⟨d0,d4⟩:=(tab_in ht).1;have hD2:=ok.d;have HT1:Hid (∀ W p1 p2 E,Bo W bb ao cap xs t ea ec a cc g D->At W p1 #[.pointer (some ⟨bb,0,none⟩)]->At W p2 #[.int .i64 E]->least<=E->E<D->Calls Tryz.prog 87 #[.pointer (some ⟨p1,0,none⟩),.pointer (some ⟨p2,0,none⟩)] W fun e w'=>e=.returned (.tuple #[.slice a xs.length cc,.bool (kgB t xs g E)])/\Below W.heap.size W w'):=fun W p1 p2 E hB h1 h2 e1 e2=>try1_any p1 p2 bb ao cap xs t ea ec a cc g D E W hB ok h1 h2 (by omega) (by omega);have HT2:Hid (∀ W b1 b2 E,Bo W bb ao cap xs t ea ec a cc g D->At W b1 #[.pointer (some ⟨bb,0,none⟩)]->At W b2 #[.int .i64 E]->least<=E->E<D->kgB t xs g E=false->Calls Tryz.prog 89 #[.pointer (some ⟨b1,0,none⟩),.pointer (some ⟨b2,0,none⟩)] W (SrOut xs.length (sr E) W)):=hsr;have HPl:Hid (∀ W E,Bo W bb ao cap xs t ea ec a cc g D->least<=E->E<=65536->Calls Tryz.prog 46 #[.slice a xs.length cc,.int .i64 E] W fun e w'=>e=.returned (.agg #[.int .i64 E,.slice a xs.length cc,.int .i64 (stg xs.length g E)])/\Below W.heap.size W w'):=fun W E hB e1 e2=>planOf_any a xs.length cc g E W hB.c (by omega) ok.g (by omega) e2;have HPd:Hid (∀ W,Bo W bb ao cap xs t ea ec a cc g D->Calls Tryz.prog 46 #[.slice a xs.length cc,.int .i64 D] W fun e w'=>e=.returned (.agg #[.int .i64 D,.slice a xs.length cc,.int .i64 (stg xs.length g D)])/\Below W.heap.size W w'):=fun W hB=>planOf_any a xs.length cc g D W hB.c (by omega) ok.g (by omega) hD2;have HPc:Hid (∀ W E ca c2 c,Nl W ca xs.length c->least<=E->E<D->sr E=some c->Calls Tryz.prog 46 #[.slice ca xs.length c2,.int .i64 E] W fun e w'=>e=.returned (.agg #[.int .i64 E,.slice ca xs.length c2,.int .i64 (stg xs.length c E)])/\Below W.heap.size W w'):=fun W E ca c2 c hN e1 e2 hs=>planOf_any ca xs.length c2 c E W hN (by omega) (hsc E c e1 e2 hs) (by omega) (by omega);have HTr:Hid (∀ W E,Calls Tryz.prog 45 #[.pointer (some ⟨bb,0,none⟩),.int .i64 E] W fun e w'=>e=.returned (.slice (some ⟨W.heap.size+2,0,none⟩) 2 2)/\At w' (W.heap.size+2) #[.func (.func 87) #[] #[.pointer (some ⟨W.heap.size,0,none⟩),.pointer (some ⟨W.heap.size+1,0,none⟩)],.func (.func 89) #[] #[.pointer (some ⟨W.heap.size,0,none⟩),.pointer (some ⟨W.heap.size+1,0,none⟩)]]/\At w' W.heap.size #[.pointer (some ⟨bb,0,none⟩)]/\At w' (W.heap.size+1) #[.int .i64 E]/\Below W.heap.size W w'):=fun W E=>tries_any bb E W;have hbr:¬ bb=w.heap.size:=Nat.ne_of_lt h.at'.lt;have HFa:Hid (0<xs.length->∀ x,a=some x->x.block≠w.heap.size):=nl_far h.c;have HF0:Hid (Fw w (w.alloc (.cells #[.int .i64 0,.slice none 0 0,.int .i64 0] 29)) bb ao cap xs t ea ec a cc g D):=⟨h.up ((Below.refl _ _).alloc (Nat.le_refl _) _),At.new _ _ _,by go_grown⟩;obtain ⟨R,hR⟩:∃ R,fpP (kgB t xs g) sr g D (D-least).toNat least=R:=⟨_,rfl⟩;rw [hR];have HR:Hid (fpP (kgB t xs g) sr g D (D-least).toNat least=R):=hR;clear h ok hsr hsc hR ht;obtain ⟨n,hN⟩:∃ n,xs.length=n:=⟨_,rfl⟩;rw [hN] at HT1 HT2 HPl HPd HPc HFa ⊢;have HN:Hid (xs.length=n):=hN;clear hN hn64;unfold FpOut;go_enter Tryz.func19,Tryz.ntmps19;go_wp2_with fail
 go_loopw [5] (fun v wr=>∃ E:Int,least<=E/\(E<=D\/E=least)/\v=.int .i64 E/\Fw w wr bb ao cap xs t ea ec a cc g D/\fpP (kgB t xs g) sr g D (D-E).toNat E=R) (fun v _=>(D-intOf v).toNat)
 case atStart=>exact ⟨least,by omega,.inr rfl,rfl,HF0.out,HR.out⟩
 case round=>
  rename World=>wr;obtain ⟨E,e1,e2,rfl,hf,hfp⟩:=hrel;have HF:Hid (Fw w wr bb ao cap xs t ea ec a cc g D/\fpP (kgB t xs g) sr g D (D-E).toNat E=R):=⟨hf,hfp⟩;clear hf hfp HF0 HR;have d16:wr.cell? ⟨bb,16,none⟩=some (.int .i64 D):=HF.out.1.b.at'.c 16 _ rfl;have bl:=HF.out.1.b.at'.lt
  by_cases hlt:E<D
  ·have e3:E<=65536:=by omega
   have e4:E+1<=65536:=by omega
   have e0:1<=E:=by omega
   clear e2;have HY:Hid (kgB t xs g E=true->(E,g)=R):=fun q=>by rw [<- HF.out.2];exact (fp_yes hlt q).symm
   have HSm:Hid (∀ c,kgB t xs g E=false->sr E=some c->(E,c)=R):=fun c q1 q2=>by rw [<- HF.out.2];exact (fp_some hlt q1 q2).symm
   have HNn:Hid (kgB t xs g E=false->sr E=none->fpP (kgB t xs g) sr g D (D-(E+1)).toNat (E+1)=R):=fun q1 q2=>by rw [<- HF.out.2];exact (fp_none hlt q1 q2).symm
   have HF1:Hid (Fw w wr bb ao cap xs t ea ec a cc g D):=HF.out.1;clear HF;go_wp2_with (first
    | (go_at_call 45;refine Calls.mono (HTr.out _ _) ?_;rintro e w1 ⟨rfl,t1,t2,t3,b1⟩;have HT:Hid (Fw w w1 bb ao cap xs t ea ec a cc g D/\∃ p1 p2,At w1 (wr.heap.size+2) #[.func (.func 87) #[] #[.pointer (some ⟨p1,0,none⟩),.pointer (some ⟨p2,0,none⟩)],.func (.func 89) #[] #[.pointer (some ⟨p1,0,none⟩),.pointer (some ⟨p2,0,none⟩)]]/\At w1 p1 #[.pointer (some ⟨bb,0,none⟩)]/\At w1 p2 #[.int .i64 E]):=⟨HF1.out.next b1,_,_,t1,t2,t3⟩;clear b1 t1 t2 t3 HTr HF1 d16 bl))
   generalize wr.heap.size+2=tb at *;obtain ⟨p1,p2,hp⟩:=HT.out.2;have HT0:Hid (Fw w w1 bb ao cap xs t ea ec a cc g D/\At w1 tb #[.func (.func 87) #[] #[.pointer (some ⟨p1,0,none⟩),.pointer (some ⟨p2,0,none⟩)],.func (.func 89) #[] #[.pointer (some ⟨p1,0,none⟩),.pointer (some ⟨p2,0,none⟩)]]/\At w1 p1 #[.pointer (some ⟨bb,0,none⟩)]/\At w1 p2 #[.int .i64 E]):=⟨HT.out.1,hp⟩;clear HT hp
   go_loopw [23] (fun v wz=>∃ j:Nat,j<=2/\v=.int .i64 j/\(Fw w wz bb ao cap xs t ea ec a cc g D/\At wz tb #[.func (.func 87) #[] #[.pointer (some ⟨p1,0,none⟩),.pointer (some ⟨p2,0,none⟩)],.func (.func 89) #[] #[.pointer (some ⟨p1,0,none⟩),.pointer (some ⟨p2,0,none⟩)]]/\At wz p1 #[.pointer (some ⟨bb,0,none⟩)]/\At wz p2 #[.int .i64 E])/\(1<=j->kgB t xs g E=false)/\(2<=j->sr E=none)) (fun v _=>2-(intOf v).toNat)
   case atStart=>exact ⟨0,by omega,rfl,HT0.out,fun h=>by omega,fun h=>by omega⟩
   case round=>
    rename World=>wz;obtain ⟨j,hj,rfl,hz,hj1,hj2⟩:=hrel;have HZ:Hid (Fw w wz bb ao cap xs t ea ec a cc g D/\At wz tb #[.func (.func 87) #[] #[.pointer (some ⟨p1,0,none⟩),.pointer (some ⟨p2,0,none⟩)],.func (.func 89) #[] #[.pointer (some ⟨p1,0,none⟩),.pointer (some ⟨p2,0,none⟩)]]/\At wz p1 #[.pointer (some ⟨bb,0,none⟩)]/\At wz p2 #[.int .i64 E]):=hz;have HJ:Hid ((1<=j->kgB t xs g E=false)/\(2<=j->sr E=none)):=⟨hj1,hj2⟩;have f0:=hz.2.1.c 0 _ rfl;have f1:=hz.2.1.c 1 _ rfl;have fl:=hz.2.1.lt;clear hz hj1 hj2 HT0;obtain rfl|rfl|rfl:j=0\/j=1\/j=2:=by omega
    ·have HC1:Hid (Calls Tryz.prog 87 #[.pointer (some ⟨p1,0,none⟩),.pointer (some ⟨p2,0,none⟩)] wz fun e w'=>e=.returned (.tuple #[.slice a n cc,.bool (kgB t xs g E)])/\Below wz.heap.size wz w'):=HT1.out wz p1 p2 E HZ.out.1.b HZ.out.2.2.1 HZ.out.2.2.2 e1 hlt
     cases hkb:kgB t xs g E
     ·rw [hkb] at HC1;have HKb:Hid (kgB t xs g E=false):=hkb;clear hkb;go_wp2_with (first
       | (go_at_call 87;refine Calls.mono HC1.out ?_;rintro e w2 ⟨rfl,b2⟩;have HZ2:Hid (Fw w w2 bb ao cap xs t ea ec a cc g D/\At w2 tb #[.func (.func 87) #[] #[.pointer (some ⟨p1,0,none⟩),.pointer (some ⟨p2,0,none⟩)],.func (.func 89) #[] #[.pointer (some ⟨p1,0,none⟩),.pointer (some ⟨p2,0,none⟩)]]/\At w2 p1 #[.pointer (some ⟨bb,0,none⟩)]/\At w2 p2 #[.int .i64 E]):=⟨HZ.out.1.next b2,HZ.out.2.1.below b2 HZ.out.2.1.lt,HZ.out.2.2.1.below b2 HZ.out.2.2.1.lt,HZ.out.2.2.2.below b2 HZ.out.2.2.2.lt⟩;clear b2 HC1 HZ f0 f1 fl))
      go_roundw
      case rel=>exact ⟨1,by omega,by go_num,HZ2.out,fun _=>(by first|exact HKb.out|trivial),fun h=>by omega⟩
      case measure=>simp [intOf]
     ·rw [hkb] at HC1;have HRs:Hid ((E,g)=R):=HY.out hkb;clear hkb;go_wp2_with (first
       | (go_at_call 87;refine Calls.mono HC1.out ?_;rintro e w2 ⟨rfl,b2⟩;have HZ2:Hid (Fw w w2 bb ao cap xs t ea ec a cc g D):=HZ.out.1.next b2;clear b2 HC1 HZ f0 f1 fl)
       | (go_at_call 46;refine Calls.mono (HPl.out _ _ HZ2.out.b e1 e3) ?_;rintro e w3 ⟨rfl,b3⟩;have HZ3:Hid (Fw w w3 bb ao cap xs t ea ec a cc g D):=HZ2.out.next b3;clear b3 HZ2;have r0:=HZ3.out.r.c 0 _ rfl;have r1:=HZ3.out.r.c 1 _ rfl;have r2:=HZ3.out.r.c 2 _ rfl;have rf0:=HZ3.out.r.f 0;have rf1:=HZ3.out.r.f 1;have rf2:=HZ3.out.r.f 2;have rl:=HZ3.out.r.lt))
      refine bodyPost_ret (v:=.agg #[.int .i64 E,.slice a n cc,.int .i64 (stg n g E)]) (by simp [results,Tryz.results19,go_sem,r0,r1,r2]) rfl ?_;rw [<- HRs.out];have hc:=HZ3.out.b.c;rw [HN.out] at hc;have hq:=fw_out hc HZ3.out.up (Nat.le_refl _) HFa.out (.int .i64 E) (.slice a n cc) (.int .i64 (stg n g E))
      first|exact ⟨a,cc,rfl,hq.1,.inl rfl,hq.2⟩|exact ⟨a,⟨cc,rfl⟩,hq.1,.inl rfl,hq.2⟩
    ·have HKb:=HJ.out.1 (by omega);have HC2:Hid (Calls Tryz.prog 89 #[.pointer (some ⟨p1,0,none⟩),.pointer (some ⟨p2,0,none⟩)] wz (SrOut n (sr E) wz)):=HT2.out wz p1 p2 E HZ.out.1.b HZ.out.2.2.1 HZ.out.2.2.2 e1 hlt HKb
     cases hs:sr E with
     | none=>
      rw [hs] at HC2;have HKs:Hid (kgB t xs g E=false/\sr E=none):=⟨HKb,hs⟩;clear hs HKb;unfold SrOut at HC2;go_wp2_with (first
       | (go_at_call 89;refine Calls.mono HC2.out ?_;rintro e w2 ⟨rfl,b2⟩;have HZ2:Hid (Fw w w2 bb ao cap xs t ea ec a cc g D/\At w2 tb #[.func (.func 87) #[] #[.pointer (some ⟨p1,0,none⟩),.pointer (some ⟨p2,0,none⟩)],.func (.func 89) #[] #[.pointer (some ⟨p1,0,none⟩),.pointer (some ⟨p2,0,none⟩)]]/\At w2 p1 #[.pointer (some ⟨bb,0,none⟩)]/\At w2 p2 #[.int .i64 E]):=⟨HZ.out.1.next b2,HZ.out.2.1.below b2 HZ.out.2.1.lt,HZ.out.2.2.1.below b2 HZ.out.2.2.1.lt,HZ.out.2.2.2.below b2 HZ.out.2.2.2.lt⟩;clear b2 HC2 HZ f0 f1 fl))
      go_roundw
      case rel=>exact ⟨2,by omega,by go_num,HZ2.out,fun _=>HKs.out.1,fun _=>(by first|exact HKs.out.2|trivial)⟩
      case measure=>simp [intOf]
     | some c=>
      rw [hs] at HC2;have HRs:Hid ((E,c)=R/\sr E=some c):=⟨HSm.out c HKb hs,hs⟩;clear hs HKb;unfold SrOut at HC2;go_wp2_with (first
       | (go_at_call 89;refine Calls.mono HC2.out ?_;rintro e w2 ⟨ca,c2,rfl,n2,a2,b2⟩;have HZ2:Hid (Fw w w2 bb ao cap xs t ea ec a cc g D/\Nl w2 ca n c/\∀ x,ca=some x->wz.heap.size<=x.block):=⟨HZ.out.1.next b2,n2,a2⟩;have hwz:w.heap.size<wz.heap.size:=HZ.out.1.r.lt;clear n2 a2 b2 HC2 HZ f0 f1 fl)
       | (go_at_call 46;refine Calls.mono (HPc.out _ _ _ _ _ HZ2.out.2.1 e1 hlt HRs.out.2) ?_;rintro e w3 ⟨rfl,b3⟩;have HZ3:Hid (Fw w w3 bb ao cap xs t ea ec a cc g D/\Nl w3 ca n c/\∀ x,ca=some x->wz.heap.size<=x.block):=⟨HZ2.out.1.next b3,HZ2.out.2.1.up b3,HZ2.out.2.2⟩;clear b3 HZ2;have r0:=HZ3.out.1.r.c 0 _ rfl;have r1:=HZ3.out.1.r.c 1 _ rfl;have r2:=HZ3.out.1.r.c 2 _ rfl;have rf0:=HZ3.out.1.r.f 0;have rf1:=HZ3.out.1.r.f 1;have rf2:=HZ3.out.1.r.f 2;have rl:=HZ3.out.1.r.lt))
      refine bodyPost_ret (v:=.agg #[.int .i64 E,.slice ca n c2,.int .i64 (stg n c E)]) (by simp [results,Tryz.results19,go_sem,r0,r1,r2]) rfl ?_;rw [<- HRs.out.1];have hq:=fw_out HZ3.out.2.1 HZ3.out.1.up (Nat.le_refl _) (fun _ x hx=>by have:=HZ3.out.2.2 x hx;omega) (.int .i64 E) (.slice ca n c2) (.int .i64 (stg n c E));exact ⟨ca,c2,rfl,hq.1,.inr fun x hx=>by have:=HZ3.out.2.2 x hx;omega,hq.2⟩
    ·have HKs:Hid (kgB t xs g E=false/\sr E=none):=⟨HJ.out.1 (by omega),HJ.out.2 (by omega)⟩;go_wp2_with fail
     go_roundw
     case rel=>exact ⟨E+1,by omega,.inl (by omega),by go_num,HZ.out.1,HNn.out HKs.out.1 HKs.out.2⟩
     case measure=>simp [intOf];omega
  ·have HRs:Hid ((D,g)=R):=by rw [<- HF.out.2];exact (fp_end hlt).symm
   have HF1:Hid (Fw w wr.drew bb ao cap xs t ea ec a cc g D):=HF.out.1.next (drew_up _);have c15:wr.cell? ⟨bb,15,none⟩=some (.slice a n cc):=by rw [<- HN.out];exact HF.out.1.b.at'.c 15 _ rfl
   clear HF;go_upto_region 11 with fail
   clear c15 d16 bl;have HS1:Hid (∀ Z,Fw w Z bb ao cap xs t ea ec a cc g D->Z.cell? ⟨bb,15,none⟩=some (.slice a n cc)/\Z.cell? ⟨bb,16,none⟩=some (.int .i64 D)/\bb<Z.heap.size):=fun Z hZ=>⟨by rw [<- HN.out];exact hZ.b.at'.c 15 _ rfl,hZ.b.at'.c 16 _ rfl,hZ.b.at'.lt⟩;refine wp_region_held_drew (S:=fun Z=>Z.cell? ⟨bb,15,none⟩=some (.slice a n cc)/\Z.cell? ⟨bb,16,none⟩=some (.int .i64 D)/\bb<Z.heap.size) (by kernel_rfl) (HS1.out _ HF1.out) (fun zH=>?_);refine wg 0 (.pointer (some ⟨bb,0,none⟩)) rfl zH ?_;simp only [pq];refine wg 1 (.pointer (some ⟨bb,0,none⟩)) rfl zH ?_;simp only [pq];refine wg 2 (.pointer (some ⟨bb,15,none⟩)) rfl zH ?_;simp only [pq];refine wt 3 (.slice a n cc) rfl (fun w' hSw=>by (have y0:=hSw.1;have yl:=hSw.2.2;go_simp)) zH ?_;simp only [pq];refine wg 4 (.pointer (some ⟨bb,0,none⟩)) rfl zH ?_;simp only [pq];refine wg 5 (.pointer (some ⟨bb,0,none⟩)) rfl zH ?_;simp only [pq];refine wg 6 (.pointer (some ⟨bb,16,none⟩)) rfl zH ?_;simp only [pq];refine wt 7 (.int .i64 D) rfl (fun w' hSw=>by (have y0:=hSw.2.1;have yl:=hSw.2.2;go_simp)) zH ?_;simp only [pq];refine wpAnyH_ready (rs:=[8]) (by kernel_rfl) (by simp) ?_;refine AllReadyH.cons rfl (fun K hK=>?_) AllReadyH.nil;go_simp
   refine Calls.mono (HPd.out _ HF1.out.b) ?_;rintro e w3 ⟨rfl,b3⟩;have HZ3:Hid (Fw w w3 bb ao cap xs t ea ec a cc g D):=HF1.out.next b3;clear b3 HF1 HPd;have r0:=HZ3.out.r.c 0 _ rfl;have r1:=HZ3.out.r.c 1 _ rfl;have r2:=HZ3.out.r.c 2 _ rfl;have rf0:=HZ3.out.r.f 0;have rf1:=HZ3.out.r.f 1;have rf2:=HZ3.out.r.f 2;have rl:=HZ3.out.r.lt;refine hK.out _ _ (HS1.out _ HZ3.out) (fun zH=>?_);clear hK K;refine wpAnyH_ready (rs:=[9]) (by kernel_rfl) (by simp) ?_;refine AllReadyH.cons rfl (fun K hK=>?_) AllReadyH.nil;go_simp
   have hS4:(fun Z:World=>Z.cell? ⟨bb,15,none⟩=some (.slice a n cc)/\Z.cell? ⟨bb,16,none⟩=some (.int .i64 D)/\bb<Z.heap.size) (((w3.setCell ⟨w.heap.size,0,none⟩ (.int .i64 D)).setCell ⟨w.heap.size,1,none⟩ (.slice a n cc)).setCell ⟨w.heap.size,2,none⟩ (.int .i64 (stg n g D))):=by
    have gg:Fr (One w.heap.size) w3 (((w3.setCell ⟨w.heap.size,0,none⟩ (.int .i64 D)).setCell ⟨w.heap.size,1,none⟩ (.slice a n cc)).setCell ⟨w.heap.size,2,none⟩ (.int .i64 (stg n g D))):=(((Fr.refl (One w.heap.size) w3).setCell (.inr rfl) _ _).setCell (.inr rfl) _ _).setCell (.inr rfl) _ _;have h3:=HS1.out _ HZ3.out;exact ⟨(gg.cell h3.2.2 hbr _).trans h3.1,(gg.cell h3.2.2 hbr _).trans h3.2.1,Nat.lt_of_lt_of_le h3.2.2 gg.size⟩
   refine hK.out _ _ hS4 (fun zH=>?_);clear hK K hS4;refine wpAnyH_done (by kernel_rfl) ?_ _;clear zH;go_wp2_with fail
   refine bodyPost_ret (v:=.agg #[.int .i64 D,.slice a n cc,.int .i64 (stg n g D)]) (by simp [results,Tryz.results19,go_sem,r0,r1,r2]) rfl ?_;rw [<- HRs.out];have hc:=HZ3.out.b.c;rw [HN.out] at hc;have hq:=fw_out hc HZ3.out.up (Nat.le_refl _) HFa.out (.int .i64 D) (.slice a n cc) (.int .i64 (stg n g D))
   first|exact ⟨a,cc,rfl,hq.1,.inl rfl,hq.2⟩|exact ⟨a,⟨cc,rfl⟩,hq.1,.inl rfl,hq.2⟩
end Go.Proofs.YtiejdpjgplikjaaGreatDoor.Mo
namespace Go.Proofs.YtiejdpjgplikjaaGreatDoor.Mo
open Go.ChangeShapes Go.WideShapes Go.ChangeAt Go.RowKit
open YtiejdpjgplikjaaGreatDoor.Op YtiejdpjgplikjaaGreatDoor.So YtiejdpjgplikjaaGreatDoor.Dp YtiejdpjgplikjaaGreatDoor.Bn
open YtiejdpjgplikjaaGreatDoor.Ls (Nl)
def jn (g:Nat->Int) (L:Nat):Int:=(if 1<L/\g 1<g 0 then 1 else 0)+(if 1<L/\g L<g (L+1) then 1 else 0)
theorem jn_in (g:Nat->Int) (L:Nat):0<=jn g L/\jn g L<=2:=by unfold jn;split <;> split <;> omega
theorem joined_any (b f n cap L:Nat) (g:Nat->Int) (w:World) (h:∀ k,k<n->w.cell? ⟨b,f+k,none⟩=some (.int .i64 (g k))) (h1:1<=L) (h4:L<=4) (hn:L+2<=n) :
  Calls Tryz.prog 171 #[.slice (some ⟨b,f,none⟩) n cap,.int .i64 (L:Int)] w fun e w'=>e=.returned (.int .i64 (jn g L))/\Below w.heap.size w w':=by
 have c0:=h 0 (by omega);have c1:=h 1 (by omega);have cL:=h L (by omega);have cM:=h (L+1) (by omega);have HJ:Hid ((if 1<L/\g 1<g 0 then 1 else 0)+(if 1<L/\g L<g (L+1) then 1 else 0)=jn g L):=rfl;rw [Nat.add_zero] at c0;generalize jn g L=r at *;generalize g 0=v0 at *;generalize g 1=v1 at *;generalize g L=vL at *;generalize g (L+1)=vM at *;clear h;have n2:(L:Int)+1<(n:Int):=by omega
 have n1:(L:Int)<(n:Int):=by omega
 have m0:(0:Int)<(n:Int):=by omega
 have m1:(1:Int)<(n:Int):=by omega
 by_cases hL:L=1
 ·subst hL;have HJ:Hid (0=r):=HJ.out;clear c0 c1 cL cM;go_enter Tryz.func171,Tryz.ntmps171;go_wp2_with fail
  go_quiet (fail)
  go_wp2_with fail
  go_quiet (fail)
  go_wp2_with fail
  go_ret
  exact ⟨ret_int HJ.out,⟨rfl,rfl,rfl,Nat.le_refl _,fun _ _=>rfl⟩⟩
 ·have l2:1<L:=by omega
  have l3:(1:Int)<(L:Int):=by omega
  have l4:(L:Int)<=4:=by omega
  have e1:((L:Int)+1).toNat = L+1:=by omega
  have hw:IntKind.i64.wrap ((L:Int)+1)=(L:Int)+1:=by rw [IntKind.wrap_i64];omega
  rcases Int.lt_or_le v1 v0 with p|p <;> rcases Int.lt_or_le vL vM with q|q
  ·have HJ:Hid (2=r):=by have:=HJ.out;rw [if_pos ⟨l2,p⟩,if_pos ⟨l2,q⟩] at this;exact this
   go_enter Tryz.func171,Tryz.ntmps171;go_wp2_with fail
   go_quiet (fail)
   go_wp2_with fail
   go_quiet (fail)
   go_wp2_with fail
   go_ret
   exact ⟨ret_int HJ.out,⟨rfl,rfl,rfl,Nat.le_refl _,fun _ _=>rfl⟩⟩
  ·have HJ:Hid (1=r):=by have:=HJ.out;rw [if_pos ⟨l2,p⟩,if_neg (by omega)] at this;exact this
   have q':decide (vL<vM)=false:=decide_eq_false (by omega);go_enter Tryz.func171,Tryz.ntmps171;go_wp2_with fail
   go_quiet (fail)
   go_wp2_with fail
   go_quiet (fail)
   go_wp2_with fail
   go_ret
   exact ⟨ret_int HJ.out,⟨rfl,rfl,rfl,Nat.le_refl _,fun _ _=>rfl⟩⟩
  ·have HJ:Hid (1=r):=by have:=HJ.out;rw [if_neg (by omega),if_pos ⟨l2,q⟩] at this;exact this
   have p':decide (v1<v0)=false:=decide_eq_false (by omega);go_enter Tryz.func171,Tryz.ntmps171;go_wp2_with fail
   go_quiet (fail)
   go_wp2_with fail
   go_quiet (fail)
   go_wp2_with fail
   go_ret
   exact ⟨ret_int HJ.out,⟨rfl,rfl,rfl,Nat.le_refl _,fun _ _=>rfl⟩⟩
  ·have HJ:Hid (0=r):=by have:=HJ.out;rw [if_neg (by omega),if_neg (by omega)] at this;exact this
   have p':decide (v1<v0)=false:=decide_eq_false (by omega);have q':decide (vL<vM)=false:=decide_eq_false (by omega);go_enter Tryz.func171,Tryz.ntmps171;go_wp2_with fail
   go_quiet (fail)
   go_wp2_with fail
   go_quiet (fail)
   go_wp2_with fail
   go_ret
   exact ⟨ret_int HJ.out,⟨rfl,rfl,rfl,Nat.le_refl _,fun _ _=>rfl⟩⟩
structure Wn (W:World) (b:Nat) (e l:Nat->Int):Prop where
 e:∀ i,i<64->W.cell? ⟨b,i*2,none⟩=some (.int .i64 (e i))
 l:∀ i,i<64->W.cell? ⟨b,i*2+1,none⟩=some (.int .i64 (l i))
 f:∀ k,W.frozen? ⟨b,k,none⟩=false
 lt:b<W.heap.size
def ahB (e l:Nat->Int) (F:Nat->Int) (n m:Nat):Bool:=
 decide ((l n-e n+1)*(1+F m)<(l m-e m+1)*(1+F n)) || (decide ((l n-e n+1)*(1+F m)=(l m-e m+1)*(1+F n))&&decide (e n<e m))
theorem Wn.up {W W':World} {b:Nat} {e l:Nat->Int} (h:Wn W b e l) (g:Below W.heap.size W W'):Wn W' b e l:=
 ⟨fun i hi=>by rw [(bcell g).1 _ _ h.lt];exact h.e i hi,fun i hi=>by rw [(bcell g).1 _ _ h.lt];exact h.l i hi,fun k=>by rw [(bcell g).2 _ _ h.lt];exact h.f k,Nat.lt_of_lt_of_le h.lt g.size⟩
theorem mul_in {a b:Int} (a0 : -30000000<=a) (a1:a<=30000000) (b0:0<=b) (b1:b<=100000) : -3000000000000<=a*b/\a*b<=3000000000000:=by
 have h1:=Int.mul_le_mul_of_nonneg_right a1 b0;have h2:=Int.mul_le_mul_of_nonneg_right a0 b0;omega
structure WnIn (n:Nat) (e l F:Nat->Int):Prop where
 e:∀ i,i<n→-10000000<=e i/\e i<=10000000
 l:∀ i,i<n→-10000000<=l i/\l i<=10000000
 f:∀ i,i<n->0<=F i/\F i<=10000
theorem isAhead_any (sb wb n m N:Nat) (e l F:Nat->Int) (fa:Option Addr) (fc:Nat) (w:World) (hS:w.cell? ⟨sb,5,none⟩=some (.slice fa N fc)) (hW:Wn w wb e l) (hF:Nl w fa N F) (hI:WnIn N e l F) (hn:n<N) (hm:m<N) (hN:N<=64) :
  Calls Tryz.prog 169 #[.pointer (some ⟨sb,0,none⟩),.pointer (some ⟨wb,0,none⟩),.int .i64 (n:Int),.int .i64 (m:Int)] w fun e' w'=>e' = .returned (.bool (ahB e l F n m))/\Below w.heap.size w w':=by
 obtain ⟨fb,ff,rfl,fl,hx⟩:=hF.is (by omega);have f1:=hx n hn;have f2:=hx m hm;have e1:=hW.e n (by omega);have e2:=hW.e m (by omega);have l1:=hW.l n (by omega);have l2:=hW.l m (by omega);have wl:=hW.lt;have HR:Hid ((decide ((l n-e n+1)*(1+F m)<(l m-e m+1)*(1+F n)) || (decide ((l n-e n+1)*(1+F m)=(l m-e m+1)*(1+F n))&&decide (e n<e m)))=ahB e l F n m):=rfl;obtain ⟨x1,x2⟩:=hI.e n hn;obtain ⟨x3,x4⟩:=hI.e m hm;obtain ⟨x5,x6⟩:=hI.l n hn;obtain ⟨x7,x8⟩:=hI.l m hm;obtain ⟨x9,xa⟩:=hI.f n hn;obtain ⟨xb,xc⟩:=hI.f m hm;clear hx hW hF hI;generalize ahB e l F n m=r at *;generalize e n=en at *;generalize e m=em at *;generalize l n=ln at *;generalize l m=lm at *;generalize F n=Fn at *;generalize F m=Fm at *;obtain ⟨p1,p2⟩:=mul_in (a:=ln-en+1) (b:=1+Fm) (by omega) (by omega) (by omega) (by omega);obtain ⟨p3,p4⟩:=mul_in (a:=lm-em+1) (b:=1+Fn) (by omega) (by omega) (by omega) (by omega);have hw1:IntKind.i64.wrap ((ln-en+1)*(1+Fm))=(ln-en+1)*(1+Fm):=by rw [IntKind.wrap_i64];omega
 have hw2:IntKind.i64.wrap ((lm-em+1)*(1+Fn))=(lm-em+1)*(1+Fn):=by rw [IntKind.wrap_i64];omega
 have n0:(0:Int)<=(n:Int):=by omega
 have m0:(0:Int)<=(m:Int):=by omega
 have n1:(n:Int)<(N:Int):=by omega
 have m1:(m:Int)<(N:Int):=by omega
 have n2:(n:Int)<64:=by omega
 have m2:(m:Int)<64:=by omega
 go_enter Tryz.func169,Tryz.ntmps169;go_wp2_with fail
 go_quiet (fail)
 go_wp2_with fail
 go_quiet (fail)
 go_wp2_with fail
 generalize (ln-en+1)*(1+Fm)=P at *;generalize (lm-em+1)*(1+Fn)=Q at *;rcases Int.lt_trichotomy P Q with c|c|c
 ·replace HR:Hid (true=r):=by rw [<- HR.out,decide_eq_true c];rfl
  go_quiet (fail)
  go_wp2_with fail
  go_ret
  exact ⟨ret_bool HR.out,⟨rfl,rfl,rfl,Nat.le_refl _,fun _ _=>rfl⟩⟩
 ·subst c;have c1:decide (P<P)=false:=decide_eq_false (by omega)
  by_cases d:en<em
  ·replace HR:Hid (true=r):=by rw [<- HR.out,c1,decide_eq_true d,decide_eq_true rfl];rfl
   go_quiet (fail)
   go_wp2_with fail
   go_ret
   exact ⟨ret_bool HR.out,⟨rfl,rfl,rfl,Nat.le_refl _,fun _ _=>rfl⟩⟩
  ·have d':decide (en<em)=false:=decide_eq_false d
   replace HR:Hid (false=r):=by rw [<- HR.out,c1,d',decide_eq_true rfl];rfl
   go_quiet (fail)
   go_wp2_with fail
   go_ret
   exact ⟨ret_bool HR.out,⟨rfl,rfl,rfl,Nat.le_refl _,fun _ _=>rfl⟩⟩
 ·have c1:decide (P<Q)=false:=decide_eq_false (by omega);have c2:decide (P=Q)=false:=decide_eq_false (by omega);have c3:(P==Q)=false:=by simpa using c2
  replace HR:Hid (false=r):=by rw [<- HR.out,c1,c2];rfl
  go_quiet (fail)
  go_wp2_with fail
  go_ret
  exact ⟨ret_bool HR.out,⟨rfl,rfl,rfl,Nat.le_refl _,fun _ _=>rfl⟩⟩
def nxP (e l F P:Nat->Int):Nat->Int
 | 0=>-1
 | k+1=>if P k = -1/\(nxP e l F P k = -1\/ahB e l F k (nxP e l F P k).toNat = true) then (k:Int) else nxP e l F P k
theorem nxP_in (e l F P:Nat->Int):∀ k,nxP e l F P k = -1\/0<=nxP e l F P k/\nxP e l F P k<k/\P (nxP e l F P k).toNat = -1
 | 0=>.inl rfl
 | k+1=>by
  have h:=nxP_in e l F P k;unfold nxP
  split
  ·rename_i c;refine .inr ⟨by omega,by omega,?_⟩;rw [Int.toNat_natCast];exact c.1
  ·rcases h with h|⟨h1,h2,h3⟩
   ·exact .inl h
   ·exact .inr ⟨h1,by omega,h3⟩
theorem nxP_all {e l F P:Nat->Int} : ∀ {k:Nat},nxP e l F P k = -1->∀ i,i<k->P i≠-1
 | 0,_,i,hi=>by omega
 | k+1,h,i,hi=>by
  unfold nxP at h
  split at h
  ·omega
  ·rename_i c;have h2:=nxP_all h;rcases Nat.lt_or_ge i k with d|d
   ·exact h2 i d
   ·obtain rfl:i=k:=by omega
    exact fun e=>c ⟨e,.inl h⟩
theorem next_any (sb wb N:Nat) (e l F P:Nat->Int) (pa fa:Option Addr) (pc fc:Nat) (w:World) (hP:w.cell? ⟨sb,3,none⟩=some (.slice pa N pc)) (hS:w.cell? ⟨sb,5,none⟩=some (.slice fa N fc)) (hs:sb<w.heap.size) (hW:Wn w wb e l) (hp:Nl w pa N P) (hF:Nl w fa N F) (hI:WnIn N e l F) (hN:N<=64) :
  Calls Tryz.prog 156 #[.pointer (some ⟨sb,0,none⟩),.pointer (some ⟨wb,0,none⟩)] w fun e' w'=>e' = .returned (.int .i64 (nxP e l F P N))/\Below w.heap.size w w':=by
 have HA:Hid (∀ W n m,Below w.heap.size w W->n<N->m<N->Calls Tryz.prog 169 #[.pointer (some ⟨sb,0,none⟩),.pointer (some ⟨wb,0,none⟩),.int .i64 (n:Int),.int .i64 (m:Int)] W fun e' w'=>e' = .returned (.bool (ahB e l F n m))/\Below W.heap.size W w'):=fun W n m hb hn hm=>isAhead_any sb wb n m N e l F fa fc W (by rw [(bcell hb).1 _ _ hs];exact hS) (hW.up hb) (hF.up hb) hI hn hm hN;have HP:Hid (Nl w pa N P):=hp;have hN':(N:Int)<=64:=by omega
 clear hS hW hF hI hp;go_enter Tryz.func156,Tryz.ntmps156;go_wp2_with fail
 go_loopw [5,13] (fun b i wr=>∃ k:Nat,k<=N/\i=.int .i64 k/\b=.int .i64 (nxP e l F P k)/\Below w.heap.size w wr) (fun _ i _=>N-(intOf i).toNat)
 case atStart=>exact ⟨0,by omega,rfl,rfl,by go_grown⟩
 case round=>
  rename World=>wr;obtain ⟨k,hk,rfl,rfl,hb⟩:=hrel;have HB:Hid (Below w.heap.size w wr):=hb;clear hb
  by_cases hlt:k<N
  ·have k0:(0:Int)<=(k:Int):=by omega
   have k1:(k:Int)<(N:Int):=by omega
   obtain ⟨b,f,rfl,pl,hx⟩:=(HP.out.up HB.out).is (by omega);have q0:=hx k hlt;have h3:=nxP_in e l F P k;have HR:Hid ((if P k = -1/\(nxP e l F P k = -1\/ahB e l F k (nxP e l F P k).toNat = true) then (k:Int) else nxP e l F P k)=nxP e l F P (k+1)):=rfl;clear hx
   by_cases hq:P k = -1
   ·rw [hq] at q0;rcases h3 with h3|⟨h3,h4,-⟩
    ·replace HR:Hid ((k:Int)=nxP e l F P (k+1)):=by have h:=HR.out;rw [if_pos ⟨hq,.inl h3⟩] at h;exact h
     rw [h3];clear hq h3;go_wp2_with fail
     go_roundw
     case rel=>exact ⟨k+1,by omega,by go_num,by rw [HR.out],HB.out⟩
     case measure=>simp [intOf];omega
    ·obtain ⟨m,hm⟩:∃ m:Nat,nxP e l F P k=m:=⟨(nxP e l F P k).toNat,by omega⟩;rw [hm] at HR h3 h4 ⊢;have hc:=HA.out wr k m HB.out (by omega) (by omega);have HC:Hid (Calls Tryz.prog 169 #[.pointer (some ⟨sb,0,none⟩),.pointer (some ⟨wb,0,none⟩),.int .i64 (k:Int),.int .i64 (m:Int)] wr fun e' w'=>e' = .returned (.bool (ahB e l F k m))/\Below wr.heap.size wr w'):=hc;have hmn:((m:Int) == -1)=false:=by simp
     clear hc;rw [Int.toNat_natCast] at HR
     cases ha:ahB e l F k m with
     | true=>
      rw [ha] at HC HR
      replace HR:Hid ((k:Int)=nxP e l F P (k+1)):=by have h:=HR.out;rw [if_pos ⟨hq,.inr rfl⟩] at h;exact h
      clear hq hm ha;go_wp2_with (first
       | (go_at_call 169;refine Calls.mono HC.out ?_;rintro e1 w1 ⟨rfl,b1⟩;have HB1:Hid (Below w.heap.size w w1):=HB.out.trans (b1.mono HB.out.size);clear b1 HC))
      go_roundw
      case rel=>exact ⟨k+1,by omega,by go_num,by rw [HR.out],HB1.out⟩
      case measure=>simp [intOf];omega
     | false=>
      rw [ha] at HC HR
      replace HR:Hid ((m:Int)=nxP e l F P (k+1)):=by have h:=HR.out;rw [if_neg (by rintro ⟨-,h|h⟩;omega;exact Bool.noConfusion h)] at h;exact h
      clear hq hm ha;go_wp2_with (first
       | (go_at_call 169;refine Calls.mono HC.out ?_;rintro e1 w1 ⟨rfl,b1⟩;have HB1:Hid (Below w.heap.size w w1):=HB.out.trans (b1.mono HB.out.size);clear b1 HC))
      go_roundw
      case rel=>exact ⟨k+1,by omega,by go_num,by rw [HR.out],HB1.out⟩
      case measure=>simp [intOf];omega
   ·have hq':(P k == -1)=false:=by simpa using hq
    replace HR:Hid (nxP e l F P k=nxP e l F P (k+1)):=by have h:=HR.out;rw [if_neg (by rintro ⟨h,-⟩;exact hq h)] at h;exact h
    generalize nxP e l F P k=y at *;generalize P k=z at *;clear h3;go_wp2_with fail
    go_roundw
    case rel=>exact ⟨k+1,by omega,by go_num,by rw [HR.out],HB.out⟩
    case measure=>simp [intOf];omega
  ·obtain rfl:k=N:=by omega
   have k1:¬ (k:Int)<(k:Int):=by omega
   obtain ⟨y,hy⟩:∃ y,nxP e l F P k=y:=⟨_,rfl⟩;have HY:Hid (y=nxP e l F P k):=hy.symm;rw [hy];clear hy;go_wp2_with fail
   go_ret
   exact ⟨ret_int HY.out,HB.out⟩
end Go.Proofs.YtiejdpjgplikjaaGreatDoor.Mo
