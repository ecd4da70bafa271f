/- Parts Gm Gn. -/
import Derived.Test.YtpdaknbmcpmhjaaGreatDoorN31
import Derived.Test.YtpdaknbmcpmhjaaGreatDoorN28
set_option maxRecDepth 20000
set_option maxHeartbeats 4000000
namespace Go.Proofs.YtpdaknbmcpmhjaaGreatDoor.Pk
open Go.ChangeShapes Go.WideShapes Go.ChangeAt Go.RowKit
open YtpdaknbmcpmhjaaGreatDoor.Op YtpdaknbmcpmhjaaGreatDoor.So YtpdaknbmcpmhjaaGreatDoor.Bu
open YtpdaknbmcpmhjaaGreatDoor.Tb (Tab TabAt Bnds)
open YtpdaknbmcpmhjaaGreatDoor.Ly (At.set At.fr)
def szK (x:Bn):Nat->Nat
 | 0=>0
 | k+1=>szK x k+(x.l k).length
def szN (x:Bn):Nat:=szK x 4
theorem szK_le {x:Bn} {m:Nat} (h:∀ k,k<4->(x.l k).length<=m):∀ k,k<=4->szK x k<=k*m
 | 0,_=>by simp [szK]
 | k+1,hk=>by
  have:=szK_le h k (by omega)
  have:=h k (by omega)
  simp only [szK,Nat.add_mul];omega
theorem size_any (x:Bn) (p:Pb) (w:World) (hl:∀ k,k<4->(x.l k).length<=8796093022208):Calls Tryz.prog 81 #[bval x p] w fun e w'=>e=.returned (.int .i64 (szN x:Int))/\Below w.heap.size w w':=by
 have HI:Hid (∀ k:Nat,k<4->∀ w,(Instr.index 63 (bval x p) (.int .i64 k)).run Tryz.prog w=.ok (.slice (p.a k) (x.l k).length (p.c k)) w):=fun k hk w=>by
  match k,hk with
  | 0,_=>rfl
  | 1,_=>rfl
  | 2,_=>rfl
  | 3,_=>rfl
 have HZ:Hid (∀ k,k<=4->szK x k<=35184372088832):=fun k hk=>by have:=szK_le hl k hk;have:k*8796093022208<=4*8796093022208:=Nat.mul_le_mul_right _ hk;omega
 have H0:Hid (Below w.heap.size w (w.alloc (.cells (bcs x p) 65))):=(Below.refl _ _).alloc (Nat.le_refl _) _;go_enter Tryz.func81,Tryz.ntmps81;go_wp2_with fail
 generalize w.alloc (.cells (bcs x p) 65)=X at *
 go_loopw [3,8] (fun c i wr=>∃ k:Nat,k<=4/\i=.int .i64 k/\c=.int .i64 (szK x k:Int)/\wr=X) (fun _ i _=>4-(intOf i).toNat)
 case atStart=>exact ⟨0,by omega,rfl,rfl,rfl⟩
 case round=>
  obtain ⟨k,hk,rfl,rfl,rfl⟩:=hrel
  by_cases hlt:k<4
  ·have k1:(k:Int)<4:=by omega
   have hi:=HI.out k hlt;have hz:=HZ.out (k+1) (by omega);have HN:Hid (szK x (k+1)=szK x k+(x.l k).length):=rfl;rw [HN.out] at hz;have hw:IntKind.i64.wrap ((szK x k:Int)+((x.l k).length:Int))=(szK x k:Int)+((x.l k).length:Int):=by rw [IntKind.wrap_i64];omega
   go_wp2_with fail
   go_roundw
   case rel=>exact ⟨k+1,by omega,by go_num,by rw [HN.out];simp,trivial⟩
   case measure=>simp [intOf];omega
  ·obtain rfl:k=4:=by omega
   go_wp2_with fail
   go_ret
   exact ⟨rfl,H0.out⟩
structure Nb where
 o:Nat
 e:Nat
 g:Nat
def nbS (n:Nb) (z:Nat):Nb:=⟨n.o+z,if z=0 then n.e+1 else n.e,max n.g z⟩
def nbL (ls:List Bn):Nb:=ls.foldl (fun n x=>nbS n (szN x)) ⟨0,0,0⟩
theorem nbL_succ {ls:List Bn} {k:Nat} (h:k<ls.length):nbL (ls.take (k+1))=nbS (nbL (ls.take k)) (szN ls[k]):=by
 unfold nbL;rw [List.take_succ_eq_append_getElem h,List.foldl_append];rfl
theorem nb_le {ls:List Bn} {m:Nat} (h:∀ x∈ls,szN x<=m):∀ k,k<=ls.length->(nbL (ls.take k)).o<=k*m/\(nbL (ls.take k)).e<=k/\(nbL (ls.take k)).g<=m
 | 0,_=>by simp [nbL]
 | k+1,hk=>by
  have h1:=nb_le h k (by omega);have h2:=h ls[k] (List.getElem_mem (by omega));rw [nbL_succ (by omega)];unfold nbS;dsimp only;rw [Nat.add_mul];refine ⟨by omega,by split <;> omega,by omega⟩
structure Nm (w W:World) (rb nb:Nat) (L:Nat) (n:Nb):Prop where
 r:At W rb #[.int .i64 0,.int .i64 0,.int .i64 0,.int .i64 0]
 n:At W nb #[.int .i64 (L:Int),.int .i64 (n.o:Int),.int .i64 (n.e:Int),.int .i64 (n.g:Int)]
 u:Below w.heap.size w W
 ne:rb≠nb
 l1:w.heap.size<=rb
 l2:w.heap.size<=nb
theorem Nm.up {w W W':World} {rb nb L:Nat} {n:Nb} (h:Nm w W rb nb L n) (g:Below W.heap.size W W'):Nm w W' rb nb L n:=⟨At.fr h.r (Fr.of (X:=Non) g) fun e=>e,At.fr h.n (Fr.of (X:=Non) g) fun e=>e,h.u.trans (g.mono h.u.size),h.ne,h.l1,h.l2⟩
theorem Nm.set {w W:World} {rb nb L:Nat} {n:Nb} (h:Nm w W rb nb L n) (o e g:Nat):Nm w (((W.setCell ⟨nb,1,none⟩ (.int .i64 (o:Int))).setCell ⟨nb,3,none⟩ (.int .i64 (g:Int))).setCell ⟨nb,2,none⟩ (.int .i64 (e:Int))) rb nb L ⟨o,e,g⟩:=by
 have f:Fr (One nb) W (((W.setCell ⟨nb,1,none⟩ (.int .i64 (o:Int))).setCell ⟨nb,3,none⟩ (.int .i64 (g:Int))).setCell ⟨nb,2,none⟩ (.int .i64 (e:Int))):=(((Fr.refl (One nb) W).setCell (.inr rfl) _ _).setCell (.inr rfl) _ _).setCell (.inr rfl) _ _;exact ⟨At.fr h.r f h.ne,At.set (k:=2) (At.set (k:=3) (At.set (k:=1) h.n (by simp)) (by simp)) (by simp),((h.u.setCell (p:=⟨nb,1,none⟩) h.l2 _).setCell (p:=⟨nb,3,none⟩) h.l2 _).setCell (p:=⟨nb,2,none⟩) h.l2 _,h.ne,h.l1,h.l2⟩
theorem Nm.set2 {w W:World} {rb nb L:Nat} {n:Nb} (h:Nm w W rb nb L n) (o g:Nat):Nm w ((W.setCell ⟨nb,1,none⟩ (.int .i64 (o:Int))).setCell ⟨nb,3,none⟩ (.int .i64 (g:Int))) rb nb L ⟨o,n.e,g⟩:=by
 have f:Fr (One nb) W ((W.setCell ⟨nb,1,none⟩ (.int .i64 (o:Int))).setCell ⟨nb,3,none⟩ (.int .i64 (g:Int))):=((Fr.refl (One nb) W).setCell (.inr rfl) _ _).setCell (.inr rfl) _ _;exact ⟨At.fr h.r f h.ne,At.set (k:=3) (At.set (k:=1) h.n (by simp)) (by simp),(h.u.setCell (p:=⟨nb,1,none⟩) h.l2 _).setCell (p:=⟨nb,3,none⟩) h.l2 _,h.ne,h.l1,h.l2⟩
theorem LD_len (t:Tab) (v:Nat->Int) (n:Nat):(LD t v n).length<=65536:=by
 unfold LD
 split
 ·rename_i h;rw [deL_len];exact (deE_ok h).2.2.1
 ·simp
def nuE (t:Tab) (v:Nat->Int) (n tn:Nat):Int:=if deE t v n=0 then (if tn=(LD t v n).length then 0 else 2) else deE t v n
abbrev nuV (L:Nat) (b:Nb):Value:=.agg #[.int .i64 (L:Int),.int .i64 (b.o:Int),.int .i64 (b.e:Int),.int .i64 (b.g:Int)]
def nuR (t:Tab) (v:Nat->Int) (n tn:Nat):Value:=if nuE t v n tn=0 then nuV (LD t v n).length (nbL (LD t v n)) else nuV 0 ⟨0,0,0⟩
theorem bs_sz {W:World} {a:Option Addr} {ls:List Bn} (h:BsAt W a ls):∀ x∈ls,∀ k,k<4->(x.l k).length<=8796093022208:=by
 intro x hx k hk;obtain ⟨i,hi,rfl⟩:=List.getElem_of_mem hx;obtain ⟨b,f,-,-,hh⟩:=h.is (by omega);obtain ⟨p,-,h2⟩:=hh i hi;exact (h2.o k hk).len
structure Nd (w W:World) (t:Tab) (a:Option Addr) (ls:List Bn) (n3:Array Value):Prop where
 k:At W w.heap.size n3
 r:At W (w.heap.size+2) #[.int .i64 0,.int .i64 0,.int .i64 0,.int .i64 0]
 u:Below w.heap.size w W
 b:BsAt W a ls
theorem nd_of {w W:World} {t:Tab} {a:Option Addr} {ls:List Bn} {n3:Array Value} (hb:Below (w.heap.size+1+1+1) (((w.alloc (.cells n3 73)).alloc (.cells t.cells 27)).alloc (.cells #[.int .i64 0,.int .i64 0,.int .i64 0,.int .i64 0] 77)) W) (h:BsAt W a ls):Nd w W t a ls n3:=by
 have h1:=((At.new w n3 73).alloc (.cells t.cells 27)).alloc (.cells #[.int .i64 0,.int .i64 0,.int .i64 0,.int .i64 0] 77);have h3:=At.new ((w.alloc (.cells n3 73)).alloc (.cells t.cells 27)) #[.int .i64 0,.int .i64 0,.int .i64 0,.int .i64 0] 77;simp only [World.size_alloc] at h3;have f:Fr Non (((w.alloc (.cells n3 73)).alloc (.cells t.cells 27)).alloc (.cells #[.int .i64 0,.int .i64 0,.int .i64 0,.int .i64 0] 77)) W:=Fr.of (by simpa using hb);exact ⟨At.fr h1 f (fun e=>e),At.fr h3 f (fun e=>e),(by go_grown:Below w.heap.size w (((w.alloc (.cells n3 73)).alloc (.cells t.cells 27)).alloc (.cells #[.int .i64 0,.int .i64 0,.int .i64 0,.int .i64 0] 77))).trans (hb.mono (by omega)),h⟩
theorem numbers_any (wa ta ba:Option Addr) (n wc tn tc bn bc:Nat) (v:Nat->Int) (t:Tab) (w:World) (hx:Ws w wa n v) (hc:n<=wc) (hG:Bnds w) (hn:n<=17592186044416) (_htn:tn<=9223372036854775807) :
  Calls Tryz.prog 31 #[.agg #[.slice wa n wc,.slice ta tn tc,.slice ba bn bc],t.val] w fun e w'=>e=.returned (.tuple #[nuR t v n tn,.int .i64 (nuE t v n tn)])/\Below w.heap.size w w':=by
 have HD:Hid (∀ W,Below w.heap.size w W->Calls Tryz.prog 80 #[.slice wa n wc,.agg #[.int .i64 (t.u 0),.int .i64 (t.u 1),.int .i64 (t.u 2),.int .i64 (t.u 3),.int .i64 (t.l 0),.int .i64 (t.l 1),.int .i64 (t.l 2),.int .i64 (t.l 3),.int .i64 (t.b 0),.int .i64 (t.b 1),.int .i64 (t.b 2),.int .i64 (t.b 3),.int .i64 t.d]] W fun e w'=>∃ a c,e=.returned (.tuple #[.slice a (LD t v n).length c,.int .i64 (deE t v n)])/\BsAt w' a (LD t v n)/\Below W.heap.size W w'):=fun W hW=>dec_uni wa n wc v t W (hx.below hW) hc (hG.below hW hG.big) hn;have hll:=LD_len t v n;unfold Tab.val;clear hx hG;go_enter Tryz.func31,Tryz.ntmps31
 by_cases he:deE t v n=0
 ·by_cases ht:tn=(LD t v n).length
  ·have hR:nuR t v n tn=nuV (LD t v n).length (nbL (LD t v n))/\nuE t v n tn=0:=by
    have:nuE t v n tn=0:=by unfold nuE;rw [if_pos he,if_pos ht]
    exact ⟨by unfold nuR;rw [if_pos this],this⟩
   rw [hR.1,hR.2];clear hR;rw [he] at HD;generalize LD t v n=ls at *;have htb:((tn:Int) != (ls.length:Int))=false:=by simp;omega
   clear ht;go_upto_region 7 with (first|(go_at_call 80;refine Calls.mono (HD.out _ (by go_grown)) ?_;rintro e w1 ⟨a1,c1,rfl,h1,h2⟩;have HN:Hid (Nd w w1 t a1 ls #[.slice wa n wc,.slice ta tn tc,.slice ba bn bc]):=nd_of (by simpa using h2) h1;have r0:=HN.out.r.c 0 _ rfl;have r1:=HN.out.r.c 1 _ rfl;have r2:=HN.out.r.c 2 _ rfl;have r3:=HN.out.r.c 3 _ rfl;have rf:=HN.out.r.f;have rl:=HN.out.r.lt;have d1:=HN.out.k.c 1 _ rfl;have dl:=HN.out.k.lt;clear h1 h2))
   have HM:Hid (Nm w (w1.alloc (.cells #[.int .i64 (ls.length:Int),.int .i64 0,.int .i64 0,.int .i64 0] 77)) (w.heap.size+2) w1.heap.size ls.length ⟨0,0,0⟩/\Below w1.heap.size w1 (w1.alloc (.cells #[.int .i64 (ls.length:Int),.int .i64 0,.int .i64 0,.int .i64 0] 77))):=by
    have hb:Below w1.heap.size w1 (w1.alloc (.cells #[.int .i64 (ls.length:Int),.int .i64 0,.int .i64 0,.int .i64 0] 77)):=(Below.refl _ _).alloc (Nat.le_refl _) _
    have:=HN.out.u.size
    exact ⟨⟨At.fr HN.out.r (Fr.of (X:=Non) hb) (fun e=>e),At.new _ _ _,HN.out.u.trans (hb.mono this),by omega,by omega,by omega⟩,hb⟩
   have HB1:Hid (∀ W,Below w1.heap.size w1 W->BsAt W a1 ls):=fun W hb=>HN.out.b.below hb;clear HN r0 r1 r2 r3 rf rl d1 dl;generalize w1.alloc (.cells #[.int .i64 (ls.length:Int),.int .i64 0,.int .i64 0,.int .i64 0] 77)=X at *;generalize w1.heap.size=nb at *;have HSz:Hid (∀ x∈ls,∀ k,k<4->(x.l k).length<=8796093022208):=bs_sz (HB1.out _ HM.out.2);have HLe:Hid (∀ k,k<=ls.length->(nbL (ls.take k)).o<=k*35184372088832/\(nbL (ls.take k)).e<=k/\(nbL (ls.take k)).g<=35184372088832):=nb_le fun x hx=>szK_le (HSz.out x hx) 4 (Nat.le_refl _);go_wp2_with fail
   go_loopw [35] (fun i wr=>∃ k:Nat,k<=ls.length/\i=.int .i64 k/\Hid (Nm w wr (w.heap.size+2) nb ls.length (nbL (ls.take k))/\Below nb w1 wr)) (fun i _=>ls.length-(intOf i).toNat)
   case atStart=>exact ⟨0,by omega,rfl,HM⟩
   case round=>
    rename World=>wr;clear HM;obtain ⟨k,hk,rfl,HM⟩:=hrel
    by_cases hlt:k<ls.length
    ·have k1:(k:Int)<(ls.length:Int):=by omega
     obtain ⟨b,f,rfl,bl,hbs⟩:=(HB1.out wr HM.out.2).is (by omega);obtain ⟨p,hna,hbi⟩:=hbs k hlt;have c0:=hna.c 0 (by omega);have c1':=hna.c 1 (by omega);have c2:=hna.c 2 (by omega);have c3:=hna.c 3 (by omega);simp only [Nat.add_zero] at c0;have HNx:Hid _:=nbL_succ hlt;have HZ:Hid (∀ W,Calls Tryz.prog 81 #[bval ls[k] p] W fun e w'=>e=.returned (.int .i64 (szN ls[k]:Int))/\Below W.heap.size W w'):=fun W=>size_any ls[k] p W (HSz.out _ (List.getElem_mem hlt));have hz1:szN ls[k]<=35184372088832:=szK_le (HSz.out _ (List.getElem_mem hlt)) 4 (Nat.le_refl _);have hle:=HLe.out k hk;have hle2:k*35184372088832<=65536*35184372088832:=Nat.mul_le_mul_right _ (by omega);have HB:Hid (Below nb w1 wr):=HM.out.2;have hns:nb<=wr.heap.size:=Nat.le_of_lt HM.out.1.n.lt;have HMm:Hid (Nm w wr (w.heap.size+2) nb ls.length (nbL (ls.take k))):=HM.out.1;clear hna hbi hbs HM;generalize ls[k]=x at *;generalize szN x=z at *;generalize nbL (ls.take k)=m at *;obtain ⟨mo,me,mg⟩:=m;dsimp only at hle;have HU:Hid (∀ w5,Below (wr.alloc (.cells (bcs x p) 65)).heap.size (wr.alloc (.cells (bcs x p) 65)) w5->Nm w w5 (w.heap.size+2) nb ls.length ⟨mo,me,mg⟩/\Below nb w1 w5):=fun w5 h5=>by
      have hb:Below wr.heap.size wr w5:=((Below.refl _ _).alloc (Nat.le_refl _) _).trans (h5.mono (by simp));exact ⟨HMm.out.up hb,HB.out.trans (hb.mono hns)⟩
     have hwo:IntKind.i64.wrap ((mo:Int)+(z:Int))=(mo:Int)+(z:Int):=by rw [IntKind.wrap_i64];omega
     have hwe:IntKind.i64.wrap ((me:Int)+1)=(me:Int)+1:=by rw [IntKind.wrap_i64];omega
     by_cases hz0:z=0
     ·subst hz0;go_wp2_with (first|(go_at_call 81;refine Calls.mono (HZ.out _) ?_;rintro e w5 ⟨rfl,h5⟩;have HM5:Hid _:=HU.out w5 h5;have n1:=HM5.out.1.n.c 1 _ rfl;have n2:=HM5.out.1.n.c 2 _ rfl;have n3:=HM5.out.1.n.c 3 _ rfl;have nf:=HM5.out.1.n.f;have nl:=HM5.out.1.n.lt;clear h5))
      go_roundw
      case rel=>
       refine ⟨k+1,by omega,by go_num,?_⟩;rw [HNx.out];have q:=HM5.out.1.set mo (me+1) mg;have hb:=((HM5.out.2.setCell (p:=⟨nb,1,none⟩) (Nat.le_refl _) (.int .i64 (mo:Int))).setCell (p:=⟨nb,3,none⟩) (Nat.le_refl _) (.int .i64 (mg:Int))).setCell (p:=⟨nb,2,none⟩) (Nat.le_refl _) (.int .i64 ((me+1:Nat):Int));have e:nbS ⟨mo,me,mg⟩ 0=⟨mo,me+1,mg⟩:=by simp [nbS]
       rw [e];exact ⟨q,hb⟩
      case measure=>simp [intOf];omega
     ·have hzi:¬ (z:Int)=0:=by omega
      have hzb:((z:Int)==0)=false:=by simpa using hzi
      go_wp2_with (first|(go_at_call 81;refine Calls.mono (HZ.out _) ?_;rintro e w5 ⟨rfl,h5⟩;have HM5:Hid _:=HU.out w5 h5;have n1:=HM5.out.1.n.c 1 _ rfl;have n2:=HM5.out.1.n.c 2 _ rfl;have n3:=HM5.out.1.n.c 3 _ rfl;have nf:=HM5.out.1.n.f;have nl:=HM5.out.1.n.lt;clear h5))
      go_roundw
      case rel=>
       refine ⟨k+1,by omega,by go_num,?_⟩;rw [HNx.out];have q:=HM5.out.1.set2 (mo+z) (max mg z);have hb:=(HM5.out.2.setCell (p:=⟨nb,1,none⟩) (Nat.le_refl _) (.int .i64 ((mo+z:Nat):Int))).setCell (p:=⟨nb,3,none⟩) (Nat.le_refl _) (.int .i64 ((max mg z:Nat):Int));have e:nbS ⟨mo,me,mg⟩ z=⟨mo+z,me,max mg z⟩:=by unfold nbS;rw [if_neg hz0]
       have e2:((max mg z:Nat):Int)=if mg<z then (z:Int) else (mg:Int):=by split <;> omega
       rw [e];rw [e2] at q hb;exact ⟨q,hb⟩
      case measure=>simp [intOf];omega
    ·obtain rfl:k=ls.length:=by omega
     have k1:¬ (ls.length:Int)<(ls.length:Int):=by omega
     rw [List.take_length] at HM;have r0:=HM.out.1.r.c 0 _ rfl;have r1:=HM.out.1.r.c 1 _ rfl;have r2:=HM.out.1.r.c 2 _ rfl;have r3:=HM.out.1.r.c 3 _ rfl;have rf:=HM.out.1.r.f;have rl:=HM.out.1.r.lt;have n0:=HM.out.1.n.c 0 _ rfl;have n1:=HM.out.1.n.c 1 _ rfl;have n2:=HM.out.1.n.c 2 _ rfl;have n3:=HM.out.1.n.c 3 _ rfl;have nl:=HM.out.1.n.lt;go_wp2_with fail
     refine bodyPost_ret (v:=.tuple #[nuV ls.length (nbL ls),.int .i64 0]) (by simp [results,Tryz.results31,go_sem,r0,r1,r2,r3]) rfl ⟨rfl,?_⟩;exact (((HM.out.1.u.setCell (p:=⟨w.heap.size+2,0,none⟩) (by simp) _).setCell (p:=⟨w.heap.size+2,1,none⟩) (by simp) _).setCell (p:=⟨w.heap.size+2,2,none⟩) (by simp) _).setCell (p:=⟨w.heap.size+2,3,none⟩) (by simp) _
  ·have hR:nuR t v n tn=nuV 0 ⟨0,0,0⟩/\nuE t v n tn=2:=by
    have:nuE t v n tn=2:=by unfold nuE;rw [if_pos he,if_neg ht]
    exact ⟨by unfold nuR;rw [this,if_neg (by decide)],this⟩
   rw [hR.1,hR.2];clear hR;rw [he] at HD;generalize LD t v n=ls at *;have hti:¬ (tn:Int)=(ls.length:Int):=by omega
   have htb:((tn:Int) != (ls.length:Int))=true:=by simpa using hti
   go_wp2_with (first|(go_at_call 80;refine Calls.mono (HD.out _ (by go_grown)) ?_;rintro e w1 ⟨a1,c1,rfl,h1,h2⟩;have HN:Hid (Nd w w1 t a1 ls #[.slice wa n wc,.slice ta tn tc,.slice ba bn bc]):=nd_of (by simpa using h2) h1;have r0:=HN.out.r.c 0 _ rfl;have r1:=HN.out.r.c 1 _ rfl;have r2:=HN.out.r.c 2 _ rfl;have r3:=HN.out.r.c 3 _ rfl;have rf:=HN.out.r.f;have rl:=HN.out.r.lt;have d1:=HN.out.k.c 1 _ rfl;have dl:=HN.out.k.lt;clear h1 h2))
   refine bodyPost_ret (v:=.tuple #[nuV 0 ⟨0,0,0⟩,.int .i64 2]) (by simp [results,Tryz.results31,go_sem,r0,r1,r2,r3]) rfl ⟨rfl,?_⟩;exact (((HN.out.u.setCell (p:=⟨w.heap.size+2,0,none⟩) (by simp) _).setCell (p:=⟨w.heap.size+2,1,none⟩) (by simp) _).setCell (p:=⟨w.heap.size+2,2,none⟩) (by simp) _).setCell (p:=⟨w.heap.size+2,3,none⟩) (by simp) _
 ·have hR:nuR t v n tn=nuV 0 ⟨0,0,0⟩/\nuE t v n tn=deE t v n:=by
   have:nuE t v n tn=deE t v n:=by unfold nuE;rw [if_neg he]
   exact ⟨by unfold nuR;rw [this,if_neg he],this⟩
  rw [hR.1,hR.2];clear hR;generalize deE t v n=er at *;generalize LD t v n=ls at *;have hne:(er != 0)=true:=by simpa using he
  go_wp2_with (first|(go_at_call 80;refine Calls.mono (HD.out _ (by go_grown)) ?_;rintro e w1 ⟨a1,c1,rfl,h1,h2⟩;have HN:Hid (Nd w w1 t a1 ls #[.slice wa n wc,.slice ta tn tc,.slice ba bn bc]):=nd_of (by simpa using h2) h1;have r0:=HN.out.r.c 0 _ rfl;have r1:=HN.out.r.c 1 _ rfl;have r2:=HN.out.r.c 2 _ rfl;have r3:=HN.out.r.c 3 _ rfl;have rf:=HN.out.r.f;have rl:=HN.out.r.lt;have d1:=HN.out.k.c 1 _ rfl;have dl:=HN.out.k.lt;clear h1 h2))
  refine bodyPost_ret (v:=.tuple #[nuV 0 ⟨0,0,0⟩,.int .i64 er]) (by simp [results,Tryz.results31,go_sem,r0,r1,r2,r3]) rfl ⟨rfl,?_⟩;exact (((HN.out.u.setCell (p:=⟨w.heap.size+2,0,none⟩) (by simp) _).setCell (p:=⟨w.heap.size+2,1,none⟩) (by simp) _).setCell (p:=⟨w.heap.size+2,2,none⟩) (by simp) _).setCell (p:=⟨w.heap.size+2,3,none⟩) (by simp) _
theorem rnumbers_any (wa ta ba:Option Addr) (n wc tn tc bn bc:Nat) (v:Nat->Int) (t:Tab) (w:World) (hx:Ws w wa n v) (hc:n<=wc) (hn:n<=17592186044416) (_htn:tn<=9223372036854775807) :
  Calls Tryz.prog 32 #[.agg #[.slice wa n wc,.slice ta tn tc,.slice ba bn bc],t.val] w fun e w'=>e=.returned (.tuple #[nuR t v n tn,.int .i64 (nuE t v n tn)])/\Below w.heap.size w w':=by
 have HD:Hid (∀ W,Below w.heap.size w W->Calls Tryz.prog 82 #[.slice wa n wc,.agg #[.int .i64 (t.u 0),.int .i64 (t.u 1),.int .i64 (t.u 2),.int .i64 (t.u 3),.int .i64 (t.l 0),.int .i64 (t.l 1),.int .i64 (t.l 2),.int .i64 (t.l 3),.int .i64 (t.b 0),.int .i64 (t.b 1),.int .i64 (t.b 2),.int .i64 (t.b 3),.int .i64 t.d]] W fun e w'=>∃ a c,e=.returned (.tuple #[.slice a (LD t v n).length c,.int .i64 (deE t v n)])/\BsAt w' a (LD t v n)/\Below W.heap.size W w'):=fun W hW=>rdec_uni wa n wc v t W (hx.below hW) hc hn;have hll:=LD_len t v n;unfold Tab.val;clear hx;go_enter Tryz.func32,Tryz.ntmps32
 by_cases he:deE t v n=0
 ·by_cases ht:tn=(LD t v n).length
  ·have hR:nuR t v n tn=nuV (LD t v n).length (nbL (LD t v n))/\nuE t v n tn=0:=by
    have:nuE t v n tn=0:=by unfold nuE;rw [if_pos he,if_pos ht]
    exact ⟨by unfold nuR;rw [if_pos this],this⟩
   rw [hR.1,hR.2];clear hR;rw [he] at HD;generalize LD t v n=ls at *;have htb:((tn:Int) != (ls.length:Int))=false:=by simp;omega
   clear ht;go_upto_region 7 with (first|(go_at_call 82;refine Calls.mono (HD.out _ (by go_grown)) ?_;rintro e w1 ⟨a1,c1,rfl,h1,h2⟩;have HN:Hid (Nd w w1 t a1 ls #[.slice wa n wc,.slice ta tn tc,.slice ba bn bc]):=nd_of (by simpa using h2) h1;have r0:=HN.out.r.c 0 _ rfl;have r1:=HN.out.r.c 1 _ rfl;have r2:=HN.out.r.c 2 _ rfl;have r3:=HN.out.r.c 3 _ rfl;have rf:=HN.out.r.f;have rl:=HN.out.r.lt;have d1:=HN.out.k.c 1 _ rfl;have dl:=HN.out.k.lt;clear h1 h2))
   have HM:Hid (Nm w (w1.alloc (.cells #[.int .i64 (ls.length:Int),.int .i64 0,.int .i64 0,.int .i64 0] 77)) (w.heap.size+2) w1.heap.size ls.length ⟨0,0,0⟩/\Below w1.heap.size w1 (w1.alloc (.cells #[.int .i64 (ls.length:Int),.int .i64 0,.int .i64 0,.int .i64 0] 77))):=by
    have hb:Below w1.heap.size w1 (w1.alloc (.cells #[.int .i64 (ls.length:Int),.int .i64 0,.int .i64 0,.int .i64 0] 77)):=(Below.refl _ _).alloc (Nat.le_refl _) _
    have:=HN.out.u.size
    exact ⟨⟨At.fr HN.out.r (Fr.of (X:=Non) hb) (fun e=>e),At.new _ _ _,HN.out.u.trans (hb.mono this),by omega,by omega,by omega⟩,hb⟩
   have HB1:Hid (∀ W,Below w1.heap.size w1 W->BsAt W a1 ls):=fun W hb=>HN.out.b.below hb;clear HN r0 r1 r2 r3 rf rl d1 dl;generalize w1.alloc (.cells #[.int .i64 (ls.length:Int),.int .i64 0,.int .i64 0,.int .i64 0] 77)=X at *;generalize w1.heap.size=nb at *;have HSz:Hid (∀ x∈ls,∀ k,k<4->(x.l k).length<=8796093022208):=bs_sz (HB1.out _ HM.out.2);have HLe:Hid (∀ k,k<=ls.length->(nbL (ls.take k)).o<=k*35184372088832/\(nbL (ls.take k)).e<=k/\(nbL (ls.take k)).g<=35184372088832):=nb_le fun x hx=>szK_le (HSz.out x hx) 4 (Nat.le_refl _);go_wp2_with fail
   go_loopw [9] (fun i wr=>∃ k:Nat,k<=ls.length/\i=.int .i64 k/\Hid (Nm w wr (w.heap.size+2) nb ls.length (nbL (ls.take k))/\Below nb w1 wr)) (fun i _=>ls.length-(intOf i).toNat)
   case atStart=>exact ⟨0,by omega,rfl,HM⟩
   case round=>
    rename World=>wr;clear HM;obtain ⟨k,hk,rfl,HM⟩:=hrel
    by_cases hlt:k<ls.length
    ·have k1:(k:Int)<(ls.length:Int):=by omega
     obtain ⟨b,f,rfl,bl,hbs⟩:=(HB1.out wr HM.out.2).is (by omega);obtain ⟨p,hna,hbi⟩:=hbs k hlt;have c0:=hna.c 0 (by omega);have c1':=hna.c 1 (by omega);have c2:=hna.c 2 (by omega);have c3:=hna.c 3 (by omega);simp only [Nat.add_zero] at c0;have HNx:Hid _:=nbL_succ hlt;have hz1:szN ls[k]<=35184372088832:=szK_le (HSz.out _ (List.getElem_mem hlt)) 4 (Nat.le_refl _);have HZk:Hid (∀ j,j<=4->szK ls[k] j<=35184372088832):=fun j hj=>by have:=szK_le (HSz.out _ (List.getElem_mem hlt)) j hj;have:j*8796093022208<=4*8796093022208:=Nat.mul_le_mul_right _ hj;omega
     have hle:=HLe.out k hk;have hle2:k*35184372088832<=65536*35184372088832:=Nat.mul_le_mul_right _ (by omega);have HB:Hid (Below nb w1 wr):=HM.out.2;have HMm:Hid (Nm w wr (w.heap.size+2) nb ls.length (nbL (ls.take k))):=HM.out.1;have HNa:Hid (NAt wr b (f+k*4) ls[k] p):=hna;have HSe:Hid (szN ls[k]=szK ls[k] 4):=rfl;clear hna hbi hbs HM c0 c1' c2 c3;generalize ls[k]=x at *;generalize nbL (ls.take k)=m at *;obtain ⟨mo,me,mg⟩:=m;dsimp only at hle;go_wp2_with fail
     go_loopw [10,11] (fun c i wz=>∃ j:Nat,j<=4/\i=.int .i64 j/\c=.int .i64 (szK x j:Int)/\wz=wr) (fun _ i _=>4-(intOf i).toNat)
     case atStart=>exact ⟨0,by omega,rfl,rfl,rfl⟩
     case round=>
      obtain ⟨j,hj,rfl,rfl,rfl⟩:=hrel
      by_cases hj4:j<4
      ·have j1:(j:Int)<4:=by omega
       have cj:=HNa.out.c j hj4;have hzj:=HZk.out (j+1) (by omega);have HNj:Hid (szK x (j+1)=szK x j+(x.l j).length):=rfl;rw [HNj.out] at hzj;have hw:IntKind.i64.wrap ((szK x j:Int)+((x.l j).length:Int))=(szK x j:Int)+((x.l j).length:Int):=by rw [IntKind.wrap_i64];omega
       go_wp2_with fail
       go_roundw
       case rel=>exact ⟨j+1,by omega,by go_num,by rw [HNj.out];simp,trivial⟩
       case measure=>simp [intOf];omega
      ·obtain rfl:j=4:=by omega
       rw [<- HSe.out] at *;generalize szN x=z at *;have hwo:IntKind.i64.wrap ((mo:Int)+(z:Int))=(mo:Int)+(z:Int):=by rw [IntKind.wrap_i64];omega
       have hwe:IntKind.i64.wrap ((me:Int)+1)=(me:Int)+1:=by rw [IntKind.wrap_i64];omega
       have n1:=HMm.out.n.c 1 _ rfl;have n2:=HMm.out.n.c 2 _ rfl;have n3:=HMm.out.n.c 3 _ rfl;have nf:=HMm.out.n.f;have nl:=HMm.out.n.lt
       by_cases hz0:z=0
       ·subst hz0;go_wp2_with fail
        go_roundw
        case rel=>
         refine ⟨k+1,by omega,by go_num,?_⟩;rw [HNx.out];have q:=HMm.out.set mo (me+1) mg;have hb:=((HB.out.setCell (p:=⟨nb,1,none⟩) (Nat.le_refl _) (.int .i64 (mo:Int))).setCell (p:=⟨nb,3,none⟩) (Nat.le_refl _) (.int .i64 (mg:Int))).setCell (p:=⟨nb,2,none⟩) (Nat.le_refl _) (.int .i64 ((me+1:Nat):Int));have e:nbS ⟨mo,me,mg⟩ 0=⟨mo,me+1,mg⟩:=by simp [nbS]
         rw [e];exact ⟨q,hb⟩
        case measure=>simp [intOf];omega
       ·have hzi:¬ (z:Int)=0:=by omega
        have hzb:((z:Int)==0)=false:=by simpa using hzi
        go_wp2_with fail
        go_roundw
        case rel=>
         refine ⟨k+1,by omega,by go_num,?_⟩;rw [HNx.out];have q:=HMm.out.set2 (mo+z) (max mg z);have hb:=(HB.out.setCell (p:=⟨nb,1,none⟩) (Nat.le_refl _) (.int .i64 ((mo+z:Nat):Int))).setCell (p:=⟨nb,3,none⟩) (Nat.le_refl _) (.int .i64 ((max mg z:Nat):Int));have e:nbS ⟨mo,me,mg⟩ z=⟨mo+z,me,max mg z⟩:=by unfold nbS;rw [if_neg hz0]
         have e2:((max mg z:Nat):Int)=if mg<z then (z:Int) else (mg:Int):=by split <;> omega
         rw [e];rw [e2] at q hb;exact ⟨q,hb⟩
        case measure=>simp [intOf];omega
    ·obtain rfl:k=ls.length:=by omega
     have k1:¬ (ls.length:Int)<(ls.length:Int):=by omega
     rw [List.take_length] at HM;have r0:=HM.out.1.r.c 0 _ rfl;have r1:=HM.out.1.r.c 1 _ rfl;have r2:=HM.out.1.r.c 2 _ rfl;have r3:=HM.out.1.r.c 3 _ rfl;have rf:=HM.out.1.r.f;have rl:=HM.out.1.r.lt;have n0:=HM.out.1.n.c 0 _ rfl;have n1:=HM.out.1.n.c 1 _ rfl;have n2:=HM.out.1.n.c 2 _ rfl;have n3:=HM.out.1.n.c 3 _ rfl;have nl:=HM.out.1.n.lt;go_wp2_with fail
     refine bodyPost_ret (v:=.tuple #[nuV ls.length (nbL ls),.int .i64 0]) (by simp [results,Tryz.results32,go_sem,r0,r1,r2,r3]) rfl ⟨rfl,?_⟩;exact (((HM.out.1.u.setCell (p:=⟨w.heap.size+2,0,none⟩) (by simp) _).setCell (p:=⟨w.heap.size+2,1,none⟩) (by simp) _).setCell (p:=⟨w.heap.size+2,2,none⟩) (by simp) _).setCell (p:=⟨w.heap.size+2,3,none⟩) (by simp) _
  ·have hR:nuR t v n tn=nuV 0 ⟨0,0,0⟩/\nuE t v n tn=2:=by
    have:nuE t v n tn=2:=by unfold nuE;rw [if_pos he,if_neg ht]
    exact ⟨by unfold nuR;rw [this,if_neg (by decide)],this⟩
   rw [hR.1,hR.2];clear hR;rw [he] at HD;generalize LD t v n=ls at *;have hti:¬ (tn:Int)=(ls.length:Int):=by omega
   have htb:((tn:Int) != (ls.length:Int))=true:=by simpa using hti
   go_wp2_with (first|(go_at_call 82;refine Calls.mono (HD.out _ (by go_grown)) ?_;rintro e w1 ⟨a1,c1,rfl,h1,h2⟩;have HN:Hid (Nd w w1 t a1 ls #[.slice wa n wc,.slice ta tn tc,.slice ba bn bc]):=nd_of (by simpa using h2) h1;have r0:=HN.out.r.c 0 _ rfl;have r1:=HN.out.r.c 1 _ rfl;have r2:=HN.out.r.c 2 _ rfl;have r3:=HN.out.r.c 3 _ rfl;have rf:=HN.out.r.f;have rl:=HN.out.r.lt;have d1:=HN.out.k.c 1 _ rfl;have dl:=HN.out.k.lt;clear h1 h2))
   refine bodyPost_ret (v:=.tuple #[nuV 0 ⟨0,0,0⟩,.int .i64 2]) (by simp [results,Tryz.results32,go_sem,r0,r1,r2,r3]) rfl ⟨rfl,?_⟩;exact (((HN.out.u.setCell (p:=⟨w.heap.size+2,0,none⟩) (by simp) _).setCell (p:=⟨w.heap.size+2,1,none⟩) (by simp) _).setCell (p:=⟨w.heap.size+2,2,none⟩) (by simp) _).setCell (p:=⟨w.heap.size+2,3,none⟩) (by simp) _
 ·have hR:nuR t v n tn=nuV 0 ⟨0,0,0⟩/\nuE t v n tn=deE t v n:=by
   have:nuE t v n tn=deE t v n:=by unfold nuE;rw [if_neg he]
   exact ⟨by unfold nuR;rw [this,if_neg he],this⟩
  rw [hR.1,hR.2];clear hR;generalize deE t v n=er at *;generalize LD t v n=ls at *;have hne:(er != 0)=true:=by simpa using he
  go_wp2_with (first|(go_at_call 82;refine Calls.mono (HD.out _ (by go_grown)) ?_;rintro e w1 ⟨a1,c1,rfl,h1,h2⟩;have HN:Hid (Nd w w1 t a1 ls #[.slice wa n wc,.slice ta tn tc,.slice ba bn bc]):=nd_of (by simpa using h2) h1;have r0:=HN.out.r.c 0 _ rfl;have r1:=HN.out.r.c 1 _ rfl;have r2:=HN.out.r.c 2 _ rfl;have r3:=HN.out.r.c 3 _ rfl;have rf:=HN.out.r.f;have rl:=HN.out.r.lt;have d1:=HN.out.k.c 1 _ rfl;have dl:=HN.out.k.lt;clear h1 h2))
  refine bodyPost_ret (v:=.tuple #[nuV 0 ⟨0,0,0⟩,.int .i64 er]) (by simp [results,Tryz.results32,go_sem,r0,r1,r2,r3]) rfl ⟨rfl,?_⟩;exact (((HN.out.u.setCell (p:=⟨w.heap.size+2,0,none⟩) (by simp) _).setCell (p:=⟨w.heap.size+2,1,none⟩) (by simp) _).setCell (p:=⟨w.heap.size+2,2,none⟩) (by simp) _).setCell (p:=⟨w.heap.size+2,3,none⟩) (by simp) _
end Go.Proofs.YtpdaknbmcpmhjaaGreatDoor.Pk
