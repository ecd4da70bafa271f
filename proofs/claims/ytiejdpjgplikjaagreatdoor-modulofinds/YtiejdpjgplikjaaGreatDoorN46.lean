/- Parts Hv Hp Df Dg Hw. -/
import Derived.Test.YtiejdpjgplikjaaGreatDoorN45
import Derived.Test.YtiejdpjgplikjaaGreatDoorN12
import Derived.Deep.AppendLies
import Derived.Deep.RegionHeld3
import Derived.BigQuiet
import Derived.Test.YtiejdpjgplikjaaGreatDoorN08
import Derived.Test.YtiejdpjgplikjaaGreatDoorN00
set_option maxRecDepth 20000
set_option maxHeartbeats 16000000
namespace Go.Proofs.YtiejdpjgplikjaaGreatDoor.Dp
open Go.ChangeShapes Go.WideShapes Go.ChangeAt Go.RowKit
open YtiejdpjgplikjaaGreatDoor.Op YtiejdpjgplikjaaGreatDoor.So
open YtiejdpjgplikjaaGreatDoor.Tb (Tab TabAt Bnds)
theorem rowBase {W:World} {B B' e s n:Nat} {v:Value} {xs:List Value} (h:W.ownsRow B e s v n xs) (hB:B'<=B):W.ownsRow B' e s v n xs:=by
 obtain ⟨h1,h2⟩:=h;rcases h2 with h0|⟨g,cap,cur,e1,e2,e3⟩
 ·exact ⟨h1,.inl h0⟩
 ·exact ⟨h1,.inr ⟨g,cap,cur,e1,by omega,e3⟩⟩
theorem levN_len (H:Nat->Int) (x:Int):∀ n,(lev H x n).length<=n
 | 0=>Nat.le_refl _
 | n+1=>by
  unfold lev;rw [List.length_append]
  have:=levN_len H x n
  split <;> simp <;> omega
theorem dOrd_len (H:Nat->Int) (n:Nat) (most:Int):∀ k,(dOrd H n most k).length<=k*n
 | 0=>by simp [dOrd]
 | k+1=>by
  unfold dOrd;rw [List.length_append,Nat.add_mul,Nat.one_mul]
  have:=dOrd_len H n most k
  have:=levN_len H (most-k) n
  omega
theorem ordLen (H:Nat->Int) (n:Nat) (mo:Int) (k j:Nat) (hn:n<=200) (hk:k<=1601):(dOrd H n mo k++lev H (mo-k) j).length<=320200+j:=by
 rw [List.length_append];have h1:=dOrd_len H n mo k;have h2:=levN_len H (mo-k) j;have h3:k*n<=1601*200:=Nat.mul_le_mul hk hn;omega
structure Lw (w1 W:World) (a:Option Addr) (c:Nat) (L:List Int):Prop where
 row:W.ownsRow w1.heap.size 3 1 (.slice a L.length c) L.length (L.map (Value.int .i64))
 up:Below w1.heap.size w1 W
theorem Lw.next {w1 W W':World} {a:Option Addr} {c:Nat} {L:List Int} (s:Lw w1 W a c L) (g:Below W.heap.size W W'):Lw w1 W' a c L:=⟨row_up s.row g,s.up.trans (g.mono s.up.size)⟩
theorem Lw.add {w1 W X w4:World} {a:Option Addr} {c g cap:Nat} {L:List Int} {e:Int} (s:Lw w1 W a c L) (g0:Below W.heap.size W X) (hgrow:X.grownBy w4 (Value.slice a L.length c).ownBlock) (hown:w4.ownsRow w1.heap.size 3 1 (.slice (some ⟨g,0,none⟩) (L.length+1) cap) (L.length+1) (L.map (Value.int .i64)++[.int .i64 e])):Lw w1 w4 (some ⟨g,0,none⟩) cap (L++[e]):=by
 have s2:=s.next g0;have hl:=s2.up.size;have B:Below w1.heap.size X w4:=(grown_fr hgrow).below (by omega) fun k hk e=>by
  have:=(s2.row.lt k e).1
  omega
 refine ⟨?_,s2.up.trans B⟩;rw [List.map_append,List.length_append];exact hown
def DoOut (w:World) (n:Nat) (H:Nat->Int) (e:Ending) (w':World):Prop:=∃ a c L,e=.returned (.tuple #[.slice a L.length c,.int .i64 0])/\w'.ownsRow w.heap.size 3 1 (.slice a L.length c) L.length (L.map (Value.int .i64))/\(∃ (most:Int) (k:Nat),L=dOrd H n most k/\most-k<0/\∀ i,i<n->0<=H i/\H i<=most)/\Below w.heap.size w w'
theorem refOrd_ok (ao:Option Addr) (cap n:Nat) (t:Tab) (H:Nat->Int) (w:World) (hn:n<=200) (hH:∀ i,i<n->1<=H i/\H i<=1600) (h22:∀ W,Below w.heap.size w W->Calls Tryz.prog 95 #[.slice ao n cap,t.val] W (HtOut W n H)) :
  Calls Tryz.prog 49 #[.slice ao n cap,t.val] w (DoOut w n H):=by
 have HOf:Hid (∀ W,Below w.heap.size w W->Calls Tryz.prog 95 #[.slice ao n cap,t.val] W fun e w'=>∃ hb,e=.returned (.tuple #[.slice (some ⟨hb,0,none⟩) n n,.int .i64 0])/\Ir w' hb n H/\W.heap.size<=hb/\Below W.heap.size W w'):=h22;have HH:Hid (∀ i,i<n->1<=H i/\H i<=1600):=hH;have hn':(n:Int)<=200:=by omega
 clear h22 hH;obtain ⟨i0,hi,hi2⟩:=Option.map_eq_some_iff.1 info3;simp only [Prod.mk.injEq] at hi2;obtain ⟨hz0,hz1,hz2⟩:=hi2;have HI:Hid (Tryz.prog.info? 3=some i0/\i0.zero=some (.int .i64 0)/\i0.size=1/\i0.bytes=8):=⟨hi,hz0,hz1,hz2⟩;clear hi hz0 hz1 hz2;unfold Tab.val at *;go_enter Tryz.func49,Tryz.ntmps49;go_wp2_with (first
  | (go_at_call 95;refine Calls.mono (HOf.out _ (by go_grown)) ?_;rintro e w1 ⟨hb,rfl,i1,-,b1⟩;have HR:Hid (Ir w1 hb n H/\Below w.heap.size w w1):=⟨i1,Below.trans (by go_grown) (b1.mono (by simp))⟩;clear i1 b1 HOf))
 go_loop [9,10] (fun m v=>∃ (i:Nat) (most:Int),i<=n/\m=.int .i64 most/\v=.int .i64 i/\0<=most/\most<=1600/\∀ k,k<i->H k<=most) (fun _ v=>n-(intOf v).toNat)
 case atStart=>exact ⟨0,0,by omega,rfl,rfl,by omega,by omega,fun k hk=>by omega⟩
 case round=>
  obtain ⟨i,most,hi,rfl,rfl,m0,m1,hmost⟩:=hrel;have HMs:Hid (∀ k,k<i->H k<=most):=hmost;clear hmost
  by_cases hlt:i<n
  ·have j0:(0:Int)<=(i:Int):=by omega
   have j1:(i:Int)<(n:Int):=by omega
   have hc:=HR.out.1.c i hlt;have hl:=HR.out.1.lt;obtain ⟨h1,h2⟩:=HH.out i hlt
   by_cases hmx:most<H i
   ·have HNx:Hid (∀ k,k<i+1->H k<=H i):=fun k hk=>by
     by_cases e:k=i
     ·subst e;exact Int.le_refl _
     ·have:=HMs.out k (by omega);omega
    generalize hx:H i=x at *;clear hx;go_wp2_with fail
    go_round
    case rel=>exact ⟨i+1,x,by omega,by first|rfl|(congr 1;omega)|simp,by go_num,by omega,by omega,HNx.out⟩
    case measure=>simp [intOf];omega
   ·have HNx:Hid (∀ k,k<i+1->H k<=most):=fun k hk=>by
     by_cases e:k=i
     ·subst e;omega
     ·exact HMs.out k (by omega)
    generalize hx:H i=x at *;clear hx;go_wp2_with fail
    go_round
    case rel=>exact ⟨i+1,most,by omega,by first|rfl|(congr 1;omega)|simp,by go_num,by omega,by omega,HNx.out⟩
    case measure=>simp [intOf];omega
  ·obtain rfl:i=n:=by omega
   have j1:¬ (i:Int)<(i:Int):=by omega
   obtain ⟨mo,rfl⟩:∃ mo:Nat,most=mo:=⟨most.toNat,by omega⟩;have HL0:Hid (Lw w1 w1 none 0 []):=⟨World.ownsRow_nil _ _ _ _,Below.refl _ _⟩;go_upto_region 11 with fail
   go_loopw [8,11] (fun l v wr=>∃ (k:Nat) (a:Option Addr) (c:Nat),k<=mo+1/\l=.slice a (dOrd H i mo k).length c/\v=.int .i64 ((mo:Int)-k)/\Lw w1 wr a c (dOrd H i mo k)) (fun _ v _=>((intOf v)+1).toNat)
   case atStart=>exact ⟨0,none,0,by omega,rfl,by first|rfl|simp,HL0.out⟩
   case round=>
    rename World=>wr;obtain ⟨k,a,c,hk,rfl,rfl,hs⟩:=hrel;have HQ:Hid (Lw w1 wr a c (dOrd H i mo k)):=hs;clear hs HL0
    by_cases hlt2:k<mo+1
    ·have x0:(0:Int)<=(mo:Int)-k:=by omega
     have HEnd:Hid (dOrd H i mo (k+1)=dOrd H i mo k++lev H ((mo:Int)-k) i):=rfl;have HLn:Hid (∀ j,j<=i->(dOrd H i mo k++lev H ((mo:Int)-k) j).length<=1000000):=fun j hj=>Nat.le_trans (ordLen H i mo k j (by omega) (by omega)) (by omega);obtain ⟨D,hD⟩:∃ D,dOrd H i mo k=D:=⟨_,rfl⟩;rw [hD] at HEnd HLn HQ ⊢;clear hD;obtain ⟨x,hx⟩:∃ x:Int,(mo:Int)-k=x:=⟨_,rfl⟩;have HX:Hid ((mo:Int)-k=x):=hx;rw [hx] at HEnd HLn x0 ⊢;clear hx;go_wp2_with fail
     go_loopw [8,12] (fun l v wz=>∃ (j:Nat) (a:Option Addr) (c:Nat),j<=i/\l=.slice a (D++lev H x j).length c/\v=.int .i64 j/\Lw w1 wz a c (D++lev H x j)) (fun _ v _=>i-(intOf v).toNat)
     case atStart=>exact ⟨0,a,c,by omega,by simp [lev],rfl,by simpa [lev] using HQ.out⟩
     case round=>
      rename World=>wz;obtain ⟨j,a2,c2,hj,rfl,rfl,hs⟩:=hrel;have HZ:Hid (Lw w1 wz a2 c2 (D++lev H x j)):=hs;clear hs HQ
      by_cases hlt3:j<i
      ·have j0:(0:Int)<=(j:Int):=by omega
       have j3:(j:Int)<(i:Int):=by omega
       have hir:=HR.out.1.up HZ.out.up;have hc:=hir.c j hlt3;have hl:=hir.lt;have hlen:=HLn.out j (by omega);have HNx:Hid (lev H x (j+1)=lev H x j++(if H j=x then [(j:Int)] else [])):=rfl;clear hir;obtain ⟨E,hE⟩:∃ E,D++lev H x j=E:=⟨_,rfl⟩;have HE:Hid (D++lev H x j=E):=hE;rw [hE] at HZ hlen ⊢;clear hE
       by_cases hx:H j=x
       ·rw [if_pos hx] at HNx;have hxb:(H j==x)=true:=by simpa using hx
        subst hx;generalize H j=y at *;go_wp2_with (first|(at_builtin;refine wpList_append_lies _ rfl _ _ 27 rfl w1.heap.size 3 i0 (.int .i64 0) 1 8 Tryz.underlying27 HI.out.1 HI.out.2.1 HI.out.2.2.1 HI.out.2.2.2 rfl (by decide) (.slice a2 E.length c2) E.length (E.map (Value.int .i64)) rfl (World.ownsRow.alloc HZ.out.row _) ⟨wz.heap.size,0,none⟩ 1 1 [.int .i64 (j:Int)] rfl rfl (World.news_of_block (heap_alloc_new wz _)) (by simp [Value.oneCell']) (by decide) (by unfold maxLen;omega) (by omega) (by have h5:=HZ.out.up.size;simp;omega) (wz.heap.size+1) (by simp) ?_;intro g cp w4 hown hgrow hat hlt4;have HZ2:Hid (Lw w1 w4 (some ⟨g,0,none⟩) cp (E++[(j:Int)])):=HZ.out.add ((Below.refl _ _).alloc (Nat.le_refl _) _) hgrow hown;clear hown hgrow hat hlt4))
        go_roundw
        case rel=>exact ⟨j+1,some ⟨g,0,none⟩,cp,by omega,by rw [HNx.out,<- List.append_assoc,HE.out];simp,by go_num,by rw [HNx.out,<- List.append_assoc,HE.out];exact HZ2.out⟩
        case measure=>simp [intOf];omega
       ·rw [if_neg hx] at HNx;have hxb:(H j==x)=false:=by simpa using hx
        generalize H j=y at *;go_wp2_with fail
        go_roundw
        case rel=>exact ⟨j+1,a2,c2,by omega,by rw [HNx.out,List.append_nil,HE.out],by go_num,by rw [HNx.out,List.append_nil,HE.out];exact HZ.out⟩
        case measure=>simp [intOf];omega
      ·obtain rfl:j=i:=by omega
       have j3:¬ (j:Int)<(j:Int):=by omega
       have h64 : -1<=x-1:=by omega
       have h65:x<=1600:=by have:=HX.out;omega
       go_wp2_with fail
       go_roundw
       case rel=>exact ⟨k+1,a2,c2,by omega,by rw [HEnd.out],by have:=HX.out;first|(congr 1;omega)|(rw [show ((k+1:Nat):Int)=(k:Int)+1 by omega];congr 1;omega),by rw [HEnd.out];exact HZ.out⟩
       case measure=>simp [intOf];omega
    ·obtain rfl:k=mo+1:=by omega
     have x0:¬ (0:Int)<=(mo:Int)-((mo+1:Nat):Int):=by omega
     have HL:Hid (∀ q,q<i->0<=H q/\H q<=(mo:Int)):=fun q hq=>⟨by have:=HH.out q hq;omega,HMs.out q hq⟩;obtain ⟨D,hD⟩:∃ D,dOrd H i mo (mo+1)=D:=⟨_,rfl⟩;have HD:Hid (dOrd H i mo (mo+1)=D):=hD;rw [hD] at HQ ⊢;clear hD;go_wp2_with fail
     go_ret2
     refine ⟨a,c,D,rfl,?_,⟨(mo:Int),mo+1,HD.out.symm,by omega,HL.out⟩,HR.out.2.trans (HQ.out.up.mono HR.out.2.size)⟩;exact rowBase HQ.out.row HR.out.2.size
def hl1:List O:=[⟨2,1,2,3,0⟩,⟨12,4,1,1,0⟩,⟨17,0,4,0,0⟩]
def hl2:List O:=[⟨2,1,2,3,0⟩,⟨15,4,5,0,0⟩,⟨17,0,4,0,0⟩]
def hwt:Tab:=⟨fun _=>1,fun k=>if k=1 then 3 else if k=2 then 2 else 1,fun _=>1,1⟩
def R3 (W:World) (b:Nat) (x y z:Int):Prop:=b<W.heap.size/\W.cell? ⟨b,0,none⟩=some (.int .i64 x)/\W.cell? ⟨b,1,none⟩=some (.int .i64 y)/\W.cell? ⟨b,2,none⟩=some (.int .i64 z)
theorem R3.up {W W':World} {b:Nat} {x y z:Int} (h:R3 W b x y z) (g:Below W.heap.size W W'):R3 W' b x y z:=
 ⟨Nat.lt_of_lt_of_le h.1 g.size,by rw [(bcell g).1 _ _ h.1];exact h.2.1,by rw [(bcell g).1 _ _ h.1];exact h.2.2.1,by rw [(bcell g).1 _ _ h.1];exact h.2.2.2⟩
end Go.Proofs.YtiejdpjgplikjaaGreatDoor.Dp
namespace Go.Proofs.YtiejdpjgplikjaaGreatDoor.Dp
open Go.ChangeShapes Go.WideShapes Go.ChangeAt Go.RowKit
open YtiejdpjgplikjaaGreatDoor.Op YtiejdpjgplikjaaGreatDoor.So
open YtiejdpjgplikjaaGreatDoor.Al
open YtiejdpjgplikjaaGreatDoor.Tb (Tab TabAt Bnds)
theorem refLoop_any (ao:Option Addr) (cap:Nat) (xs:List O) (t:Tab) (w:World) (h:OpsAt w ao xs) (hq:lisE t xs=0->xs.length<=200) :
  Calls Tryz.prog 93 #[.slice ao xs.length cap,t.val] w (EdOut w (lisE t xs) (erE t xs (ofD t xs xs.length++roundD t xs xs.length))):=by
 have HR:Hid (∀ W,Below w.heap.size w W->Calls Tryz.prog 51 #[.slice ao xs.length cap,t.val] W fun e w'=>EdOut W (lisE t xs) (erE t xs (ofD t xs xs.length)) e w'):=fun W g=>refOf_any ao cap xs t W (h.below g) hq;unfold EdOut at HR;have HS0:Hid (∀ w1,Below (w.alloc (.cells t.cells 25)).heap.size (w.alloc (.cells t.cells 25)) w1->St w w1 t none 0 []):=fun w1 g=>(⟨Tb.tabAt_new w t 25,World.ownsRow_nil _ _ _ _,by go_grown⟩:St w (w.alloc (.cells t.cells 25)) t none 0 []).next g;unfold erE at *
 by_cases he:lisE t xs=0
 ·rw [if_pos he];rw [if_pos he] at HR;obtain ⟨ht,hn,hok⟩:=lis_all he;have hA:Lall xs:=fun o ho=>⟨h.ok o ho,hok o ho⟩;have hn2:=hq he;rw [he] at HR ⊢;have HF:Hid (∀ (i j:Nat) (hj:j<xs.length) W,Below w.heap.size w W->Calls Tryz.prog 97 #[.slice ao xs.length cap,.int .i64 i,.int .i64 j,.bool true] W fun e w'=>e=.returned (.bool (flB xs xs[j] i j true))/\Below W.heap.size W w'):=fun i j hj W g=>flows_any ao cap xs i j true W (h.below g) hj (hok _ (List.getElem_mem hj));have HL:Hid (∀ (o:O) W,Calls Tryz.prog 98 #[o.val,t.val] W fun e w'=>e=.returned (.int .i64 (latO t o))/\Below W.heap.size W w'):=fun o W=>lat_any o t W;have HM:Hid (∀ (i j:Nat) W,Below w.heap.size w W->Calls Tryz.prog 133 #[.slice ao xs.length cap,.int .i64 (i:Int),.int .i64 (j:Int)] W fun e w'=>e=.returned (.bool (roundB xs i j))/\Below W.heap.size W w'):=fun i j W g=>refRound_any ao cap xs i j W (h.below g);have HP:Hid (∀ (i j:Nat) (hi:i<xs.length) (hj:j<xs.length) (m:Bool) W,Below w.heap.size w W->Calls Tryz.prog 99 #[.slice ao xs.length cap,t.val,.int .i64 i,.int .i64 j,.int .i64 1,.bool m] W fun e w'=>∃ a c,e=.returned (.slice a (pairD t xs[i] xs[j] i j 1 m).length c)/\EOwn W.heap.size w' a c (pairD t xs[i] xs[j] i j 1 m)/\Below W.heap.size W w'):=fun i j hi hj m W g=>pairD_any ao cap xs t i j 1 m W (h.below g) hA ht hi hj;have HC:Hid (∀ (i:Nat) (hi:i<xs.length),∃ b f,ao=some ⟨b,f,none⟩/\∀ W,Below w.heap.size w W->b<W.heap.size/\W.cell? ⟨b,f+i*5,none⟩=some (.int .i8 xs[i].op)/\W.cell? ⟨b,f+i*5+1,none⟩=some (.int .u8 xs[i].d)/\W.cell? ⟨b,f+i*5+2,none⟩=some (.int .u8 xs[i].a)/\W.cell? ⟨b,f+i*5+3,none⟩=some (.int .u8 xs[i].b)/\W.cell? ⟨b,f+i*5+4,none⟩=some (.int .i64 xs[i].im)):=fun i hi=>by
   obtain ⟨b,f,rfl,-,-⟩:=h.is (by omega);refine ⟨b,f,rfl,fun W g=>?_⟩;obtain ⟨b',f',e,hz',hx'⟩:=(h.below g).is (by omega)
   cases e
   obtain ⟨a0,a1,a2,a3,a4⟩:=hx' i hi;exact ⟨hz',a0,a1,a2,a3,a4⟩
  have hn3:(xs.length:Int)<=200:=by omega
  clear h hq hok hA ht hn he;unfold Tab.val at *;go_enter Tryz.func93,Tryz.ntmps93;go_wp2_with (first|(go_at_call 51;refine Calls.mono (HR.out _ (by go_grown)) ?_;rintro e w1 ⟨a0,c0,rfl,o1,b1⟩;have HSt:Hid (St w w1 t a0 c0 (ofD t xs xs.length)):=⟨(HS0.out w1 b1).t,(by have:=o1;simpa using this),(HS0.out w1 b1).up⟩;clear b1 o1 HR HS0))
  go_loopw [6,8] (fun l v wr=>∃ (j:Nat) (a:Option Addr) (c:Nat),j<=xs.length/\l=.slice a ((ofD t xs xs.length++roundD t xs j)).length c/\v=.int .i64 j/\St w wr t a c ((ofD t xs xs.length++roundD t xs j))) (fun _ v _=>xs.length-(intOf v).toNat)
  case atStart=>exact ⟨0,a0,c0,by omega,by simp [roundD,cat],rfl,by simpa [roundD,cat] using HSt.out⟩
  case round=>
   rename World=>wr;obtain ⟨j,a4,c4,hj,rfl,rfl,hs⟩:=hrel;have HS:Hid (St w wr t a4 c4 ((ofD t xs xs.length++roundD t xs j))):=hs;clear hs HSt
   by_cases hlt:j<xs.length
   ·have j0:(0:Int)<=(j:Int):=by omega
    have j1:(j:Int)<(xs.length:Int):=by omega
    go_wp2_with fail
    go_loopw [6,9] (fun l v wz=>∃ (i:Nat) (a:Option Addr) (c:Nat),i<=xs.length/\l=.slice a ((ofD t xs xs.length++roundD t xs j)++rowR t xs j i).length c/\v=.int .i64 i/\St w wz t a c ((ofD t xs xs.length++roundD t xs j)++rowR t xs j i)) (fun _ v _=>xs.length-(intOf v).toNat)
    case atStart=>exact ⟨0,a4,c4,by omega,by simp [rowR,cat],rfl,by simpa [rowR,cat] using HS.out⟩
    case round=>
     rename World=>wz;obtain ⟨i,a1,c1,hi,rfl,rfl,hs⟩:=hrel;have HS1:Hid (St w wz t a1 c1 ((ofD t xs xs.length++roundD t xs j)++rowR t xs j i)):=hs;clear hs HS
     by_cases hlt2:i<xs.length
     ·have i0:(0:Int)<=(i:Int):=by omega
      have i1:(i:Int)<(xs.length:Int):=by omega
      have hix:i<xs.length:=by omega
      have i2:(i:Int)<(xs.length:Int):=by omega
      have HNx:Hid (rowR t xs j (i+1)=rowR t xs j i++oneD t xs xs[i] xs[j] i j 1 true (roundB xs i j)):=by
       show rowR t xs j i++oneD t xs (atL xs i) (atL xs j) i j 1 true (roundB xs i j)=_;rw [atL_at hix,atL_at hlt]
      have HEl:((ofD t xs xs.length++roundD t xs j)++rowR t xs j i).length<=400000:=roRow_len t xs hn2 (by omega) (by omega);obtain ⟨es1,hes⟩:∃ es1,(ofD t xs xs.length++roundD t xs j)++rowR t xs j i=es1:=⟨_,rfl⟩;have HES:Hid ((ofD t xs xs.length++roundD t xs j)++rowR t xs j i=es1):=hes;rw [hes] at HS1 HEl ⊢;clear hes;have HFx:Hid (∀ W,Below w.heap.size w W->Calls Tryz.prog 97 #[.slice ao xs.length cap,.int .i64 i,.int .i64 j,.bool true] W fun e w'=>e=.returned (.bool (flB xs xs[j] i j true))/\Below W.heap.size W w'):=fun W g=>HF.out i j hlt W g;have HLx:Hid (∀ W,Calls Tryz.prog 98 #[xs[i].val,.agg #[.int .i64 (t.u 0),.int .i64 (t.u 1),.int .i64 (t.u 2),.int .i64 (t.u 3),.int .i64 (t.l 0),.int .i64 (t.l 1),.int .i64 (t.l 2),.int .i64 (t.l 3),.int .i64 (t.b 0),.int .i64 (t.b 1),.int .i64 (t.b 2),.int .i64 (t.b 3),.int .i64 t.d]] W fun e w'=>e=.returned (.int .i64 (latO t xs[i]))/\Below W.heap.size W w'):=fun W=>HL.out xs[i] W;have HMx:Hid (∀ W,Below w.heap.size w W->Calls Tryz.prog 133 #[.slice ao xs.length cap,.int .i64 (i:Int),.int .i64 (j:Int)] W fun e w'=>e=.returned (.bool (roundB xs i j))/\Below W.heap.size W w'):=fun W g=>HM.out i j W g;have HPx:Hid (∀ W,Below w.heap.size w W->Calls Tryz.prog 99 #[.slice ao xs.length cap,.agg #[.int .i64 (t.u 0),.int .i64 (t.u 1),.int .i64 (t.u 2),.int .i64 (t.u 3),.int .i64 (t.l 0),.int .i64 (t.l 1),.int .i64 (t.l 2),.int .i64 (t.l 3),.int .i64 (t.b 0),.int .i64 (t.b 1),.int .i64 (t.b 2),.int .i64 (t.b 3),.int .i64 t.d],.int .i64 i,.int .i64 j,.int .i64 1,.bool (roundB xs i j)] W fun e w'=>∃ a c,e=.returned (.slice a (pairD t xs[i] xs[j] i j 1 (roundB xs i j)).length c)/\EOwn W.heap.size w' a c (pairD t xs[i] xs[j] i j 1 (roundB xs i j))/\Below W.heap.size W w'):=fun W g=>HP.out i j hix hlt (roundB xs i j) W g;obtain ⟨b,f,rfl,hoc⟩:=HC.out i hix;have HOc:Hid _:=hoc;have hpl:(pairD t xs[i] xs[j] i j 1 (roundB xs i j)).length<=4:=pairD_len _ _ _ _ _ _ _;have HOne:Hid (oneD t xs xs[i] xs[j] i j 1 true (roundB xs i j)=(if flB xs xs[j] i j true=true then [⟨i,j,latO t xs[i],1,0⟩] else [])++pairD t xs[i] xs[j] i j 1 (roundB xs i j)):=rfl;clear hoc HF HL HM HP HC;obtain ⟨ps,hps⟩:∃ ps,pairD t xs[i] xs[j] i j 1 (roundB xs i j)=ps:=⟨_,rfl⟩;rw [hps] at HPx hpl HOne;clear hps;obtain ⟨os,hos⟩:∃ os,oneD t xs xs[i] xs[j] i j 1 true (roundB xs i j)=os:=⟨_,rfl⟩;rw [hos] at HNx HOne;clear hos;generalize latO t xs[i]=la at *;generalize roundB xs i j=mb at *;generalize flB xs xs[j] i j true=fb at *;generalize xs[i]=x at *
      go_upto_if 34 with (first|(go_at_call 97;refine Calls.mono (HFx.out _ HS1.out.up) ?_;rintro e w2 ⟨rfl,b2⟩;have HS2:Hid (St w w2 t a1 c1 es1):=HS1.out.next b2;clear b2 HFx HS1))
      obtain ⟨L1,hL1⟩:∃ L1,(if fb=true then [(⟨i,j,la,1,0⟩:Ed)] else [])=L1:=⟨_,rfl⟩;rw [hL1] at HOne;have HL1:Hid _:=hL1;have hl1:L1.length<=1:=by rw [<- hL1];split <;> simp
      clear hL1
      go_cut [6] (fun v wc=>∃ a c,v=.slice a (es1++L1).length c/\St w wc t a c (es1++L1))
      case first=>
       cases fb
       ·have hL1:[]=L1:=HL1.out;subst hL1;go_wp2_with fail
        go_meet
        case rel=>exact ⟨a1,c1,by simp,by rw [List.append_nil];exact HS2.out⟩
       ·have hL1:[(⟨i,j,la,1,0⟩:Ed)]=L1:=HL1.out;subst hL1;have HS1:Hid (St w w2 t a1 c1 es1):=HS2.out;go_upto_region 11 with fail
        refine wp_region_held_drew (S:=fun W=>TabAt W w.heap.size t/\Below w.heap.size w W) (by kernel_rfl) ⟨(HS1.out.next (drew_up _)).t,(HS1.out.next (drew_up _)).up⟩ (fun zH=>?_);refine wg 0 (.slice a1 es1.length c1) rfl zH ?_;simp only [pq];refine wg 1 (.int .i64 (i:Int)) rfl zH ?_;simp only [pq];refine wg 2 (.int .i64 (j:Int)) rfl zH ?_;simp only [pq];refine wg 3 (.slice (some ⟨b,f,none⟩) xs.length cap) rfl zH ?_;simp only [pq];refine wg 4 (.int .i64 (i:Int)) rfl zH ?_;simp only [pq];refine wg 5 (.pointer (some ⟨b,f+i*5,none⟩)) rfl zH ?_;simp only [pq];refine wt 6 (.agg #[.int .i8 x.op,.int .u8 x.d,.int .u8 x.a,.int .u8 x.b,.int .i64 x.im]) rfl (fun w' hSw=>by (obtain ⟨xl,x0,x1,x2,x3,x4⟩:=HOc.out _ hSw.2;go_simp)) zH ?_;simp only [pq];refine wt 7 (.agg #[.int .i64 (t.u 0),.int .i64 (t.u 1),.int .i64 (t.u 2),.int .i64 (t.u 3),.int .i64 (t.l 0),.int .i64 (t.l 1),.int .i64 (t.l 2),.int .i64 (t.l 3),.int .i64 (t.b 0),.int .i64 (t.b 1),.int .i64 (t.b 2),.int .i64 (t.b 3),.int .i64 t.d]) rfl (fun w' hSw=>by (have k2:=hSw.1;have qu0:=k2.cu 0 (by decide);have qu1:=k2.cu 1 (by decide);have qu2:=k2.cu 2 (by decide);have qu3:=k2.cu 3 (by decide);have ql0:=k2.cl 0 (by decide);have ql1:=k2.cl 1 (by decide);have ql2:=k2.cl 2 (by decide);have ql3:=k2.cl 3 (by decide);have qb0:=k2.cb 0 (by decide);have qb1:=k2.cb 1 (by decide);have qb2:=k2.cb 2 (by decide);have qb3:=k2.cb 3 (by decide);have qd:=k2.cd;have qz:=k2.lt;clear k2;go_simp)) zH ?_;simp only [pq];refine wpAnyH_ready (rs:=[8]) (by kernel_rfl) (by simp) ?_;refine AllReadyH.cons rfl (fun K hK=>?_) AllReadyH.nil;go_simp
        refine Calls.mono (HLx.out _) ?_;rintro e w5 ⟨rfl,b5⟩;have HS5:Hid (St w w5 t a1 c1 es1):=(HS1.out.next (drew_up _)).next b5;clear b5;refine hK.out _ _ ⟨HS5.out.t,HS5.out.up⟩ (fun zH=>?_);clear hK K;refine wg 9 (.agg #[.int .i64 (i:Int),.int .i64 (j:Int),.int .i64 la,.int .i64 1,.int .i8 0]) rfl zH ?_;simp only [pq];refine wpAnyH_ready (rs:=[10]) (by kernel_rfl) (by simp) ?_;refine AllReadyH.cons rfl (fun K hK=>?_) AllReadyH.nil;go_simp
        refine hK.out _ _ ⟨(HS5.out.next ((Below.refl _ _).alloc (Nat.le_refl _) _)).t,(HS5.out.next ((Below.refl _ _).alloc (Nat.le_refl _) _)).up⟩ (fun zH=>?_);clear hK K;refine wpAnyH_ready (rs:=[11]) (by kernel_rfl) (by simp) ?_;refine AllReadyH.cons rfl (fun K hK=>?_) AllReadyH.nil;refine step_append_row (es:=es1) (fs:=[(⟨i,j,la,1,0⟩:Ed)]) (by rfl) _ _ (by rfl) (by rfl) (HS5.out.next ((Below.refl _ _).alloc (Nat.le_refl _) _)) (by rfl) (eOwn_new w5 ⟨i,j,la,1,0⟩) (by simp;omega) ?_;intro a2 c2 w6 hs6;have HS6:Hid (St w w6 t a2 c2 (es1++[⟨i,j,la,1,0⟩])):=hs6;clear hs6;refine hK.out _ _ ⟨HS6.out.t,HS6.out.up⟩ (fun zH=>?_);clear hK K;refine wg 12 (.slice a2 (es1++[(⟨i,j,la,1,0⟩:Ed)]).length c2) rfl zH ?_;simp only [pq];refine wpAnyH_done (by kernel_rfl) ?_ _;go_wp2_with fail
        go_meet
        case rel=>exact ⟨a2,c2,by simp,HS6.out⟩
      case rest=>
       obtain ⟨a3,c3,rfl,hs⟩:=hcut;rename World=>wc;obtain ⟨es3,he3⟩:∃ es3,es1++L1=es3:=⟨_,rfl⟩;have hl3:es3.length<=400001:=by rw [<- he3,List.length_append];omega
       have HE3:Hid (es1++L1=es3):=he3;have HS3:Hid (St w wc t a3 c3 es3):=by rw [he3] at hs;exact hs
       rw [he3];clear hs he3 HS2 HLx HL1;go_upto_region 12 with fail
       refine wp_region_held_drew (S:=fun W=>TabAt W w.heap.size t/\Below w.heap.size w W) (by kernel_rfl) ⟨(HS3.out.next (drew_up _)).t,(HS3.out.next (drew_up _)).up⟩ (fun zH=>?_);refine wg 0 (.slice a3 es3.length c3) rfl zH ?_;simp only [pq];refine wg 1 (.slice (some ⟨b,f,none⟩) xs.length cap) rfl zH ?_;simp only [pq];refine wt 2 (.agg #[.int .i64 (t.u 0),.int .i64 (t.u 1),.int .i64 (t.u 2),.int .i64 (t.u 3),.int .i64 (t.l 0),.int .i64 (t.l 1),.int .i64 (t.l 2),.int .i64 (t.l 3),.int .i64 (t.b 0),.int .i64 (t.b 1),.int .i64 (t.b 2),.int .i64 (t.b 3),.int .i64 t.d]) rfl (fun w' hSw=>by (have k2:=hSw.1;have qu0:=k2.cu 0 (by decide);have qu1:=k2.cu 1 (by decide);have qu2:=k2.cu 2 (by decide);have qu3:=k2.cu 3 (by decide);have ql0:=k2.cl 0 (by decide);have ql1:=k2.cl 1 (by decide);have ql2:=k2.cl 2 (by decide);have ql3:=k2.cl 3 (by decide);have qb0:=k2.cb 0 (by decide);have qb1:=k2.cb 1 (by decide);have qb2:=k2.cb 2 (by decide);have qb3:=k2.cb 3 (by decide);have qd:=k2.cd;have qz:=k2.lt;clear k2;go_simp)) zH ?_;simp only [pq];refine wg 3 (.int .i64 (i:Int)) rfl zH ?_;simp only [pq];refine wg 4 (.int .i64 (j:Int)) rfl zH ?_;simp only [pq];refine wg 5 (.slice (some ⟨b,f,none⟩) xs.length cap) rfl zH ?_;simp only [pq];refine wg 6 (.int .i64 (i:Int)) rfl zH ?_;simp only [pq];refine wg 7 (.int .i64 (j:Int)) rfl zH ?_;simp only [pq];refine wpAnyH_ready (rs:=[8]) (by kernel_rfl) (by simp) ?_;refine AllReadyH.cons rfl (fun K hK=>?_) AllReadyH.nil;go_simp
       refine Calls.mono (HMx.out _ zH.2) ?_;rintro e w5 ⟨rfl,b5⟩;have HS5:Hid (St w w5 t a3 c3 es3):=(HS3.out.next (drew_up _)).next b5;clear b5;refine hK.out _ _ ⟨HS5.out.t,HS5.out.up⟩ (fun zH=>?_);clear hK K;refine wpAnyH_ready (rs:=[9]) (by kernel_rfl) (by simp) ?_;refine AllReadyH.cons rfl (fun K hK=>?_) AllReadyH.nil;go_simp
       refine Calls.mono (HPx.out _ zH.2) ?_;rintro e w6 ⟨a5,c5,rfl,o5,b5⟩;have HS6:Hid (St w w6 t a3 c3 es3):=HS5.out.next b5;have HO6:Hid (EOwn w5.heap.size w6 a5 c5 ps):=o5;clear b5 o5;refine hK.out _ _ ⟨HS6.out.t,HS6.out.up⟩ (fun zH=>?_);clear hK K;refine wpAnyH_ready (rs:=[10]) (by kernel_rfl) (by simp) ?_;refine AllReadyH.cons rfl (fun K hK=>?_) AllReadyH.nil;refine step_append_row (es:=es3) (fs:=ps) (by rfl) _ _ (by rfl) (by rfl) HS6.out (by rfl) HO6.out (by omega) ?_;intro a6 c6 w7 hs7;have HS7:Hid (St w w7 t a6 c6 (es3++ps)):=hs7;clear hs7;refine hK.out _ _ ⟨HS7.out.t,HS7.out.up⟩ (fun zH=>?_);clear hK K;refine wg 11 (.slice a6 (es3++ps).length c6) rfl zH ?_;simp only [pq];refine wpAnyH_done (by kernel_rfl) ?_ _;have HFin:Hid ((ofD t xs xs.length++roundD t xs j)++rowR t xs j (i+1)=es3++ps):=by
        show (ofD t xs xs.length++roundD t xs j)++rowR t xs j (i+1)=es3++ps;rw [HNx.out,<- List.append_assoc,HES.out,HOne.out,<- List.append_assoc,HE3.out]
       clear HMx HPx HS3 HS5 HS6 HO6;go_wp2_with fail
       go_roundw
       case rel=>exact ⟨i+1,a6,c6,by omega,by rw [HFin.out],by go_num,by rw [HFin.out];exact HS7.out⟩
       case measure=>simp [intOf];omega
     ·have hie:i=xs.length:=by omega
      have i1:¬ (i:Int)<(xs.length:Int):=by omega
      have HNx:Hid (ofD t xs xs.length++roundD t xs (j+1)=ofD t xs xs.length++roundD t xs j++rowR t xs j i):=by
       show ofD t xs xs.length++(roundD t xs j++rowR t xs j xs.length)=_;rw [hie,List.append_assoc]
      clear hie;go_wp2_with fail
      go_roundw
      case rel=>exact ⟨j+1,a1,c1,by omega,by rw [HNx.out],by go_num,by rw [HNx.out];exact HS1.out⟩
      case measure=>simp [intOf];omega
   ·have hje:j=xs.length:=by omega
    have j1:¬ (j:Int)<(xs.length:Int):=by omega
    have HNx:Hid ((ofD t xs xs.length++roundD t xs j)=(ofD t xs xs.length++roundD t xs xs.length)):=by show (ofD t xs xs.length++roundD t xs j)=(ofD t xs xs.length++roundD t xs xs.length);rw [hje]
    clear hje HF HL HM HP HC;rw [HNx.out] at HS ⊢;clear HNx;generalize ofD t xs xs.length++roundD t xs xs.length=L at *;go_wp2_with fail
    go_ret2
    obtain ⟨a5,c5,e5,h5⟩:=eOwn_of HS.out.row (B':=w.heap.size) (by omega)
    injection e5 with e6 e7 e8
    subst e6;subst e8;exact ⟨a4,c4,rfl,h5,HS.out.up⟩
 ·rw [if_neg he];rw [if_neg he] at HR;have he2:(lisE t xs != 0)=true:=by simpa using he
  generalize lisE t xs=er at *;clear h hq;unfold Tab.val at *;go_enter Tryz.func93,Tryz.ntmps93;go_wp2_with (first|(go_at_call 51;refine Calls.mono (HR.out _ (by go_grown)) ?_;rintro e w1 ⟨a0,c0,rfl,o1,b1⟩;have HSt:Hid (St w w1 t none 0 []):=HS0.out w1 b1;clear b1 o1 HR HS0))
  go_ret2
  exact ⟨none,0,rfl,World.ownsRow_nil _ _ _ _,HSt.out.up⟩

end Go.Proofs.YtiejdpjgplikjaaGreatDoor.Dp
namespace Go.Proofs.YtiejdpjgplikjaaGreatDoor.Dp
open Go.ChangeShapes Go.WideShapes Go.ChangeAt Go.RowKit
open YtiejdpjgplikjaaGreatDoor.Op YtiejdpjgplikjaaGreatDoor.So
open YtiejdpjgplikjaaGreatDoor.Tb (Tab TabAt Bnds)
def Lr (W:World) (a:Option Addr) (n:Nat) (g:Nat->Int):Prop:=∀ k,k<n->∃ b,a=some ⟨b,0,none⟩/\b<W.heap.size/\W.cell? ⟨b,k,none⟩=some (.int .i64 (g k))
theorem Lr.up {W W':World} {a:Option Addr} {n:Nat} {g:Nat->Int} (h:Lr W a n g) (hb:Below W.heap.size W W'):Lr W' a n g:=fun k hk=>by
 obtain ⟨b,e,h1,h2⟩:=h k hk;exact ⟨b,e,Nat.lt_of_lt_of_le h1 hb.size,by rw [(bcell hb).1 _ _ h1];exact h2⟩
end Go.Proofs.YtiejdpjgplikjaaGreatDoor.Dp
