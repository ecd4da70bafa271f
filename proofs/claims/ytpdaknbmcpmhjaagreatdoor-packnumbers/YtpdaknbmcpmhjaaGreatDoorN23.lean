/- Parts Ue Cp Uf. -/
import Derived.Test.YtpdaknbmcpmhjaaGreatDoorN22
import Derived.Deep.OwnRows
import Derived.Test.YtpdaknbmcpmhjaaGreatDoorN02
import Derived.Deep.AppendLies
import Derived.OwnWalk
import Derived.Test.YtpdaknbmcpmhjaaGreatDoorN00
set_option maxRecDepth 20000
set_option maxHeartbeats 4000000
namespace Go.Proofs.YtpdaknbmcpmhjaaGreatDoor.Bu
open Go.ChangeShapes Go.WideShapes Go.ChangeAt Go.RowKit
open YtpdaknbmcpmhjaaGreatDoor.Op
open YtpdaknbmcpmhjaaGreatDoor.Tb (Tab TabAt Bnds four tabAt_new ckR)
open YtpdaknbmcpmhjaaGreatDoor.So
theorem Wl.new (W:World) (n:Nat) (t:TypeId):Wl (W.alloc (.cells (madeCells #[.int .u64 0] n) t)) W.heap.size n []:=by
 have h:=At.new W (madeCells #[.int .u64 0] n) t;refine ⟨fun k hk=>h.c k _ ?_,h.f,h.lt⟩;rw [<- Array.getElem?_toList,toList_madeCells_one];simp [hk]
structure En (w W:World) (b N:Nat) (t:Tab) (ws:List Int):Prop where
 wl:Wl W b N ws
 t:TabAt W w.heap.size t
 up:Below w.heap.size w W
 hb:w.heap.size<b
theorem En.next {w W W':World} {b N:Nat} {t:Tab} {ws:List Int} (h:En w W b N t ws) (g:Below W.heap.size W W'):En w W' b N t ws:=
 ⟨h.wl.up g,h.t.below g h.t.lt,h.up.trans (g.mono h.up.size),h.hb⟩
theorem tab_fr {X:Nat->Prop} {W W':World} {tb:Nat} {t:Tab} (h:TabAt W tb t) (g:Fr X W W') (hx:¬ X tb):TabAt W' tb t:=
 ⟨fun k hk=>(g.cell h.lt hx _).trans (h.cu k hk),fun k hk=>(g.cell h.lt hx _).trans (h.cl k hk),fun k hk=>(g.cell h.lt hx _).trans (h.cb k hk),(g.cell h.lt hx _).trans h.cd,Nat.lt_of_lt_of_le h.lt g.size⟩
theorem At.frb {X:Nat->Prop} {W W':World} {b:Nat} {cs:Array Value} (h:At W b cs) (g:Fr X W W') (hx:¬ X b):At W' b cs:=
 ⟨fun j v e=>(g.cell h.lt hx j).trans (h.c j v e),fun j=>(g.frozen h.lt hx j).trans (h.f j),Nat.lt_of_lt_of_le h.lt g.size⟩
structure Eb (W:World) (tb bb:Nat) (t:Tab) (x:Bn) (p:Pb):Prop where
 t:TabAt W tb t
 b:At W bb (bcs x p)
theorem Eb.frb {X:Nat->Prop} {W W':World} {tb bb:Nat} {t:Tab} {x:Bn} {p:Pb} (h:Eb W tb bb t x p) (g:Fr X W W') (h1:¬ X tb) (h2:¬ X bb):Eb W' tb bb t x p:=⟨tab_fr h.t g h1,At.frb h.b g h2⟩
theorem eb_start {W:World} {tb:Nat} {t:Tab} (x:Bn) (p:Pb) (ty:TypeId) (h:TabAt W tb t):Eb (W.alloc (.cells (bcs x p) ty)).drew tb W.heap.size t x p:=by
 have g:Below W.heap.size W (W.alloc (.cells (bcs x p) ty)).drew:=((Below.refl _ _).alloc (Nat.le_refl _) _).drew;have a:=At.new W (bcs x p) ty;exact ⟨h.below g h.lt,a.below (Below.refl _ _).drew a.lt⟩
theorem wrap_in {k n:Int} (h0:0<=k) (hn:n<=2097152) (h:k<=n):IntKind.i64.wrap k=k:=by
 rw [IntKind.wrap_i64];omega
def enE (t:Tab) (ls:List Bn):Int:=if t.ok then (if 65536<ls.length then 3 else if allW t ls then 0 else 210) else 20
def EnOut (w:World) (t:Tab) (ls:List Bn) (e:Ending) (w':World):Prop:=
 if allW t ls then ∃ b,e=.returned (.tuple #[.slice (some ⟨b,0,none⟩) (ls.length*ofs t 4) (ls.length*ofs t 4),.int .i64 0])/\Wl w' b (ls.length*ofs t 4) (encW t ls)/\w.heap.size<=b/\Below w.heap.size w w'
 else e=.returned (.tuple #[.slice none 0 0,.int .i64 210])/\Below w.heap.size w w'
theorem EnOut.no {w w':World} {t:Tab} {ls:List Bn} (h:allW t ls=false) (hb:Below w.heap.size w w'):EnOut w t ls (.returned (.tuple #[.slice none 0 0,.int .i64 210])) w':=by
 unfold EnOut;rw [h];exact ⟨rfl,hb⟩
theorem EnOut.yes {w w':World} {t:Tab} {ls:List Bn} {b n:Nat} (h:allW t ls=true) (hn:n=ls.length*ofs t 4) (h1:Wl w' b n (encW t ls)) (h2:w.heap.size<=b) (hb:Below w.heap.size w w'):EnOut w t ls (.returned (.tuple #[.slice (some ⟨b,0,none⟩) n n,.int .i64 0])) w':=by
 subst hn;unfold EnOut;rw [h];exact ⟨b,rfl,h1,h2,hb⟩
theorem enc_any (ao:Option Addr) (cap:Nat) (ls:List Bn) (t:Tab) (w:World) (hx:BsAt w ao ls) (hG:Bnds w) (ht:t.ok=true) (hl:ls.length<=65536) :
  Calls Tryz.prog 141 #[.slice ao ls.length cap,t.val] w (EnOut w t ls):=by
 have HC:Hid (∀ W,Below w.heap.size w W->Calls Tryz.prog 71 #[t.val] W fun e w'=>e=.returned (.int .i64 0)/\Below W.heap.size W w'):=fun W hb=>by
  have:=Tb.check_any t W (hG.below hb hG.big)
  rw [ck_good ht] at this;exact this
 have HWd:Hid (∀ W,Below w.heap.size w W->Calls Tryz.prog 146 #[t.val] W fun e w'=>e=.returned (.int .i64 (ofs t 4:Int))/\Below W.heap.size W w'):=fun W hb=>width_any t W (hG.below hb hG.big) ht;have HF:Hid (∀ x p W,BnIn W x p->Calls Tryz.prog 135 #[bval x p,t.val] W fun e w'=>e=.returned (.bool (wfB t x))/\Below W.heap.size W w'):=fun x p W h=>wellFormed_any x p t W h ht;have HO:Hid (BsAt w ao ls):=hx;have HTk:Hid (t.ok=true/\ofs t 4<=32):=⟨ht,ofs_le ht⟩;have hl':(ls.length:Int)<=65536:=by omega
 obtain ⟨i0,hi,hi2⟩:=Option.map_eq_some_iff.1 info282;simp only [Prod.mk.injEq] at hi2;obtain ⟨hz0,hz1,hz2⟩:=hi2;have HI:Hid (Tryz.prog.info? 282=some i0/\i0.zero=some (.int .u64 0)/\i0.size=1/\i0.bytes=8):=⟨hi,hz0,hz1,hz2⟩;clear hi hz0 hz1 hz2 hx hG ht;unfold Tab.val at *;go_enter Tryz.func141,Tryz.ntmps141;go_upto_region 7 with (first|(go_at_call 71;refine Calls.mono (HC.out _ (by go_grown)) ?_;rintro e w1 ⟨rfl,hb⟩;have HS:Hid (TabAt w1 w.heap.size t/\Below w.heap.size w w1):=⟨(tabAt_new w t 27).below hb (by simp),(by go_grown:Below w.heap.size w (w.alloc (.cells t.cells 27))).trans (hb.mono (by simp))⟩;clear hb))
 clear HC
 go_loopw [23] (fun i wr=>∃ k:Nat,k<=ls.length/\i=.int .i64 k/\(ls.take k).all (wfB t)=true/\TabAt wr w.heap.size t/\Below w.heap.size w wr) (fun i _=>ls.length-(intOf i).toNat)
 case atStart=>exact ⟨0,by omega,rfl,by simp,HS.out⟩
 case round=>
  rename World=>wr;obtain ⟨k,hk,rfl,h1,h2,h3⟩:=hrel;have HQ:Hid ((ls.take k).all (wfB t)=true/\TabAt wr w.heap.size t/\Below w.heap.size w wr):=⟨h1,h2,h3⟩;clear h1 h2 h3 HS
  by_cases hlt:k<ls.length
  ·have k0:(0:Int)<=(k:Int):=by omega
   have k1:(k:Int)<(ls.length:Int):=by omega
   obtain ⟨b,f,rfl,hz,hx⟩:=(HO.out.below HQ.out.2.2).is (by omega);obtain ⟨p,hN,hB⟩:=hx k hlt;have q0:=hN.c 0 (by decide);rw [Nat.add_zero] at q0;have q1:=hN.c 1 (by decide);have q2:=hN.c 2 (by decide);have q3:=hN.c 3 (by decide);have HT:Hid (wfB t ls[k]=true->(ls.take (k+1)).all (wfB t)=true):=fun e=>by rw [List.take_succ_eq_append_getElem hlt,List.all_append,HQ.out.1];simp [e]
   have HFa:Hid (wfB t ls[k]=false->allW t ls=false):=fun e=>by
    cases hb:allW t ls
    ·rfl
    ·rw [List.all_eq_true.1 hb _ (List.getElem_mem hlt)] at e;cases e
   have HB:Hid (BnIn wr ls[k] p):=hB;clear hx hN hB;generalize ls[k]=x at *;have HX:Hid (TabAt (wr.alloc (.cells (bcs x p) 65)) w.heap.size t/\Below w.heap.size w (wr.alloc (.cells (bcs x p) 65))/\BnIn (wr.alloc (.cells (bcs x p) 65)) x p/\At (wr.alloc (.cells (bcs x p) 65)) wr.heap.size (bcs x p)):=⟨HQ.out.2.1.below ((Below.refl _ _).alloc (Nat.le_refl _) _) HQ.out.2.1.lt,HQ.out.2.2.alloc HQ.out.2.2.size _,HB.out.below ((Below.refl _ _).alloc (Nat.le_refl _) _),At.new _ _ _⟩;go_upto_region 9 with fail
   generalize (wr.alloc (.cells (bcs x p) 65))=X at *;clear q0 q1 q2 q3 hz HQ HB;have a0:=HX.out.2.2.2;have x0:=a0.c 0 _ rfl;have x1:=a0.c 1 _ rfl;have x2:=a0.c 2 _ rfl;have x3:=a0.c 3 _ rfl;have xl:=a0.lt;clear a0;have k2:=HX.out.1;have qu0:=k2.cu 0 (by decide);have qu1:=k2.cu 1 (by decide);have qu2:=k2.cu 2 (by decide);have qu3:=k2.cu 3 (by decide);have ql0:=k2.cl 0 (by decide);have ql1:=k2.cl 1 (by decide);have ql2:=k2.cl 2 (by decide);have ql3:=k2.cl 3 (by decide);have qb0:=k2.cb 0 (by decide);have qb1:=k2.cb 1 (by decide);have qb2:=k2.cb 2 (by decide);have qb3:=k2.cb 3 (by decide);have qd:=k2.cd;have qz:=k2.lt;clear k2;have HF1:Hid (∀ W,BnIn W x p->Calls Tryz.prog 135 #[bval x p,.agg #[.int .i64 (t.u 0),.int .i64 (t.u 1),.int .i64 (t.u 2),.int .i64 (t.u 3),.int .i64 (t.l 0),.int .i64 (t.l 1),.int .i64 (t.l 2),.int .i64 (t.l 3),.int .i64 (t.b 0),.int .i64 (t.b 1),.int .i64 (t.b 2),.int .i64 (t.b 3),.int .i64 t.d]] W fun e w'=>e=.returned (.bool (wfB t x))/\Below W.heap.size W w'):=fun W h=>HF.out x p W h
   cases hR:wfB t x
   ·have HFa2:=HFa.out hR;rw [hR] at HF1;clear hR HT HFa;go_wp2_with (first|(go_at_call 135;refine Calls.mono (HF1.out _ HX.out.2.2.1) ?_;rintro e w2 ⟨rfl,hb2⟩;have HB2:Hid (Below w.heap.size w w2):=HX.out.2.1.trans (hb2.mono HX.out.2.1.size);clear hb2))
    go_ret2
    exact EnOut.no HFa2 HB2.out
   ·have HT2:Hid _:=HT.out hR;rw [hR] at HF1;clear hR HT HFa;go_wp2_with (first|(go_at_call 135;refine Calls.mono (HF1.out _ HX.out.2.2.1) ?_;rintro e w2 ⟨rfl,hb2⟩;have HB2:Hid (TabAt w2 w.heap.size t/\Below w.heap.size w w2):=⟨HX.out.1.below hb2 HX.out.1.lt,HX.out.2.1.trans (hb2.mono HX.out.2.1.size)⟩;clear hb2))
    go_roundw
    case rel=>exact ⟨k+1,by omega,by go_num,HT2.out,HB2.out⟩
    case measure=>simp [intOf];omega
  ·obtain rfl:k=ls.length:=by omega
   have k1:¬ (ls.length:Int)<(ls.length:Int):=by omega
   have HAll:Hid (allW t ls=true):=by have:=HQ.out.1;rw [List.take_length] at this;exact this
   obtain ⟨wd,hwd⟩:∃ wd,ofs t 4=wd:=⟨_,rfl⟩;have HWD:Hid (ofs t 4=wd):=hwd;have hwd32:(wd:Int)<=32:=by have:=HTk.out.2;omega
   rw [hwd] at HWd;clear hwd;obtain ⟨NN,hNN⟩:∃ NN,NN=ls.length*wd:=⟨_,rfl⟩;have hmul:(ls.length:Int)*(wd:Int)=(NN:Int):=by rw [hNN];simp
   have hNb:NN<=2097152:=by rw [hNN];exact Nat.mul_le_mul (show ls.length<=65536 by omega) (show wd<=32 by omega)
   have HNN:Hid (NN=ls.length*wd):=hNN;have hNi:(NN:Int)<=2097152:=by omega
   clear hNN;have k2:=HQ.out.2.1;have qu0:=k2.cu 0 (by decide);have qu1:=k2.cu 1 (by decide);have qu2:=k2.cu 2 (by decide);have qu3:=k2.cu 3 (by decide);have ql0:=k2.cl 0 (by decide);have ql1:=k2.cl 1 (by decide);have ql2:=k2.cl 2 (by decide);have ql3:=k2.cl 3 (by decide);have qb0:=k2.cb 0 (by decide);have qb1:=k2.cb 1 (by decide);have qb2:=k2.cb 2 (by decide);have qb3:=k2.cb 3 (by decide);have qd:=k2.cd;have qz:=k2.lt;clear k2;go_upto_region 15 with (first
    | (go_at_call 146;refine Calls.mono (HWd.out _ HQ.out.2.2) ?_;rintro e w2 ⟨rfl,hb2⟩;have HS:Hid (TabAt w2 w.heap.size t/\Below w.heap.size w w2):=⟨HQ.out.2.1.below hb2 HQ.out.2.1.lt,HQ.out.2.2.trans (hb2.mono HQ.out.2.2.size)⟩;clear hb2)
    | (at_make;refine wpList_make_row _ rfl _ _ 71 rfl 282 i0 (.int .u64 0) Tryz.underlying71 HI.out.1 HI.out.2.1 HI.out.2.2.1 rfl .i64 .i64 NN rfl rfl (by rw [HI.out.2.2.2];omega) (by omega) ?_))
   clear qu0 qu1 qu2 qu3 ql0 ql1 ql2 ql3 qb0 qb1 qb2 qb3 qd qz HQ HWd hmul;have HE:Hid (En w (w2.alloc (.cells (madeCells #[.int .u64 0] NN) 282)) w2.heap.size NN t []):=⟨Wl.new _ _ _,HS.out.1.below ((Below.refl _ _).alloc (Nat.le_refl _) _) HS.out.1.lt,HS.out.2.alloc HS.out.2.size _,HS.out.1.lt⟩;generalize (w2.alloc (.cells (madeCells #[.int .u64 0] NN) 282))=W3 at *;generalize w2.heap.size=b at *;clear HS
   go_loopw [41] (fun i wz=>∃ k:Nat,k<=ls.length/\i=.int .i64 k/\En w wz b NN t (encW t (ls.take k))) (fun i _=>ls.length-(intOf i).toNat)
   case atStart=>exact ⟨0,by omega,rfl,by simpa [encW] using HE.out⟩
   case round=>
    rename World=>wz;obtain ⟨k,hk,rfl,hs⟩:=hrel;have HZ:Hid (En w wz b NN t (encW t (ls.take k))):=hs;clear hs HE
    by_cases hlt:k<ls.length
    ·have k0:(0:Int)<=(k:Int):=by omega
     have k2:(k:Int)<(ls.length:Int):=by omega
     obtain ⟨lb,f,rfl,hz0,hx⟩:=HO.out.is (by omega);obtain ⟨p,hN0,hB⟩:=hx k hlt;have hN:=hN0.below HZ.out.up hz0;have hz:lb<wz.heap.size:=Nat.lt_of_lt_of_le hz0 HZ.out.up.size;have q0:=hN.c 0 (by decide);rw [Nat.add_zero] at q0;have q1:=hN.c 1 (by decide);have q2:=hN.c 2 (by decide);have q3:=hN.c 3 (by decide);have HB:Hid (BnIn w ls[k] p):=hB;have HT:Hid (encW t (ls.take (k+1))=encW t (ls.take k)++wBk t ls[k] 4/\wfB t ls[k]=true/\(encW t (ls.take k)).length=k*wd):=by
      refine ⟨by rw [List.take_succ_eq_append_getElem hlt,encW_next],List.all_eq_true.1 HAll.out _ (List.getElem_mem hlt),?_⟩;rw [encW_len,HWD.out,List.length_take,Nat.min_eq_left (by omega)];exact List.all_eq_true.2 fun x hx=>List.all_eq_true.1 HAll.out _ (List.mem_of_mem_take hx)
     clear hx hN hN0 hB;generalize ls[k]=x at *;obtain ⟨KK,hKK⟩:∃ KK,KK=k*wd:=⟨_,rfl⟩;have hkm:(k:Int)*(wd:Int)=(KK:Int):=by rw [hKK];simp
     have hKN:KK+wd<=NN:=by
      rw [HNN.out,hKK,<- Nat.succ_mul];exact Nat.mul_le_mul_right _ hlt
     have hKN':(KK:Int)<=(NN:Int):=by omega
     have hK0:(0:Int)<=(KK:Int):=by omega
     rw [<- hKK] at HT;clear hKK;generalize encW t (ls.take k)=L at *;have HX:Hid (En w (wz.alloc (.cells (bcs x p) 65)) b NN t L/\BnIn w x p/\Eb (wz.alloc (.cells (bcs x p) 65)).drew w.heap.size wz.heap.size t x p/\b<wz.heap.size/\w.heap.size<b):=⟨HZ.out.next ((Below.refl _ _).alloc (Nat.le_refl _) _),HB.out,eb_start x p 65 HZ.out.t,HZ.out.wl.lt,HZ.out.hb⟩;go_upto_region 17 with fail
     generalize (wz.alloc (.cells (bcs x p) 65))=X at *;generalize wz.heap.size=bb at *;clear q0 q1 q2 q3 hz HB HZ;have hbb:¬ bb=b:=by have:=HX.out.2.2.2.1;omega
     have hbt:¬ w.heap.size=b:=by have:=HX.out.2.2.2.2;omega
     refine wp_region_held_drew (S:=fun W'=>Eb W' w.heap.size bb t x p) (by kernel_rfl) HX.out.2.2.1 (fun zH=>?_);refine wg 0 (.slice (some ⟨b,0,none⟩) NN NN) rfl zH ?_;simp only [pq];refine wg 1 (.int .i64 (k:Int)) rfl zH ?_;simp only [pq];refine wg 2 (.int .i64 (wd:Int)) rfl zH ?_;simp only [pq];refine wt 3 (.int .i64 (KK:Int)) rfl (fun w' hSw=>by (go_simp;exact wrap_in hK0 hNi hKN')) zH ?_;simp only [pq];refine wg 4 (.slice (if NN=KK then some ⟨b,0,none⟩ else some ⟨b,KK,none⟩) (NN-KK) (NN-KK)) rfl zH ?_;simp only [pq];refine wt 5 (bval x p) rfl (fun w' hSw=>by (have a0:=hSw.b;have x0:=a0.c 0 _ rfl;have x1:=a0.c 1 _ rfl;have x2:=a0.c 2 _ rfl;have x3:=a0.c 3 _ rfl;have xl:=a0.lt;clear a0;go_simp)) zH ?_;simp only [pq];refine wt 6 (.agg #[.int .i64 (t.u 0),.int .i64 (t.u 1),.int .i64 (t.u 2),.int .i64 (t.u 3),.int .i64 (t.l 0),.int .i64 (t.l 1),.int .i64 (t.l 2),.int .i64 (t.l 3),.int .i64 (t.b 0),.int .i64 (t.b 1),.int .i64 (t.b 2),.int .i64 (t.b 3),.int .i64 t.d]) rfl (fun w' hSw=>by (have k2:=hSw.t;have qu0:=k2.cu 0 (by decide);have qu1:=k2.cu 1 (by decide);have qu2:=k2.cu 2 (by decide);have qu3:=k2.cu 3 (by decide);have ql0:=k2.cl 0 (by decide);have ql1:=k2.cl 1 (by decide);have ql2:=k2.cl 2 (by decide);have ql3:=k2.cl 3 (by decide);have qb0:=k2.cb 0 (by decide);have qb1:=k2.cb 1 (by decide);have qb2:=k2.cb 2 (by decide);have qb3:=k2.cb 3 (by decide);have qd:=k2.cd;have qz:=k2.lt;clear k2;go_simp)) zH ?_;simp only [pq];refine wpAnyH_ready (rs:=[7]) (by kernel_rfl) (by simp) ?_;refine AllReadyH.cons rfl (fun K hK=>?_) AllReadyH.nil;have HWr:Hid (Calls Tryz.prog 203 #[.slice (if NN=KK then some ⟨b,0,none⟩ else some ⟨b,KK,none⟩) (NN-KK) (NN-KK),bval x p,.agg #[.int .i64 (t.u 0),.int .i64 (t.u 1),.int .i64 (t.u 2),.int .i64 (t.u 3),.int .i64 (t.l 0),.int .i64 (t.l 1),.int .i64 (t.l 2),.int .i64 (t.l 3),.int .i64 (t.b 0),.int .i64 (t.b 1),.int .i64 (t.b 2),.int .i64 (t.b 3),.int .i64 t.d]] X.drew fun e w'=>e=.returned (.tuple #[])/\Wl w' b NN (L++wBk t x 4)/\Fr (One b) X.drew w'):=
      write_any x p t w X.drew b NN (NN-KK) (NN-KK) _ L HX.out.2.1 HX.out.1.up.drew (Nat.le_of_lt HX.out.2.2.2.2) (HX.out.1.wl.up (Below.refl _ _).drew) HTk.out.1 HT.out.2.1 (by rw [HT.out.2.2];omega) (Nat.le_refl _) (fun h=>by rw [HT.out.2.2,if_neg (by omega)]) (by rw [HWD.out];omega) (by omega)
     go_simp
     refine Calls.mono (HWr.out) ?_;rintro e w4 ⟨rfl,hl4,hf4⟩;have HE4:Hid (En w w4 b NN t (L++wBk t x 4)):=⟨hl4,tab_fr HX.out.2.2.1.t hf4 hbt,HX.out.1.up.drew.trans (hf4.below HX.out.1.up.drew.size fun j hj e=>by have e:j=b:=e;have:=HX.out.2.2.2.2;omega),HX.out.2.2.2.2⟩;have hEb:=HX.out.2.2.1.frb hf4 hbt hbb;clear hl4 hf4;refine hK.out _ _ hEb (fun zH=>?_);clear hK K;refine wpAnyH_done (by kernel_rfl) ?_ _;clear zH hEb HX HWr;go_wp2_with fail
     go_roundw
     case rel=>exact ⟨k+1,by omega,by go_num,by rw [HT.out.1];exact HE4.out⟩
     case measure=>simp [intOf];omega
    ·obtain rfl:k=ls.length:=by omega
     have k2:¬ (ls.length:Int)<(ls.length:Int):=by omega
     have HZ2:Hid (En w wz b NN t (encW t ls)):=by have:=HZ.out;rw [List.take_length] at this;exact this
     go_wp2_with fail
     go_ret2
     exact EnOut.yes HAll.out (by rw [HNN.out,HWD.out]) HZ2.out.wl (Nat.le_of_lt HZ2.out.hb) HZ2.out.up
end Go.Proofs.YtpdaknbmcpmhjaaGreatDoor.Bu
namespace Go.Proofs.YtpdaknbmcpmhjaaGreatDoor.Op
open Go.ChangeShapes Go.WideShapes Go.ChangeAt Go.RowKit
theorem info60:(Tryz.prog.info? 60).map (fun i=>(i.zero,i.size,i.bytes))=some (some (.agg #[.int .i8 0,.int .u8 0,.int .u8 0,.int .u8 0,.int .i64 0]),5,16):=by kernel_rfl
theorem add_at (b f j:Nat):(⟨b,f,none⟩:Addr).add j=⟨b,f+j,none⟩:=by simp [Addr.add]
def ocells (xs:List O):List Value:=xs.flatMap fun o=>[.int .i8 o.op,.int .u8 o.d,.int .u8 o.a,.int .u8 o.b,.int .i64 o.im]
theorem ocells_cons (o:O) (r:List O):ocells (o::r)=.int .i8 o.op :: .int .u8 o.d :: .int .u8 o.a :: .int .u8 o.b :: .int .i64 o.im::ocells r:=rfl
theorem ocells_get (xs:List O):∀ (i:Nat) (h:i<xs.length),(ocells xs)[i*5]?=some (.int .i8 xs[i].op)/\(ocells xs)[i*5+1]?=some (.int .u8 xs[i].d)/\(ocells xs)[i*5+2]?=some (.int .u8 xs[i].a)/\(ocells xs)[i*5+3]?=some (.int .u8 xs[i].b)/\(ocells xs)[i*5+4]?=some (.int .i64 xs[i].im):=by
 induction xs with
 | nil=>intro i h;simp at h
 | cons o r ih=>
  intro i h;rw [ocells_cons]
  cases i with
  | zero=>exact ⟨rfl,rfl,rfl,rfl,rfl⟩
  | succ i=>
   have:=ih i (by simpa using h)
   rw [show (i+1)*5=i*5+1+1+1+1+1 by omega];simpa using this
theorem opsAt_row {w:World} {B c:Nat} {a:Option Addr} {xs:List O} (h:w.ownsRow B 60 5 (.slice a xs.length c) xs.length (ocells xs)) (hok:∀ o,o∈xs->o.Ok) (hl:xs.length<=8796093021952):OpsAt w a xs:=by
 refine ⟨hok,by omega,fun h0=>?_⟩;rcases h.2 with ⟨_,h1⟩|⟨g,cap,cur,h1,h2,h3,h4⟩
 ·omega
 ·injection h1 with e1 e2 e3
  subst e1;have hc:=h.cells (g:=g) rfl;refine ⟨g,0,rfl,(h.lt g rfl).2,fun i hi=>?_⟩;obtain ⟨g0,g1,g2,g3,g4⟩:=ocells_get xs i hi;have k:∀ j u,(ocells xs)[j]?=some u->w.cell? ⟨g,0+j,none⟩=some u:=fun j u hj=>by have:=hc j u hj;rw [add_at] at this;exact this
  exact ⟨k _ _ g0,k _ _ g1,k _ _ g2,k _ _ g3,k _ _ g4⟩
theorem grown_below {w w':World} {row:Option Nat} (h:w.grownBy w' row) (hr:∀ b,row=some b->w.heap.size<=b):Below w.heap.size w w':=
 ⟨h.os,h.tape,h.output,h.size,fun k hk=>h.block k hk fun e=>by have:=hr k e.symm;omega⟩
end Go.Proofs.YtpdaknbmcpmhjaaGreatDoor.Op
namespace Go.Proofs.YtpdaknbmcpmhjaaGreatDoor.Bu
open Go.ChangeShapes Go.WideShapes Go.ChangeAt Go.RowKit
open YtpdaknbmcpmhjaaGreatDoor.Op
open YtpdaknbmcpmhjaaGreatDoor.Tb (Tab TabAt Bnds four tabAt_new ckR)
open YtpdaknbmcpmhjaaGreatDoor.So
structure Ws (W:World) (ao:Option Addr) (n:Nat) (v:Nat->Int):Prop where
 ok:∀ j,j<n->0<=v j/\v j<18446744073709551616
 is:0<n->∃ b f,ao=some ⟨b,f,none⟩/\b<W.heap.size/\∀ j,j<n->W.cell? ⟨b,f+j,none⟩=some (.int .u64 (v j))
theorem Ws.below {W W':World} {ao:Option Addr} {n:Nat} {v:Nat->Int} (h:Ws W ao n v) (g:Below W.heap.size W W'):Ws W' ao n v:=
 ⟨h.ok,fun h0=>by
  obtain ⟨b,f,e,z,hx⟩:=h.is h0;exact ⟨b,f,e,Nat.lt_of_lt_of_le z g.size,fun j hj=>by rw [(bcell g).1 _ _ z];exact hx j hj⟩⟩
theorem Ws.take {W:World} {ao:Option Addr} {n m:Nat} {v:Nat->Int} (h:Ws W ao n v) (hm:m<=n):Ws W ao m v:=
 ⟨fun j hj=>h.ok j (by omega),fun h0=>by
  obtain ⟨b,f,e,z,hx⟩:=h.is (by omega);exact ⟨b,f,e,z,fun j hj=>hx j (by omega)⟩⟩
theorem Ws.cut {W:World} {ao:Option Addr} {n c u:Nat} {v:Nat->Int} (h:Ws W ao n v) (hc:n<=c):Ws W (if c=u then ao else Option.map (fun x=>x.add u) ao) (n-u) (fun j=>v (u+j)):=
 ⟨fun j hj=>h.ok _ (by omega),fun h0=>by
  obtain ⟨b,f,e,z,hx⟩:=h.is (by omega);refine ⟨b,f+u,?_,z,fun j hj=>?_⟩
  ·rw [if_neg (by omega),e];simp [add_bu]
  ·rw [Nat.add_assoc];exact hx _ (by omega)⟩
theorem Ws.same {W:World} {ao:Option Addr} {n:Nat} {v v':Nat->Int} (h:Ws W ao n v) (e:∀ j,j<n->v j=v' j):Ws W ao n v':=
 ⟨fun j hj=>by rw [<- e j hj];exact h.ok j hj,fun h0=>by
  obtain ⟨b,f,e1,z,hx⟩:=h.is h0;exact ⟨b,f,e1,z,fun j hj=>by rw [<- e j hj];exact hx j hj⟩⟩
theorem stN_succ (v:Nat->Int) (n:Nat):stN v (n+1)=if v n=0 then stN v n else n+1:=rfl
def lenOf:Value->Nat
 | .slice _ n _=>n
 | _=>0
theorem unused_any (a:Option Addr) (n c:Nat) (v:Nat->Int) (w:World) (h:Ws w a n v) (hc:n<=c) (hn:n<=8) :
  Calls Tryz.prog 253 #[.slice a n c] w fun e w'=>e=.returned (.slice a (stN v n) c)/\w'=w:=by
 have HA:Hid (Ws w a n v):=h;clear h;go_enter Tryz.func253,Tryz.ntmps253;go_wp2
 go_loop [0] (fun s=>∃ m:Nat,m<=n/\s=.slice a m c/\stN v m=stN v n) (fun s=>lenOf s)
 case atStart=>exact ⟨n,Nat.le_refl _,rfl,rfl⟩
 case round=>
  obtain ⟨m,hm,rfl,he⟩:=hrel;have HE:Hid (stN v m=stN v n):=he;clear he
  by_cases h0:m=0
  ·subst h0;go_wp2
   go_ret
   exact ⟨by rw [<- HE.out];rfl,rfl⟩
  ·obtain ⟨j,rfl⟩:∃ j,m=j+1:=⟨m-1,by omega⟩;obtain ⟨b,f,rfl,z,hx⟩:=HA.out.is (by omega);have cj:=hx j (by omega);have ej:((j+1:Nat):Int)-1=(j:Int):=by omega
   have j0:(0:Int)<=(j:Int):=by omega
   have j1:(j:Int)<((j+1:Nat):Int):=by omega
   clear hx
   by_cases hv:v j=0
   ·have HE2:Hid (stN v j=stN v n):=by
     have:=HE.out
     rw [stN_succ,if_pos hv] at this;exact this
    rw [hv] at cj;clear hv;go_wp2
    go_round
    case rel=>exact ⟨j,by omega,rfl,HE2.out⟩
    case measure=>simp [lenOf]
   ·have HE2:Hid (j+1=stN v n):=by
     have:=HE.out
     rw [stN_succ,if_neg hv] at this;exact this
    have hv':(v j==0)=false:=by simpa using hv
    clear hv;generalize v j=y at *;go_wp2
    go_ret
    exact ⟨by rw [<- HE2.out];rfl,rfl⟩
def RdOut (w:World) (c:Int) (v:Nat->Int) (m:Nat) (e:Ending) (w':World):Prop:=
 if rdB c v m then ∃ a' c',e=.returned (.tuple #[.slice a' m c',.bool true])/\w'.ownsRow w.heap.size 60 5 (.slice a' m c') m (ocells (rdL v m))/\Below w.heap.size w w'
 else e=.returned (.tuple #[.slice none 0 0,.bool false])/\Below w.heap.size w w'
theorem RdOut.no {w w':World} {c:Int} {v:Nat->Int} {m:Nat} (h:rdB c v m=false) (hb:Below w.heap.size w w'):RdOut w c v m (.returned (.tuple #[.slice none 0 0,.bool false])) w':=by
 unfold RdOut;rw [h];exact ⟨rfl,hb⟩
theorem RdOut.yes {w w':World} {c:Int} {v:Nat->Int} {m:Nat} {a':Option Addr} {c':Nat} (h:rdB c v m=true) (ho:w'.ownsRow w.heap.size 60 5 (.slice a' m c') m (ocells (rdL v m))) (hb:Below w.heap.size w w'):RdOut w c v m (.returned (.tuple #[.slice a' m c',.bool true])) w':=by
 unfold RdOut;rw [h];exact ⟨a',c',rfl,ho,hb⟩
theorem ocells_snoc (xs:List O) (o:O):ocells (xs++[o])=ocells xs++[.int .i8 o.op,.int .u8 o.d,.int .u8 o.a,.int .u8 o.b,.int .i64 o.im]:=by simp [ocells]
structure Rl (w W:World) (a:Option Addr) (c:Nat) (xs:List O):Prop where
 row:W.ownsRow w.heap.size 60 5 (.slice a xs.length c) xs.length (ocells xs)
 up:Below w.heap.size w W
theorem row_fr {T:Nat->Prop} {w w':World} {B:Nat} {e:TypeId} {z:Nat} {v:Value} {n:Nat} {xs:List Value} (h:w.ownsRow B e z v n xs) (g:Fr T w w') (hT:∀ k,v.ownBlock=some k->¬ T k):w'.ownsRow B e z v n xs:=by
 refine ⟨h.1,h.2.imp id ?_⟩;rintro ⟨b,cap,cur,rfl,h2,h3,h4⟩;have hz:b<w.heap.size:=(h.lt b rfl).2;exact ⟨b,cap,cur,rfl,h2,by rw [g.block b hz (hT b rfl)];exact h3,h4⟩
theorem row_up {w w':World} {B:Nat} {e:TypeId} {z:Nat} {v:Value} {n:Nat} {xs:List Value} (h:w.ownsRow B e z v n xs) (hb:Below w.heap.size w w'):w'.ownsRow B e z v n xs:=row_fr h (Fr.of (X:=Non) hb) fun _ _ hk=>hk
theorem Rl.next {w W W':World} {a:Option Addr} {c:Nat} {xs:List O} (h:Rl w W a c xs) (g:Below W.heap.size W W'):Rl w W' a c xs:=⟨row_up h.row g,h.up.trans (g.mono h.up.size)⟩
theorem Rl.start (w:World):Rl w w none 0 []:=⟨⟨rfl,.inl ⟨rfl,rfl⟩⟩,Below.refl _ _⟩
theorem Rl.add {w X w4:World} {a:Option Addr} {c g cap:Nat} {xs:List O} {o:O} (s:Rl w X a c xs) (hgrow:X.grownBy w4 (Value.slice a xs.length c).ownBlock) (hown:w4.ownsRow w.heap.size 60 5 (.slice (some ⟨g,0,none⟩) (xs.length+1) cap) (xs.length+1) (ocells xs++[.int .i8 o.op,.int .u8 o.d,.int .u8 o.a,.int .u8 o.b,.int .i64 o.im])):Rl w w4 (some ⟨g,0,none⟩) cap (xs++[o]):=by
 have B:Below w.heap.size X w4:=⟨hgrow.os,hgrow.tape,hgrow.output,hgrow.size,fun k hk=>hgrow.block k (Nat.lt_of_lt_of_le hk s.up.size) fun e=>by
  have:=(s.row.lt k e.symm).1
  omega⟩
 refine ⟨?_,s.up.trans B⟩;rw [ocells_snoc,List.length_append];exact hown
theorem readList_any (a:Option Addr) (n c:Nat) (v:Nat->Int) (cl:Int) (w:World) (h:Ws w a n v) (hc:n<=c) (hn:n<=8) :
  Calls Tryz.prog 206 #[.slice a n c,.int .i64 cl] w (RdOut w cl v (stN v n)):=by
 have HA:Hid (Ws w a n v):=h;have HUn:Hid (∀ W,Below w.heap.size w W->Calls Tryz.prog 253 #[.slice a n c] W fun e w'=>e=.returned (.slice a (stN v n) c)/\w'=W):=fun W hb=>unused_any a n c v W (h.below hb) hc hn;have hle:=stN_le v n;obtain ⟨m,hm⟩:∃ m,stN v n=m:=⟨_,rfl⟩;rw [hm] at HUn hle ⊢;have hm8:(m:Int)<=8:=by omega
 obtain ⟨i0,hi,hi2⟩:=Option.map_eq_some_iff.1 info60;simp only [Prod.mk.injEq] at hi2;obtain ⟨hz0,hz1,hz2⟩:=hi2;have HI:Hid (Tryz.prog.info? 60=some i0/\i0.zero=some (.agg #[.int .i8 0,.int .u8 0,.int .u8 0,.int .u8 0,.int .i64 0])/\i0.size=5/\i0.bytes=16):=⟨hi,hz0,hz1,hz2⟩;clear h hm hi hz0 hz1 hz2;go_enter Tryz.func206,Tryz.ntmps206;go_wp2_with (first|(go_at_call 253;refine Calls.mono (HUn.out _ (Below.refl _ _)) ?_;rintro e w1 ⟨rfl,hw1⟩;subst w1))
 go_loopw [6,14] (fun l i wr=>∃ (k c':Nat) (a':Option Addr),k<=m/\i=.int .i64 k/\l=.slice a' k c'/\rdB cl v k=true/\Rl w wr a' c' (rdL v k)) (fun _ i _=>m-(intOf i).toNat)
 case atStart=>exact ⟨0,0,none,by omega,rfl,rfl,rfl,Rl.start w⟩
 case round=>
  rename World=>wr;obtain ⟨k,c',a',hk,rfl,rfl,h1,h2⟩:=hrel;have HQ:Hid (rdB cl v k=true/\Rl w wr a' c' (rdL v k)):=⟨h1,h2⟩;clear h1 h2
  by_cases hlt:k<m
  ·have k0:(0:Int)<=(k:Int):=by omega
   have k1:(k:Int)<(m:Int):=by omega
   obtain ⟨b,f,rfl,hz,hx⟩:=(HA.out.below HQ.out.2.up).is (by omega);have q0:=hx k (by omega);obtain ⟨x0,x1⟩:=HA.out.ok k (by omega);have HNo:Hid (okW cl (v k)=false->rdB cl v m=false):=fun e=>rdB_no hlt e;have HYe:Hid (okW cl (v k)=true->rdB cl v (k+1)=true):=fun e=>by rw [rdB_next,HQ.out.1,e];rfl
   have HNx:Hid (rdL v (k+1)=rdL v k++[opW (v k)]/\(rdL v k).length=k):=⟨rdL_next v k,rdL_len v k⟩;clear hx;generalize v k=x at *
   by_cases h53:x<9007199254740992
   ·have HOp:Hid (∀ W,Calls Tryz.prog 254 #[.int .u64 x] W fun e w'=>e=.returned (.tuple #[(opW x).val,.bool true])/\Below W.heap.size W w'):=fun W=>opOf_yes x W x0 x1 h53;have hoW:okW cl x=isB cl (opW x):=by unfold okW;rw [decide_eq_true h53];rfl
    have HIs:Hid (∀ W,Calls Tryz.prog 245 #[(opW x).val,.int .i64 cl] W fun e w'=>e=.returned (.bool (isB cl (opW x)))/\Below W.heap.size W w'):=fun W=>isOf_any (opW x) cl W (opW_ok x);rw [hoW] at HNo HYe;clear hoW x0 x1 h53;generalize opW x=o at *
    cases hB:isB cl o
    ·rw [hB] at HIs;have hR:=HNo.out hB;clear hB HNo HYe;go_wp2_with (first
      | (go_at_call 254;refine Calls.mono (HOp.out _) ?_;rintro e w2 ⟨rfl,hb2⟩;have HB2:Hid (Below w.heap.size w w2):=HQ.out.2.up.trans (hb2.mono HQ.out.2.up.size);clear hb2)
      | (go_at_call 245;refine Calls.mono (HIs.out _) ?_;rintro e w3 ⟨rfl,hb3⟩;obtain ⟨-,hb30,hz3⟩:=one_new w2 _ _ hb3;have HB3:Hid (Below w.heap.size w w3):=HB2.out.trans (hb30.mono HB2.out.size);clear hb3 hb30))
     go_ret2
     exact RdOut.no hR HB3.out
    ·rw [hB] at HIs;have HYe2:Hid _:=HYe.out hB;clear hB HNo HYe;go_upto_region 8 with (first
      | (go_at_call 254;refine Calls.mono (HOp.out _) ?_;rintro e w2 ⟨rfl,hb2⟩;have HR2:Hid (Rl w w2 a' c' (rdL v k)):=HQ.out.2.next hb2;clear hb2)
      | (go_at_call 245;refine Calls.mono (HIs.out _) ?_;rintro e w3 ⟨rfl,hb3⟩;obtain ⟨a3,hb30,hz3⟩:=one_new w2 _ _ hb3;have HR3:Hid (Rl w w3 a' c' (rdL v k)):=HR2.out.next hb30;obtain ⟨o0,o1,o2,o3,o4⟩:=a3.o5;clear hb3 hb30 a3))
     clear HQ HR2 HOp HIs q0 hz;have HR4:Hid (Rl w (w3.alloc (.cells #[.int .i8 o.op,.int .u8 o.d,.int .u8 o.a,.int .u8 o.b,.int .i64 o.im] 60)) a' c' (rdL v k)):=HR3.out.next ((Below.refl _ _).alloc (Nat.le_refl _) _);have hsz:w.heap.size<=w3.heap.size:=HR3.out.up.size;have HRow:Hid ((w3.alloc (.cells #[.int .i8 o.op,.int .u8 o.d,.int .u8 o.a,.int .u8 o.b,.int .i64 o.im] 60)).ownsRow w.heap.size 60 5 (.slice a' k c') k (ocells (rdL v k))):=by
      have:=HR4.out.row
      rw [HNx.out.2] at this;exact this
     go_wp2_with (first
      | (at_builtin;refine wpList_append_lies _ rfl _ _ 33 rfl w.heap.size 60 i0 (.agg #[.int .i8 0,.int .u8 0,.int .u8 0,.int .u8 0,.int .i64 0]) 5 16 Tryz.underlying33 HI.out.1 HI.out.2.1 HI.out.2.2.1 HI.out.2.2.2 rfl (by decide) (.slice a' k c') k (ocells (rdL v k)) rfl HRow.out ⟨w3.heap.size,0,none⟩ 1 1 [.int .i8 o.op,.int .u8 o.d,.int .u8 o.a,.int .u8 o.b,.int .i64 o.im] rfl rfl (World.news_of_block (heap_alloc_new w3 _)) (by simp [Value.oneCell']) (by decide) (by unfold maxLen;omega) (by omega) (by simp;omega) (w3.heap.size+1) (by simp) ?_;intro g cp w5 hown hgrow hat hlt3;have HR5:Hid (Rl w w5 (some ⟨g,0,none⟩) cp (rdL v (k+1))):=(by rw [HNx.out.1];exact HR4.out.add (by rw [HNx.out.2];exact hgrow) (by rw [HNx.out.2];exact hown):Rl w w5 (some ⟨g,0,none⟩) cp (rdL v (k+1)));clear hown hgrow hat hlt3))
     go_roundw
     case rel=>exact ⟨k+1,cp,some ⟨g,0,none⟩,by omega,by go_num,rfl,HYe2.out,HR5.out⟩
     case measure=>simp [intOf];omega
   ·have HOp:Hid (∀ W,Calls Tryz.prog 254 #[.int .u64 x] W fun e w'=>e=.returned (.tuple #[zO.val,.bool false])/\Below W.heap.size W w'):=fun W=>opOf_no x W x0 x1 (by omega);have hR:=HNo.out (by unfold okW;rw [decide_eq_false h53];rfl);clear HNo HYe x0 x1 h53;go_wp2_with (first
     | (go_at_call 254;refine Calls.mono (HOp.out _) ?_;rintro e w2 ⟨rfl,hb2⟩;have HB2:Hid (Below w.heap.size w w2):=HQ.out.2.up.trans (hb2.mono HQ.out.2.up.size);clear hb2))
    go_ret2
    exact RdOut.no hR (HB2.out.alloc HB2.out.size _)
  ·obtain rfl:k=m:=by omega
   go_wp2
   go_ret2
   refine RdOut.yes HQ.out.1 ?_ HQ.out.2.up
   have:=HQ.out.2.row
   rw [rdL_len] at this;exact this
end Go.Proofs.YtpdaknbmcpmhjaaGreatDoor.Bu
