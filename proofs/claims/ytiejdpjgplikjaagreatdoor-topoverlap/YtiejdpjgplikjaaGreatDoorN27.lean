/- Parts Ub Uc Uh Ud Ue. -/
import Derived.Test.YtiejdpjgplikjaaGreatDoorN26
import Derived.Test.YtiejdpjgplikjaaGreatDoorN20
import Derived.Great.Ranges
import Derived.Deep.MidRow
import Derived.Test.YtiejdpjgplikjaaGreatDoorN21
import Derived.BigRegion
import Derived.Test.YtiejdpjgplikjaaGreatDoorN13
set_option maxRecDepth 20000
set_option maxHeartbeats 16000000
namespace Go.Proofs.YtiejdpjgplikjaaGreatDoor.Mo
open Go.ChangeShapes Go.WideShapes Go.ChangeAt Go.RowKit Go.Great
open YtiejdpjgplikjaaGreatDoor.Op YtiejdpjgplikjaaGreatDoor.So YtiejdpjgplikjaaGreatDoor.Dp YtiejdpjgplikjaaGreatDoor.Bn
open YtiejdpjgplikjaaGreatDoor.Ls (Nl)
def wnF (e l:Nat->Int) (j:Nat):Value:=if j%2=0 then .int .i64 (e (j / 2)) else .int .i64 (l (j / 2))
def wnA (e l:Nat->Int):Array Value:=((List.range 128).map (wnF e l)).toArray
theorem wnA_get (e l:Nat->Int) {j:Nat} (h:j<128):(wnA e l)[j]?=some (wnF e l j):=by
 unfold wnA;rw [List.getElem?_toArray,List.getElem?_map,List.getElem?_range h];rfl
theorem wnA_size (e l:Nat->Int):(wnA e l).size=128:=by unfold wnA;simp
theorem wnF_e (e l:Nat->Int) (i:Nat):wnF e l (i*2)=.int .i64 (e i):=by
 unfold wnF;rw [if_pos (by omega),show i*2 / 2=i by omega]
theorem wnF_l (e l:Nat->Int) (i:Nat):wnF e l (i*2+1)=.int .i64 (l i):=by
 unfold wnF;rw [if_neg (by omega),show (i*2+1) / 2=i by omega]
theorem Wn.of {w:World} {b:Nat} {e l:Nat->Int} (h:At w b (wnA e l)):Wn w b e l:=
 ⟨fun i hi=>h.c _ _ (by rw [wnA_get e l (by omega),wnF_e]),fun i hi=>h.c _ _ (by rw [wnA_get e l (by omega),wnF_l]),h.f,h.lt⟩
theorem Wn.cell {w:World} {b:Nat} {e l:Nat->Int} (h:Wn w b e l) {j:Nat} (hj:j<128):w.cell? ⟨b,j,none⟩=some (wnF e l j):=by
 unfold wnF
 by_cases c:j%2=0
 ·rw [if_pos c]
  have:=h.e (j / 2) (by omega)
  rwa [show j / 2*2=j by omega] at this
 ·rw [if_neg c]
  have:=h.l (j / 2) (by omega)
  rwa [show j / 2*2+1=j by omega] at this
theorem Wn.range {w:World} {b:Nat} {e l:Nat->Int} (h:Wn w b e l):w.rangeAt b 0 (wnA e l).toList:=fun j v hv=>by
 have hj:j<128:=by
  have:=(List.getElem?_eq_some_iff.1 hv).1
  rw [Array.length_toList,wnA_size] at this;exact this
 rw [Array.getElem?_toList,wnA_get e l hj] at hv
 cases hv
 rw [Nat.zero_add];exact h.cell hj
theorem wnA_one (e l:Nat->Int):(wnA e l).all (·.oneCell')=true:=by
 unfold wnA;refine all_oneCell_toArray fun v hv=>?_;obtain ⟨j,_,rfl⟩:=List.mem_map.1 hv;unfold wnF
 split <;> rfl
theorem Wn.setE {w:World} {b:Nat} {e l:Nat->Int} (h:Wn w b e l) {k:Nat} (hk:k<64) (v:Int):Wn (w.setCell ⟨b,k*2,none⟩ (.int .i64 v)) b (Dp.updI e k v) l:=by
 refine ⟨fun i hi=>?_,fun i hi=>?_,fun j=>by rw [World.frozen?_setCell];exact h.f j,by simpa using h.lt⟩
 ·by_cases c:i=k
  ·subst c;rw [World.cell?_setCell_same _ _ _ (h.e i hi)];unfold Dp.updI;rw [if_pos rfl]
  ·rw [World.cell?_setCell_other]
   ·unfold Dp.updI;rw [if_neg c];exact h.e i hi
   ·intro h';injection h' with _ h2;omega
 ·rw [World.cell?_setCell_other]
  ·exact h.l i hi
  ·intro h';injection h' with _ h2;omega
theorem Wn.setL {w:World} {b:Nat} {e l:Nat->Int} (h:Wn w b e l) {k:Nat} (hk:k<64) (v:Int):Wn (w.setCell ⟨b,k*2+1,none⟩ (.int .i64 v)) b e (Dp.updI l k v):=by
 refine ⟨fun i hi=>?_,fun i hi=>?_,fun j=>by rw [World.frozen?_setCell];exact h.f j,by simpa using h.lt⟩
 ·rw [World.cell?_setCell_other]
  ·exact h.e i hi
  ·intro h';injection h' with _ h2;omega
 ·by_cases c:i=k
  ·subst c;rw [World.cell?_setCell_same _ _ _ (h.l i hi)];unfold Dp.updI;rw [if_pos rfl]
  ·rw [World.cell?_setCell_other]
   ·unfold Dp.updI;rw [if_neg c];exact h.l i hi
   ·intro h';injection h' with _ h2;omega
theorem Wn.same {w:World} {b:Nat} {e l e' l':Nat->Int} (h:Wn w b e l) (he:∀ i,i<64->e i=e' i) (hl:∀ i,i<64->l i=l' i):Wn w b e' l':=
 ⟨fun i hi=>by rw [<- he i hi];exact h.e i hi,fun i hi=>by rw [<- hl i hi];exact h.l i hi,h.f,h.lt⟩
structure Bh (W:World) (a:Option Addr) (n:Nat) (F:Mat):Prop where
 is:0<n->∃ (b:Nat) (r:Nat->Nat),a=some ⟨b,0,none⟩/\b<W.heap.size/\∀ i,i<n->r i<W.heap.size/\W.cell? ⟨b,i,none⟩=some (.slice (some ⟨r i,0,none⟩) n n)/\∀ j,j<n->W.cell? ⟨r i,j,none⟩=some (.int .i64 (F i j))
theorem Bh.up {W W':World} {a:Option Addr} {n:Nat} {F:Mat} (h:Bh W a n F) (g:Below W.heap.size W W'):Bh W' a n F:=⟨fun h0=>by
 obtain ⟨b,r,e,lt,hx⟩:=h.is h0;refine ⟨b,r,e,Nat.lt_of_lt_of_le lt g.size,fun i hi=>?_⟩;obtain ⟨h1,h2,h3⟩:=hx i hi;exact ⟨Nat.lt_of_lt_of_le h1 g.size,by rw [(bcell g).1 _ _ lt];exact h2,fun j hj=>by rw [(bcell g).1 _ _ h1];exact h3 j hj⟩⟩
abbrev noW:Int:=-9223372036854775808
def nwE (F:Mat) (n:Nat) (c:Int) (e:Nat->Int) (k:Nat):Nat->Int:=fun m=>if m<k/\F n m≠noW then max (e m) (c+F n m) else e m
def nwL (F:Mat) (n:Nat) (c:Int) (l:Nat->Int) (k:Nat):Nat->Int:=fun m=>if m<k/\F m n≠noW then min (l m) (c-F m n) else l m
theorem nwE_yes {F:Mat} {n k:Nat} {c:Int} {e:Nat->Int} (h:F n k≠noW):Dp.updI (nwE F n c e k) k (max (e k) (c+F n k))=nwE F n c e (k+1):=by
 funext m
 unfold Dp.updI nwE
 by_cases hm:m=k
 ·subst hm;rw [if_pos rfl,if_pos ⟨by omega,h⟩]
 ·rw [if_neg hm]
  by_cases c2:m<k/\F n m≠noW
  ·rw [if_pos c2,if_pos ⟨by omega,c2.2⟩]
  ·rw [if_neg c2,if_neg fun h3=>c2 ⟨by omega,h3.2⟩]
theorem nwE_no {F:Mat} {n k:Nat} {c:Int} {e:Nat->Int} (h:F n k=noW):nwE F n c e k=nwE F n c e (k+1):=by
 funext m
 unfold nwE
 by_cases c2:m<k/\F n m≠noW
 ·rw [if_pos c2,if_pos ⟨by omega,c2.2⟩]
 ·rw [if_neg c2,if_neg fun h3=>c2 ⟨by
   have:m≠k:=fun e=>h3.2 (e ▸ h)
   omega,h3.2⟩]
theorem nwL_yes {F:Mat} {n k:Nat} {c:Int} {l:Nat->Int} (h:F k n≠noW):Dp.updI (nwL F n c l k) k (min (l k) (c-F k n))=nwL F n c l (k+1):=by
 funext m
 unfold Dp.updI nwL
 by_cases hm:m=k
 ·subst hm;rw [if_pos rfl,if_pos ⟨by omega,h⟩]
 ·rw [if_neg hm]
  by_cases c2:m<k/\F m n≠noW
  ·rw [if_pos c2,if_pos ⟨by omega,c2.2⟩]
  ·rw [if_neg c2,if_neg fun h3=>c2 ⟨by omega,h3.2⟩]
theorem nwL_no {F:Mat} {n k:Nat} {c:Int} {l:Nat->Int} (h:F k n=noW):nwL F n c l k=nwL F n c l (k+1):=by
 funext m
 unfold nwL
 by_cases c2:m<k/\F m n≠noW
 ·rw [if_pos c2,if_pos ⟨by omega,c2.2⟩]
 ·rw [if_neg c2,if_neg fun h3=>c2 ⟨by
   have:m≠k:=fun e=>h3.2 (e ▸ h)
   omega,h3.2⟩]
theorem nwE_at (F:Mat) (n:Nat) (c:Int) (e:Nat->Int) (k:Nat):nwE F n c e k k=e k:=by unfold nwE;rw [if_neg (by omega)]
theorem nwL_at (F:Mat) (n:Nat) (c:Int) (l:Nat->Int) (k:Nat):nwL F n c l k k=l k:=by unfold nwL;rw [if_neg (by omega)]
structure Nw (w W:World) (e l:Nat->Int):Prop where
 b:Wn W w.heap.size e l
 r:∀ j,j<128->(W.cell? ⟨w.heap.size+1,j,none⟩).isSome=true
 f:∀ j,W.frozen? ⟨w.heap.size+1,j,none⟩=false
 lt:w.heap.size+1<W.heap.size
 up:Below w.heap.size w W
theorem nw_new (w:World) (e l:Nat->Int):Nw w ((w.alloc (.cells (wnA e l) 186)).alloc (.cells (zcs 128).toArray 186)) e l:=by
 have h1:=(At.new w (wnA e l) 186).alloc (.cells (zcs 128).toArray 186);have h2:=At.new (w.alloc (.cells (wnA e l) 186)) (zcs 128).toArray 186;rw [World.size_alloc] at h2;refine ⟨Wn.of h1,fun j hj=>?_,h2.f,h2.lt,((Below.refl _ _).alloc (Nat.le_refl _) _).alloc (by simp) _⟩;rw [h2.c j (.int .i64 0) (by rw [List.getElem?_toArray];unfold zcs;rw [List.getElem?_replicate,if_pos hj])];rfl
theorem Nw.set {w W:World} {e l e' l':Nat->Int} (h:Nw w W e l) {j:Nat} {v:Value} (hb:Wn (W.setCell ⟨w.heap.size,j,none⟩ v) w.heap.size e' l'):Nw w (W.setCell ⟨w.heap.size,j,none⟩ v) e' l':=by
 have g:So.Fr (So.One w.heap.size) W (W.setCell ⟨w.heap.size,j,none⟩ v):=(So.Fr.refl (So.One w.heap.size) W).setCell (.inr rfl) _ _;have nx:¬ So.One w.heap.size (w.heap.size+1):=fun e=>by have e:w.heap.size+1=w.heap.size:=e;omega
 exact ⟨hb,fun i hi=>by rw [g.cell h.lt nx];exact h.r i hi,fun i=>by rw [g.frozen h.lt nx];exact h.f i,Nat.lt_of_lt_of_le h.lt g.size,h.up.trans (g.below h.up.size fun k hk e=>by have e:k=w.heap.size:=e;omega)⟩
theorem fr_setCells {X:Nat->Prop} {b:Nat} (hb:X b):∀ (vs:List Value) (o:Nat) {w0 w:World},So.Fr X w0 w->So.Fr X w0 (w.setCells b o vs)
 | [],_,_,_,h=>h
 | v::r,o,_,_,h=>fr_setCells hb r (o+1) (h.setCell (.inr hb) o v)
def FIn (N:Nat) (F:Mat):Prop:=∀ i j,i<N->j<N->F i j=noW∨-10000000<=F i j/\F i j<=10000000
theorem narrowed_any (sb n N:Nat) (e l P:Nat->Int) (F:Mat) (pa ba:Option Addr) (pc bc:Nat) (w:World) (hP:w.cell? ⟨sb,3,none⟩=some (.slice pa N pc)) (hB:w.cell? ⟨sb,2,none⟩=some (.slice ba N bc)) (hs:sb<w.heap.size) (hp:Nl w pa N P) (hb:Bh w ba N F) (hN:N<=64) (hn:n<N) (hF:FIn N F) (hc0:0<=P n) (hc1:P n<=1000000) :
  Calls Tryz.prog 159 #[.pointer (some ⟨sb,0,none⟩),.agg (wnA e l),.int .i64 (n:Int)] w fun r w'=>r=.returned (.agg (wnA (nwE F n (P n) e N) (nwL F n (P n) l N)))/\Below w.heap.size w w':=by
 obtain ⟨b,r,rfl,bl,hx⟩:=hb.is (by omega);obtain ⟨pb,pf,rfl,pl,px⟩:=hp.is (by omega);have HX:Hid (∀ i,i<N->r i<w.heap.size/\w.cell? ⟨b,i,none⟩=some (.slice (some ⟨r i,0,none⟩) N N)/\∀ j,j<N->w.cell? ⟨r i,j,none⟩=some (.int .i64 (F i j))):=hx;have HF:Hid (FIn N F):=hF;have HD:Hid (Nw w ((w.alloc (.cells (wnA e l) 186)).alloc (.cells (zcs 128).toArray 186)) e l):=nw_new w e l;have pn:=px n hn;have n0:(0:Int)<=(n:Int):=by omega
 have n1:(n:Int)<(N:Int):=by omega
 have hN':(N:Int)<=64:=by omega
 clear hx hF hb hp px;generalize P n=c at *;go_enter Tryz.func159,Tryz.ntmps159;apply wp_seq_k;intro K0 hK0
 apply wp_region_lit
 refine wpList_boxTo rfl 186 (.tmp 1) rfl (some 4) rfl w.heap.size rfl (wnA e l) rfl ?_;refine wpList_allocTo rfl (some 6) rfl (.pointer (some ⟨(w.alloc (.cells (wnA e l) 186)).heap.size,0,none⟩)) (.cells (zcs 128).toArray 186) (by kernel_rfl) ?_;refine wpList_nil ?_;refine hK0 _ _ ?_;clear hK0 K0;simp only [Act.put,List.setIfInBounds_toArray,List.set_cons_zero,List.set_cons_succ,World.size_alloc];generalize (w.alloc (.cells (wnA e l) 186)).alloc (.cells (zcs 128).toArray 186)=W0 at *;generalize wnA e l=A;have u0:=HD.out.up;have s3:W0.cell? ⟨sb,3,none⟩=some (.slice (some ⟨pb,pf,none⟩) N pc):=by rw [(bcell u0).1 _ _ hs];exact hP
 have s2:W0.cell? ⟨pb,pf+n,none⟩=some (.int .i64 c):=by rw [(bcell u0).1 _ _ pl];exact pn
 clear u0;go_wp2_with fail
 clear s3 s2
 go_loopw [23] (fun v wr=>∃ k:Nat,k<=N/\v=.int .i64 k/\Nw w wr (nwE F n c e k) (nwL F n c l k)) (fun v _=>N-(intOf v).toNat)
 case atStart=>exact ⟨0,by omega,rfl,by
  have e1:nwE F n c e 0=e:=by funext m;unfold nwE;rw [if_neg (by omega)]
  have e2:nwL F n c l 0=l:=by funext m;unfold nwL;rw [if_neg (by omega)]
  rw [e1,e2];exact HD.out⟩
 case round=>
  rename World=>wr;obtain ⟨k,hk,rfl,hq⟩:=hrel;have HQ:Hid (Nw w wr (nwE F n c e k) (nwL F n c l k)):=hq;clear hq HD
  by_cases hlt:k<N
  ·have k0:(0:Int)<=(k:Int):=by omega
   have k1:(k:Int)<(N:Int):=by omega
   have k2:(k:Int)<64:=by omega
   have u:=HQ.out.up;obtain ⟨r1,r2,r3⟩:=HX.out n hn;obtain ⟨r4,r5,r6⟩:=HX.out k hlt;have s2:wr.cell? ⟨sb,2,none⟩=some (.slice (some ⟨b,0,none⟩) N bc):=by rw [(bcell u).1 _ _ hs];exact hB
   have q1:wr.cell? ⟨b,n,none⟩=some (.slice (some ⟨r n,0,none⟩) N N):=by rw [(bcell u).1 _ _ bl];exact r2
   have q2:wr.cell? ⟨r n,k,none⟩=some (.int .i64 (F n k)):=by rw [(bcell u).1 _ _ r1];exact r3 k hlt
   have q3:wr.cell? ⟨b,k,none⟩=some (.slice (some ⟨r k,0,none⟩) N N):=by rw [(bcell u).1 _ _ bl];exact r5
   have q4:wr.cell? ⟨r k,n,none⟩=some (.int .i64 (F k n)):=by rw [(bcell u).1 _ _ r4];exact r6 n hn
   have z1:w.heap.size<wr.heap.size:=HQ.out.b.lt;have z2:¬ sb=w.heap.size:=by omega
   have z3:¬ b=w.heap.size:=by omega
   have z4:¬ r k=w.heap.size:=by omega
   have we:=HQ.out.b.e k (by omega);have wl:=HQ.out.b.l k (by omega);rw [nwE_at] at we;rw [nwL_at] at wl;have fe:=HQ.out.b.f (k*2);have fl:=HQ.out.b.f (k*2+1);have HE:Hid (F n k≠noW->∀ W,Wn W w.heap.size (nwE F n c e k) (nwL F n c l k)->Wn (W.setCell ⟨w.heap.size,k*2,none⟩ (.int .i64 (max (e k) (c+F n k)))) w.heap.size (nwE F n c e (k+1)) (nwL F n c l k)):=fun h W hW=>by
    have:=hW.setE (k:=k) (by omega) (max (e k) (c+F n k));rwa [nwE_yes h] at this
   have HL:Hid (F k n≠noW->∀ W,Wn W w.heap.size (nwE F n c e (k+1)) (nwL F n c l k)->Wn (W.setCell ⟨w.heap.size,k*2+1,none⟩ (.int .i64 (min (l k) (c-F k n)))) w.heap.size (nwE F n c e (k+1)) (nwL F n c l (k+1))):=fun h W hW=>by
    have:=hW.setL (k:=k) (by omega) (min (l k) (c-F k n));rwa [nwL_yes h] at this
   have HE0:Hid (F n k=noW->nwE F n c e k=nwE F n c e (k+1)):=nwE_no;have HL0:Hid (F k n=noW->nwL F n c l k=nwL F n c l (k+1)):=nwL_no;have b1:=HF.out n k hn hlt;have b2:=HF.out k n hlt hn;clear u r1 r2 r3 r4 r5 r6;obtain ⟨x,hx⟩:∃ x,F n k=x:=⟨_,rfl⟩;obtain ⟨y,hy⟩:∃ y,F k n=y:=⟨_,rfl⟩;rw [hx] at q2 HE HE0 b1;rw [hy] at q4 HL HL0 b2;clear hx hy;obtain ⟨ek,hek⟩:∃ v,e k=v:=⟨_,rfl⟩;obtain ⟨lk,hlk⟩:∃ v,l k=v:=⟨_,rfl⟩;rw [hek] at we HE;rw [hlk] at wl HL;clear hek hlk
   by_cases hx:x=noW
   ·have HE1:Hid (nwE F n c e k=nwE F n c e (k+1)):=HE0.out hx;subst hx
    by_cases hy:y=noW
    ·have HL1:Hid (nwL F n c l k=nwL F n c l (k+1)):=HL0.out hy;subst hy;clear HE HL HE0 HL0 b1 b2;go_wp2_with fail
     go_roundw
     case rel=>exact ⟨k+1,by omega,by go_num,by rw [<- HE1.out,<- HL1.out];exact HQ.out⟩
     case measure=>simp [intOf];omega
    ·have hy':(y==noW)=false:=by simpa using hy
     rcases b2 with h|⟨y1,y2⟩
     ·exact absurd h hy
     have HL1:Hid _:=HL.out hy;clear HE HL HE0 HL0 b1;go_wp2_with fail
     go_roundw
     case rel=>exact ⟨k+1,by omega,by go_num,HQ.out.set (HL1.out _ (by rw [<- HE1.out];exact HQ.out.b))⟩
     case measure=>simp [intOf];omega
   ·have hx':(x==noW)=false:=by simpa using hx
    rcases b1 with h|⟨x1,x2⟩
    ·exact absurd h hx
    have HE1:Hid _:=HE.out hx
    by_cases hy:y=noW
    ·have HL1:Hid (nwL F n c l k=nwL F n c l (k+1)):=HL0.out hy;subst hy;clear HE HL HE0 HL0 b2;go_wp2_with fail
     go_roundw
     case rel=>exact ⟨k+1,by omega,by go_num,by rw [<- HL1.out];exact HQ.out.set (HE1.out _ HQ.out.b)⟩
     case measure=>simp [intOf];omega
    ·have hy':(y==noW)=false:=by simpa using hy
     rcases b2 with h|⟨y1,y2⟩
     ·exact absurd h hy
     have HL1:Hid _:=HL.out hy;clear HE HL HE0 HL0;go_wp2_with fail
     go_roundw
     case rel=>exact ⟨k+1,by omega,by go_num,(HQ.out.set (HE1.out _ HQ.out.b)).set (HL1.out _ (HE1.out _ HQ.out.b))⟩
     case measure=>simp [intOf];omega
  ·obtain rfl:k=N:=by omega
   have k1:¬ (k:Int)<(k:Int):=by omega
   go_upto_region 12 with fail
   rename_i K3 hK3;have hr:=HQ.out.b.range;have hi2:(Tryz.prog.info? 186).map (·.size)=some (wnA (nwE F n c e k) (nwL F n c l k)).size:=by rw [wnA_size];kernel_rfl
   have hi:(Tryz.prog.info? 186).map (·.size)=some (wnA (nwE F n c e k) (nwL F n c l k)).toList.length:=by rw [Array.length_toList,wnA_size];kernel_rfl
   have h1:=wnA_one (nwE F n c e k) (nwL F n c l k);have ht:wr.there (w.heap.size+1) 0 (wnA (nwE F n c e k) (nwL F n c l k)).size:=fun j hj=>by
    rw [wnA_size] at hj;rw [Nat.zero_add];exact ⟨HQ.out.r j hj,HQ.out.f j⟩
   have HU:Hid (Below w.heap.size w wr):=HQ.out.up;clear HQ HX HF;generalize hA:wnA (nwE F n c e k) (nwL F n c l k)=B at *;apply wp_region_lit
   refine wpList_load_mid rfl 186 (.tmp 4) rfl w.heap.size 0 rfl B.toList _ hr Tryz.underlying186 rfl hi ?_;refine wpList_store_mid rfl 186 (.tmp 6) (.tmp 73) rfl (w.heap.size+1) 0 B rfl rfl ht hi2 h1 ?_;refine wpList_nil ?_;refine hK3 _ _ ?_;refine wp_ret ?_;have hl:=run_loadVar_mid (P:=Tryz.prog) (wr.setCells (w.heap.size+1) 0 B.toList) (w.heap.size+1) 0 186 B.toList _ (World.rangeAt_setCells_same wr (w.heap.size+1) 0 B.toList (by simpa using ht)) Tryz.underlying186 rfl hi;rw [Array.toArray_toList] at hl;refine bodyPost_ret (v:=.agg B) (by simp [results,Tryz.results159,asAddr,Act.put,hl]) rfl ⟨by rw [hA],?_⟩;have hF:So.Fr (So.One (w.heap.size+1)) wr (wr.setCells (w.heap.size+1) 0 B.toList):=fr_setCells (X:=So.One (w.heap.size+1)) rfl _ _ (So.Fr.refl _ _);exact HU.out.trans (hF.below HU.out.size fun k hk e=>by have e:k=w.heap.size+1:=e;omega)
end Go.Proofs.YtiejdpjgplikjaaGreatDoor.Mo
namespace Go.Proofs.YtiejdpjgplikjaaGreatDoor.Bn
open YtiejdpjgplikjaaGreatDoor.Dp (Ed)
theorem Wk.leB {F:Mat} {j:Nat} (hs:Sm 65544 F):∀ {i:Nat} {l:List Nat} {x:Int},Wk F j i l x→-65544*((l.length:Int)+1)<=x/\x<=65544*((l.length:Int)+1)
 | i,[],x,h=>by
  have:=hs i j
  have h2:=h.2;have h1:=h.1;simp only [List.length_nil];omega
 | i,a::l,x,⟨h0,y,h1,e⟩=>by
  have:=hs i a
  have ih:=Wk.leB hs h1;simp only [List.length_cons];omega
theorem Wk.domB {F G:Mat} {j k:Nat} (hs:Sm 65544 F) (hg:∀ a b,F a b<=G a b) (ht:∀ o,o<k->Tri G o):∀ {i:Nat} {l:List Nat} {x:Int},Wk F j i l x->(∀ a,a∈l->a<k)->G i j≠(-9223372036854775808)/\x<=G i j
 | i,[],x,h,_=>by
  have:=hs i j
  have h2:=h.2;have h1:=h.1;have h3:=hg i j;omega
 | i,a::l,x,⟨h0,y,h1,e⟩,hl=>by
  have:=hs i a
  have h3:=hg i a;obtain ⟨g1,g2⟩:=Wk.domB hs hg ht h1 fun b hb=>hl b (List.mem_cons_of_mem _ hb)
  have:=ht a (hl a (List.mem_cons_self ..)) i j (by omega) g1
  omega
theorem Smp.smB {F:Mat} {k:Nat} (hs:Sm 65544 F) (h:Smp F k) (hk:k<=64):Sm 4260360 (fw F k):=fun i j=>by
 rcases h i j with h|⟨l,h1,h2,h3⟩
 ·exact .inl h
 ·have h4:=h3.leB hs;have h5:=nodup_le k l h1 h2
  right
  omega
theorem smp_allB {F:Mat} (hs:Sm 65544 F):∀ k,k<=64->(∀ j,j<k->fw F j j j<=0)->(∀ m,m<=k->Sm 4260360 (fw F m))/\Smp F k
 | 0,_,_=>⟨fun m hm=>by
   obtain rfl:m=0:=by omega
   intro i j
   have:=hs i j
   show F i j=_\/_;show F i j=_∨-4260360<=F i j/\F i j<=4260360
   omega,fun i j=>by
   by_cases e:fw F 0 i j=(-9223372036854775808)
   ·exact .inl e
   ·exact .inr ⟨[],List.nodup_nil,fun a ha=>(by cases ha),e,rfl⟩⟩
 | k+1,hk,hd=>by
  obtain ⟨hm,ih⟩:=smp_allB hs k (by omega) fun j hj=>hd j (by omega);have hkk:=hd k (by omega);have ht:∀ o,o<k->Tri (fw F k) o:=fw_tri (by omega) hm fun j hj=>hd j (by omega);have hg:∀ a b,F a b<=fw F k a b:=fun a b=>fw_ge F a b k;have key:Smp F (k+1):=fun i j=>by
   have up:(∃ l:List Nat,l.Nodup/\(∀ a,a∈l->a<k)/\Wk F j i l (fw F k i j))->∃ l:List Nat,l.Nodup/\(∀ a,a∈l->a<k+1)/\Wk F j i l (fw F k i j):=fun ⟨l,h1,h2,h3⟩=>⟨l,h1,fun a ha=>by have:=h2 a ha;omega,h3⟩;show gOv (fw F k) k i j=_\/∃ l:List Nat,l.Nodup/\(∀ a,a∈l->a<k+1)/\Wk F j i l (gOv (fw F k) k i j)
   by_cases c:fw F k i k=(-9223372036854775808)\/fw F k k j=(-9223372036854775808)
   ·rw [gOv_no c];exact (ih i j).imp id up
   ·rw [gOv_yes c];have c1:fw F k i k≠(-9223372036854775808):=fun e=>c (.inl e);have c2:fw F k k j≠(-9223372036854775808):=fun e=>c (.inr e)
    by_cases c3:fw F k i j≠(-9223372036854775808)/\fw F k i k+fw F k k j<=fw F k i j
    ·rw [Int.max_eq_left c3.2];exact (ih i j).imp id up
    ·have s1:=hm k (Nat.le_refl _) i j;have s2:=hm k (Nat.le_refl _) i k;have s3:=hm k (Nat.le_refl _) k j;rw [Int.max_eq_right (by omega)];obtain ⟨l1,n1,b1,w1⟩:=(ih i k).resolve_left c1;obtain ⟨l2,n2,b2,w2⟩:=(ih k j).resolve_left c2;refine .inr ⟨l1++k::l2,?_,fun a ha=>?_,w2.cat w1⟩
     ·have hne:∀ a,a∈l1->∀ b,b∈k::l2->a≠b:=fun a ha b hb e=>by
       subst e;rcases List.mem_cons.1 hb with e|hb
       ·have:=b1 a ha;omega
       ·obtain ⟨p1,p2,x1,x2,g1,g2,g3,g4,g5⟩:=w1.split ha;obtain ⟨q1,q2,y1,y2,f1,f2,f3,f4,f5⟩:=w2.split hb;have d1:=g1.domB hs hg ht fun z hz=>b1 z (g4 z hz);have d2:=g2.domB hs hg ht fun z hz=>b1 z (g5 z hz);have d3:=f1.domB hs hg ht fun z hz=>b2 z (f4 z hz);have d4:=f2.domB hs hg ht fun z hz=>b2 z (f5 z hz);have t1:=ht a (b1 a ha) i j d1.1 d4.1;have t2:=ht a (b1 a ha) k k d3.1 d2.1;exact c3 ⟨t1.1,by omega⟩
      exact List.nodup_append.2 ⟨n1,List.nodup_cons.2 ⟨fun h=>by have:=b2 k h;omega,n2⟩,hne⟩
     ·rcases List.mem_append.1 ha with ha|ha
      ·have:=b1 a ha;omega
      ·rcases List.mem_cons.1 ha with rfl|ha
       ·omega
       ·have:=b2 a ha;omega
  refine ⟨fun m h=>?_,key⟩
  by_cases e:m=k+1
  ·subst e;exact key.smB hs hk
  ·exact hm m (by omega)
end Go.Proofs.YtiejdpjgplikjaaGreatDoor.Bn
namespace Go.Proofs.YtiejdpjgplikjaaGreatDoor.Mo
open YtiejdpjgplikjaaGreatDoor.Dp YtiejdpjgplikjaaGreatDoor.Bn
def dg:Mat:=fun i j=>if i=j then 0 else noW
def lwS (q:Int) (es:List Ed):Mat:=es.foldl (stE q) dg
def lw (q:Int) (es:List Ed) (k:Nat):Mat:=fw (lwS q es) k
theorem wt_inB {n:Nat} {e:Ed} (h:EIn n e) {q:Int} (h0:0<=q) (h1:q<=65536) : -65544<=Bn.wt q e/\Bn.wt q e<=8:=by
 have h2:=h.l0;have h3:=h.l8;unfold Bn.wt;rcases h.d with ⟨e1,-⟩|e1
 ·rw [e1];simp;omega
 ·rw [e1];simp;omega
theorem lwS_sm {n:Nat} {es:List Ed} (he:EL n es) {q:Int} (h0:0<=q) (h1:q<=65536):Sm 65544 (lwS q es):=
 foldl_keep es _ (fun i j=>by
  unfold dg;split;· right;omega
  ·exact .inl rfl) fun F e hm h=>by
  have:=wt_inB (he e hm) h0 h1
  exact h.st (by omega) (by omega)
theorem lw_un {es:List Ed} {q:Int} {g:Nat->Int} (hg:∀ e∈es,g e.f.toNat + Bn.wt q e<=g e.t.toNat) (k:Nat):Un g (lw q es k):=by
 have h0:Un g (lwS q es):=foldl_keep es _ (fun i j=>by
  unfold dg;split
  ·rename_i c;subst c;right;omega
  ·exact .inl rfl) fun F e hm h=>h.st (hg e hm)
 exact h0.fw k
theorem lw_0 {es:List Ed} {q:Int} (h:Pot es q) (k i:Nat):lw q es k i i=0:=by
 obtain ⟨g,hg⟩:=h;have h1:=lw_un hg k i i;have h2:(0:Int)<=lw q es k i i:=by
  have e:dg i i=0:=by unfold dg;rw [if_pos rfl]
  have:=Int.le_trans (foldl_ge q i i es dg) (fw_ge (lwS q es) i i k)
  rw [e] at this;exact this
 omega
theorem lw_sm {n:Nat} {es:List Ed} (he:EL n es) {q:Int} (h0:0<=q) (h1:q<=65536) (h:Pot es q) {k:Nat} (hk:k<=64):Sm 4260360 (lw q es k):=
 (smp_allB (lwS_sm he h0 h1) k hk fun j _=>by have:=lw_0 h j j;unfold lw at this;omega).1 k (Nat.le_refl _)
theorem lw_fin {n:Nat} {es:List Ed} (he:EL n es) {q:Int} (h0:0<=q) (h1:q<=65536) (h:Pot es q) {k N:Nat} (hk:k<=64):FIn N (lw q es k):=fun i j _ _=>by
 have:=lw_sm he h0 h1 h hk i j
 unfold noW;omega
theorem lw_mem {es:List Ed} {q:Int} {e:Ed} (hm:e∈es) (N:Nat):Bn.wt q e<=lw q es N e.f.toNat e.t.toNat:=Int.le_trans (foldl_mem q es dg e hm) (fw_ge ..)
end Go.Proofs.YtiejdpjgplikjaaGreatDoor.Mo
namespace Go.Proofs.YtiejdpjgplikjaaGreatDoor.Mo
open Go.ChangeShapes Go.WideShapes Go.ChangeAt Go.RowKit Go.Great
open YtiejdpjgplikjaaGreatDoor.Op YtiejdpjgplikjaaGreatDoor.So YtiejdpjgplikjaaGreatDoor.Dp YtiejdpjgplikjaaGreatDoor.Bn
open YtiejdpjgplikjaaGreatDoor.Ls (Nl)
def lastC (D E:Int):Int:=min 31 (2*D / E)*E-1
def stO (F:Mat) (la:Int) (i:Nat) (s:(Nat->Int)×(Nat->Int)):Nat->(Nat->Int)×(Nat->Int)
 | 0=>s
 | j+1=>if F i j=noW then stO F la i s j else (updI (stO F la i s j).1 j (max ((stO F la i s j).1 j) (F i j)),updI (stO F la i s j).2 i (min ((stO F la i s j).2 i) (la-F i j)))
def opO (F:Mat) (la:Int) (N:Nat):Nat->(Nat->Int)×(Nat->Int)
 | 0=>(fun _=>0,fun i=>if i<N then la else 0)
 | i+1=>stO F la i (opO F la N i) N
theorem wnz:(zcs 128).toArray=wnA (fun _=>0) (fun _=>0):=by kernel_rfl
structure Ow (w W:World) (e l:Nat->Int):Prop where
 b:Wn W (w.heap.size+1) e l
 r:∀ j,j<128->(W.cell? ⟨w.heap.size,j,none⟩).isSome=true
 f:∀ j,W.frozen? ⟨w.heap.size,j,none⟩=false
 up:Below w.heap.size w W
theorem ow_new (w:World):Ow w ((w.alloc (.cells (zcs 128).toArray 186)).alloc (.cells (zcs 128).toArray 186)) (fun _=>0) (fun _=>0):=by
 have h1:=(At.new w (zcs 128).toArray 186).alloc (.cells (zcs 128).toArray 186);have h2:=At.new (w.alloc (.cells (zcs 128).toArray 186)) (zcs 128).toArray 186;rw [World.size_alloc] at h2;refine ⟨Wn.of (by rw [<- wnz];exact h2),fun j hj=>?_,h1.f,((Below.refl _ _).alloc (Nat.le_refl _) _).alloc (by simp) _⟩;rw [h1.c j (.int .i64 0) (by rw [List.getElem?_toArray];unfold zcs;rw [List.getElem?_replicate,if_pos hj])];rfl
theorem Ow.set {w W:World} {e l e' l':Nat->Int} (h:Ow w W e l) {j:Nat} {v:Value} (hb:Wn (W.setCell ⟨w.heap.size+1,j,none⟩ v) (w.heap.size+1) e' l'):Ow w (W.setCell ⟨w.heap.size+1,j,none⟩ v) e' l':=by
 have g:So.Fr (So.One (w.heap.size+1)) W (W.setCell ⟨w.heap.size+1,j,none⟩ v):=(So.Fr.refl (So.One (w.heap.size+1)) W).setCell (.inr rfl) _ _;have nx:¬ So.One (w.heap.size+1) w.heap.size:=fun e=>by have e:w.heap.size=w.heap.size+1:=e;omega
 have lt:w.heap.size<W.heap.size:=by have:=h.b.lt;omega
 exact ⟨hb,fun i hi=>by rw [g.cell lt nx];exact h.r i hi,fun i=>by rw [g.frozen lt nx];exact h.f i,h.up.trans (g.below h.up.size fun k hk e=>by have e:k=w.heap.size+1:=e;omega)⟩
theorem Ow.drew {w W:World} {e l:Nat->Int} {n:Nat} (h:Ow w W e l):Ow w (W.drewN n) e l:=⟨h.b.up ⟨rfl,rfl,rfl,Nat.le_refl _,fun _ _=>rfl⟩,h.r,h.f,h.up.trans ⟨rfl,rfl,rfl,Nat.le_refl _,fun _ _=>rfl⟩⟩
def olF (la:Int) (k:Nat):Nat->Int:=fun i=>if i<k then la else 0
theorem olF_next (la:Int) (k:Nat):updI (olF la k) k la=olF la (k+1):=by
 funext i
 unfold updI olF
 by_cases c:i=k
 ·subst c;rw [if_pos rfl,if_pos (by omega)]
 ·rw [if_neg c]
  by_cases d:i<k
  ·rw [if_pos d,if_pos (by omega)]
  ·rw [if_neg d,if_neg (by omega)]
theorem openWindows_any (sb bb N:Nat) (E D:Int) (F:Mat) (ba oa:Option Addr) (bc oc:Nat) (w:World) (h0:w.cell? ⟨sb,0,none⟩=some (.pointer (some ⟨bb,0,none⟩))) (h1:w.cell? ⟨sb,1,none⟩=some (.int .i64 E)) (hB:w.cell? ⟨sb,2,none⟩=some (.slice ba N bc)) (hs:sb<w.heap.size) (o0:w.cell? ⟨bb,0,none⟩=some (.slice oa N oc)) (o4:w.cell? ⟨bb,16,none⟩=some (.int .i64 D)) (hbb:bb<w.heap.size) (hb:Bh w ba N F) (hN:N<=64) (hF:FIn N F) (hE:1<=E) (hE2:E<=65536) (hD:0<=D) (hD2:D<=65536) :
  Calls Tryz.prog 129 #[.pointer (some ⟨sb,0,none⟩)] w fun r w'=>r=.returned (.agg (wnA (opO F (lastC D E) N N).1 (opO F (lastC D E) N N).2))/\Below w.heap.size w w':=by
 have HB:Hid (Bh w ba N F):=hb;have HF:Hid (FIn N F):=hF;have HD:Hid (Ow w ((w.alloc (.cells (zcs 128).toArray 186)).alloc (.cells (zcs 128).toArray 186)) (fun _=>0) (fun _=>0)):=ow_new w;have hN':(N:Int)<=64:=by omega
 have hE0:¬ E=0:=by omega
 have q0:0<=2*D / E:=Int.ediv_nonneg (by omega) (by omega);have q1:2*D / E<=2*D:=Int.ediv_le_self _ (by omega);have q2:Int.tdiv (2*D) E=2*D / E:=Int.tdiv_eq_ediv_of_nonneg (by omega);have q3:(2*D / E)*E<=2*D:=Int.ediv_mul_le _ (by omega);have HLa:Hid (min 31 (2*D / E)*E-1=lastC D E):=rfl;have m0:0<=min 31 (2*D / E)*E:=Int.mul_nonneg (by omega) (by omega);have m1:min 31 (2*D / E)*E<=2*D:=Int.le_trans (Int.mul_le_mul_of_nonneg_right (by omega) (by omega)) q3;clear hF hb q3;generalize hq:2*D / E=q at *;generalize hm:min 31 q*E=m at *;clear hq;go_enter Tryz.func129,Tryz.ntmps129;apply wp_seq_k;intro K0 hK0
 apply wp_region_lit
 refine wpList_allocTo rfl (some 2) rfl (.pointer (some ⟨w.heap.size,0,none⟩)) (.cells (zcs 128).toArray 186) (by kernel_rfl) ?_;refine wpList_nil ?_;refine hK0 _ _ ?_;clear hK0 K0;apply wp_seq_k;intro K0 hK0
 apply wp_region_lit
 refine wpList_allocTo rfl (some 3) rfl (.pointer (some ⟨(w.alloc (.cells (zcs 128).toArray 186)).heap.size,0,none⟩)) (.cells (zcs 128).toArray 186) (by kernel_rfl) ?_;refine wpList_nil ?_;refine hK0 _ _ ?_;clear hK0 K0;simp only [Act.put,List.setIfInBounds_toArray,List.set_cons_zero,List.set_cons_succ,World.size_alloc];generalize (w.alloc (.cells (zcs 128).toArray 186)).alloc (.cells (zcs 128).toArray 186)=W0 at *;have u0:=HD.out.up;have s0:W0.cell? ⟨sb,0,none⟩=some (.pointer (some ⟨bb,0,none⟩)):=by rw [(bcell u0).1 _ _ hs];exact h0
 have s1:W0.cell? ⟨sb,1,none⟩=some (.int .i64 E):=by rw [(bcell u0).1 _ _ hs];exact h1
 have s4:W0.cell? ⟨bb,16,none⟩=some (.int .i64 D):=by rw [(bcell u0).1 _ _ hbb];exact o4
 have sz:W0.cell? ⟨bb,0,none⟩=some (.slice oa N oc):=by rw [(bcell u0).1 _ _ hbb];exact o0
 clear u0;have hw1:IntKind.i64.wrap (2*D)=2*D:=by rw [IntKind.wrap_i64];omega
 have hw2:IntKind.i64.wrap (Int.tdiv (2*D) E)=q:=by rw [q2,IntKind.wrap_i64];omega
 have hw3:IntKind.i64.wrap (min 31 q*E)=m:=by rw [hm,IntKind.wrap_i64];omega
 go_wp2_with fail
 go_quiet (fail)
 rw [HLa.out];have w1:W0.heap.size=W0.heap.size:=rfl;have HO:Hid (Ow w (W0.drewN nq) (fun _=>0) (olF (lastC D E) 0)):=by
  have:olF (lastC D E) 0=fun _=>0:=by funext i;unfold olF;rw [if_neg (by omega)]
  rw [this];exact HD.out.drew
 have sz:(W0.drewN nq).cell? ⟨bb,0,none⟩=some (.slice oa N oc):=sz;have s0:(W0.drewN nq).cell? ⟨sb,0,none⟩=some (.pointer (some ⟨bb,0,none⟩)):=s0;have la0 : -1<=lastC D E:=by rw [<- HLa.out];omega
 have la1:lastC D E<=131072:=by rw [<- HLa.out];omega
 clear HD s1 s4 hw1 hw2 hw3 hm m0 m1 q0 q1 q2 w1 HLa;obtain ⟨la,hla⟩:∃ la,lastC D E=la:=⟨_,rfl⟩;rw [hla] at HO la0 la1 ⊢;have HLb:Hid (lastC D E=la):=hla;clear hla;generalize W0.drewN nq=W1 at *;go_wp2_with fail
 go_loopw [38] (fun v wr=>∃ k:Nat,k<=N/\v=.int .i64 k/\Ow w wr (fun _=>0) (olF la k)) (fun v _=>N-(intOf v).toNat)
 case atStart=>exact ⟨0,by omega,rfl,HO.out⟩
 case round=>
  rename World=>wr;obtain ⟨k,hk,rfl,hq⟩:=hrel;have HQ:Hid (Ow w wr (fun _=>0) (olF la k)):=hq;clear hq HO s0 sz
  by_cases hlt:k<N
  ·have k0:(0:Int)<=(k:Int):=by omega
   have k1:(k:Int)<(N:Int):=by omega
   have k2:(k:Int)<64:=by omega
   have wl:=HQ.out.b.l k (by omega);have fl:=HQ.out.b.f (k*2+1);have lt:=HQ.out.b.lt;have HL:Hid (Wn (wr.setCell ⟨w.heap.size+1,k*2+1,none⟩ (.int .i64 la)) (w.heap.size+1) (fun _=>0) (olF la (k+1))):=by
    have:=HQ.out.b.setL (k:=k) (by omega) la;rwa [olF_next] at this
   generalize olF la k k=lk at wl;go_wp2_with fail
   go_roundw
   case rel=>exact ⟨k+1,by omega,by go_num,HQ.out.set HL.out⟩
   case measure=>simp [intOf];omega
  ·obtain rfl:k=N:=by omega
   have k1:¬ (k:Int)<(k:Int):=by omega
   have u:=HQ.out.up;have s2:wr.cell? ⟨sb,2,none⟩=some (.slice ba k bc):=by rw [(bcell u).1 _ _ hs];exact hB
   have HZ:Hid (Ow w wr (opO F la k 0).1 (opO F la k 0).2):=HQ.out;clear HQ u hlt;go_wp2_with fail
   clear s2
   go_loopw [51] (fun v wr=>∃ i:Nat,i<=k/\v=.int .i64 i/\Ow w wr (opO F la k i).1 (opO F la k i).2) (fun v _=>k-(intOf v).toNat)
   case atStart=>exact ⟨0,by omega,rfl,HZ.out⟩
   case round=>
    rename World=>wi;obtain ⟨i,hi,rfl,hq⟩:=hrel;have HI:Hid (Ow w wi (opO F la k i).1 (opO F la k i).2):=hq;clear hq HZ
    by_cases hlt:i<k
    ·have i0:(0:Int)<=(i:Int):=by omega
     have i1:(i:Int)<(k:Int):=by omega
     have i2:(i:Int)<64:=by omega
     obtain ⟨b,r,rfl,bl,hx⟩:=HB.out.is (by omega);obtain ⟨r1,r2,r3⟩:=hx i hlt;have HR3:Hid (∀ j,j<k->w.cell? ⟨r i,j,none⟩=some (.int .i64 (F i j))):=r3;have c1:wi.cell? ⟨b,i,none⟩=some (.slice (some ⟨r i,0,none⟩) k k):=by rw [(bcell HI.out.up).1 _ _ bl];exact r2
     have HJ:Hid (Ow w wi (stO F la i (opO F la k i) 0).1 (stO F la i (opO F la k i) 0).2):=HI.out;have HN:Hid (opO F la k (i+1)=stO F la i (opO F la k i) k):=rfl;clear hx r2 r3 HI HB;generalize opO F la k i=S at *;go_wp2_with fail
     clear c1
     go_loopw [58] (fun v wr=>∃ j:Nat,j<=k/\v=.int .i64 j/\Ow w wr (stO F la i S j).1 (stO F la i S j).2) (fun v _=>k-(intOf v).toNat)
     case atStart=>exact ⟨0,by omega,rfl,HJ.out⟩
     case round=>
      rename World=>wj;obtain ⟨j,hj,rfl,hq⟩:=hrel;have HI:Hid (Ow w wj (stO F la i S j).1 (stO F la i S j).2):=hq;clear hq HJ
      by_cases hlt2:j<k
      ·have j0:(0:Int)<=(j:Int):=by omega
       have j1:(j:Int)<(k:Int):=by omega
       have j2:(j:Int)<64:=by omega
       have c2:wj.cell? ⟨r i,j,none⟩=some (.int .i64 (F i j)):=by rw [(bcell HI.out.up).1 _ _ r1];exact HR3.out j hlt2
       have b1:=HF.out i j hlt hlt2;have HS:Hid (stO F la i S (j+1)=if F i j=noW then stO F la i S j else (updI (stO F la i S j).1 j (max ((stO F la i S j).1 j) (F i j)),updI (stO F la i S j).2 i (min ((stO F la i S j).2 i) (la-F i j)))):=rfl;have we:=HI.out.b.e j (by omega);have wl:=HI.out.b.l i (by omega);have fe:=HI.out.b.f (j*2);have fl:=HI.out.b.f (i*2+1);have lt:=HI.out.b.lt
       by_cases hx:F i j=noW
       ·have HS1:Hid (stO F la i S (j+1)=stO F la i S j):=by have h:=HS.out;rw [if_pos hx] at h;exact h
        rw [hx] at c2;clear HS we wl fe fl b1 hx;go_wp2_with fail
        go_roundw
        case rel=>exact ⟨j+1,by omega,by go_num,by rw [HS1.out];exact HI.out⟩
        case measure=>simp [intOf];omega
       ·have HS1:Hid (stO F la i S (j+1)=(updI (stO F la i S j).1 j (max ((stO F la i S j).1 j) (F i j)),updI (stO F la i S j).2 i (min ((stO F la i S j).2 i) (la-F i j)))):=by have h:=HS.out;rw [if_neg hx] at h;exact h
        rcases b1 with h|⟨x1,x2⟩
        ·exact absurd h hx
        have hx':(F i j==noW)=false:=by simpa using hx
        clear HS;generalize F i j=x at *;generalize stO F la i S j=T at *;have HE:Hid (Wn (wj.setCell ⟨w.heap.size+1,j*2,none⟩ (.int .i64 (max (T.1 j) x))) (w.heap.size+1) (updI T.1 j (max (T.1 j) x)) T.2):=HI.out.b.setE (by omega) _;have HL:Hid (∀ W e,Wn W (w.heap.size+1) e T.2->Wn (W.setCell ⟨w.heap.size+1,i*2+1,none⟩ (.int .i64 (min (T.2 i) (la-x)))) (w.heap.size+1) e (updI T.2 i (min (T.2 i) (la-x)))):=fun W e hW=>hW.setL (by omega) _;obtain ⟨tj,htj⟩:∃ v,T.1 j=v:=⟨_,rfl⟩;obtain ⟨ti,hti⟩:∃ v,T.2 i=v:=⟨_,rfl⟩;rw [htj] at we HE HS1;rw [hti] at wl HL HS1;clear htj hti hx;have nji:¬ j*2=i*2+1:=by omega
        have nij:¬ i*2+1=j*2:=by omega
        go_wp2_with fail
        go_roundw
        case rel=>exact ⟨j+1,by omega,by go_num,by rw [HS1.out];exact (HI.out.set HE.out).set (HL.out _ _ HE.out)⟩
        case measure=>simp [intOf];omega
      ·obtain rfl:j=k:=by omega
       have j1:¬ (j:Int)<(j:Int):=by omega
       have HJ:Hid (Ow w wj (opO F la j (i+1)).1 (opO F la j (i+1)).2):=by rw [HN.out];exact HI.out
       clear HI;go_wp2_with fail
       go_roundw
       case rel=>exact ⟨i+1,by omega,by go_num,HJ.out⟩
       case measure=>simp [intOf];omega
    ·obtain rfl:i=k:=by omega
     have i1:¬ (i:Int)<(i:Int):=by omega
     go_upto_region 19 with fail
     rename_i K3 hK3;have HA:Hid _:=HI.out.b;have hr:=HI.out.b.range;have hi2:(Tryz.prog.info? 186).map (·.size)=some (wnA (opO F la i i).1 (opO F la i i).2).size:=by rw [wnA_size];kernel_rfl
     have hi3:(Tryz.prog.info? 186).map (·.size)=some (wnA (opO F la i i).1 (opO F la i i).2).toList.length:=by rw [Array.length_toList,wnA_size];kernel_rfl
     have h1:=wnA_one (opO F la i i).1 (opO F la i i).2;have ht:wi.there w.heap.size 0 (wnA (opO F la i i).1 (opO F la i i).2).size:=fun j hj=>by
      rw [wnA_size] at hj;rw [Nat.zero_add];exact ⟨HI.out.r j hj,HI.out.f j⟩
     have HU:Hid (Below w.heap.size w wi):=HI.out.up;clear HI HB HF HA;generalize hA:wnA (opO F la i i).1 (opO F la i i).2=B at *;apply wp_region_lit
     refine wpList_load_mid rfl 186 (.tmp 3) rfl (w.heap.size+1) 0 rfl B.toList _ hr Tryz.underlying186 rfl hi3 ?_;refine wpList_store_mid rfl 186 (.tmp 2) (.tmp 87) rfl w.heap.size 0 B rfl rfl ht hi2 h1 ?_;refine wpList_nil ?_;refine hK3 _ _ ?_;refine wp_ret ?_;have hl:=run_loadVar_mid (P:=Tryz.prog) (wi.setCells w.heap.size 0 B.toList) w.heap.size 0 186 B.toList _ (World.rangeAt_setCells_same wi w.heap.size 0 B.toList (by simpa using ht)) Tryz.underlying186 rfl hi3;rw [Array.toArray_toList] at hl;refine bodyPost_ret (v:=.agg B) (by simp [results,Tryz.results129,asAddr,Act.put,hl]) rfl ⟨by rw [HLb.out,hA],?_⟩;have hF:So.Fr (So.One w.heap.size) wi (wi.setCells w.heap.size 0 B.toList):=fr_setCells (X:=So.One w.heap.size) rfl _ _ (So.Fr.refl _ _);exact HU.out.trans (hF.below HU.out.size fun k hk e=>by have e:k=w.heap.size:=e;omega)
end Go.Proofs.YtiejdpjgplikjaaGreatDoor.Mo
namespace Go.Proofs.YtiejdpjgplikjaaGreatDoor.Mo
open Go.ChangeShapes Go.WideShapes Go.ChangeAt Go.RowKit Go.Great Go.Maps
open YtiejdpjgplikjaaGreatDoor.Op YtiejdpjgplikjaaGreatDoor.So YtiejdpjgplikjaaGreatDoor.Dp YtiejdpjgplikjaaGreatDoor.Bn
open YtiejdpjgplikjaaGreatDoor.Ls (Nl)
open YtiejdpjgplikjaaGreatDoor.Rv (I64 wf64i kl types_pos kl_inj kl_key entry_upd)
open Go.ChangeMaps (setBlock heap_setBlock_same heap_setBlock_other modify_eq_set)
theorem law213:Keyed Tryz.prog 228:=Keyed.of_law (deep_law (m:=2) (by omega) (by kernel_rfl) (by kernel_rfl) (by kernel_rfl))
theorem klaw213:WideMaps.KeyLaw Tryz.prog 228:=deep_law (m:=2) (by omega) (by kernel_rfl) (by kernel_rfl) (by kernel_rfl)
theorem kt213:Tryz.prog.keyType 228=true:=by kernel_rfl
theorem c213:Tryz.prog.cellsOf 228=2:=by kernel_rfl
theorem key213 {a b:Int} (ha:I64 a) (hb:I64 b):keyOf Tryz.prog 228 (.agg #[.int .i64 a,.int .i64 b])=some (kl a b):=by
 obtain ⟨m,hm⟩:=types_pos;have wa:=wf64i ha;have wb:=wf64i hb;unfold keyOf;simp only [Tryz.underlying228];rw [if_pos (by simp [kt213,Value.formed,Tryz.underlying228,c213]),hm];unfold Program.keyLits;simp only [Tryz.underlying228,Value.cells];rw [if_pos (by rw [c213];exact ⟨rfl,by simp⟩)];simp [Rv.c3,Program.keyLits,Tryz.underlying3,wa,wb,kl]
def heldR (v:Value):Option (DataW Value×List MemPlace):=some (.held v,[])
theorem zero26 (w:World):(zeroValue 27).run Tryz.prog w=.ok (.slice none 0 0) w:=by kernel_rfl
structure Hm (w:World) (mb n:Nat) (f:Int->Int->Value):Prop where
 own:∃ D:DataW Value,w.ownsMap Tryz.prog 228 heldR mb n D/\∀ a b,I64 a->I64 b->D.atKey (kl a b) (.held (.slice none 0 0))=.held (f a b)
theorem Hm.lt {w:World} {mb n:Nat} {f:Int->Int->Value} (h:Hm w mb n f):mb<w.heap.size:=by
 obtain ⟨D,h,-⟩:=h.own;exact h.lt
theorem Hm.below {w w':World} {mb n:Nat} {f:Int->Int->Value} (h:Hm w mb n f) (hb:w'.heap[mb]?=w.heap[mb]?):Hm w' mb n f:=by
 obtain ⟨D,⟨es,clock,h1,h2,h3⟩,h4⟩:=h.own;exact ⟨D,⟨es,clock,by rw [hb];exact h1,h2,h3⟩,h4⟩
theorem Hm.made (w:World):Hm (w.alloc (.map #[] 0)) w.heap.size 0 (fun _ _=>.slice none 0 0):=
 ⟨.map [],World.ownsMap_made w Tryz.prog 228 _,fun _ _ _ _=>rfl⟩
theorem Hm.look {w:World} {mb n:Nat} {f:Int->Int->Value} (h:Hm w mb n f) {a b:Int} (ha:I64 a) (hb:I64 b):(Instr.lookup 180 (.map (some mb)) (.agg #[.int .i64 a,.int .i64 b]) false).run Tryz.prog w=.ok (f a b) w:=by
 obtain ⟨D,h1,h2⟩:=h.own;obtain ⟨v,ps,hrun,hv⟩:=h1.lookup law213 Tryz.underlying180 (zero26 w) (zd:=.held (.slice none 0 0)) (zp:=[]) rfl (key213 ha hb);rw [h2 a b ha hb] at hv;unfold heldR at hv
 injection hv with hv
 injection hv with hv _
 injection hv with hv
 rw [<- hv];exact hrun
def setF (f:Int->Int->Value) (a b:Int) (v:Value):Int->Int->Value:=fun c d=>if c=a/\d=b then v else f c d
theorem hm_put {w:World} {mb n:Nat} {f:Int->Int->Value} {D:DataW Value} {D':DataW Value} (hD:∃ w0:World,w0.ownsMap Tryz.prog 228 heldR mb n D) (hat : ∀ a b,I64 a->I64 b->D.atKey (kl a b) (.held (.slice none 0 0))=.held (f a b)) {a b:Int} (ha:I64 a) (hb:I64 b) (v:Value) (e:D'=D.put (kl a b) (.held v)) {m:Nat} (h:w.ownsMap Tryz.prog 228 heldR mb m D'):Hm w mb m (setF f a b v):=by
 subst e;obtain ⟨w0,h0⟩:=hD;refine ⟨_,h,fun c d hc hd=>?_⟩;unfold setF
 by_cases e:c=a/\d=b
 ·obtain ⟨rfl,rfl⟩:=e;rw [if_pos ⟨rfl,rfl⟩,atKey_put_same h0.isMap (kl_key _ _)]
 ·rw [if_neg e,atKey_put_other (fun e2=>e (kl_inj hc hd ha hb e2)),hat c d hc hd]
theorem Hm.update {w:World} {mb n:Nat} {f:Int->Int->Value} (h:Hm w mb n f) (hn:n<maxLen) {a b:Int} (ha:I64 a) (hb:I64 b) (v:Value):∃ w',(Instr.mapUpdate 180 (.map (some mb)) (.agg #[.int .i64 a,.int .i64 b]) v).run Tryz.prog w=.ok () w'/\Fr (One mb) w w'/\Hm w' mb (n+1) (setF f a b v):=by
 obtain ⟨D,hown,hat⟩:=h.own;have hown':=hown;obtain ⟨es,clock,hbk,F,hs,hD⟩:=hown;obtain ⟨w',h3,h4,-⟩:=hown'.update law213 Tryz.underlying180 hn (key213 ha hb) (show heldR v=some (.held v,[]) from rfl);refine ⟨w',h3,?_,hm_put ⟨w,hown'⟩ hat ha hb v rfl h4⟩;obtain ⟨es',clock',hrun,-⟩:=Maps.fit_store (R':=heldR) law213 Tryz.underlying180 hbk F (Nat.lt_of_le_of_lt hs hn) (fun _ _ _ _ hz=>hz) (key213 ha hb) (show heldR v=some (.held v,[]) from rfl);rw [hrun] at h3;have hw':setBlock w mb (.map es' clock')=w':=by injection h3
 subst hw';exact ⟨rfl,rfl,rfl,by simp [setBlock],fun i _ hi=>heap_setBlock_other hbk _ hi⟩
theorem Hm.entry {w:World} {mb n:Nat} {f:Int->Int->Value} (h:Hm w mb n f) (hn:n<maxLen) {a b:Int} (ha:I64 a) (hb:I64 b):∃ (st:Int) (w1:World),(Instr.mapEntry 180 (.map (some mb)) (.agg #[.int .i64 a,.int .i64 b])).run Tryz.prog w=.ok (.tuple #[f a b,.int .i64 st]) w1/\Fr (One mb) w w1/\w1.heap.size=w.heap.size /\
  ∀ (u:World) (v:Value),u.heap[mb]?=w1.heap[mb]?->∃ w2,(Instr.entryStore 180 (.map (some mb)) (.int .i64 st) v).run Tryz.prog u=.ok () w2/\Fr (One mb) u w2/\w2.heap.size=u.heap.size/\Hm w2 mb (n+1) (setF f a b v):=by
 have hlk:=h.look ha hb;obtain ⟨D,hown,hat⟩:=h.own;have hown':=hown;obtain ⟨es,clock,hbk,F,hs,-⟩:=hown;obtain ⟨v0,st,es1,clock1,hrun,-,hst⟩:=WideElems.entry_then_store klaw213 Tryz.underlying180 (z:=.slice none 0 0) zero26 hbk F (key213 ha hb);obtain ⟨v1,st1,w1,g1,g2,g3⟩:=entry_upd klaw213 Tryz.underlying180 (z:=.slice none 0 0) zero26 hbk F (key213 ha hb);have hv1:v1=f a b:=by
  rw [hlk] at g3
  injection g3 with g3 _
  exact g3.symm
 have hv0:v0=f a b:=by
  rw [hrun] at g1
  injection g1 with g1 _
  injection g1 with g1
  have:v0=v1:=by simpa using congrArg (fun x:Array Value=>x[0]!) g1
  rw [this,hv1]
 subst hv0;refine ⟨(st:Int),_,hrun,⟨rfl,rfl,rfl,by simp [setBlock],fun i _ hi=>heap_setBlock_other hbk _ hi⟩,by simp [setBlock],fun u v hu=>?_⟩;rw [heap_setBlock_same hbk] at hu;obtain ⟨es',clock',h1,h2⟩:=hst u v hu;obtain ⟨w',h3,h4,-⟩:=hown'.update law213 Tryz.underlying180 hn (key213 ha hb) (show heldR v=some (.held v,[]) from rfl);rw [h2] at h3;have hw':setBlock w mb (.map es' clock')=w':=by injection h3
 subst hw';refine ⟨_,h1,⟨rfl,rfl,rfl,by simp [setBlock],fun i _ hi=>heap_setBlock_other hu _ hi⟩,by simp [setBlock],?_⟩;have hq:=hm_put ⟨w,hown'⟩ hat ha hb v rfl h4;exact hq.below (by rw [heap_setBlock_same hu,heap_setBlock_same hbk])
theorem placeOf_any (sb:Nat) (cl c E:Int) (w:World) (h1:w.cell? ⟨sb,1,none⟩=some (.int .i64 E)) (hs:sb<w.heap.size) (hc:0<=c) (hE:1<=E) (hE2:E<=65536) :
  Calls Tryz.prog 173 #[.pointer (some ⟨sb,0,none⟩),.int .i64 cl,.int .i64 c] w fun r w'=>r=.returned (.agg #[.int .i64 cl,.int .i64 (c%E)])/\Below w.heap.size w w':=by
 have hm:Int.tmod c E=c%E:=Int.tmod_eq_emod_of_nonneg hc;have m0:=Int.emod_nonneg c (show E≠0 by omega);have m1:=Int.emod_lt_of_pos c (show 0<E by omega);have hE0:¬ E=0:=by omega
 have hw:IntKind.i64.wrap (Int.tmod c E)=c%E:=by rw [hm,IntKind.wrap_i64];omega
 have s1:∀ o,(w.alloc o).cell? ⟨sb,1,none⟩=some (.int .i64 E):=fun o=>by rw [(bcell ((Below.refl w.heap.size w).alloc (Nat.le_refl _) o)).1 _ _ hs];exact h1
 have hne:¬ sb=w.heap.size:=by omega
 generalize c%E=y at *;go_enter Tryz.func173,Tryz.ntmps173;go_wp2_with fail
 refine bodyPost_ret (v:=.agg #[.int .i64 cl,.int .i64 y]) (by simp [results,Tryz.results173,go_sem]) rfl ⟨rfl,by go_grown⟩
end Go.Proofs.YtiejdpjgplikjaaGreatDoor.Mo
