/- Parts Zh Zc. -/
import Derived.Test.YtiejdpjgplikjaaGreatDoorN17
import Derived.Deep.DeepCutAuto
set_option maxRecDepth 20000
set_option maxHeartbeats 8000000
namespace Go.Proofs.YtiejdpjgplikjaaGreatDoor.Bn
open Go.ChangeShapes Go.WideShapes Go.ChangeAt Go.RowKit
open YtiejdpjgplikjaaGreatDoor.Op YtiejdpjgplikjaaGreatDoor.So
open YtiejdpjgplikjaaGreatDoor.Tb (Tab TabAt Bnds inB okC)
theorem tab_in {t:Tab} (h:t.ok=true):(0<=t.d/\t.d<=4)/\∀ k,k<4->(0<=t.u k/\t.u k<=8)/\(1<=t.l k/\t.l k<=8)/\(1<=t.b k/\t.b k<=4):=by
 unfold Tab.ok okC inB at h;simp only [Bool.and_eq_true,decide_eq_true_eq] at h;refine ⟨by omega,fun k hk=>?_⟩
 match k,hk with
 | 0,_=>omega
 | 1,_=>omega
 | 2,_=>omega
 | 3,_=>omega
theorem huB_all {t:Tab} {f:Nat->Int} : ∀ {n k:Nat},huB t f n=true->k<n->0<f k->¬ t.u k=0
 | 0,_,_,h,_=>by omega
 | n+1,k,h,hk,h0=>by
  unfold huB at h;simp only [Bool.and_eq_true,Bool.not_eq_true',Bool.and_eq_false_iff,decide_eq_false_iff_not] at h
  by_cases c:k=n
  ·subst c;exact h.2.elim (fun e=>absurd h0 e) fun e=>e
  ·exact huB_all h.1 (by omega) h0
theorem buI_0 (t:Tab) (f:Nat->Int):∀ k,0<=buI t f k
 | 0=>Int.le_refl _
 | k+1=>by
  have:=buI_0 t f k
  unfold buI
  split <;> omega
theorem tdiv_le {n d:Int} (h0:0<=n) (h1:1<=d) (h2:d<=8):0<=(n+d-1).tdiv d/\(n+d-1).tdiv d<=n+7:=by
 refine ⟨Int.tdiv_nonneg (by omega) (by omega),?_⟩;rw [Int.tdiv_eq_ediv_of_nonneg (by omega)];exact Int.le_trans (Int.ediv_le_self _ (by omega)) (by omega)
theorem buI_le {t:Tab} {f:Nat->Int} (ht:t.ok=true) (hu:huB t f 4=true) (hf:∀ k,0<=f k/\f k<=100):∀ k,k<=4->buI t f k<=407
 | 0,_=>by show (0:Int)<=407;omega
 | k+1,hk=>by
  have ih:=buI_le ht hu hf k (by omega);unfold buI
  split
  ·rename_i h0;have h1:=(tab_in ht).2 k (by omega);have h2:=huB_all hu (show k<4 by omega) h0;have h3:=hf k;have h4:f k*t.b k<=100*4:=Int.mul_le_mul h3.2 h1.2.2.2 (by omega) (by omega);have h5:0<=f k*t.b k:=Int.mul_nonneg (by omega) (by omega);have h6:=tdiv_le h5 (d:=t.u k) (by omega) h1.1.2;omega
  ·exact ih
theorem byUnits_any (ao:Option Addr) (cap:Nat) (xs:List O) (t:Tab) (w:World) (h:OpsAt w ao xs) (hn:xs.length<=64) (ht:t.ok=true) (hu:huB t (cts xs) 4=true) :
  Calls Tryz.prog 24 #[.slice ao xs.length cap,t.val] w fun e w'=>e=.returned (.int .i64 (buI t (cts xs) 4))/\Below w.heap.size w w':=by
 have HC:Hid (∀ W,Below w.heap.size w W->Calls Tryz.prog 57 #[.slice ao xs.length cap] W fun e w'=>e=.returned (agg4 (cts xs))/\Below W.heap.size W w'):=fun W g=>countsOf_any ao cap xs W (h.below g);have hf:∀ k,0<=cts xs k/\cts xs k<=100:=fun k=>by have:=cts_in xs k;omega
 have HI:Hid (∀ k,k<4->0<cts xs k->(0<=cts xs k*t.b k/\cts xs k*t.b k<=400)/\1<=t.u k/\t.u k<=8):=fun k hk h0=>by
  have h1:=(tab_in ht).2 k hk;have h2:=huB_all hu hk h0;have h3:=hf k;have h4:cts xs k*t.b k<=100*4:=Int.mul_le_mul h3.2 h1.2.2.2 (by omega) (by omega);exact ⟨⟨Int.mul_nonneg (by omega) (by omega),by omega⟩,by omega,by omega⟩
 have HB:Hid (∀ k,k<=4->0<=buI t (cts xs) k/\buI t (cts xs) k<=407):=fun k hk=>⟨buI_0 _ _ _,buI_le ht hu hf k hk⟩;clear h hn ht hu hf;generalize cts xs=F at *;unfold Tab.val at *;go_enter Tryz.func24,Tryz.ntmps24;go_wp2_with (first
  | (go_at_call 57;refine Calls.mono (HC.out _ (by go_grown)) ?_;rintro e w1 ⟨rfl,hb⟩;have HT:Hid (Tq w w1 t):=Tq.start w t hb;clear hb HC))
 go_loopw [5,10] (fun u v wr=>∃ k:Nat,k<=4/\u=.int .i64 (buI t F k)/\v=.int .i64 k/\Tq w wr t) (fun _ v _=>4-(intOf v).toNat)
 case atStart=>exact ⟨0,by omega,rfl,rfl,HT.out⟩
 case round=>
  rename World=>wr;obtain ⟨k,hk,rfl,rfl,hs⟩:=hrel;have HQ:Hid (Tq w wr t):=hs;clear hs HT
  by_cases hlt:k<4
  ·have k0:(0:Int)<=(k:Int):=by omega
   have k1:(k:Int)<4:=by omega
   have hidx:∀ w,(Instr.index 23 (agg4 F) (.int .i64 (k:Int))).run Tryz.prog w=.ok (.int .i64 (F k)) w:=fun w=>agg4_at F w hlt;have hbu:=HB.out k hk
   by_cases h1:0<F k
   ·have HNx:Hid (buI t F (k+1)=max (buI t F k) ((F k*t.b k+t.u k-1).tdiv (t.u k))):=if_pos h1;have hin:=HI.out k hlt h1;obtain ⟨⟨p0,p1⟩,u1,u2⟩:=hin;have hd:=tdiv_le p0 u1 u2;have HD:Hid (∀ W,Calls Tryz.prog 58 #[.int .i64 (F k*t.b k),.int .i64 (t.u k)] W fun e w'=>e=.returned (.int .i64 ((F k*t.b k+t.u k-1).tdiv (t.u k)))/\Below W.heap.size W w'):=fun W=>(divideUp_any _ _ W p0 (by omega) u1 u2).mono fun e w' h=>⟨h.1,by rw [h.2];exact Below.refl _ _⟩;have cu:∀ x:Wd (Below wr.heap.size wr),x.w.cell? ⟨w.heap.size,k,none⟩=some (.int .i64 (t.u k)):=fun x=>by rw [(bcell x.ok).1 _ _ HQ.out.t.lt];exact HQ.out.t.cu k hlt
    have cb:∀ x:Wd (Below wr.heap.size wr),x.w.cell? ⟨w.heap.size,8+k,none⟩=some (.int .i64 (t.b k)):=fun x=>by rw [(bcell x.ok).1 _ _ HQ.out.t.lt];exact HQ.out.t.cb k hlt
    haveI inst:Nonempty (Wd (Below wr.heap.size wr)):=⟨⟨wr,Below.refl _ _⟩⟩
    generalize (F k*t.b k+t.u k-1).tdiv (t.u k)=dv at *;generalize buI t F k=bu at *;go_upto_region 6 with fail
    refine wp_region_in (Below wr.heap.size wr) (by kernel_rfl) (by kernel_rfl) ((Below.refl _ _).drew) ?_
    repeat (first|go_big_quiet_step ((go_at_call 58;exact calls_in (Nat.le_refl _) _ (HD.out _))))
    refine wpQuiet_nil ?_;rintro _ ⟨x,rfl⟩;have HQ2:Hid (Tq w x.w t):=HQ.out.next x.ok;go_wp2_with fail
    go_roundw
    case rel=>exact ⟨k+1,by omega,by rw [HNx.out];congr 1;split <;> omega,by go_num,HQ2.out⟩
    case measure=>simp [intOf];omega
   ·have HNx:Hid (buI t F (k+1)=buI t F k):=if_neg h1;generalize F k=fv at *;go_wp2_with fail
    go_roundw
    case rel=>exact ⟨k+1,by omega,by rw [HNx.out],by go_num,HQ.out⟩
    case measure=>simp [intOf];omega
  ·obtain rfl:k=4:=by omega
   have k1:¬ ((4:Nat):Int)<4:=by omega
   go_wp2_with fail
   go_ret
   exact ⟨rfl,HQ.out.up⟩
end Go.Proofs.YtiejdpjgplikjaaGreatDoor.Bn
namespace Go.Proofs.YtiejdpjgplikjaaGreatDoor.Bn
open Go.ChangeShapes Go.WideShapes Go.ChangeAt Go.RowKit
open YtiejdpjgplikjaaGreatDoor.Op YtiejdpjgplikjaaGreatDoor.So
open YtiejdpjgplikjaaGreatDoor.Dp (Ed)
theorem row_any (b i n:Nat) (hi:(i:Int)<64) (hn:(n:Int)<=64) (w:World) :
  Calls Tryz.prog 144 #[.pointer (some ⟨b,0,none⟩),.int .i64 i,.int .i64 n] w fun e w'=>e=.returned (.slice (some ⟨b,i*64,none⟩) n n)/\w'=w:=by
 have i0:(0:Int)<=(i:Int):=by omega
 have n0:(0:Int)<=(n:Int):=by omega
 go_enter Tryz.func144,Tryz.ntmps144;go_wp2
 go_ret
 exact ⟨rfl,rfl⟩
structure Ws (W:World) (b n:Nat) (F:Mat):Prop where
 c:∀ i j,i<n->j<n->W.cell? ⟨b,i*64+j,none⟩=some (.int .i64 (F i j))
 f:∀ k,W.frozen? ⟨b,k,none⟩=false
 lt:b<W.heap.size
theorem Ws.fr {X:Nat->Prop} {W W':World} {b n:Nat} {F:Mat} (a:Ws W b n F) (g:So.Fr X W W') (hx:¬ X b):Ws W' b n F:=
 ⟨fun i j hi hj=>(g.cell a.lt hx _).trans (a.c i j hi hj),fun k=>(g.frozen a.lt hx k).trans (a.f k),Nat.lt_of_lt_of_le a.lt g.size⟩
theorem Ws.up {W W':World} {b n:Nat} {F:Mat} (a:Ws W b n F) (g:Below W.heap.size W W'):Ws W' b n F:=a.fr (So.Fr.of (X:=So.Non) g) fun h=>h
theorem Ws.same {W:World} {b n:Nat} {F G:Mat} (a:Ws W b n F) (e:∀ i j,i<n->j<n->F i j=G i j):Ws W b n G:=⟨fun i j hi hj=>by rw [<- e i j hi hj];exact a.c i j hi hj,a.f,a.lt⟩
theorem Ws.set {W:World} {b n:Nat} {F:Mat} (a:Ws W b n F) (hn:n<=64) {i j:Nat} (hi:i<n) (hj:j<n) (v:Int):Ws (W.setCell ⟨b,i*64+j,none⟩ (.int .i64 v)) b n (upd2 F i j v):=by
 refine ⟨fun x y hx hy=>?_,fun k=>by rw [World.frozen?_setCell];exact a.f k,by simpa using a.lt⟩
 by_cases e:x=i/\y=j
 ·obtain ⟨rfl,rfl⟩:=e;rw [upd2_same,World.cell?_setCell_same _ _ _ (a.c x y hx hy)]
 ·rw [upd2_other _ _ e,World.cell?_setCell_other]
  ·exact a.c x y hx hy
  ·intro h';injection h' with _ h2;exact e (by omega)
def Es (w:World) (a:Option Addr) (es:List Ed):Prop:=(∀ x,a=some x->x.block<w.heap.size)/\∀ (k:Nat) (hk:k<es.length),∃ b,a=some ⟨b,0,none⟩/\b<w.heap.size/\w.cell? ⟨b,k*5,none⟩=some (.int .i64 es[k].f)/\w.cell? ⟨b,k*5+1,none⟩=some (.int .i64 es[k].t)/\w.cell? ⟨b,k*5+2,none⟩=some (.int .i64 es[k].l)/\w.cell? ⟨b,k*5+3,none⟩=some (.int .i64 es[k].d)/\w.cell? ⟨b,k*5+4,none⟩=some (.int .i8 es[k].y)
theorem Es.fr {X:Nat->Prop} {w w':World} {a:Option Addr} {es:List Ed} (h:Es w a es) (g:So.Fr X w w') (hx:∀ x,a=some x->¬ X x.block):Es w' a es:=⟨fun x hx=>Nat.lt_of_lt_of_le (h.1 x hx) g.size,fun k hk=>by
 obtain ⟨b,e,h1,h2,h3,h4,h5,h6⟩:=h.2 k hk;have nx:¬ X b:=hx _ e;exact ⟨b,e,Nat.lt_of_lt_of_le h1 g.size,(g.cell h1 nx _).trans h2,(g.cell h1 nx _).trans h3,(g.cell h1 nx _).trans h4,(g.cell h1 nx _).trans h5,(g.cell h1 nx _).trans h6⟩⟩
theorem Es.up {w w':World} {a:Option Addr} {es:List Ed} (h:Es w a es) (g:Below w.heap.size w w'):Es w' a es:=h.fr (So.Fr.of (X:=So.Non) g) fun _ _ h=>h
def fl (n i j:Nat):Mat:=fun a b=>if a<i/\b<n\/a=i/\b<j then (-9223372036854775808) else 0
theorem fl_0 (n:Nat):fl n 0 0=fun _ _=>0:=by
 funext a b;unfold fl;rw [if_neg (by omega)]
theorem fl_set (n i j:Nat) (hj:j<n):upd2 (fl n i j) i j (-9223372036854775808)=fl n i (j+1):=by
 funext a b
 unfold upd2 fl
 by_cases e:a=i/\b=j
 ·rw [if_pos e,if_pos (by omega)]
 ·rw [if_neg e]
  by_cases c:a<i/\b<n\/a=i/\b<j
  ·rw [if_pos c,if_pos (by omega)]
  ·rw [if_neg c,if_neg (by omega)]
theorem fl_next (n i:Nat):fl n i n=fl n (i+1) 0:=by
 funext a b
 unfold fl
 by_cases c:a<i/\b<n\/a=i/\b<n
 ·rw [if_pos c,if_pos (by omega)]
 ·rw [if_neg c,if_neg (by omega)]
theorem fl_n {n a b:Nat} (ha:a<n) (hb:b<n):fl n n 0 a b=(-9223372036854775808):=by
 unfold fl;rw [if_pos (by omega)]
def sTo (n:Nat) (q:Int) (es:List Ed) (k:Nat):Mat:=(es.take k).foldl (stE q) (fl n n 0)
theorem sTo_next (n:Nat) (q:Int) {es:List Ed} {k:Nat} (h:k<es.length):sTo n q es (k+1)=stE q (sTo n q es k) es[k]:=by
 unfold sTo;rw [List.take_add_one,List.getElem?_eq_getElem h,List.foldl_append];rfl
theorem foldl_st_same (n:Nat) (q:Int):∀ (es:List Ed) (F G:Mat),EL n es->(∀ i j,i<n->j<n->F i j=G i j)->∀ i j,i<n->j<n->es.foldl (stE q) F i j=es.foldl (stE q) G i j
 | [],_,_,_,h=>h
 | e::es,F,G,he,h=>by
  refine foldl_st_same n q es _ _ (fun x hx=>he x (List.mem_cons_of_mem _ hx)) fun i j hi hj=>?_;have e1:=he e (List.mem_cons_self ..);have f0:=e1.f0;have fn:=e1.fn;have t0:=e1.t0;have tn:=e1.tn;unfold stE;rw [h e.f.toNat e.t.toNat (by omega) (by omega)];unfold upd2;rw [h i j hi hj]
theorem sTo_all {n:Nat} {q:Int} {es:List Ed} (he:EL n es):∀ i j,i<n->j<n->sTo n q es es.length i j=stp q es i j:=by
 unfold sTo stp;rw [List.take_length];exact foldl_st_same n q es _ _ he fun i j hi hj=>fl_n hi hj
theorem sTo_sm {n:Nat} {es:List Ed} (he:EL n es) {q:Int} (h0:0<=q) (h1:q<=512) (k:Nat):Sm 512 (sTo n q es k):=
 foldl_keep _ _ (fun i j=>by
  unfold fl;split;· exact .inl rfl
  ·right;omega) fun F e hm h=>by
  have:=wt_in (he e (List.mem_of_mem_take hm)) h0 h1
  exact h.st (by omega) (by omega)
structure Wz (w W:World) (b n:Nat) (F:Mat) (a:Option Addr) (es:List Ed):Prop where
 m:Ws W b n F
 e:Es W a es
 fr:So.Fr (So.One b) w W
theorem Wz.up {w W W':World} {b n:Nat} {F:Mat} {a:Option Addr} {es:List Ed} (h:Wz w W b n F a es) (g:Below W.heap.size W W'):Wz w W' b n F a es:=⟨h.m.up g,h.e.up g,h.fr.then g⟩
theorem Wz.set {w W:World} {b n:Nat} {F:Mat} {a:Option Addr} {es:List Ed} (h:Wz w W b n F a es) (hne:∀ x,a=some x->¬ x.block=b) (hn:n<=64) {i j:Nat} (hi:i<n) (hj:j<n) (v:Int):Wz w (W.setCell ⟨b,i*64+j,none⟩ (.int .i64 v)) b n (upd2 F i j v) a es:=
 ⟨h.m.set hn hi hj v,h.e.fr ((So.Fr.refl (So.One b) W).setCell (.inr rfl) _ _) hne,h.fr.setCell (.inr rfl) _ _⟩
theorem steps_any (b n:Nat) (hn:n<=64) (a:Option Addr) (c N:Nat) (es:List Ed) (hN:es.length=N) (q:Int) (w:World) (hw:Ws w b n (fun _ _=>0)) (he:Es w a es) (hne:∀ x,a=some x->¬ x.block=b) (hE:EL n es) (hq0:0<=q) (hq1:q<=512) (hl:N<=100000000) :
  Calls Tryz.prog 105 #[.pointer (some ⟨b,0,none⟩),.int .i64 n,.slice a N c,.int .i64 q] w fun e w'=>e=.returned (.tuple #[])/\Wz w w' b n (stp q es) a es:=by
 have HR:Hid (∀ (i:Nat) W,i<n->Calls Tryz.prog 144 #[.pointer (some ⟨b,0,none⟩),.int .i64 i,.int .i64 n] W fun e w'=>e=.returned (.slice (some ⟨b,i*64,none⟩) n n)/\w'=W):=fun i W hi=>row_any b i n (by omega) (by omega) W;have HS:Hid (Wz w w b n (fl n 0 0) a es):=⟨by rw [fl_0];exact hw,he,So.Fr.refl _ _⟩;have HE:Hid (EL n es/\es.length=N/\n<=64/\∀ x,a=some x->¬ x.block=b):=⟨hE,hN,hn,hne⟩;have HM:Hid (∀ k,Sm 512 (sTo n q es k)):=sTo_sm hE hq0 hq1;have hn':(n:Int)<=64:=by omega
 have hl':(N:Int)<=100000000:=by omega
 clear hw he hne hE hN hn hl;go_enter Tryz.func105,Tryz.ntmps105;go_wp2_with fail
 go_loopw [15] (fun v wr=>∃ k:Nat,k<=n/\v=.int .i64 k/\Wz w wr b n (fl n k 0) a es) (fun v _=>n-(intOf v).toNat)
 case atStart=>exact ⟨0,by omega,rfl,HS.out⟩
 case round=>
  rename World=>wr;obtain ⟨k,hk,rfl,hs⟩:=hrel;have HQ:Hid (Wz w wr b n (fl n k 0) a es):=hs;clear hs HS
  by_cases hlt:k<n
  ·have k0:(0:Int)<=(k:Int):=by omega
   have k1:(k:Int)<(n:Int):=by omega
   go_wp2_with (first
    | (go_at_call 144;refine Calls.mono (HR.out k _ hlt) ?_;rintro e w1 ⟨rfl,rfl⟩))
   go_loopw [24] (fun v wr=>∃ j:Nat,j<=n/\v=.int .i64 j/\Wz w wr b n (fl n k j) a es) (fun v _=>n-(intOf v).toNat)
   case atStart=>exact ⟨0,by omega,rfl,HQ.out⟩
   case round=>
    rename World=>wz;obtain ⟨j,hj,rfl,hs⟩:=hrel;have HZ:Hid (Wz w wz b n (fl n k j) a es):=hs;clear hs HQ
    by_cases hjt:j<n
    ·have j0:(0:Int)<=(j:Int):=by omega
     have j1:(j:Int)<(n:Int):=by omega
     have c1:=HZ.out.m.c k j hlt hjt;have f1:=HZ.out.m.f (k*64+j);have l1:=HZ.out.m.lt;go_wp2_with fail
     go_roundw
     case rel=>exact ⟨j+1,by omega,by go_num,by rw [<- fl_set n k j hjt];exact HZ.out.set HE.out.2.2.2 HE.out.2.2.1 hlt hjt _⟩
     case measure=>simp [intOf];omega
    ·obtain rfl:j=n:=by omega
     have j1:¬ (j:Int)<(j:Int):=by omega
     go_wp2_with fail
     go_roundw
     case rel=>exact ⟨k+1,by omega,by go_num,by rw [<- fl_next];exact HZ.out⟩
     case measure=>simp [intOf];omega
  ·obtain rfl:k=n:=by omega
   have k1:¬ (k:Int)<(k:Int):=by omega
   have HQ0:Hid (Wz w wr b k (sTo k q es 0) a es):=HQ.out;clear HQ;go_wp2_with fail
   go_loopw [34] (fun v wr=>∃ j:Nat,j<=N/\v=.int .i64 j/\Wz w wr b k (sTo k q es j) a es) (fun v _=>N-(intOf v).toNat)
   case atStart=>exact ⟨0,by omega,rfl,HQ0.out⟩
   case round=>
    rename World=>wz;obtain ⟨j,hj,rfl,hs⟩:=hrel;have HZ:Hid (Wz w wz b k (sTo k q es j) a es):=hs;clear hs HQ0
    by_cases hjt:j<N
    ·have j0:(0:Int)<=(j:Int):=by omega
     have j1:(j:Int)<(N:Int):=by omega
     have hje:j<es.length:=by rw [HE.out.2.1];exact hjt
     have hm:=List.getElem_mem hje;have e1:=HE.out.1 _ hm;obtain ⟨eb,rfl,l1,f0,f1,f2,f3,f4⟩:=HZ.out.e.2 j hje;have HNx:Hid (sTo k q es (j+1)=stE q (sTo k q es j) es[j]):=sTo_next k q hje;have HX2:Hid (Wz w (wz.alloc (.cells #[.int .i64 es[j].f,.int .i64 es[j].t,.int .i64 es[j].l,.int .i64 es[j].d,.int .i8 es[j].y] 47)) b k (sTo k q es j) (some ⟨eb,0,none⟩) es/\At (wz.alloc (.cells #[.int .i64 es[j].f,.int .i64 es[j].t,.int .i64 es[j].l,.int .i64 es[j].d,.int .i8 es[j].y] 47)) wz.heap.size #[.int .i64 es[j].f,.int .i64 es[j].t,.int .i64 es[j].l,.int .i64 es[j].d,.int .i8 es[j].y]/\b<wz.heap.size):=⟨HZ.out.up ((Below.refl _ _).alloc (Nat.le_refl _) _),At.new _ _ _,HZ.out.m.lt⟩;have g0:=e1.f0;have g1:=e1.fn;have g2:=e1.t0;have g3:=e1.tn;have g4:=e1.l0;have g5:=e1.l8;have g6:es[j].d=0\/es[j].d=1:=by
      rcases e1.d with h|h;· exact .inl h.1
      ·exact .inr h
     clear hm e1;generalize es[j]=x at *;obtain ⟨xf,xt,xl,xd,xy⟩:=x;dsimp only at g0 g1 g2 g3 g4 g5 g6 f0 f1 f2 f3 f4;obtain ⟨fi,rfl⟩:∃ fi:Nat,xf=fi:=⟨xf.toNat,by omega⟩;obtain ⟨ti,rfl⟩:∃ ti:Nat,xt=ti:=⟨xt.toNat,by omega⟩;have HNx:Hid (sTo k q es (j+1)=upd2 (sTo k q es j) fi ti (max (sTo k q es j fi ti) (xl-q*xd))):=HNx.out;have hsm:=HM.out j fi ti;generalize sTo k q es j=G at *;rcases g6 with rfl|rfl
     ·have HNx:Hid (sTo k q es (j+1)=upd2 G fi ti (max (G fi ti) (xl))):=by show _=_;have h:=HNx.out;simpa using h
      go_upto_region 13 with fail
      have HX:Hid (Wz w (wz.alloc (.cells #[.int .i64 (fi:Int),.int .i64 (ti:Int),.int .i64 xl,.int .i64 0,.int .i8 xy] 47)) b k G (some ⟨eb,0,none⟩) es/\At (wz.alloc (.cells #[.int .i64 (fi:Int),.int .i64 (ti:Int),.int .i64 xl,.int .i64 0,.int .i8 xy] 47)) wz.heap.size #[.int .i64 (fi:Int),.int .i64 (ti:Int),.int .i64 xl,.int .i64 0,.int .i8 xy]/\b<wz.heap.size):=HX2.out;clear HX2;generalize (wz.alloc (.cells #[.int .i64 (fi:Int),.int .i64 (ti:Int),.int .i64 xl,.int .i64 0,.int .i8 xy] 47))=X at *;have obn:¬ wz.heap.size=b:=by have:=HX.out.2.2;omega
      have obn':¬ b=wz.heap.size:=fun e=>obn e.symm;generalize wz.heap.size=ob at *;clear HZ f0 f1 f2 f3 f4 l1;have s2:=HX.out.2.1;have o0:=s2.c 0 _ rfl;have o1:=s2.c 1 _ rfl;have o2:=s2.c 2 _ rfl;have o3:=s2.c 3 _ rfl;have ol:=s2.lt;have cc:=HX.out.1.m.c fi ti (by omega) (by omega);have cf:=HX.out.1.m.f (fi*64+ti);have hl:=HX.out.1.m.lt;clear s2;have HSet:Hid (∀ v,Wz w (X.setCell ⟨b,fi*64+ti,none⟩ (.int .i64 v)).drew b k (upd2 G fi ti v) (some ⟨eb,0,none⟩) es):=fun v=>(HX.out.1.set HE.out.2.2.2 HE.out.2.2.1 (by omega) (by omega) v).up ((Below.refl _ _).drew);go_upto_region 14 with (first
       | (go_at_call 144;refine Calls.mono (HR.out fi _ (by omega)) ?_;rintro e w1 ⟨rfl,rfl⟩))
      by_cases hmx:G fi ti<xl
      ·have HV:Hid (max (G fi ti) (xl)=xl):=by show max (G fi ti) (xl)=xl;omega
       generalize hgf:G fi ti=gf at *
       go_region
       all_goals
        go_wp2_with fail
        go_roundw
        case rel=>exact ⟨j+1,by omega,by first|rfl|go_num,by rw [HNx.out,HV.out];exact HSet.out _⟩
        case measure=>first|(simp [intOf];done)|(simp [intOf];omega)
      ·have HV:Hid (max (G fi ti) (xl)=G fi ti):=by show max (G fi ti) (xl)=G fi ti;omega
       generalize hgf:G fi ti=gf at *
       go_region
       all_goals
        go_wp2_with fail
        go_roundw
        case rel=>exact ⟨j+1,by omega,by first|rfl|go_num,by rw [HNx.out,HV.out];exact HSet.out _⟩
        case measure=>first|(simp [intOf];done)|(simp [intOf];omega)
     ·have HNx:Hid (sTo k q es (j+1)=upd2 G fi ti (max (G fi ti) (xl-q))):=by show _=_;have h:=HNx.out;simpa using h
      go_upto_region 13 with fail
      have HX:Hid (Wz w (wz.alloc (.cells #[.int .i64 (fi:Int),.int .i64 (ti:Int),.int .i64 xl,.int .i64 1,.int .i8 xy] 47)) b k G (some ⟨eb,0,none⟩) es/\At (wz.alloc (.cells #[.int .i64 (fi:Int),.int .i64 (ti:Int),.int .i64 xl,.int .i64 1,.int .i8 xy] 47)) wz.heap.size #[.int .i64 (fi:Int),.int .i64 (ti:Int),.int .i64 xl,.int .i64 1,.int .i8 xy]/\b<wz.heap.size):=HX2.out;clear HX2;generalize (wz.alloc (.cells #[.int .i64 (fi:Int),.int .i64 (ti:Int),.int .i64 xl,.int .i64 1,.int .i8 xy] 47))=X at *;have obn:¬ wz.heap.size=b:=by have:=HX.out.2.2;omega
      have obn':¬ b=wz.heap.size:=fun e=>obn e.symm;generalize wz.heap.size=ob at *;clear HZ f0 f1 f2 f3 f4 l1;have s2:=HX.out.2.1;have o0:=s2.c 0 _ rfl;have o1:=s2.c 1 _ rfl;have o2:=s2.c 2 _ rfl;have o3:=s2.c 3 _ rfl;have ol:=s2.lt;have cc:=HX.out.1.m.c fi ti (by omega) (by omega);have cf:=HX.out.1.m.f (fi*64+ti);have hl:=HX.out.1.m.lt;clear s2;have HSet:Hid (∀ v,Wz w (X.setCell ⟨b,fi*64+ti,none⟩ (.int .i64 v)).drew b k (upd2 G fi ti v) (some ⟨eb,0,none⟩) es):=fun v=>(HX.out.1.set HE.out.2.2.2 HE.out.2.2.1 (by omega) (by omega) v).up ((Below.refl _ _).drew);go_upto_region 14 with (first
       | (go_at_call 144;refine Calls.mono (HR.out fi _ (by omega)) ?_;rintro e w1 ⟨rfl,rfl⟩))
      by_cases hmx:G fi ti<xl-q
      ·have HV:Hid (max (G fi ti) (xl-q)=xl-q):=by show max (G fi ti) (xl-q)=xl-q;omega
       generalize hgf:G fi ti=gf at *
       go_region
       all_goals
        go_wp2_with fail
        go_roundw
        case rel=>exact ⟨j+1,by omega,by first|rfl|go_num,by rw [HNx.out,HV.out];exact HSet.out _⟩
        case measure=>first|(simp [intOf];done)|(simp [intOf];omega)
      ·have HV:Hid (max (G fi ti) (xl-q)=G fi ti):=by show max (G fi ti) (xl-q)=G fi ti;omega
       generalize hgf:G fi ti=gf at *
       go_region
       all_goals
        go_wp2_with fail
        go_roundw
        case rel=>exact ⟨j+1,by omega,by first|rfl|go_num,by rw [HNx.out,HV.out];exact HSet.out _⟩
        case measure=>first|(simp [intOf];done)|(simp [intOf];omega)
    ·obtain rfl:j=N:=by omega
     have j1:¬ (j:Int)<(j:Int):=by omega
     have HAll:=sTo_all (q:=q) HE.out.1;have hNe:=HE.out.2.1;rw [hNe] at HAll;have HAl:Hid (∀ x y,x<k->y<k->sTo k q es j x y=stp q es x y):=HAll;clear HAll hNe;go_wp2_with fail
     go_end0
     exact ⟨rfl,⟨HZ.out.m.same HAl.out,HZ.out.e,HZ.out.fr⟩⟩
end Go.Proofs.YtiejdpjgplikjaaGreatDoor.Bn
