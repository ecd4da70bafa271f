/- Parts Gl. -/
import Derived.Test.YtpdaknbmcpmhjaaGreatDoorN35
import Derived.Test.YtpdaknbmcpmhjaaGreatDoorN30
import Derived.Test.YtpdaknbmcpmhjaaGreatDoorN21
set_option maxRecDepth 20000
set_option maxHeartbeats 8000000
namespace Go.Proofs.YtpdaknbmcpmhjaaGreatDoor.Ly
open Go.ChangeShapes Go.WideShapes Go.ChangeAt Go.RowKit
open YtpdaknbmcpmhjaaGreatDoor.Op YtpdaknbmcpmhjaaGreatDoor.So
open YtpdaknbmcpmhjaaGreatDoor.Tb (Tab TabAt Bnds tabAt_new)
open YtpdaknbmcpmhjaaGreatDoor.Lw (Pr Sl Srt pcells rowC Nu rowsOf_any)
open YtpdaknbmcpmhjaaGreatDoor.Bu (Bn BsAt)
def endO (x:Bk):O:=if x.fin=1 then ⟨19,0,x.a,0,x.thn⟩ else if x.fin=2 then ⟨20,0,x.a,0,0⟩ else ⟨18,0,0,0,x.thn⟩
theorem jump_any (v:Int) (w:World):Calls Tryz.prog 44 #[.int .i64 v] w fun e w'=>e=.returned (.agg #[.int .i8 18,.int .u8 0,.int .u8 0,.int .u8 0,.int .i64 v])/\Below w.heap.size w w':=by
 go_enter Tryz.func44,Tryz.ntmps44;go_wp2
 exact bodyPost_ret (v:=.agg #[.int .i8 18,.int .u8 0,.int .u8 0,.int .u8 0,.int .i64 v]) (by simp [results,Tryz.results44,go_sem]) rfl ⟨rfl,by go_grown⟩
theorem endO_ok {x:Bk} (h:x.Ok):(endO x).Ok:=by
 have:=h.a0;have:=h.a1;have:=h.t0;have:=h.t1
 unfold endO
 split
 ·constructor <;> dsimp only <;> omega
 ·split
  ·constructor <;> dsimp only <;> omega
  ·constructor <;> dsimp only <;> omega
theorem endOf_any (x:Bk) (p:Pl) (w:World):Calls Tryz.prog 42 #[x.val p] w fun e w'=>e=.returned (endO x).val/\Below w.heap.size w w':=by
 have HJ:Hid (∀ W,Calls Tryz.prog 44 #[.int .i64 x.thn] W fun e w'=>e=.returned (.agg #[.int .i8 18,.int .u8 0,.int .u8 0,.int .u8 0,.int .i64 x.thn])/\Below W.heap.size W w'):=fun W=>jump_any _ W
 by_cases h1:x.fin=1
 ·have e:endO x=⟨19,0,x.a,0,x.thn⟩:=by unfold endO;rw [if_pos h1]
  rw [e];clear e;go_enter Tryz.func42,Tryz.ntmps42;go_wp2
  exact bodyPost_ret (v:=(⟨19,0,x.a,0,x.thn⟩:O).val) (by simp [results,Tryz.results42,go_sem]) rfl ⟨rfl,by go_grown⟩
 ·by_cases h2:x.fin=2
  ·have e:endO x=⟨20,0,x.a,0,0⟩:=by unfold endO;rw [if_neg h1,if_pos h2]
   rw [e];clear e;go_enter Tryz.func42,Tryz.ntmps42;go_wp2
   exact bodyPost_ret (v:=(⟨20,0,x.a,0,0⟩:O).val) (by simp [results,Tryz.results42,go_sem]) rfl ⟨rfl,by go_grown⟩
  ·have e:endO x=⟨18,0,0,0,x.thn⟩:=by unfold endO;rw [if_neg h1,if_neg h2]
   rw [e];clear e;go_enter Tryz.func42,Tryz.ntmps42;go_wp2_with (first|(go_at_call 44;refine Calls.mono (HJ.out _) ?_;rintro e w2 ⟨rfl,hb⟩;obtain ⟨a1,a2,a3,-,-⟩:=two_new w _ _ _ _ hb;have q0:=a2.c 0 _ rfl;have q1:=a2.c 1 _ rfl;have q2:=a2.c 2 _ rfl;have q3:=a2.c 3 _ rfl;have q4:=a2.c 4 _ rfl;have qf:=a2.f;have ql:=a2.lt;have HB:Hid _:=a3;clear hb a1 a2 a3))
   exact bodyPost_ret (v:=(⟨18,0,0,0,x.thn⟩:O).val) (by simp [results,Tryz.results42,go_sem,q0,q1,q2,q3,q4]) rfl ⟨rfl,((((HB.out.setCell (p:=⟨w.heap.size+1,0,none⟩) (by simp) _).setCell (p:=⟨w.heap.size+1,1,none⟩) (by simp) _).setCell (p:=⟨w.heap.size+1,2,none⟩) (by simp) _).setCell (p:=⟨w.heap.size+1,3,none⟩) (by simp) _).setCell (p:=⟨w.heap.size+1,4,none⟩) (by simp) _⟩
theorem refusal_ok (ao:Option Addr) (cap:Nat) (ps:List Bk) (t:Tab) (blk:Nat) (w:World) (h:PAt w ao ps) (he:Env w) (hnd:ndE ps t=0) (hb:blk<ps.length) (hf:ps[blk].fin≠3) :
  Calls Tryz.prog 35 #[.agg #[.slice ao ps.length cap],.int .i64 (blk:Int),t.val] w fun e w'=>e=.returned (.int .i64 0)/\Below w.heap.size w w':=by
 have HN:Hid (∀ W,Below w.heap.size w W->Calls Tryz.prog 26 #[.agg #[.slice ao ps.length cap],t.val] W fun e w'=>e=.returned (.int .i64 0)/\Below W.heap.size W w'):=fun W hb=>by have:=needs_any ao cap ps t W (h.below hb) (he.up hb);rw [hnd] at this;exact this
 have HP:Hid (∀ W,Below w.heap.size w W->PAt W ao ps):=fun W hb=>h.below hb;have b0:(0:Int)<=(blk:Int):=by omega
 have b1:(blk:Int)<(ps.length:Int):=by omega
 clear h he hnd;unfold Tab.val at *;go_enter Tryz.func35,Tryz.ntmps35;go_wp2_with (first|(go_at_call 26;refine Calls.mono (HN.out _ (by go_grown)) ?_;rintro e w1 ⟨rfl,hb1⟩;obtain ⟨a1,a2,a3,-,-⟩:=two_new w _ _ _ _ hb1;have q0:=a1.c 0 _ rfl;have ql:=a1.lt;obtain ⟨pb,pf,rfl,pl,px⟩:=(HP.out _ a3).is (by omega);obtain ⟨p,hba,-⟩:=px blk hb;have c1:=hba.c1;have HB:Hid _:=a3;clear hb1 a1 a2 a3 px hba))
 go_ret
 exact ⟨rfl,HB.out⟩
theorem RdO.of {own:Nat->Nat} {W:World} {B rb N:Nat} {f:Nat->Value} {row:Nat->List Pr} (h:Lw.Rs W B rb N f row) (ho:∀ k,rb<=k->own k=0):RdO own W (some ⟨rb,0,none⟩) N row:=fun _=>
 ⟨rb,0,rfl,Nat.lt_of_lt_of_le h.lt h.sz,ho rb (Nat.le_refl _),fun c hc=>⟨f c,by rw [Nat.zero_add];exact h.c c hc,SlO.of (h.o c hc) fun k hk=>ho k (by have:=h.lt;omega)⟩⟩
def AOk (s:St):Prop:=∀ c,∀ o∈s.1 c,o.Ok
theorem zo_ok:zo.Ok:=by constructor <;> decide
theorem getD_ok {xs:List O} (h:∀ o∈xs,o.Ok) (i:Nat):(xs.getD i zo).Ok:=by
 rw [List.getD_eq_getElem?_getD]
 cases e:xs[i]? with
 | none=>exact zo_ok
 | some o=>exact h o (List.mem_of_getElem? e)
theorem AOk.put {s:St} {c:Nat} {o:O} {ts:Nat->List Tg} (h:AOk s) (ho:o.Ok):AOk (adB s.1 c o,ts):=by
 intro d x hx;dsimp only [adB] at hx
 split at hx
 ·rcases List.mem_append.1 hx with hx|hx
  ·exact h _ x hx
  ·rw [List.mem_singleton.1 hx];exact ho
 ·exact h _ x hx
theorem AOk.list {t:Tab} {xs:List O} {blk:Int} {lp:Bool} {at':Nat} (hx:∀ o∈xs,o.Ok):∀ (l:List Pr) {s:St},AOk s->AOk (layL t xs blk lp at' s l)
 | [],_,h=>h
 | p::l,s,h=>AOk.list (t:=t) (blk:=blk) (lp:=lp) (at':=at') hx l (s:=lay1 t xs blk lp at' s p) (h.put (getD_ok hx _))
theorem AOk.rows {t:Tab} {xs:List O} {blk:Int} {lp:Bool} {fr:Nat} {row:Nat->List Pr} {s:St} (hx:∀ o∈xs,o.Ok) (h:AOk s):∀ k,AOk (layN t xs blk lp fr row s k)
 | 0=>h
 | k+1=>AOk.list hx (row k) (AOk.rows (t:=t) (blk:=blk) (lp:=lp) (fr:=fr) (row:=row) hx h k)
def s0:St:=(fun _=>[],fun _=>[])
def blS (t:Tab) (x:Bk) (blk:Int) (cy:Nat->Int) (N at':Nat):St:=
 let s1:=layN t x.ops blk false 0 (fun c=>rowC cy x.ops.length c) s0 N
 (adB s1.1 (at'*4+clG t (endO x)) (endO x),adT s1.2 (at'*4+clG t (endO x)) (tgP blk))
theorem lim_put {s:St} {m c:Nat} {o:O} {x:Tg} (h:Lim s m):Lim (adB s.1 c o,adT s.2 c x) (m+1):=by
 intro d;have h1:=h d;have h2:=h c;dsimp only [adB,adT];constructor <;> split
 ·rw [List.length_append,List.length_singleton];omega
 ·omega
 ·rw [List.length_append,List.length_singleton];omega
 ·omega
theorem rowC_in {cy:Nat->Int} {m c:Nat} {q:Pr} (h:q∈rowC cy m c):0<=q.1/\q.1<(m:Int):=by
 unfold rowC at h;obtain ⟨i,hi,rfl⟩:=List.mem_map.1 h
 have:=List.mem_range.1 (List.mem_filter.1 hi).1
 dsimp only;omega
structure Bl (w W:World) (x:Bk) (p:Pl) (t:Tab) (bb:Nat):Prop where
 t:TabAt W (w.heap.size+1) t
 b:At W bb (x.cells p)
 u:Below w.heap.size w W
theorem Bl.up {w W W':World} {x:Bk} {p:Pl} {t:Tab} {bb:Nat} (h:Bl w W x p t bb) (g:Below W.heap.size W W'):Bl w W' x p t bb:=⟨h.t.below g h.t.lt,At.fr h.b (Fr.of (X:=Non) g) fun e=>e,h.u.trans (g.mono h.u.size)⟩
structure Bo (w:World) (bb:Nat) (own:Nat->Nat):Prop where
 l:∀ k,k<w.heap.size->own k=0
 t:own (w.heap.size+1)=0
 b:own bb=0
theorem Bl.keep {w W W':World} {x:Bk} {p:Pl} {t:Tab} {bb:Nat} {own own':Nat->Nat} (h:Bl w W x p t bb) (o:Bo w bb own) (s:Gs W W' own own'):Bl w W' x p t bb/\Bo w bb own':=by
 have k1:¬ own (w.heap.size+1)≠0:=fun e=>e o.t;refine ⟨⟨⟨fun k hk=>by rw [s.fr.cell h.t.lt k1];exact h.t.cu k hk,fun k hk=>by rw [s.fr.cell h.t.lt k1];exact h.t.cl k hk,fun k hk=>by rw [s.fr.cell h.t.lt k1];exact h.t.cb k hk,by rw [s.fr.cell h.t.lt k1];exact h.t.cd,Nat.lt_of_lt_of_le h.t.lt s.fr.size⟩,(s.keep h.b o.b).1,h.u.trans (s.fr.below h.u.size fun k hk e=>e (o.l k hk))⟩,⟨fun k hk=>Decidable.byContradiction fun e=>s.nw k (Nat.lt_of_lt_of_le hk h.u.size) e (o.l k hk),Decidable.byContradiction fun e=>s.nw _ h.t.lt e o.t,(s.keep h.b o.b).2⟩⟩
theorem laying_mk (g cap:Nat) (ao:Option Addr) (xs:List O) (lp:Bool) (W:World):Calls Tryz.prog 39 #[.pointer (some ⟨g,0,none⟩),.slice ao xs.length cap,.bool lp] W fun e w'=>e=.returned (.func (.func 94) #[] #[.pointer (some ⟨W.heap.size,0,none⟩),.pointer (some ⟨W.heap.size+1,0,none⟩),.pointer (some ⟨W.heap.size+2,0,none⟩)])/\Below W.heap.size W w'/\At w' W.heap.size #[.pointer (some ⟨g,0,none⟩)]/\At w' (W.heap.size+1) #[.slice ao xs.length cap]/\At w' (W.heap.size+2) #[.bool lp]:=by
 have H1:=((At.new W #[.pointer (some ⟨g,0,none⟩)] 84).alloc (.cells #[.slice ao xs.length cap] 33)).alloc (.cells #[.bool lp] 4);have H2:=(At.new (W.alloc (.cells #[.pointer (some ⟨g,0,none⟩)] 84)) #[.slice ao xs.length cap] 33).alloc (.cells #[.bool lp] 4);have H3:=At.new ((W.alloc (.cells #[.pointer (some ⟨g,0,none⟩)] 84)).alloc (.cells #[.slice ao xs.length cap] 33)) #[.bool lp] 4;simp only [World.size_alloc] at H2 H3;have HH:Hid _:=And.intro H1 (And.intro H2 H3);clear H1 H2 H3;go_enter Tryz.func39,Tryz.ntmps39;go_wp2
 go_ret
 exact ⟨rfl,by go_grown,HH.out.1,HH.out.2.1,HH.out.2.2⟩
theorem block_ok (ao:Option Addr) (cap:Nat) (ps:List Bk) (t:Tab) (blk:Nat) (w:World) (h:PAt w ao ps) (he:Env w) (hnd:ndE ps t=0) (hb:blk<ps.length) (x:Bk) (hx:ps[blk]=x) (hf:x.fin=0\/x.fin=2) (cy:Nat->Int) (hcyd:Ls.cyL t x.ops=cy) (hls:Dp.lisE t x.ops=0) (hu:Ls.hvU t x.ops=true) (hen:Dl.erI t x x.ops.length cy=0) (at' N:Nat) (hat : Dl.atI t x cy=(at':Int)) (hlo:Dl.loI t x cy=(N:Int)) (hlt:at'<N) (hN:N<=100000) (hm:x.ops.length<=100000) (hcy:∀ i,i<x.ops.length->0<=cy i/\cy i<(N:Int)) (hcnt:cntR (fun c=>rowC cy x.ops.length c) N<=90000) (hS:∀ c,c<N->Srt (rowC cy x.ops.length c)) :
  Calls Tryz.prog 14 #[.agg #[.slice ao ps.length cap],.int .i64 (blk:Int),t.val] w fun e w'=>∃ ab cb a,e=.returned (.tuple #[.slice ab N cb,.slice a N N,.int .i64 0])/\BsL w' w.heap.size ab (bnL N (blS t x blk cy N at').1)/\TgB w' w.heap.size a N (tgL (blS t x blk cy N at').2)/\Below w.heap.size w w':=by
 have hok:t.ok=true:=(Dl.er_parts hen).1;have HRf:Hid (∀ W,Below w.heap.size w W->Calls Tryz.prog 35 #[.agg #[.slice ao ps.length cap],.int .i64 (blk:Int),t.val] W fun e w'=>e=.returned (.int .i64 0)/\Below W.heap.size W w'):=fun W hW=>refusal_ok ao cap ps t blk W (h.below hW) (he.up hW) hnd hb (by rw [hx];omega);have HP:Hid (∀ W,Below w.heap.size w W->PAt W ao ps):=fun W hW=>h.below hW;have HE:Hid (∀ W,Below w.heap.size w W->Bnds W):=fun W hW=>(he.up hW).b;have b0:(0:Int)<=(blk:Int):=by omega
 have b1:(blk:Int)<(ps.length:Int):=by omega
 clear h he hnd;unfold Tab.val at *;go_enter Tryz.func14,Tryz.ntmps14;go_upto_region 5 with (first|(go_at_call 35;refine Calls.mono (HRf.out _ (by go_grown)) ?_;rintro e w1 ⟨rfl,hb1⟩;obtain ⟨a1,a2,a3,-,-⟩:=two_new w _ _ _ _ hb1;have q0:=a1.c 0 _ rfl;have ql:=a1.lt;obtain ⟨pb,pf,rfl,pl,px⟩:=(HP.out _ (Below.refl _ _)).is (by omega);obtain ⟨p,hba,hbi⟩:=px blk hb;rw [hx] at hba hbi;obtain ⟨c0,c1,c2,c3,c4,c5⟩:=hba.below a3 pl;clear hba;have pl2:=Nat.lt_of_lt_of_le pl a3.size;have HT1:Hid (TabAt w1 (w.heap.size+1) t/\Below w.heap.size w w1/\BIn w x p):=⟨(tabAt_new (w.alloc (.cells #[.slice (some ⟨pb,pf,none⟩) ps.length cap] 24)) t 27 |> fun h=>by rw [World.size_alloc] at h;exact h.below hb1 (by simp)),a3,hbi⟩;clear hb1 a1 a2 a3 px hbi))
 have HX0:Hid (Bl w (w1.alloc (.cells (x.cells p) 36)) x p t w1.heap.size):=by
  have hu:Below w1.heap.size w1 (w1.alloc (.cells (x.cells p) 36)):=(Below.refl _ _).alloc (Nat.le_refl _) _;exact ⟨HT1.out.1.below hu HT1.out.1.lt,At.new _ _ _,HT1.out.2.1.trans (hu.mono HT1.out.2.1.size)⟩
 have HI:Hid (BIn w x p):=HT1.out.2.2;have hbb:w.heap.size+1<w1.heap.size:=HT1.out.1.lt;clear c0 c1 c2 c3 c4 c5 q0 HRf HP HT1 pl pl2;generalize w1.alloc (.cells (x.cells p) 36)=X at *;generalize w1.heap.size=bb at *;have HNg:Hid (Calls Tryz.prog 36 #[.int .i64 (blk:Int),.agg #[.int .i64 (t.u 0),.int .i64 (t.u 1),.int .i64 (t.u 2),.int .i64 (t.u 3),.int .i64 (t.l 0),.int .i64 (t.l 1),.int .i64 (t.l 2),.int .i64 (t.l 3),.int .i64 (t.b 0),.int .i64 (t.b 1),.int .i64 (t.b 2),.int .i64 (t.b 3),.int .i64 t.d]] X fun e w'=>∃ g own,e=.returned (.pointer (some ⟨g,0,none⟩))/\Bl w w' x p t bb/\Bo w bb own/\GrX w' g blk t own 0 s0.1 s0.2):=by
  refine Calls.mono (newGrowth_any blk t X hok) ?_;rintro e w' ⟨rfl,h1,h2⟩;have z1:=HX0.out.b.lt;have z2:=HX0.out.t.lt;have z3:=HX0.out.u.size;exact ⟨_,_,rfl,HX0.out.up h1,⟨fun k hk=>if_neg (by omega),if_neg (by omega),if_neg (by omega)⟩,h2⟩
 have HCy:Hid (∀ W,Below w.heap.size w W->Calls Tryz.prog 37 #[.slice p.oa x.ops.length p.oc,.agg #[.int .i64 (t.u 0),.int .i64 (t.u 1),.int .i64 (t.u 2),.int .i64 (t.u 3),.int .i64 (t.l 0),.int .i64 (t.l 1),.int .i64 (t.l 2),.int .i64 (t.l 3),.int .i64 (t.b 0),.int .i64 (t.b 1),.int .i64 (t.b 2),.int .i64 (t.b 3),.int .i64 t.d]] W (Dp.HtOut W x.ops.length cy)):=fun W hW=>by
  have:=Ls.cycles_ok p.oa p.oc x.ops t W (HI.out.below hW).o HI.out.c (HE.out W hW) hls hu
  rw [hcyd] at this;exact this
 have HEn:Hid (∀ W hb,Below w.heap.size w W->Dp.Ir W hb x.ops.length cy->Calls Tryz.prog 38 #[.agg #[.slice p.oa x.ops.length p.oc,.int .i8 x.fin,.int .u8 x.a,.slice p.ba x.body.length p.bc,.int .i64 x.thn,.int .i64 x.els],.agg #[.int .i64 (t.u 0),.int .i64 (t.u 1),.int .i64 (t.u 2),.int .i64 (t.u 3),.int .i64 (t.l 0),.int .i64 (t.l 1),.int .i64 (t.l 2),.int .i64 (t.l 3),.int .i64 (t.b 0),.int .i64 (t.b 1),.int .i64 (t.b 2),.int .i64 (t.b 3),.int .i64 t.d],.slice (some ⟨hb,0,none⟩) x.ops.length x.ops.length] W fun e w'=>e=.returned (.tuple #[.int .i64 (at':Int),.int .i64 (N:Int),.int .i64 0])/\Below W.heap.size W w'):=fun W hb hW hI=>by
  have:=Dl.end_any x p t (some ⟨hb,0,none⟩) x.ops.length x.ops.length cy W (HI.out.below hW).o HI.out.c ⟨fun _=>⟨hb,0,rfl,hI.lt,fun k hk=>by rw [Nat.zero_add];exact hI.c k hk⟩,fun k hk=>by have:=hcy k hk;omega⟩ (by omega) (HE.out W hW) HI.out.ok.a0
  rw [if_pos hen,if_pos hen,hen,hat,hlo] at this;exact this
 have k2:=HX0.out.t;have qu0:=k2.cu 0 (by decide);have ql0:=k2.cl 0 (by decide);have qb0:=k2.cb 0 (by decide);have qu1:=k2.cu 1 (by decide);have ql1:=k2.cl 1 (by decide);have qb1:=k2.cb 1 (by decide);have qu2:=k2.cu 2 (by decide);have ql2:=k2.cl 2 (by decide);have qb2:=k2.cb 2 (by decide);have qu3:=k2.cu 3 (by decide);have ql3:=k2.cl 3 (by decide);have qb3:=k2.cb 3 (by decide);have qd:=k2.cd;have qz:=k2.lt;clear k2;go_upto_region 6 with (go_at_call 36;refine Calls.mono HNg.out ?_;rintro e w2 ⟨g,own,rfl,h1,h2,h3⟩;have HB2:Hid (Bl w w2 x p t bb/\Bo w bb own/\GrX w2 g blk t own 0 s0.1 s0.2):=⟨h1,h2,h3⟩;clear h1 h2 h3)
 clear HNg HX0 qd qz qu0 ql0 qb0 qu1 ql1 qb1 qu2 ql2 qb2 qu3 ql3 qb3;have k2:=HB2.out.1.t;have qu0:=k2.cu 0 (by decide);have ql0:=k2.cl 0 (by decide);have qb0:=k2.cb 0 (by decide);have qu1:=k2.cu 1 (by decide);have ql1:=k2.cl 1 (by decide);have qb1:=k2.cb 1 (by decide);have qu2:=k2.cu 2 (by decide);have ql2:=k2.cl 2 (by decide);have qb2:=k2.cb 2 (by decide);have qu3:=k2.cu 3 (by decide);have ql3:=k2.cl 3 (by decide);have qb3:=k2.cb 3 (by decide);have qd:=k2.cd;have qz:=k2.lt;clear k2;have k3:=HB2.out.1.b;have x0:=k3.c 0 _ rfl;have x1:=k3.c 1 _ rfl;have x2:=k3.c 2 _ rfl;have x3:=k3.c 3 _ rfl;have x4:=k3.c 4 _ rfl;have x5:=k3.c 5 _ rfl;have xl:=k3.lt;clear k3;go_upto_region 7 with (go_at_call 37;refine Calls.mono (HCy.out w2 HB2.out.1.u) ?_;rintro e w3 ⟨hb3,rfl,h1,h2,h3⟩;have HB3:Hid (Bl w w3 x p t bb/\Bo w bb own/\GrX w3 g blk t own 0 s0.1 s0.2/\Dp.Ir w3 hb3 x.ops.length cy):=⟨HB2.out.1.up h3,HB2.out.2.1,HB2.out.2.2.up h3,h1⟩;clear h1 h2 h3)
 clear HB2 HCy qd qz qu0 ql0 qb0 qu1 ql1 qb1 qu2 ql2 qb2 qu3 ql3 qb3 x0 x1 x2 x3 x4 x5 xl;have k2:=HB3.out.1.t;have qu0:=k2.cu 0 (by decide);have ql0:=k2.cl 0 (by decide);have qb0:=k2.cb 0 (by decide);have qu1:=k2.cu 1 (by decide);have ql1:=k2.cl 1 (by decide);have qb1:=k2.cb 1 (by decide);have qu2:=k2.cu 2 (by decide);have ql2:=k2.cl 2 (by decide);have qb2:=k2.cb 2 (by decide);have qu3:=k2.cu 3 (by decide);have ql3:=k2.cl 3 (by decide);have qb3:=k2.cb 3 (by decide);have qd:=k2.cd;have qz:=k2.lt;clear k2;have k3:=HB3.out.1.b;have x0:=k3.c 0 _ rfl;have x1:=k3.c 1 _ rfl;have x2:=k3.c 2 _ rfl;have x3:=k3.c 3 _ rfl;have x4:=k3.c 4 _ rfl;have x5:=k3.c 5 _ rfl;have xl:=k3.lt;clear k3;go_upto_region 8 with (go_at_call 38;refine Calls.mono (HEn.out w3 hb3 HB3.out.1.u HB3.out.2.2.2) ?_;rintro e w4 ⟨rfl,h3⟩;have HB4:Hid (Bl w w4 x p t bb/\Bo w bb own/\GrX w4 g blk t own 0 s0.1 s0.2/\Dp.Ir w4 hb3 x.ops.length cy):=⟨HB3.out.1.up h3,HB3.out.2.1,HB3.out.2.2.1.up h3,HB3.out.2.2.2.up h3⟩;clear h3)
 clear HB3 HEn qd qz qu0 ql0 qb0 qu1 ql1 qb1 qu2 ql2 qb2 qu3 ql3 qb3 x0 x1 x2 x3 x4 x5 xl;have k3:=HB4.out.1.b;have x0:=k3.c 0 _ rfl;have x1:=k3.c 1 _ rfl;have x2:=k3.c 2 _ rfl;have x3:=k3.c 3 _ rfl;have x4:=k3.c 4 _ rfl;have x5:=k3.c 5 _ rfl;have xl:=k3.lt;clear k3;have HR:Hid (∀ W,Below w4.heap.size w4 W->Calls Tryz.prog 40 #[.slice (some ⟨hb3,0,none⟩) x.ops.length x.ops.length,.int .i64 (N:Int)] W fun e w'=>e=.returned (.slice (some ⟨W.heap.size,0,none⟩) N N)/\(∃ f,Lw.Rs w' (W.heap.size+1) W.heap.size N f (fun c=>rowC cy x.ops.length c))/\Below W.heap.size W w'):=fun W hW=>by
  have hi:=HB4.out.2.2.2.up hW;exact rowsOf_any (some ⟨hb3,0,none⟩) x.ops.length x.ops.length N cy W ⟨fun _=>⟨hb3,0,rfl,hi.lt,fun k hk=>by rw [Nat.zero_add];exact hi.c k hk⟩⟩ hcy hm (by omega)
 have HLy:Hid (∀ w5 w6 f6,(Below w4.heap.size w4 w5/\At w5 w4.heap.size #[.pointer (some ⟨g,0,none⟩)]/\At w5 (w4.heap.size+1) #[.slice p.oa x.ops.length p.oc]/\At w5 (w4.heap.size+2) #[.bool false])->(Lw.Rs w6 (w5.heap.size+1) w5.heap.size N f6 (fun c=>rowC cy x.ops.length c)/\Below w5.heap.size w5 w6)->Calls Tryz.prog 94 #[.slice (some ⟨w5.heap.size,0,none⟩) N N,.pointer (some ⟨w4.heap.size,0,none⟩),.pointer (some ⟨w4.heap.size+1,0,none⟩),.pointer (some ⟨w4.heap.size+2,0,none⟩)] w6 fun e w'=>e=.returned (.int .i64 0)/\∃ own7,Bl w w' x p t bb/\Bo w bb own7/\GrX w' g blk t own7 N (layN t x.ops blk false 0 (fun c=>rowC cy x.ops.length c) s0 N).1 (layN t x.ops blk false 0 (fun c=>rowC cy x.ops.length c) s0 N).2):=by
  rintro w5 w6 f6 ⟨m1,m2,m3,m4⟩ ⟨r1,r2⟩;have z5:=m1.size;have b6:Below w4.heap.size w4 w6:=m1.trans (r2.mono z5);have hB6:=HB4.out.1.up b6;have hnl:=HB4.out.2.2.1.nl;have f6':=Fr.of (X:=Non) r2;refine Calls.mono (laying_any w4.heap.size (w4.heap.size+1) (w4.heap.size+2) g p.oc 0 N (some ⟨w5.heap.size,0,none⟩) N (fun c=>rowC cy x.ops.length c) p.oa x.ops false blk t own s0 0 w6 (HB4.out.2.2.1.up b6) ⟨At.fr m2 f6' (fun e=>e),At.fr m3 f6' (fun e=>e),At.fr m4 f6' (fun e=>e),hnl _ (Nat.le_refl _),hnl _ (by omega),hnl _ (by omega),(HI.out.below hB6.u).o,fun hz A e=>?_⟩ (RdO.of r1 fun k hk=>hnl k (by omega)) (HE.out w6 hB6.u) (fun k hk=>HB4.out.2.1.l k (by have:=(HE.out w (Below.refl _ _)).big;omega)) hok (by omega) (fun c=>by simp [s0]) (by omega) (fun c _ q hq=>rowC_in hq) hS) ?_
  ·obtain ⟨b,f,e2,hbl,-⟩:=HI.out.o.is hz;rw [e] at e2
   injection e2 with e2
   subst e2;exact HB4.out.2.1.l b hbl
  ·rintro e w' ⟨rfl,own7,h1,h2⟩;obtain ⟨k1,k2⟩:=hB6.keep HB4.out.2.1 h1;rw [Nat.zero_add] at h2;exact ⟨rfl,own7,k1,k2,h2⟩
 go_upto_region 9 with (first
  | (go_at_call 39;refine Calls.mono (laying_mk g p.oc p.oa x.ops false w4) ?_;rintro e w5 ⟨rfl,h1,h2,h3,h4⟩;have HM:Hid (Below w4.heap.size w4 w5/\At w5 w4.heap.size #[.pointer (some ⟨g,0,none⟩)]/\At w5 (w4.heap.size+1) #[.slice p.oa x.ops.length p.oc]/\At w5 (w4.heap.size+2) #[.bool false]):=⟨h1,h2,h3,h4⟩;clear h1 h2 h3 h4)
  | (go_at_call 40;refine Calls.mono (HR.out w5 HM.out.1) ?_;rintro e w6 ⟨rfl,⟨f6,h1⟩,h2⟩;have HR6:Hid (Lw.Rs w6 (w5.heap.size+1) w5.heap.size N f6 (fun c=>rowC cy x.ops.length c)/\Below w5.heap.size w5 w6):=⟨h1,h2⟩;clear h1 h2)
  | (go_at_call 94;refine Calls.mono (HLy.out w5 w6 f6 HM.out HR6.out) ?_;rintro e w7 ⟨rfl,own7,h1,h2,h3⟩;have HB7:Hid (Bl w w7 x p t bb/\Bo w bb own7/\GrX w7 g blk t own7 N (layN t x.ops blk false 0 (fun c=>rowC cy x.ops.length c) s0 N).1 (layN t x.ops blk false 0 (fun c=>rowC cy x.ops.length c) s0 N).2):=⟨h1,h2,h3⟩;clear h1 h2 h3))
 clear HB4 HLy HR HM HR6 x0 x1 x2 x3 x4 x5 xl;have HAk:Hid (AOk (layN t x.ops blk false 0 (fun c=>rowC cy x.ops.length c) s0 N)/\Lim (layN t x.ops blk false 0 (fun c=>rowC cy x.ops.length c) s0 N) 90000):=⟨AOk.rows (fun o ho=>HI.out.o.ok o ho) (fun c o ho=>by simp [s0] at ho) N,(Lim.rows (m:=0) (fun c=>by simp [s0]) N).le (by omega)⟩;have HDf:Hid (blS t x blk cy N at'=(adB (layN t x.ops blk false 0 (fun c=>rowC cy x.ops.length c) s0 N).1 (at'*4+clG t (endO x)) (endO x),adT (layN t x.ops blk false 0 (fun c=>rowC cy x.ops.length c) s0 N).2 (at'*4+clG t (endO x)) (tgP blk))):=rfl;generalize layN t x.ops blk false 0 (fun c=>rowC cy x.ops.length c) s0 N=s1 at *;have HOk:Hid ((endO x).Ok):=endO_ok HI.out.ok;have HPo:Hid (∀ W,Below w7.heap.size w7 W->Calls Tryz.prog 41 #[.pointer (some ⟨g,0,none⟩),.int .i64 (at':Int),.agg #[.int .i8 (endO x).op,.int .u8 (endO x).d,.int .u8 (endO x).a,.int .u8 (endO x).b,.int .i64 (endO x).im]] W fun e w'=>e=.returned (.tuple #[])/\∃ own8,Bl w w' x p t bb/\Bo w bb own8/\GrX w' g blk t own8 N (adB s1.1 (at'*4+clG t (endO x)) (endO x)) (adT s1.2 (at'*4+clG t (endO x)) (tgP blk))):=fun W hW=>by
  have hB:=HB7.out.1.up hW;refine Calls.mono (putOwn_any g at' N (endO x) blk t own7 s1.1 s1.2 W (HB7.out.2.2.up hW) (HE.out W hB.u) hok HOk.out hlt (by omega) (fun c=>Nat.le_trans (HAk.out.2 c).1 (by omega)) (fun c=>Nat.le_trans (HAk.out.2 c).2 (by omega))) ?_;rintro e w' ⟨rfl,own8,h1,h2⟩;obtain ⟨k1,k2⟩:=hB.keep HB7.out.2.1 h1;exact ⟨rfl,own8,k1,k2,h2⟩
 have HTo:Hid (∀ W own8,Bo w bb own8->w.heap.size<=W.heap.size->GrX W g blk t own8 N (adB s1.1 (at'*4+clG t (endO x)) (endO x)) (adT s1.2 (at'*4+clG t (endO x)) (tgP blk))->Calls Tryz.prog 45 #[.pointer (some ⟨g,0,none⟩)] W fun e w'=>∃ ab cb a,e=.returned (.tuple #[.slice ab N cb,.slice a N N])/\BsL w' w.heap.size ab (bnL N (blS t x blk cy N at').1)/\TgB w' w.heap.size a N (tgL (blS t x blk cy N at').2)/\Below W.heap.size W w'):=fun W own8 hbo hsz hW=>by
  rw [HDf.out];have hl:=lim_put (c:=at'*4+clG t (endO x)) (o:=endO x) (x:=tgP blk) HAk.out.2;exact told_any g N blk t own8 _ _ W hW (fun c o ho=>AOk.put (ts:=fun _=>[]) HAk.out.1 HOk.out c o ho) (fun c=>Nat.le_trans (hl c).1 (by omega)) (fun c=>Nat.le_trans (hl c).2 (by omega)) hN w.heap.size hbo.l hsz
 have HEo:Hid (∀ W,Calls Tryz.prog 42 #[.agg #[.slice p.oa x.ops.length p.oc,.int .i8 x.fin,.int .u8 x.a,.slice p.ba x.body.length p.bc,.int .i64 x.thn,.int .i64 x.els]] W fun e w'=>e=.returned (.agg #[.int .i8 (endO x).op,.int .u8 (endO x).d,.int .u8 (endO x).a,.int .u8 (endO x).b,.int .i64 (endO x).im])/\Below W.heap.size W w'):=fun W=>endOf_any x p W;have k3:=HB7.out.1.b;have x0:=k3.c 0 _ rfl;have x1:=k3.c 1 _ rfl;have x2:=k3.c 2 _ rfl;have x3:=k3.c 3 _ rfl;have x4:=k3.c 4 _ rfl;have x5:=k3.c 5 _ rfl;have xl:=k3.lt;clear k3;generalize endO x=eo at *;go_upto_region 10 with (first
  | (go_at_call 42;refine Calls.mono (HEo.out w7) ?_;rintro e w8 ⟨rfl,h1⟩;have HB8:Hid _:=h1;clear h1)
  | (go_at_call 41;refine Calls.mono (HPo.out w8 HB8.out) ?_;rintro e w9 ⟨rfl,own8,h1,h2,h3⟩;have HB9:Hid (Bl w w9 x p t bb/\Bo w bb own8/\GrX w9 g blk t own8 N (adB s1.1 (at'*4+clG t eo) eo) (adT s1.2 (at'*4+clG t eo) (tgP blk))):=⟨h1,h2,h3⟩;clear h1 h2 h3))
 clear HB7 HB8 HPo HEo x0 x1 x2 x3 x4 x5 xl;have k3:=HB9.out.1.b;have x0:=k3.c 0 _ rfl;have x1:=k3.c 1 _ rfl;have x2:=k3.c 2 _ rfl;have x3:=k3.c 3 _ rfl;have x4:=k3.c 4 _ rfl;have x5:=k3.c 5 _ rfl;have xl:=k3.lt;clear k3;have hf1:¬ x.fin=1:=by omega
 go_wp2_with (first
  | (go_at_call 45;refine Calls.mono (HTo.out w9 own8 HB9.out.2.1 HB9.out.1.u.size HB9.out.2.2) ?_;rintro e w10 ⟨ab,cb,aa,rfl,h1,h2,h3⟩;have HF:Hid (BsL w10 w.heap.size ab (bnL N (blS t x blk cy N at').1)/\TgB w10 w.heap.size aa N (tgL (blS t x blk cy N at').2)/\Below w.heap.size w w10):=⟨h1,h2,HB9.out.1.u.trans (h3.mono HB9.out.1.u.size)⟩;clear h1 h2 h3))
 go_ret3
 exact ⟨ab,cb,aa,rfl,HF.out⟩
end Go.Proofs.YtpdaknbmcpmhjaaGreatDoor.Ly
