/- Parts Ek Hm El. -/
import Derived.Test.YtiejdpjgplikjaaGreatDoorN07
set_option maxRecDepth 20000
set_option maxHeartbeats 4000000
namespace Go.Proofs.YtiejdpjgplikjaaGreatDoor.Dp
open Go.ChangeShapes Go.WideShapes Go.ChangeAt Go.RowKit
open YtiejdpjgplikjaaGreatDoor.Op YtiejdpjgplikjaaGreatDoor.So
open YtiejdpjgplikjaaGreatDoor.Tb (Tab TabAt Bnds)
def ptsL (t:Tab) (xs:List O):List Pt:=xs.map (ptL t)
def ofE (t:Tab) (xs:List O):List Ed:=withinE xs (ptsL t xs) xs.length
def loopE (t:Tab) (xs:List O):List Ed:=withinE xs (ptsL t xs) xs.length++acrossE xs (ptsL t xs) xs.length
theorem ptsL_len (t:Tab) (xs:List O):(ptsL t xs).length=xs.length:=by simp [ptsL]
def EOwn (B:Nat) (w:World) (a:Option Addr) (c:Nat) (es:List Ed):Prop:=w.ownsRow B 47 5 (.slice a es.length c) es.length (ecells es)
theorem eOwn_of {w:World} {B B':Nat} {v:Value} {es:List Ed} (h:w.ownsRow B 47 5 v es.length (ecells es)) (hB:B'<=B):∃ a c,v=.slice a es.length c/\EOwn B' w a c es:=by
 obtain ⟨h1,h2⟩:=h;rcases h2 with ⟨rfl,h0⟩|⟨b,cap,cur,rfl,g1,g2⟩
 ·exact ⟨none,0,by rw [h0],h1,.inl ⟨by rw [h0],h0⟩⟩
 ·exact ⟨_,cap,rfl,h1,.inr ⟨b,cap,cur,rfl,by omega,g2⟩⟩
theorem ptL_ok (t:Tab) (o:O) (ho:o.Ok) (hk:okO o=true) (ht:t.ok=true):(0<=(ptL t o).r/\(ptL t o).r<=31)/\1<=(ptL t o).l/\(ptL t o).l<=8:=by
 unfold ptL
 cases h:kOf o.op with
 | none=>rw [okO_none h] at hk;cases hk
 | some k=>
  have hf:okF k o=true:=by rw [<- okO_some h];exact hk
  have hl:=clV_in o.op;have hc:=(Tb.ok_parts ht).2 (clV o.op).toNat (by omega);have hc:=Tb.inB_iff hc.2.1;refine ⟨?_,hc⟩;show 0<=wrD o/\wrD o<=31;unfold wrD
  cases hw:wrB o
  ·simp
  ·have h0:=ho.d0
   have:o.d<=31:=by
    unfold wrB at hw;rw [h] at hw;simp only [Bool.and_eq_true] at hw;simp only [okF,Bool.and_eq_true,hw.2] at hf
    have:=hf.1.1.1
    simp [rH] at this
    omega
   simp;omega
theorem pts_ok (t:Tab) (xs:List O) (hok:∀ o∈xs,o.Ok/\okO o=true) (ht:t.ok=true):PtsOk (ptsL t xs):=fun p hp=>by
 obtain ⟨o,ho,rfl⟩:=List.mem_map.1 hp;exact ptL_ok t o (hok o ho).1 (hok o ho).2 ht
theorem lis_all {t:Tab} {xs:List O} (h:lisE t xs=0):t.ok=true/\xs.length<=1024/\∀ o∈xs,okL o=true:=by
 unfold lisE at h
 split at h
 ·omega
 ·rename_i h1
  split at h
  ·omega
  ·rename_i h2
   split at h
   ·rename_i h3;exact ⟨by simpa using h1,by omega,fun o ho=>List.all_eq_true.1 h3 o ho⟩
   ·omega
theorem okL_okO {o:O} (h:okL o=true):okO o=true:=by
 simp only [okL,Bool.and_eq_true] at h;exact h.2
structure Fm (w W:World) (ao:Option Addr) (n cap:Nat) (ps:List Pt) (ve:Value) (es:List Ed):Prop where
 fe:FE W (w.heap.size+1) ve es
 c0:W.cell? ⟨w.heap.size+1,0,none⟩=some (.slice ao n cap)
 pt:(ps=[]/\W.cell? ⟨w.heap.size+1,1,none⟩=some (.slice none 0 0))\/∃ pb pc,W.cell? ⟨w.heap.size+1,1,none⟩=some (.slice (some ⟨pb,0,none⟩) ps.length pc)/\PsAt W pb ps/\¬ pb=w.heap.size+1/\¬ ve.ownBlock=some pb
 up:Below w.heap.size w W
theorem fm_of {w W:World} {ao:Option Addr} {n cap:Nat} {t:Tab} {vp:Value} {ps:List Pt} (h:Nf w W ao n cap t vp ps):Fm w W ao n cap ps (.slice none 0 0) []:=by
 refine ⟨⟨h.f.c 2 _ rfl,h.f.f 2,h.f.lt,World.ownsRow_nil _ _ _ _⟩,h.f.c 0 _ rfl,?_,h.up⟩;rcases h.row.2 with ⟨e,h0⟩|⟨b,cap,cur,e,g1,g2⟩
 ·subst e;exact .inl ⟨List.eq_nil_of_length_eq_zero h0,h.f.c 1 _ rfl⟩
 ·subst e;exact .inr ⟨b,cap,h.f.c 1 _ rfl,psAt_row h.row,by omega,fun e=>by cases e⟩
theorem Fm.own {w W:World} {ao:Option Addr} {n cap:Nat} {ps:List Pt} {ve:Value} {es:List Ed} (h:Fm w W ao n cap ps ve es):∀ k,ve.ownBlock=some k->w.heap.size<=k:=fun k e=>by have:=(h.fe.row.lt k e).1;omega
theorem Fm.next {w W W':World} {ao:Option Addr} {n cap:Nat} {ps:List Pt} {ve ve':Value} {es es':List Ed} (h:Fm w W ao n cap ps ve es) (hf:FE W' (w.heap.size+1) ve' es') (hg:Gr (w.heap.size+1) ve W ve' W'):Fm w W' ao n cap ps ve' es':=by
 have hl:=h.fe.lt;refine ⟨hf,(hg.fc hl 0 (by decide)).trans h.c0,?_,h.up.trans (hg.below (by omega) h.up.size h.own)⟩;rcases h.pt with ⟨e,c1⟩|⟨pb,pc,c1,hp,n1,n3⟩
 ·exact .inl ⟨e,(hg.fc hl 1 (by decide)).trans c1⟩
 ·refine .inr ⟨pb,pc,(hg.fc hl 1 (by decide)).trans c1,hp.fr hg.fr ?_,n1,fun e=>n3 (hg.ow _ hp.lt e)⟩;rintro (e|e)
  ·exact n1 e
  ·exact n3 e
theorem Fm.ops {w W:World} {ao:Option Addr} {n cap:Nat} {ps:List Pt} {ve:Value} {es:List Ed} (h:Fm w W ao n cap ps ve es) {xs:List O} (ho:OpsAt w ao xs):∀ W',Fr (fun k=>k=w.heap.size+1\/ve.ownBlock=some k) W W'->OpsAt W' ao xs:=fun W' hF=>
 ho.below (h.up.trans (hF.below h.up.size fun k hk e=>by
  rcases e with e|e
  ·omega
  ·have:=h.own k e;omega))
theorem within_none (f cap:Nat) (ao:Option Addr) (w:World) (hf:f<w.heap.size) (c0:w.cell? ⟨f,0,none⟩=some (.slice ao 0 cap)):Calls Tryz.prog 35 #[.pointer (some ⟨f,0,none⟩)] w fun r w'=>r=.returned (.tuple #[])/\Below w.heap.size w w':=by
 have hn:¬ f=w.heap.size:=by omega
 have hn':¬ w.heap.size=f:=by omega
 go_enter Tryz.func35,Tryz.ntmps35;go_wp2_with fail
 go_loop [10] (fun i=>i=.int .i64 0) (fun _=>0)
 case atStart=>rfl
 case round=>
  subst hrel;go_wp2_with fail
  go_end0
  exact ⟨rfl,by go_grown⟩
theorem across_none (f cap:Nat) (ao:Option Addr) (w:World) (hf:f<w.heap.size) (c0:w.cell? ⟨f,0,none⟩=some (.slice ao 0 cap)) (c1:w.cell? ⟨f,1,none⟩=some (.slice none 0 0)):Calls Tryz.prog 36 #[.pointer (some ⟨f,0,none⟩)] w fun r w'=>r=.returned (.tuple #[])/\Below w.heap.size w w':=by
 have hn:¬ f=w.heap.size:=by omega
 have hn':¬ w.heap.size=f:=by omega
 go_enter Tryz.func36,Tryz.ntmps36;go_wp2_with fail
 go_loop [12] (fun i=>i=.int .i64 0) (fun _=>0)
 case atStart=>rfl
 case round=>
  subst hrel;go_wp2_with fail
  go_loop [26] (fun i=>i=.int .i64 0) (fun _=>0)
  case atStart=>rfl
  case round=>
   subst hrel;go_wp2_with fail
   go_end0
   exact ⟨rfl,by go_grown⟩
theorem fm_within {w W:World} {ao:Option Addr} {cap:Nat} {xs:List O} {ps:List Pt} {ve:Value} {es:List Ed} (h:Fm w W ao xs.length cap ps ve es) (ho:OpsAt w ao xs) (hcap:xs.length<=cap) (hl:ps.length=xs.length) (hn:xs.length<=1024) (hpt:PtsOk ps) (he:es.length<=100000000) :
  Calls Tryz.prog 35 #[.pointer (some ⟨w.heap.size+1,0,none⟩)] W fun r w'=>r=.returned (.tuple #[])/\∃ ve',Fm w w' ao xs.length cap ps ve' (es++withinE xs ps xs.length):=by
 rcases h.pt with ⟨e,c1⟩|⟨pb,pc,c1,hp,n1,n3⟩
 ·have h0:xs.length=0:=by rw [<- hl,e];rfl
  have c0:=h.c0;rw [h0] at c0;refine (within_none _ _ _ W h.fe.lt c0).mono ?_;rintro r w' ⟨rfl,hb⟩;refine ⟨rfl,ve,?_⟩;rw [show withinE xs ps xs.length=[] by rw [h0];rfl,List.append_nil];exact h.next (h.fe.up hb) (Gr.of hb)
 ·refine (within_any _ pb pc cap ao xs ps ve es W h.fe h.c0 c1 hp n1 n3 (h.ops ho) hcap hl hn hpt he).mono ?_;rintro r w' ⟨rfl,ve',h1,h2⟩;exact ⟨rfl,ve',h.next h1 h2⟩
theorem fm_across {w W:World} {ao:Option Addr} {cap:Nat} {xs:List O} {ps:List Pt} {ve:Value} {es:List Ed} (h:Fm w W ao xs.length cap ps ve es) (ho:OpsAt w ao xs) (hl:ps.length=xs.length) (hn:xs.length<=1024) (hpt:PtsOk ps) (he:es.length<=100000000) :
  Calls Tryz.prog 36 #[.pointer (some ⟨w.heap.size+1,0,none⟩)] W fun r w'=>r=.returned (.tuple #[])/\∃ ve',Fm w w' ao xs.length cap ps ve' (es++acrossE xs ps xs.length):=by
 rcases h.pt with ⟨e,c1⟩|⟨pb,pc,c1,hp,n1,n3⟩
 ·have h0:xs.length=0:=by rw [<- hl,e];rfl
  have c0:=h.c0;rw [h0] at c0;refine (across_none _ _ _ W h.fe.lt c0 c1).mono ?_;rintro r w' ⟨rfl,hb⟩;refine ⟨rfl,ve,?_⟩;rw [show acrossE xs ps xs.length=[] by rw [h0];rfl,List.append_nil];exact h.next (h.fe.up hb) (Gr.of hb)
 ·refine (across_any _ pb pc cap ao xs ps ve es W h.fe h.c0 c1 hp n1 n3 (h.ops ho) hl hn hpt he).mono ?_;rintro r w' ⟨rfl,ve',h1,h2⟩;exact ⟨rfl,ve',h.next h1 h2⟩
def EdOut (w:World) (er:Int) (es:List Ed) (e:Ending) (w':World):Prop:=∃ a c,e=.returned (.tuple #[.slice a es.length c,.int .i64 er])/\EOwn w.heap.size w' a c es/\Below w.heap.size w w'
def erE (t:Tab) (xs:List O) (es:List Ed):List Ed:=if lisE t xs=0 then es else []
structure Tc (w W:World) (t:Tab):Prop where
 t:TabAt W w.heap.size t
 up:Below w.heap.size w W
theorem Tc.start (w:World) (t:Tab) {c:Array Value} (hc:c=t.cells) {W:World} (hb:Below (w.alloc (.cells c 25)).heap.size (w.alloc (.cells c 25)) W):Tc w W t:=by
 subst hc;have h2:=Tb.tabAt_new w t 25;exact ⟨h2.below hb h2.lt,((Below.refl _ _).alloc (Nat.le_refl _) _).trans (hb.mono (by simp))⟩
theorem of_any (ao:Option Addr) (cap:Nat) (xs:List O) (t:Tab) (w:World) (h:OpsAt w ao xs) (hcap:xs.length<=cap) (hG:Bnds w) :
  Calls Tryz.prog 81 #[.slice ao xs.length cap,t.val] w (EdOut w (lisE t xs) (erE t xs (ofE t xs))):=by
 have HC:Hid (∀ W,Below w.heap.size w W->Calls Tryz.prog 33 #[.slice ao xs.length cap,t.val] W fun e w'=>e=.returned (.int .i64 (lisE t xs))/\Below W.heap.size W w'):=fun W hb=>lis_any ao cap xs t W (hG.below hb hG.big) (h.below hb);unfold erE
 by_cases he:lisE t xs=0
 ·rw [if_pos he];obtain ⟨ht,hn,hok⟩:=lis_all he;have hpt:=pts_ok t xs (fun o ho=>⟨h.ok o ho,okL_okO (hok o ho)⟩) ht;have HN:Hid (∀ W,Below w.heap.size w W->Calls Tryz.prog 34 #[.slice ao xs.length cap,t.val] W fun e w'=>e=.returned (.pointer (some ⟨W.heap.size+1,0,none⟩))/\Fm W w' ao xs.length cap (ptsL t xs) (.slice none 0 0) []):=fun W hb=>(new_any ao cap xs t W (h.below hb) (fun o ho=>okL_okO (hok o ho)) hn).mono fun e w' h'=>by
   obtain ⟨h1,vp,h2⟩:=h';exact ⟨h1,fm_of h2⟩
  have HWi:Hid (∀ W0 W ve es,Below w.heap.size w W0->Fm W0 W ao xs.length cap (ptsL t xs) ve es->es.length<=100000000->Calls Tryz.prog 35 #[.pointer (some ⟨W0.heap.size+1,0,none⟩)] W fun r w'=>r=.returned (.tuple #[])/\∃ ve',Fm W0 w' ao xs.length cap (ptsL t xs) ve' (es++withinE xs (ptsL t xs) xs.length)):=fun W0 W ve es hb hf hl=>fm_within hf (h.below hb) hcap (ptsL_len t xs) hn hpt hl;rw [he] at HC ⊢;clear h hcap hG hok hpt ht he;unfold ofE;generalize ptsL t xs=ps at *;unfold Tab.val at *;go_enter Tryz.func81,Tryz.ntmps81;go_wp2_with (first
   | (go_at_call 33;refine Calls.mono (HC.out _ (by go_grown)) ?_;rintro e w1 ⟨rfl,hb⟩;have HT:Hid (Tc w w1 t):=Tc.start w t rfl hb;have s1:=HT.out.t;have tu0:=s1.cu 0 (by decide);have tu1:=s1.cu 1 (by decide);have tu2:=s1.cu 2 (by decide);have tu3:=s1.cu 3 (by decide);have tl0:=s1.cl 0 (by decide);have tl1:=s1.cl 1 (by decide);have tl2:=s1.cl 2 (by decide);have tl3:=s1.cl 3 (by decide);have tb0:=s1.cb 0 (by decide);have tb1:=s1.cb 1 (by decide);have tb2:=s1.cb 2 (by decide);have tb3:=s1.cb 3 (by decide);have td:=s1.cd;have tl:=s1.lt;clear hb s1 HC)
   | (go_at_call 34;refine Calls.mono (HN.out _ HT.out.up) ?_;rintro e w2 ⟨rfl,hf⟩;have HF:Hid (Fm w1 w2 ao xs.length cap ps (.slice none 0 0) []):=hf;clear hf HN tu0 tu1 tu2 tu3 tl0 tl1 tl2 tl3 tb0 tb1 tb2 tb3 td tl)
   | (go_at_call 35;refine Calls.mono (HWi.out w1 _ _ _ HT.out.up HF.out (by simp)) ?_;rintro e w3 ⟨rfl,ve,hf⟩;have HF3:Hid (Fm w1 w3 ao xs.length cap ps ve (withinE xs ps xs.length)):=hf;have c2:=hf.fe.c;have fl:=hf.fe.lt;clear hf HF HWi))
  go_ret2
  obtain ⟨a,c,e,ho⟩:=eOwn_of HF3.out.fe.row (B':=w.heap.size) (by have:=HT.out.up.size;omega);exact ⟨a,c,by rw [e];rfl,ho,HT.out.up.trans (HF3.out.up.mono HT.out.up.size)⟩
 ·rw [if_neg he];have he2:(lisE t xs != 0)=true:=by simpa using he
  generalize lisE t xs=er at *;clear h hcap hG;unfold Tab.val at *;go_enter Tryz.func81,Tryz.ntmps81;go_wp2_with (first
   | (go_at_call 33;refine Calls.mono (HC.out _ (by go_grown)) ?_;rintro e w1 ⟨rfl,hb⟩;have HT:Hid (Tc w w1 t):=Tc.start w t rfl hb;clear hb HC))
  go_ret2
  exact ⟨none,0,rfl,World.ownsRow_nil _ _ _ _,HT.out.up⟩
def updI (L:Nat->Int) (k:Nat) (v:Int):Nat->Int:=fun j=>if j=k then v else L j
theorem updI_same (L:Nat->Int) (k:Nat) (v:Int):updI L k v k=v:=if_pos rfl
theorem updI_other (L:Nat->Int) {k j:Nat} (v:Int) (h:¬ j=k):updI L k v j=L j:=if_neg h
def raise (h:Nat->Int) (e:Ed):Nat->Int:=updI h e.f.toNat (max (h e.f.toNat) (e.l+h e.t.toNat))
def hts (lat : Nat->Int) (es:List Ed):Nat->Int:=es.foldr (fun e h=>raise h e) lat
theorem hts_drop (lat : Nat->Int) (es:List Ed) (k:Nat) (h:k<es.length):hts lat (es.drop k)=raise (hts lat (es.drop (k+1))) es[k]:=by
 rw [List.drop_eq_getElem_cons h];rfl
structure EOk (n:Nat) (es:List Ed):Prop where
 f0:∀ e∈es,0<=e.f
 ft:∀ e∈es,e.f<e.t
 tn:∀ e∈es,e.t<n
 l0:∀ e∈es,0<=e.l/\e.l<=8
 up:es.Pairwise fun a b=>a.t<=b.t
theorem EOk.tail {n:Nat} {e:Ed} {es:List Ed} (h:EOk n (e::es)):EOk n es:=
 ⟨fun x hx=>h.f0 x (List.mem_cons_of_mem _ hx),fun x hx=>h.ft x (List.mem_cons_of_mem _ hx),fun x hx=>h.tn x (List.mem_cons_of_mem _ hx),fun x hx=>h.l0 x (List.mem_cons_of_mem _ hx),(List.pairwise_cons.1 h.up).2⟩
theorem EOk.drop {n:Nat} {es:List Ed} (h:EOk n es) (k:Nat):EOk n (es.drop k):=
 ⟨fun x hx=>h.f0 x (List.mem_of_mem_drop hx),fun x hx=>h.ft x (List.mem_of_mem_drop hx),fun x hx=>h.tn x (List.mem_of_mem_drop hx),fun x hx=>h.l0 x (List.mem_of_mem_drop hx),h.up.sublist (List.drop_sublist k es)⟩
structure Hts (n:Nat) (lat : Nat->Int) (es:List Ed) (H:Nat->Int):Prop where
 lo:∀ i,i<n->lat i<=H i
 ed:∀ e∈es,e.l+H e.t.toNat<=H e.f.toNat
 ex:∀ i,i<n->H i=lat i\/∃ e∈es,e.f=(i:Int)/\H i=e.l+H e.t.toNat
theorem hts_is {n:Nat} {lat : Nat->Int} : ∀ {es:List Ed},EOk n es->Hts n lat es (hts lat es)
 | [],_=>⟨fun _ _=>Int.le_refl _,fun e he=>(by cases he),fun _ _=>.inl rfl⟩
 | e::es,h=>by
  have ih:=hts_is (lat:=lat) h.tail;have f0:=h.f0 e (List.mem_cons_self ..);have ft:=h.ft e (List.mem_cons_self ..);have hu:=(List.pairwise_cons.1 h.up).1;have et:hts lat (e::es)=raise (hts lat es) e:=rfl;rw [et];generalize hts lat es=H' at *;have key:∀ x∈e::es,raise H' e x.t.toNat = H' x.t.toNat:=fun x hx=>by
   refine updI_other _ _ ?_;have hx0:e.f<x.t:=by
    rcases List.mem_cons.1 hx with rfl|hx
    ·exact ft
    ·have:=hu x hx;omega
   omega
  have ge:∀ i,H' i<=raise H' e i:=fun i=>by
   unfold raise updI
   split
   ·rename_i hi;subst hi;omega
   ·omega
  refine ⟨fun i hi=>Int.le_trans (ih.lo i hi) (ge i),fun x hx=>?_,fun i hi=>?_⟩
  ·rw [key x hx];rcases List.mem_cons.1 hx with rfl|hx'
   ·unfold raise;rw [updI_same];omega
   ·exact Int.le_trans (ih.ed x hx') (ge _)
  ·by_cases hi2:i=e.f.toNat
   ·subst hi2;have e1:raise H' e e.f.toNat = max (H' e.f.toNat) (e.l+H' e.t.toNat):=updI_same _ _ _;rw [e1];rcases Int.le_total (H' e.f.toNat) (e.l+H' e.t.toNat) with hc|hc
    ·right
     refine ⟨e,List.mem_cons_self ..,by omega,?_⟩;rw [key e (List.mem_cons_self ..)];omega
    ·rw [Int.max_eq_left hc];rcases ih.ex _ hi with h1|⟨x,hx,h1,h2⟩
     ·exact .inl h1
     ·exact .inr ⟨x,List.mem_cons_of_mem _ hx,h1,by rw [key x (List.mem_cons_of_mem _ hx)];exact h2⟩
   ·have e1:raise H' e i=H' i:=updI_other _ _ hi2;rw [e1];rcases ih.ex _ hi with h1|⟨x,hx,h1,h2⟩
    ·exact .inl h1
    ·exact .inr ⟨x,List.mem_cons_of_mem _ hx,h1,by rw [key x (List.mem_cons_of_mem _ hx)];exact h2⟩
theorem Hts.uniq {n:Nat} {lat : Nat->Int} {es:List Ed} {H G:Nat->Int} (h:Hts n lat es H) (g:Hts n lat es G) (ho:EOk n es):∀ i,i<n->H i=G i:=by
 have main:∀ d i,i<n->n-i<=d->H i=G i:=by
  intro d
  induction d with
  | zero=>intro i hi hd;omega
  | succ d ih=>
   intro i hi hd;have hs:∀ e∈es,e.f=(i:Int)->H e.t.toNat = G e.t.toNat:=fun e he hf=>by
    have h1:=ho.ft e he;have h2:=ho.tn e he;exact ih _ (by omega) (by omega)
   refine Int.le_antisymm ?_ ?_
   ·rcases h.ex i hi with h1|⟨e,he,hf,h2⟩
    ·rw [h1];exact g.lo i hi
    ·rw [h2,hs e he hf]
     have:=g.ed e he
     rwa [show e.f.toNat = i by omega] at this
   ·rcases g.ex i hi with h1|⟨e,he,hf,h2⟩
    ·rw [h1];exact h.lo i hi
    ·rw [h2,<- hs e he hf]
     have:=h.ed e he
     rwa [show e.f.toNat = i by omega] at this
 exact fun i hi=>main _ i hi (Nat.le_refl _)
theorem Hts.le {n:Nat} {lat : Nat->Int} {es:List Ed} {H:Nat->Int} (h:Hts n lat es H) (ho:EOk n es) (hl:∀ i,i<n->1<=lat i/\lat i<=8):∀ i,i<n->1<=H i/\H i<=8*(n-i:Nat):=by
 have main:∀ d i,i<n->n-i<=d->H i<=8*(n-i:Nat):=by
  intro d
  induction d with
  | zero=>intro i hi hd;omega
  | succ d ih=>
   intro i hi hd;rcases h.ex i hi with h1|⟨e,he,hf,h2⟩
   ·have:=hl i hi;omega
   ·have h3:=ho.ft e he;have h4:=ho.tn e he;have h5:=ho.l0 e he;have h6:=ih e.t.toNat (by omega) (by omega);omega
 exact fun i hi=>⟨Int.le_trans (hl i hi).1 (h.lo i hi),main _ i hi (Nat.le_refl _)⟩
theorem Hts.bound {n:Nat} {lat : Nat->Int} {es:List Ed} {H:Nat->Int} (h:Hts n lat es H) (ho:EOk n es) (c:Nat->Int) (last:Int) (hc:∀ i,i<n->c i+lat i<=last) (he:∀ e∈es,c e.f.toNat + e.l<=c e.t.toNat):∀ i,i<n->c i+H i<=last:=by
 have main:∀ d i,i<n->n-i<=d->c i+H i<=last:=by
  intro d
  induction d with
  | zero=>intro i hi hd;omega
  | succ d ih=>
   intro i hi hd;rcases h.ex i hi with h1|⟨e,hm,hf,h2⟩
   ·have:=hc i hi;omega
   ·have h3:=ho.ft e hm;have h4:=ho.tn e hm;have h5:=he e hm;have h6:=ih e.t.toNat (by omega) (by omega);rw [show e.f.toNat = i by omega] at h5;omega
 exact fun i hi=>main _ i hi (Nat.le_refl _)
def dIn (i:Nat) (h:Nat->Int):List Ed->Int->Int
 | [],m=>m
 | e::es,m=>dIn i h es (if e.f=(i:Int) then max m (e.l+h e.t.toNat) else m)
theorem dIn_ge (i:Nat) (h:Nat->Int):∀ (es:List Ed) (m:Int),m<=dIn i h es m
 | [],m=>Int.le_refl m
 | e::es,m=>by
  refine Int.le_trans ?_ (dIn_ge i h es _)
  split <;> omega
theorem dIn_mem (i:Nat) (h:Nat->Int):∀ (es:List Ed) (m:Int),∀ e∈es,e.f=(i:Int)->e.l+h e.t.toNat<=dIn i h es m
 | [],_,e,he,_=>by cases he
 | a::es,m,e,he,hf=>by
  rcases List.mem_cons.1 he with rfl|he
  ·refine Int.le_trans ?_ (dIn_ge i h es _);rw [if_pos hf];omega
  ·exact dIn_mem i h es _ e he hf
theorem dIn_ex (i:Nat) (h:Nat->Int):∀ (es:List Ed) (m:Int),dIn i h es m=m\/∃ e∈es,e.f=(i:Int)/\dIn i h es m=e.l+h e.t.toNat
 | [],_=>.inl rfl
 | a::es,m=>by
  have ih:=dIn_ex i h es (if a.f=(i:Int) then max m (a.l+h a.t.toNat) else m);show dIn i h es _=m\/∃ e∈a::es,e.f=(i:Int)/\dIn i h es _=e.l+h e.t.toNat;rcases ih with h1|⟨e,he,hf,h1⟩
  ·rw [h1]
   split
   ·rename_i hf;rcases Int.le_total m (a.l+h a.t.toNat) with hc|hc
    ·exact .inr ⟨a,List.mem_cons_self ..,hf,by omega⟩
    ·exact .inl (by omega)
   ·exact .inl rfl
  ·exact .inr ⟨e,List.mem_cons_of_mem _ he,hf,h1⟩
theorem dIn_take (i:Nat) (h:Nat->Int) (m:Int):∀ (es:List Ed) (k:Nat) (hk:k<es.length),dIn i h (es.take (k+1)) m=if es[k].f=(i:Int) then max (dIn i h (es.take k) m) (es[k].l+h es[k].t.toNat) else dIn i h (es.take k) m:=by
 intro es
 induction es generalizing m with
 | nil=>intro k hk;simp at hk
 | cons a es ih=>
  intro k hk
  cases k with
  | zero=>simp [dIn]
  | succ k=>
   simp only [List.take_succ_cons,dIn,List.getElem_cons_succ];exact ih _ k (by simpa using hk)
def dh (lat : Nat->Int) (es:List Ed) (n:Nat):Nat->Nat->Int
 | 0=>fun _=>0
 | k+1=>updI (dh lat es n k) (n-1-k) (dIn (n-1-k) (dh lat es n k) es (lat (n-1-k)))
structure Dpt (n j:Nat) (lat : Nat->Int) (es:List Ed) (D:Nat->Int):Prop where
 lo:∀ i,j<=i->i<n->lat i<=D i
 ed:∀ e∈es,(j:Int)<=e.f->e.l+D e.t.toNat<=D e.f.toNat
 ex:∀ i,j<=i->i<n->D i=lat i\/∃ e∈es,e.f=(i:Int)/\D i=e.l+D e.t.toNat
theorem dh_is {n:Nat} {lat : Nat->Int} {es:List Ed} (ho:EOk n es):∀ k,k<=n->Dpt n (n-k) lat es (dh lat es n k)
 | 0,_=>⟨fun i h1 h2=>by omega,fun e he h1=>by have:=ho.ft e he;have:=ho.tn e he;omega,fun i h1 h2=>by omega⟩
 | k+1,hk=>by
  have ih:=dh_is (lat:=lat) ho k (by omega);have e0:dh lat es n (k+1)=updI (dh lat es n k) (n-1-k) (dIn (n-1-k) (dh lat es n k) es (lat (n-1-k))):=rfl;rw [e0];generalize dh lat es n k=D at *;obtain ⟨j,hj⟩:∃ j,n-1-k=j:=⟨_,rfl⟩;have hj1:n-k=j+1:=by omega
  have hj2:n-(k+1)=j:=by omega
  rw [hj,hj2];rw [hj1] at ih;have kt:∀ e∈es,(j:Int)<=e.f->∀ v,updI D j v e.t.toNat = D e.t.toNat:=fun e he hf v=>updI_other _ _ (by have:=ho.ft e he;omega);refine ⟨fun i h1 h2=>?_,fun e he hf=>?_,fun i h1 h2=>?_⟩
  ·by_cases hi:i=j
   ·subst hi;rw [updI_same];exact dIn_ge _ _ _ _
   ·rw [updI_other _ _ hi];exact ih.lo i (by omega) h2
  ·rw [kt e he hf]
   by_cases hi:e.f.toNat = j
   ·rw [hi,updI_same];exact dIn_mem _ _ _ _ e he (by omega)
   ·rw [updI_other _ _ hi];exact ih.ed e he (by omega)
  ·by_cases hi:i=j
   ·subst hi;rw [updI_same];rcases dIn_ex i D es (lat i) with h3|⟨e,he,hf,h3⟩
    ·exact .inl h3
    ·exact .inr ⟨e,he,hf,by rw [kt e he (by omega)];exact h3⟩
   ·rw [updI_other _ _ hi];rcases ih.ex i (by omega) h2 with h3|⟨e,he,hf,h3⟩
    ·exact .inl h3
    ·exact .inr ⟨e,he,hf,by rw [kt e he (by omega)];exact h3⟩
theorem dh_eq {n:Nat} {lat : Nat->Int} {es:List Ed} (ho:EOk n es):∀ i,i<n->dh lat es n n i=hts lat es i:=by
 have h:=dh_is (lat:=lat) ho n (Nat.le_refl _);rw [Nat.sub_self] at h;exact Hts.uniq ⟨fun i hi=>h.lo i (Nat.zero_le _) hi,fun e he=>h.ed e he (by have:=ho.f0 e he;omega),fun i hi=>h.ex i (Nat.zero_le _) hi⟩ (hts_is ho) ho
theorem dh_le {n:Nat} {lat : Nat->Int} {es:List Ed} (ho:EOk n es) (hl:∀ i,i<n->1<=lat i/\lat i<=8) {k:Nat} (hk:k<=n):∀ i,n-k<=i->i<n->1<=dh lat es n k i/\dh lat es n k i<=8*(n-i:Nat):=by
 have h:=dh_is (lat:=lat) ho k hk;have main:∀ d i,n-k<=i->i<n->n-i<=d->dh lat es n k i<=8*(n-i:Nat):=by
  intro d
  induction d with
  | zero=>intro i h0 hi hd;omega
  | succ d ih=>
   intro i h0 hi hd;rcases h.ex i h0 hi with h1|⟨e,he,hf,h2⟩
   ·have:=hl i hi;omega
   ·have h3:=ho.ft e he;have h4:=ho.tn e he;have h5:=ho.l0 e he;have h6:=ih e.t.toNat (by omega) (by omega) (by omega);omega
 exact fun i h0 hi=>⟨Int.le_trans (hl i hi).1 (h.lo i h0 hi),main _ i h0 hi (Nat.le_refl _)⟩
def Ahd (H:Nat->Int) (i j:Int):Prop:=H j.toNat<H i.toNat\/H i.toNat = H j.toNat/\i<j
theorem pw_uniq {R:Int->Int->Prop} (ha:∀ x y,R x y->¬ R y x):∀ (l m:List Int),l.Pairwise R->m.Pairwise R->(∀ x,x∈l↔x∈m)->l=m
 | [],[],_,_,_=>rfl
 | [],b::m,_,_,h=>by have:=(h b).2 (List.mem_cons_self ..);cases this
 | a::l,[],_,_,h=>by have:=(h a).1 (List.mem_cons_self ..);cases this
 | a::l,b::m,h1,h2,h=>by
  have p1:=List.pairwise_cons.1 h1;have p2:=List.pairwise_cons.1 h2;have e:a=b:=by
   rcases List.mem_cons.1 ((h a).1 (List.mem_cons_self ..)) with e|e
   ·exact e
   ·rcases List.mem_cons.1 ((h b).2 (List.mem_cons_self ..)) with e' | e'
    ·exact e'.symm
    ·exact absurd (p1.1 b e') (ha _ _ (p2.1 a e))
  subst e;rw [pw_uniq ha l m p1.2 p2.2 fun x=>?_];constructor
  ·intro hx;rcases List.mem_cons.1 ((h x).1 (List.mem_cons_of_mem _ hx)) with e|e
   ·subst e;exact absurd (p1.1 x hx) (ha _ _ (p1.1 x hx))
   ·exact e
  ·intro hx;rcases List.mem_cons.1 ((h x).2 (List.mem_cons_of_mem _ hx)) with e|e
   ·subst e;exact absurd (p2.1 x hx) (ha _ _ (p2.1 x hx))
   ·exact e
theorem ahd_asym (H:Nat->Int) (x y:Int) (h:Ahd H x y):¬ Ahd H y x:=by unfold Ahd at *;omega
def lev (H:Nat->Int) (x:Int):Nat->List Int
 | 0=>[]
 | k+1=>lev H x k++(if H k=x then [(k:Int)] else [])
theorem lev_mem (H:Nat->Int) (x:Int):∀ (n:Nat) (i:Int),i∈lev H x n↔∃ k:Nat,k<n/\i=k/\H k=x
 | 0,i=>by simp [lev]
 | n+1,i=>by
  unfold lev;rw [List.mem_append,lev_mem H x n i];constructor
  ·rintro (⟨k,h1,h2⟩|h)
   ·exact ⟨k,by omega,h2⟩
   ·split at h
    ·exact ⟨n,by omega,by simpa using h,by assumption⟩
    ·cases h
  ·rintro ⟨k,h1,h2,h3⟩
   by_cases e:k=n
   ·subst e;right;rw [if_pos h3];simpa using h2
   ·exact .inl ⟨k,by omega,h2,h3⟩
theorem lev_pw (H:Nat->Int) (x:Int):∀ n,(lev H x n).Pairwise (Ahd H)
 | 0=>List.Pairwise.nil
 | n+1=>by
  unfold lev;refine List.pairwise_append.2 ⟨lev_pw H x n,by split <;> simp,fun a ha b hb=>?_⟩;obtain ⟨k,h1,rfl,h2⟩:=(lev_mem H x n a).1 ha
  split at hb
  ·rename_i hx;obtain rfl:b=n:=by simpa using hb
   right
   refine ⟨?_,by omega⟩;show H (k:Int).toNat = H (n:Int).toNat;simp only [Int.toNat_natCast];omega
  ·cases hb
def dOrd (H:Nat->Int) (n:Nat) (most:Int):Nat->List Int
 | 0=>[]
 | k+1=>dOrd H n most k++lev H (most-k) n
theorem dOrd_mem (H:Nat->Int) (n:Nat) (most:Int):∀ (k:Nat) (i:Int),i∈dOrd H n most k↔∃ j:Nat,j<n/\i=j/\most-k<H j/\H j<=most
 | 0,i=>by
  constructor
  ·intro h;cases h
  ·rintro ⟨j,h1,h2,h3,h4⟩;omega
 | k+1,i=>by
  unfold dOrd;rw [List.mem_append,dOrd_mem H n most k i,lev_mem];constructor
  ·rintro (⟨j,h1,h2,h3,h4⟩|⟨j,h1,h2,h3⟩)
   ·exact ⟨j,h1,h2,by omega,h4⟩
   ·exact ⟨j,h1,h2,by omega,by omega⟩
  ·rintro ⟨j,h1,h2,h3,h4⟩
   by_cases e:H j=most-k
   ·exact .inr ⟨j,h1,h2,e⟩
   ·exact .inl ⟨j,h1,h2,by omega,h4⟩
theorem dOrd_pw (H:Nat->Int) (n:Nat) (most:Int):∀ k,(dOrd H n most k).Pairwise (Ahd H)
 | 0=>List.Pairwise.nil
 | k+1=>by
  unfold dOrd;refine List.pairwise_append.2 ⟨dOrd_pw H n most k,lev_pw H _ n,fun a ha b hb=>?_⟩;obtain ⟨i,-,rfl,h1,-⟩:=(dOrd_mem H n most k a).1 ha;obtain ⟨j,-,rfl,h2⟩:=(lev_mem H _ n b).1 hb
  left
  show H (j:Int).toNat<H (i:Int).toNat;simp only [Int.toNat_natCast];omega
theorem edL_mem {e x:Ed} {rs:List Rw} (h:x∈edL e rs):x.f=e.f/\x.t=e.t/\∃ r∈rs,x.l=r.l:=by
 unfold edL at h;obtain ⟨r,hr,hx⟩:=List.mem_flatMap.1 h
 split at hx
 ·rw [List.mem_singleton.1 hx];exact ⟨rfl,rfl,r,hr,rfl⟩
 ·cases hx
theorem rows_lat {a b:Pt} (ha:1<=a.l/\a.l<=8) (hb:1<=b.l/\b.l<=8) (lr i:Int) (m:Bool):∀ r∈rowsP a b lr i m,0<=r.l/\r.l<=8:=fun r hr=>by
 simp only [rowsP,List.mem_cons,List.not_mem_nil,or_false] at hr;rcases hr with rfl|rfl|rfl|rfl|rfl
 ·exact ⟨by show 0<=a.l;omega,ha.2⟩
 ·exact ⟨by show (0:Int)<=0;omega,by show (0:Int)<=8;omega⟩
 ·exact ⟨by show 0<=max 0 (a.l-b.l+1);omega,by show max 0 (a.l-b.l+1)<=8;omega⟩
 ·show 0<=memL a b/\memL a b<=8;unfold memL
  split
  ·omega
  ·split <;> omega
 ·exact ⟨by show (0:Int)<=1;omega,by show (1:Int)<=8;omega⟩
theorem pairE_mem {ps:List Pt} (hp:PtsOk ps) {L:Nat->Int} {d:Int} {m:Bool} {i j:Nat} (hi:i<ps.length) (hj:j<ps.length) {x:Ed} (h:x∈pairE ps L d m i j):x.f=(i:Int)/\x.t=(j:Int)/\0<=x.l/\x.l<=8:=by
 obtain ⟨h1,h2,r,hr,h3⟩:=edL_mem h;rw [pAt_at hi,pAt_at hj] at hr
 have:=rows_lat (hp _ (List.getElem_mem hi)).2 (hp _ (List.getElem_mem hj)).2 _ _ _ r hr
 exact ⟨h1,h2,by omega,by omega⟩
theorem cat_up {F:Nat->List Ed} : ∀ {n:Nat},(∀ k,k<n->∀ x∈F k,x.t=(k:Int))->(cat F n).Pairwise fun a b=>a.t<=b.t
 | 0,_=>List.Pairwise.nil
 | n+1,h=>by
  unfold cat;refine List.pairwise_append.2 ⟨cat_up fun k hk=>h k (by omega),?_,fun a ha b hb=>?_⟩
  ·have hn:=h n (by omega);exact List.Pairwise.imp_of_mem (fun {a b} ha hb _=>by rw [hn a ha,hn b hb];exact Int.le_refl _) (List.pairwise_of_forall (l:=F n) (R:=fun _ _=>True) fun _ _=>trivial)
  ·obtain ⟨k,hk,ha⟩:=cat_mem.1 ha;rw [h k (by omega) a ha,h n (by omega) b hb];omega
theorem row_t {xs:List O} {ps:List Pt} (hp:PtsOk ps) {j:Nat} (hj:j<ps.length) {n:Nat} (hn:n<=ps.length) {x:Ed} (h:x∈rowW xs ps j n):∃ i:Nat,i<n/\x.f=(i:Int)/\x.t=(j:Int)/\0<=x.l/\x.l<=8:=by
 obtain ⟨i,hi,hx⟩:=cat_mem.1 h;exact ⟨i,hi,pairE_mem hp (by omega) hj hx⟩
theorem ofE_ok (t:Tab) (xs:List O) (hp:PtsOk (ptsL t xs)):EOk xs.length (ofE t xs):=by
 have hl:=ptsL_len t xs;have key:∀ x∈ofE t xs,∃ i j:Nat,i<j/\j<xs.length/\x.f=(i:Int)/\x.t=(j:Int)/\0<=x.l/\x.l<=8:=fun x hx=>by
  obtain ⟨j,hj,hx⟩:=cat_mem.1 hx;obtain ⟨i,hi,h1⟩:=row_t hp (by rw [hl];exact hj) (by rw [hl];omega) hx;exact ⟨i,j,hi,hj,h1⟩
 refine ⟨fun x hx=>?_,fun x hx=>?_,fun x hx=>?_,fun x hx=>?_,?_⟩
 ·obtain ⟨i,j,h1,h2,h3,h4,h5⟩:=key x hx;omega
 ·obtain ⟨i,j,h1,h2,h3,h4,h5⟩:=key x hx;omega
 ·obtain ⟨i,j,h1,h2,h3,h4,h5⟩:=key x hx;omega
 ·obtain ⟨i,j,h1,h2,h3,h4,h5⟩:=key x hx;exact h5
 ·exact cat_up fun k hk x hx=>by
   obtain ⟨i,hi,h1,h2,h3⟩:=row_t hp (by rw [hl];exact hk) (by rw [hl];omega) hx;exact h2
def latV (t:Tab) (d:Int):Int:=t.l (if 15<=d then 2 else if 12<=d then 1 else 0)
def latN (t:Tab) (xs:List O) (i:Nat):Int:=match xs[i]? with|some o=>latV t o.op|none=>1
theorem latN_at (t:Tab) {xs:List O} {i:Nat} (h:i<xs.length):latN t xs i=latV t xs[i].op:=by unfold latN;rw [List.getElem?_eq_getElem h]
theorem latV_in {t:Tab} (ht:t.ok=true) (d:Int):1<=latV t d/\latV t d<=8:=by
 unfold latV;refine Tb.inB_iff ((Tb.ok_parts ht).2 _ ?_).2.1
 split
 ·omega
 ·split <;> omega
theorem cls_all17:∀ n:Nat,1<=n->n<=17->∀ k,kindL[n]?=some k->k.cls=(if 15<=n then 2 else if 12<=n then 1 else 0)
 | 1,_,_,k,h=>by cases h;rfl
 | 2,_,_,k,h=>by cases h;rfl
 | 3,_,_,k,h=>by cases h;rfl
 | 4,_,_,k,h=>by cases h;rfl
 | 5,_,_,k,h=>by cases h;rfl
 | 6,_,_,k,h=>by cases h;rfl
 | 7,_,_,k,h=>by cases h;rfl
 | 8,_,_,k,h=>by cases h;rfl
 | 9,_,_,k,h=>by cases h;rfl
 | 10,_,_,k,h=>by cases h;rfl
 | 11,_,_,k,h=>by cases h;rfl
 | 12,_,_,k,h=>by cases h;rfl
 | 13,_,_,k,h=>by cases h;rfl
 | 14,_,_,k,h=>by cases h;rfl
 | 15,_,_,k,h=>by cases h;rfl
 | 16,_,_,k,h=>by cases h;rfl
 | 17,_,_,k,h=>by cases h;rfl
 | 0,h,_,_,_=>by omega
 | _+18,_,h,_,_=>by omega
theorem latV_class (t:Tab) {o:O} (h:okL o=true):latV t o.op=t.l (clV o.op).toNat:=by
 simp only [okL,Bool.and_eq_true,decide_eq_true_eq] at h;obtain ⟨⟨h1,h2⟩,h3⟩:=h;obtain ⟨n,hn⟩:∃ n:Nat,o.op=n:=⟨o.op.toNat,by omega⟩;unfold latV clV
 cases hk:kOf o.op with
 | none=>rw [okO_none hk] at h3;cases h3
 | some k=>
  have hk2:=hk;unfold kOf at hk2;rw [if_pos (by omega),hn,Int.toNat_natCast] at hk2;have hc:=cls_all17 n (by omega) (by omega) k hk2;show t.l _=t.l (if k.cls == -1 then (0:Int) else k.cls).toNat
  congr 1
  rw [hc,hn]
  by_cases c1:15<=n
  ·rw [if_pos c1,if_pos (by omega)];rfl
  ·rw [if_neg c1,if_neg (by omega)]
   by_cases c2:12<=n
   ·rw [if_pos c2,if_pos (by omega)];rfl
   ·rw [if_neg c2,if_neg (by omega)];rfl
theorem loop_any (ao:Option Addr) (cap:Nat) (xs:List O) (t:Tab) (w:World) (h:OpsAt w ao xs) (hcap:xs.length<=cap) (hG:Bnds w) :
  Calls Tryz.prog 12 #[.slice ao xs.length cap,t.val] w (EdOut w (lisE t xs) (erE t xs (loopE t xs))):=by
 have HC:Hid (∀ W,Below w.heap.size w W->Calls Tryz.prog 33 #[.slice ao xs.length cap,t.val] W fun e w'=>e=.returned (.int .i64 (lisE t xs))/\Below W.heap.size W w'):=fun W hb=>lis_any ao cap xs t W (hG.below hb hG.big) (h.below hb);unfold erE
 by_cases he:lisE t xs=0
 ·rw [if_pos he];obtain ⟨ht,hn,hok⟩:=lis_all he;have hpt:=pts_ok t xs (fun o ho=>⟨h.ok o ho,okL_okO (hok o ho)⟩) ht;have HN:Hid (∀ W,Below w.heap.size w W->Calls Tryz.prog 34 #[.slice ao xs.length cap,t.val] W fun e w'=>e=.returned (.pointer (some ⟨W.heap.size+1,0,none⟩))/\Fm W w' ao xs.length cap (ptsL t xs) (.slice none 0 0) []):=fun W hb=>(new_any ao cap xs t W (h.below hb) (fun o ho=>okL_okO (hok o ho)) hn).mono fun e w' h'=>by
   obtain ⟨h1,vp,h2⟩:=h';exact ⟨h1,fm_of h2⟩
  have HWi:Hid (∀ W0 W ve es,Below w.heap.size w W0->Fm W0 W ao xs.length cap (ptsL t xs) ve es->es.length<=100000000->Calls Tryz.prog 35 #[.pointer (some ⟨W0.heap.size+1,0,none⟩)] W fun r w'=>r=.returned (.tuple #[])/\∃ ve',Fm W0 w' ao xs.length cap (ptsL t xs) ve' (es++withinE xs (ptsL t xs) xs.length)):=fun W0 W ve es hb hf hl=>fm_within hf (h.below hb) hcap (ptsL_len t xs) hn hpt hl;have HAc:Hid (∀ W0 W ve es,Below w.heap.size w W0->Fm W0 W ao xs.length cap (ptsL t xs) ve es->es.length<=100000000->Calls Tryz.prog 36 #[.pointer (some ⟨W0.heap.size+1,0,none⟩)] W fun r w'=>r=.returned (.tuple #[])/\∃ ve',Fm W0 w' ao xs.length cap (ptsL t xs) ve' (es++acrossE xs (ptsL t xs) xs.length)):=fun W0 W ve es hb hf hl=>fm_across hf (h.below hb) (ptsL_len t xs) hn hpt hl;have HWl:Hid ((withinE xs (ptsL t xs) xs.length).length<=100000000):=Nat.le_trans (withinE_len _ _ _ hn) (by omega);rw [he] at HC ⊢;clear h hcap hG hok hpt ht he;unfold loopE;generalize ptsL t xs=ps at *;unfold Tab.val at *;go_enter Tryz.func12,Tryz.ntmps12;go_wp2_with (first
   | (go_at_call 33;refine Calls.mono (HC.out _ (by go_grown)) ?_;rintro e w1 ⟨rfl,hb⟩;have HT:Hid (Tc w w1 t):=Tc.start w t rfl hb;have s1:=HT.out.t;have tu0:=s1.cu 0 (by decide);have tu1:=s1.cu 1 (by decide);have tu2:=s1.cu 2 (by decide);have tu3:=s1.cu 3 (by decide);have tl0:=s1.cl 0 (by decide);have tl1:=s1.cl 1 (by decide);have tl2:=s1.cl 2 (by decide);have tl3:=s1.cl 3 (by decide);have tb0:=s1.cb 0 (by decide);have tb1:=s1.cb 1 (by decide);have tb2:=s1.cb 2 (by decide);have tb3:=s1.cb 3 (by decide);have td:=s1.cd;have tl:=s1.lt;clear hb s1 HC)
   | (go_at_call 34;refine Calls.mono (HN.out _ HT.out.up) ?_;rintro e w2 ⟨rfl,hf⟩;have HF:Hid (Fm w1 w2 ao xs.length cap ps (.slice none 0 0) []):=hf;clear hf HN tu0 tu1 tu2 tu3 tl0 tl1 tl2 tl3 tb0 tb1 tb2 tb3 td tl)
   | (go_at_call 35;refine Calls.mono (HWi.out w1 _ _ _ HT.out.up HF.out (by simp)) ?_;rintro e w3 ⟨rfl,ve,hf⟩;have HF4:Hid (Fm w1 w3 ao xs.length cap ps ve (withinE xs ps xs.length)):=hf;clear hf HF HWi)
   | (go_at_call 36;refine Calls.mono (HAc.out w1 _ _ _ HT.out.up HF4.out HWl.out) ?_;rintro e w4 ⟨rfl,ve2,hf⟩;have HF3:Hid (Fm w1 w4 ao xs.length cap ps ve2 (withinE xs ps xs.length++acrossE xs ps xs.length)):=hf;have c2:=hf.fe.c;have fl:=hf.fe.lt;clear hf HF4 HAc))
  go_ret2
  obtain ⟨a,c,e,ho⟩:=eOwn_of HF3.out.fe.row (B':=w.heap.size) (by have:=HT.out.up.size;omega);exact ⟨a,c,by rw [e];rfl,ho,HT.out.up.trans (HF3.out.up.mono HT.out.up.size)⟩
 ·rw [if_neg he];have he2:(lisE t xs != 0)=true:=by simpa using he
  generalize lisE t xs=er at *;clear h hcap hG;unfold Tab.val at *;go_enter Tryz.func12,Tryz.ntmps12;go_wp2_with (first
   | (go_at_call 33;refine Calls.mono (HC.out _ (by go_grown)) ?_;rintro e w1 ⟨rfl,hb⟩;have HT:Hid (Tc w w1 t):=Tc.start w t rfl hb;clear hb HC))
  go_ret2
  exact ⟨none,0,rfl,World.ownsRow_nil _ _ _ _,HT.out.up⟩
theorem eOwn_at {B c:Nat} {w:World} {a:Option Addr} {es:List Ed} (h:EOwn B w a c es) {k:Nat} (hk:k<es.length) :
  ∃ b,a=some ⟨b,0,none⟩/\b<w.heap.size/\B<=b/\w.cell? ⟨b,k*5,none⟩=some (.int .i64 es[k].f)/\w.cell? ⟨b,k*5+1,none⟩=some (.int .i64 es[k].t)/\w.cell? ⟨b,k*5+2,none⟩=some (.int .i64 es[k].l)/\w.cell? ⟨b,k*5+3,none⟩=some (.int .i64 es[k].d)/\w.cell? ⟨b,k*5+4,none⟩=some (.int .i8 es[k].y):=by
 have h0:w.ownsRow B 47 5 (.slice a es.length c) es.length (ecells es):=h;rcases h0.2 with ⟨-,e⟩|⟨b,cap,cur,e,g1,-⟩
 ·omega
 ·injection e with e1 e2 e3
  subst e1;have hb:=(h0.lt b rfl).2;have k5:∀ j,j<5->w.cell? ⟨b,k*5+j,none⟩=es[k].cells[j]?:=fun j hj=>by
   rw [h0.cellAt _ (by
    have:k*5+j<(k+1)*5:=by omega
    exact Nat.lt_of_lt_of_le this (Nat.mul_le_mul_right 5 hk)),ecells_at es k hk j hj]
  exact ⟨b,rfl,hb,g1,k5 0 (by omega),k5 1 (by omega),k5 2 (by omega),k5 3 (by omega),k5 4 (by omega)⟩
theorem EOwn.up {B c:Nat} {w w':World} {a:Option Addr} {es:List Ed} (h:EOwn B w a c es) (hb:Below w.heap.size w w'):EOwn B w' a c es:=row_up h hb
end Go.Proofs.YtiejdpjgplikjaaGreatDoor.Dp
