/- Parts QCp QCm QRw QCw. -/
import Derived.Test.YtcmlnemokckbdaaGreatDoorN24
import Derived.Deep.AppendLies
import Derived.OwnWalk
set_option maxRecDepth 20000
set_option maxHeartbeats 1000000
namespace Go.Proofs.YtcmlnemokckbdaaGreatDoor.L8.Op
open Go.ChangeShapes Go.WideShapes Go.ChangeAt Go.RowKit
theorem info60:(Tryz.prog.info? 60).map (fun i=>(i.zero,i.size,i.bytes))=some (some (.agg #[.int .i8 0,.int .u8 0,.int .u8 0,.int .u8 0,.int .i64 0]),5,16):=by kernel_rfl
theorem info25:(Tryz.prog.info? 25).map (fun i=>(i.zero,i.size,i.bytes))=some (some (.agg #[.slice none 0 0,.int .i8 0,.int .u8 0,.slice none 0 0,.int .i64 0,.int .i64 0]),6,72):=by kernel_rfl
theorem add_at (b f j:Nat):(⟨b,f,none⟩:Addr).add j=⟨b,f+j,none⟩:=by simp [Addr.add]
def ocells (xs:List O):List Value:=xs.flatMap fun o=>[.int .i8 o.op,.int .u8 o.d,.int .u8 o.a,.int .u8 o.b,.int .i64 o.im]
theorem ocells_len (xs:List O):(ocells xs).length=xs.length*5:=by
 induction xs with
 | nil=>rfl
 | cons o r ih=>unfold ocells at ih ⊢;rw [List.flatMap_cons,List.length_append,ih];simp;omega
theorem ocells_cons (o:O) (r:List O):ocells (o::r)=.int .i8 o.op :: .int .u8 o.d :: .int .u8 o.a :: .int .u8 o.b :: .int .i64 o.im::ocells r:=rfl
theorem ocells_get (xs:List O):∀ (i:Nat) (h:i<xs.length),(ocells xs)[i*5]?=some (.int .i8 xs[i].op)/\(ocells xs)[i*5+1]?=some (.int .u8 xs[i].d)/\(ocells xs)[i*5+2]?=some (.int .u8 xs[i].a)/\(ocells xs)[i*5+3]?=some (.int .u8 xs[i].b)/\(ocells xs)[i*5+4]?=some (.int .i64 xs[i].im):=by
 induction xs with
 | nil=>intro i h;simp at h
 | cons o r ih=>
  intro i h;rw [ocells_cons]
  cases i with
  | zero=>exact ⟨rfl,rfl,rfl,rfl,rfl⟩
  | succ i=>
   have:=ih i (by simpa using h)
   rw [show (i+1)*5=i*5+1+1+1+1+1 by omega];simpa using this
theorem ocells_one (xs:List O):∀ u,u∈ocells xs->u.oneCell'=true:=by
 intro u hu;obtain ⟨o,_,h⟩:=List.mem_flatMap.1 hu;simp at h
 rcases h with rfl|rfl|rfl|rfl|rfl <;> rfl
theorem ocells_at {w:World} {b f:Nat} (xs:List O) (h:∀ (i:Nat) (h:i<xs.length),OAt w b (f+i*5) xs[i]):∀ j u,(ocells xs)[j]?=some u->w.cell? ((⟨b,f,none⟩:Addr).add j)=some u:=by
 intro j u hu;have hj:j<(ocells xs).length:=by
  rcases Nat.lt_or_ge j (ocells xs).length with h' | h'
  ·exact h'
  ·rw [List.getElem?_eq_none h'] at hu;cases hu
 rw [ocells_len] at hj;have hi:j / 5<xs.length:=by omega
 obtain ⟨c0,c1,c2,c3,c4⟩:=h (j / 5) hi;obtain ⟨g0,g1,g2,g3,g4⟩:=ocells_get xs (j / 5) hi;have hq:j=j / 5*5+j%5:=by omega
 have hm:j%5=0\/j%5=1\/j%5=2\/j%5=3\/j%5=4:=by omega
 rw [add_at];generalize j / 5=q at *;rcases hm with hm|hm|hm|hm|hm
 ·obtain rfl:j=q*5:=by omega
  rw [g0] at hu;rw [<- hu];exact c0
 ·obtain rfl:j=q*5+1:=by omega
  rw [g1] at hu;rw [<- hu,<- Nat.add_assoc];exact c1
 ·obtain rfl:j=q*5+2:=by omega
  rw [g2] at hu;rw [<- hu,<- Nat.add_assoc];exact c2
 ·obtain rfl:j=q*5+3:=by omega
  rw [g3] at hu;rw [<- hu,<- Nat.add_assoc];exact c3
 ·obtain rfl:j=q*5+4:=by omega
  rw [g4] at hu;rw [<- hu,<- Nat.add_assoc];exact c4
theorem opsAt_row {w:World} {B c:Nat} {a:Option Addr} {xs:List O} (h:w.ownsRow B 60 5 (.slice a xs.length c) xs.length (ocells xs)) (hok:∀ o,o∈xs->o.Ok) (hl:xs.length<=8192):OpsAt w a xs:=by
 refine ⟨hok,by omega,fun h0=>?_⟩;rcases h.2 with ⟨_,h1⟩|⟨g,cap,cur,h1,h2,h3,h4⟩
 ·omega
 ·injection h1 with e1 e2 e3
  subst e1;have hc:=h.cells (g:=g) rfl;refine ⟨g,0,rfl,(h.lt g rfl).2,fun i hi=>?_⟩;obtain ⟨g0,g1,g2,g3,g4⟩:=ocells_get xs i hi;have k:∀ j u,(ocells xs)[j]?=some u->w.cell? ⟨g,0+j,none⟩=some u:=fun j u hj=>by have:=hc j u hj;rw [add_at] at this;exact this
  exact ⟨k _ _ g0,k _ _ g1,k _ _ g2,k _ _ g3,k _ _ g4⟩
theorem grown_below {w w':World} {row:Option Nat} (h:w.grownBy w' row) (hr:∀ b,row=some b->w.heap.size<=b):Below w.heap.size w w':=
 ⟨h.os,h.tape,h.output,h.size,fun k hk=>h.block k hk fun e=>by have:=hr k e.symm;omega⟩
structure Mk (w w1:World) (n:Nat):Prop where
 own:w1.ownsRow w.heap.size 60 5 (.slice (some ⟨w.heap.size,0,none⟩) 0 (n+1)) 0 []
 grown:w.grownBy w1 none
theorem copiedOps_some (a:Addr) (cap:Nat) (xs:List O) (w:World) (hl:xs.length<=8192) (hn:∀ j u,(ocells xs)[j]?=some u->w.cell? (a.add j)=some u) :
  Calls Tryz.prog 7 #[.slice (some a) xs.length cap] w fun e w'=>∃ a c,e=.returned (.slice a xs.length c)/\w'.ownsRow w.heap.size 60 5 (.slice a xs.length c) xs.length (ocells xs)/\Below w.heap.size w w':=by
 obtain ⟨i0,hi,hi2⟩:=Option.map_eq_some_iff.1 info60;simp only [Prod.mk.injEq] at hi2;obtain ⟨hz0,hz1,hz2⟩:=hi2;have HI:Hid (Tryz.prog.info? 60=some i0/\i0.zero=some (.agg #[.int .i8 0,.int .u8 0,.int .u8 0,.int .u8 0,.int .i64 0])/\i0.size=5/\i0.bytes=16):=⟨hi,hz0,hz1,hz2⟩;clear hi hz0 hz1 hz2;have HN:Hid _:=hn;clear hn;have hlz:(xs.length:Int)<=8192:=by omega
 go_enter Tryz.func7,Tryz.ntmps7;go_wp2_with (first
  | (at_make;refine wpList_make_own _ rfl _ _ 22 rfl w.heap.size 60 i0 (.agg #[.int .i8 0,.int .u8 0,.int .u8 0,.int .u8 0,.int .i64 0]) 5 Tryz.underlying22 HI.out.1 HI.out.2.1 HI.out.2.2.1 .i64 .i64 _ (xs.length+1) rfl rfl (by omega) (by rw [HI.out.2.2.2];omega) (by unfold maxLen;omega) (Nat.le_refl _) ?_;intro w1 hown1 hgrow1;have HM:Hid (Mk w w1 xs.length):=⟨hown1,hgrow1⟩;clear hgrow1 hown1)
  | (at_builtin;refine wpList_append_own _ rfl (.tmp 8) (.tmp 9) 22 rfl w.heap.size 60 i0 (.agg #[.int .i8 0,.int .u8 0,.int .u8 0,.int .u8 0,.int .i64 0]) 5 16 Tryz.underlying22 HI.out.1 HI.out.2.1 HI.out.2.2.1 HI.out.2.2.2 rfl (by decide) _ _ _ rfl HM.out.own a xs.length cap (ocells xs) rfl (ocells_len xs) (fun j u hj=>HM.out.grown.cell (HN.out j u hj) (by simp)) (ocells_one xs) (by unfold maxLen;omega) (by omega) (by have:=HM.out.grown.size;omega) ?_;intro v' w2 hown2 hgrow2 hnil;have HF:Hid (w2.ownsRow w.heap.size 60 5 v' xs.length (ocells xs)/\w1.grownBy w2 (some w.heap.size)):=⟨by have:=hown2;simp only [Nat.zero_add,List.nil_append] at this;exact this,hgrow2⟩;clear hown2 hgrow2 hnil))
 go_ret
 obtain ⟨h1,h2⟩:=HF.out;have hb:Below w.heap.size w w2:=(grown_below HM.out.grown (fun b hb=>by cases hb)).grown h2 HM.out.grown.size (fun b hb=>by cases hb;exact Nat.le_refl _);rcases h1.2 with ⟨rfl,h0⟩|⟨g,c,cur,rfl,_⟩
 ·exact ⟨none,0,by rw [h0];rfl,by rw [h0] at h1 ⊢;exact h1,hb⟩
 ·exact ⟨_,_,rfl,h1,hb⟩
theorem copiedOps_none (cap:Nat) (w:World) :
  Calls Tryz.prog 7 #[.slice none 0 cap] w fun e w'=>∃ a c,e=.returned (.slice a 0 c)/\w'.ownsRow w.heap.size 60 5 (.slice a 0 c) 0 []/\Below w.heap.size w w':=by
 obtain ⟨i0,hi,hi2⟩:=Option.map_eq_some_iff.1 info60;simp only [Prod.mk.injEq] at hi2;obtain ⟨hz0,hz1,hz2⟩:=hi2;have HI:Hid (Tryz.prog.info? 60=some i0/\i0.zero=some (.agg #[.int .i8 0,.int .u8 0,.int .u8 0,.int .u8 0,.int .i64 0])/\i0.size=5/\i0.bytes=16):=⟨hi,hz0,hz1,hz2⟩;clear hi hz0 hz1 hz2;go_enter Tryz.func7,Tryz.ntmps7;go_wp2_with (first
  | (at_make;refine wpList_make_own _ rfl _ _ 22 rfl w.heap.size 60 i0 (.agg #[.int .i8 0,.int .u8 0,.int .u8 0,.int .u8 0,.int .i64 0]) 5 Tryz.underlying22 HI.out.1 HI.out.2.1 HI.out.2.2.1 .i64 .i64 _ 1 rfl rfl (by omega) (by rw [HI.out.2.2.2];omega) (by unfold maxLen;omega) (Nat.le_refl _) ?_;intro w1 hown1 hgrow1;have HM:Hid (Mk w w1 0):=⟨hown1,hgrow1⟩;clear hgrow1 hown1))
 go_ret
 exact ⟨_,_,rfl,HM.out.own,grown_below HM.out.grown (fun b hb=>by cases hb)⟩
theorem copiedOps_any (ao:Option Addr) (cap:Nat) (xs:List O) (w:World) (h:OpsAt w ao xs) (hl:xs.length<=8192) :
  Calls Tryz.prog 7 #[.slice ao xs.length cap] w fun e w'=>∃ a c,e=.returned (.slice a xs.length c)/\w'.ownsRow w.heap.size 60 5 (.slice a xs.length c) xs.length (ocells xs)/\Below w.heap.size w w':=by
 rcases Nat.eq_zero_or_pos xs.length with h0|h0
 ·obtain rfl:xs=[]:=List.eq_nil_of_length_eq_zero h0
  cases ao with
  | none=>exact copiedOps_none cap w
  | some a=>exact copiedOps_some a cap [] w hl fun j u hu=>by simp [ocells] at hu
 ·obtain ⟨b,f,rfl,_,hx⟩:=h.is h0;exact copiedOps_some _ cap xs w hl (ocells_at xs hx)
theorem pAt_nil (w:World) (ao:Option Addr):PAt w ao []:=⟨by simp,fun h=>by simp at h⟩
theorem At.new' (w:World) (c:Array Value) (t:TypeId) (n:Nat) (h:w.heap.size=n):At (w.alloc (.cells c t)) n c:=h ▸ At.new w c t
theorem row_le {w:World} {b b':Nat} {e:TypeId} {z:Nat} {v:Value} {n:Nat} {xs:List Value} (h:w.ownsRow b e z v n xs) (hb:b'<=b):w.ownsRow b' e z v n xs:=by
 refine ⟨h.1,h.2.imp id ?_⟩;rintro ⟨g,cap,cur,h1,h2,h3⟩;exact ⟨g,cap,cur,h1,Nat.le_trans hb h2,h3⟩
theorem row_below {w w':World} {B:Nat} {e:TypeId} {z:Nat} {v:Value} {n:Nat} {xs:List Value} (h:w.ownsRow B e z v n xs) (hb:Below w.heap.size w w'):w'.ownsRow B e z v n xs:=
 h.kept (row:=none) ⟨hb.os,hb.tape,hb.output,hb.size,fun k hk _=>hb.block k hk⟩ (by cases v.ownBlock <;> simp)
theorem row_far {w w':World} {B B':Nat} {e e':TypeId} {z z':Nat} {u v:Value} {n m:Nat} {xs ys:List Value} (h:w.ownsRow B e z u n xs) (hv:w.ownsRow B' e' z' v m ys) (he:e≠e') (hg:w.grownBy w' v.ownBlock):w'.ownsRow B e z u n xs:=by
 refine h.kept hg ?_;rcases h.2 with ⟨rfl,_⟩|⟨g,cap,cur,rfl,_,h3,_⟩
 ·left;rfl
 ·right
  rcases hv.2 with ⟨rfl,_⟩|⟨g',cap',cur',rfl,_,h3',_⟩
  ·simp [Value.ownBlock]
  ·simp only [Value.ownBlock,ne_eq,Option.some.injEq];rintro rfl;rw [h3] at h3';simp at h3'
   exact he h3'.2
theorem row_set {w:World} {B:Nat} {e:TypeId} {z:Nat} {v:Value} {n:Nat} {xs:List Value} (h:w.ownsRow B e z v n xs) {b j:Nat} (hb:b<B) (u:Value):(w.setCell ⟨b,j,none⟩ u).ownsRow B e z v n xs:=by
 refine h.kept (row:=some b) ⟨rfl,rfl,rfl,by simp,fun k hk hne=>Below.heap_setCell _ _ _ _ fun e=>hne (by rw [e])⟩ ?_
 cases hv:v.ownBlock with
 | none=>left;rfl
 | some g=>right;have:=(h.lt g hv).1;intro e;injection e with e;omega
theorem At.set {w:World} {q j:Nat} {cs:Array Value} (h:At w q cs) (hj:j<cs.size) (v:Value):At (w.setCell ⟨q,j,none⟩ v) q (cs.setIfInBounds j v):=by
 refine ⟨fun k u hk=>?_,fun k=>by rw [World.frozen?_setCell];exact h.f k,by simpa using h.lt⟩
 by_cases e:j=k
 ·subst e;rw [World.cell?_setCell_same (h:=h.c j _ (Array.getElem?_eq_getElem hj))];rw [Array.getElem?_setIfInBounds_self_of_lt hj] at hk;exact hk
 ·rw [Array.getElem?_setIfInBounds_ne e] at hk;rw [World.cell?_setCell_other]
  ·exact h.c k u hk
  ·intro h';injection h' with _ h2;exact e h2
theorem At.other {w:World} {q b j:Nat} {cs:Array Value} (h:At w q cs) (hb:b≠q) (v:Value):At (w.setCell ⟨b,j,none⟩ v) q cs:=by
 refine ⟨fun k u hk=>?_,fun k=>by rw [World.frozen?_setCell];exact h.f k,by simpa using h.lt⟩;rw [World.cell?_setCell_other]
 ·exact h.c k u hk
 ·intro h';injection h' with h1;exact hb h1
def bcells (xs:List Bk) (ls:List Pl):List Value:=(xs.zip ls).flatMap fun y=>[.slice y.2.oa y.1.ops.length y.2.oc,.int .i8 y.1.fin,.int .u8 y.1.a,.slice y.2.ba y.1.body.length y.2.bc,.int .i64 y.1.thn,.int .i64 y.1.els]
theorem bcells_snoc (xs:List Bk) (ls:List Pl) (x:Bk) (p:Pl) (h:xs.length=ls.length):bcells (xs++[x]) (ls++[p])=bcells xs ls++[.slice p.oa x.ops.length p.oc,.int .i8 x.fin,.int .u8 x.a,.slice p.ba x.body.length p.bc,.int .i64 x.thn,.int .i64 x.els]:=by
 simp [bcells,List.zip_append h]
theorem bcells_cons (x:Bk) (xs:List Bk) (p:Pl) (ls:List Pl):bcells (x::xs) (p::ls)=.slice p.oa x.ops.length p.oc :: .int .i8 x.fin :: .int .u8 x.a :: .slice p.ba x.body.length p.bc :: .int .i64 x.thn :: .int .i64 x.els::bcells xs ls:=rfl
theorem bcells_get (xs:List Bk):∀ (ls:List Pl) (_:xs.length=ls.length) (i:Nat) (h:i<xs.length) (h':i<ls.length),(bcells xs ls)[i*6]?=some (.slice ls[i].oa xs[i].ops.length ls[i].oc)/\(bcells xs ls)[i*6+1]?=some (.int .i8 xs[i].fin)/\(bcells xs ls)[i*6+2]?=some (.int .u8 xs[i].a)/\(bcells xs ls)[i*6+3]?=some (.slice ls[i].ba xs[i].body.length ls[i].bc)/\(bcells xs ls)[i*6+4]?=some (.int .i64 xs[i].thn)/\(bcells xs ls)[i*6+5]?=some (.int .i64 xs[i].els):=by
 induction xs with
 | nil=>intro ls _ i h;simp at h
 | cons x r ih=>
  intro ls hl i h h'
  cases ls with
  | nil=>simp at h'
  | cons p ls=>
   rw [bcells_cons]
   cases i with
   | zero=>exact ⟨rfl,rfl,rfl,rfl,rfl,rfl⟩
   | succ i=>
    have:=ih ls (by simpa using hl) i (by simpa using h) (by simpa using h')
    rw [show (i+1)*6=i*6+1+1+1+1+1+1 by omega];simpa using this
def LRow (w:World) (B:Nat) (a:Option Addr) (c:Nat) (xs:List O):Prop:=w.ownsRow B 60 5 (.slice a xs.length c) xs.length (ocells xs)
structure Cq (w V:World) (ao:Option Addr) (cap:Nat) (ps:List Bk) (k:Nat) (v:Value) (ls:List Pl):Prop where
 b:Below w.heap.size w V
 z:w.heap.size+3<=V.heap.size
 p:At V w.heap.size #[.slice ao ps.length cap]
 r:At V (w.heap.size+1) #[.slice none 0 0]
 o:At V (w.heap.size+1+1) #[v]
 len:ls.length=k
 row:V.ownsRow (w.heap.size+3) 25 6 v k (bcells (ps.take k) ls)
 ins:∀ (i:Nat) p x,ls[i]?=some p->ps[i]?=some x->LRow V (w.heap.size+3) p.oa p.oc x.ops/\LRow V (w.heap.size+3) p.ba p.bc x.body
theorem Cq.go {w V V':World} {ao:Option Addr} {cap:Nat} {ps:List Bk} {k:Nat} {v:Value} {ls:List Pl} (h:Cq w V ao cap ps k v ls) (hb:Below V.heap.size V V'):Cq w V' ao cap ps k v ls:=
 ⟨h.b.trans (hb.mono h.b.size),Nat.le_trans h.z hb.size,h.p.below hb h.p.lt,h.r.below hb h.r.lt,h.o.below hb h.o.lt,h.len,row_below h.row hb,fun i p x hp hx=>⟨row_below (h.ins i p x hp hx).1 hb,row_below (h.ins i p x hp hx).2 hb⟩⟩
theorem Cq.start (w:World) (ao:Option Addr) (cap:Nat) (ps:List Bk) (t0 t1 t2:TypeId):Cq w (((w.alloc (.cells #[.slice ao ps.length cap] t0)).alloc (.cells #[.slice none 0 0] t1)).alloc (.cells #[.slice none 0 0] t2)) ao cap ps 0 (.slice none 0 0) []:=by
 have h1:=At.new' (w.alloc (.cells #[.slice ao ps.length cap] t0)) #[.slice none 0 0] t1 (w.heap.size+1) (by simp);have h2:=At.new' ((w.alloc (.cells #[.slice ao ps.length cap] t0)).alloc (.cells #[.slice none 0 0] t1)) #[.slice none 0 0] t2 (w.heap.size+2) (by simp);exact ⟨((Below.refl _ _).alloc (Nat.le_refl _) _).alloc (by simp) _ |>.alloc (by simp;omega) _,by simp,((At.new w _ t0).alloc _).alloc _,h1.alloc _,h2,rfl,World.ownsRow_nil _ _ _ _,fun i p x hp=>by simp at hp⟩
theorem Cq.put {w V V':World} {ao:Option Addr} {cap:Nat} {ps:List Bk} {k:Nat} {v v':Value} {ls:List Pl} {p:Pl} (h:Cq w V ao cap ps k v ls) (hk:k<ps.length) (ho:LRow V (w.heap.size+3) p.oa p.oc ps[k].ops) (hy:LRow V (w.heap.size+3) p.ba p.bc ps[k].body)
  (hg:V.grownBy V' v.ownBlock) (hown:V'.ownsRow (w.heap.size+3) 25 6 v' (k+1) (bcells (ps.take k) ls++[.slice p.oa ps[k].ops.length p.oc,.int .i8 ps[k].fin,.int .u8 ps[k].a,.slice p.ba ps[k].body.length p.bc,.int .i64 ps[k].thn,.int .i64 ps[k].els])) :
  Cq w (V'.setCell ⟨w.heap.size+1+1,0,none⟩ v') ao cap ps (k+1) v' (ls++[p]):=by
 have hr:∀ b,v.ownBlock=some b->w.heap.size+3<=b:=fun b hb=>(h.row.lt b hb).1;have hb:Below (w.heap.size+3) V V':=(Below.refl _ _).grown hg h.z hr;have far:∀ {a:Option Addr} {c:Nat} {xs:List O},LRow V (w.heap.size+3) a c xs->LRow (V'.setCell ⟨w.heap.size+1+1,0,none⟩ v') (w.heap.size+3) a c xs:=fun hl=>row_set (row_far hl h.row (by decide) hg) (by omega) _;refine ⟨(h.b.trans (hb.mono (by omega))).setCell (by show w.heap.size<=w.heap.size+2;omega) _,by rw [World.size_setCell];exact Nat.le_trans h.z hg.size,(h.p.below hb (by omega)).other (by omega) _,(h.r.below hb (by omega)).other (by omega) _,(h.o.below hb (by omega)).set (j:=0) (by simp) v',by simp [h.len],?_,?_⟩
 ·rw [List.take_succ_eq_append_getElem hk,bcells_snoc _ _ _ _ (by rw [h.len];simp;omega)];exact row_set hown (by omega) _
 ·intro i p' x hp hx;rcases Nat.lt_or_ge i k with hlt|hge
  ·rw [List.getElem?_append_left (by rw [h.len];exact hlt)] at hp;exact ⟨far (h.ins i p' x hp hx).1,far (h.ins i p' x hp hx).2⟩
  ·rw [List.getElem?_append_right (by rw [h.len];exact hge),h.len] at hp;have hi:i-k=0:=by
    rcases Nat.eq_zero_or_pos (i-k) with h' | h'
    ·exact h'
    ·rw [List.getElem?_eq_none (by simp;omega)] at hp;cases hp
   rw [hi] at hp;simp at hp
   subst hp;obtain rfl:i=k:=by omega
   rw [List.getElem?_eq_getElem hk] at hx;obtain rfl:=Option.some.inj hx;exact ⟨far ho,far hy⟩
structure Small (ps:List Bk):Prop where
 n:ps.length<=8192
 l:∀ x,x∈ps->x.Ok/\(∀ o,o∈x.ops->o.Ok)/\(∀ o,o∈x.body->o.Ok)/\x.ops.length<=8192/\x.body.length<=8192
theorem small_of {w:World} {ao:Option Addr} {ps:List Bk} (h:PAt w ao ps) (hg:greatB ps=false):Small ps:=by
 unfold greatB opsN at hg;simp at hg
 refine ⟨by omega,fun x hx=>?_⟩;obtain ⟨k,hk,rfl⟩:=List.getElem_of_mem hx;obtain ⟨b,f,_,_,hx⟩:=h.is (by omega);obtain ⟨p,_,h2⟩:=hx k hk;have m:=sumTo_mono ps (ps.length-(k+1)) (k+1) (by omega);rw [show k+1+(ps.length-(k+1))=ps.length by omega,sumTo_succ hk] at m;unfold bkN at m;exact ⟨h2.ok,h2.o.ok,h2.b.ok,by omega,by omega⟩
theorem row_cap {w:World} {B:Nat} {a:Option Addr} {c:Nat} {xs:List O} (h:LRow w B a c xs):xs.length<=c:=by
 rcases h.2 with ⟨e,h0⟩|⟨g,cap,cur,e,_,_,h3,_⟩
 ·omega
 ·injection e with _ _ e3
  omega
theorem rows_done {V:World} {B:Nat} {ps:List Bk} {v:Value} {ls:List Pl} (hlen:ls.length=ps.length) (hrow:V.ownsRow B 25 6 v ps.length (bcells ps ls)) (hins:∀ (i:Nat) p x,ls[i]?=some p->ps[i]?=some x->LRow V B p.oa p.oc x.ops/\LRow V B p.ba p.bc x.body) (hs:Small ps):∃ a c,v=.slice a ps.length c/\PAt V a ps:=by
 rcases hrow.2 with ⟨rfl,h0⟩|⟨g,c,cur,rfl,_⟩
 ·obtain rfl:ps=[]:=List.eq_nil_of_length_eq_zero h0;exact ⟨none,0,rfl,pAt_nil _ _⟩
 ·refine ⟨_,_,rfl,⟨by have:=hs.n;omega,fun h0=>⟨g,0,rfl,(hrow.lt g rfl).2,fun i hi=>?_⟩⟩⟩;have hi':i<ls.length:=by rw [hlen];exact hi
  obtain ⟨g0,g1,g2,g3,g4,g5⟩:=bcells_get ps ls hlen.symm i hi hi';have k:∀ j u,(bcells ps ls)[j]?=some u->V.cell? ⟨g,0+j,none⟩=some u:=fun j u hj=>by have:=hrow.cells (g:=g) rfl j u hj;rw [add_at] at this;exact this
  obtain ⟨s1,s2,s3,s4,s5⟩:=hs.l ps[i] (List.getElem_mem hi);obtain ⟨r1,r2⟩:=hins i ls[i] ps[i] (List.getElem?_eq_getElem hi') (List.getElem?_eq_getElem hi);exact ⟨ls[i],⟨k _ _ g0,k _ _ g1,k _ _ g2,k _ _ g3,k _ _ g4,k _ _ g5⟩,⟨s1,opsAt_row r1 s2 s4,opsAt_row r2 s3 s5,row_cap r1⟩⟩
theorem Cq.done {w V:World} {ao:Option Addr} {cap:Nat} {ps:List Bk} {v:Value} {ls:List Pl} (h:Cq w V ao cap ps ps.length v ls) (hs:Small ps) (u:Value):∃ a c,v=.slice a ps.length c/\PAt (V.setCell ⟨w.heap.size+1,0,none⟩ u) a ps:=by
 have hrow:=h.row;rw [List.take_length] at hrow;exact rows_done h.len (row_set hrow (by omega) _) (fun i p x hp hx=>⟨row_set (h.ins i p x hp hx).1 (by omega) _,row_set (h.ins i p x hp hx).2 (by omega) _⟩) hs
structure Rs (w0:World) (rc:Array Value) (o:O) (rb:Nat) (w:World) (v:Value) (xs:List Int):Prop where
 lt0:w0.heap.size<rb
 oAt:At w w0.heap.size o.cells
 rAt:At w rb rc
 own:w.ownsRow (rb+1) 5 1 v xs.length (xs.map (Value.int .u8))
 bel:Below w0.heap.size w0 w
theorem Rs.put {w0:World} {k:Array Value} {o:O} {rb:Nat} {w w1:World} {v v1:Value} {xs:List Int} {s:Int} {ob:Obj} (h:Rs w0 k o rb w v xs) (hown:w1.ownsRow (rb+1) 5 1 v1 (xs.length+1) (xs.map (Value.int .u8)++[.int .u8 s])) (hg:(w.alloc ob).grownBy w1 v.ownBlock) :
  Rs w0 k o rb w1 v1 (xs++[s]):=by
 have h0:=h.lt0;have hb:Below (rb+1) w w1:=((Below.refl _ w).alloc (by have:=h.rAt.lt;omega) ob).grown hg (by have:=h.rAt.lt;simp;omega) (fun b hb=>(h.own.lt b hb).1);refine ⟨h0,h.oAt.below hb (by omega),h.rAt.below hb (by omega),?_,h.bel.trans (hb.mono (by omega))⟩;simpa using hown
def rf (o:O) (j:Nat):Int:=if j=0 then o.a else o.b
theorem At.f6 {w:World} {b:Nat} {cs:Array Value} (h:At w b cs):w.frozen? ⟨b,0,none⟩=false/\w.frozen? ⟨b,3,none⟩=false:=⟨h.f 0,h.f 3⟩
structure Cx (w wr V:World) (x:Bk) (u0 u3:Value):Prop where
 b:Below wr.heap.size wr V
 lt:wr.heap.size<V.heap.size
 c:At V wr.heap.size #[u0,.int .i8 x.fin,.int .u8 x.a,u3,.int .i64 x.thn,.int .i64 x.els]
theorem Cx.start {w wr V:World} {x:Bk} {u0 u3:Value} {t:TypeId} (hb:Below (wr.alloc (.cells #[u0,.int .i8 x.fin,.int .u8 x.a,u3,.int .i64 x.thn,.int .i64 x.els] t)).heap.size (wr.alloc (.cells #[u0,.int .i8 x.fin,.int .u8 x.a,u3,.int .i64 x.thn,.int .i64 x.els] t)) V):Cx w wr V x u0 u3:=by
 obtain ⟨a1,b1,z1⟩:=one_new wr _ _ hb;exact ⟨b1,z1,a1⟩
theorem Cx.set0 {w wr V:World} {x:Bk} {u0 u3:Value} (h:Cx w wr V x u0 u3) (v:Value):Cx w wr (V.setCell ⟨wr.heap.size,0,none⟩ v) x v u3:=
 ⟨h.b.setCell (Nat.le_refl _) _,by simpa using h.lt,h.c.set (j:=0) (by simp) v⟩
theorem Cx.set3 {w wr V:World} {x:Bk} {u0 u3:Value} (h:Cx w wr V x u0 u3) (v:Value):Cx w wr (V.setCell ⟨wr.heap.size,3,none⟩ v) x u0 v:=
 ⟨h.b.setCell (Nat.le_refl _) _,by simpa using h.lt,h.c.set (j:=3) (by simp) v⟩
theorem Cx.go {w wr V V':World} {x:Bk} {u0 u3:Value} (h:Cx w wr V x u0 u3) (hb:Below V.heap.size V V'):Cx w wr V' x u0 u3:=
 ⟨h.b.trans (hb.mono h.b.size),Nat.lt_of_lt_of_le h.lt hb.size,h.c.below hb h.lt⟩
theorem Cq.box {w V V':World} {ao:Option Addr} {cap:Nat} {ps:List Bk} {k:Nat} {v:Value} {ls:List Pl} (h:Cq w V ao cap ps k v ls) (hg:V.grownBy V' v.ownBlock):At V' (w.heap.size+1+1) #[v]:=
 h.o.below ((Below.refl _ _).grown hg h.z fun b hb=>(h.row.lt b hb).1) (by omega)
end Go.Proofs.YtcmlnemokckbdaaGreatDoor.L8.Op
