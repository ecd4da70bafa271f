/- Parts QCp QCm QRw QCw. -/
import Derived.Test.YtcmlnemokckbdaaGreatDoorN24
import Derived.Deep.AppendLies
import Derived.OwnWalk
set_option maxRecDepth 20000
set_option maxHeartbeats 4000000
namespace Go.Proofs.YtcmlnemokckbdaaGreatDoor.L8.Op
open Go.ChangeShapes Go.WideShapes Go.ChangeAt Go.RowKit
theorem info60:(Tryz.prog.info? 60).map (fun i=>(i.zero,i.size,i.bytes))=some (some (.agg #[.int .i8 0,.int .u8 0,.int .u8 0,.int .u8 0,.int .i64 0]),5,16):=by kernel_rfl
theorem info25:(Tryz.prog.info? 25).map (fun i=>(i.zero,i.size,i.bytes))=some (some (.agg #[.slice none 0 0,.int .i8 0,.int .u8 0,.slice none 0 0,.int .i64 0,.int .i64 0]),6,72):=by kernel_rfl
theorem add_at (b f j:Nat):(⟨b,f,none⟩:Addr).add j=⟨b,f+j,none⟩:=by simp [Addr.add]
def ocells (xs:List O):List Value:=xs.flatMap fun o=>[.int .i8 o.op,.int .u8 o.d,.int .u8 o.a,.int .u8 o.b,.int .i64 o.im]
theorem ocells_len (xs:List O):(ocells xs).length=xs.length*5:=by
 induction xs with
 | nil=>rfl
 | cons o r ih=>unfold ocells at ih ⊢;rw [List.flatMap_cons,List.length_append,ih];simp;omega
theorem ocells_cons (o:O) (r:List O):ocells (o::r)=.int .i8 o.op :: .int .u8 o.d :: .int .u8 o.a :: .int .u8 o.b :: .int .i64 o.im::ocells r:=rfl
theorem ocells_get (xs:List O):∀ (i:Nat) (h:i<xs.length),(ocells xs)[i*5]?=some (.int .i8 xs[i].op)/\(ocells xs)[i*5+1]?=some (.int .u8 xs[i].d)/\(ocells xs)[i*5+2]?=some (.int .u8 xs[i].a)/\(ocells xs)[i*5+3]?=some (.int .u8 xs[i].b)/\(ocells xs)[i*5+4]?=some (.int .i64 xs[i].im):=by
 induction xs with
 | nil=>intro i h;simp at h
 | cons o r ih=>
  intro i h;rw [ocells_cons]
  cases i with
  | zero=>exact ⟨rfl,rfl,rfl,rfl,rfl⟩
  | succ i=>
   have:=ih i (by simpa using h)
   rw [show (i+1)*5=i*5+1+1+1+1+1 by omega];simpa using this
theorem ocells_one (xs:List O):∀ u,u∈ocells xs->u.oneCell'=true:=by
 intro u hu;obtain ⟨o,_,h⟩:=List.mem_flatMap.1 hu;simp at h
 rcases h with rfl|rfl|rfl|rfl|rfl <;> rfl
theorem ocells_at {w:World} {b f:Nat} (xs:List O) (h:∀ (i:Nat) (h:i<xs.length),OAt w b (f+i*5) xs[i]):∀ j u,(ocells xs)[j]?=some u->w.cell? ((⟨b,f,none⟩:Addr).add j)=some u:=by
 intro j u hu;have hj:j<(ocells xs).length:=by
  rcases Nat.lt_or_ge j (ocells xs).length with h' | h'
  ·exact h'
  ·rw [List.getElem?_eq_none h'] at hu;cases hu
 rw [ocells_len] at hj;have hi:j / 5<xs.length:=by omega
 obtain ⟨c0,c1,c2,c3,c4⟩:=h (j / 5) hi;obtain ⟨g0,g1,g2,g3,g4⟩:=ocells_get xs (j / 5) hi;have hq:j=j / 5*5+j%5:=by omega
 have hm:j%5=0\/j%5=1\/j%5=2\/j%5=3\/j%5=4:=by omega
 rw [add_at];generalize j / 5=q at *;rcases hm with hm|hm|hm|hm|hm
 ·obtain rfl:j=q*5:=by omega
  rw [g0] at hu;rw [<- hu];exact c0
 ·obtain rfl:j=q*5+1:=by omega
  rw [g1] at hu;rw [<- hu,<- Nat.add_assoc];exact c1
 ·obtain rfl:j=q*5+2:=by omega
  rw [g2] at hu;rw [<- hu,<- Nat.add_assoc];exact c2
 ·obtain rfl:j=q*5+3:=by omega
  rw [g3] at hu;rw [<- hu,<- Nat.add_assoc];exact c3
 ·obtain rfl:j=q*5+4:=by omega
  rw [g4] at hu;rw [<- hu,<- Nat.add_assoc];exact c4
theorem opsAt_row {w:World} {B c:Nat} {a:Option Addr} {xs:List O} (h:w.ownsRow B 60 5 (.slice a xs.length c) xs.length (ocells xs)) (hok:∀ o,o∈xs->o.Ok) (hl:xs.length<=8192):OpsAt w a xs:=by
 refine ⟨hok,by omega,fun h0=>?_⟩;rcases h.2 with ⟨_,h1⟩|⟨g,cap,cur,h1,h2,h3,h4⟩
 ·omega
 ·injection h1 with e1 e2 e3
  subst e1;have hc:=h.cells (g:=g) rfl;refine ⟨g,0,rfl,(h.lt g rfl).2,fun i hi=>?_⟩;obtain ⟨g0,g1,g2,g3,g4⟩:=ocells_get xs i hi;have k:∀ j u,(ocells xs)[j]?=some u->w.cell? ⟨g,0+j,none⟩=some u:=fun j u hj=>by have:=hc j u hj;rw [add_at] at this;exact this
  exact ⟨k _ _ g0,k _ _ g1,k _ _ g2,k _ _ g3,k _ _ g4⟩
theorem grown_below {w w':World} {row:Option Nat} (h:w.grownBy w' row) (hr:∀ b,row=some b->w.heap.size<=b):Below w.heap.size w w':=
 ⟨h.os,h.tape,h.output,h.size,fun k hk=>h.block k hk fun e=>by have:=hr k e.symm;omega⟩
structure Mk (w w1:World) (n:Nat):Prop where
 own:w1.ownsRow w.heap.size 60 5 (.slice (some ⟨w.heap.size,0,none⟩) 0 (n+1)) 0 []
 grown:w.grownBy w1 none
theorem copiedOps_some (a:Addr) (cap:Nat) (xs:List O) (w:World) (hl:xs.length<=8192) (hn:∀ j u,(ocells xs)[j]?=some u->w.cell? (a.add j)=some u) :
  Calls Tryz.prog 7 #[.slice (some a) xs.length cap] w fun e w'=>∃ a c,e=.returned (.slice a xs.length c)/\w'.ownsRow w.heap.size 60 5 (.slice a xs.length c) xs.length (ocells xs)/\Below w.heap.size w w':=by
 obtain ⟨i0,hi,hi2⟩:=Option.map_eq_some_iff.1 info60;simp only [Prod.mk.injEq] at hi2;obtain ⟨hz0,hz1,hz2⟩:=hi2;have HI:Hid (Tryz.prog.info? 60=some i0/\i0.zero=some (.agg #[.int .i8 0,.int .u8 0,.int .u8 0,.int .u8 0,.int .i64 0])/\i0.size=5/\i0.bytes=16):=⟨hi,hz0,hz1,hz2⟩;clear hi hz0 hz1 hz2;have HN:Hid _:=hn;clear hn;have hlz:(xs.length:Int)<=8192:=by omega
 go_enter Tryz.func7,Tryz.ntmps7;go_wp2_with (first
  | (at_make;refine wpList_make_own _ rfl _ _ 22 rfl w.heap.size 60 i0 (.agg #[.int .i8 0,.int .u8 0,.int .u8 0,.int .u8 0,.int .i64 0]) 5 Tryz.underlying22 HI.out.1 HI.out.2.1 HI.out.2.2.1 .i64 .i64 _ (xs.length+1) rfl rfl (by omega) (by rw [HI.out.2.2.2];omega) (by unfold maxLen;omega) (Nat.le_refl _) ?_;intro w1 hown1 hgrow1;have HM:Hid (Mk w w1 xs.length):=⟨hown1,hgrow1⟩;clear hgrow1 hown1)
  | (at_builtin;refine wpList_append_own _ rfl (.tmp 8) (.tmp 9) 22 rfl w.heap.size 60 i0 (.agg #[.int .i8 0,.int .u8 0,.int .u8 0,.int .u8 0,.int .i64 0]) 5 16 Tryz.underlying22 HI.out.1 HI.out.2.1 HI.out.2.2.1 HI.out.2.2.2 rfl (by decide) _ _ _ rfl HM.out.own a xs.length cap (ocells xs) rfl (ocells_len xs) (fun j u hj=>HM.out.grown.cell (HN.out j u hj) (by simp)) (ocells_one xs) (by unfold maxLen;omega) (by omega) (by have:=HM.out.grown.size;omega) ?_;intro v' w2 hown2 hgrow2 hnil;have HF:Hid (w2.ownsRow w.heap.size 60 5 v' xs.length (ocells xs)/\w1.grownBy w2 (some w.heap.size)):=⟨by have:=hown2;simp only [Nat.zero_add,List.nil_append] at this;exact this,hgrow2⟩;clear hown2 hgrow2 hnil))
 go_ret
 obtain ⟨h1,h2⟩:=HF.out;have hb:Below w.heap.size w w2:=(grown_below HM.out.grown (fun b hb=>by cases hb)).grown h2 HM.out.grown.size (fun b hb=>by cases hb;exact Nat.le_refl _);rcases h1.2 with ⟨rfl,h0⟩|⟨g,c,cur,rfl,_⟩
 ·exact ⟨none,0,by rw [h0];rfl,by rw [h0] at h1 ⊢;exact h1,hb⟩
 ·exact ⟨_,_,rfl,h1,hb⟩
theorem copiedOps_none (cap:Nat) (w:World) :
  Calls Tryz.prog 7 #[.slice none 0 cap] w fun e w'=>∃ a c,e=.returned (.slice a 0 c)/\w'.ownsRow w.heap.size 60 5 (.slice a 0 c) 0 []/\Below w.heap.size w w':=by
 obtain ⟨i0,hi,hi2⟩:=Option.map_eq_some_iff.1 info60;simp only [Prod.mk.injEq] at hi2;obtain ⟨hz0,hz1,hz2⟩:=hi2;have HI:Hid (Tryz.prog.info? 60=some i0/\i0.zero=some (.agg #[.int .i8 0,.int .u8 0,.int .u8 0,.int .u8 0,.int .i64 0])/\i0.size=5/\i0.bytes=16):=⟨hi,hz0,hz1,hz2⟩;clear hi hz0 hz1 hz2;go_enter Tryz.func7,Tryz.ntmps7;go_wp2_with (first
  | (at_make;refine wpList_make_own _ rfl _ _ 22 rfl w.heap.size 60 i0 (.agg #[.int .i8 0,.int .u8 0,.int .u8 0,.int .u8 0,.int .i64 0]) 5 Tryz.underlying22 HI.out.1 HI.out.2.1 HI.out.2.2.1 .i64 .i64 _ 1 rfl rfl (by omega) (by rw [HI.out.2.2.2];omega) (by unfold maxLen;omega) (Nat.le_refl _) ?_;intro w1 hown1 hgrow1;have HM:Hid (Mk w w1 0):=⟨hown1,hgrow1⟩;clear hgrow1 hown1))
 go_ret
 exact ⟨_,_,rfl,HM.out.own,grown_below HM.out.grown (fun b hb=>by cases hb)⟩
theorem copiedOps_any (ao:Option Addr) (cap:Nat) (xs:List O) (w:World) (h:OpsAt w ao xs) (hl:xs.length<=8192) :
  Calls Tryz.prog 7 #[.slice ao xs.length cap] w fun e w'=>∃ a c,e=.returned (.slice a xs.length c)/\w'.ownsRow w.heap.size 60 5 (.slice a xs.length c) xs.length (ocells xs)/\Below w.heap.size w w':=by
 rcases Nat.eq_zero_or_pos xs.length with h0|h0
 ·obtain rfl:xs=[]:=List.eq_nil_of_length_eq_zero h0
  cases ao with
  | none=>exact copiedOps_none cap w
  | some a=>exact copiedOps_some a cap [] w hl fun j u hu=>by simp [ocells] at hu
 ·obtain ⟨b,f,rfl,_,hx⟩:=h.is h0;exact copiedOps_some _ cap xs w hl (ocells_at xs hx)
theorem pAt_nil (w:World) (ao:Option Addr):PAt w ao []:=⟨by simp,fun h=>by simp at h⟩
theorem At.new' (w:World) (c:Array Value) (t:TypeId) (n:Nat) (h:w.heap.size=n):At (w.alloc (.cells c t)) n c:=h ▸ At.new w c t
theorem row_le {w:World} {b b':Nat} {e:TypeId} {z:Nat} {v:Value} {n:Nat} {xs:List Value} (h:w.ownsRow b e z v n xs) (hb:b'<=b):w.ownsRow b' e z v n xs:=by
 refine ⟨h.1,h.2.imp id ?_⟩;rintro ⟨g,cap,cur,h1,h2,h3⟩;exact ⟨g,cap,cur,h1,Nat.le_trans hb h2,h3⟩
theorem row_below {w w':World} {B:Nat} {e:TypeId} {z:Nat} {v:Value} {n:Nat} {xs:List Value} (h:w.ownsRow B e z v n xs) (hb:Below w.heap.size w w'):w'.ownsRow B e z v n xs:=
 h.kept (row:=none) ⟨hb.os,hb.tape,hb.output,hb.size,fun k hk _=>hb.block k hk⟩ (by cases v.ownBlock <;> simp)
theorem row_far {w w':World} {B B':Nat} {e e':TypeId} {z z':Nat} {u v:Value} {n m:Nat} {xs ys:List Value} (h:w.ownsRow B e z u n xs) (hv:w.ownsRow B' e' z' v m ys) (he:e≠e') (hg:w.grownBy w' v.ownBlock):w'.ownsRow B e z u n xs:=by
 refine h.kept hg ?_;rcases h.2 with ⟨rfl,_⟩|⟨g,cap,cur,rfl,_,h3,_⟩
 ·left;rfl
 ·right
  rcases hv.2 with ⟨rfl,_⟩|⟨g',cap',cur',rfl,_,h3',_⟩
  ·simp [Value.ownBlock]
  ·simp only [Value.ownBlock,ne_eq,Option.some.injEq];rintro rfl;rw [h3] at h3';simp at h3'
   exact he h3'.2
theorem row_set {w:World} {B:Nat} {e:TypeId} {z:Nat} {v:Value} {n:Nat} {xs:List Value} (h:w.ownsRow B e z v n xs) {b j:Nat} (hb:b<B) (u:Value):(w.setCell ⟨b,j,none⟩ u).ownsRow B e z v n xs:=by
 refine h.kept (row:=some b) ⟨rfl,rfl,rfl,by simp,fun k hk hne=>Below.heap_setCell _ _ _ _ fun e=>hne (by rw [e])⟩ ?_
 cases hv:v.ownBlock with
 | none=>left;rfl
 | some g=>right;have:=(h.lt g hv).1;intro e;injection e with e;omega
theorem At.set {w:World} {q j:Nat} {cs:Array Value} (h:At w q cs) (hj:j<cs.size) (v:Value):At (w.setCell ⟨q,j,none⟩ v) q (cs.setIfInBounds j v):=by
 refine ⟨fun k u hk=>?_,fun k=>by rw [World.frozen?_setCell];exact h.f k,by simpa using h.lt⟩
 by_cases e:j=k
 ·subst e;rw [World.cell?_setCell_same (h:=h.c j _ (Array.getElem?_eq_getElem hj))];rw [Array.getElem?_setIfInBounds_self_of_lt hj] at hk;exact hk
 ·rw [Array.getElem?_setIfInBounds_ne e] at hk;rw [World.cell?_setCell_other]
  ·exact h.c k u hk
  ·intro h';injection h' with _ h2;exact e h2
theorem At.other {w:World} {q b j:Nat} {cs:Array Value} (h:At w q cs) (hb:b≠q) (v:Value):At (w.setCell ⟨b,j,none⟩ v) q cs:=by
 refine ⟨fun k u hk=>?_,fun k=>by rw [World.frozen?_setCell];exact h.f k,by simpa using h.lt⟩;rw [World.cell?_setCell_other]
 ·exact h.c k u hk
 ·intro h';injection h' with h1;exact hb h1
def bcells (xs:List Bk) (ls:List Pl):List Value:=(xs.zip ls).flatMap fun y=>[.slice y.2.oa y.1.ops.length y.2.oc,.int .i8 y.1.fin,.int .u8 y.1.a,.slice y.2.ba y.1.body.length y.2.bc,.int .i64 y.1.thn,.int .i64 y.1.els]
theorem bcells_snoc (xs:List Bk) (ls:List Pl) (x:Bk) (p:Pl) (h:xs.length=ls.length):bcells (xs++[x]) (ls++[p])=bcells xs ls++[.slice p.oa x.ops.length p.oc,.int .i8 x.fin,.int .u8 x.a,.slice p.ba x.body.length p.bc,.int .i64 x.thn,.int .i64 x.els]:=by
 simp [bcells,List.zip_append h]
theorem bcells_cons (x:Bk) (xs:List Bk) (p:Pl) (ls:List Pl):bcells (x::xs) (p::ls)=.slice p.oa x.ops.length p.oc :: .int .i8 x.fin :: .int .u8 x.a :: .slice p.ba x.body.length p.bc :: .int .i64 x.thn :: .int .i64 x.els::bcells xs ls:=rfl
theorem bcells_get (xs:List Bk):∀ (ls:List Pl) (_:xs.length=ls.length) (i:Nat) (h:i<xs.length) (h':i<ls.length),(bcells xs ls)[i*6]?=some (.slice ls[i].oa xs[i].ops.length ls[i].oc)/\(bcells xs ls)[i*6+1]?=some (.int .i8 xs[i].fin)/\(bcells xs ls)[i*6+2]?=some (.int .u8 xs[i].a)/\(bcells xs ls)[i*6+3]?=some (.slice ls[i].ba xs[i].body.length ls[i].bc)/\(bcells xs ls)[i*6+4]?=some (.int .i64 xs[i].thn)/\(bcells xs ls)[i*6+5]?=some (.int .i64 xs[i].els):=by
 induction xs with
 | nil=>intro ls _ i h;simp at h
 | cons x r ih=>
  intro ls hl i h h'
  cases ls with
  | nil=>simp at h'
  | cons p ls=>
   rw [bcells_cons]
   cases i with
   | zero=>exact ⟨rfl,rfl,rfl,rfl,rfl,rfl⟩
   | succ i=>
    have:=ih ls (by simpa using hl) i (by simpa using h) (by simpa using h')
    rw [show (i+1)*6=i*6+1+1+1+1+1+1 by omega];simpa using this
def LRow (w:World) (B:Nat) (a:Option Addr) (c:Nat) (xs:List O):Prop:=w.ownsRow B 60 5 (.slice a xs.length c) xs.length (ocells xs)
structure Cq (w V:World) (ao:Option Addr) (cap:Nat) (ps:List Bk) (k:Nat) (v:Value) (ls:List Pl):Prop where
 b:Below w.heap.size w V
 z:w.heap.size+3<=V.heap.size
 p:At V w.heap.size #[.slice ao ps.length cap]
 r:At V (w.heap.size+1) #[.slice none 0 0]
 o:At V (w.heap.size+1+1) #[v]
 len:ls.length=k
 row:V.ownsRow (w.heap.size+3) 25 6 v k (bcells (ps.take k) ls)
 ins:∀ (i:Nat) p x,ls[i]?=some p->ps[i]?=some x->LRow V (w.heap.size+3) p.oa p.oc x.ops/\LRow V (w.heap.size+3) p.ba p.bc x.body
theorem Cq.go {w V V':World} {ao:Option Addr} {cap:Nat} {ps:List Bk} {k:Nat} {v:Value} {ls:List Pl} (h:Cq w V ao cap ps k v ls) (hb:Below V.heap.size V V'):Cq w V' ao cap ps k v ls:=
 ⟨h.b.trans (hb.mono h.b.size),Nat.le_trans h.z hb.size,h.p.below hb h.p.lt,h.r.below hb h.r.lt,h.o.below hb h.o.lt,h.len,row_below h.row hb,fun i p x hp hx=>⟨row_below (h.ins i p x hp hx).1 hb,row_below (h.ins i p x hp hx).2 hb⟩⟩
theorem Cq.start (w:World) (ao:Option Addr) (cap:Nat) (ps:List Bk) (t0 t1 t2:TypeId):Cq w (((w.alloc (.cells #[.slice ao ps.length cap] t0)).alloc (.cells #[.slice none 0 0] t1)).alloc (.cells #[.slice none 0 0] t2)) ao cap ps 0 (.slice none 0 0) []:=by
 have h1:=At.new' (w.alloc (.cells #[.slice ao ps.length cap] t0)) #[.slice none 0 0] t1 (w.heap.size+1) (by simp);have h2:=At.new' ((w.alloc (.cells #[.slice ao ps.length cap] t0)).alloc (.cells #[.slice none 0 0] t1)) #[.slice none 0 0] t2 (w.heap.size+2) (by simp);exact ⟨((Below.refl _ _).alloc (Nat.le_refl _) _).alloc (by simp) _ |>.alloc (by simp;omega) _,by simp,((At.new w _ t0).alloc _).alloc _,h1.alloc _,h2,rfl,World.ownsRow_nil _ _ _ _,fun i p x hp=>by simp at hp⟩
theorem Cq.put {w V V':World} {ao:Option Addr} {cap:Nat} {ps:List Bk} {k:Nat} {v v':Value} {ls:List Pl} {p:Pl} (h:Cq w V ao cap ps k v ls) (hk:k<ps.length) (ho:LRow V (w.heap.size+3) p.oa p.oc ps[k].ops) (hy:LRow V (w.heap.size+3) p.ba p.bc ps[k].body)
  (hg:V.grownBy V' v.ownBlock) (hown:V'.ownsRow (w.heap.size+3) 25 6 v' (k+1) (bcells (ps.take k) ls++[.slice p.oa ps[k].ops.length p.oc,.int .i8 ps[k].fin,.int .u8 ps[k].a,.slice p.ba ps[k].body.length p.bc,.int .i64 ps[k].thn,.int .i64 ps[k].els])) :
  Cq w (V'.setCell ⟨w.heap.size+1+1,0,none⟩ v') ao cap ps (k+1) v' (ls++[p]):=by
 have hr:∀ b,v.ownBlock=some b->w.heap.size+3<=b:=fun b hb=>(h.row.lt b hb).1;have hb:Below (w.heap.size+3) V V':=(Below.refl _ _).grown hg h.z hr;have far:∀ {a:Option Addr} {c:Nat} {xs:List O},LRow V (w.heap.size+3) a c xs->LRow (V'.setCell ⟨w.heap.size+1+1,0,none⟩ v') (w.heap.size+3) a c xs:=fun hl=>row_set (row_far hl h.row (by decide) hg) (by omega) _;refine ⟨(h.b.trans (hb.mono (by omega))).setCell (by show w.heap.size<=w.heap.size+2;omega) _,by rw [World.size_setCell];exact Nat.le_trans h.z hg.size,(h.p.below hb (by omega)).other (by omega) _,(h.r.below hb (by omega)).other (by omega) _,(h.o.below hb (by omega)).set (j:=0) (by simp) v',by simp [h.len],?_,?_⟩
 ·rw [List.take_succ_eq_append_getElem hk,bcells_snoc _ _ _ _ (by rw [h.len];simp;omega)];exact row_set hown (by omega) _
 ·intro i p' x hp hx;rcases Nat.lt_or_ge i k with hlt|hge
  ·rw [List.getElem?_append_left (by rw [h.len];exact hlt)] at hp;exact ⟨far (h.ins i p' x hp hx).1,far (h.ins i p' x hp hx).2⟩
  ·rw [List.getElem?_append_right (by rw [h.len];exact hge),h.len] at hp;have hi:i-k=0:=by
    rcases Nat.eq_zero_or_pos (i-k) with h' | h'
    ·exact h'
    ·rw [List.getElem?_eq_none (by simp;omega)] at hp;cases hp
   rw [hi] at hp;simp at hp
   subst hp;obtain rfl:i=k:=by omega
   rw [List.getElem?_eq_getElem hk] at hx;obtain rfl:=Option.some.inj hx;exact ⟨far ho,far hy⟩
structure Small (ps:List Bk):Prop where
 n:ps.length<=8192
 l:∀ x,x∈ps->x.Ok/\(∀ o,o∈x.ops->o.Ok)/\(∀ o,o∈x.body->o.Ok)/\x.ops.length<=8192/\x.body.length<=8192
theorem small_of {w:World} {ao:Option Addr} {ps:List Bk} (h:PAt w ao ps) (hg:greatB ps=false):Small ps:=by
 unfold greatB opsN at hg;simp at hg
 refine ⟨by omega,fun x hx=>?_⟩;obtain ⟨k,hk,rfl⟩:=List.getElem_of_mem hx;obtain ⟨b,f,_,_,hx⟩:=h.is (by omega);obtain ⟨p,_,h2⟩:=hx k hk;have m:=sumTo_mono ps (ps.length-(k+1)) (k+1) (by omega);rw [show k+1+(ps.length-(k+1))=ps.length by omega,sumTo_succ hk] at m;unfold bkN at m;exact ⟨h2.ok,h2.o.ok,h2.b.ok,by omega,by omega⟩
theorem row_cap {w:World} {B:Nat} {a:Option Addr} {c:Nat} {xs:List O} (h:LRow w B a c xs):xs.length<=c:=by
 rcases h.2 with ⟨e,h0⟩|⟨g,cap,cur,e,_,_,h3,_⟩
 ·omega
 ·injection e with _ _ e3
  omega
theorem rows_done {V:World} {B:Nat} {ps:List Bk} {v:Value} {ls:List Pl} (hlen:ls.length=ps.length) (hrow:V.ownsRow B 25 6 v ps.length (bcells ps ls)) (hins:∀ (i:Nat) p x,ls[i]?=some p->ps[i]?=some x->LRow V B p.oa p.oc x.ops/\LRow V B p.ba p.bc x.body) (hs:Small ps):∃ a c,v=.slice a ps.length c/\PAt V a ps:=by
 rcases hrow.2 with ⟨rfl,h0⟩|⟨g,c,cur,rfl,_⟩
 ·obtain rfl:ps=[]:=List.eq_nil_of_length_eq_zero h0;exact ⟨none,0,rfl,pAt_nil _ _⟩
 ·refine ⟨_,_,rfl,⟨by have:=hs.n;omega,fun h0=>⟨g,0,rfl,(hrow.lt g rfl).2,fun i hi=>?_⟩⟩⟩;have hi':i<ls.length:=by rw [hlen];exact hi
  obtain ⟨g0,g1,g2,g3,g4,g5⟩:=bcells_get ps ls hlen.symm i hi hi';have k:∀ j u,(bcells ps ls)[j]?=some u->V.cell? ⟨g,0+j,none⟩=some u:=fun j u hj=>by have:=hrow.cells (g:=g) rfl j u hj;rw [add_at] at this;exact this
  obtain ⟨s1,s2,s3,s4,s5⟩:=hs.l ps[i] (List.getElem_mem hi);obtain ⟨r1,r2⟩:=hins i ls[i] ps[i] (List.getElem?_eq_getElem hi') (List.getElem?_eq_getElem hi);exact ⟨ls[i],⟨k _ _ g0,k _ _ g1,k _ _ g2,k _ _ g3,k _ _ g4,k _ _ g5⟩,⟨s1,opsAt_row r1 s2 s4,opsAt_row r2 s3 s5,row_cap r1⟩⟩
theorem Cq.done {w V:World} {ao:Option Addr} {cap:Nat} {ps:List Bk} {v:Value} {ls:List Pl} (h:Cq w V ao cap ps ps.length v ls) (hs:Small ps) (u:Value):∃ a c,v=.slice a ps.length c/\PAt (V.setCell ⟨w.heap.size+1,0,none⟩ u) a ps:=by
 have hrow:=h.row;rw [List.take_length] at hrow;exact rows_done h.len (row_set hrow (by omega) _) (fun i p x hp hx=>⟨row_set (h.ins i p x hp hx).1 (by omega) _,row_set (h.ins i p x hp hx).2 (by omega) _⟩) hs
theorem refWrites_any (o:O) (w:World) (ho:o.Ok):Calls Tryz.prog 36 #[o.val] w fun e w'=>e=.returned (.tuple #[.int .u8 (wrD o),.bool (wrB o)])/\Below w.heap.size w w':=by
 cases hk:kOf o.op with
 | none=>
  have hw:wrB o=false:=wr_no (okO_none hk);rw [show wrD o=0 by simp [wrD,hw],hw];have HF:Hid _:=fun w=>of_no o.op w hk;have HC:Hid (∀ w,Calls Tryz.prog 67 #[o.val] w fun e w'=>e=.returned (.int .i64 30)/\Below w.heap.size w w'):=fun w=>refCheck_none o w hk;clear hk hw ho;go_enter Tryz.func36,Tryz.ntmps36;go_wp2_with (first|(go_at_call 66;refine Calls.mono (HF.out _) ?_;rintro e w1 ⟨rfl,hb⟩;obtain ⟨a1,hb0,hz⟩:=one_new w _ _ hb;have HB:Hid (Below w.heap.size w w1):=hb0;have HO:Hid _:=a1;obtain ⟨o0,o1,o2,o3,o4⟩:=a1.o5;clear hb hb0 a1)|(go_at_call 67;refine Calls.mono (HC.out _) ?_;rintro e w2 ⟨rfl,hb⟩;obtain ⟨-,hb0,hz2⟩:=one_new w1 _ _ hb;have HB2:Hid (Below w.heap.size w w2):=HB.out.trans (hb0.mono (Nat.le_of_lt hz));clear hb hb0))
  go_ret2
  exact ⟨rfl,HB2.out⟩
 | some k=>
  have HF:Hid _:=fun w=>of_yes o.op k w hk;have HC0:=fun w=>refCheck_any o w ho
  cases hf:okF k o
  ·have hO:okO o=false:=by rw [okO_some hk];exact hf
   have hw:wrB o=false:=wr_no hO;rw [show wrD o=0 by simp [wrD,hw],hw];rw [show ckE o=30 by simp [ckE,hO]] at HC0;have HC:Hid _:=HC0;clear hk hw ho hO hf HC0;go_enter Tryz.func36,Tryz.ntmps36;go_wp2_with (first|(go_at_call 66;refine Calls.mono (HF.out _) ?_;rintro e w1 ⟨rfl,hb⟩;obtain ⟨a1,hb0,hz⟩:=one_new w _ _ hb;have HB:Hid (Below w.heap.size w w1):=hb0;have HO:Hid _:=a1;obtain ⟨o0,o1,o2,o3,o4⟩:=a1.o5;clear hb hb0 a1)|(go_at_call 67;refine Calls.mono (HC.out _) ?_;rintro e w2 ⟨rfl,hb⟩;obtain ⟨-,hb0,hz2⟩:=one_new w1 _ _ hb;have HB2:Hid (Below w.heap.size w w2):=HB.out.trans (hb0.mono (Nat.le_of_lt hz));clear hb hb0))
   go_ret2
   exact ⟨rfl,HB2.out⟩
  ·have hO:okO o=true:=by rw [okO_some hk];exact hf
   have hw:=wr_yes hk hf;rw [show ckE o=0 by simp [ckE,hO]] at HC0;have HC:Hid _:=HC0
   cases hD:k.D
   ·rw [hD] at hw;rw [show wrD o=0 by simp [wrD,hw],hw];clear hk hw ho hO hf HC0;go_enter Tryz.func36,Tryz.ntmps36;go_wp2_with (first|(go_at_call 66;refine Calls.mono (HF.out _) ?_;rintro e w1 ⟨rfl,hb⟩;obtain ⟨a1,hb0,hz⟩:=one_new w _ _ hb;have HB:Hid (Below w.heap.size w w1):=hb0;have HO:Hid _:=a1;obtain ⟨o0,o1,o2,o3,o4⟩:=a1.o5;clear hb hb0 a1)|(go_at_call 67;refine Calls.mono (HC.out _) ?_;rintro e w2 ⟨rfl,hb⟩;obtain ⟨r1,hb0,hz2⟩:=one_new w1 _ _ hb;have HB2:Hid (Below w.heap.size w w2):=HB.out.trans (hb0.mono (Nat.le_of_lt hz));obtain ⟨c0,c1,c2,c3,c4,c5,c6⟩:=r1.r7;obtain ⟨o0,o1,o2,o3,o4⟩:=(HO.out.below hb0 hz).o5;clear hb hb0 r1))
    go_ret2
    exact ⟨rfl,HB2.out⟩
   ·rw [hD] at hw;rw [show wrD o=o.d by simp [wrD,hw],hw];clear hk hw ho hO hf HC0;go_enter Tryz.func36,Tryz.ntmps36;go_wp2_with (first|(go_at_call 66;refine Calls.mono (HF.out _) ?_;rintro e w1 ⟨rfl,hb⟩;obtain ⟨a1,hb0,hz⟩:=one_new w _ _ hb;have HB:Hid (Below w.heap.size w w1):=hb0;have HO:Hid _:=a1;obtain ⟨o0,o1,o2,o3,o4⟩:=a1.o5;clear hb hb0 a1)|(go_at_call 67;refine Calls.mono (HC.out _) ?_;rintro e w2 ⟨rfl,hb⟩;obtain ⟨r1,hb0,hz2⟩:=one_new w1 _ _ hb;have HB2:Hid (Below w.heap.size w w2):=HB.out.trans (hb0.mono (Nat.le_of_lt hz));obtain ⟨c0,c1,c2,c3,c4,c5,c6⟩:=r1.r7;obtain ⟨o0,o1,o2,o3,o4⟩:=(HO.out.below hb0 hz).o5;clear hb hb0 r1))
    go_ret2
    exact ⟨rfl,HB2.out⟩
structure Rs (w0:World) (rc:Array Value) (o:O) (rb:Nat) (w:World) (v:Value) (xs:List Int):Prop where
 lt0:w0.heap.size<rb
 oAt:At w w0.heap.size o.cells
 rAt:At w rb rc
 own:w.ownsRow (rb+1) 5 1 v xs.length (xs.map (Value.int .u8))
 bel:Below w0.heap.size w0 w
theorem Rs.put {w0:World} {k:Array Value} {o:O} {rb:Nat} {w w1:World} {v v1:Value} {xs:List Int} {s:Int} {ob:Obj} (h:Rs w0 k o rb w v xs) (hown:w1.ownsRow (rb+1) 5 1 v1 (xs.length+1) (xs.map (Value.int .u8)++[.int .u8 s])) (hg:(w.alloc ob).grownBy w1 v.ownBlock) :
  Rs w0 k o rb w1 v1 (xs++[s]):=by
 have h0:=h.lt0;have hb:Below (rb+1) w w1:=((Below.refl _ w).alloc (by have:=h.rAt.lt;omega) ob).grown hg (by have:=h.rAt.lt;simp;omega) (fun b hb=>(h.own.lt b hb).1);refine ⟨h0,h.oAt.below hb (by omega),h.rAt.below hb (by omega),?_,h.bel.trans (hb.mono (by omega))⟩;simpa using hown
theorem Rs.slAt {w0:World} {k:Array Value} {o:O} {rb:Nat} {w:World} {v:Value} {xs:List Int} {f:Nat->Int} {n:Nat} (h:Rs w0 k o rb w v xs) (hn:xs.length=n) (hf:∀ j,j<n->xs[j]?=some (f j)):SlAt w v n f:=by
 subst hn;rcases Nat.eq_zero_or_pos xs.length with h0|h0
 ·left
  refine ⟨h0,?_⟩;rcases h.own.2 with ⟨rfl,_⟩|⟨g,cap,cur,rfl,_⟩
  ·exact ⟨_,_,rfl⟩
  ·rw [h0];exact ⟨_,_,rfl⟩
 ·right
  have hown:=h.own;obtain ⟨g,cap,rfl,hg,hlt⟩:=hown.form h0;refine ⟨g,cap,rfl,hlt,fun j hj=>?_⟩;rw [hown.cellAt j (by omega)];simp [hf j hj]
theorem info5:(Tryz.prog.info? 5).map (fun i=>(i.zero,i.size,i.bytes))=some (some (.int .u8 0),1,1):=by kernel_rfl
def rf (o:O) (j:Nat):Int:=if j=0 then o.a else o.b
theorem refReads_no (o:O) (w:World) (ho:o.Ok) (h:okO o=false):Calls Tryz.prog 129 #[o.val] w fun e w'=>e=.returned (.slice none 0 0)/\Below w.heap.size w w':=by
 have HC0:=fun w=>refCheck_any o w ho;rw [show ckE o=30 by simp [ckE,h]] at HC0;have HC:Hid _:=HC0;clear ho h HC0
 cases hk:kOf o.op with
 | none=>
  have HF:Hid _:=fun w=>of_no o.op w hk;clear hk;go_enter Tryz.func129,Tryz.ntmps129;go_wp2_with (first|(go_at_call 66;refine Calls.mono (HF.out _) ?_;rintro e w1 ⟨rfl,hb⟩;obtain ⟨a1,hb0,hz⟩:=one_new w _ _ hb;have HB:Hid (Below w.heap.size w w1):=hb0;have HO:Hid _:=a1;obtain ⟨o0,o1,o2,o3,o4⟩:=a1.o5;clear hb hb0 a1)|(go_at_call 67;refine Calls.mono (HC.out _) ?_;rintro e w2 ⟨rfl,hb⟩;obtain ⟨-,hb0,hz2⟩:=one_new w1 _ _ hb;have HB2:Hid (Below w.heap.size w w2):=HB.out.trans (hb0.mono (Nat.le_of_lt hz));clear hb hb0))
  go_ret
  exact ⟨rfl,HB2.out⟩
 | some k=>
  have HF:Hid _:=fun w=>of_yes o.op k w hk;clear hk;go_enter Tryz.func129,Tryz.ntmps129;go_wp2_with (first|(go_at_call 66;refine Calls.mono (HF.out _) ?_;rintro e w1 ⟨rfl,hb⟩;obtain ⟨a1,hb0,hz⟩:=one_new w _ _ hb;have HB:Hid (Below w.heap.size w w1):=hb0;have HO:Hid _:=a1;obtain ⟨o0,o1,o2,o3,o4⟩:=a1.o5;clear hb hb0 a1)|(go_at_call 67;refine Calls.mono (HC.out _) ?_;rintro e w2 ⟨rfl,hb⟩;obtain ⟨-,hb0,hz2⟩:=one_new w1 _ _ hb;have HB2:Hid (Below w.heap.size w w2):=HB.out.trans (hb0.mono (Nat.le_of_lt hz));clear hb hb0))
  go_ret
  exact ⟨rfl,HB2.out⟩
theorem refReads_0 (o:O) (k:K) (w:World) (ho:o.Ok) (hk:kOf o.op=some k) (hf:okF k o=true) (hA:k.A=false) (hB:k.B=false):Calls Tryz.prog 129 #[o.val] w fun e w'=>∃ v,e=.returned v/\SlAt w' v 0 (rf o)/\Below w.heap.size w w':=by
 have hO:okO o=true:=by rw [okO_some hk];exact hf
 have HC0:=fun w=>refCheck_any o w ho;rw [show ckE o=0 by simp [ckE,hO]] at HC0;have HC:Hid _:=HC0;have HF:Hid _:=fun w=>of_yes o.op k w hk;clear ho hO hf HC0 hk;obtain ⟨i0,hi,hi2⟩:=Option.map_eq_some_iff.1 info5;simp only [Prod.mk.injEq] at hi2;obtain ⟨hz0,hz1,hz2⟩:=hi2;have HI:Hid (Tryz.prog.info? 5=some i0/\i0.zero=some (.int .u8 0)/\i0.size=1/\i0.bytes=1):=⟨hi,hz0,hz1,hz2⟩;clear hi hz0 hz1 hz2;go_enter Tryz.func129,Tryz.ntmps129;go_wp2_with (first|(go_at_call 66;refine Calls.mono (HF.out _) ?_;rintro e w1 ⟨rfl,hb⟩;obtain ⟨a1,hb0,hz⟩:=one_new w _ _ hb;have HB:Hid (Below w.heap.size w w1):=hb0;have HO:Hid _:=a1;obtain ⟨o0,o1,o2,o3,o4⟩:=a1.o5;clear hb hb0 a1)|(go_at_call 67;refine Calls.mono (HC.out _) ?_;rintro e w2 ⟨rfl,hb⟩;obtain ⟨r1,hb0,hz2⟩:=one_new w1 _ _ hb;have HS:Hid (Rs w _ o w1.heap.size w2 (.slice none 0 0) []):=⟨hz,HO.out.below hb0 hz,r1,World.ownsRow_nil _ _ _ _,HB.out.trans (hb0.mono (Nat.le_of_lt hz))⟩;obtain ⟨c0,c1,c2,c3,c4,c5,c6⟩:=HS.out.rAt.r7;obtain ⟨o0,o1,o2,o3,o4⟩:=HS.out.oAt.o5;have hzr:=HS.out.rAt.lt;have hzo:=HS.out.oAt.lt;clear hb hb0 r1)|(at_builtin;refine wpList_append_lies _ rfl _ _ 191 rfl (w1.heap.size+1) 5 i0 (.int .u8 0) 1 1 Tryz.underlying191 HI.out.1 HI.out.2.1 HI.out.2.2.1 HI.out.2.2.2 rfl (by decide) _ _ _ rfl (HS.out.own.alloc _) ⟨w2.heap.size,0,none⟩ 1 1 [.int .u8 _] rfl rfl (World.news_of_block (heap_alloc_new w2 _)) (by simp [Value.oneCell']) (by decide) (by unfold maxLen;simp) (by simp) (by have:=HS.out.rAt.lt;simp;omega) (w2.heap.size+1) (by simp) ?_;intro g cap w2 hown1 hgrow hat hlt3;have HS:Hid (Rs w _ o w1.heap.size w2 _ _):=HS.out.put hown1 hgrow;obtain ⟨c0,c1,c2,c3,c4,c5,c6⟩:=HS.out.rAt.r7;obtain ⟨o0,o1,o2,o3,o4⟩:=HS.out.oAt.o5;have hzr:=HS.out.rAt.lt;have hzo:=HS.out.oAt.lt;clear hown1 hgrow hat hlt3))
 go_ret
 refine ⟨_,rfl,HS.out.slAt rfl (fun j hj=>?_),HS.out.bel⟩
 match j,hj with
 | _+0,h=>exact absurd h (by simp)
theorem refReads_1 (o:O) (k:K) (w:World) (ho:o.Ok) (hk:kOf o.op=some k) (hf:okF k o=true) (hA:k.A=true) (hB:k.B=false):Calls Tryz.prog 129 #[o.val] w fun e w'=>∃ v,e=.returned v/\SlAt w' v 1 (rf o)/\Below w.heap.size w w':=by
 have hO:okO o=true:=by rw [okO_some hk];exact hf
 have HC0:=fun w=>refCheck_any o w ho;rw [show ckE o=0 by simp [ckE,hO]] at HC0;have HC:Hid _:=HC0;have HF:Hid _:=fun w=>of_yes o.op k w hk;clear ho hO hf HC0 hk;obtain ⟨i0,hi,hi2⟩:=Option.map_eq_some_iff.1 info5;simp only [Prod.mk.injEq] at hi2;obtain ⟨hz0,hz1,hz2⟩:=hi2;have HI:Hid (Tryz.prog.info? 5=some i0/\i0.zero=some (.int .u8 0)/\i0.size=1/\i0.bytes=1):=⟨hi,hz0,hz1,hz2⟩;clear hi hz0 hz1 hz2;go_enter Tryz.func129,Tryz.ntmps129;go_wp2_with (first|(go_at_call 66;refine Calls.mono (HF.out _) ?_;rintro e w1 ⟨rfl,hb⟩;obtain ⟨a1,hb0,hz⟩:=one_new w _ _ hb;have HB:Hid (Below w.heap.size w w1):=hb0;have HO:Hid _:=a1;obtain ⟨o0,o1,o2,o3,o4⟩:=a1.o5;clear hb hb0 a1)|(go_at_call 67;refine Calls.mono (HC.out _) ?_;rintro e w2 ⟨rfl,hb⟩;obtain ⟨r1,hb0,hz2⟩:=one_new w1 _ _ hb;have HS:Hid (Rs w _ o w1.heap.size w2 (.slice none 0 0) []):=⟨hz,HO.out.below hb0 hz,r1,World.ownsRow_nil _ _ _ _,HB.out.trans (hb0.mono (Nat.le_of_lt hz))⟩;obtain ⟨c0,c1,c2,c3,c4,c5,c6⟩:=HS.out.rAt.r7;obtain ⟨o0,o1,o2,o3,o4⟩:=HS.out.oAt.o5;have hzr:=HS.out.rAt.lt;have hzo:=HS.out.oAt.lt;clear hb hb0 r1)|(at_builtin;refine wpList_append_lies _ rfl _ _ 191 rfl (w1.heap.size+1) 5 i0 (.int .u8 0) 1 1 Tryz.underlying191 HI.out.1 HI.out.2.1 HI.out.2.2.1 HI.out.2.2.2 rfl (by decide) _ _ _ rfl (HS.out.own.alloc _) ⟨w2.heap.size,0,none⟩ 1 1 [.int .u8 _] rfl rfl (World.news_of_block (heap_alloc_new w2 _)) (by simp [Value.oneCell']) (by decide) (by unfold maxLen;simp) (by simp) (by have:=HS.out.rAt.lt;simp;omega) (w2.heap.size+1) (by simp) ?_;intro g cap w2 hown1 hgrow hat hlt3;have HS:Hid (Rs w _ o w1.heap.size w2 _ _):=HS.out.put hown1 hgrow;obtain ⟨c0,c1,c2,c3,c4,c5,c6⟩:=HS.out.rAt.r7;obtain ⟨o0,o1,o2,o3,o4⟩:=HS.out.oAt.o5;have hzr:=HS.out.rAt.lt;have hzo:=HS.out.oAt.lt;clear hown1 hgrow hat hlt3))
 go_ret
 refine ⟨_,rfl,HS.out.slAt rfl (fun j hj=>?_),HS.out.bel⟩
 match j,hj with
 | 0,_=>rfl
theorem refReads_1e (o:O) (k:K) (w:World) (ho:o.Ok) (hk:kOf o.op=some k) (hf:okF k o=true) (hA:k.A=true) (hB:k.B=true) (hE:(o.b==o.a)=true):Calls Tryz.prog 129 #[o.val] w fun e w'=>∃ v,e=.returned v/\SlAt w' v 1 (rf o)/\Below w.heap.size w w':=by
 have hO:okO o=true:=by rw [okO_some hk];exact hf
 have HC0:=fun w=>refCheck_any o w ho;rw [show ckE o=0 by simp [ckE,hO]] at HC0;have HC:Hid _:=HC0;have HF:Hid _:=fun w=>of_yes o.op k w hk;clear ho hO hf HC0 hk;obtain ⟨i0,hi,hi2⟩:=Option.map_eq_some_iff.1 info5;simp only [Prod.mk.injEq] at hi2;obtain ⟨hz0,hz1,hz2⟩:=hi2;have HI:Hid (Tryz.prog.info? 5=some i0/\i0.zero=some (.int .u8 0)/\i0.size=1/\i0.bytes=1):=⟨hi,hz0,hz1,hz2⟩;clear hi hz0 hz1 hz2;go_enter Tryz.func129,Tryz.ntmps129;go_wp2_with (first|(go_at_call 66;refine Calls.mono (HF.out _) ?_;rintro e w1 ⟨rfl,hb⟩;obtain ⟨a1,hb0,hz⟩:=one_new w _ _ hb;have HB:Hid (Below w.heap.size w w1):=hb0;have HO:Hid _:=a1;obtain ⟨o0,o1,o2,o3,o4⟩:=a1.o5;clear hb hb0 a1)|(go_at_call 67;refine Calls.mono (HC.out _) ?_;rintro e w2 ⟨rfl,hb⟩;obtain ⟨r1,hb0,hz2⟩:=one_new w1 _ _ hb;have HS:Hid (Rs w _ o w1.heap.size w2 (.slice none 0 0) []):=⟨hz,HO.out.below hb0 hz,r1,World.ownsRow_nil _ _ _ _,HB.out.trans (hb0.mono (Nat.le_of_lt hz))⟩;obtain ⟨c0,c1,c2,c3,c4,c5,c6⟩:=HS.out.rAt.r7;obtain ⟨o0,o1,o2,o3,o4⟩:=HS.out.oAt.o5;have hzr:=HS.out.rAt.lt;have hzo:=HS.out.oAt.lt;clear hb hb0 r1)|(at_builtin;refine wpList_append_lies _ rfl _ _ 191 rfl (w1.heap.size+1) 5 i0 (.int .u8 0) 1 1 Tryz.underlying191 HI.out.1 HI.out.2.1 HI.out.2.2.1 HI.out.2.2.2 rfl (by decide) _ _ _ rfl (HS.out.own.alloc _) ⟨w2.heap.size,0,none⟩ 1 1 [.int .u8 _] rfl rfl (World.news_of_block (heap_alloc_new w2 _)) (by simp [Value.oneCell']) (by decide) (by unfold maxLen;simp) (by simp) (by have:=HS.out.rAt.lt;simp;omega) (w2.heap.size+1) (by simp) ?_;intro g cap w2 hown1 hgrow hat hlt3;have HS:Hid (Rs w _ o w1.heap.size w2 _ _):=HS.out.put hown1 hgrow;obtain ⟨c0,c1,c2,c3,c4,c5,c6⟩:=HS.out.rAt.r7;obtain ⟨o0,o1,o2,o3,o4⟩:=HS.out.oAt.o5;have hzr:=HS.out.rAt.lt;have hzo:=HS.out.oAt.lt;clear hown1 hgrow hat hlt3))
 go_ret
 refine ⟨_,rfl,HS.out.slAt rfl (fun j hj=>?_),HS.out.bel⟩
 match j,hj with
 | 0,_=>rfl
theorem refReads_2 (o:O) (k:K) (w:World) (ho:o.Ok) (hk:kOf o.op=some k) (hf:okF k o=true) (hA:k.A=true) (hB:k.B=true) (hE:(o.b==o.a)=false):Calls Tryz.prog 129 #[o.val] w fun e w'=>∃ v,e=.returned v/\SlAt w' v 2 (rf o)/\Below w.heap.size w w':=by
 have hO:okO o=true:=by rw [okO_some hk];exact hf
 have HC0:=fun w=>refCheck_any o w ho;rw [show ckE o=0 by simp [ckE,hO]] at HC0;have HC:Hid _:=HC0;have HF:Hid _:=fun w=>of_yes o.op k w hk;clear ho hO hf HC0 hk;obtain ⟨i0,hi,hi2⟩:=Option.map_eq_some_iff.1 info5;simp only [Prod.mk.injEq] at hi2;obtain ⟨hz0,hz1,hz2⟩:=hi2;have HI:Hid (Tryz.prog.info? 5=some i0/\i0.zero=some (.int .u8 0)/\i0.size=1/\i0.bytes=1):=⟨hi,hz0,hz1,hz2⟩;clear hi hz0 hz1 hz2;go_enter Tryz.func129,Tryz.ntmps129;go_wp2_with (first|(go_at_call 66;refine Calls.mono (HF.out _) ?_;rintro e w1 ⟨rfl,hb⟩;obtain ⟨a1,hb0,hz⟩:=one_new w _ _ hb;have HB:Hid (Below w.heap.size w w1):=hb0;have HO:Hid _:=a1;obtain ⟨o0,o1,o2,o3,o4⟩:=a1.o5;clear hb hb0 a1)|(go_at_call 67;refine Calls.mono (HC.out _) ?_;rintro e w2 ⟨rfl,hb⟩;obtain ⟨r1,hb0,hz2⟩:=one_new w1 _ _ hb;have HS:Hid (Rs w _ o w1.heap.size w2 (.slice none 0 0) []):=⟨hz,HO.out.below hb0 hz,r1,World.ownsRow_nil _ _ _ _,HB.out.trans (hb0.mono (Nat.le_of_lt hz))⟩;obtain ⟨c0,c1,c2,c3,c4,c5,c6⟩:=HS.out.rAt.r7;obtain ⟨o0,o1,o2,o3,o4⟩:=HS.out.oAt.o5;have hzr:=HS.out.rAt.lt;have hzo:=HS.out.oAt.lt;clear hb hb0 r1)|(at_builtin;refine wpList_append_lies _ rfl _ _ 191 rfl (w1.heap.size+1) 5 i0 (.int .u8 0) 1 1 Tryz.underlying191 HI.out.1 HI.out.2.1 HI.out.2.2.1 HI.out.2.2.2 rfl (by decide) _ _ _ rfl (HS.out.own.alloc _) ⟨w2.heap.size,0,none⟩ 1 1 [.int .u8 _] rfl rfl (World.news_of_block (heap_alloc_new w2 _)) (by simp [Value.oneCell']) (by decide) (by unfold maxLen;simp) (by simp) (by have:=HS.out.rAt.lt;simp;omega) (w2.heap.size+1) (by simp) ?_;intro g cap w2 hown1 hgrow hat hlt3;have HS:Hid (Rs w _ o w1.heap.size w2 _ _):=HS.out.put hown1 hgrow;obtain ⟨c0,c1,c2,c3,c4,c5,c6⟩:=HS.out.rAt.r7;obtain ⟨o0,o1,o2,o3,o4⟩:=HS.out.oAt.o5;have hzr:=HS.out.rAt.lt;have hzo:=HS.out.oAt.lt;clear hown1 hgrow hat hlt3))
 go_ret
 refine ⟨_,rfl,HS.out.slAt rfl (fun j hj=>?_),HS.out.bel⟩
 match j,hj with
 | 0,_=>rfl
 | 1,_=>rfl
theorem refReads_yes (o:O) (k:K) (w:World) (ho:o.Ok) (hk:kOf o.op=some k) (hf:okF k o=true) (hBA:k.A=false->k.B=false):Calls Tryz.prog 129 #[o.val] w fun e w'=>∃ v,e=.returned v/\SlAt w' v (rcN k o) (rf o)/\Below w.heap.size w w':=by
 have hc:(o.b==o.a)=(o.a==o.b):=by rw [Bool.eq_iff_iff];simp;omega
 cases hA:k.A
 ·rw [show rcN k o=0 by simp [rcN,hA]];exact refReads_0 o k w ho hk hf hA (hBA hA)
 ·cases hB:k.B
  ·rw [show rcN k o=1 by simp [rcN,hA,hB]];exact refReads_1 o k w ho hk hf hA hB
  ·cases hE:(o.b==o.a)
   ·rw [show rcN k o=2 by simp [rcN,hA,hB,<- hc,hE]];exact refReads_2 o k w ho hk hf hA hB hE
   ·rw [show rcN k o=1 by simp [rcN,hA,hB,<- hc,hE]];exact refReads_1e o k w ho hk hf hA hB hE
theorem At.f6 {w:World} {b:Nat} {cs:Array Value} (h:At w b cs):w.frozen? ⟨b,0,none⟩=false/\w.frozen? ⟨b,3,none⟩=false:=⟨h.f 0,h.f 3⟩
structure Cx (w wr V:World) (x:Bk) (u0 u3:Value):Prop where
 b:Below wr.heap.size wr V
 lt:wr.heap.size<V.heap.size
 c:At V wr.heap.size #[u0,.int .i8 x.fin,.int .u8 x.a,u3,.int .i64 x.thn,.int .i64 x.els]
theorem Cx.start {w wr V:World} {x:Bk} {u0 u3:Value} {t:TypeId} (hb:Below (wr.alloc (.cells #[u0,.int .i8 x.fin,.int .u8 x.a,u3,.int .i64 x.thn,.int .i64 x.els] t)).heap.size (wr.alloc (.cells #[u0,.int .i8 x.fin,.int .u8 x.a,u3,.int .i64 x.thn,.int .i64 x.els] t)) V):Cx w wr V x u0 u3:=by
 obtain ⟨a1,b1,z1⟩:=one_new wr _ _ hb;exact ⟨b1,z1,a1⟩
theorem Cx.set0 {w wr V:World} {x:Bk} {u0 u3:Value} (h:Cx w wr V x u0 u3) (v:Value):Cx w wr (V.setCell ⟨wr.heap.size,0,none⟩ v) x v u3:=
 ⟨h.b.setCell (Nat.le_refl _) _,by simpa using h.lt,h.c.set (j:=0) (by simp) v⟩
theorem Cx.set3 {w wr V:World} {x:Bk} {u0 u3:Value} (h:Cx w wr V x u0 u3) (v:Value):Cx w wr (V.setCell ⟨wr.heap.size,3,none⟩ v) x u0 v:=
 ⟨h.b.setCell (Nat.le_refl _) _,by simpa using h.lt,h.c.set (j:=3) (by simp) v⟩
theorem Cx.go {w wr V V':World} {x:Bk} {u0 u3:Value} (h:Cx w wr V x u0 u3) (hb:Below V.heap.size V V'):Cx w wr V' x u0 u3:=
 ⟨h.b.trans (hb.mono h.b.size),Nat.lt_of_lt_of_le h.lt hb.size,h.c.below hb h.lt⟩
theorem Cq.box {w V V':World} {ao:Option Addr} {cap:Nat} {ps:List Bk} {k:Nat} {v:Value} {ls:List Pl} (h:Cq w V ao cap ps k v ls) (hg:V.grownBy V' v.ownBlock):At V' (w.heap.size+1+1) #[v]:=
 h.o.below ((Below.refl _ _).grown hg h.z fun b hb=>(h.row.lt b hb).1) (by omega)
theorem copiedProgram_any (ao:Option Addr) (cap:Nat) (ps:List Bk) (w:World) (h:PAt w ao ps) (hs:Small ps) :
  Calls Tryz.prog 15 #[.agg #[.slice ao ps.length cap]] w fun e w'=>∃ a c,e=.returned (.agg #[.slice a ps.length c])/\PAt w' a ps/\Below w.heap.size w w':=by
 obtain ⟨i0,hi,hi2⟩:=Option.map_eq_some_iff.1 info25;simp only [Prod.mk.injEq] at hi2;obtain ⟨hz0,hz1,hz2⟩:=hi2;have HI:Hid (Tryz.prog.info? 25=some i0/\i0.zero=some (.agg #[.slice none 0 0,.int .i8 0,.int .u8 0,.slice none 0 0,.int .i64 0,.int .i64 0])/\i0.size=6/\i0.bytes=72):=⟨hi,hz0,hz1,hz2⟩;clear hi hz0 hz1 hz2;have hn:=hs.n;have HS:Hid (Small ps):=hs;have HP:Hid (PAt w ao ps):=h;clear h hs;have HQ:Hid (Cq w (((w.alloc (.cells #[.slice ao ps.length cap] 40)).alloc (.cells #[.slice none 0 0] 40)).alloc (.cells #[.slice none 0 0] 40)) ao cap ps 0 (.slice none 0 0) []):=Cq.start w ao cap ps 40 40 40;go_enter Tryz.func15,Tryz.ntmps15;go_wp2
 generalize (((w.alloc (.cells #[.slice ao ps.length cap] 40)).alloc (.cells #[.slice none 0 0] 40)).alloc (.cells #[.slice none 0 0] 40))=V at *
 go_loopw [4] (fun i wr=>∃ (k:Nat) (v:Value) (ls:List Pl),k<=ps.length/\i=.int .i64 k/\Cq w wr ao cap ps k v ls) (fun i _=>ps.length-(intOf i).toNat)
 case atStart=>exact ⟨0,_,[],by omega,rfl,HQ.out⟩
 case round=>
  rename World=>wr;obtain ⟨k,v,ls,hk,rfl,hq⟩:=hrel;clear HQ;have HQ:Hid (Cq w wr ao cap ps k v ls):=hq;have cp:=hq.p.c 0 _ rfl;have zz:=hq.z
  by_cases hlt:k<ps.length
  ·obtain ⟨b,f,rfl,hz,hx⟩:=HP.out.is (by omega);obtain ⟨⟨oa,oc,ba,bc⟩,hp,h5⟩:=hx k hlt;obtain ⟨c0,c1,c2,c3,c4,c5⟩:=hp.below hq.b hz;simp only at c0 c3
   obtain ⟨-,-,-,s4,s5⟩:=HS.out.l ps[k] (List.getElem_mem hlt);have HO:Hid (∀ w1,Below w.heap.size w w1->Calls Tryz.prog 7 #[.slice oa ps[k].ops.length oc] w1 fun e w'=>∃ a c,e=.returned (.slice a ps[k].ops.length c)/\w'.ownsRow w1.heap.size 60 5 (.slice a ps[k].ops.length c) ps[k].ops.length (ocells ps[k].ops)/\Below w1.heap.size w1 w'):=fun w1 hb=>copiedOps_any _ _ _ _ (h5.o.below hb) s4;have HY:Hid (∀ w1,Below w.heap.size w w1->Calls Tryz.prog 7 #[.slice ba ps[k].body.length bc] w1 fun e w'=>∃ a c,e=.returned (.slice a ps[k].body.length c)/\w'.ownsRow w1.heap.size 60 5 (.slice a ps[k].body.length c) ps[k].body.length (ocells ps[k].body)/\Below w1.heap.size w1 w'):=fun w1 hb=>copiedOps_any _ _ _ _ (h5.b.below hb) s5;clear hx hp h5 HP hq s4 s5;have HXK:Hid (∀ {V':World} {v':Value} {V:World} {pl:Pl},Cq w V (some ⟨b,f,none⟩) cap ps k v ls->LRow V (w.heap.size+3) pl.oa pl.oc ps[k].ops->LRow V (w.heap.size+3) pl.ba pl.bc ps[k].body->V.grownBy V' v.ownBlock->V'.ownsRow (w.heap.size+3) 25 6 v' (k+1) (bcells (ps.take k) ls++[.slice pl.oa ps[k].ops.length pl.oc,.int .i8 ps[k].fin,.int .u8 ps[k].a,.slice pl.ba ps[k].body.length pl.bc,.int .i64 ps[k].thn,.int .i64 ps[k].els])->Cq w (V'.setCell ⟨w.heap.size+1+1,0,none⟩ v') (some ⟨b,f,none⟩) cap ps (k+1) v' (ls++[pl])):=fun h1 h2 h3 h4 h5=>h1.put hlt h2 h3 h4 h5;generalize ps[k]=x at *;go_wp2_with (first
    | (go_at_call 7;refine Calls.mono (HO.out _ (HQ.out.b.alloc HQ.out.b.size _)) ?_;rintro e w2 ⟨a1,d1,rfl,hr1,hb⟩;have HX:Hid (Cx w wr w2 x (.slice oa x.ops.length oc) (.slice ba x.body.length bc)):=Cx.start hb;have HR1:Hid (LRow w2 (wr.heap.size+1) a1 d1 x.ops):=(by rw [show wr.heap.size+1=(wr.alloc (.cells #[.slice oa x.ops.length oc,.int .i8 x.fin,.int .u8 x.a,.slice ba x.body.length bc,.int .i64 x.thn,.int .i64 x.els] 25)).heap.size by simp];exact hr1);clear hb hr1 HO c0 c1 c2 c3 c4 c5 cp;obtain ⟨c0,c1,c2,c3,c4,c5⟩:=HX.out.c.b6;obtain ⟨f0,f3⟩:=HX.out.c.f6;have zx:=HX.out.lt;have g3:=(HX.out.set0 (.slice a1 x.ops.length d1)).c.c 3 _ rfl)
    | (go_at_call 7;refine Calls.mono (HY.out _ (HQ.out.b.trans ((HX.out.set0 (.slice a1 x.ops.length d1)).b.mono HQ.out.b.size))) ?_;rintro e w3 ⟨a2,d2,rfl,hr2,hb⟩;have HX3:Hid (Cx w wr w3 x (.slice a1 x.ops.length d1) (.slice ba x.body.length bc)):=(HX.out.set0 _).go hb;have HR1':Hid (LRow w3 (wr.heap.size+1) a1 d1 x.ops):=row_below (row_set HR1.out (Nat.lt_succ_self _) _) hb;have HR2:Hid (LRow w3 (wr.heap.size+1) a2 d2 x.body):=row_le hr2 (by rw [World.size_setCell];exact zx);clear hb hr2 HY HX HR1 c0 c1 c2 c3 c4 c5 f0 f3 zx g3;have k3:=HX3.out.c.c 3 _ rfl;have l3:=HX3.out.c.f 3;have zx:=HX3.out.lt;have HX4:Hid (Cx w wr (w3.setCell ⟨wr.heap.size,3,none⟩ (.slice a2 x.body.length d2)) x (.slice a1 x.ops.length d1) (.slice a2 x.body.length d2)):=HX3.out.set3 _;have HQ4:Hid (Cq w (w3.setCell ⟨wr.heap.size,3,none⟩ (.slice a2 x.body.length d2)) (some ⟨b,f,none⟩) cap ps k v ls):=HQ.out.go HX4.out.b;obtain ⟨c0,c1,c2,c3,c4,c5⟩:=HX4.out.c.b6;have co:=HQ4.out.o.c 0 _ rfl)
    | (at_builtin;refine wpList_append_lies _ rfl (.tmp 27) (.tmp 29) 38 rfl (w.heap.size+3) 25 i0 (.agg #[.slice none 0 0,.int .i8 0,.int .u8 0,.slice none 0 0,.int .i64 0,.int .i64 0]) 6 72 Tryz.underlying38 HI.out.1 HI.out.2.1 HI.out.2.2.1 HI.out.2.2.2 rfl (by decide) _ _ _ rfl (HQ4.out.row.alloc _) ⟨w3.heap.size,0,none⟩ 1 1 [.slice a1 x.ops.length d1,.int .i8 x.fin,.int .u8 x.a,.slice a2 x.body.length d2,.int .i64 x.thn,.int .i64 x.els] rfl rfl (by have hh:=heap_alloc_new (w3.setCell ⟨wr.heap.size,3,none⟩ (.slice a2 x.body.length d2)) (Obj.cells #[.slice a1 x.ops.length d1,.int .i8 x.fin,.int .u8 x.a,.slice a2 x.body.length d2,.int .i64 x.thn,.int .i64 x.els] 25);rw [World.size_setCell] at hh;exact World.news_of_block hh) (by simp [Value.oneCell']) (by decide) (by unfold maxLen;omega) (by omega) (by simp;omega) (w3.heap.size+1) (by simp) ?_;intro g cap4 w4 hown4 hgrow4 hat4 hlt4;have HQ5:Hid (Cq w ((w3.setCell ⟨wr.heap.size,3,none⟩ (.slice a2 x.body.length d2)).alloc (Obj.cells #[.slice a1 x.ops.length d1,.int .i8 x.fin,.int .u8 x.a,.slice a2 x.body.length d2,.int .i64 x.thn,.int .i64 x.els] 25)) (some ⟨b,f,none⟩) cap ps k v ls):=HQ4.out.go ((Below.refl _ _).alloc (Nat.le_refl _) _);have hbx:=HQ5.out.box hgrow4;have co4:=hbx.c 0 _ rfl;have fo4:=hbx.f 0;have zo4:=hbx.lt;have HF:Hid (Cq w (w4.setCell ⟨w.heap.size+1+1,0,none⟩ (.slice (some ⟨g,0,none⟩) (k+1) cap4)) (some ⟨b,f,none⟩) cap ps (k+1) (.slice (some ⟨g,0,none⟩) (k+1) cap4) (ls++[⟨a1,d1,a2,d2⟩])):=HXK.out (pl:=⟨a1,d1,a2,d2⟩) HQ5.out (row_le ((row_set HR1'.out (Nat.lt_succ_self _) _).alloc _) (by omega)) (row_le ((row_set HR2.out (Nat.lt_succ_self _) _).alloc _) (by omega)) hgrow4 hown4;clear hown4 hgrow4 hat4 hlt4 hbx c0 c1 c2 c3 c4 c5 co HQ4 HQ5))
   go_roundw
   case rel=>exact ⟨k+1,_,_,by omega,by go_num,HF.out⟩
   case measure=>simp [intOf];omega
  ·obtain rfl:k=ps.length:=by omega
   obtain ⟨a,c,e0,hpa⟩:=HQ.out.done HS.out v;have HA:Hid (PAt (wr.setCell ⟨w.heap.size+1,0,none⟩ v) a ps):=hpa;subst e0;have co:=hq.o.c 0 _ rfl;have r0:=hq.r.c 0 _ rfl;have rf:=hq.r.f 0;have rz:=hq.r.lt;clear hq hpa HP;go_wp2
   refine bodyPost_ret (v:=.agg #[.slice a ps.length c]) (by simp [results,Tryz.results15,go_sem,r0]) rfl ⟨a,c,rfl,HA.out,HQ.out.b.setCell (by show w.heap.size<=w.heap.size+1;omega) _⟩
end Go.Proofs.YtcmlnemokckbdaaGreatDoor.L8.Op
