/- Parts Pn Ps. -/
import Derived.Test.YtpdaknbmcpmhjaaGreatDoorN29
import Derived.Test.YtpdaknbmcpmhjaaGreatDoorN04
set_option maxRecDepth 20000
set_option maxHeartbeats 4000000
namespace Go.Proofs.YtpdaknbmcpmhjaaGreatDoor.Op
open Go.ChangeShapes Go.WideShapes Go.ChangeAt Go.RowKit
structure UAt (w:World) (q:Nat) (u:Nat->Bool):Prop where
 c:∀ k:Nat,k<4->w.cell? ⟨q,k,none⟩=some (.bool (u k))
 f:∀ k:Nat,w.frozen? ⟨q,k,none⟩=false
 lt:q<w.heap.size
theorem UAt.below {w w':World} {q B:Nat} {u:Nat->Bool} (h:UAt w q u) (hb:Below B w w') (z:q<B):UAt w' q u:=
 ⟨fun k hk=>by rw [(bcell hb).1 _ _ z];exact h.c k hk,fun k=>by rw [(bcell hb).2 _ _ z];exact h.f k,Nat.lt_of_lt_of_le h.lt hb.size⟩
theorem UAt.of {w:World} {q:Nat} {u:Nat->Bool} (h:At w q #[.bool (u 0),.bool (u 1),.bool (u 2),.bool (u 3)]):UAt w q u:=
 ⟨fun k hk=>match k,hk with|0,_=>h.c 0 _ rfl|1,_=>h.c 1 _ rfl|2,_=>h.c 2 _ rfl|3,_=>h.c 3 _ rfl,h.f,h.lt⟩
theorem UAt.mark {w:World} {q n:Nat} {u:Nat->Bool} (h:UAt w q u) (hn:n<4):UAt (w.setCell ⟨q,n,none⟩ (.bool true)) q (fun c=>u c || decide (n=c)):=by
 refine ⟨fun k hk=>?_,fun k=>by rw [World.frozen?_setCell];exact h.f k,by simpa using h.lt⟩
 by_cases e:n=k
 ·subst e;rw [World.cell?_setCell_same (h:=h.c n hn)];simp
 ·rw [World.cell?_setCell_other]
  ·rw [h.c k hk];simp [e]
  ·intro h;injection h with _ h2;exact e h2
theorem UAt.other {w:World} {q b n:Nat} {u:Nat->Bool} {v:Value} (h:UAt w q u) (hn:b≠q):UAt (w.setCell ⟨b,n,none⟩ v) q u:=by
 refine ⟨fun k hk=>?_,fun k=>by rw [World.frozen?_setCell];exact h.f k,by simpa using h.lt⟩;rw [World.cell?_setCell_other]
 ·exact h.c k hk
 ·intro h;injection h with h1;exact hn h1
def mark (u:Nat->Bool) (o:O):Nat->Bool:=fun c=>u c || (clB o.op&&decide (clV o.op=c))
def marks (u:Nat->Bool) (xs:List O):Nat->Bool:=xs.foldl mark u
def markB (u:Nat->Bool) (x:Bk):Nat->Bool:=marks (marks u x.ops) x.body
def u0:Nat->Bool:=fun c=>decide (c=3)
def useL (ps:List Bk):Nat->Bool:=ps.foldl markB u0
theorem marks_succ {u:Nat->Bool} {xs:List O} {k:Nat} (h:k<xs.length):marks u (xs.take (k+1))=mark (marks u (xs.take k)) xs[k]:=by
 unfold marks;rw [List.take_succ_eq_append_getElem h,List.foldl_append];rfl
def useT (ps:List Bk) (k:Nat):Nat->Bool:=(ps.take k).foldl markB u0
theorem useT_succ {ps:List Bk} {k:Nat} (h:k<ps.length):useT ps (k+1)=markB (useT ps k) ps[k]:=by
 unfold useT;rw [List.take_succ_eq_append_getElem h,List.foldl_append];rfl
theorem useT_all (ps:List Bk):useT ps ps.length=useL ps:=by simp [useT,useL]
structure Us (w wr:World) (u:Nat->Bool):Prop where
 b:Below w.heap.size w wr
 r:UAt wr (w.heap.size+1) fun _=>false
 u:UAt wr (w.heap.size+1+1) u
theorem Us.below {w wr w2:World} {u:Nat->Bool} (h:Us w wr u) (hb:Below wr.heap.size wr w2):Us w w2 u:=
 ⟨h.b.trans (hb.mono h.b.size),h.r.below hb h.r.lt,h.u.below hb h.u.lt⟩
theorem Us.mark {w wr:World} {u:Nat->Bool} {n:Nat} (h:Us w wr u) (hn:n<4):Us w (wr.setCell ⟨w.heap.size+1+1,n,none⟩ (.bool true)) (fun c=>u c || decide (n=c)):=
 ⟨h.b.setCell (by show w.heap.size<=w.heap.size+1+1;omega) _,h.r.other (by omega),h.u.mark hn⟩
theorem Us.start (w:World) (c0:Array Value) (t0 t1 t2:TypeId):Us w (((w.alloc (.cells c0 t0)).alloc (.cells #[.bool false,.bool false,.bool false,.bool false] t1)).alloc (.cells #[.bool false,.bool false,.bool false,.bool true] t2)) u0:=by
 have h1:=(At.new (w.alloc (.cells c0 t0)) #[.bool false,.bool false,.bool false,.bool false] t1).alloc (.cells #[.bool false,.bool false,.bool false,.bool true] t2);have h2:=At.new ((w.alloc (.cells c0 t0)).alloc (.cells #[.bool false,.bool false,.bool false,.bool false] t1)) #[.bool false,.bool false,.bool false,.bool true] t2;rw [show (w.alloc (.cells c0 t0)).heap.size=w.heap.size+1 by simp] at h1;rw [show ((w.alloc (.cells c0 t0)).alloc (.cells #[.bool false,.bool false,.bool false,.bool false] t1)).heap.size=w.heap.size+1+1 by simp] at h2;exact ⟨((Below.refl _ _).alloc (Nat.le_refl _) _).alloc (by simp) _ |>.alloc (by simp;omega) _,UAt.of h1,UAt.of h2⟩
theorem ix2_0 (a b:Option Addr) (n c m d:Nat) (w:World):(Instr.index 212 (.agg #[.slice a n c,.slice b m d]) (.int .i64 0)).run Tryz.prog w=.ok (.slice a n c) w:=by kernel_rfl
theorem ix2_1 (a b:Option Addr) (n c m d:Nat) (w:World):(Instr.index 212 (.agg #[.slice a n c,.slice b m d]) (.int .i64 1)).run Tryz.prog w=.ok (.slice b m d) w:=by kernel_rfl
theorem clV_in {d:Int} (h:clB d=true):∃ n:Nat,n<4/\clV d=n:=by
 unfold clB at h
 cases hk:kOf d with
 | none=>rw [hk] at h;cases h
 | some k=>
  rw [hk] at h
  have:=cls_in hk
  have e:¬ k.cls = -1:=by simpa using h
  refine ⟨k.cls.toNat,by omega,?_⟩;simp [clV,hk,e]
  omega
theorem mark_yes {u:Nat->Bool} {o:O} {n:Nat} (h:clB o.op=true) (hn:clV o.op=n):(fun c=>u c || decide (n=c))=mark u o:=by
 funext c
 simp [mark,h,hn]
 congr 1
 rw [Bool.eq_iff_iff];simp;omega
theorem mark_no {u:Nat->Bool} {o:O} (h:clB o.op=false):u=mark u o:=by
 funext c;simp [mark,h]
theorem classes_any (ao:Option Addr) (cap:Nat) (ps:List Bk) (w:World) (h:PAt w ao ps) :
  Calls Tryz.prog 72 #[.agg #[.slice ao ps.length cap]] w fun e w'=>e=.returned (.agg #[.bool (useL ps 0),.bool (useL ps 1),.bool (useL ps 2),.bool (useL ps 3)])/\Below w.heap.size w w':=by
 have hlen:=h.len;have HP:Hid _:=h;clear h;go_enter Tryz.func72,Tryz.ntmps72;go_wp2
 have HS0:=Us.start w #[Value.slice ao ps.length cap] 24 129 129;generalize (((w.alloc (Obj.cells #[Value.slice ao ps.length cap] 24)).alloc (Obj.cells #[Value.bool false,Value.bool false,Value.bool false,Value.bool false] 129)).alloc (Obj.cells #[Value.bool false,Value.bool false,Value.bool false,Value.bool true] 129))=V at *;have HS:Hid _:=HS0;clear HS0
 go_loopw [16] (fun i wr=>∃ k:Nat,k<=ps.length/\i=.int .i64 k/\Us w wr (useT ps k)) (fun i _=>ps.length-(intOf i).toNat)
 case atStart=>exact ⟨0,by omega,rfl,HS.out⟩
 case round=>
  rename_i wr;obtain ⟨k,hk,rfl,hus⟩:=hrel
  by_cases hlt:k<ps.length
  ·obtain ⟨b,f,rfl,hz,hx⟩:=HP.out.is (by omega);obtain ⟨⟨oa,oc,ba,bc⟩,hp,h5⟩:=hx k hlt;obtain ⟨c0,c1,c2,c3,c4,c5⟩:=hp.below hus.b hz;simp only at c0 c3
   have HI:Hid _:=h5;have HU:Hid _:=hus;have HT:Hid _:=useT_succ hlt;clear hx hp h5 HP hus HS;generalize hxk:ps[k]=x at *;clear hxk;generalize useT ps k=u at *;go_wp2
   generalize hV2:wr.alloc (.cells (x.cells ⟨oa,oc,ba,bc⟩) 36)=V2 at *;have HU2:Hid (Us w V2 u):=by rw [<- hV2];exact HU.out.below ((Below.refl _ _).alloc (Nat.le_refl _) _)
   clear HU hV2 c0 c1 c2 c3 c4 c5;have j0:=ix2_0;have j1:=ix2_1
   go_loopw [25] (fun i wz=>(i=.int .i64 0/\Us w wz u)\/(i=.int .i64 1/\Us w wz (marks u x.ops))\/(i=.int .i64 2/\Us w wz (markB u x))) (fun i _=>2-(intOf i).toNat)
   case atStart=>exact .inl ⟨rfl,HU2.out⟩
   case round=>
    rename World=>wz;rcases hrel with ⟨rfl,hus⟩|⟨rfl,hus⟩|⟨rfl,hus⟩
    ·have HU3:Hid _:=hus;have HL:OpsAt w oa x.ops:=HI.out.o;clear hus HU2 HI;have hll:=HL.len;have HL:Hid _:=HL;generalize x.ops=xs at *;generalize hvu:u=v at *;have HVU:Hid (u=v):=hvu;clear hvu;go_wp2
     go_loopw [30] (fun i wy=>∃ m:Nat,m<=xs.length/\i=.int .i64 m/\Us w wy (marks v (xs.take m))) (fun i _=>xs.length-(intOf i).toNat)
     case atStart=>exact ⟨0,by omega,rfl,HU3.out⟩
     case round=>
      rename World=>wy;obtain ⟨m,hm,rfl,hus⟩:=hrel
      by_cases hmt:m<xs.length
      ·obtain ⟨b2,f2,rfl,z2,hx2⟩:=HL.out.is (by omega);obtain ⟨c0,c1,c2,c3,c4⟩:=(hx2 m hmt).below hus.b z2;have ho:=HL.out.ok xs[m] (List.getElem_mem hmt);have HS:Hid _:=marks_succ (u:=v) hmt;have HC:Hid (∀ w,Calls Tryz.prog 28 #[.int .i8 xs[m].op] w fun e w'=>e=.returned (.tuple #[.int .i64 (clV xs[m].op),.bool (clB xs[m].op)])/\Below w.heap.size w w'):=fun w=>class_any _ w ho.op0 ho.op1;have HU:Hid _:=hus;clear hx2 ho hus HL HU3;generalize xs[m]=o at *
       cases hcl:clB o.op
       ·have HM:Hid _:=mark_no (u:=marks v (xs.take m)) hcl;rw [hcl] at HC;clear hcl;go_wp2_with (first|(go_at_call 28;refine Calls.mono (HC.out _) ?_;rintro e w2 ⟨rfl,hb⟩))
        go_roundw
        case rel=>
         refine ⟨m+1,by omega,by go_num,?_⟩;rw [HS.out,<- HM.out];exact (HU.out.below ((Below.refl _ _).alloc (Nat.le_refl _) _)).below hb
        case measure=>simp [intOf];omega
       ·obtain ⟨n,hn,en⟩:=clV_in hcl;have HM:Hid _:=mark_yes (u:=marks v (xs.take m)) hcl en;rw [hcl,en] at HC;clear hcl en;have hn0:(0:Int)<=(n:Int):=by omega
        have hn4:(n:Int)<4:=by omega
        go_wp2_with (first|(go_at_call 28;refine Calls.mono (HC.out _) ?_;rintro e w2 ⟨rfl,hb⟩;have hu2:=(HU.out.below ((Below.refl _ _).alloc (Nat.le_refl _) _)).below hb;have q0:=hu2.u.c n hn;have q1:=hu2.u.f n;have q2:=hu2.u.lt;have HU4:Hid _:=hu2;clear hu2 hb))
        go_roundw
        case rel=>
         refine ⟨m+1,by omega,by go_num,?_⟩;rw [HS.out,<- HM.out];exact HU4.out.mark hn
        case measure=>simp [intOf];omega
      ·obtain rfl:m=xs.length:=by omega
       rw [List.take_length] at hus;go_wp2
       go_roundw
       case rel=>exact .inr (.inl ⟨rfl,hus⟩)
       case measure=>simp [intOf]
    ·have HU3:Hid _:=hus;have HL:OpsAt w ba x.body:=HI.out.b;clear hus HU2 HI;have hll:=HL.len;have HL:Hid _:=HL;have HX:Hid (markB u x=marks (marks u x.ops) x.body):=rfl;generalize x.body=xs at *;generalize marks u x.ops=v at *;go_wp2
     go_loopw [30] (fun i wy=>∃ m:Nat,m<=xs.length/\i=.int .i64 m/\Us w wy (marks v (xs.take m))) (fun i _=>xs.length-(intOf i).toNat)
     case atStart=>exact ⟨0,by omega,rfl,HU3.out⟩
     case round=>
      rename World=>wy;obtain ⟨m,hm,rfl,hus⟩:=hrel
      by_cases hmt:m<xs.length
      ·obtain ⟨b2,f2,rfl,z2,hx2⟩:=HL.out.is (by omega);obtain ⟨c0,c1,c2,c3,c4⟩:=(hx2 m hmt).below hus.b z2;have ho:=HL.out.ok xs[m] (List.getElem_mem hmt);have HS:Hid _:=marks_succ (u:=v) hmt;have HC:Hid (∀ w,Calls Tryz.prog 28 #[.int .i8 xs[m].op] w fun e w'=>e=.returned (.tuple #[.int .i64 (clV xs[m].op),.bool (clB xs[m].op)])/\Below w.heap.size w w'):=fun w=>class_any _ w ho.op0 ho.op1;have HU:Hid _:=hus;clear hx2 ho hus HL HU3;generalize xs[m]=o at *
       cases hcl:clB o.op
       ·have HM:Hid _:=mark_no (u:=marks v (xs.take m)) hcl;rw [hcl] at HC;clear hcl;go_wp2_with (first|(go_at_call 28;refine Calls.mono (HC.out _) ?_;rintro e w2 ⟨rfl,hb⟩))
        go_roundw
        case rel=>
         refine ⟨m+1,by omega,by go_num,?_⟩;rw [HS.out,<- HM.out];exact (HU.out.below ((Below.refl _ _).alloc (Nat.le_refl _) _)).below hb
        case measure=>simp [intOf];omega
       ·obtain ⟨n,hn,en⟩:=clV_in hcl;have HM:Hid _:=mark_yes (u:=marks v (xs.take m)) hcl en;rw [hcl,en] at HC;clear hcl en;have hn0:(0:Int)<=(n:Int):=by omega
        have hn4:(n:Int)<4:=by omega
        go_wp2_with (first|(go_at_call 28;refine Calls.mono (HC.out _) ?_;rintro e w2 ⟨rfl,hb⟩;have hu2:=(HU.out.below ((Below.refl _ _).alloc (Nat.le_refl _) _)).below hb;have q0:=hu2.u.c n hn;have q1:=hu2.u.f n;have q2:=hu2.u.lt;have HU4:Hid _:=hu2;clear hu2 hb))
        go_roundw
        case rel=>
         refine ⟨m+1,by omega,by go_num,?_⟩;rw [HS.out,<- HM.out];exact HU4.out.mark hn
        case measure=>simp [intOf];omega
      ·obtain rfl:m=xs.length:=by omega
       rw [List.take_length] at hus;go_wp2
       go_roundw
       case rel=>exact .inr (.inr ⟨rfl,HX.out ▸ hus⟩)
       case measure=>simp [intOf]
    ·have HU3:Hid _:=hus;clear hus HU2 HI;go_wp2
     go_roundw
     case rel=>exact ⟨k+1,by omega,by go_num,by rw [HT.out];exact HU3.out⟩
     case measure=>simp [intOf];omega
  ·obtain rfl:k=ps.length:=by omega
   rw [useT_all] at hus;have r0:=hus.r.c 0 (by omega);have r1:=hus.r.c 1 (by omega);have r2:=hus.r.c 2 (by omega);have r3:=hus.r.c 3 (by omega);have f0:=hus.r.f 0;have f1:=hus.r.f 1;have f2:=hus.r.f 2;have f3:=hus.r.f 3;have s0:=hus.u.c 0 (by omega);have s1:=hus.u.c 1 (by omega);have s2:=hus.u.c 2 (by omega);have s3:=hus.u.c 3 (by omega);have HU:Hid _:=hus;clear hus HS;go_wp2
   refine bodyPost_ret (v:=.agg #[.bool (useL ps 0),.bool (useL ps 1),.bool (useL ps 2),.bool (useL ps 3)]) (by simp [results,Tryz.results72,go_sem,r0,r1,r2,r3]) rfl ⟨rfl,?_⟩;exact (((HU.out.b.setCell (Nat.le_succ _) _).setCell (Nat.le_succ _) _).setCell (Nat.le_succ _) _).setCell (Nat.le_succ _) _
end Go.Proofs.YtpdaknbmcpmhjaaGreatDoor.Op
namespace Go.Proofs.YtpdaknbmcpmhjaaGreatDoor.Op
open Go.ChangeShapes Go.WideShapes Go.ChangeAt Go.RowKit
open Tb (Tab TabAt)
def lack (u:Nat->Bool) (t:Tab) (c:Nat):Bool:=u c&&(t.u c==0)
def lacks (u:Nat->Bool) (t:Tab):Bool:=lack u t 0 || lack u t 1 || lack u t 2 || lack u t 3
def ndE (ps:List Bk) (t:Tab):Int:=if ckP ps=0 then if Tb.ckR t=0 then if lacks (useL ps) t then 21 else 0 else Tb.ckR t else ckP ps
theorem lacks_yes {u:Nat->Bool} {t:Tab} {k:Nat} (hk:k<4) (h:lack u t k=true):lacks u t=true:=by
 match k,hk,h with
 | 0,_,h=>simp [lacks,h]
 | 1,_,h=>simp [lacks,h]
 | 2,_,h=>simp [lacks,h]
 | 3,_,h=>simp [lacks,h]
theorem lacks_no {u:Nat->Bool} {t:Tab} (h:∀ k,k<4->lack u t k=false):lacks u t=false:=by
 simp [lacks,h 0,h 1,h 2,h 3]
theorem ix4b_0 (a b c d:Bool) (w:World):(Instr.index 129 (.agg #[.bool a,.bool b,.bool c,.bool d]) (.int .i64 0)).run Tryz.prog w=.ok (.bool a) w:=by kernel_rfl
theorem ix4b_1 (a b c d:Bool) (w:World):(Instr.index 129 (.agg #[.bool a,.bool b,.bool c,.bool d]) (.int .i64 1)).run Tryz.prog w=.ok (.bool b) w:=by kernel_rfl
theorem ix4b_2 (a b c d:Bool) (w:World):(Instr.index 129 (.agg #[.bool a,.bool b,.bool c,.bool d]) (.int .i64 2)).run Tryz.prog w=.ok (.bool c) w:=by kernel_rfl
theorem ix4b_3 (a b c d:Bool) (w:World):(Instr.index 129 (.agg #[.bool a,.bool b,.bool c,.bool d]) (.int .i64 3)).run Tryz.prog w=.ok (.bool d) w:=by kernel_rfl
theorem ix4b (u:Nat->Bool) (k:Nat) (hk:k<4) (w:World):(Instr.index 129 (.agg #[.bool (u 0),.bool (u 1),.bool (u 2),.bool (u 3)]) (.int .i64 k)).run Tryz.prog w=.ok (.bool (u k)) w:=
 match k,hk with
 | 0,_=>ix4b_0 _ _ _ _ w
 | 1,_=>ix4b_1 _ _ _ _ w
 | 2,_=>ix4b_2 _ _ _ _ w
 | 3,_=>ix4b_3 _ _ _ _ w
theorem At.t13 {w:World} {b:Nat} {x0 x1 x2 x3 x4 x5 x6 x7 x8 x9 xa xb xc:Value} (h:At w b #[x0,x1,x2,x3,x4,x5,x6,x7,x8,x9,xa,xb,xc]):w.cell? ⟨b,0,none⟩=some x0/\w.cell? ⟨b,1,none⟩=some x1/\w.cell? ⟨b,2,none⟩=some x2/\w.cell? ⟨b,3,none⟩=some x3/\w.cell? ⟨b,4,none⟩=some x4/\w.cell? ⟨b,5,none⟩=some x5/\w.cell? ⟨b,6,none⟩=some x6/\w.cell? ⟨b,7,none⟩=some x7/\w.cell? ⟨b,8,none⟩=some x8/\w.cell? ⟨b,9,none⟩=some x9/\w.cell? ⟨b,10,none⟩=some xa/\w.cell? ⟨b,11,none⟩=some xb/\w.cell? ⟨b,12,none⟩=some xc:=
 ⟨h.c 0 _ rfl,h.c 1 _ rfl,h.c 2 _ rfl,h.c 3 _ rfl,h.c 4 _ rfl,h.c 5 _ rfl,h.c 6 _ rfl,h.c 7 _ rfl,h.c 8 _ rfl,h.c 9 _ rfl,h.c 10 _ rfl,h.c 11 _ rfl,h.c 12 _ rfl⟩
structure Nd (w w1:World) (v:Value) (t:Tab):Prop where
 b:Below w.heap.size w w1
 p:At w1 w.heap.size #[v]
 t:At w1 (w.heap.size+1) t.cells
theorem Nd.start {w w1:World} {v:Value} {t:Tab} {t0 t1:TypeId} (hb:Below ((w.alloc (.cells #[v] t0)).alloc (.cells t.cells t1)).heap.size ((w.alloc (.cells #[v] t0)).alloc (.cells t.cells t1)) w1):Nd w w1 v t:=
 let ⟨a1,a2,b,_,_⟩:=two_new w _ _ _ _ hb
 ⟨b,a1,a2⟩
theorem Nd.go {w w1 w2:World} {v:Value} {t:Tab} (h:Nd w w1 v t) (hb:Below w1.heap.size w1 w2):Nd w w2 v t:=
 ⟨h.b.trans (hb.mono h.b.size),h.p.below hb h.p.lt,h.t.below hb h.t.lt⟩
theorem needs_any (ao:Option Addr) (cap:Nat) (ps:List Bk) (t:Tab) (w:World) (h:PAt w ao ps) (he:Env w) :
  Calls Tryz.prog 26 #[.agg #[.slice ao ps.length cap],t.val] w fun e w'=>e=.returned (.int .i64 (ndE ps t))/\Below w.heap.size w w':=by
 have HC:Hid (∀ w1,Below w.heap.size w w1->Calls Tryz.prog 10 #[.agg #[.slice ao ps.length cap]] w1 fun e w'=>e=.returned (.int .i64 (ckP ps))/\Below w1.heap.size w1 w'):=fun w1 hb=>checkP_any _ _ _ _ (h.below hb) (he.up hb);have HT:Hid (∀ w1,Below w.heap.size w w1->Calls Tryz.prog 71 #[t.val] w1 fun e w'=>e=.returned (.int .i64 (Tb.ckR t))/\Below w1.heap.size w1 w'):=fun w1 hb=>Tb.check_any _ _ (he.up hb).b;have HL:Hid (∀ w1,Below w.heap.size w w1->Calls Tryz.prog 72 #[.agg #[.slice ao ps.length cap]] w1 fun e w'=>e=.returned (.agg #[.bool (useL ps 0),.bool (useL ps 1),.bool (useL ps 2),.bool (useL ps 3)])/\Below w1.heap.size w1 w'):=fun w1 hb=>classes_any _ _ _ _ (h.below hb);clear h he;unfold Tab.val at *
 by_cases h1:ckP ps=0
 ·by_cases h2:Tb.ckR t=0
  ·rw [show ndE ps t=if lacks (useL ps) t then 21 else 0 by simp [ndE,h1,h2]];rw [h1] at HC;rw [h2] at HT;clear h1 h2;generalize useL ps=u at *;generalize hr:(if lacks u t then (21:Int) else 0)=r;have HR:Hid (_=r):=hr;clear hr;go_enter Tryz.func26,Tryz.ntmps26;go_wp2_with (first
    | (go_at_call 10;refine Calls.mono (HC.out _ (by go_grown)) ?_;rintro e w1 ⟨rfl,hb⟩;have HN:Hid (Nd w w1 _ t):=Nd.start hb;have cp:=HN.out.p.c 0 _ rfl;obtain ⟨c0,c1,c2,c3,c4,c5,c6,c7,c8,c9,ca,cb,cc⟩:=HN.out.t.t13;clear hb HC)
    | (go_at_call 71;refine Calls.mono (HT.out _ HN.out.b) ?_;rintro e w2 ⟨rfl,hb⟩;have HN2:Hid (Nd w w2 _ t):=HN.out.go hb;clear HN cp c0 c1 c2 c3 c4 c5 c6 c7 c8 c9 ca cb cc;have cp:=HN2.out.p.c 0 _ rfl;clear hb HT)
    | (go_at_call 72;refine Calls.mono (HL.out _ HN2.out.b) ?_;rintro e w3 ⟨rfl,hb⟩;have HN3:Hid (Nd w w3 _ t):=HN2.out.go hb;clear HN2 cp;clear hb HL))
   go_loopw [21] (fun i wr=>∃ k:Nat,k<=4/\i=.int .i64 k/\(∀ j,j<k->lack u t j=false)/\Nd w wr (.slice ao ps.length cap) t) (fun i _=>4-(intOf i).toNat)
   case atStart=>exact ⟨0,by omega,rfl,fun j hj=>by omega,HN3.out⟩
   case round=>
    rename_i wr;obtain ⟨k,hk,rfl,hok,hnd⟩:=hrel;have HK:Hid _:=hok;have HD:Hid _:=hnd;clear hok HN3
    by_cases hlt:k<4
    ·have hix:∀ w,(Instr.index 129 (.agg #[.bool (u 0),.bool (u 1),.bool (u 2),.bool (u 3)]) (.int .i64 k)).run Tryz.prog w=.ok (.bool (u k)) w:=fun w=>ix4b u k hlt w;have hc:wr.cell? ⟨w.heap.size+1,k,none⟩=some (.int .i64 (t.u k)):=Tb.four (p:=fun k=>wr.cell? ⟨w.heap.size+1,k,none⟩=some (.int .i64 (t.u k))) (hnd.t.c 0 _ rfl) (hnd.t.c 1 _ rfl) (hnd.t.c 2 _ rfl) (hnd.t.c 3 _ rfl) k hlt;have hz:=hnd.t.lt;have k0:(0:Int)<=(k:Int):=by omega
     have k4:(k:Int)<4:=by omega
     clear hnd;have hdef:lack u t k=(u k&&(t.u k==0)):=rfl;have HF:Hid _:=hdef;clear hdef;generalize t.u k=tk at *;generalize u k=uk at *
     cases uk
     ·go_wp2
      go_roundw
      case rel=>exact ⟨k+1,by omega,by go_num,fun j hj=>by
       rcases Nat.lt_or_ge j k with h|h
       ·exact HK.out j h
       ·obtain rfl:j=k:=by omega
        rw [HF.out];rfl,HD.out⟩
      case measure=>simp [intOf];omega
     ·cases htk:(tk==0)
      ·rw [htk] at HF;go_wp2
       go_roundw
       case rel=>exact ⟨k+1,by omega,by go_num,fun j hj=>by
        rcases Nat.lt_or_ge j k with h|h
        ·exact HK.out j h
        ·obtain rfl:j=k:=by omega
         rw [HF.out];rfl,HD.out⟩
       case measure=>simp [intOf];omega
      ·rw [htk] at HF;go_wp2
       go_ret
       exact ⟨ret_int (by rw [<- HR.out,if_pos (lacks_yes hlt HF.out)]),HD.out.b⟩
    ·obtain rfl:k=4:=by omega
     clear hnd;go_wp2
     go_ret
     exact ⟨ret_int (by rw [<- HR.out,lacks_no HK.out];rfl),HD.out.b⟩
  ·rw [show ndE ps t=Tb.ckR t by simp [ndE,h1,h2]];rw [h1] at HC;clear h1;go_enter Tryz.func26,Tryz.ntmps26;go_wp2_with (first
    | (go_at_call 10;refine Calls.mono (HC.out _ (by go_grown)) ?_;rintro e w1 ⟨rfl,hb⟩;have HN:Hid (Nd w w1 _ t):=Nd.start hb;have cp:=HN.out.p.c 0 _ rfl;obtain ⟨c0,c1,c2,c3,c4,c5,c6,c7,c8,c9,ca,cb,cc⟩:=HN.out.t.t13;clear hb HC)
    | (go_at_call 71;refine Calls.mono (HT.out _ HN.out.b) ?_;rintro e w2 ⟨rfl,hb⟩;have HN2:Hid (Nd w w2 _ t):=HN.out.go hb;clear HN cp c0 c1 c2 c3 c4 c5 c6 c7 c8 c9 ca cb cc;have cp:=HN2.out.p.c 0 _ rfl;clear hb HT))
   go_ret
   exact ⟨rfl,HN2.out.b⟩
 ·rw [show ndE ps t=ckP ps by simp [ndE,h1]];go_enter Tryz.func26,Tryz.ntmps26;go_wp2_with (first
   | (go_at_call 10;refine Calls.mono (HC.out _ (by go_grown)) ?_;rintro e w1 ⟨rfl,hb⟩;have HN:Hid (Nd w w1 _ t):=Nd.start hb;have cp:=HN.out.p.c 0 _ rfl;obtain ⟨c0,c1,c2,c3,c4,c5,c6,c7,c8,c9,ca,cb,cc⟩:=HN.out.t.t13;clear hb HC))
  go_ret
  exact ⟨rfl,HN.out.b⟩
end Go.Proofs.YtpdaknbmcpmhjaaGreatDoor.Op
