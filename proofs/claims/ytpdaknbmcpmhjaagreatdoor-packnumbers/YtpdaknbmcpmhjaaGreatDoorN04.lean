/- Parts Kx Ec Af Ag Ed. -/
import Derived.Test.YtpdaknbmcpmhjaaGreatDoorN02
import Derived.Test.YtpdaknbmcpmhjaaGreatDoorN03
import Derived.Deep.AppendLies
import Derived.Deep.RegionHeld3
import Derived.Deep.QuietTactic
import Derived.BigQuiet
set_option maxRecDepth 20000
set_option maxHeartbeats 4000000
namespace Go.Proofs.YtpdaknbmcpmhjaaGreatDoor.Op
open Go.ChangeShapes Go.WideShapes Go.ChangeAt Go.RowKit
def clB (d:Int):Bool:=match kOf d with|some k=>!(k.cls == -1)|none=>false
def clV (d:Int):Int:=match kOf d with|some k=>if k.cls == -1 then 0 else k.cls|none=>0
theorem cls_all:(kindL.all fun k=>decide (-1<=k.cls/\k.cls<=3))=true:=by decide
theorem cls_in {d:Int} {k:K} (h:kOf d=some k) : -1<=k.cls/\k.cls<=3:=by
 obtain ⟨n,hn,-,rfl⟩:=kOf_some h
 have:=List.all_eq_true.1 cls_all _ (List.getElem_mem (l:=kindL) hn)
 simpa using this
theorem class_any (d:Int) (w:World) (h0 : -128<=d) (h1:d<=127):Calls Tryz.prog 28 #[.int .i8 d] w fun e w'=>e=.returned (.tuple #[.int .i64 (clV d),.bool (clB d)])/\Below w.heap.size w w':=by
 cases hk:kOf d with
 | none=>
  rw [show clV d=0 by simp [clV,hk],show clB d=false by simp [clB,hk]];have HC:Hid _:=fun w=>kindOf_no d w h0 h1 hk;clear h0 h1 hk;go_enter Tryz.func28,Tryz.ntmps28;go_wp2_with (first|(go_at_call 75;refine Calls.mono (HC.out _) ?_;rintro e w1 ⟨rfl,hb⟩))
  go_ret2
  exact ⟨rfl,hb.trans ((Below.refl _ _).alloc hb.size _)⟩
 | some k=>
  have hc:=cls_in hk;have e1:clV d=if k.cls == -1 then 0 else k.cls:=by simp [clV,hk]
  have e2:clB d = !(k.cls == -1):=by simp [clB,hk]
  have HC:Hid _:=fun w=>kindOf_yes d k w hk;rw [e1,e2];clear h0 h1 hk e1 e2
  cases hm:(k.cls == -1)
  all_goals
   go_enter Tryz.func28,Tryz.ntmps28;go_wp2_with (first|(go_at_call 75;refine Calls.mono (HC.out _) ?_;rintro e w1 ⟨rfl,hb⟩))
   go_ret2
   exact ⟨rfl,hb.trans ((Below.refl _ _).alloc hb.size _)⟩
def rcN (k:K) (o:O):Nat:=if k.A then (if k.B && !(o.a==o.b) then 2 else 1) else 0
theorem readCount_any (k:K) (o:O) (w:World):Calls Tryz.prog 344 #[k.val,o.val] w fun e w'=>e=.returned (.int .i64 (rcN k o))/\Below w.heap.size w w':=by
 have HA:Hid _:=fun w=>cnt_A k w;have HC:Hid _:=fun w=>cnt_B k w;have hdef:rcN k o=if k.A then (if k.B && !(o.a==o.b) then 2 else 1) else 0:=rfl;rw [hdef];clear hdef
 cases hA:k.A
 ·rw [hA] at HA;go_enter Tryz.func344,Tryz.ntmps344;go_wp2_with (first|(go_at_call_of 302 (Value.int IntKind.u8 2);refine Calls.mono (HA.out _) ?_;rintro e w1 ⟨rfl,hb⟩;obtain ⟨-,-,hb0,hz,hz1⟩:=two_new w _ _ _ _ hb;clear hb))
  go_ret
  exact ⟨rfl,hb0⟩
 ·rw [hA] at HA
  cases hB:k.B
  ·rw [hB] at HC;go_enter Tryz.func344,Tryz.ntmps344;go_wp2_with (first|(go_at_call_of 302 (Value.int IntKind.u8 2);refine Calls.mono (HA.out _) ?_;rintro e w1 ⟨rfl,hb⟩;obtain ⟨a1,a2,hb0,hz,hz1⟩:=two_new w _ _ _ _ hb;obtain ⟨k0,k1,k2⟩:=a1.k3;have HB:Hid (Below w.heap.size w w1):=hb0;clear hb a1 a2 hb0)|(go_at_call_of 302 (Value.int IntKind.u8 4);refine Calls.mono (HC.out _) ?_;rintro e w2 ⟨rfl,hb⟩))
   go_ret
   exact ⟨rfl,HB.out.trans (hb.mono (Nat.le_of_lt hz))⟩
  ·rw [hB] at HC
   cases hE:(o.a==o.b)
   all_goals
    go_enter Tryz.func344,Tryz.ntmps344;go_wp2_with (first|(go_at_call_of 302 (Value.int IntKind.u8 2);refine Calls.mono (HA.out _) ?_;rintro e w1 ⟨rfl,hb⟩;obtain ⟨a1,a2,hb0,hz,hz1⟩:=two_new w _ _ _ _ hb;obtain ⟨k0,k1,k2⟩:=a1.k3;have HO:Hid _:=a2;have HB:Hid (Below w.heap.size w w1):=hb0;clear hb a1 a2 hb0)|(go_at_call_of 302 (Value.int IntKind.u8 4);refine Calls.mono (HC.out _) ?_;rintro e w2 ⟨rfl,hb⟩;obtain ⟨-,-,o2,o3,-⟩:=(HO.out.below hb hz1).o5))
    go_ret
    exact ⟨rfl,HB.out.trans (hb.mono (Nat.le_of_lt hz))⟩
theorem reads_yes (o:O) (k:K) (w:World) (hk:kOf o.op=some k) (hf:okF k o=true):Calls Tryz.prog 308 #[o.val] w fun e w'=>∃ b:Nat,e=.returned (.slice (some ⟨b,0,none⟩) (rcN k o) (rcN k o))/\At w' b #[.int .u8 o.a,.int .u8 o.b]/\Below w.heap.size w w':=by
 have HC:Hid _:=fun w=>checked_yes o k w hk hf;have HR:Hid _:=fun w=>readCount_any k o w;have hn:rcN k o=0\/rcN k o=1\/rcN k o=2:=by unfold rcN;split <;> (try split) <;> simp
 clear hk hf;rcases hn with hn|hn|hn
 all_goals
  rw [hn] at HR;rw [hn];clear hn;go_enter Tryz.func308,Tryz.ntmps308;go_wp2_with (first|(go_at_call 208;refine Calls.mono (HC.out _) ?_;rintro e w1 ⟨rfl,hb⟩;obtain ⟨a1,hb0,hz⟩:=one_new w _ _ hb;have HO:Hid _:=a1;obtain ⟨o0,o1,o2,o3,o4⟩:=a1.o5;have HB:Hid (Below w.heap.size w w1):=hb0;clear hb hb0 a1)|(go_at_call 344;refine Calls.mono (HR.out _) ?_;rintro e w2 ⟨rfl,hb⟩;obtain ⟨a1,a2,hb0,hz2,hz3⟩:=two_new w1 _ _ _ _ hb;have HA:Hid _:=a2;have HB2:Hid (Below w.heap.size w w2):=HB.out.trans (hb0.mono (Nat.le_of_lt hz));clear hb hb0 a1 a2))
  go_ret
  refine ⟨_,rfl,?_,HB2.out⟩;exact HA.out
def SlAt (w:World) (v:Value) (n:Nat) (f:Nat->Int):Prop:=
 (n=0/\∃ p c,v=.slice p 0 c)\/∃ b c:Nat,v=.slice (some ⟨b,0,none⟩) n c/\b<w.heap.size/\∀ j,j<n->w.cell? ⟨b,j,none⟩=some (.int .u8 (f j))
theorem SlAt.on {w w':World} {v:Value} {n:Nat} {f:Nat->Int} (h:SlAt w v n f) (hb:Below w.heap.size w w'):SlAt w' v n f:=by
 rcases h with h|⟨b,c,h1,h2,h3⟩
 ·exact .inl h
 ·exact .inr ⟨b,c,h1,Nat.lt_of_lt_of_le h2 hb.size,fun j hj=>by rw [(bcell hb).1 _ _ h2];exact h3 j hj⟩
theorem refClass_any (d:Int) (w:World):Calls Tryz.prog 107 #[.int .i8 d] w fun e w'=>e=.returned (.tuple #[.int .i64 (clV d),.bool (clB d)])/\Below w.heap.size w w':=by
 cases hk:kOf d with
 | none=>
  rw [show clV d=0 by simp [clV,hk],show clB d=false by simp [clB,hk]];have HC:Hid _:=fun w=>of_no d w hk;clear hk;go_enter Tryz.func107,Tryz.ntmps107;go_wp2_with (first|(go_at_call 176;refine Calls.mono (HC.out _) ?_;rintro e w1 ⟨rfl,hb⟩))
  go_ret2
  exact ⟨rfl,hb.trans ((Below.refl _ _).alloc hb.size _)⟩
 | some k=>
  have hc:=cls_in hk;have HC:Hid _:=fun w=>of_yes d k w hk
  by_cases hm:k.cls = -1
  ·rw [show clV d=0 by simp [clV,hk,hm],show clB d=false by simp [clB,hk,hm]];clear hk;have hm2:k.cls<0:=by omega
   go_enter Tryz.func107,Tryz.ntmps107;go_wp2_with (first|(go_at_call 176;refine Calls.mono (HC.out _) ?_;rintro e w1 ⟨rfl,hb⟩))
   go_ret2
   exact ⟨rfl,hb.trans ((Below.refl _ _).alloc hb.size _)⟩
  ·rw [show clV d=k.cls by simp [clV,hk,hm],show clB d=true by simp [clB,hk,hm]];clear hk;have hm2:¬ k.cls<0:=by omega
   go_enter Tryz.func107,Tryz.ntmps107;go_wp2_with (first|(go_at_call 176;refine Calls.mono (HC.out _) ?_;rintro e w1 ⟨rfl,hb⟩))
   go_ret2
   exact ⟨rfl,hb.trans ((Below.refl _ _).alloc hb.size _)⟩
structure Rs (w0:World) (rc:Array Value) (o:O) (rb:Nat) (w:World) (v:Value) (xs:List Int):Prop where
 lt0:w0.heap.size<rb
 oAt:At w w0.heap.size o.cells
 rAt:At w rb rc
 own:w.ownsRow (rb+1) 5 1 v xs.length (xs.map (Value.int .u8))
 bel:Below w0.heap.size w0 w
theorem Rs.put {w0:World} {k:Array Value} {o:O} {rb:Nat} {w w1:World} {v v1:Value} {xs:List Int} {s:Int} {ob:Obj} (h:Rs w0 k o rb w v xs) (hown:w1.ownsRow (rb+1) 5 1 v1 (xs.length+1) (xs.map (Value.int .u8)++[.int .u8 s])) (hg:(w.alloc ob).grownBy w1 v.ownBlock) :
  Rs w0 k o rb w1 v1 (xs++[s]):=by
 have h0:=h.lt0;have hb:Below (rb+1) w w1:=((Below.refl _ w).alloc (by have:=h.rAt.lt;omega) ob).grown hg (by have:=h.rAt.lt;simp;omega) (fun b hb=>(h.own.lt b hb).1);refine ⟨h0,h.oAt.below hb (by omega),h.rAt.below hb (by omega),?_,h.bel.trans (hb.mono (by omega))⟩;simpa using hown
def rf (o:O) (j:Nat):Int:=if j=0 then o.a else o.b
end Go.Proofs.YtpdaknbmcpmhjaaGreatDoor.Op
namespace Go.Proofs.YtpdaknbmcpmhjaaGreatDoor.Dp
open Go.ChangeShapes Go.WideShapes Go.ChangeAt Go.RowKit
open YtpdaknbmcpmhjaaGreatDoor.Op YtpdaknbmcpmhjaaGreatDoor.So
open YtpdaknbmcpmhjaaGreatDoor.Tb (Tab TabAt)
structure Pt where
 o:Int
 r:Int
 w:Int
 m:Int
 l:Int
 b:Bool
abbrev Pt.cells (p:Pt):Array Value:=#[.int .i8 p.o,.int .u8 p.r,.int .u32 p.w,.int .u32 p.m,.int .i64 p.l,.bool p.b]
def Pt.val (p:Pt):Value:=.agg #[.int .i8 p.o,.int .u8 p.r,.int .u32 p.w,.int .u32 p.m,.int .i64 p.l,.bool p.b]
def ordB (d:Int):Bool:=d==17 || d==13 || d==14
theorem ordered_any (d:Int) (w:World):Calls Tryz.prog 306 #[.int .i8 d] w fun e w'=>e=.returned (.bool (ordB d))/\w'=w:=by
 by_cases h1:d=17
 ·subst h1;go_enter Tryz.func306,Tryz.ntmps306;go_wp2
  go_ret
  exact ⟨rfl,rfl⟩
 ·by_cases h2:d=13
  ·subst h2;go_enter Tryz.func306,Tryz.ntmps306;go_wp2
   go_ret
   exact ⟨rfl,rfl⟩
  ·go_enter Tryz.func306,Tryz.ntmps306;go_wp2
   go_ret
   exact ⟨ret_bool (by
    have e1:(d==17)=false:=by simpa using h1
    have e2:(d==13)=false:=by simpa using h2
    unfold ordB;rw [e1,e2]),rfl⟩
def memL (a b:Pt):Int:=if a.o=15 then 0 else if b.o=15 then a.l else 1
theorem memory_any (a b:Pt) (w:World):Calls Tryz.prog 310 #[a.val,b.val] w fun e w'=>e=.returned (.int .i64 (memL a b))/\Below w.heap.size w w':=by
 unfold Pt.val memL
 by_cases h1:a.o=15
 ·rw [if_pos h1];go_enter Tryz.func310,Tryz.ntmps310;go_wp2
  go_ret
  exact ⟨rfl,by go_grown⟩
 ·rw [if_neg h1]
  by_cases h2:b.o=15
  ·rw [if_pos h2];go_enter Tryz.func310,Tryz.ntmps310;go_wp2
   go_ret
   exact ⟨rfl,by go_grown⟩
  ·rw [if_neg h2];go_enter Tryz.func310,Tryz.ntmps310;go_wp2
   go_ret
   exact ⟨rfl,by go_grown⟩
structure La (w:World) (b:Nat) (L:Nat->Int):Prop where
 c:∀ j,j<32->w.cell? ⟨b,j,none⟩=some (.int .i64 (L j))
 f:∀ j,w.frozen? ⟨b,j,none⟩=false
 lt:b<w.heap.size
theorem La.fr {X:Nat->Prop} {w w':World} {b:Nat} {L:Nat->Int} (h:La w b L) (g:Fr X w w') (hx:¬ X b):La w' b L:=
 ⟨fun j hj=>(g.cell h.lt hx j).trans (h.c j hj),fun j=>(g.frozen h.lt hx j).trans (h.f j),Nat.lt_of_lt_of_le h.lt g.size⟩
def upd (L:Nat->Int) (k:Nat) (v:Int):Nat->Int:=fun j=>if j=k then v else L j
def bec (L:Nat->Int) (p:Pt) (v:Int):Nat->Int:=if p.w=0 then L else upd L p.r.toNat v
theorem La.set {w:World} {b:Nat} {L:Nat->Int} (h:La w b L) {k:Nat} (hk:k<32) (v:Int):La (w.setCell ⟨b,k,none⟩ (.int .i64 v)) b (upd L k v):=by
 refine ⟨fun j hj=>?_,fun j=>by rw [World.frozen?_setCell];exact h.f j,by simpa using h.lt⟩;unfold upd
 by_cases e:j=k
 ·subst e;rw [if_pos rfl,World.cell?_setCell_same _ _ _ (h.c j hj)]
 ·rw [if_neg e,World.cell?_setCell_other]
  ·exact h.c j hj
  ·intro h';injection h' with _ h2;exact e h2.symm
theorem become_any (b:Nat) (p:Pt) (v:Int) (L:Nat->Int) (w:World) (h:La w b L) (hp:0<=p.r/\p.r<=31) :
  Calls Tryz.prog 262 #[.pointer (some ⟨b,0,none⟩),p.val,.int .i64 v] w fun e w'=>e=.returned (.tuple #[])/\La w' b (bec L p v)/\Fr (One b) w w':=by
 unfold Pt.val bec;obtain ⟨p0,p1⟩:=hp;obtain ⟨r,hr⟩:∃ r:Nat,p.r=r:=⟨p.r.toNat,by omega⟩;rw [hr] at p0 p1 ⊢;have hr31:r<32:=by omega
 have c0:=h.c r hr31;have f0:=h.f r;have lt:=h.lt;have HL:Hid (La w b L):=h;clear h hr
 by_cases h1:p.w=0
 ·rw [if_pos h1];go_enter Tryz.func262,Tryz.ntmps262;go_wp2
  go_end0
  exact ⟨rfl,HL.out.fr (Fr.of (X:=Non) (by go_grown)) (fun h=>h),Fr.of (by go_grown)⟩
 ·rw [if_neg h1];go_enter Tryz.func262,Tryz.ntmps262;go_wp2
  go_region
  all_goals
   go_wp2
   go_end0
   refine ⟨rfl,(HL.out.set hr31 v).fr (Fr.of (X:=Non) (by go_grown)) (fun h=>h),?_⟩;exact ((Fr.refl (One b) w).setCell (.inr rfl) _ _).then (by go_grown)
def sh (r:Int):Int:=2^min r.toNat 32%4294967296
def mk (o:O):Nat->Int
 | 0=>0
 | k+1=>bits BinOp.or IntKind.u32 (mk o k) (sh (rf o k))
def ptOf (t:Tab) (o:O) (k:K):Pt:=⟨o.op,wrD o,if wrB o then sh o.d else 0,mk o (rcN k o),t.l (clV o.op).toNat,ordB o.op⟩
theorem clV_in (d:Int):0<=clV d/\clV d<=3:=by
 unfold clV
 cases h:kOf d with
 | none=>simp
 | some k=>
  have:=cls_in h
  show 0<=(if k.cls == -1 then 0 else k.cls)/\(if k.cls == -1 then 0 else k.cls)<=3
  cases e:k.cls == -1
  ·have:¬ k.cls = -1:=by simpa using e
   simp;omega
  ·simp
theorem set6 {w:World} {b j:Nat} {cs ds:Array Value} (h:At w b cs) (hj:j<cs.size) (v:Value) (e:cs.setIfInBounds j v=ds):At (w.setCell ⟨b,j,none⟩ v) b ds:=by rw [<- e];exact at_set' h hj v
theorem six_set {w:World} {b:Nat} {x0 x1 x2 x3 x4 x5:Value} (y0 y1 y2 y3 y4 y5:Value) (h:At w b #[x0,x1,x2,x3,x4,x5]):At ((((((w.setCell ⟨b,0,none⟩ y0).setCell ⟨b,1,none⟩ y1).setCell ⟨b,2,none⟩ y2).setCell ⟨b,3,none⟩ y3).setCell ⟨b,4,none⟩ y4).setCell ⟨b,5,none⟩ y5) b #[y0,y1,y2,y3,y4,y5]:=
 set6 (set6 (set6 (set6 (set6 (set6 h (ds:=#[y0,x1,x2,x3,x4,x5]) (by simp) y0 rfl) (ds:=#[y0,y1,x2,x3,x4,x5]) (by simp) y1 rfl) (ds:=#[y0,y1,y2,x3,x4,x5]) (by simp) y2 rfl) (ds:=#[y0,y1,y2,y3,x4,x5]) (by simp) y3 rfl) (ds:=#[y0,y1,y2,y3,y4,x5]) (by simp) y4 rfl) (by simp) y5 rfl
theorem six_below {w W:World} {b B:Nat} (y0 y1 y2 y3 y4 y5:Value) (h:Below B w W) (hb:B<=b):Below B w ((((((W.setCell ⟨b,0,none⟩ y0).setCell ⟨b,1,none⟩ y1).setCell ⟨b,2,none⟩ y2).setCell ⟨b,3,none⟩ y3).setCell ⟨b,4,none⟩ y4).setCell ⟨b,5,none⟩ y5):=
 (((((h.setCell hb _).setCell hb _).setCell hb _).setCell hb _).setCell hb _).setCell hb _
structure Pz (w:World) (o:O) (t:Tab) (W:World):Prop where
 o:At W w.heap.size o.cells
 t:TabAt W (w.heap.size+1) t
 z:At W (w.heap.size+2) #[.int .i8 0,.int .u8 0,.int .u32 0,.int .u32 0,.int .i64 0,.bool false]
 up:Below w.heap.size w W
theorem Pz.start (w:World) (o:O) (t:Tab) {W:World} {c:Array Value} (hc:c=t.cells) (h:Below (((w.alloc (.cells o.cells 60)).alloc (.cells c 27)).alloc (.cells #[.int .i8 0,.int .u8 0,.int .u32 0,.int .u32 0,.int .i64 0,.bool false] 332)).heap.size (((w.alloc (.cells o.cells 60)).alloc (.cells c 27)).alloc (.cells #[.int .i8 0,.int .u8 0,.int .u32 0,.int .u32 0,.int .i64 0,.bool false] 332)) W):Pz w o t W:=by
 subst hc;have hz:=h.size;simp at hz
 have h1:=((At.new w o.cells 60).alloc (.cells t.cells 27)).alloc (.cells #[.int .i8 0,.int .u8 0,.int .u32 0,.int .u32 0,.int .i64 0,.bool false] 332);have h2:=Tb.tabAt_new (w.alloc (.cells o.cells 60)) t 27;have h3:=At.new ((w.alloc (.cells o.cells 60)).alloc (.cells t.cells 27)) #[.int .i8 0,.int .u8 0,.int .u32 0,.int .u32 0,.int .i64 0,.bool false] 332;rw [show (w.alloc (.cells o.cells 60)).heap.size=w.heap.size+1 by simp] at h2;rw [show ((w.alloc (.cells o.cells 60)).alloc (.cells t.cells 27)).heap.size=w.heap.size+2 by simp] at h3;refine ⟨h1.below h h1.lt,(h2.below ((Below.refl _ _).alloc (Nat.le_refl _) _) h2.lt).below h (by simp),h3.below h h3.lt,?_⟩;refine Below.trans ?_ (h.mono (by simp;omega))
 go_grown
theorem Pz.next {w W W':World} {o:O} {t:Tab} (h:Pz w o t W) (hb:Below W.heap.size W W'):Pz w o t W':=⟨h.o.below hb h.o.lt,h.t.below hb h.t.lt,h.z.below hb h.z.lt,h.up.trans (hb.mono h.up.size)⟩
structure Py (w:World) (o:O) (t:Tab) (W:World) (b:Nat) (p:Pt):Prop where
 z:Pz w o t W
 x:At W b p.cells
 lt:w.heap.size+2<b
theorem Py.up {w W W':World} {o:O} {t:Tab} {b:Nat} {p:Pt} (h:Py w o t W b p) (hb:Below W.heap.size W W'):Py w o t W' b p:=⟨h.z.next hb,h.x.below hb h.x.lt,h.lt⟩
theorem Py.set {w W:World} {o:O} {t:Tab} {b:Nat} {p:Pt} (h:Py w o t W b p) (j:Nat) (v:Value) (p':Pt) (hj:j<6) (e:p.cells.setIfInBounds j v=p'.cells):Py w o t (W.setCell ⟨b,j,none⟩ v) b p':=by
 have hl:=h.lt;have hb:Below b W (W.setCell ⟨b,j,none⟩ v):=(Below.refl b W).setCell (Nat.le_refl _) _;exact ⟨⟨h.z.o.below hb (by omega),h.z.t.below hb (by omega),h.z.z.below hb (by omega),h.z.up.trans (hb.mono (by omega))⟩,set6 h.x (by simpa using hj) v e,hl⟩
theorem part_any (t:Tab) (o:O) (k:K) (w:World) (ho:o.Ok) (hk:kOf o.op=some k) (hf:okF k o=true) :
  Calls Tryz.prog 259 #[o.val,t.val] w fun e w'=>e=.returned (ptOf t o k).val/\Below w.heap.size w w':=by
 have HC:Hid _:=fun w=>class_any o.op w ho.op0 ho.op1;have HO:Hid _:=fun w=>ordered_any o.op w;have HW:Hid _:=fun w=>writes_any o w ho;have HR:Hid _:=fun w=>reads_yes o k w hk hf;have hcl:=clV_in o.op;obtain ⟨c,hc⟩:∃ c:Nat,clV o.op=c:=⟨(clV o.op).toNat,by omega⟩;have HPt:Hid (ptOf t o k=⟨o.op,wrD o,if wrB o then sh o.d else 0,mk o (rcN k o),t.l c,ordB o.op⟩):=by show ptOf t o k=_;unfold ptOf;rw [hc];rfl
 rw [hc] at HC hcl;have hc0:(0:Int)<=(c:Int):=by omega
 have hc3:(c:Int)<4:=by omega
 have hRF:Hid (∀ j,0<=rf o j/\rf o j<=255):=fun j=>by have h1:=ho.a0;have h2:=ho.a1;have h3:=ho.b0;have h4:=ho.b1;unfold rf;split <;> omega
 have hD:0<=o.d/\o.d<=255:=⟨ho.d0,ho.d1⟩;obtain ⟨hD0,hD1⟩:=hD;clear hcl hc ho hk hf;generalize ordB o.op=ob at *;unfold Tab.val;go_enter Tryz.func259,Tryz.ntmps259;go_wp2_with (first|(go_at_call 28;refine Calls.mono (HC.out _) ?_;rintro e w1 ⟨rfl,hb⟩;have HZ:Hid (Pz w o t w1):=Pz.start w o t rfl hb;have o0:=HZ.out.o.c 0 _ rfl;have ol:=HZ.out.o.lt;have tc:=HZ.out.t.cl c (by omega);have tl:=HZ.out.t.lt;clear hb))
 go_region_held3 (fun W=>W.cell? ⟨w.heap.size,0,none⟩=some (.int .i8 o.op)/\W.cell? ⟨w.heap.size+1,4+c,none⟩=some (.int .i64 (t.l c))) (go_keep) ((go_at_call 306;refine Calls.mono (HO.out _) ?_;rintro e w' ⟨rfl,rfl⟩))
 all_goals
  have HY:Hid (Py w o t ((w1.alloc (.cells #[.int .i8 o.op,.int .u8 0,.int .u32 0,.int .u32 0,.int .i64 (t.l c),.bool ob] 332)).drew) w1.heap.size ⟨o.op,0,0,0,t.l c,ob⟩):=⟨HZ.out.next (((Below.refl _ _).alloc (Nat.le_refl _) _).trans ((drew_up _).mono (by simp))),(At.new w1 _ 332).below (drew_up _) (At.new w1 _ 332).lt,by have:=HZ.out.z.lt;omega⟩;clear HZ o0 ol tc tl HC HO;generalize ((w1.alloc (.cells #[.int .i8 o.op,.int .u8 0,.int .u32 0,.int .u32 0,.int .i64 (t.l c),.bool ob] 332)).drew)=X at *;generalize w1.heap.size=b at *;obtain ⟨o0,o1,o2,o3,o4⟩:=HY.out.z.o.o5;have ol:=HY.out.z.o.lt;have hwb:¬ w.heap.size=b:=by have:=HY.out.lt;omega
  have hwb':¬ b=w.heap.size:=fun e=>hwb e.symm;have hwc:¬ w.heap.size+1+1=b:=by have:=HY.out.lt;omega
  have hwc':¬ b=w.heap.size+1+1:=fun e=>hwc e.symm
  cases hw:wrB o
  ·have hd:wrD o=0:=by simp [wrD,hw]
   rw [hw,hd] at HW;go_wp2_with (first|(go_at_call 307;refine Calls.mono (HW.out _) ?_;rintro e w2 ⟨rfl,hb⟩;have HY2:Hid (Py w o t w2 b ⟨o.op,0,0,0,t.l c,ob⟩):=HY.out.up hb;clear HY hb o0 o1 o2 o3 o4 ol;obtain ⟨o0,o1,o2,o3,o4⟩:=HY2.out.z.o.o5;have ol:=HY2.out.z.o.lt)|(go_at_call 308;refine Calls.mono (HR.out _) ?_;rintro e w3 ⟨rb,rfl,hat,hb⟩;have HY3:Hid (Py w o t w3 b ⟨o.op,0,0,0,t.l c,ob⟩):=HY2.out.up hb;have HA:Hid _:=hat;clear HY2 hb hat o0 o1 o2 o3 o4 ol))
   have hrb:¬ rb=b:=fun e=>by
    subst e;have e1:=HA.out.c 0 _ rfl;have e2:=HY3.out.x.c 0 _ rfl;rw [e1] at e2
    cases e2
   have hrb':¬ b=rb:=fun e=>hrb e.symm;have hn:Hid (rcN k o<=2):=by show rcN k o<=2;unfold rcN;split <;> (try split) <;> simp
   go_loopw [42] (fun i wr=>∃ j:Nat,j<=rcN k o/\i=.int .i64 j/\Py w o t wr b ⟨o.op,0,0,mk o j,t.l c,ob⟩/\At wr rb #[.int .u8 o.a,.int .u8 o.b]) (fun i _=>rcN k o-(intOf i).toNat)
   case atStart=>exact ⟨0,by omega,rfl,HY3.out,HA.out⟩
   case round=>
    rename World=>wr;obtain ⟨j,hj,rfl,hpy,hat⟩:=hrel;have HY4:Hid (Py w o t wr b ⟨o.op,0,0,mk o j,t.l c,ob⟩):=hpy;have HA4:Hid (At wr rb #[.int .u8 o.a,.int .u8 o.b]):=hat;clear hpy hat HA HY3;have xl:=HY4.out.x.lt;have x0:=HY4.out.x.c 0 _ rfl;have x1:=HY4.out.x.c 1 _ rfl;have x2:=HY4.out.x.c 2 _ rfl;have x3:=HY4.out.x.c 3 _ rfl;have x4:=HY4.out.x.c 4 _ rfl;have x5:=HY4.out.x.c 5 _ rfl;have xf:=HY4.out.x.f 3;have al:=HA4.out.lt
    by_cases hlt:j<rcN k o
    ·have j0:(0:Int)<=(j:Int):=by omega
     have j1:(j:Int)<(rcN k o:Int):=by omega
     have hj2:j<2:=by have:=hn.out;omega
     have a0:wr.cell? ⟨rb,j,none⟩=some (.int .u8 (rf o j)):=by
      have h0:=HA4.out.c 0 _ rfl;have h1:=HA4.out.c 1 _ rfl
      match j,hj2 with
      | 0,_=>exact h0
      | 1,_=>exact h1
     have HM:Hid (mk o (j+1)=bits BinOp.or IntKind.u32 (mk o j) (sh (rf o j))):=rfl;have hrf:0<=rf o j/\rf o j<=255:=hRF.out j;obtain ⟨q0,q1⟩:=hrf;generalize rf o j=rr at *;generalize mk o j=mm at *;go_wp2_with fail
     go_roundw
     case rel=>exact ⟨j+1,by omega,by go_num,HY4.out.set 3 _ _ (by decide) (by rw [HM.out];rfl),at_fr' HA4.out ((Fr.refl (One b) wr).setCell (.inr rfl) _ _) hrb⟩
     case measure=>simp [intOf];omega
    ·obtain rfl:j=rcN k o:=by omega
     have z2:¬ ((rcN k o:Nat):Int)<(rcN k o:Int):=by omega
     have zz:=HY4.out.z.z;have zl:=zz.lt;have zc0:=zz.c 0 _ rfl;have zc1:=zz.c 1 _ rfl;have zc2:=zz.c 2 _ rfl;have zc3:=zz.c 3 _ rfl;have zc4:=zz.c 4 _ rfl;have zc5:=zz.c 5 _ rfl;have zf0:=zz.f 0;have zf1:=zz.f 1;have zf2:=zz.f 2;have zf3:=zz.f 3;have zf4:=zz.f 4;have zf5:=zz.f 5;clear zz;go_wp2_with fail
     have hz6:=six_set (.int .i8 o.op) (.int .u8 0) (.int .u32 0) (.int .u32 (mk o (rcN k o))) (.int .i64 (t.l c)) (.bool ob) HY4.out.z.z;have hb6:=six_below (b:=w.heap.size+1+1) (.int .i8 o.op) (.int .u8 0) (.int .u32 0) (.int .u32 (mk o (rcN k o))) (.int .i64 (t.l c)) (.bool ob) HY4.out.z.up (by omega);have g0:=hz6.c 0 _ rfl;have g1:=hz6.c 1 _ rfl;have g2:=hz6.c 2 _ rfl;have g3:=hz6.c 3 _ rfl;have g4:=hz6.c 4 _ rfl;have g5:=hz6.c 5 _ rfl;rw [HPt.out,hw];refine bodyPost_ret (v:=.agg #[.int .i8 o.op,.int .u8 0,.int .u32 0,.int .u32 (mk o (rcN k o)),.int .i64 (t.l c),.bool ob]) (by simp only [results,Tryz.results259,go_sem];simp [go_sem,g0,g1,g2,g3,g4,g5]) rfl ⟨?_,hb6⟩;rw [hd];rfl
  ·have hd:wrD o=o.d:=by simp [wrD,hw]
   rw [hw,hd] at HW;have xl:=HY.out.x.lt;go_wp2_with (first|(go_at_call 307;refine Calls.mono (HW.out _) ?_;rintro e w2 ⟨rfl,hb⟩;have HY2:Hid (Py w o t w2 b ⟨o.op,0,0,0,t.l c,ob⟩):=HY.out.up hb;clear HY hb o0 o1 o2 o3 o4 ol xl;obtain ⟨o0,o1,o2,o3,o4⟩:=HY2.out.z.o.o5;have ol:=HY2.out.z.o.lt;have xl:=HY2.out.x.lt;have x1:=HY2.out.x.c 1 _ rfl;have x2:=HY2.out.x.c 2 _ rfl;have xf1:=HY2.out.x.f 1;have xf2:=HY2.out.x.f 2)|(go_at_call 308;refine Calls.mono (HR.out _) ?_;rintro e w3 ⟨rb,rfl,hat,hb⟩;have HY3:Hid (Py w o t w3 b ⟨o.op,o.d,sh o.d,0,t.l c,ob⟩):=((HY2.out.set 1 (.int .u8 o.d) ⟨o.op,o.d,0,0,t.l c,ob⟩ (by decide) rfl).set 2 (.int .u32 (sh o.d)) ⟨o.op,o.d,sh o.d,0,t.l c,ob⟩ (by decide) rfl).up hb;have HA:Hid _:=hat;clear HY2 hb hat o0 o1 o2 o3 o4 ol xl x1 x2 xf1 xf2))
   have hrb:¬ rb=b:=fun e=>by
    subst e;have e1:=HA.out.c 0 _ rfl;have e2:=HY3.out.x.c 0 _ rfl;rw [e1] at e2
    cases e2
   have hrb':¬ b=rb:=fun e=>hrb e.symm;have hn:Hid (rcN k o<=2):=by show rcN k o<=2;unfold rcN;split <;> (try split) <;> simp
   go_loopw [42] (fun i wr=>∃ j:Nat,j<=rcN k o/\i=.int .i64 j/\Py w o t wr b ⟨o.op,o.d,sh o.d,mk o j,t.l c,ob⟩/\At wr rb #[.int .u8 o.a,.int .u8 o.b]) (fun i _=>rcN k o-(intOf i).toNat)
   case atStart=>exact ⟨0,by omega,rfl,HY3.out,HA.out⟩
   case round=>
    rename World=>wr;obtain ⟨j,hj,rfl,hpy,hat⟩:=hrel;have HY4:Hid (Py w o t wr b ⟨o.op,o.d,sh o.d,mk o j,t.l c,ob⟩):=hpy;have HA4:Hid (At wr rb #[.int .u8 o.a,.int .u8 o.b]):=hat;clear hpy hat HA HY3;have xl:=HY4.out.x.lt;have x0:=HY4.out.x.c 0 _ rfl;have x1:=HY4.out.x.c 1 _ rfl;have x2:=HY4.out.x.c 2 _ rfl;have x3:=HY4.out.x.c 3 _ rfl;have x4:=HY4.out.x.c 4 _ rfl;have x5:=HY4.out.x.c 5 _ rfl;have xf:=HY4.out.x.f 3;have al:=HA4.out.lt
    by_cases hlt:j<rcN k o
    ·have j0:(0:Int)<=(j:Int):=by omega
     have j1:(j:Int)<(rcN k o:Int):=by omega
     have hj2:j<2:=by have:=hn.out;omega
     have a0:wr.cell? ⟨rb,j,none⟩=some (.int .u8 (rf o j)):=by
      have h0:=HA4.out.c 0 _ rfl;have h1:=HA4.out.c 1 _ rfl
      match j,hj2 with
      | 0,_=>exact h0
      | 1,_=>exact h1
     have HM:Hid (mk o (j+1)=bits BinOp.or IntKind.u32 (mk o j) (sh (rf o j))):=rfl;have hrf:0<=rf o j/\rf o j<=255:=hRF.out j;obtain ⟨q0,q1⟩:=hrf;generalize rf o j=rr at *;generalize mk o j=mm at *;go_wp2_with fail
     go_roundw
     case rel=>exact ⟨j+1,by omega,by go_num,HY4.out.set 3 _ _ (by decide) (by rw [HM.out];rfl),at_fr' HA4.out ((Fr.refl (One b) wr).setCell (.inr rfl) _ _) hrb⟩
     case measure=>simp [intOf];omega
    ·obtain rfl:j=rcN k o:=by omega
     have z2:¬ ((rcN k o:Nat):Int)<(rcN k o:Int):=by omega
     have zz:=HY4.out.z.z;have zl:=zz.lt;have zc0:=zz.c 0 _ rfl;have zc1:=zz.c 1 _ rfl;have zc2:=zz.c 2 _ rfl;have zc3:=zz.c 3 _ rfl;have zc4:=zz.c 4 _ rfl;have zc5:=zz.c 5 _ rfl;have zf0:=zz.f 0;have zf1:=zz.f 1;have zf2:=zz.f 2;have zf3:=zz.f 3;have zf4:=zz.f 4;have zf5:=zz.f 5;clear zz;go_wp2_with fail
     have hz6:=six_set (.int .i8 o.op) (.int .u8 o.d) (.int .u32 (sh o.d)) (.int .u32 (mk o (rcN k o))) (.int .i64 (t.l c)) (.bool ob) HY4.out.z.z;have hb6:=six_below (b:=w.heap.size+1+1) (.int .i8 o.op) (.int .u8 o.d) (.int .u32 (sh o.d)) (.int .u32 (mk o (rcN k o))) (.int .i64 (t.l c)) (.bool ob) HY4.out.z.up (by omega);have g0:=hz6.c 0 _ rfl;have g1:=hz6.c 1 _ rfl;have g2:=hz6.c 2 _ rfl;have g3:=hz6.c 3 _ rfl;have g4:=hz6.c 4 _ rfl;have g5:=hz6.c 5 _ rfl;rw [HPt.out,hw];refine bodyPost_ret (v:=.agg #[.int .i8 o.op,.int .u8 o.d,.int .u32 (sh o.d),.int .u32 (mk o (rcN k o)),.int .i64 (t.l c),.bool ob]) (by simp only [results,Tryz.results259,go_sem];simp [go_sem,g0,g1,g2,g3,g4,g5]) rfl ⟨?_,hb6⟩;rw [hd];rfl
end Go.Proofs.YtpdaknbmcpmhjaaGreatDoor.Dp
namespace Go.Proofs.YtpdaknbmcpmhjaaGreatDoor.Al
open Go.ChangeShapes Go.WideShapes Go.ChangeAt Go.RowKit
open YtpdaknbmcpmhjaaGreatDoor.Op
structure Tw (w V:World) (x y:O):Prop where
 b:Below w.heap.size w V
 p:At V w.heap.size x.cells
 q:At V (w.heap.size+1) y.cells
theorem Tw.go {w V V':World} {x y:O} (h:Tw w V x y) (hb:Below V.heap.size V V'):Tw w V' x y:=⟨h.b.trans (hb.mono h.b.size),h.p.below hb h.p.lt,h.q.below hb h.q.lt⟩
theorem Tw.start (w:World) (x y:O) (t t':TypeId):Tw w ((w.alloc (.cells x.cells t)).alloc (.cells y.cells t')) x y:=by
 obtain ⟨a1,a2,b,_,_⟩:=two_new w x.cells y.cells t t' (Below.refl _ _);exact ⟨b,a1,a2⟩

end Go.Proofs.YtpdaknbmcpmhjaaGreatDoor.Al
namespace Go.Proofs.YtpdaknbmcpmhjaaGreatDoor.Dp
open Go.ChangeShapes Go.WideShapes Go.ChangeAt Go.RowKit
open YtpdaknbmcpmhjaaGreatDoor.Op YtpdaknbmcpmhjaaGreatDoor.So
open YtpdaknbmcpmhjaaGreatDoor.Tb (Tab TabAt Bnds)
def okL (o:O):Bool:=decide (1<=o.op)&&decide (o.op<=17)&&okO o
def lisE (t:Tab) (xs:List O):Int:=if t.ok=false then 20 else if 1024<xs.length then 3 else if xs.all okL then 0 else 30
theorem all_take {xs:List O} {k:Nat} (h:k<xs.length):(xs.take (k+1)).all okL=((xs.take k).all okL&&okL xs[k]):=by
 rw [List.take_succ_eq_append_getElem h,List.all_append];simp
theorem all_no {xs:List O} {k:Nat} (h:k<xs.length) (hb:okL xs[k]=false):xs.all okL=false:=by
 cases e:xs.all okL
 ·rfl
 ·rw [List.all_eq_true.1 e _ (List.getElem_mem h)] at hb;cases hb
theorem lis_any (ao:Option Addr) (cap:Nat) (xs:List O) (t:Tab) (w:World) (hG:Bnds w) (h:OpsAt w ao xs) :
  Calls Tryz.prog 212 #[.slice ao xs.length cap,t.val] w fun e w'=>e=.returned (.int .i64 (lisE t xs))/\Below w.heap.size w w':=by
 have HC:Hid (∀ W,Bnds W->Calls Tryz.prog 71 #[t.val] W fun e w'=>e=.returned (.int .i64 (Tb.ckR t))/\Below W.heap.size W w'):=fun W hG=>Tb.check_any t W hG;have HO:Hid (OpsAt w ao xs):=h;have HB:Hid (Bnds w):=hG;have hlen:=h.len;have hdef:lisE t xs=if t.ok=false then 20 else if 1024<xs.length then 3 else if xs.all okL then 0 else 30:=rfl;rw [hdef];clear hdef h hG;have hck:Tb.ckR t=if t.ok then 0 else 20:=rfl;have hA:Hid (∀ (c:Array Value),Bnds (w.alloc (.cells c 27))):=fun c=>HB.out.below ((Below.refl w.heap.size w).alloc (Nat.le_refl _) _) HB.out.big;unfold Tab.val at *
 cases hok:t.ok
 ·rw [hok] at hck;have hck':Tb.ckR t=20:=hck;rw [hck'] at HC;rw [if_pos rfl];go_enter Tryz.func212,Tryz.ntmps212;go_wp2_with (first|(go_at_call 71;refine Calls.mono (HC.out _ (hA.out _)) ?_;rintro e w1 ⟨rfl,hb⟩;obtain ⟨-,hb0,hz⟩:=one_new w _ _ hb;have HB1:Hid (Below w.heap.size w w1):=hb0;clear hb hb0))
  go_ret
  exact ⟨rfl,HB1.out⟩
 ·rw [hok] at hck;have hck':Tb.ckR t=0:=hck;rw [hck'] at HC;rw [if_neg (by decide)]
  by_cases hl:1024<xs.length
  ·have hl':(1024:Int)<(xs.length:Int):=by omega
   rw [if_pos hl];go_enter Tryz.func212,Tryz.ntmps212;go_wp2_with (first|(go_at_call 71;refine Calls.mono (HC.out _ (hA.out _)) ?_;rintro e w1 ⟨rfl,hb⟩;obtain ⟨-,hb0,hz⟩:=one_new w _ _ hb;have HB1:Hid (Below w.heap.size w w1):=hb0;clear hb hb0))
   go_ret
   exact ⟨rfl,HB1.out⟩
  ·have hl':¬ (1024:Int)<(xs.length:Int):=by omega
   rw [if_neg hl];obtain ⟨v,hv⟩:∃ v:Int,(if xs.all okL then (0:Int) else 30)=v:=⟨_,rfl⟩;rw [hv];have HV0:Hid (xs.all okL=true->0=v):=fun h=>by rw [<- hv,h];rfl
   have HV1:Hid (xs.all okL=false->30=v):=fun h=>by rw [<- hv,h];rfl
   clear hv;go_enter Tryz.func212,Tryz.ntmps212;go_wp2_with (first|(go_at_call 71;refine Calls.mono (HC.out _ (hA.out _)) ?_;rintro e w1 ⟨rfl,hb⟩;obtain ⟨-,hb0,hz⟩:=one_new w _ _ hb;have HB1:Hid (Below w.heap.size w w1):=hb0;clear hb hb0))
   go_loopw [18] (fun i wr=>∃ k:Nat,k<=xs.length/\i=.int .i64 k/\Below w.heap.size w wr/\(xs.take k).all okL=true) (fun i _=>xs.length-(intOf i).toNat)
   case atStart=>exact ⟨0,by omega,rfl,HB1.out,by simp⟩
   case round=>
    rename World=>wr;obtain ⟨k,hk,rfl,hbw,hall⟩:=hrel;have HB2:Hid (Below w.heap.size w wr):=hbw;have HAl:Hid ((xs.take k).all okL=true):=hall;clear hbw HB1 hall
    by_cases hlt:k<xs.length
    ·have k0:(0:Int)<=(k:Int):=by omega
     have k1:(k:Int)<(xs.length:Int):=by omega
     obtain ⟨b,f,rfl,hz2,hx⟩:=(HO.out.below HB2.out).is (by omega);obtain ⟨q0,q1,q2,q3,q4⟩:=hx k hlt;have HN:Hid ((xs.take (k+1)).all okL=okL xs[k]):=by show (xs.take (k+1)).all okL=okL xs[k];rw [all_take hlt,HAl.out,Bool.true_and]
     have HT:Hid (okL xs[k]=false->xs.all okL=false):=all_no hlt;have hOk:xs[k].Ok:=HO.out.ok _ (List.getElem_mem hlt);clear hx HAl;generalize xs[k]=o at *;have HCk:Hid (∀ W,Calls Tryz.prog 151 #[o.val] W fun e w'=>e=.returned (.int .i64 (ckE o))/\Below W.heap.size W w'):=fun W=>Op.check_any o W hOk;clear hOk
     by_cases h1:o.op<1
     ·go_wp2_with fail
      go_ret
      exact ⟨ret_int (HV1.out (HT.out (by simp [okL];omega))),HB2.out.trans ((Below.refl _ _).alloc HB2.out.size _)⟩
     ·by_cases h2:17<o.op
      ·go_wp2_with fail
       go_ret
       exact ⟨ret_int (HV1.out (HT.out (by simp [okL];omega))),HB2.out.trans ((Below.refl _ _).alloc HB2.out.size _)⟩
      ·have e1:okL o=okO o:=by
        have:decide (1<=o.op)=true:=by simp;omega
        have h4:decide (o.op<=17)=true:=by simp;omega
        unfold okL;rw [this,h4];rfl
       rw [e1] at HN HT;clear e1
       cases hoo:okO o
       ·rw [show ckE o=30 by simp [ckE,hoo]] at HCk;go_wp2_with (first|(go_at_call 151;refine Calls.mono (HCk.out _) ?_;rintro e w2 ⟨rfl,hb⟩;obtain ⟨-,hb0,hz⟩:=one_new wr _ _ hb;have HB3:Hid (Below w.heap.size w w2):=HB2.out.trans (hb0.mono HB2.out.size);clear hb hb0))
        go_ret
        exact ⟨ret_int (HV1.out (HT.out hoo)),HB3.out⟩
       ·rw [show ckE o=0 by simp [ckE,hoo]] at HCk;go_wp2_with (first|(go_at_call 151;refine Calls.mono (HCk.out _) ?_;rintro e w2 ⟨rfl,hb⟩;obtain ⟨-,hb0,hz⟩:=one_new wr _ _ hb;have HB3:Hid (Below w.heap.size w w2):=HB2.out.trans (hb0.mono HB2.out.size);clear hb hb0))
        go_roundw
        case rel=>exact ⟨k+1,by omega,by go_num,HB3.out,by rw [HN.out,hoo]⟩
        case measure=>simp [intOf];omega
    ·have z2:¬ (k:Int)<(xs.length:Int):=by omega
     have HA2:Hid (xs.all okL=true):=by
      have h:=HAl.out;rw [List.take_of_length_le (by omega)] at h;exact h
     clear HAl;go_wp2_with fail
     go_ret
     exact ⟨ret_int (HV0.out HA2.out),HB2.out⟩
end Go.Proofs.YtpdaknbmcpmhjaaGreatDoor.Dp
