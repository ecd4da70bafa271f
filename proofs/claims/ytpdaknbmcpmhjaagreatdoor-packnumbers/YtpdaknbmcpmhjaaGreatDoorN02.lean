/- Parts Kd Tk Aa Pm Ab Ac. -/
import Derived.Test.YtpdaknbmcpmhjaaGreatDoorN01
import Derived.Deep.QuietTactic
import Derived.BigQuiet
import Derived.Deep.LoopGhost
import Derived.Deep.RegionHeld3
set_option maxRecDepth 20000
set_option maxHeartbeats 1000000
namespace Go.Proofs.YtpdaknbmcpmhjaaGreatDoor.Op
open Go.ChangeShapes Go.WideShapes Go.ChangeAt Go.RowKit
structure At (w:World) (b:Nat) (cs:Array Value):Prop where
 c:∀ (j:Nat) v,cs[j]?=some v->w.cell? ⟨b,j,none⟩=some v
 f:∀ j:Nat,w.frozen? ⟨b,j,none⟩=false
 lt:b<w.heap.size
theorem At.new (w:World) (c:Array Value) (t:TypeId):At (w.alloc (.cells c t)) w.heap.size c:=
 ⟨fun j v h=>by simp [h],fun j=>by simp,by simp⟩
theorem At.below {w w':World} {b B:Nat} {cs:Array Value} (h:At w b cs) (hb:Below B w w') (hB:b<B):At w' b cs:=
 ⟨fun j v e=>by rw [(bcell hb).1 _ _ hB];exact h.c j v e,fun j=>by rw [(bcell hb).2 _ _ hB];exact h.f j,Nat.lt_of_lt_of_le h.lt hb.size⟩
theorem At.alloc {w:World} {b:Nat} {cs:Array Value} (h:At w b cs) (o:Obj):At (w.alloc o) b cs:=
 h.below ((Below.refl _ _).alloc (Nat.le_refl _) o) h.lt
theorem two_new (w:World) (c c':Array Value) (t t':TypeId) {w':World} (hb:Below ((w.alloc (.cells c t)).alloc (.cells c' t')).heap.size ((w.alloc (.cells c t)).alloc (.cells c' t')) w') :
  At w' w.heap.size c/\At w' (w.heap.size+1) c'/\Below w.heap.size w w'/\w.heap.size<w'.heap.size/\w.heap.size+1<w'.heap.size:=by
 have hz:=hb.size;simp at hz
 have h2:=At.new (w.alloc (.cells c t)) c' t';rw [show (w.alloc (.cells c t)).heap.size=w.heap.size+1 by simp] at h2;refine ⟨((At.new w c t).alloc _).below hb (by simp;omega),h2.below hb (by simp),Below.trans (by go_grown) (hb.mono (by simp;omega)),by omega,by omega⟩
theorem one_new (w:World) (c:Array Value) (t:TypeId) {w':World} (hb:Below (w.alloc (.cells c t)).heap.size (w.alloc (.cells c t)) w') :
  At w' w.heap.size c/\Below w.heap.size w w'/\w.heap.size<w'.heap.size:=by
 have hz:=hb.size;simp at hz
 exact ⟨(At.new w c t).below hb (by simp),Below.trans (by go_grown) (hb.mono (by simp)),hz⟩
theorem At.k3 {w:World} {b:Nat} {x y z:Value} (h:At w b #[x,y,z]):w.cell? ⟨b,0,none⟩=some x/\w.cell? ⟨b,1,none⟩=some y/\w.cell? ⟨b,2,none⟩=some z:=
 ⟨h.c 0 x rfl,h.c 1 y rfl,h.c 2 z rfl⟩
theorem At.o5 {w:World} {b:Nat} {x y z u v:Value} (h:At w b #[x,y,z,u,v]):w.cell? ⟨b,0,none⟩=some x/\w.cell? ⟨b,1,none⟩=some y/\w.cell? ⟨b,2,none⟩=some z/\w.cell? ⟨b,3,none⟩=some u/\w.cell? ⟨b,4,none⟩=some v:=
 ⟨h.c 0 x rfl,h.c 1 y rfl,h.c 2 z rfl,h.c 3 u rfl,h.c 4 v rfl⟩
theorem okO_some {o:O} {k:K} (h:kOf o.op=some k):okO o=okF k o:=by unfold okO;rw [h]
theorem okO_none {o:O} (h:kOf o.op=none):okO o=false:=by unfold okO;rw [h]
theorem checked_none (o:O) (w:World) (ho:o.Ok) (h:kOf o.op=none) :
  Calls Tryz.prog 208 #[o.val] w fun e w'=>e=.returned (.tuple #[kz,.int .i64 30])/\Below w.heap.size w w':=by
 have HK:Hid (∀ w,Calls Tryz.prog 75 #[.int .i8 o.op] w fun e w'=>e=.returned (.tuple #[kz,.bool false])/\Below w.heap.size w w'):=fun w=>kindOf_no o.op w ho.op0 ho.op1 h;clear ho h;go_enter Tryz.func208,Tryz.ntmps208;go_wp2_with (first|(go_at_call 75;refine Calls.mono (HK.out _) ?_;rintro e w1 ⟨rfl,hb⟩;obtain ⟨a1,a2,hb0,hz,hz1⟩:=two_new w _ _ _ _ hb;have HB:Hid (Below w.heap.size w w1):=hb0;have f0:=a2.f 0;have f1:=a2.f 1;have f2:=a2.f 2;obtain ⟨c0,c1,c2⟩:=a2.k3;clear hb hb0 a1 a2))
 refine bodyPost_ret (v:=.tuple #[kz,.int .i64 30]) (by simp [results,Tryz.results208,go_sem,c0,c1,c2,hz1]) rfl ⟨rfl,HB.out.trans ?_⟩
 go_grown
theorem checked_bad (o:O) (k:K) (w:World) (h:kOf o.op=some k) (hf:okF k o=false) :
  Calls Tryz.prog 208 #[o.val] w fun e w'=>e=.returned (.tuple #[kz,.int .i64 30])/\Below w.heap.size w w':=by
 have HK:Hid (∀ w,Calls Tryz.prog 75 #[.int .i8 o.op] w fun e w'=>e=.returned (.tuple #[k.val,.bool true])/\Below w.heap.size w w'):=fun w=>kindOf_yes o.op k w h;have HF:Hid (∀ w,Calls Tryz.prog 257 #[k.val,o.val] w fun e w'=>e=.returned (.bool false)/\Below w.heap.size w w'):=fun w=>by have:=fieldsHold_any k o w;rw [hf] at this;exact this
 clear h hf;go_enter Tryz.func208,Tryz.ntmps208;go_wp2_with (first|(go_at_call 75;refine Calls.mono (HK.out _) ?_;rintro e w1 ⟨rfl,hb⟩;obtain ⟨a1,a2,hb0,hz,hz1⟩:=two_new w _ _ _ _ hb;have HB:Hid (Below w.heap.size w w1):=hb0;have HA:Hid (At w1 (w.heap.size+1) _):=a2;obtain ⟨o0,o1,o2,o3,o4⟩:=a1.o5;clear hb hb0 a1 a2)|(go_at_call 257;refine Calls.mono (HF.out _) ?_;rintro e w2 ⟨rfl,hb⟩;obtain ⟨-,hb0,hz2⟩:=one_new w1 _ _ hb;have a2:=HA.out.below hb0 (by omega);have hz3:w.heap.size<w2.heap.size:=(by omega);have hz4:w.heap.size+1<w2.heap.size:=(by omega);have HB2:Hid (Below w.heap.size w w2):=HB.out.trans (hb0.mono HB.out.size);have f0:=a2.f 0;have f1:=a2.f 1;have f2:=a2.f 2;obtain ⟨c0,c1,c2⟩:=a2.k3;clear hb hb0 a2 o0 o1 o2 o3 o4))
 refine bodyPost_ret (v:=.tuple #[kz,.int .i64 30]) (by simp [results,Tryz.results208,go_sem,c0,c1,c2]) rfl ⟨rfl,HB2.out.trans ?_⟩
 go_grown
theorem checked_yes (o:O) (k:K) (w:World) (h:kOf o.op=some k) (hf:okF k o=true) :
  Calls Tryz.prog 208 #[o.val] w fun e w'=>e=.returned (.tuple #[k.val,.int .i64 0])/\Below w.heap.size w w':=by
 have HK:Hid (∀ w,Calls Tryz.prog 75 #[.int .i8 o.op] w fun e w'=>e=.returned (.tuple #[k.val,.bool true])/\Below w.heap.size w w'):=fun w=>kindOf_yes o.op k w h;have HF:Hid (∀ w,Calls Tryz.prog 257 #[k.val,o.val] w fun e w'=>e=.returned (.bool true)/\Below w.heap.size w w'):=fun w=>by have:=fieldsHold_any k o w;rw [hf] at this;exact this
 clear h hf;go_enter Tryz.func208,Tryz.ntmps208;go_wp2_with (first|(go_at_call 75;refine Calls.mono (HK.out _) ?_;rintro e w1 ⟨rfl,hb⟩;obtain ⟨a1,a2,hb0,hz,hz1⟩:=two_new w _ _ _ _ hb;have HB:Hid (Below w.heap.size w w1):=hb0;have HA:Hid (At w1 (w.heap.size+1) _):=a2;obtain ⟨o0,o1,o2,o3,o4⟩:=a1.o5;clear hb hb0 a1 a2)|(go_at_call 257;refine Calls.mono (HF.out _) ?_;rintro e w2 ⟨rfl,hb⟩;obtain ⟨a1,hb0,hz2⟩:=one_new w1 _ _ hb;have a2:=HA.out.below hb0 (by omega);have hz3:w.heap.size<w2.heap.size:=(by omega);have hz4:w.heap.size+1<w2.heap.size:=(by omega);have HB2:Hid (Below w.heap.size w w2):=HB.out.trans (hb0.mono HB.out.size);have f0:=a2.f 0;have f1:=a2.f 1;have f2:=a2.f 2;obtain ⟨c0,c1,c2⟩:=a2.k3;obtain ⟨k0,k1,k2⟩:=a1.k3;clear hb hb0 a2 a1 o0 o1 o2 o3 o4))
 refine bodyPost_ret (v:=.tuple #[k.val,.int .i64 0]) (by simp [results,Tryz.results208,go_sem,c0,c1,c2]) rfl ⟨rfl,HB2.out.trans ?_⟩
 go_grown
theorem checked_no (o:O) (w:World) (ho:o.Ok) (h:okO o=false) :
  Calls Tryz.prog 208 #[o.val] w fun e w'=>e=.returned (.tuple #[kz,.int .i64 30])/\Below w.heap.size w w':=by
 cases hk:kOf o.op with
 | none=>exact checked_none o w ho hk
 | some k=>exact checked_bad o k w hk (by rw [<- okO_some hk];exact h)
def ckE (o:O):Int:=if okO o then 0 else 30
theorem checked_gen (o:O) (ho:o.Ok):∃ s c f,∀ w,Calls Tryz.prog 208 #[o.val] w fun e w'=>e=.returned (.tuple #[.agg #[.string s,.int .i8 c,.int .u8 f],.int .i64 (ckE o)])/\Below w.heap.size w w':=by
 cases hO:okO o
 ·exact ⟨_,_,_,fun w=>by have:=checked_no o w ho hO;rw [show (30:Int)=ckE o by simp [ckE,hO]] at this;exact this⟩
 ·cases hk:kOf o.op with
  | none=>rw [okO_none hk] at hO;cases hO
  | some k=>exact ⟨_,_,_,fun w=>by have:=checked_yes o k w hk (by rw [<- okO_some hk];exact hO);rw [show (0:Int)=ckE o by simp [ckE,hO]] at this;exact this⟩
theorem check_any (o:O) (w:World) (ho:o.Ok):Calls Tryz.prog 151 #[o.val] w fun e w'=>e=.returned (.int .i64 (ckE o))/\Below w.heap.size w w':=by
 obtain ⟨s,c,f,h⟩:=checked_gen o ho;have HC:Hid _:=h;clear h;go_enter Tryz.func151,Tryz.ntmps151;go_wp2_with (first|(go_at_call 208;refine Calls.mono (HC.out _) ?_;rintro e w1 ⟨rfl,hb⟩;obtain ⟨-,hb0,hz⟩:=one_new w _ _ hb;have HB:Hid (Below w.heap.size w w1):=hb0;clear hb hb0))
 go_ret
 exact ⟨rfl,HB.out.trans ((Below.refl _ _).alloc (Nat.le_of_lt hz) _)⟩
def wrB (o:O):Bool:=match kOf o.op with|some k=>okF k o&&k.D|none=>false
def wrD (o:O):Int:=if wrB o then o.d else 0
theorem wr_no {o:O} (h:okO o=false):wrB o=false:=by
 unfold wrB;unfold okO at h
 split <;> simp_all
theorem wr_yes {o:O} {k:K} (h:kOf o.op=some k) (hf:okF k o=true):wrB o=k.D:=by
 unfold wrB;rw [h];simp [hf]
theorem writes_any (o:O) (w:World) (ho:o.Ok):Calls Tryz.prog 307 #[o.val] w fun e w'=>e=.returned (.tuple #[.int .u8 (wrD o),.bool (wrB o)])/\Below w.heap.size w w':=by
 cases hO:okO o
 ·have hw:=wr_no hO;rw [show wrD o=0 by simp [wrD,hw],hw];have HC:Hid _:=fun w=>checked_no o w ho hO;clear hO hw ho;go_enter Tryz.func307,Tryz.ntmps307;go_wp2_with (first|(go_at_call 208;refine Calls.mono (HC.out _) ?_;rintro e w1 ⟨rfl,hb⟩;obtain ⟨-,hb0,hz⟩:=one_new w _ _ hb;have HB:Hid (Below w.heap.size w w1):=hb0;clear hb hb0))
  go_ret2
  exact ⟨rfl,HB.out.trans ((Below.refl _ _).alloc (Nat.le_of_lt hz) _)⟩
 ·cases hk:kOf o.op with
  | none=>rw [okO_none hk] at hO;cases hO
  | some k=>
   have hf:okF k o=true:=by rw [<- okO_some hk];exact hO
   have hw:=wr_yes hk hf;have HC:Hid _:=fun w=>checked_yes o k w hk hf;have HD:Hid _:=fun w=>cnt_D k w
   cases hD:k.D
   ·rw [hD] at hw;rw [show wrD o=0 by simp [wrD,hw],hw];rw [hD] at HD;clear hO hw ho hk hf;go_enter Tryz.func307,Tryz.ntmps307;go_wp2_with (first|(go_at_call 208;refine Calls.mono (HC.out _) ?_;rintro e w1 ⟨rfl,hb⟩;obtain ⟨-,hb0,hz⟩:=one_new w _ _ hb;have HB:Hid (Below w.heap.size w w1):=hb0;clear hb hb0)|(go_at_call 302;refine Calls.mono (HD.out _) ?_;rintro e w2 ⟨rfl,hb⟩;obtain ⟨-,hb0,hz2⟩:=one_new w1 _ _ hb;have HB2:Hid (Below w.heap.size w w2):=HB.out.trans (hb0.mono (Nat.le_of_lt hz));clear hb hb0))
    go_ret2
    exact ⟨rfl,HB2.out⟩
   ·rw [hD] at hw;rw [show wrD o=o.d by simp [wrD,hw],hw];rw [hD] at HD;clear hO hw ho hk hf;go_enter Tryz.func307,Tryz.ntmps307;go_wp2_with (first|(go_at_call 208;refine Calls.mono (HC.out _) ?_;rintro e w1 ⟨rfl,hb⟩;obtain ⟨a1,hb0,hz⟩:=one_new w _ _ hb;have HA:Hid _:=a1;have HB:Hid (Below w.heap.size w w1):=hb0;clear hb hb0 a1)|(go_at_call 302;refine Calls.mono (HD.out _) ?_;rintro e w2 ⟨rfl,hb⟩;obtain ⟨-,hb0,hz2⟩:=one_new w1 _ _ hb;have HB2:Hid (Below w.heap.size w w2):=HB.out.trans (hb0.mono (Nat.le_of_lt hz));have o1:=(HA.out.below hb0 hz).o5.2.1;clear hb hb0))
    go_ret2
    exact ⟨rfl,HB2.out⟩
end Go.Proofs.YtpdaknbmcpmhjaaGreatDoor.Op
namespace Go.Proofs.YtpdaknbmcpmhjaaGreatDoor.Tb
open Go.ChangeShapes Go.WideShapes Go.ChangeAt Go.RowKit
open Go.Proofs.YtpdaknbmcpmhjaaGreatDoor.Op (ret_bool ret_int bcell Wd wp_region_in calls_in)
structure Tab where
 u:Nat->Int
 l:Nat->Int
 b:Nat->Int
 d:Int
abbrev Tab.cells (t:Tab):Array Value:=#[.int .i64 (t.u 0),.int .i64 (t.u 1),.int .i64 (t.u 2),.int .i64 (t.u 3),.int .i64 (t.l 0),.int .i64 (t.l 1),.int .i64 (t.l 2),.int .i64 (t.l 3),.int .i64 (t.b 0),.int .i64 (t.b 1),.int .i64 (t.b 2),.int .i64 (t.b 3),.int .i64 t.d]
def Tab.val (t:Tab):Value:=.agg #[.int .i64 (t.u 0),.int .i64 (t.u 1),.int .i64 (t.u 2),.int .i64 (t.u 3),.int .i64 (t.l 0),.int .i64 (t.l 1),.int .i64 (t.l 2),.int .i64 (t.l 3),.int .i64 (t.b 0),.int .i64 (t.b 1),.int .i64 (t.b 2),.int .i64 (t.b 3),.int .i64 t.d]
def inB (lo hi n:Int):Bool:=decide (lo<=n)&&decide (n<=hi)
theorem hold_eq (lo hi n:Int) (w:World) :
  Calls Tryz.prog 134 #[.agg #[.int .i64 lo,.int .i64 hi],.int .i64 n] w fun e w'=>e=.returned (.bool (inB lo hi n))/\w'=w.alloc (.cells #[.int .i64 lo,.int .i64 hi] 210):=by
 by_cases h:lo<=n
 ·go_enter Tryz.func134,Tryz.ntmps134;go_wp2
  go_ret
  exact ⟨ret_bool (by simp [inB,h]),rfl⟩
 ·go_enter Tryz.func134,Tryz.ntmps134;go_wp2
  go_ret
  exact ⟨ret_bool (by simp [inB];omega),rfl⟩
theorem hold_any (lo hi n:Int) (w:World) :
  Calls Tryz.prog 134 #[.agg #[.int .i64 lo,.int .i64 hi],.int .i64 n] w fun e w'=>e=.returned (.bool (inB lo hi n))/\Below w.heap.size w w':=
 (hold_eq lo hi n w).mono fun _ _ h=>⟨h.1,by rw [h.2];exact (Below.refl _ _).alloc (Nat.le_refl _) _⟩
structure Bnds (w:World):Prop where
 d0:w.cell? ⟨0,0,none⟩=some (.int .i64 0)
 d1:w.cell? ⟨0,1,none⟩=some (.int .i64 4)
 u0:w.cell? ⟨1,0,none⟩=some (.int .i64 0)
 u1:w.cell? ⟨1,1,none⟩=some (.int .i64 8)
 l0:w.cell? ⟨2,0,none⟩=some (.int .i64 1)
 l1:w.cell? ⟨2,1,none⟩=some (.int .i64 8)
 b0:w.cell? ⟨3,0,none⟩=some (.int .i64 1)
 b1:w.cell? ⟨3,1,none⟩=some (.int .i64 4)
 big:5<=w.heap.size
theorem Bnds.below {B:Nat} {w w':World} (h:Bnds w) (hb:Below B w w') (hB:5<=B):Bnds w':=by
 have c:=(bcell hb).1;have z:=h.big;have hs:=hb.size;exact ⟨by rw [c _ _ (by omega)];exact h.d0,by rw [c _ _ (by omega)];exact h.d1,by rw [c _ _ (by omega)];exact h.u0,by rw [c _ _ (by omega)];exact h.u1,by rw [c _ _ (by omega)];exact h.l0,by rw [c _ _ (by omega)];exact h.l1,by rw [c _ _ (by omega)];exact h.b0,by rw [c _ _ (by omega)];exact h.b1,by omega⟩
def okC (t:Tab) (k:Nat):Bool:=inB 0 8 (t.u k)&&inB 1 8 (t.l k)&&inB 1 4 (t.b k)
def Tab.ok (t:Tab):Bool:=inB 0 4 t.d&&okC t 0&&okC t 1&&okC t 2&&okC t 3
structure TabAt (w:World) (b:Nat) (t:Tab):Prop where
 cu:∀ k,k<4->w.cell? ⟨b,k,none⟩=some (.int .i64 (t.u k))
 cl:∀ k,k<4->w.cell? ⟨b,4+k,none⟩=some (.int .i64 (t.l k))
 cb:∀ k,k<4->w.cell? ⟨b,8+k,none⟩=some (.int .i64 (t.b k))
 cd:w.cell? ⟨b,12,none⟩=some (.int .i64 t.d)
 lt:b<w.heap.size
theorem TabAt.below {B:Nat} {w w':World} {b:Nat} {t:Tab} (h:TabAt w b t) (hb:Below B w w') (z:b<B):TabAt w' b t:=by
 have c:=(bcell hb).1;have z':=h.lt;have hs:=hb.size;exact ⟨fun k hk=>by rw [c _ _ z];exact h.cu k hk,fun k hk=>by rw [c _ _ z];exact h.cl k hk,fun k hk=>by rw [c _ _ z];exact h.cb k hk,by rw [c _ _ z];exact h.cd,by omega⟩
theorem four {p:Nat->Prop} (h0:p 0) (h1:p 1) (h2:p 2) (h3:p 3):∀ k,k<4->p k:=by
 intro k hk
 match k,hk with
 | 0,_=>exact h0
 | 1,_=>exact h1
 | 2,_=>exact h2
 | 3,_=>exact h3
theorem tabAt_new (w:World) (t:Tab) (ty:TypeId):TabAt (w.alloc (.cells t.cells ty)) w.heap.size t:=
 ⟨four (by simp [Tab.cells]) (by simp [Tab.cells]) (by simp [Tab.cells]) (by simp [Tab.cells]),four (by simp [Tab.cells]) (by simp [Tab.cells]) (by simp [Tab.cells]) (by simp [Tab.cells]),four (by simp [Tab.cells]) (by simp [Tab.cells]) (by simp [Tab.cells]) (by simp [Tab.cells]),by simp [Tab.cells],by simp⟩
def ckR (t:Tab):Int:=if t.ok then 0 else 20
theorem ckR_no {t:Tab} {k:Nat} (hk:k<4) (h:okC t k=false):20=ckR t:=by
 have:t.ok=false:=by
  unfold Tab.ok
  match k,hk,h with
  | 0,_,h=>simp [h]
  | 1,_,h=>simp [h]
  | 2,_,h=>simp [h]
  | 3,_,h=>simp [h]
 simp [ckR,this]
theorem ckR_yes {t:Tab} (hd:inB 0 4 t.d=true) (h:∀ j,j<4->okC t j=true):0=ckR t:=by
 simp [ckR,Tab.ok,hd,h 0,h 1,h 2,h 3]
theorem check_any (t:Tab) (w:World) (hG:Bnds w) :
  Calls Tryz.prog 71 #[t.val] w fun e w'=>e=.returned (.int .i64 (ckR t))/\Below w.heap.size w w':=by
 have hz:=hG.big;have hG0:Hid (Bnds w):=hG;obtain ⟨d0,d1,u0,u1,l0,l1,b0,b1,_⟩:=hG;have z1:0<w.heap.size:=by omega
 cases hd:inB 0 4 t.d
 ·unfold Tab.val;go_enter Tryz.func71,Tryz.ntmps71;go_wp2_with (first|(go_at_call 134;refine (hold_eq _ _ _ _).mono ?_;rintro e w' ⟨rfl,rfl⟩))
  go_ret
  exact ⟨ret_int (by simp [ckR,Tab.ok,hd]),((Below.refl _ _).alloc (Nat.le_refl _) _).alloc (by simp) _⟩
 ·unfold Tab.val;go_enter Tryz.func71,Tryz.ntmps71;go_wp2_with (first|(go_at_call 134;refine (hold_eq _ _ _ _).mono ?_;rintro e w' ⟨rfl,rfl⟩))
  go_loopw [9] (fun i wr=>∃ k:Nat,k<=4/\i=.int .i64 k/\(∀ j,j<k->okC t j=true)/\Bnds wr/\TabAt wr w.heap.size t/\Below w.heap.size w wr) (fun i _=>4-(intOf i).toNat)
  case atStart=>
   have hb1:Below w.heap.size w (w.alloc (.cells t.cells 27)):=(Below.refl _ _).alloc (Nat.le_refl _) _;have hb2:Below (w.heap.size+1) (w.alloc (.cells t.cells 27)) ((w.alloc (.cells t.cells 27)).alloc (Obj.cells #[Value.int IntKind.i64 0,Value.int IntKind.i64 4] 210)):=(Below.refl _ _).alloc (by simp) _;exact ⟨0,by omega,rfl,fun j hj=>by omega,(hG0.out.below hb1 hz).below hb2 (by omega),(tabAt_new w t 27).below hb2 (by omega),hb1.trans (hb2.mono (by omega))⟩
  case round=>
   rename_i wr;obtain ⟨k,hk,rfl,hok,hGr,hT,hbw⟩:=hrel
   by_cases hlt:k<4
   ·have hGr':=hGr;obtain ⟨e0,e1,u0',u1',l0',l1',b0',b1',hz'⟩:=hGr';have hu:=hT.cu k hlt;have hl:=hT.cl k hlt;have hbb:=hT.cb k hlt;have i1:(0:Int)<=(k:Int):=by omega
    have i2:(k:Int)<4:=by omega
    have hz2:5<=wr.heap.size:=hz';have c20:∀ x:Wd (Below wr.heap.size wr),x.w.cell? ⟨1,0,none⟩=some (.int .i64 0):=fun x=>by rw [(bcell x.ok).1 _ _ (by omega)];exact u0'
    have c21:∀ x:Wd (Below wr.heap.size wr),x.w.cell? ⟨1,1,none⟩=some (.int .i64 8):=fun x=>by rw [(bcell x.ok).1 _ _ (by omega)];exact u1'
    have c30:∀ x:Wd (Below wr.heap.size wr),x.w.cell? ⟨2,0,none⟩=some (.int .i64 1):=fun x=>by rw [(bcell x.ok).1 _ _ (by omega)];exact l0'
    have c31:∀ x:Wd (Below wr.heap.size wr),x.w.cell? ⟨2,1,none⟩=some (.int .i64 8):=fun x=>by rw [(bcell x.ok).1 _ _ (by omega)];exact l1'
    have c40:∀ x:Wd (Below wr.heap.size wr),x.w.cell? ⟨3,0,none⟩=some (.int .i64 1):=fun x=>by rw [(bcell x.ok).1 _ _ (by omega)];exact b0'
    have c41:∀ x:Wd (Below wr.heap.size wr),x.w.cell? ⟨3,1,none⟩=some (.int .i64 4):=fun x=>by rw [(bcell x.ok).1 _ _ (by omega)];exact b1'
    have cu:∀ x:Wd (Below wr.heap.size wr),x.w.cell? ⟨w.heap.size,k,none⟩=some (.int .i64 (t.u k)):=fun x=>by rw [(bcell x.ok).1 _ _ hT.lt];exact hu
    have cl:∀ x:Wd (Below wr.heap.size wr),x.w.cell? ⟨w.heap.size,4+k,none⟩=some (.int .i64 (t.l k)):=fun x=>by rw [(bcell x.ok).1 _ _ hT.lt];exact hl
    have cb:∀ x:Wd (Below wr.heap.size wr),x.w.cell? ⟨w.heap.size,8+k,none⟩=some (.int .i64 (t.b k)):=fun x=>by rw [(bcell x.ok).1 _ _ hT.lt];exact hbb
    haveI inst:Nonempty (Wd (Below wr.heap.size wr)):=⟨⟨wr,Below.refl _ _⟩⟩
    cases h1:inB 0 8 (t.u k)
    rotate_left
    cases h2:inB 1 8 (t.l k)
    rotate_left
    cases h3:inB 1 4 (t.b k)
    rotate_left
    all_goals
     go_wp2
     refine wp_region_in (Below wr.heap.size wr) (by kernel_rfl) (by kernel_rfl) ((Below.refl _ _).drew) ?_
     repeat (first|go_big_quiet_step ((go_at_call 134;exact calls_in (Nat.le_refl _) _ (hold_any _ _ _ _))))
     refine wpQuiet_nil ?_;rintro _ ⟨x,rfl⟩;have hx:=x.ok;go_wp2
    ·go_roundw
     case rel=>exact ⟨k+1,by omega,by go_num,fun j hj=>by
      rcases Nat.lt_or_ge j k with h|h
      ·exact hok j h
      ·obtain rfl:j=k:=by omega
       simp [okC,h1,h2,h3],hGr.below hx hz2,hT.below hx hT.lt,hbw.trans (hx.mono hbw.size)⟩
     case measure=>simp [intOf];omega
    all_goals
     go_ret
     refine ⟨ret_int (ckR_no hlt ?_),hbw.trans (hx.mono hbw.size)⟩;simp [okC, *]
   ·obtain rfl:k=4:=by omega
    go_wp2
    go_ret
    exact ⟨ret_int (ckR_yes hd hok),hbw⟩
theorem inB_iff {lo hi n:Int} (h:inB lo hi n=true):lo<=n/\n<=hi:=by simpa [inB] using h
theorem ok_parts {t:Tab} (h:t.ok=true):inB 0 4 t.d=true/\∀ k,k<4->inB 0 8 (t.u k)=true/\inB 1 8 (t.l k)=true/\inB 1 4 (t.b k)=true:=by
 simp only [Tab.ok,okC,Bool.and_eq_true] at h;obtain ⟨⟨⟨⟨a,b⟩,c⟩,d⟩,e⟩:=h;exact ⟨a,four ⟨b.1.1,b.1.2,b.2⟩ ⟨c.1.1,c.1.2,c.2⟩ ⟨d.1.1,d.1.2,d.2⟩ ⟨e.1.1,e.1.2,e.2⟩⟩
theorem okC_no {t:Tab} {k:Nat} (h:okC t k=false):t.u k<0\/(0<=t.u k/\8<t.u k)\/(0<=t.u k/\t.u k<=8/\t.l k<1)\/(0<=t.u k/\t.u k<=8/\1<=t.l k/\8<t.l k)\/(0<=t.u k/\t.u k<=8/\1<=t.l k/\t.l k<=8/\t.b k<1)\/(0<=t.u k/\t.u k<=8/\1<=t.l k/\t.l k<=8/\1<=t.b k/\4<t.b k):=by
 simp only [okC,inB,Bool.and_eq_false_iff,decide_eq_false_iff_not] at h;omega
theorem okC_yes {t:Tab} {k:Nat} (h:okC t k=true):0<=t.u k/\t.u k<=8/\1<=t.l k/\t.l k<=8/\1<=t.b k/\t.b k<=4:=by
 simp only [okC,inB,Bool.and_eq_true,decide_eq_true_eq] at h;omega
theorem ckR_d {t:Tab} (h:t.d<0\/4<t.d):20=ckR t:=by
 have:inB 0 4 t.d=false:=by simp [inB];omega
 simp [ckR,Tab.ok,this]
theorem refCheck_any (t:Tab) (w:World) :
  Calls Tryz.prog 54 #[t.val] w fun e w'=>e=.returned (.int .i64 (ckR t))/\Below w.heap.size w w':=by
 have hA:=(Below.refl w.heap.size w).alloc (Nat.le_refl _) (.cells t.cells 27);have hT:=tabAt_new w t 27;have HT:Hid _:=hT;have HA:Hid _:=hA;clear hA hT;unfold Tab.val at *;go_enter Tryz.func54,Tryz.ntmps54;go_wp2
 generalize hw1:w.alloc (Obj.cells t.cells 27)=w1 at *;have HA':=HA.out;have HT':=HT.out;clear HA HT hw1
 go_loop [3] (fun i=>∃ k:Nat,k<=4/\i=.int .i64 k/\(∀ j,j<k->okC t j=true)) (fun i=>4-(intOf i).toNat)
 case atStart=>exact ⟨0,by omega,rfl,fun j hj=>by omega⟩
 case round=>
  obtain ⟨k,hk,rfl,hok⟩:=hrel
  by_cases hlt:k<4
  ·have hu:=HT'.cu k hlt;have hl:=HT'.cl k hlt;have hbb:=HT'.cb k hlt;have i1:(0:Int)<=(k:Int):=by omega
   have i2:(k:Int)<4:=by omega
   cases ho:okC t k
   ·rcases okC_no ho with h|⟨h1,h⟩|⟨h1,h2,h⟩|⟨h1,h2,h3,h⟩|⟨h1,h2,h3,h4,h⟩|⟨h1,h2,h3,h4,h5,h⟩
    all_goals
     go_wp2
     go_ret
     exact ⟨ret_int (ckR_no hlt ho),HA'⟩
   ·obtain ⟨h1,h2,h3,h4,h5,h6⟩:=okC_yes ho;go_wp2
    go_round
    case rel=>exact ⟨k+1,by omega,by go_num,fun j hj=>by
     rcases Nat.lt_or_ge j k with h|h
     ·exact hok j h
     ·obtain rfl:j=k:=by omega
      exact ho⟩
    case measure=>simp [intOf];omega
  ·obtain rfl:k=4:=by omega
   have hd:=HT'.cd
   by_cases d1:t.d<0
   ·go_wp2
    go_ret
    exact ⟨ret_int (ckR_d (.inl d1)),HA'⟩
   ·by_cases d2:4<t.d
    ·go_wp2
     go_ret
     exact ⟨ret_int (ckR_d (.inr d2)),HA'⟩
    ·go_wp2
     go_ret
     exact ⟨ret_int (ckR_yes (by simp [inB];omega) hok),HA'⟩
end Go.Proofs.YtpdaknbmcpmhjaaGreatDoor.Tb
namespace Go.Proofs.YtpdaknbmcpmhjaaGreatDoor.Al
open Go.ChangeShapes Go.WideShapes Go.ChangeAt Go.RowKit
open YtpdaknbmcpmhjaaGreatDoor.Op
def memO (o:O):Bool:=(o.op==15 || o.op==16)&&okO o
def oz:O:=⟨0,0,0,0,0⟩
def atL (xs:List O) (i:Int):O:=(xs[i.toNat]?).getD oz
def inL (xs:List O) (i:Int):Bool:=decide (0<=i)&&decide (i<xs.length)
def memB (xs:List O) (i:Int):Bool:=inL xs i&&memO (atL xs i)
def pairB (xs:List O) (i j:Int):Bool:=memB xs i&&memB xs j&&((atL xs i).op==16 || (atL xs j).op==16)
def wt (r:Int) (o:O):Bool:=o.d==r && !(o.op==16)&&wrB o
def wtL (st:List O) (r:Int):Bool:=st.any (wt r)
def may (a b:O) (st:List O):Bool:=!(a.a==b.a) || (a.im%256==b.im%256) || wtL st a.a
def cut (xs:List O) (i j:Int):List O:=(xs.drop i.toNat).take (j.toNat - i.toNat)
def meetB (xs:List O) (i j:Int):Bool:=decide (i<j)&&pairB xs i j&&may (atL xs i) (atL xs j) (cut xs i j)
theorem atL_at {xs:List O} {k:Nat} (h:k<xs.length):atL xs (k:Int)=xs[k]:=by
 unfold atL;rw [Int.toNat_natCast,List.getElem?_eq_getElem h];rfl
theorem inL_iff {xs:List O} {i:Int} : inL xs i=true↔∃ k:Nat,k<xs.length/\i=k:=by
 unfold inL;simp only [Bool.and_eq_true,decide_eq_true_eq];constructor
 ·rintro ⟨h1,h2⟩;exact ⟨i.toNat,by omega,by omega⟩
 ·rintro ⟨k,h1,rfl⟩;omega
theorem memB_no {xs:List O} {i:Int} (h:inL xs i=false):memB xs i=false:=by unfold memB;rw [h];rfl
theorem memB_at {xs:List O} {k:Nat} (h:k<xs.length):memB xs (k:Int)=memO xs[k]:=by
 unfold memB;rw [atL_at h,inL_iff.2 ⟨k,h,rfl⟩];rfl
theorem memB_in {xs:List O} {i:Int} (h:memB xs i=true):∃ k:Nat,k<xs.length/\i=k:=by
 unfold memB at h;simp only [Bool.and_eq_true] at h;exact inL_iff.1 h.1
theorem cut_sub {xs:List O} {i j:Int} {o:O} (h:o∈cut xs i j):o∈xs:=List.mem_of_mem_drop (List.mem_of_mem_take h)
def cellN (a im:Int):Int:=(a+im)%256
def cellC (o:O) (R:Nat->Int):Int:=if memO o then cellN (R o.a.toNat) o.im else -1
structure Rg (xs:List O) (r0:Nat->Int) (row:List Int) (R:Nat->Nat->Int):Prop where
 len:row.length<=xs.length
 c:∀ (i:Nat) (h:i<row.length),row[i]=cellC (xs[i]'(Nat.lt_of_lt_of_le h len)) (R i)
 a:∀ i,i<=row.length->∀ r:Int,0<=r->wtL xs r=false->R i r.toNat = r0 r.toNat
 b:∀ i j,i<=j->j<=row.length->∀ r:Int,0<=r->wtL (cut xs i j) r=false->R i r.toNat = R j r.toNat
theorem Rg.start (xs:List O) (r0 R:Nat->Int) (h:∀ r:Int,0<=r->wtL xs r=false->R r.toNat = r0 r.toNat):Rg xs r0 [] fun _=>R:=
 ⟨Nat.zero_le _,fun i h=>by simp at h,fun i _ r hr hw=>h r hr hw,fun _ _ _ _ _ _ _=>rfl⟩
theorem wtL_mem {xs:List O} {r:Int} (h:wtL xs r=false) {o:O} (ho:o∈xs):wt r o=false:=by
 unfold wtL at h
 cases e:wt r o
 ·rfl
 ·rw [List.any_eq_true.2 ⟨o,ho,e⟩] at h;cases h
theorem cut_succ {xs:List O} {i j:Nat} (hij:i<=j) (hj:j<xs.length):cut xs (i:Int) ((j+1:Nat):Int)=cut xs i j++[xs[j]]:=by
 unfold cut;simp only [Int.toNat_natCast];rw [show j+1-i=(j-i)+1 by omega];have h:j-i<(xs.drop i).length:=by simp;omega
 rw [List.take_succ_eq_append_getElem h]
 congr 1
 simp only [List.getElem_drop,List.cons.injEq,and_true]
 congr 1
 omega
theorem wtL_append {l m:List O} {r:Int} (h:wtL (l++m) r=false):wtL l r=false/\wtL m r=false:=by
 unfold wtL at *;rw [List.any_append,Bool.or_eq_false_iff] at h;exact h
theorem Rg.next {xs:List O} {r0:Nat->Int} {row:List Int} {R:Nat->Nat->Int} (h:Rg xs r0 row R) (hl:row.length<xs.length) (R':Nat->Int)
  (hw:∀ r:Int,0<=r->wt r xs[row.length]=false->R' r.toNat = R row.length r.toNat) :
  Rg xs r0 (row++[cellC xs[row.length] (R row.length)]) fun k=>if k<=row.length then R k else R':=by
 have hlen:(row++[cellC xs[row.length] (R row.length)]).length=row.length+1:=by simp
 refine ⟨by rw [hlen];omega,fun i hi=>?_,fun i hi r hr hx=>?_,fun i j hij hj r hr hx=>?_⟩
 ·rw [hlen] at hi;have e:(if i<=row.length then R i else R')=R i:=if_pos (by omega);show _=cellC _ (if i<=row.length then R i else R');rw [e]
  by_cases hlt:i<row.length
  ·rw [List.getElem_append_left hlt];exact h.c i hlt
  ·obtain rfl:i=row.length:=by omega
   simp
 ·rw [hlen] at hi;show (if i<=row.length then R i else R') r.toNat = _
  by_cases hlt:i<=row.length
  ·rw [if_pos hlt];exact h.a i hlt r hr hx
  ·rw [if_neg hlt,hw r hr (wtL_mem hx (List.getElem_mem hl))];exact h.a _ (Nat.le_refl _) r hr hx
 ·rw [hlen] at hj;show (if i<=row.length then R i else R') r.toNat = (if j<=row.length then R j else R') r.toNat
  by_cases hjl:j<=row.length
  ·rw [if_pos hjl,if_pos (by omega)];exact h.b i j hij hjl r hr hx
  ·rw [if_neg hjl];obtain rfl:j=row.length+1:=by omega
   by_cases hil:i<=row.length
   ·rw [if_pos hil];rw [cut_succ hil hl] at hx;obtain ⟨x1,x2⟩:=wtL_append hx;rw [hw r hr (wtL_mem x2 (by simp))];exact h.b i _ hil (Nat.le_refl _) r hr x1
   ·rw [if_neg hil]
end Go.Proofs.YtpdaknbmcpmhjaaGreatDoor.Al
namespace Go.Proofs.YtpdaknbmcpmhjaaGreatDoor.Op
open Go.ChangeShapes Go.WideShapes Go.ChangeAt Go.RowKit
structure OAt (w:World) (b f:Nat) (o:O):Prop where
 c0:w.cell? ⟨b,f,none⟩=some (.int .i8 o.op)
 c1:w.cell? ⟨b,f+1,none⟩=some (.int .u8 o.d)
 c2:w.cell? ⟨b,f+2,none⟩=some (.int .u8 o.a)
 c3:w.cell? ⟨b,f+3,none⟩=some (.int .u8 o.b)
 c4:w.cell? ⟨b,f+4,none⟩=some (.int .i64 o.im)
theorem OAt.below {w w':World} {b f B:Nat} {o:O} (h:OAt w b f o) (hb:Below B w w') (z:b<B):OAt w' b f o:=by
 have c:=(bcell hb).1;exact ⟨by rw [c _ _ z];exact h.c0,by rw [c _ _ z];exact h.c1,by rw [c _ _ z];exact h.c2,by rw [c _ _ z];exact h.c3,by rw [c _ _ z];exact h.c4⟩
structure OpsAt (w:World) (ao:Option Addr) (xs:List O):Prop where
 ok:∀ o,o∈xs->o.Ok
 len:xs.length<=8796093022208
 is:0<xs.length->∃ b f,ao=some ⟨b,f,none⟩/\b<w.heap.size/\∀ (i:Nat) (h:i<xs.length),OAt w b (f+i*5) xs[i]
theorem OpsAt.below {w w':World} {ao:Option Addr} {xs:List O} (h:OpsAt w ao xs) (hb:Below w.heap.size w w'):OpsAt w' ao xs:=by
 refine ⟨h.ok,h.len,fun h0=>?_⟩;obtain ⟨b,f,e,z,hx⟩:=h.is h0;exact ⟨b,f,e,Nat.lt_of_lt_of_le z hb.size,fun i hi=>(hx i hi).below hb z⟩
structure Bk where
 ops:List O
 fin:Int
 a:Int
 body:List O
 thn:Int
 els:Int
structure Bk.Ok (x:Bk):Prop where
 f0 : -128<=x.fin
 f1:x.fin<=127
 a0:0<=x.a
 a1:x.a<=255
 t0 : -9223372036854775808<=x.thn
 t1:x.thn<=9223372036854775807
 e0 : -9223372036854775808<=x.els
 e1:x.els<=9223372036854775807
structure Pl where
 oa:Option Addr
 oc:Nat
 ba:Option Addr
 bc:Nat
abbrev Bk.cells (x:Bk) (p:Pl):Array Value:=#[.slice p.oa x.ops.length p.oc,.int .i8 x.fin,.int .u8 x.a,.slice p.ba x.body.length p.bc,.int .i64 x.thn,.int .i64 x.els]
abbrev Bk.val (x:Bk) (p:Pl):Value:=.agg #[.slice p.oa x.ops.length p.oc,.int .i8 x.fin,.int .u8 x.a,.slice p.ba x.body.length p.bc,.int .i64 x.thn,.int .i64 x.els]
structure BIn (w:World) (x:Bk) (p:Pl):Prop where
 ok:x.Ok
 o:OpsAt w p.oa x.ops
 b:OpsAt w p.ba x.body
 c:x.ops.length<=p.oc
theorem BIn.below {w w':World} {x:Bk} {p:Pl} (h:BIn w x p) (hb:Below w.heap.size w w'):BIn w' x p:=⟨h.ok,h.o.below hb,h.b.below hb,h.c⟩
structure BAt (w:World) (b f:Nat) (x:Bk) (p:Pl):Prop where
 c0:w.cell? ⟨b,f,none⟩=some (.slice p.oa x.ops.length p.oc)
 c1:w.cell? ⟨b,f+1,none⟩=some (.int .i8 x.fin)
 c2:w.cell? ⟨b,f+2,none⟩=some (.int .u8 x.a)
 c3:w.cell? ⟨b,f+3,none⟩=some (.slice p.ba x.body.length p.bc)
 c4:w.cell? ⟨b,f+4,none⟩=some (.int .i64 x.thn)
 c5:w.cell? ⟨b,f+5,none⟩=some (.int .i64 x.els)
theorem BAt.below {w w':World} {b f B:Nat} {x:Bk} {p:Pl} (h:BAt w b f x p) (hb:Below B w w') (z:b<B):BAt w' b f x p:=by
 have c:=(bcell hb).1;exact ⟨by rw [c _ _ z];exact h.c0,by rw [c _ _ z];exact h.c1,by rw [c _ _ z];exact h.c2,by rw [c _ _ z];exact h.c3,by rw [c _ _ z];exact h.c4,by rw [c _ _ z];exact h.c5⟩
structure PAt (w:World) (ao:Option Addr) (ps:List Bk):Prop where
 len:ps.length<=2199023255552
 is:0<ps.length->∃ b f,ao=some ⟨b,f,none⟩/\b<w.heap.size/\∀ (i:Nat) (h:i<ps.length),∃ p,BAt w b (f+i*6) ps[i] p/\BIn w ps[i] p
theorem PAt.below {w w':World} {ao:Option Addr} {ps:List Bk} (h:PAt w ao ps) (hb:Below w.heap.size w w'):PAt w' ao ps:=by
 refine ⟨h.len,fun h0=>?_⟩;obtain ⟨b,f,e,z,hx⟩:=h.is h0;refine ⟨b,f,e,Nat.lt_of_lt_of_le z hb.size,fun i hi=>?_⟩;obtain ⟨p,h1,h2⟩:=hx i hi;exact ⟨p,h1.below hb z,h2.below hb⟩
end Go.Proofs.YtpdaknbmcpmhjaaGreatDoor.Op
namespace Go.Proofs.YtpdaknbmcpmhjaaGreatDoor.Al
open Go.ChangeShapes Go.WideShapes Go.ChangeAt Go.RowKit
open YtpdaknbmcpmhjaaGreatDoor.Op
theorem D_far:∀ n:Nat,15<n->∀ k,kindL[n]?=some k->k.D=false
 | 16,_,k,h|17,_,k,h|18,_,k,h|19,_,k,h|20,_,k,h|21,_,k,h|22,_,k,h|23,_,k,h=>by cases h;rfl
 | n+24,_,k,h=>by
  have:kindL[n+24]?=none:=List.getElem?_eq_none (show kindL.length<=n+24 from Nat.le_add_left 24 n)
  rw [this] at h;cases h
theorem wr_far {o:O} (h:15<o.op):wrB o=false:=by
 unfold wrB
 cases e:kOf o.op with
 | none=>rfl
 | some k=>
  show (okF k o&&k.D)=false;unfold kOf at e;rw [if_pos (by omega)] at e;rw [D_far o.op.toNat (by omega) k e];simp
theorem wt_far (r:Int) (o:O):wt r o=(o.d==r && !(decide (15<o.op))&&wrB o):=by
 unfold wt
 by_cases h:15<o.op
 ·rw [wr_far h];simp
 ·have h2:(o.op==16)=false:=by simp;omega
  rw [h2,show decide (15<o.op)=false from decide_eq_false h]
theorem wt_any (r:Int) (o:O) (w:World) (ho:o.Ok):Calls Tryz.prog 347 #[o.val,.int .u8 r] w fun e w'=>e=.returned (.bool (wt r o))/\Below w.heap.size w w':=by
 have HW:Hid _:=fun w=>writes_any o w ho;clear ho;have hdef:wt r o=(o.d==r && !(decide (15<o.op))&&wrB o):=wt_far r o;rw [hdef];clear hdef
 cases h1:o.d==r
 rotate_left
 ·obtain rfl:=beq_iff_eq.1 h1;clear h1
  cases h2:decide (15<o.op)
  ·have h2':¬ 15<o.op:=by simpa using h2
   go_enter Tryz.func347,Tryz.ntmps347;go_wp2_with (first|(go_at_call 307;refine Calls.mono (HW.out _) ?_;rintro e w1 ⟨rfl,hb⟩;obtain ⟨-,hb0,hz⟩:=one_new w _ _ hb;have HB:Hid (Below w.heap.size w w1):=hb0;clear hb hb0))
   go_ret
   exact ⟨rfl,HB.out⟩
  ·have h2':15<o.op:=by simpa using h2
   go_enter Tryz.func347,Tryz.ntmps347;go_wp2
   go_ret
   exact ⟨rfl,by go_grown⟩
 ·have h1':¬ o.d=r:=by simpa using h1
  clear h1;go_enter Tryz.func347,Tryz.ntmps347;go_wp2
  go_ret
  exact ⟨rfl,by go_grown⟩
theorem written_any (ao:Option Addr) (cap c:Nat) (st:List O) (r:Int) (w:World) (h:OpsAt w ao st) (hc:w.cell? ⟨c,0,none⟩=some (.slice ao st.length cap)) :
  Calls Tryz.prog 346 #[.int .u8 r,.pointer (some ⟨c,0,none⟩)] w fun e w'=>e=.returned (.bool (wtL st r))/\Below w.heap.size w w':=by
 have HA:Hid (OpsAt w ao st):=h;have hlen:=h.len;clear h;generalize hv:wtL st r=v;have HV:Hid (wtL st r=v):=hv;clear hv;go_enter Tryz.func346,Tryz.ntmps346;go_wp2_with fail
 go_loopw [8] (fun i wr=>∃ k:Nat,k<=st.length/\i=.int .i64 k/\Below w.heap.size w wr/\wtL (st.take k) r=false) (fun i _=>st.length-(intOf i).toNat)
 case atStart=>exact ⟨0,by omega,rfl,Below.refl _ _,rfl⟩
 case round=>
  rename World=>wr;obtain ⟨k,hk,rfl,hbw,hno⟩:=hrel
  by_cases hlt:k<st.length
  ·obtain ⟨b,f,rfl,hz,hx⟩:=HA.out.is (by omega);obtain ⟨c0,c1,c2,c3,c4⟩:=(hx k hlt).below hbw hz;have hok:=HA.out.ok _ (List.getElem_mem hlt);have hki:(k:Int)<st.length:=by omega
   have HB:Hid (Below w.heap.size w wr):=hbw;have HN:Hid (wtL (st.take (k+1)) r=wt r st[k]):=by
    show wtL (st.take (k+1)) r=wt r st[k];rw [List.take_succ_eq_append_getElem hlt];unfold wtL at hno ⊢;rw [List.any_append,hno];simp
   have HT:Hid (wt r st[k]=true->wtL st r=true):=fun e=>List.any_eq_true.2 ⟨_,List.getElem_mem hlt,e⟩;clear hx hbw hno;generalize st[k]=o at *;have HC:Hid (∀ W,Calls Tryz.prog 347 #[o.val,.int .u8 r] W fun e w'=>e=.returned (.bool (wt r o))/\Below W.heap.size W w'):=fun W=>wt_any r o W hok;clear hok
   cases hw:wt r o
   ·rw [hw] at HC HN;clear hw;go_wp2_with (first|(go_at_call 347;refine Calls.mono (HC.out _) ?_;rintro e w1 ⟨rfl,hb⟩;obtain ⟨-,hb0,hz1⟩:=one_new wr _ _ hb;have HB1:Hid (Below w.heap.size w w1):=HB.out.trans (hb0.mono HB.out.size);clear hb hb0))
    go_roundw
    case rel=>exact ⟨k+1,by omega,by go_num,HB1.out,HN.out⟩
    case measure=>simp [intOf];omega
   ·have HT2:Hid (wtL st r=true):=HT.out hw;rw [hw] at HC;clear hw HT;go_wp2_with (first|(go_at_call 347;refine Calls.mono (HC.out _) ?_;rintro e w1 ⟨rfl,hb⟩;obtain ⟨-,hb0,hz1⟩:=one_new wr _ _ hb;have HB1:Hid (Below w.heap.size w w1):=HB.out.trans (hb0.mono HB.out.size);clear hb hb0))
    go_ret
    exact ⟨by rw [<- HV.out,HT2.out];rfl,HB1.out⟩
  ·obtain rfl:k=st.length:=by omega
   rw [List.take_length] at hno;have HN:Hid (wtL st r=false):=hno;clear hno;go_wp2_with fail
   go_ret
   exact ⟨by rw [<- HV.out,HN.out];rfl,hbw⟩
theorem writer_any (ao:Option Addr) (n c:Nat) (w:World):Calls Tryz.prog 313 #[.slice ao n c] w fun e w'=>e=.returned (.func (.func 346) #[] #[.pointer (some ⟨w.heap.size,0,none⟩)])/\w'=w.alloc (.cells #[.slice ao n c] 33):=by
 go_enter Tryz.func313,Tryz.ntmps313;go_wp2_with fail
 go_ret
 exact ⟨rfl,rfl⟩
theorem mayBe_any (a b:O) (ao:Option Addr) (cap c:Nat) (st:List O) (w:World) (h:OpsAt w ao st) (hc:w.cell? ⟨c,0,none⟩=some (.slice ao st.length cap)) (hl:c<w.heap.size) :
  Calls Tryz.prog 312 #[a.val,b.val,.func (.func 346) #[] #[.pointer (some ⟨c,0,none⟩)]] w fun e w'=>e=.returned (.bool (may a b st))/\Below w.heap.size w w':=by
 have HW:Hid (∀ W,Below w.heap.size w W->Calls Tryz.prog 346 #[.int .u8 a.a,.pointer (some ⟨c,0,none⟩)] W fun e w'=>e=.returned (.bool (wtL st a.a))/\Below W.heap.size W w'):=fun W hb=>written_any ao cap c st a.a W (h.below hb) (by rw [(bcell hb).1 _ _ hl];exact hc);clear h hc hl;obtain ⟨p0,p1,x,p3,i1⟩:=a;obtain ⟨q0,q1,y,q3,i2⟩:=b;have hdef:may ⟨p0,p1,x,p3,i1⟩ ⟨q0,q1,y,q3,i2⟩ st=(!(x==y) || (i1%256==i2%256) || wtL st x):=rfl;rw [hdef];clear hdef
 by_cases h1:x=y
 ·subst h1
  by_cases h2:i1%256=i2%256
  ·have e:(!(x==x) || (i1%256==i2%256) || wtL st x)=true:=by simp [h2]
   rw [e];clear e;go_enter Tryz.func312,Tryz.ntmps312;go_wp2_with fail
   go_ret
   exact ⟨rfl,by go_grown⟩
  ·have e:(!(x==x) || (i1%256==i2%256) || wtL st x)=wtL st x:=by simp [h2]
   rw [e];clear e;go_enter Tryz.func312,Tryz.ntmps312;go_wp2_with (first|(go_at_call 346;refine Calls.mono (HW.out _ (by go_grown)) ?_;rintro e w1 ⟨rfl,hb⟩;obtain ⟨-,-,hb0,-,-⟩:=two_new w _ _ _ _ hb;have HB:Hid (Below w.heap.size w w1):=hb0;clear hb hb0))
   go_ret
   exact ⟨ret_bool (by simp [h2]),HB.out⟩
 ·have e:(!(x==y) || (i1%256==i2%256) || wtL st x)=true:=by simp [h1]
  rw [e];clear e;go_enter Tryz.func312,Tryz.ntmps312;go_wp2_with fail
  go_ret
  exact ⟨rfl,by go_grown⟩
theorem ck_eq (o:O):(ckE o==0)=okO o:=by unfold ckE;cases okO o <;> rfl
theorem isMem_any (ao:Option Addr) (cap:Nat) (xs:List O) (i:Int) (w:World) (h:OpsAt w ao xs) :
  Calls Tryz.prog 345 #[.slice ao xs.length cap,.int .i64 i] w fun e w'=>e=.returned (.bool (memB xs i))/\Below w.heap.size w w':=by
 cases hin:inL xs i
 ·have hx:i<0\/(xs.length:Int)<=i:=by
   unfold inL at hin;simp at hin
   omega
  rw [memB_no hin];clear hin h;rcases hx with hx|hx
  ·go_enter Tryz.func345,Tryz.ntmps345;go_wp2_with fail
   go_ret
   exact ⟨rfl,by go_grown⟩
  ·by_cases h0:i<0
   ·go_enter Tryz.func345,Tryz.ntmps345;go_wp2_with fail
    go_ret
    exact ⟨rfl,by go_grown⟩
   ·go_enter Tryz.func345,Tryz.ntmps345;go_wp2_with fail
    go_ret
    exact ⟨rfl,by go_grown⟩
 ·obtain ⟨k,hk,rfl⟩:=inL_iff.1 hin;rw [memB_at hk];obtain ⟨b,f,rfl,hz,hx⟩:=h.is (by omega);obtain ⟨c0,c1,c2,c3,c4⟩:=hx k hk;have hok:=h.ok _ (List.getElem_mem hk);have hlen:=h.len;have hki:(k:Int)<xs.length:=by omega
  have hk0:¬ (k:Int)<0:=by omega
  clear h hx hin;generalize xs[k]=o at *;have HC:Hid (∀ W,Calls Tryz.prog 151 #[o.val] W fun e w'=>e=.returned (.int .i64 (ckE o))/\Below W.heap.size W w'):=fun W=>check_any o W hok;have hdef:memO o=((o.op==15 || o.op==16)&&(ckE o==0)):=by unfold memO;rw [ck_eq]
  rw [hdef];clear hdef hok
  by_cases h15:o.op=15
  ·obtain ⟨p0,p1,x,p3,i1⟩:=o;simp only at h15
   subst h15;go_enter Tryz.func345,Tryz.ntmps345;go_wp2_with (first|(go_at_call 151;refine Calls.mono (HC.out _) ?_;rintro e w1 ⟨rfl,hb⟩;obtain ⟨-,hb0,hz1⟩:=one_new w _ _ hb;have HB:Hid (Below w.heap.size w w1):=hb0;clear hb hb0))
   go_ret
   exact ⟨ret_bool (by simp),HB.out⟩
  ·by_cases h16:o.op=16
   ·obtain ⟨p0,p1,x,p3,i1⟩:=o;simp only at h16
    subst h16;clear h15;go_enter Tryz.func345,Tryz.ntmps345;go_wp2_with (first|(go_at_call 151;refine Calls.mono (HC.out _) ?_;rintro e w1 ⟨rfl,hb⟩;obtain ⟨-,hb0,hz1⟩:=one_new w _ _ hb;have HB:Hid (Below w.heap.size w w1):=hb0;clear hb hb0))
    go_ret
    exact ⟨ret_bool (by simp),HB.out⟩
   ·have e1:((o.op==15 || o.op==16)&&(ckE o==0))=false:=by simp [h15,h16]
    rw [e1];have g1:(o.op==15)=false:=by simpa using h15
    have g2:(o.op==16)=false:=by simpa using h16
    clear e1;go_enter Tryz.func345,Tryz.ntmps345;go_wp2_with fail
    go_ret
    exact ⟨rfl,by go_grown⟩
theorem isPair_any (ao:Option Addr) (cap:Nat) (xs:List O) (i j:Int) (w:World) (h:OpsAt w ao xs) :
  Calls Tryz.prog 311 #[.slice ao xs.length cap,.int .i64 i,.int .i64 j] w fun e w'=>e=.returned (.bool (pairB xs i j))/\Below w.heap.size w w':=by
 have HI:Hid (∀ W,Below w.heap.size w W->Calls Tryz.prog 345 #[.slice ao xs.length cap,.int .i64 i] W fun e w'=>e=.returned (.bool (memB xs i))/\Below W.heap.size W w'):=fun W hb=>isMem_any ao cap xs i W (h.below hb);have HJ:Hid (∀ W,Below w.heap.size w W->Calls Tryz.prog 345 #[.slice ao xs.length cap,.int .i64 j] W fun e w'=>e=.returned (.bool (memB xs j))/\Below W.heap.size W w'):=fun W hb=>isMem_any ao cap xs j W (h.below hb);have hdef:pairB xs i j=(memB xs i&&memB xs j&&((atL xs i).op==16 || (atL xs j).op==16)):=rfl;rw [hdef];clear hdef
 cases hi:memB xs i
 ·rw [hi] at HI;clear h hi;go_enter Tryz.func311,Tryz.ntmps311;go_wp2_with (first|(go_at_call 345;refine Calls.mono (HI.out _ (Below.refl _ _)) ?_;rintro e w1 ⟨rfl,hb⟩))
  go_ret
  exact ⟨rfl,hb⟩
 ·cases hj:memB xs j
  ·rw [hi] at HI;rw [hj] at HJ;clear h hi hj;go_enter Tryz.func311,Tryz.ntmps311;go_wp2_with (first|(go_at_call 345;refine Calls.mono (HI.out _ (Below.refl _ _)) ?_;rintro e w1 ⟨rfl,hb⟩;have HB:Hid (Below w.heap.size w w1):=hb;clear hb HI)|(go_at_call 345;refine Calls.mono (HJ.out _ HB.out) ?_;rintro e w2 ⟨rfl,hb⟩;have HB2:Hid (Below w.heap.size w w2):=HB.out.trans (hb.mono HB.out.size);clear hb HJ))
   go_ret
   exact ⟨rfl,HB2.out⟩
  ·rw [hi] at HI;rw [hj] at HJ;obtain ⟨k,hk,rfl⟩:=memB_in hi;obtain ⟨m,hm,rfl⟩:=memB_in hj;rw [atL_at hk,atL_at hm];obtain ⟨b,f,rfl,hz,hx⟩:=h.is (by omega);have hki:(k:Int)<xs.length:=by omega
   have hmi:(m:Int)<xs.length:=by omega
   have HX:Hid (∀ W,Below w.heap.size w W->W.cell? ⟨b,f+k*5,none⟩=some (.int .i8 xs[k].op)/\W.cell? ⟨b,f+m*5,none⟩=some (.int .i8 xs[m].op)):=fun W hb=>⟨((hx k hk).below hb hz).c0,((hx m hm).below hb hz).c0⟩;have hlen:=h.len;clear h hi hj hx;generalize xs[k].op=x at *;generalize xs[m].op=y at *
   cases hx16:x==16
   all_goals
    go_enter Tryz.func311,Tryz.ntmps311;go_wp2_with (first|(go_at_call 345;refine Calls.mono (HI.out _ (Below.refl _ _)) ?_;rintro e w1 ⟨rfl,hb⟩;have HB:Hid (Below w.heap.size w w1):=hb;clear hb HI)|(go_at_call 345;refine Calls.mono (HJ.out _ HB.out) ?_;rintro e w2 ⟨rfl,hb⟩;have HB2:Hid (Below w.heap.size w w2):=HB.out.trans (hb.mono HB.out.size);obtain ⟨x0,y0⟩:=HX.out w2 HB2.out;clear hb HJ))
    go_ret
    exact ⟨ret_bool (by simp),HB2.out⟩
end Go.Proofs.YtpdaknbmcpmhjaaGreatDoor.Al
