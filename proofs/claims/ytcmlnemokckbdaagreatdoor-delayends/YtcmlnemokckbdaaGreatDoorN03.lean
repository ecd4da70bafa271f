/- Parts Kd Tk. -/
import Derived.Test.YtcmlnemokckbdaaGreatDoorN02
set_option maxRecDepth 20000
set_option maxHeartbeats 1000000
namespace Go.Proofs.YtcmlnemokckbdaaGreatDoor.Op
open Go.ChangeShapes Go.WideShapes Go.ChangeAt Go.RowKit
structure At (w:World) (b:Nat) (cs:Array Value):Prop where
 c:∀ (j:Nat) v,cs[j]?=some v->w.cell? ⟨b,j,none⟩=some v
 f:∀ j:Nat,w.frozen? ⟨b,j,none⟩=false
 lt:b<w.heap.size
theorem At.new (w:World) (c:Array Value) (t:TypeId):At (w.alloc (.cells c t)) w.heap.size c:=
 ⟨fun j v h=>by simp [h],fun j=>by simp,by simp⟩
theorem At.below {w w':World} {b B:Nat} {cs:Array Value} (h:At w b cs) (hb:Below B w w') (hB:b<B):At w' b cs:=
 ⟨fun j v e=>by rw [(bcell hb).1 _ _ hB];exact h.c j v e,fun j=>by rw [(bcell hb).2 _ _ hB];exact h.f j,Nat.lt_of_lt_of_le h.lt hb.size⟩
theorem At.alloc {w:World} {b:Nat} {cs:Array Value} (h:At w b cs) (o:Obj):At (w.alloc o) b cs:=
 h.below ((Below.refl _ _).alloc (Nat.le_refl _) o) h.lt
theorem two_new (w:World) (c c':Array Value) (t t':TypeId) {w':World} (hb:Below ((w.alloc (.cells c t)).alloc (.cells c' t')).heap.size ((w.alloc (.cells c t)).alloc (.cells c' t')) w') :
  At w' w.heap.size c/\At w' (w.heap.size+1) c'/\Below w.heap.size w w'/\w.heap.size<w'.heap.size/\w.heap.size+1<w'.heap.size:=by
 have hz:=hb.size;simp at hz
 have h2:=At.new (w.alloc (.cells c t)) c' t';rw [show (w.alloc (.cells c t)).heap.size=w.heap.size+1 by simp] at h2;refine ⟨((At.new w c t).alloc _).below hb (by simp;omega),h2.below hb (by simp),Below.trans (by go_grown) (hb.mono (by simp;omega)),by omega,by omega⟩
theorem one_new (w:World) (c:Array Value) (t:TypeId) {w':World} (hb:Below (w.alloc (.cells c t)).heap.size (w.alloc (.cells c t)) w') :
  At w' w.heap.size c/\Below w.heap.size w w'/\w.heap.size<w'.heap.size:=by
 have hz:=hb.size;simp at hz
 exact ⟨(At.new w c t).below hb (by simp),Below.trans (by go_grown) (hb.mono (by simp)),hz⟩
theorem At.k3 {w:World} {b:Nat} {x y z:Value} (h:At w b #[x,y,z]):w.cell? ⟨b,0,none⟩=some x/\w.cell? ⟨b,1,none⟩=some y/\w.cell? ⟨b,2,none⟩=some z:=
 ⟨h.c 0 x rfl,h.c 1 y rfl,h.c 2 z rfl⟩
theorem At.o5 {w:World} {b:Nat} {x y z u v:Value} (h:At w b #[x,y,z,u,v]):w.cell? ⟨b,0,none⟩=some x/\w.cell? ⟨b,1,none⟩=some y/\w.cell? ⟨b,2,none⟩=some z/\w.cell? ⟨b,3,none⟩=some u/\w.cell? ⟨b,4,none⟩=some v:=
 ⟨h.c 0 x rfl,h.c 1 y rfl,h.c 2 z rfl,h.c 3 u rfl,h.c 4 v rfl⟩
theorem okO_some {o:O} {k:K} (h:kOf o.op=some k):okO o=okF k o:=by unfold okO;rw [h]
theorem okO_none {o:O} (h:kOf o.op=none):okO o=false:=by unfold okO;rw [h]
theorem checked_none (o:O) (w:World) (ho:o.Ok) (h:kOf o.op=none) :
  Calls Tryz.prog 136 #[o.val] w fun e w'=>e=.returned (.tuple #[kz,.int .i64 30])/\Below w.heap.size w w':=by
 have HK:Hid (∀ w,Calls Tryz.prog 164 #[.int .i8 o.op] w fun e w'=>e=.returned (.tuple #[kz,.bool false])/\Below w.heap.size w w'):=fun w=>kindOf_no o.op w ho.op0 ho.op1 h;clear ho h;go_enter Tryz.func136,Tryz.ntmps136;go_wp2_with (first|(go_at_call 164;refine Calls.mono (HK.out _) ?_;rintro e w1 ⟨rfl,hb⟩;obtain ⟨a1,a2,hb0,hz,hz1⟩:=two_new w _ _ _ _ hb;have HB:Hid (Below w.heap.size w w1):=hb0;have f0:=a2.f 0;have f1:=a2.f 1;have f2:=a2.f 2;obtain ⟨c0,c1,c2⟩:=a2.k3;clear hb hb0 a1 a2))
 refine bodyPost_ret (v:=.tuple #[kz,.int .i64 30]) (by simp [results,Tryz.results136,go_sem,c0,c1,c2,hz1]) rfl ⟨rfl,HB.out.trans ?_⟩
 go_grown
theorem checked_bad (o:O) (k:K) (w:World) (h:kOf o.op=some k) (hf:okF k o=false) :
  Calls Tryz.prog 136 #[o.val] w fun e w'=>e=.returned (.tuple #[kz,.int .i64 30])/\Below w.heap.size w w':=by
 have HK:Hid (∀ w,Calls Tryz.prog 164 #[.int .i8 o.op] w fun e w'=>e=.returned (.tuple #[k.val,.bool true])/\Below w.heap.size w w'):=fun w=>kindOf_yes o.op k w h;have HF:Hid (∀ w,Calls Tryz.prog 165 #[k.val,o.val] w fun e w'=>e=.returned (.bool false)/\Below w.heap.size w w'):=fun w=>by have:=fieldsHold_any k o w;rw [hf] at this;exact this
 clear h hf;go_enter Tryz.func136,Tryz.ntmps136;go_wp2_with (first|(go_at_call 164;refine Calls.mono (HK.out _) ?_;rintro e w1 ⟨rfl,hb⟩;obtain ⟨a1,a2,hb0,hz,hz1⟩:=two_new w _ _ _ _ hb;have HB:Hid (Below w.heap.size w w1):=hb0;have HA:Hid (At w1 (w.heap.size+1) _):=a2;obtain ⟨o0,o1,o2,o3,o4⟩:=a1.o5;clear hb hb0 a1 a2)|(go_at_call 165;refine Calls.mono (HF.out _) ?_;rintro e w2 ⟨rfl,hb⟩;obtain ⟨-,hb0,hz2⟩:=one_new w1 _ _ hb;have a2:=HA.out.below hb0 (by omega);have hz3:w.heap.size<w2.heap.size:=(by omega);have hz4:w.heap.size+1<w2.heap.size:=(by omega);have HB2:Hid (Below w.heap.size w w2):=HB.out.trans (hb0.mono HB.out.size);have f0:=a2.f 0;have f1:=a2.f 1;have f2:=a2.f 2;obtain ⟨c0,c1,c2⟩:=a2.k3;clear hb hb0 a2 o0 o1 o2 o3 o4))
 refine bodyPost_ret (v:=.tuple #[kz,.int .i64 30]) (by simp [results,Tryz.results136,go_sem,c0,c1,c2]) rfl ⟨rfl,HB2.out.trans ?_⟩
 go_grown
theorem checked_yes (o:O) (k:K) (w:World) (h:kOf o.op=some k) (hf:okF k o=true) :
  Calls Tryz.prog 136 #[o.val] w fun e w'=>e=.returned (.tuple #[k.val,.int .i64 0])/\Below w.heap.size w w':=by
 have HK:Hid (∀ w,Calls Tryz.prog 164 #[.int .i8 o.op] w fun e w'=>e=.returned (.tuple #[k.val,.bool true])/\Below w.heap.size w w'):=fun w=>kindOf_yes o.op k w h;have HF:Hid (∀ w,Calls Tryz.prog 165 #[k.val,o.val] w fun e w'=>e=.returned (.bool true)/\Below w.heap.size w w'):=fun w=>by have:=fieldsHold_any k o w;rw [hf] at this;exact this
 clear h hf;go_enter Tryz.func136,Tryz.ntmps136;go_wp2_with (first|(go_at_call 164;refine Calls.mono (HK.out _) ?_;rintro e w1 ⟨rfl,hb⟩;obtain ⟨a1,a2,hb0,hz,hz1⟩:=two_new w _ _ _ _ hb;have HB:Hid (Below w.heap.size w w1):=hb0;have HA:Hid (At w1 (w.heap.size+1) _):=a2;obtain ⟨o0,o1,o2,o3,o4⟩:=a1.o5;clear hb hb0 a1 a2)|(go_at_call 165;refine Calls.mono (HF.out _) ?_;rintro e w2 ⟨rfl,hb⟩;obtain ⟨a1,hb0,hz2⟩:=one_new w1 _ _ hb;have a2:=HA.out.below hb0 (by omega);have hz3:w.heap.size<w2.heap.size:=(by omega);have hz4:w.heap.size+1<w2.heap.size:=(by omega);have HB2:Hid (Below w.heap.size w w2):=HB.out.trans (hb0.mono HB.out.size);have f0:=a2.f 0;have f1:=a2.f 1;have f2:=a2.f 2;obtain ⟨c0,c1,c2⟩:=a2.k3;obtain ⟨k0,k1,k2⟩:=a1.k3;clear hb hb0 a2 a1 o0 o1 o2 o3 o4))
 refine bodyPost_ret (v:=.tuple #[k.val,.int .i64 0]) (by simp [results,Tryz.results136,go_sem,c0,c1,c2]) rfl ⟨rfl,HB2.out.trans ?_⟩
 go_grown
theorem checked_no (o:O) (w:World) (ho:o.Ok) (h:okO o=false) :
  Calls Tryz.prog 136 #[o.val] w fun e w'=>e=.returned (.tuple #[kz,.int .i64 30])/\Below w.heap.size w w':=by
 cases hk:kOf o.op with
 | none=>exact checked_none o w ho hk
 | some k=>exact checked_bad o k w hk (by rw [<- okO_some hk];exact h)
def ckE (o:O):Int:=if okO o then 0 else 30
theorem checked_gen (o:O) (ho:o.Ok):∃ s c f,∀ w,Calls Tryz.prog 136 #[o.val] w fun e w'=>e=.returned (.tuple #[.agg #[.string s,.int .i8 c,.int .u8 f],.int .i64 (ckE o)])/\Below w.heap.size w w':=by
 cases hO:okO o
 ·exact ⟨_,_,_,fun w=>by have:=checked_no o w ho hO;rw [show (30:Int)=ckE o by simp [ckE,hO]] at this;exact this⟩
 ·cases hk:kOf o.op with
  | none=>rw [okO_none hk] at hO;cases hO
  | some k=>exact ⟨_,_,_,fun w=>by have:=checked_yes o k w hk (by rw [<- okO_some hk];exact hO);rw [show (0:Int)=ckE o by simp [ckE,hO]] at this;exact this⟩
theorem check_any (o:O) (w:World) (ho:o.Ok):Calls Tryz.prog 99 #[o.val] w fun e w'=>e=.returned (.int .i64 (ckE o))/\Below w.heap.size w w':=by
 obtain ⟨s,c,f,h⟩:=checked_gen o ho;have HC:Hid _:=h;clear h;go_enter Tryz.func99,Tryz.ntmps99;go_wp2_with (first|(go_at_call 136;refine Calls.mono (HC.out _) ?_;rintro e w1 ⟨rfl,hb⟩;obtain ⟨-,hb0,hz⟩:=one_new w _ _ hb;have HB:Hid (Below w.heap.size w w1):=hb0;clear hb hb0))
 go_ret
 exact ⟨rfl,HB.out.trans ((Below.refl _ _).alloc (Nat.le_of_lt hz) _)⟩
def wrB (o:O):Bool:=match kOf o.op with|some k=>okF k o&&k.D|none=>false
def wrD (o:O):Int:=if wrB o then o.d else 0
theorem wr_no {o:O} (h:okO o=false):wrB o=false:=by
 unfold wrB;unfold okO at h
 split <;> simp_all
theorem wr_yes {o:O} {k:K} (h:kOf o.op=some k) (hf:okF k o=true):wrB o=k.D:=by
 unfold wrB;rw [h];simp [hf]
theorem writes_any (o:O) (w:World) (ho:o.Ok):Calls Tryz.prog 168 #[o.val] w fun e w'=>e=.returned (.tuple #[.int .u8 (wrD o),.bool (wrB o)])/\Below w.heap.size w w':=by
 cases hO:okO o
 ·have hw:=wr_no hO;rw [show wrD o=0 by simp [wrD,hw],hw];have HC:Hid _:=fun w=>checked_no o w ho hO;clear hO hw ho;go_enter Tryz.func168,Tryz.ntmps168;go_wp2_with (first|(go_at_call 136;refine Calls.mono (HC.out _) ?_;rintro e w1 ⟨rfl,hb⟩;obtain ⟨-,hb0,hz⟩:=one_new w _ _ hb;have HB:Hid (Below w.heap.size w w1):=hb0;clear hb hb0))
  go_ret2
  exact ⟨rfl,HB.out.trans ((Below.refl _ _).alloc (Nat.le_of_lt hz) _)⟩
 ·cases hk:kOf o.op with
  | none=>rw [okO_none hk] at hO;cases hO
  | some k=>
   have hf:okF k o=true:=by rw [<- okO_some hk];exact hO
   have hw:=wr_yes hk hf;have HC:Hid _:=fun w=>checked_yes o k w hk hf;have HD:Hid _:=fun w=>cnt_D k w
   cases hD:k.D
   ·rw [hD] at hw;rw [show wrD o=0 by simp [wrD,hw],hw];rw [hD] at HD;clear hO hw ho hk hf;go_enter Tryz.func168,Tryz.ntmps168;go_wp2_with (first|(go_at_call 136;refine Calls.mono (HC.out _) ?_;rintro e w1 ⟨rfl,hb⟩;obtain ⟨-,hb0,hz⟩:=one_new w _ _ hb;have HB:Hid (Below w.heap.size w w1):=hb0;clear hb hb0)|(go_at_call 182;refine Calls.mono (HD.out _) ?_;rintro e w2 ⟨rfl,hb⟩;obtain ⟨-,hb0,hz2⟩:=one_new w1 _ _ hb;have HB2:Hid (Below w.heap.size w w2):=HB.out.trans (hb0.mono (Nat.le_of_lt hz));clear hb hb0))
    go_ret2
    exact ⟨rfl,HB2.out⟩
   ·rw [hD] at hw;rw [show wrD o=o.d by simp [wrD,hw],hw];rw [hD] at HD;clear hO hw ho hk hf;go_enter Tryz.func168,Tryz.ntmps168;go_wp2_with (first|(go_at_call 136;refine Calls.mono (HC.out _) ?_;rintro e w1 ⟨rfl,hb⟩;obtain ⟨a1,hb0,hz⟩:=one_new w _ _ hb;have HA:Hid _:=a1;have HB:Hid (Below w.heap.size w w1):=hb0;clear hb hb0 a1)|(go_at_call 182;refine Calls.mono (HD.out _) ?_;rintro e w2 ⟨rfl,hb⟩;obtain ⟨-,hb0,hz2⟩:=one_new w1 _ _ hb;have HB2:Hid (Below w.heap.size w w2):=HB.out.trans (hb0.mono (Nat.le_of_lt hz));have o1:=(HA.out.below hb0 hz).o5.2.1;clear hb hb0))
    go_ret2
    exact ⟨rfl,HB2.out⟩
end Go.Proofs.YtcmlnemokckbdaaGreatDoor.Op
namespace Go.Proofs.YtcmlnemokckbdaaGreatDoor.Tb
open Go.ChangeShapes Go.WideShapes Go.ChangeAt Go.RowKit
open Go.Proofs.YtcmlnemokckbdaaGreatDoor.Op (ret_bool ret_int bcell Wd wp_region_in calls_in)
structure Tab where
 u:Nat->Int
 l:Nat->Int
 b:Nat->Int
 d:Int
abbrev Tab.cells (t:Tab):Array Value:=#[.int .i64 (t.u 0),.int .i64 (t.u 1),.int .i64 (t.u 2),.int .i64 (t.u 3),.int .i64 (t.l 0),.int .i64 (t.l 1),.int .i64 (t.l 2),.int .i64 (t.l 3),.int .i64 (t.b 0),.int .i64 (t.b 1),.int .i64 (t.b 2),.int .i64 (t.b 3),.int .i64 t.d]
def Tab.val (t:Tab):Value:=.agg #[.int .i64 (t.u 0),.int .i64 (t.u 1),.int .i64 (t.u 2),.int .i64 (t.u 3),.int .i64 (t.l 0),.int .i64 (t.l 1),.int .i64 (t.l 2),.int .i64 (t.l 3),.int .i64 (t.b 0),.int .i64 (t.b 1),.int .i64 (t.b 2),.int .i64 (t.b 3),.int .i64 t.d]
def inB (lo hi n:Int):Bool:=decide (lo<=n)&&decide (n<=hi)
theorem hold_eq (lo hi n:Int) (w:World) :
  Calls Tryz.prog 171 #[.agg #[.int .i64 lo,.int .i64 hi],.int .i64 n] w fun e w'=>e=.returned (.bool (inB lo hi n))/\w'=w.alloc (.cells #[.int .i64 lo,.int .i64 hi] 232):=by
 by_cases h:lo<=n
 ·go_enter Tryz.func171,Tryz.ntmps171;go_wp2
  go_ret
  exact ⟨ret_bool (by simp [inB,h]),rfl⟩
 ·go_enter Tryz.func171,Tryz.ntmps171;go_wp2
  go_ret
  exact ⟨ret_bool (by simp [inB];omega),rfl⟩
theorem hold_any (lo hi n:Int) (w:World) :
  Calls Tryz.prog 171 #[.agg #[.int .i64 lo,.int .i64 hi],.int .i64 n] w fun e w'=>e=.returned (.bool (inB lo hi n))/\Below w.heap.size w w':=
 (hold_eq lo hi n w).mono fun _ _ h=>⟨h.1,by rw [h.2];exact (Below.refl _ _).alloc (Nat.le_refl _) _⟩
structure Bnds (w:World):Prop where
 d0:w.cell? ⟨1,0,none⟩=some (.int .i64 0)
 d1:w.cell? ⟨1,1,none⟩=some (.int .i64 4)
 u0:w.cell? ⟨2,0,none⟩=some (.int .i64 0)
 u1:w.cell? ⟨2,1,none⟩=some (.int .i64 8)
 l0:w.cell? ⟨3,0,none⟩=some (.int .i64 1)
 l1:w.cell? ⟨3,1,none⟩=some (.int .i64 8)
 b0:w.cell? ⟨4,0,none⟩=some (.int .i64 1)
 b1:w.cell? ⟨4,1,none⟩=some (.int .i64 4)
 big:6<=w.heap.size
theorem Bnds.below {B:Nat} {w w':World} (h:Bnds w) (hb:Below B w w') (hB:6<=B):Bnds w':=by
 have c:=(bcell hb).1;have z:=h.big;have hs:=hb.size;exact ⟨by rw [c _ _ (by omega)];exact h.d0,by rw [c _ _ (by omega)];exact h.d1,by rw [c _ _ (by omega)];exact h.u0,by rw [c _ _ (by omega)];exact h.u1,by rw [c _ _ (by omega)];exact h.l0,by rw [c _ _ (by omega)];exact h.l1,by rw [c _ _ (by omega)];exact h.b0,by rw [c _ _ (by omega)];exact h.b1,by omega⟩
def okC (t:Tab) (k:Nat):Bool:=inB 0 8 (t.u k)&&inB 1 8 (t.l k)&&inB 1 4 (t.b k)
def Tab.ok (t:Tab):Bool:=inB 0 4 t.d&&okC t 0&&okC t 1&&okC t 2&&okC t 3
structure TabAt (w:World) (b:Nat) (t:Tab):Prop where
 cu:∀ k,k<4->w.cell? ⟨b,k,none⟩=some (.int .i64 (t.u k))
 cl:∀ k,k<4->w.cell? ⟨b,4+k,none⟩=some (.int .i64 (t.l k))
 cb:∀ k,k<4->w.cell? ⟨b,8+k,none⟩=some (.int .i64 (t.b k))
 cd:w.cell? ⟨b,12,none⟩=some (.int .i64 t.d)
 lt:b<w.heap.size
theorem TabAt.below {B:Nat} {w w':World} {b:Nat} {t:Tab} (h:TabAt w b t) (hb:Below B w w') (z:b<B):TabAt w' b t:=by
 have c:=(bcell hb).1;have z':=h.lt;have hs:=hb.size;exact ⟨fun k hk=>by rw [c _ _ z];exact h.cu k hk,fun k hk=>by rw [c _ _ z];exact h.cl k hk,fun k hk=>by rw [c _ _ z];exact h.cb k hk,by rw [c _ _ z];exact h.cd,by omega⟩
theorem four {p:Nat->Prop} (h0:p 0) (h1:p 1) (h2:p 2) (h3:p 3):∀ k,k<4->p k:=by
 intro k hk
 match k,hk with
 | 0,_=>exact h0
 | 1,_=>exact h1
 | 2,_=>exact h2
 | 3,_=>exact h3
theorem tabAt_new (w:World) (t:Tab) (ty:TypeId):TabAt (w.alloc (.cells t.cells ty)) w.heap.size t:=
 ⟨four (by simp [Tab.cells]) (by simp [Tab.cells]) (by simp [Tab.cells]) (by simp [Tab.cells]),four (by simp [Tab.cells]) (by simp [Tab.cells]) (by simp [Tab.cells]) (by simp [Tab.cells]),four (by simp [Tab.cells]) (by simp [Tab.cells]) (by simp [Tab.cells]) (by simp [Tab.cells]),by simp [Tab.cells],by simp⟩
def ckR (t:Tab):Int:=if t.ok then 0 else 20
theorem ckR_no {t:Tab} {k:Nat} (hk:k<4) (h:okC t k=false):20=ckR t:=by
 have:t.ok=false:=by
  unfold Tab.ok
  match k,hk,h with
  | 0,_,h=>simp [h]
  | 1,_,h=>simp [h]
  | 2,_,h=>simp [h]
  | 3,_,h=>simp [h]
 simp [ckR,this]
theorem ckR_yes {t:Tab} (hd:inB 0 4 t.d=true) (h:∀ j,j<4->okC t j=true):0=ckR t:=by
 simp [ckR,Tab.ok,hd,h 0,h 1,h 2,h 3]
theorem check_any (t:Tab) (w:World) (hG:Bnds w) :
  Calls Tryz.prog 154 #[t.val] w fun e w'=>e=.returned (.int .i64 (ckR t))/\Below w.heap.size w w':=by
 have hz:=hG.big;have hG0:Hid (Bnds w):=hG;obtain ⟨d0,d1,u0,u1,l0,l1,b0,b1,_⟩:=hG;have z1:1<w.heap.size:=by omega
 cases hd:inB 0 4 t.d
 ·unfold Tab.val;go_enter Tryz.func154,Tryz.ntmps154;go_wp2_with (first|(go_at_call 171;refine (hold_eq _ _ _ _).mono ?_;rintro e w' ⟨rfl,rfl⟩))
  go_ret
  exact ⟨ret_int (by simp [ckR,Tab.ok,hd]),((Below.refl _ _).alloc (Nat.le_refl _) _).alloc (by simp) _⟩
 ·unfold Tab.val;go_enter Tryz.func154,Tryz.ntmps154;go_wp2_with (first|(go_at_call 171;refine (hold_eq _ _ _ _).mono ?_;rintro e w' ⟨rfl,rfl⟩))
  go_loopw [9] (fun i wr=>∃ k:Nat,k<=4/\i=.int .i64 k/\(∀ j,j<k->okC t j=true)/\Bnds wr/\TabAt wr w.heap.size t/\Below w.heap.size w wr) (fun i _=>4-(intOf i).toNat)
  case atStart=>
   have hb1:Below w.heap.size w (w.alloc (.cells t.cells 28)):=(Below.refl _ _).alloc (Nat.le_refl _) _;have hb2:Below (w.heap.size+1) (w.alloc (.cells t.cells 28)) ((w.alloc (.cells t.cells 28)).alloc (Obj.cells #[Value.int IntKind.i64 0,Value.int IntKind.i64 4] 232)):=(Below.refl _ _).alloc (by simp) _;exact ⟨0,by omega,rfl,fun j hj=>by omega,(hG0.out.below hb1 hz).below hb2 (by omega),(tabAt_new w t 28).below hb2 (by omega),hb1.trans (hb2.mono (by omega))⟩
  case round=>
   rename_i wr;obtain ⟨k,hk,rfl,hok,hGr,hT,hbw⟩:=hrel
   by_cases hlt:k<4
   ·have hGr':=hGr;obtain ⟨e0,e1,u0',u1',l0',l1',b0',b1',hz'⟩:=hGr';have hu:=hT.cu k hlt;have hl:=hT.cl k hlt;have hbb:=hT.cb k hlt;have i1:(0:Int)<=(k:Int):=by omega
    have i2:(k:Int)<4:=by omega
    have hz2:6<=wr.heap.size:=hz';have c20:∀ x:Wd (Below wr.heap.size wr),x.w.cell? ⟨2,0,none⟩=some (.int .i64 0):=fun x=>by rw [(bcell x.ok).1 _ _ (by omega)];exact u0'
    have c21:∀ x:Wd (Below wr.heap.size wr),x.w.cell? ⟨2,1,none⟩=some (.int .i64 8):=fun x=>by rw [(bcell x.ok).1 _ _ (by omega)];exact u1'
    have c30:∀ x:Wd (Below wr.heap.size wr),x.w.cell? ⟨3,0,none⟩=some (.int .i64 1):=fun x=>by rw [(bcell x.ok).1 _ _ (by omega)];exact l0'
    have c31:∀ x:Wd (Below wr.heap.size wr),x.w.cell? ⟨3,1,none⟩=some (.int .i64 8):=fun x=>by rw [(bcell x.ok).1 _ _ (by omega)];exact l1'
    have c40:∀ x:Wd (Below wr.heap.size wr),x.w.cell? ⟨4,0,none⟩=some (.int .i64 1):=fun x=>by rw [(bcell x.ok).1 _ _ (by omega)];exact b0'
    have c41:∀ x:Wd (Below wr.heap.size wr),x.w.cell? ⟨4,1,none⟩=some (.int .i64 4):=fun x=>by rw [(bcell x.ok).1 _ _ (by omega)];exact b1'
    have cu:∀ x:Wd (Below wr.heap.size wr),x.w.cell? ⟨w.heap.size,k,none⟩=some (.int .i64 (t.u k)):=fun x=>by rw [(bcell x.ok).1 _ _ hT.lt];exact hu
    have cl:∀ x:Wd (Below wr.heap.size wr),x.w.cell? ⟨w.heap.size,4+k,none⟩=some (.int .i64 (t.l k)):=fun x=>by rw [(bcell x.ok).1 _ _ hT.lt];exact hl
    have cb:∀ x:Wd (Below wr.heap.size wr),x.w.cell? ⟨w.heap.size,8+k,none⟩=some (.int .i64 (t.b k)):=fun x=>by rw [(bcell x.ok).1 _ _ hT.lt];exact hbb
    haveI inst:Nonempty (Wd (Below wr.heap.size wr)):=⟨⟨wr,Below.refl _ _⟩⟩
    cases h1:inB 0 8 (t.u k)
    rotate_left
    cases h2:inB 1 8 (t.l k)
    rotate_left
    cases h3:inB 1 4 (t.b k)
    rotate_left
    all_goals
     go_wp2
     refine wp_region_in (Below wr.heap.size wr) (by kernel_rfl) (by kernel_rfl) ((Below.refl _ _).drew) ?_
     repeat (first|go_big_quiet_step ((go_at_call 171;exact calls_in (Nat.le_refl _) _ (hold_any _ _ _ _))))
     refine wpQuiet_nil ?_;rintro _ ⟨x,rfl⟩;have hx:=x.ok;go_wp2
    ·go_roundw
     case rel=>exact ⟨k+1,by omega,by go_num,fun j hj=>by
      rcases Nat.lt_or_ge j k with h|h
      ·exact hok j h
      ·obtain rfl:j=k:=by omega
       simp [okC,h1,h2,h3],hGr.below hx hz2,hT.below hx hT.lt,hbw.trans (hx.mono hbw.size)⟩
     case measure=>simp [intOf];omega
    all_goals
     go_ret
     refine ⟨ret_int (ckR_no hlt ?_),hbw.trans (hx.mono hbw.size)⟩;simp [okC, *]
   ·obtain rfl:k=4:=by omega
    go_wp2
    go_ret
    exact ⟨ret_int (ckR_yes hd hok),hbw⟩
theorem inB_iff {lo hi n:Int} (h:inB lo hi n=true):lo<=n/\n<=hi:=by simpa [inB] using h
theorem ok_parts {t:Tab} (h:t.ok=true):inB 0 4 t.d=true/\∀ k,k<4->inB 0 8 (t.u k)=true/\inB 1 8 (t.l k)=true/\inB 1 4 (t.b k)=true:=by
 simp only [Tab.ok,okC,Bool.and_eq_true] at h;obtain ⟨⟨⟨⟨a,b⟩,c⟩,d⟩,e⟩:=h;exact ⟨a,four ⟨b.1.1,b.1.2,b.2⟩ ⟨c.1.1,c.1.2,c.2⟩ ⟨d.1.1,d.1.2,d.2⟩ ⟨e.1.1,e.1.2,e.2⟩⟩
theorem okC_no {t:Tab} {k:Nat} (h:okC t k=false):t.u k<0\/(0<=t.u k/\8<t.u k)\/(0<=t.u k/\t.u k<=8/\t.l k<1)\/(0<=t.u k/\t.u k<=8/\1<=t.l k/\8<t.l k)\/(0<=t.u k/\t.u k<=8/\1<=t.l k/\t.l k<=8/\t.b k<1)\/(0<=t.u k/\t.u k<=8/\1<=t.l k/\t.l k<=8/\1<=t.b k/\4<t.b k):=by
 simp only [okC,inB,Bool.and_eq_false_iff,decide_eq_false_iff_not] at h;omega
theorem okC_yes {t:Tab} {k:Nat} (h:okC t k=true):0<=t.u k/\t.u k<=8/\1<=t.l k/\t.l k<=8/\1<=t.b k/\t.b k<=4:=by
 simp only [okC,inB,Bool.and_eq_true,decide_eq_true_eq] at h;omega
theorem ckR_d {t:Tab} (h:t.d<0\/4<t.d):20=ckR t:=by
 have:inB 0 4 t.d=false:=by simp [inB];omega
 simp [ckR,Tab.ok,this]
theorem refCheck_any (t:Tab) (w:World) :
  Calls Tryz.prog 25 #[t.val] w fun e w'=>e=.returned (.int .i64 (ckR t))/\Below w.heap.size w w':=by
 have hA:=(Below.refl w.heap.size w).alloc (Nat.le_refl _) (.cells t.cells 28);have hT:=tabAt_new w t 28;have HT:Hid _:=hT;have HA:Hid _:=hA;clear hA hT;unfold Tab.val at *;go_enter Tryz.func25,Tryz.ntmps25;go_wp2
 generalize hw1:w.alloc (Obj.cells t.cells 28)=w1 at *;have HA':=HA.out;have HT':=HT.out;clear HA HT hw1
 go_loop [3] (fun i=>∃ k:Nat,k<=4/\i=.int .i64 k/\(∀ j,j<k->okC t j=true)) (fun i=>4-(intOf i).toNat)
 case atStart=>exact ⟨0,by omega,rfl,fun j hj=>by omega⟩
 case round=>
  obtain ⟨k,hk,rfl,hok⟩:=hrel
  by_cases hlt:k<4
  ·have hu:=HT'.cu k hlt;have hl:=HT'.cl k hlt;have hbb:=HT'.cb k hlt;have i1:(0:Int)<=(k:Int):=by omega
   have i2:(k:Int)<4:=by omega
   cases ho:okC t k
   ·rcases okC_no ho with h|⟨h1,h⟩|⟨h1,h2,h⟩|⟨h1,h2,h3,h⟩|⟨h1,h2,h3,h4,h⟩|⟨h1,h2,h3,h4,h5,h⟩
    all_goals
     go_wp2
     go_ret
     exact ⟨ret_int (ckR_no hlt ho),HA'⟩
   ·obtain ⟨h1,h2,h3,h4,h5,h6⟩:=okC_yes ho;go_wp2
    go_round
    case rel=>exact ⟨k+1,by omega,by go_num,fun j hj=>by
     rcases Nat.lt_or_ge j k with h|h
     ·exact hok j h
     ·obtain rfl:j=k:=by omega
      exact ho⟩
    case measure=>simp [intOf];omega
  ·obtain rfl:k=4:=by omega
   have hd:=HT'.cd
   by_cases d1:t.d<0
   ·go_wp2
    go_ret
    exact ⟨ret_int (ckR_d (.inl d1)),HA'⟩
   ·by_cases d2:4<t.d
    ·go_wp2
     go_ret
     exact ⟨ret_int (ckR_d (.inr d2)),HA'⟩
    ·go_wp2
     go_ret
     exact ⟨ret_int (ckR_yes (by simp [inB];omega) hok),HA'⟩
end Go.Proofs.YtcmlnemokckbdaaGreatDoor.Tb
