/- Parts Kx. -/
import Derived.Test.YtcmlnemokckbdaaGreatDoorN03
import Derived.Test.YtcmlnemokckbdaaGreatDoorN06
import Derived.Deep.AppendLies
set_option maxRecDepth 20000
set_option maxHeartbeats 2000000
namespace Go.Proofs.YtcmlnemokckbdaaGreatDoor.Op
open Go.ChangeShapes Go.WideShapes Go.ChangeAt Go.RowKit
def clB (d:Int):Bool:=match kOf d with|some k=>!(k.cls == -1)|none=>false
def clV (d:Int):Int:=match kOf d with|some k=>if k.cls == -1 then 0 else k.cls|none=>0
theorem cls_all:(kindL.all fun k=>decide (-1<=k.cls/\k.cls<=3))=true:=by decide
theorem cls_in {d:Int} {k:K} (h:kOf d=some k) : -1<=k.cls/\k.cls<=3:=by
 obtain ⟨n,hn,-,rfl⟩:=kOf_some h
 have:=List.all_eq_true.1 cls_all _ (List.getElem_mem (l:=kindL) hn)
 simpa using this
theorem class_any (d:Int) (w:World) (h0 : -128<=d) (h1:d<=127):Calls Tryz.prog 173 #[.int .i8 d] w fun e w'=>e=.returned (.tuple #[.int .i64 (clV d),.bool (clB d)])/\Below w.heap.size w w':=by
 cases hk:kOf d with
 | none=>
  rw [show clV d=0 by simp [clV,hk],show clB d=false by simp [clB,hk]];have HC:Hid _:=fun w=>kindOf_no d w h0 h1 hk;clear h0 h1 hk;go_enter Tryz.func173,Tryz.ntmps173;go_wp2_with (first|(go_at_call 164;refine Calls.mono (HC.out _) ?_;rintro e w1 ⟨rfl,hb⟩))
  go_ret2
  exact ⟨rfl,hb.trans ((Below.refl _ _).alloc hb.size _)⟩
 | some k=>
  have hc:=cls_in hk;have e1:clV d=if k.cls == -1 then 0 else k.cls:=by simp [clV,hk]
  have e2:clB d = !(k.cls == -1):=by simp [clB,hk]
  have HC:Hid _:=fun w=>kindOf_yes d k w hk;rw [e1,e2];clear h0 h1 hk e1 e2
  cases hm:(k.cls == -1)
  all_goals
   go_enter Tryz.func173,Tryz.ntmps173;go_wp2_with (first|(go_at_call 164;refine Calls.mono (HC.out _) ?_;rintro e w1 ⟨rfl,hb⟩))
   go_ret2
   exact ⟨rfl,hb.trans ((Below.refl _ _).alloc hb.size _)⟩
def rcN (k:K) (o:O):Nat:=if k.A then (if k.B && !(o.a==o.b) then 2 else 1) else 0
theorem readCount_any (k:K) (o:O) (w:World):Calls Tryz.prog 186 #[k.val,o.val] w fun e w'=>e=.returned (.int .i64 (rcN k o))/\Below w.heap.size w w':=by
 have HA:Hid _:=fun w=>cnt_A k w;have HC:Hid _:=fun w=>cnt_B k w;have hdef:rcN k o=if k.A then (if k.B && !(o.a==o.b) then 2 else 1) else 0:=rfl;rw [hdef];clear hdef
 cases hA:k.A
 ·rw [hA] at HA;go_enter Tryz.func186,Tryz.ntmps186;go_wp2_with (first|(go_at_call_of 182 (Value.int IntKind.u8 2);refine Calls.mono (HA.out _) ?_;rintro e w1 ⟨rfl,hb⟩;obtain ⟨-,-,hb0,hz,hz1⟩:=two_new w _ _ _ _ hb;clear hb))
  go_ret
  exact ⟨rfl,hb0⟩
 ·rw [hA] at HA
  cases hB:k.B
  ·rw [hB] at HC;go_enter Tryz.func186,Tryz.ntmps186;go_wp2_with (first|(go_at_call_of 182 (Value.int IntKind.u8 2);refine Calls.mono (HA.out _) ?_;rintro e w1 ⟨rfl,hb⟩;obtain ⟨a1,a2,hb0,hz,hz1⟩:=two_new w _ _ _ _ hb;obtain ⟨k0,k1,k2⟩:=a1.k3;have HB:Hid (Below w.heap.size w w1):=hb0;clear hb a1 a2 hb0)|(go_at_call_of 182 (Value.int IntKind.u8 4);refine Calls.mono (HC.out _) ?_;rintro e w2 ⟨rfl,hb⟩))
   go_ret
   exact ⟨rfl,HB.out.trans (hb.mono (Nat.le_of_lt hz))⟩
  ·rw [hB] at HC
   cases hE:(o.a==o.b)
   all_goals
    go_enter Tryz.func186,Tryz.ntmps186;go_wp2_with (first|(go_at_call_of 182 (Value.int IntKind.u8 2);refine Calls.mono (HA.out _) ?_;rintro e w1 ⟨rfl,hb⟩;obtain ⟨a1,a2,hb0,hz,hz1⟩:=two_new w _ _ _ _ hb;obtain ⟨k0,k1,k2⟩:=a1.k3;have HO:Hid _:=a2;have HB:Hid (Below w.heap.size w w1):=hb0;clear hb a1 a2 hb0)|(go_at_call_of 182 (Value.int IntKind.u8 4);refine Calls.mono (HC.out _) ?_;rintro e w2 ⟨rfl,hb⟩;obtain ⟨-,-,o2,o3,-⟩:=(HO.out.below hb hz1).o5))
    go_ret
    exact ⟨rfl,HB.out.trans (hb.mono (Nat.le_of_lt hz))⟩
theorem reads_yes (o:O) (k:K) (w:World) (hk:kOf o.op=some k) (hf:okF k o=true):Calls Tryz.prog 169 #[o.val] w fun e w'=>∃ b:Nat,e=.returned (.slice (some ⟨b,0,none⟩) (rcN k o) (rcN k o))/\At w' b #[.int .u8 o.a,.int .u8 o.b]/\Below w.heap.size w w':=by
 have HC:Hid _:=fun w=>checked_yes o k w hk hf;have HR:Hid _:=fun w=>readCount_any k o w;have hn:rcN k o=0\/rcN k o=1\/rcN k o=2:=by unfold rcN;split <;> (try split) <;> simp
 clear hk hf;rcases hn with hn|hn|hn
 all_goals
  rw [hn] at HR;rw [hn];clear hn;go_enter Tryz.func169,Tryz.ntmps169;go_wp2_with (first|(go_at_call 136;refine Calls.mono (HC.out _) ?_;rintro e w1 ⟨rfl,hb⟩;obtain ⟨a1,hb0,hz⟩:=one_new w _ _ hb;have HO:Hid _:=a1;obtain ⟨o0,o1,o2,o3,o4⟩:=a1.o5;have HB:Hid (Below w.heap.size w w1):=hb0;clear hb hb0 a1)|(go_at_call 186;refine Calls.mono (HR.out _) ?_;rintro e w2 ⟨rfl,hb⟩;obtain ⟨a1,a2,hb0,hz2,hz3⟩:=two_new w1 _ _ _ _ hb;have HA:Hid _:=a2;have HB2:Hid (Below w.heap.size w w2):=HB.out.trans (hb0.mono (Nat.le_of_lt hz));clear hb hb0 a1 a2))
  go_ret
  refine ⟨_,rfl,?_,HB2.out⟩;exact HA.out
def SlAt (w:World) (v:Value) (n:Nat) (f:Nat->Int):Prop:=
 (n=0/\∃ p c,v=.slice p 0 c)\/∃ b c:Nat,v=.slice (some ⟨b,0,none⟩) n c/\b<w.heap.size/\∀ j,j<n->w.cell? ⟨b,j,none⟩=some (.int .u8 (f j))
theorem SlAt.on {w w':World} {v:Value} {n:Nat} {f:Nat->Int} (h:SlAt w v n f) (hb:Below w.heap.size w w'):SlAt w' v n f:=by
 rcases h with h|⟨b,c,h1,h2,h3⟩
 ·exact .inl h
 ·exact .inr ⟨b,c,h1,Nat.lt_of_lt_of_le h2 hb.size,fun j hj=>by rw [(bcell hb).1 _ _ h2];exact h3 j hj⟩
theorem refClass_any (d:Int) (w:World):Calls Tryz.prog 48 #[.int .i8 d] w fun e w'=>e=.returned (.tuple #[.int .i64 (clV d),.bool (clB d)])/\Below w.heap.size w w':=by
 cases hk:kOf d with
 | none=>
  rw [show clV d=0 by simp [clV,hk],show clB d=false by simp [clB,hk]];have HC:Hid _:=fun w=>of_no d w hk;clear hk;go_enter Tryz.func48,Tryz.ntmps48;go_wp2_with (first|(go_at_call 66;refine Calls.mono (HC.out _) ?_;rintro e w1 ⟨rfl,hb⟩))
  go_ret2
  exact ⟨rfl,hb.trans ((Below.refl _ _).alloc hb.size _)⟩
 | some k=>
  have hc:=cls_in hk;have HC:Hid _:=fun w=>of_yes d k w hk
  by_cases hm:k.cls = -1
  ·rw [show clV d=0 by simp [clV,hk,hm],show clB d=false by simp [clB,hk,hm]];clear hk;have hm2:k.cls<0:=by omega
   go_enter Tryz.func48,Tryz.ntmps48;go_wp2_with (first|(go_at_call 66;refine Calls.mono (HC.out _) ?_;rintro e w1 ⟨rfl,hb⟩))
   go_ret2
   exact ⟨rfl,hb.trans ((Below.refl _ _).alloc hb.size _)⟩
  ·rw [show clV d=k.cls by simp [clV,hk,hm],show clB d=true by simp [clB,hk,hm]];clear hk;have hm2:¬ k.cls<0:=by omega
   go_enter Tryz.func48,Tryz.ntmps48;go_wp2_with (first|(go_at_call 66;refine Calls.mono (HC.out _) ?_;rintro e w1 ⟨rfl,hb⟩))
   go_ret2
   exact ⟨rfl,hb.trans ((Below.refl _ _).alloc hb.size _)⟩
structure Rs (w0:World) (rc:Array Value) (o:O) (rb:Nat) (w:World) (v:Value) (xs:List Int):Prop where
 lt0:w0.heap.size<rb
 oAt:At w w0.heap.size o.cells
 rAt:At w rb rc
 own:w.ownsRow (rb+1) 5 1 v xs.length (xs.map (Value.int .u8))
 bel:Below w0.heap.size w0 w
theorem Rs.put {w0:World} {k:Array Value} {o:O} {rb:Nat} {w w1:World} {v v1:Value} {xs:List Int} {s:Int} {ob:Obj} (h:Rs w0 k o rb w v xs) (hown:w1.ownsRow (rb+1) 5 1 v1 (xs.length+1) (xs.map (Value.int .u8)++[.int .u8 s])) (hg:(w.alloc ob).grownBy w1 v.ownBlock) :
  Rs w0 k o rb w1 v1 (xs++[s]):=by
 have h0:=h.lt0;have hb:Below (rb+1) w w1:=((Below.refl _ w).alloc (by have:=h.rAt.lt;omega) ob).grown hg (by have:=h.rAt.lt;simp;omega) (fun b hb=>(h.own.lt b hb).1);refine ⟨h0,h.oAt.below hb (by omega),h.rAt.below hb (by omega),?_,h.bel.trans (hb.mono (by omega))⟩;simpa using hown
theorem Rs.slAt {w0:World} {k:Array Value} {o:O} {rb:Nat} {w:World} {v:Value} {xs:List Int} {f:Nat->Int} {n:Nat} (h:Rs w0 k o rb w v xs) (hn:xs.length=n) (hf:∀ j,j<n->xs[j]?=some (f j)):SlAt w v n f:=by
 subst hn;rcases Nat.eq_zero_or_pos xs.length with h0|h0
 ·left
  refine ⟨h0,?_⟩;rcases h.own.2 with ⟨rfl,_⟩|⟨g,cap,cur,rfl,_⟩
  ·exact ⟨_,_,rfl⟩
  ·rw [h0];exact ⟨_,_,rfl⟩
 ·right
  have hown:=h.own;obtain ⟨g,cap,rfl,hg,hlt⟩:=hown.form h0;refine ⟨g,cap,rfl,hlt,fun j hj=>?_⟩;rw [hown.cellAt j (by omega)];simp [hf j hj]
theorem info5:(Tryz.prog.info? 5).map (fun i=>(i.zero,i.size,i.bytes))=some (some (.int .u8 0),1,1):=by kernel_rfl
def rf (o:O) (j:Nat):Int:=if j=0 then o.a else o.b
theorem refReads_0 (o:O) (k:K) (w:World) (ho:o.Ok) (hk:kOf o.op=some k) (hf:okF k o=true) (hA:k.A=false) (hB:k.B=false):Calls Tryz.prog 129 #[o.val] w fun e w'=>∃ v,e=.returned v/\SlAt w' v 0 (rf o)/\Below w.heap.size w w':=by
 have hO:okO o=true:=by rw [okO_some hk];exact hf
 have HC0:=fun w=>refCheck_any o w ho;rw [show ckE o=0 by simp [ckE,hO]] at HC0;have HC:Hid _:=HC0;have HF:Hid _:=fun w=>of_yes o.op k w hk;clear ho hO hf HC0 hk;obtain ⟨i0,hi,hi2⟩:=Option.map_eq_some_iff.1 info5;simp only [Prod.mk.injEq] at hi2;obtain ⟨hz0,hz1,hz2⟩:=hi2;have HI:Hid (Tryz.prog.info? 5=some i0/\i0.zero=some (.int .u8 0)/\i0.size=1/\i0.bytes=1):=⟨hi,hz0,hz1,hz2⟩;clear hi hz0 hz1 hz2;go_enter Tryz.func129,Tryz.ntmps129;go_wp2_with (first|(go_at_call 66;refine Calls.mono (HF.out _) ?_;rintro e w1 ⟨rfl,hb⟩;obtain ⟨a1,hb0,hz⟩:=one_new w _ _ hb;have HB:Hid (Below w.heap.size w w1):=hb0;have HO:Hid _:=a1;obtain ⟨o0,o1,o2,o3,o4⟩:=a1.o5;clear hb hb0 a1)|(go_at_call 67;refine Calls.mono (HC.out _) ?_;rintro e w2 ⟨rfl,hb⟩;obtain ⟨r1,hb0,hz2⟩:=one_new w1 _ _ hb;have HS:Hid (Rs w _ o w1.heap.size w2 (.slice none 0 0) []):=⟨hz,HO.out.below hb0 hz,r1,World.ownsRow_nil _ _ _ _,HB.out.trans (hb0.mono (Nat.le_of_lt hz))⟩;obtain ⟨c0,c1,c2,c3,c4,c5,c6⟩:=HS.out.rAt.r7;obtain ⟨o0,o1,o2,o3,o4⟩:=HS.out.oAt.o5;have hzr:=HS.out.rAt.lt;have hzo:=HS.out.oAt.lt;clear hb hb0 r1)|(at_builtin;refine wpList_append_lies _ rfl _ _ 191 rfl (w1.heap.size+1) 5 i0 (.int .u8 0) 1 1 Tryz.underlying191 HI.out.1 HI.out.2.1 HI.out.2.2.1 HI.out.2.2.2 rfl (by decide) _ _ _ rfl (HS.out.own.alloc _) ⟨w2.heap.size,0,none⟩ 1 1 [.int .u8 _] rfl rfl (World.news_of_block (heap_alloc_new w2 _)) (by simp [Value.oneCell']) (by decide) (by unfold maxLen;simp) (by simp) (by have:=HS.out.rAt.lt;simp;omega) (w2.heap.size+1) (by simp) ?_;intro g cap w2 hown1 hgrow hat hlt3;have HS:Hid (Rs w _ o w1.heap.size w2 _ _):=HS.out.put hown1 hgrow;obtain ⟨c0,c1,c2,c3,c4,c5,c6⟩:=HS.out.rAt.r7;obtain ⟨o0,o1,o2,o3,o4⟩:=HS.out.oAt.o5;have hzr:=HS.out.rAt.lt;have hzo:=HS.out.oAt.lt;clear hown1 hgrow hat hlt3))
 go_ret
 refine ⟨_,rfl,HS.out.slAt rfl (fun j hj=>?_),HS.out.bel⟩
 match j,hj with
 | _+0,h=>exact absurd h (by simp)
theorem refReads_1 (o:O) (k:K) (w:World) (ho:o.Ok) (hk:kOf o.op=some k) (hf:okF k o=true) (hA:k.A=true) (hB:k.B=false):Calls Tryz.prog 129 #[o.val] w fun e w'=>∃ v,e=.returned v/\SlAt w' v 1 (rf o)/\Below w.heap.size w w':=by
 have hO:okO o=true:=by rw [okO_some hk];exact hf
 have HC0:=fun w=>refCheck_any o w ho;rw [show ckE o=0 by simp [ckE,hO]] at HC0;have HC:Hid _:=HC0;have HF:Hid _:=fun w=>of_yes o.op k w hk;clear ho hO hf HC0 hk;obtain ⟨i0,hi,hi2⟩:=Option.map_eq_some_iff.1 info5;simp only [Prod.mk.injEq] at hi2;obtain ⟨hz0,hz1,hz2⟩:=hi2;have HI:Hid (Tryz.prog.info? 5=some i0/\i0.zero=some (.int .u8 0)/\i0.size=1/\i0.bytes=1):=⟨hi,hz0,hz1,hz2⟩;clear hi hz0 hz1 hz2;go_enter Tryz.func129,Tryz.ntmps129;go_wp2_with (first|(go_at_call 66;refine Calls.mono (HF.out _) ?_;rintro e w1 ⟨rfl,hb⟩;obtain ⟨a1,hb0,hz⟩:=one_new w _ _ hb;have HB:Hid (Below w.heap.size w w1):=hb0;have HO:Hid _:=a1;obtain ⟨o0,o1,o2,o3,o4⟩:=a1.o5;clear hb hb0 a1)|(go_at_call 67;refine Calls.mono (HC.out _) ?_;rintro e w2 ⟨rfl,hb⟩;obtain ⟨r1,hb0,hz2⟩:=one_new w1 _ _ hb;have HS:Hid (Rs w _ o w1.heap.size w2 (.slice none 0 0) []):=⟨hz,HO.out.below hb0 hz,r1,World.ownsRow_nil _ _ _ _,HB.out.trans (hb0.mono (Nat.le_of_lt hz))⟩;obtain ⟨c0,c1,c2,c3,c4,c5,c6⟩:=HS.out.rAt.r7;obtain ⟨o0,o1,o2,o3,o4⟩:=HS.out.oAt.o5;have hzr:=HS.out.rAt.lt;have hzo:=HS.out.oAt.lt;clear hb hb0 r1)|(at_builtin;refine wpList_append_lies _ rfl _ _ 191 rfl (w1.heap.size+1) 5 i0 (.int .u8 0) 1 1 Tryz.underlying191 HI.out.1 HI.out.2.1 HI.out.2.2.1 HI.out.2.2.2 rfl (by decide) _ _ _ rfl (HS.out.own.alloc _) ⟨w2.heap.size,0,none⟩ 1 1 [.int .u8 _] rfl rfl (World.news_of_block (heap_alloc_new w2 _)) (by simp [Value.oneCell']) (by decide) (by unfold maxLen;simp) (by simp) (by have:=HS.out.rAt.lt;simp;omega) (w2.heap.size+1) (by simp) ?_;intro g cap w2 hown1 hgrow hat hlt3;have HS:Hid (Rs w _ o w1.heap.size w2 _ _):=HS.out.put hown1 hgrow;obtain ⟨c0,c1,c2,c3,c4,c5,c6⟩:=HS.out.rAt.r7;obtain ⟨o0,o1,o2,o3,o4⟩:=HS.out.oAt.o5;have hzr:=HS.out.rAt.lt;have hzo:=HS.out.oAt.lt;clear hown1 hgrow hat hlt3))
 go_ret
 refine ⟨_,rfl,HS.out.slAt rfl (fun j hj=>?_),HS.out.bel⟩
 match j,hj with
 | 0,_=>rfl
theorem refReads_1e (o:O) (k:K) (w:World) (ho:o.Ok) (hk:kOf o.op=some k) (hf:okF k o=true) (hA:k.A=true) (hB:k.B=true) (hE:(o.b==o.a)=true):Calls Tryz.prog 129 #[o.val] w fun e w'=>∃ v,e=.returned v/\SlAt w' v 1 (rf o)/\Below w.heap.size w w':=by
 have hO:okO o=true:=by rw [okO_some hk];exact hf
 have HC0:=fun w=>refCheck_any o w ho;rw [show ckE o=0 by simp [ckE,hO]] at HC0;have HC:Hid _:=HC0;have HF:Hid _:=fun w=>of_yes o.op k w hk;clear ho hO hf HC0 hk;obtain ⟨i0,hi,hi2⟩:=Option.map_eq_some_iff.1 info5;simp only [Prod.mk.injEq] at hi2;obtain ⟨hz0,hz1,hz2⟩:=hi2;have HI:Hid (Tryz.prog.info? 5=some i0/\i0.zero=some (.int .u8 0)/\i0.size=1/\i0.bytes=1):=⟨hi,hz0,hz1,hz2⟩;clear hi hz0 hz1 hz2;go_enter Tryz.func129,Tryz.ntmps129;go_wp2_with (first|(go_at_call 66;refine Calls.mono (HF.out _) ?_;rintro e w1 ⟨rfl,hb⟩;obtain ⟨a1,hb0,hz⟩:=one_new w _ _ hb;have HB:Hid (Below w.heap.size w w1):=hb0;have HO:Hid _:=a1;obtain ⟨o0,o1,o2,o3,o4⟩:=a1.o5;clear hb hb0 a1)|(go_at_call 67;refine Calls.mono (HC.out _) ?_;rintro e w2 ⟨rfl,hb⟩;obtain ⟨r1,hb0,hz2⟩:=one_new w1 _ _ hb;have HS:Hid (Rs w _ o w1.heap.size w2 (.slice none 0 0) []):=⟨hz,HO.out.below hb0 hz,r1,World.ownsRow_nil _ _ _ _,HB.out.trans (hb0.mono (Nat.le_of_lt hz))⟩;obtain ⟨c0,c1,c2,c3,c4,c5,c6⟩:=HS.out.rAt.r7;obtain ⟨o0,o1,o2,o3,o4⟩:=HS.out.oAt.o5;have hzr:=HS.out.rAt.lt;have hzo:=HS.out.oAt.lt;clear hb hb0 r1)|(at_builtin;refine wpList_append_lies _ rfl _ _ 191 rfl (w1.heap.size+1) 5 i0 (.int .u8 0) 1 1 Tryz.underlying191 HI.out.1 HI.out.2.1 HI.out.2.2.1 HI.out.2.2.2 rfl (by decide) _ _ _ rfl (HS.out.own.alloc _) ⟨w2.heap.size,0,none⟩ 1 1 [.int .u8 _] rfl rfl (World.news_of_block (heap_alloc_new w2 _)) (by simp [Value.oneCell']) (by decide) (by unfold maxLen;simp) (by simp) (by have:=HS.out.rAt.lt;simp;omega) (w2.heap.size+1) (by simp) ?_;intro g cap w2 hown1 hgrow hat hlt3;have HS:Hid (Rs w _ o w1.heap.size w2 _ _):=HS.out.put hown1 hgrow;obtain ⟨c0,c1,c2,c3,c4,c5,c6⟩:=HS.out.rAt.r7;obtain ⟨o0,o1,o2,o3,o4⟩:=HS.out.oAt.o5;have hzr:=HS.out.rAt.lt;have hzo:=HS.out.oAt.lt;clear hown1 hgrow hat hlt3))
 go_ret
 refine ⟨_,rfl,HS.out.slAt rfl (fun j hj=>?_),HS.out.bel⟩
 match j,hj with
 | 0,_=>rfl
theorem refReads_2 (o:O) (k:K) (w:World) (ho:o.Ok) (hk:kOf o.op=some k) (hf:okF k o=true) (hA:k.A=true) (hB:k.B=true) (hE:(o.b==o.a)=false):Calls Tryz.prog 129 #[o.val] w fun e w'=>∃ v,e=.returned v/\SlAt w' v 2 (rf o)/\Below w.heap.size w w':=by
 have hO:okO o=true:=by rw [okO_some hk];exact hf
 have HC0:=fun w=>refCheck_any o w ho;rw [show ckE o=0 by simp [ckE,hO]] at HC0;have HC:Hid _:=HC0;have HF:Hid _:=fun w=>of_yes o.op k w hk;clear ho hO hf HC0 hk;obtain ⟨i0,hi,hi2⟩:=Option.map_eq_some_iff.1 info5;simp only [Prod.mk.injEq] at hi2;obtain ⟨hz0,hz1,hz2⟩:=hi2;have HI:Hid (Tryz.prog.info? 5=some i0/\i0.zero=some (.int .u8 0)/\i0.size=1/\i0.bytes=1):=⟨hi,hz0,hz1,hz2⟩;clear hi hz0 hz1 hz2;go_enter Tryz.func129,Tryz.ntmps129;go_wp2_with (first|(go_at_call 66;refine Calls.mono (HF.out _) ?_;rintro e w1 ⟨rfl,hb⟩;obtain ⟨a1,hb0,hz⟩:=one_new w _ _ hb;have HB:Hid (Below w.heap.size w w1):=hb0;have HO:Hid _:=a1;obtain ⟨o0,o1,o2,o3,o4⟩:=a1.o5;clear hb hb0 a1)|(go_at_call 67;refine Calls.mono (HC.out _) ?_;rintro e w2 ⟨rfl,hb⟩;obtain ⟨r1,hb0,hz2⟩:=one_new w1 _ _ hb;have HS:Hid (Rs w _ o w1.heap.size w2 (.slice none 0 0) []):=⟨hz,HO.out.below hb0 hz,r1,World.ownsRow_nil _ _ _ _,HB.out.trans (hb0.mono (Nat.le_of_lt hz))⟩;obtain ⟨c0,c1,c2,c3,c4,c5,c6⟩:=HS.out.rAt.r7;obtain ⟨o0,o1,o2,o3,o4⟩:=HS.out.oAt.o5;have hzr:=HS.out.rAt.lt;have hzo:=HS.out.oAt.lt;clear hb hb0 r1)|(at_builtin;refine wpList_append_lies _ rfl _ _ 191 rfl (w1.heap.size+1) 5 i0 (.int .u8 0) 1 1 Tryz.underlying191 HI.out.1 HI.out.2.1 HI.out.2.2.1 HI.out.2.2.2 rfl (by decide) _ _ _ rfl (HS.out.own.alloc _) ⟨w2.heap.size,0,none⟩ 1 1 [.int .u8 _] rfl rfl (World.news_of_block (heap_alloc_new w2 _)) (by simp [Value.oneCell']) (by decide) (by unfold maxLen;simp) (by simp) (by have:=HS.out.rAt.lt;simp;omega) (w2.heap.size+1) (by simp) ?_;intro g cap w2 hown1 hgrow hat hlt3;have HS:Hid (Rs w _ o w1.heap.size w2 _ _):=HS.out.put hown1 hgrow;obtain ⟨c0,c1,c2,c3,c4,c5,c6⟩:=HS.out.rAt.r7;obtain ⟨o0,o1,o2,o3,o4⟩:=HS.out.oAt.o5;have hzr:=HS.out.rAt.lt;have hzo:=HS.out.oAt.lt;clear hown1 hgrow hat hlt3))
 go_ret
 refine ⟨_,rfl,HS.out.slAt rfl (fun j hj=>?_),HS.out.bel⟩
 match j,hj with
 | 0,_=>rfl
 | 1,_=>rfl
theorem refReads_yes (o:O) (k:K) (w:World) (ho:o.Ok) (hk:kOf o.op=some k) (hf:okF k o=true) (hBA:k.A=false->k.B=false):Calls Tryz.prog 129 #[o.val] w fun e w'=>∃ v,e=.returned v/\SlAt w' v (rcN k o) (rf o)/\Below w.heap.size w w':=by
 have hc:(o.b==o.a)=(o.a==o.b):=by rw [Bool.eq_iff_iff];simp;omega
 cases hA:k.A
 ·rw [show rcN k o=0 by simp [rcN,hA]];exact refReads_0 o k w ho hk hf hA (hBA hA)
 ·cases hB:k.B
  ·rw [show rcN k o=1 by simp [rcN,hA,hB]];exact refReads_1 o k w ho hk hf hA hB
  ·cases hE:(o.b==o.a)
   ·rw [show rcN k o=2 by simp [rcN,hA,hB,<- hc,hE]];exact refReads_2 o k w ho hk hf hA hB hE
   ·rw [show rcN k o=1 by simp [rcN,hA,hB,<- hc,hE]];exact refReads_1e o k w ho hk hf hA hB hE
end Go.Proofs.YtcmlnemokckbdaaGreatDoor.Op
