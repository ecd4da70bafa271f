/- Parts QNh QNi. -/
import Derived.Test.YtcmlnemokckbdaaGreatDoorN46
import Derived.Test.YtcmlnemokckbdaaGreatDoorN00
set_option maxRecDepth 20000
set_option maxHeartbeats 8000000
namespace Go.Proofs.YtcmlnemokckbdaaGreatDoor.L8.Sm
open Go.ChangeShapes Go.WideShapes Go.ChangeAt Go.RowKit
open YtcmlnemokckbdaaGreatDoor.L8.Op YtcmlnemokckbdaaGreatDoor.L8.So
section
variable {w:World} {q:Nat} {ps:List Bk} {T:Nat->Prop} {M:Ma}
structure Std (w:World) (q:Nat) (ps:List Bk) (T:Nat->Prop) (M:Ma) (b f bc:Nat) (po:Option Addr) (pc:Nat) (x:Bk) (p:Pl):Prop where
 at_:MAt w q (some ⟨b,f,none⟩) ps.length bc po pc M
 bk:BAt w b (f+M.b*6) x p
 bl:b<w.heap.size
 lt:M.b<ps.length
 is:ps[M.b]?=some x
 ops:OpsAt w (lA p M.y) (lst x M.y)
 ne:¬ b=q
 xm:BkM ps.length x
theorem MM.std (h:MM w q ps T M):∃ b f bc po pc x p,Std w q ps T M b f bc po pc x p:=by
 obtain ⟨ba,bc,po,pc,hM,hP,hR,hT⟩:=h.mr.ex;have hb:=h.inv.b;obtain ⟨b,f,rfl,hz,hT',hx⟩:=hP.is (by omega);obtain ⟨p,h1,h2,-⟩:=hx M.b hb;refine ⟨b,f,bc,po,pc,ps[M.b],p,hM,h1,hz,hb,List.getElem?_eq_getElem hb,?_,fun e=>hT' (.inl (by rw [e];exact h.mr.tq)),h.ps.2.2 _ (List.getElem_mem hb)⟩;unfold lA lst
 split
 ·exact h2.b
 ·exact h2.o
theorem Std.up {w':World} {b f bc pc:Nat} {po:Option Addr} {x:Bk} {p:Pl} (h:Std w q ps T M b f bc po pc x p) (hb:Below w.heap.size w w'):Std w' q ps T M b f bc po pc x p:=
 ⟨h.at_.up hb,h.bk.below hb h.bl,Nat.lt_of_lt_of_le h.bl hb.size,h.lt,h.is,h.ops.below hb,h.ne,h.xm⟩
theorem Std.end_ {b f bc pc:Nat} {po:Option Addr} {x:Bk} {p:Pl} (h:Std w q ps T M b f bc po pc x p):Calls Tryz.prog 113 #[ptr q] w fun e w'=>e=.returned (.agg #[.int .i64 (M.b:Int),.bool M.y,.int .i64 ((lst x M.y).length:Int)])/\Below w.heap.size w w':=end_any h.at_ h.bk h.bl h.lt
theorem Std.get {b f bc pc:Nat} {po:Option Addr} {x:Bk} {p:Pl} (h:Std w q ps T M b f bc po pc x p):ps[M.b]'h.lt=x:=by
 have:=h.is
 rw [List.getElem?_eq_getElem h.lt] at this;exact Option.some.inj this
theorem Std.list {b f bc pc:Nat} {po:Option Addr} {x:Bk} {p:Pl} (h:Std w q ps T M b f bc po pc x p):listM ps M=lst x M.y:=by
 rw [listM_at h.lt,h.get]
def TurnPost (w:World) (q:Nat) (ps:List Bk) (T:Nat->Prop) (M':Ma) (e:Ending) (w':World):Prop:=e=.returned (.tuple #[])/\MR w' q ps T M'/\Tn w T w' T/\Fr (One q) w w'
theorem turn_of {M':Ma} {b f bc pc:Nat} {po:Option Addr} {x:Bk} {p:Pl} (h:MM w q ps T M) (hS:Std w q ps T M b f bc po pc x p) {fn:FuncId} {args:Array Value} (hpr:M'.pr=M.pr)
  (hc:Calls Tryz.prog fn args w fun e w'=>e=.returned (.tuple #[])/\MAt w' q (some ⟨b,f,none⟩) ps.length bc po pc M'/\Fr (One q) w w'):Calls Tryz.prog fn args w (TurnPost w q ps T M'):=by
 obtain ⟨ba,bc',po',pc',hM,hP,hR,hT⟩:=h.mr.ex;have e1:=hM.bk.symm.trans hS.at_.bk;have e2:=hM.p.symm.trans hS.at_.p
 injection e1 with e1;injection e1 with e1 _ e1'
 injection e2 with e2;injection e2 with e2 _ e2'
 subst e1 e1' e2 e2';refine hc.mono ?_;rintro e w' ⟨rfl,h1,h2⟩;obtain ⟨k1,k2⟩:=mr_one hP hR hT h.mr.tq h.mr.tl h1 h2 hpr;exact ⟨rfl,k1,k2,h2⟩
theorem turn_any (h:MM w q ps T M) {b f bc pc:Nat} {po:Option Addr} {x:Bk} {p:Pl} (hS:Std w q ps T M b f bc po pc x p):Calls Tryz.prog (77+x.fin.toNat) #[ptr q,.pointer (some ⟨b,f+M.b*6,none⟩)] w (TurnPost w q ps T (endM x M)):=by
 have hm:=hS.xm;obtain ⟨k,hk⟩:∃ k:Nat,x.fin=k:=⟨x.fin.toNat,by have:=hm.fin;omega⟩;have hk4:k=0\/k=1\/k=2\/k=3:=by have:=hm.fin;omega
 rw [hk];unfold endM;rcases hk4 with rfl|rfl|rfl|rfl
 ·rw [if_pos (show x.fin=0 by omega)];exact turn_of h hS rfl (jump_any hS.at_ hS.bk hm.thn.1)
 ·rw [if_neg (by omega),if_pos (show x.fin=1 by omega)];exact turn_of h hS rfl (branch_any hS.at_ hS.bk hS.ne hm.thn.1 hm.els.1 hm.a)
 ·rw [if_neg (by omega),if_neg (by omega),if_pos (show x.fin=2 by omega)];exact turn_of h hS rfl (halt_any hS.at_ hS.bk hS.ne hm.a)
 ·rw [if_neg (by omega),if_neg (by omega),if_neg (by omega)]
  cases hy:M.y
  ·rw [show rndM x.a M=max (M.r x.a.toNat) 0 by simp [rndM,hy]];refine turn_of h hS ?_ (loop_ops hS.at_ hS.bk hS.ne hm.thn.1 hm.a hy)
   split <;> rfl
  ·rw [show rndM x.a M=wrap64 (M.n-1) by simp [rndM,hy]];refine turn_of h hS ?_ (loop_body hS.at_ hS.bk hS.ne hm.thn.1 hm.a hy)
   split <;> rfl
theorem step_stay (h:MM w q ps T M) (he:M.o=(listM ps M).length):Calls Tryz.prog 83 #[ptr q,.bool false] w fun e w'=>e=.returned (.bool false)/\Below w.heap.size w w':=by
 obtain ⟨b,f,bc,po,pc,x,p,hS⟩:=h.std;have HL:Hid (∀ W,Below w.heap.size w W->Calls Tryz.prog 113 #[ptr q] W fun e w'=>e=.returned (.agg #[.int .i64 (M.b:Int),.bool M.y,.int .i64 ((lst x M.y).length:Int)])/\Below W.heap.size W w'):=fun W hb=>(hS.up hb).end_;have HM:Hid (∀ W,Below w.heap.size w W->W.cell? ⟨q,329,none⟩=some (.int .i64 (M.b:Int))/\W.cell? ⟨q,330,none⟩=some (.bool M.y)/\W.cell? ⟨q,331,none⟩=some (.int .i64 (M.o:Int))):=fun W hb'=>⟨(hS.up hb').at_.b,(hS.up hb').at_.y,(hS.up hb').at_.o⟩;have hq:=hS.at_.lt;have hl:M.o=(lst x M.y).length:=by
  rw [he,listM_at hS.lt]
  have:=hS.is
  rw [List.getElem?_eq_getElem hS.lt] at this;rw [Option.some.inj this]
 clear h he hS;generalize (lst x M.y).length=ll at *;subst hl;generalize M.b=mb at *;generalize M.y=my at *;generalize M.o=mo at *;go_enter Tryz.func83,Tryz.ntmps83;go_wp2_with fail
 have e0:∀ z:Wd (Below w.heap.size w),z.w.cell? ⟨q,329,none⟩=some (.int .i64 (mb:Int)):=fun z=>(HM.out z.w z.ok).1;have e1:∀ z:Wd (Below w.heap.size w),z.w.cell? ⟨q,330,none⟩=some (.bool my):=fun z=>(HM.out z.w z.ok).2.1;have e2:∀ z:Wd (Below w.heap.size w),z.w.cell? ⟨q,331,none⟩=some (.int .i64 (mo:Int)):=fun z=>(HM.out z.w z.ok).2.2
 haveI inst:Nonempty (Wd (Below w.heap.size w)):=⟨⟨w,Below.refl _ _⟩⟩
 have HX:Hid (∀ z:Wd (Below w.heap.size w),Below w.heap.size w z.w):=fun z=>z.ok;refine wp_region_in (Below w.heap.size w) (by kernel_rfl) (by kernel_rfl) ((Below.refl _ _).drew) ?_
 repeat (first|go_big_quiet_step ((go_at_call 113;exact calls_in (Nat.le_refl _) _ (HL.out _ (HX.out _)))))
 refine wpQuiet_nil ?_;rintro _ ⟨x,rfl⟩;have hx:=x.ok;clear e0 e1 e2;go_wp2_with fail
 go_ret
 exact ⟨rfl,hx⟩
theorem step_end (h:MM w q ps T M) (he:M.o=(listM ps M).length):Calls Tryz.prog 83 #[ptr q,.bool true] w fun e w'=>e=.returned (.bool true)/\∃ T',MR w' q ps T' (nextM ps M)/\Tn w T w' T':=by
 obtain ⟨b,f,bc,po,pc,x,p,hS⟩:=h.std;have HL:Hid (∀ W,Below w.heap.size w W->Calls Tryz.prog 113 #[ptr q] W fun e w'=>e=.returned (.agg #[.int .i64 (M.b:Int),.bool M.y,.int .i64 ((lst x M.y).length:Int)])/\Below W.heap.size W w'):=fun W hb=>(hS.up hb).end_;have HM:Hid (∀ W,Below w.heap.size w W->W.cell? ⟨q,329,none⟩=some (.int .i64 (M.b:Int))/\W.cell? ⟨q,330,none⟩=some (.bool M.y)/\W.cell? ⟨q,331,none⟩=some (.int .i64 (M.o:Int))):=fun W hb'=>⟨(hS.up hb').at_.b,(hS.up hb').at_.y,(hS.up hb').at_.o⟩;have hq:=hS.at_.lt;have hl:M.o=(lst x M.y).length:=by rw [he,hS.list]
 have hn:nextM ps M=endM x M:=by
  have:=next_end hS.lt (M:=M) (by rw [hS.get];omega)
  rw [hS.get] at this;exact this
 rw [hn];have HT:Hid (∀ W,Below w.heap.size w W->Calls Tryz.prog (77+x.fin.toNat) #[ptr q,.pointer (some ⟨b,f+M.b*6,none⟩)] W (TurnPost W q ps T (endM x M))):=fun W hb=>turn_any (h.up hb) (hS.up hb);have HC:Hid (∀ W,Below w.heap.size w W->W.cell? ⟨q,0,none⟩=some (.slice (some ⟨b,f,none⟩) ps.length bc)/\W.cell? ⟨b,f+M.b*6+1,none⟩=some (.int .i8 x.fin)):=fun W hb=>⟨(hS.up hb).at_.bk,(hS.up hb).bk.c1⟩;have HD:Hid (∀ W T' M',MR W q ps T' M'->W.cell? ⟨q,37+x.fin.toNat,none⟩=some (fnV (77+x.fin.toNat))):=fun W T' M' hm=>by
  obtain ⟨_,_,_,_,hA⟩:=hm.mat;exact hA.en _ (by have:=hS.xm.fin;omega)
 have HR:Hid (MR w q ps T M):=h.mr;have hbl:=hS.bl;have hne:=hS.ne;have hlt:=hS.lt;have hf0:=hS.xm.fin;obtain ⟨k,hk⟩:∃ k:Nat,x.fin=k:=⟨x.fin.toNat,by omega⟩;have hk4:k=0\/k=1\/k=2\/k=3:=by omega
 have hpl:(ps.length:Int)<=128:=by have:=h.ps.1;omega
 rw [hk] at HT HC HD;clear hk hf0 h he hS hn;generalize endM x M=M2 at *;generalize (lst x M.y).length=ll at *;subst hl;generalize ps.length=pl at *;generalize M.b=mb at *;generalize M.y=my at *;generalize M.o=mo at *;rcases hk4 with rfl|rfl|rfl|rfl
 ·go_enter Tryz.func83,Tryz.ntmps83;go_wp2_with fail
  have e0:∀ z:Wd (Below w.heap.size w),z.w.cell? ⟨q,329,none⟩=some (.int .i64 (mb:Int)):=fun z=>(HM.out z.w z.ok).1;have e1:∀ z:Wd (Below w.heap.size w),z.w.cell? ⟨q,330,none⟩=some (.bool my):=fun z=>(HM.out z.w z.ok).2.1;have e2:∀ z:Wd (Below w.heap.size w),z.w.cell? ⟨q,331,none⟩=some (.int .i64 (mo:Int)):=fun z=>(HM.out z.w z.ok).2.2
  haveI inst:Nonempty (Wd (Below w.heap.size w)):=⟨⟨w,Below.refl _ _⟩⟩
  have HX:Hid (∀ z:Wd (Below w.heap.size w),Below w.heap.size w z.w):=fun z=>z.ok;refine wp_region_in (Below w.heap.size w) (by kernel_rfl) (by kernel_rfl) ((Below.refl _ _).drew) ?_
  repeat (first|go_big_quiet_step ((go_at_call 113;exact calls_in (Nat.le_refl _) _ (HL.out _ (HX.out _)))))
  refine wpQuiet_nil ?_;rintro _ ⟨z,rfl⟩;have hx:=z.ok;clear e0 e1 e2;have b0:=(HC.out z.w hx).1;have b1:=(HM.out z.w hx).1;have q1:q<z.w.heap.size:=Nat.lt_of_lt_of_le hq hx.size;go_wp2_with fail
  go_quiet (fail)
  have HS:Hid ((z.w.drewN nq).drew.cell? ⟨b,f+mb*6+1,none⟩=some (.int .i8 0)/\(z.w.drewN nq).drew.cell? ⟨q,37,none⟩=some (.func (.func 77) #[] #[])):=⟨(HC.out _ (((hx.trans ((drewN_up z.w nq).mono hx.size))).trans ((drew_up _).mono (Nat.le_trans hx.size (drewN_up z.w nq).size)))).2,HD.out _ T M (HR.out.up (((hx.trans ((drewN_up z.w nq).mono hx.size))).trans ((drew_up _).mono (Nat.le_trans hx.size (drewN_up z.w nq).size))))⟩;have HTz:Hid (Calls Tryz.prog 77 #[ptr q,.pointer (some ⟨b,f+mb*6,none⟩)] (z.w.drewN nq).drew (TurnPost (z.w.drewN nq).drew q ps T M2)):=HT.out _ (((hx.trans ((drewN_up z.w nq).mono hx.size))).trans ((drew_up _).mono (Nat.le_trans hx.size (drewN_up z.w nq).size)));have HE:Hid (Below w.heap.size w (z.w.drewN nq).drew):=((hx.trans ((drewN_up z.w nq).mono hx.size))).trans ((drew_up _).mono (Nat.le_trans hx.size (drewN_up z.w nq).size));have HCl:Hid (b<(z.w.drewN nq).drew.heap.size):=Nat.lt_of_lt_of_le hbl HE.out.size;clear HT HL HM HR b0 b1 HX;go_wp2_with fail
  go_region_held3 (fun w'=>w'.cell? ⟨b,f+mb*6+1,none⟩=some (.int .i8 0)/\w'.cell? ⟨q,37,none⟩=some (.func (.func 77) #[] #[]))
   (first|exact HS.out)
   (first|(go_at_call 77;refine Calls.mono HTz.out ?_;rintro e w2 ⟨rfl,hm,htn,hfr⟩;have HY:Hid (MR w2 q ps T M2/\Tn (z.w.drewN nq).drew T w2 T):=⟨hm,htn⟩;have HS:Hid (w2.cell? ⟨b,f+mb*6+1,none⟩=some (.int .i8 0)/\w2.cell? ⟨q,37,none⟩=some (.func (.func 77) #[] #[])):=⟨(hfr.cell HCl.out hne _).trans HS.out.1,HD.out _ _ _ hm⟩;clear hm htn hfr HTz))
  go_wp2_with fail
  go_ret
  exact ⟨rfl,T,HY.out.1,(Tn.of HE.out).trans HY.out.2⟩
 ·go_enter Tryz.func83,Tryz.ntmps83;go_wp2_with fail
  have e0:∀ z:Wd (Below w.heap.size w),z.w.cell? ⟨q,329,none⟩=some (.int .i64 (mb:Int)):=fun z=>(HM.out z.w z.ok).1;have e1:∀ z:Wd (Below w.heap.size w),z.w.cell? ⟨q,330,none⟩=some (.bool my):=fun z=>(HM.out z.w z.ok).2.1;have e2:∀ z:Wd (Below w.heap.size w),z.w.cell? ⟨q,331,none⟩=some (.int .i64 (mo:Int)):=fun z=>(HM.out z.w z.ok).2.2
  haveI inst:Nonempty (Wd (Below w.heap.size w)):=⟨⟨w,Below.refl _ _⟩⟩
  have HX:Hid (∀ z:Wd (Below w.heap.size w),Below w.heap.size w z.w):=fun z=>z.ok;refine wp_region_in (Below w.heap.size w) (by kernel_rfl) (by kernel_rfl) ((Below.refl _ _).drew) ?_
  repeat (first|go_big_quiet_step ((go_at_call 113;exact calls_in (Nat.le_refl _) _ (HL.out _ (HX.out _)))))
  refine wpQuiet_nil ?_;rintro _ ⟨z,rfl⟩;have hx:=z.ok;clear e0 e1 e2;have b0:=(HC.out z.w hx).1;have b1:=(HM.out z.w hx).1;have q1:q<z.w.heap.size:=Nat.lt_of_lt_of_le hq hx.size;go_wp2_with fail
  go_quiet (fail)
  have HS:Hid ((z.w.drewN nq).drew.cell? ⟨b,f+mb*6+1,none⟩=some (.int .i8 1)/\(z.w.drewN nq).drew.cell? ⟨q,38,none⟩=some (.func (.func 78) #[] #[])):=⟨(HC.out _ (((hx.trans ((drewN_up z.w nq).mono hx.size))).trans ((drew_up _).mono (Nat.le_trans hx.size (drewN_up z.w nq).size)))).2,HD.out _ T M (HR.out.up (((hx.trans ((drewN_up z.w nq).mono hx.size))).trans ((drew_up _).mono (Nat.le_trans hx.size (drewN_up z.w nq).size))))⟩;have HTz:Hid (Calls Tryz.prog 78 #[ptr q,.pointer (some ⟨b,f+mb*6,none⟩)] (z.w.drewN nq).drew (TurnPost (z.w.drewN nq).drew q ps T M2)):=HT.out _ (((hx.trans ((drewN_up z.w nq).mono hx.size))).trans ((drew_up _).mono (Nat.le_trans hx.size (drewN_up z.w nq).size)));have HE:Hid (Below w.heap.size w (z.w.drewN nq).drew):=((hx.trans ((drewN_up z.w nq).mono hx.size))).trans ((drew_up _).mono (Nat.le_trans hx.size (drewN_up z.w nq).size));have HCl:Hid (b<(z.w.drewN nq).drew.heap.size):=Nat.lt_of_lt_of_le hbl HE.out.size;clear HT HL HM HR b0 b1 HX;go_wp2_with fail
  go_region_held3 (fun w'=>w'.cell? ⟨b,f+mb*6+1,none⟩=some (.int .i8 1)/\w'.cell? ⟨q,38,none⟩=some (.func (.func 78) #[] #[]))
   (first|exact HS.out)
   (first|(go_at_call 78;refine Calls.mono HTz.out ?_;rintro e w2 ⟨rfl,hm,htn,hfr⟩;have HY:Hid (MR w2 q ps T M2/\Tn (z.w.drewN nq).drew T w2 T):=⟨hm,htn⟩;have HS:Hid (w2.cell? ⟨b,f+mb*6+1,none⟩=some (.int .i8 1)/\w2.cell? ⟨q,38,none⟩=some (.func (.func 78) #[] #[])):=⟨(hfr.cell HCl.out hne _).trans HS.out.1,HD.out _ _ _ hm⟩;clear hm htn hfr HTz))
  go_wp2_with fail
  go_ret
  exact ⟨rfl,T,HY.out.1,(Tn.of HE.out).trans HY.out.2⟩
 ·go_enter Tryz.func83,Tryz.ntmps83;go_wp2_with fail
  have e0:∀ z:Wd (Below w.heap.size w),z.w.cell? ⟨q,329,none⟩=some (.int .i64 (mb:Int)):=fun z=>(HM.out z.w z.ok).1;have e1:∀ z:Wd (Below w.heap.size w),z.w.cell? ⟨q,330,none⟩=some (.bool my):=fun z=>(HM.out z.w z.ok).2.1;have e2:∀ z:Wd (Below w.heap.size w),z.w.cell? ⟨q,331,none⟩=some (.int .i64 (mo:Int)):=fun z=>(HM.out z.w z.ok).2.2
  haveI inst:Nonempty (Wd (Below w.heap.size w)):=⟨⟨w,Below.refl _ _⟩⟩
  have HX:Hid (∀ z:Wd (Below w.heap.size w),Below w.heap.size w z.w):=fun z=>z.ok;refine wp_region_in (Below w.heap.size w) (by kernel_rfl) (by kernel_rfl) ((Below.refl _ _).drew) ?_
  repeat (first|go_big_quiet_step ((go_at_call 113;exact calls_in (Nat.le_refl _) _ (HL.out _ (HX.out _)))))
  refine wpQuiet_nil ?_;rintro _ ⟨z,rfl⟩;have hx:=z.ok;clear e0 e1 e2;have b0:=(HC.out z.w hx).1;have b1:=(HM.out z.w hx).1;have q1:q<z.w.heap.size:=Nat.lt_of_lt_of_le hq hx.size;go_wp2_with fail
  go_quiet (fail)
  have HS:Hid ((z.w.drewN nq).drew.cell? ⟨b,f+mb*6+1,none⟩=some (.int .i8 2)/\(z.w.drewN nq).drew.cell? ⟨q,39,none⟩=some (.func (.func 79) #[] #[])):=⟨(HC.out _ (((hx.trans ((drewN_up z.w nq).mono hx.size))).trans ((drew_up _).mono (Nat.le_trans hx.size (drewN_up z.w nq).size)))).2,HD.out _ T M (HR.out.up (((hx.trans ((drewN_up z.w nq).mono hx.size))).trans ((drew_up _).mono (Nat.le_trans hx.size (drewN_up z.w nq).size))))⟩;have HTz:Hid (Calls Tryz.prog 79 #[ptr q,.pointer (some ⟨b,f+mb*6,none⟩)] (z.w.drewN nq).drew (TurnPost (z.w.drewN nq).drew q ps T M2)):=HT.out _ (((hx.trans ((drewN_up z.w nq).mono hx.size))).trans ((drew_up _).mono (Nat.le_trans hx.size (drewN_up z.w nq).size)));have HE:Hid (Below w.heap.size w (z.w.drewN nq).drew):=((hx.trans ((drewN_up z.w nq).mono hx.size))).trans ((drew_up _).mono (Nat.le_trans hx.size (drewN_up z.w nq).size));have HCl:Hid (b<(z.w.drewN nq).drew.heap.size):=Nat.lt_of_lt_of_le hbl HE.out.size;clear HT HL HM HR b0 b1 HX;go_wp2_with fail
  go_region_held3 (fun w'=>w'.cell? ⟨b,f+mb*6+1,none⟩=some (.int .i8 2)/\w'.cell? ⟨q,39,none⟩=some (.func (.func 79) #[] #[]))
   (first|exact HS.out)
   (first|(go_at_call 79;refine Calls.mono HTz.out ?_;rintro e w2 ⟨rfl,hm,htn,hfr⟩;have HY:Hid (MR w2 q ps T M2/\Tn (z.w.drewN nq).drew T w2 T):=⟨hm,htn⟩;have HS:Hid (w2.cell? ⟨b,f+mb*6+1,none⟩=some (.int .i8 2)/\w2.cell? ⟨q,39,none⟩=some (.func (.func 79) #[] #[])):=⟨(hfr.cell HCl.out hne _).trans HS.out.1,HD.out _ _ _ hm⟩;clear hm htn hfr HTz))
  go_wp2_with fail
  go_ret
  exact ⟨rfl,T,HY.out.1,(Tn.of HE.out).trans HY.out.2⟩
 ·go_enter Tryz.func83,Tryz.ntmps83;go_wp2_with fail
  have e0:∀ z:Wd (Below w.heap.size w),z.w.cell? ⟨q,329,none⟩=some (.int .i64 (mb:Int)):=fun z=>(HM.out z.w z.ok).1;have e1:∀ z:Wd (Below w.heap.size w),z.w.cell? ⟨q,330,none⟩=some (.bool my):=fun z=>(HM.out z.w z.ok).2.1;have e2:∀ z:Wd (Below w.heap.size w),z.w.cell? ⟨q,331,none⟩=some (.int .i64 (mo:Int)):=fun z=>(HM.out z.w z.ok).2.2
  haveI inst:Nonempty (Wd (Below w.heap.size w)):=⟨⟨w,Below.refl _ _⟩⟩
  have HX:Hid (∀ z:Wd (Below w.heap.size w),Below w.heap.size w z.w):=fun z=>z.ok;refine wp_region_in (Below w.heap.size w) (by kernel_rfl) (by kernel_rfl) ((Below.refl _ _).drew) ?_
  repeat (first|go_big_quiet_step ((go_at_call 113;exact calls_in (Nat.le_refl _) _ (HL.out _ (HX.out _)))))
  refine wpQuiet_nil ?_;rintro _ ⟨z,rfl⟩;have hx:=z.ok;clear e0 e1 e2;have b0:=(HC.out z.w hx).1;have b1:=(HM.out z.w hx).1;have q1:q<z.w.heap.size:=Nat.lt_of_lt_of_le hq hx.size;go_wp2_with fail
  go_quiet (fail)
  have HS:Hid ((z.w.drewN nq).drew.cell? ⟨b,f+mb*6+1,none⟩=some (.int .i8 3)/\(z.w.drewN nq).drew.cell? ⟨q,40,none⟩=some (.func (.func 80) #[] #[])):=⟨(HC.out _ (((hx.trans ((drewN_up z.w nq).mono hx.size))).trans ((drew_up _).mono (Nat.le_trans hx.size (drewN_up z.w nq).size)))).2,HD.out _ T M (HR.out.up (((hx.trans ((drewN_up z.w nq).mono hx.size))).trans ((drew_up _).mono (Nat.le_trans hx.size (drewN_up z.w nq).size))))⟩;have HTz:Hid (Calls Tryz.prog 80 #[ptr q,.pointer (some ⟨b,f+mb*6,none⟩)] (z.w.drewN nq).drew (TurnPost (z.w.drewN nq).drew q ps T M2)):=HT.out _ (((hx.trans ((drewN_up z.w nq).mono hx.size))).trans ((drew_up _).mono (Nat.le_trans hx.size (drewN_up z.w nq).size)));have HE:Hid (Below w.heap.size w (z.w.drewN nq).drew):=((hx.trans ((drewN_up z.w nq).mono hx.size))).trans ((drew_up _).mono (Nat.le_trans hx.size (drewN_up z.w nq).size));have HCl:Hid (b<(z.w.drewN nq).drew.heap.size):=Nat.lt_of_lt_of_le hbl HE.out.size;clear HT HL HM HR b0 b1 HX;go_wp2_with fail
  go_region_held3 (fun w'=>w'.cell? ⟨b,f+mb*6+1,none⟩=some (.int .i8 3)/\w'.cell? ⟨q,40,none⟩=some (.func (.func 80) #[] #[]))
   (first|exact HS.out)
   (first|(go_at_call 80;refine Calls.mono HTz.out ?_;rintro e w2 ⟨rfl,hm,htn,hfr⟩;have HY:Hid (MR w2 q ps T M2/\Tn (z.w.drewN nq).drew T w2 T):=⟨hm,htn⟩;have HS:Hid (w2.cell? ⟨b,f+mb*6+1,none⟩=some (.int .i8 3)/\w2.cell? ⟨q,40,none⟩=some (.func (.func 80) #[] #[])):=⟨(hfr.cell HCl.out hne _).trans HS.out.1,HD.out _ _ _ hm⟩;clear hm htn hfr HTz))
  go_wp2_with fail
  go_ret
  exact ⟨rfl,T,HY.out.1,(Tn.of HE.out).trans HY.out.2⟩
end
section
variable {w:World} {q:Nat} {ps:List Bk} {T:Nat->Prop} {M:Ma}
theorem doOp_trap (o:O) (h:MM w q ps T M) (ho:OkM o) (ht:trapO o M=true) (may:Bool):Calls Tryz.prog 114 #[ptr q,o.val,.bool may] w fun e w'=>e=.panicked [{ v:=.iface 140 (.agg #[.int .i64 101]),recovered:=false }]/\Below w.heap.size w w':=by
 have HV:Hid (∀ W,Below w.heap.size w W->Calls Tryz.prog 81 #[ptr q,o.val] W fun e w'=>e=.panicked [{ v:=.iface 140 (.agg #[.int .i64 101]),recovered:=false }]/\Below W.heap.size W w'):=fun W hb=>val_trap o (h.up hb) ho ht;have HD:=dz_new (W:=(w.alloc (.cells #[.int .i8 o.op,.int .u8 o.d,.int .u8 o.a,.int .u8 o.b,.int .i64 o.im] 60)).drew) h.mr ho (drew_up _);rw [trap_val ht] at HD;have hq:=h.mr.tl q h.mr.tq;have b0:=ho.op.1;have b1:o.op<18:=by have:=ho.op;omega
 have b2:0<=o.op:=by omega
 clear h ho ht;generalize landN o.op.toNat = g at *;obtain ⟨d0,-,c0,c1,c2,c3,c4⟩:=HD;go_enter Tryz.func114,Tryz.ntmps114;go_wp2_with fail
 refine wp_region_held_drew (S:=fun w'=>w'=(w.alloc (.cells #[.int .i8 o.op,.int .u8 o.d,.int .u8 o.a,.int .u8 o.b,.int .i64 o.im] 60)).drew) (by kernel_rfl) rfl (fun zH=>?_);refine wt 0 (ptr q) rfl (fun w' hSw=>by (subst hSw;go_simp)) zH ?_;simp only [pq];refine wt 1 (.pointer (some ⟨w.heap.size,0,none⟩)) rfl (fun w' hSw=>by (subst hSw;go_simp)) zH ?_;simp only [pq];refine wt 2 (.int .i8 o.op) rfl (fun w' hSw=>by (subst hSw;go_simp)) zH ?_;simp only [pq];refine wt 3 (ptr q) rfl (fun w' hSw=>by (subst hSw;go_simp)) zH ?_;simp only [pq];refine wt 4 (.pointer (some ⟨q,1,none⟩)) rfl (fun w' hSw=>by (subst hSw;go_simp)) zH ?_;simp only [pq];refine wt 5 (.pointer (some ⟨q,1,none⟩)) rfl (fun w' hSw=>by (subst hSw;go_simp)) zH ?_;simp only [pq];refine wt 6 (.pointer (some ⟨q,1+o.op.toNat * 2,none⟩)) rfl (fun w' hSw=>by (subst hSw;go_simp)) zH ?_;simp only [pq];refine wt 7 (.pointer (some ⟨q,1+o.op.toNat * 2,none⟩)) rfl (fun w' hSw=>by (subst hSw;go_simp)) zH ?_;simp only [pq];refine wt 8 (.func (.func 81) #[] #[]) rfl (fun w' hSw=>by (subst hSw;go_simp)) zH ?_;simp only [pq];refine wt 9 (ptr q) rfl (fun w' hSw=>by (subst hSw;go_simp)) zH ?_;simp only [pq];refine wt 10 (o.val) rfl (fun w' hSw=>by (subst hSw;go_simp)) zH ?_;simp only [pq];refine wpAnyH_ready (rs:=[11]) (by kernel_rfl) (by simp) ?_;refine AllReadyH.cons rfl (fun K hK=>?_) AllReadyH.nil;go_simp
 refine Calls.mono (HV.out _ (below_ad _ _)) ?_;rintro e w2 ⟨rfl,hb⟩;exact ⟨rfl,rfl,(below_ad _ _).trans (hb.mono (below_ad _ _).size)⟩
theorem step_wait (h:MM w q ps T M) (hlt:M.o<(listM ps M).length) (ht:trapB ps M=false):Calls Tryz.prog 83 #[ptr q,.bool false] w fun e w'=>e=.returned (.bool false)/\Below w.heap.size w w':=by
 obtain ⟨b,f,bc,po,pc,x,p,hS⟩:=h.std;have HL:Hid (∀ W,Below w.heap.size w W->Calls Tryz.prog 113 #[ptr q] W fun e w'=>e=.returned (.agg #[.int .i64 (M.b:Int),.bool M.y,.int .i64 ((lst x M.y).length:Int)])/\Below W.heap.size W w'):=fun W hb=>(hS.up hb).end_;have HM:Hid (∀ W,Below w.heap.size w W->W.cell? ⟨q,329,none⟩=some (.int .i64 (M.b:Int))/\W.cell? ⟨q,330,none⟩=some (.bool M.y)/\W.cell? ⟨q,331,none⟩=some (.int .i64 (M.o:Int))):=fun W hb'=>⟨(hS.up hb').at_.b,(hS.up hb').at_.y,(hS.up hb').at_.o⟩;have hq:=hS.at_.lt;have hlt':M.o<(lst x M.y).length:=by rw [<- hS.list];omega
 obtain ⟨lb,lf,hla,hlz,hox⟩:=hS.ops.is (by omega);obtain ⟨o,ho⟩:∃ o,(lst x M.y)[M.o]=o:=⟨_,rfl⟩;have hOk:OkM o:=hS.xm.lst (y:=M.y) (by rw [<- ho];exact List.getElem_mem hlt');have hOA:OAt w lb (lf+M.o*5) o:=by have:=hox M.o hlt';rw [ho] at this;exact this
 have hget:(listM ps M)[M.o]?=some o:=by rw [hS.list,List.getElem?_eq_getElem hlt',ho]
 have hto:trapO o M=false:=by unfold trapB at ht;rw [hget] at ht;exact ht
 have HP:Hid (∀ W,Below w.heap.size w W->Calls Tryz.prog 114 #[ptr q,o.val,.bool false] W fun e w'=>e=.returned (.bool false)/\Below W.heap.size W w'):=fun W hb=>doOp_no o (h.up hb) hOk hto;clear hto ht;have HC:Hid (∀ W,Below w.heap.size w W->Calls Tryz.prog 115 #[ptr q] W fun e w'=>e=.returned (.slice (some ⟨lb,lf,none⟩) (lst x M.y).length (lC p M.y))/\∃ m,w'=W.drewN m):=fun W hb=>by
  have:=list_any (hS.up hb).at_ (hS.up hb).bk hS.lt
  rw [hla] at this;exact this
 have HO:Hid (∀ W,Below w.heap.size w W->OAt W lb (lf+M.o*5) o):=fun W hb=>hOA.below hb hlz;have hne:¬ (M.o:Int)=((lst x M.y).length:Int):=by omega
 have hlen:((lst x M.y).length:Int)<=8796093022208:=by have:=hS.ops.len;omega
 clear h hlt hS hla hox ho hOk hOA hget;generalize (lst x M.y).length=ll at *;generalize lC p M.y=lc at *;generalize M.b=mb at *;generalize M.y=my at *;generalize M.o=mo at *;go_enter Tryz.func83,Tryz.ntmps83;go_wp2_with fail
 have e0:∀ z:Wd (Below w.heap.size w),z.w.cell? ⟨q,329,none⟩=some (.int .i64 (mb:Int)):=fun z=>(HM.out z.w z.ok).1;have e1:∀ z:Wd (Below w.heap.size w),z.w.cell? ⟨q,330,none⟩=some (.bool my):=fun z=>(HM.out z.w z.ok).2.1;have e2:∀ z:Wd (Below w.heap.size w),z.w.cell? ⟨q,331,none⟩=some (.int .i64 (mo:Int)):=fun z=>(HM.out z.w z.ok).2.2
 haveI inst:Nonempty (Wd (Below w.heap.size w)):=⟨⟨w,Below.refl _ _⟩⟩
 have HX:Hid (∀ z:Wd (Below w.heap.size w),Below w.heap.size w z.w):=fun z=>z.ok;refine wp_region_in (Below w.heap.size w) (by kernel_rfl) (by kernel_rfl) ((Below.refl _ _).drew) ?_
 repeat (first|go_big_quiet_step ((go_at_call 113;exact calls_in (Nat.le_refl _) _ (HL.out _ (HX.out _)))))
 refine wpQuiet_nil ?_;rintro _ ⟨z,rfl⟩;have hx:=z.ok;clear e0 e1 e2;have hb1:Below w.heap.size w z.w:=hx;go_wp2_with fail
 generalize z.w=X at *;have e0:∀ y:Wd (Below X.heap.size X),y.w.cell? ⟨q,331,none⟩=some (.int .i64 (mo:Int)):=fun y=>(HM.out y.w (hb1.trans (y.ok.mono hb1.size))).2.2;have k0:∀ y:Wd (Below X.heap.size X),y.w.cell? ⟨lb,lf+mo*5,none⟩=some (.int .i8 o.op):=fun y=>(HO.out y.w (hb1.trans (y.ok.mono hb1.size))).c0;have k1:∀ y:Wd (Below X.heap.size X),y.w.cell? ⟨lb,lf+mo*5+1,none⟩=some (.int .u8 o.d):=fun y=>(HO.out y.w (hb1.trans (y.ok.mono hb1.size))).c1;have k2:∀ y:Wd (Below X.heap.size X),y.w.cell? ⟨lb,lf+mo*5+2,none⟩=some (.int .u8 o.a):=fun y=>(HO.out y.w (hb1.trans (y.ok.mono hb1.size))).c2;have k3:∀ y:Wd (Below X.heap.size X),y.w.cell? ⟨lb,lf+mo*5+3,none⟩=some (.int .u8 o.b):=fun y=>(HO.out y.w (hb1.trans (y.ok.mono hb1.size))).c3;have k4:∀ y:Wd (Below X.heap.size X),y.w.cell? ⟨lb,lf+mo*5+4,none⟩=some (.int .i64 o.im):=fun y=>(HO.out y.w (hb1.trans (y.ok.mono hb1.size))).c4;have HY:Hid (∀ y:Wd (Below X.heap.size X),Below w.heap.size w y.w):=fun y=>hb1.trans (y.ok.mono hb1.size)
 haveI inst2:Nonempty (Wd (Below X.heap.size X)):=⟨⟨X,Below.refl _ _⟩⟩
 have HC2:Hid (∀ W,Below w.heap.size w W->Calls Tryz.prog 115 #[ptr q] W fun e w'=>e=.returned (.slice (some ⟨lb,lf,none⟩) ll lc)/\Below W.heap.size W w'):=fun W hb=>(HC.out W hb).mono fun e w' h'=>⟨h'.1,by obtain ⟨m,hm⟩:=h'.2;rw [hm];exact drewN_up _ _⟩;refine wp_region_in (Below X.heap.size X) (by kernel_rfl) (by kernel_rfl) ((Below.refl _ _).drew) ?_
 repeat (first|go_big_quiet_step ((first|(go_at_call 115;exact calls_in (Nat.le_refl _) _ (HC2.out _ (HY.out _)))|(go_at_call 114;exact calls_in (Nat.le_refl _) _ (HP.out _ (HY.out _))))))
 refine wpQuiet_nil ?_;rintro _ ⟨y,rfl⟩;have hy:=HY.out y;clear e0 k0 k1 k2 k3 k4;go_wp2_with fail
 go_ret
 exact ⟨rfl,hy⟩
theorem step_do (h:MM w q ps T M) (hlt:M.o<(listM ps M).length) (ht:trapB ps M=false) (hl:M.pr.length<1099511627776):Calls Tryz.prog 83 #[ptr q,.bool true] w fun e w'=>e=.returned (.bool true)/\∃ T',MR w' q ps T' (nextM ps M)/\Tn w T w' T':=by
 obtain ⟨b,f,bc,po,pc,x,p,hS⟩:=h.std;have HL:Hid (∀ W,Below w.heap.size w W->Calls Tryz.prog 113 #[ptr q] W fun e w'=>e=.returned (.agg #[.int .i64 (M.b:Int),.bool M.y,.int .i64 ((lst x M.y).length:Int)])/\Below W.heap.size W w'):=fun W hb=>(hS.up hb).end_;have HM:Hid (∀ W,Below w.heap.size w W->W.cell? ⟨q,329,none⟩=some (.int .i64 (M.b:Int))/\W.cell? ⟨q,330,none⟩=some (.bool M.y)/\W.cell? ⟨q,331,none⟩=some (.int .i64 (M.o:Int))):=fun W hb'=>⟨(hS.up hb').at_.b,(hS.up hb').at_.y,(hS.up hb').at_.o⟩;have hq:=hS.at_.lt;have hlt':M.o<(lst x M.y).length:=by rw [<- hS.list];omega
 obtain ⟨lb,lf,hla,hlz,hox⟩:=hS.ops.is (by omega);obtain ⟨o,ho⟩:∃ o,(lst x M.y)[M.o]=o:=⟨_,rfl⟩;have hOk:OkM o:=hS.xm.lst (y:=M.y) (by rw [<- ho];exact List.getElem_mem hlt');have hOA:OAt w lb (lf+M.o*5) o:=by have:=hox M.o hlt';rw [ho] at this;exact this
 have hget:(listM ps M)[M.o]?=some o:=by rw [hS.list,List.getElem?_eq_getElem hlt',ho]
 have hto:trapO o M=false:=by unfold trapB at ht;rw [hget] at ht;exact ht
 have HP:Hid (∀ W,Below w.heap.size w W->Calls Tryz.prog 114 #[ptr q,o.val,.bool true] W fun e w'=>e=.returned (.bool true)/\∃ T',MR w' q ps T' (opM o M)/\Tn W T w' T'):=fun W hb=>doOp_yes o (h.up hb) hOk hto hl;have hn:nextM ps M=opM o M:=next_op hS.lt (by rw [hS.get,List.getElem?_eq_getElem hlt',ho]);rw [hn];clear hto ht hl hn;generalize opM o M=M2 at *;have HC:Hid (∀ W,Below w.heap.size w W->Calls Tryz.prog 115 #[ptr q] W fun e w'=>e=.returned (.slice (some ⟨lb,lf,none⟩) (lst x M.y).length (lC p M.y))/\∃ m,w'=W.drewN m):=fun W hb=>by
  have:=list_any (hS.up hb).at_ (hS.up hb).bk hS.lt
  rw [hla] at this;exact this
 have HO:Hid (∀ W,Below w.heap.size w W->OAt W lb (lf+M.o*5) o):=fun W hb=>hOA.below hb hlz;have hne:¬ (M.o:Int)=((lst x M.y).length:Int):=by omega
 have hlen:((lst x M.y).length:Int)<=8796093022208:=by have:=hS.ops.len;omega
 clear h hlt hS hla hox ho hOk hOA hget;generalize (lst x M.y).length=ll at *;generalize lC p M.y=lc at *;generalize M.b=mb at *;generalize M.y=my at *;generalize M.o=mo at *;go_enter Tryz.func83,Tryz.ntmps83;go_wp2_with fail
 have e0:∀ z:Wd (Below w.heap.size w),z.w.cell? ⟨q,329,none⟩=some (.int .i64 (mb:Int)):=fun z=>(HM.out z.w z.ok).1;have e1:∀ z:Wd (Below w.heap.size w),z.w.cell? ⟨q,330,none⟩=some (.bool my):=fun z=>(HM.out z.w z.ok).2.1;have e2:∀ z:Wd (Below w.heap.size w),z.w.cell? ⟨q,331,none⟩=some (.int .i64 (mo:Int)):=fun z=>(HM.out z.w z.ok).2.2
 haveI inst:Nonempty (Wd (Below w.heap.size w)):=⟨⟨w,Below.refl _ _⟩⟩
 have HX:Hid (∀ z:Wd (Below w.heap.size w),Below w.heap.size w z.w):=fun z=>z.ok;refine wp_region_in (Below w.heap.size w) (by kernel_rfl) (by kernel_rfl) ((Below.refl _ _).drew) ?_
 repeat (first|go_big_quiet_step ((go_at_call 113;exact calls_in (Nat.le_refl _) _ (HL.out _ (HX.out _)))))
 refine wpQuiet_nil ?_;rintro _ ⟨z,rfl⟩;have hx:=z.ok;clear e0 e1 e2;have hb1:Below w.heap.size w z.w:=hx;go_wp2_with fail
 generalize z.w=X at *;have HF:Hid (∀ n,Below w.heap.size w (X.drew.drewN n)):=fun n=>drewN_below (hb1.trans ((drew_up X).mono hb1.size)) n;have e0:=(HM.out X hb1).2.2;have q1:q<X.heap.size:=Nat.lt_of_lt_of_le hq hb1.size;have l1:lb<X.heap.size:=Nat.lt_of_lt_of_le hlz hb1.size;obtain ⟨k0,k1,k2,k3,k4⟩:=HO.out X hb1;have HE:Hid (Below w.heap.size w X):=hb1;clear HL HM HO hx hb1 HX
 go_region_with (first
  | (go_at_call 115;refine Calls.mono (HC.out _ (HE.out.trans ((drew_up X).mono HE.out.size))) ?_;rintro e w2 ⟨rfl,m,hm⟩;subst hm)
  | (go_at_call 114;refine Calls.mono (HP.out _ (drewN_below HE.out _)) ?_;rintro e w3 ⟨rfl,T',hm,htn⟩;have HR:Hid (MR w3 q ps T' M2/\Tn w T w3 T'):=⟨hm,(Tn.of (drewN_below HE.out _)).trans htn⟩;clear hm htn))
 all_goals
  go_wp2_with fail
  go_ret
  exact ⟨rfl,T',HR.out⟩
theorem step_trap (h:MM w q ps T M) (ht:trapB ps M=true) (may:Bool):Calls Tryz.prog 83 #[ptr q,.bool may] w fun e w'=>e=.panicked [{ v:=.iface 140 (.agg #[.int .i64 101]),recovered:=false }]/\Below w.heap.size w w':=by
 have hlt:M.o<(listM ps M).length:=by
  rcases Nat.lt_or_ge M.o (listM ps M).length with h' | h'
  ·exact h'
  ·unfold trapB at ht;rw [List.getElem?_eq_none h'] at ht;cases ht
 obtain ⟨b,f,bc,po,pc,x,p,hS⟩:=h.std;have HL:Hid (∀ W,Below w.heap.size w W->Calls Tryz.prog 113 #[ptr q] W fun e w'=>e=.returned (.agg #[.int .i64 (M.b:Int),.bool M.y,.int .i64 ((lst x M.y).length:Int)])/\Below W.heap.size W w'):=fun W hb=>(hS.up hb).end_;have HM:Hid (∀ W,Below w.heap.size w W->W.cell? ⟨q,329,none⟩=some (.int .i64 (M.b:Int))/\W.cell? ⟨q,330,none⟩=some (.bool M.y)/\W.cell? ⟨q,331,none⟩=some (.int .i64 (M.o:Int))):=fun W hb'=>⟨(hS.up hb').at_.b,(hS.up hb').at_.y,(hS.up hb').at_.o⟩;have hq:=hS.at_.lt;have hlt':M.o<(lst x M.y).length:=by rw [<- hS.list];omega
 obtain ⟨lb,lf,hla,hlz,hox⟩:=hS.ops.is (by omega);obtain ⟨o,ho⟩:∃ o,(lst x M.y)[M.o]=o:=⟨_,rfl⟩;have hOk:OkM o:=hS.xm.lst (y:=M.y) (by rw [<- ho];exact List.getElem_mem hlt');have hOA:OAt w lb (lf+M.o*5) o:=by have:=hox M.o hlt';rw [ho] at this;exact this
 have hget:(listM ps M)[M.o]?=some o:=by rw [hS.list,List.getElem?_eq_getElem hlt',ho]
 have hto:trapO o M=true:=by unfold trapB at ht;rw [hget] at ht;exact ht
 have HP:Hid (∀ W,Below w.heap.size w W->Calls Tryz.prog 114 #[ptr q,o.val,.bool may] W fun e w'=>e=.panicked [{ v:=.iface 140 (.agg #[.int .i64 101]),recovered:=false }]/\Below W.heap.size W w'):=fun W hb=>doOp_trap o (h.up hb) hOk hto may;clear hto ht;have HC:Hid (∀ W,Below w.heap.size w W->Calls Tryz.prog 115 #[ptr q] W fun e w'=>e=.returned (.slice (some ⟨lb,lf,none⟩) (lst x M.y).length (lC p M.y))/\∃ m,w'=W.drewN m):=fun W hb=>by
  have:=list_any (hS.up hb).at_ (hS.up hb).bk hS.lt
  rw [hla] at this;exact this
 have HO:Hid (∀ W,Below w.heap.size w W->OAt W lb (lf+M.o*5) o):=fun W hb=>hOA.below hb hlz;have hne:¬ (M.o:Int)=((lst x M.y).length:Int):=by omega
 have hlen:((lst x M.y).length:Int)<=8796093022208:=by have:=hS.ops.len;omega
 clear h hlt hS hla hox ho hOk hOA hget;generalize (lst x M.y).length=ll at *;generalize lC p M.y=lc at *;generalize M.b=mb at *;generalize M.y=my at *;generalize M.o=mo at *;go_enter Tryz.func83,Tryz.ntmps83;go_wp2_with fail
 have e0:∀ z:Wd (Below w.heap.size w),z.w.cell? ⟨q,329,none⟩=some (.int .i64 (mb:Int)):=fun z=>(HM.out z.w z.ok).1;have e1:∀ z:Wd (Below w.heap.size w),z.w.cell? ⟨q,330,none⟩=some (.bool my):=fun z=>(HM.out z.w z.ok).2.1;have e2:∀ z:Wd (Below w.heap.size w),z.w.cell? ⟨q,331,none⟩=some (.int .i64 (mo:Int)):=fun z=>(HM.out z.w z.ok).2.2
 haveI inst:Nonempty (Wd (Below w.heap.size w)):=⟨⟨w,Below.refl _ _⟩⟩
 have HX:Hid (∀ z:Wd (Below w.heap.size w),Below w.heap.size w z.w):=fun z=>z.ok;refine wp_region_in (Below w.heap.size w) (by kernel_rfl) (by kernel_rfl) ((Below.refl _ _).drew) ?_
 repeat (first|go_big_quiet_step ((go_at_call 113;exact calls_in (Nat.le_refl _) _ (HL.out _ (HX.out _)))))
 refine wpQuiet_nil ?_;rintro _ ⟨z,rfl⟩;have hx:=z.ok;clear e0 e1 e2;have hb1:Below w.heap.size w z.w:=hx;go_wp2_with fail
 generalize z.w=X at *;have HE:Hid (Below w.heap.size w X.drew):=hb1.trans ((drew_up X).mono hb1.size);have HS:Hid (∀ W,Below w.heap.size w W->W.cell? ⟨q,331,none⟩=some (.int .i64 (mo:Int))/\W.cell? ⟨lb,lf+mo*5,none⟩=some (.int .i8 o.op)/\W.cell? ⟨lb,lf+mo*5+1,none⟩=some (.int .u8 o.d)/\W.cell? ⟨lb,lf+mo*5+2,none⟩=some (.int .u8 o.a)/\W.cell? ⟨lb,lf+mo*5+3,none⟩=some (.int .u8 o.b)/\W.cell? ⟨lb,lf+mo*5+4,none⟩=some (.int .i64 o.im)):=fun W hb=>⟨(HM.out W hb).2.2,(HO.out W hb).c0,(HO.out W hb).c1,(HO.out W hb).c2,(HO.out W hb).c3,(HO.out W hb).c4⟩;clear HL HM HO hx hb1 HX;refine wp_region_held_drew (S:=fun W=>W.cell? ⟨q,331,none⟩=some (.int .i64 (mo:Int))/\W.cell? ⟨lb,lf+mo*5,none⟩=some (.int .i8 o.op)/\W.cell? ⟨lb,lf+mo*5+1,none⟩=some (.int .u8 o.d)/\W.cell? ⟨lb,lf+mo*5+2,none⟩=some (.int .u8 o.a)/\W.cell? ⟨lb,lf+mo*5+3,none⟩=some (.int .u8 o.b)/\W.cell? ⟨lb,lf+mo*5+4,none⟩=some (.int .i64 o.im)) (by kernel_rfl) (HS.out _ HE.out) (fun zH=>?_);refine wt 0 (ptr q) rfl (fun w' hSw=>by (obtain ⟨s0,s1,s2,s3,s4,s5⟩:=hSw;go_simp)) zH ?_;simp only [pq];refine wt 1 (ptr q) rfl (fun w' hSw=>by (obtain ⟨s0,s1,s2,s3,s4,s5⟩:=hSw;go_simp)) zH ?_;simp only [pq];refine wt 3 (ptr q) rfl (fun w' hSw=>by (obtain ⟨s0,s1,s2,s3,s4,s5⟩:=hSw;go_simp)) zH ?_;simp only [pq];refine wt 4 (ptr q) rfl (fun w' hSw=>by (obtain ⟨s0,s1,s2,s3,s4,s5⟩:=hSw;go_simp)) zH ?_;simp only [pq];refine wt 5 (.pointer (some ⟨q,329,none⟩)) rfl (fun w' hSw=>by (obtain ⟨s0,s1,s2,s3,s4,s5⟩:=hSw;go_simp)) zH ?_;simp only [pq];refine wt 6 (.pointer (some ⟨q,331,none⟩)) rfl (fun w' hSw=>by (obtain ⟨s0,s1,s2,s3,s4,s5⟩:=hSw;go_simp)) zH ?_;simp only [pq];refine wt 7 (.int .i64 (mo:Int)) rfl (fun w' hSw=>by (obtain ⟨s0,s1,s2,s3,s4,s5⟩:=hSw;go_simp)) zH ?_;simp only [pq];refine wt 10 (.bool may) rfl (fun w' hSw=>by (obtain ⟨s0,s1,s2,s3,s4,s5⟩:=hSw;go_simp)) zH ?_;simp only [pq];refine wpAnyH_ready (rs:=[2]) (by kernel_rfl) (by simp) ?_;refine AllReadyH.cons rfl (fun K hK=>?_) AllReadyH.nil;go_simp
 refine Calls.mono (HC.out _ HE.out) ?_;rintro e w2 ⟨rfl,m,hm⟩;have HE2:Hid (Below w.heap.size w w2):=by rw [hm];exact drewN_below HE.out _
 clear hm;refine hK.out _ _ (HS.out _ HE2.out) (fun zH=>?_);clear hK K;refine wt 8 (.pointer (some ⟨lb,lf+mo*5,none⟩)) rfl (fun w' hSw=>by (obtain ⟨s0,s1,s2,s3,s4,s5⟩:=hSw;go_simp)) zH ?_;simp only [pq];refine wt 9 (o.val) rfl (fun w' hSw=>by (obtain ⟨s0,s1,s2,s3,s4,s5⟩:=hSw;go_simp)) zH ?_;simp only [pq];refine wpAnyH_ready (rs:=[11]) (by kernel_rfl) (by simp) ?_;refine AllReadyH.cons rfl (fun K hK=>?_) AllReadyH.nil;go_simp
 refine Calls.mono (HP.out _ HE2.out) ?_;rintro e w3 ⟨rfl,hb⟩;exact ⟨rfl,rfl,HE2.out.trans (hb.mono HE2.out.size)⟩
end
end Go.Proofs.YtcmlnemokckbdaaGreatDoor.L8.Sm
