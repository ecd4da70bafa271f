/- Parts QNj QNk QNp QNq. -/
import Derived.Test.YtcmlnemokckbdaaGreatDoorN47
import Derived.Defers
import Derived.Recover
set_option maxRecDepth 20000
set_option maxHeartbeats 4000000
namespace Go.Proofs.YtcmlnemokckbdaaGreatDoor.L8.Sm
open Go.ChangeShapes Go.WideShapes Go.ChangeAt Go.RowKit
open YtcmlnemokckbdaaGreatDoor.L8.Op YtcmlnemokckbdaaGreatDoor.L8.So
theorem ta_nil (w:World):(Instr.typeAssert .nilIface 20 140 true).run Tryz.prog w=.ok (.tuple #[.agg #[.int .i64 0],.bool false]) w:=by kernel_rfl
theorem ta_hit (w:World):(Instr.typeAssert (.iface 140 (.agg #[.int .i64 101])) 20 140 true).run Tryz.prog w=.ok (.tuple #[.agg #[.int .i64 101],.bool true]) w:=by kernel_rfl
theorem rep13:Array.replicate 13 undef=#[undef,undef,undef,undef,undef,undef,undef,undef,undef,undef,undef,undef,undef]:=rfl
theorem catch_idle (p:Addr) (w:World):CallsD Tryz.prog 82 #[.pointer (some p)] .returning w fun e u' w'=>e=.returned (.tuple #[])/\u' = .returning/\Below w.heap.size w w':=by
 refine callsD_of_wpS Tryz.func82 rfl fun c₀ cs hu=>?_;apply wpS_seq
 apply wpS_region
 simp [wpOpsS,go_sem,recoverD,hu,Tryz.ntmps82,Exit.thenS,ta_nil,Oper.upon,Result.andThen,rep13]
 apply wpS_seq
 apply wpS_region
 simp [wpOpsS,go_sem,Exit.thenS]
 refine wpS_cond (t:=false) (by simp [Act.eval]) ?_;simp only [Bool.false_eq_true,if_false];refine wpS_of_wp (wp_skip ?_)
 cases c₀
 simp_all [bodyPostS,results,Tryz.results82]
 exact (Below.refl _ _).alloc (Nat.le_refl _) _
theorem catch_panic (n q:Nat) (x:Value) (w:World) (hn:w.cell? ⟨n,0,none⟩=some (ptr q)) (hc:w.cell? ⟨q,333,none⟩=some x) (hz:w.frozen? ⟨q,333,none⟩=false) (h1:n<w.heap.size) (h2:q<w.heap.size):CallsD Tryz.prog 82 #[.pointer (some ⟨n,0,none⟩)] (.panicking [{ v:=.iface 140 (.agg #[.int .i64 101]),recovered:=false }]) w fun e u' w'=>e=.returned (.tuple #[])/\u' = .panicking [{ v:=.iface 140 (.agg #[.int .i64 101]),recovered:=true }]/\w'=(w.setCell ⟨q,333,none⟩ (.int .i64 101)).alloc (.cells #[.int .i64 101] 140):=by
 refine callsD_of_wpS Tryz.func82 rfl fun c₀ cs hu=>?_;apply wpS_seq
 apply wpS_region
 simp [wpOpsS,go_sem,recoverD,hu,Tryz.ntmps82,Exit.thenS,ta_hit,Oper.upon,Result.andThen,rep13]
 refine wpS_of_wp ?_;go_wp2_with fail
 simp [bodyPostS,results,Tryz.results82]
structure Gs (w wr:World) (q:Nat) (ps:List Bk) (T T1:Nat->Prop) (M1:Ma):Prop where
 mm:MM wr q ps T1 M1
 tn:Tn w T wr T1
 bx:wr.cell? ⟨w.heap.size,0,none⟩=some (ptr q)
 bl:w.heap.size<wr.heap.size
 bt:¬ T1 w.heap.size
theorem Gs.go {w wr w2:World} {q:Nat} {ps:List Bk} {T T1 T2:Nat->Prop} {M1 M2:Ma} (h:Gs w wr q ps T T1 M1) (hm:MM w2 q ps T2 M2) (htn:Tn wr T1 w2 T2):Gs w w2 q ps T T2 M2:=
 ⟨hm,h.tn.trans htn,(htn.f.cell h.bl h.bt 0).trans h.bx,Nat.lt_of_lt_of_le h.bl htn.f.size,fun h'=>(htn.t _ h').elim h.bt fun h''=>by have:=h.bl;omega⟩
theorem Gs.up {w wr w2:World} {q:Nat} {ps:List Bk} {T T1:Nat->Prop} {M1:Ma} (h:Gs w wr q ps T T1 M1) (hb:Below wr.heap.size wr w2):Gs w w2 q ps T T1 M1:=h.go (h.mm.up hb) (Tn.of hb)
theorem MR.mat' {w:World} {q:Nat} {ps:List Bk} {T:Nat->Prop} {M:Ma} (h:MR w q ps T M):w.cell? ⟨q,333,none⟩=some (.int .i64 M.e)/\w.cell? ⟨q,336,none⟩=some (.int .i64 (M.s:Int))/\(∀ j:Nat,w.frozen? ⟨q,j,none⟩=false)/\q<w.heap.size:=by
 obtain ⟨_,_,_,_,hA⟩:=h.mat;exact ⟨hA.e,hA.s,hA.fz,hA.lt⟩
theorem MR.setS {w:World} {q:Nat} {ps:List Bk} {T:Nat->Prop} {N:Ma} (h:MR w q ps T N) (k:Nat):MR (w.setCell ⟨q,336,none⟩ (.int .i64 (k:Int))) q ps T { N with s:=k }/\Tn w T (w.setCell ⟨q,336,none⟩ (.int .i64 (k:Int))) T:=by
 obtain ⟨ba,bc,po,pc,hM,hP,hR,hT⟩:=h.ex;exact mr_one hP hR hT h.tq h.tl (M':={ N with s:=k }) (hM.set_s k) ((Fr.refl (One q) w).setCell (.inr rfl) _ _) rfl
theorem MR.setE {w:World} {q:Nat} {ps:List Bk} {T:Nat->Prop} {N:Ma} (h:MR w q ps T N) (k:Int):MR (w.setCell ⟨q,333,none⟩ (.int .i64 k)) q ps T { N with e:=k }/\Tn w T (w.setCell ⟨q,333,none⟩ (.int .i64 k)) T:=by
 obtain ⟨ba,bc,po,pc,hM,hP,hR,hT⟩:=h.ex;exact mr_one hP hR hT h.tq h.tl (M':={ N with e:=k }) (hM.set_e k) ((Fr.refl (One q) w).setCell (.inr rfl) _ _) rfl
theorem step_more {w:World} {q:Nat} {ps:List Bk} {T:Nat->Prop} {M:Ma} (h:MM w q ps T M) (ht:trapB ps M=false) (hl:M.pr.length<1099511627776):Calls Tryz.prog 83 #[ptr q,.bool true] w fun e w'=>e=.returned (.bool true)/\∃ T',MR w' q ps T' (nextM ps M)/\Tn w T w' T':=by
 rcases Nat.lt_or_ge M.o (listM ps M).length with h1|h1
 ·exact step_do h h1 ht hl
 ·exact step_end h (Nat.le_antisymm h.inv.o h1)
theorem step_none {w:World} {q:Nat} {ps:List Bk} {T:Nat->Prop} {M:Ma} (h:MM w q ps T M) (ht:trapB ps M=false):Calls Tryz.prog 83 #[ptr q,.bool false] w fun e w'=>e=.returned (.bool false)/\Below w.heap.size w w':=by
 rcases Nat.lt_or_ge M.o (listM ps M).length with h1|h1
 ·exact step_wait h h1 ht
 ·exact step_stay h (Nat.le_antisymm h.inv.o h1)
theorem next_s (ps:List Bk) (M:Ma):(nextM ps M).s=M.s:=by
 unfold nextM
 split
 ·split
  ·unfold opM landO;(repeat' split) <;> rfl
  ·unfold endM toM;(repeat' split) <;> rfl
 ·rfl
theorem goOn_any {w:World} {q:Nat} {ps:List Bk} {T:Nat->Prop} {M:Ma} (n:Nat) (h:MM w q ps T M) (hb:M.s+n<=1000000000000):Calls Tryz.prog 39 #[ptr q,.int .i64 (n:Int)] w fun e w'=>e=.returned (.tuple #[])/\∃ T',MM w' q ps T' (runM ps n M)/\Tn w T w' T':=by
 have hmf:∀ (fn:Fn) (first cap:Array Value) (w:World),(Instr.makeFunc fn first cap).run Tryz.prog w=.ok (.func fn first cap) w:=fun _ _ _ _=>rfl;have hq:=h.mr.mat'.2.2.2;have HG:Hid (Gs w (w.alloc (.cells #[ptr q] 51)) q ps T T M):=⟨h.up ((Below.refl _ _).alloc (Nat.le_refl _) _),Tn.of ((Below.refl _ _).alloc (Nat.le_refl _) _),(Op.At.new w #[ptr q] 51).c 0 _ rfl,by simp,fun h'=>Nat.lt_irrefl _ (h.mr.tl _ h')⟩;clear h
 go_enter_defers Tryz.func39,Tryz.ntmps39
 go_wp2_with fail
 go_loopw [1] (fun i wr=>∃ (k:Nat) (T1:Nat->Prop) (M1:Ma),i=.int .i64 k/\Gs w wr q ps T T1 M1/\runM ps k M1=runM ps n M/\M1.s+k<=1000000000000) (fun i _=>(intOf i).toNat)
 case atStart=>exact ⟨n,T,M,rfl,HG.out,rfl,hb⟩
 case round=>
  rename_i wr;obtain ⟨k,T1,M1,rfl,hg,hrun,hbd⟩:=hrel;obtain ⟨me,ms,mf,mq⟩:=hg.mm.mr.mat';have bx:=hg.bx;have bl:=hg.bl
  by_cases he:M1.e=100
  ·rw [he] at me
   cases ht:trapB ps M1
   ·cases k with
    | zero=>
     have HN:Hid _:=step_none hg.mm ht;have HW:Hid _:=hg;have HF:Hid (runM ps 0 M1=runM ps n M):=hrun;have HZ:Hid (M1.e=100/\trapB ps M1=false):=⟨he,ht⟩;clear hg hrun hbd HG he ht;go_wp2_with (first|(go_at_call 83;refine Calls.mono HN.out ?_;rintro e w1 ⟨rfl,hb1⟩;have HY:Hid (Gs w w1 q ps T T1 M1):=HW.out.up hb1;clear hb1))
     refine leaves_cons (f:=82) (args:=#[.pointer (some ⟨w.heap.size,0,none⟩)]) (by simp) (by simp [go_sem]) ?_;refine (catch_idle ⟨w.heap.size,0,none⟩ _).mono ?_;rintro e u' w'' ⟨rfl,rfl,hb2⟩;have hy:=HY.out.up hb2;simp [Leaves,settle,results,Tryz.results39,go_sem]
     exact ⟨T1,by rw [<- HF.out];rw [show runM ps 0 M1=M1 by simp [runM,HZ.out.1,HZ.out.2]];exact hy.mm,hy.tn⟩
    | succ k=>
     have HN:Hid _:=step_more hg.mm ht (by have:=hg.mm.inv.p;omega);have HW:Hid _:=hg;have HF:Hid (runM ps k (stepM ps M1)=runM ps n M):=by
      have e:runM ps (k+1) M1=runM ps k (stepM ps M1):=by simp [runM,he,ht]
      show runM ps k (stepM ps M1)=runM ps n M;rw [<- e];exact hrun
     have hs1:(M1.s:Int)+(k:Int)<=1000000000000:=by omega
     have HI:Hid (Inv ps (stepM ps M1)/\PsM ps/\M1.s+1+k<=1000000000000):=⟨inv_step hg.mm.ps hg.mm.inv,hg.mm.ps,by omega⟩;have HS:Hid ((nextM ps M1).s=M1.s):=next_s ps M1;have hk0:(0:Int)<((k+1:Nat):Int):=by omega
     have hkc:((k+1:Nat):Int)=(k:Int)+1:=by omega
     clear hg hrun hbd HG he ht;rw [hkc] at hk0 ⊢;clear hkc;go_wp2_with (first|(go_at_call 83;refine Calls.mono HN.out ?_;rintro e w1 ⟨rfl,T2,hm,htn⟩;have HY:Hid (MR w1 q ps T2 (nextM ps M1)/\Tn wr T1 w1 T2):=⟨hm,htn⟩;have m1:=hm.mat';rw [HS.out] at m1;obtain ⟨-,m2,m3,m4⟩:=m1;have bx2:=(htn.f.cell HW.out.bl HW.out.bt 0).trans HW.out.bx;clear hm htn bx))
     go_roundw
     case rel=>
      have hh:=HY.out.1.setS (M1.s+1);have hw:MM (w1.setCell ⟨q,336,none⟩ (.int .i64 ((M1.s+1:Nat):Int))) q ps T2 (stepM ps M1):=⟨hh.1,HI.out.1,HI.out.2.1⟩;refine ⟨k,T2,stepM ps M1,by go_num,HW.out.go (by simpa using hw) (by simpa using HY.out.2.trans hh.2),HF.out,HI.out.2.2⟩
     case measure=>simp [intOf]
   ·have HN:Hid (∀ may,Calls Tryz.prog 83 #[ptr q,.bool may] wr fun e w'=>e=.panicked [{ v:=.iface 140 (.agg #[.int .i64 101]),recovered:=false }]/\Below wr.heap.size wr w'):=fun may=>step_trap hg.mm ht may;have HW:Hid _:=hg;have HF:Hid (runM ps k M1=runM ps n M):=hrun;have HZ:Hid (runM ps k M1 = { M1 with e:=101 }):=by show runM ps k M1 = { M1 with e:=101 };cases k <;> simp [runM,he,ht]
    clear hg hrun hbd HG he ht;go_wp2_with (first|(go_at_call 83;refine Calls.mono (HN.out _) ?_;rintro e w1 ⟨rfl,hb1⟩;have HY:Hid (Gs w w1 q ps T T1 M1):=HW.out.up hb1;clear hb1))
    all_goals
     have hy:=HY.out;obtain ⟨me2,ms2,mf2,mq2⟩:=hy.mm.mr.mat';refine leaves_cons (f:=82) (args:=#[.pointer (some ⟨w.heap.size,0,none⟩)]) (by simp) (by simp [go_sem]) ?_;refine (catch_panic w.heap.size q _ _ hy.bx me2 (mf2 _) hy.bl mq2).mono ?_;rintro e u' w'' ⟨rfl,rfl,rfl⟩;simp [Leaves,settle,results,Tryz.results39,go_sem]
     have h5:=hy.mm.mr.setE 101;have hbb:=(Below.refl (w1.setCell ⟨q,333,none⟩ (.int .i64 101)).heap.size (w1.setCell ⟨q,333,none⟩ (.int .i64 101))).alloc (Nat.le_refl _) (.cells #[.int .i64 101] 140);refine ⟨T1,?_,(hy.tn.trans h5.2).trans (Tn.of hbb)⟩;rw [<- HF.out,HZ.out];exact MM.up ⟨h5.1,inv_trap hy.mm.inv 101,hy.mm.ps⟩ hbb
  ·have HW:Hid _:=hg;have HF:Hid (runM ps k M1=runM ps n M):=hrun;have HZ:Hid (runM ps k M1=M1):=run_over he k;have he':(M1.e==100)=false:=by simpa using he
   clear hg hrun hbd HG he;go_wp2_with fail
   have HY:Hid (Gs w wr q ps T T1 M1):=HW.out;refine leaves_cons (f:=82) (args:=#[.pointer (some ⟨w.heap.size,0,none⟩)]) (by simp) (by simp [go_sem]) ?_;refine (catch_idle ⟨w.heap.size,0,none⟩ _).mono ?_;rintro e u' w'' ⟨rfl,rfl,hb2⟩;have hy:=HY.out.up hb2;simp [Leaves,settle,results,Tryz.results39,go_sem]
   exact ⟨T1,by rw [<- HF.out];rw [HZ.out];exact hy.mm,hy.tn⟩
structure NL (w:World) (ao:Option Addr) (l:List Int):Prop where
 is:0<l.length->∃ b f,ao=some ⟨b,f,none⟩/\b<w.heap.size/\∀ (i:Nat) (h:i<l.length),w.cell? ⟨b,f+i,none⟩=some (.int .i64 l[i])
theorem NL.up {w w':World} {ao:Option Addr} {l:List Int} (h:NL w ao l) (hb:Below w.heap.size w w'):NL w' ao l:=by
 refine ⟨fun h0=>?_⟩;obtain ⟨b,f,e,z,hc⟩:=h.is h0;exact ⟨b,f,e,Nat.lt_of_lt_of_le z hb.size,fun i hi=>by rw [(bcell hb).1 _ _ z];exact hc i hi⟩
theorem NL.fr {X:Nat->Prop} {w w':World} {ao:Option Addr} {l:List Int} (h:NL w ao l) (g:Fr X w w') (hf:0<l.length->∀ a,ao=some a->¬ X a.block):NL w' ao l:=by
 refine ⟨fun h0=>?_⟩;obtain ⟨b,f,e,z,hc⟩:=h.is h0;exact ⟨b,f,e,Nat.lt_of_lt_of_le z g.size,fun i hi=>(g.cell z (hf h0 _ e) _).trans (hc i hi)⟩
theorem add_at' (b f j:Nat):(⟨b,f,none⟩:Addr).add j=⟨b,f+j,none⟩:=by simp [Addr.add]
theorem nums_get (l:List Int) (i:Nat) (h:i<l.length):(nums l)[i]?=some (.int .i64 l[i]):=by simp [nums,h]
theorem nums_len (l:List Int):(nums l).length=l.length*1:=by simp [nums]
theorem nums_one (l:List Int):∀ u,u∈nums l->u.oneCell'=true:=fun u hu=>by
 obtain ⟨x,_,rfl⟩:=List.mem_map.1 hu;rfl
theorem nl_row {w:World} {B c:Nat} {a:Option Addr} {l:List Int} (h:w.ownsRow B 2 1 (.slice a l.length c) l.length (nums l)):NL w a l:=by
 refine ⟨fun h0=>?_⟩;rcases h.2 with ⟨_,h1⟩|⟨g,cap,cur,h1,h2,h3,h4⟩
 ·omega
 ·injection h1 with e1 e2 e3
  subst e1;have hc:=h.cells (g:=g) rfl;refine ⟨g,0,rfl,(h.lt g rfl).2,fun i hi=>?_⟩
  have:=hc i _ (nums_get l i hi)
  rw [add_at'] at this;exact this
theorem nl_cells {w:World} {b f:Nat} {l:List Int} (hc:∀ (i:Nat) (h:i<l.length),w.cell? ⟨b,f+i,none⟩=some (.int .i64 l[i])):∀ j u,(nums l)[j]?=some u->w.cell? ((⟨b,f,none⟩:Addr).add j)=some u:=fun j u hu=>by
 have hj:j<l.length:=by
  rcases Nat.lt_or_ge j l.length with h|h
  ·exact h
  ·rw [List.getElem?_eq_none (by simp [nums];omega)] at hu;cases hu
 rw [nums_get l j hj] at hu
 cases hu
 rw [add_at'];exact hc j hj
structure Cf (w w':World) (E:TypeId) (z:Nat) (v:Value) (n:Nat) (cs:List Value):Prop where
 r:w'.ownsRow w.heap.size E z v n cs
 b:Below w.heap.size w w'
theorem eq_nil25' (a:Addr) (n cap:Nat) (w:World):(binOp .eql 48 (.slice (some a) n cap) (.slice none 0 0)).run Tryz.prog w=.ok (.bool false) w:=by kernel_rfl
theorem eq_none25' (w:World):(binOp .eql 48 (.slice none 0 0) (.slice none 0 0)).run Tryz.prog w=.ok (.bool true) w:=by kernel_rfl
theorem cloneN_some (a:Addr) (n cap:Nat) (cs:List Value) (w:World) (hl:n<=1000000000000) (hc:cs.length=n*1) (h1:∀ u,u∈cs->u.oneCell'=true) (hn:∀ j u,cs[j]?=some u->w.cell? (a.add j)=some u) :
  Calls Tryz.prog 41 #[.slice (some a) n cap] w fun e w'=>∃ r c,e=.returned (.slice r n c)/\w'.ownsRow w.heap.size 2 1 (.slice r n c) n cs/\Below w.heap.size w w':=by
 obtain ⟨i0,hi,hi2⟩:=Option.map_eq_some_iff.1 info2;simp only [Prod.mk.injEq] at hi2;obtain ⟨hz0,hz1,hz2⟩:=hi2;have HI:Hid (Tryz.prog.info? 2=some i0/\i0.zero=some (.int .i64 0)/\i0.size=1/\i0.bytes=8):=⟨hi,hz0,hz1,hz2⟩;clear hi hz0 hz1 hz2;have HN:Hid _:=hn;have H1:Hid _:=h1;clear hn h1;have hnil:=eq_nil25' a n cap;go_enter Tryz.func41,Tryz.ntmps41;go_wp2_with (first
  | (at_builtin;refine wpList_append_own _ rfl (.tmp 5) (.tmp 6) 48 rfl w.heap.size 2 i0 (.int .i64 0) 1 8 Tryz.underlying48 HI.out.1 HI.out.2.1 HI.out.2.2.1 HI.out.2.2.2 rfl (by decide) _ 0 [] rfl ?ho a n cap cs rfl hc ?hn H1.out (by unfold maxLen;omega) (by omega) (by simp) ?_;(case ho=>exact World.ownsRow_made w #[] 0 (Nat.le_refl _) (by decide) rfl);(case hn=>exact fun j u hj=>(World.cell?_alloc_some _ _ _ (by rw [HN.out j u hj];rfl)).trans (HN.out j u hj));intro v' w2 hown2 hgrow2 hnil2;have HF:Hid (Cf w w2 2 1 v' n cs):=⟨(by have:=hown2;simp only [Nat.zero_add,List.nil_append] at this;exact this),((Below.refl _ _).alloc (Nat.le_refl _) _).grown hgrow2 (by simp) (fun b hb=>by cases hb;exact Nat.le_refl _)⟩;clear hown2 hgrow2 hnil2))
 go_ret
 obtain ⟨h1,hb⟩:=HF.out;rcases h1.2 with ⟨rfl,h0⟩|⟨g,c,cur,rfl,_⟩
 ·exact ⟨none,0,by rw [h0];rfl,by rw [h0] at h1 ⊢;exact h1,hb⟩
 ·exact ⟨_,_,rfl,h1,hb⟩
theorem cloneN_none (w:World):Calls Tryz.prog 41 #[.slice none 0 0] w fun e w'=>e=.returned (.slice none 0 0)/\w'=w:=by
 have hnil:=eq_none25';go_enter Tryz.func41,Tryz.ntmps41;go_wp2_with fail
 go_ret
 exact ⟨rfl,rfl⟩
theorem eq_nil54' (a:Addr) (n cap:Nat) (w:World):(binOp .eql 22 (.slice (some a) n cap) (.slice none 0 0)).run Tryz.prog w=.ok (.bool false) w:=by kernel_rfl
theorem info60:(Tryz.prog.info? 60).map (fun i=>(i.zero,i.size,i.bytes))=some (some (.agg #[.int .i8 0,.int .u8 0,.int .u8 0,.int .u8 0,.int .i64 0]),5,16):=by kernel_rfl
theorem cloneO_some (a:Addr) (n cap:Nat) (cs:List Value) (w:World) (hl:n<=1000000000000) (hc:cs.length=n*5) (h1:∀ u,u∈cs->u.oneCell'=true) (hn:∀ j u,cs[j]?=some u->w.cell? (a.add j)=some u) :
  Calls Tryz.prog 69 #[.slice (some a) n cap] w fun e w'=>∃ r c,e=.returned (.slice r n c)/\w'.ownsRow w.heap.size 60 5 (.slice r n c) n cs/\Below w.heap.size w w':=by
 obtain ⟨i0,hi,hi2⟩:=Option.map_eq_some_iff.1 info60;simp only [Prod.mk.injEq] at hi2;obtain ⟨hz0,hz1,hz2⟩:=hi2;have HI:Hid (Tryz.prog.info? 60=some i0/\i0.zero=some (.agg #[.int .i8 0,.int .u8 0,.int .u8 0,.int .u8 0,.int .i64 0])/\i0.size=5/\i0.bytes=16):=⟨hi,hz0,hz1,hz2⟩;clear hi hz0 hz1 hz2;have HN:Hid _:=hn;have H1:Hid _:=h1;clear hn h1;have hnil:=eq_nil54' a n cap;go_enter Tryz.func69,Tryz.ntmps69;go_wp2_with (first
  | (at_builtin;refine wpList_append_own _ rfl (.tmp 5) (.tmp 6) 22 rfl w.heap.size 60 i0 (.agg #[.int .i8 0,.int .u8 0,.int .u8 0,.int .u8 0,.int .i64 0]) 5 16 Tryz.underlying22 HI.out.1 HI.out.2.1 HI.out.2.2.1 HI.out.2.2.2 rfl (by decide) _ 0 [] rfl ?ho a n cap cs rfl hc ?hn H1.out (by unfold maxLen;omega) (by omega) (by simp) ?_;(case ho=>exact World.ownsRow_made w #[] 0 (Nat.le_refl _) (by decide) rfl);(case hn=>exact fun j u hj=>(World.cell?_alloc_some _ _ _ (by rw [HN.out j u hj];rfl)).trans (HN.out j u hj));intro v' w2 hown2 hgrow2 hnil2;have HF:Hid (Cf w w2 60 5 v' n cs):=⟨(by have:=hown2;simp only [Nat.zero_add,List.nil_append] at this;exact this),((Below.refl _ _).alloc (Nat.le_refl _) _).grown hgrow2 (by simp) (fun b hb=>by cases hb;exact Nat.le_refl _)⟩;clear hown2 hgrow2 hnil2))
 go_ret
 obtain ⟨h1,hb⟩:=HF.out;rcases h1.2 with ⟨rfl,h0⟩|⟨g,c,cur,rfl,_⟩
 ·exact ⟨none,0,by rw [h0];rfl,by rw [h0] at h1 ⊢;exact h1,hb⟩
 ·exact ⟨_,_,rfl,h1,hb⟩
theorem eq_nil22' (a:Addr) (n cap:Nat) (w:World):(binOp .eql 38 (.slice (some a) n cap) (.slice none 0 0)).run Tryz.prog w=.ok (.bool false) w:=by kernel_rfl
theorem info25:(Tryz.prog.info? 25).map (fun i=>(i.zero,i.size,i.bytes))=some (some (.agg #[.slice none 0 0,.int .i8 0,.int .u8 0,.slice none 0 0,.int .i64 0,.int .i64 0]),6,72):=by kernel_rfl
theorem cloneB_some (a:Addr) (n cap:Nat) (cs:List Value) (w:World) (hl:n<=1000000000000) (hc:cs.length=n*6) (h1:∀ u,u∈cs->u.oneCell'=true) (hn:∀ j u,cs[j]?=some u->w.cell? (a.add j)=some u) :
  Calls Tryz.prog 68 #[.slice (some a) n cap] w fun e w'=>∃ r c,e=.returned (.slice r n c)/\w'.ownsRow w.heap.size 25 6 (.slice r n c) n cs/\Below w.heap.size w w':=by
 obtain ⟨i0,hi,hi2⟩:=Option.map_eq_some_iff.1 info25;simp only [Prod.mk.injEq] at hi2;obtain ⟨hz0,hz1,hz2⟩:=hi2;have HI:Hid (Tryz.prog.info? 25=some i0/\i0.zero=some (.agg #[.slice none 0 0,.int .i8 0,.int .u8 0,.slice none 0 0,.int .i64 0,.int .i64 0])/\i0.size=6/\i0.bytes=72):=⟨hi,hz0,hz1,hz2⟩;clear hi hz0 hz1 hz2;have HN:Hid _:=hn;have H1:Hid _:=h1;clear hn h1;have hnil:=eq_nil22' a n cap;go_enter Tryz.func68,Tryz.ntmps68;go_wp2_with (first
  | (at_builtin;refine wpList_append_own _ rfl (.tmp 5) (.tmp 6) 38 rfl w.heap.size 25 i0 (.agg #[.slice none 0 0,.int .i8 0,.int .u8 0,.slice none 0 0,.int .i64 0,.int .i64 0]) 6 72 Tryz.underlying38 HI.out.1 HI.out.2.1 HI.out.2.2.1 HI.out.2.2.2 rfl (by decide) _ 0 [] rfl ?ho a n cap cs rfl hc ?hn H1.out (by unfold maxLen;omega) (by omega) (by simp) ?_;(case ho=>exact World.ownsRow_made w #[] 0 (Nat.le_refl _) (by decide) rfl);(case hn=>exact fun j u hj=>(World.cell?_alloc_some _ _ _ (by rw [HN.out j u hj];rfl)).trans (HN.out j u hj));intro v' w2 hown2 hgrow2 hnil2;have HF:Hid (Cf w w2 25 6 v' n cs):=⟨(by have:=hown2;simp only [Nat.zero_add,List.nil_append] at this;exact this),((Below.refl _ _).alloc (Nat.le_refl _) _).grown hgrow2 (by simp) (fun b hb=>by cases hb;exact Nat.le_refl _)⟩;clear hown2 hgrow2 hnil2))
 go_ret
 obtain ⟨h1,hb⟩:=HF.out;rcases h1.2 with ⟨rfl,h0⟩|⟨g,c,cur,rfl,_⟩
 ·exact ⟨none,0,by rw [h0];rfl,by rw [h0] at h1 ⊢;exact h1,hb⟩
 ·exact ⟨_,_,rfl,h1,hb⟩
structure Fresh (w w':World) (a:Option Addr) (l:List Int):Prop where
 nl:NL w' a l
 up:Below w.heap.size w w'
 new:0<l.length->∀ x,a=some x->w.heap.size<=x.block
theorem fresh_of {w w':World} {r:Option Addr} {c:Nat} {l:List Int} (h:w'.ownsRow w.heap.size 2 1 (.slice r l.length c) l.length (nums l)) (hb:Below w.heap.size w w'):Fresh w w' r l:=
 ⟨nl_row h,hb,fun _ x e=>by subst e;exact (h.lt x.block rfl).1⟩
theorem cloneN_at (b f cap:Nat) (l:List Int) (w:World) (hl:l.length<=1000000000000) (hc:∀ (i:Nat) (h:i<l.length),w.cell? ⟨b,f+i,none⟩=some (.int .i64 l[i])) :
  Calls Tryz.prog 41 #[.slice (some ⟨b,f,none⟩) l.length cap] w fun e w'=>∃ r c,e=.returned (.slice r l.length c)/\Fresh w w' r l:=
 (cloneN_some ⟨b,f,none⟩ l.length cap (nums l) w hl (nums_len l) (nums_one l) (nl_cells hc)).mono fun _ _ ⟨r,c,h1,h2,h3⟩=>⟨r,c,h1,fresh_of h2 h3⟩
theorem cloneN_row (po:Option Addr) (pc B:Nat) (l:List Int) (w:World) (hl:l.length<=1000000000000) (h:w.ownsRow B 2 1 (.slice po l.length pc) l.length (nums l)) :
  Calls Tryz.prog 41 #[.slice po l.length pc] w fun e w'=>∃ r c,e=.returned (.slice r l.length c)/\Fresh w w' r l:=by
 rcases h.2 with ⟨h1,h2⟩|⟨g,cap,cur,h1,h2,h3⟩
 ·obtain rfl:l=[]:=List.eq_nil_of_length_eq_zero h2
  injection h1 with e1 e2 e3
  subst e1 e3;refine (cloneN_none w).mono ?_;rintro e w' ⟨rfl,rfl⟩;exact ⟨none,0,rfl,⟨fun h=>by simp at h⟩,Below.refl _ _,fun h=>by simp at h⟩
 ·injection h1 with e1 e2 e3
  subst e1;have hc:=h.cells (g:=g) rfl;exact (cloneN_some ⟨g,0,none⟩ l.length pc (nums l) w hl (nums_len l) (nums_one l) hc).mono fun _ _ ⟨r,c,k1,k2,k3⟩=>⟨r,c,k1,fresh_of k2 k3⟩
theorem brought_any (s m:Int) (w:World):Calls Tryz.prog 40 #[.int .i64 s,.int .i64 m] w fun e w'=>e=.returned (.int .i64 (min (max s 0) m))/\w'=w:=by
 by_cases h1:s<0
 ·by_cases h2:m<0
  ·rw [show min (max s 0) m=m by omega];go_enter Tryz.func40,Tryz.ntmps40;go_wp2_with fail
   go_ret
   exact ⟨rfl,rfl⟩
  ·rw [show min (max s 0) m=0 by omega];go_enter Tryz.func40,Tryz.ntmps40;go_wp2_with fail
   go_ret
   exact ⟨rfl,rfl⟩
 ·by_cases h2:m<s
  ·rw [show min (max s 0) m=m by omega];go_enter Tryz.func40,Tryz.ntmps40;go_wp2_with fail
   go_ret
   exact ⟨rfl,rfl⟩
  ·rw [show min (max s 0) m=s by omega];go_enter Tryz.func40,Tryz.ntmps40;go_wp2_with fail
   go_ret
   exact ⟨rfl,rfl⟩
def ocells (xs:List O):List Value:=xs.flatMap fun o=>[.int .i8 o.op,.int .u8 o.d,.int .u8 o.a,.int .u8 o.b,.int .i64 o.im]
theorem ocells_len (xs:List O):(ocells xs).length=xs.length*5:=by
 induction xs with
 | nil=>rfl
 | cons o r ih=>unfold ocells at ih ⊢;rw [List.flatMap_cons,List.length_append,ih];simp;omega
theorem ocells_cons (o:O) (r:List O):ocells (o::r)=.int .i8 o.op :: .int .u8 o.d :: .int .u8 o.a :: .int .u8 o.b :: .int .i64 o.im::ocells r:=rfl
theorem ocells_get (xs:List O):∀ (i:Nat) (h:i<xs.length),(ocells xs)[i*5]?=some (.int .i8 xs[i].op)/\(ocells xs)[i*5+1]?=some (.int .u8 xs[i].d)/\(ocells xs)[i*5+2]?=some (.int .u8 xs[i].a)/\(ocells xs)[i*5+3]?=some (.int .u8 xs[i].b)/\(ocells xs)[i*5+4]?=some (.int .i64 xs[i].im):=by
 induction xs with
 | nil=>intro i h;simp at h
 | cons o r ih=>
  intro i h;rw [ocells_cons]
  cases i with
  | zero=>exact ⟨rfl,rfl,rfl,rfl,rfl⟩
  | succ i=>
   have:=ih i (by simpa using h)
   rw [show (i+1)*5=i*5+1+1+1+1+1 by omega];simpa using this
theorem ocells_one (xs:List O):∀ u,u∈ocells xs->u.oneCell'=true:=by
 intro u hu;obtain ⟨o,_,h⟩:=List.mem_flatMap.1 hu;simp at h
 rcases h with rfl|rfl|rfl|rfl|rfl <;> rfl
theorem ocells_at {w:World} {b f:Nat} (xs:List O) (h:∀ (i:Nat) (h:i<xs.length),OAt w b (f+i*5) xs[i]):∀ j u,(ocells xs)[j]?=some u->w.cell? ((⟨b,f,none⟩:Addr).add j)=some u:=by
 intro j u hu;have hj:j<(ocells xs).length:=by
  rcases Nat.lt_or_ge j (ocells xs).length with h' | h'
  ·exact h'
  ·rw [List.getElem?_eq_none h'] at hu;cases hu
 rw [ocells_len] at hj;have hi:j / 5<xs.length:=by omega
 obtain ⟨c0,c1,c2,c3,c4⟩:=h (j / 5) hi;obtain ⟨g0,g1,g2,g3,g4⟩:=ocells_get xs (j / 5) hi;have hq:j=j / 5*5+j%5:=by omega
 have hm:j%5=0\/j%5=1\/j%5=2\/j%5=3\/j%5=4:=by omega
 rw [add_at'];generalize j / 5=q at *;rcases hm with hm|hm|hm|hm|hm
 ·obtain rfl:j=q*5:=by omega
  rw [g0] at hu;rw [<- hu];exact c0
 ·obtain rfl:j=q*5+1:=by omega
  rw [g1] at hu;rw [<- hu,<- Nat.add_assoc];exact c1
 ·obtain rfl:j=q*5+2:=by omega
  rw [g2] at hu;rw [<- hu,<- Nat.add_assoc];exact c2
 ·obtain rfl:j=q*5+3:=by omega
  rw [g3] at hu;rw [<- hu,<- Nat.add_assoc];exact c3
 ·obtain rfl:j=q*5+4:=by omega
  rw [g4] at hu;rw [<- hu,<- Nat.add_assoc];exact c4
theorem opsAt_row {w:World} {B c:Nat} {a:Option Addr} {xs:List O} (h:w.ownsRow B 60 5 (.slice a xs.length c) xs.length (ocells xs)) (hok:∀ o,o∈xs->o.Ok) (hl:xs.length<=8192):OpsAt w a xs:=by
 refine ⟨hok,by omega,fun h0=>?_⟩;rcases h.2 with ⟨_,h1⟩|⟨g,cap,cur,h1,h2,h3,h4⟩
 ·omega
 ·injection h1 with e1 e2 e3
  subst e1;have hc:=h.cells (g:=g) rfl;refine ⟨g,0,rfl,(h.lt g rfl).2,fun i hi=>?_⟩;obtain ⟨g0,g1,g2,g3,g4⟩:=ocells_get xs i hi;have k:∀ j u,(ocells xs)[j]?=some u->w.cell? ⟨g,0+j,none⟩=some u:=fun j u hj=>by have:=hc j u hj;rw [add_at'] at this;exact this
  exact ⟨k _ _ g0,k _ _ g1,k _ _ g2,k _ _ g3,k _ _ g4⟩
theorem nil54 (c:Nat) (w:World):(binOp .eql 22 (.slice none 0 c) (.slice none 0 0)).run Tryz.prog w=.ok (.bool true) w:=by kernel_rfl
theorem cloneO_nil (c:Nat) (w:World):Calls Tryz.prog 69 #[.slice none 0 c] w fun e w'=>e=.returned (.slice none 0 0)/\w'=w:=by
 have hnil:=nil54 c;go_enter Tryz.func69,Tryz.ntmps69;go_wp2_with fail
 go_ret
 exact ⟨rfl,rfl⟩
structure Oc (w w':World) (r:Option Addr) (c:Nat) (xs:List O):Prop where
 at_:OpsAt w' r xs
 new:0<xs.length->∀ a,r=some a->w.heap.size<=a.block
 cap:xs.length<=c
 up:Below w.heap.size w w'
theorem cloneO_any (ao:Option Addr) (cap:Nat) (xs:List O) (w:World) (h:OpsAt w ao xs) (hl:xs.length<=8192) :
  Calls Tryz.prog 69 #[.slice ao xs.length cap] w fun e w'=>∃ r c,e=.returned (.slice r xs.length c)/\Oc w w' r c xs:=by
 have key:∀ a:Addr,ao=some a->(∀ j u,(ocells xs)[j]?=some u->w.cell? (a.add j)=some u)->Calls Tryz.prog 69 #[.slice ao xs.length cap] w fun e w'=>∃ r c,e=.returned (.slice r xs.length c)/\Oc w w' r c xs:=fun a e hc=>by
  subst e;refine (cloneO_some a xs.length cap (ocells xs) w (by omega) (ocells_len xs) (ocells_one xs) hc).mono ?_;rintro e w' ⟨r,c,rfl,h1,h2⟩;refine ⟨r,c,rfl,opsAt_row h1 h.ok hl,fun _ a e=>by subst e;exact (h1.lt a.block rfl).1,?_,h2⟩;rcases h1.2 with ⟨h3,h4⟩|⟨g,cap',cur,h3,_,_,h5,_⟩
  ·omega
  ·injection h3 with _ _ h3;omega
 rcases Nat.eq_zero_or_pos xs.length with h0|h0
 ·cases ao with
  | none=>
   obtain rfl:xs=[]:=List.eq_nil_of_length_eq_zero h0;refine (cloneO_nil cap w).mono ?_;rintro e w' ⟨rfl,rfl⟩;exact ⟨none,0,rfl,⟨fun o ho=>by simp at ho,by simp,fun h=>by simp at h⟩,fun h=>by simp at h,Nat.le_refl _,Below.refl _ _⟩
  | some a=>exact key a rfl fun j u hu=>by obtain rfl:xs=[]:=List.eq_nil_of_length_eq_zero h0;simp [ocells] at hu
 ·obtain ⟨b,f,e,_,hx⟩:=h.is h0;exact key _ e (ocells_at xs hx)
def bcs:List Bk->List Pl->List Value
 | x::r,p::t=>.slice p.oa x.ops.length p.oc :: .int .i8 x.fin :: .int .u8 x.a :: .slice p.ba x.body.length p.bc :: .int .i64 x.thn :: .int .i64 x.els::bcs r t
 | _,_=>[]
theorem bcs_len:∀ (ps:List Bk) (pl:List Pl),pl.length=ps.length->(bcs ps pl).length=ps.length*6
 | [],[],_=>rfl
 | x::r,p::t,h=>by
  have:=bcs_len r t (by simpa using h)
  simp [bcs,this];omega
theorem bcs_one:∀ (ps:List Bk) (pl:List Pl),∀ u,u∈bcs ps pl->u.oneCell'=true
 | [],_,u,h=>by simp [bcs] at h
 | x::r,[],u,h=>by simp [bcs] at h
 | x::r,p::t,u,h=>by
  simp only [bcs,List.mem_cons] at h;rcases h with rfl|rfl|rfl|rfl|rfl|rfl|h
  ·rfl
  ·rfl
  ·rfl
  ·rfl
  ·rfl
  ·rfl
  ·exact bcs_one r t u h
theorem bcs_get:∀ (ps:List Bk) (pl:List Pl) (i:Nat) (h:i<ps.length) (g:i<pl.length),(bcs ps pl)[i*6]?=some (.slice pl[i].oa ps[i].ops.length pl[i].oc)/\(bcs ps pl)[i*6+1]?=some (.int .i8 ps[i].fin)/\(bcs ps pl)[i*6+2]?=some (.int .u8 ps[i].a)/\(bcs ps pl)[i*6+3]?=some (.slice pl[i].ba ps[i].body.length pl[i].bc)/\(bcs ps pl)[i*6+4]?=some (.int .i64 ps[i].thn)/\(bcs ps pl)[i*6+5]?=some (.int .i64 ps[i].els)
 | [],_,i,h,_=>by simp at h
 | x::r,[],i,_,g=>by simp at g
 | x::r,p::t,0,_,_=>⟨rfl,rfl,rfl,rfl,rfl,rfl⟩
 | x::r,p::t,i+1,h,g=>by
  have:=bcs_get r t i (by simpa using h) (by simpa using g)
  rw [show (i+1)*6=i*6+1+1+1+1+1+1 by omega];simpa [bcs] using this
theorem bcs_at {w:World} {b:Nat} : ∀ (ps:List Bk) (pl:List Pl) (f:Nat),pl.length=ps.length->(∀ (i:Nat) (h:i<ps.length) (g:i<pl.length),BAt w b (f+i*6) ps[i] pl[i])->∀ j u,(bcs ps pl)[j]?=some u->w.cell? ((⟨b,f,none⟩:Addr).add j)=some u
 | [],_,_,_,_,j,u,h=>by simp [bcs] at h
 | x::r,[],_,_,_,j,u,h=>by simp [bcs] at h
 | x::r,p::t,f,hl,hx,j,u,h=>by
  rw [add_at'];obtain ⟨c0,c1,c2,c3,c4,c5⟩:=hx 0 (by simp) (by simp);simp only [Nat.zero_mul,Nat.add_zero,List.getElem_cons_zero] at c0 c1 c2 c3 c4 c5
  match j with
  | 0=>simp [bcs] at h;rw [<- h];exact c0
  | 1=>simp [bcs] at h;rw [<- h];exact c1
  | 2=>simp [bcs] at h;rw [<- h];exact c2
  | 3=>simp [bcs] at h;rw [<- h];exact c3
  | 4=>simp [bcs] at h;rw [<- h];exact c4
  | 5=>simp [bcs] at h;rw [<- h];exact c5
  | j+6=>
   have:=bcs_at r t (f+6) (by simpa using hl) (fun i h1 h2=>by
    have:=hx (i+1) (by simpa using h1) (by simpa using h2)
    rw [show f+(i+1)*6=f+6+i*6 by omega] at this;simpa using this) j u (by simpa [bcs] using h)
   rw [add_at'] at this;rw [show f+(j+6)=f+6+j by omega];exact this
theorem pls_of {w:World} {b f:Nat} {ps:List Bk} (h:∀ (i:Nat) (h:i<ps.length),∃ p,BAt w b (f+i*6) ps[i] p/\BIn w ps[i] p):∃ pl:List Pl,pl.length=ps.length/\∀ (i:Nat) (h:i<ps.length) (g:i<pl.length),BAt w b (f+i*6) ps[i] pl[i]/\BIn w ps[i] pl[i]:=by
 refine ⟨(List.finRange ps.length).map fun i=>(h i.1 i.2).choose,by simp,fun i hi g=>?_⟩
 have:=(h i hi).choose_spec
 simpa using this
structure Ci (w wr:World) (g:Nat) (ps:List Bk):Prop where
 lt:g<wr.heap.size
 fz:∀ j:Nat,wr.frozen? ⟨g,j,none⟩=false
 is:∀ (i:Nat) (h:i<ps.length),∃ p,BAt wr g (i*6) ps[i] p/\BIn wr ps[i] p/\Far (One g) p.oa ps[i].ops.length/\Far (One g) p.ba ps[i].body.length
 up:Below w.heap.size w wr
 new:w.heap.size<=g
theorem Ci.up' {w wr w2:World} {g:Nat} {ps:List Bk} (h:Ci w wr g ps) (hb:Below wr.heap.size wr w2):Ci w w2 g ps:=by
 refine ⟨Nat.lt_of_lt_of_le h.lt hb.size,fun j=>by rw [(bcell hb).2 _ _ h.lt];exact h.fz j,fun i hi=>?_,h.up.trans (hb.mono h.up.size),h.new⟩;obtain ⟨p,h1,h2,h3,h4⟩:=h.is i hi;exact ⟨p,h1.below hb h.lt,h2.below hb,h3,h4⟩
theorem Ci.setO {w wr:World} {g k:Nat} {ps:List Bk} (h:Ci w wr g ps) (hk:k<ps.length) {r:Option Addr} {c:Nat} (ho:OpsAt wr r ps[k].ops) (hc:ps[k].ops.length<=c) (hf:Far (One g) r ps[k].ops.length):Ci w (wr.setCell ⟨g,k*6,none⟩ (.slice r ps[k].ops.length c)) g ps:=by
 have hF:Fr (One g) wr (wr.setCell ⟨g,k*6,none⟩ (.slice r ps[k].ops.length c)):=(Fr.refl (One g) wr).setCell (.inr rfl) _ _;refine ⟨by rw [World.size_setCell];exact h.lt,fun j=>by rw [World.frozen?_setCell];exact h.fz j,fun i hi=>?_,h.up.setCell h.new _,h.new⟩;obtain ⟨p,⟨c0,c1,c2,c3,c4,c5⟩,h2,h3,h4⟩:=h.is i hi
 by_cases e:i=k
 ·subst e;exact ⟨⟨r,c,p.ba,p.bc⟩,⟨cs c0,(co (by omega)).trans c1,(co (by omega)).trans c2,(co (by omega)).trans c3,(co (by omega)).trans c4,(co (by omega)).trans c5⟩,⟨h2.ok,opsAt_fr ho hF hf,opsAt_fr h2.b hF h4,hc⟩,hf,h4⟩
 ·exact ⟨p,⟨(co (by omega)).trans c0,(co (by omega)).trans c1,(co (by omega)).trans c2,(co (by omega)).trans c3,(co (by omega)).trans c4,(co (by omega)).trans c5⟩,⟨h2.ok,opsAt_fr h2.o hF h3,opsAt_fr h2.b hF h4,h2.c⟩,h3,h4⟩
theorem Ci.setY {w wr:World} {g k:Nat} {ps:List Bk} (h:Ci w wr g ps) (hk:k<ps.length) {r:Option Addr} {c:Nat} (ho:OpsAt wr r ps[k].body) (hf:Far (One g) r ps[k].body.length):Ci w (wr.setCell ⟨g,k*6+3,none⟩ (.slice r ps[k].body.length c)) g ps:=by
 have hF:Fr (One g) wr (wr.setCell ⟨g,k*6+3,none⟩ (.slice r ps[k].body.length c)):=(Fr.refl (One g) wr).setCell (.inr rfl) _ _;refine ⟨by rw [World.size_setCell];exact h.lt,fun j=>by rw [World.frozen?_setCell];exact h.fz j,fun i hi=>?_,h.up.setCell h.new _,h.new⟩;obtain ⟨p,⟨c0,c1,c2,c3,c4,c5⟩,h2,h3,h4⟩:=h.is i hi
 by_cases e:i=k
 ·subst e;exact ⟨⟨p.oa,p.oc,r,c⟩,⟨(co (by omega)).trans c0,(co (by omega)).trans c1,(co (by omega)).trans c2,cs c3,(co (by omega)).trans c4,(co (by omega)).trans c5⟩,⟨h2.ok,opsAt_fr h2.o hF h3,opsAt_fr ho hF hf,h2.c⟩,h3,hf⟩
 ·exact ⟨p,⟨(co (by omega)).trans c0,(co (by omega)).trans c1,(co (by omega)).trans c2,(co (by omega)).trans c3,(co (by omega)).trans c4,(co (by omega)).trans c5⟩,⟨h2.ok,opsAt_fr h2.o hF h3,opsAt_fr h2.b hF h4,h2.c⟩,h3,h4⟩
theorem Ci.pat {w wr:World} {g:Nat} {ps:List Bk} (h:Ci w wr g ps) (hl:ps.length<=128):PAt wr (some ⟨g,0,none⟩) ps:=by
 refine ⟨by omega,fun _=>⟨g,0,rfl,h.lt,fun i hi=>?_⟩⟩;obtain ⟨p,h1,h2,-⟩:=h.is i hi;exact ⟨p,by rw [Nat.zero_add];exact h1,h2⟩
theorem ci_start {w w1:World} {ps:List Bk} {r:Option Addr} {c:Nat} {pl:List Pl} {b f:Nat} (hp:pl.length=ps.length) (hx:∀ (i:Nat) (h:i<ps.length) (g:i<pl.length),BAt w b (f+i*6) ps[i] pl[i]/\BIn w ps[i] pl[i]) (h0:0<ps.length) (h1:w1.ownsRow w.heap.size 25 6 (.slice r ps.length c) ps.length (bcs ps pl)) (h2:Below w.heap.size w w1):∃ g,r=some ⟨g,0,none⟩/\Ci w w1 g ps:=by
 rcases h1.2 with ⟨h3,h4⟩|⟨g,cap',cur,h3,h5,_⟩
 ·omega
 ·injection h3 with e1 e2 e3
  subst e1;have hc:=h1.cells (g:=g) rfl;have k:∀ j u,(bcs ps pl)[j]?=some u->w1.cell? ⟨g,j,none⟩=some u:=fun j u hj=>by have:=hc j u hj;rw [add_at',Nat.zero_add] at this;exact this
  refine ⟨g,rfl,(h1.lt g rfl).2,fun j=>h1.frozenAt j,fun i hi=>?_,h2,h5⟩;obtain ⟨g0,g1,g2,g3,g4,g5⟩:=bcs_get ps pl i hi (by omega);have hn:=(hx i hi (by omega)).2;have fa:∀ {a:Option Addr} {xs:List O},OpsAt w a xs->Far (One g) a xs.length:=fun {a xs} ho h0 x e hx=>by
   obtain ⟨b',f',e',z,hc⟩:=ho.is h0;rw [e'] at e;cases e;have hx:b'=g:=hx;omega
  exact ⟨pl[i],⟨k _ _ g0,k _ _ g1,k _ _ g2,k _ _ g3,k _ _ g4,k _ _ g5⟩,hn.below h2,fa hn.o,fa hn.b⟩
theorem ops_far {wr w2:World} {g:Nat} {r:Option Addr} {c:Nat} {xs:List O} (h:Oc wr w2 r c xs) (hg:g<wr.heap.size):Far (One g) r xs.length:=fun h0 a e hx=>by
 have:=h.new h0 a e
 have hx:a.block=g:=hx;omega
theorem copied_any (ao:Option Addr) (cap:Nat) (ps:List Bk) (w:World) (h:PAt w ao ps) (h0:0<ps.length) (hl:ps.length<=128) (ho:∀ x∈ps,x.ops.length<=8192/\x.body.length<=8192) :
  Calls Tryz.prog 37 #[.slice ao ps.length cap] w fun e w'=>∃ r c,e=.returned (.slice r ps.length c)/\PAt w' r ps/\Below w.heap.size w w':=by
 obtain ⟨b,f,rfl,hz,hx⟩:=h.is h0;obtain ⟨pl,hp,hx⟩:=pls_of hx;have HC:Hid (Calls Tryz.prog 68 #[.slice (some ⟨b,f,none⟩) ps.length cap] w fun e w'=>∃ g c,e=.returned (.slice (some ⟨g,0,none⟩) ps.length c)/\Ci w w' g ps):=by
  refine (cloneB_some ⟨b,f,none⟩ ps.length cap (bcs ps pl) w (by omega) (bcs_len ps pl hp) (bcs_one ps pl) (bcs_at ps pl f hp fun i h g=>(hx i h g).1)).mono ?_;rintro e w' ⟨r,c,rfl,h1,h2⟩;obtain ⟨g,rfl,hc⟩:=ci_start hp hx h0 h1 h2;exact ⟨g,c,rfl,hc⟩
 have hlz:(ps.length:Int)<=128:=by omega
 have HO:Hid (∀ x∈ps,x.ops.length<=8192/\x.body.length<=8192):=ho;clear h hx hp ho h0;go_enter Tryz.func37,Tryz.ntmps37;go_wp2_with (first|(go_at_call 68;refine Calls.mono HC.out ?_;rintro e w1 ⟨g,c,rfl,hc⟩;have HI:Hid _:=hc;clear hc HC))
 go_loopw [10] (fun i wr=>∃ k:Nat,k<=ps.length/\i=.int .i64 k/\Ci w wr g ps) (fun i _=>ps.length-(intOf i).toNat)
 case atStart=>exact ⟨0,by omega,rfl,HI.out⟩
 case round=>
  rename_i wr;obtain ⟨k,hk,rfl,hc⟩:=hrel
  by_cases hlt:k<ps.length
  ·obtain ⟨p,hp,hn,hf1,hf2⟩:=hc.is k hlt;obtain ⟨c0,c1,c2,c3,c4,c5⟩:=hp;have hg:=hc.lt;have hkz:(k:Int)<ps.length:=by omega
   have fz:=hc.fz (k*6);have fz3:=hc.fz (k*6+3);have HOo:Hid (∀ W,Below wr.heap.size wr W->Calls Tryz.prog 69 #[.slice p.oa ps[k].ops.length p.oc] W fun e w'=>∃ r c,e=.returned (.slice r ps[k].ops.length c)/\Oc W w' r c ps[k].ops):=fun W hb=>cloneO_any _ _ _ _ (hn.o.below hb) (HO.out _ (List.getElem_mem hlt)).1;have HOy:Hid (∀ W,OpsAt W p.ba ps[k].body->Calls Tryz.prog 69 #[.slice p.ba ps[k].body.length p.bc] W fun e w'=>∃ r c,e=.returned (.slice r ps[k].body.length c)/\Oc W w' r c ps[k].body):=fun W hb=>cloneO_any _ _ _ _ hb (HO.out _ (List.getElem_mem hlt)).2;have HK:Hid (Ci w wr g ps):=hc;have HY:Hid (OpsAt wr p.ba ps[k].body/\Far (One g) p.ba ps[k].body.length):=⟨hn.b,hf2⟩;clear hc hn hf1 hf2 HI HO;have HX:Hid (∀ {r c} {W:World},Ci w W g ps->OpsAt W r ps[k].ops->ps[k].ops.length<=c->Far (One g) r ps[k].ops.length->Ci w (W.setCell ⟨g,k*6,none⟩ (.slice r ps[k].ops.length c)) g ps):=fun {r c W} h1 h2 h3 h4=>h1.setO hlt h2 h3 h4;have HXy:Hid (∀ {r c} {W:World},Ci w W g ps->OpsAt W r ps[k].body->Far (One g) r ps[k].body.length->Ci w (W.setCell ⟨g,k*6+3,none⟩ (.slice r ps[k].body.length c)) g ps):=fun {r c W} h1 h2 h4=>h1.setY hlt h2 h4;generalize ps[k]=x at *;have hne:¬ g=wr.heap.size:=by omega
   have hne':¬ wr.heap.size=g:=by omega
   go_wp2_with (first
    | (go_at_call 69;refine Calls.mono (HOo.out _ (by go_grown)) ?_;rintro e w2 ⟨r1,d1,rfl,h1⟩;have HB1:Hid (Below wr.heap.size wr w2):=(((Below.refl _ _).alloc (Nat.le_refl _) _).trans (h1.up.mono (by simp)));have HR1:Hid (Ci w (w2.setCell ⟨g,k*6,none⟩ (.slice r1 x.ops.length d1)) g ps):=(HX.out (HK.out.up' HB1.out) h1.at_ h1.cap (ops_far h1 (by simp;omega)));have k1:=(Op.At.new wr #[.slice p.oa x.ops.length p.oc,.int .i8 x.fin,.int .u8 x.a,.slice p.ba x.body.length p.bc,.int .i64 x.thn,.int .i64 x.els] 25).below h1.up (by simp);have b3:=k1.c 3 _ rfl;have bl:=k1.lt;have e0:=((bcell HB1.out).1 g (k*6) hg).trans c0;have e1:=((bcell HB1.out).2 g (k*6) hg).trans fz;have e2:g<w2.heap.size:=Nat.lt_of_lt_of_le hg HB1.out.size;clear h1 HOo k1)
    | (go_at_call 69;refine Calls.mono (HOy.out _ (opsAt_fr (HY.out.1.below HB1.out) ((Fr.refl (One g) w2).setCell (.inr rfl) _ _) HY.out.2)) ?_;rintro e w3 ⟨r2,d2,rfl,h2⟩;have HR2:Hid (Ci w (w3.setCell ⟨g,k*6+3,none⟩ (.slice r2 x.body.length d2)) g ps):=(HXy.out (HR1.out.up' h2.up) h2.at_ (ops_far h2 HR1.out.lt));have i0:=((bcell h2.up).1 g (k*6+3) HR1.out.lt).trans ((co (by omega)).trans (((bcell HB1.out).1 g (k*6+3) hg).trans c3));have i1:=((bcell h2.up).2 g (k*6+3) HR1.out.lt).trans (HR1.out.fz _);have i2:g<w3.heap.size:=Nat.lt_of_lt_of_le HR1.out.lt h2.up.size;clear h2 HOy))
   go_roundw
   case rel=>exact ⟨k+1,by omega,by go_num,HR2.out⟩
   case measure=>simp [intOf];omega
  ·obtain rfl:k=ps.length:=by omega
   have HK:Hid (Ci w wr g ps):=hc;clear hc;go_wp2_with fail
   go_ret
   exact ⟨_,_,rfl,HK.out.pat hl,HK.out.up⟩
end Go.Proofs.YtcmlnemokckbdaaGreatDoor.L8.Sm
