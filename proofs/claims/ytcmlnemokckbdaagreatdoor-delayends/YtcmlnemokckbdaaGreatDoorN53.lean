/- The statement DelayEnds, whole: where a block's end is issued and how long the block is, as the document says, whatever the block, the table and the cycles; the listed variables are tied to the program text. Conditions: none. -/
import Derived.Test.YtcmlnemokckbdaaGreatDoorN50
import Derived.Test.YtcmlnemokckbdaaGreatDoorN51
import Derived.Test.YtcmlnemokckbdaaGreatDoorN52
set_option maxRecDepth 100000
namespace Go.Proofs.YtcmlnemokckbdaaGreatDoor.Dc
open Go.ChangeShapes Go.WideShapes Go.ChangeAt Go.RowKit
open YtcmlnemokckbdaaGreatDoor.Op
theorem dends_wit (os:Os) (H:Type) (enc:TypeId×Value->H):∃ (w:World) (tape:Tape) (i:Input),w.os=os/\(w.forCall tape i).Shaped Tryz.prog/\i.vars=[]/\Input.okWide Tryz.prog (w.forCall tape i) .any w.heap.size 3 i /\
   ((Rows.delayEndsSpec.pre enc Tryz.prog Tryz.f3 [] false (w.forCall tape i).memory i.args/\laidMetH Tryz.prog Rows.delayEndsRow.laid (w.forCall tape i).memory)/\sizedMet enc Tryz.prog Tryz.f3 (OpenSpec.ofChange Rows.delayEndsSpec) false (w.forCall tape i).memory i.args)/\Assume.holds {} Tryz.prog (lone (Frame.enter Tryz.prog 3 i.args .normal) [] (w.forCall tape i)):=
 ChangeSpec.witness_shaped (enc:=enc) (C:=Tryz.checked) (os:=os) (X:=fun w _=>laidMetH Tryz.prog Rows.delayEndsRow.laid w) false ((World.holding Tryz.prog os ⟨#[],#[],[]⟩).layVars Tryz.prog laid4) #[.agg #[.slice none 0 0,.int .i8 0,.int .u8 0,.slice none 0 0,.int .i64 0,.int .i64 0],.agg #[.int .i64 0,.int .i64 0,.int .i64 0,.int .i64 0,.int .i64 0,.int .i64 0,.int .i64 0,.int .i64 0,.int .i64 0,.int .i64 0,.int .i64 0,.int .i64 0,.int .i64 0],.slice none 0 0] 8 (wit_os4 os)
  (World.shaped_of_ZipB (by kernel_rfl) (by kernel_rfl)) (by kernel_rfl) (by kernel_rfl) (by kernel_rfl) (wit_met4 os _)
theorem dends_lifted (os:Os) (started:os.Started) (H:Type) (enc:TypeId×Value->H) :
  ReturnsInHanded {} Tryz.checked os 3 .any (fun w args=>(Rows.delayEndsSpec.pre enc Tryz.prog Tryz.f3 [] false w args/\laidMetH Tryz.prog Rows.delayEndsRow.laid w)/\sizedMet enc Tryz.prog Tryz.f3 (OpenSpec.ofChange Rows.delayEndsSpec) false w args)
   (Rows.delayEndsSpec.post enc Tryz.prog Tryz.f3 false true false false):=by
 refine wrap started (by kernel_rfl) Tryz.func3 (dends_wit os H enc) ?_;intro W base args ds gs before hval0 hW hsz hL hsh;have hval:∀ (j:Nat) t v,Tryz.f3.params[j]?=some t->args[j]?=some v->Value.okWide Tryz.prog W .any base t v:=hval0;have hW':=hW;obtain ⟨p,q,hA0,hV,rfl,_,_⟩:=hW;have hA:DataW.TrodAll enc Tryz.prog W 0 (fun _=>true) true Tryz.f3.params.toList args.toList ds p:=hA0;rw [Tryz.params3] at hA hval hsz;obtain ⟨v0,v1,v2,d0,d1,d2,p0,p1,p2,rfl,rfl,rfl,h0,h1,h2⟩:=trodAll_three hA;obtain ⟨rfl,rfl⟩:=trodVars_none hV;obtain ⟨x,pl,rfl,hbx⟩:=open_blk (hval 0 25 v0 rfl rfl) h0 fun n hn=>by
  have:=List.all_eq_true.1 hsz n (DataW.weights_mem_each (j:=0) rfl rfl n hn)
  simpa using this
 obtain ⟨⟨t,rfl⟩,rfl⟩:=open_tab (hval 1 28 v1 rfl rfl) h1;obtain ⟨la,lc,n,g,rfl,hn,hl⟩:=Ls.open_nums (hval 2 29 v2 rfl rfl) h2 fun n hn=>by
  have:=List.all_eq_true.1 hsz n (DataW.weights_mem_each (j:=2) rfl rfl n hn)
  simpa using this
 simp only [List.append_nil] at hW';refine (Dl.law_ends x pl t la lc n g W hbx (env4 hL hsh) hn hl).mono fun e W' ⟨he,hb⟩=>?_;subst he;refine ⟨_,rfl,_,_,_,[],p0++([]++p2),[],hW',trodAll_mk1 (shut_bool Tryz.underlying4 _),?_,rfl,hb.frame _,fun h=>by cases h⟩;rw [Tryz.params3];exact trodAll_mk3 (Below.trod laidOut (by kernel_rfl) (by rw [tySize];decide) h0 hb fun x hx=>by obtain ⟨fuel,hf⟩:=h0;exact DataW.trod_lt _ _ _ _ hf x hx) (Below.trod laidOut (by kernel_rfl) (by rw [tySize];decide) h1 hb (fun x hx=>by cases hx)) (Below.trod laidOut (by kernel_rfl) (by rw [tySize];decide) h2 hb fun x hx=>by obtain ⟨fuel,hf⟩:=h2;exact DataW.trod_lt _ _ _ _ hf x hx)
theorem dends_row:Rows.DelayEndsSaid:=
 OpenClaim.holds_of_wide 3 Tryz.f3 rfl rfl rfl rfl rfl rfl rfl ⟨rfl,rfl,rfl,rfl,rfl⟩ rfl rfl rfl rfl rfl (by kernel_rfl) Tryz.func3 (by kernel_rfl)
  (of_decide_eq_true (by kernel_rfl)) (by unfold Func.isWrapper;first|(rw [if_pos (by decide +kernel)];kernel_rfl)|(rw [if_neg (by decide +kernel)];exact ⟨rfl,rfl⟩))
  (fun os started H enc _=>dends_lifted os started H enc)
theorem dends_card:Rows.DelayEndsCardSaid:=
 Claim7.holds_tied_plain_at .later [] [.wider,.wider,.wider,.wider] true (true,"8a03a18a25830f4ee6caf4f5becde7273b6f8729a9e09dca676bd27bb7561f24") true dends_row (fun _ h=>by cases h) (by kernel_rfl) (fun _ h=>by cases h) delayEnds_row_tie rfl ⟨rfl,rfl⟩ (by kernel_rfl) rfl
  (fun f fn hf hfn=>by
   obtain rfl:f=3:=Option.some.inj ((show Tryz.prog.funcNamed "hayloft/hayloftlaw18.DelayEnds" = some 3 by kernel_rfl).symm.trans hf) |>.symm;obtain rfl:fn=Tryz.f3:=(Option.some.inj (Tryz.func3.symm.trans hfn)).symm;exact ⟨by kernel_rfl,fun j t ht=>by
    rw [Tryz.params3] at ht;have hm:t∈[25,28,29]:=by simpa using Array.mem_of_getElem? ht
    have hall:([25,28,29].all fun u=>!Tryz.prog.wantsStandIn u)=true:=by kernel_rfl
    exact (show Tryz.prog.wantsStandIn t=false by simpa using List.all_eq_true.1 hall t hm)⟩)
  (by kernel_rfl)
end Go.Proofs.YtcmlnemokckbdaaGreatDoor.Dc
#print axioms Go.Proofs.YtcmlnemokckbdaaGreatDoor.Dc.dends_card
