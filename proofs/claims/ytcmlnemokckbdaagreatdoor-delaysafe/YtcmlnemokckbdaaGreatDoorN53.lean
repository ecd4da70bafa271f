/- The statement DelaySafe, whole: for any program of at most 300 operations, any block, any state and any number of steps, operations that may come ahead can: the program ends as it did; the listed variables are tied to the program text. Conditions: none. -/
import Derived.Test.YtcmlnemokckbdaaGreatDoorN52
import Derived.Test.YtcmlnemokckbdaaGreatDoorN39
set_option maxRecDepth 100000
namespace Go.Proofs.YtcmlnemokckbdaaGreatDoor.L8.Sf
open Go.ChangeShapes Go.WideShapes Go.ChangeAt Go.RowKit
open YtcmlnemokckbdaaGreatDoor.L8.Op
open YtcmlnemokckbdaaGreatDoor.Op (wrap tySize laidOut)
theorem safe_wit (os:Os) (H:Type) (enc:TypeId×Value->H):∃ (w:World) (tape:Tape) (i:Input),w.os=os/\(w.forCall tape i).Shaped Tryz.prog/\i.vars=[]/\Input.okWide Tryz.prog (w.forCall tape i) .any w.heap.size 5 i /\
   ((Rows.delaySafeSpec.pre enc Tryz.prog Tryz.f5 [] false (w.forCall tape i).memory i.args/\laidMetH Tryz.prog Rows.delaySafeRow.laid (w.forCall tape i).memory)/\sizedMet enc Tryz.prog Tryz.f5 (OpenSpec.ofChange Rows.delaySafeSpec) false (w.forCall tape i).memory i.args)/\Assume.holds {} Tryz.prog (lone (Frame.enter Tryz.prog 5 i.args .normal) [] (w.forCall tape i)):=
 ChangeSpec.witness_shaped (enc:=enc) (C:=Tryz.checked) (os:=os) (X:=fun w _=>laidMetH Tryz.prog Rows.delaySafeRow.laid w) false ((World.holding Tryz.prog os ⟨#[],#[],[]⟩).layVars Tryz.prog laid5) #[.agg #[.slice none 0 0],.int .i64 0,.agg #[.slice none 0 0,.slice none 0 0],.int .i64 0] 8 (wit_os5 os)
  (World.shaped_of_ZipB (by kernel_rfl) (by kernel_rfl)) (by kernel_rfl) (by kernel_rfl) (by kernel_rfl) (wit_met5 os _)
theorem safe_lifted (os:Os) (started:os.Started) (H:Type) (enc:TypeId×Value->H) :
  ReturnsInHanded {} Tryz.checked os 5 .any (fun w args=>(Rows.delaySafeSpec.pre enc Tryz.prog Tryz.f5 [] false w args/\laidMetH Tryz.prog Rows.delaySafeRow.laid w)/\sizedMet enc Tryz.prog Tryz.f5 (OpenSpec.ofChange Rows.delaySafeSpec) false w args)
   (Rows.delaySafeSpec.post enc Tryz.prog Tryz.f5 false true false false):=by
 refine wrap started (by kernel_rfl) Tryz.func5 (safe_wit os H enc) ?_;intro W base args ds gs before hval0 hW hsz hL hsh;have hval:∀ (j:Nat) t v,Tryz.f5.params[j]?=some t->args[j]?=some v->Value.okWide Tryz.prog W .any base t v:=hval0;have hW':=hW;obtain ⟨p,q,hA0,hV,rfl,_,_⟩:=hW;have hA:DataW.TrodAll enc Tryz.prog W 0 (fun _=>true) true Tryz.f5.params.toList args.toList ds p:=hA0;rw [Tryz.params5] at hA hval hsz;obtain ⟨v0,v1,v2,v3,d0,d1,d2,d3,p0,p1,p2,p3,rfl,rfl,rfl,h0,h1,h2,h3⟩:=trodAll_four hA;obtain ⟨rfl,rfl⟩:=trodVars_none hV;obtain ⟨ao,cap,ps,rfl,hp,hc,hm⟩:=open_prog (hval 0 40 v0 rfl rfl) h0 fun n hn=>by
  have:=List.all_eq_true.1 hsz n (DataW.weights_mem_each (j:=0) rfl rfl n hn)
  simpa using this
 obtain ⟨n,rfl,rfl,rfl,hn⟩:=open_int Tryz.underlying3 (hval 1 3 v1 rfl rfl) h1;obtain ⟨ra,ma,rc,mc,rs,ms,rfl,hs,hr,hms⟩:=YtcmlnemokckbdaaGreatDoor.L8.Sm.open_state (hval 2 50 v2 rfl rfl) h2;obtain ⟨st,rfl,rfl,rfl,hst⟩:=open_int Tryz.underlying3 (hval 3 3 v3 rfl rfl) h3;simp only [List.append_nil] at hW';refine (_root_.Go.Proofs.YtcmlnemokckbdaaGreatDoor.L8.El.law_safe ao ra ma cap rc mc ps rs ms n st W hp (env5 hL hsh).2 (env5 hL hsh).1 hs hr hms).mono fun e W' ⟨he,hb⟩=>?_;subst he;refine ⟨_,rfl,_,_,_,[],p0++([]++(p2++[])),[],hW',trodAll_mk1 (shut_bool Tryz.underlying4 _),?_,rfl,hb.frame _,fun h=>by cases h⟩;rw [Tryz.params5];refine trodAll_mk4 (Below.trod laidOut (by kernel_rfl) (by rw [tySize];decide) h0 hb fun x hx=>?_) (Below.trod laidOut (by kernel_rfl) (by rw [tySize];decide) h1 hb (fun x hx=>by cases hx)) (Below.trod laidOut (by kernel_rfl) (by rw [tySize];decide) h2 hb fun x hx=>?_) (Below.trod laidOut (by kernel_rfl) (by rw [tySize];decide) h3 hb (fun x hx=>by cases hx))
 ·obtain ⟨fuel,hf⟩:=h0;exact DataW.trod_lt _ _ _ _ hf x hx
 ·obtain ⟨fuel,hf⟩:=h2;exact DataW.trod_lt _ _ _ _ hf x hx
theorem safe_row:Rows.DelaySafeSaid:=
 OpenClaim.holds_of_wide 5 Tryz.f5 rfl rfl rfl rfl rfl rfl rfl ⟨rfl,rfl,rfl,rfl,rfl⟩ rfl rfl rfl rfl rfl (by kernel_rfl) Tryz.func5 (by kernel_rfl)
  (of_decide_eq_true (by kernel_rfl)) (by unfold Func.isWrapper;first|(rw [if_pos (by decide +kernel)];kernel_rfl)|(rw [if_neg (by decide +kernel)];exact ⟨rfl,rfl⟩))
  (fun os started H enc _=>safe_lifted os started H enc)
theorem safe_card:Rows.DelaySafeCardSaid:=
 Claim7.holds_tied_plain_at .later [] [.wider,.wider,.wider,.wider,.data] true (true,"8a03a18a25830f4ee6caf4f5becde7273b6f8729a9e09dca676bd27bb7561f24") true safe_row (fun _ h=>by cases h) (by kernel_rfl) (fun _ h=>by cases h) delaySafe_row_tie rfl ⟨rfl,rfl⟩ (by kernel_rfl) rfl
  (fun f fn hf hfn=>by
   obtain rfl:f=5:=Option.some.inj ((show Tryz.prog.funcNamed "hayloft/hayloftlaw18.DelaySafe" = some 5 by kernel_rfl).symm.trans hf) |>.symm;obtain rfl:fn=Tryz.f5:=(Option.some.inj (Tryz.func5.symm.trans hfn)).symm;exact ⟨by kernel_rfl,fun j t ht=>by
    rw [Tryz.params5] at ht;have hm:t∈[40,3,50,3]:=by simpa using Array.mem_of_getElem? ht
    have hall:([40,3,50,3].all fun u=>!Tryz.prog.wantsStandIn u)=true:=by kernel_rfl
    exact (show Tryz.prog.wantsStandIn t=false by simpa using List.all_eq_true.1 hall t hm)⟩)
  (by kernel_rfl)
end Go.Proofs.YtcmlnemokckbdaaGreatDoor.L8.Sf
#print axioms Go.Proofs.YtcmlnemokckbdaaGreatDoor.L8.Sf.safe_card
