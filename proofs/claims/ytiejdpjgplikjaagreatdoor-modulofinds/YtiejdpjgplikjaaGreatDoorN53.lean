/- The statement ModuloFinds, whole: there is a plan for every body, no slower than its rounds one behind the other; the listed variables are tied to the program text. Conditions: none. -/
import Derived.Test.YtiejdpjgplikjaaGreatDoorN51
import Derived.Test.YtiejdpjgplikjaaGreatDoorN52
set_option maxRecDepth 100000
namespace Go.Proofs.YtiejdpjgplikjaaGreatDoor.Mc
open Go.ChangeShapes Go.WideShapes Go.ChangeAt Go.RowKit
open YtiejdpjgplikjaaGreatDoor.Op
theorem mfinds_wit (os:Os) (H:Type) (enc:TypeId×Value->H):∃ (w:World) (tape:Tape) (i:Input),w.os=os/\(w.forCall tape i).Shaped Tryz.prog/\i.vars=[]/\Input.okWide Tryz.prog (w.forCall tape i) .any w.heap.size 3 i /\
   ((Rows.moduloFindsSpec.pre enc Tryz.prog Tryz.f3 [] false (w.forCall tape i).memory i.args/\laidMetH Tryz.prog Rows.moduloFindsRow.laid (w.forCall tape i).memory)/\sizedMet enc Tryz.prog Tryz.f3 (OpenSpec.ofChange Rows.moduloFindsSpec) false (w.forCall tape i).memory i.args)/\Assume.holds {} Tryz.prog (lone (Frame.enter Tryz.prog 3 i.args .normal) [] (w.forCall tape i)):=
 ChangeSpec.witness_shaped (enc:=enc) (C:=Tryz.checked) (os:=os) (X:=fun w _=>laidMetH Tryz.prog Rows.moduloFindsRow.laid w) false ((World.holding Tryz.prog os ⟨#[],#[],[]⟩).layVars Tryz.prog laid4) #[.slice none 0 0,.agg #[.int .i64 0,.int .i64 0,.int .i64 0,.int .i64 0,.int .i64 0,.int .i64 0,.int .i64 0,.int .i64 0,.int .i64 0,.int .i64 0,.int .i64 0,.int .i64 0,.int .i64 0]] 8 (wit_os4 os)
  (World.shaped_of_ZipB (by kernel_rfl) (by kernel_rfl)) (by kernel_rfl) (by kernel_rfl) (by kernel_rfl) (wit_met4 os _)
theorem mfinds_lifted (os:Os) (started:os.Started) (H:Type) (enc:TypeId×Value->H) :
  ReturnsInHanded {} Tryz.checked os 3 .any (fun w args=>(Rows.moduloFindsSpec.pre enc Tryz.prog Tryz.f3 [] false w args/\laidMetH Tryz.prog Rows.moduloFindsRow.laid w)/\sizedMet enc Tryz.prog Tryz.f3 (OpenSpec.ofChange Rows.moduloFindsSpec) false w args)
   (Rows.moduloFindsSpec.post enc Tryz.prog Tryz.f3 false true false false):=by
 refine wrap started (by kernel_rfl) Tryz.func3 (mfinds_wit os H enc) ?_;intro W base args ds gs before hval0 hW hsz hL hsh;have hval:∀ (j:Nat) t v,Tryz.f3.params[j]?=some t->args[j]?=some v->Value.okWide Tryz.prog W .any base t v:=hval0;have hW':=hW;obtain ⟨p,q,hA0,hV,rfl,_,_⟩:=hW;have hA:DataW.TrodAll enc Tryz.prog W 0 (fun _=>true) true Tryz.f3.params.toList args.toList ds p:=hA0;rw [Tryz.params3] at hA hval hsz;obtain ⟨v0,v1,d0,d1,p0,p1,rfl,rfl,rfl,h0,h1⟩:=trodAll_two hA;obtain ⟨rfl,rfl⟩:=trodVars_none hV;obtain ⟨ao,cap,xs,rfl,hp,hc⟩:=open_ops (hval 0 22 v0 rfl rfl) h0 fun n hn=>by
  have:=List.all_eq_true.1 hsz n (DataW.weights_mem_each (j:=0) rfl rfl n hn)
  simpa using this
 obtain ⟨⟨t,rfl⟩,rfl⟩:=open_tab (hval 1 25 v1 rfl rfl) h1;simp only [List.append_nil] at hW';refine (Mo.law_finds ao cap xs t W hp hc (env4 hL hsh)).mono fun e W' ⟨he,hb⟩=>?_;subst he;refine ⟨_,rfl,_,_,_,[],p0++[],[],hW',trodAll_mk1 (shut_bool Tryz.underlying4 _),?_,rfl,hb.frame _,fun h=>by cases h⟩;rw [Tryz.params3];exact trodAll_mk2 (Below.trod laidOut (by kernel_rfl) (by rw [tySize];decide) h0 hb fun x hx=>by obtain ⟨fuel,hf⟩:=h0;exact DataW.trod_lt _ _ _ _ hf x hx) (Below.trod laidOut (by kernel_rfl) (by rw [tySize];decide) h1 hb (fun x hx=>by cases hx))
theorem mfinds_row:Rows.ModuloFindsSaid:=
 OpenClaim.holds_of_wide 3 Tryz.f3 rfl rfl rfl rfl rfl rfl rfl ⟨rfl,rfl,rfl,rfl,rfl⟩ rfl rfl rfl rfl rfl (by kernel_rfl) Tryz.func3 (by kernel_rfl)
  (of_decide_eq_true (by kernel_rfl)) (by unfold Func.isWrapper;first|(rw [if_pos (by decide +kernel)];kernel_rfl)|(rw [if_neg (by decide +kernel)];exact ⟨rfl,rfl⟩))
  (fun os started H enc _=>mfinds_lifted os started H enc)
theorem mfinds_card:Rows.ModuloFindsCardSaid:=
 Claim7.holds_tied_plain_at .later [] [.wider,.wider,.wider,.wider] true (true,"894b57c6d0bd219abb081a01f74be85caa98d16512bc31ffa1e1fad7dcb77902") false mfinds_row (fun _ h=>by cases h) (by kernel_rfl) (fun _ h=>by cases h) moduloFinds_row_tie rfl ⟨rfl,rfl⟩ (by kernel_rfl) rfl
  (fun f fn hf hfn=>by
   obtain rfl:f=3:=Option.some.inj ((show Tryz.prog.funcNamed "hayloft/hayloftlaw16.ModuloFinds" = some 3 by kernel_rfl).symm.trans hf) |>.symm;obtain rfl:fn=Tryz.f3:=(Option.some.inj (Tryz.func3.symm.trans hfn)).symm;exact ⟨by kernel_rfl,fun j t ht=>by
    rw [Tryz.params3] at ht;have hm:t∈[22,25]:=by simpa using Array.mem_of_getElem? ht
    have hall:([22,25].all fun u=>!Tryz.prog.wantsStandIn u)=true:=by kernel_rfl
    exact (show Tryz.prog.wantsStandIn t=false by simpa using List.all_eq_true.1 hall t hm)⟩)
  (by kernel_rfl)
end Go.Proofs.YtiejdpjgplikjaaGreatDoor.Mc
#print axioms Go.Proofs.YtiejdpjgplikjaaGreatDoor.Mc.mfinds_card
