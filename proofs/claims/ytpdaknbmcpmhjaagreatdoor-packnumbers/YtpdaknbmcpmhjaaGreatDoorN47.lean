/- Parts Xp. -/
import Derived.Test.YtpdaknbmcpmhjaaGreatDoorN45
import Derived.Test.YtpdaknbmcpmhjaaGreatDoorN46
set_option maxRecDepth 100000
namespace Go.Proofs.YtpdaknbmcpmhjaaGreatDoor.Pc
open Go.ChangeShapes Go.WideShapes Go.ChangeAt Go.RowKit
open YtpdaknbmcpmhjaaGreatDoor.Op YtpdaknbmcpmhjaaGreatDoor.Bu
theorem numbers_wit (os:Os) (H:Type) (enc:TypeId×Value->H):∃ (w:World) (tape:Tape) (i:Input),w.os=os/\(w.forCall tape i).Shaped Tryz.prog/\i.vars=[]/\Input.okWide Tryz.prog (w.forCall tape i) .any w.heap.size 8 i /\
   ((Rows.packNumbersSpec.pre enc Tryz.prog Tryz.f8 [] false (w.forCall tape i).memory i.args/\laidMetH Tryz.prog Rows.packNumbersRow.laid (w.forCall tape i).memory)/\sizedMet enc Tryz.prog Tryz.f8 (OpenSpec.ofChange Rows.packNumbersSpec) false (w.forCall tape i).memory i.args)/\Assume.holds {} Tryz.prog (lone (Frame.enter Tryz.prog 8 i.args .normal) [] (w.forCall tape i)):=
 ChangeSpec.witness_shaped (enc:=enc) (C:=Tryz.checked) (os:=os) (X:=fun w _=>laidMetH Tryz.prog Rows.packNumbersRow.laid w) false ((World.holding Tryz.prog os ⟨#[],#[],[]⟩).layVars Tryz.prog laid5) #[.agg #[.slice none 0 0,.slice none 0 0,.slice none 0 0],.agg #[.int .i64 0,.int .i64 0,.int .i64 0,.int .i64 0,.int .i64 0,.int .i64 0,.int .i64 0,.int .i64 0,.int .i64 0,.int .i64 0,.int .i64 0,.int .i64 0,.int .i64 0]] 8 (wit_os5 os)
  (World.shaped_of_ZipB (by kernel_rfl) (by kernel_rfl)) (by kernel_rfl) (by kernel_rfl) (by kernel_rfl) (wit_met5 os _)
theorem numbers_lifted (os:Os) (started:os.Started) (H:Type) (enc:TypeId×Value->H) :
  ReturnsInHanded {} Tryz.checked os 8 .any (fun w args=>(Rows.packNumbersSpec.pre enc Tryz.prog Tryz.f8 [] false w args/\laidMetH Tryz.prog Rows.packNumbersRow.laid w)/\sizedMet enc Tryz.prog Tryz.f8 (OpenSpec.ofChange Rows.packNumbersSpec) false w args)
   (Rows.packNumbersSpec.post enc Tryz.prog Tryz.f8 false true false false):=by
 refine wrap started (by kernel_rfl) Tryz.func8 (numbers_wit os H enc) ?_;intro W base args ds gs before hval0 hW hsz hL hsh;have hval:∀ (j:Nat) t v,Tryz.f8.params[j]?=some t->args[j]?=some v->Value.okWide Tryz.prog W .any base t v:=hval0;have hW':=hW;obtain ⟨p,q,hA0,hV,rfl,_,_⟩:=hW;have hA:DataW.TrodAll enc Tryz.prog W 0 (fun _=>true) true Tryz.f8.params.toList args.toList ds p:=hA0;rw [Tryz.params8] at hA hval hsz;obtain ⟨v0,v1,d0,d1,p0,p1,rfl,rfl,rfl,h0,h1⟩:=trodAll_two hA;obtain ⟨rfl,rfl⟩:=trodVars_none hV;obtain ⟨wa,ta,ba,n,wc,tn,tc,bn,bc,g,rfl,hc,hn,htn,hws⟩:=open_pk (hval 0 73 v0 rfl rfl) h0 fun n hn=>by
  have:=List.all_eq_true.1 hsz n (DataW.weights_mem_each (j:=0) rfl rfl n hn)
  simpa using this
 obtain ⟨⟨t,rfl⟩,rfl⟩:=open_tab (hval 1 27 v1 rfl rfl) h1;simp only [List.append_nil] at hW';refine (_root_.Go.Proofs.YtpdaknbmcpmhjaaGreatDoor.Pk.law_numbers wa ta ba n wc tn tc bn bc g t W hws hc (env5 hL hsh) hn (Nat.le_trans htn (by unfold maxLen;decide))).mono fun e W' ⟨he,hb⟩=>?_;subst he;refine ⟨_,rfl,_,_,_,[],p0++[],[],hW',trodAll_mk1 (shut_bool Tryz.underlying4 _),?_,rfl,hb.frame _,fun h=>by cases h⟩;rw [Tryz.params8];exact trodAll_mk2 (Below.trod laidOut (by kernel_rfl) (by rw [tySize];decide) h0 hb fun x hx=>by obtain ⟨fuel,hf⟩:=h0;exact DataW.trod_lt _ _ _ _ hf x hx) (Below.trod laidOut (by kernel_rfl) (by rw [tySize];decide) h1 hb (fun x hx=>by cases hx))
end Go.Proofs.YtpdaknbmcpmhjaaGreatDoor.Pc
