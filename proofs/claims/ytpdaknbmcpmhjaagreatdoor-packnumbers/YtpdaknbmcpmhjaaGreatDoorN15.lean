/- Parts Vf Vg Wc We. -/
import Derived.Test.YtpdaknbmcpmhjaaGreatDoorN14
import Derived.Test.YtpdaknbmcpmhjaaGreatDoorN12
import Derived.Deep.RegionHeld3
import Derived.Test.YtpdaknbmcpmhjaaGreatDoorN00
set_option maxRecDepth 20000
set_option maxHeartbeats 8000000
namespace Go.Proofs.YtpdaknbmcpmhjaaGreatDoor.Rv
open Go.ChangeShapes Go.WideShapes Go.ChangeAt Go.RowKit Go.Maps
open YtpdaknbmcpmhjaaGreatDoor.Op YtpdaknbmcpmhjaaGreatDoor.So
open YtpdaknbmcpmhjaaGreatDoor.Tb (Tab TabAt Bnds)
open Go.ChangeMaps (setBlock heap_setBlock_same heap_setBlock_other modify_eq_set)
theorem drew_up (w:World):Below w.heap.size w w.drew:=⟨rfl,rfl,rfl,Nat.le_refl _,fun _ _=>rfl⟩
theorem entry_upd {H:Type} {P:Program} {w:World} {t k e:TypeId} {R:Value->Option (DataW H×List MemPlace)} {b:Nat} {es:Array MapEntry} {clock:Nat} (K:WideMaps.KeyLaw P k) (ht:P.underlying t=some (.map k e)) {z:Value} (hz:∀ u:World,(zeroValue e).run P u=.ok z u) (hb:w.heap[b]?=some (.map es clock)) (F:WideElems.Fit P k R es clock) {key:Value} {kl:Lit} (hkey:keyOf P k key=some kl) :
  ∃ (v0:Value) (st:Int) (w1:World),(Instr.mapEntry t (.map (some b)) key).run P w=.ok (.tuple #[v0,goInt st]) w1/\(Instr.mapUpdate t (.map (some b)) key v0).run P w=.ok () w1/\(Instr.lookup t (.map (some b)) key false).run P w=.ok v0 w:=by
 rcases K.find w hkey es.toList F.keys with ⟨h1,-⟩|⟨j,e0,h1,h2,h3⟩
 ·refine ⟨z,clock,setBlock w b (.map (es.push ⟨key,z,clock⟩) (clock+1)),?_,?_,?_⟩
  ·simp [Instr.mapEntry,run_underlying ht,MapKept.run_getObj_map hb,K.check w false hkey,h1,hz,MapKept.run_setObj_map _ hb,Result.andThen,setBlock]
  ·simp [Instr.mapUpdate,run_underlying ht,MapKept.run_getObj_map hb,K.check w false hkey,h1,MapKept.run_setObj_map _ hb,Result.andThen,setBlock]
  ·simp [Instr.lookup,run_underlying ht,MapKept.run_getObj_map hb,K.check w _ hkey,h1,hz,Result.andThen]
 ·have hj:es[j]?=some e0:=by simpa using h2
  have keep:∀ g:MapEntry->MapEntry,g e0=e0->es.modify j g=es:=fun g hg=>by
   apply Array.ext'
   rw [Array.toList_modify,modify_eq_set _ _ _ _ h2,hg];exact WideElems.set_self _ _ _ h2
  have s1:es.modify j (fun e=>{ e with key:=key })=es:=keep _ (by rw [<- h3]);have s2:es.modify j (fun e=>{ e with key:=key,val:=e0.val })=es:=keep _ (by rw [<- h3]);refine ⟨e0.val,e0.born,setBlock w b (.map es clock),?_,?_,?_⟩
  ·simp [Instr.mapEntry,run_underlying ht,MapKept.run_getObj_map hb,K.check w false hkey,h1,hj,h3,K.stays w hkey,s1,MapKept.run_setObj_map _ hb,Result.andThen,setBlock]
  ·simp [Instr.mapUpdate,run_underlying ht,MapKept.run_getObj_map hb,K.check w false hkey,h1,hj,h3,K.stays w hkey,s2,MapKept.run_setObj_map _ hb,Result.andThen,setBlock]
  ·simp [Instr.lookup,run_underlying ht,MapKept.run_getObj_map hb,K.check w _ hkey,h1,Result.andThen]
theorem Cm.entry {w:World} {mb n:Nat} {f:Int->Int->Int} (h:Cm w mb n f) (hn:n<maxLen) {a b:Int} (ha:I64 a) (hb:I64 b) (hf:I64 (f a b)):∃ (v0:Value) (st:Int) (w1:World),(Instr.mapEntry 302 (.map (some mb)) (.agg #[.int .i64 a,.int .i64 b])).run Tryz.prog w=.ok (.tuple #[v0,.int .i64 st]) w1/\Fr (One mb) w w1/\(Instr.lookup 302 (.map (some mb)) (.agg #[.int .i64 a,.int .i64 b]) false).run Tryz.prog w1=.ok (.int .i64 (f a b)) w1 /\
  ∀ v,I64 v->∃ w2,(Instr.entryStore 302 (.map (some mb)) (.int .i64 st) (.int .i64 v)).run Tryz.prog w1=.ok () w2/\Fr (One mb) w w2/\Cm w2 mb (n+1) (fun c d=>if c=a/\d=b then v else f c d):=by
 have hlk:=h.look ha hb;obtain ⟨D,hown,hat⟩:=h.own;have hown':=hown;obtain ⟨es,clock,hbk,F,hs,-⟩:=hown;obtain ⟨v0,st,es1,clock1,hrun,-,hst⟩:=WideElems.entry_then_store klaw57 Tryz.underlying302 (z:=.int .i64 0) zero3 hbk F (key57 ha hb);obtain ⟨v1,st1,w1,g1,g2,g3⟩:=entry_upd klaw57 Tryz.underlying302 (z:=.int .i64 0) zero3 hbk F (key57 ha hb);have hv1:v1=.int .i64 (f a b):=by
  rw [hlk] at g3
  injection g3 with g3 _
  exact g3.symm
 subst hv1;have hfr:∀ (es':Array MapEntry) (clock':Nat),Fr (One mb) w (setBlock w mb (.map es' clock')):=fun es' clock'=>⟨rfl,rfl,rfl,by simp [setBlock],fun i _ hi=>heap_setBlock_other hbk _ hi⟩;have hw1:setBlock w mb (.map es1 clock1)=w1:=by
  rw [hrun] at g1
  injection g1
 have hlk1:(Instr.lookup 302 (.map (some mb)) (.agg #[.int .i64 a,.int .i64 b]) false).run Tryz.prog w1=.ok (.int .i64 (f a b)) w1:=by
  obtain ⟨w',h3,h4,h5⟩:=hown'.update law57 Tryz.underlying302 hn (key57 ha hb) (plainElem_int Tryz.underlying3 (wf64i hf));rw [g2] at h3;have e:w1=w':=by injection h3
  subst e;have hc:Cm w1 mb (n+1) (fun c d=>if c=a/\d=b then f a b else f c d):=⟨_,h4,fun c d hc hd=>by
   by_cases e:c=a/\d=b
   ·obtain ⟨rfl,rfl⟩:=e;rw [if_pos ⟨rfl,rfl⟩,atKey_put_same hown'.isMap (kl_key _ _)]
   ·rw [if_neg e,atKey_put_other (fun e2=>e (kl_inj hc hd ha hb e2)),hat c d hc hd]⟩
  have:=hc.look ha hb
  rw [if_pos ⟨rfl,rfl⟩] at this;exact this
 rw [<- hw1] at hlk1;refine ⟨v0,(st:Int),_,hrun,hfr _ _,hlk1,fun v hv=>?_⟩;obtain ⟨es',clock',h1,h2⟩:=hst _ (.int .i64 v) (heap_setBlock_same hbk _);obtain ⟨w',h3,h4,h5⟩:=hown'.update law57 Tryz.underlying302 hn (key57 ha hb) (plainElem_int Tryz.underlying3 (wf64i hv));rw [h2] at h3;have hw':setBlock w mb (.map es' clock')=w':=by injection h3
 subst hw';have hb1:(setBlock w mb (.map es1 clock1)).heap[mb]?=some (.map es1 clock1):=heap_setBlock_same hbk _;refine ⟨_,h1,?_,⟨D.put (kl a b) (.lit (.int .i64 v)),?_,?_⟩⟩
 ·exact (hfr es1 clock1).same ⟨rfl,rfl,rfl,by simp [setBlock],fun i _ hi=>heap_setBlock_other hb1 _ hi⟩
 ·obtain ⟨es2,clock2,q1,q2⟩:=h4;rw [heap_setBlock_same hbk] at q1;exact ⟨es2,clock2,by rw [heap_setBlock_same hb1];exact q1,q2⟩
 ·intro c d hc hd
  by_cases e:c=a/\d=b
  ·obtain ⟨rfl,rfl⟩:=e;rw [if_pos ⟨rfl,rfl⟩,atKey_put_same hown'.isMap (kl_key _ _)]
  ·rw [if_neg e,atKey_put_other (fun e2=>e (kl_inj hc hd ha hb e2)),hat c d hc hd]
def addK (ev:Option Int) (f:Int->Int->Int) (cl first:Int) (k:Nat):Int->Int->Int:=fun a b=>if a=cl then f a b+tms ev first b k else f a b
theorem addK_0 (ev:Option Int) (f:Int->Int->Int) (cl first:Int):addK ev f cl first 0=f:=by
 funext a b
 unfold addK tms
 split <;> simp
theorem addK_next (ev:Option Int) (f:Int->Int->Int) (cl first:Int) (k:Nat):(fun c d=>if c=cl/\d=tn ev (first+k) then addK ev f cl first k cl (tn ev (first+k))+1 else addK ev f cl first k c d)=addK ev f cl first (k+1):=by
 funext c d
 unfold addK
 by_cases hc:c=cl
 ·subst hc;simp only [true_and,if_true];show _=f c d+(tms ev first d k+if tn ev (first+k)=d then 1 else 0)
  by_cases hd:d=tn ev (first+k)
  ·subst hd;rw [if_pos rfl,if_pos rfl];omega
  ·rw [if_neg hd,if_neg fun e=>hd e.symm];omega
 ·simp only [hc,false_and,if_false]
theorem tms_pos {ev:Option Int} {first cyc:Int} : ∀ {k:Nat},0<tms ev first cyc k->∃ j,j<k/\tn ev (first+(j:Nat))=cyc
 | 0,h=>by have h:(0:Int)<0:=h;omega
 | k+1,h=>by
  by_cases e:tn ev (first+k)=cyc
  ·exact ⟨k,by omega,e⟩
  ·have h:0<tms ev first cyc k+(if tn ev (first+k)=cyc then 1 else 0):=h
   rw [if_neg e] at h;obtain ⟨j,hj,e2⟩:=tms_pos (ev:=ev) (first:=first) (cyc:=cyc) (k:=k) (by omega);exact ⟨j,by omega,e2⟩
theorem tms_mono (ev:Option Int) (first cyc:Int) {k:Nat} : ∀ {m:Nat},k<=m->tms ev first cyc k<=tms ev first cyc m
 | 0,h=>by
  obtain rfl:k=0:=by omega
  exact Int.le_refl _
 | m+1,h=>by
  by_cases e:k=m+1
  ·rw [e];exact Int.le_refl _
  ·have:=tms_mono ev first cyc (k:=k) (m:=m) (by omega)
   have h2:tms ev first cyc (m+1)=tms ev first cyc m+(if tn ev (first+m)=cyc then 1 else 0):=rfl
   rw [h2]
   split <;> omega
theorem add_few {t:Tab} {ev:Option Int} {f:Int->Int->Int} {c:Nat} {first:Int} (hf:Few f) (hu:t.u c<=8) (h:ftB t ev f c first=true) {k:Nat} (hk:k<=(t.b c).toNat):Few (addK ev f c first k):=fun a b=>by
 have h1:=hf a b;have h2:=tms_in ev first b k
 unfold addK
 split
 ·rename_i ha;subst ha;refine ⟨by omega,?_⟩
  by_cases h0:0<tms ev first b (t.b c).toNat
  ·obtain ⟨j,hj,e⟩:=tms_pos h0;unfold ftB at h;have h3:=List.all_eq_true.1 h j (List.mem_range.2 hj);have h3:ft1 t ev f c first j:=by unfold ft1;simpa using h3
   unfold ft1 at h3;rw [e] at h3
   have:=tms_mono ev first b hk
   omega
  ·have:=tms_mono ev first b hk
   omega
 ·exact h1
def tkF (t:Tab) (ev:Option Int) (f:Int->Int->Int) (cl cyc:Int):Int->Int->Int:=if frB t ev f cl cyc=true then addK ev f cl (tn ev cyc) (t.b cl.toNat).toNat else f
theorem fr_parts {t:Tab} {ev:Option Int} {f:Int->Int->Int} {cl cyc:Int} (h:frB t ev f cl cyc=true):(0<=cl/\cl<=3)/\(0<=tn ev cyc/\tn ev cyc<=65536)/\ftB t ev f cl.toNat (tn ev cyc)=true:=by
 unfold frB at h;simpa [and_assoc] using h
theorem tk_few {t:Tab} {ev:Option Int} {f:Int->Int->Int} (hf:Few f) (ht:t.ok=true) (cl cyc:Int):Few (tkF t ev f cl cyc):=by
 unfold tkF
 split
 ·rename_i h;obtain ⟨⟨h1,h2⟩,-,h3⟩:=fr_parts h;obtain ⟨c,rfl⟩:∃ c:Nat,cl=c:=⟨cl.toNat,by omega⟩;have p:=((Tb.ok_parts ht).2 c (by omega)).1;rw [Int.toNat_natCast] at h3 ⊢;exact add_few hf (Tb.inB_iff p).2 h3 (Nat.le_refl _)
 ·exact hf
theorem take_any {rb mb n:Nat} {t:Tab} {ev:Option Int} {f:Int->Int->Int} (cl cyc:Int) (w:World) (h:RAt w rb t ev mb n f) (hv:evOk ev) (hf:Few f) (ht:t.ok=true) (hn:n<=1000000) :
  Calls Tryz.prog 219 #[.pointer (some ⟨rb,0,none⟩),.int .i64 cl,.int .i64 cyc] w fun e w'=>e=.returned (.bool (frB t ev f cl cyc))/\∃ n',RAt w' rb t ev mb n' (tkF t ev f cl cyc)/\n'<=n+4/\Fr (One mb) w w':=by
 have HFr:Hid (∀ W,Below w.heap.size w W->Calls Tryz.prog 159 #[.pointer (some ⟨rb,0,none⟩),.int .i64 cl,.int .i64 cyc] W fun e w'=>e=.returned (.bool (frB t ev f cl cyc))/\Below W.heap.size W w'):=fun W hb=>free_any cl cyc W (h.up hb) hv hf ht;unfold tkF
 cases hfb:frB t ev f cl cyc
 ·rw [hfb] at HFr;rw [if_neg (by decide)];have HR:Hid (∀ W,Below w.heap.size w W->RAt W rb t ev mb n f):=fun W hb=>h.up hb;clear h hv hf hfb;go_enter Tryz.func219,Tryz.ntmps219;go_wp2_with (first|(go_at_call 159;refine Calls.mono (HFr.out _ (Below.refl _ _)) ?_;rintro e w1 ⟨rfl,b1⟩;have HB:Hid (Below w.heap.size w w1):=b1;clear b1 HFr))
  go_ret
  exact ⟨rfl,n,HR.out _ HB.out,by omega,Fr.of HB.out⟩
 ·rw [hfb] at HFr;rw [if_pos rfl];obtain ⟨⟨c0,c1⟩,⟨h0,h1⟩,h3⟩:=fr_parts hfb;clear hfb;obtain ⟨c,rfl⟩:∃ c:Nat,cl=c:=⟨cl.toNat,by omega⟩;rw [Int.toNat_natCast] at h3 ⊢;have hc:c<4:=by omega
  have c4:(c:Int)<4:=by omega
  obtain ⟨p1,p2,p3⟩:=(Tb.ok_parts ht).2 c hc;have huu:=Tb.inB_iff p1;have hbb:=Tb.inB_iff p3;obtain ⟨B,hB⟩:∃ B:Nat,t.b c=B:=⟨(t.b c).toNat,by omega⟩;have hB4:B<=4:=by omega
  rw [hB,Int.toNat_natCast];clear p1 p2 p3 hbb ht
  cases ev with
  | none=>
   obtain ⟨first,hfi⟩:∃ first,tn (none) cyc=first:=⟨_,rfl⟩
   rw [hfi] at h0 h1 h3 ⊢;have HT:Hid (∀ W,Calls Tryz.prog 216 #[.agg #[],.int .i64 cyc] W fun e w'=>e=.returned (.int .i64 first)/\Below W.heap.size W w'):=fun W=>by rw [<- hfi];exact row_any _ W
   have HK:Hid (∀ W k n' g,RAt W rb t (none) mb n' g->k<4->Calls Tryz.prog 263 #[.pointer (some ⟨rb,0,none⟩),.int .i64 (c:Int),.int .i64 first,.int .i64 ((k:Nat):Int)] W fun e w'=>e=.returned (.agg #[.int .i64 (c:Int),.int .i64 (tn (none) (first+k))])/\Below W.heap.size W w'):=fun W k n' g hr hk=>kept_any _ _ _ W hr hv (by rw [IntKind.wrap_i64];omega);have HZs:Hid (∀ k,k<4->I64 (tn (none) (first+(k:Nat)))):=fun k hk=>tn_in hv (by unfold I64;omega);have HFs:Hid (∀ k,k<=B->Few (addK (none) f c first k)):=fun k hk=>add_few hf huu.2 h3 (by rw [hB];simpa using hk);have HR:Hid (∀ W,Below w.heap.size w W->RAt W rb t (none) mb n f):=fun W hb=>h.up hb;have HCl:Hid (I64 (c:Int)):=by unfold I64 Hid;omega
   have HBc:Hid (t.b c=(B:Int)):=hB;clear h hv hf hfi h3 hB huu;go_enter Tryz.func219,Tryz.ntmps219;go_wp2_with (first|(go_at_call 159;refine Calls.mono (HFr.out _ (Below.refl _ _)) ?_;rintro e w1 ⟨rfl,b1⟩;have HS:Hid (RAt w1 rb t (none) mb n f/\Below w.heap.size w w1):=⟨HR.out w1 b1,b1⟩;have g0:=HS.out.1.at'.lt;have g1:=HS.out.1.b c hc;rw [HBc.out] at g1;clear b1 HFr HR))
   clear g0 g1
   go_loopw [19] (fun v wr=>∃ k:Nat,k<=B/\v=.int .i64 k/\RAt wr rb t (none) mb (n+k) (addK (none) f c first k)/\Fr (One mb) w wr) (fun v _=>B-(intOf v).toNat)
   case atStart=>exact ⟨0,by omega,rfl,by rw [addK_0];exact HS.out.1,Fr.of HS.out.2⟩
   case round=>
    rename World=>wr;obtain ⟨k,hk,rfl,hra,hfr⟩:=hrel;have HQ:Hid (RAt wr rb t (none) mb (n+k) (addK (none) f c first k)/\Fr (One mb) w wr):=⟨hra,hfr⟩;clear hra hfr HS
    by_cases hlt:k<B
    ·have k0:(k:Int)<(B:Int):=by omega
     have HZ:Hid (I64 (tn (none) (first+(k:Nat)))):=HZs.out k (by omega);have HFw:Hid (Few (addK (none) f c first k)):=HFs.out k (by omega);have HNx:Hid ((fun x y=>if x=(c:Int)/\y=tn (none) (first+(k:Nat)) then addK (none) f c first k c (tn (none) (first+(k:Nat)))+1 else addK (none) f c first k x y)=addK (none) f c first (k+1)):=addK_next (none) f c first k
     have HKx:Hid (∀ W,RAt W rb t (none) mb (n+k) (addK (none) f c first k)->Calls Tryz.prog 263 #[.pointer (some ⟨rb,0,none⟩),.int .i64 (c:Int),.int .i64 first,.int .i64 (k:Int)] W fun e w'=>e=.returned (.agg #[.int .i64 (c:Int),.int .i64 (tn (none) (first+(k:Nat)))])/\Below W.heap.size W w'):=fun W hr=>HK.out W k _ _ hr (by omega);generalize tn (none) (first+(k:Nat))=z at *;clear HK HZs HFs;go_upto_region 6 with fail
     refine wp_region_held_drew (S:=fun W=>At W rb #[.int .i64 (t.u 0),.int .i64 (t.u 1),.int .i64 (t.u 2),.int .i64 (t.u 3),.int .i64 (t.b 0),.int .i64 (t.b 1),.int .i64 (t.b 2),.int .i64 (t.b 3),.map (some mb),.func (.func 216) #[.agg #[]] #[]]) (by kernel_rfl) (HQ.out.1.at'.below (drew_up _) HQ.out.1.at'.lt) (fun zH=>?_);refine wg 0 (.pointer (some ⟨rb,0,none⟩)) rfl zH ?_;simp only [pq];refine wg 1 (.pointer (some ⟨rb,0,none⟩)) rfl zH ?_;simp only [pq];refine wg 2 (.pointer (some ⟨rb,8,none⟩)) rfl zH ?_;simp only [pq];refine wt 3 (.map (some mb)) rfl (fun w' hSw=>by (have y:=hSw.c 8 _ rfl;have yl:=hSw.lt;go_simp)) zH ?_;simp only [pq];refine wg 4 (.pointer (some ⟨rb,0,none⟩)) rfl zH ?_;simp only [pq];refine wg 5 (.int .i64 (c:Int)) rfl zH ?_;simp only [pq];refine wg 6 (.pointer (some ⟨rb,0,none⟩)) rfl zH ?_;simp only [pq];refine wg 7 (.pointer (some ⟨rb,0,none⟩)) rfl zH ?_;simp only [pq];refine wg 8 (.pointer (some ⟨rb,9,none⟩)) rfl zH ?_;simp only [pq];refine wt 9 (.func (.func 216) #[.agg #[]] #[]) rfl (fun w' hSw=>by (have y:=hSw.c 9 _ rfl;have yl:=hSw.lt;go_simp)) zH ?_;simp only [pq];refine wg 10 (.int .i64 cyc) rfl zH ?_;simp only [pq];refine wg 12 (.int .i64 (k:Int)) rfl zH ?_;simp only [pq];refine wpAnyH_ready (rs:=[11]) (by kernel_rfl) (by simp) ?_;refine AllReadyH.cons rfl (fun K hK=>?_) AllReadyH.nil;go_simp
     refine Calls.mono (HT.out _) ?_;rintro e w2 ⟨rfl,b2⟩;have HS2:Hid (RAt w2 rb t (none) mb (n+k) (addK (none) f c first k)/\Fr (One mb) w w2):=⟨HQ.out.1.up ((drew_up _).trans b2),HQ.out.2.then ((drew_up _).trans b2)⟩;clear b2;refine hK.out _ _ HS2.out.1.at' (fun zH=>?_);clear hK K;refine wpAnyH_ready (rs:=[13]) (by kernel_rfl) (by simp) ?_;refine AllReadyH.cons rfl (fun K hK=>?_) AllReadyH.nil;go_simp
     refine Calls.mono (HKx.out _ HS2.out.1) ?_;rintro e w3 ⟨rfl,b3⟩;have HS3:Hid (RAt w3 rb t (none) mb (n+k) (addK (none) f c first k)/\Fr (One mb) w w3):=⟨HS2.out.1.up b3,HS2.out.2.then b3⟩;clear b3;refine hK.out _ _ HS3.out.1.at' (fun zH=>?_);clear hK K;have hlk:=HS3.out.1.cm.look HCl.out HZ.out;have hgv:=HFw.out (c:Int) z;obtain ⟨v0,st,w4,hme,f4,hlk4,hes⟩:=HS3.out.1.cm.entry (by unfold maxLen;omega) HCl.out HZ.out (by unfold I64;omega);obtain ⟨w5,hes5,f5,m5⟩:=hes (addK (none) f c first k (c:Int) z+1) (by unfold I64;omega);have HS5:Hid (RAt w5 rb t (none) mb (n+(k+1)) (addK (none) f c first (k+1))/\Fr (One mb) w w5):=⟨⟨⟨fun j v e=>by rw [f5.cell HS3.out.1.at'.lt HS3.out.1.ne];exact HS3.out.1.at'.c j v e,fun j=>by rw [f5.frozen HS3.out.1.at'.lt HS3.out.1.ne];exact HS3.out.1.at'.f j,Nat.lt_of_lt_of_le HS3.out.1.at'.lt f5.size⟩,by rw [<- HNx.out];exact m5,HS3.out.1.ne⟩,HS3.out.2.same f5⟩;have HS4:Hid (At w4 rb #[.int .i64 (t.u 0),.int .i64 (t.u 1),.int .i64 (t.u 2),.int .i64 (t.u 3),.int .i64 (t.b 0),.int .i64 (t.b 1),.int .i64 (t.b 2),.int .i64 (t.b 3),.map (some mb),.func (.func 216) #[.agg #[]] #[]]):=⟨fun j v e=>by rw [f4.cell HS3.out.1.at'.lt HS3.out.1.ne];exact HS3.out.1.at'.c j v e,fun j=>by rw [f4.frozen HS3.out.1.at'.lt HS3.out.1.ne];exact HS3.out.1.at'.f j,Nat.lt_of_lt_of_le HS3.out.1.at'.lt f4.size⟩;clear m5 f5 f4 hes HS2;obtain ⟨gv,hgv2⟩:∃ gv,addK (none) f c first k (c:Int) z=gv:=⟨_,rfl⟩
     rw [hgv2] at hlk hlk4 hes5 hgv;clear hgv2;have hwr:IntKind.i64.wrap (gv+1)=gv+1:=by rw [IntKind.wrap_i64];omega
     refine wpAnyH_ready (rs:=[14,16]) (by kernel_rfl) (by simp) ?_;refine AllReadyH.cons rfl (fun K hK=>?_) (AllReadyH.cons rfl (fun K hK=>?_) AllReadyH.nil)
     ·go_simp
      refine hK.out _ _ HS3.out.1.at' (fun zH=>?_);clear hK K;refine wg 15 (.int .i64 (gv+1)) rfl zH ?_;simp only [pq];refine wpAnyH_ready (rs:=[16]) (by kernel_rfl) (by simp) ?_;refine AllReadyH.cons rfl (fun K hK=>?_) AllReadyH.nil;go_simp
      refine hK.out _ _ HS4.out (fun zH=>?_);clear hK K;refine wg 17 (.int .i64 st) rfl zH ?_;simp only [pq];refine wpAnyH_ready (rs:=[18]) (by kernel_rfl) (by simp) ?_;refine AllReadyH.cons rfl (fun K hK=>?_) AllReadyH.nil;go_simp
      refine hK.out _ _ HS5.out.1.at' (fun zH=>?_);clear hK K;refine wpAnyH_done (by kernel_rfl) ?_ _;clear hlk hlk4 hme hes5 HS3 HS4;go_wp2
      go_roundw
      case rel=>exact ⟨k+1,by omega,by go_num,HS5.out.1,HS5.out.2⟩
      case measure=>simp [intOf];omega
     ·go_simp
      refine hK.out _ _ HS4.out (fun zH=>?_);clear hK K;refine wg 17 (.int .i64 st) rfl zH ?_;simp only [pq];refine wpAnyH_ready (rs:=[14]) (by kernel_rfl) (by simp) ?_;refine AllReadyH.cons rfl (fun K hK=>?_) AllReadyH.nil;go_simp
      refine hK.out _ _ HS4.out (fun zH=>?_);clear hK K;refine wg 15 (.int .i64 (gv+1)) rfl zH ?_;simp only [pq];refine wpAnyH_ready (rs:=[18]) (by kernel_rfl) (by simp) ?_;refine AllReadyH.cons rfl (fun K hK=>?_) AllReadyH.nil;go_simp
      refine hK.out _ _ HS5.out.1.at' (fun zH=>?_);clear hK K;refine wpAnyH_done (by kernel_rfl) ?_ _;clear hlk hlk4 hme hes5 HS3 HS4;go_wp2
      go_roundw
      case rel=>exact ⟨k+1,by omega,by go_num,HS5.out.1,HS5.out.2⟩
      case measure=>simp [intOf];omega
    ·obtain rfl:k=B:=by omega
     have k0:¬ (k:Int)<(k:Int):=by omega
     go_wp2
     go_ret
     exact ⟨rfl,n+k,HQ.out.1,by omega,HQ.out.2⟩
  | some _=>exact hv.elim
end Go.Proofs.YtpdaknbmcpmhjaaGreatDoor.Rv
namespace Go.Proofs.YtpdaknbmcpmhjaaGreatDoor.Rv
open Go.ChangeShapes Go.WideShapes Go.ChangeAt Go.RowKit Go.Maps
open YtpdaknbmcpmhjaaGreatDoor.Op YtpdaknbmcpmhjaaGreatDoor.So
open YtpdaknbmcpmhjaaGreatDoor.Tb (Tab TabAt Bnds)
theorem nothing_any (t:Tab) (w:World):Calls Tryz.prog 215 #[t.val,fv none] w fun e w'=>e=.returned (.pointer (some ⟨w.heap.size+2,0,none⟩))/\RAt w' (w.heap.size+2) t none (w.heap.size+1) 0 (fun _ _=>0)/\Below w.heap.size w w':=by
 have HR:Hid (RAt (((w.alloc (.cells t.cells 27)).alloc (.map #[] 0)).alloc (.cells #[.int .i64 (t.u 0),.int .i64 (t.u 1),.int .i64 (t.u 2),.int .i64 (t.u 3),.int .i64 (t.b 0),.int .i64 (t.b 1),.int .i64 (t.b 2),.int .i64 (t.b 3),.map (some (w.heap.size+1)),.func (.func 216) #[.agg #[]] #[]] 304)) (w.heap.size+2) t (none) (w.heap.size+1) 0 (fun _ _=>0)/\Below w.heap.size w (((w.alloc (.cells t.cells 27)).alloc (.map #[] 0)).alloc (.cells #[.int .i64 (t.u 0),.int .i64 (t.u 1),.int .i64 (t.u 2),.int .i64 (t.u 3),.int .i64 (t.b 0),.int .i64 (t.b 1),.int .i64 (t.b 2),.int .i64 (t.b 3),.map (some (w.heap.size+1)),.func (.func 216) #[.agg #[]] #[]] 304))):=by
  have e1:(w.alloc (.cells t.cells 27)).heap.size=w.heap.size+1:=by simp
  have e2:((w.alloc (.cells t.cells 27)).alloc (.map #[] 0)).heap.size=w.heap.size+2:=by simp
  refine ⟨⟨?_,?_,by omega⟩,by go_grown⟩
  ·have:=At.new ((w.alloc (.cells t.cells 27)).alloc (.map #[] 0)) #[.int .i64 (t.u 0),.int .i64 (t.u 1),.int .i64 (t.u 2),.int .i64 (t.u 3),.int .i64 (t.b 0),.int .i64 (t.b 1),.int .i64 (t.b 2),.int .i64 (t.b 3),.map (some (w.heap.size+1)),.func (.func 216) #[.agg #[]] #[]] 304
   rw [e2] at this;exact this
  ·have:=(Cm.made (w.alloc (.cells t.cells 27))).below (w':=(((w.alloc (.cells t.cells 27)).alloc (.map #[] 0)).alloc (.cells #[.int .i64 (t.u 0),.int .i64 (t.u 1),.int .i64 (t.u 2),.int .i64 (t.u 3),.int .i64 (t.b 0),.int .i64 (t.b 1),.int .i64 (t.b 2),.int .i64 (t.b 3),.map (some (w.heap.size+1)),.func (.func 216) #[.agg #[]] #[]] 304))) ((Below.refl _ _).alloc (Nat.le_refl _) _) (by simp)
   rw [e1] at this;exact this
 have hmm:=@run_makeMap Tryz.prog;show Calls Tryz.prog 215 #[t.val,.func (.func 216) #[.agg #[]] #[]] w _;unfold Tab.val Tab.cells at *;go_enter Tryz.func215,Tryz.ntmps215;go_wp2
 go_ret
 exact ⟨rfl,HR.out⟩
def NwOut (w:World) (t:Tab) (ev:Option Int) (e:Ending) (w':World):Prop:=∃ rb mb,e=.returned (.tuple #[.pointer (some ⟨rb,0,none⟩),.int .i64 0])/\RAt w' rb t ev mb 0 (fun _ _=>0)/\(w.heap.size<=rb/\w.heap.size<=mb)/\Below w.heap.size w w'
theorem new_ok (t:Tab) (w:World) (hG:Bnds w) (hk:Tb.ckR t=0):Calls Tryz.prog 157 #[t.val] w (NwOut w t none):=by
 have HC:Hid (∀ W,Below w.heap.size w W->Calls Tryz.prog 71 #[t.val] W fun e w'=>e=.returned (.int .i64 0)/\Below W.heap.size W w'):=fun W hb=>by rw [<- hk];exact Tb.check_any t W (hG.below hb hG.big)
 have HN:Hid (∀ W,Calls Tryz.prog 215 #[t.val,.func (.func 216) #[.agg #[]] #[]] W fun e w'=>e=.returned (.pointer (some ⟨W.heap.size+2,0,none⟩))/\RAt w' (W.heap.size+2) t none (W.heap.size+1) 0 (fun _ _=>0)/\Below W.heap.size W w'):=fun W=>nothing_any t W;clear hG hk;unfold Tab.val at *;go_enter Tryz.func157,Tryz.ntmps157;go_wp2_with (first
  | (go_at_call 71;refine Calls.mono (HC.out _ (by go_grown)) ?_;rintro e w1 ⟨rfl,b1⟩;have HT:Hid (TabAt w1 w.heap.size t/\Below w.heap.size w w1):=⟨(Tb.tabAt_new w t 27).below b1 (by simp),Below.trans (by go_grown) (b1.mono (by simp))⟩;clear b1 HC;have k2:=HT.out.1;have qu0:=k2.cu 0 (by decide);have qu1:=k2.cu 1 (by decide);have qu2:=k2.cu 2 (by decide);have qu3:=k2.cu 3 (by decide);have ql0:=k2.cl 0 (by decide);have ql1:=k2.cl 1 (by decide);have ql2:=k2.cl 2 (by decide);have ql3:=k2.cl 3 (by decide);have qb0:=k2.cb 0 (by decide);have qb1:=k2.cb 1 (by decide);have qb2:=k2.cb 2 (by decide);have qb3:=k2.cb 3 (by decide);have qd:=k2.cd;have qz:=k2.lt;clear k2)
  | (go_at_call 215;refine Calls.mono (HN.out _) ?_;rintro e w2 ⟨rfl,r2,b2⟩;have HR:Hid (RAt w2 (w1.heap.size+2) t none (w1.heap.size+1) 0 (fun _ _=>0)/\Below w.heap.size w w2/\w.heap.size<=w1.heap.size):=⟨r2,HT.out.2.trans (b2.mono HT.out.2.size),HT.out.2.size⟩;clear r2 b2 HN))
 go_ret2
 exact ⟨_,_,rfl,HR.out.1,by have:=HR.out.2.2;omega,HR.out.2.1⟩
end Go.Proofs.YtpdaknbmcpmhjaaGreatDoor.Rv
namespace Go.Proofs.YtpdaknbmcpmhjaaGreatDoor.Ls
open Go.ChangeShapes Go.WideShapes Go.ChangeAt Go.RowKit
open YtpdaknbmcpmhjaaGreatDoor.Op YtpdaknbmcpmhjaaGreatDoor.So YtpdaknbmcpmhjaaGreatDoor.Dp YtpdaknbmcpmhjaaGreatDoor.ListWay
open YtpdaknbmcpmhjaaGreatDoor.Rv (RAt Few frB tkF tk_few take_any free_any evOk)
open YtpdaknbmcpmhjaaGreatDoor.Tb (Tab TabAt Bnds)
theorem atFr {X:Nat->Prop} {w w':World} {b:Nat} {cs:Array Value} (h:At w b cs) (g:Fr X w w') (hx:¬ X b):At w' b cs:=
 ⟨fun j v e=>(g.cell h.lt hx j).trans (h.c j v e),fun j=>(g.frozen h.lt hx j).trans (h.f j),Nat.lt_of_lt_of_le h.lt g.size⟩
theorem raFr {X:Nat->Prop} {w w':World} {rb mb n:Nat} {t:Tab} {ev:Option Int} {f:Int->Int->Int} (h:RAt w rb t ev mb n f) (g:Fr X w w') (h1:¬ X rb) (h2:¬ X mb):RAt w' rb t ev mb n f:=by
 refine ⟨atFr h.at' g h1,?_,h.ne⟩;obtain ⟨D,⟨es,clock,h3,h4,h5⟩,h6⟩:=h.cm.own;exact ⟨D,⟨es,clock,by rw [g.block mb h.cm.lt h2];exact h3,h4,h5⟩,h6⟩
def frm (es:List Ed) (i:Nat):List Ed:=es.filter fun e=>decide (e.f.toNat = i)
structure Dt where
 wb:Nat
 rb:Nat
 mb:Nat
 cb:Nat
 ab:Nat
 tb:Nat
 fb:Nat
 V:Nat->Value
structure Dt.Ok (B:Nat) (d:Dt):Prop where
 r0:B<=d.rb
 m0:B<=d.mb
 rw:d.rb<d.wb
 mw:d.mb<d.wb
 wc:d.wb<d.cb
 wt:d.wb<d.tb
 wf:d.wb<d.fb
 ct:d.cb≠d.tb
 cf:d.cb≠d.fb
 tf:d.tb≠d.fb
 ca:d.cb<d.ab
 ta:d.tb<d.ab
 fa:d.fb<d.ab
def wyC (d:Dt) (ao:Option Addr) (n cap:Nat):Array Value:=#[.slice ao n cap,.pointer (some ⟨d.rb,0,none⟩),.slice (some ⟨d.cb,0,none⟩) n n,.slice (some ⟨d.ab,0,none⟩) n n,.slice (some ⟨d.tb,0,none⟩) n n,.slice (some ⟨d.fb,0,none⟩) n n]
structure Wy (w0 W:World) (d:Dt) (ao:Option Addr) (cap:Nat) (t:Tab) (xs:List O) (es:List Ed) (m:Nat) (f:Int->Int->Int) (C Wt Ff:Nat->Int):Prop where
 ok:d.Ok w0.heap.size
 up:Below w0.heap.size w0 W
 op:OpsAt w0 ao xs
 at':At W d.wb (wyC d ao xs.length cap)
 ra:RAt W d.rb t none d.mb m f
 cy:Ir W d.cb xs.length C
 wt:Ir W d.tb xs.length Wt
 fs:Ir W d.fb xs.length Ff
 af:∀ i,i<xs.length->W.cell? ⟨d.ab,i,none⟩=some (d.V i)
 al:d.ab<W.heap.size
 rw:∀ i,i<xs.length->W.ownsRow (d.ab+1) 122 5 (d.V i) (frm es i).length (ecells (frm es i))
theorem Wy.gen {X:Nat->Prop} {w0 W W':World} {d:Dt} {ao:Option Addr} {cap:Nat} {t:Tab} {xs:List O} {es:List Ed} {m m':Nat} {f f':Int->Int->Int} {C Wt Ff C' Wt' Ff':Nat->Int} (h:Wy w0 W d ao cap t xs es m f C Wt Ff) (g:Fr X W W') (hX:∀ k,X k->w0.heap.size<=k/\k<d.ab/\k≠d.wb)
  (ra:RAt W' d.rb t none d.mb m' f') (cy:Ir W' d.cb xs.length C') (wt:Ir W' d.tb xs.length Wt') (fs:Ir W' d.fb xs.length Ff'):Wy w0 W' d ao cap t xs es m' f' C' Wt' Ff':=
 ⟨h.ok,h.up.trans (g.below h.up.size fun k hk hx=>by have:=hX k hx;omega),h.op,atFr h.at' g fun hx=>(hX _ hx).2.2 rfl,ra,cy,wt,fs,
  fun i hi=>(g.cell h.al (fun hx=>by have:=hX _ hx;omega) i).trans (h.af i hi),Nat.lt_of_lt_of_le h.al g.size,
  fun i hi=>row_fr (h.rw i hi) g fun k hk hx=>by have:=((h.rw i hi).lt k hk).1;have:=hX k hx;omega⟩
theorem Wy.next {w0 W W':World} {d:Dt} {ao:Option Addr} {cap:Nat} {t:Tab} {xs:List O} {es:List Ed} {m:Nat} {f:Int->Int->Int} {C Wt Ff:Nat->Int} (h:Wy w0 W d ao cap t xs es m f C Wt Ff) (g:Below W.heap.size W W'):Wy w0 W' d ao cap t xs es m f C Wt Ff:=
 h.gen (Fr.of (X:=Non) g) (fun _ hk=>hk.elim) (h.ra.up g) (h.cy.up g) (h.wt.up g) (h.fs.up g)
theorem Wy.setC {w0 W:World} {d:Dt} {ao:Option Addr} {cap:Nat} {t:Tab} {xs:List O} {es:List Ed} {m:Nat} {f:Int->Int->Int} {C Wt Ff:Nat->Int} (h:Wy w0 W d ao cap t xs es m f C Wt Ff) {k:Nat} (hk:k<xs.length) (v:Int):Wy w0 (W.setCell ⟨d.cb,k,none⟩ (.int .i64 v)) d ao cap t xs es m f (updI C k v) Wt Ff:=by
 have g:Fr (One d.cb) W (W.setCell ⟨d.cb,k,none⟩ (.int .i64 v)):=(Fr.refl (One d.cb) W).setCell (.inr rfl) _ _;have o:=h.ok;have o1:=o.r0;have o2:=o.rw;have o3:=o.mw;have o4:=o.wc;have o5:=o.ca;refine h.gen g (fun k hk=>?_) (raFr h.ra g ?_ ?_) (h.cy.set hk v) (h.wt.fr g fun e=>o.ct e.symm) (h.fs.fr g fun e=>o.cf e.symm)
 ·have hk:k=d.cb:=hk;omega
 ·show ¬ d.rb=d.cb;omega
 ·show ¬ d.mb=d.cb;omega
theorem Wy.setT {w0 W:World} {d:Dt} {ao:Option Addr} {cap:Nat} {t:Tab} {xs:List O} {es:List Ed} {m:Nat} {f:Int->Int->Int} {C Wt Ff:Nat->Int} (h:Wy w0 W d ao cap t xs es m f C Wt Ff) {k:Nat} (hk:k<xs.length) (v:Int):Wy w0 (W.setCell ⟨d.tb,k,none⟩ (.int .i64 v)) d ao cap t xs es m f C (updI Wt k v) Ff:=by
 have g:Fr (One d.tb) W (W.setCell ⟨d.tb,k,none⟩ (.int .i64 v)):=(Fr.refl (One d.tb) W).setCell (.inr rfl) _ _;have o:=h.ok;have o1:=o.r0;have o2:=o.rw;have o3:=o.mw;have o4:=o.wt;have o5:=o.ta;refine h.gen g (fun k hk=>?_) (raFr h.ra g ?_ ?_) (h.cy.fr g o.ct) (h.wt.set hk v) (h.fs.fr g fun e=>o.tf e.symm)
 ·have hk:k=d.tb:=hk;omega
 ·show ¬ d.rb=d.tb;omega
 ·show ¬ d.mb=d.tb;omega
theorem Wy.setF {w0 W:World} {d:Dt} {ao:Option Addr} {cap:Nat} {t:Tab} {xs:List O} {es:List Ed} {m:Nat} {f:Int->Int->Int} {C Wt Ff:Nat->Int} (h:Wy w0 W d ao cap t xs es m f C Wt Ff) {k:Nat} (hk:k<xs.length) (v:Int):Wy w0 (W.setCell ⟨d.fb,k,none⟩ (.int .i64 v)) d ao cap t xs es m f C Wt (updI Ff k v):=by
 have g:Fr (One d.fb) W (W.setCell ⟨d.fb,k,none⟩ (.int .i64 v)):=(Fr.refl (One d.fb) W).setCell (.inr rfl) _ _;have o:=h.ok;have o1:=o.r0;have o2:=o.rw;have o3:=o.mw;have o4:=o.wf;have o5:=o.fa;refine h.gen g (fun k hk=>?_) (raFr h.ra g ?_ ?_) (h.cy.fr g o.cf) (h.wt.fr g o.tf) (h.fs.set hk v)
 ·have hk:k=d.fb:=hk;omega
 ·show ¬ d.rb=d.fb;omega
 ·show ¬ d.mb=d.fb;omega
theorem Wy.take {w0 W W':World} {d:Dt} {ao:Option Addr} {cap:Nat} {t:Tab} {xs:List O} {es:List Ed} {m m':Nat} {f f':Int->Int->Int} {C Wt Ff:Nat->Int} (h:Wy w0 W d ao cap t xs es m f C Wt Ff) (g:Fr (One d.mb) W W') (r:RAt W' d.rb t none d.mb m' f'):Wy w0 W' d ao cap t xs es m' f' C Wt Ff:=by
 have o:=h.ok;have o1:=o.m0;have o2:=o.rw;have o3:=o.mw;have o4:=o.wc;have o5:=o.wt;have o6:=o.wf;have o7:=o.ca;refine h.gen g (fun k hk=>?_) r (h.cy.fr g ?_) (h.wt.fr g ?_) (h.fs.fr g ?_)
 ·have hk:k=d.mb:=hk;omega
 ·show ¬ d.cb=d.mb;omega
 ·show ¬ d.tb=d.mb;omega
 ·show ¬ d.fb=d.mb;omega
def Tw (d:Dt) (k:Nat):Prop:=k=d.cb\/k=d.mb\/k=d.tb\/k=d.fb
theorem wready_any {w0 W:World} {d:Dt} {ao:Option Addr} {cap:Nat} {t:Tab} {xs:List O} {es:List Ed} {m:Nat} {f:Int->Int->Int} {C Wt Ff:Nat->Int} (i:Nat) (y:Int) (h:Wy w0 W d ao cap t xs es m f C Wt Ff) (hi:i<xs.length) :
  Calls Tryz.prog 158 #[.pointer (some ⟨d.wb,0,none⟩),.int .i64 (i:Int),.int .i64 y] W fun e w'=>e=.returned (.bool (decide (Wt i=0)&&decide (Ff i<=y)))/\Below W.heap.size W w':=by
 have wl:=h.at'.lt;have c4:W.cell? ⟨d.wb,4,none⟩=some (.slice (some ⟨d.tb,0,none⟩) xs.length xs.length):=h.at'.c 4 _ rfl;have c5:W.cell? ⟨d.wb,5,none⟩=some (.slice (some ⟨d.fb,0,none⟩) xs.length xs.length):=h.at'.c 5 _ rfl;have t0:=h.wt.c i hi;have tl:=h.wt.lt;have f0:=h.fs.c i hi;have fl:=h.fs.lt;have i0:(0:Int)<=(i:Int):=by omega
 have i1:(i:Int)<(xs.length:Int):=by omega
 clear h hi;generalize xs.length=n at *;generalize Wt i=wv at *;generalize Ff i=fv at *
 by_cases hw:wv=0
 ·subst hw;go_enter Tryz.func158,Tryz.ntmps158;go_wp2
  go_ret
  exact ⟨by simp,by go_grown⟩
 ·have hwb:(wv==0)=false:=by simpa using hw
  go_enter Tryz.func158,Tryz.ntmps158;go_wp2
  go_ret
  exact ⟨by simp [hw],by go_grown⟩
end Go.Proofs.YtpdaknbmcpmhjaaGreatDoor.Ls
namespace Go.Proofs.YtpdaknbmcpmhjaaGreatDoor.Ls
open Go.ChangeShapes Go.WideShapes Go.ChangeAt Go.RowKit
open YtpdaknbmcpmhjaaGreatDoor.Op YtpdaknbmcpmhjaaGreatDoor.So YtpdaknbmcpmhjaaGreatDoor.Dp YtpdaknbmcpmhjaaGreatDoor.ListWay
open YtpdaknbmcpmhjaaGreatDoor.Rv (RAt Few frB tkF tk_few take_any free_any evOk NwOut new_ok)
open YtpdaknbmcpmhjaaGreatDoor.Tb (Tab TabAt Bnds)
theorem atSet {w:World} {b:Nat} {cs:Array Value} (h:At w b cs) {j:Nat} (hj:j<cs.size) (v:Value):At (w.setCell ⟨b,j,none⟩ v) b (cs.setIfInBounds j v):=by
 refine ⟨fun i u e=>?_,fun i=>by rw [World.frozen?_setCell];exact h.f i,by simpa using h.lt⟩;rw [Array.getElem?_setIfInBounds] at e
 by_cases hij:j=i
 ·subst hij;rw [if_pos rfl,if_pos hj] at e
  injection e with e
  rw [<- e,World.cell?_setCell_same _ _ _ (h.c j _ (Array.getElem?_eq_getElem hj))]
 ·rw [if_neg hij] at e;rw [World.cell?_setCell_other]
  ·exact h.c i u e
  ·intro h';injection h' with _ h2;exact hij h2
structure Na (w X:World) (ao:Option Addr) (n cap wb rb mb:Nat) (t:Tab) (a1:Option Addr) (c1:Nat) (es:List Ed):Prop where
 at':At X wb #[.slice ao n cap,.pointer (some ⟨rb,0,none⟩),.slice none 0 0,.slice none 0 0,.slice none 0 0,.slice none 0 0]
 ra:RAt X rb t none mb 0 (fun _ _=>0)
 eo:EOwn w.heap.size X a1 c1 es
 en:∀ b,(Value.slice a1 es.length c1).ownBlock=some b->b<wb
 up:Below w.heap.size w X
 r0:w.heap.size<=rb
 m0:w.heap.size<=mb
 rw:rb<wb
 mw:mb<wb
structure Nb (w W:World) (ao:Option Addr) (n cap wb rb mb cb tb fb:Nat) (t:Tab) (a1:Option Addr) (c1:Nat) (es:List Ed):Prop where
 at':At W wb #[.slice ao n cap,.pointer (some ⟨rb,0,none⟩),.slice (some ⟨cb,0,none⟩) n n,.slice none 0 0,.slice (some ⟨tb,0,none⟩) n n,.slice (some ⟨fb,0,none⟩) n n]
 ra:RAt W rb t none mb 0 (fun _ _=>0)
 eo:EOwn w.heap.size W a1 c1 es
 en:∀ b,(Value.slice a1 es.length c1).ownBlock=some b->b<wb
 up:Below w.heap.size w W
 cy:Ir W cb n (fun _=>0)
 wt:Ir W tb n (fun _=>0)
 fs:Ir W fb n (fun _=>0)
 r0:w.heap.size<=rb
 m0:w.heap.size<=mb
 rw:rb<wb
 mw:mb<wb
 wc:wb<cb
 wt':wb<tb
 wf:wb<fb
 ct:cb≠tb
 cf:cb≠fb
 tf:tb≠fb
theorem ir3 (X:World) (n c:Nat) (h1:X.heap.size<=c) (h2:c<X.heap.size+3):Ir (((X.alloc (.cells (madeCells #[.int .i64 0] n) 3)).alloc (.cells (madeCells #[.int .i64 0] n) 3)).alloc (.cells (madeCells #[.int .i64 0] n) 3)) c n (fun _=>0):=by
 have e1:(X.alloc (.cells (madeCells #[.int .i64 0] n) 3)).heap.size=X.heap.size+1:=by simp
 have e2:((X.alloc (.cells (madeCells #[.int .i64 0] n) 3)).alloc (.cells (madeCells #[.int .i64 0] n) 3)).heap.size=X.heap.size+2:=by simp
 have g1:Below (X.alloc (.cells (madeCells #[.int .i64 0] n) 3)).heap.size (X.alloc (.cells (madeCells #[.int .i64 0] n) 3)) ((X.alloc (.cells (madeCells #[.int .i64 0] n) 3)).alloc (.cells (madeCells #[.int .i64 0] n) 3)):=(Below.refl _ _).alloc (Nat.le_refl _) _;have g2:Below ((X.alloc (.cells (madeCells #[.int .i64 0] n) 3)).alloc (.cells (madeCells #[.int .i64 0] n) 3)).heap.size ((X.alloc (.cells (madeCells #[.int .i64 0] n) 3)).alloc (.cells (madeCells #[.int .i64 0] n) 3)) (((X.alloc (.cells (madeCells #[.int .i64 0] n) 3)).alloc (.cells (madeCells #[.int .i64 0] n) 3)).alloc (.cells (madeCells #[.int .i64 0] n) 3)):=(Below.refl _ _).alloc (Nat.le_refl _) _;have k1:=((Ir.new X n 3).up g1).up g2;have k2:=(Ir.new (X.alloc (.cells (madeCells #[.int .i64 0] n) 3)) n 3).up g2;have k3:=Ir.new ((X.alloc (.cells (madeCells #[.int .i64 0] n) 3)).alloc (.cells (madeCells #[.int .i64 0] n) 3)) n 3;rw [e1] at k2;rw [e2] at k3;rcases (by omega:c=X.heap.size\/c=X.heap.size+1\/c=X.heap.size+2) with rfl|rfl|rfl
 ·exact k1
 ·exact k2
 ·exact k3
theorem nb_of {w X:World} {ao:Option Addr} {n cap wb rb mb:Nat} {t:Tab} {a1:Option Addr} {c1:Nat} {es:List Ed} (h:Na w X ao n cap wb rb mb t a1 c1 es) (cb tb fb:Nat) (p1:X.heap.size<=cb) (q1:cb<X.heap.size+3) (p2:X.heap.size<=tb) (q2:tb<X.heap.size+3) (p3:X.heap.size<=fb) (q3:fb<X.heap.size+3) (n1:cb≠tb) (n2:cb≠fb) (n3:tb≠fb) :
  Nb w (((((((X.setCell ⟨wb,2,none⟩ (.slice (some ⟨cb,0,none⟩) n n)).setCell ⟨wb,4,none⟩ (.slice (some ⟨tb,0,none⟩) n n)).setCell ⟨wb,5,none⟩ (.slice (some ⟨fb,0,none⟩) n n)).alloc (.cells (madeCells #[.int .i64 0] n) 3)).alloc (.cells (madeCells #[.int .i64 0] n) 3)).alloc (.cells (madeCells #[.int .i64 0] n) 3)).drew) ao n cap wb rb mb cb tb fb t a1 c1 es:=by
 have hw:=h.at'.lt;have a1':=((atSet (atSet (atSet h.at' (j:=2) (by simp) (.slice (some ⟨cb,0,none⟩) n n)) (j:=4) (by simp) (.slice (some ⟨tb,0,none⟩) n n)) (j:=5) (by simp) (.slice (some ⟨fb,0,none⟩) n n)));have g:Fr (One wb) X (((X.setCell ⟨wb,2,none⟩ (.slice (some ⟨cb,0,none⟩) n n)).setCell ⟨wb,4,none⟩ (.slice (some ⟨tb,0,none⟩) n n)).setCell ⟨wb,5,none⟩ (.slice (some ⟨fb,0,none⟩) n n)):=(((Fr.refl (One wb) X).setCell (.inr rfl) _ _).setCell (.inr rfl) _ _).setCell (.inr rfl) _ _;have hsz:(((X.setCell ⟨wb,2,none⟩ (.slice (some ⟨cb,0,none⟩) n n)).setCell ⟨wb,4,none⟩ (.slice (some ⟨tb,0,none⟩) n n)).setCell ⟨wb,5,none⟩ (.slice (some ⟨fb,0,none⟩) n n)).heap.size=X.heap.size:=by simp
 obtain ⟨Y,hY⟩:∃ Y,((X.setCell ⟨wb,2,none⟩ (.slice (some ⟨cb,0,none⟩) n n)).setCell ⟨wb,4,none⟩ (.slice (some ⟨tb,0,none⟩) n n)).setCell ⟨wb,5,none⟩ (.slice (some ⟨fb,0,none⟩) n n)=Y:=⟨_,rfl⟩;rw [hY] at a1' g hsz ⊢;have g0:Below Y.heap.size Y (((Y.alloc (.cells (madeCells #[.int .i64 0] n) 3)).alloc (.cells (madeCells #[.int .i64 0] n) 3)).alloc (.cells (madeCells #[.int .i64 0] n) 3)):=by go_grown
 have gd:Below Y.heap.size Y (((Y.alloc (.cells (madeCells #[.int .i64 0] n) 3)).alloc (.cells (madeCells #[.int .i64 0] n) 3)).alloc (.cells (madeCells #[.int .i64 0] n) 3)).drew:=⟨g0.os,g0.tape,g0.output,g0.size,g0.block⟩;have i1:=ir3 Y n cb (by omega) (by omega);have i2:=ir3 Y n tb (by omega) (by omega);have i3:=ir3 Y n fb (by omega) (by omega);have r1:=h.r0;have r2:=h.rw;have r3:=h.m0;have r4:=h.mw;have u:Below w.heap.size w Y:=h.up.trans (g.below h.up.size fun k hk e=>by have e:k=wb:=e;omega);refine ⟨a1'.below gd a1'.lt,(raFr h.ra g ?_ ?_).up gd,row_up (row_fr h.eo g (fun k hk e=>?_)) gd,h.en,u.trans (gd.mono u.size),i1.up (drew_up _),i2.up (drew_up _),i3.up (drew_up _),r1,r3,r2,r4,by omega,by omega,by omega,n1,n2,n3⟩
 ·show ¬ rb=wb;omega
 ·show ¬ mb=wb;omega
 ·have:=h.en k hk
  have e:k=wb:=e;omega
def toN (es:List Ed) (i:Nat):Int:=((es.countP fun e=>decide (e.t.toNat = i):Nat):Int)
theorem toN_put (es:List Ed) (e:Ed):toN (es++[e])=updI (toN es) e.t.toNat (toN es e.t.toNat + 1):=by
 funext i
 unfold toN updI;rw [List.countP_append,List.countP_singleton]
 by_cases h:i=e.t.toNat
 ·subst h;simp
 ·rw [if_neg h,if_neg (by simpa using fun e2:e.t.toNat = i=>h e2.symm)];rfl
theorem toN_le (es:List Ed) (i:Nat):0<=toN es i/\toN es i<=es.length:=by
 unfold toN
 have:=List.countP_le_length (p:=fun e:Ed=>decide (e.t.toNat = i)) (l:=es)
 omega
theorem frm_put (es:List Ed) (e:Ed) (i:Nat):frm (es++[e]) i=if e.f.toNat = i then frm es i++[e] else frm es i:=by
 unfold frm;rw [List.filter_append]
 by_cases h:e.f.toNat = i
 ·simp [h]
 ·simp [h]
def Sep (d:Dt) (n:Nat):Prop:=∀ i j,i<n->j<n->i≠j->∀ b,(d.V i).ownBlock=some b->¬ (d.V j).ownBlock=some b
def dV (d:Dt) (i:Nat) (v:Value):Dt:=⟨d.wb,d.rb,d.mb,d.cb,d.ab,d.tb,d.fb,fun j=>if j=i then v else d.V j⟩
theorem Wy.put {w0 W X w4:World} {d:Dt} {ao:Option Addr} {cap:Nat} {t:Tab} {xs:List O} {es:List Ed} {m:Nat} {f:Int->Int->Int} {C Wt Ff:Nat->Int} (h:Wy w0 W d ao cap t xs es m f C Wt Ff) (hz:∀ i,W.frozen? ⟨d.ab,i,none⟩=false) (hs:Sep d xs.length) (hX:Below W.heap.size W X) {i g cp:Nat} {e:Ed} (hi:i<xs.length) (he:e.f.toNat = i) (hgrow:X.grownBy w4 (d.V i).ownBlock) (hown:w4.ownsRow (d.ab+1) 122 5 (.slice (some ⟨g,0,none⟩) ((frm es i).length+1) cp) ((frm es i).length+1) (ecells (frm es i)++e.cells)) (hg:(d.V i).ownBlock=some g\/W.heap.size<=g) :
  (w4.cell? ⟨d.ab,i,none⟩=some (d.V i)/\w4.frozen? ⟨d.ab,i,none⟩=false/\d.ab<w4.heap.size/\Fr (fun b=>(d.V i).ownBlock=some b) W w4) /\
  (Wy w0 (w4.setCell ⟨d.ab,i,none⟩ (.slice (some ⟨g,0,none⟩) ((frm es i).length+1) cp)) (dV d i (.slice (some ⟨g,0,none⟩) ((frm es i).length+1) cp)) ao cap t xs (es++[e]) m f C Wt Ff /\
  (∀ j,(w4.setCell ⟨d.ab,i,none⟩ (.slice (some ⟨g,0,none⟩) ((frm es i).length+1) cp)).frozen? ⟨d.ab,j,none⟩=false) /\
  Sep (dV d i (.slice (some ⟨g,0,none⟩) ((frm es i).length+1) cp)) xs.length/\Fr (fun b=>b=d.ab\/(d.V i).ownBlock=some b) W (w4.setCell ⟨d.ab,i,none⟩ (.slice (some ⟨g,0,none⟩) ((frm es i).length+1) cp))):=by
 have hF:Fr (fun b=>(d.V i).ownBlock=some b) W w4:=(Fr.of hX).trans (grown_fr hgrow) fun _ _ e=>e;have hlo:∀ b,(d.V i).ownBlock=some b->d.ab+1<=b/\b<W.heap.size:=fun b hb=>(h.rw i hi).lt b hb;have na:¬ (d.V i).ownBlock=some d.ab:=fun e=>by have:=hlo _ e;omega
 have c1:=(hF.cell h.al na i).trans (h.af i hi);have c2:=(hF.frozen h.al na i).trans (hz i);have hz4:d.ab<w4.heap.size:=Nat.lt_of_lt_of_le h.al hF.size;have o:=h.ok;have o1:=o.r0;have o2:=o.rw;have o3:=o.mw;have o4:=o.wc;have o5:=o.ca;have o6:=o.wt;have o7:=o.ta;have o8:=o.wf;have o9:=o.fa;have o10:=o.m0;have G:Fr (fun b=>b=d.ab\/(d.V i).ownBlock=some b) W (w4.setCell ⟨d.ab,i,none⟩ (.slice (some ⟨g,0,none⟩) ((frm es i).length+1) cp)):=(hF.mono fun k _ e=>.inr e).setCell (.inr (.inl rfl)) _ _;have lo:∀ b,b<d.ab->¬ (b=d.ab\/(d.V i).ownBlock=some b):=fun b hb e=>by
  rcases e with e|e
  ·omega
  ·have:=hlo b e;omega
 refine ⟨⟨c1,c2,hz4,hF⟩,⟨⟨o.r0,o.m0,o.rw,o.mw,o.wc,o.wt,o.wf,o.ct,o.cf,o.tf,o.ca,o.ta,o.fa⟩,h.up.trans (G.below h.up.size fun k hk=>lo k (by omega)),h.op,atFr h.at' G (lo d.wb (by omega)),raFr h.ra G (lo d.rb (by omega)) (lo d.mb (by omega)),h.cy.fr G (lo _ o5),h.wt.fr G (lo _ o7),h.fs.fr G (lo _ o9),fun j hj=>?_,by simpa [dV] using hz4,fun j hj=>?_⟩,fun j=>?_,fun j k hj hk hjk b hb=>?_,G⟩
 ·by_cases e:j=i
  ·subst e;show World.cell? _ ⟨d.ab,j,none⟩=some (if j=j then _ else _);rw [if_pos rfl,World.cell?_setCell_same _ _ _ c1]
  ·show World.cell? _ ⟨d.ab,j,none⟩=some (if j=i then _ else d.V j);rw [if_neg e,World.cell?_setCell_other]
   ·exact (hF.cell h.al na j).trans (h.af j hj)
   ·intro h';injection h' with _ h2;exact e h2.symm
 ·show World.ownsRow _ (d.ab+1) 122 5 (if j=i then _ else d.V j) _ _;rw [frm_put,he]
  by_cases e:j=i
  ·subst e;rw [if_pos rfl,if_pos rfl,ecells_put,List.length_append];exact row_set' hown (by omega) _
  ·rw [if_neg e,if_neg (fun e2=>e e2.symm)];refine row_fr (h.rw j hj) G fun k hk e2=>?_;rcases e2 with e2|e2
   ·have:=((h.rw j hj).lt k hk).1;omega
   ·exact hs j i hj hi e k hk e2
 ·rw [World.frozen?_setCell];exact (hF.frozen h.al na j).trans (hz j)
 ·have hb:(if j=i then Value.slice (some ⟨g,0,none⟩) ((frm es i).length+1) cp else d.V j).ownBlock=some b:=hb;show ¬ (if k=i then Value.slice (some ⟨g,0,none⟩) ((frm es i).length+1) cp else d.V k).ownBlock=some b
  by_cases e1:j=i
  ·rw [if_pos e1] at hb;rw [if_neg (fun e2=>hjk (e1.trans e2.symm))];have e3:g=b:=by simpa [Value.ownBlock] using hb
   subst e3;rcases hg with hg|hg
   ·exact hs i k hi hk (fun e=>hjk (e1.trans e)) g hg
   ·intro e4
    have:=((h.rw k hk).lt g e4).2
    omega
  ·rw [if_neg e1] at hb
   by_cases e2:k=i
   ·rw [if_pos e2];intro e3;have e3:g=b:=by simpa [Value.ownBlock] using e3
    subst e3;rcases hg with hg|hg
    ·exact hs j i hj hi e1 g hb hg
    ·have:=((h.rw j hj).lt g hb).2
     omega
   ·rw [if_neg e2];exact hs j k hj hk hjk b hb
end Go.Proofs.YtpdaknbmcpmhjaaGreatDoor.Ls
