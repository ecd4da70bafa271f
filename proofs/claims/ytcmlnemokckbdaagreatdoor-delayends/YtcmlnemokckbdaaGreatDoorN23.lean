/- Parts Jb. -/
import Derived.Test.YtcmlnemokckbdaaGreatDoorN22
set_option maxRecDepth 20000
set_option maxHeartbeats 16000000
namespace Go.Proofs.YtcmlnemokckbdaaGreatDoor.Dl
open Go.ChangeShapes Go.WideShapes Go.ChangeAt Go.RowKit Go.Great
open YtcmlnemokckbdaaGreatDoor.Op YtcmlnemokckbdaaGreatDoor.So YtcmlnemokckbdaaGreatDoor.Dp YtcmlnemokckbdaaGreatDoor.Ls
open YtcmlnemokckbdaaGreatDoor.Tb (Tab TabAt Bnds)
def asC (a b c:Int) (L:List Value):List Value:=.int .i64 a :: .int .i64 b :: .int .i64 c::L
def zc35:List Value:=List.replicate 35 (.int .i64 0)
def leI (t:Tab):Int:=max 0 (t.b 3-1-t.d)
theorem at_set {W:World} {b:Nat} {cs:List Value} (h:At W b cs.toArray) {k:Nat} (hk:k<cs.length) (v:Value):At (W.setCell ⟨b,k,none⟩ v) b (cs.set k v).toArray:=by
 refine ⟨fun j u hj=>?_,fun j=>by rw [World.frozen?_setCell];exact h.f j,by simpa using h.lt⟩;rw [List.getElem?_toArray] at hj
 by_cases e:k=j
 ·subst e;rw [List.getElem?_set_self hk] at hj
  cases hj
  exact World.cell?_setCell_same _ _ _ (h.c k _ (by rw [List.getElem?_toArray,List.getElem?_eq_getElem hk]))
 ·rw [List.getElem?_set_ne e] at hj;rw [World.cell?_setCell_other]
  ·exact h.c j u (by rw [List.getElem?_toArray];exact hj)
  ·intro h';injection h' with _ h2;exact e h2
theorem at_range {W:World} {b:Nat} {cs:List Value} (h:At W b cs.toArray):W.rangeAt b 0 cs:=fun j v hv=>by
 rw [Nat.zero_add];exact h.c j v (by rw [List.getElem?_toArray];exact hv)
theorem at_there {W:World} {b o n:Nat} {cs:List Value} (h:At W b cs.toArray) (hn:o+n<=cs.length):W.there b o n:=fun j hj=>by
 have hl:o+j<cs.length:=by omega
 exact ⟨by rw [h.c (o+j) _ (by rw [List.getElem?_toArray,List.getElem?_eq_getElem hl])];rfl,h.f _⟩
theorem at_row {W:World} {b:Nat} {x y z:Value} {M L:List Value} (h:At W b (x::y::z::M).toArray) (hl:M.length=L.length):At (W.setCells b 3 L) b (x::y::z::L).toArray:=by
 have ht:W.there b 3 L.length:=at_there h (by simp;omega);have hs:=World.rangeAt_setCells_same W b 3 L ht;have ha:(W.setCells b 3 L).rangeAt b 0 [x,y,z]:=World.rangeAt_setCells_apart (fun j v hv=>by
  rw [Nat.zero_add];refine h.c j v ?_;rw [List.getElem?_toArray]
  have:j<3:=(List.getElem?_eq_some_iff.1 hv).1
  rcases j with _|_|_|j
  ·exact hv
  ·exact hv
  ·exact hv
  ·omega) b 3 L (.inr (.inl (Nat.le_refl _)))
 refine ⟨fun j v hv=>?_,fun j=>(froz_setCells _ _ _ _ _).trans (h.f j),Nat.lt_of_lt_of_le h.lt (fr_setCells (X:=So.One b) rfl L 3 (So.Fr.refl _ W)).size⟩;rw [List.getElem?_toArray] at hv;rcases j with _|_|_|j
 ·exact ha 0 v hv
 ·exact ha 1 v hv
 ·exact ha 2 v hv
 ·have:=hs j v (by simpa using hv)
  rwa [show 3+j=j+1+1+1 by omega] at this
structure Ak (w W:World) (t:Tab) (cs:List Value):Prop where
 t:TabAt W w.heap.size t
 r:At W (w.heap.size+1) zc35.toArray
 a:At W (w.heap.size+2) cs.toArray
 up:Below w.heap.size w W
theorem Ak.next {w W W':World} {t:Tab} {cs:List Value} (h:Ak w W t cs) (g:Below W.heap.size W W'):Ak w W' t cs:=⟨h.t.below g h.t.lt,h.r.below g h.r.lt,h.a.below g h.a.lt,h.up.trans (g.mono h.up.size)⟩
theorem Ak.fr {w W W':World} {t:Tab} {cs cs':List Value} (h:Ak w W t cs) (g:Below (w.heap.size+2) W W') (a:At W' (w.heap.size+2) cs'.toArray):Ak w W' t cs':=⟨h.t.below g (by omega),h.r.below g (by omega),a,h.up.trans (g.mono (by omega))⟩
theorem ak_new {w W:World} {t:Tab} {ld:Int} (hT:TabAt W w.heap.size t) (hr:At W (w.heap.size+1) zc35.toArray) (hs:W.heap.size=w.heap.size+2) (up:Below w.heap.size w W):Ak w ((W.alloc (.cells zc35.toArray 64)).setCells (w.heap.size+2) 0 (asC ld 0 0 (lnC fun _=>0)).toArray.toList) t (asC ld 0 0 (lnC fun _=>0)):=by
 have g1:Below W.heap.size W (W.alloc (.cells zc35.toArray 64)):=(Below.refl _ _).alloc (Nat.le_refl _) _;have a1:=At.new W zc35.toArray 64;rw [hs] at a1;have ht:(W.alloc (.cells zc35.toArray 64)).there (w.heap.size+2) 0 (asC ld 0 0 (lnC fun _=>0)).length:=at_there a1 (by unfold asC zc35;simp [lnC_len]);have hF:So.Fr (So.One (w.heap.size+2)) (W.alloc (.cells zc35.toArray 64)) ((W.alloc (.cells zc35.toArray 64)).setCells (w.heap.size+2) 0 (asC ld 0 0 (lnC fun _=>0))):=fr_setCells (X:=So.One (w.heap.size+2)) rfl _ _ (So.Fr.refl _ _);have g2:Below (w.heap.size+2) (W.alloc (.cells zc35.toArray 64)) ((W.alloc (.cells zc35.toArray 64)).setCells (w.heap.size+2) 0 (asC ld 0 0 (lnC fun _=>0))):=hF.below (by simp;omega) fun k hk e=>by have e:k=w.heap.size+2:=e;omega
 have hR:=World.rangeAt_setCells_same (W.alloc (.cells zc35.toArray 64)) (w.heap.size+2) 0 _ ht;refine ⟨(hT.below g1 hT.lt).below g2 (by omega),(hr.below g1 hr.lt).below g2 (by omega),⟨fun j v hv=>?_,fun j=>(froz_setCells _ _ _ _ _).trans (a1.f j),Nat.lt_of_lt_of_le a1.lt hF.size⟩,(up.trans (g1.mono (by omega))).trans (g2.mono (by omega))⟩
 have:=hR j v (by rw [List.getElem?_toArray] at hv;exact hv)
 rwa [Nat.zero_add] at this
theorem infoAs:(Tryz.prog.info? 64).map (·.size)=some 35:=by kernel_rfl
theorem asC_len {a b c:Int} {L:List Value} (h:L.length=32):(asC a b c L).length=35:=by unfold asC;simp [h]
theorem asC_one {a b c:Int} {L:List Value} (h:L.toArray.all (·.oneCell')=true):(asC a b c L).toArray.all (·.oneCell')=true:=by
 refine all_oneCell_toArray fun v hv=>?_;unfold asC at hv;simp only [List.mem_cons] at hv;rcases hv with rfl|rfl|rfl|hv
 ·rfl
 ·rfl
 ·rfl
 ·simp only [List.all_toArray,List.all_eq_true] at h;exact h v hv
theorem asksOf_any (ao a:Option Addr) (cap ccap:Nat) (xs:List O) (t:Tab) (g:Nat->Int) (w:World) (h:OpsAt w ao xs) (hg:Nl w a xs.length g) (hr:∀ k,k<xs.length->0<=g k/\g k<=65536) (ht:t.ok=true) (hok:∀ o∈xs,okL o=true) (hn:xs.length<=1024) :
  Calls Tryz.prog 23 #[.slice ao xs.length cap,t.val,.slice a xs.length ccap] w fun e w'=>e=.returned (.agg (asC (leI t) (drI t xs g xs.length) (rsI t xs g xs.length) (lnC (lnI t xs g xs.length))).toArray)/\Below w.heap.size w w':=by
 have HP:Hid (∀ W,Below w.heap.size w W->Calls Tryz.prog 45 #[.slice ao xs.length cap,.agg #[.int .i64 (t.u 0),.int .i64 (t.u 1),.int .i64 (t.u 2),.int .i64 (t.u 3),.int .i64 (t.l 0),.int .i64 (t.l 1),.int .i64 (t.l 2),.int .i64 (t.l 3),.int .i64 (t.b 0),.int .i64 (t.b 1),.int .i64 (t.b 2),.int .i64 (t.b 3),.int .i64 t.d],.slice a xs.length ccap] W fun e w'=>e=.returned (.tuple #[.int .i64 (drI t xs g xs.length),.int .i64 (rsI t xs g xs.length),.agg (lnC (lnI t xs g xs.length)).toArray])/\Below W.heap.size W w'):=fun W hb=>passed_any ao a cap ccap xs t g W (h.below hb) (hg.up hb) hr ht hok hn;have hb3:=Tb.inB_iff ((Tb.ok_parts ht).2 3 (by decide)).2.2;have hd3:=Tb.inB_iff (Tb.ok_parts ht).1;have HL:Hid (max 0 (t.b 3-1-t.d)=leI t):=rfl;obtain ⟨L,hL⟩:∃ L,lnC (lnI t xs g xs.length)=L:=⟨_,rfl⟩;have hLn:L.length=32:=by rw [<- hL];exact lnC_len _
 have hLo:L.toArray.all (·.oneCell')=true:=by rw [<- hL];exact lnC_one _
 rw [hL] at HP ⊢;clear hL h hg hr hok ht;obtain ⟨D,hD⟩:∃ D,drI t xs g xs.length=D:=⟨_,rfl⟩;obtain ⟨R,hR⟩:∃ R,rsI t xs g xs.length=R:=⟨_,rfl⟩;rw [hD,hR] at HP ⊢;clear hD hR;have HLn:Hid (L.length=32/\L.toArray.all (·.oneCell')=true):=⟨hLn,hLo⟩;clear hLn hLo;have HT0:Hid (TabAt ((w.alloc (.cells t.cells 28)).alloc (.cells zc35.toArray 64)) w.heap.size t/\At ((w.alloc (.cells t.cells 28)).alloc (.cells zc35.toArray 64)) (w.heap.size+1) zc35.toArray/\((w.alloc (.cells t.cells 28)).alloc (.cells zc35.toArray 64)).heap.size=w.heap.size+2/\Below w.heap.size w ((w.alloc (.cells t.cells 28)).alloc (.cells zc35.toArray 64))):=by
  have h2:=Tb.tabAt_new w t 28;have h3:=At.new (w.alloc (.cells t.cells 28)) zc35.toArray 64;rw [show (w.alloc (.cells t.cells 28)).heap.size=w.heap.size+1 by simp] at h3;exact ⟨h2.below ((Below.refl _ _).alloc (Nat.le_refl _) _) h2.lt,h3,by simp,by go_grown⟩
 unfold Tab.val;go_enter Tryz.func23,Tryz.ntmps23;go_upto_region 1 with (first
  | (refine wpList_allocTo rfl (some 6) rfl (.pointer (some ⟨(w.alloc (.cells t.cells 28)).heap.size,0,none⟩)) (.cells zc35.toArray 64) (by kernel_rfl) ?_))
 generalize (w.alloc (.cells t.cells 28)).alloc (.cells zc35.toArray 64)=W0 at *;obtain ⟨hT,hA,hs,hu⟩:=HT0.out;have HT1:Hid (Ak w ((W0.alloc (.cells zc35.toArray 64)).setCells (w.heap.size+2) 0 (asC (leI t) 0 0 (lnC fun _=>0)).toArray.toList) t (asC (leI t) 0 0 (lnC fun _=>0))):=ak_new hT hA hs hu;have HTh:Hid ((W0.alloc (.cells zc35.toArray 64)).there (w.heap.size+2) 0 (asC (leI t) 0 0 (lnC fun _=>0)).toArray.size):=by
  have a1:=At.new W0 zc35.toArray 64;rw [hs] at a1;exact at_there a1 (by rw [List.size_toArray,asC_len (lnC_len _)];unfold zc35;simp)
 have HSz:Hid (W0.heap.size=w.heap.size+2):=hs;have qb:=hT.cb 3 (by decide);have qd:=hT.cd;have ql:=hT.lt;clear hT hA hs hu HT0;have w1:IntKind.i64.wrap (t.b 3-1)=t.b 3-1:=by rw [IntKind.wrap_i64];omega
 have w2:IntKind.i64.wrap (t.b 3-1-t.d)=t.b 3-1-t.d:=by rw [IntKind.wrap_i64];omega
 go_upto_region 2 with (first
  | (rw [HL.out];refine wpList_buildTo rfl 64 #[(0,.tmp 15)] rfl (some 16) rfl (asC (leI t) 0 0 (lnC fun _=>0)).toArray (by kernel_rfl) ?_)
  | (refine wpList_allocTo rfl (some 7) rfl (.pointer (some ⟨W0.heap.size,0,none⟩)) (.cells zc35.toArray 64) (by kernel_rfl) ?_;rw [HSz.out])
  | (refine wpList_store_mid rfl 64 (.tmp 7) (.tmp 16) rfl (w.heap.size+2) 0 (asC (leI t) 0 0 (lnC fun _=>0)).toArray rfl rfl HTh.out (by rw [List.size_toArray,asC_len (lnC_len _)];exact infoAs) (asC_one (lnC_one _)) ?_))
 generalize (W0.alloc (.cells zc35.toArray 64)).setCells (w.heap.size+2) 0 (asC (leI t) 0 0 (lnC fun _=>0)).toArray.toList=W1 at *;clear qb qd ql w1 w2 HTh HSz;have qu0:=HT1.out.t.cu 0 (by decide);have qu1:=HT1.out.t.cu 1 (by decide);have qu2:=HT1.out.t.cu 2 (by decide);have qu3:=HT1.out.t.cu 3 (by decide);have ql0:=HT1.out.t.cl 0 (by decide);have ql1:=HT1.out.t.cl 1 (by decide);have ql2:=HT1.out.t.cl 2 (by decide);have ql3:=HT1.out.t.cl 3 (by decide);have qb0:=HT1.out.t.cb 0 (by decide);have qb1:=HT1.out.t.cb 1 (by decide);have qb2:=HT1.out.t.cb 2 (by decide);have qb3:=HT1.out.t.cb 3 (by decide);have qd:=HT1.out.t.cd;have ql:=HT1.out.t.lt;have HU1:Hid (Below w.heap.size w W1):=HT1.out.up;have HT2:Hid (∀ W,Below W1.heap.size W1 W->Ak w W t (asC (leI t) 0 0 (lnC fun _=>0))):=fun W hb=>HT1.out.next hb;clear HT1;have HG1:Hid (∀ W,Ak w W t (asC (leI t) 0 0 (lnC fun _=>0))->At ((W.setCell ⟨w.heap.size+2,1,none⟩ (.int .i64 D)).setCell ⟨w.heap.size+2,2,none⟩ (.int .i64 R)) (w.heap.size+2) (asC (leI t) D R (lnC fun _=>0)).toArray):=fun W h=>at_set (k:=2) (at_set (k:=1) h.a (by unfold asC;simp) (.int .i64 D)) (by unfold asC;simp) (.int .i64 R);have HG2:Hid (∀ W,Ak w W t (asC (leI t) 0 0 (lnC fun _=>0))->Ak w (((W.setCell ⟨w.heap.size+2,1,none⟩ (.int .i64 D)).setCell ⟨w.heap.size+2,2,none⟩ (.int .i64 R)).setCells (w.heap.size+2) 3 L) t (asC (leI t) D R L)):=fun W h=>by
  have f1:Below (w.heap.size+2) W ((W.setCell ⟨w.heap.size+2,1,none⟩ (.int .i64 D)).setCell ⟨w.heap.size+2,2,none⟩ (.int .i64 R)):=((Below.refl (w.heap.size+2) W).setCell (by show w.heap.size+2<=w.heap.size+2;exact Nat.le_refl _) _).setCell (by show w.heap.size+2<=w.heap.size+2;exact Nat.le_refl _) _;have hF:So.Fr (So.One (w.heap.size+2)) ((W.setCell ⟨w.heap.size+2,1,none⟩ (.int .i64 D)).setCell ⟨w.heap.size+2,2,none⟩ (.int .i64 R)) (((W.setCell ⟨w.heap.size+2,1,none⟩ (.int .i64 D)).setCell ⟨w.heap.size+2,2,none⟩ (.int .i64 R)).setCells (w.heap.size+2) 3 L):=fr_setCells (X:=So.One (w.heap.size+2)) rfl _ _ (So.Fr.refl _ _);have f2:=hF.below (B:=w.heap.size+2) (by have:=h.a.lt;have:=f1.size;omega) fun k hk e=>by have e:k=w.heap.size+2:=e;omega
  exact h.fr (f1.trans f2) (at_row (HG1.out W h) (by rw [lnC_len,HLn.out.1]))
 go_upto_region 3 with (first
  | (go_at_call 45;refine Calls.mono (HP.out _ HU1.out) ?_;rintro e w5 ⟨rfl,hb5⟩;have HX:Hid (Ak w w5 t (asC (leI t) 0 0 (lnC fun _=>0))):=HT2.out _ hb5;clear hb5 HT2 HP HU1 qu0 qu1 qu2 qu3 ql0 ql1 ql2 ql3 qb0 qb1 qb2 qb3 qd ql;have a1:=HX.out.a.c 1 _ rfl;have a2:=HX.out.a.c 2 _ rfl;have af1:=HX.out.a.f 1;have af2:=HX.out.a.f 2;have al:=HX.out.a.lt)
  | (refine wpList_store_mid rfl 62 (.tmp 27) (.tmp 24) rfl (w.heap.size+2) 3 L.toArray rfl rfl (at_there (HG1.out _ HX.out) (by rw [List.size_toArray,HLn.out.1,asC_len (lnC_len _)];decide)) (by rw [List.size_toArray,HLn.out.1];exact infoLn) HLn.out.2 ?_))
 rename World=>w5;have HY:Hid (Ak w (((w5.setCell ⟨w.heap.size+2,1,none⟩ (.int .i64 D)).setCell ⟨w.heap.size+2,2,none⟩ (.int .i64 R)).setCells (w.heap.size+2) 3 L.toArray.toList) t (asC (leI t) D R L)):=HG2.out _ HX.out;generalize ((w5.setCell ⟨w.heap.size+2,1,none⟩ (.int .i64 D)).setCell ⟨w.heap.size+2,2,none⟩ (.int .i64 R)).setCells (w.heap.size+2) 3 L.toArray.toList=W6 at *;clear HX HG1 HG2 a1 a2 af1 af2 al;obtain ⟨C,hC⟩:∃ C,asC (leI t) D R L=C:=⟨_,rfl⟩;have hCl:C.length=35:=by rw [<- hC];exact asC_len HLn.out.1
 have hCo:C.toArray.all (·.oneCell')=true:=by rw [<- hC];exact asC_one HLn.out.2
 have HCe:Hid (asC (leI t) D R L=C):=hC;rw [hC] at HY;clear hC;have hr:=at_range HY.out.a;have hi:(Tryz.prog.info? 64).map (·.size)=some C.length:=by rw [hCl];exact infoAs
 have ht:W6.there (w.heap.size+1) 0 C.toArray.size:=at_there HY.out.r (by rw [List.size_toArray,hCl];unfold zc35;simp);have hF:So.Fr (So.One (w.heap.size+1)) W6 (W6.setCells (w.heap.size+1) 0 C):=fr_setCells (X:=So.One (w.heap.size+1)) rfl _ _ (So.Fr.refl _ _);have HB:Hid (Below w.heap.size w (W6.setCells (w.heap.size+1) 0 C)):=HY.out.up.trans (hF.below HY.out.up.size fun k hk e=>by have e:k=w.heap.size+1:=e;omega);have HV:Hid ((loadVar 64 ⟨w.heap.size+1,0,none⟩).run Tryz.prog (W6.setCells (w.heap.size+1) 0 C)=.ok (.agg C.toArray) (W6.setCells (w.heap.size+1) 0 C)):=run_loadVar_mid (P:=Tryz.prog) _ (w.heap.size+1) 0 64 C _ (World.rangeAt_setCells_same W6 (w.heap.size+1) 0 C (by simpa using ht)) Tryz.underlying64 rfl hi;rename_i K3 hK3;apply wp_region_lit
 refine wpList_load_mid rfl 64 (.tmp 7) rfl (w.heap.size+2) 0 rfl C _ hr Tryz.underlying64 rfl hi ?_;refine wpList_store_mid rfl 64 (.tmp 6) (.tmp 28) rfl (w.heap.size+1) 0 C.toArray rfl rfl ht (by rw [List.size_toArray];exact hi) hCo ?_;refine wpList_nil ?_;refine hK3 _ _ ?_;refine wp_ret ?_;have hl:=HV.out;refine bodyPost_ret (v:=.agg C.toArray) (by simp [results,Tryz.results23,asAddr,Act.put,hl]) rfl ⟨by rw [HCe.out],HB.out⟩
end Go.Proofs.YtcmlnemokckbdaaGreatDoor.Dl
