/- Parts QVd QVe QVf Yc Yd. -/
import Derived.Test.YtcmlnemokckbdaaGreatDoorN33
import Derived.Test.YtcmlnemokckbdaaGreatDoorN34
import Derived.Test.YtcmlnemokckbdaaGreatDoorN32
import Derived.Deep.OwnRows
import Derived.Deep.DeepCutAuto
import Derived.Test.YtcmlnemokckbdaaGreatDoorN31
set_option maxRecDepth 20000
set_option maxHeartbeats 8000000
namespace Go.Proofs.YtcmlnemokckbdaaGreatDoor.L8.Li
open Go.ChangeShapes Go.WideShapes Go.ChangeAt Go.RowKit Go.Maps
open YtcmlnemokckbdaaGreatDoor.L8.So YtcmlnemokckbdaaGreatDoor.L8.Op YtcmlnemokckbdaaGreatDoor.L8.Fl YtcmlnemokckbdaaGreatDoor.L8.Lv
theorem Wm.isMap {w:World} {mb N:Nat} {D:DataW Unit} (h:Wm w mb D N):IsMap D:=h.own.isMap
theorem Wm.tidy {w:World} {mb N:Nat} {D:DataW Unit} (h:Wm w mb D N):Tidy D:=h.own.tidy law3
theorem has_put {D:DataW Unit} (hD:IsMap D) (n j:Nat):Maps.has (D.put (kn n) (.agg [])) (kn j)=true↔j=n\/Maps.has D (kn j)=true:=by
 by_cases e:j=n
 ·subst e;simp [has_put_same hD (kn_key j)]
 ·rw [has_put_other (fun h=>e (kn_inj h))];simp [e]
theorem has_del {D:DataW Unit} (n j:Nat):Maps.has (D.del (kn n)) (kn j)=true↔j≠n/\Maps.has D (kn j)=true:=by
 by_cases e:j=n
 ·subst e;simp [has_del_same]
 ·rw [has_del_other (fun h=>e (kn_inj h))];simp [e]
theorem Wm.put {w w':World} {mb N n m:Nat} {D:DataW Unit} (h:Wm w mb D N) (hn:n<N) (ho:w'.ownsMap Tryz.prog 3 (unitElem (H:=Unit)) mb m (D.put (kn n) (.agg []))):Wm w' mb (D.put (kn n) (.agg [])) N:=
 ⟨tight ho,fun l hl=>by
  by_cases e:l=kn n
  ·exact ⟨n,hn,e⟩
  ·rw [has_put_other e] at hl;exact h.key l hl⟩
theorem Wm.del {w w':World} {mb N n m:Nat} {D:DataW Unit} (h:Wm w mb D N) (ho:w'.ownsMap Tryz.prog 3 (unitElem (H:=Unit)) mb m (D.del (kn n))):Wm w' mb (D.del (kn n)) N:=
 ⟨tight ho,fun l hl=>by
  by_cases e:l=kn n
  ·subst e;rw [has_del_same] at hl;cases hl
  ·rw [has_del_other e] at hl;exact h.key l hl⟩
theorem size_put_le {D:DataW Unit} (h:Tidy D) (n:Nat):Maps.size (D.put (kn n) (.agg []))<=Maps.size D+1:=by
 rw [size_put h];split <;> omega
theorem size_del_lt {D:DataW Unit} (h:Tidy D) {n:Nat} (hn:Maps.has D (kn n)=true):Maps.size (D.del (kn n))+1=Maps.size D:=by
 have:=size_del (k:=kn n) h
 rw [hn] at this;simpa using this
theorem size_zero {D:DataW Unit} (h:IsMap D) (h0:Maps.size D=0) (l:Lit):Maps.has D l=false:=by
 obtain ⟨es,rfl⟩:=h;rw [size_eq] at h0;rw [List.length_eq_zero_iff.1 h0];rfl
theorem Wm.fr {X:Nat->Prop} {w w':World} {mb N:Nat} {D:DataW Unit} (h:Wm w mb D N) (hF:Fr X w w') (hX:¬ X mb):Wm w' mb D N:=by
 have hlt:=h.own.lt;obtain ⟨es,clock,h1,h2,h3⟩:=h.own;exact ⟨⟨es,clock,by rw [hF.block mb hlt hX];exact h1,h2,h3⟩,h.key⟩
theorem Fr.turned {X:Nat->Prop} {a w w':World} {mb:Nat} (h:Fr X a w) (hX:X mb\/a.heap.size<=mb) (ht:w.grownBy w' (some mb)):Fr X a w':=
 h.trans (Y:=One mb) ⟨ht.os,ht.tape,ht.output,ht.size,fun k hk hx=>ht.block k hk (fun e=>hx (by cases e;rfl))⟩ fun k hk e=>by
  have e:k=mb:=e;subst e;rcases hX with h|h
  ·exact h
  ·omega
def uc (xs:List Nat):Array Value:=(xs.map fun (x:Nat)=>Value.int .u32 (x:Int)).toArray
theorem uc_get {xs:List Nat} {i:Nat} (h:i<xs.length):(uc xs)[i]?=some (.int .u32 ((inN xs i:Nat):Int)):=by
 simp [uc,h,inN_eq h]
theorem uc_set {xs:List Nat} {i y:Nat} : (uc xs).setIfInBounds i (.int .u32 (y:Int))=uc (xs.set i y):=by
 simp [uc,List.map_set]
theorem uc_size (xs:List Nat):(uc xs).size=xs.length:=by simp [uc]
theorem uc_made (n:Nat):madeCells #[.int .u32 0] n=uc (List.replicate n 0):=by
 apply Array.toList_inj.1
 rw [toList_madeCells_one];simp [uc]
theorem ul_of {w:World} {b:Nat} {xs:List Nat} (h:Op.At w b (uc xs)):Ul w (some ⟨b,0,none⟩) xs:=
 ⟨fun _=>⟨b,rfl,h.lt,fun i hi=>by rw [h.c i _ (uc_get hi),inN_eq hi]⟩⟩
theorem at_fr {X:Nat->Prop} {w w':World} {b:Nat} {cs:Array Value} (h:Op.At w b cs) (hF:Fr X w w') (hX:¬ X b):Op.At w' b cs:=
 ⟨fun j v e=>by rw [hF.cell h.lt hX];exact h.c j v e,fun j=>by rw [hF.frozen h.lt hX];exact h.f j,Nat.lt_of_lt_of_le h.lt hF.size⟩
structure L1 (w wr:World) (ao:Option Addr) (cap:Nat) (ps:List Bk) (bA mb k:Nat) (vs:Array Value) (D:DataW Unit):Prop where
 b:Below w.heap.size w wr
 box:Op.At wr w.heap.size #[.slice ao ps.length cap]
 hA:w.heap.size<bA
 hm:bA<mb
 va:Op.At wr bA vs
 len:vs.size=ps.length
 done:∀ i,i<k->∃ a c,vs[i]?=some (.slice a (aheadL ps (i:Int)).length c)/\Il wr (mb+1) a (aheadL ps (i:Int))
 map:Wm wr mb D ps.length
 has:∀ n:Nat,Maps.has D (kn n)=true↔n<k
 sz:Maps.size D<=k
theorem L1.start {w w1:World} {ao:Option Addr} {cap:Nat} {ps:List Bk} (hb:Below w.heap.size w w1) (hx:Op.At w1 w.heap.size #[.slice ao ps.length cap]) (t:TypeId) :
  L1 w ((w1.alloc (.cells (madeCells #[.slice none 0 0] ps.length) t)).alloc (.map #[] 0)) ao cap ps w1.heap.size (w1.heap.size+1) 0 (madeCells #[.slice none 0 0] ps.length) (.map []):=by
 have e1:(w1.alloc (.cells (madeCells #[.slice none 0 0] ps.length) t)).heap.size=w1.heap.size+1:=by simp
 refine ⟨(hb.alloc hb.size _).alloc (by have:=hb.size;simp;omega) _,(hx.alloc _).alloc _,hx.lt,by omega,(Op.At.new w1 _ t).alloc _,size_madeCells _ _,fun i hi=>by omega,⟨?_,fun l hl=>by cases hl⟩,fun n=>⟨fun h=>(by cases h),fun h=>(by omega)⟩,Nat.le_refl _⟩
 have:=World.ownsMap_made (w1.alloc (.cells (madeCells #[.slice none 0 0] ps.length) t)) Tryz.prog 3 (unitElem (H:=Unit))
 rw [e1] at this;exact this
theorem L1.step {w wr w2 w4:World} {ao a:Option Addr} {cap c k bA mb m:Nat} {ps:List Bk} {vs:Array Value} {D:DataW Unit} (h:L1 w wr ao cap ps bA mb k vs D) (hk:k<ps.length)
  (hI:Il w2 wr.heap.size a (aheadL ps (k:Int))) (hb:Below wr.heap.size wr w2) (ho:w4.ownsMap Tryz.prog 3 (unitElem (H:=Unit)) mb m (D.put (kn k) (.agg [])))
  (hg:(w2.setCell ⟨bA,k,none⟩ (.slice a (aheadL ps (k:Int)).length c)).grownBy w4 (some mb)) :
  L1 w w4 ao cap ps bA mb (k+1) (vs.setIfInBounds k (.slice a (aheadL ps (k:Int)).length c)) (D.put (kn k) (.agg [])):=by
 have hml:=h.map.own.lt;have hA:=h.hA;have hmm:=h.hm;have hAl:=h.va.lt;have f1:Fr (fun j=>j=bA\/j=mb) wr w4:=Fr.turned ((Fr.of hb).setCell (Or.inr (Or.inl rfl)) k _) (Or.inl (Or.inr rfl)) hg;have f2:Fr (One mb) (w2.setCell ⟨bA,k,none⟩ (.slice a (aheadL ps (k:Int)).length c)) w4:=Fr.turned (Fr.refl _ _) (Or.inl rfl) hg;have f3:Fr (fun j=>j=bA\/j=mb) w2 w4:=Fr.turned ((Fr.refl _ _).setCell (Or.inr (Or.inl rfl)) k _) (Or.inl (Or.inr rfl)) hg;refine ⟨h.b.trans (f1.below h.b.size fun j hj e=>?_),at_fr h.box f1 (fun e=>?_),hA,hmm,?_,by rw [Array.size_setIfInBounds];exact h.len,fun i hi=>?_,h.map.put hk ho,fun n=>?_,?_⟩
 ·have:=h.b.size
  rcases e with e|e <;> omega
 ·rcases e with e|e <;> omega
 ·refine at_fr ?_ f2 (fun e=>?_)
  ·exact (h.va.below hb hAl).set (by rw [h.len];exact hk) _
  ·have e:bA=mb:=e;omega
 ·by_cases e:i=k
  ·subst e;refine ⟨a,c,by simp [h.len,hk],?_⟩;refine (hI.low (by omega:mb+1<=wr.heap.size)).fr f3 fun b hb' _ e=>?_;rcases e with e|e <;> omega
  ·obtain ⟨a',c',h1,h2⟩:=h.done i (by omega);refine ⟨a',c',by rw [Array.getElem?_setIfInBounds_ne (Ne.symm e)];exact h1,h2.fr f1 fun b hb' _ e=>?_⟩;rcases e with e|e <;> omega
 ·rw [has_put h.map.isMap,h.has n];omega
 ·have:=size_put_le h.map.tidy k
  have:=h.sz
  omega
structure L2 (wA wr:World) (ps:List Bk) (mb bI:Nat) (xs:List Nat) (D:DataW Unit):Prop where
 fr:Fr (One mb) wA wr
 hI:wA.heap.size<=bI
 hm:mb<wA.heap.size
 u:Op.At wr bI (uc xs)
 map:Wm wr mb D ps.length
 so:So (PB ps) xs
 rise:Rise (PB ps) xs
theorem L2.xl {wA wr:World} {ps:List Bk} {mb bI:Nat} {xs:List Nat} {D:DataW Unit} (h:L2 wA wr ps mb bI xs D):xs.length=ps.length:=by rw [h.so.len];simp
theorem L2.go {wA wr w':World} {ps:List Bk} {mb bI:Nat} {xs:List Nat} {D:DataW Unit} (h:L2 wA wr ps mb bI xs D) (hb:Below wr.heap.size wr w'):L2 wA w' ps mb bI xs D:=
 ⟨h.fr.then hb,h.hI,h.hm,h.u.below hb h.u.lt,h.map.kept hb,h.so,h.rise⟩
theorem L2.turn {wA wr w':World} {ps:List Bk} {mb bI:Nat} {xs:List Nat} {D D':DataW Unit} (h:L2 wA wr ps mb bI xs D) (hg:wr.grownBy w' (some mb)) (hM:Wm w' mb D' ps.length):L2 wA w' ps mb bI xs D':=
 ⟨Fr.turned h.fr (Or.inl rfl) hg,h.hI,h.hm,at_fr h.u (Fr.turned (X:=One mb) (Fr.refl _ _) (Or.inl rfl) hg) (fun e=>by
  have e:bI=mb:=e
  have:=h.hI;have:=h.hm;omega),hM,h.so,h.rise⟩
theorem L2.set {wA wr:World} {ps:List Bk} {mb bI g:Nat} {xs:List Nat} {D:DataW Unit} (h:L2 wA wr ps mb bI xs D) (hs:∀ (i:Nat) k,(PB ps)[i]?=some k->SmallB k) (hg:g<ps.length):L2 wA (wr.setCell ⟨bI,g,none⟩ (.int .u32 ((intoN (bOf ps[g]) xs:Nat):Int))) ps mb bI (xs.set g (intoN (bOf ps[g]) xs)) D:=by
 have hx:=h.xl;have hI:=h.hI;have hm:=h.hm;refine ⟨h.fr.setCell (Or.inl hI) _ _,hI,hm,?_,⟨h.map.own.setCell (fun e=>?_) _,h.map.key⟩,h.so.new (pb_at hg) (hs g _ (pb_at hg)),h.rise.set hs h.so.fit (by omega) (pb_at hg)⟩
 ·rw [<- uc_set];exact h.u.set (by rw [uc_size];omega) _
 ·have e:mb=bI:=e;omega
theorem L2.start {wA:World} {ps:List Bk} {mb:Nat} {D:DataW Unit} (hm:Wm wA mb D ps.length) (t:TypeId):L2 wA (wA.alloc (.cells (madeCells #[.int .u32 0] ps.length) t)) ps mb wA.heap.size (List.replicate ps.length 0) D:=by
 have hl:=hm.own.lt;refine ⟨(Fr.refl _ _).alloc _,Nat.le_refl _,hl,?_,hm.kept (below_al _),?_,Rise.init _ _⟩
 ·rw [uc_made];exact Op.At.new _ _ _
 ·have:=So.init (PB ps)
  simpa using this
theorem ahead_of {ps:List Bk} (hc:ckP ps=0) {g j:Nat} {k':B} (hg:g<ps.length) (hk:(PB ps)[j]?=some k') (hs:g∈k'.e.succ):(j:Int)∈aheadL ps (g:Int):=by
 rw [List.getElem?_map,Option.map_eq_some_iff] at hk;obtain ⟨x,hx,rfl⟩:=hk;obtain ⟨hj,e⟩:=List.getElem?_eq_some_iff.1 hx;have hm:=List.mem_of_getElem? hx;rw [succ_turn x ⟨_,end_of (ck_blocks hc x hm)⟩] at hs;have hkn:knB ps (g:Int)=true:=by
  unfold knB;simp only [Bool.and_eq_true,decide_eq_true_eq];exact ⟨⟨by omega,by omega⟩,hc⟩
 unfold Fl.aheadL aheadTo;rw [if_pos hkn];simp only [List.mem_map,List.mem_filter,List.mem_range];exact ⟨j,⟨hj,by rw [hx];simpa using hs⟩,rfl⟩
theorem ahead_lt {ps:List Bk} {g z:Int} (h:z∈aheadL ps g):0<=z/\z<ps.length:=by
 unfold Fl.aheadL at h
 split at h
 ·unfold aheadTo at h;simp only [List.mem_map,List.mem_filter,List.mem_range] at h;obtain ⟨i,⟨hi,_⟩,rfl⟩:=h;omega
 ·simp at h
theorem ahead_le (ps:List Bk) (g:Int):(aheadL ps g).length<=ps.length:=by
 unfold Fl.aheadL
 split
 ·exact aheadTo_len _ _ _
 ·simp
theorem reach_pos {ps:List Bk} (hc:ckP ps=0):0<(reachI ps).length:=by
 have hG:=good_of hc;have hp:=hG.pos;have hk:knB ps 0=true:=by
  unfold knB;simp only [Bool.and_eq_true,decide_eq_true_eq];exact ⟨⟨by omega,by omega⟩,hc⟩
 unfold reachI;rw [if_pos hk,List.length_map];refine List.length_pos_of_mem (a:=0) ?_;simp only [Fw.reachL,List.mem_filter,List.mem_range,Bool.or_eq_true,beq_iff_eq];exact ⟨hp,by simp⟩
theorem reach_no {ps:List Bk} (hc:ckP ps≠0):reachI ps=[]:=by
 have hk:knB ps 0=false:=by
  unfold knB;simp [hc]
 unfold reachI;rw [hk];rfl
theorem info29:(Tryz.prog.info? 29).map (fun i=>(i.zero,i.size,i.bytes))=some (some (.slice none 0 0),1,24):=by kernel_rfl
theorem info76:(Tryz.prog.info? 76).map (fun i=>(i.zero,i.size,i.bytes))=some (some (.int .u32 0),1,4):=by kernel_rfl
def Gu (w w':World) (v:Value) (xs:List Nat):Prop:=∃ a c,v=.slice a xs.length c/\Ul w' a xs/\Below w.heap.size w w'
theorem in_no (ao:Option Addr) (cap:Nat) (ps:List Bk) (w:World) (h:PAt w ao ps) (he:Env w) (hc:ckP ps≠0) :
  Calls Tryz.prog 30 #[.agg #[.slice ao ps.length cap]] w fun e w'=>e=.returned (.slice none 0 0)/\Below w.heap.size w w':=by
 have hb1:Below w.heap.size w (w.alloc (.cells #[.slice ao ps.length cap] 40)):=below_al _;have HK:Hid (Calls Tryz.prog 54 #[.agg #[.slice ao ps.length cap]] (w.alloc (.cells #[.slice ao ps.length cap] 40)) fun e w'=>∃ a c,e=.returned (.slice a 0 c)/\Below (w.alloc (.cells #[.slice ao ps.length cap] 40)).heap.size (w.alloc (.cells #[.slice ao ps.length cap] 40)) w'):=
  (reached_any ao cap ps _ (h.below hb1) (he.up hb1)).mono fun e w' ⟨v,h1,a,c,h2,_,h3⟩=>⟨a,c,by rw [h1,h2,reach_no hc];rfl,h3⟩
 clear h he hc hb1;go_enter Tryz.func30,Tryz.ntmps30;go_wp2_with (first|(go_at_call 54;refine Calls.mono HK.out ?_;rintro e w1 ⟨a,c,rfl,hb⟩;obtain ⟨a1,hb0,hz⟩:=one_new w _ _ hb;have HB1:Hid _:=hb0;clear hb hb0 a1 HK))
 go_ret
 exact ⟨rfl,HB1.out⟩
structure L3 (D1 D:DataW Unit) (l:List Int) (k:Nat):Prop where
 has:∀ j:Nat,Maps.has D (kn j)=true↔Maps.has D1 (kn j)=true\/(j:Int)∈l.take k
 sz:Maps.size D<=Maps.size D1+k
theorem L3.start (D:DataW Unit) (l:List Int):L3 D D l 0:=⟨fun j=>by simp,Nat.le_refl _⟩
theorem L3.step {D1 D:DataW Unit} {l:List Int} {k y:Nat} (h:L3 D1 D l k) (hD:Tidy D) (hk:k<l.length) (hy:l[k]=(y:Int)):L3 D1 (D.put (kn y) (.agg [])) l (k+1):=
 ⟨fun j=>by
  rw [has_put hD.isMap,h.has j,List.take_succ_eq_append_getElem hk,List.mem_append,List.mem_singleton,hy];constructor
  ·rintro (h|h|h)
   ·exact Or.inr (Or.inr (by omega))
   ·exact Or.inl h
   ·exact Or.inr (Or.inl h)
  ·rintro (h|h|h)
   ·exact Or.inr (Or.inl h)
   ·exact Or.inr (Or.inr h)
   ·exact Or.inl (by omega),by
  have:=size_put_le hD y
  have:=h.sz
  omega⟩
theorem work_same {ps:List Bk} {xs:List Nat} {D:DataW Unit} {g:Nat} (hW:Work (PB ps) xs fun j=>Maps.has D (kn j)=true) (hg:g<ps.length) (hx:xs.length=ps.length) (he:intoN (bOf ps[g]) xs=inN xs g):Work (PB ps) xs fun j=>Maps.has (D.del (kn g)) (kn j)=true:=by
 have e1:inN xs g ||| intoN (bOf ps[g]) xs=inN xs g:=by rw [he,Nat.or_self]
 have h:=hW.step (work':=fun j=>Maps.has (D.del (kn g)) (kn j)=true) (pb_at hg) (by omega) (fun j hj hne=>(has_del g j).2 ⟨hne,hj⟩) (fun hne=>absurd e1 hne);rw [e1,inN_eq (by omega),List.set_getElem_self] at h;exact h
theorem work_more {ps:List Bk} {xs:List Nat} {D D':DataW Unit} {g:Nat} (hc:ckP ps=0) (hW:Work (PB ps) xs fun j=>Maps.has D (kn j)=true) (hg:g<ps.length) (hx:xs.length=ps.length) (hr:Rise (PB ps) xs) (h3:L3 (D.del (kn g)) D' (Fl.aheadL ps (g:Int)) (Fl.aheadL ps (g:Int)).length) :
  Work (PB ps) (xs.set g (intoN (bOf ps[g]) xs)) fun j=>Maps.has D' (kn j)=true:=by
 have h:=hW.step (work':=fun j=>Maps.has D' (kn j)=true) (pb_at hg) (by omega) (fun j hj hne=>(h3.has j).2 (Or.inl ((has_del g j).2 ⟨hne,hj⟩))) (fun _ j k' hk' hs=>(h3.has j).2 (Or.inr (by rw [List.take_length];exact ahead_of hc hg hk' hs)));rw [hr g _ (pb_at hg)] at h;exact h
theorem left_less {ps:List Bk} {xs:List Nat} {g:Nat} (hs:∀ (i:Nat) k,(PB ps)[i]?=some k->SmallB k) (hf:Fit xs) (hg:g<ps.length) (hx:xs.length=ps.length) (hr:Rise (PB ps) xs) (hne:intoN (bOf ps[g]) xs≠inN xs g):left (xs.set g (intoN (bOf ps[g]) xs))<left xs:=by
 have e:=hr g _ (pb_at hg);have h1:=grow (inN xs g) (intoN (bOf ps[g]) xs);rw [e] at h1;refine left_set (by omega) ?_ (intoN_lt (hs g _ (pb_at hg)) hf);rw [<- inN_eq (by omega:g<xs.length)];omega
theorem L2.up {w wA wr:World} {ps:List Bk} {mb bI:Nat} {xs:List Nat} {D:DataW Unit} (h:L2 wA wr ps mb bI xs D) (hb:Below w.heap.size w wA) (hm:w.heap.size<=mb):Below w.heap.size w wr:=
 hb.trans (h.fr.below hb.size fun j hj e=>by
  have e:j=mb:=e
  omega)
theorem in_yes (ao:Option Addr) (cap:Nat) (ps:List Bk) (w:World) (h:PAt w ao ps) (he:Env w) (hc:ckP ps=0) :
  Calls Tryz.prog 30 #[.agg #[.slice ao ps.length cap]] w fun e w'=>∃ v xs,e=.returned v/\Gu w w' v xs/\So (PB ps) xs/\∀ (i:Nat) k,(PB ps)[i]?=some k->Lv.Shut k xs i:=by
 have hb1:Below w.heap.size w (w.alloc (.cells #[.slice ao ps.length cap] 40)):=below_al _;have HK:Hid (Calls Tryz.prog 54 #[.agg #[.slice ao ps.length cap]] (w.alloc (.cells #[.slice ao ps.length cap] 40)) fun e w'=>∃ a n c,e=.returned (.slice a n c)/\0<n/\Below (w.alloc (.cells #[.slice ao ps.length cap] 40)).heap.size (w.alloc (.cells #[.slice ao ps.length cap] 40)) w'):=
  (reached_any ao cap ps _ (h.below hb1) (he.up hb1)).mono fun e w' ⟨v,h1,a,c,h2,_,h3⟩=>⟨a,_,c,by rw [h1,h2],reach_pos hc,h3⟩
 have HA:Hid (∀ (i:Nat) W,Below w.heap.size w W->Calls Tryz.prog 55 #[.agg #[.slice ao ps.length cap],.int .i64 (i:Int)] W fun e w'=>∃ a c,e=.returned (.slice a (Fl.aheadL ps (i:Int)).length c)/\Il w' W.heap.size a (Fl.aheadL ps (i:Int))/\Below W.heap.size W w'):=fun i W hb=>
  (ahead_any ao cap ps i W (h.below hb) (he.up hb)).mono fun e w' ⟨v,h1,a,c,h2,h3,h4⟩=>⟨a,c,by rw [h1,h2],h3,h4⟩
 have hG:=good_of hc;have hpos:=hG.pos;have hle:=hG.le;have hsm:=pb_small hc (psOk_of h);have HSm:Hid (∀ (i:Nat) k,(PB ps)[i]?=some k->SmallB k):=hsm;obtain ⟨bp,fp,rfl,hblt,hx⟩:=h.is hpos;have HX:Hid (∀ (i:Nat) (h:i<ps.length),∃ p,BAt w bp (fp+i*6) ps[i] p/\BIn w ps[i] p):=hx;have HE:Hid (∀ (i:Nat) (h:i<ps.length),endB ps[i] ps.length=true):=fun i hi=>end_of (ck_blocks hc _ (List.getElem_mem hi));have HGr:Hid (∀ mb D W,Wm W mb D ps.length->0<Maps.size D->Calls Tryz.prog 56 #[.map (some mb)] W fun e w'=>∃ g:Nat,e=.returned (.int .i64 (g:Int))/\g<ps.length/\Maps.has D (kn g)=true/\Below W.heap.size W w'):=fun mb D W hW hD=>greatest_any mb ps.length D W hW hD;have HIn:Hid (∀ (i:Nat) (hi:i<ps.length) p bI c xs W,BIn W ps[i] p->Op.At W bI (uc xs)->Fit xs->xs.length=ps.length->Calls Tryz.prog 57 #[ps[i].val p,.slice (some ⟨bI,0,none⟩) ps.length c] W fun e w'=>e=.returned (.int .u32 ((intoN (bOf ps[i]) xs:Nat):Int))/\Below W.heap.size W w'):=fun i hi p bI c xs W h1 h2 h3 h4=>by
  have:=into_any ps[i] p (some ⟨bI,0,none⟩) c xs W h1 (ul_of h2) h3 (by omega) (by rw [h4];exact HE.out i hi)
  rw [h4] at this;exact this
 have hmm:=@run_makeMap Tryz.prog;obtain ⟨i0,hi,hi2⟩:=Option.map_eq_some_iff.1 info29;simp only [Prod.mk.injEq] at hi2;obtain ⟨hz0,hz1,hz2⟩:=hi2;have HI:Hid (Tryz.prog.info? 29=some i0/\i0.zero=some (.slice none 0 0)/\i0.size=1/\i0.bytes=24):=⟨hi,hz0,hz1,hz2⟩;clear hi hz0 hz1 hz2;obtain ⟨i1,hi,hi2⟩:=Option.map_eq_some_iff.1 info76;simp only [Prod.mk.injEq] at hi2;obtain ⟨hz0,hz1,hz2⟩:=hi2;have HJ:Hid (Tryz.prog.info? 76=some i1/\i1.zero=some (.int .u32 0)/\i1.size=1/\i1.bytes=4):=⟨hi,hz0,hz1,hz2⟩;clear hi hz0 hz1 hz2 h he hb1 hG hsm hx;have HC:Hid (ckP ps=0):=hc;clear hc;go_enter Tryz.func30,Tryz.ntmps30;go_wp2_with (first
  | (go_at_call 54;refine Calls.mono HK.out ?_;rintro e w1 ⟨a,n0,c,rfl,hn0,hb⟩;obtain ⟨a1,hb0,hz⟩:=one_new w _ _ hb;have HB1:Hid (Below w.heap.size w w1):=hb0;have cb:=a1.c 0 _ rfl;have HA1:Hid (Op.At w1 w.heap.size #[.slice (some ⟨bp,fp,none⟩) ps.length cap]):=a1;have hn1:¬ (n0:Int)=0:=(by omega);clear hb hb0 a1 HK)
  | (at_make;refine wpList_make_row _ rfl _ _ 124 rfl 29 i0 (.slice none 0 0) Tryz.underlying124 HI.out.1 HI.out.2.1 HI.out.2.2.1 rfl .i64 .i64 ps.length rfl rfl (by rw [HI.out.2.2.2];omega) (by omega) ?_;have cc:=((HA1.out.alloc (.cells (madeCells #[.slice none 0 0] ps.length) 29)).alloc (.map #[] 0)).c 0 _ rfl))
 have HS:Hid (L1 w ((w1.alloc (.cells (madeCells #[.slice none 0 0] ps.length) 29)).alloc (.map #[] 0)) (some ⟨bp,fp,none⟩) cap ps w1.heap.size (w1.heap.size+1) 0 (madeCells #[.slice none 0 0] ps.length) (.map [])):=L1.start HB1.out HA1.out 29;clear cb cc HA1 hn0 hn1 hmm hz;generalize hbA:w1.heap.size=bA at *
 go_loopw [23] (fun i wr=>∃ (k:Nat) (vs:Array Value) (D:DataW Unit),k<=ps.length/\i=.int .i64 k/\Hid (L1 w wr (some ⟨bp,fp,none⟩) cap ps bA (bA+1) k vs D)) (fun i _=>ps.length-(intOf i).toNat)
 case atStart=>exact ⟨0,_,_,by omega,rfl,HS.out⟩
 case round=>
  rename_i wr;clear HS hbA HB1;obtain ⟨k,vs,D,hk,rfl,HL⟩:=hrel;have cb:=HL.out.box.c 0 _ rfl
  by_cases hlk:k<ps.length
  ·have hkz:(k:Int)<(ps.length:Int):=by omega
   have hvk:=Array.getElem?_eq_getElem (xs:=vs) (i:=k) (by rw [HL.out.len];exact hlk);have hsz:=HL.out.sz;clear HGr HIn HX HE HJ;go_wp2_with (first
    | (go_at_call 55;refine Calls.mono (HA.out k _ HL.out.b) ?_;rintro e w2 ⟨a2,c2,rfl,hI2,hb2⟩;have HI2:Hid (Il w2 wr.heap.size a2 (Fl.aheadL ps (k:Int))/\Below wr.heap.size wr w2):=⟨hI2,hb2⟩;have HM2:Hid (w2.ownsMap Tryz.prog 3 (unitElem (H:=Unit)) (bA+1) (Maps.size D) D):=(HL.out.map.kept hb2).own;have cv:=(HL.out.va.below hb2 HL.out.va.lt).c k _ hvk;have fv:=(HL.out.va.below hb2 HL.out.va.lt).f k;clear hI2 hb2)
    | (at_mapUpdate;refine wpList_mapUpdate_own _ rfl _ _ _ 125 rfl 3 126 law3 Tryz.underlying125 _ (bA+1) _ _ rfl (HM2.out.setCell (by simp) _) (by unfold maxLen;omega) _ _ _ rfl rfl (key3 (by omega)) (.agg []) [] unitElem_mk ?_;intro w4 hown4 hgr4))
   go_roundw
   case rel=>exact ⟨k+1,_,_,by omega,by go_num,HL.out.step hlk HI2.out.1 HI2.out.2 hown4 hgr4⟩
   case measure=>simp [intOf];omega
  ·obtain rfl:k=ps.length:=by omega
   clear HA;go_wp2_with (first
    | (at_make;refine wpList_make_row _ rfl _ _ 74 rfl 76 i1 (.int .u32 0) Tryz.underlying74 HJ.out.1 HJ.out.2.1 HJ.out.2.2.1 rfl .i64 .i64 ps.length rfl rfl (by rw [HJ.out.2.2.2];omega) (by omega) ?_))
   have H2:Hid (L2 wr (wr.alloc (.cells (madeCells #[.int .u32 0] ps.length) 76)) ps (bA+1) wr.heap.size (List.replicate ps.length 0) D/\Work (PB ps) (List.replicate ps.length 0) fun j=>Maps.has D (kn j)=true):=⟨L2.start HL.out.map 76,fun j k' hk' hn=>absurd ((HL.out.has j).2 (by have:=(List.getElem?_eq_some_iff.1 hk').1;simpa using this)) hn⟩;have hsz:=HL.out.sz;have hl0:=left_init ps.length;generalize hbI:wr.heap.size=bI at *
   go_loopg [7] (ps.length*858993459200+1000) (fun g1 v7 wq=>∃ (xs:List Nat) (D':DataW Unit),left xs*200+Maps.size D'<g1/\left xs*200+Maps.size D'<=ps.length*858993459200+200/\Hid (L2 wr wq ps (bA+1) bI xs D'/\Work (PB ps) xs fun j=>Maps.has D' (kn j)=true))
   case atStart=>exact ⟨_,D,by rw [hl0];omega,by rw [hl0];omega,H2.out⟩
   case round=>
    rename World=>wq;clear H2 hl0 hsz cb;obtain ⟨xs,D',hcg,hcb,H2⟩:=hrel;have hmw:Hid (Below w.heap.size w wr/\w.heap.size<=bA+1):=⟨HL.out.b,by have:=HL.out.hA;omega⟩
    by_cases hD:Maps.size D'=0
    ·have hR:Hid (xs.length=ps.length/\Ul wq (some ⟨bI,0,none⟩) xs/\Below w.heap.size w wq/\So (PB ps) xs/\∀ (i:Nat) k,(PB ps)[i]?=some k->Lv.Shut k xs i):=
      ⟨H2.out.1.xl,ul_of H2.out.1.u,H2.out.1.up hmw.out.1 hmw.out.2,H2.out.1.so,H2.out.2.done fun j _=>by rw [size_zero H2.out.1.map.isMap hD];simp⟩
     go_wp2_with (first
      | (at_len;refine wpList_len_own _ rfl _ 125 rfl 3 126 Tryz.underlying125 _ (bA+1) _ _ rfl H2.out.1.map.own ?_))
     go_ret
     exact ⟨_,xs,rfl,⟨_,_,by rw [hR.out.1];rfl,hR.out.2.1,hR.out.2.2.1⟩,hR.out.2.2.2⟩
    ·have hD1:(Maps.size D':Int)>0:=by omega
     go_upto_region 16 with (first
      | (at_len;refine wpList_len_own _ rfl _ 125 rfl 3 126 Tryz.underlying125 _ (bA+1) _ _ rfl H2.out.1.map.own ?_)
      | (go_at_call 56;refine Calls.mono (HGr.out _ _ _ H2.out.1.map (by omega)) ?_;rintro e w3 ⟨g,rfl,hg,hgD,hb3⟩;have H3:Hid (L2 wr w3 ps (bA+1) bI xs D'):=H2.out.1.go hb3;clear hb3)
      | (at_delete;refine wpList_delete_own _ rfl _ _ 125 3 rfl 126 law3 Tryz.underlying125 _ (bA+1) _ _ rfl H3.out.map.own _ _ rfl (key3 (by omega)) ?_;intro w4 hown4 hturn4;have H4:Hid (L2 wr w4 ps (bA+1) bI xs (D'.del (kn g))):=H3.out.turn hturn4.grown (H3.out.map.del hown4);obtain ⟨p,hp,hin⟩:=HX.out g hg;obtain ⟨p0,p1,p2,p3,p4,p5⟩:=hp.below (H4.out.up hmw.out.1 hmw.out.2) hblt;have HB4:Hid (BIn w4 ps[g] p):=hin.below (H4.out.up hmw.out.1 hmw.out.2);have cb:=(at_fr HL.out.box H4.out.fr (fun e=>by have e:w.heap.size=bA+1:=e;have:=HL.out.hA;omega)).c 0 _ rfl;have hgz:(g:Int)<(ps.length:Int):=(by omega);clear hown4 hturn4 H3 hp hin)
      | (go_at_call 57;refine Calls.mono (HIn.out g hg p bI _ xs _ HB4.out H4.out.u H4.out.so.fit H4.out.xl) ?_;rintro e w5 ⟨rfl,hb5⟩;have H5:Hid (L2 wr w5 ps (bA+1) bI xs (D'.del (kn g))):=H4.out.go hb5;have cu:=H5.out.u.c g _ (uc_get (by rw [H5.out.xl];exact hg));have fu:=H5.out.u.f g;clear hb5 HB4 H4 p0 p1 p2 p3 p4 p5 cb))
     have hsd:Maps.size (D'.del (kn g))+1=Maps.size D':=size_del_lt H2.out.1.map.tidy hgD
     by_cases he:intoN (bOf ps[g]) xs=inN xs g
     ·have HN:Hid (L2 wr w5 ps (bA+1) bI xs (D'.del (kn g))/\Work (PB ps) xs fun j=>Maps.has (D'.del (kn g)) (kn j)=true):=⟨H5.out,work_same H2.out.2 hg H2.out.1.xl he⟩;rw [he];clear H5 H2 he;go_wp2
      go_roundg (left xs*200+Maps.size D')
      case measure=>omega
      case rel=>exact ⟨xs,_,by omega,by omega,HN.out⟩
     ·have hne:¬ ((intoN (bOf ps[g]) xs:Nat):Int)=((inN xs g:Nat):Int):=by omega
      have hll:left (xs.set g (intoN (bOf ps[g]) xs))<left xs:=left_less HSm.out H2.out.1.so.fit hg H2.out.1.xl H2.out.1.rise he;have HW3:Hid (∀ D3,L3 (D'.del (kn g)) D3 (Fl.aheadL ps (g:Int)) (Fl.aheadL ps (g:Int)).length->Work (PB ps) (xs.set g (intoN (bOf ps[g]) xs)) fun j=>Maps.has D3 (kn j)=true):=fun D3 h3=>work_more HC.out H2.out.2 hg H2.out.1.xl H2.out.1.rise h3;have H6:Hid (L2 wr (w5.setCell ⟨bI,g,none⟩ (.int .u32 ((intoN (bOf ps[g]) xs:Nat):Int))) ps (bA+1) bI (xs.set g (intoN (bOf ps[g]) xs)) (D'.del (kn g))):=H5.out.set HSm.out hg;obtain ⟨aa,ac,ha1,ha2⟩:=HL.out.done g hg;have HI6:Hid (Il wr (bA+1+1) aa (Fl.aheadL ps (g:Int))):=ha2;have ca:=(at_fr HL.out.va H6.out.fr (fun e=>by have e:bA=bA+1:=e;omega)).c g _ ha1;have hal:(Fl.aheadL ps (g:Int)).length<=128:=Nat.le_trans (ahead_le ps g) hle;have HAl:Hid (∀ z∈Fl.aheadL ps (g:Int),0<=z/\z<ps.length):=fun z hz=>ahead_lt hz;generalize hxs':xs.set g (intoN (bOf ps[g]) xs)=xs' at *;generalize hl:Fl.aheadL ps (g:Int)=l at *;generalize hD1':D'.del (kn g)=D1 at *;have hbq:(((intoN (bOf ps[g]) xs:Nat):Int)==((inN xs g:Nat):Int))=false:=by simpa using hne
      clear H5 H2 he ha1 ha2 hxs' hl hD1';go_wp2
      clear hbq;generalize hW6:w5.setCell ⟨bI,g,none⟩ (.int .u32 ((intoN (bOf ps[g]) xs:Nat):Int))=w6 at *;clear hW6 ca cu fu hne
      go_loopw [69] (fun i wq3=>∃ (k:Nat) (D3:DataW Unit),k<=l.length/\i=.int .i64 k/\Hid (L2 wr wq3 ps (bA+1) bI xs' D3/\L3 D1 D3 l k)) (fun i _=>l.length-(intOf i).toNat)
      case atStart=>exact ⟨0,D1,by omega,rfl,H6.out,L3.start _ _⟩
      case round=>
       rename World=>wt;clear H6;obtain ⟨k,D3,hk3,rfl,H7⟩:=hrel
       by_cases hlk3:k<l.length
       ·have hkz:(k:Int)<(l.length:Int):=by omega
        obtain ⟨q,rfl,hq1,hq2,hqc⟩:=(HI6.out.fr H7.out.1.fr (fun b hb _ e=>by have e:b=bA+1:=e;omega)).is (by omega);have ck:=hqc k hlk3;obtain ⟨z0,z1⟩:=HAl.out l[k] (List.getElem_mem hlk3);obtain ⟨y,hy⟩:∃ y:Nat,l[k]=(y:Int):=⟨l[k].toNat,by omega⟩;have H8:Hid (L3 D1 (D3.put (kn y) (.agg [])) l (k+1)):=H7.out.2.step H7.out.1.map.tidy hlk3 hy;have hyn:y<ps.length:=by omega
        have hs3:=H7.out.2.sz;rw [hy] at ck;clear hqc hy z0 z1;go_wp2_with (first
         | (at_mapUpdate;refine wpList_mapUpdate_own _ rfl _ _ _ 125 rfl 3 126 law3 Tryz.underlying125 _ (bA+1) _ _ rfl H7.out.1.map.own (by unfold maxLen;omega) _ _ _ rfl rfl (key3 (by omega)) (.agg []) [] unitElem_mk ?_;intro w8 hown8 hgr8))
        go_roundw
        case rel=>exact ⟨k+1,_,by omega,by go_num,H7.out.1.turn hgr8 (H7.out.1.map.put hyn hown8),H8.out⟩
        case measure=>simp [intOf];omega
       ·obtain rfl:k=l.length:=by omega
        have hs3:=H7.out.2.sz;have HN:Hid (L2 wr wt ps (bA+1) bI xs' D3/\Work (PB ps) xs' fun j=>Maps.has D3 (kn j)=true):=⟨H7.out.1,HW3.out D3 H7.out.2⟩;clear H7 HW3;go_wp2
        go_roundg (left xs*200+Maps.size D')
        case measure=>omega
        case rel=>exact ⟨xs',_,by omega,by omega,HN.out⟩
theorem in_any (ao:Option Addr) (cap:Nat) (ps:List Bk) (w:World) (h:PAt w ao ps) (he:Env w) :
  Calls Tryz.prog 30 #[.agg #[.slice ao ps.length cap]] w fun e w'=>∃ v xs,e=.returned v/\Gu w w' v xs/\IsIn ps xs:=by
 by_cases hc:ckP ps=0
 ·exact (in_yes ao cap ps w h he hc).mono fun e w' ⟨v,xs,h1,h2,h3⟩=>⟨v,xs,h1,h2,⟨fun _=>h3,fun hn=>absurd hc hn⟩⟩
 ·exact (in_no ao cap ps w h he hc).mono fun e w' ⟨h1,h2⟩=>⟨_,[],h1,⟨none,0,rfl,Ul.nil _ _,h2⟩,⟨fun hn=>absurd hn hc,fun _=>rfl⟩⟩
def InIs (ps:List Bk) (I:List Nat):Prop:=∀ xs,IsIn ps xs->xs=I
theorem in_ex {ps:List Bk} (ho:PsOk ps):∃ I,InIs ps I:=by
 by_cases h:∃ xs,IsIn ps xs
 ·obtain ⟨xs,hx⟩:=h;exact ⟨xs,fun ys hy=>hy.same ho hx⟩
 ·exact ⟨[],fun ys hy=>absurd ⟨ys,hy⟩ h⟩
theorem in_is (I:List Nat) (ao:Option Addr) (cap:Nat) (ps:List Bk) (w:World) (hI:InIs ps I) (h:PAt w ao ps) (he:Env w) :
  Calls Tryz.prog 30 #[.agg #[.slice ao ps.length cap]] w fun e w'=>∃ a c,e=.returned (.slice a I.length c)/\Ul w' a I/\IsIn ps I/\Below w.heap.size w w':=
 (in_any ao cap ps w h he).mono fun e w' ⟨v,xs,h1,⟨a,c,h2,h3,h4⟩,h5⟩=>by
  have e1:=hI xs h5;subst e1;exact ⟨a,c,by rw [h1,h2],h3,h5,h4⟩
structure Ot (wI wr:World) (n bO k:Nat) (f:Nat->Nat) (ys:List Nat):Prop where
 b:Below wI.heap.size wI wr
 hO:wI.heap.size<=bO
 u:Op.At wr bO (uc ys)
 len:ys.length=n
 is:∀ i,i<k->inN ys i=f i
theorem Ot.start (wI:World) (n:Nat) (f:Nat->Nat) (t:TypeId):Ot wI (wI.alloc (.cells (madeCells #[.int .u32 0] n) t)) n wI.heap.size 0 f (List.replicate n 0):=
 ⟨below_al _,Nat.le_refl _,by rw [uc_made];exact Op.At.new _ _ _,by simp,fun i hi=>by omega⟩
theorem Ot.step {wI wr w2:World} {n bO k:Nat} {f:Nat->Nat} {ys:List Nat} (h:Ot wI wr n bO k f ys) (hk:k<n) (hb:Below wr.heap.size wr w2):Ot wI (w2.setCell ⟨bO,k,none⟩ (.int .u32 ((f k:Nat):Int))) n bO (k+1) f (ys.set k (f k)):=by
 have hl:=h.len;have hO:=h.hO;refine ⟨?_,hO,?_,by simp [hl],fun i hi=>?_⟩
 ·have f1:Fr Non wI w2:=Fr.of (h.b.trans (hb.mono h.b.size));exact (f1.setCell (Or.inl hO) k _).non
 ·rw [<- uc_set];exact (h.u.below hb h.u.lt).set (by rw [uc_size];omega) _
 ·rw [inN_set (by omega)]
  split
  ·rename_i e;rw [<- e]
  ·exact h.is i (by omega)
theorem Ot.done {wI wr:World} {n bO:Nat} {f:Nat->Nat} {ys:List Nat} (h:Ot wI wr n bO n f ys):ys=(List.range n).map f:=
 List.ext_getElem (by simp [h.len]) fun i h1 h2=>by
  rw [<- inN_eq h1,h.is i (by rw [<- h.len];exact h1)];simp
end Go.Proofs.YtcmlnemokckbdaaGreatDoor.L8.Li
namespace Go.Proofs.YtcmlnemokckbdaaGreatDoor.L8.El
open Go.ChangeShapes Go.WideShapes Go.ChangeAt Go.RowKit
open YtcmlnemokckbdaaGreatDoor.L8.Op YtcmlnemokckbdaaGreatDoor.L8.Fl YtcmlnemokckbdaaGreatDoor.L8.Li
open YtcmlnemokckbdaaGreatDoor.L8.Lv (IsIn psOk_of)
structure Es (w W:World) (v:Value):Prop where
 g:At W w.heap.size #[v]
 up:Below w.heap.size w W
theorem Es.next {w W W':World} {v:Value} (h:Es w W v) (b:Below W.heap.size W W'):Es w W' v:=⟨h.g.below b h.g.lt,h.up.trans (b.mono h.up.size)⟩
theorem es_new (w:World) (v:Value):Es w (w.alloc (.cells #[v] 40)) v:=⟨At.new w #[v] 40,(Below.refl _ _).alloc (Nat.le_refl _) _⟩
theorem early_none (ao:Option Addr) (cap:Nat) (ps:List Bk) (blk:Int) (w:World) (h:PAt w ao ps) (he:Env w) (hb:ckP ps≠0\/blk<0\/ps.length<=blk) :
  Calls Tryz.prog 16 #[.agg #[.slice ao ps.length cap],.int .i64 blk] w fun e w'=>e=.returned (.slice none 0 0)/\Below w.heap.size w w':=by
 obtain ⟨I,hI⟩:=in_ex (psOk_of h);have bound:IsIn ps I->(I.length:Int)<=4096/\(blk<0\/(I.length:Int)<=blk):=fun hx=>by
  have hlen:=hx.len
  by_cases hc:ckP ps=0
  ·have hle:ps.length<=4096:=Nat.le_trans (good_of hc).le (by decide);rw [if_pos hc] at hlen;refine ⟨by omega,?_⟩;rcases hb with hb|hb|hb
   ·exact absurd hc hb
   ·exact .inl hb
   ·exact .inr (by omega)
  ·rw [if_neg hc] at hlen;exact ⟨by omega,by omega⟩
 have HI:Hid (∀ W,Below w.heap.size w W->Calls Tryz.prog 30 #[.agg #[.slice ao ps.length cap]] W fun e w'=>∃ a c,∃ m:Nat,e=.returned (.slice a m c)/\(m:Int)<=4096/\(blk<0\/(m:Int)<=blk)/\Below W.heap.size W w'):=fun W hW=>(in_is I ao cap ps W hI (h.below hW) (he.below hW he.big)).mono fun e w' ⟨a,c,h1,_,h3,h4⟩=>⟨a,c,_,h1,(bound h3).1,(bound h3).2,h4⟩;have HS:Hid (Es w (w.alloc (.cells #[.slice ao ps.length cap] 40)) (.slice ao ps.length cap)):=es_new w _;clear h he hb bound hI
 by_cases h0:blk<0
 ·go_enter Tryz.func16,Tryz.ntmps16;go_upto_region 1 with fail
  generalize w.alloc (.cells #[.slice ao ps.length cap] 40)=W0 at *;have g0:=HS.out.g.c 0 _ rfl;have gl:=HS.out.g.lt;go_wp2_with (first
   | (go_at_call 30;refine Calls.mono (HI.out _ HS.out.up) ?_;rintro e w1 ⟨a,c,m,rfl,hm,-,hb1⟩;have HX:Hid (Es w w1 (.slice ao ps.length cap)):=HS.out.next hb1;clear hb1 HS HI g0 gl))
  go_ret
  exact ⟨rfl,HX.out.up⟩
 ·go_enter Tryz.func16,Tryz.ntmps16;go_upto_region 1 with fail
  generalize w.alloc (.cells #[.slice ao ps.length cap] 40)=W0 at *;have g0:=HS.out.g.c 0 _ rfl;have gl:=HS.out.g.lt;go_wp2_with (first
   | (go_at_call 30;refine Calls.mono (HI.out _ HS.out.up) ?_;rintro e w1 ⟨a,c,m,rfl,hm,hm2,hb1⟩;have hm3:=hm2.resolve_left h0;clear hm2;have HX:Hid (Es w w1 (.slice ao ps.length cap)):=HS.out.next hb1;clear hb1 HS HI g0 gl))
  go_ret
  exact ⟨rfl,HX.out.up⟩
end Go.Proofs.YtcmlnemokckbdaaGreatDoor.L8.El
namespace Go.Proofs.YtcmlnemokckbdaaGreatDoor.L8.El
open Go.ChangeShapes Go.WideShapes Go.ChangeAt Go.RowKit
open YtcmlnemokckbdaaGreatDoor.L8.Op YtcmlnemokckbdaaGreatDoor.L8.Fl YtcmlnemokckbdaaGreatDoor.L8.Li
def hmB (K:Nat) (o:O):Bool:=decide (o.op<=12)&&(bits .and .u32 (K:Int) ((2^o.d.toNat : Nat):Int)==0)
theorem harmless_any (o:O) (K:Nat) (w:World) (d0:0<=o.d) (d1:o.d<32):Calls Tryz.prog 32 #[o.val,.int .u32 K] w fun e w'=>e=.returned (.bool (hmB K o))/\Below w.heap.size w w':=by
 by_cases h:o.op<=12
 ·obtain ⟨op,d,a,b,im⟩:=o;simp only at d0 d1 h
  obtain ⟨dn,rfl⟩:=Int.eq_ofNat_of_zero_le d0
  have:=harmless_yes op dn K a b im w h (by omega)
  rw [show hmB K ⟨op,dn,a,b,im⟩=(bits .and .u32 (K:Int) ((2^dn:Nat):Int)==0) by simp [hmB,h]];exact this
 ·rw [show hmB K o=false by simp [hmB,h]];exact harmless_no o K w h
def erN (K:Nat) (xs:List O):Nat:=((xs.take 2).takeWhile (hmB K)).length
theorem tw_stop (p:O->Bool):∀ (xs:List O) (j:Nat) (h:j<xs.length),(∀ i (h:i<xs.length),i<j->p xs[i]=true)->p xs[j]=false->(xs.takeWhile p).length=j
 | [],j,h,_,_=>absurd h (by simp)
 | x::xs,0,_,_,h=>by
  have h:p x=false:=h;simp [h]
 | x::xs,j+1,hj,hp,h=>by
  have h0:p x=true:=hp 0 (by simp) (by omega);rw [List.takeWhile_cons,if_pos h0,List.length_cons,tw_stop p xs j (by simpa using hj) (fun i hi hij=>hp (i+1) (by simpa using hi) (by omega)) h]
theorem tw_all (p:O->Bool):∀ (xs:List O),(∀ i (h:i<xs.length),p xs[i]=true)->(xs.takeWhile p).length=xs.length
 | [],_=>rfl
 | x::xs,hp=>by
  have h0:p x=true:=hp 0 (by simp);rw [List.takeWhile_cons,if_pos h0,List.length_cons,tw_all p xs fun i hi=>hp (i+1) (by simpa using hi),List.length_cons]
theorem erN_stop {K:Nat} {xs:List O} {j:Nat} (h:j<xs.length) (h2:j<2) (hp:∀ i (h:i<xs.length),i<j->hmB K xs[i]=true) (hj:hmB K xs[j]=false):erN K xs=j:=by
 have hl:j<(xs.take 2).length:=by rw [List.length_take];omega
 refine tw_stop _ _ j hl (fun i hi hij=>?_) ?_
 ·rw [List.getElem_take];exact hp i (by rw [List.length_take] at hi;omega) hij
 ·rw [List.getElem_take];exact hj
theorem erN_all {K:Nat} {xs:List O} {j:Nat} (h:j=min xs.length 2) (hp:∀ i (h:i<xs.length),i<j->hmB K xs[i]=true):erN K xs=j:=by
 unfold erN;rw [tw_all,List.length_take,h,Nat.min_comm];intro i hi;rw [List.length_take] at hi;rw [List.getElem_take];exact hp i (by omega) (by omega)
theorem ck_all {ps:List Bk} (hc:ckP ps=0):∀ x∈ps,ckB x ps.length=0:=by
 unfold ckP at hc
 split at hc
 ·exact absurd hc (by decide)
 ·split at hc
  ·exact absurd hc (by decide)
  ·exact firstE_all hc
theorem ckB_parts {x:Bk} {n:Int} (h:ckB x n=0):allB x.ops=true/\endB x n=true:=by
 unfold ckB at h
 split at h
 ·rename_i h1
  split at h
  ·rename_i h2;exact ⟨h1,h2⟩
  ·exact absurd h (by decide)
 ·exact absurd h (by decide)
theorem br_of {ps:List Bk} (hc:ckP ps=0) {x:Bk} (hx:x∈ps) (hf:x.fin=1):x.a<32/\(0<=x.thn/\x.thn<ps.length)/\(0<=x.els/\x.els<ps.length):=by
 have h:=(ckB_parts (ck_all hc x hx)).2;simp only [endB,hf,Bool.and_eq_true] at h;obtain ⟨⟨⟨⟨-,h1⟩,h2⟩,h3⟩,-⟩:=h;have h1:decide (x.a<32)=true:=h1;have h2:(decide (0<=x.thn)&&decide (x.thn<(ps.length:Int)))=true:=h2;have h3:(decide (0<=x.els)&&decide (x.els<(ps.length:Int)))=true:=h3;simp only [Bool.and_eq_true,decide_eq_true_eq] at h1 h2 h3;exact ⟨h1,h2,h3⟩
theorem ops_d {ps:List Bk} (hc:ckP ps=0) {x:Bk} (hx:x∈ps) {o:O} (ho:o∈x.ops):o.d<32:=by
 have h:=List.all_eq_true.1 (ckB_parts (ck_all hc x hx)).1 o ho;unfold okP okO at h;rw [Bool.and_eq_true] at h;have h:=h.2
 split at h
 ·rename_i k hk;unfold okF rH at h;simp only [Bool.and_eq_true] at h;have h1:=h.1.1.1
  cases hD:k.D
  ·rw [hD] at h1
   have:o.d=0:=by simpa using h1
   omega
  ·rw [hD] at h1;simpa using h1
 ·cases h
structure Ey (w W:World) (v:Value) (a:Option Addr) (c j:Nat):Prop where
 g:At W w.heap.size #[v]
 row:W.ownsRow (w.heap.size+1) 3 1 (.slice a j c) j ((List.range j).map fun (i:Nat)=>Value.int .i64 (i:Int))
 up:Below w.heap.size w W
theorem row_upE {w w':World} {B:Nat} {e:TypeId} {z:Nat} {v:Value} {n:Nat} {xs:List Value} (h:w.ownsRow B e z v n xs) (hb:Below w.heap.size w w'):w'.ownsRow B e z v n xs:=by
 refine ⟨h.1,h.2.imp id ?_⟩;rintro ⟨b,cap,cur,rfl,h2,h3,h4⟩;have hz:b<w.heap.size:=(h.lt b rfl).2;exact ⟨b,cap,cur,rfl,h2,by rw [hb.block b hz];exact h3,h4⟩
theorem Ey.next {w W W':World} {v:Value} {a:Option Addr} {c j:Nat} (h:Ey w W v a c j) (b:Below W.heap.size W W'):Ey w W' v a c j:=⟨h.g.below b h.g.lt,row_upE h.row b,h.up.trans (b.mono h.up.size)⟩
theorem Ey.start {w W:World} {v:Value} (h:Es w W v):Ey w W v none 0 0:=⟨h.g,⟨rfl,.inl ⟨rfl,rfl⟩⟩,h.up⟩
theorem Ey.add {w X w4:World} {v:Value} {a:Option Addr} {c g cap j:Nat} (s:Ey w X v a c j) (hgrow:X.grownBy w4 (Value.slice a j c).ownBlock) (hown:w4.ownsRow (w.heap.size+1) 3 1 (.slice (some ⟨g,0,none⟩) (j+1) cap) (j+1) (((List.range j).map fun (i:Nat)=>Value.int .i64 (i:Int))++[.int .i64 (j:Int)])):Ey w w4 v (some ⟨g,0,none⟩) cap (j+1):=by
 have hl:=s.g.lt;have B:Below (w.heap.size+1) X w4:=⟨hgrow.os,hgrow.tape,hgrow.output,hgrow.size,fun k hk=>hgrow.block k (Nat.lt_of_lt_of_le hk hl) fun e=>by
  have:=(s.row.lt k e.symm).1
  omega⟩
 refine ⟨s.g.below B (by omega),?_,s.up.trans (B.mono (by omega))⟩;rw [List.range_succ,List.map_append];exact hown
theorem Ey.got {w W:World} {v:Value} {a:Option Addr} {c j:Nat} (h:Ey w W v a c j):Got w W (.slice a j c) ((List.range j).map fun (i:Nat)=>(i:Int)):=by
 refine ⟨a,c,by simp,⟨fun h0=>?_⟩,h.up⟩;have h0:0<j:=by simpa using h0
 rcases h.row.2 with ⟨_,e⟩|⟨b,cap,cur,e,-,-,-⟩
 ·omega
 ·injection e with e1 e2 e3
  subst e1;refine ⟨b,rfl,by have:=(h.row.lt b rfl).1;omega,(h.row.lt b rfl).2,fun i hi=>?_⟩;have hi:i<j:=by simpa using hi
  have:=h.row.cells (g:=b) rfl i (.int .i64 (i:Int)) (by simp [hi])
  rw [show (⟨b,0,none⟩:Addr).add i=⟨b,i,none⟩ by simp [Addr.add];intro h;exact h.symm] at this;simpa using this
theorem info3e:(Tryz.prog.info? 3).map (fun i=>(i.zero,i.size,i.bytes))=some (some (.int .i64 0),1,8):=by kernel_rfl
theorem or_nat (X Y:Nat) (hX:X<4294967296) (hY:Y<4294967296):bits .or .u32 (X:Int) (Y:Int)=((X ||| Y:Nat):Int):=u32_or_nat X Y hX hY
end Go.Proofs.YtcmlnemokckbdaaGreatDoor.L8.El
