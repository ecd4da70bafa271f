/- Parts QLy QTu QTa QLz QVa QVb. -/
import Derived.Test.YtcmlnemokckbdaaGreatDoorN24
import Derived.Test.YtcmlnemokckbdaaGreatDoorN29
import Derived.Test.YtcmlnemokckbdaaGreatDoorN28
import Derived.Test.YtcmlnemokckbdaaGreatDoorN23
import Derived.Deep.AppendLies
import Derived.OwnWalk
import Derived.Laws.BitsAll
import Derived.Laws.BitsAllLaws
set_option maxRecDepth 20000
set_option maxHeartbeats 1000000
namespace Go.Proofs.YtcmlnemokckbdaaGreatDoor.L8.Lv
open YtcmlnemokckbdaaGreatDoor.L8.Op
def rdL (o:O):List Nat:=match kOf o.op with
 | some k=>if okF k o&&k.A then (if k.B && !(o.a==o.b) then [o.a.toNat,o.b.toNat] else [o.a.toNat]) else []
 | none=>[]
def wOf (o:O):W:=⟨rdL o,if wrB o then some o.d.toNat else none⟩
theorem small_of (o:O) (ho:o.Ok):Small (wOf o):=by
 obtain ⟨_,_,hd,_,ha,_,hb,_,_,_⟩:=ho
 cases h:kOf o.op with
 | none=>exact ⟨fun r hr=>by simp [wOf,rdL,h] at hr,fun d e=>by simp [wOf,wrB,h] at e⟩
 | some k=>
  cases hf:okF k o with
  | false=>exact ⟨fun r hr=>by simp [wOf,rdL,h,hf] at hr,fun d e=>by simp [wOf,wrB,h,hf] at e⟩
  | true=>
   have hf':=hf;simp only [okF,Bool.and_eq_true] at hf';obtain ⟨⟨⟨h1,h2⟩,h3⟩,_⟩:=hf';constructor
   ·intro r hr;simp only [wOf,rdL,h,hf,Bool.true_and] at hr
    cases hA:k.A with
    | false=>simp [hA] at hr
    | true=>
     simp only [hA,rH,if_true,decide_eq_true_eq] at h2 hr
     cases hB:k.B with
     | false=>simp only [hB,Bool.false_and,Bool.false_eq_true,if_false,List.mem_singleton] at hr;omega
     | true=>
      simp only [hB,rH,Bool.true_or,if_true,decide_eq_true_eq] at h3;simp only [hB,Bool.true_and] at hr
      split at hr
      ·simp only [List.mem_cons,List.not_mem_nil,or_false] at hr;omega
      ·simp only [List.mem_singleton] at hr;omega
   ·intro d e;simp only [wOf,wrB,h,hf,Bool.true_and] at e
    cases hD:k.D with
    | false=>simp [hD] at e
    | true=>
     simp only [hD,rH,if_true,decide_eq_true_eq] at h1;simp only [hD,if_true,Option.some.injEq] at e;omega
def eOf (x:Bk):E:=if x.fin=0 then .jump x.thn.toNat else if x.fin=1 then .branch x.a.toNat x.thn.toNat x.els.toNat else if x.fin=2 then .halt x.a.toNat else .loop x.a.toNat x.thn.toNat
def bOf (x:Bk):B:=⟨x.ops.map wOf,x.body.map wOf,eOf x⟩
theorem end_of {x:Bk} {n:Int} (h:ckB x n=0):endB x n=true:=by
 unfold ckB at h
 split at h
 ·split at h
  ·assumption
  ·cases h
 ·cases h
theorem end_reg {x:Bk} {n:Int} (h:endB x n=true) (hf:x.fin≠0):x.a<32:=by
 simp only [endB,Bool.and_eq_true,eK,decide_eq_true_eq] at h;have h2:=h.1.1.1.2
 have:eA x.fin=true:=by simp only [eA,decide_eq_true_eq];omega
 rw [this] at h2;simpa [rH] using h2
theorem end_thn {x:Bk} {n:Int} (h:endB x n=true) (hf:x.fin≠2):0<=x.thn/\x.thn<n:=by
 simp only [endB,Bool.and_eq_true,eK,decide_eq_true_eq] at h;have h2:=h.1.1.2
 have:eT x.fin=true:=by simp only [eT,decide_eq_true_eq];omega
 rw [this] at h2;simpa [bH] using h2
theorem end_els {x:Bk} {n:Int} (h:endB x n=true) (hf:x.fin=1):0<=x.els/\x.els<n:=by
 simp only [endB,Bool.and_eq_true] at h;have h2:=h.1.2
 have:eE x.fin=true:=by simp only [eE,decide_eq_true_eq];omega
 rw [this] at h2;simpa [bH] using h2
theorem smallB_of {x:Bk} {n:Int} (h:endB x n=true) (h0:0<=x.a) (ho:∀ o∈x.ops,o.Ok) (hb:∀ o∈x.body,o.Ok):SmallB (bOf x) where
 ops:=fun o h=>by
  obtain ⟨y,hy,rfl⟩:=List.mem_map.1 h;exact small_of y (ho y hy)
 body:=fun o h=>by
  obtain ⟨y,hy,rfl⟩:=List.mem_map.1 h;exact small_of y (hb y hy)
 a:=fun a e=>by
  have hr:=end_reg h;simp only [bOf,eOf] at e
  split at e
  ·cases e
  ·rename_i hf;have hr:=hr hf
   split at e
   ·cases e;omega
   ·split at e <;> (cases e;omega)
end Go.Proofs.YtcmlnemokckbdaaGreatDoor.L8.Lv
namespace Go.Proofs.YtcmlnemokckbdaaGreatDoor.L8.Fl
open Go.ChangeShapes Go.WideShapes Go.ChangeAt Go.RowKit
open YtcmlnemokckbdaaGreatDoor.L8.So YtcmlnemokckbdaaGreatDoor.L8.Ss YtcmlnemokckbdaaGreatDoor.L8.Op
structure Il (w:World) (B:Nat) (a:Option Addr) (xs:List Int):Prop where
 is:0<xs.length->∃ b,a=some ⟨b,0,none⟩/\B<=b/\b<w.heap.size/\∀ (i:Nat) (h:i<xs.length),w.cell? ⟨b,i,none⟩=some (.int .i64 xs[i])
theorem Il.nil (w:World) (B:Nat) (a:Option Addr):Il w B a []:=⟨fun h=>by simp at h⟩
theorem Il.below {w w':World} {B:Nat} {a:Option Addr} {xs:List Int} (h:Il w B a xs) (hb:Below w.heap.size w w'):Il w' B a xs:=by
 refine ⟨fun h0=>?_⟩;obtain ⟨b,e,hB,hlt,hc⟩:=h.is h0;exact ⟨b,e,hB,Nat.lt_of_lt_of_le hlt hb.size,fun i hi=>by rw [World.cell?_of_block (w:=w) (hb.block b hlt)];exact hc i hi⟩
theorem Il.fr {X:Nat->Prop} {w w':World} {B:Nat} {a:Option Addr} {xs:List Int} (h:Il w B a xs) (hF:Fr X w w') (hX:∀ b,B<=b->b<w.heap.size->¬ X b):Il w' B a xs:=by
 refine ⟨fun h0=>?_⟩;obtain ⟨b,e,hB,hlt,hc⟩:=h.is h0;exact ⟨b,e,hB,Nat.lt_of_lt_of_le hlt hF.size,fun i hi=>by rw [hF.cell hlt (hX b hB hlt)];exact hc i hi⟩
theorem Il.low {w:World} {B B':Nat} {a:Option Addr} {xs:List Int} (h:Il w B a xs) (hB:B'<=B):Il w B' a xs:=by
 refine ⟨fun h0=>?_⟩;obtain ⟨b,e,h1,h2,hc⟩:=h.is h0;exact ⟨b,e,Nat.le_trans hB h1,h2,hc⟩
def Got (w w':World) (v:Value) (xs:List Int):Prop:=∃ a c,v=.slice a xs.length c/\Il w' w.heap.size a xs/\Below w.heap.size w w'
theorem rise_same:∀ (xs ys:List Int),xs.Pairwise (· < ·)->ys.Pairwise (· < ·)->(∀ z,z∈xs↔z∈ys)->xs=ys
 | [],[],_,_,_=>rfl
 | [],y::ys,_,_,h=>by have:=(h y).2 (by simp);simp at this
 | x::xs,[],_,_,h=>by have:=(h x).1 (by simp);simp at this
 | x::xs,y::ys,h1,h2,h=>by
  obtain ⟨a1,a2⟩:=List.pairwise_cons.1 h1;obtain ⟨b1,b2⟩:=List.pairwise_cons.1 h2;have hxy:x=y:=by
   have p:=(h x).1 (by simp);have q:=(h y).2 (by simp);rcases List.mem_cons.1 p with e|e
   ·exact e
   ·rcases List.mem_cons.1 q with e' | e'
    ·exact e'.symm
    ·have:=b1 x e;have:=a1 y e';omega
  subst hxy
  congr 1
  refine rise_same xs ys a2 b2 fun z=>⟨fun hz=>?_,fun hz=>?_⟩
  ·rcases List.mem_cons.1 ((h z).1 (List.mem_cons_of_mem _ hz)) with e|e
   ·have:=a1 z hz;omega
   ·exact e
  ·rcases List.mem_cons.1 ((h z).2 (List.mem_cons_of_mem _ hz)) with e|e
   ·have:=b1 z hz;omega
   ·exact e
theorem rised_list {blk n k:Nat} {f g:Nat->Int} {w w':World} (h:Si.Rised id blk n f w w' k g) {B:Nat} (hB:B<=blk) (hb:blk<w.heap.size) {xs:List Int} (hx:xs.Pairwise (· < ·)) (hm:∀ z,z∈xs↔∃ j,j<n/\f j=z) :
  k=xs.length/\Il w' B (some ⟨blk,0,none⟩) xs:=by
 have e:(List.range k).map g=xs:=by
  refine rise_same _ _ ?_ hx fun z=>?_
  ·rw [List.pairwise_map];refine List.Pairwise.imp_of_mem (R:=(· < ·)) (fun {a b} ha hb' hab=>?_) List.pairwise_lt_range;exact h.rise a b hab (List.mem_range.1 hb')
  ·rw [hm z,List.mem_map];constructor
   ·rintro ⟨i,hi,rfl⟩;obtain ⟨j,j1,e⟩:=h.of i (List.mem_range.1 hi);exact ⟨j,j1,e.symm⟩
   ·rintro ⟨j,j1,rfl⟩;obtain ⟨i,i1,e⟩:=h.all j j1;exact ⟨i,List.mem_range.2 i1,e⟩
 subst e;refine ⟨by simp,⟨fun _=>⟨blk,rfl,hB,Nat.lt_of_lt_of_le hb h.fr.size,fun i hi=>?_⟩⟩⟩;rw [List.getElem_map,List.getElem_range];exact h.c i (by simpa using hi)
def turnL (x:Bk):List Int:=if x.fin=0\/x.fin=3 then [x.thn] else if x.fin=1 then (if x.thn<x.els then [x.thn,x.els] else if x.els<x.thn then [x.els,x.thn] else [x.thn]) else []
theorem turnL_rise (x:Bk):(turnL x).Pairwise (· < ·):=by
 unfold turnL
 split
 ·simp
 ·split
  ·split
   ·simp;assumption
   ·split
    ·simp;assumption
    ·simp
  ·simp
theorem turnL_mem (x:Bk) (h:x.fin=1) (z:Int):z∈turnL x↔z=x.thn\/z=x.els:=by
 unfold turnL;rw [if_neg (by omega),if_pos h]
 split
 ·simp
 ·split
  ·simp;omega
  ·simp;omega
theorem turnL_two (x:Bk):(turnL x).length<=2:=by
 unfold turnL
 split
 ·simp
 ·split
  ·split
   ·simp
   ·split <;> simp
  ·simp
theorem turns_any (x:Bk) (p:Pl) (w:World) (hok:x.Ok) :
  Calls Tryz.prog 105 #[x.val p] w fun e w'=>∃ v,e=.returned v/\Got w w' v (turnL x):=by
 obtain ⟨f0,f1,a0,a1,t0,t1,e0,e1⟩:=hok
 by_cases h0:x.fin=0\/x.fin=3
 ·have hL:turnL x=[x.thn]:=by unfold turnL;rw [if_pos h0]
  rw [hL];clear hL;obtain ⟨xo,xf,xa,xb,xt,xe⟩:=x;have hI:Hid (Il ((w.alloc (.cells #[.slice p.oa xo.length p.oc,.int .i8 xf,.int .u8 xa,.slice p.ba xb.length p.bc,.int .i64 xt,.int .i64 xe] 25)).alloc (.cells #[.int .i64 xt] 3)) w.heap.size (some ⟨w.heap.size+1,0,none⟩) [xt]):=
   ⟨fun _=>⟨w.heap.size+1,rfl,by omega,by simp,fun i hi=>by
    obtain rfl:i=0:=by simp at hi;omega
    simp⟩⟩
  rcases h0 with h0|h0
  ·simp only at h0
   subst h0;go_enter Tryz.func105,Tryz.ntmps105;go_wp2
   go_ret
   exact ⟨_,rfl,_,_,rfl,hI.out,by go_grown⟩
  ·simp only at h0
   subst h0;go_enter Tryz.func105,Tryz.ntmps105;go_wp2
   go_ret
   exact ⟨_,rfl,_,_,rfl,hI.out,by go_grown⟩
 ·by_cases h1:x.fin=1
  ·have hrise:=turnL_rise x;have hmem:=turnL_mem x h1;obtain ⟨L,hL⟩:∃ L,L=turnL x:=⟨_,rfl⟩;rw [<- hL] at hrise hmem ⊢;clear hL;obtain ⟨xo,xf,xa,xb,xt,xe⟩:=x;simp only at h1
   subst h1;have HR:Hid (∀ w2,w2=(w.alloc (.cells #[.slice p.oa xo.length p.oc,.int .i8 1,.int .u8 xa,.slice p.ba xb.length p.bc,.int .i64 xt,.int .i64 xe] 25)).alloc (.cells #[.int .i64 xt,.int .i64 xe] 3)->Calls Tryz.prog 102 #[.slice (some ⟨w.heap.size+1,0,none⟩) 2 2,.func (.func 103) #[] #[]] w2 fun e w'=>∃ k,e=.returned (.slice (some ⟨w.heap.size+1,0,none⟩) k 2)/\(k=L.length/\Il w' w.heap.size (some ⟨w.heap.size+1,0,none⟩) L)/\Below w.heap.size w w'):=by
    rintro w2 rfl;refine (Si.rising_any (w.heap.size+1) 2 2 (fun k=>if k=0 then xt else xe) _ (fun k hk=>?_) (fun k=>by simp) (by simp) (by omega) (by omega) (by omega)).mono ?_
    ·match k,hk with
     | 0,_=>simp
     | 1,_=>simp
    ·rintro e w' ⟨k,rfl,g,hg⟩;refine ⟨k,rfl,rised_list hg (by omega) (by simp) hrise fun z=>?_,?_⟩
     ·rw [hmem z];constructor
      ·rintro (rfl|rfl)
       ·exact ⟨0,by omega,by simp⟩
       ·exact ⟨1,by omega,by simp⟩
      ·rintro ⟨j,j1,e⟩
       by_cases c:j=0
       ·left;rw [if_pos c] at e;exact e.symm
       ·right;rw [if_neg c] at e;exact e.symm
     ·refine Fr.below ((((Fr.refl (One (w.heap.size+1)) w).alloc _).alloc _).same hg.fr) (Nat.le_refl _) fun k hk h=>?_
      have:k=w.heap.size+1:=h
      omega
   clear hrise hmem;go_enter Tryz.func105,Tryz.ntmps105;go_wp2_with (first|(go_at_call 102;refine Calls.mono (HR.out _ rfl) ?_;rintro e w' ⟨k,rfl,⟨hk,hI⟩,hb⟩;have HI:Aside (k=L.length/\Il w' w.heap.size (some ⟨w.heap.size+1,0,none⟩) L/\Below w.heap.size w w'):=⟨hk,hI,hb⟩;clear hk hI hb HR))
   go_ret
   obtain ⟨rfl,hI,hb⟩:=HI.out;exact ⟨_,rfl,_,_,rfl,hI,hb⟩
  ·have hL:turnL x=[]:=by unfold turnL;rw [if_neg h0,if_neg h1]
   rw [hL];clear hL;obtain ⟨xo,xf,xa,xb,xt,xe⟩:=x;simp only at h0 h1 f0 f1
   have z0:¬ xf=0:=by omega
   have z3:¬ xf=3:=by omega
   clear h0;go_enter Tryz.func105,Tryz.ntmps105;go_wp2
   go_ret
   exact ⟨_,rfl,_,_,rfl,Il.nil _ _ _,by go_grown⟩
theorem firstE_all {n:Int} {ps:List Bk} (h:firstE n ps=0):∀ x∈ps,ckB x n=0:=by
 induction ps with
 | nil=>intro x hx;simp at hx
 | cons y r ih=>
  unfold firstE at h
  by_cases hy:ckB y n=0
  ·rw [if_pos hy] at h;intro x hx;rcases List.mem_cons.1 hx with rfl|hx
   ·exact hy
   ·exact ih h x hx
  ·rw [if_neg hy] at h;exact absurd h hy
structure Good (ps:List Bk):Prop where
 pos:0<ps.length
 le:ps.length<=128
 turn:∀ x∈ps,∀ z∈turnL x,0<=z/\z<ps.length
theorem good_of {ps:List Bk} (h:ckP ps=0):Good ps:=by
 unfold ckP at h
 by_cases h1:128<ps.length\/1024<opsN ps
 ·rw [if_pos h1] at h;omega
 ·rw [if_neg h1] at h
  by_cases h2:ps.length=0
  ·rw [if_pos h2] at h;omega
  ·rw [if_neg h2] at h;refine ⟨by omega,by omega,fun x hx z hz=>?_⟩;have hk:=firstE_all h x hx;have he:endB x ps.length=true:=by
    unfold ckB at hk
    by_cases a:allB x.ops=true
    ·rw [if_pos a] at hk
     by_cases b:endB x ps.length=true
     ·exact b
     ·rw [if_neg b] at hk;omega
    ·rw [if_neg a] at hk;omega
   unfold endB at he;simp only [Bool.and_eq_true] at he;obtain ⟨⟨⟨⟨-,-⟩,ht⟩,hl⟩,-⟩:=he;unfold turnL at hz;have T:x.fin=0\/x.fin=3\/x.fin=1->0<=x.thn/\x.thn<ps.length:=fun hf=>by
    have e:eT x.fin=true:=by unfold eT;exact decide_eq_true (by omega)
    rw [e] at ht;simpa [bH] using ht
   have L:x.fin=1->0<=x.els/\x.els<ps.length:=fun hf=>by
    have e:eE x.fin=true:=by unfold eE;exact decide_eq_true hf
    rw [e] at hl;simpa [bH] using hl
   split at hz
   ·simp at hz;subst hz;exact T (by omega)
   ·split at hz
    ·rename_i hf
     split at hz
     ·simp at hz
      rcases hz with rfl|rfl
      ·exact T (by omega)
      ·exact L hf
     ·split at hz
      ·simp at hz
       rcases hz with rfl|rfl
       ·exact L hf
       ·exact T (by omega)
      ·simp at hz;subst hz;exact T (by omega)
    ·simp at hz
def tB (ps:List Bk) (i j:Nat):Bool:=match ps[i]? with|some x=>decide ((j:Int)∈turnL x)|none=>false
theorem tB_of {ps:List Bk} {i j:Nat} (h:i<ps.length):tB ps i j=decide ((j:Int)∈turnL ps[i]):=by
 unfold tB;rw [List.getElem?_eq_getElem h]
def knB (ps:List Bk) (block:Int):Bool:=decide (0<=block)&&decide (block<ps.length)&&decide (ckP ps=0)
theorem known_any (ao:Option Addr) (cap:Nat) (ps:List Bk) (block:Int) (w:World) (h:PAt w ao ps) (he:Env w) :
  Calls Tryz.prog 100 #[.agg #[.slice ao ps.length cap],.int .i64 block] w fun e w'=>e=.returned (.bool (knB ps block))/\Below w.heap.size w w':=by
 have hb1:Below w.heap.size w (w.alloc (.cells #[.slice ao ps.length cap] 40)):=by go_grown
 have HC:Hid (Calls Tryz.prog 13 #[.agg #[.slice ao ps.length cap]] (w.alloc (.cells #[.slice ao ps.length cap] 40)) fun e w'=>e=.returned (.int .i64 (ckP ps))/\Below w.heap.size w w'):=
  (checkP_any ao cap ps _ (h.below hb1) (he.up hb1)).mono fun e w' hh=>⟨hh.1,hb1.trans (hh.2.mono hb1.size)⟩
 clear h he hb1;obtain ⟨c,hc⟩:∃ c,c=ckP ps:=⟨_,rfl⟩;unfold knB;rw [<- hc] at HC ⊢;clear hc
 by_cases h0:0<=block
 ·by_cases h1:block<ps.length
  ·rw [decide_eq_true h0,decide_eq_true h1];go_enter Tryz.func100,Tryz.ntmps100;go_wp2_with (first|(go_at_call 13;refine Calls.mono HC.out ?_;rintro e w' ⟨rfl,hb⟩;have HB:Hid _:=hb;clear hb HC))
   go_ret
   exact ⟨by simp [BEq.beq],HB.out⟩
  ·rw [decide_eq_true h0,decide_eq_false h1];clear HC;go_enter Tryz.func100,Tryz.ntmps100;go_wp2
   go_ret
   exact ⟨by simp,by go_grown⟩
 ·rw [decide_eq_false h0];clear HC;go_enter Tryz.func100,Tryz.ntmps100;go_wp2
  go_ret
  exact ⟨by simp,by go_grown⟩
end Go.Proofs.YtcmlnemokckbdaaGreatDoor.L8.Fl
namespace Go.Proofs.YtcmlnemokckbdaaGreatDoor.L8.Lv
open YtcmlnemokckbdaaGreatDoor.L8.Op YtcmlnemokckbdaaGreatDoor.L8.Fl
theorem into_mono {k:B} {f g:Nat->Nat->Bool} {r:Nat} (h:∀ t,f t r=true->g t r=true) (hi:into k f r=true):into k g r=true:=by
 rw [into_iff] at hi ⊢;rcases hi with h1|⟨h1,h2|⟨t,ht,h3⟩⟩
 ·exact .inl h1
 ·exact .inr ⟨h1,.inl h2⟩
 ·exact .inr ⟨h1,.inr ⟨t,ht,h t h3⟩⟩
theorem or_sub {x y:Nat} : x ||| y=y↔∀ r,x.testBit r=true->y.testBit r=true:=by
 constructor
 ·intro h r hr
  have:=congrArg (fun z=>Nat.testBit z r) h
  simp only [Nat.testBit_or,hr,Bool.true_or] at this;exact this.symm
 ·intro h;refine Nat.eq_of_testBit_eq fun r=>?_;rw [Nat.testBit_or]
  cases hx:x.testBit r
  ·simp
  ·rw [h r hx];rfl
def Rise (P:List B) (xs:List Nat):Prop:=∀ (i:Nat) k,P[i]?=some k->inN xs i ||| intoN k xs=intoN k xs
theorem Rise.init (P:List B) (n:Nat):Rise P (List.replicate n 0):=fun i k _=>by
 have:inN (List.replicate n 0) i=0:=by
  unfold inN;rw [List.getD_eq_getElem?_getD,List.getElem?_replicate];split <;> simp
 rw [this];simp
theorem Rise.set {P:List B} {xs:List Nat} (h:Rise P xs) (hs:∀ (i:Nat) k,P[i]?=some k->SmallB k) (hf:Fit xs) {i:Nat} {k:B} (hi:i<xs.length) (hk:P[i]?=some k):Rise P (xs.set i (intoN k xs)):=fun j k' hk'=>by
 have hfy:Fit (xs.set i (intoN k xs)):=hf.set (intoN_lt (hs i k hk) hf);have up:∀ t r,bitN xs t r=true->bitN (xs.set i (intoN k xs)) t r=true:=fun t r ht=>by
  unfold bitN at ht ⊢;rw [inN_set hi]
  split
  ·rename_i e;subst e;exact or_sub.1 (h i k hk) r ht
  ·exact ht
 refine or_sub.2 fun r hr=>?_;rw [intoN_bit (hs j k' hk') hfy];rw [inN_set hi] at hr
 split at hr
 ·rename_i e;subst e;rw [hk] at hk';cases hk';rw [intoN_bit (hs i k hk) hf] at hr;exact into_mono (fun t=>up t r) hr
 ·have:=or_sub.1 (h j k' hk') r hr
  rw [intoN_bit (hs j k' hk') hf] at this;exact into_mono (fun t=>up t r) this
theorem left_init (n:Nat):left (List.replicate n 0)=n*4294967296:=by
 induction n with
 | zero=>rfl
 | succ n ih=>rw [List.replicate_succ];simp only [left,List.map_cons,List.sum_cons] at *;omega
def PsOk (ps:List Bk):Prop:=∀ x∈ps,x.Ok/\(∀ o∈x.ops,o.Ok)/\∀ o∈x.body,o.Ok
theorem psOk_of {w:World} {ao:Option Addr} {ps:List Bk} (h:PAt w ao ps):PsOk ps:=fun x hx=>by
 obtain ⟨i,hi,e⟩:=List.getElem_of_mem hx;obtain ⟨b,f,-,-,hc⟩:=h.is (by omega);obtain ⟨p,-,hb⟩:=hc i hi;rw [e] at hb;exact ⟨hb.ok,hb.o.ok,hb.b.ok⟩
theorem ck_blocks {ps:List Bk} (h:ckP ps=0):∀ x∈ps,ckB x ps.length=0:=by
 have h':=h;unfold ckP at h'
 by_cases h1:128<ps.length\/1024<opsN ps
 ·rw [if_pos h1] at h';omega
 ·rw [if_neg h1] at h'
  by_cases h2:ps.length=0
  ·rw [if_pos h2] at h';omega
  ·rw [if_neg h2] at h';exact firstE_all h'
abbrev PB (ps:List Bk):List B:=ps.map bOf
theorem pb_small {ps:List Bk} (hc:ckP ps=0) (ho:PsOk ps) (i:Nat) (k:B) (hk:(PB ps)[i]?=some k):SmallB k:=by
 rw [List.getElem?_map,Option.map_eq_some_iff] at hk;obtain ⟨x,hx,rfl⟩:=hk;have hm:=List.mem_of_getElem? hx;exact smallB_of (end_of (ck_blocks hc x hm)) (ho x hm).1.a0 (ho x hm).2.1 (ho x hm).2.2
theorem pb_at {ps:List Bk} {i:Nat} (h:i<ps.length):(PB ps)[i]?=some (bOf ps[i]):=by
 rw [List.getElem?_map,List.getElem?_eq_getElem h];rfl
structure IsIn (ps:List Bk) (xs:List Nat):Prop where
 yes:ckP ps=0->So (PB ps) xs/\∀ (i:Nat) k,(PB ps)[i]?=some k->Shut k xs i
 no:ckP ps≠0->xs=[]
theorem IsIn.same {ps:List Bk} {xs ys:List Nat} (ho:PsOk ps) (h:IsIn ps xs) (g:IsIn ps ys):xs=ys:=by
 by_cases hc:ckP ps=0
 ·exact So.same (pb_small hc ho) (h.yes hc).1 (h.yes hc).2 (g.yes hc).1 (g.yes hc).2
 ·rw [h.no hc,g.no hc]
theorem IsIn.len {ps:List Bk} {xs:List Nat} (h:IsIn ps xs):xs.length=if ckP ps=0 then ps.length else 0:=by
 by_cases hc:ckP ps=0
 ·rw [if_pos hc,(h.yes hc).1.len];simp
 ·rw [if_neg hc,h.no hc];rfl
theorem IsIn.fit {ps:List Bk} {xs:List Nat} (h:IsIn ps xs):Fit xs:=by
 by_cases hc:ckP ps=0
 ·exact (h.yes hc).1.fit
 ·rw [h.no hc];intro t;simp [inN]
theorem succ_turn (x:Bk) (h:∃ n:Int,endB x n=true) (t:Nat):t∈(bOf x).e.succ↔(t:Int)∈turnL x:=by
 obtain ⟨n,h⟩:=h;simp only [bOf,eOf]
 by_cases h0:x.fin=0
 ·have:=end_thn h (by omega)
  rw [if_pos h0];unfold turnL;rw [if_pos (Or.inl h0)];simp only [E.succ,List.mem_singleton];omega
 ·rw [if_neg h0]
  by_cases h1:x.fin=1
  ·have a:=end_thn h (by omega);have b:=end_els h h1;rw [if_pos h1,turnL_mem x h1];simp only [E.succ,List.mem_cons,List.not_mem_nil,or_false];omega
  ·rw [if_neg h1]
   by_cases h2:x.fin=2
   ·rw [if_pos h2];unfold turnL;rw [if_neg (by omega),if_neg h1];simp [E.succ]
   ·rw [if_neg h2];have h3:x.fin=3:=by
     simp only [endB,Bool.and_eq_true,eK,decide_eq_true_eq] at h;omega
    have:=end_thn h (by omega)
    unfold turnL;rw [if_pos (Or.inr h3)];simp only [E.succ,List.mem_singleton];omega
end Go.Proofs.YtcmlnemokckbdaaGreatDoor.L8.Lv
namespace Go.Proofs.YtcmlnemokckbdaaGreatDoor.L8.Li
open Go.ChangeShapes Go.WideShapes Go.ChangeAt Go.RowKit
open YtcmlnemokckbdaaGreatDoor.L8.So YtcmlnemokckbdaaGreatDoor.L8.Op YtcmlnemokckbdaaGreatDoor.L8.Fl YtcmlnemokckbdaaGreatDoor.L8.Lv
theorem pow_nat (r:Nat):(2:Int)^r=((2^r:Nat):Int):=by simp
theorem pow_mod {r:Nat} (h:r<32):(2:Int)^r%4294967296=((2^r:Nat):Int):=by
 have h1:2^r<4294967296:=pow32 h;rw [pow_nat];generalize 2^r=m at *;omega
theorem only_any (r:Nat) (w:World) (h1:r<32):Calls Tryz.prog 147 #[.int .u8 r] w fun e w'=>e=.returned (.int .u32 ((2^r:Nat):Int))/\w'=w:=by
 have h2:(r:Int)<=32:=by omega
 have h3:(0:Int)<=(r:Int):=by omega
 go_enter Tryz.func147,Tryz.ntmps147;go_wp2
 go_ret
 exact ⟨ret_int (pow_mod h1),rfl⟩
theorem put_u32 {x d:Nat} (hx:x<4294967296) (hd:d<32):bits .or .u32 (x:Int) ((2:Int)^d)=((put x d:Nat):Int):=by rw [pow_nat];exact u32_or_nat x (2^d) hx (pow32 hd)
theorem clr_u32 {x d:Nat} (hx:x<4294967296) (hd:d<32):bits .andNot .u32 (x:Int) ((2:Int)^d)=((clr x d:Nat):Int):=by rw [pow_nat];exact u32_andNot_nat x (2^d) hx (pow32 hd)
structure Rl (w:World) (a:Option Addr) (xs:List Nat):Prop where
 is:0<xs.length->∃ b,a=some ⟨b,0,none⟩/\b<w.heap.size/\∀ (i:Nat) (h:i<xs.length),w.cell? ⟨b,i,none⟩=some (.int .u8 ((xs[i]:Nat):Int))
theorem Rl.below {w w':World} {a:Option Addr} {xs:List Nat} (h:Rl w a xs) (hb:Below w.heap.size w w'):Rl w' a xs:=⟨fun h0=>by
 obtain ⟨b,e,hlt,hc⟩:=h.is h0;exact ⟨b,e,Nat.lt_of_lt_of_le hlt hb.size,fun i hi=>by rw [(bcell hb).1 _ _ hlt];exact hc i hi⟩⟩
theorem rd_no {o:O} (h:okO o=false):rdL o=[]:=by
 unfold rdL
 cases hk:kOf o.op with
 | none=>rfl
 | some k=>
  rw [okO_some hk] at h;simp [h]
theorem rd_yes {o:O} {k:K} (hk:kOf o.op=some k) (hf:okF k o=true):rdL o=[o.a.toNat,o.b.toNat].take (rcN k o):=by
 unfold rdL rcN;rw [hk];simp only [hf,Bool.true_and]
 cases k.A
 ·rfl
 ·cases k.B
  ·rfl
  ·cases o.a==o.b <;> rfl
theorem rc_two (k:K) (o:O):rcN k o<=2:=by unfold rcN;split <;> (try split) <;> simp
theorem reads_sl (o:O) (w:World) (ho:o.Ok):Calls Tryz.prog 169 #[o.val] w fun e w'=>∃ a c,e=.returned (.slice a (rdL o).length c)/\Rl w' a (rdL o)/\Below w.heap.size w w':=by
 cases hO:okO o with
 | false=>
  refine (reads_no o w ho hO).mono ?_;rintro e w' ⟨rfl,hb⟩;rw [rd_no hO];exact ⟨none,0,rfl,⟨fun h=>by simp at h⟩,hb⟩
 | true=>
  cases hk:kOf o.op with
  | none=>rw [okO_none hk] at hO;cases hO
  | some k=>
   have hf:okF k o=true:=by rw [<- okO_some hk];exact hO
   refine (reads_yes o k w hk hf).mono ?_;rintro e w' ⟨b,rfl,hA,hb⟩;have h2:=rc_two k o;have hl:(rdL o).length=rcN k o:=by rw [rd_yes hk hf,List.length_take];simp;omega
   refine ⟨some ⟨b,0,none⟩,rcN k o,by rw [hl],⟨fun _=>⟨b,rfl,hA.lt,fun i hi=>?_⟩⟩,hb⟩;obtain ⟨_,_,_,_,ha,_,hb',_,_,_⟩:=ho;rw [hl] at hi;have e:(rdL o)[i]?=[o.a.toNat,o.b.toNat][i]?:=by rw [rd_yes hk hf,List.getElem?_take,if_pos hi]
   rcases (show i=0\/i=1 by omega) with rfl|rfl
   ·have:(rdL o)[0]=o.a.toNat:=by
     have:=List.getElem?_eq_some_iff.1 e
     exact this.2
    rw [this,hA.c 0 _ rfl,Int.toNat_of_nonneg ha];rfl
   ·have:(rdL o)[1]=o.b.toNat:=by
     have:=List.getElem?_eq_some_iff.1 e
     exact this.2
    rw [this,hA.c 1 _ rfl,Int.toNat_of_nonneg hb'];rfl
theorem take_put {xs:List Nat} {k y:Nat} (h:k<xs.length):(xs.take (k+1)).foldl put y=put ((xs.take k).foldl put y) xs[k]:=by
 rw [List.take_succ_eq_append_getElem h,List.foldl_append];rfl
theorem take_lt {xs:List Nat} {k y:Nat} (hy:y<4294967296) (h:∀ r∈xs,r<32):(xs.take k).foldl put y<4294967296:=fold_lt hy fun r hr=>h r (List.mem_of_mem_take hr)
theorem aheadOf_any (o:O) (x:Nat) (w:World) (ho:o.Ok) (hx:x<4294967296):Calls Tryz.prog 146 #[o.val,.int .u32 x] w fun e w'=>e=.returned (.int .u32 (aheadN (wOf o) x:Nat))/\Below w.heap.size w w':=by
 have hs:=Lv.small_of o ho;have HO:Hid (∀ (r:Nat) w,r<32->Calls Tryz.prog 147 #[.int .u8 r] w fun e w'=>e=.returned (.int .u32 ((2^r:Nat):Int))/\w'=w):=fun r w h=>only_any r w h;have HR:Hid _:=fun w=>reads_sl o w ho;have HW0:=fun w=>writes_any o w ho;have hrd:∀ r∈rdL o,r<32:=hs.1;have hyl:wipe (wOf o) x<4294967296:=wipe_lt hx;have hdef:aheadN (wOf o) x=(rdL o).foldl put (wipe (wOf o) x):=rfl;rw [hdef];have hll:(rdL o).length<=2:=by unfold rdL;split <;> (try split) <;> (try split) <;> simp
 generalize hxs:rdL o=xs at *
 cases hw:wrB o with
 | false=>
  have e0:wipe (wOf o) x=x:=by simp [wipe,wOf,hw]
  rw [e0];rw [hw] at HW0;have HW:Hid _:=HW0;clear HW0 hs hdef hw e0 hyl ho hxs;go_enter Tryz.func146,Tryz.ntmps146;go_wp2_with (first
   | (go_at_call 168;refine Calls.mono (HW.out _) ?_;rintro e w1 ⟨rfl,hb⟩;obtain ⟨a1,hb0,hz⟩:=one_new w _ _ hb;obtain ⟨o0,o1,o2,o3,o4⟩:=a1.o5;have HB:Hid (Below w.heap.size w w1):=hb0;clear hb hb0 a1 HW)
   | (go_at_call 169;refine Calls.mono (HR.out _) ?_;rintro e w2 ⟨a,c,rfl,hl,hb⟩;have HL:Hid (Rl w2 a xs):=hl;have HB2:Hid (Below w.heap.size w w2):=HB.out.trans (hb.mono (Nat.le_of_lt hz));clear hb hl HR o0 o1 o2 o3 o4))
  go_loop [1,22] (fun b i=>∃ k:Nat,k<=xs.length/\i=.int .i64 k/\b=.int .u32 (((xs.take k).foldl put x:Nat):Int)) (fun _ i=>xs.length-(intOf i).toNat)
  case atStart=>exact ⟨0,by omega,rfl,rfl⟩
  case round=>
   obtain ⟨k,hk,rfl,rfl⟩:=hrel
   by_cases hlt:k<xs.length
   ·obtain ⟨b,rfl,hb,hc⟩:=HL.out.is (by omega);have cc:=hc k hlt;have hr:xs[k]<32:=hrd _ (List.getElem_mem hlt);have hb1:(xs.take k).foldl put x<4294967296:=take_lt hx hrd;have HE:Hid _:=put_u32 hb1 hr;have HT:Hid _:=take_put (y:=x) hlt;generalize xs[k]=r at *;generalize (xs.take k).foldl put x=y at *;clear hc HL hb1;go_wp2_with (first|(go_at_call 147;refine Calls.mono (HO.out _ _ hr) ?_;rintro e w3 ⟨rfl,hw3⟩;subst w3))
    go_roundw
    case rel=>exact ⟨k+1,by omega,by go_num,by rw [HT.out,HE.out]⟩
    case measure=>simp [intOf];omega
   ·obtain rfl:k=xs.length:=by omega
    rw [List.take_length];go_wp2
    go_ret
    exact ⟨rfl,HB2.out⟩
 | true=>
  have hd0:wrD o=((o.d.toNat : Nat):Int):=by
   obtain ⟨_,_,hd,_⟩:=ho;simp only [wrD,hw,if_true];omega
  have hd1:o.d.toNat<32:=hs.2 _ (by simp [wOf,hw]);have e0:wipe (wOf o) x=clr x o.d.toNat:=by simp [wipe,wOf,hw]
  rw [e0] at hyl ⊢;rw [hw,hd0] at HW0;have HW:Hid _:=HW0;have HC:Hid _:=clr_u32 hx hd1;generalize o.d.toNat = d at *;clear HW0 hs hdef hw e0 ho hd0 hxs;go_enter Tryz.func146,Tryz.ntmps146;go_wp2_with (first
   | (go_at_call 168;refine Calls.mono (HW.out _) ?_;rintro e w1 ⟨rfl,hb⟩;obtain ⟨a1,hb0,hz⟩:=one_new w _ _ hb;obtain ⟨o0,o1,o2,o3,o4⟩:=a1.o5;have HB:Hid (Below w.heap.size w w1):=hb0;clear hb hb0 a1 HW)
   | (go_at_call 147;refine Calls.mono (HO.out _ _ hd1) ?_;rintro e w3 ⟨rfl,hw3⟩;subst w3)
   | (go_at_call 169;refine Calls.mono (HR.out _) ?_;rintro e w2 ⟨a,c,rfl,hl,hb⟩;have HL:Hid (Rl w2 a xs):=hl;have HB2:Hid (Below w.heap.size w w2):=HB.out.trans (hb.mono (Nat.le_of_lt hz));clear hb hl HR o0 o1 o2 o3 o4))
  go_loop [1,22] (fun b i=>∃ k:Nat,k<=xs.length/\i=.int .i64 k/\b=.int .u32 (((xs.take k).foldl put (clr x d):Nat):Int)) (fun _ i=>xs.length-(intOf i).toNat)
  case atStart=>exact ⟨0,by omega,rfl,by rw [HC.out];rfl⟩
  case round=>
   obtain ⟨k,hk,rfl,rfl⟩:=hrel
   by_cases hlt:k<xs.length
   ·obtain ⟨b,rfl,hb,hc⟩:=HL.out.is (by omega);have cc:=hc k hlt;have hr:xs[k]<32:=hrd _ (List.getElem_mem hlt);have hb1:(xs.take k).foldl put (clr x d)<4294967296:=take_lt hyl hrd;have HE:Hid _:=put_u32 hb1 hr;have HT:Hid _:=take_put (y:=clr x d) hlt;generalize xs[k]=r at *;generalize (xs.take k).foldl put (clr x d)=y at *;clear hc HL hb1;go_wp2_with (first|(go_at_call 147;refine Calls.mono (HO.out _ _ hr) ?_;rintro e w3 ⟨rfl,hw3⟩;subst w3))
    go_roundw
    case rel=>exact ⟨k+1,by omega,by go_num,by rw [HT.out,HE.out]⟩
    case measure=>simp [intOf];omega
   ·obtain rfl:k=xs.length:=by omega
    rw [List.take_length];go_wp2
    go_ret
    exact ⟨rfl,HB2.out⟩
theorem drop_put {xs:List O} {k x:Nat} (h:k<xs.length):aheadNL ((xs.drop k).map wOf) x=aheadN (wOf xs[k]) (aheadNL ((xs.drop (k+1)).map wOf) x):=by
 rw [List.drop_eq_getElem_cons h];rfl
theorem drop_lt {xs:List O} {k x:Nat} (hx:x<4294967296) (h:∀ o∈xs,o.Ok):aheadNL ((xs.drop k).map wOf) x<4294967296:=
 aheadNL_lt hx fun o ho=>by
  obtain ⟨y,hy,rfl⟩:=List.mem_map.1 ho;exact Lv.small_of y (h y (List.mem_of_mem_drop hy))
theorem aheadOfList_any (ao:Option Addr) (cap:Nat) (xs:List O) (x:Nat) (w:World) (h:OpsAt w ao xs) (hx:x<4294967296) :
  Calls Tryz.prog 106 #[.slice ao xs.length cap,.int .u32 x] w fun e w'=>e=.returned (.int .u32 (aheadNL (xs.map wOf) x:Nat))/\Below w.heap.size w w':=by
 have hlen:=h.len;have HO:Hid (OpsAt w ao xs):=h;clear h;go_enter Tryz.func106,Tryz.ntmps106;go_wp2
 go_loopw [1,5] (fun b i wr=>∃ k:Nat,k<=xs.length/\i=.int .i64 ((k:Int)-1)/\b=.int .u32 ((aheadNL ((xs.drop k).map wOf) x:Nat):Int)/\Below w.heap.size w wr) (fun _ i _=>(intOf i+1).toNat)
 case atStart=>exact ⟨xs.length,Nat.le_refl _,by go_num,by rw [List.drop_length];rfl,Below.refl _ _⟩
 case round=>
  rename_i wr;obtain ⟨k,hk,rfl,rfl,hbw⟩:=hrel
  cases k with
  | zero=>
   have e:xs.drop 0=xs:=rfl;rw [e];go_wp2
   go_ret
   exact ⟨rfl,hbw⟩
  | succ k=>
   obtain ⟨b,f,rfl,hz,hc⟩:=HO.out.is (by omega);obtain ⟨c0,c1,c2,c3,c4⟩:=(hc k (by omega)).below hbw hz;have hb1:aheadNL ((xs.drop (k+1)).map wOf) x<4294967296:=drop_lt hx HO.out.ok;have HT:Hid _:=drop_put (x:=x) (show k<xs.length by omega);have HA:Hid _:=fun w'=>aheadOf_any xs[k] _ w' (HO.out.ok _ (List.getElem_mem _)) hb1;have e1:((k+1:Nat):Int)-1=(k:Int):=by omega
   rw [e1];have i1:(0:Int)<=(k:Int):=by omega
   have i2:(k:Int)<(xs.length:Int):=by omega
   generalize xs[k]=o at *;generalize aheadNL ((xs.drop (k+1)).map wOf) x=y at *;clear hc HO e1 hb1;go_wp2_with (first|(go_at_call 146;refine Calls.mono (HA.out _) ?_;rintro e w3 ⟨rfl,hb3⟩))
   go_roundw
   case rel=>exact ⟨k,by omega,by go_num,by rw [HT.out],hbw.trans (hb3.mono hbw.size)⟩
   case measure=>simp [intOf]
theorem or_u32 {x y:Nat} (hx:x<4294967296) (hy:y<4294967296):bits .or .u32 (x:Int) (y:Int)=((x ||| y:Nat):Int):=u32_or_nat x y hx hy
theorem map_small {xs:List O} (h:∀ o∈xs,o.Ok):∀ o∈xs.map wOf,Lv.Small o:=fun o ho=>by
 obtain ⟨y,hy,rfl⟩:=List.mem_map.1 ho;exact Lv.small_of y (h y hy)
theorem aheadOfRounds_any (ao:Option Addr) (cap:Nat) (xs:List O) (x:Nat) (w:World) (h:OpsAt w ao xs) (hx:x<4294967296) :
  Calls Tryz.prog 148 #[.slice ao xs.length cap,.int .u32 x] w fun e w'=>e=.returned (.int .u32 (loopN (xs.map wOf) x:Nat))/\Below w.heap.size w w':=by
 have HE:Hid (bits .or .u32 (x:Int) ((aheadNL (xs.map wOf) x:Nat):Int)=((loopN (xs.map wOf) x:Nat):Int)):=or_u32 hx (aheadNL_lt hx (map_small h.ok));have HL:Hid _:=aheadOfList_any ao cap xs x w h hx;clear h;go_enter Tryz.func148,Tryz.ntmps148;go_wp2_with (first|(go_at_call 106;refine Calls.mono HL.out ?_;rintro e w1 ⟨rfl,hb⟩))
 go_ret
 exact ⟨ret_int HE.out,hb⟩
structure Ul (w:World) (a:Option Addr) (xs:List Nat):Prop where
 is:0<xs.length->∃ b,a=some ⟨b,0,none⟩/\b<w.heap.size/\∀ (i:Nat) (h:i<xs.length),w.cell? ⟨b,i,none⟩=some (.int .u32 ((xs[i]:Nat):Int))
theorem Ul.below {w w':World} {a:Option Addr} {xs:List Nat} (h:Ul w a xs) (hb:Below w.heap.size w w'):Ul w' a xs:=⟨fun h0=>by
 obtain ⟨b,e,hlt,hc⟩:=h.is h0;exact ⟨b,e,Nat.lt_of_lt_of_le hlt hb.size,fun i hi=>by rw [(bcell hb).1 _ _ hlt];exact hc i hi⟩⟩
theorem Ul.nil (w:World) (a:Option Addr):Ul w a []:=⟨fun h=>by simp at h⟩
theorem Ul.at {w:World} {b:Nat} {xs:List Nat} (h:Ul w (some ⟨b,0,none⟩) xs) {t:Nat} (ht:t<xs.length):w.cell? ⟨b,t,none⟩=some (.int .u32 ((inN xs t:Nat):Int)):=by
 obtain ⟨b',e,hlt,hc⟩:=h.is (by omega)
 cases e
 rw [inN_eq ht];exact hc t ht
theorem Ul.addr {w:World} {a:Option Addr} {xs:List Nat} (h:Ul w a xs) (h0:0<xs.length):∃ b,a=some ⟨b,0,none⟩/\b<w.heap.size:=by
 obtain ⟨b,e,hlt,hc⟩:=h.is h0;exact ⟨b,e,hlt⟩
theorem halt_any (x:Bk) (p:Pl) (v:Value) (w:World) (ha0:0<=x.a) (ha:x.a<32) (h0:x.fin=2) :
  Calls Tryz.prog 107 #[x.val p,v] w fun e w'=>e=.returned (.int .u32 ((2^x.a.toNat : Nat):Int))/\Below w.heap.size w w':=by
 obtain ⟨xo,xf,xa,xb,xt,xe⟩:=x;simp only at h0 ha0 ha
 obtain ⟨a,rfl⟩:∃ a:Nat,xa=a:=⟨xa.toNat,by omega⟩;subst h0;have HO:Hid _:=fun w=>only_any a w (by omega);clear ha ha0;go_enter Tryz.func107,Tryz.ntmps107;go_wp2_with (first|(go_at_call 147;refine Calls.mono (HO.out _) ?_;rintro e w3 ⟨rfl,hw3⟩;subst w3))
 go_ret
 exact ⟨rfl,by go_grown⟩
theorem jump_any (x:Bk) (p:Pl) (b c:Nat) (xs:List Nat) (w:World) (hU:Ul w (some ⟨b,0,none⟩) xs) (ht0:0<=x.thn) (ht:x.thn<xs.length) (h0:x.fin=0) :
  Calls Tryz.prog 107 #[x.val p,.slice (some ⟨b,0,none⟩) xs.length c] w fun e w'=>e=.returned (.int .u32 ((inN xs x.thn.toNat : Nat):Int))/\Below w.heap.size w w':=by
 obtain ⟨xo,xf,xa,xb,xt,xe⟩:=x;simp only at h0 ht0 ht
 obtain ⟨t,rfl⟩:∃ t:Nat,xt=t:=⟨xt.toNat,by omega⟩;subst h0;have cc:=hU.at (t:=t) (by omega);obtain ⟨b',e,hb⟩:=hU.addr (by omega)
 cases e
 clear hU;go_enter Tryz.func107,Tryz.ntmps107;go_wp2
 go_ret
 exact ⟨rfl,by go_grown⟩
theorem branch_any (x:Bk) (p:Pl) (b c:Nat) (xs:List Nat) (w:World) (hU:Ul w (some ⟨b,0,none⟩) xs) (hF:Fit xs) (ha0:0<=x.a) (ha:x.a<32) (ht0:0<=x.thn) (ht:x.thn<xs.length) (he0:0<=x.els) (he:x.els<xs.length) (h0:x.fin=1) :
  Calls Tryz.prog 107 #[x.val p,.slice (some ⟨b,0,none⟩) xs.length c] w fun e w'=>e=.returned (.int .u32 ((2^x.a.toNat ||| inN xs x.thn.toNat ||| inN xs x.els.toNat : Nat):Int))/\Below w.heap.size w w':=by
 obtain ⟨xo,xf,xa,xb,xt,xe⟩:=x;simp only at h0 ht0 ht he0 he ha0 ha
 obtain ⟨t,rfl⟩:∃ t:Nat,xt=t:=⟨xt.toNat,by omega⟩;obtain ⟨u,rfl⟩:∃ u:Nat,xe=u:=⟨xe.toNat,by omega⟩;obtain ⟨a,rfl⟩:∃ a:Nat,xa=a:=⟨xa.toNat,by omega⟩;subst h0;have c1:=hU.at (t:=t) (by omega);have c2:=hU.at (t:=u) (by omega);obtain ⟨b',e,hb⟩:=hU.addr (by omega)
 cases e
 have HO:Hid (∀ w,Calls Tryz.prog 147 #[.int .u8 a] w fun e w'=>e=.returned (.int .u32 ((2^a:Nat):Int))/\w'=w):=fun w=>only_any a w (by omega);simp only [Int.toNat_natCast];have f1:2^a<4294967296:=pow32 (by omega);have HE1:Hid (bits .or .u32 ((2^a:Nat):Int) ((inN xs t:Nat):Int)=((2^a ||| inN xs t:Nat):Int)):=or_u32 f1 (hF t);have HE2:Hid (bits .or .u32 ((2^a ||| inN xs t:Nat):Int) ((inN xs u:Nat):Int)=((2^a ||| inN xs t ||| inN xs u:Nat):Int)):=or_u32 (Nat.or_lt_two_pow (n:=32) f1 (hF t)) (hF u);generalize hm:2^a=m at *;generalize inN xs t=y1 at *;generalize inN xs u=y2 at *;clear hU hF f1 hm ha0 ha;go_enter Tryz.func107,Tryz.ntmps107;go_wp2_with fail
 go_quiet (first|(go_at_call 147;refine Calls.quiet_of_same (HO.out _)))
 go_wp2_with fail
 go_ret
 refine ⟨ret_int ?_,?_⟩
 ·rw [HE1.out,HE2.out]
 ·exact drewN_below (by go_grown) _
theorem below_al {w:World} (o:Obj):Below w.heap.size w (w.alloc o):=(Below.refl _ _).alloc (Nat.le_refl _) _
theorem loop_any (x:Bk) (p:Pl) (b c:Nat) (xs:List Nat) (w:World) (hB:OpsAt w p.ba x.body) (hU:Ul w (some ⟨b,0,none⟩) xs) (hF:Fit xs) (ha0:0<=x.a) (ha:x.a<32) (ht0:0<=x.thn) (ht:x.thn<xs.length) (h0:x.fin=3) :
  Calls Tryz.prog 107 #[x.val p,.slice (some ⟨b,0,none⟩) xs.length c] w fun e w'=>e=.returned (.int .u32 ((2^x.a.toNat ||| loopN (x.body.map wOf) (inN xs x.thn.toNat):Nat):Int))/\Below w.heap.size w w':=by
 obtain ⟨xo,xf,xa,xb,xt,xe⟩:=x;simp only at h0 ht0 ht ha0 ha hB
 obtain ⟨t,rfl⟩:∃ t:Nat,xt=t:=⟨xt.toNat,by omega⟩;obtain ⟨a,rfl⟩:∃ a:Nat,xa=a:=⟨xa.toNat,by omega⟩;subst h0;have htl:(t:Int)<(xs.length:Int):=by omega
 have c1:=hU.at (t:=t) (by omega);obtain ⟨b',e,hb⟩:=hU.addr (by omega)
 cases e
 simp only [Int.toNat_natCast];have f1:2^a<4294967296:=pow32 (by omega);have f2:loopN (xb.map wOf) (inN xs t)<4294967296:=loopN_lt (hF t) (map_small hB.ok);have HE1:Hid (bits .or .u32 ((2^a:Nat):Int) ((loopN (xb.map wOf) (inN xs t):Nat):Int)=((2^a ||| loopN (xb.map wOf) (inN xs t):Nat):Int)):=or_u32 f1 f2;have HO:Hid (∀ w,Calls Tryz.prog 147 #[.int .u8 a] w fun e w'=>e=.returned (.int .u32 ((2^a:Nat):Int))/\Below w.heap.size w w'):=fun w=>(only_any a w (by omega)).mono fun _ _ h=>⟨h.1,by rw [h.2];exact Below.refl _ _⟩;have hW:Below w.heap.size w (w.alloc (.cells #[.slice p.oa xo.length p.oc,.int .i8 3,.int .u8 a,.slice p.ba xb.length p.bc,.int .i64 t,.int .i64 xe] 25)):=below_al _;generalize hV:w.alloc (.cells #[.slice p.oa xo.length p.oc,.int .i8 3,.int .u8 a,.slice p.ba xb.length p.bc,.int .i64 t,.int .i64 xe] 25)=V at hW;have hsz:w.heap.size<V.heap.size:=by rw [<- hV];simp
 have d2:∀ x:Wd (Below V.heap.size V),x.w.cell? ⟨w.heap.size,2,none⟩=some (.int .u8 a):=fun x=>by rw [(bcell x.ok).1 _ _ (by omega),<- hV];simp
 have d3:∀ x:Wd (Below V.heap.size V),x.w.cell? ⟨w.heap.size,3,none⟩=some (.slice p.ba xb.length p.bc):=fun x=>by rw [(bcell x.ok).1 _ _ (by omega),<- hV];simp
 have d4:∀ x:Wd (Below V.heap.size V),x.w.cell? ⟨w.heap.size,4,none⟩=some (.int .i64 t):=fun x=>by rw [(bcell x.ok).1 _ _ (by omega),<- hV];simp
 have d5:∀ x:Wd (Below V.heap.size V),x.w.cell? ⟨b,t,none⟩=some (.int .u32 ((inN xs t:Nat):Int)):=fun x=>by rw [(bcell x.ok).1 _ _ (by omega),(bcell hW).1 _ _ hb];exact c1
 have HL:Hid (∀ x:Wd (Below V.heap.size V),Calls Tryz.prog 148 #[.slice p.ba xb.length p.bc,.int .u32 ((inN xs t:Nat):Int)] x.w fun e w'=>e=.returned (.int .u32 ((loopN (xb.map wOf) (inN xs t):Nat):Int))/\Below x.w.heap.size x.w w'):=fun x=>aheadOfRounds_any _ _ _ _ _ ((hB.below hW).below x.ok) (hF t)
 haveI inst:Nonempty (Wd (Below V.heap.size V)):=⟨⟨V,Below.refl _ _⟩⟩
 have HW:Hid (Below w.heap.size w V):=hW;have HV:Hid (_=V):=hV;have i1:(0:Int)<=(t:Int):=by omega
 generalize loopN (xb.map wOf) (inN xs t)=y2 at *;generalize inN xs t=y1 at *;generalize hm:2^a=m at *;clear hW hV hU hB hF ha0 ha hm f1 f2 c1 hsz;go_enter Tryz.func107,Tryz.ntmps107;go_wp2_with fail
 rw [HV.out];refine wp_region_in (Below V.heap.size V) (by kernel_rfl) (by kernel_rfl) ((Below.refl _ _).drew) ?_
 repeat (first|go_big_quiet_step ((first
  | (go_at_call 147;exact calls_in (Nat.le_refl _) _ (HO.out _))
  | (go_at_call 148;exact calls_in (Nat.le_refl _) _ (HL.out _)))))
 refine wpQuiet_nil ?_;rintro _ ⟨x,rfl⟩;have hx:=x.ok;go_wp2_with fail
 go_ret
 exact ⟨ret_int HE1.out,HW.out.trans (hx.mono HW.out.size)⟩
theorem end_fin {x:Bk} {n:Int} (h:endB x n=true):x.fin=0\/x.fin=1\/x.fin=2\/x.fin=3:=by
 simp only [endB,Bool.and_eq_true,eK,decide_eq_true_eq] at h;omega
theorem aheadOfEnd_any (x:Bk) (p:Pl) (a:Option Addr) (c:Nat) (xs:List Nat) (w:World) (hx:BIn w x p) (hU:Ul w a xs) (hF:Fit xs) (h0:0<xs.length) (he:endB x xs.length=true) :
  Calls Tryz.prog 107 #[x.val p,.slice a xs.length c] w fun e w'=>e=.returned (.int .u32 ((endN (bOf x) xs:Nat):Int))/\Below w.heap.size w w':=by
 obtain ⟨b,rfl,hb⟩:=hU.addr h0;have ha0:=hx.ok.a0;rcases end_fin he with h|h|h|h
 ·have ht:=end_thn he (by omega);have e:endN (bOf x) xs=inN xs x.thn.toNat:=by simp [endN,bOf,eOf,h]
  rw [e];exact jump_any x p b c xs w hU ht.1 ht.2 h
 ·have ht:=end_thn he (by omega);have hl:=end_els he h;have e:endN (bOf x) xs=2^x.a.toNat ||| inN xs x.thn.toNat ||| inN xs x.els.toNat:=by simp [endN,bOf,eOf,h]
  rw [e];exact branch_any x p b c xs w hU hF ha0 (end_reg he (by omega)) ht.1 ht.2 hl.1 hl.2 h
 ·have e:endN (bOf x) xs=2^x.a.toNat:=by simp [endN,bOf,eOf,h]
  rw [e];exact halt_any x p _ w ha0 (end_reg he (by omega)) h
 ·have ht:=end_thn he (by omega);have e:endN (bOf x) xs=2^x.a.toNat ||| loopN (x.body.map wOf) (inN xs x.thn.toNat):=by simp [endN,bOf,eOf,h]
  rw [e];exact loop_any x p b c xs w hx.b hU hF ha0 (end_reg he (by omega)) ht.1 ht.2 h
theorem end_lt {x:Bk} {xs:List Nat} {n:Int} (he:endB x n=true) (ha0:0<=x.a) (ho:∀ o∈x.ops,o.Ok) (hb:∀ o∈x.body,o.Ok) (hF:Fit xs):endN (bOf x) xs<4294967296:=endN_lt (smallB_of he ha0 ho hb) hF
theorem into_any (x:Bk) (p:Pl) (a:Option Addr) (c:Nat) (xs:List Nat) (w:World) (hx:BIn w x p) (hU:Ul w a xs) (hF:Fit xs) (h0:0<xs.length) (he:endB x xs.length=true) :
  Calls Tryz.prog 57 #[x.val p,.slice a xs.length c] w fun e w'=>e=.returned (.int .u32 ((intoN (bOf x) xs:Nat):Int))/\Below w.heap.size w w':=by
 have f1:endN (bOf x) xs<4294967296:=end_lt he hx.ok.a0 hx.o.ok hx.b.ok hF;have hdef:intoN (bOf x) xs=aheadNL (x.ops.map wOf) (endN (bOf x) xs):=rfl;rw [hdef];have hW:Below w.heap.size w (w.alloc (.cells (x.cells p) 25)):=below_al _;generalize hV:w.alloc (.cells (x.cells p) 25)=V at hW;have hsz:w.heap.size<V.heap.size:=by rw [<- hV];simp
 have HE:Hid (∀ z:Wd (Below V.heap.size V),Calls Tryz.prog 107 #[x.val p,.slice a xs.length c] z.w fun e w'=>e=.returned (.int .u32 ((endN (bOf x) xs:Nat):Int))/\Below z.w.heap.size z.w w'):=fun z=>aheadOfEnd_any x p a c xs _ ((hx.below hW).below z.ok) ((hU.below hW).below z.ok) hF h0 he;have HL:Hid (∀ z:Wd (Below V.heap.size V),Calls Tryz.prog 106 #[.slice p.oa x.ops.length p.oc,.int .u32 ((endN (bOf x) xs:Nat):Int)] z.w fun e w'=>e=.returned (.int .u32 ((aheadNL (x.ops.map wOf) (endN (bOf x) xs):Nat):Int))/\Below z.w.heap.size z.w w'):=fun z=>aheadOfList_any _ _ _ _ _ ((hx.o.below hW).below z.ok) f1;generalize aheadNL (x.ops.map wOf) (endN (bOf x) xs)=y2 at *;generalize endN (bOf x) xs=y1 at *;obtain ⟨xo,xf,xa,xb,xt,xe⟩:=x;have d0:∀ z:Wd (Below V.heap.size V),z.w.cell? ⟨w.heap.size,0,none⟩=some (.slice p.oa xo.length p.oc):=fun x=>by rw [(bcell x.ok).1 _ _ (by omega),<- hV];simp
 have d1:∀ z:Wd (Below V.heap.size V),z.w.cell? ⟨w.heap.size,1,none⟩=some (.int .i8 xf):=fun x=>by rw [(bcell x.ok).1 _ _ (by omega),<- hV];simp
 have d2:∀ z:Wd (Below V.heap.size V),z.w.cell? ⟨w.heap.size,2,none⟩=some (.int .u8 xa):=fun x=>by rw [(bcell x.ok).1 _ _ (by omega),<- hV];simp
 have d3:∀ z:Wd (Below V.heap.size V),z.w.cell? ⟨w.heap.size,3,none⟩=some (.slice p.ba xb.length p.bc):=fun x=>by rw [(bcell x.ok).1 _ _ (by omega),<- hV];simp
 have d4:∀ z:Wd (Below V.heap.size V),z.w.cell? ⟨w.heap.size,4,none⟩=some (.int .i64 xt):=fun x=>by rw [(bcell x.ok).1 _ _ (by omega),<- hV];simp
 have d5:∀ z:Wd (Below V.heap.size V),z.w.cell? ⟨w.heap.size,5,none⟩=some (.int .i64 xe):=fun x=>by rw [(bcell x.ok).1 _ _ (by omega),<- hV];simp
 haveI inst:Nonempty (Wd (Below V.heap.size V)):=⟨⟨V,Below.refl _ _⟩⟩
 have HW:Hid (Below w.heap.size w V):=hW;have HV:Hid (_=V):=hV;clear hW hV hU hx hF f1 hdef he h0 hsz;go_enter Tryz.func57,Tryz.ntmps57;go_wp2_with fail
 rw [HV.out];refine wp_region_in (Below V.heap.size V) (by kernel_rfl) (by kernel_rfl) ((Below.refl _ _).drew) ?_
 repeat (first|go_big_quiet_step ((first
  | (go_at_call 107;exact calls_in (Nat.le_refl _) _ (HE.out _))
  | (go_at_call 106;exact calls_in (Nat.le_refl _) _ (HL.out _)))))
 refine wpQuiet_nil ?_;rintro _ ⟨x,rfl⟩;have hx:=x.ok;go_wp2_with fail
 go_ret
 exact ⟨rfl,HW.out.trans (hx.mono HW.out.size)⟩
end Go.Proofs.YtcmlnemokckbdaaGreatDoor.L8.Li
