/- Parts QTb Ya Yb QFa. -/
import Derived.Test.YtcmlnemokckbdaaGreatDoorN30
import Derived.BigRegion
import Derived.Test.YtcmlnemokckbdaaGreatDoorN24
set_option maxRecDepth 20000
set_option maxHeartbeats 8000000
namespace Go.Proofs.YtcmlnemokckbdaaGreatDoor.L8.Fl
open Go.ChangeShapes Go.WideShapes Go.ChangeAt Go.RowKit
open YtcmlnemokckbdaaGreatDoor.L8.So YtcmlnemokckbdaaGreatDoor.L8.Ss YtcmlnemokckbdaaGreatDoor.L8.Op
def AtIx (xs:List Int) (z v:Int):Prop:=decide (v ≥ 0)=decide (z∈xs)
theorem index_any (a:Option Addr) (c:Nat) (xs:List Int) (z:Int) (B:Nat) (w:World) (h:Il w B a xs) (hl:xs.length<1099511627776) :
  Calls Tryz.prog 145 #[.slice a xs.length c,.int .i64 z] w fun e w'=>∃ v,e=.returned (.int .i64 v)/\AtIx xs z v/\w'=w:=by
 go_enter Tryz.func145,Tryz.ntmps145;go_wp2
 go_loop [8] (fun i=>∃ k:Nat,k<=xs.length/\i=.int .i64 k/\Hid (∀ j (hj:j<xs.length),j<k->xs[j]≠z)) (fun i=>xs.length-(intOf i).toNat)
 case atStart=>exact ⟨0,by omega,rfl,fun j _ hj=>by omega⟩
 case round=>
  obtain ⟨k,hk,rfl,hN⟩:=hrel
  by_cases hlt:k<xs.length
  ·obtain ⟨b,rfl,-,hb,hc⟩:=h.is (by omega);have cc:=hc k hlt
   by_cases he:z=xs[k]
   ·have hR:Hid (decide ((k:Int) ≥ 0)=decide (z∈xs)):=by
     have hm:z∈xs:=by rw [he];exact List.getElem_mem hlt
     show _=_;rw [decide_eq_true hm];simp
    clear hc h;rw [<- he] at cc;clear he hN;go_wp2
    go_ret
    exact ⟨_,rfl,hR.out,rfl⟩
   ·have hN2:Hid (∀ j (hj:j<xs.length),j<k+1->xs[j]≠z):=fun j hj hjk=>by
     rcases Nat.lt_or_ge j k with h|h
     ·exact hN.out j hj h
     ·obtain rfl:j=k:=by omega
      exact fun e=>he e.symm
    obtain ⟨x,hx⟩:∃ x,x=xs[k]:=⟨_,rfl⟩;rw [<- hx] at cc he;clear hc h hx hN;go_wp2
    go_roundw
    case rel=>exact ⟨k+1,by omega,by go_num,hN2⟩
    case measure=>simp [intOf];omega
  ·obtain rfl:k=xs.length:=by omega
   have hR:Hid (decide ((-1:Int) ≥ 0)=decide (z∈xs)):=by
    have hm:¬ z∈xs:=fun h=>by
     obtain ⟨j,hj,e⟩:=List.getElem_of_mem h;exact hN.out j hj hj e
    show _=_;rw [decide_eq_false hm];simp
   go_wp2
   go_ret
   exact ⟨_,rfl,hR.out,rfl⟩
theorem contains_any (a:Option Addr) (c:Nat) (xs:List Int) (z:Int) (B:Nat) (w:World) (h:Il w B a xs) (hl:xs.length<1099511627776) :
  Calls Tryz.prog 104 #[.slice a xs.length c,.int .i64 z] w fun e w'=>e=.returned (.bool (decide (z∈xs)))/\w'=w:=by
 have HI:Hid _:=index_any a c xs z B w h hl;clear h;go_enter Tryz.func104,Tryz.ntmps104;go_wp2_with (first|(go_at_call 145;refine Calls.mono HI.out ?_;rintro e w' ⟨v,rfl,hv,hw⟩;subst w';have HV:Hid _:=hv;clear hv))
 go_ret
 exact ⟨ret_bool HV.out,rfl⟩
theorem intL_snoc (acc:List Int) (x:Int):(acc++[x]).map (fun y=>Value.int .i64 y)=acc.map (fun y=>Value.int .i64 y)++[.int .i64 x]:=by simp
theorem il_row {w:World} {B c:Nat} {a:Option Addr} {xs:List Int} (h:w.ownsRow B 3 1 (.slice a xs.length c) xs.length (xs.map fun y=>Value.int .i64 y)):Il w B a xs:=by
 refine ⟨fun h0=>?_⟩;rcases h.2 with ⟨_,h1⟩|⟨g,cap,cur,h1,h2,h3,h4⟩
 ·omega
 ·injection h1 with e1 e2 e3
  subst e1;have hc:=h.cells (g:=g) rfl;refine ⟨g,rfl,h2,(h.lt g rfl).2,fun i hi=>?_⟩
  have:=hc i (.int .i64 xs[i]) (by rw [List.getElem?_map,List.getElem?_eq_getElem hi];rfl)
  by_cases i0:i=0
  ·subst i0;simpa [Addr.add] using this
  ·simpa [Addr.add,i0] using this
theorem row_slice {w:World} {B n:Nat} {e:TypeId} {z:Nat} {v:Value} {xs:List Value} (h:w.ownsRow B e z v n xs):∃ a c,v=.slice a n c:=by
 rcases h.2 with ⟨h1,h2⟩|⟨g,cap,cur,h1,_⟩
 ·exact ⟨none,0,by rw [h1,h2]⟩
 ·exact ⟨_,_,h1⟩
theorem row_below' {w w':World} {B:Nat} {e:TypeId} {z:Nat} {v:Value} {n:Nat} {xs:List Value} (h:w.ownsRow B e z v n xs) (hb:Below w.heap.size w w'):w'.ownsRow B e z v n xs:=
 h.kept (row:=none) ⟨hb.os,hb.tape,hb.output,hb.size,fun k hk _=>hb.block k hk⟩ (by cases v.ownBlock <;> simp)
theorem info3:(Tryz.prog.info? 3).map (fun i=>(i.zero,i.size,i.bytes))=some (some (.int .i64 0),1,8):=by kernel_rfl
def aheadTo (ps:List Bk) (j:Int) (k:Nat):List Int:=((List.range k).filter fun i=>match ps[i]? with|some x=>decide (j∈turnL x)|none=>false).map fun (i:Nat)=>(i:Int)
def aheadL (ps:List Bk) (block:Int):List Int:=if knB ps block then aheadTo ps block ps.length else []
theorem aheadTo_yes {ps:List Bk} {j:Int} {k:Nat} (h:k<ps.length) (ht:j∈turnL ps[k]):aheadTo ps j (k+1)=aheadTo ps j k++[(k:Int)]:=by
 unfold aheadTo;rw [List.range_succ,List.filter_append,List.map_append];simp [List.getElem?_eq_getElem h,ht]
theorem aheadTo_no {ps:List Bk} {j:Int} {k:Nat} (h:k<ps.length) (ht:¬ j∈turnL ps[k]):aheadTo ps j (k+1)=aheadTo ps j k:=by
 unfold aheadTo;rw [List.range_succ,List.filter_append,List.map_append];simp [List.getElem?_eq_getElem h,ht]
theorem aheadTo_len (ps:List Bk) (j:Int) (k:Nat):(aheadTo ps j k).length<=k:=by
 unfold aheadTo;rw [List.length_map]
 have:=List.length_filter_le (fun i=>match ps[i]? with|some x=>decide (j∈turnL x)|none=>false) (List.range k)
 simpa using this
theorem ahead_any (ao:Option Addr) (cap:Nat) (ps:List Bk) (block:Int) (w:World) (h:PAt w ao ps) (he:Env w) :
  Calls Tryz.prog 55 #[.agg #[.slice ao ps.length cap],.int .i64 block] w fun e w'=>∃ v,e=.returned v/\Got w w' v (aheadL ps block):=by
 have hb1:Below w.heap.size w (w.alloc (.cells #[.slice ao ps.length cap] 40)):=by go_grown
 have HK:Hid (Calls Tryz.prog 100 #[.agg #[.slice ao ps.length cap],.int .i64 block] (w.alloc (.cells #[.slice ao ps.length cap] 40)) fun e w'=>e=.returned (.bool (knB ps block))/\Below (w.alloc (.cells #[.slice ao ps.length cap] 40)).heap.size (w.alloc (.cells #[.slice ao ps.length cap] 40)) w'):=known_any ao cap ps block _ (h.below hb1) (he.up hb1);unfold aheadL
 by_cases hk:knB ps block=true
 ·rw [if_pos hk];rw [hk] at HK;have hk':=hk;unfold knB at hk';simp only [Bool.and_eq_true,decide_eq_true_eq] at hk';obtain ⟨⟨h0,h1⟩,hck⟩:=hk';have hle:=(good_of hck).le;obtain ⟨b,f,rfl,hlt,hx⟩:=h.is (by omega);have HX:Hid (∀ (i:Nat) (h:i<ps.length),∃ p,BAt w b (f+i*6) ps[i] p/\BIn w ps[i] p):=hx;have HT:Hid (∀ (x:Bk) (p:Pl) w',x.Ok->Calls Tryz.prog 105 #[x.val p] w' fun e w2=>∃ v,e=.returned v/\Got w' w2 v (turnL x)):=fun x p w' hok=>turns_any x p w' hok;have HC:Hid (∀ (a:Option Addr) (c:Nat) (xs:List Int) (B:Nat) w',Il w' B a xs->xs.length<1099511627776->Calls Tryz.prog 104 #[.slice a xs.length c,.int .i64 block] w' fun e w2=>e=.returned (.bool (decide (block∈xs)))/\w2=w'):=fun a c xs B w' hI hl=>contains_any a c xs block B w' hI hl;obtain ⟨i0,hi,hi2⟩:=Option.map_eq_some_iff.1 info3;simp only [Prod.mk.injEq] at hi2;obtain ⟨hz0,hz1,hz2⟩:=hi2;have HI:Hid (Tryz.prog.info? 3=some i0/\i0.zero=some (.int .i64 0)/\i0.size=1/\i0.bytes=8):=⟨hi,hz0,hz1,hz2⟩;clear h he hx hk hb1 hi hz0 hz1 hz2 hck;go_enter Tryz.func55,Tryz.ntmps55;go_wp2_with (first
   | (go_at_call 100;refine Calls.mono HK.out ?_;rintro e w1 ⟨rfl,hb⟩;obtain ⟨a1,hb0,hz⟩:=one_new w _ _ hb;have HB1:Hid (Below w.heap.size w w1):=hb0;have cb:=a1.c 0 _ rfl;clear hb hb0 a1 HK))
  go_loopw [5,15] (fun v i wr=>∃ (k:Nat),k<=ps.length/\i=.int .i64 k/\Hid (wr.ownsRow (w.heap.size+1) 3 1 v (aheadTo ps block k).length ((aheadTo ps block k).map fun y=>Value.int .i64 y)/\Below w.heap.size w wr/\w.heap.size+1<=wr.heap.size)) (fun _ i _=>ps.length-(intOf i).toNat)
  case atStart=>exact ⟨0,by omega,rfl,World.ownsRow_nil _ _ _ _,HB1.out,by omega⟩
  case round=>
   rename_i wr;obtain ⟨k,hk,rfl,hS⟩:=hrel
   by_cases hlk:k<ps.length
   ·obtain ⟨p,hp,hin⟩:=HX.out k hlk;obtain ⟨c0,c1,c2,c3,c4,c5⟩:=hp.below hS.out.2.1 hlt;have HT2:Hid (∀ w',Calls Tryz.prog 105 #[ps[k].val p] w' fun e w2=>∃ v,e=.returned v/\Got w' w2 v (turnL ps[k])):=fun w'=>HT.out _ p w' hin.ok;have hsz:Hid (w.heap.size+1<=wr.heap.size):=hS.out.2.2;have hb8:Hid (Below w.heap.size w wr):=hS.out.2.1;clear hp hin HX HT
    by_cases ht:block∈turnL ps[k]
    ·have hA:Hid (aheadTo ps block (k+1)=aheadTo ps block k++[(k:Int)]):=aheadTo_yes hlk ht;have hlen:=aheadTo_len ps block k;have HC2:Hid (∀ (a:Option Addr) (c:Nat) (B:Nat) w',Il w' B a (turnL ps[k])->Calls Tryz.prog 104 #[.slice a (turnL ps[k]).length c,.int .i64 block] w' fun e w2=>e=.returned (.bool true)/\w2=w'):=fun a c B w' hI=>by
      have:=HC.out a c (turnL ps[k]) B w' hI (by have:=turnL_two ps[k];omega)
      rw [decide_eq_true ht] at this;exact this
     clear ht HC;go_wp2_with (first
      | (go_at_call 105;refine Calls.mono (HT2.out _) ?_;rintro e w2 ⟨v2,rfl,hG⟩;obtain ⟨a2,c2',rfl,hI2,hb2⟩:=hG;have HI2:Hid (Il w2 _ a2 (turnL ps[k])):=hI2;have HS2:Hid (w2.ownsRow (w.heap.size+1) 3 1 u5 (aheadTo ps block k).length ((aheadTo ps block k).map fun y=>Value.int .i64 y)/\Below w.heap.size w w2/\w.heap.size+1<=w2.heap.size):=⟨row_below' (hS.out.1.alloc _) hb2,(hb8.out.alloc hb8.out.size _).trans (hb2.mono (by have:=hb8.out.size;simp;omega)),Nat.le_trans (by have:=hsz.out;simp;omega) hb2.size⟩;clear hI2 hb2 hS HT2)
      | (go_at_call 104;refine Calls.mono (HC2.out _ _ _ _ HI2.out) ?_;rintro e w3 ⟨rfl,hw⟩;subst w3;clear HC2 HI2)
      | (at_builtin;refine wpList_append_lies _ rfl _ _ 29 rfl (w.heap.size+1) 3 i0 (.int .i64 0) 1 8 Tryz.underlying29 HI.out.1 HI.out.2.1 HI.out.2.2.1 HI.out.2.2.2 rfl (by decide) _ _ _ rfl (HS2.out.1.alloc _) ⟨w2.heap.size,0,none⟩ 1 1 [.int .i64 (k:Int)] rfl rfl (World.news_of_block (heap_alloc_new w2 _)) (by simp [Value.oneCell']) (by decide) (by unfold maxLen;omega) (by omega) (by have:=HS2.out.2.2;simp;omega) (w2.heap.size+1) (by simp) ?_;intro g cap' w4 hown1 hgrow hat hlt3))
     go_roundw
     case rel=>
      refine ⟨k+1,by omega,by go_num,?_,?_,?_⟩
      ·rw [hA.out,intL_snoc,List.length_append];exact hown1
      ·exact (HS2.out.2.1.alloc HS2.out.2.1.size _).grown hgrow (by have:=HS2.out.2.1.size;simp;omega) (fun b hb=>by have:=((HS2.out.1).lt b hb).1;omega)
      ·have:=hgrow.size;have:=HS2.out.2.2;simp at *;omega
     case measure=>simp [intOf];omega
    ·have hA:Hid (aheadTo ps block (k+1)=aheadTo ps block k):=aheadTo_no hlk ht;have HC2:Hid (∀ (a:Option Addr) (c:Nat) (B:Nat) w',Il w' B a (turnL ps[k])->Calls Tryz.prog 104 #[.slice a (turnL ps[k]).length c,.int .i64 block] w' fun e w2=>e=.returned (.bool false)/\w2=w'):=fun a c B w' hI=>by
      have:=HC.out a c (turnL ps[k]) B w' hI (by have:=turnL_two ps[k];omega)
      rw [decide_eq_false ht] at this;exact this
     clear ht HC;go_wp2_with (first
      | (go_at_call 105;refine Calls.mono (HT2.out _) ?_;rintro e w2 ⟨v2,rfl,hG⟩;obtain ⟨a2,c2',rfl,hI2,hb2⟩:=hG;have HI2:Hid (Il w2 _ a2 (turnL ps[k])):=hI2;have HS2:Hid (w2.ownsRow (w.heap.size+1) 3 1 u5 (aheadTo ps block k).length ((aheadTo ps block k).map fun y=>Value.int .i64 y)/\Below w.heap.size w w2/\w.heap.size+1<=w2.heap.size):=⟨row_below' (hS.out.1.alloc _) hb2,(hb8.out.alloc hb8.out.size _).trans (hb2.mono (by have:=hb8.out.size;simp;omega)),Nat.le_trans (by have:=hsz.out;simp;omega) hb2.size⟩;clear hI2 hb2 hS HT2)
      | (go_at_call 104;refine Calls.mono (HC2.out _ _ _ _ HI2.out) ?_;rintro e w3 ⟨rfl,hw⟩;subst w3;clear HC2 HI2))
     go_roundw
     case rel=>exact ⟨k+1,by omega,by go_num,by rw [hA.out];exact HS2.out⟩
     case measure=>simp [intOf];omega
   ·obtain rfl:k=ps.length:=by omega
    go_wp2
    go_ret
    obtain ⟨a,c,e⟩:=row_slice hS.out.1;refine ⟨_,rfl,a,c,e,(il_row (e ▸ hS.out.1)).low (by omega),hS.out.2.1⟩
 ·rw [if_neg hk];have hk':knB ps block=false:=by simpa using hk
  rw [hk'] at HK;clear h he hk hb1;go_enter Tryz.func55,Tryz.ntmps55;go_wp2_with (first|(go_at_call 100;refine Calls.mono HK.out ?_;rintro e w1 ⟨rfl,hb⟩;obtain ⟨a1,hb0,hz⟩:=one_new w _ _ hb;have HB1:Hid _:=hb0;clear hb hb0 a1 HK))
  go_ret
  exact ⟨_,rfl,_,_,rfl,Il.nil _ _ _,HB1.out⟩
end Go.Proofs.YtcmlnemokckbdaaGreatDoor.L8.Fl
namespace Go.Proofs.YtcmlnemokckbdaaGreatDoor.L8.El
open Go.ChangeShapes Go.WideShapes Go.ChangeAt Go.RowKit
open YtcmlnemokckbdaaGreatDoor.L8.Op YtcmlnemokckbdaaGreatDoor.L8.Li
theorem harmless_no (o:O) (K:Int) (w:World) (h:¬ o.op<=12):Calls Tryz.prog 32 #[o.val,.int .u32 K] w fun e w'=>e=.returned (.bool false)/\Below w.heap.size w w':=by
 go_enter Tryz.func32,Tryz.ntmps32;go_wp2
 go_ret
 exact ⟨rfl,by go_grown⟩
theorem harmless_yes (op:Int) (d K:Nat) (a b im:Int) (w:World) (h:op<=12) (hd:d<32):Calls Tryz.prog 32 #[(⟨op,d,a,b,im⟩:O).val,.int .u32 K] w fun e w'=>e=.returned (.bool (bits .and .u32 (K:Int) ((2^d:Nat):Int)==0))/\Below w.heap.size w w':=by
 have h2:(d:Int)<=32:=by omega
 have h3:(0:Int)<=(d:Int):=by omega
 have hp:=pow_mod hd;go_enter Tryz.func32,Tryz.ntmps32;go_wp2
 go_ret
 exact ⟨rfl,by go_grown⟩
theorem equal_no (a c:Option Addr) (n p q:Nat) (w:World) (hn:¬ n=1) (hb:n<=1099511627776):Calls Tryz.prog 58 #[.slice a n p,.slice c 1 q] w fun e w'=>e=.returned (.bool false)/\w'=w:=by
 have h1:((n:Int)==1)=false:=by
  have:¬ (n:Int)=1:=by omega
  simpa using this
 have h2:(n:Int)<=1099511627776:=by omega
 clear hn hb;go_enter Tryz.func58,Tryz.ntmps58;go_wp2
 go_ret
 exact ⟨rfl,rfl⟩
theorem equal_one (ab cb p q:Nat) (x y:Int) (w:World) (ha:w.cell? ⟨ab,0,none⟩=some (.int .i64 x)) (hal:ab<w.heap.size) (hc:w.cell? ⟨cb,0,none⟩=some (.int .i64 y)) (hcl:cb<w.heap.size):Calls Tryz.prog 58 #[.slice (some ⟨ab,0,none⟩) 1 p,.slice (some ⟨cb,0,none⟩) 1 q] w fun e w'=>e=.returned (.bool (decide (x=y)))/\Below w.heap.size w w':=by
 have HD:Hid (w.cell? ⟨ab,0,none⟩=some (.int .i64 x)/\w.cell? ⟨cb,0,none⟩=some (.int .i64 y)/\ab<w.heap.size/\cb<w.heap.size):=⟨ha,hc,hal,hcl⟩;clear ha hc hal hcl;obtain ⟨r,hr⟩:∃ r,decide (x=y)=r:=⟨_,rfl⟩;have HR:Hid (decide (x=y)=r):=hr;rw [hr];clear hr;go_enter Tryz.func58,Tryz.ntmps58;go_wp2_with fail
 go_loopw [13] (fun i wr=>∃ k:Nat,k<=1/\i=.int .i64 k/\Below w.heap.size w wr/\(k=1->x=y)) (fun i _=>1-(intOf i).toNat)
 case atStart=>exact ⟨0,by omega,rfl,Below.refl _ _,fun h=>by omega⟩
 case round=>
  rename World=>wr;obtain ⟨k,hk,rfl,hb,hxy⟩:=hrel;have HB:Hid (Below w.heap.size w wr/\(k=1->x=y)):=⟨hb,hxy⟩;clear hb hxy
  by_cases hlt:k=0
  ·subst hlt;have c1:wr.cell? ⟨ab,0,none⟩=some (.int .i64 x):=by rw [(bcell HB.out.1).1 _ _ HD.out.2.2.1];exact HD.out.1
   have c2:wr.cell? ⟨cb,0,none⟩=some (.int .i64 y):=by rw [(bcell HB.out.1).1 _ _ HD.out.2.2.2];exact HD.out.2.1
   have l1:ab<wr.heap.size:=Nat.lt_of_lt_of_le HD.out.2.2.1 HB.out.1.size;have l2:cb<wr.heap.size:=Nat.lt_of_lt_of_le HD.out.2.2.2 HB.out.1.size
   by_cases he:x=y
   ·have hne:(x==y)=true:=by simpa using he
    have HE:Hid (x=y):=he;clear he;go_wp2_with fail
    go_quiet (fail)
    rename World=>wz;have HN:Hid (Below w.heap.size w (wz.drewN nq)):=HB.out.1.trans ⟨rfl,rfl,rfl,Nat.le_refl _,fun _ _=>rfl⟩;go_wp2_with fail
    go_roundw
    case rel=>exact ⟨1,by omega,by go_num,HN.out,fun _=>HE.out⟩
    case measure=>simp [intOf]
   ·have hne:(x==y)=false:=by simpa using he
    have HE:Hid (false=r):=by show false=r;rw [<- HR.out];simp [he]
    clear he;go_wp2_with fail
    go_quiet (fail)
    rename World=>wz;have HN:Hid (Below w.heap.size w (wz.drewN nq)):=HB.out.1.trans ⟨rfl,rfl,rfl,Nat.le_refl _,fun _ _=>rfl⟩;go_wp2_with fail
    go_ret
    exact ⟨ret_bool HE.out,HN.out⟩
  ·obtain rfl:k=1:=by omega
   have HE:Hid (true=r):=by show true=r;rw [<- HR.out];simp [HB.out.2 rfl]
   go_wp2_with fail
   go_ret
   exact ⟨ret_bool HE.out,HB.out.1⟩
end Go.Proofs.YtcmlnemokckbdaaGreatDoor.L8.El
namespace Go.Proofs.YtcmlnemokckbdaaGreatDoor.L8.El
open Go.ChangeShapes Go.WideShapes Go.ChangeAt Go.RowKit
open YtcmlnemokckbdaaGreatDoor.L8.Op YtcmlnemokckbdaaGreatDoor.L8.Fl
def laB (ps:List Bk) (x:Bk) (k:Int):Bool:=decide (x.fin=1) && !decide (x.thn=0) && !decide (x.thn=x.els) && !decide (x.thn=k)&&decide (aheadL ps x.thn=[k])
theorem aheadL_len (ps:List Bk) (block:Int) (h:ps.length<=4096):(aheadL ps block).length<=1099511627776:=by
 unfold aheadL
 split
 ·have:=aheadTo_len ps block ps.length;omega
 ·simp
structure Le (w W:World) (v:Value) (x:Bk) (p:Pl):Prop where
 g:At W w.heap.size #[v]
 b:At W (w.heap.size+1) (x.cells p)
 up:Below w.heap.size w W
theorem Le.next {w W W':World} {v:Value} {x:Bk} {p:Pl} (h:Le w W v x p) (g:Below W.heap.size W W'):Le w W' v x p:=⟨h.g.below g h.g.lt,h.b.below g h.b.lt,h.up.trans (g.mono h.up.size)⟩
theorem le_new (w:World) (v:Value) (x:Bk) (p:Pl):Le w ((w.alloc (.cells #[v] 40)).alloc (.cells (x.cells p) 25)) v x p:=by
 have h2:=At.new (w.alloc (.cells #[v] 40)) (x.cells p) 25;rw [show (w.alloc (.cells #[v] 40)).heap.size=w.heap.size+1 by simp] at h2;exact ⟨(At.new w #[v] 40).alloc _,h2,by go_grown⟩
theorem leads_any (ao:Option Addr) (cap:Nat) (ps:List Bk) (k:Nat) (hk:k<ps.length) (w:World) (h:PAt w ao ps) (he:Env w) (hle:ps.length<=4096) :
  Calls Tryz.prog 31 #[.agg #[.slice ao ps.length cap],.int .i64 k] w fun e w'=>e=.returned (.bool (laB ps ps[k] k))/\Below w.heap.size w w':=by
 obtain ⟨b,f,rfl,hlt,hx⟩:=h.is (by omega);obtain ⟨p,⟨q0,q1,q2,q3,q4,q5⟩,hbi⟩:=hx k hk;have HA:Hid (∀ W,Below w.heap.size w W->Calls Tryz.prog 55 #[.agg #[.slice (some ⟨b,f,none⟩) ps.length cap],.int .i64 ps[k].thn] W fun e w'=>∃ v,e=.returned v/\Got W w' v (aheadL ps ps[k].thn)):=fun W hb=>ahead_any _ cap ps _ W (h.below hb) (he.below hb he.big);have k0:(0:Int)<=(k:Int):=by omega
 have k1:(k:Int)<(ps.length:Int):=by omega
 have kl:(ps.length:Int)<=4096:=by omega
 obtain ⟨r,hr⟩:∃ r,laB ps ps[k] k=r:=⟨_,rfl⟩;have HR:Hid (laB ps ps[k] k=r):=hr;rw [hr];clear hr hbi hx h he;generalize ps[k]=x at *;have HS:Hid (Le w ((w.alloc (.cells #[.slice (some ⟨b,f,none⟩) ps.length cap] 40)).alloc (.cells (x.cells p) 25)) (.slice (some ⟨b,f,none⟩) ps.length cap) x p):=le_new w _ x p;have hall:=aheadL_len ps x.thn hle;generalize hal:aheadL ps x.thn=al at *;have HR2:Hid ((decide (x.fin=1) && !decide (x.thn=0) && !decide (x.thn=x.els) && !decide (x.thn=(k:Int))&&decide (al=[(k:Int)]))=r):=by
  have:=HR.out
  unfold laB at this
  rwa [hal] at this
 clear HR hal;go_enter Tryz.func31,Tryz.ntmps31;go_upto_region 2 with fail
 generalize (w.alloc (.cells #[.slice (some ⟨b,f,none⟩) ps.length cap] 40)).alloc (.cells (x.cells p) 25)=W0 at *;clear q0 q1 q2 q3 q4 q5 hlt;have e1:=HS.out.b.c 1 _ rfl;have e4:=HS.out.b.c 4 _ rfl;have e5:=HS.out.b.c 5 _ rfl;have el:=HS.out.b.lt;have g0:=HS.out.g.c 0 _ rfl;have gl:=HS.out.g.lt
 by_cases c1:x.fin=1
 ·by_cases c2:x.thn=0
  ·have HE:Hid (false=r):=by show false=r;rw [<- HR2.out];simp [c2]
   obtain ⟨ops,fin,xa,body,thn,els⟩:=x;simp only at c1 c2
   subst c1 c2;clear HA HR2;go_wp2_with fail
   go_ret
   exact ⟨ret_bool HE.out,HS.out.up⟩
  ·by_cases c3:x.thn=x.els
   ·have HE:Hid (false=r):=by show false=r;rw [<- HR2.out];simp [c3]
    obtain ⟨ops,fin,xa,body,thn,els⟩:=x;simp only at c1 c2 c3
    subst c1 c3;have d2:(thn==0)=false:=by simpa using c2
    clear HA HR2;go_wp2_with fail
    go_ret
    exact ⟨ret_bool HE.out,HS.out.up⟩
   ·by_cases c4:x.thn=(k:Int)
    ·have HE:Hid (false=r):=by show false=r;rw [<- HR2.out];simp [c4]
     obtain ⟨ops,fin,xa,body,thn,els⟩:=x;simp only at c1 c2 c3 c4
     subst c1;have d2:(thn==0)=false:=by simpa using c2
     have d3:(thn==els)=false:=by simpa using c3
     have d4:(thn==(k:Int))=true:=by simpa using c4
     clear HA HR2 c4;go_wp2_with fail
     go_ret
     exact ⟨ret_bool HE.out,HS.out.up⟩
    ·have HE:Hid (decide (al=[(k:Int)])=r):=by show _=r;rw [<- HR2.out];simp [c1,c2,c3,c4]
     obtain ⟨ops,fin,xa,body,thn,els⟩:=x;simp only at c1 c2 c3 c4
     subst c1;have d2:(thn==0)=false:=by simpa using c2
     have d3:(thn==els)=false:=by simpa using c3
     have d4:(thn==(k:Int))=false:=by simpa using c4
     clear HR2 c2 c3 c4;dsimp only at HA;have HK:Hid (∀ W,Le w W (.slice (some ⟨b,f,none⟩) ps.length cap) ⟨ops,1,xa,body,thn,els⟩ p->Below w.heap.size w (W.alloc (.cells #[.int .i64 (k:Int)] 3))):=fun W hb=>hb.up.alloc hb.up.size _
     by_cases hl:al.length=1
     ·obtain ⟨v0,rfl⟩:∃ v0,al=[v0]:=List.length_eq_one_iff.1 hl;have HE2:Hid (decide (v0=(k:Int))=r):=by show _=r;rw [<- HE.out];simp
      clear HE hl;go_wp2_with (first
       | (go_at_call 55;refine Calls.mono (HA.out _ HS.out.up) ?_;rintro e w1 ⟨v,rfl,aa,ac,rfl,hI,hb1⟩;have HX:Hid (Le w w1 (.slice (some ⟨b,f,none⟩) ps.length cap) ⟨ops,1,xa,body,thn,els⟩ p):=HS.out.next hb1;obtain ⟨ab,hab,_,hal,hac⟩:=hI.is (by simp);subst hab;have HC:Hid (w1.cell? ⟨ab,0,none⟩=some (.int .i64 v0)/\ab<w1.heap.size):=⟨hac 0 (by simp),hal⟩;clear hb1 hI hal hac HS HA e1 e4 e5 el g0 gl)
       | (go_at_call 58;refine Calls.mono (equal_one ab w1.heap.size ac 1 v0 (k:Int) (w1.alloc (.cells #[.int .i64 (k:Int)] 3)) (by rw [(bcell ((Below.refl w1.heap.size w1).alloc (Nat.le_refl _) _)).1 _ _ HC.out.2];exact HC.out.1) (by have:=HC.out.2;simp;omega) ((At.new w1 #[.int .i64 (k:Int)] 3).c 0 _ rfl) (by simp)) ?_;rintro e w2 ⟨rfl,hb2⟩;have HY:Hid (Below w.heap.size w w2):=(HK.out _ HX.out).trans (hb2.mono (HK.out _ HX.out).size);clear hb2 HX))
      go_ret
      exact ⟨ret_bool HE2.out,HY.out⟩
     ·have HE2:Hid (false=r):=by
       show false=r;rw [<- HE.out]
       symm
       refine decide_eq_false fun e=>hl (by rw [e];rfl)
      clear HE;go_wp2_with (first
       | (go_at_call 55;refine Calls.mono (HA.out _ HS.out.up) ?_;rintro e w1 ⟨v,rfl,aa,ac,rfl,hI,hb1⟩;have HX:Hid (Le w w1 (.slice (some ⟨b,f,none⟩) ps.length cap) ⟨ops,1,xa,body,thn,els⟩ p):=HS.out.next hb1;clear hb1 hI HS HA e1 e4 e5 el g0 gl)
       | (go_at_call 58;refine Calls.mono (equal_no aa (some ⟨w1.heap.size,0,none⟩) al.length ac 1 _ hl hall) ?_;rintro e w2 ⟨rfl,hw2⟩;subst w2;have HY:Hid (Below w.heap.size w (w1.alloc (.cells #[.int .i64 (k:Int)] 3))):=HK.out _ HX.out;clear HX))
      go_ret
      exact ⟨ret_bool HE2.out,HY.out⟩
 ·have HE:Hid (false=r):=by show false=r;rw [<- HR2.out];simp [c1]
  obtain ⟨ops,fin,xa,body,thn,els⟩:=x;simp only at c1
  have d1:(fin==1)=false:=by simpa using c1
  have d1':(fin != 1)=true:=by simpa using c1
  clear HA HR2;go_wp2_with fail
  go_ret
  exact ⟨ret_bool HE.out,HS.out.up⟩
end Go.Proofs.YtcmlnemokckbdaaGreatDoor.L8.El
namespace Go.Proofs.YtcmlnemokckbdaaGreatDoor.L8.Fl
open Go.ChangeShapes Go.WideShapes Go.ChangeAt Go.RowKit
open YtcmlnemokckbdaaGreatDoor.L8.So YtcmlnemokckbdaaGreatDoor.L8.Ss YtcmlnemokckbdaaGreatDoor.L8.Op

end Go.Proofs.YtcmlnemokckbdaaGreatDoor.L8.Fl
