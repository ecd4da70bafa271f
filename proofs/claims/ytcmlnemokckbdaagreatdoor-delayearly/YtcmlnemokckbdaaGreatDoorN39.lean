/- Parts Yg Yh Yi. -/
import Derived.Test.YtcmlnemokckbdaaGreatDoorN37
import Derived.Test.YtcmlnemokckbdaaGreatDoorN24
import Derived.Test.YtcmlnemokckbdaaGreatDoorN32
import Derived.Test.YtcmlnemokckbdaaGreatDoorN38
import Derived.Test.YtcmlnemokckbdaaGreatDoorN33
import Derived.Test.YtcmlnemokckbdaaGreatDoorN00
set_option maxRecDepth 20000
set_option maxHeartbeats 8000000
namespace Go.Proofs.YtcmlnemokckbdaaGreatDoor.L8.El
open Go.ChangeShapes Go.WideShapes Go.ChangeAt Go.RowKit
open YtcmlnemokckbdaaGreatDoor.L8.Op YtcmlnemokckbdaaGreatDoor.L8.Fl YtcmlnemokckbdaaGreatDoor.L8.Li
open YtcmlnemokckbdaaGreatDoor.L8.Lv (inN pow32)
theorem rearly_out (ao:Option Addr) (cap:Nat) (ps:List Bk) (blk:Int) (w:World) (h:PAt w ao ps) (hb:ckP ps≠0\/blk<0\/ps.length<=blk) :
  Calls Tryz.prog 17 #[.agg #[.slice ao ps.length cap],.int .i64 blk] w fun e w'=>e=.returned (.slice none 0 0)/\Below w.heap.size w w':=by
 have HC:Hid (∀ W,Below w.heap.size w W->Calls Tryz.prog 33 #[.agg #[.slice ao ps.length cap]] W fun e w'=>e=.returned (.int .i64 (ckP ps))/\Below W.heap.size W w'):=fun W hb=>refCheckP_any ao cap ps W (h.below hb);have HS:Hid (Es w (w.alloc (.cells #[.slice ao ps.length cap] 40)) (.slice ao ps.length cap)):=es_new w _;have hll:=h.len;generalize ckP ps=ck at *;clear h
 by_cases hk:ck=0
 ·subst hk
  by_cases h0:blk<0
  ·clear hb;go_enter Tryz.func17,Tryz.ntmps17;go_upto_region 1 with fail
   generalize w.alloc (.cells #[.slice ao ps.length cap] 40)=W0 at *;have g0:=HS.out.g.c 0 _ rfl;have gl:=HS.out.g.lt;go_wp2_with (first|(go_at_call 33;refine Calls.mono (HC.out _ HS.out.up) ?_;rintro e w1 ⟨rfl,hb1⟩;have HX:Hid (Es w w1 (.slice ao ps.length cap)):=HS.out.next hb1;clear hb1 HS HC g0 gl;have g0:=HX.out.g.c 0 _ rfl;have gl:=HX.out.g.lt))
   go_ret
   exact ⟨rfl,HX.out.up⟩
  ·have h1:(ps.length:Int)<=blk:=by
    rcases hb with h|h|h
    ·exact absurd rfl h
    ·omega
    ·exact h
   clear hb;go_enter Tryz.func17,Tryz.ntmps17;go_upto_region 1 with fail
   generalize w.alloc (.cells #[.slice ao ps.length cap] 40)=W0 at *;have g0:=HS.out.g.c 0 _ rfl;have gl:=HS.out.g.lt;go_wp2_with (first|(go_at_call 33;refine Calls.mono (HC.out _ HS.out.up) ?_;rintro e w1 ⟨rfl,hb1⟩;have HX:Hid (Es w w1 (.slice ao ps.length cap)):=HS.out.next hb1;clear hb1 HS HC g0 gl;have g0:=HX.out.g.c 0 _ rfl;have gl:=HX.out.g.lt))
   go_ret
   exact ⟨rfl,HX.out.up⟩
 ·have hk':(ck != 0)=true:=by simpa using hk
  clear hb hk;go_enter Tryz.func17,Tryz.ntmps17;go_upto_region 1 with fail
  generalize w.alloc (.cells #[.slice ao ps.length cap] 40)=W0 at *;have g0:=HS.out.g.c 0 _ rfl;have gl:=HS.out.g.lt;go_wp2_with (first|(go_at_call 33;refine Calls.mono (HC.out _ HS.out.up) ?_;rintro e w1 ⟨rfl,hb1⟩;have HX:Hid (Es w w1 (.slice ao ps.length cap)):=HS.out.next hb1;clear hb1 HS HC g0 gl))
  go_ret
  exact ⟨rfl,HX.out.up⟩
theorem laB_no {ps:List Bk} {k:Nat} (hk:k<ps.length) (hc:ckP ps=0) (h:laB ps ps[k] k=false):ps[k].fin≠1\/(ps[k].fin=1/\(ps[k].thn=0\/ps[k].thn=ps[k].els\/ps[k].thn=k\/(ps[k].thn≠0/\ps[k].thn≠ps[k].els/\ps[k].thn≠k/\(aheadL ps ps[k].thn).length≠1))):=by
 by_cases hf:ps[k].fin=1
 ·refine .inr ⟨hf,?_⟩;obtain ⟨-,⟨b1,b2⟩,-⟩:=br_of hc (List.getElem_mem hk) hf
  by_cases h1:ps[k].thn=0
  ·exact .inl h1
  ·by_cases h2:ps[k].thn=ps[k].els
   ·exact .inr (.inl h2)
   ·by_cases h3:ps[k].thn=k
    ·exact .inr (.inr (.inl h3))
    ·refine .inr (.inr (.inr ⟨h1,h2,h3,fun h4=>?_⟩));have h5:=(ahead_one hk hc hf b1 b2).2 h4;unfold laB at h;rw [h5] at h;simp [hf,h1,h2,h3] at h
 ·exact .inl hf
theorem rearly_no (ao:Option Addr) (cap:Nat) (ps:List Bk) (k:Nat) (hk:k<ps.length) (w:World) (h:PAt w ao ps) (hc:ckP ps=0) (hla:laB ps ps[k] k=false) :
  Calls Tryz.prog 17 #[.agg #[.slice ao ps.length cap],.int .i64 k] w fun e w'=>e=.returned (.slice none 0 0)/\Below w.heap.size w w':=by
 have HC:Hid (∀ W,Below w.heap.size w W->Calls Tryz.prog 33 #[.agg #[.slice ao ps.length cap]] W fun e w'=>e=.returned (.int .i64 0)/\Below W.heap.size W w'):=fun W hb=>by
  have:=refCheckP_any ao cap ps W (h.below hb)
  rw [hc] at this;exact this
 have HS:Hid (Es w (w.alloc (.cells #[.slice ao ps.length cap] 40)) (.slice ao ps.length cap)):=es_new w _;have k0:(0:Int)<=(k:Int):=by omega
 have k1:(k:Int)<(ps.length:Int):=by omega
 have kn:¬ (k:Int)<0:=by omega
 have hd1:decide ((k:Int)<0)=false:=decide_eq_false kn;have hd2:decide (ps.length<=k)=false:=decide_eq_false (by omega);have hll:=h.len;have HA:Hid (∀ W,Below w.heap.size w W->Calls Tryz.prog 34 #[.agg #[.slice ao ps.length cap],.int .i64 ps[k].thn] W fun e w'=>∃ v,e=.returned v/\Got W w' v (aheadL ps ps[k].thn)):=fun W hb=>refAhead_any ao cap ps _ W (h.below hb);obtain ⟨pb,pf,rfl,pz,px⟩:=h.is (by omega);obtain ⟨p,hpb,hpi⟩:=px k hk;have HB1:Hid (∀ W,Below w.heap.size w W->BAt W pb (pf+k*6) ps[k] p/\pb<W.heap.size):=fun W hb=>⟨hpb.below hb pz,Nat.lt_of_lt_of_le pz hb.size⟩;have hor:=laB_no hk hc hla;have hal:(aheadL ps ps[k].thn).length<=1099511627776:=aheadL_len ps _ (by
  unfold ckP at hc
  split at hc
  ·exact absurd hc (by decide)
  ·omega)
 clear h hc hla px hpb hpi;generalize ps[k]=x at *;obtain ⟨ops,fin,xa,body,thn,els⟩:=x;simp only at hor HA HB1 hal
 generalize aheadL ps thn=al at *;rcases hor with hf|⟨hf,h1|h1|h1|h1⟩
 ·have hf':(fin != 1)=true:=by simpa using hf
  clear hf;go_enter Tryz.func17,Tryz.ntmps17;go_upto_region 1 with fail
  generalize w.alloc (.cells #[.slice (some ⟨pb,pf,none⟩) ps.length cap] 40)=W0 at *;have g0:=HS.out.g.c 0 _ rfl;have gl:=HS.out.g.lt;go_wp2_with (first|(go_at_call 33;refine Calls.mono (HC.out _ HS.out.up) ?_;rintro e w1 ⟨rfl,hb1⟩;have HX:Hid (Es w w1 (.slice (some ⟨pb,pf,none⟩) ps.length cap)):=HS.out.next hb1;clear hb1 HS HC g0 gl;have g0:=HX.out.g.c 0 _ rfl;have gl:=HX.out.g.lt;obtain ⟨q0,q1,q2,q3,q4,q5⟩:=(HB1.out w1 HX.out.up).1;have qz:=(HB1.out w1 HX.out.up).2))
  go_ret
  exact ⟨rfl,HX.out.up⟩
 ·subst hf h1;go_enter Tryz.func17,Tryz.ntmps17;go_upto_region 1 with fail
  generalize w.alloc (.cells #[.slice (some ⟨pb,pf,none⟩) ps.length cap] 40)=W0 at *;have g0:=HS.out.g.c 0 _ rfl;have gl:=HS.out.g.lt;go_wp2_with (first|(go_at_call 33;refine Calls.mono (HC.out _ HS.out.up) ?_;rintro e w1 ⟨rfl,hb1⟩;have HX:Hid (Es w w1 (.slice (some ⟨pb,pf,none⟩) ps.length cap)):=HS.out.next hb1;clear hb1 HS HC g0 gl;have g0:=HX.out.g.c 0 _ rfl;have gl:=HX.out.g.lt;obtain ⟨q0,q1,q2,q3,q4,q5⟩:=(HB1.out w1 HX.out.up).1;have qz:=(HB1.out w1 HX.out.up).2))
  go_ret
  exact ⟨rfl,HX.out.up.alloc HX.out.up.size _⟩
 ·subst hf h1
  by_cases h2:thn=0
  ·subst h2;go_enter Tryz.func17,Tryz.ntmps17;go_upto_region 1 with fail
   generalize w.alloc (.cells #[.slice (some ⟨pb,pf,none⟩) ps.length cap] 40)=W0 at *;have g0:=HS.out.g.c 0 _ rfl;have gl:=HS.out.g.lt;go_wp2_with (first|(go_at_call 33;refine Calls.mono (HC.out _ HS.out.up) ?_;rintro e w1 ⟨rfl,hb1⟩;have HX:Hid (Es w w1 (.slice (some ⟨pb,pf,none⟩) ps.length cap)):=HS.out.next hb1;clear hb1 HS HC g0 gl;have g0:=HX.out.g.c 0 _ rfl;have gl:=HX.out.g.lt;obtain ⟨q0,q1,q2,q3,q4,q5⟩:=(HB1.out w1 HX.out.up).1;have qz:=(HB1.out w1 HX.out.up).2))
   go_ret
   exact ⟨rfl,HX.out.up.alloc HX.out.up.size _⟩
  ·have h2':(thn==0)=false:=by simpa using h2
   clear h2;go_enter Tryz.func17,Tryz.ntmps17;go_upto_region 1 with fail
   generalize w.alloc (.cells #[.slice (some ⟨pb,pf,none⟩) ps.length cap] 40)=W0 at *;have g0:=HS.out.g.c 0 _ rfl;have gl:=HS.out.g.lt;go_wp2_with (first|(go_at_call 33;refine Calls.mono (HC.out _ HS.out.up) ?_;rintro e w1 ⟨rfl,hb1⟩;have HX:Hid (Es w w1 (.slice (some ⟨pb,pf,none⟩) ps.length cap)):=HS.out.next hb1;clear hb1 HS HC g0 gl;have g0:=HX.out.g.c 0 _ rfl;have gl:=HX.out.g.lt;obtain ⟨q0,q1,q2,q3,q4,q5⟩:=(HB1.out w1 HX.out.up).1;have qz:=(HB1.out w1 HX.out.up).2))
   go_ret
   exact ⟨rfl,HX.out.up.alloc HX.out.up.size _⟩
 ·subst hf h1
  by_cases h2:(k:Int)=0
  ·have h2':((k:Int)==0)=true:=by simpa using h2
   clear h2;go_enter Tryz.func17,Tryz.ntmps17;go_upto_region 1 with fail
   generalize w.alloc (.cells #[.slice (some ⟨pb,pf,none⟩) ps.length cap] 40)=W0 at *;have g0:=HS.out.g.c 0 _ rfl;have gl:=HS.out.g.lt;go_wp2_with (first|(go_at_call 33;refine Calls.mono (HC.out _ HS.out.up) ?_;rintro e w1 ⟨rfl,hb1⟩;have HX:Hid (Es w w1 (.slice (some ⟨pb,pf,none⟩) ps.length cap)):=HS.out.next hb1;clear hb1 HS HC g0 gl;have g0:=HX.out.g.c 0 _ rfl;have gl:=HX.out.g.lt;obtain ⟨q0,q1,q2,q3,q4,q5⟩:=(HB1.out w1 HX.out.up).1;have qz:=(HB1.out w1 HX.out.up).2))
   go_ret
   exact ⟨rfl,HX.out.up.alloc HX.out.up.size _⟩
  ·have h2':((k:Int)==0)=false:=by simpa using h2
   clear h2
   by_cases h3:(k:Int)=els
   ·have h3':((k:Int)==els)=true:=by simpa using h3
    clear h3;go_enter Tryz.func17,Tryz.ntmps17;go_upto_region 1 with fail
    generalize w.alloc (.cells #[.slice (some ⟨pb,pf,none⟩) ps.length cap] 40)=W0 at *;have g0:=HS.out.g.c 0 _ rfl;have gl:=HS.out.g.lt;go_wp2_with (first|(go_at_call 33;refine Calls.mono (HC.out _ HS.out.up) ?_;rintro e w1 ⟨rfl,hb1⟩;have HX:Hid (Es w w1 (.slice (some ⟨pb,pf,none⟩) ps.length cap)):=HS.out.next hb1;clear hb1 HS HC g0 gl;have g0:=HX.out.g.c 0 _ rfl;have gl:=HX.out.g.lt;obtain ⟨q0,q1,q2,q3,q4,q5⟩:=(HB1.out w1 HX.out.up).1;have qz:=(HB1.out w1 HX.out.up).2))
    go_ret
    exact ⟨rfl,HX.out.up.alloc HX.out.up.size _⟩
   ·have h3':((k:Int)==els)=false:=by simpa using h3
    clear h3;go_enter Tryz.func17,Tryz.ntmps17;go_upto_region 1 with fail
    generalize w.alloc (.cells #[.slice (some ⟨pb,pf,none⟩) ps.length cap] 40)=W0 at *;have g0:=HS.out.g.c 0 _ rfl;have gl:=HS.out.g.lt;go_wp2_with (first|(go_at_call 33;refine Calls.mono (HC.out _ HS.out.up) ?_;rintro e w1 ⟨rfl,hb1⟩;have HX:Hid (Es w w1 (.slice (some ⟨pb,pf,none⟩) ps.length cap)):=HS.out.next hb1;clear hb1 HS HC g0 gl;have g0:=HX.out.g.c 0 _ rfl;have gl:=HX.out.g.lt;obtain ⟨q0,q1,q2,q3,q4,q5⟩:=(HB1.out w1 HX.out.up).1;have qz:=(HB1.out w1 HX.out.up).2))
    go_ret
    exact ⟨rfl,HX.out.up.alloc HX.out.up.size _⟩
 ·subst hf;obtain ⟨n1,n2,n3,n4⟩:=h1;have n1':(thn==0)=false:=by simpa using n1
  have n2':(thn==els)=false:=by simpa using n2
  have n3':(thn==(k:Int))=false:=by simpa using n3
  have n4':((al.length:Int) != 1)=true:=by simp;omega
  have hali:(al.length:Int)<=1099511627776:=by omega
  clear n1 n2 n3 n4;go_enter Tryz.func17,Tryz.ntmps17;go_upto_region 1 with fail
  generalize w.alloc (.cells #[.slice (some ⟨pb,pf,none⟩) ps.length cap] 40)=W0 at *;have g0:=HS.out.g.c 0 _ rfl;have gl:=HS.out.g.lt;go_upto_region 4 with (first|(go_at_call 33;refine Calls.mono (HC.out _ HS.out.up) ?_;rintro e w1 ⟨rfl,hb1⟩;have HX:Hid (Es w w1 (.slice (some ⟨pb,pf,none⟩) ps.length cap)):=HS.out.next hb1;clear hb1 HS HC g0 gl;have g0:=HX.out.g.c 0 _ rfl;have gl:=HX.out.g.lt;obtain ⟨q0,q1,q2,q3,q4,q5⟩:=(HB1.out w1 HX.out.up).1;have qz:=(HB1.out w1 HX.out.up).2))
  have HX2:Hid (Es w (w1.alloc (.cells #[.slice p.oa ops.length p.oc,.int .i8 1,.int .u8 xa,.slice p.ba body.length p.bc,.int .i64 thn,.int .i64 els] 25)) (.slice (some ⟨pb,pf,none⟩) ps.length cap)/\At (w1.alloc (.cells #[.slice p.oa ops.length p.oc,.int .i8 1,.int .u8 xa,.slice p.ba body.length p.bc,.int .i64 thn,.int .i64 els] 25)) w1.heap.size #[.slice p.oa ops.length p.oc,.int .i8 1,.int .u8 xa,.slice p.ba body.length p.bc,.int .i64 thn,.int .i64 els]):=⟨HX.out.next ((Below.refl _ _).alloc (Nat.le_refl _) _),At.new _ _ _⟩;generalize w1.alloc (.cells #[.slice p.oa ops.length p.oc,.int .i8 1,.int .u8 xa,.slice p.ba body.length p.bc,.int .i64 thn,.int .i64 els] 25)=X at *;generalize w1.heap.size=xb at *;clear g0 gl q0 q1 q2 q3 q4 q5 qz HX;have g0:=HX2.out.1.g.c 0 _ rfl;have gl:=HX2.out.1.g.lt;have e4:=HX2.out.2.c 4 _ rfl;have e5:=HX2.out.2.c 5 _ rfl;have el:=HX2.out.2.lt;go_wp2_with (first|(go_at_call 34;refine Calls.mono (HA.out _ HX2.out.1.up) ?_;rintro e w3 ⟨v,rfl,a3,c3,rfl,-,hb3⟩;have HX3:Hid (Below w.heap.size w w3):=HX2.out.1.up.trans (hb3.mono HX2.out.1.up.size);clear hb3))
  go_ret
  exact ⟨rfl,HX3.out⟩
theorem laB_yes {ps:List Bk} {x:Bk} {k:Int} (h:laB ps x k=true):x.fin=1/\x.thn≠0/\x.thn≠x.els/\x.thn≠k/\(aheadL ps x.thn).length=1:=by
 unfold laB at h;simp only [Bool.and_eq_true,decide_eq_true_eq,Bool.not_eq_true',decide_eq_false_iff_not] at h;obtain ⟨⟨⟨⟨h1,h2⟩,h3⟩,h4⟩,h5⟩:=h;exact ⟨h1,h2,h3,h4,by rw [h5];rfl⟩
theorem xor_all (I:Nat) (hI:I<4294967296):∃ D:Nat,bits BinOp.xor IntKind.u32 (if IntKind.u32.signed=true then -1 else IntKind.u32.max) (I:Int)=(D:Int)/\D<4294967296/\∀ d,d<32->D.testBit d = !I.testBit d:=by
 refine ⟨4294967295 ^^^ I,u32_xor_nat 4294967295 I (by decide) hI,?_,fun d hd=>?_⟩
 ·have:4294967295 ^^^ I<2^32:=Nat.xor_lt_two_pow (by decide) (by omega)
  omega
 ·rw [Nat.testBit_xor,show (4294967295:Nat)=2^32-1 from rfl,Nat.testBit_two_pow_sub_one];simp [hd]
theorem bit_odd (D d:Nat):(D / 2^d%2=0)↔D.testBit d=false:=by
 rw [Nat.testBit_eq_decide_div_mod_eq];simp
structure Ez (w W:World) (v:Value) (xb:Nat) (cs:Array Value) (a:Option Addr) (c j:Nat):Prop where
 e:Ey w W v a c j
 r:W.ownsRow (xb+1) 3 1 (.slice a j c) j ((List.range j).map fun (i:Nat)=>Value.int .i64 (i:Int))
 b:At W xb cs
 lt:w.heap.size<xb
theorem Ez.next {w W W':World} {v:Value} {xb:Nat} {cs:Array Value} {a:Option Addr} {c j:Nat} (h:Ez w W v xb cs a c j) (g:Below W.heap.size W W'):Ez w W' v xb cs a c j:=⟨h.e.next g,row_upE h.r g,h.b.below g h.b.lt,h.lt⟩
theorem row_less {w:World} {B C:Nat} {e:TypeId} {z:Nat} {v:Value} {n:Nat} {xs:List Value} (h:w.ownsRow B e z v n xs) (hb:C<=B):w.ownsRow C e z v n xs:=by
 refine ⟨h.1,h.2.imp id ?_⟩;rintro ⟨b,cap,cur,rfl,h2,h3,h4⟩;exact ⟨b,cap,cur,rfl,by omega,h3,h4⟩
theorem Ez.add {w X w4:World} {v:Value} {xb:Nat} {cs:Array Value} {a:Option Addr} {c g cap j:Nat} {o:Obj} (s:Ez w X v xb cs a c j) (hgrow:(X.alloc o).grownBy w4 (Value.slice a j c).ownBlock) (hown:w4.ownsRow (xb+1) 3 1 (.slice (some ⟨g,0,none⟩) (j+1) cap) (j+1) (((List.range j).map fun (i:Nat)=>Value.int .i64 (i:Int))++[.int .i64 (j:Int)])):Ez w w4 v xb cs (some ⟨g,0,none⟩) cap (j+1):=by
 have n2:=s.next ((Below.refl _ _).alloc (Nat.le_refl _) o);have hl:=n2.b.lt;have hlt:=s.lt;have B:Below (xb+1) (X.alloc o) w4:=⟨hgrow.os,hgrow.tape,hgrow.output,hgrow.size,fun k hk=>hgrow.block k (Nat.lt_of_lt_of_le hk hl) fun e=>by
  have:=(n2.r.lt k e.symm).1
  omega⟩
 refine ⟨n2.e.add hgrow (row_less hown (by omega)),?_,n2.b.below B (by omega),s.lt⟩;rw [List.range_succ,List.map_append];exact hown
theorem rearly_some (IL:List Nat) (ao:Option Addr) (cap:Nat) (ps:List Bk) (k:Nat) (hk:k<ps.length) (w:World) (hIL:InIs ps IL) (h:PAt w ao ps) (hc:ckP ps=0) (hla:laB ps ps[k] k=true) :
  Calls Tryz.prog 17 #[.agg #[.slice ao ps.length cap],.int .i64 k] w fun e w'=>∃ v,e=.returned v/\Got w w' v (earL ps IL k ps[k]):=by
 have HC:Hid (∀ W,Below w.heap.size w W->Calls Tryz.prog 33 #[.agg #[.slice ao ps.length cap]] W fun e w'=>e=.returned (.int .i64 0)/\Below W.heap.size W w'):=fun W hb=>by
  have:=refCheckP_any ao cap ps W (h.below hb)
  rw [hc] at this;exact this
 have HS:Hid (Es w (w.alloc (.cells #[.slice ao ps.length cap] 40)) (.slice ao ps.length cap)):=es_new w _;have k0:(0:Int)<=(k:Int):=by omega
 have k1:(k:Int)<(ps.length:Int):=by omega
 have kn:¬ (k:Int)<0:=by omega
 have hd1:decide ((k:Int)<0)=false:=decide_eq_false kn;have hd2:decide (ps.length<=k)=false:=decide_eq_false (by omega);have hll:=h.len;have HA:Hid (∀ W,Below w.heap.size w W->Calls Tryz.prog 34 #[.agg #[.slice ao ps.length cap],.int .i64 ps[k].thn] W fun e w'=>∃ v,e=.returned v/\Got W w' v (aheadL ps ps[k].thn)):=fun W hb=>refAhead_any ao cap ps _ W (h.below hb);obtain ⟨pb,pf,rfl,pz,px⟩:=h.is (by omega);obtain ⟨p,hpb,hpi⟩:=px k hk;have HB1:Hid (∀ W,Below w.heap.size w W->BAt W pb (pf+k*6) ps[k] p/\pb<W.heap.size):=fun W hb=>⟨hpb.below hb pz,Nat.lt_of_lt_of_le pz hb.size⟩;have HIn:Hid (∀ W,Below w.heap.size w W->Calls Tryz.prog 35 #[.agg #[.slice (some ⟨pb,pf,none⟩) ps.length cap]] W fun e w'=>∃ a c,e=.returned (.slice a ps.length c)/\Ul w' a IL/\(∀ t,inN IL t<4294967296)/\IL.length=ps.length/\Below W.heap.size W w'):=fun W hb=>(refIn_is IL _ cap ps W hIL (h.below hb)).mono fun e w' ⟨a,c,h1,h2,h3,h4⟩=>by
  have hl:IL.length=ps.length:=by rw [h3.len,if_pos hc]
  exact ⟨a,c,by rw [h1,hl],h2,(h3.yes hc).1.fit,hl,h4⟩
 obtain ⟨hfin,l1,l2,l3,l4⟩:=laB_yes hla;have HE:Hid (earL ps IL k ps[k]=(List.range (erN (kpN IL ps[k]) (ps.getD ps[k].thn.toNat bk0).ops)).map fun (i:Nat)=>(i:Int)):=(by unfold earL;rw [hla];rfl:earL ps IL k ps[k]=(List.range (erN (kpN IL ps[k]) (ps.getD ps[k].thn.toNat bk0).ops)).map fun (i:Nat)=>(i:Int));obtain ⟨b1,b2,b3⟩:=br_of hc (List.getElem_mem hk) hfin;have ha0:=hpi.ok.a0;obtain ⟨TH,hTH⟩:∃ TH:Nat,ps[k].thn=TH:=⟨ps[k].thn.toNat,by omega⟩;obtain ⟨EL,hEL⟩:∃ EL:Nat,ps[k].els=EL:=⟨ps[k].els.toNat,by omega⟩;obtain ⟨AA,hAA⟩:∃ AA:Nat,ps[k].a=AA:=⟨ps[k].a.toNat,by omega⟩;have hTl:TH<ps.length:=by omega
 have hEl:EL<ps.length:=by omega
 have hAl:AA<32:=by omega
 obtain ⟨p2,hpb2,hpi2⟩:=px TH hTl;have he2:earL ps IL k ps[k]=(List.range (erN (inN IL EL ||| 2^AA) ps[TH].ops)).map fun (i:Nat)=>(i:Int):=by
  have:=HE.out
  unfold kpN at this;rw [hTH,hEL,hAA] at this;simpa [List.getD_eq_getElem?_getD,hTl] using this
 rw [he2];have HB2:Hid (∀ W,Below w.heap.size w W->(W.cell? ⟨pb,pf+k*6,none⟩=some (.slice p.oa ps[k].ops.length p.oc)/\W.cell? ⟨pb,pf+k*6+1,none⟩=some (.int .i8 1)/\W.cell? ⟨pb,pf+k*6+2,none⟩=some (.int .u8 AA)/\W.cell? ⟨pb,pf+k*6+3,none⟩=some (.slice p.ba ps[k].body.length p.bc)/\W.cell? ⟨pb,pf+k*6+4,none⟩=some (.int .i64 TH)/\W.cell? ⟨pb,pf+k*6+5,none⟩=some (.int .i64 EL))/\W.cell? ⟨pb,pf+TH*6,none⟩=some (.slice p2.oa ps[TH].ops.length p2.oc)/\OpsAt W p2.oa ps[TH].ops/\pb<W.heap.size):=fun W hb=>by
  have h1:=hpb.below hb pz;have h2:=hpb2.below hb pz;refine ⟨⟨h1.c0,?_,?_,h1.c3,?_,?_⟩,h2.c0,hpi2.o.below hb,Nat.lt_of_lt_of_le pz hb.size⟩
  ·rw [<- hfin];exact h1.c1
  ·rw [<- hAA];exact h1.c2
  ·rw [<- hTH];exact h1.c4
  ·rw [<- hEL];exact h1.c5
 have HOd:Hid (∀ o∈ps[TH].ops,o.Ok/\o.d<32/\okP o=true):=fun o ho=>⟨hpi2.o.ok o ho,ops_d hc (List.getElem_mem hTl) ho,List.all_eq_true.1 (ckB_parts (ck_all hc _ (List.getElem_mem hTl))).1 o ho⟩;have hol:=hpi2.o.len;rw [hTH] at HA l1 l2 l3 l4;rw [hEL] at l2;have n1':((TH:Int)==0)=false:=by simpa using l1
 have n2':((TH:Int)==(EL:Int))=false:=by simpa using l2
 have n3':((TH:Int)==(k:Int))=false:=by simpa using l3
 have n4':(((aheadL ps (TH:Int)).length:Int) != 1)=false:=by rw [l4];rfl
 have HAl:Hid ((aheadL ps (TH:Int)).length=1):=l4;obtain ⟨R,hR⟩:∃ R,((List.range (erN (inN IL EL ||| 2^AA) ps[TH].ops)).map fun (i:Nat)=>(i:Int))=R:=⟨_,rfl⟩;rw [hR];have HR0:Hid (((List.range (erN (inN IL EL ||| 2^AA) ps[TH].ops)).map fun (i:Nat)=>(i:Int))=R):=hR;clear hR HE he2 h hc hla px hpb hpi hpb2 hpi2 b1 b2 b3 ha0 HB1 hTH hEL hAA hfin l1 l2 l3 l4;generalize ps[k].ops.length=n1 at *;generalize ps[k].body.length=n2 at *;generalize ps[TH].ops=xs at *;generalize aheadL ps (TH:Int)=al at *;have el0:(0:Int)<=(EL:Int):=by omega
 have el1:(EL:Int)<(ps.length:Int):=by omega
 have th0:(0:Int)<=(TH:Int):=by omega
 have th1:(TH:Int)<(ps.length:Int):=by omega
 go_enter Tryz.func17,Tryz.ntmps17;go_upto_region 1 with fail
 generalize w.alloc (.cells #[.slice (some ⟨pb,pf,none⟩) ps.length cap] 40)=W0 at *;have g0:=HS.out.g.c 0 _ rfl;have gl:=HS.out.g.lt;go_upto_region 4 with (first|(go_at_call 33;refine Calls.mono (HC.out _ HS.out.up) ?_;rintro e w1 ⟨rfl,hb1⟩;have HX:Hid (Es w w1 (.slice (some ⟨pb,pf,none⟩) ps.length cap)):=HS.out.next hb1;clear hb1 HS HC g0 gl;have g0:=HX.out.g.c 0 _ rfl;have gl:=HX.out.g.lt;obtain ⟨⟨q0,q1,q2,q3,q4,q5⟩,-,-,qz⟩:=HB2.out w1 HX.out.up))
 have HX2:Hid (Es w (w1.alloc (.cells #[.slice p.oa n1 p.oc,.int .i8 1,.int .u8 AA,.slice p.ba n2 p.bc,.int .i64 TH,.int .i64 EL] 25)) (.slice (some ⟨pb,pf,none⟩) ps.length cap)/\At (w1.alloc (.cells #[.slice p.oa n1 p.oc,.int .i8 1,.int .u8 AA,.slice p.ba n2 p.bc,.int .i64 TH,.int .i64 EL] 25)) w1.heap.size #[.slice p.oa n1 p.oc,.int .i8 1,.int .u8 AA,.slice p.ba n2 p.bc,.int .i64 TH,.int .i64 EL]/\w.heap.size<w1.heap.size):=⟨HX.out.next ((Below.refl _ _).alloc (Nat.le_refl _) _),At.new _ _ _,HX.out.g.lt⟩;generalize w1.alloc (.cells #[.slice p.oa n1 p.oc,.int .i8 1,.int .u8 AA,.slice p.ba n2 p.bc,.int .i64 TH,.int .i64 EL] 25)=X at *;generalize w1.heap.size=xb at *;clear g0 gl q0 q1 q2 q3 q4 q5 qz HX;have g0:=HX2.out.1.g.c 0 _ rfl;have gl:=HX2.out.1.g.lt;have e4:=HX2.out.2.1.c 4 _ rfl;have e5:=HX2.out.2.1.c 5 _ rfl;have el:=HX2.out.2.1.lt;go_upto_region 6 with (first|(go_at_call 34;refine Calls.mono (HA.out _ HX2.out.1.up) ?_;rintro e w3 ⟨v,rfl,a3,c3,rfl,-,hb3⟩;have HX3:Hid (Es w w3 (.slice (some ⟨pb,pf,none⟩) ps.length cap)/\At w3 xb #[.slice p.oa n1 p.oc,.int .i8 1,.int .u8 AA,.slice p.ba n2 p.bc,.int .i64 TH,.int .i64 EL]/\w.heap.size<xb):=⟨HX2.out.1.next hb3,HX2.out.2.1.below hb3 HX2.out.2.1.lt,HX2.out.2.2⟩;clear hb3))
 have HX3d:Hid (Es w w3.drew (.slice (some ⟨pb,pf,none⟩) ps.length cap)/\At w3.drew xb #[.slice p.oa n1 p.oc,.int .i8 1,.int .u8 AA,.slice p.ba n2 p.bc,.int .i64 TH,.int .i64 EL]):=⟨HX3.out.1.next (Below.refl _ _).drew,HX3.out.2.1.below (Below.refl _ _).drew HX3.out.2.1.lt⟩;have hxl:=HX3.out.2.2;clear g0 gl e4 e5 el HX2 HX3;refine wp_region_held_drew (S:=fun W'=>At W' w.heap.size #[.slice (some ⟨pb,pf,none⟩) ps.length cap]/\At W' xb #[.slice p.oa n1 p.oc,.int .i8 1,.int .u8 AA,.slice p.ba n2 p.bc,.int .i64 TH,.int .i64 EL]) (by kernel_rfl) ⟨HX3d.out.1.g,HX3d.out.2⟩ (fun zH=>?_);generalize w3.drew=XD at *;refine wt 0 (.agg #[.slice (some ⟨pb,pf,none⟩) ps.length cap]) rfl (fun w' hSw=>by (have g0:=hSw.1.c 0 _ rfl;have gl:=hSw.1.lt;clear hSw;go_simp)) zH ?_;simp only [pq];refine wg 2 (.pointer (some ⟨xb,5,none⟩)) rfl zH ?_;simp only [pq];refine wt 3 (.int .i64 (EL:Int)) rfl (fun w' hSw=>by (have e5:=hSw.2.c 5 _ rfl;have el:=hSw.2.lt;clear hSw;go_simp)) zH ?_;simp only [pq];refine wpAnyH_ready (rs:=[1]) (by kernel_rfl) (by simp) ?_;refine AllReadyH.cons rfl (fun K hK=>?_) AllReadyH.nil;go_simp
 refine Calls.mono (HIn.out _ HX3d.out.1.up) ?_;rintro e w4 ⟨ia,ic,rfl,hu4,hf4,hn4,hb4⟩;have HX4:Hid (Es w w4 (.slice (some ⟨pb,pf,none⟩) ps.length cap)/\At w4 xb #[.slice p.oa n1 p.oc,.int .i8 1,.int .u8 AA,.slice p.ba n2 p.bc,.int .i64 TH,.int .i64 EL]/\Ul w4 ia IL/\IL.length=ps.length):=⟨HX3d.out.1.next hb4,HX3d.out.2.below hb4 HX3d.out.2.lt,hu4,hn4⟩;have h32:=hf4 EL;clear hu4 hf4 hn4 hb4;refine hK.out _ _ ⟨HX4.out.1.g,HX4.out.2.1⟩ (fun zH=>?_);clear hK K;have hln:=HX4.out.2.2.2;obtain ⟨ib,rfl,il,-⟩:=HX4.out.2.2.1.is (by omega);have ic':=HX4.out.2.2.1.at (t:=EL) (by omega);generalize inN IL EL=IE at *;obtain ⟨DN,hxor,hDN,hDb⟩:=xor_all IE h32;have HDb:Hid (∀ d,d<32->DN.testBit d = !IE.testBit d):=hDb;clear hDb;refine wg 4 (.pointer (some ⟨ib,EL,none⟩)) rfl zH ?_;simp only [pq];refine wpAnyH_ready (rs:=[5]) (by kernel_rfl) (by simp) ?_;refine AllReadyH.cons rfl (fun K hK=>?_) AllReadyH.nil;go_simp
 refine hK.out _ _ ⟨HX4.out.1.g,HX4.out.2.1⟩ (fun zH=>?_);clear hK K;refine wg 6 (.int .u32 (DN:Int)) rfl zH ?_;simp only [pq];refine wg 7 (.int .u32 (DN:Int)) rfl zH ?_;simp only [pq];refine wpAnyH_done (by kernel_rfl) ?_ _;clear zH ic' il hxor;have e4:=HX4.out.2.1.c 4 _ rfl;have el:=HX4.out.2.1.lt;have g0:=HX4.out.1.g.c 0 _ rfl;have gl:=HX4.out.1.g.lt;obtain ⟨-,q6,-,qz⟩:=HB2.out w4 HX4.out.1.up;have HEz:Hid (Ez w w4 (.slice (some ⟨pb,pf,none⟩) ps.length cap) xb #[.slice p.oa n1 p.oc,.int .i8 1,.int .u8 AA,.slice p.ba n2 p.bc,.int .i64 TH,.int .i64 EL] none 0 0):=⟨Ey.start HX4.out.1,⟨rfl,.inl ⟨rfl,rfl⟩⟩,HX4.out.2.1,hxl⟩;obtain ⟨i0,hi,hi2⟩:=Option.map_eq_some_iff.1 info3e;simp only [Prod.mk.injEq] at hi2;obtain ⟨hz0,hz1,hz2⟩:=hi2;have HI3:Hid (Tryz.prog.info? 3=some i0/\i0.zero=some (.int .i64 0)/\i0.size=1/\i0.bytes=8):=⟨hi,hz0,hz1,hz2⟩;clear hi hz0 hz1 hz2;go_upto_region 10 with fail
 clear e4 el g0 gl q6 qz HX4
 go_loopw [8,9] (fun l v wr=>∃ (j c:Nat) (a:Option Addr),j<=min xs.length 2/\v=.int .i64 j/\l=.slice a j c/\(∀ i (h:i<xs.length),i<j->hmB (IE ||| 2^AA) xs[i]=true)/\Ez w wr (.slice (some ⟨pb,pf,none⟩) ps.length cap) xb #[.slice p.oa n1 p.oc,.int .i8 1,.int .u8 AA,.slice p.ba n2 p.bc,.int .i64 TH,.int .i64 EL] a c j) (fun _ v _=>min xs.length 2-(intOf v).toNat)
 case atStart=>exact ⟨0,0,none,by omega,rfl,rfl,fun i _ hi=>absurd hi (by omega),HEz.out⟩
 case round=>
  rename World=>wr;obtain ⟨j,c1,a1,hj,rfl,rfl,h1,h2⟩:=hrel;have HQ:Hid ((∀ i (h:i<xs.length),i<j->hmB (IE ||| 2^AA) xs[i]=true)/\Ez w wr (.slice (some ⟨pb,pf,none⟩) ps.length cap) xb #[.slice p.oa n1 p.oc,.int .i8 1,.int .u8 AA,.slice p.ba n2 p.bc,.int .i64 TH,.int .i64 EL] a1 c1 j):=⟨h1,h2⟩;clear h1 h2 HEz
  by_cases hlt:j<min xs.length 2
  ·have j0:(0:Int)<=(j:Int):=by omega
   have j1:(j:Int)<(xs.length:Int):=by omega
   have j2:(j:Int)<2:=by omega
   have hjx:j<xs.length:=by omega
   obtain ⟨-,-,hO,-⟩:=HB2.out wr HQ.out.2.e.up;obtain ⟨ob,of,hoa,oz,ox⟩:=hO.is (by omega);rw [hoa];obtain ⟨q0,q1,q2,q3,q4⟩:=ox j hjx;have HOx:Hid (∀ W,Below wr.heap.size wr W->OAt W ob (of+j*5) xs[j]/\ob<W.heap.size):=fun W g=>⟨(ox j hjx).below g oz,Nat.lt_of_lt_of_le oz g.size⟩;obtain ⟨ok1,ok2,ok3⟩:=HOd.out _ (List.getElem_mem hjx);have HWr:Hid (∀ W,Calls Tryz.prog 36 #[xs[j].val] W fun e w'=>e=.returned (.tuple #[.int .u8 (wrD xs[j]),.bool (wrB xs[j])])/\Below W.heap.size W w'):=fun W=>refWrites_any _ W ok1;have HSt:Hid (hmB (IE ||| 2^AA) xs[j]=false->erN (IE ||| 2^AA) xs=j):=fun e=>erN_stop hjx (by omega) HQ.out.1 e;have HGo:Hid (hmB (IE ||| 2^AA) xs[j]=true->∀ i (h:i<xs.length),i<j+1->hmB (IE ||| 2^AA) xs[i]=true):=fun e i h hij=>by
    by_cases e':i=j
    ·subst e';exact e
    ·exact HQ.out.1 i h (by omega)
   have HRm:Hid (hmB (IE ||| 2^AA) xs[j]=rmB IE AA xs[j]):=hm_eq h32 hAl ok1.d0 ok2;have HWo:Hid (xs[j].op<=12->wrB xs[j]=true/\wrD xs[j]=xs[j].d):=fun h=>wr_op ok3 h;have d0:=ok1.d0;clear ox hO ok1 ok3;generalize xs[j]=o at *;have HQ2:Hid (∀ W,Below wr.heap.size wr W->Ez w W (.slice (some ⟨pb,pf,none⟩) ps.length cap) xb #[.slice p.oa n1 p.oc,.int .i8 1,.int .u8 AA,.slice p.ba n2 p.bc,.int .i64 TH,.int .i64 EL] a1 c1 j):=fun W g=>HQ.out.2.next g
   by_cases h12:o.op<=12
   ·obtain ⟨wb,wd⟩:=HWo.out h12;rw [wb,wd] at HWr;obtain ⟨dn,hdn⟩:=Int.eq_ofNat_of_zero_le d0;have hd32:dn<32:=by omega
    have hrm:rmB IE AA o=(!(dn==AA) && !IE.testBit dn):=by unfold rmB;rw [hdn];simp [h12]
    have HRm2:Hid (hmB (IE ||| 2^AA) o=(!(dn==AA) && !IE.testBit dn)):=HRm.out.trans hrm;rw [hdn] at HWr;clear hrm HRm HWo wb wd;have h12':¬ (12:Int)<o.op:=by omega
    have hdd:decide ((12:Int)<o.op)=false:=decide_eq_false h12';clear hdn d0 ok2 h12 zH;have sh0:(0:Int)<=(dn:Int):=by omega
    have sh1:(dn:Int)<32:=by omega
    have hAnd:bits BinOp.and IntKind.u32 ((DN:Int) / 2^dn) 1=((DN / 2^dn%2:Nat):Int):=by
     have e1:(DN:Int) / 2^dn=((DN / 2^dn:Nat):Int):=by simp
     have hle:DN / 2^dn<=DN:=Nat.div_le_self _ _;have e2:=u32_and_nat (DN / 2^dn) 1 (by omega) (by decide);rw [Nat.and_one_is_mod] at e2;rw [e1];exact e2
    by_cases hda:dn=AA
    ·have hE:=HSt.out (by rw [HRm2.out];simp [hda])
     replace hda:=hda.symm
     subst hda;clear HSt HGo HRm2 hAnd;go_wp2_with (first
      | (go_at_call 36;refine Calls.mono (HWr.out _) ?_;rintro e w5 ⟨rfl,hb5⟩;have HZ5:Hid (Ez w w5 (.slice (some ⟨pb,pf,none⟩) ps.length cap) xb #[.slice p.oa n1 p.oc,.int .i8 1,.int .u8 AA,.slice p.ba n2 p.bc,.int .i64 TH,.int .i64 EL] a1 c1 j):=HQ2.out _ hb5;obtain ⟨⟨r0,r1,r2,r3,r4⟩,rz⟩:=HOx.out _ hb5;clear hb5 HWr q0 q1 q2 q3 q4 oz;have m2:=HZ5.out.b.c 2 _ rfl;have ml:=HZ5.out.b.lt))
     go_ret
     refine ⟨_,rfl,?_⟩;rw [<- HR0.out,hE];exact HZ5.out.e.got
    ·have hda':((dn:Int)==(AA:Int))=false:=by simp;omega
     have hda2:(dn==AA)=false:=by simpa using hda
     cases hbt:IE.testBit dn
     ·have hbm:DN / 2^dn%2=1:=by
       have h1:=HDb.out dn hd32;rw [hbt] at h1;have h2:¬ DN / 2^dn%2=0:=fun e=>by rw [(bit_odd DN dn).1 e] at h1;cases h1
       omega
      rw [hbm] at hAnd;have HG2:Hid (∀ i (h:i<xs.length),i<j+1->hmB (IE ||| 2^AA) xs[i]=true):=HGo.out (by rw [HRm2.out,hda2,hbt];rfl);clear HSt HGo HRm2 hda hbt hbm;go_upto_region 15 with (first
       | (go_at_call 36;refine Calls.mono (HWr.out _) ?_;rintro e w5 ⟨rfl,hb5⟩;have HZ5:Hid (Ez w w5 (.slice (some ⟨pb,pf,none⟩) ps.length cap) xb #[.slice p.oa n1 p.oc,.int .i8 1,.int .u8 AA,.slice p.ba n2 p.bc,.int .i64 TH,.int .i64 EL] a1 c1 j):=HQ2.out _ hb5;obtain ⟨⟨r0,r1,r2,r3,r4⟩,rz⟩:=HOx.out _ hb5;clear hb5 HWr q0 q1 q2 q3 q4 oz;have m2:=HZ5.out.b.c 2 _ rfl;have ml:=HZ5.out.b.lt))
      clear m2 ml r0 r1 r2 r3 r4 rz hAnd hda' hda2 hdd;go_wp2_with (first
       | (at_builtin;refine wpList_append_lies _ rfl _ _ 29 rfl (xb+1) 3 i0 (.int .i64 0) 1 8 Tryz.underlying29 HI3.out.1 HI3.out.2.1 HI3.out.2.2.1 HI3.out.2.2.2 rfl (by decide) (.slice a1 j c1) j ((List.range j).map fun (i:Nat)=>Value.int .i64 (i:Int)) rfl (World.ownsRow.alloc HZ5.out.r _) ⟨w5.heap.size,0,none⟩ 1 1 [.int .i64 (j:Int)] rfl rfl (World.news_of_block (heap_alloc_new w5 _)) (by simp [Value.oneCell']) (by decide) (by unfold maxLen;omega) (by omega) (by have:=HZ5.out.b.lt;simp;omega) (w5.heap.size+1) (by simp) ?_;intro g cp w7 hown hgrow hat hlt3;have HR7:Hid (Ez w w7 (.slice (some ⟨pb,pf,none⟩) ps.length cap) xb #[.slice p.oa n1 p.oc,.int .i8 1,.int .u8 AA,.slice p.ba n2 p.bc,.int .i64 TH,.int .i64 EL] (some ⟨g,0,none⟩) cp (j+1)):=HZ5.out.add hgrow hown;clear hown hgrow hat hlt3))
      go_roundw
      case rel=>exact ⟨j+1,cp,some ⟨g,0,none⟩,by omega,by go_num,rfl,HG2.out,HR7.out⟩
      case measure=>simp [intOf];omega
     ·have hbm:DN / 2^dn%2=0:=(bit_odd DN dn).2 (by rw [HDb.out dn hd32,hbt];rfl);rw [hbm] at hAnd;have hE:=HSt.out (by rw [HRm2.out,hda2,hbt];rfl);clear HSt HGo HRm2 hda hbt hbm;go_wp2_with (first
       | (go_at_call 36;refine Calls.mono (HWr.out _) ?_;rintro e w5 ⟨rfl,hb5⟩;have HZ5:Hid (Ez w w5 (.slice (some ⟨pb,pf,none⟩) ps.length cap) xb #[.slice p.oa n1 p.oc,.int .i8 1,.int .u8 AA,.slice p.ba n2 p.bc,.int .i64 TH,.int .i64 EL] a1 c1 j):=HQ2.out _ hb5;obtain ⟨⟨r0,r1,r2,r3,r4⟩,rz⟩:=HOx.out _ hb5;clear hb5 HWr q0 q1 q2 q3 q4 oz;have m2:=HZ5.out.b.c 2 _ rfl;have ml:=HZ5.out.b.lt))
      go_ret
      refine ⟨_,rfl,?_⟩;rw [<- HR0.out,hE];exact HZ5.out.e.got
   ·have hE:=HSt.out (by rw [HRm.out];unfold rmB;rw [decide_eq_false h12];rfl);have h12':(12:Int)<o.op:=by omega
    clear HSt HGo HRm HWo;generalize wrB o=wbo at *;generalize wrD o=wdo at *;go_wp2_with (first
     | (go_at_call 36;refine Calls.mono (HWr.out _) ?_;rintro e w5 ⟨rfl,hb5⟩;have HZ5:Hid (Ez w w5 (.slice (some ⟨pb,pf,none⟩) ps.length cap) xb #[.slice p.oa n1 p.oc,.int .i8 1,.int .u8 AA,.slice p.ba n2 p.bc,.int .i64 TH,.int .i64 EL] a1 c1 j):=HQ2.out _ hb5;obtain ⟨⟨r0,r1,r2,r3,r4⟩,rz⟩:=HOx.out _ hb5;clear hb5 HWr q0 q1 q2 q3 q4 oz))
    go_ret
    refine ⟨_,rfl,?_⟩;rw [<- HR0.out,hE];exact HZ5.out.e.got
  ·have hjM:j=min xs.length 2:=by omega
   have hE:=erN_all hjM HQ.out.1
   by_cases hl2:j<xs.length
   ·have j1:(j:Int)<(xs.length:Int):=by omega
    have j2:¬ (j:Int)<2:=by omega
    clear hjM;go_wp2_with fail
    go_ret
    refine ⟨_,rfl,?_⟩;rw [<- HR0.out,hE];exact HQ.out.2.e.got
   ·have j1:¬ (j:Int)<(xs.length:Int):=by omega
    clear hjM;go_wp2_with fail
    go_ret
    refine ⟨_,rfl,?_⟩;rw [<- HR0.out,hE];exact HQ.out.2.e.got
end Go.Proofs.YtcmlnemokckbdaaGreatDoor.L8.El
