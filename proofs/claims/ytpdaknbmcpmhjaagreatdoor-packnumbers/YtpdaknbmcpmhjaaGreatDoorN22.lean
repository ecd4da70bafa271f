/- Parts Ba Bb Ua Up Ub Uc Ud. -/
import Derived.Test.YtpdaknbmcpmhjaaGreatDoorN01
import Derived.Test.YtpdaknbmcpmhjaaGreatDoorN04
import Derived.Test.YtpdaknbmcpmhjaaGreatDoorN03
import Derived.Test.YtpdaknbmcpmhjaaGreatDoorN02
import Derived.Deep.DeepCutAuto
import Derived.Deep.MidRow
set_option maxRecDepth 20000
set_option maxHeartbeats 4000000
namespace Go.Proofs.YtpdaknbmcpmhjaaGreatDoor.Op
open Go.RowKit
def getTo (x a n:Int) (k:Nat):Int:=((getN x.toNat (a.toNat + k) (n.toNat - k):Nat):Int)
def sgTo (x c:Int) (k:Nat):Int:=sg (x / 2^k) (c.toNat - k)
theorem bit_form (x:Int) (k:Nat) (x0:0<=x) (x1:x<18446744073709551616) :
  bits BinOp.and IntKind.u64 (x / 2^k) 1=x / 2^k%2:=by
 obtain ⟨X,rfl⟩:=Int.eq_ofNat_of_zero_le x0;have hq:X / 2^k<=X:=Nat.div_le_self _ _;rw [pow_cast,<- Int.natCast_ediv,show (1:Int)=((1:Nat):Int) from rfl,u64_and_nat _ _ (by omega) (by omega),nat_mask1];omega
theorem get_round (x a n:Int) (k:Nat) (x0:0<=x) (x1:x<18446744073709551616)
  (h2:n<=64) (h3:0<=a) (h4:a<=64-n) (hk:(k:Int)<=n) (h1:1<=(k:Int)) :
  IntKind.u64.wrap (IntKind.u64.wrap (getTo x a n k*2)+bits BinOp.and IntKind.u64 (x / 2^(a+((k:Int)-1)).toNat) 1)=getTo x a n (k-1):=by
 rw [bit_form x _ x0 x1];unfold getTo;obtain ⟨X,rfl⟩:=Int.eq_ofNat_of_zero_le x0;obtain ⟨A,rfl⟩:=Int.eq_ofNat_of_zero_le h3;obtain ⟨j,rfl⟩:∃ j,k=j+1:=⟨k-1,by omega⟩;simp only [Int.toNat_natCast,Nat.add_sub_cancel];have hs:=get_step X (A+j) (n.toNat - (j+1));rw [show n.toNat - (j+1)+1=n.toNat - j by omega] at hs;have hl:=getN_lt X (A+j) (n.toNat - j) (by omega);rw [show (A:Int)+(((j+1:Nat):Int)-1)=((A+j:Nat):Int) by omega,Int.toNat_natCast,pow_cast,IntKind.wrap_u64,IntKind.wrap_u64,
  show A+(j+1)=A+j+1 by omega]
 have e:((X:Int) / ((2^(A+j):Nat):Int)%2)=((X / 2^(A+j)%2:Nat):Int):=by simp
 rw [e];omega
theorem sg_first (x n:Int) (x0:0<=x) (x1:x<18446744073709551616) (h1:1<=n) :
  wrap64 (-wrap64 (bits BinOp.and IntKind.u64 (x / 2^(n.toNat - 1)) 1))=sgTo x n (n.toNat - 1):=by
 rw [bit_form x _ x0 x1];unfold sgTo;rw [show n.toNat - (n.toNat - 1)=1 by omega,sg_one];unfold wrap64;omega
theorem sg_round (x n:Int) (k:Nat) (x0:0<=x) (x1:x<18446744073709551616) (h2:n<=64) (hk:(k:Int)<n) (h1:1<=(k:Int)) :
  wrap64 (wrap64 (sgTo x n k*2)+wrap64 (bits BinOp.and IntKind.u64 (x / 2^(k-1)) 1))=sgTo x n (k-1):=by
 rw [bit_form x _ x0 x1];unfold sgTo;obtain ⟨j,rfl⟩:∃ j,k=j+1:=⟨k-1,by omega⟩;rw [Nat.add_sub_cancel];have hs:=sg_step (x / 2^j) (n.toNat - (j+1)) (by omega);rw [show n.toNat - (j+1)+1=n.toNat - j by omega,Int.ediv_ediv_of_nonneg (Int.le_of_lt (pow_pos' j)),<- Int.pow_succ] at hs;rw [Nat.succ_eq_add_one] at hs;have l:=sg_lo (x / 2^j) (n.toNat - j);have g:=sg_hi (x / 2^j) (n.toNat - j) (by omega);have p:=pow_le63 (n.toNat - j) (by omega);unfold wrap64;omega
end Go.Proofs.YtpdaknbmcpmhjaaGreatDoor.Op
namespace Go.Proofs.YtpdaknbmcpmhjaaGreatDoor.Op
open Go.ChangeShapes Go.WideShapes Go.ChangeAt Go.RowKit
theorem one_any (a n:Int) (w:World) :
  Calls Tryz.prog 300 #[.int .i64 a,.int .i64 n] w fun e w'=>e=.returned (.bool (fieldB a n))/\w'=w:=by
 by_cases h1:1<=n
 ·by_cases h2:n<=64
  ·by_cases h3:0<=a
   all_goals
    go_enter Tryz.func300,Tryz.ntmps300;go_wp2
    go_ret
    refine ⟨ret_bool ?_,rfl⟩;rw [Bool.eq_iff_iff,field_iff];simp;omega
  ·go_enter Tryz.func300,Tryz.ntmps300;go_wp2
   go_ret
   refine ⟨ret_bool ?_,rfl⟩;rw [Bool.eq_iff_iff,field_iff];simp;omega
 ·go_enter Tryz.func300,Tryz.ntmps300;go_wp2
  go_ret
  refine ⟨ret_bool ?_,rfl⟩;rw [Bool.eq_iff_iff,field_iff];simp;omega
theorem rget_any (x a n:Int) (w:World) (x0:0<=x) (x1:x<18446744073709551616) :
  Calls Tryz.prog 255 #[.int .u64 x,.int .i64 a,.int .i64 n] w fun e w'=>e=.returned (.int .u64 (getI x a n))/\w'=w:=by
 cases h:fieldB a n
 ·have H0:getI x a n=0:=by unfold getI;rw [if_neg (by rw [h];decide)]
  have H:Hid (getI x a n=0):=H0;clear H0;go_enter Tryz.func255,Tryz.ntmps255;go_wp2_with (go_at_call 300;refine (one_any _ _ _).mono ?_;rintro e w' ⟨rfl,rfl⟩)
  go_ret
  exact ⟨ret_int H.out.symm,rfl⟩
 ·obtain ⟨h1,h2,h3,h4⟩:=(field_iff a n).1 h;have H0:getTo x a n 0=getI x a n:=by unfold getI getTo;rw [if_pos h,Nat.add_zero,Nat.sub_zero]
  have H:Hid (getTo x a n 0=getI x a n):=H0;clear H0;go_enter Tryz.func255,Tryz.ntmps255;go_wp2_with (go_at_call 300;refine (one_any _ _ _).mono ?_;rintro e w' ⟨rfl,rfl⟩)
  go_loop [7,8] (fun v i=>∃ k:Nat,(k:Int)<=n/\i=.int .i64 ((k:Int)-1)/\v=.int .u64 (getTo x a n k)) (fun _ i=>(intOf i+1).toNat)
  case atStart=>exact ⟨n.toNat,by omega,by rw [Int.toNat_of_nonneg (by omega)],by simp [getTo,getN,Nat.mod_one]⟩
  case round=>
   obtain ⟨k,hk,rfl,rfl⟩:=hrel
   by_cases hlt:1<=(k:Int)
   ·have HR:Hid _:=get_round x a n k x0 x1 h2 h3 h4 hk hlt;generalize hv:getTo x a n k=v at *;clear hv;go_wp2
    go_round
    case rel=>exact ⟨k-1,by omega,by rw [show (((k-1:Nat):Int))=(k:Int)-1 by omega],by rw [HR.out]⟩
    case measure=>simp [intOf];omega
   ·go_wp2
    go_ret
    refine ⟨ret_int ?_,rfl⟩;rw [<- H.out,show k=0 by omega]
theorem rsigned_mid (x n:Int) (w:World) (x0:0<=x) (x1:x<18446744073709551616) (h1:1<=n) (h2:n<=64) :
  Calls Tryz.prog 256 #[.int .u64 x,.int .i64 n] w fun e w'=>e=.returned (.int .i64 (sgI x n))/\w'=w:=by
 have H0:sgTo x n 0=sgI x n:=by unfold sgI sgTo;rw [cl_id n h1 h2,Int.pow_zero,Int.ediv_one,Nat.sub_zero]
 have H:Hid (sgTo x n 0=sgI x n):=H0;have HF:Hid _:=sg_first x n x0 x1 h1;clear H0;go_enter Tryz.func256,Tryz.ntmps256;go_wp2
 go_loop [5,6] (fun v i=>∃ k:Nat,(k:Int)<n/\i=.int .i64 ((k:Int)-1)/\v=.int .i64 (sgTo x n k)) (fun _ i=>(intOf i+1).toNat)
 case atStart=>exact ⟨n.toNat - 1,by omega,by rw [show (((n.toNat - 1:Nat):Int))-1=n-2 by omega],by rw [HF.out]⟩
 case round=>
  obtain ⟨k,hk,rfl,rfl⟩:=hrel
  by_cases hlt:1<=(k:Int)
  ·have HR:Hid _:=sg_round x n k x0 x1 h2 hk hlt;generalize hv:sgTo x n k=v at *;clear hv;go_wp2
   go_round
   case rel=>exact ⟨k-1,by omega,by rw [show (((k-1:Nat):Int))=(k:Int)-1 by omega],by rw [HR.out]⟩
   case measure=>simp [intOf];omega
  ·go_wp2
   go_ret
   refine ⟨ret_int ?_,rfl⟩;rw [<- H.out,show k=0 by omega]
end Go.Proofs.YtpdaknbmcpmhjaaGreatDoor.Op
namespace Go.Proofs.YtpdaknbmcpmhjaaGreatDoor.Bu
open Go.ChangeShapes Go.WideShapes Go.ChangeAt Go.RowKit
open YtpdaknbmcpmhjaaGreatDoor.Op
open YtpdaknbmcpmhjaaGreatDoor.Tb (Tab TabAt Bnds four tabAt_new ckR)
def wdO (o:O):Int:=o.op+o.d*64+o.a*2048+o.b*65536+(o.im%4294967296)*2097152
def opW (x:Int):O:=⟨x%64,x / 64%32,x / 2048%32,x / 65536%32,(x / 2097152+2147483648)%4294967296-2147483648⟩
def zO:O:=⟨0,0,0,0,0⟩
structure Fld (o:O):Prop where
 p0:0<=o.op
 p1:o.op<24
 d0:0<=o.d
 d1:o.d<32
 a0:0<=o.a
 a1:o.a<32
 b0:0<=o.b
 b1:o.b<32
 i0 : -2147483648<=o.im
 i1:o.im<=2147483647
theorem Fld.lo {o:O} (h:Fld o):0<=wdO o:=by
 obtain ⟨p0,p1,d0,d1,a0,a1,b0,b1,i0,i1⟩:=h;unfold wdO;omega
theorem Fld.hi {o:O} (h:Fld o):wdO o<9007199254740992:=by
 obtain ⟨p0,p1,d0,d1,a0,a1,b0,b1,i0,i1⟩:=h;unfold wdO;omega
theorem Fld.back {o:O} (h:Fld o):opW (wdO o)=o:=by
 obtain ⟨p0,p1,d0,d1,a0,a1,b0,b1,i0,i1⟩:=h;obtain ⟨p,d,a,b,i⟩:=o;simp only at p0 p1 d0 d1 a0 a1 b0 b1 i0 i1
 unfold opW wdO;simp only [O.mk.injEq];refine ⟨?_,?_,?_,?_,?_⟩ <;> omega
theorem opW_ok (x:Int):(opW x).Ok:=by
 unfold opW;constructor <;> simp only <;> omega
theorem or_add (x y:Int) (k:Nat) (m:Int) (hm:m=2^k) (x0:0<=x) (x1:x<m) (y0:0<=y) (h:x+y*m<18446744073709551616):bits BinOp.or IntKind.u64 x (y*m)=x+y*m:=by
 subst hm;obtain ⟨X,rfl⟩:=Int.eq_ofNat_of_zero_le x0;obtain ⟨Y,rfl⟩:=Int.eq_ofNat_of_zero_le y0;rw [pow_cast k] at x1 h ⊢;rw [<- Int.natCast_mul] at h ⊢;have hx:X<2^k:=by omega
 have hc:X<2^64:=by omega
 have hd:Y*2^k<2^64:=by omega
 rw [u64_or_nat X (Y*2^k) (by omega) (by omega),<- Int.natCast_add]
 congr 1
 rw [Nat.or_comm,Nat.mul_comm,<- Nat.two_pow_add_eq_or_of_lt hx,Nat.add_comm]
theorem word_sum (p d a b i:Int) (p0:0<=p) (p1:p<24) (d0:0<=d) (d1:d<32) (a0:0<=a) (a1:a<32) (b0:0<=b) (b1:b<32) (i0:0<=i) (i1:i<4294967296) :
  bits BinOp.or IntKind.u64 (bits BinOp.or IntKind.u64 (bits BinOp.or IntKind.u64 (bits BinOp.or IntKind.u64 p (d*64)) (a*2048)) (b*65536)) (i*2097152)=p+d*64+a*2048+b*65536+i*2097152:=by
 rw [or_add p d 6 64 rfl (by omega) (by omega) d0 (by omega),or_add _ a 11 2048 rfl (by omega) (by omega) a0 (by omega),or_add _ b 16 65536 rfl (by omega) (by omega) b0 (by omega),or_add _ i 21 2097152 rfl (by omega) (by omega) i0 (by omega)]
theorem wordOf_any (o:O) (w:World) (h:Fld o) :
  Calls Tryz.prog 252 #[o.val] w fun e w'=>e=.returned (.int .u64 (wdO o))/\Below w.heap.size w w':=by
 obtain ⟨p0,p1,d0,d1,a0,a1,b0,b1,i0,i1⟩:=h;obtain ⟨p,d,a,b,i⟩:=o;simp only at p0 p1 d0 d1 a0 a1 b0 b1 i0 i1
 go_enter Tryz.func252,Tryz.ntmps252;go_wp2
 go_ret
 exact ⟨ret_int (word_sum p d a b _ p0 p1 d0 d1 a0 a1 b0 b1 (by omega) (by omega)),by go_grown⟩
theorem getI_is (x:Int) (a n:Nat) (x0:0<=x) (h:fieldB a n=true):getI x a n=x / 2^a%2^n:=by
 obtain ⟨X,rfl⟩:=Int.eq_ofNat_of_zero_le x0;unfold getI getN;rw [if_pos h];simp
theorem get0 {x:Int} (x0:0<=x):getI x 0 6=x%64:=by have:=getI_is x 0 6 x0 rfl;simpa using this
theorem get6 {x:Int} (x0:0<=x):getI x 6 5=x / 64%32:=getI_is x 6 5 x0 rfl
theorem get11 {x:Int} (x0:0<=x):getI x 11 5=x / 2048%32:=getI_is x 11 5 x0 rfl
theorem get16 {x:Int} (x0:0<=x):getI x 16 5=x / 65536%32:=getI_is x 16 5 x0 rfl
theorem get21 {x:Int} (x0:0<=x):getI x 21 32=x / 2097152%4294967296:=getI_is x 21 32 x0 rfl
theorem get53 {x:Int} (x0:0<=x):getI x 53 11=x / 9007199254740992%2048:=getI_is x 53 11 x0 rfl
theorem wrap_imm (y:Int):wrap64 (wrap32 y)=(y+2147483648)%4294967296-2147483648:=by
 have e1:wrap32 y=(y+2147483648)%4294967296-2147483648:=by simp only [wrap32]
 have e2:∀ z,wrap64 z=(z+9223372036854775808)%18446744073709551616-9223372036854775808:=fun z=>by simp only [wrap64]
 rw [e1,e2];omega
theorem opOf_no (x:Int) (w:World) (x0:0<=x) (x1:x<18446744073709551616) (h:9007199254740992<=x) :
  Calls Tryz.prog 254 #[.int .u64 x] w fun e w'=>e=.returned (.tuple #[zO.val,.bool false])/\Below w.heap.size w w':=by
 have h1:(x / 9007199254740992 != 0)=true:=by rw [bne_iff_ne];omega
 go_enter Tryz.func254,Tryz.ntmps254;go_wp2
 refine bodyPost_ret (v:=.tuple #[zO.val,.bool false]) (by simp [results,Tryz.results254,go_sem,zO]) rfl ⟨rfl,by go_grown⟩
theorem opOf_yes (x:Int) (w:World) (x0:0<=x) (x1:x<18446744073709551616) (h:x<9007199254740992) :
  Calls Tryz.prog 254 #[.int .u64 x] w fun e w'=>e=.returned (.tuple #[(opW x).val,.bool true])/\Below w.heap.size w w':=by
 have h1:(x / 9007199254740992 != 0)=false:=by rw [bne_eq_false_iff_eq];omega
 have g0:∀ w,Calls Tryz.prog 299 #[.int .u64 x,.int .i64 0,.int .i64 6] w fun e w'=>e=.returned (.int .u64 (x%64))/\w'=w:=fun w=>by rw [<- get0 x0];exact get_any x 0 6 w x0 x1
 have g6:∀ w,Calls Tryz.prog 299 #[.int .u64 x,.int .i64 6,.int .i64 5] w fun e w'=>e=.returned (.int .u64 (x / 64%32))/\w'=w:=fun w=>by rw [<- get6 x0];exact get_any x 6 5 w x0 x1
 have g11:∀ w,Calls Tryz.prog 299 #[.int .u64 x,.int .i64 11,.int .i64 5] w fun e w'=>e=.returned (.int .u64 (x / 2048%32))/\w'=w:=fun w=>by rw [<- get11 x0];exact get_any x 11 5 w x0 x1
 have g16:∀ w,Calls Tryz.prog 299 #[.int .u64 x,.int .i64 16,.int .i64 5] w fun e w'=>e=.returned (.int .u64 (x / 65536%32))/\w'=w:=fun w=>by rw [<- get16 x0];exact get_any x 16 5 w x0 x1
 have H0:Hid _:=g0;have H6:Hid _:=g6;have H11:Hid _:=g11;have H16:Hid _:=g16;clear g0 g6 g11 g16;go_enter Tryz.func254,Tryz.ntmps254;go_wp2_with (first|(have hh:=H0.out;go_at_call 299;refine Calls.mono (H0.out _) ?_;rintro e w1 ⟨rfl,rfl⟩;clear H0)|(have hh:=H6.out;go_at_call 299;refine Calls.mono (H6.out _) ?_;rintro e w1 ⟨rfl,rfl⟩;clear H6)|(have hh:=H11.out;go_at_call 299;refine Calls.mono (H11.out _) ?_;rintro e w1 ⟨rfl,rfl⟩;clear H11)|(go_at_call 299;refine Calls.mono (H16.out _) ?_;rintro e w1 ⟨rfl,rfl⟩;clear H16))
 refine bodyPost_ret (v:=.tuple #[(opW x).val,.bool true]) (by simp [results,Tryz.results254,go_sem,opW,wrap_imm]) rfl ⟨rfl,by go_grown⟩
def isB (c:Int) (o:O):Bool:=clB o.op&&(clV o.op==c)&&okO o
theorem ckE0 (o:O):(ckE o==0)=okO o:=by unfold ckE;cases okO o <;> rfl
theorem isOf_any (o:O) (c:Int) (w:World) (ho:o.Ok) :
  Calls Tryz.prog 245 #[o.val,.int .i64 c] w fun e w'=>e=.returned (.bool (isB c o))/\Below w.heap.size w w':=by
 have HC:Hid (∀ W,Calls Tryz.prog 28 #[.int .i8 o.op] W fun e w'=>e=.returned (.tuple #[.int .i64 (clV o.op),.bool (clB o.op)])/\Below W.heap.size W w'):=fun W=>class_any o.op W ho.op0 ho.op1;have HK:Hid (∀ W,Calls Tryz.prog 151 #[o.val] W fun e w'=>e=.returned (.int .i64 (ckE o))/\Below W.heap.size W w'):=fun W=>check_any o W ho;have HR:Hid (isB c o=(clB o.op&&(clV o.op==c)&&(ckE o==0))):=by rw [ckE0];rfl
 obtain ⟨r,hr⟩:∃ r,isB c o=r:=⟨_,rfl⟩;rw [hr] at HR ⊢;clear hr ho;generalize clV o.op=v at *;generalize ckE o=ke at *
 cases hB:clB o.op
 ·rw [hB] at HC HR;go_enter Tryz.func245,Tryz.ntmps245;go_wp2_with (first|(go_at_call 28;refine Calls.mono (HC.out _) ?_;rintro e w1 ⟨rfl,hb⟩;obtain ⟨-,hb0,hz⟩:=one_new w _ _ hb;have HB:Hid (Below w.heap.size w w1):=hb0;clear hb hb0))
  go_ret
  exact ⟨ret_bool (by rw [HR.out];rfl),HB.out⟩
 ·rw [hB] at HC HR
  by_cases hc:v=c
  ·subst hc;go_enter Tryz.func245,Tryz.ntmps245;go_wp2_with (first|(go_at_call 28;refine Calls.mono (HC.out _) ?_;rintro e w1 ⟨rfl,hb⟩;obtain ⟨a1,hb0,hz⟩:=one_new w _ _ hb;have HB:Hid (Below w.heap.size w w1):=hb0;obtain ⟨o0,o1,o2,o3,o4⟩:=a1.o5;clear hb hb0 a1)|(go_at_call 151;refine Calls.mono (HK.out _) ?_;rintro e w2 ⟨rfl,hb⟩;have HB2:Hid (Below w.heap.size w w2):=HB.out.trans (hb.mono HB.out.size);clear hb))
   go_ret
   exact ⟨ret_bool (by rw [HR.out];simp),HB2.out⟩
  ·have hc':(v==c)=false:=by simpa using hc
   go_enter Tryz.func245,Tryz.ntmps245;go_wp2_with (first|(go_at_call 28;refine Calls.mono (HC.out _) ?_;rintro e w1 ⟨rfl,hb⟩;obtain ⟨-,hb0,hz⟩:=one_new w _ _ hb;have HB:Hid (Below w.heap.size w w1):=hb0;clear hb hb0))
   go_ret
   exact ⟨ret_bool (by rw [HR.out,hc'];rfl),HB.out⟩
end Go.Proofs.YtpdaknbmcpmhjaaGreatDoor.Bu
namespace Go.Proofs.YtpdaknbmcpmhjaaGreatDoor.Bu
open YtpdaknbmcpmhjaaGreatDoor.Op
open YtpdaknbmcpmhjaaGreatDoor.Tb (Tab)
theorem fld_of {o:O} (ho:o.Ok) (h:okO o=true):Fld o:=by
 unfold okO at h
 split at h
 ·rename_i k hk;obtain ⟨n,hn,e,-⟩:=kOf_some hk;simp only [okF,Bool.and_eq_true,rH,iH] at h;obtain ⟨⟨⟨h1,h2⟩,h3⟩,h4⟩:=h;have d0:=ho.d0;have a0:=ho.a0;have b0:=ho.b0;have q:∀ (r:Int) (c:Bool),(if c=true then decide (r<32) else r==0)=true->r<32:=fun r c hq=>by
   cases c
   ·have:r=0:=by simpa using hq
    omega
   ·simpa using hq
  refine ⟨by omega,by omega,d0,q _ _ h1,a0,q _ _ h2,b0,q _ _ h3,?_,?_⟩
  ·cases hI:k.I
   ·rw [hI] at h4
    have:o.im=0:=by simpa using h4
    omega
   ·rw [hI] at h4;have : -2147483648<=o.im/\o.im<=2147483647:=by simpa using h4
    exact this.1
  ·cases hI:k.I
   ·rw [hI] at h4
    have:o.im=0:=by simpa using h4
    omega
   ·rw [hI] at h4;have : -2147483648<=o.im/\o.im<=2147483647:=by simpa using h4
    exact this.2
 ·cases h
theorem isB_fld {c:Int} {o:O} (ho:o.Ok) (h:isB c o=true):Fld o:=by
 simp only [isB,Bool.and_eq_true] at h;exact fld_of ho h.2
def stN (v:Nat->Int):Nat->Nat
 | 0=>0
 | n+1=>if v n=0 then stN v n else n+1
theorem stN_le (v:Nat->Int):∀ n,stN v n<=n
 | 0=>Nat.le_refl _
 | n+1=>by
  unfold stN
  split
  ·exact Nat.le_succ_of_le (stN_le v n)
  ·exact Nat.le_refl _
theorem stN_is (v:Nat->Int) (m:Nat) (hm:∀ j,j<m->v j≠0):∀ n,m<=n->(∀ j,m<=j->j<n->v j=0)->stN v n=m
 | 0,h,_=>by unfold stN;omega
 | n+1,h,hz=>by
  unfold stN
  by_cases e:m=n+1
  ·rw [if_neg (hm n (by omega))];exact e.symm
  ·rw [if_pos (hz n (by omega) (by omega))];exact stN_is v m hm n (by omega) fun j h1 h2=>hz j h1 (by omega)
def okW (c x:Int):Bool:=decide (x<9007199254740992)&&isB c (opW x)
def rdB (c:Int) (v:Nat->Int) (m:Nat):Bool:=(List.range m).all fun j=>okW c (v j)
def rdL (v:Nat->Int) (m:Nat):List O:=(List.range m).map fun j=>opW (v j)
def wsL (n:Nat) (xs:List O):List Int:=xs.map wdO++List.replicate (n-xs.length) 0
theorem rdL_len (v:Nat->Int) (m:Nat):(rdL v m).length=m:=by simp [rdL]
theorem rdL_ok (v:Nat->Int) (m:Nat):∀ o∈rdL v m,o.Ok:=by
 intro o ho;obtain ⟨j,-,rfl⟩:=List.mem_map.1 ho;exact opW_ok _
theorem rdL_next (v:Nat->Int) (m:Nat):rdL v (m+1)=rdL v m++[opW (v m)]:=by simp [rdL,List.range_succ]
theorem rdB_next (c:Int) (v:Nat->Int) (m:Nat):rdB c v (m+1)=(rdB c v m&&okW c (v m)):=by simp [rdB,List.range_succ]
theorem rdB_iff {c:Int} {v:Nat->Int} {m:Nat} : rdB c v m=true↔∀ j,j<m->okW c (v j)=true:=by
 unfold rdB;rw [List.all_eq_true];exact ⟨fun h j hj=>h j (List.mem_range.2 hj),fun h j hj=>h j (List.mem_range.1 hj)⟩
theorem rdB_no {c:Int} {v:Nat->Int} {m k:Nat} (hk:k<m) (h:okW c (v k)=false):rdB c v m=false:=by
 cases hb:rdB c v m
 ·rfl
 ·rw [rdB_iff.1 hb k hk] at h;cases h
theorem wsL_len {n:Nat} {xs:List O} (h:xs.length<=n):(wsL n xs).length=n:=by simp [wsL];omega
theorem getD_at (l:List Int) (j:Nat) (h:j<l.length):l[j]=l.getD j 0:=by simp [List.getD_eq_getElem?_getD,h]
theorem cls_all {c:Int} {v:Nat->Int} {m:Nat} (hb:rdB c v m=true):(rdL v m).all (isB c)=true:=by
 rw [List.all_eq_true];intro o ho;obtain ⟨j,hj,rfl⟩:=List.mem_map.1 ho
 have:=rdB_iff.1 hb j (List.mem_range.1 hj)
 simp only [okW,Bool.and_eq_true] at this;exact this.2
structure Bn where
 l:Nat->List O
def Bn.Ok (x:Bn):Prop:=∀ k,k<4->∀ o∈x.l k,o.Ok
def U (t:Tab) (k:Nat):Nat:=(t.u k).toNat
def ofs (t:Tab):Nat->Nat
 | 0=>0
 | k+1=>ofs t k+U t k
def wBk (t:Tab) (x:Bn):Nat->List Int
 | 0=>[]
 | k+1=>wBk t x k++wsL (U t k) (x.l k)
def clsB (t:Tab) (x:Bn) (k:Nat):Bool:=decide ((x.l k).length<=U t k)&&(x.l k).all (isB k)
def wfK (t:Tab) (x:Bn):Nat->Bool
 | 0=>true
 | k+1=>wfK t x k&&clsB t x k
def wfB (t:Tab) (x:Bn):Bool:=wfK t x 4
theorem wfK_iff {t:Tab} {x:Bn} : ∀ {n:Nat},wfK t x n=true↔∀ k,k<n->clsB t x k=true
 | 0=>⟨fun _ k hk=>absurd hk (by omega),fun _=>rfl⟩
 | n+1=>by
  unfold wfK;rw [Bool.and_eq_true,wfK_iff (n:=n)];refine ⟨fun h k hk=>?_,fun h=>⟨fun k hk=>h k (by omega),h n (by omega)⟩⟩
  by_cases e:k=n
  ·rw [e];exact h.2
  ·exact h.1 k (by omega)
theorem wfK_no {t:Tab} {x:Bn} {k n:Nat} (hk:k<n) (h:clsB t x k=false):wfK t x n=false:=by
 cases hw:wfK t x n
 ·rfl
 ·rw [wfK_iff.1 hw k hk] at h;cases h
theorem clsB_parts {t:Tab} {x:Bn} {k:Nat} (h:clsB t x k=true):(x.l k).length<=U t k/\(x.l k).all (isB k)=true:=by
 unfold clsB at h;rw [Bool.and_eq_true,decide_eq_true_eq] at h;exact h
theorem wBk_len {t:Tab} {x:Bn} : ∀ {n:Nat},wfK t x n=true->(wBk t x n).length=ofs t n
 | 0,_=>rfl
 | n+1,h=>by
  have h':=wfK_iff.1 h;unfold wBk ofs;rw [List.length_append,wBk_len (wfK_iff.2 fun k hk=>h' k (by omega)),wsL_len (clsB_parts (h' n (by omega))).1]
theorem ofs_mono {t:Tab} {k:Nat} : ∀ {n:Nat},k<n->ofs t k+U t k<=ofs t n
 | 0,h=>absurd h (by omega)
 | n+1,h=>by
  by_cases e:k=n
  ·subst e;exact Nat.le_refl _
  ·have:=ofs_mono (t:=t) (k:=k) (n:=n) (by omega)
   show _<=ofs t n+U t n;omega
def cv (t:Tab) (v:Nat->Int) (k:Nat):Nat->Int:=fun j=>v (ofs t k+j)
def bdK (t:Tab) (v:Nat->Int):Nat->Bool
 | 0=>true
 | k+1=>bdK t v k&&rdB k (cv t v k) (stN (cv t v k) (U t k))
def bdX (t:Tab) (v:Nat->Int):Bn:=⟨fun k=>rdL (cv t v k) (stN (cv t v k) (U t k))⟩
theorem bdK_iff {t:Tab} {v:Nat->Int} : ∀ {n:Nat},bdK t v n=true↔∀ k,k<n->rdB k (cv t v k) (stN (cv t v k) (U t k))=true
 | 0=>⟨fun _ k hk=>absurd hk (by omega),fun _=>rfl⟩
 | n+1=>by
  unfold bdK;rw [Bool.and_eq_true,bdK_iff (n:=n)];refine ⟨fun h k hk=>?_,fun h=>⟨fun k hk=>h k (by omega),h n (by omega)⟩⟩
  by_cases e:k=n
  ·rw [e];exact h.2
  ·exact h.1 k (by omega)
theorem bdK_no {t:Tab} {v:Nat->Int} {k n:Nat} (hk:k<n) (h:rdB k (cv t v k) (stN (cv t v k) (U t k))=false):bdK t v n=false:=by
 cases hw:bdK t v n
 ·rfl
 ·rw [bdK_iff.1 hw k hk] at h;cases h
def encW (t:Tab) (ls:List Bn):List Int:=ls.flatMap fun x=>wBk t x 4
theorem encW_next (t:Tab) (ls:List Bn) (x:Bn):encW t (ls++[x])=encW t ls++wBk t x 4:=by simp [encW]
def allW (t:Tab) (ls:List Bn):Bool:=ls.all (wfB t)
theorem encW_len {t:Tab} : ∀ {ls:List Bn},allW t ls=true->(encW t ls).length=ls.length*ofs t 4
 | [],_=>by simp [encW]
 | x::ls,h=>by
  simp only [allW,List.all_cons,Bool.and_eq_true] at h
  have:=encW_len (t:=t) (ls:=ls) h.2
  show (wBk t x 4++encW t ls).length=_;rw [List.length_append,this,wBk_len h.1,List.length_cons,Nat.succ_mul,Nat.add_comm]
def sv (t:Tab) (v:Nat->Int) (i:Nat):Nat->Int:=fun j=>v (i*ofs t 4+j)
def deB (t:Tab) (v:Nat->Int) (n:Nat):Bool:=(List.range n).all fun i=>bdK t (sv t v i) 4
def deL (t:Tab) (v:Nat->Int) (n:Nat):List Bn:=(List.range n).map fun i=>bdX t (sv t v i)
theorem deL_len (t:Tab) (v:Nat->Int) (n:Nat):(deL t v n).length=n:=by simp [deL]
theorem deL_next (t:Tab) (v:Nat->Int) (n:Nat):deL t v (n+1)=deL t v n++[bdX t (sv t v n)]:=by simp [deL,List.range_succ]
theorem deB_iff {t:Tab} {v:Nat->Int} {n:Nat} : deB t v n=true↔∀ i,i<n->bdK t (sv t v i) 4=true:=by
 unfold deB;rw [List.all_eq_true];exact ⟨fun h i hi=>h i (List.mem_range.2 hi),fun h i hi=>h i (List.mem_range.1 hi)⟩
theorem deB_no {t:Tab} {v:Nat->Int} {n k:Nat} (hk:k<n) (h:bdK t (sv t v k) 4=false):deB t v n=false:=by
 cases hw:deB t v n
 ·rfl
 ·rw [deB_iff.1 hw k hk] at h;cases h
end Go.Proofs.YtpdaknbmcpmhjaaGreatDoor.Bu
namespace Go.Proofs.YtpdaknbmcpmhjaaGreatDoor.Bu
open Go.ChangeShapes Go.WideShapes Go.ChangeAt Go.RowKit
open YtpdaknbmcpmhjaaGreatDoor.Op
open YtpdaknbmcpmhjaaGreatDoor.Tb (Tab TabAt Bnds four tabAt_new ckR)
structure Pb where
 a:Nat->Option Addr
 c:Nat->Nat
abbrev bcs (x:Bn) (p:Pb):Array Value:=#[.slice (p.a 0) (x.l 0).length (p.c 0),.slice (p.a 1) (x.l 1).length (p.c 1),.slice (p.a 2) (x.l 2).length (p.c 2),.slice (p.a 3) (x.l 3).length (p.c 3)]
abbrev bval (x:Bn) (p:Pb):Value:=.agg #[.slice (p.a 0) (x.l 0).length (p.c 0),.slice (p.a 1) (x.l 1).length (p.c 1),.slice (p.a 2) (x.l 2).length (p.c 2),.slice (p.a 3) (x.l 3).length (p.c 3)]
structure BnIn (w:World) (x:Bn) (p:Pb):Prop where
 o:∀ k,k<4->OpsAt w (p.a k) (x.l k)
theorem BnIn.below {w w':World} {x:Bn} {p:Pb} (h:BnIn w x p) (hb:Below w.heap.size w w'):BnIn w' x p:=⟨fun k hk=>(h.o k hk).below hb⟩
structure NAt (w:World) (b f:Nat) (x:Bn) (p:Pb):Prop where
 c:∀ k,k<4->w.cell? ⟨b,f+k,none⟩=some (.slice (p.a k) (x.l k).length (p.c k))
theorem NAt.below {w w':World} {b f B:Nat} {x:Bn} {p:Pb} (h:NAt w b f x p) (hb:Below B w w') (z:b<B):NAt w' b f x p:=⟨fun k hk=>by rw [(bcell hb).1 _ _ z];exact h.c k hk⟩
theorem nat_new (w:World) (x:Bn) (p:Pb) (ty:TypeId):NAt (w.alloc (.cells (bcs x p) ty)) w.heap.size 0 x p:=
 ⟨four (by simp) (by simp) (by simp) (by simp)⟩
structure BsAt (w:World) (ao:Option Addr) (ls:List Bn):Prop where
 len:ls.length<=2199023255552
 is:0<ls.length->∃ b f,ao=some ⟨b,f,none⟩/\b<w.heap.size/\∀ (i:Nat) (h:i<ls.length),∃ p,NAt w b (f+i*4) ls[i] p/\BnIn w ls[i] p
theorem BsAt.below {w w':World} {ao:Option Addr} {ls:List Bn} (h:BsAt w ao ls) (hb:Below w.heap.size w w'):BsAt w' ao ls:=by
 refine ⟨h.len,fun h0=>?_⟩;obtain ⟨b,f,e,z,hx⟩:=h.is h0;refine ⟨b,f,e,Nat.lt_of_lt_of_le z hb.size,fun i hi=>?_⟩;obtain ⟨p,h1,h2⟩:=hx i hi;exact ⟨p,h1.below hb z,h2.below hb⟩
theorem idx24 (s:Nat->Value) (k:Nat) (h:k<4) (w:World) (hs:∀ j,j<4->∃ n,s j=.int .i64 n):(Instr.index 25 (.agg #[s 0,s 1,s 2,s 3]) (.int .i64 k)).run Tryz.prog w=.ok (s k) w:=by
 obtain ⟨n0,e0⟩:=hs 0 (by decide);obtain ⟨n1,e1⟩:=hs 1 (by decide);obtain ⟨n2,e2⟩:=hs 2 (by decide);obtain ⟨n3,e3⟩:=hs 3 (by decide)
 match k,h with
 | 0,_=>rw [e0,e1,e2,e3];rfl
 | 1,_=>rw [e0,e1,e2,e3];rfl
 | 2,_=>rw [e0,e1,e2,e3];rfl
 | 3,_=>rw [e0,e1,e2,e3];rfl
theorem idx34 (x:Bn) (p:Pb) (k:Nat) (h:k<4) (w:World):(Instr.index 63 (bval x p) (.int .i64 k)).run Tryz.prog w=.ok (.slice (p.a k) (x.l k).length (p.c k)) w:=by
 match k,h with
 | 0,_=>rfl
 | 1,_=>rfl
 | 2,_=>rfl
 | 3,_=>rfl
theorem tab_in {t:Tab} (h:t.ok=true) {k:Nat} (hk:k<4):0<=t.u k/\t.u k<=8:=by
 have:=(Tb.ok_parts h).2 k hk
 exact Tb.inB_iff this.1
theorem u_nat {t:Tab} (h:t.ok=true) {k:Nat} (hk:k<4):t.u k=(U t k:Int):=by
 have:=tab_in h hk
 unfold U;omega
theorem u_le {t:Tab} (h:t.ok=true) {k:Nat} (hk:k<4):U t k<=8:=by
 have:=tab_in h hk
 unfold U;omega
theorem ofs_le {t:Tab} (h:t.ok=true):ofs t 4<=32:=by
 have h0:=u_le h (k:=0) (by decide);have h1:=u_le h (k:=1) (by decide);have h2:=u_le h (k:=2) (by decide);have h3:=u_le h (k:=3) (by decide);simp only [ofs];omega
theorem width_any (t:Tab) (w:World) (hG:Bnds w) (ht:t.ok=true) :
  Calls Tryz.prog 146 #[t.val] w fun e w'=>e=.returned (.int .i64 (ofs t 4:Int))/\Below w.heap.size w w':=by
 have HC:Hid (∀ W,Below w.heap.size w W->Calls Tryz.prog 71 #[t.val] W fun e w'=>e=.returned (.int .i64 0)/\Below W.heap.size W w'):=fun W hb=>by
  have:=Tb.check_any t W (hG.below hb hG.big)
  unfold ckR at this;rw [if_pos ht] at this;exact this
 have HI:Hid (∀ k:Nat,k<4->∀ w,(Instr.index 25 (.agg #[.int .i64 (t.u 0),.int .i64 (t.u 1),.int .i64 (t.u 2),.int .i64 (t.u 3)]) (.int .i64 k)).run Tryz.prog w=.ok (.int .i64 (t.u k)) w):=fun k hk w=>idx24 (fun j=>.int .i64 (t.u j)) k hk w fun j _=>⟨_,rfl⟩;have HU:Hid (∀ k,k<4->t.u k=(U t k:Int)/\U t k<=8):=fun k hk=>⟨u_nat ht hk,u_le ht hk⟩;clear ht hG;unfold Tab.val at *;go_enter Tryz.func146,Tryz.ntmps146;go_wp2_with (first|(go_at_call 71;refine Calls.mono (HC.out _ (by go_grown)) ?_;rintro e w1 ⟨rfl,hb⟩;obtain ⟨a1,hb0,hz⟩:=one_new w _ _ hb;have HB:Hid (Below w.heap.size w w1):=hb0;have t0:=a1.c 0 _ rfl;have t1:=a1.c 1 _ rfl;have t2:=a1.c 2 _ rfl;have t3:=a1.c 3 _ rfl;clear hb hb0 a1))
 clear HC
 go_loop [3,11] (fun s i=>∃ k:Nat,k<=4/\i=.int .i64 k/\s=.int .i64 (ofs t k:Int)/\ofs t k<=8*k) (fun _ i=>4-(intOf i).toNat)
 case atStart=>exact ⟨0,by omega,rfl,rfl,Nat.le_refl _⟩
 case round=>
  obtain ⟨k,hk,rfl,rfl,ho⟩:=hrel
  by_cases hlt:k<4
  ·have hi:=HI.out k hlt;obtain ⟨hu,hu8⟩:=HU.out k hlt;have HO:Hid ((ofs t (k+1):Int)=ofs t k+U t k/\ofs t (k+1)=ofs t k+U t k):=⟨by show ((ofs t k+U t k:Nat):Int)=_;omega,rfl⟩;rw [hu] at hi;clear hu;generalize ofs t k=s at *;generalize U t k=u at *;go_wp2
   go_round
   case rel=>exact ⟨k+1,by omega,by go_num,by rw [HO.out.1],by rw [HO.out.2];omega⟩
   case measure=>simp [intOf];omega
  ·obtain rfl:k=4:=by omega
   go_wp2
   go_ret
   exact ⟨rfl,HB.out⟩
theorem drewN_bu {B:Nat} {a w:World} (h:Below B a w) (n:Nat):Below B a (w.drewN n):=⟨h.os,h.tape,h.output,h.size,h.block⟩
theorem allOf_any (a:Option Addr) (cap:Nat) (xs:List O) (c:Int) (w:World) (h:OpsAt w a xs) :
  Calls Tryz.prog 196 #[.slice a xs.length cap,.int .i64 c] w fun e w'=>e=.returned (.bool (xs.all (isB c)))/\Below w.heap.size w w':=by
 have HO:Hid (OpsAt w a xs):=h;have HI:Hid (∀ o,o∈xs->∀ W,Calls Tryz.prog 245 #[o.val,.int .i64 c] W fun e w'=>e=.returned (.bool (isB c o))/\Below W.heap.size W w'):=fun o ho W=>isOf_any o c W (h.ok o ho);have hlen:=h.len;clear h;obtain ⟨R,hR⟩:∃ R,xs.all (isB c)=R:=⟨_,rfl⟩;have HR0:Hid (xs.all (isB c)=R):=hR;rw [hR];clear hR;go_enter Tryz.func196,Tryz.ntmps196;go_wp2
 go_loopw [9] (fun i wr=>∃ k:Nat,k<=xs.length/\i=.int .i64 k/\(xs.take k).all (isB c)=true/\Below w.heap.size w wr) (fun i _=>xs.length-(intOf i).toNat)
 case atStart=>exact ⟨0,by omega,rfl,by simp,Below.refl _ _⟩
 case round=>
  rename World=>wr;obtain ⟨k,hk,rfl,ha,hbw⟩:=hrel;have HA:Hid ((xs.take k).all (isB c)=true/\Below w.heap.size w wr):=⟨ha,hbw⟩;clear ha hbw
  by_cases hlt:k<xs.length
  ·obtain ⟨b,f,rfl,hz,hx⟩:=(HO.out.below HA.out.2).is (by omega);obtain ⟨q0,q1,q2,q3,q4⟩:=hx k hlt;have HR:Hid (∀ W,Calls Tryz.prog 245 #[xs[k].val,.int .i64 c] W fun e w'=>e=.returned (.bool (isB c xs[k]))/\Below W.heap.size W w'):=HI.out _ (List.getElem_mem hlt);have HT:Hid (isB c xs[k]=true->(xs.take (k+1)).all (isB c)=true):=fun e=>by rw [List.take_succ_eq_append_getElem hlt,List.all_append,HA.out.1];simp [e]
   have HF:Hid (isB c xs[k]=false->R=false):=fun e=>by
    rw [<- HR0.out]
    cases hb:xs.all (isB c)
    ·rfl
    ·rw [List.all_eq_true.1 hb _ (List.getElem_mem hlt)] at e;cases e
   clear hx;generalize xs[k]=o at *
   cases hB:isB c o
   ·rw [hB] at HR;have hF:=HF.out hB;clear hB HT;go_wp2_with (first|(go_at_call 245;refine Calls.mono (HR.out _) ?_;rintro e w1 ⟨rfl,hb⟩;obtain ⟨-,hb0,hz1⟩:=one_new wr _ _ hb;have HB:Hid (Below w.heap.size w w1):=HA.out.2.trans (hb0.mono HA.out.2.size);clear hb hb0))
    go_ret
    exact ⟨ret_bool hF.symm,HB.out⟩
   ·rw [hB] at HR;have HT2:Hid _:=HT.out hB;clear hB HF HT;go_wp2_with (first|(go_at_call 245;refine Calls.mono (HR.out _) ?_;rintro e w1 ⟨rfl,hb⟩;obtain ⟨-,hb0,hz1⟩:=one_new wr _ _ hb;have HB:Hid (Below w.heap.size w w1):=HA.out.2.trans (hb0.mono HA.out.2.size);clear hb hb0))
    go_roundw
    case rel=>exact ⟨k+1,by omega,by go_num,HT2.out,HB.out⟩
    case measure=>simp [intOf];omega
  ·obtain rfl:k=xs.length:=by omega
   go_wp2
   go_ret
   exact ⟨ret_bool (by rw [<- HR0.out,<- HA.out.1,List.take_length]),HA.out.2⟩
theorem two_boxed (w:World) (x:Bn) (p:Pb) (t:Tab) (ty ty':TypeId):TabAt ((w.alloc (.cells (bcs x p) ty)).alloc (.cells t.cells ty')) (w.heap.size+1) t/\Below w.heap.size w ((w.alloc (.cells (bcs x p) ty)).alloc (.cells t.cells ty')):=by
 have h:=tabAt_new (w.alloc (.cells (bcs x p) ty)) t ty';rw [show (w.alloc (.cells (bcs x p) ty)).heap.size=w.heap.size+1 by simp] at h;exact ⟨h,by go_grown⟩
theorem wellFormed_any (x:Bn) (p:Pb) (t:Tab) (w:World) (hx:BnIn w x p) (ht:t.ok=true) :
  Calls Tryz.prog 135 #[bval x p,t.val] w fun e w'=>e=.returned (.bool (wfB t x))/\Below w.heap.size w w':=by
 have HU:Hid (∀ k,k<4->t.u k=(U t k:Int)/\U t k<=8):=fun k hk=>⟨u_nat ht hk,u_le ht hk⟩;have HI:Hid (∀ k:Nat,k<4->∀ w,(Instr.index 63 (bval x p) (.int .i64 k)).run Tryz.prog w=.ok (.slice (p.a k) (x.l k).length (p.c k)) w):=fun k hk w=>idx34 x p k hk w;have HA:Hid (∀ k:Nat,k<4->∀ W,Below w.heap.size w W->Calls Tryz.prog 196 #[.slice (p.a k) (x.l k).length (p.c k),.int .i64 k] W fun e w'=>e=.returned (.bool ((x.l k).all (isB k)))/\Below W.heap.size W w'):=fun k hk W hb=>allOf_any _ _ _ _ W ((hx.o k hk).below hb);have HL:Hid (∀ k,k<4->(x.l k).length<=8796093022208):=fun k hk=>(hx.o k hk).len;have HS:Hid (TabAt ((w.alloc (.cells (bcs x p) 65)).alloc (.cells t.cells 27)) (w.heap.size+1) t/\Below w.heap.size w ((w.alloc (.cells (bcs x p) 65)).alloc (.cells t.cells 27))):=two_boxed w x p t 65 27;clear hx ht;unfold Tab.val at *;go_enter Tryz.func135,Tryz.ntmps135;go_upto_region 2 with fail
 generalize ((w.alloc (.cells (bcs x p) 65)).alloc (.cells t.cells 27))=W0 at *
 go_loopw [9] (fun i wr=>∃ k:Nat,k<=4/\i=.int .i64 k/\wfK t x k=true/\TabAt wr (w.heap.size+1) t/\Below w.heap.size w wr) (fun i _=>4-(intOf i).toNat)
 case atStart=>exact ⟨0,by omega,rfl,rfl,HS.out⟩
 case round=>
  rename World=>wr;obtain ⟨k,hk,rfl,h1,h2,h3⟩:=hrel;have HQ:Hid (wfK t x k=true/\TabAt wr (w.heap.size+1) t/\Below w.heap.size w wr):=⟨h1,h2,h3⟩;clear h1 h2 h3 HS
  by_cases hlt:k<4
  ·have hi:=HI.out k hlt;have tu:=HQ.out.2.1.cu k hlt;rw [(HU.out k hlt).1] at tu;have tz:=HQ.out.2.1.lt;have hu8:=(HU.out k hlt).2;have hln:=HL.out k hlt;have k0:(0:Int)<=(k:Int):=by omega
   have k4:(k:Int)<4:=by omega
   have HA1:Hid (∀ W,Below w.heap.size w W->Calls Tryz.prog 196 #[.slice (p.a k) (x.l k).length (p.c k),.int .i64 k] W fun e w'=>e=.returned (.bool ((x.l k).all (isB k)))/\Below W.heap.size W w'):=HA.out k hlt;have HC:Hid (clsB t x k=(decide ((x.l k).length<=U t k)&&(x.l k).all (isB k))):=rfl;have HN:Hid (clsB t x k=false->wfB t x=false):=fun e=>wfK_no hlt e;have HY:Hid (clsB t x k=true->wfK t x (k+1)=true):=fun e=>by show (wfK t x k&&clsB t x k)=true;rw [HQ.out.1,e];rfl
   generalize clsB t x k=cb at *;generalize (x.l k).all (isB k)=ab at *;generalize (x.l k).length=n at *;generalize U t k=u at *;generalize p.a k=pa at *;generalize p.c k=pc at *
   by_cases hlu:n<=u
   ·have hlu':(n:Int)<=(u:Int):=by omega
    have hc:=HC.out;rw [decide_eq_true hlu,Bool.true_and] at hc
    cases ab
    ·have hR:=HN.out hc;clear HC HN HY hc hlu;go_wp2_with (first|(go_at_call 196;refine Calls.mono (HA1.out _ HQ.out.2.2) ?_;rintro e w1 ⟨rfl,hb⟩;have HB:Hid (Below w.heap.size w w1):=HQ.out.2.2.trans (hb.mono HQ.out.2.2.size);clear hb))
     go_ret
     exact ⟨ret_bool hR.symm,HB.out⟩
    ·have HY2:Hid _:=HY.out hc;clear HC HN HY hc hlu;go_wp2_with (first|(go_at_call 196;refine Calls.mono (HA1.out _ HQ.out.2.2) ?_;rintro e w1 ⟨rfl,hb⟩;have HB:Hid (TabAt w1 (w.heap.size+1) t/\Below w.heap.size w w1):=⟨HQ.out.2.1.below hb HQ.out.2.1.lt,HQ.out.2.2.trans (hb.mono HQ.out.2.2.size)⟩;clear hb))
     go_roundw
     case rel=>exact ⟨k+1,by omega,by go_num,HY2.out,HB.out⟩
     case measure=>simp [intOf];omega
   ·have hlu':(u:Int)<(n:Int):=by omega
    have hc:=HC.out;rw [decide_eq_false hlu,Bool.false_and] at hc;have hR:=HN.out hc;clear HC HN HY hc hlu;go_wp2_with fail
    go_ret
    exact ⟨ret_bool hR.symm,HQ.out.2.2⟩
  ·obtain rfl:k=4:=by omega
   go_wp2
   go_ret
   exact ⟨ret_bool HQ.out.1.symm,HQ.out.2.2⟩
def ckX (t:Tab) (x:Bn):Int:=if t.ok then (if wfB t x then 0 else 210) else 20
theorem ck_bad {t:Tab} (h:t.ok=false):ckR t=20:=by unfold ckR;rw [h];rfl
theorem ck_good {t:Tab} (h:t.ok=true):ckR t=0:=by unfold ckR;rw [h];rfl
theorem bcheck_any (x:Bn) (p:Pb) (t:Tab) (w:World) (hx:BnIn w x p) (hG:Bnds w) :
  Calls Tryz.prog 74 #[bval x p,t.val] w fun e w'=>e=.returned (.int .i64 (ckX t x))/\Below w.heap.size w w':=by
 have HC:Hid (∀ W,Below w.heap.size w W->Calls Tryz.prog 71 #[t.val] W fun e w'=>e=.returned (.int .i64 (ckR t))/\Below W.heap.size W w'):=fun W hb=>Tb.check_any t W (hG.below hb hG.big);have HN:Hid (NAt (w.alloc (.cells (bcs x p) 65)) w.heap.size 0 x p):=nat_new w x p 65
 cases ht:t.ok
 ·rw [ck_bad ht] at HC;rw [show ckX t x=20 by simp [ckX,ht]];clear ht hx hG;unfold Tab.val at *;go_enter Tryz.func74,Tryz.ntmps74;go_wp2_with (first|(go_at_call 71;refine Calls.mono (HC.out _ (by go_grown)) ?_;rintro e w1 ⟨rfl,hb⟩;obtain ⟨a1,a2,hb0,hz⟩:=two_new w _ _ _ _ hb;have HB:Hid (Below w.heap.size w w1):=hb0;clear hb hb0 a1 a2))
  go_ret
  exact ⟨rfl,HB.out⟩
 ·rw [ck_good ht] at HC;have HW:Hid (∀ W,Below w.heap.size w W->Calls Tryz.prog 135 #[bval x p,t.val] W fun e w'=>e=.returned (.bool (wfB t x))/\Below W.heap.size W w'):=fun W hb=>wellFormed_any x p t W (hx.below hb) ht;have e:ckX t x=if wfB t x then 0 else 210:=by simp [ckX,ht]
  rw [e];clear e ht hx hG;unfold Tab.val at *;generalize wfB t x=R at *
  cases R
  all_goals
   go_enter Tryz.func74,Tryz.ntmps74;go_wp2_with (first|(go_at_call 71;refine Calls.mono (HC.out _ (by go_grown)) ?_;rintro e w1 ⟨rfl,hb⟩;obtain ⟨a1,a2,hb0,hz⟩:=two_new w _ _ _ _ hb;have HB:Hid (Below w.heap.size w w1):=hb0;have x0:=a1.c 0 _ rfl;have x1:=a1.c 1 _ rfl;have x2:=a1.c 2 _ rfl;have x3:=a1.c 3 _ rfl;have c0:=a2.c 0 _ rfl;have c1:=a2.c 1 _ rfl;have c2:=a2.c 2 _ rfl;have c3:=a2.c 3 _ rfl;have c4:=a2.c 4 _ rfl;have c5:=a2.c 5 _ rfl;have c6:=a2.c 6 _ rfl;have c7:=a2.c 7 _ rfl;have c8:=a2.c 8 _ rfl;have c9:=a2.c 9 _ rfl;have c10:=a2.c 10 _ rfl;have c11:=a2.c 11 _ rfl;have c12:=a2.c 12 _ rfl;clear hb hb0 a1 a2)|(go_at_call 135;refine Calls.mono (HW.out _ HB.out) ?_;rintro e w2 ⟨rfl,hb⟩;have HB2:Hid (Below w.heap.size w w2):=HB.out.trans (hb.mono HB.out.size);clear hb))
   go_ret
   exact ⟨rfl,HB2.out⟩
end Go.Proofs.YtpdaknbmcpmhjaaGreatDoor.Bu
namespace Go.Proofs.YtpdaknbmcpmhjaaGreatDoor.Bu
open Go.ChangeShapes Go.WideShapes Go.ChangeAt Go.RowKit
open YtpdaknbmcpmhjaaGreatDoor.Op
open YtpdaknbmcpmhjaaGreatDoor.Tb (Tab TabAt Bnds four tabAt_new ckR)
open YtpdaknbmcpmhjaaGreatDoor.So
structure Wl (W:World) (b N:Nat) (ws:List Int):Prop where
 c:∀ k,k<N->W.cell? ⟨b,k,none⟩=some (.int .u64 (ws.getD k 0))
 f:∀ k,W.frozen? ⟨b,k,none⟩=false
 lt:b<W.heap.size
theorem Wl.fr {X:Nat->Prop} {W W':World} {b N:Nat} {ws:List Int} (a:Wl W b N ws) (g:Fr X W W') (hx:¬ X b):Wl W' b N ws:=
 ⟨fun k hk=>(g.cell a.lt hx k).trans (a.c k hk),fun k=>(g.frozen a.lt hx k).trans (a.f k),Nat.lt_of_lt_of_le a.lt g.size⟩
theorem Wl.up {W W':World} {b N:Nat} {ws:List Int} (a:Wl W b N ws) (g:Below W.heap.size W W'):Wl W' b N ws:=a.fr (Fr.of (X:=Non) g) fun h=>h
theorem getD_snoc (ws:List Int) (v:Int) (j:Nat):(ws++[v]).getD j 0=if j=ws.length then v else ws.getD j 0:=by
 rw [List.getD_eq_getElem?_getD,List.getD_eq_getElem?_getD]
 by_cases e:j=ws.length
 ·rw [if_pos e,List.getElem?_append_right (by omega),e];simp
 ·rw [if_neg e]
  by_cases h:j<ws.length
  ·rw [List.getElem?_append_left h]
  ·rw [List.getElem?_eq_none (by simp;omega),List.getElem?_eq_none (by omega)]
theorem getD_zeros (ws:List Int) (n j:Nat):(ws++List.replicate n 0).getD j 0=ws.getD j 0:=by
 rw [List.getD_eq_getElem?_getD,List.getD_eq_getElem?_getD]
 by_cases h:j<ws.length
 ·rw [List.getElem?_append_left h]
 ·rw [List.getElem?_append_right (by omega),List.getElem?_replicate,List.getElem?_eq_none (by omega)]
  split <;> rfl
theorem Wl.set {W:World} {b N:Nat} {ws:List Int} (a:Wl W b N ws) (v:Int):Wl (W.setCell ⟨b,ws.length,none⟩ (.int .u64 v)) b N (ws++[v]):=by
 refine ⟨fun j hj=>?_,fun j=>by rw [World.frozen?_setCell];exact a.f j,by simpa using a.lt⟩;rw [getD_snoc]
 by_cases e:j=ws.length
 ·subst e;rw [if_pos rfl,World.cell?_setCell_same _ _ _ (a.c _ hj)]
 ·rw [if_neg e,World.cell?_setCell_other]
  ·exact a.c j hj
  ·intro h';injection h' with _ h2;exact e h2.symm
theorem Wl.zeros {W:World} {b N:Nat} {ws:List Int} (a:Wl W b N ws) (n:Nat):Wl W b N (ws++List.replicate n 0):=
 ⟨fun k hk=>by rw [getD_zeros];exact a.c k hk,a.f,a.lt⟩
theorem add_bu (b f n:Nat):(⟨b,f,none⟩:Addr).add n=⟨b,f+n,none⟩:=by
 unfold Addr.add
 split
 ·rename_i h;subst h;rfl
 ·rfl
theorem cut_at {a:Option Addr} {b F n c u:Nat} (h:0<n->a=some ⟨b,F,none⟩) (hc:n<=c) (h0:0<n-u):(if c=u then a else Option.map (fun x=>x.add u) a)=some ⟨b,F+u,none⟩:=by
 rw [if_neg (by omega),h (by omega)];simp [add_bu]
structure Wt (w W:World) (b N:Nat) (t:Tab) (ws:List Int):Prop where
 wl:Wl W b N ws
 t:TabAt W (w.heap.size+1) t
 fr:Fr (One b) w W
 lt:b<w.heap.size
theorem Wt.next {w W W':World} {b N:Nat} {t:Tab} {ws:List Int} (h:Wt w W b N t ws) (g:Below W.heap.size W W'):Wt w W' b N t ws:=
 ⟨h.wl.up g,h.t.below g h.t.lt,h.fr.then g,h.lt⟩
theorem Wt.set {w W:World} {b N:Nat} {t:Tab} {ws:List Int} (h:Wt w W b N t ws) (v:Int):Wt w (W.setCell ⟨b,ws.length,none⟩ (.int .u64 v)) b N t (ws++[v]):=by
 have hl:=h.lt;have hz:=h.fr.size;have g:Fr (One b) W (W.setCell ⟨b,ws.length,none⟩ (.int .u64 v)):=(Fr.refl (One b) W).setCell (.inr rfl) _ _;have ht:=h.t;refine ⟨h.wl.set v,?_,h.fr.same g,hl⟩;exact ⟨fun k hk=>(g.cell ht.lt (by show ¬ _=b;omega) k).trans (ht.cu k hk),fun k hk=>(g.cell ht.lt (by show ¬ _=b;omega) _).trans (ht.cl k hk),fun k hk=>(g.cell ht.lt (by show ¬ _=b;omega) _).trans (ht.cb k hk),(g.cell ht.lt (by show ¬ _=b;omega) _).trans ht.cd,by simpa using ht.lt⟩
theorem Wt.zeros {w W:World} {b N:Nat} {t:Tab} {ws:List Int} (h:Wt w W b N t ws) (n:Nat):Wt w W b N t (ws++List.replicate n 0):=⟨h.wl.zeros n,h.t,h.fr,h.lt⟩
theorem info282:(Tryz.prog.info? 282).map (fun i=>(i.zero,i.size,i.bytes))=some (some (.int .u64 0),1,8):=by kernel_rfl
theorem write_any (x:Bn) (p:Pb) (t:Tab) (w0 w:World) (b N n c:Nat) (ao:Option Addr) (ws:List Int) (hx:BnIn w0 x p) (hw0:Below w0.heap.size w0 w) (hb:w0.heap.size<=b) (hl:Wl w b N ws) (ht:t.ok=true) (hw:wfB t x=true)
  (hn:n+ws.length=N) (hc:n<=c) (ha:0<n->ao=some ⟨b,ws.length,none⟩) (ho:ofs t 4<=n) (hN:N<=4194304) :
  Calls Tryz.prog 203 #[.slice ao n c,bval x p,t.val] w fun e w'=>e=.returned (.tuple #[])/\Wl w' b N (ws++wBk t x 4)/\Fr (One b) w w':=by
 have HU:Hid (∀ k,k<4->t.u k=(U t k:Int)/\U t k<=8):=fun k hk=>⟨u_nat ht hk,u_le ht hk⟩;have HI:Hid (∀ k:Nat,k<4->∀ w,(Instr.index 63 (bval x p) (.int .i64 k)).run Tryz.prog w=.ok (.slice (p.a k) (x.l k).length (p.c k)) w):=fun k hk w=>idx34 x p k hk w;have hwf:=wfK_iff.1 hw;have HL:Hid (∀ k,k<4->(x.l k).length<=U t k/\ofs t k+U t k<=n/\(wBk t x k).length=ofs t k/\wBk t x (k+1)=wBk t x k++wsL (U t k) (x.l k)):=fun k hk=>⟨(clsB_parts (hwf k hk)).1,Nat.le_trans (ofs_mono hk) ho,wBk_len (wfK_iff.2 fun j hj=>hwf j (by omega)),rfl⟩;have HF:Hid (∀ k,k<4->∀ o∈x.l k,Fld o):=fun k hk o hm=>isB_fld ((hx.o k hk).ok o hm) (List.all_eq_true.1 (clsB_parts (hwf k hk)).2 o hm);have HX:Hid (∀ W,Fr (One b) w W->BnIn W x p):=fun W g=>by
  refine hx.below (hw0.trans (g.below hw0.size fun k hk e=>?_));have e:k=b:=e;omega
 have HS:Hid (Wt w ((w.alloc (.cells (bcs x p) 65)).alloc (.cells t.cells 27)) b N t ws):=⟨hl.up (two_boxed w x p t 65 27).2,(two_boxed w x p t 65 27).1,Fr.of (two_boxed w x p t 65 27).2,hl.lt⟩;have HA:Hid (0<n->ao=some ⟨b,ws.length,none⟩):=ha;clear hx ht hw hwf hw0 hb hl ha;unfold Tab.val at *;go_enter Tryz.func203,Tryz.ntmps203;go_upto_region 2 with fail
 generalize ((w.alloc (.cells (bcs x p) 65)).alloc (.cells t.cells 27))=W0 at *
 go_loopw [0,12] (fun s i wr=>∃ (k n' c':Nat) (a':Option Addr),k<=4/\i=.int .i64 k/\s=.slice a' n' c'/\n'+(ws.length+ofs t k)=N/\n'<=c'/\(0<n'->a'=some ⟨b,ws.length+ofs t k,none⟩)/\Wt w wr b N t (ws++wBk t x k)) (fun _ i _=>4-(intOf i).toNat)
 case atStart=>exact ⟨0,n,c,ao,by omega,rfl,rfl,by simpa [ofs] using hn,hc,fun h=>HA.out h,by simpa [wBk] using HS.out⟩
 case round=>
  rename World=>wr;obtain ⟨k,n',c',a',hk,rfl,rfl,g1,g2,g3,g4⟩:=hrel;obtain ⟨F,hF⟩:∃ F,F=ws.length+ofs t k:=⟨_,rfl⟩;rw [<- hF] at g1 g3;have HFd:Hid (F=ws.length+ofs t k):=hF;clear hF;have HQ:Hid ((0<n'->a'=some ⟨b,F,none⟩)/\Wt w wr b N t (ws++wBk t x k)):=⟨g3,g4⟩;clear g3 g4 HS HA
  by_cases hlt:k<4
  ·have hi:=HI.out k hlt;have k0:(0:Int)<=(k:Int):=by omega
   have k4:(k:Int)<4:=by omega
   obtain ⟨l1,l2,l3,l4⟩:=HL.out k hlt;have HL4:Hid (wBk t x (k+1)=wBk t x k++wsL (U t k) (x.l k)/\(wBk t x k).length=ofs t k):=⟨l4,l3⟩;have HXk:Hid (∀ W,Fr (One b) w W->OpsAt W (p.a k) (x.l k)):=fun W g=>(HX.out W g).o k hlt;have HFk:Hid (∀ o∈x.l k,Fld o):=HF.out k hlt;have hu8:=(HU.out k hlt).2;have HUk:Hid (t.u k=(U t k:Int)):=(HU.out k hlt).1;have hUn:U t k<=n':=by have:=HFd.out;omega
   clear l3 l4;obtain ⟨L,hL⟩:∃ L,ws++wBk t x k=L:=⟨_,rfl⟩;have HLL:Hid (L.length=F):=(by rw [<- hL,List.length_append,HL4.out.2,HFd.out]:L.length=F);have HNx:Hid (ws++wBk t x (k+1)=L++wsL (U t k) (x.l k)):=(by rw [HL4.out.1,<- hL,List.append_assoc]:ws++wBk t x (k+1)=L++wsL (U t k) (x.l k));have HQ1:Hid ((0<n'->a'=some ⟨b,F,none⟩)/\Wt w wr b N t L):=by rw [<- hL];exact HQ.out
   clear hL HL4 HQ HI HF HX HU HL;have HOn:Hid (ofs t (k+1)=ofs t k+U t k):=rfl;obtain ⟨xs,hxs⟩:∃ xs,x.l k=xs:=⟨_,rfl⟩;rw [hxs] at hi HXk HFk HNx l1;clear hxs;generalize p.a k=pa at *;generalize p.c k=pc at *;have hxl:(xs.length:Int)<=8:=by omega
   go_upto_region 5 with fail
   go_loopw [18] (fun v wz=>∃ i:Nat,i<=xs.length/\v=.int .i64 i/\Wt w wz b N t (L++(xs.take i).map wdO)) (fun v _=>xs.length-(intOf v).toNat)
   case atStart=>exact ⟨0,by omega,rfl,by simpa using HQ1.out.2⟩
   case round=>
    rename World=>wz;obtain ⟨i,hi',rfl,hs⟩:=hrel;have HZ:Hid (Wt w wz b N t (L++(xs.take i).map wdO)):=hs;clear hs
    by_cases hil:i<xs.length
    ·have i0:(0:Int)<=(i:Int):=by omega
     have i1:(i:Int)<(xs.length:Int):=by omega
     have i2:(i:Int)<(n':Int):=by omega
     obtain ⟨ob,of,hoa,hz,hx⟩:=(HXk.out wz HZ.out.fr).is (by omega);subst hoa;obtain ⟨q0,q1,q2,q3,q4⟩:=hx i hil;have hpa:=HQ1.out.1 (by omega);subst hpa;have HW:Hid (∀ W,Calls Tryz.prog 252 #[xs[i].val] W fun e w'=>e=.returned (.int .u64 (wdO xs[i]))/\Below W.heap.size W w'):=fun W=>wordOf_any _ W (HFk.out _ (List.getElem_mem hil));have HT:Hid (L++(xs.take (i+1)).map wdO=(L++(xs.take i).map wdO)++[wdO xs[i]]):=(by rw [List.take_succ_eq_append_getElem hil,List.map_append,<- List.append_assoc];rfl:L++(xs.take (i+1)).map wdO=(L++(xs.take i).map wdO)++[wdO xs[i]]);have HLn:Hid ((L++(xs.take i).map wdO).length=F+i):=(by rw [List.length_append,HLL.out,List.length_map,List.length_take,Nat.min_eq_left (by omega)]:(L++(xs.take i).map wdO).length=F+i);clear hx;generalize xs[i]=o at *;generalize L++(xs.take i).map wdO=M at *;go_upto_region 7 with fail
     have HZ2:Hid (Wt w (wz.alloc (.cells #[.int .i8 o.op,.int .u8 o.d,.int .u8 o.a,.int .u8 o.b,.int .i64 o.im] 60)) b N t M/\At (wz.alloc (.cells #[.int .i8 o.op,.int .u8 o.d,.int .u8 o.a,.int .u8 o.b,.int .i64 o.im] 60)) wz.heap.size o.cells):=⟨HZ.out.next ((Below.refl _ _).alloc (Nat.le_refl _) _),At.new _ _ _⟩;generalize (wz.alloc (.cells #[.int .i8 o.op,.int .u8 o.d,.int .u8 o.a,.int .u8 o.b,.int .i64 o.im] 60))=X at *;obtain ⟨o0,o1,o2,o3,o4⟩:=HZ2.out.2.o5;clear q0 q1 q2 q3 q4 hz HZ;go_wp2_with (first
      | (go_at_call 252;refine Calls.mono (HW.out _) ?_;rintro e w2 ⟨rfl,hb2⟩;have HZ3:Hid (Wt w w2 b N t M):=HZ2.out.1.next hb2;clear hb2 HW HZ2 o0 o1 o2 o3 o4;have hcc:=HZ3.out.wl.c (F+i) (by omega);have hff:=HZ3.out.wl.f (F+i);have hll:=HZ3.out.wl.lt))
     go_roundw
     case rel=>exact ⟨i+1,by omega,by go_num,by rw [HT.out,<- HLn.out];exact HZ3.out.set _⟩
     case measure=>simp [intOf];omega
    ·obtain rfl:i=xs.length:=by omega
     have tu:=HZ.out.t.cu k hlt;rw [HUk.out] at tu;have tz:=HZ.out.t.lt;have HE:Hid (Wt w wz b N t (ws++wBk t x (k+1))):=by
      rw [HNx.out];unfold wsL;rw [<- List.append_assoc]
      have:=HZ.out
      rw [List.take_length] at this;exact this.zeros _
     clear HZ;generalize U t k=u at *;have u0:(0:Int)<=(u:Int):=by omega
     have u1:(u:Int)<=(n':Int):=by omega
     go_wp2_with fail
     go_roundw
     case rel=>exact ⟨k+1,n'-u,c'-u,_,by omega,by go_num,rfl,by have h1:=HOn.out;have h2:=HFd.out;omega,by omega,fun h=>by rw [HOn.out,<- Nat.add_assoc,<- HFd.out];exact cut_at HQ1.out.1 g2 h,HE.out⟩
     case measure=>simp [intOf];omega
  ·obtain rfl:k=4:=by omega
   go_wp2
   refine bodyPost_end (v:=.tuple #[]) (by kernel_rfl) rfl ⟨rfl,HQ.out.2.wl,HQ.out.2.fr⟩
end Go.Proofs.YtpdaknbmcpmhjaaGreatDoor.Bu
