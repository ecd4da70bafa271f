/- Parts QBd QRk QNa QLu. -/
import Derived.Test.YtcmlnemokckbdaaGreatDoorN23
import Derived.WalkKit
import Derived.ProofKit
import Derived.Laws.BitsAllLaws
import Derived.OpenShut
import Derived.Laws.Bits128
import Derived.Test.YtcmlnemokckbdaaGreatDoorN24
import Derived.Test.YtcmlnemokckbdaaGreatDoorN29
set_option maxRecDepth 20000
namespace Go.Proofs.YtcmlnemokckbdaaGreatDoor.L8.Op
def fieldB (a n:Int):Bool:=decide (1<=n/\n<=64/\0<=a/\a<=64-n)
def getN (X a n:Nat):Nat:=X / 2^a%2^n
theorem ones_div (n:Nat) (h:n<=64):18446744073709551615 / 2^(64-n)=2^n-1:=by
 have e:(18446744073709551616:Nat)=2^n*2^(64-n):=by
  rw [<- Nat.pow_add,show n+(64-n)=64 by omega]
 have hp:0<2^(64-n):=Nat.two_pow_pos _;have hn:0<2^n:=Nat.two_pow_pos _;refine Nat.div_eq_of_lt_le ?_ ?_
 ·rw [Nat.sub_mul,<- e];omega
 ·rw [Nat.sub_add_cancel hn,<- e];omega
theorem get_masks (X a n:Nat):X / 2^a &&& (2^n-1)=getN X a n:=by
 unfold getN;exact Nat.and_two_pow_sub_one_eq_mod _ _
end Go.Proofs.YtcmlnemokckbdaaGreatDoor.L8.Op
namespace Go.Proofs.YtcmlnemokckbdaaGreatDoor.L8.Op
open Go.RowKit
def getI (x a n:Int):Int:=if fieldB a n=true then ((getN x.toNat a.toNat n.toNat : Nat):Int) else 0
theorem field_iff (a n:Int):fieldB a n=true↔1<=n/\n<=64/\0<=a/\a<=64-n:=by unfold fieldB;simp
theorem pow_cast (k:Nat):((2:Int)^k)=((2^k:Nat):Int):=by simp
theorem ones_int (n:Int) (h1:1<=n) (h2:n<=64):(18446744073709551615:Int) / 2^(64-n).toNat = ((2^n.toNat - 1:Nat):Int):=by
 rw [pow_cast,show (18446744073709551615:Int)=((18446744073709551615:Nat):Int) from rfl,<- Int.natCast_ediv,
  show (64-n).toNat = 64-n.toNat by omega,ones_div n.toNat (by omega)]
theorem get_form (x a n:Int) (h1:1<=n) (h2:n<=64) (h3:0<=a) (h4:a<=64-n)
  (x0:0<=x) (x1:x<18446744073709551616) :
  bits BinOp.and IntKind.u64 (x / 2^a.toNat) (18446744073709551615 / 2^(64-n).toNat)=getI x a n:=by
 unfold getI;rw [if_pos ((field_iff a n).2 ⟨h1,h2,h3,h4⟩),ones_int n h1 h2];obtain ⟨X,rfl⟩:=Int.eq_ofNat_of_zero_le x0;have hq:X / 2^a.toNat<=X:=Nat.div_le_self _ _;have hn:2^n.toNat<=2^64:=Nat.pow_le_pow_right (by decide) (by omega);rw [pow_cast,<- Int.natCast_ediv,u64_and_nat _ _ (by omega) (by omega),get_masks,Int.toNat_natCast]
end Go.Proofs.YtcmlnemokckbdaaGreatDoor.L8.Op
namespace Go.Proofs.YtcmlnemokckbdaaGreatDoor.L8.Op
open Go.ChangeShapes Go.WideShapes Go.ChangeAt Go.RowKit
theorem isField_any (a n:Int) (w:World) :
  Calls Tryz.prog 187 #[.int .i64 a,.int .i64 n] w fun e w'=>e=.returned (.bool (fieldB a n))/\w'=w:=by
 by_cases h1:1<=n
 ·by_cases h2:n<=64
  ·by_cases h3:0<=a
   all_goals
    go_enter Tryz.func187,Tryz.ntmps187;go_wp2
    go_ret
    refine ⟨ret_bool ?_,rfl⟩;rw [Bool.eq_iff_iff,field_iff];simp;omega
  ·go_enter Tryz.func187,Tryz.ntmps187;go_wp2
   go_ret
   refine ⟨ret_bool ?_,rfl⟩;rw [Bool.eq_iff_iff,field_iff];simp;omega
 ·go_enter Tryz.func187,Tryz.ntmps187;go_wp2
  go_ret
  refine ⟨ret_bool ?_,rfl⟩;rw [Bool.eq_iff_iff,field_iff];simp;omega
theorem lowest_any (n:Int) (w:World) (h1:1<=n) (h2:n<=64) :
  Calls Tryz.prog 188 #[.int .i64 n] w fun e w'=>e=.returned (.int .u64 (18446744073709551615 / 2^(64-n).toNat))/\w'=w:=by
 go_enter Tryz.func188,Tryz.ntmps188;go_wp2
 go_ret
 exact ⟨rfl,rfl⟩
theorem get_any (x a n:Int) (w:World) (x0:0<=x) (x1:x<18446744073709551616) :
  Calls Tryz.prog 170 #[.int .u64 x,.int .i64 a,.int .i64 n] w fun e w'=>e=.returned (.int .u64 (getI x a n))/\w'=w:=by
 cases h:fieldB a n
 ·have H0:getI x a n=0:=by unfold getI;rw [if_neg (by rw [h];decide)]
  have H:Hid (getI x a n=0):=H0;clear H0;go_enter Tryz.func170,Tryz.ntmps170;go_wp2_with (go_at_call 187;refine (isField_any _ _ _).mono ?_;rintro e w' ⟨rfl,rfl⟩)
  go_ret
  exact ⟨ret_int H.out.symm,rfl⟩
 ·obtain ⟨h1,h2,h3,h4⟩:=(field_iff a n).1 h;have H:Hid _:=(get_form x a n h1 h2 h3 h4 x0 x1);go_enter Tryz.func170,Tryz.ntmps170;go_wp2_with (first|(go_at_call 187;refine (isField_any _ _ _).mono ?_;rintro e w' ⟨rfl,rfl⟩)|(go_at_call 188;refine (lowest_any _ _ (by omega) (by omega)).mono ?_;rintro e w' ⟨rfl,rfl⟩))
  go_ret
  exact ⟨ret_int (H.out),rfl⟩
end Go.Proofs.YtcmlnemokckbdaaGreatDoor.L8.Op
namespace Go.Proofs.YtcmlnemokckbdaaGreatDoor.L8.Op
open Go.ChangeShapes Go.WideShapes Go.ChangeAt Go.RowKit
theorem get6 (b:Int):getI (IntKind.u64.wrap b) 0 6=b%64:=by
 unfold getI;rw [if_pos (by decide),getN,IntKind.wrap_u64];have h:0<=b%18446744073709551616:=by omega
 simp
 omega
theorem wm (x:Int):wrap64 x%18446744073709551616=x%18446744073709551616:=by unfold wrap64;omega
theorem we {x y:Int} (h:x%18446744073709551616=y%18446744073709551616):wrap64 x=wrap64 y:=by unfold wrap64;omega
theorem wid {x:Int} (h1 : -9223372036854775808<=x) (h2:x<=9223372036854775807):wrap64 x=x:=by unfold wrap64;omega
theorem tmod_le (a b:Int) (h1 : -9223372036854775808<=a) (h2:a<=9223372036854775807) : -9223372036854775808<=a.tmod b/\a.tmod b<=9223372036854775807:=by
 have h:=Int.natAbs_tmod a b;have h3:a.natAbs%b.natAbs<=a.natAbs:=Nat.mod_le _ _;rcases Int.le_total 0 a with h0|h0
 ·have:=Int.tmod_nonneg b h0
  omega
 ·have:a.tmod b<=0:=by
   have:=Int.tmod_nonneg b (show 0≤-a by omega)
   rw [Int.neg_tmod] at this;omega
  omega
theorem rest_form (a b:Int) (h1 : -9223372036854775808<=a) (h2:a<=9223372036854775807) :
  wrap64 (a-wrap64 (wrap64 (a.tdiv b)*b))=a.tmod b:=by
 have e:wrap64 (a-wrap64 (wrap64 (a.tdiv b)*b))=wrap64 (a.tmod b):=by
  refine we ?_;rw [Int.tmod_def,Int.sub_emod,wm,Int.mul_emod,wm,<- Int.mul_emod,<- Int.sub_emod,Int.mul_comm]
 have h:=tmod_le a b h1 h2;rw [e,wid h.1 h.2]
def b2i (x:Bool):Int:=if x then 1 else 0
def rkV (d a b:Int):Int:=
 if d=2 then wrap64 (a+b) else if d=3 then wrap64 (a-b) else if d=4 then bits .and .i64 a b else if d=5 then bits .or .i64 a b else if d=6 then bits .xor .i64 a b
 else if d=7 then wrap64 (a*2^(b%64).toNat) else if d=8 then a / 2^(b%64).toNat else if d=9 then b2i (decide (a<b)) else if d=10 then b2i (a==b) else if d=11 then a
 else if d=12 then wrap64 (a*b) else if d=13 then (if b=0 then 0 else wrap64 (a.tdiv b)) else if d=14 then (if b=0 then 0 else a.tmod b) else 0
def rkE (d b:Int):Int:=if 2<=d/\d<=12 then 0 else if d=13\/d=14 then (if b=0 then 101 else 0) else 2
theorem dist_any (b:Int) (w:World) :
  Calls Tryz.prog 149 #[.int .i64 b] w fun e w'=>e=.returned (.int .u64 (b%64))/\w'=w:=by
 go_enter Tryz.func149,Tryz.ntmps149;go_wp2_with (first|(go_at_call 170;refine (get_any _ _ _ _ (by rw [IntKind.wrap_u64];omega) (by rw [IntKind.wrap_u64];omega)).mono ?_;rintro e w' ⟨rfl,rfl⟩))
 go_ret
 exact ⟨ret_int (get6 b),rfl⟩
theorem oneIf_any (x:Bool) (w:World):Calls Tryz.prog 150 #[.bool x] w fun e w'=>e=.returned (.int .i64 (b2i x))/\w'=w:=by
 cases x
 all_goals
  go_enter Tryz.func150,Tryz.ntmps150;go_wp2
  go_ret
  exact ⟨rfl,rfl⟩
theorem rk2 (a b:Int) (w:World):Calls Tryz.prog 112 #[.int .i8 2,.int .i64 a,.int .i64 b] w fun e w'=>e=.returned (.tuple #[.int .i64 (rkV 2 a b),.int .i64 (rkE 2 b)])/\w'=w:=by
 go_enter Tryz.func112,Tryz.ntmps112;go_wp2_with (first|(go_at_call 149;refine (dist_any _ _).mono ?_;rintro e w' ⟨rfl,rfl⟩)|(go_at_call 150;refine (oneIf_any _ _).mono ?_;rintro e w' ⟨rfl,rfl⟩)|go_in)
 go_ret2
 exact ⟨rfl,rfl⟩
theorem rk3 (a b:Int) (w:World):Calls Tryz.prog 112 #[.int .i8 3,.int .i64 a,.int .i64 b] w fun e w'=>e=.returned (.tuple #[.int .i64 (rkV 3 a b),.int .i64 (rkE 3 b)])/\w'=w:=by
 go_enter Tryz.func112,Tryz.ntmps112;go_wp2_with (first|(go_at_call 149;refine (dist_any _ _).mono ?_;rintro e w' ⟨rfl,rfl⟩)|(go_at_call 150;refine (oneIf_any _ _).mono ?_;rintro e w' ⟨rfl,rfl⟩)|go_in)
 go_ret2
 exact ⟨rfl,rfl⟩
theorem rk4 (a b:Int) (w:World):Calls Tryz.prog 112 #[.int .i8 4,.int .i64 a,.int .i64 b] w fun e w'=>e=.returned (.tuple #[.int .i64 (rkV 4 a b),.int .i64 (rkE 4 b)])/\w'=w:=by
 go_enter Tryz.func112,Tryz.ntmps112;go_wp2_with (first|(go_at_call 149;refine (dist_any _ _).mono ?_;rintro e w' ⟨rfl,rfl⟩)|(go_at_call 150;refine (oneIf_any _ _).mono ?_;rintro e w' ⟨rfl,rfl⟩)|go_in)
 go_ret2
 exact ⟨rfl,rfl⟩
theorem rk5 (a b:Int) (w:World):Calls Tryz.prog 112 #[.int .i8 5,.int .i64 a,.int .i64 b] w fun e w'=>e=.returned (.tuple #[.int .i64 (rkV 5 a b),.int .i64 (rkE 5 b)])/\w'=w:=by
 go_enter Tryz.func112,Tryz.ntmps112;go_wp2_with (first|(go_at_call 149;refine (dist_any _ _).mono ?_;rintro e w' ⟨rfl,rfl⟩)|(go_at_call 150;refine (oneIf_any _ _).mono ?_;rintro e w' ⟨rfl,rfl⟩)|go_in)
 go_ret2
 exact ⟨rfl,rfl⟩
theorem rk6 (a b:Int) (w:World):Calls Tryz.prog 112 #[.int .i8 6,.int .i64 a,.int .i64 b] w fun e w'=>e=.returned (.tuple #[.int .i64 (rkV 6 a b),.int .i64 (rkE 6 b)])/\w'=w:=by
 go_enter Tryz.func112,Tryz.ntmps112;go_wp2_with (first|(go_at_call 149;refine (dist_any _ _).mono ?_;rintro e w' ⟨rfl,rfl⟩)|(go_at_call 150;refine (oneIf_any _ _).mono ?_;rintro e w' ⟨rfl,rfl⟩)|go_in)
 go_ret2
 exact ⟨rfl,rfl⟩
theorem rk7 (a b:Int) (w:World):Calls Tryz.prog 112 #[.int .i8 7,.int .i64 a,.int .i64 b] w fun e w'=>e=.returned (.tuple #[.int .i64 (rkV 7 a b),.int .i64 (rkE 7 b)])/\w'=w:=by
 have hd:0<=b%64:=by omega
 have hd2:b%64<64:=by omega
 go_enter Tryz.func112,Tryz.ntmps112;go_wp2_with (first|(go_at_call 149;refine (dist_any _ _).mono ?_;rintro e w' ⟨rfl,rfl⟩)|(go_at_call 150;refine (oneIf_any _ _).mono ?_;rintro e w' ⟨rfl,rfl⟩)|go_in)
 go_ret2
 exact ⟨rfl,rfl⟩
theorem rk8 (a b:Int) (w:World):Calls Tryz.prog 112 #[.int .i8 8,.int .i64 a,.int .i64 b] w fun e w'=>e=.returned (.tuple #[.int .i64 (rkV 8 a b),.int .i64 (rkE 8 b)])/\w'=w:=by
 have hd:0<=b%64:=by omega
 have hd2:b%64<64:=by omega
 go_enter Tryz.func112,Tryz.ntmps112;go_wp2_with (first|(go_at_call 149;refine (dist_any _ _).mono ?_;rintro e w' ⟨rfl,rfl⟩)|(go_at_call 150;refine (oneIf_any _ _).mono ?_;rintro e w' ⟨rfl,rfl⟩)|go_in)
 go_ret2
 exact ⟨rfl,rfl⟩
theorem rk9 (a b:Int) (w:World):Calls Tryz.prog 112 #[.int .i8 9,.int .i64 a,.int .i64 b] w fun e w'=>e=.returned (.tuple #[.int .i64 (rkV 9 a b),.int .i64 (rkE 9 b)])/\w'=w:=by
 go_enter Tryz.func112,Tryz.ntmps112;go_wp2_with (first|(go_at_call 149;refine (dist_any _ _).mono ?_;rintro e w' ⟨rfl,rfl⟩)|(go_at_call 150;refine (oneIf_any _ _).mono ?_;rintro e w' ⟨rfl,rfl⟩)|go_in)
 go_ret2
 exact ⟨rfl,rfl⟩
theorem rk10 (a b:Int) (w:World):Calls Tryz.prog 112 #[.int .i8 10,.int .i64 a,.int .i64 b] w fun e w'=>e=.returned (.tuple #[.int .i64 (rkV 10 a b),.int .i64 (rkE 10 b)])/\w'=w:=by
 go_enter Tryz.func112,Tryz.ntmps112;go_wp2_with (first|(go_at_call 149;refine (dist_any _ _).mono ?_;rintro e w' ⟨rfl,rfl⟩)|(go_at_call 150;refine (oneIf_any _ _).mono ?_;rintro e w' ⟨rfl,rfl⟩)|go_in)
 go_ret2
 exact ⟨rfl,rfl⟩
theorem rk11 (a b:Int) (w:World):Calls Tryz.prog 112 #[.int .i8 11,.int .i64 a,.int .i64 b] w fun e w'=>e=.returned (.tuple #[.int .i64 (rkV 11 a b),.int .i64 (rkE 11 b)])/\w'=w:=by
 go_enter Tryz.func112,Tryz.ntmps112;go_wp2_with (first|(go_at_call 149;refine (dist_any _ _).mono ?_;rintro e w' ⟨rfl,rfl⟩)|(go_at_call 150;refine (oneIf_any _ _).mono ?_;rintro e w' ⟨rfl,rfl⟩)|go_in)
 go_ret2
 exact ⟨rfl,rfl⟩
theorem rk12 (a b:Int) (w:World):Calls Tryz.prog 112 #[.int .i8 12,.int .i64 a,.int .i64 b] w fun e w'=>e=.returned (.tuple #[.int .i64 (rkV 12 a b),.int .i64 (rkE 12 b)])/\w'=w:=by
 go_enter Tryz.func112,Tryz.ntmps112;go_wp2_with (first|(go_at_call 149;refine (dist_any _ _).mono ?_;rintro e w' ⟨rfl,rfl⟩)|(go_at_call 150;refine (oneIf_any _ _).mono ?_;rintro e w' ⟨rfl,rfl⟩)|go_in)
 go_ret2
 exact ⟨rfl,rfl⟩
theorem rk13 (a b:Int) (w:World) (h1 : -9223372036854775808<=a) (h2:a<=9223372036854775807):Calls Tryz.prog 112 #[.int .i8 13,.int .i64 a,.int .i64 b] w fun e w'=>e=.returned (.tuple #[.int .i64 (rkV 13 a b),.int .i64 (rkE 13 b)])/\w'=w:=by
 have hr:Hid (wrap64 (a-wrap64 (wrap64 (a.tdiv b)*b))=a.tmod b):=rest_form a b h1 h2;clear h1 h2
 by_cases hb:b=0
 ·have e1:rkV 13 a b=0:=by subst hb;rfl
  have e2:rkE 13 b=101:=by subst hb;rfl
  rw [e1,e2];subst hb;clear hr e1 e2;go_enter Tryz.func112,Tryz.ntmps112;go_wp2_with (first|(go_at_call 149;refine (dist_any _ _).mono ?_;rintro e w' ⟨rfl,rfl⟩)|(go_at_call 150;refine (oneIf_any _ _).mono ?_;rintro e w' ⟨rfl,rfl⟩)|go_in)
  go_ret2
  exact ⟨rfl,rfl⟩
 ·have e1:rkV 13 a b=wrap64 (a.tdiv b):=by unfold rkV;simp [hb]
  have e2:rkE 13 b=0:=by unfold rkE;simp [hb]
  rw [e1,e2];clear e1 e2;have hq:(b==0)=false:=by simp [hb]
  go_enter Tryz.func112,Tryz.ntmps112;go_wp2_with (first|(go_at_call 149;refine (dist_any _ _).mono ?_;rintro e w' ⟨rfl,rfl⟩)|(go_at_call 150;refine (oneIf_any _ _).mono ?_;rintro e w' ⟨rfl,rfl⟩)|go_in)
  go_ret2
  exact ⟨rfl,rfl⟩
theorem rk14 (a b:Int) (w:World) (h1 : -9223372036854775808<=a) (h2:a<=9223372036854775807):Calls Tryz.prog 112 #[.int .i8 14,.int .i64 a,.int .i64 b] w fun e w'=>e=.returned (.tuple #[.int .i64 (rkV 14 a b),.int .i64 (rkE 14 b)])/\w'=w:=by
 have hr:Hid (wrap64 (a-wrap64 (wrap64 (a.tdiv b)*b))=a.tmod b):=rest_form a b h1 h2;clear h1 h2
 by_cases hb:b=0
 ·have e1:rkV 14 a b=0:=by subst hb;rfl
  have e2:rkE 14 b=101:=by subst hb;rfl
  rw [e1,e2];subst hb;clear hr e1 e2;go_enter Tryz.func112,Tryz.ntmps112;go_wp2_with (first|(go_at_call 149;refine (dist_any _ _).mono ?_;rintro e w' ⟨rfl,rfl⟩)|(go_at_call 150;refine (oneIf_any _ _).mono ?_;rintro e w' ⟨rfl,rfl⟩)|go_in)
  go_ret2
  exact ⟨rfl,rfl⟩
 ·have e1:rkV 14 a b=a.tmod b:=by unfold rkV;simp [hb]
  have e2:rkE 14 b=0:=by unfold rkE;simp [hb]
  rw [e1,e2];clear e1 e2;have hq:(b==0)=false:=by simp [hb]
  go_enter Tryz.func112,Tryz.ntmps112;go_wp2_with (first|(go_at_call 149;refine (dist_any _ _).mono ?_;rintro e w' ⟨rfl,rfl⟩)|(go_at_call 150;refine (oneIf_any _ _).mono ?_;rintro e w' ⟨rfl,rfl⟩)|go_in)
  go_ret2
  exact ⟨rfl,rfl⟩
theorem rkNone (d a b:Int) (w:World) (h:d<2\/14<d):Calls Tryz.prog 112 #[.int .i8 d,.int .i64 a,.int .i64 b] w fun e w'=>e=.returned (.tuple #[.int .i64 (rkV d a b),.int .i64 (rkE d b)])/\w'=w:=by
 have e1:rkV d a b=0:=by unfold rkV;repeat (rw [if_neg (by omega)])
 have e2:rkE d b=2:=by unfold rkE;repeat (rw [if_neg (by omega)])
 rw [e1,e2];clear e1 e2;have g2:(d==2)=false:=by simp;omega
 have g3:(d==3)=false:=by simp;omega
 have g4:(d==4)=false:=by simp;omega
 have g5:(d==5)=false:=by simp;omega
 have g6:(d==6)=false:=by simp;omega
 have g7:(d==7)=false:=by simp;omega
 have g8:(d==8)=false:=by simp;omega
 have g9:(d==9)=false:=by simp;omega
 have g10:(d==10)=false:=by simp;omega
 have g11:(d==11)=false:=by simp;omega
 have g12:(d==12)=false:=by simp;omega
 have g13:(d==13)=false:=by simp;omega
 have g14:(d==14)=false:=by simp;omega
 clear h;go_enter Tryz.func112,Tryz.ntmps112;go_wp2
 go_ret2
 exact ⟨rfl,rfl⟩
theorem rk_any (d a b:Int) (w:World) (h1 : -9223372036854775808<=a) (h2:a<=9223372036854775807):Calls Tryz.prog 112 #[.int .i8 d,.int .i64 a,.int .i64 b] w fun e w'=>e=.returned (.tuple #[.int .i64 (rkV d a b),.int .i64 (rkE d b)])/\w'=w:=by
 by_cases h:d<2\/14<d
 ·exact rkNone d a b w h
 ·have hh:d=2\/d=3\/d=4\/d=5\/d=6\/d=7\/d=8\/d=9\/d=10\/d=11\/d=12\/d=13\/d=14:=by omega
  rcases hh with rfl|rfl|rfl|rfl|rfl|rfl|rfl|rfl|rfl|rfl|rfl|rfl|rfl
  ·exact rk2 a b w
  ·exact rk3 a b w
  ·exact rk4 a b w
  ·exact rk5 a b w
  ·exact rk6 a b w
  ·exact rk7 a b w
  ·exact rk8 a b w
  ·exact rk9 a b w
  ·exact rk10 a b w
  ·exact rk11 a b w
  ·exact rk12 a b w
  ·exact rk13 a b w h1 h2
  ·exact rk14 a b w h1 h2
end Go.Proofs.YtcmlnemokckbdaaGreatDoor.L8.Op
namespace Go.Proofs.YtcmlnemokckbdaaGreatDoor.L8.Sm
open Go.ChangeShapes Go.WideShapes Go.ChangeAt Go.RowKit
open YtcmlnemokckbdaaGreatDoor.L8.Op
structure Ma where
 r:Nat->Int
 m:Nat->Int
 b:Nat
 y:Bool
 o:Nat
 n:Int
 e:Int
 v:Int
 pr:List Int
 s:Nat
def upd (f:Nat->Int) (k:Nat) (v:Int):Nat->Int:=fun i=>if i=k then v else f i
def In64 (x:Int):Prop:=-9223372036854775808<=x/\x<=9223372036854775807
theorem upd_in {f:Nat->Int} (h:∀ i,In64 (f i)) (k:Nat) {v:Int} (hv:In64 v):∀ i,In64 (upd f k v i):=fun i=>by
 unfold upd
 split
 ·exact hv
 ·exact h i
def cellN (a im:Int):Nat:=((a+im)%256).toNat
theorem cellN_lt (a im:Int):cellN a im<256:=by unfold cellN;omega
def lst (x:Bk) (y:Bool):List O:=if y then x.body else x.ops
def listM (ps:List Bk) (M:Ma):List O:=match ps[M.b]? with|some x=>lst x M.y|none=>[]
def trapO (o:O) (M:Ma):Bool:=decide ((o.op=13\/o.op=14)/\M.r o.b.toNat = 0)
def trapB (ps:List Bk) (M:Ma):Bool:=match (listM ps M)[M.o]? with|some o=>trapO o M|none=>false
def valO (o:O) (M:Ma):Int:=
 if o.op=1 then o.im else if o.op=15 then M.m (cellN (M.r o.a.toNat) o.im) else if o.op=16 then M.r o.b.toNat else if o.op=17 then M.r o.a.toNat else rkV o.op (M.r o.a.toNat) (M.r o.b.toNat)
def landO (o:O) (v:Int) (M:Ma):Ma:=
 if o.op=16 then { M with m:=upd M.m (cellN (M.r o.a.toNat) o.im) v } else if o.op=17 then { M with pr:=M.pr++[v] } else { M with r:=upd M.r o.d.toNat v }
def opM (o:O) (M:Ma):Ma:=let N:=landO o (valO o M) M;{ N with o:=M.o+1 }
def toM (t:Int) (M:Ma):Ma:={ M with b:=t.toNat,y:=false,o:=0 }
def rndM (a:Int) (M:Ma):Int:=if M.y then wrap64 (M.n-1) else max (M.r a.toNat) 0
def endM (x:Bk) (M:Ma):Ma:=
 if x.fin=0 then toM x.thn M
 else if x.fin=1 then toM (if M.r x.a.toNat = 0 then x.els else x.thn) M
 else if x.fin=2 then { M with e:=0,v:=M.r x.a.toNat }
 else if 0<rndM x.a M then { M with n:=rndM x.a M,y:=true,o:=0 } else toM x.thn { M with n:=rndM x.a M }
def nextM (ps:List Bk) (M:Ma):Ma:=match ps[M.b]? with|some x=>(match (lst x M.y)[M.o]? with|some o=>opM o M|none=>endM x M)|none=>M
def stepM (ps:List Bk) (M:Ma):Ma:={ nextM ps M with s:=M.s+1 }
def runM (ps:List Bk):Nat->Ma->Ma
 | 0,M=>if M.e=100 then (if trapB ps M then { M with e:=101 } else M) else M
 | k+1,M=>if M.e=100 then (if trapB ps M then { M with e:=101 } else runM ps k (stepM ps M)) else M
abbrev Tg:=Int×Bool×Int
def tagM (ps:List Bk) (M:Ma):Tg:=if M.o=(listM ps M).length then (M.b,false,-1) else (M.b,M.y,M.o)
def trailM (ps:List Bk):Nat->Ma->List Tg
 | 0,_=>[]
 | k+1,M=>if M.e=100 then (if trapB ps M then [] else tagM ps M::trailM ps k (stepM ps M)) else []
theorem run_over {ps:List Bk} {M:Ma} (h:¬ M.e=100) (k:Nat):runM ps k M=M:=by
 cases k <;> simp [runM,h]
theorem run_zero_trap {ps:List Bk} (M:Ma):runM ps 0 M=M\/(M.e=100/\trapB ps M=true/\runM ps 0 M = { M with e:=101 }):=by
 by_cases h:M.e=100
 ·cases ht:trapB ps M
  ·left;simp [runM,h,ht]
  ·right;exact ⟨h,rfl,by simp [runM,h,ht]⟩
 ·left;exact run_over h 0
theorem trail_len (ps:List Bk):∀ (k:Nat) (M:Ma),(runM ps k M).s=M.s+(trailM ps k M).length
 | 0,M=>by
  rcases run_zero_trap (ps:=ps) M with h|⟨h1,h2,h⟩ <;> rw [h] <;> simp [trailM]
 | k+1,M=>by
  by_cases h:M.e=100
  ·cases ht:trapB ps M
   ·have e1:runM ps (k+1) M=runM ps k (stepM ps M):=by simp [runM,h,ht]
    have e2:trailM ps (k+1) M=tagM ps M::trailM ps k (stepM ps M):=by simp [trailM,h,ht]
    rw [e1,e2,trail_len ps k,List.length_cons];show M.s+1+_=_;omega
   ·have e1:runM ps (k+1) M = { M with e:=101 }:=by simp [runM,h,ht]
    have e2:trailM ps (k+1) M=[]:=by simp [trailM,h,ht]
    rw [e1,e2];rfl
  ·rw [run_over h];simp [trailM,h]
theorem trail_le (ps:List Bk):∀ (k:Nat) (M:Ma),(trailM ps k M).length<=k
 | 0,_=>by simp [trailM]
 | k+1,M=>by
  unfold trailM
  split
  ·split
   ·simp
   ·have:=trail_le ps k (stepM ps M)
    simp;omega
  ·simp
structure OkM (o:O):Prop where
 op:1<=o.op/\o.op<=17
 d:0<=o.d/\o.d<=31
 a:0<=o.a/\o.a<=31
 b:0<=o.b/\o.b<=31
 im:In64 o.im
structure BkM (n:Nat) (x:Bk):Prop where
 fin:0<=x.fin/\x.fin<=3
 a:0<=x.a/\x.a<=31
 thn:0<=x.thn/\(¬ x.fin=2->x.thn<n)
 els:0<=x.els/\(x.fin=1->x.els<n)
 o:∀ o∈x.ops,OkM o
 y:∀ o∈x.body,OkM o
def PsM (ps:List Bk):Prop:=ps.length<=128/\0<ps.length/\∀ x∈ps,BkM ps.length x
structure Inv (ps:List Bk) (M:Ma):Prop where
 b:M.b<ps.length
 o:M.o<=(listM ps M).length
 r:∀ i,In64 (M.r i)
 m:∀ i,In64 (M.m i)
 n:In64 M.n
 v:In64 M.v
 p:M.pr.length<=M.s
 q:∀ x∈M.pr,In64 x
theorem wrap_in (x:Int):In64 (wrap64 x):=by unfold In64 wrap64;omega
theorem bits_in (a b:Int):In64 (bits .and .i64 a b)/\In64 (bits .or .i64 a b)/\In64 (bits .xor .i64 a b):=by
 have k:∀ x,In64 (IntKind.i64.wrap x):=fun x=>by rw [IntKind.wrap_i64];unfold In64;omega
 exact ⟨k _,k _,k _⟩
theorem shr_in (a:Int) (k:Nat) (h:In64 a):In64 (a / 2^k):=by
 have hp:(0:Int)<2^k:=Int.pow_pos (by decide);obtain ⟨h1,h2⟩:=h;generalize (2:Int)^k=p at *;constructor
 ·rw [Int.le_ediv_iff_mul_le hp];omega
 ·have:a / p<9223372036854775808:=Int.ediv_lt_of_lt_mul hp (by omega)
  omega
theorem rkV_in (d a b:Int) (ha:In64 a):In64 (rkV d a b):=by
 have z:In64 0:=by unfold In64;omega
 have b1:∀ x,In64 (b2i x):=fun x=>by cases x <;> (unfold In64 b2i;simp)
 have bi:=bits_in a b;have tm:In64 (a.tmod b):=tmod_le a b ha.1 ha.2;unfold rkV
 by_cases h2:d=2
 ·rw [if_pos h2];exact wrap_in _
 rw [if_neg h2]
 by_cases h3:d=3
 ·rw [if_pos h3];exact wrap_in _
 rw [if_neg h3]
 by_cases h4:d=4
 ·rw [if_pos h4];exact bi.1
 rw [if_neg h4]
 by_cases h5:d=5
 ·rw [if_pos h5];exact bi.2.1
 rw [if_neg h5]
 by_cases h6:d=6
 ·rw [if_pos h6];exact bi.2.2
 rw [if_neg h6]
 by_cases h7:d=7
 ·rw [if_pos h7];exact wrap_in _
 rw [if_neg h7]
 by_cases h8:d=8
 ·rw [if_pos h8];exact shr_in _ _ ha
 rw [if_neg h8]
 by_cases h9:d=9
 ·rw [if_pos h9];exact b1 _
 rw [if_neg h9]
 by_cases h10:d=10
 ·rw [if_pos h10];exact b1 _
 rw [if_neg h10]
 by_cases h11:d=11
 ·rw [if_pos h11];exact ha
 rw [if_neg h11]
 by_cases h12:d=12
 ·rw [if_pos h12];exact wrap_in _
 rw [if_neg h12]
 by_cases h13:d=13
 ·rw [if_pos h13]
  by_cases hb:b=0
  ·rw [if_pos hb];exact z
  ·rw [if_neg hb];exact wrap_in _
 rw [if_neg h13]
 by_cases h14:d=14
 ·rw [if_pos h14]
  by_cases hb:b=0
  ·rw [if_pos hb];exact z
  ·rw [if_neg hb];exact tm
 rw [if_neg h14];exact z
theorem firstE_all {n:Int} : ∀ {ps:List Bk},firstE n ps=0->∀ x∈ps,ckB x n=0
 | [],_=>fun x hx=>by simp at hx
 | y::r,h=>fun x hx=>by
  unfold firstE at h
  by_cases e:ckB y n=0
  ·rw [if_pos e] at h;rcases List.mem_cons.1 hx with rfl|hx
   ·exact e
   ·exact firstE_all h x hx
  ·rw [if_neg e] at h;exact absurd h e
def PsOk (ps:List Bk):Prop:=∀ x∈ps,x.Ok/\(∀ o∈x.ops,o.Ok)/\∀ o∈x.body,o.Ok
theorem psOk_of {w:World} {ao:Option Addr} {ps:List Bk} (h:PAt w ao ps):PsOk ps:=fun x hx=>by
 obtain ⟨i,hi,e⟩:=List.getElem_of_mem hx;obtain ⟨b,f,-,-,hc⟩:=h.is (by omega);obtain ⟨p,-,hb⟩:=hc i hi;rw [e] at hb;exact ⟨hb.ok,hb.o.ok,hb.b.ok⟩
theorem rH_le {r:Int} {c:Bool} (h:rH r c=true):r<=31:=by
 unfold rH at h
 cases c <;> simp at h <;> omega
theorem okM_of {o:O} (ho:o.Ok) (h:okP o=true):OkM o:=by
 simp only [okP,Bool.and_eq_true,decide_eq_true_eq] at h;obtain ⟨⟨h1,h2⟩,h3⟩:=h;unfold okO at h3
 split at h3
 ·simp only [okF,Bool.and_eq_true] at h3;obtain ⟨⟨⟨g1,g2⟩,g3⟩,-⟩:=h3;exact ⟨⟨h1,h2⟩,⟨ho.d0,rH_le g1⟩,⟨ho.a0,rH_le g2⟩,⟨ho.b0,rH_le g3⟩,⟨ho.i0,ho.i1⟩⟩
 ·cases h3
theorem bkM_of {n:Nat} {x:Bk} (hk:x.Ok) (ho:∀ o∈x.ops,o.Ok) (hy:∀ o∈x.body,o.Ok) (h:ckB x n=0):BkM n x:=by
 unfold ckB at h
 split at h
 ·rename_i h1
  split at h
  ·rename_i h2
   split at h
   ·rename_i h3;simp only [endB,Bool.and_eq_true] at h2;obtain ⟨⟨⟨⟨e1,e2⟩,e3⟩,e4⟩,-⟩:=h2;simp only [eK,decide_eq_true_eq] at e1;refine ⟨e1,⟨hk.a0,rH_le e2⟩,?_,?_,fun o h=>okM_of (ho o h) (List.all_eq_true.1 h1 o h),fun o h=>okM_of (hy o h) (List.all_eq_true.1 h3 o h)⟩
    ·unfold bH eT at e3
     split at e3
     ·simp at e3;exact ⟨e3.1,fun _=>e3.2⟩
     ·rename_i h4;simp at e3 h4;exact ⟨by omega,fun h5=>absurd (h4 e1.1 e1.2) h5⟩
    ·unfold bH eE at e4
     split at e4
     ·simp at e4;exact ⟨e4.1,fun _=>e4.2⟩
     ·rename_i h4;simp at e4 h4;exact ⟨by omega,fun h5=>absurd h5 h4⟩
   ·omega
  ·omega
 ·omega
theorem psM_of {ps:List Bk} (ho:PsOk ps) (h:ckP ps=0):PsM ps:=by
 unfold ckP at h
 by_cases h1:128<ps.length\/1024<opsN ps
 ·rw [if_pos h1] at h;omega
 ·rw [if_neg h1] at h
  by_cases h2:ps.length=0
  ·rw [if_pos h2] at h;omega
  ·rw [if_neg h2] at h;exact ⟨by omega,by omega,fun x hx=>bkM_of (ho x hx).1 (ho x hx).2.1 (ho x hx).2.2 (firstE_all h x hx)⟩
theorem BkM.lst {n:Nat} {x:Bk} (h:BkM n x) {y:Bool} {o:O} (ho:o∈Sm.lst x y):OkM o:=by
 unfold Sm.lst at ho
 cases y
 ·exact h.o o ho
 ·exact h.y o ho
theorem valO_in {ps:List Bk} {M:Ma} (h:Inv ps M) {o:O} (ho:OkM o):In64 (valO o M):=by
 unfold valO
 repeat' split
 ·exact ho.im
 ·exact h.m _
 ·exact h.r _
 ·exact h.r _
 ·exact rkV_in _ _ _ (h.r _)
theorem listM_at {ps:List Bk} {M:Ma} (h:M.b<ps.length):listM ps M=lst ps[M.b] M.y:=by
 unfold listM;rw [List.getElem?_eq_getElem h]
theorem inv_op {ps:List Bk} {M:Ma} (h:Inv ps M) {o:O} (ho:OkM o) (hlt:M.o<(listM ps M).length):Inv ps { opM o M with s:=M.s+1 }:=by
 have hv:=valO_in h ho;unfold opM landO;have hl:M.o+1<=(listM ps M).length:=hlt;have hp:=h.p
 split
 ·exact ⟨h.b,hl,h.r,upd_in h.m _ hv,h.n,h.v,by show M.pr.length<=M.s+1;omega,h.q⟩
 ·split
  ·exact ⟨h.b,hl,h.r,h.m,h.n,h.v,by simp;omega,fun x hx=>by
    rcases List.mem_append.1 hx with hx|hx
    ·exact h.q x hx
    ·rw [List.mem_singleton.1 hx];exact hv⟩
  ·exact ⟨h.b,hl,upd_in h.r _ hv,h.m,h.n,h.v,by show M.pr.length<=M.s+1;omega,h.q⟩
theorem rnd_in {ps:List Bk} {M:Ma} (h:Inv ps M) (a:Int):In64 (rndM a M):=by
 unfold rndM
 split
 ·exact wrap_in _
 ·have:=h.r a.toNat
  unfold In64 at *;omega
theorem inv_to {ps:List Bk} {M:Ma} (h:Inv ps M) {t:Int} (h0:0<=t) (h1:t<ps.length) {n:Int} (hn:In64 n):Inv ps { toM t { M with n:=n } with s:=M.s+1 }:=by
 have hp:=h.p;exact ⟨by show t.toNat<_;omega,Nat.zero_le _,h.r,h.m,hn,h.v,by show M.pr.length<=M.s+1;omega,h.q⟩
theorem inv_end {ps:List Bk} {M:Ma} (h:Inv ps M) (hb:BkM ps.length (ps[M.b]'h.b)):Inv ps { endM (ps[M.b]'h.b) M with s:=M.s+1 }:=by
 have hp:=h.p;unfold endM
 split
 ·exact inv_to h hb.thn.1 (hb.thn.2 (by omega)) h.n
 ·split
  ·rename_i h1
   split
   ·exact inv_to h hb.els.1 (hb.els.2 h1) h.n
   ·exact inv_to h hb.thn.1 (hb.thn.2 (by omega)) h.n
  ·split
   ·exact ⟨h.b,h.o,h.r,h.m,h.n,h.r _,by show M.pr.length<=M.s+1;omega,h.q⟩
   ·rename_i h2
    split
    ·exact ⟨h.b,Nat.zero_le _,h.r,h.m,rnd_in h _,h.v,by show M.pr.length<=M.s+1;omega,h.q⟩
    ·exact inv_to h hb.thn.1 (hb.thn.2 h2) (rnd_in h _)
theorem next_op {ps:List Bk} {M:Ma} (hb:M.b<ps.length) {o:O} (h:(lst ps[M.b] M.y)[M.o]?=some o):nextM ps M=opM o M:=by
 unfold nextM;rw [List.getElem?_eq_getElem hb];simp only [h]
theorem next_end {ps:List Bk} {M:Ma} (hb:M.b<ps.length) (h:(lst ps[M.b] M.y).length<=M.o):nextM ps M=endM ps[M.b] M:=by
 unfold nextM;rw [List.getElem?_eq_getElem hb];simp only [List.getElem?_eq_none h]
theorem inv_step {ps:List Bk} {M:Ma} (hP:PsM ps) (h:Inv ps M):Inv ps (stepM ps M):=by
 have hb:=h.b;have hk:=hP.2.2 _ (List.getElem_mem hb);have hl:=listM_at hb;unfold stepM;rcases Nat.lt_or_ge M.o (lst ps[M.b] M.y).length with hlt|hge
 ·rw [next_op hb (List.getElem?_eq_getElem hlt)];exact inv_op h (hk.lst (List.getElem_mem hlt)) (by rw [hl];exact hlt)
 ·rw [next_end hb hge];exact inv_end h hk
theorem inv_trap {ps:List Bk} {M:Ma} (h:Inv ps M) (e:Int):Inv ps { M with e:=e }:=⟨h.b,h.o,h.r,h.m,h.n,h.v,h.p,h.q⟩
def initM (rs ms:List Int):Ma:=⟨fun i=>(rs[i]?).getD 0,fun i=>(ms[i]?).getD 0,0,false,0,0,100,0,[],0⟩
theorem inv_init {ps:List Bk} (hP:PsM ps) {rs ms:List Int} (hr:∀ x∈rs,In64 x) (hm:∀ x∈ms,In64 x):Inv ps (initM rs ms):=by
 have z:In64 0:=by unfold In64;omega
 have g:∀ (l:List Int),(∀ x∈l,In64 x)->∀ i:Nat,In64 ((l[i]?).getD 0):=fun l hl i=>by
  cases e:l[i]? with
  | none=>exact z
  | some x=>exact hl x (List.mem_of_getElem? e)
 exact ⟨hP.2.1,Nat.zero_le _,g _ hr,g _ hm,z,z,Nat.le_refl _,fun x hx=>by simp [initM] at hx⟩
def memL (M:Ma):List Int:=(List.range 256).map M.m
end Go.Proofs.YtcmlnemokckbdaaGreatDoor.L8.Sm
namespace Go.Proofs.YtcmlnemokckbdaaGreatDoor.L8.Lv
def Rest (P:List B) (r:Nat) (k:B):Prop:=(∃ t∈k.e.succ,Live P r t)\/k.e.isLoop=true/\gen k.body r=true
def Ends (P:List B) (r:Nat) (k:B):Prop:=k.e.own r=true\/Rest P r k
def Here (P:List B) (r:Nat) (x:Pc):Prop:=∃ k,P[x.b]?=some k /\
 ((x.part=0/\(gen (k.ops.drop x.op) r=true\/keep (k.ops.drop x.op) r=true/\Ends P r k))\/(x.part=1/\Ends P r k)\/(x.part=2/\(k.e.isLoop=true->gen (k.body.drop x.op) r=true\/keep (k.body.drop x.op) r=true/\Rest P r k))\/(x.part≠0/\x.part≠1/\x.part≠2/\(k.e.isLoop=true->Rest P r k)))
theorem gen_drop {l:List W} {i r:Nat} (h:i<l.length):gen (l.drop i) r=(l[i].rd.contains r || (gen (l.drop (i+1)) r&&l[i].wr != some r)):=by rw [List.drop_eq_getElem_cons h];rfl
theorem keep_drop {l:List W} {i r:Nat} (h:i<l.length):keep (l.drop i) r=(l[i].wr != some r&&keep (l.drop (i+1)) r):=by rw [List.drop_eq_getElem_cons h];rfl
theorem live_of {P:List B} {r b:Nat} {k:B} (hk:P[b]?=some k) (h:gen k.ops r=true\/keep k.ops r=true/\Ends P r k):Live P r b:=by
 rcases h with h|⟨h,g|⟨t,ht,g⟩|⟨g,g'⟩⟩
 ·exact .here hk (.inl h)
 ·exact .here hk (.inr ⟨h,by simp [endGen,g]⟩)
 ·exact .step hk h ht g
 ·exact .here hk (.inr ⟨h,by simp [endGen,g,g']⟩)
theorem live_here {P:List B} {r t:Nat} (h:Here P r ⟨t,0,0⟩):Live P r t:=by
 obtain ⟨k,hk,h⟩:=h;simp only [List.drop_zero,true_and] at h;rcases h with h|h|h|h
 ·exact live_of hk h
 ·exact absurd h.1 (by decide)
 ·exact absurd h.1 (by decide)
 ·exact absurd rfl h.1
theorem list_step {l:List W} {i r:Nat} {Q:Prop} (h:i<l.length) (hw:(l[i].wr==some r)=false) (g:gen (l.drop (i+1)) r=true\/keep (l.drop (i+1)) r=true/\Q):gen (l.drop i) r=true\/keep (l.drop i) r=true/\Q:=by
 have hn:(l[i].wr != some r)=true:=by simp only [bne,hw,Bool.not_false]
 rcases g with g|⟨g,q⟩
 ·exact .inl (by rw [gen_drop h,g,hn];simp)
 ·exact .inr ⟨by rw [keep_drop h,g,hn];rfl,q⟩
theorem list_read {l:List W} {i r:Nat} {o:W} (h:l[i]?=some o) (ho:o.rd.contains r=true):gen (l.drop i) r=true:=by
 obtain ⟨hi,e⟩:=List.getElem?_eq_some_iff.1 h;rw [gen_drop hi,e,ho];rfl
theorem list_end {l:List W} {i r:Nat} {Q:Prop} (h:¬ i<l.length) (q:Q):gen (l.drop i) r=true\/keep (l.drop i) r=true/\Q:=
 .inr ⟨by rw [List.drop_eq_nil_of_le (by omega)];rfl,q⟩
theorem rest_of {P:List B} {r b:Nat} {k:B} {y:Pc} (hk:P[b]?=some k) (hy:y∈nextE b k.e) (h:Here P r y):Rest P r k:=by
 have two:y=⟨b,2,0⟩->k.e.isLoop=true->Rest P r k:=fun e hl=>by
  subst e;obtain ⟨k',hk',h⟩:=h;dsimp only at hk' h;rw [hk] at hk';cases hk';rcases h with h|h|h|h
  ·exact absurd h.1 (by decide)
  ·exact absurd h.1 (by decide)
  ·rcases h.2 hl with g|g
   ·exact .inr ⟨hl,g⟩
   ·exact g.2
  ·exact absurd rfl h.2.2.1
 have to:∀ t,y=⟨t,0,0⟩->t∈k.e.succ->Rest P r k:=fun t e ht=>.inl ⟨t,ht,live_here (e ▸ h)⟩
 cases he:k.e with
 | jump t=>rw [he] at hy to;simp only [nextE,List.mem_singleton] at hy;exact to t hy (by simp [E.succ])
 | branch a t e=>
  rw [he] at hy to;simp only [nextE,List.mem_cons,List.not_mem_nil,or_false] at hy;rcases hy with hy|hy
  ·exact to t hy (by simp [E.succ])
  ·exact to e hy (by simp [E.succ])
 | halt a=>rw [he] at hy;simp [nextE] at hy
 | loop a t=>
  rw [he] at hy to two;simp only [nextE,List.mem_cons,List.not_mem_nil,or_false] at hy;rcases hy with hy|hy
  ·exact two hy rfl
  ·exact to t hy (by simp [E.succ])
theorem here_of {P:List B} {r:Nat} {x:Pc} (h:At P r x):Here P r x:=by
 induction h with
 | @read x k hk h=>
  refine ⟨k,hk,?_⟩;obtain ⟨b,part,op⟩:=x
  by_cases h0:part=0
  ·subst h0;refine .inl ⟨rfl,.inl ?_⟩;simp only [readAt,listOf,true_or,if_true,show ¬ (0:Nat)=2 from by decide,if_false] at h
   cases ho:k.ops[op]? with
   | none=>rw [ho] at h;cases h
   | some o=>rw [ho] at h;exact list_read ho h
  ·by_cases h2:part=2
   ·subst h2;refine .inr (.inr (.inl ⟨rfl,fun _=>.inl ?_⟩));simp only [readAt,listOf,or_true,if_true] at h
    cases ho:k.body[op]? with
    | none=>rw [ho] at h;cases h
    | some o=>rw [ho] at h;exact list_read ho h
   ·simp only [readAt,h0,h2,or_self,if_false,Bool.and_eq_true,beq_iff_eq] at h;exact .inr (.inl ⟨h.1,.inl h.2⟩)
 | @step x y k hk hw hy _ ih=>
  refine ⟨k,hk,?_⟩;obtain ⟨b,part,op⟩:=x
  by_cases h0:part=0
  ·subst h0;refine .inl ⟨rfl,?_⟩;simp only [next,wroteAt,listOf,true_or,if_true,show ¬ (0:Nat)=2 from by decide,if_false] at hy hw
   by_cases hl:op<k.ops.length
   ·simp only [hl,if_true,List.mem_singleton] at hy;rw [List.getElem?_eq_getElem hl] at hw;subst hy;obtain ⟨k',hk',g⟩:=ih;dsimp only at hk hk' g;rw [hk] at hk';cases hk';refine list_step hl hw ?_;rcases g with g|g|g|g
    ·exact g.2
    ·exact absurd g.1 (by decide)
    ·exact absurd g.1 (by decide)
    ·exact absurd rfl g.1
   ·simp only [hl,if_false,List.mem_singleton] at hy;subst hy;obtain ⟨k',hk',g⟩:=ih;dsimp only at hk hk' g;rw [hk] at hk';cases hk';refine list_end hl ?_;rcases g with g|g|g|g
    ·exact absurd g.1 (by decide)
    ·exact g.2
    ·exact absurd g.1 (by decide)
    ·exact absurd rfl g.2.1
  ·by_cases h2:part=2
   ·subst h2;refine .inr (.inr (.inl ⟨rfl,fun hlp=>?_⟩));simp only [next,wroteAt,listOf,or_true,if_true] at hy hw
    by_cases hl:op<k.body.length
    ·simp only [hl,if_true,List.mem_singleton] at hy;rw [List.getElem?_eq_getElem hl] at hw;subst hy;obtain ⟨k',hk',g⟩:=ih;dsimp only at hk hk' g;rw [hk] at hk';cases hk';refine list_step hl hw ?_;rcases g with g|g|g|g
     ·exact absurd g.1 (by decide)
     ·exact absurd g.1 (by decide)
     ·exact g.2 hlp
     ·exact absurd rfl g.2.2.1
    ·simp only [hl,if_false,List.mem_singleton] at hy;subst hy;obtain ⟨k',hk',g⟩:=ih;dsimp only at hk hk' g;rw [hk] at hk';cases hk';refine list_end hl ?_;rcases g with g|g|g|g
     ·exact absurd g.1 (by decide)
     ·exact absurd g.1 (by decide)
     ·exact absurd g.1 (by decide)
     ·exact g.2.2.2 hlp
   ·simp only [next,h0,h2,or_self,if_false] at hy;have hr:=rest_of hk hy ih
    by_cases h1:part=1
    ·exact .inr (.inl ⟨h1,.inr hr⟩)
    ·exact .inr (.inr (.inr ⟨h0,h1,h2,fun _=>hr⟩))
theorem at_list {P:List B} {r b part:Nat} {k:B} (hp:part=0\/part=2) (hk:P[b]?=some k) (n:Nat):∀ i,(listOf k part).length-i<=n->(gen ((listOf k part).drop i) r=true\/keep ((listOf k part).drop i) r=true/\At P r ⟨b,part+1,0⟩)->At P r ⟨b,part,i⟩:=by
 induction n with
 | zero=>
  intro i hi h;have hl:¬ i<(listOf k part).length:=by omega
  rw [List.drop_eq_nil_of_le (by omega)] at h;rcases h with h|h
  ·cases h
  ·exact .step (k:=k) hk (by simp [wroteAt,hp,List.getElem?_eq_none (Nat.le_of_not_lt hl)]) (y:=⟨b,part+1,0⟩) (by simp [next,hp,hl]) h.2
 | succ n ih=>
  intro i hi h
  by_cases hl:i<(listOf k part).length
  ·rw [gen_drop hl,keep_drop hl] at h
   by_cases hr:(listOf k part)[i].rd.contains r=true
   ·exact .read (k:=k) hk (by simp only [readAt,hp,if_true,List.getElem?_eq_getElem hl];exact hr)
   ·have hr':(listOf k part)[i].rd.contains r=false:=by simpa using hr
    rw [hr',Bool.false_or,Bool.and_eq_true,Bool.and_eq_true] at h;have hw:((listOf k part)[i].wr != some r)=true:=by
     rcases h with h|h
     ·exact h.2
     ·exact h.1.1
    refine .step (k:=k) hk ?_ (y:=⟨b,part,i+1⟩) (by simp [next,hp,hl]) (ih (i+1) (by omega) ?_)
    ·simp only [wroteAt,hp,if_true,List.getElem?_eq_getElem hl];simpa [bne] using hw
    ·rcases h with h|h
     ·exact .inl h.1
     ·exact .inr ⟨h.1.2,h.2⟩
  ·rw [List.drop_eq_nil_of_le (by omega)] at h;rcases h with h|h
   ·cases h
   ·exact .step (k:=k) hk (by simp [wroteAt,hp,List.getElem?_eq_none (Nat.le_of_not_lt hl)]) (y:=⟨b,part+1,0⟩) (by simp [next,hp,hl]) h.2
theorem at_end {P:List B} {r b:Nat} {k:B} (hk:P[b]?=some k) (h:endGen k r=true\/∃ t∈k.e.succ,At P r ⟨t,0,0⟩):At P r ⟨b,1,0⟩:=by
 have hw:wroteAt k ⟨b,1,0⟩ r=false:=rfl;rcases h with h|⟨t,ht,h⟩
 ·rw [endGen,Bool.or_eq_true,Bool.and_eq_true] at h;rcases h with h|⟨h1,h2⟩
  ·exact .read (k:=k) hk (by simp [readAt,h])
  ·refine .step (k:=k) hk hw (y:=⟨b,2,0⟩) ?_ (at_list (.inr rfl) hk _ 0 (Nat.le_refl _) (.inl (by simpa [listOf] using h2)))
   cases he:k.e with
   | loop a t=>simp [next,nextE,he]
   | _=>rw [he] at h1;cases h1
 ·refine .step (k:=k) hk hw (y:=⟨t,0,0⟩) ?_ h
  cases he:k.e <;> rw [he] at ht <;> simp [E.succ] at ht <;> simp [next,nextE,he,ht]
theorem at_of {P:List B} {r b:Nat} (h:Live P r b):At P r ⟨b,0,0⟩:=by
 induction h with
 | @here b k hk h=>
  refine at_list (.inl rfl) hk _ 0 (Nat.le_refl _) ?_;simp only [listOf,List.drop_zero,show ¬ (0:Nat)=2 from by decide,if_false];exact h.imp id fun h=>⟨h.1,at_end hk (.inl h.2)⟩
 | @step b t k hk h ht _ ih=>
  refine at_list (.inl rfl) hk _ 0 (Nat.le_refl _) ?_;simp only [listOf,List.drop_zero,show ¬ (0:Nat)=2 from by decide,if_false];exact .inr ⟨h,at_end hk (.inr ⟨t,ht,ih⟩)⟩
theorem at_iff {P:List B} {r b:Nat} : At P r ⟨b,0,0⟩↔Live P r b:=⟨fun h=>live_here (here_of h),at_of⟩
theorem Bf.meet {P:List B} {r i:Nat} {st x y:Pc} {seen more:List Pc} {k:B} (h:Bf P r st (seen++more) i) (hx:x∈seen++more) (hk:P[x.b]?=some k) (hw:wroteAt k x r=false) (hy:y∈next k x):Bf P r st ((seen++more)++[y]) i:=
 ⟨by have:=h.le;simp only [List.length_append] at *;omega,List.mem_append_left _ h.has,fun z hz hA=>by
  rcases List.mem_append.1 hz with g|g
  ·exact h.ok z g hA
  ·rw [List.mem_singleton.1 g] at hA;exact h.ok x hx (.step hk hw hy hA),fun j hj z hz k' hk'=>by
  rw [List.getElem?_append_left (Nat.lt_of_lt_of_le hj h.le)] at hz;exact (h.cl j hj z hz k' hk').imp id fun g hw' y' hy'=>List.mem_append_left _ (g hw' y' hy')⟩
end Go.Proofs.YtcmlnemokckbdaaGreatDoor.L8.Lv
