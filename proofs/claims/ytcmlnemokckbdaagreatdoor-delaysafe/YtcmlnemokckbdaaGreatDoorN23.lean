/- Parts QMath QForms QBc QKa QKb QPm QPo QKc QKd. -/
import Derived.WalkKit
import Derived.ProofKit
import Derived.Laws.BitsAllLaws
import Derived.Test.YtcmlnemokckbdaaGreatDoorProg
import Derived.OpenShut
import Derived.WalkSpells
import Derived.WalkLawsBesides
import Derived.Handy
import Derived.Deep.RegionHeld3
import Derived.Deep.DrawnRows
import Derived.Deep.QuietTactic
import Derived.BigQuiet
import Derived.Deep.WholeRow
set_option maxRecDepth 20000
set_option maxHeartbeats 4000000
namespace Go.Proofs.YtcmlnemokckbdaaGreatDoor.L8.Op
def cl (n:Int):Int:=if n<1 then 1 else if 64<n then 64 else n
theorem cl_lo (n:Int):1<=cl n:=by unfold cl;split <;> (try split) <;> omega
theorem cl_hi (n:Int):cl n<=64:=by unfold cl;split <;> (try split) <;> omega
def sg (x:Int) (c:Nat):Int:=(x+2^(c-1))%2^c-2^(c-1)
theorem pow_split (c:Nat) (h:1<=c):(2:Int)^c=2*2^(c-1):=by
 obtain ⟨d,rfl⟩:∃ d,c=d+1:=⟨c-1,by omega⟩;rw [Nat.add_sub_cancel,Int.pow_succ];omega
theorem pow_pos' (c:Nat):(0:Int)<2^c:=Int.pow_pos (by decide)
theorem sg_lo (x:Int) (c:Nat) : -(2^(c-1))<=sg x c:=by
 unfold sg
 have:=Int.emod_nonneg (x+2^(c-1)) (Int.ne_of_gt (pow_pos' c));omega
theorem sg_hi (x:Int) (c:Nat) (h:1<=c):sg x c<2^(c-1):=by
 unfold sg
 have:=Int.emod_lt_of_pos (x+2^(c-1)) (pow_pos' c)
 have:=pow_split c h;omega
theorem sg_id (x:Int) (c:Nat) (h:1<=c) (h1 : -(2^(c-1))<=x) (h2:x<2^(c-1)):sg x c=x:=by
 unfold sg
 have:=pow_split c h
 rw [Int.emod_eq_of_lt (by omega) (by omega)];omega
theorem sg_iff (x:Int) (c:Nat) (h:1<=c):sg x c=x↔-(2^(c-1))<=x/\x<2^(c-1):=by
 constructor
 ·intro e;have h1:=sg_lo x c;have h2:=sg_hi x c h;rw [e] at h1 h2;exact ⟨h1,h2⟩
 ·intro e;exact sg_id x c h e.1 e.2
theorem sg_mod (x:Int) (c d:Nat) (h:c<=d):sg (x%2^d) c=sg x c:=by
 unfold sg;have e:(2:Int)^c∣2^d:=⟨2^(d-c),by rw [<- Int.pow_add];congr 1;omega⟩;rw [Int.add_emod,Int.emod_emod_of_dvd x e,<- Int.add_emod]
theorem sg_shift (x:Int) (c:Nat) (h:1<=c) (h64:c<=64) :
  ((x*2^(64-c)%18446744073709551616+9223372036854775808)%18446744073709551616-9223372036854775808) / 2^(64-c)=sg x c:=by
 have e64:(18446744073709551616:Int)=2^c*2^(64-c):=by
  rw [<- Int.pow_add,show c+(64-c)=64 by omega];rfl
 have e63:(9223372036854775808:Int)=2^(c-1)*2^(64-c):=by
  rw [<- Int.pow_add,show c-1+(64-c)=63 by omega];rfl
 have hp:=pow_pos' (64-c);rw [Int.emod_add_emod,e64,e63,<- Int.add_mul,Int.mul_comm _ (2^(64-c)),Int.mul_comm (2^c) (2^(64-c)),Int.mul_emod_mul_of_pos _ _ hp,
  Int.mul_comm (2^(c-1)) (2^(64-c)),<- Int.mul_sub,Int.mul_ediv_cancel_left _ (Int.ne_of_gt hp)]
 rfl
end Go.Proofs.YtcmlnemokckbdaaGreatDoor.L8.Op
namespace Go.Proofs.YtcmlnemokckbdaaGreatDoor.L8.Op
open Go.RowKit
def sgI (x n:Int):Int:=sg x (cl n).toNat
def fitsI (x n:Int):Bool:=decide (sgI x n=x)
theorem sg_form (x n:Int):wrap64 (IntKind.u64.wrap (x*2^(64-cl n).toNat)) / 2^(64-cl n).toNat = sgI x n:=by
 have h1:=cl_lo n;have h2:=cl_hi n
 have:=sg_shift x (cl n).toNat (by omega) (by omega)
 rw [show 64-(cl n).toNat = (64-cl n).toNat by omega] at this;unfold sgI;rw [<- this,IntKind.wrap_u64,wrap64]
theorem fits_form (x n:Int):(sgI (IntKind.u64.wrap x) n==x)=fitsI x n:=by
 have h1:=cl_lo n;have h2:=cl_hi n;have e:sgI (IntKind.u64.wrap x) n=sgI x n:=by
  unfold sgI;rw [IntKind.wrap_u64,<- sg_mod x (cl n).toNat 64 (by omega)];rfl
 rw [e];unfold fitsI;rw [Bool.eq_iff_iff];simp
end Go.Proofs.YtcmlnemokckbdaaGreatDoor.L8.Op
namespace Go.Proofs.YtcmlnemokckbdaaGreatDoor.L8.Op
open Go.ChangeShapes Go.WideShapes Go.ChangeAt Go.RowKit
theorem ret_bool {a b:Bool} (h:a=b):Ending.returned (.bool a)=.returned (.bool b):=by rw [h]
theorem ret_int {k:IntKind} {a b:Int} (h:a=b):Ending.returned (.int k a)=.returned (.int k b):=by rw [h]
theorem count_any (n:Int) (w:World) :
  Calls Tryz.prog 196 #[.int .i64 n] w fun e w'=>e=.returned (.int .i64 (cl n))/\w'=w:=by
 go_enter Tryz.func196,Tryz.ntmps196;go_wp2
 all_goals
  go_ret
  refine ⟨ret_int ?_,rfl⟩;unfold cl
  split at * <;> (try split) <;> omega
theorem signed_any (x n:Int) (w:World) :
  Calls Tryz.prog 194 #[.int .u64 x,.int .i64 n] w fun e w'=>e=.returned (.int .i64 (sgI x n))/\w'=w:=by
 have hlo:=cl_lo n;have hhi:=cl_hi n;have H:Hid _:=(sg_form x n);go_enter Tryz.func194,Tryz.ntmps194;go_wp2_with (go_at_call 196;refine (count_any _ _).mono ?_;rintro e w' ⟨rfl,rfl⟩)
 go_ret
 exact ⟨ret_int (H.out),rfl⟩
theorem fits_any (x n:Int) (w:World) :
  Calls Tryz.prog 192 #[.int .i64 x,.int .i64 n] w fun e w'=>e=.returned (.bool (fitsI x n))/\w'=w:=by
 have H:Hid _:=(fits_form x n);go_enter Tryz.func192,Tryz.ntmps192;go_wp2_with (go_at_call 194;refine (signed_any _ _ _).mono ?_;rintro e w' ⟨rfl,rfl⟩)
 go_ret
 exact ⟨ret_bool (H.out),rfl⟩
theorem bcell {B:Nat} {W w1:World} (hb:Below B W w1):(∀ b o,b<B->w1.cell? ⟨b,o,none⟩=W.cell? ⟨b,o,none⟩)/\(∀ b o,b<B->w1.frozen? ⟨b,o,none⟩=W.frozen? ⟨b,o,none⟩):=
  ⟨fun b o h=>hb.cell (p:=⟨b,o,none⟩) h,fun b o h=>hb.frozen (p:=⟨b,o,none⟩) h⟩
structure Wd (G:World->Prop) where
  w:World
  ok:G w
theorem wp_region_in {P:Program} {id:Nat} {Q:Exit->Act->World->Prop} {a:Act} {w:World} {l:List Oper} (G:World->Prop) (hm:P.follows .mixedOrders=true) (hB:Region.lexB .any l.toArray=true)
    (hG:G w.drew) (h:wpQuiet P l.toArray (fun w'=>∃ x:Wd G,w'=x.w) (fun a'=>∀ w',(∃ x:Wd G,w'=x.w)->Q .normal a' w') l a):(Code.region id l.toArray true).wp P Q a w:=
  wp_region_quiet (C:=fun w'=>∃ x:Wd G,w'=x.w) hm hB ⟨⟨_,hG⟩,rfl⟩ (by simpa using h)
theorem calls_in {P:Program} {B:Nat} {W:World} {f:FuncId} {args:Array Value} {v:Value} (hB:B<=W.heap.size) (x:Wd (Below B W)) (c:Calls P f args x.w fun e w'=>e=.returned v/\Below x.w.heap.size x.w w') :
    Calls P f args x.w fun e w''=>e=.returned v/\∃ y:Wd (Below B W),w''=y.w:=
  c.mono fun _ w' h=>⟨h.1,⟨w',x.ok.trans (h.2.mono (Nat.le_trans hB x.ok.size))⟩,rfl⟩
structure K where
  name:List UInt8
  cls:Int
  D:Bool
  A:Bool
  B:Bool
  N:Bool
  I:Bool
def bi (b:Bool) (n:Int):Int:=if b then n else 0
def K.fields (k:K):Int:=bi k.D 1+bi k.A 2+bi k.B 4+bi k.I 8+bi k.N 16
def K.s (k:K):ByteArray:=⟨k.name.toArray⟩
def K.cells (k:K):List Value:=[.string k.s,.int .i8 k.cls,.int .u8 k.fields]
def kindL:List K:=
  [⟨[110,111,112],-1,false,false,false,false,false⟩,⟨[99,111,110,115,116],0,true,false,false,false,true⟩,
   ⟨[97,100,100],0,true,true,true,false,false⟩,⟨[115,117,98],0,true,true,true,false,false⟩,⟨[97,110,100],0,true,true,true,false,false⟩,
   ⟨[111,114],0,true,true,true,false,false⟩,⟨[120,111,114],0,true,true,true,false,false⟩,⟨[115,104,108],0,true,true,true,false,false⟩,
   ⟨[115,104,114],0,true,true,true,false,false⟩,⟨[108,101,115,115],0,true,true,true,false,false⟩,⟨[101,113,117,97,108],0,true,true,true,false,false⟩,
   ⟨[109,111,118,101],0,true,true,false,false,false⟩,
   ⟨[116,105,109,101,115],1,true,true,true,false,false⟩,⟨[100,105,118,105,100,101],1,true,true,true,false,false⟩,⟨[114,101,115,116],1,true,true,true,false,false⟩,
   ⟨[108,111,97,100],2,true,true,false,false,true⟩,⟨[115,116,111,114,101],2,false,true,true,false,true⟩,⟨[112,114,105,110,116],2,false,true,false,false,false⟩,
   ⟨[106,117,109,112],3,false,false,false,false,true⟩,⟨[98,114,97,110,99,104],3,false,true,false,false,true⟩,⟨[104,97,108,116],3,false,true,false,false,false⟩,
   ⟨[99,111,117,110,116],3,false,true,false,false,true⟩,⟨[115,104,111,114,116],3,false,true,false,true,true⟩,⟨[97,103,97,105,110],3,false,false,false,false,true⟩]
def kOf (d:Int):Option K:=if 0<=d then kindL[d.toNat]? else none
def kindCells:Array Value:=(kindL.flatMap K.cells).toArray
def zeroCells:Array Value:=(List.replicate 24 [Value.string ⟨#[]⟩,.int .i8 0,.int .u8 0]).flatten.toArray
theorem kind_one:kindCells.all (·.oneCell')=true:=by kernel_rfl
theorem info242:(Tryz.prog.info? 242).map (·.size)=some 72:=by kernel_rfl
theorem kindSize:kindCells.size=72:=by kernel_rfl
theorem zeroSize:zeroCells.size=72:=by kernel_rfl
theorem kinds_any (w:World):Calls Tryz.prog 180 #[] w fun e w'=>e=.returned (.agg kindCells)/\Below w.heap.size w w':=by
  have hZ:=(zero_of_info (P:=Tryz.prog) (t:=242) (v:=.agg zeroCells) (n:=72) (by kernel_rfl)).1
  have hzs:=zeroSize
  have hsc:Hid (_):=run_storeCells_new (P:=Tryz.prog) w 242 zeroCells kindCells (by rw [kindSize];exact info242) (by rw [kindSize,zeroSize]) kind_one
  go_enter Tryz.func180,Tryz.ntmps180
  go_wp2
  conv in storeCells _ _ _=>arg 2;change kindCells.toList
  rw [hsc.out]
  simp only [Result.andThen]
  rw [Oper.upon_skip]
  go_wp2
  (try simp only [Exit.inBlock,Exit.then])
  refine bodyPost_ret (v:=.agg kindCells) (results_cell_row (P:=Tryz.prog) Tryz.results180 _ _ w.heap.size 242 kindCells (0,0) _ rfl (heap_alloc_last w _) Tryz.underlying242 rfl (by rw [kindSize];exact info242)) rfl ⟨rfl,by go_grown⟩
abbrev kz:Value:=.agg #[.string ⟨#[]⟩,.int .i8 0,.int .u8 0]
abbrev K.val (k:K):Value:=.agg #[.string k.s,.int .i8 k.cls,.int .u8 k.fields]
theorem new_cells (w:World) (c:Array Value) (t:TypeId) {w':World} (hb:Below (w.alloc (.cells c t)).heap.size (w.alloc (.cells c t)) w') :
  (∀ (j:Nat) v,c[j]?=some v->w'.cell? ⟨w.heap.size,j,none⟩=some v)/\(∀ j:Nat,w'.frozen? ⟨w.heap.size,j,none⟩=false)/\Below w.heap.size w w'/\w.heap.size<w'.heap.size:=by
 have hz:=hb.size;simp at hz
 refine ⟨fun j v h=>?_,fun j=>?_,((Below.refl _ _).alloc (Nat.le_refl _) _).trans (hb.mono (by simp)),hz⟩
 ·rw [(bcell hb).1 _ _ (by simp)];simp [h]
 ·rw [(bcell hb).2 _ _ (by simp)];simp
theorem kOf_some {d:Int} {k:K} (h:kOf d=some k):∃ (n:Nat) (hn:n<24),d=n/\kindL[n]'hn=k:=by
 unfold kOf at h
 split at h
 ·rename_i h0;obtain ⟨n,rfl⟩:=Int.eq_ofNat_of_zero_le h0;obtain ⟨hn,e⟩:=List.getElem?_eq_some_iff.1 h;exact ⟨n,hn,rfl,e⟩
 ·cases h
theorem kOf_out {d:Int} (h:kOf d=none):d<0\/24<=d:=by
 unfold kOf at h
 split at h
 ·rename_i h0
  have:=List.getElem?_eq_none_iff.1 h
  simp [kindL] at this
  omega
 ·omega
theorem kindOf_no (d:Int) (w:World) (h1 : -128<=d) (h2:d<=127) (h:kOf d=none) :
  Calls Tryz.prog 164 #[.int .i8 d] w fun e w'=>e=.returned (.tuple #[kz,.bool false])/\Below w.heap.size w w':=by
 have hd:24<=d%256:=by have:=kOf_out h;omega
 clear h;go_enter Tryz.func164,Tryz.ntmps164;go_wp2
 refine bodyPost_ret (v:=.tuple #[kz,.bool false]) (by simp [results,Tryz.results164,go_sem]) rfl ⟨rfl,by go_grown⟩
theorem index80 (d:Nat) (h:d<24) (w:World):(Instr.index 242 (.agg kindCells) (.int .i8 d)).run Tryz.prog w=.ok (.agg (kindCells.extract (d*3) (d*3+3))) w:=by
 simp [Instr.index,asIntOf,Tryz.sizeOf197,Tryz.isAgg197,part,go_sem]
 intro hc;omega
theorem kindRow (d:Nat) (h:d<24):Value.agg (kindCells.extract (d*3) (d*3+3))=(kindL[d]'h).val:=by
 match d,h with
 | 0,_=>rfl
 | 1,_=>rfl
 | 2,_=>rfl
 | 3,_=>rfl
 | 4,_=>rfl
 | 5,_=>rfl
 | 6,_=>rfl
 | 7,_=>rfl
 | 8,_=>rfl
 | 9,_=>rfl
 | 10,_=>rfl
 | 11,_=>rfl
 | 12,_=>rfl
 | 13,_=>rfl
 | 14,_=>rfl
 | 15,_=>rfl
 | 16,_=>rfl
 | 17,_=>rfl
 | 18,_=>rfl
 | 19,_=>rfl
 | 20,_=>rfl
 | 21,_=>rfl
 | 22,_=>rfl
 | 23,_=>rfl
 | _+24,h=>exact absurd h (by omega)
theorem kindOf_yes (d:Int) (k:K) (w:World) (h:kOf d=some k) :
  Calls Tryz.prog 164 #[.int .i8 d] w fun e w'=>e=.returned (.tuple #[k.val,.bool true])/\Below w.heap.size w w':=by
 obtain ⟨n,hn,rfl,hk⟩:=kOf_some h;clear h;have hi:∀ w,(Instr.index 242 (.agg kindCells) (.int .i8 n)).run Tryz.prog w=.ok k.val w:=fun w=>by rw [index80 n hn,kindRow n hn,hk]
 clear hk;have hd:(n:Int)%256<24:=by omega
 go_enter Tryz.func164,Tryz.ntmps164;go_wp2_with (first|(go_at_call 180;refine (kinds_any _).mono ?_;rintro e w' ⟨rfl,hb⟩;obtain ⟨hc,hf,HB0,hz⟩:=new_cells w _ _ hb;have c0:=hc 0 _ rfl;have c1:=hc 1 _ rfl;have c2:=hc 2 _ rfl;have f0:=hf 0;have f1:=hf 1;have f2:=hf 2;have HB:Hid (Below w.heap.size w w'):=HB0;clear hb HB0 hc hf))
 refine bodyPost_ret (v:=.tuple #[k.val,.bool true]) (by simp [results,Tryz.results164,go_sem,c0,c1,c2]) rfl ⟨rfl,HB.out.trans ?_⟩
 go_grown
theorem counts_any (s:ByteArray) (c f m:Int) (w:World):Calls Tryz.prog 182 #[.agg #[.string s,.int .i8 c,.int .u8 f],.int .u8 m] w fun e w'=>e=.returned (.bool (bits .and .u8 f m != 0))/\Below w.heap.size w w':=by
 go_enter Tryz.func182,Tryz.ntmps182;go_wp2
 go_ret
 exact ⟨rfl,by go_grown⟩
theorem and_D (k:K):(bits .and .u8 k.fields 1 != 0)=k.D:=
 (by decide:∀ D A B N I:Bool,(bits .and .u8 (bi D 1+bi A 2+bi B 4+bi I 8+bi N 16) 1 != 0)=D) k.D k.A k.B k.N k.I
theorem and_A (k:K):(bits .and .u8 k.fields 2 != 0)=k.A:=
 (by decide:∀ D A B N I:Bool,(bits .and .u8 (bi D 1+bi A 2+bi B 4+bi I 8+bi N 16) 2 != 0)=A) k.D k.A k.B k.N k.I
theorem and_B (k:K):(bits .and .u8 k.fields 4 != 0)=k.B:=
 (by decide:∀ D A B N I:Bool,(bits .and .u8 (bi D 1+bi A 2+bi B 4+bi I 8+bi N 16) 4 != 0)=B) k.D k.A k.B k.N k.I
theorem and_I (k:K):(bits .and .u8 k.fields 8 != 0)=k.I:=
 (by decide:∀ D A B N I:Bool,(bits .and .u8 (bi D 1+bi A 2+bi B 4+bi I 8+bi N 16) 8 != 0)=I) k.D k.A k.B k.N k.I
theorem and_BN (k:K):(bits .and .u8 k.fields 20 != 0)=(k.B || k.N):=
 (by decide:∀ D A B N I:Bool,(bits .and .u8 (bi D 1+bi A 2+bi B 4+bi I 8+bi N 16) 20 != 0)=(B || N)) k.D k.A k.B k.N k.I
theorem cnt_D (k:K) (w:World):Calls Tryz.prog 182 #[k.val,.int .u8 1] w fun e w'=>e=.returned (.bool k.D)/\Below w.heap.size w w':=by
 have h:=counts_any k.s k.cls k.fields 1 w;rw [and_D] at h;exact h
theorem cnt_A (k:K) (w:World):Calls Tryz.prog 182 #[k.val,.int .u8 2] w fun e w'=>e=.returned (.bool k.A)/\Below w.heap.size w w':=by
 have h:=counts_any k.s k.cls k.fields 2 w;rw [and_A] at h;exact h
theorem cnt_B (k:K) (w:World):Calls Tryz.prog 182 #[k.val,.int .u8 4] w fun e w'=>e=.returned (.bool k.B)/\Below w.heap.size w w':=by
 have h:=counts_any k.s k.cls k.fields 4 w;rw [and_B] at h;exact h
def rH (r:Int) (c:Bool):Bool:=if c then decide (r<32) else r==0
def iH (i:Int) (c:Bool):Bool:=if c then decide (-2147483648<=i/\i<=2147483647) else i==0
theorem regHolds (r:Int) (c:Bool) (w:World):Calls Tryz.prog 181 #[.int .u8 r,.bool c] w fun e w'=>e=.returned (.bool (rH r c))/\w'=w:=by
 cases c
 all_goals
  go_enter Tryz.func181,Tryz.ntmps181;go_wp2
  go_ret
  exact ⟨rfl,rfl⟩
theorem fits32 (i:Int):fitsI i 32=decide (-2147483648<=i/\i<=2147483647):=by
 unfold fitsI sgI;rw [show (cl 32).toNat = 32 from rfl,Bool.eq_iff_iff];simp only [decide_eq_true_eq];rw [sg_iff _ 32 (by decide)];simp
 omega
theorem immHolds (i:Int) (c:Bool) (w:World):Calls Tryz.prog 183 #[.int .i64 i,.bool c] w fun e w'=>e=.returned (.bool (iH i c))/\w'=w:=by
 cases c
 all_goals
  go_enter Tryz.func183,Tryz.ntmps183;go_wp2_with (first|(go_at_call 192;refine (fits_any _ _ _).mono ?_;rintro e w' ⟨rfl,rfl⟩))
  go_ret
  exact ⟨by simp [iH,fits32],rfl⟩
structure O where
 op:Int
 d:Int
 a:Int
 b:Int
 im:Int
abbrev O.cells (o:O):Array Value:=#[.int .i8 o.op,.int .u8 o.d,.int .u8 o.a,.int .u8 o.b,.int .i64 o.im]
abbrev O.val (o:O):Value:=.agg #[.int .i8 o.op,.int .u8 o.d,.int .u8 o.a,.int .u8 o.b,.int .i64 o.im]
structure O.Ok (o:O):Prop where
 op0 : -128<=o.op
 op1:o.op<=127
 d0:0<=o.d
 d1:o.d<=255
 a0:0<=o.a
 a1:o.a<=255
 b0:0<=o.b
 b1:o.b<=255
 i0 : -9223372036854775808<=o.im
 i1:o.im<=9223372036854775807
def okF (k:K) (o:O):Bool:=rH o.d k.D&&rH o.a k.A&&rH o.b (k.B || k.N)&&iH o.im k.I
def okO (o:O):Bool:=match kOf o.op with|some k=>okF k o|none=>false
structure OAt (w:World) (b f:Nat) (o:O):Prop where
 c0:w.cell? ⟨b,f,none⟩=some (.int .i8 o.op)
 c1:w.cell? ⟨b,f+1,none⟩=some (.int .u8 o.d)
 c2:w.cell? ⟨b,f+2,none⟩=some (.int .u8 o.a)
 c3:w.cell? ⟨b,f+3,none⟩=some (.int .u8 o.b)
 c4:w.cell? ⟨b,f+4,none⟩=some (.int .i64 o.im)
theorem OAt.below {w w':World} {b f B:Nat} {o:O} (h:OAt w b f o) (hb:Below B w w') (z:b<B):OAt w' b f o:=by
 have c:=(bcell hb).1;exact ⟨by rw [c _ _ z];exact h.c0,by rw [c _ _ z];exact h.c1,by rw [c _ _ z];exact h.c2,by rw [c _ _ z];exact h.c3,by rw [c _ _ z];exact h.c4⟩
structure OpsAt (w:World) (ao:Option Addr) (xs:List O):Prop where
 ok:∀ o,o∈xs->o.Ok
 len:xs.length<=8796093022208
 is:0<xs.length->∃ b f,ao=some ⟨b,f,none⟩/\b<w.heap.size/\∀ (i:Nat) (h:i<xs.length),OAt w b (f+i*5) xs[i]
theorem OpsAt.below {w w':World} {ao:Option Addr} {xs:List O} (h:OpsAt w ao xs) (hb:Below w.heap.size w w'):OpsAt w' ao xs:=by
 refine ⟨h.ok,h.len,fun h0=>?_⟩;obtain ⟨b,f,e,z,hx⟩:=h.is h0;exact ⟨b,f,e,Nat.lt_of_lt_of_le z hb.size,fun i hi=>(hx i hi).below hb z⟩
structure Bk where
 ops:List O
 fin:Int
 a:Int
 body:List O
 thn:Int
 els:Int
structure Bk.Ok (x:Bk):Prop where
 f0 : -128<=x.fin
 f1:x.fin<=127
 a0:0<=x.a
 a1:x.a<=255
 t0 : -9223372036854775808<=x.thn
 t1:x.thn<=9223372036854775807
 e0 : -9223372036854775808<=x.els
 e1:x.els<=9223372036854775807
structure Pl where
 oa:Option Addr
 oc:Nat
 ba:Option Addr
 bc:Nat
abbrev Bk.cells (x:Bk) (p:Pl):Array Value:=#[.slice p.oa x.ops.length p.oc,.int .i8 x.fin,.int .u8 x.a,.slice p.ba x.body.length p.bc,.int .i64 x.thn,.int .i64 x.els]
abbrev Bk.val (x:Bk) (p:Pl):Value:=.agg #[.slice p.oa x.ops.length p.oc,.int .i8 x.fin,.int .u8 x.a,.slice p.ba x.body.length p.bc,.int .i64 x.thn,.int .i64 x.els]
structure BIn (w:World) (x:Bk) (p:Pl):Prop where
 ok:x.Ok
 o:OpsAt w p.oa x.ops
 b:OpsAt w p.ba x.body
 c:x.ops.length<=p.oc
theorem BIn.below {w w':World} {x:Bk} {p:Pl} (h:BIn w x p) (hb:Below w.heap.size w w'):BIn w' x p:=⟨h.ok,h.o.below hb,h.b.below hb,h.c⟩
structure BAt (w:World) (b f:Nat) (x:Bk) (p:Pl):Prop where
 c0:w.cell? ⟨b,f,none⟩=some (.slice p.oa x.ops.length p.oc)
 c1:w.cell? ⟨b,f+1,none⟩=some (.int .i8 x.fin)
 c2:w.cell? ⟨b,f+2,none⟩=some (.int .u8 x.a)
 c3:w.cell? ⟨b,f+3,none⟩=some (.slice p.ba x.body.length p.bc)
 c4:w.cell? ⟨b,f+4,none⟩=some (.int .i64 x.thn)
 c5:w.cell? ⟨b,f+5,none⟩=some (.int .i64 x.els)
theorem BAt.below {w w':World} {b f B:Nat} {x:Bk} {p:Pl} (h:BAt w b f x p) (hb:Below B w w') (z:b<B):BAt w' b f x p:=by
 have c:=(bcell hb).1;exact ⟨by rw [c _ _ z];exact h.c0,by rw [c _ _ z];exact h.c1,by rw [c _ _ z];exact h.c2,by rw [c _ _ z];exact h.c3,by rw [c _ _ z];exact h.c4,by rw [c _ _ z];exact h.c5⟩
structure PAt (w:World) (ao:Option Addr) (ps:List Bk):Prop where
 len:ps.length<=2199023255552
 is:0<ps.length->∃ b f,ao=some ⟨b,f,none⟩/\b<w.heap.size/\∀ (i:Nat) (h:i<ps.length),∃ p,BAt w b (f+i*6) ps[i] p/\BIn w ps[i] p
theorem PAt.below {w w':World} {ao:Option Addr} {ps:List Bk} (h:PAt w ao ps) (hb:Below w.heap.size w w'):PAt w' ao ps:=by
 refine ⟨h.len,fun h0=>?_⟩;obtain ⟨b,f,e,z,hx⟩:=h.is h0;refine ⟨b,f,e,Nat.lt_of_lt_of_le z hb.size,fun i hi=>?_⟩;obtain ⟨p,h1,h2⟩:=hx i hi;exact ⟨p,h1.below hb z,h2.below hb⟩
theorem drewN_below {B:Nat} {a w:World} (h:Below B a w) (n:Nat):Below B a (w.drewN n):=⟨h.os,h.tape,h.output,h.size,h.block⟩
def bkN (x:Bk):Nat:=x.ops.length+x.body.length
def sumTo (ps:List Bk) (k:Nat):Nat:=((ps.take k).map bkN).sum
theorem sumTo_succ {ps:List Bk} {k:Nat} (h:k<ps.length):sumTo ps (k+1)=sumTo ps k+bkN ps[k]:=by
 unfold sumTo;rw [List.take_succ_eq_append_getElem h,List.map_append,List.sum_append];simp
theorem sumTo_zero (ps:List Bk):sumTo ps 0=0:=by simp [sumTo]
theorem sumTo_le {w:World} {ao:Option Addr} {ps:List Bk} (h:PAt w ao ps):∀ k,k<=ps.length->sumTo ps k<=k*17592186044416:=by
 intro k
 induction k with
 | zero=>intro _;simp [sumTo_zero]
 | succ k ih=>
  intro hk
  have:=ih (by omega)
  rw [sumTo_succ (by omega)];obtain ⟨b,f,_,_,hx⟩:=h.is (by omega);obtain ⟨p,_,h2⟩:=hx k (by omega);have l1:=h2.o.len;have l2:=h2.b.len;unfold bkN;rw [Nat.succ_mul];omega
def opsN (ps:List Bk):Nat:=ps.length+sumTo ps ps.length
theorem ops_any (ao:Option Addr) (cap:Nat) (ps:List Bk) (w:World) (h:PAt w ao ps) (hl:ps.length<=8192) :
  Calls Tryz.prog 14 #[.agg #[.slice ao ps.length cap]] w fun e w'=>e=.returned (.int .i64 (opsN ps))/\Below w.heap.size w w':=by
 have HP:Hid _:=h;have HL:Hid _:=sumTo_le h;have hlen:=h.len;clear h;go_enter Tryz.func14,Tryz.ntmps14;go_wp2
 go_loopw [12,3] (fun i s wr=>∃ k:Nat,k<=ps.length/\i=.int .i64 k/\s=.int .i64 ((ps.length+sumTo ps k:Nat):Int)/\Below w.heap.size w wr) (fun i _ _=>ps.length-(intOf i).toNat)
 case atStart=>exact ⟨0,by omega,rfl,by simp [sumTo_zero],by go_grown⟩
 case round=>
  rename_i wr;obtain ⟨k,hk,rfl,rfl,hbw⟩:=hrel
  by_cases hlt:k<ps.length
  ·obtain ⟨b,f,rfl,hz,hx⟩:=HP.out.is (by omega);obtain ⟨p,h1,h2⟩:=hx k hlt;obtain ⟨c0,c1,c2,c3,c4,c5⟩:=h1.below hbw hz;have l1:=h2.o.len;have l2:=h2.b.len;have l3:=HL.out k (by omega);have l4:sumTo ps k<=144115188075855872:=by omega
   have HS:Hid _:=sumTo_succ hlt;clear h1 l3 hx h2 HP;go_wp2
   go_roundw
   case rel=>
    refine ⟨k+1,by omega,by go_num,?_,hbw.alloc hbw.size _⟩;rw [HS.out];unfold bkN;go_num
   case measure=>simp [intOf];omega
  ·obtain rfl:k=ps.length:=by omega
   go_wp2
   go_ret
   exact ⟨rfl,hbw⟩
theorem sumTo_mono (ps:List Bk):∀ j k,k+j<=ps.length->sumTo ps k<=sumTo ps (k+j):=by
 intro j
 induction j with
 | zero=>intro k _;exact Nat.le_refl _
 | succ j ih=>
  intro k h
  have:=ih k (by omega)
  rw [<- Nat.add_assoc,sumTo_succ (by omega)];omega
def greatB (ps:List Bk):Bool:=decide (8192<opsN ps)
theorem regHoldsV (r:Int) (c v:Bool) (w:World) (h:rH r c=v):Calls Tryz.prog 181 #[.int .u8 r,.bool c] w fun e w'=>e=.returned (.bool v)/\Below w.heap.size w w':=
 (regHolds r c w).mono fun _ _ g=>⟨by rw [g.1,h],by rw [g.2];exact Below.refl _ _⟩
theorem fieldsHold_any (k:K) (o:O) (w:World) :
  Calls Tryz.prog 165 #[k.val,o.val] w fun e w'=>e=.returned (.bool (okF k o))/\Below w.heap.size w w':=by
 have hW:Below w.heap.size w ((w.alloc (.cells #[.string k.s,.int .i8 k.cls,.int .u8 k.fields] 197)).alloc (.cells o.cells 60)):=by go_grown
 generalize hV:(w.alloc (.cells #[.string k.s,.int .i8 k.cls,.int .u8 k.fields] 197)).alloc (.cells o.cells 60)=V at hW;have hsz:w.heap.size+2=V.heap.size:=by rw [<- hV];simp
 have c0:∀ x:Wd (Below V.heap.size V),x.w.cell? ⟨w.heap.size,0,none⟩=some (.string k.s):=fun x=>by rw [(bcell x.ok).1 _ _ (by omega),<- hV];simp
 have c1:∀ x:Wd (Below V.heap.size V),x.w.cell? ⟨w.heap.size,1,none⟩=some (.int .i8 k.cls):=fun x=>by rw [(bcell x.ok).1 _ _ (by omega),<- hV];simp
 have c2:∀ x:Wd (Below V.heap.size V),x.w.cell? ⟨w.heap.size,2,none⟩=some (.int .u8 k.fields):=fun x=>by rw [(bcell x.ok).1 _ _ (by omega),<- hV];simp
 have d1:∀ x:Wd (Below V.heap.size V),x.w.cell? ⟨w.heap.size+1,1,none⟩=some (.int .u8 o.d):=fun x=>by rw [(bcell x.ok).1 _ _ (by omega),<- hV];simp
 have d2:∀ x:Wd (Below V.heap.size V),x.w.cell? ⟨w.heap.size+1,2,none⟩=some (.int .u8 o.a):=fun x=>by rw [(bcell x.ok).1 _ _ (by omega),<- hV];simp
 have d3:∀ x:Wd (Below V.heap.size V),x.w.cell? ⟨w.heap.size+1,3,none⟩=some (.int .u8 o.b):=fun x=>by rw [(bcell x.ok).1 _ _ (by omega),<- hV];simp
 have d4:∀ x:Wd (Below V.heap.size V),x.w.cell? ⟨w.heap.size+1,4,none⟩=some (.int .i64 o.im):=fun x=>by rw [(bcell x.ok).1 _ _ (by omega),<- hV];simp
 haveI inst:Nonempty (Wd (Below V.heap.size V)):=⟨⟨V,Below.refl _ _⟩⟩
 have HW:Hid (Below w.heap.size w V):=hW;have HV:Hid (_=V):=hV;clear hW hV;have hdef:okF k o=(rH o.d k.D&&rH o.a k.A&&rH o.b (k.B || k.N)&&iH o.im k.I):=rfl;rw [hdef];clear hdef;have aD:=and_D k;have aA:=and_A k;have aB:=and_BN k;have aI:=and_I k
 cases h1:rH o.d k.D
 rotate_left
 cases h2:rH o.a k.A
 rotate_left
 cases h3:rH o.b (k.B || k.N)
 rotate_left
 all_goals
  go_enter Tryz.func165,Tryz.ntmps165;go_wp2
  rw [HV.out];refine wp_region_in (Below V.heap.size V) (by kernel_rfl) (by kernel_rfl) ((Below.refl _ _).drew) ?_
  repeat (first|go_big_quiet_step ((first
   | (go_at_call 182;exact calls_in (Nat.le_refl _) _ (counts_any _ _ _ _ _))
   | (go_at_call 181;exact calls_in (Nat.le_refl _) _ (regHoldsV _ _ _ _ (by assumption)))
   | (go_at_call 183;exact calls_in (Nat.le_refl _) _ ((immHolds _ _ _).mono fun _ _ h=>⟨h.1,by rw [h.2];exact Below.refl _ _⟩)))))
  refine wpQuiet_nil ?_;rintro _ ⟨x,rfl⟩;have hx:=x.ok;go_wp2
  go_ret
  refine ⟨ret_bool (by simp),HW.out.trans (hx.mono HW.out.size)⟩
structure At (w:World) (b:Nat) (cs:Array Value):Prop where
 c:∀ (j:Nat) v,cs[j]?=some v->w.cell? ⟨b,j,none⟩=some v
 f:∀ j:Nat,w.frozen? ⟨b,j,none⟩=false
 lt:b<w.heap.size
theorem At.new (w:World) (c:Array Value) (t:TypeId):At (w.alloc (.cells c t)) w.heap.size c:=
 ⟨fun j v h=>by simp [h],fun j=>by simp,by simp⟩
theorem At.below {w w':World} {b B:Nat} {cs:Array Value} (h:At w b cs) (hb:Below B w w') (hB:b<B):At w' b cs:=
 ⟨fun j v e=>by rw [(bcell hb).1 _ _ hB];exact h.c j v e,fun j=>by rw [(bcell hb).2 _ _ hB];exact h.f j,Nat.lt_of_lt_of_le h.lt hb.size⟩
theorem At.alloc {w:World} {b:Nat} {cs:Array Value} (h:At w b cs) (o:Obj):At (w.alloc o) b cs:=
 h.below ((Below.refl _ _).alloc (Nat.le_refl _) o) h.lt
theorem two_new (w:World) (c c':Array Value) (t t':TypeId) {w':World} (hb:Below ((w.alloc (.cells c t)).alloc (.cells c' t')).heap.size ((w.alloc (.cells c t)).alloc (.cells c' t')) w') :
  At w' w.heap.size c/\At w' (w.heap.size+1) c'/\Below w.heap.size w w'/\w.heap.size<w'.heap.size/\w.heap.size+1<w'.heap.size:=by
 have hz:=hb.size;simp at hz
 have h2:=At.new (w.alloc (.cells c t)) c' t';rw [show (w.alloc (.cells c t)).heap.size=w.heap.size+1 by simp] at h2;refine ⟨((At.new w c t).alloc _).below hb (by simp;omega),h2.below hb (by simp),Below.trans (by go_grown) (hb.mono (by simp;omega)),by omega,by omega⟩
theorem one_new (w:World) (c:Array Value) (t:TypeId) {w':World} (hb:Below (w.alloc (.cells c t)).heap.size (w.alloc (.cells c t)) w') :
  At w' w.heap.size c/\Below w.heap.size w w'/\w.heap.size<w'.heap.size:=by
 have hz:=hb.size;simp at hz
 exact ⟨(At.new w c t).below hb (by simp),Below.trans (by go_grown) (hb.mono (by simp)),hz⟩
theorem At.k3 {w:World} {b:Nat} {x y z:Value} (h:At w b #[x,y,z]):w.cell? ⟨b,0,none⟩=some x/\w.cell? ⟨b,1,none⟩=some y/\w.cell? ⟨b,2,none⟩=some z:=
 ⟨h.c 0 x rfl,h.c 1 y rfl,h.c 2 z rfl⟩
theorem At.o5 {w:World} {b:Nat} {x y z u v:Value} (h:At w b #[x,y,z,u,v]):w.cell? ⟨b,0,none⟩=some x/\w.cell? ⟨b,1,none⟩=some y/\w.cell? ⟨b,2,none⟩=some z/\w.cell? ⟨b,3,none⟩=some u/\w.cell? ⟨b,4,none⟩=some v:=
 ⟨h.c 0 x rfl,h.c 1 y rfl,h.c 2 z rfl,h.c 3 u rfl,h.c 4 v rfl⟩
theorem okO_some {o:O} {k:K} (h:kOf o.op=some k):okO o=okF k o:=by unfold okO;rw [h]
theorem okO_none {o:O} (h:kOf o.op=none):okO o=false:=by unfold okO;rw [h]
theorem checked_none (o:O) (w:World) (ho:o.Ok) (h:kOf o.op=none) :
  Calls Tryz.prog 136 #[o.val] w fun e w'=>e=.returned (.tuple #[kz,.int .i64 30])/\Below w.heap.size w w':=by
 have HK:Hid (∀ w,Calls Tryz.prog 164 #[.int .i8 o.op] w fun e w'=>e=.returned (.tuple #[kz,.bool false])/\Below w.heap.size w w'):=fun w=>kindOf_no o.op w ho.op0 ho.op1 h;clear ho h;go_enter Tryz.func136,Tryz.ntmps136;go_wp2_with (first|(go_at_call 164;refine Calls.mono (HK.out _) ?_;rintro e w1 ⟨rfl,hb⟩;obtain ⟨a1,a2,hb0,hz,hz1⟩:=two_new w _ _ _ _ hb;have HB:Hid (Below w.heap.size w w1):=hb0;have f0:=a2.f 0;have f1:=a2.f 1;have f2:=a2.f 2;obtain ⟨c0,c1,c2⟩:=a2.k3;clear hb hb0 a1 a2))
 refine bodyPost_ret (v:=.tuple #[kz,.int .i64 30]) (by simp [results,Tryz.results136,go_sem,c0,c1,c2,hz1]) rfl ⟨rfl,HB.out.trans ?_⟩
 go_grown
theorem checked_bad (o:O) (k:K) (w:World) (h:kOf o.op=some k) (hf:okF k o=false) :
  Calls Tryz.prog 136 #[o.val] w fun e w'=>e=.returned (.tuple #[kz,.int .i64 30])/\Below w.heap.size w w':=by
 have HK:Hid (∀ w,Calls Tryz.prog 164 #[.int .i8 o.op] w fun e w'=>e=.returned (.tuple #[k.val,.bool true])/\Below w.heap.size w w'):=fun w=>kindOf_yes o.op k w h;have HF:Hid (∀ w,Calls Tryz.prog 165 #[k.val,o.val] w fun e w'=>e=.returned (.bool false)/\Below w.heap.size w w'):=fun w=>by have:=fieldsHold_any k o w;rw [hf] at this;exact this
 clear h hf;go_enter Tryz.func136,Tryz.ntmps136;go_wp2_with (first|(go_at_call 164;refine Calls.mono (HK.out _) ?_;rintro e w1 ⟨rfl,hb⟩;obtain ⟨a1,a2,hb0,hz,hz1⟩:=two_new w _ _ _ _ hb;have HB:Hid (Below w.heap.size w w1):=hb0;have HA:Hid (At w1 (w.heap.size+1) _):=a2;obtain ⟨o0,o1,o2,o3,o4⟩:=a1.o5;clear hb hb0 a1 a2)|(go_at_call 165;refine Calls.mono (HF.out _) ?_;rintro e w2 ⟨rfl,hb⟩;obtain ⟨-,hb0,hz2⟩:=one_new w1 _ _ hb;have a2:=HA.out.below hb0 (by omega);have hz3:w.heap.size<w2.heap.size:=(by omega);have hz4:w.heap.size+1<w2.heap.size:=(by omega);have HB2:Hid (Below w.heap.size w w2):=HB.out.trans (hb0.mono HB.out.size);have f0:=a2.f 0;have f1:=a2.f 1;have f2:=a2.f 2;obtain ⟨c0,c1,c2⟩:=a2.k3;clear hb hb0 a2 o0 o1 o2 o3 o4))
 refine bodyPost_ret (v:=.tuple #[kz,.int .i64 30]) (by simp [results,Tryz.results136,go_sem,c0,c1,c2]) rfl ⟨rfl,HB2.out.trans ?_⟩
 go_grown
theorem checked_yes (o:O) (k:K) (w:World) (h:kOf o.op=some k) (hf:okF k o=true) :
  Calls Tryz.prog 136 #[o.val] w fun e w'=>e=.returned (.tuple #[k.val,.int .i64 0])/\Below w.heap.size w w':=by
 have HK:Hid (∀ w,Calls Tryz.prog 164 #[.int .i8 o.op] w fun e w'=>e=.returned (.tuple #[k.val,.bool true])/\Below w.heap.size w w'):=fun w=>kindOf_yes o.op k w h;have HF:Hid (∀ w,Calls Tryz.prog 165 #[k.val,o.val] w fun e w'=>e=.returned (.bool true)/\Below w.heap.size w w'):=fun w=>by have:=fieldsHold_any k o w;rw [hf] at this;exact this
 clear h hf;go_enter Tryz.func136,Tryz.ntmps136;go_wp2_with (first|(go_at_call 164;refine Calls.mono (HK.out _) ?_;rintro e w1 ⟨rfl,hb⟩;obtain ⟨a1,a2,hb0,hz,hz1⟩:=two_new w _ _ _ _ hb;have HB:Hid (Below w.heap.size w w1):=hb0;have HA:Hid (At w1 (w.heap.size+1) _):=a2;obtain ⟨o0,o1,o2,o3,o4⟩:=a1.o5;clear hb hb0 a1 a2)|(go_at_call 165;refine Calls.mono (HF.out _) ?_;rintro e w2 ⟨rfl,hb⟩;obtain ⟨a1,hb0,hz2⟩:=one_new w1 _ _ hb;have a2:=HA.out.below hb0 (by omega);have hz3:w.heap.size<w2.heap.size:=(by omega);have hz4:w.heap.size+1<w2.heap.size:=(by omega);have HB2:Hid (Below w.heap.size w w2):=HB.out.trans (hb0.mono HB.out.size);have f0:=a2.f 0;have f1:=a2.f 1;have f2:=a2.f 2;obtain ⟨c0,c1,c2⟩:=a2.k3;obtain ⟨k0,k1,k2⟩:=a1.k3;clear hb hb0 a2 a1 o0 o1 o2 o3 o4))
 refine bodyPost_ret (v:=.tuple #[k.val,.int .i64 0]) (by simp [results,Tryz.results136,go_sem,c0,c1,c2]) rfl ⟨rfl,HB2.out.trans ?_⟩
 go_grown
theorem checked_no (o:O) (w:World) (ho:o.Ok) (h:okO o=false) :
  Calls Tryz.prog 136 #[o.val] w fun e w'=>e=.returned (.tuple #[kz,.int .i64 30])/\Below w.heap.size w w':=by
 cases hk:kOf o.op with
 | none=>exact checked_none o w ho hk
 | some k=>exact checked_bad o k w hk (by rw [<- okO_some hk];exact h)
def ckE (o:O):Int:=if okO o then 0 else 30
theorem checked_gen (o:O) (ho:o.Ok):∃ s c f,∀ w,Calls Tryz.prog 136 #[o.val] w fun e w'=>e=.returned (.tuple #[.agg #[.string s,.int .i8 c,.int .u8 f],.int .i64 (ckE o)])/\Below w.heap.size w w':=by
 cases hO:okO o
 ·exact ⟨_,_,_,fun w=>by have:=checked_no o w ho hO;rw [show (30:Int)=ckE o by simp [ckE,hO]] at this;exact this⟩
 ·cases hk:kOf o.op with
  | none=>rw [okO_none hk] at hO;cases hO
  | some k=>exact ⟨_,_,_,fun w=>by have:=checked_yes o k w hk (by rw [<- okO_some hk];exact hO);rw [show (0:Int)=ckE o by simp [ckE,hO]] at this;exact this⟩
theorem check_any (o:O) (w:World) (ho:o.Ok):Calls Tryz.prog 99 #[o.val] w fun e w'=>e=.returned (.int .i64 (ckE o))/\Below w.heap.size w w':=by
 obtain ⟨s,c,f,h⟩:=checked_gen o ho;have HC:Hid _:=h;clear h;go_enter Tryz.func99,Tryz.ntmps99;go_wp2_with (first|(go_at_call 136;refine Calls.mono (HC.out _) ?_;rintro e w1 ⟨rfl,hb⟩;obtain ⟨-,hb0,hz⟩:=one_new w _ _ hb;have HB:Hid (Below w.heap.size w w1):=hb0;clear hb hb0))
 go_ret
 exact ⟨rfl,HB.out.trans ((Below.refl _ _).alloc (Nat.le_of_lt hz) _)⟩
def wrB (o:O):Bool:=match kOf o.op with|some k=>okF k o&&k.D|none=>false
def wrD (o:O):Int:=if wrB o then o.d else 0
theorem wr_no {o:O} (h:okO o=false):wrB o=false:=by
 unfold wrB;unfold okO at h
 split <;> simp_all
theorem wr_yes {o:O} {k:K} (h:kOf o.op=some k) (hf:okF k o=true):wrB o=k.D:=by
 unfold wrB;rw [h];simp [hf]
theorem writes_any (o:O) (w:World) (ho:o.Ok):Calls Tryz.prog 168 #[o.val] w fun e w'=>e=.returned (.tuple #[.int .u8 (wrD o),.bool (wrB o)])/\Below w.heap.size w w':=by
 cases hO:okO o
 ·have hw:=wr_no hO;rw [show wrD o=0 by simp [wrD,hw],hw];have HC:Hid _:=fun w=>checked_no o w ho hO;clear hO hw ho;go_enter Tryz.func168,Tryz.ntmps168;go_wp2_with (first|(go_at_call 136;refine Calls.mono (HC.out _) ?_;rintro e w1 ⟨rfl,hb⟩;obtain ⟨-,hb0,hz⟩:=one_new w _ _ hb;have HB:Hid (Below w.heap.size w w1):=hb0;clear hb hb0))
  go_ret2
  exact ⟨rfl,HB.out.trans ((Below.refl _ _).alloc (Nat.le_of_lt hz) _)⟩
 ·cases hk:kOf o.op with
  | none=>rw [okO_none hk] at hO;cases hO
  | some k=>
   have hf:okF k o=true:=by rw [<- okO_some hk];exact hO
   have hw:=wr_yes hk hf;have HC:Hid _:=fun w=>checked_yes o k w hk hf;have HD:Hid _:=fun w=>cnt_D k w
   cases hD:k.D
   ·rw [hD] at hw;rw [show wrD o=0 by simp [wrD,hw],hw];rw [hD] at HD;clear hO hw ho hk hf;go_enter Tryz.func168,Tryz.ntmps168;go_wp2_with (first|(go_at_call 136;refine Calls.mono (HC.out _) ?_;rintro e w1 ⟨rfl,hb⟩;obtain ⟨-,hb0,hz⟩:=one_new w _ _ hb;have HB:Hid (Below w.heap.size w w1):=hb0;clear hb hb0)|(go_at_call 182;refine Calls.mono (HD.out _) ?_;rintro e w2 ⟨rfl,hb⟩;obtain ⟨-,hb0,hz2⟩:=one_new w1 _ _ hb;have HB2:Hid (Below w.heap.size w w2):=HB.out.trans (hb0.mono (Nat.le_of_lt hz));clear hb hb0))
    go_ret2
    exact ⟨rfl,HB2.out⟩
   ·rw [hD] at hw;rw [show wrD o=o.d by simp [wrD,hw],hw];rw [hD] at HD;clear hO hw ho hk hf;go_enter Tryz.func168,Tryz.ntmps168;go_wp2_with (first|(go_at_call 136;refine Calls.mono (HC.out _) ?_;rintro e w1 ⟨rfl,hb⟩;obtain ⟨a1,hb0,hz⟩:=one_new w _ _ hb;have HA:Hid _:=a1;have HB:Hid (Below w.heap.size w w1):=hb0;clear hb hb0 a1)|(go_at_call 182;refine Calls.mono (HD.out _) ?_;rintro e w2 ⟨rfl,hb⟩;obtain ⟨-,hb0,hz2⟩:=one_new w1 _ _ hb;have HB2:Hid (Below w.heap.size w w2):=HB.out.trans (hb0.mono (Nat.le_of_lt hz));have o1:=(HA.out.below hb0 hz).o5.2.1;clear hb hb0))
    go_ret2
    exact ⟨rfl,HB2.out⟩
def rcN (k:K) (o:O):Nat:=if k.A then (if k.B && !(o.a==o.b) then 2 else 1) else 0
theorem readCount_any (k:K) (o:O) (w:World):Calls Tryz.prog 186 #[k.val,o.val] w fun e w'=>e=.returned (.int .i64 (rcN k o))/\Below w.heap.size w w':=by
 have HA:Hid _:=fun w=>cnt_A k w;have HC:Hid _:=fun w=>cnt_B k w;have hdef:rcN k o=if k.A then (if k.B && !(o.a==o.b) then 2 else 1) else 0:=rfl;rw [hdef];clear hdef
 cases hA:k.A
 ·rw [hA] at HA;go_enter Tryz.func186,Tryz.ntmps186;go_wp2_with (first|(go_at_call_of 182 (Value.int IntKind.u8 2);refine Calls.mono (HA.out _) ?_;rintro e w1 ⟨rfl,hb⟩;obtain ⟨-,-,hb0,hz,hz1⟩:=two_new w _ _ _ _ hb;clear hb))
  go_ret
  exact ⟨rfl,hb0⟩
 ·rw [hA] at HA
  cases hB:k.B
  ·rw [hB] at HC;go_enter Tryz.func186,Tryz.ntmps186;go_wp2_with (first|(go_at_call_of 182 (Value.int IntKind.u8 2);refine Calls.mono (HA.out _) ?_;rintro e w1 ⟨rfl,hb⟩;obtain ⟨a1,a2,hb0,hz,hz1⟩:=two_new w _ _ _ _ hb;obtain ⟨k0,k1,k2⟩:=a1.k3;have HB:Hid (Below w.heap.size w w1):=hb0;clear hb a1 a2 hb0)|(go_at_call_of 182 (Value.int IntKind.u8 4);refine Calls.mono (HC.out _) ?_;rintro e w2 ⟨rfl,hb⟩))
   go_ret
   exact ⟨rfl,HB.out.trans (hb.mono (Nat.le_of_lt hz))⟩
  ·rw [hB] at HC
   cases hE:(o.a==o.b)
   all_goals
    go_enter Tryz.func186,Tryz.ntmps186;go_wp2_with (first|(go_at_call_of 182 (Value.int IntKind.u8 2);refine Calls.mono (HA.out _) ?_;rintro e w1 ⟨rfl,hb⟩;obtain ⟨a1,a2,hb0,hz,hz1⟩:=two_new w _ _ _ _ hb;obtain ⟨k0,k1,k2⟩:=a1.k3;have HO:Hid _:=a2;have HB:Hid (Below w.heap.size w w1):=hb0;clear hb a1 a2 hb0)|(go_at_call_of 182 (Value.int IntKind.u8 4);refine Calls.mono (HC.out _) ?_;rintro e w2 ⟨rfl,hb⟩;obtain ⟨-,-,o2,o3,-⟩:=(HO.out.below hb hz1).o5))
    go_ret
    exact ⟨rfl,HB.out.trans (hb.mono (Nat.le_of_lt hz))⟩
theorem reads_no (o:O) (w:World) (ho:o.Ok) (h:okO o=false):Calls Tryz.prog 169 #[o.val] w fun e w'=>e=.returned (.slice none 0 0)/\Below w.heap.size w w':=by
 have HC:Hid _:=fun w=>checked_no o w ho h;clear ho h;go_enter Tryz.func169,Tryz.ntmps169;go_wp2_with (first|(go_at_call 136;refine Calls.mono (HC.out _) ?_;rintro e w1 ⟨rfl,hb⟩;obtain ⟨-,hb0,hz⟩:=one_new w _ _ hb;have HB:Hid (Below w.heap.size w w1):=hb0;clear hb hb0))
 go_ret
 exact ⟨rfl,HB.out.trans ((Below.refl _ _).alloc (Nat.le_of_lt hz) _)⟩
theorem reads_yes (o:O) (k:K) (w:World) (hk:kOf o.op=some k) (hf:okF k o=true):Calls Tryz.prog 169 #[o.val] w fun e w'=>∃ b:Nat,e=.returned (.slice (some ⟨b,0,none⟩) (rcN k o) (rcN k o))/\At w' b #[.int .u8 o.a,.int .u8 o.b]/\Below w.heap.size w w':=by
 have HC:Hid _:=fun w=>checked_yes o k w hk hf;have HR:Hid _:=fun w=>readCount_any k o w;have hn:rcN k o=0\/rcN k o=1\/rcN k o=2:=by unfold rcN;split <;> (try split) <;> simp
 clear hk hf;rcases hn with hn|hn|hn
 all_goals
  rw [hn] at HR;rw [hn];clear hn;go_enter Tryz.func169,Tryz.ntmps169;go_wp2_with (first|(go_at_call 136;refine Calls.mono (HC.out _) ?_;rintro e w1 ⟨rfl,hb⟩;obtain ⟨a1,hb0,hz⟩:=one_new w _ _ hb;have HO:Hid _:=a1;obtain ⟨o0,o1,o2,o3,o4⟩:=a1.o5;have HB:Hid (Below w.heap.size w w1):=hb0;clear hb hb0 a1)|(go_at_call 186;refine Calls.mono (HR.out _) ?_;rintro e w2 ⟨rfl,hb⟩;obtain ⟨a1,a2,hb0,hz2,hz3⟩:=two_new w1 _ _ _ _ hb;have HA:Hid _:=a2;have HB2:Hid (Below w.heap.size w w2):=HB.out.trans (hb0.mono (Nat.le_of_lt hz));clear hb hb0 a1 a2))
  go_ret
  refine ⟨_,rfl,?_,HB2.out⟩;exact HA.out
end Go.Proofs.YtcmlnemokckbdaaGreatDoor.L8.Op
