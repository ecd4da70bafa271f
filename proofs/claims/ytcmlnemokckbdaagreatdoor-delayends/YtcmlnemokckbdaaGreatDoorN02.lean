/- Parts Math Forms Bc Ka Kb Kc. -/
import Derived.WalkKit
import Derived.ProofKit
import Derived.Laws.BitsAllLaws
import Derived.Test.YtcmlnemokckbdaaGreatDoorProg
import Derived.OpenShut
import Derived.WalkSpells
import Derived.WalkLawsBesides
import Derived.Handy
import Derived.Deep.RegionHeld3
import Derived.Deep.DrawnRows
import Derived.Deep.QuietTactic
import Derived.BigQuiet
import Derived.Deep.WholeRow
set_option maxRecDepth 20000
set_option maxHeartbeats 4000000
namespace Go.Proofs.YtcmlnemokckbdaaGreatDoor.Op
def cl (n:Int):Int:=if n<1 then 1 else if 64<n then 64 else n
theorem cl_lo (n:Int):1<=cl n:=by unfold cl;split <;> (try split) <;> omega
theorem cl_hi (n:Int):cl n<=64:=by unfold cl;split <;> (try split) <;> omega
def sg (x:Int) (c:Nat):Int:=(x+2^(c-1))%2^c-2^(c-1)
theorem pow_split (c:Nat) (h:1<=c):(2:Int)^c=2*2^(c-1):=by
 obtain ⟨d,rfl⟩:∃ d,c=d+1:=⟨c-1,by omega⟩;rw [Nat.add_sub_cancel,Int.pow_succ];omega
theorem pow_pos' (c:Nat):(0:Int)<2^c:=Int.pow_pos (by decide)
theorem sg_lo (x:Int) (c:Nat) : -(2^(c-1))<=sg x c:=by
 unfold sg
 have:=Int.emod_nonneg (x+2^(c-1)) (Int.ne_of_gt (pow_pos' c));omega
theorem sg_hi (x:Int) (c:Nat) (h:1<=c):sg x c<2^(c-1):=by
 unfold sg
 have:=Int.emod_lt_of_pos (x+2^(c-1)) (pow_pos' c)
 have:=pow_split c h;omega
theorem sg_id (x:Int) (c:Nat) (h:1<=c) (h1 : -(2^(c-1))<=x) (h2:x<2^(c-1)):sg x c=x:=by
 unfold sg
 have:=pow_split c h
 rw [Int.emod_eq_of_lt (by omega) (by omega)];omega
theorem sg_iff (x:Int) (c:Nat) (h:1<=c):sg x c=x↔-(2^(c-1))<=x/\x<2^(c-1):=by
 constructor
 ·intro e;have h1:=sg_lo x c;have h2:=sg_hi x c h;rw [e] at h1 h2;exact ⟨h1,h2⟩
 ·intro e;exact sg_id x c h e.1 e.2
theorem sg_mod (x:Int) (c d:Nat) (h:c<=d):sg (x%2^d) c=sg x c:=by
 unfold sg;have e:(2:Int)^c∣2^d:=⟨2^(d-c),by rw [<- Int.pow_add];congr 1;omega⟩;rw [Int.add_emod,Int.emod_emod_of_dvd x e,<- Int.add_emod]
theorem sg_shift (x:Int) (c:Nat) (h:1<=c) (h64:c<=64) :
  ((x*2^(64-c)%18446744073709551616+9223372036854775808)%18446744073709551616-9223372036854775808) / 2^(64-c)=sg x c:=by
 have e64:(18446744073709551616:Int)=2^c*2^(64-c):=by
  rw [<- Int.pow_add,show c+(64-c)=64 by omega];rfl
 have e63:(9223372036854775808:Int)=2^(c-1)*2^(64-c):=by
  rw [<- Int.pow_add,show c-1+(64-c)=63 by omega];rfl
 have hp:=pow_pos' (64-c);rw [Int.emod_add_emod,e64,e63,<- Int.add_mul,Int.mul_comm _ (2^(64-c)),Int.mul_comm (2^c) (2^(64-c)),Int.mul_emod_mul_of_pos _ _ hp,
  Int.mul_comm (2^(c-1)) (2^(64-c)),<- Int.mul_sub,Int.mul_ediv_cancel_left _ (Int.ne_of_gt hp)]
 rfl
end Go.Proofs.YtcmlnemokckbdaaGreatDoor.Op
namespace Go.Proofs.YtcmlnemokckbdaaGreatDoor.Op
open Go.RowKit
def sgI (x n:Int):Int:=sg x (cl n).toNat
def fitsI (x n:Int):Bool:=decide (sgI x n=x)
theorem sg_form (x n:Int):wrap64 (IntKind.u64.wrap (x*2^(64-cl n).toNat)) / 2^(64-cl n).toNat = sgI x n:=by
 have h1:=cl_lo n;have h2:=cl_hi n
 have:=sg_shift x (cl n).toNat (by omega) (by omega)
 rw [show 64-(cl n).toNat = (64-cl n).toNat by omega] at this;unfold sgI;rw [<- this,IntKind.wrap_u64,wrap64]
theorem fits_form (x n:Int):(sgI (IntKind.u64.wrap x) n==x)=fitsI x n:=by
 have h1:=cl_lo n;have h2:=cl_hi n;have e:sgI (IntKind.u64.wrap x) n=sgI x n:=by
  unfold sgI;rw [IntKind.wrap_u64,<- sg_mod x (cl n).toNat 64 (by omega)];rfl
 rw [e];unfold fitsI;rw [Bool.eq_iff_iff];simp
end Go.Proofs.YtcmlnemokckbdaaGreatDoor.Op
namespace Go.Proofs.YtcmlnemokckbdaaGreatDoor.Op
open Go.ChangeShapes Go.WideShapes Go.ChangeAt Go.RowKit
theorem ret_bool {a b:Bool} (h:a=b):Ending.returned (.bool a)=.returned (.bool b):=by rw [h]
theorem ret_int {k:IntKind} {a b:Int} (h:a=b):Ending.returned (.int k a)=.returned (.int k b):=by rw [h]
theorem count_any (n:Int) (w:World) :
  Calls Tryz.prog 196 #[.int .i64 n] w fun e w'=>e=.returned (.int .i64 (cl n))/\w'=w:=by
 go_enter Tryz.func196,Tryz.ntmps196;go_wp2
 all_goals
  go_ret
  refine ⟨ret_int ?_,rfl⟩;unfold cl
  split at * <;> (try split) <;> omega
theorem signed_any (x n:Int) (w:World) :
  Calls Tryz.prog 194 #[.int .u64 x,.int .i64 n] w fun e w'=>e=.returned (.int .i64 (sgI x n))/\w'=w:=by
 have hlo:=cl_lo n;have hhi:=cl_hi n;have H:Hid _:=(sg_form x n);go_enter Tryz.func194,Tryz.ntmps194;go_wp2_with (go_at_call 196;refine (count_any _ _).mono ?_;rintro e w' ⟨rfl,rfl⟩)
 go_ret
 exact ⟨ret_int (H.out),rfl⟩
theorem fits_any (x n:Int) (w:World) :
  Calls Tryz.prog 192 #[.int .i64 x,.int .i64 n] w fun e w'=>e=.returned (.bool (fitsI x n))/\w'=w:=by
 have H:Hid _:=(fits_form x n);go_enter Tryz.func192,Tryz.ntmps192;go_wp2_with (go_at_call 194;refine (signed_any _ _ _).mono ?_;rintro e w' ⟨rfl,rfl⟩)
 go_ret
 exact ⟨ret_bool (H.out),rfl⟩
theorem bcell {B:Nat} {W w1:World} (hb:Below B W w1):(∀ b o,b<B->w1.cell? ⟨b,o,none⟩=W.cell? ⟨b,o,none⟩)/\(∀ b o,b<B->w1.frozen? ⟨b,o,none⟩=W.frozen? ⟨b,o,none⟩):=
  ⟨fun b o h=>hb.cell (p:=⟨b,o,none⟩) h,fun b o h=>hb.frozen (p:=⟨b,o,none⟩) h⟩
structure Wd (G:World->Prop) where
  w:World
  ok:G w
theorem wp_region_in {P:Program} {id:Nat} {Q:Exit->Act->World->Prop} {a:Act} {w:World} {l:List Oper} (G:World->Prop) (hm:P.follows .mixedOrders=true) (hB:Region.lexB .any l.toArray=true)
    (hG:G w.drew) (h:wpQuiet P l.toArray (fun w'=>∃ x:Wd G,w'=x.w) (fun a'=>∀ w',(∃ x:Wd G,w'=x.w)->Q .normal a' w') l a):(Code.region id l.toArray true).wp P Q a w:=
  wp_region_quiet (C:=fun w'=>∃ x:Wd G,w'=x.w) hm hB ⟨⟨_,hG⟩,rfl⟩ (by simpa using h)
theorem calls_in {P:Program} {B:Nat} {W:World} {f:FuncId} {args:Array Value} {v:Value} (hB:B<=W.heap.size) (x:Wd (Below B W)) (c:Calls P f args x.w fun e w'=>e=.returned v/\Below x.w.heap.size x.w w') :
    Calls P f args x.w fun e w''=>e=.returned v/\∃ y:Wd (Below B W),w''=y.w:=
  c.mono fun _ w' h=>⟨h.1,⟨w',x.ok.trans (h.2.mono (Nat.le_trans hB x.ok.size))⟩,rfl⟩
structure K where
  name:List UInt8
  cls:Int
  D:Bool
  A:Bool
  B:Bool
  N:Bool
  I:Bool
def bi (b:Bool) (n:Int):Int:=if b then n else 0
def K.fields (k:K):Int:=bi k.D 1+bi k.A 2+bi k.B 4+bi k.I 8+bi k.N 16
def K.s (k:K):ByteArray:=⟨k.name.toArray⟩
def K.cells (k:K):List Value:=[.string k.s,.int .i8 k.cls,.int .u8 k.fields]
def kindL:List K:=
  [⟨[110,111,112],-1,false,false,false,false,false⟩,⟨[99,111,110,115,116],0,true,false,false,false,true⟩,
   ⟨[97,100,100],0,true,true,true,false,false⟩,⟨[115,117,98],0,true,true,true,false,false⟩,⟨[97,110,100],0,true,true,true,false,false⟩,
   ⟨[111,114],0,true,true,true,false,false⟩,⟨[120,111,114],0,true,true,true,false,false⟩,⟨[115,104,108],0,true,true,true,false,false⟩,
   ⟨[115,104,114],0,true,true,true,false,false⟩,⟨[108,101,115,115],0,true,true,true,false,false⟩,⟨[101,113,117,97,108],0,true,true,true,false,false⟩,
   ⟨[109,111,118,101],0,true,true,false,false,false⟩,
   ⟨[116,105,109,101,115],1,true,true,true,false,false⟩,⟨[100,105,118,105,100,101],1,true,true,true,false,false⟩,⟨[114,101,115,116],1,true,true,true,false,false⟩,
   ⟨[108,111,97,100],2,true,true,false,false,true⟩,⟨[115,116,111,114,101],2,false,true,true,false,true⟩,⟨[112,114,105,110,116],2,false,true,false,false,false⟩,
   ⟨[106,117,109,112],3,false,false,false,false,true⟩,⟨[98,114,97,110,99,104],3,false,true,false,false,true⟩,⟨[104,97,108,116],3,false,true,false,false,false⟩,
   ⟨[99,111,117,110,116],3,false,true,false,false,true⟩,⟨[115,104,111,114,116],3,false,true,false,true,true⟩,⟨[97,103,97,105,110],3,false,false,false,false,true⟩]
def kOf (d:Int):Option K:=if 0<=d then kindL[d.toNat]? else none
def kindCells:Array Value:=(kindL.flatMap K.cells).toArray
def zeroCells:Array Value:=(List.replicate 24 [Value.string ⟨#[]⟩,.int .i8 0,.int .u8 0]).flatten.toArray
theorem kind_one:kindCells.all (·.oneCell')=true:=by kernel_rfl
theorem info242:(Tryz.prog.info? 242).map (·.size)=some 72:=by kernel_rfl
theorem kindSize:kindCells.size=72:=by kernel_rfl
theorem zeroSize:zeroCells.size=72:=by kernel_rfl
theorem kinds_any (w:World):Calls Tryz.prog 180 #[] w fun e w'=>e=.returned (.agg kindCells)/\Below w.heap.size w w':=by
  have hZ:=(zero_of_info (P:=Tryz.prog) (t:=242) (v:=.agg zeroCells) (n:=72) (by kernel_rfl)).1
  have hzs:=zeroSize
  have hsc:Hid (_):=run_storeCells_new (P:=Tryz.prog) w 242 zeroCells kindCells (by rw [kindSize];exact info242) (by rw [kindSize,zeroSize]) kind_one
  go_enter Tryz.func180,Tryz.ntmps180
  go_wp2
  conv in storeCells _ _ _=>arg 2;change kindCells.toList
  rw [hsc.out]
  simp only [Result.andThen]
  rw [Oper.upon_skip]
  go_wp2
  (try simp only [Exit.inBlock,Exit.then])
  refine bodyPost_ret (v:=.agg kindCells) (results_cell_row (P:=Tryz.prog) Tryz.results180 _ _ w.heap.size 242 kindCells (0,0) _ rfl (heap_alloc_last w _) Tryz.underlying242 rfl (by rw [kindSize];exact info242)) rfl ⟨rfl,by go_grown⟩
abbrev kz:Value:=.agg #[.string ⟨#[]⟩,.int .i8 0,.int .u8 0]
abbrev K.val (k:K):Value:=.agg #[.string k.s,.int .i8 k.cls,.int .u8 k.fields]
theorem new_cells (w:World) (c:Array Value) (t:TypeId) {w':World} (hb:Below (w.alloc (.cells c t)).heap.size (w.alloc (.cells c t)) w') :
  (∀ (j:Nat) v,c[j]?=some v->w'.cell? ⟨w.heap.size,j,none⟩=some v)/\(∀ j:Nat,w'.frozen? ⟨w.heap.size,j,none⟩=false)/\Below w.heap.size w w'/\w.heap.size<w'.heap.size:=by
 have hz:=hb.size;simp at hz
 refine ⟨fun j v h=>?_,fun j=>?_,((Below.refl _ _).alloc (Nat.le_refl _) _).trans (hb.mono (by simp)),hz⟩
 ·rw [(bcell hb).1 _ _ (by simp)];simp [h]
 ·rw [(bcell hb).2 _ _ (by simp)];simp
theorem kOf_some {d:Int} {k:K} (h:kOf d=some k):∃ (n:Nat) (hn:n<24),d=n/\kindL[n]'hn=k:=by
 unfold kOf at h
 split at h
 ·rename_i h0;obtain ⟨n,rfl⟩:=Int.eq_ofNat_of_zero_le h0;obtain ⟨hn,e⟩:=List.getElem?_eq_some_iff.1 h;exact ⟨n,hn,rfl,e⟩
 ·cases h
theorem kOf_out {d:Int} (h:kOf d=none):d<0\/24<=d:=by
 unfold kOf at h
 split at h
 ·rename_i h0
  have:=List.getElem?_eq_none_iff.1 h
  simp [kindL] at this
  omega
 ·omega
theorem kindOf_no (d:Int) (w:World) (h1 : -128<=d) (h2:d<=127) (h:kOf d=none) :
  Calls Tryz.prog 164 #[.int .i8 d] w fun e w'=>e=.returned (.tuple #[kz,.bool false])/\Below w.heap.size w w':=by
 have hd:24<=d%256:=by have:=kOf_out h;omega
 clear h;go_enter Tryz.func164,Tryz.ntmps164;go_wp2
 refine bodyPost_ret (v:=.tuple #[kz,.bool false]) (by simp [results,Tryz.results164,go_sem]) rfl ⟨rfl,by go_grown⟩
theorem index80 (d:Nat) (h:d<24) (w:World):(Instr.index 242 (.agg kindCells) (.int .i8 d)).run Tryz.prog w=.ok (.agg (kindCells.extract (d*3) (d*3+3))) w:=by
 simp [Instr.index,asIntOf,Tryz.sizeOf197,Tryz.isAgg197,part,go_sem]
 intro hc;omega
theorem kindRow (d:Nat) (h:d<24):Value.agg (kindCells.extract (d*3) (d*3+3))=(kindL[d]'h).val:=by
 match d,h with
 | 0,_=>rfl
 | 1,_=>rfl
 | 2,_=>rfl
 | 3,_=>rfl
 | 4,_=>rfl
 | 5,_=>rfl
 | 6,_=>rfl
 | 7,_=>rfl
 | 8,_=>rfl
 | 9,_=>rfl
 | 10,_=>rfl
 | 11,_=>rfl
 | 12,_=>rfl
 | 13,_=>rfl
 | 14,_=>rfl
 | 15,_=>rfl
 | 16,_=>rfl
 | 17,_=>rfl
 | 18,_=>rfl
 | 19,_=>rfl
 | 20,_=>rfl
 | 21,_=>rfl
 | 22,_=>rfl
 | 23,_=>rfl
 | _+24,h=>exact absurd h (by omega)
theorem kindOf_yes (d:Int) (k:K) (w:World) (h:kOf d=some k) :
  Calls Tryz.prog 164 #[.int .i8 d] w fun e w'=>e=.returned (.tuple #[k.val,.bool true])/\Below w.heap.size w w':=by
 obtain ⟨n,hn,rfl,hk⟩:=kOf_some h;clear h;have hi:∀ w,(Instr.index 242 (.agg kindCells) (.int .i8 n)).run Tryz.prog w=.ok k.val w:=fun w=>by rw [index80 n hn,kindRow n hn,hk]
 clear hk;have hd:(n:Int)%256<24:=by omega
 go_enter Tryz.func164,Tryz.ntmps164;go_wp2_with (first|(go_at_call 180;refine (kinds_any _).mono ?_;rintro e w' ⟨rfl,hb⟩;obtain ⟨hc,hf,HB0,hz⟩:=new_cells w _ _ hb;have c0:=hc 0 _ rfl;have c1:=hc 1 _ rfl;have c2:=hc 2 _ rfl;have f0:=hf 0;have f1:=hf 1;have f2:=hf 2;have HB:Hid (Below w.heap.size w w'):=HB0;clear hb HB0 hc hf))
 refine bodyPost_ret (v:=.tuple #[k.val,.bool true]) (by simp [results,Tryz.results164,go_sem,c0,c1,c2]) rfl ⟨rfl,HB.out.trans ?_⟩
 go_grown
theorem counts_any (s:ByteArray) (c f m:Int) (w:World):Calls Tryz.prog 182 #[.agg #[.string s,.int .i8 c,.int .u8 f],.int .u8 m] w fun e w'=>e=.returned (.bool (bits .and .u8 f m != 0))/\Below w.heap.size w w':=by
 go_enter Tryz.func182,Tryz.ntmps182;go_wp2
 go_ret
 exact ⟨rfl,by go_grown⟩
theorem and_D (k:K):(bits .and .u8 k.fields 1 != 0)=k.D:=
 (by decide:∀ D A B N I:Bool,(bits .and .u8 (bi D 1+bi A 2+bi B 4+bi I 8+bi N 16) 1 != 0)=D) k.D k.A k.B k.N k.I
theorem and_A (k:K):(bits .and .u8 k.fields 2 != 0)=k.A:=
 (by decide:∀ D A B N I:Bool,(bits .and .u8 (bi D 1+bi A 2+bi B 4+bi I 8+bi N 16) 2 != 0)=A) k.D k.A k.B k.N k.I
theorem and_B (k:K):(bits .and .u8 k.fields 4 != 0)=k.B:=
 (by decide:∀ D A B N I:Bool,(bits .and .u8 (bi D 1+bi A 2+bi B 4+bi I 8+bi N 16) 4 != 0)=B) k.D k.A k.B k.N k.I
theorem and_I (k:K):(bits .and .u8 k.fields 8 != 0)=k.I:=
 (by decide:∀ D A B N I:Bool,(bits .and .u8 (bi D 1+bi A 2+bi B 4+bi I 8+bi N 16) 8 != 0)=I) k.D k.A k.B k.N k.I
theorem and_BN (k:K):(bits .and .u8 k.fields 20 != 0)=(k.B || k.N):=
 (by decide:∀ D A B N I:Bool,(bits .and .u8 (bi D 1+bi A 2+bi B 4+bi I 8+bi N 16) 20 != 0)=(B || N)) k.D k.A k.B k.N k.I
theorem cnt_D (k:K) (w:World):Calls Tryz.prog 182 #[k.val,.int .u8 1] w fun e w'=>e=.returned (.bool k.D)/\Below w.heap.size w w':=by
 have h:=counts_any k.s k.cls k.fields 1 w;rw [and_D] at h;exact h
theorem cnt_A (k:K) (w:World):Calls Tryz.prog 182 #[k.val,.int .u8 2] w fun e w'=>e=.returned (.bool k.A)/\Below w.heap.size w w':=by
 have h:=counts_any k.s k.cls k.fields 2 w;rw [and_A] at h;exact h
theorem cnt_B (k:K) (w:World):Calls Tryz.prog 182 #[k.val,.int .u8 4] w fun e w'=>e=.returned (.bool k.B)/\Below w.heap.size w w':=by
 have h:=counts_any k.s k.cls k.fields 4 w;rw [and_B] at h;exact h
def rH (r:Int) (c:Bool):Bool:=if c then decide (r<32) else r==0
def iH (i:Int) (c:Bool):Bool:=if c then decide (-2147483648<=i/\i<=2147483647) else i==0
theorem regHolds (r:Int) (c:Bool) (w:World):Calls Tryz.prog 181 #[.int .u8 r,.bool c] w fun e w'=>e=.returned (.bool (rH r c))/\w'=w:=by
 cases c
 all_goals
  go_enter Tryz.func181,Tryz.ntmps181;go_wp2
  go_ret
  exact ⟨rfl,rfl⟩
theorem fits32 (i:Int):fitsI i 32=decide (-2147483648<=i/\i<=2147483647):=by
 unfold fitsI sgI;rw [show (cl 32).toNat = 32 from rfl,Bool.eq_iff_iff];simp only [decide_eq_true_eq];rw [sg_iff _ 32 (by decide)];simp
 omega
theorem immHolds (i:Int) (c:Bool) (w:World):Calls Tryz.prog 183 #[.int .i64 i,.bool c] w fun e w'=>e=.returned (.bool (iH i c))/\w'=w:=by
 cases c
 all_goals
  go_enter Tryz.func183,Tryz.ntmps183;go_wp2_with (first|(go_at_call 192;refine (fits_any _ _ _).mono ?_;rintro e w' ⟨rfl,rfl⟩))
  go_ret
  exact ⟨by simp [iH,fits32],rfl⟩
structure O where
 op:Int
 d:Int
 a:Int
 b:Int
 im:Int
abbrev O.cells (o:O):Array Value:=#[.int .i8 o.op,.int .u8 o.d,.int .u8 o.a,.int .u8 o.b,.int .i64 o.im]
abbrev O.val (o:O):Value:=.agg #[.int .i8 o.op,.int .u8 o.d,.int .u8 o.a,.int .u8 o.b,.int .i64 o.im]
structure O.Ok (o:O):Prop where
 op0 : -128<=o.op
 op1:o.op<=127
 d0:0<=o.d
 d1:o.d<=255
 a0:0<=o.a
 a1:o.a<=255
 b0:0<=o.b
 b1:o.b<=255
 i0 : -9223372036854775808<=o.im
 i1:o.im<=9223372036854775807
def okF (k:K) (o:O):Bool:=rH o.d k.D&&rH o.a k.A&&rH o.b (k.B || k.N)&&iH o.im k.I
def okO (o:O):Bool:=match kOf o.op with|some k=>okF k o|none=>false
theorem regHoldsV (r:Int) (c v:Bool) (w:World) (h:rH r c=v):Calls Tryz.prog 181 #[.int .u8 r,.bool c] w fun e w'=>e=.returned (.bool v)/\Below w.heap.size w w':=
 (regHolds r c w).mono fun _ _ g=>⟨by rw [g.1,h],by rw [g.2];exact Below.refl _ _⟩
theorem fieldsHold_any (k:K) (o:O) (w:World) :
  Calls Tryz.prog 165 #[k.val,o.val] w fun e w'=>e=.returned (.bool (okF k o))/\Below w.heap.size w w':=by
 have hW:Below w.heap.size w ((w.alloc (.cells #[.string k.s,.int .i8 k.cls,.int .u8 k.fields] 197)).alloc (.cells o.cells 60)):=by go_grown
 generalize hV:(w.alloc (.cells #[.string k.s,.int .i8 k.cls,.int .u8 k.fields] 197)).alloc (.cells o.cells 60)=V at hW;have hsz:w.heap.size+2=V.heap.size:=by rw [<- hV];simp
 have c0:∀ x:Wd (Below V.heap.size V),x.w.cell? ⟨w.heap.size,0,none⟩=some (.string k.s):=fun x=>by rw [(bcell x.ok).1 _ _ (by omega),<- hV];simp
 have c1:∀ x:Wd (Below V.heap.size V),x.w.cell? ⟨w.heap.size,1,none⟩=some (.int .i8 k.cls):=fun x=>by rw [(bcell x.ok).1 _ _ (by omega),<- hV];simp
 have c2:∀ x:Wd (Below V.heap.size V),x.w.cell? ⟨w.heap.size,2,none⟩=some (.int .u8 k.fields):=fun x=>by rw [(bcell x.ok).1 _ _ (by omega),<- hV];simp
 have d1:∀ x:Wd (Below V.heap.size V),x.w.cell? ⟨w.heap.size+1,1,none⟩=some (.int .u8 o.d):=fun x=>by rw [(bcell x.ok).1 _ _ (by omega),<- hV];simp
 have d2:∀ x:Wd (Below V.heap.size V),x.w.cell? ⟨w.heap.size+1,2,none⟩=some (.int .u8 o.a):=fun x=>by rw [(bcell x.ok).1 _ _ (by omega),<- hV];simp
 have d3:∀ x:Wd (Below V.heap.size V),x.w.cell? ⟨w.heap.size+1,3,none⟩=some (.int .u8 o.b):=fun x=>by rw [(bcell x.ok).1 _ _ (by omega),<- hV];simp
 have d4:∀ x:Wd (Below V.heap.size V),x.w.cell? ⟨w.heap.size+1,4,none⟩=some (.int .i64 o.im):=fun x=>by rw [(bcell x.ok).1 _ _ (by omega),<- hV];simp
 haveI inst:Nonempty (Wd (Below V.heap.size V)):=⟨⟨V,Below.refl _ _⟩⟩
 have HW:Hid (Below w.heap.size w V):=hW;have HV:Hid (_=V):=hV;clear hW hV;have hdef:okF k o=(rH o.d k.D&&rH o.a k.A&&rH o.b (k.B || k.N)&&iH o.im k.I):=rfl;rw [hdef];clear hdef;have aD:=and_D k;have aA:=and_A k;have aB:=and_BN k;have aI:=and_I k
 cases h1:rH o.d k.D
 rotate_left
 cases h2:rH o.a k.A
 rotate_left
 cases h3:rH o.b (k.B || k.N)
 rotate_left
 all_goals
  go_enter Tryz.func165,Tryz.ntmps165;go_wp2
  rw [HV.out];refine wp_region_in (Below V.heap.size V) (by kernel_rfl) (by kernel_rfl) ((Below.refl _ _).drew) ?_
  repeat (first|go_big_quiet_step ((first
   | (go_at_call 182;exact calls_in (Nat.le_refl _) _ (counts_any _ _ _ _ _))
   | (go_at_call 181;exact calls_in (Nat.le_refl _) _ (regHoldsV _ _ _ _ (by assumption)))
   | (go_at_call 183;exact calls_in (Nat.le_refl _) _ ((immHolds _ _ _).mono fun _ _ h=>⟨h.1,by rw [h.2];exact Below.refl _ _⟩)))))
  refine wpQuiet_nil ?_;rintro _ ⟨x,rfl⟩;have hx:=x.ok;go_wp2
  go_ret
  refine ⟨ret_bool (by simp),HW.out.trans (hx.mono HW.out.size)⟩
end Go.Proofs.YtcmlnemokckbdaaGreatDoor.Op
