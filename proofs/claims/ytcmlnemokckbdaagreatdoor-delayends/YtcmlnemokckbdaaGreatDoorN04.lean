/- Parts Aa Pm Ab Ac. -/
import Derived.Test.YtcmlnemokckbdaaGreatDoorN03
import Derived.Test.YtcmlnemokckbdaaGreatDoorN02
import Derived.Deep.QuietTactic
import Derived.BigQuiet
import Derived.Deep.LoopGhost
import Derived.Deep.RegionHeld3
set_option maxRecDepth 20000
set_option maxHeartbeats 1000000
namespace Go.Proofs.YtcmlnemokckbdaaGreatDoor.Al
open Go.ChangeShapes Go.WideShapes Go.ChangeAt Go.RowKit
open YtcmlnemokckbdaaGreatDoor.Op
def memO (o:O):Bool:=(o.op==15 || o.op==16)&&okO o
def oz:O:=⟨0,0,0,0,0⟩
def atL (xs:List O) (i:Int):O:=(xs[i.toNat]?).getD oz
def inL (xs:List O) (i:Int):Bool:=decide (0<=i)&&decide (i<xs.length)
def memB (xs:List O) (i:Int):Bool:=inL xs i&&memO (atL xs i)
def pairB (xs:List O) (i j:Int):Bool:=memB xs i&&memB xs j&&((atL xs i).op==16 || (atL xs j).op==16)
def wt (r:Int) (o:O):Bool:=o.d==r && !(o.op==16)&&wrB o
def wtL (st:List O) (r:Int):Bool:=st.any (wt r)
def may (a b:O) (st:List O):Bool:=!(a.a==b.a) || (a.im%256==b.im%256) || wtL st a.a
def cut (xs:List O) (i j:Int):List O:=(xs.drop i.toNat).take (j.toNat - i.toNat)
def meetB (xs:List O) (i j:Int):Bool:=decide (i<j)&&pairB xs i j&&may (atL xs i) (atL xs j) (cut xs i j)
theorem atL_at {xs:List O} {k:Nat} (h:k<xs.length):atL xs (k:Int)=xs[k]:=by
 unfold atL;rw [Int.toNat_natCast,List.getElem?_eq_getElem h];rfl
theorem inL_iff {xs:List O} {i:Int} : inL xs i=true↔∃ k:Nat,k<xs.length/\i=k:=by
 unfold inL;simp only [Bool.and_eq_true,decide_eq_true_eq];constructor
 ·rintro ⟨h1,h2⟩;exact ⟨i.toNat,by omega,by omega⟩
 ·rintro ⟨k,h1,rfl⟩;omega
theorem memB_no {xs:List O} {i:Int} (h:inL xs i=false):memB xs i=false:=by unfold memB;rw [h];rfl
theorem memB_at {xs:List O} {k:Nat} (h:k<xs.length):memB xs (k:Int)=memO xs[k]:=by
 unfold memB;rw [atL_at h,inL_iff.2 ⟨k,h,rfl⟩];rfl
theorem memB_in {xs:List O} {i:Int} (h:memB xs i=true):∃ k:Nat,k<xs.length/\i=k:=by
 unfold memB at h;simp only [Bool.and_eq_true] at h;exact inL_iff.1 h.1
theorem cut_sub {xs:List O} {i j:Int} {o:O} (h:o∈cut xs i j):o∈xs:=List.mem_of_mem_drop (List.mem_of_mem_take h)
def cellN (a im:Int):Int:=(a+im)%256
def cellC (o:O) (R:Nat->Int):Int:=if memO o then cellN (R o.a.toNat) o.im else -1
structure Rg (xs:List O) (r0:Nat->Int) (row:List Int) (R:Nat->Nat->Int):Prop where
 len:row.length<=xs.length
 c:∀ (i:Nat) (h:i<row.length),row[i]=cellC (xs[i]'(Nat.lt_of_lt_of_le h len)) (R i)
 a:∀ i,i<=row.length->∀ r:Int,0<=r->wtL xs r=false->R i r.toNat = r0 r.toNat
 b:∀ i j,i<=j->j<=row.length->∀ r:Int,0<=r->wtL (cut xs i j) r=false->R i r.toNat = R j r.toNat
theorem Rg.start (xs:List O) (r0 R:Nat->Int) (h:∀ r:Int,0<=r->wtL xs r=false->R r.toNat = r0 r.toNat):Rg xs r0 [] fun _=>R:=
 ⟨Nat.zero_le _,fun i h=>by simp at h,fun i _ r hr hw=>h r hr hw,fun _ _ _ _ _ _ _=>rfl⟩
theorem wtL_mem {xs:List O} {r:Int} (h:wtL xs r=false) {o:O} (ho:o∈xs):wt r o=false:=by
 unfold wtL at h
 cases e:wt r o
 ·rfl
 ·rw [List.any_eq_true.2 ⟨o,ho,e⟩] at h;cases h
theorem cut_succ {xs:List O} {i j:Nat} (hij:i<=j) (hj:j<xs.length):cut xs (i:Int) ((j+1:Nat):Int)=cut xs i j++[xs[j]]:=by
 unfold cut;simp only [Int.toNat_natCast];rw [show j+1-i=(j-i)+1 by omega];have h:j-i<(xs.drop i).length:=by simp;omega
 rw [List.take_succ_eq_append_getElem h]
 congr 1
 simp only [List.getElem_drop,List.cons.injEq,and_true]
 congr 1
 omega
theorem wtL_append {l m:List O} {r:Int} (h:wtL (l++m) r=false):wtL l r=false/\wtL m r=false:=by
 unfold wtL at *;rw [List.any_append,Bool.or_eq_false_iff] at h;exact h
theorem Rg.next {xs:List O} {r0:Nat->Int} {row:List Int} {R:Nat->Nat->Int} (h:Rg xs r0 row R) (hl:row.length<xs.length) (R':Nat->Int)
  (hw:∀ r:Int,0<=r->wt r xs[row.length]=false->R' r.toNat = R row.length r.toNat) :
  Rg xs r0 (row++[cellC xs[row.length] (R row.length)]) fun k=>if k<=row.length then R k else R':=by
 have hlen:(row++[cellC xs[row.length] (R row.length)]).length=row.length+1:=by simp
 refine ⟨by rw [hlen];omega,fun i hi=>?_,fun i hi r hr hx=>?_,fun i j hij hj r hr hx=>?_⟩
 ·rw [hlen] at hi;have e:(if i<=row.length then R i else R')=R i:=if_pos (by omega);show _=cellC _ (if i<=row.length then R i else R');rw [e]
  by_cases hlt:i<row.length
  ·rw [List.getElem_append_left hlt];exact h.c i hlt
  ·obtain rfl:i=row.length:=by omega
   simp
 ·rw [hlen] at hi;show (if i<=row.length then R i else R') r.toNat = _
  by_cases hlt:i<=row.length
  ·rw [if_pos hlt];exact h.a i hlt r hr hx
  ·rw [if_neg hlt,hw r hr (wtL_mem hx (List.getElem_mem hl))];exact h.a _ (Nat.le_refl _) r hr hx
 ·rw [hlen] at hj;show (if i<=row.length then R i else R') r.toNat = (if j<=row.length then R j else R') r.toNat
  by_cases hjl:j<=row.length
  ·rw [if_pos hjl,if_pos (by omega)];exact h.b i j hij hjl r hr hx
  ·rw [if_neg hjl];obtain rfl:j=row.length+1:=by omega
   by_cases hil:i<=row.length
   ·rw [if_pos hil];rw [cut_succ hil hl] at hx;obtain ⟨x1,x2⟩:=wtL_append hx;rw [hw r hr (wtL_mem x2 (by simp))];exact h.b i _ hil (Nat.le_refl _) r hr x1
   ·rw [if_neg hil]
end Go.Proofs.YtcmlnemokckbdaaGreatDoor.Al
namespace Go.Proofs.YtcmlnemokckbdaaGreatDoor.Op
open Go.ChangeShapes Go.WideShapes Go.ChangeAt Go.RowKit
structure OAt (w:World) (b f:Nat) (o:O):Prop where
 c0:w.cell? ⟨b,f,none⟩=some (.int .i8 o.op)
 c1:w.cell? ⟨b,f+1,none⟩=some (.int .u8 o.d)
 c2:w.cell? ⟨b,f+2,none⟩=some (.int .u8 o.a)
 c3:w.cell? ⟨b,f+3,none⟩=some (.int .u8 o.b)
 c4:w.cell? ⟨b,f+4,none⟩=some (.int .i64 o.im)
theorem OAt.below {w w':World} {b f B:Nat} {o:O} (h:OAt w b f o) (hb:Below B w w') (z:b<B):OAt w' b f o:=by
 have c:=(bcell hb).1;exact ⟨by rw [c _ _ z];exact h.c0,by rw [c _ _ z];exact h.c1,by rw [c _ _ z];exact h.c2,by rw [c _ _ z];exact h.c3,by rw [c _ _ z];exact h.c4⟩
structure OpsAt (w:World) (ao:Option Addr) (xs:List O):Prop where
 ok:∀ o,o∈xs->o.Ok
 len:xs.length<=8796093022208
 is:0<xs.length->∃ b f,ao=some ⟨b,f,none⟩/\b<w.heap.size/\∀ (i:Nat) (h:i<xs.length),OAt w b (f+i*5) xs[i]
theorem OpsAt.below {w w':World} {ao:Option Addr} {xs:List O} (h:OpsAt w ao xs) (hb:Below w.heap.size w w'):OpsAt w' ao xs:=by
 refine ⟨h.ok,h.len,fun h0=>?_⟩;obtain ⟨b,f,e,z,hx⟩:=h.is h0;exact ⟨b,f,e,Nat.lt_of_lt_of_le z hb.size,fun i hi=>(hx i hi).below hb z⟩
structure Bk where
 ops:List O
 fin:Int
 a:Int
 body:List O
 thn:Int
 els:Int
structure Bk.Ok (x:Bk):Prop where
 f0 : -128<=x.fin
 f1:x.fin<=127
 a0:0<=x.a
 a1:x.a<=255
 t0 : -9223372036854775808<=x.thn
 t1:x.thn<=9223372036854775807
 e0 : -9223372036854775808<=x.els
 e1:x.els<=9223372036854775807
structure Pl where
 oa:Option Addr
 oc:Nat
 ba:Option Addr
 bc:Nat
abbrev Bk.cells (x:Bk) (p:Pl):Array Value:=#[.slice p.oa x.ops.length p.oc,.int .i8 x.fin,.int .u8 x.a,.slice p.ba x.body.length p.bc,.int .i64 x.thn,.int .i64 x.els]
abbrev Bk.val (x:Bk) (p:Pl):Value:=.agg #[.slice p.oa x.ops.length p.oc,.int .i8 x.fin,.int .u8 x.a,.slice p.ba x.body.length p.bc,.int .i64 x.thn,.int .i64 x.els]
structure BIn (w:World) (x:Bk) (p:Pl):Prop where
 ok:x.Ok
 o:OpsAt w p.oa x.ops
 b:OpsAt w p.ba x.body
 c:x.ops.length<=p.oc
theorem BIn.below {w w':World} {x:Bk} {p:Pl} (h:BIn w x p) (hb:Below w.heap.size w w'):BIn w' x p:=⟨h.ok,h.o.below hb,h.b.below hb,h.c⟩
structure BAt (w:World) (b f:Nat) (x:Bk) (p:Pl):Prop where
 c0:w.cell? ⟨b,f,none⟩=some (.slice p.oa x.ops.length p.oc)
 c1:w.cell? ⟨b,f+1,none⟩=some (.int .i8 x.fin)
 c2:w.cell? ⟨b,f+2,none⟩=some (.int .u8 x.a)
 c3:w.cell? ⟨b,f+3,none⟩=some (.slice p.ba x.body.length p.bc)
 c4:w.cell? ⟨b,f+4,none⟩=some (.int .i64 x.thn)
 c5:w.cell? ⟨b,f+5,none⟩=some (.int .i64 x.els)
theorem BAt.below {w w':World} {b f B:Nat} {x:Bk} {p:Pl} (h:BAt w b f x p) (hb:Below B w w') (z:b<B):BAt w' b f x p:=by
 have c:=(bcell hb).1;exact ⟨by rw [c _ _ z];exact h.c0,by rw [c _ _ z];exact h.c1,by rw [c _ _ z];exact h.c2,by rw [c _ _ z];exact h.c3,by rw [c _ _ z];exact h.c4,by rw [c _ _ z];exact h.c5⟩
structure PAt (w:World) (ao:Option Addr) (ps:List Bk):Prop where
 len:ps.length<=2199023255552
 is:0<ps.length->∃ b f,ao=some ⟨b,f,none⟩/\b<w.heap.size/\∀ (i:Nat) (h:i<ps.length),∃ p,BAt w b (f+i*6) ps[i] p/\BIn w ps[i] p
theorem PAt.below {w w':World} {ao:Option Addr} {ps:List Bk} (h:PAt w ao ps) (hb:Below w.heap.size w w'):PAt w' ao ps:=by
 refine ⟨h.len,fun h0=>?_⟩;obtain ⟨b,f,e,z,hx⟩:=h.is h0;refine ⟨b,f,e,Nat.lt_of_lt_of_le z hb.size,fun i hi=>?_⟩;obtain ⟨p,h1,h2⟩:=hx i hi;exact ⟨p,h1.below hb z,h2.below hb⟩
end Go.Proofs.YtcmlnemokckbdaaGreatDoor.Op
namespace Go.Proofs.YtcmlnemokckbdaaGreatDoor.Al
open Go.ChangeShapes Go.WideShapes Go.ChangeAt Go.RowKit
open YtcmlnemokckbdaaGreatDoor.Op
theorem D_far:∀ n:Nat,15<n->∀ k,kindL[n]?=some k->k.D=false
 | 16,_,k,h|17,_,k,h|18,_,k,h|19,_,k,h|20,_,k,h|21,_,k,h|22,_,k,h|23,_,k,h=>by cases h;rfl
 | n+24,_,k,h=>by
  have:kindL[n+24]?=none:=List.getElem?_eq_none (show kindL.length<=n+24 from Nat.le_add_left 24 n)
  rw [this] at h;cases h
theorem wr_far {o:O} (h:15<o.op):wrB o=false:=by
 unfold wrB
 cases e:kOf o.op with
 | none=>rfl
 | some k=>
  show (okF k o&&k.D)=false;unfold kOf at e;rw [if_pos (by omega)] at e;rw [D_far o.op.toNat (by omega) k e];simp
theorem wt_far (r:Int) (o:O):wt r o=(o.d==r && !(decide (15<o.op))&&wrB o):=by
 unfold wt
 by_cases h:15<o.op
 ·rw [wr_far h];simp
 ·have h2:(o.op==16)=false:=by simp;omega
  rw [h2,show decide (15<o.op)=false from decide_eq_false h]
theorem wt_any (r:Int) (o:O) (w:World) (ho:o.Ok):Calls Tryz.prog 191 #[o.val,.int .u8 r] w fun e w'=>e=.returned (.bool (wt r o))/\Below w.heap.size w w':=by
 have HW:Hid _:=fun w=>writes_any o w ho;clear ho;have hdef:wt r o=(o.d==r && !(decide (15<o.op))&&wrB o):=wt_far r o;rw [hdef];clear hdef
 cases h1:o.d==r
 rotate_left
 ·obtain rfl:=beq_iff_eq.1 h1;clear h1
  cases h2:decide (15<o.op)
  ·have h2':¬ 15<o.op:=by simpa using h2
   go_enter Tryz.func191,Tryz.ntmps191;go_wp2_with (first|(go_at_call 168;refine Calls.mono (HW.out _) ?_;rintro e w1 ⟨rfl,hb⟩;obtain ⟨-,hb0,hz⟩:=one_new w _ _ hb;have HB:Hid (Below w.heap.size w w1):=hb0;clear hb hb0))
   go_ret
   exact ⟨rfl,HB.out⟩
  ·have h2':15<o.op:=by simpa using h2
   go_enter Tryz.func191,Tryz.ntmps191;go_wp2
   go_ret
   exact ⟨rfl,by go_grown⟩
 ·have h1':¬ o.d=r:=by simpa using h1
  clear h1;go_enter Tryz.func191,Tryz.ntmps191;go_wp2
  go_ret
  exact ⟨rfl,by go_grown⟩
theorem written_any (ao:Option Addr) (cap c:Nat) (st:List O) (r:Int) (w:World) (h:OpsAt w ao st) (hc:w.cell? ⟨c,0,none⟩=some (.slice ao st.length cap)) :
  Calls Tryz.prog 190 #[.int .u8 r,.pointer (some ⟨c,0,none⟩)] w fun e w'=>e=.returned (.bool (wtL st r))/\Below w.heap.size w w':=by
 have HA:Hid (OpsAt w ao st):=h;have hlen:=h.len;clear h;generalize hv:wtL st r=v;have HV:Hid (wtL st r=v):=hv;clear hv;go_enter Tryz.func190,Tryz.ntmps190;go_wp2_with fail
 go_loopw [8] (fun i wr=>∃ k:Nat,k<=st.length/\i=.int .i64 k/\Below w.heap.size w wr/\wtL (st.take k) r=false) (fun i _=>st.length-(intOf i).toNat)
 case atStart=>exact ⟨0,by omega,rfl,Below.refl _ _,rfl⟩
 case round=>
  rename World=>wr;obtain ⟨k,hk,rfl,hbw,hno⟩:=hrel
  by_cases hlt:k<st.length
  ·obtain ⟨b,f,rfl,hz,hx⟩:=HA.out.is (by omega);obtain ⟨c0,c1,c2,c3,c4⟩:=(hx k hlt).below hbw hz;have hok:=HA.out.ok _ (List.getElem_mem hlt);have hki:(k:Int)<st.length:=by omega
   have HB:Hid (Below w.heap.size w wr):=hbw;have HN:Hid (wtL (st.take (k+1)) r=wt r st[k]):=by
    show wtL (st.take (k+1)) r=wt r st[k];rw [List.take_succ_eq_append_getElem hlt];unfold wtL at hno ⊢;rw [List.any_append,hno];simp
   have HT:Hid (wt r st[k]=true->wtL st r=true):=fun e=>List.any_eq_true.2 ⟨_,List.getElem_mem hlt,e⟩;clear hx hbw hno;generalize st[k]=o at *;have HC:Hid (∀ W,Calls Tryz.prog 191 #[o.val,.int .u8 r] W fun e w'=>e=.returned (.bool (wt r o))/\Below W.heap.size W w'):=fun W=>wt_any r o W hok;clear hok
   cases hw:wt r o
   ·rw [hw] at HC HN;clear hw;go_wp2_with (first|(go_at_call 191;refine Calls.mono (HC.out _) ?_;rintro e w1 ⟨rfl,hb⟩;obtain ⟨-,hb0,hz1⟩:=one_new wr _ _ hb;have HB1:Hid (Below w.heap.size w w1):=HB.out.trans (hb0.mono HB.out.size);clear hb hb0))
    go_roundw
    case rel=>exact ⟨k+1,by omega,by go_num,HB1.out,HN.out⟩
    case measure=>simp [intOf];omega
   ·have HT2:Hid (wtL st r=true):=HT.out hw;rw [hw] at HC;clear hw HT;go_wp2_with (first|(go_at_call 191;refine Calls.mono (HC.out _) ?_;rintro e w1 ⟨rfl,hb⟩;obtain ⟨-,hb0,hz1⟩:=one_new wr _ _ hb;have HB1:Hid (Below w.heap.size w w1):=HB.out.trans (hb0.mono HB.out.size);clear hb hb0))
    go_ret
    exact ⟨by rw [<- HV.out,HT2.out];rfl,HB1.out⟩
  ·obtain rfl:k=st.length:=by omega
   rw [List.take_length] at hno;have HN:Hid (wtL st r=false):=hno;clear hno;go_wp2_with fail
   go_ret
   exact ⟨by rw [<- HV.out,HN.out];rfl,hbw⟩
theorem writer_any (ao:Option Addr) (n c:Nat) (w:World):Calls Tryz.prog 179 #[.slice ao n c] w fun e w'=>e=.returned (.func (.func 190) #[] #[.pointer (some ⟨w.heap.size,0,none⟩)])/\w'=w.alloc (.cells #[.slice ao n c] 22):=by
 go_enter Tryz.func179,Tryz.ntmps179;go_wp2_with fail
 go_ret
 exact ⟨rfl,rfl⟩
theorem mayBe_any (a b:O) (ao:Option Addr) (cap c:Nat) (st:List O) (w:World) (h:OpsAt w ao st) (hc:w.cell? ⟨c,0,none⟩=some (.slice ao st.length cap)) (hl:c<w.heap.size) :
  Calls Tryz.prog 178 #[a.val,b.val,.func (.func 190) #[] #[.pointer (some ⟨c,0,none⟩)]] w fun e w'=>e=.returned (.bool (may a b st))/\Below w.heap.size w w':=by
 have HW:Hid (∀ W,Below w.heap.size w W->Calls Tryz.prog 190 #[.int .u8 a.a,.pointer (some ⟨c,0,none⟩)] W fun e w'=>e=.returned (.bool (wtL st a.a))/\Below W.heap.size W w'):=fun W hb=>written_any ao cap c st a.a W (h.below hb) (by rw [(bcell hb).1 _ _ hl];exact hc);clear h hc hl;obtain ⟨p0,p1,x,p3,i1⟩:=a;obtain ⟨q0,q1,y,q3,i2⟩:=b;have hdef:may ⟨p0,p1,x,p3,i1⟩ ⟨q0,q1,y,q3,i2⟩ st=(!(x==y) || (i1%256==i2%256) || wtL st x):=rfl;rw [hdef];clear hdef
 by_cases h1:x=y
 ·subst h1
  by_cases h2:i1%256=i2%256
  ·have e:(!(x==x) || (i1%256==i2%256) || wtL st x)=true:=by simp [h2]
   rw [e];clear e;go_enter Tryz.func178,Tryz.ntmps178;go_wp2_with fail
   go_ret
   exact ⟨rfl,by go_grown⟩
  ·have e:(!(x==x) || (i1%256==i2%256) || wtL st x)=wtL st x:=by simp [h2]
   rw [e];clear e;go_enter Tryz.func178,Tryz.ntmps178;go_wp2_with (first|(go_at_call 190;refine Calls.mono (HW.out _ (by go_grown)) ?_;rintro e w1 ⟨rfl,hb⟩;obtain ⟨-,-,hb0,-,-⟩:=two_new w _ _ _ _ hb;have HB:Hid (Below w.heap.size w w1):=hb0;clear hb hb0))
   go_ret
   exact ⟨ret_bool (by simp [h2]),HB.out⟩
 ·have e:(!(x==y) || (i1%256==i2%256) || wtL st x)=true:=by simp [h1]
  rw [e];clear e;go_enter Tryz.func178,Tryz.ntmps178;go_wp2_with fail
  go_ret
  exact ⟨rfl,by go_grown⟩
theorem ck_eq (o:O):(ckE o==0)=okO o:=by unfold ckE;cases okO o <;> rfl
theorem isMem_any (ao:Option Addr) (cap:Nat) (xs:List O) (i:Int) (w:World) (h:OpsAt w ao xs) :
  Calls Tryz.prog 189 #[.slice ao xs.length cap,.int .i64 i] w fun e w'=>e=.returned (.bool (memB xs i))/\Below w.heap.size w w':=by
 cases hin:inL xs i
 ·have hx:i<0\/(xs.length:Int)<=i:=by
   unfold inL at hin;simp at hin
   omega
  rw [memB_no hin];clear hin h;rcases hx with hx|hx
  ·go_enter Tryz.func189,Tryz.ntmps189;go_wp2_with fail
   go_ret
   exact ⟨rfl,by go_grown⟩
  ·by_cases h0:i<0
   ·go_enter Tryz.func189,Tryz.ntmps189;go_wp2_with fail
    go_ret
    exact ⟨rfl,by go_grown⟩
   ·go_enter Tryz.func189,Tryz.ntmps189;go_wp2_with fail
    go_ret
    exact ⟨rfl,by go_grown⟩
 ·obtain ⟨k,hk,rfl⟩:=inL_iff.1 hin;rw [memB_at hk];obtain ⟨b,f,rfl,hz,hx⟩:=h.is (by omega);obtain ⟨c0,c1,c2,c3,c4⟩:=hx k hk;have hok:=h.ok _ (List.getElem_mem hk);have hlen:=h.len;have hki:(k:Int)<xs.length:=by omega
  have hk0:¬ (k:Int)<0:=by omega
  clear h hx hin;generalize xs[k]=o at *;have HC:Hid (∀ W,Calls Tryz.prog 99 #[o.val] W fun e w'=>e=.returned (.int .i64 (ckE o))/\Below W.heap.size W w'):=fun W=>check_any o W hok;have hdef:memO o=((o.op==15 || o.op==16)&&(ckE o==0)):=by unfold memO;rw [ck_eq]
  rw [hdef];clear hdef hok
  by_cases h15:o.op=15
  ·obtain ⟨p0,p1,x,p3,i1⟩:=o;simp only at h15
   subst h15;go_enter Tryz.func189,Tryz.ntmps189;go_wp2_with (first|(go_at_call 99;refine Calls.mono (HC.out _) ?_;rintro e w1 ⟨rfl,hb⟩;obtain ⟨-,hb0,hz1⟩:=one_new w _ _ hb;have HB:Hid (Below w.heap.size w w1):=hb0;clear hb hb0))
   go_ret
   exact ⟨ret_bool (by simp),HB.out⟩
  ·by_cases h16:o.op=16
   ·obtain ⟨p0,p1,x,p3,i1⟩:=o;simp only at h16
    subst h16;clear h15;go_enter Tryz.func189,Tryz.ntmps189;go_wp2_with (first|(go_at_call 99;refine Calls.mono (HC.out _) ?_;rintro e w1 ⟨rfl,hb⟩;obtain ⟨-,hb0,hz1⟩:=one_new w _ _ hb;have HB:Hid (Below w.heap.size w w1):=hb0;clear hb hb0))
    go_ret
    exact ⟨ret_bool (by simp),HB.out⟩
   ·have e1:((o.op==15 || o.op==16)&&(ckE o==0))=false:=by simp [h15,h16]
    rw [e1];have g1:(o.op==15)=false:=by simpa using h15
    have g2:(o.op==16)=false:=by simpa using h16
    clear e1;go_enter Tryz.func189,Tryz.ntmps189;go_wp2_with fail
    go_ret
    exact ⟨rfl,by go_grown⟩
theorem isPair_any (ao:Option Addr) (cap:Nat) (xs:List O) (i j:Int) (w:World) (h:OpsAt w ao xs) :
  Calls Tryz.prog 177 #[.slice ao xs.length cap,.int .i64 i,.int .i64 j] w fun e w'=>e=.returned (.bool (pairB xs i j))/\Below w.heap.size w w':=by
 have HI:Hid (∀ W,Below w.heap.size w W->Calls Tryz.prog 189 #[.slice ao xs.length cap,.int .i64 i] W fun e w'=>e=.returned (.bool (memB xs i))/\Below W.heap.size W w'):=fun W hb=>isMem_any ao cap xs i W (h.below hb);have HJ:Hid (∀ W,Below w.heap.size w W->Calls Tryz.prog 189 #[.slice ao xs.length cap,.int .i64 j] W fun e w'=>e=.returned (.bool (memB xs j))/\Below W.heap.size W w'):=fun W hb=>isMem_any ao cap xs j W (h.below hb);have hdef:pairB xs i j=(memB xs i&&memB xs j&&((atL xs i).op==16 || (atL xs j).op==16)):=rfl;rw [hdef];clear hdef
 cases hi:memB xs i
 ·rw [hi] at HI;clear h hi;go_enter Tryz.func177,Tryz.ntmps177;go_wp2_with (first|(go_at_call 189;refine Calls.mono (HI.out _ (Below.refl _ _)) ?_;rintro e w1 ⟨rfl,hb⟩))
  go_ret
  exact ⟨rfl,hb⟩
 ·cases hj:memB xs j
  ·rw [hi] at HI;rw [hj] at HJ;clear h hi hj;go_enter Tryz.func177,Tryz.ntmps177;go_wp2_with (first|(go_at_call 189;refine Calls.mono (HI.out _ (Below.refl _ _)) ?_;rintro e w1 ⟨rfl,hb⟩;have HB:Hid (Below w.heap.size w w1):=hb;clear hb HI)|(go_at_call 189;refine Calls.mono (HJ.out _ HB.out) ?_;rintro e w2 ⟨rfl,hb⟩;have HB2:Hid (Below w.heap.size w w2):=HB.out.trans (hb.mono HB.out.size);clear hb HJ))
   go_ret
   exact ⟨rfl,HB2.out⟩
  ·rw [hi] at HI;rw [hj] at HJ;obtain ⟨k,hk,rfl⟩:=memB_in hi;obtain ⟨m,hm,rfl⟩:=memB_in hj;rw [atL_at hk,atL_at hm];obtain ⟨b,f,rfl,hz,hx⟩:=h.is (by omega);have hki:(k:Int)<xs.length:=by omega
   have hmi:(m:Int)<xs.length:=by omega
   have HX:Hid (∀ W,Below w.heap.size w W->W.cell? ⟨b,f+k*5,none⟩=some (.int .i8 xs[k].op)/\W.cell? ⟨b,f+m*5,none⟩=some (.int .i8 xs[m].op)):=fun W hb=>⟨((hx k hk).below hb hz).c0,((hx m hm).below hb hz).c0⟩;have hlen:=h.len;clear h hi hj hx;generalize xs[k].op=x at *;generalize xs[m].op=y at *
   cases hx16:x==16
   all_goals
    go_enter Tryz.func177,Tryz.ntmps177;go_wp2_with (first|(go_at_call 189;refine Calls.mono (HI.out _ (Below.refl _ _)) ?_;rintro e w1 ⟨rfl,hb⟩;have HB:Hid (Below w.heap.size w w1):=hb;clear hb HI)|(go_at_call 189;refine Calls.mono (HJ.out _ HB.out) ?_;rintro e w2 ⟨rfl,hb⟩;have HB2:Hid (Below w.heap.size w w2):=HB.out.trans (hb.mono HB.out.size);obtain ⟨x0,y0⟩:=HX.out w2 HB2.out;clear hb HJ))
    go_ret
    exact ⟨ret_bool (by simp),HB2.out⟩
end Go.Proofs.YtcmlnemokckbdaaGreatDoor.Al
