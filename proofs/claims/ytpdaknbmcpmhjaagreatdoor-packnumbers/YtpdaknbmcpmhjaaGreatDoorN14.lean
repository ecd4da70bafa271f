/- Parts Va Vb Vc Vd Ve. -/
import Derived.Test.YtpdaknbmcpmhjaaGreatDoorN02
import Derived.Test.YtpdaknbmcpmhjaaGreatDoorN01
import Derived.ProofKit
import Derived.OpenShut
import Derived.WalkKit
import Derived.WalkSpells
import Derived.WalkLawsBesides
import Derived.Handy
import Derived.ChangeOld
import Derived.Below
import Derived.BigRegion
import Derived.BigQuiet
import Derived.Deep.LoopGhost
import Derived.Deep.QuietTactic
import Derived.Deep.RegionHeld3
import Derived.Deep.DrawnRows
import Derived.Deep.WholeRow
import Derived.Maps.OwnSet
import Derived.Maps.OwnOps
import Derived.Maps.Views
import Derived.WideKeyPair
import Derived.WideKeyEntry
import Derived.Deep.DeepCutAuto
import Derived.Deep.CutBlock
set_option maxRecDepth 20000
set_option maxHeartbeats 4000000
namespace Go.Proofs.YtpdaknbmcpmhjaaGreatDoor.Rv
open Go.ChangeShapes Go.WideShapes Go.ChangeAt Go.RowKit Go.Maps
open YtpdaknbmcpmhjaaGreatDoor.Op YtpdaknbmcpmhjaaGreatDoor.So
open YtpdaknbmcpmhjaaGreatDoor.Tb (Tab TabAt Bnds)
def I64 (n:Int):Prop:=-9223372036854775808<=n/\n<=9223372036854775807
theorem wf64i {n:Int} (h:I64 n):(Lit.int .i64 n).wf=true:=by
 obtain ⟨h1,h2⟩:=h;simp [Lit.wf,IntKind.min,IntKind.max,IntKind.signed,IntKind.bits];omega
def kl (a b:Int):Lit:=.string (keyBytes [.int .i64 a,.int .i64 b])
theorem law57:Keyed Tryz.prog 339:=Keyed.of_law (deep_law (m:=2) (by omega) (by kernel_rfl) (by kernel_rfl) (by kernel_rfl))
theorem klaw57:WideMaps.KeyLaw Tryz.prog 339:=deep_law (m:=2) (by omega) (by kernel_rfl) (by kernel_rfl) (by kernel_rfl)
theorem types_pos:∃ m,Tryz.prog.types.size=m+1:=⟨Tryz.prog.types.size-1,by
 have:0<Tryz.prog.types.size:=Nat.lt_of_lt_of_le (by decide:0<1) (Nat.le_of_ble_eq_true (by kernel_rfl))
 omega⟩
theorem kt57:Tryz.prog.keyType 339=true:=by kernel_rfl
theorem c57:Tryz.prog.cellsOf 339=2:=by kernel_rfl
theorem c3:Tryz.prog.cellsOf 3=1:=by kernel_rfl
theorem key57 {a b:Int} (ha:I64 a) (hb:I64 b):keyOf Tryz.prog 339 (.agg #[.int .i64 a,.int .i64 b])=some (kl a b):=by
 obtain ⟨m,hm⟩:=types_pos;have wa:=wf64i ha;have wb:=wf64i hb;unfold keyOf;simp only [Tryz.underlying339];rw [if_pos (by simp [kt57,Value.formed,Tryz.underlying339,c57]),hm];unfold Program.keyLits;simp only [Tryz.underlying339,Value.cells];rw [if_pos (by rw [c57];exact ⟨rfl,by simp⟩)];simp [c3,Program.keyLits,Tryz.underlying3,wa,wb,kl]
theorem kl_inj {a b c d:Int} (ha:I64 a) (hb:I64 b) (hc:I64 c) (hd:I64 d) (h:kl a b=kl c d):a=c/\b=d:=by
 unfold kl at h
 injection h with h
 have:=keyBytes_inj (l:=[.int .i64 a,.int .i64 b]) (l':=[.int .i64 c,.int .i64 d]) ⟨rfl,rfl,trivial⟩
  (fun x hx=>by simp at hx;rcases hx with rfl|rfl <;> exact wf64i (by assumption)) (fun x hx=>by simp at hx;rcases hx with rfl|rfl <;> exact wf64i (by assumption)) h
 simpa using this
theorem kl_key (a b:Int):WideAt.IsKeyLit (kl a b):=by
 unfold kl
 first|exact .string _|exact trivial|simp [WideAt.IsKeyLit]
structure Cm (w:World) (mb n:Nat) (f:Int->Int->Int):Prop where
 own:∃ D:DataW Unit,w.ownsMap Tryz.prog 339 (plainElem Tryz.prog 3) mb n D/\∀ a b,I64 a->I64 b->D.atKey (kl a b) (.lit (.int .i64 0))=.lit (.int .i64 (f a b))
theorem Cm.lt {w:World} {mb n:Nat} {f:Int->Int->Int} (h:Cm w mb n f):mb<w.heap.size:=by
 obtain ⟨D,h,-⟩:=h.own;exact h.lt
theorem Cm.below {w w':World} {mb n B:Nat} {f:Int->Int->Int} (h:Cm w mb n f) (hb:Below B w w') (hB:mb<B):Cm w' mb n f:=by
 obtain ⟨D,⟨es,clock,h1,h2,h3⟩,h4⟩:=h.own;exact ⟨D,⟨es,clock,by rw [hb.block mb hB];exact h1,h2,h3⟩,h4⟩
theorem Cm.made (w:World):Cm (w.alloc (.map #[] 0)) w.heap.size 0 (fun _ _=>0):=
 ⟨.map [],World.ownsMap_made w Tryz.prog 339 _,fun _ _ _ _=>rfl⟩
theorem zero3 (w:World):(zeroValue 3).run Tryz.prog w=.ok (.int .i64 0) w:=by kernel_rfl
theorem Cm.look {w:World} {mb n:Nat} {f:Int->Int->Int} (h:Cm w mb n f) {a b:Int} (ha:I64 a) (hb:I64 b):(Instr.lookup 302 (.map (some mb)) (.agg #[.int .i64 a,.int .i64 b]) false).run Tryz.prog w=.ok (.int .i64 (f a b)) w:=by
 obtain ⟨D,h1,h2⟩:=h.own;obtain ⟨c,hrun,hat,-⟩:=h1.lookup_int law57 Tryz.underlying302 Tryz.underlying3 (zero3 w) (key57 ha hb);rw [h2 a b ha hb] at hat
 injection hat with e
 injection e with _ e
 rw [e];exact hrun
def tn (ev:Option Int) (c:Int):Int:=match ev with|none=>c|some e=>c%e
def fv (ev:Option Int):Value:=match ev with|none=>.func (.func 216) #[.agg #[]] #[]|some _=>.func (.func 216) #[.agg #[]] #[]
def evOk (ev:Option Int):Prop:=match ev with|none=>True|some _=>False
theorem tn_in {ev:Option Int} (hv:evOk ev) {c:Int} (hc:I64 c):I64 (tn ev c):=by
 cases ev with
 | none=>exact hc
 | some _=>exact hv.elim
structure RAt (w:World) (rb:Nat) (t:Tab) (ev:Option Int) (mb n:Nat) (f:Int->Int->Int):Prop where
 at':At w rb #[.int .i64 (t.u 0),.int .i64 (t.u 1),.int .i64 (t.u 2),.int .i64 (t.u 3),.int .i64 (t.b 0),.int .i64 (t.b 1),.int .i64 (t.b 2),.int .i64 (t.b 3),.map (some mb),fv ev]
 cm:Cm w mb n f
 ne:rb≠mb
theorem RAt.below {w w':World} {rb mb n B:Nat} {t:Tab} {ev:Option Int} {f:Int->Int->Int} (h:RAt w rb t ev mb n f) (hb:Below B w w') (h1:rb<B) (h2:mb<B):RAt w' rb t ev mb n f:=
 ⟨h.at'.below hb h1,h.cm.below hb h2,h.ne⟩
theorem RAt.up {w w':World} {rb mb n:Nat} {t:Tab} {ev:Option Int} {f:Int->Int->Int} (h:RAt w rb t ev mb n f) (hb:Below w.heap.size w w'):RAt w' rb t ev mb n f:=h.below hb h.at'.lt h.cm.lt
theorem RAt.u {w:World} {rb mb n:Nat} {t:Tab} {ev:Option Int} {f:Int->Int->Int} (h:RAt w rb t ev mb n f):∀ k,k<4->w.cell? ⟨rb,k,none⟩=some (.int .i64 (t.u k)):=Tb.four (h.at'.c 0 _ rfl) (h.at'.c 1 _ rfl) (h.at'.c 2 _ rfl) (h.at'.c 3 _ rfl)
theorem RAt.b {w:World} {rb mb n:Nat} {t:Tab} {ev:Option Int} {f:Int->Int->Int} (h:RAt w rb t ev mb n f):∀ k,k<4->w.cell? ⟨rb,4+k,none⟩=some (.int .i64 (t.b k)):=Tb.four (h.at'.c 4 _ rfl) (h.at'.c 5 _ rfl) (h.at'.c 6 _ rfl) (h.at'.c 7 _ rfl)
theorem RAt.m {w:World} {rb mb n:Nat} {t:Tab} {ev:Option Int} {f:Int->Int->Int} (h:RAt w rb t ev mb n f):w.cell? ⟨rb,8,none⟩=some (.map (some mb)):=h.at'.c 8 _ rfl
theorem RAt.fn {w:World} {rb mb n:Nat} {t:Tab} {ev:Option Int} {f:Int->Int->Int} (h:RAt w rb t ev mb n f):w.cell? ⟨rb,9,none⟩=some (fv ev):=h.at'.c 9 _ rfl
theorem row_any (c:Int) (w:World):Calls Tryz.prog 216 #[.agg #[],.int .i64 c] w fun e w'=>e=.returned (.int .i64 c)/\Below w.heap.size w w':=by
 go_enter Tryz.func216,Tryz.ntmps216;go_wp2
 go_ret
 exact ⟨rfl,by go_grown⟩
theorem eq20 (W:World):(binOp BinOp.eql 196 (Value.func (Fn.func 216) #[Value.agg #[]] #[]) Value.nilFunc).run Tryz.prog W=.ok (.bool false) W:=by kernel_rfl
theorem isNone_no {rb mb n:Nat} {t:Tab} {ev:Option Int} {f:Int->Int->Int} (w:World) (h:RAt w rb t ev mb n f):Calls Tryz.prog 217 #[.pointer (some ⟨rb,0,none⟩)] w fun e w'=>e=.returned (.bool false)/\Below w.heap.size w w':=by
 have hf:=h.fn;have hl:=h.at'.lt;clear h
 cases ev with
 | none=>
  have hg:w.cell? ⟨rb,9,none⟩=some (.func (.func 216) #[.agg #[]] #[]):=hf;have he:=eq20 w;clear hf;go_enter Tryz.func217,Tryz.ntmps217;go_wp2
  go_ret
  exact ⟨rfl,by go_grown⟩
 | some q=>
  have hg:w.cell? ⟨rb,9,none⟩=some (.func (.func 216) #[.agg #[]] #[]):=hf;have he:=eq20 w;clear hf;go_enter Tryz.func217,Tryz.ntmps217;go_wp2
  go_ret
  exact ⟨rfl,by go_grown⟩
theorem kept_any {rb mb n:Nat} {t:Tab} {ev:Option Int} {f:Int->Int->Int} (cl first k:Int) (w:World) (h:RAt w rb t ev mb n f) (hv:evOk ev) (hs:IntKind.i64.wrap (first+k)=first+k) :
  Calls Tryz.prog 263 #[.pointer (some ⟨rb,0,none⟩),.int .i64 cl,.int .i64 first,.int .i64 k] w fun e w'=>e=.returned (.agg #[.int .i64 cl,.int .i64 (tn ev (first+k))])/\Below w.heap.size w w':=by
 have hf:=h.fn;have hl:=h.at'.lt;clear h
 cases ev with
 | none=>
  have hg:w.cell? ⟨rb,9,none⟩=some (.func (.func 216) #[.agg #[]] #[]):=hf;have HT:Hid (∀ W,Calls Tryz.prog 216 #[.agg #[],.int .i64 (first+k)] W fun e w'=>e=.returned (.int .i64 (first+k))/\Below W.heap.size W w'):=fun W=>row_any _ W;clear hf hv;go_enter Tryz.func263,Tryz.ntmps263;go_wp2_with (first|(go_at_call 216;refine Calls.mono (HT.out _) ?_;rintro e w1 ⟨rfl,b1⟩;have hx:=(At.new w #[.int .i64 0,.int .i64 0] 339).below b1 (by simp);have x0:=hx.c 0 _ rfl;have x1:=hx.c 1 _ rfl;have z0:=hx.f 0;have z1:=hx.f 1;have xl:=hx.lt;have HB:Hid (Below w.heap.size w w1):=((Below.refl _ _).alloc (Nat.le_refl _) _).trans (b1.mono (by simp));clear hx b1 HT))
  refine bodyPost_ret (by simp [results,Tryz.results263,go_sem,x0,x1];try rfl) rfl ?_;exact ⟨rfl,(((Fr.of (X:=Non) HB.out).setCell (.inl (Nat.le_refl _)) 0 _).setCell (.inl (Nat.le_refl _)) 1 _).non⟩
 | some _=>exact hv.elim
def tms (ev:Option Int) (first cyc:Int):Nat->Int
 | 0=>0
 | k+1=>tms ev first cyc k+(if tn ev (first+k)=cyc then 1 else 0)
theorem tms_in (ev:Option Int) (first cyc:Int):∀ k,0<=tms ev first cyc k/\tms ev first cyc k<=k
 | 0=>⟨Int.le_refl _,Int.le_refl _⟩
 | k+1=>by
  have:=tms_in ev first cyc k
  unfold tms
  split <;> omega
theorem eq57 {a b c d:Int} (ha:I64 a) (hb:I64 b) (hc:I64 c) (hd:I64 d) (W:World):(binOp BinOp.eql 339 (.agg #[.int .i64 a,.int .i64 b]) (.agg #[.int .i64 c,.int .i64 d])).run Tryz.prog W=.ok (.bool (a==c&&b==d)) W:=by
 obtain ⟨r,hr,hiff⟩:=run_equal_deep (P:=Tryz.prog) W (m:=2) (by omega) (by kernel_rfl) (by kernel_rfl) (key57 ha hb) (key57 hc hd);have e:r=(a==c&&b==d):=by
  rw [Bool.eq_iff_iff,hiff];simp only [Bool.and_eq_true,beq_iff_eq];constructor
  ·exact fun h=>kl_inj ha hb hc hd h
  ·rintro ⟨rfl,rfl⟩;rfl
 simp [binOp,go_sem,hr,e]
theorem times_any {rb mb n:Nat} {t:Tab} {ev:Option Int} {f:Int->Int->Int} (c:Nat) (cyc first:Int) (w:World) (h:RAt w rb t ev mb n f) (hv:evOk ev) (hc:c<4) (h0:0<=first) (h1:first<=65536) (hb:1<=t.b c/\t.b c<=4) (hcy:I64 cyc) :
  Calls Tryz.prog 264 #[.pointer (some ⟨rb,0,none⟩),.agg #[.int .i64 (c:Int),.int .i64 cyc],.int .i64 first] w fun e w'=>e=.returned (.int .i64 (tms ev first cyc (t.b c).toNat))/\Below w.heap.size w w':=by
 have HK:Hid (∀ W k,Below w.heap.size w W->k<4->Calls Tryz.prog 263 #[.pointer (some ⟨rb,0,none⟩),.int .i64 (c:Int),.int .i64 first,.int .i64 ((k:Nat):Int)] W fun e w'=>e=.returned (.agg #[.int .i64 (c:Int),.int .i64 (tn ev (first+k))])/\Below W.heap.size W w'):=fun W k hbw hk=>kept_any _ _ _ W (h.up hbw) hv (by rw [IntKind.wrap_i64];omega);obtain ⟨B,hB⟩:∃ B:Nat,t.b c=B:=⟨(t.b c).toNat,by omega⟩;have HT:Hid (∀ k,k<4->I64 (tn ev (first+(k:Nat)))):=fun k hk=>tn_in hv (by unfold I64;omega);have HCy:Hid (I64 cyc):=hcy;have HCl:Hid (I64 (c:Int)):=by unfold I64 Hid;omega
 have hl:=h.at'.lt;have HA:Hid (∀ W,Below w.heap.size w W->rb<W.heap.size/\W.cell? ⟨rb,4+c,none⟩=some (.int .i64 (B:Int))):=fun W hbw=>⟨(h.up hbw).at'.lt,by rw [<- hB];exact (h.up hbw).b c hc⟩;rw [hB] at hb ⊢;rw [Int.toNat_natCast];clear h hB hv hcy;have c0:(0:Int)<=(c:Int):=by omega
 have c1:(c:Int)<4:=by omega
 have HS:Hid (At (w.alloc (.cells #[.int .i64 (c:Int),.int .i64 cyc] 339)) w.heap.size #[.int .i64 (c:Int),.int .i64 cyc]/\Below w.heap.size w (w.alloc (.cells #[.int .i64 (c:Int),.int .i64 cyc] 339))):=⟨At.new _ _ _,(Below.refl _ _).alloc (Nat.le_refl _) _⟩;go_enter Tryz.func264,Tryz.ntmps264;go_upto_region 2 with fail
 generalize w.alloc (.cells #[.int .i64 (c:Int),.int .i64 cyc] 339)=W0 at *;obtain ⟨g0,g1⟩:=HA.out _ HS.out.2;have s0:=HS.out.1.c 0 _ rfl;have sl:=HS.out.1.lt;go_quiet (fail)
 go_wp2
 clear g0 g1 s0 sl
 go_loopw [7,16] (fun s v wr=>∃ k:Nat,k<=B/\s=.int .i64 (tms ev first cyc k)/\v=.int .i64 k/\At wr w.heap.size #[.int .i64 (c:Int),.int .i64 cyc]/\Below w.heap.size w wr) (fun _ v _=>B-(intOf v).toNat)
 case atStart=>exact ⟨0,by omega,rfl,rfl,HS.out.1.below (B:=W0.heap.size) ((Fr.refl Non W0).drewN _).non HS.out.1.lt,HS.out.2.trans (((Fr.refl Non W0).drewN _).non.mono HS.out.2.size)⟩
 case round=>
  rename World=>wr;obtain ⟨k,hk,rfl,rfl,hA,hbw⟩:=hrel;have HQ:Hid (At wr w.heap.size #[.int .i64 (c:Int),.int .i64 cyc]/\Below w.heap.size w wr):=⟨hA,hbw⟩;clear hA hbw HS;obtain ⟨t0,t1⟩:=tms_in ev first cyc k
  by_cases hlt:k<B
  ·have k0:(k:Int)<(B:Int):=by omega
   have ck:∀ x:Wd (Below wr.heap.size wr),x.w.cell? ⟨w.heap.size,0,none⟩=some (.int .i64 (c:Int)):=fun x=>(HQ.out.1.below x.ok HQ.out.1.lt).c 0 _ rfl;have cy:∀ x:Wd (Below wr.heap.size wr),x.w.cell? ⟨w.heap.size,1,none⟩=some (.int .i64 cyc):=fun x=>(HQ.out.1.below x.ok HQ.out.1.lt).c 1 _ rfl;have HKx:Hid (∀ x:Wd (Below wr.heap.size wr),Calls Tryz.prog 263 #[.pointer (some ⟨rb,0,none⟩),.int .i64 (c:Int),.int .i64 first,.int .i64 (k:Int)] x.w fun e w''=>e=.returned (.agg #[.int .i64 (c:Int),.int .i64 (tn ev (first+k))])/\∃ y:Wd (Below wr.heap.size wr),w''=y.w):=fun x=>calls_in (Nat.le_refl _) x (HK.out x.w k (HQ.out.2.trans (x.ok.mono HQ.out.2.size)) (by omega));have HNx:Hid (tms ev first cyc (k+1)=tms ev first cyc k+(if tn ev (first+k)=cyc then 1 else 0)):=rfl
   haveI inst:Nonempty (Wd (Below wr.heap.size wr)):=⟨⟨wr,Below.refl _ _⟩⟩
   have he:=fun W=>eq57 HCl.out (HT.out k (by omega)) HCl.out HCy.out W
   by_cases hx:tn ev (first+k)=cyc
   ·have hb2:((c:Int)==(c:Int)&&tn ev (first+k)==cyc)=true:=by simp [hx]
    rw [hb2] at he;rw [if_pos hx] at HNx;clear hb2 hx;generalize tn ev (first+k)=z at *;generalize tms ev first cyc k=s at *
    go_wp2
    refine wp_region_in (Below wr.heap.size wr) (by kernel_rfl) (by kernel_rfl) ((Below.refl _ _).drew) ?_
    repeat (first|go_big_quiet_step ((go_at_call 263;exact HKx.out _)))
    refine wpQuiet_nil ?_;rintro _ ⟨x,rfl⟩;have HX:Hid (Below wr.heap.size wr x.w):=x.ok;go_wp2
    go_roundw
    case rel=>exact ⟨k+1,by omega,by rw [HNx.out],by go_num,HQ.out.1.below HX.out HQ.out.1.lt,HQ.out.2.trans (HX.out.mono HQ.out.2.size)⟩
    case measure=>simp [intOf];omega
   ·have hb2:((c:Int)==(c:Int)&&tn ev (first+k)==cyc)=false:=by simp [hx]
    rw [hb2] at he;rw [if_neg hx,Int.add_zero] at HNx;clear hb2 hx;generalize tn ev (first+k)=z at *;generalize tms ev first cyc k=s at *
    go_wp2
    refine wp_region_in (Below wr.heap.size wr) (by kernel_rfl) (by kernel_rfl) ((Below.refl _ _).drew) ?_
    repeat (first|go_big_quiet_step ((go_at_call 263;exact HKx.out _)))
    refine wpQuiet_nil ?_;rintro _ ⟨x,rfl⟩;have HX:Hid (Below wr.heap.size wr x.w):=x.ok;go_wp2
    go_roundw
    case rel=>exact ⟨k+1,by omega,by rw [HNx.out],by go_num,HQ.out.1.below HX.out HQ.out.1.lt,HQ.out.2.trans (HX.out.mono HQ.out.2.size)⟩
    case measure=>simp [intOf];omega
  ·obtain rfl:k=B:=by omega
   have k0:¬ (k:Int)<(k:Int):=by omega
   go_wp2
   go_ret
   exact ⟨rfl,HQ.out.2⟩
def ft1 (t:Tab) (ev:Option Int) (f:Int->Int->Int) (c:Nat) (first:Int) (k:Nat):Prop:=f c (tn ev (first+k))+tms ev first (tn ev (first+k)) (t.b c).toNat<=t.u c
def ftB (t:Tab) (ev:Option Int) (f:Int->Int->Int) (c:Nat) (first:Int):Bool:=(List.range (t.b c).toNat).all fun k=>decide (f c (tn ev (first+k))+tms ev first (tn ev (first+k)) (t.b c).toNat<=t.u c)
theorem ftB_no {t:Tab} {ev:Option Int} {f:Int->Int->Int} {c:Nat} {first:Int} {k:Nat} (hk:k<(t.b c).toNat) (h:¬ ft1 t ev f c first k):false=ftB t ev f c first:=by
 symm
 unfold ftB;rw [List.all_eq_false];exact ⟨k,List.mem_range.2 hk,by unfold ft1 at h;simpa using h⟩
theorem ftB_yes {t:Tab} {ev:Option Int} {f:Int->Int->Int} {c:Nat} {first:Int} (h:∀ k,k<(t.b c).toNat->ft1 t ev f c first k):true=ftB t ev f c first:=by
 symm
 unfold ftB;rw [List.all_eq_true];exact fun k hk=>by have h2:=h k (List.mem_range.1 hk);unfold ft1 at h2;simpa using h2
def Few (f:Int->Int->Int):Prop:=∀ a b,0<=f a b/\f a b<=8
theorem fits_any {rb mb n:Nat} {t:Tab} {ev:Option Int} {f:Int->Int->Int} (c:Nat) (first:Int) (w:World) (h:RAt w rb t ev mb n f) (hv:evOk ev) (hc:c<4) (h0:0<=first) (h1:first<=65536) (hb:1<=t.b c/\t.b c<=4) (hf:Few f) (hu:0<=t.u c/\t.u c<=8) :
  Calls Tryz.prog 218 #[.pointer (some ⟨rb,0,none⟩),.int .i64 (c:Int),.int .i64 first] w fun e w'=>e=.returned (.bool (ftB t ev f c first))/\Below w.heap.size w w':=by
 have HR:Hid (∀ W,Below w.heap.size w W->RAt W rb t ev mb n f):=fun W hb=>h.up hb;have HT:Hid (∀ k,k<4->I64 (tn ev (first+(k:Nat)))):=fun k hk=>tn_in hv (by unfold I64;omega);have HK:Hid (∀ W k,Below w.heap.size w W->k<4->Calls Tryz.prog 263 #[.pointer (some ⟨rb,0,none⟩),.int .i64 (c:Int),.int .i64 first,.int .i64 ((k:Nat):Int)] W fun e w'=>e=.returned (.agg #[.int .i64 (c:Int),.int .i64 (tn ev (first+k))])/\Below W.heap.size W w'):=fun W k hbw hk=>kept_any _ _ _ W (h.up hbw) hv (by rw [IntKind.wrap_i64];omega);have HTi:Hid (∀ W z,Below w.heap.size w W->I64 z->Calls Tryz.prog 264 #[.pointer (some ⟨rb,0,none⟩),.agg #[.int .i64 (c:Int),.int .i64 z],.int .i64 first] W fun e w'=>e=.returned (.int .i64 (tms ev first z (t.b c).toNat))/\Below W.heap.size W w'):=fun W z hbw hz=>times_any c z first W (h.up hbw) hv hc h0 h1 hb hz
 have HNo:Hid (∀ k,k<(t.b c).toNat->¬ ft1 t ev f c first k->false=ftB t ev f c first):=fun k hk h=>ftB_no hk h;have HYs:Hid ((∀ k,k<(t.b c).toNat->ft1 t ev f c first k)->true=ftB t ev f c first):=fun h=>ftB_yes h;have HFt:Hid (∀ k,ft1 t ev f c first k↔f c (tn ev (first+(k:Nat)))+tms ev first (tn ev (first+k)) (t.b c).toNat<=t.u c):=fun k=>Iff.rfl;generalize ftB t ev f c first=fb at *
 obtain ⟨B,hB⟩:∃ B:Nat,t.b c=B:=⟨(t.b c).toNat,by omega⟩;have HBc:Hid (∀ W,Below w.heap.size w W->rb<W.heap.size/\W.cell? ⟨rb,4+c,none⟩=some (.int .i64 (B:Int))):=fun W hbw=>⟨(h.up hbw).at'.lt,by rw [<- hB];exact (h.up hbw).b c hc⟩;rw [hB,Int.toNat_natCast] at HTi HNo HYs HFt;rw [hB] at hb;have HF:Hid (Few f):=hf;have HCl:Hid (I64 (c:Int)):=by unfold I64 Hid;omega
 obtain ⟨b1,b2⟩:=hb;obtain ⟨u1,u2⟩:=hu;obtain ⟨uc,huc⟩:∃ uc,t.u c=uc:=⟨_,rfl⟩;have HU:Hid (t.u c=uc):=huc;rw [huc] at HFt u1 u2;clear h hB hv hf huc;have c0:(0:Int)<=(c:Int):=by omega
 have c1:(c:Int)<4:=by omega
 obtain ⟨g0,g1⟩:=HBc.out w (Below.refl _ _);go_enter Tryz.func218,Tryz.ntmps218;go_wp2
 clear g0 g1 HBc
 go_loopw [15] (fun v wr=>∃ k:Nat,k<=B/\v=.int .i64 k/\Below w.heap.size w wr/\∀ j,j<k->ft1 t ev f c first j) (fun v _=>B-(intOf v).toNat)
 case atStart=>exact ⟨0,by omega,rfl,Below.refl _ _,fun j hj=>by omega⟩
 case round=>
  rename World=>wr;obtain ⟨k,hk,rfl,hbw,hok⟩:=hrel;have HQ:Hid (Below w.heap.size w wr/\∀ j,j<k->ft1 t ev f c first j):=⟨hbw,hok⟩;clear hbw hok
  by_cases hlt:k<B
  ·have k0:(k:Int)<(B:Int):=by omega
   have hz:=HT.out k (by omega);have HFk:Hid (ft1 t ev f c first k↔f c (tn ev (first+(k:Nat)))+tms ev first (tn ev (first+k)) B<=uc):=HFt.out k;have HKx:Hid (∀ W,Below w.heap.size w W->Calls Tryz.prog 263 #[.pointer (some ⟨rb,0,none⟩),.int .i64 (c:Int),.int .i64 first,.int .i64 (k:Int)] W fun e w'=>e=.returned (.agg #[.int .i64 (c:Int),.int .i64 (tn ev (first+k))])/\Below W.heap.size W w'):=fun W hb=>HK.out W k hb (by omega);generalize tn ev (first+(k:Nat))=z at *;have HTx:Hid (∀ W,Below w.heap.size w W->Calls Tryz.prog 264 #[.pointer (some ⟨rb,0,none⟩),.agg #[.int .i64 (c:Int),.int .i64 z],.int .i64 first] W fun e w'=>e=.returned (.int .i64 (tms ev first z B))/\Below W.heap.size W w'):=fun W hb=>HTi.out W z hb hz;have HLo:Hid (∀ W,Below w.heap.size w W->(Instr.lookup 302 (.map (some mb)) (.agg #[.int .i64 (c:Int),.int .i64 z]) false).run Tryz.prog W=.ok (.int .i64 (f c z)) W):=fun W hb=>(HR.out W hb).cm.look HCl.out hz;obtain ⟨s1,s2⟩:=tms_in ev first z B
   obtain ⟨f1,f2⟩:=HF.out c z;clear hz HK HTi;generalize tms ev first z B=s at *
   generalize f c z=fz at *;go_upto_region 5 with (first|(go_at_call 263;refine Calls.mono (HKx.out _ HQ.out.1) ?_;rintro e w2 ⟨rfl,hb2⟩;have HV:Hid (At (w2.alloc (.cells #[.int .i64 (c:Int),.int .i64 z] 339)) w2.heap.size #[.int .i64 (c:Int),.int .i64 z]/\Below w.heap.size w (w2.alloc (.cells #[.int .i64 (c:Int),.int .i64 z] 339))):=⟨At.new _ _ _,(HQ.out.1.trans (hb2.mono HQ.out.1.size)).trans ((Below.refl _ _).alloc (Nat.le_trans HQ.out.1.size hb2.size) _)⟩;clear hb2 HKx))
   generalize w2.alloc (.cells #[.int .i64 (c:Int),.int .i64 z] 339)=V at *;generalize w2.heap.size=ob at *;have HWd:Hid (∀ x:Wd (Below V.heap.size V),Below w.heap.size w x.w):=fun x=>HV.out.2.trans (x.ok.mono HV.out.2.size);have xm:∀ x:Wd (Below V.heap.size V),x.w.cell? ⟨rb,8,none⟩=some (.map (some mb)):=fun x=>(HR.out _ (HWd.out x)).m;have xu:∀ x:Wd (Below V.heap.size V),x.w.cell? ⟨rb,c,none⟩=some (.int .i64 uc):=fun x=>by rw [<- HU.out];exact (HR.out _ (HWd.out x)).u c hc
   have x0:∀ x:Wd (Below V.heap.size V),x.w.cell? ⟨ob,0,none⟩=some (.int .i64 (c:Int)):=fun x=>(HV.out.1.below x.ok HV.out.1.lt).c 0 _ rfl;have x1:∀ x:Wd (Below V.heap.size V),x.w.cell? ⟨ob,1,none⟩=some (.int .i64 z):=fun x=>(HV.out.1.below x.ok HV.out.1.lt).c 1 _ rfl;have xl:∀ x:Wd (Below V.heap.size V),(Instr.lookup 302 (.map (some mb)) (.agg #[.int .i64 (c:Int),.int .i64 z]) false).run Tryz.prog x.w=.ok (.int .i64 fz) x.w:=fun x=>HLo.out _ (HWd.out x);have HTy:Hid (∀ x:Wd (Below V.heap.size V),Calls Tryz.prog 264 #[.pointer (some ⟨rb,0,none⟩),.agg #[.int .i64 (c:Int),.int .i64 z],.int .i64 first] x.w fun e w''=>e=.returned (.int .i64 s)/\∃ y:Wd (Below V.heap.size V),w''=y.w):=fun x=>calls_in (Nat.le_refl _) x (HTx.out x.w (HWd.out x))
   haveI inst:Nonempty (Wd (Below V.heap.size V)):=⟨⟨V,Below.refl _ _⟩⟩
   have hwr:IntKind.i64.wrap (fz+s)=fz+s:=by rw [IntKind.wrap_i64];omega
   by_cases hx:uc<fz+s
   ·have HNx:Hid (false=fb):=HNo.out k hlt (by rw [HFk.out];omega);clear HNo HYs HFt HFk HR HT HLo HTx;refine wp_region_in (Below V.heap.size V) (by kernel_rfl) (by kernel_rfl) ((Below.refl _ _).drew) ?_
    repeat (first|go_big_quiet_step ((go_at_call 264;exact HTy.out _)))
    refine wpQuiet_nil ?_;rintro _ ⟨x,rfl⟩;have HX:Hid (Below w.heap.size w x.w):=HWd.out x;go_wp2
    go_ret
    exact ⟨ret_bool HNx.out,HX.out⟩
   ·have HNx:Hid (∀ j,j<k+1->ft1 t ev f c first j):=fun j hj=>by
     by_cases e:j=k
     ·subst e;rw [HFk.out];omega
     ·exact HQ.out.2 j (by omega)
    clear HNo HFt HFk HR HT HLo HTx;refine wp_region_in (Below V.heap.size V) (by kernel_rfl) (by kernel_rfl) ((Below.refl _ _).drew) ?_
    repeat (first|go_big_quiet_step ((go_at_call 264;exact HTy.out _)))
    refine wpQuiet_nil ?_;rintro _ ⟨x,rfl⟩;have HX:Hid (Below w.heap.size w x.w):=HWd.out x;go_wp2
    go_roundw
    case rel=>exact ⟨k+1,by omega,by go_num,HX.out,HNx.out⟩
    case measure=>simp [intOf];omega
  ·obtain rfl:k=B:=by omega
   have k0:¬ (k:Int)<(k:Int):=by omega
   have HNx:Hid (true=fb):=HYs.out HQ.out.2;go_wp2
   go_ret
   exact ⟨ret_bool HNx.out,HQ.out.1⟩
def frB (t:Tab) (ev:Option Int) (f:Int->Int->Int) (cl cyc:Int):Bool:=decide (0<=cl)&&decide (cl<=3)&&(decide (0<=tn ev cyc)&&decide (tn ev cyc<=65536)&&ftB t ev f cl.toNat (tn ev cyc))
theorem free_any {rb mb n:Nat} {t:Tab} {ev:Option Int} {f:Int->Int->Int} (cl cyc:Int) (w:World) (h:RAt w rb t ev mb n f) (hv:evOk ev) (hf:Few f) (ht:t.ok=true) :
  Calls Tryz.prog 159 #[.pointer (some ⟨rb,0,none⟩),.int .i64 cl,.int .i64 cyc] w fun e w'=>e=.returned (.bool (frB t ev f cl cyc))/\Below w.heap.size w w':=by
 have HN:Hid (∀ W,Below w.heap.size w W->Calls Tryz.prog 217 #[.pointer (some ⟨rb,0,none⟩)] W fun e w'=>e=.returned (.bool false)/\Below W.heap.size W w'):=fun W hb=>isNone_no W (h.up hb);have HR:Hid (∀ W,Below w.heap.size w W->RAt W rb t ev mb n f):=fun W hb=>h.up hb
 by_cases hc0:cl<0
 ·have hA:frB t ev f cl cyc=false:=by unfold frB;simp [show ¬ 0<=cl by omega]
  rw [hA];clear h hv hf hA;go_enter Tryz.func159,Tryz.ntmps159;go_wp2_with (first|(go_at_call 217;refine Calls.mono (HN.out _ (Below.refl _ _)) ?_;rintro e w1 ⟨rfl,b1⟩;have HB:Hid (Below w.heap.size w w1):=b1;clear b1 HN))
  go_ret
  exact ⟨rfl,HB.out⟩
 by_cases hc4:4<=cl
 ·have hA:frB t ev f cl cyc=false:=by unfold frB;simp [show ¬ cl<=3 by omega]
  rw [hA];clear h hv hf hA;go_enter Tryz.func159,Tryz.ntmps159;go_wp2_with (first|(go_at_call 217;refine Calls.mono (HN.out _ (Below.refl _ _)) ?_;rintro e w1 ⟨rfl,b1⟩;have HB:Hid (Below w.heap.size w w1):=b1;clear b1 HN))
  go_ret
  exact ⟨rfl,HB.out⟩
 ·obtain ⟨c,rfl⟩:∃ c:Nat,cl=c:=⟨cl.toNat,by omega⟩;have hA:frB t ev f (c:Int) cyc=(decide (0<=tn ev cyc)&&decide (tn ev cyc<=65536)&&ftB t ev f c (tn ev cyc)):=by
   unfold frB;rw [Int.toNat_natCast];simp [show (0:Int)<=(c:Int) by omega,show (c:Int)<=3 by omega]
  rw [hA];have hc:c<4:=by omega
  obtain ⟨p1,p2,p3⟩:=(Tb.ok_parts ht).2 c hc;have huu:=Tb.inB_iff p1;have hbb:=Tb.inB_iff p3;clear hA ht p1 p2 p3
  cases ev with
  | none=>
   have HT:Hid (∀ W,Calls Tryz.prog 216 #[.agg #[],.int .i64 cyc] W fun e w'=>e=.returned (.int .i64 (tn (none) cyc))/\Below W.heap.size W w'):=fun W=>row_any _ W;have HG:Hid (∀ W,Below w.heap.size w W->W.cell? ⟨rb,9,none⟩=some (.func (.func 216) #[.agg #[]] #[])):=fun W hb=>(h.up hb).fn;have HFi:Hid (∀ W,Below w.heap.size w W->0<=tn (none) cyc->tn (none) cyc<=65536->Calls Tryz.prog 218 #[.pointer (some ⟨rb,0,none⟩),.int .i64 (c:Int),.int .i64 (tn (none) cyc)] W fun e w'=>e=.returned (.bool (ftB t (none) f c (tn (none) cyc)))/\Below W.heap.size W w'):=fun W hb h0 h1=>fits_any c _ W (h.up hb) hv hc h0 h1 hbb hf huu;clear h hv hf;generalize ftB t (none) f c (tn (none) cyc)=fb at *;generalize tn (none) cyc=first at *
   by_cases h0:0<=first
   ·by_cases h1:first<=65536
    ·have HFx:Hid (∀ W,Below w.heap.size w W->Calls Tryz.prog 218 #[.pointer (some ⟨rb,0,none⟩),.int .i64 (c:Int),.int .i64 first] W fun e w'=>e=.returned (.bool fb)/\Below W.heap.size W w'):=fun W hb=>HFi.out W hb h0 h1;have hA:(decide (0<=first)&&decide (first<=65536)&&fb)=fb:=by simp [h0,h1]
     rw [hA];clear hA HFi;go_enter Tryz.func159,Tryz.ntmps159;go_wp2_with (first
      | (go_at_call 217;refine Calls.mono (HN.out _ (Below.refl _ _)) ?_;rintro e w1 ⟨rfl,b1⟩;have HB:Hid (Below w.heap.size w w1):=b1;have hg:=HG.out w1 b1;have hl:=(HR.out w1 b1).at'.lt;clear b1 HN HG)
      | (go_at_call 216;refine Calls.mono (HT.out _) ?_;rintro e w2 ⟨rfl,b2⟩;have HB2:Hid (Below w.heap.size w w2):=HB.out.trans (b2.mono HB.out.size);clear b2 HT hg hl)
      | (go_at_call 218;refine Calls.mono (HFx.out _ HB2.out) ?_;rintro e w3 ⟨rfl,b3⟩;have HB3:Hid (Below w.heap.size w w3):=HB2.out.trans (b3.mono HB2.out.size);clear b3 HFx))
     go_ret
     exact ⟨rfl,HB3.out⟩
    ·have hA:(decide (0<=first)&&decide (first<=65536)&&fb)=false:=by simp [h1]
     rw [hA];clear hA HFi;go_enter Tryz.func159,Tryz.ntmps159;go_wp2_with (first
      | (go_at_call 217;refine Calls.mono (HN.out _ (Below.refl _ _)) ?_;rintro e w1 ⟨rfl,b1⟩;have HB:Hid (Below w.heap.size w w1):=b1;have hg:=HG.out w1 b1;have hl:=(HR.out w1 b1).at'.lt;clear b1 HN HG)
      | (go_at_call 216;refine Calls.mono (HT.out _) ?_;rintro e w2 ⟨rfl,b2⟩;have HB2:Hid (Below w.heap.size w w2):=HB.out.trans (b2.mono HB.out.size);clear b2 HT hg hl))
     go_ret
     exact ⟨rfl,HB2.out⟩
   ·have hA:(decide (0<=first)&&decide (first<=65536)&&fb)=false:=by simp [h0]
    rw [hA];clear hA HFi;go_enter Tryz.func159,Tryz.ntmps159;go_wp2_with (first
     | (go_at_call 217;refine Calls.mono (HN.out _ (Below.refl _ _)) ?_;rintro e w1 ⟨rfl,b1⟩;have HB:Hid (Below w.heap.size w w1):=b1;have hg:=HG.out w1 b1;have hl:=(HR.out w1 b1).at'.lt;clear b1 HN HG)
     | (go_at_call 216;refine Calls.mono (HT.out _) ?_;rintro e w2 ⟨rfl,b2⟩;have HB2:Hid (Below w.heap.size w w2):=HB.out.trans (b2.mono HB.out.size);clear b2 HT hg hl))
    go_ret
    exact ⟨rfl,HB2.out⟩
  | some _=>exact hv.elim
end Go.Proofs.YtpdaknbmcpmhjaaGreatDoor.Rv
