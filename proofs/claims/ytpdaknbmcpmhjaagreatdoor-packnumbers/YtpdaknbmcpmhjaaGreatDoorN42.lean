/- Parts Xb Xc Xd. -/
import Derived.Test.YtpdaknbmcpmhjaaGreatDoorN41
import Derived.Test.YtpdaknbmcpmhjaaGreatDoorN14
set_option maxRecDepth 20000
set_option maxHeartbeats 8000000
namespace Go.Proofs.YtpdaknbmcpmhjaaGreatDoor.Pk
open Go.ChangeShapes Go.WideShapes Go.ChangeAt Go.RowKit Go.Maps
open YtpdaknbmcpmhjaaGreatDoor.Op YtpdaknbmcpmhjaaGreatDoor.So YtpdaknbmcpmhjaaGreatDoor.Bu
open YtpdaknbmcpmhjaaGreatDoor.Tb (Tab TabAt Bnds)
open YtpdaknbmcpmhjaaGreatDoor.Ly (At.set At.fr drew_up Tg BsL TgB TgAt Tw tcells)
open YtpdaknbmcpmhjaaGreatDoor.Rv (I64 wf64i kl types_pos kl_inj kl_key zero3)
theorem law227:Keyed Tryz.prog 227:=Keyed.of_law (deep_law (m:=2) (by omega) (by kernel_rfl) (by kernel_rfl) (by kernel_rfl))
theorem kt227:Tryz.prog.keyType 227=true:=by kernel_rfl
theorem c227:Tryz.prog.cellsOf 227=2:=by kernel_rfl
theorem key227 {a b:Int} (ha:I64 a) (hb:I64 b):keyOf Tryz.prog 227 (.agg #[.int .i64 a,.int .i64 b])=some (kl a b):=by
 obtain ⟨m,hm⟩:=types_pos;have wa:=wf64i ha;have wb:=wf64i hb;unfold keyOf;simp only [Tryz.underlying227];rw [if_pos (by simp [kt227,Value.formed,Tryz.underlying227,c227]),hm];unfold Program.keyLits;simp only [Tryz.underlying227,Value.cells];rw [if_pos (by rw [c227];exact ⟨rfl,by simp⟩)];simp [Rv.c3,Program.keyLits,Tryz.underlying3,wa,wb,kl]
def plS (N:Nat->Nat):Nat->Nat
 | 0=>0
 | k+1=>plS N k+N k
def pl (N:Nat->Nat) (k j:Nat) (a b:Int):Int:=if 0<=a/\0<=b/\((a<(k:Int)/\b<(N a.toNat : Int))\/(a=(k:Int)/\b<(j:Int))) then (plS N a.toNat : Int)+b else 0
theorem pl_next (N:Nat->Nat) (k j:Nat) (a b:Int):pl N k (j+1) a b=if a=(k:Int)/\b=(j:Int) then ((plS N k+j:Nat):Int) else pl N k j a b:=by
 unfold pl
 by_cases h:a=(k:Int)/\b=(j:Int)
 ·rw [if_pos h];obtain ⟨rfl,rfl⟩:=h;rw [if_pos ⟨by omega,by omega,.inr ⟨rfl,by omega⟩⟩];simp
 ·rw [if_neg h]
  by_cases h2:0<=a/\0<=b/\((a<(k:Int)/\b<(N a.toNat : Int))\/(a=(k:Int)/\b<(j:Int)))
  ·rw [if_pos h2,if_pos (by omega)]
  ·rw [if_neg h2,if_neg (by omega)]
theorem pl_block (N:Nat->Nat) (k:Nat):pl N k (N k)=pl N (k+1) 0:=by
 funext a b
 unfold pl
 by_cases h:a=(k:Int)
 ·subst h;rw [Int.toNat_natCast]
  by_cases h2:0<=b/\b<(N k:Int)
  ·rw [if_pos (by omega),if_pos (by omega)]
  ·rw [if_neg (fun h=>h2 ⟨h.2.1,by rcases h.2.2 with h|h <;> omega⟩),if_neg (fun h=>h2 ⟨h.2.1,by rcases h.2.2 with h|h <;> omega⟩)]
 ·by_cases h2:0<=a/\0<=b/\a<(k:Int)/\b<(N a.toNat : Int)
  ·rw [if_pos (by omega),if_pos (by omega)]
  ·rw [if_neg (by omega),if_neg (by omega)]
structure Mq (W:World) (mb:Nat) (N:Nat->Nat) (k j:Nat):Prop where
 own:∃ D:DataW Unit,W.ownsMap Tryz.prog 227 (plainElem Tryz.prog 3) mb (plS N k+j) D/\Maps.size D=plS N k+j/\(∀ a b,I64 a->I64 b->D.atKey (kl a b) (.lit (.int .i64 0))=.lit (.int .i64 (pl N k j a b)))/\∀ a b,I64 a->I64 b->Maps.has D (kl a b)=true->a<(k:Int)\/(a=(k:Int)/\b<(j:Int))
theorem Mq.lt {W:World} {mb k j:Nat} {N:Nat->Nat} (h:Mq W mb N k j):mb<W.heap.size:=by
 obtain ⟨D,h,-⟩:=h.own;exact h.lt
theorem Mq.of_block {W W':World} {mb k j:Nat} {N:Nat->Nat} (h:Mq W mb N k j) (hb:W'.heap[mb]?=W.heap[mb]?):Mq W' mb N k j:=by
 obtain ⟨D,⟨es,clock,h1,h2,h3⟩,h4⟩:=h.own;exact ⟨D,⟨es,clock,by rw [hb];exact h1,h2,h3⟩,h4⟩
theorem Mq.below {W W':World} {mb k j B:Nat} {N:Nat->Nat} (h:Mq W mb N k j) (hb:Below B W W') (hB:mb<B):Mq W' mb N k j:=h.of_block (hb.block mb hB)
theorem Mq.made (W:World) (N:Nat->Nat):Mq (W.alloc (.map #[] 0)) W.heap.size N 0 0:=
 ⟨.map [],World.ownsMap_made W Tryz.prog 227 _,rfl,fun a b _ _=>by
  have:pl N 0 0 a b=0:=by unfold pl;rw [if_neg (by omega)]
  rw [this];rfl,fun _ _ _ _ h=>by cases h⟩
theorem Mq.block {W:World} {mb k:Nat} {N:Nat->Nat} (h:Mq W mb N k (N k)):Mq W mb N (k+1) 0:=by
 obtain ⟨D,h1,h2,h3,h4⟩:=h.own;refine ⟨D,h1,h2,fun a b ha hb=>by rw [h3 a b ha hb,pl_block],fun a b ha hb hh=>.inl ?_⟩
 have:=h4 a b ha hb hh
 omega
theorem Mq.look {W:World} {mb k j:Nat} {N:Nat->Nat} (h:Mq W mb N k j) {a b:Int} (ha:I64 a) (hb:I64 b):(Instr.lookup 221 (.map (some mb)) (.agg #[.int .i64 a,.int .i64 b]) false).run Tryz.prog W=.ok (.int .i64 (pl N k j a b)) W:=by
 obtain ⟨D,h1,-,h2,-⟩:=h.own;obtain ⟨c,hrun,hat,-⟩:=h1.lookup_int law227 Tryz.underlying221 Tryz.underlying3 (zero3 W) (key227 ha hb);rw [h2 a b ha hb] at hat
 injection hat with e
 injection e with _ e
 rw [e];exact hrun
theorem Mq.len {W:World} {mb k j:Nat} {N:Nat->Nat} (h:Mq W mb N k j) (ty:TypeId):(Builtin.len_ #[221] ty #[.map (some mb)]).run Tryz.prog W=.ok (.int .i64 ((plS N k:Int)+(j:Int))) W:=by
 obtain ⟨D,h1,h2,-,-⟩:=h.own;rw [<- Int.natCast_add,<- h2];exact h1.len Tryz.underlying221 ty
theorem Mq.put {W:World} {mb k j:Nat} {N:Nat->Nat} (h:Mq W mb N k j) (hk:k<=1000000) (hj:j<=1000000) (hs:plS N k+j<=1000000000):∃ W',(Instr.mapUpdate 221 (.map (some mb)) (.agg #[.int .i64 (k:Int),.int .i64 (j:Int)]) (.int .i64 ((plS N k:Int)+(j:Int)))).run Tryz.prog W=.ok () W'/\Fr (One mb) W W'/\Mq W' mb N k (j+1):=by
 rw [<- Int.natCast_add];obtain ⟨D,h1,h2,h3,h4⟩:=h.own;have ik:I64 (k:Int):=⟨by omega,by omega⟩;have ij:I64 (j:Int):=⟨by omega,by omega⟩;have ip:I64 ((plS N k+j:Nat):Int):=⟨by omega,by omega⟩;obtain ⟨W',h5,h6,h7⟩:=h1.update law227 Tryz.underlying221 (by unfold maxLen;omega) (key227 ik ij) (plainElem_int Tryz.underlying3 (wf64i ip));have hno:Maps.has D (kl (k:Int) (j:Int))=false:=by
  cases e:Maps.has D (kl (k:Int) (j:Int)) with
  | false=>rfl
  | true=>have:=h4 _ _ ik ij e;omega
 refine ⟨W',h5,⟨h7.os,h7.tape,h7.output,h7.size,fun q hq hx=>h7.block q hq fun e=>hx (by injection e)⟩,⟨_,h6,?_,fun a b ha hb=>?_,fun a b ha hb hh=>?_⟩⟩
 ·rw [size_put (h1.tidy law227),hno,h2];rfl
 ·rw [pl_next]
  by_cases e:a=(k:Int)/\b=(j:Int)
  ·obtain ⟨rfl,rfl⟩:=e;rw [if_pos ⟨rfl,rfl⟩,atKey_put_same h1.isMap (kl_key _ _)]
  ·rw [if_neg e,atKey_put_other (fun e2=>e (kl_inj ha hb ik ij e2)),h3 a b ha hb]
 ·by_cases e:a=(k:Int)/\b=(j:Int)
  ·omega
  ·rw [has_put_other (fun e2=>e (kl_inj ha hb ik ij e2))] at hh
   have:=h4 a b ha hb hh
   omega
def Rn (W:World) (ll n:Nat) (N:Nat->Nat):Prop:=ll<W.heap.size/\∀ i,i<n->∃ ab cb ta tn tc,W.cell? ⟨ll,i*2,none⟩=some (.slice ab (N i) cb)/\W.cell? ⟨ll,i*2+1,none⟩=some (.slice ta tn tc)
theorem plS_mono (N:Nat->Nat) {a b:Nat} (h:a<=b):plS N a<=plS N b:=by
 induction b with
 | zero=>
  obtain rfl:a=0:=by omega
  exact Nat.le_refl _
 | succ b ih=>
  by_cases e:a=b+1
  ·subst e;exact Nat.le_refl _
  ·have:=ih (by omega)
   show plS N a<=plS N b+N b;omega
theorem placesOf_any (ll n:Nat) (N:Nat->Nat) (w:World) (h:Rn w ll n N) (hn:n<=128) (hN:∀ i,i<n->N i<=1000000) (hs:plS N n<=1000000) :
  Calls Tryz.prog 140 #[.slice (some ⟨ll,0,none⟩) n n] w fun e w'=>e=.returned (.map (some w.heap.size))/\Mq w' w.heap.size N n 0/\Below w.heap.size w w':=by
 have hmm:=@run_makeMap Tryz.prog;have HR:Hid (Rn w ll n N):=h;have HM:Hid (Mq (w.alloc (.map #[] 0)) w.heap.size N 0 0/\Below w.heap.size w (w.alloc (.map #[] 0))):=⟨Mq.made w N,(Below.refl _ _).alloc (Nat.le_refl _) _⟩;clear h;go_enter Tryz.func140,Tryz.ntmps140;go_wp2_with fail
 clear hmm
 go_loopw [10] (fun v wr=>∃ k:Nat,k<=n/\v=.int .i64 k/\Hid (Mq wr w.heap.size N k 0/\Below w.heap.size w wr)) (fun v _=>n-(intOf v).toNat)
 case atStart=>exact ⟨0,by omega,rfl,HM⟩
 case round=>
  rename World=>wr;clear HM;obtain ⟨k,hk,rfl,HM⟩:=hrel
  by_cases hlt:k<n
  ·have k0:(0:Int)<=(k:Int):=by omega
   have k1:(k:Int)<(n:Int):=by omega
   obtain ⟨ab,cb,ta,tn,tc,c0,c1⟩:=HR.out.2 k hlt;have d0:wr.cell? ⟨ll,k*2,none⟩=some (.slice ab (N k) cb):=by rw [(bcell HM.out.2).1 _ _ HR.out.1];exact c0
   have d1:wr.cell? ⟨ll,k*2+1,none⟩=some (.slice ta tn tc):=by rw [(bcell HM.out.2).1 _ _ HR.out.1];exact c1
   have dl:ll<wr.heap.size:=Nat.lt_of_lt_of_le HR.out.1 HM.out.2.size;have hNk:=hN k hlt;have hsk:plS N k+N k<=1000000:=Nat.le_trans (plS_mono N (show k+1<=n by omega)) hs;have HM2:Hid (Mq (wr.alloc (.cells #[.slice ab (N k) cb,.slice ta tn tc] 217)) w.heap.size N k 0/\Below w.heap.size w (wr.alloc (.cells #[.slice ab (N k) cb,.slice ta tn tc] 217))):=by
    have g:Below wr.heap.size wr (wr.alloc (.cells #[.slice ab (N k) cb,.slice ta tn tc] 217)):=(Below.refl _ _).alloc (Nat.le_refl _) _;exact ⟨HM.out.1.below g HM.out.1.lt,HM.out.2.trans (g.mono HM.out.2.size)⟩
   clear c0 c1;generalize hm:N k=m at *;have HMm:Hid (N k=m):=hm;clear hm;go_wp2_with fail
   clear d0 d1 dl HM;generalize (wr.alloc (.cells #[.slice ab m cb,.slice ta tn tc] 217))=X at *
   go_loopw [18] (fun v wz=>∃ j:Nat,j<=m/\v=.int .i64 j/\Hid (Mq wz w.heap.size N k j/\Below w.heap.size w wz)) (fun v _=>m-(intOf v).toNat)
   case atStart=>exact ⟨0,by omega,rfl,HM2⟩
   case round=>
    rename World=>wz;clear HM2;obtain ⟨j,hj,rfl,HM⟩:=hrel
    by_cases hjl:j<m
    ·have j1:(j:Int)<(m:Int):=by omega
     have hlen:=fun ty=>HM.out.1.len ty;obtain ⟨W',hup,hfr,hmq⟩:=HM.out.1.put (by omega) (by omega) (by omega);have HM3:Hid (Mq W' w.heap.size N k (j+1)/\Below w.heap.size w W'):=⟨hmq,HM.out.2.trans (hfr.below HM.out.2.size fun q hq e=>by have e:q=w.heap.size:=e;omega)⟩;clear hmq hfr;go_wp2_with fail
     go_roundw
     case rel=>exact ⟨j+1,by omega,by go_num,HM3⟩
     case measure=>simp [intOf];omega
    ·obtain rfl:j=m:=by omega
     have j1:¬ (j:Int)<(j:Int):=by omega
     go_wp2_with fail
     go_roundw
     case rel=>
      have hb:=HM.out.1;rw [<- HMm.out] at hb;exact ⟨k+1,by omega,by go_num,hb.block,HM.out.2⟩
     case measure=>simp [intOf];omega
  ·obtain rfl:k=n:=by omega
   have k1:¬ (k:Int)<(k:Int):=by omega
   go_wp2_with fail
   go_ret
   exact ⟨rfl,HM.out.1,HM.out.2⟩
end Go.Proofs.YtpdaknbmcpmhjaaGreatDoor.Pk
namespace Go.Proofs.YtpdaknbmcpmhjaaGreatDoor.Pk
open Go.ChangeShapes Go.WideShapes Go.ChangeAt Go.RowKit
open YtpdaknbmcpmhjaaGreatDoor.Op YtpdaknbmcpmhjaaGreatDoor.So YtpdaknbmcpmhjaaGreatDoor.Bu
open YtpdaknbmcpmhjaaGreatDoor.Tb (Tab TabAt Bnds)
open YtpdaknbmcpmhjaaGreatDoor.Ly (At.set At.fr drew_up Tg BsL TgB TgAt Tw tcells)
open YtpdaknbmcpmhjaaGreatDoor.Rv (I64)
def noT (x:Int):Prop:=x=0\/x=6291521\/x=2065\/x=2068
theorem turns_no (x:Int) (h:noT x) (w:World):Calls Tryz.prog 204 #[.int .u64 x] w fun e w'=>e=.returned (.bool false)/\w'=w:=by
 obtain rfl|rfl|rfl|rfl:=h
 all_goals
  go_enter Tryz.func204,Tryz.ntmps204;go_wp2
  go_ret
  exact ⟨rfl,rfl⟩
theorem turns_yes (w:World):Calls Tryz.prog 204 #[.int .u64 2097170] w fun e w'=>e=.returned (.bool true)/\w'=w:=by
 go_enter Tryz.func204,Tryz.ntmps204;go_wp2
 go_ret
 exact ⟨rfl,rfl⟩
theorem target_one (blk:Int) (w:World):Calls Tryz.prog 205 #[.int .u64 2097170,.int .i64 blk] w fun e w'=>e=.returned (.agg #[.int .i64 1,.int .i64 0])/\Below w.heap.size w w':=by
 go_enter Tryz.func205,Tryz.ntmps205;go_wp2
 exact bodyPost_ret (v:=.agg #[.int .i64 1,.int .i64 0]) (by simp [results,Tryz.results205,go_sem]) rfl ⟨rfl,by go_grown⟩
theorem turnTo_same (b n mb kk:Nat) (N:Nat->Nat) (blk:Int) (ws:List Int) (w:World) (h:Wl w b n ws) (hm:Mq w mb N kk 0) (hp:pl N kk 0 1 0=1) (hn:n<=1000000000) (hall:∀ i,i<n->ws.getD i 0=2097170\/noT (ws.getD i 0)) :
  Calls Tryz.prog 142 #[.slice (some ⟨b,0,none⟩) n n,.int .i64 blk,.map (some mb)] w fun e w'=>e=.returned (.tuple #[])/\Below w.heap.size w w':=by
 have HW:Hid (Wl w b n ws):=h;have HM:Hid (Mq w mb N kk 0):=hm;have HT:Hid (∀ W,Calls Tryz.prog 204 #[.int .u64 2097170] W fun e w'=>e=.returned (.bool true)/\w'=W):=turns_yes;have HG:Hid (∀ W,Calls Tryz.prog 205 #[.int .u64 2097170,.int .i64 blk] W fun e w'=>e=.returned (.agg #[.int .i64 1,.int .i64 0])/\Below W.heap.size W w'):=target_one blk;have HPl:Hid (pl N kk 0 1 0=1):=hp;clear h hm hp;go_enter Tryz.func142,Tryz.ntmps142;go_wp2_with fail
 go_loopw [11] (fun v wr=>∃ i:Nat,i<=n/\v=.int .i64 i/\Hid (Below w.heap.size w wr)) (fun v _=>n-(intOf v).toNat)
 case atStart=>exact ⟨0,by omega,rfl,Below.refl _ _⟩
 case round=>
  rename World=>wr;obtain ⟨i,hi,rfl,HB⟩:=hrel
  by_cases hlt:i<n
  ·have i0:(0:Int)<=(i:Int):=by omega
   have i1:(i:Int)<(n:Int):=by omega
   have w2:=HW.out.up HB.out;have c0:=w2.c i hlt;have cf:=w2.f i;have cl:=w2.lt;have ha:=hall i hlt;clear w2;generalize ws.getD i 0=x at *;obtain rfl|hno:=ha
   ·go_wp2_with (first
     | (go_at_call 204;refine Calls.mono (HT.out _) ?_;rintro e w1 ⟨rfl,rfl⟩)
     | (go_at_call 205;refine Calls.mono (HG.out _) ?_;rintro e w2 ⟨rfl,hb⟩;have HB2:Hid (Below w.heap.size w w2):=HB.out.trans (hb.mono HB.out.size);have hlk:(Instr.lookup 221 (.map (some mb)) (.agg #[.int .i64 1,.int .i64 0]) false).run Tryz.prog w2=.ok (.int .i64 1) w2:=(by have:=(HM.out.below HB2.out HM.out.lt).look (a:=1) (b:=0) ⟨by decide,by decide⟩ ⟨by decide,by decide⟩;rw [HPl.out] at this;exact this);have w3:=HW.out.up HB2.out;have d0:w2.cell? ⟨b,i,none⟩=some (.int .u64 2097170):=(by rw [(bcell hb).1 _ _ cl];exact c0);have df:=w3.f i;have dl:=w3.lt;have ds:=same_set d0;clear hb w3 c0 cf cl))
    go_roundw
    case rel=>
     refine ⟨i+1,by omega,by go_num,?_⟩;rw [show bits BinOp.or IntKind.u64 (bits BinOp.andNot IntKind.u64 2097170 9007199252643840) 2097152=2097170 by decide +kernel,ds];exact HB2
    case measure=>simp [intOf];omega
   ·have HNo:Hid (∀ W,Calls Tryz.prog 204 #[.int .u64 x] W fun e w'=>e=.returned (.bool false)/\w'=W):=turns_no x hno;clear hno;go_wp2_with (first
     | (go_at_call 204;refine Calls.mono (HNo.out _) ?_;rintro e w1 ⟨rfl,rfl⟩))
    go_roundw
    case rel=>exact ⟨i+1,by omega,by go_num,HB⟩
    case measure=>simp [intOf];omega
  ·obtain rfl:i=n:=by omega
   have i1:¬ (i:Int)<(i:Int):=by omega
   go_wp2_with fail
   go_end0
   exact ⟨rfl,HB.out⟩
end Go.Proofs.YtpdaknbmcpmhjaaGreatDoor.Pk
namespace Go.Proofs.YtpdaknbmcpmhjaaGreatDoor.Pk
open Go.ChangeShapes Go.WideShapes Go.ChangeAt Go.RowKit
open YtpdaknbmcpmhjaaGreatDoor.Op YtpdaknbmcpmhjaaGreatDoor.So YtpdaknbmcpmhjaaGreatDoor.Bu
open YtpdaknbmcpmhjaaGreatDoor.Tb (Tab TabAt Bnds)
open YtpdaknbmcpmhjaaGreatDoor.Ly (At.set At.fr drew_up Tg BsL TgB TgAt Tw tcells wpList_append_any)
open YtpdaknbmcpmhjaaGreatDoor.Rv (I64)
theorem info282:(Tryz.prog.info? 282).map (fun i=>(i.zero,i.size,i.bytes))=some (some (.int .u64 0),1,8):=by kernel_rfl
theorem info68:(Tryz.prog.info? 68).map (fun i=>(i.zero,i.size,i.bytes))=some (some (.slice none 0 0),1,24):=by kernel_rfl
structure Jn (w W:World) (t:Tab) (kb n:Nat) (N:Nat->Nat) (vw vt vb:Value) (wl:List Int) (tn:Nat) (tv bg:List Value):Prop where
 u:Below w.heap.size w W
 tb:TabAt W w.heap.size t
 r:At W (w.heap.size+1) #[.slice none 0 0,.slice none 0 0,.slice none 0 0]
 m:Mq W (w.heap.size+2) N n 0
 q:At W kb #[vw,vt,vb]
 hk:w.heap.size+2<kb
 ow:W.ownsRow (kb+1) 282 1 vw wl.length (wl.map fun x=>.int .u64 x)
 ot:W.ownsRow (kb+1) 68 1 vt tn tv
 ob:W.ownsRow (kb+1) 3 1 vb bg.length bg
 d1:∀ b,vw.ownBlock=some b->vt.ownBlock≠some b
 d2:∀ b,vw.ownBlock=some b->vb.ownBlock≠some b
 d3:∀ b,vt.ownBlock=some b->vb.ownBlock≠some b
theorem tab_fr {X:Nat->Prop} {W W':World} {b:Nat} {t:Tab} (h:TabAt W b t) (g:Fr X W W') (hx:¬ X b):TabAt W' b t:=
 ⟨fun k hk=>by rw [g.cell h.lt hx];exact h.cu k hk,fun k hk=>by rw [g.cell h.lt hx];exact h.cl k hk,fun k hk=>by rw [g.cell h.lt hx];exact h.cb k hk,by rw [g.cell h.lt hx];exact h.cd,Nat.lt_of_lt_of_le h.lt g.size⟩
variable {w W W':World} {t:Tab} {kb n tn:Nat} {N:Nat->Nat} {vw vt vb:Value} {wl:List Int} {tv bg:List Value}
theorem Jn.up (h:Jn w W t kb n N vw vt vb wl tn tv bg) (g:Below W.heap.size W W'):Jn w W' t kb n N vw vt vb wl tn tv bg:=
 ⟨h.u.trans (g.mono h.u.size),tab_fr h.tb (Fr.of (X:=Non) g) (fun e=>e),At.fr h.r (Fr.of (X:=Non) g) (fun e=>e),h.m.below g h.m.lt,At.fr h.q (Fr.of (X:=Non) g) (fun e=>e),h.hk,row_up h.ow g,row_up h.ot g,row_up h.ob g,h.d1,h.d2,h.d3⟩
theorem Jn.fr (h:Jn w W t kb n N vw vt vb wl tn tv bg) {X:Nat->Prop} (g:Fr X W W') (hx:∀ b,b<kb->¬ X b):Below w.heap.size w W'/\TabAt W' w.heap.size t/\At W' (w.heap.size+1) #[.slice none 0 0,.slice none 0 0,.slice none 0 0]/\Mq W' (w.heap.size+2) N n 0:=by
 have:=h.hk
 exact ⟨h.u.trans (g.below h.u.size fun k hk=>hx k (by omega)),tab_fr h.tb g (hx _ (by omega)),At.fr h.r g (hx _ (by omega)),h.m.of_block (g.block _ h.m.lt (hx _ (by omega)))⟩
theorem fr_grown {W W':World} {o:Option Nat} (h:W.grownBy W' o):Fr (fun b=>o=some b) W W':=⟨h.os,h.tape,h.output,h.size,fun k hk hx=>h.block k hk fun e=>hx e.symm⟩
theorem fr_then {X:Nat->Prop} {W W':World} {b o:Nat} {v:Value} (h:Fr X W W'):Fr (fun k=>X k\/k=b) W (W'.setCell ⟨b,o,none⟩ v):=(h.mono fun _ _ hx=>.inl hx).setCell (.inr (.inr rfl)) _ _
theorem Jn.words (h:Jn w W t kb n N vw vt vb wl tn tv bg) {v':Value} {nw:List Int} {m:Nat} (hm:nw.length=m) (hg:W.grownBy W' vw.ownBlock) (ho:W'.ownsRow (kb+1) 282 1 v' (wl.length+m) (wl.map (fun x=>Value.int .u64 x)++nw.map (fun x=>.int .u64 x))) (hb:v'.ownBlock=vw.ownBlock\/v'.ownBlock=some W.heap.size) :
  At W' kb #[vw,vt,vb]/\Jn w (W'.setCell ⟨kb,0,none⟩ v') t kb n N v' vt vb (wl++nw) tn tv bg:=by
 have g:=fr_grown hg;have g2:=fr_then (b:=kb) (o:=0) (v:=v') g;have hlw:∀ b,vw.ownBlock=some b->kb+1<=b/\b<W.heap.size:=fun b e=>h.ow.lt b e;have hlt:∀ b,vt.ownBlock=some b->kb+1<=b/\b<W.heap.size:=fun b e=>h.ot.lt b e;have hlb:∀ b,vb.ownBlock=some b->kb+1<=b/\b<W.heap.size:=fun b e=>h.ob.lt b e;have q':At W' kb #[vw,vt,vb]:=At.fr h.q g fun e=>by have:=hlw kb e;omega
 obtain ⟨f1,f2,f3,f4⟩:=h.fr g2 fun b hb e=>by
  rcases e with e|e
  ·have:=hlw b e;omega
  ·omega
 have ho':(W'.setCell ⟨kb,0,none⟩ v').ownsRow (kb+1) 282 1 v' (wl.length+m) (wl.map (fun x=>Value.int .u64 x)++nw.map (fun x=>.int .u64 x)):=row_fr ho ((Fr.refl (One kb) W').setCell (.inr rfl) _ _) fun b e e2=>by
  have e2:b=kb:=e2
  have:=ho.lt b e
  omega
 refine ⟨q',f1,f2,f3,f4,At.set (k:=0) q' (by simp),h.hk,?_,?_,?_,?_,?_,h.d3⟩
 ·rw [List.length_append,hm,List.map_append];exact ho'
 ·exact row_fr h.ot g2 fun b e e2=>by
   rcases e2 with e2|e2
   ·exact h.d1 b e2 e
   ·have:=hlt b e;omega
 ·exact row_fr h.ob g2 fun b e e2=>by
   rcases e2 with e2|e2
   ·exact h.d2 b e2 e
   ·have:=hlb b e;omega
 ·intro b e e2;rcases hb with hb|hb
  ·exact h.d1 b (by rw [<- hb];exact e) e2
  ·rw [hb] at e;injection e with e;have:=hlt b e2;omega
 ·intro b e e2;rcases hb with hb|hb
  ·exact h.d2 b (by rw [<- hb];exact e) e2
  ·rw [hb] at e;injection e with e;have:=hlb b e2;omega
theorem Jn.tags (h:Jn w W t kb n N vw vt vb wl tn tv bg) {v':Value} {nw:List Value} {m:Nat} (hg:W.grownBy W' vt.ownBlock) (ho:W'.ownsRow (kb+1) 68 1 v' (tn+m) (tv++nw)) (hb:v'.ownBlock=vt.ownBlock\/v'.ownBlock=some W.heap.size) :
  At W' kb #[vw,vt,vb]/\Jn w (W'.setCell ⟨kb,1,none⟩ v') t kb n N vw v' vb wl (tn+m) (tv++nw) bg:=by
 have g:=fr_grown hg;have g2:=fr_then (b:=kb) (o:=1) (v:=v') g;have hlw:∀ b,vw.ownBlock=some b->kb+1<=b/\b<W.heap.size:=fun b e=>h.ow.lt b e;have hlt:∀ b,vt.ownBlock=some b->kb+1<=b/\b<W.heap.size:=fun b e=>h.ot.lt b e;have hlb:∀ b,vb.ownBlock=some b->kb+1<=b/\b<W.heap.size:=fun b e=>h.ob.lt b e;have q':At W' kb #[vw,vt,vb]:=At.fr h.q g fun e=>by have:=hlt kb e;omega
 obtain ⟨f1,f2,f3,f4⟩:=h.fr g2 fun b hb e=>by
  rcases e with e|e
  ·have:=hlt b e;omega
  ·omega
 have ho':(W'.setCell ⟨kb,1,none⟩ v').ownsRow (kb+1) 68 1 v' (tn+m) (tv++nw):=row_fr ho ((Fr.refl (One kb) W').setCell (.inr rfl) _ _) fun b e e2=>by
  have e2:b=kb:=e2
  have:=ho.lt b e
  omega
 refine ⟨q',f1,f2,f3,f4,At.set (k:=1) q' (by simp),h.hk,?_,ho',?_,?_,h.d2,?_⟩
 ·exact row_fr h.ow g2 fun b e e2=>by
   rcases e2 with e2|e2
   ·exact h.d1 b e e2
   ·have:=hlw b e;omega
 ·exact row_fr h.ob g2 fun b e e2=>by
   rcases e2 with e2|e2
   ·exact h.d3 b e2 e
   ·have:=hlb b e;omega
 ·intro b e e2;rcases hb with hb|hb
  ·exact h.d1 b e (by rw [<- hb];exact e2)
  ·rw [hb] at e2;injection e2 with e2;have:=hlw b e;omega
 ·intro b e e2;rcases hb with hb|hb
  ·exact h.d3 b (by rw [<- hb];exact e) e2
  ·rw [hb] at e;injection e with e;have:=hlb b e2;omega
theorem Jn.begins (h:Jn w W t kb n N vw vt vb wl tn tv bg) {v' x:Value} (hg:W.grownBy W' vb.ownBlock) (ho:W'.ownsRow (kb+1) 3 1 v' (bg.length+1) (bg++[x])) (hb:v'.ownBlock=vb.ownBlock\/v'.ownBlock=some W.heap.size) :
  At W' kb #[vw,vt,vb]/\Jn w (W'.setCell ⟨kb,2,none⟩ v') t kb n N vw vt v' wl tn tv (bg++[x]):=by
 have g:=fr_grown hg;have g2:=fr_then (b:=kb) (o:=2) (v:=v') g;have hlw:∀ b,vw.ownBlock=some b->kb+1<=b/\b<W.heap.size:=fun b e=>h.ow.lt b e;have hlt:∀ b,vt.ownBlock=some b->kb+1<=b/\b<W.heap.size:=fun b e=>h.ot.lt b e;have hlb:∀ b,vb.ownBlock=some b->kb+1<=b/\b<W.heap.size:=fun b e=>h.ob.lt b e;have q':At W' kb #[vw,vt,vb]:=At.fr h.q g fun e=>by have:=hlb kb e;omega
 obtain ⟨f1,f2,f3,f4⟩:=h.fr g2 fun b hb e=>by
  rcases e with e|e
  ·have:=hlb b e;omega
  ·omega
 have ho':(W'.setCell ⟨kb,2,none⟩ v').ownsRow (kb+1) 3 1 v' (bg.length+1) (bg++[x]):=row_fr ho ((Fr.refl (One kb) W').setCell (.inr rfl) _ _) fun b e e2=>by
  have e2:b=kb:=e2
  have:=ho.lt b e
  omega
 refine ⟨q',f1,f2,f3,f4,At.set (k:=2) q' (by simp),h.hk,?_,?_,?_,h.d1,?_,?_⟩
 ·exact row_fr h.ow g2 fun b e e2=>by
   rcases e2 with e2|e2
   ·exact h.d2 b e e2
   ·have:=hlw b e;omega
 ·exact row_fr h.ot g2 fun b e e2=>by
   rcases e2 with e2|e2
   ·exact h.d3 b e e2
   ·have:=hlt b e;omega
 ·rw [List.length_append];exact ho'
 ·intro b e e2;rcases hb with hb|hb
  ·exact h.d2 b e (by rw [<- hb];exact e2)
  ·rw [hb] at e2;injection e2 with e2;have:=hlw b e;omega
 ·intro b e e2;rcases hb with hb|hb
  ·exact h.d3 b e (by rw [<- hb];exact e2)
  ·rw [hb] at e2;injection e2 with e2;have:=hlt b e;omega
theorem rowLo {W:World} {B B' e s n:Nat} {v:Value} {xs:List Value} (h:W.ownsRow B e s v n xs) (hB:B'<=B):W.ownsRow B' e s v n xs:=⟨h.1,h.2.imp id fun ⟨g,cap,cur,h1,h2,h3⟩=>⟨g,cap,cur,h1,Nat.le_trans hB h2,h3⟩⟩
theorem addr0 (b n:Nat):(⟨b,0,none⟩:Addr).add n=⟨b,n,none⟩:=by
 unfold Addr.add
 split
 ·rename_i h;subst h;rfl
 ·simp
theorem row_slice {W:World} {B e s n:Nat} {v:Value} {xs:List Value} (h:W.ownsRow B e s v n xs):∃ ao c,v=.slice ao n c:=by
 obtain ⟨-,⟨h1,h2⟩|⟨g,cap,cur,h1,-⟩⟩:=h
 ·exact ⟨none,0,by rw [h1,h2]⟩
 ·exact ⟨_,cap,h1⟩
theorem tg_news {W:World} {a:Option Addr} {n:Nat} {tl:Nat->List Tg} (h:TgAt W a n tl):∃ nw:List Value,nw.length=n/\(a=none->n=0)/\(∀ u∈nw,u.oneCell'=true)/\(0<n->∃ tb,a=some ⟨tb,0,none⟩/\tb<W.heap.size/\∀ j u,nw[j]?=some u->W.cell? ⟨tb,j,none⟩=some u):=by
 by_cases h0:0<n
 ·obtain ⟨tb,rfl,hl,hx⟩:=h.is h0;have hch:∀ k,k<=n->∃ nw:List Value,nw.length=k/\(∀ u∈nw,u.oneCell'=true)/\∀ j u,nw[j]?=some u->W.cell? ⟨tb,j,none⟩=some u:=by
   intro k
   induction k with
   | zero=>exact fun _=>⟨[],rfl,fun u hu=>(by cases hu),fun j u hu=>by simp at hu⟩
   | succ k ih=>
    intro hk;obtain ⟨nw,h1,h2,h3⟩:=ih (by omega);obtain ⟨v,hv,htw⟩:=hx k (by omega);obtain ⟨va,vc,rfl,-⟩:=htw.is;refine ⟨nw++[.slice va (tl k).length vc],by simp [h1],fun u hu=>?_,fun j u hu=>?_⟩
    ·rcases List.mem_append.1 hu with hu|hu
     ·exact h2 u hu
     ·rw [List.mem_singleton.1 hu];rfl
    ·by_cases e:j=k
     ·subst e;rw [List.getElem?_append_right (by omega),h1] at hu;simp at hu
      rw [<- hu];exact hv
     ·have hj:j<nw.length:=by
       have hlt:=(List.getElem?_eq_some_iff.1 hu).1;simp at hlt
       omega
      rw [List.getElem?_append_left hj] at hu;exact h3 j u hu
  obtain ⟨nw,h1,h2,h3⟩:=hch n (Nat.le_refl _);exact ⟨nw,h1,fun e=>(by cases e),h2,fun _=>⟨tb,rfl,hl,h3⟩⟩
 ·obtain rfl:n=0:=by omega
  exact ⟨[],rfl,fun _=>rfl,fun u hu=>(by cases hu),fun h=>absurd h h0⟩
end Go.Proofs.YtpdaknbmcpmhjaaGreatDoor.Pk
