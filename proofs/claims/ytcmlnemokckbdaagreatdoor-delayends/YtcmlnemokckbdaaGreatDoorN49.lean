/- Parts Cp Lk. -/
import Derived.Test.YtcmlnemokckbdaaGreatDoorN04
import Derived.Test.YtcmlnemokckbdaaGreatDoorN03
import Derived.Deep.AppendLies
import Derived.OwnWalk
import Derived.Deep.QuietTactic
import Derived.BigQuiet
set_option maxRecDepth 20000
set_option maxHeartbeats 1000000
namespace Go.Proofs.YtcmlnemokckbdaaGreatDoor.Op
open Go.ChangeShapes Go.WideShapes Go.ChangeAt Go.RowKit
theorem info60:(Tryz.prog.info? 60).map (fun i=>(i.zero,i.size,i.bytes))=some (some (.agg #[.int .i8 0,.int .u8 0,.int .u8 0,.int .u8 0,.int .i64 0]),5,16):=by kernel_rfl
theorem add_at (b f j:Nat):(⟨b,f,none⟩:Addr).add j=⟨b,f+j,none⟩:=by simp [Addr.add]
def ocells (xs:List O):List Value:=xs.flatMap fun o=>[.int .i8 o.op,.int .u8 o.d,.int .u8 o.a,.int .u8 o.b,.int .i64 o.im]
theorem ocells_len (xs:List O):(ocells xs).length=xs.length*5:=by
 induction xs with
 | nil=>rfl
 | cons o r ih=>unfold ocells at ih ⊢;rw [List.flatMap_cons,List.length_append,ih];simp;omega
theorem ocells_cons (o:O) (r:List O):ocells (o::r)=.int .i8 o.op :: .int .u8 o.d :: .int .u8 o.a :: .int .u8 o.b :: .int .i64 o.im::ocells r:=rfl
theorem ocells_get (xs:List O):∀ (i:Nat) (h:i<xs.length),(ocells xs)[i*5]?=some (.int .i8 xs[i].op)/\(ocells xs)[i*5+1]?=some (.int .u8 xs[i].d)/\(ocells xs)[i*5+2]?=some (.int .u8 xs[i].a)/\(ocells xs)[i*5+3]?=some (.int .u8 xs[i].b)/\(ocells xs)[i*5+4]?=some (.int .i64 xs[i].im):=by
 induction xs with
 | nil=>intro i h;simp at h
 | cons o r ih=>
  intro i h;rw [ocells_cons]
  cases i with
  | zero=>exact ⟨rfl,rfl,rfl,rfl,rfl⟩
  | succ i=>
   have:=ih i (by simpa using h)
   rw [show (i+1)*5=i*5+1+1+1+1+1 by omega];simpa using this
theorem ocells_one (xs:List O):∀ u,u∈ocells xs->u.oneCell'=true:=by
 intro u hu;obtain ⟨o,_,h⟩:=List.mem_flatMap.1 hu;simp at h
 rcases h with rfl|rfl|rfl|rfl|rfl <;> rfl
theorem ocells_at {w:World} {b f:Nat} (xs:List O) (h:∀ (i:Nat) (h:i<xs.length),OAt w b (f+i*5) xs[i]):∀ j u,(ocells xs)[j]?=some u->w.cell? ((⟨b,f,none⟩:Addr).add j)=some u:=by
 intro j u hu;have hj:j<(ocells xs).length:=by
  rcases Nat.lt_or_ge j (ocells xs).length with h' | h'
  ·exact h'
  ·rw [List.getElem?_eq_none h'] at hu;cases hu
 rw [ocells_len] at hj;have hi:j / 5<xs.length:=by omega
 obtain ⟨c0,c1,c2,c3,c4⟩:=h (j / 5) hi;obtain ⟨g0,g1,g2,g3,g4⟩:=ocells_get xs (j / 5) hi;have hq:j=j / 5*5+j%5:=by omega
 have hm:j%5=0\/j%5=1\/j%5=2\/j%5=3\/j%5=4:=by omega
 rw [add_at];generalize j / 5=q at *;rcases hm with hm|hm|hm|hm|hm
 ·obtain rfl:j=q*5:=by omega
  rw [g0] at hu;rw [<- hu];exact c0
 ·obtain rfl:j=q*5+1:=by omega
  rw [g1] at hu;rw [<- hu,<- Nat.add_assoc];exact c1
 ·obtain rfl:j=q*5+2:=by omega
  rw [g2] at hu;rw [<- hu,<- Nat.add_assoc];exact c2
 ·obtain rfl:j=q*5+3:=by omega
  rw [g3] at hu;rw [<- hu,<- Nat.add_assoc];exact c3
 ·obtain rfl:j=q*5+4:=by omega
  rw [g4] at hu;rw [<- hu,<- Nat.add_assoc];exact c4
theorem opsAt_row {w:World} {B c:Nat} {a:Option Addr} {xs:List O} (h:w.ownsRow B 60 5 (.slice a xs.length c) xs.length (ocells xs)) (hok:∀ o,o∈xs->o.Ok) (hl:xs.length<=8796093021952):OpsAt w a xs:=by
 refine ⟨hok,by omega,fun h0=>?_⟩;rcases h.2 with ⟨_,h1⟩|⟨g,cap,cur,h1,h2,h3,h4⟩
 ·omega
 ·injection h1 with e1 e2 e3
  subst e1;have hc:=h.cells (g:=g) rfl;refine ⟨g,0,rfl,(h.lt g rfl).2,fun i hi=>?_⟩;obtain ⟨g0,g1,g2,g3,g4⟩:=ocells_get xs i hi;have k:∀ j u,(ocells xs)[j]?=some u->w.cell? ⟨g,0+j,none⟩=some u:=fun j u hj=>by have:=hc j u hj;rw [add_at] at this;exact this
  exact ⟨k _ _ g0,k _ _ g1,k _ _ g2,k _ _ g3,k _ _ g4⟩
theorem grown_below {w w':World} {row:Option Nat} (h:w.grownBy w' row) (hr:∀ b,row=some b->w.heap.size<=b):Below w.heap.size w w':=
 ⟨h.os,h.tape,h.output,h.size,fun k hk=>h.block k hk fun e=>by have:=hr k e.symm;omega⟩
structure Mk (w w1:World) (n:Nat):Prop where
 own:w1.ownsRow w.heap.size 60 5 (.slice (some ⟨w.heap.size,0,none⟩) 0 (n+1)) 0 []
 grown:w.grownBy w1 none
theorem copiedOps_some (a:Addr) (cap:Nat) (xs:List O) (w:World) (hl:xs.length<=8796093021952) (hn:∀ j u,(ocells xs)[j]?=some u->w.cell? (a.add j)=some u) :
  Calls Tryz.prog 7 #[.slice (some a) xs.length cap] w fun e w'=>∃ a c,e=.returned (.slice a xs.length c)/\w'.ownsRow w.heap.size 60 5 (.slice a xs.length c) xs.length (ocells xs)/\Below w.heap.size w w':=by
 obtain ⟨i0,hi,hi2⟩:=Option.map_eq_some_iff.1 info60;simp only [Prod.mk.injEq] at hi2;obtain ⟨hz0,hz1,hz2⟩:=hi2;have HI:Hid (Tryz.prog.info? 60=some i0/\i0.zero=some (.agg #[.int .i8 0,.int .u8 0,.int .u8 0,.int .u8 0,.int .i64 0])/\i0.size=5/\i0.bytes=16):=⟨hi,hz0,hz1,hz2⟩;clear hi hz0 hz1 hz2;have HN:Hid _:=hn;clear hn;have hlz:(xs.length:Int)<=8796093021952:=by omega
 go_enter Tryz.func7,Tryz.ntmps7;go_wp2_with (first
  | (at_make;refine wpList_make_own _ rfl _ _ 22 rfl w.heap.size 60 i0 (.agg #[.int .i8 0,.int .u8 0,.int .u8 0,.int .u8 0,.int .i64 0]) 5 Tryz.underlying22 HI.out.1 HI.out.2.1 HI.out.2.2.1 .i64 .i64 _ (xs.length+1) rfl rfl (by omega) (by rw [HI.out.2.2.2];omega) (by unfold maxLen;omega) (Nat.le_refl _) ?_;intro w1 hown1 hgrow1;have HM:Hid (Mk w w1 xs.length):=⟨hown1,hgrow1⟩;clear hgrow1 hown1)
  | (at_builtin;refine wpList_append_own _ rfl (.tmp 8) (.tmp 9) 22 rfl w.heap.size 60 i0 (.agg #[.int .i8 0,.int .u8 0,.int .u8 0,.int .u8 0,.int .i64 0]) 5 16 Tryz.underlying22 HI.out.1 HI.out.2.1 HI.out.2.2.1 HI.out.2.2.2 rfl (by decide) _ _ _ rfl HM.out.own a xs.length cap (ocells xs) rfl (ocells_len xs) (fun j u hj=>HM.out.grown.cell (HN.out j u hj) (by simp)) (ocells_one xs) (by unfold maxLen;omega) (by omega) (by have:=HM.out.grown.size;omega) ?_;intro v' w2 hown2 hgrow2 hnil;have HF:Hid (w2.ownsRow w.heap.size 60 5 v' xs.length (ocells xs)/\w1.grownBy w2 (some w.heap.size)):=⟨by have:=hown2;simp only [Nat.zero_add,List.nil_append] at this;exact this,hgrow2⟩;clear hown2 hgrow2 hnil))
 go_ret
 obtain ⟨h1,h2⟩:=HF.out;have hb:Below w.heap.size w w2:=(grown_below HM.out.grown (fun b hb=>by cases hb)).grown h2 HM.out.grown.size (fun b hb=>by cases hb;exact Nat.le_refl _);rcases h1.2 with ⟨rfl,h0⟩|⟨g,c,cur,rfl,_⟩
 ·exact ⟨none,0,by rw [h0];rfl,by rw [h0] at h1 ⊢;exact h1,hb⟩
 ·exact ⟨_,_,rfl,h1,hb⟩
theorem copiedOps_none (cap:Nat) (w:World) :
  Calls Tryz.prog 7 #[.slice none 0 cap] w fun e w'=>∃ a c,e=.returned (.slice a 0 c)/\w'.ownsRow w.heap.size 60 5 (.slice a 0 c) 0 []/\Below w.heap.size w w':=by
 obtain ⟨i0,hi,hi2⟩:=Option.map_eq_some_iff.1 info60;simp only [Prod.mk.injEq] at hi2;obtain ⟨hz0,hz1,hz2⟩:=hi2;have HI:Hid (Tryz.prog.info? 60=some i0/\i0.zero=some (.agg #[.int .i8 0,.int .u8 0,.int .u8 0,.int .u8 0,.int .i64 0])/\i0.size=5/\i0.bytes=16):=⟨hi,hz0,hz1,hz2⟩;clear hi hz0 hz1 hz2;go_enter Tryz.func7,Tryz.ntmps7;go_wp2_with (first
  | (at_make;refine wpList_make_own _ rfl _ _ 22 rfl w.heap.size 60 i0 (.agg #[.int .i8 0,.int .u8 0,.int .u8 0,.int .u8 0,.int .i64 0]) 5 Tryz.underlying22 HI.out.1 HI.out.2.1 HI.out.2.2.1 .i64 .i64 _ 1 rfl rfl (by omega) (by rw [HI.out.2.2.2];omega) (by unfold maxLen;omega) (Nat.le_refl _) ?_;intro w1 hown1 hgrow1;have HM:Hid (Mk w w1 0):=⟨hown1,hgrow1⟩;clear hgrow1 hown1))
 go_ret
 exact ⟨_,_,rfl,HM.out.own,grown_below HM.out.grown (fun b hb=>by cases hb)⟩
theorem copiedOps_any (ao:Option Addr) (cap:Nat) (xs:List O) (w:World) (h:OpsAt w ao xs) (hl:xs.length<=8796093021952) :
  Calls Tryz.prog 7 #[.slice ao xs.length cap] w fun e w'=>∃ a c,e=.returned (.slice a xs.length c)/\w'.ownsRow w.heap.size 60 5 (.slice a xs.length c) xs.length (ocells xs)/\Below w.heap.size w w':=by
 rcases Nat.eq_zero_or_pos xs.length with h0|h0
 ·obtain rfl:xs=[]:=List.eq_nil_of_length_eq_zero h0
  cases ao with
  | none=>exact copiedOps_none cap w
  | some a=>exact copiedOps_some a cap [] w hl fun j u hu=>by simp [ocells] at hu
 ·obtain ⟨b,f,rfl,_,hx⟩:=h.is h0;exact copiedOps_some _ cap xs w hl (ocells_at xs hx)
theorem drewN_lk {B:Nat} {a w:World} (h:Below B a w) (n:Nat):Below B a (w.drewN n):=⟨h.os,h.tape,h.output,h.size,h.block⟩
theorem likeOps_any (ao bo:Option Addr) (c d:Nat) (xs:List O) (w:World) (h:OpsAt w ao xs) (h':OpsAt w bo xs) :
  Calls Tryz.prog 10 #[.slice ao xs.length c,.slice bo xs.length d] w fun e w'=>e=.returned (.bool true)/\Below w.heap.size w w':=by
 have HA:Hid (OpsAt w ao xs):=h;have HB:Hid (OpsAt w bo xs):=h';have hlen:=h.len;clear h h';go_enter Tryz.func10,Tryz.ntmps10;go_wp2
 go_loopw [5] (fun i wr=>∃ k:Nat,k<=xs.length/\i=.int .i64 k/\Below w.heap.size w wr) (fun i _=>xs.length-(intOf i).toNat)
 case atStart=>exact ⟨0,by omega,rfl,Below.refl _ _⟩
 case round=>
  rename World=>wr;obtain ⟨k,hk,rfl,hbw⟩:=hrel
  by_cases hlt:k<xs.length
  ·obtain ⟨b,f,rfl,hz,hx⟩:=HA.out.is (by omega);obtain ⟨b',f',rfl,hz',hx'⟩:=HB.out.is (by omega);obtain ⟨c0,c1,c2,c3,c4⟩:=(hx k hlt).below hbw hz;obtain ⟨d0,d1,d2,d3,d4⟩:=(hx' k hlt).below hbw hz';clear hx hx' HA HB;generalize xs[k]=o at *;go_wp2
   go_quiet (fail)
   go_wp2
   go_roundw
   case rel=>exact ⟨k+1,by omega,by go_num,drewN_lk hbw nq⟩
   case measure=>simp [intOf];omega
  ·obtain rfl:k=xs.length:=by omega
   go_wp2
   go_ret
   exact ⟨rfl,hbw⟩
end Go.Proofs.YtcmlnemokckbdaaGreatDoor.Op
