/- Parts Da. -/
import Derived.Test.YtcmlnemokckbdaaGreatDoorN13
import Derived.Deep.OwnRows
import Derived.BigQuiet
set_option maxRecDepth 20000
set_option maxHeartbeats 4000000
namespace Go.Proofs.YtcmlnemokckbdaaGreatDoor.Dp
open Go.ChangeShapes Go.WideShapes Go.ChangeAt Go.RowKit
open YtcmlnemokckbdaaGreatDoor.Op YtcmlnemokckbdaaGreatDoor.So
open YtcmlnemokckbdaaGreatDoor.Tb (Tab TabAt Bnds)
def wq (o:O) (r:Int):Bool:=wrB o&&(wrD o==r)
theorem writes_any (o:O) (r:Int) (w:World) (ho:o.Ok):Calls Tryz.prog 132 #[o.val,.int .u8 r] w fun e w'=>e=.returned (.bool (wq o r))/\Below w.heap.size w w':=by
 have HW:Hid (∀ W,Calls Tryz.prog 36 #[o.val] W fun e w'=>e=.returned (.tuple #[.int .u8 (wrD o),.bool (wrB o)])/\Below W.heap.size W w'):=fun W=>refWrites_any o W ho;unfold wq;generalize wrD o=d at *
 cases hb:wrB o
 ·rw [hb] at HW;clear hb ho;go_enter Tryz.func132,Tryz.ntmps132;go_wp2_with (first|(go_at_call 36;refine Calls.mono (HW.out _) ?_;rintro e w1 ⟨rfl,b1⟩;have HB:Hid (Below w.heap.size w w1):=Below.trans (by go_grown) (b1.mono (by simp));clear b1 HW))
  go_ret
  exact ⟨rfl,HB.out⟩
 ·rw [hb] at HW;clear hb ho;go_enter Tryz.func132,Tryz.ntmps132;go_wp2_with (first|(go_at_call 36;refine Calls.mono (HW.out _) ?_;rintro e w1 ⟨rfl,b1⟩;have HB:Hid (Below w.heap.size w w1):=Below.trans (by go_grown) (b1.mono (by simp));clear b1 HW))
  go_ret
  exact ⟨ret_bool (by simp),HB.out⟩
theorem effect_any (o:O) (w:World):Calls Tryz.prog 133 #[o.val] w fun e w'=>e=.returned (.bool (ordB o.op))/\Below w.heap.size w w':=by
 unfold ordB
 by_cases h1:o.op=17
 ·go_enter Tryz.func133,Tryz.ntmps133;go_wp2_with fail
  go_ret
  exact ⟨ret_bool (by simp [h1]),by go_grown⟩
 ·by_cases h2:o.op=13
  ·go_enter Tryz.func133,Tryz.ntmps133;go_wp2_with fail
   go_ret
   exact ⟨ret_bool (by simp [h2]),by go_grown⟩
  ·go_enter Tryz.func133,Tryz.ntmps133;go_wp2_with fail
   go_ret
   exact ⟨ret_bool (by simp),by go_grown⟩
def latO (t:Tab) (o:O):Int:=t.l (clV o.op).toNat
theorem lat_any (o:O) (t:Tab) (w:World):Calls Tryz.prog 96 #[o.val,t.val] w fun e w'=>e=.returned (.int .i64 (latO t o))/\Below w.heap.size w w':=by
 have HC:Hid (∀ W,Calls Tryz.prog 48 #[.int .i8 o.op] W fun e w'=>e=.returned (.tuple #[.int .i64 (clV o.op),.bool (clB o.op)])/\Below W.heap.size W w'):=fun W=>refClass_any o.op W;have hc:=clV_in o.op;unfold latO;generalize clV o.op=c at *;generalize clB o.op=bb at *;obtain ⟨c,rfl⟩:∃ n:Nat,c=n:=⟨c.toNat,by omega⟩;have c0:(0:Int)<=(c:Int):=by omega
 have c1:(c:Int)<4:=by omega
 have c2:c<4:=by omega
 rw [Int.toNat_natCast];clear hc;have HT:Hid (∀ o5:Array Value,TabAt ((w.alloc (.cells o5 60)).alloc (.cells t.cells 28)) (w.heap.size+1) t):=fun o5=>by
  have h:=Tb.tabAt_new (w.alloc (.cells o5 60)) t 28;rw [show (w.alloc (.cells o5 60)).heap.size=w.heap.size+1 by simp] at h;exact h
 unfold Tab.val;go_enter Tryz.func96,Tryz.ntmps96;go_wp2_with (first|(go_at_call 48;refine Calls.mono (HC.out _) ?_;rintro e w1 ⟨rfl,b1⟩;have HB:Hid (Below w.heap.size w w1/\TabAt w1 (w.heap.size+1) t):=⟨Below.trans (by go_grown) (b1.mono (by simp;omega)),(HT.out _).below b1 (HT.out _).lt⟩;clear b1 HC HT;have tc:=HB.out.2.cl c c2;have tz:=HB.out.2.lt))
 go_ret
 exact ⟨rfl,HB.out.1⟩
def lastD (xs:List O) (r:Int):Nat->Int
 | 0=>-1
 | n+1=>if (match xs[n]? with|some o=>wq o r|none=>false) then (n:Int) else lastD xs r n
theorem last_any (ao:Option Addr) (cap:Nat) (xs:List O) (n:Nat) (r:Int) (w:World) (h:OpsAt w ao xs) (hn:n<=xs.length) :
  Calls Tryz.prog 130 #[.slice ao xs.length cap,.int .i64 n,.int .u8 r] w fun e w'=>e=.returned (.int .i64 (lastD xs r n))/\Below w.heap.size w w':=by
 have HWr:Hid (∀ o W,O.Ok o->Calls Tryz.prog 132 #[O.val o,.int .u8 r] W fun e w'=>e=.returned (.bool (wq o r))/\Below W.heap.size W w'):=fun o W ho=>writes_any o r W ho;have HO:Hid (OpsAt w ao xs):=h;have hlen:=h.len;clear h;obtain ⟨v,hv⟩:∃ v,lastD xs r n=v:=⟨_,rfl⟩;rw [hv];have HV:Hid (lastD xs r n=v):=hv;clear hv;go_enter Tryz.func130,Tryz.ntmps130;go_wp2_with fail
 go_loopw [7] (fun i wr=>∃ k:Nat,k<=n/\i=.int .i64 ((k:Int)-1)/\Below w.heap.size w wr/\lastD xs r k=v) (fun i _=>((intOf i)+1).toNat)
 case atStart=>exact ⟨n,Nat.le_refl _,by first|rfl|go_num,Below.refl _ _,HV.out⟩
 case round=>
  rename World=>wr;obtain ⟨k,hk,rfl,hbw,hd⟩:=hrel;have HB:Hid (Below w.heap.size w wr):=hbw;have HD:Hid (lastD xs r k=v):=hd;clear hbw hd HV
  by_cases hk0:k=0
  ·subst hk0;have k1:¬ (0:Int)<=((0:Nat):Int)-1:=by omega
   go_wp2_with fail
   go_ret
   exact ⟨ret_int HD.out,HB.out⟩
  ·obtain ⟨j,rfl⟩:∃ j,k=j+1:=⟨k-1,by omega⟩;have ej:((j+1:Nat):Int)-1=(j:Int):=by omega
   rw [ej];have j0:(0:Int)<=(j:Int):=by omega
   have hj:j<xs.length:=by omega
   have j1:(j:Int)<(xs.length:Int):=by omega
   obtain ⟨b,f,rfl,hz2,hx⟩:=(HO.out.below HB.out).is (by omega);obtain ⟨q0,q1,q2,q3,q4⟩:=hx j hj;have hOk:xs[j].Ok:=HO.out.ok _ (List.getElem_mem hj);have HD2:Hid ((if wq xs[j] r then (j:Int) else lastD xs r j)=v):=by
    have:=HD.out
    unfold lastD at this;rw [List.getElem?_eq_getElem hj] at this;exact this
   have HW1:Hid (∀ W,Calls Tryz.prog 132 #[xs[j].val,.int .u8 r] W fun e w'=>e=.returned (.bool (wq xs[j] r))/\Below W.heap.size W w'):=fun W=>HWr.out _ W hOk;clear hx HD hOk ej;generalize xs[j]=o at *
   cases hw:wq o r
   ·rw [hw] at HW1 HD2;go_wp2_with (first|(go_at_call 132;refine Calls.mono (HW1.out _) ?_;rintro e w2 ⟨rfl,b2⟩;have HB2:Hid (Below w.heap.size w w2):=HB.out.trans (b2.mono HB.out.size);clear b2 HW1))
    go_roundw
    case rel=>exact ⟨j,by omega,by first|rfl|go_num,HB2.out,HD2.out⟩
    case measure=>first|(simp [intOf];done)|(simp [intOf];omega)
   ·rw [hw] at HW1 HD2;go_wp2_with (first|(go_at_call 132;refine Calls.mono (HW1.out _) ?_;rintro e w2 ⟨rfl,b2⟩;have HB2:Hid (Below w.heap.size w w2):=HB.out.trans (b2.mono HB.out.size);clear b2 HW1))
    go_ret
    exact ⟨ret_int HD2.out,HB2.out⟩
def rdN (o:O):Nat:=match kOf o.op with|some k=>rcN k o|none=>0
theorem rdN_le (o:O):rdN o<=2:=by
 unfold rdN
 split
 ·unfold rcN
  split
  ·split <;> omega
  ·omega
 ·omega
theorem kind_BA:∀ n:Nat,n<=30->∀ k,kindL[n]?=some k->k.A=false->k.B=false:=by decide
theorem reads_ok (o:O) (w:World) (ho:o.Ok) (h:okL o=true):Calls Tryz.prog 129 #[o.val] w fun e w'=>∃ v,e=.returned v/\SlAt w' v (rdN o) (rf o)/\Below w.heap.size w w':=by
 have hO:=okL_okO h;simp only [okL,Bool.and_eq_true,decide_eq_true_eq] at h
 cases hk:kOf o.op with
 | none=>rw [okO_none hk] at hO;cases hO
 | some k=>
  have hf:okF k o=true:=by rw [okO_some hk] at hO;exact hO
  have e:rdN o=rcN k o:=by unfold rdN;rw [hk]
  rw [e];refine refReads_yes o k w ho hk hf ?_;have hk2:=hk;unfold kOf at hk2;rw [if_pos (by omega)] at hk2;exact kind_BA _ (by omega) k hk2
def saysB (o:O) (r:Int):Bool:=(List.range (rdN o)).any fun j=>rf o j==r
theorem says_no {o:O} {r:Int} (h:∀ j,j<rdN o->¬ rf o j=r):saysB o r=false:=by
 unfold saysB;rw [List.any_eq_false];intro j hj;simpa using h j (by simpa using hj)
theorem says_yes {o:O} {r:Int} {j:Nat} (hj:j<rdN o) (h:rf o j=r):saysB o r=true:=by
 unfold saysB;rw [List.any_eq_true];exact ⟨j,by simpa using hj,by simpa using h⟩
theorem says_any (o:O) (r:Int) (w:World) (ho:o.Ok) (hL:okL o=true):Calls Tryz.prog 131 #[o.val,.int .u8 r] w fun e w'=>e=.returned (.bool (saysB o r))/\Below w.heap.size w w':=by
 have HR:Hid (∀ W,Calls Tryz.prog 129 #[o.val] W fun e w'=>∃ a n c,e=.returned (.slice a n c)/\n=rdN o/\(∀ j,j<rdN o->∃ b,a=some ⟨b,0,none⟩/\b<w'.heap.size/\w'.cell? ⟨b,j,none⟩=some (.int .u8 (rf o j)))/\Below W.heap.size W w'):=fun W=>(reads_ok o W ho hL).mono fun e w' h=>by
  obtain ⟨v,rfl,hs,hb⟩:=h;rcases hs with ⟨h0,p,c,rfl⟩|⟨b,c,rfl,h1,h2⟩
  ·exact ⟨p,0,c,rfl,h0.symm,fun j hj=>by omega,hb⟩
  ·exact ⟨_,_,c,rfl,rfl,fun j hj=>⟨b,rfl,h1,h2 j hj⟩,hb⟩
 have h2:=rdN_le o;have HN:Hid ((∀ j,j<rdN o->¬ rf o j=r)->false=saysB o r):=fun h=>(says_no h).symm;have HYs:Hid (∀ j,j<rdN o->rf o j=r->true=saysB o r):=fun j hj h=>(says_yes hj h).symm;clear ho hL;generalize saysB o r=sb at *;generalize rdN o=N at *;go_enter Tryz.func131,Tryz.ntmps131;go_wp2_with (first|(go_at_call 129;refine Calls.mono (HR.out _) ?_;rintro e w1 ⟨a,n,c,rfl,hn,hc,b1⟩;have HB:Hid (n=N/\Below w.heap.size w w1/\(∀ j,j<N->∃ b,a=some ⟨b,0,none⟩/\b<w1.heap.size/\w1.cell? ⟨b,j,none⟩=some (.int .u8 (rf o j)))):=⟨hn,Below.trans (by go_grown) (b1.mono (by simp)),hc⟩;clear b1 hn hc HR))
 obtain rfl:=HB.out.1
 go_loopw [6] (fun i wr=>∃ k:Nat,k<=n/\i=.int .i64 k/\wr=w1/\∀ j,j<k->¬ rf o j=r) (fun i _=>n-(intOf i).toNat)
 case atStart=>exact ⟨0,by omega,rfl,rfl,fun j hj=>by omega⟩
 case round=>
  obtain ⟨k,hk,rfl,rfl,hno⟩:=hrel;have HNo:Hid (∀ j,j<k->¬ rf o j=r):=hno;clear hno
  by_cases hlt:k<n
  ·have k0:(0:Int)<=(k:Int):=by omega
   have k1:(k:Int)<(n:Int):=by omega
   obtain ⟨b,rfl,hb,hc⟩:=HB.out.2.2 k hlt
   by_cases he:rf o k=r
   ·have he2:(rf o k==r)=true:=by simpa using he
    have HS:Hid (true=sb):=HYs.out k hlt he;clear HN HYs;generalize rf o k=x at *;go_wp2_with fail
    go_ret
    exact ⟨ret_bool HS.out,HB.out.2.1⟩
   ·have he2:(rf o k==r)=false:=by simpa using he
    have HNx:Hid (∀ j,j<k+1->¬ rf o j=r):=fun j hj=>by
     by_cases e:j=k
     ·subst e;exact he
     ·exact HNo.out j (by omega)
    generalize rf o k=x at *;go_wp2_with fail
    go_roundw
    case rel=>exact ⟨k+1,by omega,by go_num,by first|rfl|trivial,HNx.out⟩
    case measure=>simp [intOf];omega
  ·have k1:¬ (k:Int)<(n:Int):=by omega
   have HS:Hid (false=sb):=HN.out fun j hj=>HNo.out j (by omega);go_wp2_with fail
   go_ret
   exact ⟨ret_bool HS.out,HB.out.2.1⟩
theorem right_any (ao:Option Addr) (cap:Nat) (xs:List O) (t:Tab) (w:World) (h:OpsAt w ao xs) :
  Calls Tryz.prog 94 #[.slice ao xs.length cap,t.val] w fun e w'=>e=.returned (.int .i64 (lisE t xs))/\Below w.heap.size w w':=by
 have HC:Hid (∀ W,Calls Tryz.prog 25 #[t.val] W fun e w'=>e=.returned (.int .i64 (Tb.ckR t))/\Below W.heap.size W w'):=fun W=>Tb.refCheck_any t W;have HO:Hid (OpsAt w ao xs):=h;have hlen:=h.len;have hdef:lisE t xs=if t.ok=false then 20 else if 1024<xs.length then 3 else if xs.all okL then 0 else 30:=rfl;rw [hdef];clear hdef h;have hck:Tb.ckR t=if t.ok then 0 else 20:=rfl;unfold Tab.val at *
 cases hok:t.ok
 ·rw [hok] at hck;have hck':Tb.ckR t=20:=hck;rw [hck'] at HC;rw [if_pos rfl];go_enter Tryz.func94,Tryz.ntmps94;go_wp2_with (first|(go_at_call 25;refine Calls.mono (HC.out _) ?_;rintro e w1 ⟨rfl,hb⟩;obtain ⟨-,hb0,hz⟩:=one_new w _ _ hb;have HB1:Hid (Below w.heap.size w w1):=hb0;clear hb hb0))
  go_ret
  exact ⟨rfl,HB1.out⟩
 ·rw [hok] at hck;have hck':Tb.ckR t=0:=hck;rw [hck'] at HC;rw [if_neg (by decide)]
  by_cases hl:1024<xs.length
  ·have hl':(1024:Int)<(xs.length:Int):=by omega
   rw [if_pos hl];go_enter Tryz.func94,Tryz.ntmps94;go_wp2_with (first|(go_at_call 25;refine Calls.mono (HC.out _) ?_;rintro e w1 ⟨rfl,hb⟩;obtain ⟨-,hb0,hz⟩:=one_new w _ _ hb;have HB1:Hid (Below w.heap.size w w1):=hb0;clear hb hb0))
   go_ret
   exact ⟨rfl,HB1.out⟩
  ·have hl':¬ (1024:Int)<(xs.length:Int):=by omega
   rw [if_neg hl];obtain ⟨v,hv⟩:∃ v:Int,(if xs.all okL then (0:Int) else 30)=v:=⟨_,rfl⟩;rw [hv];have HV0:Hid (xs.all okL=true->0=v):=fun h=>by rw [<- hv,h];rfl
   have HV1:Hid (xs.all okL=false->30=v):=fun h=>by rw [<- hv,h];rfl
   clear hv;go_enter Tryz.func94,Tryz.ntmps94;go_wp2_with (first|(go_at_call 25;refine Calls.mono (HC.out _) ?_;rintro e w1 ⟨rfl,hb⟩;obtain ⟨-,hb0,hz⟩:=one_new w _ _ hb;have HB1:Hid (Below w.heap.size w w1):=hb0;clear hb hb0))
   go_loopw [6] (fun i wr=>∃ k:Nat,k<=xs.length/\i=.int .i64 k/\Below w.heap.size w wr/\(xs.take k).all okL=true) (fun i _=>xs.length-(intOf i).toNat)
   case atStart=>exact ⟨0,by omega,rfl,HB1.out,by simp⟩
   case round=>
    rename World=>wr;obtain ⟨k,hk,rfl,hbw,hall⟩:=hrel;have HB2:Hid (Below w.heap.size w wr):=hbw;have HAl:Hid ((xs.take k).all okL=true):=hall;clear hbw HB1 hall
    by_cases hlt:k<xs.length
    ·have k0:(0:Int)<=(k:Int):=by omega
     have k1:(k:Int)<(xs.length:Int):=by omega
     obtain ⟨b,f,rfl,hz2,hx⟩:=(HO.out.below HB2.out).is (by omega);obtain ⟨q0,q1,q2,q3,q4⟩:=hx k hlt;have HN:Hid ((xs.take (k+1)).all okL=okL xs[k]):=by show (xs.take (k+1)).all okL=okL xs[k];rw [all_take hlt,HAl.out,Bool.true_and]
     have HT:Hid (okL xs[k]=false->xs.all okL=false):=all_no hlt;have hOk:xs[k].Ok:=HO.out.ok _ (List.getElem_mem hlt);clear hx HAl;generalize xs[k]=o at *;have HCk:Hid (∀ W,Calls Tryz.prog 67 #[o.val] W fun e w'=>e=.returned (.int .i64 (ckE o))/\Below W.heap.size W w'):=fun W=>Op.refCheck_any o W hOk;clear hOk
     by_cases h1:o.op<1
     ·go_wp2_with fail
      go_ret
      exact ⟨ret_int (HV1.out (HT.out (by simp [okL];omega))),HB2.out⟩
     ·by_cases h2:17<o.op
      ·go_wp2_with fail
       go_ret
       exact ⟨ret_int (HV1.out (HT.out (by simp [okL];omega))),HB2.out⟩
      ·have e1:okL o=okO o:=by
        have:decide (1<=o.op)=true:=by simp;omega
        have h4:decide (o.op<=17)=true:=by simp;omega
        unfold okL;rw [this,h4];rfl
       rw [e1] at HN HT;clear e1
       cases hoo:okO o
       ·rw [show ckE o=30 by simp [ckE,hoo]] at HCk;go_wp2_with (first|(go_at_call 67;refine Calls.mono (HCk.out _) ?_;rintro e w2 ⟨rfl,hb⟩;have HB3:Hid (Below w.heap.size w w2):=HB2.out.trans (hb.mono HB2.out.size);clear hb))
        go_ret
        exact ⟨ret_int (HV1.out (HT.out hoo)),HB3.out⟩
       ·rw [show ckE o=0 by simp [ckE,hoo]] at HCk;go_wp2_with (first|(go_at_call 67;refine Calls.mono (HCk.out _) ?_;rintro e w2 ⟨rfl,hb⟩;have HB3:Hid (Below w.heap.size w w2):=HB2.out.trans (hb.mono HB2.out.size);clear hb))
        go_roundw
        case rel=>exact ⟨k+1,by omega,by go_num,HB3.out,by rw [HN.out,hoo]⟩
        case measure=>simp [intOf];omega
    ·have z2:¬ (k:Int)<(xs.length:Int):=by omega
     have HA2:Hid (xs.all okL=true):=by
      have h:=HAl.out;rw [List.take_of_length_le (by omega)] at h;exact h
     clear HAl;go_wp2_with fail
     go_ret
     exact ⟨ret_int (HV0.out HA2.out),HB2.out⟩
end Go.Proofs.YtcmlnemokckbdaaGreatDoor.Dp
