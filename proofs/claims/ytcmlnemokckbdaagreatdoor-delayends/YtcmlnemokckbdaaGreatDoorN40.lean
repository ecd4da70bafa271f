/- Parts Dc. -/
import Derived.Test.YtcmlnemokckbdaaGreatDoorN39
set_option maxRecDepth 20000
namespace Go.Proofs.YtcmlnemokckbdaaGreatDoor.Dp
open Go.ChangeShapes Go.WideShapes Go.ChangeAt Go.RowKit
open YtcmlnemokckbdaaGreatDoor.Op YtcmlnemokckbdaaGreatDoor.So
open YtcmlnemokckbdaaGreatDoor.Al
open YtcmlnemokckbdaaGreatDoor.Tb (Tab TabAt Bnds)
def pairD (t:Tab) (a b:O) (i j:Nat) (d:Int) (meet:Bool):List Ed:=
 (if (wrB b&&saysB a (wrD b))=true then [⟨i,j,0,d,1⟩] else [])++((if (wrB b&&wq a (wrD b))=true then [⟨i,j,max 0 (latO t a-latO t b+1),d,2⟩] else [])++((if (meet&&(a.op==16 || b.op==16))=true then [⟨i,j,if a.op=16 then (if b.op=15 then t.l 2 else 1) else 0,d,3⟩] else [])++(if (ordB a.op&&ordB b.op)=true then [⟨i,j,1,d,4⟩] else [])))
def oneD (t:Tab) (xs:List O) (a b:O) (i j:Nat) (d:Int) (ar meet:Bool):List Ed:=
 (if flB xs b i j ar=true then [⟨i,j,latO t a,d,0⟩] else [])++pairD t a b i j d meet
structure Lo (o:O) (k:K):Prop where
 ok:o.Ok
 kd:kOf o.op=some k
 f:okF k o=true
theorem lo_of {o:O} (ho:o.Ok) (h:okL o=true):∃ k,Lo o k:=by
 have hO:=okL_okO h
 cases hk:kOf o.op with
 | none=>rw [okO_none hk] at hO;cases hO
 | some k=>exact ⟨k,ho,hk,by rw [okO_some hk] at hO;exact hO⟩
theorem Lo.pt {o:O} {k:K} (h:Lo o k) (t:Tab):ptL t o=ptOf t o k:=by unfold ptL;rw [h.kd]
theorem Lo.rd {o:O} {k:K} (h:Lo o k):rdN o=rcN k o:=by unfold rdN;rw [h.kd]
theorem Lo.wd {o:O} {k:K} (h:Lo o k) (hw:wrB o=true):wrD o=o.d/\0<=o.d/\o.d<=31:=by
 refine ⟨by unfold wrD;rw [if_pos hw],h.ok.d0,?_⟩;unfold wrB at hw;rw [h.kd] at hw;simp only [Bool.and_eq_true] at hw;exact (okF_regs hw.1).1 hw.2
theorem wq_iff {o:O} {k:K} (h:Lo o k) (d:Nat):wq o (d:Int)=true↔wrs o d:=by
 unfold wq wrs;rw [Bool.and_eq_true];constructor
 ·rintro ⟨h1,h2⟩;rw [(h.wd h1).1] at h2;exact ⟨h1,by simpa using h2⟩
 ·rintro ⟨h1,h2⟩;exact ⟨h1,by rw [(h.wd h1).1];simpa using h2⟩
theorem says_iff {o:O} {k:K} (h:Lo o k) (d:Nat):saysB o (d:Int)=true↔rds o k d:=by
 unfold saysB rds;rw [h.rd,List.any_eq_true];unfold rcN rf;constructor
 ·rintro ⟨j,hj,e⟩;rw [List.mem_range] at hj;have e:=eq_of_beq e
  cases hA:k.A
  ·rw [hA] at hj;simp at hj
  ·rw [hA] at hj;simp only [if_true] at hj
   by_cases h0:j=0
   ·rw [if_pos h0] at e;exact .inl ⟨rfl,e⟩
   ·rw [if_neg h0] at e
    right
    refine ⟨rfl,?_,e⟩
    cases hB:k.B
    ·rw [hB] at hj;simp at hj;omega
    ·rfl
 ·rintro (⟨hA,e⟩|⟨hA,hB,e⟩)
  ·refine ⟨0,?_,by simp [e]⟩;rw [hA];simp only [if_true];split <;> simp
  ·by_cases hab:o.a=o.b
   ·refine ⟨0,?_,by simp [hab,e]⟩;rw [hA];simp only [if_true];split <;> simp
   ·refine ⟨1,?_,by simp [e]⟩;rw [hA,hB];simp [hab]
theorem bool_iff {a b:Bool} (h:a=true↔b=true):a=b:=by cases a <;> cases b <;> simp_all
theorem row1_eq {a b:O} {ka kb:K} (ha:Lo a ka) (hb:Lo b kb) (t:Tab):(bits BinOp.and IntKind.u32 (ptOf t a ka).m (ptOf t b kb).w != 0)=(wrB b&&saysB a (wrD b)):=by
 refine bool_iff ?_;rw [(msk_m t a ka ha.ok ha.f).and (msk_w t b kb hb.ok hb.kd),Bool.and_eq_true];constructor
 ·rintro ⟨d,h1,h2,h3⟩;exact ⟨h2,by rw [(hb.wd h2).1,h3];exact (says_iff ha d).2 h1⟩
 ·rintro ⟨h2,h1⟩;obtain ⟨e,e0,-⟩:=hb.wd h2;obtain ⟨d,hd⟩:∃ d:Nat,b.d=d:=⟨b.d.toNat,by omega⟩;rw [e,hd] at h1;exact ⟨d,(says_iff ha d).1 h1,h2,hd⟩
theorem row2_eq {a b:O} {ka kb:K} (ha:Lo a ka) (hb:Lo b kb) (t:Tab):(bits BinOp.and IntKind.u32 (ptOf t a ka).w (ptOf t b kb).w != 0)=(wrB b&&wq a (wrD b)):=by
 refine bool_iff ?_;rw [(msk_w t a ka ha.ok ha.kd).and (msk_w t b kb hb.ok hb.kd),Bool.and_eq_true];constructor
 ·rintro ⟨d,h1,h2,h3⟩;exact ⟨h2,by rw [(hb.wd h2).1,h3];exact (wq_iff ha d).2 h1⟩
 ·rintro ⟨h2,h1⟩;obtain ⟨e,e0,-⟩:=hb.wd h2;obtain ⟨d,hd⟩:∃ d:Nat,b.d=d:=⟨b.d.toNat,by omega⟩;rw [e,hd] at h1;exact ⟨d,(wq_iff ha d).1 h1,h2,hd⟩
theorem row0_iff {a b:O} {ka kb:K} (ha:Lo a ka) (hb:Lo b kb) (t:Tab):(bits BinOp.and IntKind.u32 (ptOf t a ka).w (ptOf t b kb).m != 0)=true↔wrB a=true/\saysB b (wrD a)=true:=by
 rw [(msk_w t a ka ha.ok ha.kd).and (msk_m t b kb hb.ok hb.f)];constructor
 ·rintro ⟨d,⟨h2,h3⟩,h1⟩;exact ⟨h2,by rw [(ha.wd h2).1,h3];exact (says_iff hb d).2 h1⟩
 ·rintro ⟨h2,h1⟩;obtain ⟨e,e0,-⟩:=ha.wd h2;obtain ⟨d,hd⟩:∃ d:Nat,a.d=d:=⟨a.d.toNat,by omega⟩;rw [e,hd] at h1;exact ⟨d,⟨h2,hd⟩,(says_iff hb d).1 h1⟩
def wqN (xs:List O) (r:Int) (k:Nat):Bool:=match xs[k]? with|some o=>wq o r|none=>false
theorem wqN_at {xs:List O} {r:Int} {k:Nat} (h:k<xs.length):wqN xs r k=wq xs[k] r:=by unfold wqN;rw [List.getElem?_eq_getElem h]
theorem lastD_next (xs:List O) (r:Int) (n:Nat):lastD xs r (n+1)=if wqN xs r n=true then (n:Int) else lastD xs r n:=rfl
theorem lastD_is {xs:List O} {r:Int} : ∀ {n:Nat} {i:Nat},lastD xs r n=(i:Int)->i<n/\wqN xs r i=true
 | 0,i,h=>by have h:(-1:Int)=i:=h;omega
 | n+1,i,h=>by
  rw [lastD_next] at h
  split at h
  ·rename_i hw
   have:n=i:=by omega
   subst this;exact ⟨by omega,hw⟩
  ·obtain ⟨h1,h2⟩:=lastD_is h;exact ⟨by omega,h2⟩
theorem w_zero {o:O} {k:K} (h:Lo o k) (t:Tab):(ptOf t o k).w=0↔wrB o=false:=by
 show (if wrB o=true then sh o.d else 0)=0↔_
 cases hw:wrB o
 ·simp
 ·obtain ⟨-,h0,h1⟩:=h.wd hw;obtain ⟨d,hd⟩:∃ d:Nat,o.d=d:=⟨o.d.toNat,by omega⟩;rw [if_pos rfl,hd,sh_nat d (by omega)]
  have:0<2^d:=Nat.two_pow_pos d
  constructor
  ·intro h;omega
  ·intro h;cases h
theorem bec_at {o:O} {k:K} (h:Lo o k) (t:Tab) (L:Nat->Int) (v:Int) (r:Nat):bec L (ptOf t o k) v r=if wq o (r:Int)=true then v else L r:=by
 unfold bec
 cases hw:wrB o
 ·rw [if_pos ((w_zero h t).2 hw),if_neg];intro e;unfold wq at e;rw [hw] at e;cases e
 ·rw [if_neg fun e=>by rw [(w_zero h t).1 e] at hw;cases hw];obtain ⟨e,h0,h1⟩:=h.wd hw;unfold upd;have er:(ptOf t o k).r=wrD o:=rfl;rw [er,e]
  by_cases hr:wq o (r:Int)=true
  ·have:=((wq_iff h r).1 hr).2
   rw [if_pos (by omega),if_pos hr]
  ·rw [if_neg hr,if_neg];intro e2;exact hr ((wq_iff h r).2 ⟨hw,by omega⟩)
def Lall (xs:List O):Prop:=∀ o∈xs,o.Ok/\okL o=true
theorem Lall.lo {xs:List O} (h:Lall xs) {n:Nat} (hn:n<xs.length):∃ k,Lo xs[n] k:=lo_of (h _ (List.getElem_mem hn)).1 (h _ (List.getElem_mem hn)).2
theorem pAt_pts (t:Tab) {xs:List O} {n:Nat} (hn:n<xs.length):pAt (ptsL t xs) n=ptL t xs[n]:=by
 rw [pAt_at (by rw [ptsL_len];exact hn)];simp [ptsL]
theorem lastW_next {t:Tab} {xs:List O} (hA:Lall xs) {n:Nat} (hn:n<xs.length) (r:Nat):lastW (ptsL t xs) (n+1) r=if wqN xs r n=true then (n:Int) else lastW (ptsL t xs) n r:=by
 obtain ⟨k,hk⟩:=hA.lo hn;show bec (lastW (ptsL t xs) n) (pAt (ptsL t xs) n) n r=_;rw [pAt_pts t hn,hk.pt,bec_at hk,wqN_at hn]
theorem lastW_eq {t:Tab} {xs:List O} (hA:Lall xs) (r:Nat):∀ {n:Nat},n<=xs.length->∀ {k:Nat},k<n->wqN xs r k=true->lastW (ptsL t xs) n r=lastD xs r n
 | 0,_,k,hk,_=>by omega
 | n+1,hn,k,hk,hw=>by
  rw [lastW_next hA (by omega),lastD_next]
  by_cases e:k=n
  ·subst e;rw [if_pos hw,if_pos hw]
  ·rw [lastW_eq hA r (by omega) (k:=k) (by omega) hw]
theorem says_ex {o:O} {r:Int} (h:saysB o r=true):∃ k,k<rdN o/\rf o k=r:=by
 unfold saysB at h;rw [List.any_eq_true] at h;obtain ⟨k,hk,e⟩:=h;exact ⟨k,List.mem_range.1 hk,eq_of_beq e⟩
theorem fl_ex {xs:List O} {o:O} {i j:Nat} {ar:Bool} (h:flB xs o i j ar=true):∃ k,k<rdN o/\flT xs i j ar (rf o k)=true:=by
 unfold flB at h;rw [List.any_eq_true] at h;obtain ⟨k,hk,e⟩:=h;exact ⟨k,List.mem_range.1 hk,e⟩
theorem wq_reg {o:O} {k:K} (h:Lo o k) {r:Int} (hw:wq o r=true):wrB o=true/\wrD o=r/\∃ d:Nat,r=d:=by
 unfold wq at hw;rw [Bool.and_eq_true] at hw;have e:=eq_of_beq hw.2;obtain ⟨e1,e2,-⟩:=h.wd hw.1;exact ⟨hw.1,e,r.toNat,by omega⟩
theorem row0W {t:Tab} {xs:List O} (hA:Lall xs) {i j:Nat} (hij:i<j) (hj:j<xs.length) {ka kb:K} (ha:Lo (xs[i]'(by omega)) ka) (hb:Lo xs[j] kb) :
  ((bits BinOp.and IntKind.u32 (ptOf t (xs[i]'(by omega)) ka).w (ptOf t xs[j] kb).m != 0)&&(lastW (ptsL t xs) j (ptOf t (xs[i]'(by omega)) ka).r.toNat == (i:Int)))=flB xs xs[j] i j false:=by
 have hi:i<xs.length:=by omega
 have er:(ptOf t xs[i] ka).r=wrD xs[i]:=rfl;refine bool_iff ?_;rw [Bool.and_eq_true,row0_iff ha hb,er];constructor
 ·rintro ⟨⟨h1,h2⟩,h3⟩;obtain ⟨e1,e2,-⟩:=ha.wd h1;obtain ⟨d,hd⟩:∃ d:Nat,xs[i].d=d:=⟨xs[i].d.toNat,by omega⟩;rw [e1,hd] at h2 h3;have hw:wqN xs (d:Int) i=true:=by rw [wqN_at hi];exact (wq_iff ha d).2 ⟨h1,hd⟩
  have h3:=eq_of_beq h3;rw [Int.toNat_natCast,lastW_eq hA d (by omega) hij hw] at h3;obtain ⟨k,hk,e⟩:=says_ex h2;refine fl_yes hk ?_;rw [e];show (lastD xs (d:Int) j==(i:Int))=true;simpa using h3
 ·intro h;obtain ⟨k,hk,e⟩:=fl_ex h;have e:(lastD xs (rf xs[j] k) j==(i:Int))=true:=e;have e:=eq_of_beq e;obtain ⟨-,hw⟩:=lastD_is e;have hw2:=hw;rw [wqN_at hi] at hw2;obtain ⟨h1,h2,d,h3⟩:=wq_reg ha hw2;rw [h3] at e hw;refine ⟨⟨h1,by rw [h2];exact says_yes hk rfl⟩,?_⟩;rw [h2,h3,Int.toNat_natCast,lastW_eq hA d (by omega) hij hw,e];simp
theorem edL_rows (e:Ed) (a b:Pt) (lr i:Int) (meet:Bool):edL e (rowsP a b lr i meet)=(if ((bits BinOp.and IntKind.u32 a.w b.m != 0)&&(lr==i))=true then [⟨e.f,e.t,a.l,e.d,0⟩] else [])++((if (bits BinOp.and IntKind.u32 a.m b.w != 0)=true then [⟨e.f,e.t,0,e.d,1⟩] else [])++((if (bits BinOp.and IntKind.u32 a.w b.w != 0)=true then [⟨e.f,e.t,max 0 (a.l-b.l+1),e.d,2⟩] else [])++((if meet=true then [⟨e.f,e.t,memL a b,e.d,3⟩] else [])++(if (a.b&&b.b)=true then [⟨e.f,e.t,1,e.d,4⟩] else [])))):=by
 simp only [edL,rowsP,List.flatMap_cons,List.flatMap_nil,List.append_nil]
theorem pairE_D {t:Tab} {xs:List O} {i j:Nat} (hi:i<xs.length) (hj:j<xs.length) {ka kb:K} (ha:Lo xs[i] ka) (hb:Lo xs[j] kb) (L:Nat->Int) (d:Int) (ar meet:Bool) (hm:meet=true->pairB xs i j=true)
  (h0:((bits BinOp.and IntKind.u32 (ptOf t xs[i] ka).w (ptOf t xs[j] kb).m != 0)&&(L (ptOf t xs[i] ka).r.toNat == (i:Int)))=flB xs xs[j] i j ar) :
  pairE (ptsL t xs) L d meet i j=oneD t xs xs[i] xs[j] i j d ar meet:=by
 unfold pairE;rw [pAt_pts t hi,pAt_pts t hj,ha.pt,hb.pt,edL_rows,h0,row1_eq ha hb,row2_eq ha hb];unfold oneD pairD;have e1:(ptOf t xs[i] ka).l=latO t xs[i]:=rfl;have e2:(ptOf t xs[j] kb).l=latO t xs[j]:=rfl;have e3:(ptOf t xs[i] ka).b=ordB xs[i].op:=rfl;have e4:(ptOf t xs[j] kb).b=ordB xs[j].op:=rfl;rw [e1,e2,e3,e4]
 congr 3
 congr 1
 cases meet
 ·rfl
 ·have hp:=hm rfl;unfold pairB memB memO at hp;rw [atL_at hi,atL_at hj] at hp;simp only [Bool.and_eq_true,Bool.or_eq_true] at hp;obtain ⟨⟨⟨-,p1,-⟩,-,p2,-⟩,p3⟩:=hp;have p1:xs[i].op=15\/xs[i].op=16:=p1.imp eq_of_beq eq_of_beq;have p2:xs[j].op=15\/xs[j].op=16:=p2.imp eq_of_beq eq_of_beq;have hc:(true&&(xs[i].op==16 || xs[j].op==16))=true:=by simpa using p3
  rw [if_pos rfl,if_pos hc];have em:memL (ptOf t xs[i] ka) (ptOf t xs[j] kb)=if xs[i].op=15 then 0 else if xs[j].op=15 then latO t xs[i] else 1:=rfl;rw [em]
  congr 2
  rcases p1 with p1|p1
  ·rw [if_pos p1,if_neg (by omega)]
  ·rw [if_neg (by omega),if_pos p1];rcases p2 with p2|p2
   ·rw [if_pos p2,if_pos p2];unfold latO;rw [p1];rfl
   ·rw [if_neg (by omega),if_neg (by omega)]
def ofD (t:Tab) (xs:List O) (n:Nat):List Ed:=cat (fun j=>cat (fun i=>oneD t xs (atL xs i) (atL xs j) i j 0 false (meetB xs i j)) j) n
theorem ofD_eq (t:Tab) {xs:List O} (hA:Lall xs):ofE t xs=ofD t xs xs.length:=by
 refine cat_same fun j hj=>cat_same fun i hi=>?_;have hi':i<xs.length:=by omega
 obtain ⟨ka,ha⟩:=hA.lo hi';obtain ⟨kb,hb⟩:=hA.lo hj;rw [atL_at hi',atL_at hj];refine pairE_D hi' hj ha hb _ 0 false _ (fun h=>?_) (row0W hA hi hj ha hb);unfold meetB at h;simp only [Bool.and_eq_true] at h;exact h.1.2
end Go.Proofs.YtcmlnemokckbdaaGreatDoor.Dp
