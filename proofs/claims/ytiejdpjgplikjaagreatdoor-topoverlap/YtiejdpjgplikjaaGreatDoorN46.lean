/- Parts Ta. -/
import Derived.Test.YtiejdpjgplikjaaGreatDoorN36
import Derived.Test.YtiejdpjgplikjaaGreatDoorN45
set_option maxRecDepth 20000
namespace Go.Proofs.YtiejdpjgplikjaaGreatDoor.Tp
open Go.ChangeShapes Go.WideShapes Go.ChangeAt Go.RowKit
open YtiejdpjgplikjaaGreatDoor.Op YtiejdpjgplikjaaGreatDoor.So YtiejdpjgplikjaaGreatDoor.Dp
open YtiejdpjgplikjaaGreatDoor.Bn (su su_le su_congr su_add su_zero cnt cnt_su su_swap rg round_le)
open YtiejdpjgplikjaaGreatDoor.Ls (clN clN_at clN_lt)
open YtiejdpjgplikjaaGreatDoor.Mo (kuB ku_su)
open YtiejdpjgplikjaaGreatDoor.Tb (Tab TabAt Bnds)
open YtiejdpjgplikjaaGreatDoor.R7.Sp (Pr)
open YtiejdpjgplikjaaGreatDoor.R7.Ro (rowP evR atc evR_succ mem_evR)
theorem range_cnt (p:Nat->Bool):∀ n,((List.range n).filter p).length=cnt p n
 | 0=>rfl
 | n+1=>by
  rw [List.range_succ,List.filter_append,List.length_append,range_cnt p n];show _=cnt p n+(if p n then 1 else 0)
  cases h:p n <;> simp [h]
theorem ev_su (L:Nat) (p:Pr->Bool):∀ n,((evR L n).filter p).length=su (fun r=>cnt (fun a=>p ((a:Int),(r:Int))) L) n
 | 0=>rfl
 | n+1=>by
  rw [evR_succ,List.filter_append,List.length_append,ev_su L p n];show _=su (fun r=>cnt (fun a=>p ((a:Int),(r:Int))) L) n+cnt (fun a=>p ((a:Int),(n:Int))) L;rw [<- range_cnt (fun a=>p ((a:Int),(n:Int))) L,List.filter_map,List.length_map];rfl
def qP (t:Tab) (xs:List O) (E:Int) (g:Nat->Int) (k:Nat) (y:Int) (x:Pr):Bool:=decide (clN xs x.1.toNat = k)&&decide (x.2*E+g x.1.toNat<=y/\y<x.2*E+g x.1.toNat + (t.b k).toNat)
def cvB (t:Tab) (xs:List O) (k j c:Nat) (x:Pr):Bool:=decide (clN xs x.1.toNat = k)&&decide (c<=j/\j<c+(t.b k).toNat)
theorem cover_le {t:Tab} {xs:List O} {g:Nat->Int} {E:Int} (ht:t.ok=true) (hE:1<=E) (hE2:E<=65536) (h:kuB t xs g E=true) (n k:Nat) (hk:k<4) (y:Int):((evR xs.length n).filter (qP t xs E g k y)).length<=(t.u k).toNat:=by
 rw [ev_su];refine Nat.le_trans ?_ (ku_su ht hE hE2 h k hk (y%E)).1;have e1:su (fun r=>cnt (fun a=>qP t xs E g k y ((a:Int),(r:Int))) xs.length) n=su (fun r=>su (fun a=>if qP t xs E g k y ((a:Int),(r:Int)) then 1 else 0) xs.length) n:=su_congr fun r _=>cnt_su _ _;rw [e1,su_swap (fun a r=>if qP t xs E g k y ((a:Int),(r:Int)) then 1 else 0) xs.length n];refine su_le fun a ha=>?_;rw [<- cnt_su (fun r=>qP t xs E g k y ((a:Int),(r:Int))) n];have hr:=round_le (E:=E) (x:=g a) (y:=y) (by omega) (t.b k).toNat n
 by_cases e:clN xs a=k
 ·rw [if_pos e];refine Nat.le_trans (Nat.le_of_eq ?_) hr;rw [cnt_su,cnt_su];refine su_congr fun r _=>?_;unfold qP;simp [e]
 ·rw [if_neg e];refine Nat.le_of_eq ?_;rw [cnt_su];refine (su_congr (g:=fun _=>0) fun r _=>?_).trans (su_zero n);unfold qP;simp [e]
theorem cnt_one1 {p:Nat->Bool} {z:Int} (h:∀ c,p c=true->(c:Int)=z):∀ n:Nat,cnt p n<=1/\(cnt p n=1->z<n)
 | 0=>⟨Nat.zero_le _,fun h=>by cases h⟩
 | n+1=>by
  obtain ⟨h1,h2⟩:=cnt_one1 h n;show cnt p n+(if p n then 1 else 0)<=1/\(cnt p n+(if p n then 1 else 0)=1->z<((n+1:Nat):Int))
  cases e:p n
  ·simp only [Bool.false_eq_true,if_false];exact ⟨by omega,fun q=>by have:=h2 (by omega);omega⟩
  ·have hz:=h n e;simp only [if_true]
   have:cnt p n≠1:=fun q=>by have:=h2 q;omega
   exact ⟨by omega,fun _=>by omega⟩
theorem rows_le (t:Tab) (xs:List O) (E:Int) (g:Nat->Int) (k j M:Nat):∀ ev:List Pr,su (fun c=>((rowP E g ev c).filter (cvB t xs k j c)).length) M<=(ev.filter (qP t xs E g k (j:Int))).length
 | []=>by
  refine Nat.le_of_eq ?_;exact su_zero M
 | x::ev=>by
  have ih:=rows_le t xs E g k j M ev;have e:su (fun c=>((rowP E g (x::ev) c).filter (cvB t xs k j c)).length) M=su (fun c=>(if atc E g c x&&cvB t xs k j c x then 1 else 0)+((rowP E g ev c).filter (cvB t xs k j c)).length) M:=su_congr fun c _=>by
   unfold rowP
   cases h1:atc E g c x
   ·simp [h1]
   ·cases h2:cvB t xs k j c x
    ·simp [h1,h2]
    ·simp [h1,h2];omega
  rw [e,su_add];have h1:su (fun c=>if atc E g c x&&cvB t xs k j c x then 1 else 0) M<=if qP t xs E g k (j:Int) x then 1 else 0:=by
   rw [<- cnt_su (fun c=>atc E g c x&&cvB t xs k j c x) M]
   cases hq:qP t xs E g k (j:Int) x
   ·have hz:∀ c,c<M->(if (atc E g c x&&cvB t xs k j c x) then 1 else 0)=0:=fun c _=>by
     refine if_neg fun hh=>?_;rw [Bool.and_eq_true] at hh;unfold atc cvB at hh;simp only [Bool.and_eq_true,decide_eq_true_eq] at hh;obtain ⟨a1,a2,a3,a4⟩:=hh;unfold qP at hq;rw [a1,decide_eq_true a2,decide_eq_true ⟨by omega,by omega⟩] at hq
     cases hq
    rw [cnt_su,su_congr (g:=fun _=>0) hz,su_zero];exact Nat.zero_le _
   ·rw [if_pos rfl];exact (cnt_one1 (z:=x.2*E+g x.1.toNat) (fun c hc=>by
     rw [Bool.and_eq_true] at hc;unfold atc at hc;simp only [decide_eq_true_eq] at hc;exact hc.1.symm) M).1
  rw [List.filter_cons]
  split
  ·rename_i hq;rw [if_pos hq] at h1;simp only [List.length_cons];omega
  ·rename_i hq;rw [if_neg hq] at h1;omega
def fB (t:Tab) (xs:List O) (row:Nat->List Pr) (c i j k:Nat):Nat:=su (fun d=>((row d).filter (cvB t xs k j d)).length) c+(((row c).take i).filter (cvB t xs k j c)).length
theorem fB_zero (t:Tab) (xs:List O) (row:Nat->List Pr) (j k:Nat):fB t xs row 0 0 j k=0:=by
 unfold fB;simp [su]
theorem fB_row (t:Tab) (xs:List O) (row:Nat->List Pr) (c j k:Nat):fB t xs row c (row c).length j k=fB t xs row (c+1) 0 j k:=by
 unfold fB;rw [List.take_length];simp [su]
theorem fB_next {t:Tab} {xs:List O} {row:Nat->List Pr} {c i:Nat} (hi:i<(row c).length) (j k:Nat):fB t xs row c (i+1) j k=fB t xs row c i j k+if cvB t xs k j c (row c)[i] then 1 else 0:=by
 unfold fB;rw [List.take_add_one,List.getElem?_eq_getElem hi,List.filter_append,List.length_append]
 cases h:cvB t xs k j c (row c)[i] <;> simp [h,Nat.add_assoc]
theorem fB_le {t:Tab} {xs:List O} {g:Nat->Int} {E:Int} (ht:t.ok=true) (hE:1<=E) (hE2:E<=65536) (h:kuB t xs g E=true) (n:Nat) {c i j k:Nat} (hk:k<4):fB t xs (rowP E g (evR xs.length n)) c i j k<=(t.u k).toNat:=by
 refine Nat.le_trans ?_ (cover_le ht hE hE2 h n k hk (j:Int));refine Nat.le_trans ?_ (rows_le t xs E g k j (c+1) (evR xs.length n));unfold fB;show _<=su (fun d=>((rowP E g (evR xs.length n) d).filter (cvB t xs k j d)).length) c+((rowP E g (evR xs.length n) c).filter (cvB t xs k j c)).length
 have:=List.Sublist.length_le ((List.take_sublist i (rowP E g (evR xs.length n) c)).filter (cvB t xs k j c))
 omega
def gB (f:Nat->Nat->Nat) (c q b:Nat):Nat->Nat->Nat:=fun j k=>f j k+if k=q/\c<=j/\j<c+b then 1 else 0
theorem gB_zero (f:Nat->Nat->Nat) (c q:Nat):gB f c q 0=f:=by
 funext j k
 unfold gB;rw [if_neg (by omega)];omega
theorem gB_next (f:Nat->Nat->Nat) (c q b j k:Nat):gB f c q (b+1) j k=if j=c+b/\k=q then gB f c q b j k+1 else gB f c q b j k:=by
 unfold gB
 by_cases e:j=c+b/\k=q
 ·rw [if_pos e,if_pos (by omega),if_neg (by omega)]
 ·rw [if_neg e]
  by_cases e2:k=q/\c<=j/\j<c+b
  ·rw [if_pos e2,if_pos (by omega)]
  ·rw [if_neg e2,if_neg (by omega)]
theorem gB_fB {t:Tab} {xs:List O} {row:Nat->List Pr} {c i:Nat} (hi:i<(row c).length):gB (fB t xs row c i) c (clN xs (row c)[i].1.toNat) (t.b (clN xs (row c)[i].1.toNat)).toNat = fB t xs row c (i+1):=by
 funext j k
 rw [fB_next hi];unfold gB cvB
 congr 1
 by_cases e:clN xs (row c)[i].1.toNat = k
 ·subst e
  by_cases e2:c<=j/\j<c+(t.b (clN xs (row c)[i].1.toNat)).toNat
  ·rw [if_pos ⟨rfl,e2⟩,if_pos (by simp [e2])]
  ·rw [if_neg (fun h=>e2 h.2),if_neg (by simpa using fun h1 h2=>e2 ⟨h1,h2⟩)]
 ·rw [if_neg (fun h=>e h.1.symm),if_neg (by simp [e])]
theorem gB_le {f:Nat->Nat->Nat} {c q b b' j k:Nat} (h:b<=b'):gB f c q b j k<=gB f c q b' j k:=by
 unfold gB
 by_cases e:k=q/\c<=j/\j<c+b
 ·rw [if_pos e,if_pos (by omega)];exact Nat.le_refl _
 ·rw [if_neg e];omega
end Go.Proofs.YtiejdpjgplikjaaGreatDoor.Tp
