/- Parts Td. -/
import Derived.Test.YtiejdpjgplikjaaGreatDoorN48
import Derived.Deep.DeepCutAuto
import Derived.Test.YtiejdpjgplikjaaGreatDoorN00
set_option maxRecDepth 20000
set_option maxHeartbeats 40000000
namespace Go.Proofs.YtiejdpjgplikjaaGreatDoor.Tp
open Go.ChangeShapes Go.WideShapes Go.ChangeAt Go.RowKit
open YtiejdpjgplikjaaGreatDoor.Op YtiejdpjgplikjaaGreatDoor.So YtiejdpjgplikjaaGreatDoor.Dp
open YtiejdpjgplikjaaGreatDoor.Bn (EL EIn Es es_of loopE_ok leE rgE rg_ok least_any)
open YtiejdpjgplikjaaGreatDoor.Ls (clN clN_at clN_lt clD clV_D Nl arC_all)
open YtiejdpjgplikjaaGreatDoor.Mo (mcB mc_parts mc_least stg fdP find_is fdP_ok find_no FdOut body_ok drn kuB)
open YtiejdpjgplikjaaGreatDoor.Tb (Tab TabAt Bnds)
open YtiejdpjgplikjaaGreatDoor.R7.Sp (Pr)
open YtiejdpjgplikjaaGreatDoor.R7.Ro (rowP evR Rd Sl whole_any WhOut whE whN whE_0 whN_some mem_evR)
theorem law_overlap (ao:Option Addr) (cap:Nat) (xs:List O) (t:Tab) (n:Int) (w:World) (h:OpsAt w ao xs) (hcap:xs.length<=cap) (hG:Bnds w) (hn0 : -9223372036854775808<=n) (hn1:n<=9223372036854775807) :
  Calls Tryz.prog 4 #[.slice ao xs.length cap,t.val,.int .i64 n] w fun e w'=>e=.returned (.bool true)/\Below w.heap.size w w':=by
 have HOv:Hid (∀ W,Below w.heap.size w W->Calls Tryz.prog 11 #[] W fun e w'=>e=.returned (.bool true)/\Below W.heap.size W w'):=fun W hb=>overlaps_any W (hG.below hb hG.big);have HT0:Hid (Tc w (w.alloc (.cells #[.int .i64 (t.u 0),.int .i64 (t.u 1),.int .i64 (t.u 2),.int .i64 (t.u 3),.int .i64 (t.l 0),.int .i64 (t.l 1),.int .i64 (t.l 2),.int .i64 (t.l 3),.int .i64 (t.b 0),.int .i64 (t.b 1),.int .i64 (t.b 2),.int .i64 (t.b 3),.int .i64 t.d] 25)) t):=Tc.start w t rfl (Below.refl _ _);have hlen:=h.len;have hxl:(xs.length:Int)<=8796093022208:=by omega
 have hxc:(xs.length:Int)<=(cap:Int):=by omega
 have hy:=ops_take h 24;have hyl:(xs.take 24).length<=24:=by rw [List.length_take];omega
 have hyc:(xs.take 24).length<=cap:=by rw [List.length_take];omega
 have hy1:24<xs.length->(xs.take 24).length=24:=fun q=>by rw [List.length_take];omega
 have hy2:¬ 24<xs.length->(xs.take 24).length=xs.length:=fun q=>by rw [List.length_take];omega
 generalize xs.take 24=ys at *;have HY:Hid (OpsAt w ao ys/\ys.length<=cap):=⟨hy,hyc⟩;have HG:Hid (Bnds w):=hG;have HH:Hid (OpsAt w ao xs):=h;clear hy hyc hG h;unfold Tab.val;go_enter Tryz.func4,Tryz.ntmps4
 go_upto_if 27 with fail
 generalize w.alloc (.cells #[.int .i64 (t.u 0),.int .i64 (t.u 1),.int .i64 (t.u 2),.int .i64 (t.u 3),.int .i64 (t.l 0),.int .i64 (t.l 1),.int .i64 (t.l 2),.int .i64 (t.l 3),.int .i64 (t.b 0),.int .i64 (t.b 1),.int .i64 (t.b 2),.int .i64 (t.b 3),.int .i64 t.d] 25)=X0 at *
 go_cut [0] (fun v wc=>v=.slice ao ys.length cap/\Tc w wc t)
 case first=>
  by_cases h24:24<xs.length
  ·have h24':(24:Int)<(xs.length:Int):=by omega
   obtain ⟨b,f,hao,-,-⟩:=HH.out.is (by omega);subst hao;go_wp2_with fail
   go_meet
   exact ⟨by rw [hy1 h24],HT0.out⟩
  ·have h24':¬ (24:Int)<(xs.length:Int):=by omega
   go_wp2_with fail
   go_meet
   exact ⟨by rw [hy2 h24],HT0.out⟩
 case rest=>
  obtain ⟨rfl,hT⟩:=hcut;have HT:Hid (Tc w wc t):=hT;clear hT HT0 hy1 hy2 hxl hxc HH hlen;have hcy:ys.length<=cap:=HY.out.2
  by_cases he:rgE t ys=0
  ·obtain ⟨ht0,-,hlis,-⟩:=rg_ok he;have HP0:=pn_of HY.out.1 he;have HF0:Hid (∀ W,Below w.heap.size w W->Calls Tryz.prog 6 #[.slice ao ys.length cap,.agg #[.int .i64 (t.u 0),.int .i64 (t.u 1),.int .i64 (t.u 2),.int .i64 (t.u 3),.int .i64 (t.l 0),.int .i64 (t.l 1),.int .i64 (t.l 2),.int .i64 (t.l 3),.int .i64 (t.b 0),.int .i64 (t.b 1),.int .i64 (t.b 2),.int .i64 (t.b 3),.int .i64 t.d]] W (FdOut ys.length (fdP t ys) W)):=fun W hb=>find_is ao cap ys t W (HY.out.1.below hb) HY.out.2 (HG.out.below hb HG.out.big) he;unfold FdOut at HF0;generalize stg ys.length (fdP t ys).2 (fdP t ys).1=S at *;generalize (fdP t ys).1=E at *;generalize (fdP t ys).2=g at *;have HP:Hid (Pn t ys E S g):=HP0;have HOk:Hid (∀ o∈ys,okL o=true):=fun o ho=>(lis_all hlis).2.2 o ho;have HEL:Hid (EL ys.length (loopE t ys)):=loopE_ok HY.out.1 he;have HL:Hid (∀ W,Below w.heap.size w W->Calls Tryz.prog 8 #[.slice ao ys.length cap,.agg #[.int .i64 (t.u 0),.int .i64 (t.u 1),.int .i64 (t.u 2),.int .i64 (t.u 3),.int .i64 (t.l 0),.int .i64 (t.l 1),.int .i64 (t.l 2),.int .i64 (t.l 3),.int .i64 (t.b 0),.int .i64 (t.b 1),.int .i64 (t.b 2),.int .i64 (t.b 3),.int .i64 t.d]] W fun e w'=>e=.returned (.tuple #[.int .i64 (leE t ys),.int .i64 0])/\Below W.heap.size W w'):=fun W hb=>by
    have:=least_any ao cap ys t W (HY.out.1.below hb) HY.out.2 (HG.out.below hb HG.out.big)
    rw [he] at this;exact this
   have HD:Hid (∀ W,Below w.heap.size w W->Calls Tryz.prog 12 #[.slice ao ys.length cap,.agg #[.int .i64 (t.u 0),.int .i64 (t.u 1),.int .i64 (t.u 2),.int .i64 (t.u 3),.int .i64 (t.l 0),.int .i64 (t.l 1),.int .i64 (t.l 2),.int .i64 (t.l 3),.int .i64 (t.b 0),.int .i64 (t.b 1),.int .i64 (t.b 2),.int .i64 (t.b 3),.int .i64 t.d]] W fun e w'=>∃ a c,e=.returned (.tuple #[.slice a (loopE t ys).length c,.int .i64 0])/\Es w' a (loopE t ys)/\Below W.heap.size W w'):=fun W hb=>by
    have:=loop_any ao cap ys t W (HY.out.1.below hb) HY.out.2 (HG.out.below hb HG.out.big)
    rw [hlis,show erE t ys (loopE t ys)=loopE t ys from if_pos hlis] at this;exact this.mono fun e w' ⟨a,c,h1,h2,h3⟩=>⟨a,c,h1,es_of h2,h3⟩
   have HFe:Hid (∀ W,Calls Tryz.prog 13 #[.int .i64 n,.int .i64 12] W fun e w'=>∃ m:Nat,m<=12/\e=.returned (.int .i64 m)/\Below W.heap.size W w'):=fun W=>few_any n W hn0 hn1;have HW:Hid (∀ W ra rc (k:Nat),1<=k->k<=13->Nl W ra ys.length g->Calls Tryz.prog 14 #[.agg #[.int .i64 E,.slice ra ys.length rc,.int .i64 S],.int .i64 k] W fun e w'=>∃ v,∃ M:Nat,e=.returned (.tuple #[v,.int .i64 0])/\Below W.heap.size W w'/\M<=65536/\Rd w' v M (rowP E g (evR ys.length k))):=fun W ra rc k h1 h2 h3=>whole_is HP.out W ra rc k h1 h2 h3;have hle:=HP.out.le;have hle':¬ E<leE t ys:=by omega
   have e1:=HP.out.e1;have e2:=HP.out.e2;clear he hlis HP0 ht0;generalize leE t ys=le at *;have hkp:=HP.out.kp;have HKp:Hid (∀ e∈loopE t ys,g e.f.toNat + e.l<=g e.t.toNat + e.d*E):=hkp;clear hkp;have hesl:=YtiejdpjgplikjaaGreatDoor.Bn.loopE_len (t:=t) (xs:=ys) (by omega);generalize loopE t ys=es at *;have hesi:(es.length:Int)<=100000000:=by omega
   have k2:=HT.out.t;have qu0:=k2.cu 0 (by decide);have ql0:=k2.cl 0 (by decide);have qb0:=k2.cb 0 (by decide);have qu1:=k2.cu 1 (by decide);have ql1:=k2.cl 1 (by decide);have qb1:=k2.cb 1 (by decide);have qu2:=k2.cu 2 (by decide);have ql2:=k2.cl 2 (by decide);have qb2:=k2.cb 2 (by decide);have qu3:=k2.cu 3 (by decide);have ql3:=k2.cl 3 (by decide);have qb3:=k2.cb 3 (by decide);have qd:=k2.cd;have qz:=k2.lt;clear k2;go_upto_region 4 with (first
    | (go_at_call 6;refine Calls.mono (HF0.out _ HT.out.up) ?_;rintro e w2 ⟨ra,rc,rfl,n2,b2⟩;have HX:Hid (Lo w (w2.alloc (.cells #[.int .i64 E,.slice ra ys.length rc,.int .i64 S] 29)) t w2.heap.size E S ra ys.length rc g):=(by
      have g2:Below w2.heap.size w2 (w2.alloc (.cells #[.int .i64 E,.slice ra ys.length rc,.int .i64 S] 29)):=(Below.refl _ _).alloc (Nat.le_refl _) _;have u2:Below w.heap.size w w2:=HT.out.up.trans (b2.mono HT.out.up.size);exact ⟨(HT.out.t.below b2 HT.out.t.lt).below g2 (HT.out.t.below b2 HT.out.t.lt).lt,At.new _ _ _,n2.up g2,u2.alloc u2.size _⟩);clear b2 n2 HT HF0 qu0 qu1 qu2 qu3 ql0 ql1 ql2 ql3 qb0 qb1 qb2 qb3 qd qz))
   generalize w2.alloc (.cells #[.int .i64 E,.slice ra ys.length rc,.int .i64 S] 29)=X2 at *;generalize w2.heap.size=pb at *;have k2:=HX.out.t;have qu0:=k2.cu 0 (by decide);have ql0:=k2.cl 0 (by decide);have qb0:=k2.cb 0 (by decide);have qu1:=k2.cu 1 (by decide);have ql1:=k2.cl 1 (by decide);have qb1:=k2.cb 1 (by decide);have qu2:=k2.cu 2 (by decide);have ql2:=k2.cl 2 (by decide);have qb2:=k2.cb 2 (by decide);have qu3:=k2.cu 3 (by decide);have ql3:=k2.cl 3 (by decide);have qb3:=k2.cb 3 (by decide);have qd:=k2.cd;have qz:=k2.lt;clear k2;go_upto_region 7 with (first
    | (go_at_call 8;refine Calls.mono (HL.out _ HX.out.up) ?_;rintro e w3 ⟨rfl,b3⟩;have HX3:Hid (Lo w w3 t pb E S ra ys.length rc g):=HX.out.next b3;clear b3 HX HL qu0 qu1 qu2 qu3 ql0 ql1 ql2 ql3 qb0 qb1 qb2 qb3 qd qz))
   have k2:=HX3.out.t;have qu0:=k2.cu 0 (by decide);have ql0:=k2.cl 0 (by decide);have qb0:=k2.cb 0 (by decide);have qu1:=k2.cu 1 (by decide);have ql1:=k2.cl 1 (by decide);have qb1:=k2.cb 1 (by decide);have qu2:=k2.cu 2 (by decide);have ql2:=k2.cl 2 (by decide);have qb2:=k2.cb 2 (by decide);have qu3:=k2.cu 3 (by decide);have ql3:=k2.cl 3 (by decide);have qb3:=k2.cb 3 (by decide);have qd:=k2.cd;have qz:=k2.lt;clear k2;go_upto_region 8 with (first
    | (go_at_call 12;refine Calls.mono (HD.out _ HX3.out.up) ?_;rintro e w4 ⟨ea,ec,rfl,d4,b4⟩;have HX4:Hid (Lo w w4 t pb E S ra ys.length rc g/\Es w4 ea es):=⟨HX3.out.next b4,d4⟩;clear b4 d4 HX3 HD qu0 qu1 qu2 qu3 ql0 ql1 ql2 ql3 qb0 qb1 qb2 qb3 qd qz))
   go_upto_region 9 with (first
    | (go_at_call 13;refine Calls.mono (HFe.out _) ?_;rintro e w5 ⟨m12,hm12,rfl,b5⟩;have hm12':(m12:Int)<=12:=(by omega);have HX5:Hid (Lo w w5 t pb E S ra ys.length rc g/\Es w5 ea es):=⟨HX4.out.1.next b5,HX4.out.2.up b5⟩;clear b5 HX4 HFe))
   have p0:=HX5.out.1.p.c 0 _ rfl;have p1:=HX5.out.1.p.c 1 _ rfl;have p2:=HX5.out.1.p.c 2 _ rfl;have pl:=HX5.out.1.p.lt;have HW2:Hid (Calls Tryz.prog 14 #[.agg #[.int .i64 E,.slice ra ys.length rc,.int .i64 S],.int .i64 ((m12:Int)+1)] w5 fun e w'=>∃ v,∃ M:Nat,e=.returned (.tuple #[v,.int .i64 0])/\Below w5.heap.size w5 w'/\M<=65536/\Rd w' v M (rowP E g (evR ys.length (m12+1)))):=HW.out w5 ra rc (m12+1) (by omega) (by omega) HX5.out.1.c;clear HW;go_upto_region 10 with (first
    | (go_at_call 14;refine Calls.mono HW2.out ?_;rintro e w6 ⟨rv,M,rfl,b6,hM,r6⟩;have HX6:Hid ((Lo w w6 t pb E S ra ys.length rc g/\Es w6 ea es)/\Rd w6 rv M (rowP E g (evR ys.length (m12+1)))):=⟨⟨HX5.out.1.next b6,HX5.out.2.up b6⟩,r6⟩;clear b6 r6 HX5 HW2 p0 p1 p2 pl))
   have p0:=HX6.out.1.1.p.c 0 _ rfl;have p1:=HX6.out.1.1.p.c 1 _ rfl;have pl:=HX6.out.1.1.p.lt;go_upto_region 13 with fail
   clear p0 p1 pl;have HS0:Hid ((Lo w w6 t pb E S ra ys.length rc g/\Es w6 ea es)/\Rd w6 rv M (rowP E g (evR ys.length (m12+1)))):=HX6.out
   go_loopw [92] (fun v wr=>∃ k:Nat,k<=es.length/\v=.int .i64 k/\(Lo w wr t pb E S ra ys.length rc g/\Es wr ea es)/\Rd wr rv M (rowP E g (evR ys.length (m12+1)))) (fun v _=>es.length-(intOf v).toNat)
   case atStart=>exact ⟨0,by omega,rfl,HS0.out⟩
   case round=>
    rename World=>wr;obtain ⟨k,hk,rfl,hst⟩:=hrel;have HQ:Hid ((Lo w wr t pb E S ra ys.length rc g/\Es wr ea es)/\Rd wr rv M (rowP E g (evR ys.length (m12+1)))):=hst;clear hst HS0 HX6
    by_cases hlt:k<es.length
    ·have k0:(0:Int)<=(k:Int):=by omega
     have k1:(k:Int)<(es.length:Int):=by omega
     obtain ⟨eb,hea,ez,f0,f1,f2,f3,f4⟩:=HQ.out.1.2.2 k hlt;have hin:=HEL.out _ (List.getElem_mem hlt);have hkp:=HKp.out _ (List.getElem_mem hlt);obtain ⟨fi,hfi⟩:=Int.eq_ofNat_of_zero_le hin.f0;obtain ⟨ti,hti⟩:=Int.eq_ofNat_of_zero_le hin.t0;have i1:=hin.fn;have i2:=hin.tn;have i3:=hin.l0;have i4:=hin.l8;have i5:es[k].d=0\/es[k].d=1:=by
      rcases hin.d with q|q
      ·exact .inl q.1
      ·exact .inr q
     rw [hfi] at f0 i1 hkp;rw [hti] at f1 i2 hkp;rw [Int.toNat_natCast,Int.toNat_natCast] at hkp;generalize es[k].l=xl at *;generalize es[k].d=xd at *;generalize es[k].y=xy at *;clear hin hfi hti;subst hea;go_upto_region 15 with fail
     have HQ2:Hid (((Lo w (wr.alloc (.cells #[.int .i64 (fi:Int),.int .i64 (ti:Int),.int .i64 xl,.int .i64 xd,.int .i8 xy] 47)) t pb E S ra ys.length rc g/\Es (wr.alloc (.cells #[.int .i64 (fi:Int),.int .i64 (ti:Int),.int .i64 xl,.int .i64 xd,.int .i8 xy] 47)) (some ⟨eb,0,none⟩) es)/\Rd (wr.alloc (.cells #[.int .i64 (fi:Int),.int .i64 (ti:Int),.int .i64 xl,.int .i64 xd,.int .i8 xy] 47)) rv M (rowP E g (evR ys.length (m12+1))))/\At (wr.alloc (.cells #[.int .i64 (fi:Int),.int .i64 (ti:Int),.int .i64 xl,.int .i64 xd,.int .i8 xy] 47)) wr.heap.size #[.int .i64 (fi:Int),.int .i64 (ti:Int),.int .i64 xl,.int .i64 xd,.int .i8 xy]):=by
      have gb:Below wr.heap.size wr (wr.alloc (.cells #[.int .i64 (fi:Int),.int .i64 (ti:Int),.int .i64 xl,.int .i64 xd,.int .i8 xy] 47)):=(Below.refl _ _).alloc (Nat.le_refl _) _;exact ⟨⟨⟨HQ.out.1.1.next gb,HQ.out.1.2.up gb⟩,HQ.out.2.up gb⟩,At.new _ _ _⟩
     generalize wr.alloc (.cells #[.int .i64 (fi:Int),.int .i64 (ti:Int),.int .i64 xl,.int .i64 xd,.int .i8 xy] 47)=X7 at *;generalize wr.heap.size=xb at *;clear HQ f0 f1 f2 f3 f4 ez;have x3:=HQ2.out.2.c 3 _ rfl;have xlt:=HQ2.out.2.lt;go_upto_region 16 with fail
     clear x3 xlt
     go_loopw [100] (fun v wy=>∃ r:Nat,r<=13/\v=.int .i64 r/\(((Lo w wy t pb E S ra ys.length rc g/\Es wy (some ⟨eb,0,none⟩) es)/\Rd wy rv M (rowP E g (evR ys.length (m12+1))))/\At wy xb #[.int .i64 (fi:Int),.int .i64 (ti:Int),.int .i64 xl,.int .i64 xd,.int .i8 xy])) (fun v _=>14-(intOf v).toNat)
     case atStart=>exact ⟨0,by omega,rfl,HQ2.out⟩
     case round=>
      rename World=>wy;obtain ⟨r,hr,rfl,hst⟩:=hrel;have HR:Hid (((Lo w wy t pb E S ra ys.length rc g/\Es wy (some ⟨eb,0,none⟩) es)/\Rd wy rv M (rowP E g (evR ys.length (m12+1))))/\At wy xb #[.int .i64 (fi:Int),.int .i64 (ti:Int),.int .i64 xl,.int .i64 xd,.int .i8 xy]):=hst;clear hst HQ2
      by_cases hrl:(r:Int)<(m12:Int)+1-xd
      ·obtain ⟨cb,cf,hra,cz,hc⟩:=HR.out.1.1.1.c.is (by omega);have HCc:Hid (∀ W',Below wy.heap.size wy W'->∀ a:Nat,a<ys.length->W'.cell? ⟨cb,cf+a,none⟩=some (.int .i64 (g a))/\cb<W'.heap.size):=fun W' hb a ha=>⟨by rw [(bcell hb).1 _ _ cz];exact hc a ha,Nat.lt_of_lt_of_le cz hb.size⟩;have gf:=HP.out.c fi (by omega);have gt:=HP.out.c ti (by omega);have hfi':fi<ys.length:=by omega
       have hti':ti<ys.length:=by omega
       have z1:(0:Int)<=((r:Int)+xd)*E:=Int.mul_nonneg (by omega) (by omega);have z2:((r:Int)+xd)*E<=14*512:=Int.mul_le_mul (by omega) e2 (by omega) (by omega);have z3:(0:Int)<=(r:Int)*E:=Int.mul_nonneg (by omega) (by omega);have z4:(r:Int)*E<=14*512:=Int.mul_le_mul (by omega) e2 (by omega) (by omega);have z5:((r:Int)+xd)*E=(r:Int)*E+xd*E:=Int.add_mul _ _ _;have hfin:¬ ((r:Int)+xd)*E+g ti<(r:Int)*E+g fi+xl:=by omega
       clear hc z5 hkp;go_upto_region 18 with fail
       subst hra;have HRd:Hid (((Lo w wy.drew t pb E S (some ⟨cb,cf,none⟩) ys.length rc g/\Es wy.drew (some ⟨eb,0,none⟩) es)/\Rd wy.drew rv M (rowP E g (evR ys.length (m12+1))))/\At wy.drew xb #[.int .i64 (fi:Int),.int .i64 (ti:Int),.int .i64 xl,.int .i64 xd,.int .i8 xy]):=⟨⟨⟨HR.out.1.1.1.next (Below.refl _ _).drew,HR.out.1.1.2.up (Below.refl _ _).drew⟩,HR.out.1.2.up (Below.refl _ _).drew⟩,HR.out.2.below (Below.refl _ _).drew HR.out.2.lt⟩;have HCd:Hid (∀ a:Nat,a<ys.length->wy.drew.cell? ⟨cb,cf+a,none⟩=some (.int .i64 (g a))/\cb<wy.drew.heap.size):=fun a ha=>HCc.out _ (Below.refl _ _).drew a ha;clear HR HCc cz;refine wp_region_held_drew (S:=fun W'=>At W' xb #[.int .i64 (fi:Int),.int .i64 (ti:Int),.int .i64 xl,.int .i64 xd,.int .i8 xy]/\At W' pb #[.int .i64 E,.slice (some ⟨cb,cf,none⟩) ys.length rc,.int .i64 S]/\∀ a:Nat,a<ys.length->W'.cell? ⟨cb,cf+a,none⟩=some (.int .i64 (g a))/\cb<W'.heap.size) (by kernel_rfl) ⟨HRd.out.2,HRd.out.1.1.1.p,HCd.out⟩ (fun zH=>?_);generalize wy.drew=XD at *;refine wt 0 (.int .i64 (r:Int)) rfl (fun w' hSw=>by (clear hSw;go_simp)) zH ?_;simp only [pq];refine wt 1 (.pointer (some ⟨xb,3,none⟩)) rfl (fun w' hSw=>by (clear hSw;go_simp)) zH ?_;simp only [pq];refine wt 2 (.int .i64 xd) rfl (fun w' hSw=>by (have y3:=hSw.1.c 3 _ rfl;have yl:=hSw.1.lt;clear hSw;go_simp)) zH ?_;simp only [pq];refine wt 3 (.int .i64 ((r:Int)+xd)) rfl (fun w' hSw=>by (clear hSw;go_simp;rw [IntKind.wrap_i64];omega)) zH ?_;simp only [pq];refine wt 4 (.pointer (some ⟨pb,0,none⟩)) rfl (fun w' hSw=>by (clear hSw;go_simp)) zH ?_;simp only [pq];refine wt 5 (.int .i64 E) rfl (fun w' hSw=>by (have y0:=hSw.2.1.c 0 _ rfl;have yl:=hSw.2.1.lt;clear hSw;go_simp)) zH ?_;simp only [pq];refine wt 6 (.int .i64 (((r:Int)+xd)*E)) rfl (fun w' hSw=>by (clear hSw;go_simp;rw [IntKind.wrap_i64];omega)) zH ?_;simp only [pq];refine wt 7 (.pointer (some ⟨pb,1,none⟩)) rfl (fun w' hSw=>by (clear hSw;go_simp)) zH ?_;simp only [pq];refine wt 8 (.slice (some ⟨cb,cf,none⟩) ys.length rc) rfl (fun w' hSw=>by (have y1:=hSw.2.1.c 1 _ rfl;have yl:=hSw.2.1.lt;clear hSw;go_simp)) zH ?_;simp only [pq];refine wt 9 (.pointer (some ⟨xb,1,none⟩)) rfl (fun w' hSw=>by (clear hSw;go_simp)) zH ?_;simp only [pq];refine wt 10 (.int .i64 (ti:Int)) rfl (fun w' hSw=>by (have y1:=hSw.1.c 1 _ rfl;have yl:=hSw.1.lt;clear hSw;go_simp)) zH ?_;simp only [pq];refine wt 11 (.pointer (some ⟨cb,cf+ti,none⟩)) rfl (fun w' hSw=>by (clear hSw;go_simp)) zH ?_;simp only [pq];refine wt 12 (.int .i64 (g ti)) rfl (fun w' hSw=>by (obtain ⟨y0,yl⟩:=hSw.2.2 ti hti';clear hSw;go_simp)) zH ?_;simp only [pq];refine wt 13 (.int .i64 (((r:Int)+xd)*E+g ti)) rfl (fun w' hSw=>by (clear hSw;go_simp;rw [IntKind.wrap_i64];omega)) zH ?_;simp only [pq];refine wt 14 (.int .i64 (r:Int)) rfl (fun w' hSw=>by (clear hSw;go_simp)) zH ?_;simp only [pq];refine wt 15 (.pointer (some ⟨pb,0,none⟩)) rfl (fun w' hSw=>by (clear hSw;go_simp)) zH ?_;simp only [pq];refine wt 16 (.int .i64 E) rfl (fun w' hSw=>by (have y0:=hSw.2.1.c 0 _ rfl;have yl:=hSw.2.1.lt;clear hSw;go_simp)) zH ?_;simp only [pq];refine wt 17 (.int .i64 ((r:Int)*E)) rfl (fun w' hSw=>by (clear hSw;go_simp;rw [IntKind.wrap_i64];omega)) zH ?_;simp only [pq];refine wt 18 (.pointer (some ⟨pb,1,none⟩)) rfl (fun w' hSw=>by (clear hSw;go_simp)) zH ?_;simp only [pq];refine wt 19 (.slice (some ⟨cb,cf,none⟩) ys.length rc) rfl (fun w' hSw=>by (have y1:=hSw.2.1.c 1 _ rfl;have yl:=hSw.2.1.lt;clear hSw;go_simp)) zH ?_;simp only [pq];refine wt 20 (.pointer (some ⟨xb,0,none⟩)) rfl (fun w' hSw=>by (clear hSw;go_simp)) zH ?_;simp only [pq];refine wt 21 (.int .i64 (fi:Int)) rfl (fun w' hSw=>by (have y0:=hSw.1.c 0 _ rfl;have yl:=hSw.1.lt;clear hSw;go_simp)) zH ?_;simp only [pq];refine wt 22 (.pointer (some ⟨cb,cf+fi,none⟩)) rfl (fun w' hSw=>by (clear hSw;go_simp)) zH ?_;simp only [pq];refine wt 23 (.int .i64 (g fi)) rfl (fun w' hSw=>by (obtain ⟨y0,yl⟩:=hSw.2.2 fi hfi';clear hSw;go_simp)) zH ?_;simp only [pq];refine wt 24 (.int .i64 ((r:Int)*E+g fi)) rfl (fun w' hSw=>by (clear hSw;go_simp;rw [IntKind.wrap_i64];omega)) zH ?_;simp only [pq];refine wt 25 (.pointer (some ⟨xb,2,none⟩)) rfl (fun w' hSw=>by (clear hSw;go_simp)) zH ?_;simp only [pq];refine wt 26 (.int .i64 xl) rfl (fun w' hSw=>by (have y2:=hSw.1.c 2 _ rfl;have yl:=hSw.1.lt;clear hSw;go_simp)) zH ?_;simp only [pq];refine wt 27 (.int .i64 ((r:Int)*E+g fi+xl)) rfl (fun w' hSw=>by (clear hSw;go_simp;rw [IntKind.wrap_i64];omega)) zH ?_;simp only [pq];refine wt 28 (.bool false) rfl (fun w' hSw=>by (clear hSw;go_simp)) zH ?_;simp only [pq];refine wpAnyH_done (by kernel_rfl) ?_ _;clear zH;go_wp2_with fail
       go_roundw
       case rel=>exact ⟨r+1,by omega,by go_num,HRd.out⟩
       case measure=>simp [intOf];omega
      ·go_wp2_with fail
       go_roundw
       case rel=>exact ⟨k+1,by omega,by go_num,HR.out.1⟩
       case measure=>simp [intOf];omega
    ·have k1:¬ (k:Int)<(es.length:Int):=by omega
     obtain ⟨va,vc,hrv,-,hrow⟩:=HQ.out.2.is;subst hrv;have HRow:Hid (0<M->∃ b o,va=some ⟨b,o,none⟩/\b<wr.heap.size/\∀ c,c<M->∃ u,wr.cell? ⟨b,o+c,none⟩=some u/\Sl wr u (rowP E g (evR ys.length (m12+1)) c)):=hrow;have HFl:Hid (∀ c i j k,k<4->fB t ys (rowP E g (evR ys.length (m12+1))) c i j k<=(t.u k).toNat):=fun c i j k hk=>fB_le HP.out.ok HP.out.e1 (by have:=HP.out.e2;omega) HP.out.ku (m12+1) hk;have HRi:Hid (∀ c i (hi:i<(rowP E g (evR ys.length (m12+1)) c).length),∃ a r:Nat,a<ys.length/\r<m12+1/\(rowP E g (evR ys.length (m12+1)) c)[i]=((a:Int),(r:Int))):=fun c i hi=>row_in hi;have HRn:Hid (∀ c,(rowP E g (evR ys.length (m12+1)) c).length<=100000):=fun c=>row_short _ _ _ hyl (by omega);have HLo:Hid (Lo w wr t pb E S ra ys.length rc g):=HQ.out.1.1;clear hrow HQ;generalize rowP E g (evR ys.length (m12+1))=row at *;obtain ⟨i0,hi,hi2⟩:=Option.map_eq_some_iff.1 info23;simp only [Prod.mk.injEq] at hi2;obtain ⟨hz0,hz1,hz2⟩:=hi2;have HI:Hid (Tryz.prog.info? 23=some i0/\i0.zero=some (.agg #[.int .i64 0,.int .i64 0,.int .i64 0,.int .i64 0])/\i0.size=4/\i0.bytes=32):=⟨hi,hz0,hz1,hz2⟩;have HB0:Hid (Bz wr (wr.alloc (.cells (madeCells #[.int .i64 0,.int .i64 0,.int .i64 0,.int .i64 0] ((M+4)*i0.size)) 23)) (M+4) (fB t ys row 0 0)):=by
      rw [hz1];exact Bz.new wr (M+4) 23 _ fun j k=>fB_zero t ys row j k
     clear hi hz0 hz1 hz2;have hM':(M:Int)<=65536:=by omega
     go_upto_region 24 with (first
      | (at_make;refine wpList_make4 _ rfl _ _ 48 rfl 23 i0 (.agg #[.int .i64 0,.int .i64 0,.int .i64 0,.int .i64 0]) Tryz.underlying48 HI.out.1 HI.out.2.1 .i64 .i64 (M+4) rfl rfl (by rw [HI.out.2.2.2];omega) (by omega) ?_))
     generalize wr.alloc (.cells (madeCells #[.int .i64 0,.int .i64 0,.int .i64 0,.int .i64 0] ((M+4)*i0.size)) 23)=Y0 at *
     go_loopw [140] (fun v wz=>∃ c:Nat,c<=M/\v=.int .i64 c/\Bz wr wz (M+4) (fB t ys row c 0)) (fun v _=>M-(intOf v).toNat)
     case atStart=>exact ⟨0,by omega,rfl,HB0.out⟩
     case round=>
      rename World=>wz;obtain ⟨c,hc,rfl,hst⟩:=hrel;have HB:Hid (Bz wr wz (M+4) (fB t ys row c 0)):=hst;clear hst HB0
      by_cases hcl:c<M
      ·have c0:(0:Int)<=(c:Int):=by omega
       have c1:(c:Int)<(M:Int):=by omega
       obtain ⟨vb,vo,hva,vz,hcell⟩:=HRow.out (by omega);obtain ⟨u,hu,hsl⟩:=hcell c hcl;obtain ⟨sa,sc,hue,hs⟩:=hsl.is;subst hue;have HSl:Hid (0<(row c).length->∃ b,sa=some ⟨b,0,none⟩/\b<wr.heap.size/\∀ k x,(row c)[k]?=some x->wr.cell? ⟨b,k*2,none⟩=some (.int .i64 x.1)/\wr.cell? ⟨b,k*2+1,none⟩=some (.int .i64 x.2)):=hs;have hu':wz.cell? ⟨vb,vo+c,none⟩=some (.slice sa (row c).length sc):=by rw [(bcell HB.out.up).1 _ _ vz];exact hu
       have hvz:vb<wz.heap.size:=Nat.lt_of_lt_of_le vz HB.out.up.size;have hrn:=HRn.out c;have hrn':((row c).length:Int)<=100000:=by omega
       clear hu hs hsl hcell;rw [hva];go_upto_region 27 with fail
       clear hu' hvz
       go_loopw [147] (fun v wy=>∃ i:Nat,i<=(row c).length/\v=.int .i64 i/\Bz wr wy (M+4) (fB t ys row c i)) (fun v _=>(row c).length-(intOf v).toNat)
       case atStart=>exact ⟨0,by omega,rfl,HB.out⟩
       case round=>
        rename World=>wy;obtain ⟨i,hi,rfl,hst⟩:=hrel;have HBi:Hid (Bz wr wy (M+4) (fB t ys row c i)):=hst;clear hst HB
        by_cases hil:i<(row c).length
        ·have i0':(0:Int)<=(i:Int):=by omega
         have i1:(i:Int)<((row c).length:Int):=by omega
         obtain ⟨sb,hsa,sz,hsc⟩:=HSl.out (by omega);obtain ⟨a,rr,ha,hrr,hx⟩:=HRi.out c i hil;obtain ⟨s0,s1⟩:=hsc i (row c)[i] (List.getElem?_eq_getElem hil);rw [hx] at s0 s1;have y0:wy.cell? ⟨sb,i*2,none⟩=some (.int .i64 (a:Int)):=by rw [(bcell HBi.out.up).1 _ _ sz];exact s0
         have y1:wy.cell? ⟨sb,i*2+1,none⟩=some (.int .i64 (rr:Int)):=by rw [(bcell HBi.out.up).1 _ _ sz];exact s1
         have yz:sb<wy.heap.size:=Nat.lt_of_lt_of_le sz HBi.out.up.size;obtain ⟨ob,of,hao,oz,hox⟩:=HY.out.1.is (by omega);have HOa:Hid (∀ W,Below w.heap.size w W->OAt W ob (of+a*5) ys[a]/\ob<W.heap.size):=fun W hb=>⟨(hox a ha).below hb oz,Nat.lt_of_lt_of_le oz hb.size⟩;have hok:=HY.out.1.ok _ (List.getElem_mem ha);have hcd:=clV_D (HOk.out _ (List.getElem_mem ha));have HCl:Hid (∀ W,Calls Tryz.prog 15 #[.int .i8 ys[a].op] W fun e w'=>e=.returned (.tuple #[.int .i64 ((clN ys a:Nat):Int),.bool true])/\Below W.heap.size W w'):=fun W=>by
          have:=class_any ys[a].op W hok.op0 hok.op1
          rw [hcd.1,hcd.2] at this;rw [clN_at ha];exact this
         have HGf:Hid (gB (fB t ys row c i) c (clN ys a) (t.b (clN ys a)).toNat = fB t ys row c (i+1)):=by
          have:=gB_fB (t:=t) (xs:=ys) (row:=row) hil
          rw [hx] at this;simp only [Int.toNat_natCast] at this;exact this
         have hq4:=clN_lt ys a;have hti:=(_root_.Go.Proofs.YtiejdpjgplikjaaGreatDoor.Bn.tab_in HP.out.ok).2 (clN ys a) hq4;have HFq:Hid (∀ b,b<=(t.b (clN ys a)).toNat->∀ j,gB (fB t ys row c i) c (clN ys a) b j (clN ys a)<=(t.u (clN ys a)).toNat):=fun b hb j=>Nat.le_trans (gB_le hb) (by rw [HGf.out];exact HFl.out c (i+1) j _ hq4);clear hsc s0 s1 hx hcd hox hok;generalize clN ys a=q at *;generalize fB t ys row c i=F at *;generalize ys[a]=o at *;rw [hsa,hao];go_upto_region 29 with fail
         have HB1:Hid (Bz wr (wy.alloc (.cells #[.int .i64 (a:Int),.int .i64 (rr:Int)] 51)) (M+4) F/\At (wy.alloc (.cells #[.int .i64 (a:Int),.int .i64 (rr:Int)] 51)) wy.heap.size #[.int .i64 (a:Int),.int .i64 (rr:Int)]):=⟨HBi.out.next ((Below.refl _ _).alloc (Nat.le_refl _) _),At.new _ _ _⟩;generalize wy.alloc (.cells #[.int .i64 (a:Int),.int .i64 (rr:Int)] 51)=Y1 at *;generalize wy.heap.size=zb at *;clear y0 y1 yz HBi;have z0:=HB1.out.2.c 0 _ rfl;have zl:=HB1.out.2.lt;have HU1:Hid (Below w.heap.size w Y1):=HLo.out.up.trans (HB1.out.1.up.mono HLo.out.up.size);have o0:=(HOa.out _ HU1.out).1.1;have ol:=(HOa.out _ HU1.out).2;have a0:(0:Int)<=(a:Int):=by omega
         have a1:(a:Int)<(ys.length:Int):=by omega
         go_upto_region 30 with (first
          | (go_at_call 15;refine Calls.mono (HCl.out _) ?_;rintro e w8 ⟨rfl,b8⟩;have HB8:Hid (Bz wr w8 (M+4) F):=HB1.out.1.next b8;clear b8 HB1 HCl z0 zl o0 ol HU1))
         have HT8:Hid (∀ W,Bz wr W (M+4) F->TabAt W w.heap.size t):=fun W hb=>HLo.out.t.below hb.up HLo.out.t.lt;have HTb:Hid (∀ W f,Bz wr W (M+4) f->TabAt W w.heap.size t/\w.heap.size<W.heap.size):=fun W f hb=>⟨HLo.out.t.below hb.up HLo.out.t.lt,(HLo.out.t.below hb.up HLo.out.t.lt).lt⟩;have tb8:=(HTb.out _ _ HB8.out).1.cb q hq4;have tl8:=(HTb.out _ _ HB8.out).2;have q0:(0:Int)<=(q:Int):=by omega
         have q1:(q:Int)<4:=by omega
         go_upto_region 31 with fail
         clear tb8 tl8 HT8;have htb1:=hti.2.2.1;have htb4:=hti.2.2.2;have htu0:=hti.1.1;have htu8:=hti.1.2;clear hti
         go_loopw [165] (fun v wx=>∃ b:Nat,b<=(t.b q).toNat/\v=.int .i64 b/\Bz wr wx (M+4) (gB F c q b)) (fun v _=>(t.b q).toNat - (intOf v).toNat)
         case atStart=>exact ⟨0,by omega,rfl,by rw [gB_zero];exact HB8.out⟩
         case round=>
          rename World=>wx;obtain ⟨b,hb,rfl,hst⟩:=hrel;have HBb:Hid (Bz wr wx (M+4) (gB F c q b)):=hst;clear hst HB8
          by_cases hbl:(b:Int)<t.b q
          ·have v0:=HBb.out.c (c+b) q (by omega) hq4;have vf:=HBb.out.z ((c+b)*4+q);have vl:=HBb.out.lt;have vu:gB F c q b (c+b) q+1<=(t.u q).toNat:=by
            have h1:=HFq.out (b+1) (by omega) (c+b);rw [gB_next,if_pos ⟨rfl,rfl⟩] at h1;exact h1
           have HPut:Hid (∀ W,Bz wr W (M+4) (gB F c q b)->Bz wr (W.setCell ⟨wr.heap.size,(c+b)*4+q,none⟩ (.int .i64 ((gB F c q b (c+b) q:Nat)+1))) (M+4) (gB F c q (b+1))):=fun W hW=>hW.put (by omega) hq4 (by rw [gB_next,if_pos ⟨rfl,rfl⟩];rfl) fun j k _ hne=>by rw [gB_next,if_neg hne]
           have bc0:(0:Int)<=(c:Int)+(b:Int):=by omega
           have bc1:(c:Int)+(b:Int)<(M:Int)+4:=by omega
           have HV:Hid (gB F c q (b+1) (c+b) q=gB F c q b (c+b) q+1):=by
            have h1:=gB_next F c q b (c+b) q;rw [if_pos ⟨rfl,rfl⟩] at h1;exact h1
           generalize gB F c q b (c+b) q=vv at *;have hgt:¬ t.u q<(vv:Int)+1:=by omega
           go_upto_region 33 with fail
           go_region
           go_upto_region 34 with fail
           have HB9:Hid (Bz wr (wx.setCell ⟨wr.heap.size,(c+b)*4+q,none⟩ (.int .i64 ((vv:Int)+1))).drew.drew (M+4) (gB F c q (b+1))):=((HPut.out _ HBb.out).next (Below.refl _ _).drew).next (Below.refl _ _).drew;clear v0 vf vl HPut HBb;refine wp_region_held_drew (S:=fun W'=>Bz wr W' (M+4) (gB F c q (b+1))) (by kernel_rfl) HB9.out (fun zH=>?_);generalize (wx.setCell ⟨wr.heap.size,(c+b)*4+q,none⟩ (.int .i64 ((vv:Int)+1))).drew.drew=XD at *;refine wt 0 (.slice (some ⟨wr.heap.size,0,none⟩) (M+4) (M+4)) rfl (fun w' hSw=>by (clear hSw;go_simp)) zH ?_;simp only [pq];refine wt 1 (.int .i64 (c:Int)) rfl (fun w' hSw=>by (clear hSw;go_simp)) zH ?_;simp only [pq];refine wt 2 (.int .i64 (b:Int)) rfl (fun w' hSw=>by (clear hSw;go_simp)) zH ?_;simp only [pq];refine wt 3 (.int .i64 ((c:Int)+(b:Int))) rfl (fun w' hSw=>by (clear hSw;go_simp;rw [IntKind.wrap_i64];omega)) zH ?_;simp only [pq];refine wt 4 (.int .i64 (q:Int)) rfl (fun w' hSw=>by (clear hSw;go_simp)) zH ?_;simp only [pq];refine wt 5 (.pointer (some ⟨wr.heap.size,(c+b)*4,none⟩)) rfl (fun w' hSw=>by (clear hSw;go_simp)) zH ?_;simp only [pq];refine wt 6 (.pointer (some ⟨wr.heap.size,(c+b)*4+q,none⟩)) rfl (fun w' hSw=>by (clear hSw;go_simp)) zH ?_;simp only [pq];refine wt 7 (.int .i64 ((vv:Int)+1)) rfl (fun w' hSw=>by (have y0:w'.cell? ⟨wr.heap.size,(c+b)*4+q,none⟩=some (.int .i64 ((vv:Int)+1)):=(by rw [hSw.c (c+b) q (by omega) hq4,HV.out];rfl);have yl:=hSw.lt;clear hSw;go_simp)) zH ?_;simp only [pq];refine wt 8 (.int .i64 (q:Int)) rfl (fun w' hSw=>by (clear hSw;go_simp)) zH ?_;simp only [pq];refine wt 9 (.pointer (some ⟨w.heap.size,0,none⟩)) rfl (fun w' hSw=>by (clear hSw;go_simp)) zH ?_;simp only [pq];refine wt 10 (.pointer (some ⟨w.heap.size,q,none⟩)) rfl (fun w' hSw=>by (clear hSw;go_simp)) zH ?_;simp only [pq];refine wt 11 (.int .i64 (t.u q)) rfl (fun w' hSw=>by (have yu:=(HTb.out _ _ hSw).1.cu q hq4;have yl:=(HTb.out _ _ hSw).2;clear hSw;go_simp)) zH ?_;simp only [pq];refine wt 12 (.bool false) rfl (fun w' hSw=>by (clear hSw;go_simp)) zH ?_;simp only [pq];refine wpAnyH_done (by kernel_rfl) ?_ _;clear zH;go_wp2_with fail
           go_roundw
           case rel=>exact ⟨b+1,by omega,by go_num,HB9.out⟩
           case measure=>simp [intOf];omega
          ·have HE:Hid (Bz wr wx (M+4) (fB t ys row c (i+1))):=by
            have e:b=(t.b q).toNat:=by omega
            rw [<- HGf.out,<- e];exact HBb.out
           go_wp2_with fail
           go_roundw
           case rel=>exact ⟨i+1,by omega,by go_num,HE.out⟩
           case measure=>simp [intOf];omega
        ·have i1:¬ (i:Int)<((row c).length:Int):=by omega
         have HE:Hid (Bz wr wy (M+4) (fB t ys row (c+1) 0)):=by
          have e:fB t ys row c i=fB t ys row (c+1) 0:=by
           obtain rfl:i=(row c).length:=by omega
           funext j k
           exact fB_row t ys row c j k
          rw [<- e];exact HBi.out
         go_wp2_with fail
         go_roundw
         case rel=>exact ⟨c+1,by omega,by go_num,HE.out⟩
         case measure=>simp [intOf];omega
      ·have c1:¬ (c:Int)<(M:Int):=by omega
       have HU:Hid (Below w.heap.size w wz):=HLo.out.up.trans (HB.out.up.mono HLo.out.up.size);go_wp2_with (first
        | (go_at_call 11;refine Calls.mono (HOv.out _ HU.out) ?_;rintro e w9 ⟨rfl,b9⟩;have HX9:Hid (Below w.heap.size w w9):=HU.out.trans (b9.mono HU.out.size);clear b9 HU HOv))
       go_ret
       exact ⟨rfl,HX9.out⟩
  ·have HF:Hid (∀ W,Below w.heap.size w W->Calls Tryz.prog 6 #[.slice ao ys.length cap,.agg #[.int .i64 (t.u 0),.int .i64 (t.u 1),.int .i64 (t.u 2),.int .i64 (t.u 3),.int .i64 (t.l 0),.int .i64 (t.l 1),.int .i64 (t.l 2),.int .i64 (t.l 3),.int .i64 (t.b 0),.int .i64 (t.b 1),.int .i64 (t.b 2),.int .i64 (t.b 3),.int .i64 t.d]] W fun e w'=>e=.returned (.tuple #[.agg #[.int .i64 0,.slice none 0 0,.int .i64 0],.int .i64 (rgE t ys)])/\Below W.heap.size W w'):=fun W hb=>find_no ao cap ys t W (HY.out.1.below hb) HY.out.2 (HG.out.below hb HG.out.big) he;have he':(rgE t ys != 0)=true:=by simpa using he
   clear he;generalize rgE t ys=er at *;have k2:=HT.out.t;have qu0:=k2.cu 0 (by decide);have ql0:=k2.cl 0 (by decide);have qb0:=k2.cb 0 (by decide);have qu1:=k2.cu 1 (by decide);have ql1:=k2.cl 1 (by decide);have qb1:=k2.cb 1 (by decide);have qu2:=k2.cu 2 (by decide);have ql2:=k2.cl 2 (by decide);have qb2:=k2.cb 2 (by decide);have qu3:=k2.cu 3 (by decide);have ql3:=k2.cl 3 (by decide);have qb3:=k2.cb 3 (by decide);have qd:=k2.cd;have qz:=k2.lt;clear k2;go_wp2_with (first
    | (go_at_call 6;refine Calls.mono (HF.out _ HT.out.up) ?_;rintro e w2 ⟨rfl,b2⟩;have HX:Hid (Below w.heap.size w (w2.alloc (.cells #[.int .i64 0,.slice none 0 0,.int .i64 0] 29))):=(by
      have u2:Below w.heap.size w w2:=HT.out.up.trans (b2.mono HT.out.up.size);exact u2.alloc u2.size _);clear b2 HT HF qu0 qu1 qu2 qu3 ql0 ql1 ql2 ql3 qb0 qb1 qb2 qb3 qd qz)
    | (go_at_call 11;refine Calls.mono (HOv.out _ HX.out) ?_;rintro e w3 ⟨rfl,b3⟩;have HX3:Hid (Below w.heap.size w w3):=HX.out.trans (b3.mono HX.out.size);clear b3 HX HOv))
   go_ret
   exact ⟨rfl,HX3.out⟩
end Go.Proofs.YtiejdpjgplikjaaGreatDoor.Tp
