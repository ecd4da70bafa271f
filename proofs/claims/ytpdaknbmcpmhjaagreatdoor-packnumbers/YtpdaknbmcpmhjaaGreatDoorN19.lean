/- Parts Wj. -/
import Derived.Test.YtpdaknbmcpmhjaaGreatDoorN17
import Derived.Test.YtpdaknbmcpmhjaaGreatDoorN00
set_option maxRecDepth 20000
set_option maxHeartbeats 8000000
namespace Go.Proofs.YtpdaknbmcpmhjaaGreatDoor.Ls
open Go.ChangeShapes Go.WideShapes Go.ChangeAt Go.RowKit
open YtpdaknbmcpmhjaaGreatDoor.Op YtpdaknbmcpmhjaaGreatDoor.So YtpdaknbmcpmhjaaGreatDoor.Dp YtpdaknbmcpmhjaaGreatDoor.ListWay
open YtpdaknbmcpmhjaaGreatDoor.Rv (RAt Few frB tkF tk_few take_any free_any evOk NwOut new_ok)
open YtpdaknbmcpmhjaaGreatDoor.Tb (Tab TabAt Bnds)
def kpU (t:Tab) (xs:List O) (g:Nat->Int):Bool:=(List.range xs.length).all fun m=>frB t none (cntF (sysL t xs []) (cut g m)) (clN xs m:Int) (g m)
theorem kpU_no {t:Tab} {xs:List O} {g:Nat->Int} {k:Nat} (h:k<xs.length) (e:frB t none (cntF (sysL t xs []) (cut g k)) (clN xs k:Int) (g k)=false):false=kpU t xs g:=by
 symm
 refine List.all_eq_false.2 ⟨k,List.mem_range.2 h,?_⟩;rw [e]
 decide
theorem kpU_yes {t:Tab} {xs:List O} {g:Nat->Int} (h:∀ k,k<xs.length->frB t none (cntF (sysL t xs []) (cut g k)) (clN xs k:Int) (g k)=true):true=kpU t xs g:=by
 symm
 exact List.all_eq_true.2 fun k hk=>h k (List.mem_range.1 hk)
structure Ku (w W:World) (t:Tab) (rb mb m:Nat) (f:Int->Int->Int):Prop where
 ra:RAt W rb t none mb m f
 up:Below w.heap.size w W
 m0:w.heap.size<=mb
theorem Ku.next {w W W':World} {t:Tab} {rb mb m:Nat} {f:Int->Int->Int} (h:Ku w W t rb mb m f) (g:Below W.heap.size W W'):Ku w W' t rb mb m f:=⟨h.ra.up g,h.up.trans (g.mono h.up.size),h.m0⟩
theorem Ku.take {w W W':World} {t:Tab} {rb mb m m':Nat} {f f':Int->Int->Int} (h:Ku w W t rb mb m f) (g:Fr (One mb) W W') (r:RAt W' rb t none mb m' f'):Ku w W' t rb mb m' f':=⟨r,h.up.trans (g.below h.up.size fun k hk e=>by have e:k=mb:=e;have:=h.m0;omega),h.m0⟩
theorem keepUnits_any (a ao:Option Addr) (ccap cap:Nat) (xs:List O) (t:Tab) (g:Nat->Int) (w:World) (hg:Nl w a xs.length g) (hr:∀ k,k<xs.length->0<=g k/\g k<=65536) (h:OpsAt w ao xs) (hn:xs.length<=1024) (hG:Bnds w) (ht:t.ok=true) :
  Calls Tryz.prog 222 #[.slice a xs.length ccap,.slice ao xs.length cap,t.val] w fun e w'=>e=.returned (.bool (kpU t xs g))/\Below w.heap.size w w':=by
 have hck:Tb.ckR t=0:=by unfold Tb.ckR;rw [if_pos ht]
 have HNw:Hid (∀ W,Below w.heap.size w W->Calls Tryz.prog 157 #[.agg #[.int .i64 (t.u 0),.int .i64 (t.u 1),.int .i64 (t.u 2),.int .i64 (t.u 3),.int .i64 (t.l 0),.int .i64 (t.l 1),.int .i64 (t.l 2),.int .i64 (t.l 3),.int .i64 (t.b 0),.int .i64 (t.b 1),.int .i64 (t.b 2),.int .i64 (t.b 3),.int .i64 t.d]] W fun e w'=>∃ rb mb,e=.returned (.tuple #[.pointer (some ⟨rb,0,none⟩),.int .i64 0])/\RAt w' rb t none mb 0 (fun _ _=>0)/\(W.heap.size<=rb/\W.heap.size<=mb)/\Below W.heap.size W w'):=fun W hb=>new_ok t W (hG.below hb hG.big) hck;have HO:Hid (OpsAt w ao xs/\Nl w a xs.length g/\t.ok=true):=⟨h,hg,ht⟩;have HRg:Hid (∀ k,k<xs.length->0<=g k/\g k<=65536):=hr;clear h hg hr hck hG ht;obtain ⟨n,hN⟩:∃ n,xs.length=n:=⟨_,rfl⟩;have HN:Hid (xs.length=n):=hN;have hn':(n:Int)<=1024:=by omega
 rw [hN];clear hN hn;unfold Tab.val;go_enter Tryz.func222,Tryz.ntmps222;go_wp2_with (first
  | (go_at_call 157;refine Calls.mono (HNw.out _ (by go_grown)) ?_;rintro e w1 ⟨rb,mb,rfl,r1,l1,b1⟩;have HK0:Hid (Ku w w1 t rb mb 0 (fun _ _=>0)):=⟨r1,Below.trans (by go_grown) (b1.mono (by simp)),(by have:=l1.2;simp at this;omega)⟩;clear r1 l1 b1 HNw))
 go_loopw [18] (fun v wr=>∃ k m:Nat,k<=n/\v=.int .i64 k/\Ku w wr t rb mb m (cntF (sysL t xs []) (cut g k))/\Few (cntF (sysL t xs []) (cut g k))/\m<=4*k/\∀ j,j<k->frB t none (cntF (sysL t xs []) (cut g j)) (clN xs j:Int) (g j)=true) (fun v _=>n-(intOf v).toNat)
 case atStart=>exact ⟨0,0,by omega,rfl,by rw [cut_0,cntF_start];exact HK0.out,by rw [cut_0,cntF_start];exact fun _ _=>⟨Int.le_refl _,by show (0:Int)<=8;decide⟩,by omega,fun j hj=>by omega⟩
 case round=>
  rename World=>wr;obtain ⟨k,m,hk,rfl,hku,hfw,hm,hall⟩:=hrel;have HQ:Hid (Ku w wr t rb mb m (cntF (sysL t xs []) (cut g k))/\Few (cntF (sysL t xs []) (cut g k))/\m<=4*k/\∀ j,j<k->frB t none (cntF (sysL t xs []) (cut g j)) (clN xs j:Int) (g j)=true):=⟨hku,hfw,hm,hall⟩;clear hku hfw hm hall HK0
  by_cases hlt:k<n
  ·have k0:(0:Int)<=(k:Int):=by omega
   have k1:(k:Int)<(n:Int):=by omega
   have hkx:k<xs.length:=by rw [HN.out];exact hlt
   obtain ⟨b,g0,rfl,hz2,hx⟩:=(HO.out.1.below HQ.out.1.up).is (by omega);obtain ⟨q0,q1,q2,q3,q4⟩:=hx k hkx;obtain ⟨cb,cf,rfl,hcl,hcx⟩:=(HO.out.2.1.up HQ.out.1.up).is (by omega);have hck:=hcx k hkx;have HCb:Hid (cb<w.heap.size):=by
    obtain ⟨b',f',e,h1,-⟩:=HO.out.2.1.is (by omega)
    injection e with e
    injection e with e1 _ _
    rw [e1];exact h1
   obtain ⟨g1,g2⟩:=HRg.out k hkx;have HX0:Hid (Ku w (wr.alloc (.cells #[.int .i8 xs[k].op,.int .u8 xs[k].d,.int .u8 xs[k].a,.int .u8 xs[k].b,.int .i64 xs[k].im] 60)) t rb mb m (cntF (sysL t xs []) (cut g k))/\At (wr.alloc (.cells #[.int .i8 xs[k].op,.int .u8 xs[k].d,.int .u8 xs[k].a,.int .u8 xs[k].b,.int .i64 xs[k].im] 60)) wr.heap.size xs[k].cells/\(wr.alloc (.cells #[.int .i8 xs[k].op,.int .u8 xs[k].d,.int .u8 xs[k].a,.int .u8 xs[k].b,.int .i64 xs[k].im] 60)).cell? ⟨cb,cf+k,none⟩=some (.int .i64 (g k))/\cb<(wr.alloc (.cells #[.int .i8 xs[k].op,.int .u8 xs[k].d,.int .u8 xs[k].a,.int .u8 xs[k].b,.int .i64 xs[k].im] 60)).heap.size):=by
    have gg:Below wr.heap.size wr (wr.alloc (.cells #[.int .i8 xs[k].op,.int .u8 xs[k].d,.int .u8 xs[k].a,.int .u8 xs[k].b,.int .i64 xs[k].im] 60)):=(Below.refl _ _).alloc (Nat.le_refl _) _;exact ⟨HQ.out.1.next gg,At.new _ _ _,by rw [(bcell gg).1 _ _ hcl];exact hck,Nat.lt_of_lt_of_le hcl gg.size⟩
   have hobm:¬ wr.heap.size=mb:=by have:=HQ.out.1.ra.cm.lt;omega
   have hcbm:¬ cb=mb:=by have:=HQ.out.1.m0;have:=HCb.out;omega
   have HCl:Hid (∀ Z,Calls Tryz.prog 155 #[xs[k].val] Z fun e w'=>e=.returned (.int .i64 (clN xs k:Int))/\Below Z.heap.size Z w'):=fun Z=>by rw [clN_at hkx];exact classOf_any xs[k] Z
   have HTk:Hid (∀ Z,Ku w Z t rb mb m (cntF (sysL t xs []) (cut g k))->Calls Tryz.prog 219 #[.pointer (some ⟨rb,0,none⟩),.int .i64 (clN xs k:Int),.int .i64 (g k)] Z fun e w'=>e=.returned (.bool (frB t none (cntF (sysL t xs []) (cut g k)) (clN xs k:Int) (g k)))/\∃ n',RAt w' rb t none mb n' (tkF t none (cntF (sysL t xs []) (cut g k)) (clN xs k:Int) (g k))/\n'<=m+4/\Fr (One mb) Z w'):=fun Z hZ=>take_any _ _ Z hZ.ra trivial HQ.out.2.1 HO.out.2.2 (by have:=HQ.out.2.2.1;omega);have HNo:Hid (frB t none (cntF (sysL t xs []) (cut g k)) (clN xs k:Int) (g k)=false->false=kpU t xs g):=fun e=>kpU_no hkx e;have HYs:Hid (frB t none (cntF (sysL t xs []) (cut g k)) (clN xs k:Int) (g k)=true->tkF t none (cntF (sysL t xs []) (cut g k)) (clN xs k:Int) (g k)=cntF (sysL t xs []) (cut g (k+1))/\Few (cntF (sysL t xs []) (cut g (k+1)))/\∀ j,j<k+1->frB t none (cntF (sysL t xs []) (cut g j)) (clN xs j:Int) (g j)=true):=fun e=>by
    have h1:=take_sys hkx (cut_neg g k) g1 e;rw [<- cut_next] at h1;refine ⟨h1,by rw [<- h1];exact tk_few HQ.out.2.1 HO.out.2.2 _ _,fun j hj=>?_⟩;rcases Nat.lt_or_ge j k with h|h
    ·exact HQ.out.2.2.2 j h
    ·obtain rfl:j=k:=by omega
     exact e
   have HM:Hid (m<=4*k):=HQ.out.2.2.1;obtain ⟨o,hoe⟩:∃ o,xs[k]'hkx=o:=⟨_,rfl⟩;rw [hoe] at HX0 HCl q0 q1 q2 q3 q4;obtain ⟨gk,hgk⟩:∃ v,g k=v:=⟨_,rfl⟩;rw [hgk] at HX0 HTk HNo HYs g1 g2 hck;clear hx hcx hoe hgk;obtain ⟨cl,hcl2⟩:∃ cl,clN xs k=cl:=⟨_,rfl⟩;rw [hcl2] at HTk HCl HNo HYs;clear hcl2;generalize tkF t none (cntF (sysL t xs []) (cut g k)) (cl:Int) gk=f2 at *;generalize hfb:frB t none (cntF (sysL t xs []) (cut g k)) (cl:Int) gk=fb at *;generalize hff:cntF (sysL t xs []) (cut g k)=f at *;clear hff hfb;go_upto_region 5 with fail
   generalize (wr.alloc (.cells #[.int .i8 o.op,.int .u8 o.d,.int .u8 o.a,.int .u8 o.b,.int .i64 o.im] 60))=X at *;have HX:Hid (Ku w X t rb mb m f/\At X wr.heap.size #[.int .i8 o.op,.int .u8 o.d,.int .u8 o.a,.int .u8 o.b,.int .i64 o.im]/\X.cell? ⟨cb,cf+k,none⟩=some (.int .i64 gk)/\cb<X.heap.size):=HX0.out;generalize wr.heap.size=ob at *;clear HQ HX0 q0 q1 q2 q3 q4 hz2 hcl hck;refine wp_region_held_drew (S:=fun Z=>At Z ob #[.int .i8 o.op,.int .u8 o.d,.int .u8 o.a,.int .u8 o.b,.int .i64 o.im]/\Z.cell? ⟨cb,cf+k,none⟩=some (.int .i64 gk)/\cb<Z.heap.size) (by kernel_rfl) ⟨HX.out.2.1.below (drew_up _) HX.out.2.1.lt,HX.out.2.2.1,HX.out.2.2.2⟩ (fun zH=>?_);refine wg 0 (.pointer (some ⟨rb,0,none⟩)) rfl zH ?_;simp only [pq];refine wt 1 (.agg #[.int .i8 o.op,.int .u8 o.d,.int .u8 o.a,.int .u8 o.b,.int .i64 o.im]) rfl (fun w' hSw=>by (have y0:=hSw.1.c 0 _ rfl;have y1:=hSw.1.c 1 _ rfl;have y2:=hSw.1.c 2 _ rfl;have y3:=hSw.1.c 3 _ rfl;have y4:=hSw.1.c 4 _ rfl;have yl:=hSw.1.lt;go_simp)) zH ?_;simp only [pq];refine wg 3 (.slice (some ⟨cb,cf,none⟩) n ccap) rfl zH ?_;simp only [pq];refine wg 4 (.int .i64 (k:Int)) rfl zH ?_;simp only [pq];refine wg 5 (.pointer (some ⟨cb,cf+k,none⟩)) rfl zH ?_;simp only [pq];refine wt 6 (.int .i64 gk) rfl (fun w' hSw=>by (have y0:=hSw.2.1;have yl:=hSw.2.2;go_simp)) zH ?_;simp only [pq];refine wpAnyH_ready (rs:=[2]) (by kernel_rfl) (by simp) ?_;refine AllReadyH.cons rfl (fun K hK=>?_) AllReadyH.nil;go_simp
   refine Calls.mono (HCl.out _) ?_;rintro e w3 ⟨rfl,b3⟩;have HX3:Hid (Ku w w3 t rb mb m f/\At w3 ob #[.int .i8 o.op,.int .u8 o.d,.int .u8 o.a,.int .u8 o.b,.int .i64 o.im]/\w3.cell? ⟨cb,cf+k,none⟩=some (.int .i64 gk)/\cb<w3.heap.size):=⟨HX.out.1.next ((drew_up _).trans (b3.mono (Nat.le_refl _))),(HX.out.2.1.below (drew_up _) HX.out.2.1.lt).below b3 HX.out.2.1.lt,by rw [(bcell b3).1 _ _ HX.out.2.2.2];exact HX.out.2.2.1,Nat.lt_of_lt_of_le HX.out.2.2.2 b3.size⟩;clear b3 HCl;refine hK.out _ _ HX3.out.2 (fun zH=>?_);clear hK K;refine wpAnyH_ready (rs:=[7]) (by kernel_rfl) (by simp) ?_;refine AllReadyH.cons rfl (fun K hK=>?_) AllReadyH.nil;go_simp
   refine Calls.mono (HTk.out _ HX3.out.1) ?_;rintro e w4 ⟨rfl,m4,r4,l4,f4⟩;have HX4:Hid (Ku w w4 t rb mb m4 f2/\m4<=m+4):=⟨HX3.out.1.take f4 r4,l4⟩;have hS4:(fun Z=>At Z ob #[.int .i8 o.op,.int .u8 o.d,.int .u8 o.a,.int .u8 o.b,.int .i64 o.im]/\Z.cell? ⟨cb,cf+k,none⟩=some (.int .i64 gk)/\cb<Z.heap.size) w4:=⟨atFr HX3.out.2.1 f4 hobm,(f4.cell HX3.out.2.2.2 hcbm (cf+k)).trans HX3.out.2.2.1,Nat.lt_of_lt_of_le HX3.out.2.2.2 f4.size⟩;clear r4 l4 f4 HTk;refine hK.out _ _ hS4 (fun zH=>?_);clear hK K hS4;refine wg 8 (.bool (!fb)) rfl zH ?_;simp only [pq];refine wpAnyH_done (by kernel_rfl) ?_ _;clear zH
   cases fb
   ·have HR:Hid (false=kpU t xs g):=HNo.out (by simp);go_wp2_with fail
    go_ret
    exact ⟨ret_bool HR.out,HX4.out.1.up⟩
   ·have HR:Hid _:=HYs.out (by simp);go_wp2_with fail
    go_roundw
    case rel=>exact ⟨k+1,m4,by omega,by go_num,by rw [<- HR.out.1];exact HX4.out.1,HR.out.2.1,by have:=HX4.out.2;have:=HM.out;omega,HR.out.2.2⟩
    case measure=>simp [intOf];omega
  ·obtain rfl:k=n:=by omega
   have k1:¬ (k:Int)<(k:Int):=by omega
   have HR:Hid (true=kpU t xs g):=kpU_yes fun j hj=>HQ.out.2.2.2 j (by rw [<- HN.out];exact hj);go_wp2_with fail
   go_ret
   exact ⟨ret_bool HR.out,HQ.out.1.up⟩
def ckB (t:Tab) (xs:List O) (n:Nat) (g:Nat->Int):Bool:=decide (lisE t xs=0)&&hvU t xs&&decide (n=xs.length)&&(arC n g&&kpE (ofE t xs) g&&kpU t xs g)
theorem rowBase2 {W:World} {B B' e s n:Nat} {v:Value} {xs:List Value} (h:W.ownsRow B e s v n xs) (hB:B'<=B):W.ownsRow B' e s v n xs:=by
 obtain ⟨h1,h2⟩:=h;rcases h2 with h0|⟨g,cap,cur,e1,e2,e3⟩
 ·exact ⟨h1,.inl h0⟩
 ·exact ⟨h1,.inr ⟨g,cap,cur,e1,by omega,e3⟩⟩
theorem tabNx {w w1 w2:World} {t:Tab} (h:TabAt w1 w.heap.size t/\Below w.heap.size w w1) (b:Below w1.heap.size w1 w2):TabAt w2 w.heap.size t/\Below w.heap.size w w2:=⟨h.1.below b h.1.lt,h.2.trans (b.mono h.2.size)⟩
theorem check_any (a ao:Option Addr) (n ccap cap:Nat) (xs:List O) (t:Tab) (g:Nat->Int) (w:World) (hg:Nl w a n g) (h:OpsAt w ao xs) (hcap:xs.length<=cap) (hG:Bnds w) (hl:xs.length<=8796093022208) (hnn:n<=9000000000000000000) :
  Calls Tryz.prog 163 #[.slice ao xs.length cap,t.val,.slice a n ccap] w fun e w'=>e=.returned (.bool (ckB t xs n g))/\Below w.heap.size w w':=by
 have HOf:Hid (∀ W,Below w.heap.size w W->Calls Tryz.prog 156 #[.slice ao xs.length cap,.agg #[.int .i64 (t.u 0),.int .i64 (t.u 1),.int .i64 (t.u 2),.int .i64 (t.u 3),.int .i64 (t.l 0),.int .i64 (t.l 1),.int .i64 (t.l 2),.int .i64 (t.l 3),.int .i64 (t.b 0),.int .i64 (t.b 1),.int .i64 (t.b 2),.int .i64 (t.b 3),.int .i64 t.d]] W (EdOut W (lisE t xs) (erE t xs (ofE t xs)))):=fun W hb=>of_any ao cap xs t W (h.below hb) hcap (hG.below hb hG.big);have hli:(xs.length:Int)<=8796093022208:=by omega
 have hni:(n:Int)<=9000000000000000000:=by omega
 by_cases he:lisE t xs=0
 ·obtain ⟨ht,hn,hok⟩:=lis_all he;have HEO:Hid (EOk xs.length (ofE t xs)):=ofE_ok t xs (pts_ok t xs (fun o ho=>⟨h.ok o ho,okL_okO (hok o ho)⟩) ht);have HLn:Hid ((ofE t xs).length<=100000000):=Nat.le_trans (withinE_len _ _ _ hn) (by omega);have hes:erE t xs (ofE t xs)=ofE t xs:=by unfold erE;rw [if_pos he]
  rw [hes,he] at HOf;obtain ⟨M,hM⟩:∃ M,(ofE t xs).length=M:=⟨_,rfl⟩;have HM:Hid ((ofE t xs).length=M):=hM;have HOf2:Hid (∀ W,Below w.heap.size w W->Calls Tryz.prog 156 #[.slice ao xs.length cap,.agg #[.int .i64 (t.u 0),.int .i64 (t.u 1),.int .i64 (t.u 2),.int .i64 (t.u 3),.int .i64 (t.l 0),.int .i64 (t.l 1),.int .i64 (t.l 2),.int .i64 (t.l 3),.int .i64 (t.b 0),.int .i64 (t.b 1),.int .i64 (t.b 2),.int .i64 (t.b 3),.int .i64 t.d]] W fun e w'=>∃ a c,e=.returned (.tuple #[.slice a M c,.int .i64 0])/\EOwn W.heap.size w' a c (ofE t xs)/\Below W.heap.size W w'):=fun W hb=>by
   have:=HOf.out W hb
   rw [<- HM.out];exact this
  have HU:Hid (∀ W,Below w.heap.size w W->Calls Tryz.prog 88 #[.slice ao xs.length cap,.agg #[.int .i64 (t.u 0),.int .i64 (t.u 1),.int .i64 (t.u 2),.int .i64 (t.u 3),.int .i64 (t.l 0),.int .i64 (t.l 1),.int .i64 (t.l 2),.int .i64 (t.l 3),.int .i64 (t.b 0),.int .i64 (t.b 1),.int .i64 (t.b 2),.int .i64 (t.b 3),.int .i64 t.d]] W fun e w'=>e=.returned (.bool (hvU t xs))/\Below W.heap.size W w'):=fun W hb=>haveUnits_any ao cap xs t W (h.below hb) hn;have hcb:ckB t xs n g=(hvU t xs&&decide (n=xs.length)&&(arC n g&&kpE (ofE t xs) g&&kpU t xs g)):=by unfold ckB;rw [he];rfl
  rw [hcb];clear hcb HOf hes hM
  by_cases hnx:n=xs.length
  ·subst hnx;have HA:Hid (∀ W,Below w.heap.size w W->Calls Tryz.prog 220 #[.slice a xs.length ccap] W fun e w'=>e=.returned (.bool (arC xs.length g))/\Below W.heap.size W w'):=fun W hb=>areCycles_any a xs.length ccap g W (hg.up hb) (by omega);have HE:Hid (∀ W ea ec,Below w.heap.size w W->EOwn w.heap.size W ea ec (ofE t xs)->arC xs.length g=true->Calls Tryz.prog 221 #[.slice a xs.length ccap,.slice ea M ec] W fun e w'=>e=.returned (.bool (kpE (ofE t xs) g))/\Below W.heap.size W w'):=fun W ea ec hb hW ha=>by
    rw [<- HM.out];exact keepEdges_any a xs.length ccap g ea ec w.heap.size (ofE t xs) W (hg.up hb) (arC_all ha) hW HEO.out HLn.out hn
   have HK:Hid (∀ W,Below w.heap.size w W->arC xs.length g=true->Calls Tryz.prog 222 #[.slice a xs.length ccap,.slice ao xs.length cap,.agg #[.int .i64 (t.u 0),.int .i64 (t.u 1),.int .i64 (t.u 2),.int .i64 (t.u 3),.int .i64 (t.l 0),.int .i64 (t.l 1),.int .i64 (t.l 2),.int .i64 (t.l 3),.int .i64 (t.b 0),.int .i64 (t.b 1),.int .i64 (t.b 2),.int .i64 (t.b 3),.int .i64 t.d]] W fun e w'=>e=.returned (.bool (kpU t xs g))/\Below W.heap.size W w'):=fun W hb ha=>keepUnits_any a ao ccap cap xs t g W (hg.up hb) (arC_all ha) (h.below hb) hn (hG.below hb hG.big) ht;have hdn:decide (xs.length=xs.length)=true:=by simp
   rw [hdn];clear h hcap hG hok he ht hg hdn HEO HLn;generalize arC xs.length g=ba at *;generalize kpE (ofE t xs) g=be at *;generalize kpU t xs g=bk at *;generalize hvU t xs=bu at *;generalize ofE t xs=es at *;unfold Tab.val
   cases bu
   ·go_enter Tryz.func163,Tryz.ntmps163;go_wp2_with (first
     | (go_at_call 156;refine Calls.mono (HOf2.out _ (by go_grown)) ?_;rintro e w1 ⟨a1,c1,rfl,o1,b1⟩;have HT:Hid (TabAt w1 w.heap.size t/\Below w.heap.size w w1/\EOwn w.heap.size w1 a1 c1 es):=⟨(Tb.tabAt_new w t 27).below b1 (by simp),Below.trans (by go_grown) (b1.mono (by simp)),rowBase2 o1 (by simp)⟩;clear o1 b1 HOf2;have k2:=HT.out.1;have qu0:=k2.cu 0 (by decide);have qu1:=k2.cu 1 (by decide);have qu2:=k2.cu 2 (by decide);have qu3:=k2.cu 3 (by decide);have ql0:=k2.cl 0 (by decide);have ql1:=k2.cl 1 (by decide);have ql2:=k2.cl 2 (by decide);have ql3:=k2.cl 3 (by decide);have qb0:=k2.cb 0 (by decide);have qb1:=k2.cb 1 (by decide);have qb2:=k2.cb 2 (by decide);have qb3:=k2.cb 3 (by decide);have qd:=k2.cd;have qz:=k2.lt;clear k2)
     | (go_at_call 88;refine Calls.mono (HU.out _ HT.out.2.1) ?_;rintro e w2 ⟨rfl,b2⟩;have HT2:Hid (TabAt w2 w.heap.size t/\Below w.heap.size w w2):=tabNx ⟨HT.out.1,HT.out.2.1⟩ b2;have HE2:Hid (EOwn w.heap.size w2 a1 c1 es):=row_up HT.out.2.2 b2;clear b2 HU HT qu0 qu1 qu2 qu3 ql0 ql1 ql2 ql3 qb0 qb1 qb2 qb3 qd qz)
     | (go_at_call 220;refine Calls.mono (HA.out _ HT2.out.2) ?_;rintro e w3 ⟨rfl,b3⟩;have HT3:Hid (TabAt w3 w.heap.size t/\Below w.heap.size w w3):=tabNx HT2.out b3;have HE3:Hid (EOwn w.heap.size w3 a1 c1 es):=row_up HE2.out b3;clear b3 HA HT2 HE2)
     | (go_at_call 221;refine Calls.mono (HE.out _ a1 c1 HT3.out.2 HE3.out (by simp)) ?_;rintro e w4 ⟨rfl,b4⟩;have HT4:Hid (TabAt w4 w.heap.size t/\Below w.heap.size w w4):=tabNx HT3.out b4;clear b4 HE HT3 HE3;have k2:=HT4.out.1;have qu0:=k2.cu 0 (by decide);have qu1:=k2.cu 1 (by decide);have qu2:=k2.cu 2 (by decide);have qu3:=k2.cu 3 (by decide);have ql0:=k2.cl 0 (by decide);have ql1:=k2.cl 1 (by decide);have ql2:=k2.cl 2 (by decide);have ql3:=k2.cl 3 (by decide);have qb0:=k2.cb 0 (by decide);have qb1:=k2.cb 1 (by decide);have qb2:=k2.cb 2 (by decide);have qb3:=k2.cb 3 (by decide);have qd:=k2.cd;have qz:=k2.lt;clear k2)
     | (go_at_call 222;refine Calls.mono (HK.out _ HT4.out.2 (by simp)) ?_;rintro e w5 ⟨rfl,b5⟩;have HT5:Hid (TabAt w5 w.heap.size t/\Below w.heap.size w w5):=tabNx HT4.out b5;clear b5 HK HT4 qu0 qu1 qu2 qu3 ql0 ql1 ql2 ql3 qb0 qb1 qb2 qb3 qd qz))
    go_ret
    exact ⟨rfl,HT2.out.2⟩
   ·cases ba
    ·go_enter Tryz.func163,Tryz.ntmps163;go_wp2_with (first
     | (go_at_call 156;refine Calls.mono (HOf2.out _ (by go_grown)) ?_;rintro e w1 ⟨a1,c1,rfl,o1,b1⟩;have HT:Hid (TabAt w1 w.heap.size t/\Below w.heap.size w w1/\EOwn w.heap.size w1 a1 c1 es):=⟨(Tb.tabAt_new w t 27).below b1 (by simp),Below.trans (by go_grown) (b1.mono (by simp)),rowBase2 o1 (by simp)⟩;clear o1 b1 HOf2;have k2:=HT.out.1;have qu0:=k2.cu 0 (by decide);have qu1:=k2.cu 1 (by decide);have qu2:=k2.cu 2 (by decide);have qu3:=k2.cu 3 (by decide);have ql0:=k2.cl 0 (by decide);have ql1:=k2.cl 1 (by decide);have ql2:=k2.cl 2 (by decide);have ql3:=k2.cl 3 (by decide);have qb0:=k2.cb 0 (by decide);have qb1:=k2.cb 1 (by decide);have qb2:=k2.cb 2 (by decide);have qb3:=k2.cb 3 (by decide);have qd:=k2.cd;have qz:=k2.lt;clear k2)
     | (go_at_call 88;refine Calls.mono (HU.out _ HT.out.2.1) ?_;rintro e w2 ⟨rfl,b2⟩;have HT2:Hid (TabAt w2 w.heap.size t/\Below w.heap.size w w2):=tabNx ⟨HT.out.1,HT.out.2.1⟩ b2;have HE2:Hid (EOwn w.heap.size w2 a1 c1 es):=row_up HT.out.2.2 b2;clear b2 HU HT qu0 qu1 qu2 qu3 ql0 ql1 ql2 ql3 qb0 qb1 qb2 qb3 qd qz)
     | (go_at_call 220;refine Calls.mono (HA.out _ HT2.out.2) ?_;rintro e w3 ⟨rfl,b3⟩;have HT3:Hid (TabAt w3 w.heap.size t/\Below w.heap.size w w3):=tabNx HT2.out b3;have HE3:Hid (EOwn w.heap.size w3 a1 c1 es):=row_up HE2.out b3;clear b3 HA HT2 HE2)
     | (go_at_call 221;refine Calls.mono (HE.out _ a1 c1 HT3.out.2 HE3.out (by simp)) ?_;rintro e w4 ⟨rfl,b4⟩;have HT4:Hid (TabAt w4 w.heap.size t/\Below w.heap.size w w4):=tabNx HT3.out b4;clear b4 HE HT3 HE3;have k2:=HT4.out.1;have qu0:=k2.cu 0 (by decide);have qu1:=k2.cu 1 (by decide);have qu2:=k2.cu 2 (by decide);have qu3:=k2.cu 3 (by decide);have ql0:=k2.cl 0 (by decide);have ql1:=k2.cl 1 (by decide);have ql2:=k2.cl 2 (by decide);have ql3:=k2.cl 3 (by decide);have qb0:=k2.cb 0 (by decide);have qb1:=k2.cb 1 (by decide);have qb2:=k2.cb 2 (by decide);have qb3:=k2.cb 3 (by decide);have qd:=k2.cd;have qz:=k2.lt;clear k2)
     | (go_at_call 222;refine Calls.mono (HK.out _ HT4.out.2 (by simp)) ?_;rintro e w5 ⟨rfl,b5⟩;have HT5:Hid (TabAt w5 w.heap.size t/\Below w.heap.size w w5):=tabNx HT4.out b5;clear b5 HK HT4 qu0 qu1 qu2 qu3 ql0 ql1 ql2 ql3 qb0 qb1 qb2 qb3 qd qz))
     go_ret
     exact ⟨rfl,HT3.out.2⟩
    ·cases be
     ·go_enter Tryz.func163,Tryz.ntmps163;go_wp2_with (first
     | (go_at_call 156;refine Calls.mono (HOf2.out _ (by go_grown)) ?_;rintro e w1 ⟨a1,c1,rfl,o1,b1⟩;have HT:Hid (TabAt w1 w.heap.size t/\Below w.heap.size w w1/\EOwn w.heap.size w1 a1 c1 es):=⟨(Tb.tabAt_new w t 27).below b1 (by simp),Below.trans (by go_grown) (b1.mono (by simp)),rowBase2 o1 (by simp)⟩;clear o1 b1 HOf2;have k2:=HT.out.1;have qu0:=k2.cu 0 (by decide);have qu1:=k2.cu 1 (by decide);have qu2:=k2.cu 2 (by decide);have qu3:=k2.cu 3 (by decide);have ql0:=k2.cl 0 (by decide);have ql1:=k2.cl 1 (by decide);have ql2:=k2.cl 2 (by decide);have ql3:=k2.cl 3 (by decide);have qb0:=k2.cb 0 (by decide);have qb1:=k2.cb 1 (by decide);have qb2:=k2.cb 2 (by decide);have qb3:=k2.cb 3 (by decide);have qd:=k2.cd;have qz:=k2.lt;clear k2)
     | (go_at_call 88;refine Calls.mono (HU.out _ HT.out.2.1) ?_;rintro e w2 ⟨rfl,b2⟩;have HT2:Hid (TabAt w2 w.heap.size t/\Below w.heap.size w w2):=tabNx ⟨HT.out.1,HT.out.2.1⟩ b2;have HE2:Hid (EOwn w.heap.size w2 a1 c1 es):=row_up HT.out.2.2 b2;clear b2 HU HT qu0 qu1 qu2 qu3 ql0 ql1 ql2 ql3 qb0 qb1 qb2 qb3 qd qz)
     | (go_at_call 220;refine Calls.mono (HA.out _ HT2.out.2) ?_;rintro e w3 ⟨rfl,b3⟩;have HT3:Hid (TabAt w3 w.heap.size t/\Below w.heap.size w w3):=tabNx HT2.out b3;have HE3:Hid (EOwn w.heap.size w3 a1 c1 es):=row_up HE2.out b3;clear b3 HA HT2 HE2)
     | (go_at_call 221;refine Calls.mono (HE.out _ a1 c1 HT3.out.2 HE3.out (by simp)) ?_;rintro e w4 ⟨rfl,b4⟩;have HT4:Hid (TabAt w4 w.heap.size t/\Below w.heap.size w w4):=tabNx HT3.out b4;clear b4 HE HT3 HE3;have k2:=HT4.out.1;have qu0:=k2.cu 0 (by decide);have qu1:=k2.cu 1 (by decide);have qu2:=k2.cu 2 (by decide);have qu3:=k2.cu 3 (by decide);have ql0:=k2.cl 0 (by decide);have ql1:=k2.cl 1 (by decide);have ql2:=k2.cl 2 (by decide);have ql3:=k2.cl 3 (by decide);have qb0:=k2.cb 0 (by decide);have qb1:=k2.cb 1 (by decide);have qb2:=k2.cb 2 (by decide);have qb3:=k2.cb 3 (by decide);have qd:=k2.cd;have qz:=k2.lt;clear k2)
     | (go_at_call 222;refine Calls.mono (HK.out _ HT4.out.2 (by simp)) ?_;rintro e w5 ⟨rfl,b5⟩;have HT5:Hid (TabAt w5 w.heap.size t/\Below w.heap.size w w5):=tabNx HT4.out b5;clear b5 HK HT4 qu0 qu1 qu2 qu3 ql0 ql1 ql2 ql3 qb0 qb1 qb2 qb3 qd qz))
      go_ret
      exact ⟨rfl,HT4.out.2⟩
     ·go_enter Tryz.func163,Tryz.ntmps163;go_wp2_with (first
     | (go_at_call 156;refine Calls.mono (HOf2.out _ (by go_grown)) ?_;rintro e w1 ⟨a1,c1,rfl,o1,b1⟩;have HT:Hid (TabAt w1 w.heap.size t/\Below w.heap.size w w1/\EOwn w.heap.size w1 a1 c1 es):=⟨(Tb.tabAt_new w t 27).below b1 (by simp),Below.trans (by go_grown) (b1.mono (by simp)),rowBase2 o1 (by simp)⟩;clear o1 b1 HOf2;have k2:=HT.out.1;have qu0:=k2.cu 0 (by decide);have qu1:=k2.cu 1 (by decide);have qu2:=k2.cu 2 (by decide);have qu3:=k2.cu 3 (by decide);have ql0:=k2.cl 0 (by decide);have ql1:=k2.cl 1 (by decide);have ql2:=k2.cl 2 (by decide);have ql3:=k2.cl 3 (by decide);have qb0:=k2.cb 0 (by decide);have qb1:=k2.cb 1 (by decide);have qb2:=k2.cb 2 (by decide);have qb3:=k2.cb 3 (by decide);have qd:=k2.cd;have qz:=k2.lt;clear k2)
     | (go_at_call 88;refine Calls.mono (HU.out _ HT.out.2.1) ?_;rintro e w2 ⟨rfl,b2⟩;have HT2:Hid (TabAt w2 w.heap.size t/\Below w.heap.size w w2):=tabNx ⟨HT.out.1,HT.out.2.1⟩ b2;have HE2:Hid (EOwn w.heap.size w2 a1 c1 es):=row_up HT.out.2.2 b2;clear b2 HU HT qu0 qu1 qu2 qu3 ql0 ql1 ql2 ql3 qb0 qb1 qb2 qb3 qd qz)
     | (go_at_call 220;refine Calls.mono (HA.out _ HT2.out.2) ?_;rintro e w3 ⟨rfl,b3⟩;have HT3:Hid (TabAt w3 w.heap.size t/\Below w.heap.size w w3):=tabNx HT2.out b3;have HE3:Hid (EOwn w.heap.size w3 a1 c1 es):=row_up HE2.out b3;clear b3 HA HT2 HE2)
     | (go_at_call 221;refine Calls.mono (HE.out _ a1 c1 HT3.out.2 HE3.out (by simp)) ?_;rintro e w4 ⟨rfl,b4⟩;have HT4:Hid (TabAt w4 w.heap.size t/\Below w.heap.size w w4):=tabNx HT3.out b4;clear b4 HE HT3 HE3;have k2:=HT4.out.1;have qu0:=k2.cu 0 (by decide);have qu1:=k2.cu 1 (by decide);have qu2:=k2.cu 2 (by decide);have qu3:=k2.cu 3 (by decide);have ql0:=k2.cl 0 (by decide);have ql1:=k2.cl 1 (by decide);have ql2:=k2.cl 2 (by decide);have ql3:=k2.cl 3 (by decide);have qb0:=k2.cb 0 (by decide);have qb1:=k2.cb 1 (by decide);have qb2:=k2.cb 2 (by decide);have qb3:=k2.cb 3 (by decide);have qd:=k2.cd;have qz:=k2.lt;clear k2)
     | (go_at_call 222;refine Calls.mono (HK.out _ HT4.out.2 (by simp)) ?_;rintro e w5 ⟨rfl,b5⟩;have HT5:Hid (TabAt w5 w.heap.size t/\Below w.heap.size w w5):=tabNx HT4.out b5;clear b5 HK HT4 qu0 qu1 qu2 qu3 ql0 ql1 ql2 ql3 qb0 qb1 qb2 qb3 qd qz))
      go_ret
      exact ⟨by simp,HT5.out.2⟩
  ·have hni2:¬ (n:Int)=(xs.length:Int):=by omega
   have hnb:((n:Int) != (xs.length:Int))=true:=by simpa using hni2
   have hdn:decide (n=xs.length)=false:=by simpa using hnx
   rw [hdn];have HR:Hid (false=(hvU t xs&&false&&(arC n g&&kpE (ofE t xs) g&&kpU t xs g))):=by show false=_;simp
   rw [<- HR.out];clear h hcap hG hok he ht hg hdn HEO HLn HR;generalize hvU t xs=bu at *;generalize ofE t xs=es at *;unfold Tab.val
   cases bu
   ·go_enter Tryz.func163,Tryz.ntmps163;go_wp2_with (first
     | (go_at_call 156;refine Calls.mono (HOf2.out _ (by go_grown)) ?_;rintro e w1 ⟨a1,c1,rfl,o1,b1⟩;have HT:Hid (TabAt w1 w.heap.size t/\Below w.heap.size w w1/\EOwn w.heap.size w1 a1 c1 es):=⟨(Tb.tabAt_new w t 27).below b1 (by simp),Below.trans (by go_grown) (b1.mono (by simp)),rowBase2 o1 (by simp)⟩;clear o1 b1 HOf2;have k2:=HT.out.1;have qu0:=k2.cu 0 (by decide);have qu1:=k2.cu 1 (by decide);have qu2:=k2.cu 2 (by decide);have qu3:=k2.cu 3 (by decide);have ql0:=k2.cl 0 (by decide);have ql1:=k2.cl 1 (by decide);have ql2:=k2.cl 2 (by decide);have ql3:=k2.cl 3 (by decide);have qb0:=k2.cb 0 (by decide);have qb1:=k2.cb 1 (by decide);have qb2:=k2.cb 2 (by decide);have qb3:=k2.cb 3 (by decide);have qd:=k2.cd;have qz:=k2.lt;clear k2)
     | (go_at_call 88;refine Calls.mono (HU.out _ HT.out.2.1) ?_;rintro e w2 ⟨rfl,b2⟩;have HT2:Hid (TabAt w2 w.heap.size t/\Below w.heap.size w w2):=tabNx ⟨HT.out.1,HT.out.2.1⟩ b2;have HE2:Hid (EOwn w.heap.size w2 a1 c1 es):=row_up HT.out.2.2 b2;clear b2 HU HT qu0 qu1 qu2 qu3 ql0 ql1 ql2 ql3 qb0 qb1 qb2 qb3 qd qz)
     | (go_at_call 220;refine Calls.mono (HA.out _ HT2.out.2) ?_;rintro e w3 ⟨rfl,b3⟩;have HT3:Hid (TabAt w3 w.heap.size t/\Below w.heap.size w w3):=tabNx HT2.out b3;have HE3:Hid (EOwn w.heap.size w3 a1 c1 es):=row_up HE2.out b3;clear b3 HA HT2 HE2)
     | (go_at_call 221;refine Calls.mono (HE.out _ a1 c1 HT3.out.2 HE3.out (by simp)) ?_;rintro e w4 ⟨rfl,b4⟩;have HT4:Hid (TabAt w4 w.heap.size t/\Below w.heap.size w w4):=tabNx HT3.out b4;clear b4 HE HT3 HE3;have k2:=HT4.out.1;have qu0:=k2.cu 0 (by decide);have qu1:=k2.cu 1 (by decide);have qu2:=k2.cu 2 (by decide);have qu3:=k2.cu 3 (by decide);have ql0:=k2.cl 0 (by decide);have ql1:=k2.cl 1 (by decide);have ql2:=k2.cl 2 (by decide);have ql3:=k2.cl 3 (by decide);have qb0:=k2.cb 0 (by decide);have qb1:=k2.cb 1 (by decide);have qb2:=k2.cb 2 (by decide);have qb3:=k2.cb 3 (by decide);have qd:=k2.cd;have qz:=k2.lt;clear k2)
     | (go_at_call 222;refine Calls.mono (HK.out _ HT4.out.2 (by simp)) ?_;rintro e w5 ⟨rfl,b5⟩;have HT5:Hid (TabAt w5 w.heap.size t/\Below w.heap.size w w5):=tabNx HT4.out b5;clear b5 HK HT4 qu0 qu1 qu2 qu3 ql0 ql1 ql2 ql3 qb0 qb1 qb2 qb3 qd qz))
    go_ret
    exact ⟨rfl,HT2.out.2⟩
   ·go_enter Tryz.func163,Tryz.ntmps163;go_wp2_with (first
     | (go_at_call 156;refine Calls.mono (HOf2.out _ (by go_grown)) ?_;rintro e w1 ⟨a1,c1,rfl,o1,b1⟩;have HT:Hid (TabAt w1 w.heap.size t/\Below w.heap.size w w1/\EOwn w.heap.size w1 a1 c1 es):=⟨(Tb.tabAt_new w t 27).below b1 (by simp),Below.trans (by go_grown) (b1.mono (by simp)),rowBase2 o1 (by simp)⟩;clear o1 b1 HOf2;have k2:=HT.out.1;have qu0:=k2.cu 0 (by decide);have qu1:=k2.cu 1 (by decide);have qu2:=k2.cu 2 (by decide);have qu3:=k2.cu 3 (by decide);have ql0:=k2.cl 0 (by decide);have ql1:=k2.cl 1 (by decide);have ql2:=k2.cl 2 (by decide);have ql3:=k2.cl 3 (by decide);have qb0:=k2.cb 0 (by decide);have qb1:=k2.cb 1 (by decide);have qb2:=k2.cb 2 (by decide);have qb3:=k2.cb 3 (by decide);have qd:=k2.cd;have qz:=k2.lt;clear k2)
     | (go_at_call 88;refine Calls.mono (HU.out _ HT.out.2.1) ?_;rintro e w2 ⟨rfl,b2⟩;have HT2:Hid (TabAt w2 w.heap.size t/\Below w.heap.size w w2):=tabNx ⟨HT.out.1,HT.out.2.1⟩ b2;have HE2:Hid (EOwn w.heap.size w2 a1 c1 es):=row_up HT.out.2.2 b2;clear b2 HU HT qu0 qu1 qu2 qu3 ql0 ql1 ql2 ql3 qb0 qb1 qb2 qb3 qd qz)
     | (go_at_call 220;refine Calls.mono (HA.out _ HT2.out.2) ?_;rintro e w3 ⟨rfl,b3⟩;have HT3:Hid (TabAt w3 w.heap.size t/\Below w.heap.size w w3):=tabNx HT2.out b3;have HE3:Hid (EOwn w.heap.size w3 a1 c1 es):=row_up HE2.out b3;clear b3 HA HT2 HE2)
     | (go_at_call 221;refine Calls.mono (HE.out _ a1 c1 HT3.out.2 HE3.out (by simp)) ?_;rintro e w4 ⟨rfl,b4⟩;have HT4:Hid (TabAt w4 w.heap.size t/\Below w.heap.size w w4):=tabNx HT3.out b4;clear b4 HE HT3 HE3;have k2:=HT4.out.1;have qu0:=k2.cu 0 (by decide);have qu1:=k2.cu 1 (by decide);have qu2:=k2.cu 2 (by decide);have qu3:=k2.cu 3 (by decide);have ql0:=k2.cl 0 (by decide);have ql1:=k2.cl 1 (by decide);have ql2:=k2.cl 2 (by decide);have ql3:=k2.cl 3 (by decide);have qb0:=k2.cb 0 (by decide);have qb1:=k2.cb 1 (by decide);have qb2:=k2.cb 2 (by decide);have qb3:=k2.cb 3 (by decide);have qd:=k2.cd;have qz:=k2.lt;clear k2)
     | (go_at_call 222;refine Calls.mono (HK.out _ HT4.out.2 (by simp)) ?_;rintro e w5 ⟨rfl,b5⟩;have HT5:Hid (TabAt w5 w.heap.size t/\Below w.heap.size w w5):=tabNx HT4.out b5;clear b5 HK HT4 qu0 qu1 qu2 qu3 ql0 ql1 ql2 ql3 qb0 qb1 qb2 qb3 qd qz))
    go_ret
    exact ⟨rfl,HT2.out.2⟩
 ·have hcb:ckB t xs n g=false:=by unfold ckB;rw [decide_eq_false he];simp
  rw [hcb];have hne:(lisE t xs != 0)=true:=by simpa using he
  have hee:(lisE t xs==0)=false:=by simpa using he
  clear h hcap hG hg hcb;unfold EdOut at HOf;generalize lisE t xs=er at *;generalize erE t xs (ofE t xs)=es at *;unfold Tab.val;go_enter Tryz.func163,Tryz.ntmps163;go_wp2_with (first
   | (go_at_call 156;refine Calls.mono (HOf.out _ (by go_grown)) ?_;rintro e w1 ⟨a1,c1,rfl,o1,b1⟩;have HB1:Hid (Below w.heap.size w w1):=Below.trans (by go_grown) (b1.mono (by simp));clear o1 b1 HOf))
  go_ret
  exact ⟨rfl,HB1.out⟩
end Go.Proofs.YtpdaknbmcpmhjaaGreatDoor.Ls
