/- Parts Wd. -/
import Derived.Test.YtpdaknbmcpmhjaaGreatDoorN15
import Derived.Test.YtpdaknbmcpmhjaaGreatDoorN00
set_option maxRecDepth 20000
set_option maxHeartbeats 16000000
namespace Go.Proofs.YtpdaknbmcpmhjaaGreatDoor.Ls
open Go.ChangeShapes Go.WideShapes Go.ChangeAt Go.RowKit
open YtpdaknbmcpmhjaaGreatDoor.Op YtpdaknbmcpmhjaaGreatDoor.So YtpdaknbmcpmhjaaGreatDoor.Dp YtpdaknbmcpmhjaaGreatDoor.ListWay
open YtpdaknbmcpmhjaaGreatDoor.Rv (RAt Few frB tkF tk_few take_any free_any evOk)
open YtpdaknbmcpmhjaaGreatDoor.Tb (Tab TabAt Bnds)
def eg (e:Ed):Eg:=⟨e.f.toNat,e.t.toNat,e.l⟩
theorem plW_low {A:List Eg} {W:Nat->Int} (hW:∀ j,0<=W j/\W j<=100000000) (hA:A.length<=100000000) (k j:Nat) : -100000000<=plW (A.take k) W j/\plW (A.take k) W j<=100000000:=by
 rw [plW_is];have h1:=hW j;have h2:=List.countP_le_length (p:=fun e:Eg=>decide (e.t=j)) (l:=A.take k);rw [List.length_take] at h2;omega
theorem plF_in {A:List Eg} {F:Nat->Int} {y:Int} (hF:∀ j,0<=F j/\F j<=100000) (hy:y<=65536) (hA:∀ e∈A,0<=e.l/\e.l<=8) (k j:Nat):0<=plF y (A.take k) F j/\plF y (A.take k) F j<=100000:=by
 refine ⟨?_,?_⟩
 ·have h:=(plF_is y j (plF y (A.take k) F j) (A.take k) F).1 (Int.le_refl _)
  have:=(hF j).1
  omega
 ·refine (plF_is y j 100000 (A.take k) F).2 ⟨(hF j).2,fun e he _=>?_⟩
  have:=(hA e (List.mem_of_mem_take he)).2
  omega
theorem place_any {w0 W:World} {d:Dt} {ao:Option Addr} {cap:Nat} {t:Tab} {xs:List O} {es:List Ed} {m:Nat} {f:Int->Int->Int} {C Wt Ff:Nat->Int} (i:Nat) (y:Int) (h:Wy w0 W d ao cap t xs es m f C Wt Ff) (hi:i<xs.length) (hy0:0<=y) (hy1:y<=65536) (hE:EOk xs.length es) (hl:es.length<=100000000) (hn:xs.length<=1024) (ht:t.ok=true) (hf:Few f) (hm:m<=1000000) (hWb:∀ j,0<=Wt j/\Wt j<=100000000) (hFb:∀ j,0<=Ff j/\Ff j<=100000) :
  Calls Tryz.prog 160 #[.pointer (some ⟨d.wb,0,none⟩),.int .i64 (i:Int),.int .i64 y] W fun e w'=>e=.returned (.tuple #[])/\∃ m',Wy w0 w' d ao cap t xs es m' (tkF t none f (clD xs[i].op:Int) y) (updI C i y) (plW ((frm es i).map eg) Wt) (plF y ((frm es i).map eg) Ff)/\m'<=m+4/\Fr (Tw d) W w':=by
 obtain ⟨b,g,rfl,hbz,hops⟩:=(h.op.below h.up).is (by omega);have hbl:b<w0.heap.size:=by
  obtain ⟨b',g',e,h1,-⟩:=h.op.is (by omega)
  injection e with e
  injection e with e1 _ _
  rw [e1];exact h1
 have hop0:∀ Z,Below w0.heap.size w0 Z->OAt Z b (g+i*5) xs[i]:=fun Z hZ=>by
  obtain ⟨b',g',e,h1,h2⟩:=h.op.is (by omega)
  injection e with e
  injection e with e1 e2 _
  subst e1 e2;exact (h2 i hi).below hZ h1
 have HTk:Hid (∀ Z,Wy w0 Z d (some ⟨b,g,none⟩) cap t xs es m f (updI C i y) Wt Ff->Calls Tryz.prog 219 #[.pointer (some ⟨d.rb,0,none⟩),.int .i64 (clD xs[i].op:Int),.int .i64 y] Z fun e w'=>e=.returned (.bool (frB t none f (clD xs[i].op:Int) y))/\∃ n',RAt w' d.rb t none d.mb n' (tkF t none f (clD xs[i].op:Int) y)/\n'<=m+4/\Fr (One d.mb) Z w'):=fun Z hZ=>take_any _ _ Z hZ.ra trivial hf ht hm;have HCl:Hid (∀ Z,Calls Tryz.prog 155 #[.agg #[.int .i8 xs[i].op,.int .u8 xs[i].d,.int .u8 xs[i].a,.int .u8 xs[i].b,.int .i64 xs[i].im]] Z fun e w'=>e=.returned (.int .i64 (clD xs[i].op:Int))/\Below Z.heap.size Z w'):=fun Z=>classOf_any xs[i] Z;obtain ⟨ea,ec,hV,hrow⟩:=eOwn_of (h.rw i hi) (Nat.le_refl _);have HRw:Hid (∀ Z,Wy w0 Z d (some ⟨b,g,none⟩) cap t xs es m f C Wt Ff->True):=fun _ _=>trivial;have hm1:∀ e∈frm es i,e∈es:=fun e he=>(List.mem_filter.1 he).1;have HEd:Hid (∀ e∈frm es i,0<=e.t/\e.t<xs.length/\0<=e.l/\e.l<=8):=fun e he=>by
  have h1:=hm1 e he
  have:=hE.f0 e h1
  have:=hE.ft e h1
  have:=hE.tn e h1
  have:=hE.l0 e h1
  exact ⟨by omega,by omega,this⟩
 obtain ⟨M,hM⟩:∃ M,(frm es i).length=M:=⟨_,rfl⟩;have hMl:M<=100000000:=by rw [<- hM];exact Nat.le_trans (List.length_filter_le ..) hl
 have HM:Hid ((frm es i).length=M):=hM;obtain ⟨A,hA⟩:∃ A,(frm es i).map eg=A:=⟨_,rfl⟩;have hAl:A.length=M:=by rw [<- hA,List.length_map,hM]
 have hAl8:∀ e∈A,0<=e.l/\e.l<=8:=fun e he=>by
  rw [<- hA] at he;obtain ⟨x,hx,rfl⟩:=List.mem_map.1 he;exact (HEd.out x hx).2.2
 have HAk:Hid (∀ k (hk:k<(frm es i).length) (hk2:k<A.length),A[k]=eg (frm es i)[k]):=fun k hk hk2=>by subst hA;simp
 have HWb:Hid (∀ k j,-100000000<=plW (A.take k) Wt j/\plW (A.take k) Wt j<=100000000):=plW_low hWb (by omega);have HFb:Hid (∀ k j,0<=plF y (A.take k) Ff j/\plF y (A.take k) Ff j<=100000):=plF_in hFb hy1 hAl8;rw [hA];have HV:Hid (d.V i=.slice ea M ec):=by rw [<- hM];exact hV
 have HX0:Hid (Wy w0 (W.setCell ⟨d.cb,i,none⟩ (.int .i64 y)) d (some ⟨b,g,none⟩) cap t xs es m f (updI C i y) Wt Ff/\Fr (Tw d) W (W.setCell ⟨d.cb,i,none⟩ (.int .i64 y))):=⟨h.setC hi y,(Fr.refl _ _).setCell (.inr (.inl rfl)) _ _⟩;have wl:=h.at'.lt;have c2:W.cell? ⟨d.wb,2,none⟩=some (.slice (some ⟨d.cb,0,none⟩) xs.length xs.length):=h.at'.c 2 _ rfl;have y0:=h.cy.c i hi;have yz:=h.cy.f i;have yl:=h.cy.lt;have i0:(0:Int)<=(i:Int):=by omega
 have i1:(i:Int)<(xs.length:Int):=by omega
 have HOp2:Hid (∀ Z,Below w0.heap.size w0 Z->OAt Z b (g+i*5) xs[i]):=hop0;have HBl:Hid (b<w0.heap.size):=hbl;have HiN:Hid (i<xs.length):=hi;clear h hops hbz hop0 hE hl ht hf hm hWb hFb hm1 hA hAl8 HRw hrow hV hM hbl;obtain ⟨n,hN⟩:∃ n,xs.length=n:=⟨_,rfl⟩;have HN:Hid (xs.length=n):=hN;have hn':(n:Int)<=1024:=by omega
 rw [hN] at c2 i1;have HiN2:Hid (i<n):=by have:=HiN.out;rw [hN] at this;exact this
 clear hN hn;obtain ⟨cl,hcl⟩:∃ cl,clD (xs[i]'hi).op=cl:=⟨_,rfl⟩;rw [hcl] at HTk HCl ⊢;clear hcl;obtain ⟨o,ho⟩:∃ o,xs[i]'hi=o:=⟨_,rfl⟩;rw [ho] at HCl HOp2;clear ho hi;generalize tkF t none f (cl:Int) y=f2 at *;generalize frB t none f (cl:Int) y=fb2 at *;generalize hC2:updI C i y=C2 at *;clear hC2;go_enter Tryz.func160,Tryz.ntmps160;go_upto_region 1 with fail
 generalize W.setCell ⟨d.cb,i,none⟩ (.int .i64 y)=X at *;have HX:Hid _:=HX0.out;have HOp:Hid (OAt X b (g+i*5) o/\b<X.heap.size):=⟨HOp2.out X HX.out.1.up,Nat.lt_of_lt_of_le HBl.out HX.out.1.up.size⟩;have HX:Hid (Wy w0 X d (some ⟨b,g,none⟩) cap t xs es m f C2 Wt Ff/\Fr (Tw d) W X):=HX0.out;clear HX0 c2 y0 yz yl wl;have hwy:=HX.out.1.at';rw [HN.out] at hwy;have HAt:Hid (At X d.wb (wyC d (some ⟨b,g,none⟩) n cap)):=hwy;clear hwy;refine wp_region_held_drew (S:=fun Z=>At Z d.wb (wyC d (some ⟨b,g,none⟩) n cap)/\OAt Z b (g+i*5) o/\b<Z.heap.size) (by kernel_rfl) ⟨HAt.out.below (drew_up _) HAt.out.lt,HOp.out.1.below (drew_up _) HOp.out.2,HOp.out.2⟩ (fun zH=>?_);refine wg 0 (.pointer (some ⟨d.wb,0,none⟩)) rfl zH ?_;simp only [pq];refine wg 1 (.pointer (some ⟨d.wb,0,none⟩)) rfl zH ?_;simp only [pq];refine wg 2 (.pointer (some ⟨d.wb,1,none⟩)) rfl zH ?_;simp only [pq];refine wt 3 (.pointer (some ⟨d.rb,0,none⟩)) rfl (fun w' hSw=>by (have y1:w'.cell? ⟨d.wb,1,none⟩=some (.pointer (some ⟨d.rb,0,none⟩)):=hSw.1.c 1 _ rfl;have yl:=hSw.1.lt;go_simp)) zH ?_;simp only [pq];refine wg 4 (.pointer (some ⟨d.wb,0,none⟩)) rfl zH ?_;simp only [pq];refine wg 5 (.pointer (some ⟨d.wb,0,none⟩)) rfl zH ?_;simp only [pq];refine wg 6 (.pointer (some ⟨d.wb,0,none⟩)) rfl zH ?_;simp only [pq];refine wt 7 (.slice (some ⟨b,g,none⟩) n cap) rfl (fun w' hSw=>by (have y0:w'.cell? ⟨d.wb,0,none⟩=some (.slice (some ⟨b,g,none⟩) n cap):=hSw.1.c 0 _ rfl;have yl:=hSw.1.lt;go_simp)) zH ?_;simp only [pq];refine wg 8 (.int .i64 (i:Int)) rfl zH ?_;simp only [pq];refine wg 9 (.pointer (some ⟨b,g+i*5,none⟩)) rfl zH ?_;simp only [pq];refine wt 10 (.agg #[.int .i8 o.op,.int .u8 o.d,.int .u8 o.a,.int .u8 o.b,.int .i64 o.im]) rfl (fun w' hSw=>by (obtain ⟨q0,q1,q2,q3,q4⟩:=hSw.2.1;have ql:=hSw.2.2;go_simp)) zH ?_;simp only [pq];refine wg 12 (.int .i64 y) rfl zH ?_;simp only [pq];refine wpAnyH_ready (rs:=[11]) (by kernel_rfl) (by simp) ?_;refine AllReadyH.cons rfl (fun K hK=>?_) AllReadyH.nil;go_simp
 refine Calls.mono (HCl.out _) ?_;rintro e w3 ⟨rfl,b3⟩;have HX3:Hid (Wy w0 w3 d (some ⟨b,g,none⟩) cap t xs es m f C2 Wt Ff/\Fr (Tw d) W w3/\OAt w3 b (g+i*5) o/\b<w3.heap.size):=⟨(HX.out.1.next (drew_up _)).next b3,(HX.out.2.then (drew_up _)).then b3,(HOp.out.1.below (drew_up _) HOp.out.2).below b3 HOp.out.2,Nat.lt_of_lt_of_le HOp.out.2 b3.size⟩;clear b3 HCl;refine hK.out _ _ ⟨by have:=HX3.out.1.at';rw [HN.out] at this;exact this,HX3.out.2.2.1,HX3.out.2.2.2⟩ (fun zH=>?_);clear hK K;refine wpAnyH_ready (rs:=[13]) (by kernel_rfl) (by simp) ?_;refine AllReadyH.cons rfl (fun K hK=>?_) AllReadyH.nil;go_simp
 refine Calls.mono (HTk.out _ HX3.out.1) ?_;rintro e w4 ⟨rfl,m4,r4,l4,f4⟩;have HX4:Hid (Wy w0 w4 d (some ⟨b,g,none⟩) cap t xs es m4 f2 C2 Wt Ff/\Fr (Tw d) W w4/\m4<=m+4):=⟨HX3.out.1.take f4 r4,HX3.out.2.1.trans f4 (fun k _ e=>.inr (.inl e)),l4⟩;have hS4:(fun Z=>At Z d.wb (wyC d (some ⟨b,g,none⟩) n cap)/\OAt Z b (g+i*5) o/\b<Z.heap.size) w4:=⟨by have:=HX4.out.1.at';rw [HN.out] at this;exact this,HOp2.out w4 (HX4.out.1.up),Nat.lt_of_lt_of_le HX3.out.2.2.2 f4.size⟩;clear r4 l4 f4 HTk;refine hK.out _ _ hS4 (fun zH=>?_);clear hK K hS4;refine wpAnyH_done (by kernel_rfl) ?_ _;clear zH HX HX3 HOp HAt;have wl:=HX4.out.1.at'.lt;have c3:w4.cell? ⟨d.wb,3,none⟩=some (.slice (some ⟨d.ab,0,none⟩) n n):=by have:=HX4.out.1.at'.c 3 _ rfl;rw [HN.out] at this;exact this
 have a0:w4.cell? ⟨d.ab,i,none⟩=some (.slice ea M ec):=by rw [<- HV.out];exact HX4.out.1.af i HiN.out
 have al:=HX4.out.1.al;have hMi:(M:Int)<=100000000:=by omega
 go_wp2_with fail
 go_loopw [37] (fun v wr=>∃ k:Nat,k<=M/\v=.int .i64 k/\Wy w0 wr d (some ⟨b,g,none⟩) cap t xs es m4 f2 C2 (plW (A.take k) Wt) (plF y (A.take k) Ff)/\Fr (Tw d) W wr) (fun v _=>M-(intOf v).toNat)
 case atStart=>exact ⟨0,by omega,rfl,HX4.out.1,HX4.out.2.1⟩
 case round=>
  rename World=>wr;obtain ⟨k,hk,rfl,hs,hfr⟩:=hrel;have HQ:Hid (Wy w0 wr d (some ⟨b,g,none⟩) cap t xs es m4 f2 C2 (plW (A.take k) Wt) (plF y (A.take k) Ff)/\Fr (Tw d) W wr):=⟨hs,hfr⟩;clear hs hfr wl c3 a0 al
  by_cases hlt:k<M
  ·have k0:(0:Int)<=(k:Int):=by omega
   have k1:(k:Int)<(M:Int):=by omega
   have hke:k<(frm es i).length:=by rw [HM.out];exact hlt
   have hka:k<A.length:=by rw [hAl];exact hlt
   have hrow:=HQ.out.1.rw i HiN.out;rw [HV.out,<- HM.out] at hrow;obtain ⟨eb,rfl,l1,lb1,f0,f1,f2',f3,f4⟩:=eOwn_at (B:=d.ab+1) hrow hke;obtain ⟨g1,g2,g3,g4⟩:=HEd.out _ (List.getElem_mem hke);have hak:=HAk.out k hke hka;have HW1:Hid (plW (A.take (k+1)) Wt=updI (plW (A.take k) Wt) A[k].t (plW (A.take k) Wt A[k].t-1)):=plW_take A Wt k hka;have HF1:Hid (plF y (A.take (k+1)) Ff=updI (plF y (A.take k) Ff) A[k].t (max (plF y (A.take k) Ff A[k].t) (y+A[k].l))):=plF_take y A Ff k hka;rw [hak] at HW1 HF1;have HQ2:Hid (Wy w0 (wr.alloc (.cells #[.int .i64 (frm es i)[k].f,.int .i64 (frm es i)[k].t,.int .i64 (frm es i)[k].l,.int .i64 (frm es i)[k].d,.int .i8 (frm es i)[k].y] 122)) d (some ⟨b,g,none⟩) cap t xs es m4 f2 C2 (plW (A.take k) Wt) (plF y (A.take k) Ff)/\At (wr.alloc (.cells #[.int .i64 (frm es i)[k].f,.int .i64 (frm es i)[k].t,.int .i64 (frm es i)[k].l,.int .i64 (frm es i)[k].d,.int .i8 (frm es i)[k].y] 122)) wr.heap.size #[.int .i64 (frm es i)[k].f,.int .i64 (frm es i)[k].t,.int .i64 (frm es i)[k].l,.int .i64 (frm es i)[k].d,.int .i8 (frm es i)[k].y]/\Fr (Tw d) W (wr.alloc (.cells #[.int .i64 (frm es i)[k].f,.int .i64 (frm es i)[k].t,.int .i64 (frm es i)[k].l,.int .i64 (frm es i)[k].d,.int .i8 (frm es i)[k].y] 122))/\wr.heap.size≠d.tb/\wr.heap.size≠d.fb):=⟨HQ.out.1.next ((Below.refl _ _).alloc (Nat.le_refl _) _),At.new _ _ _,HQ.out.2.alloc _,by have:=HQ.out.1.wt.lt;omega,by have:=HQ.out.1.fs.lt;omega⟩;clear hak hrow;generalize (frm es i)[k]=x at *;obtain ⟨xf,xt,xl,xd,xy⟩:=x;obtain ⟨ti,rfl⟩:∃ ti:Nat,xt=ti:=⟨xt.toNat,by have g1:0<=xt:=g1;omega⟩;have g2:(ti:Int)<(n:Int):=by have g2:(ti:Int)<(xs.length:Int):=g2;rw [HN.out] at g2;exact g2
   have g3:0<=xl:=g3;have g4:xl<=8:=g4;have g8:(0:Int)<=(ti:Int):=by omega
   have htn:ti<n:=by omega
   clear g1;have HW1:Hid (plW (A.take (k+1)) Wt=updI (plW (A.take k) Wt) ti (plW (A.take k) Wt ti-1)):=HW1.out;have HF1:Hid (plF y (A.take (k+1)) Ff=updI (plF y (A.take k) Ff) ti (max (plF y (A.take k) Ff ti) (y+xl))):=HF1.out;obtain ⟨b1,b2⟩:=HWb.out k ti;obtain ⟨b3,b4⟩:=HFb.out k ti;generalize hP:plW (A.take k) Wt=P at *;generalize hR:plF y (A.take k) Ff=R at *;clear hP hR;go_upto_region 5 with fail
   generalize (wr.alloc (.cells #[.int .i64 xf,.int .i64 (ti:Int),.int .i64 xl,.int .i64 xd,.int .i8 xy] 122))=X at *;have nt:=HQ2.out.2.2.2.1;have nf:=HQ2.out.2.2.2.2;have nt':¬ d.tb=wr.heap.size:=fun e=>nt e.symm;have nf':¬ d.fb=wr.heap.size:=fun e=>nf e.symm;generalize wr.heap.size=ob at *;clear HQ f0 f1 f2' f3 f4 l1 lb1;have HSet:Hid (∀ v,Wy w0 (X.setCell ⟨d.tb,ti,none⟩ (.int .i64 v)).drew d (some ⟨b,g,none⟩) cap t xs es m4 f2 C2 (updI P ti v) R/\At (X.setCell ⟨d.tb,ti,none⟩ (.int .i64 v)).drew ob #[.int .i64 xf,.int .i64 (ti:Int),.int .i64 xl,.int .i64 xd,.int .i8 xy]/\Fr (Tw d) W (X.setCell ⟨d.tb,ti,none⟩ (.int .i64 v)).drew):=fun v=>⟨(HQ2.out.1.setT (by rw [HN.out];exact htn) v).next (drew_up _),(atFr HQ2.out.2.1 ((Fr.refl (One d.tb) X).setCell (.inr rfl) ti (.int .i64 v)) nt).below (drew_up _) (by have:=HQ2.out.2.1.lt;simpa using this),(HQ2.out.2.2.1.setCell (.inr (.inr (.inr (.inl rfl)))) _ _).drew⟩;have o1:=HQ2.out.2.1.c 1 _ rfl;have ol:=HQ2.out.2.1.lt;have wl:=HQ2.out.1.at'.lt;have c4:X.cell? ⟨d.wb,4,none⟩=some (.slice (some ⟨d.tb,0,none⟩) n n):=by have:=HQ2.out.1.at'.c 4 _ rfl;rw [HN.out] at this;exact this
   have t0:=HQ2.out.1.wt.c ti (by rw [HN.out];exact htn);have tz:=HQ2.out.1.wt.f ti;have tl:=HQ2.out.1.wt.lt;generalize hp:P ti=p at *
   go_region
   have HY:Hid (Wy w0 (X.setCell ⟨d.tb,ti,none⟩ (.int .i64 (p-1))).drew d (some ⟨b,g,none⟩) cap t xs es m4 f2 C2 (updI P ti (p-1)) R/\At (X.setCell ⟨d.tb,ti,none⟩ (.int .i64 (p-1))).drew ob #[.int .i64 xf,.int .i64 (ti:Int),.int .i64 xl,.int .i64 xd,.int .i8 xy]/\Fr (Tw d) W (X.setCell ⟨d.tb,ti,none⟩ (.int .i64 (p-1))).drew):=HSet.out (p-1);generalize (X.setCell ⟨d.tb,ti,none⟩ (.int .i64 (p-1))).drew=Y at *;clear HSet HQ2 o1 ol wl c4 t0 tz tl;have HW1:Hid (plW (A.take (k+1)) Wt=updI P ti (p-1)):=HW1.out;rw [<- HW1.out] at HY;clear hp;have HSet:Hid (∀ v,Wy w0 (Y.setCell ⟨d.fb,ti,none⟩ (.int .i64 v)).drew d (some ⟨b,g,none⟩) cap t xs es m4 f2 C2 (plW (A.take (k+1)) Wt) (updI R ti v)/\Fr (Tw d) W (Y.setCell ⟨d.fb,ti,none⟩ (.int .i64 v)).drew):=fun v=>⟨(HY.out.1.setF (by rw [HN.out];exact htn) v).next (drew_up _),(HY.out.2.2.setCell (.inr (.inr (.inr (.inr rfl)))) _ _).drew⟩;have o1:=HY.out.2.1.c 1 _ rfl;have o2:=HY.out.2.1.c 2 _ rfl;have ol:=HY.out.2.1.lt;have wl:=HY.out.1.at'.lt;have c5:Y.cell? ⟨d.wb,5,none⟩=some (.slice (some ⟨d.fb,0,none⟩) n n):=by have:=HY.out.1.at'.c 5 _ rfl;rw [HN.out] at this;exact this
   have s0:=HY.out.1.fs.c ti (by rw [HN.out];exact htn);have sz:=HY.out.1.fs.f ti;have sl:=HY.out.1.fs.lt;go_upto_region 6 with fail
   by_cases hmx:R ti<y+xl
   ·have HVm:Hid (plF y (A.take (k+1)) Ff=updI R ti (y+xl)):=by rw [HF1.out,show max (R ti) (y+xl)=y+xl by omega];exact rfl
    generalize hr:R ti=rv at *
    go_region
    all_goals
     go_wp2_with fail
     go_roundw
     case rel=>exact ⟨k+1,by omega,by go_num,by rw [HVm.out];exact HSet.out _⟩
     case measure=>simp [intOf];omega
   ·have HVm:Hid (plF y (A.take (k+1)) Ff=updI R ti (R ti)):=by rw [HF1.out,show max (R ti) (y+xl)=R ti by omega];exact rfl
    generalize hr:R ti=rv at *
    go_region
    all_goals
     go_wp2_with fail
     go_roundw
     case rel=>exact ⟨k+1,by omega,by go_num,by rw [HVm.out];exact HSet.out _⟩
     case measure=>simp [intOf];omega
  ·obtain rfl:k=M:=by omega
   have k1:¬ (k:Int)<(k:Int):=by omega
   go_wp2_with fail
   go_end0
   have hfin:=HQ.out;rw [List.take_of_length_le (by omega)] at hfin;exact ⟨rfl,m4,hfin.1,HX4.out.2.2,hfin.2⟩
end Go.Proofs.YtpdaknbmcpmhjaaGreatDoor.Ls
