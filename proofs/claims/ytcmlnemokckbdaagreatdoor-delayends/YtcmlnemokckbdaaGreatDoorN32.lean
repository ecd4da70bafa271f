/- Parts Wi. -/
import Derived.Test.YtcmlnemokckbdaaGreatDoorN30
import Derived.Test.YtcmlnemokckbdaaGreatDoorN31
set_option maxRecDepth 20000
set_option maxHeartbeats 8000000
namespace Go.Proofs.YtcmlnemokckbdaaGreatDoor.Ls
open Go.ChangeShapes Go.WideShapes Go.ChangeAt Go.RowKit
open YtcmlnemokckbdaaGreatDoor.Op YtcmlnemokckbdaaGreatDoor.So YtcmlnemokckbdaaGreatDoor.Dp YtcmlnemokckbdaaGreatDoor.ListWay
open YtcmlnemokckbdaaGreatDoor.Rv (RAt Few frB tkF tk_few take_any free_any evOk)
open YtcmlnemokckbdaaGreatDoor.Tb (Tab TabAt Bnds)
def ordC (H:Nat->Int) (n:Nat):List Nat:=(dOrd H n (8*(n:Int)) (8*n+1)).map Int.toNat
def ordG (n:Nat) (g:Nat->Int):List Nat:=(List.range n).map fun i=>(g i).toNat
theorem ord_sameL {n:Nat} {H g:Nat->Int} {most:Int} {k:Nat} (ho:OrdF n H g) (hk:most-k<0) (hH:∀ i,i<n->0<=H i/\H i<=most):(List.range n).map g=dOrd H n most k:=by
 refine pw_uniq (ahd_asym H) _ _ ?_ (dOrd_pw H n most k) fun x=>?_
 ·rw [List.pairwise_map];rw [List.pairwise_iff_getElem];intro i j hi hj hij;simp only [List.getElem_range,List.length_range] at hi hj ⊢;exact ho.st i j hij hj
 ·rw [dOrd_mem,List.mem_map];constructor
  ·rintro ⟨i,hi,rfl⟩;have hi:=List.mem_range.1 hi;obtain ⟨h1,h2⟩:=ho.rg i hi;have h3:=hH (g i).toNat (by omega);exact ⟨(g i).toNat,by omega,by omega,by omega,h3.2⟩
  ·rintro ⟨j,hj,rfl,-,-⟩;obtain ⟨i,hi,e⟩:=ho.all j hj;exact ⟨i,List.mem_range.2 hi,e⟩
theorem ordG_C {n:Nat} {H g:Nat->Int} (ho:OrdF n H g) (hH:∀ i,i<n->0<=H i/\H i<=8*(n:Int)):ordG n g=ordC H n:=by
 unfold ordC ordG;rw [<- ord_sameL ho (most:=8*(n:Int)) (k:=8*n+1) (by omega) hH,List.map_map];rfl
theorem ordG_mem {n:Nat} {H g:Nat->Int} (ho:OrdF n H g) (i:Nat):i∈ordG n g↔i<n:=by
 unfold ordG;rw [List.mem_map];constructor
 ·rintro ⟨j,hj,rfl⟩
  have:=ho.rg j (List.mem_range.1 hj)
  omega
 ·intro hi;obtain ⟨j,hj,e⟩:=ho.all i hi;exact ⟨j,List.mem_range.2 hj,by rw [e];exact Int.toNat_natCast i⟩
theorem ordG_nodup {n:Nat} {H g:Nat->Int} (ho:OrdF n H g):(ordG n g).Nodup:=by
 unfold ordG;rw [List.nodup_iff_pairwise_ne,List.pairwise_map,List.pairwise_iff_getElem];intro i j hi hj hij;simp only [List.getElem_range,List.length_range] at hi hj ⊢;intro e;have h1:=ho.rg i (by omega);have h2:=ho.rg j hj;have h3:=ho.st i j hij hj;have h4:g i=g j:=by omega
 rw [h4] at h3;unfold Ahd at h3;omega
theorem ordG_lf {W:World} {nb n:Nat} {H g:Nat->Int} (ho:OrdF n H g) (h:Ir W nb n g):Lf W nb (ordG n g):=by
 refine ⟨fun k hk=>?_,h.f,h.lt⟩;have hk':k<n:=by simpa [ordG] using hk
 have h1:=ho.rg k hk';have e:(ordG n g)[k]=(g k).toNat:=by simp [ordG]
 rw [h.c k hk',e]
 congr 2
 omega
def cyL (t:Tab) (xs:List O):Nat->Int:=sch (sysL t xs (ofE t xs)) (ordC (hts (latN t xs) (ofE t xs)) xs.length)
theorem lis_parts {t:Tab} {xs:List O} (hok':∀ o∈xs,o.Ok) (he:lisE t xs=0):EOk xs.length (ofE t xs)/\(ofE t xs).length<=100000000/\∀ i,i<xs.length->0<=hts (latN t xs) (ofE t xs) i/\hts (latN t xs) (ofE t xs) i<=8*(xs.length:Int):=by
 obtain ⟨ht,hn,hok⟩:=lis_all he;have hEO:EOk xs.length (ofE t xs):=ofE_ok t xs (pts_ok t xs (fun o ho=>⟨hok' o ho,okL_okO (hok o ho)⟩) ht);refine ⟨hEO,Nat.le_trans (withinE_len _ _ _ hn) (by omega),fun i hi=>?_⟩
 have:=(hts_is (lat:=latN t xs) hEO).le hEO (fun i hi=>by rw [latN_at t hi];exact latV_in ht _) i hi
 omega
theorem ordC_mem {t:Tab} {xs:List O} (hok':∀ o∈xs,o.Ok) (he:lisE t xs=0) (i:Nat):i∈ordC (hts (latN t xs) (ofE t xs)) xs.length↔i<xs.length:=by
 have hH:=(lis_parts hok' he).2.2;unfold ordC;rw [List.mem_map];constructor
 ·rintro ⟨x,hx,rfl⟩;obtain ⟨j,hj,rfl,-,-⟩:=(dOrd_mem _ _ _ _ _).1 hx;simpa using hj
 ·intro hi
  have:=hH i hi
  exact ⟨(i:Int),(dOrd_mem _ _ _ _ _).2 ⟨i,hi,rfl,by omega,by omega⟩,Int.toNat_natCast i⟩
theorem cyL_is {t:Tab} {xs:List O} (hok':∀ o∈xs,o.Ok) (he:lisE t xs=0) (hu:hvU t xs=true) :
  (∀ i,i<xs.length->0<=cyL t xs i/\cyL t xs i+8<=8*(xs.length:Int))/\(∀ e∈(sysL t xs (ofE t xs)).es,cyL t xs e.f+e.l<=cyL t xs e.t)/\(∀ i,i<xs.length->∀ z,busy (sysL t xs (ofE t xs)) (cyL t xs) (clN xs i) z<=(t.u (clN xs i)).toNat)/\∀ i,i<xs.length->∀ e,0<=e->e<cyL t xs i->Why (sysL t xs (ofE t xs)) (cyL t xs) i e:=by
 have hEO:=(lis_parts hok' he).1;have ok:=sysL_ok (lis_all he).1 hu hEO;have hm:∀ i,i∈ordC (hts (latN t xs) (ofE t xs)) xs.length↔i<(sysL t xs (ofE t xs)).n:=ordC_mem hok' he;obtain ⟨h1,h2,h3,h4⟩:=inv_end (way_inv ok hm (9*(sysL t xs (ofE t xs)).n)).1 (way_ends ok hm (Nat.le_refl _));exact ⟨h1,fun e h=>h2 e h (by have:=ok.ed e h;omega) (ok.ed e h).2.1,h3,h4⟩
theorem cycles_no (ao:Option Addr) (cap:Nat) (xs:List O) (t:Tab) (w:World) (h:OpsAt w ao xs) (hcap:xs.length<=cap) (hG:Bnds w) (he:¬ lisE t xs=0) :
  Calls Tryz.prog 42 #[.slice ao xs.length cap,t.val] w fun e w'=>e=.returned (.tuple #[.slice none 0 0,.int .i64 (lisE t xs)])/\Below w.heap.size w w':=by
 have HO1:Hid (∀ W,Below w.heap.size w W->Calls Tryz.prog 84 #[.slice ao xs.length cap,.agg #[.int .i64 (t.u 0),.int .i64 (t.u 1),.int .i64 (t.u 2),.int .i64 (t.u 3),.int .i64 (t.l 0),.int .i64 (t.l 1),.int .i64 (t.l 2),.int .i64 (t.l 3),.int .i64 (t.b 0),.int .i64 (t.b 1),.int .i64 (t.b 2),.int .i64 (t.b 3),.int .i64 t.d]] W fun e w'=>e=.returned (.tuple #[.slice none 0 0,.int .i64 (lisE t xs)])/\Below W.heap.size W w'):=fun W hb=>hord_no ao cap xs.length t _ W he fun W' hb'=>hof_no ao cap xs t W' ((h.below hb).below hb') hcap ((hG.below hb hG.big).below hb' (hG.below hb hG.big).big) he;have hne:(lisE t xs != 0)=true:=by simpa using he
 clear h hcap hG;generalize lisE t xs=er at *;unfold Tab.val at *;go_enter Tryz.func42,Tryz.ntmps42;go_wp2_with (first
  | (go_at_call 84;refine Calls.mono (HO1.out _ (by go_grown)) ?_;rintro e w1 ⟨rfl,b1⟩;have HT:Hid (Below w.heap.size w w1):=Below.trans (by go_grown) (b1.mono (by simp));clear b1 HO1))
 go_ret2
 exact ⟨rfl,HT.out⟩
theorem tabNext {w w1 w2:World} {t:Tab} (h:TabAt w1 w.heap.size t/\Below w.heap.size w w1) (b:Below w1.heap.size w1 w2):TabAt w2 w.heap.size t/\Below w.heap.size w w2:=⟨h.1.below b h.1.lt,h.2.trans (b.mono h.2.size)⟩
theorem cycles_ok (ao:Option Addr) (cap:Nat) (xs:List O) (t:Tab) (w:World) (h:OpsAt w ao xs) (hcap:xs.length<=cap) (hG:Bnds w) (he:lisE t xs=0) (hu:hvU t xs=true) :
  Calls Tryz.prog 42 #[.slice ao xs.length cap,t.val] w (HtOut w xs.length (cyL t xs)):=by
 have hn:=(lis_all he).2.1;obtain ⟨hEO,hEl,hHs⟩:=lis_parts h.ok he;have ht:=(lis_all he).1;have HNw:Hid (∀ W,Below w.heap.size w W->Calls Tryz.prog 86 #[.slice ao xs.length cap,.agg #[.int .i64 (t.u 0),.int .i64 (t.u 1),.int .i64 (t.u 2),.int .i64 (t.u 3),.int .i64 (t.l 0),.int .i64 (t.l 1),.int .i64 (t.l 2),.int .i64 (t.l 3),.int .i64 (t.b 0),.int .i64 (t.b 1),.int .i64 (t.b 2),.int .i64 (t.b 3),.int .i64 t.d]] W fun e w'=>∃ d,e=.returned (.pointer (some ⟨d.wb,0,none⟩))/\Wy W w' d ao cap t xs (ofE t xs) 0 (fun _ _=>0) (fun _=>0) (toN (ofE t xs)) (fun _=>0)):=fun W hb=>newWay_ok ao cap xs t W (h.below hb) hcap (hG.below hb hG.big) he;obtain ⟨H,hH⟩:∃ H,hts (latN t xs) (ofE t xs)=H:=⟨_,rfl⟩;have HO1:Hid (∀ W,Below w.heap.size w W->Calls Tryz.prog 84 #[.slice ao xs.length cap,.agg #[.int .i64 (t.u 0),.int .i64 (t.u 1),.int .i64 (t.u 2),.int .i64 (t.u 3),.int .i64 (t.l 0),.int .i64 (t.l 1),.int .i64 (t.l 2),.int .i64 (t.l 3),.int .i64 (t.b 0),.int .i64 (t.b 1),.int .i64 (t.b 2),.int .i64 (t.b 3),.int .i64 t.d]] W fun e w'=>∃ nb g,e=.returned (.tuple #[.slice (some ⟨nb,0,none⟩) xs.length xs.length,.int .i64 0])/\Ir w' nb xs.length g/\OrdF xs.length H g/\W.heap.size<=nb/\Below W.heap.size W w'):=fun W hb=>hord_ok ao cap xs.length t H W hn fun W' hb'=>by rw [<- hH];exact hof_ok ao cap xs t W' ((h.below hb).below hb') hcap ((hG.below hb hG.big).below hb' (hG.below hb hG.big).big) he
 have HU:Hid (∀ W,Below w.heap.size w W->Calls Tryz.prog 85 #[.slice ao xs.length cap,.agg #[.int .i64 (t.u 0),.int .i64 (t.u 1),.int .i64 (t.u 2),.int .i64 (t.u 3),.int .i64 (t.l 0),.int .i64 (t.l 1),.int .i64 (t.l 2),.int .i64 (t.l 3),.int .i64 (t.b 0),.int .i64 (t.b 1),.int .i64 (t.b 2),.int .i64 (t.b 3),.int .i64 t.d]] W fun e w'=>e=.returned (.bool true)/\Below W.heap.size W w'):=fun W hb=>by rw [<- hu];exact haveUnits_any ao cap xs t W (h.below hb) hn
 have HPl:Hid (∀ (W:World) (d:Dt) (lb:Nat) (g:Nat->Int),OrdF xs.length H g->w.heap.size<=lb/\lb<d.rb/\lb<d.mb->Wy w W d ao cap t xs (ofE t xs) 0 (fun _ _=>0) (fun _=>0) (toN (ofE t xs)) (fun _=>0)->Lf W lb (ordG xs.length g)->Calls Tryz.prog 87 #[.pointer (some ⟨d.wb,0,none⟩),.slice (some ⟨lb,0,none⟩) xs.length xs.length] W fun e w'=>e=.returned (.tuple #[])/\∃ m f C Wt Ff,Wy w w' d ao cap t xs (ofE t xs) m f C Wt Ff/\∀ i,i<xs.length->C i=cyL t xs i):=fun W d lb g og hl hy hf=>by
  have hpz:Pz w W d ao cap t xs (ofE t xs) lb (ordG xs.length g) (fun _=>-1):=by
   refine ⟨⟨0,toN (ofE t xs),fun _=>0,?_,toN_ok t xs _,FOk.start _,Nat.zero_le _⟩,?_,?_⟩
   ·rw [cntF_start,cyF_start];exact hy
   ·rw [cntF_start];exact fun _ _=>⟨Int.le_refl _,by show (0:Int)<=8;decide⟩
   ·rw [lft_start];exact hf
  have hlen:(ordG xs.length g).length=xs.length:=by simp [ordG]
  have hc:=placeAll_ok xs.length hpz (ordG_nodup og) (ordG_mem og) hl ht hu hEO hEl hn (by omega) (by omega);rw [hlen] at hc;refine hc.mono fun e w' h'=>⟨h'.1,?_⟩;obtain ⟨m,Wt,Ff,q1,-⟩:=h'.2.ex;refine ⟨_,_,_,_,_,q1,fun i hi=>?_⟩;rw [ordG_C og (by rw [<- hH];exact hHs)];unfold cyF cyL;rw [hH];have h0:=(cyL_is h.ok he hu).1 i hi;unfold cyL at h0;rw [hH] at h0;rw [if_pos h0.1]
 have HO:Hid (OpsAt w ao xs):=h;clear h hcap hG hH hEO hEl hHs ht;unfold HtOut;unfold Tab.val at *;go_enter Tryz.func42,Tryz.ntmps42;go_wp2_with (first
  | (go_at_call 84;refine Calls.mono (HO1.out _ (by go_grown)) ?_;rintro e w1 ⟨nb,g,rfl,i1,og,l1,b1⟩;have HT:Hid (TabAt w1 w.heap.size t/\Below w.heap.size w w1):=tabNext ⟨Tb.tabAt_new w t 28,by go_grown⟩ b1;have HI1:Hid (Ir w1 nb xs.length g/\OrdF xs.length H g/\w.heap.size<=nb):=⟨i1,og,(by simp at l1;omega)⟩;clear b1 i1 og l1 HO1;have k2:=HT.out.1;have qu0:=k2.cu 0 (by decide);have qu1:=k2.cu 1 (by decide);have qu2:=k2.cu 2 (by decide);have qu3:=k2.cu 3 (by decide);have ql0:=k2.cl 0 (by decide);have ql1:=k2.cl 1 (by decide);have ql2:=k2.cl 2 (by decide);have ql3:=k2.cl 3 (by decide);have qb0:=k2.cb 0 (by decide);have qb1:=k2.cb 1 (by decide);have qb2:=k2.cb 2 (by decide);have qb3:=k2.cb 3 (by decide);have qd:=k2.cd;have qz:=k2.lt;clear k2)
  | (go_at_call 85;refine Calls.mono (HU.out _ HT.out.2) ?_;rintro e w2 ⟨rfl,b2⟩;have HT2:Hid (TabAt w2 w.heap.size t/\Below w.heap.size w w2):=tabNext HT.out b2;have HI2:Hid (Ir w2 nb xs.length g/\OrdF xs.length H g/\w.heap.size<=nb):=⟨HI1.out.1.up b2,HI1.out.2⟩;clear b2 HU HT HI1 qu0 qu1 qu2 qu3 ql0 ql1 ql2 ql3 qb0 qb1 qb2 qb3 qd qz;have k2:=HT2.out.1;have qu0:=k2.cu 0 (by decide);have qu1:=k2.cu 1 (by decide);have qu2:=k2.cu 2 (by decide);have qu3:=k2.cu 3 (by decide);have ql0:=k2.cl 0 (by decide);have ql1:=k2.cl 1 (by decide);have ql2:=k2.cl 2 (by decide);have ql3:=k2.cl 3 (by decide);have qb0:=k2.cb 0 (by decide);have qb1:=k2.cb 1 (by decide);have qb2:=k2.cb 2 (by decide);have qb3:=k2.cb 3 (by decide);have qd:=k2.cd;have qz:=k2.lt;clear k2)
  | (go_at_call 86;refine Calls.mono (HNw.out _ HT2.out.2) ?_;rintro e w3 ⟨d,rfl,y3⟩;have HY:Hid (Wy w w3 d ao cap t xs (ofE t xs) 0 (fun _ _=>0) (fun _=>0) (toN (ofE t xs)) (fun _=>0)/\Lf w3 nb (ordG xs.length g)/\(w.heap.size<=nb/\nb<d.rb/\nb<d.mb)):=⟨y3.rebase HT2.out.2 HO.out,(ordG_lf HI2.out.2.1 HI2.out.1).fr (Fr.of (X:=Non) y3.up) (fun h=>h),HI2.out.2.2,(by have:=HI2.out.1.lt;have:=y3.ok.r0;omega),(by have:=HI2.out.1.lt;have:=y3.ok.m0;omega)⟩;clear y3 HNw HT2 qu0 qu1 qu2 qu3 ql0 ql1 ql2 ql3 qb0 qb1 qb2 qb3 qd qz)
  | (go_at_call 87;refine Calls.mono (HPl.out _ d nb g HI2.out.2.1 HY.out.2.2 HY.out.1 HY.out.2.1) ?_;rintro e w4 ⟨rfl,m4,f4,C4,W4,F4,y4,e4⟩;have HZ:Hid (Wy w w4 d ao cap t xs (ofE t xs) m4 f4 C4 W4 F4/\∀ i,i<xs.length->C4 i=cyL t xs i):=⟨y4,e4⟩;clear y4 e4 HPl HY HI2;have wl:=HZ.out.1.at'.lt;have c2:w4.cell? ⟨d.wb,2,none⟩=some (.slice (some ⟨d.cb,0,none⟩) xs.length xs.length):=HZ.out.1.at'.c 2 _ rfl))
 go_ret2
 refine ⟨d.cb,rfl,HZ.out.1.cy.same HZ.out.2,?_,HZ.out.1.up⟩;have o:=HZ.out.1.ok
 have:=o.r0
 have:=o.rw
 have:=o.wc
 omega
end Go.Proofs.YtcmlnemokckbdaaGreatDoor.Ls
