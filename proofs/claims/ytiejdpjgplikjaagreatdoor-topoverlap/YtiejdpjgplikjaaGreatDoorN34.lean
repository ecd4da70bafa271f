/- Parts Ut Uv. -/
import Derived.Test.YtiejdpjgplikjaaGreatDoorN33
import Derived.Test.YtiejdpjgplikjaaGreatDoorN00
set_option maxRecDepth 20000
set_option maxHeartbeats 32000000
namespace Go.Proofs.YtiejdpjgplikjaaGreatDoor.Mo
open Go.ChangeShapes Go.WideShapes Go.ChangeAt Go.RowKit Go.Great Go.Maps
open YtiejdpjgplikjaaGreatDoor.Op YtiejdpjgplikjaaGreatDoor.So YtiejdpjgplikjaaGreatDoor.Dp YtiejdpjgplikjaaGreatDoor.Bn
open YtiejdpjgplikjaaGreatDoor.Rv (I64)
open YtiejdpjgplikjaaGreatDoor.Ls (Nl clN clN_at clN_lt)
def Dive (C:Cq) (xs:List O) (sb bb pb pf fb ff mb B cap bc pc fc:Nat) (ba ao:Option Addr) (w1:World) (Y0:Nat->Prop) (la K K8:Int) (u:Nat):Prop:=
 ∀ (e l P F:Nat->Int) (st:Int) (W:World) (nn:Nat) (f:Int->Int->Value) (Y:Nat->Prop),Dp0 C xs sb bb pb pf fb ff mb B cap bc pc fc ba ao w1 Y0 la K K8 u e l P F st W nn f Y->Calls Tryz.prog 131 #[.pointer (some ⟨sb,0,none⟩),.agg (wnA e l)] W (fun r w'=>∃ nn' f',r=.returned (.bool (plS C u e l P F st).ok)/\Sc C xs sb bb pb pf fb ff mb B cap bc pc fc ba ao w' (plS C u e l P F st).P (plS C u e l P F st).F (plS C u e l P F st).st nn' f'/\So.Fr (Mv sb pb fb mb Y) W w'/\(∀ a b q,(f' a b).ownBlock=some q->Y q)/\(nn':Int)+8*(plS C u e l P F st).st<=(nn:Int)+8*st/\((plS C u e l P F st).ok=false->(nn':Int)+8*(plS C u e l P F st).st<=(nn:Int)+8*st-8))
def Yc (f:Int->Int->Value) (W:World):Nat->Prop:=fun q=>(∃ a b,(f a b).ownBlock=some q)\/W.heap.size<=q
structure Lv (C:Cq) (xs:List O) (sb bb pb pf fb ff mb B cap bc pc fc:Nat) (ba ao:Option Addr) (w1:World) (Y0:Nat->Prop) (K:Int) (u:Nat) (e l P:Nat->Int) (st:Int) (W:World) (nn:Nat) (Y:Nat->Prop) (A:Array Value) (x g:Nat) (fr:List Int) (wr:World) (F':Nat->Int) (st':Int) (nn':Nat) (f':Int->Int->Value):Prop where
 sc:Sc C xs sb bb pb pf fb ff mb B cap bc pc fc ba ao wr P F' st' nn' f'
 bx:At wr x A
 fl:∀ j,j<fr.length->wr.cell? ⟨g,j,none⟩=some (.int .i64 (fr.getD j 0))
 fr0:So.Fr (Mv sb pb fb mb Y0) w1 wr
 frY:So.Fr (Mv sb pb fb mb Y) W wr
 y1:∀ a b q,(f' a b).ownBlock=some q->Y q
 yx:∀ a b q,(f' a b).ownBlock=some q->q≠x/\q≠g
 k8:(nn':Int)+8*st'<=(nn:Int)+8*st-8
 bd:Bd C.N K F' st'
 st0:(u:Int)-64<=st'
 gl:g<wr.heap.size
structure Lw7 (C:Cq) (xs:List O) (sb bb pb pf fb ff mb B cap bc pc fc:Nat) (ba ao:Option Addr) (w1:World) (Y0:Nat->Prop) (P:Nat->Int) (n:Nat) (c:Int) (W:World) (Y:Nat->Prop) (A:Array Value) (x g:Nat) (fr:List Int) (wr:World) (f':Int->Int->Value) (w7:World) (F':Nat->Int) (st':Int) (nn':Nat) (f7:Int->Int->Value):Prop where
 sc:Sc C xs sb bb pb pf fb ff mb B cap bc pc fc ba ao w7 (updI P n c) F' st' nn' f7
 bx:At w7 x A
 fl:∀ j,j<fr.length->w7.cell? ⟨g,j,none⟩=some (.int .i64 (fr.getD j 0))
 fr0:So.Fr (Mv sb pb fb mb Y0) w1 w7
 frY:So.Fr (Mv sb pb fb mb Y) W w7
 frC:So.Fr (Mv sb pb fb mb (Yc f' wr)) wr w7
 y7:∀ a b q,(f7 a b).ownBlock=some q->Yc f' wr q
 gl:g<w7.heap.size
theorem mv_up {sb pb fb mb:Nat} {Y Y':Nat->Prop} (h:∀ q,Y q->Y' q) (q:Nat) (e:Mv sb pb fb mb Y q):Mv sb pb fb mb Y' q:=by
 rcases e with e|e|e|e|e
 ·exact .inl e
 ·exact .inr (.inl e)
 ·exact .inr (.inr (.inl e))
 ·exact .inr (.inr (.inr (.inl e)))
 ·exact .inr (.inr (.inr (.inr (h q e))))
theorem frN_len (C:Cq) (P e l:Nat->Int) (n:Nat) (hE:C.E<=65536):(frN C P e l n).length<=1000000:=by
 unfold frN frC catL catL catL catL;simp only [List.nil_append,List.length_append];have hw:wdF (e n) (l n) C.E<=65536:=by unfold wdF;omega
 have a0:=byJ_len (ucF (hlP C.clf C.Z C.E P C.N) (C.clf n) (e n-1) C.E (wdF (e n) (l n) C.E+C.Z (C.clf n)+1)) (C.U (C.clf n)) C.E (e n) (C.Z (C.clf n)) (wdF (e n) (l n) C.E) (2-0);have a1:=byJ_len (ucF (hlP C.clf C.Z C.E P C.N) (C.clf n) (e n-1) C.E (wdF (e n) (l n) C.E+C.Z (C.clf n)+1)) (C.U (C.clf n)) C.E (e n) (C.Z (C.clf n)) (wdF (e n) (l n) C.E) (2-1);have a2:=byJ_len (ucF (hlP C.clf C.Z C.E P C.N) (C.clf n) (e n-1) C.E (wdF (e n) (l n) C.E+C.Z (C.clf n)+1)) (C.U (C.clf n)) C.E (e n) (C.Z (C.clf n)) (wdF (e n) (l n) C.E) (2-2);omega
section
variable {C:Cq} {xs:List O} {sb bb pb pf fb ff mb B cap bc pc fc:Nat} {ba ao:Option Addr} {w1:World} {Y0:Nat->Prop} {la K K8:Int}
theorem Lv.yc {u:Nat} {e l P:Nat->Int} {st:Int} {W:World} {nn:Nat} {Y:Nat->Prop} {A:Array Value} {x g:Nat} {fr:List Int} {wr:World} {F':Nat->Int} {st':Int} {nn':Nat} {f':Int->Int->Value} (h:Lv C xs sb bb pb pf fb ff mb B cap bc pc fc ba ao w1 Y0 K u e l P st W nn Y A x g fr wr F' st' nn' f') (y2:∀ q,W.heap.size<=q->Y q) (q:Nat) (hq:Yc f' wr q):Y q:=by
 rcases hq with ⟨a,b,e⟩|hq
 ·exact h.y1 a b q e
 ·exact y2 q (Nat.le_trans h.frY.size hq)
theorem Lv.go (d:Dps C xs sb bb pb pf fb ff mb B cap bc pc fc ba ao w1 Y0 la K K8) {u:Nat} {e l P:Nat->Int} {st:Int} {W:World} {nn:Nat} {Y:Nat->Prop} {A:Array Value} {x g:Nat} {fr:List Int} {wr:World} {F':Nat->Int} {st':Int} {nn':Nat} {f':Int->Int->Value} (h:Lv C xs sb bb pb pf fb ff mb B cap bc pc fc ba ao w1 Y0 K u e l P st W nn Y A x g fr wr F' st' nn' f') (y2:∀ q,W.heap.size<=q->Y q) (y3:∀ q,Y q->Y0 q) {n:Nat} {c:Int} {w7:World} {F7:Nat->Int} {st7:Int} {nn7:Nat} {f7:Int->Int->Value} (s7:Sc C xs sb bb pb pf fb ff mb B cap bc pc fc ba ao w7 (updI P n c) F7 st7 nn7 f7) (r7:So.Fr (Mv sb pb fb mb (Yc f' wr)) wr w7) (y7:∀ a b q,(f7 a b).ownBlock=some q->Yc f' wr q) (_hW:W.heap.size=x) (hgx:x<g) (szW:B<=x):Lw7 C xs sb bb pb pf fb ff mb B cap bc pc fc ba ao w1 Y0 P n c W Y A x g fr wr f' w7 F7 st7 nn7 f7:=by
 obtain ⟨b1,b2,b3,b4,b5⟩:=d.k.lt;have up:∀ q,Mv sb pb fb mb (Yc f' wr) q->Mv sb pb fb mb Y q:=fun q e=>by
  rcases e with e|e|e|e|e
  ·exact .inl e
  ·exact .inr (.inl e)
  ·exact .inr (.inr (.inl e))
  ·exact .inr (.inr (.inr (.inl e)))
  ·exact .inr (.inr (.inr (.inr (h.yc y2 q e))))
 have up0:∀ q,Mv sb pb fb mb Y q->Mv sb pb fb mb Y0 q:=fun q e=>by
  rcases e with e|e|e|e|e
  ·exact .inl e
  ·exact .inr (.inl e)
  ·exact .inr (.inr (.inl e))
  ·exact .inr (.inr (.inr (.inl e)))
  ·exact .inr (.inr (.inr (.inr (y3 q e))))
 have nn0:∀ q,(q=x\/q=g)->¬ Mv sb pb fb mb (Yc f' wr) q:=fun q hq e=>by
  have hgl:=h.gl;rcases e with e|e|e|e|⟨a,b,e⟩|e
  ·omega
  ·omega
  ·omega
  ·omega
  ·have:=h.yx a b q e;omega
  ·omega
 exact ⟨s7,atFr2 h.bx r7 (nn0 x (.inl rfl)),fun j hj=>by rw [r7.cell h.gl (nn0 g (.inr rfl))];exact h.fl j hj,h.fr0.trans r7 fun q _ e=>up0 q (up q e),h.frY.trans r7 fun q _ e=>up q e,r7,y7,Nat.lt_of_lt_of_le h.gl r7.size⟩
end
section
variable {C:Cq} {xs:List O} {sb bb pb pf fb ff mb B cap bc pc fc:Nat} {ba ao:Option Addr} {w1:World} {Y0:Nat->Prop} {la K K8:Int}
theorem free_at (d:Dps C xs sb bb pb pf fb ff mb B cap bc pc fc ba ao w1 Y0 la K K8) {P F:Nat->Int} {st:Int} {W:World} {nn:Nat} {f:Int->Int->Value} (h:Sc C xs sb bb pb pf fb ff mb B cap bc pc fc ba ao W P F st nn f) {e l:Nat->Int} {n:Nat} (h1:0<=e n/\e n<=la+4260360∧-4260360<=l n/\l n<=la) (hc:C.clf n<4) {W0:World} (g:Below W.heap.size W W0) :
  Calls Tryz.prog 157 #[.pointer (some ⟨sb,0,none⟩),.int .i64 ((C.clf n:Nat):Int),.agg #[.int .i64 (e n),.int .i64 (l n)]] W0 fun r w'=>∃ v,r=.returned v/\w'.ownsRow W0.heap.size 3 1 v (frN C P e l n).length (ints (frN C P e l n))/\Below W0.heap.size W0 w':=by
 have s:=h.up d.k g;have a:=d.la1;have a0:=d.la0;have z:=d.k.z1 (C.clf n);have u:=d.k.u1 (C.clf n);exact freeCycles_any sb bb C.N mb nn (C.clf n) (C.Z (C.clf n)) C.E st (C.U (C.clf n)) (e n) (l n) ba _ _ bc pc fc f _ W0 s.s s.h.m s.h.sl (fun x y=>Nat.le_trans (hlP_le C.clf C.Z C.E P (fun c=>(d.k.z1 c).2) C.N x y) (by have:=d.k.n64;omega)) s.x.bl (s.x.bu _ hc) (s.x.bz _ hc) hc z.1 z.2 u.1 u.2 d.k.e1 d.k.e2 h1.1 (by omega) (by omega) (by omega)
theorem place_step (d:Dps C xs sb bb pb pf fb ff mb B cap bc pc fc ba ao w1 Y0 la K K8) {u:Nat} (ih:Dive C xs sb bb pb pf fb ff mb B cap bc pc fc ba ao w1 Y0 la K K8 u) {e l P F:Nat->Int} {st:Int} {W:World} {nn:Nat} {f:Int->Int->Value} {Y:Nat->Prop} (h:Dp0 C xs sb bb pb pf fb ff mb B cap bc pc fc ba ao w1 Y0 la K K8 (u+1) e l P F st W nn f Y) (hn:¬ nxP e l F P C.N = -1) :
  Calls Tryz.prog 131 #[.pointer (some ⟨sb,0,none⟩),.agg (wnA e l)] W (fun r w'=>∃ nn' f',r=.returned (.bool (plS C (u+1) e l P F st).ok)/\Sc C xs sb bb pb pf fb ff mb B cap bc pc fc ba ao w' (plS C (u+1) e l P F st).P (plS C (u+1) e l P F st).F (plS C (u+1) e l P F st).st nn' f'/\So.Fr (Mv sb pb fb mb Y) W w'/\(∀ a b q,(f' a b).ownBlock=some q->Y q)/\(nn':Int)+8*(plS C (u+1) e l P F st).st<=(nn:Int)+8*st/\((plS C (u+1) e l P F st).ok=false->(nn':Int)+8*(plS C (u+1) e l P F st).st<=(nn:Int)+8*st-8)):=by
 have HD0:Hid (Dps C xs sb bb pb pf fb ff mb B cap bc pc fc ba ao w1 Y0 la K K8):=d;have HH:Hid (Dp0 C xs sb bb pb pf fb ff mb B cap bc pc fc ba ao w1 Y0 la K K8 (u+1) e l P F st W nn f Y):=h;have HIh:Hid (Dive C xs sb bb pb pf fb ff mb B cap bc pc fc ba ao w1 Y0 la K K8 u):=ih;have HA:Hid (At (W.alloc (.cells (wnA e l) 186)) W.heap.size (wnA e l)):=At.new _ _ _;have HB:Hid (Below W.heap.size W (W.alloc (.cells (wnA e l) 186))):=(Below.refl _ _).alloc (Nat.le_refl _) _;have HN:Hid (Calls Tryz.prog 156 #[.pointer (some ⟨sb,0,none⟩),.pointer (some ⟨W.heap.size,0,none⟩)] (W.alloc (.cells (wnA e l) 186)) fun e' w'=>e' = .returned (.int .i64 (nxP e l F P C.N))/\Below (W.alloc (.cells (wnA e l) 186)).heap.size (W.alloc (.cells (wnA e l) 186)) w'):=next_at d h HB.out HA.out;obtain ⟨n0,n1,n2⟩:=(nxP_in e l F P C.N).resolve_left hn;obtain ⟨n,hnn⟩:∃ n:Nat,nxP e l F P C.N=(n:Int):=⟨(nxP e l F P C.N).toNat,by omega⟩;have hnt:(nxP e l F P C.N).toNat = n:=by omega
 rw [hnt] at n2;rw [hnn] at HN n1;have hD:(plS C (u+1) e l P F st)=tryL C (plS C u) n e l P (frN C P e l n) (if frN C P e l n=[] then updI F n (F n+1) else F) (st-1):=by
  show (if nxP e l F P C.N = -1 then _ else tryL C (plS C u) (nxP e l F P C.N).toNat e l P (frN C P e l (nxP e l F P C.N).toNat) (if frN C P e l (nxP e l F P C.N).toNat = [] then updI F (nxP e l F P C.N).toNat (F (nxP e l F P C.N).toNat + 1) else F) (st-1))=_;rw [if_neg hn,hnt]
 rw [hD];obtain ⟨fr,hfr⟩:∃ fr,frN C P e l n=fr:=⟨_,rfl⟩;have HFrE:Hid (frN C P e l n=fr):=hfr;rw [hfr];clear hfr;obtain ⟨Dd,hDd⟩:∃ Dd,tryL C (plS C u) n e l P fr (if fr=[] then updI F n (F n+1) else F) (st-1)=Dd:=⟨_,rfl⟩;have HDd:Hid (tryL C (plS C u) n e l P fr (if fr=[] then updI F n (F n+1) else F) (st-1)=Dd):=hDd;rw [hDd];clear hDd;have hnN:n<C.N:=by omega
 have hcl4:C.clf n<4:=by rw [d.k.cls];exact clN_lt xs n
 have HFr:Hid (∀ W4 P' F' st' nn' f',Sc C xs sb bb pb pf fb ff mb B cap bc pc fc ba ao W4 P' F' st' nn' f'->∀ W0,Below W4.heap.size W4 W0->Calls Tryz.prog 157 #[.pointer (some ⟨sb,0,none⟩),.int .i64 ((C.clf n:Nat):Int),.agg #[.int .i64 (e n),.int .i64 (l n)]] W0 fun r w'=>∃ v,r=.returned v/\w'.ownsRow W0.heap.size 3 1 v (frN C P' e l n).length (ints (frN C P' e l n))/\Below W0.heap.size W0 w'):=fun W4 P' F' st' nn' f' hs W0 g=>free_at d hs (h.wn n hnN) hcl4 g;have hnx:n<xs.length:=by rw [d.k.len];exact hnN
 have HCl:Hid (∀ Z,Calls Tryz.prog 44 #[xs[n].val] Z fun e w'=>e=.returned (.int .i64 ((C.clf n:Nat):Int))/\Below Z.heap.size Z w'):=fun Z=>by rw [d.k.cls,clN_at hnx];exact classOf_any xs[n] Z
 have s0:=h.st0;have u64:=h.u64;have k80:=h.k8;have k8:=d.k8;have k0:=d.k0;have n64:=d.k.n64;have l1:=d.k.lt;have szW:=h.sc.sz;have hst1:st<=20000:=by omega
 have hst2 : -70<=st:=by omega
 obtain ⟨ob,of,hao,hoz,-⟩:=h.sc.x.ops.is (by omega);subst hao;clear hnt hD ih h d hn hnn;go_enter Tryz.func131,Tryz.ntmps131;apply wp_seq_k;intro K0 hK0
 apply wp_region_lit
 refine wpList_boxTo rfl 186 (.tmp 1) rfl (some 3) rfl W.heap.size rfl (wnA e l) rfl ?_;simp only [pq];have hWs:W.heap.size<(W.alloc (.cells (wnA e l) 186)).heap.size:=by simp
 generalize W.alloc (.cells (wnA e l) 186)=W0 at *;obtain ⟨A,hA⟩:∃ A,wnA e l=A:=⟨_,rfl⟩;have HWA:Hid (wnA e l=A):=hA;rw [hA] at HA ⊢;clear hA;obtain ⟨x,hx⟩:∃ x,W.heap.size=x:=⟨_,rfl⟩;have Hx:Hid (W.heap.size=x):=hx;rw [hx] at HA HN szW hWs ⊢;clear hx;have z0:(0:Int)<=(n:Int):=by omega
 have z1:(n:Int)<(C.N:Int):=by omega
 have z2:((n:Int) == -1)=false:=by rw [beq_eq_false_iff_ne];omega
 go_upto_region 4 with (first|(go_at_call 156;refine Calls.mono HN.out ?_;rintro e1 w2 ⟨rfl,b2⟩;have H2:Hid (Below W.heap.size W w2/\At w2 x A):=⟨HB.out.trans (b2.mono HB.out.size),HA.out.below b2 HA.out.lt⟩;clear b2 HN HA HB))
 have HS2:Hid (Sc C xs sb bb pb pf fb ff mb B cap bc pc fc ba (some ⟨ob,of,none⟩) w2 P F st nn f):=HH.out.sc.up HD0.out.k H2.out.1;have q6:w2.cell? ⟨sb,6,none⟩=some (.int .i64 st):=HS2.out.s.c 6 _ rfl;have qf:=HS2.out.s.f 6;have ql:=HS2.out.s.lt;have HF2:Hid (So.Fr (Mv sb pb fb mb Y0) w1 w2/\So.Fr (Mv sb pb fb mb Y) W w2):=⟨HH.out.fr.then H2.out.1,So.Fr.of H2.out.1⟩;have g4:So.Fr (So.One sb) w2 (w2.setCell ⟨sb,6,none⟩ (.int .i64 (st-1))):=(So.Fr.refl (So.One sb) w2).setCell (.inr rfl) _ _;have hxsb:¬ x=sb:=by omega
 have HS4:Hid (Sc C xs sb bb pb pf fb ff mb B cap bc pc fc ba (some ⟨ob,of,none⟩) (w2.setCell ⟨sb,6,none⟩ (.int .i64 (st-1))) P F (st-1) nn f/\At (w2.setCell ⟨sb,6,none⟩ (.int .i64 (st-1))) x A/\So.Fr (Mv sb pb fb mb Y0) w1 (w2.setCell ⟨sb,6,none⟩ (.int .i64 (st-1)))/\So.Fr (Mv sb pb fb mb Y) W (w2.setCell ⟨sb,6,none⟩ (.int .i64 (st-1)))):=⟨HS2.out.step HD0.out.k (fun W' g=>HD0.out.fx HF2.out.1 (fun q e=>.inl e) g) _,atFr2 H2.out.2 g4 hxsb,HF2.out.1.trans g4 fun q _ e=>.inl e,HF2.out.2.trans g4 fun q _ e=>.inl e⟩;clear g4 HS2 H2 HF2;go_upto_region 5 with fail
 clear q6 qf ql;generalize w2.setCell ⟨sb,6,none⟩ (.int .i64 (st-1))=W4 at *;have HFr:Hid (∀ W0,Below W4.heap.size W4 W0->Calls Tryz.prog 157 #[.pointer (some ⟨sb,0,none⟩),.int .i64 ((C.clf n:Nat):Int),.agg #[.int .i64 (e n),.int .i64 (l n)]] W0 fun r w'=>∃ v,r=.returned v/\w'.ownsRow W0.heap.size 3 1 v fr.length (ints fr)/\Below W0.heap.size W0 w'):=fun W0 g=>by rw [<- HFrE.out];exact HFr.out W4 P F (st-1) nn f HS4.out.1 W0 g
 obtain ⟨ob2,of2,hao2,hoz2,hox2⟩:=HS4.out.1.x.ops.is (by omega)
 injection hao2 with hao2
 injection hao2 with hao2 hao3
 subst hao2 hao3;have hop:=hox2 n hnx;have HC:Hid (∀ Wq,Below W4.heap.size W4 Wq->Wq.cell? ⟨sb,0,none⟩=some (.pointer (some ⟨bb,0,none⟩))/\Wq.cell? ⟨bb,0,none⟩=some (.slice (some ⟨ob,of,none⟩) C.N cap)/\Wq.cell? ⟨ob,of+n*5,none⟩=some (.int .i8 xs[n].op)/\Wq.cell? ⟨ob,of+n*5+1,none⟩=some (.int .u8 xs[n].d)/\Wq.cell? ⟨ob,of+n*5+2,none⟩=some (.int .u8 xs[n].a)/\Wq.cell? ⟨ob,of+n*5+3,none⟩=some (.int .u8 xs[n].b)/\Wq.cell? ⟨ob,of+n*5+4,none⟩=some (.int .i64 xs[n].im)/\Wq.cell? ⟨x,n*2,none⟩=some (.int .i64 (e n))/\Wq.cell? ⟨x,n*2+1,none⟩=some (.int .i64 (l n))/\sb<Wq.heap.size):=fun Wq g=>by
  have hs:=HS4.out.1.up HD0.out.k g;have ho:=hop.below g hoz2;have hw:=Wn.of (by rw [HWA.out];exact HS4.out.2.1.below g HS4.out.2.1.lt:At Wq x (wnA e l));exact ⟨hs.s.c 0 _ rfl,hs.x.b0,ho.c0,ho.c1,ho.c2,ho.c3,ho.c4,hw.e n (by omega),hw.l n (by omega),hs.s.lt⟩
 have z5:(n:Int)<64:=by omega
 clear hop hox2 hoz2 hoz;generalize xs[n]=o at *;go_wp2_with fail
 refine wp_region_held_drew (S:=fun Wq=>Below W4.heap.size W4 Wq) (by kernel_rfl) (drew_up W4) (fun zH=>?_);refine wg 0 (.pointer (some ⟨sb,0,none⟩)) rfl zH ?_;simp only [pq];refine wg 1 (.pointer (some ⟨sb,0,none⟩)) rfl zH ?_;simp only [pq];refine wg 2 (.pointer (some ⟨sb,0,none⟩)) rfl zH ?_;simp only [pq];refine wg 3 (.pointer (some ⟨sb,0,none⟩)) rfl zH ?_;simp only [pq];refine wt 4 (.pointer (some ⟨bb,0,none⟩)) rfl (fun w' hSw=>by (have y0:=(HC.out _ hSw).1;have y1:=(HC.out _ hSw).2.1;have y2:=(HC.out _ hSw).2.2.1;have y3:=(HC.out _ hSw).2.2.2.1;have y4:=(HC.out _ hSw).2.2.2.2.1;have y5:=(HC.out _ hSw).2.2.2.2.2.1;have y6:=(HC.out _ hSw).2.2.2.2.2.2.1;have y7:=(HC.out _ hSw).2.2.2.2.2.2.2.1;have y8:=(HC.out _ hSw).2.2.2.2.2.2.2.2.1;have y9:=(HC.out _ hSw).2.2.2.2.2.2.2.2.2;go_simp)) zH ?_;simp only [pq];refine wg 5 (.pointer (some ⟨bb,0,none⟩)) rfl zH ?_;simp only [pq];refine wg 6 (.pointer (some ⟨bb,0,none⟩)) rfl zH ?_;simp only [pq];refine wt 7 (.slice (some ⟨ob,of,none⟩) C.N cap) rfl (fun w' hSw=>by (have y0:=(HC.out _ hSw).1;have y1:=(HC.out _ hSw).2.1;have y2:=(HC.out _ hSw).2.2.1;have y3:=(HC.out _ hSw).2.2.2.1;have y4:=(HC.out _ hSw).2.2.2.2.1;have y5:=(HC.out _ hSw).2.2.2.2.2.1;have y6:=(HC.out _ hSw).2.2.2.2.2.2.1;have y7:=(HC.out _ hSw).2.2.2.2.2.2.2.1;have y8:=(HC.out _ hSw).2.2.2.2.2.2.2.2.1;have y9:=(HC.out _ hSw).2.2.2.2.2.2.2.2.2;go_simp)) zH ?_;simp only [pq];refine wg 8 (.int .i64 (n:Int)) rfl zH ?_;simp only [pq];refine wg 9 (.pointer (some ⟨ob,of+n*5,none⟩)) rfl zH ?_;simp only [pq];refine wt 10 (.agg #[.int .i8 o.op,.int .u8 o.d,.int .u8 o.a,.int .u8 o.b,.int .i64 o.im]) rfl (fun w' hSw=>by (have y0:=(HC.out _ hSw).1;have y1:=(HC.out _ hSw).2.1;have y2:=(HC.out _ hSw).2.2.1;have y3:=(HC.out _ hSw).2.2.2.1;have y4:=(HC.out _ hSw).2.2.2.2.1;have y5:=(HC.out _ hSw).2.2.2.2.2.1;have y6:=(HC.out _ hSw).2.2.2.2.2.2.1;have y7:=(HC.out _ hSw).2.2.2.2.2.2.2.1;have y8:=(HC.out _ hSw).2.2.2.2.2.2.2.2.1;have y9:=(HC.out _ hSw).2.2.2.2.2.2.2.2.2;go_simp)) zH ?_;simp only [pq];refine wg 12 (.int .i64 (n:Int)) rfl zH ?_;simp only [pq];refine wg 13 (.pointer (some ⟨x,n*2,none⟩)) rfl zH ?_;simp only [pq];refine wt 14 (.agg #[.int .i64 (e n),.int .i64 (l n)]) rfl (fun w' hSw=>by (have y0:=(HC.out _ hSw).1;have y1:=(HC.out _ hSw).2.1;have y2:=(HC.out _ hSw).2.2.1;have y3:=(HC.out _ hSw).2.2.2.1;have y4:=(HC.out _ hSw).2.2.2.2.1;have y5:=(HC.out _ hSw).2.2.2.2.2.1;have y6:=(HC.out _ hSw).2.2.2.2.2.2.1;have y7:=(HC.out _ hSw).2.2.2.2.2.2.2.1;have y8:=(HC.out _ hSw).2.2.2.2.2.2.2.2.1;have y9:=(HC.out _ hSw).2.2.2.2.2.2.2.2.2;go_simp)) zH ?_;simp only [pq];refine wpAnyH_ready (rs:=[11]) (by kernel_rfl) (by simp) ?_;refine AllReadyH.cons rfl (fun K hK=>?_) AllReadyH.nil;go_simp
 refine Calls.mono (HCl.out _) ?_;rintro e3 w5 ⟨rfl,b5⟩;have H5:Hid (Below W4.heap.size W4 w5):=(drew_up W4).trans (b5.mono (Nat.le_refl _));clear b5;refine hK.out _ _ H5.out (fun zH=>?_);clear hK K;refine wpAnyH_ready (rs:=[15]) (by kernel_rfl) (by simp) ?_;refine AllReadyH.cons rfl (fun K hK=>?_) AllReadyH.nil;go_simp
 refine Calls.mono (HFr.out _ H5.out) ?_;rintro e4 w6 ⟨vf,rfl,o6,b6⟩;have H6:Hid (w6.ownsRow w5.heap.size 3 1 vf fr.length (ints fr)/\Below W4.heap.size W4 w6/\W4.heap.size<=w5.heap.size):=⟨o6,H5.out.trans (b6.mono H5.out.size),H5.out.size⟩;clear o6 b6;refine hK.out _ _ H6.out.2.1 (fun zH=>?_);clear hK K;refine wg 16 (vf) rfl zH ?_;simp only [pq];refine wpAnyH_done (by kernel_rfl) ?_ _;clear zH;have HV:Hid (Ln w6 vf fr):=Ln.of H6.out.1;have H7:Hid (Sc C xs sb bb pb pf fb ff mb B cap bc pc fc ba (some ⟨ob,of,none⟩) w6 P F (st-1) nn f/\At w6 x A/\So.Fr (Mv sb pb fb mb Y0) w1 w6/\So.Fr (Mv sb pb fb mb Y) W w6/\x<W4.heap.size):=⟨HS4.out.1.up HD0.out.k H6.out.2.1,HS4.out.2.1.below H6.out.2.1 HS4.out.2.1.lt,HS4.out.2.2.1.then H6.out.2.1,HS4.out.2.2.2.then H6.out.2.1,HS4.out.2.1.lt⟩;have hb6:=H6.out.2;obtain ⟨ao2,cp2,hv,hv0,hvc⟩:=HV.out.is;subst hv;have fbn:=HH.out.fbd HD0.out n hnN
 by_cases hfe:fr=[]
 ·have HT:Hid (Dd=⟨false,P,updI F n (F n+1),st-1⟩):=by show Dd=_;rw [<- HDd.out,hfe,if_pos rfl];rfl
  have hl0:fr.length=0:=by rw [hfe];rfl
  rw [hl0];have t5:w6.cell? ⟨sb,5,none⟩=some (.slice (some ⟨fb,ff,none⟩) C.N fc):=H7.out.1.s.c 5 _ rfl;have t6:=H7.out.1.s.lt;have t7:=H7.out.1.q n hnN;have t8:=H7.out.1.qz (ff+n);have t9:fb<w6.heap.size:=by have:=H7.out.1.sz;omega
  have g8:So.Fr (So.One fb) w6 (w6.setCell ⟨fb,ff+n,none⟩ (.int .i64 (F n+1))):=(So.Fr.refl (So.One fb) w6).setCell (.inr rfl) _ _;have HE:Hid (Sc C xs sb bb pb pf fb ff mb B cap bc pc fc ba (some ⟨ob,of,none⟩) (w6.setCell ⟨fb,ff+n,none⟩ (.int .i64 (F n+1))) P (updI F n (F n+1)) (st-1) nn f/\So.Fr (Mv sb pb fb mb Y) W (w6.setCell ⟨fb,ff+n,none⟩ (.int .i64 (F n+1)))):=⟨H7.out.1.fail HD0.out.k (fun W' g=>HD0.out.fx H7.out.2.2.1 (fun q e=>.inr (.inr (.inl e))) g) hnN _,H7.out.2.2.2.1.trans g8 fun q _ e=>.inr (.inr (.inl e))⟩;clear g8 hvc hv0;go_upto_region 8 with fail
  clear t5 t6 t7 t8 t9;generalize w6.setCell ⟨fb,ff+n,none⟩ (.int .i64 (F n+1))=W8 at *;go_wp2_with fail
  go_loopw [50] (fun v wr=>v=.int .i64 0/\wr=W8) (fun _ _=>0)
  case atStart=>exact ⟨rfl,rfl⟩
  case round=>
   obtain ⟨rfl,rfl⟩:=hrel;go_wp2_with fail
   go_ret
   rw [HT.out];exact ⟨nn,f,rfl,HE.out.1,HE.out.2,HH.out.y1,by show (nn:Int)+8*(st-1)<=_;omega,fun _=>by show (nn:Int)+8*(st-1)<=_;omega⟩
 ·have hl0:0<fr.length:=by
   rcases Nat.eq_zero_or_pos fr.length with h0|h0
   ·exact absurd (List.eq_nil_of_length_eq_zero h0) hfe
   ·exact h0
  have HTL:Hid (Dd=tryL C (plS C u) n e l P fr F (st-1)):=by show Dd=_;rw [<- HDd.out,if_neg hfe]
  obtain ⟨g,cg,hgv,hg1,hg2⟩:=H6.out.1.form hl0
  injection hgv with hgv _ hgc
  subst hgv hgc;have hgx:x<g:=by have:=H7.out.2.2.2.2;omega
  have hbW:W.heap.size=x:=Hx.out;have HL0:Hid (Lv C xs sb bb pb pf fb ff mb B cap bc pc fc ba (some ⟨ob,of,none⟩) w1 Y0 K u e l P st W nn Y A x g fr w6 F (st-1) nn f):=by
   refine ⟨H7.out.1,H7.out.2.1,fun j hj=>?_,H7.out.2.2.1,H7.out.2.2.2.1,HH.out.y1,fun a b q eq=>?_,by omega,⟨HH.out.bd.f0,fun i hi=>by have:=HH.out.bd.f1 i hi;omega⟩,by omega,hg2⟩
   ·have hc:=(hvc ⟨g,0,none⟩ rfl hl0).2 j (.int .i64 (fr.getD j 0)) (by unfold ints;rw [List.getElem?_map,List.getD_eq_getElem?_getD,List.getElem?_eq_getElem hj];rfl);rw [show (⟨g,0,none⟩:Addr).add j=⟨g,j,none⟩ by unfold Addr.add;split <;> simp_all] at hc;exact hc
   ·obtain ⟨ys,hy⟩:=HH.out.sc.h.row a b
    have:=(hy.lt q eq).2
    omega
  have HMem:Hid (∀ i,i<fr.length->0<=fr.getD i 0/\fr.getD i 0<=la):=fun i hi=>by
   have hm:fr.getD i 0∈frN C P e l n:=by rw [HFrE.out,List.getD_eq_getElem?_getD,List.getElem?_eq_getElem hi];exact List.getElem_mem hi
   unfold frN at hm;obtain ⟨k,k1,k2,-⟩:=mem_frC hm
   have:=wdF_lt k1
   have:=HH.out.wn n hnN
   omega
  have hfz:((fr.length:Int)==0)=false:=by rw [beq_eq_false_iff_ne];omega
  have hlen:fr.length<=1000000:=by rw [<- HFrE.out];exact frN_len C P e l n HD0.out.k.e2
  clear H7 H6 hvc hv0 HV hb6 H5;go_wp2_with fail
  go_loopw [50] (fun v wr=>∃ (i:Nat) (F':Nat->Int) (st':Int) (nn':Nat) (f':Int->Int->Value),i<=fr.length/\v=.int .i64 i/\Lv C xs sb bb pb pf fb ff mb B cap bc pc fc ba (some ⟨ob,of,none⟩) w1 Y0 K u e l P st W nn Y A x g fr wr F' st' nn' f'/\Dd=tryL C (plS C u) n e l P (fr.drop i) F' st') (fun v _=>fr.length-(intOf v).toNat)
  case atStart=>exact ⟨0,F,st-1,nn,f,by omega,rfl,HL0.out,HTL.out⟩
  case round=>
   rename World=>wr;obtain ⟨i,F',st',nn',f',hi,rfl,hq1,hq2⟩:=hrel;have HQ:Hid (Lv C xs sb bb pb pf fb ff mb B cap bc pc fc ba (some ⟨ob,of,none⟩) w1 Y0 K u e l P st W nn Y A x g fr wr F' st' nn' f'/\Dd=tryL C (plS C u) n e l P (fr.drop i) F' st'):=⟨hq1,hq2⟩;clear hq1 hq2 HL0 HTL
   by_cases hil:i<fr.length
   ·have i0:(0:Int)<=(i:Int):=by omega
    have i1:(i:Int)<(fr.length:Int):=by omega
    obtain ⟨cc0,cc1⟩:=HMem.out i hil;have x1:=HQ.out.1.fl i hil;have gl:=HQ.out.1.gl;have k8q:=HQ.out.1.k8;have s0q:=HQ.out.1.st0;have la1:=HD0.out.la1;have HTr:Hid (Dd=tryL C (plS C u) n e l P (fr.getD i 0::fr.drop (i+1)) F' st'):=by
     show Dd=_;rw [HQ.out.2,List.drop_eq_getElem_cons hil,List.getD_eq_getElem?_getD,List.getElem?_eq_getElem hil];rfl
    generalize fr.getD i 0=c at *;have hnn1:nn'<=900000:=by omega
    have HTk:Hid _:=take_at (Y:=Yc f' wr) HD0.out HQ.out.1.sc HQ.out.1.fr0 hnN n2 cc0 (by omega) (by omega) (fun a b q eq=>.inl ⟨a,b,eq⟩) (fun q hq=>.inr hq) (fun q hq=>HH.out.y3 q (HQ.out.1.yc HH.out.y2 q hq));go_upto_region 12 with (first
     | (go_at_call 158;refine Calls.mono HTk.out ?_;rintro e5 w7 ⟨rfl,f7,s7,r7,y7⟩;have H7:Hid (Lw7 C xs sb bb pb pf fb ff mb B cap bc pc fc ba (some ⟨ob,of,none⟩) w1 Y0 P n c W Y A x g fr wr f' w7 F' st' (nn'+C.Z (C.clf n)) f7):=HQ.out.1.go HD0.out HH.out.y2 HH.out.y3 s7 r7 y7 hbW hgx szW;clear s7 r7 y7 HTk x1))
    obtain ⟨zz1,zz2⟩:=HD0.out.k.z1 (C.clf n);have hcl1:c<=1000000:=by omega
    have hpr:∀ j,j<C.N→-1<=updI P n c j/\updI P n c j<=la:=fun j hj=>by
     have:=HH.out.pr j hj
     unfold updI;split <;> omega
    have HNw:Hid (Calls Tryz.prog 159 #[.pointer (some ⟨sb,0,none⟩),.agg A,.int .i64 (n:Int)] w7 fun r w'=>r=.returned (.agg (wnA (nwE C.FM n c e C.N) (nwL C.FM n c l C.N)))/\Below w7.heap.size w7 w'):=by rw [<- HWA.out];exact narrow_at HD0.out H7.out.sc hpr hnN cc0 hcl1 e l
    have HRg:Hid (w7.rangeAt x 0 A.toList):=by have:=(Wn.of (by rw [HWA.out];exact H7.out.bx:At w7 x (wnA e l))).range;rwa [HWA.out] at this
    have HI8:Hid ((Tryz.prog.info? 186).map (·.size)=some A.toList.length):=by show Option.map _ _=_;rw [<- HWA.out,Array.length_toList,wnA_size];kernel_rfl
    have HRec:Hid (∀ w8,Below w7.heap.size w7 w8->Dp0 C xs sb bb pb pf fb ff mb B cap bc pc fc ba (some ⟨ob,of,none⟩) w1 Y0 la K K8 u (nwE C.FM n c e C.N) (nwL C.FM n c l C.N) (updI P n c) F' st' w8 (nn'+C.Z (C.clf n)) f7 (Yc f7 w8)):=fun w8 g8=>by
     have hcu:=cntU_put (P:=P) (n:=n) (c:=c) n2 (by omega) hnN;have hun:=HH.out.un;refine ⟨by omega,by omega,nw_in HD0.out HH.out.wn hnN cc0 cc1,hpr,HQ.out.1.bd,s0q,by omega,H7.out.sc.up HD0.out.k g8,H7.out.fr0.then g8,fun a b q eq=>.inl ⟨a,b,eq⟩,fun q hq=>.inr hq,fun q hq=>?_⟩;rcases hq with ⟨a,b,eq⟩|hq
     ·exact HH.out.y3 q (HQ.out.1.yc HH.out.y2 q (H7.out.y7 a b q eq))
     ·exact HH.out.y3 q (HH.out.y2 q (by have a1:=H7.out.frY.size;have a2:=g8.size;omega))
    obtain ⟨r,hr⟩:∃ r,plS C u (nwE C.FM n c e C.N) (nwL C.FM n c l C.N) (updI P n c) F' st'=r:=⟨_,rfl⟩;have HRv:Hid (∀ w8,Below w7.heap.size w7 w8->Calls Tryz.prog 131 #[.pointer (some ⟨sb,0,none⟩),.agg (wnA (nwE C.FM n c e C.N) (nwL C.FM n c l C.N))] w8 fun r' w'=>∃ nn9 f9,r' = .returned (.bool r.ok)/\Sc C xs sb bb pb pf fb ff mb B cap bc pc fc ba (some ⟨ob,of,none⟩) w' r.P r.F r.st nn9 f9/\So.Fr (Mv sb pb fb mb (Yc f7 w8)) w8 w'/\(∀ a b q,(f9 a b).ownBlock=some q->Yc f7 w8 q)/\(nn9:Int)+8*r.st<=((nn'+C.Z (C.clf n):Nat):Int)+8*st'/\(r.ok=false->(nn9:Int)+8*r.st<=((nn'+C.Z (C.clf n):Nat):Int)+8*st'-8)):=fun w8 g8=>by rw [<- hr];exact HIh.out _ _ _ _ _ _ _ _ _ (HRec.out w8 g8)
    have HBd:Hid (Bd C.N K r.F r.st/\(u:Int)-64-u<=r.st):=by
     have:=plS_bd (C:=C) (u:=u) (lo:=(u:Int)-64) (e:=nwE C.FM n c e C.N) (l:=nwL C.FM n c l C.N) (P:=updI P n c) (by omega) s0q HQ.out.1.bd
     rw [hr] at this;exact ⟨this.1,this.2.1⟩
    have HPf:Hid (r.ok=false->r.P=updI P n c):=fun hf=>by rw [<- hr] at hf ⊢;exact plS_false hf
    have HTc:Hid (Dd=if r.ok=true then r else if r.st<=0 then ⟨false,P,r.F,r.st⟩ else tryL C (plS C u) n e l P (fr.drop (i+1)) r.F r.st):=by
     show Dd=_;rw [HTr.out,<- hr];rfl
    clear hr HRec HIh;have hxw7:x<w7.heap.size:=H7.out.bx.lt
    cases hok:r.ok
    ·rw [hok] at HRv;have HOk:Hid (r.ok=false):=hok
     by_cases hst0:r.st<=0
     ·have hd1:decide (r.st<=0)=true:=decide_eq_true hst0;go_wp2_with (first
       | (go_at_call 159;refine Calls.mono HNw.out ?_;rintro e6 w8 ⟨rfl,b8⟩;have H8:Hid (Below w7.heap.size w7 w8):=b8;clear b8 HNw HRg HI8)
       | (go_at_call 131;refine Calls.mono (HRv.out _ H8.out) ?_;rintro e7 w9 ⟨nn9,f9,rfl,s9,r9,y9,-,k9⟩;have k9:=k9 (by first|trivial|rfl);rw [HPf.out HOk.out] at s9;have H9:Hid (Sc C xs sb bb pb pf fb ff mb B cap bc pc fc ba (some ⟨ob,of,none⟩) w9 (updI P n c) r.F r.st nn9 f9/\So.Fr (Mv sb pb fb mb (Yc f7 w8)) w8 w9/\(∀ a b q,(f9 a b).ownBlock=some q->Yc f7 w8 q)/\(nn9:Int)+8*r.st<=((nn'+C.Z (C.clf n):Nat):Int)+8*st'-8):=⟨s9,r9,y9,k9⟩;clear s9 r9 y9 k9 HRv;have bb9:=HBd.out.2;have kk9:=H9.out.2.2.2;have hnn9:nn9<=1000000:=(by omega);have G9:Hid (∀ q,Yc f7 w8 q->Y q):=(fun q hq=>by rcases hq with ⟨a,b,eq⟩|hq;exact HQ.out.1.yc HH.out.y2 q (H7.out.y7 a b q eq);exact HH.out.y2 q (by have a1:=H7.out.frY.size;have a2:=H8.out.size;omega));have F9:Hid (So.Fr (Mv sb pb fb mb Y) W w9):=(H7.out.frY.then H8.out).trans H9.out.2.1 (fun q _ e=>mv_up G9.out q e);have F09:Hid (So.Fr (Mv sb pb fb mb Y0) w1 w9):=(H7.out.fr0.then H8.out).trans H9.out.2.1 (fun q _ e=>mv_up (fun q hq=>HH.out.y3 q (G9.out q hq)) q e);have HBk:Hid _:=back_at (Y:=Yc f7 w8) HD0.out H9.out.1 F09.out hnN n2 cc0 (by omega) hnn9 H9.out.2.2.1)
       | (go_at_call 160;refine Calls.mono HBk.out ?_;rintro e8 w10 ⟨rfl,f10,s10,r10,y10⟩;have H10:Hid (Sc C xs sb bb pb pf fb ff mb B cap bc pc fc ba (some ⟨ob,of,none⟩) w10 P r.F r.st (nn9+C.Z (C.clf n)) f10/\So.Fr (Mv sb pb fb mb (Yc f7 w8)) w9 w10/\(∀ a b q,(f10 a b).ownBlock=some q->Yc f7 w8 q)):=⟨s10,r10,y10⟩;clear s10 r10 y10 HBk;have q6:w10.cell? ⟨sb,6,none⟩=some (.int .i64 r.st):=H10.out.1.s.c 6 _ rfl;have q7:=H10.out.1.s.lt)
       | (refine wpList_load_mid rfl 186 (.tmp 3) rfl x 0 rfl A.toList _ HRg.out Tryz.underlying186 rfl HI8.out ?_;rw [Array.toArray_toList]))
      go_ret
      have hd:Dd=⟨false,P,r.F,r.st⟩:=by rw [HTc.out,if_neg (by rw [HOk.out];simp),if_pos hst0]
      rw [hd];refine ⟨nn9+C.Z (C.clf n),f10,rfl,H10.out.1,F9.out.trans H10.out.2.1 fun q _ e=>mv_up G9.out q e,fun a b q eq=>G9.out q (H10.out.2.2 a b q eq),?_,fun _=>?_⟩
      ·show ((nn9+C.Z (C.clf n):Nat):Int)+8*r.st<=_;omega
      ·show ((nn9+C.Z (C.clf n):Nat):Int)+8*r.st<=_;omega
     ·have hd1:decide (r.st<=0)=false:=decide_eq_false hst0;go_wp2_with (first
       | (go_at_call 159;refine Calls.mono HNw.out ?_;rintro e6 w8 ⟨rfl,b8⟩;have H8:Hid (Below w7.heap.size w7 w8):=b8;clear b8 HNw HRg HI8)
       | (go_at_call 131;refine Calls.mono (HRv.out _ H8.out) ?_;rintro e7 w9 ⟨nn9,f9,rfl,s9,r9,y9,-,k9⟩;have k9:=k9 (by first|trivial|rfl);rw [HPf.out HOk.out] at s9;have H9:Hid (Sc C xs sb bb pb pf fb ff mb B cap bc pc fc ba (some ⟨ob,of,none⟩) w9 (updI P n c) r.F r.st nn9 f9/\So.Fr (Mv sb pb fb mb (Yc f7 w8)) w8 w9/\(∀ a b q,(f9 a b).ownBlock=some q->Yc f7 w8 q)/\(nn9:Int)+8*r.st<=((nn'+C.Z (C.clf n):Nat):Int)+8*st'-8):=⟨s9,r9,y9,k9⟩;clear s9 r9 y9 k9 HRv;have bb9:=HBd.out.2;have kk9:=H9.out.2.2.2;have hnn9:nn9<=1000000:=(by omega);have G9:Hid (∀ q,Yc f7 w8 q->Y q):=(fun q hq=>by rcases hq with ⟨a,b,eq⟩|hq;exact HQ.out.1.yc HH.out.y2 q (H7.out.y7 a b q eq);exact HH.out.y2 q (by have a1:=H7.out.frY.size;have a2:=H8.out.size;omega));have F9:Hid (So.Fr (Mv sb pb fb mb Y) W w9):=(H7.out.frY.then H8.out).trans H9.out.2.1 (fun q _ e=>mv_up G9.out q e);have F09:Hid (So.Fr (Mv sb pb fb mb Y0) w1 w9):=(H7.out.fr0.then H8.out).trans H9.out.2.1 (fun q _ e=>mv_up (fun q hq=>HH.out.y3 q (G9.out q hq)) q e);have HBk:Hid _:=back_at (Y:=Yc f7 w8) HD0.out H9.out.1 F09.out hnN n2 cc0 (by omega) hnn9 H9.out.2.2.1)
       | (go_at_call 160;refine Calls.mono HBk.out ?_;rintro e8 w10 ⟨rfl,f10,s10,r10,y10⟩;have H10:Hid (Sc C xs sb bb pb pf fb ff mb B cap bc pc fc ba (some ⟨ob,of,none⟩) w10 P r.F r.st (nn9+C.Z (C.clf n)) f10/\So.Fr (Mv sb pb fb mb (Yc f7 w8)) w9 w10/\(∀ a b q,(f10 a b).ownBlock=some q->Yc f7 w8 q)):=⟨s10,r10,y10⟩;clear s10 r10 y10 HBk;have q6:w10.cell? ⟨sb,6,none⟩=some (.int .i64 r.st):=H10.out.1.s.c 6 _ rfl;have q7:=H10.out.1.s.lt)
       | (refine wpList_load_mid rfl 186 (.tmp 3) rfl x 0 rfl A.toList _ HRg.out Tryz.underlying186 rfl HI8.out ?_;rw [Array.toArray_toList]))
      go_roundw
      case rel=>
       have hd:Dd=tryL C (plS C u) n e l P (fr.drop (i+1)) r.F r.st:=by rw [HTc.out,if_neg (by rw [HOk.out];simp),if_neg (by omega)]
       have hw8:=H8.out.size;have hgl7:=H7.out.gl;have hwr7:=H7.out.frC.size;have nx:∀ q,(q=x\/q=g)->¬ Mv sb pb fb mb (Yc f7 w8) q:=fun q hq e=>by
        rcases e with e|e|e|e|⟨a,b,e⟩|e
        ·omega
        ·omega
        ·omega
        ·omega
        ·rcases H7.out.y7 a b q e with ⟨a',b',e'⟩|e'
         ·have:=HQ.out.1.yx a' b' q e';omega
         ·omega
        ·omega
       have b8:=H7.out.bx.below H8.out H7.out.bx.lt;have b9:=atFr2 b8 H9.out.2.1 (nx x (.inl rfl));have z9:=H9.out.2.1.size;have z10:=H10.out.2.1.size;refine ⟨i+1,r.F,r.st,nn9+C.Z (C.clf n),f10,by omega,by go_num,⟨H10.out.1,atFr2 b9 H10.out.2.1 (nx x (.inl rfl)),fun j hj=>?_,F09.out.trans H10.out.2.1 fun q _ e=>mv_up (fun q hq=>HH.out.y3 q (G9.out q hq)) q e,F9.out.trans H10.out.2.1 fun q _ e=>mv_up G9.out q e,fun a b q eq=>G9.out q (H10.out.2.2 a b q eq),fun a b q eq=>?_,?_,HBd.out.1,by omega,by omega⟩,hd⟩
       ·rw [H10.out.2.1.cell (by omega) (nx g (.inr rfl)),H9.out.2.1.cell (by omega) (nx g (.inr rfl)),(bcell H8.out).1 _ _ hgl7];exact H7.out.fl j hj
       ·rcases H10.out.2.2 a b q eq with ⟨a',b',e'⟩|e'
        ·rcases H7.out.y7 a' b' q e' with ⟨a2',b2',e2'⟩|e2'
         ·exact HQ.out.1.yx a2' b2' q e2'
         ·constructor <;> omega
        ·constructor <;> omega
       ·show ((nn9+C.Z (C.clf n):Nat):Int)+8*r.st<=_;omega
      case measure=>simp [intOf];omega
    ·rw [hok] at HRv;go_wp2_with (first
      | (go_at_call 159;refine Calls.mono HNw.out ?_;rintro e6 w8 ⟨rfl,b8⟩;have H8:Hid (Below w7.heap.size w7 w8):=b8;clear b8 HNw HRg HI8)
      | (go_at_call 131;refine Calls.mono (HRv.out _ H8.out) ?_;rintro e7 w9 ⟨nn9,f9,rfl,s9,r9,y9,k9,-⟩;have H9:Hid (Sc C xs sb bb pb pf fb ff mb B cap bc pc fc ba (some ⟨ob,of,none⟩) w9 r.P r.F r.st nn9 f9/\So.Fr (Mv sb pb fb mb (Yc f7 w8)) w8 w9/\(∀ a b q,(f9 a b).ownBlock=some q->Yc f7 w8 q)/\(nn9:Int)+8*r.st<=((nn'+C.Z (C.clf n):Nat):Int)+8*st'):=⟨s9,r9,y9,k9⟩;clear s9 r9 y9 k9 HRv)
      | (refine wpList_load_mid rfl 186 (.tmp 3) rfl x 0 rfl A.toList _ HRg.out Tryz.underlying186 rfl HI8.out ?_;rw [Array.toArray_toList]))
     go_ret
     have hd:Dd=r:=by rw [HTc.out,if_pos hok]
     have g9:∀ q,Yc f7 w8 q->Y q:=fun q hq=>by
      rcases hq with ⟨a,b,eq⟩|hq
      ·exact HQ.out.1.yc HH.out.y2 q (H7.out.y7 a b q eq)
      ·exact HH.out.y2 q (by have a1:=H7.out.frY.size;have a2:=H8.out.size;omega)
     have k9:=H9.out.2.2.2;rw [hd];refine ⟨nn9,f9,by rw [hok];rfl,H9.out.1,(H7.out.frY.then H8.out).trans H9.out.2.1 fun q _ e=>?_,fun a b q eq=>g9 q (H9.out.2.2.1 a b q eq),by omega,fun e=>by rw [hok] at e;cases e⟩;rcases e with e|e|e|e|e
     ·exact .inl e
     ·exact .inr (.inl e)
     ·exact .inr (.inr (.inl e))
     ·exact .inr (.inr (.inr (.inl e)))
     ·exact .inr (.inr (.inr (.inr (g9 q e))))
   ·obtain rfl:i=fr.length:=by omega
    have i1:¬ (fr.length:Int)<(fr.length:Int):=by omega
    go_wp2_with fail
    go_ret
    have hd:Dd=⟨false,P,F',st'⟩:=by rw [HQ.out.2,List.drop_length];rfl
    have k8q:=HQ.out.1.k8;rw [hd];exact ⟨rfl,nn',f',HQ.out.1.sc,HQ.out.1.frY,HQ.out.1.y1,by show (nn':Int)+8*st'<=_;omega,fun _=>by show (nn':Int)+8*st'<=_;omega⟩
theorem dive (d:Dps C xs sb bb pb pf fb ff mb B cap bc pc fc ba ao w1 Y0 la K K8):∀ u,Dive C xs sb bb pb pf fb ff mb B cap bc pc fc ba ao w1 Y0 la K K8 u
 | 0=>fun e l P F st W nn f Y h=>place_done d h (by
   rcases nxP_in e l F P C.N with hn|⟨h1,h2,h3⟩
   ·exact hn
   ·have:=cntU_pos h3 (k:=C.N) (by omega)
    have:=h.un
    omega)
 | u+1=>fun e l P F st W nn f Y h=>by
  by_cases hn:nxP e l F P C.N = -1
  ·have hD:plS C (u+1) e l P F st=⟨true,P,F,st⟩:=if_pos hn;rw [hD];exact place_done d h hn
  ·exact place_step d (dive d u) h hn
end
def dvS (C:Cq) (e l:Nat->Int):Nat->(Nat->Int)->Option (Nat->Int)
 | 0,_=>none
 | k+1,F=>
  if (plS C C.N e l (fun _=>-1) F (4*(C.N:Int)+50)).ok=true then some (plS C C.N e l (fun _=>-1) F (4*(C.N:Int)+50)).P
  else if 0<(plS C C.N e l (fun _=>-1) F (4*(C.N:Int)+50)).st then none
  else dvS C e l k (plS C C.N e l (fun _=>-1) F (4*(C.N:Int)+50)).F
theorem st_bd {F:Mat} {la X:Int} {N i:Nat} (hi:i<N) (hX:0<=X) (hF:∀ i j,i<N->j<N->F i j=noW∨-X<=F i j/\F i j<=X) {s:(Nat->Int)×(Nat->Int)} (h1:∀ k,k<N->s.1 k<=X) (h2:∀ k,k<N->la-X<=s.2 k):∀ j,j<=N->(∀ k,k<N->(stO F la i s j).1 k<=X)/\∀ k,k<N->la-X<=(stO F la i s j).2 k
 | 0,_=>⟨h1,h2⟩
 | j+1,hj=>by
  obtain ⟨g1,g2⟩:=st_bd (i:=i) hi hX hF h1 h2 j (by omega);have hf:=hF i j hi (by omega);unfold stO
  split
  ·exact ⟨g1,g2⟩
  ·rename_i hne;refine ⟨fun k hk=>?_,fun k hk=>?_⟩
   ·show updI _ j _ k<=X;unfold updI
    have:=g1 k hk
    split
    ·rename_i e;subst e;omega
    ·exact this
   ·show la-X<=updI _ i _ k;unfold updI
    have:=g2 k hk
    split
    ·rename_i e;subst e;omega
    ·exact this
theorem op_bd {F:Mat} {la X:Int} {N:Nat} (hX:0<=X) (hF:∀ i j,i<N->j<N->F i j=noW∨-X<=F i j/\F i j<=X):∀ i,i<=N->(∀ k,k<N->(opO F la N i).1 k<=X)/\∀ k,k<N->la-X<=(opO F la N i).2 k
 | 0,_=>⟨fun _ _=>hX,fun k hk=>by show la-X<=(if k<N then la else 0);rw [if_pos hk];omega⟩
 | i+1,hi=>st_bd (by omega) hX hF (op_bd hX hF i (by omega)).1 (op_bd hX hF i (by omega)).2 N (Nat.le_refl _)
def Gr (sb fb z:Nat):Nat->Prop:=fun q=>q=sb\/q=fb\/z<=q
theorem hlP_none (clf Z:Nat->Nat) (E:Int):∀ k,hlP clf Z E (fun _=>-1) k=fun _ _=>0
 | 0=>rfl
 | k+1=>by
  funext a b
  show hlP clf Z E (fun _=>-1) k a b+_=0;rw [hlP_none clf Z E k,if_pos rfl]
theorem cntU_le (P:Nat->Int):∀ k,cntU P k<=k
 | 0=>Nat.le_refl _
 | k+1=>by
  show cntU P k+_<=_
  have:=cntU_le P k
  split <;> omega
structure Rs0 (C:Cq) (xs:List O) (sb bb fb:Nat) (ao:Option Addr) (z:Nat) (la:Int):Prop where
 len:xs.length=C.N
 n0:0<C.N
 n64:C.N<=64
 cls:∀ i,C.clf i=clN xs i
 z1:∀ c,1<=C.Z c/\C.Z c<=4
 u1:∀ c,0<=C.U c/\C.U c<=8
 e1:1<=C.E
 e2:C.E<=65536
 fm:∀ i j,i<C.N->j<C.N->C.FM i j=noW∨-4260360<=C.FM i j/\C.FM i j<=4260360
 sf:sb≠fb
 bd:bb≠sb/\bb≠fb
 lt:sb<z/\fb<z/\bb<z
 oa:∀ x,ao=some x->x.block<z
 la0:0<=la
 la1:la<=200000
theorem dive_start {C:Cq} {xs:List O} {sb bb fb cap bc:Nat} {ba ao:Option Addr} {z:Nat} {la:Int} (R:Rs0 C xs sb bb fb ao z la) {W1 w1:World} (hz:W1.heap.size=z) {pb mb:Nat} (hX:∀ pb pf mb B pc W',So.Fr (Gr sb fb z) W1 W'->Fx C xs sb bb pb pf fb 0 mb B cap bc pc C.N ba ao W') (hg:So.Fr (Gr sb fb z) W1 w1) {F:Nat->Int} {st K:Int} (hp:z<=pb) (hm:z<=mb) (hpm:pb≠mb) (hpl:pb<w1.heap.size) (hml:mb<w1.heap.size)
  (hS:At w1 sb #[.pointer (some ⟨bb,0,none⟩),.int .i64 C.E,.slice ba C.N bc,.slice (some ⟨pb,0,none⟩) C.N C.N,.map (some mb),.slice (some ⟨fb,0,none⟩) C.N C.N,.int .i64 st]) (hP:Ir w1 pb C.N (fun _=>-1)) (hF:Ir w1 fb C.N F) (hM:Hm w1 mb 0 (fun _ _=>.slice none 0 0)) (hK:K<=5000) (hb:Bd C.N K F st) (hst:0<=st) (hst2:st<=1000) {e l:Nat->Int} (hw:∀ i,i<C.N->0<=e i/\e i<=la+4260360∧-4260360<=l i/\l i<=la) :
  Dps C xs sb bb pb 0 fb 0 mb w1.heap.size cap bc C.N C.N ba ao w1 (fun q=>w1.heap.size<=q) la K 8000/\Dp0 C xs sb bb pb 0 fb 0 mb w1.heap.size cap bc C.N C.N ba ao w1 (fun q=>w1.heap.size<=q) la K 8000 C.N e l (fun _=>-1) F st w1 0 (fun _ _=>.slice none 0 0) (fun q=>w1.heap.size<=q):=by
 have l1:=R.lt;have sz:=hg.size;have la0:=R.la0;have fx:∀ W,So.Fr (Mv sb pb fb mb (fun q=>w1.heap.size<=q)) w1 W->Fx C xs sb bb pb 0 fb 0 mb w1.heap.size cap bc C.N C.N ba ao W:=fun W g=>hX _ _ _ _ _ _ (hg.trans g fun q _ e=>by
  rcases e with e|e|e|e|e
  ·exact .inl e
  ·exact .inr (.inr (by omega))
  ·exact .inr (.inl e)
  ·exact .inr (.inr (by omega))
  ·exact .inr (.inr (by omega)))
 refine ⟨⟨⟨R.len,R.n64,R.cls,R.z1,R.u1,R.e1,R.e2,R.fm,⟨by omega,R.sf,by omega,by omega,hpm,by omega⟩,⟨R.bd.1,by omega,R.bd.2,by omega⟩,fun x hx=>by have:=R.oa x hx;constructor <;> omega,by omega,hpl,by omega,hml,by omega⟩,fx,R.la0,R.la1,hK,by omega,by refine ⟨?_,?_,?_,?_,?_⟩ <;> omega⟩,⟨cntU_le _ _,R.n64,hw,fun i hi=>by constructor <;> omega,hb,by have:=R.n64;omega,by omega,⟨hS,fun k hk=>by rw [Nat.zero_add];exact hP.c k hk,hP.f,fun k hk=>by rw [Nat.zero_add];exact hF.c k hk,hF.f,?_,fx w1 (So.Fr.refl _ _),Nat.le_refl _⟩,So.Fr.refl _ _,(fun a b q e=>nomatch e),fun q hq=>hq,fun q hq=>hq⟩⟩;rw [hlP_none];exact ⟨hM,fun _ _=>⟨[],World.ownsRow_nil _ _ _ _⟩,fun _ _ _ _ h=>absurd rfl h,hml⟩
end Go.Proofs.YtiejdpjgplikjaaGreatDoor.Mo
