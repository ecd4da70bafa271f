/- Parts Uw. -/
import Derived.Test.YtiejdpjgplikjaaGreatDoorN34
import Derived.Test.YtiejdpjgplikjaaGreatDoorN00
set_option maxRecDepth 20000
set_option maxHeartbeats 16000000
namespace Go.Proofs.YtiejdpjgplikjaaGreatDoor.Mo
open Go.ChangeShapes Go.WideShapes Go.ChangeAt Go.RowKit Go.Great Go.Maps
open YtiejdpjgplikjaaGreatDoor.Op YtiejdpjgplikjaaGreatDoor.So YtiejdpjgplikjaaGreatDoor.Dp YtiejdpjgplikjaaGreatDoor.Bn
open YtiejdpjgplikjaaGreatDoor.Rv (I64)
open YtiejdpjgplikjaaGreatDoor.Ls (Nl clN clN_at clN_lt)
def RuOut (C:Cq) (sb fb:Nat) (sr:Option (Nat->Int)) (w:World) (r:Ending) (w':World):Prop:=(match sr with
 | none=>r=.returned (.tuple #[.slice none 0 0,.bool false])
 | some P=>∃ pb,r=.returned (.tuple #[.slice (some ⟨pb,0,none⟩) C.N C.N,.bool true])/\Ir w' pb C.N P/\w.heap.size<=pb)/\So.Fr (Gr sb fb w.heap.size) w w'
structure Rn (C:Cq) (sb bb fb bc:Nat) (ba:Option Addr) (W1 W:World) (F:Nat->Int):Prop where
 fr:So.Fr (Gr sb fb W1.heap.size) W1 W
 s:∃ p3 p4 p6,At W sb #[.pointer (some ⟨bb,0,none⟩),.int .i64 C.E,.slice ba C.N bc,p3,p4,.slice (some ⟨fb,0,none⟩) C.N C.N,p6]
 f:Ir W fb C.N F
theorem Rs0.up {C:Cq} {xs:List O} {sb bb fb:Nat} {ao:Option Addr} {z z':Nat} {la:Int} (R:Rs0 C xs sb bb fb ao z la) (h:z<=z'):Rs0 C xs sb bb fb ao z' la:=
 { R with lt:=by have:=R.lt;omega,oa:=fun x hx=>by have:=R.oa x hx;omega }
structure R1 (w W1:World) (x:Nat) (A:Array Value):Prop where
 up:Below w.heap.size w W1
 rg:W1.rangeAt x 0 A.toList
 x0:w.heap.size<=x
 x1:x<W1.heap.size
theorem there_new (w2:World) {A:Array Value} (hA:A.size=128):(w2.alloc (.cells (zcs 128).toArray 186)).there w2.heap.size 0 A.size:=fun j hj=>by
 have h:=At.new w2 (zcs 128).toArray 186;rw [Nat.zero_add];refine ⟨?_,h.f j⟩;rw [h.c j (.int .i64 0) (by rw [List.getElem?_toArray];unfold zcs;rw [List.getElem?_replicate,if_pos (by omega)])];rfl
theorem r1_new {w w2:World} (g:Below w.heap.size w w2) {A:Array Value} (hA:A.size=128):R1 w ((w2.alloc (.cells (zcs 128).toArray 186)).setCells w2.heap.size 0 A.toList) w2.heap.size A:=by
 have hF:So.Fr (So.One w2.heap.size) (w2.alloc (.cells (zcs 128).toArray 186)) ((w2.alloc (.cells (zcs 128).toArray 186)).setCells w2.heap.size 0 A.toList):=fr_setCells (X:=So.One w2.heap.size) rfl _ _ (So.Fr.refl _ _);have z:=hF.size;have gz:=g.size;rw [World.size_alloc] at z;refine ⟨(g.trans ((Below.refl _ _).alloc gz _)).trans (hF.below (by rw [World.size_alloc];omega) fun k hk e=>by have e:k=w2.heap.size:=e;omega),World.rangeAt_setCells_same _ _ _ _ (by simpa using there_new w2 hA),gz,by omega⟩
theorem gr_up {sb fb:Nat} {w W1 W':World} (h:Below w.heap.size w W1) (g:So.Fr (Gr sb fb W1.heap.size) W1 W'):So.Fr (Gr sb fb w.heap.size) w W':=(So.Fr.of (X:=Gr sb fb w.heap.size) h).trans g fun q _ e=>by
 have:=h.size
 rcases e with e|e|e
 ·exact .inl e
 ·exact .inr (.inl e)
 ·exact .inr (.inr (by omega))
theorem op_hw {C:Cq} {xs:List O} {sb bb fb:Nat} {ao:Option Addr} {z:Nat} {la:Int} (R:Rs0 C xs sb bb fb ao z la):∀ i,i<C.N->0<=(opO C.FM la C.N C.N).1 i/\(opO C.FM la C.N C.N).1 i<=la+4260360∧-4260360<=(opO C.FM la C.N C.N).2 i/\(opO C.FM la C.N C.N).2 i<=la:=fun i hi=>by
 have a:=op_in C.FM la C.N C.N;have b:=op_bd (la:=la) (X:=4260360) (by omega) R.fm C.N (Nat.le_refl _);have a1:=a.1 i hi;have a2:=a.2 i hi;have b1:=b.1 i hi;have b2:=b.2 i hi
 have:=R.la0
 omega
structure Rd (C:Cq) (sb bb fb bc:Nat) (ba:Option Addr) (W1 X:World) (pb:Nat) (F:Nat->Int) (p4 p6:Value):Prop where
 fr:So.Fr (Gr sb fb W1.heap.size) W1 X
 s:At X sb #[.pointer (some ⟨bb,0,none⟩),.int .i64 C.E,.slice ba C.N bc,.slice (some ⟨pb,0,none⟩) C.N C.N,p4,.slice (some ⟨fb,0,none⟩) C.N C.N,p6]
 p:Ir X pb C.N (fun _=>-1)
 f:Ir X fb C.N F
 pz:W1.heap.size<=pb
section
variable {C:Cq} {sb bb fb bc:Nat} {ba:Option Addr} {W1:World}
theorem rd_3 {wr w3:World} {pb:Nat} {F:Nat->Int} {a3 a4 a6:Value} (hN:Rn C sb bb fb bc ba W1 wr F) (hs:At wr sb #[.pointer (some ⟨bb,0,none⟩),.int .i64 C.E,.slice ba C.N bc,a3,a4,.slice (some ⟨fb,0,none⟩) C.N C.N,a6]) (g:Below wr.heap.size wr w3) (hp:Ir w3 pb C.N (fun _=>-1)) (pz:W1.heap.size<=pb) (sf:sb≠fb) (l1:sb<W1.heap.size) :
  Rd C sb bb fb bc ba W1 (w3.setCell ⟨sb,3,none⟩ (.slice (some ⟨pb,0,none⟩) C.N C.N)) pb F a4 a6:=by
 have g3:So.Fr (So.One sb) w3 (w3.setCell ⟨sb,3,none⟩ (.slice (some ⟨pb,0,none⟩) C.N C.N)):=(So.Fr.refl (So.One sb) w3).setCell (.inr rfl) _ _;exact ⟨(hN.fr.then g).setCell (.inr (.inl rfl)) _ _,at_set' (hs.below g hs.lt) (by simp) _,hp.fr g3 fun e=>by have e:pb=sb:=e;omega,(hN.f.up g).fr g3 fun e=>by have e:fb=sb:=e;omega,pz⟩
theorem Rd.alloc {X:World} {pb:Nat} {F:Nat->Int} {p4 p6:Value} (h:Rd C sb bb fb bc ba W1 X pb F p4 p6) (o:Obj):Rd C sb bb fb bc ba W1 (X.alloc o) pb F p4 p6:=by
 have g:Below X.heap.size X (X.alloc o):=(Below.refl _ _).alloc (Nat.le_refl _) _;exact ⟨h.fr.then g,h.s.below g h.s.lt,h.p.up g,h.f.up g,h.pz⟩
theorem Rd.set {X:World} {pb j:Nat} {F:Nat->Int} {p4 p6 q4 q6:Value} (h:Rd C sb bb fb bc ba W1 X pb F p4 p6) (hj:j<7) (v:Value) (e:(#[.pointer (some ⟨bb,0,none⟩),.int .i64 C.E,.slice ba C.N bc,.slice (some ⟨pb,0,none⟩) C.N C.N,p4,.slice (some ⟨fb,0,none⟩) C.N C.N,p6]:Array Value).setIfInBounds j v=#[.pointer (some ⟨bb,0,none⟩),.int .i64 C.E,.slice ba C.N bc,.slice (some ⟨pb,0,none⟩) C.N C.N,q4,.slice (some ⟨fb,0,none⟩) C.N C.N,q6]) (l1:sb<W1.heap.size) (sf:sb≠fb):Rd C sb bb fb bc ba W1 (X.setCell ⟨sb,j,none⟩ v) pb F q4 q6:=by
 have g3:So.Fr (So.One sb) X (X.setCell ⟨sb,j,none⟩ v):=(So.Fr.refl (So.One sb) X).setCell (.inr rfl) _ _;have pz:=h.pz;exact ⟨h.fr.setCell (.inr (.inl rfl)) _ _,by rw [<- e];exact at_set' h.s hj v,h.p.fr g3 fun e=>by have e:pb=sb:=e;omega,h.f.fr g3 fun e=>by have e:fb=sb:=e;omega,pz⟩
theorem hm_set {X:World} {mb n:Nat} {f:Int->Int->Value} (h:Hm X mb n f) (hs:mb≠sb) (j:Nat) (v:Value):Hm (X.setCell ⟨sb,j,none⟩ v) mb n f:=by
 have g3:So.Fr (So.One sb) X (X.setCell ⟨sb,j,none⟩ v):=(So.Fr.refl (So.One sb) X).setCell (.inr rfl) _ _;exact h.below (g3.block mb h.lt fun e=>hs e)
end
theorem rd_dive {C:Cq} {xs:List O} {sb bb fb cap bc:Nat} {ba ao:Option Addr} {la:Int} {W1 X:World} (R:Rs0 C xs sb bb fb ao W1.heap.size la) (hX:∀ pb pf mb B pc W',So.Fr (Gr sb fb W1.heap.size) W1 W'->Fx C xs sb bb pb pf fb 0 mb B cap bc pc C.N ba ao W') {pb mb:Nat} {F:Nat->Int} {st K:Int} (hd:Rd C sb bb fb bc ba W1 X pb F (.map (some mb)) (.int .i64 st)) (hm:Hm X mb 0 (fun _ _=>.slice none 0 0)) (hmz:W1.heap.size<=mb) (hpm:pb≠mb) (hK:K<=5000) (hb:Bd C.N K F st) {e l:Nat->Int} (hw:∀ i,i<C.N->0<=e i/\e i<=la+4260360∧-4260360<=l i/\l i<=la) (hst:0<=st:=by omega) (hst2:st<=1000:=by omega) :
  Calls Tryz.prog 131 #[.pointer (some ⟨sb,0,none⟩),.agg (wnA e l)] X fun r' w'=>r' = .returned (.bool (plS C C.N e l (fun _=>-1) F st).ok)/\So.Fr (Gr sb fb W1.heap.size) W1 w'/\At w' sb #[.pointer (some ⟨bb,0,none⟩),.int .i64 C.E,.slice ba C.N bc,.slice (some ⟨pb,0,none⟩) C.N C.N,.map (some mb),.slice (some ⟨fb,0,none⟩) C.N C.N,.int .i64 (plS C C.N e l (fun _=>-1) F st).st]/\Ir w' pb C.N (plS C C.N e l (fun _=>-1) F st).P/\Ir w' fb C.N (plS C C.N e l (fun _=>-1) F st).F:=by
 have pz:=hd.pz;have lz:=R.lt;have xz:=hd.fr.size;obtain ⟨d1,d2⟩:=dive_start R rfl hX hd.fr pz hmz hpm hd.p.lt hm.lt hd.s hd.p hd.f hm hK hb hst hst2 hw;refine Calls.mono (dive d1 C.N _ _ _ _ _ _ _ _ _ d2) ?_;rintro r' w' ⟨nn',f',rfl,s,g,-,-,-⟩;have gz:=g.size;have pl:=hd.p.lt;refine ⟨rfl,hd.fr.trans g fun q _ e=>?_,s.s,⟨fun k hk=>by have:=s.p k hk;rwa [Nat.zero_add] at this,s.pz,by omega⟩,⟨fun k hk=>by have:=s.q k hk;rwa [Nat.zero_add] at this,s.qz,by omega⟩⟩;rcases e with e|e|e|e|e
 ·exact .inl e
 ·exact .inr (.inr (by omega))
 ·exact .inr (.inl e)
 ·exact .inr (.inr (by omega))
 ·exact .inr (.inr (by omega))
theorem run_any {C:Cq} {xs:List O} {sb bb fb cap bc:Nat} {ba ao:Option Addr} {la D:Int} {p3 p4 p6:Value} (w:World) (R:Rs0 C xs sb bb fb ao w.heap.size la) (hla:lastC D C.E=la) (hD:0<=D) (hD2:D<=65536) (hFI:FIn C.N C.FM)
  (hX:∀ pb pf mb B pc W',So.Fr (Gr sb fb w.heap.size) w W'->Fx C xs sb bb pb pf fb 0 mb B cap bc pc C.N ba ao W') (h16:w.cell? ⟨bb,16,none⟩=some (.int .i64 D)) (hS:At w sb #[.pointer (some ⟨bb,0,none⟩),.int .i64 C.E,.slice ba C.N bc,p3,p4,.slice (some ⟨fb,0,none⟩) C.N C.N,p6]) (hF:Ir w fb C.N (fun _=>0)) :
  Calls Tryz.prog 91 #[.pointer (some ⟨sb,0,none⟩)] w (RuOut C sb fb (dvS C (opO C.FM la C.N C.N).1 (opO C.FM la C.N C.N).2 4 (fun _=>0)) w):=by
 have HX:Hid (∀ pb pf mb B pc W',So.Fr (Gr sb fb w.heap.size) w W'->Fx C xs sb bb pb pf fb 0 mb B cap bc pc C.N ba ao W'):=hX;have HOp:Hid (∀ W,Below w.heap.size w W->Calls Tryz.prog 129 #[.pointer (some ⟨sb,0,none⟩)] W fun r w'=>r=.returned (.agg (wnA (opO C.FM la C.N C.N).1 (opO C.FM la C.N C.N).2))/\Below W.heap.size W w'):=fun W g=>by
  have x:=hX 0 0 0 0 0 W (So.Fr.of g);have s:=hS.below g hS.lt;rw [<- hla];exact openWindows_any sb bb C.N C.E D C.FM ba ao bc cap W (s.c 0 _ rfl) (s.c 1 _ rfl) (s.c 2 _ rfl) s.lt x.b0 (by rw [(bcell g).1 _ _ R.lt.2.2];exact h16) x.bl x.bh R.n64 hFI R.e1 R.e2 hD hD2
 have HR:Hid (Rs0 C xs sb bb fb ao w.heap.size la):=R;have HS:Hid (At w sb #[.pointer (some ⟨bb,0,none⟩),.int .i64 C.E,.slice ba C.N bc,p3,p4,.slice (some ⟨fb,0,none⟩) C.N C.N,p6]):=hS;have HF:Hid (Ir w fb C.N (fun _=>0)):=hF;clear R hX h16 hS hF hFI hla hD hD2;have hw:=op_hw HR.out;have HWn:Hid (∀ i,i<C.N->0<=(opO C.FM la C.N C.N).1 i/\(opO C.FM la C.N C.N).1 i<=la+4260360∧-4260360<=(opO C.FM la C.N C.N).2 i/\(opO C.FM la C.N C.N).2 i<=la):=hw;clear hw;generalize (opO C.FM la C.N C.N).1=e at *;generalize (opO C.FM la C.N C.N).2=l at *;obtain ⟨sr,hsr⟩:∃ sr,dvS C e l 4 (fun _=>0)=sr:=⟨_,rfl⟩;have HSr:Hid (dvS C e l (4-0) (fun _=>0)=sr):=hsr;rw [hsr];clear hsr;go_enter Tryz.func91,Tryz.ntmps91;go_upto_region 2 with (first
  | (go_at_call 129;refine Calls.mono (HOp.out w (Below.refl _ _)) ?_;rintro e1 w2 ⟨rfl,b2⟩;have H2:Hid (Below w.heap.size w w2):=b2;clear b2 HOp)
  | (refine wpList_allocTo rfl (some 4) rfl (.pointer (some ⟨w2.heap.size,0,none⟩)) (.cells (zcs 128).toArray 186) (by kernel_rfl) ?_)
  | (refine wpList_store_mid rfl 186 (.tmp 4) (.tmp 6) rfl w2.heap.size 0 (wnA e l) rfl rfl (there_new w2 (wnA_size _ _)) (by rw [wnA_size];kernel_rfl) (wnA_one _ _) ?_))
 have HW:Hid (R1 w ((w2.alloc (.cells (zcs 128).toArray 186)).setCells w2.heap.size 0 (wnA e l).toList) w2.heap.size (wnA e l)):=r1_new H2.out (wnA_size _ _);generalize (w2.alloc (.cells (zcs 128).toArray 186)).setCells w2.heap.size 0 (wnA e l).toList=W1 at *;generalize w2.heap.size=x at *;clear H2;simp only [pq];have HR1:Hid (Rs0 C xs sb bb fb ao W1.heap.size la):=HR.out.up HW.out.up.size;have HX1:Hid (∀ pb pf mb B pc W',So.Fr (Gr sb fb W1.heap.size) W1 W'->Fx C xs sb bb pb pf fb 0 mb B cap bc pc C.N ba ao W'):=fun pb pf mb B pc W' g=>HX.out pb pf mb B pc W' (gr_up HW.out.up g);have HN0:Hid (Rn C sb bb fb bc ba W1 W1 (fun _=>0)):=⟨So.Fr.refl _ _,⟨p3,p4,p6,HS.out.below HW.out.up HS.out.lt⟩,HF.out.up HW.out.up⟩;have HUq:Hid (∀ W,So.Fr (Gr sb fb W1.heap.size) W1 W->So.Fr (Gr sb fb w.heap.size) w W):=fun W g=>gr_up HW.out.up g;have hsz:Hid (W1.heap.size ≥ w.heap.size):=HW.out.up.size;have HRg1:Hid (W1.rangeAt x 0 (wnA e l).toList/\x<W1.heap.size/\w.heap.size<=x):=⟨HW.out.rg,HW.out.x1,HW.out.x0⟩;have HLt:Hid (sb<w.heap.size/\fb<w.heap.size):=⟨HR.out.lt.1,HR.out.lt.2.1⟩;clear HX HS HF HW HR;have hN0:(0:Int)<(C.N:Int):=by have:=HR1.out.n0;omega
 have hN64:(C.N:Int)<=64:=by have:=HR1.out.n64;omega
 have HRp:Hid (∀ W xb q,W.cell? ⟨xb,0,none⟩=some (.int .i64 (-1))->xb<W.heap.size->W.heap.size=q->Calls Tryz.prog 130 #[.slice (some ⟨xb,0,none⟩) 1 1,.int .i64 (C.N:Int)] W fun r w'=>r=.returned (.slice (some ⟨q,0,none⟩) C.N C.N)/\Ir w' q C.N (fun _=>-1)/\Below q W w'):=fun W xb q h1 h2 h3=>by subst h3;exact repeat_any xb C.N (-1) W h1 h2 HR1.out.n0 HR1.out.n64
 have hmm:=@run_makeMap Tryz.prog;go_wp2_with fail
 go_loopw [7] (fun v wr=>∃ (k:Nat) (F:Nat->Int),k<=4/\v=.int .i64 k/\Rn C sb bb fb bc ba W1 wr F/\(∀ i,i<C.N->0<=F i/\F i<=400*(k:Int))/\dvS C e l (4-k) F=sr) (fun v _=>4-(intOf v).toNat)
 case atStart=>exact ⟨0,_,by omega,rfl,HN0.out,fun i _=>⟨Int.le_refl _,by omega⟩,HSr.out⟩
 case round=>
  rename World=>wr;obtain ⟨k,F,hk,rfl,hn,hf,hd⟩:=hrel;have HN:Hid (Rn C sb bb fb bc ba W1 wr F):=hn;have HFb:Hid (∀ i,i<C.N->0<=F i/\F i<=400*(k:Int)):=hf;have HDv:Hid (dvS C e l (4-k) F=sr):=hd;clear hn hf hd HN0 HSr
  by_cases hlt:k<4
  ·have k0:(0:Int)<=(k:Int):=by omega
   have k1:(k:Int)<4:=by omega
   obtain ⟨a3,a4,a6,hs⟩:=HN.out.s;have HS:Hid (At wr sb #[.pointer (some ⟨bb,0,none⟩),.int .i64 C.E,.slice ba C.N bc,a3,a4,.slice (some ⟨fb,0,none⟩) C.N C.N,a6]):=hs;have s0:=hs.c 0 _ rfl;have sl:=hs.lt;have x0:=(HX1.out 0 0 0 0 0 wr HN.out.fr).b0;have xl:=(HX1.out 0 0 0 0 0 wr HN.out.fr).bl;have nsb:bb≠sb:=HR1.out.bd.1;clear hs;go_upto_region 5 with (first
    | (go_at_call 130;refine Calls.mono (HRp.out _ wr.heap.size (wr.heap.size+1) (by simp) (by simp) (by simp)) ?_;rintro e1 w3 ⟨rfl,ir3,b3⟩;have H3:Hid (Below wr.heap.size wr w3/\Ir w3 (wr.heap.size+1) C.N (fun _=>-1)):=⟨((Below.refl wr.heap.size wr).alloc (Nat.le_refl _) _ |>.trans (b3.mono (by simp))),ir3⟩;have t3:=(HS.out.below H3.out.1 sl).c 3 _ rfl;have f3:=(HS.out.below H3.out.1 sl).f 3;have l3:=(HS.out.below H3.out.1 sl).lt;clear ir3 b3))
   have HA:Hid (Rd C sb bb fb bc ba W1 (w3.setCell ⟨sb,3,none⟩ (.slice (some ⟨wr.heap.size+1,0,none⟩) C.N C.N)) (wr.heap.size+1) F a4 a6):=rd_3 HN.out HS.out H3.out.1 H3.out.2 (by have:=HN.out.fr.size;omega) HR1.out.sf HR1.out.lt.1;have HS0:Hid (W1.heap.size<=wr.heap.size):=HN.out.fr.size;clear HS H3 t3 f3 l3 s0 sl x0 xl HN;generalize w3.setCell ⟨sb,3,none⟩ (.slice (some ⟨wr.heap.size+1,0,none⟩) C.N C.N)=X3 at *;generalize wr.heap.size+1=pb at *;have t4:=HA.out.s.c 4 _ rfl;have f4:=HA.out.s.f 4;have l4:=HA.out.s.lt;go_upto_region 6 with fail
   have HB:Hid (Rd C sb bb fb bc ba W1 ((X3.setCell ⟨sb,4,none⟩ (.map (some X3.heap.size))).alloc (.map #[] 0)) pb F (.map (some X3.heap.size)) a6/\Hm ((X3.setCell ⟨sb,4,none⟩ (.map (some X3.heap.size))).alloc (.map #[] 0)) X3.heap.size 0 (fun _ _=>.slice none 0 0)):=⟨(HA.out.set (j:=4) (by simp) _ rfl HR1.out.lt.1 HR1.out.sf).alloc _,by have:=Hm.made (X3.setCell ⟨sb,4,none⟩ (.map (some X3.heap.size)));simpa using this⟩;have HM:Hid (W1.heap.size<=X3.heap.size/\pb<X3.heap.size):=⟨HA.out.fr.size,HA.out.p.lt⟩;clear HA t4 f4 l4;generalize (X3.setCell ⟨sb,4,none⟩ (.map (some X3.heap.size))).alloc (.map #[] 0)=X4 at *;generalize X3.heap.size=mb at *;have s0:=HB.out.1.s.c 0 _ rfl;have t6:=HB.out.1.s.c 6 _ rfl;have f6:=HB.out.1.s.f 6;have l6:=HB.out.1.s.lt;have x0:=(HX1.out 0 0 0 0 0 X4 HB.out.1.fr).b0;have xl:=(HX1.out 0 0 0 0 0 X4 HB.out.1.fr).bl;go_upto_region 7 with fail
   have HC:Hid (Rd C sb bb fb bc ba W1 (X4.setCell ⟨sb,6,none⟩ (.int .i64 (4*(C.N:Int)+50))) pb F (.map (some mb)) (.int .i64 (4*(C.N:Int)+50))/\Hm (X4.setCell ⟨sb,6,none⟩ (.int .i64 (4*(C.N:Int)+50))) mb 0 (fun _ _=>.slice none 0 0)):=⟨HB.out.1.set (j:=6) (by simp) _ rfl HR1.out.lt.1 HR1.out.sf,hm_set HB.out.2 (by have:=HM.out;have:=HR1.out.lt;omega) 6 _⟩;clear HB s0 t6 f6 l6 x0 xl;generalize X4.setCell ⟨sb,6,none⟩ (.int .i64 (4*(C.N:Int)+50))=X5 at *;have HRg:Hid (X5.rangeAt x 0 (wnA e l).toList):=fun j v hj=>by
    have h1:=HRg1.out;have h2:=HLt.out;have h3:=hsz.out;rw [HC.out.1.fr.cell h1.2.1 fun e=>by rcases e with e|e|e <;> omega];exact h1.1 j v hj
   have HI:Hid ((Tryz.prog.info? 186).map (·.size)=some (wnA e l).toList.length):=by show Option.map _ _=_;rw [Array.length_toList,wnA_size];kernel_rfl
   have HBd0:Bd C.N (400*(k:Int)+4*(C.N:Int)+50) F (4*(C.N:Int)+50):=⟨fun i hi=>(HFb.out i hi).1,fun i hi=>by have:=(HFb.out i hi).2;omega⟩;have HDi:Hid _:=rd_dive HR1.out HX1.out HC.out.1 HC.out.2 (by have:=HM.out;omega) (by have:=HM.out;omega) (by omega) HBd0 HWn.out;have HPb:=plS_bd (C:=C) (u:=C.N) (lo:=0) (e:=e) (l:=l) (P:=fun _=>-1) (Int.le_refl _) (by omega) HBd0;have HTc:Hid (sr=if (plS C C.N e l (fun _=>-1) F (4*(C.N:Int)+50)).ok=true then some (plS C C.N e l (fun _=>-1) F (4*(C.N:Int)+50)).P else if 0<(plS C C.N e l (fun _=>-1) F (4*(C.N:Int)+50)).st then none else dvS C e l (4-(k+1)) (plS C C.N e l (fun _=>-1) F (4*(C.N:Int)+50)).F):=by
    show sr=_;rw [<- HDv.out,show 4-k=(4-(k+1))+1 by omega];rfl
   clear HBd0 HDv HRp hmm;generalize plS C C.N e l (fun _=>-1) F (4*(C.N:Int)+50)=r at *;have HBd:Hid (Bd C.N (400*(k:Int)+4*(C.N:Int)+50) r.F r.st∧-64<=r.st/\r.st<=306):=⟨HPb.1,by omega,by omega⟩;clear HPb;have stl:=HBd.out.2;have HPz:Hid (w.heap.size<=pb):=by show w.heap.size<=pb;have a:=HC.out.1.pz;have b:=hsz.out;omega
   cases hok:r.ok
   ·rw [hok] at HDi HTc
    by_cases hst:0<r.st
    ·have hd1:decide (0<r.st)=true:=decide_eq_true hst;go_wp2_with (first
      | (go_at_call 131;refine Calls.mono HDi.out ?_;rintro e7 w9 ⟨rfl,f9,s9,p9,q9⟩;have H9:Hid (So.Fr (Gr sb fb W1.heap.size) W1 w9):=f9;have t6:=s9.c 6 _ rfl;have l6:=s9.lt;clear f9 s9 p9 q9 HDi)
      | (refine wpList_load_mid rfl 186 (.tmp 4) rfl x 0 rfl (wnA e l).toList _ HRg.out Tryz.underlying186 rfl HI.out ?_;rw [Array.toArray_toList]))
     go_ret2
     have hn:sr=none:=by rw [HTc.out,if_neg (by simp),if_pos hst]
     rw [hn];exact ⟨rfl,HUq.out _ H9.out⟩
    ·have hd1:decide (0<r.st)=false:=decide_eq_false hst;go_wp2_with (first
      | (go_at_call 131;refine Calls.mono HDi.out ?_;rintro e7 w9 ⟨rfl,f9,s9,p9,q9⟩;have H9:Hid (Rn C sb bb fb bc ba W1 w9 r.F):=⟨f9,⟨_,_,_,s9⟩,q9⟩;have t6:=s9.c 6 _ rfl;have l6:=s9.lt;clear f9 s9 p9 q9 HDi)
      | (refine wpList_load_mid rfl 186 (.tmp 4) rfl x 0 rfl (wnA e l).toList _ HRg.out Tryz.underlying186 rfl HI.out ?_;rw [Array.toArray_toList]))
     go_roundw
     case rel=>
      refine ⟨k+1,r.F,by omega,by go_num,H9.out,fun i hi=>⟨HBd.out.1.f0 i hi,?_⟩,?_⟩
      ·have:=HBd.out.1.f1 i hi;omega
      ·rw [HTc.out,if_neg (by simp),if_neg (by omega)]
     case measure=>simp [intOf];omega
   ·rw [hok] at HDi HTc;go_wp2_with (first
     | (go_at_call 131;refine Calls.mono HDi.out ?_;rintro e7 w9 ⟨rfl,f9,s9,p9,q9⟩;have H9:Hid (So.Fr (Gr sb fb W1.heap.size) W1 w9/\Ir w9 pb C.N r.P):=⟨f9,p9⟩;have t3:=s9.c 3 _ rfl;have l3:=s9.lt;clear f9 s9 p9 q9 HDi)
     | (refine wpList_load_mid rfl 186 (.tmp 4) rfl x 0 rfl (wnA e l).toList _ HRg.out Tryz.underlying186 rfl HI.out ?_;rw [Array.toArray_toList]))
    go_ret2
    have hn:sr=some r.P:=by rw [HTc.out,if_pos (by trivial)]
    rw [hn];exact ⟨⟨pb,rfl,H9.out.2,HPz.out⟩,HUq.out _ H9.out.1⟩
  ·obtain rfl:k=4:=by omega
   go_wp2_with fail
   go_ret2
   have hn:sr=none:=HDv.out.symm;rw [hn];exact ⟨rfl,HUq.out _ HN.out.fr⟩
end Go.Proofs.YtiejdpjgplikjaaGreatDoor.Mo
