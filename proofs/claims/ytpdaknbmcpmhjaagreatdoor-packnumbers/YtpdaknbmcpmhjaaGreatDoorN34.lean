/- Parts Gg Gh. -/
import Derived.Test.YtpdaknbmcpmhjaaGreatDoorN33
import Derived.Test.YtpdaknbmcpmhjaaGreatDoorN00
set_option maxRecDepth 20000
set_option maxHeartbeats 8000000
namespace Go.Proofs.YtpdaknbmcpmhjaaGreatDoor.Ly
open Go.ChangeShapes Go.WideShapes Go.ChangeAt Go.RowKit
open YtpdaknbmcpmhjaaGreatDoor.Op YtpdaknbmcpmhjaaGreatDoor.So
open YtpdaknbmcpmhjaaGreatDoor.Tb (Tab TabAt Bnds)
open YtpdaknbmcpmhjaaGreatDoor.Lw (Pr Sl Rd Srt)
structure Gc (W:World) (g:Nat) (blk:Int) (t:Tab):Prop where
 c:W.cell? ⟨g,0,none⟩=some (.int .i64 blk)
 gp:W.cell? ⟨g,14,none⟩=some (.int .i64 (gpI t))
 l:g<W.heap.size
theorem GrX.gc {W:World} {g:Nat} {blk:Int} {t:Tab} {own:Nat->Nat} {n:Nat} {bs:Nat->List O} {ts:Nat->List Tg} (h:GrX W g blk t own n bs ts):Gc W g blk t:=by
 obtain ⟨ab,aq,cb,ct,fb,ft,h⟩:=h;exact ⟨h.at'.c 0 _ rfl,h.at'.c 14 _ rfl,h.at'.lt⟩
theorem GrX.nl {W:World} {g:Nat} {blk:Int} {t:Tab} {own:Nat->Nat} {n:Nat} {bs:Nat->List O} {ts:Nat->List Tg} (h:GrX W g blk t own n bs ts):∀ k,W.heap.size<=k->own k=0:=by
 obtain ⟨ab,aq,cb,ct,fb,ft,h⟩:=h;exact h.nl
theorem Gs.keep {w W:World} {own own':Nat->Nat} {b:Nat} {cs:Array Value} (h:Gs w W own own') (a:At w b cs) (e:own b=0):At W b cs/\own' b=0:=
 ⟨At.fr a h.fr (fun k=>k e),Decidable.byContradiction fun k=>h.nw _ a.lt k e⟩
def tgP (blk:Int):Tg:=⟨blk,false,-1,false⟩
theorem putOwn_any (g at' n:Nat) (o:O) (blk:Int) (t:Tab) (own:Nat->Nat) (bs:Nat->List O) (ts:Nat->List Tg) (w:World) (h:GrX w g blk t own n bs ts) (hG:Bnds w) (ht:t.ok=true) (ho:o.Ok) (hat : at'<n) (hn:n<=1000000) (hlb:∀ c,(bs c).length<=1000000) (hlt:∀ c,(ts c).length<=1000000) :
  Calls Tryz.prog 41 #[.pointer (some ⟨g,0,none⟩),.int .i64 (at':Int),o.val] w fun e w'=>e=.returned (.tuple #[])/\∃ own',Gs w w' own own'/\GrX w' g blk t own' n (adB bs (at'*4+clG t o) o) (adT ts (at'*4+clG t o) (tgP blk)):=by
 have hb0:Below w.heap.size w (w.alloc (.cells o.cells 60)).drew:=((Below.refl _ _).alloc (Nat.le_refl _) _).drew;have HX:Hid (GrX (w.alloc (.cells o.cells 60)).drew g blk t own n bs ts/\At (w.alloc (.cells o.cells 60)).drew w.heap.size o.cells/\own w.heap.size=0/\Gs w (w.alloc (.cells o.cells 60)).drew own own):=⟨h.up hb0,At.fr (At.new w o.cells 60) (Fr.of (X:=Non) (drew_up _)) (fun e=>e),h.nl _ (Nat.le_refl _),(Gs.refl _ _).up hb0⟩;have HK:Hid (Calls Tryz.prog 98 #[.pointer (some ⟨g,0,none⟩),.int .i64 (at':Int),.agg #[.int .i8 o.op,.int .u8 o.d,.int .u8 o.a,.int .u8 o.b,.int .i64 o.im],.agg #[.int .i64 blk,.bool false,.int .i64 (-1),.bool false]] (w.alloc (.cells o.cells 60)).drew fun e w'=>e=.returned (.tuple #[])/\∃ own',Gs (w.alloc (.cells o.cells 60)).drew w' own own'/\GrX w' g blk t own' n (adB bs (at'*4+clG t o) o) (adT ts (at'*4+clG t o) (tgP blk))):=put_any g at' n o (tgP blk) blk t own bs ts _ HX.out.1 (hG.below hb0 hG.big) ht ho hat hn hlb hlt;clear hlb hlt ht hG h hb0;go_enter Tryz.func41,Tryz.ntmps41;go_upto_region 1 with fail
 generalize (w.alloc (.cells o.cells 60))=X at *;refine wp_region_held_drew (S:=fun W'=>Gc W' g blk t/\At W' w.heap.size o.cells) (by kernel_rfl) ⟨HX.out.1.gc,HX.out.2.1⟩ (fun zH=>?_);refine wg 0 (.pointer (some ⟨g,0,none⟩)) rfl zH ?_;simp only [pq];refine wg 1 (.int .i64 (at':Int)) rfl zH ?_;simp only [pq];refine wt 2 (.agg #[.int .i8 o.op,.int .u8 o.d,.int .u8 o.a,.int .u8 o.b,.int .i64 o.im]) rfl (fun w' hSw=>by (have a0:=hSw.2;have y0:=a0.c 0 _ rfl;have y1:=a0.c 1 _ rfl;have y2:=a0.c 2 _ rfl;have y3:=a0.c 3 _ rfl;have y4:=a0.c 4 _ rfl;have yl:=a0.lt;clear a0;go_simp)) zH ?_;simp only [pq];refine wg 3 (.pointer (some ⟨g,0,none⟩)) rfl zH ?_;simp only [pq];refine wg 4 (.pointer (some ⟨g,0,none⟩)) rfl zH ?_;simp only [pq];refine wg 5 (.pointer (some ⟨g,0,none⟩)) rfl zH ?_;simp only [pq];refine wt 6 (.int .i64 blk) rfl (fun w' hSw=>by (have y:=hSw.1.c;have yl:=hSw.1.l;go_simp)) zH ?_;simp only [pq];refine wg 7 (.agg #[.int .i64 blk,.bool false,.int .i64 (-1),.bool false]) rfl zH ?_;simp only [pq];refine wpAnyH_ready (rs:=[8]) (by kernel_rfl) (by simp) ?_;refine AllReadyH.cons rfl (fun K hK=>?_) AllReadyH.nil;go_simp
 refine Calls.mono HK.out ?_;rintro e w4 ⟨rfl,own',hs,hg⟩;refine hK.out _ _ ⟨hg.gc,(hs.keep HX.out.2.1 HX.out.2.2.1).1⟩ (fun zH=>?_);clear hK K;refine wpAnyH_done (by kernel_rfl) ?_ _;clear zH;have HF:Hid _:=(⟨own',HX.out.2.2.2.trans hs,hg⟩:∃ own',Gs w w4 own own'/\GrX w4 g blk t own' n (adB bs (at'*4+clG t o) o) (adT ts (at'*4+clG t o) (tgP blk)));clear hs hg;go_wp2_with fail
 go_end0
 exact ⟨rfl,HF.out⟩
end Go.Proofs.YtpdaknbmcpmhjaaGreatDoor.Ly
namespace Go.Proofs.YtpdaknbmcpmhjaaGreatDoor.Ly
open Go.ChangeShapes Go.WideShapes Go.ChangeAt Go.RowKit
open YtpdaknbmcpmhjaaGreatDoor.Op YtpdaknbmcpmhjaaGreatDoor.So
open YtpdaknbmcpmhjaaGreatDoor.Tb (Tab TabAt Bnds)
open YtpdaknbmcpmhjaaGreatDoor.Lw (Pr Sl Srt pcells values_any pcells_at)
abbrev St:=(Nat->List O)×(Nat->List Tg)
def zo:O:=⟨0,0,0,0,0⟩
def lay1 (t:Tab) (xs:List O) (blk:Int) (lp:Bool) (at':Nat) (s:St) (p:Pr):St:=(adB s.1 (at'*4+clG t (xs.getD p.1.toNat zo)) (xs.getD p.1.toNat zo),adT s.2 (at'*4+clG t (xs.getD p.1.toNat zo)) ⟨blk,lp,p.1,false⟩)
def layL (t:Tab) (xs:List O) (blk:Int) (lp:Bool) (at':Nat) (s:St) (l:List Pr):St:=l.foldl (lay1 t xs blk lp at') s
def layN (t:Tab) (xs:List O) (blk:Int) (lp:Bool) (fr:Nat) (row:Nat->List Pr) (s:St):Nat->St
 | 0=>s
 | k+1=>layL t xs blk lp (fr+k) (layN t xs blk lp fr row s k) (row k)
def cntR (row:Nat->List Pr):Nat->Nat
 | 0=>0
 | k+1=>cntR row k+(row k).length
theorem cntR_mono (row:Nat->List Pr) {k m:Nat} (h:k<=m):cntR row k<=cntR row m:=by
 induction m with
 | zero=>
  obtain rfl:k=0:=by omega
  exact Nat.le_refl _
 | succ m ih=>
  rcases Nat.lt_or_ge m k with h' | h'
  ·obtain rfl:k=m+1:=by omega
   exact Nat.le_refl _
  ·exact Nat.le_trans (ih h') (Nat.le_add_right _ _)
theorem layL_snoc (t:Tab) (xs:List O) (blk:Int) (lp:Bool) (at':Nat) (s:St) (l:List Pr) (k:Nat) (p:Pr) (h:l[k]?=some p):layL t xs blk lp at' s (l.take (k+1))=lay1 t xs blk lp at' (layL t xs blk lp at' s (l.take k)) p:=by
 unfold layL;rw [List.take_add_one,h,List.foldl_append];rfl
def Lim (s:St) (m:Nat):Prop:=∀ c,(s.1 c).length<=m/\(s.2 c).length<=m
theorem Lim.one {t:Tab} {xs:List O} {blk:Int} {lp:Bool} {at':Nat} {s:St} {m:Nat} (h:Lim s m) (p:Pr):Lim (lay1 t xs blk lp at' s p) (m+1):=by
 intro c
 have:=h c
 unfold lay1 adB adT;dsimp only;constructor
 ·split
  ·rename_i e;subst e;rw [List.length_append,List.length_singleton];omega
  ·omega
 ·split
  ·rename_i e;subst e;rw [List.length_append,List.length_singleton];omega
  ·omega
theorem Lim.le {s:St} {m k:Nat} (h:Lim s m) (hk:m<=k):Lim s k:=fun c=>⟨Nat.le_trans (h c).1 hk,Nat.le_trans (h c).2 hk⟩
theorem Lim.list {t:Tab} {xs:List O} {blk:Int} {lp:Bool} {at':Nat} : ∀ (l:List Pr) {s:St} {m:Nat},Lim s m->Lim (layL t xs blk lp at' s l) (m+l.length)
 | [],_,_,h=>h
 | p::l,s,m,h=>by
  have:=Lim.list (t:=t) (xs:=xs) (blk:=blk) (lp:=lp) (at':=at') l (h.one (t:=t) (xs:=xs) (blk:=blk) (lp:=lp) (at':=at') p)
  exact this.le (by simp;omega)
theorem Lim.rows {t:Tab} {xs:List O} {blk:Int} {lp:Bool} {fr:Nat} {row:Nat->List Pr} {s:St} {m:Nat} (h:Lim s m):∀ k,Lim (layN t xs blk lp fr row s k) (m+cntR row k)
 | 0=>h
 | k+1=>by
  have:=Lim.list (t:=t) (xs:=xs) (blk:=blk) (lp:=lp) (at':=fr+k) (row k) (Lim.rows (t:=t) (xs:=xs) (blk:=blk) (lp:=lp) (fr:=fr) (row:=row) h k)
  exact this.le (by simp [cntR];omega)
def SlO (own:Nat->Nat) (W:World) (u:Value) (l:List Pr):Prop:=∃ a cap,u=.slice a l.length cap/\(0<l.length->∃ b,a=some ⟨b,0,none⟩/\b<W.heap.size/\own b=0/\∀ k x,l[k]?=some x->W.cell? ⟨b,k*2,none⟩=some (.int .i64 x.1)/\W.cell? ⟨b,k*2+1,none⟩=some (.int .i64 x.2))
theorem SlO.sl {own:Nat->Nat} {W:World} {u:Value} {l:List Pr} (h:SlO own W u l):Sl W u l:=by
 obtain ⟨a,cap,e,h⟩:=h;exact ⟨a,cap,e,fun h0=>by obtain ⟨b,e1,e2,-,e3⟩:=h h0;exact ⟨b,e1,e2,e3⟩⟩
theorem SlO.keep {w W:World} {own own':Nat->Nat} {u:Value} {l:List Pr} (h:SlO own w u l) (g:Gs w W own own'):SlO own' W u l:=by
 obtain ⟨a,cap,e,h⟩:=h;refine ⟨a,cap,e,fun h0=>?_⟩;obtain ⟨b,e1,e2,e3,e4⟩:=h h0;refine ⟨b,e1,Nat.lt_of_lt_of_le e2 g.fr.size,Decidable.byContradiction fun k=>g.nw _ e2 k e3,fun k x hx=>?_⟩;rw [g.fr.cell e2 (fun k=>k e3),g.fr.cell e2 (fun k=>k e3)];exact e4 k x hx
theorem SlO.of {own:Nat->Nat} {W:World} {B:Nat} {v:Value} {l:List Pr} (h:W.ownsRow B 170 2 v l.length (pcells l)) (ho:∀ k,B<=k->own k=0):SlO own W v l:=by
 have hlt:=h.lt;obtain ⟨a,cap,e,hx⟩:=(Lw.Sl.of h).is;refine ⟨a,cap,e,fun h0=>?_⟩;obtain ⟨b,e1,e2,e3⟩:=hx h0;exact ⟨b,e1,e2,ho _ (hlt b (by rw [e,e1];rfl)).1,e3⟩
def RdO (own:Nat->Nat) (W:World) (a:Option Addr) (N:Nat) (row:Nat->List Pr):Prop:=0<N->∃ b o,a=some ⟨b,o,none⟩/\b<W.heap.size/\own b=0/\∀ c,c<N->∃ u,W.cell? ⟨b,o+c,none⟩=some u/\SlO own W u (row c)
theorem RdO.keep {w W:World} {own own':Nat->Nat} {a:Option Addr} {N:Nat} {row:Nat->List Pr} (h:RdO own w a N row) (g:Gs w W own own'):RdO own' W a N row:=fun h0=>by
 obtain ⟨b,o,e1,e2,e3,e4⟩:=h h0;refine ⟨b,o,e1,Nat.lt_of_lt_of_le e2 g.fr.size,Decidable.byContradiction fun k=>g.nw _ e2 k e3,fun c hc=>?_⟩;obtain ⟨u,hu,hs⟩:=e4 c hc;exact ⟨u,by rw [g.fr.cell e2 (fun k=>k e3)];exact hu,hs.keep g⟩
structure La (W:World) (own:Nat->Nat) (gb lb ob g cap:Nat) (ao:Option Addr) (xs:List O) (lp:Bool):Prop where
 g:At W gb #[.pointer (some ⟨g,0,none⟩)]
 l:At W lb #[.slice ao xs.length cap]
 o:At W ob #[.bool lp]
 og:own gb=0
 ol:own lb=0
 oo:own ob=0
 xo:OpsAt W ao xs
 ox:0<xs.length->∀ A,ao=some A->own A.block=0
theorem opsAt_fr {X:Nat->Prop} {W W':World} {a:Option Addr} {xs:List O} (h:OpsAt W a xs) (g:Fr X W W') (hx:0<xs.length->∀ A,a=some A->¬ X A.block):OpsAt W' a xs:=by
 refine ⟨h.ok,h.len,fun h0=>?_⟩;obtain ⟨b,f,e,z,hh⟩:=h.is h0;refine ⟨b,f,e,Nat.lt_of_lt_of_le z g.size,fun i hi=>?_⟩;have k:¬ X b:=hx h0 _ e;obtain ⟨c0,c1,c2,c3,c4⟩:=hh i hi;exact ⟨by rw [g.cell z k];exact c0,by rw [g.cell z k];exact c1,by rw [g.cell z k];exact c2,by rw [g.cell z k];exact c3,by rw [g.cell z k];exact c4⟩
theorem La.keep {w W:World} {own own':Nat->Nat} {gb lb ob g cap:Nat} {ao:Option Addr} {xs:List O} {lp:Bool} (h:La w own gb lb ob g cap ao xs lp) (s:Gs w W own own'):La W own' gb lb ob g cap ao xs lp:=by
 refine ⟨(s.keep h.g h.og).1,(s.keep h.l h.ol).1,(s.keep h.o h.oo).1,(s.keep h.g h.og).2,(s.keep h.l h.ol).2,(s.keep h.o h.oo).2,opsAt_fr h.xo s.fr (fun hz A e k=>k (h.ox hz A e)),fun hz A e=>Decidable.byContradiction fun k=>?_⟩;obtain ⟨b,f,e2,z,-⟩:=h.xo.is hz;obtain rfl:A=⟨b,f,none⟩:=by rw [e] at e2;injection e2
 exact s.nw b z k (h.ox hz _ e)
theorem laying_any (gb lb ob g lc n N:Nat) (ra:Option Addr) (rc:Nat) (row:Nat->List Pr) (ao:Option Addr) (xs:List O) (lp:Bool) (blk:Int) (t:Tab) (own:Nat->Nat) (s:St) (M:Nat) (w:World) (h:GrX w g blk t own n s.1 s.2) (hL:La w own gb lb ob g lc ao xs lp) (hR:RdO own w ra N row) (hG:Bnds w) (hlo:∀ k,k<5->own k=0) (ht:t.ok=true)
  (hn:n+N<=100000) (hM:Lim s M) (hM2:M+cntR row N<=1000000) (hr:∀ c,c<N->∀ p∈row c,0<=p.1/\p.1<(xs.length:Int)) (hS:∀ c,c<N->Srt (row c)) :
  Calls Tryz.prog 94 #[.slice ra N rc,.pointer (some ⟨gb,0,none⟩),.pointer (some ⟨lb,0,none⟩),.pointer (some ⟨ob,0,none⟩)] w fun e w'=>e=.returned (.int .i64 (n:Int))/\∃ own',Gs w w' own own'/\GrX w' g blk t own' (n+N) (layN t xs blk lp n row s N).1 (layN t xs blk lp n row s N).2:=by
 have HF:Hid (∀ W own1,Gs w W own own1->GrX W g blk t own1 n s.1 s.2->Calls Tryz.prog 43 #[.pointer (some ⟨g,0,none⟩),.int .i64 ((n+N:Nat):Int)] W fun e w'=>e=.returned (.tuple #[])/\∃ own',Gs W w' own1 own'/\GrX w' g blk t own' (n+N) s.1 s.2):=fun W own1 _ h1=>by
  have:=fill_any g (n+N) n blk t own1 s.1 s.2 W h1 (by omega) (by omega)
  rw [Nat.max_eq_right (by omega)] at this;exact this
 have HK:Hid (∀ W own1,Gs w W own own1->La W own1 gb lb ob g lc ao xs lp/\RdO own1 W ra N row/\Bnds W):=fun W own1 h1=>⟨hL.keep h1,hR.keep h1,hG.below (h1.fr.below hG.big fun k hk e=>e (hlo k hk)) (Nat.le_refl _)⟩;obtain ⟨ab,aq,cb,ct,fb,ft,hg⟩:=id h;have c15:=hg.at'.c 15 _ rfl;have glt:=hg.at'.lt;have b0:=hL.g.c 0 _ rfl;have bl:=hL.g.lt;have HX:Hid (GrX w g blk t own n s.1 s.2):=h;have hw1:IntKind.i64.wrap ((n:Int)+(N:Int))=((n+N:Nat):Int):=by rw [IntKind.wrap_i64];omega
 have hnc:((n+N:Nat):Int)=(n:Int)+(N:Int):=by omega
 clear h hL hR hG hg;rw [hnc] at hw1 HF;clear hnc;go_enter Tryz.func94,Tryz.ntmps94;go_wp2_with (go_at_call 43;refine Calls.mono (HF.out w own (Gs.refl _ _) HX.out) ?_;rintro e w1 ⟨rfl,own1,hs1,hg1⟩;have HS1:Hid (Gs w w1 own own1):=hs1;have HX1:Hid (GrX w1 g blk t own1 (n+N) s.1 s.2):=hg1;clear hs1 hg1)
 clear c15 glt b0 bl HX HF hw1
 go_loopw [24] (fun i wr=>∃ k:Nat,k<=N/\i=.int .i64 k/\∃ own2,Hid (Gs w wr own own2)/\Hid (GrX wr g blk t own2 (n+N) (layN t xs blk lp n row s k).1 (layN t xs blk lp n row s k).2)) (fun i _=>N-(intOf i).toNat)
 case atStart=>exact ⟨0,by omega,rfl,own1,HS1,HX1⟩
 case round=>
  rename World=>wr;clear HS1 HX1;obtain ⟨k,hk,rfl,own2,HS2,HX2⟩:=hrel
  by_cases hlt:k<N
  ·have k1:(k:Int)<(N:Int):=by omega
   have HRk:Hid (∀ p∈row k,0<=p.1/\p.1<(xs.length:Int)):=hr k hlt;have HSk:Hid (Srt (row k)):=hS k hlt;obtain ⟨rb,ro,rfl,rbl,-,hrow⟩:=(HK.out wr own2 HS2.out).2.1 (by omega);obtain ⟨u,hu,hsl⟩:=hrow k hlt;obtain ⟨ua,uc,rfl,-⟩:=id hsl;have HU:Hid (SlO own2 wr (.slice ua (row k).length uc) (row k)):=hsl;have hb1:Below wr.heap.size wr (wr.alloc (.cells #[.slice ua (row k).length uc] 167)):=(Below.refl _ _).alloc (Nat.le_refl _) _;have HV:Hid _:=HSk.out wr.heap.size (.slice ua (row k).length uc) (wr.alloc (.cells #[.slice ua (row k).length uc] 167)) (by simp) ((At.new wr #[.slice ua (row k).length uc] 167).c 0 _ rfl) (HU.out.sl.up hb1);have HB1:Hid _:=hb1;have HLm:Hid (Lim (layN t xs blk lp n row s k) (M+cntR row k)/\M+cntR row k+(row k).length<=1000000):=⟨hM.rows k,by have:=cntR_mono row (show k+1<=N by omega);simp only [cntR] at this;omega⟩;have HE:Hid (layN t xs blk lp n row s (k+1)=layL t xs blk lp (n+k) (layN t xs blk lp n row s k) (row k)):=rfl;have hlenk:(row k).length<=1000000:=by have:=HLm.out.2;omega
   clear hsl hrow hb1 HSk HU;generalize layN t xs blk lp n row s k=st at *;generalize hrk:row k=l at *;have HRE:Hid (row k=l):=hrk;clear hrk;go_wp2_with (first
    | (go_at_call 96;refine Calls.mono (values_any _ wr ⟨_,_,_,rfl⟩) ?_;rintro e w2 ⟨rfl,rfl⟩)
    | (go_at_call 95;refine Calls.mono HV.out ?_;rintro e w3 ⟨v,rfl,h1,h2⟩;have HB3:Hid (Below wr.heap.size wr w3):=HB1.out.trans (h2.mono HB1.out.size);have HVo:Hid (SlO own2 w3 v l):=SlO.of h1 (fun q hq=>HX2.out.nl q (by simp at hq;omega));clear h1 h2;obtain ⟨va,vc,rfl,-⟩:=id HVo.out))
   have HS3:Hid (Gs w w3 own own2):=HS2.out.up HB3.out;have HX3:Hid (GrX w3 g blk t own2 (n+N) st.1 st.2):=HX2.out.up HB3.out;clear HS2 HX2 HB3 HV HB1 hu rbl
   go_loopw [33] (fun i wz=>∃ j:Nat,j<=l.length/\i=.int .i64 j/\∃ own2,Hid (Gs w wz own own2)/\Hid (GrX wz g blk t own2 (n+N) (layL t xs blk lp (n+k) st (l.take j)).1 (layL t xs blk lp (n+k) st (l.take j)).2)/\Hid (SlO own2 wz (.slice va l.length vc) l)) (fun i _=>l.length-(intOf i).toNat)
   case atStart=>exact ⟨0,by omega,rfl,own2,HS3,HX3,HVo⟩
   case round=>
    rename World=>wz;clear HS3 HX3 HVo own2;obtain ⟨j,hj,rfl,own2,HS2,HX2,HV2⟩:=hrel
    by_cases hjl:j<l.length
    ·have j1:(j:Int)<(l.length:Int):=by omega
     obtain ⟨⟨p1,p2⟩,hp⟩:∃ p,l[j]?=some p:=⟨_,List.getElem?_eq_getElem hjl⟩;have hpr:=HRk.out (p1,p2) (List.mem_of_getElem? hp);obtain ⟨op,rfl⟩:∃ op:Nat,p1=(op:Int):=⟨p1.toNat,by have:=hpr.1;simp at this;omega⟩;have hop:op<xs.length:=by have:=hpr.2;simp at this;omega
     obtain ⟨hLa,-,hBn⟩:=HK.out wz own2 HS2.out;obtain ⟨b,f,rfl,hbl,hox⟩:=hLa.xo.is (by omega);obtain ⟨va',vc',ev,hvx⟩:=HV2.out;obtain ⟨vb,rfl,vbl,-,hvc⟩:=hvx (by omega)
     injection ev with ev1 _ ev2
     subst ev1 ev2;obtain ⟨q0,q1⟩:=hvc j _ hp;simp only at q0 q1
     have HST:Hid (layL t xs blk lp (n+k) st (l.take (j+1))=lay1 t xs blk lp (n+k) (layL t xs blk lp (n+k) st (l.take j)) ((op:Int),p2)):=layL_snoc _ _ _ _ _ _ _ _ _ hp;have HLj:Hid (Lim (layL t xs blk lp (n+k) st (l.take j)) 1000000):=(Lim.list (l.take j) HLm.out.1).le (by rw [List.length_take];have:=HLm.out.2;omega);have hob:=hox op hop;have ho0:=hLa.ox (by omega) _ rfl;have HOk:Hid (xs[op].Ok/\xs.getD op zo=xs[op]):=⟨hLa.xo.ok _ (List.getElem_mem hop),by simp [hop]⟩;have bX:Below wz.heap.size wz (wz.alloc (.cells #[.int .i64 (op:Int),.int .i64 p2] 170)).drew:=((Below.refl _ _).alloc (Nat.le_refl _) _).drew;have HBX:Hid _:=bX;have HSx:Hid ((Gc (wz.alloc (.cells #[.int .i64 (op:Int),.int .i64 p2] 170)).drew g blk t/\La (wz.alloc (.cells #[.int .i64 (op:Int),.int .i64 p2] 170)).drew own2 gb lb ob g lc (some ⟨b,f,none⟩) xs lp/\At (wz.alloc (.cells #[.int .i64 (op:Int),.int .i64 p2] 170)).drew wz.heap.size #[.int .i64 (op:Int),.int .i64 p2]/\OAt (wz.alloc (.cells #[.int .i64 (op:Int),.int .i64 p2] 170)).drew b (f+op*5) xs[op])/\own2 wz.heap.size=0/\own2 b=0/\b<wz.heap.size/\Bnds (wz.alloc (.cells #[.int .i64 (op:Int),.int .i64 p2] 170)).drew/\GrX (wz.alloc (.cells #[.int .i64 (op:Int),.int .i64 p2] 170)).drew g blk t own2 (n+N) (layL t xs blk lp (n+k) st (l.take j)).1 (layL t xs blk lp (n+k) st (l.take j)).2/\Gs w (wz.alloc (.cells #[.int .i64 (op:Int),.int .i64 p2] 170)).drew own own2):=
      ⟨⟨(HX2.out.up bX).gc,(HK.out _ own2 (HS2.out.up bX)).1,At.fr (At.new wz _ 170) (Fr.of (X:=Non) (drew_up _)) (fun e=>e),hob.below bX hbl⟩,HX2.out.nl _ (Nat.le_refl _),ho0,hbl,hBn.below bX hBn.big,HX2.out.up bX,HS2.out.up bX⟩
     have HV2x:Hid (∀ W own',Gs (wz.alloc (.cells #[.int .i64 (op:Int),.int .i64 p2] 170)).drew W own2 own'->SlO own' W (.slice (some ⟨vb,0,none⟩) l.length vc) l):=fun W own' h=>SlO.keep (SlO.keep HV2.out ((Gs.refl _ _).up bX)) h;have HLk:Hid (∀ W own',Gs (wz.alloc (.cells #[.int .i64 (op:Int),.int .i64 p2] 170)).drew W own2 own'->La W own' gb lb ob g lc (some ⟨b,f,none⟩) xs lp):=fun W own' h=>La.keep HSx.out.1.2.1 h;clear hLa hBn hox hvc hvx hob ho0 HX2 HS2 bX;generalize xs[op]=o at *;have HPt:Hid _:=put_any g (n+k) (n+N) o ⟨blk,lp,(op:Int),false⟩ blk t own2 _ _ _ HSx.out.2.2.2.2.2.1 HSx.out.2.2.2.2.1 ht HOk.out.1 (by omega) (by omega) (fun c=>(HLj.out c).1) (fun c=>(HLj.out c).2);have hwr:IntKind.i64.wrap ((n:Int)+(k:Int))=(n:Int)+(k:Int):=by rw [IntKind.wrap_i64];omega
     have o0:(0:Int)<=(op:Int):=by omega
     have o1:(op:Int)<(xs.length:Int):=by omega
     go_upto_region 9 with fail
     generalize (wz.alloc (.cells #[.int .i64 (op:Int),.int .i64 p2] 170))=X at *;generalize hBx:wz.heap.size=Bx at *;rw [show ((n+k:Nat):Int)=(n:Int)+(k:Int) by omega] at HPt;refine wp_region_held_drew (S:=fun W'=>Gc W' g blk t/\La W' own2 gb lb ob g lc (some ⟨b,f,none⟩) xs lp/\At W' Bx #[.int .i64 (op:Int),.int .i64 p2]/\OAt W' b (f+op*5) o) (by kernel_rfl) HSx.out.1 (fun zH=>?_);refine wt 0 (.pointer (some ⟨g,0,none⟩)) rfl (fun w' hSw=>by (have y:=hSw.2.1.g.c 0 _ rfl;have yl:=hSw.2.1.g.lt;go_simp)) zH ?_;simp only [pq];refine wg 1 (.int .i64 (n:Int)) rfl zH ?_;simp only [pq];refine wg 2 (.int .i64 (k:Int)) rfl zH ?_;simp only [pq];refine wg 3 (.int .i64 ((n:Int)+(k:Int))) rfl zH ?_;simp only [pq];refine wt 4 (.slice (some ⟨b,f,none⟩) xs.length lc) rfl (fun w' hSw=>by (have y:=hSw.2.1.l.c 0 _ rfl;have yl:=hSw.2.1.l.lt;go_simp)) zH ?_;simp only [pq];refine wg 5 (.pointer (some ⟨Bx,0,none⟩)) rfl zH ?_;simp only [pq];refine wt 6 (.int .i64 (op:Int)) rfl (fun w' hSw=>by (have y:=hSw.2.2.1.c 0 _ rfl;have yl:=hSw.2.2.1.lt;go_simp)) zH ?_;simp only [pq];refine wg 7 (.pointer (some ⟨b,f+op*5,none⟩)) rfl zH ?_;simp only [pq];refine wt 8 (.agg #[.int .i8 o.op,.int .u8 o.d,.int .u8 o.a,.int .u8 o.b,.int .i64 o.im]) rfl (fun w' hSw=>by (have q:=hSw.2.2.2;have y0:=q.c0;have y1:=q.c1;have y2:=q.c2;have y3:=q.c3;have y4:=q.c4;clear q;go_simp)) zH ?_;simp only [pq];refine wt 9 (.pointer (some ⟨g,0,none⟩)) rfl (fun w' hSw=>by (have y:=hSw.2.1.g.c 0 _ rfl;have yl:=hSw.2.1.g.lt;go_simp)) zH ?_;simp only [pq];refine wg 10 (.pointer (some ⟨g,0,none⟩)) rfl zH ?_;simp only [pq];refine wg 11 (.pointer (some ⟨g,0,none⟩)) rfl zH ?_;simp only [pq];refine wt 12 (.int .i64 blk) rfl (fun w' hSw=>by (have y:=hSw.1.c;have yl:=hSw.1.l;go_simp)) zH ?_;simp only [pq];refine wt 13 (.bool lp) rfl (fun w' hSw=>by (have y:=hSw.2.1.o.c 0 _ rfl;have yl:=hSw.2.1.o.lt;go_simp)) zH ?_;simp only [pq];refine wg 14 (.pointer (some ⟨Bx,0,none⟩)) rfl zH ?_;simp only [pq];refine wt 15 (.int .i64 (op:Int)) rfl (fun w' hSw=>by (have y:=hSw.2.2.1.c 0 _ rfl;have yl:=hSw.2.2.1.lt;go_simp)) zH ?_;simp only [pq];refine wg 16 (.agg #[.int .i64 blk,.bool lp,.int .i64 (op:Int),.bool false]) rfl zH ?_;simp only [pq];refine wpAnyH_ready (rs:=[17]) (by kernel_rfl) (by simp) ?_;refine AllReadyH.cons rfl (fun K hK=>?_) AllReadyH.nil;go_simp
     refine Calls.mono HPt.out ?_;rintro e w4 ⟨rfl,own3,hs3,hg3⟩;have HS4:Hid (Gs w w4 own own3):=HSx.out.2.2.2.2.2.2.trans hs3;have hS4:Gc w4 g blk t/\La w4 own2 gb lb ob g lc (some ⟨b,f,none⟩) xs lp/\At w4 Bx #[.int .i64 (op:Int),.int .i64 p2]/\OAt w4 b (f+op*5) o:=by
      have hk:=hs3.keep HSx.out.1.2.2.1 HSx.out.2.1;have L3:=HLk.out w4 own3 hs3;have L0:=HSx.out.1.2.1;have hb0:¬ own2 b≠0:=fun e=>e HSx.out.2.2.1;have hbz:b<X.drew.heap.size:=Nat.lt_of_lt_of_le HSx.out.2.2.2.1 (Nat.le_of_lt (by have:=HSx.out.1.2.2.1.lt;exact this));obtain ⟨c0,c1,c2,c3,c4⟩:=HSx.out.1.2.2.2;exact ⟨hg3.gc,⟨L3.g,L3.l,L3.o,L0.og,L0.ol,L0.oo,L3.xo,L0.ox⟩,hk.1,by rw [hs3.fr.cell hbz hb0];exact c0,by rw [hs3.fr.cell hbz hb0];exact c1,by rw [hs3.fr.cell hbz hb0];exact c2,by rw [hs3.fr.cell hbz hb0];exact c3,by rw [hs3.fr.cell hbz hb0];exact c4⟩
     refine hK.out _ _ hS4 (fun zH=>?_);clear hK K;refine wpAnyH_done (by kernel_rfl) ?_ _;clear zH hS4;have HV4:Hid (SlO own3 w4 (.slice (some ⟨vb,0,none⟩) l.length vc) l):=HV2x.out w4 own3 hs3;have HX4:Hid (GrX w4 g blk t own3 (n+N) (layL t xs blk lp (n+k) st (l.take (j+1))).1 (layL t xs blk lp (n+k) st (l.take (j+1))).2):=by
      rw [HST.out];unfold lay1;dsimp only;rw [show Int.toNat (op:Int)=op by simp,HOk.out.2];exact hg3
     clear hs3 hg3 HPt HSx;go_wp2_with fail
     go_roundw
     case rel=>exact ⟨j+1,by omega,by go_num,own3,HS4,HX4,HV4⟩
     case measure=>simp [intOf];omega
    ·obtain rfl:j=l.length:=by omega
     have j1:¬ (l.length:Int)<(l.length:Int):=by omega
     have HX5:Hid (GrX wz g blk t own2 (n+N) (layN t xs blk lp n row s (k+1)).1 (layN t xs blk lp n row s (k+1)).2):=by
      rw [HE.out]
      have:=HX2.out
      rw [List.take_length] at this;exact this
     go_wp2_with fail
     go_roundw
     case rel=>exact ⟨k+1,by omega,by go_num,own2,HS2,HX5⟩
     case measure=>simp [intOf];omega
  ·obtain rfl:k=N:=by omega
   have k1:¬ (k:Int)<(k:Int):=by omega
   go_wp2_with fail
   go_ret
   exact ⟨rfl,own2,HS2.out,HX2.out⟩
end Go.Proofs.YtpdaknbmcpmhjaaGreatDoor.Ly
