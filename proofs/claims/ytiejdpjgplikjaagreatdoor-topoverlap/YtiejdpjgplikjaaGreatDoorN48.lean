/- Parts Tc. -/
import Derived.Test.YtiejdpjgplikjaaGreatDoorN46
import Derived.Test.YtiejdpjgplikjaaGreatDoorN47
import Derived.Test.YtiejdpjgplikjaaGreatDoorN45
import Derived.Deep.RegionHeld3
set_option maxRecDepth 20000
namespace Go.Proofs.YtiejdpjgplikjaaGreatDoor.Tp
open Go.ChangeShapes Go.WideShapes Go.ChangeAt Go.RowKit
open YtiejdpjgplikjaaGreatDoor.Op YtiejdpjgplikjaaGreatDoor.So YtiejdpjgplikjaaGreatDoor.Dp
open YtiejdpjgplikjaaGreatDoor.Bn (EL EIn Es es_of loopE_ok leE rgE rg_ok least_any)
open YtiejdpjgplikjaaGreatDoor.Ls (clN clN_at clN_lt clD clV_D Nl arC_all)
open YtiejdpjgplikjaaGreatDoor.Mo (mcB mc_parts mc_least stg fdP find_is fdP_ok find_no FdOut body_ok drn kuB)
open YtiejdpjgplikjaaGreatDoor.Tb (Tab TabAt Bnds)
open YtiejdpjgplikjaaGreatDoor.R7.Sp (Pr)
open YtiejdpjgplikjaaGreatDoor.R7.Ro (rowP evR Rd Sl whole_any WhOut whE whN whE_0 whN_some mem_evR)
theorem mx_same (g:Nat->Int):∀ n,YtiejdpjgplikjaaGreatDoor.R7.Ro.mxN g n=YtiejdpjgplikjaaGreatDoor.Mo.mxN g n
 | 0=>rfl
 | n+1=>by
  show max (_root_.Go.Proofs.YtiejdpjgplikjaaGreatDoor.R7.Ro.mxN g n) (g n)=max (_root_.Go.Proofs.YtiejdpjgplikjaaGreatDoor.Mo.mxN g n) (g n);rw [mx_same g n]
theorem stg_same (n:Nat) (g:Nat->Int) (E:Int):YtiejdpjgplikjaaGreatDoor.R7.Ro.stg n g E=stg n g E:=by
 unfold YtiejdpjgplikjaaGreatDoor.R7.Ro.stg YtiejdpjgplikjaaGreatDoor.Mo.stg;rw [mx_same]
theorem ops_take {w:World} {ao:Option Addr} {xs:List O} (h:OpsAt w ao xs) (n:Nat):OpsAt w ao (xs.take n):=by
 refine ⟨fun o ho=>h.ok o (List.mem_of_mem_take ho),by have:=h.len;rw [List.length_take];omega,fun h0=>?_⟩;have h0':0<xs.length:=by rw [List.length_take] at h0;omega
 obtain ⟨b,f,e,z,hx⟩:=h.is h0';refine ⟨b,f,e,z,fun i hi=>?_⟩;rw [List.getElem_take];exact hx i (by rw [List.length_take] at hi;omega)
structure Pn (t:Tab) (ys:List O) (E S:Int) (g:Nat->Int):Prop where
 e1:1<=E
 e2:E<=512
 s1:1<=S
 se:S*E<=1024
 ok:t.ok=true
 ku:kuB t ys g E=true
 c:∀ k,k<ys.length->0<=g k/\g k<=65536
 le:leE t ys<=E
 kp:∀ e∈loopE t ys,g e.f.toNat + e.l<=g e.t.toNat + e.d*E
 fr:YtiejdpjgplikjaaGreatDoor.R7.Ro.frB ys.length E S g=true
theorem pn_of {w:World} {ao:Option Addr} {ys:List O} {t:Tab} (h:OpsAt w ao ys) (he:rgE t ys=0):Pn t ys (fdP t ys).1 (stg ys.length (fdP t ys).2 (fdP t ys).1) (fdP t ys).2:=by
 obtain ⟨hm,h1,h2⟩:=fdP_ok h he;obtain ⟨-,m1,m2,-,m4,m5,-,m7,m8⟩:=mc_parts hm;obtain ⟨ht,hn,-,-⟩:=rg_ok he;obtain ⟨-,-,hd,-⟩:=body_ok h he;have hd0:0<=t.d:=(_root_.Go.Proofs.YtiejdpjgplikjaaGreatDoor.Bn.tab_in ht).1.1;have hS:1<=stg ys.length (fdP t ys).2 (fdP t ys).1:=by
  unfold YtiejdpjgplikjaaGreatDoor.Mo.stg
  have:=YtiejdpjgplikjaaGreatDoor.R7.Ro.mxN_ge (fdP t ys).2 ys.length
  rw [mx_same] at this
  have:=Int.ediv_nonneg this (show 0<=(fdP t ys).1 by omega)
  omega
 have l:=mc_least h hm;refine ⟨by omega,by omega,hS,by omega,ht,m8,fun k hk=>arC_all m4 k hk,l.1,fun e hx=>l.2 e hx,?_⟩;unfold YtiejdpjgplikjaaGreatDoor.R7.Ro.frB;rw [stg_same];have hw:YtiejdpjgplikjaaGreatDoor.R7.Ro.wiB 0 65536 ys.length (fdP t ys).2=true:=List.all_eq_true.2 fun k hk=>by
  have:=arC_all m4 k (List.mem_range.1 hk)
  simp [this.1,this.2]
 simp only [hw,Bool.and_eq_true,decide_eq_true_eq];exact ⟨⟨⟨⟨by omega,by omega⟩,hn⟩,trivial⟩,trivial⟩
structure Lo (w W:World) (t:Tab) (pb:Nat) (E S:Int) (ra:Option Addr) (m rc:Nat) (g:Nat->Int):Prop where
 t:TabAt W w.heap.size t
 p:At W pb #[.int .i64 E,.slice ra m rc,.int .i64 S]
 c:Nl W ra m g
 up:Below w.heap.size w W
theorem Lo.next {w W W':World} {t:Tab} {pb:Nat} {E S:Int} {ra:Option Addr} {m rc:Nat} {g:Nat->Int} (h:Lo w W t pb E S ra m rc g) (b:Below W.heap.size W W'):Lo w W' t pb E S ra m rc g:=⟨h.t.below b h.t.lt,h.p.below b h.p.lt,h.c.up b,h.up.trans (b.mono h.up.size)⟩
theorem whole_is {t:Tab} {ys:List O} {E S:Int} {g:Nat->Int} (hP:Pn t ys E S g) (W:World) (ra:Option Addr) (rc k:Nat) (hk:1<=k) (hk2:k<=13) (hc:Nl W ra ys.length g):Calls Tryz.prog 14 #[.agg #[.int .i64 E,.slice ra ys.length rc,.int .i64 S],.int .i64 k] W fun e w'=>∃ v,∃ M:Nat,e=.returned (.tuple #[v,.int .i64 0])/\Below W.heap.size W w'/\M<=65536/\Rd w' v M (rowP E g (evR ys.length k)):=by
 have hA:YtiejdpjgplikjaaGreatDoor.R7.Ro.Nl W W.heap.size ra ys.length g:=⟨fun h0=>hc.is h0⟩;have hl:((k:Int)+S)*E<=65536:=by
  have h1:(k:Int)*E<=13*512:=Int.mul_le_mul (by omega) hP.e2 (by have:=hP.e1;omega) (by omega);have h2:=hP.se;rw [Int.add_mul];omega
 refine (whole_any E S ra ys.length rc g k W hA (by omega) (by omega)).mono ?_;rintro e w' ⟨v,rfl,hb,hr⟩;have e0:=whE_0 (L:=ys.length) (cy:=g) ⟨hP.fr,(by omega:(0:Int)<=(k:Int))⟩ hl;have hN:=whN_some (L:=ys.length) (cy:=g) e0 (by omega) hP.s1 hP.e1;rw [e0];refine ⟨v,_,rfl,hb,?_,by simpa using hr⟩;have h4:((k:Int)-1+S)*E<=((k:Int)+S)*E:=Int.mul_le_mul_of_nonneg_right (by omega) (by have:=hP.e1;omega);omega
structure Bz (W0 W:World) (M:Nat) (f:Nat->Nat->Nat):Prop where
 up:Below W0.heap.size W0 W
 c:∀ j k,j<M->k<4->W.cell? ⟨W0.heap.size,j*4+k,none⟩=some (.int .i64 (f j k))
 z:∀ k,W.frozen? ⟨W0.heap.size,k,none⟩=false
 lt:W0.heap.size<W.heap.size
theorem Bz.next {W0 W W':World} {M:Nat} {f:Nat->Nat->Nat} (h:Bz W0 W M f) (g:Below W.heap.size W W'):Bz W0 W' M f:=
 ⟨h.up.trans (g.mono (Nat.le_of_lt h.lt)),fun j k hj hk=>by rw [(bcell g).1 _ _ h.lt];exact h.c j k hj hk,fun k=>by rw [(bcell g).2 _ _ h.lt];exact h.z k,Nat.lt_of_lt_of_le h.lt g.size⟩
theorem Bz.put {W0 W:World} {M:Nat} {f f':Nat->Nat->Nat} (h:Bz W0 W M f) {j k:Nat} (hj:j<M) (hk:k<4) {v:Int} (hv:v=(f' j k:Int)) (ho:∀ a b,b<4->¬ (a=j/\b=k)->f' a b=f a b):Bz W0 (W.setCell ⟨W0.heap.size,j*4+k,none⟩ (.int .i64 v)) M f':=by
 refine ⟨h.up.setCell (Nat.le_refl _) _,fun a b ha hb=>?_,fun k=>by rw [World.frozen?_setCell];exact h.z k,by simpa using h.lt⟩
 by_cases e:a=j/\b=k
 ·obtain ⟨rfl,rfl⟩:=e;rw [World.cell?_setCell_same _ _ _ (h.c a b ha hb),hv]
 ·rw [World.cell?_setCell_other _ _ _ _ (by intro q;injection q with _ q2;exact e (by omega)),h.c a b ha hb,ho a b hb e]
theorem made_at (M i:Nat) (hi:i<M*4):(madeCells (Value.agg #[.int .i64 0,.int .i64 0,.int .i64 0,.int .i64 0]).cells (M*4))[i]?=some (.int .i64 0):=by
 have hc:(Value.agg #[.int .i64 0,.int .i64 0,.int .i64 0,.int .i64 0]).cells=#[.int .i64 0,.int .i64 0,.int .i64 0,.int .i64 0]:=rfl;rw [hc];unfold madeCells;have h4:i%4<4:=Nat.mod_lt _ (by omega);simp only [Array.getElem?_map,Array.getElem?_range,hi,if_true,Option.map_some];have key:∀ r:Nat,r<4->(#[Value.int .i64 0,.int .i64 0,.int .i64 0,.int .i64 0]:Array Value)[r]! = .int .i64 0:=fun r hr=>by
  match r,hr with
  | 0,_=>rfl
  | 1,_=>rfl
  | 2,_=>rfl
  | 3,_=>rfl
 exact congrArg some (key _ h4)
theorem Bz.new (W0:World) (M:Nat) (t:TypeId) (f:Nat->Nat->Nat) (hf:∀ j k,f j k=0):Bz W0 (W0.alloc (.cells (madeCells (Value.agg #[.int .i64 0,.int .i64 0,.int .i64 0,.int .i64 0]).cells (M*4)) t)) M f:=by
 have h:=At.new W0 (madeCells (Value.agg #[.int .i64 0,.int .i64 0,.int .i64 0,.int .i64 0]).cells (M*4)) t;refine ⟨(Below.refl _ _).alloc (Nat.le_refl _) _,fun j k hj hk=>?_,h.f,h.lt⟩;rw [hf];exact h.c _ _ (made_at M (j*4+k) (by omega))
theorem wpList_make4 (w:World) {ops:Array Oper} {rest:List Oper} {o:Oper} {a:Act} {Q:Exit->Act->World->Prop}
  (hg:o.guard=none) (l c:Operand) (t:TypeId) (hop:o.op=Op.makeSlice t l c)
  (e:TypeId) (i:TypeInfo) (z:Value) (ht:Tryz.prog.underlying t=some (.slice e)) (hi:Tryz.prog.info? e=some i) (hz:i.zero=some z)
  (kl kc:IntKind) (n:Nat) (hl:a.eval l=.int kl (n:Int)) (hc:a.eval c=.int kc (n:Int)) (hbytes:i.bytes*n<=281474976710656) (h63:n<=9223372036854775807)
  (hK:wpList Tryz.prog ops Q rest (a.put o.dst (.slice (some ⟨w.heap.size,0,none⟩) n n)) (w.alloc (.cells (madeCells z.cells (n*i.size)) e))) :
  wpList Tryz.prog ops Q (o::rest) a w:=by
 refine wpList_plain hg fun K hK'=>?_;have hb':(i.bytes:Int)*(n:Int)<=281474976710656:=by
  have h:((i.bytes*n:Nat):Int)<=281474976710656:=by omega
  rwa [Int.natCast_mul] at h
 have hrun:=run_make (P:=Tryz.prog) w t e i z ht hi hz kl kc n n (by omega) (Int.le_refl _) hb' (by omega);simp only [Int.toNat_natCast] at hrun;unfold Oper.wp;simp [execOp,hop,hl,hc,hrun,Result.andThen]
 exact hK' _ _ hK
theorem info23:(Tryz.prog.info? 23).map (fun i=>(i.zero,i.size,i.bytes))=some (some (.agg #[.int .i64 0,.int .i64 0,.int .i64 0,.int .i64 0]),4,32):=by kernel_rfl
theorem row_in {E:Int} {g:Nat->Int} {L k c i:Nat} (hi:i<(rowP E g (evR L k) c).length):∃ a r:Nat,a<L/\r<k/\(rowP E g (evR L k) c)[i]=((a:Int),(r:Int)):=by
 have hm:(rowP E g (evR L k) c)[i]∈evR L k:=(List.mem_filter.1 (List.getElem_mem hi)).1;exact mem_evR.1 hm
theorem cnt_le (p:Nat->Bool):∀ n,YtiejdpjgplikjaaGreatDoor.Bn.cnt p n<=n
 | 0=>Nat.le_refl _
 | n+1=>by
  have:=cnt_le p n
  show YtiejdpjgplikjaaGreatDoor.Bn.cnt p n+(if p n then 1 else 0)<=n+1
  split <;> omega
theorem row_short (E:Int) (g:Nat->Int) {L k:Nat} (c:Nat) (hL:L<=24) (hk:k<=13):(rowP E g (evR L k) c).length<=100000:=by
 refine Nat.le_trans (List.length_filter_le _ _) ?_;have h:=ev_su L (fun _=>true) k;have e:((evR L k).filter fun _=>true)=evR L k:=List.filter_eq_self.2 fun _ _=>rfl;rw [e] at h;rw [h];refine Nat.le_trans (_root_.Go.Proofs.YtiejdpjgplikjaaGreatDoor.Bn.su_le (g:=fun _=>24) fun r _=>?_) (by rw [_root_.Go.Proofs.YtiejdpjgplikjaaGreatDoor.Bn.su_const];omega);refine Nat.le_trans (cnt_le _ L) hL
end Go.Proofs.YtiejdpjgplikjaaGreatDoor.Tp
