/- Parts Gp Gt. -/
import Derived.Test.YtpdaknbmcpmhjaaGreatDoorN36
import Derived.Test.YtpdaknbmcpmhjaaGreatDoorN37
import Derived.Test.YtpdaknbmcpmhjaaGreatDoorN00
set_option maxRecDepth 20000
set_option maxHeartbeats 4000000
namespace Go.Proofs.YtpdaknbmcpmhjaaGreatDoor.Pk
open Go.ChangeShapes Go.WideShapes Go.ChangeAt Go.RowKit
open YtpdaknbmcpmhjaaGreatDoor.Op YtpdaknbmcpmhjaaGreatDoor.So YtpdaknbmcpmhjaaGreatDoor.Bu
open YtpdaknbmcpmhjaaGreatDoor.Tb (Tab TabAt Bnds)
open YtpdaknbmcpmhjaaGreatDoor.Ly (At.set At.fr drew_up)
def PAc (W:World) (ao:Option Addr) (ps:List Bk):Prop:=∃ b f,ao=some ⟨b,f,none⟩/\b<W.heap.size/\∀ (i:Nat) (h:i<ps.length),∃ p:Pl,p.oc=ps[i].ops.length/\BAt W b (f+i*6) ps[i] p/\BIn W ps[i] p
theorem PAc.below {W W':World} {ao:Option Addr} {ps:List Bk} (h:PAc W ao ps) (g:Below W.heap.size W W'):PAc W' ao ps:=by
 obtain ⟨b,f,e,z,hx⟩:=h;refine ⟨b,f,e,Nat.lt_of_lt_of_le z g.size,fun i hi=>?_⟩;obtain ⟨p,h0,h1,h2⟩:=hx i hi;exact ⟨p,h0,h1.below g z,h2.below g⟩
theorem PAc.pat {W:World} {ao:Option Addr} {ps:List Bk} (h:PAc W ao ps) (hl:ps.length<=2199023255552):PAt W ao ps:=⟨hl,fun _=>by
 obtain ⟨b,f,e,z,hx⟩:=h;refine ⟨b,f,e,z,fun i hi=>?_⟩;obtain ⟨p,-,h1,h2⟩:=hx i hi;exact ⟨p,h1,h2⟩⟩
abbrev dcs (t:Tab) (ao:Option Addr) (n cap la ll:Nat):Array Value:=#[.slice ao n cap,.int .i64 (t.u 0),.int .i64 (t.u 1),.int .i64 (t.u 2),.int .i64 (t.u 3),.int .i64 (t.l 0),.int .i64 (t.l 1),.int .i64 (t.l 2),.int .i64 (t.l 3),.int .i64 (t.b 0),.int .i64 (t.b 1),.int .i64 (t.b 2),.int .i64 (t.b 3),.int .i64 t.d,.slice (some ⟨la,0,none⟩) n n,.slice (some ⟨ll,0,none⟩) n n]
structure Dr (W:World) (d:Nat) (ps:List Bk) (t:Tab) (ao:Option Addr) (cap la ll:Nat):Prop where
 d:At W d (dcs t ao ps.length cap la ll)
 z:∀ j,j<ps.length->W.cell? ⟨la,j,none⟩=some (.int .i64 0)
 l:la<W.heap.size
 p:PAc W ao ps
theorem Dr.below {W W':World} {d:Nat} {ps:List Bk} {t:Tab} {ao:Option Addr} {cap la ll:Nat} (h:Dr W d ps t ao cap la ll) (g:Below W.heap.size W W'):Dr W' d ps t ao cap la ll:=
 ⟨At.fr h.d (Fr.of (X:=Non) g) fun e=>e,fun j hj=>by rw [(bcell g).1 _ _ h.l];exact h.z j hj,Nat.lt_of_lt_of_le h.l g.size,h.p.below g⟩
theorem borrowed_any (d:Nat) (ps:List Bk) (t:Tab) (ao:Option Addr) (cap la ll:Nat) (x:Bk) (pl:Pl) (k:Nat) (w:World) (h:Dr w d ps t ao cap la ll) (hk:k<ps.length) (hx:x.thn=(k:Int)) :
  Calls Tryz.prog 246 #[.pointer (some ⟨d,0,none⟩),x.val pl] w fun e w'=>∃ a c,e=.returned (.slice a 0 c)/\Below w.heap.size w w':=by
 have hb:Below w.heap.size w (w.alloc (.cells (x.cells pl) 36)):=(Below.refl _ _).alloc (Nat.le_refl _) _;have HD:Hid (Dr (w.alloc (.cells (x.cells pl) 36)) d ps t ao cap la ll/\At (w.alloc (.cells (x.cells pl) 36)) w.heap.size (x.cells pl)/\Below w.heap.size w (w.alloc (.cells (x.cells pl) 36))):=⟨h.below hb,At.new _ _ _,hb⟩;have k0:(0:Int)<=(k:Int):=by omega
 have k1:(k:Int)<(ps.length:Int):=by omega
 have HXk:Hid (x.thn=(k:Int)):=hx;clear h hb hx;go_enter Tryz.func246,Tryz.ntmps246;go_upto_region 1 with fail
 generalize (w.alloc (.cells (x.cells pl) 36))=X at *;obtain ⟨b,f,rfl,hbl,hp⟩:=HD.out.1.p;obtain ⟨p,-,hba,hbi⟩:=hp k hk;have hcap:=hbi.c;have HS:Hid (∀ W,Below X.heap.size X W->At W d (dcs t (some ⟨b,f,none⟩) ps.length cap la ll)/\At W w.heap.size (x.cells pl)/\BAt W b (f+k*6) ps[k] p/\b<W.heap.size/\W.cell? ⟨la,k,none⟩=some (.int .i64 0)/\la<W.heap.size):=fun W hW=>⟨(HD.out.1.below hW).d,At.fr HD.out.2.1 (Fr.of (X:=Non) hW) (fun e=>e),hba.below hW hbl,Nat.lt_of_lt_of_le hbl hW.size,(HD.out.1.below hW).z k hk,(HD.out.1.below hW).l⟩;clear hp hba hbi;generalize ps[k]=y at *;refine wp_region_held_drew (S:=fun W'=>At W' d (dcs t (some ⟨b,f,none⟩) ps.length cap la ll)/\At W' w.heap.size (x.cells pl)/\BAt W' b (f+k*6) y p/\b<W'.heap.size/\W'.cell? ⟨la,k,none⟩=some (.int .i64 0)/\la<W'.heap.size) (by kernel_rfl) (HS.out _ (drew_up _)) (fun zH=>?_);refine wg 0 (.pointer (some ⟨d,0,none⟩)) rfl zH ?_;simp only [pq];refine wg 1 (.pointer (some ⟨d,0,none⟩)) rfl zH ?_;simp only [pq];refine wg 2 (.pointer (some ⟨d,0,none⟩)) rfl zH ?_;simp only [pq];refine wg 3 (.pointer (some ⟨d,0,none⟩)) rfl zH ?_;simp only [pq];refine wt 4 (.slice (some ⟨b,f,none⟩) ps.length cap) rfl (fun w' hSw=>by (have q:w'.cell? ⟨d,0,none⟩=some (.slice (some ⟨b,f,none⟩) ps.length cap):=hSw.1.c 0 _ rfl;have ql:=hSw.1.lt;go_simp)) zH ?_;simp only [pq];refine wg 5 (.pointer (some ⟨w.heap.size,4,none⟩)) rfl zH ?_;simp only [pq];refine wt 6 (.int .i64 (k:Int)) rfl (fun w' hSw=>by (have q:w'.cell? ⟨w.heap.size,4,none⟩=some (.int .i64 (k:Int)):=(hSw.2.1.c 4 _ rfl).trans (by simp [HXk.out]);have ql:=hSw.2.1.lt;go_simp)) zH ?_;simp only [pq];refine wg 7 (.pointer (some ⟨b,f+k*6,none⟩)) rfl zH ?_;simp only [pq];refine wg 8 (.pointer (some ⟨b,f+k*6,none⟩)) rfl zH ?_;simp only [pq];refine wt 9 (.slice p.oa y.ops.length p.oc) rfl (fun w' hSw=>by (have q:=hSw.2.2.1.c0;have ql:=hSw.2.2.2.1;go_simp)) zH ?_;simp only [pq];refine wg 10 (.pointer (some ⟨d,0,none⟩)) rfl zH ?_;simp only [pq];refine wg 11 (.pointer (some ⟨d,0,none⟩)) rfl zH ?_;simp only [pq];refine wg 12 (.pointer (some ⟨d,14,none⟩)) rfl zH ?_;simp only [pq];refine wt 13 (.slice (some ⟨la,0,none⟩) ps.length ps.length) rfl (fun w' hSw=>by (have q:w'.cell? ⟨d,14,none⟩=some (.slice (some ⟨la,0,none⟩) ps.length ps.length):=hSw.1.c 14 _ rfl;have ql:=hSw.1.lt;go_simp)) zH ?_;simp only [pq];refine wg 14 (.pointer (some ⟨w.heap.size,4,none⟩)) rfl zH ?_;simp only [pq];refine wt 15 (.int .i64 (k:Int)) rfl (fun w' hSw=>by (have q:w'.cell? ⟨w.heap.size,4,none⟩=some (.int .i64 (k:Int)):=(hSw.2.1.c 4 _ rfl).trans (by simp [HXk.out]);have ql:=hSw.2.1.lt;go_simp)) zH ?_;simp only [pq];refine wg 16 (.pointer (some ⟨la,k,none⟩)) rfl zH ?_;simp only [pq];refine wt 17 (.int .i64 0) rfl (fun w' hSw=>by (have q:=hSw.2.2.2.2.1;have ql:=hSw.2.2.2.2.2;go_simp)) zH ?_;simp only [pq];refine wg 18 (.slice p.oa 0 p.oc) rfl zH ?_;simp only [pq];refine wg 19 (.slice p.oa 0 p.oc) rfl zH ?_;simp only [pq];refine wpAnyH_done (by kernel_rfl) ?_ _;clear zH HS;go_wp2_with fail
 go_ret
 exact ⟨_,_,rfl,HD.out.2.2.drew⟩
theorem lendAll_none (d:Nat) (ps:List Bk) (t:Tab) (ao:Option Addr) (cap la ll:Nat) (w:World) (h:Dr w d ps t ao cap la ll) (hn:ps.length<=128) (hf:∀ x∈ps,x.fin≠1) :
  Calls Tryz.prog 77 #[.pointer (some ⟨d,0,none⟩)] w fun e w'=>e=.returned (.tuple #[])/\Below w.heap.size w w':=by
 obtain ⟨b,f,rfl,hbl,hp⟩:=id h.p;have HP:Hid (∀ (i:Nat) (hi:i<ps.length),∃ p:Pl,p.oc=ps[i].ops.length/\BAt w b (f+i*6) ps[i] p/\BIn w ps[i] p):=hp;have q0:w.cell? ⟨d,0,none⟩=some (.slice (some ⟨b,f,none⟩) ps.length cap):=h.d.c 0 _ rfl;have ql:=h.d.lt;clear h hp;go_enter Tryz.func77,Tryz.ntmps77;go_wp2_with fail
 clear q0 ql
 go_loopw [11] (fun v wr=>∃ k:Nat,k<=ps.length/\v=.int .i64 k/\Hid (Below w.heap.size w wr)) (fun v _=>ps.length-(intOf v).toNat)
 case atStart=>exact ⟨0,by omega,rfl,Below.refl _ _⟩
 case round=>
  rename World=>wr;obtain ⟨k,hk,rfl,HB⟩:=hrel
  by_cases hlt:k<ps.length
  ·have k1:(k:Int)<(ps.length:Int):=by omega
   obtain ⟨p,-,hba,-⟩:=HP.out k hlt;obtain ⟨c0,c1,c2,c3,c4,c5⟩:=hba.below HB.out hbl;have hbw:b<wr.heap.size:=Nat.lt_of_lt_of_le hbl HB.out.size;have hfk:=hf ps[k] (List.getElem_mem hlt);clear hba;generalize ps[k]=x at *;have hfb:(x.fin != 1)=true:=by simpa using hfk
   have HB2:Hid (Below w.heap.size w (wr.alloc (.cells (x.cells p) 36))):=HB.out.trans (((Below.refl _ _).alloc (Nat.le_refl _) _).mono HB.out.size);go_wp2_with fail
   go_roundw
   case rel=>exact ⟨k+1,by omega,by go_num,HB2⟩
   case measure=>simp [intOf];omega
  ·obtain rfl:k=ps.length:=by omega
   have k1:¬ (ps.length:Int)<(ps.length:Int):=by omega
   go_wp2_with fail
   go_end0
   exact ⟨rfl,HB.out⟩
end Go.Proofs.YtpdaknbmcpmhjaaGreatDoor.Pk
