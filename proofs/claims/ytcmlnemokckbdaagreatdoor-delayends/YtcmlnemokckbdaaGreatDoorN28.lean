/- Parts Wb. -/
import Derived.Shelf.Slices.Delete
import Derived.Test.YtcmlnemokckbdaaGreatDoorProg
import Derived.Test.YtcmlnemokckbdaaGreatDoorN01
set_option maxRecDepth 20000
namespace Go.Proofs.YtcmlnemokckbdaaGreatDoor.Ls
open Go.ChangeShapes Go.WideShapes Go.ChangeAt Go.RowKit Go.Shelf
open YtcmlnemokckbdaaGreatDoor.So
def delRen:Go.Shelf.Ren:=⟨fun|23=>124|n=>n,fun|22=>29|n=>n,fun|n=>n⟩
theorem delLays:Go.Proofs.Lays2.n23 Tryz.prog delRen:={
 mixed:=by kernel_rfl
 f23:=Tryz.func124.trans (congrArg some (by kernel_rfl))
 t0:=Tryz.underlying0
 a0:=Tryz.isAgg0
 z0:=Tryz.sizeOf0
 v0:=Tryz.zeroValue0
 t3:=Tryz.underlying3
 a3:=Tryz.isAgg3
 z3:=Tryz.sizeOf3
 v3:=Tryz.zeroValue3
 t4:=Tryz.underlying4
 a4:=Tryz.isAgg4
 z4:=Tryz.sizeOf4
 v4:=Tryz.zeroValue4
 t22:=Tryz.underlying29
 a22:=Tryz.isAgg29
 z22:=Tryz.sizeOf29
 v22:=Tryz.zeroValue29
 i3:=by kernel_rfl }
structure Lf (w:World) (b:Nat) (L:List Nat):Prop where
 c:∀ (k:Nat) (h:k<L.length),w.cell? ⟨b,k,none⟩=some (.int .i64 (L[k]:Int))
 f:∀ k,w.frozen? ⟨b,k,none⟩=false
 lt:b<w.heap.size
theorem Lf.fr {X:Nat->Prop} {W W':World} {b:Nat} {L:List Nat} (a:Lf W b L) (g:Fr X W W') (hx:¬ X b):Lf W' b L:=
 ⟨fun k hk=>(g.cell a.lt hx k).trans (a.c k hk),fun k=>(g.frozen a.lt hx k).trans (a.f k),Nat.lt_of_lt_of_le a.lt g.size⟩
theorem putRow_fr (w:World) (q blk:Nat) (d:Array Int):Fr (One blk) w (Sort.putRow (Value.int .i64) (Sort.ahead w q) blk 0 d):=by
 refine ⟨rfl,rfl,rfl,by simp [Sort.ahead],fun k hk hx=>?_⟩;have hx:¬ k=blk:=hx;show (Sort.mapBlock (Sort.ahead w q) blk _).heap[k]?=_;simp only [Sort.mapBlock,Sort.ahead];rw [Array.getElem?_modify,if_neg (fun e=>hx e.symm)]
theorem frozen_putRow (w:World) (q blk:Nat) (d:Array Int) (k:Nat):(Sort.putRow (Value.int .i64) (Sort.ahead w q) blk 0 d).frozen? ⟨blk,k,none⟩=w.frozen? ⟨blk,k,none⟩:=Sort.frozen?_putRow _ _ _ _ _ _
theorem del_any (blk cap k:Nat) (L:List Nat) (w:World) (h:Lf w blk L) (hk:k<L.length) (hcap:L.length<=cap) (hm:cap<=1000000) :
  Calls Tryz.prog 124 #[.slice (some ⟨blk,0,none⟩) L.length cap,.int .i64 (k:Int),.int .i64 ((k:Int)+1)] w fun e w'=>e=.returned (.slice (some ⟨blk,0,none⟩) (L.length-1) cap)/\Fr (One blk) w w'/\Lf w' blk (L.eraseIdx k):=by
 have hH:Sort.Holds (Value.int .i64) w blk 0 (L.map Int.ofNat).toArray:=fun j hj=>by
  have hj':j<L.length:=by simpa using hj
  rw [Nat.zero_add];refine ⟨?_,h.f j⟩;rw [h.c j hj',getElem!_pos (L.map Int.ofNat).toArray j hj];simp
 have hc:=Any.slices_Delete_int delLays blk 0 cap k (k+1) (L.map Int.ofNat) w hH (by simpa using hcap) (by omega) (by omega) (by rw [List.length_map];omega);simp only [List.length_map,show k+1-k=1 by omega] at hc;have he:((k+1:Nat):Int)=(k:Int)+1:=by omega
 rw [he] at hc;refine hc.mono fun e w' h'=>?_;obtain ⟨rfl,q,rfl⟩:=h';have hsz:(List.take k (L.map Int.ofNat)++List.drop (k+1) (L.map Int.ofNat)++List.replicate 1 (0:Int)).toArray.size=(L.map Int.ofNat).toArray.size:=by simp;omega
 have hH2:=Sort.holds_putRow (Value.int .i64) (Sort.ahead w q) blk 0 _ _ (Sort.holds_ahead _ w q blk 0 _ hH) hsz;refine ⟨rfl,putRow_fr w q blk _,⟨fun j hj=>?_,fun j=>by rw [frozen_putRow];exact h.f j,by simpa [Sort.ahead] using h.lt⟩⟩;have hj2:j<L.length-1:=by rw [List.length_eraseIdx_of_lt hk] at hj;exact hj
 have h1:=(hH2 j (by rw [hsz];simp;omega)).1;rw [Nat.zero_add] at h1;rw [h1,getElem!_pos _ _ (by rw [hsz];simp;omega)]
 congr 1
 congr 1
 rw [List.getElem_toArray,List.getElem_append_left (by simp;omega),List.getElem_eraseIdx]
 by_cases hjk:j<k
 ·rw [List.getElem_append_left (by simp;omega)];simp [hjk]
 ·rw [List.getElem_append_right (by simp;omega)];have ej:k+1+(j-min k L.length)=j+1:=by omega
  simp [hjk,ej]
end Go.Proofs.YtcmlnemokckbdaaGreatDoor.Ls
