/- Parts Ze. -/
import Derived.Test.YtiejdpjgplikjaaGreatDoorN19
import Derived.Great.Walk
import Derived.Test.YtiejdpjgplikjaaGreatDoorN00
set_option maxRecDepth 20000
set_option maxHeartbeats 8000000
namespace Go.Proofs.YtiejdpjgplikjaaGreatDoor.Bn
open Go.ChangeShapes Go.WideShapes Go.ChangeAt Go.RowKit Go.Great
open YtiejdpjgplikjaaGreatDoor.Op YtiejdpjgplikjaaGreatDoor.So
open YtiejdpjgplikjaaGreatDoor.Dp (Ed)
def zcs (n:Nat):List Value:=List.replicate n (.int .i64 0)
theorem ws_new (w:World) (t:TypeId) {n:Nat} (hn:n<=64):Ws (w.alloc (.cells (zcs 4096).toArray t)) w.heap.size n (fun _ _=>0):=by
 have h:=At.new w (zcs 4096).toArray t;refine ⟨fun i j hi hj=>h.c _ _ ?_,h.f,h.lt⟩;rw [List.getElem?_toArray];unfold zcs;rw [List.getElem?_replicate,if_pos (by omega)]
def Fit (n:Nat) (F:Mat):Prop:=∀ k,k<n->(∀ j,j<k->fw F j j j<=0)->Sm 2305843009213693951 (fw F k)
theorem inTime_any (n:Nat) (hn:n<=64) (a:Option Addr) (c N:Nat) (es:List Ed) (hN:es.length=N) (q:Int) (w:World) (he:Es w a es) (hE:EL n es) (hq0:0<=q) (hq1:q<=512) (hl:N<=100000000) (hF:Fit n (stp q es)) :
  Calls Tryz.prog 61 #[.int .i64 n,.slice a N c,.int .i64 q] w fun e w'=>e=.returned (.bool (inT (stp q es) n))/\Below w.heap.size w w':=by
 have hne:∀ x,a=some x->¬ x.block=w.heap.size:=fun x hx=>by have:=he.1 x hx;omega
 have g0:Below w.heap.size w (w.alloc (.cells (zcs 4096).toArray 147)):=(Below.refl _ _).alloc (Nat.le_refl _) _;have HSt:Hid (Calls Tryz.prog 105 #[.pointer (some ⟨w.heap.size,0,none⟩),.int .i64 n,.slice a N c,.int .i64 q] (w.alloc (.cells (zcs 4096).toArray 147)) fun e w'=>e=.returned (.tuple #[])/\Wz (w.alloc (.cells (zcs 4096).toArray 147)) w' w.heap.size n (stp q es) a es):=steps_any w.heap.size n hn a c N es hN q _ (ws_new w 147 hn) (he.up g0) hne hE hq0 hq1 hl;have HGo:Hid (∀ k W,k<n->(∀ j,j<k->fw (stp q es) j j j<=0)->fw (stp q es) k k k<=0->Wz (w.alloc (.cells (zcs 4096).toArray 147)) W w.heap.size n (fw (stp q es) k) a es->Calls Tryz.prog 106 #[.pointer (some ⟨w.heap.size,0,none⟩),.int .i64 n,.int .i64 (k:Int)] W fun e w'=>e=.returned (.tuple #[])/\Wz (w.alloc (.cells (zcs 4096).toArray 147)) w' w.heap.size n (fw (stp q es) (k+1)) a es):=fun k W hk h0 h1 h2=>goOver_any w.heap.size n k hn hk a es (fw (stp q es) k) _ (Int.le_refl _) (hF k hk h0) h1 W _ h2 hne;have HUp:Hid (∀ W F,Wz (w.alloc (.cells (zcs 4096).toArray 147)) W w.heap.size n F a es->Below w.heap.size w W):=fun W F h=>g0.trans (h.fr.below (by simp) fun k hk e=>by have e:k=w.heap.size:=e;omega);have hn':(n:Int)<=64:=by omega
 clear he hE hl hF hne hN g0;go_enter Tryz.func61,Tryz.ntmps61;go_upto_region 1 with fail
 rename_i K0 hK0;refine wp_region_lit ?_;refine wpList_allocTo rfl (some 7) rfl (.pointer (some ⟨w.heap.size,0,none⟩)) (.cells (zcs 4096).toArray 147) (by kernel_rfl) ?_;refine wpList_nil ?_;refine hK0 _ _ ?_;clear hK0 K0;simp only [pq];generalize (w.alloc (.cells (zcs 4096).toArray 147))=V at *;go_wp2_with (first
  | (go_at_call 105;refine Calls.mono HSt.out ?_;rintro e w1 ⟨rfl,hb⟩;have HQ:Hid (Wz V w1 w.heap.size n (fw (stp q es) 0) a es):=hb;clear hb HSt))
 go_loopw [14] (fun v wr=>∃ k:Nat,k<=n/\v=.int .i64 k/\(∀ j,j<k->fw (stp q es) j j j<=0)/\Wz V wr w.heap.size n (fw (stp q es) k) a es) (fun v _=>n-(intOf v).toNat)
 case atStart=>exact ⟨0,by omega,rfl,fun j hj=>by omega,HQ.out⟩
 case round=>
  rename World=>wr;obtain ⟨k,hk,rfl,hall,hs⟩:=hrel;have HZ:Hid (Wz V wr w.heap.size n (fw (stp q es) k) a es):=hs;have HA:Hid (∀ j,j<k->fw (stp q es) j j j<=0):=hall;clear hs hall HQ
  by_cases hlt:k<n
  ·have k0:(0:Int)<=(k:Int):=by omega
   have k1:(k:Int)<(n:Int):=by omega
   have cc:=HZ.out.m.c k k hlt hlt;have cl:=HZ.out.m.lt
   by_cases hp:0<fw (stp q es) k k k
   ·have HRes:Hid (inT (stp q es) n=false):=inT_no hlt hp;generalize fw (stp q es) k k k=g at *;go_wp2_with fail
    go_ret
    exact ⟨by rw [HRes.out];rfl,HUp.out _ _ HZ.out⟩
   ·have hp':fw (stp q es) k k k<=0:=by omega
    have HGk:Hid (∀ W,Wz V W w.heap.size n (fw (stp q es) k) a es->Calls Tryz.prog 106 #[.pointer (some ⟨w.heap.size,0,none⟩),.int .i64 n,.int .i64 (k:Int)] W fun e w'=>e=.returned (.tuple #[])/\Wz V w' w.heap.size n (fw (stp q es) (k+1)) a es):=fun W hW=>HGo.out k W hlt HA.out hp' hW;have HA2:Hid (∀ j,j<k+1->fw (stp q es) j j j<=0):=fun j hj=>by
     by_cases e:j=k
     ·subst e;exact hp'
     ·exact HA.out j (by omega)
    generalize fw (stp q es) k k k=g at *;go_wp2_with (first
     | (go_at_call 106;refine Calls.mono (HGk.out _ HZ.out) ?_;rintro e w2 ⟨rfl,hb⟩;have HZ2:Hid (Wz V w2 w.heap.size n (fw (stp q es) (k+1)) a es):=hb;clear hb HGk HZ cc cl))
    go_roundw
    case rel=>exact ⟨k+1,by omega,by go_num,HA2.out,HZ2.out⟩
    case measure=>simp [intOf];omega
  ·obtain rfl:k=n:=by omega
   have k1:¬ (k:Int)<(k:Int):=by omega
   have HRes:Hid (inT (stp q es) k=true):=inT_of HA.out;go_wp2_with fail
   go_ret
   exact ⟨by rw [HRes.out];rfl,HUp.out _ _ HZ.out⟩
end Go.Proofs.YtiejdpjgplikjaaGreatDoor.Bn
