/- Parts Yi. -/
import Derived.Test.YtiejdpjgplikjaaGreatDoorN36
import Derived.Test.YtiejdpjgplikjaaGreatDoorN38
set_option maxRecDepth 20000
namespace Go.Proofs.YtiejdpjgplikjaaGreatDoor.Mo
open Go.ChangeShapes Go.WideShapes Go.ChangeAt Go.RowKit
open YtiejdpjgplikjaaGreatDoor.Op YtiejdpjgplikjaaGreatDoor.So YtiejdpjgplikjaaGreatDoor.Dp YtiejdpjgplikjaaGreatDoor.Bn
open YtiejdpjgplikjaaGreatDoor.Ls (clN clN_at clN_lt Nl arC arC_all arC_yes arC_no areCycles_any)
open YtiejdpjgplikjaaGreatDoor.Rv (RAt Few frB tkF tk_few take_any evOk NwOut ring_ok tn addK)
open YtiejdpjgplikjaaGreatDoor.Tb (Tab TabAt Bnds)
open YtiejdpjgplikjaaGreatDoor.Ls (cyL cyL_is sysL sysL_ok ordC lis_parts hvU)
open YtiejdpjgplikjaaGreatDoor.ListWay (way placed sch_is okB)
def xB:List O:=[⟨15,1,2,0,0⟩,⟨2,3,3,1,0⟩]
abbrev xBC:Array Value:=#[.int .i8 15,.int .u8 1,.int .u8 2,.int .u8 0,.int .i64 0,.int .i8 2,.int .u8 3,.int .u8 3,.int .u8 1,.int .i64 0]
theorem xB_ok:∀ o∈xB,o.Ok:=fun o h=>by
 simp only [xB,List.mem_cons,List.not_mem_nil,or_false] at h;rcases h with rfl|rfl <;> constructor <;> decide
theorem xB_at {w:World} {b:Nat} (h:At w b xBC):OpsAt w (some ⟨b,0,none⟩) xB:=by
 refine ⟨xB_ok,by decide,fun _=>⟨b,0,rfl,h.lt,fun i hi=>?_⟩⟩;have hi:i<2:=hi
 match i,hi with
 | 0,_=>exact ⟨h.c 0 _ rfl,h.c 1 _ rfl,h.c 2 _ rfl,h.c 3 _ rfl,h.c 4 _ rfl⟩
 | 1,_=>exact ⟨h.c 5 _ rfl,h.c 6 _ rfl,h.c 7 _ rfl,h.c 8 _ rfl,h.c 9 _ rfl⟩
theorem stp_yes {s:ListWay.Sys} {ord:List Nat} {c:Nat->Int} {y:Int} {i:Nat} (h1:placed s c<s.n) (h2:ord.find? (okB s c y)=some i):ListWay.stp s ord (c,y)=(ListWay.upd c i y,y):=by
 unfold ListWay.stp;simp only [h1,if_true,h2]
theorem stp_no {s:ListWay.Sys} {ord:List Nat} {c:Nat->Int} {y:Int} (h1:placed s c<s.n) (h2:ord.find? (okB s c y)=none):ListWay.stp s ord (c,y)=(c,y+1):=by
 unfold ListWay.stp;simp only [h1,if_true,h2]
abbrev cB0:Nat->Int:=fun _=>-1
abbrev cB1:Nat->Int:=ListWay.upd cB0 0 0
structure Wk (w W:World) (tb lb:Nat):Prop where
 t:At W tb #[.int .i64 1,.int .i64 1,.int .i64 1,.int .i64 1,.int .i64 1,.int .i64 3,.int .i64 2,.int .i64 1,.int .i64 1,.int .i64 1,.int .i64 1,.int .i64 1,.int .i64 1]
 l:At W lb xBC
 up:Below w.heap.size w W
theorem Wk.next {w W W':World} {tb lb:Nat} (h:Wk w W tb lb) (g:Below W.heap.size W W'):Wk w W' tb lb:=⟨h.t.below g h.t.lt,h.l.below g h.l.lt,h.up.trans (g.mono h.up.size)⟩
end Go.Proofs.YtiejdpjgplikjaaGreatDoor.Mo
