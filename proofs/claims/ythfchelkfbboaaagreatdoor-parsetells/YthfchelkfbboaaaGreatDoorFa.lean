/- What the statements' own Fault answers of what Program told, read off the program by the walk. Conditions: the variables lie in memory as the program lays them. -/
import Derived.Test.YthfchelkfbboaaaGreatDoorRows
import Derived.WalkKit
import Derived.LaidEql
import Derived.Stop.Asserts
import Derived.RowKitTokens
import Derived.Test.YthfchelkfbboaaaGreatDoorPa
import Derived.Deep.QuietTactic
import Derived.BigQuiet
namespace Go.Proofs.YthfchelkfbboaaaGreatDoor.Pr
open Go.RowKit Go.Extern.Stop Go.Stop Go.Extern

theorem as_nil (t : Value) (w : World) :
    Calls Tryz.prog 38 #[.nilIface, t] w fun e w' => e = .returned (.bool false) ∧ w' = w := by
  go_enter Tryz.func38, Tryz.ntmps38
  go_wp2
  go_ret
  exact ⟨rfl, rfl⟩

theorem Ra.valueOf27 (t : Addr) (w : World) : (ReflectliteValue.unpack (.iface 94 (.pointer (some t)))).run Tryz.prog w
    = .ok (.agg #[.pointer (some ⟨8, 94, none⟩), .pointer (some ⟨w.heap.size, 0, none⟩), .int .u64 150]) (w.alloc (.cells #[.pointer (some t)] 94)) := by kernel_rfl
theorem Ra.type27 (a : Addr) (w : World) : (ReflectliteValue.methodAny (ReflectliteValue.valueError "reflectlite.Value.Type" 0) (fun t _ _ _ => ReflectliteType.toType t) #[.agg #[.pointer (some ⟨8, 94, none⟩), .pointer (some a), .int .u64 150]]).run Tryz.prog w
    = .ok (.iface 150 (.agg #[.pointer (some ⟨8, 94, none⟩)])) w := by kernel_rfl
theorem Ra.methodKind (h : Value) (w : World) : (Go.method 349 150 (.agg #[h]) "Kind").run Tryz.prog w = .ok (145, h) w := by kernel_rfl
theorem Ra.kind27 (w : World) : ((ReflectliteType.abiMethod fun t => (fun a : Nat => Value.int IntKind.u8 (a : Int)) <$> Rtype.kind t) #[.pointer (some ⟨8, 94, none⟩)]).run Tryz.prog w = .ok (.int .u8 22) w := by kernel_rfl
theorem Ra.kind25 (w : World) : ((ReflectliteType.abiMethod fun t => (fun a : Nat => Value.int IntKind.u8 (a : Int)) <$> Rtype.kind t) #[.pointer (some ⟨8, 49, none⟩)]).run Tryz.prog w = .ok (.int .u8 22) w := by kernel_rfl

theorem rlm (z : Sem Value) (f : TypeId → Addr → Nat → Nat → Sem Value) (v : Value) :
    ReflectliteValue.method z f #[v] = (do match ← ReflectliteValue.parts v with | none => z | some (t, a, fl) => f t a fl (fl % 32)) := rfl
theorem Ra.parts27 (a : Addr) (w : World) : (ReflectliteValue.parts (.agg #[.pointer (some ⟨8, 94, none⟩), .pointer (some a), .int .u64 150])).run Tryz.prog w = .ok (some (94, a, 150)) w := by kernel_rfl
theorem Ra.isNil27 (a p : Addr) (W : World) (ha : W.cell? a = some (.pointer (some p))) :
    (ReflectliteValue.method (ReflectliteValue.valueError "reflectlite.Value.IsNil" 0) ReflectliteValue.isNil #[.agg #[.pointer (some ⟨8, 94, none⟩), .pointer (some a), .int .u64 150]]).run Tryz.prog W = .ok (.bool false) W := by
  rw [rlm]
  simp only [Sem.run_bind, Ra.parts27, Result.andThen]
  simp [ReflectliteValue.isNil, loadVar, isAgg, underlying, Tryz.underlying94, ha, Result.andThen]

theorem Ra.methodElem (h : Value) (w : World) : (Go.method 349 150 (.agg #[h]) "Elem").run Tryz.prog w = .ok (157, .agg #[h]) w := by kernel_rfl
theorem Ra.methodImplements (h : Value) (w : World) : (Go.method 349 150 (.agg #[h]) "Implements").run Tryz.prog w = .ok (158, .agg #[h]) w := by kernel_rfl
theorem Ra.methodAssignableTo (h : Value) (w : World) : (Go.method 349 150 (.agg #[h]) "AssignableTo").run Tryz.prog w = .ok (155, .agg #[h]) w := by kernel_rfl
theorem Ra.elem27 (w : World) : (ReflectliteType.method ReflectliteType.elem #[.agg #[.pointer (some ⟨8, 94, none⟩)]]).run Tryz.prog w = .ok (.iface 150 (.agg #[.pointer (some ⟨8, 49, none⟩)])) w := by kernel_rfl
theorem Ra.implements25 (w : World) : (ReflectliteType.relation "Implements" ReflectliteType.implements_ #[.agg #[.pointer (some ⟨8, 49, none⟩)], .iface 150 (.agg #[.pointer (some ⟨8, 26, none⟩)])]).run Tryz.prog w = .ok (.bool true) w := by kernel_rfl
theorem Ra.typeOf25 (v : Value) (w : World) : (ReflectliteType.typeOf #[.iface 49 v]).run Tryz.prog w = .ok (.iface 150 (.agg #[.pointer (some ⟨8, 49, none⟩)])) w := by kernel_rfl
theorem Ra.assignable25 (w : World) : (ReflectliteType.relation "AssignableTo" ReflectliteType.assignableTo #[.agg #[.pointer (some ⟨8, 49, none⟩)], .iface 150 (.agg #[.pointer (some ⟨8, 49, none⟩)])]).run Tryz.prog w = .ok (.bool true) w := by kernel_rfl
theorem Ra.valueOf25 (e : Addr) (w : World) : (ReflectliteValue.unpack (.iface 49 (.pointer (some e)))).run Tryz.prog w
    = .ok (.agg #[.pointer (some ⟨8, 49, none⟩), .pointer (some ⟨w.heap.size, 0, none⟩), .int .u64 150]) (w.alloc (.cells #[.pointer (some e)] 49)) := by kernel_rfl

theorem Ra.elemOf27 (w : World) : (Rtype.elem? 94).run Tryz.prog w = .ok (some 49) w := by kernel_rfl
theorem Ra.mk25 (p : Addr) (w : World) : (ReflectliteValue.mk 49 p ReflectliteValue.flagAddr).run Tryz.prog w = .ok (.agg #[.pointer (some ⟨8, 49, none⟩), .pointer (some p), .int .u64 406]) w := by kernel_rfl
theorem Ra.elemV27 (a p : Addr) (W : World) (ha : W.cell? a = some (.pointer (some p))) :
    (ReflectliteValue.method (ReflectliteValue.valueError "reflectlite.Value.Elem" 0) ReflectliteValue.elem #[.agg #[.pointer (some ⟨8, 94, none⟩), .pointer (some a), .int .u64 150]]).run Tryz.prog W
      = .ok (.agg #[.pointer (some ⟨8, 49, none⟩), .pointer (some p), .int .u64 406]) W := by
  rw [rlm]
  simp only [Sem.run_bind, Ra.parts27, Result.andThen]
  simp [ReflectliteValue.elem, loadVar, isAgg, underlying, Tryz.underlying94, ha, Result.andThen, Ra.elemOf27, Ra.mk25]
theorem rls (v x : Value) : ReflectliteValue.set #[v, x] = (do
    let (some (dst, a, fl), some (src, b, _)) := (← ReflectliteValue.parts v, ← ReflectliteValue.parts x)
      | unsupported (.noEntry "extern/(internal/reflectlite.Value).Set.zeroValue")
    if fl / ReflectliteValue.flagAddr % 2 == 0 then unsupported (.noEntry "extern/(internal/reflectlite.Value).Set.unaddressable")
    let val ← loadVar src b
    if ← Rtype.directlyAssignable dst src then storeVar dst a val
    else if ← Rtype.implements dst src then
      if (← Rtype.kind src) == 20 then
        match val with
        | .nilIface => unsupported (.noEntry "extern/reflectlite: a nil value of one interface type handed on as a value of another")
        | _ => storeVar dst a val
      else storeVar dst a (.iface src val)
    else panicString ("reflectlite.Set: value of type " ++ (← Rtype.spelt src) ++ " is not assignable to type " ++ (← Rtype.spelt dst))
    pure (.tuple #[])) := rfl
theorem Ra.parts25a (a : Addr) (w : World) : (ReflectliteValue.parts (.agg #[.pointer (some ⟨8, 49, none⟩), .pointer (some a), .int .u64 406])).run Tryz.prog w = .ok (some (49, a, 406)) w := by kernel_rfl
theorem Ra.parts25 (a : Addr) (w : World) : (ReflectliteValue.parts (.agg #[.pointer (some ⟨8, 49, none⟩), .pointer (some a), .int .u64 150])).run Tryz.prog w = .ok (some (49, a, 150)) w := by kernel_rfl
theorem Ra.direct25 (w : World) : (Rtype.directlyAssignable 49 49).run Tryz.prog w = .ok true w := by kernel_rfl
theorem Ra.size25 (w : World) : (sizeOf 49).run Tryz.prog w = .ok 1 w := by kernel_rfl
theorem Ra.set25 (ta b e : Addr) (old : Value) (W : World) (hb : W.cell? b = some (.pointer (some e))) (ht : W.cell? ta = some old) (hf : W.frozen? ta = false) :
    (ReflectliteValue.set #[.agg #[.pointer (some ⟨8, 49, none⟩), .pointer (some ta), .int .u64 406], .agg #[.pointer (some ⟨8, 49, none⟩), .pointer (some b), .int .u64 150]]).run Tryz.prog W
      = .ok (.tuple #[]) (W.setCell ta (.pointer (some e))) := by
  rw [rls]
  simp only [Sem.run_bind, Ra.parts25a, Ra.parts25, Result.andThen]
  simp [ReflectliteValue.flagAddr, loadVar, isAgg, underlying, Tryz.underlying49, hb, Result.andThen, Ra.direct25, storeVar, Value.cells, storeCells, Addr.add]
  rw [run_store Tryz.prog W ta _ _ (by rfl)]
  simp [ht, hf]

set_option maxHeartbeats 4000000 in
theorem as_hit (e t : Addr) (old : Value) (w : World) (hg : w.cell? ⟨0, 0, none⟩ = some (.iface 150 (.agg #[.pointer (some ⟨8, 26, none⟩)]))) (ht0 : w.cell? t = some old) (hf0 : w.frozen? t = false) :
    Calls Tryz.prog 38 #[.iface 49 (.pointer (some e)), .iface 94 (.pointer (some t))] w fun ev w' => ev = .returned (.bool true) ∧ w' = ((((w.alloc (.cells #[.pointer (some t)] 94)).alloc (.cells #[.pointer (some ⟨8, 94, none⟩), .pointer (some ⟨w.heap.size, 0, none⟩), .int .u64 150] 124)).alloc (.cells #[.pointer (some ⟨8, 94, none⟩), .pointer (some ⟨w.heap.size, 0, none⟩), .int .u64 150] 124)).alloc (.cells #[.pointer (some e)] 49)).setCell t (.pointer (some e)) := by
  have h6 := @run_callFunc_extern Tryz.prog 55 _ (fun args => ReflectliteValue.unpack (args.getD 0 (.tuple #[]))) Tryz.func55 (by kernel_rfl) (by kernel_rfl) (by kernel_rfl) (by kernel_rfl)
  have h7 := @run_callFunc_extern Tryz.prog 56 _ (ReflectliteValue.methodAny (ReflectliteValue.valueError "reflectlite.Value.Type" 0) (fun t _ _ _ => ReflectliteType.toType t)) Tryz.func56 (by kernel_rfl) (by kernel_rfl) (by kernel_rfl) (by kernel_rfl)
  have h8 := @run_callFunc_extern Tryz.prog 57 _ (ReflectliteValue.method (ReflectliteValue.valueError "reflectlite.Value.IsNil" 0) ReflectliteValue.isNil) Tryz.func57 (by kernel_rfl) (by kernel_rfl) (by kernel_rfl) (by kernel_rfl)
  have h27 := @run_callFunc_extern Tryz.prog 145 _ (ReflectliteType.abiMethod fun t => do pure (.int .u8 (← Rtype.kind t))) Tryz.func145 (by kernel_rfl) (by kernel_rfl) (by kernel_rfl) (by kernel_rfl)
  have h37 := @run_callFunc_extern Tryz.prog 157 _ (ReflectliteType.method ReflectliteType.elem) Tryz.func157 (by kernel_rfl) (by kernel_rfl) (by kernel_rfl) (by kernel_rfl)
  have h38 := @run_callFunc_extern Tryz.prog 158 _ (ReflectliteType.relation "Implements" ReflectliteType.implements_) Tryz.func158 (by kernel_rfl) (by kernel_rfl) (by kernel_rfl) (by kernel_rfl)
  have h10 := @run_callFunc_extern Tryz.prog 73 _ ReflectliteType.typeOf Tryz.func73 (by kernel_rfl) (by kernel_rfl) (by kernel_rfl) (by kernel_rfl)
  have h35 := @run_callFunc_extern Tryz.prog 155 _ (ReflectliteType.relation "AssignableTo" ReflectliteType.assignableTo) Tryz.func155 (by kernel_rfl) (by kernel_rfl) (by kernel_rfl) (by kernel_rfl)
  have h11 := @run_callFunc_extern Tryz.prog 74 _ (ReflectliteValue.method (ReflectliteValue.valueError "reflectlite.Value.Elem" 0) ReflectliteValue.elem) Tryz.func74 (by kernel_rfl) (by kernel_rfl) (by kernel_rfl) (by kernel_rfl)
  have h12 := @run_callFunc_extern Tryz.prog 75 _ ReflectliteValue.set Tryz.func75 (by kernel_rfl) (by kernel_rfl) (by kernel_rfl) (by kernel_rfl)
  have tO := Ra.typeOf25
  have mA := Ra.methodAssignableTo
  have a25 := Ra.assignable25
  have v25 := Ra.valueOf25
  have f6 := Ra.valueOf27
  have f7 := Ra.type27
  have mK := Ra.methodKind
  have mE := Ra.methodElem
  have mI := Ra.methodImplements
  have k27 := Ra.kind27
  have k25 := Ra.kind25
  have e27 := Ra.elem27
  have i25 := Ra.implements25
  have n8 := Ra.isNil27 ⟨w.heap.size, 0, none⟩ t ((w.alloc (.cells #[.pointer (some t)] 94)).alloc (.cells #[.pointer (some ⟨8, 94, none⟩), .pointer (some ⟨w.heap.size, 0, none⟩), .int .u64 150] 124)) (by simp)
  have hlt : 0 < w.heap.size := by
    rcases Nat.lt_or_ge 0 w.heap.size with h | h
    · exact h
    · simp [World.cell?, Array.getElem?_eq_none h] at hg
  have hg2 : ((w.alloc (.cells #[.pointer (some t)] 94)).alloc (.cells #[.pointer (some ⟨8, 94, none⟩), .pointer (some ⟨w.heap.size, 0, none⟩), .int .u64 150] 124)).cell? ⟨0, 0, none⟩ = some (.iface 150 (.agg #[.pointer (some ⟨8, 26, none⟩)])) := by
    rw [World.cell?_alloc_lt _ _ ⟨0, 0, none⟩ (by simp), World.cell?_alloc_lt _ _ ⟨0, 0, none⟩ hlt]; exact hg
  have htl : t.block < w.heap.size := by
    rcases Nat.lt_or_ge t.block w.heap.size with h | h
    · exact h
    · simp [World.cell?, Array.getElem?_eq_none h] at ht0
  have el := Ra.elemV27 ⟨w.heap.size, 0, none⟩ t (((w.alloc (.cells #[.pointer (some t)] 94)).alloc (.cells #[.pointer (some ⟨8, 94, none⟩), .pointer (some ⟨w.heap.size, 0, none⟩), .int .u64 150] 124)).alloc (.cells #[.pointer (some ⟨8, 94, none⟩), .pointer (some ⟨w.heap.size, 0, none⟩), .int .u64 150] 124)) (by rw [World.cell?_alloc_lt _ _ ⟨w.heap.size, 0, none⟩ (by simp; omega)]; simp)
  have st := Ra.set25 t ⟨w.heap.size + 1 + 1 + 1, 0, none⟩ e old ((((w.alloc (.cells #[.pointer (some t)] 94)).alloc (.cells #[.pointer (some ⟨8, 94, none⟩), .pointer (some ⟨w.heap.size, 0, none⟩), .int .u64 150] 124)).alloc (.cells #[.pointer (some ⟨8, 94, none⟩), .pointer (some ⟨w.heap.size, 0, none⟩), .int .u64 150] 124)).alloc (.cells #[.pointer (some e)] 49))
    (by rw [World.cell?_alloc_at _ _ _ _ (by simp)]; rfl)
    (by rw [World.cell?_alloc_lt _ _ t (by simp; omega), World.cell?_alloc_lt _ _ t (by simp; omega), World.cell?_alloc_lt _ _ t (by simp; omega), World.cell?_alloc_lt _ _ t htl]; exact ht0)
    (by rw [World.frozen?_alloc_old _ _ t (by simp; omega), World.frozen?_alloc_old _ _ t (by simp; omega), World.frozen?_alloc_old _ _ t (by simp; omega), World.frozen?_alloc_old _ _ t (Nat.ne_of_lt htl)]; exact hf0)
  go_enter Tryz.func38, Tryz.ntmps38
  go_wp2
  refine wp_loop_rounds 1 ?_
  rw [rounds_succ]
  go_wp2
  go_ret
  exact ⟨rfl, rfl⟩
end Go.Proofs.YthfchelkfbboaaaGreatDoor.Pr

namespace Go.Proofs.YthfchelkfbboaaaGreatDoor.Pr
open Go.ChangeShapes Go.WideShapes Go.ChangeAt Go.RowKit
open _root_.Go.Proofs.YthfchelkfbboaaaGreatDoor.Op
set_option maxRecDepth 20000

theorem as_any (q : Nat) (t : Addr) (old : Value) (w : World) (hg : w.cell? ⟨0, 0, none⟩ = some (.iface 150 (.agg #[.pointer (some ⟨8, 26, none⟩)]))) (ht0 : w.cell? t = some old) (hf0 : w.frozen? t = false) :
    Calls Tryz.prog 38 #[.iface 49 (.pointer (some ⟨q, 0, none⟩)), .iface 94 (.pointer (some t))] w fun ev w' => ev = .returned (.bool true) ∧ ∃ w1, Below w.heap.size w w1 ∧ w' = w1.setCell t (.pointer (some ⟨q, 0, none⟩)) :=
  (as_hit ⟨q, 0, none⟩ t old w hg ht0 hf0).mono fun _ _ h => ⟨h.1, _, by go_grown, h.2⟩

def fltV (c a : Int) (s : ByteArray) : Value := .agg #[.int .i64 c, .int .i64 a, .string s]

theorem fault_nil (w : World) : Calls Tryz.prog 17 #[.nilIface] w fun e w' => e = .returned (.tuple #[fltV 0 0 ⟨#[]⟩, .bool true]) ∧ Below w.heap.size w w' := by
  go_enter Tryz.func17, Tryz.ntmps17
  go_wp2
  go_returns
  exact ⟨rfl, (Below.refl _ _).alloc (Nat.le_refl _) _⟩
/-- A fault that is asked for. -/
structure Fy (w V : World) (q : Nat) (c a : Int) (s : ByteArray) : Prop where
  r : At V w.heap.size #[.int .i64 0, .int .i64 0, .string ⟨#[]⟩]
  p : At V (w.heap.size + 1) #[.pointer (some ⟨q, 0, none⟩)]
  f0 : V.cell? ⟨q, 0, none⟩ = some (.int .i64 c)
  f1 : V.cell? ⟨q, 1, none⟩ = some (.int .i64 a)
  f2 : V.cell? ⟨q, 2, none⟩ = some (.string s)
  b : Below w.heap.size w V
theorem Fy.start {w w1 : World} {q : Nat} {c a : Int} {s : ByteArray} (hq : q < w.heap.size) (c0 : w.cell? ⟨q, 0, none⟩ = some (.int .i64 c)) (c1 : w.cell? ⟨q, 1, none⟩ = some (.int .i64 a)) (c2 : w.cell? ⟨q, 2, none⟩ = some (.string s)) (hb1 : Below ((w.alloc (.cells #[.int .i64 0, .int .i64 0, .string ⟨#[]⟩] 62)).alloc (.cells #[.pointer none] 49)).heap.size ((w.alloc (.cells #[.int .i64 0, .int .i64 0, .string ⟨#[]⟩] 62)).alloc (.cells #[.pointer none] 49)) w1) : Fy w (w1.setCell ⟨w.heap.size + 1, 0, none⟩ (.pointer (some ⟨q, 0, none⟩))) q c a s := by
  obtain ⟨a1, a2, hb, _, _⟩ := two_new w _ _ 62 49 hb1
  have k : ∀ j, (w1.setCell ⟨w.heap.size + 1, 0, none⟩ (.pointer (some ⟨q, 0, none⟩))).cell? ⟨q, j, none⟩ = w.cell? ⟨q, j, none⟩ := fun j => by rw [set_far _ (by omega)]; exact (bcell hb).1 q j hq
  exact ⟨at_fr a1 ((Fr.refl (One (w.heap.size + 1)) w1).setCell (.inr rfl) _ _) (by show ¬ _ = _; omega), at_set a2 (j := 0) (by simp) _, (k 0).trans c0, (k 1).trans c1, (k 2).trans c2, hb.setCell (by show w.heap.size ≤ w.heap.size + 1; omega) _⟩

set_option maxHeartbeats 1000000 in
theorem fault_some (q : Nat) (c : Int) (f : Wd') (w : World) (hV : Vars w) (hF : FaultAt w q c f) (hc : c ≠ 0) :
    Calls Tryz.prog 17 #[.iface 49 (.pointer (some ⟨q, 0, none⟩))] w fun e w' => e = .returned (.tuple #[fltV c (f.1 : Int) ⟨f.2.toArray⟩, .bool true]) ∧ Below w.heap.size w w' := by
  have het := hV.et
  have h9 : 9 ≤ w.heap.size := hV.e.big
  have hq := hF.lt
  have c0 : w.cell? ⟨q, 0, none⟩ = some (.int .i64 c) := by rw [Lib.cell_of_heap hF]; rfl
  have c1 : w.cell? ⟨q, 1, none⟩ = some (.int .i64 (f.1 : Int)) := by rw [Lib.cell_of_heap hF]; rfl
  have c2 : w.cell? ⟨q, 2, none⟩ = some (.string ⟨f.2.toArray⟩) := by rw [Lib.cell_of_heap hF]; rfl
  generalize (f.1 : Int) = a at *
  generalize (⟨f.2.toArray⟩ : ByteArray) = s at *
  have hcb : (c == 0) = false := by simpa using hc
  have hcb : (c != 0) = true := by simpa using hc
  clear hV hF
  have hA : Hid _ := as_any q ⟨w.heap.size + 1, 0, none⟩ (.pointer none) ((w.alloc (.cells #[.int .i64 0, .int .i64 0, .string ⟨#[]⟩] 62)).alloc (.cells #[.pointer none] 49)) (by rw [World.cell?_alloc_lt _ _ ⟨0, 0, none⟩ (by simp), World.cell?_alloc_lt _ _ ⟨0, 0, none⟩ (by show 0 < w.heap.size; omega)]; exact het) (by simp) (by simp)
  have HS : Hid (∀ w1, Below ((w.alloc (.cells #[.int .i64 0, .int .i64 0, .string ⟨#[]⟩] 62)).alloc (.cells #[.pointer none] 49)).heap.size ((w.alloc (.cells #[.int .i64 0, .int .i64 0, .string ⟨#[]⟩] 62)).alloc (.cells #[.pointer none] 49)) w1 → Fy w (w1.setCell ⟨w.heap.size + 1, 0, none⟩ (.pointer (some ⟨q, 0, none⟩))) q c a s) := fun w1 h => Fy.start hq c0 c1 c2 h
  clear het c0 c1 c2
  go_enter Tryz.func17, Tryz.ntmps17
  go_wp2_with (first | (go_at_call 38; refine Calls.mono hA.out ?_; rintro e w3 ⟨rfl, w1, hb1, hw⟩; have hfy := HS.out w1 hb1; rw [← hw] at hfy; clear hw hb1 hA HS; have g0 := hfy.p.c 0 _ rfl; have m0 := hfy.f0; have m1 := hfy.f1; have m2 := hfy.f2; obtain ⟨r0, r1, r2⟩ := hfy.r.k3; have rf := hfy.r.f; have HB : Hid _ := hfy.b; have HR : Hid _ := hfy.r; clear hfy))
  have hqne : q ≠ w.heap.size := by omega
  go_region_held3 (fun w' => w'.cell? ⟨w.heap.size + 1, 0, none⟩ = some (.pointer (some ⟨q, 0, none⟩)) ∧ w'.cell? ⟨q, 0, none⟩ = some (.int .i64 c) ∧ w'.cell? ⟨q, 1, none⟩ = some (.int .i64 a) ∧ w'.cell? ⟨q, 2, none⟩ = some (.string s))
    (first | (go_keep; done) | ((try dsimp only); (refine ⟨?_, ?_, ?_, ?_⟩) <;> exact ((set_far _ (by omega)).trans ((set_far _ (by omega)).trans (set_far _ (by omega)))).trans (by assumption))) (fail)
  go_wp2
  refine bodyPost_ret (v := .tuple #[.agg #[.int .i64 c, .int .i64 a, .string s], .bool true]) (by simp [results, Tryz.results17, go_sem, r0, r1, r2]) rfl ⟨rfl, ?_⟩
  refine Below.drew ?_
  iterate 3 (refine Below.setCell (B := w.heap.size) (p := ⟨w.heap.size, _, none⟩) ?_ (Nat.le_refl _) _)
  exact HB.out

/-- Told: the error is this fault. -/
theorem told_some (q : Nat) (c : Int) (f : Wd') (w : World) (hV : Vars w) (hF : FaultAt w q c f) (hc : c ≠ 0) :
    Calls Tryz.prog 8 #[.iface 49 (.pointer (some ⟨q, 0, none⟩)), fltV c (f.1 : Int) ⟨f.2.toArray⟩] w fun e w' => e = .returned (.bool true) ∧ Below w.heap.size w w' := by
  have hf := fault_some q c f (w.alloc (.cells #[.int .i64 c, .int .i64 (f.1 : Int), .string ⟨f.2.toArray⟩] 31)) (hV.up ((Below.refl _ _).alloc (Nat.le_refl _) _)) (by unfold FaultAt; rw [((Below.refl _ _).alloc (Nat.le_refl _) _).block q hF.lt]; exact hF) hc
  unfold fltV at hf ⊢
  generalize (f.1 : Int) = a at *
  generalize (⟨f.2.toArray⟩ : ByteArray) = s at *
  have h9 : 9 ≤ w.heap.size := hV.e.big
  have HF : Hid _ := hf
  have hcb : (c == 0) = false := by simpa using hc
  clear hf hV hF
  go_enter Tryz.func8, Tryz.ntmps8
  go_wp2_with (first | (go_at_call 17; refine Calls.mono HF.out ?_; rintro e w1 ⟨rfl, hb⟩; obtain ⟨a1, hb0, hz⟩ := one_new w _ _ hb; clear HF hb; have HB : Hid _ := hb0; clear hb0; obtain ⟨r0, r1, r2⟩ := a1.k3; clear a1))
  go_quiet (fail)
  go_wp2
  go_ret
  exact ⟨rfl, drewN_below (HB.out.alloc HB.out.size _) nq⟩
/-- Told: there is no error. -/
theorem told_nil (w : World) : Calls Tryz.prog 8 #[.nilIface, fltV 0 0 ⟨#[]⟩] w fun e w' => e = .returned (.bool true) ∧ Below w.heap.size w w' := by
  have hf := fault_nil (w.alloc (.cells #[.int .i64 0, .int .i64 0, .string ⟨#[]⟩] 31))
  unfold fltV at hf ⊢
  have HF : Hid _ := hf
  clear hf
  go_enter Tryz.func8, Tryz.ntmps8
  go_wp2_with (first | (go_at_call 17; refine Calls.mono HF.out ?_; rintro e w1 ⟨rfl, hb⟩; obtain ⟨a1, hb0, hz⟩ := one_new w _ _ hb; clear HF hb; have HB : Hid _ := hb0; clear hb0; obtain ⟨r0, r1, r2⟩ := a1.k3; clear a1))
  go_quiet (fail)
  go_wp2
  go_ret
  exact ⟨rfl, drewN_below (HB.out.alloc HB.out.size _) nq⟩
end Go.Proofs.YthfchelkfbboaaaGreatDoor.Pr
