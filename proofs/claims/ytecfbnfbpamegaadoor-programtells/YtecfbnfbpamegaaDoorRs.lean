/- The document's answer on a list of operations (Uses): read off the program by the walk. Conditions: the list lies in memory. -/
import Derived.Test.YtecfbnfbpamegaaDoorPs
import Derived.Test.YtecfbnfbpamegaaDoorRv
namespace Go.Proofs.YtecfbnfbpamegaaDoor.Op
open Go.ChangeShapes Go.WideShapes Go.ChangeAt Go.RowKit
set_option maxRecDepth 20000
open Tb (Tab)

/-- Is it an operation of a class of which there is no unit? -/
def lackO (t : Tab) (o : O) : Bool := clB o.op && (t.u (clV o.op).toNat == 0)
def usesT (t : Tab) (xs : List O) : Bool := xs.any (lackO t)
theorem usesT_yes {t : Tab} {xs : List O} {k : Nat} (h : k < xs.length) (e : lackO t xs[k] = true) : true = usesT t xs := by
  symm; exact List.any_eq_true.2 ⟨_, List.getElem_mem h, e⟩
theorem usesT_no {t : Tab} {xs : List O} (h : ∀ (j : Nat) (hj : j < xs.length), lackO t xs[j] = false) : false = usesT t xs := by
  symm
  refine List.any_eq_false.2 fun o ho => ?_
  obtain ⟨i, hi, rfl⟩ := List.getElem_of_mem ho
  rw [h i hi]; exact Bool.false_ne_true
structure Un (w w1 : World) (t : Tab) : Prop where
  b : Below w.heap.size w w1
  t : At w1 w.heap.size t.cells
theorem Un.go {w w1 w2 : World} {t : Tab} (h : Un w w1 t) (hb : Below w1.heap.size w1 w2) : Un w w2 t :=
  ⟨h.b.trans (hb.mono h.b.size), h.t.below hb h.t.lt⟩

set_option maxHeartbeats 4000000 in
theorem usesT_any (ao : Option Addr) (cap : Nat) (xs : List O) (t : Tab) (w : World) (h : OpsAt w ao xs) :
    Calls Tryd.prog 24 #[.slice ao xs.length cap, t.val] w fun e w' => e = .returned (.bool (usesT t xs)) ∧ Below w.heap.size w w' := by
  have hlen := h.len
  have HP : Hid _ := h
  clear h
  have HS : Hid (Un w (w.alloc (.cells t.cells 27)) t) := ⟨(Below.refl _ _).alloc (Nat.le_refl _) _, At.new _ _ _⟩
  unfold Tab.val
  go_enter Tryd.func24, Tryd.ntmps24
  go_wp2
  generalize w.alloc (.cells t.cells 27) = V at *
  go_loopw [5] (fun i wr => ∃ k : Nat, k ≤ xs.length ∧ i = .int .i64 k ∧ (∀ (j : Nat) (hj : j < xs.length), j < k → lackO t xs[j] = false) ∧ Un w wr t) (fun i _ => xs.length - (intOf i).toNat)
  case atStart => exact ⟨0, by omega, rfl, fun j _ hj => by omega, HS.out⟩
  case round =>
    rename World => wr
    obtain ⟨k, hk, rfl, hok, hun⟩ := hrel
    clear HS
    have HK : Hid _ := hok
    have HU : Hid _ := hun
    by_cases hlt : k < xs.length
    · obtain ⟨b, f, rfl, hz, hx⟩ := HP.out.is (by omega)
      obtain ⟨c0, -, -, -, -⟩ := (hx k hlt).below hun.b hz
      have HC : Hid (∀ w, Calls Tryd.prog 33 #[.int .i8 xs[k].op] w fun e w' => e = .returned (.tuple #[.int .i64 (clV xs[k].op), .bool (clB xs[k].op)]) ∧ Below w.heap.size w w') := fun w => refClass_any _ w
      have HL : Hid (lackO t xs[k] = (clB xs[k].op && (t.u (clV xs[k].op).toNat == 0))) := rfl
      have HI : Hid _ := @clV_in xs[k].op
      clear hx HP hok hun
      generalize clB xs[k].op = g at *
      cases g
      · go_wp2_with (first | (go_at_call 33; refine Calls.mono (HC.out _) ?_; rintro e w2 ⟨rfl, hb⟩; have HU2 : Hid (Un w w2 t) := HU.out.go hb; clear hb))
        go_roundw
        case rel => exact ⟨k + 1, by omega, by go_num, fun j hj hjk => by
          rcases Nat.lt_or_ge j k with h | h
          · exact HK.out j hj h
          · obtain rfl : j = k := by omega
            rw [HL.out]; rfl, HU2.out⟩
        case measure => simp [intOf]; omega
      · obtain ⟨n, hn, en⟩ := HI.out rfl
        rw [en] at HC HL
        rw [Int.toNat_natCast] at HL
        clear HI en
        have hn0 : (0 : Int) ≤ (n : Int) := by omega
        have hn4 : (n : Int) < 4 := by omega
        cases htn : (t.u n == 0)
        · rw [htn] at HL
          go_wp2_with (first | (go_at_call 33; refine Calls.mono (HC.out _) ?_; rintro e w2 ⟨rfl, hb⟩; have HU2 : Hid (Un w w2 t) := HU.out.go hb; have hc : w2.cell? ⟨w.heap.size, n, none⟩ = some (.int .i64 (t.u n)) := Tb.four (p := fun k => w2.cell? ⟨w.heap.size, k, none⟩ = some (.int .i64 (t.u k))) (HU2.out.t.c 0 _ rfl) (HU2.out.t.c 1 _ rfl) (HU2.out.t.c 2 _ rfl) (HU2.out.t.c 3 _ rfl) n hn; have hz2 := HU2.out.t.lt; clear hb))
          go_roundw
          case rel => exact ⟨k + 1, by omega, by go_num, fun j hj hjk => by
            rcases Nat.lt_or_ge j k with h | h
            · exact HK.out j hj h
            · obtain rfl : j = k := by omega
              rw [HL.out]; rfl, HU2.out⟩
          case measure => simp [intOf]; omega
        · rw [htn] at HL
          go_wp2_with (first | (go_at_call 33; refine Calls.mono (HC.out _) ?_; rintro e w2 ⟨rfl, hb⟩; have HU2 : Hid (Un w w2 t) := HU.out.go hb; have hc : w2.cell? ⟨w.heap.size, n, none⟩ = some (.int .i64 (t.u n)) := Tb.four (p := fun k => w2.cell? ⟨w.heap.size, k, none⟩ = some (.int .i64 (t.u k))) (HU2.out.t.c 0 _ rfl) (HU2.out.t.c 1 _ rfl) (HU2.out.t.c 2 _ rfl) (HU2.out.t.c 3 _ rfl) n hn; have hz2 := HU2.out.t.lt; clear hb))
          go_ret
          exact ⟨ret_bool (usesT_yes hlt (by rw [HL.out]; rfl)), HU2.out.b⟩
    · obtain rfl : k = xs.length := by omega
      go_wp2
      go_ret
      exact ⟨ret_bool (usesT_no fun j hj => hok j hj hj), HU.out.b⟩
end Go.Proofs.YtecfbnfbpamegaaDoor.Op
