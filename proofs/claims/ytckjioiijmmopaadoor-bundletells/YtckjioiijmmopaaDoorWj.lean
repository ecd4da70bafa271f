/- What the law's own wakes answers: true. Conditions: the table's bounds lie in memory. -/
import Derived.Test.YtckjioiijmmopaaDoorWh
namespace Go.Proofs.YtckjioiijmmopaaDoor.Bu
open Go.ChangeShapes Go.WideShapes Go.ChangeAt Go.RowKit
open _root_.Go.Proofs.YtckjioiijmmopaaDoor.Op
open _root_.Go.Proofs.YtckjioiijmmopaaDoor.Tb (Tab TabAt Bnds four tabAt_new ckR)
open _root_.Go.Proofs.YtckjioiijmmopaaDoor.So
set_option maxRecDepth 20000

def wt0 : Tab := ⟨fun k => if k = 2 then 2 else 1, fun _ => 1, fun _ => 1, 0⟩
def wx0 : Bn := ⟨fun k => if k = 0 then [⟨2, 1, 2, 3, 0⟩] else if k = 2 then [⟨15, 4, 5, 0, -1⟩] else []⟩
theorem wt0_ok : wt0.ok = true := by decide
theorem wx0_wf : allW wt0 [wx0] = true := by decide +kernel
theorem wx0_enc : encW wt0 [wx0] = [200770, 0, 9007199252654351, 0, 0] := by decide +kernel
theorem wt0_ofs : ofs wt0 4 = 5 := by decide

theorem enc_in {t : Tab} {ls : List Bn} (hok : ∀ x ∈ ls, x.Ok) (hw : allW t ls = true) : ∀ y ∈ encW t ls, 0 ≤ y ∧ y < 18446744073709551616 := by
  intro y hy
  obtain ⟨x, hx, hy⟩ := List.mem_flatMap.1 hy
  have hxw := wfK_iff.1 (List.all_eq_true.1 hw x hx)
  have key : ∀ n, n ≤ 4 → y ∈ wBk t x n → 0 ≤ y ∧ y < 18446744073709551616 := by
    intro n
    induction n with
    | zero => intro _ h; cases h
    | succ n ih =>
      intro hn h
      rcases List.mem_append.1 h with h | h
      · exact ih (by omega) h
      · rcases List.mem_append.1 h with h | h
        · obtain ⟨o, ho, rfl⟩ := List.mem_map.1 h
          have hf := isB_fld (hok x hx n (by omega) o ho) (List.all_eq_true.1 (clsB_parts (hxw n (by omega))).2 o ho)
          have := hf.lo
          have := hf.hi
          omega
        · obtain ⟨-, rfl⟩ := List.mem_replicate.1 h
          omega
  exact key 4 (Nat.le_refl _) hy
theorem Wl.ws {W : World} {b n : Nat} {ws : List Int} (h : Wl W b n ws) (hok : ∀ y ∈ ws, 0 ≤ y ∧ y < 18446744073709551616) : Ws W (some ⟨b, 0, none⟩) n (fun j => ws.getD j 0) := by
  refine ⟨fun j _ => ?_, fun _ => ⟨b, 0, rfl, h.lt, fun j hj => by rw [Nat.zero_add]; exact h.c j hj⟩⟩
  rw [List.getD_eq_getElem?_getD]
  cases e : ws[j]? with
  | none => simp
  | some y => exact hok y (List.mem_of_getElem? e)
theorem bs_ok {W : World} {ao : Option Addr} {ls : List Bn} (h : BsAt W ao ls) : ∀ x ∈ ls, x.Ok := by
  intro x hx
  obtain ⟨i, hi, rfl⟩ := List.mem_iff_getElem.1 hx
  obtain ⟨b, f, -, -, hc⟩ := h.is (by omega)
  obtain ⟨p, -, h2⟩ := hc i hi
  exact fun k hk => (h2.o k hk).ok

def wpb (s : Nat) : Pb := ⟨fun k => if k = 0 then some ⟨s + 1 + 1, 0, none⟩ else if k = 2 then some ⟨s + 1 + 1 + 1, 0, none⟩ else none, fun k => if k = 0 then 1 else if k = 2 then 1 else 0⟩
/-- What wakes has laid. -/
structure Wk0 (w W : World) : Prop where
  t : TabAt W w.heap.size wt0
  b : At W (w.heap.size + 1) #[.slice (some ⟨w.heap.size + 1 + 1, 0, none⟩) 1 1, .slice none 0 0, .slice (some ⟨w.heap.size + 1 + 1 + 1, 0, none⟩) 1 1, .slice none 0 0]
  x : BnIn W wx0 (wpb w.heap.size)
  up : Below w.heap.size w W
theorem one_op {W : World} {b : Nat} {o : O} (h : At W b o.cells) (ho : o.Ok) : OpsAt W (some ⟨b, 0, none⟩) [o] :=
  ⟨fun x hx => by rw [List.mem_singleton.1 hx]; exact ho, by simp, fun _ => ⟨b, 0, rfl, h.lt, fun i hi => by
    have e : i = 0 := by simpa using hi
    subst e
    exact ⟨h.c 0 _ rfl, h.c 1 _ rfl, h.c 2 _ rfl, h.c 3 _ rfl, h.c 4 _ rfl⟩⟩⟩
theorem no_ops (W : World) (a : Option Addr) : OpsAt W a [] := ⟨by simp, by simp, fun h => by simp at h⟩
theorem wk0_start (w : World) : Wk0 w ((((w.alloc (.cells #[.int .i64 1, .int .i64 1, .int .i64 2, .int .i64 1, .int .i64 1, .int .i64 1, .int .i64 1, .int .i64 1, .int .i64 1, .int .i64 1, .int .i64 1, .int .i64 1, .int .i64 0] 26)).alloc (.cells #[.slice (some ⟨w.heap.size + 1 + 1, 0, none⟩) 1 1, .slice none 0 0, .slice (some ⟨w.heap.size + 1 + 1 + 1, 0, none⟩) 1 1, .slice none 0 0] 36)).alloc (.cells #[.int .i8 2, .int .u8 1, .int .u8 2, .int .u8 3, .int .i64 0] 53)).alloc (.cells #[.int .i8 15, .int .u8 4, .int .u8 5, .int .u8 0, .int .i64 (-1)] 53)) := by
  have t1 : TabAt (w.alloc (.cells #[.int .i64 1, .int .i64 1, .int .i64 2, .int .i64 1, .int .i64 1, .int .i64 1, .int .i64 1, .int .i64 1, .int .i64 1, .int .i64 1, .int .i64 1, .int .i64 1, .int .i64 0] 26)) w.heap.size wt0 := tabAt_new w wt0 26
  have b1 := At.new (w.alloc (.cells #[.int .i64 1, .int .i64 1, .int .i64 2, .int .i64 1, .int .i64 1, .int .i64 1, .int .i64 1, .int .i64 1, .int .i64 1, .int .i64 1, .int .i64 1, .int .i64 1, .int .i64 0] 26)) #[.slice (some ⟨w.heap.size + 1 + 1, 0, none⟩) 1 1, .slice none 0 0, .slice (some ⟨w.heap.size + 1 + 1 + 1, 0, none⟩) 1 1, .slice none 0 0] 36
  have o1 := At.new ((w.alloc (.cells #[.int .i64 1, .int .i64 1, .int .i64 2, .int .i64 1, .int .i64 1, .int .i64 1, .int .i64 1, .int .i64 1, .int .i64 1, .int .i64 1, .int .i64 1, .int .i64 1, .int .i64 0] 26)).alloc (.cells #[.slice (some ⟨w.heap.size + 1 + 1, 0, none⟩) 1 1, .slice none 0 0, .slice (some ⟨w.heap.size + 1 + 1 + 1, 0, none⟩) 1 1, .slice none 0 0] 36)) #[.int .i8 2, .int .u8 1, .int .u8 2, .int .u8 3, .int .i64 0] 53
  have o2 := At.new (((w.alloc (.cells #[.int .i64 1, .int .i64 1, .int .i64 2, .int .i64 1, .int .i64 1, .int .i64 1, .int .i64 1, .int .i64 1, .int .i64 1, .int .i64 1, .int .i64 1, .int .i64 1, .int .i64 0] 26)).alloc (.cells #[.slice (some ⟨w.heap.size + 1 + 1, 0, none⟩) 1 1, .slice none 0 0, .slice (some ⟨w.heap.size + 1 + 1 + 1, 0, none⟩) 1 1, .slice none 0 0] 36)).alloc (.cells #[.int .i8 2, .int .u8 1, .int .u8 2, .int .u8 3, .int .i64 0] 53)) #[.int .i8 15, .int .u8 4, .int .u8 5, .int .u8 0, .int .i64 (-1)] 53
  have e1 : (w.alloc (.cells #[.int .i64 1, .int .i64 1, .int .i64 2, .int .i64 1, .int .i64 1, .int .i64 1, .int .i64 1, .int .i64 1, .int .i64 1, .int .i64 1, .int .i64 1, .int .i64 1, .int .i64 0] 26)).heap.size = w.heap.size + 1 := by simp
  have e2 : ((w.alloc (.cells #[.int .i64 1, .int .i64 1, .int .i64 2, .int .i64 1, .int .i64 1, .int .i64 1, .int .i64 1, .int .i64 1, .int .i64 1, .int .i64 1, .int .i64 1, .int .i64 1, .int .i64 0] 26)).alloc (.cells #[.slice (some ⟨w.heap.size + 1 + 1, 0, none⟩) 1 1, .slice none 0 0, .slice (some ⟨w.heap.size + 1 + 1 + 1, 0, none⟩) 1 1, .slice none 0 0] 36)).heap.size = w.heap.size + 1 + 1 := by simp
  have e3 : (((w.alloc (.cells #[.int .i64 1, .int .i64 1, .int .i64 2, .int .i64 1, .int .i64 1, .int .i64 1, .int .i64 1, .int .i64 1, .int .i64 1, .int .i64 1, .int .i64 1, .int .i64 1, .int .i64 0] 26)).alloc (.cells #[.slice (some ⟨w.heap.size + 1 + 1, 0, none⟩) 1 1, .slice none 0 0, .slice (some ⟨w.heap.size + 1 + 1 + 1, 0, none⟩) 1 1, .slice none 0 0] 36)).alloc (.cells #[.int .i8 2, .int .u8 1, .int .u8 2, .int .u8 3, .int .i64 0] 53)).heap.size = w.heap.size + 1 + 1 + 1 := by simp
  rw [e1] at b1
  rw [e2] at o1
  rw [e3] at o2
  have g : Below w.heap.size w ((((w.alloc (.cells #[.int .i64 1, .int .i64 1, .int .i64 2, .int .i64 1, .int .i64 1, .int .i64 1, .int .i64 1, .int .i64 1, .int .i64 1, .int .i64 1, .int .i64 1, .int .i64 1, .int .i64 0] 26)).alloc (.cells #[.slice (some ⟨w.heap.size + 1 + 1, 0, none⟩) 1 1, .slice none 0 0, .slice (some ⟨w.heap.size + 1 + 1 + 1, 0, none⟩) 1 1, .slice none 0 0] 36)).alloc (.cells #[.int .i8 2, .int .u8 1, .int .u8 2, .int .u8 3, .int .i64 0] 53)).alloc (.cells #[.int .i8 15, .int .u8 4, .int .u8 5, .int .u8 0, .int .i64 (-1)] 53)) := by go_grown
  have g1 : Below (w.heap.size + 1) (w.alloc (.cells #[.int .i64 1, .int .i64 1, .int .i64 2, .int .i64 1, .int .i64 1, .int .i64 1, .int .i64 1, .int .i64 1, .int .i64 1, .int .i64 1, .int .i64 1, .int .i64 1, .int .i64 0] 26)) ((((w.alloc (.cells #[.int .i64 1, .int .i64 1, .int .i64 2, .int .i64 1, .int .i64 1, .int .i64 1, .int .i64 1, .int .i64 1, .int .i64 1, .int .i64 1, .int .i64 1, .int .i64 1, .int .i64 0] 26)).alloc (.cells #[.slice (some ⟨w.heap.size + 1 + 1, 0, none⟩) 1 1, .slice none 0 0, .slice (some ⟨w.heap.size + 1 + 1 + 1, 0, none⟩) 1 1, .slice none 0 0] 36)).alloc (.cells #[.int .i8 2, .int .u8 1, .int .u8 2, .int .u8 3, .int .i64 0] 53)).alloc (.cells #[.int .i8 15, .int .u8 4, .int .u8 5, .int .u8 0, .int .i64 (-1)] 53)) := by go_grown
  refine ⟨t1.below g1 (by omega), (b1.alloc _).alloc _, ⟨four (one_op (o := ⟨2, 1, 2, 3, 0⟩) (o1.alloc _) (by constructor <;> decide)) (no_ops _ _) (one_op (o := ⟨15, 4, 5, 0, -1⟩) o2 (by constructor <;> decide)) (no_ops _ _)⟩, g⟩
theorem wk0_enc (w W : World) (hG : Bnds w) (h : Wk0 w W) : Calls Tryd.prog 7 #[.slice (some ⟨W.heap.size, 0, none⟩) 1 1, .agg #[.int .i64 1, .int .i64 1, .int .i64 2, .int .i64 1, .int .i64 1, .int .i64 1, .int .i64 1, .int .i64 1, .int .i64 1, .int .i64 1, .int .i64 1, .int .i64 1, .int .i64 0]] (W.alloc (.cells #[.slice (some ⟨w.heap.size + 1 + 1, 0, none⟩) 1 1, .slice none 0 0, .slice (some ⟨w.heap.size + 1 + 1 + 1, 0, none⟩) 1 1, .slice none 0 0] 36)) fun e w' => ∃ b, e = .returned (.tuple #[.slice (some ⟨b, 0, none⟩) 5 5, .int .i64 0]) ∧ Ws w' (some ⟨b, 0, none⟩) 5 (fun j => [200770, 0, 9007199252654351, 0, 0].getD j 0) ∧ Below (W.alloc (.cells #[.slice (some ⟨w.heap.size + 1 + 1, 0, none⟩) 1 1, .slice none 0 0, .slice (some ⟨w.heap.size + 1 + 1 + 1, 0, none⟩) 1 1, .slice none 0 0] 36)).heap.size (W.alloc (.cells #[.slice (some ⟨w.heap.size + 1 + 1, 0, none⟩) 1 1, .slice none 0 0, .slice (some ⟨w.heap.size + 1 + 1 + 1, 0, none⟩) 1 1, .slice none 0 0] 36)) w' := by
  have g : Below W.heap.size W (W.alloc (.cells #[.slice (some ⟨w.heap.size + 1 + 1, 0, none⟩) 1 1, .slice none 0 0, .slice (some ⟨w.heap.size + 1 + 1 + 1, 0, none⟩) 1 1, .slice none 0 0] 36)) := by go_grown
  have a := At.new W #[.slice (some ⟨w.heap.size + 1 + 1, 0, none⟩) 1 1, .slice none 0 0, .slice (some ⟨w.heap.size + 1 + 1 + 1, 0, none⟩) 1 1, .slice none 0 0] 36
  have hB : BsAt (W.alloc (.cells #[.slice (some ⟨w.heap.size + 1 + 1, 0, none⟩) 1 1, .slice none 0 0, .slice (some ⟨w.heap.size + 1 + 1 + 1, 0, none⟩) 1 1, .slice none 0 0] 36)) (some ⟨W.heap.size, 0, none⟩) [wx0] := ⟨by simp, fun _ => ⟨W.heap.size, 0, rfl, a.lt, fun i hi => by
    have e : i = 0 := by simpa using hi
    subst e
    exact ⟨wpb w.heap.size, ⟨four (a.c 0 _ rfl) (a.c 1 _ rfl) (a.c 2 _ rfl) (a.c 3 _ rfl)⟩, h.x.below g⟩⟩⟩
  refine (enc_any (some ⟨W.heap.size, 0, none⟩) 1 [wx0] wt0 (W.alloc (.cells #[.slice (some ⟨w.heap.size + 1 + 1, 0, none⟩) 1 1, .slice none 0 0, .slice (some ⟨w.heap.size + 1 + 1 + 1, 0, none⟩) 1 1, .slice none 0 0] 36)) hB (hG.below (h.up.trans (g.mono h.up.size)) hG.big) wt0_ok (by simp)).mono fun e w' he => ?_
  unfold EnOut at he
  rw [wx0_wf, if_pos rfl, wx0_enc, wt0_ofs] at he
  obtain ⟨b, h1, h2, -, h4⟩ := he
  refine ⟨b, h1, h2.ws (by decide), h4⟩
theorem wk0_dec (w W : World) (hG : Bnds w) (h : Below w.heap.size w W) : Calls Tryd.prog 9 #[.slice (some ⟨W.heap.size, 0, none⟩) 3 3, .agg #[.int .i64 1, .int .i64 1, .int .i64 2, .int .i64 1, .int .i64 1, .int .i64 1, .int .i64 1, .int .i64 1, .int .i64 1, .int .i64 1, .int .i64 1, .int .i64 1, .int .i64 0]] (W.alloc (.cells #[.int .u64 1, .int .u64 2, .int .u64 3] 44)) fun e w' => e = .returned (.tuple #[.slice none 0 0, .int .i64 210]) ∧ Below (W.alloc (.cells #[.int .u64 1, .int .u64 2, .int .u64 3] 44)).heap.size (W.alloc (.cells #[.int .u64 1, .int .u64 2, .int .u64 3] 44)) w' :=
  dec_odd _ 3 3 wt0 _ (hG.below (h.alloc h.size _) hG.big) wt0_ok (by decide) (by decide)
theorem wk0_words (w2 : World) (b : Nat) (h : Ws w2 (some ⟨b, 0, none⟩) 5 (fun j => [200770, 0, 9007199252654351, 0, 0].getD j 0)) : Calls Tryd.prog 13 #[.slice (some ⟨b, 0, none⟩) 5 5, .slice (some ⟨w2.heap.size, 0, none⟩) 5 5] (w2.alloc (.cells #[.int .u64 200770, .int .u64 0, .int .u64 9007199252654351, .int .u64 0, .int .u64 0] 44)) fun e w' => e = .returned (.bool true) ∧ Below (w2.alloc (.cells #[.int .u64 200770, .int .u64 0, .int .u64 9007199252654351, .int .u64 0, .int .u64 0] 44)).heap.size (w2.alloc (.cells #[.int .u64 200770, .int .u64 0, .int .u64 9007199252654351, .int .u64 0, .int .u64 0] 44)) w' := by
  have a := At.new w2 #[.int .u64 200770, .int .u64 0, .int .u64 9007199252654351, .int .u64 0, .int .u64 0] 44
  have h2 : Ws (w2.alloc (.cells #[.int .u64 200770, .int .u64 0, .int .u64 9007199252654351, .int .u64 0, .int .u64 0] 44)) (some ⟨w2.heap.size, 0, none⟩) 5 (fun j => [200770, 0, 9007199252654351, 0, 0].getD j 0) := by
    refine ⟨h.ok, fun _ => ⟨w2.heap.size, 0, rfl, a.lt, fun j hj => ?_⟩⟩
    match j, hj with
    | 0, _ => exact a.c 0 _ rfl
    | 1, _ => exact a.c 1 _ rfl
    | 2, _ => exact a.c 2 _ rfl
    | 3, _ => exact a.c 3 _ rfl
    | 4, _ => exact a.c 4 _ rfl
  have := words_any (some ⟨b, 0, none⟩) (some ⟨w2.heap.size, 0, none⟩) 5 5 5 5 _ _ _ (h.below (by go_grown)) h2 (by decide) (by decide)
  rw [eqB_yes (fun _ _ => rfl)] at this
  exact this
set_option maxHeartbeats 1000000 in
theorem wakes_any (w : World) (hG : Bnds w) : Calls Tryd.prog 15 #[] w fun e w' => e = .returned (.bool true) ∧ Below w.heap.size w w' := by
  have HG : Hid (Bnds w) := hG
  have HK : Hid (Wk0 w ((((w.alloc (.cells #[.int .i64 1, .int .i64 1, .int .i64 2, .int .i64 1, .int .i64 1, .int .i64 1, .int .i64 1, .int .i64 1, .int .i64 1, .int .i64 1, .int .i64 1, .int .i64 1, .int .i64 0] 26)).alloc (.cells #[.slice (some ⟨w.heap.size + 1 + 1, 0, none⟩) 1 1, .slice none 0 0, .slice (some ⟨w.heap.size + 1 + 1 + 1, 0, none⟩) 1 1, .slice none 0 0] 36)).alloc (.cells #[.int .i8 2, .int .u8 1, .int .u8 2, .int .u8 3, .int .i64 0] 53)).alloc (.cells #[.int .i8 15, .int .u8 4, .int .u8 5, .int .u8 0, .int .i64 (-1)] 53))) := wk0_start w
  clear hG
  go_enter Tryd.func15, Tryd.ntmps15
  go_upto_region 5 with fail
  generalize ((((w.alloc (.cells #[.int .i64 1, .int .i64 1, .int .i64 2, .int .i64 1, .int .i64 1, .int .i64 1, .int .i64 1, .int .i64 1, .int .i64 1, .int .i64 1, .int .i64 1, .int .i64 1, .int .i64 0] 26)).alloc (.cells #[.slice (some ⟨w.heap.size + 1 + 1, 0, none⟩) 1 1, .slice none 0 0, .slice (some ⟨w.heap.size + 1 + 1 + 1, 0, none⟩) 1 1, .slice none 0 0] 36)).alloc (.cells #[.int .i8 2, .int .u8 1, .int .u8 2, .int .u8 3, .int .i64 0] 53)).alloc (.cells #[.int .i8 15, .int .u8 4, .int .u8 5, .int .u8 0, .int .i64 (-1)] 53)) = W at *
  have HE : Hid _ := wk0_enc w W HG.out HK.out
  have ba := HK.out.b
  have b0 := ba.c 0 _ rfl
  have b1 := ba.c 1 _ rfl
  have b2 := ba.c 2 _ rfl
  have b3 := ba.c 3 _ rfl
  have bl := ba.lt
  clear ba
  have q0 : W.cell? ⟨w.heap.size, 0, none⟩ = some (.int .i64 1) := HK.out.t.cu 0 (by decide)
  have q1 : W.cell? ⟨w.heap.size, 1, none⟩ = some (.int .i64 1) := HK.out.t.cu 1 (by decide)
  have q2 : W.cell? ⟨w.heap.size, 2, none⟩ = some (.int .i64 2) := HK.out.t.cu 2 (by decide)
  have q3 : W.cell? ⟨w.heap.size, 3, none⟩ = some (.int .i64 1) := HK.out.t.cu 3 (by decide)
  have q4 : W.cell? ⟨w.heap.size, 4, none⟩ = some (.int .i64 1) := HK.out.t.cl 0 (by decide)
  have q5 : W.cell? ⟨w.heap.size, 5, none⟩ = some (.int .i64 1) := HK.out.t.cl 1 (by decide)
  have q6 : W.cell? ⟨w.heap.size, 6, none⟩ = some (.int .i64 1) := HK.out.t.cl 2 (by decide)
  have q7 : W.cell? ⟨w.heap.size, 7, none⟩ = some (.int .i64 1) := HK.out.t.cl 3 (by decide)
  have q8 : W.cell? ⟨w.heap.size, 8, none⟩ = some (.int .i64 1) := HK.out.t.cb 0 (by decide)
  have q9 : W.cell? ⟨w.heap.size, 9, none⟩ = some (.int .i64 1) := HK.out.t.cb 1 (by decide)
  have q10 : W.cell? ⟨w.heap.size, 10, none⟩ = some (.int .i64 1) := HK.out.t.cb 2 (by decide)
  have q11 : W.cell? ⟨w.heap.size, 11, none⟩ = some (.int .i64 1) := HK.out.t.cb 3 (by decide)
  have q12 : W.cell? ⟨w.heap.size, 12, none⟩ = some (.int .i64 0) := HK.out.t.cd
  have tl := HK.out.t.lt
  go_wp2_with (first
    | (go_at_call 7; refine Calls.mono HE.out ?_; rintro e w1 ⟨b, rfl, hws, hb1⟩; have HS1 : Hid (Ws w1 (some ⟨b, 0, none⟩) 5 (fun j => [200770, 0, 9007199252654351, 0, 0].getD j 0) ∧ TabAt w1 w.heap.size wt0 ∧ Below w.heap.size w w1) := ⟨hws, (HK.out.t.below ((Below.refl _ _).alloc (Nat.le_refl _) _) HK.out.t.lt).below hb1 (by have := HK.out.t.lt; simp; omega), (HK.out.up.alloc HK.out.up.size _).trans (hb1.mono (by have := HK.out.up.size; simp; omega))⟩; clear hws hb1 b0 b1 b2 b3 bl q0 q1 q2 q3 q4 q5 q6 q7 q8 q9 q10 q11 q12 tl; have r0 : w1.cell? ⟨w.heap.size, 0, none⟩ = some (.int .i64 1) := HS1.out.2.1.cu 0 (by decide); have r1 : w1.cell? ⟨w.heap.size, 1, none⟩ = some (.int .i64 1) := HS1.out.2.1.cu 1 (by decide); have r2 : w1.cell? ⟨w.heap.size, 2, none⟩ = some (.int .i64 2) := HS1.out.2.1.cu 2 (by decide); have r3 : w1.cell? ⟨w.heap.size, 3, none⟩ = some (.int .i64 1) := HS1.out.2.1.cu 3 (by decide); have r4 : w1.cell? ⟨w.heap.size, 4, none⟩ = some (.int .i64 1) := HS1.out.2.1.cl 0 (by decide); have r5 : w1.cell? ⟨w.heap.size, 5, none⟩ = some (.int .i64 1) := HS1.out.2.1.cl 1 (by decide); have r6 : w1.cell? ⟨w.heap.size, 6, none⟩ = some (.int .i64 1) := HS1.out.2.1.cl 2 (by decide); have r7 : w1.cell? ⟨w.heap.size, 7, none⟩ = some (.int .i64 1) := HS1.out.2.1.cl 3 (by decide); have r8 : w1.cell? ⟨w.heap.size, 8, none⟩ = some (.int .i64 1) := HS1.out.2.1.cb 0 (by decide); have r9 : w1.cell? ⟨w.heap.size, 9, none⟩ = some (.int .i64 1) := HS1.out.2.1.cb 1 (by decide); have r10 : w1.cell? ⟨w.heap.size, 10, none⟩ = some (.int .i64 1) := HS1.out.2.1.cb 2 (by decide); have r11 : w1.cell? ⟨w.heap.size, 11, none⟩ = some (.int .i64 1) := HS1.out.2.1.cb 3 (by decide); have r12 : w1.cell? ⟨w.heap.size, 12, none⟩ = some (.int .i64 0) := HS1.out.2.1.cd; have rl := HS1.out.2.1.lt)
    | (go_at_call 9; refine Calls.mono (wk0_dec w w1 HG.out HS1.out.2.2) ?_; rintro e w2 ⟨rfl, hb2⟩; have HS2 : Hid (Ws w2 (some ⟨b, 0, none⟩) 5 (fun j => [200770, 0, 9007199252654351, 0, 0].getD j 0) ∧ Below w.heap.size w w2) := ⟨(HS1.out.1.below ((Below.refl _ _).alloc (Nat.le_refl _) _)).below hb2, (HS1.out.2.2.alloc HS1.out.2.2.size _).trans (hb2.mono (by have := HS1.out.2.2.size; simp; omega))⟩; clear hb2)
    | (go_at_call 13; refine Calls.mono (wk0_words w2 b HS2.out.1) ?_; rintro e w3 ⟨rfl, hb3⟩; have HS3 : Hid (Below w.heap.size w w3) := (HS2.out.2.alloc HS2.out.2.size _).trans (hb3.mono (by have := HS2.out.2.size; simp; omega)); clear hb3))
  go_ret
  exact ⟨rfl, HS3.out⟩
end Go.Proofs.YtckjioiijmmopaaDoor.Bu
