/- Which classes a program uses (classes), read off the program by the walk. Conditions: the program lies in memory. -/
import Derived.Test.YtecfbnfbpamegaaDoorPk
namespace Go.Proofs.YtecfbnfbpamegaaDoor.Op
open Go.ChangeShapes Go.WideShapes Go.ChangeAt Go.RowKit
set_option maxRecDepth 20000

/-- Four bools in a block. -/
structure UAt (w : World) (q : Nat) (u : Nat → Bool) : Prop where
  c : ∀ k : Nat, k < 4 → w.cell? ⟨q, k, none⟩ = some (.bool (u k))
  f : ∀ k : Nat, w.frozen? ⟨q, k, none⟩ = false
  lt : q < w.heap.size
theorem UAt.below {w w' : World} {q B : Nat} {u : Nat → Bool} (h : UAt w q u) (hb : Below B w w') (z : q < B) : UAt w' q u :=
  ⟨fun k hk => by rw [(bcell hb).1 _ _ z]; exact h.c k hk, fun k => by rw [(bcell hb).2 _ _ z]; exact h.f k, Nat.lt_of_lt_of_le h.lt hb.size⟩
theorem UAt.of {w : World} {q : Nat} {u : Nat → Bool} (h : At w q #[.bool (u 0), .bool (u 1), .bool (u 2), .bool (u 3)]) : UAt w q u :=
  ⟨fun k hk => match k, hk with | 0, _ => h.c 0 _ rfl | 1, _ => h.c 1 _ rfl | 2, _ => h.c 2 _ rfl | 3, _ => h.c 3 _ rfl, h.f, h.lt⟩
theorem UAt.mark {w : World} {q n : Nat} {u : Nat → Bool} (h : UAt w q u) (hn : n < 4) : UAt (w.setCell ⟨q, n, none⟩ (.bool true)) q (fun c => u c || decide (n = c)) := by
  refine ⟨fun k hk => ?_, fun k => by rw [World.frozen?_setCell]; exact h.f k, by simpa using h.lt⟩
  by_cases e : n = k
  · subst e
    rw [World.cell?_setCell_same (h := h.c n hn)]; simp
  · rw [World.cell?_setCell_other]
    · rw [h.c k hk]; simp [e]
    · intro h; injection h with _ h2; exact e h2
theorem UAt.other {w : World} {q b n : Nat} {u : Nat → Bool} {v : Value} (h : UAt w q u) (hn : b ≠ q) : UAt (w.setCell ⟨b, n, none⟩ v) q u := by
  refine ⟨fun k hk => ?_, fun k => by rw [World.frozen?_setCell]; exact h.f k, by simpa using h.lt⟩
  rw [World.cell?_setCell_other]
  · exact h.c k hk
  · intro h; injection h with h1; exact hn h1

def mark (u : Nat → Bool) (o : O) : Nat → Bool := fun c => u c || (clB o.op && decide (clV o.op = c))
def marks (u : Nat → Bool) (xs : List O) : Nat → Bool := xs.foldl mark u
def markB (u : Nat → Bool) (x : Bk) : Nat → Bool := marks (marks u x.ops) x.body
def u0 : Nat → Bool := fun c => decide (c = 3)
def useL (ps : List Bk) : Nat → Bool := ps.foldl markB u0
theorem marks_succ {u : Nat → Bool} {xs : List O} {k : Nat} (h : k < xs.length) : marks u (xs.take (k + 1)) = mark (marks u (xs.take k)) xs[k] := by
  unfold marks; rw [List.take_succ_eq_append_getElem h, List.foldl_append]; rfl
def useT (ps : List Bk) (k : Nat) : Nat → Bool := (ps.take k).foldl markB u0
theorem useT_succ {ps : List Bk} {k : Nat} (h : k < ps.length) : useT ps (k + 1) = markB (useT ps k) ps[k] := by
  unfold useT; rw [List.take_succ_eq_append_getElem h, List.foldl_append]; rfl
theorem useT_all (ps : List Bk) : useT ps ps.length = useL ps := by simp [useT, useL]

/-- The marks under way. -/
structure Us (w wr : World) (u : Nat → Bool) : Prop where
  b : Below w.heap.size w wr
  r : UAt wr (w.heap.size + 1) fun _ => false
  u : UAt wr (w.heap.size + 1 + 1) u
theorem Us.below {w wr w2 : World} {u : Nat → Bool} (h : Us w wr u) (hb : Below wr.heap.size wr w2) : Us w w2 u :=
  ⟨h.b.trans (hb.mono h.b.size), h.r.below hb h.r.lt, h.u.below hb h.u.lt⟩
theorem Us.mark {w wr : World} {u : Nat → Bool} {n : Nat} (h : Us w wr u) (hn : n < 4) : Us w (wr.setCell ⟨w.heap.size + 1 + 1, n, none⟩ (.bool true)) (fun c => u c || decide (n = c)) :=
  ⟨h.b.setCell (by show w.heap.size ≤ w.heap.size + 1 + 1; omega) _, h.r.other (by omega), h.u.mark hn⟩
theorem Us.start (w : World) (c0 : Array Value) (t0 t1 t2 : TypeId) : Us w (((w.alloc (.cells c0 t0)).alloc (.cells #[.bool false, .bool false, .bool false, .bool false] t1)).alloc (.cells #[.bool false, .bool false, .bool false, .bool true] t2)) u0 := by
  have h1 := (At.new (w.alloc (.cells c0 t0)) #[.bool false, .bool false, .bool false, .bool false] t1).alloc (.cells #[.bool false, .bool false, .bool false, .bool true] t2)
  have h2 := At.new ((w.alloc (.cells c0 t0)).alloc (.cells #[.bool false, .bool false, .bool false, .bool false] t1)) #[.bool false, .bool false, .bool false, .bool true] t2
  rw [show (w.alloc (.cells c0 t0)).heap.size = w.heap.size + 1 by simp] at h1
  rw [show ((w.alloc (.cells c0 t0)).alloc (.cells #[.bool false, .bool false, .bool false, .bool false] t1)).heap.size = w.heap.size + 1 + 1 by simp] at h2
  exact ⟨((Below.refl _ _).alloc (Nat.le_refl _) _).alloc (by simp) _ |>.alloc (by simp; omega) _, UAt.of h1, UAt.of h2⟩
theorem ix2_0 (a b : Option Addr) (n c m d : Nat) (w : World) : (Instr.index 64 (.agg #[.slice a n c, .slice b m d]) (.int .i64 0)).run Tryd.prog w = .ok (.slice a n c) w := by kernel_rfl
theorem ix2_1 (a b : Option Addr) (n c m d : Nat) (w : World) : (Instr.index 64 (.agg #[.slice a n c, .slice b m d]) (.int .i64 1)).run Tryd.prog w = .ok (.slice b m d) w := by kernel_rfl
theorem clV_in {d : Int} (h : clB d = true) : ∃ n : Nat, n < 4 ∧ clV d = n := by
  unfold clB at h
  cases hk : kOf d with
  | none => rw [hk] at h; cases h
  | some k =>
    rw [hk] at h
    have := cls_in hk
    have e : ¬ k.cls = -1 := by simpa using h
    refine ⟨k.cls.toNat, by omega, ?_⟩
    simp [clV, hk, e]
    omega
theorem mark_yes {u : Nat → Bool} {o : O} {n : Nat} (h : clB o.op = true) (hn : clV o.op = n) : (fun c => u c || decide (n = c)) = mark u o := by
  funext c
  simp [mark, h, hn]
  congr 1
  rw [Bool.eq_iff_iff]; simp; omega
theorem mark_no {u : Nat → Bool} {o : O} (h : clB o.op = false) : u = mark u o := by
  funext c; simp [mark, h]
set_option maxHeartbeats 4000000 in
theorem classes_any (ao : Option Addr) (cap : Nat) (ps : List Bk) (w : World) (h : PAt w ao ps) :
    Calls Tryd.prog 19 #[.agg #[.slice ao ps.length cap]] w fun e w' => e = .returned (.agg #[.bool (useL ps 0), .bool (useL ps 1), .bool (useL ps 2), .bool (useL ps 3)]) ∧ Below w.heap.size w w' := by
  have hlen := h.len
  have HP : Hid _ := h
  clear h
  go_enter Tryd.func19, Tryd.ntmps19
  go_wp2
  have HS0 := Us.start w #[Value.slice ao ps.length cap] 24 46 46
  generalize (((w.alloc (Obj.cells #[Value.slice ao ps.length cap] 24)).alloc (Obj.cells #[Value.bool false, Value.bool false, Value.bool false, Value.bool false] 46)).alloc (Obj.cells #[Value.bool false, Value.bool false, Value.bool false, Value.bool true] 46)) = V at *
  have HS : Hid _ := HS0
  clear HS0
  go_loopw [16] (fun i wr => ∃ k : Nat, k ≤ ps.length ∧ i = .int .i64 k ∧ Us w wr (useT ps k)) (fun i _ => ps.length - (intOf i).toNat)
  case atStart => exact ⟨0, by omega, rfl, HS.out⟩
  case round =>
    rename_i wr
    obtain ⟨k, hk, rfl, hus⟩ := hrel
    by_cases hlt : k < ps.length
    · obtain ⟨b, f, rfl, hz, hx⟩ := HP.out.is (by omega)
      obtain ⟨⟨oa, oc, ba, bc⟩, hp, h5⟩ := hx k hlt
      obtain ⟨c0, c1, c2, c3, c4, c5⟩ := hp.below hus.b hz
      simp only at c0 c3
      have HI : Hid _ := h5
      have HU : Hid _ := hus
      have HT : Hid _ := useT_succ hlt
      clear hx hp h5 HP hus HS
      generalize hxk : ps[k] = x at *
      clear hxk
      generalize useT ps k = u at *
      go_wp2
      generalize hV2 : wr.alloc (.cells (x.cells ⟨oa, oc, ba, bc⟩) 40) = V2 at *
      have HU2 : Hid (Us w V2 u) := by rw [← hV2]; exact HU.out.below ((Below.refl _ _).alloc (Nat.le_refl _) _)
      clear HU hV2 c0 c1 c2 c3 c4 c5
      have j0 := ix2_0
      have j1 := ix2_1
      go_loopw [25] (fun i wz => (i = .int .i64 0 ∧ Us w wz u) ∨ (i = .int .i64 1 ∧ Us w wz (marks u x.ops)) ∨ (i = .int .i64 2 ∧ Us w wz (markB u x))) (fun i _ => 2 - (intOf i).toNat)
      case atStart => exact .inl ⟨rfl, HU2.out⟩
      case round =>
        rename World => wz
        rcases hrel with ⟨rfl, hus⟩ | ⟨rfl, hus⟩ | ⟨rfl, hus⟩
        · have HU3 : Hid _ := hus
          have HL : OpsAt w oa x.ops := HI.out.o
          clear hus HU2 HI
          have hll := HL.len
          have HL : Hid _ := HL
          generalize x.ops = xs at *
          generalize hvu : u = v at *
          have HVU : Hid (u = v) := hvu
          clear hvu
          go_wp2
          go_loopw [30] (fun i wy => ∃ m : Nat, m ≤ xs.length ∧ i = .int .i64 m ∧ Us w wy (marks v (xs.take m))) (fun i _ => xs.length - (intOf i).toNat)
          case atStart => exact ⟨0, by omega, rfl, HU3.out⟩
          case round =>
            rename World => wy
            obtain ⟨m, hm, rfl, hus⟩ := hrel
            by_cases hmt : m < xs.length
            · obtain ⟨b2, f2, rfl, z2, hx2⟩ := HL.out.is (by omega)
              obtain ⟨c0, c1, c2, c3, c4⟩ := (hx2 m hmt).below hus.b z2
              have ho := HL.out.ok xs[m] (List.getElem_mem hmt)
              have HS : Hid _ := marks_succ (u := v) hmt
              have HC : Hid (∀ w, Calls Tryd.prog 31 #[.int .i8 xs[m].op] w fun e w' => e = .returned (.tuple #[.int .i64 (clV xs[m].op), .bool (clB xs[m].op)]) ∧ Below w.heap.size w w') := fun w => class_any _ w ho.op0 ho.op1
              have HU : Hid _ := hus
              clear hx2 ho hus HL HU3
              generalize xs[m] = o at *
              cases hcl : clB o.op
              · have HM : Hid _ := mark_no (u := marks v (xs.take m)) hcl
                rw [hcl] at HC
                clear hcl
                go_wp2_with (first | (go_at_call 31; refine Calls.mono (HC.out _) ?_; rintro e w2 ⟨rfl, hb⟩))
                go_roundw
                case rel =>
                  refine ⟨m + 1, by omega, by go_num, ?_⟩
                  rw [HS.out, ← HM.out]
                  exact (HU.out.below ((Below.refl _ _).alloc (Nat.le_refl _) _)).below hb
                case measure => simp [intOf]; omega
              · obtain ⟨n, hn, en⟩ := clV_in hcl
                have HM : Hid _ := mark_yes (u := marks v (xs.take m)) hcl en
                rw [hcl, en] at HC
                clear hcl en
                have hn0 : (0 : Int) ≤ (n : Int) := by omega
                have hn4 : (n : Int) < 4 := by omega
                go_wp2_with (first | (go_at_call 31; refine Calls.mono (HC.out _) ?_; rintro e w2 ⟨rfl, hb⟩; have hu2 := (HU.out.below ((Below.refl _ _).alloc (Nat.le_refl _) _)).below hb; have q0 := hu2.u.c n hn; have q1 := hu2.u.f n; have q2 := hu2.u.lt; have HU4 : Hid _ := hu2; clear hu2 hb))
                go_roundw
                case rel =>
                  refine ⟨m + 1, by omega, by go_num, ?_⟩
                  rw [HS.out, ← HM.out]
                  exact HU4.out.mark hn
                case measure => simp [intOf]; omega
            · obtain rfl : m = xs.length := by omega
              rw [List.take_length] at hus
              go_wp2
              go_roundw
              case rel => exact .inr (.inl ⟨rfl, hus⟩)
              case measure => simp [intOf]
        · have HU3 : Hid _ := hus
          have HL : OpsAt w ba x.body := HI.out.b
          clear hus HU2 HI
          have hll := HL.len
          have HL : Hid _ := HL
          have HX : Hid (markB u x = marks (marks u x.ops) x.body) := rfl
          generalize x.body = xs at *
          generalize marks u x.ops = v at *
          go_wp2
          go_loopw [30] (fun i wy => ∃ m : Nat, m ≤ xs.length ∧ i = .int .i64 m ∧ Us w wy (marks v (xs.take m))) (fun i _ => xs.length - (intOf i).toNat)
          case atStart => exact ⟨0, by omega, rfl, HU3.out⟩
          case round =>
            rename World => wy
            obtain ⟨m, hm, rfl, hus⟩ := hrel
            by_cases hmt : m < xs.length
            · obtain ⟨b2, f2, rfl, z2, hx2⟩ := HL.out.is (by omega)
              obtain ⟨c0, c1, c2, c3, c4⟩ := (hx2 m hmt).below hus.b z2
              have ho := HL.out.ok xs[m] (List.getElem_mem hmt)
              have HS : Hid _ := marks_succ (u := v) hmt
              have HC : Hid (∀ w, Calls Tryd.prog 31 #[.int .i8 xs[m].op] w fun e w' => e = .returned (.tuple #[.int .i64 (clV xs[m].op), .bool (clB xs[m].op)]) ∧ Below w.heap.size w w') := fun w => class_any _ w ho.op0 ho.op1
              have HU : Hid _ := hus
              clear hx2 ho hus HL HU3
              generalize xs[m] = o at *
              cases hcl : clB o.op
              · have HM : Hid _ := mark_no (u := marks v (xs.take m)) hcl
                rw [hcl] at HC
                clear hcl
                go_wp2_with (first | (go_at_call 31; refine Calls.mono (HC.out _) ?_; rintro e w2 ⟨rfl, hb⟩))
                go_roundw
                case rel =>
                  refine ⟨m + 1, by omega, by go_num, ?_⟩
                  rw [HS.out, ← HM.out]
                  exact (HU.out.below ((Below.refl _ _).alloc (Nat.le_refl _) _)).below hb
                case measure => simp [intOf]; omega
              · obtain ⟨n, hn, en⟩ := clV_in hcl
                have HM : Hid _ := mark_yes (u := marks v (xs.take m)) hcl en
                rw [hcl, en] at HC
                clear hcl en
                have hn0 : (0 : Int) ≤ (n : Int) := by omega
                have hn4 : (n : Int) < 4 := by omega
                go_wp2_with (first | (go_at_call 31; refine Calls.mono (HC.out _) ?_; rintro e w2 ⟨rfl, hb⟩; have hu2 := (HU.out.below ((Below.refl _ _).alloc (Nat.le_refl _) _)).below hb; have q0 := hu2.u.c n hn; have q1 := hu2.u.f n; have q2 := hu2.u.lt; have HU4 : Hid _ := hu2; clear hu2 hb))
                go_roundw
                case rel =>
                  refine ⟨m + 1, by omega, by go_num, ?_⟩
                  rw [HS.out, ← HM.out]
                  exact HU4.out.mark hn
                case measure => simp [intOf]; omega
            · obtain rfl : m = xs.length := by omega
              rw [List.take_length] at hus
              go_wp2
              go_roundw
              case rel => exact .inr (.inr ⟨rfl, HX.out ▸ hus⟩)
              case measure => simp [intOf]
        · have HU3 : Hid _ := hus
          clear hus HU2 HI
          go_wp2
          go_roundw
          case rel => exact ⟨k + 1, by omega, by go_num, by rw [HT.out]; exact HU3.out⟩
          case measure => simp [intOf]; omega
    · obtain rfl : k = ps.length := by omega
      rw [useT_all] at hus
      have r0 := hus.r.c 0 (by omega)
      have r1 := hus.r.c 1 (by omega)
      have r2 := hus.r.c 2 (by omega)
      have r3 := hus.r.c 3 (by omega)
      have f0 := hus.r.f 0
      have f1 := hus.r.f 1
      have f2 := hus.r.f 2
      have f3 := hus.r.f 3
      have s0 := hus.u.c 0 (by omega)
      have s1 := hus.u.c 1 (by omega)
      have s2 := hus.u.c 2 (by omega)
      have s3 := hus.u.c 3 (by omega)
      have HU : Hid _ := hus
      clear hus HS
      go_wp2
      refine bodyPost_ret (v := .agg #[.bool (useL ps 0), .bool (useL ps 1), .bool (useL ps 2), .bool (useL ps 3)]) (by simp [results, Tryd.results19, go_sem, r0, r1, r2, r3]) rfl ⟨rfl, ?_⟩
      exact (((HU.out.b.setCell (Nat.le_succ _) _).setCell (Nat.le_succ _) _).setCell (Nat.le_succ _) _).setCell (Nat.le_succ _) _
end Go.Proofs.YtecfbnfbpamegaaDoor.Op
