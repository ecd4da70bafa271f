/- What doOperation makes of the machine: an operation is reckoned and, if it may, lands. Read off the program by the walk. Conditions: the machine and its program lie in memory. -/
import Derived.Test.YtddcndlogoajkaaGreatDoorQNe
namespace Go.Proofs.YtddcndlogoajkaaGreatDoor.L8.Sm
open Go.ChangeShapes Go.WideShapes Go.ChangeAt Go.RowKit
open _root_.Go.Proofs.YtddcndlogoajkaaGreatDoor.L8.Op _root_.Go.Proofs.YtddcndlogoajkaaGreatDoor.L8.So
set_option maxRecDepth 20000

section
variable {w : World} {q : Nat} {ps : List Bk} {T : Nat → Prop} {M : Ma}
/-- What the region of a reckoning reads. -/
structure Dz (W : World) (q n : Nat) (o : O) (f g : Nat) : Prop where
  d0 : W.cell? ⟨q, 1 + o.op.toNat * 2, none⟩ = some (.func (.func f) #[] #[])
  d1 : W.cell? ⟨q, 1 + o.op.toNat * 2 + 1, none⟩ = some (.func (.func g) #[] #[])
  c0 : W.cell? ⟨n, 0, none⟩ = some (.int .i8 o.op)
  c1 : W.cell? ⟨n, 1, none⟩ = some (.int .u8 o.d)
  c2 : W.cell? ⟨n, 2, none⟩ = some (.int .u8 o.a)
  c3 : W.cell? ⟨n, 3, none⟩ = some (.int .u8 o.b)
  c4 : W.cell? ⟨n, 4, none⟩ = some (.int .i64 o.im)
theorem dz_new (h : MR w q ps T M) {o : O} (ho : OkM o) {W : World} (hb : Below (w.alloc (.cells #[.int .i8 o.op, .int .u8 o.d, .int .u8 o.a, .int .u8 o.b, .int .i64 o.im] 51)).heap.size (w.alloc (.cells #[.int .i8 o.op, .int .u8 o.d, .int .u8 o.a, .int .u8 o.b, .int .i64 o.im] 51)) W) : Dz W q w.heap.size o (valN o.op.toNat) (landN o.op.toNat) := by
  obtain ⟨a1, hb0, hz⟩ := one_new w _ _ hb
  obtain ⟨h1, h2⟩ := (h.up hb0).deeds ho
  exact ⟨h1, h2, a1.c 0 _ rfl, a1.c 1 _ rfl, a1.c 2 _ rfl, a1.c 3 _ rfl, a1.c 4 _ rfl⟩
theorem Dz.drew {W : World} {q n : Nat} {o : O} {f g : Nat} (h : Dz W q n o f g) : Dz W.drew q n o f g := ⟨h.d0, h.d1, h.c0, h.c1, h.c2, h.c3, h.c4⟩
theorem Dz.six {W : World} {q n : Nat} {o : O} {f g : Nat} (h : Dz W q n o f g) : W.cell? ⟨q, 1 + o.op.toNat * 2 + 1, none⟩ = some (.func (.func g) #[] #[]) ∧ W.cell? ⟨n, 0, none⟩ = some (.int .i8 o.op) ∧ W.cell? ⟨n, 1, none⟩ = some (.int .u8 o.d) ∧ W.cell? ⟨n, 2, none⟩ = some (.int .u8 o.a) ∧ W.cell? ⟨n, 3, none⟩ = some (.int .u8 o.b) ∧ W.cell? ⟨n, 4, none⟩ = some (.int .i64 o.im) := ⟨h.d1, h.c0, h.c1, h.c2, h.c3, h.c4⟩
theorem Dz.land {X w2 : World} {q n : Nat} {o : O} {f g : Nat} {T T' : Nat → Prop} (h : Dz X.drew q n o f g) (hn : n < X.heap.size) (hT : ¬ T n) (htn : Tn X.drew T w2 T') (hd : w2.cell? ⟨q, 1 + o.op.toNat * 2, none⟩ = some (fnV f) ∧ w2.cell? ⟨q, 1 + o.op.toNat * 2 + 1, none⟩ = some (fnV g)) : Dz w2 q n o f g := by
  have c := fun j => htn.f.cell (b := n) hn hT j
  exact ⟨hd.1, hd.2, (c _).trans h.c0, (c _).trans h.c1, (c _).trans h.c2, (c _).trans h.c3, (c _).trans h.c4⟩
theorem MM.olt (h : MM w q ps T M) : (M.o : Int) ≤ 8796093022208 := by
  obtain ⟨ba, bc, po, pc, hM, hP, hR, hT⟩ := h.mr.ex
  have hb := h.inv.b
  obtain ⟨b, f, -, -, -, hx⟩ := hP.is (by omega)
  obtain ⟨p, -, h2, -⟩ := hx M.b hb
  have ho := h.inv.o
  rw [listM_at hb] at ho
  have h3 := h2.o.len
  have h4 := h2.b.len
  unfold lst at ho
  split at ho <;> omega
theorem MR.setO {N : Ma} {k : Nat} (h : MR w q ps T N) : MR (w.setCell ⟨q, 331, none⟩ (.int .i64 ((k : Int) + 1))) q ps T { N with o := k + 1 } := by
  obtain ⟨ba, bc, po, pc, hM, hP, hR, hT⟩ := h.ex
  have := hM.set_o (k + 1)
  exact (mr_one hP hR hT h.tq h.tl (M' := { N with o := k + 1 }) (by simpa using this) ((Fr.refl (One q) w).setCell (.inr rfl) _ _) rfl).1
theorem deed_pairs {o : O} (ho : OkM o) : (valN o.op.toNat = 50 ∧ landN o.op.toNat = 51) ∨ (valN o.op.toNat = 61 ∧ landN o.op.toNat = 51) ∨ (valN o.op.toNat = 52 ∧ landN o.op.toNat = 51) ∨ (valN o.op.toNat = 53 ∧ landN o.op.toNat = 54) ∨ (valN o.op.toNat = 55 ∧ landN o.op.toNat = 56) := by
  have hb := ho.op
  obtain ⟨k, hk⟩ : ∃ k : Nat, k = o.op.toNat := ⟨_, rfl⟩
  rw [← hk]
  have h1 : 1 ≤ k ∧ k ≤ 17 := by omega
  clear hk
  have : k = 1 ∨ (2 ≤ k ∧ k ≤ 14) ∨ k = 15 ∨ k = 16 ∨ k = 17 := by omega
  rcases this with rfl | h | rfl | rfl | rfl
  · exact .inl ⟨rfl, rfl⟩
  · right; left
    unfold valN landN
    rw [if_neg (by omega), if_neg (by omega), if_neg (by omega), if_neg (by omega), if_neg (by omega), if_neg (by omega)]
    exact ⟨rfl, rfl⟩
  · exact .inr (.inr (.inl ⟨rfl, rfl⟩))
  · exact .inr (.inr (.inr (.inl ⟨rfl, rfl⟩)))
  · exact .inr (.inr (.inr (.inr ⟨rfl, rfl⟩)))
set_option maxHeartbeats 8000000 in
theorem doOp_no (o : O) (h : MM w q ps T M) (ho : OkM o) (ht : trapO o M = false) : Calls Tryz.prog 81 #[ptr q, o.val, .bool false] w fun e w' => e = .returned (.bool false) ∧ Below w.heap.size w w' := by
  have HV : Hid (∀ W, Below w.heap.size w W → Calls Tryz.prog (valN o.op.toNat) #[ptr q, o.val] W fun e w' => e = .returned (.int .i64 (valO o M)) ∧ Below W.heap.size W w') := fun W hb => val_any o (h.up hb) ho ht
  have HD : Hid (∀ W, Below (w.alloc (.cells #[.int .i8 o.op, .int .u8 o.d, .int .u8 o.a, .int .u8 o.b, .int .i64 o.im] 51)).heap.size (w.alloc (.cells #[.int .i8 o.op, .int .u8 o.d, .int .u8 o.a, .int .u8 o.b, .int .i64 o.im] 51)) W → Dz W q w.heap.size o (valN o.op.toNat) (landN o.op.toNat)) := fun W hb => dz_new (W := W) h.mr ho hb
  have hq := h.mr.tl q h.mr.tq
  have b0 := ho.op.1
  have b1 : o.op < 18 := by have := ho.op; omega
  have b2 : 0 ≤ o.op := by omega
  have hfg := deed_pairs ho
  clear h ho ht
  generalize valN o.op.toNat = f at *
  generalize landN o.op.toNat = g at *
  generalize valO o M = v at *
  rcases hfg with ⟨rfl, rfl⟩ | ⟨rfl, rfl⟩ | ⟨rfl, rfl⟩ | ⟨rfl, rfl⟩ | ⟨rfl, rfl⟩
  · go_enter Tryz.func81, Tryz.ntmps81
    go_wp2_with fail
    obtain ⟨V, hV⟩ : ∃ V, V = w.alloc (.cells #[.int .i8 o.op, .int .u8 o.d, .int .u8 o.a, .int .u8 o.b, .int .i64 o.im] 51) := ⟨_, rfl⟩
    rw [← hV] at HD ⊢
    have HB : Hid (Below w.heap.size w V) := by rw [hV]; exact (Below.refl _ _).alloc (Nat.le_refl _) _
    clear hV
    have e0 : ∀ z : Wd (Below V.heap.size V), z.w.cell? ⟨q, 1 + o.op.toNat * 2, none⟩ = some (.func (.func 50) #[] #[]) := fun z => (HD.out z.w z.ok).d0
    have e1 : ∀ z : Wd (Below V.heap.size V), z.w.cell? ⟨w.heap.size, 0, none⟩ = some (.int .i8 o.op) := fun z => (HD.out z.w z.ok).c0
    have e2 : ∀ z : Wd (Below V.heap.size V), z.w.cell? ⟨w.heap.size, 1, none⟩ = some (.int .u8 o.d) := fun z => (HD.out z.w z.ok).c1
    have e3 : ∀ z : Wd (Below V.heap.size V), z.w.cell? ⟨w.heap.size, 2, none⟩ = some (.int .u8 o.a) := fun z => (HD.out z.w z.ok).c2
    have e4 : ∀ z : Wd (Below V.heap.size V), z.w.cell? ⟨w.heap.size, 3, none⟩ = some (.int .u8 o.b) := fun z => (HD.out z.w z.ok).c3
    have e5 : ∀ z : Wd (Below V.heap.size V), z.w.cell? ⟨w.heap.size, 4, none⟩ = some (.int .i64 o.im) := fun z => (HD.out z.w z.ok).c4
    haveI inst : Nonempty (Wd (Below V.heap.size V)) := ⟨⟨V, Below.refl _ _⟩⟩
    have HX : Hid (∀ z : Wd (Below V.heap.size V), Below w.heap.size w z.w) := fun z => HB.out.trans (z.ok.mono HB.out.size)
    refine wp_region_in (Below V.heap.size V) (by kernel_rfl) (by kernel_rfl) ((Below.refl _ _).drew) ?_
    repeat (first | go_big_quiet_step ((go_at_call 50; exact calls_in (Nat.le_refl _) _ (HV.out _ (HX.out _)))))
    refine wpQuiet_nil ?_
    rintro _ ⟨x, rfl⟩
    have hx := HX.out x
    clear e0 e1 e2 e3 e4 e5
    go_wp2_with fail
    go_ret
    exact ⟨rfl, hx⟩
  · go_enter Tryz.func81, Tryz.ntmps81
    go_wp2_with fail
    obtain ⟨V, hV⟩ : ∃ V, V = w.alloc (.cells #[.int .i8 o.op, .int .u8 o.d, .int .u8 o.a, .int .u8 o.b, .int .i64 o.im] 51) := ⟨_, rfl⟩
    rw [← hV] at HD ⊢
    have HB : Hid (Below w.heap.size w V) := by rw [hV]; exact (Below.refl _ _).alloc (Nat.le_refl _) _
    clear hV
    have e0 : ∀ z : Wd (Below V.heap.size V), z.w.cell? ⟨q, 1 + o.op.toNat * 2, none⟩ = some (.func (.func 61) #[] #[]) := fun z => (HD.out z.w z.ok).d0
    have e1 : ∀ z : Wd (Below V.heap.size V), z.w.cell? ⟨w.heap.size, 0, none⟩ = some (.int .i8 o.op) := fun z => (HD.out z.w z.ok).c0
    have e2 : ∀ z : Wd (Below V.heap.size V), z.w.cell? ⟨w.heap.size, 1, none⟩ = some (.int .u8 o.d) := fun z => (HD.out z.w z.ok).c1
    have e3 : ∀ z : Wd (Below V.heap.size V), z.w.cell? ⟨w.heap.size, 2, none⟩ = some (.int .u8 o.a) := fun z => (HD.out z.w z.ok).c2
    have e4 : ∀ z : Wd (Below V.heap.size V), z.w.cell? ⟨w.heap.size, 3, none⟩ = some (.int .u8 o.b) := fun z => (HD.out z.w z.ok).c3
    have e5 : ∀ z : Wd (Below V.heap.size V), z.w.cell? ⟨w.heap.size, 4, none⟩ = some (.int .i64 o.im) := fun z => (HD.out z.w z.ok).c4
    haveI inst : Nonempty (Wd (Below V.heap.size V)) := ⟨⟨V, Below.refl _ _⟩⟩
    have HX : Hid (∀ z : Wd (Below V.heap.size V), Below w.heap.size w z.w) := fun z => HB.out.trans (z.ok.mono HB.out.size)
    refine wp_region_in (Below V.heap.size V) (by kernel_rfl) (by kernel_rfl) ((Below.refl _ _).drew) ?_
    repeat (first | go_big_quiet_step ((go_at_call 61; exact calls_in (Nat.le_refl _) _ (HV.out _ (HX.out _)))))
    refine wpQuiet_nil ?_
    rintro _ ⟨x, rfl⟩
    have hx := HX.out x
    clear e0 e1 e2 e3 e4 e5
    go_wp2_with fail
    go_ret
    exact ⟨rfl, hx⟩
  · go_enter Tryz.func81, Tryz.ntmps81
    go_wp2_with fail
    obtain ⟨V, hV⟩ : ∃ V, V = w.alloc (.cells #[.int .i8 o.op, .int .u8 o.d, .int .u8 o.a, .int .u8 o.b, .int .i64 o.im] 51) := ⟨_, rfl⟩
    rw [← hV] at HD ⊢
    have HB : Hid (Below w.heap.size w V) := by rw [hV]; exact (Below.refl _ _).alloc (Nat.le_refl _) _
    clear hV
    have e0 : ∀ z : Wd (Below V.heap.size V), z.w.cell? ⟨q, 1 + o.op.toNat * 2, none⟩ = some (.func (.func 52) #[] #[]) := fun z => (HD.out z.w z.ok).d0
    have e1 : ∀ z : Wd (Below V.heap.size V), z.w.cell? ⟨w.heap.size, 0, none⟩ = some (.int .i8 o.op) := fun z => (HD.out z.w z.ok).c0
    have e2 : ∀ z : Wd (Below V.heap.size V), z.w.cell? ⟨w.heap.size, 1, none⟩ = some (.int .u8 o.d) := fun z => (HD.out z.w z.ok).c1
    have e3 : ∀ z : Wd (Below V.heap.size V), z.w.cell? ⟨w.heap.size, 2, none⟩ = some (.int .u8 o.a) := fun z => (HD.out z.w z.ok).c2
    have e4 : ∀ z : Wd (Below V.heap.size V), z.w.cell? ⟨w.heap.size, 3, none⟩ = some (.int .u8 o.b) := fun z => (HD.out z.w z.ok).c3
    have e5 : ∀ z : Wd (Below V.heap.size V), z.w.cell? ⟨w.heap.size, 4, none⟩ = some (.int .i64 o.im) := fun z => (HD.out z.w z.ok).c4
    haveI inst : Nonempty (Wd (Below V.heap.size V)) := ⟨⟨V, Below.refl _ _⟩⟩
    have HX : Hid (∀ z : Wd (Below V.heap.size V), Below w.heap.size w z.w) := fun z => HB.out.trans (z.ok.mono HB.out.size)
    refine wp_region_in (Below V.heap.size V) (by kernel_rfl) (by kernel_rfl) ((Below.refl _ _).drew) ?_
    repeat (first | go_big_quiet_step ((go_at_call 52; exact calls_in (Nat.le_refl _) _ (HV.out _ (HX.out _)))))
    refine wpQuiet_nil ?_
    rintro _ ⟨x, rfl⟩
    have hx := HX.out x
    clear e0 e1 e2 e3 e4 e5
    go_wp2_with fail
    go_ret
    exact ⟨rfl, hx⟩
  · go_enter Tryz.func81, Tryz.ntmps81
    go_wp2_with fail
    obtain ⟨V, hV⟩ : ∃ V, V = w.alloc (.cells #[.int .i8 o.op, .int .u8 o.d, .int .u8 o.a, .int .u8 o.b, .int .i64 o.im] 51) := ⟨_, rfl⟩
    rw [← hV] at HD ⊢
    have HB : Hid (Below w.heap.size w V) := by rw [hV]; exact (Below.refl _ _).alloc (Nat.le_refl _) _
    clear hV
    have e0 : ∀ z : Wd (Below V.heap.size V), z.w.cell? ⟨q, 1 + o.op.toNat * 2, none⟩ = some (.func (.func 53) #[] #[]) := fun z => (HD.out z.w z.ok).d0
    have e1 : ∀ z : Wd (Below V.heap.size V), z.w.cell? ⟨w.heap.size, 0, none⟩ = some (.int .i8 o.op) := fun z => (HD.out z.w z.ok).c0
    have e2 : ∀ z : Wd (Below V.heap.size V), z.w.cell? ⟨w.heap.size, 1, none⟩ = some (.int .u8 o.d) := fun z => (HD.out z.w z.ok).c1
    have e3 : ∀ z : Wd (Below V.heap.size V), z.w.cell? ⟨w.heap.size, 2, none⟩ = some (.int .u8 o.a) := fun z => (HD.out z.w z.ok).c2
    have e4 : ∀ z : Wd (Below V.heap.size V), z.w.cell? ⟨w.heap.size, 3, none⟩ = some (.int .u8 o.b) := fun z => (HD.out z.w z.ok).c3
    have e5 : ∀ z : Wd (Below V.heap.size V), z.w.cell? ⟨w.heap.size, 4, none⟩ = some (.int .i64 o.im) := fun z => (HD.out z.w z.ok).c4
    haveI inst : Nonempty (Wd (Below V.heap.size V)) := ⟨⟨V, Below.refl _ _⟩⟩
    have HX : Hid (∀ z : Wd (Below V.heap.size V), Below w.heap.size w z.w) := fun z => HB.out.trans (z.ok.mono HB.out.size)
    refine wp_region_in (Below V.heap.size V) (by kernel_rfl) (by kernel_rfl) ((Below.refl _ _).drew) ?_
    repeat (first | go_big_quiet_step ((go_at_call 53; exact calls_in (Nat.le_refl _) _ (HV.out _ (HX.out _)))))
    refine wpQuiet_nil ?_
    rintro _ ⟨x, rfl⟩
    have hx := HX.out x
    clear e0 e1 e2 e3 e4 e5
    go_wp2_with fail
    go_ret
    exact ⟨rfl, hx⟩
  · go_enter Tryz.func81, Tryz.ntmps81
    go_wp2_with fail
    obtain ⟨V, hV⟩ : ∃ V, V = w.alloc (.cells #[.int .i8 o.op, .int .u8 o.d, .int .u8 o.a, .int .u8 o.b, .int .i64 o.im] 51) := ⟨_, rfl⟩
    rw [← hV] at HD ⊢
    have HB : Hid (Below w.heap.size w V) := by rw [hV]; exact (Below.refl _ _).alloc (Nat.le_refl _) _
    clear hV
    have e0 : ∀ z : Wd (Below V.heap.size V), z.w.cell? ⟨q, 1 + o.op.toNat * 2, none⟩ = some (.func (.func 55) #[] #[]) := fun z => (HD.out z.w z.ok).d0
    have e1 : ∀ z : Wd (Below V.heap.size V), z.w.cell? ⟨w.heap.size, 0, none⟩ = some (.int .i8 o.op) := fun z => (HD.out z.w z.ok).c0
    have e2 : ∀ z : Wd (Below V.heap.size V), z.w.cell? ⟨w.heap.size, 1, none⟩ = some (.int .u8 o.d) := fun z => (HD.out z.w z.ok).c1
    have e3 : ∀ z : Wd (Below V.heap.size V), z.w.cell? ⟨w.heap.size, 2, none⟩ = some (.int .u8 o.a) := fun z => (HD.out z.w z.ok).c2
    have e4 : ∀ z : Wd (Below V.heap.size V), z.w.cell? ⟨w.heap.size, 3, none⟩ = some (.int .u8 o.b) := fun z => (HD.out z.w z.ok).c3
    have e5 : ∀ z : Wd (Below V.heap.size V), z.w.cell? ⟨w.heap.size, 4, none⟩ = some (.int .i64 o.im) := fun z => (HD.out z.w z.ok).c4
    haveI inst : Nonempty (Wd (Below V.heap.size V)) := ⟨⟨V, Below.refl _ _⟩⟩
    have HX : Hid (∀ z : Wd (Below V.heap.size V), Below w.heap.size w z.w) := fun z => HB.out.trans (z.ok.mono HB.out.size)
    refine wp_region_in (Below V.heap.size V) (by kernel_rfl) (by kernel_rfl) ((Below.refl _ _).drew) ?_
    repeat (first | go_big_quiet_step ((go_at_call 55; exact calls_in (Nat.le_refl _) _ (HV.out _ (HX.out _)))))
    refine wpQuiet_nil ?_
    rintro _ ⟨x, rfl⟩
    have hx := HX.out x
    clear e0 e1 e2 e3 e4 e5
    go_wp2_with fail
    go_ret
    exact ⟨rfl, hx⟩
set_option maxHeartbeats 8000000 in
theorem doOp_yes (o : O) (h : MM w q ps T M) (ho : OkM o) (ht : trapO o M = false) (hl : M.pr.length < 1099511627776) : Calls Tryz.prog 81 #[ptr q, o.val, .bool true] w fun e w' => e = .returned (.bool true) ∧ ∃ T', MR w' q ps T' (opM o M) ∧ Tn w T w' T' := by
  have HV : Hid (∀ W, Below w.heap.size w W → Calls Tryz.prog (valN o.op.toNat) #[ptr q, o.val] W fun e w' => e = .returned (.int .i64 (valO o M)) ∧ Below W.heap.size W w') := fun W hb => val_any o (h.up hb) ho ht
  have HD : Hid (∀ W, Below (w.alloc (.cells #[.int .i8 o.op, .int .u8 o.d, .int .u8 o.a, .int .u8 o.b, .int .i64 o.im] 51)).heap.size (w.alloc (.cells #[.int .i8 o.op, .int .u8 o.d, .int .u8 o.a, .int .u8 o.b, .int .i64 o.im] 51)) W → Dz W q w.heap.size o (valN o.op.toNat) (landN o.op.toNat)) := fun W hb => dz_new (W := W) h.mr ho hb
  have HQ : Hid (∀ W, Below w.heap.size w W → Calls Tryz.prog (landN o.op.toNat) #[ptr q, o.val, .int .i64 (valO o M)] W (LandPost W q ps T (landO o (valO o M) M))) := fun W hb => land_any o (valO o M) (h.mr.up hb) ho hl
  have HTl : Hid (∀ k, ¬ (k < w.heap.size) → ¬ T k) := fun k hk hT => hk (h.mr.tl k hT)
  have HK : Hid (∀ W T' M', MR W q ps T' M' → W.cell? ⟨q, 1 + o.op.toNat * 2, none⟩ = some (fnV (valN o.op.toNat)) ∧ W.cell? ⟨q, 1 + o.op.toNat * 2 + 1, none⟩ = some (fnV (landN o.op.toNat))) := fun W T' M' hm => hm.deeds ho
  have hlo : (landO o (valO o M) M).o = M.o := by unfold landO; (repeat' split) <;> rfl
  have hmo : (M.o : Int) ≤ 8796093022208 := h.olt
  have HOp : Hid (opM o M = { landO o (valO o M) M with o := M.o + 1 }) := rfl
  rw [HOp.out]
  have HLo : Hid ((landO o (valO o M) M).o = M.o) := hlo
  clear hlo
  have HQt : True := trivial
  have hq := h.mr.tl q h.mr.tq
  have b0 := ho.op.1
  have b1 : o.op < 18 := by have := ho.op; omega
  have b2 : 0 ≤ o.op := by omega
  have hfg := deed_pairs ho
  clear h ho ht HQt
  generalize valN o.op.toNat = f at *
  generalize landN o.op.toNat = g at *
  generalize valO o M = v at *
  rcases hfg with ⟨rfl, rfl⟩ | ⟨rfl, rfl⟩ | ⟨rfl, rfl⟩ | ⟨rfl, rfl⟩ | ⟨rfl, rfl⟩
  · go_enter Tryz.func81, Tryz.ntmps81
    go_wp2_with fail
    obtain ⟨V, hV⟩ : ∃ V, V = w.alloc (.cells #[.int .i8 o.op, .int .u8 o.d, .int .u8 o.a, .int .u8 o.b, .int .i64 o.im] 51) := ⟨_, rfl⟩
    rw [← hV] at HD ⊢
    have HB : Hid (Below w.heap.size w V) := by rw [hV]; exact (Below.refl _ _).alloc (Nat.le_refl _) _
    have HVs : Hid (w.heap.size < V.heap.size) := by rw [hV]; show w.heap.size < (World.alloc _ _).heap.size; simp
    clear hV
    have e0 : ∀ z : Wd (Below V.heap.size V), z.w.cell? ⟨q, 1 + o.op.toNat * 2, none⟩ = some (.func (.func 50) #[] #[]) := fun z => (HD.out z.w z.ok).d0
    have e1 : ∀ z : Wd (Below V.heap.size V), z.w.cell? ⟨w.heap.size, 0, none⟩ = some (.int .i8 o.op) := fun z => (HD.out z.w z.ok).c0
    have e2 : ∀ z : Wd (Below V.heap.size V), z.w.cell? ⟨w.heap.size, 1, none⟩ = some (.int .u8 o.d) := fun z => (HD.out z.w z.ok).c1
    have e3 : ∀ z : Wd (Below V.heap.size V), z.w.cell? ⟨w.heap.size, 2, none⟩ = some (.int .u8 o.a) := fun z => (HD.out z.w z.ok).c2
    have e4 : ∀ z : Wd (Below V.heap.size V), z.w.cell? ⟨w.heap.size, 3, none⟩ = some (.int .u8 o.b) := fun z => (HD.out z.w z.ok).c3
    have e5 : ∀ z : Wd (Below V.heap.size V), z.w.cell? ⟨w.heap.size, 4, none⟩ = some (.int .i64 o.im) := fun z => (HD.out z.w z.ok).c4
    haveI inst : Nonempty (Wd (Below V.heap.size V)) := ⟨⟨V, Below.refl _ _⟩⟩
    have HX : Hid (∀ z : Wd (Below V.heap.size V), Below w.heap.size w z.w) := fun z => HB.out.trans (z.ok.mono HB.out.size)
    refine wp_region_in (Below V.heap.size V) (by kernel_rfl) (by kernel_rfl) ((Below.refl _ _).drew) ?_
    repeat (first | go_big_quiet_step ((go_at_call 50; exact calls_in (Nat.le_refl _) _ (HV.out _ (HX.out _)))))
    refine wpQuiet_nil ?_
    rintro _ ⟨x, rfl⟩
    have hx := HX.out x
    have HS : Hid (Dz x.w.drew q w.heap.size o _ 51) := (HD.out x.w x.ok).drew
    have HL : Hid (∀ W, Below x.w.heap.size x.w W → Calls Tryz.prog 51 #[ptr q, o.val, .int .i64 v] W (LandPost W q ps T (landO o v M))) := fun W hb => HQ.out W (hx.trans (hb.mono hx.size))
    have HN : Hid (w.heap.size < x.w.heap.size) := Nat.lt_of_lt_of_le HVs.out x.ok.size
    have HE : Hid (Below w.heap.size w x.w) := hx
    clear e0 e1 e2 e3 e4 e5 hx HD HV HX HQ HVs
    generalize x.w = X at *
    go_wp2_with fail
    go_region_held3 (fun w' => w'.cell? ⟨q, 1 + o.op.toNat * 2 + 1, none⟩ = some (.func (.func 51) #[] #[]) ∧ w'.cell? ⟨w.heap.size, 0, none⟩ = some (.int .i8 o.op) ∧ w'.cell? ⟨w.heap.size, 1, none⟩ = some (.int .u8 o.d) ∧ w'.cell? ⟨w.heap.size, 2, none⟩ = some (.int .u8 o.a) ∧ w'.cell? ⟨w.heap.size, 3, none⟩ = some (.int .u8 o.b) ∧ w'.cell? ⟨w.heap.size, 4, none⟩ = some (.int .i64 o.im))
      (first | exact HS.out.six)
      (first | (go_at_call 51; refine Calls.mono (HL.out _ (drew_up _)) ?_; rintro e w2 ⟨rfl, T', hm, htn⟩; have HS : Hid (Dz w2 q w.heap.size o _ 51) := (HS.out.land HN.out (HTl.out _ (Nat.lt_irrefl _)) htn (HK.out _ _ _ hm)); have HR : Hid (MR w2 q ps T' (landO o v M) ∧ Tn X T w2 T') := ⟨hm, Tn.trans (Tn.of (drew_up X)) htn⟩; obtain ⟨ba, bc, po, pc, hA⟩ := hm.mat; have a2 := hA.o; have f2 := hA.fz 331; have q2 := hA.lt; rw [HLo.out] at a2; clear hA hm htn HL))
    go_wp2_with fail
    go_ret
    obtain ⟨hm, htn⟩ := HR.out
    refine ⟨rfl, T', hm.setO, (Tn.of HE.out).trans (htn.trans ⟨(Fr.refl T' w2).setCell (.inr hm.tq) _ _, fun _ h => .inl h⟩)⟩
  · go_enter Tryz.func81, Tryz.ntmps81
    go_wp2_with fail
    obtain ⟨V, hV⟩ : ∃ V, V = w.alloc (.cells #[.int .i8 o.op, .int .u8 o.d, .int .u8 o.a, .int .u8 o.b, .int .i64 o.im] 51) := ⟨_, rfl⟩
    rw [← hV] at HD ⊢
    have HB : Hid (Below w.heap.size w V) := by rw [hV]; exact (Below.refl _ _).alloc (Nat.le_refl _) _
    have HVs : Hid (w.heap.size < V.heap.size) := by rw [hV]; show w.heap.size < (World.alloc _ _).heap.size; simp
    clear hV
    have e0 : ∀ z : Wd (Below V.heap.size V), z.w.cell? ⟨q, 1 + o.op.toNat * 2, none⟩ = some (.func (.func 61) #[] #[]) := fun z => (HD.out z.w z.ok).d0
    have e1 : ∀ z : Wd (Below V.heap.size V), z.w.cell? ⟨w.heap.size, 0, none⟩ = some (.int .i8 o.op) := fun z => (HD.out z.w z.ok).c0
    have e2 : ∀ z : Wd (Below V.heap.size V), z.w.cell? ⟨w.heap.size, 1, none⟩ = some (.int .u8 o.d) := fun z => (HD.out z.w z.ok).c1
    have e3 : ∀ z : Wd (Below V.heap.size V), z.w.cell? ⟨w.heap.size, 2, none⟩ = some (.int .u8 o.a) := fun z => (HD.out z.w z.ok).c2
    have e4 : ∀ z : Wd (Below V.heap.size V), z.w.cell? ⟨w.heap.size, 3, none⟩ = some (.int .u8 o.b) := fun z => (HD.out z.w z.ok).c3
    have e5 : ∀ z : Wd (Below V.heap.size V), z.w.cell? ⟨w.heap.size, 4, none⟩ = some (.int .i64 o.im) := fun z => (HD.out z.w z.ok).c4
    haveI inst : Nonempty (Wd (Below V.heap.size V)) := ⟨⟨V, Below.refl _ _⟩⟩
    have HX : Hid (∀ z : Wd (Below V.heap.size V), Below w.heap.size w z.w) := fun z => HB.out.trans (z.ok.mono HB.out.size)
    refine wp_region_in (Below V.heap.size V) (by kernel_rfl) (by kernel_rfl) ((Below.refl _ _).drew) ?_
    repeat (first | go_big_quiet_step ((go_at_call 61; exact calls_in (Nat.le_refl _) _ (HV.out _ (HX.out _)))))
    refine wpQuiet_nil ?_
    rintro _ ⟨x, rfl⟩
    have hx := HX.out x
    have HS : Hid (Dz x.w.drew q w.heap.size o _ 51) := (HD.out x.w x.ok).drew
    have HL : Hid (∀ W, Below x.w.heap.size x.w W → Calls Tryz.prog 51 #[ptr q, o.val, .int .i64 v] W (LandPost W q ps T (landO o v M))) := fun W hb => HQ.out W (hx.trans (hb.mono hx.size))
    have HN : Hid (w.heap.size < x.w.heap.size) := Nat.lt_of_lt_of_le HVs.out x.ok.size
    have HE : Hid (Below w.heap.size w x.w) := hx
    clear e0 e1 e2 e3 e4 e5 hx HD HV HX HQ HVs
    generalize x.w = X at *
    go_wp2_with fail
    go_region_held3 (fun w' => w'.cell? ⟨q, 1 + o.op.toNat * 2 + 1, none⟩ = some (.func (.func 51) #[] #[]) ∧ w'.cell? ⟨w.heap.size, 0, none⟩ = some (.int .i8 o.op) ∧ w'.cell? ⟨w.heap.size, 1, none⟩ = some (.int .u8 o.d) ∧ w'.cell? ⟨w.heap.size, 2, none⟩ = some (.int .u8 o.a) ∧ w'.cell? ⟨w.heap.size, 3, none⟩ = some (.int .u8 o.b) ∧ w'.cell? ⟨w.heap.size, 4, none⟩ = some (.int .i64 o.im))
      (first | exact HS.out.six)
      (first | (go_at_call 51; refine Calls.mono (HL.out _ (drew_up _)) ?_; rintro e w2 ⟨rfl, T', hm, htn⟩; have HS : Hid (Dz w2 q w.heap.size o _ 51) := (HS.out.land HN.out (HTl.out _ (Nat.lt_irrefl _)) htn (HK.out _ _ _ hm)); have HR : Hid (MR w2 q ps T' (landO o v M) ∧ Tn X T w2 T') := ⟨hm, Tn.trans (Tn.of (drew_up X)) htn⟩; obtain ⟨ba, bc, po, pc, hA⟩ := hm.mat; have a2 := hA.o; have f2 := hA.fz 331; have q2 := hA.lt; rw [HLo.out] at a2; clear hA hm htn HL))
    go_wp2_with fail
    go_ret
    obtain ⟨hm, htn⟩ := HR.out
    refine ⟨rfl, T', hm.setO, (Tn.of HE.out).trans (htn.trans ⟨(Fr.refl T' w2).setCell (.inr hm.tq) _ _, fun _ h => .inl h⟩)⟩
  · go_enter Tryz.func81, Tryz.ntmps81
    go_wp2_with fail
    obtain ⟨V, hV⟩ : ∃ V, V = w.alloc (.cells #[.int .i8 o.op, .int .u8 o.d, .int .u8 o.a, .int .u8 o.b, .int .i64 o.im] 51) := ⟨_, rfl⟩
    rw [← hV] at HD ⊢
    have HB : Hid (Below w.heap.size w V) := by rw [hV]; exact (Below.refl _ _).alloc (Nat.le_refl _) _
    have HVs : Hid (w.heap.size < V.heap.size) := by rw [hV]; show w.heap.size < (World.alloc _ _).heap.size; simp
    clear hV
    have e0 : ∀ z : Wd (Below V.heap.size V), z.w.cell? ⟨q, 1 + o.op.toNat * 2, none⟩ = some (.func (.func 52) #[] #[]) := fun z => (HD.out z.w z.ok).d0
    have e1 : ∀ z : Wd (Below V.heap.size V), z.w.cell? ⟨w.heap.size, 0, none⟩ = some (.int .i8 o.op) := fun z => (HD.out z.w z.ok).c0
    have e2 : ∀ z : Wd (Below V.heap.size V), z.w.cell? ⟨w.heap.size, 1, none⟩ = some (.int .u8 o.d) := fun z => (HD.out z.w z.ok).c1
    have e3 : ∀ z : Wd (Below V.heap.size V), z.w.cell? ⟨w.heap.size, 2, none⟩ = some (.int .u8 o.a) := fun z => (HD.out z.w z.ok).c2
    have e4 : ∀ z : Wd (Below V.heap.size V), z.w.cell? ⟨w.heap.size, 3, none⟩ = some (.int .u8 o.b) := fun z => (HD.out z.w z.ok).c3
    have e5 : ∀ z : Wd (Below V.heap.size V), z.w.cell? ⟨w.heap.size, 4, none⟩ = some (.int .i64 o.im) := fun z => (HD.out z.w z.ok).c4
    haveI inst : Nonempty (Wd (Below V.heap.size V)) := ⟨⟨V, Below.refl _ _⟩⟩
    have HX : Hid (∀ z : Wd (Below V.heap.size V), Below w.heap.size w z.w) := fun z => HB.out.trans (z.ok.mono HB.out.size)
    refine wp_region_in (Below V.heap.size V) (by kernel_rfl) (by kernel_rfl) ((Below.refl _ _).drew) ?_
    repeat (first | go_big_quiet_step ((go_at_call 52; exact calls_in (Nat.le_refl _) _ (HV.out _ (HX.out _)))))
    refine wpQuiet_nil ?_
    rintro _ ⟨x, rfl⟩
    have hx := HX.out x
    have HS : Hid (Dz x.w.drew q w.heap.size o _ 51) := (HD.out x.w x.ok).drew
    have HL : Hid (∀ W, Below x.w.heap.size x.w W → Calls Tryz.prog 51 #[ptr q, o.val, .int .i64 v] W (LandPost W q ps T (landO o v M))) := fun W hb => HQ.out W (hx.trans (hb.mono hx.size))
    have HN : Hid (w.heap.size < x.w.heap.size) := Nat.lt_of_lt_of_le HVs.out x.ok.size
    have HE : Hid (Below w.heap.size w x.w) := hx
    clear e0 e1 e2 e3 e4 e5 hx HD HV HX HQ HVs
    generalize x.w = X at *
    go_wp2_with fail
    go_region_held3 (fun w' => w'.cell? ⟨q, 1 + o.op.toNat * 2 + 1, none⟩ = some (.func (.func 51) #[] #[]) ∧ w'.cell? ⟨w.heap.size, 0, none⟩ = some (.int .i8 o.op) ∧ w'.cell? ⟨w.heap.size, 1, none⟩ = some (.int .u8 o.d) ∧ w'.cell? ⟨w.heap.size, 2, none⟩ = some (.int .u8 o.a) ∧ w'.cell? ⟨w.heap.size, 3, none⟩ = some (.int .u8 o.b) ∧ w'.cell? ⟨w.heap.size, 4, none⟩ = some (.int .i64 o.im))
      (first | exact HS.out.six)
      (first | (go_at_call 51; refine Calls.mono (HL.out _ (drew_up _)) ?_; rintro e w2 ⟨rfl, T', hm, htn⟩; have HS : Hid (Dz w2 q w.heap.size o _ 51) := (HS.out.land HN.out (HTl.out _ (Nat.lt_irrefl _)) htn (HK.out _ _ _ hm)); have HR : Hid (MR w2 q ps T' (landO o v M) ∧ Tn X T w2 T') := ⟨hm, Tn.trans (Tn.of (drew_up X)) htn⟩; obtain ⟨ba, bc, po, pc, hA⟩ := hm.mat; have a2 := hA.o; have f2 := hA.fz 331; have q2 := hA.lt; rw [HLo.out] at a2; clear hA hm htn HL))
    go_wp2_with fail
    go_ret
    obtain ⟨hm, htn⟩ := HR.out
    refine ⟨rfl, T', hm.setO, (Tn.of HE.out).trans (htn.trans ⟨(Fr.refl T' w2).setCell (.inr hm.tq) _ _, fun _ h => .inl h⟩)⟩
  · go_enter Tryz.func81, Tryz.ntmps81
    go_wp2_with fail
    obtain ⟨V, hV⟩ : ∃ V, V = w.alloc (.cells #[.int .i8 o.op, .int .u8 o.d, .int .u8 o.a, .int .u8 o.b, .int .i64 o.im] 51) := ⟨_, rfl⟩
    rw [← hV] at HD ⊢
    have HB : Hid (Below w.heap.size w V) := by rw [hV]; exact (Below.refl _ _).alloc (Nat.le_refl _) _
    have HVs : Hid (w.heap.size < V.heap.size) := by rw [hV]; show w.heap.size < (World.alloc _ _).heap.size; simp
    clear hV
    have e0 : ∀ z : Wd (Below V.heap.size V), z.w.cell? ⟨q, 1 + o.op.toNat * 2, none⟩ = some (.func (.func 53) #[] #[]) := fun z => (HD.out z.w z.ok).d0
    have e1 : ∀ z : Wd (Below V.heap.size V), z.w.cell? ⟨w.heap.size, 0, none⟩ = some (.int .i8 o.op) := fun z => (HD.out z.w z.ok).c0
    have e2 : ∀ z : Wd (Below V.heap.size V), z.w.cell? ⟨w.heap.size, 1, none⟩ = some (.int .u8 o.d) := fun z => (HD.out z.w z.ok).c1
    have e3 : ∀ z : Wd (Below V.heap.size V), z.w.cell? ⟨w.heap.size, 2, none⟩ = some (.int .u8 o.a) := fun z => (HD.out z.w z.ok).c2
    have e4 : ∀ z : Wd (Below V.heap.size V), z.w.cell? ⟨w.heap.size, 3, none⟩ = some (.int .u8 o.b) := fun z => (HD.out z.w z.ok).c3
    have e5 : ∀ z : Wd (Below V.heap.size V), z.w.cell? ⟨w.heap.size, 4, none⟩ = some (.int .i64 o.im) := fun z => (HD.out z.w z.ok).c4
    haveI inst : Nonempty (Wd (Below V.heap.size V)) := ⟨⟨V, Below.refl _ _⟩⟩
    have HX : Hid (∀ z : Wd (Below V.heap.size V), Below w.heap.size w z.w) := fun z => HB.out.trans (z.ok.mono HB.out.size)
    refine wp_region_in (Below V.heap.size V) (by kernel_rfl) (by kernel_rfl) ((Below.refl _ _).drew) ?_
    repeat (first | go_big_quiet_step ((go_at_call 53; exact calls_in (Nat.le_refl _) _ (HV.out _ (HX.out _)))))
    refine wpQuiet_nil ?_
    rintro _ ⟨x, rfl⟩
    have hx := HX.out x
    have HS : Hid (Dz x.w.drew q w.heap.size o _ 54) := (HD.out x.w x.ok).drew
    have HL : Hid (∀ W, Below x.w.heap.size x.w W → Calls Tryz.prog 54 #[ptr q, o.val, .int .i64 v] W (LandPost W q ps T (landO o v M))) := fun W hb => HQ.out W (hx.trans (hb.mono hx.size))
    have HN : Hid (w.heap.size < x.w.heap.size) := Nat.lt_of_lt_of_le HVs.out x.ok.size
    have HE : Hid (Below w.heap.size w x.w) := hx
    clear e0 e1 e2 e3 e4 e5 hx HD HV HX HQ HVs
    generalize x.w = X at *
    go_wp2_with fail
    go_region_held3 (fun w' => w'.cell? ⟨q, 1 + o.op.toNat * 2 + 1, none⟩ = some (.func (.func 54) #[] #[]) ∧ w'.cell? ⟨w.heap.size, 0, none⟩ = some (.int .i8 o.op) ∧ w'.cell? ⟨w.heap.size, 1, none⟩ = some (.int .u8 o.d) ∧ w'.cell? ⟨w.heap.size, 2, none⟩ = some (.int .u8 o.a) ∧ w'.cell? ⟨w.heap.size, 3, none⟩ = some (.int .u8 o.b) ∧ w'.cell? ⟨w.heap.size, 4, none⟩ = some (.int .i64 o.im))
      (first | exact HS.out.six)
      (first | (go_at_call 54; refine Calls.mono (HL.out _ (drew_up _)) ?_; rintro e w2 ⟨rfl, T', hm, htn⟩; have HS : Hid (Dz w2 q w.heap.size o _ 54) := (HS.out.land HN.out (HTl.out _ (Nat.lt_irrefl _)) htn (HK.out _ _ _ hm)); have HR : Hid (MR w2 q ps T' (landO o v M) ∧ Tn X T w2 T') := ⟨hm, Tn.trans (Tn.of (drew_up X)) htn⟩; obtain ⟨ba, bc, po, pc, hA⟩ := hm.mat; have a2 := hA.o; have f2 := hA.fz 331; have q2 := hA.lt; rw [HLo.out] at a2; clear hA hm htn HL))
    go_wp2_with fail
    go_ret
    obtain ⟨hm, htn⟩ := HR.out
    refine ⟨rfl, T', hm.setO, (Tn.of HE.out).trans (htn.trans ⟨(Fr.refl T' w2).setCell (.inr hm.tq) _ _, fun _ h => .inl h⟩)⟩
  · go_enter Tryz.func81, Tryz.ntmps81
    go_wp2_with fail
    obtain ⟨V, hV⟩ : ∃ V, V = w.alloc (.cells #[.int .i8 o.op, .int .u8 o.d, .int .u8 o.a, .int .u8 o.b, .int .i64 o.im] 51) := ⟨_, rfl⟩
    rw [← hV] at HD ⊢
    have HB : Hid (Below w.heap.size w V) := by rw [hV]; exact (Below.refl _ _).alloc (Nat.le_refl _) _
    have HVs : Hid (w.heap.size < V.heap.size) := by rw [hV]; show w.heap.size < (World.alloc _ _).heap.size; simp
    clear hV
    have e0 : ∀ z : Wd (Below V.heap.size V), z.w.cell? ⟨q, 1 + o.op.toNat * 2, none⟩ = some (.func (.func 55) #[] #[]) := fun z => (HD.out z.w z.ok).d0
    have e1 : ∀ z : Wd (Below V.heap.size V), z.w.cell? ⟨w.heap.size, 0, none⟩ = some (.int .i8 o.op) := fun z => (HD.out z.w z.ok).c0
    have e2 : ∀ z : Wd (Below V.heap.size V), z.w.cell? ⟨w.heap.size, 1, none⟩ = some (.int .u8 o.d) := fun z => (HD.out z.w z.ok).c1
    have e3 : ∀ z : Wd (Below V.heap.size V), z.w.cell? ⟨w.heap.size, 2, none⟩ = some (.int .u8 o.a) := fun z => (HD.out z.w z.ok).c2
    have e4 : ∀ z : Wd (Below V.heap.size V), z.w.cell? ⟨w.heap.size, 3, none⟩ = some (.int .u8 o.b) := fun z => (HD.out z.w z.ok).c3
    have e5 : ∀ z : Wd (Below V.heap.size V), z.w.cell? ⟨w.heap.size, 4, none⟩ = some (.int .i64 o.im) := fun z => (HD.out z.w z.ok).c4
    haveI inst : Nonempty (Wd (Below V.heap.size V)) := ⟨⟨V, Below.refl _ _⟩⟩
    have HX : Hid (∀ z : Wd (Below V.heap.size V), Below w.heap.size w z.w) := fun z => HB.out.trans (z.ok.mono HB.out.size)
    refine wp_region_in (Below V.heap.size V) (by kernel_rfl) (by kernel_rfl) ((Below.refl _ _).drew) ?_
    repeat (first | go_big_quiet_step ((go_at_call 55; exact calls_in (Nat.le_refl _) _ (HV.out _ (HX.out _)))))
    refine wpQuiet_nil ?_
    rintro _ ⟨x, rfl⟩
    have hx := HX.out x
    have HS : Hid (Dz x.w.drew q w.heap.size o _ 56) := (HD.out x.w x.ok).drew
    have HL : Hid (∀ W, Below x.w.heap.size x.w W → Calls Tryz.prog 56 #[ptr q, o.val, .int .i64 v] W (LandPost W q ps T (landO o v M))) := fun W hb => HQ.out W (hx.trans (hb.mono hx.size))
    have HN : Hid (w.heap.size < x.w.heap.size) := Nat.lt_of_lt_of_le HVs.out x.ok.size
    have HE : Hid (Below w.heap.size w x.w) := hx
    clear e0 e1 e2 e3 e4 e5 hx HD HV HX HQ HVs
    generalize x.w = X at *
    go_wp2_with fail
    go_region_held3 (fun w' => w'.cell? ⟨q, 1 + o.op.toNat * 2 + 1, none⟩ = some (.func (.func 56) #[] #[]) ∧ w'.cell? ⟨w.heap.size, 0, none⟩ = some (.int .i8 o.op) ∧ w'.cell? ⟨w.heap.size, 1, none⟩ = some (.int .u8 o.d) ∧ w'.cell? ⟨w.heap.size, 2, none⟩ = some (.int .u8 o.a) ∧ w'.cell? ⟨w.heap.size, 3, none⟩ = some (.int .u8 o.b) ∧ w'.cell? ⟨w.heap.size, 4, none⟩ = some (.int .i64 o.im))
      (first | exact HS.out.six)
      (first | (go_at_call 56; refine Calls.mono (HL.out _ (drew_up _)) ?_; rintro e w2 ⟨rfl, T', hm, htn⟩; have HS : Hid (Dz w2 q w.heap.size o _ 56) := (HS.out.land HN.out (HTl.out _ (Nat.lt_irrefl _)) htn (HK.out _ _ _ hm)); have HR : Hid (MR w2 q ps T' (landO o v M) ∧ Tn X T w2 T') := ⟨hm, Tn.trans (Tn.of (drew_up X)) htn⟩; obtain ⟨ba, bc, po, pc, hA⟩ := hm.mat; have a2 := hA.o; have f2 := hA.fz 331; have q2 := hA.lt; rw [HLo.out] at a2; clear hA hm htn HL))
    go_wp2_with fail
    go_ret
    obtain ⟨hm, htn⟩ := HR.out
    refine ⟨rfl, T', hm.setO, (Tn.of HE.out).trans (htn.trans ⟨(Fr.refl T' w2).setCell (.inr hm.tq) _ _, fun _ h => .inl h⟩)⟩
end
end Go.Proofs.YtddcndlogoajkaaGreatDoor.L8.Sm
