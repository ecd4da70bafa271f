/- The document's answer on an operation and what is known (op), read off the program by the walk. Conditions: said at each. -/
import Derived.Test.YtddcndlogoajkaaGreatDoorJc
import Derived.Test.YtddcndlogoajkaaGreatDoorQRw
import Derived.BigQuiet
import Derived.Deep.DeepCutAuto
import Derived.Great.Ranges
namespace Go.Proofs.YtddcndlogoajkaaGreatDoor.L8.Bt
open Go.ChangeShapes Go.WideShapes Go.ChangeAt Go.RowKit Go.Great
open _root_.Go.Proofs.YtddcndlogoajkaaGreatDoor.L8.Op _root_.Go.Proofs.YtddcndlogoajkaaGreatDoor.L8.So
open _root_.Go.Proofs.YtddcndlogoajkaaGreatDoor.L8.Lv (rdL wOf PsOk)
set_option maxRecDepth 20000

theorem docB_true {K : Kn} {M : Nat → Int} {k : Op.K} {o : O} (h : docB K M k o = true) : 2 ≤ o.op ∧ o.op ≤ 14 ∧ (K o.a.toNat).isSome = true ∧ (!k.B || (K o.b.toNat).isSome) = true ∧ rkE o.op (M o.b.toNat) = 0 ∧ -2147483648 ≤ rkV o.op (M o.a.toNat) (M o.b.toNat) ∧ rkV o.op (M o.a.toNat) (M o.b.toNat) ≤ 2147483647 := by
  simp only [docB, Bool.and_eq_true, decide_eq_true_eq] at h
  obtain ⟨⟨⟨⟨⟨⟨h1, h2⟩, h3⟩, h4⟩, h5⟩, h6⟩, h7⟩ := h
  exact ⟨h1, h2, h3, h4, h5, h6, h7⟩
/-- The four boxes, behind what was there. -/
structure Rb (w W : World) (c : Array Value) (K : Kn) (M : Nat → Int) : Prop where
  b : Below w.heap.size w W
  o : Op.At W w.heap.size c
  k : Rs W (w.heap.size + 1) K M
  r : Op.At W (w.heap.size + 2) #[.int .i8 0, .int .u8 0, .int .u8 0, .int .u8 0, .int .i64 0]
  q : Rs W (w.heap.size + 3) kn0 fun _ => 0
theorem Rb.up {w W W' : World} {c : Array Value} {K : Kn} {M : Nat → Int} (h : Rb w W c K M) (hb : Below W.heap.size W W') : Rb w W' c K M :=
  ⟨h.b.trans (hb.mono h.b.size), h.o.below hb h.o.lt, h.k.below hb, h.r.below hb h.r.lt, h.q.below hb⟩
theorem Rb.start (w : World) (c A Z : Array Value) (K : Kn) (M : Nat → Int) (hA : A = rA K M) (hZ : Z = rA kn0 fun _ => 0) : Rb w ((((w.alloc (.cells c 51)).alloc (.cells A 58)).alloc (.cells #[.int .i8 0, .int .u8 0, .int .u8 0, .int .u8 0, .int .i64 0] 51)).alloc (.cells Z 58)) c K M := by
  subst hA hZ
  have h0 := Op.At.new w c 51
  have h1 := Rs.new (w.alloc (.cells c 51)) K M 58
  have h2 := Op.At.new ((w.alloc (.cells c 51)).alloc (.cells (rA K M) 58)) #[.int .i8 0, .int .u8 0, .int .u8 0, .int .u8 0, .int .i64 0] 51
  have h3 := Rs.new (((w.alloc (.cells c 51)).alloc (.cells (rA K M) 58)).alloc (.cells #[.int .i8 0, .int .u8 0, .int .u8 0, .int .u8 0, .int .i64 0] 51)) kn0 (fun _ => 0) 58
  simp only [World.size_alloc] at h1 h2 h3
  refine ⟨?_, ?_, ?_, ?_, h3⟩
  · exact ((((Below.refl _ _).alloc (Nat.le_refl _) _).alloc (by simp) _).alloc (by simp; omega) _).alloc (by simp; omega) _
  · exact ((h0.below (below_al _) h0.lt).below (below_al _) (by simp; omega)).below (below_al _) (by simp; omega)
  · exact (h1.below (below_al _)).below (below_al _)
  · exact h2.below (below_al _) h2.lt
theorem Rb.put5 {w W : World} {y0 y1 y2 y3 y4 : Value} {K : Kn} {M : Nat → Int} (h : Rb w W #[y0, y1, y2, y3, y4] K M) (x0 x1 x2 x3 x4 : Value) : Rb w (((((W.setCell ⟨w.heap.size, 0, none⟩ x0).setCell ⟨w.heap.size, 1, none⟩ x1).setCell ⟨w.heap.size, 2, none⟩ x2).setCell ⟨w.heap.size, 3, none⟩ x3).setCell ⟨w.heap.size, 4, none⟩ x4) #[x0, x1, x2, x3, x4] K M := by
  obtain ⟨c0, c1, c2, c3, c4⟩ := h.o.o5
  have hne : ∀ (b : Nat), b ≠ w.heap.size → ∀ j, (((((W.setCell ⟨w.heap.size, 0, none⟩ x0).setCell ⟨w.heap.size, 1, none⟩ x1).setCell ⟨w.heap.size, 2, none⟩ x2).setCell ⟨w.heap.size, 3, none⟩ x3).setCell ⟨w.heap.size, 4, none⟩ x4).cell? ⟨b, j, none⟩ = W.cell? ⟨b, j, none⟩ := fun b hb j => by
    rw [ob (Ne.symm hb), ob (Ne.symm hb), ob (Ne.symm hb), ob (Ne.symm hb), ob (Ne.symm hb)]
  have hfz : ∀ b j, (((((W.setCell ⟨w.heap.size, 0, none⟩ x0).setCell ⟨w.heap.size, 1, none⟩ x1).setCell ⟨w.heap.size, 2, none⟩ x2).setCell ⟨w.heap.size, 3, none⟩ x3).setCell ⟨w.heap.size, 4, none⟩ x4).frozen? ⟨b, j, none⟩ = W.frozen? ⟨b, j, none⟩ := fun b j => by
    simp only [World.frozen?_setCell]
  refine ⟨((((h.b.setCell (Nat.le_refl _) x0).setCell (Nat.le_refl _) x1).setCell (Nat.le_refl _) x2).setCell (Nat.le_refl _) x3).setCell (Nat.le_refl _) x4, ⟨fun j v hv => ?_, fun j => by rw [hfz]; exact h.o.f j, by simpa using h.o.lt⟩, ⟨by simpa using h.k.lt, fun j => by rw [hfz]; exact h.k.fz j, fun j hj => by rw [hne _ (by omega)]; exact h.k.c j hj⟩, ⟨fun j v hv => by rw [hne _ (by omega)]; exact h.r.c j v hv, fun j => by rw [hfz]; exact h.r.f j, by simpa using h.r.lt⟩, ⟨by simpa using h.q.lt, fun j => by rw [hfz]; exact h.q.fz j, fun j hj => by rw [hne _ (by omega)]; exact h.q.c j hj⟩⟩
  have hj : j < 5 := by
    have := (Array.getElem?_eq_some_iff.1 hv).1
    simpa using this
  match j, hj with
  | 0, _ => cases hv; rw [co (by omega), co (by omega), co (by omega), co (by omega), cs c0]; rfl
  | 1, _ => cases hv; rw [co (by omega), co (by omega), co (by omega), cs ((co (by omega)).trans c1)]; rfl
  | 2, _ => cases hv; rw [co (by omega), co (by omega), cs ((co (by omega)).trans ((co (by omega)).trans c2))]; rfl
  | 3, _ => cases hv; rw [co (by omega), cs ((co (by omega)).trans ((co (by omega)).trans ((co (by omega)).trans c3)))]; rfl
  | 4, _ => cases hv; rw [cs ((co (by omega)).trans ((co (by omega)).trans ((co (by omega)).trans ((co (by omega)).trans c4))))]; rfl
/-- All that lies there behind the answer's operation. -/
structure Rr (w W : World) (c r : Array Value) (K : Kn) (M : Nat → Int) : Prop where
  b : Below w.heap.size w W
  o : Op.At W w.heap.size c
  k : Rs W (w.heap.size + 1) K M
  r : Op.At W (w.heap.size + 2) r
  q : Rs W (w.heap.size + 3) kn0 fun _ => 0
theorem Rb.putR {w W : World} {c : Array Value} {K : Kn} {M : Nat → Int} (h : Rb w W c K M) (x0 x1 x2 x3 x4 : Value) : Rr w (((((W.setCell ⟨w.heap.size + 2, 0, none⟩ x0).setCell ⟨w.heap.size + 2, 1, none⟩ x1).setCell ⟨w.heap.size + 2, 2, none⟩ x2).setCell ⟨w.heap.size + 2, 3, none⟩ x3).setCell ⟨w.heap.size + 2, 4, none⟩ x4) c #[x0, x1, x2, x3, x4] K M := by
  obtain ⟨c0, c1, c2, c3, c4⟩ := h.r.o5
  have hne : ∀ (b : Nat), b ≠ w.heap.size + 2 → ∀ j, (((((W.setCell ⟨w.heap.size + 2, 0, none⟩ x0).setCell ⟨w.heap.size + 2, 1, none⟩ x1).setCell ⟨w.heap.size + 2, 2, none⟩ x2).setCell ⟨w.heap.size + 2, 3, none⟩ x3).setCell ⟨w.heap.size + 2, 4, none⟩ x4).cell? ⟨b, j, none⟩ = W.cell? ⟨b, j, none⟩ := fun b hb j => by
    rw [ob (Ne.symm hb), ob (Ne.symm hb), ob (Ne.symm hb), ob (Ne.symm hb), ob (Ne.symm hb)]
  have hfz : ∀ b j, (((((W.setCell ⟨w.heap.size + 2, 0, none⟩ x0).setCell ⟨w.heap.size + 2, 1, none⟩ x1).setCell ⟨w.heap.size + 2, 2, none⟩ x2).setCell ⟨w.heap.size + 2, 3, none⟩ x3).setCell ⟨w.heap.size + 2, 4, none⟩ x4).frozen? ⟨b, j, none⟩ = W.frozen? ⟨b, j, none⟩ := fun b j => by
    simp only [World.frozen?_setCell]
  have hl : w.heap.size ≤ w.heap.size + 2 := Nat.le_add_right _ _
  refine ⟨((((h.b.setCell hl x0).setCell hl x1).setCell hl x2).setCell hl x3).setCell hl x4, ⟨fun j v hv => by rw [hne _ (by omega)]; exact h.o.c j v hv, fun j => by rw [hfz]; exact h.o.f j, by simpa using h.o.lt⟩, ⟨by simpa using h.k.lt, fun j => by rw [hfz]; exact h.k.fz j, fun j hj => by rw [hne _ (by omega)]; exact h.k.c j hj⟩, ⟨fun j v hv => ?_, fun j => by rw [hfz]; exact h.r.f j, by simpa using h.r.lt⟩, ⟨by simpa using h.q.lt, fun j => by rw [hfz]; exact h.q.fz j, fun j hj => by rw [hne _ (by omega)]; exact h.q.c j hj⟩⟩
  have hj : j < 5 := by
    have := (Array.getElem?_eq_some_iff.1 hv).1
    simpa using this
  match j, hj with
  | 0, _ => cases hv; rw [co (by omega), co (by omega), co (by omega), co (by omega), cs c0]; rfl
  | 1, _ => cases hv; rw [co (by omega), co (by omega), co (by omega), cs ((co (by omega)).trans c1)]; rfl
  | 2, _ => cases hv; rw [co (by omega), co (by omega), cs ((co (by omega)).trans ((co (by omega)).trans c2))]; rfl
  | 3, _ => cases hv; rw [co (by omega), cs ((co (by omega)).trans ((co (by omega)).trans ((co (by omega)).trans c3)))]; rfl
  | 4, _ => cases hv; rw [cs ((co (by omega)).trans ((co (by omega)).trans ((co (by omega)).trans ((co (by omega)).trans c4))))]; rfl
theorem at_range5 {W : World} {b : Nat} {x y z u v : Value} (h : Op.At W b #[x, y, z, u, v]) : W.rangeAt b 0 [x, y, z, u, v] := fun j t ht => by
  rw [Nat.zero_add]
  exact h.c j t (by rw [← Array.getElem?_toList]; exact ht)
theorem rs_there {W : World} {q : Nat} {K : Kn} {M : Nat → Int} (h : Rs W q K M) : W.there q 0 64 := fun j hj => by
  rw [Nat.zero_add]
  exact ⟨by rw [h.c j hj]; rfl, h.fz j⟩
/-- All that lies there at the end. -/
structure Rt (w W : World) (c r : Array Value) (K : Kn) (M : Nat → Int) : Prop where
  b : Below w.heap.size w W
  o : Op.At W w.heap.size c
  k : Rs W (w.heap.size + 1) K M
  r : Op.At W (w.heap.size + 2) r
  q : Rs W (w.heap.size + 3) K M
theorem Rr.laid {w W : World} {c r : Array Value} {K : Kn} {M : Nat → Int} (h : Rr w W c r K M) (K' : Kn) (M' : Nat → Int) (e : K' = K ∧ M' = M := by exact ⟨rfl, rfl⟩) : Rt w (W.setCells (w.heap.size + 3) 0 (rA K' M').toList) c r K M := by
  obtain ⟨rfl, rfl⟩ := e
  have hF : Fr (One (w.heap.size + 3)) W (W.setCells (w.heap.size + 3) 0 (rA K' M').toList) := fr_setCells (X := One (w.heap.size + 3)) rfl _ _ (Fr.refl _ _)
  have hn : ∀ b, b ≠ w.heap.size + 3 → ¬ One (w.heap.size + 3) b := fun b hb q => hb q
  refine ⟨h.b.trans (hF.below h.b.size fun j hj q => by have q : j = w.heap.size + 3 := q; omega), ⟨fun j v hv => (hF.cell h.o.lt (hn _ (by omega)) _).trans (h.o.c j v hv), fun j => by rw [hF.frozen h.o.lt (hn _ (by omega))]; exact h.o.f j, Nat.lt_of_lt_of_le h.o.lt hF.size⟩, ⟨Nat.lt_of_lt_of_le h.k.lt hF.size, fun j => by rw [hF.frozen h.k.lt (hn _ (by omega))]; exact h.k.fz j, fun j hj => (hF.cell h.k.lt (hn _ (by omega)) _).trans (h.k.c j hj)⟩, ⟨fun j v hv => (hF.cell h.r.lt (hn _ (by omega)) _).trans (h.r.c j v hv), fun j => by rw [hF.frozen h.r.lt (hn _ (by omega))]; exact h.r.f j, Nat.lt_of_lt_of_le h.r.lt hF.size⟩, rs_laid h.q⟩
/-- What an operation leaves, put into the document's Known. -/
theorem Rb.putK {w W : World} {c : Array Value} {K : Kn} {M : Nat → Int} (h : Rb w W c K M) {d : Nat} (hd : d < 32) (v : Option Int) (n : Int) : Rb w ((W.setCell ⟨w.heap.size + 1, d, none⟩ (.bool v.isSome)).setCell ⟨w.heap.size + 1, 32 + d, none⟩ (.int .i64 n)) c (Bt.putK K d v) (putN M d n) := by
  have hne : ∀ (b : Nat), b ≠ w.heap.size + 1 → ∀ j, ((W.setCell ⟨w.heap.size + 1, d, none⟩ (.bool v.isSome)).setCell ⟨w.heap.size + 1, 32 + d, none⟩ (.int .i64 n)).cell? ⟨b, j, none⟩ = W.cell? ⟨b, j, none⟩ := fun b hb j => by
    rw [ob (Ne.symm hb), ob (Ne.symm hb)]
  have hfz : ∀ b j, ((W.setCell ⟨w.heap.size + 1, d, none⟩ (.bool v.isSome)).setCell ⟨w.heap.size + 1, 32 + d, none⟩ (.int .i64 n)).frozen? ⟨b, j, none⟩ = W.frozen? ⟨b, j, none⟩ := fun b j => by
    simp only [World.frozen?_setCell]
  exact ⟨(h.b.setCell (Nat.le_succ _) _).setCell (Nat.le_succ _) _, ⟨fun j u hu => by rw [hne _ (by omega)]; exact h.o.c j u hu, fun j => by rw [hfz]; exact h.o.f j, by simpa using h.o.lt⟩, h.k.put hd v n, ⟨fun j u hu => by rw [hne _ (by omega)]; exact h.r.c j u hu, fun j => by rw [hfz]; exact h.r.f j, by simpa using h.r.lt⟩, ⟨by simpa using h.q.lt, fun j => by rw [hfz]; exact h.q.fz j, fun j hj => by rw [hne _ (by omega)]; exact h.q.c j hj⟩⟩
set_option maxHeartbeats 8000000 in
theorem op_true (K : Kn) (M : Nat → Int) (o : O) (k : Op.K) (w : World) (hS : Say K M) (ho : o.Ok) (hp : okP o = true) (hk : kOf o.op = some k) (hf : okF k o = true) (ha : o.a < 32) (hb : o.b < 32) (hfd : fdB K o = true) (hM : ∀ r, -9223372036854775808 ≤ M r ∧ M r ≤ 9223372036854775807) :
    Calls Tryz.prog 41 #[o.val, .agg (rA K M)] w fun e w' => e = .returned (.tuple #[(fdO K o).val, .agg (rA (ntO K (fdO K o)) (ntN M (fdO K o)))]) ∧ Below w.heap.size w w' := by
  have HF : Hid (∀ w, Calls Tryz.prog 67 #[.int .i8 o.op] w fun e w' => e = .returned (.tuple #[.agg #[.string k.s, .int .i64 k.cls, .bool k.D, .bool k.A, .bool k.B, .bool k.N, .bool k.I], .bool true]) ∧ Below w.heap.size w w') := fun w => of_yes o.op k w hk
  obtain ⟨na, hna⟩ : ∃ n : Nat, o.a = n := ⟨o.a.toNat, by have := ho.a0; omega⟩
  obtain ⟨nb, hnb⟩ : ∃ n : Nat, o.b = n := ⟨o.b.toNat, by have := ho.b0; omega⟩
  have hfb : fdB K o = docB K M k o := doc_folds hS hk hf ho
  have hai : (na : Int) < 32 := by omega
  have hbi : (nb : Int) < 32 := by omega
  have hpost : Calls Tryz.prog 41 #[o.val, .agg (rA K M)] w (fun e w' => e = .returned (.tuple #[(fdO K o).val, .agg (rA (ntO K (fdO K o)) (ntN M (fdO K o)))]) ∧ Below w.heap.size w w') := by
    obtain ⟨op, d, a, b, im⟩ := o
    simp only at hna hnb
    subst hna
    subst hnb
    have HB0 : Hid _ := fun A Z h1 h2 => Rb.start w #[.int .i8 op, .int .u8 d, .int .u8 na, .int .u8 nb, .int .i64 im] A Z K M h1 h2
    generalize hA : rA K M = A at *
    generalize hfo : fdO K ⟨op, d, na, nb, im⟩ = o' at *
    go_enter Tryz.func41, Tryz.ntmps41
    apply wp_seq_k; intro K0 hK0
    apply wp_region_lit
    refine wpList_boxTo rfl 51 (.tmp 0) rfl (some 2) rfl w.heap.size rfl #[.int .i8 op, .int .u8 d, .int .u8 na, .int .u8 nb, .int .i64 im] rfl ?_
    refine wpList_boxTo rfl 58 (.tmp 1) rfl (some 3) rfl (w.heap.size + 1) (by simp) A rfl ?_
    refine wpList_allocTo rfl (some 4) rfl (.pointer (some ⟨((w.alloc (.cells #[.int .i8 op, .int .u8 d, .int .u8 na, .int .u8 nb, .int .i64 im] 51)).alloc (.cells A 58)).heap.size, 0, none⟩)) (.cells #[.int .i8 0, .int .u8 0, .int .u8 0, .int .u8 0, .int .i64 0] 51) (by kernel_rfl) ?_
    refine wpList_allocTo rfl (some 5) rfl (.pointer (some ⟨(((w.alloc (.cells #[.int .i8 op, .int .u8 d, .int .u8 na, .int .u8 nb, .int .i64 im] 51)).alloc (.cells A 58)).alloc (.cells #[.int .i8 0, .int .u8 0, .int .u8 0, .int .u8 0, .int .i64 0] 51)).heap.size, 0, none⟩)) (.cells (rA kn0 fun _ => 0) 58) (by kernel_rfl) ?_
    refine wpList_nil ?_
    refine hK0 _ _ ?_
    clear hK0 K0
    have HB := HB0.out A (rA kn0 fun _ => 0) rfl rfl
    generalize (((w.alloc (.cells #[.int .i8 op, .int .u8 d, .int .u8 na, .int .u8 nb, .int .i64 im] 51)).alloc (.cells A 58)).alloc (.cells #[.int .i8 0, .int .u8 0, .int .u8 0, .int .u8 0, .int .i64 0] 51)).alloc (.cells (rA kn0 fun _ => 0) 58) = W0 at *
    simp only [Act.put, List.setIfInBounds_toArray, List.set_cons_zero, List.set_cons_succ, World.size_alloc, Nat.add_assoc, Nat.reduceAdd]
    obtain ⟨o0, o1, o2, o3, o4⟩ := HB.o.o5
    have H1 : Hid _ := HB
    clear HB HB0
    go_upto_region 2 with (first | (go_at_call 67; refine Calls.mono (HF.out _) ?_; rintro e w1 ⟨rfl, hb⟩; have H2 : Hid (Rb w w1 #[.int .i8 op, .int .u8 d, .int .u8 na, .int .u8 nb, .int .i64 im] K M) := H1.out.up hb; clear hb H1 HF o0 o1 o2 o3 o4))
    generalize hy : w1.heap.size = y at *
    have hyz : w.heap.size + 4 ≤ y := by have := H2.out.q.lt; omega
    have H3 : Hid (Rb w (w1.alloc (.cells #[.string k.s, .int .i64 k.cls, .bool k.D, .bool k.A, .bool k.B, .bool k.N, .bool k.I] 120)) #[.int .i8 op, .int .u8 d, .int .u8 na, .int .u8 nb, .int .i64 im] K M ∧ Op.At (w1.alloc (.cells #[.string k.s, .int .i64 k.cls, .bool k.D, .bool k.A, .bool k.B, .bool k.N, .bool k.I] 120)) y #[.string k.s, .int .i64 k.cls, .bool k.D, .bool k.A, .bool k.B, .bool k.N, .bool k.I]) := ⟨H2.out.up (below_al _), hy ▸ Op.At.new w1 _ _⟩
    generalize w1.alloc (.cells #[.string k.s, .int .i64 k.cls, .bool k.D, .bool k.A, .bool k.B, .bool k.N, .bool k.I] 120) = w5 at *
    clear H2 hy w1
    obtain ⟨o0, o1, o2, o3, o4⟩ := H3.out.1.o.o5
    have r4 : w5.cell? ⟨y, 4, none⟩ = some (.bool k.B) := H3.out.2.c 4 _ rfl
    have ca := H3.out.1.k.b (r := na) (by omega)
    have cb := H3.out.1.k.b (r := nb) (by omega)
    have va := H3.out.1.k.n (r := na) (by omega)
    have vb := H3.out.1.k.n (r := nb) (by omega)
    have hMa := hM na
    clear hM
    have hdum : True := trivial
    · clear hdum
      have hd2 := doc_number hS hk hf ho hfd
      rw [hfd] at hfb
      obtain ⟨i1, i2, i3, i4, i5, i6, i7⟩ := docB_true hfb.symm
      replace i1 : (2 : Int) ≤ op := i1
      replace i2 : op ≤ (14 : Int) := i2
      replace i3 : (K na).isSome = true := i3
      replace i4 : (!k.B || (K nb).isSome) = true := i4
      replace i5 : rkE op (M nb) = 0 := i5
      replace i6 : (-2147483648 : Int) ≤ rkV op (M na) (M nb) := i6
      replace i7 : rkV op (M na) (M nb) ≤ (2147483647 : Int) := i7
      replace hd2 : fdO K ⟨op, d, na, nb, im⟩ = cst d (rkV op (M na) (M nb)) := hd2
      rw [i3] at ca
      have HRk : Hid _ := fun w => rf_any op (M na) (M nb) w hMa.1 hMa.2
      rw [i5] at HRk
      generalize rkV op (M na) (M nb) = v at *
      have hdr : 0 ≤ d ∧ d < 32 := ⟨ho.d0, by
        have hh := hf
        simp only [okF, Bool.and_eq_true] at hh
        have h8 := hh.1.1.1
        rw [(mid_of hk i1 i2).1] at h8
        simpa [rH] using h8⟩
      have HI : Hid (-2147483648 ≤ v ∧ v ≤ 2147483647) := ⟨i6, i7⟩
      clear i5 i6 i7 hfb hk hf ho hp hA ha hb
      have HE : Hid (o' = cst d v) := hfo ▸ hd2
      obtain ⟨nd, rfl⟩ : ∃ n : Nat, d = n := ⟨d.toNat, by omega⟩
      have hnd : nd < 32 := by omega
      have hndi : (nd : Int) < 32 := by omega
      have HBc : Hid (∀ v : Int, -2147483648 ≤ v → v ≤ 2147483647 → ∀ w, Calls Tryz.prog 69 #[.agg #[.int .i8 1, .int .u8 nd, .int .u8 0, .int .u8 0, .int .i64 v]] w fun e w' => e = .returned (.agg #[.int .i8 1, .int .u8 nd, .int .u8 0, .int .u8 0, .int .i64 v]) ∧ Below w.heap.size w w') := fun v h1 h2 w => by
        have hr : rH (nd : Int) true = true := by simp [rH]; omega
        have hk : kOf (cst nd v).op = some kindL[1] := rfl
        exact bare_any (cst nd v) kindL[1] w hk (zr_of (by rw [← okO_some hk, okO_cst hr]; simp; omega)) (by simp [cst]) (by simp [cst])
      have HKc : Hid (∀ v : Int, -2147483648 ≤ v → v ≤ 2147483647 → o' = cst nd v → putK K nd (some v) = ntO K o' ∧ putN M nd v = ntN M o') := fun v h1 h2 he => by
        have hr : rH (nd : Int) true = true := by simp [rH]; omega
        have hb : wrB (cst nd v) = true := by
          have hk : kOf (cst nd v).op = some kindL[1] := rfl
          rw [wr_yes hk (by rw [← okO_some hk, okO_cst hr]; simp; omega)]; rfl
        rw [he]
        unfold ntO ntN
        rw [if_pos hb, if_pos hb]
        exact ⟨rfl, rfl⟩
      have HWc : Hid (∀ v : Int, -2147483648 ≤ v → v ≤ 2147483647 → ∀ w, Calls Tryz.prog 44 #[.agg #[.int .i8 1, .int .u8 nd, .int .u8 0, .int .u8 0, .int .i64 v]] w fun e w' => e = .returned (.tuple #[.int .u8 nd, .bool true]) ∧ Below w.heap.size w w') := fun v h1 h2 w => by
        have hr : rH (nd : Int) true = true := by simp [rH]; omega
        have hc := refWrites_any (cst nd v) w ⟨by simp [cst], by simp [cst], by simp [cst], by simp only [cst]; omega, by simp [cst], by simp [cst], by simp [cst], by simp [cst], by simp only [cst]; omega, by simp only [cst]; omega⟩
        have hb : wrB (cst nd v) = true := by
          have hk : kOf (cst nd v).op = some kindL[1] := rfl
          rw [wr_yes hk (by rw [← okO_some hk, okO_cst hr]; simp; omega)]; rfl
        rw [show wrD (cst nd v) = (nd : Int) by unfold wrD; rw [if_pos hb]; rfl, hb] at hc
        exact hc
      clear hd2 hfo
      generalize M na = ma at *
      generalize M nb = mb at *
      cases hkB : k.B with
      | true =>
        rw [hkB] at i4 r4
        replace i4 : (K nb).isSome = true := by simpa using i4
        rw [i4] at cb
        go_upto_region 3 with fail
        go_quiet (first | (go_at_call 68; refine Calls.quiet_of_same (HRk.out _)))
        rename Nat => n1
        have H4 : Hid _ := H3.out.1.up (drewN_below (Below.refl _ _) n1)
        clear o0 o1 o2 o3 o4 r4 ca cb va vb H3 HRk
        generalize w5.drewN n1 = w6 at *
        clear w5
        obtain ⟨o0, o1, o2, o3, o4⟩ := H4.out.o.o5
        have f0 := H4.out.o.f 0; have f1 := H4.out.o.f 1; have f2 := H4.out.o.f 2; have f3 := H4.out.o.f 3; have f4 := H4.out.o.f 4
        obtain ⟨v1, v2⟩ := HI.out
        go_upto_region 6 with fail
        have H5 : Hid _ := H4.out.put5 (.int .i8 1) (.int .u8 nd) (.int .u8 0) (.int .u8 0) (.int .i64 v)
        clear o0 o1 o2 o3 o4 f0 f1 f2 f3 f4 H4
        generalize ((((w6.setCell ⟨w.heap.size, 0, none⟩ (.int .i8 1)).setCell ⟨w.heap.size, 1, none⟩ (.int .u8 nd)).setCell ⟨w.heap.size, 2, none⟩ (.int .u8 0)).setCell ⟨w.heap.size, 3, none⟩ (.int .u8 0)).setCell ⟨w.heap.size, 4, none⟩ (.int .i64 v) = w7 at *
        clear w6
        obtain ⟨o0, o1, o2, o3, o4⟩ := H5.out.o.o5
        have HW : Hid (∀ w, Calls Tryz.prog 44 #[.agg #[.int .i8 1, .int .u8 nd, .int .u8 0, .int .u8 0, .int .i64 v]] w fun e w' => e = .returned (.tuple #[.int .u8 nd, .bool true]) ∧ Below w.heap.size w w') := HWc.out v v1 v2
        go_upto_region 7 with (first | (go_at_call 44; go_loud (refine Calls.mono (HW.out _) ?_; rintro e w8 ⟨rfl, hb⟩; have H6 : Hid _ := H5.out.up hb; clear hb H5 HW o0 o1 o2 o3 o4)))
        obtain ⟨o0, o1, o2, o3, o4⟩ := H6.out.o.o5
        have k1 := H6.out.k.b hnd
        have k2 := H6.out.k.n hnd
        have f1 := H6.out.k.fz nd
        have f2 := H6.out.k.fz (32 + nd)
        go_upto_region 10 with fail
        have H9 : Hid (Rb w ((w8.setCell ⟨w.heap.size + 1, nd, none⟩ (.bool true)).setCell ⟨w.heap.size + 1, 32 + nd, none⟩ (.int .i64 v)) #[.int .i8 1, .int .u8 nd, .int .u8 0, .int .u8 0, .int .i64 v] (putK K nd (some v)) (putN M nd v)) := H6.out.putK hnd (some v) v
        clear o0 o1 o2 o3 o4 k1 k2 f1 f2 H6
        generalize (w8.setCell ⟨w.heap.size + 1, nd, none⟩ (.bool true)).setCell ⟨w.heap.size + 1, 32 + nd, none⟩ (.int .i64 v) = w9 at *
        clear w8
        have HBr : Hid (∀ w, Calls Tryz.prog 69 #[.agg #[.int .i8 1, .int .u8 nd, .int .u8 0, .int .u8 0, .int .i64 v]] w fun e w' => e = .returned (.agg #[.int .i8 1, .int .u8 nd, .int .u8 0, .int .u8 0, .int .i64 v]) ∧ Below w.heap.size w w') := HBc.out v v1 v2
        have hKV : Hid (putK K nd (some v) = ntO K o' ∧ putN M nd v = ntN M o') := HKc.out v v1 v2 HE.out
        generalize putK K nd (some v) = K9 at *
        generalize putN M nd v = M9 at *
        have HDd := H9.out.up (Below.refl _ _).drew
        refine wp_region_held_drew (S := fun W' => Op.At W' w.heap.size #[.int .i8 1, .int .u8 nd, .int .u8 0, .int .u8 0, .int .i64 v] ∧ Rs W' (w.heap.size + 1) K9 M9) (by kernel_rfl) ⟨HDd.o, HDd.k⟩ (fun hHeld => ?_)
        have HX : Hid _ := HDd
        clear HDd H9
        generalize w9.drew = XD at *
        clear w9
        refine wpAnyH_take (i := 0) (v := .agg #[.int .i8 1, .int .u8 nd, .int .u8 0, .int .u8 0, .int .i64 v]) rfl (by kernel_rfl) (by kernel_rfl) (by kernel_rfl) (fun _ _ _ h => h) (Or.inl ⟨by rfl, fun w' hSw => by (obtain ⟨g0, g1, g2, g3, g4⟩ := hSw.1.o5; clear hSw; go_simp)⟩) hHeld ?_
        simp only [Act.put, List.setIfInBounds_toArray, List.set_cons_zero, List.set_cons_succ, List.getElem_cons_zero, List.getElem_toArray]
        refine wpAnyH_take (i := 2) (v := .agg (rA K9 M9).toList.toArray) rfl (by kernel_rfl) (by kernel_rfl) (by kernel_rfl) (fun _ _ _ h => h) (yieldsIf_load_mid (by rfl) 58 (.tmp 3) rfl (w.heap.size + 1) 0 rfl (rA K9 M9).toList _ (fun w' hSw => rs_range hSw.2) Tryz.underlying58 rfl (by rw [rA_len]; exact info58)) hHeld ?_
        simp only [Act.put, List.setIfInBounds_toArray, List.set_cons_zero, List.set_cons_succ, List.getElem_cons_zero, List.getElem_cons_succ, List.getElem_toArray]
        refine wpAnyH_ready (rs := [1]) (by kernel_rfl) (by simp) ?_
        refine AllReadyH.cons rfl (fun KK hKK => ?_) AllReadyH.nil
        go_simp
        refine Calls.mono (HBr.out _) ?_
        rintro e w10 ⟨rfl, hb⟩
        have HY : Hid _ := HX.out.up hb
        clear hb HX HBr
        refine hKK.out _ _ ⟨HY.out.o, HY.out.k⟩ (fun hHeld => ?_)
        clear hKK KK
        refine wpAnyH_ready (rs := [3]) (by kernel_rfl) (by simp) ?_
        refine AllReadyH.cons rfl (fun KK hKK => ?_) AllReadyH.nil
        obtain ⟨t0, t1, t2, t3, t4⟩ := HY.out.r.o5
        have f0 := HY.out.r.f 0; have f1 := HY.out.r.f 1; have f2 := HY.out.r.f 2; have f3 := HY.out.r.f 3; have f4 := HY.out.r.f 4
        go_simp
        have HZ0 := HY.out.putR (.int .i8 1) (.int .u8 nd) (.int .u8 0) (.int .u8 0) (.int .i64 v)
        have HZ : Hid _ := HZ0
        clear HY t0 t1 t2 t3 t4 f0 f1 f2 f3 f4
        refine hKK.out _ _ ⟨HZ0.o, HZ0.k⟩ (fun hHeld => ?_)
        clear hKK KK HZ0
        refine wpAnyH_ready (rs := [4]) (by kernel_rfl) (by simp) ?_
        refine AllReadyH.cons rfl (fun KK hKK => ?_) AllReadyH.nil
        rw [if_pos (by rfl)]
        have HZ2 := HZ.out
        have ht : Rs _ (w.heap.size + 3) kn0 (fun _ => 0) := HZ2.q
        refine wp_store_mid 58 (.tmp 5) (.tmp 94) rfl (w.heap.size + 3) 0 (rA K9 M9) rfl rfl (by rw [rA_size]; exact rs_there ht) (by rw [rA_size]; exact info58) (rA_one K9 M9) ?_
        have HZ3 : Hid _ := HZ2.laid K9 M9
        have hl := run_loadVar_mid (P := Tryz.prog) _ (w.heap.size + 3) 0 58 (rA K9 M9).toList _ (rs_range HZ3.out.q) Tryz.underlying58 rfl (by rw [rA_len]; exact info58)
        rw [Array.toArray_toList] at hl
        have hl0 := run_loadVar_mid (P := Tryz.prog) _ (w.heap.size + 2) 0 51 [.int .i8 1, .int .u8 nd, .int .u8 0, .int .u8 0, .int .i64 v] _ (at_range5 HZ3.out.r) Tryz.underlying51 rfl (by kernel_rfl)
        clear HZ HZ2 ht
        refine hKK.out _ _ ⟨HZ3.out.o, HZ3.out.k⟩ (fun hHeld => ?_)
        clear hKK KK
        refine wpAnyH_done (by kernel_rfl) ?_ _
        have hK9 := ‹∀ (a : Act) (w : World), Code.wp Tryz.prog Code.ret _ a w → _›
        refine hK9 _ _ ?_
        refine wp_ret ?_
        refine bodyPost_ret (v := .tuple #[.agg #[.int .i8 1, .int .u8 nd, .int .u8 0, .int .u8 0, .int .i64 v], .agg (rA K9 M9)]) (by simp [results, Tryz.results41, asAddr, Act.put, hl, hl0]) rfl ⟨by rw [← hKV.out.1, ← hKV.out.2, HE.out]; rfl, HZ3.out.b⟩
      | false =>
        rw [hkB] at r4
        clear i4
        go_upto_region 3 with fail
        go_quiet (first | (go_at_call 68; refine Calls.quiet_of_same (HRk.out _)))
        rename Nat => n1
        have H4 : Hid _ := H3.out.1.up (drewN_below (Below.refl _ _) n1)
        clear o0 o1 o2 o3 o4 r4 ca cb va vb H3 HRk
        generalize w5.drewN n1 = w6 at *
        clear w5
        obtain ⟨o0, o1, o2, o3, o4⟩ := H4.out.o.o5
        have f0 := H4.out.o.f 0; have f1 := H4.out.o.f 1; have f2 := H4.out.o.f 2; have f3 := H4.out.o.f 3; have f4 := H4.out.o.f 4
        obtain ⟨v1, v2⟩ := HI.out
        go_upto_region 6 with fail
        have H5 : Hid _ := H4.out.put5 (.int .i8 1) (.int .u8 nd) (.int .u8 0) (.int .u8 0) (.int .i64 v)
        clear o0 o1 o2 o3 o4 f0 f1 f2 f3 f4 H4
        generalize ((((w6.setCell ⟨w.heap.size, 0, none⟩ (.int .i8 1)).setCell ⟨w.heap.size, 1, none⟩ (.int .u8 nd)).setCell ⟨w.heap.size, 2, none⟩ (.int .u8 0)).setCell ⟨w.heap.size, 3, none⟩ (.int .u8 0)).setCell ⟨w.heap.size, 4, none⟩ (.int .i64 v) = w7 at *
        clear w6
        obtain ⟨o0, o1, o2, o3, o4⟩ := H5.out.o.o5
        have HW : Hid (∀ w, Calls Tryz.prog 44 #[.agg #[.int .i8 1, .int .u8 nd, .int .u8 0, .int .u8 0, .int .i64 v]] w fun e w' => e = .returned (.tuple #[.int .u8 nd, .bool true]) ∧ Below w.heap.size w w') := HWc.out v v1 v2
        go_upto_region 7 with (first | (go_at_call 44; go_loud (refine Calls.mono (HW.out _) ?_; rintro e w8 ⟨rfl, hb⟩; have H6 : Hid _ := H5.out.up hb; clear hb H5 HW o0 o1 o2 o3 o4)))
        obtain ⟨o0, o1, o2, o3, o4⟩ := H6.out.o.o5
        have k1 := H6.out.k.b hnd
        have k2 := H6.out.k.n hnd
        have f1 := H6.out.k.fz nd
        have f2 := H6.out.k.fz (32 + nd)
        go_upto_region 10 with fail
        have H9 : Hid (Rb w ((w8.setCell ⟨w.heap.size + 1, nd, none⟩ (.bool true)).setCell ⟨w.heap.size + 1, 32 + nd, none⟩ (.int .i64 v)) #[.int .i8 1, .int .u8 nd, .int .u8 0, .int .u8 0, .int .i64 v] (putK K nd (some v)) (putN M nd v)) := H6.out.putK hnd (some v) v
        clear o0 o1 o2 o3 o4 k1 k2 f1 f2 H6
        generalize (w8.setCell ⟨w.heap.size + 1, nd, none⟩ (.bool true)).setCell ⟨w.heap.size + 1, 32 + nd, none⟩ (.int .i64 v) = w9 at *
        clear w8
        have HBr : Hid (∀ w, Calls Tryz.prog 69 #[.agg #[.int .i8 1, .int .u8 nd, .int .u8 0, .int .u8 0, .int .i64 v]] w fun e w' => e = .returned (.agg #[.int .i8 1, .int .u8 nd, .int .u8 0, .int .u8 0, .int .i64 v]) ∧ Below w.heap.size w w') := HBc.out v v1 v2
        have hKV : Hid (putK K nd (some v) = ntO K o' ∧ putN M nd v = ntN M o') := HKc.out v v1 v2 HE.out
        generalize putK K nd (some v) = K9 at *
        generalize putN M nd v = M9 at *
        have HDd := H9.out.up (Below.refl _ _).drew
        refine wp_region_held_drew (S := fun W' => Op.At W' w.heap.size #[.int .i8 1, .int .u8 nd, .int .u8 0, .int .u8 0, .int .i64 v] ∧ Rs W' (w.heap.size + 1) K9 M9) (by kernel_rfl) ⟨HDd.o, HDd.k⟩ (fun hHeld => ?_)
        have HX : Hid _ := HDd
        clear HDd H9
        generalize w9.drew = XD at *
        clear w9
        refine wpAnyH_take (i := 0) (v := .agg #[.int .i8 1, .int .u8 nd, .int .u8 0, .int .u8 0, .int .i64 v]) rfl (by kernel_rfl) (by kernel_rfl) (by kernel_rfl) (fun _ _ _ h => h) (Or.inl ⟨by rfl, fun w' hSw => by (obtain ⟨g0, g1, g2, g3, g4⟩ := hSw.1.o5; clear hSw; go_simp)⟩) hHeld ?_
        simp only [Act.put, List.setIfInBounds_toArray, List.set_cons_zero, List.set_cons_succ, List.getElem_cons_zero, List.getElem_toArray]
        refine wpAnyH_take (i := 2) (v := .agg (rA K9 M9).toList.toArray) rfl (by kernel_rfl) (by kernel_rfl) (by kernel_rfl) (fun _ _ _ h => h) (yieldsIf_load_mid (by rfl) 58 (.tmp 3) rfl (w.heap.size + 1) 0 rfl (rA K9 M9).toList _ (fun w' hSw => rs_range hSw.2) Tryz.underlying58 rfl (by rw [rA_len]; exact info58)) hHeld ?_
        simp only [Act.put, List.setIfInBounds_toArray, List.set_cons_zero, List.set_cons_succ, List.getElem_cons_zero, List.getElem_cons_succ, List.getElem_toArray]
        refine wpAnyH_ready (rs := [1]) (by kernel_rfl) (by simp) ?_
        refine AllReadyH.cons rfl (fun KK hKK => ?_) AllReadyH.nil
        go_simp
        refine Calls.mono (HBr.out _) ?_
        rintro e w10 ⟨rfl, hb⟩
        have HY : Hid _ := HX.out.up hb
        clear hb HX HBr
        refine hKK.out _ _ ⟨HY.out.o, HY.out.k⟩ (fun hHeld => ?_)
        clear hKK KK
        refine wpAnyH_ready (rs := [3]) (by kernel_rfl) (by simp) ?_
        refine AllReadyH.cons rfl (fun KK hKK => ?_) AllReadyH.nil
        obtain ⟨t0, t1, t2, t3, t4⟩ := HY.out.r.o5
        have f0 := HY.out.r.f 0; have f1 := HY.out.r.f 1; have f2 := HY.out.r.f 2; have f3 := HY.out.r.f 3; have f4 := HY.out.r.f 4
        go_simp
        have HZ0 := HY.out.putR (.int .i8 1) (.int .u8 nd) (.int .u8 0) (.int .u8 0) (.int .i64 v)
        have HZ : Hid _ := HZ0
        clear HY t0 t1 t2 t3 t4 f0 f1 f2 f3 f4
        refine hKK.out _ _ ⟨HZ0.o, HZ0.k⟩ (fun hHeld => ?_)
        clear hKK KK HZ0
        refine wpAnyH_ready (rs := [4]) (by kernel_rfl) (by simp) ?_
        refine AllReadyH.cons rfl (fun KK hKK => ?_) AllReadyH.nil
        rw [if_pos (by rfl)]
        have HZ2 := HZ.out
        have ht : Rs _ (w.heap.size + 3) kn0 (fun _ => 0) := HZ2.q
        refine wp_store_mid 58 (.tmp 5) (.tmp 94) rfl (w.heap.size + 3) 0 (rA K9 M9) rfl rfl (by rw [rA_size]; exact rs_there ht) (by rw [rA_size]; exact info58) (rA_one K9 M9) ?_
        have HZ3 : Hid _ := HZ2.laid K9 M9
        have hl := run_loadVar_mid (P := Tryz.prog) _ (w.heap.size + 3) 0 58 (rA K9 M9).toList _ (rs_range HZ3.out.q) Tryz.underlying58 rfl (by rw [rA_len]; exact info58)
        rw [Array.toArray_toList] at hl
        have hl0 := run_loadVar_mid (P := Tryz.prog) _ (w.heap.size + 2) 0 51 [.int .i8 1, .int .u8 nd, .int .u8 0, .int .u8 0, .int .i64 v] _ (at_range5 HZ3.out.r) Tryz.underlying51 rfl (by kernel_rfl)
        clear HZ HZ2 ht
        refine hKK.out _ _ ⟨HZ3.out.o, HZ3.out.k⟩ (fun hHeld => ?_)
        clear hKK KK
        refine wpAnyH_done (by kernel_rfl) ?_ _
        have hK9 := ‹∀ (a : Act) (w : World), Code.wp Tryz.prog Code.ret _ a w → _›
        refine hK9 _ _ ?_
        refine wp_ret ?_
        refine bodyPost_ret (v := .tuple #[.agg #[.int .i8 1, .int .u8 nd, .int .u8 0, .int .u8 0, .int .i64 v], .agg (rA K9 M9)]) (by simp [results, Tryz.results41, asAddr, Act.put, hl, hl0]) rfl ⟨by rw [← hKV.out.1, ← hKV.out.2, HE.out]; rfl, HZ3.out.b⟩
  exact hpost
end Go.Proofs.YtddcndlogoajkaaGreatDoor.L8.Bt
