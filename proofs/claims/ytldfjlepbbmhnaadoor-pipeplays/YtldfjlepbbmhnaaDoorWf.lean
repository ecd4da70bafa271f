/- Words in memory: compared, without the 0s at their end, read as a class's list; read off the program by the walk. Conditions: the words lie in memory. -/
import Derived.Test.YtldfjlepbbmhnaaDoorCp
namespace Go.Proofs.YtldfjlepbbmhnaaDoor.Bu
open Go.ChangeShapes Go.WideShapes Go.ChangeAt Go.RowKit
open _root_.Go.Proofs.YtldfjlepbbmhnaaDoor.Op
open _root_.Go.Proofs.YtldfjlepbbmhnaaDoor.Tb (Tab TabAt Bnds four tabAt_new ckR)
open _root_.Go.Proofs.YtldfjlepbbmhnaaDoor.So
set_option maxRecDepth 20000

/-- Words in memory. -/
structure Ws (W : World) (ao : Option Addr) (n : Nat) (v : Nat → Int) : Prop where
  ok : ∀ j, j < n → 0 ≤ v j ∧ v j < 18446744073709551616
  is : 0 < n → ∃ b f, ao = some ⟨b, f, none⟩ ∧ b < W.heap.size ∧ ∀ j, j < n → W.cell? ⟨b, f + j, none⟩ = some (.int .u64 (v j))
theorem Ws.below {W W' : World} {ao : Option Addr} {n : Nat} {v : Nat → Int} (h : Ws W ao n v) (g : Below W.heap.size W W') : Ws W' ao n v :=
  ⟨h.ok, fun h0 => by
    obtain ⟨b, f, e, z, hx⟩ := h.is h0
    exact ⟨b, f, e, Nat.lt_of_lt_of_le z g.size, fun j hj => by rw [(bcell g).1 _ _ z]; exact hx j hj⟩⟩
theorem Ws.take {W : World} {ao : Option Addr} {n m : Nat} {v : Nat → Int} (h : Ws W ao n v) (hm : m ≤ n) : Ws W ao m v :=
  ⟨fun j hj => h.ok j (by omega), fun h0 => by
    obtain ⟨b, f, e, z, hx⟩ := h.is (by omega)
    exact ⟨b, f, e, z, fun j hj => hx j (by omega)⟩⟩
theorem Ws.cut {W : World} {ao : Option Addr} {n c u : Nat} {v : Nat → Int} (h : Ws W ao n v) (hc : n ≤ c) : Ws W (if c = u then ao else Option.map (fun x => x.add u) ao) (n - u) (fun j => v (u + j)) :=
  ⟨fun j hj => h.ok _ (by omega), fun h0 => by
    obtain ⟨b, f, e, z, hx⟩ := h.is (by omega)
    refine ⟨b, f + u, ?_, z, fun j hj => ?_⟩
    · rw [if_neg (by omega), e]; simp [add_bu]
    · rw [Nat.add_assoc]; exact hx _ (by omega)⟩
theorem Ws.same {W : World} {ao : Option Addr} {n : Nat} {v v' : Nat → Int} (h : Ws W ao n v) (e : ∀ j, j < n → v j = v' j) : Ws W ao n v' :=
  ⟨fun j hj => by rw [← e j hj]; exact h.ok j hj, fun h0 => by
    obtain ⟨b, f, e1, z, hx⟩ := h.is h0
    exact ⟨b, f, e1, z, fun j hj => by rw [← e j hj]; exact hx j hj⟩⟩

theorem stN_succ (v : Nat → Int) (n : Nat) : stN v (n + 1) = if v n = 0 then stN v n else n + 1 := rfl
def lenOf : Value → Nat
  | .slice _ n _ => n
  | _ => 0
set_option maxHeartbeats 1000000 in
theorem unused_any (a : Option Addr) (n c : Nat) (v : Nat → Int) (w : World) (h : Ws w a n v) (hc : n ≤ c) (hn : n ≤ 8) :
    Calls Tryd.prog 77 #[.slice a n c] w fun e w' => e = .returned (.slice a (stN v n) c) ∧ w' = w := by
  have HA : Hid (Ws w a n v) := h
  clear h
  go_enter Tryd.func77, Tryd.ntmps77
  go_wp2
  go_loop [0] (fun s => ∃ m : Nat, m ≤ n ∧ s = .slice a m c ∧ stN v m = stN v n) (fun s => lenOf s)
  case atStart => exact ⟨n, Nat.le_refl _, rfl, rfl⟩
  case round =>
    obtain ⟨m, hm, rfl, he⟩ := hrel
    have HE : Hid (stN v m = stN v n) := he
    clear he
    by_cases h0 : m = 0
    · subst h0
      go_wp2
      go_ret
      exact ⟨by rw [← HE.out]; rfl, rfl⟩
    · obtain ⟨j, rfl⟩ : ∃ j, m = j + 1 := ⟨m - 1, by omega⟩
      obtain ⟨b, f, rfl, z, hx⟩ := HA.out.is (by omega)
      have cj := hx j (by omega)
      have ej : ((j + 1 : Nat) : Int) - 1 = (j : Int) := by omega
      have j0 : (0 : Int) ≤ (j : Int) := by omega
      have j1 : (j : Int) < ((j + 1 : Nat) : Int) := by omega
      clear hx
      by_cases hv : v j = 0
      · have HE2 : Hid (stN v j = stN v n) := by
          have := HE.out
          rw [stN_succ, if_pos hv] at this
          exact this
        rw [hv] at cj
        clear hv
        go_wp2
        go_round
        case rel => exact ⟨j, by omega, rfl, HE2.out⟩
        case measure => simp [lenOf]
      · have HE2 : Hid (j + 1 = stN v n) := by
          have := HE.out
          rw [stN_succ, if_neg hv] at this
          exact this
        have hv' : (v j == 0) = false := by simpa using hv
        clear hv
        generalize v j = y at *
        go_wp2
        go_ret
        exact ⟨by rw [← HE2.out]; rfl, rfl⟩

/-- What readList answers. -/
def RdOut (w : World) (c : Int) (v : Nat → Int) (m : Nat) (e : Ending) (w' : World) : Prop :=
  if rdB c v m then ∃ a' c', e = .returned (.tuple #[.slice a' m c', .bool true]) ∧ w'.ownsRow w.heap.size 55 5 (.slice a' m c') m (ocells (rdL v m)) ∧ Below w.heap.size w w'
  else e = .returned (.tuple #[.slice none 0 0, .bool false]) ∧ Below w.heap.size w w'
theorem RdOut.no {w w' : World} {c : Int} {v : Nat → Int} {m : Nat} (h : rdB c v m = false) (hb : Below w.heap.size w w') : RdOut w c v m (.returned (.tuple #[.slice none 0 0, .bool false])) w' := by
  unfold RdOut; rw [h]; exact ⟨rfl, hb⟩
theorem RdOut.yes {w w' : World} {c : Int} {v : Nat → Int} {m : Nat} {a' : Option Addr} {c' : Nat} (h : rdB c v m = true) (ho : w'.ownsRow w.heap.size 55 5 (.slice a' m c') m (ocells (rdL v m))) (hb : Below w.heap.size w w') : RdOut w c v m (.returned (.tuple #[.slice a' m c', .bool true])) w' := by
  unfold RdOut; rw [h]; exact ⟨a', c', rfl, ho, hb⟩
theorem ocells_snoc (xs : List O) (o : O) : ocells (xs ++ [o]) = ocells xs ++ [.int .i8 o.op, .int .u8 o.d, .int .u8 o.a, .int .u8 o.b, .int .i64 o.im] := by simp [ocells]
/-- A list under way. -/
structure Rl (w W : World) (a : Option Addr) (c : Nat) (xs : List O) : Prop where
  row : W.ownsRow w.heap.size 55 5 (.slice a xs.length c) xs.length (ocells xs)
  up : Below w.heap.size w W
theorem row_fr {T : Nat → Prop} {w w' : World} {B : Nat} {e : TypeId} {z : Nat} {v : Value} {n : Nat} {xs : List Value} (h : w.ownsRow B e z v n xs) (g : Fr T w w') (hT : ∀ k, v.ownBlock = some k → ¬ T k) : w'.ownsRow B e z v n xs := by
  refine ⟨h.1, h.2.imp id ?_⟩
  rintro ⟨b, cap, cur, rfl, h2, h3, h4⟩
  have hz : b < w.heap.size := (h.lt b rfl).2
  exact ⟨b, cap, cur, rfl, h2, by rw [g.block b hz (hT b rfl)]; exact h3, h4⟩
theorem row_up {w w' : World} {B : Nat} {e : TypeId} {z : Nat} {v : Value} {n : Nat} {xs : List Value} (h : w.ownsRow B e z v n xs) (hb : Below w.heap.size w w') : w'.ownsRow B e z v n xs := row_fr h (Fr.of (X := Non) hb) fun _ _ hk => hk
theorem Rl.next {w W W' : World} {a : Option Addr} {c : Nat} {xs : List O} (h : Rl w W a c xs) (g : Below W.heap.size W W') : Rl w W' a c xs := ⟨row_up h.row g, h.up.trans (g.mono h.up.size)⟩
theorem Rl.start (w : World) : Rl w w none 0 [] := ⟨⟨rfl, .inl ⟨rfl, rfl⟩⟩, Below.refl _ _⟩
theorem Rl.add {w X w4 : World} {a : Option Addr} {c g cap : Nat} {xs : List O} {o : O} (s : Rl w X a c xs) (hgrow : X.grownBy w4 (Value.slice a xs.length c).ownBlock) (hown : w4.ownsRow w.heap.size 55 5 (.slice (some ⟨g, 0, none⟩) (xs.length + 1) cap) (xs.length + 1) (ocells xs ++ [.int .i8 o.op, .int .u8 o.d, .int .u8 o.a, .int .u8 o.b, .int .i64 o.im])) : Rl w w4 (some ⟨g, 0, none⟩) cap (xs ++ [o]) := by
  have B : Below w.heap.size X w4 := ⟨hgrow.os, hgrow.tape, hgrow.output, hgrow.size, fun k hk => hgrow.block k (Nat.lt_of_lt_of_le hk s.up.size) fun e => by
    have := (s.row.lt k e.symm).1
    omega⟩
  refine ⟨?_, s.up.trans B⟩
  rw [ocells_snoc, List.length_append]
  exact hown

set_option maxHeartbeats 4000000 in
theorem readList_any (a : Option Addr) (n c : Nat) (v : Nat → Int) (cl : Int) (w : World) (h : Ws w a n v) (hc : n ≤ c) (hn : n ≤ 8) :
    Calls Tryd.prog 61 #[.slice a n c, .int .i64 cl] w (RdOut w cl v (stN v n)) := by
  have HA : Hid (Ws w a n v) := h
  have HUn : Hid (∀ W, Below w.heap.size w W → Calls Tryd.prog 77 #[.slice a n c] W fun e w' => e = .returned (.slice a (stN v n) c) ∧ w' = W) := fun W hb => unused_any a n c v W (h.below hb) hc hn
  have hle := stN_le v n
  obtain ⟨m, hm⟩ : ∃ m, stN v n = m := ⟨_, rfl⟩
  rw [hm] at HUn hle ⊢
  have hm8 : (m : Int) ≤ 8 := by omega
  obtain ⟨i0, hi, hi2⟩ := Option.map_eq_some_iff.1 info55
  simp only [Prod.mk.injEq] at hi2
  obtain ⟨hz0, hz1, hz2⟩ := hi2
  have HI : Hid (Tryd.prog.info? 55 = some i0 ∧ i0.zero = some (.agg #[.int .i8 0, .int .u8 0, .int .u8 0, .int .u8 0, .int .i64 0]) ∧ i0.size = 5 ∧ i0.bytes = 16) := ⟨hi, hz0, hz1, hz2⟩
  clear h hm hi hz0 hz1 hz2
  go_enter Tryd.func61, Tryd.ntmps61
  go_wp2_with (first | (go_at_call 77; refine Calls.mono (HUn.out _ (Below.refl _ _)) ?_; rintro e w1 ⟨rfl, hw1⟩; subst w1))
  go_loopw [6, 14] (fun l i wr => ∃ (k c' : Nat) (a' : Option Addr), k ≤ m ∧ i = .int .i64 k ∧ l = .slice a' k c' ∧ rdB cl v k = true ∧ Rl w wr a' c' (rdL v k)) (fun _ i _ => m - (intOf i).toNat)
  case atStart => exact ⟨0, 0, none, by omega, rfl, rfl, rfl, Rl.start w⟩
  case round =>
    rename World => wr
    obtain ⟨k, c', a', hk, rfl, rfl, h1, h2⟩ := hrel
    have HQ : Hid (rdB cl v k = true ∧ Rl w wr a' c' (rdL v k)) := ⟨h1, h2⟩
    clear h1 h2
    by_cases hlt : k < m
    · have k0 : (0 : Int) ≤ (k : Int) := by omega
      have k1 : (k : Int) < (m : Int) := by omega
      obtain ⟨b, f, rfl, hz, hx⟩ := (HA.out.below HQ.out.2.up).is (by omega)
      have q0 := hx k (by omega)
      obtain ⟨x0, x1⟩ := HA.out.ok k (by omega)
      have HNo : Hid (okW cl (v k) = false → rdB cl v m = false) := fun e => rdB_no hlt e
      have HYe : Hid (okW cl (v k) = true → rdB cl v (k + 1) = true) := fun e => by rw [rdB_next, HQ.out.1, e]; rfl
      have HNx : Hid (rdL v (k + 1) = rdL v k ++ [opW (v k)] ∧ (rdL v k).length = k) := ⟨rdL_next v k, rdL_len v k⟩
      clear hx
      generalize v k = x at *
      by_cases h53 : x < 9007199254740992
      · have HOp : Hid (∀ W, Calls Tryd.prog 78 #[.int .u64 x] W fun e w' => e = .returned (.tuple #[(opW x).val, .bool true]) ∧ Below W.heap.size W w') := fun W => opOf_yes x W x0 x1 h53
        have hoW : okW cl x = isB cl (opW x) := by unfold okW; rw [decide_eq_true h53]; rfl
        have HIs : Hid (∀ W, Calls Tryd.prog 70 #[(opW x).val, .int .i64 cl] W fun e w' => e = .returned (.bool (isB cl (opW x))) ∧ Below W.heap.size W w') := fun W => isOf_any (opW x) cl W (opW_ok x)
        rw [hoW] at HNo HYe
        clear hoW x0 x1 h53
        generalize opW x = o at *
        cases hB : isB cl o
        · rw [hB] at HIs
          have hR := HNo.out hB
          clear hB HNo HYe
          go_wp2_with (first
            | (go_at_call 78; refine Calls.mono (HOp.out _) ?_; rintro e w2 ⟨rfl, hb2⟩; have HB2 : Hid (Below w.heap.size w w2) := HQ.out.2.up.trans (hb2.mono HQ.out.2.up.size); clear hb2)
            | (go_at_call 70; refine Calls.mono (HIs.out _) ?_; rintro e w3 ⟨rfl, hb3⟩; obtain ⟨-, hb30, hz3⟩ := one_new w2 _ _ hb3; have HB3 : Hid (Below w.heap.size w w3) := HB2.out.trans (hb30.mono HB2.out.size); clear hb3 hb30))
          go_ret2
          exact RdOut.no hR HB3.out
        · rw [hB] at HIs
          have HYe2 : Hid _ := HYe.out hB
          clear hB HNo HYe
          go_upto_region 8 with (first
            | (go_at_call 78; refine Calls.mono (HOp.out _) ?_; rintro e w2 ⟨rfl, hb2⟩; have HR2 : Hid (Rl w w2 a' c' (rdL v k)) := HQ.out.2.next hb2; clear hb2)
            | (go_at_call 70; refine Calls.mono (HIs.out _) ?_; rintro e w3 ⟨rfl, hb3⟩; obtain ⟨a3, hb30, hz3⟩ := one_new w2 _ _ hb3; have HR3 : Hid (Rl w w3 a' c' (rdL v k)) := HR2.out.next hb30; obtain ⟨o0, o1, o2, o3, o4⟩ := a3.o5; clear hb3 hb30 a3))
          clear HQ HR2 HOp HIs q0 hz
          have HR4 : Hid (Rl w (w3.alloc (.cells #[.int .i8 o.op, .int .u8 o.d, .int .u8 o.a, .int .u8 o.b, .int .i64 o.im] 55)) a' c' (rdL v k)) := HR3.out.next ((Below.refl _ _).alloc (Nat.le_refl _) _)
          have hsz : w.heap.size ≤ w3.heap.size := HR3.out.up.size
          have HRow : Hid ((w3.alloc (.cells #[.int .i8 o.op, .int .u8 o.d, .int .u8 o.a, .int .u8 o.b, .int .i64 o.im] 55)).ownsRow w.heap.size 55 5 (.slice a' k c') k (ocells (rdL v k))) := by
            have := HR4.out.row
            rw [HNx.out.2] at this
            exact this
          go_wp2_with (first
            | (at_builtin; refine wpList_append_lies _ rfl _ _ 60 rfl w.heap.size 55 i0 (.agg #[.int .i8 0, .int .u8 0, .int .u8 0, .int .u8 0, .int .i64 0]) 5 16 Tryd.underlying60 HI.out.1 HI.out.2.1 HI.out.2.2.1 HI.out.2.2.2 rfl (by decide) (.slice a' k c') k (ocells (rdL v k)) rfl HRow.out ⟨w3.heap.size, 0, none⟩ 1 1 [.int .i8 o.op, .int .u8 o.d, .int .u8 o.a, .int .u8 o.b, .int .i64 o.im] rfl rfl (World.news_of_block (heap_alloc_new w3 _)) (by simp [Value.oneCell']) (by decide) (by unfold maxLen; omega) (by omega) (by simp; omega) (w3.heap.size + 1) (by simp) ?_; intro g cp w5 hown hgrow hat hlt3; have HR5 : Hid (Rl w w5 (some ⟨g, 0, none⟩) cp (rdL v (k + 1))) := (by rw [HNx.out.1]; exact HR4.out.add (by rw [HNx.out.2]; exact hgrow) (by rw [HNx.out.2]; exact hown) : Rl w w5 (some ⟨g, 0, none⟩) cp (rdL v (k + 1))); clear hown hgrow hat hlt3))
          go_roundw
          case rel => exact ⟨k + 1, cp, some ⟨g, 0, none⟩, by omega, by go_num, rfl, HYe2.out, HR5.out⟩
          case measure => simp [intOf]; omega
      · have HOp : Hid (∀ W, Calls Tryd.prog 78 #[.int .u64 x] W fun e w' => e = .returned (.tuple #[zO.val, .bool false]) ∧ Below W.heap.size W w') := fun W => opOf_no x W x0 x1 (by omega)
        have hR := HNo.out (by unfold okW; rw [decide_eq_false h53]; rfl)
        clear HNo HYe x0 x1 h53
        go_wp2_with (first
          | (go_at_call 78; refine Calls.mono (HOp.out _) ?_; rintro e w2 ⟨rfl, hb2⟩; have HB2 : Hid (Below w.heap.size w w2) := HQ.out.2.up.trans (hb2.mono HQ.out.2.up.size); clear hb2))
        go_ret2
        exact RdOut.no hR (HB2.out.alloc HB2.out.size _)
    · obtain rfl : k = m := by omega
      go_wp2
      go_ret2
      refine RdOut.yes HQ.out.1 ?_ HQ.out.2.up
      have := HQ.out.2.row
      rw [rdL_len] at this
      exact this
end Go.Proofs.YtldfjlepbbmhnaaDoor.Bu
