/- What Decode answers, read off the program by the walk. Conditions: the words and the table's bounds lie in memory. -/
import Derived.Test.YtldfjlepbbmhnaaDoorWg
namespace Go.Proofs.YtldfjlepbbmhnaaDoor.Bu
open Go.ChangeShapes Go.WideShapes Go.ChangeAt Go.RowKit
open _root_.Go.Proofs.YtldfjlepbbmhnaaDoor.Op
open _root_.Go.Proofs.YtldfjlepbbmhnaaDoor.Tb (Tab TabAt Bnds four tabAt_new ckR)
open _root_.Go.Proofs.YtldfjlepbbmhnaaDoor.So
set_option maxRecDepth 20000

theorem info63 : (Tryd.prog.info? 63).map (fun i => (i.zero, i.size, i.bytes)) = some (some bz, 4, 96) := by kernel_rfl
def deE (t : Tab) (v : Nat → Int) (n : Nat) : Int := if t.ok then (if n % ofs t 4 = 0 then (if 65536 < n / ofs t 4 then 3 else if deB t v (n / ofs t 4) then 0 else 210) else 210) else 20
/-- Bundles under way. -/
structure Db (w W : World) (t : Tab) (v : Nat → Int) (b n k : Nat) : Prop where
  c : ∀ i, i < k → ∃ p, NAt W b (i * 4) (bdX t (sv t v i)) p ∧ BnIn W (bdX t (sv t v i)) p ∧ ∀ j, j < 4 → ∀ A, (p.a j) = some A → b < A.block
  z : ∀ j, j < n * 4 → ∃ u, W.cell? ⟨b, j, none⟩ = some u
  f : ∀ j, W.frozen? ⟨b, j, none⟩ = false
  lt : b < W.heap.size
  t : TabAt W w.heap.size t
  up : Below w.heap.size w W
  hb : w.heap.size < b
theorem Db.next {w W W' : World} {t : Tab} {v : Nat → Int} {b n k : Nat} (h : Db w W t v b n k) (g : Below W.heap.size W W') : Db w W' t v b n k :=
  ⟨fun i hi => by
    obtain ⟨p, h1, h2, h3⟩ := h.c i hi
    exact ⟨p, h1.below g h.lt, h2.below g, h3⟩, fun j hj => by
    obtain ⟨u, hu⟩ := h.z j hj
    exact ⟨u, by rw [(bcell g).1 _ _ h.lt]; exact hu⟩, fun j => by rw [(bcell g).2 _ _ h.lt]; exact h.f j, Nat.lt_of_lt_of_le h.lt g.size, h.t.below g h.t.lt, h.up.trans (g.mono h.up.size), h.hb⟩
theorem row_frozen {W : World} {B e z n : Nat} {xs : List Value} {g m c : Nat} (h : W.ownsRow B e z (.slice (some ⟨g, 0, none⟩) m c) n xs) : ∀ j, W.frozen? ⟨g, j, none⟩ = false := by
  intro j
  rcases h.2 with ⟨h1, -⟩ | ⟨b, cap, cur, h1, h2, h3, h4⟩
  · cases h1
  · injection h1 with e1
    injection e1 with e1
    injection e1 with e1
    subst e1
    simp [World.frozen?, h3]
theorem made_get (m j : Nat) (h : j < m) : (madeCells bz.cells m).toList[j]? = some (.slice none 0 0) := by
  unfold madeCells
  rw [Array.getElem?_toList, Array.getElem?_map, Array.getElem?_range, if_pos h]
  have : j % 4 < 4 := Nat.mod_lt _ (by decide)
  show some (bz.cells[j % 4]!) = _
  have e : bz.cells = #[.slice none 0 0, .slice none 0 0, .slice none 0 0, .slice none 0 0] := rfl
  rw [e]
  generalize j % 4 = q at this
  match q, this with
  | 0, _ => rfl
  | 1, _ => rfl
  | 2, _ => rfl
  | 3, _ => rfl
theorem Db.start {w W W' : World} {t : Tab} (v : Nat → Int) {n : Nat} (ht : TabAt W w.heap.size t) (hu : Below w.heap.size w W) (ho : W'.ownsRow W.heap.size 63 4 (.slice (some ⟨W.heap.size, 0, none⟩) n n) n (madeCells bz.cells (n * 4)).toList) (hg : W.grownBy W' none) : Db w W' t v W.heap.size n 0 := by
  have g : Below W.heap.size W W' := grown_below hg (fun b h => by cases h)
  refine ⟨fun i hi => absurd hi (by omega), fun j hj => ⟨.slice none 0 0, ?_⟩, row_frozen ho, (ho.lt W.heap.size rfl).2, ht.below g ht.lt, hu.trans (g.mono hu.size), ht.lt⟩
  have := ho.cells (g := W.heap.size) rfl j _ (made_get _ j hj)
  rw [add_bu, Nat.zero_add] at this
  exact this
theorem cell_set {W : World} {b o : Nat} (v : Value) (q : Nat) (he : ∃ u, W.cell? ⟨b, o, none⟩ = some u) : (W.setCell ⟨b, o, none⟩ v).cell? ⟨b, q, none⟩ = if q = o then some v else W.cell? ⟨b, q, none⟩ := by
  obtain ⟨u, hu⟩ := he
  by_cases e : q = o
  · rw [if_pos e, e, World.cell?_setCell_same _ _ _ hu]
  · rw [if_neg e, World.cell?_setCell_other]
    intro h'; injection h' with _ h2; exact e h2.symm
abbrev set4 (W : World) (b o : Nat) (v0 v1 v2 v3 : Value) : World := (((W.setCell ⟨b, o, none⟩ v0).setCell ⟨b, o + 1, none⟩ v1).setCell ⟨b, o + 2, none⟩ v2).setCell ⟨b, o + 3, none⟩ v3
theorem set4_at {W : World} {b o : Nat} (v0 v1 v2 v3 : Value) (he : ∀ j, j < 4 → ∃ u, W.cell? ⟨b, o + j, none⟩ = some u) (q : Nat) :
    (set4 W b o v0 v1 v2 v3).cell? ⟨b, q, none⟩ = if q = o + 3 then some v3 else if q = o + 2 then some v2 else if q = o + 1 then some v1 else if q = o then some v0 else W.cell? ⟨b, q, none⟩ := by
  have c0 : ∀ q, (W.setCell ⟨b, o, none⟩ v0).cell? ⟨b, q, none⟩ = if q = o then some v0 else W.cell? ⟨b, q, none⟩ := fun q => cell_set v0 q (he 0 (by decide))
  have c1 : ∀ q, ((W.setCell ⟨b, o, none⟩ v0).setCell ⟨b, o + 1, none⟩ v1).cell? ⟨b, q, none⟩ = if q = o + 1 then some v1 else if q = o then some v0 else W.cell? ⟨b, q, none⟩ := fun q => by
    rw [cell_set v1 q (by rw [c0, if_neg (by omega)]; exact he 1 (by decide)), c0]
  have c2 : ∀ q, (((W.setCell ⟨b, o, none⟩ v0).setCell ⟨b, o + 1, none⟩ v1).setCell ⟨b, o + 2, none⟩ v2).cell? ⟨b, q, none⟩ = if q = o + 2 then some v2 else if q = o + 1 then some v1 else if q = o then some v0 else W.cell? ⟨b, q, none⟩ := fun q => by
    rw [cell_set v2 q (by rw [c1, if_neg (by omega), if_neg (by omega)]; exact he 2 (by decide)), c1]
  rw [cell_set v3 q (by rw [c2, if_neg (by omega), if_neg (by omega), if_neg (by omega)]; exact he 3 (by decide)), c2]
theorem set4_fr (W : World) (b o : Nat) (v0 v1 v2 v3 : Value) : Fr (One b) W (set4 W b o v0 v1 v2 v3) := ((((Fr.refl (One b) W).setCell (.inr rfl) _ _).setCell (.inr rfl) _ _).setCell (.inr rfl) _ _).setCell (.inr rfl) _ _
theorem set4_frozen (W : World) (b o : Nat) (v0 v1 v2 v3 : Value) (a : Addr) : (set4 W b o v0 v1 v2 v3).frozen? a = W.frozen? a := by
  rw [World.frozen?_setCell, World.frozen?_setCell, World.frozen?_setCell, World.frozen?_setCell]
theorem Db.set {w W : World} {t : Tab} {v : Nat → Int} {b n k : Nat} {p : Pb} (h : Db w W t v b n k) (hk : k < n) (hB : BnIn W (bdX t (sv t v k)) p) (hf : ∀ j, j < 4 → ∀ A, (p.a j) = some A → b < A.block) :
    Db w (set4 W b (k * 4) (.slice (p.a 0) ((bdX t (sv t v k)).l 0).length (p.c 0)) (.slice (p.a 1) ((bdX t (sv t v k)).l 1).length (p.c 1)) (.slice (p.a 2) ((bdX t (sv t v k)).l 2).length (p.c 2)) (.slice (p.a 3) ((bdX t (sv t v k)).l 3).length (p.c 3))) t v b n (k + 1) := by
  have g := set4_fr W b (k * 4) (.slice (p.a 0) ((bdX t (sv t v k)).l 0).length (p.c 0)) (.slice (p.a 1) ((bdX t (sv t v k)).l 1).length (p.c 1)) (.slice (p.a 2) ((bdX t (sv t v k)).l 2).length (p.c 2)) (.slice (p.a 3) ((bdX t (sv t v k)).l 3).length (p.c 3))
  have at4 := set4_at (W := W) (b := b) (o := k * 4) (.slice (p.a 0) ((bdX t (sv t v k)).l 0).length (p.c 0)) (.slice (p.a 1) ((bdX t (sv t v k)).l 1).length (p.c 1)) (.slice (p.a 2) ((bdX t (sv t v k)).l 2).length (p.c 2)) (.slice (p.a 3) ((bdX t (sv t v k)).l 3).length (p.c 3)) (fun j hj => h.z _ (by omega))
  have hz := set4_frozen W b (k * 4) (.slice (p.a 0) ((bdX t (sv t v k)).l 0).length (p.c 0)) (.slice (p.a 1) ((bdX t (sv t v k)).l 1).length (p.c 1)) (.slice (p.a 2) ((bdX t (sv t v k)).l 2).length (p.c 2)) (.slice (p.a 3) ((bdX t (sv t v k)).l 3).length (p.c 3))
  have hlt := h.hb
  generalize set4 W b (k * 4) _ _ _ _ = W' at *
  refine ⟨fun i hi => ?_, fun j hj => ?_, fun j => by rw [hz]; exact h.f j, Nat.lt_of_lt_of_le h.lt g.size, tab_fr h.t g (by show ¬ _ = b; omega), h.up.trans (g.below h.up.size fun j hj e => by have e : j = b := e; omega), h.hb⟩
  · by_cases e : i = k
    · subst e
      refine ⟨p, ⟨four ?_ ?_ ?_ ?_⟩, ⟨fun j hj => opsAt_fr (hB.o j hj) g fun A hA e => by have := hf j hj A hA; have e : A.block = b := e; omega⟩, hf⟩
      · rw [at4, if_neg (by omega), if_neg (by omega), if_neg (by omega), if_pos (by omega)]
      · rw [at4, if_neg (by omega), if_neg (by omega), if_pos (by omega)]
      · rw [at4, if_neg (by omega), if_pos (by omega)]
      · rw [at4, if_pos (by omega)]
    · obtain ⟨p', h1, h2, h3⟩ := h.c i (by omega)
      refine ⟨p', ⟨fun j hj => ?_⟩, ⟨fun j hj => opsAt_fr (h2.o j hj) g fun A hA e => by have := h3 j hj A hA; have e : A.block = b := e; omega⟩, h3⟩
      rw [at4, if_neg (by omega), if_neg (by omega), if_neg (by omega), if_neg (by omega)]
      exact h1.c j hj
  · obtain ⟨u, hu⟩ := h.z j hj
    rw [at4]
    split
    · exact ⟨_, rfl⟩
    · split
      · exact ⟨_, rfl⟩
      · split
        · exact ⟨_, rfl⟩
        · split
          · exact ⟨_, rfl⟩
          · exact ⟨u, hu⟩
theorem Db.at {w W : World} {t : Tab} {v : Nat → Int} {b n : Nat} (h : Db w W t v b n n) (hn : n ≤ 65536) : BsAt W (some ⟨b, 0, none⟩) (deL t v n) := by
  refine ⟨by rw [deL_len]; omega, fun _ => ⟨b, 0, rfl, h.lt, fun i hi => ?_⟩⟩
  obtain ⟨p, h1, h2, -⟩ := h.c i (by simpa [deL_len] using hi)
  simp only [deL, List.getElem_map, List.getElem_range]
  rw [Nat.zero_add]
  exact ⟨p, h1, h2⟩

/-- The bundles lie beyond what was there. -/
theorem Db.far {w W : World} {t : Tab} {v : Nat → Int} {b n : Nat} (h : Db w W t v b n n) (hn : n ≤ 65536) : ∀ V, Fr (fun q => q < w.heap.size) W V → BsAt V (some ⟨b, 0, none⟩) (deL t v n) := fun V g => by
  have hb := h.hb
  refine ⟨by rw [deL_len]; omega, fun _ => ⟨b, 0, rfl, Nat.lt_of_lt_of_le h.lt g.size, fun i hi => ?_⟩⟩
  obtain ⟨p, h1, h2, h3⟩ := h.c i (by simpa [deL_len] using hi)
  simp only [deL, List.getElem_map, List.getElem_range]
  rw [Nat.zero_add]
  exact ⟨p, ⟨fun k hk => by rw [g.cell h.lt (show ¬ b < w.heap.size by omega)]; exact h1.c k hk⟩, ⟨fun j hj => opsAt_fr (h2.o j hj) g fun A hA e => by have := h3 j hj A hA; have e : A.block < w.heap.size := e; omega⟩⟩

/-- What Decode answers. -/
def DeOut (w : World) (t : Tab) (v : Nat → Int) (n : Nat) (e : Ending) (w' : World) : Prop :=
  if deB t v n then ∃ b, e = .returned (.tuple #[.slice (some ⟨b, 0, none⟩) n n, .int .i64 0]) ∧ BsAt w' (some ⟨b, 0, none⟩) (deL t v n) ∧ (∀ V, Fr (fun q => q < w.heap.size) w' V → BsAt V (some ⟨b, 0, none⟩) (deL t v n)) ∧ Below w.heap.size w w'
  else e = .returned (.tuple #[.slice none 0 0, .int .i64 210]) ∧ Below w.heap.size w w'
theorem DeOut.no {w w' : World} {t : Tab} {v : Nat → Int} {n : Nat} (h : deB t v n = false) (hb : Below w.heap.size w w') : DeOut w t v n (.returned (.tuple #[.slice none 0 0, .int .i64 210])) w' := by
  unfold DeOut; rw [h]; exact ⟨rfl, hb⟩
theorem DeOut.yes {w w' : World} {t : Tab} {v : Nat → Int} {n b : Nat} (h : deB t v n = true) (h1 : BsAt w' (some ⟨b, 0, none⟩) (deL t v n)) (h2 : ∀ V, Fr (fun q => q < w.heap.size) w' V → BsAt V (some ⟨b, 0, none⟩) (deL t v n)) (hb : Below w.heap.size w w') : DeOut w t v n (.returned (.tuple #[.slice (some ⟨b, 0, none⟩) n n, .int .i64 0])) w' := by
  unfold DeOut; rw [h]; exact ⟨b, rfl, h1, h2, hb⟩
set_option maxHeartbeats 1000000 in
theorem dec_table (ao : Option Addr) (n cap : Nat) (t : Tab) (w : World) (hG : Bnds w) (ht : t.ok = false) :
    Calls Tryd.prog 27 #[.slice ao n cap, t.val] w fun e w' => e = .returned (.tuple #[.slice none 0 0, .int .i64 20]) ∧ Below w.heap.size w w' := by
  have HC : Hid (∀ W, Below w.heap.size w W → Calls Tryd.prog 35 #[t.val] W fun e w' => e = .returned (.int .i64 20) ∧ Below W.heap.size W w') := fun W hb => by
    have := Tb.check_any t W (hG.below hb hG.big)
    rw [ck_bad ht] at this
    exact this
  clear ht hG
  unfold Tab.val at *
  go_enter Tryd.func27, Tryd.ntmps27
  go_wp2_with (first | (go_at_call 35; refine Calls.mono (HC.out _ (by go_grown)) ?_; rintro e w1 ⟨rfl, hb⟩; obtain ⟨-, hb0, hz⟩ := one_new w _ _ hb; have HB : Hid (Below w.heap.size w w1) := hb0; clear hb hb0))
  go_ret2
  exact ⟨rfl, HB.out⟩
set_option maxHeartbeats 1000000 in
theorem dec_odd (ao : Option Addr) (n cap : Nat) (t : Tab) (w : World) (hG : Bnds w) (ht : t.ok = true) (hn : n ≤ 17592186044416) (hm : n % ofs t 4 ≠ 0) :
    Calls Tryd.prog 27 #[.slice ao n cap, t.val] w fun e w' => e = .returned (.tuple #[.slice none 0 0, .int .i64 210]) ∧ Below w.heap.size w w' := by
  have HC : Hid (∀ W, Below w.heap.size w W → Calls Tryd.prog 35 #[t.val] W fun e w' => e = .returned (.int .i64 0) ∧ Below W.heap.size W w') := fun W hb => by
    have := Tb.check_any t W (hG.below hb hG.big)
    rw [ck_good ht] at this
    exact this
  have HWd : Hid (∀ W, Below w.heap.size w W → Calls Tryd.prog 37 #[t.val] W fun e w' => e = .returned (.int .i64 (ofs t 4 : Int)) ∧ Below W.heap.size W w') := fun W hb => width_any t W (hG.below hb hG.big) ht
  have HCt : Hid (∀ W, Calls Tryd.prog 45 #[.int .i64 (n : Int), .int .i64 (ofs t 4 : Int)] W fun e w' => e = .returned (.tuple #[.int .i64 ((n / ofs t 4 : Nat) : Int), .bool (decide (n % ofs t 4 = 0))]) ∧ Below W.heap.size W w') := fun W => countOf_all n (ofs t 4) W hn
  rw [decide_eq_false hm] at HCt
  clear ht hG hm
  unfold Tab.val at *
  generalize n / ofs t 4 = cnt at *
  go_enter Tryd.func27, Tryd.ntmps27
  go_wp2_with (first
    | (go_at_call 35; refine Calls.mono (HC.out _ (by go_grown)) ?_; rintro e w1 ⟨rfl, hb⟩; have HS : Hid (TabAt w1 w.heap.size t ∧ Below w.heap.size w w1) := ⟨(tabAt_new w t 25).below hb (by simp), (by go_grown : Below w.heap.size w (w.alloc (.cells t.cells 25))).trans (hb.mono (by simp))⟩; clear hb; have k2 := HS.out.1; have qu0 := k2.cu 0 (by decide); have qu1 := k2.cu 1 (by decide); have qu2 := k2.cu 2 (by decide); have qu3 := k2.cu 3 (by decide); have ql0 := k2.cl 0 (by decide); have ql1 := k2.cl 1 (by decide); have ql2 := k2.cl 2 (by decide); have ql3 := k2.cl 3 (by decide); have qb0 := k2.cb 0 (by decide); have qb1 := k2.cb 1 (by decide); have qb2 := k2.cb 2 (by decide); have qb3 := k2.cb 3 (by decide); have qd := k2.cd; have qz := k2.lt; clear k2)
    | (go_at_call 37; refine Calls.mono (HWd.out _ HS.out.2) ?_; rintro e w2 ⟨rfl, hb⟩; have HS2 : Hid (TabAt w2 w.heap.size t ∧ Below w.heap.size w w2) := ⟨HS.out.1.below hb HS.out.1.lt, HS.out.2.trans (hb.mono HS.out.2.size)⟩; clear hb qu0 qu1 qu2 qu3 ql0 ql1 ql2 ql3 qb0 qb1 qb2 qb3 qd qz)
    | (go_at_call 45; refine Calls.mono (HCt.out _) ?_; rintro e w3 ⟨rfl, hb⟩; have HS3 : Hid (TabAt w3 w.heap.size t ∧ Below w.heap.size w w3) := ⟨HS2.out.1.below hb HS2.out.1.lt, HS2.out.2.trans (hb.mono HS2.out.2.size)⟩; clear hb))
  go_ret2
  exact ⟨rfl, HS3.out.2⟩
set_option maxHeartbeats 1000000 in
theorem dec_long (ao : Option Addr) (n cap : Nat) (t : Tab) (w : World) (hG : Bnds w) (ht : t.ok = true) (hn : n ≤ 17592186044416) (hm : n % ofs t 4 = 0) (hl : 65536 < n / ofs t 4) :
    Calls Tryd.prog 27 #[.slice ao n cap, t.val] w fun e w' => e = .returned (.tuple #[.slice none 0 0, .int .i64 3]) ∧ Below w.heap.size w w' := by
  have HC : Hid (∀ W, Below w.heap.size w W → Calls Tryd.prog 35 #[t.val] W fun e w' => e = .returned (.int .i64 0) ∧ Below W.heap.size W w') := fun W hb => by
    have := Tb.check_any t W (hG.below hb hG.big)
    rw [ck_good ht] at this
    exact this
  have HWd : Hid (∀ W, Below w.heap.size w W → Calls Tryd.prog 37 #[t.val] W fun e w' => e = .returned (.int .i64 (ofs t 4 : Int)) ∧ Below W.heap.size W w') := fun W hb => width_any t W (hG.below hb hG.big) ht
  have HCt : Hid (∀ W, Calls Tryd.prog 45 #[.int .i64 (n : Int), .int .i64 (ofs t 4 : Int)] W fun e w' => e = .returned (.tuple #[.int .i64 ((n / ofs t 4 : Nat) : Int), .bool (decide (n % ofs t 4 = 0))]) ∧ Below W.heap.size W w') := fun W => countOf_all n (ofs t 4) W hn
  rw [decide_eq_true hm] at HCt
  have h4 : n / ofs t 4 ≤ 17592186044416 := Nat.le_trans (Nat.div_le_self _ _) hn
  clear ht hG hm
  unfold Tab.val at *
  generalize n / ofs t 4 = cnt at *
  have hl' : (65536 : Int) < (cnt : Int) := by omega
  clear hl
  go_enter Tryd.func27, Tryd.ntmps27
  go_wp2_with (first
    | (go_at_call 35; refine Calls.mono (HC.out _ (by go_grown)) ?_; rintro e w1 ⟨rfl, hb⟩; have HS : Hid (TabAt w1 w.heap.size t ∧ Below w.heap.size w w1) := ⟨(tabAt_new w t 25).below hb (by simp), (by go_grown : Below w.heap.size w (w.alloc (.cells t.cells 25))).trans (hb.mono (by simp))⟩; clear hb; have k2 := HS.out.1; have qu0 := k2.cu 0 (by decide); have qu1 := k2.cu 1 (by decide); have qu2 := k2.cu 2 (by decide); have qu3 := k2.cu 3 (by decide); have ql0 := k2.cl 0 (by decide); have ql1 := k2.cl 1 (by decide); have ql2 := k2.cl 2 (by decide); have ql3 := k2.cl 3 (by decide); have qb0 := k2.cb 0 (by decide); have qb1 := k2.cb 1 (by decide); have qb2 := k2.cb 2 (by decide); have qb3 := k2.cb 3 (by decide); have qd := k2.cd; have qz := k2.lt; clear k2)
    | (go_at_call 37; refine Calls.mono (HWd.out _ HS.out.2) ?_; rintro e w2 ⟨rfl, hb⟩; have HS2 : Hid (TabAt w2 w.heap.size t ∧ Below w.heap.size w w2) := ⟨HS.out.1.below hb HS.out.1.lt, HS.out.2.trans (hb.mono HS.out.2.size)⟩; clear hb qu0 qu1 qu2 qu3 ql0 ql1 ql2 ql3 qb0 qb1 qb2 qb3 qd qz)
    | (go_at_call 45; refine Calls.mono (HCt.out _) ?_; rintro e w3 ⟨rfl, hb⟩; have HS3 : Hid (TabAt w3 w.heap.size t ∧ Below w.heap.size w w3) := ⟨HS2.out.1.below hb HS2.out.1.lt, HS2.out.2.trans (hb.mono HS2.out.2.size)⟩; clear hb))
  go_ret2
  exact ⟨rfl, HS3.out.2⟩
set_option maxHeartbeats 4000000 in
theorem dec_any (ao : Option Addr) (n cap : Nat) (v : Nat → Int) (t : Tab) (w : World) (hx : Ws w ao n v) (hc : n ≤ cap) (hG : Bnds w) (ht : t.ok = true) (hn : n ≤ 17592186044416) (hm : n % ofs t 4 = 0) (hl : n / ofs t 4 ≤ 65536) :
    Calls Tryd.prog 27 #[.slice ao n cap, t.val] w (DeOut w t v (n / ofs t 4)) := by
  have HC : Hid (∀ W, Below w.heap.size w W → Calls Tryd.prog 35 #[t.val] W fun e w' => e = .returned (.int .i64 0) ∧ Below W.heap.size W w') := fun W hb => by
    have := Tb.check_any t W (hG.below hb hG.big)
    rw [ck_good ht] at this
    exact this
  have HWd : Hid (∀ W, Below w.heap.size w W → Calls Tryd.prog 37 #[t.val] W fun e w' => e = .returned (.int .i64 (ofs t 4 : Int)) ∧ Below W.heap.size W w') := fun W hb => width_any t W (hG.below hb hG.big) ht
  have HCt : Hid (∀ W, Calls Tryd.prog 45 #[.int .i64 (n : Int), .int .i64 (ofs t 4 : Int)] W fun e w' => e = .returned (.tuple #[.int .i64 ((n / ofs t 4 : Nat) : Int), .bool (decide (n % ofs t 4 = 0))]) ∧ Below W.heap.size W w') := fun W => countOf_all n (ofs t 4) W hn
  rw [decide_eq_true hm] at HCt
  have HRe : Hid (∀ a' n' c' v' W, Ws W a' n' v' → n' ≤ c' → ofs t 4 ≤ n' → Calls Tryd.prog 46 #[.slice a' n' c', t.val] W (ReOut W t v')) := fun a' n' c' v' W h h1 h2 => read_any a' n' c' v' t W h h1 ht h2
  have HW : Hid (Ws w ao n v) := hx
  have HMul : Hid (n / ofs t 4 * ofs t 4 = n) := Nat.div_mul_cancel (Nat.dvd_of_mod_eq_zero hm)
  have h32 := ofs_le ht
  obtain ⟨i0, hi, hi2⟩ := Option.map_eq_some_iff.1 info63
  simp only [Prod.mk.injEq] at hi2
  obtain ⟨hz0, hz1, hz2⟩ := hi2
  have HI : Hid (Tryd.prog.info? 63 = some i0 ∧ i0.zero = some bz ∧ i0.size = 4 ∧ i0.bytes = 96) := ⟨hi, hz0, hz1, hz2⟩
  clear ht hG hm hx hi hz0 hz1 hz2
  unfold Tab.val at *
  generalize n / ofs t 4 = cnt at *
  have hcn : (cnt : Int) ≤ 65536 := by omega
  obtain ⟨wd, hwd⟩ : ∃ wd, ofs t 4 = wd := ⟨_, rfl⟩
  have HWD : Hid (ofs t 4 = wd) := hwd
  rw [hwd] at HWd HCt HRe HMul h32
  clear hwd
  have hwi : (wd : Int) ≤ 32 := by omega
  go_enter Tryd.func27, Tryd.ntmps27
  go_upto_region 12 with (first
    | (go_at_call 35; refine Calls.mono (HC.out _ (by go_grown)) ?_; rintro e w1 ⟨rfl, hb⟩; have HS : Hid (TabAt w1 w.heap.size t ∧ Below w.heap.size w w1) := ⟨(tabAt_new w t 25).below hb (by simp), (by go_grown : Below w.heap.size w (w.alloc (.cells t.cells 25))).trans (hb.mono (by simp))⟩; clear hb; have k2 := HS.out.1; have qu0 := k2.cu 0 (by decide); have qu1 := k2.cu 1 (by decide); have qu2 := k2.cu 2 (by decide); have qu3 := k2.cu 3 (by decide); have ql0 := k2.cl 0 (by decide); have ql1 := k2.cl 1 (by decide); have ql2 := k2.cl 2 (by decide); have ql3 := k2.cl 3 (by decide); have qb0 := k2.cb 0 (by decide); have qb1 := k2.cb 1 (by decide); have qb2 := k2.cb 2 (by decide); have qb3 := k2.cb 3 (by decide); have qd := k2.cd; have qz := k2.lt; clear k2)
    | (go_at_call 37; refine Calls.mono (HWd.out _ HS.out.2) ?_; rintro e w2 ⟨rfl, hb⟩; have HS2 : Hid (TabAt w2 w.heap.size t ∧ Below w.heap.size w w2) := ⟨HS.out.1.below hb HS.out.1.lt, HS.out.2.trans (hb.mono HS.out.2.size)⟩; clear hb qu0 qu1 qu2 qu3 ql0 ql1 ql2 ql3 qb0 qb1 qb2 qb3 qd qz)
    | (go_at_call 45; refine Calls.mono (HCt.out _) ?_; rintro e w3 ⟨rfl, hb⟩; have HS3 : Hid (TabAt w3 w.heap.size t ∧ Below w.heap.size w w3) := ⟨HS2.out.1.below hb HS2.out.1.lt, HS2.out.2.trans (hb.mono HS2.out.2.size)⟩; clear hb)
    | (at_make; refine wpList_make_full _ rfl _ _ 65 rfl w3.heap.size 63 i0 bz 4 Tryd.underlying65 HI.out.1 HI.out.2.1 HI.out.2.2.1 .i64 .i64 (cnt : Int) (cnt : Int) cnt rfl rfl rfl rfl (by rw [HI.out.2.2.2]; omega) (by unfold maxLen; omega) (Nat.le_refl _) ?_; intro w4 hown hgr; have HD : Hid (Db w w4 t v w3.heap.size cnt 0) := Db.start v HS3.out.1 HS3.out.2 hown hgr; clear hown hgr))
  clear HS HS2 HS3 HC HWd HCt
  generalize w3.heap.size = b at *
  go_loopw [34] (fun i wr => ∃ k : Nat, k ≤ cnt ∧ i = .int .i64 k ∧ deB t v k = true ∧ Db w wr t v b cnt k) (fun i _ => cnt - (intOf i).toNat)
  case atStart => exact ⟨0, by omega, rfl, rfl, HD.out⟩
  case round =>
    rename World => wr
    obtain ⟨k, hk, rfl, h1, h2⟩ := hrel
    have HQ : Hid (deB t v k = true ∧ Db w wr t v b cnt k) := ⟨h1, h2⟩
    clear h1 h2 HD
    by_cases hlt : k < cnt
    · have k0 : (0 : Int) ≤ (k : Int) := by omega
      have k1 : (k : Int) < (cnt : Int) := by omega
      obtain ⟨KK, hKK⟩ : ∃ KK, KK = k * wd := ⟨_, rfl⟩
      have hkm : (k : Int) * (wd : Int) = (KK : Int) := by rw [hKK]; simp
      have hKN : KK + wd ≤ n := by
        rw [← HMul.out, hKK, ← Nat.succ_mul]
        exact Nat.mul_le_mul_right _ hlt
      have hKb : KK ≤ 2097152 := by rw [hKK]; exact Nat.mul_le_mul (show k ≤ 65536 by omega) h32
      have HKK : Hid (KK = k * wd) := hKK
      clear hKK
      have hKN' : (KK : Int) ≤ (n : Int) := by omega
      have hKc : (KK : Int) ≤ (cap : Int) := by omega
      have hK0 : (0 : Int) ≤ (KK : Int) := by omega
      have hKi : (KK : Int) ≤ 2097152 := by omega
      have HRd : Hid (∀ W, Below w.heap.size w W → Calls Tryd.prog 46 #[.slice (if cap = KK then ao else Option.map (fun x => x.add KK) ao) (n - KK) (cap - KK), .agg #[.int .i64 (t.u 0), .int .i64 (t.u 1), .int .i64 (t.u 2), .int .i64 (t.u 3), .int .i64 (t.l 0), .int .i64 (t.l 1), .int .i64 (t.l 2), .int .i64 (t.l 3), .int .i64 (t.b 0), .int .i64 (t.b 1), .int .i64 (t.b 2), .int .i64 (t.b 3), .int .i64 t.d]] W (ReOut W t (sv t v k))) := fun W hb => HRe.out _ _ _ _ W (((HW.out.cut hc).same fun j _ => by unfold sv; rw [HWD.out, HKK.out]).below hb) (by omega) (by omega)
      have HNo : Hid (bdK t (sv t v k) 4 = false → deB t v cnt = false) := fun e => deB_no hlt e
      have HYe : Hid (bdK t (sv t v k) 4 = true → deB t v (k + 1) = true) := fun e => deB_iff.2 fun i hi => by
        by_cases e' : i = k
        · rw [e']; exact e
        · exact deB_iff.1 HQ.out.1 i (by omega)
      have HX : Hid (Db w wr.drew t v b cnt k) := HQ.out.2.next (Below.refl _ _).drew
      have hbt : ¬ w.heap.size = b := by have := HQ.out.2.hb; omega
      go_upto_region 14 with fail
      cases hR : bdK t (sv t v k) 4
      · have hN := HNo.out hR
        have HRd2 : Hid (∀ W, Below w.heap.size w W → Calls Tryd.prog 46 #[.slice (if cap = KK then ao else Option.map (fun (x : Addr) => x.add KK) ao) (n - KK) (cap - KK), .agg #[.int .i64 (t.u 0), .int .i64 (t.u 1), .int .i64 (t.u 2), .int .i64 (t.u 3), .int .i64 (t.l 0), .int .i64 (t.l 1), .int .i64 (t.l 2), .int .i64 (t.l 3), .int .i64 (t.b 0), .int .i64 (t.b 1), .int .i64 (t.b 2), .int .i64 (t.b 3), .int .i64 t.d]] W fun e w' => e = .returned (.tuple #[bz, .bool false]) ∧ Below W.heap.size W w') := fun W hb => by
          have := HRd.out W hb
          unfold ReOut at this
          rw [hR] at this
          exact this
        clear hR HRd HNo HYe HQ
        refine wp_region_held_drew (S := fun W' => TabAt W' w.heap.size t) (by kernel_rfl) HX.out.t (fun hHeld => ?_)
        refine wpAnyH_take (i := 0) (v := .slice (some ⟨b, 0, none⟩) cnt cnt) rfl (by kernel_rfl) (by kernel_rfl) (by kernel_rfl) (fun _ _ _ h => h) (Or.inl ⟨by rfl, fun w' hSw => by (go_simp)⟩) hHeld ?_
        simp only [Act.put, List.setIfInBounds_toArray, List.set_cons_zero, List.set_cons_succ, List.getElem_cons_zero, List.getElem_toArray]
        refine wpAnyH_take (i := 1) (v := .int .i64 (k : Int)) rfl (by kernel_rfl) (by kernel_rfl) (by kernel_rfl) (fun _ _ _ h => h) (Or.inl ⟨by rfl, fun w' hSw => by (go_simp)⟩) hHeld ?_
        simp only [Act.put, List.setIfInBounds_toArray, List.set_cons_zero, List.set_cons_succ, List.getElem_cons_zero, List.getElem_cons_succ, List.getElem_toArray]
        refine wpAnyH_take (i := 2) (v := .slice ao n cap) rfl (by kernel_rfl) (by kernel_rfl) (by kernel_rfl) (fun _ _ _ h => h) (Or.inl ⟨by rfl, fun w' hSw => by (go_simp)⟩) hHeld ?_
        simp only [Act.put, List.setIfInBounds_toArray, List.set_cons_zero, List.set_cons_succ, List.getElem_cons_zero, List.getElem_cons_succ, List.getElem_toArray]
        refine wpAnyH_take (i := 3) (v := .int .i64 (k : Int)) rfl (by kernel_rfl) (by kernel_rfl) (by kernel_rfl) (fun _ _ _ h => h) (Or.inl ⟨by rfl, fun w' hSw => by (go_simp)⟩) hHeld ?_
        simp only [Act.put, List.setIfInBounds_toArray, List.set_cons_zero, List.set_cons_succ, List.getElem_cons_zero, List.getElem_cons_succ, List.getElem_toArray]
        refine wpAnyH_take (i := 4) (v := .int .i64 (wd : Int)) rfl (by kernel_rfl) (by kernel_rfl) (by kernel_rfl) (fun _ _ _ h => h) (Or.inl ⟨by rfl, fun w' hSw => by (go_simp)⟩) hHeld ?_
        simp only [Act.put, List.setIfInBounds_toArray, List.set_cons_zero, List.set_cons_succ, List.getElem_cons_zero, List.getElem_cons_succ, List.getElem_toArray]
        refine wpAnyH_take (i := 5) (v := .int .i64 (KK : Int)) rfl (by kernel_rfl) (by kernel_rfl) (by kernel_rfl) (fun _ _ _ h => h) (Or.inl ⟨by rfl, fun w' hSw => by (go_simp; exact wrap_in hK0 (Int.le_refl _) hKi)⟩) hHeld ?_
        simp only [Act.put, List.setIfInBounds_toArray, List.set_cons_zero, List.set_cons_succ, List.getElem_cons_zero, List.getElem_cons_succ, List.getElem_toArray]
        refine wpAnyH_take (i := 6) (v := .slice (if cap = KK then ao else Option.map (fun (x : Addr) => x.add KK) ao) (n - KK) (cap - KK)) rfl (by kernel_rfl) (by kernel_rfl) (by kernel_rfl) (fun _ _ _ h => h) (Or.inl ⟨by rfl, fun w' hSw => by (go_simp)⟩) hHeld ?_
        simp only [Act.put, List.setIfInBounds_toArray, List.set_cons_zero, List.set_cons_succ, List.getElem_cons_zero, List.getElem_cons_succ, List.getElem_toArray]
        refine wpAnyH_take (i := 7) (v := .agg #[.int .i64 (t.u 0), .int .i64 (t.u 1), .int .i64 (t.u 2), .int .i64 (t.u 3), .int .i64 (t.l 0), .int .i64 (t.l 1), .int .i64 (t.l 2), .int .i64 (t.l 3), .int .i64 (t.b 0), .int .i64 (t.b 1), .int .i64 (t.b 2), .int .i64 (t.b 3), .int .i64 t.d]) rfl (by kernel_rfl) (by kernel_rfl) (by kernel_rfl) (fun _ _ _ h => h) (Or.inl ⟨by rfl, fun w' hSw => by (have k2 := hSw; have qu0 := k2.cu 0 (by decide); have qu1 := k2.cu 1 (by decide); have qu2 := k2.cu 2 (by decide); have qu3 := k2.cu 3 (by decide); have ql0 := k2.cl 0 (by decide); have ql1 := k2.cl 1 (by decide); have ql2 := k2.cl 2 (by decide); have ql3 := k2.cl 3 (by decide); have qb0 := k2.cb 0 (by decide); have qb1 := k2.cb 1 (by decide); have qb2 := k2.cb 2 (by decide); have qb3 := k2.cb 3 (by decide); have qd := k2.cd; have qz := k2.lt; clear k2; go_simp)⟩) hHeld ?_
        simp only [Act.put, List.setIfInBounds_toArray, List.set_cons_zero, List.set_cons_succ, List.getElem_cons_zero, List.getElem_cons_succ, List.getElem_toArray]
        refine wpAnyH_ready (rs := [8]) (by kernel_rfl) (by simp) ?_
        refine AllReadyH.cons rfl (fun K hK => ?_) AllReadyH.nil
        go_simp
        refine Calls.mono (HRd2.out _ HX.out.up) ?_
        rintro e w5 ⟨rfl, hb5⟩
        have HE5 : Hid (Db w w5 t v b cnt k) := HX.out.next hb5
        clear hb5
        refine hK.out _ _ HE5.out.t (fun hHeld => ?_)
        clear hK K
        refine wpAnyH_take (i := 9) (v := .tuple #[bz, .bool false]) rfl (by kernel_rfl) (by kernel_rfl) (by kernel_rfl) (fun _ _ _ h => h) (Or.inl ⟨by rfl, fun w' hSw => by (go_simp)⟩) hHeld ?_
        simp only [Act.put, List.setIfInBounds_toArray, List.set_cons_zero, List.set_cons_succ, List.getElem_cons_zero, List.getElem_cons_succ, List.getElem_toArray]
        refine wpAnyH_take (i := 10) (v := bz) rfl (by kernel_rfl) (by kernel_rfl) (by kernel_rfl) (fun _ _ _ h => h) (Or.inl ⟨by rfl, fun w' hSw => by (go_simp)⟩) hHeld ?_
        simp only [Act.put, List.setIfInBounds_toArray, List.set_cons_zero, List.set_cons_succ, List.getElem_cons_zero, List.getElem_cons_succ, List.getElem_toArray]
        refine wpAnyH_take (i := 11) (v := .bool false) rfl (by kernel_rfl) (by kernel_rfl) (by kernel_rfl) (fun _ _ _ h => h) (Or.inl ⟨by rfl, fun w' hSw => by (go_simp)⟩) hHeld ?_
        simp only [Act.put, List.setIfInBounds_toArray, List.set_cons_zero, List.set_cons_succ, List.getElem_cons_zero, List.getElem_cons_succ, List.getElem_toArray]
        refine wpAnyH_take (i := 12) (v := .pointer (some ⟨b, k * 4, none⟩)) rfl (by kernel_rfl) (by kernel_rfl) (by kernel_rfl) (fun _ _ _ h => h) (Or.inl ⟨by rfl, fun w' hSw => by (go_simp)⟩) hHeld ?_
        simp only [Act.put, List.setIfInBounds_toArray, List.set_cons_zero, List.set_cons_succ, List.getElem_cons_zero, List.getElem_cons_succ, List.getElem_toArray]
        refine wpAnyH_ready (rs := [13]) (by kernel_rfl) (by simp) ?_
        refine AllReadyH.cons rfl (fun K hK => ?_) AllReadyH.nil
        obtain ⟨y0, z0⟩ := HE5.out.z (k * 4) (by omega)
        obtain ⟨y1, z1⟩ := HE5.out.z (k * 4 + 1) (by omega)
        obtain ⟨y2, z2⟩ := HE5.out.z (k * 4 + 2) (by omega)
        obtain ⟨y3, z3⟩ := HE5.out.z (k * 4 + 3) (by omega)
        have f0 := HE5.out.f (k * 4)
        have f1 := HE5.out.f (k * 4 + 1)
        have f2 := HE5.out.f (k * 4 + 2)
        have f3 := HE5.out.f (k * 4 + 3)
        have fl := HE5.out.lt
        go_simp
        have HD6 : Hid (TabAt (set4 w5 b (k * 4) (.slice none 0 0) (.slice none 0 0) (.slice none 0 0) (.slice none 0 0)) w.heap.size t ∧ Below w.heap.size w (set4 w5 b (k * 4) (.slice none 0 0) (.slice none 0 0) (.slice none 0 0) (.slice none 0 0))) := ⟨tab_fr HE5.out.t (set4_fr _ _ _ _ _ _ _) hbt, HE5.out.up.trans ((set4_fr _ _ _ _ _ _ _).below HE5.out.up.size fun j hj e => by have e : j = b := e; have := HE5.out.hb; omega)⟩
        refine hK.out _ _ HD6.out.1 (fun hHeld => ?_)
        clear hK K z0 z1 z2 z3 f0 f1 f2 f3 fl
        refine wpAnyH_take (i := 14) (v := .bool false) rfl (by kernel_rfl) (by kernel_rfl) (by kernel_rfl) (fun _ _ _ h => h) (Or.inl ⟨by rfl, fun w' hSw => by (go_simp)⟩) hHeld ?_
        simp only [Act.put, List.setIfInBounds_toArray, List.set_cons_zero, List.set_cons_succ, List.getElem_cons_zero, List.getElem_cons_succ, List.getElem_toArray]
        refine wpAnyH_done (by kernel_rfl) ?_ _
        clear hHeld HX HE5
        go_wp2_with fail
        all_goals
          go_ret2
          exact DeOut.no hN HD6.out.2
      · have HRd2 : Hid (∀ W, Below w.heap.size w W → Calls Tryd.prog 46 #[.slice (if cap = KK then ao else Option.map (fun (x : Addr) => x.add KK) ao) (n - KK) (cap - KK), .agg #[.int .i64 (t.u 0), .int .i64 (t.u 1), .int .i64 (t.u 2), .int .i64 (t.u 3), .int .i64 (t.l 0), .int .i64 (t.l 1), .int .i64 (t.l 2), .int .i64 (t.l 3), .int .i64 (t.b 0), .int .i64 (t.b 1), .int .i64 (t.b 2), .int .i64 (t.b 3), .int .i64 t.d]] W fun e w' => ∃ p, e = .returned (.tuple #[bval (bdX t (sv t v k)) p, .bool true]) ∧ BnIn w' (bdX t (sv t v k)) p ∧ (∀ j, j < 4 → ∀ A, (p.a j) = some A → W.heap.size ≤ A.block) ∧ Below W.heap.size W w') := fun W hb => by
          have := HRd.out W hb
          unfold ReOut at this
          rw [hR] at this
          exact this
        have HY2 : Hid _ := HYe.out hR
        clear hR HRd HNo HYe HQ
        refine wp_region_held_drew (S := fun W' => TabAt W' w.heap.size t) (by kernel_rfl) HX.out.t (fun hHeld => ?_)
        refine wpAnyH_take (i := 0) (v := .slice (some ⟨b, 0, none⟩) cnt cnt) rfl (by kernel_rfl) (by kernel_rfl) (by kernel_rfl) (fun _ _ _ h => h) (Or.inl ⟨by rfl, fun w' hSw => by (go_simp)⟩) hHeld ?_
        simp only [Act.put, List.setIfInBounds_toArray, List.set_cons_zero, List.set_cons_succ, List.getElem_cons_zero, List.getElem_toArray]
        refine wpAnyH_take (i := 1) (v := .int .i64 (k : Int)) rfl (by kernel_rfl) (by kernel_rfl) (by kernel_rfl) (fun _ _ _ h => h) (Or.inl ⟨by rfl, fun w' hSw => by (go_simp)⟩) hHeld ?_
        simp only [Act.put, List.setIfInBounds_toArray, List.set_cons_zero, List.set_cons_succ, List.getElem_cons_zero, List.getElem_cons_succ, List.getElem_toArray]
        refine wpAnyH_take (i := 2) (v := .slice ao n cap) rfl (by kernel_rfl) (by kernel_rfl) (by kernel_rfl) (fun _ _ _ h => h) (Or.inl ⟨by rfl, fun w' hSw => by (go_simp)⟩) hHeld ?_
        simp only [Act.put, List.setIfInBounds_toArray, List.set_cons_zero, List.set_cons_succ, List.getElem_cons_zero, List.getElem_cons_succ, List.getElem_toArray]
        refine wpAnyH_take (i := 3) (v := .int .i64 (k : Int)) rfl (by kernel_rfl) (by kernel_rfl) (by kernel_rfl) (fun _ _ _ h => h) (Or.inl ⟨by rfl, fun w' hSw => by (go_simp)⟩) hHeld ?_
        simp only [Act.put, List.setIfInBounds_toArray, List.set_cons_zero, List.set_cons_succ, List.getElem_cons_zero, List.getElem_cons_succ, List.getElem_toArray]
        refine wpAnyH_take (i := 4) (v := .int .i64 (wd : Int)) rfl (by kernel_rfl) (by kernel_rfl) (by kernel_rfl) (fun _ _ _ h => h) (Or.inl ⟨by rfl, fun w' hSw => by (go_simp)⟩) hHeld ?_
        simp only [Act.put, List.setIfInBounds_toArray, List.set_cons_zero, List.set_cons_succ, List.getElem_cons_zero, List.getElem_cons_succ, List.getElem_toArray]
        refine wpAnyH_take (i := 5) (v := .int .i64 (KK : Int)) rfl (by kernel_rfl) (by kernel_rfl) (by kernel_rfl) (fun _ _ _ h => h) (Or.inl ⟨by rfl, fun w' hSw => by (go_simp; exact wrap_in hK0 (Int.le_refl _) hKi)⟩) hHeld ?_
        simp only [Act.put, List.setIfInBounds_toArray, List.set_cons_zero, List.set_cons_succ, List.getElem_cons_zero, List.getElem_cons_succ, List.getElem_toArray]
        refine wpAnyH_take (i := 6) (v := .slice (if cap = KK then ao else Option.map (fun (x : Addr) => x.add KK) ao) (n - KK) (cap - KK)) rfl (by kernel_rfl) (by kernel_rfl) (by kernel_rfl) (fun _ _ _ h => h) (Or.inl ⟨by rfl, fun w' hSw => by (go_simp)⟩) hHeld ?_
        simp only [Act.put, List.setIfInBounds_toArray, List.set_cons_zero, List.set_cons_succ, List.getElem_cons_zero, List.getElem_cons_succ, List.getElem_toArray]
        refine wpAnyH_take (i := 7) (v := .agg #[.int .i64 (t.u 0), .int .i64 (t.u 1), .int .i64 (t.u 2), .int .i64 (t.u 3), .int .i64 (t.l 0), .int .i64 (t.l 1), .int .i64 (t.l 2), .int .i64 (t.l 3), .int .i64 (t.b 0), .int .i64 (t.b 1), .int .i64 (t.b 2), .int .i64 (t.b 3), .int .i64 t.d]) rfl (by kernel_rfl) (by kernel_rfl) (by kernel_rfl) (fun _ _ _ h => h) (Or.inl ⟨by rfl, fun w' hSw => by (have k2 := hSw; have qu0 := k2.cu 0 (by decide); have qu1 := k2.cu 1 (by decide); have qu2 := k2.cu 2 (by decide); have qu3 := k2.cu 3 (by decide); have ql0 := k2.cl 0 (by decide); have ql1 := k2.cl 1 (by decide); have ql2 := k2.cl 2 (by decide); have ql3 := k2.cl 3 (by decide); have qb0 := k2.cb 0 (by decide); have qb1 := k2.cb 1 (by decide); have qb2 := k2.cb 2 (by decide); have qb3 := k2.cb 3 (by decide); have qd := k2.cd; have qz := k2.lt; clear k2; go_simp)⟩) hHeld ?_
        simp only [Act.put, List.setIfInBounds_toArray, List.set_cons_zero, List.set_cons_succ, List.getElem_cons_zero, List.getElem_cons_succ, List.getElem_toArray]
        refine wpAnyH_ready (rs := [8]) (by kernel_rfl) (by simp) ?_
        refine AllReadyH.cons rfl (fun K hK => ?_) AllReadyH.nil
        go_simp
        refine Calls.mono (HRd2.out _ HX.out.up) ?_
        rintro e w5 ⟨p, rfl, hB5, hf5, hb5⟩
        have HE5 : Hid (Db w w5 t v b cnt k ∧ BnIn w5 (bdX t (sv t v k)) p ∧ ∀ j, j < 4 → ∀ A, (p.a j) = some A → b < A.block) := ⟨HX.out.next hb5, hB5, fun j hj A hA => Nat.lt_of_lt_of_le HX.out.lt (hf5 j hj A hA)⟩
        clear hB5 hf5 hb5
        refine hK.out _ _ HE5.out.1.t (fun hHeld => ?_)
        clear hK K
        refine wpAnyH_take (i := 9) (v := .tuple #[bval (bdX t (sv t v k)) p, .bool true]) rfl (by kernel_rfl) (by kernel_rfl) (by kernel_rfl) (fun _ _ _ h => h) (Or.inl ⟨by rfl, fun w' hSw => by (go_simp)⟩) hHeld ?_
        simp only [Act.put, List.setIfInBounds_toArray, List.set_cons_zero, List.set_cons_succ, List.getElem_cons_zero, List.getElem_cons_succ, List.getElem_toArray]
        refine wpAnyH_take (i := 10) (v := bval (bdX t (sv t v k)) p) rfl (by kernel_rfl) (by kernel_rfl) (by kernel_rfl) (fun _ _ _ h => h) (Or.inl ⟨by rfl, fun w' hSw => by (go_simp)⟩) hHeld ?_
        simp only [Act.put, List.setIfInBounds_toArray, List.set_cons_zero, List.set_cons_succ, List.getElem_cons_zero, List.getElem_cons_succ, List.getElem_toArray]
        refine wpAnyH_take (i := 11) (v := .bool true) rfl (by kernel_rfl) (by kernel_rfl) (by kernel_rfl) (fun _ _ _ h => h) (Or.inl ⟨by rfl, fun w' hSw => by (go_simp)⟩) hHeld ?_
        simp only [Act.put, List.setIfInBounds_toArray, List.set_cons_zero, List.set_cons_succ, List.getElem_cons_zero, List.getElem_cons_succ, List.getElem_toArray]
        refine wpAnyH_take (i := 12) (v := .pointer (some ⟨b, k * 4, none⟩)) rfl (by kernel_rfl) (by kernel_rfl) (by kernel_rfl) (fun _ _ _ h => h) (Or.inl ⟨by rfl, fun w' hSw => by (go_simp)⟩) hHeld ?_
        simp only [Act.put, List.setIfInBounds_toArray, List.set_cons_zero, List.set_cons_succ, List.getElem_cons_zero, List.getElem_cons_succ, List.getElem_toArray]
        refine wpAnyH_ready (rs := [13]) (by kernel_rfl) (by simp) ?_
        refine AllReadyH.cons rfl (fun K hK => ?_) AllReadyH.nil
        obtain ⟨y0, z0⟩ := HE5.out.1.z (k * 4) (by omega)
        obtain ⟨y1, z1⟩ := HE5.out.1.z (k * 4 + 1) (by omega)
        obtain ⟨y2, z2⟩ := HE5.out.1.z (k * 4 + 2) (by omega)
        obtain ⟨y3, z3⟩ := HE5.out.1.z (k * 4 + 3) (by omega)
        have f0 := HE5.out.1.f (k * 4)
        have f1 := HE5.out.1.f (k * 4 + 1)
        have f2 := HE5.out.1.f (k * 4 + 2)
        have f3 := HE5.out.1.f (k * 4 + 3)
        have fl := HE5.out.1.lt
        go_simp
        have HD6 : Hid (Db w (set4 w5 b (k * 4) (.slice (p.a 0) ((bdX t (sv t v k)).l 0).length (p.c 0)) (.slice (p.a 1) ((bdX t (sv t v k)).l 1).length (p.c 1)) (.slice (p.a 2) ((bdX t (sv t v k)).l 2).length (p.c 2)) (.slice (p.a 3) ((bdX t (sv t v k)).l 3).length (p.c 3))) t v b cnt (k + 1)) := HE5.out.1.set hlt HE5.out.2.1 HE5.out.2.2
        refine hK.out _ _ HD6.out.t (fun hHeld => ?_)
        clear hK K z0 z1 z2 z3 f0 f1 f2 f3 fl
        refine wpAnyH_take (i := 14) (v := .bool true) rfl (by kernel_rfl) (by kernel_rfl) (by kernel_rfl) (fun _ _ _ h => h) (Or.inl ⟨by rfl, fun w' hSw => by (go_simp)⟩) hHeld ?_
        simp only [Act.put, List.setIfInBounds_toArray, List.set_cons_zero, List.set_cons_succ, List.getElem_cons_zero, List.getElem_cons_succ, List.getElem_toArray]
        refine wpAnyH_done (by kernel_rfl) ?_ _
        clear hHeld HX HE5
        go_wp2_with fail
        go_roundw
        case rel => exact ⟨k + 1, by omega, by go_num, HY2.out, HD6.out⟩
        case measure => simp [intOf]; omega
    · obtain rfl : k = cnt := by omega
      have k1 : ¬ (k : Int) < (k : Int) := by omega
      go_wp2_with fail
      go_ret2
      exact DeOut.yes HQ.out.1 (HQ.out.2.at hl) (HQ.out.2.far hl) HQ.out.2.up
end Go.Proofs.YtldfjlepbbmhnaaDoor.Bu
