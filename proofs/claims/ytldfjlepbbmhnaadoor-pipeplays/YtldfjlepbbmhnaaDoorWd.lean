/- What write leaves in memory: a bundle's words, read off the program by the walk. Conditions: the words lie in a block of their own, behind all that the bundle holds. -/
import Derived.Test.YtldfjlepbbmhnaaDoorSm
namespace Go.Proofs.YtldfjlepbbmhnaaDoor.Bu
open Go.ChangeShapes Go.WideShapes Go.ChangeAt Go.RowKit
open _root_.Go.Proofs.YtldfjlepbbmhnaaDoor.Op
open _root_.Go.Proofs.YtldfjlepbbmhnaaDoor.Tb (Tab TabAt Bnds four tabAt_new ckR)
open _root_.Go.Proofs.YtldfjlepbbmhnaaDoor.So
set_option maxRecDepth 20000

/-- Words in a block: some, and behind them 0s. -/
structure Wl (W : World) (b N : Nat) (ws : List Int) : Prop where
  c : ∀ k, k < N → W.cell? ⟨b, k, none⟩ = some (.int .u64 (ws.getD k 0))
  f : ∀ k, W.frozen? ⟨b, k, none⟩ = false
  lt : b < W.heap.size
theorem Wl.fr {X : Nat → Prop} {W W' : World} {b N : Nat} {ws : List Int} (a : Wl W b N ws) (g : Fr X W W') (hx : ¬ X b) : Wl W' b N ws :=
  ⟨fun k hk => (g.cell a.lt hx k).trans (a.c k hk), fun k => (g.frozen a.lt hx k).trans (a.f k), Nat.lt_of_lt_of_le a.lt g.size⟩
theorem Wl.up {W W' : World} {b N : Nat} {ws : List Int} (a : Wl W b N ws) (g : Below W.heap.size W W') : Wl W' b N ws := a.fr (Fr.of (X := Non) g) fun h => h
theorem getD_snoc (ws : List Int) (v : Int) (j : Nat) : (ws ++ [v]).getD j 0 = if j = ws.length then v else ws.getD j 0 := by
  rw [List.getD_eq_getElem?_getD, List.getD_eq_getElem?_getD]
  by_cases e : j = ws.length
  · rw [if_pos e, List.getElem?_append_right (by omega), e]; simp
  · rw [if_neg e]
    by_cases h : j < ws.length
    · rw [List.getElem?_append_left h]
    · rw [List.getElem?_eq_none (by simp; omega), List.getElem?_eq_none (by omega)]
theorem getD_zeros (ws : List Int) (n j : Nat) : (ws ++ List.replicate n 0).getD j 0 = ws.getD j 0 := by
  rw [List.getD_eq_getElem?_getD, List.getD_eq_getElem?_getD]
  by_cases h : j < ws.length
  · rw [List.getElem?_append_left h]
  · rw [List.getElem?_append_right (by omega), List.getElem?_replicate, List.getElem?_eq_none (by omega)]
    split <;> rfl
theorem Wl.set {W : World} {b N : Nat} {ws : List Int} (a : Wl W b N ws) (v : Int) : Wl (W.setCell ⟨b, ws.length, none⟩ (.int .u64 v)) b N (ws ++ [v]) := by
  refine ⟨fun j hj => ?_, fun j => by rw [World.frozen?_setCell]; exact a.f j, by simpa using a.lt⟩
  rw [getD_snoc]
  by_cases e : j = ws.length
  · subst e
    rw [if_pos rfl, World.cell?_setCell_same _ _ _ (a.c _ hj)]
  · rw [if_neg e, World.cell?_setCell_other]
    · exact a.c j hj
    · intro h'; injection h' with _ h2; exact e h2.symm
theorem Wl.zeros {W : World} {b N : Nat} {ws : List Int} (a : Wl W b N ws) (n : Nat) : Wl W b N (ws ++ List.replicate n 0) :=
  ⟨fun k hk => by rw [getD_zeros]; exact a.c k hk, a.f, a.lt⟩

theorem add_bu (b f n : Nat) : (⟨b, f, none⟩ : Addr).add n = ⟨b, f + n, none⟩ := by
  unfold Addr.add
  split
  · rename_i h; subst h; rfl
  · rfl
/-- Where a list that is cut off in front lies. -/
theorem cut_at {a : Option Addr} {b F n c u : Nat} (h : 0 < n → a = some ⟨b, F, none⟩) (hc : n ≤ c) (h0 : 0 < n - u) : (if c = u then a else Option.map (fun x => x.add u) a) = some ⟨b, F + u, none⟩ := by
  rw [if_neg (by omega), h (by omega)]
  simp [add_bu]
structure Wt (w W : World) (b N : Nat) (t : Tab) (ws : List Int) : Prop where
  wl : Wl W b N ws
  t : TabAt W (w.heap.size + 1) t
  fr : Fr (One b) w W
  lt : b < w.heap.size
theorem Wt.next {w W W' : World} {b N : Nat} {t : Tab} {ws : List Int} (h : Wt w W b N t ws) (g : Below W.heap.size W W') : Wt w W' b N t ws :=
  ⟨h.wl.up g, h.t.below g h.t.lt, h.fr.then g, h.lt⟩
theorem Wt.set {w W : World} {b N : Nat} {t : Tab} {ws : List Int} (h : Wt w W b N t ws) (v : Int) : Wt w (W.setCell ⟨b, ws.length, none⟩ (.int .u64 v)) b N t (ws ++ [v]) := by
  have hl := h.lt
  have hz := h.fr.size
  have g : Fr (One b) W (W.setCell ⟨b, ws.length, none⟩ (.int .u64 v)) := (Fr.refl (One b) W).setCell (.inr rfl) _ _
  have ht := h.t
  refine ⟨h.wl.set v, ?_, h.fr.same g, hl⟩
  exact ⟨fun k hk => (g.cell ht.lt (by show ¬ _ = b; omega) k).trans (ht.cu k hk), fun k hk => (g.cell ht.lt (by show ¬ _ = b; omega) _).trans (ht.cl k hk), fun k hk => (g.cell ht.lt (by show ¬ _ = b; omega) _).trans (ht.cb k hk), (g.cell ht.lt (by show ¬ _ = b; omega) _).trans ht.cd, by simpa using ht.lt⟩
theorem Wt.zeros {w W : World} {b N : Nat} {t : Tab} {ws : List Int} (h : Wt w W b N t ws) (n : Nat) : Wt w W b N t (ws ++ List.replicate n 0) := ⟨h.wl.zeros n, h.t, h.fr, h.lt⟩

theorem info40 : (Tryd.prog.info? 40).map (fun i => (i.zero, i.size, i.bytes)) = some (some (.int .u64 0), 1, 8) := by kernel_rfl

set_option maxHeartbeats 4000000 in
theorem write_any (x : Bn) (p : Pb) (t : Tab) (w0 w : World) (b N n c : Nat) (ao : Option Addr) (ws : List Int) (hx : BnIn w0 x p) (hw0 : Below w0.heap.size w0 w) (hb : w0.heap.size ≤ b) (hl : Wl w b N ws) (ht : t.ok = true) (hw : wfB t x = true)
    (hn : n + ws.length = N) (hc : n ≤ c) (ha : 0 < n → ao = some ⟨b, ws.length, none⟩) (ho : ofs t 4 ≤ n) (hN : N ≤ 4194304) :
    Calls Tryd.prog 38 #[.slice ao n c, bval x p, t.val] w fun e w' => e = .returned (.tuple #[]) ∧ Wl w' b N (ws ++ wBk t x 4) ∧ Fr (One b) w w' := by
  have HU : Hid (∀ k, k < 4 → t.u k = (U t k : Int) ∧ U t k ≤ 8) := fun k hk => ⟨u_nat ht hk, u_le ht hk⟩
  have HI : Hid (∀ k : Nat, k < 4 → ∀ w, (Instr.index 61 (bval x p) (.int .i64 k)).run Tryd.prog w = .ok (.slice (p.a k) (x.l k).length (p.c k)) w) := fun k hk w => idx34 x p k hk w
  have hwf := wfK_iff.1 hw
  have HL : Hid (∀ k, k < 4 → (x.l k).length ≤ U t k ∧ ofs t k + U t k ≤ n ∧ (wBk t x k).length = ofs t k ∧ wBk t x (k + 1) = wBk t x k ++ wsL (U t k) (x.l k)) := fun k hk => ⟨(clsB_parts (hwf k hk)).1, Nat.le_trans (ofs_mono hk) ho, wBk_len (wfK_iff.2 fun j hj => hwf j (by omega)), rfl⟩
  have HF : Hid (∀ k, k < 4 → ∀ o ∈ x.l k, Fld o) := fun k hk o hm => isB_fld ((hx.o k hk).ok o hm) (List.all_eq_true.1 (clsB_parts (hwf k hk)).2 o hm)
  have HX : Hid (∀ W, Fr (One b) w W → BnIn W x p) := fun W g => by
    refine hx.below (hw0.trans (g.below hw0.size fun k hk e => ?_))
    have e : k = b := e
    omega
  have HS : Hid (Wt w ((w.alloc (.cells (bcs x p) 63)).alloc (.cells t.cells 25)) b N t ws) := ⟨hl.up (two_boxed w x p t 63 25).2, (two_boxed w x p t 63 25).1, Fr.of (two_boxed w x p t 63 25).2, hl.lt⟩
  have HA : Hid (0 < n → ao = some ⟨b, ws.length, none⟩) := ha
  clear hx ht hw hwf hw0 hb hl ha
  unfold Tab.val at *
  go_enter Tryd.func38, Tryd.ntmps38
  go_upto_region 2 with fail
  generalize ((w.alloc (.cells (bcs x p) 63)).alloc (.cells t.cells 25)) = W0 at *
  go_loopw [0, 12] (fun s i wr => ∃ (k n' c' : Nat) (a' : Option Addr), k ≤ 4 ∧ i = .int .i64 k ∧ s = .slice a' n' c' ∧ n' + (ws.length + ofs t k) = N ∧ n' ≤ c' ∧ (0 < n' → a' = some ⟨b, ws.length + ofs t k, none⟩) ∧ Wt w wr b N t (ws ++ wBk t x k)) (fun _ i _ => 4 - (intOf i).toNat)
  case atStart => exact ⟨0, n, c, ao, by omega, rfl, rfl, by simpa [ofs] using hn, hc, fun h => HA.out h, by simpa [wBk] using HS.out⟩
  case round =>
    rename World => wr
    obtain ⟨k, n', c', a', hk, rfl, rfl, g1, g2, g3, g4⟩ := hrel
    obtain ⟨F, hF⟩ : ∃ F, F = ws.length + ofs t k := ⟨_, rfl⟩
    rw [← hF] at g1 g3
    have HFd : Hid (F = ws.length + ofs t k) := hF
    clear hF
    have HQ : Hid ((0 < n' → a' = some ⟨b, F, none⟩) ∧ Wt w wr b N t (ws ++ wBk t x k)) := ⟨g3, g4⟩
    clear g3 g4 HS HA
    by_cases hlt : k < 4
    · have hi := HI.out k hlt
      have k0 : (0 : Int) ≤ (k : Int) := by omega
      have k4 : (k : Int) < 4 := by omega
      obtain ⟨l1, l2, l3, l4⟩ := HL.out k hlt
      have HL4 : Hid (wBk t x (k + 1) = wBk t x k ++ wsL (U t k) (x.l k) ∧ (wBk t x k).length = ofs t k) := ⟨l4, l3⟩
      have HXk : Hid (∀ W, Fr (One b) w W → OpsAt W (p.a k) (x.l k)) := fun W g => (HX.out W g).o k hlt
      have HFk : Hid (∀ o ∈ x.l k, Fld o) := HF.out k hlt
      have hu8 := (HU.out k hlt).2
      have HUk : Hid (t.u k = (U t k : Int)) := (HU.out k hlt).1
      have hUn : U t k ≤ n' := by have := HFd.out; omega
      clear l3 l4
      obtain ⟨L, hL⟩ : ∃ L, ws ++ wBk t x k = L := ⟨_, rfl⟩
      have HLL : Hid (L.length = F) := (by rw [← hL, List.length_append, HL4.out.2, HFd.out] : L.length = F)
      have HNx : Hid (ws ++ wBk t x (k + 1) = L ++ wsL (U t k) (x.l k)) := (by rw [HL4.out.1, ← hL, List.append_assoc] : ws ++ wBk t x (k + 1) = L ++ wsL (U t k) (x.l k))
      have HQ1 : Hid ((0 < n' → a' = some ⟨b, F, none⟩) ∧ Wt w wr b N t L) := by rw [← hL]; exact HQ.out
      clear hL HL4 HQ HI HF HX HU HL
      have HOn : Hid (ofs t (k + 1) = ofs t k + U t k) := rfl
      obtain ⟨xs, hxs⟩ : ∃ xs, x.l k = xs := ⟨_, rfl⟩
      rw [hxs] at hi HXk HFk HNx l1
      clear hxs
      generalize p.a k = pa at *
      generalize p.c k = pc at *
      have hxl : (xs.length : Int) ≤ 8 := by omega
      go_upto_region 5 with fail
      go_loopw [18] (fun v wz => ∃ i : Nat, i ≤ xs.length ∧ v = .int .i64 i ∧ Wt w wz b N t (L ++ (xs.take i).map wdO)) (fun v _ => xs.length - (intOf v).toNat)
      case atStart => exact ⟨0, by omega, rfl, by simpa using HQ1.out.2⟩
      case round =>
        rename World => wz
        obtain ⟨i, hi', rfl, hs⟩ := hrel
        have HZ : Hid (Wt w wz b N t (L ++ (xs.take i).map wdO)) := hs
        clear hs
        by_cases hil : i < xs.length
        · have i0 : (0 : Int) ≤ (i : Int) := by omega
          have i1 : (i : Int) < (xs.length : Int) := by omega
          have i2 : (i : Int) < (n' : Int) := by omega
          obtain ⟨ob, of, hoa, hz, hx⟩ := (HXk.out wz HZ.out.fr).is (by omega)
          subst hoa
          obtain ⟨q0, q1, q2, q3, q4⟩ := hx i hil
          have hpa := HQ1.out.1 (by omega)
          subst hpa
          have HW : Hid (∀ W, Calls Tryd.prog 57 #[xs[i].val] W fun e w' => e = .returned (.int .u64 (wdO xs[i])) ∧ Below W.heap.size W w') := fun W => wordOf_any _ W (HFk.out _ (List.getElem_mem hil))
          have HT : Hid (L ++ (xs.take (i + 1)).map wdO = (L ++ (xs.take i).map wdO) ++ [wdO xs[i]]) := (by rw [List.take_succ_eq_append_getElem hil, List.map_append, ← List.append_assoc]; rfl : L ++ (xs.take (i + 1)).map wdO = (L ++ (xs.take i).map wdO) ++ [wdO xs[i]])
          have HLn : Hid ((L ++ (xs.take i).map wdO).length = F + i) := (by rw [List.length_append, HLL.out, List.length_map, List.length_take, Nat.min_eq_left (by omega)] : (L ++ (xs.take i).map wdO).length = F + i)
          clear hx
          generalize xs[i] = o at *
          generalize L ++ (xs.take i).map wdO = M at *
          go_upto_region 7 with fail
          have HZ2 : Hid (Wt w (wz.alloc (.cells #[.int .i8 o.op, .int .u8 o.d, .int .u8 o.a, .int .u8 o.b, .int .i64 o.im] 55)) b N t M ∧ At (wz.alloc (.cells #[.int .i8 o.op, .int .u8 o.d, .int .u8 o.a, .int .u8 o.b, .int .i64 o.im] 55)) wz.heap.size o.cells) := ⟨HZ.out.next ((Below.refl _ _).alloc (Nat.le_refl _) _), At.new _ _ _⟩
          generalize (wz.alloc (.cells #[.int .i8 o.op, .int .u8 o.d, .int .u8 o.a, .int .u8 o.b, .int .i64 o.im] 55)) = X at *
          obtain ⟨o0, o1, o2, o3, o4⟩ := HZ2.out.2.o5
          clear q0 q1 q2 q3 q4 hz HZ
          go_wp2_with (first
            | (go_at_call 57; refine Calls.mono (HW.out _) ?_; rintro e w2 ⟨rfl, hb2⟩; have HZ3 : Hid (Wt w w2 b N t M) := HZ2.out.1.next hb2; clear hb2 HW HZ2 o0 o1 o2 o3 o4; have hcc := HZ3.out.wl.c (F + i) (by omega); have hff := HZ3.out.wl.f (F + i); have hll := HZ3.out.wl.lt))
          go_roundw
          case rel => exact ⟨i + 1, by omega, by go_num, by rw [HT.out, ← HLn.out]; exact HZ3.out.set _⟩
          case measure => simp [intOf]; omega
        · obtain rfl : i = xs.length := by omega
          have tu := HZ.out.t.cu k hlt
          rw [HUk.out] at tu
          have tz := HZ.out.t.lt
          have HE : Hid (Wt w wz b N t (ws ++ wBk t x (k + 1))) := by
            rw [HNx.out]
            unfold wsL
            rw [← List.append_assoc]
            have := HZ.out
            rw [List.take_length] at this
            exact this.zeros _
          clear HZ
          generalize U t k = u at *
          have u0 : (0 : Int) ≤ (u : Int) := by omega
          have u1 : (u : Int) ≤ (n' : Int) := by omega
          go_wp2_with fail
          go_roundw
          case rel => exact ⟨k + 1, n' - u, c' - u, _, by omega, by go_num, rfl, by have h1 := HOn.out; have h2 := HFd.out; omega, by omega, fun h => by rw [HOn.out, ← Nat.add_assoc, ← HFd.out]; exact cut_at HQ1.out.1 g2 h, HE.out⟩
          case measure => simp [intOf]; omega
    · obtain rfl : k = 4 := by omega
      go_wp2
      refine bodyPost_end (v := .tuple #[]) (by kernel_rfl) rfl ⟨rfl, HQ.out.2.wl, HQ.out.2.fr⟩
end Go.Proofs.YtldfjlepbbmhnaaDoor.Bu
