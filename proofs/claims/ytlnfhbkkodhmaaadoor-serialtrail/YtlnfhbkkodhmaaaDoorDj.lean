/- A new machine of the document's in memory (New): read off the program by the walk. Conditions: the program and the state lie in memory. -/
import Derived.Test.YtlnfhbkkodhmaaaDoorDi
import Derived.Test.YtlnfhbkkodhmaaaDoorNr
import Derived.Test.YtlnfhbkkodhmaaaDoorRj
namespace Go.Proofs.YtlnfhbkkodhmaaaDoor.Sm
open Go.ChangeShapes Go.WideShapes Go.ChangeAt Go.RowKit Go.Great
open _root_.Go.Proofs.YtlnfhbkkodhmaaaDoor.Op _root_.Go.Proofs.YtlnfhbkkodhmaaaDoor.So
set_option maxRecDepth 20000

/-- What a new machine's cells hold. -/
def dzA (r : Option Addr) (n c : Nat) : Array Value := ((List.range 302).map (dG r n c none 0 (initM [] []) (0, false, 0))).toArray
theorem dzA_at (w : World) (r : Option Addr) (n c : Nat) : DAt (w.alloc (.cells (dzA r n c) 84)) w.heap.size (dG r n c none 0 (initM [] []) (0, false, 0)) := by
  have h := Op.At.new w (dzA r n c) 84
  refine ⟨h.lt, h.f, fun j hj => h.c j _ ?_⟩
  unfold dzA
  rw [List.getElem?_toArray, List.getElem?_map, List.getElem?_range hj]
  rfl
theorem over_init (l : List Int) (k : Nat) (hk : k = l.length) : over (fun i => (([] : List Int)[i]?).getD 0) l k = fun i => (l[i]?).getD 0 := by
  subst hk
  funext i
  unfold over
  by_cases h : i < l.length
  · rw [if_pos h, List.getD_eq_getElem?_getD]
  · rw [if_neg h, List.getElem?_eq_none (by omega)]
    simp
/-- What New leaves. -/
def RNew (w : World) (ps : List Bk) (rs ms : List Int) (e : Ending) (w' : World) : Prop := ∃ q, e = .returned (.tuple #[ptr q, .int .i64 0]) ∧ w.heap.size ≤ q ∧ DM w' q ps (One q) (initM rs ms) (0, false, 0) ∧ Below w.heap.size w w'
set_option maxHeartbeats 4000000 in
theorem rnew_ok (ao : Option Addr) (cap : Nat) (ps : List Bk) (ra ma : Option Addr) (rc mc : Nat) (rs ms : List Int) (w : World) (h : PAt w ao ps) (hc : ckP ps = 0) (hP : PsM ps) (h1 : NL w ra rs) (h2 : NL w ma ms) (h32 : rs.length ≤ 32) (h256 : ms.length ≤ 256) (hr : ∀ x ∈ rs, In64 x) (hm : ∀ x ∈ ms, In64 x) :
    Calls Tryd.prog 9 #[.agg #[.slice ao ps.length cap], .agg #[.slice ra rs.length rc, .slice ma ms.length mc]] w (RNew w ps rs ms) := by
  have HCk : Hid (∀ W, Below w.heap.size w W → Calls Tryd.prog 24 #[.agg #[.slice ao ps.length cap]] W fun e w' => e = .returned (.int .i64 0) ∧ Below W.heap.size W w') := fun W hb => by
    have := refCheckP_any ao cap ps W (h.below hb)
    rw [hc] at this; exact this
  have HPA : Hid (∀ W, Below w.heap.size w W → PAt W ao ps) := fun W hb => h.below hb
  have HPs : Hid (PsM ps ∧ Inv ps (initM rs ms)) := ⟨hP, inv_init hP hr hm⟩
  have nb : ∀ {a : Option Addr} {l : List Int}, NL w a l → 0 < l.length → ∀ x, a = some x → x.block < w.heap.size := fun {a l} hn h0 x e => by
    obtain ⟨b, f, e', z, -⟩ := hn.is h0
    rw [e'] at e; cases e; exact z
  have HFi : Hid (∀ (W : World) (q : Nat), Below w.heap.size w W → w.heap.size ≤ q → DAt W q (dG ao ps.length cap none 0 (initM [] []) (0, false, 0)) → Calls Tryd.prog 25 #[.agg #[.slice ra rs.length rc, .slice ma ms.length mc], .pointer (some ⟨q, 1, none⟩), .pointer (some ⟨q, 33, none⟩)] W fun e w' => e = .returned (.bool true) ∧ DAt w' q (dG ao ps.length cap none 0 (initM rs ms) (0, false, 0)) ∧ Fr (One q) W w') := fun W q hb hq hd => by
    have h9 := rfill_any ra ma rc mc rs ms hd (h1.up hb) (h2.up hb) (fun h0 x e e' => by have := nb h1 h0 x e; omega) (fun h0 x e e' => by have := nb h2 h0 x e; omega) h32 h256
    have e : ({ initM [] [] with r := over (initM [] []).r rs rs.length, m := over (initM [] []).m ms ms.length } : Ma) = initM rs ms := by
      show (⟨over (fun i => (([] : List Int)[i]?).getD 0) rs rs.length, over (fun i => (([] : List Int)[i]?).getD 0) ms ms.length, 0, false, 0, 0, 100, 0, [], 0⟩ : Ma) = _
      rw [over_init rs _ rfl, over_init ms _ rfl]; rfl
    rw [e] at h9
    exact h9
  have HB0 : Hid (Bx w ((w.alloc (.cells #[.slice ao ps.length cap] 24)).alloc (.cells #[.slice ra rs.length rc, .slice ma ms.length mc] 27)) ao ps.length cap ra ma rs.length rc ms.length mc) := by
    obtain ⟨a1, a2, hb, -, -⟩ := two_new w #[.slice ao ps.length cap] #[.slice ra rs.length rc, .slice ma ms.length mc] 24 27 (Below.refl _ _)
    exact ⟨a1, a2, hb⟩
  clear h hc hP h1 h2 h32 h256 hr hm nb
  generalize rs.length = rl at *
  generalize ms.length = ml at *
  go_enter Tryd.func9, Tryd.ntmps9
  go_upto_region 4 with (first | (go_at_call 24; refine Calls.mono (HCk.out _ (by go_grown)) ?_; rintro e w1 ⟨rfl, hb⟩; have HB1 : Hid (Bx w w1 ao ps.length cap ra ma rl rc ml mc) := (HB0.out.up hb); have p0 := HB1.out.p.c 0 _ rfl; have s0 := HB1.out.s.c 0 _ rfl; have s1 := HB1.out.s.c 1 _ rfl; have pl := HB1.out.p.lt; have sl := HB1.out.s.lt; clear hb HB0 HCk))
  rename_i K6 hK6
  apply wp_region_lit
  refine wpList_plain rfl (fun K hK => ?_)
  go_simp
  refine hK _ _ ?_
  clear hK K
  refine wpList_buildTo rfl 84 _ rfl (some 14) rfl (dzA ao ps.length cap) (by kernel_rfl) ?_
  refine wpList_boxTo rfl 84 (.tmp 14) rfl (some 15) rfl w1.heap.size rfl (dzA ao ps.length cap) (by kernel_rfl) ?_
  refine wpList_readTo rfl (some 7) rfl (ptr w1.heap.size) (by kernel_rfl) ?_
  refine wpList_nil ?_
  refine hK6 _ _ ?_
  clear hK6 K6
  have HX : Hid (Bx w (w1.alloc (.cells (dzA ao ps.length cap) 84)) ao ps.length cap ra ma rl rc ml mc ∧ DAt (w1.alloc (.cells (dzA ao ps.length cap) 84)) w1.heap.size (dG ao ps.length cap none 0 (initM [] []) (0, false, 0)) ∧ w.heap.size ≤ w1.heap.size) := ⟨HB1.out.up ((Below.refl _ _).alloc (Nat.le_refl _) _), dzA_at _ _ _ _, HB1.out.b.size⟩
  clear HB1 p0 s0 s1 pl sl
  generalize dzA ao ps.length cap = mzz at *
  generalize w1.alloc (.cells mzz 84) = X at *
  generalize w1.heap.size = q at *
  simp only [Act.put, List.setIfInBounds_toArray, List.set_cons_zero, List.set_cons_succ]
  have s0 := HX.out.1.s.c 0 _ rfl
  have s1 := HX.out.1.s.c 1 _ rfl
  have sl := HX.out.1.s.lt
  have ql := HX.out.2.1.lt
  have HXd : Hid (Below w.heap.size w X.drew ∧ DAt X.drew q (dG ao ps.length cap none 0 (initM [] []) (0, false, 0))) := ⟨(HX.out.1.up (drew_up X)).b, HX.out.2.1.up (drew_up X)⟩
  go_wp2_with fail
  go_region_with (first | (go_at_call 25; refine Calls.mono (HFi.out _ q HXd.out.1 HX.out.2.2 HXd.out.2) ?_; rintro e w6 ⟨rfl, h6, g6⟩; have H6 : Hid (DAt w6 q (dG ao ps.length cap none 0 (initM rs ms) (0, false, 0)) ∧ Fr (One q) X.drew w6) := ⟨h6, g6⟩; clear h6 g6 HFi))
  all_goals
    clear s0 s1
    go_wp2_with fail
    go_ret2
    have hq := HX.out.2.2
    have hb : Below w.heap.size w w6 := HXd.out.1.trans (H6.out.2.below HXd.out.1.size fun k hk e => by have e : k = q := e; omega)
    refine ⟨q, rfl, hq, ⟨⟨⟨ao, cap, none, 0, H6.out.1, (pin_of (HPA.out w (Below.refl _ _)) (T := fun k => One q k ∨ q ≤ k) (fun k hk e => e.elim (fun e => by have e : k = q := e; omega) fun e => by omega)).fr ?_, World.ownsRow_nil _ _ _ _, fun a e => by cases e⟩, rfl, fun k e => by have e : k = q := e; rw [e]; exact H6.out.1.lt⟩, HPs.out.2, HPs.out.1, .inl rfl⟩, hb⟩
    exact Fr.of hb
theorem rnew_bad (ao : Option Addr) (cap : Nat) (ps : List Bk) (sv : Value) (ra ma : Option Addr) (rl rc ml mc : Nat) (hsv : sv = .agg #[.slice ra rl rc, .slice ma ml mc]) (w : World) (h : PAt w ao ps) (hc : ¬ ckP ps = 0) :
    Calls Tryd.prog 9 #[.agg #[.slice ao ps.length cap], sv] w fun e w' => e = .returned (.tuple #[.pointer none, .int .i64 (ckP ps)]) ∧ Below w.heap.size w w' := by
  subst hsv
  have HCk : Hid (∀ W, Below w.heap.size w W → Calls Tryd.prog 24 #[.agg #[.slice ao ps.length cap]] W fun e w' => e = .returned (.int .i64 (ckP ps)) ∧ Below W.heap.size W w') := fun W hb => refCheckP_any ao cap ps W (h.below hb)
  have HB0 : Hid (Bx w ((w.alloc (.cells #[.slice ao ps.length cap] 24)).alloc (.cells #[.slice ra rl rc, .slice ma ml mc] 27)) ao ps.length cap ra ma rl rc ml mc) := by
    obtain ⟨a1, a2, hb, -, -⟩ := two_new w #[.slice ao ps.length cap] #[.slice ra rl rc, .slice ma ml mc] 24 27 (Below.refl _ _)
    exact ⟨a1, a2, hb⟩
  have hcb : (ckP ps == 0) = false := by simpa using hc
  clear h hc
  generalize ckP ps = ce at *
  have hc : ¬ ce = 0 := by simpa using hcb
  go_enter Tryd.func9, Tryd.ntmps9
  go_wp2_with (first | (go_at_call 24; refine Calls.mono (HCk.out _ (by go_grown)) ?_; rintro e w1 ⟨rfl, hb⟩; have HB1 : Hid (Bx w w1 ao ps.length cap ra ma rl rc ml mc) := (HB0.out.up hb); clear hb HB0 HCk))
  go_ret2
  exact ⟨rfl, HB1.out.b⟩
set_option maxHeartbeats 4000000 in
theorem rnew_great (ao : Option Addr) (cap : Nat) (ps : List Bk) (ra ma : Option Addr) (rc mc : Nat) (rs ms : List Int) (w : World) (h : PAt w ao ps) (hc : ckP ps = 0) (hg : 32 < rs.length ∨ 256 < ms.length) :
    Calls Tryd.prog 9 #[.agg #[.slice ao ps.length cap], .agg #[.slice ra rs.length rc, .slice ma ms.length mc]] w fun e w' => e = .returned (.tuple #[.pointer none, .int .i64 2]) ∧ Below w.heap.size w w' := by
  have HCk : Hid (∀ W, Below w.heap.size w W → Calls Tryd.prog 24 #[.agg #[.slice ao ps.length cap]] W fun e w' => e = .returned (.int .i64 0) ∧ Below W.heap.size W w') := fun W hb => by
    have := refCheckP_any ao cap ps W (h.below hb)
    rw [hc] at this; exact this
  have HFi : Hid (∀ (W : World) (q : Nat), Calls Tryd.prog 25 #[.agg #[.slice ra rs.length rc, .slice ma ms.length mc], .pointer (some ⟨q, 1, none⟩), .pointer (some ⟨q, 33, none⟩)] W fun e w' => e = .returned (.bool false) ∧ Below W.heap.size W w') := fun W q => rfill_no ra ma rc mc rs ms W q hg
  have HB0 : Hid (Bx w ((w.alloc (.cells #[.slice ao ps.length cap] 24)).alloc (.cells #[.slice ra rs.length rc, .slice ma ms.length mc] 27)) ao ps.length cap ra ma rs.length rc ms.length mc) := by
    obtain ⟨a1, a2, hb, -, -⟩ := two_new w #[.slice ao ps.length cap] #[.slice ra rs.length rc, .slice ma ms.length mc] 24 27 (Below.refl _ _)
    exact ⟨a1, a2, hb⟩
  clear h hc hg
  generalize rs.length = rl at *
  generalize ms.length = ml at *
  go_enter Tryd.func9, Tryd.ntmps9
  go_upto_region 4 with (first | (go_at_call 24; refine Calls.mono (HCk.out _ (by go_grown)) ?_; rintro e w1 ⟨rfl, hb⟩; have HB1 : Hid (Bx w w1 ao ps.length cap ra ma rl rc ml mc) := (HB0.out.up hb); have p0 := HB1.out.p.c 0 _ rfl; have s0 := HB1.out.s.c 0 _ rfl; have s1 := HB1.out.s.c 1 _ rfl; have pl := HB1.out.p.lt; have sl := HB1.out.s.lt; clear hb HB0 HCk))
  rename_i K6 hK6
  apply wp_region_lit
  refine wpList_plain rfl (fun K hK => ?_)
  go_simp
  refine hK _ _ ?_
  clear hK K
  refine wpList_buildTo rfl 84 _ rfl (some 14) rfl (dzA ao ps.length cap) (by kernel_rfl) ?_
  refine wpList_boxTo rfl 84 (.tmp 14) rfl (some 15) rfl w1.heap.size rfl (dzA ao ps.length cap) (by kernel_rfl) ?_
  refine wpList_readTo rfl (some 7) rfl (ptr w1.heap.size) (by kernel_rfl) ?_
  refine wpList_nil ?_
  refine hK6 _ _ ?_
  clear hK6 K6
  have HX : Hid (Bx w (w1.alloc (.cells (dzA ao ps.length cap) 84)) ao ps.length cap ra ma rl rc ml mc ∧ DAt (w1.alloc (.cells (dzA ao ps.length cap) 84)) w1.heap.size (dG ao ps.length cap none 0 (initM [] []) (0, false, 0)) ∧ w.heap.size ≤ w1.heap.size) := ⟨HB1.out.up ((Below.refl _ _).alloc (Nat.le_refl _) _), dzA_at _ _ _ _, HB1.out.b.size⟩
  clear HB1 p0 s0 s1 pl sl
  generalize dzA ao ps.length cap = mzz at *
  generalize w1.alloc (.cells mzz 84) = X at *
  generalize w1.heap.size = q at *
  simp only [Act.put, List.setIfInBounds_toArray, List.set_cons_zero, List.set_cons_succ]
  have s0 := HX.out.1.s.c 0 _ rfl
  have s1 := HX.out.1.s.c 1 _ rfl
  have sl := HX.out.1.s.lt
  have ql := HX.out.2.1.lt
  have HXd : Hid (Below w.heap.size w X.drew ∧ DAt X.drew q (dG ao ps.length cap none 0 (initM [] []) (0, false, 0))) := ⟨(HX.out.1.up (drew_up X)).b, HX.out.2.1.up (drew_up X)⟩
  go_wp2_with fail
  go_region_with (first | (go_at_call 25; refine Calls.mono (HFi.out _ q) ?_; rintro e w6 ⟨rfl, h6⟩; have H6 : Hid (Below X.drew.heap.size X.drew w6) := h6; clear h6 HFi))
  all_goals
    clear s0 s1
    go_wp2_with fail
    go_ret2
    exact ⟨rfl, HXd.out.1.trans (H6.out.mono HXd.out.1.size)⟩
end Go.Proofs.YtlnfhbkkodhmaaaDoor.Sm
