/- An operation is taken of the document's table of reservations (Take), and one is made (New, Ring), read off the program by the walk. Conditions: it lies in memory; cycles are below 2^41. -/
import Derived.Test.YthjnegdgpnbkkaaDoorRn
namespace Go.Proofs.YthjnegdgpnbkkaaDoor.Rv
open Go.ChangeShapes Go.WideShapes Go.ChangeAt Go.RowKit Go.Maps
open _root_.Go.Proofs.YthjnegdgpnbkkaaDoor.Op _root_.Go.Proofs.YthjnegdgpnbkkaaDoor.So
open _root_.Go.Proofs.YthjnegdgpnbkkaaDoor.Tb (Tab TabAt Bnds)
set_option maxRecDepth 20000

theorem dcl_set14 {w : World} {rb n c n' c' : Nat} {t : Tab} {ev : Option Int} {a a' : Option Addr} (h : At w rb (dcl t ev a n c)) : ∀ (j : Nat) (v : Value), (dcl t ev a' n' c')[j]? = some v → (w.setCell ⟨rb, 14, none⟩ (.slice a' n' c')).cell? ⟨rb, j, none⟩ = some v := fun j v e => match j, e with
  | 0, e => by rw [World.cell?_setCell_other _ _ _ _ (by intro h'; injection h' with _ h2; omega)]; exact h.c 0 v e
  | 1, e => by rw [World.cell?_setCell_other _ _ _ _ (by intro h'; injection h' with _ h2; omega)]; exact h.c 1 v e
  | 2, e => by rw [World.cell?_setCell_other _ _ _ _ (by intro h'; injection h' with _ h2; omega)]; exact h.c 2 v e
  | 3, e => by rw [World.cell?_setCell_other _ _ _ _ (by intro h'; injection h' with _ h2; omega)]; exact h.c 3 v e
  | 4, e => by rw [World.cell?_setCell_other _ _ _ _ (by intro h'; injection h' with _ h2; omega)]; exact h.c 4 v e
  | 5, e => by rw [World.cell?_setCell_other _ _ _ _ (by intro h'; injection h' with _ h2; omega)]; exact h.c 5 v e
  | 6, e => by rw [World.cell?_setCell_other _ _ _ _ (by intro h'; injection h' with _ h2; omega)]; exact h.c 6 v e
  | 7, e => by rw [World.cell?_setCell_other _ _ _ _ (by intro h'; injection h' with _ h2; omega)]; exact h.c 7 v e
  | 8, e => by rw [World.cell?_setCell_other _ _ _ _ (by intro h'; injection h' with _ h2; omega)]; exact h.c 8 v e
  | 9, e => by rw [World.cell?_setCell_other _ _ _ _ (by intro h'; injection h' with _ h2; omega)]; exact h.c 9 v e
  | 10, e => by rw [World.cell?_setCell_other _ _ _ _ (by intro h'; injection h' with _ h2; omega)]; exact h.c 10 v e
  | 11, e => by rw [World.cell?_setCell_other _ _ _ _ (by intro h'; injection h' with _ h2; omega)]; exact h.c 11 v e
  | 12, e => by rw [World.cell?_setCell_other _ _ _ _ (by intro h'; injection h' with _ h2; omega)]; exact h.c 12 v e
  | 13, e => by rw [World.cell?_setCell_other _ _ _ _ (by intro h'; injection h' with _ h2; omega)]; exact h.c 13 v e
  | 14, e => by
    have e : Value.slice a' n' c' = v := by simpa [dcl] using e
    subst e; exact World.cell?_setCell_same _ _ _ (h.c 14 _ rfl)
  | j + 15, e => by simp [dcl] at e
theorem dcl_at14 {w : World} {rb n c n' c' : Nat} {t : Tab} {ev : Option Int} {a a' : Option Addr} (h : At w rb (dcl t ev a n c)) : At (w.setCell ⟨rb, 14, none⟩ (.slice a' n' c')) rb (dcl t ev a' n' c') :=
  ⟨dcl_set14 h, fun j => by rw [World.frozen?_setCell]; exact h.f j, by simpa using h.lt⟩
theorem dcl_set13 {w : World} {rb n c : Nat} {t : Tab} {ev ev' : Option Int} {a : Option Addr} (h : At w rb (dcl t ev a n c)) : ∀ (j : Nat) (v : Value), (dcl t ev' a n c)[j]? = some v → (w.setCell ⟨rb, 13, none⟩ (.int .i64 (Ee ev'))).cell? ⟨rb, j, none⟩ = some v := fun j v e => match j, e with
  | 0, e => by rw [World.cell?_setCell_other _ _ _ _ (by intro h'; injection h' with _ h2; omega)]; exact h.c 0 v e
  | 1, e => by rw [World.cell?_setCell_other _ _ _ _ (by intro h'; injection h' with _ h2; omega)]; exact h.c 1 v e
  | 2, e => by rw [World.cell?_setCell_other _ _ _ _ (by intro h'; injection h' with _ h2; omega)]; exact h.c 2 v e
  | 3, e => by rw [World.cell?_setCell_other _ _ _ _ (by intro h'; injection h' with _ h2; omega)]; exact h.c 3 v e
  | 4, e => by rw [World.cell?_setCell_other _ _ _ _ (by intro h'; injection h' with _ h2; omega)]; exact h.c 4 v e
  | 5, e => by rw [World.cell?_setCell_other _ _ _ _ (by intro h'; injection h' with _ h2; omega)]; exact h.c 5 v e
  | 6, e => by rw [World.cell?_setCell_other _ _ _ _ (by intro h'; injection h' with _ h2; omega)]; exact h.c 6 v e
  | 7, e => by rw [World.cell?_setCell_other _ _ _ _ (by intro h'; injection h' with _ h2; omega)]; exact h.c 7 v e
  | 8, e => by rw [World.cell?_setCell_other _ _ _ _ (by intro h'; injection h' with _ h2; omega)]; exact h.c 8 v e
  | 9, e => by rw [World.cell?_setCell_other _ _ _ _ (by intro h'; injection h' with _ h2; omega)]; exact h.c 9 v e
  | 10, e => by rw [World.cell?_setCell_other _ _ _ _ (by intro h'; injection h' with _ h2; omega)]; exact h.c 10 v e
  | 11, e => by rw [World.cell?_setCell_other _ _ _ _ (by intro h'; injection h' with _ h2; omega)]; exact h.c 11 v e
  | 12, e => by rw [World.cell?_setCell_other _ _ _ _ (by intro h'; injection h' with _ h2; omega)]; exact h.c 12 v e
  | 13, e => by
    have e : Value.int .i64 (Ee ev') = v := by simpa [dcl] using e
    subst e; exact World.cell?_setCell_same _ _ _ (h.c 13 _ rfl)
  | 14, e => by rw [World.cell?_setCell_other _ _ _ _ (by intro h'; injection h' with _ h2; omega)]; exact h.c 14 v e
  | j + 15, e => by simp [dcl] at e
theorem dcl_at13 {w : World} {rb n c : Nat} {t : Tab} {ev ev' : Option Int} {a : Option Addr} (h : At w rb (dcl t ev a n c)) : At (w.setCell ⟨rb, 13, none⟩ (.int .i64 (Ee ev'))) rb (dcl t ev' a n c) :=
  ⟨dcl_set13 h, fun j => by rw [World.frozen?_setCell]; exact h.f j, by simpa using h.lt⟩
theorem info60 : (Tryd.prog.info? 60).map (fun i => (i.zero, i.size, i.bytes)) = some (some (.agg #[.int .i64 0, .int .i64 0]), 2, 16) := by kernel_rfl
/-- What was taken, behind a Take. -/
def tkL (t : Tab) (ev : Option Int) (L : List Ak) (cl cyc : Int) : List Ak := if frB t ev (Fl t ev L) cl cyc = true then L ++ [⟨cl, cyc, false⟩] else L
theorem tkL_Fl (t : Tab) (ev : Option Int) (L : List Ak) (cl cyc : Int) : Fl t ev (tkL t ev L cl cyc) = tkF t ev (Fl t ev L) cl cyc := by
  unfold tkL
  cases h : frB t ev (Fl t ev L) cl cyc
  · rw [if_neg (by decide), tk_no h]
  · rw [if_pos rfl, ← tk_snoc (x := ⟨cl, cyc, false⟩) h]
/-- The blocks that a Take of the document's turns. -/
def Dx (rb : Nat) (v : Value) : Nat → Prop := fun k => k = rb ∨ v.ownBlock = some k
/-- Behind the append. -/
structure DAt4 (B : Nat) (w w1 w4 : World) (rb : Nat) (t : Tab) (ev : Option Int) (a : Option Addr) (c gg cp : Nat) (L : List Ak) (cl cyc : Int) : Prop where
  at' : At w4 rb (dcl t ev a L.length c)
  row : w4.ownsRow B 60 2 (.slice (some ⟨gg, 0, none⟩) (L.length + 1) cp) (L.length + 1) (tkc L ++ [.int .i64 cl, .int .i64 cyc])
  ok : ∀ x ∈ L, (0 ≤ x.c ∧ x.c ≤ 3) ∧ I41 x.y
  k1 : rb < B
  k6 : B ≤ w4.heap.size
  fr : Fr (Dx rb (.slice a L.length c)) w w4
theorem dat4 {B : Nat} {w w1 w4 : World} {rb : Nat} {t : Tab} {ev : Option Int} {a : Option Addr} {c gg cp : Nat} {L : List Ak} {cl cyc : Int} {o : Obj} (h : DAt B w1 rb t ev a c L) (hb : Below w.heap.size w w1) (hgrow : (w1.alloc o).grownBy w4 (Value.slice a L.length c).ownBlock) (hown : w4.ownsRow B 60 2 (.slice (some ⟨gg, 0, none⟩) (L.length + 1) cp) (L.length + 1) (tkc L ++ [.int .i64 cl, .int .i64 cyc])) : DAt4 B w w1 w4 rb t ev a c gg cp L cl cyc := by
  have h2 := h.up ((Below.refl _ _).alloc (Nat.le_refl _) o)
  have Bl : Below B (w1.alloc o) w4 := (grown_fr hgrow).below h2.k6 fun k hk e => by
    have := (h2.row.lt k e).1
    omega
  refine ⟨h2.da.below Bl h.k1, hown, h.ok, h.k1, Nat.le_trans h2.k6 Bl.size, ?_⟩
  have f1 : Fr (Dx rb (.slice a L.length c)) w (w1.alloc o) := (Fr.of hb).alloc o
  exact f1.trans (grown_fr hgrow) fun k _ e => .inr e
set_option maxHeartbeats 4000000 in
theorem dtake_any {B c rb : Nat} {t : Tab} {ev : Option Int} {a : Option Addr} {L : List Ak} (cl cyc : Int) (w : World) (h : DAt B w rb t ev a c L) (hv : evOk ev) (ht : t.ok = true) (hL : L.length ≤ 99) (hcy : I41 cyc) :
    Calls Tryd.prog 13 #[.pointer (some ⟨rb, 0, none⟩), .int .i64 cl, .int .i64 cyc] w fun e w' => e = .returned (.bool (frB t ev (Fl t ev L) cl cyc)) ∧ ∃ a' c', DAt B w' rb t ev a' c' (tkL t ev L cl cyc) ∧ Fr (Dx rb (.slice a L.length c)) w w' := by
  have HF : Hid (∀ W, Below w.heap.size w W → Calls Tryd.prog 15 #[.pointer (some ⟨rb, 0, none⟩), .int .i64 cl, .int .i64 cyc] W fun e w' => e = .returned (.bool (frB t ev (Fl t ev L) cl cyc)) ∧ Below W.heap.size W w') := fun W g => dfree_any cl cyc W (h.up g) hv ht (by omega) hcy
  have HD : Hid (∀ W, Below w.heap.size w W → DAt B W rb t ev a c L) := fun W g => h.up g
  unfold tkL
  cases hfb : frB t ev (Fl t ev L) cl cyc
  · rw [hfb] at HF
    rw [if_neg (by decide)]
    clear h hv ht hfb
    go_enter Tryd.func13, Tryd.ntmps13
    go_wp2_with (first | (go_at_call 15; refine Calls.mono (HF.out _ (Below.refl _ _)) ?_; rintro e w1 ⟨rfl, b1⟩; have HB : Hid (Below w.heap.size w w1) := b1; clear b1 HF))
    go_ret
    exact ⟨rfl, a, c, HD.out _ HB.out, Fr.of HB.out⟩
  · have hcl := (fr_parts hfb).1
    rw [hfb] at HF
    rw [if_pos rfl]
    clear h hv ht hfb
    obtain ⟨i0, hi, hi2⟩ := Option.map_eq_some_iff.1 info60
    simp only [Prod.mk.injEq] at hi2
    obtain ⟨hz0, hz1, hz2⟩ := hi2
    have HI : Hid (Tryd.prog.info? 60 = some i0 ∧ i0.zero = some (.agg #[.int .i64 0, .int .i64 0]) ∧ i0.size = 2 ∧ i0.bytes = 16) := ⟨hi, hz0, hz1, hz2⟩
    clear hi hz0 hz1 hz2
    go_enter Tryd.func13, Tryd.ntmps13
    go_wp2_with (first
      | (go_at_call 15; refine Calls.mono (HF.out _ (Below.refl _ _)) ?_; rintro e w1 ⟨rfl, b1⟩; have HB : Hid (DAt B w1 rb t ev a c L ∧ Below w.heap.size w w1) := ⟨HD.out _ b1, b1⟩; have gl := HB.out.1.l; have g0 := HB.out.1.da.lt; clear b1 HF)
      | (at_builtin; refine wpList_append_lies _ rfl _ _ 48 rfl B 60 i0 (.agg #[.int .i64 0, .int .i64 0]) 2 16 Tryd.underlying48 HI.out.1 HI.out.2.1 HI.out.2.2.1 HI.out.2.2.2 rfl (by decide) (.slice a L.length c) L.length (tkc L) rfl (World.ownsRow.alloc HB.out.1.row _) ⟨w1.heap.size, 0, none⟩ 1 1 [.int .i64 cl, .int .i64 cyc] rfl rfl (World.news_of_block (heap_alloc_new w1 _)) (by simp [Value.oneCell']) (by decide) (by unfold maxLen; omega) (by omega) (by have h5 := HB.out.1.k6; simp; omega) (w1.heap.size + 1) (by simp) ?_; intro gg cp w4 hown hgrow hat hlt4; have HB4 : Hid (DAt4 B w w1 w4 rb t ev a c gg cp L cl cyc) := dat4 HB.out.1 HB.out.2 hgrow hown; clear hown hgrow hat hlt4 gl g0; have z0 := HB4.out.at'.c 14 _ rfl; have z1 := HB4.out.at'.f 14; have z2 := HB4.out.at'.lt))
    go_ret
    refine ⟨rfl, some ⟨gg, 0, none⟩, cp, ⟨?_, ?_, fun x hx => ?_, HB4.out.k1, ?_⟩, HB4.out.fr.setCell (.inr (.inl rfl)) _ _⟩
    · have := dcl_at14 (n' := L.length + 1) (c' := cp) (a' := some ⟨gg, 0, none⟩) HB4.out.at'
      rw [List.length_append]
      exact this
    · have := ownsRow_setCell_below HB4.out.row (a := ⟨rb, 14, none⟩) HB4.out.k1 (.slice (some ⟨gg, 0, none⟩) (L.length + 1) cp)
      rw [List.length_append, tkc_app]
      exact this
    · rcases List.mem_append.1 hx with h | h
      · exact HB4.out.ok x h
      · have h : x = ⟨cl, cyc, false⟩ := by simpa using h
        subst h
        exact ⟨hcl, hcy⟩
    · have := HB4.out.k6
      simpa using this
/-- What the document's New and Ring hand back. -/
def DnOut (w : World) (t : Tab) (ev : Option Int) (e : Ending) (w' : World) : Prop := ∃ rb, e = .returned (.tuple #[.pointer (some ⟨rb, 0, none⟩), .int .i64 0]) ∧ At w' rb (dcl t ev none 0 0) ∧ w.heap.size ≤ rb ∧ Below w.heap.size w w'
theorem dnew_ok (t : Tab) (w : World) (hk : Tb.ckR t = 0) : Calls Tryd.prog 8 #[t.val] w (DnOut w t none) := by
  have HC : Hid (∀ W, Calls Tryd.prog 21 #[t.val] W fun e w' => e = .returned (.int .i64 0) ∧ Below W.heap.size W w') := fun W => by rw [← hk]; exact Tb.refCheck_any t W
  clear hk
  unfold Tab.val at *
  go_enter Tryd.func8, Tryd.ntmps8
  go_wp2_with (first
    | (go_at_call 21; refine Calls.mono (HC.out _) ?_; rintro e w1 ⟨rfl, b1⟩; have HT : Hid (TabAt w1 w.heap.size t ∧ Below w.heap.size w w1) := ⟨(Tb.tabAt_new w t 24).below b1 (by simp), Below.trans (by go_grown) (b1.mono (by simp))⟩; clear b1 HC; have k2 := HT.out.1; have qu0 := k2.cu 0 (by decide); have qu1 := k2.cu 1 (by decide); have qu2 := k2.cu 2 (by decide); have qu3 := k2.cu 3 (by decide); have ql0 := k2.cl 0 (by decide); have ql1 := k2.cl 1 (by decide); have ql2 := k2.cl 2 (by decide); have ql3 := k2.cl 3 (by decide); have qb0 := k2.cb 0 (by decide); have qb1 := k2.cb 1 (by decide); have qb2 := k2.cb 2 (by decide); have qb3 := k2.cb 3 (by decide); have qd := k2.cd; have qz := k2.lt; clear k2))
  go_ret2
  have HN : At (w1.alloc (.cells (dcl t none none 0 0) 50)) w1.heap.size (dcl t none none 0 0) := At.new _ _ _
  exact ⟨w1.heap.size, rfl, HN, HT.out.2.size, HT.out.2.trans ((Below.refl _ _).alloc HT.out.2.size _)⟩
theorem dnew_no (t : Tab) (w : World) (hk : ¬ Tb.ckR t = 0) : Calls Tryd.prog 8 #[t.val] w fun e w' => e = .returned (.tuple #[.pointer none, .int .i64 (Tb.ckR t)]) ∧ Below w.heap.size w w' := by
  have HC : Hid (∀ W, Calls Tryd.prog 21 #[t.val] W fun e w' => e = .returned (.int .i64 (Tb.ckR t)) ∧ Below W.heap.size W w') := fun W => Tb.refCheck_any t W
  have hkb : (Tb.ckR t != 0) = true := by simpa using hk
  generalize Tb.ckR t = er at *
  unfold Tab.val at *
  go_enter Tryd.func8, Tryd.ntmps8
  go_wp2_with (first
    | (go_at_call 21; refine Calls.mono (HC.out _) ?_; rintro e w1 ⟨rfl, b1⟩; have HT : Hid (TabAt w1 w.heap.size t ∧ Below w.heap.size w w1) := ⟨(Tb.tabAt_new w t 24).below b1 (by simp), Below.trans (by go_grown) (b1.mono (by simp))⟩; clear b1 HC; have k2 := HT.out.1; have qu0 := k2.cu 0 (by decide); have qu1 := k2.cu 1 (by decide); have qu2 := k2.cu 2 (by decide); have qu3 := k2.cu 3 (by decide); have ql0 := k2.cl 0 (by decide); have ql1 := k2.cl 1 (by decide); have ql2 := k2.cl 2 (by decide); have ql3 := k2.cl 3 (by decide); have qb0 := k2.cb 0 (by decide); have qb1 := k2.cb 1 (by decide); have qb2 := k2.cb 2 (by decide); have qb3 := k2.cb 3 (by decide); have qd := k2.cd; have qz := k2.lt; clear k2))
  go_ret2
  exact ⟨rfl, HT.out.2⟩
theorem dring_ok (t : Tab) (ev : Int) (w : World) (hk : Tb.ckR t = 0) (h1 : 1 ≤ ev) (h2 : ev ≤ 65536) : Calls Tryd.prog 10 #[t.val, .int .i64 ev] w (DnOut w t (some ev)) := by
  have HN : Hid (∀ W, Calls Tryd.prog 8 #[t.val] W fun e w' => ∃ rb, e = .returned (.tuple #[.pointer (some ⟨rb, 0, none⟩), .int .i64 0]) ∧ At w' rb (dcl t none none 0 0) ∧ W.heap.size ≤ rb ∧ Below W.heap.size W w') := fun W => dnew_ok t W hk
  clear hk
  have h1' : ¬ ev < 1 := by omega
  have h2' : ¬ 65536 < ev := by omega
  unfold Tab.val at *
  go_enter Tryd.func10, Tryd.ntmps10
  go_wp2_with (first
    | (go_at_call 8; refine Calls.mono (HN.out _) ?_; rintro e w1 ⟨rb, rfl, r1, p1, b1⟩; have HB : Hid (At w1 rb (dcl t none none 0 0) ∧ w.heap.size ≤ rb ∧ Below w.heap.size w w1) := ⟨r1, by simp at p1; omega, Below.trans (by go_grown) (b1.mono (by simp))⟩; have z0 := HB.out.1.c 13 _ rfl; have z1 := HB.out.1.f 13; have z2 := HB.out.1.lt; clear r1 p1 b1 HN))
  go_ret2
  exact ⟨rb, rfl, dcl_at13 (ev' := some ev) HB.out.1, HB.out.2.1, HB.out.2.2.setCell (by show w.heap.size ≤ rb; exact HB.out.2.1) _⟩
theorem dring_no (t : Tab) (ev : Int) (w : World) (hk : ¬ rgE t ev = 0) : Calls Tryd.prog 10 #[t.val, .int .i64 ev] w fun e w' => e = .returned (.tuple #[.pointer none, .int .i64 (rgE t ev)]) ∧ Below w.heap.size w w' := by
  unfold rgE at *
  by_cases he : Tb.ckR t = 0
  · have HN : Hid (∀ W, Calls Tryd.prog 8 #[t.val] W fun e w' => ∃ rb, e = .returned (.tuple #[.pointer (some ⟨rb, 0, none⟩), .int .i64 0]) ∧ At w' rb (dcl t none none 0 0) ∧ W.heap.size ≤ rb ∧ Below W.heap.size W w') := fun W => dnew_ok t W he
    rw [if_pos he] at hk ⊢
    have hn : ¬ (1 ≤ ev ∧ ev ≤ 65536) := fun h => hk (if_pos h)
    rw [if_neg hn]
    clear hk he
    by_cases h1 : ev < 1
    · clear hn
      unfold Tab.val at *
      go_enter Tryd.func10, Tryd.ntmps10
      go_wp2_with (first
        | (go_at_call 8; refine Calls.mono (HN.out _) ?_; rintro e w1 ⟨rb, rfl, -, -, b1⟩; have HB : Hid (Below w.heap.size w w1) := Below.trans (by go_grown) (b1.mono (by simp)); clear b1 HN))
      go_ret2
      exact ⟨rfl, HB.out⟩
    · have h2 : 65536 < ev := by omega
      clear hn
      unfold Tab.val at *
      go_enter Tryd.func10, Tryd.ntmps10
      go_wp2_with (first
        | (go_at_call 8; refine Calls.mono (HN.out _) ?_; rintro e w1 ⟨rb, rfl, -, -, b1⟩; have HB : Hid (Below w.heap.size w w1) := Below.trans (by go_grown) (b1.mono (by simp)); clear b1 HN))
      go_ret2
      exact ⟨rfl, HB.out⟩
  · have HN : Hid (∀ W, Calls Tryd.prog 8 #[t.val] W fun e w' => e = .returned (.tuple #[.pointer none, .int .i64 (Tb.ckR t)]) ∧ Below W.heap.size W w') := fun W => dnew_no t W he
    rw [if_neg he]
    have hkb : (Tb.ckR t != 0) = true := by simpa using he
    clear hk
    generalize Tb.ckR t = er at *
    unfold Tab.val at *
    go_enter Tryd.func10, Tryd.ntmps10
    go_wp2_with (first
      | (go_at_call 8; refine Calls.mono (HN.out _) ?_; rintro e w1 ⟨rfl, b1⟩; have HB : Hid (Below w.heap.size w w1) := Below.trans (by go_grown) (b1.mono (by simp)); clear b1 HN))
    go_ret2
    exact ⟨rfl, HB.out⟩
end Go.Proofs.YthjnegdgpnbkkaaDoor.Rv
