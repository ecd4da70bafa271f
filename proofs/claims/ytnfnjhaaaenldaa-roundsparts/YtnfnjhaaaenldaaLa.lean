/- Rows with rounds counted on (the statement's later), read off by the walk; a list of rows that grows. Conditions: the rows lie in memory. -/
import Derived.Test.YtnfnjhaaaenldaaLt
import Derived.Maps.AppendAt
namespace Go.Proofs.Ytnfnjhaaaenldaa.Ro
open Go.ChangeShapes Go.WideShapes Go.ChangeAt Go.RowKit
open _root_.Go.Proofs.Ytnfnjhaaaenldaa.Op _root_.Go.Proofs.Ytnfnjhaaaenldaa.So
open _root_.Go.Proofs.Ytnfnjhaaaenldaa.Sp (Pr)
set_option maxRecDepth 20000

/-- Rounds counted on. -/
def shf (k : Int) (l : List Pr) : List Pr := l.map fun x => (x.1, x.2 + k)
theorem shf_len (k : Int) (l : List Pr) : (shf k l).length = l.length := List.length_map _
/-- A list of rows that the call owns. -/
structure Ol (W : World) (B : Nat) (v : Value) (us : List Value) (row : Nat → List Pr) : Prop where
  own : W.ownsRow B 35 1 v us.length us
  s : ∀ c u, us[c]? = some u → Sl W u (row c)
  b : ∀ (c : Nat) (u : Value) (q : Nat), us[c]? = some u → 0 < (row c).length → u.ownBlock = some q → v.ownBlock ≠ some q
  sz : B ≤ W.heap.size
theorem Ol.up {W W' : World} {B : Nat} {v : Value} {us : List Value} {row : Nat → List Pr} (h : Ol W B v us row) (g : Below W.heap.size W W') : Ol W' B v us row := by
  refine ⟨?_, fun c u e => (h.s c u e).up g, h.b, Nat.le_trans h.sz g.size⟩
  have hlt := h.own.lt
  obtain ⟨h1, ⟨h2, h3⟩ | ⟨q, cap, cur, h2, h3, h4, h5⟩⟩ := h.own
  · exact ⟨h1, .inl ⟨h2, h3⟩⟩
  · exact ⟨h1, .inr ⟨q, cap, cur, h2, h3, (g.block q (hlt q (by rw [h2]; rfl)).2).trans h4, h5⟩⟩
theorem Sl.fr {X : Nat → Prop} {W W' : World} {u : Value} {l : List Pr} (h : Sl W u l) (g : Fr X W W') (hX : 0 < l.length → ∀ q, u.ownBlock = some q → ¬ X q) : Sl W' u l := by
  obtain ⟨a, cap, e, h⟩ := h.is
  refine ⟨a, cap, e, fun h0 => ?_⟩
  obtain ⟨b, eb, hb, hc⟩ := h h0
  have hx := hX h0 b (by rw [e, eb]; rfl)
  exact ⟨b, eb, Nat.lt_of_lt_of_le hb g.size, fun k x hx2 => by rw [g.cell hb hx, g.cell hb hx]; exact hc k x hx2⟩
theorem Sl.lt {W : World} {u : Value} {l : List Pr} (h : Sl W u l) (h0 : 0 < l.length) {q : Nat} (e : u.ownBlock = some q) : q < W.heap.size := by
  obtain ⟨a, cap, e1, h⟩ := h.is
  obtain ⟨b, eb, hb, -⟩ := h h0
  rw [e1, eb] at e
  have e : some b = some q := e
  injection e with e
  omega
/-- More rows behind. -/
theorem Ol.next {W W' w4 : World} {B : Nat} {v v' : Value} {us vs : List Value} {row row2 : Nat → List Pr} (h : Ol W B v us row) (hW : Below W.heap.size W W') (hgrow : W'.grownBy w4 v.ownBlock) (hown : w4.ownsRow B 35 1 v' (us.length + vs.length) (us ++ vs)) (hat : v'.ownBlock = v.ownBlock ∨ v'.ownBlock = some W'.heap.size)
    (hs : ∀ c u, vs[c]? = some u → Sl W' u (row2 c)) (hb : ∀ (c : Nat) (u : Value) (q : Nat), vs[c]? = some u → 0 < (row2 c).length → u.ownBlock = some q → v.ownBlock ≠ some q) :
    Ol w4 B v' (us ++ vs) (fun c => if c < us.length then row c else row2 (c - us.length)) ∧ Fr (fun k => B ≤ k) W w4 := by
  have fr : Fr (fun k => v.ownBlock = some k) W' w4 := ⟨hgrow.os, hgrow.tape, hgrow.output, hgrow.size, fun k hk hx => hgrow.block k hk fun e => hx e.symm⟩
  have get : ∀ c u, (us ++ vs)[c]? = some u → (c < us.length ∧ us[c]? = some u) ∨ (us.length ≤ c ∧ vs[c - us.length]? = some u) := fun c u e => by
    rcases Nat.lt_or_ge c us.length with h | h
    · rw [List.getElem?_append_left h] at e; exact .inl ⟨h, e⟩
    · rw [List.getElem?_append_right h] at e; exact .inr ⟨h, e⟩
  have h' := h.up hW
  refine ⟨⟨by rw [List.length_append]; exact hown, fun c u e => ?_, fun c u q e e0 e2 => ?_, Nat.le_trans h'.sz fr.size⟩, ?_⟩
  · rcases get c u e with ⟨h1, h2⟩ | ⟨h1, h2⟩
    · rw [if_pos h1]
      exact (h'.s c u h2).fr fr fun h0 q hq => h'.b c u q h2 h0 hq
    · rw [if_neg (by omega)]
      exact (hs _ u h2).fr fr fun h0 q hq => hb _ u q h2 h0 hq
  · have h3 : q < W'.heap.size ∧ v.ownBlock ≠ some q := by
      rcases get c u e with ⟨h1, h2⟩ | ⟨h1, h2⟩
      · rw [if_pos h1] at e0
        exact ⟨(h'.s c u h2).lt e0 e2, h'.b c u q h2 e0 e2⟩
      · rw [if_neg (by omega)] at e0
        exact ⟨(hs _ u h2).lt e0 e2, hb _ u q h2 e0 e2⟩
    rcases hat with hat | hat
    · rw [hat]; exact h3.2
    · rw [hat]
      intro e3
      injection e3 with e3
      omega
  · exact (Fr.of (X := fun k => B ≤ k) hW).trans fr fun k _ e => (h.own.lt k e).1
theorem Ol.rd {W : World} {B : Nat} {v : Value} {us : List Value} {row : Nat → List Pr} (h : Ol W B v us row) : Rd W v us.length row := by
  have hlt := h.own.lt
  obtain ⟨h1, ⟨h2, h3⟩ | ⟨q, cap, cur, h2, h3, h4, h5, h6, h7, h8⟩⟩ := h.own
  · rw [h3, h2]
    exact Rd.nil W row
  · refine ⟨_, cap, h2, h5, fun h0 => ⟨q, 0, rfl, (hlt q (by rw [h2]; rfl)).2, fun c hc => ?_⟩⟩
    obtain ⟨u, hu⟩ : ∃ u, us[c]? = some u := ⟨us[c], List.getElem?_eq_getElem hc⟩
    refine ⟨u, ?_, h.s c u hu⟩
    rw [Nat.zero_add, cell_of_row W q c cur 35 (0, 0) h4]
    rw [← h8, List.getElem?_take, if_pos (by omega)] at hu
    simpa using hu
theorem oneR (u : Value) (h : ∃ a n c, u = .slice a n c) : u.oneCell' = true := by
  obtain ⟨a, n, c, rfl⟩ := h
  rfl
theorem run_append_none {P : Program} (w : World) (t ty e : TypeId) (i : TypeInfo) (ht : P.underlying t = some (.slice e)) (hi : P.info? e = some i) (g n cap c : Nat) (h : n ≤ cap) :
    (Builtin.append_ #[t, t] ty #[.slice (some ⟨g, 0, none⟩) n cap, .slice none 0 c]).run P w = .ok (.slice (some ⟨g, 0, none⟩) n cap) w := by
  simp [Builtin.append_, run_underlying ht, sizeOf, typeInfo, hi, Builtin.lenOf, h, Builtin.firstCells, loadCells, storeCells]
theorem Ol.same {W : World} {B : Nat} {v : Value} {us : List Value} {row row2 : Nat → List Pr} (h : Ol W B v us row) (e : ∀ c, c < us.length → row c = row2 c) : Ol W B v us row2 := by
  have lt : ∀ (c : Nat) (u : Value), us[c]? = some u → c < us.length := fun c u e => by
    rcases Nat.lt_or_ge c us.length with h | h
    · exact h
    · rw [List.getElem?_eq_none h] at e; cases e
  exact ⟨h.own, fun c u hc => by rw [← e c (lt c u hc)]; exact h.s c u hc, fun c u q hc h0 hq => h.b c u q hc (by rw [e c (lt c u hc)]; exact h0) hq, h.sz⟩
theorem run_append_some {P : Program} (w : World) (base : Nat) (t ty e : TypeId) (i : TypeInfo) (z : Value) (size bytes : Nat) (ht : P.underlying t = some (.slice e)) (hi : P.info? e = some i) (hz : i.zero = some z)
    (hsize : i.size = size) (hby : i.bytes = bytes) (hzs : z.cells.size = size) (hsz : 0 < size)
    (v : Value) (n : Nat) (xs : List Value) (hown : w.ownsRow base e size v n xs) (hv : v ≠ .slice none 0 0)
    (ao : Option Addr) (m c : Nat) (news : List Value) (hl : news.length = m * size) (h0 : ao = none → m = 0) (hnews : ∀ a, ao = some a → ∀ j u, news[j]? = some u → w.cell? (a.add j) = some u) (h1 : ∀ u ∈ news, u.oneCell' = true)
    (h63 : n + m ≤ maxLen) (hbytes : (n + m) * bytes ≤ 140737488355328) (hbase : base ≤ w.heap.size) :
    ∃ v' w', (Builtin.append_ #[t, t] ty #[v, .slice ao m c]).run P w = .ok v' w' ∧ w'.ownsRow base e size v' (n + m) (xs ++ news) ∧ w.grownBy w' v.ownBlock ∧ v' ≠ .slice none 0 0 ∧ (v'.ownBlock = v.ownBlock ∨ v'.ownBlock = some w.heap.size) := by
  cases ao with
  | some a =>
    obtain ⟨v', w', a1, a2, a3, a4, a5⟩ := run_append_own_at (P := P) w base t ty e i z size bytes ht hi hz hsize hby hzs hsz v n xs hown a m c news hl (hnews a rfl) h1 h63 hbytes hbase
    exact ⟨v', w', a1, a2, a3, fun h => hv (a4.1 h).1, a5⟩
  | none =>
    obtain rfl := h0 rfl
    obtain rfl : news = [] := List.eq_nil_of_length_eq_zero (by simpa using hl)
    have hown0 := hown
    obtain ⟨hx1, ⟨h2, h3⟩ | ⟨g, cap, cur, h2, h3, h4, h5, h6⟩⟩ := hown
    · exact absurd h2 hv
    · subst h2
      refine ⟨_, w, run_append_none w t ty e i ht hi g n cap c h5, by simpa using hown0, ⟨rfl, rfl, rfl, Nat.le_refl _, fun _ _ _ => rfl⟩, hv, .inl rfl⟩
theorem wpList_append_some {P : Program} (w : World) {ops : Array Oper} {rest : List Oper} {o : Oper} {a : Act} {Q : Exit → Act → World → Prop} (hgd : o.guard = none) (s x : Operand) (t : TypeId)
    (ho : o.op = .call { callee := .builtin .append, args := #[s, x], argTypes := #[t, t] })
    (base : Nat) (e : TypeId) (i : TypeInfo) (z : Value) (size bytes : Nat) (ht : P.underlying t = some (.slice e)) (hi : P.info? e = some i) (hz : i.zero = some z)
    (hsize : i.size = size) (hby : i.bytes = bytes) (hzs : z.cells.size = size) (hsz : 0 < size)
    (v : Value) (n : Nat) (xs : List Value) (hs : a.eval s = v) (hown : w.ownsRow base e size v n xs) (hv : v ≠ .slice none 0 0)
    (ao : Option Addr) (m c : Nat) (news : List Value) (hx : a.eval x = .slice ao m c) (hl : news.length = m * size) (h0 : ao = none → m = 0) (hnews : ∀ ad, ao = some ad → ∀ j u, news[j]? = some u → w.cell? (ad.add j) = some u) (h1 : ∀ u ∈ news, u.oneCell' = true)
    (h63 : n + m ≤ maxLen) (hbytes : (n + m) * bytes ≤ 140737488355328) (hbase : base ≤ w.heap.size)
    (h : ∀ v' w', w'.ownsRow base e size v' (n + m) (xs ++ news) → w.grownBy w' v.ownBlock → v' ≠ .slice none 0 0 → (v'.ownBlock = v.ownBlock ∨ v'.ownBlock = some w.heap.size) → wpList P ops Q rest (a.put o.dst v') w') :
    wpList P ops Q (o :: rest) a w := by
  refine wpList_plain hgd fun K hK => ?_
  obtain ⟨v', w', hr, h2, h3, h4, h5⟩ := run_append_some (P := P) w base t o.type e i z size bytes ht hi hz hsize hby hzs hsz v n xs hown hv ao m c news hl h0 hnews h1 h63 hbytes hbase
  unfold Oper.wp execOp
  simp only [ho, resolve, invoke, builtin, Sem.run_bind, Sem.run_pure, Result.andThen_ok, List.map_toArray, List.map_cons, List.map_nil, hs, hx, hr]
  exact hK _ _ (h v' w' h2 h3 h4 h5)
theorem shf_take {k : Int} {l : List Pr} {j : Nat} {x : Pr} (h : l[j]? = some x) : pcells (shf k (l.take j)) ++ [.int .i64 x.1, .int .i64 (x.2 + k)] = pcells (shf k (l.take (j + 1))) := by
  have hj : j < l.length := by
    rcases Nat.lt_or_ge j l.length with h' | h'
    · exact h'
    · rw [List.getElem?_eq_none h'] at h; cases h
  have e : l.take (j + 1) = l.take j ++ [x] := by
    rw [List.take_add_one, h]; rfl
  rw [e]
  unfold shf
  rw [List.map_append, pcells_app]
  rfl
theorem own_up {W W' : World} {B m : Nat} {v : Value} {xs : List Value} (h : W.ownsRow B 37 2 v m xs) (g : Below W.heap.size W W') : W'.ownsRow B 37 2 v m xs := row_fr h (Fr.of (X := Non) g) fun _ _ e => e
set_option maxHeartbeats 16000000 in
theorem later_any (v : Value) (N : Nat) (row : Nat → List Pr) (k : Int) (w : World) (h : Rd w v N row) (hN : N ≤ 1000000) (hl : ∀ c, c < N → (row c).length ≤ 1000000000 ∧ ∀ x ∈ row c, 0 ≤ x.2 ∧ x.2 ≤ 1000000000) (hk0 : 0 ≤ k) (hk1 : k ≤ 1000000) :
    Calls Try.prog 12 #[v, .int .i64 k] w fun e w' => ∃ v', e = .returned v' ∧ ∃ us : List Value, us.length = N ∧ Ol w' w.heap.size v' us (fun c => shf k (row c)) ∧ Below w.heap.size w w' ∧ ∀ (c : Nat) (u : Value) (q : Nat), us[c]? = some u → u.ownBlock = some q → w.heap.size ≤ q := by
  obtain ⟨a, cap, rfl, -, hd⟩ := h.is
  have HD : Hid (∀ W, Below w.heap.size w W → 0 < N → ∃ b o, a = some ⟨b, o, none⟩ ∧ ∀ c, c < N → ∃ u, W.cell? ⟨b, o + c, none⟩ = some u ∧ Sl W u (row c)) := fun W hW h0 => by
    obtain ⟨b, o, e, hb, hc⟩ := hd h0
    refine ⟨b, o, e, fun c hcN => ?_⟩
    obtain ⟨u, hu, hs⟩ := hc c hcN
    exact ⟨u, by rw [(bcell hW).1 _ _ hb]; exact hu, hs.up hW⟩
  have HL : Hid (∀ c, c < N → (row c).length ≤ 1000000000 ∧ ∀ x ∈ row c, 0 ≤ x.2 ∧ x.2 ≤ 1000000000) := hl
  obtain ⟨i0, hi, hi2⟩ := Option.map_eq_some_iff.1 info35
  simp only [Prod.mk.injEq] at hi2
  obtain ⟨hz0, hz1, hz2⟩ := hi2
  have HI : Hid (Try.prog.info? 35 = some i0 ∧ i0.zero = some (.slice none 0 0) ∧ i0.size = 1 ∧ i0.bytes = 24) := ⟨hi, hz0, hz1, hz2⟩
  obtain ⟨jj, hj, hj2⟩ := Option.map_eq_some_iff.1 info37
  simp only [Prod.mk.injEq] at hj2
  obtain ⟨hy0, hy1, hy2⟩ := hj2
  have HJ : Hid (Try.prog.info? 37 = some jj ∧ jj.zero = some (.agg #[.int .i64 0, .int .i64 0]) ∧ jj.size = 2 ∧ jj.bytes = 16) := ⟨hj, hy0, hy1, hy2⟩
  have hN' : (N : Int) ≤ 1000000 := by omega
  clear h hd hl hi hz0 hz1 hz2 hj hy0 hy1 hy2
  go_enter Try.func12, Try.ntmps12
  go_wp2_with fail
  go_loopw [5, 13] (fun u t wr => ∃ (i : Nat) (us : List Value), i ≤ N ∧ t = .int .i64 i ∧ us.length = i ∧ Ol wr w.heap.size u us (fun c => shf k (row c)) ∧ Below w.heap.size w wr ∧ ∀ (c : Nat) (y : Value) (q : Nat), us[c]? = some y → y.ownBlock = some q → w.heap.size ≤ q) (fun _ t _ => N - (intOf t).toNat)
  case atStart => exact ⟨0, [], by omega, rfl, rfl, ⟨World.ownsRow_nil _ _ _ _, fun c u e => by simp at e, fun c u q e => by simp at e, Nat.le_refl _⟩, Below.refl _ _, fun c u q e => by simp at e⟩
  case round =>
    rename World => wr
    obtain ⟨i, us, hi, rfl, hus, hq1, hq2, hq3⟩ := hrel
    have HQ : Hid (us.length = i ∧ Ol wr w.heap.size u5 us (fun c => shf k (row c)) ∧ Below w.heap.size w wr) := ⟨hus, hq1, hq2⟩
    have HG : Hid (∀ (c : Nat) (y : Value) (q : Nat), us[c]? = some y → y.ownBlock = some q → w.heap.size ≤ q) := hq3
    clear hq1 hq2 hq3 hus
    by_cases hlt : i < N
    · have k0 : (0 : Int) ≤ (i : Int) := by omega
      have k1 : (i : Int) < (N : Int) := by omega
      obtain ⟨b, o, rfl, hc⟩ := HD.out wr HQ.out.2.2 (by omega)
      obtain ⟨u, hu, hs⟩ := hc i hlt
      obtain ⟨l1, l2⟩ := HL.out i hlt
      generalize hrow : row i = l at *
      have HRw : Hid (row i = l) := hrow
      obtain ⟨ua, uc, rfl, hul⟩ := hs.is
      obtain ⟨M, hM⟩ : ∃ M, l.length = M := ⟨_, rfl⟩
      have HLM : Hid (l.length = M ∧ ∀ x ∈ l, 0 ≤ x.2 ∧ x.2 ≤ 1000000000) := ⟨hM, l2⟩
      rw [hM] at hu l1
      have hM' : (M : Int) ≤ 1000000000 := by omega
      have HP : Hid (0 < M → ∃ p, ua = some ⟨p, 0, none⟩ ∧ ∀ W, Below wr.heap.size wr W → ∀ (j : Nat) x, l[j]? = some x → W.cell? ⟨p, j * 2, none⟩ = some (.int .i64 x.1) ∧ W.cell? ⟨p, j * 2 + 1, none⟩ = some (.int .i64 x.2)) := fun h0 => by
        obtain ⟨p, e, hp, hc⟩ := hul (by omega)
        refine ⟨p, e, fun W hW j x hx => ?_⟩
        rw [(bcell hW).1 _ _ hp, (bcell hW).1 _ _ hp]
        exact hc j x hx
      clear hc hs hul hrow hM l2
      go_wp2_with fail
      clear hu
      go_loopw [8, 19] (fun r t wz => ∃ j : Nat, j ≤ M ∧ t = .int .i64 j ∧ wz.ownsRow wr.heap.size 37 2 r j (pcells (shf k (l.take j))) ∧ Below wr.heap.size wr wz) (fun _ t _ => M - (intOf t).toNat)
      case atStart => exact ⟨0, by omega, rfl, World.ownsRow_nil _ _ _ _, Below.refl _ _⟩
      case round =>
        rename World => wz
        obtain ⟨j, hj, rfl, hz1, hz2⟩ := hrel
        have HZ : Hid (wz.ownsRow wr.heap.size 37 2 u8 j (pcells (shf k (l.take j))) ∧ Below wr.heap.size wr wz) := ⟨hz1, hz2⟩
        clear hz1 hz2
        by_cases hjm : j < M
        · have j0 : (0 : Int) ≤ (j : Int) := by omega
          have j1 : (j : Int) < (M : Int) := by omega
          obtain ⟨p, rfl, hp⟩ := HP.out (by omega)
          have hjl : j < l.length := by rw [HLM.out.1]; exact hjm
          obtain ⟨x, hx⟩ : ∃ x, l[j]? = some x := ⟨l[j], List.getElem?_eq_getElem hjl⟩
          obtain ⟨y1, y2⟩ := HLM.out.2 x (List.mem_of_getElem? hx)
          obtain ⟨z1, z2⟩ := hp wz HZ.out.2 j x hx
          have HT : Hid (pcells (shf k (l.take j)) ++ [.int .i64 x.1, .int .i64 (x.2 + k)] = pcells (shf k (l.take (j + 1)))) := shf_take hx
          obtain ⟨x1, x2⟩ := x
          have y1 : 0 ≤ x2 := y1
          have y2 : x2 ≤ 1000000000 := y2
          have HU : Hid (Below wz.heap.size wz ((wz.alloc (.cells #[.int .i64 x1, .int .i64 x2] 37)).alloc (.cells #[.int .i64 x1, .int .i64 (x2 + k)] 37))) := ((Below.refl _ _).alloc (Nat.le_refl _) _).alloc (by simp) _
          clear hp hx
          go_wp2_with (first
            | (at_builtin; refine wpList_append_lies _ rfl _ _ 35 rfl wr.heap.size 37 jj (.agg #[.int .i64 0, .int .i64 0]) 2 16 Try.underlying35 HJ.out.1 HJ.out.2.1 HJ.out.2.2.1 HJ.out.2.2.2 rfl (by decide) u8 j (pcells (shf k (l.take j))) rfl (own_up HZ.out.1 HU.out) ⟨wz.heap.size + 1, 0, none⟩ 1 1 [.int .i64 x1, .int .i64 (x2 + k)] rfl rfl (World.news_of_block (by have := heap_alloc_new (wz.alloc (.cells #[.int .i64 x1, .int .i64 x2] 37)) (.cells #[.int .i64 x1, .int .i64 (x2 + k)] 37); rwa [World.size_alloc] at this)) (by simp [Value.oneCell']) (by decide) (by unfold maxLen; omega) (by omega) (by have := HZ.out.2.size; simp; omega) _ rfl ?_; intro g cap w4 hown hgrow hg hlt3; have HZ4 : Hid (w4.ownsRow wr.heap.size 37 2 (.slice (some ⟨g, 0, none⟩) (j + 1) cap) (j + 1) (pcells (shf k (l.take (j + 1)))) ∧ Below wr.heap.size wr w4) := ⟨(by rw [← HT.out]; exact hown), (HZ.out.2.trans (HU.out.mono HZ.out.2.size)).trans ⟨hgrow.os, hgrow.tape, hgrow.output, hgrow.size, fun q hq => hgrow.block q (by have := HZ.out.2.size; simp; omega) fun e => by have := (HZ.out.1.lt q e.symm).1; omega⟩⟩; clear hown hgrow hg hlt3))
          go_roundw
          case rel => exact ⟨j + 1, by omega, by go_num, HZ4.out.1, HZ4.out.2⟩
          case measure => simp [intOf]; omega
        · obtain rfl : j = M := by omega
          have j1 : ¬ (j : Int) < (j : Int) := by omega
          have HS : Hid (Sl wz u8 (shf k (row i)) ∧ ∀ q, u8.ownBlock = some q → wr.heap.size ≤ q) := by
            refine ⟨?_, fun q e => (HZ.out.1.lt q e).1⟩
            have h := HZ.out.1
            rw [← HLM.out.1, List.take_length] at h
            rw [HRw.out]
            exact Sl.of (by rw [shf_len]; exact h)
          have HV : Hid (∃ a n c, u8 = .slice a n c) := by
            obtain ⟨a, c, e, -⟩ := HS.out.1.is
            exact ⟨a, _, c, e⟩
          have HO : Hid (Ol wz w.heap.size u5 us (fun c => shf k (row c))) := HQ.out.2.1.up HZ.out.2
          have HW : Hid (Below w.heap.size w wz) := HQ.out.2.2.trans (HZ.out.2.mono HQ.out.2.2.size)
          have hul := HQ.out.1
          have HB : Hid (∀ q, u5.ownBlock = some q → q < wr.heap.size) := fun q e => (HQ.out.2.1.own.lt q e).2
          obtain ⟨sa, sn, sc, rfl⟩ := HV.out
          have HNX : Hid (∀ v' w4, (wz.alloc (.cells #[(Value.slice sa sn sc)] 35)).grownBy w4 u5.ownBlock → w4.ownsRow w.heap.size 35 1 v' (us.length + 1) (us ++ [(Value.slice sa sn sc)]) → (v'.ownBlock = u5.ownBlock ∨ v'.ownBlock = some (wz.alloc (.cells #[(Value.slice sa sn sc)] 35)).heap.size) → Ol w4 w.heap.size v' (us ++ [(Value.slice sa sn sc)]) (fun c => if c < us.length then shf k (row c) else shf k (row i)) ∧ Fr (fun q => w.heap.size ≤ q) wz w4) := fun v' w4 hgrow hown hat => by
            have one : ∀ (c : Nat) (u : Value), [(Value.slice sa sn sc)][c]? = some u → (Value.slice sa sn sc) = u := fun c u e => by
              rcases Nat.eq_zero_or_pos c with h | h
              · subst h; simpa using e
              · rw [List.getElem?_eq_none (by simp; omega)] at e; cases e
            refine HO.out.next (row2 := fun _ => shf k (row i)) ((Below.refl _ _).alloc (Nat.le_refl _) (.cells #[(Value.slice sa sn sc)] 35)) hgrow hown hat (fun c u e => ?_) fun c u q e e0 e2 e3 => ?_
            · rw [← one c u e]; exact HS.out.1.up ((Below.refl _ _).alloc (Nat.le_refl _) _)
            · rw [← one c u e] at e2
              have h1 := HS.out.2 q e2
              have h2 := HB.out q e3
              omega
          have HOwn : Hid ((wz.alloc (.cells #[(Value.slice sa sn sc)] 35)).ownsRow w.heap.size 35 1 u5 us.length us) := (HO.out.up ((Below.refl _ _).alloc (Nat.le_refl _) _)).own
          have hwz : w.heap.size ≤ wz.heap.size := HW.out.size
          go_wp2_with (first
            | (at_builtin; (refine wpList_append_own_at _ rfl _ _ 25 rfl w.heap.size 35 i0 (.slice none 0 0) 1 24 Try.underlying25 HI.out.1 HI.out.2.1 HI.out.2.2.1 HI.out.2.2.2 rfl (by decide) u5 us.length us rfl HOwn.out ⟨wz.heap.size, 0, none⟩ 1 1 [(Value.slice sa sn sc)] rfl rfl (World.news_of_block (heap_alloc_new wz (.cells #[(Value.slice sa sn sc)] 35))) (by simp [Value.oneCell']) (by unfold maxLen; omega) (by omega) (by simp; omega) ?_; intro v' w4 hown hgrow hnil hat; have HN : Hid _ := HNX.out v' w4 hgrow hown hat; clear hown hgrow hnil hat)))
          go_roundw
          case rel =>
            refine ⟨i + 1, us ++ [.slice sa sn sc], by omega, by go_num, by rw [List.length_append, hul]; rfl, ?_, ?_, ?_⟩
            · have h := HN.out.1
              refine ⟨h.own, fun c u hcu => ?_, fun c u q hcu h0 hq => ?_, h.sz⟩
              · have hc2 : c < us.length + 1 := by
                  rcases Nat.lt_or_ge c (us.length + 1) with g | g
                  · exact g
                  · rw [List.getElem?_eq_none (by simpa using g)] at hcu; cases hcu
                have := h.s c u hcu
                by_cases g : c < us.length
                · rw [if_pos g] at this; exact this
                · rw [if_neg g] at this
                  rw [show c = i by omega]
                  exact this
              · refine h.b c u q hcu ?_ hq
                have hc2 : c < us.length + 1 := by
                  rcases Nat.lt_or_ge c (us.length + 1) with g | g
                  · exact g
                  · rw [List.getElem?_eq_none (by simpa using g)] at hcu; cases hcu
                by_cases g : c < us.length
                · rw [if_pos g]; exact h0
                · rw [if_neg g, ← show c = i by omega]
                  exact h0
            · exact HW.out.trans (HN.out.2.below HW.out.size fun q hq e => by omega)
            · intro c y q hc hq
              rcases Nat.lt_or_ge c us.length with g | g
              · rw [List.getElem?_append_left g] at hc
                exact HG.out c y q hc hq
              · rw [List.getElem?_append_right g] at hc
                have h1 : Value.slice sa sn sc = y := by
                  rcases Nat.eq_zero_or_pos (c - us.length) with h | h
                  · rw [h] at hc; simpa using hc
                  · rw [List.getElem?_eq_none (by simp; omega)] at hc; cases hc
                rw [← h1] at hq
                exact Nat.le_trans HQ.out.2.2.size (HS.out.2 q hq)
          case measure => simp [intOf]; omega
    · obtain rfl : i = N := by omega
      have k1 : ¬ (i : Int) < (i : Int) := by omega
      go_wp2_with fail
      go_ret
      exact ⟨_, rfl, us, HQ.out.1, HQ.out.2.1, HQ.out.2.2, HG.out⟩
end Go.Proofs.Ytnfnjhaaaenldaa.Ro
