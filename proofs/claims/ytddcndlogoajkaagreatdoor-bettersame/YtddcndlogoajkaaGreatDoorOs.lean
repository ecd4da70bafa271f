/- The statement BetterSame, whole: for any program of at most 200 operations, any state and any number of steps, the program made better prints the same, ends the same way, in no more steps; the listed variable is tied to the program text. Conditions: none. -/
import Derived.Test.YtddcndlogoajkaaGreatDoorFr
import Derived.Test.YtddcndlogoajkaaGreatDoorQNx
import Derived.ChangeSlices
import Derived.Test.YtddcndlogoajkaaGreatDoorHh
namespace Go.Proofs.YtddcndlogoajkaaGreatDoor.L8.Sm
open Go.ChangeShapes Go.WideShapes Go.ChangeAt Go.RowKit
open _root_.Go.Proofs.YtddcndlogoajkaaGreatDoor.L8.Op _root_.Go.Proofs.YtddcndlogoajkaaGreatDoor.L8.So
set_option maxRecDepth 20000

theorem cell_spot {w : World} {a : Addr} {v : Value} (h : w.cell? a = some v) : a = ⟨a.block, a.off, none⟩ := by
  obtain ⟨b, f, s⟩ := a
  cases s with
  | none => rfl
  | some s =>
    unfold World.cell? at h
    split at h
    · simp at h
    · cases h
/-- A list of numbers out of a datum. -/
theorem open_nums {H : Type} {enc : TypeId × Value → H} {W : World} {fuel : Nat} {held : Bool} {c : Value} {y : DataW H × List MemPlace} (h : DataW.trod enc Tryz.prog W 0 (fun _ => true) held fuel 33 [c] = some y) :
    ∃ (ao : Option Addr) (cap : Nat) (l : List Int), c = .slice ao l.length cap ∧ NL W ao l ∧ (∀ x ∈ l, In64 x) := by
  rcases open_ints (P := Tryz.prog) Tryz.underlying33 Tryz.underlying2 (by kernel_rfl) h with ⟨e, -⟩ | ⟨a, len, cap, zs, e, -, hl, hc, hz, -, hcell, hwf⟩
  · exact ⟨none, 0, [], by simpa using e, ⟨fun h => by simp at h⟩, fun x hx => by simp at hx⟩
  · have hz : zs.length = cap := by simpa using hz
    refine ⟨some a, cap, zs.take len, by simp at e; rw [e]; congr; simp; omega, ⟨fun h0 => ?_⟩, fun x hx => ?_⟩
    · have hlen : 0 < len := by simp at h0; omega
      have h1 := hcell 0 (by omega)
      rw [show a.add 0 = a by unfold Addr.add; simp] at h1
      have ha := cell_spot h1
      refine ⟨a.block, a.off, by rw [← ha], World.block_lt_of_cell? W a h1, fun i hi => ?_⟩
      have hi' : i < zs.length := by simp at hi; omega
      have h2 := hcell i hi'
      rw [ha, add_at'] at h2
      rw [h2]
      simp [List.getD, List.getElem?_eq_getElem hi']
    · have := wf64 (hwf x (List.mem_of_mem_take hx))
      exact this
theorem open_state {H : Type} {enc : TypeId × Value → H} {W : World} {r : Reach} {b0 : Nat} {held : Bool} {v : Value} {d : DataW H} {p : List MemPlace} (hv : Value.okWide Tryz.prog W r b0 35 v) (h : DataW.Trod enc Tryz.prog W 0 (fun _ => true) held 35 v d p) :
    ∃ (ra ma : Option Addr) (rc mc : Nat) (rs ms : List Int), v = .agg #[.slice ra rs.length rc, .slice ma ms.length mc] ∧ Sn W ra ma rs ms ∧ (∀ x ∈ rs, In64 x) ∧ (∀ x ∈ ms, In64 x) := by
  obtain ⟨cs, rfl, hsz⟩ := okWide_struct Tryz.underlying35 hv
  have k27 : Tryz.prog.cellsOf 35 = 2 := by kernel_rfl
  have k25 : Tryz.prog.cellsOf 33 = 1 := by kernel_rfl
  rw [k27] at hsz
  obtain ⟨l⟩ := cs
  clear hv
  match l, hsz with
  | [c0, c1], _ =>
    obtain ⟨fuel, hf⟩ := h
    obtain ⟨xs, n, _, hx, _, hlen, hff⟩ := DataW.trod_struct Tryz.underlying35 hf
    match xs, hlen with
    | [y0, y1], _ =>
      have h0 : DataW.trod enc Tryz.prog W 0 (fun _ => true) held n 33 ((([c0, c1] : List Value).drop 0).take (Tryz.prog.cellsOf 33)) = some y0 := hff 0 _ rfl
      have h1 : DataW.trod enc Tryz.prog W 0 (fun _ => true) held n 33 ((([c0, c1] : List Value).drop 1).take (Tryz.prog.cellsOf 33)) = some y1 := hff 1 _ rfl
      rw [k25] at h0 h1
      obtain ⟨ra, rc, rs, e0, n0, i0⟩ := open_nums (c := c0) h0
      obtain ⟨ma, mc, ms, e1, n1, i1⟩ := open_nums (c := c1) h1
      subst e0 e1
      exact ⟨ra, ma, rc, mc, rs, ms, rfl, ⟨n0, n1⟩, i0, i1⟩
end Go.Proofs.YtddcndlogoajkaaGreatDoor.L8.Sm
namespace Go.Proofs.YtddcndlogoajkaaGreatDoor.L8.Bc
open Go.ChangeShapes Go.WideShapes Go.ChangeAt Go.RowKit
open _root_.Go.Proofs.YtddcndlogoajkaaGreatDoor.L8.Op

set_option maxRecDepth 100000 in
theorem same_wit (os : Os) (H : Type) (enc : TypeId × Value → H) : ∃ (w : World) (tape : Tape) (i : Input), w.os = os ∧ (w.forCall tape i).Shaped Tryz.prog ∧ i.vars = [] ∧ Input.okWide Tryz.prog (w.forCall tape i) .any w.heap.size 4 i ∧
      ((Rows.betterSameSpec.pre enc Tryz.prog Tryz.f4 [] false (w.forCall tape i).memory i.args ∧ laidMetH Tryz.prog Rows.betterSameRow.laid (w.forCall tape i).memory) ∧ sizedMet enc Tryz.prog Tryz.f4 (OpenSpec.ofChange Rows.betterSameSpec) false (w.forCall tape i).memory i.args) ∧ Assume.holds {} Tryz.prog (lone (Frame.enter Tryz.prog 4 i.args .normal) [] (w.forCall tape i)) :=
  ChangeSpec.witness_shaped (enc := enc) (C := Tryz.checked) (os := os) (X := fun w _ => laidMetH Tryz.prog Rows.betterSameRow.laid w) false ((World.holding Tryz.prog os ⟨#[], #[], []⟩).layVars Tryz.prog laid1) #[.agg #[.slice none 0 0], .agg #[.slice none 0 0, .slice none 0 0], .int .i64 0] 8 (wit_os os)
    (World.shaped_of_ZipB (by kernel_rfl) (by kernel_rfl)) (by kernel_rfl) (by kernel_rfl) (by kernel_rfl) (wit_met os _)

set_option maxRecDepth 100000 in
theorem same_lifted (os : Os) (started : os.Started) (H : Type) (enc : TypeId × Value → H) :
    ReturnsInHanded {} Tryz.checked os 4 .any (fun w args => (Rows.betterSameSpec.pre enc Tryz.prog Tryz.f4 [] false w args ∧ laidMetH Tryz.prog Rows.betterSameRow.laid w) ∧ sizedMet enc Tryz.prog Tryz.f4 (OpenSpec.ofChange Rows.betterSameSpec) false w args)
      (Rows.betterSameSpec.post enc Tryz.prog Tryz.f4 false true false false) := by
  refine wrap started (by kernel_rfl) Tryz.func4 (same_wit os H enc) ?_
  intro W base args ds gs before hval0 hW hsz hL _
  have hval : ∀ (j : Nat) t v, Tryz.f4.params[j]? = some t → args[j]? = some v → Value.okWide Tryz.prog W .any base t v := hval0
  have hW' := hW
  obtain ⟨p, q, hA0, hV, rfl, _, _⟩ := hW
  have hA : DataW.TrodAll enc Tryz.prog W 0 (fun _ => true) true Tryz.f4.params.toList args.toList ds p := hA0
  rw [Tryz.params4] at hA hval hsz
  obtain ⟨v0, vs0, d0, ds0, p0, q0, hargs, rfl, rfl, h0, r0⟩ := trodAll_cons hA
  obtain ⟨v1, vs1, d1, ds1, p1, q1, rfl, rfl, rfl, h1, r1⟩ := trodAll_cons r0
  obtain ⟨v2, vs2, d2, ds2, p2, q2, rfl, rfl, rfl, h2, r2⟩ := trodAll_cons r1
  obtain ⟨rfl, rfl, rfl⟩ := trodAll_nil r2
  obtain rfl : args = #[v0, v1, v2] := by cases args; simp_all
  obtain ⟨rfl, rfl⟩ := trodVars_none hV
  obtain ⟨ao, cap, ps, rfl, hp, hc, hm⟩ := open_prog (hval 0 24 v0 rfl rfl) h0 fun n hn => by
    have := List.all_eq_true.1 hsz n (DataW.weights_mem_each (j := 0) rfl rfl n hn)
    simpa using this
  obtain ⟨ra, ma, rc, mc, rs, ms, rfl, hs, hr, hms⟩ := _root_.Go.Proofs.YtddcndlogoajkaaGreatDoor.L8.Sm.open_state (hval 1 35 v1 rfl rfl) h1
  obtain ⟨n2, rfl, rfl, rfl, hn2⟩ := open_int Tryz.underlying3 (hval 2 3 v2 rfl rfl) h2
  simp only [List.append_nil] at hW'
  refine (_root_.Go.Proofs.YtddcndlogoajkaaGreatDoor.L8.Bt.law_same ao ra ma cap rc mc ps rs ms n2 W hp (env_of hL) hs hr hms).mono fun e W' ⟨he, hb⟩ => ?_
  subst he
  refine ⟨_, rfl, _, _, _, [], (p0 ++ (p1 ++ ([] ++ []))), [], hW', trodAll_mk1 (shut_bool Tryz.underlying4 _), ?_, rfl, hb.frame _, fun h => by cases h⟩
  rw [Tryz.params4]
  exact trodAll_cons_mk (Below.trod laidOut (by kernel_rfl) (by rw [tySize]; decide) h0 hb fun x hx => by obtain ⟨fuel, hf⟩ := h0; exact DataW.trod_lt _ _ _ _ hf x hx) (trodAll_cons_mk (Below.trod laidOut (by kernel_rfl) (by rw [tySize]; decide) h1 hb fun x hx => by obtain ⟨fuel, hf⟩ := h1; exact DataW.trod_lt _ _ _ _ hf x hx) (trodAll_cons_mk (Below.trod laidOut (by kernel_rfl) (by rw [tySize]; decide) h2 hb (fun x hx => by cases hx)) (trodAll_mk0)))

theorem same_row : Rows.BetterSameSaid :=
  OpenClaim.holds_of_wide 4 Tryz.f4 rfl rfl rfl rfl rfl rfl rfl ⟨rfl, rfl, rfl, rfl, rfl⟩ rfl rfl rfl rfl rfl (by kernel_rfl) Tryz.func4 (by kernel_rfl)
    (of_decide_eq_true (by kernel_rfl)) (by unfold Func.isWrapper; first | (rw [if_pos (by decide +kernel)]; kernel_rfl) | (rw [if_neg (by decide +kernel)]; exact ⟨rfl, rfl⟩))
    (fun os started H enc _ => same_lifted os started H enc)

theorem same_card : Rows.BetterSameCardSaid :=
  Claim7.holds_tied_plain_at .later [] [.data] true (true, "838ab0aef871a6fd431863c5258b5d44818a043eee07193a9627945464a524ec") true same_row (fun _ h => by cases h) (by kernel_rfl) (fun _ h => by cases h) betterSame_row_tie rfl ⟨rfl, rfl⟩ (by kernel_rfl) rfl
    (fun f fn hf hfn => by
      obtain rfl : f = 4 := Option.some.inj ((show Tryz.prog.funcNamed "hayloft/hayloftlaw25.BetterSame" = some 4 by kernel_rfl).symm.trans hf) |>.symm
      obtain rfl : fn = Tryz.f4 := (Option.some.inj (Tryz.func4.symm.trans hfn)).symm
      exact ⟨by kernel_rfl, fun j t ht => by
        rw [Tryz.params4] at ht
        have hm : t ∈ [24, 35, 3] := by simpa using Array.mem_of_getElem? ht
        have hall : ([24, 35, 3].all fun u => !Tryz.prog.wantsStandIn u) = true := by kernel_rfl
        exact (show Tryz.prog.wantsStandIn t = false by simpa using List.all_eq_true.1 hall t hm)⟩)
    (by kernel_rfl)
#print axioms same_card
end Go.Proofs.YtddcndlogoajkaaGreatDoor.L8.Bc
