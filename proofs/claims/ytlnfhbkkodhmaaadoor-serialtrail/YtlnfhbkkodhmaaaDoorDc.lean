/- What an operation makes of the document's machine (op): read off the program by the walk. Conditions: the machine lies in memory. -/
import Derived.Test.YtlnfhbkkodhmaaaDoorDb
namespace Go.Proofs.YtlnfhbkkodhmaaaDoor.Sm
open Go.ChangeShapes Go.WideShapes Go.ChangeAt Go.RowKit
open _root_.Go.Proofs.YtlnfhbkkodhmaaaDoor.Op _root_.Go.Proofs.YtlnfhbkkodhmaaaDoor.So
set_option maxRecDepth 20000

section
variable {w : World} {q : Nat} {ba : Option Addr} {bl bc : Nat} {po : Option Addr} {pc : Nat} {M : Ma} {L : Tg}
/-- What op leaves, but for a print. -/
def OpPost (w : World) (q : Nat) (f : Nat → Value) (e : Ending) (w' : World) : Prop := e = .returned (.bool true) ∧ DAt w' q f ∧ Fr (One q) w w'
/-- The operation's box and the machine, on the way. -/
structure Ow (w W : World) (q : Nat) (o : O) (f : Nat → Value) : Prop where
  up : Below w.heap.size w W
  bx : Op.At W w.heap.size o.cells
  at_ : DAt W q f
theorem Ow.drew {W : World} {o : O} {f : Nat → Value} (h : Ow w W q o f) (n : Nat) : Ow w (W.drewN n) q o f := by
  have hb : Below W.heap.size W (W.drewN n) := ⟨rfl, rfl, rfl, Nat.le_refl _, fun _ _ => rfl⟩
  exact ⟨h.up.trans (hb.mono h.up.size), h.bx.below hb h.bx.lt, h.at_.up hb⟩
theorem Ow.start (w : World) {q : Nat} (o : O) {f : Nat → Value} (h : DAt w q f) : Ow w (w.alloc (.cells o.cells 60)) q o f :=
  ⟨(Below.refl _ _).alloc (Nat.le_refl _) _, Op.At.new w o.cells 60, h.up ((Below.refl _ _).alloc (Nat.le_refl _) _)⟩
theorem Ow.post {W : World} {o : O} {f g : Nat → Value} (h : Ow w W q o f) {k : Nat} (hk : k < 302) {v : Value} (e : updV f k v = g) : OpPost w q g (.returned (.bool true)) (W.setCell ⟨q, k, none⟩ v) :=
  ⟨rfl, by rw [← e]; exact h.at_.set hk v, (Fr.of (X := One q) h.up).setCell (.inr rfl) _ _⟩
set_option maxHeartbeats 4000000 in
theorem rop_one (nd na nb : Nat) (im : Int) (h : DAt w q (dG ba bl bc po pc M L)) (hd : nd < 32) (ha : na < 32) (hb' : nb < 32) :
    Calls Tryd.prog 57 #[ptr q, (O.mk 1 nd na nb im).val] w (OpPost w q (dG ba bl bc po pc { M with r := upd M.r nd im } L)) := by
  have HS : Hid (Ow w (w.alloc (.cells (O.mk 1 nd na nb im).cells 60)) q (O.mk 1 nd na nb im) (dG ba bl bc po pc M L)) := Ow.start w _ h
  have hdi : (nd : Int) < 32 := by omega
  have hai : (na : Int) < 32 := by omega
  have hbi : (nb : Int) < 32 := by omega
  clear h
  go_enter Tryd.func57, Tryd.ntmps57
  have q1 := HS.out.at_.kr ha
  have q2 := HS.out.at_.kr hb'
  have z1 := HS.out.at_.lt
  go_wp2_with fail
  go_quiet (fail)
  have HS2 : Hid (Ow w ((w.alloc (.cells (O.mk 1 nd na nb im).cells 60)).drewN nq) q (O.mk 1 nd na nb im) (dG ba bl bc po pc M L)) := HS.out.drew nq
  clear HS q1 q2 z1
  generalize (w.alloc (.cells (O.mk 1 nd na nb im).cells 60)).drewN nq = W at *
  obtain ⟨o0, o1, o2, o3, o4⟩ := HS2.out.bx.o5
  have q0 := HS2.out.at_.kr hd
  have f0 := HS2.out.at_.fz (1 + nd)
  have z1 := HS2.out.at_.lt
  have z2 := HS2.out.bx.lt
  go_wp2_with fail
  have HS3 : Hid (Ow w W.drew q (O.mk 1 nd na nb im) (dG ba bl bc po pc M L)) := HS2.out.drew 1
  go_region
  all_goals
    go_wp2_with fail
    go_ret
    exact HS3.out.post (by omega) (up_r hd _)
set_option maxHeartbeats 4000000 in
theorem rop_load (nd na nb : Nat) (im : Int) (h : DAt w q (dG ba bl bc po pc M L)) (hd : nd < 32) (ha : na < 32) (hb' : nb < 32) :
    Calls Tryd.prog 57 #[ptr q, (O.mk 15 nd na nb im).val] w (OpPost w q (dG ba bl bc po pc { M with r := upd M.r nd (M.m (cellN (M.r na) im)) } L)) := by
  have HS : Hid (Ow w (w.alloc (.cells (O.mk 15 nd na nb im).cells 60)) q (O.mk 15 nd na nb im) (dG ba bl bc po pc M L)) := Ow.start w _ h
  have hdi : (nd : Int) < 32 := by omega
  have hai : (na : Int) < 32 := by omega
  have hbi : (nb : Int) < 32 := by omega
  obtain ⟨c, hc⟩ : ∃ c : Nat, cellN (M.r na) im = c := ⟨_, rfl⟩
  have hc256 : c < 256 := by rw [← hc]; exact cellN_lt _ _
  have hci : (c : Int) < 256 := by omega
  have HCl : Hid (∀ W, Calls Tryd.prog 71 #[.int .i64 (M.r na), .int .i64 im] W fun e w' => e = .returned (.int .i64 (c : Int)) ∧ w' = W) := fun W => by
    have := rcell_any (M.r na) im W
    rw [hc] at this; exact this
  rw [hc]
  clear hc
  have HNe : Hid (¬ q = w.heap.size) := (by show ¬ q = w.heap.size; have := h.lt; omega)
  clear h
  go_enter Tryd.func57, Tryd.ntmps57
  have q1 := HS.out.at_.kr ha
  have q2 := HS.out.at_.kr hb'
  have z1 := HS.out.at_.lt
  go_wp2_with fail
  go_quiet (fail)
  have HS2 : Hid (Ow w ((w.alloc (.cells (O.mk 15 nd na nb im).cells 60)).drewN nq) q (O.mk 15 nd na nb im) (dG ba bl bc po pc M L)) := HS.out.drew nq
  clear HS q1 q2 z1
  generalize (w.alloc (.cells (O.mk 15 nd na nb im).cells 60)).drewN nq = W at *
  obtain ⟨o0, o1, o2, o3, o4⟩ := HS2.out.bx.o5
  have q0 := HS2.out.at_.kr hd
  have f0 := HS2.out.at_.fz (1 + nd)
  have z1 := HS2.out.at_.lt
  have z2 := HS2.out.bx.lt
  have q3 := HS2.out.at_.km hc256
  have hnq : ¬ q = w.heap.size := HNe.out
  have hnq' : ¬ w.heap.size = q := fun e => hnq e.symm
  go_wp2_with fail
  have HS3 : Hid (Ow w W.drew q (O.mk 15 nd na nb im) (dG ba bl bc po pc M L)) := HS2.out.drew 1
  have r0 : W.drew.cell? ⟨q, 1 + nd, none⟩ = some (.int .i64 (M.r nd)) := q0
  have r1 : W.drew.frozen? ⟨q, 1 + nd, none⟩ = false := f0
  have HK1 : Hid (W.drew.cell? ⟨w.heap.size, 1, none⟩ = some (.int .u8 (nd : Int)) ∧ W.drew.cell? ⟨w.heap.size, 4, none⟩ = some (.int .i64 im) ∧ W.drew.cell? ⟨q, 33 + c, none⟩ = some (.int .i64 (M.m c))) := ⟨o1, o4, q3⟩
  have HK2 : Hid (∀ v, (W.drew.setCell ⟨q, 1 + nd, none⟩ v).cell? ⟨w.heap.size, 1, none⟩ = some (.int .u8 (nd : Int)) ∧ (W.drew.setCell ⟨q, 1 + nd, none⟩ v).cell? ⟨w.heap.size, 4, none⟩ = some (.int .i64 im) ∧ (W.drew.setCell ⟨q, 1 + nd, none⟩ v).cell? ⟨q, 33 + c, none⟩ = some (.int .i64 (M.m c))) := fun v => ⟨(World.cell?_setCell_far _ _ _ _ hnq).trans o1, (World.cell?_setCell_far _ _ _ _ hnq).trans o4, (co (by omega)).trans q3⟩
  go_region_held3 (fun w' => w'.cell? ⟨w.heap.size, 1, none⟩ = some (.int .u8 (nd : Int)) ∧ w'.cell? ⟨w.heap.size, 4, none⟩ = some (.int .i64 im) ∧ w'.cell? ⟨q, 33 + c, none⟩ = some (.int .i64 (M.m c)))
    (first | exact HK1.out | exact HK2.out _)
    (first | (go_at_call 71; refine Calls.mono (HCl.out _) ?_; rintro e w5 ⟨rfl, hw5⟩; subst hw5))
  all_goals
    go_wp2_with fail
    go_ret
    exact HS3.out.post (by omega) (up_r hd _)
set_option maxHeartbeats 4000000 in
theorem rop_store (nd na nb : Nat) (im : Int) (h : DAt w q (dG ba bl bc po pc M L)) (hd : nd < 32) (ha : na < 32) (hb' : nb < 32) :
    Calls Tryd.prog 57 #[ptr q, (O.mk 16 nd na nb im).val] w (OpPost w q (dG ba bl bc po pc { M with m := upd M.m (cellN (M.r na) im) (M.r nb) } L)) := by
  have HS : Hid (Ow w (w.alloc (.cells (O.mk 16 nd na nb im).cells 60)) q (O.mk 16 nd na nb im) (dG ba bl bc po pc M L)) := Ow.start w _ h
  have hdi : (nd : Int) < 32 := by omega
  have hai : (na : Int) < 32 := by omega
  have hbi : (nb : Int) < 32 := by omega
  obtain ⟨c, hc⟩ : ∃ c : Nat, cellN (M.r na) im = c := ⟨_, rfl⟩
  have hc256 : c < 256 := by rw [← hc]; exact cellN_lt _ _
  have hci : (c : Int) < 256 := by omega
  have HCl : Hid (∀ W, Calls Tryd.prog 71 #[.int .i64 (M.r na), .int .i64 im] W fun e w' => e = .returned (.int .i64 (c : Int)) ∧ w' = W) := fun W => by
    have := rcell_any (M.r na) im W
    rw [hc] at this; exact this
  rw [hc]
  clear hc
  have HNe : Hid (¬ q = w.heap.size) := (by show ¬ q = w.heap.size; have := h.lt; omega)
  clear h
  go_enter Tryd.func57, Tryd.ntmps57
  have q1 := HS.out.at_.kr ha
  have q2 := HS.out.at_.kr hb'
  have z1 := HS.out.at_.lt
  go_wp2_with fail
  go_quiet (fail)
  have HS2 : Hid (Ow w ((w.alloc (.cells (O.mk 16 nd na nb im).cells 60)).drewN nq) q (O.mk 16 nd na nb im) (dG ba bl bc po pc M L)) := HS.out.drew nq
  clear HS q1 q2 z1
  generalize (w.alloc (.cells (O.mk 16 nd na nb im).cells 60)).drewN nq = W at *
  obtain ⟨o0, o1, o2, o3, o4⟩ := HS2.out.bx.o5
  have q0 := HS2.out.at_.kr hd
  have f0 := HS2.out.at_.fz (1 + nd)
  have z1 := HS2.out.at_.lt
  have z2 := HS2.out.bx.lt
  have q3 := HS2.out.at_.km hc256
  have hnq : ¬ q = w.heap.size := HNe.out
  have hnq' : ¬ w.heap.size = q := fun e => hnq e.symm
  go_wp2_with fail
  have HS3 : Hid (Ow w W.drew q (O.mk 16 nd na nb im) (dG ba bl bc po pc M L)) := HS2.out.drew 1
  have r0 : W.drew.cell? ⟨q, 33 + c, none⟩ = some (.int .i64 (M.m c)) := q3
  have r1 : W.drew.frozen? ⟨q, 33 + c, none⟩ = false := HS2.out.at_.fz _
  have HK1 : Hid (W.drew.cell? ⟨w.heap.size, 4, none⟩ = some (.int .i64 im)) := o4
  have HK2 : Hid (∀ v, (W.drew.setCell ⟨q, 33 + c, none⟩ v).cell? ⟨w.heap.size, 4, none⟩ = some (.int .i64 im)) := fun v => (World.cell?_setCell_far _ _ _ _ hnq).trans o4
  go_region_held3 (fun w' => w'.cell? ⟨w.heap.size, 4, none⟩ = some (.int .i64 im))
    (first | exact HK1.out | exact HK2.out _)
    (first | (go_at_call 71; refine Calls.mono (HCl.out _) ?_; rintro e w5 ⟨rfl, hw5⟩; subst hw5))
  all_goals
    go_wp2_with fail
    go_ret
    exact HS3.out.post (by omega) (up_m hc256 _)
set_option maxHeartbeats 4000000 in
theorem rop_reck (p : Int) (hp1 : 2 ≤ p) (hp2 : p ≤ 14) (nd na nb : Nat) (im : Int) (h : DAt w q (dG ba bl bc po pc M L)) (hd : nd < 32) (ha : na < 32) (hb' : nb < 32) (hi : In64 (M.r na)) (he : rkE p (M.r nb) = 0) :
    Calls Tryd.prog 57 #[ptr q, (O.mk p nd na nb im).val] w (OpPost w q (dG ba bl bc po pc { M with r := upd M.r nd (rkV p (M.r na) (M.r nb)) } L)) := by
  have HS : Hid (Ow w (w.alloc (.cells (O.mk p nd na nb im).cells 60)) q (O.mk p nd na nb im) (dG ba bl bc po pc M L)) := Ow.start w _ h
  have hdi : (nd : Int) < 32 := by omega
  have hai : (na : Int) < 32 := by omega
  have hbi : (nb : Int) < 32 := by omega
  have g1 : (p == 1) = false := by simp; omega
  have g15 : (p == 15) = false := by simp; omega
  have g16 : (p == 16) = false := by simp; omega
  have g17 : (p == 17) = false := by simp; omega
  have HRk : Hid (∀ W, Calls Tryd.prog 72 #[.int .i8 p, .int .i64 (M.r na), .int .i64 (M.r nb)] W fun e w' => e = .returned (.tuple #[.int .i64 (rkV p (M.r na) (M.r nb)), .int .i64 0]) ∧ w' = W) := fun W => by
    have := rf_any p (M.r na) (M.r nb) W hi.1 hi.2
    rw [he] at this; exact this
  clear hp1 hp2 he hi
  clear h
  go_enter Tryd.func57, Tryd.ntmps57
  have q1 := HS.out.at_.kr ha
  have q2 := HS.out.at_.kr hb'
  have z1 := HS.out.at_.lt
  go_wp2_with fail
  go_quiet (fail)
  have HS2 : Hid (Ow w ((w.alloc (.cells (O.mk p nd na nb im).cells 60)).drewN nq) q (O.mk p nd na nb im) (dG ba bl bc po pc M L)) := HS.out.drew nq
  clear HS q1 q2 z1
  generalize (w.alloc (.cells (O.mk p nd na nb im).cells 60)).drewN nq = W at *
  obtain ⟨o0, o1, o2, o3, o4⟩ := HS2.out.bx.o5
  have q0 := HS2.out.at_.kr hd
  have f0 := HS2.out.at_.fz (1 + nd)
  have z1 := HS2.out.at_.lt
  have z2 := HS2.out.bx.lt
  generalize rkV p (M.r na) (M.r nb) = vv at *
  go_wp2_with (first | (go_at_call 72; refine Calls.mono (HRk.out _) ?_; rintro e w5 ⟨rfl, hw5⟩; subst hw5))
  have HS3 : Hid (Ow w w5.drew q (O.mk p nd na nb im) (dG ba bl bc po pc M L)) := HS2.out.drew 1
  go_region
  all_goals
    go_wp2_with fail
    go_ret
    exact HS3.out.post (by omega) (up_r hd _)
/-- A row of prints, own and apart from the machine's block. -/
structure Pz (w w' : World) (q : Nat) (po : Option Addr) (g cap : Nat) (l : List Int) : Prop where
  fr : Fr (fun k => ∃ a, po = some a ∧ a.block = k) w w'
  row : w'.ownsRow (q + 1) 2 1 (.slice (some ⟨g, 0, none⟩) l.length cap) l.length (nums l)
  own : (∃ a, po = some a ∧ a.block = g) ∨ w.heap.size ≤ g
theorem pz_of {W w3 : World} {g cap : Nat} {l : List Int} {v : Int} (hW : Below w.heap.size w W) (hgrow : W.grownBy w3 (Value.ownBlock (.slice po l.length pc))) (hg : Value.ownBlock (.slice po l.length pc) = some g ∨ g = W.heap.size)
    (hown : w3.ownsRow (q + 1) 2 1 (.slice (some ⟨g, 0, none⟩) (l.length + 1) cap) (l.length + 1) (nums l ++ [.int .i64 v])) : Pz w w3 q po g cap (l ++ [v]) := by
  have e0 : ∀ {k : Nat}, Value.ownBlock (.slice po l.length pc) = some k → ∃ a, po = some a ∧ a.block = k := fun {k} h => by
    cases po with
    | none => simp [Value.ownBlock] at h
    | some a => simp only [Value.ownBlock, Option.some.injEq] at h; exact ⟨a, rfl, h⟩
  refine ⟨(Fr.of (X := fun k => ∃ a, po = some a ∧ a.block = k) hW).trans (grown_fr hgrow) fun k _ e => e0 e, ?_, ?_⟩
  · have e1 : (l ++ [v]).length = l.length + 1 := by simp
    have e2 : nums (l ++ [v]) = nums l ++ [.int .i64 v] := by simp [nums]
    rw [e1, e2]; exact hown
  · rcases hg with hg | hg
    · exact .inl (e0 hg)
    · right; rw [hg]; exact hW.size
set_option maxHeartbeats 4000000 in
theorem rop_print (nd na nb : Nat) (im : Int) (h : DAt w q (dG ba bl bc po pc M L)) (ha : na < 32) (hb' : nb < 32) (hl : M.pr.length < 1099511627776) (hr : w.ownsRow (q + 1) 2 1 (.slice po M.pr.length pc) M.pr.length (nums M.pr)) :
    Calls Tryd.prog 57 #[ptr q, (O.mk 17 nd na nb im).val] w fun e w' => e = .returned (.bool true) ∧ ∃ g cap, DAt w' q (dG ba bl bc (some ⟨g, 0, none⟩) cap { M with pr := M.pr ++ [M.r na] } L) ∧ w'.ownsRow (q + 1) 2 1 (.slice (some ⟨g, 0, none⟩) (M.pr ++ [M.r na]).length cap) (M.pr ++ [M.r na]).length (nums (M.pr ++ [M.r na])) ∧ Fr (fun k => k = q ∨ ∃ a, po = some a ∧ a.block = k) w w' ∧ ((∃ a, po = some a ∧ a.block = g) ∨ w.heap.size ≤ g) := by
  obtain ⟨i0, hi, hi2⟩ := Option.map_eq_some_iff.1 info2
  simp only [Prod.mk.injEq] at hi2
  obtain ⟨hz0, hz1, hz2⟩ := hi2
  have HI : Hid (Tryd.prog.info? 2 = some i0 ∧ i0.zero = some (.int .i64 0) ∧ i0.size = 1 ∧ i0.bytes = 8) := ⟨hi, hz0, hz1, hz2⟩
  clear hi hz0 hz1 hz2
  have HS : Hid (Ow w (w.alloc (.cells (O.mk 17 nd na nb im).cells 60)) q (O.mk 17 nd na nb im) (dG ba bl bc po pc M L)) := Ow.start w _ h
  have HR : Hid (w.ownsRow (q + 1) 2 1 (.slice po M.pr.length pc) M.pr.length (nums M.pr) ∧ q < w.heap.size) := ⟨hr, h.lt⟩
  have hai : (na : Int) < 32 := by omega
  have hbi : (nb : Int) < 32 := by omega
  clear h hr
  go_enter Tryd.func57, Tryd.ntmps57
  have q1 := HS.out.at_.kr ha
  have q2 := HS.out.at_.kr hb'
  have z1 := HS.out.at_.lt
  go_wp2_with fail
  go_quiet (fail)
  have HS2 : Hid (Ow w ((w.alloc (.cells (O.mk 17 nd na nb im).cells 60)).drewN nq) q (O.mk 17 nd na nb im) (dG ba bl bc po pc M L)) := HS.out.drew nq
  clear HS q1 q2 z1
  generalize (w.alloc (.cells (O.mk 17 nd na nb im).cells 60)).drewN nq = W at *
  obtain ⟨o0, o1, o2, o3, o4⟩ := HS2.out.bx.o5
  have q0 := HS2.out.at_.kp
  have z1 := HS2.out.at_.lt
  have z2 := HS2.out.bx.lt
  go_wp2_with (first
    | (at_builtin; refine wpList_append_lies _ rfl _ _ 25 rfl (q + 1) 2 i0 (.int .i64 0) 1 8 Tryd.underlying25 HI.out.1 HI.out.2.1 HI.out.2.2.1 HI.out.2.2.2 rfl (by decide) _ _ _ rfl ((row_up HR.out.1 HS2.out.up).alloc _) ⟨W.heap.size, 0, none⟩ 1 1 [.int .i64 (M.r na)] rfl rfl (World.news_of_block (heap_alloc_new W (.cells #[.int .i64 (M.r na)] 2))) (by simp [Value.oneCell']) (by decide) (by unfold maxLen; omega) (by omega) (by have h5 := HS2.out.up.size; have h6 := HR.out.2; simp; omega) _ rfl ?_; intro g cap w3 hown hgrow hg hlt; have HP : Hid (Pz w w3 q po g cap (M.pr ++ [M.r na])) := pz_of (HS2.out.up.alloc HS2.out.up.size _) hgrow hg hown; have HD3 : Hid (DAt w3 q (dG ba bl bc po pc M L)) := ((HS2.out.at_.up ((Below.refl _ _).alloc (Nat.le_refl _) _)).fr (grown_fr hgrow) (fun e => (by have h7 := ((row_up HR.out.1 HS2.out.up).lt _ e).1; omega))); have k3 := HD3.out.kp; have l3 := HD3.out.lt; have f3 := HD3.out.fz 294; clear hown hgrow hg hlt q0 z1 z2))
  go_ret
  have e : (M.pr ++ [M.r na]).length = M.pr.length + 1 := by simp
  have hs := HD3.out.set (k := 294) (by omega) (.slice (some ⟨g, 0, none⟩) (M.pr ++ [M.r na]).length cap)
  rw [up_p, e] at hs
  exact ⟨rfl, g, cap, hs, (by have h9 := row_set' (b := q) (j := 294) HP.out.row (by omega) (.slice (some ⟨g, 0, none⟩) (M.pr.length + 1) cap); rw [e] at h9; exact h9), (HP.out.fr.mono fun _ _ h => .inr h).setCell (.inr (.inl rfl)) _ _, HP.out.own⟩
end
/-- What op leaves of the machine. -/
def ROp (w : World) (q : Nat) (ps : List Bk) (T : Nat → Prop) (M' : Ma) (L : Tg) (e : Ending) (w' : World) : Prop := e = .returned (.bool true) ∧ ∃ T', DR w' q ps T' M' L ∧ Tn w T w' T'
theorem rop_any {w : World} {q : Nat} {ps : List Bk} {T : Nat → Prop} {M : Ma} {L : Tg} (o : O) (h : DM w q ps T M L) (ho : OkM o) (ht : trapO o M = false) (hs : M.s ≤ 1000000000000) : Calls Tryd.prog 57 #[ptr q, o.val] w (ROp w q ps T (landO o (valO o M) M) L) := by
  obtain ⟨ba, bc, po, pc, hM, hP, hR, hT⟩ := h.dr.ex
  have hpl : M.pr.length < 1099511627776 := by have := h.inv.p; omega
  have one : ∀ {M' : Ma} {e : Ending} {w' : World}, M'.pr = M.pr → OpPost w q (dG ba ps.length bc po pc M' L) e w' → ROp w q ps T M' L e w' := fun {M' e w'} hpr hp => by
    obtain ⟨rfl, h1, h2⟩ := hp
    exact ⟨rfl, T, dr_one hP hR hT h.dr.tq h.dr.tl h1 h2 hpr⟩
  obtain ⟨p, d, a, b, im⟩ := o
  have o1 := ho.op
  have o2 := ho.d
  have o3 := ho.a
  have o4 := ho.b
  simp only at o1 o2 o3 o4
  obtain ⟨nd, rfl⟩ := Int.eq_ofNat_of_zero_le o2.1
  obtain ⟨na, rfl⟩ := Int.eq_ofNat_of_zero_le o3.1
  obtain ⟨nb, rfl⟩ := Int.eq_ofNat_of_zero_le o4.1
  have hd : nd < 32 := by omega
  have ha : na < 32 := by omega
  have hb : nb < 32 := by omega
  by_cases e1 : p = 1
  · subst e1
    have e : landO ⟨1, nd, na, nb, im⟩ (valO ⟨1, nd, na, nb, im⟩ M) M = { M with r := upd M.r nd im } := by simp [landO, valO]
    rw [e]
    exact (rop_one nd na nb im hM hd ha hb).mono fun _ _ h => one rfl h
  · by_cases e15 : p = 15
    · subst e15
      have e : landO ⟨15, nd, na, nb, im⟩ (valO ⟨15, nd, na, nb, im⟩ M) M = { M with r := upd M.r nd (M.m (cellN (M.r na) im)) } := by simp [landO, valO]
      rw [e]
      exact (rop_load nd na nb im hM hd ha hb).mono fun _ _ h => one rfl h
    · by_cases e16 : p = 16
      · subst e16
        have e : landO ⟨16, nd, na, nb, im⟩ (valO ⟨16, nd, na, nb, im⟩ M) M = { M with m := upd M.m (cellN (M.r na) im) (M.r nb) } := by simp [landO, valO]
        rw [e]
        exact (rop_store nd na nb im hM hd ha hb).mono fun _ _ h => one rfl h
      · by_cases e17 : p = 17
        · subst e17
          have e : landO ⟨17, nd, na, nb, im⟩ (valO ⟨17, nd, na, nb, im⟩ M) M = { M with pr := M.pr ++ [M.r na] } := by simp [landO, valO]
          rw [e]
          refine (rop_print nd na nb im hM ha hb hpl hR).mono ?_
          rintro e w' ⟨rfl, g, cap, h1, h2, h3, h4⟩
          have hgT : ∀ k, k < w.heap.size → (T k ∨ k = g) → T k := fun k hk => by
            rintro (h | rfl)
            · exact h
            · rcases h4 with ⟨a, ha, rfl⟩ | h4
              · exact hT a ha
              · omega
          have hF : Fr T w w' := h3.mono fun k _ hk => by
            rcases hk with hk | ⟨a, ha, hk⟩
            · rw [hk]; exact h.dr.tq
            · rw [← hk]; exact hT a ha
          refine ⟨rfl, fun k => T k ∨ k = g, ⟨⟨ba, bc, some ⟨g, 0, none⟩, cap, h1, (hP.grow fun k hk h => h.elim (fun h => .inl (hgT k hk h)) .inr).fr (hF.mono fun _ _ h => .inl (.inl h)), h2, fun a ha => ?_⟩, .inl h.dr.tq, fun k hk => ?_⟩, hF, fun k hk => ?_⟩
          · cases ha; exact .inr rfl
          · rcases hk with hk | rfl
            · exact Nat.lt_of_lt_of_le (h.dr.tl k hk) hF.size
            · exact (h2.lt k rfl).2
          · rcases hk with hk | rfl
            · exact .inl hk
            · rcases h4 with ⟨a, ha, rfl⟩ | h4
              · exact .inl (hT a ha)
              · exact .inr h4
        · have e : landO ⟨p, nd, na, nb, im⟩ (valO ⟨p, nd, na, nb, im⟩ M) M = { M with r := upd M.r nd (rkV p (M.r na) (M.r nb)) } := by simp [landO, valO, e1, e15, e16, e17]
          rw [e]
          have he : rkE p (M.r nb) = 0 := by
            unfold trapO at ht
            simp only [decide_eq_false_iff_not, not_and, Int.toNat_natCast] at ht
            unfold rkE
            by_cases h12 : 2 ≤ p ∧ p ≤ 12
            · rw [if_pos h12]
            · rw [if_neg h12, if_pos (by omega), if_neg (ht (by omega))]
          exact (rop_reck p (by omega) (by omega) nd na nb im hM hd ha hb (h.inv.r na) he).mono fun _ _ h => one rfl h
end Go.Proofs.YtlnfhbkkodhmaaaDoor.Sm
