/- What package parse's reader answers of all lines (program): read off the program by the walk. Conditions: the reader's state lies in memory, the variables as the program lays them. -/
import Derived.Test.YthjpddjfckdefaaGreatDoorBq
namespace Go.Proofs.YthjpddjfckdefaaGreatDoor.Pr
open Go.ChangeShapes Go.WideShapes Go.ChangeAt Go.RowKit
open _root_.Go.Proofs.YthjpddjfckdefaaGreatDoor.Op
set_option maxRecDepth 20000

theorem emit_ne (st : Nat) (cur : List UInt8) : ∀ l ∈ emit st cur, l.ws ≠ [] := by
  intro l hl
  unfold emit at hl
  split at hl
  · simp at hl
  · rename_i h
    rw [List.mem_singleton.1 hl]; exact h
theorem lines_ne : ∀ (s : List UInt8) (st : Nat) (cur : List UInt8), ∀ l ∈ linesS s st cur, l.ws ≠ []
  | [], st, cur, l, hl => emit_ne st cur l hl
  | b :: r, st, cur, l, hl => by
    unfold linesS at hl
    split at hl
    · rcases List.mem_append.1 hl with h | h
      · exact emit_ne _ _ l h
      · exact lines_ne r _ _ l h
    · exact lines_ne r _ _ l hl
theorem Rs.lnes {w : World} {qa qt : Nat} {s : ByteArray} {ls : List Ln} (h : Rs w qa qt s ls) : ∀ l ∈ ls, l.ws ≠ [] := by
  obtain ⟨k, _, _, hl⟩ := h.k
  rw [← hl]; exact lines_ne _ _ _

/-- The blocks that are read. -/
structure Ph (w V : World) (qa qt mb : Nat) (s : ByteArray) (ls : List Ln) (v : Value) (bs : List Bk) (pls : List Pl) : Prop where
  rb : At V w.heap.size #[nextV qa qt, .map (some mb)]
  rr : At V (w.heap.size + 1) #[.slice none 0 0]
  pb : At V (w.heap.size + 1 + 1) #[v]
  row : V.ownsRow (w.heap.size + 3) 43 6 v bs.length (bcells bs pls)
  len : pls.length = bs.length
  ins : ∀ (i : Nat) p x, pls[i]? = some p → bs[i]? = some x → LRow V (w.heap.size + 3) p.oa p.oc x.ops ∧ LRow V (w.heap.size + 3) p.ba p.bc x.body
  rd : Rd V qa qt mb s ls
  fr : Fr (One qa) w V
  mlt : mb < w.heap.size
theorem Ph.go {w V V' : World} {qa qt mb : Nat} {s : ByteArray} {ls : List Ln} {v : Value} {bs : List Bk} {pls : List Pl} (h : Ph w V qa qt mb s ls v bs pls) (hb : Below V.heap.size V V') : Ph w V' qa qt mb s ls v bs pls :=
  ⟨h.rb.below hb h.rb.lt, h.rr.below hb h.rr.lt, h.pb.below hb h.pb.lt, row_below h.row hb, h.len, fun i p x hp hx => ⟨row_below (h.ins i p x hp hx).1 hb, row_below (h.ins i p x hp hx).2 hb⟩, h.rd.up hb, h.fr.then hb, h.mlt⟩
/-- A block more is there. -/
theorem Ph.block {w V V' : World} {qa qt mb : Nat} {s : ByteArray} {ls ls' : List Ln} {v : Value} {bs : List Bk} {pls : List Pl} (h : Ph w V qa qt mb s ls v bs pls) (hF : Fr (One qa) V V') (hd : Rd V' qa qt mb s ls') : Ph w V' qa qt mb s ls' v bs pls :=
  have h3 := h.mlt
  have h4 := h.rd.n3
  ⟨at_fr h.rb hF (by show ¬ _ = _; omega), at_fr h.rr hF (by show ¬ _ = _; omega), at_fr h.pb hF (by show ¬ _ = _; omega), row_old h.row hF (by omega), h.len, fun i p x hp hx => ⟨row_old (h.ins i p x hp hx).1 hF (by omega), row_old (h.ins i p x hp hx).2 hF (by omega)⟩, hd, h.fr.same hF, h.mlt⟩
/-- It is appended. -/
theorem Ph.put {w V V' : World} {qa qt mb : Nat} {s : ByteArray} {ls : List Ln} {v v' : Value} {bs : List Bk} {pls : List Pl} {x : Bk} {p : Pl} {ob : Obj} (h : Ph w V qa qt mb s ls v bs pls) (ho : LRow V (w.heap.size + 3) p.oa p.oc x.ops) (hy : LRow V (w.heap.size + 3) p.ba p.bc x.body)
    (hown : V'.ownsRow (w.heap.size + 3) 43 6 v' (bs.length + 1) (bcells bs pls ++ [.slice p.oa x.ops.length p.oc, .int .i8 x.fin, .int .u8 x.a, .slice p.ba x.body.length p.bc, .int .i64 x.thn, .int .i64 x.els])) (hg : (V.alloc ob).grownBy V' v.ownBlock) :
    At V' w.heap.size #[nextV qa qt, .map (some mb)] ∧ At V' (w.heap.size + 1 + 1) #[v] ∧ Ph w (V'.setCell ⟨w.heap.size + 1 + 1, 0, none⟩ v') qa qt mb s ls v' (bs ++ [x]) (pls ++ [p]) := by
  have h3 := h.mlt
  have h4 := h.rd.n3
  have h5 := h.pb.lt
  have h1 := h.rd.n1
  have h2 := h.rd.n2
  have hb : Below (w.heap.size + 3) V V' := ((Below.refl _ _).alloc (by omega) _).grown hg (by simp; omega) fun b hb => (h.row.lt b hb).1
  have hp := h.pb.below hb (by omega)
  have hF : Fr (fun k => w.heap.size + 3 ≤ k) V V' := ⟨hb.os, hb.tape, hb.output, hb.size, fun k hk hx => hb.block k (by omega)⟩
  have hG : Fr (One (w.heap.size + 1 + 1)) V' (V'.setCell ⟨w.heap.size + 1 + 1, 0, none⟩ v') := (Fr.refl (One (w.heap.size + 1 + 1)) V').setCell (.inr rfl) _ _
  have hrd : Rd V' qa qt mb s ls := ⟨h.rd.rs.fr hF (by omega) (by omega), h.rd.m.block (hF.block _ h.rd.m.lt (by omega)), h.rd.v.fr hF (fun k hk => by omega), h1, h2, h4⟩
  have far : ∀ {a : Option Addr} {c : Nat} {xs : List O}, LRow V (w.heap.size + 3) a c xs → LRow (V'.setCell ⟨w.heap.size + 1 + 1, 0, none⟩ v') (w.heap.size + 3) a c xs := fun hl => row_set (row_far (World.ownsRow.alloc hl ob) (h.row.alloc ob) (by decide) hg) (by omega) _
  refine ⟨h.rb.below hb (by omega), hp, ⟨at_fr (h.rb.below hb (by omega)) hG (by show ¬ _ = _; omega), at_fr (h.rr.below hb (by omega)) hG (by show ¬ _ = _; omega), at_set hp (j := 0) (by simp) _, ?_, by simp [h.len], ?_, hrd.far hG (by omega), (h.fr.trans hF (fun k hk hy => by omega)).new hG (by omega), h.mlt⟩⟩
  · rw [bcells_snoc _ _ _ _ h.len.symm, List.length_append]
    exact row_set hown (by omega) _
  · intro i p' x' hp' hx'
    rcases Nat.lt_or_ge i bs.length with hlt | hge
    · rw [List.getElem?_append_left (by rw [h.len]; exact hlt)] at hp'
      rw [List.getElem?_append_left hlt] at hx'
      obtain ⟨i1, i2⟩ := h.ins i p' x' hp' hx'
      exact ⟨far i1, far i2⟩
    · have hi : i = bs.length := by
        rcases Nat.lt_or_ge bs.length i with h' | h'
        · rw [List.getElem?_eq_none (by simp; omega)] at hx'; cases hx'
        · omega
      subst hi
      rw [← h.len, List.getElem?_append_right (Nat.le_refl _)] at hp'
      rw [List.getElem?_append_right (Nat.le_refl _)] at hx'
      simp at hp' hx'
      subst hp' hx'
      exact ⟨far ho, far hy⟩
/-- The blocks that are read, and the line that comes. -/
structure Pg (w V : World) (qa qt mb : Nat) (s : ByteArray) (lsx : List Ln) (v : Value) (bs : List Bk) (pls : List Pl) (q : Nat) : Prop where
  h : Ph w V qa qt mb s lsx.tail v bs pls
  l : LIn V q (nextL s.size lsx)
  lq : w.heap.size + 3 ≤ q
  rq : ∀ g, v.ownBlock = some g → g < q
  iq : ∀ (i : Nat) p x, pls[i]? = some p → bs[i]? = some x → (∀ g, (Value.slice p.oa x.ops.length p.oc).ownBlock = some g → g < q) ∧ (∀ g, (Value.slice p.ba x.body.length p.bc).ownBlock = some g → g < q)
theorem Ph.next {w V V' : World} {qa qt mb : Nat} {s : ByteArray} {lsx : List Ln} {v : Value} {bs : List Bk} {pls : List Pl} {q : Nat} (h : Ph w V qa qt mb s lsx v bs pls) (hF : Fr (One qa) V V') (hL : LIn V' q (nextL s.size lsx)) (hR : Rs V' qa qt s lsx.tail) (hq : V.heap.size ≤ q) : Pg w V' qa qt mb s lsx v bs pls q :=
  have h5 := h.pb.lt
  ⟨h.block hF (h.rd.next hF hR), hL, by omega, fun g hg => by have := (h.row.lt g hg).2; omega, fun i p x hp hx => ⟨fun g hg => by have := ((h.ins i p x hp hx).1.lt g hg).2; omega, fun g hg => by have := ((h.ins i p x hp hx).2.lt g hg).2; omega⟩⟩
theorem Pg.fin {w V V' : World} {qa qt mb : Nat} {s : ByteArray} {lsx : List Ln} {v : Value} {bs : List Bk} {pls : List Pl} {q : Nat} (h : Pg w V qa qt mb s lsx v bs pls q) (hF : Fr (One q) V V') : Ph w V' qa qt mb s lsx.tail v bs pls :=
  have h1 := h.lq
  have h3 := h.h.mlt
  ⟨at_fr h.h.rb hF (by show ¬ _ = _; omega), at_fr h.h.rr hF (by show ¬ _ = _; omega), at_fr h.h.pb hF (by show ¬ _ = _; omega), row_fr h.h.row hF (fun g hg e => by have := h.rq g hg; subst e; omega), h.h.len, fun i p x hp hx => ⟨row_fr (h.h.ins i p x hp hx).1 hF (fun g hg e => by have := (h.iq i p x hp hx).1 g hg; subst e; omega), row_fr (h.h.ins i p x hp hx).2 hF (fun g hg e => by have := (h.iq i p x hp hx).2 g hg; subst e; omega)⟩, h.h.rd.far hF (by omega), h.h.fr.new hF (by omega), h.h.mlt⟩
theorem Ph.r2 {w V : World} {qa qt mb : Nat} {s : ByteArray} {ls : List Ln} {v : Value} {bs : List Bk} {pls : List Pl} (h : Ph w V qa qt mb s ls v bs pls) : V.cell? ⟨w.heap.size, 0, none⟩ = some (.func (.func 38) #[] #[.pointer (some ⟨qa, 0, none⟩), .pointer (some ⟨qt, 0, none⟩)]) ∧ V.cell? ⟨w.heap.size, 1, none⟩ = some (.map (some mb)) ∧ V.cell? ⟨w.heap.size + 1 + 1, 0, none⟩ = some v := ⟨h.rb.c 0 _ rfl, h.rb.c 1 _ rfl, h.pb.c 0 _ rfl⟩
theorem Ph.start {w : World} {qa qt mb : Nat} {s : ByteArray} {ls : List Ln} (h : Rd w qa qt mb s ls) (t t' t'' : TypeId) : Ph w (((w.alloc (.cells #[nextV qa qt, .map (some mb)] t)).alloc (.cells #[.slice none 0 0] t')).alloc (.cells #[.slice none 0 0] t'')) qa qt mb s ls (.slice none 0 0) [] [] := by
  have b0 : Below w.heap.size w (((w.alloc (.cells #[nextV qa qt, .map (some mb)] t)).alloc (.cells #[.slice none 0 0] t')).alloc (.cells #[.slice none 0 0] t'')) := by go_grown
  have a1 := At.new w #[nextV qa qt, .map (some mb)] t
  have a2 := At.new (w.alloc (.cells #[nextV qa qt, .map (some mb)] t)) #[.slice none 0 0] t'
  have a3 := At.new ((w.alloc (.cells #[nextV qa qt, .map (some mb)] t)).alloc (.cells #[.slice none 0 0] t')) #[.slice none 0 0] t''
  rw [World.size_alloc] at a2 a3
  rw [World.size_alloc] at a3
  exact ⟨(a1.alloc _).alloc _, a2.alloc _, a3, World.ownsRow_nil _ _ _ _, rfl, fun i p x hp => by simp at hp, h.up b0, Fr.of b0, h.m.lt⟩

abbrev NexC (qa qt : Nat) (s : ByteArray) (ls : List Ln) : Prop := ∀ W, Rs W qa qt s ls → Vars W → Calls Tryz.prog 38 #[.pointer (some ⟨qa, 0, none⟩), .pointer (some ⟨qt, 0, none⟩)] W fun e w' => ∃ q, e = .returned (.pointer (some ⟨q, 0, none⟩)) ∧ LIn w' q (nextL s.size ls) ∧ Rs w' qa qt s ls.tail ∧ W.heap.size ≤ q ∧ Fr (One qa) W w'
/-- What the reader of all lines answers. -/
def PgPost (w : World) (qa : Nat) (bs : List Bk) (e : Ending) (w' : World) : Prop :=
  ∃ a c pls, e = .returned (.agg #[.slice a bs.length c]) ∧ pls.length = bs.length ∧ w'.ownsRow w.heap.size 43 6 (.slice a bs.length c) bs.length (bcells bs pls) ∧ (∀ (i : Nat) p x, pls[i]? = some p → bs[i]? = some x → LRow w' w.heap.size p.oa p.oc x.ops ∧ LRow w' w.heap.size p.ba p.bc x.body) ∧ Fr (One qa) w w'

set_option maxHeartbeats 4000000 in
theorem program_any (qa qt mb : Nat) (s : ByteArray) (ls : List Ln) (w : World) (h : Rd w qa qt mb s ls) :
    Calls Tryz.prog 31 #[rdV qa qt mb] w (Does (One qa) (progR s.size (ls.length + 1) 0 ls) (PgPost w qa) w) := by
  have HP0 : Hid _ := Ph.start h 80 24 24
  have HN0 : Hid (NexC qa qt s ls) := fun W h1 h2 => next_any qa qt s ls W h1 h2 h.n1
  have hqa : 7 ≤ qa := h.n1
  have hlen : ls.length ≤ 65537 := h.rs.len
  clear h
  unfold rdV nextV
  unfold nextV at HP0
  generalize hRES : progR s.size (ls.length + 1) 0 ls = RES
  have HRES : Hid (progR s.size (ls.length + 1) 0 ls = RES) := hRES
  clear hRES
  go_enter Tryz.func31, Tryz.ntmps31
  go_wp2_with (first
    | (go_at_call 38; refine Calls.mono (HN0.out _ HP0.out.rd.rs HP0.out.rd.v) ?_; rintro e w1 ⟨q, rfl, hL, hR, hq, hF⟩; have HG : Hid _ := HP0.out.next hF hL hR hq; clear hL hR hq hF HP0 HN0))
  go_loopw [4] (fun v4 wr => ∃ q lsx v bs pls fuel, v4 = .pointer (some ⟨q, 0, none⟩) ∧ Pg w wr qa qt mb s lsx v bs pls q ∧ lsx.length < fuel ∧ bs.length + lsx.length ≤ 65537 ∧ Hid (RES = (progR s.size fuel bs.length lsx).bind fun ys => .ok (bs ++ ys))) (fun _ wr => left wr qa s)
  case atStart => exact ⟨q, ls, _, [], [], ls.length + 1, rfl, HG.out, by omega, by simpa using hlen, (by simp only [List.length_nil, List.nil_append]; rw [HRES.out]; cases RES <;> rfl : _ = _)⟩
  case round =>
    rename World => wr
    clear HG
    obtain ⟨q, lsx, v, bs, pls, fuel, rfl, hg, hfu, hbl, HE⟩ := hrel
    have HG : Hid _ := hg
    have hq9 : 7 ≤ q := by have := hg.lq; have := hg.h.rd.n1; have := hg.h.rd.n3; have := hg.h.mlt; omega
    obtain ⟨g0, g1, g2⟩ := hg.h.r2
    have hv : ∃ a c, v = .slice a bs.length c := by
      rcases hg.h.row.2 with ⟨rfl, h0⟩ | ⟨g, cap, cur, rfl, _⟩
      · exact ⟨none, 0, by rw [h0]⟩
      · exact ⟨_, _, rfl⟩
    obtain ⟨va, vc, rfl⟩ := hv
    have hh := blockLine_any q (nextL s.size lsx) bs.length wr hg.l hg.h.rd.v hq9 (by omega)
    obtain ⟨fuel, rfl⟩ : ∃ k, fuel = k + 1 := ⟨fuel - 1, by omega⟩
    clear hg
    cases e1 : headR bs.length (nextL s.size lsx) with
    | no fl =>
      rw [e1] at hh
      have H1 : Hid (Calls Tryz.prog 41 #[.pointer (some ⟨q, 0, none⟩), .int .i64 bs.length] wr fun e w' => Pan (One q) fl wr e w') := hh
      have HE2 : Hid (RES = .no fl) := by
        have := HE.out
        rw [progR, e1] at this
        exact this
      clear hh e1 HE
      go_wp2_with (first
        | (go_at_call 41; refine Calls.mono H1.out ?_; rintro e wp hp; have HP : Hid _ := hp.after HG.out.h.fr (fun k hk hy => by have := HG.out.lq; subst hy; omega); obtain ⟨fq, rfl, hp⟩ := hp; clear hp))
      rw [HE2.out]
      exact ⟨rfl, HP.out⟩
    | ok u =>
      rw [e1] at hh
      have H1 : Hid (Calls Tryz.prog 41 #[.pointer (some ⟨q, 0, none⟩), .int .i64 bs.length] wr fun e w' => e = .returned (.tuple #[]) ∧ Fr (One q) wr w') := hh
      have hB : ∀ W, Rd W qa qt mb s lsx.tail → Calls Tryz.prog 42 #[rdV qa qt mb] W (Does (One qa) (blockR s.size lsx.tail) (BlPost W qa qt mb s) W) := fun W hr => block_any qa qt mb s lsx.tail W hr
      unfold rdV nextV at hB
      clear hh
      cases e2 : blockR s.size lsx.tail with
      | no fl =>
        rw [e2] at hB
        have HB : Hid (∀ W, Rd W qa qt mb s lsx.tail → Calls Tryz.prog 42 #[.agg #[.func (.func 38) #[] #[.pointer (some ⟨qa, 0, none⟩), .pointer (some ⟨qt, 0, none⟩)], .map (some mb)]] W fun e w' => Pan (One qa) fl W e w') := hB
        have HE2 : Hid (RES = .no fl) := by
          have := HE.out
          rw [progR, e1, R.bind_ok, e2] at this
          exact this
        clear hB e1 e2 HE
        go_wp2_with (first
          | (go_at_call 41; refine Calls.mono H1.out ?_; rintro e w2 ⟨rfl, hF⟩; have HH : Hid _ := HG.out.fin hF; clear hF HG g0 g1 g2 H1; obtain ⟨g0, g1, g2⟩ := HH.out.r2))
        refine wp_region_held_drew (S := fun w' => w'.cell? ⟨w.heap.size, 0, none⟩ = some (.func (.func 38) #[] #[.pointer (some ⟨qa, 0, none⟩), .pointer (some ⟨qt, 0, none⟩)]) ∧ w'.cell? ⟨w.heap.size, 1, none⟩ = some (.map (some mb)) ∧ w'.cell? ⟨w.heap.size + 1 + 1, 0, none⟩ = some (.slice va bs.length vc)) (by kernel_rfl) ⟨g0, g1, g2⟩ (fun hHeld => ?_)
        refine wpAnyH_take (i := 0) (v := .pointer (some ⟨w.heap.size + 1 + 1, 0, none⟩)) rfl (by kernel_rfl) (by kernel_rfl) (by kernel_rfl) (fun _ _ _ h => h) (Or.inl ⟨by rfl, fun w hSw => by go_simp⟩) hHeld ?_
        simp only [Act.put, List.setIfInBounds_toArray, List.set_cons_zero, List.set_cons_succ, List.getElem_cons_zero, List.getElem_toArray]
        refine wpAnyH_take (i := 1) (v := .slice va bs.length vc) rfl (by kernel_rfl) (by kernel_rfl) (by kernel_rfl) (fun _ _ _ h => h) (Or.inl ⟨by rfl, fun w hSw => by (obtain ⟨h0, h1, h2⟩ := hSw; go_simp)⟩) hHeld ?_
        simp only [Act.put, List.setIfInBounds_toArray, List.set_cons_zero, List.set_cons_succ, List.getElem_cons_zero, List.getElem_cons_succ, List.getElem_toArray]
        refine wpAnyH_take (i := 2) (v := .agg #[.func (.func 38) #[] #[.pointer (some ⟨qa, 0, none⟩), .pointer (some ⟨qt, 0, none⟩)], .map (some mb)]) rfl (by kernel_rfl) (by kernel_rfl) (by kernel_rfl) (fun _ _ _ h => h) (Or.inl ⟨by rfl, fun w hSw => by (obtain ⟨h0, h1, h2⟩ := hSw; go_simp)⟩) hHeld ?_
        simp only [Act.put, List.setIfInBounds_toArray, List.set_cons_zero, List.set_cons_succ, List.getElem_cons_zero, List.getElem_cons_succ, List.getElem_toArray]
        refine wpAnyH_ready (rs := [3]) (by kernel_rfl) (by simp) ?_
        refine AllReadyH.cons rfl (fun K hK => ?_) AllReadyH.nil
        go_simp
        refine Calls.mono (HB.out _ (HH.out.rd.up (w' := w2.drew) ⟨rfl, rfl, rfl, Nat.le_refl _, fun _ _ => rfl⟩)) ?_
        rintro e wp hp
        have HP : Hid _ := hp.after (w := w) (X := One qa) (HH.out.fr.then (c := w2.drew) ⟨rfl, rfl, rfl, Nat.le_refl _, fun _ _ => rfl⟩) (fun _ _ hk => hk)
        obtain ⟨fq, rfl, hp⟩ := hp
        clear hp
        go_wp2
        rw [HE2.out]
        exact ⟨rfl, HP.out⟩
      | ok y =>
        obtain ⟨x, ls2⟩ := y
        rw [e2] at hB
        have HB : Hid (∀ W, Rd W qa qt mb s lsx.tail → Calls Tryz.prog 42 #[.agg #[.func (.func 38) #[] #[.pointer (some ⟨qa, 0, none⟩), .pointer (some ⟨qt, 0, none⟩)], .map (some mb)]] W (BlPost W qa qt mb s (x, ls2))) := hB
        have he2 : RES = (match ls2 with | [] => R.ok [x] | l :: r => (progR s.size fuel (bs.length + 1) (l :: r)).bind fun y => R.ok (x :: y)).bind fun ys => R.ok (bs ++ ys) := by
          have := HE.out
          rw [progR, e1, R.bind_ok, e2, R.bind_ok] at this
          exact this
        have HE2 : Hid _ := he2
        have hl2 : ls2.length ≤ lsx.tail.length := (blockR_ok e2).2.2.2
        clear hB e1 e2 HE he2
        obtain ⟨i0, hi, hi2⟩ := Option.map_eq_some_iff.1 info43
        simp only [Prod.mk.injEq] at hi2
        obtain ⟨hz0, hz1, hz2⟩ := hi2
        have HI : Hid (Tryz.prog.info? 43 = some i0 ∧ i0.zero = some (.agg #[.slice none 0 0, .int .i8 0, .int .u8 0, .slice none 0 0, .int .i64 0, .int .i64 0]) ∧ i0.size = 6 ∧ i0.bytes = 72) := ⟨hi, hz0, hz1, hz2⟩
        clear hi hz0 hz1 hz2
        go_wp2_with (first
          | (go_at_call 41; refine Calls.mono H1.out ?_; rintro e w2 ⟨rfl, hF⟩; have HH : Hid _ := HG.out.fin hF; clear hF g0 g1 g2 H1; obtain ⟨g0, g1, g2⟩ := HH.out.r2))
        go_cut [4] (fun v4 wc => v4 = .pointer (some ⟨q, 0, none⟩) ∧ ∃ v' pls', Ph w wc qa qt mb s ls2 v' (bs ++ [x]) pls')
        case first =>
          refine wp_region_held_drew (S := fun w' => w'.cell? ⟨w.heap.size, 0, none⟩ = some (.func (.func 38) #[] #[.pointer (some ⟨qa, 0, none⟩), .pointer (some ⟨qt, 0, none⟩)]) ∧ w'.cell? ⟨w.heap.size, 1, none⟩ = some (.map (some mb))) (by kernel_rfl) ⟨g0, g1⟩ (fun hHeld => ?_)
          refine wpAnyH_take (i := 0) (v := .pointer (some ⟨w.heap.size + 1 + 1, 0, none⟩)) rfl (by kernel_rfl) (by kernel_rfl) (by kernel_rfl) (fun _ _ _ h => h) (Or.inl ⟨by rfl, fun w hSw => by go_simp⟩) hHeld ?_
          simp only [Act.put, List.setIfInBounds_toArray, List.set_cons_zero, List.set_cons_succ, List.getElem_cons_zero, List.getElem_toArray]
          refine wpAnyH_take (i := 2) (v := .agg #[.func (.func 38) #[] #[.pointer (some ⟨qa, 0, none⟩), .pointer (some ⟨qt, 0, none⟩)], .map (some mb)]) rfl (by kernel_rfl) (by kernel_rfl) (by kernel_rfl) (fun _ _ _ h => h) (Or.inl ⟨by rfl, fun w hSw => by (obtain ⟨h0, h1⟩ := hSw; go_simp)⟩) hHeld ?_
          simp only [Act.put, List.setIfInBounds_toArray, List.set_cons_zero, List.set_cons_succ, List.getElem_cons_zero, List.getElem_cons_succ, List.getElem_toArray]
          refine wpAnyH_ready (rs := [1, 3]) (by kernel_rfl) (by simp) ?_
          refine AllReadyH.cons rfl (fun K hK => ?_) (AllReadyH.cons rfl (fun K hK => ?_) AllReadyH.nil)
          · go_simp
            refine hK.out _ _ ⟨g0, g1⟩ (fun hHeld => ?_)
            clear hK
            refine wpAnyH_ready (rs := [3]) (by kernel_rfl) (by simp) ?_
            refine AllReadyH.cons rfl (fun K hK => ?_) AllReadyH.nil
            go_simp
            refine Calls.mono (HB.out _ (HH.out.rd.up (w' := w2.drew) ⟨rfl, rfl, rfl, Nat.le_refl _, fun _ _ => rfl⟩)) ?_
            rintro e w3 ⟨p, rfl, hro, hry, hrd, hF⟩
            have HH2 : Hid _ := (HH.out.go (V' := w2.drew) ⟨rfl, rfl, rfl, Nat.le_refl _, fun _ _ => rfl⟩).block hF hrd
            have HRO : Hid (LRow w3 (w.heap.size + 3) p.oa p.oc x.ops ∧ LRow w3 (w.heap.size + 3) p.ba p.bc x.body) := ⟨row_le hro (by have := HH.out.pb.lt; show _ ≤ w2.heap.size; omega), row_le hry (by have := HH.out.pb.lt; show _ ≤ w2.heap.size; omega)⟩
            obtain ⟨k0, k1, g3⟩ := HH2.out.r2
            have hz3 := HH2.out.pb.lt
            clear hro hry hrd hF
            refine hK.out _ _ ⟨k0, k1⟩ (fun hHeld => ?_)
            clear hK
            refine wpAnyH_ready (rs := [4]) (by kernel_rfl) (by simp) ?_
            refine AllReadyH.cons rfl (fun K hK => ?_) AllReadyH.nil
            go_simp
            refine hK.out _ _ ⟨(HH2.out.rb.alloc _).c 0 _ rfl, (HH2.out.rb.alloc _).c 1 _ rfl⟩ (fun hHeld => ?_)
            clear hK
            refine wpAnyH_ready (rs := [5]) (by kernel_rfl) (by simp) ?_
            refine AllReadyH.cons rfl (fun K hK => ?_) AllReadyH.nil
            refine step_append_lies _ (by rfl) (.tmp 14) (.tmp 17) 22 (by rfl) (w.heap.size + 3) 43 i0 (.agg #[.slice none 0 0, .int .i8 0, .int .u8 0, .slice none 0 0, .int .i64 0, .int .i64 0]) 6 72 Tryz.underlying22 HI.out.1 HI.out.2.1 HI.out.2.2.1 HI.out.2.2.2 rfl (by decide) (.slice va bs.length vc) bs.length (bcells bs pls) (by rfl) (HH2.out.row.alloc _) ⟨w3.heap.size, 0, none⟩ 1 1 [.slice p.oa x.ops.length p.oc, .int .i8 x.fin, .int .u8 x.a, .slice p.ba x.body.length p.bc, .int .i64 x.thn, .int .i64 x.els] (by rfl) rfl (World.news_of_block (heap_alloc_new w3 _)) (by simp [Value.oneCell']) (by decide) (by unfold maxLen; omega) (by omega) (by simp; omega) (w3.heap.size + 1) (by simp) ?_
            intro g cap w4 hown4 hgrow4 hat4 hlt4
            obtain ⟨hb4, hp4, hph4⟩ := HH2.out.put HRO.out.1 HRO.out.2 hown4 hgrow4
            have HH4 : Hid _ := hph4
            have g4 := hp4.c 0 _ rfl
            have f4 := hp4.f 0
            have hz4 := hp4.lt
            refine hK.out _ _ ⟨hb4.c 0 _ rfl, hb4.c 1 _ rfl⟩ (fun hHeld => ?_)
            clear hK hown4 hgrow4 hat4 hlt4 hb4 hp4 hph4
            simp only [Act.put, List.setIfInBounds_toArray, List.set_cons_zero, List.set_cons_succ, List.getElem_cons_zero, List.getElem_cons_succ, List.getElem_toArray]
            refine wpAnyH_take (i := 6) (v := .pointer (some ⟨w.heap.size + 1 + 1, 0, none⟩)) rfl (by kernel_rfl) (by kernel_rfl) (by kernel_rfl) (fun _ _ _ h => h) (Or.inl ⟨by rfl, fun w hSw => by go_simp⟩) hHeld ?_
            simp only [Act.put, List.setIfInBounds_toArray, List.set_cons_zero, List.set_cons_succ, List.getElem_cons_zero, List.getElem_cons_succ, List.getElem_toArray]
            refine wpAnyH_ready (rs := [7]) (by kernel_rfl) (by simp) ?_
            refine AllReadyH.cons rfl (fun K hK => ?_) AllReadyH.nil
            go_simp
            refine hK.out _ _ ⟨HH4.out.rb.c 0 _ rfl, HH4.out.rb.c 1 _ rfl⟩ (fun hHeld => ?_)
            clear hK
            refine wpAnyH_done (by kernel_rfl) ?_ _
            go_wp2
            go_meet
            exact ⟨rfl, _, _, HH4.out⟩
          · go_simp
            refine Calls.mono (HB.out _ (HH.out.rd.up (w' := w2.drew) ⟨rfl, rfl, rfl, Nat.le_refl _, fun _ _ => rfl⟩)) ?_
            rintro e w3 ⟨p, rfl, hro, hry, hrd, hF⟩
            have HH2 : Hid _ := (HH.out.go (V' := w2.drew) ⟨rfl, rfl, rfl, Nat.le_refl _, fun _ _ => rfl⟩).block hF hrd
            have HRO : Hid (LRow w3 (w.heap.size + 3) p.oa p.oc x.ops ∧ LRow w3 (w.heap.size + 3) p.ba p.bc x.body) := ⟨row_le hro (by have := HH.out.pb.lt; show _ ≤ w2.heap.size; omega), row_le hry (by have := HH.out.pb.lt; show _ ≤ w2.heap.size; omega)⟩
            obtain ⟨k0, k1, g3⟩ := HH2.out.r2
            have hz3 := HH2.out.pb.lt
            clear hro hry hrd hF
            refine hK.out _ _ ⟨k0, k1⟩ (fun hHeld => ?_)
            clear hK
            have g3' := fun o => (HH2.out.pb.alloc o).c 0 _ rfl
            refine wpAnyH_ready (rs := [1, 4]) (by kernel_rfl) (by simp) ?_
            refine AllReadyH.cons rfl (fun K hK => ?_) (AllReadyH.cons rfl (fun K hK => ?_) AllReadyH.nil)
            · go_simp
              refine hK.out _ _ ⟨k0, k1⟩ (fun hHeld => ?_)
              clear hK
              refine wpAnyH_ready (rs := [4]) (by kernel_rfl) (by simp) ?_
              refine AllReadyH.cons rfl (fun K hK => ?_) AllReadyH.nil
              go_simp
              refine hK.out _ _ ⟨(HH2.out.rb.alloc _).c 0 _ rfl, (HH2.out.rb.alloc _).c 1 _ rfl⟩ (fun hHeld => ?_)
              clear hK
              refine wpAnyH_ready (rs := [5]) (by kernel_rfl) (by simp) ?_
              refine AllReadyH.cons rfl (fun K hK => ?_) AllReadyH.nil
              refine step_append_lies _ (by rfl) (.tmp 14) (.tmp 17) 22 (by rfl) (w.heap.size + 3) 43 i0 (.agg #[.slice none 0 0, .int .i8 0, .int .u8 0, .slice none 0 0, .int .i64 0, .int .i64 0]) 6 72 Tryz.underlying22 HI.out.1 HI.out.2.1 HI.out.2.2.1 HI.out.2.2.2 rfl (by decide) (.slice va bs.length vc) bs.length (bcells bs pls) (by rfl) (HH2.out.row.alloc _) ⟨w3.heap.size, 0, none⟩ 1 1 [.slice p.oa x.ops.length p.oc, .int .i8 x.fin, .int .u8 x.a, .slice p.ba x.body.length p.bc, .int .i64 x.thn, .int .i64 x.els] (by rfl) rfl (World.news_of_block (heap_alloc_new w3 _)) (by simp [Value.oneCell']) (by decide) (by unfold maxLen; omega) (by omega) (by simp; omega) (w3.heap.size + 1) (by simp) ?_
              intro g cap w4 hown4 hgrow4 hat4 hlt4
              obtain ⟨hb4, hp4, hph4⟩ := HH2.out.put HRO.out.1 HRO.out.2 hown4 hgrow4
              have HH4 : Hid _ := hph4
              have g4 := hp4.c 0 _ rfl
              have f4 := hp4.f 0
              have hz4 := hp4.lt
              refine hK.out _ _ ⟨hb4.c 0 _ rfl, hb4.c 1 _ rfl⟩ (fun hHeld => ?_)
              clear hK hown4 hgrow4 hat4 hlt4 hb4 hp4 hph4
              simp only [Act.put, List.setIfInBounds_toArray, List.set_cons_zero, List.set_cons_succ, List.getElem_cons_zero, List.getElem_cons_succ, List.getElem_toArray]
              refine wpAnyH_take (i := 6) (v := .pointer (some ⟨w.heap.size + 1 + 1, 0, none⟩)) rfl (by kernel_rfl) (by kernel_rfl) (by kernel_rfl) (fun _ _ _ h => h) (Or.inl ⟨by rfl, fun w hSw => by go_simp⟩) hHeld ?_
              simp only [Act.put, List.setIfInBounds_toArray, List.set_cons_zero, List.set_cons_succ, List.getElem_cons_zero, List.getElem_cons_succ, List.getElem_toArray]
              refine wpAnyH_ready (rs := [7]) (by kernel_rfl) (by simp) ?_
              refine AllReadyH.cons rfl (fun K hK => ?_) AllReadyH.nil
              go_simp
              refine hK.out _ _ ⟨HH4.out.rb.c 0 _ rfl, HH4.out.rb.c 1 _ rfl⟩ (fun hHeld => ?_)
              clear hK
              refine wpAnyH_done (by kernel_rfl) ?_ _
              go_wp2
              go_meet
              exact ⟨rfl, _, _, HH4.out⟩
            · go_simp
              refine hK.out _ _ ⟨(HH2.out.rb.alloc _).c 0 _ rfl, (HH2.out.rb.alloc _).c 1 _ rfl⟩ (fun hHeld => ?_)
              clear hK
              refine wpAnyH_ready (rs := [1]) (by kernel_rfl) (by simp) ?_
              refine AllReadyH.cons rfl (fun K hK => ?_) AllReadyH.nil
              go_simp
              refine hK.out _ _ ⟨(HH2.out.rb.alloc _).c 0 _ rfl, (HH2.out.rb.alloc _).c 1 _ rfl⟩ (fun hHeld => ?_)
              clear hK
              refine wpAnyH_ready (rs := [5]) (by kernel_rfl) (by simp) ?_
              refine AllReadyH.cons rfl (fun K hK => ?_) AllReadyH.nil
              refine step_append_lies _ (by rfl) (.tmp 14) (.tmp 17) 22 (by rfl) (w.heap.size + 3) 43 i0 (.agg #[.slice none 0 0, .int .i8 0, .int .u8 0, .slice none 0 0, .int .i64 0, .int .i64 0]) 6 72 Tryz.underlying22 HI.out.1 HI.out.2.1 HI.out.2.2.1 HI.out.2.2.2 rfl (by decide) (.slice va bs.length vc) bs.length (bcells bs pls) (by rfl) (HH2.out.row.alloc _) ⟨w3.heap.size, 0, none⟩ 1 1 [.slice p.oa x.ops.length p.oc, .int .i8 x.fin, .int .u8 x.a, .slice p.ba x.body.length p.bc, .int .i64 x.thn, .int .i64 x.els] (by rfl) rfl (World.news_of_block (heap_alloc_new w3 _)) (by simp [Value.oneCell']) (by decide) (by unfold maxLen; omega) (by omega) (by simp; omega) (w3.heap.size + 1) (by simp) ?_
              intro g cap w4 hown4 hgrow4 hat4 hlt4
              obtain ⟨hb4, hp4, hph4⟩ := HH2.out.put HRO.out.1 HRO.out.2 hown4 hgrow4
              have HH4 : Hid _ := hph4
              have g4 := hp4.c 0 _ rfl
              have f4 := hp4.f 0
              have hz4 := hp4.lt
              refine hK.out _ _ ⟨hb4.c 0 _ rfl, hb4.c 1 _ rfl⟩ (fun hHeld => ?_)
              clear hK hown4 hgrow4 hat4 hlt4 hb4 hp4 hph4
              simp only [Act.put, List.setIfInBounds_toArray, List.set_cons_zero, List.set_cons_succ, List.getElem_cons_zero, List.getElem_cons_succ, List.getElem_toArray]
              refine wpAnyH_take (i := 6) (v := .pointer (some ⟨w.heap.size + 1 + 1, 0, none⟩)) rfl (by kernel_rfl) (by kernel_rfl) (by kernel_rfl) (fun _ _ _ h => h) (Or.inl ⟨by rfl, fun w hSw => by go_simp⟩) hHeld ?_
              simp only [Act.put, List.setIfInBounds_toArray, List.set_cons_zero, List.set_cons_succ, List.getElem_cons_zero, List.getElem_cons_succ, List.getElem_toArray]
              refine wpAnyH_ready (rs := [7]) (by kernel_rfl) (by simp) ?_
              refine AllReadyH.cons rfl (fun K hK => ?_) AllReadyH.nil
              go_simp
              refine hK.out _ _ ⟨HH4.out.rb.c 0 _ rfl, HH4.out.rb.c 1 _ rfl⟩ (fun hHeld => ?_)
              clear hK
              refine wpAnyH_done (by kernel_rfl) ?_ _
              go_wp2
              go_meet
              exact ⟨rfl, _, _, HH4.out⟩
        case rest =>
          obtain ⟨rfl, v', pls', hph⟩ := hcut
          obtain ⟨va', vc', rfl⟩ : ∃ a c, v' = .slice a (bs ++ [x]).length c := by
            rcases hph.row.2 with ⟨rfl, h0⟩ | ⟨g, cap, cur, rfl, _⟩
            · exact ⟨none, 0, by rw [h0]⟩
            · exact ⟨_, _, rfl⟩
          have HH5 : Hid _ := hph
          have HN5 : Hid (NexC qa qt s ls2) := fun W h1 h2 => next_any qa qt s ls2 W h1 h2 hqa
          have HW5 : Hid (∀ l ∈ ls2, l.ws ≠ []) := hph.rd.rs.lnes
          clear hph HH HB HI g0 g1 g2
          obtain ⟨g0, g1, g2⟩ := HH5.out.r2
          cases ls2 with
          | nil =>
            have HY : Hid (∀ q W, LIn W q ⟨[], s.size⟩ → Calls Tryz.prog 43 #[.pointer (some ⟨q, 0, none⟩)] W fun e w' => e = .returned (.bool true) ∧ w' = W) := fun q W hl => isEmpty_any q ⟨[], s.size⟩ W hl
            go_wp2_with (first
              | (go_at_call 38; refine Calls.mono (HN5.out _ HH5.out.rd.rs HH5.out.rd.v) ?_; rintro e w6 ⟨q6, rfl, hL, hR, hq, hF⟩; have HG6 : Hid _ := HH5.out.next hF hL hR hq; clear hL hR hq hF g0 g1 g2; obtain ⟨g0, g1, g2⟩ := HG6.out.h.r2; have r0 := HG6.out.h.rr.c 0 _ rfl; have rf := HG6.out.h.rr.f 0)
              | (go_at_call 43; refine Calls.mono (HY.out q6 _ HG6.out.l) ?_; rintro e w' ⟨rfl, hw⟩; subst w'))
            refine bodyPost_ret (v := .agg #[.slice va' (bs ++ [x]).length vc']) (by simp [results, Tryz.results31, go_sem, r0]) rfl ?_
            rw [HE2.out]
            have hh := HG6.out.h
            exact ⟨va', vc', pls', rfl, hh.len, row_le (row_set hh.row (by omega) _) (by omega), fun i p x' hp hx => ⟨row_le (row_set (hh.ins i p x' hp hx).1 (by omega) _) (by omega), row_le (row_set (hh.ins i p x' hp hx).2 (by omega) _) (by omega)⟩, hh.fr.setCell (.inl (Nat.le_succ _)) _ _⟩
          | cons l r =>
            have hlw : l.ws ≠ [] := HW5.out l (List.mem_cons_self ..)
            have HY : Hid (∀ q W, LIn W q l → Calls Tryz.prog 43 #[.pointer (some ⟨q, 0, none⟩)] W fun e w' => e = .returned (.bool false) ∧ w' = W) := fun q W hl => by
              have := isEmpty_any q l W hl
              rw [show l.ws.isEmpty = false by simpa using hlw] at this
              exact this
            go_wp2_with (first
              | (go_at_call 38; refine Calls.mono (HN5.out _ HH5.out.rd.rs HH5.out.rd.v) ?_; rintro e w6 ⟨q6, rfl, hL, hR, hq, hF⟩; have HG6 : Hid _ := HH5.out.next hF hL hR hq; clear hL hR hq hF g0 g1 g2)
              | (go_at_call 43; refine Calls.mono (HY.out q6 _ HG6.out.l) ?_; rintro e w' ⟨rfl, hw⟩; subst w'))
            have h1 := left_of HG6.out.h.rd.rs
            have h2 := left_of HG.out.h.rd.rs
            simp only [List.length_tail, List.length_cons, List.tail_cons] at h1 h2 hl2
            refine ⟨⟨q6, l :: r, _, bs ++ [x], pls', fuel, rfl, HG6.out, by simp; omega, by simp; omega, ?_⟩, by omega⟩
            have h3 := HE2.out
            refine (?_ : RES = _)
            rw [h3, List.length_append, List.length_singleton]
            cases progR s.size fuel (bs.length + 1) (l :: r) <;> simp [R.bind]
end Go.Proofs.YthjpddjfckdefaaGreatDoor.Pr
