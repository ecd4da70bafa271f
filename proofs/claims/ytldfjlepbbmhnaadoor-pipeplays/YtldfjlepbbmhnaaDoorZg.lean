/- The document's machine: a cycle (Step), read off the program by the walk. Conditions: the machine lies in memory, its bundles are well formed. -/
import Derived.Test.YtldfjlepbbmhnaaDoorZf
namespace Go.Proofs.YtldfjlepbbmhnaaDoor.Pp
open Go.ChangeShapes Go.WideShapes Go.ChangeAt Go.RowKit
open _root_.Go.Proofs.YtldfjlepbbmhnaaDoor.Op _root_.Go.Proofs.YtldfjlepbbmhnaaDoor.So _root_.Go.Proofs.YtldfjlepbbmhnaaDoor.Bu
open _root_.Go.Proofs.YtldfjlepbbmhnaaDoor.Tb (Tab TabAt Bnds)
set_option maxRecDepth 20000

section
variable {W : World} {t : Tab} {bs : List Bn} {H : Rx} {R : RM} {L : Nat}
theorem issR_same (t : Tab) (k : Nat) (R : RM) (o : O) : (issR t k R o).s = R.s ∧ (issR t k R o).a = R.a := by
  unfold issR
  by_cases h0 : o.op = 0
  · rw [if_pos h0]
    exact ⟨rfl, rfl⟩
  rw [if_neg h0]
  by_cases h17 : o.op = 17
  · rw [if_pos h17]
    exact ⟨rfl, rfl⟩
  rw [if_neg h17]
  by_cases h16 : o.op = 16
  · rw [if_pos h16]
    exact ⟨rfl, rfl⟩
  rw [if_neg h16]
  by_cases h15 : o.op = 15
  · rw [if_pos h15]
    exact ⟨rfl, rfl⟩
  rw [if_neg h15]
  by_cases h18 : o.op = 18
  · rw [if_pos h18]
    exact ⟨rfl, rfl⟩
  rw [if_neg h18]
  by_cases h19 : o.op = 19
  · rw [if_pos h19]
    by_cases hc : R.r o.a.toNat ≠ 0
    · rw [if_pos hc]
      exact ⟨rfl, rfl⟩
    · rw [if_neg hc]
      exact ⟨rfl, rfl⟩
  rw [if_neg h19]
  by_cases h22 : o.op = 22
  · rw [if_pos h22]
    by_cases hc : R.r o.a.toNat < o.b
    · rw [if_pos hc]
      exact ⟨rfl, rfl⟩
    · rw [if_neg hc]
      exact ⟨rfl, rfl⟩
  rw [if_neg h22]
  by_cases h21 : o.op = 21
  · rw [if_pos h21]
    exact ⟨rfl, rfl⟩
  rw [if_neg h21]
  by_cases h23 : o.op = 23
  · rw [if_pos h23]
    by_cases hc : 0 < R.c - 1
    · rw [if_pos hc]
      exact ⟨rfl, rfl⟩
    · rw [if_neg hc]
      exact ⟨rfl, rfl⟩
  rw [if_neg h23]
  by_cases h20 : o.op = 20
  · rw [if_pos h20]
    exact ⟨rfl, rfl⟩
  rw [if_neg h20]
  by_cases h1 : o.op = 1
  · rw [if_pos h1]
    exact ⟨rfl, rfl⟩
  rw [if_neg h1]
  by_cases he : rkE o.op (R.r o.b.toNat) = 0
  · rw [if_pos he]
    exact ⟨rfl, rfl⟩
  · rw [if_neg he]
    exact ⟨rfl, rfl⟩
theorem lands_ok {k : Nat} {b : Bool} {n x : Int} (h : R.Ok L) (ht : R.s + (t.l k).toNat ≤ 200000000000) (h0 : 0 ≤ n) (h1 : n < 256) (h2 : b = false → n < 32) (h3 : I64 x) : (landsR t k R b n x).Ok (L + 1) := by
  refine ⟨h.r, h.m, h.a, by show -((L + 1 : Nat) : Int) ≤ R.c; have := h.c0; omega, h.c1, fun y hy => ?_, h.u, ?_, Nat.le_trans h.lt (by omega), Nat.le_trans h.lp (by omega)⟩
  · rcases List.mem_append.1 hy with hy | hy
    · exact h.f y hy
    · rw [List.mem_singleton.1 hy]; exact ⟨ht, h0, h1, h2, h3⟩
  · show (R.fl ++ [_]).length ≤ L + 1
    have := h.lf
    rw [List.length_append, List.length_singleton]; omega
theorem goes_ok {o : O} (h : R.Ok L) (ht : R.s + 1 + t.d.toNat ≤ 200000000000) (h3 : I64 o.im) : (goesR t R o).Ok (L + 1) := by
  refine ⟨h.r, h.m, h.a, by show -((L + 1 : Nat) : Int) ≤ R.c; have := h.c0; omega, h.c1, h.f, fun y hy => ?_, Nat.le_trans h.lf (by omega), ?_, Nat.le_trans h.lp (by omega)⟩
  · rcases List.mem_append.1 hy with hy | hy
    · exact h.u y hy
    · rw [List.mem_singleton.1 hy]; exact ⟨ht, h3⟩
  · show (R.tu ++ [_]).length ≤ L + 1
    have := h.lt
    rw [List.length_append, List.length_singleton]; omega
theorem lessR_in {a n : Int} (ha : I64 a) (hn : I64 n) : 0 ≤ lessR a n ∧ lessR a n ≤ 9223372036854775807 := by
  unfold I64 at ha hn
  unfold lessR
  split
  · omega
  · split
    · omega
    · omega
theorem iss_ok {k : Nat} {o : O} (h : R.Ok L) (hL : L ≤ 1000000000) (hs : R.s ≤ 100000000000) (hT : ∀ k, k < 4 → 1 ≤ t.l k ∧ t.l k ≤ 8) (hd : 0 ≤ t.d ∧ t.d ≤ 7) (hk : k < 4) (ho : OkM o) : (issR t k R o).Ok (L + 1) := by
  have hm := h.mono (L' := L + 1) (by omega)
  have hl := hT k hk
  have h3 : I64 o.im := ⟨ho.ok.i0, ho.ok.i1⟩
  have ht1 : R.s + (t.l k).toNat ≤ 200000000000 := by omega
  have ht2 : R.s + 1 + t.d.toNat ≤ 200000000000 := by omega
  have hd0 := ho.ok.d0
  have hd1 := ho.regs.1
  unfold issR
  have h4 : RM.Ok { R with c := R.c - 1 } (L + 1) := by
    have h0 := h.c0
    have h1 := h.c1
    exact ⟨h.r, h.m, h.a, by show -((L + 1 : Nat) : Int) ≤ R.c - 1; omega, by show R.c - 1 ≤ _; omega, h.f, h.u, Nat.le_trans h.lf (by omega), Nat.le_trans h.lt (by omega), Nat.le_trans h.lp (by omega)⟩
  by_cases h0 : o.op = 0
  · rw [if_pos h0]
    exact hm
  rw [if_neg h0]
  by_cases h17 : o.op = 17
  · rw [if_pos h17]
    refine ⟨h.r, h.m, h.a, by show -((L + 1 : Nat) : Int) ≤ R.c; have := h.c0; omega, h.c1, h.f, h.u, Nat.le_trans h.lf (by omega), Nat.le_trans h.lt (by omega), ?_⟩
    show (R.p ++ [_]).length ≤ L + 1
    have := h.lp
    rw [List.length_append, List.length_singleton]; omega
  rw [if_neg h17]
  by_cases h16 : o.op = 16
  · rw [if_pos h16]
    exact lands_ok h ht1 (by unfold celR; omega) (by unfold celR; omega) (fun e => by cases e) (h.r _)
  rw [if_neg h16]
  by_cases h15 : o.op = 15
  · rw [if_pos h15]
    exact lands_ok h ht1 hd0 (by omega) (fun _ => hd1) (h.m _)
  rw [if_neg h15]
  by_cases h18 : o.op = 18
  · rw [if_pos h18]
    exact goes_ok h ht2 h3
  rw [if_neg h18]
  by_cases h19 : o.op = 19
  · rw [if_pos h19]
    by_cases hc : R.r o.a.toNat ≠ 0
    · rw [if_pos hc]
      exact goes_ok h ht2 h3
    · rw [if_neg hc]
      exact hm
  rw [if_neg h19]
  by_cases h22 : o.op = 22
  · rw [if_pos h22]
    by_cases hc : R.r o.a.toNat < o.b
    · rw [if_pos hc]
      exact goes_ok h ht2 h3
    · rw [if_neg hc]
      exact hm
  rw [if_neg h22]
  by_cases h21 : o.op = 21
  · rw [if_pos h21]
    have := lessR_in (h.r o.a.toNat) h3
    exact ⟨h.r, h.m, h.a, by show -((L + 1 : Nat) : Int) ≤ lessR _ _; omega, this.2, h.f, h.u, Nat.le_trans h.lf (by omega), Nat.le_trans h.lt (by omega), Nat.le_trans h.lp (by omega)⟩
  rw [if_neg h21]
  by_cases h23 : o.op = 23
  · rw [if_pos h23]
    by_cases hc : 0 < R.c - 1
    · rw [if_pos hc]
      refine ⟨h4.r, h4.m, h4.a, h4.c0, h4.c1, h4.f, fun y hy => ?_, h4.lf, ?_, h4.lp⟩
      · rcases List.mem_append.1 hy with hy | hy
        · exact h.u y hy
        · rw [List.mem_singleton.1 hy]; exact ⟨ht2, h3⟩
      · show (R.tu ++ [_]).length ≤ L + 1
        have := h.lt
        rw [List.length_append, List.length_singleton]; omega
    · rw [if_neg hc]
      exact h4
  rw [if_neg h23]
  by_cases h20 : o.op = 20
  · rw [if_pos h20]
    exact ⟨hm.r, hm.m, hm.a, hm.c0, hm.c1, hm.f, hm.u, hm.lf, hm.lt, hm.lp⟩
  rw [if_neg h20]
  by_cases h1 : o.op = 1
  · rw [if_pos h1]
    exact lands_ok h ht1 hd0 (by omega) (fun _ => hd1) h3
  rw [if_neg h1]
  by_cases he : rkE o.op (R.r o.b.toNat) = 0
  · rw [if_pos he]
    exact lands_ok h ht1 hd0 (by omega) (fun _ => hd1) (rkV_in _ _ _ (h.r _))
  · rw [if_neg he]
    exact ⟨hm.r, hm.m, hm.a, hm.c0, hm.c1, hm.f, hm.u, hm.lf, hm.lt, hm.lp⟩
theorem ldR_ok {y : Ld} (h : R.Ok L) (hx : I64 y.x) : (ldR R y).Ok L := by
  unfold ldR
  split
  · exact ⟨h.r, upd_in h.m hx, h.a, h.c0, h.c1, h.f, h.u, h.lf, h.lt, h.lp⟩
  · exact ⟨upd_in h.r hx, h.m, h.a, h.c0, h.c1, h.f, h.u, h.lf, h.lt, h.lp⟩
theorem ldRs_ok : ∀ (l : List Ld) {R : RM}, R.Ok L → (∀ y ∈ l, I64 y.x) → (l.foldl ldR R).Ok L
  | [], _, h, _ => h
  | y :: l, _, h, hx => ldRs_ok l (ldR_ok h (hx y (by simp))) fun z hz => hx z (by simp [hz])
theorem landR_ok (h : R.Ok L) : (landR R).Ok L := by
  have g : ((R.fl.filter fun y => decide (y.t ≤ R.s)).foldl ldR R).Ok L := ldRs_ok _ h fun y hy => (h.f y (List.mem_filter.1 hy).1).2.2.2.2
  exact ⟨g.r, g.m, g.a, g.c0, g.c1, fun y hy => h.f y (List.mem_filter.1 hy).1, g.u, Nat.le_trans (List.length_filter_le _ _) h.lf, g.lt, g.lp⟩
theorem fold_a : ∀ (l : List (Nat × Int)) (a : Int), I64 a → (∀ y ∈ l, I64 y.2) → I64 (l.foldl (fun _ y => y.2) a)
  | [], _, h, _ => h
  | y :: l, _, _, hx => fold_a l y.2 (hx y (by simp)) fun z hz => hx z (by simp [hz])
theorem turnR_ok (h : R.Ok L) : (turnR R).Ok L := ⟨h.r, h.m, fold_a _ _ h.a fun y hy => (h.u y (List.mem_filter.1 hy).1).2, h.c0, h.c1, h.f, fun y hy => h.u y (List.mem_filter.1 hy).1, h.lf, Nat.le_trans (List.length_filter_le _ _) h.lt, h.lp⟩
theorem landR_se (R : RM) : (landR R).s = R.s ∧ (landR R).en = R.en := by
  unfold landR
  refine ⟨(ldRs_same _ R).2.1, ?_⟩
  have : ∀ (l : List Ld) (T : RM), (l.foldl ldR T).en = T.en := fun l => by
    induction l with
    | nil => exact fun _ => rfl
    | cons y l ih => exact fun T => (ih (ldR T y)).trans (by unfold ldR; split <;> rfl)
  exact this _ _
/-- What Step answers. -/
def stB (bs : List Bn) (R : RM) : Bool := !R.en && decide (0 ≤ (turnR (landR R)).a ∧ (turnR (landR R)).a < (bs.length : Int))
/-- What comes of a cycle. -/
def StP (W : World) (t : Tab) (bs : List Bn) (H : Rx) (b : Bool) (R' : RM) (e : Ending) (w' : World) : Prop := e = .returned (.bool b) ∧ ∃ H', Rch w' t bs H' R' ∧ Rn W H w' H'
theorem rbs_fixed {w : World} (h : Rch w t bs H R) {i : Nat} (hi : i < bs.length) : ∃ b f p, H.ba = some ⟨b, f, none⟩ ∧ b < w.heap.size ∧ NAt w b (f + i * 4) bs[i] p ∧ ∀ V, Fr (rown H) w V → BnIn V bs[i] p := bs_fixed h.bF hi
/-- A bundle under way. -/
structure Rw (w1 : World) (H1 : Rx) (t : Tab) (bs : List Bn) (T : RM) (x : Bn) (p : Pb) (bx q L : Nat) (wr : World) (rest : List (O × Nat)) : Prop where
  ex : ∃ H2 R2, Rch wr t bs H2 R2 ∧ Rn w1 H1 wr H2 ∧ bdR t T (restO x 4) = bdR t R2 rest ∧ R2.s = T.s ∧ R2.a = T.a ∧ R2.en = false ∧ R2.Ok L ∧ H2.mb = q
  bx : NAt wr bx 0 x p
theorem bdR_cons (t : Tab) (R : RM) (o : O) (k : Nat) (l : List (O × Nat)) : bdR t R ((o, k) :: l) = if (issR t k R o).en then issR t k R o else bdR t (issR t k R o) l := rfl
end
end Go.Proofs.YtldfjlepbbmhnaaDoor.Pp
