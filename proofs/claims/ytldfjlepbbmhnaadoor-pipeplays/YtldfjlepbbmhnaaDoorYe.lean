/- The document's machine and the code's: to which registers something is in flight, in both. Conditions: none. -/
import Derived.Test.YtldfjlepbbmhnaaDoorTe
namespace Go.Proofs.YtldfjlepbbmhnaaDoor.Pp
open Go.ChangeShapes Go.WideShapes Go.ChangeAt Go.RowKit
open _root_.Go.Proofs.YtldfjlepbbmhnaaDoor.Op _root_.Go.Proofs.YtldfjlepbbmhnaaDoor.So _root_.Go.Proofs.YtldfjlepbbmhnaaDoor.Bu
open _root_.Go.Proofs.YtldfjlepbbmhnaaDoor.Tb (Tab TabAt Bnds)
set_option maxRecDepth 20000

/-- What is in flight in the document's machine: when, whether to a cell, its number, its value. -/
structure Ld where
  t : Nat
  b : Bool
  n : Int
  x : Int
/-- The document's machine. -/
structure RM where
  r : Nat → Int
  m : Nat → Int
  a : Int
  c : Int
  s : Nat
  fl : List Ld
  tu : List (Nat × Int)
  en : Bool
  e : Int
  v : Int
  p : List Int
def ldR (R : RM) (y : Ld) : RM := if y.b then { R with m := upd R.m y.n.toNat y.x } else { R with r := upd R.r y.n.toNat y.x }
/-- What lands, in the order of the list. -/
def landR (R : RM) : RM := { ((R.fl.filter fun y => decide (y.t ≤ R.s)).foldl ldR R) with fl := R.fl.filter fun y => decide (R.s < y.t) }
def turnR (R : RM) : RM := { R with a := (R.tu.filter fun y => decide (y.1 ≤ R.s)).foldl (fun _ y => y.2) R.a, tu := R.tu.filter fun y => decide (R.s < y.1) }
def goesR (t : Tab) (R : RM) (o : O) : RM := { R with tu := R.tu ++ [(R.s + 1 + t.d.toNat, o.im)] }
def landsR (t : Tab) (k : Nat) (R : RM) (b : Bool) (n x : Int) : RM := { R with fl := R.fl ++ [⟨R.s + (t.l k).toNat, b, n, x⟩] }
/-- a less n, held at the ends of 64 bits. -/
def lessR (a n : Int) : Int := if n < 0 ∧ a > 9223372036854775807 + n then 9223372036854775807 else if n > 0 ∧ a < -9223372036854775808 + n then 0 else max 0 (a - n)
def celR (R : RM) (o : O) : Int := (R.r o.a.toNat + o.im) % 256
/-- An operation is issued. -/
def issR (t : Tab) (k : Nat) (R : RM) (o : O) : RM :=
  if o.op = 0 then R
  else if o.op = 17 then { R with p := R.p ++ [R.r o.a.toNat] }
  else if o.op = 16 then landsR t k R true (celR R o) (R.r o.b.toNat)
  else if o.op = 15 then landsR t k R false o.d (R.m (celR R o).toNat)
  else if o.op = 18 then goesR t R o
  else if o.op = 19 then (if R.r o.a.toNat ≠ 0 then goesR t R o else R)
  else if o.op = 22 then (if R.r o.a.toNat < o.b then goesR t R o else R)
  else if o.op = 21 then { R with c := lessR (R.r o.a.toNat) o.im }
  else if o.op = 23 then (if 0 < R.c - 1 then goesR t { R with c := R.c - 1 } o else { R with c := R.c - 1 })
  else if o.op = 20 then { R with en := true, e := 0, v := R.r o.a.toNat }
  else if o.op = 1 then landsR t k R false o.d o.im
  else if rkE o.op (R.r o.b.toNat) = 0 then landsR t k R false o.d (rkV o.op (R.r o.a.toNat) (R.r o.b.toNat))
  else { R with en := true, e := rkE o.op (R.r o.b.toNat), v := 0 }
/-- A bundle's operations, till the run ends. -/
def bdR (t : Tab) : RM → List (O × Nat) → RM
  | R, [] => R
  | R, p :: l => if (issR t p.2 R p.1).en then issR t p.2 R p.1 else bdR t (issR t p.2 R p.1) l
def endR (R : RM) : RM := { R with s := R.s + 1 }
def nextR (R : RM) : RM := { R with a := R.a + 1, s := R.s + 1 }
def noneR (R : RM) : RM := { R with en := true, e := 5, v := 0 }
def atR (t : Tab) (bs : List Bn) (T : RM) : RM := if (bdR t T (restO (bs.getD T.a.toNat ⟨fun _ => []⟩) 4)).en then endR (bdR t T (restO (bs.getD T.a.toNat ⟨fun _ => []⟩) 4)) else nextR (bdR t T (restO (bs.getD T.a.toNat ⟨fun _ => []⟩) 4))
def goR (t : Tab) (bs : List Bn) (T : RM) : RM := if 0 ≤ T.a ∧ T.a < (bs.length : Int) then atR t bs T else noneR T
def cyR (t : Tab) (bs : List Bn) (R : RM) : RM := if R.en then R else goR t bs (turnR (landR R))
/-! ### the counters -/
/-- The two counters turn alike; j Agains were done so far. -/
def Cn (j : Nat) (c d : Int) : Prop := (c = max 0 d ∧ -(j : Int) ≤ d ∧ d ≤ 9223372036854775807) ∨ (9223372036854775807 - (j : Int) ≤ d ∧ d ≤ 9223372036854775807 ∧ 9223372036854775807 - (j : Int) ≤ c)
theorem Cn.mono {j k : Nat} {c d : Int} (h : Cn j c d) (hj : j ≤ k) : Cn k c d := by
  unfold Cn at *
  omega
theorem Cn.start : Cn 0 0 0 := .inl ⟨rfl, by decide, by decide⟩
theorem Cn.count (j : Nat) {a n : Int} (ha : I64 a) (hn : I64 n) : Cn j (lessI a n) (lessR a n) := by
  unfold I64 at ha hn
  unfold Cn lessI lessR
  by_cases h1 : n < 0 ∧ a > 9223372036854775807 + n
  · rw [if_pos h1, if_neg (by omega)]
    exact .inr (by omega)
  · rw [if_neg h1]
    by_cases h2 : n > 0 ∧ a < -9223372036854775808 + n
    · rw [if_pos h2, if_pos (by omega)]
      exact .inl (by omega)
    · rw [if_neg h2]
      left
      by_cases h3 : a < n
      · rw [if_pos h3]; omega
      · rw [if_neg h3]; omega
theorem Cn.again {j : Nat} {c d : Int} (h : Cn j c d) (hj : j ≤ 1000000000) : Cn (j + 1) (c - min c 1) (d - 1) ∧ (0 < c - min c 1 ↔ 0 < d - 1) := by
  unfold Cn at *
  omega
/-! ### what is in flight -/
/-- What of a row goes to registers and cells, and what to the place. -/
def fF (l : List F) : List (Bool × Int × Int) := (l.filter fun x => decide (x.w ≠ 2)).map fun x => (decide (x.w = 1), x.n, x.v)
def fT (l : List F) : List Int := (l.filter fun x => decide (x.w = 2)).map fun x => x.v
def gF (l : List Ld) (t : Nat) : List (Bool × Int × Int) := (l.filter fun y => decide (y.t = t)).map fun y => (y.b, y.n, y.x)
def gT (l : List (Nat × Int)) (t : Nat) : List Int := (l.filter fun y => decide (y.1 = t)).map fun y => y.2
theorem fF_snoc (l : List F) (x : F) : fF (l ++ [x]) = fF l ++ (if x.w ≠ 2 then [(decide (x.w = 1), x.n, x.v)] else []) := by
  unfold fF
  rw [List.filter_append, List.map_append]
  by_cases h : x.w = 2
  · simp [h]
  · simp [h]
theorem fT_snoc (l : List F) (x : F) : fT (l ++ [x]) = fT l ++ (if x.w = 2 then [x.v] else []) := by
  unfold fT
  rw [List.filter_append, List.map_append]
  by_cases h : x.w = 2
  · simp [h]
  · simp [h]
theorem gF_snoc (l : List Ld) (y : Ld) (t : Nat) : gF (l ++ [y]) t = gF l t ++ (if y.t = t then [(y.b, y.n, y.x)] else []) := by
  unfold gF
  rw [List.filter_append, List.map_append]
  by_cases h : y.t = t
  · simp [h]
  · simp [h]
theorem gT_snoc (l : List (Nat × Int)) (y : Nat × Int) (t : Nat) : gT (l ++ [y]) t = gT l t ++ (if y.1 = t then [y.2] else []) := by
  unfold gT
  rw [List.filter_append, List.map_append]
  by_cases h : y.1 = t
  · simp [h]
  · simp [h]
/-- Side by side: in flight is what lands in the cycles from lo on, eight of them. -/
structure Sd (S : PM) (R : RM) (lo j : Nat) : Prop where
  r : R.r = S.r
  m : R.m = S.m
  a : R.a = S.a
  s : R.s = S.s
  p : R.p = S.p
  c : Cn j S.c R.c
  f : ∀ t, lo ≤ t → t < lo + 8 → gF R.fl t = fF (S.f (t % 8))
  u : ∀ t, lo ≤ t → t < lo + 8 → gT R.tu t = fT (S.f (t % 8))
  lf : ∀ y ∈ R.fl, lo ≤ y.t ∧ y.t < lo + 8
  lu : ∀ y ∈ R.tu, lo ≤ y.1 ∧ y.1 < lo + 8
theorem mod_ne {lo t q : Nat} (h1 : lo ≤ t) (h2 : t < lo + 8) (h3 : lo ≤ q) (h4 : q < lo + 8) (h : t ≠ q) : t % 8 ≠ q % 8 := by omega
/-- A result, a store. -/
theorem Sd.lands {S : PM} {R : RM} {lo j q : Nat} (h : Sd S R lo j) (h1 : lo ≤ q) (h2 : q < lo + 8) (b : Bool) (n x : Int) : Sd (putF S q ⟨if b then 1 else 0, n, x⟩) { R with fl := R.fl ++ [⟨q, b, n, x⟩] } lo j := by
  refine ⟨h.r, h.m, h.a, h.s, h.p, h.c, fun t t1 t2 => ?_, fun t t1 t2 => ?_, fun y hy => ?_, h.lu⟩
  · show gF (R.fl ++ [_]) t = fF (if t % 8 = q % 8 then S.f (t % 8) ++ [_] else S.f (t % 8))
    rw [gF_snoc, h.f t t1 t2]
    by_cases e : t = q
    · subst e
      rw [if_pos rfl, if_pos rfl, fF_snoc]
      cases b <;> simp
    · rw [if_neg (fun e' => e e'.symm), if_neg (mod_ne t1 t2 h1 h2 e)]
      simp
  · show gT R.tu t = fT (if t % 8 = q % 8 then S.f (t % 8) ++ [_] else S.f (t % 8))
    rw [h.u t t1 t2]
    by_cases e : t % 8 = q % 8
    · rw [if_pos e, fT_snoc]
      cases b <;> simp
    · rw [if_neg e]
  · rcases List.mem_append.1 hy with hy | hy
    · exact h.lf y hy
    · rw [List.mem_singleton.1 hy]; exact ⟨h1, h2⟩
/-- A turn. -/
theorem Sd.goes {S : PM} {R : RM} {lo j q : Nat} (h : Sd S R lo j) (h1 : lo ≤ q) (h2 : q < lo + 8) (x : Int) : Sd (putF S q ⟨2, 0, x⟩) { R with tu := R.tu ++ [(q, x)] } lo j := by
  refine ⟨h.r, h.m, h.a, h.s, h.p, h.c, fun t t1 t2 => ?_, fun t t1 t2 => ?_, h.lf, fun y hy => ?_⟩
  · show gF R.fl t = fF (if t % 8 = q % 8 then S.f (t % 8) ++ [_] else S.f (t % 8))
    rw [h.f t t1 t2]
    by_cases e : t % 8 = q % 8
    · rw [if_pos e, fF_snoc]; simp
    · rw [if_neg e]
  · show gT (R.tu ++ [_]) t = fT (if t % 8 = q % 8 then S.f (t % 8) ++ [_] else S.f (t % 8))
    rw [gT_snoc, h.u t t1 t2]
    by_cases e : t = q
    · subst e
      rw [if_pos rfl, if_pos rfl, fT_snoc]
      simp
    · rw [if_neg (fun e' => e e'.symm), if_neg (mod_ne t1 t2 h1 h2 e)]
      simp
  · rcases List.mem_append.1 hy with hy | hy
    · exact h.lu y hy
    · rw [List.mem_singleton.1 hy]; exact ⟨h1, h2⟩
end Go.Proofs.YtldfjlepbbmhnaaDoor.Pp
namespace Go.Proofs.YtldfjlepbbmhnaaDoor.Pp
open Go.ChangeShapes Go.WideShapes Go.ChangeAt Go.RowKit
open _root_.Go.Proofs.YtldfjlepbbmhnaaDoor.Op _root_.Go.Proofs.YtldfjlepbbmhnaaDoor.So _root_.Go.Proofs.YtldfjlepbbmhnaaDoor.Bu
open _root_.Go.Proofs.YtldfjlepbbmhnaaDoor.Tb (Tab TabAt Bnds)
set_option maxRecDepth 20000

section
variable {t : Tab} {S : PM} {R : RM} {j k L : Nat} {o : O}
theorem Sd.next {lo : Nat} (h : Sd S R lo j) : Sd S R lo (j + 1) := ⟨h.r, h.m, h.a, h.s, h.p, h.c.mono (by omega), h.f, h.u, h.lf, h.lu⟩
theorem isE_some20 (h : o.op = 20) : isE S o = some (0, S.r o.a.toNat) := by unfold isE; rw [if_pos h]
theorem isE_no (h : o.op = 0 ∨ o.op = 17 ∨ o.op = 16 ∨ o.op = 21 ∨ o.op = 19 ∨ o.op = 22 ∨ o.op = 23 ∨ o.op = 18) : isE S o = none := by unfold isE; rw [if_neg (by omega), if_pos h]
/-- What an operation comes to, in both. -/
def Iss (t : Tab) (S : PM) (R : RM) (j k : Nat) (o : O) : Prop :=
  match isE S o with
  | some z => issR t k R o = { R with en := true, e := z.1, v := z.2 }
  | none => Sd (isM t S o (S.s + (t.l k).toNat)) (issR t k R o) (S.s + 1) (j + 1) ∧ (issR t k R o).en = R.en
theorem Iss.none (he : isE S o = none) (h : Sd (isM t S o (S.s + (t.l k).toNat)) (issR t k R o) (S.s + 1) (j + 1) ∧ (issR t k R o).en = R.en) : Iss t S R j k o := by unfold Iss; rw [he]; exact h
theorem Iss.some {z : Int × Int} (he : isE S o = some z) (h : issR t k R o = { R with en := true, e := z.1, v := z.2 }) : Iss t S R j k o := by unfold Iss; rw [he]; exact h
theorem Sd.issue (h : Sd S R (S.s + 1) j) (hl : 1 ≤ t.l k ∧ t.l k ≤ 8) (hd : 0 ≤ t.d ∧ t.d ≤ 7) (ho : OkM o) (hS : S.Ok L) (hj : j ≤ 1000000000) : Iss t S R j k o := by
  have hr := h.r
  have hm := h.m
  have hs := h.s
  have la1 : S.s + 1 ≤ S.s + (t.l k).toNat := by omega
  have la2 : S.s + (t.l k).toNat < S.s + 1 + 8 := by omega
  have da1 : S.s + 1 ≤ S.s + 1 + t.d.toNat := by omega
  have da2 : S.s + 1 + t.d.toNat < S.s + 1 + 8 := by omega
  have hN := h.next
  have hce : celR R o = celI S o := by unfold celR celI; rw [hr]
  have hgo : ∀ {S' : PM} {R' : RM}, Sd S' R' (S.s + 1) (j + 1) → S'.s = S.s → R'.s = S.s → Sd (turnM t S' o) (goesR t R' o) (S.s + 1) (j + 1) := fun {S' R'} h' e1 e2 => by
    have := h'.goes da1 da2 o.im
    show Sd (putF S' (S'.s + 1 + t.d.toNat) ⟨2, 0, o.im⟩) { R' with tu := R'.tu ++ [(R'.s + 1 + t.d.toNat, o.im)] } (S.s + 1) (j + 1)
    have q1 : S'.s + 1 + t.d.toNat = S.s + 1 + t.d.toNat := by rw [e1]
    have q2 : R'.s + 1 + t.d.toNat = S.s + 1 + t.d.toNat := by rw [e2]
    rw [q1, q2]
    exact this
  have hla : ∀ (b : Bool) (n x : Int), Sd (putF S (S.s + (t.l k).toNat) ⟨if b then 1 else 0, n, x⟩) (landsR t k R b n x) (S.s + 1) (j + 1) := fun b n x => by
    have := hN.lands la1 la2 b n x
    show Sd _ { R with fl := R.fl ++ [⟨R.s + (t.l k).toNat, b, n, x⟩] } (S.s + 1) (j + 1)
    have q1 : R.s + (t.l k).toNat = S.s + (t.l k).toNat := by rw [hs]
    rw [q1]
    exact this
  by_cases h0 : o.op = 0
  · have hR : issR t k R o = R := by
      unfold issR
      rw [if_pos h0]
    have hM : isM t S o (S.s + (t.l k).toNat) = S := by
      unfold isM
      rw [if_pos h0]
    refine Iss.none (isE_no (by omega)) ?_
    rw [hR, hM]
    exact ⟨hN, rfl⟩
  by_cases h17 : o.op = 17
  · have hR : issR t k R o = { R with p := R.p ++ [R.r o.a.toNat] } := by
      unfold issR
      rw [if_neg h0, if_pos h17]
    have hM : isM t S o (S.s + (t.l k).toNat) = { S with p := S.p ++ [S.r o.a.toNat] } := by
      unfold isM
      rw [if_neg (by omega), if_pos h17]
    refine Iss.none (isE_no (by omega)) ?_
    rw [hR, hM]
    exact ⟨⟨h.r, h.m, h.a, h.s, by show R.p ++ [R.r _] = S.p ++ [S.r _]; rw [h.p, h.r], hN.c, h.f, h.u, h.lf, h.lu⟩, rfl⟩
  by_cases h16 : o.op = 16
  · have hR : issR t k R o = landsR t k R true (celR R o) (R.r o.b.toNat) := by
      unfold issR
      rw [if_neg h0, if_neg h17, if_pos h16]
    have hM : isM t S o (S.s + (t.l k).toNat) = putF S (S.s + (t.l k).toNat) ⟨1, celI S o, S.r o.b.toNat⟩ := by
      unfold isM
      rw [if_neg (by omega), if_neg (by omega), if_pos h16]
    refine Iss.none (isE_no (by omega)) ?_
    rw [hR, hM]
    rw [hce, hr]
    exact ⟨hla true (celI S o) (S.r o.b.toNat), rfl⟩
  by_cases h15 : o.op = 15
  · have hR : issR t k R o = landsR t k R false o.d (R.m (celR R o).toNat) := by
      unfold issR
      rw [if_neg h0, if_neg h17, if_neg h16, if_pos h15]
    have hM : isM t S o (S.s + (t.l k).toNat) = putF S (S.s + (t.l k).toNat) ⟨0, o.d, resV S o⟩ := by
      unfold isM
      rw [if_neg (by omega), if_neg (by omega), if_neg (by omega), if_neg (by omega), if_neg (by omega), if_neg (by omega), if_neg (by omega)]
    have he : isE S o = none := by
      unfold isE
      rw [if_neg (by omega), if_neg (by omega), if_pos (by unfold resE; rw [if_neg (by omega), if_pos h15])]
    have ev : resV S o = S.m (celI S o).toNat := by unfold resV; rw [if_neg (by omega), if_pos h15]
    refine Iss.none he ?_
    rw [hR, hM, ev, hce, hm]
    exact ⟨hla false o.d (S.m (celI S o).toNat), rfl⟩
  by_cases h18 : o.op = 18
  · have hR : issR t k R o = goesR t R o := by
      unfold issR
      rw [if_neg h0, if_neg h17, if_neg h16, if_neg h15, if_pos h18]
    have hM : isM t S o (S.s + (t.l k).toNat) = turnM t S o := by
      unfold isM
      rw [if_neg (by omega), if_neg (by omega), if_neg (by omega), if_neg (by omega), if_neg (by omega), if_neg (by omega), if_pos h18]
    refine Iss.none (isE_no (by omega)) ?_
    rw [hR, hM]
    exact ⟨hgo hN rfl hs, rfl⟩
  by_cases h19 : o.op = 19
  · have hR : issR t k R o = (if R.r o.a.toNat ≠ 0 then goesR t R o else R) := by
      unfold issR
      rw [if_neg h0, if_neg h17, if_neg h16, if_neg h15, if_neg h18, if_pos h19]
    have hM : isM t S o (S.s + (t.l k).toNat) = (if trnB S o then turnM t (trnM S o) o else trnM S o) := by
      unfold isM
      rw [if_neg (by omega), if_neg (by omega), if_neg (by omega), if_neg (by omega), if_neg (by omega), if_pos (by omega)]
    refine Iss.none (isE_no (by omega)) ?_
    rw [hR, hM]
    have e1 : trnM S o = S := by unfold trnM; rw [if_pos h19]
    have e2 : trnB S o = decide (S.r o.a.toNat ≠ 0) := by unfold trnB; rw [if_pos h19]
    rw [e1, e2, hr]
    by_cases hc : S.r o.a.toNat ≠ 0
    · rw [if_pos (by simpa using hc), if_pos hc]
      exact ⟨hgo hN rfl hs, rfl⟩
    · rw [if_neg (by simpa using hc), if_neg hc]
      exact ⟨hN, rfl⟩
  by_cases h22 : o.op = 22
  · have hR : issR t k R o = (if R.r o.a.toNat < o.b then goesR t R o else R) := by
      unfold issR
      rw [if_neg h0, if_neg h17, if_neg h16, if_neg h15, if_neg h18, if_neg h19, if_pos h22]
    have hM : isM t S o (S.s + (t.l k).toNat) = (if trnB S o then turnM t (trnM S o) o else trnM S o) := by
      unfold isM
      rw [if_neg (by omega), if_neg (by omega), if_neg (by omega), if_neg (by omega), if_neg (by omega), if_pos (by omega)]
    refine Iss.none (isE_no (by omega)) ?_
    rw [hR, hM]
    have e1 : trnM S o = S := by unfold trnM; rw [if_neg h19, if_pos h22]
    have e2 : trnB S o = decide (S.r o.a.toNat < o.b) := by unfold trnB; rw [if_neg h19, if_pos h22]
    rw [e1, e2, hr]
    by_cases hc : S.r o.a.toNat < o.b
    · rw [if_pos (by simpa using hc), if_pos hc]
      exact ⟨hgo hN rfl hs, rfl⟩
    · rw [if_neg (by simpa using hc), if_neg hc]
      exact ⟨hN, rfl⟩
  by_cases h21 : o.op = 21
  · have hR : issR t k R o = { R with c := lessR (R.r o.a.toNat) o.im } := by
      unfold issR
      rw [if_neg h0, if_neg h17, if_neg h16, if_neg h15, if_neg h18, if_neg h19, if_neg h22, if_pos h21]
    have hM : isM t S o (S.s + (t.l k).toNat) = { S with c := lessI (S.r o.a.toNat) o.im } := by
      unfold isM
      rw [if_neg (by omega), if_neg (by omega), if_neg (by omega), if_pos h21]
    refine Iss.none (isE_no (by omega)) ?_
    rw [hR, hM]
    have hi : I64 o.im := ⟨ho.ok.i0, ho.ok.i1⟩
    exact ⟨⟨h.r, h.m, h.a, h.s, h.p, by show Cn (j + 1) (lessI (S.r o.a.toNat) o.im) (lessR (R.r o.a.toNat) o.im); rw [hr]; exact Cn.count (j + 1) (hS.r _) hi, h.f, h.u, h.lf, h.lu⟩, rfl⟩
  by_cases h23 : o.op = 23
  · have hR : issR t k R o = (if 0 < R.c - 1 then goesR t { R with c := R.c - 1 } o else { R with c := R.c - 1 }) := by
      unfold issR
      rw [if_neg h0, if_neg h17, if_neg h16, if_neg h15, if_neg h18, if_neg h19, if_neg h22, if_neg h21, if_pos h23]
    have hM : isM t S o (S.s + (t.l k).toNat) = (if trnB S o then turnM t (trnM S o) o else trnM S o) := by
      unfold isM
      rw [if_neg (by omega), if_neg (by omega), if_neg (by omega), if_neg (by omega), if_neg (by omega), if_pos (by omega)]
    refine Iss.none (isE_no (by omega)) ?_
    rw [hR, hM]
    have e1 : trnM S o = decM S := by unfold trnM; rw [if_neg h19, if_neg h22]
    have e2 : trnB S o = decide (0 < S.c - min S.c 1) := by unfold trnB; rw [if_neg h19, if_neg h22]
    obtain ⟨c1, c2⟩ := h.c.again hj
    have hD : Sd (decM S) { R with c := R.c - 1 } (S.s + 1) (j + 1) := ⟨h.r, h.m, h.a, h.s, h.p, c1, h.f, h.u, h.lf, h.lu⟩
    rw [e1, e2]
    by_cases hc : 0 < R.c - 1
    · rw [if_pos (by simpa using c2.2 hc), if_pos hc]
      exact ⟨hgo hD rfl hs, rfl⟩
    · rw [if_neg (by rw [decide_eq_true_iff]; exact fun h' => hc (c2.1 h')), if_neg hc]
      exact ⟨hD, rfl⟩
  by_cases h20 : o.op = 20
  · have hR : issR t k R o = { R with en := true, e := 0, v := R.r o.a.toNat } := by
      unfold issR
      rw [if_neg h0, if_neg h17, if_neg h16, if_neg h15, if_neg h18, if_neg h19, if_neg h22, if_neg h21, if_neg h23, if_pos h20]
    refine Iss.some (isE_some20 h20) ?_
    rw [hR, hr]
  have hM : isM t S o (S.s + (t.l k).toNat) = putF S (S.s + (t.l k).toNat) ⟨0, o.d, resV S o⟩ := by
    unfold isM
    rw [if_neg h0, if_neg h17, if_neg h16, if_neg h21, if_neg h20, if_neg (by omega), if_neg h18]
  by_cases h1 : o.op = 1
  · have hR : issR t k R o = landsR t k R false o.d o.im := by
      unfold issR
      rw [if_neg h0, if_neg h17, if_neg h16, if_neg h15, if_neg h18, if_neg h19, if_neg h22, if_neg h21, if_neg h23, if_neg h20, if_pos h1]
    have he : isE S o = none := by
      unfold isE
      rw [if_neg (by omega), if_neg (by omega), if_pos (by unfold resE; rw [if_pos h1])]
    have ev : resV S o = o.im := by unfold resV; rw [if_pos h1]
    refine Iss.none he ?_
    rw [hR, hM, ev]
    exact ⟨hla false o.d o.im, rfl⟩
  have hR : issR t k R o = if rkE o.op (R.r o.b.toNat) = 0 then landsR t k R false o.d (rkV o.op (R.r o.a.toNat) (R.r o.b.toNat)) else { R with en := true, e := rkE o.op (R.r o.b.toNat), v := 0 } := by
    unfold issR
    rw [if_neg h0, if_neg h17, if_neg h16, if_neg h15, if_neg h18, if_neg h19, if_neg h22, if_neg h21, if_neg h23, if_neg h20, if_neg h1]
  have hrE : resE S o = rkE o.op (S.r o.b.toNat) := by unfold resE; rw [if_neg h1, if_neg h15]
  have hrV : resV S o = rkV o.op (S.r o.a.toNat) (S.r o.b.toNat) := by unfold resV; rw [if_neg h1, if_neg h15]
  have hE : isE S o = if resE S o = 0 then none else some (resE S o, 0) := by
    unfold isE
    rw [if_neg h20, if_neg (by omega)]
  rw [hrE] at hE
  by_cases hz : rkE o.op (S.r o.b.toNat) = 0
  · rw [if_pos hz] at hE
    refine Iss.none hE ?_
    rw [hR, hM, hr, if_pos hz, hrV]
    exact ⟨hla false o.d _, rfl⟩
  · rw [if_neg hz] at hE
    refine Iss.some hE ?_
    rw [hR, hr, if_neg hz]
end
end Go.Proofs.YtldfjlepbbmhnaaDoor.Pp
namespace Go.Proofs.YtldfjlepbbmhnaaDoor.Pp
open Go.ChangeShapes Go.WideShapes Go.ChangeAt Go.RowKit
open _root_.Go.Proofs.YtldfjlepbbmhnaaDoor.Op _root_.Go.Proofs.YtldfjlepbbmhnaaDoor.So _root_.Go.Proofs.YtldfjlepbbmhnaaDoor.Bu
open _root_.Go.Proofs.YtldfjlepbbmhnaaDoor.Tb (Tab TabAt Bnds)
set_option maxRecDepth 20000

def apX (q : (Nat → Int) × (Nat → Int)) (l : List (Bool × Int × Int)) : (Nat → Int) × (Nat → Int) := l.foldl (fun q y => if y.1 then (q.1, upd q.2 y.2.1.toNat y.2.2) else (upd q.1 y.2.1.toNat y.2.2, q.2)) q
theorem ld_fold : ∀ (l : List F) (S : PM), (∀ x ∈ l, x.w = 0 ∨ x.w = 1 ∨ x.w = 2) → l.foldl ld1 S = { S with r := (apX (S.r, S.m) (fF l)).1, m := (apX (S.r, S.m) (fF l)).2, a := (fT l).foldl (fun _ x => x) S.a }
  | [], S, _ => rfl
  | x :: l, S, h => by
    have ih := ld_fold l (ld1 S x) fun y hy => h y (by simp [hy])
    rw [List.foldl_cons, ih]
    rcases h x (by simp) with hw | hw | hw
    · have e1 : fF (x :: l) = (false, x.n, x.v) :: fF l := by unfold fF; simp [hw]
      have e2 : fT (x :: l) = fT l := by unfold fT; simp [hw]
      have e3 : ld1 S x = { S with r := upd S.r x.n.toNat x.v } := by unfold ld1; rw [if_pos hw]
      rw [e1, e2, e3]
      rfl
    · have e1 : fF (x :: l) = (true, x.n, x.v) :: fF l := by unfold fF; simp [hw]
      have e2 : fT (x :: l) = fT l := by unfold fT; simp [hw]
      have e3 : ld1 S x = { S with m := upd S.m x.n.toNat x.v } := by unfold ld1; rw [if_neg (by omega), if_pos hw]
      rw [e1, e2, e3]
      rfl
    · have e1 : fF (x :: l) = fF l := by unfold fF; simp [hw]
      have e2 : fT (x :: l) = x.v :: fT l := by unfold fT; simp [hw]
      have e3 : ld1 S x = { S with a := x.v } := by unfold ld1; rw [if_neg (by omega), if_neg (by omega)]
      rw [e1, e2, e3]
      rfl
theorem ldR_fold : ∀ (l : List Ld) (R : RM), l.foldl ldR R = { R with r := (apX (R.r, R.m) (l.map fun y => (y.b, y.n, y.x))).1, m := (apX (R.r, R.m) (l.map fun y => (y.b, y.n, y.x))).2 }
  | [], R => rfl
  | y :: l, R => by
    rw [List.foldl_cons, ldR_fold l (ldR R y)]
    unfold ldR
    cases hb : y.b
    · simp only [List.map_cons, hb]
      rfl
    · simp only [List.map_cons, hb]
      rfl
section
variable {t : Tab} {S : PM} {R : RM} {j L : Nat} {bs : List Bn}
/-- What lands. -/
theorem Sd.land (h : Sd S R S.s j) (hS : S.Ok L) : Sd (landM S) (turnR (landR R)) (S.s + 1) j := by
  have hs := h.s
  have e1 : landM S = { takeF S with r := (apX (S.r, S.m) (fF (S.f (S.s % 8)))).1, m := (apX (S.r, S.m) (fF (S.f (S.s % 8)))).2, a := (fT (S.f (S.s % 8))).foldl (fun _ x => x) S.a } := ld_fold _ _ fun x hx => (hS.f _ x hx).w
  have q1 : (R.fl.filter fun y => decide (y.t ≤ R.s)) = R.fl.filter fun y => decide (y.t = S.s) := List.filter_congr fun y hy => by
    have := (h.lf y hy).1
    rw [hs]
    by_cases e : y.t = S.s
    · simp [e]
    · have : ¬ y.t ≤ S.s := by omega
      simp [e, this]
  have q2 : (R.tu.filter fun y => decide (y.1 ≤ R.s)) = R.tu.filter fun y => decide (y.1 = S.s) := List.filter_congr fun y hy => by
    have := (h.lu y hy).1
    rw [hs]
    by_cases e : y.1 = S.s
    · simp [e]
    · have : ¬ y.1 ≤ S.s := by omega
      simp [e, this]
  have hf0 : gF R.fl S.s = fF (S.f (S.s % 8)) := h.f S.s (by omega) (by omega)
  have hu0 : gT R.tu S.s = fT (S.f (S.s % 8)) := h.u S.s (by omega) (by omega)
  have e2 : landR R = { R with r := (apX (S.r, S.m) (fF (S.f (S.s % 8)))).1, m := (apX (S.r, S.m) (fF (S.f (S.s % 8)))).2, fl := R.fl.filter fun y => decide (R.s < y.t) } := by
    unfold landR
    rw [q1, ldR_fold, h.r, h.m]
    have : ((R.fl.filter fun y => decide (y.t = S.s)).map fun y => (y.b, y.n, y.x)) = fF (S.f (S.s % 8)) := hf0
    rw [this]
  have hta : (R.tu.filter fun y => decide (y.1 ≤ R.s)).foldl (fun _ y => y.2) R.a = (fT (S.f (S.s % 8))).foldl (fun _ x => x) S.a := by
    rw [q2, ← hu0, h.a]
    unfold gT
    rw [List.foldl_map]
  have tk : ∀ q, S.s + 1 ≤ q → q < S.s + 8 → (takeF S).f (q % 8) = S.f (q % 8) := fun q q1 q2 => by
    show (if q % 8 = S.s % 8 then [] else S.f (q % 8)) = _
    rw [if_neg (by omega)]
  have tk0 : (takeF S).f ((S.s + 8) % 8) = [] := by
    show (if (S.s + 8) % 8 = S.s % 8 then [] else _) = _
    rw [if_pos (by omega)]
  rw [e1]
  unfold turnR
  rw [e2]
  refine ⟨rfl, rfl, hta, h.s, h.p, h.c, fun q w1 w2 => ?_, fun q w1 w2 => ?_, fun y hy => ?_, fun y hy => ?_⟩
  · show gF (R.fl.filter fun y => decide (R.s < y.t)) q = fF ((takeF S).f (q % 8))
    have e3 : gF (R.fl.filter fun y => decide (R.s < y.t)) q = gF R.fl q := by
      unfold gF
      rw [List.filter_filter]
      congr 1
      exact List.filter_congr fun y _ => by
        by_cases e : y.t = q
        · have : R.s < y.t := by omega
          simp [e]
          omega
        · simp [e]
    rw [e3]
    by_cases e : q = S.s + 8
    · rw [e, tk0]
      unfold gF
      rw [List.filter_eq_nil_iff.2 fun y hy => by have := (h.lf y hy).2; simp; omega]
      rfl
    · rw [tk q w1 (by omega)]
      exact h.f q (by omega) (by omega)
  · show gT (R.tu.filter fun y => decide (R.s < y.1)) q = fT ((takeF S).f (q % 8))
    have e3 : gT (R.tu.filter fun y => decide (R.s < y.1)) q = gT R.tu q := by
      unfold gT
      rw [List.filter_filter]
      congr 1
      exact List.filter_congr fun y _ => by
        by_cases e : y.1 = q
        · have : R.s < y.1 := by omega
          simp [e]
          omega
        · simp [e]
    rw [e3]
    by_cases e : q = S.s + 8
    · rw [e, tk0]
      unfold gT
      rw [List.filter_eq_nil_iff.2 fun y hy => by have := (h.lu y hy).2; simp; omega]
      rfl
    · rw [tk q w1 (by omega)]
      exact h.u q (by omega) (by omega)
  · have hy : y ∈ R.fl.filter fun y => decide (R.s < y.t) := hy
    have h1 := (List.mem_filter.1 hy)
    have := h.lf y h1.1
    have h2 : R.s < y.t := by simpa using h1.2
    omega
  · have hy : y ∈ R.tu.filter fun y => decide (R.s < y.1) := hy
    have h1 := (List.mem_filter.1 hy)
    have := h.lu y h1.1
    have h2 : R.s < y.1 := by simpa using h1.2
    omega
/-- A bundle. -/
theorem Sd.body (hT : ∀ k, k < 4 → 1 ≤ t.l k ∧ t.l k ≤ 8) (hd : 0 ≤ t.d ∧ t.d ≤ 7) : ∀ (l : List (O × Nat)) {S : PM} {R : RM} {j L : Nat}, Sd S R (S.s + 1) j → S.Ok L → R.en = false → (∀ p ∈ l, OkM p.1 ∧ p.2 < 4) → j + l.length ≤ 1000000000 →
    match bdM t S l with
    | (S2, none) => Sd S2 (bdR t R l) (S.s + 1) (j + l.length) ∧ (bdR t R l).en = false
    | (S2, some z) => ∃ R2, Sd S2 R2 (S.s + 1) (j + l.length) ∧ bdR t R l = { R2 with en := true, e := z.1, v := z.2 }
  | [], S, R, j, L, h, _, he, _, _ => ⟨h, he⟩
  | p :: l, S, R, j, L, h, hS, he, hp, hj => by
    obtain ⟨ho, h4⟩ := hp p (by simp)
    have hi := h.issue (k := p.2) (hT _ h4) hd ho hS (by simp at hj; omega)
    unfold Iss at hi
    unfold bdM bdR
    cases hE : isE S p.1 with
    | some z =>
      rw [hE] at hi
      dsimp only at hi ⊢
      rw [hi]
      have hen : ({ R with en := true, e := z.1, v := z.2 } : RM).en = true := rfl
      rw [if_pos hen]
      exact ⟨R, ⟨h.r, h.m, h.a, h.s, h.p, h.c.mono (by omega), h.f, h.u, h.lf, h.lu⟩, rfl⟩
    | none =>
      rw [hE] at hi
      dsimp only at hi ⊢
      obtain ⟨h1, h2⟩ := hi
      have hs := (isM_s (S := S) t p.1 (S.s + (t.l p.2).toNat)).1
      have hk := isM_ok t (S.s + (t.l p.2).toNat) hS ho.ok ho.k
      rw [if_neg (by rw [h2, he]; decide)]
      generalize isM t S p.1 (S.s + (t.l p.2).toNat) = S' at *
      have h1' : Sd S' (issR t p.2 R p.1) (S'.s + 1) (j + 1) := by rw [hs]; exact h1
      have hr := Sd.body hT hd l h1' hk (h2.trans he) (fun q hq => hp q (by simp [hq])) (by simp at hj; omega)
      rw [hs] at hr
      rw [show j + (p :: l).length = j + 1 + l.length by simp; omega]
      exact hr
end
end Go.Proofs.YtldfjlepbbmhnaaDoor.Pp
namespace Go.Proofs.YtldfjlepbbmhnaaDoor.Pp
open Go.ChangeShapes Go.WideShapes Go.ChangeAt Go.RowKit
open _root_.Go.Proofs.YtldfjlepbbmhnaaDoor.Op _root_.Go.Proofs.YtldfjlepbbmhnaaDoor.So _root_.Go.Proofs.YtldfjlepbbmhnaaDoor.Bu
open _root_.Go.Proofs.YtldfjlepbbmhnaaDoor.Tb (Tab TabAt Bnds)
set_option maxRecDepth 20000

section
variable {t : Tab} {S : PM} {R : RM} {j L : Nat} {bs : List Bn}
/-- The two machines, under way or ended. -/
def Rel (S : PM) (R : RM) (j : Nat) : Prop := ∃ lo, Sd S R lo j ∧ ((S.e = 100 ∧ R.en = false ∧ lo = S.s ∧ S.v = 0) ∨ (S.e ≠ 100 ∧ R.en = true ∧ R.e = S.e ∧ R.v = S.v))
def newR (rs ms : List Int) : RM := ⟨fun i => (rs[i]?).getD 0, fun i => (ms[i]?).getD 0, 0, 0, 0, [], [], false, 0, 0, []⟩
theorem rel_new (rs ms : List Int) : Rel (newM rs ms) (newR rs ms) 0 :=
  ⟨0, ⟨rfl, rfl, rfl, rfl, rfl, Cn.start, fun _ _ _ => rfl, fun _ _ _ => rfl, (fun y hy => absurd hy (by simp [newR])), (fun y hy => absurd hy (by simp [newR]))⟩, .inl ⟨rfl, rfl, rfl, rfl⟩⟩
theorem bdM_v (t : Tab) : ∀ (l : List (O × Nat)) (S : PM), (bdM t S l).1.v = S.v
  | [], _ => rfl
  | p :: l, S => by
    unfold bdM
    cases e : isE S p.1 with
    | some z => rfl
    | none =>
      have h1 := bdM_v t l (isM t S p.1 (S.s + (t.l p.2).toNat))
      have h2 : (isM t S p.1 (S.s + (t.l p.2).toNat)).v = S.v := by
        have tr : (trnM S p.1).v = S.v := by
          unfold trnM
          split
          · rfl
          · split <;> rfl
        unfold isM
        split
        · rfl
        · split
          · rfl
          · split
            · rfl
            · split
              · rfl
              · split
                · rfl
                · split
                  · split
                    · exact tr
                    · exact tr
                  · split <;> rfl
      exact h1.trans h2
theorem landM_v (S : PM) : (landM S).v = S.v := by
  unfold landM
  have : ∀ (l : List F) (T : PM), (l.foldl ld1 T).v = T.v := fun l => by
    induction l with
    | nil => exact fun _ => rfl
    | cons y l ih =>
      intro T
      refine (ih (ld1 T y)).trans ?_
      unfold ld1
      split
      · rfl
      · split <;> rfl
  exact this _ _
theorem turn_en (R : RM) : (turnR (landR R)).en = R.en := by
  unfold turnR landR
  rw [ldR_fold]
theorem restO_cls {x : Bn} {p : O × Nat} : ∀ n, n ≤ 4 → p ∈ restO x n → p.2 < 4
  | 0, _, h => by cases h
  | n + 1, hn, h => by
    rcases List.mem_append.1 h with h | h
    · obtain ⟨o, _, rfl⟩ := List.mem_map.1 h
      show 3 - n < 4
      omega
    · exact restO_cls n (by omega) h
/-- A cycle. -/
theorem rel_cycle (hT : ∀ k, k < 4 → 1 ≤ t.l k ∧ t.l k ≤ 8) (hd : 0 ≤ t.d ∧ t.d ≤ 7) (hB : Bo t bs) (h : Rel S R j) (hS : S.Ok L) (he : S.e = 100) (hj : j ≤ 100000000) :
    match cyM t bs S with
    | (S', none) => Rel S' (cyR t bs R) (j + 512)
    | (S', some z) => Rel (endM S' z) (cyR t bs R) (j + 512) := by
  obtain ⟨lo, hs, h2 | h2⟩ := h
  · obtain ⟨-, hen, rfl, hv⟩ := h2
    have hl := hs.land hS
    have ha := hl.a
    have ls := (landM_s S).1
    have le := (landM_s S).2
    have lv := landM_v S
    have te := turn_en R
    have lo' := landM_ok hS
    have hcr : cyR t bs R = goR t bs (turnR (landR R)) := by unfold cyR; rw [if_neg (by rw [hen]; decide)]
    rw [hcr]
    have hcm : cyM t bs S = if 0 ≤ (landM S).a ∧ (landM S).a < (bs.length : Int) then (match bdM t (landM S) (restO (bs.getD (landM S).a.toNat ⟨fun _ => []⟩) 4) with | (S2, none) => (stepM S2, none) | (S2, some z) => (S2, some z)) else ({ landM S with e := 5 }, none) := rfl
    rw [hcm]
    clear hcr hcm
    rw [hen] at te
    generalize landM S = SL at *
    generalize turnR (landR R) = RL at *
    by_cases hp : 0 ≤ SL.a ∧ SL.a < (bs.length : Int)
    · have hgo : goR t bs RL = atR t bs RL := by unfold goR; rw [if_pos (by rw [ha]; exact hp)]
      rw [if_pos hp, hgo]
      unfold atR
      rw [ha]
      have hi : SL.a.toNat < bs.length := by omega
      rw [show bs.getD SL.a.toNat ⟨fun _ => []⟩ = bs[SL.a.toNat] by rw [List.getD_eq_getElem?_getD, List.getElem?_eq_getElem hi]; rfl]
      have hm : bs[SL.a.toNat] ∈ bs := List.getElem_mem hi
      generalize bs[SL.a.toNat] = x at *
      have hlen := restO_len (hB.n x hm) 4 (by decide)
      rw [← ls] at hl
      have hb := Sd.body hT hd (restO x 4) hl lo' te (fun p hp => by
        obtain ⟨k, hk, hx⟩ := restO_mem 4 (by decide) hp
        have h4 : p.2 < 4 := restO_cls 4 (by decide) hp
        exact ⟨hB.o x hm k hk _ hx, h4⟩) (by omega)
      have hbs := (bdM_ok t (restO x 4) lo' fun p hp => by
        obtain ⟨k, hk, hx⟩ := restO_mem 4 (by decide) hp
        exact hB.o x hm k hk _ hx).2
      have hbv := bdM_v t (restO x 4) SL
      have hbn : ∀ z, (bdM t SL (restO x 4)).2 = some z → z.1 ≠ 100 := fun z hz => bdM_ne t _ _ hz
      generalize bdM t SL (restO x 4) = M at *
      obtain ⟨S2, z⟩ := M
      cases z with
      | none =>
        dsimp only at hb hbs hbv ⊢
        obtain ⟨h1, h3⟩ := hb
        rw [if_neg (by rw [h3]; decide)]
        refine ⟨SL.s + 1, ⟨h1.r, h1.m, by show _ + 1 = _ + 1; rw [h1.a], by show _ + 1 = _ + 1; rw [h1.s], h1.p, h1.c.mono (by omega), h1.f, h1.u, h1.lf, h1.lu⟩, .inl ⟨by show S2.e = 100; rw [hbs.2.1, le, he], h3, by show SL.s + 1 = S2.s + 1; rw [hbs.1], by show S2.v = 0; rw [hbv, lv, hv]⟩⟩
      | some z =>
        dsimp only at hb hbs hbv ⊢
        obtain ⟨R2, h1, h3⟩ := hb
        rw [h3, if_pos rfl]
        have hz : z.1 ≠ 100 := hbn z rfl
        exact ⟨SL.s + 1, ⟨h1.r, h1.m, h1.a, by show _ + 1 = _ + 1; rw [h1.s], h1.p, h1.c.mono (by omega), h1.f, h1.u, h1.lf, h1.lu⟩, .inr ⟨hz, rfl, rfl, rfl⟩⟩
    · have hgo : goR t bs RL = noneR RL := by unfold goR; rw [if_neg (by rw [ha]; exact hp)]
      rw [if_neg hp, hgo]
      exact ⟨S.s + 1, ⟨hl.r, hl.m, hl.a, hl.s, hl.p, hl.c.mono (by omega), hl.f, hl.u, hl.lf, hl.lu⟩, .inr ⟨by show (5 : Int) ≠ 100; decide, rfl, rfl, by show (0 : Int) = SL.v; rw [lv, hv]⟩⟩
  · exact absurd he h2.1
/-- So many cycles. -/
def runR (t : Tab) (bs : List Bn) : Nat → RM → RM
  | 0, R => R
  | n + 1, R => runR t bs n (cyR t bs R)
theorem runR_over (t : Tab) (bs : List Bn) {R : RM} (h : R.en = true) : ∀ n, runR t bs n R = R
  | 0 => rfl
  | n + 1 => by
    have : cyR t bs R = R := by unfold cyR; rw [if_pos h]
    unfold runR
    rw [this]
    exact runR_over t bs h n
theorem rel_run (hT : ∀ k, k < 4 → 1 ≤ t.l k ∧ t.l k ≤ 8) (hd : 0 ≤ t.d ∧ t.d ≤ 7) (hB : Bo t bs) : ∀ (n : Nat) {S : PM} {R : RM} {j L : Nat}, Rel S R j → S.Ok L → j + 512 * n ≤ 100000000 → Rel (runM t bs n S) (runR t bs n R) (j + 512 * n)
  | 0, S, R, j, L, h, _, _ => h
  | n + 1, S, R, j, L, h, hS, hj => by
    have up : ∀ {S' : PM} {R' : RM} {i k : Nat}, Rel S' R' i → i ≤ k → Rel S' R' k := fun {S' R' i k} ⟨lo, h1, h2⟩ hi => ⟨lo, ⟨h1.r, h1.m, h1.a, h1.s, h1.p, h1.c.mono hi, h1.f, h1.u, h1.lf, h1.lu⟩, h2⟩
    by_cases he : S.e = 100
    · have hc := rel_cycle hT hd hB h hS he (by omega)
      have ho := cyM_ok hS hB
      cases hcy : cyM t bs S with
      | mk S' z =>
        rw [hcy] at hc ho
        cases z with
        | none =>
          rw [run_none t bs he hcy]
          dsimp only at hc ho
          have := rel_run hT hd hB n hc ho.1 (by omega)
          rw [show j + 512 * (n + 1) = j + 512 + 512 * n by omega]
          exact this
        | some z =>
          rw [run_some t bs he hcy]
          dsimp only at hc
          have hen : (cyR t bs R).en = true := by
            obtain ⟨lo, _, h2 | h2⟩ := hc
            · exact absurd h2.1 (cyM_ne hcy : (endM S' z).e ≠ 100)
            · exact h2.2.1
          show Rel _ (runR t bs n (cyR t bs R)) _
          rw [runR_over t bs hen]
          exact up hc (by omega)
    · rw [run_over t bs he]
      have hen : R.en = true := by
        obtain ⟨lo, _, h2 | h2⟩ := h
        · exact absurd h2.1 he
        · exact h2.2.1
      rw [runR_over t bs hen]
      exact up h (by omega)
end
end Go.Proofs.YtldfjlepbbmhnaaDoor.Pp
namespace Go.Proofs.YtldfjlepbbmhnaaDoor.Pp
open Go.ChangeShapes Go.WideShapes Go.ChangeAt Go.RowKit
open _root_.Go.Proofs.YtldfjlepbbmhnaaDoor.Op _root_.Go.Proofs.YtldfjlepbbmhnaaDoor.So _root_.Go.Proofs.YtldfjlepbbmhnaaDoor.Bu
open _root_.Go.Proofs.YtldfjlepbbmhnaaDoor.Tb (Tab TabAt Bnds)
set_option maxRecDepth 20000

section
variable {S : PM} {R : RM} {j L lo : Nat}
/-- The registers to which something goes, in the document's machine. -/
def flyR (R : RM) (k : Nat) : Bool := R.fl.any fun y => !y.b && decide (y.n = (k : Int))
def flR (R : RM) : List Nat := (List.range 32).filter (flyR R)
theorem goB_any (S : PM) (k : Nat) : ∀ n, goB S n k = true ↔ ∃ q, q < n ∧ occ (S.f q) k = true
  | 0 => by simp [goB]
  | n + 1 => by
    unfold goB
    rw [Bool.or_eq_true, goB_any S k n]
    constructor
    · rintro (⟨q, h1, h2⟩ | h)
      · exact ⟨q, by omega, h2⟩
      · exact ⟨n, by omega, h⟩
    · rintro ⟨q, h1, h2⟩
      by_cases e : q = n
      · subst e; exact .inr h2
      · exact .inl ⟨q, by omega, h2⟩
theorem occ_fF {l : List F} {k : Nat} (hw : ∀ x ∈ l, x.Ok) : occ l k = true ↔ ∃ v, (false, (k : Int), v) ∈ fF l := by
  unfold occ fF
  rw [List.any_eq_true]
  constructor
  · rintro ⟨x, hx, h⟩
    simp only [Bool.and_eq_true, decide_eq_true_eq] at h
    refine ⟨x.v, List.mem_map.2 ⟨x, List.mem_filter.2 ⟨hx, by simp [h.1]⟩, ?_⟩⟩
    rw [h.2]
    simp [h.1]
  · rintro ⟨v, h⟩
    obtain ⟨x, hx, e⟩ := List.mem_map.1 h
    obtain ⟨hx1, hx2⟩ := List.mem_filter.1 hx
    simp only [Prod.mk.injEq, decide_eq_false_iff_not] at e
    have h2 : x.w ≠ 2 := by simpa using hx2
    have := (hw x hx1).w
    refine ⟨x, hx1, ?_⟩
    simp only [Bool.and_eq_true, decide_eq_true_eq]
    exact ⟨by omega, e.2.1⟩
theorem Sd.fly (h : Sd S R lo j) (hS : S.Ok L) : flyL S = flR R := by
  unfold flyL flR
  refine List.filter_congr fun k _ => ?_
  have key : goB S 8 k = true ↔ flyR R k = true := by
    rw [goB_any]
    unfold flyR
    rw [List.any_eq_true]
    constructor
    · rintro ⟨q, hq, ho⟩
      obtain ⟨v, hv⟩ := (occ_fF (hS.f q)).1 ho
      obtain ⟨t, t1, t2, t3⟩ : ∃ t, lo ≤ t ∧ t < lo + 8 ∧ t % 8 = q := ⟨lo + (q + 8 - lo % 8) % 8, by omega, by omega, by omega⟩
      rw [← t3, ← h.f t t1 t2] at hv
      unfold gF at hv
      obtain ⟨y, hy, e⟩ := List.mem_map.1 hv
      simp only [Prod.mk.injEq] at e
      exact ⟨y, (List.mem_filter.1 hy).1, by simp [e.1, e.2.1]⟩
    · rintro ⟨y, hy, e⟩
      simp only [Bool.and_eq_true, Bool.not_eq_true', decide_eq_true_eq] at e
      obtain ⟨t1, t2⟩ := h.lf y hy
      refine ⟨y.t % 8, Nat.mod_lt _ (by decide), (occ_fF (hS.f _)).2 ⟨y.x, ?_⟩⟩
      rw [← h.f y.t t1 t2]
      unfold gF
      exact List.mem_map.2 ⟨y, List.mem_filter.2 ⟨hy, by simp⟩, by rw [e.1, e.2]⟩
  cases h1 : goB S 8 k
  · cases h2 : flyR R k
    · rfl
    · exact absurd (key.2 h2) (by rw [h1]; decide)
  · exact (key.1 h1).symm
theorem Rel.fly (h : Rel S R j) (hS : S.Ok L) : flyL S = flR R := by
  obtain ⟨lo, h1, -⟩ := h
  exact h1.fly hS
end
end Go.Proofs.YtldfjlepbbmhnaaDoor.Pp
