/- Greater latencies, the same dependences: plain mathematics. Conditions: none. -/
import Derived.Test.YtccakjijoadjkaaDoorEl
namespace Go.Proofs.YtccakjijoadjkaaDoor.Dp
open Go.ChangeShapes Go.WideShapes Go.ChangeAt Go.RowKit
open _root_.Go.Proofs.YtccakjijoadjkaaDoor.Op _root_.Go.Proofs.YtccakjijoadjkaaDoor.So
open _root_.Go.Proofs.YtccakjijoadjkaaDoor.Tb (Tab TabAt Bnds)
set_option maxRecDepth 20000

def All2 {α : Type} (R : α → α → Prop) : List α → List α → Prop
  | [], [] => True
  | a :: l, b :: m => R a b ∧ All2 R l m
  | [], _ :: _ => False
  | _ :: _, [] => False
theorem All2.append {α : Type} {R : α → α → Prop} : ∀ {l m l' m' : List α}, All2 R l m → All2 R l' m' → All2 R (l ++ l') (m ++ m')
  | [], [], _, _, _, h => h
  | _ :: _, _ :: _, _, _, ⟨h1, h2⟩, h => ⟨h1, h2.append h⟩
theorem All2.len {α : Type} {R : α → α → Prop} : ∀ {l m : List α}, All2 R l m → l.length = m.length
  | [], [], _ => rfl
  | _ :: _, _ :: _, ⟨_, h⟩ => by simp [h.len]
theorem All2.at {α : Type} {R : α → α → Prop} : ∀ {l m : List α}, All2 R l m → ∀ (k : Nat) (h1 : k < l.length) (h2 : k < m.length), R l[k] m[k]
  | [], _, _, k, h1, _ => by simp at h1
  | _ :: _, _ :: _, ⟨h, _⟩, 0, _, _ => h
  | _ :: _, _ :: _, ⟨_, h⟩, k + 1, h1, h2 => h.at k (by simpa using h1) (by simpa using h2)
theorem All2.cat {α : Type} {R : α → α → Prop} {F G : Nat → List α} : ∀ {n : Nat}, (∀ k, k < n → All2 R (F k) (G k)) → All2 R (Dp.cat F n) (Dp.cat G n)
  | 0, _ => trivial
  | n + 1, h => (All2.cat fun k hk => h k (by omega)).append (h n (by omega))
/-- The same dependence, waited for no less, if it is not one of two writers. -/
def Lat (e g : Ed) : Prop := e.f = g.f ∧ e.t = g.t ∧ e.d = g.d ∧ e.y = g.y ∧ (e.y = 2 ∨ e.l ≤ g.l)
/-- The same part, a latency no less. -/
structure Pe (p q : Pt) : Prop where
  o : p.o = q.o
  r : p.r = q.r
  w : p.w = q.w
  m : p.m = q.m
  b : p.b = q.b
  l : p.l ≤ q.l
theorem edL_lat (e : Ed) : ∀ {rs ss : List Rw}, All2 (fun r s => r.y = s.y ∧ r.b = s.b ∧ (r.y = 2 ∨ r.l ≤ s.l)) rs ss → All2 Lat (edL e rs) (edL e ss)
  | [], [], _ => trivial
  | r :: rs, s :: ss, ⟨⟨h1, h2, h3⟩, h⟩ => by
    have e1 : ∀ (r : Rw) (rs : List Rw), edL e (r :: rs) = (if r.b then [⟨e.f, e.t, r.l, e.d, r.y⟩] else []) ++ edL e rs := fun r rs => by unfold edL; rw [List.flatMap_cons]
    rw [e1, e1, h2]
    refine All2.append ?_ (edL_lat e h)
    split
    · exact ⟨⟨rfl, rfl, rfl, h1, h3⟩, trivial⟩
    · trivial
theorem rowsP_lat {a a' b b' : Pt} (ha : Pe a a') (hb : Pe b b') (lr i : Int) (meet : Bool) : All2 (fun r s => r.y = s.y ∧ r.b = s.b ∧ (r.y = 2 ∨ r.l ≤ s.l)) (rowsP a b lr i meet) (rowsP a' b' lr i meet) := by
  have hl := ha.l
  refine ⟨⟨rfl, ?_, .inr hl⟩, ⟨rfl, ?_, .inr (Int.le_refl _)⟩, ⟨rfl, ?_, .inl rfl⟩, ⟨rfl, rfl, .inr ?_⟩, ⟨rfl, ?_, .inr (Int.le_refl _)⟩, trivial⟩
  · show (_ && _) = (_ && _); rw [ha.w, hb.m]
  · show (_ != _) = (_ != _); rw [ha.m, hb.w]
  · show (_ != _) = (_ != _); rw [ha.w, hb.w]
  · show memL a b ≤ memL a' b'
    unfold memL
    rw [ha.o, hb.o]
    split
    · exact Int.le_refl _
    · split
      · exact hl
      · exact Int.le_refl _
  · show (a.b && b.b) = (a'.b && b'.b); rw [ha.b, hb.b]
theorem bec_same {p q : Pt} (h : Pe p q) (L : Nat → Int) (v : Int) : bec L p v = bec L q v := by unfold bec; rw [h.w, h.r]
theorem lastW_same {ps qs : List Pt} (h : ∀ k, Pe (pAt ps k) (pAt qs k)) : ∀ k, lastW ps k = lastW qs k
  | 0 => rfl
  | k + 1 => by unfold lastW; rw [lastW_same h k, bec_same (h k)]
theorem lastA_same {ps qs : List Pt} (h : ∀ k, Pe (pAt ps k) (pAt qs k)) (hl : ps.length = qs.length) : ∀ k, lastA ps k = lastA qs k
  | 0 => by unfold lastA; rw [hl, lastW_same h]
  | k + 1 => by unfold lastA; rw [lastA_same h hl k, bec_same (h k)]
theorem pairE_lat {ps qs : List Pt} (h : ∀ k, Pe (pAt ps k) (pAt qs k)) (L : Nat → Int) (d : Int) (meet : Bool) (i j : Nat) : All2 Lat (pairE ps L d meet i j) (pairE qs L d meet i j) := by
  unfold pairE
  rw [(h i).r]
  exact edL_lat _ (rowsP_lat (h i) (h j) _ _ _)
theorem within_lat {ps qs : List Pt} (h : ∀ k, Pe (pAt ps k) (pAt qs k)) (xs : List O) (n : Nat) : All2 Lat (withinE xs ps n) (withinE xs qs n) :=
  All2.cat fun j _ => All2.cat fun i _ => by rw [lastW_same h]; exact pairE_lat h ..
theorem across_lat {ps qs : List Pt} (h : ∀ k, Pe (pAt ps k) (pAt qs k)) (hl : ps.length = qs.length) (xs : List O) (n : Nat) : All2 Lat (acrossE xs ps n) (acrossE xs qs n) :=
  All2.cat fun j _ => by
    show All2 Lat (rowA xs ps j ps.length) (rowA xs qs j qs.length)
    rw [hl]
    exact All2.cat fun i _ => by rw [lastA_same h hl]; exact pairE_lat h ..
/-- A table with other latencies. -/
def laTo (t : Tab) (m : Int) (k : Nat) : Tab := { t with l := fun c => if c < k then min (max (t.l c) 0 + max (m.tmod 4) 0) 8 else t.l c }
theorem laTo_zero (t : Tab) (m : Int) : laTo t m 0 = t := by unfold laTo; simp
theorem ptL_pe (t : Tab) (m : Int) (ht : t.ok = true) (o : O) : Pe (ptL t o) (ptL (laTo t m 4) o) := by
  unfold ptL
  cases h : kOf o.op with
  | none => exact ⟨rfl, rfl, rfl, rfl, rfl, Int.le_refl _⟩
  | some k =>
    refine ⟨rfl, rfl, rfl, rfl, rfl, ?_⟩
    have hl := clV_in o.op
    have hc := Tb.inB_iff ((Tb.ok_parts ht).2 (clV o.op).toNat (by omega)).2.1
    show t.l (clV o.op).toNat ≤ (if (clV o.op).toNat < 4 then min (max (t.l (clV o.op).toNat) 0 + max (m.tmod 4) 0) 8 else t.l (clV o.op).toNat)
    rw [if_pos (by omega)]
    omega
theorem pts_pe (t : Tab) (m : Int) (ht : t.ok = true) (xs : List O) (k : Nat) : Pe (pAt (ptsL t xs) k) (pAt (ptsL (laTo t m 4) xs) k) := by
  unfold pAt ptsL
  rw [List.getElem?_map, List.getElem?_map]
  cases xs[k]? with
  | none => exact ⟨rfl, rfl, rfl, rfl, rfl, Int.le_refl _⟩
  | some o => exact ptL_pe t m ht o
theorem loop_lat (t : Tab) (m : Int) (ht : t.ok = true) (xs : List O) : All2 Lat (loopE t xs) (loopE (laTo t m 4) xs) := by
  unfold loopE
  exact (within_lat (pts_pe t m ht xs) xs _).append (across_lat (pts_pe t m ht xs) (by rw [ptsL_len, ptsL_len]) xs _)
end Go.Proofs.YtccakjijoadjkaaDoor.Dp
