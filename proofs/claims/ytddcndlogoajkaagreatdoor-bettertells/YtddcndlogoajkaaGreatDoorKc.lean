/- A program folded, as the document says (its Fold): read off the program by the walk. Conditions: the program lies in memory. -/
import Derived.Test.YtddcndlogoajkaaGreatDoorGk
import Derived.Test.YtddcndlogoajkaaGreatDoorKb
import Derived.Test.YtddcndlogoajkaaGreatDoorQRj
namespace Go.Proofs.YtddcndlogoajkaaGreatDoor.L8.Bt
open Go.ChangeShapes Go.WideShapes Go.ChangeAt Go.RowKit
open _root_.Go.Proofs.YtddcndlogoajkaaGreatDoor.L8.Op _root_.Go.Proofs.YtddcndlogoajkaaGreatDoor.L8.So
open _root_.Go.Proofs.YtddcndlogoajkaaGreatDoor.L8.Li (InIs in_ex)
open _root_.Go.Proofs.YtddcndlogoajkaaGreatDoor.L8.Lv (rdL wOf PsOk psOk_of IsIn endN bOf PB W)
set_option maxRecDepth 20000

/-- The j-th of a list is dead; E: what is read behind the list. -/
def DdA (E : Nat → Prop) (l : List O) (j : Nat) : Prop := ∃ h : j < l.length, wrB l[j] = true ∧ l[j].op ≠ 13 ∧ l[j].op ≠ 14 ∧ ¬ NdP ((l.drop (j + 1)).map wOf) E l[j].d.toNat
theorem tk_of {E : Nat → Prop} : ∀ {l : List O} {j : Nat}, DdA E l j → Tk E l (l.eraseIdx j)
  | [], j, h => by obtain ⟨h, _⟩ := h; simp at h
  | o :: l, 0, h => by
    obtain ⟨h0, h1, h2, h3, h4⟩ := h
    exact .inl ⟨h1, h2, h3, h4, rfl⟩
  | o :: l, j + 1, h => by
    obtain ⟨h0, h1, h2, h3, h4⟩ := h
    exact .inr ⟨l.eraseIdx j, rfl, tk_of ⟨by simpa using h0, h1, h2, h3, h4⟩⟩
theorem tk_dd {E : Nat → Prop} : ∀ {l m : List O}, Tk E l m → ∃ j, DdA E l j
  | [], _, h => h.elim
  | o :: l, m, h => by
    rcases h with ⟨h1, h2, h3, h4, -⟩ | ⟨m', -, h⟩
    · exact ⟨0, by simp, h1, h2, h3, h4⟩
    · obtain ⟨j, h0, h1, h2, h3, h4⟩ := tk_dd h
      exact ⟨j + 1, by simpa using h0, h1, h2, h3, h4⟩
/-- The j-th operation of the i-th block is dead. -/
def DdP (ps : List Bk) (i j : Nat) : Prop := ∃ h : i < ps.length, DdA (EndP (PB ps) (bOf ps[i])) ps[i].ops j
/-- A program without an operation. -/
def woP (ps : List Bk) (i j : Nat) : List Bk := if h : i < ps.length then ps.set i { ps[i] with ops := ps[i].ops.eraseIdx j } else ps
theorem woP_stp {ps : List Bk} {i j : Nat} (h : DdP ps i j) : Stp ps (woP ps i j) := by
  obtain ⟨hi, hd⟩ := h
  unfold woP
  rw [dif_pos hi]
  exact ⟨i, hi, _, tk_of hd, rfl⟩
theorem dd_nrm {ps : List Bk} (h : ∀ i j, ¬ DdP ps i j) : Nrm ps := by
  rintro qs ⟨i, hi, l, ht, -⟩
  obtain ⟨j, hj⟩ := tk_dd ht
  exact h i j ⟨hi, hj⟩
theorem erase_more {l : List O} {k t : Nat} (hk : k < l.length) (h : k ≠ t) : (l.take (k + 1)).eraseIdx t = (l.take k).eraseIdx t ++ [l[k]] := by
  rw [List.take_succ_eq_append_getElem hk]
  rcases Nat.lt_or_ge k t with hlt | hge
  · rw [List.eraseIdx_of_length_le (by simp; omega), List.eraseIdx_of_length_le (by simp; omega)]
  · rw [List.eraseIdx_append_of_lt_length (by simp; omega)]
theorem erase_same {l : List O} {k : Nat} (hk : k < l.length) : (l.take (k + 1)).eraseIdx k = (l.take k).eraseIdx k := by
  rw [List.take_succ_eq_append_getElem hk, List.eraseIdx_append_of_length_le (by simp; omega), List.eraseIdx_of_length_le (l := l.take k) (by simp; omega)]
  simp [Nat.min_eq_left (Nat.le_of_lt hk)]

/-- Two blocks side by side. -/
abbrev Two (q : Nat) : Nat → Prop := fun k => k = q ∨ k = q + 1
/-- A list's cells: new, or there from the beginning, whatever turns in the block z. -/
def Lor (z : Nat) (w V : World) (B : Nat) (a : Option Addr) (c : Nat) (xs : List O) : Prop := LRow V B a c xs ∨ ∀ W, Fr (Two z) w W → OpsAt W a xs
/-- A row of blocks under way: k blocks are there. -/
structure Rw (z : Nat) (w V : World) (B : Nat) (qs : List Bk) (k : Nat) (v : Value) (ls : List Pl) : Prop where
  len : ls.length = k
  row : V.ownsRow B 49 6 v k (bcells (qs.take k) ls)
  ins : ∀ (i : Nat) p x, ls[i]? = some p → qs[i]? = some x → Lor z w V B p.oa p.oc x.ops ∧ Lor z w V B p.ba p.bc x.body ∧ x.ops.length ≤ p.oc
theorem Lor.mono {z : Nat} {w V V' : World} {B : Nat} {a : Option Addr} {c : Nat} {xs : List O} (h : Lor z w V B a c xs) (f : LRow V B a c xs → LRow V' B a c xs) : Lor z w V' B a c xs := h.imp f id
theorem Rw.start (z : Nat) (w V : World) (B : Nat) (qs : List Bk) : Rw z w V B qs 0 (.slice none 0 0) [] := ⟨rfl, World.ownsRow_nil _ _ _ _, fun i p x hp => by simp at hp⟩
theorem Rw.up {z : Nat} {w V V' : World} {B k : Nat} {qs : List Bk} {v : Value} {ls : List Pl} (h : Rw z w V B qs k v ls) (hb : Below V.heap.size V V') : Rw z w V' B qs k v ls :=
  ⟨h.len, row_below h.row hb, fun i p x hp hx => ⟨(h.ins i p x hp hx).1.mono fun q => row_below q hb, (h.ins i p x hp hx).2.1.mono fun q => row_below q hb, (h.ins i p x hp hx).2.2⟩⟩
theorem Rw.setc {z : Nat} {w V : World} {B k : Nat} {qs : List Bk} {v : Value} {ls : List Pl} (h : Rw z w V B qs k v ls) {b j : Nat} (hb : b < B) (u : Value) : Rw z w (V.setCell ⟨b, j, none⟩ u) B qs k v ls :=
  ⟨h.len, row_set h.row hb u, fun i p x hp hx => ⟨(h.ins i p x hp hx).1.mono fun q => row_set q hb u, (h.ins i p x hp hx).2.1.mono fun q => row_set q hb u, (h.ins i p x hp hx).2.2⟩⟩
/-- A block more. -/
theorem Rw.put {z : Nat} {w V V' : World} {B k : Nat} {qs : List Bk} {v v' : Value} {ls : List Pl} {p : Pl} (h : Rw z w V B qs k v ls) (hk : k < qs.length) (ho : Lor z w V B p.oa p.oc qs[k].ops) (hy : Lor z w V B p.ba p.bc qs[k].body) (hc : qs[k].ops.length ≤ p.oc)
    (hg : V.grownBy V' v.ownBlock) (hown : V'.ownsRow B 49 6 v' (k + 1) (bcells (qs.take k) ls ++ [.slice p.oa qs[k].ops.length p.oc, .int .i8 qs[k].fin, .int .u8 qs[k].a, .slice p.ba qs[k].body.length p.bc, .int .i64 qs[k].thn, .int .i64 qs[k].els])) :
    Rw z w V' B qs (k + 1) v' (ls ++ [p]) := by
  have far : ∀ {a : Option Addr} {c : Nat} {xs : List O}, LRow V B a c xs → LRow V' B a c xs := fun hl => row_far hl h.row (by decide) hg
  refine ⟨by simp [h.len], ?_, ?_⟩
  · rw [List.take_succ_eq_append_getElem hk, bcells_snoc _ _ _ _ (by rw [h.len]; simp; omega)]
    exact hown
  · intro i p' x hp hx
    rcases Nat.lt_or_ge i k with hlt | hge
    · rw [List.getElem?_append_left (by rw [h.len]; exact hlt)] at hp
      exact ⟨(h.ins i p' x hp hx).1.mono far, (h.ins i p' x hp hx).2.1.mono far, (h.ins i p' x hp hx).2.2⟩
    · rw [List.getElem?_append_right (by rw [h.len]; exact hge), h.len] at hp
      have hi : i - k = 0 := by
        rcases Nat.eq_zero_or_pos (i - k) with h' | h'
        · exact h'
        · rw [List.getElem?_eq_none (by simp; omega)] at hp; cases hp
      rw [hi] at hp
      simp at hp
      subst hp
      obtain rfl : i = k := by omega
      rw [List.getElem?_eq_getElem hk] at hx
      obtain rfl := Option.some.inj hx
      exact ⟨ho.mono far, hy.mono far, hc⟩
theorem Lor.at {z : Nat} {w V : World} {B : Nat} {a : Option Addr} {c : Nat} {xs : List O} (h : Lor z w V B a c xs) (hb : Fr (Two z) w V) (hok : ∀ o, o ∈ xs → o.Ok) (hl : xs.length ≤ 8192) : OpsAt V a xs := by
  rcases h with h | h
  · exact opsAt_row h hok hl
  · exact h V hb
/-- A program in memory, whatever turns in the block z. -/
def PZ (z : Nat) (w : World) (ao : Option Addr) (ps : List Bk) : Prop := PAt w ao ps ∧ (0 < ps.length → ∃ b f, ao = some ⟨b, f, none⟩ ∧ ∃ pl : Nat → Pl, ∀ W, Fr (Two z) w W → b < W.heap.size ∧ ∀ i (hi : i < ps.length), BAt W b (f + i * 6) ps[i] (pl i) ∧ BIn W ps[i] (pl i))
theorem PZ.pat {z : Nat} {w W : World} {ao : Option Addr} {ps : List Bk} (h : PZ z w ao ps) (hF : Fr (Two z) w W) : PAt W ao ps :=
  ⟨h.1.len, fun h0 => by
    obtain ⟨b, f, e, pl, hx⟩ := h.2 h0
    obtain ⟨h1, h2⟩ := hx W hF
    exact ⟨b, f, e, h1, fun i hi => ⟨pl i, h2 i hi⟩⟩⟩
theorem PZ.up {z : Nat} {w W : World} {ao : Option Addr} {ps : List Bk} (h : PZ z w ao ps) (hF : Fr (Two z) w W) : PZ z W ao ps :=
  ⟨h.pat hF, fun h0 => by
    obtain ⟨b, f, e, pl, hx⟩ := h.2 h0
    exact ⟨b, f, e, pl, fun W' hF' => hx W' (hF.same hF')⟩⟩
theorem PZ.of {w w1 : World} {ao : Option Addr} {ps : List Bk} (h : PAt w ao ps) (hb : Below w.heap.size w w1) : PZ w.heap.size w1 ao ps :=
  ⟨h.below hb, fun h0 => by
    obtain ⟨b, f, e, h1, h2⟩ := h.is h0
    refine ⟨b, f, e, fun i => if hi : i < ps.length then Classical.choose (h2 i hi) else ⟨none, 0, none, 0⟩, fun W hF => ?_⟩
    have hbw : Below w.heap.size w W := hb.trans (hF.below hb.size fun j hj q => by rcases q with q | q <;> omega)
    refine ⟨Nat.lt_of_lt_of_le h1 hbw.size, fun i hi => ?_⟩
    simp only [dif_pos hi]
    obtain ⟨g1, g2⟩ := Classical.choose_spec (h2 i hi)
    exact ⟨g1.below hbw h1, g2.below hbw⟩⟩
theorem row_lo {X : Nat → Prop} {w w' : World} {B : Nat} {e : TypeId} {z : Nat} {v : Value} {n : Nat} {xs : List Value} (h : w.ownsRow B e z v n xs) (hF : Fr X w w') (hx : ∀ k, X k → k < B) : w'.ownsRow B e z v n xs := by
  refine ⟨h.1, ?_⟩
  rcases h.2 with hn | ⟨g, cap, cur, rfl, hb, hgg, rest⟩
  · exact .inl hn
  · refine .inr ⟨g, cap, cur, rfl, hb, ?_, rest⟩
    rw [hF.block g (Array.getElem?_eq_some_iff.1 hgg).1 (fun q => by have := hx g q; omega)]
    exact hgg
theorem two_lt {z B : Nat} (hz : z + 1 < B) : ∀ k, Two z k → k < B := fun k q => by rcases q with q | q <;> omega
theorem Rw.frz {z : Nat} {w V V' : World} {B k : Nat} {qs : List Bk} {v : Value} {ls : List Pl} (h : Rw z w V B qs k v ls) (hF : Fr (Two z) V V') (hz : z + 1 < B) : Rw z w V' B qs k v ls :=
  ⟨h.len, row_lo h.row hF (two_lt hz), fun i p x hp hx => ⟨(h.ins i p x hp hx).1.mono fun q => row_lo q hF (two_lt hz), (h.ins i p x hp hx).2.1.mono fun q => row_lo q hF (two_lt hz), (h.ins i p x hp hx).2.2⟩⟩
theorem Rw.is {z : Nat} {w V : World} {B : Nat} {qs : List Bk} {g c : Nat} {ls : List Pl} (h : Rw z w V B qs qs.length (.slice (some ⟨g, 0, none⟩) qs.length c) ls) (hb : Fr (Two z) w V) (hs : Small qs) {i : Nat} (hi : i < qs.length) (hi' : i < ls.length) : BAt V g (0 + i * 6) qs[i] ls[i] ∧ BIn V qs[i] ls[i] := by
  have hrow := h.row
  rw [List.take_length] at hrow
  obtain ⟨g0, g1, g2, g3, g4, g5⟩ := bcells_get qs ls h.len.symm i hi hi'
  have k : ∀ j u, (bcells qs ls)[j]? = some u → V.cell? ⟨g, 0 + j, none⟩ = some u := fun j u hj => by have := hrow.cells (g := g) rfl j u hj; rw [add_at] at this; exact this
  obtain ⟨s1, s2, s3, s4, s5⟩ := hs.l qs[i] (List.getElem_mem hi)
  obtain ⟨r1, r2, t2⟩ := h.ins i ls[i] qs[i] (List.getElem?_eq_getElem hi') (List.getElem?_eq_getElem hi)
  have t1 := r1.at hb s2 s4
  have t3 := r2.at hb s3 s5
  exact ⟨⟨k _ _ g0, k _ _ g1, k _ _ g2, k _ _ g3, k _ _ g4, k _ _ g5⟩, ⟨s1, t1, t3, t2⟩⟩
theorem Rw.done {z : Nat} {w V : World} {B : Nat} {qs : List Bk} {v : Value} {ls : List Pl} (h : Rw z w V B qs qs.length v ls) (hb : Fr (Two z) w V) (hz : z + 1 < B) (hs : Small qs) : ∃ a c, v = .slice a qs.length c ∧ PZ z V a qs := by
  have hrow := h.row
  rw [List.take_length] at hrow
  rcases hrow.2 with ⟨rfl, h0⟩ | ⟨g, c, cur, rfl, _⟩
  · obtain rfl : qs = [] := List.eq_nil_of_length_eq_zero h0
    exact ⟨none, 0, rfl, pAt_nil _ _, fun h0 => by simp at h0⟩
  · have hl : ∀ i, i < qs.length → i < ls.length := fun i hi => by rw [h.len]; exact hi
    have hgl := (hrow.lt g rfl).2
    refine ⟨_, _, rfl, ⟨by have := hs.n; omega, fun h0 => ⟨g, 0, rfl, hgl, fun i hi => ⟨ls[i]'(hl i hi), h.is hb hs hi (hl i hi)⟩⟩⟩, fun h0 => ⟨g, 0, rfl, fun i => if hi : i < ls.length then ls[i] else ⟨none, 0, none, 0⟩, fun W hF => ⟨Nat.lt_of_lt_of_le hgl hF.size, fun i hi => ?_⟩⟩⟩
    simp only [dif_pos (hl i hi)]
    exact (h.frz hF hz).is (hb.same hF) hs hi (hl i hi)
end Go.Proofs.YtddcndlogoajkaaGreatDoor.L8.Bt
namespace Go.Proofs.YtddcndlogoajkaaGreatDoor.L8.Bt
open Go.ChangeShapes Go.WideShapes Go.ChangeAt Go.RowKit Go.Great
open _root_.Go.Proofs.YtddcndlogoajkaaGreatDoor.L8.Op _root_.Go.Proofs.YtddcndlogoajkaaGreatDoor.L8.So
open _root_.Go.Proofs.YtddcndlogoajkaaGreatDoor.L8.Lv (rdL wOf PsOk psOk_of)
set_option maxRecDepth 20000

theorem small_g {qs : List Bk} (h : PsG qs) : Small qs :=
  ⟨by have := h.n; omega, fun x hx => by
    have hb := h.b x hx
    obtain ⟨h1, h2⟩ := psG_small h x hx
    exact ⟨hb.ok, fun o ho => (hb.o o ho).1, fun o ho => (hb.b o ho).1, h1, h2⟩⟩
theorem list_lrow (ao : Option Addr) (cap : Nat) (xs : List O) (w : World) (h : OpsAt w ao xs) (hok : ∀ o ∈ xs, o.Ok ∧ okP o = true) (hl : xs.length ≤ 8192) :
    Calls Tryz.prog 23 #[.slice ao xs.length cap] w fun e w' => ∃ a c M, e = .returned (.tuple #[.slice a xs.length c, .agg (rA (fdK kn0 xs) M)]) ∧ LRow w' w.heap.size a c (fdL kn0 xs) ∧ Say (fdK kn0 xs) M ∧ Below w.heap.size w w' := by
  refine (list_any ao cap xs w h hok hl).mono ?_
  rintro e w' ⟨v, M, rfl, h1, h2, h3⟩
  have e1 := fdL_len kn0 xs
  rcases h1.2 with ⟨rfl, h0⟩ | ⟨g, c, cur, rfl, hh⟩
  · refine ⟨none, 0, M, by rw [h0], ?_, h2, h3⟩
    unfold LRow
    rw [e1]
    rw [h0] at h1 ⊢
    exact h1
  · refine ⟨_, c, M, rfl, ?_, h2, h3⟩
    unfold LRow
    rw [e1]
    exact h1
/-- The folding under way: the boxes, the row of blocks. -/
structure Fz (zz : Nat) (w W : World) (q : Nat) (ao : Option Addr) (n cap : Nat) (qs : List Bk) (k : Nat) (v : Value) (ls : List Pl) : Prop where
  b : Below w.heap.size w W
  zw : zz ≤ w.heap.size
  q2 : w.heap.size + 2 ≤ q
  z : q < W.heap.size
  p : At W w.heap.size #[.slice ao n cap]
  r : At W (w.heap.size + 1) #[.slice none 0 0]
  o : At W q #[v]
  row : Rw zz w W (q + 1) qs k v ls
section
variable {z : Nat} {w W W' : World} {q : Nat} {ao : Option Addr} {n cap k : Nat} {qs : List Bk} {v v' : Value} {ls : List Pl}
theorem Fz.up (h : Fz z w W q ao n cap qs k v ls) (hb : Below W.heap.size W W') : Fz z w W' q ao n cap qs k v ls :=
  ⟨h.b.trans (hb.mono h.b.size), h.zw, h.q2, Nat.lt_of_lt_of_le h.z hb.size, h.p.below hb h.p.lt, h.r.below hb h.r.lt, h.o.below hb h.o.lt, h.row.up hb⟩
theorem Fz.start (z : Nat) (w : World) (ao : Option Addr) (n cap : Nat) (qs : List Bk) (w1 : World) (hb : Below w.heap.size w w1) (h1 : At w1 w.heap.size #[.slice ao n cap]) (h2 : At w1 (w.heap.size + 1) #[.slice none 0 0]) (hz : z ≤ w.heap.size) : Fz z w (w1.alloc (.cells #[.slice none 0 0] 24)) w1.heap.size ao n cap qs 0 (.slice none 0 0) [] := by
  have hb3 : Below w1.heap.size w1 (w1.alloc (.cells #[.slice none 0 0] 24)) := below_al _
  exact ⟨hb.trans (hb3.mono hb.size), hz, h2.lt, by simp, h1.below hb3 h1.lt, h2.below hb3 h2.lt, Op.At.new w1 _ 24, Rw.start _ _ _ _ _⟩
theorem Fz.box (h : Fz z w W q ao n cap qs k v ls) (hg : W.grownBy W' v.ownBlock) : At W' q #[v] := h.o.below ((Below.refl _ _).grown hg h.z fun b hb => (h.row.row.lt b hb).1) (Nat.lt_succ_self _)
theorem Fz.put {p : Pl} (h : Fz z w W q ao n cap qs k v ls) (hk : k < qs.length) (ho : Lor z w W (q + 1) p.oa p.oc qs[k].ops) (hy : Lor z w W (q + 1) p.ba p.bc qs[k].body) (hc : qs[k].ops.length ≤ p.oc) (hg : W.grownBy W' v.ownBlock)
    (hown : W'.ownsRow (q + 1) 49 6 v' (k + 1) (bcells (qs.take k) ls ++ [.slice p.oa qs[k].ops.length p.oc, .int .i8 qs[k].fin, .int .u8 qs[k].a, .slice p.ba qs[k].body.length p.bc, .int .i64 qs[k].thn, .int .i64 qs[k].els])) :
    Fz z w (W'.setCell ⟨q, 0, none⟩ v') q ao n cap qs (k + 1) v' (ls ++ [p]) := by
  have hr : ∀ b, v.ownBlock = some b → q + 1 ≤ b := fun b hb => (h.row.row.lt b hb).1
  have hb : Below (q + 1) W W' := (Below.refl _ _).grown hg h.z hr
  have h2 := h.q2
  exact ⟨(h.b.trans (hb.mono (by omega))).setCell (by show w.heap.size ≤ q; omega) _, h.zw, h2, by rw [World.size_setCell]; exact Nat.lt_of_lt_of_le h.z hg.size, (h.p.below hb (by omega)).other (by omega) _, (h.r.below hb (by omega)).other (by omega) _, (h.o.below hb (by omega)).set (j := 0) (by simp) v', (h.row.put hk ho hy hc hg hown).setc (by omega) v'⟩
theorem Fz.done (h : Fz z w W q ao n cap qs qs.length v ls) (hs : Small qs) (u : Value) : ∃ a c, v = .slice a qs.length c ∧ PZ z (W.setCell ⟨w.heap.size + 1, 0, none⟩ u) a qs ∧ Below w.heap.size w (W.setCell ⟨w.heap.size + 1, 0, none⟩ u) := by
  have hb : Below w.heap.size w (W.setCell ⟨w.heap.size + 1, 0, none⟩ u) := h.b.setCell (by show w.heap.size ≤ w.heap.size + 1; omega) u
  have h2 := h.q2
  obtain ⟨a, c, e, hp⟩ := (h.row.setc (b := w.heap.size + 1) (j := 0) (by omega) u).done (Fr.of hb) (by have := h.zw; omega) hs
  exact ⟨a, c, e, hp, hb⟩
end
set_option maxHeartbeats 4000000 in
theorem rfold_no (ao : Option Addr) (cap : Nat) (ps : List Bk) (w : World) (h : PAt w ao ps) (hc : ckP ps ≠ 0) :
    Calls Tryz.prog 9 #[.agg #[.slice ao ps.length cap]] w fun e w' => e = .returned (.tuple #[.agg #[.slice none 0 0], .int .i64 (ckP ps)]) ∧ Below w.heap.size w w' := by
  have HC : Hid (∀ W, Below w.heap.size w W → Calls Tryz.prog 22 #[.agg #[.slice ao ps.length cap]] W fun e w' => e = .returned (.int .i64 (ckP ps)) ∧ Below W.heap.size W w') := fun W hb => refCheckP_any ao cap ps W (h.below hb)
  have HB0 : Hid (Below w.heap.size w ((w.alloc (.cells #[.slice ao ps.length cap] 24)).alloc (.cells #[.slice none 0 0] 24))) := ((Below.refl _ _).alloc (Nat.le_refl _) _).alloc (by simp) _
  have hc' : (ckP ps == 0) = false := by simpa using hc
  clear h
  generalize ckP ps = E at *
  go_enter Tryz.func9, Tryz.ntmps9
  go_wp2_with (first
    | (go_at_call 22; go_loud (refine Calls.mono (HC.out _ HB0.out) ?_; rintro e w1 ⟨rfl, hb⟩; obtain ⟨a1, a2, hb0, hz, hz1⟩ := two_new w _ _ _ _ hb; have r0 := a2.c 0 _ rfl; have f0 := a2.f 0; have r1 := a1.c 0 _ rfl; have HB : Hid (Below w.heap.size w w1) := hb0; clear hb hb0 a1 a2 HC HB0)))
  refine bodyPost_ret (v := .tuple #[.agg #[.slice none 0 0], .int .i64 E]) (by simp [results, Tryz.results9, go_sem, cs r0]) rfl ⟨rfl, HB.out.setCell (Nat.le_succ _) _⟩
end Go.Proofs.YtddcndlogoajkaaGreatDoor.L8.Bt
