/- What package table's linesOf answers: a new slice of lines, of each its words and its end, read off the program by the walk. Conditions: the text has at most 65536 bytes; the library's variable MaxLen holds some number. -/
import Derived.Test.YtgabnjiapkkjaaaGreatDoorWo
namespace Go.Proofs.YtgabnjiapkkjaaaGreatDoor.Tb
open Go.ChangeShapes Go.WideShapes Go.ChangeAt Go.RowKit

theorem indexByte_parts {l : List UInt8} {c : UInt8} {i : Nat} (h : Lib.indexByte l c = i) : ∃ r, l = l.take i ++ c :: r ∧ l.drop (i + 1) = r ∧ (∀ b ∈ l.take i, b ≠ c) := by
  obtain ⟨h1, h2⟩ := Lib.indexByte_some h
  have hi : i < l.length := by
    rcases Nat.lt_or_ge i l.length with h' | h'
    · exact h'
    · rw [List.getElem?_eq_none h'] at h1; cases h1
  have e : l[i] = c := by rw [List.getElem?_eq_getElem hi] at h1; exact Option.some.inj h1
  refine ⟨l.drop (i + 1), ?_, rfl, ?_⟩
  · rw [← e, ← List.drop_eq_getElem_cons hi, List.take_append_drop]
  · intro b hb
    obtain ⟨k, hk, rfl⟩ := List.getElem_of_mem hb
    have hk' : k < i := by simp at hk; omega
    have := h2 k hk'
    intro hc
    apply this
    rw [List.getElem_take] at hc
    rw [List.getElem?_eq_getElem (by omega), hc]
theorem indexByte_no {l : List UInt8} {c : UInt8} (h : Lib.indexByte l c = -1) : ∀ b ∈ l, b ≠ c := by
  intro b hb hc
  obtain ⟨k, hk, rfl⟩ := List.getElem_of_mem hb
  exact Lib.indexByte_none h k (by rw [List.getElem?_eq_getElem hk, hc])

theorem splitK_eq : ∀ (k : Nat) (s : List UInt8), s.count 10 ≤ k → Lib.splitK [10] 0 k s = splitN0 s
  | 0, s, h => by
    rw [Lib.splitK, splitN0_no s (fun b hb hc => by
      subst hc
      have := List.count_pos_iff.2 hb
      omega)]
  | k + 1, s, h => by
    rw [Lib.splitK, Lib.index_one]
    by_cases h1 : Lib.indexByte s 10 = -1
    · rw [if_pos (by simp [h1]), splitN0_no s (indexByte_no h1)]
    · have hge := Lib.indexByte_ge s 10
      obtain ⟨i, hi⟩ : ∃ i : Nat, Lib.indexByte s 10 = i := Int.eq_ofNat_of_zero_le (by omega)
      rw [if_neg (by simp [h1]), hi]
      obtain ⟨r, e1, e2, e3⟩ := indexByte_parts hi
      have hc : r.count 10 ≤ k := by
        rw [e1, List.count_append, List.count_cons_self] at h; omega
      simp only [Int.toNat_natCast, Nat.add_zero, List.length_singleton]
      rw [e2, splitK_eq k r hc]
      conv => rhs; rw [e1]
      rw [splitN0_cut _ _ e3]
theorem takeWhile_parts {c : UInt8} : ∀ (a r : List UInt8), (∀ b ∈ a, b ≠ c) → (a ++ c :: r).takeWhile (fun b => b != c) = a
  | [], r, _ => by simp
  | b :: a, r, h => by
    have h1 := takeWhile_parts a r (fun x hx => h x (List.mem_cons_of_mem _ hx))
    have h2 : b ≠ c := h b (List.mem_cons_self ..)
    simp [h1, h2]
theorem takeWhile_all {c : UInt8} : ∀ (a : List UInt8), (∀ b ∈ a, b ≠ c) → a.takeWhile (fun b => b != c) = a
  | [], _ => by simp
  | b :: a, h => by
    have h1 := takeWhile_all a (fun x hx => h x (List.mem_cons_of_mem _ hx))
    have h2 : b ≠ c := h b (List.mem_cons_self ..)
    simp [h1, h2]
theorem cut_said (s : List UInt8) : (Lib.cut s [35]).1 = said s := by
  unfold Lib.cut said
  rw [Lib.index_one]
  by_cases h1 : Lib.indexByte s 35 = -1
  · rw [h1, takeWhile_all s (indexByte_no h1)]; rfl
  · have hge := Lib.indexByte_ge s 35
    obtain ⟨i, hi⟩ : ∃ i : Nat, Lib.indexByte s 35 = i := Int.eq_ofNat_of_zero_le (by omega)
    obtain ⟨r, e1, e2, e3⟩ := indexByte_parts hi
    rw [hi, if_pos (by omega)]
    conv => rhs; rw [e1]
    rw [takeWhile_parts _ _ e3]; simp
theorem splitB_eq (s : ByteArray) : (Lib.splitB ⟨#[10]⟩ 0 (Lib.countB s ⟨#[10]⟩) s).map (·.data.toList) = splitN0 s.data.toList := by
  rw [Lib.splitB_data]
  show Lib.splitK [10] 0 (Lib.count s.data.toList [10]) s.data.toList = _
  rw [Lib.count_one, splitK_eq _ _ (Nat.le_refl _)]

theorem row_le {w : World} {b b' : Nat} {e : TypeId} {z : Nat} {v : Value} {n : Nat} {xs : List Value} (h : w.ownsRow b e z v n xs) (hb : b' ≤ b) : w.ownsRow b' e z v n xs := by
  refine ⟨h.1, h.2.imp id ?_⟩
  rintro ⟨g, cap, cur, h1, h2, h3⟩
  exact ⟨g, cap, cur, h1, Nat.le_trans hb h2, h3⟩
theorem row_below {w w' : World} {B : Nat} {e : TypeId} {z : Nat} {v : Value} {n : Nat} {xs : List Value} (h : w.ownsRow B e z v n xs) (hb : Below w.heap.size w w') : w'.ownsRow B e z v n xs :=
  h.kept (row := none) ⟨hb.os, hb.tape, hb.output, hb.size, fun k hk _ => hb.block k hk⟩ (by cases v.ownBlock <;> simp)
theorem row_far {w w' : World} {B B' : Nat} {e e' : TypeId} {z z' : Nat} {u v : Value} {n m : Nat} {xs ys : List Value} (h : w.ownsRow B e z u n xs) (hv : w.ownsRow B' e' z' v m ys) (he : e ≠ e') (hg : w.grownBy w' v.ownBlock) : w'.ownsRow B e z u n xs := by
  refine h.kept hg ?_
  rcases h.2 with ⟨rfl, _⟩ | ⟨g, cap, cur, rfl, _, h3, _⟩
  · left; rfl
  · right
    rcases hv.2 with ⟨rfl, _⟩ | ⟨g', cap', cur', rfl, _, h3', _⟩
    · simp [Value.ownBlock]
    · simp only [Value.ownBlock, ne_eq, Option.some.injEq]
      rintro rfl
      rw [h3] at h3'
      simp at h3'
      exact he h3'.2

def lcells (vs : List Value) (es : List Nat) : List Value := (vs.zip es).flatMap fun x => [x.1, .int .i64 (x.2 : Int)]
theorem lcells_snoc (vs : List Value) (es : List Nat) (v : Value) (e : Nat) (h : vs.length = es.length) : lcells (vs ++ [v]) (es ++ [e]) = lcells vs es ++ [v, .int .i64 (e : Int)] := by
  simp [lcells, List.zip_append h]
/-- A slice of lines in memory. -/
def LinesAt (w : World) (B : Nat) (v : Value) (ls : List (List (Nat × List UInt8) × Nat)) : Prop :=
  ∃ vs : List Value, vs.length = ls.length ∧ w.ownsRow B 84 2 v ls.length (lcells vs (ls.map (·.2))) ∧ ∀ (i : Nat) u l, vs[i]? = some u → ls[i]? = some l → w.ownsRow B 90 2 u l.1.length (wcells l.1)
theorem LinesAt.below {w w' : World} {B : Nat} {v : Value} {ls : List (List (Nat × List UInt8) × Nat)} (h : LinesAt w B v ls) (hb : Below w.heap.size w w') : LinesAt w' B v ls := by
  obtain ⟨vs, h1, h2, h3⟩ := h
  exact ⟨vs, h1, row_below h2 hb, fun i u l hu hl => row_below (h3 i u l hu hl) hb⟩
theorem LinesAt.le {w : World} {B B' : Nat} {v : Value} {ls : List (List (Nat × List UInt8) × Nat)} (h : LinesAt w B v ls) (hb : B' ≤ B) : LinesAt w B' v ls := by
  obtain ⟨vs, h1, h2, h3⟩ := h
  exact ⟨vs, h1, row_le h2 hb, fun i u l hu hl => row_le (h3 i u l hu hl) hb⟩
theorem LinesAt.nil (w : World) (B : Nat) : LinesAt w B (.slice none 0 0) [] := ⟨[], rfl, World.ownsRow_nil _ _ _ _, fun i u l hu => by simp at hu⟩
theorem LinesAt.put {w w' : World} {B : Nat} {v v' u : Value} {ls : List (List (Nat × List UInt8) × Nat)} {ws : List (Nat × List UInt8)} {e : Nat} {vs : List Value}
    (h1 : vs.length = ls.length) (h2 : w.ownsRow B 84 2 v ls.length (lcells vs (ls.map (·.2)))) (h3 : ∀ (i : Nat) u l, vs[i]? = some u → ls[i]? = some l → w.ownsRow B 90 2 u l.1.length (wcells l.1))
    (hu : w.ownsRow B 90 2 u ws.length (wcells ws)) (hg : w.grownBy w' v.ownBlock) (hown : w'.ownsRow B 84 2 v' (ls.length + 1) (lcells vs (ls.map (·.2)) ++ [u, .int .i64 (e : Int)])) : LinesAt w' B v' (ls ++ [(ws, e)]) := by
  refine ⟨vs ++ [u], by simp [h1], ?_, ?_⟩
  · rw [List.map_append, List.map_singleton, lcells_snoc _ _ _ _ (by simp [h1]), List.length_append]; exact hown
  · intro i u' l hu' hl
    rcases Nat.lt_or_ge i ls.length with hlt | hge
    · rw [List.getElem?_append_left (by omega)] at hu' hl
      exact row_far (h3 i u' l hu' hl) h2 (by decide) hg
    · have hi : i = ls.length := by
        rcases Nat.lt_or_ge ls.length i with h' | h'
        · rw [List.getElem?_eq_none (by simp; omega)] at hl; cases hl
        · omega
      subst hi
      rw [← h1, List.getElem?_append_right (Nat.le_refl _)] at hu'
      rw [List.getElem?_append_right (Nat.le_refl _)] at hl
      simp at hu' hl
      subst hu' hl
      exact row_far hu h2 (by decide) hg

theorem wordsOf_slice (s : ByteArray) (at0 : Nat) (w : World) (hs : s.size ≤ 200000) (ha : at0 ≤ 200000) :
    Calls Tryz.prog 48 #[.string s, .int .i64 at0] w fun e w' => ∃ a n c, e = .returned (.slice a n c) ∧ w'.ownsRow w.heap.size 90 2 (.slice a n c) (wordsS s.data.toList at0 []).length (wcells (wordsS s.data.toList at0 [])) ∧ Below w.heap.size w w' :=
  (wordsOf_any s at0 w hs ha).mono fun _ _ ⟨v, h1, h2, h3⟩ => by
    have h2' := h2
    rcases h2.2 with ⟨rfl, _⟩ | ⟨g, cap, cur, rfl, _⟩
    · exact ⟨none, 0, 0, h1, h2', h3⟩
    · exact ⟨_, _, _, h1, h2', h3⟩

theorem cut_call (s : ByteArray) (m : Int) (w : World) (hs : s.size ≤ 200000) (hm : w.cell? ⟨7, 0, none⟩ = some (.int .i64 m)) :
    Calls Tryz.prog 47 #[.string s, .string ⟨#[35]⟩] w fun e w' => (∃ a b, e = .returned (.tuple #[.string ⟨(said s.data.toList).toArray⟩, .string a, .bool b])) ∧ ∃ n, w' = w.drewN n := by
  refine (Tryz.strings_Cut s ⟨#[35]⟩ m w (by omega) hm).mono ?_
  rintro e w' ⟨rfl, hw⟩
  exact ⟨⟨⟨(Lib.cut s.data.toList [35]).2.1.toArray⟩, (Lib.cut s.data.toList [35]).2.2, by rw [← cut_said]⟩, hw⟩

theorem wordsOf_list (l : List UInt8) (at0 : Nat) (w : World) (hs : l.length ≤ 200000) (ha : at0 ≤ 200000) :
    Calls Tryz.prog 48 #[.string ⟨l.toArray⟩, .int .i64 at0] w fun e w' => ∃ a n c, e = .returned (.slice a n c) ∧ w'.ownsRow w.heap.size 90 2 (.slice a n c) (wordsS l at0 []).length (wcells (wordsS l at0 [])) ∧ Below w.heap.size w w' := by
  have h := wordsOf_slice ⟨l.toArray⟩ at0 w hs ha
  simpa using h

theorem below_drewN {B : Nat} {w w' : World} (h : Below B w w') (n : Nat) : Below B w (w'.drewN n) := ⟨h.os, h.tape, h.output, h.size, h.block⟩

/-- The lines of a text. -/
def linesT (s : List UInt8) : List (List (Nat × List UInt8) × Nat) := linesL (splitN0 s) 0

theorem tot_ge (ps : List (List UInt8)) : ps.length ≤ tot ps := by
  induction ps with
  | nil => simp [tot]
  | cons x xs ih => rw [tot_cons]; simp; omega

set_option maxRecDepth 20000 in
set_option maxHeartbeats 2000000 in
theorem linesOf_any (s : ByteArray) (mx : Int) (w : World) (hs : s.size ≤ 65536) (hm : w.cell? ⟨7, 0, none⟩ = some (.int .i64 mx)) (h14 : 14 ≤ w.heap.size) :
    Calls Tryz.prog 32 #[.string s] w fun e w' => ∃ v, e = .returned v ∧ LinesAt w' w.heap.size v (linesT s.data.toList) ∧ Below w.heap.size w w' := by
  have hsp := Tryz.strings_Split s ⟨#[10]⟩ mx w (by omega) hm (by decide)
  have hpe := splitB_eq s
  obtain ⟨bs, hbs⟩ : ∃ bs, bs = Lib.splitB ⟨#[10]⟩ 0 (Lib.countB s ⟨#[10]⟩) s := ⟨_, rfl⟩
  rw [← hbs] at hsp hpe
  have htot := tot_split s.data.toList
  have hlen : bs.length = Lib.countB s ⟨#[10]⟩ + 1 := by rw [hbs]; exact Lib.splitB_all ⟨#[10]⟩ (by decide) 0 _ s rfl
  rw [← hlen] at hsp
  have hN : bs.length ≤ 65537 := by
    have h1 := tot_ge (splitN0 s.data.toList)
    have h2 : (splitN0 s.data.toList).length = bs.length := by rw [← hpe]; simp
    have h3 : s.data.toList.length = s.size := rfl
    omega
  have Hsp : Hid _ := hsp
  have hpl : (splitN0 s.data.toList).length = bs.length := by rw [← hpe]; simp
  have hget : ∀ (j : Nat) (hj : j < bs.length), (splitN0 s.data.toList)[j]? = some (bs[j].data.toList) := fun j hj => by rw [← hpe]; simp [hj]
  have htt : tot (splitN0 s.data.toList) = s.size + 1 := htot
  obtain ⟨ps, hps⟩ : ∃ ps, ps = splitN0 s.data.toList := ⟨_, rfl⟩
  unfold linesT
  rw [← hps] at hpl hget htt ⊢
  have HP : Hid (ps.length = bs.length ∧ tot ps = s.size + 1 ∧ ∀ (j : Nat) (hj : j < bs.length), ps[j]? = some (bs[j].data.toList)) := ⟨hpl, htt, hget⟩
  obtain ⟨i0, hi, hi2⟩ := Option.map_eq_some_iff.1 info84
  simp only [Prod.mk.injEq] at hi2
  obtain ⟨hz0, hz1, hz2⟩ := hi2
  have HI : Hid (Tryz.prog.info? 84 = some i0 ∧ i0.zero = some (.agg #[.slice none 0 0, .int .i64 0]) ∧ i0.size = 2 ∧ i0.bytes = 32) := ⟨hi, hz0, hz1, hz2⟩
  have hw1c : ∀ (j : Nat) (hj : j < bs.length), (w.alloc (.cells (bs.map Value.string).toArray 9)).cell? ⟨w.heap.size, j, none⟩ = some (.string bs[j]) := fun j hj => by simp [hj]
  have hw1b : Below w.heap.size w (w.alloc (.cells (bs.map Value.string).toArray 9)) := (Below.refl _ _).alloc (Nat.le_refl _) _
  have hw1z : (w.alloc (.cells (bs.map Value.string).toArray 9)).heap.size = w.heap.size + 1 := by simp
  obtain ⟨w1, hw1⟩ : ∃ w1, w1 = w.alloc (.cells (bs.map Value.string).toArray 9) := ⟨_, rfl⟩
  rw [← hw1] at Hsp hw1c hw1b hw1z
  have HW : Hid ((∀ (j : Nat) (hj : j < bs.length), w1.cell? ⟨w.heap.size, j, none⟩ = some (.string bs[j])) ∧ Below w.heap.size w w1 ∧ w1.heap.size = w.heap.size + 1) := ⟨hw1c, hw1b, hw1z⟩
  clear hi hz0 hz1 hz2 hsp hpe htot hbs hlen hps hpl hget htt hw1c hw1b hw1z hw1
  go_enter Tryz.func32, Tryz.ntmps32
  go_wp2_with (first | (go_at_call 46; refine Calls.mono Hsp.out ?_; rintro e w' ⟨rfl, hw⟩; subst w'))
  go_loopw [3, 4, 13] (fun v a i wr => ∃ (j a0 : Nat) (acc : List (List (Nat × List UInt8) × Nat)), j ≤ bs.length ∧ i = .int .i64 j ∧ a = .int .i64 a0 ∧ acc.length ≤ 65537 ∧ Hid (acc.length = j ∧ acc ++ linesL (ps.drop j) a0 = linesL ps 0 ∧ a0 + tot (ps.drop j) = s.size + 1) ∧ LinesAt wr (w.heap.size + 1) v acc ∧ Below (w.heap.size + 1) w1 wr) (fun _ _ i _ => bs.length - (intOf i).toNat)
  case atStart => exact ⟨0, 0, [], by omega, rfl, rfl, by simp, ⟨rfl, rfl, (by simpa using HP.out.2.1)⟩, LinesAt.nil _ _, Below.refl _ _⟩
  case round =>
    rename_i wr
    obtain ⟨j, a0, acc, hj, rfl, rfl, hacl, Hacc, hLi, hbw⟩ := hrel
    by_cases hlt : j < bs.length
    · have hcell : wr.cell? ⟨w.heap.size, j, none⟩ = some (.string bs[j]) := by rw [(bcell hbw).1 _ _ (by omega)]; exact HW.out.1 j hlt
      have hmr : wr.cell? ⟨7, 0, none⟩ = some (.int .i64 mx) := by rw [(bcell hbw).1 _ _ (by omega), (bcell HW.out.2.1).1 _ _ (by omega)]; exact hm
      have hjp : j < ps.length := by rw [HP.out.1]; exact hlt
      have hpj : ps[j] = bs[j].data.toList := by
        have := HP.out.2.2 j hlt
        rw [List.getElem?_eq_getElem hjp] at this
        exact Option.some.inj this
      have htj := tot_step ps j hjp
      have hln := linesL_step ps j a0 hjp
      rw [hpj] at htj hln
      have hbl : bs[j].data.toList.length = bs[j].size := rfl
      rw [hbl] at htj hln
      have htt := Hacc.out.2.2
      have hsz : a0 + bs[j].size ≤ 65536 := by omega
      have hsd : (said bs[j].data.toList).length ≤ bs[j].size := said_len _
      have HF : Hid (ps.length = bs.length ∧ acc ++ [(wordsS (said bs[j].data.toList) a0 [], a0 + (said bs[j].data.toList).length)] ++ linesL (ps.drop (j + 1)) (a0 + (bs[j].size + 1)) = linesL ps 0 ∧ a0 + (bs[j].size + 1) + tot (ps.drop (j + 1)) = s.size + 1) := by
        refine ⟨HP.out.1, ?_, by omega⟩
        rw [← Hacc.out.2.1, hln, List.append_assoc]; rfl
      clear htj hln hpj hbl htt
      obtain ⟨vs, hv1, hv2, hv3⟩ := hLi
      have Hv : Hid (vs.length = acc.length ∧ ∀ (i : Nat) u l, vs[i]? = some u → acc[i]? = some l → wr.ownsRow (w.heap.size + 1) 90 2 u l.1.length (wcells l.1)) := ⟨hv1, hv3⟩
      clear hv1 hv3
      have hwz : w.heap.size + 1 ≤ wr.heap.size := by have h := hbw.size; rw [HW.out.2.2] at h; exact h
      go_wp2_with (first
        | (go_at_call 47; refine (cut_call _ mx _ (by omega) hmr).mono ?_; rintro e w' ⟨⟨ca, cb, rfl⟩, nd, hw⟩; subst w')
        | (go_at_call 48; refine (wordsOf_list _ a0 _ (by omega) (by omega)).mono ?_; rintro e w2 ⟨sa, sn, sc, rfl, hrow, hb2'⟩; have hb2 : Below wr.heap.size wr w2 := ⟨hb2'.os, hb2'.tape, hb2'.output, hb2'.size, hb2'.block⟩)
        | (at_builtin; refine wpList_append_lies _ rfl _ _ 80 rfl (w.heap.size + 1) 84 i0 (.agg #[.slice none 0 0, .int .i64 0]) 2 32 Tryz.underlying80 HI.out.1 HI.out.2.1 HI.out.2.2.1 HI.out.2.2.2 rfl (by decide) _ _ _ rfl ((row_below hv2 hb2).alloc _) ⟨w2.heap.size, 0, none⟩ 1 1 [.slice sa sn sc, .int .i64 ((a0 : Int) + ((said bs[j].data.toList).length : Int))] rfl rfl (World.news_of_block (heap_alloc_new w2 _)) (by simp [Value.oneCell']) (by decide) (by unfold maxLen; omega) (by omega) (by have := hb2.size; simp; omega) (w2.heap.size + 1) (by simp) ?_; intro g cap w3 hown1 hgrow hat hlt3))
      have hb2s := hb2.size
      have hA : Below wr.heap.size wr (w2.alloc (Obj.cells #[Value.slice sa sn sc, Value.int IntKind.i64 ((a0 : Int) + ((said bs[j].data.toList).length : Int))] 84)) := hb2.alloc hb2.size _
      have hfin : LinesAt w3 (w.heap.size + 1) (.slice (some ⟨g, 0, none⟩) (acc.length + 1) cap) (acc ++ [(wordsS (said bs[j].data.toList) a0 [], a0 + (said bs[j].data.toList).length)]) :=
        LinesAt.put (w := w2.alloc (Obj.cells #[Value.slice sa sn sc, Value.int IntKind.i64 ((a0 : Int) + ((said bs[j].data.toList).length : Int))] 84)) Hv.out.1 (row_below hv2 hA) (fun i u l hu hl => row_below (Hv.out.2 i u l hu hl) hA) ((row_le hrow hwz).alloc _) hgrow (by simpa using hown1)
      have hbf : Below (w.heap.size + 1) w1 w3 := (hbw.trans (hA.mono (by have := hbw.size; rw [HW.out.2.2] at this; exact this))).grown hgrow (by have h1 := hbw.size; rw [HW.out.2.2] at h1; simp; omega) (fun b hb => (hv2.lt b hb).1)
      go_roundw
      case rel => exact ⟨j + 1, a0 + (bs[j].size + 1), acc ++ [(wordsS (said bs[j].data.toList) a0 [], a0 + (said bs[j].data.toList).length)], by omega, by go_num, by go_num, by have := Hacc.out.1; simp; omega, ⟨by simp [Hacc.out.1], HF.out.2⟩, hfin, hbf⟩
      case measure => simp [intOf]; omega
    · obtain rfl : j = bs.length := by omega
      go_wp2
      go_ret
      have h := Hacc.out.2.1
      rw [← HP.out.1, List.drop_length] at h
      simp only [linesL, List.append_nil] at h
      subst h
      exact ⟨_, rfl, hLi.le (by omega), HW.out.2.1.trans (hbw.mono (by omega))⟩

end Go.Proofs.YtgabnjiapkkjaaaGreatDoor.Tb
