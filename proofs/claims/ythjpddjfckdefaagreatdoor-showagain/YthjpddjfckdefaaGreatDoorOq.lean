/- What package parse's reader answers of the lines that are operations (operations, body): read off the program by the walk. Conditions: the reader's state lies in memory, the variables as the program lays them. -/
import Derived.Test.YthjpddjfckdefaaGreatDoorRr
import Derived.Deep.RegionWith
import Derived.BigRegion
import Derived.Deep.DeepCutAuto
namespace Go.Proofs.YthjpddjfckdefaaGreatDoor.Pr
open Go.ChangeShapes Go.WideShapes Go.ChangeAt Go.RowKit
open _root_.Go.Proofs.YthjpddjfckdefaaGreatDoor.Op
set_option maxRecDepth 20000

/-- The reader's state. -/
structure Rd (V : World) (qa qt mb : Nat) (s : ByteArray) (ls : List Ln) : Prop where
  rs : Rs V qa qt s ls
  m : MapIs V mb shapeL
  v : Vars V
  n1 : 7 ≤ qa
  n2 : qt < qa
  n3 : qa < mb
theorem Rd.up {w w' : World} {qa qt mb : Nat} {s : ByteArray} {ls : List Ln} (h : Rd w qa qt mb s ls) (g : Below w.heap.size w w') : Rd w' qa qt mb s ls :=
  ⟨h.rs.up g, h.m.block (g.block _ h.m.lt), h.v.up g, h.n1, h.n2, h.n3⟩
theorem Rd.far {w w' : World} {qa qt mb q : Nat} {s : ByteArray} {ls : List Ln} (h : Rd w qa qt mb s ls) (g : Fr (One q) w w') (hq : mb < q) : Rd w' qa qt mb s ls := by
  have h1 := h.n1; have h2 := h.n2; have h3 := h.n3
  exact ⟨h.rs.fr g (by show ¬ _ = _; omega) (by show ¬ _ = _; omega), h.m.block (g.block _ h.m.lt (by show ¬ _ = _; omega)), h.v.one g (by omega), h1, h2, h3⟩
theorem Rd.next {w w' : World} {qa qt mb : Nat} {s : ByteArray} {ls ls' : List Ln} (h : Rd w qa qt mb s ls) (g : Fr (One qa) w w') (hr : Rs w' qa qt s ls') : Rd w' qa qt mb s ls' := by
  have h1 := h.n1; have h2 := h.n2; have h3 := h.n3
  exact ⟨hr, h.m.block (g.block _ h.m.lt (by show ¬ _ = _; omega)), h.v.one g h.n1, h1, h2, h3⟩
abbrev rdV (qa qt mb : Nat) : Value := .agg #[nextV qa qt, .map (some mb)]
/-- How many lines are left. -/
def left (w : World) (qa : Nat) (s : ByteArray) : Nat := (linesS (s.data.toList.drop (kAt w qa)) (kAt w qa) []).length
theorem left_of {w : World} {qa qt : Nat} {s : ByteArray} {ls : List Ln} (h : Rs w qa qt s ls) : left w qa s = ls.length := by
  obtain ⟨k, _, ha, hl⟩ := h.k
  unfold left
  rw [kAt_of ha, hl]
theorem emit_len (st : Nat) (cur : List UInt8) : (emit st cur).length ≤ 1 := by unfold emit; split <;> simp
theorem lines_len : ∀ (s : List UInt8) (st : Nat) (cur : List UInt8), (linesS s st cur).length ≤ s.length + 1
  | [], st, cur => by have := emit_len st cur; simpa [linesS] using this
  | b :: r, st, cur => by
    unfold linesS
    split
    · have h1 := lines_len r (st + cur.length + 1) []
      have h2 := emit_len st cur
      simp; omega
    · have := lines_len r st (cur ++ [b])
      simp; omega
theorem Rs.len {w : World} {qa qt : Nat} {s : ByteArray} {ls : List Ln} (h : Rs w qa qt s ls) : ls.length ≤ 65537 := by
  obtain ⟨k, _, _, hl⟩ := h.k
  have h1 := lines_len (s.data.toList.drop k) k []
  rw [hl, List.length_drop] at h1
  have h2 : s.data.toList.length = s.size := rfl
  have := h.sz
  omega

theorem regR_lt {l : Ln} {x : Nat × Ln} (h : regR l = .ok x) : x.1 < 32 := by
  obtain ⟨ws, en⟩ := l
  cases ws with
  | nil => cases h
  | cons y r =>
    simp only [regR, takeR_cons, R.bind_ok] at h
    unfold regV at h
    split at h
    · rename_i n hn
      split at hn
      · split at hn
        · rename_i hh; cases hn; cases h; exact hh.1
        · cases hn
      · cases hn
    · cases h
theorem numR_bd {l : Ln} {x : Int × Ln} (h : numR l = .ok x) : -2147483648 ≤ x.1 ∧ x.1 ≤ 2147483647 := by
  obtain ⟨ws, en⟩ := l
  cases ws with
  | nil => cases h
  | cons y r =>
    simp only [numR, takeR_cons, R.bind_ok] at h
    unfold numV at h
    split at h
    · rename_i n hn
      split at hn
      · rename_i v hv
        split at hn
        · cases hn; cases h
          have := Lib.parseIntB_bounds hv
          simp at this; omega
        · cases hn
      · cases hn
    · cases h
theorem regIf_lt {c : Bool} {l : Ln} {x : Nat × Ln} (h : regIf c l = .ok x) : x.1 < 32 := by
  unfold regIf at h
  split at h
  · exact regR_lt h
  · cases h; simp
theorem numIf_bd {c : Bool} {l : Ln} {x : Int × Ln} (h : numIf c l = .ok x) : -2147483648 ≤ x.1 ∧ x.1 ≤ 2147483647 := by
  unfold numIf at h
  split at h
  · exact numR_bd h
  · cases h; simp
theorem R.bind_some {α β : Type} {r : R α} {f : α → R β} {v : β} (h : r.bind f = .ok v) : ∃ x, r = .ok x ∧ f x = .ok v := by
  cases r with
  | ok x => exact ⟨x, rfl, h⟩
  | no e => cases h
theorem readR_ok {d f : Nat} {l : Ln} {o : O} (h : readR d f l = .ok o) (hd : d ≤ 100) : o.Ok := by
  unfold readR at h
  obtain ⟨x, h1, h⟩ := R.bind_some h
  obtain ⟨y, h2, h⟩ := R.bind_some h
  obtain ⟨z, h3, h⟩ := R.bind_some h
  obtain ⟨v, h4, h⟩ := R.bind_some h
  obtain ⟨_, h5, h⟩ := R.bind_some h
  cases h
  have := regIf_lt h1; have := regIf_lt h2; have := regIf_lt h3; have := numIf_bd h4
  constructor <;> simp only <;> omega
theorem shape_d : ∀ y ∈ shapeL, y.2.1 ≤ 100 := by decide

/-- Operations being read. -/
structure Oa (w V : World) (qa qt mb : Nat) (s : ByteArray) (ls0 : List Ln) (v : Value) (acc : List O) (ls : List Ln) : Prop where
  box : At V w.heap.size #[nextV qa qt, .map (some mb)]
  rd : Rd V qa qt mb s ls
  row : V.ownsRow (w.heap.size + 1) 46 5 v acc.length (ocells acc)
  fr : Fr (One qa) w V
  ok : ∀ o, o ∈ acc → o.Ok
  eq : opsR s.size ls0 = (opsR s.size ls).bind fun x => .ok (acc ++ x.1, x.2.1, x.2.2)
  len : acc.length + ls.length ≤ 65537
  mlt : mb < w.heap.size

/-- A line is at hand. -/
structure Ob (w V : World) (qa qt mb : Nat) (s : ByteArray) (v : Value) (acc : List O) (ls : List Ln) (q : Nat) (l : Ln) : Prop where
  box : At V w.heap.size #[nextV qa qt, .map (some mb)]
  rd : Rd V qa qt mb s ls
  row : V.ownsRow (w.heap.size + 1) 46 5 v acc.length (ocells acc)
  fr : Fr (One qa) w V
  l : LIn V q l
  lt : w.heap.size < q
  rq : ∀ g, v.ownBlock = some g → g < q
  mlt : mb < w.heap.size
theorem Oa.line {w V V' : World} {qa qt mb : Nat} {s : ByteArray} {ls0 : List Ln} {v : Value} {acc : List O} {ls : List Ln} {q : Nat} {l : Ln} (h : Oa w V qa qt mb s ls0 v acc ls) (hL : LIn V' q l) (hR : Rs V' qa qt s ls.tail) (hq : V.heap.size ≤ q) (hF : Fr (One qa) V V') : Ob w V' qa qt mb s v acc ls.tail q l :=
  have h3 := h.rd.n3
  have h4 := h.mlt
  have h5 := h.box.lt
  ⟨at_fr h.box hF (by show ¬ _ = _; omega), h.rd.next hF hR, row_old h.row hF (by omega), h.fr.same hF, hL, by omega, fun g hg => by have := (h.row.lt g hg).2; omega, h.mlt⟩
theorem Ob.go {w V V' : World} {qa qt mb : Nat} {s : ByteArray} {v : Value} {acc : List O} {ls : List Ln} {q : Nat} {l : Ln} (h : Ob w V qa qt mb s v acc ls q l) (hb : Below V.heap.size V V') : Ob w V' qa qt mb s v acc ls q l :=
  ⟨h.box.below hb h.box.lt, h.rd.up hb, row_below h.row hb, h.fr.then hb, h.l.up hb, h.lt, h.rq, h.mlt⟩
theorem Ob.take {w V V' : World} {qa qt mb : Nat} {s : ByteArray} {v : Value} {acc : List O} {ls : List Ln} {q : Nat} {l l' : Ln} (h : Ob w V qa qt mb s v acc ls q l) (hF : Fr (One q) V V') (hL : LIn V' q l') : Ob w V' qa qt mb s v acc ls q l' :=
  have h3 := h.rd.n3
  have h4 := h.mlt
  have h5 := h.lt
  ⟨at_fr h.box hF (by show ¬ _ = _; omega), h.rd.far hF (by omega), row_fr h.row hF (fun g hg e => by have := h.rq g hg; subst e; omega), h.fr.new hF (by omega), hL, h.lt, h.rq, h.mlt⟩
/-- The line is read, and done with. -/
structure Oc (w V : World) (qa qt mb : Nat) (s : ByteArray) (v : Value) (acc : List O) (ls : List Ln) : Prop where
  box : At V w.heap.size #[nextV qa qt, .map (some mb)]
  rd : Rd V qa qt mb s ls
  row : V.ownsRow (w.heap.size + 1) 46 5 v acc.length (ocells acc)
  fr : Fr (One qa) w V
  mlt : mb < w.heap.size
theorem Ob.fin {w V V' : World} {qa qt mb : Nat} {s : ByteArray} {v : Value} {acc : List O} {ls : List Ln} {q : Nat} {l : Ln} (h : Ob w V qa qt mb s v acc ls q l) (hF : Fr (One q) V V') : Oc w V' qa qt mb s v acc ls :=
  have h3 := h.rd.n3
  have h4 := h.mlt
  have h5 := h.lt
  ⟨at_fr h.box hF (by show ¬ _ = _; omega), h.rd.far hF (by omega), row_fr h.row hF (fun g hg e => by have := h.rq g hg; subst e; omega), h.fr.new hF (by omega), h.mlt⟩
theorem ocells_snoc (xs : List O) (o : O) : ocells (xs ++ [o]) = ocells xs ++ [.int .i8 o.op, .int .u8 o.d, .int .u8 o.a, .int .u8 o.b, .int .i64 o.im] := by simp [ocells]
theorem Oc.put {w V V' : World} {qa qt mb : Nat} {s : ByteArray} {v v' : Value} {acc : List O} {ls : List Ln} {o : O} {ob : Obj} (h : Oc w V qa qt mb s v acc ls) (hown : V'.ownsRow (w.heap.size + 1) 46 5 v' (acc.length + 1) (ocells acc ++ [.int .i8 o.op, .int .u8 o.d, .int .u8 o.a, .int .u8 o.b, .int .i64 o.im])) (hg : (V.alloc ob).grownBy V' v.ownBlock) : Oc w V' qa qt mb s v' (acc ++ [o]) ls := by
  have h3 := h.rd.n3
  have h4 := h.mlt
  have hb : Below (w.heap.size + 1) V V' := ((Below.refl _ _).alloc h.box.lt _).grown hg (by have := h.box.lt; simp; omega) fun b hb => (h.row.lt b hb).1
  have hF : Fr (fun k => w.heap.size + 1 ≤ k) V V' := ⟨hb.os, hb.tape, hb.output, hb.size, fun k hk hx => hb.block k (by omega)⟩
  refine ⟨at_fr h.box hF (by omega), ?_, ?_, h.fr.trans hF (fun k hk hy => by omega), h.mlt⟩
  · have h1 := h.rd.n1; have h2 := h.rd.n2
    exact ⟨h.rd.rs.fr hF (by omega) (by omega), h.rd.m.block (hF.block _ h.rd.m.lt (by omega)), h.rd.v.fr hF (fun k hk => by omega), h1, h2, h3⟩
  · rw [ocells_snoc, List.length_append]; exact hown
theorem foundV_none {s : List UInt8} (h : shapeOf s = none) : foundV s = .tuple #[.agg #[.int .i8 0, .int .u8 0], .bool false] := by unfold foundV; rw [h]
theorem foundV_some {s : List UInt8} {x : Nat × Nat} (h : shapeOf s = some x) : foundV s = .tuple #[.agg #[.int .i8 (x.1 : Int), .int .u8 (x.2 : Int)], .bool true] := by unfold foundV; rw [h]
theorem opsR_none {m : Nat} {ls : List Ln} (h : shapeOf (firstL (nextL m ls)) = none) : opsR m ls = .ok ([], nextL m ls, ls.tail) := by
  cases ls with
  | nil => rfl
  | cons l r =>
    unfold opsR
    simp only [nextL] at h
    rw [h]; rfl

set_option maxHeartbeats 4000000 in
theorem operations_any (qa qt mb : Nat) (s : ByteArray) (ls : List Ln) (w : World) (h : Rd w qa qt mb s ls) :
    Calls Tryz.prog 53 #[rdV qa qt mb] w (Does (One qa) (opsR s.size ls) (fun x e w' => ∃ a c q, e = .returned (.tuple #[.slice a x.1.length c, .pointer (some ⟨q, 0, none⟩)]) ∧ LRow w' w.heap.size a c x.1 ∧ (∀ g, (Value.slice a x.1.length c).ownBlock = some g → g < q) ∧ (∀ o, o ∈ x.1 → o.Ok) ∧ x.1.length ≤ 65537 ∧ LIn w' q x.2.1 ∧ Rd w' qa qt mb s x.2.2 ∧ w.heap.size ≤ q ∧ Fr (One qa) w w') w) := by
  have hO : Oa w (w.alloc (.cells #[nextV qa qt, .map (some mb)] 80)) qa qt mb s ls (.slice none 0 0) [] ls :=
    ⟨At.new _ _ _, h.up ((Below.refl _ _).alloc (Nat.le_refl _) _), World.ownsRow_nil _ _ _ _, (Fr.refl _ _).alloc _, by simp, by cases opsR s.size ls <;> rfl, by have := h.rs.len; simp; omega, h.m.lt⟩
  clear h
  unfold nextV at hO
  go_enter Tryz.func53, Tryz.ntmps53
  go_wp2
  go_loopw [4] (fun v wr => ∃ acc ls', Oa w wr qa qt mb s ls v acc ls') (fun _ wr => left wr qa s)
  case atStart => exact ⟨_, _, hO⟩
  case round =>
    rename_i wr
    obtain ⟨acc, ls', ho⟩ := hrel
    clear hO
    have HO : Hid _ := ho
    have c0 : wr.cell? ⟨w.heap.size, 0, none⟩ = some (.func (.func 38) #[] #[.pointer (some ⟨qa, 0, none⟩), .pointer (some ⟨qt, 0, none⟩)]) := ho.box.c 0 _ rfl
    have HX : Hid _ := next_any qa qt s ls' wr ho.rd.rs ho.rd.v ho.rd.n1
    clear ho
    go_wp2_with (first
      | (go_at_call 38; refine Calls.mono HX.out ?_; rintro e w1 ⟨q, rfl, hL, hR, hq, hF⟩; refine Hid.out ?_))
    refine Lib.hid ?_
    have HB : Hid _ := HO.out.line hL hR hq hF
    have HL : Hid (∀ W, Below w1.heap.size w1 W → Calls Tryz.prog 67 #[.pointer (some ⟨q, 0, none⟩)] W fun e w' => e = .returned (.string ⟨(firstL (nextL s.size ls')).toArray⟩) ∧ w' = W) := fun W hb => first_any q _ W (hL.up hb)
    have hfl : (firstL (nextL s.size ls')).length ≤ 65536 := by
      unfold firstL
      split
      · simp
      · rename_i x r hx
        obtain ⟨_, _, hla⟩ := hL
        exact (hla.ws.ok x (by rw [hx]; simp)).2
    have hk1 : (Instr.lookup 77 (.map (some mb)) (.string ⟨(firstL (nextL s.size ls')).toArray⟩) true).run Tryz.prog w1.drew = .ok (foundV (firstL (nextL s.size ls'))) w1.drew := MapIs.look (w := w1.drew) (MapIs.block (w := w1) HB.out.rd.m rfl) ⟨(firstL (nextL s.size ls')).toArray⟩ (by rw [size_list]; unfold maxLen; omega)
    have hk2 : (Instr.lookup 77 (.map (some mb)) (.string ⟨(firstL (nextL s.size ls')).toArray⟩) true).run Tryz.prog (w1.alloc (.cells #[.int .i8 0, .int .u8 0] 97)).drew = .ok (foundV (firstL (nextL s.size ls'))) (w1.alloc (.cells #[.int .i8 0, .int .u8 0] 97)).drew := MapIs.look (w := (w1.alloc (.cells #[.int .i8 0, .int .u8 0] 97)).drew) (MapIs.block (w := w1.alloc (.cells #[.int .i8 0, .int .u8 0] 97)) (HB.out.rd.up ((Below.refl _ _).alloc (Nat.le_refl _) _)).m rfl) ⟨(firstL (nextL s.size ls')).toArray⟩ (by rw [size_list]; unfold maxLen; omega)
    clear hR hq hF HX c0 hfl
    have c1 : w1.cell? ⟨w.heap.size, 1, none⟩ = some (.map (some mb)) := HB.out.box.c 1 _ rfl
    have hz1 := HB.out.box.lt
    obtain ⟨D, F, kn, hfv, hkn⟩ : ∃ D F kn, foundV (firstL (nextL s.size ls')) = .tuple #[.agg #[.int .i8 D, .int .u8 F], .bool kn] ∧ (match shapeOf (firstL (nextL s.size ls')) with | some x => D = (x.1 : Int) ∧ F = (x.2 : Int) ∧ kn = true | none => kn = false) := by
      cases hsh : shapeOf (firstL (nextL s.size ls')) with
      | none => exact ⟨0, 0, false, foundV_none hsh, rfl⟩
      | some x => exact ⟨_, _, true, foundV_some hsh, rfl, rfl, rfl⟩
    rw [hfv] at hk1 hk2
    have HKN : Hid _ := hkn
    have HLI : Hid _ := hL
    clear hkn hfv hL
    generalize hfl : firstL (nextL s.size ls') = fl at hk1 hk2 HL
    have HFL : Hid (firstL (nextL s.size ls') = fl) := hfl
    clear hfl
    go_wp2
    go_cut [6, 7] (fun a b wc => a = .pointer (some ⟨w1.heap.size, 0, none⟩) ∧ b = .bool kn ∧ Ob w wc qa qt mb s u4 acc ls'.tail q (nextL s.size ls') ∧ At wc w1.heap.size #[.int .i8 D, .int .u8 F] ∧ q < w1.heap.size)
    case first =>
      go_region_with (first | (go_at_call 67; refine Calls.mono (HL.out _ (by go_grown)) ?_; rintro e w' ⟨rfl, hw⟩; subst w'))
      all_goals
        go_wp2
        go_meet
        refine ⟨rfl, rfl, ?_, ?_, HB.out.l.lt⟩
        · exact (HB.out.go ((Below.refl _ _).alloc (Nat.le_refl _) _)).go ⟨rfl, rfl, rfl, Nat.le_refl _, fun _ _ => rfl⟩
        · exact (At.new w1 #[.int .i8 D, .int .u8 F] 97).below (B := (w1.alloc (.cells #[.int .i8 D, .int .u8 F] 97)).heap.size) ⟨rfl, rfl, rfl, Nat.le_refl _, fun _ _ => rfl⟩ (by simp)
    case rest =>
      obtain ⟨rfl, rfl, hob, hat, hqz⟩ := hcut
      clear HB HL hk1 hk2 c1 hz1
      have HB : Hid _ := hob
      have HA : Hid _ := hat
      clear hob hat
      cases hsh : shapeOf (firstL (nextL s.size ls')) with
      | none =>
        have hkn := HKN.out
        rw [hsh] at hkn
        have hkn : kn = false := hkn
        subst hkn
        have HE : Hid (opsR s.size ls' = .ok ([], nextL s.size ls', ls'.tail)) := opsR_none hsh
        clear hsh
        go_wp2
        obtain ⟨a, c, rfl⟩ : ∃ a c, u4 = .slice a acc.length c := by
          rcases HB.out.row.2 with ⟨rfl, h0⟩ | ⟨g, cap, cur, rfl, _⟩
          · exact ⟨none, 0, by rw [h0]⟩
          · exact ⟨_, _, rfl⟩
        refine bodyPost_ret (v := .tuple #[.slice a acc.length c, .pointer (some ⟨q, 0, none⟩)]) (by simp [results, Tryz.results53, go_sem]) rfl ?_
        rw [HO.out.eq, HE.out, R.bind_ok, List.append_nil]
        exact ⟨a, c, q, rfl, row_le HB.out.row (by omega), HB.out.rq, HO.out.ok, (by have := HO.out.len; show acc.length ≤ 65537; omega), HB.out.l, HB.out.rd, by have := HB.out.lt; omega, HB.out.fr⟩
      | some sh =>
        obtain ⟨d, f⟩ := sh
        have hkn := HKN.out
        rw [hsh] at hkn
        obtain ⟨rfl, rfl, rfl⟩ : D = (d : Int) ∧ F = (f : Int) ∧ kn = true := hkn
        cases ls' with
        | nil => exact absurd (show shapeOf [] = some (d, f) from hsh) (by rw [show shapeOf [] = none by decide]; simp)
        | cons l rest =>
          obtain ⟨ws, en⟩ := l
          cases ws with
          | nil => exact absurd (show shapeOf [] = some (d, f) from hsh) (by rw [show shapeOf [] = none by decide]; simp)
          | cons x r =>
            have HT : Hid (∀ W, LIn W q ⟨x :: r, en⟩ → Calls Tryz.prog 54 #[.pointer (some ⟨q, 0, none⟩)] W fun e w' => e = .returned (.agg #[.int .i64 (x.1 : Int), .string ⟨x.2.toArray⟩]) ∧ LIn w' q ⟨r, en⟩ ∧ Fr (One q) W w') := fun W hl => take_ok q en x r W hl
            have hq9 : 7 ≤ q := by have := HB.out.lt; have := HB.out.rd.v.e.big; have := HB.out.rd.n1; have := HB.out.rd.n3; have := HB.out.mlt; omega
            have hrd : ∀ W, LIn W q ⟨r, en⟩ → Vars W → Calls Tryz.prog 68 #[.agg #[.int .i8 (d : Int), .int .u8 (f : Int)], .pointer (some ⟨q, 0, none⟩)] W _ := fun W hl hv => read_any q d f ⟨r, en⟩ _ W hsh hl hv hq9
            have hdd : d ≤ 100 := by obtain ⟨y, hy, e⟩ := shape_mem hsh; have := shape_d y hy; rw [e] at this; exact this
            have HE : Hid (opsR s.size (⟨x :: r, en⟩ :: rest) = (readR d f ⟨r, en⟩).bind fun o => (opsR s.size rest).bind fun y => .ok (o :: y.1, y.2.1, y.2.2)) := by
              have hsh' : shapeOf (firstL ⟨x :: r, en⟩) = some (d, f) := hsh
              show opsR s.size (⟨x :: r, en⟩ :: rest) = _
              rw [opsR, hsh']; rfl
            obtain ⟨b0, b1⟩ : wc.cell? ⟨w1.heap.size, 0, none⟩ = some (.int .i8 (d : Int)) ∧ wc.cell? ⟨w1.heap.size, 1, none⟩ = some (.int .u8 (f : Int)) := ⟨HA.out.c 0 _ rfl, HA.out.c 1 _ rfl⟩
            cases hr : readR d f ⟨r, en⟩ with
            | no fl' =>
              rw [hr] at hrd
              have HR : Hid (∀ W, LIn W q ⟨r, en⟩ → Vars W → Calls Tryz.prog 68 #[.agg #[.int .i8 (d : Int), .int .u8 (f : Int)], .pointer (some ⟨q, 0, none⟩)] W fun e w' => Pan (One q) fl' W e w') := hrd
              have HE2 : Hid (opsR s.size ls = .no fl') := by
                have := HO.out.eq
                rw [HE.out, hr] at this
                exact this
              clear hrd hsh hr HE HKN HFL
              go_wp2_with (first
                | (go_at_call 54; refine Calls.mono (HT.out _ HB.out.l) ?_; rintro e w2 ⟨rfl, hL, hF⟩; have HB2 : Hid _ := HB.out.take hF hL; have HA2 : Hid _ := at_fr HA.out hF (by show ¬ _ = _; omega); clear hL hF HB HA b0 b1 HT; obtain ⟨b0, b1⟩ : w2.cell? ⟨w1.heap.size, 0, none⟩ = some (.int .i8 (d : Int)) ∧ w2.cell? ⟨w1.heap.size, 1, none⟩ = some (.int .u8 (f : Int)) := ⟨HA2.out.c 0 _ rfl, HA2.out.c 1 _ rfl⟩)
                | (go_at_call 68; refine Calls.mono (HR.out _ HB2.out.l HB2.out.rd.v) ?_; rintro e wp hp; have HP : Hid _ := hp.after HB2.out.fr (X := One qa) (fun k hk hy => by have := HB2.out.lt; subst hy; omega); obtain ⟨fq, rfl, hp⟩ := hp; clear hp))
              rw [HE2.out]
              exact ⟨rfl, HP.out⟩
            | ok o =>
              rw [hr] at hrd
              have HR : Hid (∀ W, LIn W q ⟨r, en⟩ → Vars W → Calls Tryz.prog 68 #[.agg #[.int .i8 (d : Int), .int .u8 (f : Int)], .pointer (some ⟨q, 0, none⟩)] W fun e w' => e = .returned o.val ∧ Fr (One q) W w') := hrd
              have HOk : Hid o.Ok := readR_ok hr hdd
              have he2 : opsR s.size ls = (opsR s.size rest).bind fun y => .ok ((acc ++ [o]) ++ y.1, y.2.1, y.2.2) := by
                have := HO.out.eq
                rw [HE.out, hr, R.bind_ok] at this
                rw [this]
                cases opsR s.size rest <;> simp [R.bind]
              have HE2 : Hid _ := he2
              clear he2
              clear hrd hsh hr HE HKN HFL
              obtain ⟨i0, hi, hi2⟩ := Option.map_eq_some_iff.1 info46
              simp only [Prod.mk.injEq] at hi2
              obtain ⟨hz0, hz1, hz2⟩ := hi2
              have HI : Hid (Tryz.prog.info? 46 = some i0 ∧ i0.zero = some (.agg #[.int .i8 0, .int .u8 0, .int .u8 0, .int .u8 0, .int .i64 0]) ∧ i0.size = 5 ∧ i0.bytes = 16) := ⟨hi, hz0, hz1, hz2⟩
              clear hi hz0 hz1 hz2
              have hal : acc.length ≤ 65537 := by have := HO.out.len; omega
              go_wp2_with (first
                | (go_at_call 54; refine Calls.mono (HT.out _ HB.out.l) ?_; rintro e w2 ⟨rfl, hL, hF⟩; have HB2 : Hid _ := HB.out.take hF hL; have HA2 : Hid _ := at_fr HA.out hF (by show ¬ _ = _; omega); clear hL hF HB HA b0 b1 HT; obtain ⟨b0, b1⟩ : w2.cell? ⟨w1.heap.size, 0, none⟩ = some (.int .i8 (d : Int)) ∧ w2.cell? ⟨w1.heap.size, 1, none⟩ = some (.int .u8 (f : Int)) := ⟨HA2.out.c 0 _ rfl, HA2.out.c 1 _ rfl⟩)
                | (go_at_call 68; refine Calls.mono (HR.out _ HB2.out.l HB2.out.rd.v) ?_; rintro e w3 ⟨rfl, hF⟩; have HB3 : Hid _ := HB2.out.fin hF; clear hF HB2 HA2 b0 b1)
                | (at_builtin; refine wpList_append_lies _ rfl _ _ 40 rfl (w.heap.size + 1) 46 i0 (.agg #[.int .i8 0, .int .u8 0, .int .u8 0, .int .u8 0, .int .i64 0]) 5 16 Tryz.underlying40 HI.out.1 HI.out.2.1 HI.out.2.2.1 HI.out.2.2.2 rfl (by decide) _ _ _ rfl (HB3.out.row.alloc _) ⟨w3.heap.size, 0, none⟩ 1 1 [.int .i8 o.op, .int .u8 o.d, .int .u8 o.a, .int .u8 o.b, .int .i64 o.im] rfl rfl (World.news_of_block (heap_alloc_new w3 _)) (by simp [Value.oneCell']) (by decide) (by unfold maxLen; omega) (by omega) (by have := HB3.out.box.lt; simp; omega) (w3.heap.size + 1) (by simp) ?_; intro g cap w4 hown4 hgrow4 hat4 hlt4; have HB4 : Hid _ := HB3.out.put hown4 hgrow4; clear hown4 hgrow4 hat4 hlt4))
              have h1 := left_of HB4.out.rd.rs
              have h2 := left_of HO.out.rd.rs
              have h3 := HO.out.len
              simp only [List.length_cons, List.tail_cons] at h1 h2 h3
              refine ⟨⟨acc ++ [o], rest, HB4.out.box, HB4.out.rd, HB4.out.row, HB4.out.fr, fun y hy => ?_, HE2.out, by simp; omega, HB4.out.mlt⟩, by omega⟩
              rcases List.mem_append.1 hy with hy | hy
              · exact HO.out.ok y hy
              · rw [List.mem_singleton.1 hy]; exact HOk.out
end Go.Proofs.YthjpddjfckdefaaGreatDoor.Pr
