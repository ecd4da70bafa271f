/- How a round goes on and ends: what is said of rows, registers and cells. Conditions: none. -/
import Derived.Test.YtehohblcildieaaBa
namespace Go.Proofs.Ytehohblcildieaa.Al
open Go.ChangeShapes Go.WideShapes Go.ChangeAt Go.RowKit
open _root_.Go.Proofs.Ytehohblcildieaa.Op _root_.Go.Proofs.Ytehohblcildieaa.So
set_option maxRecDepth 20000

section
variable {w V W W1 W3 : World} {xs : List O} {rb mb : Nat} {r0 R M R' M' : Nat → Int} {a : Option Addr} {c : Nat} {rows : List Ro1} {ra : Option Addr} {rc : Nat} {row : List Int} {RR : Nat → Nat → Int}
/-- Behind an operation, ahead of the row's growing. -/
structure Mi (w V W : World) (xs : List O) (rb mb : Nat) (r0 R M : Nat → Int) (ra : Option Addr) (rc : Nat) (row : List Int) (RR : Nat → Nat → Int) : Prop where
  up : Below w.heap.size w W
  rm : Rm W rb mb R M
  fr : Fr (fun k => k = rb ∨ k = mb) V W
  own : W.ownsRow V.heap.size 3 1 (.slice ra row.length rc) row.length (nums row)
  rg : Rg xs r0 row RR
  keep : ∀ (h : row.length < xs.length) (r : Int), 0 ≤ r → wt r xs[row.length] = false → R r.toNat = RR row.length r.toNat
theorem In.mid (h : In w V W xs rb mb r0 R M a c rows ra rc row RR) (hV : rb < V.heap.size ∧ mb < V.heap.size) (hw : w.heap.size ≤ rb ∧ w.heap.size ≤ mb) (hr : Rm W1 rb mb R' M') (g : Fr (fun k => k = rb ∨ k = mb) W W1) (hk : ∀ (h : row.length < xs.length) (r : Int), 0 ≤ r → wt r xs[row.length] = false → R' r.toNat = R r.toNat) : Mi w V W1 xs rb mb r0 R' M' ra rc row RR := by
  refine ⟨h.up.trans (g.below h.up.size fun k hk e => by omega), hr, h.fr.same g, row_fr h.own g fun k hk e => ?_, h.rg, fun hl r h0 hn => by rw [h.at_]; exact hk hl r h0 hn⟩
  have := (h.own.lt k hk).1
  omega
theorem Mi.up' {W' : World} (h : Mi w V W xs rb mb r0 R M ra rc row RR) (g : Below W.heap.size W W') : Mi w V W' xs rb mb r0 R M ra rc row RR :=
  ⟨h.up.trans (g.mono h.up.size), h.rm.up g, h.fr.then g, row_fr h.own (Fr.of (X := Non) g) fun _ _ h => h, h.rg, h.keep⟩
theorem Mi.next {g c2 : Nat} {x : Int} (h : Mi w V W xs rb mb r0 R M ra rc row RR) (a : Option Addr) (c : Nat) (rows : List Ro1) (hl : row.length < xs.length) (hV : rb < V.heap.size ∧ mb < V.heap.size) (hwV : w.heap.size ≤ V.heap.size) (hx : x = cellC xs[row.length] (RR row.length)) (hg : W.grownBy W3 (Value.ownBlock (.slice ra row.length rc)))
    (hown : W3.ownsRow V.heap.size 3 1 (.slice (some ⟨g, 0, none⟩) (row.length + 1) c2) (row.length + 1) (nums row ++ [.int .i64 x])) : In w V W3 xs rb mb r0 R M a c rows (some ⟨g, 0, none⟩) c2 (row ++ [x]) (fun k => if k ≤ row.length then RR k else R) := by
  have hF := grown_fr hg
  have hlo : ∀ k, Value.ownBlock (.slice ra row.length rc) = some k → V.heap.size ≤ k := fun k hk => (h.own.lt k hk).1
  refine ⟨h.up.trans (hF.below h.up.size fun k hk e => by have := hlo k e; omega), h.rm.fr hF (fun e => by have := hlo rb e; omega) (fun e => by have := hlo mb e; omega), h.fr.trans hF fun k hk e => by have := hlo k e; omega, ?_, ?_, ?_⟩
  · have e1 : (row ++ [x]).length = row.length + 1 := by simp
    rw [e1, nums_snoc]; exact hown
  · rw [hx]; exact h.rg.next hl R (h.keep hl)
  · have e1 : (row ++ [x]).length = row.length + 1 := by simp
    show (if (row ++ [x]).length ≤ row.length then RR (row ++ [x]).length else R) = R
    rw [e1, if_neg (by omega)]
/-- A round's row is put behind the others. -/
theorem Ou.snoc {g c2 : Nat} {R0 M0 : Nat → Int} (hO : Ou w V xs rb mb r0 R0 M0 a c rows) (h : In w V W xs rb mb r0 R M a c rows ra rc row RR) (hg : W.grownBy W3 (Value.ownBlock (.slice a rows.length c))) (hn : Value.ownBlock (.slice a rows.length c) = some g ∨ g = W.heap.size)
    (hrow : W3.ownsRow (mb + 1) 35 1 (.slice (some ⟨g, 0, none⟩) (rows.length + 1) c2) (rows.length + 1) (rcs rows ++ [.slice ra row.length rc])) : Ou w W3 xs rb mb r0 R M (some ⟨g, 0, none⟩) c2 (rows ++ [⟨ra, rc, row⟩]) := by
  have hF := grown_fr hg
  have hV1 := hO.rm.rl
  have hV2 := hO.rm.ml
  have hlo := hO.lo
  have hwV := hO.up.size
  have hb : ∀ k, Value.ownBlock (.slice a rows.length c) = some k → mb + 1 ≤ k ∧ k < V.heap.size := fun k hk => hO.cs.row.lt k hk
  have hC : Cs W (mb + 1) a c rows := hO.cs.fr h.fr fun k hk _ e => by omega
  have hN := nl_row h.own
  refine ⟨h.up.trans (hF.below h.up.size fun k hk e => by have := hb k e; omega), h.rm.fr hF (fun e => by have := hb rb e; omega) (fun e => by have := hb mb e; omega), hC.snoc (r := ⟨ra, rc, row⟩) hN (fun h0 x e => ?_) hg hn hrow, fun r hr => ?_, fun r hr hx => ?_, hlo⟩
  · have h1 := (own_block h.own e).1
    refine ⟨by omega, fun y ey => ?_⟩
    have := (own_block hO.cs.row ey).2
    omega
  · rcases List.mem_append.1 hr with hr | hr
    · exact hO.ws r hr
    · rw [List.mem_singleton.1 hr]; exact ⟨RR, h.rg⟩
  · rw [← h.at_]; exact h.rg.a row.length (Nat.le_refl _) r hr hx
end
theorem ou_start (w w1 : World) (xs : List O) (R M : Nat → Int) (hb : Below w.heap.size w w1) (hR : ∀ j, In64 (R j)) (hM : ∀ j, In64 (M j)) :
    Ou w ((((w1.alloc (.cells (ncs 32 zeroF).toArray 30)).alloc (.cells (ncs 256 zeroF).toArray 31)).setCells w1.heap.size 0 (ncs 32 R)).setCells (w1.heap.size + 1) 0 (ncs 256 M)) xs w1.heap.size (w1.heap.size + 1) R R M none 0 [] := by
  have e2 : (w1.alloc (.cells (ncs 32 zeroF).toArray 30)).heap.size = w1.heap.size + 1 := by simp
  have a2 := (At.new w1 (ncs 32 zeroF).toArray 30).alloc (.cells (ncs 256 zeroF).toArray 31)
  have a3 := At.new (w1.alloc (.cells (ncs 32 zeroF).toArray 30)) (ncs 256 zeroF).toArray 31
  rw [e2] at a3
  have hm : Rm ((w1.alloc (.cells (ncs 32 zeroF).toArray 30)).alloc (.cells (ncs 256 zeroF).toArray 31)) w1.heap.size (w1.heap.size + 1) zeroF zeroF := ⟨fun j hj => a2.c j _ (by rw [List.getElem?_toArray]; exact ncs_get hj), fun j hj => a3.c j _ (by rw [List.getElem?_toArray]; exact ncs_get hj), a2.f, a3.f, a2.lt, a3.lt, by omega, zero_in, zero_in⟩
  have hm2 := (hm.putR hR).putM hM
  have hup : Below w1.heap.size w1 ((w1.alloc (.cells (ncs 32 zeroF).toArray 30)).alloc (.cells (ncs 256 zeroF).toArray 31)) := by go_grown
  have hF : Fr (fun k => k = w1.heap.size ∨ k = w1.heap.size + 1) ((w1.alloc (.cells (ncs 32 zeroF).toArray 30)).alloc (.cells (ncs 256 zeroF).toArray 31)) ((((w1.alloc (.cells (ncs 32 zeroF).toArray 30)).alloc (.cells (ncs 256 zeroF).toArray 31)).setCells w1.heap.size 0 (ncs 32 R)).setCells (w1.heap.size + 1) 0 (ncs 256 M)) := fr_setCells (.inr rfl) _ _ (fr_setCells (.inl rfl) _ _ (Fr.refl _ _))
  have h0 := hb.size
  refine ⟨(hb.trans (hup.mono h0)).trans (hF.below (Nat.le_trans h0 hup.size) fun k hk e => by omega), hm2, ⟨World.ownsRow_nil _ _ _ _, fun r hr => (by cases hr)⟩, fun r hr => (by cases hr), fun _ _ _ => rfl, ⟨h0, by omega⟩⟩
theorem Cs.at_ {W : World} {B : Nat} {a : Option Addr} {c : Nat} {rows : List Ro1} (h : Cs W B a c rows) (h0 : 0 < rows.length) : ∃ g, a = some ⟨g, 0, none⟩ ∧ g < W.heap.size ∧ ∀ (i : Nat) (hi : i < rows.length), W.cell? ⟨g, i, none⟩ = some (.slice rows[i].a rows[i].l.length rows[i].c) := by
  have hr := h.row
  rcases hr.2 with ⟨_, h1⟩ | ⟨g, cap, cur, h1, h2, h3, h4⟩
  · omega
  · injection h1 with e1 e2 e3
    subst e1
    have hc := hr.cells (g := g) rfl
    refine ⟨g, rfl, (hr.lt g rfl).2, fun i hi => ?_⟩
    have := hc i _ (rcs_get rows i hi)
    rw [add_at', Nat.zero_add] at this
    exact this
theorem Ou.up' {w W W' : World} {xs : List O} {rb mb : Nat} {r0 R M : Nat → Int} {a : Option Addr} {c : Nat} {rows : List Ro1} (h : Ou w W xs rb mb r0 R M a c rows) (g : Below W.heap.size W W') : Ou w W' xs rb mb r0 R M a c rows :=
  ⟨h.up.trans (g.mono h.up.size), h.rm.up g, h.cs.fr (Fr.of (X := Non) g) fun _ _ _ h => h, h.ws, h.st, h.lo⟩
/-- What two rows that touch one cell give. -/
theorem ways_round {xs : List O} (hok : ∀ o ∈ xs, o.Ok) {r0 : Nat → Int} {rows : List Ro1} (h : Ways xs r0 rows) {r s : Ro1} (hr : r ∈ rows) (hs : s ∈ rows) {i j : Nat} (hi : i < r.l.length) (hj : j < s.l.length) (h0 : 0 ≤ r.l[i]) (he : r.l[i] = s.l[j]) (hl : ¬ ((atL xs i).op = 15 ∧ (atL xs j).op = 15)) : roundB xs i j = true := by
  obtain ⟨R1, g1⟩ := h r hr
  obtain ⟨R2, g2⟩ := h s hs
  exact safe_round hok g1 g2 hi hj h0 he hl
theorem ways_meet {xs : List O} (hok : ∀ o ∈ xs, o.Ok) {r0 : Nat → Int} {rows : List Ro1} (h : Ways xs r0 rows) {r : Ro1} (hr : r ∈ rows) {i j : Nat} (hij : i < j) (hi : i < r.l.length) (hj : j < r.l.length) (h0 : 0 ≤ r.l[i]) (he : r.l[i] = r.l[j]) (hl : ¬ ((atL xs i).op = 15 ∧ (atL xs j).op = 15)) : meetB xs i j = true := by
  obtain ⟨R1, g1⟩ := h r hr
  exact safe_meet hok g1 hij hi hj h0 he hl
theorem ways_len {xs : List O} {r0 : Nat → Int} {rows : List Ro1} (h : Ways xs r0 rows) {r : Ro1} (hr : r ∈ rows) : r.l.length ≤ xs.length := by
  obtain ⟨R1, g1⟩ := h r hr
  exact g1.len
end Go.Proofs.Ytehohblcildieaa.Al
