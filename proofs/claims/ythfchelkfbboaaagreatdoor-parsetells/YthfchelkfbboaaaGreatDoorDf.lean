/- The document's reader: what first answers: read off the program by the walk. Conditions: the reader and the lines lie in memory. -/
import Derived.Test.YthfchelkfbboaaaGreatDoorDb
namespace Go.Proofs.YthfchelkfbboaaaGreatDoor.Pr
open Go.ChangeShapes Go.WideShapes Go.ChangeAt Go.RowKit
open _root_.Go.Proofs.YthfchelkfbboaaaGreatDoor.Op
set_option maxRecDepth 20000

/-- The lines in memory, in blocks ahead of the reader's. -/
structure DL (V : World) (r : Nat) (la : Option Addr) (ls : List Ln) (ps : List Pw) : Prop where
  len : ps.length = ls.length
  n : ls.length ≤ 65537
  ne : ∀ l ∈ ls, l.ws ≠ []
  sh : ∀ l ∈ ls, ShortW l
  is : ∀ i (h : i < ls.length) (h' : i < ps.length), ∃ g, la = some ⟨g, 0, none⟩ ∧ g < r ∧ V.cell? ⟨g, i * 2, none⟩ = some (.slice ps[i].1 ls[i].ws.length ps[i].2) ∧ V.cell? ⟨g, i * 2 + 1, none⟩ = some (.int .i64 (ls[i].en : Int)) ∧ DW V r ps[i] ls[i].ws
theorem DL.fr {V V' : World} {r : Nat} {la : Option Addr} {ls : List Ln} {ps : List Pw} (h : DL V r la ls ps) (g : Fr (One r) V V') (hr : r < V.heap.size) : DL V' r la ls ps := by
  refine ⟨h.len, h.n, h.ne, h.sh, fun i hi hi' => ?_⟩
  obtain ⟨b, e, z, h1, h2, h3⟩ := h.is i hi hi'
  have hx : ¬ One r b := by show ¬ _ = _; omega
  exact ⟨b, e, z, by rw [g.cell (by omega) hx]; exact h1, by rw [g.cell (by omega) hx]; exact h2, h3.fr g hr⟩
/-- The first word of the line that comes. -/
def firstR (s : List UInt8) (ls : List Ln) (nx m : Nat) : R Unit := match ls[nx]? with
  | none => .no (m, [])
  | some l => match l.ws with
    | [] => .no (l.en, [])
    | x :: _ => if x.2 = s then .ok () else .no x
abbrev HavC (r : Nat) (la : Option Addr) (L lc nx m : Nat) (res : R Unit) (w : World) : Prop := Calls Tryz.prog 14 #[.pointer (some ⟨r, 0, none⟩)] (w.alloc (.cells #[.slice none 0 0, .int .i64 0] 45)) fun e w' => e = .returned (.bool (isOk res)) ∧ Dr w' r (.slice la L lc) nx m (stF res) ∧ Fr (One r) (w.alloc (.cells #[.slice none 0 0, .int .i64 0] 45)) w'
/-- first finds no line, or stands behind a fault. -/
theorem dfirst_none (r : Nat) (s : ByteArray) (la : Option Addr) (L lc nx m : Nat) (fl : Option Wd') (f : Wd') (w : World) (h : Dr w r (.slice la L lc) nx m fl) (hf : guardR fl (haveR L nx m) = .no f) :
    Calls Tryz.prog 27 #[.pointer (some ⟨r, 0, none⟩), .string s] w fun e w' => e = .returned (.tuple #[.agg #[.slice none 0 0, .int .i64 0], .bool false]) ∧ Dr w' r (.slice la L lc) nx m (some f) ∧ Fr (One r) w w' := by
  have HH : Hid (HavC r la L lc nx m (.no f) w) := by
    have := dhave_any r la L lc nx m fl (w.alloc (.cells #[.slice none 0 0, .int .i64 0] 45)) (h.below (by go_grown))
    rw [hf] at this
    exact this
  simp only [HavC, isOk, stF] at HH
  have hr := h.lt
  have HQ : Hid (Fr (One r) w (w.alloc (.cells #[.slice none 0 0, .int .i64 0] 45)) ∧ At (w.alloc (.cells #[.slice none 0 0, .int .i64 0] 45)) w.heap.size #[.slice none 0 0, .int .i64 0]) := ⟨Fr.of (by go_grown), At.new _ _ _⟩
  clear h hf
  go_enter Tryz.func27, Tryz.ntmps27
  go_wp2_with (first | (go_at_call 14; refine Calls.mono HH.out ?_; rintro e w1 ⟨rfl, hd, hf⟩; have hc := at_fr HQ.out.2 hf (by show ¬ _ = _; omega); have HX : Hid (Dr w1 r (.slice la L lc) nx m (some f) ∧ Fr (One r) w w1 ∧ At w1 w.heap.size #[.slice none 0 0, .int .i64 0]) := ⟨hd, HQ.out.1.same hf, hc⟩; have q0 := hc.c 0 _ rfl; have q1 := hc.c 1 _ rfl; have qf := hc.f; clear hd hf hc HQ HH))
  have hx := HX.out
  have k0 := at_set (at_set hx.2.2 (j := 0) (by simp) (.slice none 0 0)) (j := 1) (by simp) (.int .i64 0)
  have q2 : ((w1.setCell ⟨w.heap.size, 0, none⟩ (.slice none 0 0)).setCell ⟨w.heap.size, 1, none⟩ (.int .i64 0)).cell? ⟨w.heap.size, 0, none⟩ = some (.slice none 0 0) := k0.c 0 _ rfl
  have q3 : ((w1.setCell ⟨w.heap.size, 0, none⟩ (.slice none 0 0)).setCell ⟨w.heap.size, 1, none⟩ (.int .i64 0)).cell? ⟨w.heap.size, 1, none⟩ = some (.int .i64 0) := k0.c 1 _ rfl
  have hg : Fr (One w.heap.size) w1 ((w1.setCell ⟨w.heap.size, 0, none⟩ (.slice none 0 0)).setCell ⟨w.heap.size, 1, none⟩ (.int .i64 0)) := ((Fr.refl (One w.heap.size) w1).setCell (.inr rfl) _ _).setCell (.inr rfl) _ _
  refine bodyPost_ret (v := .tuple #[.agg #[.slice none 0 0, .int .i64 0], .bool false]) (by simp [results, Tryz.results27, go_sem, q2, q3]) rfl ⟨rfl, hx.1.fr hg (by omega), hx.2.1.new hg (by omega)⟩
/-- A line that is looked at. -/
structure Fq (w V : World) (r : Nat) (la : Option Addr) (L lc nx m : Nat) (fl : Option Wd') (g b n c : Nat) (x : Wd') (en : Nat) : Prop where
  d : Dr V r (.slice la L lc) nx m fl
  a : At V w.heap.size #[.slice none 0 0, .int .i64 0]
  c0 : V.cell? ⟨g, nx * 2, none⟩ = some (.slice (some ⟨b, 0, none⟩) n c)
  c1 : V.cell? ⟨g, nx * 2 + 1, none⟩ = some (.int .i64 (en : Int))
  w0 : V.cell? ⟨b, 0, none⟩ = some (.string ⟨x.2.toArray⟩)
  w1 : V.cell? ⟨b, 1, none⟩ = some (.int .i64 (x.1 : Int))
  f : Fr (One r) w V
theorem Fq.go {w V V' : World} {r : Nat} {la : Option Addr} {L lc nx m : Nat} {fl fl' : Option Wd'} {g b n c : Nat} {x : Wd'} {en : Nat} (h : Fq w V r la L lc nx m fl g b n c x en) (hd : Dr V' r (.slice la L lc) nx m fl') (hf : Fr (One r) V V') (hg : g < r) (hb : b < r) (hr : r < w.heap.size) : Fq w V' r la L lc nx m fl' g b n c x en := by
  have hz := h.d.lt
  have k : ∀ q j, q < r → V'.cell? ⟨q, j, none⟩ = V.cell? ⟨q, j, none⟩ := fun q j hq => hf.cell (by omega) (by show ¬ _ = _; omega) j
  exact ⟨hd, at_fr h.a hf (by show ¬ _ = _; omega), by rw [k _ _ hg]; exact h.c0, by rw [k _ _ hg]; exact h.c1, by rw [k _ _ hb]; exact h.w0, by rw [k _ _ hb]; exact h.w1, h.f.same hf⟩
set_option maxHeartbeats 4000000 in
theorem dfirst_yes (r : Nat) (s : List UInt8) (g b n c L lc nx m en : Nat) (x : Wd') (w : World) (h : Dr w r (.slice (some ⟨g, 0, none⟩) L lc) nx m none) (hn : nx < L) (hL : L ≤ 65537) (hn0 : 0 < n) (hg : g < r) (hb : b < r) (c0 : w.cell? ⟨g, nx * 2, none⟩ = some (.slice (some ⟨b, 0, none⟩) n c)) (c1 : w.cell? ⟨g, nx * 2 + 1, none⟩ = some (.int .i64 (en : Int))) (w0 : w.cell? ⟨b, 0, none⟩ = some (.string ⟨x.2.toArray⟩)) (w1 : w.cell? ⟨b, 1, none⟩ = some (.int .i64 (x.1 : Int))) (hxs : x.2 = s) :
    Calls Tryz.prog 27 #[.pointer (some ⟨r, 0, none⟩), .string ⟨s.toArray⟩] w fun e w' => e = .returned (.tuple #[.agg #[.slice (some ⟨b, 0, none⟩) n c, .int .i64 (en : Int)], .bool true]) ∧ Dr w' r (.slice (some ⟨g, 0, none⟩) L lc) (nx + 1) m none ∧ Fr (One r) w w' := by
  have HH : Hid (HavC r (some ⟨g, 0, none⟩) L lc nx m (.ok ()) w) := by
    have := dhave_any r (some ⟨g, 0, none⟩) L lc nx m none (w.alloc (.cells #[.slice none 0 0, .int .i64 0] 45)) (h.below (by go_grown))
    rw [show guardR none (haveR L nx m) = .ok () by simp only [guardR, haveR]; rw [if_pos hn]] at this
    exact this
  simp only [HavC, isOk, stF] at HH
  have hr := h.lt
  have HQ : Hid (Fq w (w.alloc (.cells #[.slice none 0 0, .int .i64 0] 45)) r (some ⟨g, 0, none⟩) L lc nx m none g b n c x en) := by
    have k : ∀ q j, q < w.heap.size → (w.alloc (.cells #[.slice none 0 0, .int .i64 0] 45)).cell? ⟨q, j, none⟩ = w.cell? ⟨q, j, none⟩ := fun q j hq => World.cell?_alloc_lt _ _ ⟨q, j, none⟩ hq
    exact ⟨h.below (by go_grown), At.new _ _ _, by rw [k _ _ (by omega)]; exact c0, by rw [k _ _ (by omega)]; exact c1, by rw [k _ _ (by omega)]; exact w0, by rw [k _ _ (by omega)]; exact w1, Fr.of (by go_grown)⟩
  clear h c0 c1 w0 w1
  go_enter Tryz.func27, Tryz.ntmps27
  go_wp2_with (first | (go_at_call 14; refine Calls.mono HH.out ?_; rintro e V ⟨rfl, hd, hf⟩; have HX : Hid (Fq w V r (some ⟨g, 0, none⟩) L lc nx m none g b n c x en) := HQ.out.go hd hf hg hb hr; clear hd hf HQ HH))
  have hx := HX.out
  have v0 := hx.c0
  have v1 := hx.c1
  have v2 := hx.w0
  have v3 := hx.w1
  have l0 := hx.d.a.c 0 _ rfl
  have l1 := hx.d.a.c 1 _ rfl
  have lf := hx.d.a.f
  have a0 := hx.a.c 0 _ rfl
  have a1 := hx.a.c 1 _ rfl
  have af := hx.a.f
  have zr := hx.d.lt
  have za := hx.a.lt
  have zg : g < V.heap.size := by omega
  have zb : b < V.heap.size := by omega
  clear hx
  subst hxs
  go_region
  go_wp2
  have hx := HX.out
  have hg1 : Fr (One r) V (V.setCell ⟨r, 1, none⟩ (.int .i64 ((nx : Int) + 1))) := (Fr.refl (One r) V).setCell (.inr rfl) _ _
  have hd1 : Dr (V.setCell ⟨r, 1, none⟩ (.int .i64 ((nx : Int) + 1))) r (.slice (some ⟨g, 0, none⟩) L lc) (nx + 1) m none := ⟨at_set hx.d.a (j := 1) (by simp) (.int .i64 ((nx : Int) + 1))⟩
  have ha1 := at_fr hx.a hg1 (by show ¬ _ = _; omega)
  have hg2 : Fr (One w.heap.size) (V.setCell ⟨r, 1, none⟩ (.int .i64 ((nx : Int) + 1))) (((V.setCell ⟨r, 1, none⟩ (.int .i64 ((nx : Int) + 1))).setCell ⟨w.heap.size, 0, none⟩ (.slice (some ⟨b, 0, none⟩) n c)).setCell ⟨w.heap.size, 1, none⟩ (.int .i64 (en : Int))) := ((Fr.refl (One w.heap.size) _).setCell (.inr rfl) _ _).setCell (.inr rfl) _ _
  have hB : Below (((V.setCell ⟨r, 1, none⟩ (.int .i64 ((nx : Int) + 1))).setCell ⟨w.heap.size, 0, none⟩ (.slice (some ⟨b, 0, none⟩) n c)).setCell ⟨w.heap.size, 1, none⟩ (.int .i64 (en : Int))).heap.size (((V.setCell ⟨r, 1, none⟩ (.int .i64 ((nx : Int) + 1))).setCell ⟨w.heap.size, 0, none⟩ (.slice (some ⟨b, 0, none⟩) n c)).setCell ⟨w.heap.size, 1, none⟩ (.int .i64 (en : Int))) ((((V.setCell ⟨r, 1, none⟩ (.int .i64 ((nx : Int) + 1))).setCell ⟨w.heap.size, 0, none⟩ (.slice (some ⟨b, 0, none⟩) n c)).setCell ⟨w.heap.size, 1, none⟩ (.int .i64 (en : Int))).alloc (.cells #[.slice (some ⟨b, 0, none⟩) n c, .int .i64 (en : Int)] 45)).drew := ((Below.refl _ _).alloc (Nat.le_refl _) _).drew
  have k0 := (at_set (at_set ha1 (j := 0) (by simp) (.slice (some ⟨b, 0, none⟩) n c)) (j := 1) (by simp) (.int .i64 (en : Int)))
  have k1 := k0.below hB k0.lt
  have q2 : ((((V.setCell ⟨r, 1, none⟩ (.int .i64 ((nx : Int) + 1))).setCell ⟨w.heap.size, 0, none⟩ (.slice (some ⟨b, 0, none⟩) n c)).setCell ⟨w.heap.size, 1, none⟩ (.int .i64 (en : Int))).alloc (.cells #[.slice (some ⟨b, 0, none⟩) n c, .int .i64 (en : Int)] 45)).drew.cell? ⟨w.heap.size, 0, none⟩ = some (.slice (some ⟨b, 0, none⟩) n c) := k1.c 0 _ rfl
  have q3 : ((((V.setCell ⟨r, 1, none⟩ (.int .i64 ((nx : Int) + 1))).setCell ⟨w.heap.size, 0, none⟩ (.slice (some ⟨b, 0, none⟩) n c)).setCell ⟨w.heap.size, 1, none⟩ (.int .i64 (en : Int))).alloc (.cells #[.slice (some ⟨b, 0, none⟩) n c, .int .i64 (en : Int)] 45)).drew.cell? ⟨w.heap.size, 1, none⟩ = some (.int .i64 (en : Int)) := k1.c 1 _ rfl
  refine bodyPost_ret (v := .tuple #[.agg #[.slice (some ⟨b, 0, none⟩) n c, .int .i64 (en : Int)], .bool true]) (by simp [results, Tryz.results27, go_sem] at q2 q3 ⊢; simp [q2, q3, Result.andThen]) rfl ⟨rfl, (hd1.fr hg2 (by omega)).below hB, ((hx.f.same hg1).new hg2 (by omega)).then hB⟩
set_option maxHeartbeats 4000000 in
theorem dfirst_no (r : Nat) (s : List UInt8) (g b n c L lc nx m en : Nat) (x : Wd') (w : World) (h : Dr w r (.slice (some ⟨g, 0, none⟩) L lc) nx m none) (hn : nx < L) (_hL : L ≤ 65537) (hn0 : 0 < n) (hg : g < r) (hb : b < r) (c0 : w.cell? ⟨g, nx * 2, none⟩ = some (.slice (some ⟨b, 0, none⟩) n c)) (c1 : w.cell? ⟨g, nx * 2 + 1, none⟩ = some (.int .i64 (en : Int))) (w0 : w.cell? ⟨b, 0, none⟩ = some (.string ⟨x.2.toArray⟩)) (w1 : w.cell? ⟨b, 1, none⟩ = some (.int .i64 (x.1 : Int))) (hxs : x.2 ≠ s) :
    Calls Tryz.prog 27 #[.pointer (some ⟨r, 0, none⟩), .string ⟨s.toArray⟩] w fun e w' => e = .returned (.tuple #[.agg #[.slice none 0 0, .int .i64 0], .bool false]) ∧ Dr w' r (.slice (some ⟨g, 0, none⟩) L lc) nx m (some x) ∧ Fr (One r) w w' := by
  have HH : Hid (HavC r (some ⟨g, 0, none⟩) L lc nx m (.ok ()) w) := by
    have := dhave_any r (some ⟨g, 0, none⟩) L lc nx m none (w.alloc (.cells #[.slice none 0 0, .int .i64 0] 45)) (h.below (by go_grown))
    rw [show guardR none (haveR L nx m) = .ok () by simp only [guardR, haveR]; rw [if_pos hn]] at this
    exact this
  simp only [HavC, isOk, stF] at HH
  have HF : Hid (∀ W, Dr W r (.slice (some ⟨g, 0, none⟩) L lc) nx m none → Calls Tryz.prog 26 #[.pointer (some ⟨r, 0, none⟩), .int .i64 (x.1 : Int), .string ⟨x.2.toArray⟩] W fun e w' => e = .returned (.tuple #[]) ∧ Dr w' r (.slice (some ⟨g, 0, none⟩) L lc) nx m (some x) ∧ Fr (One r) W w') := fun W h => dfail_any r x.1 x.2 _ nx m none W h
  have hne : (x.2 == s) = false := by simpa using hxs
  have hne2 : (x.2 != s) = true := by simpa using hxs
  have hr := h.lt
  have HQ : Hid (Fq w (w.alloc (.cells #[.slice none 0 0, .int .i64 0] 45)) r (some ⟨g, 0, none⟩) L lc nx m none g b n c x en) := by
    have k : ∀ q j, q < w.heap.size → (w.alloc (.cells #[.slice none 0 0, .int .i64 0] 45)).cell? ⟨q, j, none⟩ = w.cell? ⟨q, j, none⟩ := fun q j hq => World.cell?_alloc_lt _ _ ⟨q, j, none⟩ hq
    exact ⟨h.below (by go_grown), At.new _ _ _, by rw [k _ _ (by omega)]; exact c0, by rw [k _ _ (by omega)]; exact c1, by rw [k _ _ (by omega)]; exact w0, by rw [k _ _ (by omega)]; exact w1, Fr.of (by go_grown)⟩
  clear h c0 c1 w0 w1
  go_enter Tryz.func27, Tryz.ntmps27
  go_wp2_with (first | (go_at_call 14; refine Calls.mono HH.out ?_; rintro e V ⟨rfl, hd, hf⟩; have HX : Hid (Fq w V r (some ⟨g, 0, none⟩) L lc nx m none g b n c x en) := HQ.out.go hd hf hg hb hr; clear hd hf HQ HH))
  have hx := HX.out
  have v0 := hx.c0
  have v1 := hx.c1
  have v2 := hx.w0
  have v3 := hx.w1
  have l0 := hx.d.a.c 0 _ rfl
  have l1 := hx.d.a.c 1 _ rfl
  have lf := hx.d.a.f
  have a0 := hx.a.c 0 _ rfl
  have a1 := hx.a.c 1 _ rfl
  have af := hx.a.f
  have zr := hx.d.lt
  have za := hx.a.lt
  have zg : g < V.heap.size := by omega
  have zb : b < V.heap.size := by omega
  clear hx
  go_region
  go_wp2
  have hx := HX.out
  have hU0 : Below V.heap.size V (V.alloc (.cells #[.slice (some ⟨b, 0, none⟩) n c, .int .i64 (en : Int)] 45)).drew := ((Below.refl _ _).alloc (Nat.le_refl _) _).drew
  have u0 := (At.new V #[.slice (some ⟨b, 0, none⟩) n c, .int .i64 (en : Int)] 45).below (w' := (V.alloc (.cells #[.slice (some ⟨b, 0, none⟩) n c, .int .i64 (en : Int)] 45)).drew) (Below.refl (V.alloc (.cells #[.slice (some ⟨b, 0, none⟩) n c, .int .i64 (en : Int)] 45)).heap.size _).drew (by simp)
  have v4 : (V.alloc (.cells #[.slice (some ⟨b, 0, none⟩) n c, .int .i64 (en : Int)] 45)).drew.cell? ⟨b, 0, none⟩ = some (.string ⟨x.2.toArray⟩) := ((bcell hU0).1 _ _ zb).trans v2
  have v5 : (V.alloc (.cells #[.slice (some ⟨b, 0, none⟩) n c, .int .i64 (en : Int)] 45)).drew.cell? ⟨b, 1, none⟩ = some (.int .i64 (x.1 : Int)) := ((bcell hU0).1 _ _ zb).trans v3
  have HU : Hid (Dr (V.alloc (.cells #[.slice (some ⟨b, 0, none⟩) n c, .int .i64 (en : Int)] 45)).drew r (.slice (some ⟨g, 0, none⟩) L lc) nx m none ∧ At (V.alloc (.cells #[.slice (some ⟨b, 0, none⟩) n c, .int .i64 (en : Int)] 45)).drew w.heap.size #[.slice none 0 0, .int .i64 0] ∧ Fr (One r) w (V.alloc (.cells #[.slice (some ⟨b, 0, none⟩) n c, .int .i64 (en : Int)] 45)).drew) := ⟨hx.d.below hU0, hx.a.below hU0 hx.a.lt, hx.f.then hU0⟩
  have u1 := u0.c 0 _ rfl
  clear u0 hx HX v0 v1 v2 v3 l0 l1 lf a0 a1 af hU0
  generalize hVs : V.heap.size = vs at *
  generalize (V.alloc (.cells #[.slice (some ⟨b, 0, none⟩) n c, .int .i64 (en : Int)] 45)).drew = U at *
  clear hVs
  go_region_with (first | (go_at_call 26; refine Calls.mono (HF.out _ (HU.out.1.below (Below.refl _ _).drew)) ?_; rintro e u2 ⟨rfl, hd, hf⟩; have hc := at_fr (HU.out.2.1.below (Below.refl U.heap.size U).drew HU.out.2.1.lt) hf (by show ¬ _ = _; omega); have HZ : Hid (Dr u2 r (.slice (some ⟨g, 0, none⟩) L lc) nx m (some x) ∧ At u2 w.heap.size #[.slice none 0 0, .int .i64 0] ∧ Fr (One r) w u2) := ⟨hd, hc, (HU.out.2.2.then (Below.refl _ _).drew).same hf⟩; have q0 := hc.c 0 _ rfl; have q1 := hc.c 1 _ rfl; have qf := hc.f; clear hd hf hc))
  all_goals go_wp2
  all_goals
    have hx := HZ.out
    have k0 := at_set (at_set hx.2.1 (j := 0) (by simp) (.slice none 0 0)) (j := 1) (by simp) (.int .i64 0)
    have q2 : ((u2.setCell ⟨w.heap.size, 0, none⟩ (.slice none 0 0)).setCell ⟨w.heap.size, 1, none⟩ (.int .i64 0)).cell? ⟨w.heap.size, 0, none⟩ = some (.slice none 0 0) := k0.c 0 _ rfl
    have q3 : ((u2.setCell ⟨w.heap.size, 0, none⟩ (.slice none 0 0)).setCell ⟨w.heap.size, 1, none⟩ (.int .i64 0)).cell? ⟨w.heap.size, 1, none⟩ = some (.int .i64 0) := k0.c 1 _ rfl
    have hg : Fr (One w.heap.size) u2 ((u2.setCell ⟨w.heap.size, 0, none⟩ (.slice none 0 0)).setCell ⟨w.heap.size, 1, none⟩ (.int .i64 0)) := ((Fr.refl (One w.heap.size) u2).setCell (.inr rfl) _ _).setCell (.inr rfl) _ _
    exact bodyPost_ret (v := .tuple #[.agg #[.slice none 0 0, .int .i64 0], .bool false]) (by simp [results, Tryz.results27, go_sem, q2, q3]) rfl ⟨rfl, hx.1.fr hg (by omega), hx.2.2.new hg (by omega)⟩
/-- first: the line that comes, if its first word is this one. -/
theorem dfirst_any (r : Nat) (s : List UInt8) (la : Option Addr) (ls : List Ln) (ps : List Pw) (lc nx m : Nat) (fl : Option Wd') (w : World) (h : Dr w r (.slice la ls.length lc) nx m fl) (hd : DL w r la ls ps) :
    Calls Tryz.prog 27 #[.pointer (some ⟨r, 0, none⟩), .string ⟨s.toArray⟩] w fun e w' => match guardR fl (firstR s ls nx m) with
      | .ok _ => ∃ p l, ps[nx]? = some p ∧ ls[nx]? = some l ∧ e = .returned (.tuple #[.agg #[.slice p.1 l.ws.length p.2, .int .i64 (l.en : Int)], .bool true]) ∧ Dr w' r (.slice la ls.length lc) (nx + 1) m none ∧ Fr (One r) w w'
      | .no f => e = .returned (.tuple #[.agg #[.slice none 0 0, .int .i64 0], .bool false]) ∧ Dr w' r (.slice la ls.length lc) nx m (some f) ∧ Fr (One r) w w' := by
  cases fl with
  | some f => exact dfirst_none r _ la ls.length lc nx m (some f) f w h rfl
  | none =>
    rcases Nat.lt_or_ge nx ls.length with hlt | hge
    · have hlt' : nx < ps.length := by rw [hd.len]; exact hlt
      obtain ⟨g, rfl, hg, c0, c1, hw⟩ := hd.is nx hlt hlt'
      have hne := hd.ne ls[nx] (List.getElem_mem hlt)
      cases hws : ls[nx].ws with
      | nil => exact absurd hws hne
      | cons x t =>
        have hpos : 0 < ls[nx].ws.length := by rw [hws]; simp
        obtain ⟨b, e, hb, w0, w1⟩ := hw.is 0 hpos
        have hx0 : ls[nx].ws[0] = x := by simp [hws]
        rw [hx0] at w0 w1
        rw [e] at c0
        have hf : firstR s ls nx m = if x.2 = s then .ok () else .no x := by
          unfold firstR
          rw [List.getElem?_eq_getElem hlt]
          simp only [hws]
        simp only [guardR, hf]
        by_cases hs : x.2 = s
        · rw [if_pos hs]
          refine (dfirst_yes r s g b _ _ ls.length lc nx m _ x w h hlt hd.n hpos hg hb c0 c1 w0 w1 hs).mono ?_
          rintro e' w' ⟨rfl, h1, h2⟩
          exact ⟨ps[nx], ls[nx], List.getElem?_eq_getElem hlt', List.getElem?_eq_getElem hlt, by rw [e], h1, h2⟩
        · rw [if_neg hs]
          exact dfirst_no r s g b _ _ ls.length lc nx m _ x w h hlt hd.n hpos hg hb c0 c1 w0 w1 hs
    · have hf : firstR s ls nx m = .no (m, []) := by
        unfold firstR
        rw [List.getElem?_eq_none hge]
      simp only [guardR, hf]
      exact dfirst_none r _ la ls.length lc nx m none (m, []) w h (by simp only [guardR, haveR]; rw [if_neg (by omega)])
end Go.Proofs.YthfchelkfbboaaaGreatDoor.Pr
