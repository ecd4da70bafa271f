/- A search from one block; the ring of a block: read off the program by the walk. Conditions: the program is one, and lies in memory. -/
import Derived.Test.YtlinekpaffgcjaaDoorGo
import Derived.Laws.EntriesVeiled
namespace Go.Proofs.YtlinekpaffgcjaaDoor.Fl
open Go.ChangeShapes Go.WideShapes Go.ChangeAt Go.RowKit Go.Maps
open _root_.Go.Proofs.YtlinekpaffgcjaaDoor.So _root_.Go.Proofs.YtlinekpaffgcjaaDoor.Ss _root_.Go.Proofs.YtlinekpaffgcjaaDoor.Op _root_.Go.Proofs.YtlinekpaffgcjaaDoor.Fw
set_option maxRecDepth 20000

/-- What a search from a block leaves. -/
structure Srch (ps : List Bk) (fr : Nat) (L L' : List (Nat × Nat)) : Prop where
  is : ∀ z, (fr, z) ∈ L' ↔ Fw.Way (tB ps) ps.length fr z
  other : ∀ x z, x ≠ fr → ((x, z) ∈ L' ↔ (x, z) ∈ L)
  len : L'.length ≤ L.length + ps.length
/-- A program's box and a map's box, over a map. -/
structure Two (w : World) (bp bm mb : Nat) (ao : Option Addr) (cap : Nat) (ps : List Bk) : Prop where
  p : w.cell? ⟨bp, 0, none⟩ = some (.slice ao ps.length cap)
  m : w.cell? ⟨bm, 0, none⟩ = some (.map (some mb))
  lp : bp < w.heap.size ∧ bp ≠ mb
  lm : bm < w.heap.size ∧ bm ≠ mb
  pat : PAt w ao ps
  apart : ∀ b f, ao = some ⟨b, f, none⟩ → b < mb
theorem OpsAt.fr {B mb : Nat} {w w' : World} {ao : Option Addr} {xs : List O} (h : OpsAt w ao xs) (hF : Fr (One mb) w w') (hb : ∀ b f, ao = some ⟨b, f, none⟩ → b < B) (hB : B ≤ mb) : OpsAt w' ao xs := by
  refine ⟨h.ok, h.len, fun h0 => ?_⟩
  obtain ⟨b, f, e, z, hx⟩ := h.is h0
  have hne : ¬ One mb b := fun e' => by have := hb b f e; have : b = mb := e'; omega
  refine ⟨b, f, e, Nat.lt_of_lt_of_le z hF.size, fun i hi => ?_⟩
  obtain ⟨c0, c1, c2, c3, c4⟩ := hx i hi
  exact ⟨by rw [hF.cell z hne]; exact c0, by rw [hF.cell z hne]; exact c1, by rw [hF.cell z hne]; exact c2, by rw [hF.cell z hne]; exact c3, by rw [hF.cell z hne]; exact c4⟩

set_option maxHeartbeats 2000000 in
theorem search_any (bp bm mb : Nat) (ao : Option Addr) (cap fr : Nat) (ps : List Bk) (L : List (Nat × Nat)) (w : World) (hT : Two w bp bm mb ao cap ps) (hM : Mp w mb L) (hG : Good ps) (hfr : fr < ps.length) (hno : ∀ z, ¬ (fr, z) ∈ L) (hl : L.length ≤ 50000) :
    Calls Tryd.prog 58 #[.int .i64 (fr : Int), .pointer (some ⟨bp, 0, none⟩), .pointer (some ⟨bm, 0, none⟩)] w fun e w' => e = .returned (.tuple #[]) ∧ ∃ L', Mp w' mb L' ∧ Srch ps fr L L' ∧ Fr (One mb) w w' := by
  have hle := hG.le
  obtain ⟨w1, hw1⟩ : ∃ w1, w1 = (w.alloc (.cells #[.int .i64 (fr : Int)] 3)).alloc (.cells #[.func (.func 59) #[] #[.pointer (some ⟨bp, 0, none⟩), .pointer (some ⟨bm, 0, none⟩), .pointer (some ⟨w.heap.size, 0, none⟩), .pointer (some ⟨w.heap.size + 1, 0, none⟩)]] 85) := ⟨_, rfl⟩
  have F0 : Fr Non w w1 := by rw [hw1]; exact ((Fr.refl Non w).alloc _).alloc _
  have hs1 : w1.heap.size = w.heap.size + 2 := by rw [hw1]; simp
  have hmlt := hM.own.lt
  have cf : w1.cell? ⟨w.heap.size, 0, none⟩ = some (.int .i64 (fr : Int)) := by
    rw [hw1]; simp
  have cg : w1.cell? ⟨w.heap.size + 1, 0, none⟩ = some (.func (.func 59) #[] #[.pointer (some ⟨bp, 0, none⟩), .pointer (some ⟨bm, 0, none⟩), .pointer (some ⟨w.heap.size, 0, none⟩), .pointer (some ⟨w.heap.size + 1, 0, none⟩)]) := by
    rw [hw1]
    simp
  have hB : Bx w1 bp bm w.heap.size (w.heap.size + 1) mb ao cap fr ps :=
    ⟨by rw [F0.cell hT.lp.1 id]; exact hT.p, by rw [F0.cell hT.lm.1 id]; exact hT.m, cf, cg, ⟨by have := hT.lp.1; omega, hT.lp.2⟩, ⟨by have := hT.lm.1; omega, hT.lm.2⟩, ⟨by omega, by omega⟩, ⟨by omega, by omega⟩, hT.pat.below F0.non, fun b f e => by have := hT.apart b f e; omega, by omega⟩
  have hS : Gs w1 w1 mb L := ⟨Fr.refl _ _, hM.fr F0 id⟩
  have hu := unmet_le ps.length fr L
  have HG : Hid (Calls Tryd.prog 59 #[.int .i64 (fr : Int), .pointer (some ⟨bp, 0, none⟩), .pointer (some ⟨bm, 0, none⟩), .pointer (some ⟨w.heap.size, 0, none⟩), .pointer (some ⟨w.heap.size + 1, 0, none⟩)] w1 fun e w' => e = .returned (.tuple #[]) ∧ ∃ L', Mp w' mb L' ∧ Srch ps fr L L' ∧ Fr (One mb) w w') := by
    refine (goes_any w1 bp bm w.heap.size (w.heap.size + 1) mb ao cap fr ps hB hG (by omega) (ps.length + 1) fr L w1 hfr hS (by omega) (by omega)).mono ?_
    rintro e w' ⟨rfl, L', hS', hD, hF⟩
    refine ⟨rfl, L', hS'.m, ⟨?_, fun x z hx => ⟨fun h => ?_, fun h => hD.old _ h⟩, by have := hD.cnt; omega⟩, (F0.mono (Y := One mb) fun k hk h => h.elim).same hF⟩
    · have := hD.ds
      have e : (fun z => (fr, z) ∈ L) = fun _ => False := by funext z; simp [hno z]
      rw [e] at this
      exact this.done
    · rcases hD.new _ h with h | h
      · exact h
      · exact absurd h.1 hx
  clear hT hM hG hB hS F0 hs1 hno
  rw [hw1] at cf cg HG
  clear hw1 w1
  go_enter Tryd.func58, Tryd.ntmps58
  go_wp2_with (first | (go_at_call 59; refine Calls.mono HG.out ?_; rintro e w2 ⟨rfl, L', h1, h2, h3⟩; have HX : Hid (Mp w2 mb L' ∧ Srch ps fr L L' ∧ Fr (One mb) w w2) := ⟨h1, h2, h3⟩; clear h1 h2 h3))

  go_end0
  exact ⟨rfl, L', HX.out⟩
end Go.Proofs.YtlinekpaffgcjaaDoor.Fl
