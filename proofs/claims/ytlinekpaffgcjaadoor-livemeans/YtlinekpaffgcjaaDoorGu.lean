/- A new map and the search over it; what a pair in the map reads as. Conditions: the program lies in memory. -/
import Derived.Test.YtlinekpaffgcjaaDoorGr
import Derived.Carry
namespace Go.Proofs.YtlinekpaffgcjaaDoor.Fl
open Go.ChangeShapes Go.WideShapes Go.ChangeAt Go.RowKit Go.Maps
open _root_.Go.Proofs.YtlinekpaffgcjaaDoor.So _root_.Go.Proofs.YtlinekpaffgcjaaDoor.Ss _root_.Go.Proofs.YtlinekpaffgcjaaDoor.Op _root_.Go.Proofs.YtlinekpaffgcjaaDoor.Fw
set_option maxRecDepth 20000

theorem lits3 {d : Nat} {c : Value} {l : List Lit} (h : Tryd.prog.keyLits (d + 1) 3 [c] = some l) : ∃ x : Int, c = .int .i64 x ∧ (Lit.int .i64 x).wf = true ∧ l = [.int .i64 x] := by
  unfold Program.keyLits at h
  rw [Tryd.underlying3] at h
  cases c <;> simp at h
  rename_i q x
  obtain ⟨⟨rfl, hw⟩, rfl⟩ := h
  exact ⟨x, rfl, hw, rfl⟩
theorem key_inv {v : Value} {l : Lit} (h : keyOf Tryd.prog 87 v = some l) : ∃ x y : Int, v = .agg #[.int .i64 x, .int .i64 y] ∧ (Lit.int .i64 x).wf = true ∧ (Lit.int .i64 y).wf = true ∧ l = .string (keyBytes [.int .i64 x, .int .i64 y]) := by
  unfold keyOf at h
  simp only [arr52.hu] at h
  split at h
  · rename_i hc
    rw [Bool.and_eq_true] at hc
    have hf := hc.2
    cases v <;> simp [Value.formed, arr52.hu] at hf
    rename_i cs
    rw [arr52.size] at hf
    obtain ⟨cl⟩ := cs
    match cl, hf with
    | [c0, c1], _ =>
      obtain ⟨m, hm⟩ := types_pos
      rw [hm] at h
      unfold Program.keyLits at h
      simp only [arr52.hu, Value.cells] at h
      rw [if_pos (by rw [arr52.size]; rfl), show List.range 2 = [0, 1] from rfl, List.mapM_cons, List.mapM_cons, List.mapM_nil] at h
      simp only [bind, Option.bind_eq_some_iff, pure, Option.map_eq_some_iff, Option.some.injEq, arr52.one] at h
      obtain ⟨ls, ⟨xs, ⟨y0, h0, ys, ⟨y1, h1, zs, rfl, rfl⟩, rfl⟩, rfl⟩, rfl⟩ := h
      obtain ⟨x, e0, w0, rfl⟩ := lits3 (d := m) (c := c0) (l := y0) (by simpa using h0)
      obtain ⟨y, e1, w1, rfl⟩ := lits3 (d := m) (c := c1) (l := y1) (by simpa using h1)
      subst e0; subst e1
      exact ⟨x, y, rfl, w0, w1, rfl⟩
  · cases h
theorem key_kl {v : Value} {p : Nat × Nat} (hp : p.1 < 1000 ∧ p.2 < 1000) (h : keyOf Tryd.prog 87 v = some (kl p)) : v = .agg #[.int .i64 (p.1 : Int), .int .i64 (p.2 : Int)] := by
  obtain ⟨x, y, rfl, hx, hy, e⟩ := key_inv h
  unfold kl at e
  injection e with e
  have := keyBytes_inj (l := [.int .i64 (p.1 : Int), .int .i64 (p.2 : Int)]) (l' := [.int .i64 x, .int .i64 y]) ⟨rfl, rfl, trivial⟩
    (fun a ha => by simp at ha; rcases ha with rfl | rfl <;> exact wfS (by omega)) (fun a ha => by simp at ha; rcases ha with rfl | rfl <;> assumption) e
  simp at this
  rw [this.1, this.2]

theorem searcher_any (ao : Option Addr) (cap mb n : Nat) (w : World) :
    Calls Tryd.prog 43 #[.agg #[.slice ao n cap], .map (some mb)] w fun e w' => e = .returned (.func (.func 58) #[] #[.pointer (some ⟨w.heap.size, 0, none⟩), .pointer (some ⟨w.heap.size + 1, 0, none⟩)]) ∧ w' = (w.alloc (.cells #[.slice ao n cap] 24)).alloc (.cells #[.map (some mb)] 84) := by
  go_enter Tryd.func43, Tryd.ntmps43
  go_wp2
  go_ret
  exact ⟨rfl, rfl⟩
/-- A new map, and the boxes over it. -/
theorem two_made {w : World} {ao : Option Addr} {cap : Nat} {ps : List Bk} (hP : PAt w ao ps) (ha : ∀ b f, ao = some ⟨b, f, none⟩ → b < w.heap.size) :
    Two (((w.alloc (.map #[] 0)).alloc (.cells #[.slice ao ps.length cap] 24)).alloc (.cells #[.map (some w.heap.size)] 84)) (w.heap.size + 1) (w.heap.size + 1 + 1) w.heap.size ao cap ps ∧
    Mp (((w.alloc (.map #[] 0)).alloc (.cells #[.slice ao ps.length cap] 24)).alloc (.cells #[.map (some w.heap.size)] 84)) w.heap.size [] := by
  have hb : Below w.heap.size w (((w.alloc (.map #[] 0)).alloc (.cells #[.slice ao ps.length cap] 24)).alloc (.cells #[.map (some w.heap.size)] 84)) := by go_grown
  refine ⟨⟨?_, ?_, ⟨by simp, by omega⟩, ⟨by simp, by omega⟩, hP.below hb, ha⟩, ⟨?_, fun p hp => by simp at hp⟩⟩
  · have e : (w.alloc (.map #[] 0)).heap.size = w.heap.size + 1 := by simp
    have h := ((At.new (w.alloc (.map #[] 0)) #[.slice ao ps.length cap] 24).alloc (.cells #[.map (some w.heap.size)] 84)).c 0 _ rfl
    rw [e] at h
    exact h
  · have e : ((w.alloc (.map #[] 0)).alloc (.cells #[.slice ao ps.length cap] 24)).heap.size = w.heap.size + 1 + 1 := by simp
    have h := (At.new ((w.alloc (.map #[] 0)).alloc (.cells #[.slice ao ps.length cap] 24)) #[.map (some w.heap.size)] 84).c 0 _ rfl
    rw [e] at h
    exact h
  · exact ((World.ownsMap_made w Tryd.prog 87 (unitElem (H := Unit))).alloc _).alloc _
end Go.Proofs.YtlinekpaffgcjaaDoor.Fl
