/- Rings, read off the program by the walk. Conditions: the program lies in memory. -/
import Derived.Test.YtfdmahilgemlaaaDoorGy
namespace Go.Proofs.YtfdmahilgemlaaaDoor.Fl
open Go.ChangeShapes Go.WideShapes Go.ChangeAt Go.RowKit Go.Maps
open _root_.Go.Proofs.YtfdmahilgemlaaaDoor.So _root_.Go.Proofs.YtfdmahilgemlaaaDoor.Ss _root_.Go.Proofs.YtfdmahilgemlaaaDoor.Op _root_.Go.Proofs.YtfdmahilgemlaaaDoor.Fw
set_option maxRecDepth 20000

theorem info28 : (Tryd.prog.info? 28).map (fun i => (i.zero, i.size, i.bytes)) = some (some (.slice none 0 0), 1, 24) := by kernel_rfl
/-- What comes of the list of rings. -/
theorem ringsOut_any {w wr : World} {mb : Nat} {ao : Option Addr} {cap : Nat} {L : List (Nat × Nat)} {ps : List Bk} {v : Value} {es : List (Sg.Rg × Nat)} (h : Rl w wr mb ao cap L ps.length ps.length v es) (hle : ps.length ≤ 128)
    (hL : ∀ x, x < ps.length → ∀ z, (x, z) ∈ L ↔ Fw.Way (tB ps) ps.length x z) :
    Calls Tryd.prog 20 #[v, .func (.func 21) #[] #[]] wr fun e w' => ∃ u, e = .returned u ∧ GotL w w' u ((ringsTo (tB ps) ps.length ps.length).map fun l => l.map fun (j : Nat) => (j : Int)) := by
  by_cases he : es = []
  · rw [h.nil he]
    refine (risingNil_any wr).mono ?_
    rintro e w' ⟨rfl, hb⟩
    have hnil : (ringsTo (tB ps) ps.length ps.length).map (fun l => l.map fun (j : Nat) => (j : Int)) = [] := by
      unfold ringsTo
      rw [List.filter_eq_nil_iff.2 fun m hm hh => ?_]
      · rfl
      · have hm' := List.mem_range.1 hm
        have hml : (m, m) ∈ L := (hL m hm' m).2 (wB_iff.1 (head_self hm' hh).1)
        have : m ∈ es.map (·.2) := by rw [h.idx, List.mem_filter]; exact ⟨hm, by simp [hml]⟩
        rw [he] at this; simp at this
    rw [hnil]
    exact ⟨_, rfl, none, 0, rfl, Ll.nil _ _ _, h.b.trans (hb.mono h.b.size)⟩
  · have hpos : 0 < es.length := List.length_pos_iff.2 he
    have hlen : es.length ≤ 128 := by
      have e1 : es.length = ((List.range ps.length).filter fun i => decide ((i, i) ∈ L)).length := by rw [← h.idx, List.length_map]
      have := List.length_filter_le (fun i => decide ((i, i) ∈ L)) (List.range ps.length)
      rw [List.length_range] at this
      omega
    obtain ⟨g, cp, cur, rfl, hgb, hgh, hgn, hgc, hgs, hgt⟩ : ∃ g cp cur, v = .slice (some ⟨g, 0, none⟩) es.length cp ∧ w.heap.size + 1 ≤ g ∧ wr.heap[g]? = some (.cells cur 28 (0, 0)) ∧ es.length ≤ cp ∧ cp ≤ maxLen ∧ cur.size = cp * 1 ∧ cur.toList.take (es.length * 1) = es.map fun e => Value.slice (some ⟨e.1.q, 0, none⟩) e.1.n e.1.c := by
      rcases h.row.2 with ⟨_, h1⟩ | h1
      · omega
      · exact h1
    have hglt : g < wr.heap.size := (h.row.lt g rfl).2
    have hcell := h.row.cells (g := g) rfl
    refine (Sg.rising_any g es.length cp (keyG wr) (fun k => ((es[k]?).map (·.1)).getD ⟨0, 0, 0⟩) wr (fun k hk => ?_) (fun k => ?_) hglt (fun k hk => ?_) hgn (by unfold maxLen at hgc; omega) (by omega)).mono ?_
    · have := hcell k (Value.slice (some ⟨es[k].1.q, 0, none⟩) es[k].1.n es[k].1.c) (by rw [List.getElem?_map, List.getElem?_eq_getElem hk]; rfl)
      have e : (⟨g, 0, none⟩ : Addr).add k = ⟨g, k, none⟩ := by
        by_cases c : k = 0
        · subst c; simp [Addr.add]
        · simp [Addr.add, c]
      rw [e] at this
      rw [this, List.getElem?_eq_getElem hk]; rfl
    · simp [World.frozen?, hgh]
    · have hE := h.el es[k] (List.getElem_mem hk)
      rw [List.getElem?_eq_getElem hk]
      show Ok g wr (keyG wr) es[k].1
      obtain ⟨b, eb, _, _, hc⟩ := hE.il.is (by have := hE.len; have := hE.pos; omega)
      have hq : es[k].1.q = b := by injection eb with eb; injection eb
      have hc0 := hc 0 (by have := hE.len; have := hE.pos; omega)
      rw [← hq] at hc0
      refine ⟨hE.pos, ?_, fun e => hE.ne (by rw [e]; rfl), hE.lt⟩
      unfold keyG
      rw [hc0]
    · rintro e w' ⟨k', rfl, G, hG⟩
      obtain ⟨h1, h2, h3⟩ := rings_done h hL hG
      exact ⟨_, rfl, _, _, by rw [h1], h2, h3⟩

set_option maxHeartbeats 16000000 in
theorem rings_any (ao : Option Addr) (cap : Nat) (ps : List Bk) (w : World) (h : PAt w ao ps) (he : Env w) :
    Calls Tryd.prog 5 #[.agg #[.slice ao ps.length cap]] w fun e w' => ∃ v, e = .returned v ∧ GotL w w' v (ringsI ps) := by
  have hb1 : Below w.heap.size w (w.alloc (.cells #[.slice ao ps.length cap] 24)) := by go_grown
  have HK : Hid (Calls Tryd.prog 16 #[.agg #[.slice ao ps.length cap], .int .i64 0] (w.alloc (.cells #[.slice ao ps.length cap] 24)) fun e w' => e = .returned (.bool (knB ps 0)) ∧ Below (w.alloc (.cells #[.slice ao ps.length cap] 24)).heap.size (w.alloc (.cells #[.slice ao ps.length cap] 24)) w') := known_any ao cap ps 0 _ (h.below hb1) (he.up hb1)
  unfold ringsI
  by_cases hk : knB ps 0 = true
  · rw [if_pos hk]
    rw [hk] at HK
    have hk' := hk
    unfold knB at hk'
    simp only [Bool.and_eq_true, decide_eq_true_eq] at hk'
    have hG := good_of hk'.2
    have hpos := hG.pos
    have hle := hG.le
    have HP : Hid (PAt w ao ps ∧ ∀ b f, ao = some ⟨b, f, none⟩ → b < w.heap.size) := ⟨h, fun b f e => by
      obtain ⟨b', f', e', hlt, _⟩ := h.is hpos
      rw [e] at e'; injection e' with e'; injection e' with e1; omega⟩
    have hmm := @run_makeMap Tryd.prog
    have HSr : Hid _ := searcher_any ao cap
    have HGd : Hid (Good ps) := hG
    clear h he hk hb1 hG hk'
    go_enter Tryd.func5, Tryd.ntmps5
    go_wp2_with (first
      | (go_at_call 16; refine Calls.mono HK.out ?_; rintro e w1 ⟨rfl, hb⟩; obtain ⟨a1, hb0, hz⟩ := one_new w _ _ hb; have HB1 : Hid (Below w.heap.size w w1) := hb0; have cb := a1.c 0 _ rfl; have HA1 : Hid (At w1 w.heap.size #[.slice ao ps.length cap]) := a1; have cc := ((a1.alloc (.map #[] 0))).c 0 _ rfl; have cd := ((((a1.alloc (.map #[] 0))).alloc (.cells #[.slice ao ps.length cap] 24)).alloc (.cells #[.map (some w1.heap.size)] 36)).c 0 _ rfl; clear hb hb0 a1 HK)
      | (go_at_call 17; refine Calls.mono (HSr.out _ _ _) ?_; rintro e w2 ⟨rfl, hw⟩; subst w2; clear HSr))
    have HL0 : Hid (Lp w (((w1.alloc (.map #[] 0)).alloc (.cells #[.slice ao ps.length cap] 24)).alloc (.cells #[.map (some w1.heap.size)] 36)) (w1.heap.size + 1) (w1.heap.size + 1 + 1) w1.heap.size ao cap ps 0 []) := by
      obtain ⟨t1, t2⟩ := two_made (cap := cap) (HP.out.1.below HB1.out) fun b f e => Nat.lt_of_lt_of_le (HP.out.2 b f e) HB1.out.size
      have hb2 : Below w1.heap.size w1 (((w1.alloc (.map #[] 0)).alloc (.cells #[.slice ao ps.length cap] 24)).alloc (.cells #[.map (some w1.heap.size)] 36)) := by go_grown
      have hl := HA1.out.lt
      exact ⟨t1, t2, HB1.out.trans (hb2.mono HB1.out.size), cd, hl, Nat.lt_of_lt_of_le hl hb2.size, fun x hx => by omega, fun x _ z hz => by simp at hz, by simp⟩
    clear HA1 HB1 cb cc cd hmm hz
    generalize ((w1.alloc (.map #[] 0)).alloc (.cells #[.slice ao ps.length cap] 24)).alloc (.cells #[.map (some w1.heap.size)] 36) = w3 at *
    generalize w1.heap.size = mb at *
    go_loopg [5, 18] 200 (fun g1 v5 vi wr => ∃ (k : Nat) (L : List (Nat × Nat)), vi = .int .i64 k ∧ k ≤ ps.length ∧ ps.length - k < g1 ∧ Hid (Lp w wr (mb + 1) (mb + 1 + 1) mb ao cap ps k L))
    case atStart => exact ⟨0, [], rfl, by omega, by omega, HL0.out⟩
    case round =>
      clear HL0
      obtain ⟨k, L, rfl, hkn, hg1, HL⟩ := hrel
      by_cases hlk : k < ps.length
      · have hkz : (k : Int) < (ps.length : Int) := by omega
        have HS : Hid (Calls Tryd.prog 30 #[.int .i64 (k : Int), .pointer (some ⟨mb + 1, 0, none⟩), .pointer (some ⟨mb + 1 + 1, 0, none⟩)] wr fun e w' => e = .returned (.tuple #[]) ∧ ∃ L', Lp w w' (mb + 1) (mb + 1 + 1) mb ao cap ps (k + 1) L') := by
          refine (search_any (mb + 1) (mb + 1 + 1) mb ao cap k ps L wr HL.out.two HL.out.m HGd.out hlk (HL.out.no k (Nat.le_refl _)) (by have := HL.out.len; omega)).mono ?_
          rintro e w' ⟨rfl, L', h1, h2, h3⟩
          exact ⟨rfl, L', HL.out.step HP.out.1 hle h1 h2 h3⟩
        clear HL
        go_wp2_with (first | (go_at_call 30; refine Calls.mono HS.out ?_; rintro e w4 ⟨rfl, L', hL4⟩; have HL4 : Hid (Lp w w4 (mb + 1) (mb + 1 + 1) mb ao cap ps (k + 1) L') := hL4; clear hL4 HS))
        go_roundg (ps.length - k)
        case measure => omega
        case rel => exact ⟨k + 1, L', by go_num, by omega, by omega, HL4.out⟩
      · have hkz : ¬ (k : Int) < (ps.length : Int) := by omega
        obtain rfl : k = ps.length := by omega
        have cbox := HL.out.box
        have HL2 : Hid (∀ x, x < ps.length → ∀ z, (x, z) ∈ L ↔ Fw.Way (tB ps) ps.length x z) := HL.out.yes
        have HR0 : Hid (Rl w wr mb ao cap L ps.length 0 (.slice none 0 0) []) := ⟨World.ownsRow_nil _ _ _ _, HL.out.b, HL.out.m, HL.out.box, HL.out.hw, HL.out.hb, fun e he => by simp at he, rfl, fun _ => rfl⟩
        clear HL
        go_wp2
        clear cbox
        obtain ⟨i0, hi, hi2⟩ := Option.map_eq_some_iff.1 info28
        simp only [Prod.mk.injEq] at hi2
        obtain ⟨hz0, hz1, hz2⟩ := hi2
        have HI : Hid (Tryd.prog.info? 28 = some i0 ∧ i0.zero = some (.slice none 0 0) ∧ i0.size = 1 ∧ i0.bytes = 24) := ⟨hi, hz0, hz1, hz2⟩
        clear hi hz0 hz1 hz2
        go_loopg [6, 7, 28] 200 (fun g2 v v7 vi wr2 => ∃ (k : Nat) (es : List (Sg.Rg × Nat)), vi = .int .i64 k ∧ k ≤ ps.length ∧ ps.length - k < g2 ∧ Hid (Rl w wr2 mb ao cap L ps.length k v es))
        case atStart => exact ⟨0, [], rfl, by omega, by omega, HR0.out⟩
        case round =>
          clear HR0
          obtain ⟨k, es, rfl, hkn2, hg2, HR⟩ := hrel
          by_cases hlk2 : k < ps.length
          · have hkz2 : (k : Int) < (ps.length : Int) := by omega
            have HH : Hid _ := has_any mb k k L wr HR.out.m (by omega) (by omega)
            by_cases hkk : (k, k) ∈ L
            · rw [decide_eq_true hkk] at HH
              have hel : es.length ≤ 128 := by
                have e1 : es.length = ((List.range k).filter fun i => decide ((i, i) ∈ L)).length := by rw [← HR.out.idx, List.length_map]
                have := List.length_filter_le (fun i => decide ((i, i) ∈ L)) (List.range k)
                rw [List.length_range] at this
                omega
              have HO : Hid (∀ w', Mp w' mb L → Calls Tryd.prog 19 #[.map (some mb), .int .i64 (k : Int), .int .i64 (ps.length : Int)] w' fun e w2 => ∃ v, e = .returned v ∧ Got w' w2 v (ringTo L k ps.length)) := fun w' h' => ringOf_any mb k ps.length L w' h' (by omega) (by omega)
              have hrp : 0 < (ringTo L k ps.length).length := by
                have : (k : Int) ∈ ringTo L k ps.length := by
                  unfold ringTo
                  exact List.mem_map.2 ⟨k, List.mem_filter.2 ⟨List.mem_range.2 hlk2, by simp [hkk]⟩, rfl⟩
                exact List.length_pos_of_mem this
              have hkL : Hid ((k, k) ∈ L) := hkk
              clear hkk
              go_wp2_with (first
                | (go_at_call 18; refine Calls.mono HH.out ?_; rintro e w4 ⟨rfl, hb4⟩; have HR4 : Hid (Rl w w4 mb ao cap L ps.length k u6 es) := HR.out.go hb4; have cbx := HR4.out.box; clear hb4 HH HR)
                | (go_at_call 19; refine Calls.mono (HO.out _ HR4.out.m) ?_; rintro e w5 ⟨v5, rfl, hG5⟩; obtain ⟨a5, c5, rfl, hI5, hb5⟩ := hG5; obtain ⟨b5, rfl, hB5, hl5, hc5⟩ := hI5.is hrp; have HR5 : Hid (Il w5 w4.heap.size (some ⟨b5, 0, none⟩) (ringTo L k ps.length) ∧ Below w4.heap.size w4 w5) := ⟨hI5, hb5⟩; have HW5 : Hid (Rl w w5 mb ao cap L ps.length k u6 es) := HR4.out.go hb5; clear hI5 hb5 hB5 hl5 hc5 HO cbx)
                | (at_builtin; refine wpList_append_lies _ rfl _ _ 25 rfl (w.heap.size + 1) 28 i0 (.slice none 0 0) 1 24 Tryd.underlying25 HI.out.1 HI.out.2.1 HI.out.2.2.1 HI.out.2.2.2 rfl (by decide) _ _ _ rfl (HW5.out.row.alloc _) ⟨w5.heap.size, 0, none⟩ 1 1 [.slice (some ⟨b5, 0, none⟩) (ringTo L k ps.length).length c5] rfl rfl (World.news_of_block (heap_alloc_new w5 _)) (by simp [Value.oneCell']) (by decide) (by unfold maxLen; omega) (by omega) (by have := HW5.out.hw; simp; omega) (w5.heap.size + 1) (by simp) ?_; intro g cap' w6 hown1 hgrow hat hlt3))
              go_roundg (ps.length - k)
              case measure => omega
              case rel => exact ⟨k + 1, _, by go_num, by omega, by omega, HR4.out.put hkL.out hlk2 HR5.out.2 HR5.out.1 hrp hown1 hgrow hat (row_map HR4.out.row HR4.out.m)⟩
            · rw [decide_eq_false hkk] at HH
              have HR3 : Hid (Rl w wr mb ao cap L ps.length (k + 1) u6 es) := HR.out.skip hkk
              clear hkk HR
              go_wp2_with (first
                | (go_at_call 18; refine Calls.mono HH.out ?_; rintro e w4 ⟨rfl, hb4⟩; have HR4 : Hid (Rl w w4 mb ao cap L ps.length (k + 1) u6 es) := HR3.out.go hb4; clear hb4 HH HR3))
              go_roundg (ps.length - k)
              case measure => omega
              case rel => exact ⟨k + 1, es, by go_num, by omega, by omega, HR4.out⟩
          · have hkz2 : ¬ (k : Int) < (ps.length : Int) := by omega
            obtain rfl : k = ps.length := by omega
            have HO : Hid _ := ringsOut_any HR.out hle HL2.out
            clear HR HL2
            go_wp2_with (first | (go_at_call 20; refine Calls.mono HO.out ?_; rintro e w4 ⟨u, rfl, hG⟩; have HG : Hid (GotL w w4 u _) := hG; clear hG HO))
            go_ret
            exact ⟨_, rfl, HG.out⟩
  · rw [if_neg hk]
    have hk' : knB ps 0 = false := by simpa using hk
    rw [hk'] at HK
    clear h he hk hb1
    go_enter Tryd.func5, Tryd.ntmps5
    go_wp2_with (first | (go_at_call 16; refine Calls.mono HK.out ?_; rintro e w1 ⟨rfl, hb⟩; obtain ⟨a1, hb0, hz⟩ := one_new w _ _ hb; have HB1 : Hid _ := hb0; clear hb hb0 a1 HK))
    go_ret
    exact ⟨_, rfl, _, _, rfl, Ll.nil _ _ _, HB1.out⟩
end Go.Proofs.YtfdmahilgemlaaaDoor.Fl
