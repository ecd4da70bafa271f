/- A list is put into the order of its things' numbers, each number once, in memory. Conditions: the list lies at a block's beginning. -/
import Derived.Test.YtddcndlogoajkaaGreatDoorQSei
import Derived.Test.YtddcndlogoajkaaGreatDoorQSbi
import Derived.Lib.SliceRun
import Derived.Laws.IdiomCopy
namespace Go.Proofs.YtddcndlogoajkaaGreatDoor.L8.Si
open Go.ChangeShapes Go.WideShapes Go.ChangeAt Go.RowKit
open _root_.Go.Proofs.YtddcndlogoajkaaGreatDoor.L8.So _root_.Go.Proofs.YtddcndlogoajkaaGreatDoor.L8.Ss
set_option maxRecDepth 20000

set_option maxHeartbeats 16000000 in
theorem stable_any (bx blk n cap : Nat) (Ok : Int → Prop) (key : Int → Int) (f : Nat → Int) (w0 w : World) (hC : Cmp bx blk Ok key w0) (S : Rw blk n Ok w0 w f) (hn : n < 1099511627776) :
    Calls Tryz.prog 130 #[.slice (some ⟨blk, 0, none⟩) n cap, .int .i64 n, .func (.func 119) #[] #[.pointer (some ⟨bx, 0, none⟩)]] w fun e w' => e = .returned (.tuple #[]) ∧ ∃ g, Rw blk n Ok w0 w' g ∧ Pm 0 n f g ∧ Srt key g 0 n := by
  have S0 : Aside (Rw blk n Ok w0 w f) := S
  have HI : Hid (∀ (a b : Nat) (h : Nat → Int) w', Rw blk n Ok w0 w' h → a ≤ b → b ≤ n → Calls Tryz.prog 133 #[.slice (some ⟨blk, 0, none⟩) n cap, .int .i64 a, .int .i64 b, .func (.func 119) #[] #[.pointer (some ⟨bx, 0, none⟩)]] w' fun e w2 => e = .returned (.tuple #[]) ∧ ∃ g, Rw blk n Ok w0 w2 g ∧ Pm a b h g ∧ Srt key g a b) :=
    fun a b h w' S' h1 h2 => insertion_any bx blk n cap a b Ok key h w0 w' hC S' h1 h2 hn
  have HM : Hid (∀ (a m b : Nat) (h : Nat → Int) w', Rw blk n Ok w0 w' h → a < m → m < b → b ≤ n → Srt key h a m → Srt key h m b → Calls Tryz.prog 134 #[.slice (some ⟨blk, 0, none⟩) n cap, .int .i64 a, .int .i64 m, .int .i64 b, .func (.func 119) #[] #[.pointer (some ⟨bx, 0, none⟩)]] w' fun e w2 => e = .returned (.tuple #[]) ∧ ∃ g, Rw blk n Ok w0 w2 g ∧ Pm a b h g ∧ Srt key g a b) :=
    fun a m b h w' S' h1 h2 h3 h4 h5 => symMerge_any bx blk n cap Ok key w0 hC hn (b - a + 1) a m b h w' (by omega) S' h1 h2 h3 h4 h5
  clear S hC
  go_enter Tryz.func130, Tryz.ntmps130
  go_wp2
  go_loopg [7, 8] n (fun g1 va vb wr => ∃ (a : Nat) (g : Nat → Int), va = .int .i64 a ∧ vb = .int .i64 (a + 20 : Nat) ∧ a ≤ n ∧ n - a ≤ g1 ∧ Aside (Rw blk n Ok w0 wr g) ∧ Aside (Pm 0 n f g) ∧ Aside (20 ∣ a ∧ Done key g 20 a))
  case atStart => exact ⟨0, f, rfl, rfl, by omega, by omega, S0, Pm.refl _ _ _, ⟨Nat.dvd_zero 20, Done.nil key f 20⟩⟩
  case round =>
    clear S0
    obtain ⟨a, g, rfl, rfl, ha, hg1, S1, P1, D1⟩ := hrel
    have za : ((a + 20 : Nat) : Int) = (a : Int) + 20 := by omega
    by_cases hle : a + 20 ≤ n
    · have hz : (a : Int) + 20 ≤ (n : Int) := by omega
      have HX : Hid (∀ w', Rw blk n Ok w0 w' g → Calls Tryz.prog 133 #[.slice (some ⟨blk, 0, none⟩) n cap, .int .i64 a, .int .i64 ((a : Int) + 20), .func (.func 119) #[] #[.pointer (some ⟨bx, 0, none⟩)]] w' fun e w2 => e = .returned (.tuple #[]) ∧ ∃ h, Rw blk n Ok w0 w2 h ∧ Pm a (a + 20) g h ∧ Srt key h a (a + 20)) :=
        fun w' S' => by rw [← za]; exact HI.out a (a + 20) g w' S' (by omega) hle
      go_wp2_with (first | (go_at_call 133; refine Calls.mono (HX.out _ S1.out) ?_; rintro e' w1 ⟨rfl, h, hS, hP, hO⟩; have S2 : Aside (Rw blk n Ok w0 w1 h) := hS; have P2 : Aside (Pm a (a + 20) g h) := hP; have O2 : Aside (Srt key h a (a + 20)) := hO; clear hS hP hO S1 HX))
      go_roundg (n - (a + 20))
      case measure => omega
      case rel =>
        have D2 := D1.out.2.step D1.out.1 P2.out (by omega) (Nat.le_refl _) O2.out
        exact ⟨a + 20, h, by first | rfl | go_num | (congr 1; omega), by first | rfl | go_num | (congr 1; omega), hle, Nat.le_refl _, S2, P1.out.trans (P2.out.mono (by omega) hle), ⟨Nat.dvd_add D1.out.1 (Nat.dvd_refl 20), D2⟩⟩
    · have hz : ¬ (a : Int) + 20 ≤ (n : Int) := by omega
      have HX : Hid (∀ w', Rw blk n Ok w0 w' g → Calls Tryz.prog 133 #[.slice (some ⟨blk, 0, none⟩) n cap, .int .i64 a, .int .i64 n, .func (.func 119) #[] #[.pointer (some ⟨bx, 0, none⟩)]] w' fun e w2 => e = .returned (.tuple #[]) ∧ ∃ h, Rw blk n Ok w0 w2 h ∧ Pm a n g h ∧ Srt key h a n) :=
        fun w' S' => HI.out a n g w' S' ha (Nat.le_refl _)
      clear HI
      go_wp2_with (first | (go_at_call 133; refine Calls.mono (HX.out _ S1.out) ?_; rintro e' w1 ⟨rfl, h, hS, hP, hO⟩; have S2 : Aside (Rw blk n Ok w0 w1 h) := hS; have P2 : Aside (Pm a n g h) := hP; have O2 : Aside (Srt key h a n) := hO; clear hS hP hO S1 HX))
      have P3 : Aside (Pm 0 n f h) := P1.out.trans (P2.out.mono (by omega) (Nat.le_refl _))
      have D3 : Aside (Done key h 20 n) := D1.out.2.step D1.out.1 P2.out ha (by omega) O2.out
      clear P1 P2 D1 O2 g za
      go_loopg [6, 7, 8] (2 * n + 40) (fun g1 vs va vb wr => ∃ (s : Nat) (g : Nat → Int), vs = .int .i64 s ∧ 20 ≤ s ∧ s ≤ 2 * n + 20 ∧ 2 * n + 40 - s ≤ g1 ∧ Aside (Rw blk n Ok w0 wr g) ∧ Aside (Pm 0 n f g) ∧ Aside (Done key g s n))
      case atStart => exact ⟨20, h, rfl, Nat.le_refl _, by omega, by omega, S2, P3, D3⟩
      case round =>
        clear S2 P3 D3
        obtain ⟨s, g, rfl, hs1, hs2, hg2, S1, P1, D1⟩ := hrel
        by_cases hlt : s < n
        · have hz : (s : Int) < (n : Int) := by omega
          go_wp2
          go_loopg [7, 8] n (fun g3 va vb wr2 => ∃ (a : Nat) (g : Nat → Int), va = .int .i64 a ∧ vb = .int .i64 (a + 2 * s : Nat) ∧ a ≤ n ∧ n - a ≤ g3 ∧ Aside (Rw blk n Ok w0 wr2 g) ∧ Aside (Pm 0 n f g) ∧ Aside (2 * s ∣ a ∧ Done key g (2 * s) a ∧ Blk key g s a n))
          case atStart => exact ⟨0, g, rfl, by first | rfl | go_num | (congr 1; omega), by omega, by omega, S1, P1, ⟨Nat.dvd_zero _, Done.nil key g _, D1.out.blk⟩⟩
          case round =>
            clear S1 P1 D1 g
            obtain ⟨a, g, rfl, rfl, ha, hg3, S1, P1, D1⟩ := hrel
            have za : ((a + 2 * s : Nat) : Int) = (a : Int) + 2 * (s : Int) := by omega
            have hsa : Aside (s ∣ a) := Nat.dvd_trans (Nat.dvd_mul_left s 2) D1.out.1
            by_cases hle : a + 2 * s ≤ n
            · have hz2 : (a : Int) + 2 * (s : Int) ≤ (n : Int) := by omega
              have HX : Hid (∀ w', Rw blk n Ok w0 w' g → Calls Tryz.prog 134 #[.slice (some ⟨blk, 0, none⟩) n cap, .int .i64 a, .int .i64 ((a : Int) + (s : Int)), .int .i64 ((a : Int) + 2 * (s : Int)), .func (.func 119) #[] #[.pointer (some ⟨bx, 0, none⟩)]] w' fun e w2 => e = .returned (.tuple #[]) ∧ ∃ h, Rw blk n Ok w0 w2 h ∧ Pm a (a + 2 * s) g h ∧ Srt key h a (a + 2 * s)) := fun w' S' => by
                have c1 := D1.out.2.2 a hsa.out (Nat.le_refl _) (by omega)
                have c2 := D1.out.2.2 (a + s) (Nat.dvd_add hsa.out (Nat.dvd_refl s)) (by omega) (by omega)
                have h := HM.out a (a + s) (a + 2 * s) g w' S' (by omega) (by omega) hle (c1.sub (Nat.le_refl _) (by omega)) (c2.sub (Nat.le_refl _) (by omega))
                rw [show ((a + s : Nat) : Int) = (a : Int) + (s : Int) by omega, za] at h
                exact h
              go_wp2_with (first | (go_at_call 134; refine Calls.mono (HX.out _ S1.out) ?_; rintro e' w1 ⟨rfl, h, hS, hP, hO⟩; have S2 : Aside (Rw blk n Ok w0 w1 h) := hS; have P2 : Aside (Pm a (a + 2 * s) g h) := hP; have O2 : Aside (Srt key h a (a + 2 * s)) := hO; clear hS hP hO S1 HX))
              go_roundg (n - (a + 2 * s))
              case measure => omega
              case rel =>
                have D2 := D1.out.2.1.step D1.out.1 P2.out (by omega) (Nat.le_refl _) O2.out
                exact ⟨a + 2 * s, h, by first | rfl | go_num | (congr 1; omega), by first | rfl | go_num | (congr 1; omega), hle, Nat.le_refl _, S2, P1.out.trans (P2.out.mono (by omega) hle), ⟨Nat.dvd_add D1.out.1 (Nat.dvd_refl _), D2, D1.out.2.2.after P2.out (by omega)⟩⟩
            · have hz2 : ¬ (a : Int) + 2 * (s : Int) ≤ (n : Int) := by omega
              by_cases hm : a + s < n
              · have hz3 : (a : Int) + (s : Int) < (n : Int) := by omega
                have HX : Hid (∀ w', Rw blk n Ok w0 w' g → Calls Tryz.prog 134 #[.slice (some ⟨blk, 0, none⟩) n cap, .int .i64 a, .int .i64 ((a : Int) + (s : Int)), .int .i64 n, .func (.func 119) #[] #[.pointer (some ⟨bx, 0, none⟩)]] w' fun e w2 => e = .returned (.tuple #[]) ∧ ∃ h, Rw blk n Ok w0 w2 h ∧ Pm a n g h ∧ Srt key h a n) := fun w' S' => by
                  have c1 := D1.out.2.2 a hsa.out (Nat.le_refl _) (by omega)
                  have c2 := D1.out.2.2 (a + s) (Nat.dvd_add hsa.out (Nat.dvd_refl s)) (by omega) (by omega)
                  have h := HM.out a (a + s) n g w' S' (by omega) hm (Nat.le_refl _) (c1.sub (Nat.le_refl _) (by omega)) (c2.sub (Nat.le_refl _) (by omega))
                  rw [show ((a + s : Nat) : Int) = (a : Int) + (s : Int) by omega] at h
                  exact h
                go_wp2_with (first | (go_at_call 134; refine Calls.mono (HX.out _ S1.out) ?_; rintro e' w1 ⟨rfl, h, hS, hP, hO⟩; have S2 : Aside (Rw blk n Ok w0 w1 h) := hS; have P2 : Aside (Pm a n g h) := hP; have O2 : Aside (Srt key h a n) := hO; clear hS hP hO S1 HX))
                go_roundg (2 * n + 40 - 2 * s)
                case measure => omega
                case rel => exact ⟨2 * s, h, by first | rfl | go_num | (congr 1; omega), by omega, by omega, Nat.le_refl _, S2, P1.out.trans (P2.out.mono (by omega) (Nat.le_refl _)), D1.out.2.1.step D1.out.1 P2.out ha (by omega) O2.out⟩
              · have hz3 : ¬ (a : Int) + (s : Int) < (n : Int) := by omega
                have D2 : Aside (Done key g (2 * s) n) := by
                  refine D1.out.2.1.step D1.out.1 (Pm.refl _ _ _) ha (by omega) ?_
                  by_cases e : a = n
                  · exact Srt.few key g (by omega)
                  · exact (D1.out.2.2 a hsa.out (Nat.le_refl _) (by omega)).sub (Nat.le_refl _) (by omega)
                clear D1
                go_wp2
                go_roundg (2 * n + 40 - 2 * s)
                case measure => omega
                case rel => exact ⟨2 * s, g, by first | rfl | go_num | (congr 1; omega), by omega, by omega, Nat.le_refl _, S1, P1, D2⟩
        · have hz : ¬ (s : Int) < (n : Int) := by omega
          go_wp2
          go_end0
          exact ⟨rfl, g, S1.out, P1.out, D1.out.all (by omega)⟩

theorem sort_any (bx blk n cap : Nat) (Ok : Int → Prop) (key : Int → Int) (f : Nat → Int) (w0 w : World) (hC : Cmp bx blk Ok key w0) (S : Rw blk n Ok w0 w f) (hn : n < 1099511627776) :
    Calls Tryz.prog 118 #[.slice (some ⟨blk, 0, none⟩) n cap, .func (.func 119) #[] #[.pointer (some ⟨bx, 0, none⟩)]] w fun e w' => e = .returned (.tuple #[]) ∧ ∃ g, Rw blk n Ok w0 w' g ∧ Pm 0 n f g ∧ Srt key g 0 n := by
  have HX : Hid _ := stable_any bx blk n cap Ok key f w0 w hC S hn
  clear hC S
  go_enter Tryz.func118, Tryz.ntmps118
  go_wp2_with (first | (go_at_call 130; refine Calls.mono HX.out ?_; rintro e' w1 ⟨rfl, h, hS, hP, hO⟩; have S2 : Aside (Rw blk n Ok w0 w1 h) := hS; have P2 : Aside (Pm 0 n f h) := hP; have O2 : Aside (Srt key h 0 n) := hO; clear hS hP hO HX))
  go_end0
  exact ⟨rfl, h, S2.out, P2.out, O2.out⟩
end Go.Proofs.YtddcndlogoajkaaGreatDoor.L8.Si
namespace Go.Proofs.YtddcndlogoajkaaGreatDoor.L8.Si
open Go.ChangeShapes Go.WideShapes Go.ChangeAt Go.RowKit
open _root_.Go.Proofs.YtddcndlogoajkaaGreatDoor.L8.So _root_.Go.Proofs.YtddcndlogoajkaaGreatDoor.L8.Ss
set_option maxRecDepth 20000

/-- The test that is handed on: whether the keys are one; nothing is changed. -/
def Eqs (bx blk : Nat) (Ok : Int → Prop) (key : Int → Int) (w0 : World) : Prop :=
  ∀ w', Fr (One blk) w0 w' → ∀ x y, Ok x → Ok y → Calls Tryz.prog 122 #[.int .i64 (x), .int .i64 (y), .pointer (some ⟨bx, 0, none⟩)] w' fun e w2 => e = .returned (.bool (decide (key x = key y))) ∧ ∃ q, w2 = w'.drewN q
theorem Eqs.at {bx blk n : Nat} {Ok : Int → Prop} {key : Int → Int} {w0 w : World} {f : Nat → Int} (h : Eqs bx blk Ok key w0) (S : Rw blk n Ok w0 w f) {x y : Int} (hx : Ok x) (hy : Ok y) {v : Bool} (hv : decide (key x = key y) = v) (m : Nat) :
    Calls Tryz.prog 122 #[.int .i64 (x), .int .i64 (y), .pointer (some ⟨bx, 0, none⟩)] (w.drewN m) fun e w2 => e = .returned (.bool v) ∧ ∃ q, w2 = (w.drewN m).drewN q := by
  subst hv
  exact h _ (S.drewN m).fr x y hx hy
theorem zero3 (w : World) : (zeroValue 3).run Tryz.prog w = .ok (.int .i64 0) w := by kernel_rfl
theorem Rw.few {blk n k : Nat} {Ok : Int → Prop} {w0 w : World} {f : Nat → Int} (h : Rw blk n Ok w0 w f) (hk : k ≤ n) : Rw blk k Ok w0 w f := ⟨h.fr, h.lt, fun i hi => h.c i (by omega), h.z, fun i hi => h.ok i (by omega)⟩
theorem setCells_block {b : Nat} : ∀ (vs : List Value) (o : Nat) (w : World) {k : Nat}, k ≠ b → (w.setCells b o vs).heap[k]? = w.heap[k]?
  | [], _, _, _, _ => rfl
  | v :: vs, o, w, k, h => by
    show ((w.setCell ⟨b, o, none⟩ v).setCells b (o + 1) vs).heap[k]? = _
    rw [setCells_block vs (o + 1) _ h]
    exact Below.heap_setCell _ _ _ _ h
theorem setCells_same {b : Nat} : ∀ (vs : List Value) (o : Nat) (w : World), (w.setCells b o vs).os = w.os ∧ (w.setCells b o vs).tape = w.tape ∧ (w.setCells b o vs).output = w.output ∧ (w.setCells b o vs).heap.size = w.heap.size ∧ ∀ a, (w.setCells b o vs).frozen? a = w.frozen? a
  | [], _, _ => ⟨rfl, rfl, rfl, rfl, fun _ => rfl⟩
  | v :: vs, o, w => by
    show ((w.setCell ⟨b, o, none⟩ v).setCells b (o + 1) vs).os = _ ∧ ((w.setCell ⟨b, o, none⟩ v).setCells b (o + 1) vs).tape = _ ∧ ((w.setCell ⟨b, o, none⟩ v).setCells b (o + 1) vs).output = _ ∧ ((w.setCell ⟨b, o, none⟩ v).setCells b (o + 1) vs).heap.size = _ ∧ ∀ a, ((w.setCell ⟨b, o, none⟩ v).setCells b (o + 1) vs).frozen? a = _
    obtain ⟨h1, h2, h3, h4, h5⟩ := setCells_same vs (o + 1) (w.setCell ⟨b, o, none⟩ v)
    have hF := (Fr.refl (One b) w).setCell (b := b) (Or.inr rfl) o v
    exact ⟨h1.trans hF.os, h2.trans hF.tape, h3.trans hF.output, h4.trans (World.size_setCell _ _ _), fun a => (h5 a).trans (World.frozen?_setCell _ _ _ _)⟩
theorem Rw.wipe {blk n k : Nat} {Ok : Int → Prop} {w0 w : World} {f : Nat → Int} (h : Rw blk n Ok w0 w f) (hk : k ≤ n) (vs : List Value) : Rw blk k Ok w0 (w.setCells blk k vs) f := by
  obtain ⟨h1, h2, h3, h4, h5⟩ := setCells_same (b := blk) vs k w
  refine ⟨⟨h1.trans h.fr.os, h2.trans h.fr.tape, h3.trans h.fr.output, by rw [h4]; exact h.fr.size, fun i hi hx => (setCells_block vs k w hx).trans (h.fr.block i hi hx)⟩, h.lt, fun i hi => ?_, fun i => by rw [h5]; exact h.z i, fun i hi => h.ok i (by omega)⟩
  rw [World.cell?_setCells_out]
  · exact h.c i (by omega)
  · intro _ _; left; exact hi

set_option maxHeartbeats 16000000 in
theorem compact_any (bx blk n cap : Nat) (Ok : Int → Prop) (key : Int → Int) (f : Nat → Int) (w0 w : World) (hC : Eqs bx blk Ok key w0) (S : Rw blk n Ok w0 w f) (hs : Srt key f 0 n) (hcap : n ≤ cap) (hcx : cap ≤ 9223372036854775807) (hn : n < 1099511627776) :
    Calls Tryz.prog 121 #[.slice (some ⟨blk, 0, none⟩) n cap, .func (.func 122) #[] #[.pointer (some ⟨bx, 0, none⟩)]] w fun e w' => ∃ k, e = .returned (.slice (some ⟨blk, 0, none⟩) k cap) ∧ ∃ g, Rw blk k Ok w0 w' g ∧ Cd key f g n k := by
  have S0 : Aside (Rw blk n Ok w0 w f) := S
  have HC : Aside (Eqs bx blk Ok key w0) := hC
  have HS : Aside (Srt key f 0 n) := hs
  clear S hC hs
  by_cases h2 : n < 2
  · have z2 : (n : Int) < 2 := by omega
    go_enter Tryz.func121, Tryz.ntmps121
    go_wp2
    go_ret
    exact ⟨n, rfl, f, S0.out, Cd.self fun i j ij j1 => by omega⟩
  · have z2 : ¬ (n : Int) < 2 := by omega
    go_enter Tryz.func121, Tryz.ntmps121
    go_wp2
    go_loopg [5] n (fun g1 vk wr => ∃ (j : Nat), vk = .int .i64 (j + 1 : Nat) ∧ j + 1 ≤ n ∧ n - (j + 1) ≤ g1 ∧ Aside (Rw blk n Ok w0 wr f) ∧ Aside (∀ x y, x < y → y < j + 1 → key (f x) < key (f y)))
    case atStart => exact ⟨0, rfl, by omega, by omega, S0, fun x y h1 h2 => by omega⟩
    case round =>
      clear S0 z2
      obtain ⟨j, rfl, hj, hg1, S1, R1⟩ := hrel
      have zj : ((j + 1 : Nat) : Int) = (j : Int) + 1 := by omega
      by_cases hlt : j + 1 < n
      · have hltz : (j : Int) + 1 < (n : Int) := by omega
        obtain ⟨k, hk⟩ : ∃ k, k = j + 1 := ⟨_, rfl⟩
        have HK : Aside (k = j + 1) := hk
        have ea : ((j : Int) + 1).toNat = k := by omega
        have pa : (0 : Int) ≤ (j : Int) + 1 := by omega
        have pb : (0 : Int) ≤ (j : Int) := by omega
        have bb : (j : Int) < (n : Int) := by omega
        have rb : IntKind.i64.wrap ((j : Int)) = (j : Int) := by rw [IntKind.wrap_i64]; omega
        obtain ⟨x, hx⟩ : ∃ x, x = f k := ⟨_, rfl⟩
        obtain ⟨y, hy⟩ : ∃ y, y = f j := ⟨_, rfl⟩
        have ca := S1.out.c k (by omega)
        have cb := S1.out.c j (by omega)
        rw [← hx] at ca
        rw [← hy] at cb
        by_cases hd : key x = key y
        · have hcm : Hid _ := Eqs.at HC.out S1.out (x := x) (y := y) (by rw [hx]; exact S1.out.ok k (by omega)) (by rw [hy]; exact S1.out.ok j (by omega)) (v := true) (by simp [hd])
          have C1 : Aside (Cp key f f n k k) := by
            refine Cp.start (by rw [hk]; exact R1.out) (by omega) (by omega) ?_
            rw [← hx, hk, Nat.add_sub_cancel, ← hy]
            exact hd
          clear hx hy hd R1 hk
          go_wp2_with fail
          go_quiet (first | (go_at_call 122; refine Calls.quiet_of (hcm.out _)))
          have S2 : Aside (Rw blk n Ok w0 (wr.drewN nq) f) := S1.out.drewN nq
          clear ca cb S1 hcm
          generalize wr.drewN nq = w2 at S2 ⊢
          clear nq
          have hk := HK.out
          have hkn : k < n := by omega
          have hkz : (j : Int) + 1 = (k : Int) := by omega
          have sl1 : (k : Int) ≤ (n : Int) := by omega
          have sl2 : (k : Int) ≤ (cap : Int) := by omega
          have sl3 : (n : Int) ≤ (cap : Int) := by omega
          clear zj hltz ea pa pb bb rb hlt hj hg1 hk HK
          go_wp2
          go_loopg [5, 7] n (fun g2 vk vt wr2 => ∃ (m i : Nat) (g : Nat → Int), vk = .int .i64 m ∧ vt = .int .i64 (i + 1 : Nat) ∧ k + i < n ∧ n - (k + i) ≤ g2 ∧ m ≤ k + i ∧ Aside (Rw blk n Ok w0 wr2 g) ∧ Aside (Cp key f g n (k + i) m))
          case atStart => exact ⟨k, 0, f, by first | rfl | go_num, rfl, by omega, by omega, by omega, S2, C1⟩
          case round =>
            clear S2 C1 hkz
            obtain ⟨m, i, g, rfl, rfl, hi, hg2, hmi, S3, C3⟩ := hrel
            have zi : ((i + 1 : Nat) : Int) = (i : Int) + 1 := by omega
            by_cases hl2 : k + (i + 1) < n
            · have hlz : (i : Int) + 1 < ((n - k : Nat) : Int) := by omega
              obtain ⟨p, hp⟩ : ∃ p, p = i + 1 := ⟨_, rfl⟩
              have HP : Aside (p = i + 1) := hp
              have ea : ((i : Int) + 1).toNat = p := by omega
              have pa : (0 : Int) ≤ (i : Int) + 1 := by omega
              have pb : (0 : Int) ≤ (i : Int) := by omega
              have bb : (i : Int) < ((n - k : Nat) : Int) := by omega
              have rb : IntKind.i64.wrap ((i : Int)) = (i : Int) := by rw [IntKind.wrap_i64]; omega
              have pm : (0 : Int) ≤ (m : Int) := by omega
              have bm : (m : Int) < (n : Int) := by omega
              obtain ⟨x, hx⟩ : ∃ x, x = g (k + p) := ⟨_, rfl⟩
              obtain ⟨y, hy⟩ : ∃ y, y = g (k + i) := ⟨_, rfl⟩
              have hx' : x = f (k + i + 1) := by rw [hx, C3.out.rest (k + p) (by omega) (by omega)]; congr 1; omega
              have hy' : y = f (k + i) := by rw [hy, C3.out.rest (k + i) (by omega) (by omega)]
              have ca := S3.out.c (k + p) (by omega)
              have cb := S3.out.c (k + i) (by omega)
              rw [← hx] at ca
              rw [← hy] at cb
              have ox : Aside (Ok x) := by rw [hx]; exact S3.out.ok (k + p) (by omega)
              have oy : Aside (Ok y) := by rw [hy]; exact S3.out.ok (k + i) (by omega)
              by_cases hd : key x = key y
              · have hcm : Hid _ := Eqs.at HC.out S3.out (x := x) (y := y) ox.out oy.out (v := true) (by simp [hd])
                have C4 : Aside (Cp key f g n (k + i + 1) m) := C3.out.skip (by omega) (by rw [← hx', ← hy']; exact hd)
                clear hx hy hx' hy' hd ox oy C3 hp
                go_wp2_with fail
                go_quiet (first | (go_at_call 122; refine Calls.quiet_of (hcm.out _)))
                have S4 : Aside (Rw blk n Ok w0 (wr.drewN nq) g) := S3.out.drewN nq
                clear ca cb S3 hcm
                generalize wr.drewN nq = w3 at S4 ⊢
                clear nq ea
                go_wp2
                go_roundg (n - (k + (i + 1)))
                case measure => omega
                case rel => exact ⟨m, i + 1, g, rfl, by first | rfl | go_num | (congr 1; omega), by omega, Nat.le_refl _, by omega, S4, C4⟩
              · have hcm : Hid _ := Eqs.at HC.out S3.out (x := x) (y := y) ox.out oy.out (v := false) (by simp [hd])
                have C4 : Aside (Cp key f (put g m x) n (k + i + 1) (m + 1)) := by rw [hx']; exact C3.out.keep HS.out (by omega) (by rw [← hx', ← hy']; exact hd)
                have hgx : Aside (g (k + p) = x) := hx.symm
                clear hx hy hx' hy' hd oy C3 hp
                go_wp2_with fail
                go_quiet (first | (go_at_call 122; refine Calls.quiet_of (hcm.out _)))
                have S4 : Aside (Rw blk n Ok w0 (wr.drewN nq) g) := S3.out.drewN nq
                clear ca cb S3 hcm
                generalize wr.drewN nq = w3 at S4 ⊢
                clear nq
                have S5 : Aside (Rw blk n Ok w0 (w3.setCell ⟨blk, m, none⟩ (.int .i64 (x))) (put g m x)) := S4.out.put (by omega) ox.out
                have ca := S4.out.c (k + p) (by have := HP.out; omega)
                rw [hgx.out] at ca
                have cm := S4.out.c m (by omega)
                have fm := S4.out.z m
                clear S4 hgx ox
                go_wp2
                clear ca cm fm
                generalize w3.setCell ⟨blk, m, none⟩ (.int .i64 (x)) = w4 at S5 ⊢
                clear ea
                go_roundg (n - (k + (i + 1)))
                case measure => omega
                case rel => exact ⟨m + 1, i + 1, _, by go_num, by first | rfl | go_num | (congr 1; omega), by omega, Nat.le_refl _, by omega, S5, C4⟩
            · have hlz : ¬ (i : Int) + 1 < ((n - k : Nat) : Int) := by omega
              have hC5 : Aside (Cd key f g n m) := C3.out.end (by omega)
              have hmn : m < n := by omega
              have hcl : ∀ ty, (Builtin.clear_ #[143] ty #[.slice (some ⟨blk, m, none⟩) (n - m) (cap - m)]).run Tryz.prog wr = .ok (.tuple #[]) (wr.setCells blk m (List.replicate (n - m) (.int .i64 0))) :=
                fun ty => Lib.run_clear_slice wr _ _ ty _ Tryz.underlying143 zero3 rfl rfl blk m _ _ (by omega) (fun q hq => by rw [S3.out.c (m + q) (by omega)]; rfl) (fun q hq => S3.out.z (m + q))
              have S6 : Aside (Rw blk m Ok w0 (wr.setCells blk m (List.replicate (n - m) (.int .i64 0))) g) := S3.out.wipe (by omega) _
              have sm1 : (m : Int) ≤ (n : Int) := by omega
              have sm2 : (m : Int) ≤ (cap : Int) := by omega
              clear C3 S3
              go_wp2
              go_ret
              exact ⟨m, rfl, g, S6.out, hC5.out⟩
        · have hcm : Hid _ := Eqs.at HC.out S1.out (x := x) (y := y) (by rw [hx]; exact S1.out.ok k (by omega)) (by rw [hy]; exact S1.out.ok j (by omega)) (v := false) (by simp [hd])
          have R2 : Aside (∀ x y, x < y → y < j + 1 + 1 → key (f x) < key (f y)) := rise_more HS.out R1.out hlt (by omega) (by rw [← hk, ← hx, hk, Nat.add_sub_cancel, ← hy]; exact hd)
          clear hx hy hd R1 hk
          go_wp2_with fail
          go_quiet (first | (go_at_call 122; refine Calls.quiet_of (hcm.out _)))
          have S2 : Aside (Rw blk n Ok w0 (wr.drewN nq) f) := S1.out.drewN nq
          clear ca cb S1 hcm
          generalize wr.drewN nq = w2 at S2 ⊢
          clear nq ea
          go_wp2
          go_roundg (n - (j + 1 + 1))
          case measure => omega
          case rel => exact ⟨j + 1, by first | rfl | go_num | (congr 1; omega), by omega, Nat.le_refl _, S2, R2⟩
      · have hltz : ¬ (j : Int) + 1 < (n : Int) := by omega
        obtain rfl : n = j + 1 := by omega
        go_wp2
        go_ret
        exact ⟨j + 1, rfl, f, S1.out, Cd.self R1.out⟩
end Go.Proofs.YtddcndlogoajkaaGreatDoor.L8.Si
namespace Go.Proofs.YtddcndlogoajkaaGreatDoor.L8.So
open Go.ChangeShapes Go.WideShapes Go.ChangeAt Go.RowKit
open _root_.Go.Proofs.YtddcndlogoajkaaGreatDoor.L8.Ss
set_option maxRecDepth 20000

theorem cmp_any (x y : Int) (w : World) : Calls Tryz.prog 120 #[.int .i64 x, .int .i64 y] w fun e w' => e = .returned (.int .i64 (c3 x y)) ∧ w' = w := by
  unfold c3
  by_cases h : x < y
  · rw [if_pos h]
    go_enter Tryz.func120, Tryz.ntmps120
    go_wp2
    go_ret
    exact ⟨rfl, rfl⟩
  · rw [if_neg h]
    by_cases h' : y < x
    · rw [if_pos h']
      go_enter Tryz.func120, Tryz.ntmps120
      go_wp2
      go_ret
      exact ⟨rfl, rfl⟩
    · rw [if_neg h']
      go_enter Tryz.func120, Tryz.ntmps120
      go_wp2
      go_ret
      exact ⟨rfl, rfl⟩
theorem itself_any (x : Int) (w : World) : Calls Tryz.prog 107 #[.int .i64 x] w fun e w' => e = .returned (.int .i64 x) ∧ w' = w := by
  go_enter Tryz.func107, Tryz.ntmps107
  go_wp2
  go_ret
  exact ⟨rfl, rfl⟩
/-- The closures, over a box that holds the function. -/
theorem cmpI_any (bx blk : Nat) (w0 : World) (hb : w0.cell? ⟨bx, 0, none⟩ = some (.func (.func 107) #[] #[])) (hlt : bx < w0.heap.size) (hne : bx ≠ blk) : Si.Cmp bx blk (fun _ => True) id w0 := by
  intro w' hF x y _ _
  have cb : w'.cell? ⟨bx, 0, none⟩ = some (.func (.func 107) #[] #[]) := by rw [hF.cell hlt hne]; exact hb
  have H1 : Hid _ := itself_any
  have H2 : Hid _ := cmp_any
  clear hF hb
  go_enter Tryz.func119, Tryz.ntmps119
  go_wp2_with fail
  go_quiet (first | (go_at_call 107; refine Calls.quiet_of_same (H1.out _ _)) | (go_at_call 120; refine Calls.quiet_of_same (H2.out _ _ _)))
  go_wp2_with fail
  go_ret
  exact ⟨rfl, nq, rfl⟩
theorem eqI_any (bx blk : Nat) (w0 : World) (hb : w0.cell? ⟨bx, 0, none⟩ = some (.func (.func 107) #[] #[])) (hlt : bx < w0.heap.size) (hne : bx ≠ blk) : Si.Eqs bx blk (fun _ => True) id w0 := by
  intro w' hF x y _ _
  have cb : w'.cell? ⟨bx, 0, none⟩ = some (.func (.func 107) #[] #[]) := by rw [hF.cell hlt hne]; exact hb
  have H1 : Hid _ := itself_any
  clear hF hb
  go_enter Tryz.func122, Tryz.ntmps122
  go_wp2_with fail
  go_quiet (first | (go_at_call 107; refine Calls.quiet_of_same (H1.out _ _)))
  go_wp2_with fail
  go_ret
  exact ⟨by simp [BEq.beq], nq, rfl⟩
end Go.Proofs.YtddcndlogoajkaaGreatDoor.L8.So
namespace Go.Proofs.YtddcndlogoajkaaGreatDoor.L8.Si
open Go.ChangeShapes Go.WideShapes Go.ChangeAt Go.RowKit
open _root_.Go.Proofs.YtddcndlogoajkaaGreatDoor.L8.So _root_.Go.Proofs.YtddcndlogoajkaaGreatDoor.L8.Ss
set_option maxRecDepth 20000

/-- What putting into order answers. -/
structure Rised (key : Int → Int) (blk n : Nat) (f : Nat → Int) (w w' : World) (k : Nat) (g : Nat → Int) : Prop where
  fr : Fr (One blk) w w'
  c : ∀ i, i < k → w'.cell? ⟨blk, i, none⟩ = some (.int .i64 (g i))
  le : k ≤ n
  rise : ∀ i j, i < j → j < k → key (g i) < key (g j)
  of : ∀ i, i < k → ∃ j, j < n ∧ g i = f j
  all : ∀ j, j < n → ∃ i, i < k ∧ key (g i) = key (f j)

theorem rising_any (blk n cap : Nat) (f : Nat → Int) (w : World) (hc : ∀ k, k < n → w.cell? ⟨blk, k, none⟩ = some (.int .i64 (f k))) (hz : ∀ k, w.frozen? ⟨blk, k, none⟩ = false) (hb : blk < w.heap.size) (hcap : n ≤ cap) (hcx : cap ≤ 9223372036854775807) (hn : n < 1099511627776) :
    Calls Tryz.prog 106 #[.slice (some ⟨blk, 0, none⟩) n cap, .func (.func 107) #[] #[]] w fun e w' => ∃ k, e = .returned (.slice (some ⟨blk, 0, none⟩) k cap) ∧ ∃ g, Rised id blk n f w w' k g := by
  obtain ⟨w1, hw1⟩ : ∃ w1, w1 = w.alloc (.cells #[.func (.func 107) #[] #[]] 37) := ⟨_, rfl⟩
  obtain ⟨bx, hbx⟩ : ∃ bx, bx = w.heap.size := ⟨_, rfl⟩
  have F1 : Fr (One blk) w w1 := by rw [hw1]; exact (Fr.refl _ w).alloc _
  have hs1 : w1.heap.size = w.heap.size + 1 := by rw [hw1]; simp
  have ct : w1.cell? ⟨bx, 0, none⟩ = some (.func (.func 107) #[] #[]) := by rw [hw1, hbx]; simp
  have hne : bx ≠ blk := by omega
  have hlt : bx < w1.heap.size := by omega
  have F1' : Fr Non w w1 := by rw [hw1]; exact (Fr.refl _ w).alloc _
  have S1 : Rw blk n (fun _ => True) w1 w1 f := ⟨Fr.refl _ _, by omega, fun k hk => by rw [F1'.cell hb (fun h => h)]; exact hc k hk, fun k => by rw [F1'.frozen hb (fun h => h)]; exact hz k, fun _ _ => trivial⟩
  have HS : Hid (Calls Tryz.prog 118 #[.slice (some ⟨blk, 0, none⟩) n cap, .func (.func 119) #[] #[.pointer (some ⟨w.heap.size, 0, none⟩)]] (w.alloc (.cells #[.func (.func 107) #[] #[]] 37)) fun e w' => e = .returned (.tuple #[]) ∧ ∃ g, Rw blk n (fun _ => True) w1 w' g ∧ Pm 0 n f g ∧ Srt id g 0 n) := by
    rw [← hw1, ← hbx]; exact sort_any bx blk n cap _ id f w1 w1 (cmpI_any bx blk w1 ct hlt hne) S1 hn
  have HE : Hid (∀ w' g, Rw blk n (fun _ => True) w1 w' g → Srt id g 0 n → Calls Tryz.prog 121 #[.slice (some ⟨blk, 0, none⟩) n cap, .func (.func 122) #[] #[.pointer (some ⟨w.heap.size, 0, none⟩)]] w' fun e w2 => ∃ k, e = .returned (.slice (some ⟨blk, 0, none⟩) k cap) ∧ ∃ h, Rw blk k (fun _ => True) w1 w2 h ∧ Cd id g h n k) :=
    fun w' g S' O' => by rw [← hbx]; exact compact_any bx blk n cap _ id g w1 w' (eqI_any bx blk w1 ct hlt hne) S' O' hcap hcx hn
  have HF : Aside (Fr (One blk) w w1) := F1
  clear F1 F1' S1 ct hc hz hs1 hlt hne
  clear hbx hw1
  go_enter Tryz.func106, Tryz.ntmps106
  go_wp2_with (first
    | (go_at_call 118; refine Calls.mono HS.out ?_; rintro e w2 ⟨rfl, g, hS, hP, hO⟩; have S2 : Aside (Rw blk n (fun _ => True) w1 w2 g) := hS; have P2 : Aside (Pm 0 n f g) := hP; have O2 : Aside (Srt id g 0 n) := hO; clear hS hP hO HS)
    | (go_at_call 121; refine Calls.mono (HE.out _ g S2.out O2.out) ?_; rintro e w3 ⟨k, rfl, h, hS, hD⟩; have S3 : Aside (Rw blk k (fun _ => True) w1 w3 h) := hS; have D3 : Aside (Cd id g h n k) := hD; clear hS hD HE))
  go_ret
  refine ⟨k, rfl, h, ⟨HF.out.same S3.out.fr, S3.out.c, D3.out.le, D3.out.rise, fun i hi => ?_, fun j hj => ?_⟩⟩
  · obtain ⟨j, j1, e⟩ := D3.out.of i hi
    obtain ⟨l, _, l1, e'⟩ := P2.out.fwd j (Nat.zero_le _) j1
    exact ⟨l, l1, e.trans e'⟩
  · obtain ⟨l, _, l1, e⟩ := P2.out.bwd j (Nat.zero_le _) hj
    obtain ⟨i, i1, e'⟩ := D3.out.all l l1
    exact ⟨i, i1, by rw [e', ← e]⟩
end Go.Proofs.YtddcndlogoajkaaGreatDoor.L8.Si
