/- The document's table of reservations in memory, and what its parts answer (at, times, used, fair), read off the program by the walk. Conditions: it lies in memory; cycles are below 2^41. -/
import Derived.Test.YthjnegdgpnbkkaaDoorRj
namespace Go.Proofs.YthjnegdgpnbkkaaDoor.Rv
open Go.ChangeShapes Go.WideShapes Go.ChangeAt Go.RowKit Go.Maps
open _root_.Go.Proofs.YthjnegdgpnbkkaaDoor.Op _root_.Go.Proofs.YthjnegdgpnbkkaaDoor.So
open _root_.Go.Proofs.YthjnegdgpnbkkaaDoor.Tb (Tab TabAt Bnds)
set_option maxRecDepth 20000

/-- The cells of operations that were taken. -/
def tkc (L : List Ak) : List Value := L.flatMap fun o => [.int .i64 o.c, .int .i64 o.y]
theorem tkc_app (L M : List Ak) : tkc (L ++ M) = tkc L ++ tkc M := by unfold tkc; simp
theorem tkc_get : ∀ (L : List Ak) (i : Nat) (h : i < L.length), (tkc L)[i * 2]? = some (.int .i64 L[i].c) ∧ (tkc L)[i * 2 + 1]? = some (.int .i64 L[i].y)
  | [], i, h => by simp at h
  | o :: r, 0, _ => ⟨rfl, rfl⟩
  | o :: r, i + 1, h => by
    have := tkc_get r i (by simpa using h)
    rw [show (i + 1) * 2 = i * 2 + 1 + 1 by omega]
    simpa [tkc] using this
def Ee (ev : Option Int) : Int := match ev with | none => 0 | some e => e
def dcl (t : Tab) (ev : Option Int) (a : Option Addr) (n c : Nat) : Array Value := #[.int .i64 (t.u 0), .int .i64 (t.u 1), .int .i64 (t.u 2), .int .i64 (t.u 3), .int .i64 (t.l 0), .int .i64 (t.l 1), .int .i64 (t.l 2), .int .i64 (t.l 3), .int .i64 (t.b 0), .int .i64 (t.b 1), .int .i64 (t.b 2), .int .i64 (t.b 3), .int .i64 t.d, .int .i64 (Ee ev), .slice a n c]
/-- A small number. -/
def I41 (n : Int) : Prop := -2199023255552 ≤ n ∧ n ≤ 2199023255552
/-- The document's table of reservations. -/
structure DAt (B : Nat) (W : World) (rb : Nat) (t : Tab) (ev : Option Int) (a : Option Addr) (c : Nat) (L : List Ak) : Prop where
  da : At W rb (dcl t ev a L.length c)
  row : W.ownsRow B 60 2 (.slice a L.length c) L.length (tkc L)
  ok : ∀ x ∈ L, (0 ≤ x.c ∧ x.c ≤ 3) ∧ I41 x.y
  k1 : rb < B
  k6 : B ≤ W.heap.size
theorem DAt.up {B c rb : Nat} {W W' : World} {t : Tab} {ev : Option Int} {a : Option Addr} {L : List Ak} (h : DAt B W rb t ev a c L) (hb : Below W.heap.size W W') : DAt B W' rb t ev a c L :=
  ⟨h.da.below hb h.da.lt, row_fr h.row (Fr.of (X := Non) hb) fun _ _ x => x, h.ok, h.k1, Nat.le_trans h.k6 hb.size⟩
theorem DAt.u {B c rb : Nat} {W : World} {t : Tab} {ev : Option Int} {a : Option Addr} {L : List Ak} (h : DAt B W rb t ev a c L) : ∀ k, k < 4 → W.cell? ⟨rb, k, none⟩ = some (.int .i64 (t.u k)) := Tb.four (h.da.c 0 _ rfl) (h.da.c 1 _ rfl) (h.da.c 2 _ rfl) (h.da.c 3 _ rfl)
theorem DAt.b {B c rb : Nat} {W : World} {t : Tab} {ev : Option Int} {a : Option Addr} {L : List Ak} (h : DAt B W rb t ev a c L) : ∀ k, k < 4 → W.cell? ⟨rb, 8 + k, none⟩ = some (.int .i64 (t.b k)) := Tb.four (h.da.c 8 _ rfl) (h.da.c 9 _ rfl) (h.da.c 10 _ rfl) (h.da.c 11 _ rfl)
theorem DAt.e {B c rb : Nat} {W : World} {t : Tab} {ev : Option Int} {a : Option Addr} {L : List Ak} (h : DAt B W rb t ev a c L) : W.cell? ⟨rb, 13, none⟩ = some (.int .i64 (Ee ev)) := h.da.c 13 _ rfl
theorem DAt.l {B c rb : Nat} {W : World} {t : Tab} {ev : Option Int} {a : Option Addr} {L : List Ak} (h : DAt B W rb t ev a c L) : W.cell? ⟨rb, 14, none⟩ = some (.slice a L.length c) := h.da.c 14 _ rfl
theorem DAt.get {B c rb : Nat} {W : World} {t : Tab} {ev : Option Int} {a : Option Addr} {L : List Ak} (h : DAt B W rb t ev a c L) {i : Nat} (hi : i < L.length) : ∃ b, a = some ⟨b, 0, none⟩ ∧ b < W.heap.size ∧ W.cell? ⟨b, i * 2, none⟩ = some (.int .i64 L[i].c) ∧ W.cell? ⟨b, i * 2 + 1, none⟩ = some (.int .i64 L[i].y) := by
  rcases h.row.2 with ⟨-, e0⟩ | ⟨b, cap, cur, e1, g1, -⟩
  · omega
  · injection e1 with e1 _ _
    subst e1
    obtain ⟨c0, c1⟩ := tkc_get L i hi
    exact ⟨b, rfl, (h.row.lt b rfl).2, by rw [h.row.cellAt _ (by omega)]; exact c0, by rw [h.row.cellAt _ (by omega)]; exact c1⟩
set_option maxHeartbeats 1000000 in
theorem at_any {B c rb : Nat} {t : Tab} {ev : Option Int} {a : Option Addr} {L : List Ak} (cyc : Int) (w : World) (h : DAt B w rb t ev a c L) (hv : evOk ev) :
    Calls Tryd.prog 27 #[.pointer (some ⟨rb, 0, none⟩), .int .i64 cyc] w fun e w' => e = .returned (.int .i64 (tn ev cyc)) ∧ Below w.heap.size w w' := by
  have he := h.e
  have hl := h.da.lt
  clear h
  cases ev with
  | none =>
    have he' : w.cell? ⟨rb, 13, none⟩ = some (.int .i64 0) := he
    clear he
    go_enter Tryd.func27, Tryd.ntmps27
    go_wp2
    go_ret
    exact ⟨rfl, by go_grown⟩
  | some e =>
    obtain ⟨h1, h2⟩ := hv
    have he' : w.cell? ⟨rb, 13, none⟩ = some (.int .i64 e) := he
    clear he
    have hz : ¬ e = 0 := by omega
    have h0 : (0 : Int) < e := by omega
    have h3 := Int.lt_tmod_of_pos cyc h0
    have h4 := Int.tmod_lt_of_pos cyc h0
    have hm : IntKind.i64.wrap (Int.tmod cyc e) = Int.tmod cyc e := by rw [IntKind.wrap_i64]; omega
    have ha : IntKind.i64.wrap (Int.tmod cyc e + e) = Int.tmod cyc e + e := by rw [IntKind.wrap_i64]; omega
    have h5 := Int.lt_tmod_of_pos (Int.tmod cyc e + e) h0
    have h6 := Int.tmod_lt_of_pos (Int.tmod cyc e + e) h0
    have hm2 : IntKind.i64.wrap (Int.tmod (Int.tmod cyc e + e) e) = Int.tmod (Int.tmod cyc e + e) e := by rw [IntKind.wrap_i64]; omega
    have HE : Hid (Int.tmod (Int.tmod cyc e + e) e = tn (some e) cyc) := tmod_emod h1
    clear h3 h4 h5 h6
    go_enter Tryd.func27, Tryd.ntmps27
    go_wp2
    go_quiet (fail)
    go_wp2
    go_ret
    exact ⟨ret_int HE.out, ((Fr.of (X := Non) (Below.refl _ _)).drewN _).non⟩
theorem tn41 {ev : Option Int} (hv : evOk ev) {c : Int} (hc : I41 c) : I41 (tn ev c) := by
  cases ev with
  | none => exact hc
  | some e =>
    obtain ⟨h1, h2⟩ := hv
    have h3 := Int.emod_nonneg c (show e ≠ 0 by omega)
    have h4 := Int.emod_lt_of_pos c (show 0 < e by omega)
    show I41 (c % e)
    unfold I41
    omega
set_option maxHeartbeats 4000000 in
theorem dtimes_any {B c rb : Nat} {t : Tab} {ev : Option Int} {a : Option Addr} {L : List Ak} (cl : Nat) (y cyc : Int) (w : World) (h : DAt B w rb t ev a c L) (hv : evOk ev) (hc : cl < 4) (hy : I41 y) (hb : 1 ≤ t.b cl ∧ t.b cl ≤ 4) :
    Calls Tryd.prog 29 #[.pointer (some ⟨rb, 0, none⟩), .agg #[.int .i64 (cl : Int), .int .i64 y], .int .i64 cyc] w fun e w' => e = .returned (.int .i64 (tms ev (tn ev y) (tn ev cyc) (t.b cl).toNat)) ∧ Below w.heap.size w w' := by
  have HAt : Hid (∀ W z, Below w.heap.size w W → Calls Tryd.prog 27 #[.pointer (some ⟨rb, 0, none⟩), .int .i64 z] W fun e w' => e = .returned (.int .i64 (tn ev z)) ∧ Below W.heap.size W w') := fun W z g => at_any z W (h.up g) hv
  obtain ⟨Bn, hB⟩ : ∃ Bn : Nat, t.b cl = Bn := ⟨(t.b cl).toNat, by omega⟩
  have HC : Hid (∀ W, Below w.heap.size w W → rb < W.heap.size ∧ W.cell? ⟨rb, 8 + cl, none⟩ = some (.int .i64 (Bn : Int))) := fun W g => ⟨(h.up g).da.lt, by rw [← hB]; exact (h.up g).b cl hc⟩
  rw [hB] at hb ⊢
  rw [Int.toNat_natCast]
  have hty := tn41 hv hy
  clear h hB hv
  have c0 : (0 : Int) ≤ (cl : Int) := by omega
  have c1 : (cl : Int) < 4 := by omega
  have HS : Hid (At (w.alloc (.cells #[.int .i64 (cl : Int), .int .i64 y] 60)) w.heap.size #[.int .i64 (cl : Int), .int .i64 y] ∧ Below w.heap.size w (w.alloc (.cells #[.int .i64 (cl : Int), .int .i64 y] 60))) := ⟨At.new _ _ _, (Below.refl _ _).alloc (Nat.le_refl _) _⟩
  go_enter Tryd.func29, Tryd.ntmps29
  go_upto_region 3 with fail
  generalize w.alloc (.cells #[.int .i64 (cl : Int), .int .i64 y] 60) = W0 at *
  go_loopw [7, 8] (fun s v wr => ∃ k : Nat, k ≤ Bn ∧ s = .int .i64 (tms ev (tn ev y) (tn ev cyc) k) ∧ v = .int .i64 k ∧ At wr w.heap.size #[.int .i64 (cl : Int), .int .i64 y] ∧ Below w.heap.size w wr) (fun _ v _ => Bn - (intOf v).toNat)
  case atStart => exact ⟨0, by omega, rfl, rfl, HS.out.1, HS.out.2⟩
  case round =>
    rename World => wr
    obtain ⟨k, hk, rfl, rfl, hA, hbw⟩ := hrel
    have HQ : Hid (At wr w.heap.size #[.int .i64 (cl : Int), .int .i64 y] ∧ Below w.heap.size w wr) := ⟨hA, hbw⟩
    clear hA hbw HS
    obtain ⟨t0, t1⟩ := tms_in ev (tn ev y) (tn ev cyc) k
    obtain ⟨g0, g1⟩ := HC.out _ HQ.out.2
    have s0 := HQ.out.1.c 0 _ rfl
    have s1 := HQ.out.1.c 1 _ rfl
    have sl := HQ.out.1.lt
    by_cases hlt : k < Bn
    · have k0 : (k : Int) < (Bn : Int) := by omega
      have HNx : Hid (tms ev (tn ev y) (tn ev cyc) (k + 1) = tms ev (tn ev y) (tn ev cyc) k + (if tn ev (tn ev y + k) = tn ev cyc then 1 else 0)) := rfl
      have hwr : IntKind.i64.wrap (tn ev y + (k : Int)) = tn ev y + (k : Int) := by unfold I41 at hty; rw [IntKind.wrap_i64]; omega
      go_wp2
      go_quiet (fail)
      go_upto_region 5 with fail
      have HB0 : Hid (At (wr.drewN nq) w.heap.size #[.int .i64 (cl : Int), .int .i64 y] ∧ Below w.heap.size w (wr.drewN nq)) := ⟨HQ.out.1.below (B := wr.heap.size) ((Fr.refl Non wr).drewN _).non HQ.out.1.lt, HQ.out.2.trans (((Fr.refl Non wr).drewN _).non.mono HQ.out.2.size)⟩
      generalize wr.drewN nq = X at *
      clear g0 g1 s0 s1 sl
      have s1 := HB0.out.1.c 1 _ rfl
      have sl := HB0.out.1.lt
      have HA1 : Hid (∀ W, Below w.heap.size w W → Calls Tryd.prog 27 #[.pointer (some ⟨rb, 0, none⟩), .int .i64 y] W fun e w' => e = .returned (.int .i64 (tn ev y)) ∧ Below W.heap.size W w') := fun W g => HAt.out W y g
      have HA2 : Hid (∀ W, Below w.heap.size w W → Calls Tryd.prog 27 #[.pointer (some ⟨rb, 0, none⟩), .int .i64 (tn ev y + (k : Int))] W fun e w' => e = .returned (.int .i64 (tn ev (tn ev y + (k : Int)))) ∧ Below W.heap.size W w') := fun W g => HAt.out W _ g
      have HA3 : Hid (∀ W, Below w.heap.size w W → Calls Tryd.prog 27 #[.pointer (some ⟨rb, 0, none⟩), .int .i64 cyc] W fun e w' => e = .returned (.int .i64 (tn ev cyc)) ∧ Below W.heap.size W w') := fun W g => HAt.out W _ g
      clear HAt
      generalize tms ev (tn ev y) (tn ev cyc) k = s at *
      by_cases hx : tn ev (tn ev y + (k : Int)) = tn ev cyc
      · rw [if_pos hx] at HNx
        have hxb : (tn ev (tn ev y + (k : Int)) == tn ev cyc) = true := by simp [hx]
        clear hx
        go_wp2_with (first
          | (go_at_call_of 27 (Value.int IntKind.i64 y); refine Calls.mono (HA1.out _ HB0.out.2) ?_; rintro e w2 ⟨rfl, b2⟩; have HB2 : Hid (Below w.heap.size w w2) := HB0.out.2.trans (b2.mono HB0.out.2.size); have HAt2 : Hid (At w2 w.heap.size #[.int .i64 (cl : Int), .int .i64 y]) := HB0.out.1.below b2 HB0.out.1.lt; clear b2 HA1)
          | (go_at_call_of 27 (Value.int IntKind.i64 (tn ev y + (k : Int))); refine Calls.mono (HA2.out _ HB2.out) ?_; rintro e w3 ⟨rfl, b3⟩; have HB3 : Hid (Below w.heap.size w w3) := HB2.out.trans (b3.mono HB2.out.size); have HAt3 : Hid (At w3 w.heap.size #[.int .i64 (cl : Int), .int .i64 y]) := HAt2.out.below b3 HAt2.out.lt; clear b3 HA2)
          | (go_at_call_of 27 (Value.int IntKind.i64 cyc); refine Calls.mono (HA3.out _ HB3.out) ?_; rintro e w4 ⟨rfl, b4⟩; have HB4 : Hid (Below w.heap.size w w4) := HB3.out.trans (b4.mono HB3.out.size); have HAt4 : Hid (At w4 w.heap.size #[.int .i64 (cl : Int), .int .i64 y]) := HAt3.out.below b4 HAt3.out.lt; clear b4 HA3))
        go_roundw
        case rel => exact ⟨k + 1, by omega, by rw [HNx.out], by go_num, HAt4.out, HB4.out⟩
        case measure => simp [intOf]; omega
      · rw [if_neg hx, Int.add_zero] at HNx
        have hxb : (tn ev (tn ev y + (k : Int)) == tn ev cyc) = false := by simp [hx]
        clear hx
        go_wp2_with (first
          | (go_at_call_of 27 (Value.int IntKind.i64 y); refine Calls.mono (HA1.out _ HB0.out.2) ?_; rintro e w2 ⟨rfl, b2⟩; have HB2 : Hid (Below w.heap.size w w2) := HB0.out.2.trans (b2.mono HB0.out.2.size); have HAt2 : Hid (At w2 w.heap.size #[.int .i64 (cl : Int), .int .i64 y]) := HB0.out.1.below b2 HB0.out.1.lt; clear b2 HA1)
          | (go_at_call_of 27 (Value.int IntKind.i64 (tn ev y + (k : Int))); refine Calls.mono (HA2.out _ HB2.out) ?_; rintro e w3 ⟨rfl, b3⟩; have HB3 : Hid (Below w.heap.size w w3) := HB2.out.trans (b3.mono HB2.out.size); have HAt3 : Hid (At w3 w.heap.size #[.int .i64 (cl : Int), .int .i64 y]) := HAt2.out.below b3 HAt2.out.lt; clear b3 HA2)
          | (go_at_call_of 27 (Value.int IntKind.i64 cyc); refine Calls.mono (HA3.out _ HB3.out) ?_; rintro e w4 ⟨rfl, b4⟩; have HB4 : Hid (Below w.heap.size w w4) := HB3.out.trans (b4.mono HB3.out.size); have HAt4 : Hid (At w4 w.heap.size #[.int .i64 (cl : Int), .int .i64 y]) := HAt3.out.below b4 HAt3.out.lt; clear b4 HA3))
        go_roundw
        case rel => exact ⟨k + 1, by omega, by rw [HNx.out], by go_num, HAt4.out, HB4.out⟩
        case measure => simp [intOf]; omega
    · obtain rfl : k = Bn := by omega
      have k0 : ¬ (k : Int) < (k : Int) := by omega
      go_wp2
      go_quiet (fail)
      go_wp2
      go_ret
      exact ⟨rfl, HQ.out.2.trans (((Fr.refl Non wr).drewN _).non.mono HQ.out.2.size)⟩
/-- What operations count together, of one class: as far as the first so many. -/
theorem Fl_take (t : Tab) (ev : Option Int) (L : List Ak) (a b : Int) {k : Nat} (h : k < L.length) : Fl t ev (L.take (k + 1)) a b = Fl t ev (L.take k) a b + one t ev L[k] a b := by
  rw [List.take_succ_eq_append_getElem h, Fl_app]
  show _ = _
  show _ + (one t ev L[k] a b + 0) = _
  omega
theorem Fl_le (t : Tab) (ev : Option Int) (ht : t.ok = true) (a b : Int) : ∀ L : List Ak, (∀ x ∈ L, 0 ≤ x.c ∧ x.c ≤ 3) → Fl t ev L a b ≤ 4 * L.length
  | [], _ => by show (0 : Int) ≤ _; simp
  | x :: L, h => by
    have h1 := Fl_le t ev ht a b L fun y hy => h y (List.mem_cons_of_mem _ hy)
    have h2 := h x (List.mem_cons_self ..)
    have h3 := Tb.inB_iff ((Tb.ok_parts ht).2 x.c.toNat (by omega)).2.2
    have h4 : one t ev x a b ≤ 4 := by
      unfold one
      split
      · have := (tms_in ev (tn ev x.y) b (t.b x.c.toNat).toNat).2
        omega
      · omega
    show one t ev x a b + Fl t ev L a b ≤ _
    rw [List.length_cons]
    omega
set_option maxHeartbeats 4000000 in
theorem dused_any {B c rb : Nat} {t : Tab} {ev : Option Int} {a : Option Addr} {L : List Ak} (cl cyc : Int) (w : World) (h : DAt B w rb t ev a c L) (hv : evOk ev) (ht : t.ok = true) (hL : L.length ≤ 100) :
    Calls Tryd.prog 28 #[.pointer (some ⟨rb, 0, none⟩), .int .i64 cl, .int .i64 cyc] w fun e w' => e = .returned (.int .i64 (Fl t ev L cl (tn ev cyc))) ∧ Below w.heap.size w w' := by
  have HT : Hid (∀ W (k : Nat) (hk : k < L.length), Below w.heap.size w W → Calls Tryd.prog 29 #[.pointer (some ⟨rb, 0, none⟩), .agg #[.int .i64 L[k].c, .int .i64 L[k].y], .int .i64 cyc] W fun e w' => e = .returned (.int .i64 (tms ev (tn ev L[k].y) (tn ev cyc) (t.b L[k].c.toNat).toNat)) ∧ Below W.heap.size W w') := fun W k hk g => by
    obtain ⟨h1, h2⟩ := h.ok _ (List.getElem_mem hk)
    have := dtimes_any L[k].c.toNat L[k].y cyc W (h.up g) hv (by omega) h2 (Tb.inB_iff ((Tb.ok_parts ht).2 _ (by omega)).2.2)
    rw [show ((L[k].c.toNat : Nat) : Int) = L[k].c by omega] at this
    exact this
  have HD : Hid (∀ W, Below w.heap.size w W → DAt B W rb t ev a c L) := fun W g => h.up g
  have HLe : Hid (∀ k, 0 ≤ Fl t ev (L.take k) cl (tn ev cyc) ∧ Fl t ev (L.take k) cl (tn ev cyc) ≤ 400) := fun k => ⟨Fl_0 _ _ _ _ _, by
    have h1 := Fl_le t ev ht cl (tn ev cyc) (L.take k) fun x hx => (h.ok x (List.mem_of_mem_take hx)).1
    rw [List.length_take] at h1
    omega⟩
  have HOk : Hid (t.ok = true) := ht
  have hLz : (L.length : Int) ≤ 100 := by omega
  clear h hv ht
  obtain ⟨LN, hLN⟩ : ∃ LN, L.length = LN := ⟨_, rfl⟩
  have HLN : Hid (L.length = LN) := hLN
  rw [hLN] at hLz hL
  clear hLN
  go_enter Tryd.func28, Tryd.ntmps28
  go_wp2
  go_loopw [7, 8] (fun s v wr => ∃ k : Nat, k ≤ LN ∧ s = .int .i64 (Fl t ev (L.take k) cl (tn ev cyc)) ∧ v = .int .i64 k ∧ Below w.heap.size w wr) (fun _ v _ => LN - (intOf v).toNat)
  case atStart => exact ⟨0, by omega, rfl, rfl, Below.refl _ _⟩
  case round =>
    rename World => wr
    obtain ⟨k, hk, rfl, rfl, hbw⟩ := hrel
    have HQ : Hid (Below w.heap.size w wr) := hbw
    clear hbw
    obtain ⟨f1, f2⟩ := HLe.out k
    have hd := HD.out _ HQ.out
    have gl := hd.l
    rw [HLN.out] at gl
    have g0 := hd.da.lt
    by_cases hlt : k < LN
    · have k0 : (0 : Int) ≤ (k : Int) := by omega
      have k1 : (k : Int) < (LN : Int) := by omega
      have hkl : k < L.length := by rw [HLN.out]; exact hlt
      obtain ⟨bk, hbk, gb, gc, gy⟩ := hd.get hkl
      subst hbk
      have HNx : Hid (Fl t ev (L.take (k + 1)) cl (tn ev cyc) = Fl t ev (L.take k) cl (tn ev cyc) + one t ev L[k] cl (tn ev cyc)) := Fl_take t ev L cl _ hkl
      have HTk : Hid (∀ W, Below w.heap.size w W → Calls Tryd.prog 29 #[.pointer (some ⟨rb, 0, none⟩), .agg #[.int .i64 L[k].c, .int .i64 L[k].y], .int .i64 cyc] W fun e w' => e = .returned (.int .i64 (tms ev (tn ev L[k].y) (tn ev cyc) (t.b L[k].c.toNat).toNat)) ∧ Below W.heap.size W w') := fun W g => HT.out W k hkl g
      have hin := tms_in ev (tn ev L[k].y) (tn ev cyc) (t.b L[k].c.toNat).toNat
      have hb4 := (hd.ok _ (List.getElem_mem hkl)).1
      have hb5 := Tb.inB_iff ((Tb.ok_parts HOk.out).2 L[k].c.toNat (by omega)).2.2
      clear hd HT
      by_cases hx : L[k].c = cl
      · have HO : Hid (one t ev L[k] cl (tn ev cyc) = tms ev (tn ev L[k].y) (tn ev cyc) (t.b L[k].c.toNat).toNat) := by show one t ev L[k] cl (tn ev cyc) = _; unfold one; rw [if_pos hx.symm]
        rw [HO.out] at HNx
        clear HO
        generalize tms ev (tn ev L[k].y) (tn ev cyc) (t.b L[k].c.toNat).toNat = s at *
        generalize Fl t ev (L.take k) cl (tn ev cyc) = F at *
        have hxb : (L[k].c == cl) = true := by simpa using hx
        clear hx
        have hwr : IntKind.i64.wrap (F + s) = F + s := by rw [IntKind.wrap_i64]; omega
        generalize L[k].c = xc at *
        generalize L[k].y = xy at *
        go_wp2_with (first | (go_at_call 29; refine Calls.mono (HTk.out _ HQ.out) ?_; rintro e w2 ⟨rfl, b2⟩; have HB2 : Hid (Below w.heap.size w w2) := HQ.out.trans (b2.mono HQ.out.size); clear b2 HTk))
        go_roundw
        case rel => exact ⟨k + 1, by omega, by rw [HNx.out], by go_num, HB2.out⟩
        case measure => simp [intOf]; omega
      · have HO : Hid (one t ev L[k] cl (tn ev cyc) = 0) := by show one t ev L[k] cl (tn ev cyc) = 0; unfold one; rw [if_neg fun e => hx e.symm]
        rw [HO.out, Int.add_zero] at HNx
        clear HO
        generalize Fl t ev (L.take k) cl (tn ev cyc) = F at *
        have hxb : (L[k].c == cl) = false := by simpa using hx
        clear hx hin hb5 HTk
        generalize L[k].c = xc at *
        go_wp2
        go_roundw
        case rel => exact ⟨k + 1, by omega, by rw [HNx.out], by go_num, HQ.out⟩
        case measure => simp [intOf]; omega
    · obtain rfl : k = LN := by omega
      have k1 : ¬ (k : Int) < (k : Int) := by omega
      have HE : Hid (L.take k = L) := List.take_of_length_le (by rw [HLN.out]; omega)
      rw [HE.out]
      clear hd
      go_wp2
      go_ret
      exact ⟨rfl, HQ.out⟩
/-- Are there such a class and cycle? -/
def fairB (ev : Option Int) (cl cyc : Int) : Bool := decide (0 ≤ cl) && decide (cl < 4) && (decide (0 < Ee ev) || decide (0 ≤ cyc) && decide (cyc ≤ 65536))
theorem fair_any {B c rb : Nat} {t : Tab} {ev : Option Int} {a : Option Addr} {L : List Ak} (cl cyc : Int) (w : World) (h : DAt B w rb t ev a c L) :
    Calls Tryd.prog 26 #[.pointer (some ⟨rb, 0, none⟩), .int .i64 cl, .int .i64 cyc] w fun e w' => e = .returned (.bool (fairB ev cl cyc)) ∧ Below w.heap.size w w' := by
  have he := h.e
  have hl := h.da.lt
  clear h
  unfold fairB
  generalize Ee ev = E at *
  by_cases h0 : 0 ≤ cl
  · by_cases h1 : cl < 4
    · by_cases h2 : 0 < E
      · go_enter Tryd.func26, Tryd.ntmps26
        go_wp2
        go_ret
        exact ⟨ret_bool (by first | (simp; omega) | (simp [*]; done)), by go_grown⟩
      · by_cases h3 : 0 ≤ cyc
        · by_cases h4 : cyc ≤ 65536
          · go_enter Tryd.func26, Tryd.ntmps26
            go_wp2
            go_ret
            exact ⟨ret_bool (by first | (simp; omega) | (simp [*]; done)), by go_grown⟩
          · go_enter Tryd.func26, Tryd.ntmps26
            go_wp2
            go_ret
            exact ⟨ret_bool (by first | (simp; omega) | (simp [*]; done)), by go_grown⟩
        · go_enter Tryd.func26, Tryd.ntmps26
          go_wp2
          go_ret
          exact ⟨ret_bool (by first | (simp; omega) | (simp [*]; done)), by go_grown⟩
    · go_enter Tryd.func26, Tryd.ntmps26
      go_wp2
      go_ret
      exact ⟨ret_bool (by first | (simp; omega) | (simp [*]; done)), by go_grown⟩
  · go_enter Tryd.func26, Tryd.ntmps26
    go_wp2
    go_ret
    exact ⟨ret_bool (by first | (simp; omega) | (simp [*]; done)), by go_grown⟩
end Go.Proofs.YthjnegdgpnbkkaaDoor.Rv
