/- What package parse's linesOf hands out: a closure, and at each of its calls the next line that says something, read off the program by the walk. Conditions: the text has at most 65536 bytes; the variables lie as the program lays them. -/
import Derived.Test.YthjpddjfckdefaaGreatDoorWo
namespace Go.Proofs.YthjpddjfckdefaaGreatDoor.Pr
open Go.ChangeShapes Go.WideShapes Go.ChangeAt Go.RowKit
open _root_.Go.Proofs.YthjpddjfckdefaaGreatDoor.Op
set_option maxRecDepth 20000

theorem indexByte_parts {l : List UInt8} {c : UInt8} {i : Nat} (h : Lib.indexByte l c = i) : ∃ r, l = l.take i ++ c :: r ∧ l.drop (i + 1) = r ∧ (∀ b ∈ l.take i, b ≠ c) := by
  obtain ⟨h1, h2⟩ := Lib.indexByte_some h
  have hi : i < l.length := by
    rcases Nat.lt_or_ge i l.length with h' | h'
    · exact h'
    · rw [List.getElem?_eq_none h'] at h1; cases h1
  have e : l[i] = c := by rw [List.getElem?_eq_getElem hi] at h1; exact Option.some.inj h1
  refine ⟨l.drop (i + 1), ?_, rfl, ?_⟩
  · rw [← e, ← List.drop_eq_getElem_cons hi, List.take_append_drop]
  · intro b hb
    obtain ⟨k, hk, rfl⟩ := List.getElem_of_mem hb
    have hk' : k < i := by simp at hk; omega
    have := h2 k hk'
    intro hc
    apply this
    rw [List.getElem_take] at hc
    rw [List.getElem?_eq_getElem (by omega), hc]
theorem indexByte_no {l : List UInt8} {c : UInt8} (h : Lib.indexByte l c = -1) : ∀ b ∈ l, b ≠ c := by
  intro b hb hc
  obtain ⟨k, hk, rfl⟩ := List.getElem_of_mem hb
  exact Lib.indexByte_none h k (by rw [List.getElem?_eq_getElem hk, hc])


theorem takeWhile_parts {c : UInt8} : ∀ (a r : List UInt8), (∀ b ∈ a, b ≠ c) → (a ++ c :: r).takeWhile (fun b => b != c) = a
  | [], r, _ => by simp
  | b :: a, r, h => by
    have h1 := takeWhile_parts a r (fun x hx => h x (List.mem_cons_of_mem _ hx))
    have h2 : b ≠ c := h b (List.mem_cons_self ..)
    simp [h1, h2]
theorem takeWhile_all {c : UInt8} : ∀ (a : List UInt8), (∀ b ∈ a, b ≠ c) → a.takeWhile (fun b => b != c) = a
  | [], _ => by simp
  | b :: a, h => by
    have h1 := takeWhile_all a (fun x hx => h x (List.mem_cons_of_mem _ hx))
    have h2 : b ≠ c := h b (List.mem_cons_self ..)
    simp [h1, h2]
theorem cut_head (s : List UInt8) : (Lib.cut s [10]).1 = headL s := by
  unfold Lib.cut headL
  rw [Lib.index_one]
  by_cases h1 : Lib.indexByte s 10 = -1
  · rw [h1, takeWhile_all s (indexByte_no h1)]; rfl
  · have hge := Lib.indexByte_ge s 10
    obtain ⟨i, hi⟩ : ∃ i : Nat, Lib.indexByte s 10 = i := Int.eq_ofNat_of_zero_le (by omega)
    obtain ⟨r, e1, e2, e3⟩ := indexByte_parts hi
    rw [hi, if_pos (by omega)]
    conv => rhs; rw [e1]
    rw [takeWhile_parts _ _ e3]; simp

/-- The closure's state: the lines that are still to come. -/
structure Rs (w : World) (qa qt : Nat) (s : ByteArray) (ls : List Ln) : Prop where
  k : ∃ k : Nat, k ≤ s.size + 1 ∧ At w qa #[.int .i64 (k : Int)] ∧ linesS (s.data.toList.drop k) k [] = ls
  t : At w qt #[.string s]
  ne : qa ≠ qt
  sz : s.size ≤ 65536
theorem Rs.up {w w' : World} {qa qt : Nat} {s : ByteArray} {ls : List Ln} (h : Rs w qa qt s ls) (g : Below w.heap.size w w') : Rs w' qa qt s ls := by
  obtain ⟨k, hk, ha, hl⟩ := h.k
  exact ⟨⟨k, hk, ha.below g ha.lt, hl⟩, h.t.below g h.t.lt, h.ne, h.sz⟩
theorem Rs.fr {X : Nat → Prop} {w w' : World} {qa qt : Nat} {s : ByteArray} {ls : List Ln} (h : Rs w qa qt s ls) (g : Fr X w w') (h1 : ¬ X qa) (h2 : ¬ X qt) : Rs w' qa qt s ls := by
  obtain ⟨k, hk, ha, hl⟩ := h.k
  exact ⟨⟨k, hk, at_fr ha g h1, hl⟩, at_fr h.t g h2, h.ne, h.sz⟩
theorem Rs.a {w : World} {qa qt : Nat} {s : ByteArray} {ls : List Ln} (h : Rs w qa qt s ls) : qa < w.heap.size := by obtain ⟨_, _, ha, _⟩ := h.k; exact ha.lt
abbrev nextV (qa qt : Nat) : Value := .func (.func 38) #[] #[.pointer (some ⟨qa, 0, none⟩), .pointer (some ⟨qt, 0, none⟩)]
theorem linesOf_any (s : ByteArray) (w : World) (hs : s.size ≤ 65536) : Calls Tryz.prog 29 #[.string s] w fun e w' => e = .returned (nextV (w.heap.size + 1) w.heap.size) ∧ Rs w' (w.heap.size + 1) w.heap.size s (linesS s.data.toList 0 []) ∧ Below w.heap.size w w' := by
  have hmf : ∀ (fn : Fn) (first cap : Array Value) (w : World), (Instr.makeFunc fn first cap).run Tryz.prog w = .ok (.func fn first cap) w := fun _ _ _ _ => rfl
  go_enter Tryz.func29, Tryz.ntmps29
  go_wp2
  go_ret
  obtain ⟨a1, a2, hb, _, _⟩ := two_new w #[.string s] #[.int .i64 0] 9 3 (Below.refl _ _)
  exact ⟨rfl, ⟨⟨0, by omega, a2, rfl⟩, a1, by omega, hs⟩, hb⟩

/-- The closure under way. -/
structure Ns (w wr : World) (qa qt : Nat) (s : ByteArray) (k : Nat) (ls : List Ln) : Prop where
  a : At wr qa #[.int .i64 (k : Int)]
  t : At wr qt #[.string s]
  f : Fr (One qa) w wr
  l : linesS (s.data.toList.drop k) k [] = ls
  kk : k ≤ s.size + 1
theorem Ns.go {w wr V : World} {qa qt : Nat} {s : ByteArray} {k : Nat} {ls : List Ln} (h : Ns w wr qa qt s k ls) (g : Below wr.heap.size wr V) : Ns w V qa qt s k ls :=
  ⟨h.a.below g h.a.lt, h.t.below g h.t.lt, h.f.then g, h.l, h.kk⟩
/-- The place is moved on, behind a line. -/
theorem Ns.next {w V : World} {qa qt : Nat} {s : ByteArray} {k : Nat} {ls : List Ln} (h : Ns w V qa qt s k ls) (hne : qa ≠ qt) (hk : k < s.size) (n : Nat) (hn : n = (headL (s.data.toList.drop k)).length) :
    Ns w (V.setCell ⟨qa, 0, none⟩ (.int .i64 ((k : Int) + n + 1))) qa qt s (k + n + 1) (linesS (s.data.toList.drop (k + n + 1)) (k + n + 1) []) ∧ ls = emit k (headL (s.data.toList.drop k)) ++ linesS (s.data.toList.drop (k + n + 1)) (k + n + 1) [] := by
  subst hn
  have hl := headL_len (s.data.toList.drop k)
  have hsz : s.data.toList.length = s.size := rfl
  rw [List.length_drop, hsz] at hl
  refine ⟨⟨?_, ⟨fun j v e => by rw [set_far _ (Ne.symm hne)]; exact h.t.c j v e, fun j => by rw [World.frozen?_setCell]; exact h.t.f j, by rw [World.size_setCell]; exact h.t.lt⟩, h.f.setCell (.inr rfl) _ _, rfl, by omega⟩, by rw [← h.l]; exact lines_cut _ _⟩
  have := at_set h.a (j := 0) (by simp) (.int .i64 ((k : Int) + (headL (s.data.toList.drop k)).length + 1))
  simpa using this
/-- A line is made. -/
theorem line_new {w V : World} {qa : Nat} {a : Option Addr} {c : Nat} {ws : List Wd'} {en : Nat} {v : Value} (hc : ws.length ≤ c) (hw : ∀ q, V.heap.size ≤ q → WsAt V q a ws) (hf : ∀ b f, a = some ⟨b, f, none⟩ → w.heap.size ≤ b) (hqa : qa < w.heap.size) (hen : en ≤ 65536) (t : TypeId) :
    LIn ((V.setCell ⟨qa, 0, none⟩ v).alloc (.cells #[.slice a ws.length c, .int .i64 (en : Int)] t)) V.heap.size ⟨ws, en⟩ := by
  have h1 : WsAt (V.setCell ⟨qa, 0, none⟩ v) V.heap.size a ws := (hw _ (Nat.le_refl _)).fr ((Fr.refl (One qa) _).setCell (.inr rfl) _ _) fun b f e hb => by have := hf b f e; subst hb; omega
  have h2 := At.new (V.setCell ⟨qa, 0, none⟩ v) #[.slice a ws.length c, .int .i64 (en : Int)] t
  rw [World.size_setCell] at h2
  exact ⟨a, c, h2, hc, h1.fr ((Fr.refl Non _).alloc _) (fun _ _ _ hk => hk), hen⟩
def kAt (w : World) (qa : Nat) : Nat := match w.cell? ⟨qa, 0, none⟩ with | some (.int _ k) => k.toNat | _ => 0

theorem kAt_of {w : World} {qa k : Nat} (h : At w qa #[.int .i64 (k : Int)]) : kAt w qa = k := by
  unfold kAt
  rw [h.c 0 _ rfl]
  simp
theorem cut_call (x : ByteArray) (l : List UInt8) (hx : x.data.toList = l) (V : World) (hv : Vars V) (hl : x.size ≤ 65536) : Calls Tryz.prog 39 #[.string x, .string ⟨#[10]⟩] V fun e w' => (∃ a b, e = .returned (.tuple #[.string ⟨(headL l).toArray⟩, .string a, .bool b])) ∧ Below V.heap.size V w' := by
  obtain ⟨mx, hm⟩ := hv.m
  refine (Tryz.strings_Cut x ⟨#[10]⟩ mx V (by omega) hm).mono ?_
  rintro e w' ⟨rfl, n, rfl⟩
  exact ⟨⟨⟨(Lib.cut x.data.toList [10]).2.1.toArray⟩, (Lib.cut x.data.toList [10]).2.2, by rw [← cut_head, ← hx]⟩, ⟨rfl, rfl, rfl, Nat.le_refl _, fun _ _ => rfl⟩⟩

set_option maxHeartbeats 4000000 in
theorem next_any (qa qt : Nat) (s : ByteArray) (ls : List Ln) (w : World) (h : Rs w qa qt s ls) (hV : Vars w) (hq : 7 ≤ qa) :
    Calls Tryz.prog 38 #[.pointer (some ⟨qa, 0, none⟩), .pointer (some ⟨qt, 0, none⟩)] w fun e w' => ∃ q, e = .returned (.pointer (some ⟨q, 0, none⟩)) ∧ LIn w' q (nextL s.size ls) ∧ Rs w' qa qt s ls.tail ∧ w.heap.size ≤ q ∧ Fr (One qa) w w' := by
  obtain ⟨k0, hk0, ha0, hl0⟩ := h.k
  have hN : Ns w w qa qt s k0 ls := ⟨ha0, h.t, Fr.refl _ _, hl0, hk0⟩
  have hne := h.ne
  have hsz := h.sz
  have HV : Hid _ := hV
  clear h hV ha0 hl0
  go_enter Tryz.func38, Tryz.ntmps38
  go_wp2
  go_loopw [2] (fun v wr => v = .pointer none ∧ ∃ k, Ns w wr qa qt s k ls) (fun _ wr => s.size + 1 - kAt wr qa)
  case atStart => exact ⟨rfl, k0, hN⟩
  case round =>
    rename_i wr
    obtain ⟨rfl, k, hn⟩ := hrel
    clear hN
    have HN : Hid _ := hn
    have ca := hn.a.c 0 _ rfl
    have ct := hn.t.c 0 _ rfl
    have fa := hn.a.f 0
    have hkk := hn.kk
    clear hn
    by_cases hlt : k < s.size
    · have hex : s.extract k s.size = ⟨(s.data.toList.drop k).toArray⟩ := by
        rw [extract_eq]
        have : cutL s.data.toList k s.size = s.data.toList.drop k := by
          unfold cutL; rw [List.take_of_length_le]; rw [List.length_drop]; exact Nat.le_refl _
        rw [this]
      have hC : ∀ V, Vars V → Calls Tryz.prog 39 #[.string (s.extract k s.size), .string ⟨#[10]⟩] V fun e w' => (∃ a b, e = .returned (.tuple #[.string ⟨(headL (s.data.toList.drop k)).toArray⟩, .string a, .bool b])) ∧ Below V.heap.size V w' := fun V hv => cut_call _ _ (by rw [hex]) V hv (by rw [ByteArray.size_extract]; omega)
      have hl := headL_len (s.data.toList.drop k)
      have hss : s.data.toList.length = s.size := rfl
      rw [List.length_drop, hss] at hl
      have hW : ∀ V, Calls Tryz.prog 40 #[.string ⟨(headL (s.data.toList.drop k)).toArray⟩, .int .i64 k] V _ := fun V => wordsOf_list (headL (s.data.toList.drop k)) k V (by omega)
      have hNx : ∀ {V : World}, Ns w V qa qt s k ls → Ns w (V.setCell ⟨qa, 0, none⟩ (.int .i64 ((k : Int) + (headL (s.data.toList.drop k)).length + 1))) qa qt s (k + (headL (s.data.toList.drop k)).length + 1) (linesS (s.data.toList.drop (k + (headL (s.data.toList.drop k)).length + 1)) (k + (headL (s.data.toList.drop k)).length + 1) []) ∧ ls = emit k (headL (s.data.toList.drop k)) ++ linesS (s.data.toList.drop (k + (headL (s.data.toList.drop k)).length + 1)) (k + (headL (s.data.toList.drop k)).length + 1) [] := fun hv => hv.next hne hlt _ rfl
      generalize hhd : headL (s.data.toList.drop k) = hd at *
      generalize hws : wordsS hd k [] = ws at *
      have HC : Hid _ := hC
      have HW : Hid _ := hW
      have HNx : Hid _ := @hNx
      have HWS : Hid (wordsS hd k [] = ws) := hws
      clear hex hC hW hNx hhd hws hss
      cases ws with
      | nil =>
        go_wp2_with (first
          | (go_at_call 39; refine Calls.mono (HC.out _ (HV.out.one HN.out.f hq)) ?_; rintro e w1 ⟨⟨c1, c2, rfl⟩, hb⟩; have HN1 : Hid _ := HN.out.go hb; clear hb ca ct fa; have ca := HN1.out.a.c 0 _ rfl))
        go_region_held3 (fun w' => w'.cell? ⟨qa, 0, none⟩ = some (.int .i64 (k : Int))) (first | (go_keep; done) | exact HN2.out.a.c 0 _ rfl)
          (first | (go_at_call 40; refine Calls.mono (HW.out _) ?_; rintro e w2 ⟨a2, d2, rfl, hd2, hw2, hf2, hb⟩; have HN2 : Hid _ := (HN1.out.go (V := w1.drew) ⟨rfl, rfl, rfl, Nat.le_refl _, fun _ _ => rfl⟩).go hb; clear hb hw2))
        have ca2 := HN2.out.a.c 0 _ rfl
        have fa2 := HN2.out.a.f 0
        go_wp2
        obtain ⟨h1, h2⟩ := HNx.out HN2.out
        rw [show emit k hd = [] by unfold emit; rw [HWS.out]; rfl, List.nil_append] at h2
        rw [← h2] at h1
        refine ⟨⟨rfl, _, h1⟩, ?_⟩
        have e1 := kAt_of h1.a
        have e2 := kAt_of HN.out.a
        push_cast at e1
        rw [e1, e2]
        omega
      | cons x r =>
        go_wp2_with (first
          | (go_at_call 39; refine Calls.mono (HC.out _ (HV.out.one HN.out.f hq)) ?_; rintro e w1 ⟨⟨c1, c2, rfl⟩, hb⟩; have HN1 : Hid _ := HN.out.go hb; clear hb ca ct fa; have ca := HN1.out.a.c 0 _ rfl))
        go_region_held3 (fun w' => w'.cell? ⟨qa, 0, none⟩ = some (.int .i64 (k : Int))) (first | (go_keep; done) | exact HN2.out.a.c 0 _ rfl)
          (first | (go_at_call 40; refine Calls.mono (HW.out _) ?_; rintro e w2 ⟨a2, d2, rfl, hd2, hw2, hf2, hb⟩; have HN2 : Hid _ := (HN1.out.go (V := w1.drew) ⟨rfl, rfl, rfl, Nat.le_refl _, fun _ _ => rfl⟩).go hb; have HWs : Hid ((x :: r).length ≤ d2 ∧ (∀ q, w2.heap.size ≤ q → WsAt w2 q a2 (x :: r)) ∧ (∀ b f, a2 = some ⟨b, f, none⟩ → w1.heap.size ≤ b)) := ⟨hd2, hw2, hf2⟩; clear hb hw2 hf2 hd2))
        have ca2 := HN2.out.a.c 0 _ rfl
        have fa2 := HN2.out.a.f 0
        simp only [List.length_cons] at *
        go_wp2
        go_ret
        obtain ⟨h1, h2⟩ := HNx.out HN2.out
        rw [show emit k hd = [⟨x :: r, k + hd.length⟩] by unfold emit; rw [HWS.out]; rfl] at h2
        rw [h2]
        have hln := line_new (w := w1) (V := w2) (qa := qa) (en := k + hd.length) (v := .int .i64 ((k : Int) + hd.length + 1)) HWs.out.1 HWs.out.2.1 HWs.out.2.2 HN1.out.a.lt (by omega) 95
        push_cast at hln
        have hfr := HN2.out.f.size
        refine ⟨w2.heap.size, rfl, hln, ?_, hfr, h1.f.alloc _⟩
        exact Rs.up ⟨⟨_, h1.kk, h1.a, rfl⟩, h1.t, hne, hsz⟩ ((Below.refl _ _).alloc (Nat.le_refl _) _)
    · have hl := HN.out.l
      have hls : ls = [] := by
        rw [linesS_end _ _ _ _ (show s.data.toList.length ≤ k by show s.size ≤ k; omega)] at hl
        exact hl.symm
      go_wp2
      go_ret
      subst hls
      refine ⟨wr.heap.size, rfl, ?_, Rs.up ⟨⟨k, hkk, HN.out.a, hl⟩, HN.out.t, hne, hsz⟩ ((Below.refl _ _).alloc (Nat.le_refl _) _), HN.out.f.size, HN.out.f.alloc _⟩
      exact ⟨none, 0, At.new _ _ _, by simp [nextL], ⟨by simp [nextL], by simp [nextL], fun h0 => by simp [nextL] at h0⟩, hsz⟩
end Go.Proofs.YthjpddjfckdefaaGreatDoor.Pr
