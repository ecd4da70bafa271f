/- What package ops makes of two numbers (Reckon), and what the document's answer makes of them, read off the program by the walk; the two are one. Conditions: the numbers are of 64 bits, the kind of 8. -/
import Derived.Test.YtldfjlepbbmhnaaDoorBb
import Derived.Test.YtldfjlepbbmhnaaDoorPm
import Derived.Laws.Bits128
namespace Go.Proofs.YtldfjlepbbmhnaaDoor.Bu
open Go.ChangeShapes Go.WideShapes Go.ChangeAt Go.RowKit
open _root_.Go.Proofs.YtldfjlepbbmhnaaDoor.Op
open _root_.Go.Proofs.YtldfjlepbbmhnaaDoor.Tb (Tab TabAt Bnds four tabAt_new ckR)
set_option maxRecDepth 20000

/-- An operation's word. -/
def wdO (o : O) : Int := o.op + o.d * 64 + o.a * 2048 + o.b * 65536 + (o.im % 4294967296) * 2097152
/-- The fields of a word. -/
def opW (x : Int) : O := ⟨x % 64, x / 64 % 32, x / 2048 % 32, x / 65536 % 32, (x / 2097152 + 2147483648) % 4294967296 - 2147483648⟩
def zO : O := ⟨0, 0, 0, 0, 0⟩
structure Fld (o : O) : Prop where
  p0 : 0 ≤ o.op
  p1 : o.op < 24
  d0 : 0 ≤ o.d
  d1 : o.d < 32
  a0 : 0 ≤ o.a
  a1 : o.a < 32
  b0 : 0 ≤ o.b
  b1 : o.b < 32
  i0 : -2147483648 ≤ o.im
  i1 : o.im ≤ 2147483647
theorem Fld.lo {o : O} (h : Fld o) : 0 ≤ wdO o := by
  obtain ⟨p0, p1, d0, d1, a0, a1, b0, b1, i0, i1⟩ := h
  unfold wdO; omega
theorem Fld.hi {o : O} (h : Fld o) : wdO o < 9007199254740992 := by
  obtain ⟨p0, p1, d0, d1, a0, a1, b0, b1, i0, i1⟩ := h
  unfold wdO; omega
theorem opW_ok (x : Int) : (opW x).Ok := by
  unfold opW
  constructor <;> simp only <;> omega

theorem or_add (x y : Int) (k : Nat) (m : Int) (hm : m = 2 ^ k) (x0 : 0 ≤ x) (x1 : x < m) (y0 : 0 ≤ y) (h : x + y * m < 18446744073709551616) : bits BinOp.or IntKind.u64 x (y * m) = x + y * m := by
  subst hm
  obtain ⟨X, rfl⟩ := Int.eq_ofNat_of_zero_le x0
  obtain ⟨Y, rfl⟩ := Int.eq_ofNat_of_zero_le y0
  rw [pow_cast k] at x1 h ⊢
  rw [← Int.natCast_mul] at h ⊢
  have hx : X < 2 ^ k := by omega
  have hc : X < 2 ^ 64 := by omega
  have hd : Y * 2 ^ k < 2 ^ 64 := by omega
  rw [u64_or_nat X (Y * 2 ^ k) (by omega) (by omega), ← Int.natCast_add]
  congr 1
  rw [Nat.or_comm, Nat.mul_comm, ← Nat.two_pow_add_eq_or_of_lt hx, Nat.add_comm]

theorem word_sum (p d a b i : Int) (p0 : 0 ≤ p) (p1 : p < 24) (d0 : 0 ≤ d) (d1 : d < 32) (a0 : 0 ≤ a) (a1 : a < 32) (b0 : 0 ≤ b) (b1 : b < 32) (i0 : 0 ≤ i) (i1 : i < 4294967296) :
    bits BinOp.or IntKind.u64 (bits BinOp.or IntKind.u64 (bits BinOp.or IntKind.u64 (bits BinOp.or IntKind.u64 p (d * 64)) (a * 2048)) (b * 65536)) (i * 2097152) = p + d * 64 + a * 2048 + b * 65536 + i * 2097152 := by
  rw [or_add p d 6 64 rfl (by omega) (by omega) d0 (by omega), or_add _ a 11 2048 rfl (by omega) (by omega) a0 (by omega), or_add _ b 16 65536 rfl (by omega) (by omega) b0 (by omega), or_add _ i 21 2097152 rfl (by omega) (by omega) i0 (by omega)]
theorem wordOf_any (o : O) (w : World) (h : Fld o) :
    Calls Tryd.prog 57 #[o.val] w fun e w' => e = .returned (.int .u64 (wdO o)) ∧ Below w.heap.size w w' := by
  obtain ⟨p0, p1, d0, d1, a0, a1, b0, b1, i0, i1⟩ := h
  obtain ⟨p, d, a, b, i⟩ := o
  simp only at p0 p1 d0 d1 a0 a1 b0 b1 i0 i1
  go_enter Tryd.func57, Tryd.ntmps57
  go_wp2
  go_ret
  exact ⟨ret_int (word_sum p d a b _ p0 p1 d0 d1 a0 a1 b0 b1 (by omega) (by omega)), by go_grown⟩

theorem getI_is (x : Int) (a n : Nat) (x0 : 0 ≤ x) (h : fieldB a n = true) : getI x a n = x / 2 ^ a % 2 ^ n := by
  obtain ⟨X, rfl⟩ := Int.eq_ofNat_of_zero_le x0
  unfold getI getN
  rw [if_pos h]
  simp
theorem get0 {x : Int} (x0 : 0 ≤ x) : getI x 0 6 = x % 64 := by have := getI_is x 0 6 x0 rfl; simpa using this
theorem get6 {x : Int} (x0 : 0 ≤ x) : getI x 6 5 = x / 64 % 32 := getI_is x 6 5 x0 rfl
theorem get11 {x : Int} (x0 : 0 ≤ x) : getI x 11 5 = x / 2048 % 32 := getI_is x 11 5 x0 rfl
theorem get16 {x : Int} (x0 : 0 ≤ x) : getI x 16 5 = x / 65536 % 32 := getI_is x 16 5 x0 rfl
theorem wrap_imm (y : Int) : wrap64 (wrap32 y) = (y + 2147483648) % 4294967296 - 2147483648 := by
  have e1 : wrap32 y = (y + 2147483648) % 4294967296 - 2147483648 := by simp only [wrap32]
  have e2 : ∀ z, wrap64 z = (z + 9223372036854775808) % 18446744073709551616 - 9223372036854775808 := fun z => by simp only [wrap64]
  rw [e1, e2]; omega
theorem opOf_no (x : Int) (w : World) (x0 : 0 ≤ x) (x1 : x < 18446744073709551616) (h : 9007199254740992 ≤ x) :
    Calls Tryd.prog 78 #[.int .u64 x] w fun e w' => e = .returned (.tuple #[zO.val, .bool false]) ∧ Below w.heap.size w w' := by
  have h1 : (x / 9007199254740992 != 0) = true := by rw [bne_iff_ne]; omega
  go_enter Tryd.func78, Tryd.ntmps78
  go_wp2
  refine bodyPost_ret (v := .tuple #[zO.val, .bool false]) (by simp [results, Tryd.results78, go_sem, zO]) rfl ⟨rfl, by go_grown⟩
theorem opOf_yes (x : Int) (w : World) (x0 : 0 ≤ x) (x1 : x < 18446744073709551616) (h : x < 9007199254740992) :
    Calls Tryd.prog 78 #[.int .u64 x] w fun e w' => e = .returned (.tuple #[(opW x).val, .bool true]) ∧ Below w.heap.size w w' := by
  have h1 : (x / 9007199254740992 != 0) = false := by rw [bne_eq_false_iff_eq]; omega
  have g0 : ∀ w, Calls Tryd.prog 58 #[.int .u64 x, .int .i64 0, .int .i64 6] w fun e w' => e = .returned (.int .u64 (x % 64)) ∧ w' = w := fun w => by rw [← get0 x0]; exact get_any x 0 6 w x0 x1
  have g6 : ∀ w, Calls Tryd.prog 58 #[.int .u64 x, .int .i64 6, .int .i64 5] w fun e w' => e = .returned (.int .u64 (x / 64 % 32)) ∧ w' = w := fun w => by rw [← get6 x0]; exact get_any x 6 5 w x0 x1
  have g11 : ∀ w, Calls Tryd.prog 58 #[.int .u64 x, .int .i64 11, .int .i64 5] w fun e w' => e = .returned (.int .u64 (x / 2048 % 32)) ∧ w' = w := fun w => by rw [← get11 x0]; exact get_any x 11 5 w x0 x1
  have g16 : ∀ w, Calls Tryd.prog 58 #[.int .u64 x, .int .i64 16, .int .i64 5] w fun e w' => e = .returned (.int .u64 (x / 65536 % 32)) ∧ w' = w := fun w => by rw [← get16 x0]; exact get_any x 16 5 w x0 x1
  have H0 : Hid _ := g0
  have H6 : Hid _ := g6
  have H11 : Hid _ := g11
  have H16 : Hid _ := g16
  clear g0 g6 g11 g16
  go_enter Tryd.func78, Tryd.ntmps78
  go_wp2_with (first | (have hh := H0.out; go_at_call 58; refine Calls.mono (H0.out _) ?_; rintro e w1 ⟨rfl, rfl⟩; clear H0) | (have hh := H6.out; go_at_call 58; refine Calls.mono (H6.out _) ?_; rintro e w1 ⟨rfl, rfl⟩; clear H6) | (have hh := H11.out; go_at_call 58; refine Calls.mono (H11.out _) ?_; rintro e w1 ⟨rfl, rfl⟩; clear H11) | (go_at_call 58; refine Calls.mono (H16.out _) ?_; rintro e w1 ⟨rfl, rfl⟩; clear H16))
  refine bodyPost_ret (v := .tuple #[(opW x).val, .bool true]) (by simp [results, Tryd.results78, go_sem, opW, wrap_imm]) rfl ⟨rfl, by go_grown⟩

def isB (c : Int) (o : O) : Bool := clB o.op && (clV o.op == c) && okO o
theorem ckE0 (o : O) : (ckE o == 0) = okO o := by unfold ckE; cases okO o <;> rfl
theorem isOf_any (o : O) (c : Int) (w : World) (ho : o.Ok) :
    Calls Tryd.prog 70 #[o.val, .int .i64 c] w fun e w' => e = .returned (.bool (isB c o)) ∧ Below w.heap.size w w' := by
  have HC : Hid (∀ W, Calls Tryd.prog 20 #[.int .i8 o.op] W fun e w' => e = .returned (.tuple #[.int .i64 (clV o.op), .bool (clB o.op)]) ∧ Below W.heap.size W w') := fun W => class_any o.op W ho.op0 ho.op1
  have HK : Hid (∀ W, Calls Tryd.prog 87 #[o.val] W fun e w' => e = .returned (.int .i64 (ckE o)) ∧ Below W.heap.size W w') := fun W => check_any o W ho
  have HR : Hid (isB c o = (clB o.op && (clV o.op == c) && (ckE o == 0))) := by rw [ckE0]; rfl
  obtain ⟨r, hr⟩ : ∃ r, isB c o = r := ⟨_, rfl⟩
  rw [hr] at HR ⊢
  clear hr ho
  generalize clV o.op = v at *
  generalize ckE o = ke at *
  cases hB : clB o.op
  · rw [hB] at HC HR
    go_enter Tryd.func70, Tryd.ntmps70
    go_wp2_with (first | (go_at_call 20; refine Calls.mono (HC.out _) ?_; rintro e w1 ⟨rfl, hb⟩; obtain ⟨-, hb0, hz⟩ := one_new w _ _ hb; have HB : Hid (Below w.heap.size w w1) := hb0; clear hb hb0))
    go_ret
    exact ⟨ret_bool (by rw [HR.out]; rfl), HB.out⟩
  · rw [hB] at HC HR
    by_cases hc : v = c
    · subst hc
      go_enter Tryd.func70, Tryd.ntmps70
      go_wp2_with (first | (go_at_call 20; refine Calls.mono (HC.out _) ?_; rintro e w1 ⟨rfl, hb⟩; obtain ⟨a1, hb0, hz⟩ := one_new w _ _ hb; have HB : Hid (Below w.heap.size w w1) := hb0; obtain ⟨o0, o1, o2, o3, o4⟩ := a1.o5; clear hb hb0 a1) | (go_at_call 87; refine Calls.mono (HK.out _) ?_; rintro e w2 ⟨rfl, hb⟩; have HB2 : Hid (Below w.heap.size w w2) := HB.out.trans (hb.mono HB.out.size); clear hb))
      go_ret
      exact ⟨ret_bool (by rw [HR.out]; simp), HB2.out⟩
    · have hc' : (v == c) = false := by simpa using hc
      go_enter Tryd.func70, Tryd.ntmps70
      go_wp2_with (first | (go_at_call 20; refine Calls.mono (HC.out _) ?_; rintro e w1 ⟨rfl, hb⟩; obtain ⟨-, hb0, hz⟩ := one_new w _ _ hb; have HB : Hid (Below w.heap.size w w1) := hb0; clear hb hb0))
      go_ret
      exact ⟨ret_bool (by rw [HR.out, hc']; rfl), HB.out⟩
end Go.Proofs.YtldfjlepbbmhnaaDoor.Bu
namespace Go.Proofs.YtldfjlepbbmhnaaDoor.Bu
open _root_.Go.Proofs.YtldfjlepbbmhnaaDoor.Op
open _root_.Go.Proofs.YtldfjlepbbmhnaaDoor.Tb (Tab)
set_option maxRecDepth 20000

theorem fld_of {o : O} (ho : o.Ok) (h : okO o = true) : Fld o := by
  unfold okO at h
  split at h
  · rename_i k hk
    obtain ⟨n, hn, e, -⟩ := kOf_some hk
    simp only [okF, Bool.and_eq_true, rH, iH] at h
    obtain ⟨⟨⟨h1, h2⟩, h3⟩, h4⟩ := h
    have d0 := ho.d0
    have a0 := ho.a0
    have b0 := ho.b0
    have q : ∀ (r : Int) (c : Bool), (if c = true then decide (r < 32) else r == 0) = true → r < 32 := fun r c hq => by
      cases c
      · have : r = 0 := by simpa using hq
        omega
      · simpa using hq
    refine ⟨by omega, by omega, d0, q _ _ h1, a0, q _ _ h2, b0, q _ _ h3, ?_, ?_⟩
    · cases hI : k.I
      · rw [hI] at h4
        have : o.im = 0 := by simpa using h4
        omega
      · rw [hI] at h4
        have : -2147483648 ≤ o.im ∧ o.im ≤ 2147483647 := by simpa using h4
        exact this.1
    · cases hI : k.I
      · rw [hI] at h4
        have : o.im = 0 := by simpa using h4
        omega
      · rw [hI] at h4
        have : -2147483648 ≤ o.im ∧ o.im ≤ 2147483647 := by simpa using h4
        exact this.2
  · cases h
theorem isB_fld {c : Int} {o : O} (ho : o.Ok) (h : isB c o = true) : Fld o := by
  simp only [isB, Bool.and_eq_true] at h
  exact fld_of ho h.2
/-- The words without the 0s at their end. -/
def stN (v : Nat → Int) : Nat → Nat
  | 0 => 0
  | n + 1 => if v n = 0 then stN v n else n + 1
theorem stN_le (v : Nat → Int) : ∀ n, stN v n ≤ n
  | 0 => Nat.le_refl _
  | n + 1 => by
    unfold stN
    split
    · exact Nat.le_succ_of_le (stN_le v n)
    · exact Nat.le_refl _
def okW (c x : Int) : Bool := decide (x < 9007199254740992) && isB c (opW x)
def rdB (c : Int) (v : Nat → Int) (m : Nat) : Bool := (List.range m).all fun j => okW c (v j)
def rdL (v : Nat → Int) (m : Nat) : List O := (List.range m).map fun j => opW (v j)
def wsL (n : Nat) (xs : List O) : List Int := xs.map wdO ++ List.replicate (n - xs.length) 0
theorem rdL_len (v : Nat → Int) (m : Nat) : (rdL v m).length = m := by simp [rdL]
theorem rdL_ok (v : Nat → Int) (m : Nat) : ∀ o ∈ rdL v m, o.Ok := by
  intro o ho
  obtain ⟨j, -, rfl⟩ := List.mem_map.1 ho
  exact opW_ok _
theorem rdL_next (v : Nat → Int) (m : Nat) : rdL v (m + 1) = rdL v m ++ [opW (v m)] := by simp [rdL, List.range_succ]
theorem rdB_next (c : Int) (v : Nat → Int) (m : Nat) : rdB c v (m + 1) = (rdB c v m && okW c (v m)) := by simp [rdB, List.range_succ]
theorem rdB_iff {c : Int} {v : Nat → Int} {m : Nat} : rdB c v m = true ↔ ∀ j, j < m → okW c (v j) = true := by
  unfold rdB
  rw [List.all_eq_true]
  exact ⟨fun h j hj => h j (List.mem_range.2 hj), fun h j hj => h j (List.mem_range.1 hj)⟩
theorem rdB_no {c : Int} {v : Nat → Int} {m k : Nat} (hk : k < m) (h : okW c (v k) = false) : rdB c v m = false := by
  cases hb : rdB c v m
  · rfl
  · rw [rdB_iff.1 hb k hk] at h; cases h
theorem wsL_len {n : Nat} {xs : List O} (h : xs.length ≤ n) : (wsL n xs).length = n := by simp [wsL]; omega
theorem cls_all {c : Int} {v : Nat → Int} {m : Nat} (hb : rdB c v m = true) : (rdL v m).all (isB c) = true := by
  rw [List.all_eq_true]
  intro o ho
  obtain ⟨j, hj, rfl⟩ := List.mem_map.1 ho
  have := rdB_iff.1 hb j (List.mem_range.1 hj)
  simp only [okW, Bool.and_eq_true] at this
  exact this.2

/-- A bundle: a list of operations for each class. -/
structure Bn where
  l : Nat → List O
def Bn.Ok (x : Bn) : Prop := ∀ k, k < 4 → ∀ o ∈ x.l k, o.Ok
def U (t : Tab) (k : Nat) : Nat := (t.u k).toNat
def ofs (t : Tab) : Nat → Nat
  | 0 => 0
  | k + 1 => ofs t k + U t k
def wBk (t : Tab) (x : Bn) : Nat → List Int
  | 0 => []
  | k + 1 => wBk t x k ++ wsL (U t k) (x.l k)
def clsB (t : Tab) (x : Bn) (k : Nat) : Bool := decide ((x.l k).length ≤ U t k) && (x.l k).all (isB k)
def wfK (t : Tab) (x : Bn) : Nat → Bool
  | 0 => true
  | k + 1 => wfK t x k && clsB t x k
def wfB (t : Tab) (x : Bn) : Bool := wfK t x 4
theorem wfK_iff {t : Tab} {x : Bn} : ∀ {n : Nat}, wfK t x n = true ↔ ∀ k, k < n → clsB t x k = true
  | 0 => ⟨fun _ k hk => absurd hk (by omega), fun _ => rfl⟩
  | n + 1 => by
    unfold wfK
    rw [Bool.and_eq_true, wfK_iff (n := n)]
    refine ⟨fun h k hk => ?_, fun h => ⟨fun k hk => h k (by omega), h n (by omega)⟩⟩
    by_cases e : k = n
    · rw [e]; exact h.2
    · exact h.1 k (by omega)
theorem wfK_no {t : Tab} {x : Bn} {k n : Nat} (hk : k < n) (h : clsB t x k = false) : wfK t x n = false := by
  cases hw : wfK t x n
  · rfl
  · rw [wfK_iff.1 hw k hk] at h; cases h
theorem clsB_parts {t : Tab} {x : Bn} {k : Nat} (h : clsB t x k = true) : (x.l k).length ≤ U t k ∧ (x.l k).all (isB k) = true := by
  unfold clsB at h
  rw [Bool.and_eq_true, decide_eq_true_eq] at h
  exact h
theorem wBk_len {t : Tab} {x : Bn} : ∀ {n : Nat}, wfK t x n = true → (wBk t x n).length = ofs t n
  | 0, _ => rfl
  | n + 1, h => by
    have h' := wfK_iff.1 h
    unfold wBk ofs
    rw [List.length_append, wBk_len (wfK_iff.2 fun k hk => h' k (by omega)), wsL_len (clsB_parts (h' n (by omega))).1]
theorem ofs_mono {t : Tab} {k : Nat} : ∀ {n : Nat}, k < n → ofs t k + U t k ≤ ofs t n
  | 0, h => absurd h (by omega)
  | n + 1, h => by
    by_cases e : k = n
    · subst e; exact Nat.le_refl _
    · have := ofs_mono (t := t) (k := k) (n := n) (by omega)
      show _ ≤ ofs t n + U t n
      omega
/-- The bundle that words are read as. -/
def cv (t : Tab) (v : Nat → Int) (k : Nat) : Nat → Int := fun j => v (ofs t k + j)
def bdK (t : Tab) (v : Nat → Int) : Nat → Bool
  | 0 => true
  | k + 1 => bdK t v k && rdB k (cv t v k) (stN (cv t v k) (U t k))
def bdX (t : Tab) (v : Nat → Int) : Bn := ⟨fun k => rdL (cv t v k) (stN (cv t v k) (U t k))⟩
theorem bdK_iff {t : Tab} {v : Nat → Int} : ∀ {n : Nat}, bdK t v n = true ↔ ∀ k, k < n → rdB k (cv t v k) (stN (cv t v k) (U t k)) = true
  | 0 => ⟨fun _ k hk => absurd hk (by omega), fun _ => rfl⟩
  | n + 1 => by
    unfold bdK
    rw [Bool.and_eq_true, bdK_iff (n := n)]
    refine ⟨fun h k hk => ?_, fun h => ⟨fun k hk => h k (by omega), h n (by omega)⟩⟩
    by_cases e : k = n
    · rw [e]; exact h.2
    · exact h.1 k (by omega)
theorem bdK_no {t : Tab} {v : Nat → Int} {k n : Nat} (hk : k < n) (h : rdB k (cv t v k) (stN (cv t v k) (U t k)) = false) : bdK t v n = false := by
  cases hw : bdK t v n
  · rfl
  · rw [bdK_iff.1 hw k hk] at h; cases h
def encW (t : Tab) (ls : List Bn) : List Int := ls.flatMap fun x => wBk t x 4
theorem encW_next (t : Tab) (ls : List Bn) (x : Bn) : encW t (ls ++ [x]) = encW t ls ++ wBk t x 4 := by simp [encW]
def allW (t : Tab) (ls : List Bn) : Bool := ls.all (wfB t)
theorem encW_len {t : Tab} : ∀ {ls : List Bn}, allW t ls = true → (encW t ls).length = ls.length * ofs t 4
  | [], _ => by simp [encW]
  | x :: ls, h => by
    simp only [allW, List.all_cons, Bool.and_eq_true] at h
    have := encW_len (t := t) (ls := ls) h.2
    show (wBk t x 4 ++ encW t ls).length = _
    rw [List.length_append, this, wBk_len h.1, List.length_cons, Nat.succ_mul, Nat.add_comm]
/-- The bundles that words are read as. -/
def sv (t : Tab) (v : Nat → Int) (i : Nat) : Nat → Int := fun j => v (i * ofs t 4 + j)
def deB (t : Tab) (v : Nat → Int) (n : Nat) : Bool := (List.range n).all fun i => bdK t (sv t v i) 4
def deL (t : Tab) (v : Nat → Int) (n : Nat) : List Bn := (List.range n).map fun i => bdX t (sv t v i)
theorem deL_len (t : Tab) (v : Nat → Int) (n : Nat) : (deL t v n).length = n := by simp [deL]
theorem deB_iff {t : Tab} {v : Nat → Int} {n : Nat} : deB t v n = true ↔ ∀ i, i < n → bdK t (sv t v i) 4 = true := by
  unfold deB
  rw [List.all_eq_true]
  exact ⟨fun h i hi => h i (List.mem_range.2 hi), fun h i hi => h i (List.mem_range.1 hi)⟩
theorem deB_no {t : Tab} {v : Nat → Int} {n k : Nat} (hk : k < n) (h : bdK t (sv t v k) 4 = false) : deB t v n = false := by
  cases hw : deB t v n
  · rfl
  · rw [deB_iff.1 hw k hk] at h; cases h
end Go.Proofs.YtldfjlepbbmhnaaDoor.Bu
namespace Go.Proofs.YtldfjlepbbmhnaaDoor.Op
open Go.ChangeShapes Go.WideShapes Go.ChangeAt Go.RowKit

set_option maxRecDepth 20000
theorem get6 (b : Int) : getI (IntKind.u64.wrap b) 0 6 = b % 64 := by
  unfold getI
  rw [if_pos (by decide), getN, IntKind.wrap_u64]
  have h : 0 ≤ b % 18446744073709551616 := by omega
  simp
  omega
theorem and63 (n : Int) : bits .and .i64 n 63 = n % 64 := by
  have h63 : (BitVec.ofInt 64 63).toNat = 2 ^ 6 - 1 := by decide
  have key : (BitVec.ofInt 64 n &&& BitVec.ofInt 64 63).toNat = (n % ((2 ^ 64 : Nat) : Int)).toNat % 2 ^ 6 := by
    rw [BitVec.toNat_and, BitVec.toNat_ofInt, h63, Nat.and_two_pow_sub_one_eq_mod]
  show IntKind.i64.wrap ((BitVec.ofInt 64 n &&& BitVec.ofInt 64 63).toNat : Nat) = n % 64
  rw [key, IntKind.wrap_i64]
  omega
theorem wm (x : Int) : wrap64 x % 18446744073709551616 = x % 18446744073709551616 := by unfold wrap64; omega
theorem we {x y : Int} (h : x % 18446744073709551616 = y % 18446744073709551616) : wrap64 x = wrap64 y := by unfold wrap64; omega
theorem wid {x : Int} (h1 : -9223372036854775808 ≤ x) (h2 : x ≤ 9223372036854775807) : wrap64 x = x := by unfold wrap64; omega
theorem tmod_le (a b : Int) (h1 : -9223372036854775808 ≤ a) (h2 : a ≤ 9223372036854775807) : -9223372036854775808 ≤ a.tmod b ∧ a.tmod b ≤ 9223372036854775807 := by
  have h := Int.natAbs_tmod a b
  have h3 : a.natAbs % b.natAbs ≤ a.natAbs := Nat.mod_le _ _
  rcases Int.le_total 0 a with h0 | h0
  · have := Int.tmod_nonneg b h0
    omega
  · have : a.tmod b ≤ 0 := by
      have := Int.tmod_nonneg b (show 0 ≤ -a by omega)
      rw [Int.neg_tmod] at this
      omega
    omega
theorem rest_form (a b : Int) (h1 : -9223372036854775808 ≤ a) (h2 : a ≤ 9223372036854775807) :
    wrap64 (a - wrap64 (wrap64 (a.tdiv b) * b)) = a.tmod b := by
  have e : wrap64 (a - wrap64 (wrap64 (a.tdiv b) * b)) = wrap64 (a.tmod b) := by
    refine we ?_
    rw [Int.tmod_def, Int.sub_emod, wm, Int.mul_emod, wm, ← Int.mul_emod, ← Int.sub_emod, Int.mul_comm]
  have h := tmod_le a b h1 h2
  rw [e, wid h.1 h.2]

/-- 1 or 0 -/
def b2i (x : Bool) : Int := if x then 1 else 0
/-- what D becomes of A and B -/
def rkV (d a b : Int) : Int :=
  if d = 2 then wrap64 (a + b) else if d = 3 then wrap64 (a - b) else if d = 4 then bits .and .i64 a b else if d = 5 then bits .or .i64 a b else if d = 6 then bits .xor .i64 a b
  else if d = 7 then wrap64 (a * 2 ^ (b % 64).toNat) else if d = 8 then a / 2 ^ (b % 64).toNat else if d = 9 then b2i (decide (a < b)) else if d = 10 then b2i (a == b) else if d = 11 then a
  else if d = 12 then wrap64 (a * b) else if d = 13 then (if b = 0 then 0 else wrap64 (a.tdiv b)) else if d = 14 then (if b = 0 then 0 else a.tmod b) else 0
/-- and the error -/
def rkE (d b : Int) : Int := if 2 ≤ d ∧ d ≤ 12 then 0 else if d = 13 ∨ d = 14 then (if b = 0 then 101 else 0) else 2

theorem dist_any (b : Int) (w : World) :
    Calls Tryd.prog 39 #[.int .i64 b] w fun e w' => e = .returned (.int .u64 (b % 64)) ∧ w' = w := by
  go_enter Tryd.func39, Tryd.ntmps39
  go_wp2_with (first | (go_at_call 58; refine (get_any _ _ _ _ (by rw [IntKind.wrap_u64]; omega) (by rw [IntKind.wrap_u64]; omega)).mono ?_; rintro e w' ⟨rfl, rfl⟩))
  go_ret
  exact ⟨ret_int (get6 b), rfl⟩
theorem oneIf_any (x : Bool) (w : World) : Calls Tryd.prog 40 #[.bool x] w fun e w' => e = .returned (.int .i64 (b2i x)) ∧ w' = w := by
  cases x
  all_goals
    go_enter Tryd.func40, Tryd.ntmps40
    go_wp2
    go_ret
    exact ⟨rfl, rfl⟩
theorem ret_two {k l : IntKind} {a b c d : Int} (h : a = b) (g : c = d) : Ending.returned (.tuple #[.int k a, .int l c]) = .returned (.tuple #[.int k b, .int l d]) := by rw [h, g]
theorem rk2 (a b : Int) (w : World) : Calls Tryd.prog 24 #[.int .i8 2, .int .i64 a, .int .i64 b] w fun e w' => e = .returned (.tuple #[.int .i64 (rkV 2 a b), .int .i64 (rkE 2 b)]) ∧ w' = w := by
  go_enter Tryd.func24, Tryd.ntmps24
  go_wp2_with (first | (go_at_call 39; refine (dist_any _ _).mono ?_; rintro e w' ⟨rfl, rfl⟩) | (go_at_call 40; refine (oneIf_any _ _).mono ?_; rintro e w' ⟨rfl, rfl⟩) | go_in)
  go_ret2
  exact ⟨rfl, rfl⟩
theorem rk3 (a b : Int) (w : World) : Calls Tryd.prog 24 #[.int .i8 3, .int .i64 a, .int .i64 b] w fun e w' => e = .returned (.tuple #[.int .i64 (rkV 3 a b), .int .i64 (rkE 3 b)]) ∧ w' = w := by
  go_enter Tryd.func24, Tryd.ntmps24
  go_wp2_with (first | (go_at_call 39; refine (dist_any _ _).mono ?_; rintro e w' ⟨rfl, rfl⟩) | (go_at_call 40; refine (oneIf_any _ _).mono ?_; rintro e w' ⟨rfl, rfl⟩) | go_in)
  go_ret2
  exact ⟨rfl, rfl⟩
theorem rk4 (a b : Int) (w : World) : Calls Tryd.prog 24 #[.int .i8 4, .int .i64 a, .int .i64 b] w fun e w' => e = .returned (.tuple #[.int .i64 (rkV 4 a b), .int .i64 (rkE 4 b)]) ∧ w' = w := by
  go_enter Tryd.func24, Tryd.ntmps24
  go_wp2_with (first | (go_at_call 39; refine (dist_any _ _).mono ?_; rintro e w' ⟨rfl, rfl⟩) | (go_at_call 40; refine (oneIf_any _ _).mono ?_; rintro e w' ⟨rfl, rfl⟩) | go_in)
  go_ret2
  exact ⟨rfl, rfl⟩
theorem rk5 (a b : Int) (w : World) : Calls Tryd.prog 24 #[.int .i8 5, .int .i64 a, .int .i64 b] w fun e w' => e = .returned (.tuple #[.int .i64 (rkV 5 a b), .int .i64 (rkE 5 b)]) ∧ w' = w := by
  go_enter Tryd.func24, Tryd.ntmps24
  go_wp2_with (first | (go_at_call 39; refine (dist_any _ _).mono ?_; rintro e w' ⟨rfl, rfl⟩) | (go_at_call 40; refine (oneIf_any _ _).mono ?_; rintro e w' ⟨rfl, rfl⟩) | go_in)
  go_ret2
  exact ⟨rfl, rfl⟩
theorem rk6 (a b : Int) (w : World) : Calls Tryd.prog 24 #[.int .i8 6, .int .i64 a, .int .i64 b] w fun e w' => e = .returned (.tuple #[.int .i64 (rkV 6 a b), .int .i64 (rkE 6 b)]) ∧ w' = w := by
  go_enter Tryd.func24, Tryd.ntmps24
  go_wp2_with (first | (go_at_call 39; refine (dist_any _ _).mono ?_; rintro e w' ⟨rfl, rfl⟩) | (go_at_call 40; refine (oneIf_any _ _).mono ?_; rintro e w' ⟨rfl, rfl⟩) | go_in)
  go_ret2
  exact ⟨rfl, rfl⟩
theorem rk7 (a b : Int) (w : World) : Calls Tryd.prog 24 #[.int .i8 7, .int .i64 a, .int .i64 b] w fun e w' => e = .returned (.tuple #[.int .i64 (rkV 7 a b), .int .i64 (rkE 7 b)]) ∧ w' = w := by
  have hd : 0 ≤ b % 64 := by omega
  have hd2 : b % 64 < 64 := by omega
  go_enter Tryd.func24, Tryd.ntmps24
  go_wp2_with (first | (go_at_call 39; refine (dist_any _ _).mono ?_; rintro e w' ⟨rfl, rfl⟩) | (go_at_call 40; refine (oneIf_any _ _).mono ?_; rintro e w' ⟨rfl, rfl⟩) | go_in)
  go_ret2
  exact ⟨rfl, rfl⟩
theorem rk8 (a b : Int) (w : World) : Calls Tryd.prog 24 #[.int .i8 8, .int .i64 a, .int .i64 b] w fun e w' => e = .returned (.tuple #[.int .i64 (rkV 8 a b), .int .i64 (rkE 8 b)]) ∧ w' = w := by
  have hd : 0 ≤ b % 64 := by omega
  have hd2 : b % 64 < 64 := by omega
  go_enter Tryd.func24, Tryd.ntmps24
  go_wp2_with (first | (go_at_call 39; refine (dist_any _ _).mono ?_; rintro e w' ⟨rfl, rfl⟩) | (go_at_call 40; refine (oneIf_any _ _).mono ?_; rintro e w' ⟨rfl, rfl⟩) | go_in)
  go_ret2
  exact ⟨rfl, rfl⟩
theorem rk9 (a b : Int) (w : World) : Calls Tryd.prog 24 #[.int .i8 9, .int .i64 a, .int .i64 b] w fun e w' => e = .returned (.tuple #[.int .i64 (rkV 9 a b), .int .i64 (rkE 9 b)]) ∧ w' = w := by
  go_enter Tryd.func24, Tryd.ntmps24
  go_wp2_with (first | (go_at_call 39; refine (dist_any _ _).mono ?_; rintro e w' ⟨rfl, rfl⟩) | (go_at_call 40; refine (oneIf_any _ _).mono ?_; rintro e w' ⟨rfl, rfl⟩) | go_in)
  go_ret2
  exact ⟨rfl, rfl⟩
theorem rk10 (a b : Int) (w : World) : Calls Tryd.prog 24 #[.int .i8 10, .int .i64 a, .int .i64 b] w fun e w' => e = .returned (.tuple #[.int .i64 (rkV 10 a b), .int .i64 (rkE 10 b)]) ∧ w' = w := by
  go_enter Tryd.func24, Tryd.ntmps24
  go_wp2_with (first | (go_at_call 39; refine (dist_any _ _).mono ?_; rintro e w' ⟨rfl, rfl⟩) | (go_at_call 40; refine (oneIf_any _ _).mono ?_; rintro e w' ⟨rfl, rfl⟩) | go_in)
  go_ret2
  exact ⟨rfl, rfl⟩
theorem rk11 (a b : Int) (w : World) : Calls Tryd.prog 24 #[.int .i8 11, .int .i64 a, .int .i64 b] w fun e w' => e = .returned (.tuple #[.int .i64 (rkV 11 a b), .int .i64 (rkE 11 b)]) ∧ w' = w := by
  go_enter Tryd.func24, Tryd.ntmps24
  go_wp2_with (first | (go_at_call 39; refine (dist_any _ _).mono ?_; rintro e w' ⟨rfl, rfl⟩) | (go_at_call 40; refine (oneIf_any _ _).mono ?_; rintro e w' ⟨rfl, rfl⟩) | go_in)
  go_ret2
  exact ⟨rfl, rfl⟩
theorem rk12 (a b : Int) (w : World) : Calls Tryd.prog 24 #[.int .i8 12, .int .i64 a, .int .i64 b] w fun e w' => e = .returned (.tuple #[.int .i64 (rkV 12 a b), .int .i64 (rkE 12 b)]) ∧ w' = w := by
  go_enter Tryd.func24, Tryd.ntmps24
  go_wp2_with (first | (go_at_call 39; refine (dist_any _ _).mono ?_; rintro e w' ⟨rfl, rfl⟩) | (go_at_call 40; refine (oneIf_any _ _).mono ?_; rintro e w' ⟨rfl, rfl⟩) | go_in)
  go_ret2
  exact ⟨rfl, rfl⟩
theorem rk13 (a b : Int) (w : World) (h1 : -9223372036854775808 ≤ a) (h2 : a ≤ 9223372036854775807) : Calls Tryd.prog 24 #[.int .i8 13, .int .i64 a, .int .i64 b] w fun e w' => e = .returned (.tuple #[.int .i64 (rkV 13 a b), .int .i64 (rkE 13 b)]) ∧ w' = w := by
  have hr : Hid (wrap64 (a - wrap64 (wrap64 (a.tdiv b) * b)) = a.tmod b) := rest_form a b h1 h2
  clear h1 h2
  by_cases hb : b = 0
  · have e1 : rkV 13 a b = 0 := by subst hb; rfl
    have e2 : rkE 13 b = 101 := by subst hb; rfl
    rw [e1, e2]
    subst hb
    clear hr e1 e2
    go_enter Tryd.func24, Tryd.ntmps24
    go_wp2_with (first | (go_at_call 39; refine (dist_any _ _).mono ?_; rintro e w' ⟨rfl, rfl⟩) | (go_at_call 40; refine (oneIf_any _ _).mono ?_; rintro e w' ⟨rfl, rfl⟩) | go_in)
    go_ret2
    exact ⟨rfl, rfl⟩
  · have e1 : rkV 13 a b = wrap64 (a.tdiv b) := by unfold rkV; simp [hb]
    have e2 : rkE 13 b = 0 := by unfold rkE; simp [hb]
    rw [e1, e2]
    clear e1 e2
    have hq : (b == 0) = false := by simp [hb]
    go_enter Tryd.func24, Tryd.ntmps24
    go_wp2_with (first | (go_at_call 39; refine (dist_any _ _).mono ?_; rintro e w' ⟨rfl, rfl⟩) | (go_at_call 40; refine (oneIf_any _ _).mono ?_; rintro e w' ⟨rfl, rfl⟩) | go_in)
    go_ret2
    exact ⟨rfl, rfl⟩
theorem rk14 (a b : Int) (w : World) (h1 : -9223372036854775808 ≤ a) (h2 : a ≤ 9223372036854775807) : Calls Tryd.prog 24 #[.int .i8 14, .int .i64 a, .int .i64 b] w fun e w' => e = .returned (.tuple #[.int .i64 (rkV 14 a b), .int .i64 (rkE 14 b)]) ∧ w' = w := by
  have hr : Hid (wrap64 (a - wrap64 (wrap64 (a.tdiv b) * b)) = a.tmod b) := rest_form a b h1 h2
  clear h1 h2
  by_cases hb : b = 0
  · have e1 : rkV 14 a b = 0 := by subst hb; rfl
    have e2 : rkE 14 b = 101 := by subst hb; rfl
    rw [e1, e2]
    subst hb
    clear hr e1 e2
    go_enter Tryd.func24, Tryd.ntmps24
    go_wp2_with (first | (go_at_call 39; refine (dist_any _ _).mono ?_; rintro e w' ⟨rfl, rfl⟩) | (go_at_call 40; refine (oneIf_any _ _).mono ?_; rintro e w' ⟨rfl, rfl⟩) | go_in)
    go_ret2
    exact ⟨rfl, rfl⟩
  · have e1 : rkV 14 a b = a.tmod b := by unfold rkV; simp [hb]
    have e2 : rkE 14 b = 0 := by unfold rkE; simp [hb]
    rw [e1, e2]
    clear e1 e2
    have hq : (b == 0) = false := by simp [hb]
    go_enter Tryd.func24, Tryd.ntmps24
    go_wp2_with (first | (go_at_call 39; refine (dist_any _ _).mono ?_; rintro e w' ⟨rfl, rfl⟩) | (go_at_call 40; refine (oneIf_any _ _).mono ?_; rintro e w' ⟨rfl, rfl⟩) | go_in)
    go_ret2
    exact ⟨rfl, rfl⟩
theorem rkNone (d a b : Int) (w : World) (h : d < 2 ∨ 14 < d) : Calls Tryd.prog 24 #[.int .i8 d, .int .i64 a, .int .i64 b] w fun e w' => e = .returned (.tuple #[.int .i64 (rkV d a b), .int .i64 (rkE d b)]) ∧ w' = w := by
  have e1 : rkV d a b = 0 := by unfold rkV; repeat (rw [if_neg (by omega)])
  have e2 : rkE d b = 2 := by unfold rkE; repeat (rw [if_neg (by omega)])
  rw [e1, e2]
  clear e1 e2
  have g2 : (d == 2) = false := by simp; omega
  have g3 : (d == 3) = false := by simp; omega
  have g4 : (d == 4) = false := by simp; omega
  have g5 : (d == 5) = false := by simp; omega
  have g6 : (d == 6) = false := by simp; omega
  have g7 : (d == 7) = false := by simp; omega
  have g8 : (d == 8) = false := by simp; omega
  have g9 : (d == 9) = false := by simp; omega
  have g10 : (d == 10) = false := by simp; omega
  have g11 : (d == 11) = false := by simp; omega
  have g12 : (d == 12) = false := by simp; omega
  have g13 : (d == 13) = false := by simp; omega
  have g14 : (d == 14) = false := by simp; omega
  clear h
  go_enter Tryd.func24, Tryd.ntmps24
  go_wp2
  go_ret2
  exact ⟨rfl, rfl⟩
theorem rk_any (d a b : Int) (w : World) (h1 : -9223372036854775808 ≤ a) (h2 : a ≤ 9223372036854775807) : Calls Tryd.prog 24 #[.int .i8 d, .int .i64 a, .int .i64 b] w fun e w' => e = .returned (.tuple #[.int .i64 (rkV d a b), .int .i64 (rkE d b)]) ∧ w' = w := by
  by_cases h : d < 2 ∨ 14 < d
  · exact rkNone d a b w h
  · have hh : d = 2 ∨ d = 3 ∨ d = 4 ∨ d = 5 ∨ d = 6 ∨ d = 7 ∨ d = 8 ∨ d = 9 ∨ d = 10 ∨ d = 11 ∨ d = 12 ∨ d = 13 ∨ d = 14 := by omega
    rcases hh with rfl | rfl | rfl | rfl | rfl | rfl | rfl | rfl | rfl | rfl | rfl | rfl | rfl
    · exact rk2 a b w
    · exact rk3 a b w
    · exact rk4 a b w
    · exact rk5 a b w
    · exact rk6 a b w
    · exact rk7 a b w
    · exact rk8 a b w
    · exact rk9 a b w
    · exact rk10 a b w
    · exact rk11 a b w
    · exact rk12 a b w
    · exact rk13 a b w h1 h2
    · exact rk14 a b w h1 h2
end Go.Proofs.YtldfjlepbbmhnaaDoor.Op
