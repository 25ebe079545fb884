/- Plain mathematics: sets of numbers below 2^32, block by block: which keys there are, how many numbers are below a place. No Go in sight. -/
import Derived.Test.YtcmifbjeabkihabGreatDoorMa0
import Derived.Lib.TrailingZeros
/- Plain mathematics: sets as words, bit by bit; how many bits a word has; its lowest bit. No Go in sight. -/
namespace Go.Proofs.YtcmifbjeabkihabGreatDoor
set_option linter.unusedVariables false

/-- Whether the number x is in the words. -/
def wb (w : List UInt64) (x : Nat) : Bool := (w.getD (x / 64) 0).toNat.testBit (x % 64)
/-- The first k marks as a number. -/
def wn (p : Nat → Bool) : Nat → Nat
  | 0 => 0
  | k + 1 => wn p k + (p k).toNat * 2 ^ k
/-- Marks as 1024 words. -/
def wm (p : Nat → Bool) : List UInt64 := (List.range 1024).map fun i => UInt64.ofNat (wn (fun j => p (64 * i + j)) 64)
/-- How many marks are below n. -/
def ct (p : Nat → Bool) : Nat → Nat
  | 0 => 0
  | k + 1 => ct p k + (p k).toNat

theorem wn_lt (p : Nat → Bool) (c : Nat) : wn p c < 2 ^ c := by
  induction c with
  | zero => simp [wn]
  | succ k ih =>
    rw [wn, Nat.pow_succ]
    cases p k <;> simp <;> omega
theorem wn_bit (p : Nat → Bool) (c k : Nat) : (wn p c).testBit k = (decide (k < c) && p k) := by
  induction c with
  | zero => simp [wn]
  | succ m ih =>
    have hlt := wn_lt p m
    have e : wn p (m + 1) = 2 ^ m * (p m).toNat + wn p m := by rw [wn, Nat.mul_comm, Nat.add_comm]
    rw [e, Nat.testBit_two_pow_mul_add _ hlt]
    by_cases h : k < m
    · rw [if_pos h, ih]
      simp [h, Nat.lt_succ_of_lt h]
    · rw [if_neg h]
      by_cases h2 : k = m
      · subst h2
        cases p k <;> simp
      · have h3 : ¬ k < m + 1 := by omega
        have h4 : k - m ≠ 0 := by omega
        simp only [h3, decide_false, Bool.false_and]
        cases p m
        · simp
        · obtain ⟨d, hd⟩ := Nat.exists_eq_succ_of_ne_zero h4
          rw [hd]
          simp [Nat.testBit_succ]
theorem nat_ext {x y : Nat} (hx : x < 18446744073709551616) (hy : y < 18446744073709551616) (h : ∀ t, t < 64 → x.testBit t = y.testBit t) : x = y := by
  apply Nat.eq_of_testBit_eq
  intro t
  by_cases ht : t < 64
  · exact h t ht
  · have hp : 2 ^ 64 ≤ 2 ^ t := Nat.pow_le_pow_right (n := 2) (by omega) (by omega)
    rw [Nat.testBit_lt_two_pow (by omega), Nat.testBit_lt_two_pow (by omega)]
theorem u64_lt (x : UInt64) : x.toNat < 18446744073709551616 := x.toNat_lt
theorem u64_ext {x y : UInt64} (h : ∀ t, t < 64 → x.toNat.testBit t = y.toNat.testBit t) : x = y :=
  UInt64.toNat_inj.1 (nat_ext (u64_lt x) (u64_lt y) h)
theorem u64_of (n : Nat) (h : n < 18446744073709551616) : (UInt64.ofNat n).toNat = n := by simp; omega

theorem wm_length (p : Nat → Bool) : (wm p).length = 1024 := by simp [wm]
theorem wm_getD (p : Nat → Bool) (i : Nat) (hi : i < 1024) : (wm p).getD i 0 = UInt64.ofNat (wn (fun j => p (64 * i + j)) 64) := by
  simp [wm, List.getD_eq_getElem?_getD, List.getElem?_map, List.getElem?_range hi]
theorem wm_get (p : Nat → Bool) (i : Nat) (hi : i < 1024) : (wm p)[i]? = some (UInt64.ofNat (wn (fun j => p (64 * i + j)) 64)) := by
  simp [wm, List.getElem?_map, List.getElem?_range hi]
theorem wm_word (p : Nat → Bool) (i : Nat) (hi : i < 1024) : ((wm p).getD i 0).toNat = wn (fun j => p (64 * i + j)) 64 := by
  rw [wm_getD p i hi, u64_of _ (wn_lt _ 64)]
theorem wb_wm (p : Nat → Bool) (x : Nat) (hx : x < 65536) : wb (wm p) x = p x := by
  unfold wb
  rw [wm_word p _ (by omega), wn_bit]
  have h1 : x % 64 < 64 := by omega
  have h2 : 64 * (x / 64) + x % 64 = x := by omega
  simp [h1, h2]
theorem wb_at (w : List UInt64) (i j : Nat) (hj : j < 64) : (w.getD i 0).toNat.testBit j = wb w (64 * i + j) := by
  unfold wb
  have h1 : (64 * i + j) / 64 = i := by omega
  have h2 : (64 * i + j) % 64 = j := by omega
  rw [h1, h2]
theorem getD_get {l : List UInt64} {i : Nat} (h : i < l.length) : l.getD i 0 = l[i] := by simp [List.getD_eq_getElem?_getD, List.getElem?_eq_getElem h]
theorem wm_of {w : List UInt64} {p : Nat → Bool} (hl : w.length = 1024) (h : ∀ x, x < 65536 → wb w x = p x) : w = wm p := by
  apply List.ext_getElem (by rw [hl, wm_length])
  intro i h1 h2
  apply u64_ext
  intro t ht
  have hi : i < 1024 := by omega
  have e := h (64 * i + t) (by omega)
  rw [← wb_at w i t ht] at e
  rw [← getD_get h1, ← getD_get h2, e, wm_word p i hi, wn_bit]
  simp [ht]
theorem wm_ext {p q : Nat → Bool} (h : ∀ x, x < 65536 → p x = q x) : wm p = wm q :=
  wm_of (wm_length p) fun x hx => (wb_wm p x hx).trans (h x hx)
theorem wb_set (w : List UInt64) (i : Nat) (y : UInt64) (hi : i < w.length) (x : Nat) : wb (w.set i y) x = if x / 64 = i then y.toNat.testBit (x % 64) else wb w x := by
  unfold wb
  rw [List.getD_eq_getElem?_getD, List.getElem?_set]
  by_cases h : x / 64 = i
  · subst h
    simp [hi]
  · rw [if_neg h, if_neg (fun e => h e.symm), List.getD_eq_getElem?_getD]
theorem wm_none : List.replicate 1024 (0 : UInt64) = wm fun _ => false := by
  refine wm_of List.length_replicate fun x hx => ?_
  unfold wb
  have : (List.replicate 1024 (0 : UInt64)).getD (x / 64) 0 = 0 := by
    rw [List.getD_eq_getElem?_getD, List.getElem?_replicate]
    split <;> simp
  rw [this]
  simp

/- Counting. -/
theorem ct_ext {p q : Nat → Bool} {n : Nat} (h : ∀ j, j < n → p j = q j) : ct p n = ct q n := by
  induction n with
  | zero => rfl
  | succ n ih => rw [ct, ct, ih (fun j hj => h j (by omega)), h n (by omega)]
theorem ct_add (p : Nat → Bool) (a b : Nat) : ct p (a + b) = ct p a + ct (fun j => p (a + j)) b := by
  induction b with
  | zero => simp [ct]
  | succ b ih => rw [← Nat.add_assoc, ct, ih, ct]; omega
theorem ct_le (p : Nat → Bool) (n : Nat) : ct p n ≤ n := by
  induction n with
  | zero => simp [ct]
  | succ n ih => rw [ct]; cases p n <;> simp <;> omega
theorem ct_mono (p : Nat → Bool) {a b : Nat} (h : a ≤ b) : ct p a ≤ ct p b := by
  obtain ⟨d, rfl⟩ := Nat.le.dest h
  rw [ct_add]; omega
theorem ct_zero {p : Nat → Bool} {n : Nat} (h : ∀ j, j < n → p j = false) : ct p n = 0 := by
  induction n with
  | zero => rfl
  | succ n ih => rw [ct, ih (fun j hj => h j (by omega)), h n (by omega)]; rfl
theorem ct_all {p : Nat → Bool} {n : Nat} (h : ∀ j, j < n → p j = true) : ct p n = n := by
  induction n with
  | zero => rfl
  | succ n ih => rw [ct, ih (fun j hj => h j (by omega)), h n (by omega)]; rfl
theorem ct_not (p : Nat → Bool) (n : Nat) : ct (fun j => !p j) n = n - ct p n := by
  have : ct (fun j => !p j) n + ct p n = n := by
    induction n with
    | zero => rfl
    | succ n ih => rw [ct, ct]; cases p n <;> simp <;> omega
  omega
theorem ct_min (p : Nat → Bool) (n m : Nat) : ct (fun j => p j && decide (j < m)) n = ct p (min n m) := by
  induction n with
  | zero => simp [ct]
  | succ n ih =>
    rw [ct, ih]
    by_cases h : n < m
    · have e1 : min n m = n := by omega
      have e2 : min (n + 1) m = n + 1 := by omega
      rw [e1, e2, ct]
      simp [h]
    · have e1 : min n m = m := by omega
      have e2 : min (n + 1) m = m := by omega
      rw [e1, e2]
      simp [h]
theorem ls_ct (p : Nat → Bool) (n : Nat) : (ls p n).length = ct p n := by
  induction n with
  | zero => rfl
  | succ n ih =>
    rw [ls, List.length_append, ih, ct]
    cases p n <;> simp
theorem ls_ext {p q : Nat → Bool} {n : Nat} (h : ∀ j, j < n → p j = q j) : ls p n = ls q n := by
  induction n with
  | zero => rfl
  | succ n ih => rw [ls, ls, ih (fun j hj => h j (by omega)), h n (by omega)]
theorem ls_skip (p : Nat → Bool) {a b : Nat} (hab : a ≤ b) (h : ∀ j, a ≤ j → j < b → p j = false) : ls p b = ls p a := by
  obtain ⟨d, rfl⟩ := Nat.le.dest hab
  clear hab
  induction d with
  | zero => rfl
  | succ d ih =>
    rw [← Nat.add_assoc, ls, ih (fun j h1 h2 => h j h1 (by omega)), h (a + d) (by omega) (by omega)]
    simp
theorem ls_next (p : Nat → Bool) {a b : Nat} (hab : a ≤ b) (h : ∀ j, a ≤ j → j < b → p j = false) (hb : p b = true) : ls p (b + 1) = ls p a ++ [UInt16.ofNat b] := by
  rw [ls, ls_skip p hab h, hb]
  simp
theorem ls_pre (p : Nat → Bool) {a b : Nat} (hab : a ≤ b) : ∃ r, ls p b = ls p a ++ r := by
  obtain ⟨d, rfl⟩ := Nat.le.dest hab
  clear hab
  induction d with
  | zero => exact ⟨[], by simp⟩
  | succ d ih =>
    obtain ⟨r, hr⟩ := ih
    rw [← Nat.add_assoc, ls, hr]
    exact ⟨_, List.append_assoc _ _ _⟩
/-- The number of which k are below it. -/
theorem ls_at (p : Nat → Bool) {b n : Nat} (hb : b < n) (h : p b = true) : (ls p n)[ct p b]? = some (UInt16.ofNat b) := by
  obtain ⟨r, hr⟩ := ls_pre p (a := b + 1) (b := n) (by omega)
  rw [hr, ls, h, ← ls_ct p b]
  simp
theorem hm_ext {p q : Nat → Bool} {n : Nat} (h : ∀ j, j < n → p j = q j) : ∀ j, j < n → hm p j = hm q j := by
  intro j hj
  unfold hm
  rw [h j hj]
  by_cases h0 : j = 0
  · simp [h0]
  · rw [h (j - 1) (by omega)]

/- The lowest bit. -/
theorem low_bits {n : Nat} (h0 : n ≠ 0) (h : n < 18446744073709551616) : Lib.ctz 64 n < 64 ∧ n.testBit (Lib.ctz 64 n) = true ∧ (∀ j, j < Lib.ctz 64 n → n.testBit j = false) ∧
    ∀ j, (n &&& (n - 1)).testBit j = (n.testBit j && decide (Lib.ctz 64 n < j)) := by
  obtain ⟨m, hm, hk⟩ := Lib.ctzFrom_spec 64 n (by omega) h
  have e : Lib.ctz 64 n = Lib.ctzFrom 64 n := by simp [Lib.ctz, h0]
  rw [e]
  revert hm
  generalize Lib.ctzFrom 64 n = k at *
  intro hm
  have hbit : ∀ j, n.testBit j = (decide (k ≤ j) && (2 * m + 1).testBit (j - k)) := by
    intro j
    rw [hm, Nat.mul_comm, Nat.testBit_mul_two_pow]
  have hpred : n - 1 = 2 ^ k * (2 * m) + (2 ^ k - 1) := by
    rw [hm]
    have h2 := Nat.two_pow_pos k
    have : 2 ^ k * (2 * m + 1) = 2 ^ k * (2 * m) + 2 ^ k := by rw [Nat.mul_add, Nat.mul_one]
    omega
  refine ⟨hk, ?_, ?_, ?_⟩
  · rw [hbit]; simp
  · intro j hj
    rw [hbit]
    have : ¬ k ≤ j := by omega
    simp [this]
  · intro j
    have h2 := Nat.two_pow_pos k
    rw [Nat.testBit_and, hpred, Nat.testBit_two_pow_mul_add _ (by omega), hbit]
    rcases Nat.lt_trichotomy j k with h3 | h3 | h3
    · have : ¬ k ≤ j := by omega
      simp [this]
    · subst h3
      simp
    · obtain ⟨d, rfl⟩ : ∃ d, j = k + (d + 1) := ⟨j - k - 1, by omega⟩
      have a1 : k ≤ k + (d + 1) := by omega
      have a2 : ¬ k + (d + 1) < k := by omega
      have a3 : k + (d + 1) - k = d + 1 := by omega
      have a4 : k < k + (d + 1) := by omega
      have a5 : (2 * m + 1) / 2 = m := by omega
      have a6 : 2 * m / 2 = m := by omega
      simp only [a1, a2, a3, a4, decide_true, Bool.true_and, Bool.and_true, if_false, Nat.testBit_succ, a5, a6, Bool.and_self]
theorem no_bits {n : Nat} (h : ∀ j, j < 64 → n.testBit j = false) (hn : n < 18446744073709551616) : n = 0 :=
  nat_ext hn (by omega) (fun t ht => by rw [h t ht]; simp)

/- How many bits: the sum by halves, byte by byte. -/
theorem and_bytes (u v c d : Nat) (hu : u < 256) (hc : c < 256) : (u + 256 * v) &&& (c + 256 * d) = (u &&& c) + 256 * (v &&& d) := by
  have key : ∀ a b : Nat, a < 256 → ∀ t, (a + 256 * b).testBit t = if t < 8 then a.testBit t else b.testBit (t - 8) := by
    intro a b ha t
    have e : a + 256 * b = 2 ^ 8 * b + a := by omega
    rw [e, Nat.testBit_two_pow_mul_add _ (by omega)]
  have h3 : u &&& c < 256 := Nat.lt_of_le_of_lt Nat.and_le_left hu
  apply Nat.eq_of_testBit_eq
  intro t
  rw [Nat.testBit_and, key _ _ hu, key _ _ hc, key _ _ h3]
  split <;> rw [Nat.testBit_and]
def q1 (b : Nat) : Nat := (b / 2 &&& 85) + (b &&& 85)
def q2 (b : Nat) : Nat := (b / 4 &&& 51) + (b &&& 51)
def q3 (b : Nat) : Nat := b / 16 + b % 16
theorem q1_low : ∀ (a : Fin 256) (e : Fin 2), (a.val / 2 + 128 * e.val &&& 85) = (a.val / 2 &&& 85) := by decide +kernel
theorem q2_low : ∀ (a : Fin 256) (e : Fin 4), (a.val / 4 + 64 * e.val &&& 51) = (a.val / 4 &&& 51) := by decide +kernel
theorem q1_lt : ∀ a : Fin 256, q1 a.val < 256 := by decide +kernel
theorem q2_lt : ∀ a : Fin 256, q2 (q1 a.val) / 16 ≤ 4 ∧ q2 (q1 a.val) % 16 ≤ 4 := by decide +kernel
theorem q3_ct : ∀ a : Fin 256, q3 (q2 (q1 a.val)) = ct a.val.testBit 8 := by decide +kernel
theorem q1_step (a y c : Nat) (ha : a < 256) : ((a + 256 * y) / 2 &&& (85 + 256 * c)) + (a + 256 * y &&& (85 + 256 * c)) = q1 a + 256 * ((y / 2 &&& c) + (y &&& c)) := by
  have e : (a + 256 * y) / 2 = (a / 2 + 128 * (y % 2)) + 256 * (y / 2) := by omega
  have l := q1_low ⟨a, ha⟩ ⟨y % 2, by omega⟩
  simp only at l
  rw [e, and_bytes _ _ _ _ (by omega) (by omega), and_bytes _ _ _ _ ha (by omega), l]
  unfold q1
  omega
theorem q2_step (a y c : Nat) (ha : a < 256) : ((a + 256 * y) / 4 &&& (51 + 256 * c)) + (a + 256 * y &&& (51 + 256 * c)) = q2 a + 256 * ((y / 4 &&& c) + (y &&& c)) := by
  have e : (a + 256 * y) / 4 = (a / 4 + 64 * (y % 4)) + 256 * (y / 4) := by omega
  have l := q2_low ⟨a, ha⟩ ⟨y % 4, by omega⟩
  simp only at l
  rw [e, and_bytes _ _ _ _ (by omega) (by omega), and_bytes _ _ _ _ ha (by omega), l]
  unfold q2
  omega
theorem q1_zero (c : Nat) : (0 / 2 &&& c) + (0 &&& c) = 0 := by simp
theorem q2_zero (c : Nat) : (0 / 4 &&& c) + (0 &&& c) = 0 := by simp
/-- Eight bytes. -/
def by8 (a b c d e f g h : Nat) : Nat := a + 256 * (b + 256 * (c + 256 * (d + 256 * (e + 256 * (f + 256 * (g + 256 * (h + 256 * 0)))))))
theorem q1_all (a b c d e f g h : Nat) (h1 : a < 256) (h2 : b < 256) (h3 : c < 256) (h4 : d < 256) (h5 : e < 256) (h6 : f < 256) (h7 : g < 256) (h8 : h < 256) :
    (by8 a b c d e f g h / 2 &&& 6148914691236517205) + (by8 a b c d e f g h &&& 6148914691236517205) = by8 (q1 a) (q1 b) (q1 c) (q1 d) (q1 e) (q1 f) (q1 g) (q1 h) := by
  have m : 6148914691236517205 = by8 85 85 85 85 85 85 85 85 := by decide +kernel
  rw [m]
  unfold by8
  rw [q1_step _ _ _ h1, q1_step _ _ _ h2, q1_step _ _ _ h3, q1_step _ _ _ h4, q1_step _ _ _ h5, q1_step _ _ _ h6, q1_step _ _ _ h7, q1_step _ _ _ h8, q1_zero]
theorem q2_all (a b c d e f g h : Nat) (h1 : a < 256) (h2 : b < 256) (h3 : c < 256) (h4 : d < 256) (h5 : e < 256) (h6 : f < 256) (h7 : g < 256) (h8 : h < 256) :
    (by8 a b c d e f g h / 4 &&& 3689348814741910323) + (by8 a b c d e f g h &&& 3689348814741910323) = by8 (q2 a) (q2 b) (q2 c) (q2 d) (q2 e) (q2 f) (q2 g) (q2 h) := by
  have m : 3689348814741910323 = by8 51 51 51 51 51 51 51 51 := by decide +kernel
  rw [m]
  unfold by8
  rw [q2_step _ _ _ h1, q2_step _ _ _ h2, q2_step _ _ _ h3, q2_step _ _ _ h4, q2_step _ _ _ h5, q2_step _ _ _ h6, q2_step _ _ _ h7, q2_step _ _ _ h8, q2_zero]
theorem and15 (n : Nat) : n &&& 15 = n % 16 := Nat.and_two_pow_sub_one_eq_mod n 4
theorem q3_step (a y c t : Nat) (ha : a / 16 ≤ 4 ∧ a % 16 ≤ 4) (hy : t = y % 16) (ht : t ≤ 4) : ((a + 256 * y) / 16 + (a + 256 * y)) &&& (15 + 256 * c) = q3 a + 256 * ((y / 16 + y) &&& c) := by
  have e : (a + 256 * y) / 16 + (a + 256 * y) = (a / 16 + a + 16 * (y % 16)) + 256 * (y / 16 + y) := by omega
  rw [e, and_bytes _ _ _ _ (by omega) (by omega), and15]
  unfold q3
  omega
theorem q3_all (a b c d e f g h : Nat) (h1 : a / 16 ≤ 4 ∧ a % 16 ≤ 4) (h2 : b / 16 ≤ 4 ∧ b % 16 ≤ 4) (h3 : c / 16 ≤ 4 ∧ c % 16 ≤ 4) (h4 : d / 16 ≤ 4 ∧ d % 16 ≤ 4) (h5 : e / 16 ≤ 4 ∧ e % 16 ≤ 4) (h6 : f / 16 ≤ 4 ∧ f % 16 ≤ 4) (h7 : g / 16 ≤ 4 ∧ g % 16 ≤ 4) (h8 : h / 16 ≤ 4 ∧ h % 16 ≤ 4) :
    (by8 a b c d e f g h / 16 + by8 a b c d e f g h) &&& 1085102592571150095 = by8 (q3 a) (q3 b) (q3 c) (q3 d) (q3 e) (q3 f) (q3 g) (q3 h) := by
  have m : 1085102592571150095 = by8 15 15 15 15 15 15 15 15 := by decide +kernel
  have r : ∀ (u v : Nat), (u + 256 * v) % 16 = u % 16 := by intro u v; omega
  rw [m]
  unfold by8
  rw [q3_step a _ _ _ h1 (r _ _).symm h2.2, q3_step b _ _ _ h2 (r _ _).symm h3.2, q3_step c _ _ _ h3 (r _ _).symm h4.2, q3_step d _ _ _ h4 (r _ _).symm h5.2, q3_step e _ _ _ h5 (r _ _).symm h6.2, q3_step f _ _ _ h6 (r _ _).symm h7.2, q3_step g _ _ _ h7 (r _ _).symm h8.2, q3_step h _ _ 0 h8 (by simp) (by omega)]
  simp
theorem by8_add (a b c d e f g h a' b' c' d' e' f' g' h' : Nat) : by8 a b c d e f g h + by8 a' b' c' d' e' f' g' h' = by8 (a + a') (b + b') (c + c') (d + d') (e + e') (f + f') (g + g') (h + h') := by
  unfold by8
  omega
theorem by8_div (a b c d e f g h : Nat) (h1 : a < 256) : by8 a b c d e f g h / 256 = by8 b c d e f g h 0 := by
  have e1 : by8 a b c d e f g h = a + 256 * by8 b c d e f g h 0 := by simp only [by8, Nat.mul_zero, Nat.add_zero]
  omega
theorem by8_mod (a b c d e f g h : Nat) (h1 : a < 128) : by8 a b c d e f g h % 128 = a := by
  have e1 : by8 a b c d e f g h = a + 256 * by8 b c d e f g h 0 := by simp only [by8, Nat.mul_zero, Nat.add_zero]
  omega
theorem by8_lt (a b c d e f g h : Nat) (h1 : a < 256) (h2 : b < 256) (h3 : c < 256) (h4 : d < 256) (h5 : e < 256) (h6 : f < 256) (h7 : g < 256) (h8 : h < 256) : by8 a b c d e f g h < 18446744073709551616 := by
  have s : ∀ x y K : Nat, x < 256 → y < K → x + 256 * y < 256 * K := by omega
  exact Nat.lt_of_lt_of_eq (s _ _ _ h1 (s _ _ _ h2 (s _ _ _ h3 (s _ _ _ h4 (s _ _ _ h5 (s _ _ _ h6 (s _ _ _ h7 (s _ _ _ h8 (Nat.zero_lt_one))))))))) (by decide +kernel)
theorem div2 (n : Nat) : n / 65536 = n / 256 / 256 := by omega
theorem div4 (n : Nat) : n / 4294967296 = n / 256 / 256 / 256 / 256 := by omega
theorem sum_all (a b c d e f g h : Nat) (h1 : a ≤ 8) (h2 : b ≤ 8) (h3 : c ≤ 8) (h4 : d ≤ 8) (h5 : e ≤ 8) (h6 : f ≤ 8) (h7 : g ≤ 8) (h8 : h ≤ 8) (s t u : Nat)
    (hs : s = by8 a b c d e f g h + by8 a b c d e f g h / 256) (ht : t = s + s / 65536) (hu : u = t + t / 4294967296) : u % 128 = a + b + c + d + e + f + g + h ∧ s < 18446744073709551616 ∧ t < 18446744073709551616 ∧ u < 18446744073709551616 := by
  rw [by8_div _ _ _ _ _ _ _ _ (by omega), by8_add] at hs
  rw [hs, div2, by8_div _ _ _ _ _ _ _ _ (by omega), by8_div _ _ _ _ _ _ _ _ (by omega), by8_add] at ht
  rw [ht, div4, by8_div _ _ _ _ _ _ _ _ (by omega), by8_div _ _ _ _ _ _ _ _ (by omega), by8_div _ _ _ _ _ _ _ _ (by omega), by8_div _ _ _ _ _ _ _ _ (by omega), by8_add] at hu
  refine ⟨?_, ?_, ?_, ?_⟩
  · rw [hu, by8_mod _ _ _ _ _ _ _ _ (by omega)]
    omega
  · rw [hs]
    exact by8_lt _ _ _ _ _ _ _ _ (by omega) (by omega) (by omega) (by omega) (by omega) (by omega) (by omega) (by omega)
  · rw [ht]
    exact by8_lt _ _ _ _ _ _ _ _ (by omega) (by omega) (by omega) (by omega) (by omega) (by omega) (by omega) (by omega)
  · rw [hu]
    exact by8_lt _ _ _ _ _ _ _ _ (by omega) (by omega) (by omega) (by omega) (by omega) (by omega) (by omega) (by omega)
/-- The bytes of a number. -/
theorem by8_of (x : Nat) (h : x < 18446744073709551616) : x = by8 (x % 256) (x / 256 % 256) (x / 65536 % 256) (x / 16777216 % 256) (x / 4294967296 % 256) (x / 1099511627776 % 256) (x / 281474976710656 % 256) (x / 72057594037927936) := by
  unfold by8
  omega
theorem ct_byte (x k : Nat) : ct (x / 2 ^ k % 256).testBit 8 = ct (fun j => x.testBit (k + j)) 8 := by
  refine ct_ext fun j hj => ?_
  have : (256 : Nat) = 2 ^ 8 := rfl
  rw [this, Nat.testBit_mod_two_pow, Nat.testBit_div_two_pow, Nat.add_comm]
  simp [hj]
theorem ct_bytes (x : Nat) : ct x.testBit 64 = ct (x % 256).testBit 8 + ct (x / 256 % 256).testBit 8 + ct (x / 65536 % 256).testBit 8 + ct (x / 16777216 % 256).testBit 8 + ct (x / 4294967296 % 256).testBit 8 + ct (x / 1099511627776 % 256).testBit 8 + ct (x / 281474976710656 % 256).testBit 8 + ct (x / 72057594037927936 % 256).testBit 8 := by
  have b0 : ct (x % 256).testBit 8 = ct x.testBit 8 := ct_ext fun j hj => by
    have : (256 : Nat) = 2 ^ 8 := rfl
    rw [this, Nat.testBit_mod_two_pow]
    simp [hj]
  have b1 := ct_byte x 8
  have b2 := ct_byte x 16
  have b3 := ct_byte x 24
  have b4 := ct_byte x 32
  have b5 := ct_byte x 40
  have b6 := ct_byte x 48
  have b7 := ct_byte x 56
  have s1 := ct_add x.testBit 56 8
  have s2 := ct_add x.testBit 48 8
  have s3 := ct_add x.testBit 40 8
  have s4 := ct_add x.testBit 32 8
  have s5 := ct_add x.testBit 24 8
  have s6 := ct_add x.testBit 16 8
  have s7 := ct_add x.testBit 8 8
  simp only [Nat.reduceAdd, Nat.reducePow] at *
  omega
/-- The sum by halves is how many bits there are. -/
theorem pop_all (x s1 s2 s3 s4 s5 s6 : Nat) (h : x < 18446744073709551616) (e1 : s1 = (x / 2 &&& 6148914691236517205) + (x &&& 6148914691236517205)) (e2 : s2 = (s1 / 4 &&& 3689348814741910323) + (s1 &&& 3689348814741910323))
    (e3 : s3 = (s2 / 16 + s2) &&& 1085102592571150095) (e4 : s4 = s3 + s3 / 256) (e5 : s5 = s4 + s4 / 65536) (e6 : s6 = s5 + s5 / 4294967296) :
    s6 % 128 = ct x.testBit 64 ∧ s1 < 18446744073709551616 ∧ s2 / 16 + s2 < 18446744073709551616 ∧ s4 < 18446744073709551616 ∧ s5 < 18446744073709551616 ∧ s6 < 18446744073709551616 := by
  have key : ∀ a : Nat, a < 256 → q1 a < 256 ∧ (q2 (q1 a) / 16 ≤ 4 ∧ q2 (q1 a) % 16 ≤ 4) ∧ q3 (q2 (q1 a)) = ct a.testBit 8 ∧ ct a.testBit 8 ≤ 8 := by
    intro a ha
    have k1 := q1_lt ⟨a, ha⟩
    exact ⟨k1, q2_lt ⟨a, ha⟩, q3_ct ⟨a, ha⟩, ct_le _ 8⟩
  have hc := ct_bytes x
  have e0 := by8_of x h
  have k1 := key (x % 256) (by omega)
  have hm1 : x % 256 < 256 := by omega
  have hm2 : x / 256 % 256 < 256 := by omega
  have hm3 : x / 65536 % 256 < 256 := by omega
  have hm4 : x / 16777216 % 256 < 256 := by omega
  have hm5 : x / 4294967296 % 256 < 256 := by omega
  have hm6 : x / 1099511627776 % 256 < 256 := by omega
  have hm7 : x / 281474976710656 % 256 < 256 := by omega
  have hm8 : x / 72057594037927936 < 256 := by omega
  have k2 := key (x / 256 % 256) (by omega)
  have k3 := key (x / 65536 % 256) (by omega)
  have k4 := key (x / 16777216 % 256) (by omega)
  have k5 := key (x / 4294967296 % 256) (by omega)
  have k6 := key (x / 1099511627776 % 256) (by omega)
  have k7 := key (x / 281474976710656 % 256) (by omega)
  have k8 := key (x / 72057594037927936) (by omega)
  have h8 : x / 72057594037927936 % 256 = x / 72057594037927936 := by omega
  rw [h8] at hc
  generalize x % 256 = a at *
  generalize x / 256 % 256 = b at *
  generalize x / 65536 % 256 = c at *
  generalize x / 16777216 % 256 = d at *
  generalize x / 4294967296 % 256 = e at *
  generalize x / 1099511627776 % 256 = f at *
  generalize x / 281474976710656 % 256 = g at *
  generalize x / 72057594037927936 = i at *
  rw [e0, q1_all a b c d e f g i hm1 hm2 hm3 hm4 hm5 hm6 hm7 hm8] at e1
  have l1 : s1 < 18446744073709551616 := by rw [e1]; exact by8_lt _ _ _ _ _ _ _ _ k1.1 k2.1 k3.1 k4.1 k5.1 k6.1 k7.1 k8.1
  rw [e1, q2_all _ _ _ _ _ _ _ _ k1.1 k2.1 k3.1 k4.1 k5.1 k6.1 k7.1 k8.1] at e2
  have l2 : s2 / 16 + s2 < 18446744073709551616 := by
    have m : s2 ≤ by8 68 68 68 68 68 68 68 68 := by
      rw [e2]
      unfold by8
      omega
    have m2 : by8 68 68 68 68 68 68 68 68 < 4919131752989213765 := by decide +kernel
    omega
  rw [e2, q3_all _ _ _ _ _ _ _ _ k1.2.1 k2.2.1 k3.2.1 k4.2.1 k5.2.1 k6.2.1 k7.2.1 k8.2.1, k1.2.2.1, k2.2.2.1, k3.2.2.1, k4.2.2.1, k5.2.2.1, k6.2.2.1, k7.2.2.1, k8.2.2.1] at e3
  rw [e3] at e4
  obtain ⟨r1, r2, r3, r4⟩ := sum_all _ _ _ _ _ _ _ _ k1.2.2.2 k2.2.2.2 k3.2.2.2 k4.2.2.2 k5.2.2.2 k6.2.2.2 k7.2.2.2 k8.2.2.2 s4 s5 s6 e4 e5 e6
  exact ⟨by omega, l1, l2, r2, r3, r4⟩
end Go.Proofs.YtcmifbjeabkihabGreatDoor
/- Plain mathematics: runs of numbers, right ones, their marks, the runs of marks. No Go in sight. -/
namespace Go.Proofs.YtcmifbjeabkihabGreatDoor
set_option linter.unusedVariables false

/-- A run: its first number, and how many more. -/
abbrev Rn := UInt16 × UInt16
def lst (r : Rn) : Nat := r.1.toNat + r.2.toNat
def inr (r : Rn) (x : Nat) : Bool := decide (r.1.toNat ≤ x) && decide (x ≤ lst r)
/-- The marks of runs. -/
def mr (l : List Rn) (x : Nat) : Bool := l.any fun r => inr r x
/-- Right runs, the first one from n on. -/
def mayr : Nat → List Rn → Bool
  | _, [] => true
  | n, r :: l => decide (n ≤ r.1.toNat) && (decide (lst r ≤ 65535) && mayr (lst r + 2) l)
theorem inr_iff (r : Rn) (x : Nat) : inr r x = true ↔ r.1.toNat ≤ x ∧ x ≤ lst r := by simp [inr]
theorem mr_cons (r : Rn) (l : List Rn) (x : Nat) : mr (r :: l) x = (inr r x || mr l x) := by simp [mr]
theorem mr_app (l m : List Rn) (x : Nat) : mr (l ++ m) x = (mr l x || mr m x) := by simp [mr]
theorem mr_nil (x : Nat) : mr [] x = false := rfl
theorem mayr_cons {n : Nat} {r : Rn} {l : List Rn} : mayr n (r :: l) = true ↔ n ≤ r.1.toNat ∧ lst r ≤ 65535 ∧ mayr (lst r + 2) l = true := by simp [mayr]
theorem fst_le (r : Rn) : r.1.toNat ≤ lst r := Nat.le_add_right _ _
theorem mayr_mono {n m : Nat} {l : List Rn} (h : n ≤ m) (hm : mayr m l = true) : mayr n l = true := by
  cases l with
  | nil => rfl
  | cons r l =>
    rw [mayr_cons] at hm ⊢
    exact ⟨by omega, hm.2⟩
theorem mr_ge {n : Nat} {l : List Rn} (h : mayr n l = true) {x : Nat} (hx : mr l x = true) : n ≤ x ∧ x ≤ 65535 := by
  induction l generalizing n with
  | nil => rw [mr_nil] at hx; cases hx
  | cons r l ih =>
    obtain ⟨h1, h2, h3⟩ := mayr_cons.1 h
    rw [mr_cons, Bool.or_eq_true, inr_iff] at hx
    rcases hx with ⟨a, b⟩ | hx
    · omega
    · have := ih h3 hx
      have := fst_le r
      omega
/-- One set has one row of right runs. -/
theorem mr_inj {n m : Nat} {a b : List Rn} (ha : mayr n a = true) (hb : mayr m b = true) (h : ∀ x, mr a x = mr b x) : a = b := by
  induction a generalizing n m b with
  | nil =>
    cases b with
    | nil => rfl
    | cons s b =>
      have := h s.1.toNat
      rw [mr_nil, mr_cons, (inr_iff _ _).2 ⟨Nat.le_refl _, fst_le s⟩] at this
      cases this
  | cons r a ih =>
    cases b with
    | nil =>
      have := h r.1.toNat
      rw [mr_nil, mr_cons, (inr_iff _ _).2 ⟨Nat.le_refl _, fst_le r⟩] at this
      cases this
    | cons s b =>
      obtain ⟨a1, a2, a3⟩ := mayr_cons.1 ha
      obtain ⟨b1, b2, b3⟩ := mayr_cons.1 hb
      have ra : mayr r.1.toNat (r :: a) = true := mayr_cons.2 ⟨Nat.le_refl _, a2, a3⟩
      have rb : mayr s.1.toNat (s :: b) = true := mayr_cons.2 ⟨Nat.le_refl _, b2, b3⟩
      have e1 : r.1.toNat = s.1.toNat := by
        have x1 := (mr_ge rb (x := r.1.toNat) (by rw [← h, mr_cons, (inr_iff _ _).2 ⟨Nat.le_refl _, fst_le r⟩]; rfl)).1
        have x2 := (mr_ge ra (x := s.1.toNat) (by rw [h, mr_cons, (inr_iff _ _).2 ⟨Nat.le_refl _, fst_le s⟩]; rfl)).1
        omega
      have f1 := fst_le r
      have f2 := fst_le s
      have e2 : lst r = lst s := by
        rcases Nat.lt_trichotomy (lst r) (lst s) with hlt | heq | hlt
        · have hx := h (lst r + 1)
          rw [mr_cons, mr_cons, (inr_iff s _).2 ⟨by omega, by omega⟩, Bool.true_or] at hx
          have h0 : inr r (lst r + 1) = false := by rw [Bool.eq_false_iff]; intro hh; have := ((inr_iff _ _).1 hh).2; omega
          rw [h0, Bool.false_or] at hx
          have := (mr_ge a3 hx).1
          omega
        · exact heq
        · have hx := h (lst s + 1)
          rw [mr_cons, mr_cons, (inr_iff r _).2 ⟨by omega, by omega⟩, Bool.true_or] at hx
          have h0 : inr s (lst s + 1) = false := by rw [Bool.eq_false_iff]; intro hh; have := ((inr_iff _ _).1 hh).2; omega
          rw [h0, Bool.false_or] at hx
          have := (mr_ge b3 hx.symm).1
          omega
      have er : r = s := by
        refine Prod.ext (u16_eq e1) (u16_eq ?_)
        unfold lst at e2
        omega
      subst er
      rw [ih a3 b3 fun x => ?_]
      have hx := h x
      rw [mr_cons, mr_cons] at hx
      cases hr : inr r x with
      | false => rw [hr, Bool.false_or, Bool.false_or] at hx; exact hx
      | true =>
        have h1 := ((inr_iff _ _).1 hr).2
        have h2 : mr a x = false := by rw [Bool.eq_false_iff]; intro hh; have := (mr_ge a3 hh).1; omega
        have h3 : mr b x = false := by rw [Bool.eq_false_iff]; intro hh; have := (mr_ge b3 hh).1; omega
        rw [h2, h3]
theorem mayr_snoc {n : Nat} {l : List Rn} {r : Rn} : mayr n (l ++ [r]) = true ↔ mayr n l = true ∧ (∀ s ∈ l, lst s + 2 ≤ r.1.toNat) ∧ n ≤ r.1.toNat ∧ lst r ≤ 65535 := by
  induction l generalizing n with
  | nil => simp [mayr]
  | cons s l ih =>
    rw [List.cons_append, mayr_cons, mayr_cons, ih]
    have := fst_le s
    constructor
    · rintro ⟨h1, h2, h3, h4, h5, h6⟩
      refine ⟨⟨h1, h2, h3⟩, ?_, by omega, h6⟩
      intro t ht
      rcases List.mem_cons.1 ht with rfl | ht
      · exact h5
      · exact h4 t ht
    · rintro ⟨⟨h1, h2, h3⟩, h4, h5, h6⟩
      exact ⟨h1, h2, h3, fun t ht => h4 t (List.mem_cons_of_mem _ ht), h4 s List.mem_cons_self, h6⟩
theorem mr_last {l : List Rn} {s : Rn} (h : s ∈ l) : mr l (lst s) = true := by
  unfold mr
  rw [List.any_eq_true]
  exact ⟨s, h, (inr_iff _ _).2 ⟨fst_le s, Nat.le_refl _⟩⟩

/-- The last run is one longer. -/
def bump : List Rn → List Rn
  | [] => []
  | [r] => [(r.1, r.2 + 1)]
  | r :: s :: l => r :: bump (s :: l)
theorem bump_snoc (l : List Rn) (r : Rn) : bump (l ++ [r]) = l ++ [(r.1, r.2 + 1)] := by
  induction l with
  | nil => rfl
  | cons s l ih =>
    cases l with
    | nil => rfl
    | cons t l => rw [List.cons_append, List.cons_append, bump, ← List.cons_append, ih]; rfl
/-- The runs of the marks below n. -/
def rs (p : Nat → Bool) : Nat → List Rn
  | 0 => []
  | n + 1 => if p n = true then (if (decide (0 < n) && p (n - 1)) = true then bump (rs p n) else rs p n ++ [(UInt16.ofNat n, 0)]) else rs p n
theorem rs_inv (p : Nat → Bool) (n : Nat) (hn : n ≤ 65536) : mayr 0 (rs p n) = true ∧ (∀ x, mr (rs p n) x = (decide (x < n) && p x)) ∧ ((decide (0 < n) && p (n - 1)) = true → ∃ l r, rs p n = l ++ [r] ∧ lst r = n - 1) ∧
    (rs p n).length = ct (hm p) n := by
  induction n with
  | zero => exact ⟨rfl, fun x => by simp [rs, mr_nil], fun h => by simp at h, rfl⟩
  | succ n ih =>
    obtain ⟨i1, i2, i3, i4⟩ := ih (by omega)
    cases hp : p n with
    | false =>
      have e : rs p (n + 1) = rs p n := by rw [rs, hp]; simp
      have hh : hm p n = false := by unfold hm; rw [hp]; rfl
      rw [e]
      refine ⟨i1, fun x => ?_, fun h => ?_, by rw [ct, hh, i4]; rfl⟩
      · rw [i2]
        by_cases hx : x = n
        · subst hx; rw [hp]; simp
        · congr 1
          exact decide_eq_decide.2 (by omega)
      · rw [Nat.add_sub_cancel, hp, Bool.and_false] at h; cases h
    | true =>
      cases hq : (decide (0 < n) && p (n - 1)) with
      | true =>
        have e : rs p (n + 1) = bump (rs p n) := by rw [rs, hp, hq]; simp
        obtain ⟨l, r, e1, e2⟩ := i3 hq
        have h0 : 0 < n := by
          rw [Bool.and_eq_true, decide_eq_true_eq] at hq
          exact hq.1
        have hm0 : hm p n = false := by
          unfold hm
          rw [Bool.and_eq_true, decide_eq_true_eq] at hq
          rw [hq.2, hp, decide_eq_false (by omega)]
          rfl
        have h2 : (r.2 + 1).toNat = r.2.toNat + 1 := by
          have hle : r.2.toNat ≤ lst r := Nat.le_add_left _ _
          rw [UInt16.toNat_add]
          have : (1 : UInt16).toNat = 1 := rfl
          rw [this]
          omega
        have hl : lst (r.1, r.2 + 1) = n := by
          unfold lst at e2 ⊢
          simp only
          rw [h2]
          omega
        rw [e, e1, bump_snoc]
        rw [e1] at i1 i2 i4
        obtain ⟨j1, j2, j3, j4⟩ := mayr_snoc.1 i1
        refine ⟨mayr_snoc.2 ⟨j1, j2, j3, by rw [hl]; omega⟩, fun x => ?_, fun _ => ⟨l, _, rfl, by rw [hl]; omega⟩, ?_⟩
        · have hx := i2 x
          rw [mr_app, mr_cons, mr_nil, Bool.or_false] at hx ⊢
          by_cases hxn : x = n
          · subst hxn
            have : inr (r.1, r.2 + 1) x = true := (inr_iff _ _).2 ⟨by have := fst_le r; simp only; omega, by rw [hl]; exact Nat.le_refl _⟩
            rw [this, hp]
            simp
          · have e3 : inr (r.1, r.2 + 1) x = inr r x := by
              rw [Bool.eq_iff_iff, inr_iff, inr_iff, hl, e2]
              simp only
              omega
            rw [e3, hx]
            congr 1
            exact decide_eq_decide.2 (by omega)
        · rw [ct, hm0, ← i4]; simp
      | false =>
        have e : rs p (n + 1) = rs p n ++ [(UInt16.ofNat n, 0)] := by rw [rs, hp, hq]; simp
        have hm1 : hm p n = true := by
          unfold hm
          rw [hp, Bool.true_and]
          by_cases h0 : n = 0
          · simp [h0]
          · rw [decide_eq_true (by omega), Bool.true_and] at hq
            rw [hq]
            simp
        have hf : (UInt16.ofNat n).toNat = n := u16_of n (by omega)
        have hl : lst (UInt16.ofNat n, 0) = n := by unfold lst; simp only; rw [hf]; rfl
        rw [e]
        refine ⟨mayr_snoc.2 ⟨i1, fun s hs => ?_, Nat.zero_le _, by rw [hl]; omega⟩, fun x => ?_, fun _ => ⟨_, _, rfl, by rw [hl]; omega⟩, ?_⟩
        · have h1 := i2 (lst s)
          rw [mr_last hs] at h1
          have h2 := h1.symm
          rw [Bool.and_eq_true, decide_eq_true_eq] at h2
          simp only
          rw [hf]
          rcases Nat.lt_or_ge (lst s + 1) n with h3 | h3
          · omega
          · have h4 : lst s = n - 1 := by omega
            rw [← h4, h2.2, decide_eq_true (by omega)] at hq
            cases hq
        · rw [mr_app, mr_cons, mr_nil, Bool.or_false, i2]
          by_cases hxn : x = n
          · subst hxn
            have : inr (UInt16.ofNat x, 0) x = true := (inr_iff _ _).2 ⟨by simp only; omega, by rw [hl]; exact Nat.le_refl _⟩
            rw [this, hp]
            simp
          · have e3 : inr (UInt16.ofNat n, 0) x = false := by
              rw [Bool.eq_false_iff]
              intro hh
              have := (inr_iff _ _).1 hh
              rw [hl] at this
              simp only at this
              omega
            rw [e3, Bool.or_false]
            congr 1
            exact decide_eq_decide.2 (by omega)
        · rw [List.length_append, i4, ct, hm1]; rfl
theorem mayr_rs (p : Nat → Bool) : mayr 0 (rs p 65536) = true := (rs_inv p 65536 (Nat.le_refl _)).1
theorem mr_rs (p : Nat → Bool) {x : Nat} (hx : x < 65536) : mr (rs p 65536) x = p x := by
  rw [(rs_inv p 65536 (Nat.le_refl _)).2.1, decide_eq_true hx, Bool.true_and]
theorem rs_len (p : Nat → Bool) : (rs p 65536).length = ct (hm p) 65536 := (rs_inv p 65536 (Nat.le_refl _)).2.2.2
/-- Right runs are the runs of their marks. -/
theorem rs_mr {l : List Rn} (h : mayr 0 l = true) {p : Nat → Bool} (hp : ∀ x, x < 65536 → mr l x = p x) : l = rs p 65536 := by
  refine mr_inj h (mayr_rs p) fun x => ?_
  rw [(rs_inv p 65536 (Nat.le_refl _)).2.1]
  by_cases hx : x < 65536
  · rw [decide_eq_true hx, Bool.true_and, hp x hx]
  · rw [decide_eq_false hx, Bool.false_and, Bool.eq_false_iff]
    intro hh
    have := (mr_ge h hh).2
    omega
theorem rs_ext {p q : Nat → Bool} (h : ∀ x, x < 65536 → p x = q x) : rs p 65536 = rs q 65536 :=
  rs_mr (mayr_rs p) fun x hx => (mr_rs p hx).trans (h x hx)

/- Counting. -/
theorem ct_or {p q : Nat → Bool} {n : Nat} (h : ∀ x, x < n → ¬ (p x = true ∧ q x = true)) : ct (fun x => p x || q x) n = ct p n + ct q n := by
  induction n with
  | zero => rfl
  | succ n ih =>
    rw [ct, ct, ct, ih fun x hx => h x (by omega)]
    have := h n (Nat.lt_succ_self n)
    revert this
    cases p n <;> cases q n <;> simp <;> omega
theorem ct_inr (r : Rn) (n : Nat) : ct (inr r) n = min n (lst r + 1) - min n r.1.toNat := by
  have hf := fst_le r
  induction n with
  | zero => simp [ct]
  | succ n ih =>
    rw [ct, ih]
    cases hi : inr r n with
    | true =>
      have := (inr_iff _ _).1 hi
      simp only [Bool.toNat_true]
      omega
    | false =>
      have : ¬ (r.1.toNat ≤ n ∧ n ≤ lst r) := fun h => by rw [(inr_iff _ _).2 h] at hi; cases hi
      simp only [Bool.toNat_false]
      omega
theorem ct_mr_cons {m n : Nat} {r : Rn} {l : List Rn} (h : mayr m (r :: l) = true) : ct (mr (r :: l)) n = (min n (lst r + 1) - min n r.1.toNat) + ct (mr l) n := by
  obtain ⟨h1, h2, h3⟩ := mayr_cons.1 h
  have e : ct (mr (r :: l)) n = ct (fun x => inr r x || mr l x) n := ct_ext fun x _ => mr_cons r l x
  rw [e, ct_or (fun x _ hh => by have := ((inr_iff _ _).1 hh.1).2; have := (mr_ge h3 hh.2).1; omega), ct_inr]
/-- Below the first one there is none. -/
theorem ct_mr_zero {m n : Nat} {l : List Rn} (h : mayr m l = true) (hn : n ≤ m) : ct (mr l) n = 0 := ct_zero fun x hx => by
  rw [Bool.eq_false_iff]
  intro hh
  have := (mr_ge h hh).1
  omega
end Go.Proofs.YtcmifbjeabkihabGreatDoor
namespace Go.Proofs.YtcmifbjeabkihabGreatDoor
set_option linter.unusedVariables false

/-- The numbers of one key. -/
def blk (P : Nat → Bool) (k x : Nat) : Bool := P (65536 * k + x)
/-- Whether some number has the key. -/
def nz (P : Nat → Bool) (k : Nat) : Bool := decide (0 < ct (blk P k) 65536)

theorem ct_pos {p : Nat → Bool} {n : Nat} : 0 < ct p n ↔ ∃ x, x < n ∧ p x = true := by
  induction n with
  | zero => simp [ct]
  | succ n ih =>
    rw [ct]
    constructor
    · intro h
      cases hp : p n with
      | true => exact ⟨n, by omega, hp⟩
      | false =>
        rw [hp] at h
        obtain ⟨x, h1, h2⟩ := ih.1 (by simpa using h)
        exact ⟨x, by omega, h2⟩
    · rintro ⟨x, h1, h2⟩
      by_cases e : x = n
      · subst e; rw [h2]; simp
      · have := ih.2 ⟨x, by omega, h2⟩
        omega
theorem ct_hit' {p : Nat → Bool} {n m : Nat} (hp : p n = true) (h : n < m) : ct p n < ct p m := by
  have h1 : ct p (n + 1) = ct p n + 1 := by rw [ct, hp]; rfl
  have h2 := ct_mono p (a := n + 1) (b := m) (by omega)
  omega
theorem nz_iff {P : Nat → Bool} {k : Nat} : nz P k = true ↔ ∃ x, x < 65536 ∧ P (65536 * k + x) = true := by
  unfold nz
  rw [decide_eq_true_eq]
  exact ct_pos
theorem nz_not {P : Nat → Bool} {k : Nat} : nz P k = false ↔ ∀ x, x < 65536 → P (65536 * k + x) = false := by
  constructor
  · intro h x hx
    cases hp : P (65536 * k + x) with
    | false => rfl
    | true => rw [nz_iff.2 ⟨x, hx, hp⟩] at h; cases h
  · intro h
    cases hn : nz P k with
    | false => rfl
    | true =>
      obtain ⟨x, h1, h2⟩ := nz_iff.1 hn
      rw [h x h1] at h2; cases h2
theorem nz_ct {P : Nat → Bool} {k : Nat} (h : nz P k = false) : ct (blk P k) 65536 = 0 := ct_zero fun x hx => nz_not.1 h x hx
theorem nz_has {P : Nat → Bool} {x : Nat} (h : P x = true) : nz P (x / 65536) = true :=
  nz_iff.2 ⟨x % 65536, Nat.mod_lt _ (by omega), by rw [Nat.div_add_mod]; exact h⟩
theorem nz_none {P : Nat → Bool} {x : Nat} (h : nz P (x / 65536) = false) : P x = false := by
  cases hp : P x with
  | false => rfl
  | true => rw [nz_has hp] at h; cases h
theorem blk_at (P : Nat → Bool) (x : Nat) : blk P (x / 65536) (x % 65536) = P x := by unfold blk; rw [Nat.div_add_mod]
theorem blk_ext {P Q : Nat → Bool} {k : Nat} (h : ∀ x, x / 65536 = k → P x = Q x) : ∀ x, x < 65536 → blk P k x = blk Q k x :=
  fun x hx => h _ (by omega)
theorem nz_ext {P Q : Nat → Bool} {k : Nat} (h : ∀ x, x / 65536 = k → P x = Q x) : nz P k = nz Q k := by
  unfold nz; rw [ct_ext (blk_ext h)]

/-- How many numbers are below a place, a key on. -/
theorem ct_key (P : Nat → Bool) (k : Nat) {y : Nat} : ct P (65536 * k + y) = ct P (65536 * k) + ct (blk P k) y := ct_add P _ _
theorem ct_next (P : Nat → Bool) (k : Nat) : ct P (65536 * (k + 1)) = ct P (65536 * k) + ct (blk P k) 65536 := by
  rw [Nat.mul_succ, ct_key]
theorem ct_gap (P : Nat → Bool) {a b : Nat} (hab : a ≤ b) (h : ∀ k, a ≤ k → k < b → nz P k = false) : ct P (65536 * b) = ct P (65536 * a) := by
  obtain ⟨d, rfl⟩ := Nat.le.dest hab
  clear hab
  induction d with
  | zero => rfl
  | succ d ih => rw [← Nat.add_assoc, ct_next, ih (fun k h1 h2 => h k h1 (by omega)), nz_ct (h _ (by omega) (by omega)), Nat.add_zero]
/-- A place, as a container's asked for it. -/
def clm (X k : Nat) : Nat := min (X - 65536 * k) 65536
theorem ct_clm (P : Nat → Bool) (X k : Nat) : ct P (min X (65536 * (k + 1))) = ct P (min X (65536 * k)) + ct (blk P k) (clm X k) := by
  unfold clm
  by_cases h1 : X ≤ 65536 * k
  · rw [Nat.min_eq_left h1, Nat.min_eq_left (by omega), Nat.sub_eq_zero_of_le h1]
    simp [ct]
  · by_cases h2 : X ≤ 65536 * (k + 1)
    · rw [Nat.min_eq_left h2, Nat.min_eq_right (by omega), Nat.min_eq_left (by omega)]
      have e : X = 65536 * k + (X - 65536 * k) := by omega
      conv => lhs; rw [e]
      exact ct_key P k
    · rw [Nat.min_eq_right (by omega), Nat.min_eq_right (by omega), Nat.min_eq_right (by omega), ct_next]
theorem ct_gap_min (P : Nat → Bool) (X : Nat) {a b : Nat} (hab : a ≤ b) (h : ∀ k, a ≤ k → k < b → nz P k = false) : ct P (min X (65536 * b)) = ct P (min X (65536 * a)) := by
  obtain ⟨d, rfl⟩ := Nat.le.dest hab
  clear hab
  induction d with
  | zero => rfl
  | succ d ih =>
    rw [← Nat.add_assoc, ct_clm, ih (fun k h1 h2 => h k h1 (by omega)), ct_zero (p := blk P _) (n := clm X _) (fun j hj => nz_not.1 (h _ (by omega) (by omega)) j (by unfold clm at hj; omega)), Nat.add_zero]

/-- Two sets that have the same keys, and the same numbers of each, are the same. -/
theorem same_blk {P Q : Nat → Bool} (h : ∀ k, k < 65536 → ∀ x, x < 65536 → blk P k x = blk Q k x) : ∀ x, x < 4294967296 → P x = Q x := fun x hx => by
  rw [← blk_at P x, ← blk_at Q x]
  exact h _ (by omega) _ (Nat.mod_lt _ (by omega))

/-- Sets with one number more. -/
def pl (P : Nat → Bool) (x y : Nat) : Bool := decide (y = x) || P y
theorem blk_pl_at (P : Nat → Bool) (x : Nat) : ∀ y, y < 65536 → blk (pl P x) (x / 65536) y = (decide (y = x % 65536) || blk P (x / 65536) y) := fun y hy => by
  unfold blk pl
  congr 1
  exact decide_eq_decide.2 ⟨fun h => by omega, fun h => by omega⟩
theorem blk_pl_off (P : Nat → Bool) (x : Nat) {k : Nat} (hk : k ≠ x / 65536) : ∀ y, y < 65536 → blk (pl P x) k y = blk P k y := fun y hy => by
  unfold blk pl
  rw [decide_eq_false (by omega), Bool.false_or]
theorem nz_pl_at (P : Nat → Bool) (x : Nat) : nz (pl P x) (x / 65536) = true := nz_has (by unfold pl; simp)
theorem nz_pl_off (P : Nat → Bool) (x : Nat) {k : Nat} (hk : k ≠ x / 65536) : nz (pl P x) k = nz P k := by
  unfold nz; rw [ct_ext (blk_pl_off P x hk)]
theorem pl_has {P : Nat → Bool} {x : Nat} (h : P x = true) : pl P x = P := by
  funext y
  unfold pl
  by_cases e : y = x
  · subst e; simp [h]
  · simp [e]
end Go.Proofs.YtcmifbjeabkihabGreatDoor
