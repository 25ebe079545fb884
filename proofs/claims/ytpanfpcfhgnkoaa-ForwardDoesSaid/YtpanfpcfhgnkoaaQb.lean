/- Plain mathematics: numbers of one width, bit by bit. No Go in sight. -/
import Derived.WalkKit
namespace Go.Proofs.Ytpanfpcfhgnkoaa

/-- The j-th bit of bytes; of none, none. -/
def bb (b : List UInt8) (j : Nat) : Bool := (b.getD (j / 8) 0).toNat.testBit (j % 8)
/-- c bits from a on, as a number. -/
def tk (b : List UInt8) (a : Nat) : Nat → Nat
  | 0 => 0
  | k + 1 => tk b a k + (bb b (a + k)).toNat * 2 ^ k
theorem tk_lt (b : List UInt8) (a c : Nat) : tk b a c < 2 ^ c := by
  induction c with
  | zero => simp [tk]
  | succ k ih =>
    rw [tk, Nat.pow_succ]
    cases bb b (a + k) <;> simp <;> omega
theorem tk_bit (b : List UInt8) (a c k : Nat) : (tk b a c).testBit k = (decide (k < c) && bb b (a + k)) := by
  induction c with
  | zero => simp [tk]
  | succ m ih =>
    have hlt := tk_lt b a m
    have e : tk b a (m + 1) = 2 ^ m * (bb b (a + m)).toNat + tk b a m := by rw [tk, Nat.mul_comm, Nat.add_comm]
    rw [e, Nat.testBit_two_pow_mul_add _ hlt]
    by_cases h : k < m
    · rw [if_pos h, ih]
      simp [h, Nat.lt_succ_of_lt h]
    · rw [if_neg h]
      by_cases h2 : k = m
      · subst h2
        cases bb b (a + k) <;> simp
      · have h3 : ¬ k < m + 1 := by omega
        have h4 : k - m ≠ 0 := by omega
        simp only [h3, decide_false, Bool.false_and]
        cases bb b (a + m)
        · simp
        · obtain ⟨d, hd⟩ := Nat.exists_eq_succ_of_ne_zero h4
          rw [hd]
          simp [Nat.testBit_succ]
theorem bb_none (b : List UInt8) (j : Nat) (h : 8 * b.length ≤ j) : bb b j = false := by
  unfold bb
  rw [List.getD_eq_getElem?_getD, List.getElem?_eq_none (by omega)]
  simp
theorem tk_ext {b b' : List UInt8} {a a' c : Nat} (h : ∀ k, k < c → bb b (a + k) = bb b' (a' + k)) : tk b a c = tk b' a' c := by
  induction c with
  | zero => rfl
  | succ k ih => rw [tk, tk, ih (fun j hj => h j (by omega)), h k (by omega)]
theorem tk_min (b : List UInt8) (a c : Nat) (h : a ≤ 8 * b.length) : tk b a (min c (8 * b.length - a)) = tk b a c := by
  by_cases hc : c ≤ 8 * b.length - a
  · rw [Nat.min_eq_left hc]
  · rw [Nat.min_eq_right (by omega)]
    obtain ⟨d, hd⟩ : ∃ d, c = 8 * b.length - a + d := ⟨c - (8 * b.length - a), by omega⟩
    subst hd
    clear hc
    induction d with
    | zero => rfl
    | succ d ih =>
      rw [ih, ← Nat.add_assoc, tk, bb_none b _ (by omega)]
      simp
theorem tk_past (b : List UInt8) (a c : Nat) (h : 8 * b.length ≤ a) : tk b a c = 0 := by
  induction c with
  | zero => rfl
  | succ k ih => rw [tk, ih, bb_none b _ (by omega)]; simp
theorem tk_zero {b : List UInt8} {a c : Nat} (h : tk b a c = 0) : ∀ k, k < c → bb b (a + k) = false := by
  intro k hk
  have := tk_bit b a c k
  rw [h] at this
  simpa [hk] using this.symm
theorem tk_zero_of {b : List UInt8} {a c : Nat} (h : ∀ k, k < c → bb b (a + k) = false) : tk b a c = 0 := by
  induction c with
  | zero => rfl
  | succ k ih => rw [tk, ih (fun j hj => h j (by omega)), h k (by omega)]; simp

theorem byte_ext {x y : UInt8} (h : ∀ t, t < 8 → x.toNat.testBit t = y.toNat.testBit t) : x = y := by
  apply UInt8.toNat_inj.1
  apply Nat.eq_of_testBit_eq
  intro t
  by_cases ht : t < 8
  · exact h t ht
  · have hx := x.toNat_lt
    have hy := y.toNat_lt
    have hp : 2 ^ 8 ≤ 2 ^ t := Nat.pow_le_pow_right (n := 2) (by omega) (by omega)
    rw [Nat.testBit_lt_two_pow (by omega), Nat.testBit_lt_two_pow (by omega)]
/-- Bytes of one length are told by their bits. -/
theorem bb_ext {b b' : List UInt8} (hl : b.length = b'.length) (h : ∀ j, j < 8 * b.length → bb b j = bb b' j) : b = b' := by
  apply List.ext_getElem hl
  intro i h1 h2
  apply byte_ext
  intro t ht
  have := h (8 * i + t) (by omega)
  unfold bb at this
  have e1 : (8 * i + t) / 8 = i := by omega
  have e2 : (8 * i + t) % 8 = t := by omega
  rw [e1, e2] at this
  simpa [List.getD_eq_getElem?_getD, List.getElem?_eq_getElem h1, List.getElem?_eq_getElem h2] using this

/-- k bits of n are put from the bit a on. -/
def pt (b : List UInt8) (a n : Nat) : Nat → List UInt8
  | 0 => b
  | k + 1 => (pt b a n k).set ((a + k) / 8) ((pt b a n k).getD ((a + k) / 8) 0 ||| UInt8.ofNat (n / 2 ^ k % 2 * 2 ^ ((a + k) % 8)))
theorem pt_length (b : List UInt8) (a n k : Nat) : (pt b a n k).length = b.length := by
  induction k with
  | zero => rfl
  | succ k ih => rw [pt, List.length_set, ih]
theorem bit_put : ∀ (s t : Fin 8) (e : Bool) (x : Fin 256), (UInt8.ofNat x.val ||| UInt8.ofNat (e.toNat * 2 ^ s.val)).toNat.testBit t.val = ((UInt8.ofNat x.val).toNat.testBit t.val || (decide (t.val = s.val) && e)) := by
  intro s t e x
  rw [UInt8.toNat_or, Nat.testBit_or]
  congr 1
  revert s t e
  decide +kernel
theorem mod_two (n k : Nat) : n / 2 ^ k % 2 = (n.testBit k).toNat := by
  rw [Nat.testBit_eq_decide_div_mod_eq]
  by_cases h : n / 2 ^ k % 2 = 1
  · simp [h]
  · have : n / 2 ^ k % 2 = 0 := by omega
    simp [this]
theorem bb_set (b : List UInt8) (i : Nat) (y : UInt8) (hi : i < b.length) (j : Nat) : bb (b.set i y) j = if j / 8 = i then y.toNat.testBit (j % 8) else bb b j := by
  unfold bb
  rw [List.getD_eq_getElem?_getD, List.getElem?_set]
  by_cases h : j / 8 = i
  · subst h
    simp [hi]
  · rw [if_neg h, if_neg (fun e => h e.symm)]
    rw [List.getD_eq_getElem?_getD]
theorem bb_pt (b : List UInt8) (a n k : Nat) (h : a + k ≤ 8 * b.length) (j : Nat) : bb (pt b a n k) j = (bb b j || (decide (a ≤ j ∧ j < a + k) && n.testBit (j - a))) := by
  induction k with
  | zero =>
    have : ¬ (a ≤ j ∧ j < a) := by omega
    simp [pt, this]
  | succ k ih =>
    have ih := ih (by omega)
    rw [pt, bb_set _ _ _ (by rw [pt_length]; omega), mod_two]
    have hp := bit_put ⟨(a + k) % 8, by omega⟩ ⟨j % 8, by omega⟩ (n.testBit k) ⟨((pt b a n k).getD ((a + k) / 8) 0).toNat, UInt8.toNat_lt _⟩
    simp only [UInt8.ofNat_toNat] at hp
    by_cases h8 : j / 8 = (a + k) / 8
    · rw [if_pos h8, hp]
      have e1 : ((pt b a n k).getD ((a + k) / 8) 0).toNat.testBit (j % 8) = bb (pt b a n k) j := by unfold bb; rw [h8]
      rw [e1, ih]
      by_cases hj : j = a + k
      · subst hj
        have c1 : ¬ (a ≤ a + k ∧ a + k < a + k) := by omega
        have c2 : (a ≤ a + k ∧ a + k < a + (k + 1)) := by omega
        simp
      · have c0 : ¬ j % 8 = (a + k) % 8 := by omega
        have c1 : (a ≤ j ∧ j < a + (k + 1)) ↔ (a ≤ j ∧ j < a + k) := by omega
        simp [c0, c1]
    · rw [if_neg h8, ih]
      have c1 : (a ≤ j ∧ j < a + (k + 1)) ↔ (a ≤ j ∧ j < a + k) := by
        constructor
        · rintro ⟨x, y⟩
          refine ⟨x, ?_⟩
          rcases Nat.lt_or_ge j (a + k) with h | h
          · exact h
          · have : j = a + k := by omega
            subst this
            exact absurd rfl h8
        · omega
      simp [c1]

/-- How many bytes n numbers of width w take. -/
def sz (n w : Nat) : Nat := (n * w + 7) / 8
/-- The bytes of the first i of the numbers. -/
def pks (l : List UInt64) (w : Nat) : Nat → List UInt8
  | 0 => List.replicate (sz l.length w) 0
  | i + 1 => pt (pks l w i) (i * w) (l.getD i 0).toNat w
def pk (l : List UInt64) (w : Nat) : List UInt8 := pks l w l.length
theorem pks_length (l : List UInt64) (w i : Nat) : (pks l w i).length = sz l.length w := by
  induction i with
  | zero => simp [pks]
  | succ i ih => rw [pks, pt_length, ih]
theorem bb_zeros (n j : Nat) : bb (List.replicate n 0) j = false := by
  unfold bb
  rw [List.getD_eq_getElem?_getD, List.getElem?_replicate]
  split <;> simp
theorem mul_le (i n w : Nat) (h : i < n) : i * w + w ≤ n * w := by
  have := Nat.mul_le_mul_right w (show i + 1 ≤ n from h)
  rwa [Nat.add_mul, Nat.one_mul] at this
theorem sz_le (n w : Nat) : n * w ≤ 8 * sz n w ∧ 8 * sz n w < n * w + 8 := by unfold sz; omega
theorem bb_pks (l : List UInt64) (w i : Nat) (hw : 0 < w) (hi : i ≤ l.length) (j : Nat) : bb (pks l w i) j = (decide (j < i * w) && (l.getD (j / w) 0).toNat.testBit (j % w)) := by
  induction i with
  | zero => simp [pks, bb_zeros]
  | succ i ih =>
    have ih := ih (by omega)
    have hm := mul_le i l.length w (by omega)
    have hs := sz_le l.length w
    rw [pks, bb_pt _ _ _ _ (by rw [pks_length]; omega), ih, Nat.add_mul, Nat.one_mul]
    by_cases h : j < i * w
    · have c1 : ¬ i * w ≤ j := by omega
      have c2 : j < i * w + w := by omega
      simp [h, c1, c2]
    · by_cases h2 : j < i * w + w
      · have e1 : j / w = i := by
          apply Nat.div_eq_of_lt_le
          · omega
          · rw [Nat.add_mul, Nat.one_mul]; omega
        have e2 : j % w = j - i * w := by
          have := Nat.div_add_mod j w
          rw [e1, Nat.mul_comm] at this
          omega
        have c1 : i * w ≤ j := by omega
        simp [h, h2, c1, e1, e2]
      · simp [h, h2]
theorem pk_length (l : List UInt64) (w : Nat) : (pk l w).length = sz l.length w := pks_length l w _
theorem bb_pk (l : List UInt64) (w : Nat) (hw : 0 < w) (j : Nat) : bb (pk l w) j = (decide (j < l.length * w) && (l.getD (j / w) 0).toNat.testBit (j % w)) := bb_pks l w _ hw (Nat.le_refl _) j
/-- Bytes of the right length, with just these bits, are the numbers' bytes. -/
theorem pk_of_bits {l : List UInt64} {w : Nat} (hw : 0 < w) {b : List UInt8} (hl : b.length = sz l.length w) (h : ∀ j, j < 8 * b.length → bb b j = (decide (j < l.length * w) && (l.getD (j / w) 0).toNat.testBit (j % w))) : b = pk l w :=
  bb_ext (hl.trans (pk_length l w).symm) (fun j hj => (h j hj).trans (bb_pk l w hw j).symm)
/-- All numbers are of width w. -/
def fits (l : List UInt64) (w : Nat) : Prop := ∀ i, i < l.length → (l.getD i 0).toNat < 2 ^ w
theorem div_mul_add (i w k : Nat) (hk : k < w) : (i * w + k) / w = i ∧ (i * w + k) % w = k := by
  have hw : 0 < w := by omega
  constructor
  · rw [Nat.add_comm, Nat.add_mul_div_right _ _ hw, Nat.div_eq_of_lt hk, Nat.zero_add]
  · rw [Nat.add_comm, Nat.add_mul_mod_self_right, Nat.mod_eq_of_lt hk]
/-- What is packed is had again. -/
theorem tk_pk (l : List UInt64) (w : Nat) (hf : fits l w) (i : Nat) (hi : i < l.length) : tk (pk l w) (i * w) w = (l.getD i 0).toNat := by
  apply Nat.eq_of_testBit_eq
  intro k
  rw [tk_bit]
  by_cases hk : k < w
  · rw [bb_pk l w (by omega)]
    obtain ⟨e1, e2⟩ := div_mul_add i w k hk
    have hm := mul_le i l.length w hi
    have hlt : i * w + k < l.length * w := by omega
    simp [hk, hlt, e1, e2]
  · have hx := hf i hi
    have hp : 2 ^ w ≤ 2 ^ k := Nat.pow_le_pow_right (n := 2) (by omega) (by omega)
    rw [Nat.testBit_lt_two_pow (by omega)]
    simp [hk]
theorem pk_rest (l : List UInt64) (w : Nat) (hw : 0 < w) (c : Nat) : tk (pk l w) (l.length * w) c = 0 := by
  apply tk_zero_of
  intro k _
  rw [bb_pk l w hw]
  have : ¬ l.length * w + k < l.length * w := by omega
  simp [this]
/-- The numbers that bytes have. -/
def up (b : List UInt8) (n w : Nat) : List UInt64 := (List.range n).map fun i => UInt64.ofNat (tk b (i * w) w)
theorem up_length (b : List UInt8) (n w : Nat) : (up b n w).length = n := by simp [up]
theorem up_getD (b : List UInt8) (n w i : Nat) (hi : i < n) (hw : w ≤ 64) : ((up b n w).getD i 0).toNat = tk b (i * w) w := by
  have hlt := tk_lt b (i * w) w
  have hp : 2 ^ w ≤ 2 ^ 64 := Nat.pow_le_pow_right (n := 2) (by omega) hw
  simp [up, List.getD_eq_getElem?_getD, hi]
  omega
theorem up_snoc (b : List UInt8) (n w : Nat) : up b (n + 1) w = up b n w ++ [UInt64.ofNat (tk b (n * w) w)] := by
  simp [up, List.range_succ]
theorem up_fits (b : List UInt8) (n w : Nat) (hw : w ≤ 64) : fits (up b n w) w := by
  intro i hi
  rw [up_length] at hi
  rw [up_getD b n w i hi hw]
  exact tk_lt _ _ _
theorem up_pk (l : List UInt64) (w : Nat) (hw : w ≤ 64) (hf : fits l w) : up (pk l w) l.length w = l := by
  apply List.ext_getElem (up_length _ _ _)
  intro i h1 h2
  have h3 := up_getD (pk l w) l.length w i h2 hw
  rw [tk_pk l w hf i h2] at h3
  have h4 := UInt64.toNat_inj.1 h3
  simpa [List.getD_eq_getElem?_getD, List.getElem?_eq_getElem h1, List.getElem?_eq_getElem h2] using h4
/-- What is unpacked is packed again: there is one row of bytes. -/
theorem pk_up (b : List UInt8) (n w : Nat) (h0 : 0 < w) (hw : w ≤ 64) (hl : b.length = sz n w) (hz : tk b (n * w) (8 * b.length - n * w) = 0) : b = pk (up b n w) w := by
  have hs := sz_le n w
  refine pk_of_bits h0 (by rw [up_length]; exact hl) (fun j hj => ?_)
  rw [up_length]
  by_cases h : j < n * w
  · have hq : j / w < n := Nat.div_lt_of_lt_mul (by rw [Nat.mul_comm]; exact h)
    rw [up_getD b n w _ hq hw, tk_bit]
    have hr := Nat.mod_lt j h0
    have e : j / w * w + j % w = j := by rw [Nat.mul_comm]; exact Nat.div_add_mod j w
    simp [h, hr, e]
  · have := tk_zero hz (j - n * w) (by omega)
    rw [show n * w + (j - n * w) = j from by omega] at this
    simp [h, this]
theorem bb_append (a b : List UInt8) (j : Nat) : bb (a ++ b) j = if j < 8 * a.length then bb a j else bb b (j - 8 * a.length) := by
  unfold bb
  rw [List.getD_eq_getElem?_getD, List.getElem?_append]
  by_cases h : j < 8 * a.length
  · rw [if_pos h, if_pos (by omega), List.getD_eq_getElem?_getD]
  · rw [if_neg h, if_neg (by omega), List.getD_eq_getElem?_getD]
    have e1 : (j - 8 * a.length) / 8 = j / 8 - a.length := by omega
    have e2 : (j - 8 * a.length) % 8 = j % 8 := by omega
    rw [e1, e2]
/-- The first ones make whole bytes: the bytes of both are one behind the other. -/
theorem pk_join (l m : List UInt64) (w : Nat) (hw : 0 < w) (h8 : l.length % 8 = 0) : pk (l ++ m) w = pk l w ++ pk m w := by
  obtain ⟨q, hq⟩ : ∃ q, l.length = 8 * q := ⟨l.length / 8, by omega⟩
  have e0 : l.length * w = 8 * (q * w) := by rw [hq, Nat.mul_assoc]
  have e1 : sz l.length w = q * w := by unfold sz; omega
  symm
  refine pk_of_bits hw ?_ (fun j hj => ?_)
  · rw [List.length_append, pk_length, pk_length, List.length_append, e1]
    unfold sz
    rw [Nat.add_mul, e0]
    omega
  · rw [bb_append, pk_length, e1, List.length_append, Nat.add_mul, e0]
    by_cases h : j < 8 * (q * w)
    · rw [if_pos h, bb_pk l w hw, e0]
      have hq2 : j / w < l.length := Nat.div_lt_of_lt_mul (by rw [Nat.mul_comm, e0]; exact h)
      have h2 : j < 8 * (q * w) + m.length * w := by omega
      simp [h, h2, List.getD_eq_getElem?_getD, List.getElem?_append, hq2]
    · rw [if_neg h, bb_pk m w hw]
      obtain ⟨t, rfl⟩ : ∃ t, j = 8 * (q * w) + t := ⟨j - 8 * (q * w), by omega⟩
      have e2 : 8 * (q * w) + t - 8 * (q * w) = t := by omega
      have e3 : (8 * (q * w) + t) / w = l.length + t / w := by rw [← e0, Nat.add_comm, Nat.add_mul_div_right _ _ hw, Nat.add_comm]
      have e4 : (8 * (q * w) + t) % w = t % w := by rw [← e0, Nat.add_comm, Nat.add_mul_mod_self_right]
      rw [e2, e3, e4]
      have c1 : (8 * (q * w) + t < 8 * (q * w) + m.length * w) ↔ (t < m.length * w) := by omega
      have c2 : ¬ l.length + t / w < l.length := Nat.not_lt.2 (Nat.le_add_right _ _)
      have c3 : l.length + t / w - l.length = t / w := Nat.add_sub_cancel_left _ _
      simp [c1, List.getD_eq_getElem?_getD, List.getElem?_append, c2, c3]
end Go.Proofs.Ytpanfpcfhgnkoaa
