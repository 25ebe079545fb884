/- Plain mathematics: numbers packed bit by bit, as the document's answer does it. No Go in sight. -/
import Derived.Test.YtpanfpcfhgnkoaaQb
namespace Go.Proofs.Ytpanfpcfhgnkoaa
set_option linter.unusedVariables false

/-- The k lowest bits of x, each a byte. -/
def bts (x k : Nat) : List UInt8 := (List.range k).map fun t => UInt8.ofNat (x / 2 ^ t % 2)
theorem bts_length (x k : Nat) : (bts x k).length = k := by simp [bts]
theorem bts_snoc (x k : Nat) : bts x (k + 1) = bts x k ++ [UInt8.ofNat (x / 2 ^ k % 2)] := by simp [bts, List.range_succ]
theorem bts_getD (x k t : Nat) (h : t < k) : (bts x k).getD t 0 = UInt8.ofNat (x / 2 ^ t % 2) := by simp [bts, List.getD_eq_getElem?_getD, h]
/-- The bits of the first i numbers. -/
def rows (l : List UInt64) (w : Nat) : Nat → List UInt8
  | 0 => []
  | i + 1 => rows l w i ++ bts (l.getD i 0).toNat w
theorem rows_length (l : List UInt64) (w i : Nat) : (rows l w i).length = i * w := by
  induction i with
  | zero => simp [rows]
  | succ i ih => rw [rows, List.length_append, ih, bts_length, Nat.add_mul, Nat.one_mul]
theorem rows_getD (l : List UInt64) (w i j : Nat) (hw : 0 < w) (hj : j < i * w) : (rows l w i).getD j 0 = UInt8.ofNat ((l.getD (j / w) 0).toNat / 2 ^ (j % w) % 2) := by
  induction i with
  | zero => omega
  | succ i ih =>
    rw [rows, List.getD_eq_getElem?_getD, List.getElem?_append, rows_length]
    by_cases h : j < i * w
    · rw [if_pos h, ← List.getD_eq_getElem?_getD, ih h]
    · rw [if_neg h, ← List.getD_eq_getElem?_getD]
      rw [Nat.add_mul, Nat.one_mul] at hj
      have e1 : j / w = i := by
        apply Nat.div_eq_of_lt_le
        · omega
        · rw [Nat.add_mul, Nat.one_mul]; omega
      have e2 : j % w = j - i * w := by
        have := Nat.div_add_mod j w
        rw [e1, Nat.mul_comm] at this
        omega
      rw [e1, e2, bts_getD _ _ _ (by omega)]
/-- The bits put together, the first i of them. -/
def osn (row : List UInt8) (i : Nat) (o : List UInt8) : List UInt8 := if i % 8 = 0 then o ++ [0] else o
def os (row : List UInt8) : Nat → List UInt8
  | 0 => []
  | i + 1 => if row.getD i 0 = 1 then (osn row i (os row i)).set (i / 8) ((osn row i (os row i)).getD (i / 8) 0 + UInt8.ofNat (2 ^ (i % 8))) else osn row i (os row i)
theorem osn_length (row : List UInt8) (i : Nat) (o : List UInt8) (h : o.length = (i + 7) / 8) : (osn row i o).length = (i + 8) / 8 := by
  unfold osn
  split
  · rw [List.length_append, h, List.length_singleton]; omega
  · rw [h]; omega
theorem os_length (row : List UInt8) (i : Nat) : (os row i).length = (i + 7) / 8 := by
  induction i with
  | zero => simp [os]
  | succ i ih =>
    have := osn_length row i _ ih
    rw [os]
    split
    · rw [List.length_set, this]
    · rw [this]
theorem bit_add : ∀ (s t : Fin 8) (x : Fin 256), (x.val.testBit s.val = false) → (UInt8.ofNat x.val + UInt8.ofNat (2 ^ s.val)).toNat.testBit t.val = (x.val.testBit t.val || decide (t.val = s.val)) := by decide +kernel
theorem bb_osn (row : List UInt8) (i : Nat) (o : List UInt8) (h : o.length = (i + 7) / 8) (j : Nat) : bb (osn row i o) j = bb o j := by
  unfold osn
  split
  · rw [bb_append]
    split
    · rfl
    · rename_i h2
      rw [bb_none o j (by omega)]
      have := bb_zeros 1 (j - 8 * o.length)
      exact this
  · rfl
theorem bb_os (row : List UInt8) (i j : Nat) : bb (os row i) j = (decide (j < i) && (row.getD j 0 == 1)) := by
  induction i generalizing j with
  | zero => simp [os, bb]
  | succ i ih =>
    have hl := os_length row i
    have hn := osn_length row i _ hl
    rw [os]
    by_cases h1 : row.getD i 0 = 1
    · rw [if_pos h1, bb_set _ _ _ (by rw [hn]; omega)]
      have hb : ∀ m, bb (osn row i (os row i)) m = (decide (m < i) && (row.getD m 0 == 1)) := by
        intro m
        rw [bb_osn row i _ hl]
        exact ih m
      by_cases h8 : j / 8 = i / 8
      · rw [if_pos h8]
        have h0 : ((osn row i (os row i)).getD (i / 8) 0).toNat.testBit (i % 8) = false := by
          have := hb i
          unfold bb at this
          rw [this]
          simp
        have ha := bit_add ⟨i % 8, by omega⟩ ⟨j % 8, by omega⟩ ⟨((osn row i (os row i)).getD (i / 8) 0).toNat, UInt8.toNat_lt _⟩ h0
        simp only [UInt8.ofNat_toNat] at ha
        rw [ha]
        have e1 : ((osn row i (os row i)).getD (i / 8) 0).toNat.testBit (j % 8) = bb (osn row i (os row i)) j := by unfold bb; rw [h8]
        rw [e1, hb]
        by_cases hj : j = i
        · subst hj
          have h1' : (row.getD j 0 == 1) = true := by rw [h1]; rfl
          rw [h1']
          simp
        · have c0 : ¬ j % 8 = i % 8 := by omega
          have c1 : (j < i + 1) ↔ (j < i) := by omega
          simp [c0, c1]
      · rw [if_neg h8, hb]
        have c1 : (j < i + 1) ↔ (j < i) := by
          constructor
          · intro h
            rcases Nat.lt_or_ge j i with h2 | h2
            · exact h2
            · exact absurd (by rw [show j = i from by omega]) h8
          · omega
        simp only [c1]
    · rw [if_neg h1, bb_osn row i _ hl, ih]
      by_cases hj : j = i
      · subst hj
        have : (row.getD j 0 == 1) = false := by rw [beq_eq_false_iff_ne]; exact h1
        rw [this]
        simp
      · have c1 : (j < i + 1) ↔ (j < i) := by omega
        simp only [c1]
theorem os_pk (l : List UInt64) (w : Nat) (hw : 0 < w) : os (rows l w l.length) (l.length * w) = pk l w := by
  refine pk_of_bits hw (os_length _ _) (fun j _ => ?_)
  rw [bb_os]
  by_cases h : j < l.length * w
  · rw [rows_getD l w _ j hw h, mod_two]
    cases (l.getD (j / w) 0).toNat.testBit (j % w) <;> simp <;> rfl
  · simp [h]
/-- How many bytes, as the document reckons it. -/
theorem sz_doc (n w : Nat) : sz n w = if 0 < n % 8 * w % 8 then n / 8 * w + n % 8 * w / 8 + 1 else n / 8 * w + n % 8 * w / 8 := by
  unfold sz
  have e : n * w = 8 * (n / 8 * w) + n % 8 * w := by
    have h := Nat.div_add_mod n 8
    have h2 : (8 * (n / 8) + n % 8) * w = n * w := by rw [h]
    rw [Nat.add_mul, Nat.mul_assoc] at h2
    exact h2.symm
  rw [e]
  split <;> omega
end Go.Proofs.Ytpanfpcfhgnkoaa
