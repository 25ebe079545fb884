/- Plain mathematics: numbers and their bytes. No Go in sight. -/
import Derived.WalkKit
namespace Go.Proofs.Ytigjkolhhhmdhaa

/-- The k lowest bytes of n, the lowest first. -/
def le : Nat → Nat → List UInt8
  | 0, _ => []
  | k + 1, n => UInt8.ofNat n :: le k (n / 256)
theorem le_length (k n : Nat) : (le k n).length = k := by
  induction k generalizing n with
  | zero => rfl
  | succ k ih => simp [le, ih]
theorem le_snoc (k n : Nat) : le (k + 1) n = le k n ++ [UInt8.ofNat (n / 256 ^ k)] := by
  induction k generalizing n with
  | zero => simp [le]
  | succ k ih =>
    rw [le, ih (n / 256), le, List.cons_append, Nat.div_div_eq_div_mul, Nat.pow_succ, Nat.mul_comm]
theorem div_pow_succ (n k : Nat) : n / 256 ^ k / 256 = n / 256 ^ (k + 1) := by rw [Nat.div_div_eq_div_mul, Nat.pow_succ]

/-- The short form of n. -/
def sh : Nat → Nat → List UInt8
  | 0, n => [UInt8.ofNat n]
  | f + 1, n => if n < 128 then [UInt8.ofNat n] else UInt8.ofNat (n % 128 + 128) :: sh f (n / 128)
def short (n : Nat) : List UInt8 := sh n n
theorem sh_fuel (f n : Nat) (h : n ≤ f) (f' : Nat) (h' : n ≤ f') : sh f n = sh f' n := by
  induction f generalizing n f' with
  | zero =>
    obtain rfl : n = 0 := by omega
    cases f' with
    | zero => rfl
    | succ f' => simp [sh]
  | succ f ih =>
    cases f' with
    | zero =>
      obtain rfl : n = 0 := by omega
      simp [sh]
    | succ f' =>
      unfold sh
      split
      · rfl
      · rw [ih (n / 128) (by omega) f' (by omega)]
theorem short_lt {n : Nat} (h : n < 128) : short n = [UInt8.ofNat n] := by
  unfold short
  cases n with
  | zero => rfl
  | succ n => rw [sh, if_pos h]
theorem short_ge {n : Nat} (h : 128 ≤ n) : short n = UInt8.ofNat (n % 128 + 128) :: short (n / 128) := by
  unfold short
  obtain ⟨m, rfl⟩ : ∃ m, n = m + 1 := ⟨n - 1, by omega⟩
  rw [sh, if_neg (by omega), sh_fuel _ ((m + 1) / 128) (by omega) ((m + 1) / 128) (by omega)]
theorem u8_mod (n : Nat) : ((UInt8.ofNat n).toNat : Int) = (n : Int) % 256 := by simp

/-- How many bits n needs; of nought none. -/
def bl (n : Nat) : Nat := if n = 0 then 0 else n.log2 + 1
theorem log2_shift (n k : Nat) (h : 2 ^ k ≤ n) : n.log2 = (n / 2 ^ k).log2 + k := by
  have hp : 0 < 2 ^ k := Nat.two_pow_pos k
  have hn : n ≠ 0 := by omega
  have hd : n / 2 ^ k ≠ 0 := by
    have := Nat.div_pos h hp
    omega
  rw [Nat.log2_eq_iff hn]
  have h1 := (Nat.log2_eq_iff hd (k := (n / 2 ^ k).log2)).1 rfl
  constructor
  · rw [Nat.pow_add]
    exact (Nat.le_div_iff_mul_le hp).1 h1.1
  · rw [show (n / 2 ^ k).log2 + k + 1 = (n / 2 ^ k).log2 + 1 + k from by omega, Nat.pow_add]
    exact (Nat.div_lt_iff_lt_mul hp).1 h1.2
theorem bl_shift (n k : Nat) (h : 2 ^ k ≤ n) : bl n = bl (n / 2 ^ k) + k := by
  have hp : 0 < 2 ^ k := Nat.two_pow_pos k
  have hn : n ≠ 0 := by omega
  have hd : n / 2 ^ k ≠ 0 := by
    have := Nat.div_pos h hp
    omega
  unfold bl
  rw [if_neg hn, if_neg hd, log2_shift n k h]
  omega
theorem short_length (n : Nat) : (short n).length = n.log2 / 7 + 1 := by
  induction n using Nat.strongRecOn with
  | ind n ih =>
    by_cases h : n < 128
    · rw [short_lt h]
      have h7 : n.log2 < 7 := by
        by_cases h0 : n = 0
        · subst h0; decide
        · exact (Nat.log2_lt h0).2 h
      simp; omega
    · rw [short_ge (by omega), List.length_cons, ih (n / 128) (by omega), log2_shift n 7 (by omega), show (2 : Nat) ^ 7 = 128 from rfl]
      omega
theorem short_size (n : Nat) : ((short n).length : Int) = max 1 (((bl n : Int) + 6) / 7) := by
  rw [short_length]
  unfold bl
  split
  · rename_i h; subst h; decide
  · omega
theorem bl_le (n : Nat) (h : n < 18446744073709551616) : bl n ≤ 64 := by
  unfold bl
  split
  · omega
  · rename_i h0
    have := (Nat.log2_lt h0).2 (show n < 2 ^ 64 from h)
    omega
theorem short_length_le (n : Nat) (h : n < 18446744073709551616) : (short n).length ≤ 10 := by
  rw [short_length]
  by_cases h0 : n = 0
  · subst h0; decide
  · have := (Nat.log2_lt h0).2 (show n < 2 ^ 64 from h)
    omega
theorem short_length_pos (n : Nat) : 1 ≤ (short n).length := by rw [short_length]; omega

/-- The number whose bytes these are, the lowest first. -/
def leVal : List UInt8 → Nat
  | [] => 0
  | b :: r => b.toNat + 256 * leVal r
theorem leVal_snoc (a : List UInt8) (y : UInt8) : leVal (a ++ [y]) = leVal a + y.toNat * 2 ^ (8 * a.length) := by
  induction a with
  | nil => simp [leVal]
  | cons b r ih =>
    rw [List.cons_append, leVal, leVal, ih, List.length_cons, show 8 * (r.length + 1) = 8 * r.length + 8 from by omega, Nat.pow_add]
    rw [Nat.mul_add, ← Nat.add_assoc, Nat.mul_left_comm, Nat.mul_comm 256 (2 ^ _), show (2 : Nat) ^ 8 = 256 from rfl]
theorem leVal_lt (a : List UInt8) : leVal a < 2 ^ (8 * a.length) := by
  induction a with
  | nil => simp [leVal]
  | cons b r ih =>
    have := b.toNat_lt
    rw [leVal, List.length_cons, show 8 * (r.length + 1) = 8 * r.length + 8 from by omega, Nat.pow_add]
    omega
theorem leVal_le (k n : Nat) (h : n < 2 ^ (8 * k)) : leVal (le k n) = n := by
  induction k generalizing n with
  | zero => simp at h; subst h; rfl
  | succ k ih =>
    rw [le, leVal, ih (n / 256) (by
      rw [show 8 * (k + 1) = 8 * k + 8 from by omega, Nat.pow_add] at h
      exact (Nat.div_lt_iff_lt_mul (by omega)).2 h)]
    simp
    omega
theorem or_high (D z e : Nat) (hD : D < 2 ^ e) (hz : z * 2 ^ e < 18446744073709551616) (h64 : D < 18446744073709551616) :
    bits BinOp.or IntKind.u64 (D : Int) (IntKind.u64.wrap ((z : Int) * 2 ^ e)) = ((D + z * 2 ^ e : Nat) : Int) := by
  have e1 : ((z : Int) * 2 ^ e) = ((z * 2 ^ e : Nat) : Int) := by rw [Int.natCast_mul, Int.natCast_pow]; rfl
  rw [e1, IntKind.wrap_u64, Int.emod_eq_of_lt (by omega) (by omega), u64_or_nat D _ h64 hz, Nat.or_comm, ← Nat.shiftLeft_eq, ← Nat.shiftLeft_add_eq_or_of_lt hD, Nat.add_comm]
theorem take_next (s : List UInt8) (k : Nat) (y : UInt8) (h : s[k]? = some y) : s.take (k + 1) = s.take k ++ [y] := by
  rw [List.take_add_one, h]; rfl
end Go.Proofs.Ytigjkolhhhmdhaa
