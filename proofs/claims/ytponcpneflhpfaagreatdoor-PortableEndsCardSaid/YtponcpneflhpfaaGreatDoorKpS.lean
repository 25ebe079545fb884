/- Plain mathematics: numbers and their bytes. No Go in sight. -/
import Derived.WalkKit
namespace Go.Proofs.YtponcpneflhpfaaGreatDoor

/-- The k lowest bytes of n, the lowest first. -/
def le : Nat → Nat → List UInt8
  | 0, _ => []
  | k + 1, n => UInt8.ofNat n :: le k (n / 256)
theorem le_length (k n : Nat) : (le k n).length = k := by
  induction k generalizing n with
  | zero => rfl
  | succ k ih => simp [le, ih]
theorem le_snoc (k n : Nat) : le (k + 1) n = le k n ++ [UInt8.ofNat (n / 256 ^ k)] := by
  induction k generalizing n with
  | zero => simp [le]
  | succ k ih =>
    rw [le, ih (n / 256), le, List.cons_append, Nat.div_div_eq_div_mul, Nat.pow_succ, Nat.mul_comm]
theorem div_pow_succ (n k : Nat) : n / 256 ^ k / 256 = n / 256 ^ (k + 1) := by rw [Nat.div_div_eq_div_mul, Nat.pow_succ]

theorem u8_mod (n : Nat) : ((UInt8.ofNat n).toNat : Int) = (n : Int) % 256 := by simp

/-- The number whose bytes these are, the lowest first. -/
def leVal : List UInt8 → Nat
  | [] => 0
  | b :: r => b.toNat + 256 * leVal r
theorem leVal_snoc (a : List UInt8) (y : UInt8) : leVal (a ++ [y]) = leVal a + y.toNat * 2 ^ (8 * a.length) := by
  induction a with
  | nil => simp [leVal]
  | cons b r ih =>
    rw [List.cons_append, leVal, leVal, ih, List.length_cons, show 8 * (r.length + 1) = 8 * r.length + 8 from by omega, Nat.pow_add]
    rw [Nat.mul_add, ← Nat.add_assoc, Nat.mul_left_comm, Nat.mul_comm 256 (2 ^ _), show (2 : Nat) ^ 8 = 256 from rfl]
theorem leVal_lt (a : List UInt8) : leVal a < 2 ^ (8 * a.length) := by
  induction a with
  | nil => simp [leVal]
  | cons b r ih =>
    have := b.toNat_lt
    rw [leVal, List.length_cons, show 8 * (r.length + 1) = 8 * r.length + 8 from by omega, Nat.pow_add]
    omega
theorem leVal_le (k n : Nat) (h : n < 2 ^ (8 * k)) : leVal (le k n) = n := by
  induction k generalizing n with
  | zero => simp at h; subst h; rfl
  | succ k ih =>
    rw [le, leVal, ih (n / 256) (by
      rw [show 8 * (k + 1) = 8 * k + 8 from by omega, Nat.pow_add] at h
      exact (Nat.div_lt_iff_lt_mul (by omega)).2 h)]
    simp
    omega
theorem or_high (D z e : Nat) (hD : D < 2 ^ e) (hz : z * 2 ^ e < 18446744073709551616) (h64 : D < 18446744073709551616) :
    bits BinOp.or IntKind.u64 (D : Int) (IntKind.u64.wrap ((z : Int) * 2 ^ e)) = ((D + z * 2 ^ e : Nat) : Int) := by
  have e1 : ((z : Int) * 2 ^ e) = ((z * 2 ^ e : Nat) : Int) := by rw [Int.natCast_mul, Int.natCast_pow]; rfl
  rw [e1, IntKind.wrap_u64, Int.emod_eq_of_lt (by omega) (by omega), u64_or_nat D _ h64 hz, Nat.or_comm, ← Nat.shiftLeft_eq, ← Nat.shiftLeft_add_eq_or_of_lt hD, Nat.add_comm]
theorem take_next (s : List UInt8) (k : Nat) (y : UInt8) (h : s[k]? = some y) : s.take (k + 1) = s.take k ++ [y] := by
  rw [List.take_add_one, h]; rfl
end Go.Proofs.YtponcpneflhpfaaGreatDoor
