/- Plain mathematics: what is written one behind the other is read again. No Go in sight. -/
import Derived.Test.YtmhcbfcpamkfhaaBy
namespace Go.Proofs.Ytmhcbfcpamkfhaa

theorem rdW_le_ (k n : Nat) (r : List UInt8) (h : n < 2 ^ (8 * k)) : rdW (le k n ++ r) k = (n, k) := by
  unfold rdW
  rw [if_neg (by simp [le_length])]
  have : (le k n ++ r).take k = le k n := by
    have := List.take_left (l₁ := le k n) (l₂ := r)
    rw [le_length] at this
    exact this
  rw [this, leVal_le k n h]
theorem rd_le_ (a r : List UInt8) (k n : Nat) (hk : 1 ≤ k) (h : n < 2 ^ (8 * k)) : rd (a ++ (le k n ++ r)) a.length false k = (n, a.length + k, false) := by
  unfold rd
  rw [if_neg (by simp)]
  simp only [if_neg (show k ≠ 0 by omega), List.drop_left, rdW_le_ k n r h]
  have : (k == 0) = false := by rw [beq_eq_false_iff_ne]; omega
  rw [this]
theorem rd_short_ (a r : List UInt8) (n : Nat) (h : n < 18446744073709551616) : rd (a ++ (short n ++ r)) a.length false 0 = (n, a.length + (short n).length, false) := by
  unfold rd
  rw [if_neg (by simp)]
  simp only [if_true, List.drop_left]
  rw [rdS_of (short n ++ r) n h (by simp)]
  have : ((short n).length == 0) = false := by rw [beq_eq_false_iff_ne]; have := short_length_pos n; omega
  simp only [this]
theorem rb_mid_ (a x r : List UInt8) : rb (a ++ (x ++ r)) a.length false (x.length : Int) = (x, a.length + x.length, false) := by
  unfold rb
  rw [if_neg (by simp), if_neg (by simp; omega), List.drop_left]
  simp
end Go.Proofs.Ytmhcbfcpamkfhaa
