/- Plain mathematics: how many numbers a span cuts out of the numbers below 2^32; how many numbers a row of spans has. -/
import Derived.Test.YtcmifbjeabkihaaGreatDoorMd4
import Derived.Test.YtcmifbjeabkihaaGreatDoorJ5a
namespace Go.Proofs.YtcmifbjeabkihaaGreatDoor
set_option linter.unusedVariables false

theorem ct_clp_cut (P : Nat → Bool) (s : Sn) (h : s.1.toNat ≤ s.2.toNat) : ct (fun x => fAnd (P x) (clp32 [s] x)) 4294967296 + ct P (min s.1.toNat 4294967296) = ct P (min s.2.toNat 4294967296) := by
  have e := ct_cut P s.1.toNat s.2.toNat h 4294967296
  rw [Nat.min_comm 4294967296 s.1.toNat, Nat.min_comm 4294967296 s.2.toNat] at e
  rw [ct_ext fun j hj => by rw [clp_one s.1 s.2 j hj]]
  exact e
theorem ct_clp_cut0 (P : Nat → Bool) (s : Sn) (h : s.2.toNat ≤ s.1.toNat) : ct (fun x => fAnd (P x) (clp32 [s] x)) 4294967296 = 0 := by
  rw [ct_ext fun j hj => by rw [clp_one s.1 s.2 j hj]]
  exact ct_cut0 P _ _ h _

theorem ct_one (s : Sn) : ct (clp32 [s]) 4294967296 = gk s := by
  rw [ct_clp32 s.1 s.2 _ (Nat.le_refl _)]
  unfold gk
  split <;> omega
theorem ct_spans (l : List Sn) : ct (clp32 l) 4294967296 ≤ gsum l := by
  induction l with
  | nil => rw [ct_zero fun j _ => by simp [clp32, sp]]; exact Nat.zero_le _
  | cons s l ih =>
    have e : gsum (s :: l) = gk s + gsum l := by unfold gsum; simp
    have h1 := ct_or_le (clp32 [s]) (clp32 l) 4294967296
    have h2 : ct (clp32 (s :: l)) 4294967296 = ct (fun x => clp32 [s] x || clp32 l x) 4294967296 := ct_ext fun j hj => by
      unfold clp32
      rw [sp_cons, sp_cons, sp_nil]
      cases decide (j < 4294967296) <;> simp
    rw [ct_one] at h1
    rw [h2, e]
    exact Nat.le_trans h1 (Nat.add_le_add_left ih _)
end Go.Proofs.YtcmifbjeabkihaaGreatDoor
