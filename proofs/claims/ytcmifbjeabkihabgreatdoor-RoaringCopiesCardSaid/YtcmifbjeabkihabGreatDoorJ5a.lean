/- Plain mathematics: the number of which so many are below; how many numbers a span cuts out; what is too much to be looked at. -/
import Derived.Test.YtcmifbjeabkihabGreatDoorMd0
namespace Go.Proofs.YtcmifbjeabkihabGreatDoor
set_option linter.unusedVariables false

theorem ct_find {p : Nat → Bool} {k : Nat} : ∀ {n : Nat}, k < ct p n → ∃ x, x < n ∧ p x = true ∧ ct p x = k
  | 0, h => by simp [ct] at h
  | n + 1, h => by
    by_cases h1 : k < ct p n
    · obtain ⟨x, a, b, c⟩ := ct_find h1
      exact ⟨x, by omega, b, c⟩
    · cases hp : p n with
      | true => exact ⟨n, by omega, hp, by rw [ct, hp] at h; simp at h; omega⟩
      | false => rw [ct, hp] at h; simp at h; omega
theorem ct_uniq {p : Nat → Bool} {x y : Nat} (hx : p x = true) (hy : p y = true) (h : ct p x = ct p y) : x = y := by
  rcases Nat.lt_trichotomy x y with h1 | h1 | h1
  · have := ct_hit' hx h1; omega
  · exact h1
  · have := ct_hit' hy h1; omega
theorem ct_cut_ (P f : Nat → Bool) (lo hi : Nat) (h : lo ≤ hi) (hf : ∀ x, f x = (P x && (decide (lo ≤ x) && decide (x < hi)))) : ∀ n, ct f n + ct P (min n lo) = ct P (min n hi)
  | 0 => by simp [ct]
  | n + 1 => by
    have ih := ct_cut_ P f lo hi h hf n
    have e := hf n
    have s1 : ct f (n + 1) = ct f n + (f n).toNat := rfl
    have s2 : ct P (n + 1) = ct P n + (P n).toNat := rfl
    rw [s1]
    by_cases h1 : n < lo
    · rw [Nat.min_eq_left (by omega : n + 1 ≤ lo), Nat.min_eq_left (by omega : n + 1 ≤ hi)]
      rw [Nat.min_eq_left (by omega : n ≤ lo), Nat.min_eq_left (by omega : n ≤ hi)] at ih
      rw [decide_eq_false (by omega : ¬ lo ≤ n)] at e
      have e2 : (f n).toNat = 0 := by rw [e]; simp
      omega
    · rw [Nat.min_eq_right (by omega : lo ≤ n + 1)]
      rw [Nat.min_eq_right (by omega : lo ≤ n)] at ih
      rw [decide_eq_true (by omega : lo ≤ n)] at e
      by_cases h2 : n < hi
      · rw [Nat.min_eq_left (by omega : n + 1 ≤ hi)]
        rw [Nat.min_eq_left (by omega : n ≤ hi)] at ih
        rw [decide_eq_true h2] at e
        have e2 : (f n).toNat = (P n).toNat := by rw [e]; simp
        omega
      · rw [Nat.min_eq_right (by omega : hi ≤ n + 1)]
        rw [Nat.min_eq_right (by omega : hi ≤ n)] at ih
        rw [decide_eq_false h2] at e
        have e2 : (f n).toNat = 0 := by rw [e]; simp
        omega
theorem ct_cut (P : Nat → Bool) (lo hi : Nat) (h : lo ≤ hi) (n : Nat) : ct (fun x => fAnd (P x) (decide (lo ≤ x) && decide (x < hi))) n + ct P (min n lo) = ct P (min n hi) :=
  ct_cut_ P _ lo hi h (fun _ => rfl) n
theorem ct_cut0 (P : Nat → Bool) (lo hi : Nat) (h : hi ≤ lo) (n : Nat) : ct (fun x => fAnd (P x) (decide (lo ≤ x) && decide (x < hi))) n = 0 :=
  ct_zero fun j _ => by
    unfold fAnd
    by_cases h1 : lo ≤ j
    · rw [decide_eq_false (by omega : ¬ j < hi)]; simp
    · rw [decide_eq_false h1]; simp
/-- What a span weighs; what is too much. -/
def gk (s : Sn) : Nat := if s.1.toNat < s.2.toNat ∧ s.1.toNat < 4294967296 then min s.2.toNat 4294967296 - s.1.toNat else 0
def gsum (l : List Sn) : Nat := (l.map gk).sum
def grt (l : List Sn) : Bool := (l.any fun s => decide (200000 < gk s)) || decide (60 < l.length) || decide (300000 < gsum l)
theorem gsum_snoc (l : List Sn) (s : Sn) : gsum (l ++ [s]) = gsum l + gk s := by unfold gsum; simp
theorem gsum_take (l : List Sn) (i : Nat) (s : Sn) (h : l[i]? = some s) : gsum (l.take (i + 1)) = gsum (l.take i) + gk s := by
  rw [List.take_add_one, h]
  exact gsum_snoc _ _
theorem grt_hit {l : List Sn} {s : Sn} (h : s ∈ l) (hk : 200000 < gk s) : grt l = true := by
  unfold grt
  have : (l.any fun s => decide (200000 < gk s)) = true := List.any_eq_true.2 ⟨s, h, decide_eq_true hk⟩
  rw [this]; rfl
theorem grt_last {l : List Sn} (h : ∀ s ∈ l, gk s ≤ 200000) : grt l = (decide (60 < l.length) || decide (300000 < gsum l)) := by
  unfold grt
  have : (l.any fun s => decide (200000 < gk s)) = false := List.any_eq_false.2 fun s hs => by have := h s hs; simp; omega
  rw [this]; rfl
theorem grt_no {l : List Sn} (h : grt l = false) : l.length ≤ 60 ∧ gsum l ≤ 300000 := by
  unfold grt at h
  simp at h
  omega
theorem gsum_le {l : List Sn} (h : ∀ s ∈ l, gk s ≤ 200000) : gsum l ≤ 200000 * l.length := by
  induction l with
  | nil => simp [gsum]
  | cons s l ih =>
    have e : gsum (s :: l) = gk s + gsum l := by unfold gsum; simp
    have h1 := ih fun x hx => h x (by simp [hx])
    have h2 := h s (by simp)
    rw [e]
    simp
    omega
theorem ct_or_le (p q : Nat → Bool) : ∀ n, ct (fun x => p x || q x) n ≤ ct p n + ct q n
  | 0 => by simp [ct]
  | n + 1 => by
    have ih := ct_or_le p q n
    unfold ct
    cases p n <;> cases q n <;> simp <;> omega
end Go.Proofs.YtcmifbjeabkihabGreatDoor
