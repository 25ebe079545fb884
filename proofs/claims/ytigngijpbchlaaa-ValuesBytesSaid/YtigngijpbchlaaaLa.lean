/- Plain mathematics: the order of values. No Go in sight. -/
import Derived.WalkKit
import Derived.Lib.Bytealg
namespace Go.Proofs.Ytigngijpbchlaaa
open Go.RowKit
set_option linter.unusedVariables false

/-- Which of two whole numbers comes first. -/
def cmpI (x y : Int) : Int := if x < y then -1 else if y < x then 1 else 0
/-- Which of two rows of bytes comes first. -/
abbrev cmpB (a b : List UInt8) : Int := Lib.compareBytes a b
/-- The first of three that is not 0. -/
def orI (a b c : Int) : Int := if a ≠ 0 then a else if b ≠ 0 then b else c
/-- Which of two values comes first. -/
def cmpV (k n : Int) (s : List UInt8) (k' n' : Int) (s' : List UInt8) : Int := orI (cmpI k k') (cmpI n n') (cmpB s s')

theorem cmpI_lt {x y : Int} (h : x < y) : cmpI x y = -1 := by unfold cmpI; rw [if_pos h]
theorem cmpI_gt {x y : Int} (h : y < x) : cmpI x y = 1 := by unfold cmpI; rw [if_neg (by omega), if_pos h]
theorem cmpI_eq (x : Int) : cmpI x x = 0 := by unfold cmpI; simp
theorem cmpI_or (x y : Int) : (x < y ∧ cmpI x y = -1) ∨ (x = y ∧ cmpI x y = 0) ∨ (y < x ∧ cmpI x y = 1) := by
  rcases Int.lt_trichotomy x y with h | h | h
  · exact .inl ⟨h, cmpI_lt h⟩
  · subst h; exact .inr (.inl ⟨rfl, cmpI_eq _⟩)
  · exact .inr (.inr ⟨h, cmpI_gt h⟩)

theorem cmpB_three : ∀ a b : List UInt8, cmpB a b = -1 ∨ cmpB a b = 0 ∨ cmpB a b = 1
  | [], [] => by simp [cmpB, Lib.compareBytes]
  | [], _ :: _ => by simp [cmpB, Lib.compareBytes]
  | _ :: _, [] => by simp [cmpB, Lib.compareBytes]
  | x :: a, y :: b => by
    have ih := cmpB_three a b
    unfold cmpB at ih ⊢
    unfold Lib.compareBytes
    split
    · simp
    · split
      · simp
      · exact ih
theorem cmpB_same : ∀ a : List UInt8, cmpB a a = 0
  | [] => rfl
  | x :: a => by
    unfold cmpB Lib.compareBytes
    rw [if_neg (UInt8.lt_irrefl x), if_neg (UInt8.lt_irrefl x)]
    exact cmpB_same a
theorem cmpB_zero : ∀ a b : List UInt8, cmpB a b = 0 → a = b
  | [], [] => fun _ => rfl
  | [], _ :: _ => fun h => by simp [cmpB, Lib.compareBytes] at h
  | _ :: _, [] => fun h => by simp [cmpB, Lib.compareBytes] at h
  | x :: a, y :: b => fun h => by
    unfold cmpB Lib.compareBytes at h
    split at h
    · simp at h
    · split at h
      · simp at h
      · rename_i h1 h2
        have : x = y := UInt8.le_antisymm (UInt8.not_lt.1 h2) (UInt8.not_lt.1 h1)
        rw [this, cmpB_zero a b h]
theorem cmpB_turn : ∀ a b : List UInt8, cmpB b a = -cmpB a b
  | [], [] => rfl
  | [], _ :: _ => by simp [cmpB, Lib.compareBytes]
  | _ :: _, [] => by simp [cmpB, Lib.compareBytes]
  | x :: a, y :: b => by
    have ih := cmpB_turn a b
    unfold cmpB at ih ⊢
    unfold Lib.compareBytes
    by_cases h1 : x < y
    · have h2 : ¬ y < x := UInt8.not_lt.2 (UInt8.le_of_lt h1)
      rw [if_pos h1, if_neg h2, if_pos h1]; rfl
    · by_cases h2 : y < x
      · simp [h1, h2]
      · simpa [h1, h2] using ih
/-- Of three rows of bytes the order goes over. -/
theorem cmpB_over : ∀ a b c : List UInt8, cmpB a b ≤ 0 → cmpB b c ≤ 0 → cmpB a c ≤ 0 ∧ (cmpB a c = 0 → cmpB a b = 0 ∧ cmpB b c = 0)
  | [], [], c => fun _ h => ⟨h, fun e => ⟨rfl, e⟩⟩
  | [], _ :: _, [] => fun _ h => by simp [cmpB, Lib.compareBytes] at h
  | [], _ :: _, _ :: _ => fun _ _ => by simp [cmpB, Lib.compareBytes]
  | _ :: _, [], _ => fun h => by simp [cmpB, Lib.compareBytes] at h
  | _ :: _, _ :: _, [] => fun _ h => by simp [cmpB, Lib.compareBytes] at h
  | x :: a, y :: b, z :: c => fun h1 h2 => by
    have ih := cmpB_over a b c
    unfold cmpB at ih h1 h2 ⊢
    unfold Lib.compareBytes at h1 h2 ⊢
    have e1 : x < y ↔ x.toNat < y.toNat := UInt8.lt_iff_toNat_lt
    have e2 : y < x ↔ y.toNat < x.toNat := UInt8.lt_iff_toNat_lt
    have e3 : y < z ↔ y.toNat < z.toNat := UInt8.lt_iff_toNat_lt
    have e4 : z < y ↔ z.toNat < y.toNat := UInt8.lt_iff_toNat_lt
    have e5 : x < z ↔ x.toNat < z.toNat := UInt8.lt_iff_toNat_lt
    have e6 : z < x ↔ z.toNat < x.toNat := UInt8.lt_iff_toNat_lt
    simp only [e1, e2, e3, e4, e5, e6] at h1 h2 ⊢
    by_cases g1 : x.toNat < y.toNat
    · by_cases g2 : z.toNat < y.toNat
      · rw [if_neg (by omega), if_pos g2] at h2; omega
      · rw [if_pos (show x.toNat < z.toNat by omega)]; omega
    · by_cases g1' : y.toNat < x.toNat
      · rw [if_neg g1, if_pos g1'] at h1; omega
      · have e : x.toNat = y.toNat := by omega
        rw [if_neg g1, if_neg g1'] at h1 ⊢
        rw [e]
        by_cases g2 : y.toNat < z.toNat
        · simp only [if_pos g2]; omega
        · by_cases g3 : z.toNat < y.toNat
          · rw [if_neg g2, if_pos g3] at h2; omega
          · simp only [if_neg g2, if_neg g3] at h2 ⊢
            exact ih h1 h2

theorem cmpV_three (k n : Int) (s : List UInt8) (k' n' : Int) (s' : List UInt8) : cmpV k n s k' n' s' = -1 ∨ cmpV k n s k' n' s' = 0 ∨ cmpV k n s k' n' s' = 1 := by
  unfold cmpV orI
  rcases cmpI_or k k' with ⟨_, h⟩ | ⟨_, h⟩ | ⟨_, h⟩ <;> rcases cmpI_or n n' with ⟨_, h'⟩ | ⟨_, h'⟩ | ⟨_, h'⟩ <;> rw [h, h'] <;> simp [cmpB_three s s']
theorem cmpV_zero {k n : Int} {s : List UInt8} {k' n' : Int} {s' : List UInt8} : cmpV k n s k' n' s' = 0 ↔ k = k' ∧ n = n' ∧ s = s' := by
  unfold cmpV orI
  constructor
  · intro h
    rcases cmpI_or k k' with ⟨g1, h1⟩ | ⟨g1, h1⟩ | ⟨g1, h1⟩ <;> rcases cmpI_or n n' with ⟨g2, h2⟩ | ⟨g2, h2⟩ | ⟨g2, h2⟩ <;> rw [h1, h2] at h <;> simp at h
    exact ⟨g1, g2, cmpB_zero _ _ h⟩
  · rintro ⟨rfl, rfl, rfl⟩
    rw [cmpI_eq, cmpI_eq]
    simp [cmpB_same]
theorem cmpI_turn (x y : Int) : cmpI y x = -cmpI x y := by
  rcases cmpI_or x y with ⟨g, h⟩ | ⟨rfl, h⟩ | ⟨g, h⟩
  · rw [h, cmpI_gt g]; rfl
  · rw [h]; rfl
  · rw [h, cmpI_lt g]
theorem cmpV_turn (k n : Int) (s : List UInt8) (k' n' : Int) (s' : List UInt8) : cmpV k' n' s' k n s = -cmpV k n s k' n' s' := by
  unfold cmpV orI
  rw [cmpI_turn k k', cmpI_turn n n', cmpB_turn s s']
  rcases cmpI_or k k' with ⟨g1, h1⟩ | ⟨g1, h1⟩ | ⟨g1, h1⟩ <;> rcases cmpI_or n n' with ⟨g2, h2⟩ | ⟨g2, h2⟩ | ⟨g2, h2⟩ <;> rw [h1, h2] <;> simp
theorem cmpV_over (k n : Int) (s : List UInt8) (k' n' : Int) (s' : List UInt8) (k2 n2 : Int) (s2 : List UInt8) (h1 : cmpV k n s k' n' s' ≤ 0) (h2 : cmpV k' n' s' k2 n2 s2 ≤ 0) :
    cmpV k n s k2 n2 s2 ≤ 0 ∧ (cmpV k n s k2 n2 s2 = 0 → cmpV k n s k' n' s' = 0 ∧ cmpV k' n' s' k2 n2 s2 = 0) := by
  unfold cmpV orI at *
  rcases cmpI_or k k' with ⟨a1, b1⟩ | ⟨a1, b1⟩ | ⟨a1, b1⟩ <;> rcases cmpI_or k' k2 with ⟨a2, b2⟩ | ⟨a2, b2⟩ | ⟨a2, b2⟩ <;> rw [b1] at h1 ⊢ <;> rw [b2] at h2 ⊢ <;> simp at h1 h2 <;>
    try (rw [cmpI_lt (show k < k2 by omega)]; simp)
  subst a1 a2
  rw [cmpI_eq]
  rcases cmpI_or n n' with ⟨a1, b1⟩ | ⟨a1, b1⟩ | ⟨a1, b1⟩ <;> rcases cmpI_or n' n2 with ⟨a2, b2⟩ | ⟨a2, b2⟩ | ⟨a2, b2⟩ <;> rw [b1] at h1 ⊢ <;> rw [b2] at h2 ⊢ <;> simp at h1 h2 <;>
    try (rw [cmpI_lt (show n < n2 by omega)]; simp)
  subst a1 a2
  rw [cmpI_eq]
  simpa using cmpB_over s s' s2 h1 h2

/-- The document's loop: what is looked at so far is the same. -/
theorem cmpB_end (a b : List UInt8) (i : Nat) (h : i = min a.length b.length) : cmpB (a.drop i) (b.drop i) = cmpI a.length b.length := by
  rcases Nat.lt_trichotomy a.length b.length with g | g | g
  · rw [List.drop_of_length_le (by omega : a.length ≤ i), cmpI_lt (by omega)]
    have : (b.drop i).length ≠ 0 := by rw [List.length_drop]; omega
    cases hb : b.drop i with
    | nil => rw [hb] at this; simp at this
    | cons x r => rfl
  · rw [List.drop_of_length_le (by omega : a.length ≤ i), List.drop_of_length_le (by omega : b.length ≤ i), g, cmpI_eq]; rfl
  · rw [List.drop_of_length_le (by omega : b.length ≤ i), cmpI_gt (by omega)]
    have : (a.drop i).length ≠ 0 := by rw [List.length_drop]; omega
    cases hb : a.drop i with
    | nil => rw [hb] at this; simp at this
    | cons x r => rfl
theorem cmpB_next (a b : List UInt8) (i : Nat) (h1 : i < a.length) (h2 : i < b.length) :
    cmpB (a.drop i) (b.drop i) = if (a.getD i 0).toNat = (b.getD i 0).toNat then cmpB (a.drop (i + 1)) (b.drop (i + 1)) else cmpI (a.getD i 0).toNat (b.getD i 0).toNat := by
  rw [List.drop_eq_getElem_cons h1, List.drop_eq_getElem_cons h2]
  have e1 : a.getD i 0 = a[i] := by simp [List.getD, List.getElem?_eq_getElem h1]
  have e2 : b.getD i 0 = b[i] := by simp [List.getD, List.getElem?_eq_getElem h2]
  rw [e1, e2]
  generalize a[i] = x
  generalize b[i] = y
  unfold cmpB
  rw [Lib.compareBytes]
  have g1 : x < y ↔ x.toNat < y.toNat := UInt8.lt_iff_toNat_lt
  have g2 : y < x ↔ y.toNat < x.toNat := UInt8.lt_iff_toNat_lt
  simp only [g1, g2]
  rcases Nat.lt_trichotomy x.toNat y.toNat with g | g | g
  · rw [if_pos g, if_neg (by omega), cmpI_lt (by omega)]
  · rw [if_neg (by omega), if_neg (by omega), if_pos g]
  · rw [if_neg (by omega), if_pos g, if_neg (by omega), cmpI_gt (by omega)]

/-- Whether a value may be. -/
def mayV (k n : Int) (s : List UInt8) : Bool := if k = 1 then s.isEmpty else if k = 2 then decide (n = 0) && decide (s.length ≤ 65535) else false
end Go.Proofs.Ytigngijpbchlaaa
