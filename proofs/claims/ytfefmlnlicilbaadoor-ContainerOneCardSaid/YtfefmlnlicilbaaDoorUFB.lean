/- Runs: Has, its comparison (cut from stages 4 to 6) -/
import Derived.Test.YtfefmlnlicilbaaDoorUFA
namespace Go.Proofs.YtfefmlnlicilbaaDoor
open Go.RowKit
set_option linter.unusedVariables false

def fa (A : List Rn) (j : Nat) : Nat := (A.getD j (0, 0)).1.toNat
def la (A : List Rn) (j : Nat) : Nat := lst (A.getD j (0, 0))
theorem getD_some {A : List Rn} {j : Nat} {r : Rn} (h : A[j]? = some r) : A.getD j (0, 0) = r := by simp [List.getD, h]
/-- Runs rise, with a gap. -/
theorem mayr_gap {d : Nat} {A : List Rn} (h : mayr d A = true) {i j : Nat} (hij : i < j) (hj : j < A.length) : la A i + 2 ≤ fa A j := by
  induction A generalizing d i j with
  | nil => simp at hj
  | cons r l ih =>
    obtain ⟨h1, h2, h3⟩ := mayr_cons.1 h
    obtain ⟨j, rfl⟩ : ∃ j', j = j' + 1 := ⟨j - 1, by omega⟩
    have hjl : j < l.length := by simp at hj; omega
    cases i with
    | zero =>
      have e1 : la (r :: l) 0 = lst r := rfl
      have e2 : fa (r :: l) (j + 1) = fa l j := by simp [fa, List.getD]
      rw [e1, e2]
      have hle : ∀ {d : Nat} {l : List Rn} (h : mayr d l = true) {j : Nat} (hj : j < l.length), d ≤ fa l j := by
        intro d l h j hj
        induction l generalizing d j with
        | nil => simp at hj
        | cons s l ih2 =>
          obtain ⟨g1, g2, g3⟩ := mayr_cons.1 h
          have := fst_le s
          cases j with
          | zero => exact g1
          | succ j =>
            have e : fa (s :: l) (j + 1) = fa l j := by simp [fa, List.getD]
            rw [e]
            have := ih2 g3 (j := j) (by simp at hj; omega)
            omega
      exact hle h3 hjl
    | succ i =>
      have e1 : la (r :: l) (i + 1) = la l i := by simp [la, List.getD]
      have e2 : fa (r :: l) (j + 1) = fa l j := by simp [fa, List.getD]
      rw [e1, e2]
      exact ih h3 (by omega) hjl
theorem fa_le_la (A : List Rn) (j : Nat) : fa A j ≤ la A j := fst_le _
theorem mr_at {A : List Rn} {x : Nat} : mr A x = true ↔ ∃ j, j < A.length ∧ fa A j ≤ x ∧ x ≤ la A j := by
  unfold mr
  rw [List.any_eq_true]
  constructor
  · rintro ⟨r, hr, hi⟩
    obtain ⟨j, hj, e⟩ := List.mem_iff_getElem.1 hr
    have e2 : A.getD j (0, 0) = r := getD_some (by rw [List.getElem?_eq_getElem hj, e])
    have := (inr_iff _ _).1 hi
    exact ⟨j, hj, by unfold fa; rw [e2]; exact this.1, by unfold la; rw [e2]; exact this.2⟩
  · rintro ⟨j, hj, h1, h2⟩
    have e2 : A.getD j (0, 0) = A[j] := getD_some (List.getElem?_eq_getElem hj)
    unfold fa at h1
    unfold la at h2
    rw [e2] at h1 h2
    exact ⟨A[j], List.getElem_mem hj, (inr_iff _ _).2 ⟨h1, h2⟩⟩
/-- Where a number is looked for. -/
theorem has_at {A : List Rn} (hA : mayr 0 A = true) {x n : Nat} (hn : n ≤ A.length) (h1 : ∀ j, j < n → fa A j < x) (h2 : ∀ j, n ≤ j → j < A.length → x ≤ fa A j) :
    mr A x = ((decide (n < A.length) && decide (fa A n = x)) || (decide (0 < n) && decide (x ≤ la A (n - 1)))) := by
  rw [Bool.eq_iff_iff, mr_at]
  simp only [Bool.or_eq_true, Bool.and_eq_true, decide_eq_true_eq]
  constructor
  · rintro ⟨j, hj, a, b⟩
    rcases Nat.lt_or_ge j n with hjn | hjn
    · right
      refine ⟨by omega, ?_⟩
      rcases Nat.lt_or_ge j (n - 1) with h | h
      · have := mayr_gap hA h (by omega)
        have := h1 (n - 1) (by omega)
        omega
      · have : j = n - 1 := by omega
        rw [← this]; exact b
    · left
      have hx := h2 j hjn hj
      rcases Nat.lt_or_ge n j with h | h
      · have g := mayr_gap hA h hj
        have := h2 n (Nat.le_refl _) (by omega)
        have := fa_le_la A n
        omega
      · have : n = j := by omega
        rw [this]
        exact ⟨hj, by omega⟩
  · rintro (⟨a, b⟩ | ⟨a, b⟩)
    · exact ⟨n, a, by omega, by have := fa_le_la A n; omega⟩
    · exact ⟨n - 1, by omega, by have := h1 (n - 1) (by omega); omega, b⟩
set_option maxHeartbeats 400000 in
theorem nan_any (x : Int) (w : World) :
    Calls Tryd.prog 94 #[.int .u16 x] w fun e w' => e = .returned (.bool false) ∧ w' = w := by
  go_enter Tryd.func94, Tryd.ntmps94
  go_wp2
  go_ret
  exact ⟨by simp, rfl⟩
def cmpv (x y : Int) : Int := if x < y then -1 else if y < x then 1 else 0
set_option maxHeartbeats 1000000 in
theorem compare_any (x y : Int) (w : World) :
    Calls Tryd.prog 91 #[.int .u16 x, .int .u16 y] w fun e w' => e = .returned (.int .i64 (cmpv x y)) ∧ w' = w := by
  rcases Int.lt_trichotomy x y with h | h | h
  · have e : cmpv x y = -1 := by unfold cmpv; rw [if_pos h]
    rw [e]
    go_enter Tryd.func91, Tryd.ntmps91
    go_wp2_with (go_at_call 94; refine (nan_any _ _).mono ?_; rintro e w1 ⟨rfl, hz⟩; have hz := hz.symm; subst hz)
    go_ret
    exact ⟨rfl, rfl⟩
  · have e : cmpv x y = 0 := by unfold cmpv; rw [if_neg (by omega), if_neg (by omega)]
    rw [e]
    subst h
    go_enter Tryd.func91, Tryd.ntmps91
    go_wp2_with (go_at_call 94; refine (nan_any _ _).mono ?_; rintro e w1 ⟨rfl, hz⟩; have hz := hz.symm; subst hz)
    go_ret
    exact ⟨rfl, rfl⟩
  · have e : cmpv x y = 1 := by unfold cmpv; rw [if_neg (by omega), if_pos h]
    rw [e]
    have h2 : x > y := h
    have h3 : ¬ x < y := by omega
    go_enter Tryd.func91, Tryd.ntmps91
    go_wp2_with (go_at_call 94; refine (nan_any _ _).mono ?_; rintro e w1 ⟨rfl, hz⟩; have hz := hz.symm; subst hz)
    go_ret
    exact ⟨rfl, rfl⟩
set_option maxHeartbeats 1000000 in
theorem hascmp_any (f q x : Nat) (w : World) :
    Calls Tryd.prog 90 #[.agg #[.int .u16 f, .int .u16 q], .int .u16 x] w fun e w' => e = .returned (.int .i64 (cmpv f x)) ∧ Below w.heap.size w w' := by
  have B := Lib.hid ((Below.refl w.heap.size w).alloc (Nat.le_refl _) (.cells #[.int .u16 (f : Int), .int .u16 (q : Int)] 85))
  go_enter Tryd.func90, Tryd.ntmps90
  go_wp2_with (go_at_call 91; refine (compare_any _ _ _).mono ?_; rintro e w1 ⟨rfl, hz⟩; have hz := hz.symm; subst hz)
  go_ret
  exact ⟨rfl, B.out⟩
end Go.Proofs.YtfefmlnlicilbaaDoor
