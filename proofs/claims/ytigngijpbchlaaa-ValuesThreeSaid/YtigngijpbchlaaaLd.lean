/- Walks: values.Int, Text, May; the document's May. -/
import Derived.Test.YtigngijpbchlaaaLc
namespace Go.Proofs.Ytigngijpbchlaaa
open Go.RowKit
set_option linter.unusedVariables false

theorem bls_list (s : ByteArray) : s.toList = bls s := ByteArray.toList_eq s
theorem may_one (n : Int) (s : ByteArray) : s.toList.isEmpty = mayV 1 n (bls s) := by rw [bls_list]; rfl
theorem may_two {n : Int} (h : n = 0) (s : ByteArray) : decide ((s.size : Int) ≤ 65535) = mayV 2 n (bls s) := by
  unfold mayV
  rw [if_neg (by omega), if_pos rfl, decide_eq_true h, Bool.true_and, bls_len]
  exact decide_eq_decide.2 (by omega)
theorem may_not {n : Int} (h : n ≠ 0) (s : ByteArray) : false = mayV 2 n (bls s) := by
  unfold mayV
  rw [if_neg (by omega), if_pos rfl, decide_eq_false h, Bool.false_and]
theorem may_none {k n : Int} (h1 : k ≠ 1) (h2 : k ≠ 2) (s : ByteArray) : false = mayV k n (bls s) := by
  unfold mayV
  rw [if_neg h1, if_neg h2]

set_option maxHeartbeats 400000 in
theorem int_any (n : Int) (w : World) :
    Calls Try.prog 8 #[.int .i64 n] w fun e w' => e = .returned (vV 1 n ⟨#[]⟩) ∧ Below w.heap.size w w' := by
  go_enter Try.func8, Try.ntmps8
  go_wp2
  refine bodyPost_ret (v := vV 1 n ⟨#[]⟩) (by simp [results, Try.results8, go_sem]) rfl ⟨rfl, (Below.refl _ _).alloc (Nat.le_refl _) _⟩
set_option maxHeartbeats 400000 in
theorem text_any (s : ByteArray) (w : World) :
    Calls Try.prog 9 #[.string s] w fun e w' => e = .returned (vV 2 0 s) ∧ Below w.heap.size w w' := by
  go_enter Try.func9, Try.ntmps9
  go_wp2
  refine bodyPost_ret (v := vV 2 0 s) (by simp [results, Try.results9, go_sem]) rfl ⟨rfl, (Below.refl _ _).alloc (Nat.le_refl _) _⟩
set_option maxHeartbeats 400000 in
theorem may_any (k n : Int) (s : ByteArray) (w : World) :
    Calls Try.prog 10 #[vV k n s] w fun e w' => e = .returned (.bool (mayV k n (bls s))) ∧ Below w.heap.size w w' := by
  by_cases h1 : k = 1
  · subst h1
    go_enter Try.func10, Try.ntmps10
    go_wp2
    go_ret
    exact ⟨congrArg (fun b => Ending.returned (Value.bool b)) (may_one n s), (Below.refl _ _).alloc (Nat.le_refl _) _⟩
  · have e1 : (k == 1) = false := by simp [h1]
    by_cases h2 : k = 2
    · subst h2
      by_cases hn : n = 0
      · have e3 : (n == 0) = true := by simp [hn]
        go_enter Try.func10, Try.ntmps10
        go_wp2
        go_ret
        exact ⟨congrArg (fun b => Ending.returned (Value.bool b)) (may_two hn s), (Below.refl _ _).alloc (Nat.le_refl _) _⟩
      · have e3 : (n == 0) = false := by simp [hn]
        go_enter Try.func10, Try.ntmps10
        go_wp2
        go_ret
        exact ⟨congrArg (fun b => Ending.returned (Value.bool b)) (may_not hn s), (Below.refl _ _).alloc (Nat.le_refl _) _⟩
    · have e2 : (k == 2) = false := by simp [h2]
      go_enter Try.func10, Try.ntmps10
      go_wp2
      go_ret
      exact ⟨congrArg (fun b => Ending.returned (Value.bool b)) (may_none h1 h2 s), (Below.refl _ _).alloc (Nat.le_refl _) _⟩
set_option maxHeartbeats 400000 in
theorem refmay_any (k n : Int) (s : ByteArray) (w : World) :
    Calls Try.prog 11 #[vV k n s] w fun e w' => e = .returned (.bool (mayV k n (bls s))) ∧ Below w.heap.size w w' := by
  by_cases h1 : k = 1
  · subst h1
    go_enter Try.func11, Try.ntmps11
    go_wp2
    go_ret
    exact ⟨congrArg (fun b => Ending.returned (Value.bool b)) (may_one n s), (Below.refl _ _).alloc (Nat.le_refl _) _⟩
  · have e1 : (k == 1) = false := by simp [h1]
    by_cases h2 : k = 2
    · subst h2
      by_cases hn : n = 0
      · have e3 : (n == 0) = true := by simp [hn]
        go_enter Try.func11, Try.ntmps11
        go_wp2
        go_ret
        exact ⟨congrArg (fun b => Ending.returned (Value.bool b)) (may_two hn s), (Below.refl _ _).alloc (Nat.le_refl _) _⟩
      · have e3 : (n == 0) = false := by simp [hn]
        go_enter Try.func11, Try.ntmps11
        go_wp2
        go_ret
        exact ⟨congrArg (fun b => Ending.returned (Value.bool b)) (may_not hn s), (Below.refl _ _).alloc (Nat.le_refl _) _⟩
    · have e2 : (k == 2) = false := by simp [h2]
      go_enter Try.func11, Try.ntmps11
      go_wp2
      go_ret
      exact ⟨congrArg (fun b => Ending.returned (Value.bool b)) (may_none h1 h2 s), (Below.refl _ _).alloc (Nat.le_refl _) _⟩
end Go.Proofs.Ytigngijpbchlaaa
