/- Walks: which widths and counts there are, how many bytes numbers take. -/
import Derived.Test.YtpanfpcfhgnkoaaWa
import Derived.Test.YtpanfpcfhgnkoaaQb
namespace Go.Proofs.Ytpanfpcfhgnkoaa
open Go.RowKit
set_option linter.unusedVariables false

theorem isWidth_yes (n : Int) (w : World) (h1 : 1 ≤ n) (h2 : n ≤ 64) : Calls Try.prog 44 #[.int .i64 n] w fun e w' => e = .returned (.bool true) ∧ w = w' := by
  go_enter Try.func44, Try.ntmps44
  go_wp2
  go_ret
  exact ⟨rfl, rfl⟩
theorem isWidth_no (n : Int) (w : World) (h : n < 1 ∨ 64 < n) : Calls Try.prog 44 #[.int .i64 n] w fun e w' => e = .returned (.bool false) ∧ w = w' := by
  by_cases h1 : 1 ≤ n
  · have h2 : decide (n ≤ 64) = false := by simp; omega
    clear h
    go_enter Try.func44, Try.ntmps44
    go_wp2
    go_ret
    exact ⟨rfl, rfl⟩
  · have h2 : decide (1 ≤ n) = false := by simpa using h1
    clear h
    go_enter Try.func44, Try.ntmps44
    go_wp2
    go_ret
    exact ⟨rfl, rfl⟩
theorem isCount_yes (n : Int) (w : World) (h1 : 0 ≤ n) (h2 : n ≤ 1099511627776) : Calls Try.prog 63 #[.int .i64 n] w fun e w' => e = .returned (.bool true) ∧ w = w' := by
  go_enter Try.func63, Try.ntmps63
  go_wp2
  go_ret
  exact ⟨rfl, rfl⟩
theorem isCount_no (n : Int) (w : World) (h : n < 0 ∨ 1099511627776 < n) : Calls Try.prog 63 #[.int .i64 n] w fun e w' => e = .returned (.bool false) ∧ w = w' := by
  by_cases h1 : 0 ≤ n
  · have h2 : decide (n ≤ 1099511627776) = false := by simp; omega
    clear h
    go_enter Try.func63, Try.ntmps63
    go_wp2
    go_ret
    exact ⟨rfl, rfl⟩
  · have h2 : decide (0 ≤ n) = false := by simpa using h1
    clear h
    go_enter Try.func63, Try.ntmps63
    go_wp2
    go_ret
    exact ⟨rfl, rfl⟩

/-- The width of a number. -/
def wd (x : Nat) : Nat := max 1 (bl x)
set_option maxHeartbeats 400000 in
theorem width_any (x : Int) (w : World) (h0 : 0 ≤ x) (h1 : x ≤ 18446744073709551615) : Calls Try.prog 43 #[.int .u64 x] w fun e w' => e = .returned (.int .i64 (wd x.toNat : Nat)) ∧ w = w' := by
  have hb : ((bl x.toNat : Nat) : Int) ≤ 64 := by have := bl_le x.toNat (by omega); omega
  go_enter Try.func43, Try.ntmps43
  go_wp2_with (go_at_call 62; refine (len64_int _ _ h0 h1).mono ?_; rintro e w1 ⟨rfl, rfl⟩)
  all_goals
    go_ret
    refine ⟨congrArg Ending.returned (congrArg (Value.int IntKind.i64) ?_), rfl⟩
    unfold wd
    omega
theorem wd_le (x : Nat) (h : x < 18446744073709551616) : wd x ≤ 64 := by
  have := bl_le x h
  unfold wd
  omega
theorem wd_fit (x w : Nat) (hw : 0 < w) : wd x ≤ w ↔ x < 2 ^ w := by
  unfold wd bl
  by_cases h0 : x = 0
  · subst h0
    have := Nat.two_pow_pos w
    simp
    omega
  · rw [if_neg h0]
    have := Nat.log2_lt (k := w) h0
    rw [← this]
    omega
theorem mul_bound (n w N : Nat) (h : n ≤ N) (hw : w ≤ 64) : n * w ≤ 64 * N := by
  have := Nat.mul_le_mul h hw
  omega

set_option maxHeartbeats 400000 in
theorem size_yes (n w : Nat) (W : World) (hn : n ≤ 1099511627776) (h1 : 1 ≤ w) (h2 : w ≤ 64) : Calls Try.prog 46 #[.int .i64 n, .int .i64 w] W fun e w' => e = .returned (.int .i64 (sz n w : Nat)) ∧ W = w' := by
  have hm := mul_bound n w _ hn h2
  go_enter Try.func46, Try.ntmps46
  go_wp2_with (first | (go_at_call 63; refine (isCount_yes _ _ (by omega) (by omega)).mono ?_; rintro e w1 ⟨rfl, rfl⟩) | (go_at_call 44; refine (isWidth_yes _ _ (by omega) (by omega)).mono ?_; rintro e w1 ⟨rfl, rfl⟩))
  go_ret
  refine ⟨congrArg Ending.returned (congrArg (Value.int IntKind.i64) ?_), rfl⟩
  unfold sz
  omega
set_option maxHeartbeats 400000 in
theorem size_no (n w : Int) (W : World) (h : n < 0 ∨ 1099511627776 < n ∨ w < 1 ∨ 64 < w) : Calls Try.prog 46 #[.int .i64 n, .int .i64 w] W fun e w' => e = .returned (.int .i64 0) ∧ W = w' := by
  by_cases hn : n < 0 ∨ 1099511627776 < n
  · clear h
    go_enter Try.func46, Try.ntmps46
    go_wp2_with (go_at_call 63; refine (isCount_no _ _ hn).mono ?_; rintro e w1 ⟨rfl, rfl⟩)
    go_ret
    exact ⟨rfl, rfl⟩
  · have h0 : 0 ≤ n := by omega
    have h1 : n ≤ 1099511627776 := by omega
    have hw : w < 1 ∨ 64 < w := by omega
    clear h hn
    go_enter Try.func46, Try.ntmps46
    go_wp2_with (first | (go_at_call 63; refine (isCount_yes _ _ h0 h1).mono ?_; rintro e w1 ⟨rfl, rfl⟩) | (go_at_call 44; refine (isWidth_no _ _ hw).mono ?_; rintro e w1 ⟨rfl, rfl⟩))
    go_ret
    exact ⟨rfl, rfl⟩
end Go.Proofs.Ytpanfpcfhgnkoaa
