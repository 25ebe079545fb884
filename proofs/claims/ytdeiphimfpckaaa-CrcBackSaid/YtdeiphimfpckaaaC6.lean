/- Walks: the number that bytes begin with; how many bytes a frame has; what stands framed. -/
import Derived.Test.YtdeiphimfpckaaaC5
namespace Go.Proofs.Ytdeiphimfpckaaa
open Go.RowKit
set_option linter.unusedVariables false

theorem rdW4 (l : List UInt8) : rdW (l.take 4) 4 = if l.length < 4 then (0, 0) else (leVal (l.take 4), 4) := by
  unfold rdW
  simp only [List.length_take, List.take_take, Nat.min_self]
  by_cases h : l.length < 4
  · rw [if_pos h, if_pos (by omega)]
  · rw [if_neg h, if_neg (by omega)]

theorem leVal4 (l : List UInt8) : leVal (l.take 4) < 4294967296 := by
  have h1 := leVal_lt (l.take 4)
  have h2 : 2 ^ (8 * (l.take 4).length) ≤ 2 ^ 32 := Nat.pow_le_pow_right (by omega) (by simp; omega)
  omega

/-- The number that l begins with: 0, if it has less than four bytes. -/
def fn (l : List UInt8) : Nat := if l.length < 4 then 0 else leVal (l.take 4)
theorem fn_lt (l : List UInt8) : fn l < 4294967296 := by unfold fn; split; omega; exact leVal4 l

set_option maxHeartbeats 1000000 in
theorem firstNumber_any (v : Value) (l : List UInt8) (lo : Nat) (w : World) (hv : Gs e8 w lo w.heap.size v l) :
    Calls Try.prog 20 #[v] w fun e w' => e = .returned (.tuple #[.int .u32 (fn l), .bool (decide (4 ≤ l.length))]) ∧ Below w.heap.size w w' := by
  have hlen := hv.len
  have HV := Lib.hid hv
  obtain ⟨A, c, rfl, -, -, -, -⟩ := hv
  have hlc : l.length ≤ c := by
    obtain ⟨A', c', e, -, h, -, -⟩ := HV.out
    injection e with _ _ e3
    omega
  have hcall : ∀ m : Nat, m ≤ l.length → l.take m = l.take 4 → Calls Try.prog 25 #[.slice A m c] w fun e w' => ∃ g v', e = .returned (.pointer (some ⟨g, 0, none⟩)) ∧ Rd w' w.heap.size g v' (l.take 4) 0 false ∧ Below w.heap.size w w' := by
    intro m hm he
    rw [← he]
    have h4 := congrArg List.length he
    rw [List.length_take, List.length_take] at h4
    exact new_any (.slice A m c) (l.take m) lo w (HV.out.take hm) (by simp; omega)
  have HC := Lib.hid hcall
  clear hcall
  go_enter Try.func20, Try.ntmps20
  go_wp2_with fail
  all_goals
    refine (HC.out _ (by omega) (by first | rfl | rw [List.take_of_length_le (by omega), List.take_of_length_le (by omega)])).mono ?_
    rintro e w1 ⟨g, v1, rfl, r1, b1⟩
    have R1 := Lib.hid r1
    have B1 := Lib.hid b1
    clear r1 b1
    go_wp2_with fail
    refine (U32_good _ R1.out).mono ?_
    rintro e w2 ⟨rfl, r2, g2⟩
    rw [List.drop_zero, rdW4] at r2
    rw [List.drop_zero, rdW4]
    have B2 := Lib.hid (B1.out.grown g2 B1.out.size (fun k e => by injection e with e; subst e; exact R1.out.ge))
    have C2 := r2.c2
    clear r2 g2 R1 B1
    have e1 : (if l.length < 4 then ((0 : Nat), (0 : Nat)) else (leVal (l.take 4), 4)).1 = fn l := by unfold fn; split <;> rfl
    have e2 : ((if l.length < 4 then ((0 : Nat), (0 : Nat)) else (leVal (l.take 4), 4)).2 == 0) = decide (l.length < 4) := by split <;> simp [*]
    rw [e2] at C2
    rw [e1]
    clear e1 e2
    have hd : (!decide (l.length < 4)) = decide (4 ≤ l.length) := by by_cases h : l.length < 4 <;> simp [h] <;> omega
    generalize decide (l.length < 4) = x at *
    go_wp2_with fail
    refine (bad_at g x _ C2).mono ?_
    rintro e w3 ⟨rfl, rfl⟩
    go_wp2
    go_ret2
    exact ⟨rfl, B2.out⟩

/-- How many bytes the frame has that s begins with, and the error. -/
def szN (s : List UInt8) : Nat := if s.length < 4 then 0 else if 1073741824 < leVal (s.take 4) then 0 else if s.length < leVal (s.take 4) + 8 then 0 else leVal (s.take 4)
def szE (s : List UInt8) : Nat := if s.length < 4 then 4 else if 1073741824 < leVal (s.take 4) then 3 else if s.length < leVal (s.take 4) + 8 then 4 else 0

set_option maxHeartbeats 1000000 in
theorem sizeOf_any (v : Value) (l : List UInt8) (lo : Nat) (w : World) (hv : Gs e8 w lo w.heap.size v l) :
    Calls Try.prog 19 #[v] w fun e w' => e = .returned (.tuple #[.int .i64 (szN l), .int .i64 (szE l)]) ∧ Below w.heap.size w w' := by
  have hlen := hv.len
  have HV := Lib.hid hv
  obtain ⟨A, c, rfl, -, -, -, -⟩ := hv
  have hF := fn_lt l
  have hl0 := leVal4 l
  by_cases h1 : l.length < 4
  · have e1 : szN l = 0 := by unfold szN; rw [if_pos h1]
    have e2 : szE l = 4 := by unfold szE; rw [if_pos h1]
    have h1' : decide (4 ≤ l.length) = false := by simp; omega
    rw [e1, e2]
    clear hl0
    go_enter Try.func19, Try.ntmps19
    go_wp2_with fail
    refine (firstNumber_any _ l lo _ HV.out).mono ?_
    rintro e w1 ⟨rfl, b1⟩
    rw [h1']
    go_wp2
    go_ret2
    exact ⟨rfl, b1⟩
  · have h1' : decide (4 ≤ l.length) = true := by simp; omega
    have hf : fn l = leVal (l.take 4) := by unfold fn; rw [if_neg h1]
    rw [hf] at hF
    obtain ⟨N, hN⟩ : ∃ N, N = leVal (l.take 4) := ⟨_, rfl⟩
    rw [← hN] at hF hf hl0
    have HN := Lib.hid hN
    have e1 : szN l = if 1073741824 < N then 0 else if l.length < N + 8 then 0 else N := by unfold szN; rw [if_neg h1, ← hN]
    have e2 : szE l = if 1073741824 < N then 3 else if l.length < N + 8 then 4 else 0 := by unfold szE; rw [if_neg h1, ← hN]
    rw [e1, e2]
    clear e1 e2 hN hl0
    by_cases h2 : 1073741824 < N
    · rw [if_pos h2, if_pos h2]
      have h2' : decide ((N : Int) > 1073741824) = true := by simp; omega
      go_enter Try.func19, Try.ntmps19
      go_wp2_with fail
      refine (firstNumber_any _ l lo _ HV.out).mono ?_
      rintro e w1 ⟨rfl, b1⟩
      rw [h1', hf]
      go_wp2
      go_ret2
      exact ⟨rfl, b1⟩
    · rw [if_neg h2, if_neg h2]
      have hN2 : (N : Int) ≤ 1073741824 := by omega
      have hwr : IntKind.i64.wrap (N : Int) = N := by rw [IntKind.wrap_i64]; omega
      by_cases h3 : l.length < N + 8
      · rw [if_pos h3, if_pos h3]
        have h3' : (l.length : Int) - 8 < N := by omega
        go_enter Try.func19, Try.ntmps19
        go_wp2_with fail
        refine (firstNumber_any _ l lo _ HV.out).mono ?_
        rintro e w1 ⟨rfl, b1⟩
        rw [h1', hf]
        go_wp2
        go_ret2
        exact ⟨rfl, b1⟩
      · rw [if_neg h3, if_neg h3]
        have h3' : ¬ ((l.length : Int) - 8 < N) := by omega
        go_enter Try.func19, Try.ntmps19
        go_wp2_with fail
        refine (firstNumber_any _ l lo _ HV.out).mono ?_
        rintro e w1 ⟨rfl, b1⟩
        rw [h1', hf]
        go_wp2
        go_ret2
        exact ⟨rfl, b1⟩
end Go.Proofs.Ytdeiphimfpckaaa
