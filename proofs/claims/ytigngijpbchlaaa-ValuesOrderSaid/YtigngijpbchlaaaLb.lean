/- Walks: which of two comes first: cmp.Compare, cmp.Or, strings.Compare, values.Compare; values.May, Int, Text. -/
import Derived.Test.YtigngijpbchlaaaLa
import Derived.Test.YtigngijpbchlaaaGm
import Derived.Deep.RegionWith
import Derived.BigQuiet
import Derived.Deep.QuietTactic
namespace Go.Proofs.Ytigngijpbchlaaa
open Go.RowKit
set_option linter.unusedVariables false

set_option maxHeartbeats 400000 in
theorem isNaN8_any (x : Int) (w : World) : Calls Try.prog 36 #[.int .u8 x] w fun e w' => e = .returned (.bool false) ∧ w = w' := by
  have hb : (x != x) = false := by simp
  go_enter Try.func36, Try.ntmps36
  go_wp2
  go_ret
  exact ⟨rfl, rfl⟩
set_option maxHeartbeats 400000 in
theorem isNaN64_any (x : Int) (w : World) : Calls Try.prog 37 #[.int .i64 x] w fun e w' => e = .returned (.bool false) ∧ w = w' := by
  have hb : (x != x) = false := by simp
  go_enter Try.func37, Try.ntmps37
  go_wp2
  go_ret
  exact ⟨rfl, rfl⟩
set_option maxHeartbeats 400000 in
theorem cmp8_any (x y : Int) (w : World) : Calls Try.prog 22 #[.int .u8 x, .int .u8 y] w fun e w' => e = .returned (.int .i64 (cmpI x y)) ∧ w = w' := by
  rcases cmpI_or x y with ⟨h, e⟩ | ⟨h, e⟩ | ⟨h, e⟩
  all_goals
    rw [e]
    have h1 : decide (x < y) = (if x < y then true else false) := by by_cases g : x < y <;> simp [g]
    have h2 : decide (y < x) = (if y < x then true else false) := by by_cases g : y < x <;> simp [g]
  · rw [if_pos h] at h1
    rw [if_neg (by omega)] at h2
    clear h
    go_enter Try.func22, Try.ntmps22
    go_wp2_with (go_at_call 36; refine (isNaN8_any _ _).mono ?_; rintro e w1 ⟨rfl, rfl⟩)
    go_ret
    exact ⟨rfl, rfl⟩
  · rw [if_neg (by omega)] at h1
    rw [if_neg (by omega)] at h2
    clear h
    go_enter Try.func22, Try.ntmps22
    go_wp2_with (go_at_call 36; refine (isNaN8_any _ _).mono ?_; rintro e w1 ⟨rfl, rfl⟩)
    go_ret
    exact ⟨rfl, rfl⟩
  · rw [if_neg (by omega)] at h1
    rw [if_pos h] at h2
    clear h
    go_enter Try.func22, Try.ntmps22
    go_wp2_with (go_at_call 36; refine (isNaN8_any _ _).mono ?_; rintro e w1 ⟨rfl, rfl⟩)
    go_ret
    exact ⟨rfl, rfl⟩
set_option maxHeartbeats 400000 in
theorem cmp64_any (x y : Int) (w : World) : Calls Try.prog 23 #[.int .i64 x, .int .i64 y] w fun e w' => e = .returned (.int .i64 (cmpI x y)) ∧ w = w' := by
  rcases cmpI_or x y with ⟨h, e⟩ | ⟨h, e⟩ | ⟨h, e⟩
  all_goals
    rw [e]
    have h1 : decide (x < y) = (if x < y then true else false) := by by_cases g : x < y <;> simp [g]
    have h2 : decide (y < x) = (if y < x then true else false) := by by_cases g : y < x <;> simp [g]
  · rw [if_pos h] at h1
    rw [if_neg (by omega)] at h2
    clear h
    go_enter Try.func23, Try.ntmps23
    go_wp2_with (go_at_call 37; refine (isNaN64_any _ _).mono ?_; rintro e w1 ⟨rfl, rfl⟩)
    go_ret
    exact ⟨rfl, rfl⟩
  · rw [if_neg (by omega)] at h1
    rw [if_neg (by omega)] at h2
    clear h
    go_enter Try.func23, Try.ntmps23
    go_wp2_with (go_at_call 37; refine (isNaN64_any _ _).mono ?_; rintro e w1 ⟨rfl, rfl⟩)
    go_ret
    exact ⟨rfl, rfl⟩
  · rw [if_neg (by omega)] at h1
    rw [if_pos h] at h2
    clear h
    go_enter Try.func23, Try.ntmps23
    go_wp2_with (go_at_call 37; refine (isNaN64_any _ _).mono ?_; rintro e w1 ⟨rfl, rfl⟩)
    go_ret
    exact ⟨rfl, rfl⟩
set_option maxHeartbeats 1000000 in
set_option maxRecDepth 100000 in
theorem compareString_any (a b : ByteArray) (w : World) :
    Calls Try.prog 38 #[.string a, .string b] w fun e w' => e = .returned (.int .i64 (cmpB a.data.toList b.data.toList)) ∧ w = w' := by
  go_enter Try.func38, Try.ntmps38
  go_wp2
  rw [run_callFunc_extern Try.func46 (by kernel_rfl) (by kernel_rfl) (by kernel_rfl) (e := Extern.BytealgCompare.compare) (by kernel_rfl), Lib.run_compareString]
  simp only [Result.andThen]
  rw [Oper.upon_value]
  go_wp2
  go_ret
  exact ⟨rfl, rfl⟩
set_option maxHeartbeats 400000 in
theorem compareS_any (a b : ByteArray) (w : World) :
    Calls Try.prog 24 #[.string a, .string b] w fun e w' => e = .returned (.int .i64 (cmpB a.data.toList b.data.toList)) ∧ w = w' := by
  go_enter Try.func24, Try.ntmps24
  go_wp2_with (go_at_call 38; refine (compareString_any _ _ _).mono ?_; rintro e w1 ⟨rfl, rfl⟩)
  go_ret
  exact ⟨rfl, rfl⟩

set_option maxHeartbeats 1000000 in
theorem or_any (g : Nat) (a b c : Int) (w : World) (h0 : w.cell? ⟨g, 0, none⟩ = some (.int .i64 a)) (h1 : w.cell? ⟨g, 1, none⟩ = some (.int .i64 b)) (h2 : w.cell? ⟨g, 2, none⟩ = some (.int .i64 c)) :
    Calls Try.prog 21 #[.slice (some ⟨g, 0, none⟩) 3 3] w fun e w' => e = .returned (.int .i64 (orI a b c)) ∧ w = w' := by
  go_enter Try.func21, Try.ntmps21
  go_wp2
  go_loopw [8] (fun i wr => wr = w ∧ (i = .int .i64 0 ∨ (i = .int .i64 1 ∧ a = 0) ∨ (i = .int .i64 2 ∧ a = 0 ∧ b = 0) ∨ (i = .int .i64 3 ∧ a = 0 ∧ b = 0 ∧ c = 0))) (fun i _ => (3 - intOf i).toNat)
  case atStart => exact ⟨rfl, .inl rfl⟩
  case round =>
    obtain ⟨rfl, rfl | ⟨rfl, ha⟩ | ⟨rfl, ha, hb⟩ | ⟨rfl, ha, hb, hc⟩⟩ := hrel
    · by_cases h : a = 0
      · have hz : (a != 0) = false := by simp [h]
        go_wp2
        go_roundw
        case rel => exact ⟨by trivial, .inr (.inl ⟨rfl, h⟩)⟩
        case measure => simp [intOf]
      · have hz : (a != 0) = true := by simp [h]
        go_wp2
        go_ret
        exact ⟨by rw [orI, if_pos h]; rfl, rfl⟩
    · by_cases h : b = 0
      · have hz : (b != 0) = false := by simp [h]
        go_wp2
        go_roundw
        case rel => exact ⟨by trivial, .inr (.inr (.inl ⟨rfl, ha, h⟩))⟩
        case measure => simp [intOf]
      · have hz : (b != 0) = true := by simp [h]
        go_wp2
        go_ret
        exact ⟨by rw [orI, if_neg (by simpa using ha), if_pos h]; rfl, rfl⟩
    · by_cases h : c = 0
      · have hz : (c != 0) = false := by simp [h]
        go_wp2
        go_roundw
        case rel => exact ⟨by trivial, .inr (.inr (.inr ⟨rfl, ha, hb, h⟩))⟩
        case measure => simp [intOf]
      · have hz : (c != 0) = true := by simp [h]
        go_wp2
        go_ret
        exact ⟨by rw [orI, if_neg (by simpa using ha), if_neg (by simpa using hb)]; rfl, rfl⟩
    · go_wp2
      go_ret
      exact ⟨by rw [orI, if_neg (by simpa using ha), if_neg (by simpa using hb), hc]; rfl, rfl⟩


/-- A value as the model has it. -/
abbrev vV (k n : Int) (s : ByteArray) : Value := .agg #[.int .u8 k, .int .i64 n, .string s]
abbrev bls (s : ByteArray) : List UInt8 := s.data.toList
theorem bls_len (s : ByteArray) : (bls s).length = s.size := Array.length_toList
end Go.Proofs.Ytigngijpbchlaaa
