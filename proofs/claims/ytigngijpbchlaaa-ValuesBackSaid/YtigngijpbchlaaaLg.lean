/- Walks: what is known of values; the law ValuesThree. -/
import Derived.Test.YtigngijpbchlaaaLf
namespace Go.Proofs.Ytigngijpbchlaaa
open Go.RowKit
set_option linter.unusedVariables false

theorem known_one (W : World) : Calls Try.prog 12 #[vV 1 (-1) ⟨#[]⟩, vV 1 1 ⟨#[]⟩] W fun e w' => e = .returned (.int .i64 (-1)) ∧ Below W.heap.size W w' := by
  have h := compareV_any 1 (-1) ⟨#[]⟩ 1 1 ⟨#[]⟩ W
  rw [show cmpV 1 (-1) (bls ⟨#[]⟩) 1 1 (bls ⟨#[]⟩) = -1 from by decide] at h
  exact h
theorem known_two (W : World) : Calls Try.prog 12 #[vV 2 0 ⟨#[98]⟩, vV 2 0 ⟨#[97]⟩] W fun e w' => e = .returned (.int .i64 1) ∧ Below W.heap.size W w' := by
  have h := compareV_any 2 0 ⟨#[98]⟩ 2 0 ⟨#[97]⟩ W
  rw [show cmpV 2 0 (bls ⟨#[98]⟩) 2 0 (bls ⟨#[97]⟩) = 1 from by decide] at h
  exact h
theorem known_three (W : World) : Calls Try.prog 12 #[vV 1 5 ⟨#[]⟩, vV 2 0 ⟨#[97]⟩] W fun e w' => e = .returned (.int .i64 (-1)) ∧ Below W.heap.size W w' := by
  have h := compareV_any 1 5 ⟨#[]⟩ 2 0 ⟨#[97]⟩ W
  rw [show cmpV 1 5 (bls ⟨#[]⟩) 2 0 (bls ⟨#[97]⟩) = -1 from by decide] at h
  exact h
theorem known_four (W : World) : Calls Try.prog 14 #[.slice none 0 0, vV 2 0 ⟨#[97, 98]⟩] W fun e w' => ∃ v', e = .returned v' ∧ Ow w' W.heap.size v' [2, 97, 98] ∧ Below W.heap.size W w' := by
  have h := append_any (.slice none 0 0) [] 0 2 0 ⟨#[97, 98]⟩ W (Gs.nil_ _ _ _) (by simp) (by decide)
  rw [show [] ++ byV 2 (u64 0) (bls ⟨#[97, 98]⟩) = [2, 97, 98] from by decide] at h
  exact h
theorem known_five (W : World) : Calls Try.prog 10 #[vV 0 0 ⟨#[]⟩] W fun e w' => e = .returned (.bool false) ∧ Below W.heap.size W w' := by
  have h := may_any 0 0 ⟨#[]⟩ W
  rw [show mayV 0 0 (bls ⟨#[]⟩) = false from by decide] at h
  exact h

set_option maxHeartbeats 1000000 in
theorem known_any (w : World) : Calls Try.prog 7 #[] w fun e w' => e = .returned (.bool true) ∧ Below w.heap.size w w' := by
  have B := Lib.hid (Below.refl w.heap.size w)
  have K1 := Lib.hid known_one
  have K2 := Lib.hid known_two
  have K3 := Lib.hid known_three
  go_enter Try.func7, Try.ntmps7
  go_wp2_with (first
    | (go_at_call 8; refine (int_any _ _).mono ?_; rintro e w1 ⟨rfl, b⟩; have B2 := Lib.hid (B.out.trans (b.mono B.out.size)); clear B b; have B := B2; clear B2)
    | (go_at_call 9; refine (text_any _ _).mono ?_; rintro e w1 ⟨rfl, b⟩; have B2 := Lib.hid (B.out.trans (b.mono B.out.size)); clear B b; have B := B2; clear B2)
    | (go_at_call 12; refine (K1.out _).mono ?_; rintro e w1 ⟨rfl, b⟩; have B2 := Lib.hid (B.out.trans (b.mono B.out.size)); clear B b; have B := B2; clear B2; clear K1)
    | (go_at_call 12; refine (K2.out _).mono ?_; rintro e w1 ⟨rfl, b⟩; have B2 := Lib.hid (B.out.trans (b.mono B.out.size)); clear B b; have B := B2; clear B2; clear K2)
    | (go_at_call 12; refine (K3.out _).mono ?_; rintro e w1 ⟨rfl, b⟩; have B2 := Lib.hid (B.out.trans (b.mono B.out.size)); clear B b; have B := B2; clear B2; clear K3)
    | (go_at_call 14; refine (known_four _).mono ?_; rintro e w1 ⟨v1, rfl, o1, b⟩; obtain ⟨A1, d1, rfl, -⟩ := o1.sl; have cv := str8 (v := .slice A1 3 d1) o1.sl; have B2 := Lib.hid (B.out.trans (b.mono B.out.size)); clear B b; have B := B2; clear B2)
    | (go_at_call 10; refine (known_five _).mono ?_; rintro e w1 ⟨rfl, b⟩; have B2 := Lib.hid (B.out.trans (b.mono B.out.size)); clear B b; have B := B2; clear B2))
  trace_state
  go_ret
  exact ⟨rfl, B.out⟩
end Go.Proofs.Ytigngijpbchlaaa
