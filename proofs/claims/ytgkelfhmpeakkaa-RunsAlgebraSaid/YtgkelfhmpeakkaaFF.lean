/- Walks: the document's Flip of marks (as in stage 5's text). -/
import Derived.Test.YtgkelfhmpeakkaaF9a
namespace Go.Proofs.Ytgkelfhmpeakkaa
open Go.RowKit
set_option linter.unusedVariables false

/-- A set, but that each number from lo on, below hi, is there just if it was not. -/
def flp (p : Nat → Bool) (lo hi : Int) (x : Nat) : Bool := p x != (decide (lo ≤ (x : Int)) && decide ((x : Int) < hi))
/-- Where marks are flipped. -/
def qf (lo hi : Int) (x : Nat) : Bool := decide (lo ≤ (x : Int)) && decide ((x : Int) < hi)
set_option maxHeartbeats 1000000 in
set_option maxRecDepth 100000 in
theorem refFlip_any (g : Nat) (p : Nat → Bool) (lo hi : Int) (w : World) (h : Row w g 53 (mA 65536 p)) :
    Calls Try.prog 14 #[.pointer (some ⟨g, 0, none⟩), .int .i64 lo, .int .i64 hi] w fun e w' => e = .returned (.pointer (some ⟨w.heap.size, 0, none⟩)) ∧ Row w' w.heap.size 53 (mA 65536 (flp p lo hi)) ∧ Below w.heap.size w w' := by
  have HA := Lib.hid h
  have hg := h.lt
  clear h
  have hz := (zero_of_info zeroM).1
  generalize hZ : mA 65536 (fun _ => false) = Z at hz
  go_enter Try.func14, Try.ntmps14
  go_wp2
  subst hZ
  go_loopw [8] (fun i wr => ∃ k : Nat, k ≤ 65536 ∧ i = .int .i64 k ∧ Row wr w.heap.size 53 (mA 65536 (up fXor p (qf lo hi) k)) ∧ Below w.heap.size w wr) (fun i _ => ((65536 : Int) - intOf i).toNat)
  case atStart => exact ⟨0, Nat.zero_le _, rfl, by rw [up_zero]; exact Row.new _ _ _, (Below.refl _ _).alloc (Nat.le_refl _) _⟩
  case round =>
    obtain ⟨k, hk, rfl, hr, hbl⟩ := hrel
    have HR := Lib.hid hr
    have HB := Lib.hid hbl
    by_cases hlt : k < 65536
    · have hki : (k : Int) < 65536 := by omega
      have HL := Lib.hid hlt
      have c1 := hr.cell k
      rw [mA_at _ _ _ hlt] at c1
      have c2 := hr.frozen k
      have c3 := (HA.out.below hbl hg).cell k
      rw [mA_at _ _ _ hlt] at c3
      clear hr hbl
      by_cases h1 : lo ≤ (k : Int)
      · by_cases h2 : (k : Int) < hi
        · cases hp : p k
          · rw [hp] at c3
            have HS := Lib.hid (up_succ 65536 fXor p (qf lo hi) k true (by unfold qf; rw [hp, decide_eq_true h1, decide_eq_true h2]; rfl))
            clear hp hlt
            go_wp2_with fail
            go_region
            go_wp2
            go_roundw
            case rel => exact ⟨k + 1, HL.out, by go_num, by rw [HS.out]; exact Row.set_ HR.out k _, below_set HB.out.drew HB.out.size (Nat.le_refl _)⟩
            case measure => simp [intOf]; omega
          · rw [hp] at c3
            have HS := Lib.hid (up_succ 65536 fXor p (qf lo hi) k false (by unfold qf; rw [hp, decide_eq_true h1, decide_eq_true h2]; rfl))
            clear hp hlt
            go_wp2_with fail
            go_region
            go_wp2
            go_roundw
            case rel => exact ⟨k + 1, HL.out, by go_num, by rw [HS.out]; exact Row.set_ HR.out k _, below_set HB.out.drew HB.out.size (Nat.le_refl _)⟩
            case measure => simp [intOf]; omega
        · have q2 : decide ((k : Int) < hi) = false := decide_eq_false h2
          cases hp : p k
          · rw [hp] at c3
            have HS := Lib.hid (up_succ 65536 fXor p (qf lo hi) k false (by unfold qf; rw [hp, decide_eq_true h1, decide_eq_false h2]; rfl))
            clear hp hlt
            go_wp2_with fail
            go_region
            go_wp2
            go_roundw
            case rel => exact ⟨k + 1, HL.out, by go_num, by rw [HS.out]; exact Row.set_ HR.out k _, below_set HB.out.drew HB.out.size (Nat.le_refl _)⟩
            case measure => simp [intOf]; omega
          · rw [hp] at c3
            have HS := Lib.hid (up_succ 65536 fXor p (qf lo hi) k true (by unfold qf; rw [hp, decide_eq_true h1, decide_eq_false h2]; rfl))
            clear hp hlt
            go_wp2_with fail
            go_region
            go_wp2
            go_roundw
            case rel => exact ⟨k + 1, HL.out, by go_num, by rw [HS.out]; exact Row.set_ HR.out k _, below_set HB.out.drew HB.out.size (Nat.le_refl _)⟩
            case measure => simp [intOf]; omega
      · have q1 : decide (lo ≤ (k : Int)) = false := decide_eq_false h1
        cases hp : p k
        · rw [hp] at c3
          have HS := Lib.hid (up_succ 65536 fXor p (qf lo hi) k false (by unfold qf; rw [hp, decide_eq_false h1]; rfl))
          clear hp hlt
          go_wp2_with fail
          go_region
          go_wp2
          go_roundw
          case rel => exact ⟨k + 1, HL.out, by go_num, by rw [HS.out]; exact Row.set_ HR.out k _, below_set HB.out.drew HB.out.size (Nat.le_refl _)⟩
          case measure => simp [intOf]; omega
        · rw [hp] at c3
          have HS := Lib.hid (up_succ 65536 fXor p (qf lo hi) k true (by unfold qf; rw [hp, decide_eq_false h1]; rfl))
          clear hp hlt
          go_wp2_with fail
          go_region
          go_wp2
          go_roundw
          case rel => exact ⟨k + 1, HL.out, by go_num, by rw [HS.out]; exact Row.set_ HR.out k _, below_set HB.out.drew HB.out.size (Nat.le_refl _)⟩
          case measure => simp [intOf]; omega
    · obtain rfl : k = 65536 := by omega
      rw [up_full] at hr
      have HR := Lib.hid hr
      clear hr hbl
      go_wp2
      go_ret
      exact ⟨rfl, HR.out, HB.out⟩

end Go.Proofs.Ytgkelfhmpeakkaa
