/- Walks: the document's So. -/
import Derived.Test.YtjojhoaienjjeaaMa3
namespace Go.Proofs.Ytjojhoaienjjeaa
open Go.RowKit
set_option linter.unusedVariables false

set_option maxHeartbeats 1000000 in
set_option maxRecDepth 100000 in
theorem so_any (k n : Int) (s : ByteArray) (cmp : Int) (k' n' : Int) (s' : ByteArray) (w : World) (hs : s.size ≤ 1000000000) (hs' : s'.size ≤ 1000000000) :
    Calls Try.prog 38 #[vV k n s, .int .u8 cmp, vV k' n' s'] w fun e w' => e = .returned (.bool (soI (cmpV k n (bls s) k' n' (bls s')) cmp)) ∧ Below w.heap.size w w' := by
  have hc := fun W => refcompare_any k n s k' n' s' W hs hs'
  generalize cmpV k n (bls s) k' n' (bls s') = C at hc ⊢
  clear hs hs'
  have hcase : cmp = 1 ∨ cmp = 2 ∨ cmp = 3 ∨ cmp = 4 ∨ cmp = 5 ∨ (cmp ≠ 1 ∧ cmp ≠ 2 ∧ cmp ≠ 3 ∧ cmp ≠ 4 ∧ cmp ≠ 5) := by omega
  rcases hcase with h | h | h | h | h | h
  · skip
    subst h
    have hS : soI C 1 = (C == 0) := by by_cases h : C = 0 <;> simp [soI, h]
    have HS := Lib.hid hS
    clear hS
    go_enter Try.func38, Try.ntmps38
    go_wp2_with (go_at_call 56; refine (hc _).mono ?_; rintro e w3 ⟨rfl, b3⟩; have hB := (Bx2.new w k n s k' n' s').step b3; have HB := Lib.hid hB; clear hB b3)
    go_ret
    exact ⟨by rw [HS.out]; first | rfl | (simp; done), HB.out.below⟩
  · skip
    subst h
    have hS : soI C 2 = (C != 0) := by by_cases h : C = 0 <;> simp [soI, h]
    have HS := Lib.hid hS
    clear hS
    go_enter Try.func38, Try.ntmps38
    go_wp2_with (go_at_call 56; refine (hc _).mono ?_; rintro e w3 ⟨rfl, b3⟩; have hB := (Bx2.new w k n s k' n' s').step b3; have HB := Lib.hid hB; clear hB b3)
    go_ret
    exact ⟨by rw [HS.out]; first | rfl | (simp; done), HB.out.below⟩
  · skip
    subst h
    have hS : soI C 3 = (decide (C < 0)) := by simp [soI]
    have HS := Lib.hid hS
    clear hS
    go_enter Try.func38, Try.ntmps38
    go_wp2_with (go_at_call 56; refine (hc _).mono ?_; rintro e w3 ⟨rfl, b3⟩; have hB := (Bx2.new w k n s k' n' s').step b3; have HB := Lib.hid hB; clear hB b3)
    go_ret
    exact ⟨by rw [HS.out]; first | rfl | (simp; done), HB.out.below⟩
  · skip
    subst h
    have hS : soI C 4 = (decide (C ≤ 0)) := by simp [soI]
    have HS := Lib.hid hS
    clear hS
    go_enter Try.func38, Try.ntmps38
    go_wp2_with (go_at_call 56; refine (hc _).mono ?_; rintro e w3 ⟨rfl, b3⟩; have hB := (Bx2.new w k n s k' n' s').step b3; have HB := Lib.hid hB; clear hB b3)
    go_ret
    exact ⟨by rw [HS.out]; first | rfl | (simp; done), HB.out.below⟩
  · skip
    subst h
    have hS : soI C 5 = (decide (0 < C)) := by simp [soI]
    have HS := Lib.hid hS
    clear hS
    go_enter Try.func38, Try.ntmps38
    go_wp2_with (go_at_call 56; refine (hc _).mono ?_; rintro e w3 ⟨rfl, b3⟩; have hB := (Bx2.new w k n s k' n' s').step b3; have HB := Lib.hid hB; clear hB b3)
    go_ret
    exact ⟨by rw [HS.out]; first | rfl | (simp; done), HB.out.below⟩
  · skip
    have hS : soI C cmp = decide (0 ≤ C) := by simp [soI, h]
    have n1 : (cmp == 1) = false := by simp [h]
    have n2 : (cmp == 2) = false := by simp [h]
    have n3 : (cmp == 3) = false := by simp [h]
    have n4 : (cmp == 4) = false := by simp [h]
    have n5 : (cmp == 5) = false := by simp [h]
    have HS := Lib.hid hS
    clear hS h
    go_enter Try.func38, Try.ntmps38
    go_wp2_with (go_at_call 56; refine (hc _).mono ?_; rintro e w3 ⟨rfl, b3⟩; have hB := (Bx2.new w k n s k' n' s').step b3; have HB := Lib.hid hB; clear hB b3)
    go_ret
    exact ⟨by rw [HS.out]; first | rfl | (simp; done), HB.out.below⟩
end Go.Proofs.Ytjojhoaienjjeaa
