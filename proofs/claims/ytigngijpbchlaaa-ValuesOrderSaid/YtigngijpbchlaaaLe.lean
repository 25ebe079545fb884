/- Walks: the document's Less and Compare. -/
import Derived.Test.YtigngijpbchlaaaLd
import Derived.BigRegion
namespace Go.Proofs.Ytigngijpbchlaaa
open Go.RowKit
set_option linter.unusedVariables false

theorem get_bl (s : ByteArray) (j : Nat) (h : j < s.size) : ((bls s).getD j 0) = s[j]'h := by
  have h' : j < (bls s).length := by rw [bls_len]; exact h
  rw [List.getD_eq_getElem?_getD, List.getElem?_eq_getElem h']
  simp only [Option.getD_some, bls]
  exact Array.getElem_toList _
theorem cmpV_k {k n : Int} {s : List UInt8} {k' n' : Int} {s' : List UInt8} (h : k ≠ k') : decide (k < k') = decide (cmpV k n s k' n' s' < 0) := by
  unfold cmpV orI
  rcases cmpI_or k k' with ⟨g, e⟩ | ⟨g, e⟩ | ⟨g, e⟩
  · rw [e]; simp [g]
  · exact absurd g h
  · rw [e]; have : ¬ k < k' := by omega
    simp [this]
theorem cmpV_n {k n : Int} {s : List UInt8} {n' : Int} {s' : List UInt8} (h : n ≠ n') : decide (n < n') = decide (cmpV k n s k n' s' < 0) := by
  unfold cmpV orI
  rw [cmpI_eq]
  rcases cmpI_or n n' with ⟨g, e⟩ | ⟨g, e⟩ | ⟨g, e⟩
  · rw [e]; simp [g]
  · exact absurd g h
  · rw [e]; have : ¬ n < n' := by omega
    simp [this]
theorem cmpV_s (k n : Int) (s s' : List UInt8) : cmpV k n s k n s' = cmpB s s' := by
  unfold cmpV orI
  rw [cmpI_eq, cmpI_eq]
  simp
theorem less_end {s s' : ByteArray} {j : Nat} (k n : Int) (hj : j ≤ s.size) (hj' : j ≤ s'.size) (h : ¬ (j < s.size ∧ j < s'.size)) (hc : cmpB (bls s) (bls s') = cmpB ((bls s).drop j) ((bls s').drop j)) :
    decide (s.size < s'.size) = decide (cmpV k n (bls s) k n (bls s') < 0) := by
  rw [cmpV_s, hc, cmpB_end _ _ j (by rw [bls_len, bls_len]; omega), bls_len, bls_len]
  rcases cmpI_or s.size s'.size with ⟨g, e⟩ | ⟨g, e⟩ | ⟨g, e⟩ <;> rw [e]
  · have : s.size < s'.size := by omega
    simp [this]
  · have : ¬ s.size < s'.size := by omega
    simp [this]
  · have : ¬ s.size < s'.size := by omega
    simp [this]
theorem less_here {s s' : ByteArray} {j x y : Nat} (k n : Int) (h1 : j < s.size) (h2 : j < s'.size) (hx : (s[j]'h1).toNat = x) (hy : (s'[j]'h2).toNat = y) (hne : x ≠ y) (hc : cmpB (bls s) (bls s') = cmpB ((bls s).drop j) ((bls s').drop j)) :
    decide (x < y) = decide (cmpV k n (bls s) k n (bls s') < 0) := by
  rw [cmpV_s, hc, cmpB_next _ _ j (by rw [bls_len]; exact h1) (by rw [bls_len]; exact h2), get_bl s j h1, get_bl s' j h2, hx, hy, if_neg hne]
  rcases cmpI_or x y with ⟨g, e⟩ | ⟨g, e⟩ | ⟨g, e⟩ <;> rw [e]
  · have : x < y := by omega
    simp [this]
  · exact absurd (by omega) hne
  · have : ¬ x < y := by omega
    simp [this]
theorem less_next {s s' : ByteArray} {j x y : Nat} (h1 : j < s.size) (h2 : j < s'.size) (hx : (s[j]'h1).toNat = x) (hy : (s'[j]'h2).toNat = y) (he : x = y) (hc : cmpB (bls s) (bls s') = cmpB ((bls s).drop j) ((bls s').drop j)) :
    cmpB (bls s) (bls s') = cmpB ((bls s).drop (j + 1)) ((bls s').drop (j + 1)) := by
  rw [hc, cmpB_next _ _ j (by rw [bls_len]; exact h1) (by rw [bls_len]; exact h2), get_bl s j h1, get_bl s' j h2, hx, hy, if_pos he]

set_option maxHeartbeats 1000000 in
theorem less_any (k n : Int) (s : ByteArray) (k' n' : Int) (s' : ByteArray) (w : World) (hs : s.size ≤ 1000000000) (hs' : s'.size ≤ 1000000000) :
    Calls Try.prog 25 #[vV k n s, vV k' n' s'] w fun e w' => e = .returned (.bool (decide (cmpV k n (bls s) k' n' (bls s') < 0))) ∧ Below w.heap.size w w' := by
  by_cases hk : k = k'
  · subst hk
    have e0 : (k != k) = false := by simp
    by_cases hn : n = n'
    · subst hn
      have e1 : (n != n) = false := by simp
      go_enter Try.func25, Try.ntmps25
      go_wp2
      go_loopw [5] (fun i wr => ∃ j : Nat, i = .int .i64 j ∧ j ≤ s.size ∧ j ≤ s'.size ∧ cmpB (bls s) (bls s') = cmpB ((bls s).drop j) ((bls s').drop j) ∧ Bx2 w wr k n s k n s') (fun i _ => (s.size - intOf i).toNat)
      case atStart => exact ⟨0, rfl, Nat.zero_le _, Nat.zero_le _, rfl, Bx2.new w k n s k n s'⟩
      case round =>
        obtain ⟨j, rfl, hj, hj', hc, hB⟩ := hrel
        have a2 := hB.a2
        have b2 := hB.b2
        have HB := Lib.hid hB
        have HC := Lib.hid hc
        clear hB hc
        by_cases h1 : j < s.size
        · by_cases h2 : j < s'.size
          · have d1 : decide ((j : Int) < s.size) = true := decide_eq_true (by omega)
            have d2 : decide ((j : Int) < s'.size) = true := decide_eq_true (by omega)
            obtain ⟨x, hx⟩ : ∃ x, (s[j]'h1).toNat = x := ⟨_, rfl⟩
            obtain ⟨y, hy⟩ : ∃ y, (s'[j]'h2).toNat = y := ⟨_, rfl⟩
            by_cases he : x = y
            · have d3 : ((x : Int) != (y : Int)) = false := by simp [he]
              have HE := Lib.hid he
              clear he
              go_wp2
              go_region
              go_wp2
              go_roundw
              case rel => exact ⟨j + 1, by go_num, by omega, by omega, less_next h1 h2 hx hy HE.out HC.out, HB.out.drew⟩
              case measure => simp [intOf]; omega
            · have d3 : ((x : Int) != (y : Int)) = true := by simp; omega
              have HE := Lib.hid he
              clear he
              go_wp2
              go_region
              go_wp2
              go_region
              go_wp2
              go_ret
              exact ⟨congrArg (fun b => Ending.returned (Value.bool b)) (less_here k n h1 h2 hx hy HE.out HC.out), HB.out.below.drew.drew⟩
          · have d1 : decide ((j : Int) < s.size) = true := decide_eq_true (by omega)
            have d2 : decide ((j : Int) < s'.size) = false := decide_eq_false (by omega)
            go_wp2
            go_ret
            exact ⟨congrArg (fun b => Ending.returned (Value.bool b)) (less_end k n hj hj' (fun h => h2 h.2) HC.out), HB.out.below⟩
        · have d1 : decide ((j : Int) < s.size) = false := decide_eq_false (by omega)
          go_wp2
          go_ret
          exact ⟨congrArg (fun b => Ending.returned (Value.bool b)) (less_end k n hj hj' (fun h => h1 h.1) HC.out), HB.out.below⟩
    · have e1 : (n != n') = true := by simp [hn]
      go_enter Try.func25, Try.ntmps25
      go_wp2
      go_ret
      exact ⟨congrArg (fun b => Ending.returned (Value.bool b)) (cmpV_n hn), (Bx2.new w k n s k n' s').below⟩
  · have e0 : (k != k') = true := by simp [hk]
    go_enter Try.func25, Try.ntmps25
    go_wp2
    go_ret
    exact ⟨congrArg (fun b => Ending.returned (Value.bool b)) (cmpV_k hk), (Bx2.new w k n s k' n' s').below⟩

set_option maxHeartbeats 1000000 in
theorem refcompare_any (k n : Int) (s : ByteArray) (k' n' : Int) (s' : ByteArray) (w : World) (hs : s.size ≤ 1000000000) (hs' : s'.size ≤ 1000000000) :
    Calls Try.prog 13 #[vV k n s, vV k' n' s'] w fun e w' => e = .returned (.int .i64 (cmpV k n (bls s) k' n' (bls s'))) ∧ Below w.heap.size w w' := by
  have h1 := fun W => less_any k n s k' n' s' W hs hs'
  have h2 := fun W => less_any k' n' s' k n s W hs' hs
  have ht := cmpV_turn k n (bls s) k' n' (bls s')
  rw [ht] at h2
  rcases cmpV_three k n (bls s) k' n' (bls s') with h | h | h
  all_goals
    rw [h] at h1 h2 ⊢
    have H1 := Lib.hid h1
    have H2 := Lib.hid h2
    clear h1 h2 ht h
    go_enter Try.func13, Try.ntmps13
  · go_wp2_with (go_at_call 25; refine (H1.out _).mono ?_; rintro e w1 ⟨rfl, b1⟩; have hB := (Bx2.new w k n s k' n' s').step b1; have a0 := hB.a0; have a1 := hB.a1; have a2 := hB.a2; have b0 := hB.b0; have c1 := hB.b1; have c2 := hB.b2; have HB := Lib.hid hB; clear hB b1 H1)
    go_ret
    exact ⟨rfl, HB.out.below⟩
  · go_wp2_with (first | (go_at_call 25; refine (H1.out _).mono ?_; rintro e w1 ⟨rfl, b1⟩; have hB := (Bx2.new w k n s k' n' s').step b1; have a0 := hB.a0; have a1 := hB.a1; have a2 := hB.a2; have b0 := hB.b0; have c1 := hB.b1; have c2 := hB.b2; have HB := Lib.hid hB; clear hB b1 H1) | (go_at_call 25; refine (H2.out _).mono ?_; rintro e w2 ⟨rfl, b2⟩; have HC := Lib.hid (HB.out.step b2); clear b2 H2))
    go_ret
    exact ⟨rfl, HC.out.below⟩
  · go_wp2_with (first | (go_at_call 25; refine (H1.out _).mono ?_; rintro e w1 ⟨rfl, b1⟩; have hB := (Bx2.new w k n s k' n' s').step b1; have a0 := hB.a0; have a1 := hB.a1; have a2 := hB.a2; have b0 := hB.b0; have c1 := hB.b1; have c2 := hB.b2; have HB := Lib.hid hB; clear hB b1 H1) | (go_at_call 25; refine (H2.out _).mono ?_; rintro e w2 ⟨rfl, b2⟩; have HC := Lib.hid (HB.out.step b2); clear b2 H2))
    go_ret
    exact ⟨rfl, HC.out.below⟩
end Go.Proofs.Ytigngijpbchlaaa
