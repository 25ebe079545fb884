/- Walks: the document's Both, List, Below and Runs of marks. -/
import Derived.Test.YtgkelfhmpeakkaaF8a
namespace Go.Proofs.Ytgkelfhmpeakkaa
open Go.RowKit
set_option linter.unusedVariables false

/-- The marks when k of them are made. -/
def up (f : Bool → Bool → Bool) (p q : Nat → Bool) (k : Nat) (i : Nat) : Bool := if i < k then f (p i) (q i) else false
theorem up_zero (f : Bool → Bool → Bool) (p q : Nat → Bool) : up f p q 0 = fun _ => false := by funext i; simp [up]
theorem up_full (n : Nat) (f : Bool → Bool → Bool) (p q : Nat → Bool) : mA n (up f p q n) = mA n fun i => f (p i) (q i) := by
  unfold mA
  congr 1
  funext j
  simp [up]
theorem up_succ (n : Nat) (f : Bool → Bool → Bool) (p q : Nat → Bool) (k : Nat) (b : Bool) (h : f (p k) (q k) = b) : mA n (up f p q (k + 1)) = (mA n (up f p q k)).setIfInBounds k (.bool b) := by
  rw [mA_set]
  unfold mA
  congr 1
  funext j
  congr 1
  show (if j.val < k + 1 then f (p j.val) (q j.val) else false) = (if j.val = k then b else if j.val < k then f (p j.val) (q j.val) else false)
  by_cases hj : j.val = k
  · rw [if_pos (by omega), if_pos hj, hj, h]
  · rw [if_neg hj]
    have : (j.val < k + 1 ↔ j.val < k) := by omega
    simp only [this]
theorem below_set {w wr : World} {B g i : Nat} {u : Value} (h : Below B w wr) (hB : B ≤ wr.heap.size) (hg : B ≤ g) : Below B w (wr.setCell ⟨g, i, none⟩ u) :=
  h.grown (grown_set _ _ _ _) hB (fun j e => by injection e with e; subst e; exact hg)

set_option maxHeartbeats 1000000 in
set_option maxRecDepth 100000 in
theorem both_and (ga gb : Nat) (p q : Nat → Bool) (w : World) (ha : Row w ga 53 (mA 65536 p)) (hb : Row w gb 53 (mA 65536 q)) :
    Calls Try.prog 15 #[.pointer (some ⟨ga, 0, none⟩), .pointer (some ⟨gb, 0, none⟩), .int .i64 1] w fun e w' => e = .returned (.pointer (some ⟨w.heap.size, 0, none⟩)) ∧ Row w' w.heap.size 53 (mA 65536 fun i => fAnd (p i) (q i)) ∧ Below w.heap.size w w' := by
  have HA := Lib.hid ha
  have HBB := Lib.hid hb
  have hga := ha.lt
  have hgb := hb.lt
  clear ha hb
  have hz := (zero_of_info zeroM).1
  generalize hZ : mA 65536 (fun _ => false) = Z at hz
  go_enter Try.func15, Try.ntmps15
  go_wp2
  subst hZ
  go_loopw [8] (fun i wr => ∃ k : Nat, k ≤ 65536 ∧ i = .int .i64 k ∧ Row wr w.heap.size 53 (mA 65536 (up fAnd p q k)) ∧ Below w.heap.size w wr) (fun i _ => ((65536 : Int) - intOf i).toNat)
  case atStart => exact ⟨0, Nat.zero_le _, rfl, by rw [up_zero]; exact Row.new _ _ _, (Below.refl _ _).alloc (Nat.le_refl _) _⟩
  case round =>
    obtain ⟨k, hk, rfl, hr, hbl⟩ := hrel
    have HR := Lib.hid hr
    have HB := Lib.hid hbl
    by_cases hlt : k < 65536
    · have hki : (k : Int) < 65536 := by omega
      have HL := Lib.hid hlt
      have c1 := hr.cell k
      rw [mA_at _ _ _ hlt] at c1
      have c2 := hr.frozen k
      have c3 := (HA.out.below hbl hga).cell k
      rw [mA_at _ _ _ hlt] at c3
      have c4 := (HBB.out.below hbl hgb).cell k
      rw [mA_at _ _ _ hlt] at c4
      clear hr hbl
      cases hp : p k <;> cases hq : q k
      · rw [hp] at c3
        rw [hq] at c4
        have HS := Lib.hid (up_succ 65536 fAnd p q k false (by rw [hp, hq]; rfl))
        clear hp hq hlt
        go_wp2_with fail
        go_region
        go_wp2
        go_roundw
        case rel => exact ⟨k + 1, HL.out, by go_num, by rw [HS.out]; exact Row.set_ HR.out k _, below_set HB.out.drew HB.out.size (Nat.le_refl _)⟩
        case measure => simp [intOf]; omega
      · rw [hp] at c3
        rw [hq] at c4
        have HS := Lib.hid (up_succ 65536 fAnd p q k false (by rw [hp, hq]; rfl))
        clear hp hq hlt
        go_wp2_with fail
        go_region
        go_wp2
        go_roundw
        case rel => exact ⟨k + 1, HL.out, by go_num, by rw [HS.out]; exact Row.set_ HR.out k _, below_set HB.out.drew HB.out.size (Nat.le_refl _)⟩
        case measure => simp [intOf]; omega
      · rw [hp] at c3
        rw [hq] at c4
        have HS := Lib.hid (up_succ 65536 fAnd p q k false (by rw [hp, hq]; rfl))
        clear hp hq hlt
        go_wp2_with fail
        go_region
        go_wp2
        go_roundw
        case rel => exact ⟨k + 1, HL.out, by go_num, by rw [HS.out]; exact Row.set_ HR.out k _, below_set HB.out.drew HB.out.size (Nat.le_refl _)⟩
        case measure => simp [intOf]; omega
      · rw [hp] at c3
        rw [hq] at c4
        have HS := Lib.hid (up_succ 65536 fAnd p q k true (by rw [hp, hq]; rfl))
        clear hp hq hlt
        go_wp2_with fail
        go_region
        go_wp2
        go_roundw
        case rel => exact ⟨k + 1, HL.out, by go_num, by rw [HS.out]; exact Row.set_ HR.out k _, below_set HB.out.drew HB.out.size (Nat.le_refl _)⟩
        case measure => simp [intOf]; omega
    · obtain rfl : k = 65536 := by omega
      rw [up_full] at hr
      have HR := Lib.hid hr
      clear hr hbl
      go_wp2
      go_ret
      exact ⟨rfl, HR.out, HB.out⟩

set_option maxHeartbeats 1000000 in
set_option maxRecDepth 100000 in
theorem both_or (ga gb : Nat) (p q : Nat → Bool) (w : World) (ha : Row w ga 53 (mA 65536 p)) (hb : Row w gb 53 (mA 65536 q)) :
    Calls Try.prog 15 #[.pointer (some ⟨ga, 0, none⟩), .pointer (some ⟨gb, 0, none⟩), .int .i64 2] w fun e w' => e = .returned (.pointer (some ⟨w.heap.size, 0, none⟩)) ∧ Row w' w.heap.size 53 (mA 65536 fun i => fOr (p i) (q i)) ∧ Below w.heap.size w w' := by
  have HA := Lib.hid ha
  have HBB := Lib.hid hb
  have hga := ha.lt
  have hgb := hb.lt
  clear ha hb
  have hz := (zero_of_info zeroM).1
  generalize hZ : mA 65536 (fun _ => false) = Z at hz
  go_enter Try.func15, Try.ntmps15
  go_wp2
  subst hZ
  go_loopw [8] (fun i wr => ∃ k : Nat, k ≤ 65536 ∧ i = .int .i64 k ∧ Row wr w.heap.size 53 (mA 65536 (up fOr p q k)) ∧ Below w.heap.size w wr) (fun i _ => ((65536 : Int) - intOf i).toNat)
  case atStart => exact ⟨0, Nat.zero_le _, rfl, by rw [up_zero]; exact Row.new _ _ _, (Below.refl _ _).alloc (Nat.le_refl _) _⟩
  case round =>
    obtain ⟨k, hk, rfl, hr, hbl⟩ := hrel
    have HR := Lib.hid hr
    have HB := Lib.hid hbl
    by_cases hlt : k < 65536
    · have hki : (k : Int) < 65536 := by omega
      have HL := Lib.hid hlt
      have c1 := hr.cell k
      rw [mA_at _ _ _ hlt] at c1
      have c2 := hr.frozen k
      have c3 := (HA.out.below hbl hga).cell k
      rw [mA_at _ _ _ hlt] at c3
      have c4 := (HBB.out.below hbl hgb).cell k
      rw [mA_at _ _ _ hlt] at c4
      clear hr hbl
      cases hp : p k <;> cases hq : q k
      · rw [hp] at c3
        rw [hq] at c4
        have HS := Lib.hid (up_succ 65536 fOr p q k false (by rw [hp, hq]; rfl))
        clear hp hq hlt
        go_wp2_with fail
        go_region
        go_wp2
        go_roundw
        case rel => exact ⟨k + 1, HL.out, by go_num, by rw [HS.out]; exact Row.set_ HR.out k _, below_set HB.out.drew HB.out.size (Nat.le_refl _)⟩
        case measure => simp [intOf]; omega
      · rw [hp] at c3
        rw [hq] at c4
        have HS := Lib.hid (up_succ 65536 fOr p q k true (by rw [hp, hq]; rfl))
        clear hp hq hlt
        go_wp2_with fail
        go_region
        go_wp2
        go_roundw
        case rel => exact ⟨k + 1, HL.out, by go_num, by rw [HS.out]; exact Row.set_ HR.out k _, below_set HB.out.drew HB.out.size (Nat.le_refl _)⟩
        case measure => simp [intOf]; omega
      · rw [hp] at c3
        rw [hq] at c4
        have HS := Lib.hid (up_succ 65536 fOr p q k true (by rw [hp, hq]; rfl))
        clear hp hq hlt
        go_wp2_with fail
        go_region
        go_wp2
        go_roundw
        case rel => exact ⟨k + 1, HL.out, by go_num, by rw [HS.out]; exact Row.set_ HR.out k _, below_set HB.out.drew HB.out.size (Nat.le_refl _)⟩
        case measure => simp [intOf]; omega
      · rw [hp] at c3
        rw [hq] at c4
        have HS := Lib.hid (up_succ 65536 fOr p q k true (by rw [hp, hq]; rfl))
        clear hp hq hlt
        go_wp2_with fail
        go_region
        go_wp2
        go_roundw
        case rel => exact ⟨k + 1, HL.out, by go_num, by rw [HS.out]; exact Row.set_ HR.out k _, below_set HB.out.drew HB.out.size (Nat.le_refl _)⟩
        case measure => simp [intOf]; omega
    · obtain rfl : k = 65536 := by omega
      rw [up_full] at hr
      have HR := Lib.hid hr
      clear hr hbl
      go_wp2
      go_ret
      exact ⟨rfl, HR.out, HB.out⟩

set_option maxHeartbeats 1000000 in
set_option maxRecDepth 100000 in
theorem both_not (ga gb : Nat) (p q : Nat → Bool) (w : World) (ha : Row w ga 53 (mA 65536 p)) (hb : Row w gb 53 (mA 65536 q)) :
    Calls Try.prog 15 #[.pointer (some ⟨ga, 0, none⟩), .pointer (some ⟨gb, 0, none⟩), .int .i64 3] w fun e w' => e = .returned (.pointer (some ⟨w.heap.size, 0, none⟩)) ∧ Row w' w.heap.size 53 (mA 65536 fun i => fNot (p i) (q i)) ∧ Below w.heap.size w w' := by
  have HA := Lib.hid ha
  have HBB := Lib.hid hb
  have hga := ha.lt
  have hgb := hb.lt
  clear ha hb
  have hz := (zero_of_info zeroM).1
  generalize hZ : mA 65536 (fun _ => false) = Z at hz
  go_enter Try.func15, Try.ntmps15
  go_wp2
  subst hZ
  go_loopw [8] (fun i wr => ∃ k : Nat, k ≤ 65536 ∧ i = .int .i64 k ∧ Row wr w.heap.size 53 (mA 65536 (up fNot p q k)) ∧ Below w.heap.size w wr) (fun i _ => ((65536 : Int) - intOf i).toNat)
  case atStart => exact ⟨0, Nat.zero_le _, rfl, by rw [up_zero]; exact Row.new _ _ _, (Below.refl _ _).alloc (Nat.le_refl _) _⟩
  case round =>
    obtain ⟨k, hk, rfl, hr, hbl⟩ := hrel
    have HR := Lib.hid hr
    have HB := Lib.hid hbl
    by_cases hlt : k < 65536
    · have hki : (k : Int) < 65536 := by omega
      have HL := Lib.hid hlt
      have c1 := hr.cell k
      rw [mA_at _ _ _ hlt] at c1
      have c2 := hr.frozen k
      have c3 := (HA.out.below hbl hga).cell k
      rw [mA_at _ _ _ hlt] at c3
      have c4 := (HBB.out.below hbl hgb).cell k
      rw [mA_at _ _ _ hlt] at c4
      clear hr hbl
      cases hp : p k <;> cases hq : q k
      · rw [hp] at c3
        rw [hq] at c4
        have HS := Lib.hid (up_succ 65536 fNot p q k false (by rw [hp, hq]; rfl))
        clear hp hq hlt
        go_wp2_with fail
        go_region
        go_wp2
        go_roundw
        case rel => exact ⟨k + 1, HL.out, by go_num, by rw [HS.out]; exact Row.set_ HR.out k _, below_set HB.out.drew HB.out.size (Nat.le_refl _)⟩
        case measure => simp [intOf]; omega
      · rw [hp] at c3
        rw [hq] at c4
        have HS := Lib.hid (up_succ 65536 fNot p q k false (by rw [hp, hq]; rfl))
        clear hp hq hlt
        go_wp2_with fail
        go_region
        go_wp2
        go_roundw
        case rel => exact ⟨k + 1, HL.out, by go_num, by rw [HS.out]; exact Row.set_ HR.out k _, below_set HB.out.drew HB.out.size (Nat.le_refl _)⟩
        case measure => simp [intOf]; omega
      · rw [hp] at c3
        rw [hq] at c4
        have HS := Lib.hid (up_succ 65536 fNot p q k true (by rw [hp, hq]; rfl))
        clear hp hq hlt
        go_wp2_with fail
        go_region
        go_wp2
        go_roundw
        case rel => exact ⟨k + 1, HL.out, by go_num, by rw [HS.out]; exact Row.set_ HR.out k _, below_set HB.out.drew HB.out.size (Nat.le_refl _)⟩
        case measure => simp [intOf]; omega
      · rw [hp] at c3
        rw [hq] at c4
        have HS := Lib.hid (up_succ 65536 fNot p q k false (by rw [hp, hq]; rfl))
        clear hp hq hlt
        go_wp2_with fail
        go_region
        go_wp2
        go_roundw
        case rel => exact ⟨k + 1, HL.out, by go_num, by rw [HS.out]; exact Row.set_ HR.out k _, below_set HB.out.drew HB.out.size (Nat.le_refl _)⟩
        case measure => simp [intOf]; omega
    · obtain rfl : k = 65536 := by omega
      rw [up_full] at hr
      have HR := Lib.hid hr
      clear hr hbl
      go_wp2
      go_ret
      exact ⟨rfl, HR.out, HB.out⟩

set_option maxHeartbeats 1000000 in
set_option maxRecDepth 100000 in
theorem both_xor (ga gb : Nat) (p q : Nat → Bool) (w : World) (ha : Row w ga 53 (mA 65536 p)) (hb : Row w gb 53 (mA 65536 q)) :
    Calls Try.prog 15 #[.pointer (some ⟨ga, 0, none⟩), .pointer (some ⟨gb, 0, none⟩), .int .i64 4] w fun e w' => e = .returned (.pointer (some ⟨w.heap.size, 0, none⟩)) ∧ Row w' w.heap.size 53 (mA 65536 fun i => fXor (p i) (q i)) ∧ Below w.heap.size w w' := by
  have HA := Lib.hid ha
  have HBB := Lib.hid hb
  have hga := ha.lt
  have hgb := hb.lt
  clear ha hb
  have hz := (zero_of_info zeroM).1
  generalize hZ : mA 65536 (fun _ => false) = Z at hz
  go_enter Try.func15, Try.ntmps15
  go_wp2
  subst hZ
  go_loopw [8] (fun i wr => ∃ k : Nat, k ≤ 65536 ∧ i = .int .i64 k ∧ Row wr w.heap.size 53 (mA 65536 (up fXor p q k)) ∧ Below w.heap.size w wr) (fun i _ => ((65536 : Int) - intOf i).toNat)
  case atStart => exact ⟨0, Nat.zero_le _, rfl, by rw [up_zero]; exact Row.new _ _ _, (Below.refl _ _).alloc (Nat.le_refl _) _⟩
  case round =>
    obtain ⟨k, hk, rfl, hr, hbl⟩ := hrel
    have HR := Lib.hid hr
    have HB := Lib.hid hbl
    by_cases hlt : k < 65536
    · have hki : (k : Int) < 65536 := by omega
      have HL := Lib.hid hlt
      have c1 := hr.cell k
      rw [mA_at _ _ _ hlt] at c1
      have c2 := hr.frozen k
      have c3 := (HA.out.below hbl hga).cell k
      rw [mA_at _ _ _ hlt] at c3
      have c4 := (HBB.out.below hbl hgb).cell k
      rw [mA_at _ _ _ hlt] at c4
      clear hr hbl
      cases hp : p k <;> cases hq : q k
      · rw [hp] at c3
        rw [hq] at c4
        have HS := Lib.hid (up_succ 65536 fXor p q k false (by rw [hp, hq]; rfl))
        clear hp hq hlt
        go_wp2_with fail
        go_region
        go_wp2
        go_roundw
        case rel => exact ⟨k + 1, HL.out, by go_num, by rw [HS.out]; exact Row.set_ HR.out k _, below_set HB.out.drew HB.out.size (Nat.le_refl _)⟩
        case measure => simp [intOf]; omega
      · rw [hp] at c3
        rw [hq] at c4
        have HS := Lib.hid (up_succ 65536 fXor p q k true (by rw [hp, hq]; rfl))
        clear hp hq hlt
        go_wp2_with fail
        go_region
        go_wp2
        go_roundw
        case rel => exact ⟨k + 1, HL.out, by go_num, by rw [HS.out]; exact Row.set_ HR.out k _, below_set HB.out.drew HB.out.size (Nat.le_refl _)⟩
        case measure => simp [intOf]; omega
      · rw [hp] at c3
        rw [hq] at c4
        have HS := Lib.hid (up_succ 65536 fXor p q k true (by rw [hp, hq]; rfl))
        clear hp hq hlt
        go_wp2_with fail
        go_region
        go_wp2
        go_roundw
        case rel => exact ⟨k + 1, HL.out, by go_num, by rw [HS.out]; exact Row.set_ HR.out k _, below_set HB.out.drew HB.out.size (Nat.le_refl _)⟩
        case measure => simp [intOf]; omega
      · rw [hp] at c3
        rw [hq] at c4
        have HS := Lib.hid (up_succ 65536 fXor p q k false (by rw [hp, hq]; rfl))
        clear hp hq hlt
        go_wp2_with fail
        go_region
        go_wp2
        go_roundw
        case rel => exact ⟨k + 1, HL.out, by go_num, by rw [HS.out]; exact Row.set_ HR.out k _, below_set HB.out.drew HB.out.size (Nat.le_refl _)⟩
        case measure => simp [intOf]; omega
    · obtain rfl : k = 65536 := by omega
      rw [up_full] at hr
      have HR := Lib.hid hr
      clear hr hbl
      go_wp2
      go_ret
      exact ⟨rfl, HR.out, HB.out⟩

end Go.Proofs.Ytgkelfhmpeakkaa
