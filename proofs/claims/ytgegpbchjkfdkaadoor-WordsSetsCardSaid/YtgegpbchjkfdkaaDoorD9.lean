/- Walks: the document's Both, List, Below and Runs of marks. -/
import Derived.Test.YtgegpbchjkfdkaaDoorD8
namespace Go.Proofs.YtgegpbchjkfdkaaDoor
open Go.RowKit
set_option linter.unusedVariables false

/-- The marks when k of them are made. -/
def up (f : Bool → Bool → Bool) (p q : Nat → Bool) (k : Nat) (i : Nat) : Bool := if i < k then f (p i) (q i) else false
theorem up_zero (f : Bool → Bool → Bool) (p q : Nat → Bool) : up f p q 0 = fun _ => false := by funext i; simp [up]
theorem up_full (n : Nat) (f : Bool → Bool → Bool) (p q : Nat → Bool) : mA n (up f p q n) = mA n fun i => f (p i) (q i) := by
  unfold mA
  congr 1
  funext j
  simp [up]
theorem up_succ (n : Nat) (f : Bool → Bool → Bool) (p q : Nat → Bool) (k : Nat) (b : Bool) (h : f (p k) (q k) = b) : mA n (up f p q (k + 1)) = (mA n (up f p q k)).setIfInBounds k (.bool b) := by
  rw [mA_set]
  unfold mA
  congr 1
  funext j
  congr 1
  show (if j.val < k + 1 then f (p j.val) (q j.val) else false) = (if j.val = k then b else if j.val < k then f (p j.val) (q j.val) else false)
  by_cases hj : j.val = k
  · rw [if_pos (by omega), if_pos hj, hj, h]
  · rw [if_neg hj]
    have : (j.val < k + 1 ↔ j.val < k) := by omega
    simp only [this]
theorem below_set {w wr : World} {B g i : Nat} {u : Value} (h : Below B w wr) (hB : B ≤ wr.heap.size) (hg : B ≤ g) : Below B w (wr.setCell ⟨g, i, none⟩ u) :=
  h.grown (grown_set _ _ _ _) hB (fun j e => by injection e with e; subst e; exact hg)

set_option maxHeartbeats 1000000 in
set_option maxRecDepth 100000 in
theorem both_and (ga gb : Nat) (p q : Nat → Bool) (w : World) (ha : Row w ga 55 (mA 65536 p)) (hb : Row w gb 55 (mA 65536 q)) :
    Calls Tryd.prog 29 #[.pointer (some ⟨ga, 0, none⟩), .pointer (some ⟨gb, 0, none⟩), .int .i64 1] w fun e w' => e = .returned (.pointer (some ⟨w.heap.size, 0, none⟩)) ∧ Row w' w.heap.size 55 (mA 65536 fun i => fAnd (p i) (q i)) ∧ Below w.heap.size w w' := by
  have HA := Lib.hid ha
  have HBB := Lib.hid hb
  have hga := ha.lt
  have hgb := hb.lt
  clear ha hb
  have hz := (zero_of_info zeroM).1
  generalize hZ : mA 65536 (fun _ => false) = Z at hz
  go_enter Tryd.func29, Tryd.ntmps29
  go_wp2
  subst hZ
  go_loopw [8] (fun i wr => ∃ k : Nat, k ≤ 65536 ∧ i = .int .i64 k ∧ Row wr w.heap.size 55 (mA 65536 (up fAnd p q k)) ∧ Below w.heap.size w wr) (fun i _ => ((65536 : Int) - intOf i).toNat)
  case atStart => exact ⟨0, Nat.zero_le _, rfl, by rw [up_zero]; exact Row.new _ _ _, (Below.refl _ _).alloc (Nat.le_refl _) _⟩
  case round =>
    obtain ⟨k, hk, rfl, hr, hbl⟩ := hrel
    have HR := Lib.hid hr
    have HB := Lib.hid hbl
    by_cases hlt : k < 65536
    · have hki : (k : Int) < 65536 := by omega
      have HL := Lib.hid hlt
      have c1 := hr.cell k
      rw [mA_at _ _ _ hlt] at c1
      have c2 := hr.frozen k
      have c3 := (HA.out.below hbl hga).cell k
      rw [mA_at _ _ _ hlt] at c3
      have c4 := (HBB.out.below hbl hgb).cell k
      rw [mA_at _ _ _ hlt] at c4
      clear hr hbl
      cases hp : p k <;> cases hq : q k
      · rw [hp] at c3
        rw [hq] at c4
        have HS := Lib.hid (up_succ 65536 fAnd p q k false (by rw [hp, hq]; rfl))
        clear hp hq hlt
        go_wp2_with fail
        go_region
        go_wp2
        go_roundw
        case rel => exact ⟨k + 1, HL.out, by go_num, by rw [HS.out]; exact Row.set_ HR.out k _, below_set HB.out.drew HB.out.size (Nat.le_refl _)⟩
        case measure => simp [intOf]; omega
      · rw [hp] at c3
        rw [hq] at c4
        have HS := Lib.hid (up_succ 65536 fAnd p q k false (by rw [hp, hq]; rfl))
        clear hp hq hlt
        go_wp2_with fail
        go_region
        go_wp2
        go_roundw
        case rel => exact ⟨k + 1, HL.out, by go_num, by rw [HS.out]; exact Row.set_ HR.out k _, below_set HB.out.drew HB.out.size (Nat.le_refl _)⟩
        case measure => simp [intOf]; omega
      · rw [hp] at c3
        rw [hq] at c4
        have HS := Lib.hid (up_succ 65536 fAnd p q k false (by rw [hp, hq]; rfl))
        clear hp hq hlt
        go_wp2_with fail
        go_region
        go_wp2
        go_roundw
        case rel => exact ⟨k + 1, HL.out, by go_num, by rw [HS.out]; exact Row.set_ HR.out k _, below_set HB.out.drew HB.out.size (Nat.le_refl _)⟩
        case measure => simp [intOf]; omega
      · rw [hp] at c3
        rw [hq] at c4
        have HS := Lib.hid (up_succ 65536 fAnd p q k true (by rw [hp, hq]; rfl))
        clear hp hq hlt
        go_wp2_with fail
        go_region
        go_wp2
        go_roundw
        case rel => exact ⟨k + 1, HL.out, by go_num, by rw [HS.out]; exact Row.set_ HR.out k _, below_set HB.out.drew HB.out.size (Nat.le_refl _)⟩
        case measure => simp [intOf]; omega
    · obtain rfl : k = 65536 := by omega
      rw [up_full] at hr
      have HR := Lib.hid hr
      clear hr hbl
      go_wp2
      go_ret
      exact ⟨rfl, HR.out, HB.out⟩

set_option maxHeartbeats 1000000 in
set_option maxRecDepth 100000 in
theorem both_or (ga gb : Nat) (p q : Nat → Bool) (w : World) (ha : Row w ga 55 (mA 65536 p)) (hb : Row w gb 55 (mA 65536 q)) :
    Calls Tryd.prog 29 #[.pointer (some ⟨ga, 0, none⟩), .pointer (some ⟨gb, 0, none⟩), .int .i64 2] w fun e w' => e = .returned (.pointer (some ⟨w.heap.size, 0, none⟩)) ∧ Row w' w.heap.size 55 (mA 65536 fun i => fOr (p i) (q i)) ∧ Below w.heap.size w w' := by
  have HA := Lib.hid ha
  have HBB := Lib.hid hb
  have hga := ha.lt
  have hgb := hb.lt
  clear ha hb
  have hz := (zero_of_info zeroM).1
  generalize hZ : mA 65536 (fun _ => false) = Z at hz
  go_enter Tryd.func29, Tryd.ntmps29
  go_wp2
  subst hZ
  go_loopw [8] (fun i wr => ∃ k : Nat, k ≤ 65536 ∧ i = .int .i64 k ∧ Row wr w.heap.size 55 (mA 65536 (up fOr p q k)) ∧ Below w.heap.size w wr) (fun i _ => ((65536 : Int) - intOf i).toNat)
  case atStart => exact ⟨0, Nat.zero_le _, rfl, by rw [up_zero]; exact Row.new _ _ _, (Below.refl _ _).alloc (Nat.le_refl _) _⟩
  case round =>
    obtain ⟨k, hk, rfl, hr, hbl⟩ := hrel
    have HR := Lib.hid hr
    have HB := Lib.hid hbl
    by_cases hlt : k < 65536
    · have hki : (k : Int) < 65536 := by omega
      have HL := Lib.hid hlt
      have c1 := hr.cell k
      rw [mA_at _ _ _ hlt] at c1
      have c2 := hr.frozen k
      have c3 := (HA.out.below hbl hga).cell k
      rw [mA_at _ _ _ hlt] at c3
      have c4 := (HBB.out.below hbl hgb).cell k
      rw [mA_at _ _ _ hlt] at c4
      clear hr hbl
      cases hp : p k <;> cases hq : q k
      · rw [hp] at c3
        rw [hq] at c4
        have HS := Lib.hid (up_succ 65536 fOr p q k false (by rw [hp, hq]; rfl))
        clear hp hq hlt
        go_wp2_with fail
        go_region
        go_wp2
        go_roundw
        case rel => exact ⟨k + 1, HL.out, by go_num, by rw [HS.out]; exact Row.set_ HR.out k _, below_set HB.out.drew HB.out.size (Nat.le_refl _)⟩
        case measure => simp [intOf]; omega
      · rw [hp] at c3
        rw [hq] at c4
        have HS := Lib.hid (up_succ 65536 fOr p q k true (by rw [hp, hq]; rfl))
        clear hp hq hlt
        go_wp2_with fail
        go_region
        go_wp2
        go_roundw
        case rel => exact ⟨k + 1, HL.out, by go_num, by rw [HS.out]; exact Row.set_ HR.out k _, below_set HB.out.drew HB.out.size (Nat.le_refl _)⟩
        case measure => simp [intOf]; omega
      · rw [hp] at c3
        rw [hq] at c4
        have HS := Lib.hid (up_succ 65536 fOr p q k true (by rw [hp, hq]; rfl))
        clear hp hq hlt
        go_wp2_with fail
        go_region
        go_wp2
        go_roundw
        case rel => exact ⟨k + 1, HL.out, by go_num, by rw [HS.out]; exact Row.set_ HR.out k _, below_set HB.out.drew HB.out.size (Nat.le_refl _)⟩
        case measure => simp [intOf]; omega
      · rw [hp] at c3
        rw [hq] at c4
        have HS := Lib.hid (up_succ 65536 fOr p q k true (by rw [hp, hq]; rfl))
        clear hp hq hlt
        go_wp2_with fail
        go_region
        go_wp2
        go_roundw
        case rel => exact ⟨k + 1, HL.out, by go_num, by rw [HS.out]; exact Row.set_ HR.out k _, below_set HB.out.drew HB.out.size (Nat.le_refl _)⟩
        case measure => simp [intOf]; omega
    · obtain rfl : k = 65536 := by omega
      rw [up_full] at hr
      have HR := Lib.hid hr
      clear hr hbl
      go_wp2
      go_ret
      exact ⟨rfl, HR.out, HB.out⟩

set_option maxHeartbeats 1000000 in
set_option maxRecDepth 100000 in
theorem both_not (ga gb : Nat) (p q : Nat → Bool) (w : World) (ha : Row w ga 55 (mA 65536 p)) (hb : Row w gb 55 (mA 65536 q)) :
    Calls Tryd.prog 29 #[.pointer (some ⟨ga, 0, none⟩), .pointer (some ⟨gb, 0, none⟩), .int .i64 3] w fun e w' => e = .returned (.pointer (some ⟨w.heap.size, 0, none⟩)) ∧ Row w' w.heap.size 55 (mA 65536 fun i => fNot (p i) (q i)) ∧ Below w.heap.size w w' := by
  have HA := Lib.hid ha
  have HBB := Lib.hid hb
  have hga := ha.lt
  have hgb := hb.lt
  clear ha hb
  have hz := (zero_of_info zeroM).1
  generalize hZ : mA 65536 (fun _ => false) = Z at hz
  go_enter Tryd.func29, Tryd.ntmps29
  go_wp2
  subst hZ
  go_loopw [8] (fun i wr => ∃ k : Nat, k ≤ 65536 ∧ i = .int .i64 k ∧ Row wr w.heap.size 55 (mA 65536 (up fNot p q k)) ∧ Below w.heap.size w wr) (fun i _ => ((65536 : Int) - intOf i).toNat)
  case atStart => exact ⟨0, Nat.zero_le _, rfl, by rw [up_zero]; exact Row.new _ _ _, (Below.refl _ _).alloc (Nat.le_refl _) _⟩
  case round =>
    obtain ⟨k, hk, rfl, hr, hbl⟩ := hrel
    have HR := Lib.hid hr
    have HB := Lib.hid hbl
    by_cases hlt : k < 65536
    · have hki : (k : Int) < 65536 := by omega
      have HL := Lib.hid hlt
      have c1 := hr.cell k
      rw [mA_at _ _ _ hlt] at c1
      have c2 := hr.frozen k
      have c3 := (HA.out.below hbl hga).cell k
      rw [mA_at _ _ _ hlt] at c3
      have c4 := (HBB.out.below hbl hgb).cell k
      rw [mA_at _ _ _ hlt] at c4
      clear hr hbl
      cases hp : p k <;> cases hq : q k
      · rw [hp] at c3
        rw [hq] at c4
        have HS := Lib.hid (up_succ 65536 fNot p q k false (by rw [hp, hq]; rfl))
        clear hp hq hlt
        go_wp2_with fail
        go_region
        go_wp2
        go_roundw
        case rel => exact ⟨k + 1, HL.out, by go_num, by rw [HS.out]; exact Row.set_ HR.out k _, below_set HB.out.drew HB.out.size (Nat.le_refl _)⟩
        case measure => simp [intOf]; omega
      · rw [hp] at c3
        rw [hq] at c4
        have HS := Lib.hid (up_succ 65536 fNot p q k false (by rw [hp, hq]; rfl))
        clear hp hq hlt
        go_wp2_with fail
        go_region
        go_wp2
        go_roundw
        case rel => exact ⟨k + 1, HL.out, by go_num, by rw [HS.out]; exact Row.set_ HR.out k _, below_set HB.out.drew HB.out.size (Nat.le_refl _)⟩
        case measure => simp [intOf]; omega
      · rw [hp] at c3
        rw [hq] at c4
        have HS := Lib.hid (up_succ 65536 fNot p q k true (by rw [hp, hq]; rfl))
        clear hp hq hlt
        go_wp2_with fail
        go_region
        go_wp2
        go_roundw
        case rel => exact ⟨k + 1, HL.out, by go_num, by rw [HS.out]; exact Row.set_ HR.out k _, below_set HB.out.drew HB.out.size (Nat.le_refl _)⟩
        case measure => simp [intOf]; omega
      · rw [hp] at c3
        rw [hq] at c4
        have HS := Lib.hid (up_succ 65536 fNot p q k false (by rw [hp, hq]; rfl))
        clear hp hq hlt
        go_wp2_with fail
        go_region
        go_wp2
        go_roundw
        case rel => exact ⟨k + 1, HL.out, by go_num, by rw [HS.out]; exact Row.set_ HR.out k _, below_set HB.out.drew HB.out.size (Nat.le_refl _)⟩
        case measure => simp [intOf]; omega
    · obtain rfl : k = 65536 := by omega
      rw [up_full] at hr
      have HR := Lib.hid hr
      clear hr hbl
      go_wp2
      go_ret
      exact ⟨rfl, HR.out, HB.out⟩

set_option maxHeartbeats 1000000 in
set_option maxRecDepth 100000 in
theorem both_xor (ga gb : Nat) (p q : Nat → Bool) (w : World) (ha : Row w ga 55 (mA 65536 p)) (hb : Row w gb 55 (mA 65536 q)) :
    Calls Tryd.prog 29 #[.pointer (some ⟨ga, 0, none⟩), .pointer (some ⟨gb, 0, none⟩), .int .i64 4] w fun e w' => e = .returned (.pointer (some ⟨w.heap.size, 0, none⟩)) ∧ Row w' w.heap.size 55 (mA 65536 fun i => fXor (p i) (q i)) ∧ Below w.heap.size w w' := by
  have HA := Lib.hid ha
  have HBB := Lib.hid hb
  have hga := ha.lt
  have hgb := hb.lt
  clear ha hb
  have hz := (zero_of_info zeroM).1
  generalize hZ : mA 65536 (fun _ => false) = Z at hz
  go_enter Tryd.func29, Tryd.ntmps29
  go_wp2
  subst hZ
  go_loopw [8] (fun i wr => ∃ k : Nat, k ≤ 65536 ∧ i = .int .i64 k ∧ Row wr w.heap.size 55 (mA 65536 (up fXor p q k)) ∧ Below w.heap.size w wr) (fun i _ => ((65536 : Int) - intOf i).toNat)
  case atStart => exact ⟨0, Nat.zero_le _, rfl, by rw [up_zero]; exact Row.new _ _ _, (Below.refl _ _).alloc (Nat.le_refl _) _⟩
  case round =>
    obtain ⟨k, hk, rfl, hr, hbl⟩ := hrel
    have HR := Lib.hid hr
    have HB := Lib.hid hbl
    by_cases hlt : k < 65536
    · have hki : (k : Int) < 65536 := by omega
      have HL := Lib.hid hlt
      have c1 := hr.cell k
      rw [mA_at _ _ _ hlt] at c1
      have c2 := hr.frozen k
      have c3 := (HA.out.below hbl hga).cell k
      rw [mA_at _ _ _ hlt] at c3
      have c4 := (HBB.out.below hbl hgb).cell k
      rw [mA_at _ _ _ hlt] at c4
      clear hr hbl
      cases hp : p k <;> cases hq : q k
      · rw [hp] at c3
        rw [hq] at c4
        have HS := Lib.hid (up_succ 65536 fXor p q k false (by rw [hp, hq]; rfl))
        clear hp hq hlt
        go_wp2_with fail
        go_region
        go_wp2
        go_roundw
        case rel => exact ⟨k + 1, HL.out, by go_num, by rw [HS.out]; exact Row.set_ HR.out k _, below_set HB.out.drew HB.out.size (Nat.le_refl _)⟩
        case measure => simp [intOf]; omega
      · rw [hp] at c3
        rw [hq] at c4
        have HS := Lib.hid (up_succ 65536 fXor p q k true (by rw [hp, hq]; rfl))
        clear hp hq hlt
        go_wp2_with fail
        go_region
        go_wp2
        go_roundw
        case rel => exact ⟨k + 1, HL.out, by go_num, by rw [HS.out]; exact Row.set_ HR.out k _, below_set HB.out.drew HB.out.size (Nat.le_refl _)⟩
        case measure => simp [intOf]; omega
      · rw [hp] at c3
        rw [hq] at c4
        have HS := Lib.hid (up_succ 65536 fXor p q k true (by rw [hp, hq]; rfl))
        clear hp hq hlt
        go_wp2_with fail
        go_region
        go_wp2
        go_roundw
        case rel => exact ⟨k + 1, HL.out, by go_num, by rw [HS.out]; exact Row.set_ HR.out k _, below_set HB.out.drew HB.out.size (Nat.le_refl _)⟩
        case measure => simp [intOf]; omega
      · rw [hp] at c3
        rw [hq] at c4
        have HS := Lib.hid (up_succ 65536 fXor p q k false (by rw [hp, hq]; rfl))
        clear hp hq hlt
        go_wp2_with fail
        go_region
        go_wp2
        go_roundw
        case rel => exact ⟨k + 1, HL.out, by go_num, by rw [HS.out]; exact Row.set_ HR.out k _, below_set HB.out.drew HB.out.size (Nat.le_refl _)⟩
        case measure => simp [intOf]; omega
    · obtain rfl : k = 65536 := by omega
      rw [up_full] at hr
      have HR := Lib.hid hr
      clear hr hbl
      go_wp2
      go_ret
      exact ⟨rfl, HR.out, HB.out⟩

set_option maxHeartbeats 1000000 in
theorem list_any (g : Nat) (p : Nat → Bool) (w : World) (h : Row w g 55 (mA 65536 p)) :
    Calls Tryd.prog 11 #[.pointer (some ⟨g, 0, none⟩)] w fun e w' => ∃ v', e = .returned v' ∧ Gw e16 w' w.heap.size v' (ls p 65536) ∧ Below w.heap.size w w' := by
  have HA := Lib.hid h
  have hg := h.lt
  clear h
  go_enter Tryd.func11, Tryd.ntmps11
  go_wp2
  go_loopw [3, 4] (fun u i wr => ∃ k : Nat, k ≤ 65536 ∧ i = .int .i64 k ∧ Gw e16 wr w.heap.size u (ls p k) ∧ Below w.heap.size w wr) (fun _ i _ => ((65536 : Int) - intOf i).toNat)
  case atStart => exact ⟨0, Nat.zero_le _, rfl, Gw.nil_ _ _, Below.refl _ _⟩
  case round =>
    obtain ⟨k, hk, rfl, hr, hbl⟩ := hrel
    have HR := Lib.hid hr
    have HB := Lib.hid hbl
    by_cases hlt : k < 65536
    · have hki : (k : Int) < 65536 := by omega
      have HL := Lib.hid hlt
      have c3 := (HA.out.below hbl hg).cell k
      rw [mA_at _ _ _ hlt] at c3
      have w1 : IntKind.u16.wrap (k : Int) = k := by simp [IntKind.wrap, IntKind.bits, IntKind.signed]; omega
      have hl := ls_len p k
      have HY0 : ((UInt16.ofNat k).toNat : Int) = k := by rw [u16_of k hlt]
      have HY := Lib.hid HY0
      clear HY0
      clear hr hbl
      cases hp : p k
      · rw [hp] at c3
        have HS0 : ls p (k + 1) = ls p k := by rw [ls, hp]; simp
        have HS := Lib.hid HS0
        clear HS0
        clear hp hlt
        go_wp2
        go_roundw
        case rel => exact ⟨k + 1, HL.out, by go_num, by rw [HS.out]; exact HR.out, HB.out⟩
        case measure => simp [intOf]; omega
      · rw [hp] at c3
        have HS0 : ls p (k + 1) = ls p k ++ [UInt16.ofNat k] := by rw [ls, hp]; simp
        have HS := Lib.hid HS0
        clear HS0
        clear hp hlt
        go_wp2_with (at_builtin; refine wpList_gapp1 (P := Tryd.prog) e16 wr rfl _ _ _ rfl w.heap.size sli16 inf16 _ (ls p k) rfl ?_ _ (UInt16.ofNat k) ?_ ?_ ?_ ?_ ?_; (exact HR.out); (simp only [e16, b16]; rw [HY.out]); rfl; omega; exact HB.out.size; intro v2 w2 o2 g2 _; have O2 := Lib.hid o2; have B2 := Lib.hid (Below.grown HB.out g2 HB.out.size (fun j hj => (HR.out.lt j hj).1)); clear o2 g2)
        go_roundw
        case rel => exact ⟨k + 1, HL.out, by go_num, by rw [HS.out]; exact O2.out, B2.out⟩
        case measure => simp [intOf]; omega
    · obtain rfl : k = 65536 := by omega
      obtain ⟨A5, c5, rfl, -⟩ := hr.sl
      clear hr hbl
      go_wp2
      go_ret
      exact ⟨_, rfl, HR.out, HB.out⟩

set_option maxHeartbeats 1000000 in
theorem refBelow_any (g : Nat) (p : Nat → Bool) (X : Int) (x : Nat) (hx : X = x) (w : World) (h : Row w g 55 (mA 65536 p)) (hx2 : x < 65536) :
    Calls Tryd.prog 19 #[.pointer (some ⟨g, 0, none⟩), .int .i64 X] w fun e w' => e = .returned (.int .i64 ((ls p x).length : Nat)) ∧ w' = w := by
  subst hx
  have HA := Lib.hid h
  clear h
  have hx3 : (x : Int) < 65536 := by omega
  go_enter Tryd.func19, Tryd.ntmps19
  go_wp2
  go_loop [5, 6] (fun s5 s6 => ∃ k : Nat, k ≤ x ∧ s6 = .int .i64 k ∧ s5 = .int .i64 ((ls p k).length : Nat)) (fun _ i => x - (intOf i).toNat)
  case atStart => exact ⟨0, Nat.zero_le _, rfl, rfl⟩
  case round =>
    obtain ⟨k, hk, rfl, rfl⟩ := hrel
    by_cases hlt : k < x
    · have hki : (k : Int) < 65536 := by omega
      have hkx : (k : Int) < x := by omega
      have c3 := HA.out.cell k
      rw [mA_at _ _ _ (by omega)] at c3
      have hl := ls_len p k
      obtain ⟨n, hn⟩ : ∃ n, n = (ls p k).length := ⟨_, rfl⟩
      rw [← hn] at hl ⊢
      have hni : (n : Int) < 65536 := by omega
      cases hp : p k
      · rw [hp] at c3
        have HS0 : (ls p (k + 1)).length = n := by rw [ls, hp, hn]; simp
        have HS := Lib.hid HS0
        clear HS0
        clear hp hn
        go_wp2
        go_round
        case rel => exact ⟨k + 1, hlt, by go_num, by rw [HS.out]⟩
        case measure => simp [intOf]; omega
      · rw [hp] at c3
        have HS0 : (ls p (k + 1)).length = n + 1 := by rw [ls, hp, hn]; simp
        have HS := Lib.hid HS0
        clear HS0
        clear hp hn
        go_wp2
        go_round
        case rel => exact ⟨k + 1, hlt, by go_num, by rw [HS.out]; first | done | go_num⟩
        case measure => simp [intOf]; omega
    · obtain rfl : k = x := by omega
      go_wp2
      go_ret
      exact ⟨rfl, rfl⟩

set_option maxHeartbeats 1000000 in
theorem refRuns_any (g : Nat) (p : Nat → Bool) (w : World) (h : Row w g 55 (mA 65536 p)) :
    Calls Tryd.prog 21 #[.pointer (some ⟨g, 0, none⟩)] w fun e w' => e = .returned (.int .i64 ((ls (hm p) 65536).length : Nat)) ∧ w' = w := by
  have HA := Lib.hid h
  clear h
  go_enter Tryd.func21, Tryd.ntmps21
  go_wp2
  go_loop [3, 4] (fun s3 s4 => ∃ k : Nat, k ≤ 65536 ∧ s4 = .int .i64 k ∧ s3 = .int .i64 ((ls (hm p) k).length : Nat)) (fun _ i => ((65536 : Int) - intOf i).toNat)
  case atStart => exact ⟨0, Nat.zero_le _, rfl, rfl⟩
  case round =>
    obtain ⟨k, hk, rfl, rfl⟩ := hrel
    by_cases hlt : k < 65536
    · have hki : (k : Int) < 65536 := by omega
      have HL := Lib.hid hlt
      have c3 := HA.out.cell k
      rw [mA_at _ _ _ (by omega)] at c3
      have hl := ls_len (hm p) k
      obtain ⟨n, hn⟩ : ∃ n, n = (ls (hm p) k).length := ⟨_, rfl⟩
      rw [← hn] at hl ⊢
      have hni : (n : Int) ≤ 65536 := by omega
      have hy : hm p k = true → (ls (hm p) (k + 1)).length = n + 1 := fun h => by rw [ls, h, hn]; simp
      have hn' : hm p k = false → (ls (hm p) (k + 1)).length = n := fun h => by rw [ls, h, hn]; simp
      clear hn
      cases hp : p k
      · rw [hp] at c3
        have HS := Lib.hid (hn' (by simp [hm, hp]))
        clear hp hn' hy hlt
        go_wp2
        go_round
        case rel => exact ⟨k + 1, HL.out, by go_num, by rw [HS.out]⟩
        case measure => simp [intOf]; omega
      · rw [hp] at c3
        cases k with
        | zero =>
          have HS := Lib.hid (hy (by simp [hm, hp]))
          clear hp hn' hy hlt
          go_wp2
          go_round
          case rel => exact ⟨1, by omega, by first | rfl | go_num, by rw [HS.out]; first | done | go_num⟩
          case measure => simp [intOf]; try omega
        | succ k =>
          have c4 := HA.out.cell k
          rw [mA_at _ _ _ (by omega)] at c4
          have w1 : IntKind.i64.wrap ((k : Int) + 1 - 1) = (k : Int) := by rw [IntKind.wrap_i64]; omega
          have q1 : (((k + 1 : Nat) : Int) == 0) = false := beq_false_of_ne (by omega)
          have q2 : (((k : Int) + 1) == 0) = false := beq_false_of_ne (by omega)
          have q3 : decide ((k : Int) + 1 < 65536) = true := decide_eq_true (by omega)
          have hk3 : (k : Int) ≤ 65534 := by omega
          clear hki
          cases hp2 : p k
          · rw [hp2] at c4
            have HS := Lib.hid (hy (by simp [hm, hp, hp2]))
            clear hp hn' hy hp2 hlt hk
            go_wp2
            go_round
            case rel => exact ⟨k + 1 + 1, HL.out, by go_num, by rw [HS.out]; first | done | go_num⟩
            case measure => simp [intOf]; omega
          · rw [hp2] at c4
            have HS := Lib.hid (hn' (by simp [hm, hp, hp2]))
            clear hp hn' hy hp2 hlt hk
            go_wp2
            go_round
            case rel => exact ⟨k + 1 + 1, HL.out, by go_num, by rw [HS.out]⟩
            case measure => simp [intOf]; omega
    · obtain rfl : k = 65536 := by omega
      go_wp2
      go_ret
      exact ⟨rfl, rfl⟩
end Go.Proofs.YtgegpbchjkfdkaaDoor
