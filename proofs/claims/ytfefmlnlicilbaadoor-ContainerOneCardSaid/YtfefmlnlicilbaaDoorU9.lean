/- The marks: List (cut from stages 4 to 6) -/
import Derived.Test.YtfefmlnlicilbaaDoorU8
namespace Go.Proofs.YtfefmlnlicilbaaDoor
open Go.RowKit
set_option linter.unusedVariables false

/-- The marks when k of them are made. -/
def up (f : Bool → Bool → Bool) (p q : Nat → Bool) (k : Nat) (i : Nat) : Bool := if i < k then f (p i) (q i) else false
theorem up_zero (f : Bool → Bool → Bool) (p q : Nat → Bool) : up f p q 0 = fun _ => false := by funext i; simp [up]
theorem up_full (n : Nat) (f : Bool → Bool → Bool) (p q : Nat → Bool) : mA n (up f p q n) = mA n fun i => f (p i) (q i) := by
  unfold mA
  congr 1
  funext j
  simp [up]
theorem up_succ (n : Nat) (f : Bool → Bool → Bool) (p q : Nat → Bool) (k : Nat) (b : Bool) (h : f (p k) (q k) = b) : mA n (up f p q (k + 1)) = (mA n (up f p q k)).setIfInBounds k (.bool b) := by
  rw [mA_set]
  unfold mA
  congr 1
  funext j
  congr 1
  show (if j.val < k + 1 then f (p j.val) (q j.val) else false) = (if j.val = k then b else if j.val < k then f (p j.val) (q j.val) else false)
  by_cases hj : j.val = k
  · rw [if_pos (by omega), if_pos hj, hj, h]
  · rw [if_neg hj]
    have : (j.val < k + 1 ↔ j.val < k) := by omega
    simp only [this]
theorem below_set {w wr : World} {B g i : Nat} {u : Value} (h : Below B w wr) (hB : B ≤ wr.heap.size) (hg : B ≤ g) : Below B w (wr.setCell ⟨g, i, none⟩ u) :=
  h.grown (grown_set _ _ _ _) hB (fun j e => by injection e with e; subst e; exact hg)
set_option maxHeartbeats 1000000 in
theorem list_any (g : Nat) (p : Nat → Bool) (w : World) (h : Row w g 47 (mA 65536 p)) :
    Calls Tryd.prog 8 #[.pointer (some ⟨g, 0, none⟩)] w fun e w' => ∃ v', e = .returned v' ∧ Gw e16 w' w.heap.size v' (ls p 65536) ∧ Below w.heap.size w w' := by
  have HA := Lib.hid h
  have hg := h.lt
  clear h
  go_enter Tryd.func8, Tryd.ntmps8
  go_wp2
  go_loopw [3, 4] (fun u i wr => ∃ k : Nat, k ≤ 65536 ∧ i = .int .i64 k ∧ Gw e16 wr w.heap.size u (ls p k) ∧ Below w.heap.size w wr) (fun _ i _ => ((65536 : Int) - intOf i).toNat)
  case atStart => exact ⟨0, Nat.zero_le _, rfl, Gw.nil_ _ _, Below.refl _ _⟩
  case round =>
    obtain ⟨k, hk, rfl, hr, hbl⟩ := hrel
    have HR := Lib.hid hr
    have HB := Lib.hid hbl
    by_cases hlt : k < 65536
    · have hki : (k : Int) < 65536 := by omega
      have HL := Lib.hid hlt
      have c3 := (HA.out.below hbl hg).cell k
      rw [mA_at _ _ _ hlt] at c3
      have w1 : IntKind.u16.wrap (k : Int) = k := by simp [IntKind.wrap, IntKind.bits, IntKind.signed]; omega
      have hl := ls_len p k
      have HY0 : ((UInt16.ofNat k).toNat : Int) = k := by rw [u16_of k hlt]
      have HY := Lib.hid HY0
      clear HY0
      clear hr hbl
      cases hp : p k
      · rw [hp] at c3
        have HS0 : ls p (k + 1) = ls p k := by rw [ls, hp]; simp
        have HS := Lib.hid HS0
        clear HS0
        clear hp hlt
        go_wp2
        go_roundw
        case rel => exact ⟨k + 1, HL.out, by go_num, by rw [HS.out]; exact HR.out, HB.out⟩
        case measure => simp [intOf]; omega
      · rw [hp] at c3
        have HS0 : ls p (k + 1) = ls p k ++ [UInt16.ofNat k] := by rw [ls, hp]; simp
        have HS := Lib.hid HS0
        clear HS0
        clear hp hlt
        go_wp2_with (at_builtin; refine wpList_gapp1 (P := Tryd.prog) e16 wr rfl _ _ _ rfl w.heap.size sli16 inf16 _ (ls p k) rfl ?_ _ (UInt16.ofNat k) ?_ ?_ ?_ ?_ ?_; (exact HR.out); (simp only [e16, b16]; rw [HY.out]); rfl; omega; exact HB.out.size; intro v2 w2 o2 g2 _; have O2 := Lib.hid o2; have B2 := Lib.hid (Below.grown HB.out g2 HB.out.size (fun j hj => (HR.out.lt j hj).1)); clear o2 g2)
        go_roundw
        case rel => exact ⟨k + 1, HL.out, by go_num, by rw [HS.out]; exact O2.out, B2.out⟩
        case measure => simp [intOf]; omega
    · obtain rfl : k = 65536 := by omega
      obtain ⟨A5, c5, rfl, -⟩ := hr.sl
      clear hr hbl
      go_wp2
      go_ret
      exact ⟨_, rfl, HR.out, HB.out⟩
end Go.Proofs.YtfefmlnlicilbaaDoor
