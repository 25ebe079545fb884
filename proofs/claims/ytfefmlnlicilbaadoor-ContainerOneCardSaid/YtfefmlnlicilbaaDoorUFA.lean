/- Runs: Len (cut from stages 4 to 6) -/
import Derived.Test.YtfefmlnlicilbaaDoorUF9
namespace Go.Proofs.YtfefmlnlicilbaaDoor
open Go.RowKit
set_option linter.unusedVariables false

set_option maxHeartbeats 400000 in
theorem rlen_any (v : Value) (A : List Rn) (N : Nat) (w : World) (hv : Gs2 eR w 0 w.heap.size v A) (hA : mayr 0 A = true) (hN : ct (mr A) 65536 = N) :
    Calls Tryd.prog 49 #[v] w fun e w' => e = .returned (.int .i64 N) ∧ Below w.heap.size w w' := by
  have T := Lib.hid (rrank_any v A 65536 N w hv hA (by omega) hN)
  clear hv hA hN
  go_enter Tryd.func49, Tryd.ntmps49
  go_wp2_with (go_at_call 73; refine T.out.mono ?_; rintro e w1 ⟨rfl, b1⟩; have B1 := Lib.hid b1; clear b1)
  go_ret
  exact ⟨rfl, B1.out⟩
/-- The number of which k are below it. -/
def sel : List Rn → Nat → Option Nat
  | [], _ => none
  | r :: l, k => if k < r.2.toNat + 1 then some (r.1.toNat + k) else sel l (k - (r.2.toNat + 1))
theorem ct_hit {p : Nat → Bool} {n m : Nat} (hp : p n = true) (h : n < m) : ct p n < ct p m := by
  induction m with
  | zero => omega
  | succ m ih =>
    rw [ct]
    by_cases e : n = m
    · subst e; rw [hp]; simp
    · have := ih (by omega); omega
theorem sel_some {d : Nat} {A : List Rn} (h : mayr d A = true) {k y : Nat} (hs : sel A k = some y) : mr A y = true ∧ ct (mr A) y = k ∧ y ≤ 65535 := by
  induction A generalizing d k with
  | nil => simp [sel] at hs
  | cons r l ih =>
    obtain ⟨h1, h2, h3⟩ := mayr_cons.1 h
    have hf := fst_le r
    rw [sel] at hs
    split at hs
    · rename_i hk
      injection hs with hs
      have hy : y ≤ lst r := by unfold lst; omega
      refine ⟨?_, ?_, by omega⟩
      · rw [mr_cons, (inr_iff _ _).2 ⟨by omega, hy⟩, Bool.true_or]
      · rw [ct_mr_cons h, ct_mr_zero h3 (by omega)]
        unfold lst
        omega
    · rename_i hk
      obtain ⟨i1, i2, i3⟩ := ih h3 hs
      have hge := (mr_ge h3 i1).1
      refine ⟨by rw [mr_cons, i1, Bool.or_true], ?_, i3⟩
      rw [ct_mr_cons h, i2]
      unfold lst at *
      omega
theorem sel_none {d : Nat} {A : List Rn} (h : mayr d A = true) {k : Nat} (hs : sel A k = none) : ct (mr A) 65536 ≤ k := by
  induction A generalizing d k with
  | nil => rw [ct_zero (p := mr []) fun x _ => rfl]; exact Nat.zero_le _
  | cons r l ih =>
    obtain ⟨h1, h2, h3⟩ := mayr_cons.1 h
    have hf := fst_le r
    rw [sel] at hs
    split at hs
    · cases hs
    · rename_i hk
      have := ih h3 hs
      rw [ct_mr_cons h]
      unfold lst at *
      omega
end Go.Proofs.YtfefmlnlicilbaaDoor
