/- Runs: Xor, Flip (cut from stages 4 to 6) -/
import Derived.Test.YtfefmlnlicilbaaDoorF6
namespace Go.Proofs.YtfefmlnlicilbaaDoor
open Go.RowKit
set_option linter.unusedVariables false

theorem rxor_says (x y : Bool) (W : World) : Calls Tryd.prog 86 #[.bool x, .bool y] W fun e w' => e = .returned (.bool (fXor x y)) ∧ w' = W := by
  cases x <;> cases y <;>
    (go_enter Tryd.func86, Tryd.ntmps86
     go_wp2
     go_ret
     exact ⟨rfl, rfl⟩)
set_option maxHeartbeats 400000 in
theorem rxor_any (v u : Value) (A B : List Rn) (w : World) (hv : Gs2 eR w 0 w.heap.size v A) (hu : Gs2 eR w 0 w.heap.size u B) (hA : A.length ≤ 100000) (hB : B.length ≤ 100000) :
    Calls Tryd.prog 67 #[v, u] w fun e w' => ∃ v', e = .returned v' ∧ Gw2 eR w' w.heap.size v' (pd fXor A B) ∧ Below w.heap.size w w' := by
  have T := Lib.hid (rpaired_any 86 (enters_of Tryd.func86 (by kernel_rfl) rfl) fXor rxor_says v u A B w hv hu hA hB)
  clear hv hu hA hB
  go_enter Tryd.func67, Tryd.ntmps67
  go_wp2_with (go_at_call 85; refine T.out.mono ?_; rintro e w1 ⟨v1, rfl, o1, b1⟩; have O1 := Lib.hid o1; have B1 := Lib.hid b1; clear o1 b1)
  go_ret
  exact ⟨_, rfl, O1.out, B1.out⟩
set_option maxHeartbeats 400000 in
theorem rflip_any (v : Value) (A : List Rn) (lo hi : Int) (w : World) (hv : Gs2 eR w 0 w.heap.size v A) (hA : A.length ≤ 100000) :
    Calls Tryd.prog 46 #[v, .int .i64 lo, .int .i64 hi] w fun e w' => ∃ v', e = .returned v' ∧ Gw2 eR w' w.heap.size v' (pd fXor A (btw (clp lo) (clp hi))) ∧ Below w.heap.size w w' := by
  have HV := Lib.hid hv
  have HA := Lib.hid hA
  have HL := Lib.hid (clp_le lo)
  have HH := Lib.hid (clp_le hi)
  clear hv hA
  go_enter Tryd.func46, Tryd.ntmps46
  go_wp2_with fail
  go_at_call 69
  refine (rwithin_any lo w).mono ?_
  rintro e w1 ⟨rfl, hz⟩
  have hz := hz.symm
  subst hz
  go_wp2_with fail
  go_at_call 69
  refine (rwithin_any hi w).mono ?_
  rintro e w1 ⟨rfl, hz⟩
  have hz := hz.symm
  subst hz
  go_wp2_with fail
  go_at_call 68
  refine (between_any _ _ (by have := HL.out; omega) (by have := HH.out; omega) w).mono ?_
  rintro e w1 ⟨v1, rfl, o1, b1⟩
  have O1 := Lib.hid o1
  have B1 := Lib.hid b1
  clear o1 b1
  go_wp2_with fail
  go_at_call 67
  refine (rxor_any _ _ _ _ _ (HV.out.step B1.out) (O1.out.sl.more (Nat.zero_le _) (Nat.le_refl _)) HA.out (Nat.le_trans (btw_len _ _) (by omega))).mono ?_
  rintro e w2 ⟨v2, rfl, o2, b2⟩
  have O2 := Lib.hid o2
  have B2 := Lib.hid b2
  clear o2 b2
  go_wp2_with fail
  go_ret
  exact ⟨_, rfl, O2.out.more B1.out.size, below_both B1.out B2.out⟩
end Go.Proofs.YtfefmlnlicilbaaDoor
