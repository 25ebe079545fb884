/- Walks: And, Or, AndNot, Xor, Flip of runs. -/
import Derived.Test.YtgkelfhmpeakkaaDoorF6
namespace Go.Proofs.YtgkelfhmpeakkaaDoor
open Go.RowKit
set_option linter.unusedVariables false

theorem rand_says (x y : Bool) (W : World) : Calls Tryd.prog 29 #[.bool x, .bool y] W fun e w' => e = .returned (.bool (fAnd x y)) ∧ w' = W := by
  cases x <;> cases y <;>
    (go_enter Tryd.func29, Tryd.ntmps29
     go_wp2
     go_ret
     exact ⟨rfl, rfl⟩)
set_option maxHeartbeats 400000 in
theorem rand_any (v u : Value) (A B : List Rn) (w : World) (hv : Gs2 eR w 0 w.heap.size v A) (hu : Gs2 eR w 0 w.heap.size u B) (hA : A.length ≤ 100000) (hB : B.length ≤ 100000) :
    Calls Tryd.prog 7 #[v, u] w fun e w' => ∃ v', e = .returned v' ∧ Gw2 eR w' w.heap.size v' (pd fAnd A B) ∧ Below w.heap.size w w' := by
  have T := Lib.hid (rpaired_any 29 (enters_of Tryd.func29 (by kernel_rfl) rfl) fAnd rand_says v u A B w hv hu hA hB)
  clear hv hu hA hB
  go_enter Tryd.func7, Tryd.ntmps7
  go_wp2_with (go_at_call 28; refine T.out.mono ?_; rintro e w1 ⟨v1, rfl, o1, b1⟩; have O1 := Lib.hid o1; have B1 := Lib.hid b1; clear o1 b1)
  go_ret
  exact ⟨_, rfl, O1.out, B1.out⟩

theorem ror_says (x y : Bool) (W : World) : Calls Tryd.prog 30 #[.bool x, .bool y] W fun e w' => e = .returned (.bool (fOr x y)) ∧ w' = W := by
  cases x <;> cases y <;>
    (go_enter Tryd.func30, Tryd.ntmps30
     go_wp2
     go_ret
     exact ⟨rfl, rfl⟩)
set_option maxHeartbeats 400000 in
theorem ror_any (v u : Value) (A B : List Rn) (w : World) (hv : Gs2 eR w 0 w.heap.size v A) (hu : Gs2 eR w 0 w.heap.size u B) (hA : A.length ≤ 100000) (hB : B.length ≤ 100000) :
    Calls Tryd.prog 8 #[v, u] w fun e w' => ∃ v', e = .returned v' ∧ Gw2 eR w' w.heap.size v' (pd fOr A B) ∧ Below w.heap.size w w' := by
  have T := Lib.hid (rpaired_any 30 (enters_of Tryd.func30 (by kernel_rfl) rfl) fOr ror_says v u A B w hv hu hA hB)
  clear hv hu hA hB
  go_enter Tryd.func8, Tryd.ntmps8
  go_wp2_with (go_at_call 28; refine T.out.mono ?_; rintro e w1 ⟨v1, rfl, o1, b1⟩; have O1 := Lib.hid o1; have B1 := Lib.hid b1; clear o1 b1)
  go_ret
  exact ⟨_, rfl, O1.out, B1.out⟩

theorem rnot_says (x y : Bool) (W : World) : Calls Tryd.prog 31 #[.bool x, .bool y] W fun e w' => e = .returned (.bool (fNot x y)) ∧ w' = W := by
  cases x <;> cases y <;>
    (go_enter Tryd.func31, Tryd.ntmps31
     go_wp2
     go_ret
     exact ⟨rfl, rfl⟩)
set_option maxHeartbeats 400000 in
theorem rnot_any (v u : Value) (A B : List Rn) (w : World) (hv : Gs2 eR w 0 w.heap.size v A) (hu : Gs2 eR w 0 w.heap.size u B) (hA : A.length ≤ 100000) (hB : B.length ≤ 100000) :
    Calls Tryd.prog 9 #[v, u] w fun e w' => ∃ v', e = .returned v' ∧ Gw2 eR w' w.heap.size v' (pd fNot A B) ∧ Below w.heap.size w w' := by
  have T := Lib.hid (rpaired_any 31 (enters_of Tryd.func31 (by kernel_rfl) rfl) fNot rnot_says v u A B w hv hu hA hB)
  clear hv hu hA hB
  go_enter Tryd.func9, Tryd.ntmps9
  go_wp2_with (go_at_call 28; refine T.out.mono ?_; rintro e w1 ⟨v1, rfl, o1, b1⟩; have O1 := Lib.hid o1; have B1 := Lib.hid b1; clear o1 b1)
  go_ret
  exact ⟨_, rfl, O1.out, B1.out⟩

theorem rxor_says (x y : Bool) (W : World) : Calls Tryd.prog 32 #[.bool x, .bool y] W fun e w' => e = .returned (.bool (fXor x y)) ∧ w' = W := by
  cases x <;> cases y <;>
    (go_enter Tryd.func32, Tryd.ntmps32
     go_wp2
     go_ret
     exact ⟨rfl, rfl⟩)
set_option maxHeartbeats 400000 in
theorem rxor_any (v u : Value) (A B : List Rn) (w : World) (hv : Gs2 eR w 0 w.heap.size v A) (hu : Gs2 eR w 0 w.heap.size u B) (hA : A.length ≤ 100000) (hB : B.length ≤ 100000) :
    Calls Tryd.prog 10 #[v, u] w fun e w' => ∃ v', e = .returned v' ∧ Gw2 eR w' w.heap.size v' (pd fXor A B) ∧ Below w.heap.size w w' := by
  have T := Lib.hid (rpaired_any 32 (enters_of Tryd.func32 (by kernel_rfl) rfl) fXor rxor_says v u A B w hv hu hA hB)
  clear hv hu hA hB
  go_enter Tryd.func10, Tryd.ntmps10
  go_wp2_with (go_at_call 28; refine T.out.mono ?_; rintro e w1 ⟨v1, rfl, o1, b1⟩; have O1 := Lib.hid o1; have B1 := Lib.hid b1; clear o1 b1)
  go_ret
  exact ⟨_, rfl, O1.out, B1.out⟩

set_option maxHeartbeats 400000 in
theorem rflip_any (v : Value) (A : List Rn) (lo hi : Int) (w : World) (hv : Gs2 eR w 0 w.heap.size v A) (hA : A.length ≤ 100000) :
    Calls Tryd.prog 22 #[v, .int .i64 lo, .int .i64 hi] w fun e w' => ∃ v', e = .returned v' ∧ Gw2 eR w' w.heap.size v' (pd fXor A (btw (clp lo) (clp hi))) ∧ Below w.heap.size w w' := by
  have HV := Lib.hid hv
  have HA := Lib.hid hA
  have HL := Lib.hid (clp_le lo)
  have HH := Lib.hid (clp_le hi)
  clear hv hA
  go_enter Tryd.func22, Tryd.ntmps22
  go_wp2_with fail
  go_at_call 45
  refine (within_any lo w).mono ?_
  rintro e w1 ⟨rfl, hz⟩
  have hz := hz.symm
  subst hz
  go_wp2_with fail
  go_at_call 45
  refine (within_any hi w).mono ?_
  rintro e w1 ⟨rfl, hz⟩
  have hz := hz.symm
  subst hz
  go_wp2_with fail
  go_at_call 44
  refine (between_any _ _ (by have := HL.out; omega) (by have := HH.out; omega) w).mono ?_
  rintro e w1 ⟨v1, rfl, o1, b1⟩
  have O1 := Lib.hid o1
  have B1 := Lib.hid b1
  clear o1 b1
  go_wp2_with fail
  go_at_call 10
  refine (rxor_any _ _ _ _ _ (HV.out.step B1.out) (O1.out.sl.more (Nat.zero_le _) (Nat.le_refl _)) HA.out (Nat.le_trans (btw_len _ _) (by omega))).mono ?_
  rintro e w2 ⟨v2, rfl, o2, b2⟩
  have O2 := Lib.hid o2
  have B2 := Lib.hid b2
  clear o2 b2
  go_wp2_with fail
  go_ret
  exact ⟨_, rfl, O2.out.more B1.out.size, below_both B1.out B2.out⟩
end Go.Proofs.YtgkelfhmpeakkaaDoor
