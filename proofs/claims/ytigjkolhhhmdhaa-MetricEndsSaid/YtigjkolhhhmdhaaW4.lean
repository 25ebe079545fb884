/- Walks: a short number is written. -/
import Derived.Test.YtigjkolhhhmdhaaW3
namespace Go.Proofs.Ytigjkolhhhmdhaa
open Go.RowKit
set_option linter.unusedVariables false

set_option maxHeartbeats 400000 in
theorem shortSize_any (x : Int) (w : World) (h0 : 0 ≤ x) (h1 : x ≤ 18446744073709551615) :
    Calls Try.prog 44 #[.int .u64 x] w fun e w' => e = .returned (.int .i64 (short x.toNat).length) ∧ w = w' := by
  have hs := Lib.hid (short_size x.toNat)
  have hb : ((bl x.toNat : Nat) : Int) ≤ 64 := by have := bl_le x.toNat (by omega); omega
  go_enter Try.func44, Try.ntmps44
  go_wp2_with (go_at_call 45; refine (len64_int _ _ h0 h1).mono ?_; rintro e w1 ⟨rfl, rfl⟩)
  all_goals
    go_ret
    refine ⟨congrArg Ending.returned (congrArg (Value.int IntKind.i64) ?_), rfl⟩
    rw [hs.out]
    omega

theorem or128_all : ∀ m : Fin 256, bits BinOp.or IntKind.u8 (m.val : Int) 128 = ((m.val % 128 + 128 : Nat) : Int) := by decide +kernel
theorem or128 (D : Int) (h : 0 ≤ D) : bits BinOp.or IntKind.u8 (D % 256) 128 = ((UInt8.ofNat (D.toNat % 128 + 128)).toNat : Int) := by
  have h1 := or128_all ⟨(D % 256).toNat, by omega⟩
  have e : (((D % 256).toNat : Nat) : Int) = D % 256 := by omega
  simp only [e] at h1
  rw [h1, u8_mod]
  omega

end Go.Proofs.Ytigjkolhhhmdhaa
