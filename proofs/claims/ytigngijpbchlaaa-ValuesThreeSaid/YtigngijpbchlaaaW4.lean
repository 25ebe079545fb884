/- Walks: a short number is written. -/
import Derived.Test.YtigngijpbchlaaaW3
namespace Go.Proofs.Ytigngijpbchlaaa
open Go.RowKit
set_option linter.unusedVariables false

set_option maxHeartbeats 400000 in
theorem shortSize_any (x : Int) (w : World) (h0 : 0 ≤ x) (h1 : x ≤ 18446744073709551615) :
    Calls Try.prog 41 #[.int .u64 x] w fun e w' => e = .returned (.int .i64 (short x.toNat).length) ∧ w = w' := by
  have hs := Lib.hid (short_size x.toNat)
  have hb : ((bl x.toNat : Nat) : Int) ≤ 64 := by have := bl_le x.toNat (by omega); omega
  go_enter Try.func41, Try.ntmps41
  go_wp2_with (go_at_call 47; refine (len64_int _ _ h0 h1).mono ?_; rintro e w1 ⟨rfl, rfl⟩)
  all_goals
    go_ret
    refine ⟨congrArg Ending.returned (congrArg (Value.int IntKind.i64) ?_), rfl⟩
    rw [hs.out]
    omega

theorem or128_all : ∀ m : Fin 256, bits BinOp.or IntKind.u8 (m.val : Int) 128 = ((m.val % 128 + 128 : Nat) : Int) := by decide +kernel
theorem or128 (D : Int) (h : 0 ≤ D) : bits BinOp.or IntKind.u8 (D % 256) 128 = ((UInt8.ofNat (D.toNat % 128 + 128)).toNat : Int) := by
  have h1 := or128_all ⟨(D % 256).toNat, by omega⟩
  have e : (((D % 256).toNat : Nat) : Int) = D % 256 := by omega
  simp only [e] at h1
  rw [h1, u8_mod]
  omega

set_option maxHeartbeats 400000 in
theorem appendUint_any (v : Value) (l : List UInt8) (lo : Nat) (x : Int) (w : World) (hv : Sl w lo w.heap.size v l) (h0 : 0 ≤ x) (h1 : x ≤ 18446744073709551615) (hb : l.length ≤ 1000000) :
    Calls Try.prog 27 #[v, .int .u64 x] w fun e w' => ∃ v', e = .returned v' ∧ Ow w' w.heap.size v' (l ++ short x.toNat) ∧ Below w.heap.size w w' := by
  have hsl := short_length_le x.toNat (by omega)
  go_enter Try.func27, Try.ntmps27
  go_wp2_with (first | (go_at_call 41; refine (shortSize_any _ _ h0 h1).mono ?_; rintro e w1 ⟨rfl, rfl⟩) | (go_at_call 40; refine (copyWithRoom_any v l lo _ _ hv (by omega) (by omega)).mono ?_; rintro e w1 ⟨v1, rfl, o1, b1⟩))
  go_loopw [1, 5] (fun n u wr => ∃ (D : Int) (p : List UInt8), 0 ≤ D ∧ D ≤ 18446744073709551615 ∧ short x.toNat = p ++ short D.toNat ∧ n = .int .u64 D ∧ Ow wr w.heap.size u (l ++ p) ∧ Below w.heap.size w wr) (fun n _ _ => (intOf n).toNat)
  case atStart => exact ⟨x, [], h0, h1, rfl, rfl, by simpa using o1, b1⟩
  case round =>
    obtain ⟨D, p, d0, d1, hp, rfl, ok, bk⟩ := hrel
    have hpl : p.length ≤ 10 := by have := congrArg List.length hp; simp at this; omega
    have HP := Lib.hid hp
    clear hp
    by_cases hlt : 128 ≤ D
    · go_wp2_with (at_builtin; refine wpList_app1 _ rfl _ _ _ rfl w.heap.size Try.underlying30 info8 u5 (l ++ p) rfl ok _ (UInt8.ofNat (D.toNat % 128 + 128)) (or128 D d0) rfl (by simp; omega) bk.size ?_; intro v2 w2 o2 g2 _)
      have b2 : Below w.heap.size w w2 := bk.grown g2 bk.size (fun j hj => (ok.lt j hj).1)
      go_roundw
      case rel => exact ⟨D / 128, p ++ [UInt8.ofNat (D.toNat % 128 + 128)], by omega, by omega, by rw [HP.out, short_ge (by omega), show (D / 128).toNat = D.toNat / 128 from by omega]; simp, rfl, by rw [← List.append_assoc]; exact o2, b2⟩
      case measure => simp [intOf]; omega
    · go_wp2_with (at_builtin; refine wpList_app1 _ rfl _ _ _ rfl w.heap.size Try.underlying30 info8 u5 (l ++ p) rfl ok _ (UInt8.ofNat D.toNat) (by rw [u8_mod]; omega) rfl (by simp; omega) bk.size ?_; intro v2 w2 o2 g2 _)
      have b2 : Below w.heap.size w w2 := bk.grown g2 bk.size (fun j hj => (ok.lt j hj).1)
      go_ret
      exact ⟨v2, rfl, by rw [HP.out, short_lt (by omega), ← List.append_assoc]; exact o2, b2⟩
end Go.Proofs.Ytigngijpbchlaaa
