/- Walks: the document's whole numbers are written. -/
import Derived.Test.YtigjkolhhhmdhaaRf
namespace Go.Proofs.Ytigjkolhhhmdhaa
open Go.RowKit
set_option linter.unusedVariables false

set_option maxHeartbeats 400000 in
theorem refLittle_any (N : Nat) (m : Int) (w : World) (hm : 0 ≤ m) (hm2 : m ≤ 8) (hN : N < 18446744073709551616) :
    Calls Try.prog 33 #[.int .u64 N, .int .i64 m] w fun e w' => ∃ v', e = .returned v' ∧ Ow w' w.heap.size v' (le m.toNat N) ∧ Below w.heap.size w w' := by
  obtain ⟨m, rfl⟩ := Int.eq_ofNat_of_zero_le hm
  have HN := Lib.hid hN
  clear hN
  go_enter Try.func33, Try.ntmps33
  go_wp2
  go_loopw [0, 5, 6] (fun n u i wr => ∃ k D : Nat, k ≤ m ∧ D = N / 256 ^ k ∧ i = .int .i64 k ∧ n = .int .u64 D ∧ Ow wr w.heap.size u (le k N) ∧ Below w.heap.size w wr) (fun _ _ i _ => m - (intOf i).toNat)
  case atStart => exact ⟨0, N, by omega, by simp, rfl, rfl, Ow.nil_ _ _, Below.refl _ _⟩
  case round =>
    obtain ⟨k, D, hk, hD, rfl, rfl, ok, bk⟩ := hrel
    have h2 : D ≤ N := by rw [hD]; exact Nat.div_le_self _ _
    have dB : (D : Int) ≤ 18446744073709551615 := by have h1 := HN.out; omega
    clear h2
    have HD := Lib.hid hD
    clear hD
    by_cases hlt : k < m
    · go_wp2_with (at_builtin; refine wpList_app1 _ rfl _ _ _ rfl w.heap.size Try.underlying31 info8 u5 (le k N) rfl ok _ (UInt8.ofNat D) (u8_mod D).symm rfl (by simp [le_length]; omega) bk.size ?_; intro v2 w2 o2 g2 hj; clear hj)
      have b2 : Below w.heap.size w w2 := bk.grown g2 bk.size (fun j hj => (ok.lt j hj).1)
      go_roundw
      case rel => exact ⟨k + 1, D / 256, by omega, by rw [HD.out, div_pow_succ], by go_num, by go_num, by rw [le_snoc, ← HD.out]; exact o2, b2⟩
      case measure => simp [intOf]; omega
    · obtain rfl : k = m := by omega
      go_wp2
      go_ret
      exact ⟨u5, rfl, by simpa using ok, bk⟩
end Go.Proofs.Ytigjkolhhhmdhaa
