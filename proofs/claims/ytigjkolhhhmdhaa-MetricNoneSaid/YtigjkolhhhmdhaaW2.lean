/- Walks. -/
import Derived.Test.YtigjkolhhhmdhaaW1
import Derived.Test.YtigjkolhhhmdhaaPl
namespace Go.Proofs.Ytigjkolhhhmdhaa
open Go.RowKit
set_option linter.unusedVariables false

set_option maxHeartbeats 400000 in
theorem appendWhole_any (v : Value) (l : List UInt8) (lo : Nat) (N : Nat) (m : Int) (w : World) (hv : Sl w lo w.heap.size v l) (hm : 0 ≤ m) (hm2 : m ≤ 8) (hN : N < 18446744073709551616) (hb : (l.length : Int) + m ≤ 100000000) :
    Calls Try.prog 37 #[v, .int .u64 N, .int .i64 m] w fun e w' => ∃ v', e = .returned v' ∧ Ow w' w.heap.size v' (l ++ le m.toNat N) ∧ Below w.heap.size w w' := by
  obtain ⟨m, rfl⟩ := Int.eq_ofNat_of_zero_le hm
  go_enter Try.func37, Try.ntmps37
  go_wp2_with (go_at_call 42; refine (copyWithRoom_any v l lo m _ hv (by omega) (by omega)).mono ?_; rintro e w1 ⟨v1, rfl, o1, b1⟩)
  go_loopw [1, 7, 12] (fun n u i wr => ∃ k D : Nat, k ≤ m ∧ D = N / 256 ^ k ∧ i = .int .i64 k ∧ n = .int .u64 D ∧ Ow wr w.heap.size u (l ++ le k N) ∧ Below w.heap.size w wr) (fun _ _ i _ => m - (intOf i).toNat)
  case atStart => exact ⟨0, N, by omega, by simp, rfl, rfl, by simpa [le] using o1, b1⟩
  case round =>
    obtain ⟨k, D, hk, hD, rfl, rfl, ok, bk⟩ := hrel
    have hDN : D ≤ N := by rw [hD]; exact Nat.div_le_self _ _
    have HD := Lib.hid hD
    clear hD
    by_cases hlt : k < m
    · go_wp2_with (at_builtin; refine wpList_app1 _ rfl _ _ _ rfl w.heap.size Try.underlying31 info8 u7 (l ++ le k N) rfl ok _ (UInt8.ofNat D) (u8_mod D).symm rfl (by simp [le_length]; omega) bk.size ?_; intro v2 w2 o2 g2 _)
      have b2 : Below w.heap.size w w2 := bk.grown g2 bk.size (fun j hj => (ok.lt j hj).1)
      go_roundw
      case rel => exact ⟨k + 1, D / 256, by omega, by rw [HD.out, div_pow_succ], by go_num, by go_num, by rw [le_snoc, ← HD.out, ← List.append_assoc]; exact o2, b2⟩
      case measure => simp [intOf]; omega
    · obtain rfl : k = m := by omega
      go_wp2
      go_ret
      exact ⟨u7, rfl, by simpa using ok, bk⟩

set_option maxHeartbeats 400000 in
theorem appendU32_any (v : Value) (l : List UInt8) (lo : Nat) (N : Nat) (w : World) (hv : Sl w lo w.heap.size v l) (hN : N < 4294967296) (hb : l.length ≤ 1000000) :
    Calls Try.prog 31 #[v, .int .u32 N] w fun e w' => ∃ v', e = .returned v' ∧ Ow w' w.heap.size v' (l ++ le 4 N) ∧ Below w.heap.size w w' := by
  go_enter Try.func31, Try.ntmps31
  go_wp2_with (go_at_call 37; refine (appendWhole_any v l lo N 4 _ hv (by omega) (by omega) (by omega) (by omega)).mono ?_; rintro e w1 ⟨v1, rfl, o1, b1⟩)
  go_ret
  exact ⟨v1, rfl, o1, b1⟩

set_option maxHeartbeats 400000 in
theorem appendU64_any (v : Value) (l : List UInt8) (lo : Nat) (N : Nat) (w : World) (hv : Sl w lo w.heap.size v l) (hN : N < 18446744073709551616) (hb : l.length ≤ 1000000) :
    Calls Try.prog 38 #[v, .int .u64 N] w fun e w' => ∃ v', e = .returned v' ∧ Ow w' w.heap.size v' (l ++ le 8 N) ∧ Below w.heap.size w w' := by
  go_enter Try.func38, Try.ntmps38
  go_wp2_with (go_at_call 37; refine (appendWhole_any v l lo N 8 _ hv (by omega) (by omega) (by omega) (by omega)).mono ?_; rintro e w1 ⟨v1, rfl, o1, b1⟩)
  go_ret
  exact ⟨v1, rfl, o1, b1⟩
end Go.Proofs.Ytigjkolhhhmdhaa
