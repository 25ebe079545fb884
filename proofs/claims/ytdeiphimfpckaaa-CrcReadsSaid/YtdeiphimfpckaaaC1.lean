/- Walks: one byte is shifted out; the sums of single bytes. -/
import Derived.Test.YtdeiphimfpckaaaGm
import Derived.Test.YtdeiphimfpckaaaC0
import Derived.Deep.WholeRow
import Derived.Laws.ResultCell
namespace Go.Proofs.Ytdeiphimfpckaaa
open Go.RowKit
set_option linter.unusedVariables false

theorem wrap_u32 (n : Int) : IntKind.u32.wrap n = n % 4294967296 := by simp [IntKind.wrap, IntKind.bits, IntKind.signed]
theorem wrap_u8 (n : Int) : IntKind.u8.wrap n = n % 256 := by simp [IntKind.wrap, IntKind.bits, IntKind.signed]
theorem bits_xor_u32 (a b : Nat) (ha : a < 4294967296) (hb : b < 4294967296) : bits .xor .u32 (a : Int) (b : Int) = ((a ^^^ b : Nat) : Int) := by
  have hx : a ^^^ b < 2 ^ 32 := Nat.xor_lt_two_pow (by omega) (by omega)
  have h1 : (BitVec.ofInt 32 (a : Int)).toNat = a := by
    rw [BitVec.ofInt_natCast, BitVec.toNat_ofNat]; exact Nat.mod_eq_of_lt (by omega)
  have h2 : (BitVec.ofInt 32 (b : Int)).toNat = b := by
    rw [BitVec.ofInt_natCast, BitVec.toNat_ofNat]; exact Nat.mod_eq_of_lt (by omega)
  show IntKind.u32.wrap ((BitVec.ofInt 32 (a : Int) ^^^ BitVec.ofInt 32 (b : Int)).toNat : Int) = _
  rw [BitVec.toNat_xor, h1, h2, wrap_u32]
  omega
theorem bits_xor_u8 (a b : Nat) (ha : a < 256) (hb : b < 256) : bits .xor .u8 (a : Int) (b : Int) = ((a ^^^ b : Nat) : Int) := by
  have hx : a ^^^ b < 2 ^ 8 := Nat.xor_lt_two_pow (by omega) (by omega)
  have h1 : (BitVec.ofInt 8 (a : Int)).toNat = a := by
    rw [BitVec.ofInt_natCast, BitVec.toNat_ofNat]; exact Nat.mod_eq_of_lt (by omega)
  have h2 : (BitVec.ofInt 8 (b : Int)).toNat = b := by
    rw [BitVec.ofInt_natCast, BitVec.toNat_ofNat]; exact Nat.mod_eq_of_lt (by omega)
  show IntKind.u8.wrap ((BitVec.ofInt 8 (a : Int) ^^^ BitVec.ofInt 8 (b : Int)).toNat : Int) = _
  rw [BitVec.toNat_xor, h1, h2, wrap_u8]
  omega
theorem bits_low_u32 (a : Nat) (ha : a < 4294967296) : bits .and .u32 (a : Int) 1 = ((a % 2 : Nat) : Int) := by
  have h1 : (BitVec.ofInt 32 (a : Int)).toNat = a := by
    rw [BitVec.ofInt_natCast, BitVec.toNat_ofNat]; exact Nat.mod_eq_of_lt (by omega)
  show IntKind.u32.wrap ((BitVec.ofInt 32 (a : Int) &&& BitVec.ofInt 32 1).toNat : Int) = _
  rw [BitVec.toNat_and, h1, show (BitVec.ofInt 32 1).toNat = 1 from rfl, Nat.and_one_is_mod, wrap_u32]
  omega
/-- One bit, in the walk's spelling. -/
theorem c1_int (D : Int) (h0 : 0 ≤ D) (h1 : D ≤ 4294967295) :
    (D % 2 = 1 → bits .and .u32 D 1 = 1 ∧ bits .xor .u32 (D / 2) 3988292384 = (c1 D.toNat : Nat)) ∧ (D % 2 = 0 → bits .and .u32 D 1 = 0 ∧ D / 2 = (c1 D.toNat : Nat)) ∧ (c1 D.toNat : Int) ≤ 4294967295 := by
  obtain ⟨d, rfl⟩ := Int.eq_ofNat_of_zero_le h0
  have hd : d < 4294967296 := by omega
  have hl := c1_lt d hd
  rw [Int.toNat_natCast]
  refine ⟨fun h => ⟨?_, ?_⟩, fun h => ⟨?_, ?_⟩, by omega⟩
  · rw [bits_low_u32 d hd]; omega
  · rw [show (d : Int) / 2 = ((d / 2 : Nat) : Int) by omega, show (3988292384 : Int) = ((3988292384 : Nat) : Int) by rfl, bits_xor_u32 _ _ (by omega) (by omega), c1, if_pos (by omega)]
  · rw [bits_low_u32 d hd]; omega
  · rw [c1, if_neg (by omega)]; omega

set_option maxHeartbeats 400000 in
theorem shiftOut_any (x : Int) (w : World) (h0 : 0 ≤ x) (h1 : x ≤ 4294967295) :
    Calls Try.prog 24 #[.int .u32 x] w fun e w' => e = .returned (.int .u32 (c8 x.toNat)) ∧ w = w' := by
  go_enter Try.func24, Try.ntmps24
  go_wp2
  go_loop [0, 3] (fun n i => ∃ (k : Nat) (D : Int), k ≤ 8 ∧ i = .int .i64 k ∧ n = .int .u32 D ∧ 0 ≤ D ∧ D ≤ 4294967295 ∧ D = (cn k x.toNat : Nat)) (fun _ i => 8 - (intOf i).toNat)
  case atStart => exact ⟨0, x, by omega, rfl, rfl, h0, h1, by simp only [cn]; omega⟩
  case round =>
    obtain ⟨k, D, hk, rfl, rfl, d0, d1, hD⟩ := hrel
    have HD := Lib.hid hD
    have hst := c1_int D d0 d1
    have e1 : c1 D.toNat = cn (k + 1) x.toNat := by rw [HD.out, Int.toNat_natCast]; rfl
    clear hD
    by_cases hlt : k < 8
    · by_cases hm : D % 2 = 1
      · have ha := (hst.1 hm).1
        have hx := Lib.hid (hst.1 hm).2
        have hc := Lib.hid hst.2.2
        have E1 := Lib.hid e1
        clear hst hm e1
        go_wp2
        go_round
        case rel => exact ⟨k + 1, _, by omega, by go_num, by go_num, by rw [hx.out]; omega, by rw [hx.out]; exact hc.out, by rw [hx.out, E1.out]⟩
        case measure => simp [intOf]; omega
      · have hm' : D % 2 = 0 := by omega
        have ha := (hst.2.1 hm').1
        have hx := Lib.hid (hst.2.1 hm').2
        have hc := Lib.hid hst.2.2
        have E1 := Lib.hid e1
        clear hst hm e1 hm'
        go_wp2
        go_round
        case rel => exact ⟨k + 1, _, by omega, by go_num, by go_num, by rw [hx.out]; omega, by rw [hx.out]; exact hc.out, by rw [hx.out, E1.out]⟩
        case measure => simp [intOf]; omega
    · obtain rfl : k = 8 := by omega
      clear hst e1
      go_wp2
      go_ret
      exact ⟨by rw [HD.out]; rfl, rfl⟩
end Go.Proofs.Ytdeiphimfpckaaa
