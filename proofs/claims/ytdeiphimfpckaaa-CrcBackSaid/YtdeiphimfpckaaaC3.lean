/- Walks: the sum of bytes. -/
import Derived.Test.YtdeiphimfpckaaaC2
namespace Go.Proofs.Ytdeiphimfpckaaa
open Go.RowKit
set_option linter.unusedVariables false

/-- One byte, in the walk's spelling. -/
theorem sum_step (D z : Int) (d0 : 0 ≤ D) (d1 : D ≤ 4294967295) (z0 : 0 ≤ z) (z1 : z ≤ 255) :
    ∃ X : Nat, X < 256 ∧ bits .xor .u8 (D % 256) z = (X : Int) ∧ bits .xor .u32 (D / 256) ((c8 X : Nat) : Int) = (c8 (D.toNat ^^^ z.toNat) : Nat) ∧ ((c8 (D.toNat ^^^ z.toNat) : Nat) : Int) ≤ 4294967295 := by
  obtain ⟨d, rfl⟩ := Int.eq_ofNat_of_zero_le d0
  obtain ⟨y, rfl⟩ := Int.eq_ofNat_of_zero_le z0
  have hx : d % 256 ^^^ y < 2 ^ 8 := Nat.xor_lt_two_pow (by omega) (by omega)
  have hl : c8 (d ^^^ y) < 4294967296 := c8_lt _ (xor_lt32 (by omega) (by omega))
  have hl2 : c8 (d % 256 ^^^ y) < 4294967296 := c8_lt _ (by omega)
  have e1 : (d ^^^ y) % 256 = d % 256 ^^^ y := by
    have h := Nat.xor_mod_two_pow (a := d) (b := y) (n := 8)
    rw [show (2 : Nat) ^ 8 = 256 from rfl] at h
    rw [h, Nat.mod_eq_of_lt (show y < 256 by omega)]
  have e2 : (d ^^^ y) / 256 = d / 256 := by
    have h := Nat.xor_div_two_pow (a := d) (b := y) (n := 8)
    rw [show (2 : Nat) ^ 8 = 256 from rfl] at h
    rw [h, Nat.div_eq_of_lt (show y < 256 by omega), Nat.xor_zero]
  refine ⟨d % 256 ^^^ y, by omega, ?_, ?_, ?_⟩
  · rw [show (d : Int) % 256 = ((d % 256 : Nat) : Int) by omega, bits_xor_u8 _ _ (by omega) (by omega)]
  · rw [show (d : Int) / 256 = ((d / 256 : Nat) : Int) by omega, bits_xor_u32 _ _ (by omega) hl2]
    simp only [Int.toNat_natCast]
    rw [c8_table (d ^^^ y), e1, e2, Nat.xor_comm]
  · simp only [Int.toNat_natCast]
    omega

set_option maxHeartbeats 1000000 in
set_option maxRecDepth 100000 in
theorem sum_any (v : Value) (l : List UInt8) (lo : Nat) (w : World) (hv : Gs e8 w lo w.heap.size v l) :
    Calls Try.prog 10 #[v] w fun e w' => e = .returned (.int .u32 (crc l)) ∧ Below w.heap.size w w' := by
  have hlen := hv.len
  have HV := Lib.hid hv
  obtain ⟨A, c, rfl, -, -, -, -⟩ := hv
  have hz := (zero_of_info zero37).1
  have I := Lib.hid (zero_of_info zero37).2
  go_enter Try.func10, Try.ntmps10
  go_wp2_with (first
    | (go_at_call 17; refine (sums_any _).mono ?_; rintro e w1 ⟨rfl, b1⟩; have B1 := Lib.hid b1; clear b1)
    | (refine wpList_store_row rfl _ _ _ rfl w1.heap.size (tb 256) rfl rfl _ _ (Row.new _ _ _) (by rw [tb_size]; exact Array.size_replicate) (by rw [tb_size]; exact I.out) (tb_one _) ?_; intro w2 r2 g2; have B2 := Lib.hid ((B1.out.alloc B1.out.size _).grown g2 (Nat.le_trans B1.out.size (by simp)) (fun k h => by injection h with h; subst h; exact B1.out.size)); have R2 := Lib.hid r2; clear r2 g2))
  clear hz
  have HC : Hid (∀ x : Nat, x < 256 → w2.cell? ⟨w1.heap.size, x, none⟩ = some (.int .u32 (c8 x : Nat))) := Lib.hid (fun x hx => by rw [R2.out.cell]; exact tb_at 256 x hx hx)
  obtain ⟨A, c, e, -, -, -, hb⟩ := HV.out.below B2.out
  injection e with e1 _ e3
  subst e1 e3
  have HB := Lib.hid hb
  clear hb
  go_loop [4, 10] (fun n i => ∃ (k : Nat) (D : Int), k ≤ l.length ∧ i = .int .i64 k ∧ n = .int .u32 D ∧ 0 ≤ D ∧ D ≤ 4294967295 ∧ D = (cr 4294967295 (l.take k) : Nat)) (fun _ i => l.length - (intOf i).toNat)
  case atStart => exact ⟨0, 4294967295, by omega, rfl, rfl, by omega, by omega, rfl⟩
  case round =>
    obtain ⟨k, D, hk, rfl, rfl, d0, d1, hD⟩ := hrel
    have HD := Lib.hid hD
    clear hD
    by_cases hlt : k < l.length
    · obtain ⟨b, off, rfl, -, -, hc⟩ := HB.out (by rintro rfl; simp at hlt)
      obtain ⟨y, hy⟩ : ∃ y, l[k]? = some y := ⟨_, List.getElem?_eq_getElem hlt⟩
      have hck := hc k y hy
      simp only [e8, b8] at hck
      obtain ⟨z, hz⟩ : ∃ z : Int, z = (y.toNat : Int) := ⟨_, rfl⟩
      rw [← hz] at hck
      have z0 : 0 ≤ z := by omega
      have z1 : z ≤ 255 := by have := y.toNat_lt; omega
      obtain ⟨X, hX, hx, hr, hm⟩ := sum_step D z d0 d1 z0 z1
      have hcx := HC.out X hX
      have hnext : c8 (D.toNat ^^^ z.toNat) = cr 4294967295 (l.take (k + 1)) := by
        rw [List.take_add_one, hy, Option.toList_some, cr_snoc, HD.out, hz]
        simp only [Int.toNat_natCast]
      have HR := Lib.hid hr
      have HM := Lib.hid hm
      have HN := Lib.hid hnext
      clear hr hm hnext hc hy hz
      have hX' : (X : Int) < 256 := by omega
      go_wp2
      go_round
      case rel => exact ⟨k + 1, _, hlt, by go_num, by go_num, by rw [HR.out]; omega, by rw [HR.out]; exact HM.out, by rw [HR.out, HN.out]⟩
      case measure => simp [intOf]; omega
    · obtain rfl : k = l.length := by omega
      go_wp2
      go_ret
      refine ⟨congrArg Ending.returned (congrArg (Value.int IntKind.u32) ?_), B2.out⟩
      have hD := HD.out
      rw [List.take_length] at hD
      have hl := cr_lt 4294967295 l (by omega)
      rw [hD, show IntKind.u32.max = ((4294967295 : Nat) : Int) from rfl, bits_xor_u32 _ _ (by omega) hl, crc_xor, Nat.xor_comm]
end Go.Proofs.Ytdeiphimfpckaaa
