/- Walks: the document's sum, and what it frames. -/
import Derived.Test.YtdeiphimfpckaaaC5
namespace Go.Proofs.Ytdeiphimfpckaaa
open Go.RowKit
set_option linter.unusedVariables false

set_option maxHeartbeats 400000 in
theorem little_any (N : Nat) (m : Int) (w : World) (hm : 0 ≤ m) (hm2 : m ≤ 8) (hN : N < 18446744073709551616) :
    Calls Try.prog 18 #[.int .u64 N, .int .i64 m] w fun e w' => ∃ v', e = .returned v' ∧ Gw e8 w' w.heap.size v' (le m.toNat N) ∧ Below w.heap.size w w' := by
  obtain ⟨m, rfl⟩ := Int.eq_ofNat_of_zero_le hm
  have HN := Lib.hid hN
  clear hN
  go_enter Try.func18, Try.ntmps18
  go_wp2
  go_loopw [0, 5, 6] (fun n u i wr => ∃ k D : Nat, k ≤ m ∧ D = N / 256 ^ k ∧ i = .int .i64 k ∧ n = .int .u64 D ∧ Gw e8 wr w.heap.size u (le k N) ∧ Below w.heap.size w wr) (fun _ _ i _ => m - (intOf i).toNat)
  case atStart => exact ⟨0, N, by omega, by simp, rfl, rfl, Gw.nil_ _ _, Below.refl _ _⟩
  case round =>
    obtain ⟨k, D, hk, hD, rfl, rfl, ok, bk⟩ := hrel
    have h2 : D ≤ N := by rw [hD]; exact Nat.div_le_self _ _
    have dB : (D : Int) ≤ 18446744073709551615 := by have h1 := HN.out; omega
    clear h2
    have HD := Lib.hid hD
    clear hD
    by_cases hlt : k < m
    · go_wp2_with (at_builtin; refine wpList_gapp1 e8 _ rfl _ _ _ rfl w.heap.size sli8 inf8 u5 (le k N) rfl ok _ (UInt8.ofNat D) (congrArg (Value.int IntKind.u8) (u8_mod D).symm) rfl (by simp [le_length]; omega) bk.size ?_; intro v2 w2 o2 g2 _)
      have b2 : Below w.heap.size w w2 := bk.grown g2 bk.size (fun j hj => (ok.lt j hj).1)
      go_roundw
      case rel => exact ⟨k + 1, D / 256, by omega, by rw [HD.out, div_pow_succ], by go_num, by go_num, by rw [le_snoc, ← HD.out]; exact o2, b2⟩
      case measure => simp [intOf]; omega
    · obtain rfl : k = m := by omega
      go_wp2
      go_ret
      exact ⟨u5, rfl, by simpa using ok, bk⟩

theorem refStep (D z : Int) (d0 : 0 ≤ D) (d1 : D ≤ 4294967295) (z0 : 0 ≤ z) (z1 : z ≤ 255) :
    ∃ Y : Int, bits .xor .u32 D z = Y ∧ Y = ((D.toNat ^^^ z.toNat : Nat) : Int) ∧ 0 ≤ Y ∧ Y ≤ 4294967295 := by
  obtain ⟨d, rfl⟩ := Int.eq_ofNat_of_zero_le d0
  obtain ⟨y, rfl⟩ := Int.eq_ofNat_of_zero_le z0
  have hx : d ^^^ y < 4294967296 := xor_lt32 (by omega) (by omega)
  exact ⟨_, bits_xor_u32 _ _ (by omega) (by omega), rfl, by omega, by omega⟩

set_option maxHeartbeats 1000000 in
set_option maxRecDepth 100000 in
theorem refSum_any (v : Value) (l : List UInt8) (lo : Nat) (w : World) (hv : Gs e8 w lo w.heap.size v l) :
    Calls Try.prog 11 #[v] w fun e w' => e = .returned (.int .u32 (crc l)) ∧ w = w' := by
  have hlen := hv.len
  have HV := Lib.hid hv
  obtain ⟨A, c, rfl, -, -, -, hb⟩ := hv
  have HB := Lib.hid hb
  clear hb
  go_enter Try.func11, Try.ntmps11
  go_wp2
  go_loop [3, 4, 5] (fun n i _ => ∃ (k : Nat) (D : Int), k ≤ l.length ∧ i = .int .i64 k ∧ n = .int .u32 D ∧ 0 ≤ D ∧ D ≤ 4294967295 ∧ D = (cr 4294967295 (l.take k) : Nat)) (fun _ i _ => l.length - (intOf i).toNat)
  case atStart => exact ⟨0, 4294967295, by omega, rfl, rfl, by omega, by omega, rfl⟩
  case round =>
    obtain ⟨k, D, hk, rfl, rfl, d0, d1, hD⟩ := hrel
    have HD := Lib.hid hD
    clear hD
    by_cases hlt : k < l.length
    · obtain ⟨b, off, rfl, -, -, hc⟩ := HB.out (by rintro rfl; simp at hlt)
      obtain ⟨y, hy⟩ : ∃ y, l[k]? = some y := ⟨_, List.getElem?_eq_getElem hlt⟩
      have hck := hc k y hy
      simp only [e8, b8] at hck
      obtain ⟨z, hz⟩ : ∃ z : Int, z = (y.toNat : Int) := ⟨_, rfl⟩
      rw [← hz] at hck
      have z0 : 0 ≤ z := by omega
      have z1 : z ≤ 255 := by have := y.toNat_lt; omega
      obtain ⟨Y, hYx, hY, y0, y1⟩ := refStep D z d0 d1 z0 z1
      have hnext : c8 Y.toNat = cr 4294967295 (l.take (k + 1)) := by
        rw [List.take_add_one, hy, Option.toList_some, cr_snoc, hY, HD.out, hz]
        simp only [Int.toNat_natCast]
      have HN := Lib.hid hnext
      clear hnext hc hy hz hY
      have hwz : IntKind.u32.wrap z = z := by rw [wrap_u32]; omega
      go_wp2
      go_loop [3, 5] (fun n i => ∃ (m : Nat) (E : Int), m ≤ 8 ∧ i = .int .i64 m ∧ n = .int .u32 E ∧ 0 ≤ E ∧ E ≤ 4294967295 ∧ E = (cn m Y.toNat : Nat)) (fun _ i => 8 - (intOf i).toNat)
      case atStart => exact ⟨0, Y, by omega, rfl, by go_num, y0, y1, by simp only [cn]; omega⟩
      case round =>
        obtain ⟨m, E, hm8, rfl, rfl, e0, e1, hE⟩ := hrel
        have HE := Lib.hid hE
        have hst := c1_int E e0 e1
        have en : c1 E.toNat = cn (m + 1) Y.toNat := by rw [HE.out, Int.toNat_natCast]; rfl
        have EN := Lib.hid en
        clear hE en
        by_cases hlt8 : m < 8
        · by_cases hm : E % 2 = 1
          · have hx := Lib.hid (hst.1 hm).2
            have hc := Lib.hid hst.2.2
            clear hst
            go_wp2
            go_round
            case rel => exact ⟨m + 1, _, by omega, by go_num, by go_num, by rw [hx.out]; omega, by rw [hx.out]; exact hc.out, by rw [hx.out, EN.out]⟩
            case measure => simp [intOf]; omega
          · have hm' : E % 2 = 0 := by omega
            have hx := Lib.hid (hst.2.1 hm').2
            have hc := Lib.hid hst.2.2
            clear hst
            go_wp2
            go_round
            case rel => exact ⟨m + 1, _, by omega, by go_num, by go_num, by rw [hx.out]; omega, by rw [hx.out]; exact hc.out, by rw [hx.out, EN.out]⟩
            case measure => simp [intOf]; omega
        · obtain rfl : m = 8 := by omega
          clear hst
          have e8_ : E = (cr 4294967295 (l.take (k + 1)) : Nat) := by rw [HE.out, ← HN.out]; rfl
          have HE8 := Lib.hid e8_
          clear e8_
          go_wp2
          go_round
          case rel => exact ⟨k + 1, E, hlt, by go_num, rfl, e0, e1, HE8.out⟩
          case measure => simp [intOf]; omega
    · obtain rfl : k = l.length := by omega
      go_wp2
      go_ret
      refine ⟨congrArg Ending.returned (congrArg (Value.int IntKind.u32) ?_), rfl⟩
      have hD := HD.out
      rw [List.take_length] at hD
      have hl := cr_lt 4294967295 l (by omega)
      unfold crc
      omega

theorem little4 (a : Int) (N : Nat) (ha : a = (N : Int)) (w : World) (hN : N < 4294967296) :
    Calls Try.prog 18 #[.int .u64 a, .int .i64 4] w fun e w' => ∃ A n c, e = .returned (.slice A n c) ∧ Gw e8 w' w.heap.size (.slice A n c) (le 4 N) ∧ Below w.heap.size w w' := by
  subst ha
  refine (little_any N 4 w (by omega) (by omega) (by omega)).mono ?_
  rintro e w' ⟨v', rfl, o, b⟩
  obtain ⟨A, c, rfl, -⟩ := o.sl
  exact ⟨A, _, c, rfl, by simpa using o, b⟩

theorem le4_len (N : Nat) : (le 4 N).length = 4 := le_length 4 N

set_option maxHeartbeats 1000000 in
theorem refFrame_any (v : Value) (l : List UInt8) (lo : Nat) (w : World) (hv : Gs e8 w lo w.heap.size v l) (hb : l.length ≤ 1000000) :
    Calls Try.prog 12 #[v] w fun e w' => ∃ v', e = .returned v' ∧ Gw e8 w' w.heap.size v' (fr l) ∧ Below w.heap.size w w' := by
  have HV := Lib.hid hv
  obtain ⟨A, c, rfl, -, -, -, -⟩ := hv
  have hcl := crc_lt l
  have hcw : IntKind.u64.wrap (crc l : Int) = crc l := by rw [IntKind.wrap_u64]; omega
  have hw : IntKind.u64.wrap (l.length : Int) = l.length := by rw [IntKind.wrap_u64]; omega
  have hn : (l.length : Int) ≤ 1000000 := by omega
  go_enter Try.func12, Try.ntmps12
  go_wp2_with fail
  refine (little4 _ l.length rfl _ (by omega)).mono ?_
  rintro e w1 ⟨A1, n1, c1, rfl, o1, b1⟩
  have O1 := Lib.hid o1
  have B1 := Lib.hid b1
  clear o1 b1
  go_wp2_with (at_builtin; refine wpList_gapp e8 _ rfl _ _ _ rfl w.heap.size sli8 inf8 _ (le 4 l.length) rfl O1.out lo w.heap.size _ l rfl (HV.out.below B1.out) (by rw [le4_len]; omega) B1.out.size ?_; intro v2 w2 o2 g2 _; have O2 := Lib.hid o2; have B2 := Lib.hid (B1.out.grown g2 B1.out.size (fun j hj => (O1.out.lt j hj).1)); clear o2 g2 O1 B1)
  refine (refSum_any _ l lo _ (by exact (HV.out.below B2.out).more (Nat.le_refl _) B2.out.size)).mono ?_
  rintro e w3 ⟨rfl, rfl⟩
  go_wp2_with fail
  refine (little4 _ (crc l) rfl _ hcl).mono ?_
  rintro e w3 ⟨A3, n3, c3, rfl, o3, b3⟩
  have O3 := Lib.hid o3
  have O4 := Lib.hid (O2.out.below b3 (Nat.le_refl _))
  have B3 := Lib.hid (B2.out.trans (b3.mono B2.out.size))
  have b3s := b3.size
  clear o3 b3 O2
  go_wp2_with (at_builtin; refine wpList_gapp e8 _ rfl _ _ _ rfl w.heap.size sli8 inf8 _ (le 4 l.length ++ l) rfl O4.out _ _ _ (le 4 (crc l)) rfl O3.out.sl (by rw [le4_len, List.length_append, le4_len]; omega) B3.out.size ?_; intro v5 w5 o5 g5 _; have O5 := Lib.hid o5; have B5 := Lib.hid (B3.out.grown g5 B3.out.size (fun j hj => (O4.out.lt j hj).1)); clear o5 g5 O4 B3)
  go_ret
  exact ⟨_, rfl, O5.out, B5.out⟩
end Go.Proofs.Ytdeiphimfpckaaa
