/- Walks: the document's answer: widths, sizes, a bit, a number; whether two lists are the same. -/
import Derived.Test.YtpanfpcfhgnkoaaQ4
import Derived.Test.YtpanfpcfhgnkoaaQc
import Derived.BigQuiet
import Derived.Deep.QuietTactic
namespace Go.Proofs.Ytpanfpcfhgnkoaa
open Go.RowKit
set_option linter.unusedVariables false

theorem may_yes (n w : Int) (W : World) (h0 : 0 ≤ n) (h1 : n ≤ 1099511627776) (h2 : 1 ≤ w) (h3 : w ≤ 64) : Calls Try.prog 58 #[.int .i64 n, .int .i64 w] W fun e w' => e = .returned (.bool true) ∧ W = w' := by
  go_enter Try.func58, Try.ntmps58
  go_wp2
  go_ret
  exact ⟨rfl, rfl⟩
theorem may_no (n w : Int) (W : World) (h : n < 0 ∨ 1099511627776 < n ∨ w < 1 ∨ 64 < w) : Calls Try.prog 58 #[.int .i64 n, .int .i64 w] W fun e w' => e = .returned (.bool false) ∧ W = w' := by
  by_cases h0 : 0 ≤ n
  · by_cases h1 : n ≤ 1099511627776
    · by_cases h2 : 1 ≤ w
      · have h3 : decide (w ≤ 64) = false := by simp; omega
        clear h
        go_enter Try.func58, Try.ntmps58
        go_wp2
        go_ret
        exact ⟨rfl, rfl⟩
      · have h3 : decide (1 ≤ w) = false := by simpa using h2
        clear h
        go_enter Try.func58, Try.ntmps58
        go_wp2
        go_ret
        exact ⟨rfl, rfl⟩
    · have h3 : decide (n ≤ 1099511627776) = false := by simpa using h1
      clear h
      go_enter Try.func58, Try.ntmps58
      go_wp2
      go_ret
      exact ⟨rfl, rfl⟩
  · have h3 : decide (0 ≤ n) = false := by simpa using h0
    clear h
    go_enter Try.func58, Try.ntmps58
    go_wp2
    go_ret
    exact ⟨rfl, rfl⟩

theorem refSize_no (n w : Int) (W : World) (h : n < 0 ∨ 1099511627776 < n ∨ w < 1 ∨ 64 < w) : Calls Try.prog 38 #[.int .i64 n, .int .i64 w] W fun e w' => e = .returned (.int .i64 0) ∧ W = w' := by
  go_enter Try.func38, Try.ntmps38
  go_wp2_with (go_at_call 58; refine (may_no _ _ _ h).mono ?_; rintro e w1 ⟨rfl, rfl⟩)
  go_ret
  exact ⟨rfl, rfl⟩
theorem ret_i64 {a b : Int} (h : a = b) : Ending.returned (.int .i64 a) = .returned (.int .i64 b) := by rw [h]
theorem ret_u64 {a b : Int} (h : a = b) : Ending.returned (.int .u64 a) = .returned (.int .u64 b) := by rw [h]
set_option maxHeartbeats 400000 in
theorem refSize_yes (n w : Nat) (W : World) (hn : n ≤ 1099511627776) (h1 : 1 ≤ w) (h2 : w ≤ 64) : Calls Try.prog 38 #[.int .i64 n, .int .i64 w] W fun e w' => e = .returned (.int .i64 (sz n w : Nat)) ∧ W = w' := by
  have hq := mul_bound (n / 8) w 137438953472 (by omega) h2
  have hr := mul_bound (n % 8) w 8 (by omega) h2
  have hd := sz_doc n w
  obtain ⟨Q, hQ⟩ : ∃ Q, Q = n / 8 * w := ⟨_, rfl⟩
  obtain ⟨R, hR⟩ : ∃ R, R = n % 8 * w := ⟨_, rfl⟩
  have hQI : (n : Int) / 8 * w = Q := by rw [hQ]; push_cast; rfl
  have hRI : (n : Int) % 8 * w = R := by rw [hR]; push_cast; rfl
  rw [← hQ, ← hR] at hd
  rw [← hQ] at hq
  rw [← hR] at hr
  have b1 : (n : Int) / 8 * w ≤ 8796093022208 := by omega
  have b2 : 0 ≤ (n : Int) / 8 * w := by omega
  have b3 : (n : Int) % 8 * w ≤ 512 := by omega
  have b4 : 0 ≤ (n : Int) % 8 * w := by omega
  have HD := Lib.hid hd
  have HQ := Lib.hid hQI
  have HR := Lib.hid hRI
  clear hd hQ hR hQI hRI
  go_enter Try.func38, Try.ntmps38
  go_wp2_with (go_at_call 58; refine (may_yes _ _ _ (by omega) (by omega) (by omega) (by omega)).mono ?_; rintro e w1 ⟨rfl, rfl⟩)
  all_goals
    go_ret
    refine ⟨ret_i64 ?_, rfl⟩
    have hQI := HQ.out
    have hRI := HR.out
    rw [HD.out]
    split <;> push_cast <;> omega

theorem wd_small (D : Nat) (h : D ≤ 1) : wd D = 1 := by
  have : D = 0 ∨ D = 1 := by omega
  rcases this with rfl | rfl <;> decide
theorem wd_half (D : Nat) (h : 1 < D) : wd D = wd (D / 2) + 1 := by
  have hb := bl_shift D 1 (by omega)
  rw [Nat.pow_one] at hb
  have h2 : 1 ≤ bl (D / 2) := by unfold bl; rw [if_neg (by omega)]; omega
  unfold wd
  omega
set_option maxHeartbeats 400000 in
theorem refWidth_any (x : Int) (W : World) (h0 : 0 ≤ x) (h1 : x ≤ 18446744073709551615) : Calls Try.prog 41 #[.int .u64 x] W fun e w' => e = .returned (.int .i64 (wd x.toNat : Nat)) ∧ W = w' := by
  have hw := wd_le x.toNat (by omega)
  obtain ⟨T, hT⟩ : ∃ T, T = wd x.toNat := ⟨_, rfl⟩
  rw [← hT] at hw ⊢
  have HT := Lib.hid hT
  clear hT
  go_enter Try.func41, Try.ntmps41
  go_wp2
  go_loop [0, 3] (fun d c => ∃ (D : Int) (C : Nat), 0 ≤ D ∧ D ≤ 18446744073709551615 ∧ d = .int .u64 D ∧ c = .int .i64 C ∧ C + wd D.toNat = T + 1 ∧ C ≤ T) (fun d _ => (intOf d).toNat)
  case atStart => exact ⟨x, 1, h0, h1, rfl, rfl, by rw [HT.out]; omega, by rw [HT.out]; unfold wd; omega⟩
  case round =>
    obtain ⟨D, C, d0, d1, rfl, rfl, hs, hc⟩ := hrel
    have HS := Lib.hid hs
    clear hs
    by_cases hlt : 1 < D
    · have hh := Lib.hid (wd_half D.toNat (by omega))
      go_wp2
      go_round
      case rel => exact ⟨D / 2, C + 1, by omega, by omega, rfl, by go_num, by rw [show (D / 2).toNat = D.toNat / 2 from by omega]; have := HS.out; have := hh.out; omega, by have := HS.out; have := hh.out; have : 1 ≤ wd (D.toNat / 2) := (by unfold wd; omega); omega⟩
      case measure => simp [intOf]; omega
    · have hh := Lib.hid (wd_small D.toNat (by omega))
      go_wp2
      go_ret
      exact ⟨ret_i64 (by have := HS.out; have := hh.out; omega), rfl⟩

theorem div_pow_two (z i : Nat) : z / 2 ^ i / 2 = z / 2 ^ (i + 1) := by rw [Nat.div_div_eq_div_mul, Nat.pow_succ]
set_option maxHeartbeats 400000 in
theorem refBit_any (v : Value) (b : List UInt8) (lo hi : Nat) (jI : Int) (j : Nat) (hj : jI = j) (W : World) (hv : Gs e8 W lo hi v b) (hjm : j ≤ 100000000000000) (hb : b.length ≤ 1000000000) :
    Calls Try.prog 59 #[v, .int .i64 jI] W fun e w' => e = .returned (.int .u64 ((bb b j).toNat : Nat)) ∧ W = w' := by
  subst hj
  obtain ⟨A, c, rfl, -, -, -, hcell⟩ := hv
  by_cases hlt : j / 8 < b.length
  · obtain ⟨bl_, off, rfl, -, -, hcl⟩ := hcell (by rintro rfl; simp at hlt)
    have hck := hcl (j / 8) (b.getD (j / 8) 0) (by rw [List.getD_eq_getElem?_getD, List.getElem?_eq_getElem hlt, Option.getD_some])
    simp only [e8, b8] at hck
    obtain ⟨Z, hZ⟩ : ∃ Z : Nat, Z = (b.getD (j / 8) 0).toNat := ⟨_, rfl⟩
    rw [← hZ] at hck
    have z1 : Z ≤ 255 := by have := (b.getD (j / 8) 0).toNat_lt; omega
    have hbb : (bb b j).toNat = Z / 2 ^ (j % 8) % 2 := by unfold bb; rw [← hZ, mod_two]
    have HB := Lib.hid hbb
    clear hcl hcell hZ hbb
    go_enter Try.func59, Try.ntmps59
    go_wp2
    go_loop [5, 6] (fun x i => ∃ k D : Nat, k ≤ j % 8 ∧ i = .int .i64 k ∧ x = .int .i64 D ∧ D = Z / 2 ^ k ∧ D ≤ 255) (fun _ i => j % 8 - (intOf i).toNat)
    case atStart => exact ⟨0, Z, by omega, rfl, rfl, by simp, z1⟩
    case round =>
      obtain ⟨k, D, hk, rfl, rfl, hD, hD2⟩ := hrel
      have HD := Lib.hid hD
      clear hD
      by_cases hl : k < j % 8
      · go_wp2
        go_round
        case rel => exact ⟨k + 1, D / 2, by omega, by go_num, by go_num, by rw [HD.out, div_pow_two], by omega⟩
        case measure => simp [intOf]; omega
      · have hk2 : k = j % 8 := by omega
        have HK := Lib.hid hk2
        clear hk2
        go_wp2
        go_ret
        exact ⟨ret_u64 (by rw [HB.out, ← HK.out, ← HD.out]; omega), rfl⟩
  · have hn : bb b j = false := bb_none b j (by omega)
    have HN := Lib.hid hn
    have hd : decide ((b.length : Int) ≤ (j : Int) / 8) = true := by simp; omega
    clear hn hcell
    go_enter Try.func59, Try.ntmps59
    go_wp2
    go_ret
    exact ⟨by rw [HN.out]; rfl, rfl⟩

theorem refGet_no (v : Value) (i w : Int) (W : World) (h : i < 0 ∨ 1099511627776 < i ∨ w < 1 ∨ 64 < w) : Calls Try.prog 60 #[v, .int .i64 i, .int .i64 w] W fun e w' => e = .returned (.int .u64 0) ∧ W = w' := by
  go_enter Try.func60, Try.ntmps60
  go_wp2_with (go_at_call 58; refine (may_no _ _ _ h).mono ?_; rintro e w1 ⟨rfl, rfl⟩)
  go_ret
  exact ⟨rfl, rfl⟩
theorem get_step (T t : Nat) : T / 2 ^ t = T / 2 ^ (t + 1) * 2 + (T.testBit t).toNat := by
  rw [← div_pow_two, ← mod_two]
  omega
set_option maxHeartbeats 1000000 in
theorem refGet_yes (v : Value) (b : List UInt8) (lo hi i w : Nat) (W : World) (hv : Gs e8 W lo hi v b) (hi : i ≤ 1099511627776) (h1 : 1 ≤ w) (h2 : w ≤ 64) (hb : b.length ≤ 1000000000) :
    Calls Try.prog 60 #[v, .int .i64 i, .int .i64 w] W fun e w' => e = .returned (.int .u64 (tk b (i * w) w)) ∧ W = w' := by
  have hm := mul_bound i w _ hi h2
  obtain ⟨T, hT⟩ : ∃ T, T = tk b (i * w) w := ⟨_, rfl⟩
  have hlt := tk_lt b (i * w) w
  have hbit : ∀ t, t < w → (T.testBit t).toNat = (bb b (i * w + t)).toNat := fun t ht => by rw [hT, tk_bit]; simp [ht]
  rw [← hT] at hlt ⊢
  have hp : 2 ^ w ≤ 2 ^ 64 := Nat.pow_le_pow_right (n := 2) (by omega) h2
  have hT2 : (T : Int) ≤ 18446744073709551615 := by omega
  have hTw : T / 2 ^ w = 0 := Nat.div_eq_of_lt hlt
  have HB := Lib.hid hbit
  have HTW := Lib.hid hTw
  clear hT hbit hlt hp hTw
  go_enter Try.func60, Try.ntmps60
  go_wp2_with (go_at_call 58; refine (may_yes _ _ _ (by omega) (by omega) (by omega) (by omega)).mono ?_; rintro e w1 ⟨rfl, rfl⟩)
  go_loop [7, 8] (fun n i => ∃ j D : Nat, j ≤ w ∧ i = .int .i64 ((j : Int) - 1) ∧ n = .int .u64 D ∧ D = T / 2 ^ j) (fun _ i => (intOf i + 1).toNat)
  case atStart => exact ⟨w, 0, Nat.le_refl _, rfl, rfl, HTW.out.symm⟩
  case round =>
    obtain ⟨j, D, hj, rfl, rfl, hD⟩ := hrel
    cases j with
    | zero =>
      have HD := Lib.hid hD
      have e0 : ((0 : Nat) : Int) - 1 = -1 := rfl
      rw [e0]
      clear hD e0
      go_wp2
      go_ret
      exact ⟨ret_u64 (by rw [HD.out]; simp), rfl⟩
    | succ t =>
      have et : ((t + 1 : Nat) : Int) - 1 = (t : Int) := by omega
      rw [et]
      clear et
      have hs := get_step T t
      have hb2 := HB.out t (by omega)
      rw [hb2, ← hD] at hs
      obtain ⟨y, hy⟩ : ∃ y : Nat, y = (bb b (i * w + t)).toNat := ⟨_, rfl⟩
      rw [← hy] at hs
      have hle : T / 2 ^ t ≤ T := Nat.div_le_self _ _
      have hDb : (D : Int) * 2 + y ≤ 18446744073709551615 := by omega
      have y1 : y ≤ 1 := by rw [hy]; cases bb b (i * w + t) <;> simp
      have HS := Lib.hid hs
      have HY := Lib.hid hy.symm
      clear hs hb2 hy hD hle
      go_wp2_with (go_at_call 59; refine (refBit_any _ b lo _ _ (i * w + t) (by push_cast; rfl) _ hv (by omega) hb).mono ?_; rintro e w1 ⟨rfl, rfl⟩; rw [HY.out])
      go_round
      case rel => exact ⟨t, D * 2 + y, by omega, rfl, by go_num, HS.out.symm⟩
      case measure => simp [intOf]

end Go.Proofs.Ytpanfpcfhgnkoaa
