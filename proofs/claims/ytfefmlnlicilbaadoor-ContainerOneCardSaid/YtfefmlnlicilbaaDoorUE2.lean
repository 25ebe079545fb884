/- Words: Has, Rank, Len, Runs (cut from stages 4 to 6) -/
import Derived.Test.YtfefmlnlicilbaaDoorUE1
namespace Go.Proofs.YtfefmlnlicilbaaDoor
open Go.RowKit
set_option linter.unusedVariables false

theorem ones_of (X : Int) (n : Nat) (hX : X = n) (hn : n < 18446744073709551616) (w : World) :
    Calls Tryd.prog 78 #[.int .u64 X] w fun e w' => e = .returned (.int .i64 (ct n.testBit 64)) ∧ w' = w := by
  subst hX
  have h := ones_any (n : Int) w (by omega) (by omega)
  rw [Int.toNat_natCast] at h
  exact h
theorem at_of (v : Value) (l : List UInt64) (lo hi : Nat) (I : Int) (i a : Nat) (hI : I = i) (ha : a = (l.getD i 0).toNat) (W : World) (hv : Gs e64 W lo hi v l) :
    Calls Tryd.prog 63 #[v, .int .i64 I] W fun e w' => e = .returned (.int .u64 a) ∧ w' = W := by
  subst hI ha
  have h := at_any v l lo hi (i : Int) W hv (by omega)
  rw [Int.toNat_natCast] at h
  exact h
theorem rank_step (l : List UInt64) (X i a : Nat) (ha : a = (l.getD i 0).toNat) (h : 64 * i < X) :
    ct (wb l) (64 * i) + ct (a &&& bl2 X i).testBit 64 = ct (wb l) (min (64 * (i + 1)) X) := by
  have e : ct (a &&& bl2 X i).testBit 64 = ct (fun j => wb l (64 * i + j) && decide (j < X - 64 * i)) 64 := ct_ext fun j hj => by
    rw [Nat.testBit_and, bl2_bit _ _ _ hj, ha, wb_at _ _ _ hj]
    congr 1
    exact decide_eq_decide.2 (by omega)
  rw [e, ct_min (fun j => wb l (64 * i + j)), ← ct_add]
  congr 1
  omega
theorem u64_bit (b : Bool) (j : Nat) : b.toNat.testBit j = (b && decide (j = 0)) := by
  cases b
  · simp
  · cases j with
    | zero => rfl
    | succ j => simp [Nat.testBit_succ]
theorem twice_bit (a j : Nat) (hj : j < 64) : (a * 2 % 18446744073709551616).testBit j = (decide (1 ≤ j) && a.testBit (j - 1)) := by
  have e : (18446744073709551616 : Nat) = 2 ^ 64 := rfl
  have e2 : a * 2 = a * 2 ^ 1 := rfl
  rw [e, Nat.testBit_mod_two_pow, e2, Nat.testBit_mul_two_pow]
  simp [hj]
/-- The bit ahead of word i. -/
def av (l : List UInt64) (i : Nat) : Nat := (decide (0 < i) && wb l (64 * i - 1)).toNat
theorem av_le (l : List UInt64) (i : Nat) : av l i ≤ 1 := by unfold av; cases (decide (0 < i) && wb l (64 * i - 1)) <;> simp
theorem runs_step (l : List UInt64) (i a : Nat) (ha : a = (l.getD i 0).toNat) :
    ct (hm (wb l)) (64 * i) + ct (a &&& (a ^^^ (a * 2 % 18446744073709551616 ||| av l i))).testBit 64 = ct (hm (wb l)) (64 * (i + 1)) := by
  have e : ct (a &&& (a ^^^ (a * 2 % 18446744073709551616 ||| av l i))).testBit 64 = ct (fun j => hm (wb l) (64 * i + j)) 64 := ct_ext fun j hj => by
    rw [Nat.testBit_and, Nat.testBit_xor, Nat.testBit_or, twice_bit _ _ hj, av, u64_bit, ha, wb_at _ _ _ hj]
    unfold hm
    by_cases h0 : j = 0
    · subst h0
      by_cases h1 : i = 0
      · subst h1; simp
      · have : 0 < i := by omega
        simp only [Nat.add_zero, this, decide_true, Bool.true_and, Bool.and_true]
        have h2 : ¬ 64 * i = 0 := by omega
        simp only [h2, decide_false, Bool.false_or]
        cases wb l (64 * i) <;> cases wb l (64 * i - 1) <;> rfl
    · rw [wb_at _ _ _ (by omega)]
      have h1 : 1 ≤ j := by omega
      have h2 : ¬ 64 * i + j = 0 := by omega
      have h3 : 64 * i + (j - 1) = 64 * i + j - 1 := by omega
      simp only [h0, h1, h2, h3, decide_true, decide_false, Bool.true_and, Bool.and_false, Bool.or_false, Bool.false_or]
      cases wb l (64 * i + j) <;> cases wb l (64 * i + j - 1) <;> rfl
  rw [e, ← ct_add]
  congr 1
theorem av_next (l : List UInt64) (i a : Nat) (ha : a = (l.getD i 0).toNat) : a / 9223372036854775808 = av l (i + 1) := by
  have hb := wb_at l i 63 (by omega)
  have h1 : 64 * (i + 1) - 1 = 64 * i + 63 := by omega
  have hlt : a < 18446744073709551616 := by rw [ha]; exact u64_lt _
  unfold av
  rw [h1, ← hb, ← ha, Nat.testBit_eq_decide_div_mod_eq]
  have e : (2 : Nat) ^ 63 = 9223372036854775808 := rfl
  rw [e]
  have h2 : a / 9223372036854775808 < 2 := by omega
  have h3 : decide (0 < i + 1) = true := decide_eq_true (by omega)
  rw [h3, Bool.true_and]
  by_cases h4 : a / 9223372036854775808 % 2 = 1
  · rw [decide_eq_true h4]; simp; omega
  · rw [decide_eq_false h4]; simp; omega
set_option maxHeartbeats 1000000 in
theorem wrank_any (v : Value) (l : List UInt64) (lo hi : Nat) (x : Int) (W : World) (hv : Gs e64 W lo hi v l) :
    Calls Tryd.prog 72 #[v, .int .i64 x] W fun e w' => e = .returned (.int .i64 (ct (wb l) (cl x))) ∧ w' = W := by
  have hX := cl_le x
  have HV := Lib.hid hv
  obtain ⟨A, c, rfl, -⟩ := hv
  obtain ⟨X, he⟩ : ∃ X, X = cl x := ⟨_, rfl⟩
  rw [← he] at hX ⊢
  have HE := Lib.hid he
  clear he
  go_enter Tryd.func72, Tryd.ntmps72
  go_wp2_with (go_at_call 70; refine (within_any x _).mono ?_; rw [← HE.out]; rintro e w1 ⟨rfl, rfl⟩)
  go_loop [5, 13] (fun s5 s13 => ∃ i : Nat, 64 * i < X + 64 ∧ s13 = .int .i64 i ∧ s5 = .int .i64 (ct (wb l) (min (64 * i) X) : Nat)) (fun _ i => 1025 - (intOf i).toNat)
  case atStart => exact ⟨0, by omega, rfl, by simp [ct]⟩
  case round =>
    obtain ⟨i, hik, rfl, rfl⟩ := hrel
    by_cases hlt : 64 * i < X
    · obtain ⟨a, ha⟩ : ∃ a, a = (l.getD i 0).toNat := ⟨_, rfl⟩
      have hst := rank_step l X i a ha hlt
      have ha1 : a < 18446744073709551616 := by rw [ha]; exact u64_lt _
      have h1 := ct_le (wb l) (64 * i)
      have h2 := ct_le (a &&& bl2 X i).testBit 64
      have h3 : min (64 * i) X = 64 * i := by omega
      have h4 := Nat.lt_of_le_of_lt (Nat.and_le_left (n := a) (m := bl2 X i)) ha1
      rw [h3]
      have HA := Lib.hid ha
      have HA1 := Lib.hid ha1
      have H4 := Lib.hid h4
      obtain ⟨q, hq⟩ : ∃ q, q = ct (a &&& bl2 X i).testBit 64 := ⟨_, rfl⟩
      obtain ⟨n, hn⟩ : ∃ n, n = ct (wb l) (64 * i) := ⟨_, rfl⟩
      rw [← hq] at h2 hst
      rw [← hn] at h1 hst ⊢
      have HQ := Lib.hid hq
      have HS := Lib.hid hst
      have hli : (i : Int) < ((X : Int) + 64 - 1) / 64 := by omega
      have hx1 : i ≤ 1023 := by omega
      clear ha ha1 h3 h4 hq hn hst
      go_wp2_with (first
        | (go_at_call 63; refine (at_of _ l lo hi _ i a rfl HA.out _ HV.out).mono ?_; rintro e w1 ⟨rfl, rfl⟩)
        | (go_at_call 71; refine (below_any X i _ hX hx1).mono ?_; rintro e w1 ⟨rfl, rfl⟩)
        | (go_at_call 78; refine (ones_of _ (a &&& bl2 X i) (bits_and_u64_nat _ _ HA1.out (bl2_lt _ _)) H4.out _).mono ?_; rw [← HQ.out]; rintro e w1 ⟨rfl, rfl⟩))
      go_round
      case rel => exact ⟨i + 1, by omega, by go_num, by rw [← HS.out]; go_num⟩
      case measure => simp [intOf]; omega
    · have h3 : min (64 * i) X = X := by omega
      rw [h3]
      have hli : ¬ (i : Int) < ((X : Int) + 64 - 1) / 64 := by omega
      go_wp2
      go_ret
      exact ⟨rfl, rfl⟩
theorem cl_all : cl 65536 = 65536 := by decide
set_option maxHeartbeats 400000 in
theorem wlen_any (v : Value) (l : List UInt64) (lo hi : Nat) (W : World) (hv : Gs e64 W lo hi v l) :
    Calls Tryd.prog 48 #[v] W fun e w' => e = .returned (.int .i64 (ct (wb l) 65536)) ∧ w' = W := by
  have HV := Lib.hid hv
  obtain ⟨A, c, rfl, -⟩ := hv
  obtain ⟨X, hX⟩ : ∃ X, X = ct (wb l) 65536 := ⟨_, rfl⟩
  rw [← hX]
  have HX := Lib.hid hX
  clear hX
  go_enter Tryd.func48, Tryd.ntmps48
  go_wp2_with (go_at_call 72; refine (wrank_any _ l lo hi 65536 _ HV.out).mono ?_; rw [cl_all, ← HX.out]; rintro e w1 ⟨rfl, rfl⟩)
  go_ret
  exact ⟨rfl, rfl⟩
theorem has_key (a s : Nat) (ha : a < 18446744073709551616) : (bits .and .u64 ((a : Int) / 2 ^ s) 1 == 1) = a.testBit s := by
  have e : (a : Int) / 2 ^ s = ((a / 2 ^ s : Nat) : Int) := by push_cast; rfl
  have h1 : a / 2 ^ s < 18446744073709551616 := Nat.lt_of_le_of_lt (Nat.div_le_self _ _) ha
  have e3 : (a / 2 ^ s) &&& 1 = a / 2 ^ s % 2 := Nat.and_two_pow_sub_one_eq_mod _ 1
  rw [e, band (a / 2 ^ s) 1 ((a / 2 ^ s : Nat) : Int) 1 rfl rfl h1 (by omega), e3, Nat.testBit_eq_decide_div_mod_eq, Bool.eq_iff_iff, beq_iff_eq, decide_eq_true_eq]
  omega
set_option maxHeartbeats 400000 in
theorem whas_any (v : Value) (l : List UInt64) (lo hi : Nat) (x : Int) (W : World) (hv : Gs e64 W lo hi v l) (h0 : 0 ≤ x) (h1 : x ≤ 65535) :
    Calls Tryd.prog 76 #[v, .int .u16 x] W fun e w' => e = .returned (.bool (wb l x.toNat)) ∧ w' = W := by
  have HV := Lib.hid hv
  obtain ⟨A, c, rfl, -⟩ := hv
  obtain ⟨a, ha⟩ : ∃ a, a = (l.getD (x.toNat / 64) 0).toNat := ⟨_, rfl⟩
  have ha1 : a < 18446744073709551616 := by rw [ha]; exact u64_lt _
  have hk := has_key a (x % 64).toNat ha1
  have hr : wb l x.toNat = a.testBit (x % 64).toNat := by
    unfold wb
    rw [← ha]
    congr 1
    omega
  rw [hr]
  have HA := Lib.hid ha
  have HK := Lib.hid hk
  clear ha ha1 hk hr
  have d1 : x.tdiv 64 = x / 64 := Int.tdiv_eq_ediv_of_nonneg h0
  have d2 : x.tmod 64 = x % 64 := Int.tmod_eq_emod_of_nonneg h0
  have d3 : IntKind.u16.wrap (x / 64) = x / 64 := by simp [IntKind.wrap, IntKind.bits, IntKind.signed]; omega
  have d4 : IntKind.u16.wrap (x % 64) = x % 64 := by simp [IntKind.wrap, IntKind.bits, IntKind.signed]; omega
  go_enter Tryd.func76, Tryd.ntmps76
  go_wp2_with (go_at_call 63; refine (at_of _ l lo hi _ (x.toNat / 64) a (by omega) HA.out _ HV.out).mono ?_; rintro e w1 ⟨rfl, rfl⟩)
  go_ret
  exact ⟨congrArg Ending.returned (congrArg Value.bool HK.out), rfl⟩
theorem bor (a b : Nat) (A B : Int) (hA : A = a) (hB : B = b) (ha : a < 18446744073709551616) (hb : b < 18446744073709551616) : bits .or .u64 A B = ((a ||| b : Nat) : Int) := by
  subst hA hB
  exact bits_or_u64_nat a b ha hb
theorem bnot (a b : Nat) (A B : Int) (hA : A = a) (hB : B = b) (ha : a < 18446744073709551616) (hb : b < 18446744073709551616) : bits .andNot .u64 A B = ((a &&& (a ^^^ b) : Nat) : Int) := by
  subst hA hB
  exact bits_andNot_u64 a b ha hb
theorem bxor (a b : Nat) (A B : Int) (hA : A = a) (hB : B = b) (ha : a < 18446744073709551616) (hb : b < 18446744073709551616) : bits .xor .u64 A B = ((a ^^^ b : Nat) : Int) := by
  subst hA hB
  exact bits_xor_u64 a b ha hb
theorem or_lt {a b : Nat} (ha : a < 18446744073709551616) (hb : b < 18446744073709551616) : a ||| b < 18446744073709551616 := Nat.or_lt_two_pow (n := 64) ha hb
theorem not_lt' {a b : Nat} (ha : a < 18446744073709551616) : a &&& b < 18446744073709551616 := Nat.lt_of_le_of_lt Nat.and_le_left ha
theorem twice_wrap (a : Nat) : IntKind.u64.wrap ((a : Int) * 2) = ((a * 2 % 18446744073709551616 : Nat) : Int) := by rw [IntKind.wrap_u64]; omega
set_option maxHeartbeats 1000000 in
theorem wruns_any (v : Value) (l : List UInt64) (lo hi : Nat) (W : World) (hv : Gs e64 W lo hi v l) :
    Calls Tryd.prog 56 #[v] W fun e w' => e = .returned (.int .i64 (ct (hm (wb l)) 65536)) ∧ w' = W := by
  have HV := Lib.hid hv
  obtain ⟨A, c, rfl, -⟩ := hv
  go_enter Tryd.func56, Tryd.ntmps56
  go_wp2
  go_loop [3, 4, 7] (fun s3 s4 s7 => ∃ i : Nat, i ≤ 1024 ∧ s7 = .int .i64 i ∧ s3 = .int .i64 (ct (hm (wb l)) (64 * i) : Nat) ∧ s4 = .int .u64 (av l i : Nat)) (fun _ _ i => ((1024 : Int) - intOf i).toNat)
  case atStart => exact ⟨0, by omega, rfl, rfl, rfl⟩
  case round =>
    obtain ⟨i, hik, rfl, rfl, rfl⟩ := hrel
    by_cases hlt : i < 1024
    · obtain ⟨a, ha⟩ : ∃ a, a = (l.getD i 0).toNat := ⟨_, rfl⟩
      have hst := runs_step l i a ha
      have hnx := av_next l i a ha
      have ha1 : a < 18446744073709551616 := by rw [ha]; exact u64_lt _
      have h1 := ct_le (hm (wb l)) (64 * i)
      have hav := av_le l i
      obtain ⟨b, hb⟩ : ∃ b, b = av l i := ⟨_, rfl⟩
      rw [← hb] at hst hav ⊢
      have h2 := ct_le (a &&& (a ^^^ (a * 2 % 18446744073709551616 ||| b))).testBit 64
      have hM : (bits .andNot .u64 (a : Int) (bits .or .u64 (IntKind.u64.wrap ((a : Int) * 2)) (b : Int)) = ((a &&& (a ^^^ (a * 2 % 18446744073709551616 ||| b)) : Nat) : Int)) := by
        rw [twice_wrap, bor (a * 2 % 18446744073709551616) b ((a * 2 % 18446744073709551616 : Nat) : Int) b rfl rfl (by omega) (by omega)]
        exact bnot a _ a _ rfl rfl ha1 (or_lt (by omega) (by omega))
      have HM := Lib.hid hM
      have H4 := Lib.hid (not_lt' (b := (a ^^^ (a * 2 % 18446744073709551616 ||| b))) ha1)
      obtain ⟨q, hq⟩ : ∃ q, q = ct (a &&& (a ^^^ (a * 2 % 18446744073709551616 ||| b))).testBit 64 := ⟨_, rfl⟩
      obtain ⟨n, hn⟩ : ∃ n, n = ct (hm (wb l)) (64 * i) := ⟨_, rfl⟩
      rw [← hq] at h2 hst
      rw [← hn] at h1 hst ⊢
      have HA := Lib.hid ha
      have HQ := Lib.hid hq
      have HS := Lib.hid hst
      have HN := Lib.hid hnx
      have HI := Lib.hid hlt
      have hli : (i : Int) < 1024 := by omega
      clear ha ha1 hb hq hn hst hnx hlt hav hik hM
      go_wp2_with (first
        | (go_at_call 63; refine (at_of _ l lo hi _ i a rfl HA.out _ HV.out).mono ?_; rintro e w1 ⟨rfl, rfl⟩)
        | (go_at_call 78; refine (ones_of _ _ HM.out H4.out _).mono ?_; rw [← HQ.out]; rintro e w1 ⟨rfl, rfl⟩))
      go_round
      case rel => exact ⟨i + 1, HI.out, by go_num, by rw [← HS.out]; go_num, by rw [← HN.out]; go_num⟩
      case measure => simp [intOf]; omega
    · obtain rfl : i = 1024 := by omega
      go_wp2
      go_ret
      exact ⟨rfl, rfl⟩
end Go.Proofs.YtfefmlnlicilbaaDoor
