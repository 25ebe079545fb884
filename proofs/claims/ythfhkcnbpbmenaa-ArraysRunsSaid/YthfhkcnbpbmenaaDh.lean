/- Walks: the law ArraysRuns. -/
import Derived.Test.YthfhkcnbpbmenaaDa
namespace Go.Proofs.Ythfhkcnbpbmenaa
open Go.RowKit
set_option linter.unusedVariables false

theorem runs_long (a0 a1 : Option Addr) (len0 cap0 len1 cap1 : Nat) (X : Int) (w : World) (h : 3000 < len0) (h2 : len0 ≤ 9223372036854775807) :
    Calls Try.prog 6 #[.slice a0 len0 cap0, .slice a1 len1 cap1, .int .u16 X] w fun e w' => e = .returned (.bool true) ∧ Below w.heap.size w w' := by
  have hi : (3000 : Int) < len0 := by omega
  clear h
  go_enter Try.func6, Try.ntmps6
  go_wp2_with (go_at_call 8; refine (known_any _).mono ?_; rintro e w1 ⟨rfl, b1⟩)
  go_ret
  exact ⟨rfl, b1⟩
theorem runs_long2 (a0 a1 : Option Addr) (len0 cap0 len1 cap1 : Nat) (X : Int) (w : World) (h0 : len0 ≤ 3000) (h : 3000 < len1) (h2 : len1 ≤ 9223372036854775807) :
    Calls Try.prog 6 #[.slice a0 len0 cap0, .slice a1 len1 cap1, .int .u16 X] w fun e w' => e = .returned (.bool true) ∧ Below w.heap.size w w' := by
  have hi : (3000 : Int) < len1 := by omega
  have hi0 : (len0 : Int) ≤ 3000 := by omega
  clear h h0
  go_enter Try.func6, Try.ntmps6
  go_wp2_with (go_at_call 8; refine (known_any _).mono ?_; rintro e w1 ⟨rfl, b1⟩)
  go_ret
  exact ⟨rfl, b1⟩
theorem runs_odd (v u : Value) (l m : List UInt16) (X : Int) (w : World) (hv : Gs e16 w 0 w.heap.size v l) (hu : Gs e16 w 0 w.heap.size u m) (h : l.length ≤ 3000) (h' : m.length ≤ 3000) (hr : ris l = false) :
    Calls Try.prog 6 #[v, u, .int .u16 X] w fun e w' => e = .returned (.bool true) ∧ Below w.heap.size w w' := by
  have HV := Lib.hid hv
  have HU := Lib.hid hu
  obtain ⟨A, c, rfl, -⟩ := hv
  obtain ⟨A1, c1, rfl, -⟩ := hu
  have hi : (l.length : Int) ≤ 3000 := by omega
  have hi' : (m.length : Int) ≤ 3000 := by omega
  clear h h'
  go_enter Try.func6, Try.ntmps6
  go_wp2_with fail
  refine (refMay_b _ l 0 _ _ HV.out).mono ?_
  rintro e w1 ⟨rfl, b1⟩
  have B1 := Lib.hid b1
  clear b1
  rw [hr]
  go_wp2_with fail
  refine (known_any _).mono ?_
  rintro e w9 ⟨rfl, b9⟩
  have B9 := Lib.hid (B1.out.trans (b9.mono B1.out.size))
  clear b9
  go_wp2
  go_ret
  exact ⟨rfl, B9.out⟩
theorem runs_odd2 (v u : Value) (l m : List UInt16) (X : Int) (w : World) (hv : Gs e16 w 0 w.heap.size v l) (hu : Gs e16 w 0 w.heap.size u m) (h : l.length ≤ 3000) (h' : m.length ≤ 3000) (hr : ris l = true) (hr2 : ris m = false) :
    Calls Try.prog 6 #[v, u, .int .u16 X] w fun e w' => e = .returned (.bool true) ∧ Below w.heap.size w w' := by
  have HV := Lib.hid hv
  have HU := Lib.hid hu
  obtain ⟨A, c, rfl, -⟩ := hv
  obtain ⟨A1, c1, rfl, -⟩ := hu
  have hi : (l.length : Int) ≤ 3000 := by omega
  have hi' : (m.length : Int) ≤ 3000 := by omega
  clear h h'
  go_enter Try.func6, Try.ntmps6
  go_wp2_with fail
  refine (refMay_b _ l 0 _ _ HV.out).mono ?_
  rintro e w1 ⟨rfl, b1⟩
  have B1 := Lib.hid b1
  clear b1
  rw [hr]
  go_wp2_with fail
  refine (refMay_b _ m 0 w.heap.size _ (HU.out.below B1.out)).mono ?_
  rintro e w2 ⟨rfl, b2⟩
  have B2 := Lib.hid (B1.out.trans (b2.mono B1.out.size))
  clear b2 B1
  have B1 := B2
  rw [hr2]
  go_wp2_with fail
  refine (known_any _).mono ?_
  rintro e w9 ⟨rfl, b9⟩
  have B9 := Lib.hid (B1.out.trans (b9.mono B1.out.size))
  clear b9
  go_wp2
  go_ret
  exact ⟨rfl, B9.out⟩

theorem rn_le (p : Option UInt16) (l : List UInt16) : rn p l ≤ l.length := by
  induction l generalizing p with
  | nil => cases p <;> simp [rn]
  | cons x l ih =>
    have := ih (some x)
    cases p with
    | none => rw [rn, List.length_cons]; omega
    | some p => rw [rn, List.length_cons]; split <;> omega
/-- How many of the first k begin a run. -/
def hn (l : List UInt16) (k : Nat) : Nat := ((l.take k).filter (hd l)).length
theorem hn_zero (l : List UInt16) : hn l 0 = 0 := by simp [hn]
theorem hn_succ {l : List UInt16} {k : Nat} (h : k < l.length) : hn l (k + 1) = hn l k + if hd l (at16 l k) = true then 1 else 0 := by
  unfold hn
  rw [List.take_add_one, at16_get h, List.filter_append, List.length_append]
  simp only [Option.toList_some, List.filter_cons, List.filter_nil]
  split <;> rfl
theorem hn_le (l : List UInt16) (k : Nat) : hn l k ≤ l.length := by
  unfold hn
  have := List.length_filter_le (hd l) (l.take k)
  rw [List.length_take] at this
  omega

set_option maxHeartbeats 2000000 in
set_option maxRecDepth 100000 in
theorem runs_good (v u : Value) (l m : List UInt16) (X : Int) (x : UInt16) (hX : X = x.toNat) (w : World) (hv : Gs e16 w 0 w.heap.size v l) (hu : Gs e16 w 0 w.heap.size u m) (h : l.length ≤ 3000) (h' : m.length ≤ 3000) (hr : ris l = true) (hr2 : ris m = true) :
    Calls Try.prog 6 #[v, u, .int .u16 X] w fun e w' => e = .returned (.bool true) ∧ Below w.heap.size w w' := by
  have HV := Lib.hid hv
  have HU := Lib.hid hu
  obtain ⟨A, c, rfl, -⟩ := hv
  obtain ⟨A1, c1, rfl, -⟩ := hu
  have hi : (l.length : Int) ≤ 3000 := by omega
  have hi' : (m.length : Int) ≤ 3000 := by omega
  have HX := Lib.hid hX
  have HL := Lib.hid h
  have HM := Lib.hid h'
  clear h h' hX
  go_enter Try.func6, Try.ntmps6
  go_wp2_with fail
  refine (refMay_b _ l 0 _ _ HV.out).mono ?_
  rintro e w1 ⟨rfl, b1⟩
  have B1 := Lib.hid b1
  clear b1
  rw [hr]
  go_wp2_with fail
  refine (refMay_b _ m 0 w.heap.size _ (HU.out.below B1.out)).mono ?_
  rintro e w2 ⟨rfl, b2⟩
  have B2 := Lib.hid (B1.out.trans (b2.mono B1.out.size))
  clear b2 B1
  rw [hr2]
  go_wp2
  go_loop [7, 34] (fun s7 s34 => ∃ k : Nat, k ≤ l.length ∧ s34 = .int .i64 k ∧ s7 = .int .i64 (hn l k)) (fun _ i => l.length - (intOf i).toNat)
  case atStart => exact ⟨0, Nat.zero_le _, rfl, by rw [hn_zero]; rfl⟩
  case round =>
    obtain ⟨k, hk, rfl, rfl⟩ := hrel
    by_cases hlt : k < l.length
    · obtain ⟨b1, o1, c1, e1, -, -, -, -, hc1⟩ := (HV.out.below B2.out).form (by rintro rfl; simp at hlt)
      injection e1 with e1 _ e2
      subst e1 e2
      have k1 := hc1 k _ (at16_get hlt)
      simp only [e16, b16] at k1
      have hs := hn_succ hlt
      have hle := hn_le l k
      obtain ⟨y, hy⟩ : ∃ y, y = at16 l k := ⟨_, rfl⟩
      rw [← hy] at k1 hs
      obtain ⟨Y, hY⟩ : ∃ Y : Int, Y = (y.toNat : Int) := ⟨_, rfl⟩
      rw [← hY] at k1
      have hY2 := y.toNat_lt
      have hni : (hn l k : Int) ≤ 3000 := by omega
      obtain ⟨n, hn'⟩ : ∃ n, n = hn l k := ⟨_, rfl⟩
      rw [← hn'] at hs hni ⊢
      by_cases h0 : Y = 0
      · rw [if_pos (by unfold hd; rw [decide_eq_true (by omega), Bool.true_or])] at hs
        have HS := Lib.hid hs
        subst h0
        clear hc1 hs hle hy hY hY2 hn'
        go_wp2
        go_round
        case rel => exact ⟨k + 1, hlt, by go_num, by rw [HS.out]; go_num⟩
        case measure => simp [intOf]; omega
      · have hd2 : hd l y = !fd l (y - 1) := by unfold hd; rw [decide_eq_false (by omega), Bool.false_or]
        have HP := Lib.hid (show (Y - 1 : Int) = ((y - 1).toNat : Nat) by rw [pred_toNat (by omega)]; omega)
        rw [hd2] at hs
        have w1 : IntKind.u16.wrap (Y - 1) = Y - 1 := by simp [IntKind.wrap, IntKind.bits, IntKind.signed]; omega
        have q1 : (Y == 0) = false := beq_false_of_ne h0
        cases hf : fd l (y - 1) with
        | true =>
          rw [hf] at hs
          have HS := Lib.hid hs
          have HF := Lib.hid hf
          clear hc1 hs hle hy hY hY2 hn' hf hd2
          go_wp2_with (go_at_call 12; refine (find_any _ l 0 w.heap.size (Y - 1) (y - 1) HP.out _ (HV.out.below B2.out) (by omega)).mono ?_; rintro e wz ⟨rfl, rfl⟩; rw [HF.out])
          go_round
          case rel => exact ⟨k + 1, hlt, by go_num, by rw [HS.out]; first | done | rfl⟩
          case measure => simp [intOf]; omega
        | false =>
          rw [hf] at hs
          have HS := Lib.hid hs
          have HF := Lib.hid hf
          clear hc1 hs hle hy hY hY2 hn' hf hd2
          go_wp2_with (go_at_call 12; refine (find_any _ l 0 w.heap.size (Y - 1) (y - 1) HP.out _ (HV.out.below B2.out) (by omega)).mono ?_; rintro e wz ⟨rfl, rfl⟩; rw [HF.out])
          go_round
          case rel => exact ⟨k + 1, hlt, by go_num, by rw [HS.out]; simp⟩
          case measure => simp [intOf]; omega
    · obtain rfl : k = l.length := by omega
      have hR : hn l l.length = rn none l := by unfold hn; rw [List.take_length, rn_count hr]
      rw [hR]
      have h1 := rn_wi hr x
      have h2 := rn_or hr hr2
      have h3 := rn_le none l
      have h4 := rn_le none m
      have h5 := HL.out
      have h6 := HM.out
      obtain ⟨R, hR0⟩ : ∃ R, R = rn none l := ⟨_, rfl⟩
      obtain ⟨R1, hR1⟩ : ∃ R, R = rn none (wi l x) := ⟨_, rfl⟩
      obtain ⟨R2, hR2⟩ : ∃ R, R = rn none m := ⟨_, rfl⟩
      obtain ⟨R3, hR3⟩ : ∃ R, R = rn none (mg fOr l m) := ⟨_, rfl⟩
      rw [← hR0] at h1 h2 h3 ⊢
      rw [← hR1] at h1
      rw [← hR2] at h2 h4
      rw [← hR3] at h2
      have HR0 := Lib.hid hR0
      have HR1 := Lib.hid hR1
      have HR2 := Lib.hid hR2
      have HR3 := Lib.hid hR3
      have i1 : (R1 : Int) - R ≤ 1 := by omega
      have i2 : (-1 : Int) ≤ (R1 : Int) - R := by omega
      have i3 : (R3 : Int) ≤ R + R2 := by omega
      have i4 : (R : Int) ≤ 3000 := by omega
      have i5 : (R2 : Int) ≤ 3000 := by omega
      have i6 : IntKind.i64.wrap ((R1 : Int) - R) = (R1 : Int) - R := by rw [IntKind.wrap_i64]; omega
      clear hR h1 h2 h3 h4 h5 h6 hR0 hR1 hR2 hR3
      go_wp2_with fail
      refine (with_any _ l 0 _ x HX.out _ ((HV.out.below B2.out).more (Nat.le_refl _) B2.out.size) (by omega)).mono ?_
      rintro e w3 ⟨v3, rfl, o3, b3⟩
      have O3 := Lib.hid o3
      have B3 := Lib.hid (B2.out.trans (b3.mono B2.out.size))
      clear b3 o3
      go_wp2_with fail
      refine (runs_b _ _ _ _ _ O3.out.sl (by have := HL.out; rw [wi_len]; split <;> omega)).mono ?_
      rintro e w4 ⟨rfl, b4⟩
      rw [← HR1.out]
      have B4 := Lib.hid (B3.out.trans (b4.mono B3.out.size))
      clear b4
      go_wp2_with fail
      refine (runs_b _ l 0 w.heap.size _ (HV.out.below B4.out) (by have := HL.out; omega)).mono ?_
      rintro e w5 ⟨rfl, b5⟩
      rw [← HR0.out]
      have B5 := Lib.hid (B4.out.trans (b5.mono B4.out.size))
      clear b5
      go_wp2_with fail
      refine (or_any _ _ l m 0 _ ((HV.out.below B5.out).more (Nat.le_refl _) B5.out.size) ((HU.out.below B5.out).more (Nat.le_refl _) B5.out.size) (by omega) (by omega)).mono ?_
      rintro e w6 ⟨v6, rfl, o6, b6⟩
      have O6 := Lib.hid o6
      have B6 := Lib.hid (B5.out.trans (b6.mono B5.out.size))
      clear b6 o6
      go_wp2_with fail
      refine (runs_b _ _ _ _ _ O6.out.sl (by have := HL.out; have := HM.out; have := mg_le fOr l m; omega)).mono ?_
      rintro e w7 ⟨rfl, b7⟩
      rw [← HR3.out]
      have B7 := Lib.hid (B6.out.trans (b7.mono B6.out.size))
      clear b7
      go_wp2_with fail
      refine (runs_b _ m 0 w.heap.size _ (HU.out.below B7.out) (by have := HM.out; omega)).mono ?_
      rintro e w8 ⟨rfl, b8⟩
      rw [← HR2.out]
      have B8 := Lib.hid (B7.out.trans (b8.mono B7.out.size))
      clear b8
      go_wp2_with fail
      refine (known_any _).mono ?_
      rintro e w9 ⟨rfl, b9⟩
      have B9 := Lib.hid (B8.out.trans (b9.mono B8.out.size))
      clear b9
      go_wp2
      go_ret
      exact ⟨rfl, B9.out⟩
end Go.Proofs.Ythfhkcnbpbmenaa
