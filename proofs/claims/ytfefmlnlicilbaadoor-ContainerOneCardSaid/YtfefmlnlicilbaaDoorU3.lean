/- Walks: Find (cut from stages 4 to 6) -/
import Derived.Test.YtfefmlnlicilbaaDoorU2
namespace Go.Proofs.YtfefmlnlicilbaaDoor
open Go.RowKit
set_option linter.unusedVariables false

set_option maxHeartbeats 400000 in
theorem less_any (x y : Int) (w : World) :
    Calls Tryd.prog 87 #[.int .u16 x, .int .u16 y] w fun e w' => e = .returned (.bool (decide (x < y))) ∧ w' = w := by
  go_enter Tryd.func87, Tryd.ntmps87
  go_wp2_with (go_in)
  go_ret
  exact ⟨rfl, rfl⟩
theorem bsr_stop (l : List UInt16) (x : UInt16) (f i j : Nat) (h : ¬ i < j) : bsr l x f i j = i := by
  cases f with
  | zero => rfl
  | succ f => rw [bsr, if_neg h]
set_option maxHeartbeats 1000000 in
theorem bsearch_any (v : Value) (l : List UInt16) (lo hi : Nat) (X : Int) (x : UInt16) (hx : X = x.toNat) (W : World) (hv : Gs e16 W lo hi v l) (hb : l.length ≤ 100000000) :
    Calls Tryd.prog 74 #[v, .int .u16 X] W fun e w' => e = .returned (.tuple #[.int .i64 (bs l x), .bool (fd l x)]) ∧ w' = W := by
  have hv0 := hv
  obtain ⟨A, c, rfl, -⟩ := hv
  have HV := Lib.hid hv0
  clear hv0
  go_enter Tryd.func74, Tryd.ntmps74
  go_wp2
  go_loop [7, 8] (fun s7 s8 => ∃ i j f : Nat, i ≤ j ∧ j ≤ l.length ∧ j - i ≤ f ∧ s7 = .int .i64 i ∧ s8 = .int .i64 j ∧ bs l x = bsr l x f i j) (fun s7 s8 => (intOf s8).toNat - (intOf s7).toNat)
  case atStart => exact ⟨0, l.length, l.length, Nat.zero_le _, Nat.le_refl _, by omega, rfl, rfl, rfl⟩
  case round =>
    obtain ⟨i, j, f, hij, hj, hf, rfl, rfl, hr⟩ := hrel
    by_cases hlt : i < j
    · obtain ⟨f, rfl⟩ : ∃ g, f = g + 1 := ⟨f - 1, by omega⟩
      obtain ⟨b, o, c, e1, -, -, -, -, hc⟩ := HV.out.form (by rintro rfl; simp at hj; omega)
      injection e1 with e1 _ e2
      subst e1 e2
      obtain ⟨m, hm⟩ : ∃ m, m = (i + j) / 2 := ⟨_, rfl⟩
      have hml : m < l.length := by omega
      have k1 := hc m _ (at16_get hml)
      simp only [e16, b16] at k1
      rw [bsr, if_pos hlt, ← hm] at hr
      obtain ⟨y, hy⟩ : ∃ y : Int, y = ((at16 l m).toNat : Int) := ⟨_, rfl⟩
      rw [← hy] at k1
      have hyx : ((at16 l m).toNat < x.toNat) ↔ y < X := by omega
      have hm1 : ((i : Int) + j) / 2 = m := by omega
      have hi1 : m < j := by omega
      have hi2 : i ≤ m := by omega
      clear hc hy hm
      clear hx
      have w0 : IntKind.i64.wrap ((i : Int) + j) = (i : Int) + j := by rw [IntKind.wrap_i64]; omega
      have w1 : IntKind.u64.wrap ((i : Int) + j) = (i : Int) + j := by rw [IntKind.wrap_u64]; omega
      have w2 : IntKind.i64.wrap (m : Int) = m := by rw [IntKind.wrap_i64]; omega
      have hlti : (i : Int) < j := by omega
      have hmli : (m : Int) < l.length := by omega
      by_cases hyc : y < X
      · have hr' : bs l x = bsr l x f (m + 1) j := by rw [hr, if_pos (hyx.2 hyc)]
        have HR := Lib.hid hr'
        clear hr hr' hyx
        go_wp2_with (go_at_call 87; refine (less_any y X _).mono ?_; rintro e w1 ⟨rfl, rfl⟩)
        go_round
        case rel => exact ⟨m + 1, j, f, by omega, hj, by omega, by go_num, rfl, HR.out⟩
        case measure => simp [intOf]; omega
      · have hr' : bs l x = bsr l x f i m := by rw [hr, if_neg (fun h => hyc (hyx.1 h))]
        have HR := Lib.hid hr'
        clear hr hr' hyx
        go_wp2_with (go_at_call 87; refine (less_any y X _).mono ?_; rintro e w1 ⟨rfl, rfl⟩)
        go_round
        case rel => exact ⟨i, m, f, by omega, by omega, by omega, rfl, by go_num, HR.out⟩
        case measure => simp [intOf]; omega
    · have hs : bs l x = i := by rw [hr, bsr_stop _ _ _ _ _ hlt]
      clear hr
      by_cases hi : i < l.length
      · obtain ⟨b, o, c, e1, -, -, -, -, hc⟩ := HV.out.form (by rintro rfl; simp at hi)
        injection e1 with e1 _ e2
        subst e1 e2
        have k1 := hc i _ (at16_get hi)
        simp only [e16, b16] at k1
        obtain ⟨y, hy⟩ : ∃ y : Int, y = ((at16 l i).toNat : Int) := ⟨_, rfl⟩
        rw [← hy] at k1
        have hF : fd l x = decide (y = X) := by
          unfold fd
          rw [hs, decide_eq_true hi, Bool.true_and, Bool.eq_iff_iff, decide_eq_true_eq, decide_eq_true_eq]
          omega
        clear hx
        have HF := Lib.hid hF
        have HS := Lib.hid hs
        have hii : (i : Int) < l.length := by omega
        clear hc hy hF hs
        by_cases hyx : y = X
        · go_wp2_with (go_in)
          go_ret2
          exact ⟨by rw [HF.out, HS.out]; simp [hyx], rfl⟩
        · go_wp2_with (go_in)
          go_ret2
          exact ⟨by rw [HF.out, HS.out]; simp [hyx], rfl⟩
      · have hF : fd l x = false := by
          unfold fd
          rw [hs, decide_eq_false hi, Bool.false_and]
        have HF := Lib.hid hF
        have HS := Lib.hid hs
        have hq : decide ((i : Int) < (l.length : Int)) = false := decide_eq_false (by omega)
        clear hF hs
        go_wp2
        go_ret2
        exact ⟨by rw [HF.out, HS.out]; rfl, rfl⟩
set_option maxHeartbeats 400000 in
theorem find_any (v : Value) (l : List UInt16) (lo hi : Nat) (X : Int) (x : UInt16) (hx : X = x.toNat) (W : World) (hv : Gs e16 W lo hi v l) (hb : l.length ≤ 100000000) :
    Calls Tryd.prog 50 #[v, .int .u16 X] W fun e w' => e = .returned (.tuple #[.int .i64 (bs l x), .bool (fd l x)]) ∧ w' = W := by
  have HX := Lib.hid hx
  clear hx
  go_enter Tryd.func50, Tryd.ntmps50
  go_wp2_with (go_at_call 74; refine (bsearch_any v l lo hi X x HX.out _ hv hb).mono ?_; rintro e w1 ⟨rfl, rfl⟩)
  go_ret2
  exact ⟨rfl, rfl⟩
end Go.Proofs.YtfefmlnlicilbaaDoor
