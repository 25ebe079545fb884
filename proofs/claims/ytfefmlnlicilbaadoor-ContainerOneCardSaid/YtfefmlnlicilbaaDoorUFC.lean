/- Runs: Has, its search (cut from stages 4 to 6) -/
import Derived.Test.YtfefmlnlicilbaaDoorUFB
namespace Go.Proofs.YtfefmlnlicilbaaDoor
open Go.RowKit
set_option linter.unusedVariables false

theorem fa_of {A : List Rn} {j : Nat} {r : Rn} (h : A[j]? = some r) : fa A j = r.1.toNat := by unfold fa; rw [getD_some h]
theorem la_of {A : List Rn} {j : Nat} {r : Rn} (h : A[j]? = some r) : la A j = lst r := by unfold la; rw [getD_some h]
set_option maxHeartbeats 4000000 in
theorem bsf_any (v : Value) (A : List Rn) (x : Nat) (w : World) (hv : Gs2 eR w 0 w.heap.size v A) (hA : mayr 0 A = true) (hb : A.length ≤ 100000000) :
    Calls Tryd.prog 89 #[v, .int .u16 x, .func (.func 90) #[] #[]] w fun e w' => ∃ n : Nat, e = .returned (.tuple #[.int .i64 n, .bool (decide (n < A.length) && decide (fa A n = x))]) ∧ n ≤ A.length ∧ (∀ j, j < n → fa A j < x) ∧ (∀ j, n ≤ j → j < A.length → x ≤ fa A j) ∧ Below w.heap.size w w' := by
  have HE : Enters Tryd.prog 90 := enters_of Tryd.func90 (by kernel_rfl) rfl
  unfold Enters at HE
  have HV := Lib.hid hv
  have HA := Lib.hid hA
  obtain ⟨A1, c1, rfl, -⟩ := hv
  clear hA
  go_enter Tryd.func89, Tryd.ntmps89
  go_wp2
  go_loopw [9, 10] (fun s7 s8 wr => ∃ i j : Nat, i ≤ j ∧ j ≤ A.length ∧ s7 = .int .i64 i ∧ s8 = .int .i64 j ∧ Hid (∀ t, t < i → fa A t < x) ∧ Hid (∀ t, j ≤ t → t < A.length → x ≤ fa A t) ∧ Below w.heap.size w wr) (fun s7 s8 _ => (intOf s8).toNat - (intOf s7).toNat)
  case atStart => exact ⟨0, A.length, Nat.zero_le _, Nat.le_refl _, rfl, rfl, fun t ht => absurd ht (Nat.not_lt_zero _), fun t h1 h2 => absurd h2 (by omega), Below.refl _ _⟩
  case round =>
    obtain ⟨i, j, hij, hj, rfl, rfl, hlo, hhi, hbl⟩ := hrel
    have HB := Lib.hid hbl
    by_cases hlt : i < j
    · obtain ⟨m, hm⟩ : ∃ m, m = (i + j) / 2 := ⟨_, rfl⟩
      have hml : m < A.length := by omega
      obtain ⟨b, off, r, e1, -, hbb, hdr, hg, c0, c2⟩ := gs2_at HV.out hml
      subst e1
      rw [← hbl.cell (p := ⟨b, off + m * 2, none⟩) hbb] at c0
      rw [← hbl.cell (p := ⟨b, off + m * 2 + 1, none⟩) hbb] at c2
      have hfa := fa_of hg
      obtain ⟨f, hfe⟩ : ∃ f, f = r.1.toNat := ⟨_, rfl⟩
      obtain ⟨q, hqe⟩ : ∃ q, q = r.2.toNat := ⟨_, rfl⟩
      rw [← hfe] at c0 hfa
      rw [← hqe] at c2
      have hm1 : ((i : Int) + j) / 2 = m := by omega
      have hi1 : m < j := by omega
      have hi2 : i ≤ m := by omega
      have w0 : IntKind.i64.wrap ((i : Int) + j) = (i : Int) + j := by rw [IntKind.wrap_i64]; omega
      have w1 : IntKind.u64.wrap ((i : Int) + j) = (i : Int) + j := by rw [IntKind.wrap_u64]; omega
      have w2 : IntKind.i64.wrap (m : Int) = m := by rw [IntKind.wrap_i64]; omega
      have hlti : (i : Int) < j := by omega
      have hmli : (m : Int) < A.length := by omega
      have hsz := hbl.size
      by_cases hyc : f < x
      · have hc : cmpv f x = -1 := by unfold cmpv; rw [if_pos (by omega)]
        have hlo2 : ∀ t, t < m + 1 → fa A t < x := fun t ht => by
          rcases Nat.lt_or_ge t m with h | h
          · have := mayr_gap HA.out h hml
            have := fa_le_la A t
            omega
          · have : t = m := by omega
            rw [this]; omega
        have HLO := Lib.hid hlo2
        have HC := Lib.hid hc
        clear hm hdr hg hfa hfe hqe hlo hlo2 hbl hc
        go_wp2_with fail
        refine (hascmp_any f q x _).mono ?_
        rw [HC.out]
        rintro e w9 ⟨rfl, b9⟩
        have B9 := Lib.hid b9
        clear b9
        go_wp2
        refine ⟨⟨m + 1, j, by omega, by omega, by go_num, rfl, HLO.out, hhi, below_both HB.out B9.out⟩, by simp [intOf]; omega⟩
      · have hc : 0 ≤ cmpv f x := by unfold cmpv; rw [if_neg (by omega)]; split <;> omega
        have hhi2 : ∀ t, m ≤ t → t < A.length → x ≤ fa A t := fun t h1 h2 => by
          rcases Nat.lt_or_ge m t with h | h
          · have := mayr_gap HA.out h h2
            have := fa_le_la A m
            omega
          · have : t = m := by omega
            rw [this]; omega
        have HHI := Lib.hid hhi2
        obtain ⟨cv, hcv⟩ : ∃ cv, cv = cmpv f x := ⟨_, rfl⟩
        have HC := Lib.hid hcv
        have hc1 : decide (cv < 0) = false := decide_eq_false (by omega)
        have hc2 : 0 ≤ cv := by omega
        clear hm hdr hg hfa hfe hqe hhi hhi2 hbl hc hcv
        go_wp2_with fail
        refine (hascmp_any f q x _).mono ?_
        rw [← HC.out]
        rintro e w9 ⟨rfl, b9⟩
        have B9 := Lib.hid b9
        clear b9
        go_wp2
        refine ⟨⟨i, m, by omega, by omega, rfl, by go_num, hlo, HHI.out, below_both HB.out B9.out⟩, by simp [intOf]; omega⟩
    · obtain rfl : i = j := by omega
      by_cases hi : i < A.length
      · obtain ⟨b, off, r, e1, -, hbb, hdr, hg, c0, c2⟩ := gs2_at HV.out hi
        subst e1
        rw [← hbl.cell (p := ⟨b, off + i * 2, none⟩) hbb] at c0
        rw [← hbl.cell (p := ⟨b, off + i * 2 + 1, none⟩) hbb] at c2
        have hfa := fa_of hg
        obtain ⟨f, hfe⟩ : ∃ f, f = r.1.toNat := ⟨_, rfl⟩
        obtain ⟨q, hqe⟩ : ∃ q, q = r.2.toNat := ⟨_, rfl⟩
        rw [← hfe] at c0 hfa
        rw [← hqe] at c2
        have hii : (i : Int) < A.length := by omega
        obtain ⟨cv, hcv⟩ : ∃ cv, cv = cmpv f x := ⟨_, rfl⟩
        have hR : (decide (i < A.length) && decide (fa A i = x)) = (cv == 0) := by
          rw [decide_eq_true hi, Bool.true_and, hfa, hcv, Bool.eq_iff_iff, decide_eq_true_eq, beq_iff_eq]
          unfold cmpv
          split
          · omega
          · split <;> omega
        have HC := Lib.hid hcv
        have HR := Lib.hid hR
        clear hdr hg hfa hfe hqe hcv hR hbl
        go_wp2_with fail
        refine (hascmp_any f q x _).mono ?_
        rw [← HC.out]
        rintro e w9 ⟨rfl, b9⟩
        have B9 := Lib.hid b9
        clear b9
        go_wp2
        go_ret2
        refine ⟨i, ?_, by omega, hlo, hhi, below_both HB.out B9.out⟩
        rw [HR.out]
        rfl
      · have hR : (decide (i < A.length) && decide (fa A i = x)) = false := by rw [decide_eq_false hi, Bool.false_and]
        have HR := Lib.hid hR
        have hii : ¬ (i : Int) < A.length := by omega
        clear hR hbl
        go_wp2
        go_ret2
        refine ⟨i, ?_, by omega, hlo, hhi, HB.out⟩
        rw [HR.out]
        rfl
end Go.Proofs.YtfefmlnlicilbaaDoor
