/- Walks: a short number is read, where a byte below 128 stands. -/
import Derived.Test.YtigjkolhhhmdhaaW7
import Derived.Test.YtigjkolhhhmdhaaPs
namespace Go.Proofs.Ytigjkolhhhmdhaa
open Go.RowKit
set_option linter.unusedVariables false

theorem two_draws (w : World) (a b : Nat) : ∃ k, (w.drewN a).drewN b = w.drewN k := ⟨_, World.drewN_drewN _ _ _⟩
theorem sum_draws (w : World) (a b : Nat) : ∃ k, w.drewN (a + b) = w.drewN k := ⟨_, rfl⟩

theorem lookShort_stop_ {base g : Nat} {v : Value} {l : List UInt8} {p : Nat} (s : Int) (w : World) (h : Rd w base g v l p false) (k : Nat) (hst : stopAt 10 (l.drop p) = some k) :
    Calls Try.prog 40 #[.pointer (some ⟨g, 0, none⟩), .int .i64 s] w fun e w' => e = .returned (.tuple #[.int .u64 (rdS (l.drop p)).1, .int .i64 (rdS (l.drop p)).2]) ∧ ∃ k, w' = w.drewN k := by
  obtain ⟨hk10, hall, y0, hy0, hy128⟩ := stopAt_some 10 _ k hst
  rw [List.getElem?_drop] at hy0
  have hs : p + k < l.length := by
    rcases Nat.lt_or_ge (p + k) l.length with h1 | h1
    · exact h1
    · rw [List.getElem?_eq_none h1] at hy0; cases hy0
  obtain ⟨b, c, rfl, hlc, hcm, -, -, hcell⟩ := h.own.form_ (by rintro rfl; simp at hs)
  have h0 := h.c0
  have h1 := h.c1
  have h2 := h.c2
  have hle := h.le
  have hsm := h.small
  have hne : c ≠ p := by omega
  unfold maxLen at hcm
  have HC := Lib.hid hcell
  have HA := Lib.hid hall
  have HY := Lib.hid hy0
  have HT := Lib.hid hst
  -- the number at the end, and how many bytes it has
  obtain ⟨F, hF⟩ : ∃ F : Int, F = ((val7 ((l.drop p).take (k + 1)) % 18446744073709551616 : Nat) : Int) := ⟨_, rfl⟩
  have f0 : 0 ≤ F := by omega
  have f1 : F ≤ 18446744073709551615 := by omega
  obtain ⟨L, hL, hcs⟩ := size_named F f0 f1
  have HS := Lib.hid hcs
  have HL := Lib.hid hL
  have HF := Lib.hid hF
  clear h hcell hall hy0 hst hcs hL hF
  go_enter Try.func40, Try.ntmps40
  go_wp2
  by_cases h10 : 10 < l.length - p
  all_goals
    go_quiet ((go_at_call 43; exact Calls.quiet_of (left_good g _ _ c p _ h0 h1 h2 hle (by omega))))
    go_wp2
    go_loop [4, 5, 22] (fun n u i => ∃ (j : Nat) (D : Int), j ≤ k ∧ u = .int .i64 0 ∧ i = .int .i64 j ∧ n = .int .u64 D ∧ 0 ≤ D ∧ D ≤ 18446744073709551615 ∧ D = (val7 ((l.drop p).take j) : Nat)) (fun _ _ i => k - (intOf i).toNat)
    case atStart => exact ⟨0, 0, by omega, rfl, rfl, rfl, by omega, by omega, by simp [val7]⟩
    case round =>
      obtain ⟨j, D, hj, rfl, rfl, rfl, d0, d1, hD⟩ := hrel
      have HD := Lib.hid hD
      clear hD
      by_cases hlt : j < k
      · obtain ⟨y, hy⟩ : ∃ y, l[p + j]? = some y := ⟨_, List.getElem?_eq_getElem (by omega)⟩
        have hc := HC.out (p + j) y hy
        have hz128 := HA.out j y hlt (by rw [List.getElem?_drop]; exact hy)
        unfold b8 at hc
        obtain ⟨z, hz⟩ : ∃ z : Int, z = (y.toNat : Int) := ⟨_, rfl⟩
        rw [← hz] at hc
        have z0 : 128 ≤ z := by omega
        have z1 : z ≤ 255 := by have := y.toNat_lt; omega
        have HZ := Lib.hid hz
        have HY2 := Lib.hid hy
        clear hy hz hz128
        go_wp2
        have hst := short_step (l.drop p) j y z D (by rw [List.getElem?_drop]; exact HY2.out) HZ.out HD.out (by omega)
        rw [Nat.mod_eq_of_lt (by have := val7_small (l.drop p) (j + 1) (by omega); omega)] at hst
        have hsb := val7_small (l.drop p) (j + 1) (by omega)
        go_round
        case rel => exact ⟨j + 1, _, by omega, rfl, by go_num, rfl, by rw [hst]; omega, by rw [hst]; omega, hst⟩
        case measure => simp [intOf]; omega
      · have hjk : j = k := by omega
        have hc := HC.out (p + j) y0 (by rw [hjk]; exact HY.out)
        have HJ := Lib.hid hjk
        unfold b8 at hc
        obtain ⟨z, hz⟩ : ∃ z : Int, z = (y0.toNat : Int) := ⟨_, rfl⟩
        rw [← hz] at hc
        have z0 : 0 ≤ z := by omega
        have z1 : z < 128 := by omega
        have hst := (short_step (l.drop p) j y0 z D (by rw [List.getElem?_drop, hjk]; exact HY.out) hz HD.out (by omega)).trans (show _ = F by rw [hjk]; exact HF.out.symm)
        have HZ := Lib.hid hz
        have HST := Lib.hid hst
        clear hjk hz hst
        go_wp2
        rw [HST.out]
        have hr := rdS_stop HT.out
        have hFn : val7 ((l.drop p).take (k + 1)) % 18446744073709551616 = F.toNat := by have := HF.out; omega
        rw [hFn] at hr
        by_cases o1 : L = (j : Int) + 1
        · by_cases o2 : j = 9
          · obtain rfl : L = 10 := by omega
            obtain rfl : k = 9 := by have := HJ.out; omega
            subst o2
            have hd : (l.drop p).getD 9 0 = y0 := by have := HY.out; rw [← List.getElem?_drop] at this; simp [List.getD, this]
            rw [if_neg (by have := HL.out; omega), hd] at hr
            have hi0 : (p : Int) + 10 - 1 < l.length := by omega
            by_cases o3 : 1 < z
            · rw [if_pos ⟨rfl, by have := HZ.out; omega⟩] at hr
              have HR := Lib.hid hr
              clear hr hFn hd o1
              go_quiet ((go_at_call 44; first | exact quiet_left_ (HS.out _) | exact quiet_two_ (HS.out _)))
              go_wp2
              go_ret2
              exact ⟨by rw [HR.out]; rfl, (by first | exact two_draws _ _ _ | exact sum_draws _ _ _)⟩
            · rw [if_neg (by have := HZ.out; omega)] at hr
              have HR := Lib.hid hr
              clear hr hFn hd o1
              go_quiet ((go_at_call 44; first | exact quiet_left_ (HS.out _) | exact quiet_two_ (HS.out _)))
              go_wp2
              go_ret2
              exact ⟨by rw [HR.out]; exact ret2_u64 (by simp; omega) rfl, (by first | exact two_draws _ _ _ | exact sum_draws _ _ _)⟩
          · rw [if_neg (by have := HL.out; have := HJ.out; omega), if_neg (by have := HJ.out; omega)] at hr
            have HR := Lib.hid hr
            have hb1 : ((j : Int) + 1 != L) = false := by rw [bne_eq_false_iff_eq]; omega
            have hb2 : ((j : Int) + 1 == 10) = false := by rw [beq_eq_false_iff_ne]; omega
            clear hr hFn o1
            go_quiet ((go_at_call 44; first | exact quiet_left_ (HS.out _) | exact quiet_two_ (HS.out _)))
            go_wp2
            go_ret2
            exact ⟨by rw [HR.out]; exact ret2_u64 (by simp; omega) (by have := HJ.out; simp; omega), (by first | exact two_draws _ _ _ | exact sum_draws _ _ _)⟩
        · rw [if_pos (by have := HL.out; have := HJ.out; omega)] at hr
          have HR := Lib.hid hr
          have hb1 : ((j : Int) + 1 != L) = true := by rw [bne_iff_ne]; omega
          clear hr hFn o1
          go_quiet ((go_at_call 44; first | exact quiet_left_ (HS.out _) | exact quiet_two_ (HS.out _)))
          go_wp2
          go_ret2
          exact ⟨by rw [HR.out]; rfl, (by first | exact two_draws _ _ _ | exact sum_draws _ _ _)⟩

theorem lookShort_any {base g : Nat} {v : Value} {l : List UInt8} {p : Nat} (s : Int) (w : World) (h : Rd w base g v l p false) :
    Calls Try.prog 40 #[.pointer (some ⟨g, 0, none⟩), .int .i64 s] w fun e w' => e = .returned (.tuple #[.int .u64 (rdS (l.drop p)).1, .int .i64 (rdS (l.drop p)).2]) ∧ ∃ k, w' = w.drewN k := by
  cases hst : stopAt 10 (l.drop p) with
  | some k => exact lookShort_stop_ s w h k hst
  | none =>
    have hr := rdS_none hst
    rcases Nat.lt_or_ge p l.length with hp | hp
    · refine (lookShort_none_ s w h hp _ rfl fun j y hj hy => stopAt_none 10 _ hst j y (by omega) (by rw [List.getElem?_drop]; exact hy)).mono ?_
      rintro e w' ⟨rfl, hw⟩
      exact ⟨by rw [hr]; rfl, hw⟩
    · refine (lookShort_end s w h (by have := h.le; omega)).mono ?_
      rintro e w' ⟨rfl, hw⟩
      exact ⟨by rw [hr]; rfl, hw⟩
end Go.Proofs.Ytigjkolhhhmdhaa
