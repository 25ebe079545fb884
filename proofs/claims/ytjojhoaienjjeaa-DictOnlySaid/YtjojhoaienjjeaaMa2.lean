/- Walks: the bytes of a value: values.Append; the document's Bytes. -/
import Derived.Test.YtjojhoaienjjeaaMa1
import Derived.Laws.EntriesVeiled
import Derived.Lib.AppendStr
/- Walks: a short number is read, where a byte below 128 stands. -/
namespace Go.Proofs.Ytjojhoaienjjeaa
open Go.RowKit
set_option linter.unusedVariables false

theorem two_draws (w : World) (a b : Nat) : ∃ k, (w.drewN a).drewN b = w.drewN k := ⟨_, World.drewN_drewN _ _ _⟩
theorem sum_draws (w : World) (a b : Nat) : ∃ k, w.drewN (a + b) = w.drewN k := ⟨_, rfl⟩

theorem lookShort_stop_ {base g : Nat} {v : Value} {l : List UInt8} {p : Nat} (s : Int) (w : World) (h : Rd w base g v l p false) (k : Nat) (hst : stopAt 10 (l.drop p) = some k) :
    Calls Try.prog 91 #[.pointer (some ⟨g, 0, none⟩), .int .i64 s] w fun e w' => e = .returned (.tuple #[.int .u64 (rdS (l.drop p)).1, .int .i64 (rdS (l.drop p)).2]) ∧ ∃ k, w' = w.drewN k := by
  obtain ⟨hk10, hall, y0, hy0, hy128⟩ := stopAt_some 10 _ k hst
  rw [List.getElem?_drop] at hy0
  have hs : p + k < l.length := by
    rcases Nat.lt_or_ge (p + k) l.length with h1 | h1
    · exact h1
    · rw [List.getElem?_eq_none h1] at hy0; cases hy0
  obtain ⟨b, c, rfl, hlc, hcm, -, -, hcell⟩ := h.own.form_ (by rintro rfl; simp at hs)
  have h0 := h.c0
  have h1 := h.c1
  have h2 := h.c2
  have hle := h.le
  have hsm := h.small
  have hne : c ≠ p := by omega
  unfold maxLen at hcm
  have HC := Lib.hid hcell
  have HA := Lib.hid hall
  have HY := Lib.hid hy0
  have HT := Lib.hid hst
  -- the number at the end, and how many bytes it has
  obtain ⟨F, hF⟩ : ∃ F : Int, F = ((val7 ((l.drop p).take (k + 1)) % 18446744073709551616 : Nat) : Int) := ⟨_, rfl⟩
  have f0 : 0 ≤ F := by omega
  have f1 : F ≤ 18446744073709551615 := by omega
  obtain ⟨L, hL, hcs⟩ := size_named F f0 f1
  have HS := Lib.hid hcs
  have HL := Lib.hid hL
  have HF := Lib.hid hF
  clear h hcell hall hy0 hst hcs hL hF
  go_enter Try.func91, Try.ntmps91
  go_wp2
  by_cases h10 : 10 < l.length - p
  all_goals
    go_quiet ((go_at_call 49; exact Calls.quiet_of (left_good g _ _ c p _ h0 h1 h2 hle (by omega))))
    go_wp2
    go_loop [4, 5, 22] (fun n u i => ∃ (j : Nat) (D : Int), j ≤ k ∧ u = .int .i64 0 ∧ i = .int .i64 j ∧ n = .int .u64 D ∧ 0 ≤ D ∧ D ≤ 18446744073709551615 ∧ D = (val7 ((l.drop p).take j) : Nat)) (fun _ _ i => k - (intOf i).toNat)
    case atStart => exact ⟨0, 0, by omega, rfl, rfl, rfl, by omega, by omega, by simp [val7]⟩
    case round =>
      obtain ⟨j, D, hj, rfl, rfl, rfl, d0, d1, hD⟩ := hrel
      have HD := Lib.hid hD
      clear hD
      by_cases hlt : j < k
      · obtain ⟨y, hy⟩ : ∃ y, l[p + j]? = some y := ⟨_, List.getElem?_eq_getElem (by omega)⟩
        have hc := HC.out (p + j) y hy
        have hz128 := HA.out j y hlt (by rw [List.getElem?_drop]; exact hy)
        unfold b8 at hc
        obtain ⟨z, hz⟩ : ∃ z : Int, z = (y.toNat : Int) := ⟨_, rfl⟩
        rw [← hz] at hc
        have z0 : 128 ≤ z := by omega
        have z1 : z ≤ 255 := by have := y.toNat_lt; omega
        have HZ := Lib.hid hz
        have HY2 := Lib.hid hy
        clear hy hz hz128
        go_wp2
        have hst := short_step (l.drop p) j y z D (by rw [List.getElem?_drop]; exact HY2.out) HZ.out HD.out (by omega)
        rw [Nat.mod_eq_of_lt (by have := val7_small (l.drop p) (j + 1) (by omega); omega)] at hst
        have hsb := val7_small (l.drop p) (j + 1) (by omega)
        go_round
        case rel => exact ⟨j + 1, _, by omega, rfl, by go_num, rfl, by rw [hst]; omega, by rw [hst]; omega, hst⟩
        case measure => simp [intOf]; omega
      · have hjk : j = k := by omega
        have hc := HC.out (p + j) y0 (by rw [hjk]; exact HY.out)
        have HJ := Lib.hid hjk
        unfold b8 at hc
        obtain ⟨z, hz⟩ : ∃ z : Int, z = (y0.toNat : Int) := ⟨_, rfl⟩
        rw [← hz] at hc
        have z0 : 0 ≤ z := by omega
        have z1 : z < 128 := by omega
        have hst := (short_step (l.drop p) j y0 z D (by rw [List.getElem?_drop, hjk]; exact HY.out) hz HD.out (by omega)).trans (show _ = F by rw [hjk]; exact HF.out.symm)
        have HZ := Lib.hid hz
        have HST := Lib.hid hst
        clear hjk hz hst
        go_wp2
        rw [HST.out]
        have hr := rdS_stop HT.out
        have hFn : val7 ((l.drop p).take (k + 1)) % 18446744073709551616 = F.toNat := by have := HF.out; omega
        rw [hFn] at hr
        by_cases o1 : L = (j : Int) + 1
        · by_cases o2 : j = 9
          · obtain rfl : L = 10 := by omega
            obtain rfl : k = 9 := by have := HJ.out; omega
            subst o2
            have hd : (l.drop p).getD 9 0 = y0 := by have := HY.out; rw [← List.getElem?_drop] at this; simp [List.getD, this]
            rw [if_neg (by have := HL.out; omega), hd] at hr
            have hi0 : (p : Int) + 10 - 1 < l.length := by omega
            by_cases o3 : 1 < z
            · rw [if_pos ⟨rfl, by have := HZ.out; omega⟩] at hr
              have HR := Lib.hid hr
              clear hr hFn hd o1
              go_quiet ((go_at_call 75; first | exact quiet_left_ (HS.out _) | exact quiet_two_ (HS.out _)))
              go_wp2
              go_ret2
              exact ⟨by rw [HR.out]; rfl, (by first | exact two_draws _ _ _ | exact sum_draws _ _ _)⟩
            · rw [if_neg (by have := HZ.out; omega)] at hr
              have HR := Lib.hid hr
              clear hr hFn hd o1
              go_quiet ((go_at_call 75; first | exact quiet_left_ (HS.out _) | exact quiet_two_ (HS.out _)))
              go_wp2
              go_ret2
              exact ⟨by rw [HR.out]; exact ret2_u64 (by simp; omega) rfl, (by first | exact two_draws _ _ _ | exact sum_draws _ _ _)⟩
          · rw [if_neg (by have := HL.out; have := HJ.out; omega), if_neg (by have := HJ.out; omega)] at hr
            have HR := Lib.hid hr
            have hb1 : ((j : Int) + 1 != L) = false := by rw [bne_eq_false_iff_eq]; omega
            have hb2 : ((j : Int) + 1 == 10) = false := by rw [beq_eq_false_iff_ne]; omega
            clear hr hFn o1
            go_quiet ((go_at_call 75; first | exact quiet_left_ (HS.out _) | exact quiet_two_ (HS.out _)))
            go_wp2
            go_ret2
            exact ⟨by rw [HR.out]; exact ret2_u64 (by simp; omega) (by have := HJ.out; simp; omega), (by first | exact two_draws _ _ _ | exact sum_draws _ _ _)⟩
        · rw [if_pos (by have := HL.out; have := HJ.out; omega)] at hr
          have HR := Lib.hid hr
          have hb1 : ((j : Int) + 1 != L) = true := by rw [bne_iff_ne]; omega
          clear hr hFn o1
          go_quiet ((go_at_call 75; first | exact quiet_left_ (HS.out _) | exact quiet_two_ (HS.out _)))
          go_wp2
          go_ret2
          exact ⟨by rw [HR.out]; rfl, (by first | exact two_draws _ _ _ | exact sum_draws _ _ _)⟩

theorem lookShort_any {base g : Nat} {v : Value} {l : List UInt8} {p : Nat} (s : Int) (w : World) (h : Rd w base g v l p false) :
    Calls Try.prog 91 #[.pointer (some ⟨g, 0, none⟩), .int .i64 s] w fun e w' => e = .returned (.tuple #[.int .u64 (rdS (l.drop p)).1, .int .i64 (rdS (l.drop p)).2]) ∧ ∃ k, w' = w.drewN k := by
  cases hst : stopAt 10 (l.drop p) with
  | some k => exact lookShort_stop_ s w h k hst
  | none =>
    have hr := rdS_none hst
    rcases Nat.lt_or_ge p l.length with hp | hp
    · refine (lookShort_none_ s w h hp _ rfl fun j y hj hy => stopAt_none 10 _ hst j y (by omega) (by rw [List.getElem?_drop]; exact hy)).mono ?_
      rintro e w' ⟨rfl, hw⟩
      exact ⟨by rw [hr]; rfl, hw⟩
    · refine (lookShort_end s w h (by have := h.le; omega)).mono ?_
      rintro e w' ⟨rfl, hw⟩
      exact ⟨by rw [hr]; rfl, hw⟩
end Go.Proofs.Ytjojhoaienjjeaa
/- Walks: numbers are read by one method, picked from a row of method values. -/
namespace Go.Proofs.Ytjojhoaienjjeaa
open Go.RowKit
set_option linter.unusedVariables false

/-- The whole number of size bytes at the head of s, and how many bytes it has: (0, 0), if there are too few. -/
def rdW (s : List UInt8) (size : Nat) : Nat × Nat := if s.length < size then (0, 0) else (leVal (s.take size), size)

theorem lookWhole_any {base g : Nat} {v : Value} {l : List UInt8} {p : Nat} (s : Nat) (w : World) (h : Rd w base g v l p false) (h1 : 1 ≤ s) (h8 : s ≤ 8) :
    Calls Try.prog 92 #[.pointer (some ⟨g, 0, none⟩), .int .i64 s] w fun e w' => e = .returned (.tuple #[.int .u64 (rdW (l.drop p) s).1, .int .i64 (rdW (l.drop p) s).2]) ∧ ∃ k, w' = w.drewN k := by
  have hle := h.le
  by_cases hs : l.length - p < s
  · refine (lookWhole_no s w h (by omega)).mono ?_
    rintro e w' ⟨rfl, hw⟩
    exact ⟨by rw [rdW, if_pos (by simpa using hs)]; rfl, hw⟩
  · refine (lookWhole_yes s w h (by omega) h1 h8).mono ?_
    rintro e w' ⟨rfl, hw⟩
    exact ⟨by rw [rdW, if_neg (by simpa using hs)], hw⟩

set_option maxHeartbeats 400000 in
theorem number_bad {base g : Nat} {v : Value} {l : List UInt8} {p : Nat} (s : Int) (w : World) (h : Rd w base g v l p true) :
    Calls Try.prog 77 #[.pointer (some ⟨g, 0, none⟩), .int .i64 s] w fun e w' => e = .returned (.int .u64 0) ∧ w = w' := by
  have h2 := h.c2
  clear h
  go_enter Try.func77, Try.ntmps77
  go_wp2_with (go_at_call 66; refine (bad_at g true _ h2).mono ?_; rintro e w1 ⟨rfl, rfl⟩)
  go_ret
  exact ⟨rfl, rfl⟩

set_option maxHeartbeats 400000 in
theorem number_nil (s : Int) (w : World) :
    Calls Try.prog 77 #[.pointer none, .int .i64 s] w fun e w' => e = .returned (.int .u64 0) ∧ w = w' := by
  go_enter Try.func77, Try.ntmps77
  go_wp2_with (go_at_call 66; refine (bad_nil _).mono ?_; rintro e w1 ⟨rfl, rfl⟩)
  go_ret
  exact ⟨rfl, rfl⟩


/-- A reader whose mark and place have been written. -/
theorem Rd.moved {w : World} {base g : Nat} {v : Value} {l : List UInt8} {p q : Nat} {x y : Bool} (h : Rd w base g v l p x) (hq : q ≤ l.length) :
    Rd ((w.setCell ⟨g, 2, none⟩ (.bool y)).setCell ⟨g, 1, none⟩ (.int .i64 q)) base g v l q y := by
  have h1 := (h.row.set_ 2 (.bool y)).set_ 1 (.int .i64 q)
  have hne := h.ne
  refine ⟨h1, ?_, h.ge, hq, h.small⟩
  exact (h.own.kept (grown_set w g 2 (.bool y)) (fun k hk e => by injection e with e; subst e; exact hne hk)).kept (grown_set _ g 1 _) (fun k hk e => by injection e with e; subst e; exact hne hk)

set_option maxHeartbeats 400000 in
theorem number_short {base g : Nat} {v : Value} {l : List UInt8} {p : Nat} (w : World) (h : Rd w base g v l p false) :
    Calls Try.prog 77 #[.pointer (some ⟨g, 0, none⟩), .int .i64 0] w fun e w' => e = .returned (.int .u64 (rdS (l.drop p)).1) ∧
      Rd w' base g v l (p + (rdS (l.drop p)).2) ((rdS (l.drop p)).2 == 0) ∧ w.grownBy w' (some g) := by
  have h2 := h.c2
  have hk := rdS_le (l.drop p)
  rw [List.length_drop] at hk
  have hle := h.le
  have hsm := h.small
  have hcall := fun (W : World) (hR : Rd W base g v l p false) => lookShort_any 0 W hR
  generalize rdS (l.drop p) = r at *
  obtain ⟨n, k⟩ := r
  simp only at hcall hk ⊢
  have HCALL := Lib.hid hcall
  have H := Lib.hid h
  clear h hcall
  by_cases hk0 : k = 0
  · subst hk0
    go_enter Try.func77, Try.ntmps77
    go_wp2_with (first | (go_at_call 66; refine (bad_at g false _ h2).mono ?_; rintro e w1 ⟨rfl, rfl⟩) | (go_at_call 91; refine (HCALL.out _ (H.out.alloc _)).mono ?_; rintro e W1 ⟨rfl, k1, hW1⟩; have hR : Rd W1 base g v l p false := (by rw [hW1]; exact (H.out.alloc _).drewN k1); have hG : w.grownBy W1 (some g) := (by rw [hW1]; exact grown_drewN (World.grownBy_alloc w _ _) k1); clear hW1; have c1 := hR.c1; have c2 := hR.c2; have f1 := hR.row.frozen 1; have f2 := hR.row.frozen 2; have HR := Lib.hid hR; have HG := Lib.hid hG; clear hR hG))
    go_ret
    exact ⟨rfl, HR.out.moved hle, (HG.out.trans (grown_set _ _ _ _)).trans (grown_set _ _ _ _)⟩
  · have hb : ((k : Int) == 0) = false := by rw [beq_eq_false_iff_ne]; omega
    have hb2 : (k == 0) = false := by rw [beq_eq_false_iff_ne]; omega
    have HB := Lib.hid hb2
    clear hb2
    go_enter Try.func77, Try.ntmps77
    go_wp2_with (first | (go_at_call 66; refine (bad_at g false _ h2).mono ?_; rintro e w1 ⟨rfl, rfl⟩) | (go_at_call 91; refine (HCALL.out _ (H.out.alloc _)).mono ?_; rintro e W1 ⟨rfl, k1, hW1⟩; have hR : Rd W1 base g v l p false := (by rw [hW1]; exact (H.out.alloc _).drewN k1); have hG : w.grownBy W1 (some g) := (by rw [hW1]; exact grown_drewN (World.grownBy_alloc w _ _) k1); clear hW1; have c1 := hR.c1; have c2 := hR.c2; have f1 := hR.row.frozen 1; have f2 := hR.row.frozen 2; have HR := Lib.hid hR; have HG := Lib.hid hG; clear hR hG))
    go_ret
    exact ⟨rfl, by rw [HB.out]; exact HR.out.moved (q := p + k) (by omega), (HG.out.trans (grown_set _ _ _ _)).trans (grown_set _ _ _ _)⟩

theorem rdW_le (s : List UInt8) (n : Nat) : (rdW s n).2 ≤ s.length := by unfold rdW; split <;> simp_all

set_option maxHeartbeats 400000 in
theorem number_whole_ {base g : Nat} {v : Value} {l : List UInt8} {p : Nat} (S : Int) (s : Nat) (hS : S = (s : Int)) (hS1 : S = 1 ∨ 1 < S) (w : World) (h : Rd w base g v l p false) (hs1 : 1 ≤ s) (hs8 : s ≤ 8) :
    Calls Try.prog 77 #[.pointer (some ⟨g, 0, none⟩), .int .i64 S] w fun e w' => e = .returned (.int .u64 (rdW (l.drop p) s).1) ∧
      Rd w' base g v l (p + (rdW (l.drop p) s).2) ((rdW (l.drop p) s).2 == 0) ∧ w.grownBy w' (some g) := by
  have h2 := h.c2
  have hk := rdW_le (l.drop p) s
  rw [List.length_drop] at hk
  have hle := h.le
  have hsm := h.small
  have hcall := fun (W : World) (hR : Rd W base g v l p false) => lookWhole_any s W hR hs1 hs8
  rw [← hS] at hcall
  generalize rdW (l.drop p) s = r at *
  obtain ⟨n, k⟩ := r
  simp only at hcall hk ⊢
  have HCALL := Lib.hid hcall
  have H := Lib.hid h
  clear h hcall
  clear hS
  rcases hS1 with rfl | hS1
  · by_cases hk0 : k = 0
    · subst hk0
      go_enter Try.func77, Try.ntmps77
      go_wp2_with (first | (go_at_call 66; refine (bad_at g false _ h2).mono ?_; rintro e w1 ⟨rfl, rfl⟩) | (go_at_call 92; refine (HCALL.out _ (H.out.alloc _)).mono ?_; rintro e W1 ⟨rfl, k1, hW1⟩; have hR : Rd W1 base g v l p false := (by rw [hW1]; exact (H.out.alloc _).drewN k1); have hG : w.grownBy W1 (some g) := (by rw [hW1]; exact grown_drewN (World.grownBy_alloc w _ _) k1); clear hW1; have c1 := hR.c1; have c2 := hR.c2; have f1 := hR.row.frozen 1; have f2 := hR.row.frozen 2; have HR := Lib.hid hR; have HG := Lib.hid hG; clear hR hG))
      go_ret
      exact ⟨rfl, HR.out.moved hle, (HG.out.trans (grown_set _ _ _ _)).trans (grown_set _ _ _ _)⟩
    · have hb : ((k : Int) == 0) = false := by rw [beq_eq_false_iff_ne]; omega
      have hb2 : (k == 0) = false := by rw [beq_eq_false_iff_ne]; omega
      have HB := Lib.hid hb2
      clear hb2
      go_enter Try.func77, Try.ntmps77
      go_wp2_with (first | (go_at_call 66; refine (bad_at g false _ h2).mono ?_; rintro e w1 ⟨rfl, rfl⟩) | (go_at_call 92; refine (HCALL.out _ (H.out.alloc _)).mono ?_; rintro e W1 ⟨rfl, k1, hW1⟩; have hR : Rd W1 base g v l p false := (by rw [hW1]; exact (H.out.alloc _).drewN k1); have hG : w.grownBy W1 (some g) := (by rw [hW1]; exact grown_drewN (World.grownBy_alloc w _ _) k1); clear hW1; have c1 := hR.c1; have c2 := hR.c2; have f1 := hR.row.frozen 1; have f2 := hR.row.frozen 2; have HR := Lib.hid hR; have HG := Lib.hid hG; clear hR hG))
      go_ret
      exact ⟨rfl, by rw [HB.out]; exact HR.out.moved (q := p + k) (by omega), (HG.out.trans (grown_set _ _ _ _)).trans (grown_set _ _ _ _)⟩
  · by_cases hk0 : k = 0
    · subst hk0
      go_enter Try.func77, Try.ntmps77
      go_wp2_with (first | (go_at_call 66; refine (bad_at g false _ h2).mono ?_; rintro e w1 ⟨rfl, rfl⟩) | (go_at_call 92; refine (HCALL.out _ (H.out.alloc _)).mono ?_; rintro e W1 ⟨rfl, k1, hW1⟩; have hR : Rd W1 base g v l p false := (by rw [hW1]; exact (H.out.alloc _).drewN k1); have hG : w.grownBy W1 (some g) := (by rw [hW1]; exact grown_drewN (World.grownBy_alloc w _ _) k1); clear hW1; have c1 := hR.c1; have c2 := hR.c2; have f1 := hR.row.frozen 1; have f2 := hR.row.frozen 2; have HR := Lib.hid hR; have HG := Lib.hid hG; clear hR hG))
      go_ret
      exact ⟨rfl, HR.out.moved hle, (HG.out.trans (grown_set _ _ _ _)).trans (grown_set _ _ _ _)⟩
    · have hb : ((k : Int) == 0) = false := by rw [beq_eq_false_iff_ne]; omega
      have hb2 : (k == 0) = false := by rw [beq_eq_false_iff_ne]; omega
      have HB := Lib.hid hb2
      clear hb2
      go_enter Try.func77, Try.ntmps77
      go_wp2_with (first | (go_at_call 66; refine (bad_at g false _ h2).mono ?_; rintro e w1 ⟨rfl, rfl⟩) | (go_at_call 92; refine (HCALL.out _ (H.out.alloc _)).mono ?_; rintro e W1 ⟨rfl, k1, hW1⟩; have hR : Rd W1 base g v l p false := (by rw [hW1]; exact (H.out.alloc _).drewN k1); have hG : w.grownBy W1 (some g) := (by rw [hW1]; exact grown_drewN (World.grownBy_alloc w _ _) k1); clear hW1; have c1 := hR.c1; have c2 := hR.c2; have f1 := hR.row.frozen 1; have f2 := hR.row.frozen 2; have HR := Lib.hid hR; have HG := Lib.hid hG; clear hR hG))
      go_ret
      exact ⟨rfl, by rw [HB.out]; exact HR.out.moved (q := p + k) (by omega), (HG.out.trans (grown_set _ _ _ _)).trans (grown_set _ _ _ _)⟩

theorem number_whole {base g : Nat} {v : Value} {l : List UInt8} {p : Nat} (s : Nat) (w : World) (h : Rd w base g v l p false) (hs1 : 1 ≤ s) (hs8 : s ≤ 8) :
    Calls Try.prog 77 #[.pointer (some ⟨g, 0, none⟩), .int .i64 s] w fun e w' => e = .returned (.int .u64 (rdW (l.drop p) s).1) ∧
      Rd w' base g v l (p + (rdW (l.drop p) s).2) ((rdW (l.drop p) s).2 == 0) ∧ w.grownBy w' (some g) :=
  number_whole_ _ s rfl (by omega) w h hs1 hs8

/-- What a reader at p of l answers where it is asked for a number: the number, the place and whether it is bad behind it. -/
def rd (l : List UInt8) (p : Nat) (x : Bool) (size : Nat) : Nat × Nat × Bool :=
  if x then (0, p, true) else
    let r := if size = 0 then rdS (l.drop p) else rdW (l.drop p) size
    (r.1, p + r.2, r.2 == 0)

theorem number_any {base g : Nat} {v : Value} {l : List UInt8} {p : Nat} {x : Bool} (s : Nat) (w : World) (h : Rd w base g v l p x) (hs8 : s ≤ 8) :
    Calls Try.prog 77 #[.pointer (some ⟨g, 0, none⟩), .int .i64 s] w fun e w' => e = .returned (.int .u64 (rd l p x s).1) ∧
      Rd w' base g v l (rd l p x s).2.1 (rd l p x s).2.2 ∧ w.grownBy w' (some g) := by
  cases x with
  | true =>
    refine (number_bad s w h).mono ?_
    rintro e w' ⟨rfl, rfl⟩
    exact ⟨rfl, h, World.grownBy.refl _ _⟩
  | false =>
    by_cases h0 : s = 0
    · subst h0
      exact number_short w h
    · have := number_whole s w h (by omega) hs8
      unfold rd
      rw [if_neg (by simp)]
      simp only [if_neg h0]
      exact this
end Go.Proofs.Ytjojhoaienjjeaa
/- Walks: the readers of numbers, of bytes, of what is left. -/
namespace Go.Proofs.Ytjojhoaienjjeaa
open Go.RowKit
set_option linter.unusedVariables false

theorem rd_lt (l : List UInt8) (p : Nat) (x : Bool) (s : Nat) (hs : 1 ≤ s) : (rd l p x s).1 < 2 ^ (8 * s) := by
  have hp : 0 < 2 ^ (8 * s) := Nat.two_pow_pos _
  unfold rd
  cases x with
  | true => simpa using hp
  | false =>
    rw [if_neg (by simp)]
    simp only [if_neg (show s ≠ 0 by omega)]
    unfold rdW
    split
    · exact hp
    · rename_i h
      have h1 := leVal_lt ((l.drop p).take s)
      have h2 : ((l.drop p).take s).length = s := by simp at h ⊢; omega
      rw [h2] at h1
      exact h1
theorem number_at {base g : Nat} {v : Value} {l : List UInt8} {p : Nat} {x : Bool} (S : Int) (s : Nat) (hS : S = (s : Int)) (w : World) (h : Rd w base g v l p x) (hs8 : s ≤ 8) :
    Calls Try.prog 77 #[.pointer (some ⟨g, 0, none⟩), .int .i64 S] w fun e w' => e = .returned (.int .u64 (rd l p x s).1) ∧
      Rd w' base g v l (rd l p x s).2.1 (rd l p x s).2.2 ∧ w.grownBy w' (some g) := by
  subst hS
  exact number_any s w h hs8

set_option maxHeartbeats 400000 in
theorem U8_any {base g : Nat} {v : Value} {l : List UInt8} {p : Nat} {x : Bool} (w : World) (h : Rd w base g v l p x) :
    Calls Try.prog 65 #[.pointer (some ⟨g, 0, none⟩)] w fun e w' => e = .returned (.int .u8 (rd l p x 1).1) ∧ Rd w' base g v l (rd l p x 1).2.1 (rd l p x 1).2.2 ∧ w.grownBy w' (some g) := by
  have hlt := rd_lt l p x 1 (by omega)
  have hc := number_at 1 1 rfl w h (by omega)
  generalize rd l p x 1 = r at *
  obtain ⟨n, q, y⟩ := r
  simp only at hc hlt ⊢
  have HC := Lib.hid hc
  have n1 : (n : Int) < 256 := by omega
  clear hc h hlt
  go_enter Try.func65, Try.ntmps65
  go_wp2_with (go_at_call 77; refine HC.out.mono ?_; rintro e w1 ⟨rfl, hr, hg⟩)
  go_ret
  exact ⟨rfl, hr, hg⟩
set_option maxHeartbeats 400000 in
theorem U8_nil (w : World) : Calls Try.prog 65 #[.pointer none] w fun e w' => e = .returned (.int .u8 0) ∧ w = w' := by
  go_enter Try.func65, Try.ntmps65
  go_wp2_with (go_at_call 77; refine (number_nil _ _).mono ?_; rintro e w1 ⟨rfl, rfl⟩)
  go_ret
  exact ⟨rfl, rfl⟩

set_option maxHeartbeats 400000 in
theorem U32_any {base g : Nat} {v : Value} {l : List UInt8} {p : Nat} {x : Bool} (w : World) (h : Rd w base g v l p x) :
    Calls Try.prog 67 #[.pointer (some ⟨g, 0, none⟩)] w fun e w' => e = .returned (.int .u32 (rd l p x 4).1) ∧ Rd w' base g v l (rd l p x 4).2.1 (rd l p x 4).2.2 ∧ w.grownBy w' (some g) := by
  have hlt := rd_lt l p x 4 (by omega)
  have hc := number_at 4 4 rfl w h (by omega)
  generalize rd l p x 4 = r at *
  obtain ⟨n, q, y⟩ := r
  simp only at hc hlt ⊢
  have HC := Lib.hid hc
  have n1 : (n : Int) < 4294967296 := by omega
  clear hc h hlt
  go_enter Try.func67, Try.ntmps67
  go_wp2_with (go_at_call 77; refine HC.out.mono ?_; rintro e w1 ⟨rfl, hr, hg⟩)
  go_ret
  exact ⟨rfl, hr, hg⟩
set_option maxHeartbeats 400000 in
theorem U32_nil (w : World) : Calls Try.prog 67 #[.pointer none] w fun e w' => e = .returned (.int .u32 0) ∧ w = w' := by
  go_enter Try.func67, Try.ntmps67
  go_wp2_with (go_at_call 77; refine (number_nil _ _).mono ?_; rintro e w1 ⟨rfl, rfl⟩)
  go_ret
  exact ⟨rfl, rfl⟩

set_option maxHeartbeats 400000 in
theorem U64_any {base g : Nat} {v : Value} {l : List UInt8} {p : Nat} {x : Bool} (w : World) (h : Rd w base g v l p x) :
    Calls Try.prog 94 #[.pointer (some ⟨g, 0, none⟩)] w fun e w' => e = .returned (.int .u64 (rd l p x 8).1) ∧ Rd w' base g v l (rd l p x 8).2.1 (rd l p x 8).2.2 ∧ w.grownBy w' (some g) := by
  have hc := number_at 8 8 rfl w h (by omega)
  generalize rd l p x 8 = r at *
  obtain ⟨n, q, y⟩ := r
  simp only at hc ⊢
  have HC := Lib.hid hc
  clear hc h
  go_enter Try.func94, Try.ntmps94
  go_wp2_with (go_at_call 77; refine HC.out.mono ?_; rintro e w1 ⟨rfl, hr, hg⟩)
  go_ret
  exact ⟨rfl, hr, hg⟩
set_option maxHeartbeats 400000 in
theorem U64_nil (w : World) : Calls Try.prog 94 #[.pointer none] w fun e w' => e = .returned (.int .u64 0) ∧ w = w' := by
  go_enter Try.func94, Try.ntmps94
  go_wp2_with (go_at_call 77; refine (number_nil _ _).mono ?_; rintro e w1 ⟨rfl, rfl⟩)
  go_ret
  exact ⟨rfl, rfl⟩

set_option maxHeartbeats 400000 in
theorem Uint_any {base g : Nat} {v : Value} {l : List UInt8} {p : Nat} {x : Bool} (w : World) (h : Rd w base g v l p x) :
    Calls Try.prog 96 #[.pointer (some ⟨g, 0, none⟩)] w fun e w' => e = .returned (.int .u64 (rd l p x 0).1) ∧ Rd w' base g v l (rd l p x 0).2.1 (rd l p x 0).2.2 ∧ w.grownBy w' (some g) := by
  have hc := number_at 0 0 rfl w h (by omega)
  generalize rd l p x 0 = r at *
  obtain ⟨n, q, y⟩ := r
  simp only at hc ⊢
  have HC := Lib.hid hc
  clear hc h
  go_enter Try.func96, Try.ntmps96
  go_wp2_with (go_at_call 77; refine HC.out.mono ?_; rintro e w1 ⟨rfl, hr, hg⟩)
  go_ret
  exact ⟨rfl, hr, hg⟩
set_option maxHeartbeats 400000 in
theorem Uint_nil (w : World) : Calls Try.prog 96 #[.pointer none] w fun e w' => e = .returned (.int .u64 0) ∧ w = w' := by
  go_enter Try.func96, Try.ntmps96
  go_wp2_with (go_at_call 77; refine (number_nil _ _).mono ?_; rintro e w1 ⟨rfl, rfl⟩)
  go_ret
  exact ⟨rfl, rfl⟩

theorem Bad_any {base g : Nat} {v : Value} {l : List UInt8} {p : Nat} {x : Bool} (w : World) (h : Rd w base g v l p x) :
    Calls Try.prog 66 #[.pointer (some ⟨g, 0, none⟩)] w fun e w' => e = .returned (.bool x) ∧ w = w' := bad_at g x w h.c2
theorem At_any {base g : Nat} {v : Value} {l : List UInt8} {p : Nat} {x : Bool} (w : World) (h : Rd w base g v l p x) :
    Calls Try.prog 68 #[.pointer (some ⟨g, 0, none⟩)] w fun e w' => e = .returned (.int .i64 p) ∧ w = w' := at_good g p w h.c1
/-- How many bytes are left. -/
def lf (l : List UInt8) (p : Nat) (x : Bool) : Nat := if x then 0 else l.length - p
theorem Left_any {base g : Nat} {v : Value} {l : List UInt8} {p : Nat} {x : Bool} (w : World) (h : Rd w base g v l p x) :
    Calls Try.prog 49 #[.pointer (some ⟨g, 0, none⟩)] w fun e w' => e = .returned (.int .i64 (lf l p x)) ∧ ∃ k, w' = w.drewN k := by
  cases x with
  | true =>
    refine (left_bad g w h.c2).mono ?_
    rintro e w' ⟨rfl, rfl⟩
    exact ⟨rfl, 0, rfl⟩
  | false =>
    have hle := h.le
    have hsm := h.small
    obtain ⟨A, c, rfl, -⟩ := h.own.sl
    exact left_good g A _ c p w h.c0 h.c1 h.c2 hle (by omega)
set_option maxHeartbeats 400000 in
theorem Left_nil (w : World) : Calls Try.prog 49 #[.pointer none] w fun e w' => e = .returned (.int .i64 0) ∧ w = w' := by
  go_enter Try.func49, Try.ntmps49
  go_wp2_with (go_at_call 66; refine (bad_nil _).mono ?_; rintro e w1 ⟨rfl, rfl⟩)
  go_ret
  exact ⟨rfl, rfl⟩
set_option maxHeartbeats 400000 in
theorem At_nil (w : World) : Calls Try.prog 68 #[.pointer none] w fun e w' => e = .returned (.int .i64 0) ∧ w = w' := by
  go_enter Try.func68, Try.ntmps68
  go_wp2
  go_ret
  exact ⟨rfl, rfl⟩
set_option maxHeartbeats 400000 in
theorem Bytes_nil (n : Int) (w : World) : Calls Try.prog 97 #[.pointer none, .int .i64 n] w fun e w' => e = .returned (.slice none 0 0) ∧ w = w' := by
  go_enter Try.func97, Try.ntmps97
  go_wp2_with (go_at_call 66; refine (bad_nil _).mono ?_; rintro e w1 ⟨rfl, rfl⟩)
  go_ret
  exact ⟨rfl, rfl⟩
end Go.Proofs.Ytjojhoaienjjeaa
/- Walks: the document's short numbers and whole numbers are written. -/
namespace Go.Proofs.Ytjojhoaienjjeaa
open Go.RowKit
set_option linter.unusedVariables false

set_option maxHeartbeats 400000 in
theorem refShort_any (x : Int) (w : World) (h0 : 0 ≤ x) (h1 : x ≤ 18446744073709551615) :
    Calls Try.prog 73 #[.int .u64 x] w fun e w' => ∃ v', e = .returned v' ∧ Ow w' w.heap.size v' (short x.toNat) ∧ Below w.heap.size w w' := by
  have hsl := short_length_le x.toNat (by omega)
  go_enter Try.func73, Try.ntmps73
  go_wp2
  go_loopw [0, 3] (fun n u wr => ∃ (D : Int) (p : List UInt8), 0 ≤ D ∧ D ≤ 18446744073709551615 ∧ short x.toNat = p ++ short D.toNat ∧ n = .int .u64 D ∧ Ow wr w.heap.size u p ∧ Below w.heap.size w wr) (fun n _ _ => (intOf n).toNat)
  case atStart => exact ⟨x, [], h0, h1, rfl, rfl, Ow.nil_ _ _, Below.refl _ _⟩
  case round =>
    obtain ⟨D, p, d0, d1, hp, rfl, ok, bk⟩ := hrel
    have hpl : p.length ≤ 10 := by have := congrArg List.length hp; simp at this; omega
    have HP := Lib.hid hp
    clear hp
    by_cases hlt : 128 ≤ D
    · go_wp2_with (at_builtin; refine wpList_app1 _ rfl _ _ _ rfl w.heap.size Try.underlying52 info8 u3 p rfl ok _ (UInt8.ofNat (D.toNat % 128 + 128)) (by rw [u8_mod]; omega) rfl (by omega) bk.size ?_; intro v2 w2 o2 g2 _)
      have b2 : Below w.heap.size w w2 := bk.grown g2 bk.size (fun j hj => (ok.lt j hj).1)
      go_roundw
      case rel => exact ⟨D / 128, p ++ [UInt8.ofNat (D.toNat % 128 + 128)], by omega, by omega, by rw [HP.out, short_ge (by omega), show (D / 128).toNat = D.toNat / 128 from by omega]; simp, rfl, o2, b2⟩
      case measure => simp [intOf]; omega
    · go_wp2_with (at_builtin; refine wpList_app1 _ rfl _ _ _ rfl w.heap.size Try.underlying52 info8 u3 p rfl ok _ (UInt8.ofNat D.toNat) (by rw [u8_mod]; omega) rfl (by omega) bk.size ?_; intro v2 w2 o2 g2 _)
      have b2 : Below w.heap.size w w2 := bk.grown g2 bk.size (fun j hj => (ok.lt j hj).1)
      go_ret
      exact ⟨v2, rfl, by rw [HP.out, short_lt (by omega)]; exact o2, b2⟩

theorem sl_take {w : World} {lo hi : Nat} {A : Option Addr} {n c p : Nat} {l : List UInt8} (h : Sl w lo hi (.slice A n c) l) (hp : p ≤ l.length) : Sl w lo hi (.slice A p c) (l.take p) := by
  obtain ⟨A', c', e, h0, h1, h2, hb⟩ := h
  injection e with e1 e2 e3
  subst e1 e2 e3
  have hl : (l.take p).length = p := by simp; omega
  refine ⟨A, c, by rw [hl], h0, by omega, h2, fun hne => ?_⟩
  obtain ⟨b, off, rfl, g1, g2, hc⟩ := hb (by rintro rfl; simp at hne)
  refine ⟨b, off, rfl, g1, g2, fun j x hx => hc j x ?_⟩
  rw [List.getElem?_take] at hx
  split at hx
  · exact hx
  · cases hx
theorem str_sl {w : World} {lo hi : Nat} {A : Option Addr} {n c : Nat} {l : List UInt8} (h : Sl w lo hi (.slice A n c) l) : (convert 52 9 (.slice A n c)).run Try.prog w = .ok (.string ⟨l.toArray⟩) w :=
  run_str w 52 9 5 Try.underlying52 Try.underlying5 Try.underlying9 h
end Go.Proofs.Ytjojhoaienjjeaa
namespace Go.Proofs.Ytjojhoaienjjeaa
open Go.RowKit
set_option linter.unusedVariables false

/-- append of a string onto a slice of bytes of the call's own, at one operation. -/
theorem wp_appS {P : Program} (w : World) {o : Oper} {a : Act} {K : Act → World → Prop} {Q : Exit → Act → World → Prop} (sl x : Operand) (t u : TypeId)
    (ho : o.op = .call { callee := .builtin .append, args := #[sl, x], argTypes := #[t, u] }) (base : Nat) (ht : P.underlying t = some (.slice e8.E))
    (hinf : (P.info? e8.E).map (fun i => (i.zero, i.size, i.bytes)) = some (some (e8.val e8.zero), 1, e8.bytes)) (hu : P.underlying u = some .string)
    (v : Value) (l : List UInt8) (hs : a.eval sl = v) (hown : Ow w base v l) (s : ByteArray) (hx : a.eval x = .string s)
    (hb : l.length + s.size ≤ 1000000000) (hbase : base ≤ w.heap.size)
    (h : ∀ v' w', Ow w' base v' (l ++ bls s) → w.grownBy w' v.ownBlock → K (a.put o.dst v') w') : o.wp P a w K Q := by
  obtain ⟨i, hi, hz, hsz, hby⟩ := info_parts hinf
  obtain ⟨v', w', hr, h2, h3, h4⟩ := Lib.run_append_own_string (P := P) w base t u o.type e8.E i ht hu hi hz hsz hby v l.length (l.map e8.val) hown s (by unfold maxLen; omega) (by omega) hbase
  unfold Oper.wp execOp
  simp only [ho, resolve, invoke, builtin, Sem.run_bind, Sem.run_pure, Result.andThen_ok, List.map_toArray, List.map_cons, List.map_nil, hs, hx, hr]
  refine h v' w' ?_ h3
  have e1 : Lib.strCells s = (bls s).map e8.val := rfl
  have e2 : l.length + s.size = (l ++ bls s).length := by rw [List.length_append, bls_len]
  show World.ownsRow _ _ _ _ _ (l ++ bls s).length ((l ++ bls s).map e8.val)
  rw [e1, ← List.map_append, e2] at h2
  exact h2

/-- '[]byte(s)', at one operation: a new block with the string's bytes. -/
theorem wp_conv {P : Program} (w : World) {o : Oper} {a : Act} {K : Act → World → Prop} {Q : Exit → Act → World → Prop} {src dst : TypeId} (x : Operand) (ho : o.op = .convert src dst x) (s : ByteArray) (hx : a.eval x = .string s)
    (hl : s.size ≤ 1000000000) (hs : P.underlying src = some .string) (hd : P.underlying dst = some (.slice e8.E)) (he : P.underlying e8.E = some (.int .u8))
    (h : ∀ c w', Below w.heap.size w w' → Gs e8 w' w.heap.size w'.heap.size (.slice (some ⟨w.heap.size, 0, none⟩) s.size c) (bls s) → K (a.put o.dst (.slice (some ⟨w.heap.size, 0, none⟩) s.size c)) w') : o.wp P a w K Q := by
  have hr := run_bytes_of_string (P := P) w src dst e8.E s hs hd he
  unfold Oper.wp execOp
  simp only [ho, hx, Sem.run_bind, hr, Result.andThen_ok, Sem.run_pure]
  refine h _ _ ?_ ?_
  · exact (Below.refl _ _).drew.alloc (Nat.le_refl _) _
  · have hge := grownCap_ge w s.size 0 e8.E
    have hle := grownCap_le_maxLen w s.size 0 e8.E (by unfold maxLen; omega)
    refine ⟨some ⟨w.heap.size, 0, none⟩, _, (by rw [bls_len]), fun e => (by cases e), (by rw [bls_len]; exact hge), hle, fun _ => ⟨w.heap.size, 0, rfl, Nat.le_refl _, (by simp), fun j y hy => ?_⟩⟩
    have hj : j < s.size := by rw [← bls_len]; exact (List.getElem?_eq_some_iff.1 hy).1
    have hn : (w.drew.alloc (.cells (bytesRow s (grownCap w s.size 0 e8.E)) e8.E ((bytesRow s (grownCap w s.size 0 e8.E)).size, (bytesRow s (grownCap w s.size 0 e8.E)).size + 1))).heap[w.heap.size]? = some (.cells (bytesRow s (grownCap w s.size 0 e8.E)) e8.E ((bytesRow s (grownCap w s.size 0 e8.E)).size, (bytesRow s (grownCap w s.size 0 e8.E)).size + 1)) := heap_alloc_new w.drew _
    rw [Nat.zero_add, cell_of_row _ _ _ _ _ _ hn]
    unfold bytesRow
    rw [Array.getElem?_append_left (by rw [Array.size_map]; exact hj), Array.getElem?_map]
    rw [show s.data[j]? = some y from by rw [← hy]; simp [bls]]
    rfl

/-- The block in which a value lies; older blocks are as they were. -/
structure Bx1 (w W : World) (k n : Int) (s : ByteArray) : Prop where
  below : Below w.heap.size w W
  r1 : Row W w.heap.size 38 #[.int .u8 k, .int .i64 n, .string s]
section
variable {w W W' : World} {k n : Int} {s : ByteArray}
theorem Bx1.new (w : World) (k n : Int) (s : ByteArray) : Bx1 w (w.alloc (.cells #[.int .u8 k, .int .i64 n, .string s] 38)) k n s := ⟨(Below.refl _ _).alloc (Nat.le_refl _) _, Row.new _ _ _⟩
theorem Bx1.a0 (h : Bx1 w W k n s) : W.cell? ⟨w.heap.size, 0, none⟩ = some (.int .u8 k) := by rw [h.r1.cell]; rfl
theorem Bx1.a1 (h : Bx1 w W k n s) : W.cell? ⟨w.heap.size, 1, none⟩ = some (.int .i64 n) := by rw [h.r1.cell]; rfl
theorem Bx1.a2 (h : Bx1 w W k n s) : W.cell? ⟨w.heap.size, 2, none⟩ = some (.string s) := by rw [h.r1.cell]; rfl
theorem Bx1.lt (h : Bx1 w W k n s) : w.heap.size < W.heap.size := h.r1.lt
theorem Bx1.alloc (h : Bx1 w W k n s) (o : Obj) : Bx1 w (W.alloc o) k n s := ⟨h.below.alloc (by have := h.lt; omega) _, h.r1.alloc _⟩
theorem Bx1.step (h : Bx1 w W k n s) (b : Below W.heap.size W W') : Bx1 w W' k n s := ⟨h.below.trans (b.mono (by have := h.lt; omega)), h.r1.below b h.r1.lt⟩
theorem Bx1.drew (h : Bx1 w W k n s) : Bx1 w W.drew k n s := ⟨h.below.drew, h.r1⟩
theorem Bx1.grown {row : Option Nat} (h : Bx1 w W k n s) (hg : W.grownBy W' row) (hr : ∀ x, row = some x → w.heap.size < x) : Bx1 w W' k n s :=
  ⟨h.below.grown hg (by have := h.lt; omega) (fun x hx => by have := hr x hx; omega), h.r1.grown hg (fun e => by have := hr _ e; omega)⟩
end

/-- The bytes of a value. -/
def byV (k : Int) (n : Nat) (s : List UInt8) : List UInt8 := if k = 1 then le 8 n else if k = 2 then short s.length ++ s else []
theorem bytes_one (n : Nat) (s : List UInt8) : byV 1 n s = le 8 n := rfl
theorem bytes_two (n : Nat) (s : List UInt8) : byV 2 n s = short s.length ++ s := rfl
theorem bytes_none {k : Int} (h1 : k ≠ 1) (h2 : k ≠ 2) (n : Nat) (s : List UInt8) : byV k n s = [] := by unfold byV; rw [if_neg h1, if_neg h2]
/-- A whole number as a natural one. -/
def u64 (n : Int) : Nat := (n % 18446744073709551616).toNat
theorem u64_wrap (n : Int) : IntKind.u64.wrap n = (u64 n : Int) := by unfold u64; rw [IntKind.wrap_u64]; omega
theorem u64_lt (n : Int) : u64 n < 18446744073709551616 := by unfold u64; omega

set_option maxHeartbeats 400000 in
theorem little_any (N : Nat) (m : Int) (w : World) (hm : 0 ≤ m) (hm2 : m ≤ 8) (hN : N < 18446744073709551616) :
    Calls Try.prog 54 #[.int .u64 N, .int .i64 m] w fun e w' => ∃ v', e = .returned v' ∧ Gw e8 w' w.heap.size v' (le m.toNat N) ∧ Below w.heap.size w w' := by
  obtain ⟨m, rfl⟩ := Int.eq_ofNat_of_zero_le hm
  have HN := Lib.hid hN
  clear hN
  go_enter Try.func54, Try.ntmps54
  go_wp2
  go_loopw [0, 5, 6] (fun n u i wr => ∃ k D : Nat, k ≤ m ∧ D = N / 256 ^ k ∧ i = .int .i64 k ∧ n = .int .u64 D ∧ Gw e8 wr w.heap.size u (le k N) ∧ Below w.heap.size w wr) (fun _ _ i _ => m - (intOf i).toNat)
  case atStart => exact ⟨0, N, by omega, by simp, rfl, rfl, Gw.nil_ _ _, Below.refl _ _⟩
  case round =>
    obtain ⟨k, D, hk, hD, rfl, rfl, ok, bk⟩ := hrel
    have h2 : D ≤ N := by rw [hD]; exact Nat.div_le_self _ _
    have dB : (D : Int) ≤ 18446744073709551615 := by have h1 := HN.out; omega
    clear h2
    have HD := Lib.hid hD
    clear hD
    by_cases hlt : k < m
    · go_wp2_with (at_builtin; refine wpList_gapp1 e8 _ rfl _ _ _ rfl w.heap.size sli8 inf8 u5 (le k N) rfl ok _ (UInt8.ofNat D) (congrArg (Value.int IntKind.u8) (u8_mod D).symm) rfl (by simp [le_length]; omega) bk.size ?_; intro v2 w2 o2 g2 _)
      have b2 : Below w.heap.size w w2 := bk.grown g2 bk.size (fun j hj => (ok.lt j hj).1)
      go_roundw
      case rel => exact ⟨k + 1, D / 256, by omega, by rw [HD.out, div_pow_succ], by go_num, by go_num, by rw [le_snoc, ← HD.out]; exact o2, b2⟩
      case measure => simp [intOf]; omega
    · obtain rfl : k = m := by omega
      go_wp2
      go_ret
      exact ⟨u5, rfl, by simpa using ok, bk⟩


set_option maxHeartbeats 400000 in
set_option maxRecDepth 100000 in
theorem append_any (v : Value) (l : List UInt8) (lo : Nat) (k n : Int) (s : ByteArray) (w : World) (hv : Sl w lo w.heap.size v l) (hl : l.length ≤ 1000000) (hs : s.size ≤ 1000000) :
    Calls Try.prog 41 #[v, vV k n s] w fun e w' => ∃ v', e = .returned v' ∧ Ow w' w.heap.size v' (l ++ byV k (u64 n) (bls s)) ∧ Below w.heap.size w w' := by
  have HV := Lib.hid hv
  by_cases h1 : k = 1
  · subst h1
    have hw := u64_wrap n
    have hlt := u64_lt n
    rw [bytes_one]
    generalize u64 n = N at *
    have HL := Lib.hid hlt
    clear hlt hv
    go_enter Try.func41, Try.ntmps41
    go_wp2_with (go_at_call 59; refine (appendU64_any v l lo N _ (HV.out.alloc (Nat.le_refl _) _ |>.more (Nat.le_refl _) (by simp)) HL.out hl).mono ?_; rintro e w1 ⟨v1, rfl, o1, b1⟩)
    go_ret
    exact ⟨v1, rfl, o1.more (by simp), ((Bx1.new w 1 n s).step b1).below⟩
  · by_cases h2 : k = 2
    · subst h2
      rw [bytes_two]
      clear hv
      obtain ⟨k, hk⟩ : ∃ k : Int, k = 2 := ⟨_, rfl⟩
      rw [← hk]
      have hk1 : (k == 1) = false := by rw [hk]; rfl
      have hk2 : (k == 2) = true := by rw [hk]; rfl
      have HK := Lib.hid hk
      clear hk
      have hw : IntKind.u64.wrap (s.size : Int) = (s.size : Int) := by rw [IntKind.wrap_u64]; omega
      go_enter Try.func41, Try.ntmps41
      go_wp2_with fail
      have hSc := (Bx1.new w k n s).drew
      refine wp_region_all (S := fun W => Bx1 w W k n s) (by kernel_rfl) hSc (fun W0 hSc => ?_)
      refine held_take 0 ?_ rfl (by kernel_rfl) (by kernel_rfl) (by kernel_rfl) (fun _ _ _ h => h) (by rfl) ?_ hSc ?_
      rotate_left
      · (intro W hSW; have a0 := hSW.a0; have a1 := hSW.a1; have a2 := hSW.a2; go_simp; try rfl)
      try simp only [Act.put, List.setIfInBounds_toArray, List.set_cons_zero, List.set_cons_succ]
      refine held_take 1 ?_ rfl (by kernel_rfl) (by kernel_rfl) (by kernel_rfl) (fun _ _ _ h => h) (by rfl) ?_ hSc ?_
      rotate_left
      · (intro W hSW; have a0 := hSW.a0; have a1 := hSW.a1; have a2 := hSW.a2; go_simp; try rfl)
      try simp only [Act.put, List.setIfInBounds_toArray, List.set_cons_zero, List.set_cons_succ]
      refine held_take 2 ?_ rfl (by kernel_rfl) (by kernel_rfl) (by kernel_rfl) (fun _ _ _ h => h) (by rfl) ?_ hSc ?_
      rotate_left
      · (intro W hSW; have a0 := hSW.a0; have a1 := hSW.a1; have a2 := hSW.a2; go_simp; try rfl)
      try simp only [Act.put, List.setIfInBounds_toArray, List.set_cons_zero, List.set_cons_succ]
      refine held_take 3 ?_ rfl (by kernel_rfl) (by kernel_rfl) (by kernel_rfl) (fun _ _ _ h => h) (by rfl) ?_ hSc ?_
      rotate_left
      · (intro W hSW; have a0 := hSW.a0; have a1 := hSW.a1; have a2 := hSW.a2; go_simp; try rfl)
      try simp only [Act.put, List.setIfInBounds_toArray, List.set_cons_zero, List.set_cons_succ]
      refine held_take 4 ?_ rfl (by kernel_rfl) (by kernel_rfl) (by kernel_rfl) (fun _ _ _ h => h) (by rfl) ?_ hSc ?_
      rotate_left
      · (intro W hSW; have a0 := hSW.a0; have a1 := hSW.a1; have a2 := hSW.a2; go_simp; try rfl)
      try simp only [Act.put, List.setIfInBounds_toArray, List.set_cons_zero, List.set_cons_succ]
      refine held_take 6 ?_ rfl (by kernel_rfl) (by kernel_rfl) (by kernel_rfl) (fun _ _ _ h => h) (by rfl) ?_ hSc ?_
      rotate_left
      · (intro W hSW; have a0 := hSW.a0; have a1 := hSW.a1; have a2 := hSW.a2; go_simp; try rfl)
      try simp only [Act.put, List.setIfInBounds_toArray, List.set_cons_zero, List.set_cons_succ]
      refine held_take 7 ?_ rfl (by kernel_rfl) (by kernel_rfl) (by kernel_rfl) (fun _ _ _ h => h) (by rfl) ?_ hSc ?_
      rotate_left
      · (intro W hSW; have a0 := hSW.a0; have a1 := hSW.a1; have a2 := hSW.a2; go_simp; try rfl)
      try simp only [Act.put, List.setIfInBounds_toArray, List.set_cons_zero, List.set_cons_succ]
      refine held_next 5 rfl (by kernel_rfl) (by rfl) ?_
      go_simp
      refine (appendUint_any v l lo (s.size : Int) _ ((HV.out.below hSc.below).more (Nat.le_refl _) hSc.below.size) (by omega) (by omega) (by omega)).mono ?_
      rintro e w1 ⟨v1, rfl, o1, b1⟩
      rw [Int.toNat_natCast] at o1
      have hSd : (fun W => Bx1 w W k n s) w1 := hSc.step b1
      refine ⟨fun W => Bx1 w W k n s, fun W hW => hW, hSd, ?_⟩
      try simp only [Act.put, List.setIfInBounds_toArray, List.set_cons_zero, List.set_cons_succ]
      refine held_next 8 rfl (by kernel_rfl) (by rfl) ?_
      refine wp_appS _ _ _ _ _ rfl w.heap.size sli8 inf8 rfl v1 (l ++ short s.size) rfl (o1.more hSc.below.size) s rfl (by have := short_length_le s.size (by omega); simp; omega) hSd.below.size ?_
      intro v2 w2 o2 g2
      have hSe : (fun W => Bx1 w W k n s) w2 := hSd.grown g2 (fun x hx => by have := (o1.lt x hx).1; have := hSc.lt; omega)
      refine ⟨fun W => Bx1 w W k n s, fun W hW => hW, hSe, ?_⟩
      try simp only [Act.put, List.setIfInBounds_toArray, List.set_cons_zero, List.set_cons_succ]
      clear hSc
      have hSc := hSe
      refine held_next 9 rfl (by kernel_rfl) (by rfl) ?_
      go_simp
      refine ⟨fun W => Bx1 w W k n s, fun W hW => hW, hSc, ?_⟩
      refine wpAnyH_done (by kernel_rfl) ?_ _
      go_wp2
      go_ret
      exact ⟨v2, rfl, by simpa [bls_len] using o2, hSe.below⟩
    · have e1 : (k == 1) = false := by simp [h1]
      have e2 : (k == 2) = false := by simp [h2]
      rw [bytes_none h1 h2, List.append_nil]
      clear hv
      go_enter Try.func41, Try.ntmps41
      go_wp2_with (go_at_call 61; refine (clone_any v l lo _ (HV.out.alloc (Nat.le_refl _) _ |>.more (Nat.le_refl _) (by simp)) (by omega)).mono ?_; rintro e w1 ⟨v1, rfl, o1, b1⟩)
      go_ret
      exact ⟨v1, rfl, o1.more (by simp), ((Bx1.new w k n s).step b1).below⟩

set_option maxHeartbeats 400000 in
set_option maxRecDepth 100000 in
theorem refbytes_any (k n : Int) (s : ByteArray) (w : World) (hs : s.size ≤ 1000000) :
    Calls Try.prog 55 #[vV k n s] w fun e w' => ∃ v', e = .returned v' ∧ Ow w' w.heap.size v' (byV k (u64 n) (bls s)) ∧ Below w.heap.size w w' := by
  by_cases h1 : k = 1
  · subst h1
    have hw := u64_wrap n
    have hlt := u64_lt n
    rw [bytes_one]
    generalize u64 n = N at *
    have HL := Lib.hid hlt
    clear hlt
    go_enter Try.func55, Try.ntmps55
    go_wp2_with (go_at_call 54; refine (little_any N 8 _ (by omega) (by omega) HL.out).mono ?_; rintro e w1 ⟨v1, rfl, o1, b1⟩)
    go_ret
    exact ⟨v1, rfl, o1.more (by simp), ((Bx1.new w 1 n s).step b1).below⟩
  · by_cases h2 : k = 2
    · subst h2
      obtain ⟨k, hk⟩ : ∃ k : Int, k = 2 := ⟨_, rfl⟩
      have hk1 : (k == 1) = false := by rw [hk]; rfl
      have hk2 : (k == 2) = true := by rw [hk]; rfl
      rw [← hk]
      have HK := Lib.hid hk
      clear hk
      have hw : IntKind.u64.wrap (s.size : Int) = (s.size : Int) := by rw [IntKind.wrap_u64]; omega
      go_enter Try.func55, Try.ntmps55
      go_wp2_with fail
      have hSc := (Bx1.new w k n s).drew
      refine wp_region_all (S := fun W => Bx1 w W k n s) (by kernel_rfl) hSc (fun W0 hSc => ?_)
      refine held_take 0 ?_ rfl (by kernel_rfl) (by kernel_rfl) (by kernel_rfl) (fun _ _ _ h => h) (by rfl) ?_ hSc ?_
      rotate_left
      · (intro W hSW; have a0 := hSW.a0; have a1 := hSW.a1; have a2 := hSW.a2; go_simp; try rfl)
      try simp only [Act.put, List.setIfInBounds_toArray, List.set_cons_zero, List.set_cons_succ]
      refine held_take 1 ?_ rfl (by kernel_rfl) (by kernel_rfl) (by kernel_rfl) (fun _ _ _ h => h) (by rfl) ?_ hSc ?_
      rotate_left
      · (intro W hSW; have a0 := hSW.a0; have a1 := hSW.a1; have a2 := hSW.a2; go_simp; try rfl)
      try simp only [Act.put, List.setIfInBounds_toArray, List.set_cons_zero, List.set_cons_succ]
      refine held_take 2 ?_ rfl (by kernel_rfl) (by kernel_rfl) (by kernel_rfl) (fun _ _ _ h => h) (by rfl) ?_ hSc ?_
      rotate_left
      · (intro W hSW; have a0 := hSW.a0; have a1 := hSW.a1; have a2 := hSW.a2; go_simp; try rfl)
      try simp only [Act.put, List.setIfInBounds_toArray, List.set_cons_zero, List.set_cons_succ]
      refine held_take 3 ?_ rfl (by kernel_rfl) (by kernel_rfl) (by kernel_rfl) (fun _ _ _ h => h) (by rfl) ?_ hSc ?_
      rotate_left
      · (intro W hSW; have a0 := hSW.a0; have a1 := hSW.a1; have a2 := hSW.a2; go_simp; try rfl)
      try simp only [Act.put, List.setIfInBounds_toArray, List.set_cons_zero, List.set_cons_succ]
      refine held_take 5 ?_ rfl (by kernel_rfl) (by kernel_rfl) (by kernel_rfl) (fun _ _ _ h => h) (by rfl) ?_ hSc ?_
      rotate_left
      · (intro W hSW; have a0 := hSW.a0; have a1 := hSW.a1; have a2 := hSW.a2; go_simp; try rfl)
      try simp only [Act.put, List.setIfInBounds_toArray, List.set_cons_zero, List.set_cons_succ]
      refine held_take 6 ?_ rfl (by kernel_rfl) (by kernel_rfl) (by kernel_rfl) (fun _ _ _ h => h) (by rfl) ?_ hSc ?_
      rotate_left
      · (intro W hSW; have a0 := hSW.a0; have a1 := hSW.a1; have a2 := hSW.a2; go_simp; try rfl)
      try simp only [Act.put, List.setIfInBounds_toArray, List.set_cons_zero, List.set_cons_succ]
      refine held_two 4 7 rfl rfl (by kernel_rfl) (by rfl) (by rfl) ?_ ?_
      · go_simp
        refine (refShort_any (s.size : Int) _ (by omega) (by omega)).mono ?_
        rintro e w1 ⟨v1, rfl, o1, b1⟩
        rw [Int.toNat_natCast] at o1
        have hSd : (fun W => Bx1 w W k n s) w1 := hSc.step b1
        refine ⟨fun W => Bx1 w W k n s, fun W hW => hW, hSd, ?_⟩
        try simp only [Act.put, List.setIfInBounds_toArray, List.set_cons_zero, List.set_cons_succ]
        refine held_next 7 rfl (by kernel_rfl) (by rfl) ?_
        refine wp_conv _ _ rfl s rfl (by omega) Try.underlying9 sli8 Try.underlying5 ?_
        intro c w2 b2 g2
        have hSe : (fun W => Bx1 w W k n s) w2 := hSd.step b2
        refine ⟨fun W => Bx1 w W k n s, fun W hW => hW, hSe, ?_⟩
        try simp only [Act.put, List.setIfInBounds_toArray, List.set_cons_zero, List.set_cons_succ]
        refine held_next 8 rfl (by kernel_rfl) (by rfl) ?_
        refine wp_gapp e8 _ _ _ _ rfl w.heap.size sli8 inf8 v1 (short s.size) rfl ((o1.below b2 (Nat.le_refl _)).more hSc.below.size) _ _ _ (bls s) rfl (g2) (by have := short_length_le s.size (by omega); rw [bls_len]; omega) hSe.below.size ?_
        intro v3 w3 o3 g3
        have hSf : (fun W => Bx1 w W k n s) w3 := hSe.grown g3 (fun x hx => by have := (o1.lt x hx).1; have := hSc.lt; have := b2.size; omega)
        refine ⟨fun W => Bx1 w W k n s, fun W hW => hW, hSf, ?_⟩
        try simp only [Act.put, List.setIfInBounds_toArray, List.set_cons_zero, List.set_cons_succ]
        clear hSc
        have hSc := hSf
        refine held_next 9 rfl (by kernel_rfl) (by rfl) ?_
        go_simp
        refine ⟨fun W => Bx1 w W k n s, fun W hW => hW, hSc, ?_⟩
        refine wpAnyH_done (by kernel_rfl) ?_ _
        go_wp2
        go_ret
        exact ⟨v3, rfl, by rw [HK.out, bytes_two, bls_len]; exact o3, hSf.below⟩
      · refine wp_conv _ _ rfl s rfl (by omega) Try.underlying9 sli8 Try.underlying5 ?_
        intro c w2 b2 g2
        have hSe : (fun W => Bx1 w W k n s) w2 := hSc.step b2
        refine ⟨fun W => Bx1 w W k n s, fun W hW => hW, hSe, ?_⟩
        try simp only [Act.put, List.setIfInBounds_toArray, List.set_cons_zero, List.set_cons_succ]
        refine held_next 4 rfl (by kernel_rfl) (by rfl) ?_
        go_simp
        refine (refShort_any (s.size : Int) _ (by omega) (by omega)).mono ?_
        rintro e w1 ⟨v1, rfl, o1, b1⟩
        rw [Int.toNat_natCast] at o1
        have hSd : (fun W => Bx1 w W k n s) w1 := hSe.step b1
        refine ⟨fun W => Bx1 w W k n s, fun W hW => hW, hSd, ?_⟩
        try simp only [Act.put, List.setIfInBounds_toArray, List.set_cons_zero, List.set_cons_succ]
        refine held_next 8 rfl (by kernel_rfl) (by rfl) ?_
        refine wp_gapp e8 _ _ _ _ rfl w.heap.size sli8 inf8 v1 (short s.size) rfl (o1.more (Nat.le_trans hSc.below.size b2.size)) _ _ _ (bls s) rfl (g2.below b1) (by have := short_length_le s.size (by omega); rw [bls_len]; omega) hSd.below.size ?_
        intro v3 w3 o3 g3
        have hSf : (fun W => Bx1 w W k n s) w3 := hSd.grown g3 (fun x hx => by have := (o1.lt x hx).1; have := hSc.lt; have := b2.size; omega)
        refine ⟨fun W => Bx1 w W k n s, fun W hW => hW, hSf, ?_⟩
        try simp only [Act.put, List.setIfInBounds_toArray, List.set_cons_zero, List.set_cons_succ]
        clear hSc
        have hSc := hSf
        refine held_next 9 rfl (by kernel_rfl) (by rfl) ?_
        go_simp
        refine ⟨fun W => Bx1 w W k n s, fun W hW => hW, hSc, ?_⟩
        refine wpAnyH_done (by kernel_rfl) ?_ _
        go_wp2
        go_ret
        exact ⟨v3, rfl, by rw [HK.out, bytes_two, bls_len]; exact o3, hSf.below⟩
    · have e1 : (k == 1) = false := by simp [h1]
      have e2 : (k == 2) = false := by simp [h2]
      rw [bytes_none h1 h2]
      go_enter Try.func55, Try.ntmps55
      go_wp2
      go_ret
      exact ⟨_, rfl, Gw.nil_ _ _, (Bx1.new w k n s).below⟩
end Go.Proofs.Ytjojhoaienjjeaa
