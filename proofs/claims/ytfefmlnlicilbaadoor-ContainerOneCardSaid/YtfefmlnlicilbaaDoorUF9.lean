/- Runs: Rank (cut from stages 4 to 6) -/
import Derived.Test.YtfefmlnlicilbaaDoorUF8
namespace Go.Proofs.YtfefmlnlicilbaaDoor
open Go.RowKit
set_option linter.unusedVariables false

theorem ct_le' (p : Nat → Bool) (n : Nat) : ct p n ≤ n := by
  induction n with
  | zero => exact Nat.le_refl _
  | succ n ih => rw [ct]; cases p n <;> simp <;> omega
set_option maxHeartbeats 4000000 in
theorem rrank_any (v : Value) (A : List Rn) (X N : Nat) (w : World) (hv : Gs2 eR w 0 w.heap.size v A) (hA : mayr 0 A = true) (hX : X ≤ 100000) (hN : ct (mr A) X = N) :
    Calls Tryd.prog 73 #[v, .int .i64 X] w fun e w' => e = .returned (.int .i64 N) ∧ Below w.heap.size w w' := by
  have hlen := hv.len
  have HV := Lib.hid hv
  have HNB := Lib.hid (show N ≤ 100000 by have := ct_le' (mr A) X; omega)
  obtain ⟨A1, c1, rfl, -⟩ := hv
  have HN := Lib.hid hN
  have HA := Lib.hid hA
  clear hN hA
  go_enter Tryd.func73, Tryd.ntmps73
  go_wp2
  go_loopw [5, 10] (fun n i wr => ∃ k m d : Nat, k ≤ A.length ∧ n = .int .i64 m ∧ i = .int .i64 k ∧ Hid (mayr d (A.drop k) = true) ∧ Hid (m + ct (mr (A.drop k)) X = N) ∧ Below w.heap.size w wr) (fun _ i _ => A.length - (intOf i).toNat)
  case atStart => exact ⟨0, 0, 0, Nat.zero_le _, rfl, rfl, HA.out, by have := HN.out; show 0 + ct (mr A) X = N; omega, Below.refl _ _⟩
  case round =>
    obtain ⟨k, m, d, hk, rfl, rfl, hmr, hct, hbl⟩ := hrel
    have HB := Lib.hid hbl
    by_cases hlt : k < A.length
    · obtain ⟨b, off, r, e1, -, hb, hdr, hg, c0, c2⟩ := gs2_at HV.out hlt
      subst e1
      rw [← hbl.cell (p := ⟨b, off + k * 2, none⟩) hb] at c0
      rw [← hbl.cell (p := ⟨b, off + k * 2 + 1, none⟩) hb] at c2
      have hmr2 := hmr.out
      have hct2 := hct.out
      rw [hdr] at hmr2 hct2
      have hf := u16_lt r.1
      have hm := u16_lt r.2
      obtain ⟨f, hfe⟩ : ∃ f, f = r.1.toNat := ⟨_, rfl⟩
      obtain ⟨q, hqe⟩ : ∃ q, q = r.2.toNat := ⟨_, rfl⟩
      rw [← hfe] at c0 hf
      rw [← hqe] at c2 hm
      have HF := Lib.hid hf
      have HQ := Lib.hid hm
      have hlr : lst r = f + q := by unfold lst; rw [← hfe, ← hqe]
      have hbw : Below w.heap.size w (wr.alloc (.cells #[.int .u16 (f : Int), .int .u16 (q : Int)] 85)) := hbl.alloc hbl.size _
      have HBW := Lib.hid hbw
      have hsz := hbl.size
      by_cases h1 : X ≤ f
      · have hR : m = N := by
          rw [ct_mr_zero (m := r.1.toNat) (by obtain ⟨h1, h2, h3⟩ := mayr_cons.1 hmr2; exact mayr_cons.2 ⟨Nat.le_refl _, h2, h3⟩) (by omega)] at hct2
          omega
        have HRF := Lib.hid hR
        have h1' : (X : Int) ≤ f := by omega
        clear hbl hmr hct hdr hg hmr2 hct2 hR hfe hqe hlr hbw h1
        go_wp2
        go_ret
        exact ⟨by rw [HRF.out]; rfl, HBW.out⟩
      · have h1' : decide ((X : Int) ≤ f) = false := decide_eq_false (by omega)
        have h1n : ¬ ((X : Int) ≤ f) := by omega
        have hnx : m + min (X - f) (q + 1) + ct (mr (A.drop (k + 1))) X = N := by
          rw [← hct2, ct_mr_cons hmr2, hlr, ← hfe]
          omega
        have hmb : m ≤ 100000 := by have := HNB.out; omega
        have HM3 := Lib.hid (mayr_cons.1 hmr2).2.2
        have w1 : IntKind.i64.wrap (f : Int) = f := by simp [IntKind.wrap, IntKind.bits, IntKind.signed]; omega
        have w2 : IntKind.i64.wrap ((X : Int) - f) = (X : Int) - f := by simp [IntKind.wrap, IntKind.bits, IntKind.signed]; omega
        have HNX := Lib.hid hnx
        have hfin : (m : Int) + (if (q : Int) + 1 < (X : Int) - f then (q : Int) + 1 else (X : Int) - f) = ((m + min (X - f) (q + 1) : Nat) : Int) := by split <;> omega
        have w3 : IntKind.i64.wrap ((m : Int) + (if (q : Int) + 1 < (X : Int) - f then (q : Int) + 1 else (X : Int) - f)) = (m : Int) + (if (q : Int) + 1 < (X : Int) - f then (q : Int) + 1 else (X : Int) - f) := by
          rw [hfin]; simp [IntKind.wrap, IntKind.bits, IntKind.signed]; omega
        have HFIN := Lib.hid hfin
        clear hbl hmr hct hdr hg hmr2 hct2 hfe hqe hlr hbw h1 hnx hfin
        go_wp2_with fail
        go_region_with (go_at_call 84; refine (size_any f q HQ.out _).mono ?_; rintro e w9 ⟨rfl, b9⟩; have k0 := (b9.cell (p := ⟨wr.heap.size, 0, none⟩) (by simp)).trans (show _ = some (.int .u16 (f : Int)) by simp); have k1 := (b9.cell (p := ⟨wr.heap.size, 1, none⟩) (by simp)).trans (show _ = some (.int .u16 (q : Int)) by simp); have B9 := Lib.hid b9; clear b9)
        all_goals
          go_wp2
          refine ⟨⟨k + 1, m + min (X - f) (q + 1), _, by omega, by rw [HFIN.out], by go_num, HM3.out, HNX.out, below_both (below_drewN HBW.out 1) B9.out⟩, by simp [intOf]; omega⟩
    · obtain rfl : k = A.length := by omega
      have hR := hct.out
      rw [List.drop_length] at hR
      have HRF := Lib.hid (show m = N by have : ct (mr []) X = 0 := ct_zero fun x _ => rfl; omega)
      clear hbl hmr hR hct
      go_wp2
      go_ret
      exact ⟨by rw [HRF.out]; rfl, HB.out⟩
end Go.Proofs.YtfefmlnlicilbaaDoor
