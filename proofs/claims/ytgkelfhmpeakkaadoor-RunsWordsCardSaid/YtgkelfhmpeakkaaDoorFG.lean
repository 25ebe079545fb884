/- Walks: the document's May and Same of runs. -/
import Derived.Test.YtgkelfhmpeakkaaDoorFE
namespace Go.Proofs.YtgkelfhmpeakkaaDoor
open Go.RowKit
set_option linter.unusedVariables false

set_option maxHeartbeats 4000000 in
theorem refmay_any (v : Value) (A : List Rn) (w : World) (hv : Gs2 eR w 0 w.heap.size v A) :
    Calls Tryd.prog 4 #[v] w fun e w' => e = .returned (.bool (mayr 0 A)) ∧ ∃ k, w' = w.drewN k := by
  have hlen := hv.len
  have HV := Lib.hid hv
  obtain ⟨A1, c1, rfl, -⟩ := hv
  obtain ⟨R, hR⟩ : ∃ R, R = mayr 0 A := ⟨_, rfl⟩
  rw [← hR]
  have HR := Lib.hid hR
  clear hR
  go_enter Tryd.func4, Tryd.ntmps4
  go_wp2
  go_loopw [3, 4] (fun n i wr => ∃ k m : Nat, k ≤ A.length ∧ m ≤ 65538 ∧ n = .int .i64 m ∧ i = .int .i64 k ∧ Hid (mayr m (A.drop k) = R) ∧ ∃ t, wr = w.drewN t) (fun _ i _ => A.length - (intOf i).toNat)
  case atStart => exact ⟨0, 0, Nat.zero_le _, by omega, rfl, rfl, HR.out.symm, 0, rfl⟩
  case round =>
    obtain ⟨k, m, hk, hmb, rfl, rfl, hmr, t, rfl⟩ := hrel
    by_cases hlt : k < A.length
    · obtain ⟨b, off, r, e1, -, hb, hdr, hg, c0, c2⟩ := gs2_at HV.out hlt
      subst e1
      have hmr2 := hmr.out
      rw [hdr] at hmr2
      have hf := u16_lt r.1
      have hm := u16_lt r.2
      obtain ⟨f, hfe⟩ : ∃ f, f = r.1.toNat := ⟨_, rfl⟩
      obtain ⟨q, hqe⟩ : ∃ q, q = r.2.toNat := ⟨_, rfl⟩
      rw [← hfe] at c0 hf
      rw [← hqe] at c2 hm
      have hlr : lst r = f + q := by unfold lst; rw [← hfe, ← hqe]
      have hki : (k : Int) < A.length := by omega
      have w1 : IntKind.i64.wrap (f : Int) = f := by simp [IntKind.wrap, IntKind.bits, IntKind.signed]; omega
      have w2 : IntKind.i64.wrap (q : Int) = q := by simp [IntKind.wrap, IntKind.bits, IntKind.signed]; omega
      have w3 : IntKind.i64.wrap ((f : Int) + q) = (f : Int) + q := by simp [IntKind.wrap, IntKind.bits, IntKind.signed]; omega
      by_cases h1 : f < m
      · have hR : R = false := by
          rw [← hmr2, mayr_eq, decide_eq_false (by rw [← hfe]; omega), Bool.false_and]
        have HRF := Lib.hid hR
        have h1' : (f : Int) < m := by omega
        clear hmr hdr hg hmr2 hR hfe hqe hlr h1
        go_wp2
        go_quiet (fail)
        go_wp2
        go_ret
        exact ⟨by rw [HRF.out]; rfl, _, rfl⟩
      · have h1n : ¬ ((f : Int) < m) := by omega
        by_cases h2 : 65535 < f + q
        · have hR : R = false := by
            rw [← hmr2, mayr_eq, decide_eq_false (p := lst r ≤ 65535) (by omega), Bool.false_and, Bool.and_false]
          have HRF := Lib.hid hR
          have h2' : (f : Int) + (q : Int) > 65535 := by omega
          clear hmr hdr hg hmr2 hR hfe hqe hlr h1 h2
          go_wp2
          go_quiet (fail)
          go_wp2
          go_ret
          exact ⟨by rw [HRF.out]; rfl, _, rfl⟩
        · have hR : mayr (f + q + 2) (A.drop (k + 1)) = R := by
            rw [← hmr2, ← hlr, mayr_eq, decide_eq_true (p := m ≤ r.1.toNat) (by rw [← hfe]; omega), decide_eq_true (p := lst r ≤ 65535) (by omega), Bool.true_and, Bool.true_and]
          have HRF := Lib.hid hR
          have h2n : ¬ ((f : Int) + (q : Int) > 65535) := by omega
          have h2i : (f : Int) + (q : Int) ≤ 65535 := by omega
          clear hmr hdr hg hmr2 hR hfe hqe hlr h1 h2
          go_wp2
          go_quiet (fail)
          go_wp2
          refine ⟨⟨k + 1, f + q + 2, by omega, by omega, by go_num, by go_num, HRF.out, _, rfl⟩, by simp [intOf]; omega⟩
    · obtain rfl : k = A.length := by omega
      have hR := hmr.out
      rw [List.drop_length] at hR
      have HRF := Lib.hid (show R = true from hR.symm)
      clear hmr hR
      go_wp2
      go_ret
      exact ⟨by rw [HRF.out]; rfl, _, rfl⟩
end Go.Proofs.YtgkelfhmpeakkaaDoor
