/- Walks: May, Rank, Len, Select of runs. -/
import Derived.Test.YtgkelfhmpeakkaaDoorF7
namespace Go.Proofs.YtgkelfhmpeakkaaDoor
open Go.RowKit
set_option linter.unusedVariables false

/-- The k-th run's two cells. -/
theorem gs2_at {w : World} {lo hi : Nat} {A : Option Addr} {n c : Nat} {l : List Rn} (h : Gs2 eR w lo hi (.slice A n c) l) {k : Nat} (hk : k < l.length) :
    ∃ b off r, A = some ⟨b, off, none⟩ ∧ n = l.length ∧ b < hi ∧ l.drop k = r :: l.drop (k + 1) ∧ l[k]? = some r ∧ w.cell? ⟨b, off + k * 2, none⟩ = some (.int .u16 r.1.toNat) ∧ w.cell? ⟨b, off + k * 2 + 1, none⟩ = some (.int .u16 r.2.toNat) := by
  obtain ⟨b, off, c', e, -, -, -, hb, hc⟩ := h.form (by rintro rfl; simp at hk)
  injection e with e1 e2 e3
  have h1 := List.getElem?_eq_getElem hk
  have := hc k _ h1
  rw [Nat.mul_comm 2 k] at this
  exact ⟨b, off, _, e1, e2, hb, List.drop_eq_getElem_cons hk, h1, this.1, this.2⟩

theorem mayr_eq (m : Nat) (r : Rn) (l : List Rn) : mayr m (r :: l) = (decide (m ≤ r.1.toNat) && (decide (lst r ≤ 65535) && mayr (lst r + 2) l)) := rfl
set_option maxHeartbeats 1000000 in
theorem rmay_any (v : Value) (A : List Rn) (w : World) (hv : Gs2 eR w 0 w.heap.size v A) :
    Calls Tryd.prog 25 #[v] w fun e w' => e = .returned (.bool (mayr 0 A)) ∧ Below w.heap.size w w' := by
  have hlen := hv.len
  have HV := Lib.hid hv
  obtain ⟨A1, c1, rfl, -⟩ := hv
  obtain ⟨R, hR⟩ : ∃ R, R = mayr 0 A := ⟨_, rfl⟩
  rw [← hR]
  have HR := Lib.hid hR
  clear hR
  go_enter Tryd.func25, Tryd.ntmps25
  go_wp2
  go_loopw [3, 8] (fun n i wr => ∃ k m : Nat, k ≤ A.length ∧ m ≤ 65538 ∧ n = .int .i64 m ∧ i = .int .i64 k ∧ Hid (mayr m (A.drop k) = R) ∧ Below w.heap.size w wr) (fun _ i _ => A.length - (intOf i).toNat)
  case atStart => exact ⟨0, 0, Nat.zero_le _, by omega, rfl, rfl, HR.out.symm, Below.refl _ _⟩
  case round =>
    obtain ⟨k, m, hk, hmb, rfl, rfl, hmr, hbl⟩ := hrel
    have HB := Lib.hid hbl
    by_cases hlt : k < A.length
    · obtain ⟨b, off, r, e1, -, hb, hdr, hg, c0, c2⟩ := gs2_at HV.out hlt
      subst e1
      rw [← hbl.cell (p := ⟨b, off + k * 2, none⟩) hb] at c0
      rw [← hbl.cell (p := ⟨b, off + k * 2 + 1, none⟩) hb] at c2
      have hmr2 := hmr.out
      rw [hdr] at hmr2
      have hf := u16_lt r.1
      have hm := u16_lt r.2
      obtain ⟨f, hfe⟩ : ∃ f, f = r.1.toNat := ⟨_, rfl⟩
      obtain ⟨q, hqe⟩ : ∃ q, q = r.2.toNat := ⟨_, rfl⟩
      rw [← hfe] at c0 hf
      rw [← hqe] at c2 hm
      have HF := Lib.hid hf
      have HQ := Lib.hid hm
      have hlr : lst r = f + q := by unfold lst; rw [← hfe, ← hqe]
      have hbw : Below w.heap.size w (wr.alloc (.cells #[.int .u16 (f : Int), .int .u16 (q : Int)] 40)) := hbl.alloc hbl.size _
      have HBW := Lib.hid hbw
      have hsz := hbl.size
      by_cases h1 : f < m
      · have hR : R = false := by
          rw [← hmr2]
          unfold mayr
          rw [decide_eq_false (by rw [← hfe]; omega), Bool.false_and]
        have HRF := Lib.hid hR
        have h1' : (f : Int) < m := by omega
        clear hbl hmr hdr hg hmr2 hR hfe hqe hlr hbw h1
        go_wp2
        go_ret
        exact ⟨by rw [HRF.out]; rfl, HBW.out⟩
      · have h1' : decide ((f : Int) < m) = false := decide_eq_false (by omega)
        have h1n : ¬ ((f : Int) < m) := by omega
        by_cases h2 : 65536 < f + (q + 1)
        · have hR : R = false := by
            rw [← hmr2]
            unfold mayr
            rw [decide_eq_false (p := lst r ≤ 65535) (by omega), Bool.false_and, Bool.and_false]
          have HRF := Lib.hid hR
          have h2' : (65536 : Int) < (f : Int) + ((q : Int) + 1) := by omega
          clear hbl hmr hdr hg hmr2 hR hfe hqe hlr hbw h1 h2
          go_wp2_with (go_at_call 38; refine (end_any f q HF.out HQ.out _).mono ?_; rintro e w9 ⟨rfl, b9⟩; have k0 := (b9.cell (p := ⟨wr.heap.size, 0, none⟩) (by simp)).trans (show _ = some (.int .u16 (f : Int)) by simp); have k1 := (b9.cell (p := ⟨wr.heap.size, 1, none⟩) (by simp)).trans (show _ = some (.int .u16 (q : Int)) by simp); have B9 := Lib.hid b9; clear b9)
          go_ret
          exact ⟨by rw [HRF.out]; rfl, below_both HBW.out B9.out⟩
        · have hR : mayr (f + q + 2) (A.drop (k + 1)) = R := by
            rw [← hmr2, ← hlr]
            rw [mayr_eq, decide_eq_true (p := m ≤ r.1.toNat) (by rw [← hfe]; omega), decide_eq_true (p := lst r ≤ 65535) (by omega), Bool.true_and, Bool.true_and]
          have HRF := Lib.hid hR
          have h2' : decide ((65536 : Int) < (f : Int) + ((q : Int) + 1)) = false := decide_eq_false (by omega)
          have h2i : (f : Int) + ((q : Int) + 1) ≤ 65536 := by omega
          have h2n : ¬ ((65536 : Int) < (f : Int) + ((q : Int) + 1)) := by omega
          clear hbl hmr hdr hg hmr2 hR hfe hqe hlr hbw h1 h2
          go_wp2_with fail
          go_at_call 38
          refine (end_any f q HF.out HQ.out _).mono ?_
          rintro e w9 ⟨rfl, b9⟩
          have k0 := (b9.cell (p := ⟨wr.heap.size, 0, none⟩) (by simp)).trans (show _ = some (.int .u16 (f : Int)) by simp)
          have k1 := (b9.cell (p := ⟨wr.heap.size, 1, none⟩) (by simp)).trans (show _ = some (.int .u16 (q : Int)) by simp)
          have B9 := Lib.hid b9
          clear b9
          go_wp2_with fail
          go_at_call 38
          refine (end_any f q HF.out HQ.out _).mono ?_
          rintro e w8 ⟨rfl, b8⟩
          have B8 := Lib.hid b8
          clear b8
          go_wp2
          refine ⟨⟨k + 1, f + q + 2, by omega, by omega, by go_num, by go_num, HRF.out, below_both (below_both HBW.out B9.out) B8.out⟩, by simp [intOf]; omega⟩
    · obtain rfl : k = A.length := by omega
      have hR := hmr.out
      rw [List.drop_length] at hR
      have HRF := Lib.hid (show R = true from hR.symm)
      clear hbl hmr hR
      go_wp2
      go_ret
      exact ⟨by rw [HRF.out]; rfl, HB.out⟩
end Go.Proofs.YtgkelfhmpeakkaaDoor
