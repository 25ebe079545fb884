/- Runs: Has (cut from stages 4 to 6) -/
import Derived.Test.YtfefmlnlicilbaaDoorUFC
namespace Go.Proofs.YtfefmlnlicilbaaDoor
open Go.RowKit
set_option linter.unusedVariables false

set_option maxHeartbeats 4000000 in
theorem rhas_any (v : Value) (A : List Rn) (x : Nat) (w : World) (hv : Gs2 eR w 0 w.heap.size v A) (hA : mayr 0 A = true) (hb : A.length ≤ 100000000) (hx : x < 65536) :
    Calls Tryd.prog 77 #[v, .int .u16 x] w fun e w' => e = .returned (.bool (mr A x)) ∧ Below w.heap.size w w' := by
  have HV := Lib.hid hv
  have HA := Lib.hid hA
  have HX := Lib.hid hx
  have T := Lib.hid (bsf_any v A x w hv hA hb)
  obtain ⟨A1, c1, rfl, -⟩ := hv
  clear hA
  go_enter Tryd.func77, Tryd.ntmps77
  go_wp2_with fail
  go_at_call 89
  refine T.out.mono ?_
  rintro e w1 ⟨n, rfl, hn, h1, h2, b1⟩
  have hR := has_at HA.out hn h1 h2
  have hbl := b1
  have B1 := Lib.hid b1
  clear b1 T
  cases hbg : (decide (n < A.length) && decide (fa A n = x)) with
  | true =>
    rw [hbg, Bool.true_or] at hR
    have HR := Lib.hid hR
    clear hR hbl h1 h2 hbg
    go_wp2
    go_ret
    exact ⟨by rw [HR.out]; rfl, B1.out⟩
  | false =>
    rw [hbg, Bool.false_or] at hR
    by_cases h0 : n = 0
    · subst h0
      have HR := Lib.hid (hR.trans (by simp : _ = false))
      clear hR hbl h1 h2 hbg
      go_wp2
      go_ret
      exact ⟨by rw [HR.out]; rfl, B1.out⟩
    · rw [decide_eq_true (p := 0 < n) (by omega), Bool.true_and] at hR
      obtain ⟨m, rfl⟩ : ∃ m, n = m + 1 := ⟨n - 1, by omega⟩
      rw [Nat.add_sub_cancel] at hR
      obtain ⟨b, off, r, e1, -, hbb, hdr, hg, c0, c2⟩ := gs2_at HV.out (k := m) (by omega)
      subst e1
      rw [← hbl.cell (p := ⟨b, off + m * 2, none⟩) hbb] at c0
      rw [← hbl.cell (p := ⟨b, off + m * 2 + 1, none⟩) hbb] at c2
      have hla := la_of hg
      have hf := u16_lt r.1
      have hq := u16_lt r.2
      obtain ⟨f, hfe⟩ : ∃ f, f = r.1.toNat := ⟨_, rfl⟩
      obtain ⟨q, hqe⟩ : ∃ q, q = r.2.toNat := ⟨_, rfl⟩
      unfold lst at hla
      rw [← hfe, ← hqe] at hla
      rw [← hfe] at c0 hf
      rw [← hqe] at c2 hq
      have HF := Lib.hid hf
      have HQ := Lib.hid hq
      have hR2 : mr A x = decide ((x : Int) < (f : Int) + ((q : Int) + 1)) := by rw [hR, hla]; exact decide_eq_decide.2 (by omega)
      have HR := Lib.hid hR2
      have g1 : decide (((m + 1 : Nat) : Int) > 0) = true := decide_eq_true (by omega)
      have g2 : ((m + 1 : Nat) : Int) > 0 := by omega
      have w1 : IntKind.i64.wrap (((m + 1 : Nat) : Int) - 1) = (m : Int) := by simp [IntKind.wrap, IntKind.bits, IntKind.signed]; omega
      have g3 : (m : Int) < A.length := by omega
      have w2 : IntKind.i64.wrap (x : Int) = x := by have := HX.out; simp [IntKind.wrap, IntKind.bits, IntKind.signed]; omega
      clear hR hR2 hbl h1 h2 hbg hla hfe hqe hdr hg h0
      go_wp2_with (go_at_call 66; refine (end_any f q HF.out HQ.out _).mono ?_; rintro e w9 ⟨rfl, b9⟩; have B9 := Lib.hid b9; clear b9)
      go_ret
      exact ⟨by rw [HR.out]; rfl, below_both B1.out B9.out⟩
end Go.Proofs.YtfefmlnlicilbaaDoor
