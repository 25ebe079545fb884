/- Walks: the document's Same of runs. -/
import Derived.Test.YtgkelfhmpeakkaaFG
namespace Go.Proofs.Ytgkelfhmpeakkaa
open Go.RowKit
set_option linter.unusedVariables false

theorem rtake_succ {l m : List Rn} {k : Nat} {r s : Rn} (hl : l[k]? = some r) (hm : m[k]? = some s) (h : l.take k = m.take k) (he : r = s) : l.take (k + 1) = m.take (k + 1) := by
  rw [List.take_add_one, List.take_add_one, h, hl, hm, he]
set_option maxHeartbeats 4000000 in
theorem refsame_any (v u : Value) (l m : List Rn) (lo hi lo' hi' : Nat) (w : World) (hv : Gs2 eR w lo hi v l) (hu : Gs2 eR w lo' hi' u m) :
    Calls Try.prog 16 #[v, u] w fun e w' => e = .returned (.bool (decide (l = m))) ∧ ∃ k, w' = w.drewN k := by
  have hlen := hv.len
  have hlen2 := hu.len
  have HV := Lib.hid hv
  have HU := Lib.hid hu
  obtain ⟨A1, c1, rfl, -⟩ := hv
  obtain ⟨A2, c2, rfl, -⟩ := hu
  obtain ⟨R, hR⟩ : ∃ R, R = decide (l = m) := ⟨_, rfl⟩
  rw [← hR]
  have HR := Lib.hid hR
  clear hR
  by_cases hll : l.length = m.length
  · have hlli : (l.length : Int) = (m.length : Int) := by omega
    have hne : ((l.length : Int) != (m.length : Int)) = false := by simp [hlli]
    have HLL := Lib.hid hll
    clear hll
    go_enter Try.func16, Try.ntmps16
    go_wp2
    go_loopw [5] (fun i wr => ∃ k : Nat, k ≤ l.length ∧ i = .int .i64 k ∧ Hid (l.take k = m.take k) ∧ ∃ t, wr = w.drewN t) (fun i _ => l.length - (intOf i).toNat)
    case atStart => exact ⟨0, Nat.zero_le _, rfl, (show l.take 0 = m.take 0 from rfl), 0, rfl⟩
    case round =>
      obtain ⟨k, hk, rfl, htk, t, rfl⟩ := hrel
      by_cases hlt : k < l.length
      · obtain ⟨b, off, r, e1, -, hb, hdr, hg, c0, c2⟩ := gs2_at HV.out hlt
        subst e1
        obtain ⟨b', off', s, e1, -, hb', hdr', hg', c0', c2'⟩ := gs2_at HU.out (k := k) (by have := HLL.out; omega)
        subst e1
        have hki : (k : Int) < l.length := by omega
        have hki2 : (k : Int) < m.length := by omega
        have hstep := fun he : r = s => rtake_succ hg hg' htk.out he
        have hdiff : r ≠ s → R = false := fun hne => by
          rw [HR.out]
          refine decide_eq_false fun e => hne ?_
          rw [e] at hg
          exact Option.some.inj (hg.symm.trans hg')
        clear hdr hdr' hg hg'
        obtain ⟨rf, rq⟩ := r
        obtain ⟨sf, sq⟩ := s
        simp only at c0 c2 c0' c2'
        by_cases hf : rf = sf
        · by_cases hq : rq = sq
          · subst hf hq
            have HS := Lib.hid (hstep rfl)
            clear hstep hdiff
            go_wp2
            go_quiet (fail)
            go_wp2
            refine ⟨⟨k + 1, by omega, by go_num, HS.out, _, rfl⟩, by simp [intOf]; omega⟩
          · have HD := Lib.hid (hdiff (by intro e; injection e with e1 e2; exact hq e2))
            have hqn : ¬ ((rq.toNat : Int) = (sq.toNat : Int)) := fun e => hq (u16_eq (by omega))
            subst hf
            clear hstep hdiff hq
            go_wp2
            go_quiet (fail)
            go_wp2
            go_ret
            exact ⟨by rw [HD.out]; rfl, _, World.drewN_drewN ..⟩
        · have HD := Lib.hid (hdiff (by intro e; injection e with e1 e2; exact hf e1))
          have hfn : ¬ ((rf.toNat : Int) = (sf.toNat : Int)) := fun e => hf (u16_eq (by omega))
          clear hstep hdiff hf
          go_wp2
          go_quiet (fail)
          go_wp2
          go_ret
          exact ⟨by rw [HD.out]; rfl, _, World.drewN_drewN ..⟩
      · obtain rfl : k = l.length := by omega
        have he := htk.out
        rw [List.take_length, HLL.out, List.take_length] at he
        have hT : R = true := by rw [HR.out]; exact decide_eq_true he
        have HT := Lib.hid hT
        clear he hT htk
        go_wp2
        go_ret
        exact ⟨by rw [HT.out]; rfl, _, rfl⟩
  · have hF : R = false := by rw [HR.out]; exact decide_eq_false (fun e => hll (by rw [e]))
    have HF := Lib.hid hF
    have hne : ((l.length : Int) != (m.length : Int)) = true := by simp; omega
    clear hF hll
    go_enter Try.func16, Try.ntmps16
    go_wp2
    go_ret
    exact ⟨by rw [HF.out]; rfl, 0, rfl⟩
end Go.Proofs.Ytgkelfhmpeakkaa
