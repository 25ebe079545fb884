/- Walks: the document's May, Of, Width, Same, Bytes. -/
import Derived.Test.YtpanfpcfhgnkoaaSh
namespace Go.Proofs.Ytpanfpcfhgnkoaa
open Go.RowKit
set_option linter.unusedVariables false

set_option maxHeartbeats 1000000 in
theorem refMay_any (rows many : Int) (w : World) : Calls Try.prog 29 #[.int .i64 rows, .int .i64 many] w fun e w' => e = .returned (.bool (mayM rows many)) ∧ w' = w := by
  by_cases h1 : 1 ≤ many
  · have d1 : decide (1 ≤ many) = true := decide_eq_true h1
    have e0 : (many == 0) = false := beq_false_of_ne (by omega)
    by_cases h2 : many ≤ 16777216
    · have d2 : decide (many ≤ 16777216) = true := decide_eq_true h2
      have hm : mayM rows many = true := mayM_iff.2 (.inl ⟨h1, h2⟩)
      rw [hm]
      clear hm h1 h2
      go_enter Try.func29, Try.ntmps29
      go_wp2
      go_ret
      exact ⟨rfl, rfl⟩
    · have d2 : decide (many ≤ 16777216) = false := decide_eq_false h2
      have hm : mayM rows many = false := by rw [← Bool.not_eq_true, mayM_iff]; omega
      rw [hm]
      clear hm h1 h2
      go_enter Try.func29, Try.ntmps29
      go_wp2
      go_ret
      exact ⟨rfl, rfl⟩
  · have d1 : decide (1 ≤ many) = false := decide_eq_false h1
    by_cases h0 : many = 0
    · subst h0
      have hm : mayM rows 0 = (rows == 0) := by unfold mayM; by_cases h : rows = 0 <;> simp [h]
      rw [hm]
      clear hm h1
      go_enter Try.func29, Try.ntmps29
      go_wp2
      go_ret
      exact ⟨rfl, rfl⟩
    · have e0 : (many == 0) = false := beq_false_of_ne h0
      have hm : mayM rows many = false := by rw [← Bool.not_eq_true, mayM_iff]; omega
      rw [hm]
      clear hm h1 h0
      go_enter Try.func29, Try.ntmps29
      go_wp2
      go_ret
      exact ⟨rfl, rfl⟩
set_option maxHeartbeats 1000000 in
theorem refOf_any (A : Option Addr) (d : Nat) (zs : List Int) (many : Int) (w : World) (hG : Gs eI w 0 w.heap.size (.slice A zs.length d) zs) (hl : zs.length ≤ 100000) :
    Calls Try.prog 10 #[.slice A zs.length d, .int .i64 many] w fun e w' => e = .returned (.int .i64 (ofE zs many)) ∧ w' = w := by
  have HG := Lib.hid hG
  have HMY := Lib.hid (refMay_any zs.length many w)
  clear hG
  obtain ⟨M, hM⟩ : ∃ M, mayM zs.length many = M := ⟨_, rfl⟩
  rw [hM] at HMY
  cases M with
  | false =>
    have HE := Lib.hid (of_many hM)
    rw [HE.out]
    clear hM
    go_enter Try.func10, Try.ntmps10
    go_wp2_with (go_at_call 29; refine HMY.out.mono ?_; rintro e w1 ⟨rfl, hz⟩; have hz := hz.symm; subst hz)
    go_ret
    exact ⟨rfl, rfl⟩
  | true =>
    have HM := Lib.hid hM
    clear hM
    obtain ⟨n, hn⟩ : ∃ n, zs.length = n := ⟨_, rfl⟩
    have HN := Lib.hid hn
    rw [hn] at hl HMY ⊢
    clear hn
    go_enter Try.func10, Try.ntmps10
    go_wp2_with (go_at_call 29; refine HMY.out.mono ?_; rintro e w1 ⟨rfl, hz⟩; have hz := hz.symm; subst hz)
    go_loopw [5] (fun i wr => ∃ k : Nat, k ≤ n ∧ i = .int .i64 k ∧ wr = w ∧ Hid ((zs.take k).all (inr many) = true)) (fun i _ => n - (intOf i).toNat)
    case atStart => exact ⟨0, Nat.zero_le _, rfl, rfl, Lib.hid rfl⟩
    case round =>
      obtain ⟨k, hk, rfl, rfl, hI⟩ := hrel
      have HI := Lib.hid hI.out
      clear hI
      by_cases hlt : k < n
      · obtain ⟨b, boff, bc', e, -, -, -, bw, hc⟩ := HG.out.form (fun e => by have h := congrArg List.length e; have := HN.out; simp only [List.length_nil] at h; omega)
        injection e with e4 e5 e6
        subst e4 e6
        obtain ⟨z, hz⟩ : ∃ z, zs[k]? = some z := ⟨_, List.getElem?_eq_getElem (by rw [HN.out]; omega)⟩
        have q0 := hc k z hz
        simp only [eI] at q0
        have HSN := Lib.hid (show zs.take (k + 1) = zs.take k ++ [z] by rw [List.take_add_one, hz]; rfl)
        have HZ := Lib.hid (List.mem_of_getElem? hz)
        clear hc hz e5
        by_cases h0 : z < 0
        · have d1 : decide (z < 0) = true := decide_eq_true h0
          have HB := Lib.hid (show ofE zs many = 2 from of_in (by rw [← Bool.not_eq_true]; intro h; have := all_inr h z HZ.out; omega))
          clear h0
          go_wp2
          go_ret
          exact ⟨by rw [HB.out]; rfl, rfl⟩
        · have d1 : decide (z < 0) = false := decide_eq_false h0
          by_cases h2 : many ≤ z
          · have d2 : decide (many ≤ z) = true := decide_eq_true h2
            have HB := Lib.hid (show ofE zs many = 2 from of_in (by rw [← Bool.not_eq_true]; intro h; have := all_inr h z HZ.out; omega))
            clear h0 h2
            go_wp2
            go_ret
            exact ⟨by rw [HB.out]; rfl, rfl⟩
          · have d2 : decide (many ≤ z) = false := decide_eq_false h2
            have HIN := Lib.hid (show inr many z = true by unfold inr; exact decide_eq_true (by omega))
            clear h0 h2
            go_wp2
            go_roundw
            case rel => exact ⟨k + 1, by omega, by go_num, by first | rfl | trivial, Lib.hid (by rw [HSN.out, List.all_append, HI.out, List.all_cons, HIN.out]; rfl)⟩
            case measure => simp [intOf]; omega
      · obtain rfl : k = n := by omega
        have HB := Lib.hid (show ofE zs many = 0 from of_yes HM.out (by have := HI.out; rwa [← HN.out, List.take_length] at this))
        go_wp2
        go_ret
        exact ⟨by rw [HB.out]; rfl, rfl⟩
set_option maxHeartbeats 400000 in
theorem rwid_any (many : Int) (w : World) (h : many ≤ 9223372036854775807) : Calls Try.prog 22 #[.int .i64 many] w fun e w' => e = .returned (.int .i64 (wdm many : Nat)) ∧ w' = w := by
  obtain ⟨T, hT⟩ : ∃ T, wdm many = T := ⟨_, rfl⟩
  rw [hT]
  unfold wdm at hT
  by_cases h1 : many < 1
  · have e : max many 1 = 1 := by omega
    have hT1 : T = 1 := by rw [← hT, e]; rfl
    have d1 : decide (many < 1) = true := decide_eq_true h1
    subst hT1
    clear hT e h1
    go_enter Try.func22, Try.ntmps22
    go_wp2
    go_ret
    exact ⟨rfl, rfl⟩
  · have e : max many 1 = many := by omega
    rw [e] at hT
    have HC := Lib.hid (refWidth_any (many - 1) w (by omega) (by omega))
    rw [hT] at HC
    have d1 : decide (many < 1) = false := decide_eq_false h1
    have w1 : wrap64 (many - 1) = many - 1 := by unfold wrap64; omega
    have w2 : IntKind.u64.wrap (many - 1) = many - 1 := by rw [IntKind.wrap_u64]; omega
    have w3 : IntKind.i64.wrap (many - 1) = many - 1 := by rw [IntKind.wrap_i64]; omega
    clear hT e h1
    go_enter Try.func22, Try.ntmps22
    go_wp2_with (go_at_call 41; refine HC.out.mono ?_; rintro e w1 ⟨rfl, rfl⟩)
    go_ret
    exact ⟨rfl, rfl⟩
set_option maxHeartbeats 1000000 in
theorem sameI_yes (v u : Value) (l : List Int) (lo hi lo' hi' : Nat) (W : World) (hv : Gs eI W lo hi v l) (hu : Gs eI W lo' hi' u l) :
    Calls Try.prog 11 #[v, u] W fun e w' => e = .returned (.bool true) ∧ ∃ n, w' = W.drewN n := by
  have hlen := hv.len
  have hv0 := hv
  have hu0 := hu
  obtain ⟨A, c, rfl, -⟩ := hv
  obtain ⟨B, d, rfl, -⟩ := hu
  have HV := Lib.hid hv0
  have HU := Lib.hid hu0
  clear hv0 hu0
  go_enter Try.func11, Try.ntmps11
  go_wp2
  go_loopw [5] (fun i wr => ∃ k m : Nat, k ≤ l.length ∧ i = .int .i64 k ∧ wr = W.drewN m) (fun i _ => l.length - (intOf i).toNat)
  case atStart => exact ⟨0, 0, Nat.zero_le _, rfl, rfl⟩
  case round =>
    obtain ⟨k, m, hk, rfl, rfl⟩ := hrel
    by_cases hlt : k < l.length
    · obtain ⟨b1, o1, c1, e1, -, -, -, -, hc1⟩ := HV.out.form (by rintro rfl; simp at hlt)
      injection e1 with e1 _ e2
      subst e1 e2
      obtain ⟨b2, o2, c2, e1, -, -, -, -, hc2⟩ := HU.out.form (by rintro rfl; simp at hlt)
      injection e1 with e1 _ e2
      subst e1 e2
      have k1 := hc1 k l[k] (List.getElem?_eq_getElem hlt)
      have k2 := hc2 k l[k] (List.getElem?_eq_getElem hlt)
      simp only [eI] at k1 k2
      obtain ⟨z, hz⟩ : ∃ z : Int, z = l[k] := ⟨_, rfl⟩
      rw [← hz] at k1 k2
      clear hc1 hc2 hz
      go_wp2
      go_quiet (fail)
      go_wp2
      go_roundw
      case rel => exact ⟨k + 1, _, hlt, by go_num, rfl⟩
      case measure => simp [intOf]; omega
    · obtain rfl : k = l.length := by omega
      go_wp2
      go_ret
      exact ⟨rfl, _, rfl⟩
end Go.Proofs.Ytpanfpcfhgnkoaa
