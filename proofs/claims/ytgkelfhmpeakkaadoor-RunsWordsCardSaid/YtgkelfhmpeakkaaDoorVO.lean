/- Walks: right runs as words. -/
import Derived.Test.YtgkelfhmpeakkaaDoorVL
namespace Go.Proofs.YtgkelfhmpeakkaaDoor
open Go.RowKit
set_option linter.unusedVariables false

theorem mayr_mid {r : Rn} {m : List Rn} : ∀ {n : Nat} {l : List Rn}, mayr n (l ++ r :: m) = true → (∀ s ∈ l, lst s + 2 ≤ r.1.toNat) ∧ n ≤ r.1.toNat ∧ lst r ≤ 65535 := by
  intro n l
  induction l generalizing n with
  | nil =>
    intro h
    obtain ⟨a1, a2, -⟩ := mayr_cons.1 h
    exact ⟨fun s hs => (by cases hs), a1, a2⟩
  | cons s l ih =>
    intro h
    obtain ⟨a1, a2, a3⟩ := mayr_cons.1 (show mayr n (s :: (l ++ r :: m)) = true from h)
    obtain ⟨b1, b2, b3⟩ := ih a3
    have := fst_le s
    refine ⟨fun t ht => ?_, by omega, b3⟩
    rcases List.mem_cons.1 ht with e | e
    · rw [e]; omega
    · exact b1 t e
theorem flp_run {A : List Rn} (h : mayr 0 A = true) {k : Nat} {r : Rn} (hd : A.drop k = r :: A.drop (k + 1)) {f q : Nat} (hf : f = r.1.toNat) (hq : q = r.2.toNat) : lst r ≤ 65535 ∧ wm (flp (mr (A.take k)) (f : Int) ((f : Int) + (q : Int) + 1)) = wm (mr (A.take (k + 1))) := by
  have e : A = A.take k ++ r :: A.drop (k + 1) := by rw [← hd, List.take_append_drop]
  have h2 := h
  rw [e] at h2
  obtain ⟨b1, -, b3⟩ := mayr_mid h2
  have et : A.take (k + 1) = A.take k ++ [r] := by
    have hk : k < A.length := by
      rcases Nat.lt_or_ge k A.length with g | g
      · exact g
      · rw [List.drop_eq_nil_of_le g] at hd; cases hd
    have hr : A[k]? = some r := by
      have := congrArg (fun L => L[0]?) hd
      simpa using this
    rw [List.take_add_one, hr]
    rfl
  refine ⟨b3, wm_ext fun x hx => ?_⟩
  rw [et, mr_app]
  have hone : mr [r] x = inr r x := by simp [mr]
  rw [hone]
  unfold flp
  have hin : (decide ((f : Int) ≤ (x : Int)) && decide ((x : Int) < (f : Int) + (q : Int) + 1)) = inr r x := by
    unfold inr lst
    rw [← hf, ← hq]
    congr 1
    · exact decide_eq_decide.2 (by omega)
    · exact decide_eq_decide.2 (by omega)
  rw [hin]
  cases hi : inr r x with
  | false => cases mr (A.take k) x <;> rfl
  | true =>
    have hx1 := ((inr_iff r x).1 hi).1
    have hz : mr (A.take k) x = false := by
      cases hm : mr (A.take k) x with
      | false => rfl
      | true =>
        unfold mr at hm
        obtain ⟨s, hs, hsx⟩ := List.any_eq_true.1 hm
        have h3 := b1 s hs
        have h4 := ((inr_iff s x).1 hsx).2
        omega
    rw [hz]
    rfl

set_option maxHeartbeats 4000000 in
theorem words_of (v : Value) (A : List Rn) (w : World) (hv : Gs2 eR w 0 w.heap.size v A) (hA : mayr 0 A = true) :
    Calls Tryd.prog 6 #[v] w fun e w' => ∃ A' c, e = .returned (.slice A' 1024 c) ∧ Gs e64 w' 0 w'.heap.size (.slice A' 1024 c) (wm (mr A)) ∧ Below w.heap.size w w' := by
  have hlen := hv.len
  have HV := Lib.hid hv
  obtain ⟨A1, c1, rfl, -⟩ := hv
  have HA := Lib.hid hA
  have h0 : wm (mk []) = wm (mr (A.take 0)) := wm_ext fun x hx => rfl
  have H0 := Lib.hid h0
  clear hA h0
  go_enter Tryd.func6, Tryd.ntmps6
  go_wp2_with fail
  refine (wof_p _ [] _ (Gs.nil_ _ _ _)).mono ?_
  rw [H0.out]
  rintro e w1 ⟨A2, c2, rfl, g1, b1⟩
  have O1 := Lib.hid g1
  have B1 := Lib.hid b1
  clear g1 b1
  go_wp2_with fail
  go_loopw [3, 9] (fun u s9 wr => ∃ k : Nat, k ≤ A.length ∧ s9 = .int .i64 k ∧ (∃ A' c, u = .slice A' 1024 c) ∧ Gs e64 wr 0 wr.heap.size u (wm (mr (A.take k))) ∧ Below w.heap.size w wr) (fun _ i _ => ((A.length : Int) - intOf i).toNat)
  case atStart => exact ⟨0, Nat.zero_le _, rfl, ⟨_, _, rfl⟩, O1.out, B1.out⟩
  case round =>
    obtain ⟨k, hk, rfl, ⟨A', c', rfl⟩, ho, hbl⟩ := hrel
    have OR := Lib.hid ho
    have HB := Lib.hid hbl
    by_cases hlt : k < A.length
    · obtain ⟨b, off, r, e1, -, hb, hdr, hg, c0, c2⟩ := gs2_at HV.out hlt
      subst e1
      rw [← hbl.cell (p := ⟨b, off + k * 2, none⟩) hb] at c0
      rw [← hbl.cell (p := ⟨b, off + k * 2 + 1, none⟩) hb] at c2
      have hf := u16_lt r.1
      have hm := u16_lt r.2
      obtain ⟨f, hfe⟩ : ∃ f, f = r.1.toNat := ⟨_, rfl⟩
      obtain ⟨q, hqe⟩ : ∃ q, q = r.2.toNat := ⟨_, rfl⟩
      have FL := Lib.hid (flp_run HA.out hdr hfe hqe).2
      rw [← hfe] at c0 hf
      rw [← hqe] at c2 hm
      have HK := Lib.hid hlt
      have w1 : IntKind.i64.wrap (f : Int) = f := by simp [IntKind.wrap, IntKind.bits, IntKind.signed]; omega
      have w2 : IntKind.i64.wrap (q : Int) = q := by simp [IntKind.wrap, IntKind.bits, IntKind.signed]; omega
      have w3 : IntKind.i64.wrap ((f : Int) + (q : Int)) = (f : Int) + q := by simp [IntKind.wrap, IntKind.bits, IntKind.signed]; omega
      have w4 : IntKind.i64.wrap ((f : Int) + (q : Int) + 1) = (f : Int) + q + 1 := by simp [IntKind.wrap, IntKind.bits, IntKind.signed]; omega
      have hki : (k : Int) < (A.length : Int) := by omega
      have wk2 : wrap64 ((k : Int) + 1) = (k : Int) + 1 := by unfold wrap64; omega
      have WK := Lib.hid wk2
      have OA := Lib.hid (OR.out.step ((Below.refl wr.heap.size wr).alloc (Nat.le_refl _) (.cells #[.int .u16 (f : Int), .int .u16 (q : Int)] 40)))
      have BA := Lib.hid (hbl.alloc hbl.size (.cells #[.int .u16 (f : Int), .int .u16 (q : Int)] 40))
      clear ho hbl hdr hg hfe hqe hb hk hlt wk2
      go_wp2_with fail
      refine (wflip_p _ _ _ _ _ OA.out).mono ?_
      rw [FL.out]
      rintro e w5 ⟨A5, c5, rfl, g5, b5⟩
      have O5 := Lib.hid g5
      have B5 := Lib.hid (BA.out.trans (b5.mono BA.out.size))
      clear g5 b5
      go_wp2_with fail
      exact ⟨⟨k + 1, HK.out, by go_num, ⟨_, _, rfl⟩, O5.out, B5.out⟩, step_up HK.out (by first | rfl | exact WK.out)⟩
    · obtain rfl : k = A.length := by omega
      rw [List.take_length] at ho
      have OE := Lib.hid ho
      clear ho hbl hk hlt OR
      go_wp2
      go_ret
      exact ⟨_, _, rfl, OE.out, HB.out⟩
end Go.Proofs.YtgkelfhmpeakkaaDoor
