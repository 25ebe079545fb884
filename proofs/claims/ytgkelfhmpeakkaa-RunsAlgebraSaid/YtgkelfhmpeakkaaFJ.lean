/- Walks: the document's Marks of right runs. -/
import Derived.Test.YtgkelfhmpeakkaaFI
import Derived.Test.YtgkelfhmpeakkaaRg
namespace Go.Proofs.Ytgkelfhmpeakkaa
open Go.RowKit
set_option linter.unusedVariables false

/-- The marks of the first runs, and of the next run's first numbers. -/
def mrk (A : List Rn) (i f k x : Nat) : Bool := mr (A.take i) x || (decide (f ≤ x) && decide (x < f + k))
theorem mrk_zero (A : List Rn) (i f : Nat) : mA 65536 (mrk A i f 0) = mA 65536 (mr (A.take i)) := by
  congr 1
  funext x
  unfold mrk
  have : (decide (f ≤ x) && decide (x < f + 0)) = false := by simp
  rw [this, Bool.or_false]
theorem mrk_step (A : List Rn) (i f k : Nat) : mA 65536 (mrk A i f (k + 1)) = (mA 65536 (mrk A i f k)).setIfInBounds (f + k) (.bool true) := by
  rw [mA_set]
  congr 1
  funext x
  by_cases h : x = f + k
  · rw [if_pos h]
    unfold mrk
    rw [decide_eq_true (by omega), decide_eq_true (by omega)]
    simp
  · rw [if_neg h]
    unfold mrk
    congr 2
    exact decide_eq_decide.2 (by omega)
theorem mrk_full (A : List Rn) (i : Nat) (r : Rn) (h : A[i]? = some r) : mA 65536 (mrk A i r.1.toNat (r.2.toNat + 1)) = mA 65536 (mr (A.take (i + 1))) := by
  congr 1
  funext x
  unfold mrk
  rw [List.take_add_one, h, mr_app]
  congr 1
  show _ = mr [r] x
  rw [mr_cons, mr_nil, Bool.or_false]
  unfold inr lst
  congr 1
  exact decide_eq_decide.2 (by omega)
theorem mayr_at {d : Nat} {A : List Rn} (h : mayr d A = true) {i : Nat} {r : Rn} (hi : A[i]? = some r) : lst r ≤ 65535 := by
  induction A generalizing d i with
  | nil => simp at hi
  | cons s l ih =>
    obtain ⟨h1, h2, h3⟩ := mayr_cons.1 h
    cases i with
    | zero => simp at hi; subst hi; exact h2
    | succ i => exact ih h3 (by simpa using hi)
set_option maxHeartbeats 8000000 in
set_option maxRecDepth 100000 in
theorem refmarks_any (v : Value) (A : List Rn) (w : World) (hv : Gs2 eR w 0 w.heap.size v A) (hA : mayr 0 A = true) :
    Calls Try.prog 13 #[v] w fun e w' => e = .returned (.pointer (some ⟨w.heap.size, 0, none⟩)) ∧ Row w' w.heap.size 53 (mA 65536 (mr A)) ∧ Below w.heap.size w w' := by
  have hlen := hv.len
  have HV := Lib.hid hv
  have HA := Lib.hid hA
  obtain ⟨A1, c1, rfl, -⟩ := hv
  have hz := (zero_of_info zeroM).1
  generalize hZ : mA 65536 (fun _ => false) = Z at hz
  clear hA
  go_enter Try.func13, Try.ntmps13
  go_wp2
  subst hZ
  go_loopw [4] (fun i wr => ∃ k : Nat, k ≤ A.length ∧ i = .int .i64 k ∧ Row wr w.heap.size 53 (mA 65536 (mr (A.take k))) ∧ Below w.heap.size w wr) (fun i _ => A.length - (intOf i).toNat)
  case atStart => exact ⟨0, Nat.zero_le _, rfl, Row.new _ _ _, (Below.refl _ _).alloc (Nat.le_refl _) _⟩
  case round =>
    obtain ⟨i, hi, rfl, hr, hbl⟩ := hrel
    have HR := Lib.hid hr
    have HB := Lib.hid hbl
    by_cases hlt : i < A.length
    · obtain ⟨b, off, r, e1, -, hb, hdr, hg, c0, c2⟩ := gs2_at HV.out hlt
      subst e1
      have hf := u16_lt r.1
      have hm := u16_lt r.2
      have h65 : r.1.toNat + r.2.toNat ≤ 65535 := mayr_at HA.out hg
      have hfull := mrk_full A i r hg
      obtain ⟨f, hfe⟩ : ∃ f, f = r.1.toNat := ⟨_, rfl⟩
      obtain ⟨q, hqe⟩ : ∃ q, q = r.2.toNat := ⟨_, rfl⟩
      rw [← hfe, ← hqe] at h65 hfull
      rw [← hfe] at c0 hf
      rw [← hqe] at c2 hm
      have hii : (i : Int) < A.length := by omega
      have C0W := Lib.hid c0
      have w1 : IntKind.i64.wrap (f : Int) = f := by simp [IntKind.wrap, IntKind.bits, IntKind.signed]; omega
      have w2 : IntKind.i64.wrap (q : Int) = q := by simp [IntKind.wrap, IntKind.bits, IntKind.signed]; omega
      have HFU := Lib.hid hfull
      have H65 := Lib.hid h65
      have HI := Lib.hid hlt
      clear hdr hg hfe hqe hfull h65 hr hbl hf hm
      go_wp2_with fail
      go_loopw [5] (fun s wx => ∃ k : Nat, k ≤ q + 1 ∧ s = .int .i64 k ∧ Row wx w.heap.size 53 (mA 65536 (mrk A i f k)) ∧ Below w.heap.size w wx) (fun s _ => q + 1 - (intOf s).toNat)
      case atStart => exact ⟨0, Nat.zero_le _, rfl, by rw [mrk_zero]; exact HR.out, HB.out⟩
      case round =>
        obtain ⟨k, hk, rfl, hr, hbl⟩ := hrel
        have HR2 := Lib.hid hr
        have HB2 := Lib.hid hbl
        rw [← hbl.cell (p := ⟨b, off + i * 2, none⟩) hb] at c0
        rw [← hbl.cell (p := ⟨b, off + i * 2 + 1, none⟩) hb] at c2
        by_cases hkq : k ≤ q
        · have hkqi : (k : Int) ≤ q := by omega
          have hkbd : (k : Int) ≤ 65535 := by have := H65.out; omega
          have w64 : wrap64 ((k : Int) + 1) = (k : Int) + 1 := by simp [wrap64]; omega
          have w3 : IntKind.i64.wrap ((f : Int) + k) = ((f + k : Nat) : Int) := by have := H65.out; simp [IntKind.wrap, IntKind.bits, IntKind.signed]; omega
          have hyl : ((f + k : Nat) : Int) < 65536 := by have := H65.out; omega
          have k1 := hr.cell (f + k)
          rw [mA_at _ _ _ (by have := H65.out; omega)] at k1
          have k2 := hr.frozen (f + k)
          obtain ⟨y, hy⟩ : ∃ y, y = f + k := ⟨_, rfl⟩
          have hst := mrk_step A i f k
          rw [← hy] at w3 hyl k1 k2 hst
          have HST := Lib.hid hst
          have HK := Lib.hid hkq
          have c0w := C0W.out
          clear hr hbl hst hy hkq hk c0
          go_wp2_with fail
          have hSc : Below w.heap.size w wr.drew := HB2.out.drew
          refine wp_region_held_drew (S := fun W => Below w.heap.size w W) (by kernel_rfl) hSc (fun _ => ?_)
          refine held_take 0 ?_ rfl (by kernel_rfl) (by kernel_rfl) (by kernel_rfl) (fun _ _ _ h => h) (by rfl) ?_ hSc ?_
          rotate_left
          · (intro W hSW; go_simp; try rfl)
          try simp only [Act.put, List.setIfInBounds_toArray, List.set_cons_zero, List.set_cons_succ]
          refine held_take 1 ?_ rfl (by kernel_rfl) (by kernel_rfl) (by kernel_rfl) (fun _ _ _ h => h) (by rfl) ?_ hSc ?_
          rotate_left
          · (intro W hSW; go_simp; try rfl)
          try simp only [Act.put, List.setIfInBounds_toArray, List.set_cons_zero, List.set_cons_succ]
          refine held_take 2 ?_ rfl (by kernel_rfl) (by kernel_rfl) (by kernel_rfl) (fun _ _ _ h => h) (by rfl) ?_ hSc ?_
          rotate_left
          · (intro W hSW; go_simp; try rfl)
          try simp only [Act.put, List.setIfInBounds_toArray, List.set_cons_zero, List.set_cons_succ]
          refine held_take 3 ?_ rfl (by kernel_rfl) (by kernel_rfl) (by kernel_rfl) (fun _ _ _ h => h) (by rfl) ?_ hSc ?_
          rotate_left
          · (intro W hSW; go_simp; try rfl)
          try simp only [Act.put, List.setIfInBounds_toArray, List.set_cons_zero, List.set_cons_succ]
          refine held_take 4 ?_ rfl (by kernel_rfl) (by kernel_rfl) (by kernel_rfl) (fun _ _ _ h => h) (by rfl) ?_ hSc ?_
          rotate_left
          · (intro W hSW; go_simp; try rfl)
          try simp only [Act.put, List.setIfInBounds_toArray, List.set_cons_zero, List.set_cons_succ]
          refine held_take 5 ?_ rfl (by kernel_rfl) (by kernel_rfl) (by kernel_rfl) (fun _ _ _ h => h) (by rfl) ?_ hSc ?_
          rotate_left
          · (intro W hSW; have c0q := (hSW.cell (p := ⟨b, off + i * 2, none⟩) hb).trans c0w; go_simp; try rfl)
          try simp only [Act.put, List.setIfInBounds_toArray, List.set_cons_zero, List.set_cons_succ]
          refine held_take 6 ?_ rfl (by kernel_rfl) (by kernel_rfl) (by kernel_rfl) (fun _ _ _ h => h) (by rfl) ?_ hSc ?_
          rotate_left
          · (intro W hSW; go_simp; try rfl)
          try simp only [Act.put, List.setIfInBounds_toArray, List.set_cons_zero, List.set_cons_succ]
          refine held_take 7 ?_ rfl (by kernel_rfl) (by kernel_rfl) (by kernel_rfl) (fun _ _ _ h => h) (by rfl) ?_ hSc ?_
          rotate_left
          · (intro W hSW; go_simp; try rfl)
          try simp only [Act.put, List.setIfInBounds_toArray, List.set_cons_zero, List.set_cons_succ]
          refine held_take 8 ?_ rfl (by kernel_rfl) (by kernel_rfl) (by kernel_rfl) (fun _ _ _ h => h) (by rfl) ?_ hSc ?_
          rotate_left
          · (intro W hSW; go_simp; try rfl)
          try simp only [Act.put, List.setIfInBounds_toArray, List.set_cons_zero, List.set_cons_succ]
          refine held_take 9 ?_ rfl (by kernel_rfl) (by kernel_rfl) (by kernel_rfl) (fun _ _ _ h => h) (by rfl) ?_ hSc ?_
          rotate_left
          · (intro W hSW; go_simp; try rfl)
          try simp only [Act.put, List.setIfInBounds_toArray, List.set_cons_zero, List.set_cons_succ]
          refine held_take 10 ?_ rfl (by kernel_rfl) (by kernel_rfl) (by kernel_rfl) (fun _ _ _ h => h) (by rfl) ?_ hSc ?_
          rotate_left
          · (intro W hSW; go_simp; try rfl)
          try simp only [Act.put, List.setIfInBounds_toArray, List.set_cons_zero, List.set_cons_succ]
          refine held_next 11 rfl (by kernel_rfl) (by rfl) ?_
          go_simp
          refine ⟨fun W => Below w.heap.size w W, fun W hW => hW, (HB2.out.drew).grown (grown_set _ _ _ _) HB2.out.size (fun j h => by injection h with h; subst h; exact Nat.le_refl _), ?_⟩
          refine wpAnyH_done (by kernel_rfl) ?_ _
          go_wp2
          go_roundw
          case rel => exact ⟨k + 1, by have := HK.out; omega, by go_num, by rw [HST.out]; exact Row.set_ HR2.out y _, (HB2.out.drew).grown (grown_set _ _ _ _) HB2.out.size (fun j h => by injection h with h; subst h; exact Nat.le_refl _)⟩
          case measure => have := HK.out; simp [intOf]; omega
        · have hke : k = q + 1 := by omega
          have hkqi : ¬ ((k : Int) ≤ q) := by omega
          have hkqd : decide ((k : Int) ≤ q) = false := decide_eq_false (by omega)
          have HR3 := Lib.hid (show Row wr w.heap.size 53 (mA 65536 (mr (A.take (i + 1)))) from by rw [← HFU.out, ← hke]; exact HR2.out)
          clear hr hbl hk hkq hke
          go_wp2
          refine ⟨⟨i + 1, HI.out, by go_num, HR3.out, HB2.out⟩, by have := HI.out; simp [intOf]; omega⟩
    · obtain rfl : i = A.length := by omega
      rw [List.take_length] at hr
      have HR2 := Lib.hid hr
      clear hr hbl
      go_wp2
      go_ret
      exact ⟨rfl, HR2.out, HB.out⟩
end Go.Proofs.Ytgkelfhmpeakkaa
