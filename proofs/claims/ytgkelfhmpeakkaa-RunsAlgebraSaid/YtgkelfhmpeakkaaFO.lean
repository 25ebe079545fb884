/- Walks: calls of runs in the form of laws: right rows, answers by an equation; plain mathematics of the laws. -/
import Derived.Test.YtgkelfhmpeakkaaFK
import Derived.Test.YtgkelfhmpeakkaaFH
namespace Go.Proofs.Ytgkelfhmpeakkaa
open Go.RowKit
set_option linter.unusedVariables false

theorem mayr_len {d : Nat} {A : List Rn} (h : mayr d A = true) : A.length ≤ 65536 := by
  have key : ∀ {d : Nat} {A : List Rn}, mayr d A = true → A = [] ∨ 2 * A.length + d ≤ 65537 := by
    intro d A h
    induction A generalizing d with
    | nil => exact .inl rfl
    | cons r l ih =>
      obtain ⟨h1, h2, h3⟩ := mayr_cons.1 h
      have := fst_le r
      right
      rcases ih h3 with e | e
      · subst e; simp; omega
      · simp only [List.length_cons]; omega
  rcases key h with e | e
  · subst e; simp
  · omega
theorem mr_stop {A : List Rn} (h : mayr 0 A = true) : ∀ n, ct (mr A) (65536 + n) = ct (mr A) 65536 := by
  intro n
  induction n with
  | zero => rw [Nat.add_zero]
  | succ n ih =>
    rw [← Nat.add_assoc, ct, ih]
    have : mr A (65536 + n) = false := by
      rw [Bool.eq_false_iff]
      intro hh
      have := (mr_ge h hh).2
      omega
    rw [this, Bool.toNat_false, Nat.add_zero]
section
variable {a b : List Rn} (ha : mayr 0 a = true) (hb : mayr 0 b = true)
include ha hb
theorem not_may : mayr 0 (pd fNot a b) = true := (pd_right (t := fNot) rfl ha hb).1
theorem and_may : mayr 0 (pd fAnd a b) = true := (pd_right (t := fAnd) rfl ha hb).1
theorem xor_may : mayr 0 (pd fXor a b) = true := (pd_right (t := fXor) rfl ha hb).1
theorem or_may : mayr 0 (pd fOr a b) = true := (pd_right (t := fOr) rfl ha hb).1
theorem or_whole : pd fOr (pd fNot a b) (pd fAnd a b) = a := by
  obtain ⟨h1, h2⟩ := pd_right (t := fOr) rfl (not_may ha hb) (and_may ha hb)
  refine mr_inj h1 ha fun x => ?_
  rw [h2, (pd_right (t := fNot) rfl ha hb).2, (pd_right (t := fAnd) rfl ha hb).2]
  unfold fOr fNot fAnd
  cases mr a x <;> cases mr b x <;> rfl
theorem xor_back : pd fXor (pd fXor a b) b = a := by
  obtain ⟨h1, h2⟩ := pd_right (t := fXor) rfl (xor_may ha hb) hb
  refine mr_inj h1 ha fun x => ?_
  rw [h2, (pd_right (t := fXor) rfl ha hb).2]
  unfold fXor
  cases mr a x <;> cases mr b x <;> rfl
theorem and_none : pd fAnd (pd fNot a b) b = [] := by
  obtain ⟨h1, h2⟩ := pd_right (t := fAnd) rfl (not_may ha hb) hb
  refine mr_inj h1 (m := 0) (b := []) rfl fun x => ?_
  rw [h2, (pd_right (t := fNot) rfl ha hb).2]
  unfold fAnd fNot
  cases mr a x <;> cases mr b x <;> rfl
theorem and_sum : ct (mr (pd fAnd a b)) 65536 + ct (mr (pd fNot a b)) 65536 = ct (mr a) 65536 := by
  rw [← ct_or fun x _ => ?_]
  · refine ct_ext fun x _ => ?_
    rw [(pd_right (t := fNot) rfl ha hb).2, (pd_right (t := fAnd) rfl ha hb).2]
    unfold fNot fAnd
    cases mr a x <;> cases mr b x <;> rfl
  · rw [(pd_right (t := fNot) rfl ha hb).2, (pd_right (t := fAnd) rfl ha hb).2]
    unfold fNot fAnd
    cases mr a x <;> cases mr b x <;> simp
end
theorem btw_may {lo hi : Int} (h0 : 0 ≤ lo ∧ lo ≤ 65536) (h1 : 0 ≤ hi ∧ hi ≤ 65536) : mayr 0 (btw lo hi) = true := by
  rcases Int.lt_or_le lo hi with h | h
  · obtain ⟨p, rfl⟩ : ∃ p : Nat, lo = (p : Int) := ⟨lo.toNat, by omega⟩
    obtain ⟨q, rfl⟩ : ∃ q : Nat, hi = (q : Int) := ⟨hi.toNat, by omega⟩
    obtain ⟨r, e, e1, e2⟩ := btw_right (lo := p) (hi := q) (by omega) (by omega)
    rw [e, mayr_eq, decide_eq_true (Nat.zero_le _), decide_eq_true (p := lst r ≤ 65535) (by omega)]
    rfl
  · unfold btw; rw [if_pos h]; rfl
theorem btw_marks {lo hi : Int} (h0 : 0 ≤ lo ∧ lo ≤ 65536) (h1 : 0 ≤ hi ∧ hi ≤ 65536) (x : Nat) : mr (btw lo hi) x = (decide (lo ≤ (x : Int)) && decide ((x : Int) < hi)) := by
  rcases Int.lt_or_le lo hi with h | h
  · obtain ⟨p, rfl⟩ : ∃ p : Nat, lo = (p : Int) := ⟨lo.toNat, by omega⟩
    obtain ⟨q, rfl⟩ : ∃ q : Nat, hi = (q : Int) := ⟨hi.toNat, by omega⟩
    obtain ⟨r, e, e1, e2⟩ := btw_right (lo := p) (hi := q) (by omega) (by omega)
    rw [e, mr_cons, mr_nil, Bool.or_false, Bool.eq_iff_iff, inr_iff]
    simp only [Bool.and_eq_true, decide_eq_true_eq]
    omega
  · unfold btw
    rw [if_pos h, mr_nil]
    symm
    rw [Bool.eq_false_iff]
    intro hh
    simp only [Bool.and_eq_true, decide_eq_true_eq] at hh
    omega
/-- A set with a range turned. -/
def flr (a : List Rn) (lo hi : Int) : List Rn := pd fXor a (btw (clp lo) (clp hi))
theorem flr_may {a : List Rn} (ha : mayr 0 a = true) (lo hi : Int) : mayr 0 (flr a lo hi) = true := xor_may ha (btw_may (clp_le lo) (clp_le hi))
theorem flr_back {a : List Rn} (ha : mayr 0 a = true) (lo hi : Int) : flr (flr a lo hi) lo hi = a := xor_back ha (btw_may (clp_le lo) (clp_le hi))

theorem land (v u : Value) (A B R : List Rn) (w : World) (hv : Gs2 eR w 0 w.heap.size v A) (hu : Gs2 eR w 0 w.heap.size u B) (hA : mayr 0 A = true) (hB : mayr 0 B = true) (hR : pd fAnd A B = R) :
    Calls Try.prog 7 #[v, u] w fun e w' => ∃ A' c, e = .returned (.slice A' R.length c) ∧ Gs2 eR w' 0 w'.heap.size (.slice A' R.length c) R ∧ Below w.heap.size w w' := by
  refine (rand_any v u A B w hv hu (Nat.le_trans (mayr_len hA) (by omega)) (Nat.le_trans (mayr_len hB) (by omega))).mono ?_
  rintro e w' ⟨v', rfl, o, b⟩
  rw [hR] at o
  have s := o.sl.more (Nat.zero_le _) (Nat.le_refl _)
  obtain ⟨A', c, rfl, -⟩ := o.sl
  exact ⟨A', c, rfl, s, b⟩
theorem lor (v u : Value) (A B R : List Rn) (w : World) (hv : Gs2 eR w 0 w.heap.size v A) (hu : Gs2 eR w 0 w.heap.size u B) (hA : mayr 0 A = true) (hB : mayr 0 B = true) (hR : pd fOr A B = R) :
    Calls Try.prog 8 #[v, u] w fun e w' => ∃ A' c, e = .returned (.slice A' R.length c) ∧ Gs2 eR w' 0 w'.heap.size (.slice A' R.length c) R ∧ Below w.heap.size w w' := by
  refine (ror_any v u A B w hv hu (Nat.le_trans (mayr_len hA) (by omega)) (Nat.le_trans (mayr_len hB) (by omega))).mono ?_
  rintro e w' ⟨v', rfl, o, b⟩
  rw [hR] at o
  have s := o.sl.more (Nat.zero_le _) (Nat.le_refl _)
  obtain ⟨A', c, rfl, -⟩ := o.sl
  exact ⟨A', c, rfl, s, b⟩
theorem lnot (v u : Value) (A B R : List Rn) (w : World) (hv : Gs2 eR w 0 w.heap.size v A) (hu : Gs2 eR w 0 w.heap.size u B) (hA : mayr 0 A = true) (hB : mayr 0 B = true) (hR : pd fNot A B = R) :
    Calls Try.prog 9 #[v, u] w fun e w' => ∃ A' c, e = .returned (.slice A' R.length c) ∧ Gs2 eR w' 0 w'.heap.size (.slice A' R.length c) R ∧ Below w.heap.size w w' := by
  refine (rnot_any v u A B w hv hu (Nat.le_trans (mayr_len hA) (by omega)) (Nat.le_trans (mayr_len hB) (by omega))).mono ?_
  rintro e w' ⟨v', rfl, o, b⟩
  rw [hR] at o
  have s := o.sl.more (Nat.zero_le _) (Nat.le_refl _)
  obtain ⟨A', c, rfl, -⟩ := o.sl
  exact ⟨A', c, rfl, s, b⟩
theorem lxor (v u : Value) (A B R : List Rn) (w : World) (hv : Gs2 eR w 0 w.heap.size v A) (hu : Gs2 eR w 0 w.heap.size u B) (hA : mayr 0 A = true) (hB : mayr 0 B = true) (hR : pd fXor A B = R) :
    Calls Try.prog 10 #[v, u] w fun e w' => ∃ A' c, e = .returned (.slice A' R.length c) ∧ Gs2 eR w' 0 w'.heap.size (.slice A' R.length c) R ∧ Below w.heap.size w w' := by
  refine (rxor_any v u A B w hv hu (Nat.le_trans (mayr_len hA) (by omega)) (Nat.le_trans (mayr_len hB) (by omega))).mono ?_
  rintro e w' ⟨v', rfl, o, b⟩
  rw [hR] at o
  have s := o.sl.more (Nat.zero_le _) (Nat.le_refl _)
  obtain ⟨A', c, rfl, -⟩ := o.sl
  exact ⟨A', c, rfl, s, b⟩
theorem lflip (v : Value) (A R : List Rn) (lo hi : Int) (w : World) (hv : Gs2 eR w 0 w.heap.size v A) (hA : mayr 0 A = true) (hR : flr A lo hi = R) :
    Calls Try.prog 11 #[v, .int .i64 lo, .int .i64 hi] w fun e w' => ∃ A' c, e = .returned (.slice A' R.length c) ∧ Gs2 eR w' 0 w'.heap.size (.slice A' R.length c) R ∧ Below w.heap.size w w' := by
  refine (rflip_any v A lo hi w hv (Nat.le_trans (mayr_len hA) (by omega))).mono ?_
  rintro e w' ⟨v', rfl, o, b⟩
  have e2 : pd fXor A (btw (clp lo) (clp hi)) = R := hR
  rw [e2] at o
  have s := o.sl.more (Nat.zero_le _) (Nat.le_refl _)
  obtain ⟨A', c, rfl, -⟩ := o.sl
  exact ⟨A', c, rfl, s, b⟩
theorem lsame (v u : Value) (A B : List Rn) (w : World) (hv : Gs2 eR w 0 w.heap.size v A) (hu : Gs2 eR w 0 w.heap.size u B) (h : A = B) :
    Calls Try.prog 16 #[v, u] w fun e w' => e = .returned (.bool true) ∧ Below w.heap.size w w' := by
  refine (refsame_any v u A B 0 _ 0 _ w hv hu).mono ?_
  rintro e w' ⟨rfl, k, rfl⟩
  rw [decide_eq_true h]
  exact ⟨rfl, below_drewN (Below.refl _ _) k⟩
theorem lmay (v : Value) (A : List Rn) (w : World) (hv : Gs2 eR w 0 w.heap.size v A) (b : Bool) (h : mayr 0 A = b) :
    Calls Try.prog 18 #[v] w fun e w' => e = .returned (.bool b) ∧ Below w.heap.size w w' := by
  rw [← h]
  exact rmay_any v A w hv
end Go.Proofs.Ytgkelfhmpeakkaa
