/- Runs in the form of laws (cut from stages 4 to 6) -/
import Derived.Test.YtfefmlnlicilbaaDoorUFL
namespace Go.Proofs.YtfefmlnlicilbaaDoor
open Go.RowKit
set_option linter.unusedVariables false

theorem mayr_len {d : Nat} {A : List Rn} (h : mayr d A = true) : A.length ≤ 65536 := by
  have key : ∀ {d : Nat} {A : List Rn}, mayr d A = true → A = [] ∨ 2 * A.length + d ≤ 65537 := by
    intro d A h
    induction A generalizing d with
    | nil => exact .inl rfl
    | cons r l ih =>
      obtain ⟨h1, h2, h3⟩ := mayr_cons.1 h
      have := fst_le r
      right
      rcases ih h3 with e | e
      · subst e; simp; omega
      · simp only [List.length_cons]; omega
  rcases key h with e | e
  · subst e; simp
  · omega
theorem btw_may {lo hi : Int} (h0 : 0 ≤ lo ∧ lo ≤ 65536) (h1 : 0 ≤ hi ∧ hi ≤ 65536) : mayr 0 (btw lo hi) = true := by
  rcases Int.lt_or_le lo hi with h | h
  · obtain ⟨p, rfl⟩ : ∃ p : Nat, lo = (p : Int) := ⟨lo.toNat, by omega⟩
    obtain ⟨q, rfl⟩ : ∃ q : Nat, hi = (q : Int) := ⟨hi.toNat, by omega⟩
    obtain ⟨r, e, e1, e2⟩ := btw_right (lo := p) (hi := q) (by omega) (by omega)
    rw [e, mayr_eq, decide_eq_true (Nat.zero_le _), decide_eq_true (p := lst r ≤ 65535) (by omega)]
    rfl
  · unfold btw; rw [if_pos h]; rfl
theorem btw_marks {lo hi : Int} (h0 : 0 ≤ lo ∧ lo ≤ 65536) (h1 : 0 ≤ hi ∧ hi ≤ 65536) (x : Nat) : mr (btw lo hi) x = (decide (lo ≤ (x : Int)) && decide ((x : Int) < hi)) := by
  rcases Int.lt_or_le lo hi with h | h
  · obtain ⟨p, rfl⟩ : ∃ p : Nat, lo = (p : Int) := ⟨lo.toNat, by omega⟩
    obtain ⟨q, rfl⟩ : ∃ q : Nat, hi = (q : Int) := ⟨hi.toNat, by omega⟩
    obtain ⟨r, e, e1, e2⟩ := btw_right (lo := p) (hi := q) (by omega) (by omega)
    rw [e, mr_cons, mr_nil, Bool.or_false, Bool.eq_iff_iff, inr_iff]
    simp only [Bool.and_eq_true, decide_eq_true_eq]
    omega
  · unfold btw
    rw [if_pos h, mr_nil]
    symm
    rw [Bool.eq_false_iff]
    intro hh
    simp only [Bool.and_eq_true, decide_eq_true_eq] at hh
    omega
theorem rlist_p (v : Value) (R : List Rn) (P : Nat → Bool) (N : Nat) (w : World) (hv : Gs2 eR w 0 w.heap.size v R) (hR : mayr 0 R = true) (hP : mr R = P) (hN : ct P 65536 = N) :
    Calls Tryd.prog 45 #[v] w fun e w' => ∃ A c, e = .returned (.slice A N c) ∧ Gs e16 w' 0 w'.heap.size (.slice A N c) (ls P 65536) ∧ Below w.heap.size w w' := by
  refine (rlist_any v R w hv hR).mono ?_
  rintro e w' ⟨v', rfl, o, b⟩
  rw [hP] at o
  have s := o.sl.more (Nat.zero_le _) (Nat.le_refl _)
  obtain ⟨A, c, rfl, -⟩ := o.sl
  rw [ls_ct, hN] at s ⊢
  exact ⟨A, c, rfl, s, b⟩
theorem rlen_p (v : Value) (R : List Rn) (P : Nat → Bool) (N : Nat) (w : World) (hv : Gs2 eR w 0 w.heap.size v R) (hR : mayr 0 R = true) (hP : mr R = P) (hN : ct P 65536 = N) :
    Calls Tryd.prog 49 #[v] w fun e w' => e = .returned (.int .i64 N) ∧ Below w.heap.size w w' := rlen_any v R N w hv hR (by rw [hP]; exact hN)
theorem Row.step {w w' : World} {g : Nat} {t : TypeId} {cs : Array Value} (h : Row w g t cs) (b : Below w.heap.size w w') : Row w' g t cs := h.below b h.lt
end Go.Proofs.YtfefmlnlicilbaaDoor
