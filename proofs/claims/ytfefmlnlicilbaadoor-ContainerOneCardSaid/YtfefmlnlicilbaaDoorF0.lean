/- Plain mathematics: runs of numbers, right ones, their marks, the runs of marks. No Go in sight. -/
import Derived.Test.YtfefmlnlicilbaaDoorE0
namespace Go.Proofs.YtfefmlnlicilbaaDoor
set_option linter.unusedVariables false

/-- A run: its first number, and how many more. -/
abbrev Rn := UInt16 × UInt16
def lst (r : Rn) : Nat := r.1.toNat + r.2.toNat
def inr (r : Rn) (x : Nat) : Bool := decide (r.1.toNat ≤ x) && decide (x ≤ lst r)
/-- The marks of runs. -/
def mr (l : List Rn) (x : Nat) : Bool := l.any fun r => inr r x
/-- Right runs, the first one from n on. -/
def mayr : Nat → List Rn → Bool
  | _, [] => true
  | n, r :: l => decide (n ≤ r.1.toNat) && (decide (lst r ≤ 65535) && mayr (lst r + 2) l)
theorem inr_iff (r : Rn) (x : Nat) : inr r x = true ↔ r.1.toNat ≤ x ∧ x ≤ lst r := by simp [inr]
theorem mr_cons (r : Rn) (l : List Rn) (x : Nat) : mr (r :: l) x = (inr r x || mr l x) := by simp [mr]
theorem mr_app (l m : List Rn) (x : Nat) : mr (l ++ m) x = (mr l x || mr m x) := by simp [mr]
theorem mr_nil (x : Nat) : mr [] x = false := rfl
theorem mayr_cons {n : Nat} {r : Rn} {l : List Rn} : mayr n (r :: l) = true ↔ n ≤ r.1.toNat ∧ lst r ≤ 65535 ∧ mayr (lst r + 2) l = true := by simp [mayr]
theorem fst_le (r : Rn) : r.1.toNat ≤ lst r := Nat.le_add_right _ _
theorem mayr_mono {n m : Nat} {l : List Rn} (h : n ≤ m) (hm : mayr m l = true) : mayr n l = true := by
  cases l with
  | nil => rfl
  | cons r l =>
    rw [mayr_cons] at hm ⊢
    exact ⟨by omega, hm.2⟩
theorem mr_ge {n : Nat} {l : List Rn} (h : mayr n l = true) {x : Nat} (hx : mr l x = true) : n ≤ x ∧ x ≤ 65535 := by
  induction l generalizing n with
  | nil => rw [mr_nil] at hx; cases hx
  | cons r l ih =>
    obtain ⟨h1, h2, h3⟩ := mayr_cons.1 h
    rw [mr_cons, Bool.or_eq_true, inr_iff] at hx
    rcases hx with ⟨a, b⟩ | hx
    · omega
    · have := ih h3 hx
      have := fst_le r
      omega
/-- One set has one row of right runs. -/
theorem mr_inj {n m : Nat} {a b : List Rn} (ha : mayr n a = true) (hb : mayr m b = true) (h : ∀ x, mr a x = mr b x) : a = b := by
  induction a generalizing n m b with
  | nil =>
    cases b with
    | nil => rfl
    | cons s b =>
      have := h s.1.toNat
      rw [mr_nil, mr_cons, (inr_iff _ _).2 ⟨Nat.le_refl _, fst_le s⟩] at this
      cases this
  | cons r a ih =>
    cases b with
    | nil =>
      have := h r.1.toNat
      rw [mr_nil, mr_cons, (inr_iff _ _).2 ⟨Nat.le_refl _, fst_le r⟩] at this
      cases this
    | cons s b =>
      obtain ⟨a1, a2, a3⟩ := mayr_cons.1 ha
      obtain ⟨b1, b2, b3⟩ := mayr_cons.1 hb
      have ra : mayr r.1.toNat (r :: a) = true := mayr_cons.2 ⟨Nat.le_refl _, a2, a3⟩
      have rb : mayr s.1.toNat (s :: b) = true := mayr_cons.2 ⟨Nat.le_refl _, b2, b3⟩
      have e1 : r.1.toNat = s.1.toNat := by
        have x1 := (mr_ge rb (x := r.1.toNat) (by rw [← h, mr_cons, (inr_iff _ _).2 ⟨Nat.le_refl _, fst_le r⟩]; rfl)).1
        have x2 := (mr_ge ra (x := s.1.toNat) (by rw [h, mr_cons, (inr_iff _ _).2 ⟨Nat.le_refl _, fst_le s⟩]; rfl)).1
        omega
      have f1 := fst_le r
      have f2 := fst_le s
      have e2 : lst r = lst s := by
        rcases Nat.lt_trichotomy (lst r) (lst s) with hlt | heq | hlt
        · have hx := h (lst r + 1)
          rw [mr_cons, mr_cons, (inr_iff s _).2 ⟨by omega, by omega⟩, Bool.true_or] at hx
          have h0 : inr r (lst r + 1) = false := by rw [Bool.eq_false_iff]; intro hh; have := ((inr_iff _ _).1 hh).2; omega
          rw [h0, Bool.false_or] at hx
          have := (mr_ge a3 hx).1
          omega
        · exact heq
        · have hx := h (lst s + 1)
          rw [mr_cons, mr_cons, (inr_iff r _).2 ⟨by omega, by omega⟩, Bool.true_or] at hx
          have h0 : inr s (lst s + 1) = false := by rw [Bool.eq_false_iff]; intro hh; have := ((inr_iff _ _).1 hh).2; omega
          rw [h0, Bool.false_or] at hx
          have := (mr_ge b3 hx.symm).1
          omega
      have er : r = s := by
        refine Prod.ext (u16_eq e1) (u16_eq ?_)
        unfold lst at e2
        omega
      subst er
      rw [ih a3 b3 fun x => ?_]
      have hx := h x
      rw [mr_cons, mr_cons] at hx
      cases hr : inr r x with
      | false => rw [hr, Bool.false_or, Bool.false_or] at hx; exact hx
      | true =>
        have h1 := ((inr_iff _ _).1 hr).2
        have h2 : mr a x = false := by rw [Bool.eq_false_iff]; intro hh; have := (mr_ge a3 hh).1; omega
        have h3 : mr b x = false := by rw [Bool.eq_false_iff]; intro hh; have := (mr_ge b3 hh).1; omega
        rw [h2, h3]
theorem mayr_snoc {n : Nat} {l : List Rn} {r : Rn} : mayr n (l ++ [r]) = true ↔ mayr n l = true ∧ (∀ s ∈ l, lst s + 2 ≤ r.1.toNat) ∧ n ≤ r.1.toNat ∧ lst r ≤ 65535 := by
  induction l generalizing n with
  | nil => simp [mayr]
  | cons s l ih =>
    rw [List.cons_append, mayr_cons, mayr_cons, ih]
    have := fst_le s
    constructor
    · rintro ⟨h1, h2, h3, h4, h5, h6⟩
      refine ⟨⟨h1, h2, h3⟩, ?_, by omega, h6⟩
      intro t ht
      rcases List.mem_cons.1 ht with rfl | ht
      · exact h5
      · exact h4 t ht
    · rintro ⟨⟨h1, h2, h3⟩, h4, h5, h6⟩
      exact ⟨h1, h2, h3, fun t ht => h4 t (List.mem_cons_of_mem _ ht), h4 s List.mem_cons_self, h6⟩
theorem mr_last {l : List Rn} {s : Rn} (h : s ∈ l) : mr l (lst s) = true := by
  unfold mr
  rw [List.any_eq_true]
  exact ⟨s, h, (inr_iff _ _).2 ⟨fst_le s, Nat.le_refl _⟩⟩

/-- The last run is one longer. -/
def bump : List Rn → List Rn
  | [] => []
  | [r] => [(r.1, r.2 + 1)]
  | r :: s :: l => r :: bump (s :: l)
theorem bump_snoc (l : List Rn) (r : Rn) : bump (l ++ [r]) = l ++ [(r.1, r.2 + 1)] := by
  induction l with
  | nil => rfl
  | cons s l ih =>
    cases l with
    | nil => rfl
    | cons t l => rw [List.cons_append, List.cons_append, bump, ← List.cons_append, ih]; rfl
/-- The runs of the marks below n. -/
def rs (p : Nat → Bool) : Nat → List Rn
  | 0 => []
  | n + 1 => if p n = true then (if (decide (0 < n) && p (n - 1)) = true then bump (rs p n) else rs p n ++ [(UInt16.ofNat n, 0)]) else rs p n
theorem rs_inv (p : Nat → Bool) (n : Nat) (hn : n ≤ 65536) : mayr 0 (rs p n) = true ∧ (∀ x, mr (rs p n) x = (decide (x < n) && p x)) ∧ ((decide (0 < n) && p (n - 1)) = true → ∃ l r, rs p n = l ++ [r] ∧ lst r = n - 1) ∧
    (rs p n).length = ct (hm p) n := by
  induction n with
  | zero => exact ⟨rfl, fun x => by simp [rs, mr_nil], fun h => by simp at h, rfl⟩
  | succ n ih =>
    obtain ⟨i1, i2, i3, i4⟩ := ih (by omega)
    cases hp : p n with
    | false =>
      have e : rs p (n + 1) = rs p n := by rw [rs, hp]; simp
      have hh : hm p n = false := by unfold hm; rw [hp]; rfl
      rw [e]
      refine ⟨i1, fun x => ?_, fun h => ?_, by rw [ct, hh, i4]; rfl⟩
      · rw [i2]
        by_cases hx : x = n
        · subst hx; rw [hp]; simp
        · congr 1
          exact decide_eq_decide.2 (by omega)
      · rw [Nat.add_sub_cancel, hp, Bool.and_false] at h; cases h
    | true =>
      cases hq : (decide (0 < n) && p (n - 1)) with
      | true =>
        have e : rs p (n + 1) = bump (rs p n) := by rw [rs, hp, hq]; simp
        obtain ⟨l, r, e1, e2⟩ := i3 hq
        have h0 : 0 < n := by
          rw [Bool.and_eq_true, decide_eq_true_eq] at hq
          exact hq.1
        have hm0 : hm p n = false := by
          unfold hm
          rw [Bool.and_eq_true, decide_eq_true_eq] at hq
          rw [hq.2, hp, decide_eq_false (by omega)]
          rfl
        have h2 : (r.2 + 1).toNat = r.2.toNat + 1 := by
          have hle : r.2.toNat ≤ lst r := Nat.le_add_left _ _
          rw [UInt16.toNat_add]
          have : (1 : UInt16).toNat = 1 := rfl
          rw [this]
          omega
        have hl : lst (r.1, r.2 + 1) = n := by
          unfold lst at e2 ⊢
          simp only
          rw [h2]
          omega
        rw [e, e1, bump_snoc]
        rw [e1] at i1 i2 i4
        obtain ⟨j1, j2, j3, j4⟩ := mayr_snoc.1 i1
        refine ⟨mayr_snoc.2 ⟨j1, j2, j3, by rw [hl]; omega⟩, fun x => ?_, fun _ => ⟨l, _, rfl, by rw [hl]; omega⟩, ?_⟩
        · have hx := i2 x
          rw [mr_app, mr_cons, mr_nil, Bool.or_false] at hx ⊢
          by_cases hxn : x = n
          · subst hxn
            have : inr (r.1, r.2 + 1) x = true := (inr_iff _ _).2 ⟨by have := fst_le r; simp only; omega, by rw [hl]; exact Nat.le_refl _⟩
            rw [this, hp]
            simp
          · have e3 : inr (r.1, r.2 + 1) x = inr r x := by
              rw [Bool.eq_iff_iff, inr_iff, inr_iff, hl, e2]
              simp only
              omega
            rw [e3, hx]
            congr 1
            exact decide_eq_decide.2 (by omega)
        · rw [ct, hm0, ← i4]; simp
      | false =>
        have e : rs p (n + 1) = rs p n ++ [(UInt16.ofNat n, 0)] := by rw [rs, hp, hq]; simp
        have hm1 : hm p n = true := by
          unfold hm
          rw [hp, Bool.true_and]
          by_cases h0 : n = 0
          · simp [h0]
          · rw [decide_eq_true (by omega), Bool.true_and] at hq
            rw [hq]
            simp
        have hf : (UInt16.ofNat n).toNat = n := u16_of n (by omega)
        have hl : lst (UInt16.ofNat n, 0) = n := by unfold lst; simp only; rw [hf]; rfl
        rw [e]
        refine ⟨mayr_snoc.2 ⟨i1, fun s hs => ?_, Nat.zero_le _, by rw [hl]; omega⟩, fun x => ?_, fun _ => ⟨_, _, rfl, by rw [hl]; omega⟩, ?_⟩
        · have h1 := i2 (lst s)
          rw [mr_last hs] at h1
          have h2 := h1.symm
          rw [Bool.and_eq_true, decide_eq_true_eq] at h2
          simp only
          rw [hf]
          rcases Nat.lt_or_ge (lst s + 1) n with h3 | h3
          · omega
          · have h4 : lst s = n - 1 := by omega
            rw [← h4, h2.2, decide_eq_true (by omega)] at hq
            cases hq
        · rw [mr_app, mr_cons, mr_nil, Bool.or_false, i2]
          by_cases hxn : x = n
          · subst hxn
            have : inr (UInt16.ofNat x, 0) x = true := (inr_iff _ _).2 ⟨by simp only; omega, by rw [hl]; exact Nat.le_refl _⟩
            rw [this, hp]
            simp
          · have e3 : inr (UInt16.ofNat n, 0) x = false := by
              rw [Bool.eq_false_iff]
              intro hh
              have := (inr_iff _ _).1 hh
              rw [hl] at this
              simp only at this
              omega
            rw [e3, Bool.or_false]
            congr 1
            exact decide_eq_decide.2 (by omega)
        · rw [List.length_append, i4, ct, hm1]; rfl
theorem mayr_rs (p : Nat → Bool) : mayr 0 (rs p 65536) = true := (rs_inv p 65536 (Nat.le_refl _)).1
theorem mr_rs (p : Nat → Bool) {x : Nat} (hx : x < 65536) : mr (rs p 65536) x = p x := by
  rw [(rs_inv p 65536 (Nat.le_refl _)).2.1, decide_eq_true hx, Bool.true_and]
theorem rs_len (p : Nat → Bool) : (rs p 65536).length = ct (hm p) 65536 := (rs_inv p 65536 (Nat.le_refl _)).2.2.2
/-- Right runs are the runs of their marks. -/
theorem rs_mr {l : List Rn} (h : mayr 0 l = true) {p : Nat → Bool} (hp : ∀ x, x < 65536 → mr l x = p x) : l = rs p 65536 := by
  refine mr_inj h (mayr_rs p) fun x => ?_
  rw [(rs_inv p 65536 (Nat.le_refl _)).2.1]
  by_cases hx : x < 65536
  · rw [decide_eq_true hx, Bool.true_and, hp x hx]
  · rw [decide_eq_false hx, Bool.false_and, Bool.eq_false_iff]
    intro hh
    have := (mr_ge h hh).2
    omega
theorem rs_ext {p q : Nat → Bool} (h : ∀ x, x < 65536 → p x = q x) : rs p 65536 = rs q 65536 :=
  rs_mr (mayr_rs p) fun x hx => (mr_rs p hx).trans (h x hx)

/- Counting. -/
theorem ct_or {p q : Nat → Bool} {n : Nat} (h : ∀ x, x < n → ¬ (p x = true ∧ q x = true)) : ct (fun x => p x || q x) n = ct p n + ct q n := by
  induction n with
  | zero => rfl
  | succ n ih =>
    rw [ct, ct, ct, ih fun x hx => h x (by omega)]
    have := h n (Nat.lt_succ_self n)
    revert this
    cases p n <;> cases q n <;> simp <;> omega
theorem ct_inr (r : Rn) (n : Nat) : ct (inr r) n = min n (lst r + 1) - min n r.1.toNat := by
  have hf := fst_le r
  induction n with
  | zero => simp [ct]
  | succ n ih =>
    rw [ct, ih]
    cases hi : inr r n with
    | true =>
      have := (inr_iff _ _).1 hi
      simp only [Bool.toNat_true]
      omega
    | false =>
      have : ¬ (r.1.toNat ≤ n ∧ n ≤ lst r) := fun h => by rw [(inr_iff _ _).2 h] at hi; cases hi
      simp only [Bool.toNat_false]
      omega
theorem ct_mr_cons {m n : Nat} {r : Rn} {l : List Rn} (h : mayr m (r :: l) = true) : ct (mr (r :: l)) n = (min n (lst r + 1) - min n r.1.toNat) + ct (mr l) n := by
  obtain ⟨h1, h2, h3⟩ := mayr_cons.1 h
  have e : ct (mr (r :: l)) n = ct (fun x => inr r x || mr l x) n := ct_ext fun x _ => mr_cons r l x
  rw [e, ct_or (fun x _ hh => by have := ((inr_iff _ _).1 hh.1).2; have := (mr_ge h3 hh.2).1; omega), ct_inr]
/-- Below the first one there is none. -/
theorem ct_mr_zero {m n : Nat} {l : List Rn} (h : mayr m l = true) (hn : n ≤ m) : ct (mr l) n = 0 := ct_zero fun x hx => by
  rw [Bool.eq_false_iff]
  intro hh
  have := (mr_ge h hh).1
  omega
end Go.Proofs.YtfefmlnlicilbaaDoor
