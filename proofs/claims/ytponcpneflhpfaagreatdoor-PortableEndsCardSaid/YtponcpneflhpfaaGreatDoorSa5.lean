/- Plain mathematics: pieces and numbers, part by part of one key. No Go in sight. -/
import Derived.Test.YtponcpneflhpfaaGreatDoorSa4
namespace Go.Proofs.YtponcpneflhpfaaGreatDoor
set_option linter.unusedVariables false

/-- A run: its first number, and how many more. -/
abbrev Rn := UInt16 × UInt16
def lst (r : Rn) : Nat := r.1.toNat + r.2.toNat
def inr (r : Rn) (x : Nat) : Bool := decide (r.1.toNat ≤ x) && decide (x ≤ lst r)
/-- The marks of runs. -/
def mr (l : List Rn) (x : Nat) : Bool := l.any fun r => inr r x
/-- Right runs, the first one from n on. -/
def mayr : Nat → List Rn → Bool
  | _, [] => true
  | n, r :: l => decide (n ≤ r.1.toNat) && (decide (lst r ≤ 65535) && mayr (lst r + 2) l)
theorem inr_iff (r : Rn) (x : Nat) : inr r x = true ↔ r.1.toNat ≤ x ∧ x ≤ lst r := by simp [inr]
theorem mr_cons (r : Rn) (l : List Rn) (x : Nat) : mr (r :: l) x = (inr r x || mr l x) := by simp [mr]
theorem mr_app (l m : List Rn) (x : Nat) : mr (l ++ m) x = (mr l x || mr m x) := by simp [mr]
theorem mr_nil (x : Nat) : mr [] x = false := rfl
theorem mayr_cons {n : Nat} {r : Rn} {l : List Rn} : mayr n (r :: l) = true ↔ n ≤ r.1.toNat ∧ lst r ≤ 65535 ∧ mayr (lst r + 2) l = true := by simp [mayr]
theorem fst_le (r : Rn) : r.1.toNat ≤ lst r := Nat.le_add_right _ _
theorem mayr_mono {n m : Nat} {l : List Rn} (h : n ≤ m) (hm : mayr m l = true) : mayr n l = true := by
  cases l with
  | nil => rfl
  | cons r l =>
    rw [mayr_cons] at hm ⊢
    exact ⟨by omega, hm.2⟩
theorem mr_ge {n : Nat} {l : List Rn} (h : mayr n l = true) {x : Nat} (hx : mr l x = true) : n ≤ x ∧ x ≤ 65535 := by
  induction l generalizing n with
  | nil => rw [mr_nil] at hx; cases hx
  | cons r l ih =>
    obtain ⟨h1, h2, h3⟩ := mayr_cons.1 h
    rw [mr_cons, Bool.or_eq_true, inr_iff] at hx
    rcases hx with ⟨a, b⟩ | hx
    · omega
    · have := ih h3 hx
      have := fst_le r
      omega
/-- One set has one row of right runs. -/
theorem mr_inj {n m : Nat} {a b : List Rn} (ha : mayr n a = true) (hb : mayr m b = true) (h : ∀ x, mr a x = mr b x) : a = b := by
  induction a generalizing n m b with
  | nil =>
    cases b with
    | nil => rfl
    | cons s b =>
      have := h s.1.toNat
      rw [mr_nil, mr_cons, (inr_iff _ _).2 ⟨Nat.le_refl _, fst_le s⟩] at this
      cases this
  | cons r a ih =>
    cases b with
    | nil =>
      have := h r.1.toNat
      rw [mr_nil, mr_cons, (inr_iff _ _).2 ⟨Nat.le_refl _, fst_le r⟩] at this
      cases this
    | cons s b =>
      obtain ⟨a1, a2, a3⟩ := mayr_cons.1 ha
      obtain ⟨b1, b2, b3⟩ := mayr_cons.1 hb
      have ra : mayr r.1.toNat (r :: a) = true := mayr_cons.2 ⟨Nat.le_refl _, a2, a3⟩
      have rb : mayr s.1.toNat (s :: b) = true := mayr_cons.2 ⟨Nat.le_refl _, b2, b3⟩
      have e1 : r.1.toNat = s.1.toNat := by
        have x1 := (mr_ge rb (x := r.1.toNat) (by rw [← h, mr_cons, (inr_iff _ _).2 ⟨Nat.le_refl _, fst_le r⟩]; rfl)).1
        have x2 := (mr_ge ra (x := s.1.toNat) (by rw [h, mr_cons, (inr_iff _ _).2 ⟨Nat.le_refl _, fst_le s⟩]; rfl)).1
        omega
      have f1 := fst_le r
      have f2 := fst_le s
      have e2 : lst r = lst s := by
        rcases Nat.lt_trichotomy (lst r) (lst s) with hlt | heq | hlt
        · have hx := h (lst r + 1)
          rw [mr_cons, mr_cons, (inr_iff s _).2 ⟨by omega, by omega⟩, Bool.true_or] at hx
          have h0 : inr r (lst r + 1) = false := by rw [Bool.eq_false_iff]; intro hh; have := ((inr_iff _ _).1 hh).2; omega
          rw [h0, Bool.false_or] at hx
          have := (mr_ge a3 hx).1
          omega
        · exact heq
        · have hx := h (lst s + 1)
          rw [mr_cons, mr_cons, (inr_iff r _).2 ⟨by omega, by omega⟩, Bool.true_or] at hx
          have h0 : inr s (lst s + 1) = false := by rw [Bool.eq_false_iff]; intro hh; have := ((inr_iff _ _).1 hh).2; omega
          rw [h0, Bool.false_or] at hx
          have := (mr_ge b3 hx.symm).1
          omega
      have er : r = s := by
        refine Prod.ext (u16_eq e1) (u16_eq ?_)
        unfold lst at e2
        omega
      subst er
      rw [ih a3 b3 fun x => ?_]
      have hx := h x
      rw [mr_cons, mr_cons] at hx
      cases hr : inr r x with
      | false => rw [hr, Bool.false_or, Bool.false_or] at hx; exact hx
      | true =>
        have h1 := ((inr_iff _ _).1 hr).2
        have h2 : mr a x = false := by rw [Bool.eq_false_iff]; intro hh; have := (mr_ge a3 hh).1; omega
        have h3 : mr b x = false := by rw [Bool.eq_false_iff]; intro hh; have := (mr_ge b3 hh).1; omega
        rw [h2, h3]
theorem mayr_snoc {n : Nat} {l : List Rn} {r : Rn} : mayr n (l ++ [r]) = true ↔ mayr n l = true ∧ (∀ s ∈ l, lst s + 2 ≤ r.1.toNat) ∧ n ≤ r.1.toNat ∧ lst r ≤ 65535 := by
  induction l generalizing n with
  | nil => simp [mayr]
  | cons s l ih =>
    rw [List.cons_append, mayr_cons, mayr_cons, ih]
    have := fst_le s
    constructor
    · rintro ⟨h1, h2, h3, h4, h5, h6⟩
      refine ⟨⟨h1, h2, h3⟩, ?_, by omega, h6⟩
      intro t ht
      rcases List.mem_cons.1 ht with rfl | ht
      · exact h5
      · exact h4 t ht
    · rintro ⟨⟨h1, h2, h3⟩, h4, h5, h6⟩
      exact ⟨h1, h2, h3, fun t ht => h4 t (List.mem_cons_of_mem _ ht), h4 s List.mem_cons_self, h6⟩
theorem mr_last {l : List Rn} {s : Rn} (h : s ∈ l) : mr l (lst s) = true := by
  unfold mr
  rw [List.any_eq_true]
  exact ⟨s, h, (inr_iff _ _).2 ⟨fst_le s, Nat.le_refl _⟩⟩

/-- The last run is one longer. -/
def bump : List Rn → List Rn
  | [] => []
  | [r] => [(r.1, r.2 + 1)]
  | r :: s :: l => r :: bump (s :: l)
theorem bump_snoc (l : List Rn) (r : Rn) : bump (l ++ [r]) = l ++ [(r.1, r.2 + 1)] := by
  induction l with
  | nil => rfl
  | cons s l ih =>
    cases l with
    | nil => rfl
    | cons t l => rw [List.cons_append, List.cons_append, bump, ← List.cons_append, ih]; rfl
/-- The runs of the marks below n. -/
def rs (p : Nat → Bool) : Nat → List Rn
  | 0 => []
  | n + 1 => if p n = true then (if (decide (0 < n) && p (n - 1)) = true then bump (rs p n) else rs p n ++ [(UInt16.ofNat n, 0)]) else rs p n
theorem rs_inv (p : Nat → Bool) (n : Nat) (hn : n ≤ 65536) : mayr 0 (rs p n) = true ∧ (∀ x, mr (rs p n) x = (decide (x < n) && p x)) ∧ ((decide (0 < n) && p (n - 1)) = true → ∃ l r, rs p n = l ++ [r] ∧ lst r = n - 1) ∧
    (rs p n).length = ct (hm p) n := by
  induction n with
  | zero => exact ⟨rfl, fun x => by simp [rs, mr_nil], fun h => by simp at h, rfl⟩
  | succ n ih =>
    obtain ⟨i1, i2, i3, i4⟩ := ih (by omega)
    cases hp : p n with
    | false =>
      have e : rs p (n + 1) = rs p n := by rw [rs, hp]; simp
      have hh : hm p n = false := by unfold hm; rw [hp]; rfl
      rw [e]
      refine ⟨i1, fun x => ?_, fun h => ?_, by rw [ct, hh, i4]; rfl⟩
      · rw [i2]
        by_cases hx : x = n
        · subst hx; rw [hp]; simp
        · congr 1
          exact decide_eq_decide.2 (by omega)
      · rw [Nat.add_sub_cancel, hp, Bool.and_false] at h; cases h
    | true =>
      cases hq : (decide (0 < n) && p (n - 1)) with
      | true =>
        have e : rs p (n + 1) = bump (rs p n) := by rw [rs, hp, hq]; simp
        obtain ⟨l, r, e1, e2⟩ := i3 hq
        have h0 : 0 < n := by
          rw [Bool.and_eq_true, decide_eq_true_eq] at hq
          exact hq.1
        have hm0 : hm p n = false := by
          unfold hm
          rw [Bool.and_eq_true, decide_eq_true_eq] at hq
          rw [hq.2, hp, decide_eq_false (by omega)]
          rfl
        have h2 : (r.2 + 1).toNat = r.2.toNat + 1 := by
          have hle : r.2.toNat ≤ lst r := Nat.le_add_left _ _
          rw [UInt16.toNat_add]
          have : (1 : UInt16).toNat = 1 := rfl
          rw [this]
          omega
        have hl : lst (r.1, r.2 + 1) = n := by
          unfold lst at e2 ⊢
          simp only
          rw [h2]
          omega
        rw [e, e1, bump_snoc]
        rw [e1] at i1 i2 i4
        obtain ⟨j1, j2, j3, j4⟩ := mayr_snoc.1 i1
        refine ⟨mayr_snoc.2 ⟨j1, j2, j3, by rw [hl]; omega⟩, fun x => ?_, fun _ => ⟨l, _, rfl, by rw [hl]; omega⟩, ?_⟩
        · have hx := i2 x
          rw [mr_app, mr_cons, mr_nil, Bool.or_false] at hx ⊢
          by_cases hxn : x = n
          · subst hxn
            have : inr (r.1, r.2 + 1) x = true := (inr_iff _ _).2 ⟨by have := fst_le r; simp only; omega, by rw [hl]; exact Nat.le_refl _⟩
            rw [this, hp]
            simp
          · have e3 : inr (r.1, r.2 + 1) x = inr r x := by
              rw [Bool.eq_iff_iff, inr_iff, inr_iff, hl, e2]
              simp only
              omega
            rw [e3, hx]
            congr 1
            exact decide_eq_decide.2 (by omega)
        · rw [ct, hm0, ← i4]; simp
      | false =>
        have e : rs p (n + 1) = rs p n ++ [(UInt16.ofNat n, 0)] := by rw [rs, hp, hq]; simp
        have hm1 : hm p n = true := by
          unfold hm
          rw [hp, Bool.true_and]
          by_cases h0 : n = 0
          · simp [h0]
          · rw [decide_eq_true (by omega), Bool.true_and] at hq
            rw [hq]
            simp
        have hf : (UInt16.ofNat n).toNat = n := u16_of n (by omega)
        have hl : lst (UInt16.ofNat n, 0) = n := by unfold lst; simp only; rw [hf]; rfl
        rw [e]
        refine ⟨mayr_snoc.2 ⟨i1, fun s hs => ?_, Nat.zero_le _, by rw [hl]; omega⟩, fun x => ?_, fun _ => ⟨_, _, rfl, by rw [hl]; omega⟩, ?_⟩
        · have h1 := i2 (lst s)
          rw [mr_last hs] at h1
          have h2 := h1.symm
          rw [Bool.and_eq_true, decide_eq_true_eq] at h2
          simp only
          rw [hf]
          rcases Nat.lt_or_ge (lst s + 1) n with h3 | h3
          · omega
          · have h4 : lst s = n - 1 := by omega
            rw [← h4, h2.2, decide_eq_true (by omega)] at hq
            cases hq
        · rw [mr_app, mr_cons, mr_nil, Bool.or_false, i2]
          by_cases hxn : x = n
          · subst hxn
            have : inr (UInt16.ofNat x, 0) x = true := (inr_iff _ _).2 ⟨by simp only; omega, by rw [hl]; exact Nat.le_refl _⟩
            rw [this, hp]
            simp
          · have e3 : inr (UInt16.ofNat n, 0) x = false := by
              rw [Bool.eq_false_iff]
              intro hh
              have := (inr_iff _ _).1 hh
              rw [hl] at this
              simp only at this
              omega
            rw [e3, Bool.or_false]
            congr 1
            exact decide_eq_decide.2 (by omega)
        · rw [List.length_append, i4, ct, hm1]; rfl
theorem mayr_rs (p : Nat → Bool) : mayr 0 (rs p 65536) = true := (rs_inv p 65536 (Nat.le_refl _)).1
theorem mr_rs (p : Nat → Bool) {x : Nat} (hx : x < 65536) : mr (rs p 65536) x = p x := by
  rw [(rs_inv p 65536 (Nat.le_refl _)).2.1, decide_eq_true hx, Bool.true_and]
theorem rs_len (p : Nat → Bool) : (rs p 65536).length = ct (hm p) 65536 := (rs_inv p 65536 (Nat.le_refl _)).2.2.2
/-- Right runs are the runs of their marks. -/
theorem rs_mr {l : List Rn} (h : mayr 0 l = true) {p : Nat → Bool} (hp : ∀ x, x < 65536 → mr l x = p x) : l = rs p 65536 := by
  refine mr_inj h (mayr_rs p) fun x => ?_
  rw [(rs_inv p 65536 (Nat.le_refl _)).2.1]
  by_cases hx : x < 65536
  · rw [decide_eq_true hx, Bool.true_and, hp x hx]
  · rw [decide_eq_false hx, Bool.false_and, Bool.eq_false_iff]
    intro hh
    have := (mr_ge h hh).2
    omega
theorem rs_ext {p q : Nat → Bool} (h : ∀ x, x < 65536 → p x = q x) : rs p 65536 = rs q 65536 :=
  rs_mr (mayr_rs p) fun x hx => (mr_rs p hx).trans (h x hx)

/- Counting. -/
theorem ct_or {p q : Nat → Bool} {n : Nat} (h : ∀ x, x < n → ¬ (p x = true ∧ q x = true)) : ct (fun x => p x || q x) n = ct p n + ct q n := by
  induction n with
  | zero => rfl
  | succ n ih =>
    rw [ct, ct, ct, ih fun x hx => h x (by omega)]
    have := h n (Nat.lt_succ_self n)
    revert this
    cases p n <;> cases q n <;> simp <;> omega
theorem ct_inr (r : Rn) (n : Nat) : ct (inr r) n = min n (lst r + 1) - min n r.1.toNat := by
  have hf := fst_le r
  induction n with
  | zero => simp [ct]
  | succ n ih =>
    rw [ct, ih]
    cases hi : inr r n with
    | true =>
      have := (inr_iff _ _).1 hi
      simp only [Bool.toNat_true]
      omega
    | false =>
      have : ¬ (r.1.toNat ≤ n ∧ n ≤ lst r) := fun h => by rw [(inr_iff _ _).2 h] at hi; cases hi
      simp only [Bool.toNat_false]
      omega
theorem ct_mr_cons {m n : Nat} {r : Rn} {l : List Rn} (h : mayr m (r :: l) = true) : ct (mr (r :: l)) n = (min n (lst r + 1) - min n r.1.toNat) + ct (mr l) n := by
  obtain ⟨h1, h2, h3⟩ := mayr_cons.1 h
  have e : ct (mr (r :: l)) n = ct (fun x => inr r x || mr l x) n := ct_ext fun x _ => mr_cons r l x
  rw [e, ct_or (fun x _ hh => by have := ((inr_iff _ _).1 hh.1).2; have := (mr_ge h3 hh.2).1; omega), ct_inr]
/-- Below the first one there is none. -/
theorem ct_mr_zero {m n : Nat} {l : List Rn} (h : mayr m l = true) (hn : n ≤ m) : ct (mr l) n = 0 := ct_zero fun x hx => by
  rw [Bool.eq_false_iff]
  intro hh
  have := (mr_ge h hh).1
  omega
end Go.Proofs.YtponcpneflhpfaaGreatDoor
namespace Go.Proofs.YtponcpneflhpfaaGreatDoor
set_option linter.unusedVariables false

/-- The numbers of one key. -/
def blk (P : Nat → Bool) (k x : Nat) : Bool := P (65536 * k + x)
/-- Whether some number has the key. -/
def nz (P : Nat → Bool) (k : Nat) : Bool := decide (0 < ct (blk P k) 65536)

theorem ct_pos {p : Nat → Bool} {n : Nat} : 0 < ct p n ↔ ∃ x, x < n ∧ p x = true := by
  induction n with
  | zero => simp [ct]
  | succ n ih =>
    rw [ct]
    constructor
    · intro h
      cases hp : p n with
      | true => exact ⟨n, by omega, hp⟩
      | false =>
        rw [hp] at h
        obtain ⟨x, h1, h2⟩ := ih.1 (by simpa using h)
        exact ⟨x, by omega, h2⟩
    · rintro ⟨x, h1, h2⟩
      by_cases e : x = n
      · subst e; rw [h2]; simp
      · have := ih.2 ⟨x, by omega, h2⟩
        omega
theorem nz_iff {P : Nat → Bool} {k : Nat} : nz P k = true ↔ ∃ x, x < 65536 ∧ P (65536 * k + x) = true := by
  unfold nz
  rw [decide_eq_true_eq]
  exact ct_pos
theorem nz_not {P : Nat → Bool} {k : Nat} : nz P k = false ↔ ∀ x, x < 65536 → P (65536 * k + x) = false := by
  constructor
  · intro h x hx
    cases hp : P (65536 * k + x) with
    | false => rfl
    | true => rw [nz_iff.2 ⟨x, hx, hp⟩] at h; cases h
  · intro h
    cases hn : nz P k with
    | false => rfl
    | true =>
      obtain ⟨x, h1, h2⟩ := nz_iff.1 hn
      rw [h x h1] at h2; cases h2
theorem nz_ct {P : Nat → Bool} {k : Nat} (h : nz P k = false) : ct (blk P k) 65536 = 0 := ct_zero fun x hx => nz_not.1 h x hx
theorem nz_has {P : Nat → Bool} {x : Nat} (h : P x = true) : nz P (x / 65536) = true :=
  nz_iff.2 ⟨x % 65536, Nat.mod_lt _ (by omega), by rw [Nat.div_add_mod]; exact h⟩
theorem nz_none {P : Nat → Bool} {x : Nat} (h : nz P (x / 65536) = false) : P x = false := by
  cases hp : P x with
  | false => rfl
  | true => rw [nz_has hp] at h; cases h
theorem blk_at (P : Nat → Bool) (x : Nat) : blk P (x / 65536) (x % 65536) = P x := by unfold blk; rw [Nat.div_add_mod]
theorem blk_ext {P Q : Nat → Bool} {k : Nat} (h : ∀ x, x / 65536 = k → P x = Q x) : ∀ x, x < 65536 → blk P k x = blk Q k x :=
  fun x hx => h _ (by omega)
theorem nz_ext {P Q : Nat → Bool} {k : Nat} (h : ∀ x, x / 65536 = k → P x = Q x) : nz P k = nz Q k := by
  unfold nz; rw [ct_ext (blk_ext h)]

/-- How many numbers are below a place, a key on. -/
theorem ct_key (P : Nat → Bool) (k : Nat) {y : Nat} : ct P (65536 * k + y) = ct P (65536 * k) + ct (blk P k) y := ct_add P _ _
theorem ct_next (P : Nat → Bool) (k : Nat) : ct P (65536 * (k + 1)) = ct P (65536 * k) + ct (blk P k) 65536 := by
  rw [Nat.mul_succ, ct_key]
/-- A place, as a container's asked for it. -/
def clm (X k : Nat) : Nat := min (X - 65536 * k) 65536
theorem ct_clm (P : Nat → Bool) (X k : Nat) : ct P (min X (65536 * (k + 1))) = ct P (min X (65536 * k)) + ct (blk P k) (clm X k) := by
  unfold clm
  by_cases h1 : X ≤ 65536 * k
  · rw [Nat.min_eq_left h1, Nat.min_eq_left (by omega), Nat.sub_eq_zero_of_le h1]
    simp [ct]
  · by_cases h2 : X ≤ 65536 * (k + 1)
    · rw [Nat.min_eq_left h2, Nat.min_eq_right (by omega), Nat.min_eq_left (by omega)]
      have e : X = 65536 * k + (X - 65536 * k) := by omega
      conv => lhs; rw [e]
      exact ct_key P k
    · rw [Nat.min_eq_right (by omega), Nat.min_eq_right (by omega), Nat.min_eq_right (by omega), ct_next]
theorem ct_gap_min (P : Nat → Bool) (X : Nat) {a b : Nat} (hab : a ≤ b) (h : ∀ k, a ≤ k → k < b → nz P k = false) : ct P (min X (65536 * b)) = ct P (min X (65536 * a)) := by
  obtain ⟨d, rfl⟩ := Nat.le.dest hab
  clear hab
  induction d with
  | zero => rfl
  | succ d ih =>
    rw [← Nat.add_assoc, ct_clm, ih (fun k h1 h2 => h k h1 (by omega)), ct_zero (p := blk P _) (n := clm X _) (fun j hj => nz_not.1 (h _ (by omega) (by omega)) j (by unfold clm at hj; omega)), Nat.add_zero]

/-- Two sets that have the same keys, and the same numbers of each, are the same. -/
theorem same_blk {P Q : Nat → Bool} (h : ∀ k, k < 65536 → ∀ x, x < 65536 → blk P k x = blk Q k x) : ∀ x, x < 4294967296 → P x = Q x := fun x hx => by
  rw [← blk_at P x, ← blk_at Q x]
  exact h _ (by omega) _ (Nat.mod_lt _ (by omega))

end Go.Proofs.YtponcpneflhpfaaGreatDoor
namespace Go.Proofs.YtponcpneflhpfaaGreatDoor
set_option linter.unusedVariables false

/-- A span: from a number on, below another one. -/
abbrev Sn := UInt64 × UInt64
def ins (s : Sn) (x : Nat) : Bool := decide (s.1.toNat ≤ x) && decide (x < s.2.toNat)
def sp (l : List Sn) (x : Nat) : Bool := l.any fun s => ins s x
/-- Spans that rise, of which none touches the next one. -/
def mys : Nat → List Sn → Prop
  | _, [] => True
  | n, s :: l => n ≤ s.1.toNat ∧ s.1.toNat < s.2.toNat ∧ s.2.toNat ≤ 4294967296 ∧ mys (s.2.toNat + 1) l
theorem ins_iff (s : Sn) (x : Nat) : ins s x = true ↔ s.1.toNat ≤ x ∧ x < s.2.toNat := by simp [ins]
theorem ins_not (s : Sn) (x : Nat) : ins s x = false ↔ ¬ (s.1.toNat ≤ x ∧ x < s.2.toNat) := by
  rw [← ins_iff]; cases ins s x <;> simp
theorem sp_cons (s : Sn) (l : List Sn) (x : Nat) : sp (s :: l) x = (ins s x || sp l x) := by simp [sp]
theorem sp_app (l m : List Sn) (x : Nat) : sp (l ++ m) x = (sp l x || sp m x) := by simp [sp]
theorem sp_nil (x : Nat) : sp [] x = false := rfl
theorem sp_iff (l : List Sn) (x : Nat) : sp l x = true ↔ ∃ s ∈ l, s.1.toNat ≤ x ∧ x < s.2.toNat := by
  simp [sp, ins]
theorem mys_snoc {n : Nat} {l : List Sn} {r : Sn} : mys n (l ++ [r]) ↔ mys n l ∧ (∀ s ∈ l, s.2.toNat + 1 ≤ r.1.toNat) ∧ n ≤ r.1.toNat ∧ r.1.toNat < r.2.toNat ∧ r.2.toNat ≤ 4294967296 := by
  induction l generalizing n with
  | nil => simp [mys]
  | cons s l ih =>
    rw [List.cons_append]
    simp only [mys, ih, List.mem_cons, forall_eq_or_imp]
    constructor
    · rintro ⟨h1, h2, h3, h4, h5, h6, h7, h8⟩
      exact ⟨⟨h1, h2, h3, h4⟩, ⟨h6, h5⟩, by omega, h7, h8⟩
    · rintro ⟨⟨h1, h2, h3, h4⟩, ⟨h6, h5⟩, h9, h7, h8⟩
      exact ⟨h1, h2, h3, h4, h5, h6, h7, h8⟩

/-- A span put behind others, or over the last one, if it touches it. -/
def wsp (l : List Sn) (s : Sn) : List Sn :=
  match l.getLast? with
  | none => [s]
  | some r => if s.1.toNat ≤ r.2.toNat then l.dropLast ++ [(r.1, if r.2.toNat < s.2.toNat then s.2 else r.2)] else l ++ [s]
theorem wsp_nil (s : Sn) : wsp [] s = [s] := rfl
theorem wsp_in (l : List Sn) (r s : Sn) (h : s.1.toNat ≤ r.2.toNat) : wsp (l ++ [r]) s = l ++ [(r.1, if r.2.toNat < s.2.toNat then s.2 else r.2)] := by
  unfold wsp; rw [List.getLast?_concat]; simp [h]
theorem wsp_out (l : List Sn) (r s : Sn) (h : ¬ s.1.toNat ≤ r.2.toNat) : wsp (l ++ [r]) s = l ++ [r] ++ [s] := by
  unfold wsp; rw [List.getLast?_concat]; simp [h]
theorem wsp_len (l : List Sn) (s : Sn) : (wsp l s).length ≤ l.length + 1 := by
  rcases List.eq_nil_or_concat l with rfl | ⟨l', r, rfl⟩
  · simp [wsp]
  · rw [List.concat_eq_append]
    by_cases h : s.1.toNat ≤ r.2.toNat
    · rw [wsp_in _ _ _ h]; simp
    · rw [wsp_out _ _ _ h]; simp
theorem snoc_cases {α : Type} (l : List α) : l = [] ∨ ∃ a r, l = a ++ [r] := by
  rcases List.eq_nil_or_concat l with h | ⟨a, r, h⟩
  · exact .inl h
  · exact .inr ⟨a, r, by rw [h, List.concat_eq_append]⟩
theorem wsp_right {l : List Sn} {s : Sn} (hl : mys 0 l) (hs : ∀ r ∈ l, r.1.toNat ≤ s.1.toNat) (h1 : s.1.toNat < s.2.toNat) (h2 : s.2.toNat ≤ 4294967296) :
    mys 0 (wsp l s) ∧ (∀ x, sp (wsp l s) x = (sp l x || ins s x)) ∧ ∀ r ∈ wsp l s, r.1.toNat ≤ s.1.toNat := by
  rcases snoc_cases l with rfl | ⟨a, r, rfl⟩
  · rw [wsp_nil]
    exact ⟨⟨Nat.zero_le _, h1, h2, trivial⟩, fun x => by rw [sp_cons, sp_nil, Bool.or_false, Bool.false_or], fun r hr => by simp at hr; subst hr; exact Nat.le_refl _⟩
  · obtain ⟨g1, g2, g3, g4, g5⟩ := mys_snoc.1 hl
    have hr := hs r (by simp)
    by_cases h : s.1.toNat ≤ r.2.toNat
    · rw [wsp_in _ _ _ h]
      refine ⟨mys_snoc.2 ⟨g1, g2, g3, ?_, ?_⟩, fun x => ?_, fun q hq => ?_⟩
      · show r.1.toNat < (if _ then _ else _ : UInt64).toNat
        split <;> omega
      · show (if _ then _ else _ : UInt64).toNat ≤ _
        split <;> omega
      · rw [sp_app, sp_app, Bool.or_assoc]
        congr 1
        rw [sp_cons, sp_cons, sp_nil, Bool.or_false, Bool.or_false, Bool.eq_iff_iff, Bool.or_eq_true, ins_iff, ins_iff, ins_iff]
        show r.1.toNat ≤ x ∧ x < (if _ then _ else _ : UInt64).toNat ↔ _
        split <;> omega
      · rw [List.mem_append] at hq
        rcases hq with hq | hq
        · exact hs q (by simp [hq])
        · simp at hq; subst hq; exact hr
    · rw [wsp_out _ _ _ h]
      refine ⟨mys_snoc.2 ⟨hl, fun q hq => ?_, Nat.zero_le _, h1, h2⟩, fun x => ?_, fun q hq => ?_⟩
      · rw [List.mem_append] at hq
        rcases hq with hq | hq
        · have := g2 q hq; omega
        · simp at hq; subst hq; omega
      · rw [sp_app _ [s], sp_cons, sp_nil, Bool.or_false]
      · rw [List.mem_append] at hq
        rcases hq with hq | hq
        · exact hs q hq
        · simp at hq; subst hq; exact Nat.le_refl _

/-- Spans that rise, joined: one more. -/
def clip (s : Sn) : Sn := (s.1, if s.2.toNat < 4294967296 then s.2 else 4294967296)
def jst (l : List Sn) (s : Sn) : List Sn := if s.1.toNat < (clip s).2.toNat then wsp l (clip s) else l
def jn (l : List Sn) : List Sn := l.foldl jst []
theorem clip_hi (s : Sn) : (clip s).2.toNat = min s.2.toNat 4294967296 := by
  unfold clip
  show (if _ then _ else _ : UInt64).toNat = _
  split
  · omega
  · show (4294967296 : UInt64).toNat = _
    have : (4294967296 : UInt64).toNat = 4294967296 := rfl
    omega
theorem jst_len (l : List Sn) (s : Sn) : (jst l s).length ≤ l.length + 1 := by
  unfold jst; split
  · exact wsp_len _ _
  · omega
theorem foldl_jst_len (l : List Sn) : ∀ acc : List Sn, (l.foldl jst acc).length ≤ acc.length + l.length := by
  induction l with
  | nil => intro acc; simp
  | cons s l ih => intro acc; rw [List.foldl_cons]; have := ih (jst acc s); have := jst_len acc s; simp only [List.length_cons]; omega
theorem jn_len (l : List Sn) : (jn l).length ≤ l.length := by have := foldl_jst_len l []; simpa [jn] using this
theorem jn_snoc (l : List Sn) (s : Sn) : jn (l ++ [s]) = jst (jn l) s := by unfold jn; rw [List.foldl_append]; rfl
theorem jst_right {l : List Sn} {s : Sn} (hl : mys 0 l) (hs : ∀ r ∈ l, r.1.toNat ≤ s.1.toNat) :
    mys 0 (jst l s) ∧ (∀ x, sp (jst l s) x = (sp l x || (decide (x < 4294967296) && ins s x))) ∧ ∀ r ∈ jst l s, r.1.toNat ≤ s.1.toNat := by
  have hc := clip_hi s
  have e : ∀ x, ins (clip s) x = (decide (x < 4294967296) && ins s x) := fun x => by
    rw [Bool.eq_iff_iff, Bool.and_eq_true, ins_iff, ins_iff, hc, decide_eq_true_eq]
    show s.1.toNat ≤ x ∧ _ ↔ _
    omega
  unfold jst
  split
  · rename_i h
    obtain ⟨a, b, c⟩ := wsp_right hl (s := clip s) hs h (by rw [hc]; omega)
    exact ⟨a, fun x => by rw [b, e], c⟩
  · rename_i h
    refine ⟨hl, fun x => ?_, hs⟩
    rw [← e, (ins_not _ _).2 (by show ¬ (s.1.toNat ≤ x ∧ _); omega), Bool.or_false]
theorem jn_right (l : List Sn) (h : l.Pairwise fun s t => s.1.toNat ≤ t.1.toNat) :
    mys 0 (jn l) ∧ (∀ x, sp (jn l) x = (decide (x < 4294967296) && sp l x)) ∧ ∀ r ∈ jn l, ∃ s ∈ l, r.1.toNat ≤ s.1.toNat := by
  have hrev : ∀ n, n ≤ l.length → mys 0 (jn (l.take n)) ∧ (∀ x, sp (jn (l.take n)) x = (decide (x < 4294967296) && sp (l.take n) x)) ∧ ∀ r ∈ jn (l.take n), ∃ s ∈ l.take n, r.1.toNat ≤ s.1.toNat := by
    intro n
    induction n with
    | zero => intro _; simp [jn, mys, sp]
    | succ n ih =>
      intro hn
      obtain ⟨a, b, c⟩ := ih (by omega)
      have e : l.take (n + 1) = l.take n ++ [l[n]] := by rw [List.take_succ_eq_append_getElem (by omega)]
      have hs : ∀ r ∈ jn (l.take n), r.1.toNat ≤ l[n].1.toNat := fun r hr => by
        obtain ⟨s, hs, hle⟩ := c r hr
        have hp : (l.take n ++ [l[n]]).Pairwise fun s t => s.1.toNat ≤ t.1.toNat := by rw [← e]; exact h.sublist (List.take_sublist _ _)
        exact Nat.le_trans hle ((List.pairwise_append.1 hp).2.2 s hs _ (by simp))
      obtain ⟨a', b', c'⟩ := jst_right a (s := l[n]) hs
      rw [e, jn_snoc]
      refine ⟨a', fun x => ?_, fun r hr => ⟨l[n], List.mem_append_right _ (List.mem_singleton.2 rfl), c' r hr⟩⟩
      rw [b', b, sp_app, sp_cons, sp_nil, Bool.or_false, Bool.and_or_distrib_left]
  have := hrev l.length (Nat.le_refl _)
  rwa [List.take_length] at this

/-- A span cut where a key ends. -/
def cut (lo hi : Nat) : List Sn :=
  if h : lo < hi then (UInt64.ofNat lo, UInt64.ofNat (min hi (lo - lo % 65536 + 65536))) :: cut (min hi (lo - lo % 65536 + 65536)) hi else []
termination_by hi - lo
decreasing_by omega
def pcs (l : List Sn) : List Sn := l.flatMap fun s => cut s.1.toNat s.2.toNat
theorem cut_end {lo hi : Nat} (h : ¬ lo < hi) : cut lo hi = [] := by rw [cut, dif_neg h]
theorem cut_more {lo hi : Nat} (h : lo < hi) : cut lo hi = (UInt64.ofNat lo, UInt64.ofNat (min hi (lo - lo % 65536 + 65536))) :: cut (min hi (lo - lo % 65536 + 65536)) hi := by
  conv => lhs; rw [cut]
  rw [dif_pos h]
/-- Where the next piece may begin. -/
def nxq (e : Nat) : Nat := if e % 65536 = 0 then e else e + 1
/-- Pieces: they rise, each within one key, and none touches the next one but where a key ends. -/
def myq : Nat → List Sn → Prop
  | _, [] => True
  | n, s :: l => n ≤ s.1.toNat ∧ s.1.toNat < s.2.toNat ∧ s.2.toNat ≤ s.1.toNat - s.1.toNat % 65536 + 65536 ∧ s.2.toNat ≤ 4294967296 ∧ myq (nxq s.2.toNat) l
theorem nxq_ge (e : Nat) : e ≤ nxq e ∧ nxq e ≤ e + 1 := by unfold nxq; split <;> omega
theorem myq_mono {n m : Nat} {l : List Sn} (h : n ≤ m) (hm : myq m l) : myq n l := by
  cases l with
  | nil => trivial
  | cons s l => exact ⟨Nat.le_trans h hm.1, hm.2⟩
theorem myq_app {n m : Nat} {a b : List Sn} (ha : myq n a) (hnm : n ≤ m) (hab : ∀ s ∈ a, nxq s.2.toNat ≤ m) (hb : myq m b) : myq n (a ++ b) := by
  induction a generalizing n with
  | nil => exact myq_mono hnm hb
  | cons s l ih =>
    obtain ⟨h1, h2, h3, h4, h5⟩ := ha
    exact ⟨h1, h2, h3, h4, ih h5 (hab s (by simp)) (fun t ht => hab t (by simp [ht]))⟩
theorem cut_spec (hi : Nat) (hh : hi ≤ 4294967296) : ∀ (d lo : Nat), hi - lo ≤ d → lo ≤ hi →
    myq lo (cut lo hi) ∧ (∀ x, sp (cut lo hi) x = (decide (lo ≤ x) && decide (x < hi))) ∧ (∀ t ∈ cut lo hi, t.2.toNat ≤ hi) ∧ (cut lo hi).length ≤ (hi / 65536 - lo / 65536) + (if lo < hi then 1 else 0) := by
  intro d
  induction d with
  | zero =>
    intro lo h1 h2
    rw [cut_end (by omega)]
    exact ⟨trivial, fun x => by rw [sp_nil, Eq.comm, Bool.and_eq_false_iff, decide_eq_false_iff_not, decide_eq_false_iff_not]; omega, fun t ht => by simp at ht, by simp⟩
  | succ d ih =>
    intro lo h1 h2
    by_cases h : lo < hi
    · rw [cut_more h]
      have hm : lo < min hi (lo - lo % 65536 + 65536) := by omega
      generalize hM : min hi (lo - lo % 65536 + 65536) = M at *
      have hM1 : M ≤ hi := by omega
      have hM2 : M = hi ∨ M % 65536 = 0 ∧ M / 65536 = lo / 65536 + 1 := by omega
      have hM3 : M ≤ lo - lo % 65536 + 65536 := by omega
      obtain ⟨a, b, c, e⟩ := ih M (by omega) hM1
      have eL : (UInt64.ofNat lo).toNat = lo := u64_of lo (by omega)
      have eM : (UInt64.ofNat M).toNat = M := u64_of M (by omega)
      refine ⟨⟨?_, ?_, ?_, ?_, ?_⟩, fun x => ?_, fun t ht => ?_, ?_⟩
      · show lo ≤ (UInt64.ofNat lo).toNat; omega
      · show (UInt64.ofNat lo).toNat < (UInt64.ofNat M).toNat; omega
      · show (UInt64.ofNat M).toNat ≤ (UInt64.ofNat lo).toNat - (UInt64.ofNat lo).toNat % 65536 + 65536; rw [eL, eM]; exact hM3
      · show (UInt64.ofNat M).toNat ≤ _; omega
      · show myq (nxq (UInt64.ofNat M).toNat) _
        rw [eM]
        rcases hM2 with hM2 | hM2
        · rw [cut_end (by omega)]; trivial
        · unfold nxq; rw [if_pos hM2.1]; exact a
      · rw [sp_cons, b, Bool.eq_iff_iff, Bool.or_eq_true, ins_iff, Bool.and_eq_true, Bool.and_eq_true]
        simp only [decide_eq_true_eq]
        show (UInt64.ofNat lo).toNat ≤ x ∧ x < (UInt64.ofNat M).toNat ∨ _ ↔ _
        rw [eL, eM]
        omega
      · rcases List.mem_cons.1 ht with rfl | ht
        · show (UInt64.ofNat M).toNat ≤ _; omega
        · exact c t ht
      · rw [List.length_cons, if_pos h]
        rcases hM2 with hM2 | hM2
        · rw [cut_end (by omega)]; simp
        · rw [hM2.2] at e
          split at e <;> omega
    · rw [cut_end h]
      exact ⟨trivial, fun x => by rw [sp_nil, Eq.comm, Bool.and_eq_false_iff, decide_eq_false_iff_not, decide_eq_false_iff_not]; omega, fun t ht => by simp at ht, by simp⟩
theorem pcs_spec (l : List Sn) : ∀ n, n ≤ 4294967297 → mys n l →
    myq n (pcs l) ∧ (∀ x, sp (pcs l) x = sp l x) ∧ (pcs l).length + n / 65536 ≤ l.length + 65536 := by
  induction l with
  | nil => intro n hn h; exact ⟨trivial, fun x => rfl, by simp [pcs]; omega⟩
  | cons s l ih =>
    intro n hn h
    obtain ⟨h1, h2, h3, h4⟩ := h
    obtain ⟨a, b, c⟩ := ih (s.2.toNat + 1) (by omega) h4
    obtain ⟨a', b', c', e'⟩ := cut_spec s.2.toNat h3 _ s.1.toNat (Nat.le_refl _) (by omega)
    have e : pcs (s :: l) = cut s.1.toNat s.2.toNat ++ pcs l := by simp [pcs]
    rw [e]
    refine ⟨myq_app (myq_mono h1 a') (by omega) (fun t ht => ?_) a, fun x => ?_, ?_⟩
    · have := c' t ht; have := nxq_ge t.2.toNat; omega
    · rw [sp_app, b', b, sp_cons]; rfl
    · rw [List.length_append, List.length_cons]
      rw [if_pos h2] at e'
      omega
end Go.Proofs.YtponcpneflhpfaaGreatDoor
namespace Go.Proofs.YtponcpneflhpfaaGreatDoor
set_option linter.unusedVariables false

/-- A row whose keys rise, parted ahead of the first place of another key than its first one's. -/
theorem grp {α : Type} (f : α → Nat) {l : List α} (h : l.Pairwise fun a b => f a ≤ f b) {k n : Nat} (hk : ∀ x ∈ l, k ≤ f x) (hn : ∀ i x, i < n → l[i]? = some x → f x = k) (he : ∀ x, l[n]? = some x → f x ≠ k) :
    (∀ x ∈ l.take n, f x = k) ∧ ∀ x ∈ l.drop n, k < f x := by
  refine ⟨fun x hx => ?_, fun x hx => ?_⟩
  · obtain ⟨i, hi⟩ := List.mem_iff_getElem?.1 hx
    rw [List.getElem?_take] at hi
    split at hi
    · rename_i hlt
      exact hn i x hlt hi
    · cases hi
  · obtain ⟨y, r, hy⟩ : ∃ y r, l.drop n = y :: r := by
      cases hd : l.drop n with
      | nil => rw [hd] at hx; cases hx
      | cons y r => exact ⟨y, r, rfl⟩
    have hy0 : l[n]? = some y := by
      have := List.getElem?_drop (xs := l) (i := n) (j := 0)
      rw [hy] at this
      simpa using this.symm
    have h1 := he y hy0
    have h2 := hk y (List.mem_of_getElem? hy0)
    have hp : (y :: r).Pairwise fun a b => f a ≤ f b := by rw [← hy]; exact h.sublist (List.drop_sublist _ _)
    rw [hy] at hx
    rcases List.mem_cons.1 hx with rfl | hx
    · omega
    · have := (List.pairwise_cons.1 hp).1 x hx
      omega

/-- A piece's key; the run of a piece within its key. -/
def skey (s : Sn) : Nat := s.1.toNat / 65536
def tor (s : Sn) : Rn := (UInt16.ofNat (s.1.toNat % 65536), UInt16.ofNat (s.2.toNat - s.1.toNat - 1))
theorem tor_spec {s : Sn} (h1 : s.1.toNat < s.2.toNat) (h2 : s.2.toNat ≤ s.1.toNat - s.1.toNat % 65536 + 65536) :
    (tor s).1.toNat = s.1.toNat % 65536 ∧ (tor s).2.toNat = s.2.toNat - s.1.toNat - 1 ∧ lst (tor s) + 1 + 65536 * skey s = s.2.toNat := by
  have e1 : (UInt16.ofNat (s.1.toNat % 65536)).toNat = s.1.toNat % 65536 := u16_of _ (Nat.mod_lt _ (by omega))
  have e2 : (UInt16.ofNat (s.2.toNat - s.1.toNat - 1)).toNat = s.2.toNat - s.1.toNat - 1 := u16_of _ (by omega)
  refine ⟨e1, e2, ?_⟩
  unfold lst tor skey
  show (UInt16.ofNat _).toNat + (UInt16.ofNat _).toNat + 1 + _ = _
  rw [e1, e2]
  omega
theorem part_runs {k : Nat} : ∀ (l : List Sn) (n m : Nat), myq n l → (∀ s ∈ l, skey s = k) → (∀ s r, l = s :: r → 65536 * k + m ≤ s.1.toNat) →
    mayr m (l.map tor) = true ∧ ∀ x, x < 65536 → mr (l.map tor) x = sp l (65536 * k + x)
  | [], n, m, _, _, _ => ⟨rfl, fun x _ => rfl⟩
  | s :: l, n, m, h, hk, hm => by
    obtain ⟨h1, h2, h3, h4, h5⟩ := h
    obtain ⟨t1, t2, t3⟩ := tor_spec h2 h3
    have hks := hk s (by simp)
    have hms := hm s l rfl
    have ks : s.1.toNat / 65536 = k := hks
    obtain ⟨a, b⟩ := part_runs (k := k) l _ (lst (tor s) + 2) h5 (fun t ht => hk t (by simp [ht])) (fun t r e => by
      subst e
      have kt : t.1.toNat / 65536 = k := hk t (by simp)
      have := h5.1
      rw [hks] at t3
      unfold nxq at this
      split at this <;> omega)
    rw [hks] at t3
    refine ⟨?_, fun x hx => ?_⟩
    · rw [List.map_cons, mayr_cons]
      exact ⟨by omega, by omega, a⟩
    · rw [List.map_cons, mr_cons, b x hx, sp_cons]
      congr 1
      rw [Bool.eq_iff_iff, inr_iff, ins_iff]
      omega
theorem myq_rise : ∀ (l : List Sn) (n : Nat), myq n l → (∀ s ∈ l, n ≤ s.1.toNat) ∧ l.Pairwise fun a b => skey a ≤ skey b
  | [], _, _ => ⟨fun s h => (by cases h), .nil⟩
  | s :: l, n, h => by
    obtain ⟨h1, h2, h3, h4, h5⟩ := h
    obtain ⟨a, b⟩ := myq_rise l _ h5
    have := nxq_ge s.2.toNat
    refine ⟨fun t ht => ?_, List.pairwise_cons.2 ⟨fun t ht => ?_, b⟩⟩
    · rcases List.mem_cons.1 ht with rfl | ht
      · exact h1
      · have := a t ht; omega
    · have := a t ht
      unfold skey; omega
theorem myq_in : ∀ (l : List Sn) (n : Nat), myq n l → ∀ s ∈ l, s.1.toNat < s.2.toNat ∧ s.2.toNat ≤ s.1.toNat - s.1.toNat % 65536 + 65536 ∧ s.2.toNat ≤ 4294967296
  | [], _, _ => fun s h => by cases h
  | s :: l, n, h => by
    obtain ⟨h1, h2, h3, h4, h5⟩ := h
    intro t ht
    rcases List.mem_cons.1 ht with rfl | ht
    · exact ⟨h2, h3, h4⟩
    · exact myq_in l _ h5 t ht
theorem ins_key {s : Sn} (h : s.1.toNat < s.2.toNat ∧ s.2.toNat ≤ s.1.toNat - s.1.toNat % 65536 + 65536) {x : Nat} (hx : ins s x = true) : x / 65536 = skey s := by
  rw [ins_iff] at hx
  unfold skey
  omega
theorem myq_part : ∀ (l : List Sn) (n : Nat), myq n l → ∀ i, myq n (l.take i) ∧ myq n (l.drop i)
  | [], n, _, i => by simp [myq]
  | s :: l, n, h, 0 => by simp [myq, h]
  | s :: l, n, h, i + 1 => by
    obtain ⟨h1, h2, h3, h4, h5⟩ := h
    obtain ⟨a, b⟩ := myq_part l _ h5 i
    have := nxq_ge s.2.toNat
    rw [List.take_succ_cons, List.drop_succ_cons]
    exact ⟨⟨h1, h2, h3, h4, a⟩, myq_mono (by omega) b⟩
/-- What a row of pieces has of a key, and of greater ones, when the pieces of that key are parted off. -/
theorem sp_part {l : List Sn} {i k : Nat} (hl : ∀ s ∈ l, s.1.toNat < s.2.toNat ∧ s.2.toNat ≤ s.1.toNat - s.1.toNat % 65536 + 65536 ∧ s.2.toNat ≤ 4294967296)
    (ha : ∀ s ∈ l.take i, skey s = k) (hb : ∀ s ∈ l.drop i, k < skey s) (x : Nat) :
    (x / 65536 = k → sp l x = sp (l.take i) x) ∧ (k < x / 65536 → sp l x = sp (l.drop i) x) ∧ (k < x / 65536 → sp (l.take i) x = false) := by
  have e : sp l x = (sp (l.take i) x || sp (l.drop i) x) := by rw [← sp_app, List.take_append_drop]
  have e1 : ∀ m : List Sn, (∀ s ∈ m, s ∈ l) → (∀ s ∈ m, skey s ≠ x / 65536) → sp m x = false := fun m hm hk => by
    cases hs : sp m x with
    | false => rfl
    | true =>
      obtain ⟨s, h1, h2⟩ := (sp_iff _ _).1 hs
      exact absurd (ins_key (x := x) ⟨(hl s (hm s h1)).1, (hl s (hm s h1)).2.1⟩ ((ins_iff s x).2 h2)).symm (hk s h1)
  refine ⟨fun hx => ?_, fun hx => ?_, fun hx => ?_⟩
  · rw [e, e1 (l.drop i) (fun s hs => List.mem_of_mem_drop hs) (fun s hs => by have := hb s hs; omega), Bool.or_false]
  · rw [e, e1 (l.take i) (fun s hs => List.mem_of_mem_take hs) (fun s hs => by have := ha s hs; omega), Bool.false_or]
  · exact e1 (l.take i) (fun s hs => List.mem_of_mem_take hs) (fun s hs => by have := ha s hs; omega)

/-- Numbers of 32 bits: whether one is among them; their keys; their lower halves. -/
def mk32 (l : List UInt32) (x : Nat) : Bool := l.any fun y => decide (y.toNat = x)
def ukey (y : UInt32) : Nat := y.toNat / 65536
def ulow (y : UInt32) : UInt16 := UInt16.ofNat (y.toNat % 65536)
theorem u32_lt (y : UInt32) : y.toNat < 4294967296 := y.toNat_lt
theorem ulow_nat (y : UInt32) : (ulow y).toNat = y.toNat % 65536 := u16_of _ (Nat.mod_lt _ (by omega))
theorem mk32_iff (l : List UInt32) (x : Nat) : mk32 l x = true ↔ ∃ y ∈ l, y.toNat = x := by simp [mk32]
theorem mk32_app (l m : List UInt32) (x : Nat) : mk32 (l ++ m) x = (mk32 l x || mk32 m x) := by simp [mk32]
/-- Numbers rise. -/
def rsu (l : List UInt32) : Prop := l.Pairwise fun a b => a.toNat < b.toNat
theorem rsu_keys {l : List UInt32} (h : rsu l) : l.Pairwise fun a b => ukey a ≤ ukey b := h.imp fun hab => by unfold ukey; omega
theorem part_lows {k : Nat} : ∀ l : List UInt32, rsu l → (∀ y ∈ l, ukey y = k) → ris (l.map ulow) = true ∧ ∀ x, x < 65536 → mk (l.map ulow) x = mk32 l (65536 * k + x)
  | [], _, _ => ⟨rfl, fun x _ => rfl⟩
  | y :: l, h, hk => by
    obtain ⟨h1, h2⟩ := List.pairwise_cons.1 h
    obtain ⟨a, b⟩ := part_lows (k := k) l h2 (fun t ht => hk t (by simp [ht]))
    have ky : y.toNat / 65536 = k := hk y (by simp)
    refine ⟨?_, fun x hx => ?_⟩
    · rw [List.map_cons]
      refine ris_cons (fun z hz => ?_) a
      obtain ⟨t, ht, rfl⟩ := List.mem_map.1 hz
      have := h1 t ht
      have kt : t.toNat / 65536 = k := hk t (by simp [ht])
      rw [ulow_nat, ulow_nat]
      omega
    · have e1 : mk (ulow y :: l.map ulow) x = (decide ((ulow y).toNat = x) || mk (l.map ulow) x) := by simp [mk]
      have e2 : mk32 (y :: l) (65536 * k + x) = (decide (y.toNat = 65536 * k + x) || mk32 l (65536 * k + x)) := by simp [mk32]
      rw [List.map_cons, e1, e2, b x hx, ulow_nat]
      congr 1
      exact decide_eq_decide.2 ⟨fun h => by omega, fun h => by omega⟩
theorem mk32_part {l : List UInt32} {i k : Nat} (ha : ∀ y ∈ l.take i, ukey y = k) (hb : ∀ y ∈ l.drop i, k < ukey y) (x : Nat) :
    (x / 65536 = k → mk32 l x = mk32 (l.take i) x) ∧ (k < x / 65536 → mk32 l x = mk32 (l.drop i) x) := by
  have e : mk32 l x = (mk32 (l.take i) x || mk32 (l.drop i) x) := by rw [← mk32_app, List.take_append_drop]
  have e1 : ∀ m : List UInt32, (∀ y ∈ m, ukey y ≠ x / 65536) → mk32 m x = false := fun m hk => by
    cases hs : mk32 m x with
    | false => rfl
    | true =>
      obtain ⟨y, h1, h2⟩ := (mk32_iff _ _).1 hs
      subst h2
      exact absurd rfl (hk y h1)
  refine ⟨fun hx => ?_, fun hx => ?_⟩
  · rw [e, e1 (l.drop i) (fun s hs => by have := hb s hs; omega), Bool.or_false]
  · rw [e, e1 (l.take i) (fun s hs => by have := ha s hs; omega), Bool.false_or]
end Go.Proofs.YtponcpneflhpfaaGreatDoor
