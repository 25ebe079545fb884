/- Plain mathematics: the edges of two rows of runs gone through side by side. No Go in sight. -/
import Derived.Test.YtfefmlnlicilbaaDoorF0
namespace Go.Proofs.YtfefmlnlicilbaaDoor
set_option linter.unusedVariables false
/-- The place of the next edge. -/
def edg : List Rn → Bool → Int
  | [], _ => 9223372036854775807
  | r :: _, true => (r.1.toNat : Int) + ((r.2.toNat : Int) + 1)
  | r :: _, false => (r.1.toNat : Int)
/-- The edge passed, where it is at that place. -/
def psf (s : List Rn × Bool) (at_ : Int) : List Rn × Bool :=
  if edg s.1 s.2 = at_ then (if s.2 = true then s.1.tail else s.1, !s.2) else s
/-- The runs of the numbers from lo on, below hi. -/
def btw (lo hi : Int) : List Rn := if hi ≤ lo then [] else [(UInt16.ofNat lo.toNat, UInt16.ofNat (hi - lo - 1).toNat)]
/-- The next place where there are edges. -/
def nxt (a b : List Rn × Bool) : Int := min (edg a.1 a.2) (edg b.1 b.2)
/-- How many edges are ahead. -/
def ahd (s : List Rn × Bool) : Nat := 2 * s.1.length - s.2.toNat
/-- The runs of what is taken, from the edges ahead; the open one's beginning, if one is open. -/
def pr (t : Bool → Bool → Bool) : Nat → Option Int → List Rn × Bool → List Rn × Bool → List Rn
  | 0, _, _, _ => []
  | f + 1, o, a, b =>
    if a.1 = [] ∧ b.1 = [] then [] else
      match o with
      | none => if t (psf a (nxt a b)).2 (psf b (nxt a b)).2 = true then pr t f (some (nxt a b)) (psf a (nxt a b)) (psf b (nxt a b)) else pr t f none (psf a (nxt a b)) (psf b (nxt a b))
      | some lo => if t (psf a (nxt a b)).2 (psf b (nxt a b)).2 = true then pr t f (some lo) (psf a (nxt a b)) (psf b (nxt a b)) else btw lo (nxt a b) ++ pr t f none (psf a (nxt a b)) (psf b (nxt a b))
theorem edg_nil (b : Bool) : edg [] b = 9223372036854775807 := by cases b <;> rfl
theorem pr_nil (t : Bool → Bool → Bool) (f : Nat) (o : Option Int) {a b : List Rn × Bool} (h : a.1 = [] ∧ b.1 = []) : pr t f o a b = [] := by
  cases f with
  | zero => rfl
  | succ f => rw [pr.eq_def]; simp only [if_pos h]
theorem pr_none (t : Bool → Bool → Bool) (f : Nat) {a b : List Rn × Bool} (h : ¬ (a.1 = [] ∧ b.1 = [])) :
    pr t (f + 1) none a b = if t (psf a (nxt a b)).2 (psf b (nxt a b)).2 = true then pr t f (some (nxt a b)) (psf a (nxt a b)) (psf b (nxt a b)) else pr t f none (psf a (nxt a b)) (psf b (nxt a b)) := by
  rw [pr.eq_def]; simp only [if_neg h]
theorem pr_some (t : Bool → Bool → Bool) (f : Nat) (lo : Int) {a b : List Rn × Bool} (h : ¬ (a.1 = [] ∧ b.1 = [])) :
    pr t (f + 1) (some lo) a b = if t (psf a (nxt a b)).2 (psf b (nxt a b)).2 = true then pr t f (some lo) (psf a (nxt a b)) (psf b (nxt a b)) else btw lo (nxt a b) ++ pr t f none (psf a (nxt a b)) (psf b (nxt a b)) := by
  rw [pr.eq_def]; simp only [if_neg h]
theorem edg_lt {l : List Rn} (h : l ≠ []) (b : Bool) : 0 ≤ edg l b ∧ edg l b ≤ 131071 := by
  cases l with
  | nil => exact absurd rfl h
  | cons r l =>
    have h1 := r.1.toNat_lt
    have h2 := r.2.toNat_lt
    cases b <;> simp only [edg] <;> omega
theorem nxt_lt {a b : List Rn × Bool} (h : ¬ (a.1 = [] ∧ b.1 = [])) : 0 ≤ nxt a b ∧ nxt a b ≤ 131071 := by
  unfold nxt
  by_cases ha : a.1 = []
  · have hb : b.1 ≠ [] := fun e => h ⟨ha, e⟩
    have := edg_lt hb b.2
    rw [ha, edg_nil]
    omega
  · have := edg_lt ha a.2
    by_cases hb : b.1 = []
    · rw [hb, edg_nil]
      omega
    · have := edg_lt hb b.2
      omega
/-- Where a run has begun, there is one. -/
def sok (s : List Rn × Bool) : Prop := s.2 = true → s.1 ≠ []
theorem sok_psf {s : List Rn × Bool} (h : sok s) {at_ : Int} (ha : at_ ≤ 131071) : sok (psf s at_) := by
  obtain ⟨l, b⟩ := s
  unfold psf
  split
  · rename_i he
    cases l with
    | nil => simp only [edg] at he; omega
    | cons r l => cases b <;> simp [sok]
  · exact h
theorem ahd_psf_le {s : List Rn × Bool} (h : sok s) (at_ : Int) : ahd (psf s at_) ≤ ahd s := by
  obtain ⟨l, b⟩ := s
  unfold psf
  split
  · cases l with
    | nil => cases b with
      | true => exact absurd rfl (h rfl)
      | false => simp [ahd]
    | cons r l => cases b <;> simp [ahd] <;> omega
  · exact Nat.le_refl _
theorem ahd_psf_lt {s : List Rn × Bool} (h : sok s) {at_ : Int} (ha : at_ ≤ 131071) (he : edg s.1 s.2 = at_) : ahd (psf s at_) < ahd s := by
  obtain ⟨l, b⟩ := s
  unfold psf
  rw [if_pos he]
  cases l with
  | nil => simp only [edg] at he; omega
  | cons r l => cases b <;> simp [ahd] <;> omega
/-- Each pass goes on. -/
theorem ahd_nxt {a b : List Rn × Bool} (ha : sok a) (hb : sok b) (h : ¬ (a.1 = [] ∧ b.1 = [])) : ahd (psf a (nxt a b)) + ahd (psf b (nxt a b)) < ahd a + ahd b := by
  have hl := (nxt_lt h).2
  have h1 := ahd_psf_le ha (nxt a b)
  have h2 := ahd_psf_le hb (nxt a b)
  have : edg a.1 a.2 = nxt a b ∨ edg b.1 b.2 = nxt a b := by unfold nxt; omega
  rcases this with e | e
  · have := ahd_psf_lt ha hl e; omega
  · have := ahd_psf_lt hb hl e; omega
theorem btw_len (lo hi : Int) : (btw lo hi).length ≤ 1 := by unfold btw; split <;> simp
theorem pr_len (t : Bool → Bool → Bool) (f : Nat) (o : Option Int) (a b : List Rn × Bool) : (pr t f o a b).length ≤ f := by
  induction f generalizing o a b with
  | zero => simp [pr]
  | succ f ih =>
    unfold pr
    split
    · simp
    · cases o with
      | none => simp only; split <;> exact Nat.le_succ_of_le (ih _ _ _)
      | some lo =>
        simp only
        split
        · exact Nat.le_succ_of_le (ih _ _ _)
        · rw [List.length_append]
          have := btw_len lo (nxt a b)
          have := ih none (psf a (nxt a b)) (psf b (nxt a b))
          omega
/-- All edges ahead lie at p or above, as right runs' do. -/
def good (p : Nat) : List Rn × Bool → Prop
  | (l, false) => mayr p l = true
  | (r :: l, true) => p ≤ lst r + 1 ∧ lst r ≤ 65535 ∧ mayr (lst r + 2) l = true
  | ([], true) => False
/-- The marks ahead. -/
def vs : List Rn × Bool → Nat → Bool
  | (l, false), x => mr l x
  | (r :: l, true), x => decide (x ≤ lst r) || mr l x
  | ([], true), _ => false
theorem good_edg {p : Nat} {s : List Rn × Bool} (h : good p s) : (p : Int) ≤ edg s.1 s.2 ∨ s.1 = [] := by
  obtain ⟨l, b⟩ := s
  cases l with
  | nil => exact .inr rfl
  | cons r l =>
    left
    cases b with
    | false =>
      have := (mayr_cons.1 h).1
      simp only [edg]
      omega
    | true =>
      have := h.1
      unfold lst at this
      simp only [edg]
      omega
theorem good_psf {p : Nat} {s : List Rn × Bool} (h : good p s) {q : Nat} (hp : p ≤ q) (hq : (q : Int) ≤ edg s.1 s.2) (hl : (q : Int) ≤ 131071) : good (q + 1) (psf s (q : Int)) := by
  obtain ⟨l, b⟩ := s
  unfold psf
  cases l with
  | nil =>
    rw [if_neg (by simp only [edg]; omega)]
    cases b with
    | false => exact rfl
    | true => exact h
  | cons r l =>
    have hf := fst_le r
    cases b with
    | false =>
      obtain ⟨h1, h2, h3⟩ := mayr_cons.1 h
      simp only [edg] at hq ⊢
      split
      · rename_i he
        simp only [Bool.false_eq_true, if_false, Bool.not_false, good]
        exact ⟨by omega, h2, h3⟩
      · exact mayr_cons.2 ⟨by omega, h2, h3⟩
    | true =>
      obtain ⟨h1, h2, h3⟩ := h
      simp only [edg] at hq ⊢
      split
      · rename_i he
        simp only [if_true, Bool.not_true, good, List.tail_cons]
        unfold lst at h3
        have e : q + 1 = r.1.toNat + r.2.toNat + 2 := by omega
        rw [e]
        exact h3
      · refine ⟨?_, h2, h3⟩
        unfold lst
        omega
theorem vs_psf {s : List Rn × Bool} {q x : Nat} (hl : (q : Int) ≤ 131071) (hx : q ≤ x) : vs (psf s (q : Int)) x = vs s x := by
  obtain ⟨l, b⟩ := s
  unfold psf
  split
  · rename_i he
    cases l with
    | nil => simp only [edg] at he; omega
    | cons r l =>
      have hf := fst_le r
      cases b with
      | false =>
        simp only [edg] at he
        simp only [Bool.false_eq_true, if_false, Bool.not_false, vs]
        rw [mr_cons]
        unfold inr
        rw [decide_eq_true (by omega : r.1.toNat ≤ x), Bool.true_and]
      | true =>
        simp only [edg] at he
        simp only [if_true, Bool.not_true, vs, List.tail_cons]
        rw [decide_eq_false (by unfold lst; omega), Bool.false_or]
  · rfl
/-- Up to the next edge nothing turns. -/
theorem vs_ahead {p : Nat} {s : List Rn × Bool} (h : good p s) {x : Nat} (hx : (x : Int) < edg s.1 s.2) : vs s x = s.2 := by
  obtain ⟨l, b⟩ := s
  cases b with
  | false =>
    simp only [vs]
    rw [Bool.eq_false_iff]
    intro hm
    cases l with
    | nil => cases hm
    | cons r l =>
      have hm2 : mayr r.1.toNat (r :: l) = true := by
        obtain ⟨h1, h2, h3⟩ := mayr_cons.1 h
        exact mayr_cons.2 ⟨Nat.le_refl _, h2, h3⟩
      have := (mr_ge hm2 hm).1
      simp only [edg] at hx
      omega
  | true =>
    cases l with
    | nil => exact h.elim
    | cons r l =>
      simp only [edg] at hx
      simp only [vs]
      rw [decide_eq_true (by unfold lst; omega), Bool.true_or]
theorem vs_nil {p : Nat} {s : List Rn × Bool} (h : good p s) (hs : s.1 = []) : s.2 = false ∧ ∀ x, vs s x = false := by
  obtain ⟨l, b⟩ := s
  simp only at hs
  subst hs
  cases b with
  | false => exact ⟨rfl, fun x => rfl⟩
  | true => exact h.elim
theorem edg_le {p : Nat} {s : List Rn × Bool} (h : good p s) (hs : s.1 ≠ []) : edg s.1 s.2 ≤ 65536 := by
  obtain ⟨l, b⟩ := s
  cases l with
  | nil => exact absurd rfl hs
  | cons r l =>
    have hf := fst_le r
    cases b with
    | false =>
      have := (mayr_cons.1 h).2.1
      simp only [edg]
      omega
    | true =>
      have := h.2.1
      unfold lst at this
      simp only [edg]
      omega
theorem btw_right {lo hi : Nat} (h : lo < hi) (hh : hi ≤ 65536) : ∃ r, btw (lo : Int) (hi : Int) = [r] ∧ r.1.toNat = lo ∧ lst r + 1 = hi := by
  refine ⟨_, by unfold btw; rw [if_neg (by omega)], ?_, ?_⟩
  · simp only [Int.toNat_natCast]; exact u16_of lo (by omega)
  · unfold lst
    have e : ((hi : Int) - lo - 1).toNat = hi - lo - 1 := by omega
    simp only [Int.toNat_natCast]
    rw [e, u16_of lo (by omega), u16_of _ (by omega)]
    omega
theorem pr_right (t : Bool → Bool → Bool) (t0 : t false false = false) (f : Nat) : ∀ (p : Nat) (o : Option Nat) (a b : List Rn × Bool), good p a → good p b → ahd a + ahd b ≤ f →
    (o = none → t a.2 b.2 = false → mayr p (pr t f (o.map Int.ofNat) a b) = true ∧ ∀ x, p ≤ x + 1 → mr (pr t f (o.map Int.ofNat) a b) x = t (vs a x) (vs b x)) ∧
    (∀ lo, o = some lo → t a.2 b.2 = true → lo < p → mayr lo (pr t f (o.map Int.ofNat) a b) = true ∧ ∀ x, lo ≤ x → mr (pr t f (o.map Int.ofNat) a b) x = (decide (x < p) || t (vs a x) (vs b x))) := by
  induction f with
  | zero =>
    intro p o a b ha hb hf
    have na : a.1 = [] := by
      obtain ⟨l, c⟩ := a
      cases l with
      | nil => rfl
      | cons r l => cases c <;> simp [ahd] at hf <;> omega
    have nb : b.1 = [] := by
      obtain ⟨l, c⟩ := b
      cases l with
      | nil => rfl
      | cons r l => cases c <;> simp [ahd] at hf <;> omega
    obtain ⟨a1, a2⟩ := vs_nil ha na
    obtain ⟨b1, b2⟩ := vs_nil hb nb
    refine ⟨fun _ _ => ⟨rfl, fun x _ => by rw [a2, b2, t0]; rfl⟩, fun lo _ h => ?_⟩
    rw [a1, b1, t0] at h
    cases h
  | succ f ih =>
    intro p o a b ha hb hf
    by_cases hn : a.1 = [] ∧ b.1 = []
    · obtain ⟨a1, a2⟩ := vs_nil ha hn.1
      obtain ⟨b1, b2⟩ := vs_nil hb hn.2
      refine ⟨fun _ _ => ?_, fun lo _ h => ?_⟩
      · have e : pr t (f + 1) (o.map Int.ofNat) a b = [] := pr_nil t _ _ hn
        rw [e]
        exact ⟨rfl, fun x _ => by rw [a2, b2, t0]; rfl⟩
      · rw [a1, b1, t0] at h
        cases h
    · have hl := nxt_lt hn
      obtain ⟨q, hq⟩ : ∃ q : Nat, nxt a b = (q : Int) := ⟨(nxt a b).toNat, by omega⟩
      have ka : sok a := by
        obtain ⟨l, c⟩ := a
        cases l with
        | nil => cases c with
          | false => intro h; cases h
          | true => exact ha.elim
        | cons r l => intro _; simp
      have kb : sok b := by
        obtain ⟨l, c⟩ := b
        cases l with
        | nil => cases c with
          | false => intro h; cases h
          | true => exact hb.elim
        | cons r l => intro _; simp
      have hm := ahd_nxt ka kb hn
      have qa : (q : Int) ≤ edg a.1 a.2 := by rw [← hq]; exact Int.min_le_left _ _
      have qb : (q : Int) ≤ edg b.1 b.2 := by rw [← hq]; exact Int.min_le_right _ _
      have hpq : p ≤ q := by
        have e1 := good_edg ha
        have e2 := good_edg hb
        have e3 : nxt a b = edg a.1 a.2 ∨ nxt a b = edg b.1 b.2 := by unfold nxt; omega
        rcases e1 with e1 | e1
        · rcases e2 with e2 | e2
          · omega
          · have : edg b.1 b.2 = 9223372036854775807 := by rw [e2]; rfl
            omega
        · rcases e2 with e2 | e2
          · have : edg a.1 a.2 = 9223372036854775807 := by rw [e1]; rfl
            omega
          · exact absurd ⟨e1, e2⟩ hn
      have q6 : q ≤ 65536 := by
        by_cases na : a.1 = []
        · have := edg_le hb (fun e => hn ⟨na, e⟩)
          omega
        · have := edg_le ha na
          omega
      rw [hq] at hm hl
      have ga := good_psf ha hpq qa hl.2
      have gb := good_psf hb hpq qb hl.2
      have vt : ∀ x, q ≤ x → t (vs (psf a (q : Int)) x) (vs (psf b (q : Int)) x) = t (vs a x) (vs b x) := fun x hx => by rw [vs_psf hl.2 hx, vs_psf hl.2 hx]
      have va : ∀ x, x < q → t (vs a x) (vs b x) = t a.2 b.2 := fun x hx => by rw [vs_ahead ha (by omega), vs_ahead hb (by omega)]
      refine ⟨fun ho h0 => ?_, fun lo ho h1 hlo => ?_⟩
      · subst ho
        have e : pr t (f + 1) (Option.map Int.ofNat none) a b = if t (psf a (q : Int)).2 (psf b (q : Int)).2 = true then pr t f (some (q : Int)) (psf a (q : Int)) (psf b (q : Int)) else pr t f none (psf a (q : Int)) (psf b (q : Int)) := by
          rw [Option.map_none, pr_none t f hn, hq]
        rw [e]
        cases ht : t (psf a (q : Int)).2 (psf b (q : Int)).2 with
        | true =>
          rw [if_pos rfl]
          obtain ⟨i1, i2⟩ := (ih (q + 1) (some q) _ _ ga gb (by omega)).2 q rfl ht (by omega)
          simp only [Option.map_some, Int.ofNat_eq_natCast] at i1 i2
          refine ⟨mayr_mono hpq i1, fun x hx => ?_⟩
          rcases Nat.lt_or_ge x q with hxq | hxq
          · rw [va x hxq, h0, Bool.eq_false_iff]
            intro hm
            have := (mr_ge i1 hm).1
            omega
          · rw [i2 x hxq, vt x hxq]
            rcases Nat.lt_or_ge q x with hh | hh
            · rw [decide_eq_false (by omega), Bool.false_or]
            · have hxe : x = q := by omega
              subst hxe
              rw [decide_eq_true (by omega), Bool.true_or, ← vt x (Nat.le_refl _)]
              have za : vs (psf a (x : Int)) x = (psf a (x : Int)).2 := by
                rcases good_edg ga with e | e
                · exact vs_ahead ga (by omega)
                · rw [(vs_nil ga e).2, (vs_nil ga e).1]
              have zb : vs (psf b (x : Int)) x = (psf b (x : Int)).2 := by
                rcases good_edg gb with e | e
                · exact vs_ahead gb (by omega)
                · rw [(vs_nil gb e).2, (vs_nil gb e).1]
              rw [za, zb, ht]
        | false =>
          rw [if_neg (by simp)]
          obtain ⟨i1, i2⟩ := (ih (q + 1) none _ _ ga gb (by omega)).1 rfl ht
          simp only [Option.map_none] at i1 i2
          refine ⟨mayr_mono (by omega) i1, fun x hx => ?_⟩
          rcases Nat.lt_or_ge x q with hxq | hxq
          · rw [va x hxq, h0, Bool.eq_false_iff]
            intro hm
            have := (mr_ge i1 hm).1
            omega
          · rw [i2 x (by omega), vt x hxq]
      · subst ho
        have e : pr t (f + 1) (Option.map Int.ofNat (some lo)) a b = if t (psf a (q : Int)).2 (psf b (q : Int)).2 = true then pr t f (some (lo : Int)) (psf a (q : Int)) (psf b (q : Int)) else btw (lo : Int) (q : Int) ++ pr t f none (psf a (q : Int)) (psf b (q : Int)) := by
          rw [Option.map_some, Int.ofNat_eq_natCast, pr_some t f _ hn, hq]
        rw [e]
        cases ht : t (psf a (q : Int)).2 (psf b (q : Int)).2 with
        | true =>
          rw [if_pos rfl]
          obtain ⟨i1, i2⟩ := (ih (q + 1) (some lo) _ _ ga gb (by omega)).2 lo rfl ht (by omega)
          simp only [Option.map_some, Int.ofNat_eq_natCast] at i1 i2
          refine ⟨i1, fun x hx => ?_⟩
          rw [i2 x hx]
          rcases Nat.lt_or_ge x q with hxq | hxq
          · rw [va x hxq, h1, decide_eq_true (by omega), Bool.true_or, Bool.or_true]
          · rw [vt x hxq]
            rcases Nat.lt_or_ge q x with hh | hh
            · rw [decide_eq_false (by omega), decide_eq_false (by omega)]
            · have hxe : x = q := by omega
              subst hxe
              rw [decide_eq_true (by omega), Bool.true_or, decide_eq_false (by omega), Bool.false_or, ← vt x (Nat.le_refl _)]
              have za : vs (psf a (x : Int)) x = (psf a (x : Int)).2 := by
                rcases good_edg ga with e | e
                · exact vs_ahead ga (by omega)
                · rw [(vs_nil ga e).2, (vs_nil ga e).1]
              have zb : vs (psf b (x : Int)) x = (psf b (x : Int)).2 := by
                rcases good_edg gb with e | e
                · exact vs_ahead gb (by omega)
                · rw [(vs_nil gb e).2, (vs_nil gb e).1]
              rw [za, zb, ht]
        | false =>
          rw [if_neg (by simp)]
          obtain ⟨i1, i2⟩ := (ih (q + 1) none _ _ ga gb (by omega)).1 rfl ht
          simp only [Option.map_none] at i1 i2
          obtain ⟨r, e1, e2, e3⟩ := btw_right (lo := lo) (hi := q) (by omega) q6
          rw [e1, List.singleton_append]
          refine ⟨mayr_cons.2 ⟨by omega, by omega, mayr_mono (by omega) i1⟩, fun x hx => ?_⟩
          rw [mr_cons]
          rcases Nat.lt_or_ge x q with hxq | hxq
          · rw [va x hxq, h1, (inr_iff _ _).2 ⟨by omega, by omega⟩, Bool.true_or, Bool.or_true]
          · have : inr r x = false := by
              rw [Bool.eq_false_iff]
              intro hh
              have := ((inr_iff _ _).1 hh).2
              omega
            rw [this, Bool.false_or, i2 x (by omega), vt x hxq, decide_eq_false (by omega), Bool.false_or]
/-- The runs of what is taken of two rows. -/
def pd (t : Bool → Bool → Bool) (a b : List Rn) : List Rn := pr t (2 * a.length + 2 * b.length) none (a, false) (b, false)
theorem pd_right {t : Bool → Bool → Bool} (t0 : t false false = false) {a b : List Rn} (ha : mayr 0 a = true) (hb : mayr 0 b = true) :
    mayr 0 (pd t a b) = true ∧ ∀ x, mr (pd t a b) x = t (mr a x) (mr b x) := by
  obtain ⟨h1, h2⟩ := (pr_right t t0 (2 * a.length + 2 * b.length) 0 none (a, false) (b, false) ha hb (by simp [ahd])).1 rfl t0
  exact ⟨h1, fun x => h2 x (Nat.zero_le _)⟩
theorem pd_len (t : Bool → Bool → Bool) (a b : List Rn) : (pd t a b).length ≤ 2 * a.length + 2 * b.length := pr_len ..
/-- The fuel is enough: more of it changes nothing. -/
theorem pr_more (t : Bool → Bool → Bool) (f : Nat) : ∀ (g : Nat) (o : Option Int) (a b : List Rn × Bool), sok a → sok b → ahd a + ahd b ≤ f → f ≤ g → pr t g o a b = pr t f o a b := by
  induction f with
  | zero =>
    intro g o a b ka kb h hg
    have na : a.1 = [] := by
      obtain ⟨l, c⟩ := a
      cases l with
      | nil => rfl
      | cons r l => cases c <;> simp [ahd] at h <;> omega
    have nb : b.1 = [] := by
      obtain ⟨l, c⟩ := b
      cases l with
      | nil => rfl
      | cons r l => cases c <;> simp [ahd] at h <;> omega
    rw [pr_nil t g o ⟨na, nb⟩, pr_nil t 0 o ⟨na, nb⟩]
  | succ f ih =>
    intro g o a b ka kb h hg
    obtain ⟨g, rfl⟩ : ∃ g', g = g' + 1 := ⟨g - 1, by omega⟩
    by_cases hn : a.1 = [] ∧ b.1 = []
    · rw [pr_nil t _ o hn, pr_nil t _ o hn]
    · have hm := ahd_nxt ka kb hn
      have hl := (nxt_lt hn).2
      have k1 := sok_psf ka hl
      have k2 := sok_psf kb hl
      cases o with
      | none => rw [pr_none t g hn, pr_none t f hn, ih g _ _ _ k1 k2 (by omega) (by omega), ih g _ _ _ k1 k2 (by omega) (by omega)]
      | some lo => rw [pr_some t g lo hn, pr_some t f lo hn, ih g _ _ _ k1 k2 (by omega) (by omega), ih g _ _ _ k1 k2 (by omega) (by omega)]
end Go.Proofs.YtfefmlnlicilbaaDoor
