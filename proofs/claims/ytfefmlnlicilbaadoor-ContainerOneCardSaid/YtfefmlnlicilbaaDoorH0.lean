/- Mathematics of containers: the canonical kind of a set, its size; sets flipped, and with a number more. -/
import Derived.Test.YtfefmlnlicilbaaDoorUFO
namespace Go.Proofs.YtfefmlnlicilbaaDoor
open Go.RowKit
set_option linter.unusedVariables false

/-- The canonical kind of so many numbers in so many runs. -/
def ckn (c r : Nat) : Nat := if 2 + 4 * r < (if c ≤ 4096 then 2 * c else 8192) then 3 else if c ≤ 4096 then 1 else 2
/-- The size as a kind. -/
def szn (k c r : Nat) : Nat := if k = 2 then 8192 else if k = 3 then 2 + 4 * r else 2 * c
/-- The canonical kind of a set. -/
def ck (p : Nat → Bool) : Nat := ckn (ct p 65536) (ct (hm p) 65536)
theorem ckn_le (c r : Nat) : 1 ≤ ckn c r ∧ ckn c r ≤ 3 := by unfold ckn; split <;> (try split) <;> omega
theorem ck_le (p : Nat → Bool) : 1 ≤ ck p ∧ ck p ≤ 3 := ckn_le _ _
theorem ck_ext {p q : Nat → Bool} (h : ∀ x, x < 65536 → p x = q x) : ck p = ck q := by
  unfold ck
  rw [ct_ext h, ct_ext (hm_ext (n := 65536) h)]
theorem szn_least (c r : Nat) : szn (ckn c r) c r = if c ≤ 4096 then min (min 8192 (2 + 4 * r)) (2 * c) else min 8192 (2 + 4 * r) := by
  unfold szn ckn
  by_cases h : c ≤ 4096
  · simp only [if_pos h]
    by_cases h2 : 2 + 4 * r < 2 * c
    · rw [if_pos h2]; simp; omega
    · rw [if_neg h2]; simp; omega
  · simp only [if_neg h]
    by_cases h2 : 2 + 4 * r < 8192
    · rw [if_pos h2]; simp; omega
    · rw [if_neg h2]; simp; omega

/-- A rising row is the list of its marks. -/
theorem ls_mk {l : List UInt16} (h : ris l = true) : ls (mk l) 65536 = l :=
  ris_ext (ris_ls _ _ (Nat.le_refl _)) h fun z => by rw [ls_mem _ _ (Nat.le_refl _), mk_iff]; exact ⟨fun h => h.2, fun h => ⟨u16_lt z, h⟩⟩
theorem ct_mk {l : List UInt16} (h : ris l = true) : ct (mk l) 65536 = l.length := by rw [← ls_ct, ls_mk h]
theorem hm_mk {l : List UInt16} (h : ris l = true) : ct (hm (mk l)) 65536 = rn none l := by rw [← ls_ct, rn_ls h]
/-- A set with a number more. -/
def pls (p : Nat → Bool) (x : Nat) (i : Nat) : Bool := decide (i = x) || p i
theorem pls_has {p : Nat → Bool} {x : Nat} (h : p x = true) : pls p x = p := by
  funext i
  unfold pls
  by_cases e : i = x
  · subst e; rw [h]; simp
  · rw [decide_eq_false e, Bool.false_or]
theorem pls_flp {p : Nat → Bool} {x : Nat} (h : p x = false) : flp p x ((x : Int) + 1) = pls p x := by
  funext i
  unfold pls
  by_cases e : i = x
  · subst e
    unfold flp
    rw [h, decide_eq_true (by omega), decide_eq_true (by omega), decide_eq_true rfl]
    rfl
  · rw [flp_out (by omega), decide_eq_false e, Bool.false_or]
theorem wi_pls {l : List UInt16} (h : ris l = true) (x : UInt16) (p : Nat → Bool) (hp : l = ls p 65536) : wi l x = ls (pls p x.toNat) 65536 := by
  rw [ls_wi h x, hp]
  exact ls_ext fun j hj => by rw [mk_ls p hj]; rfl
theorem flp_ext {p q : Nat → Bool} (h : ∀ x, x < 65536 → p x = q x) (lo hi : Int) : ∀ x, x < 65536 → flp p lo hi x = flp q lo hi x := fun x hx => by unfold flp; rw [h x hx]
theorem flp_join (p : Nat → Bool) {lo mid hi : Int} (h1 : lo ≤ mid) (h2 : mid ≤ hi) : flp (flp p lo mid) mid hi = flp p lo hi := by
  funext x
  unfold flp
  have d1 : ∀ a b : Int, a ≤ x → (x : Int) < b → (decide (a ≤ (x : Int)) && decide ((x : Int) < b)) = true := fun a b h1 h2 => by rw [decide_eq_true h1, decide_eq_true h2]; rfl
  have d2 : ∀ a b : Int, (x : Int) < a ∨ b ≤ x → (decide (a ≤ (x : Int)) && decide ((x : Int) < b)) = false := fun a b h => by
    rcases h with h | h
    · rw [decide_eq_false (show ¬ a ≤ (x : Int) by omega)]; rfl
    · rw [decide_eq_false (show ¬ (x : Int) < b by omega), Bool.and_false]
  by_cases c1 : (x : Int) < lo
  · rw [d2 lo mid (.inl c1), d2 mid hi (.inl (by omega)), d2 lo hi (.inl c1)]; cases p x <;> rfl
  · by_cases c2 : (x : Int) < mid
    · rw [d1 lo mid (by omega) c2, d2 mid hi (.inl c2), d1 lo hi (by omega) (by omega)]; cases p x <;> rfl
    · by_cases c3 : (x : Int) < hi
      · rw [d2 lo mid (.inr (by omega)), d1 mid hi (by omega) c3, d1 lo hi (by omega) c3]; cases p x <;> rfl
      · rw [d2 lo mid (.inr (by omega)), d2 mid hi (.inr (by omega)), d2 lo hi (.inr (by omega))]; cases p x <;> rfl
theorem flp_all (p : Nat → Bool) : ∀ x, x < 65536 → flp p 0 65536 x = !p x := fun x hx => by
  unfold flp
  rw [decide_eq_true (by omega), decide_eq_true (by omega)]
  simp
/-- Right runs, flipped, are the runs of the flipped set. -/
theorem flr_rs (p : Nat → Bool) (lo hi : Int) : pd fXor (rs p 65536) (btw (clp lo) (clp hi)) = rs (flp p lo hi) 65536 := by
  obtain ⟨h1, h2⟩ := pd_right (t := fXor) rfl (mayr_rs p) (btw_may (clp_le lo) (clp_le hi))
  refine rs_mr h1 fun x hx => ?_
  rw [h2, mr_rs p hx, btw_marks (clp_le lo) (clp_le hi)]
  unfold fXor flp
  congr 1
  have e1 : decide (clp lo ≤ (x : Int)) = decide (lo ≤ (x : Int)) := decide_eq_decide.2 (by unfold clp; split <;> (try split) <;> omega)
  have e2 : decide ((x : Int) < clp hi) = decide ((x : Int) < hi) := decide_eq_decide.2 (by unfold clp; split <;> (try split) <;> omega)
  rw [e1, e2]
theorem pd_rs {t : Bool → Bool → Bool} (t0 : t false false = false) (p q : Nat → Bool) : pd t (rs p 65536) (rs q 65536) = rs (fun x => t (p x) (q x)) 65536 := by
  obtain ⟨h1, h2⟩ := pd_right t0 (mayr_rs p) (mayr_rs q)
  exact rs_mr h1 fun x hx => by rw [h2, mr_rs p hx, mr_rs q hx]

theorem ofp_inv {l : List UInt16} (h : ris l = true) : ∀ k, k ≤ l.length → mayr 0 (ofp l k) = true ∧ (∀ x, mr (ofp l k) x = mk (l.take k) x) ∧ (0 < k → ∃ L r, ofp l k = L ++ [r] ∧ lst r = (at16 l (k - 1)).toNat) := by
  intro k
  induction k with
  | zero => exact fun _ => ⟨rfl, fun x => rfl, fun h => absurd h (by omega)⟩
  | succ k ih =>
    intro hk
    obtain ⟨i1, i2, i3⟩ := ih (by omega)
    have hx := u16_lt (at16 l k)
    rw [ofp_succ]
    by_cases hc : (decide (0 < k) && decide ((at16 l k).toNat = (at16 l (k - 1)).toNat + 1)) = true
    · rw [if_pos hc]
      rw [Bool.and_eq_true, decide_eq_true_eq, decide_eq_true_eq] at hc
      obtain ⟨L, r, e, hr⟩ := i3 hc.1
      rw [e] at i1 i2 ⊢
      rw [bump_snoc]
      obtain ⟨a1, a2, a3, a4⟩ := mayr_snoc.1 i1
      have hr2 : (r.2 + 1).toNat = r.2.toNat + 1 := by
        rw [UInt16.toNat_add]
        have e1 : (1 : UInt16).toNat = 1 := rfl
        rw [e1]
        have e2 : r.1.toNat + r.2.toNat = (at16 l (k - 1)).toNat := hr
        have e3 := hc.2
        omega
      have hl : lst (r.1, r.2 + 1) = (at16 l k).toNat := by
        have e2 : r.1.toNat + r.2.toNat = (at16 l (k - 1)).toNat := hr
        have e3 := hc.2
        show r.1.toNat + (r.2 + 1).toNat = _
        rw [hr2]
        omega
      refine ⟨mayr_snoc.2 ⟨a1, a2, a3, by rw [hl]; omega⟩, fun x => ?_, fun _ => ⟨L, _, rfl, by rw [hl]; rfl⟩⟩
      have h2 := i2 x
      rw [mr_app] at h2 ⊢
      rw [mk_take l k (by omega), ← h2, Bool.or_assoc]
      congr 1
      rw [mr_cons, mr_cons, mr_nil, Bool.or_false, Bool.or_false, Bool.eq_iff_iff, inr_iff, Bool.or_eq_true, inr_iff, decide_eq_true_eq, hl]
      show r.1.toNat ≤ x ∧ _ ↔ _
      have := fst_le r
      omega
    · rw [if_neg hc]
      have hx0 : lst ((at16 l k, 0) : Rn) = (at16 l k).toNat := rfl
      refine ⟨mayr_snoc.2 ⟨i1, fun s hs => ?_, Nat.zero_le _, by rw [hx0]; omega⟩, fun x => ?_, fun _ => ⟨_, _, rfl, hx0⟩⟩
      · have hk0 : 0 < k := by
          rcases Nat.eq_zero_or_pos k with e | e
          · subst e; simp [ofp] at hs
          · exact e
        obtain ⟨L, r, e, hr⟩ := i3 hk0
        have hlt := ris_at h (i := k - 1) (j := k) (by omega) (by omega)
        have hne : (at16 l k).toNat ≠ (at16 l (k - 1)).toNat + 1 := fun e2 => hc (by rw [decide_eq_true hk0, decide_eq_true e2]; rfl)
        rw [e] at hs i1
        show lst s + 2 ≤ (at16 l k).toNat
        rcases List.mem_append.1 hs with g | g
        · have g2 := (mayr_snoc.1 i1).2.1 s g
          have := fst_le r
          omega
        · rw [List.mem_singleton] at g
          subst g
          omega
      · rw [mr_app, i2, mk_take l k (by omega)]
        congr 1
        rw [mr_cons, mr_nil, Bool.or_false, Bool.eq_iff_iff, inr_iff, decide_eq_true_eq, hx0]
        show (at16 l k).toNat ≤ x ∧ x ≤ (at16 l k).toNat ↔ _
        omega
theorem ofp_rs {l : List UInt16} (h : ris l = true) : ofp l l.length = rs (mk l) 65536 := by
  obtain ⟨h1, h2, -⟩ := ofp_inv h l.length (Nat.le_refl _)
  exact rs_mr h1 fun x hx => by rw [h2, List.take_length]
theorem ofp_ls (p : Nat → Bool) : ofp (ls p 65536) (ls p 65536).length = rs p 65536 := by
  rw [ofp_rs (ris_ls p _ (Nat.le_refl _))]
  exact rs_ext fun x hx => mk_ls p hx
theorem lists_rs (p : Nat → Bool) : ls (mr (rs p 65536)) 65536 = ls p 65536 := ls_ext fun x hx => mr_rs p hx
theorem count_rs (p : Nat → Bool) : ct (mr (rs p 65536)) 65536 = ct p 65536 := ct_ext fun x hx => mr_rs p hx
theorem mk_words (p : Nat → Bool) : wm (mk (ls p 65536)) = wm p := wm_ext fun x hx => mk_ls p hx
theorem rs_short (p : Nat → Bool) : (rs p 65536).length ≤ 65536 := mayr_len (mayr_rs p)
end Go.Proofs.YtfefmlnlicilbaaDoor
