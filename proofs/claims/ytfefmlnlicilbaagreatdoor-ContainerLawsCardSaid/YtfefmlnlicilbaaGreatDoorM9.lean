/- Walks: what a container of each kind does. -/
import Derived.Test.YtfefmlnlicilbaaGreatDoorM6
import Derived.Laws.EntriesVeiled
/- Mathematics of containers: the canonical kind of a set, its size; sets flipped, and with a number more. -/
namespace Go.Proofs.YtfefmlnlicilbaaGreatDoor
open Go.RowKit
set_option linter.unusedVariables false

/-- The canonical kind of so many numbers in so many runs. -/
def ckn (c r : Nat) : Nat := if 2 + 4 * r < (if c ≤ 4096 then 2 * c else 8192) then 3 else if c ≤ 4096 then 1 else 2
/-- The size as a kind. -/
def szn (k c r : Nat) : Nat := if k = 2 then 8192 else if k = 3 then 2 + 4 * r else 2 * c
/-- The canonical kind of a set. -/
def ck (p : Nat → Bool) : Nat := ckn (ct p 65536) (ct (hm p) 65536)
theorem ckn_le (c r : Nat) : 1 ≤ ckn c r ∧ ckn c r ≤ 3 := by unfold ckn; split <;> (try split) <;> omega
theorem ck_le (p : Nat → Bool) : 1 ≤ ck p ∧ ck p ≤ 3 := ckn_le _ _
theorem ck_ext {p q : Nat → Bool} (h : ∀ x, x < 65536 → p x = q x) : ck p = ck q := by
  unfold ck
  rw [ct_ext h, ct_ext (hm_ext (n := 65536) h)]
theorem szn_least (c r : Nat) : szn (ckn c r) c r = if c ≤ 4096 then min (min 8192 (2 + 4 * r)) (2 * c) else min 8192 (2 + 4 * r) := by
  unfold szn ckn
  by_cases h : c ≤ 4096
  · simp only [if_pos h]
    by_cases h2 : 2 + 4 * r < 2 * c
    · rw [if_pos h2]; simp; omega
    · rw [if_neg h2]; simp; omega
  · simp only [if_neg h]
    by_cases h2 : 2 + 4 * r < 8192
    · rw [if_pos h2]; simp; omega
    · rw [if_neg h2]; simp; omega

/-- A rising row is the list of its marks. -/
theorem ls_mk {l : List UInt16} (h : ris l = true) : ls (mk l) 65536 = l :=
  ris_ext (ris_ls _ _ (Nat.le_refl _)) h fun z => by rw [ls_mem _ _ (Nat.le_refl _), mk_iff]; exact ⟨fun h => h.2, fun h => ⟨u16_lt z, h⟩⟩
theorem ct_mk {l : List UInt16} (h : ris l = true) : ct (mk l) 65536 = l.length := by rw [← ls_ct, ls_mk h]
theorem hm_mk {l : List UInt16} (h : ris l = true) : ct (hm (mk l)) 65536 = rn none l := by rw [← ls_ct, rn_ls h]
/-- A set with a number more. -/
def pls (p : Nat → Bool) (x : Nat) (i : Nat) : Bool := decide (i = x) || p i
theorem pls_has {p : Nat → Bool} {x : Nat} (h : p x = true) : pls p x = p := by
  funext i
  unfold pls
  by_cases e : i = x
  · subst e; rw [h]; simp
  · rw [decide_eq_false e, Bool.false_or]
theorem pls_flp {p : Nat → Bool} {x : Nat} (h : p x = false) : flp p x ((x : Int) + 1) = pls p x := by
  funext i
  unfold pls
  by_cases e : i = x
  · subst e
    unfold flp
    rw [h, decide_eq_true (by omega), decide_eq_true (by omega), decide_eq_true rfl]
    rfl
  · rw [flp_out (by omega), decide_eq_false e, Bool.false_or]
theorem wi_pls {l : List UInt16} (h : ris l = true) (x : UInt16) (p : Nat → Bool) (hp : l = ls p 65536) : wi l x = ls (pls p x.toNat) 65536 := by
  rw [ls_wi h x, hp]
  exact ls_ext fun j hj => by rw [mk_ls p hj]; rfl
theorem flp_ext {p q : Nat → Bool} (h : ∀ x, x < 65536 → p x = q x) (lo hi : Int) : ∀ x, x < 65536 → flp p lo hi x = flp q lo hi x := fun x hx => by unfold flp; rw [h x hx]
theorem flp_join (p : Nat → Bool) {lo mid hi : Int} (h1 : lo ≤ mid) (h2 : mid ≤ hi) : flp (flp p lo mid) mid hi = flp p lo hi := by
  funext x
  unfold flp
  have d1 : ∀ a b : Int, a ≤ x → (x : Int) < b → (decide (a ≤ (x : Int)) && decide ((x : Int) < b)) = true := fun a b h1 h2 => by rw [decide_eq_true h1, decide_eq_true h2]; rfl
  have d2 : ∀ a b : Int, (x : Int) < a ∨ b ≤ x → (decide (a ≤ (x : Int)) && decide ((x : Int) < b)) = false := fun a b h => by
    rcases h with h | h
    · rw [decide_eq_false (show ¬ a ≤ (x : Int) by omega)]; rfl
    · rw [decide_eq_false (show ¬ (x : Int) < b by omega), Bool.and_false]
  by_cases c1 : (x : Int) < lo
  · rw [d2 lo mid (.inl c1), d2 mid hi (.inl (by omega)), d2 lo hi (.inl c1)]; cases p x <;> rfl
  · by_cases c2 : (x : Int) < mid
    · rw [d1 lo mid (by omega) c2, d2 mid hi (.inl c2), d1 lo hi (by omega) (by omega)]; cases p x <;> rfl
    · by_cases c3 : (x : Int) < hi
      · rw [d2 lo mid (.inr (by omega)), d1 mid hi (by omega) c3, d1 lo hi (by omega) c3]; cases p x <;> rfl
      · rw [d2 lo mid (.inr (by omega)), d2 mid hi (.inr (by omega)), d2 lo hi (.inr (by omega))]; cases p x <;> rfl
theorem flp_all (p : Nat → Bool) : ∀ x, x < 65536 → flp p 0 65536 x = !p x := fun x hx => by
  unfold flp
  rw [decide_eq_true (by omega), decide_eq_true (by omega)]
  simp
/-- Right runs, flipped, are the runs of the flipped set. -/
theorem flr_rs (p : Nat → Bool) (lo hi : Int) : pd fXor (rs p 65536) (btw (clp lo) (clp hi)) = rs (flp p lo hi) 65536 := by
  obtain ⟨h1, h2⟩ := pd_right (t := fXor) rfl (mayr_rs p) (btw_may (clp_le lo) (clp_le hi))
  refine rs_mr h1 fun x hx => ?_
  rw [h2, mr_rs p hx, btw_marks (clp_le lo) (clp_le hi)]
  unfold fXor flp
  congr 1
  have e1 : decide (clp lo ≤ (x : Int)) = decide (lo ≤ (x : Int)) := decide_eq_decide.2 (by unfold clp; split <;> (try split) <;> omega)
  have e2 : decide ((x : Int) < clp hi) = decide ((x : Int) < hi) := decide_eq_decide.2 (by unfold clp; split <;> (try split) <;> omega)
  rw [e1, e2]
theorem pd_rs {t : Bool → Bool → Bool} (t0 : t false false = false) (p q : Nat → Bool) : pd t (rs p 65536) (rs q 65536) = rs (fun x => t (p x) (q x)) 65536 := by
  obtain ⟨h1, h2⟩ := pd_right t0 (mayr_rs p) (mayr_rs q)
  exact rs_mr h1 fun x hx => by rw [h2, mr_rs p hx, mr_rs q hx]

theorem ofp_inv {l : List UInt16} (h : ris l = true) : ∀ k, k ≤ l.length → mayr 0 (ofp l k) = true ∧ (∀ x, mr (ofp l k) x = mk (l.take k) x) ∧ (0 < k → ∃ L r, ofp l k = L ++ [r] ∧ lst r = (at16 l (k - 1)).toNat) := by
  intro k
  induction k with
  | zero => exact fun _ => ⟨rfl, fun x => rfl, fun h => absurd h (by omega)⟩
  | succ k ih =>
    intro hk
    obtain ⟨i1, i2, i3⟩ := ih (by omega)
    have hx := u16_lt (at16 l k)
    rw [ofp_succ]
    by_cases hc : (decide (0 < k) && decide ((at16 l k).toNat = (at16 l (k - 1)).toNat + 1)) = true
    · rw [if_pos hc]
      rw [Bool.and_eq_true, decide_eq_true_eq, decide_eq_true_eq] at hc
      obtain ⟨L, r, e, hr⟩ := i3 hc.1
      rw [e] at i1 i2 ⊢
      rw [bump_snoc]
      obtain ⟨a1, a2, a3, a4⟩ := mayr_snoc.1 i1
      have hr2 : (r.2 + 1).toNat = r.2.toNat + 1 := by
        rw [UInt16.toNat_add]
        have e1 : (1 : UInt16).toNat = 1 := rfl
        rw [e1]
        have e2 : r.1.toNat + r.2.toNat = (at16 l (k - 1)).toNat := hr
        have e3 := hc.2
        omega
      have hl : lst (r.1, r.2 + 1) = (at16 l k).toNat := by
        have e2 : r.1.toNat + r.2.toNat = (at16 l (k - 1)).toNat := hr
        have e3 := hc.2
        show r.1.toNat + (r.2 + 1).toNat = _
        rw [hr2]
        omega
      refine ⟨mayr_snoc.2 ⟨a1, a2, a3, by rw [hl]; omega⟩, fun x => ?_, fun _ => ⟨L, _, rfl, by rw [hl]; rfl⟩⟩
      have h2 := i2 x
      rw [mr_app] at h2 ⊢
      rw [mk_take l k (by omega), ← h2, Bool.or_assoc]
      congr 1
      rw [mr_cons, mr_cons, mr_nil, Bool.or_false, Bool.or_false, Bool.eq_iff_iff, inr_iff, Bool.or_eq_true, inr_iff, decide_eq_true_eq, hl]
      show r.1.toNat ≤ x ∧ _ ↔ _
      have := fst_le r
      omega
    · rw [if_neg hc]
      have hx0 : lst ((at16 l k, 0) : Rn) = (at16 l k).toNat := rfl
      refine ⟨mayr_snoc.2 ⟨i1, fun s hs => ?_, Nat.zero_le _, by rw [hx0]; omega⟩, fun x => ?_, fun _ => ⟨_, _, rfl, hx0⟩⟩
      · have hk0 : 0 < k := by
          rcases Nat.eq_zero_or_pos k with e | e
          · subst e; simp [ofp] at hs
          · exact e
        obtain ⟨L, r, e, hr⟩ := i3 hk0
        have hlt := ris_at h (i := k - 1) (j := k) (by omega) (by omega)
        have hne : (at16 l k).toNat ≠ (at16 l (k - 1)).toNat + 1 := fun e2 => hc (by rw [decide_eq_true hk0, decide_eq_true e2]; rfl)
        rw [e] at hs i1
        show lst s + 2 ≤ (at16 l k).toNat
        rcases List.mem_append.1 hs with g | g
        · have g2 := (mayr_snoc.1 i1).2.1 s g
          have := fst_le r
          omega
        · rw [List.mem_singleton] at g
          subst g
          omega
      · rw [mr_app, i2, mk_take l k (by omega)]
        congr 1
        rw [mr_cons, mr_nil, Bool.or_false, Bool.eq_iff_iff, inr_iff, decide_eq_true_eq, hx0]
        show (at16 l k).toNat ≤ x ∧ x ≤ (at16 l k).toNat ↔ _
        omega
theorem ofp_rs {l : List UInt16} (h : ris l = true) : ofp l l.length = rs (mk l) 65536 := by
  obtain ⟨h1, h2, -⟩ := ofp_inv h l.length (Nat.le_refl _)
  exact rs_mr h1 fun x hx => by rw [h2, List.take_length]
theorem ofp_ls (p : Nat → Bool) : ofp (ls p 65536) (ls p 65536).length = rs p 65536 := by
  rw [ofp_rs (ris_ls p _ (Nat.le_refl _))]
  exact rs_ext fun x hx => mk_ls p hx
theorem lists_rs (p : Nat → Bool) : ls (mr (rs p 65536)) 65536 = ls p 65536 := ls_ext fun x hx => mr_rs p hx
theorem count_rs (p : Nat → Bool) : ct (mr (rs p 65536)) 65536 = ct p 65536 := ct_ext fun x hx => mr_rs p hx
theorem mk_words (p : Nat → Bool) : wm (mk (ls p 65536)) = wm p := wm_ext fun x hx => mk_ls p hx
theorem rs_short (p : Nat → Bool) : (rs p 65536).length ≤ 65536 := mayr_len (mayr_rs p)
end Go.Proofs.YtfefmlnlicilbaaGreatDoor
/- A container that has a set, as one of three kinds; walks: Kind. -/
namespace Go.Proofs.YtfefmlnlicilbaaGreatDoor
open Go.RowKit
set_option linter.unusedVariables false

/-- A slice that reads as l, in a block of which N says yes. -/
def Gp {α : Type} (k : Elem α) (N : Nat → Prop) (w : World) (v : Value) (l : List α) : Prop :=
  Gs k w 0 w.heap.size v l ∧ (l ≠ [] → ∀ b off sp n c, v = .slice (some ⟨b, off, sp⟩) n c → N b)
def Gp2 (N : Nat → Prop) (w : World) (v : Value) (l : List Rn) : Prop :=
  Gs2 eR w 0 w.heap.size v l ∧ (l ≠ [] → ∀ b off sp n c, v = .slice (some ⟨b, off, sp⟩) n c → N b)
theorem Gp.of {α : Type} {k : Elem α} {N : Nat → Prop} {w : World} {lo hi : Nat} {v : Value} {l : List α} (h : Gs k w lo hi v l) (hh : hi ≤ w.heap.size) (hN : ∀ b, lo ≤ b → b < hi → N b) : Gp k N w v l := by
  refine ⟨h.more (Nat.zero_le _) hh, fun hl b off sp n c e => ?_⟩
  obtain ⟨b', off', c', e', -, -, h1, h2, -⟩ := h.form hl
  rw [e'] at e
  injection e with e
  injection e with e
  injection e with e
  subst e
  exact hN _ h1 h2
theorem Gp2.of {N : Nat → Prop} {w : World} {lo hi : Nat} {v : Value} {l : List Rn} (h : Gs2 eR w lo hi v l) (hh : hi ≤ w.heap.size) (hN : ∀ b, lo ≤ b → b < hi → N b) : Gp2 N w v l := by
  refine ⟨h.more (Nat.zero_le _) hh, fun hl b off sp n c e => ?_⟩
  obtain ⟨b', off', c', e', -, -, h1, h2, -⟩ := h.form hl
  rw [e'] at e
  injection e with e
  injection e with e
  injection e with e
  subst e
  exact hN _ h1 h2
theorem Gp.keep {α : Type} {k : Elem α} {N : Nat → Prop} {w w' : World} {v : Value} {l : List α} (h : Gp k N w v l) (hs : w.heap.size ≤ w'.heap.size) (hk : ∀ q : Addr, N q.block → q.block < w.heap.size → w'.cell? q = w.cell? q) : Gp k N w' v l := by
  obtain ⟨⟨A, c, rfl, h0, h1, h2, hb⟩, h3⟩ := h
  refine ⟨⟨A, c, rfl, h0, h1, h2, fun hl => ?_⟩, h3⟩
  obtain ⟨b, off, rfl, b1, b2, hc⟩ := hb hl
  exact ⟨b, off, rfl, b1, by omega, fun j x hx => (hk ⟨b, off + j, none⟩ (h3 hl b off _ _ _ rfl) b2).trans (hc j x hx)⟩
theorem Gp2.keep {N : Nat → Prop} {w w' : World} {v : Value} {l : List Rn} (h : Gp2 N w v l) (hs : w.heap.size ≤ w'.heap.size) (hk : ∀ q : Addr, N q.block → q.block < w.heap.size → w'.cell? q = w.cell? q) : Gp2 N w' v l := by
  obtain ⟨⟨A, c, rfl, h0, h1, h2, hb⟩, h3⟩ := h
  refine ⟨⟨A, c, rfl, h0, h1, h2, fun hl => ?_⟩, h3⟩
  obtain ⟨b, off, rfl, b1, b2, hc⟩ := hb hl
  exact ⟨b, off, rfl, b1, by omega, fun j x hx => ⟨(hk ⟨b, off + 2 * j, none⟩ (h3 hl b off _ _ _ rfl) b2).trans (hc j x hx).1, (hk ⟨b, off + 2 * j + 1, none⟩ (h3 hl b off _ _ _ rfl) b2).trans (hc j x hx).2⟩⟩
theorem Gp.mono {α : Type} {k : Elem α} {N N' : Nat → Prop} {w : World} {v : Value} {l : List α} (h : Gp k N w v l) (hN : ∀ b, b < w.heap.size → N b → N' b) : Gp k N' w v l :=
  ⟨h.1, fun hl b off sp n c e => hN b (by obtain ⟨b', off', c', e', -, -, -, h2, -⟩ := h.1.form hl; rw [e'] at e; injection e with e; injection e with e; injection e with e; subst e; exact h2) (h.2 hl b off sp n c e)⟩
theorem Gp2.mono {N N' : Nat → Prop} {w : World} {v : Value} {l : List Rn} (h : Gp2 N w v l) (hN : ∀ b, b < w.heap.size → N b → N' b) : Gp2 N' w v l :=
  ⟨h.1, fun hl b off sp n c e => hN b (by obtain ⟨b', off', c', e', -, -, -, h2, -⟩ := h.1.form hl; rw [e'] at e; injection e with e; injection e with e; injection e with e; subst e; exact h2) (h.2 hl b off sp n c e)⟩

/-- The value is a container of kind k that has the set p, its rows in blocks of which N says yes. -/
inductive Cn (N : Nat → Prop) (w : World) : Value → (Nat → Bool) → Nat → Prop
  | arr {p : Nat → Bool} (κ : Int) (A : Option Addr) (n c : Nat) (hκ : κ = 0 ∨ κ = 1) (hn : ct p 65536 = n) (h : Gp e16 N w (.slice A n c) (ls p 65536)) : Cn N w (.agg #[.int .u8 κ, .slice A n c, .slice none 0 0, .slice none 0 0]) p 1
  | wrd {p : Nat → Bool} (A : Option Addr) (c : Nat) (h : Gp e64 N w (.slice A 1024 c) (wm p)) : Cn N w (.agg #[.int .u8 2, .slice none 0 0, .slice A 1024 c, .slice none 0 0]) p 2
  | run {p : Nat → Bool} (A : Option Addr) (n c : Nat) (hn : ct (hm p) 65536 = n) (h : Gp2 N w (.slice A n c) (rs p 65536)) : Cn N w (.agg #[.int .u8 3, .slice none 0 0, .slice none 0 0, .slice A n c]) p 3
section
variable {N : Nat → Prop} {w w' : World} {v : Value} {p q : Nat → Bool} {k : Nat}
theorem Cn.keep (h : Cn N w v p k) (hs : w.heap.size ≤ w'.heap.size) (hk : ∀ q : Addr, N q.block → q.block < w.heap.size → w'.cell? q = w.cell? q) : Cn N w' v p k := by
  cases h with
  | arr κ A n c hκ hn h => exact .arr κ A n c hκ hn (h.keep hs hk)
  | wrd A c h => exact .wrd A c (h.keep hs hk)
  | run A n c hn h => exact .run A n c hn (h.keep hs hk)
theorem Cn.mono {N' : Nat → Prop} (h : Cn N w v p k) (hN : ∀ b, b < w.heap.size → N b → N' b) : Cn N' w v p k := by
  cases h with
  | arr κ A n c hκ hn h => exact .arr κ A n c hκ hn (h.mono hN)
  | wrd A c h => exact .wrd A c (h.mono hN)
  | run A n c hn h => exact .run A n c hn (h.mono hN)
theorem Cn.step (h : Cn N w v p k) (b : Below w.heap.size w w') : Cn N w' v p k := h.keep b.size fun _ _ hp => b.cell hp
theorem Cn.grown {g : Nat} (h : Cn N w v p k) (hg : w.grownBy w' (some g)) (hN : ¬ N g) : Cn N w' v p k :=
  h.keep hg.size fun q hq hb => hg.cell_far q hb (fun e => by injection e with e; exact hN (e ▸ hq))
theorem Cn.ext (h : Cn N w v p k) (e : ∀ x, x < 65536 → p x = q x) : Cn N w v q k := by
  cases h with
  | arr κ A n c hκ hn h => exact .arr κ A n c hκ (by rw [← ct_ext e]; exact hn) (by rw [← ls_ext e]; exact h)
  | wrd A c h => exact .wrd A c (by rw [← wm_ext e]; exact h)
  | run A n c hn h => exact .run A n c (by rw [← ct_ext (hm_ext (n := 65536) e)]; exact hn) (by rw [← rs_ext e]; exact h)
theorem Cn.kind (h : Cn N w v p k) : 1 ≤ k ∧ k ≤ 3 := by cases h <;> omega
theorem Cn.form (h : Cn N w v p k) : ∃ κ A n c A2 n2 c2 A3 n3 c3, v = .agg #[.int .u8 κ, .slice A n c, .slice A2 n2 c2, .slice A3 n3 c3] := by
  cases h with
  | arr κ A n c => exact ⟨_, _, _, _, _, _, _, _, _, _, rfl⟩
  | wrd A c => exact ⟨_, _, _, _, _, _, _, _, _, _, rfl⟩
  | run A n c => exact ⟨_, _, _, _, _, _, _, _, _, _, rfl⟩
theorem Cn.zero (hp : ∀ x, x < 65536 → p x = false) : Cn N w (.agg #[.int .u8 0, .slice none 0 0, .slice none 0 0, .slice none 0 0]) p 1 := by
  have e : ls p 65536 = [] := by rw [ls_ext (q := fun _ => false) hp]; exact List.eq_nil_of_length_eq_zero (by rw [ls_ct]; exact ct_zero fun _ _ => rfl)
  refine .arr 0 none 0 0 (.inl rfl) (ct_zero hp) ?_
  rw [e]
  exact ⟨Gs.nil_ _ _ _, fun h => absurd rfl h⟩
end

set_option maxHeartbeats 400000 in
theorem kind_c {N : Nat → Prop} (v : Value) (p : Nat → Bool) (k : Nat) (w : World) (h : Cn N w v p k) :
    Calls Tryz.prog 13 #[v] w fun e w' => e = .returned (.int .u8 k) ∧ Below w.heap.size w w' := by
  cases h with
  | arr κ A n c hκ hn h =>
    clear hn h
    rcases hκ with rfl | rfl
    · go_enter Tryz.func13, Tryz.ntmps13
      go_wp2
      go_ret
      exact ⟨rfl, (Below.refl _ _).alloc (Nat.le_refl _) _⟩
    · go_enter Tryz.func13, Tryz.ntmps13
      go_wp2
      go_ret
      exact ⟨rfl, (Below.refl _ _).alloc (Nat.le_refl _) _⟩
  | wrd A c h =>
    clear h
    go_enter Tryz.func13, Tryz.ntmps13
    go_wp2
    go_ret
    exact ⟨rfl, (Below.refl _ _).alloc (Nat.le_refl _) _⟩
  | run A n c hn h =>
    clear hn h
    go_enter Tryz.func13, Tryz.ntmps13
    go_wp2
    go_ret
    exact ⟨rfl, (Below.refl _ _).alloc (Nat.le_refl _) _⟩

theorem arrayLen_c (p : Nat → Bool) (κ : Int) (A : Option Addr) (n c : Nat) (w : World) :
    Calls Tryz.prog 61 #[.agg #[.int .u8 κ, .slice A n c, .slice none 0 0, .slice none 0 0]] w fun e w' => e = .returned (.int .i64 n) ∧ Below w.heap.size w w' := by
  go_enter Tryz.func61, Tryz.ntmps61
  go_wp2
  go_ret
  exact ⟨rfl, (Below.refl _ _).alloc (Nat.le_refl _) _⟩
end Go.Proofs.YtfefmlnlicilbaaGreatDoor
/- Calls of arrays, words, runs and slices.Clone on a set: what is told lies in memory of its own. -/
namespace Go.Proofs.YtfefmlnlicilbaaGreatDoor
open Go.RowKit
set_option linter.unusedVariables false

theorem bx (w : World) (o : Obj) : Below w.heap.size w (w.alloc o) := (Below.refl _ _).alloc (Nat.le_refl _) o
theorem ls_small (p : Nat → Bool) : (ls p 65536).length ≤ 65536 := ls_len p 65536

set_option maxHeartbeats 400000 in
theorem clone64_any (v : Value) (l : List UInt64) (lo : Nat) (w : World) (hv : Gs e64 w lo w.heap.size v l) (hb : l.length ≤ 100000000) :
    Calls Tryz.prog 57 #[v] w fun e w' => ∃ v', e = .returned v' ∧ Gw e64 w' w.heap.size v' l ∧ Below w.heap.size w w' := by
  have hv0 := hv
  obtain ⟨A, c, rfl, hc0, -, -, hbt⟩ := hv
  cases A with
  | none =>
    obtain rfl := hc0 rfl
    have hl : l = [] := by
      by_cases h : l = []
      · exact h
      · obtain ⟨b, off, e, _⟩ := hbt h
        cases e
    subst hl
    clear hc0 hbt hv0
    have hq := fun W n c => Lib.run_eql_slice_nil (P := Tryz.prog) W 25 74 none n c 0 0 Tryz.underlying25
    simp only [Option.isNone_none] at hq
    go_enter Tryz.func57, Tryz.ntmps57
    go_wp2
    go_ret
    exact ⟨_, rfl, Gw.nil_ _ _, Below.refl _ _⟩
  | some ad =>
    clear hc0 hbt
    have hq := fun W n c => Lib.run_eql_slice_nil (P := Tryz.prog) W 25 74 (some ad) n c 0 0 Tryz.underlying25
    simp only [Option.isNone_some] at hq
    go_enter Tryz.func57, Tryz.ntmps57
    go_wp2_with (at_builtin; refine wpList_gapp e64 _ rfl _ _ _ rfl w.heap.size sli64 inf64 _ [] rfl (Gw.empty_ _ _ (Nat.le_refl _)) lo w.heap.size _ l rfl (hv0.alloc (Nat.le_refl _) _) (by simp; omega) (by simp) ?_; intro v2 w2 o2 g2 _)
    go_ret
    exact ⟨v2, rfl, by simpa using o2, ((Below.refl _ _).alloc (Nat.le_refl _) _).grown g2 (by simp) (fun k h => by injection h with h; subst h; exact Nat.le_refl _)⟩
set_option maxHeartbeats 400000 in
theorem cloneR_any (v : Value) (l : List Rn) (lo : Nat) (w : World) (hv : Gs2 eR w lo w.heap.size v l) (hb : l.length ≤ 100000000) :
    Calls Tryz.prog 78 #[v] w fun e w' => ∃ v', e = .returned v' ∧ Gw2 eR w' w.heap.size v' l ∧ Below w.heap.size w w' := by
  have hv0 := hv
  obtain ⟨A, c, rfl, hc0, -, -, hbt⟩ := hv
  cases A with
  | none =>
    obtain rfl := hc0 rfl
    have hl : l = [] := by
      by_cases h : l = []
      · exact h
      · obtain ⟨b, off, e, _⟩ := hbt h
        cases e
    subst hl
    clear hc0 hbt hv0
    have hq := fun W n c => Lib.run_eql_slice_nil (P := Tryz.prog) W 26 92 none n c 0 0 Tryz.underlying26
    simp only [Option.isNone_none] at hq
    go_enter Tryz.func78, Tryz.ntmps78
    go_wp2
    go_ret
    exact ⟨_, rfl, Gw2.nil_ _ _, Below.refl _ _⟩
  | some ad =>
    clear hc0 hbt
    have hq := fun W n c => Lib.run_eql_slice_nil (P := Tryz.prog) W 26 92 (some ad) n c 0 0 Tryz.underlying26
    simp only [Option.isNone_some] at hq
    go_enter Tryz.func78, Tryz.ntmps78
    go_wp2_with (at_builtin; refine wpList_gapp2 eR _ rfl _ _ _ rfl w.heap.size sliR infR _ [] rfl (Gw2.empty_ _ _ (Nat.le_refl _)) lo w.heap.size _ l rfl (hv0.alloc (Nat.le_refl _) _) (by simp; omega) (by simp) ?_; intro v2 w2 o2 g2 _)
    go_ret
    exact ⟨v2, rfl, by simpa using o2, ((Below.refl _ _).alloc (Nat.le_refl _) _).grown g2 (by simp) (fun k h => by injection h with h; subst h; exact Nat.le_refl _)⟩

theorem sclone16 (v : Value) (p : Nat → Bool) (n : Nat) (lo : Nat) (w : World) (hv : Gs e16 w lo w.heap.size v (ls p 65536)) (hn : ct p 65536 = n) :
    Calls Tryz.prog 71 #[v] w fun e w' => ∃ A c, e = .returned (.slice A n c) ∧ Gs e16 w' w.heap.size w'.heap.size (.slice A n c) (ls p 65536) ∧ Below w.heap.size w w' := by
  refine (clone16_any v _ lo w hv (Nat.le_trans (ls_small p) (by omega))).mono ?_
  rintro e w' ⟨v', rfl, o, b⟩
  have s := o.sl
  obtain ⟨A, c, rfl, -⟩ := o.sl
  rw [ls_ct, hn] at s ⊢
  exact ⟨A, c, rfl, s, b⟩

theorem sclone64 (v : Value) (p : Nat → Bool) (lo : Nat) (w : World) (hv : Gs e64 w lo w.heap.size v (wm p)) :
    Calls Tryz.prog 57 #[v] w fun e w' => ∃ A c, e = .returned (.slice A 1024 c) ∧ Gs e64 w' w.heap.size w'.heap.size (.slice A 1024 c) (wm p) ∧ Below w.heap.size w w' := by
  refine (clone64_any v _ lo w hv (by rw [wm_length]; omega)).mono ?_
  rintro e w' ⟨v', rfl, o, b⟩
  obtain ⟨A, c, rfl⟩ := gw_wm o
  exact ⟨A, c, rfl, o.sl, b⟩

theorem scloneR (v : Value) (p : Nat → Bool) (n : Nat) (lo : Nat) (w : World) (hv : Gs2 eR w lo w.heap.size v (rs p 65536)) (hn : ct (hm p) 65536 = n) :
    Calls Tryz.prog 78 #[v] w fun e w' => ∃ A c, e = .returned (.slice A n c) ∧ Gs2 eR w' w.heap.size w'.heap.size (.slice A n c) (rs p 65536) ∧ Below w.heap.size w w' := by
  refine (cloneR_any v _ lo w hv (Nat.le_trans (rs_short p) (by omega))).mono ?_
  rintro e w' ⟨v', rfl, o, b⟩
  have s := o.sl
  obtain ⟨A, c, rfl, -⟩ := o.sl
  rw [rs_len, hn] at s ⊢
  exact ⟨A, c, rfl, s, b⟩

theorem swof (v : Value) (p : Nat → Bool) (lo : Nat) (w : World) (hv : Gs e16 w lo w.heap.size v (ls p 65536)) :
    Calls Tryz.prog 107 #[v] w fun e w' => ∃ A c, e = .returned (.slice A 1024 c) ∧ Gs e64 w' w.heap.size w'.heap.size (.slice A 1024 c) (wm p) ∧ Below w.heap.size w w' := by
  refine (wof_any v _ lo w hv).mono ?_
  rintro e w' ⟨v', rfl, o, b⟩
  rw [mk_words] at o
  obtain ⟨A, c, rfl⟩ := gw_wm o
  exact ⟨A, c, rfl, o.sl, b⟩

theorem srof (v : Value) (p : Nat → Bool) (n : Nat) (lo : Nat) (w : World) (hv : Gs e16 w lo w.heap.size v (ls p 65536)) (hn : ct (hm p) 65536 = n) :
    Calls Tryz.prog 101 #[v] w fun e w' => ∃ A c, e = .returned (.slice A n c) ∧ Gs2 eR w' w.heap.size w'.heap.size (.slice A n c) (rs p 65536) ∧ Below w.heap.size w w' := by
  refine (rof_any v _ w (hv.more (Nat.zero_le _) (Nat.le_refl _)) (Nat.le_trans (ls_small p) (by omega))).mono ?_
  rintro e w' ⟨v', rfl, o, b⟩
  rw [ofp_ls] at o
  have s := o.sl
  obtain ⟨A, c, rfl, -⟩ := o.sl
  rw [rs_len, hn] at s ⊢
  exact ⟨A, c, rfl, s, b⟩

theorem swlist (v : Value) (p : Nat → Bool) (n : Nat) (lo : Nat) (w : World) (hv : Gs e64 w lo w.heap.size v (wm p)) (hT : Tb w) (hn : ct p 65536 = n) :
    Calls Tryz.prog 95 #[v] w fun e w' => ∃ A c, e = .returned (.slice A n c) ∧ Gs e16 w' w.heap.size w'.heap.size (.slice A n c) (ls p 65536) ∧ Below w.heap.size w w' := by
  refine (wlist_any v _ lo w hv hT).mono ?_
  rintro e w' ⟨v', rfl, o, b⟩
  rw [ls_wb p (Nat.le_refl _)] at o
  have s := o.sl
  obtain ⟨A, c, rfl, -⟩ := o.sl
  rw [ls_ct, hn] at s ⊢
  exact ⟨A, c, rfl, s, b⟩

theorem srlist (v : Value) (p : Nat → Bool) (n : Nat) (lo : Nat) (w : World) (hv : Gs2 eR w lo w.heap.size v (rs p 65536)) (hn : ct p 65536 = n) :
    Calls Tryz.prog 96 #[v] w fun e w' => ∃ A c, e = .returned (.slice A n c) ∧ Gs e16 w' w.heap.size w'.heap.size (.slice A n c) (ls p 65536) ∧ Below w.heap.size w w' := by
  refine (rlist_any v _ w (hv.more (Nat.zero_le _) (Nat.le_refl _)) (mayr_rs p)).mono ?_
  rintro e w' ⟨v', rfl, o, b⟩
  rw [lists_rs] at o
  have s := o.sl
  obtain ⟨A, c, rfl, -⟩ := o.sl
  rw [ls_ct, hn] at s ⊢
  exact ⟨A, c, rfl, s, b⟩

theorem swflip (v : Value) (p : Nat → Bool) (x y : Int) (lo : Nat) (w : World) (hv : Gs e64 w lo w.heap.size v (wm p)) :
    Calls Tryz.prog 98 #[v, .int .i64 x, .int .i64 y] w fun e w' => ∃ A c, e = .returned (.slice A 1024 c) ∧ Gs e64 w' w.heap.size w'.heap.size (.slice A 1024 c) (wm (flp p x y)) ∧ Below w.heap.size w w' := by
  refine (wflip_any v _ lo x y w hv).mono ?_
  rintro e w' ⟨v', rfl, o, b⟩
  rw [flp_wb] at o
  obtain ⟨A, c, rfl⟩ := gw_wm o
  exact ⟨A, c, rfl, o.sl, b⟩

theorem srflip (v : Value) (p : Nat → Bool) (n : Nat) (x y : Int) (lo : Nat) (w : World) (hv : Gs2 eR w lo w.heap.size v (rs p 65536)) (hn : ct (hm (flp p x y)) 65536 = n) :
    Calls Tryz.prog 97 #[v, .int .i64 x, .int .i64 y] w fun e w' => ∃ A c, e = .returned (.slice A n c) ∧ Gs2 eR w' w.heap.size w'.heap.size (.slice A n c) (rs (flp p x y) 65536) ∧ Below w.heap.size w w' := by
  refine (rflip_any v _ x y w (hv.more (Nat.zero_le _) (Nat.le_refl _)) (Nat.le_trans (rs_short p) (by omega))).mono ?_
  rintro e w' ⟨v', rfl, o, b⟩
  rw [flr_rs] at o
  have s := o.sl
  obtain ⟨A, c, rfl, -⟩ := o.sl
  rw [rs_len, hn] at s ⊢
  exact ⟨A, c, rfl, s, b⟩

theorem swith (v : Value) (p : Nat → Bool) (n : Nat) (x : Nat) (lo : Nat) (w : World) (hv : Gs e16 w lo w.heap.size v (ls p 65536)) (hx : x < 65536) (hn : ct (pls p x) 65536 = n) :
    Calls Tryz.prog 99 #[v, .int .u16 x] w fun e w' => ∃ A c, e = .returned (.slice A n c) ∧ Gs e16 w' w.heap.size w'.heap.size (.slice A n c) (ls (pls p x) 65536) ∧ Below w.heap.size w w' := by
  refine (with_any v _ lo x (UInt16.ofNat x) (by rw [u16_of x hx]) w hv (Nat.le_trans (ls_small p) (by omega))).mono ?_
  rintro e w' ⟨v', rfl, o, b⟩
  rw [wi_pls (ris_ls p 65536 (Nat.le_refl _)) _ p rfl, u16_of x hx] at o
  have s := o.sl
  obtain ⟨A, c, rfl, -⟩ := o.sl
  rw [ls_ct, hn] at s ⊢
  exact ⟨A, c, rfl, s, b⟩

theorem sruns (v : Value) (p : Nat → Bool) (n lo : Nat) (w : World) (hv : Gs e16 w lo w.heap.size v (ls p 65536)) (hn : ct (hm p) 65536 = n) :
    Calls Tryz.prog 128 #[v] w fun e w' => e = .returned (.int .i64 n) ∧ Below w.heap.size w w' := aruns_p v p n w (hv.more (Nat.zero_le _) (Nat.le_refl _)) hn
theorem sfind (v : Value) (p : Nat → Bool) (x lo : Nat) (w : World) (hv : Gs e16 w lo w.heap.size v (ls p 65536)) (hx : x < 65536) :
    Calls Tryz.prog 121 #[v, .int .u16 x] w fun e w' => (∃ n : Nat, e = .returned (.tuple #[.int .i64 n, .bool (p x)])) ∧ Below w.heap.size w w' := by
  refine (find_any v _ lo _ x (UInt16.ofNat x) (by rw [u16_of x hx]) w hv (Nat.le_trans (ls_small p) (by omega))).mono ?_
  rintro e w' ⟨rfl, rfl⟩
  have e1 : fd (ls p 65536) (UInt16.ofNat x) = p x := by
    rw [fd_mem (ris_ls p 65536 (Nat.le_refl _)), Bool.eq_iff_iff, decide_eq_true_eq, ls_mem p 65536 (Nat.le_refl _), u16_of x hx]
    exact ⟨fun h => h.2, fun h => ⟨hx, h⟩⟩
  rw [e1]
  exact ⟨⟨_, rfl⟩, Below.refl _ _⟩
theorem swlen (v : Value) (p : Nat → Bool) (n lo : Nat) (w : World) (hv : Gs e64 w lo w.heap.size v (wm p)) (hn : ct p 65536 = n) :
    Calls Tryz.prog 102 #[v] w fun e w' => e = .returned (.int .i64 n) ∧ Below w.heap.size w w' := (wlen_p v p n w (hv.more (Nat.zero_le _) (Nat.le_refl _)) hn).mono fun e w' ⟨h1, h2⟩ => ⟨h1, h2 ▸ Below.refl _ _⟩
theorem swruns (v : Value) (p : Nat → Bool) (n lo : Nat) (w : World) (hv : Gs e64 w lo w.heap.size v (wm p)) (hn : ct (hm p) 65536 = n) :
    Calls Tryz.prog 129 #[v] w fun e w' => e = .returned (.int .i64 n) ∧ Below w.heap.size w w' := (wruns_p v p n w (hv.more (Nat.zero_le _) (Nat.le_refl _)) hn).mono fun e w' ⟨h1, h2⟩ => ⟨h1, h2 ▸ Below.refl _ _⟩
theorem swhas (v : Value) (p : Nat → Bool) (x lo : Nat) (w : World) (hv : Gs e64 w lo w.heap.size v (wm p)) (hx : x < 65536) :
    Calls Tryz.prog 136 #[v, .int .u16 x] w fun e w' => e = .returned (.bool (p x)) ∧ Below w.heap.size w w' := (whas_p v p x x w (hv.more (Nat.zero_le _) (Nat.le_refl _)) rfl hx).mono fun e w' ⟨h1, h2⟩ => ⟨h1, h2 ▸ Below.refl _ _⟩
theorem srlen (v : Value) (p : Nat → Bool) (n lo : Nat) (w : World) (hv : Gs2 eR w lo w.heap.size v (rs p 65536)) (hn : ct p 65536 = n) :
    Calls Tryz.prog 103 #[v] w fun e w' => e = .returned (.int .i64 n) ∧ Below w.heap.size w w' := rlen_any v _ n w (hv.more (Nat.zero_le _) (Nat.le_refl _)) (mayr_rs p) (by rw [count_rs]; exact hn)
theorem srhas (v : Value) (p : Nat → Bool) (x lo : Nat) (w : World) (hv : Gs2 eR w lo w.heap.size v (rs p 65536)) (hx : x < 65536) :
    Calls Tryz.prog 137 #[v, .int .u16 x] w fun e w' => e = .returned (.bool (p x)) ∧ Below w.heap.size w w' := by
  have h := rhas_any v _ x w (hv.more (Nat.zero_le _) (Nat.le_refl _)) (mayr_rs p) (Nat.le_trans (rs_short p) (by omega)) hx
  rw [mr_rs p hx] at h
  exact h
end Go.Proofs.YtfefmlnlicilbaaGreatDoor
namespace Go.Proofs.YtfefmlnlicilbaaGreatDoor
open Go.RowKit
set_option linter.unusedVariables false

theorem Gs.stp {α : Type} {k : Elem α} {w w' : World} {lo : Nat} {v : Value} {l : List α} (h : Gs k w lo w.heap.size v l) (b : Below w.heap.size w w') : Gs k w' lo w'.heap.size v l := (h.below b).more (Nat.le_refl _) b.size
theorem Gs2.stp {w w' : World} {lo : Nat} {v : Value} {l : List Rn} (h : Gs2 eR w lo w.heap.size v l) (b : Below w.heap.size w w') : Gs2 eR w' lo w'.heap.size v l := (h.below b).more (Nat.le_refl _) b.size

theorem arrayRunCount_c (p : Nat → Bool) (κ : Int) (A : Option Addr) (n c : Nat) (m : Nat) (lo : Nat) (w : World) (hm2 : ct (hm p) 65536 = m) (h : Gs e16 w lo w.heap.size (.slice A n c) (ls p 65536)) :
    Calls Tryz.prog 104 #[.agg #[.int .u8 κ, .slice A n c, .slice none 0 0, .slice none 0 0]] w fun e w' => e = .returned (.int .i64 m) ∧ Below w.heap.size w w' := by
  have H := Lib.hid h
  clear h
  go_enter Tryz.func104, Tryz.ntmps104
  go_wp2_with fail
  refine (sruns _ p m lo _ (H.out.stp (bx w _)) hm2).mono ?_
  rintro e w1 ⟨rfl, b1⟩
  have B1 := Lib.hid (below_both (bx w _) b1)
  clear b1
  go_wp2
  go_ret
  exact ⟨rfl, B1.out⟩

theorem arrayHas_c (p : Nat → Bool) (κ : Int) (A : Option Addr) (n c : Nat) (x : Nat) (lo : Nat) (w : World) (hx : x < 65536) (h : Gs e16 w lo w.heap.size (.slice A n c) (ls p 65536)) :
    Calls Tryz.prog 123 #[.agg #[.int .u8 κ, .slice A n c, .slice none 0 0, .slice none 0 0], .int .u16 x] w fun e w' => e = .returned (.bool (p x)) ∧ Below w.heap.size w w' := by
  have H := Lib.hid h
  clear h
  go_enter Tryz.func123, Tryz.ntmps123
  go_wp2_with fail
  refine (sfind _ p x lo _ (H.out.stp (bx w _)) hx).mono ?_
  rintro e w1 ⟨⟨_, rfl⟩, b1⟩
  have B1 := Lib.hid (below_both (bx w _) b1)
  clear b1
  go_wp2
  go_ret
  exact ⟨rfl, B1.out⟩

theorem arrayCopy_c (p : Nat → Bool) (κ : Int) (A : Option Addr) (n c : Nat) (m : Nat) (hm2 : ct p 65536 = m) (lo : Nat) (w : World) (h : Gs e16 w lo w.heap.size (.slice A n c) (ls p 65536)) :
    Calls Tryz.prog 49 #[.agg #[.int .u8 κ, .slice A n c, .slice none 0 0, .slice none 0 0]] w fun e w' => ∃ A' c', e = .returned (.slice A' m c') ∧ Gs e16 w' w.heap.size w'.heap.size (.slice A' m c') (ls p 65536) ∧ Below w.heap.size w w' := by
  have H := Lib.hid h
  clear h
  go_enter Tryz.func49, Tryz.ntmps49
  go_wp2_with fail
  refine (sclone16 _ p m lo _ (H.out.stp (bx w _)) hm2).mono ?_
  rintro e w1 ⟨A1, c1, rfl, g1, b1⟩
  have G1 := Lib.hid g1
  have B1 := Lib.hid (below_both (bx w _) b1)
  have hs : w.heap.size ≤ (w.alloc (.cells #[] 0)).heap.size := by simp
  clear g1 b1
  go_wp2
  go_ret
  exact ⟨_, _, rfl, G1.out.more (by simp) (Nat.le_refl _), B1.out⟩

theorem arrayToWords_c (p : Nat → Bool) (κ : Int) (A : Option Addr) (n c : Nat)  (lo : Nat) (w : World) (h : Gs e16 w lo w.heap.size (.slice A n c) (ls p 65536)) :
    Calls Tryz.prog 66 #[.agg #[.int .u8 κ, .slice A n c, .slice none 0 0, .slice none 0 0]] w fun e w' => ∃ A' c', e = .returned (.slice A' 1024 c') ∧ Gs e64 w' w.heap.size w'.heap.size (.slice A' 1024 c') (wm p) ∧ Below w.heap.size w w' := by
  have H := Lib.hid h
  clear h
  go_enter Tryz.func66, Tryz.ntmps66
  go_wp2_with fail
  refine (swof _ p lo _ (H.out.stp (bx w _))).mono ?_
  rintro e w1 ⟨A1, c1, rfl, g1, b1⟩
  have G1 := Lib.hid g1
  have B1 := Lib.hid (below_both (bx w _) b1)
  have hs : w.heap.size ≤ (w.alloc (.cells #[] 0)).heap.size := by simp
  clear g1 b1
  go_wp2
  go_ret
  exact ⟨_, _, rfl, G1.out.more (by simp) (Nat.le_refl _), B1.out⟩

theorem arrayToRuns_c (p : Nat → Bool) (κ : Int) (A : Option Addr) (n c : Nat) (m : Nat) (hm2 : ct (hm p) 65536 = m) (lo : Nat) (w : World) (h : Gs e16 w lo w.heap.size (.slice A n c) (ls p 65536)) :
    Calls Tryz.prog 58 #[.agg #[.int .u8 κ, .slice A n c, .slice none 0 0, .slice none 0 0]] w fun e w' => ∃ A' c', e = .returned (.slice A' m c') ∧ Gs2 eR w' w.heap.size w'.heap.size (.slice A' m c') (rs p 65536) ∧ Below w.heap.size w w' := by
  have H := Lib.hid h
  clear h
  go_enter Tryz.func58, Tryz.ntmps58
  go_wp2_with fail
  refine (srof _ p m lo _ (H.out.stp (bx w _)) hm2).mono ?_
  rintro e w1 ⟨A1, c1, rfl, g1, b1⟩
  have G1 := Lib.hid g1
  have B1 := Lib.hid (below_both (bx w _) b1)
  have hs : w.heap.size ≤ (w.alloc (.cells #[] 0)).heap.size := by simp
  clear g1 b1
  go_wp2
  go_ret
  exact ⟨_, _, rfl, G1.out.more (by simp) (Nat.le_refl _), B1.out⟩

theorem wordsLen_c (p : Nat → Bool) (A : Option Addr) (c : Nat) (m : Nat) (lo : Nat) (w : World) (hm2 : ct p 65536 = m) (h : Gs e64 w lo w.heap.size (.slice A 1024 c) (wm p)) :
    Calls Tryz.prog 62 #[.agg #[.int .u8 2, .slice none 0 0, .slice A 1024 c, .slice none 0 0]] w fun e w' => e = .returned (.int .i64 m) ∧ Below w.heap.size w w' := by
  have H := Lib.hid h
  clear h
  go_enter Tryz.func62, Tryz.ntmps62
  go_wp2_with fail
  refine (swlen _ p m lo _ (H.out.stp (bx w _)) hm2).mono ?_
  rintro e w1 ⟨rfl, b1⟩
  have B1 := Lib.hid (below_both (bx w _) b1)
  clear b1
  go_wp2
  go_ret
  exact ⟨rfl, B1.out⟩

theorem wordsRunCount_c (p : Nat → Bool) (A : Option Addr) (c : Nat) (m : Nat) (lo : Nat) (w : World) (hm2 : ct (hm p) 65536 = m) (h : Gs e64 w lo w.heap.size (.slice A 1024 c) (wm p)) :
    Calls Tryz.prog 105 #[.agg #[.int .u8 2, .slice none 0 0, .slice A 1024 c, .slice none 0 0]] w fun e w' => e = .returned (.int .i64 m) ∧ Below w.heap.size w w' := by
  have H := Lib.hid h
  clear h
  go_enter Tryz.func105, Tryz.ntmps105
  go_wp2_with fail
  refine (swruns _ p m lo _ (H.out.stp (bx w _)) hm2).mono ?_
  rintro e w1 ⟨rfl, b1⟩
  have B1 := Lib.hid (below_both (bx w _) b1)
  clear b1
  go_wp2
  go_ret
  exact ⟨rfl, B1.out⟩

theorem wordsHave_c (p : Nat → Bool) (A : Option Addr) (c : Nat) (x : Nat) (lo : Nat) (w : World) (hx : x < 65536) (h : Gs e64 w lo w.heap.size (.slice A 1024 c) (wm p)) :
    Calls Tryz.prog 124 #[.agg #[.int .u8 2, .slice none 0 0, .slice A 1024 c, .slice none 0 0], .int .u16 x] w fun e w' => e = .returned (.bool (p x)) ∧ Below w.heap.size w w' := by
  have H := Lib.hid h
  clear h
  go_enter Tryz.func124, Tryz.ntmps124
  go_wp2_with fail
  refine (swhas _ p x lo _ (H.out.stp (bx w _)) hx).mono ?_
  rintro e w1 ⟨rfl, b1⟩
  have B1 := Lib.hid (below_both (bx w _) b1)
  clear b1
  go_wp2
  go_ret
  exact ⟨rfl, B1.out⟩

theorem wordsToArray_c (p : Nat → Bool) (A : Option Addr) (c : Nat) (m : Nat) (hm2 : ct p 65536 = m) (lo : Nat) (w : World) (hT : Tb w) (h : Gs e64 w lo w.heap.size (.slice A 1024 c) (wm p)) :
    Calls Tryz.prog 50 #[.agg #[.int .u8 2, .slice none 0 0, .slice A 1024 c, .slice none 0 0]] w fun e w' => ∃ A' c', e = .returned (.slice A' m c') ∧ Gs e16 w' w.heap.size w'.heap.size (.slice A' m c') (ls p 65536) ∧ Below w.heap.size w w' := by
  have H := Lib.hid h
  have TT := Lib.hid hT
  clear h
  go_enter Tryz.func50, Tryz.ntmps50
  go_wp2_with fail
  refine (swlist _ p m lo _ (H.out.stp (bx w _)) (TT.out.step (bx w _)) hm2).mono ?_
  rintro e w1 ⟨A1, c1, rfl, g1, b1⟩
  have G1 := Lib.hid g1
  have B1 := Lib.hid (below_both (bx w _) b1)
  have hs : w.heap.size ≤ (w.alloc (.cells #[] 0)).heap.size := by simp
  clear g1 b1
  go_wp2
  go_ret
  exact ⟨_, _, rfl, G1.out.more (by simp) (Nat.le_refl _), B1.out⟩

theorem wordsCopy_c (p : Nat → Bool) (A : Option Addr) (c : Nat)  (lo : Nat) (w : World) (h : Gs e64 w lo w.heap.size (.slice A 1024 c) (wm p)) :
    Calls Tryz.prog 67 #[.agg #[.int .u8 2, .slice none 0 0, .slice A 1024 c, .slice none 0 0]] w fun e w' => ∃ A' c', e = .returned (.slice A' 1024 c') ∧ Gs e64 w' w.heap.size w'.heap.size (.slice A' 1024 c') (wm p) ∧ Below w.heap.size w w' := by
  have H := Lib.hid h
  clear h
  go_enter Tryz.func67, Tryz.ntmps67
  go_wp2_with fail
  refine (sclone64 _ p lo _ (H.out.stp (bx w _))).mono ?_
  rintro e w1 ⟨A1, c1, rfl, g1, b1⟩
  have G1 := Lib.hid g1
  have B1 := Lib.hid (below_both (bx w _) b1)
  have hs : w.heap.size ≤ (w.alloc (.cells #[] 0)).heap.size := by simp
  clear g1 b1
  go_wp2
  go_ret
  exact ⟨_, _, rfl, G1.out.more (by simp) (Nat.le_refl _), B1.out⟩

theorem wordsToRuns_c (p : Nat → Bool) (A : Option Addr) (c : Nat) (m : Nat) (hm2 : ct (hm p) 65536 = m) (lo : Nat) (w : World) (hT : Tb w) (h : Gs e64 w lo w.heap.size (.slice A 1024 c) (wm p)) :
    Calls Tryz.prog 59 #[.agg #[.int .u8 2, .slice none 0 0, .slice A 1024 c, .slice none 0 0]] w fun e w' => ∃ A' c', e = .returned (.slice A' m c') ∧ Gs2 eR w' w.heap.size w'.heap.size (.slice A' m c') (rs p 65536) ∧ Below w.heap.size w w' := by
  have H := Lib.hid h
  have TT := Lib.hid hT
  clear h
  go_enter Tryz.func59, Tryz.ntmps59
  go_wp2_with fail
  refine (swlist _ p (ct p 65536) lo _ (H.out.stp (bx w _)) (TT.out.step (bx w _)) rfl).mono ?_
  rintro e w1 ⟨A1, c1, rfl, g1, b1⟩
  have G1 := Lib.hid g1
  have B1 := Lib.hid (below_both (bx w _) b1)
  clear g1 b1
  go_wp2_with fail
  refine (srof _ p m _ _ G1.out hm2).mono ?_
  rintro e w2 ⟨A2, c2, rfl, g2, b2⟩
  have G2 := Lib.hid g2
  have B2 := Lib.hid (below_both B1.out b2)
  have hs := B1.out.size
  clear g2 b2
  go_wp2
  go_ret
  exact ⟨_, _, rfl, G2.out.more hs (Nat.le_refl _), B2.out⟩

theorem runsLen_c (p : Nat → Bool) (A : Option Addr) (n c : Nat) (m : Nat) (lo : Nat) (w : World) (hm2 : ct p 65536 = m) (h : Gs2 eR w lo w.heap.size (.slice A n c) (rs p 65536)) :
    Calls Tryz.prog 63 #[.agg #[.int .u8 3, .slice none 0 0, .slice none 0 0, .slice A n c]] w fun e w' => e = .returned (.int .i64 m) ∧ Below w.heap.size w w' := by
  have H := Lib.hid h
  clear h
  go_enter Tryz.func63, Tryz.ntmps63
  go_wp2_with fail
  refine (srlen _ p m lo _ (H.out.stp (bx w _)) hm2).mono ?_
  rintro e w1 ⟨rfl, b1⟩
  have B1 := Lib.hid (below_both (bx w _) b1)
  clear b1
  go_wp2
  go_ret
  exact ⟨rfl, B1.out⟩

theorem runsHave_c (p : Nat → Bool) (A : Option Addr) (n c : Nat) (x : Nat) (lo : Nat) (w : World) (hx : x < 65536) (h : Gs2 eR w lo w.heap.size (.slice A n c) (rs p 65536)) :
    Calls Tryz.prog 125 #[.agg #[.int .u8 3, .slice none 0 0, .slice none 0 0, .slice A n c], .int .u16 x] w fun e w' => e = .returned (.bool (p x)) ∧ Below w.heap.size w w' := by
  have H := Lib.hid h
  clear h
  go_enter Tryz.func125, Tryz.ntmps125
  go_wp2_with fail
  refine (srhas _ p x lo _ (H.out.stp (bx w _)) hx).mono ?_
  rintro e w1 ⟨rfl, b1⟩
  have B1 := Lib.hid (below_both (bx w _) b1)
  clear b1
  go_wp2
  go_ret
  exact ⟨rfl, B1.out⟩

theorem runsToArray_c (p : Nat → Bool) (A : Option Addr) (n c : Nat) (m : Nat) (hm2 : ct p 65536 = m) (lo : Nat) (w : World) (h : Gs2 eR w lo w.heap.size (.slice A n c) (rs p 65536)) :
    Calls Tryz.prog 51 #[.agg #[.int .u8 3, .slice none 0 0, .slice none 0 0, .slice A n c]] w fun e w' => ∃ A' c', e = .returned (.slice A' m c') ∧ Gs e16 w' w.heap.size w'.heap.size (.slice A' m c') (ls p 65536) ∧ Below w.heap.size w w' := by
  have H := Lib.hid h
  clear h
  go_enter Tryz.func51, Tryz.ntmps51
  go_wp2_with fail
  refine (srlist _ p m lo _ (H.out.stp (bx w _)) hm2).mono ?_
  rintro e w1 ⟨A1, c1, rfl, g1, b1⟩
  have G1 := Lib.hid g1
  have B1 := Lib.hid (below_both (bx w _) b1)
  have hs : w.heap.size ≤ (w.alloc (.cells #[] 0)).heap.size := by simp
  clear g1 b1
  go_wp2
  go_ret
  exact ⟨_, _, rfl, G1.out.more (by simp) (Nat.le_refl _), B1.out⟩

theorem runsToWords_c (p : Nat → Bool) (A : Option Addr) (n c : Nat)  (lo : Nat) (w : World) (h : Gs2 eR w lo w.heap.size (.slice A n c) (rs p 65536)) :
    Calls Tryz.prog 68 #[.agg #[.int .u8 3, .slice none 0 0, .slice none 0 0, .slice A n c]] w fun e w' => ∃ A' c', e = .returned (.slice A' 1024 c') ∧ Gs e64 w' w.heap.size w'.heap.size (.slice A' 1024 c') (wm p) ∧ Below w.heap.size w w' := by
  have H := Lib.hid h
  clear h
  go_enter Tryz.func68, Tryz.ntmps68
  go_wp2_with fail
  refine (srlist _ p (ct p 65536) lo _ (H.out.stp (bx w _)) rfl).mono ?_
  rintro e w1 ⟨A1, c1, rfl, g1, b1⟩
  have G1 := Lib.hid g1
  have B1 := Lib.hid (below_both (bx w _) b1)
  clear g1 b1
  go_wp2_with fail
  refine (swof _ p _ _ G1.out).mono ?_
  rintro e w2 ⟨A2, c2, rfl, g2, b2⟩
  have G2 := Lib.hid g2
  have B2 := Lib.hid (below_both B1.out b2)
  have hs := B1.out.size
  clear g2 b2
  go_wp2
  go_ret
  exact ⟨_, _, rfl, G2.out.more hs (Nat.le_refl _), B2.out⟩

theorem runsCopy_c (p : Nat → Bool) (A : Option Addr) (n c : Nat) (m : Nat) (hm2 : ct (hm p) 65536 = m) (lo : Nat) (w : World) (h : Gs2 eR w lo w.heap.size (.slice A n c) (rs p 65536)) :
    Calls Tryz.prog 60 #[.agg #[.int .u8 3, .slice none 0 0, .slice none 0 0, .slice A n c]] w fun e w' => ∃ A' c', e = .returned (.slice A' m c') ∧ Gs2 eR w' w.heap.size w'.heap.size (.slice A' m c') (rs p 65536) ∧ Below w.heap.size w w' := by
  have H := Lib.hid h
  clear h
  go_enter Tryz.func60, Tryz.ntmps60
  go_wp2_with fail
  refine (scloneR _ p m lo _ (H.out.stp (bx w _)) hm2).mono ?_
  rintro e w1 ⟨A1, c1, rfl, g1, b1⟩
  have G1 := Lib.hid g1
  have B1 := Lib.hid (below_both (bx w _) b1)
  have hs : w.heap.size ≤ (w.alloc (.cells #[] 0)).heap.size := by simp
  clear g1 b1
  go_wp2
  go_ret
  exact ⟨_, _, rfl, G1.out.more (by simp) (Nat.le_refl _), B1.out⟩

theorem runsRunCount_c (A : Option Addr) (n c : Nat) (w : World) :
    Calls Tryz.prog 106 #[.agg #[.int .u8 3, .slice none 0 0, .slice none 0 0, .slice A n c]] w fun e w' => e = .returned (.int .i64 n) ∧ Below w.heap.size w w' := by
  go_enter Tryz.func106, Tryz.ntmps106
  go_wp2
  go_ret
  exact ⟨rfl, bx w _⟩
end Go.Proofs.YtfefmlnlicilbaaGreatDoor
