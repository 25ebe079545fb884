/- Calls of arrays, words, runs and slices.Clone on a set: what is told lies in memory of its own. -/
import Derived.Test.YtponcpneflhpfaaGreatDoorSb0
import Derived.Laws.EntriesVeiled
import Derived.Test.YtponcpneflhpfaaGreatDoorSa6
import Derived.Test.YtponcpneflhpfaaGreatDoorSa5
namespace Go.Proofs.YtponcpneflhpfaaGreatDoor
open Go.RowKit
set_option linter.unusedVariables false

/-- A slice that reads as l, in a block of which N says yes. -/
def Gp {α : Type} (k : Elem α) (N : Nat → Prop) (w : World) (v : Value) (l : List α) : Prop :=
  Gs k w 0 w.heap.size v l ∧ (l ≠ [] → ∀ b off sp n c, v = .slice (some ⟨b, off, sp⟩) n c → N b)
def Gp2 (N : Nat → Prop) (w : World) (v : Value) (l : List Rn) : Prop :=
  Gs2 eR w 0 w.heap.size v l ∧ (l ≠ [] → ∀ b off sp n c, v = .slice (some ⟨b, off, sp⟩) n c → N b)
theorem Gp.of {α : Type} {k : Elem α} {N : Nat → Prop} {w : World} {lo hi : Nat} {v : Value} {l : List α} (h : Gs k w lo hi v l) (hh : hi ≤ w.heap.size) (hN : ∀ b, lo ≤ b → b < hi → N b) : Gp k N w v l := by
  refine ⟨h.more (Nat.zero_le _) hh, fun hl b off sp n c e => ?_⟩
  obtain ⟨b', off', c', e', -, -, h1, h2, -⟩ := h.form hl
  rw [e'] at e
  injection e with e
  injection e with e
  injection e with e
  subst e
  exact hN _ h1 h2
theorem Gp2.of {N : Nat → Prop} {w : World} {lo hi : Nat} {v : Value} {l : List Rn} (h : Gs2 eR w lo hi v l) (hh : hi ≤ w.heap.size) (hN : ∀ b, lo ≤ b → b < hi → N b) : Gp2 N w v l := by
  refine ⟨h.more (Nat.zero_le _) hh, fun hl b off sp n c e => ?_⟩
  obtain ⟨b', off', c', e', -, -, h1, h2, -⟩ := h.form hl
  rw [e'] at e
  injection e with e
  injection e with e
  injection e with e
  subst e
  exact hN _ h1 h2
theorem Gp.keep {α : Type} {k : Elem α} {N : Nat → Prop} {w w' : World} {v : Value} {l : List α} (h : Gp k N w v l) (hs : w.heap.size ≤ w'.heap.size) (hk : ∀ q : Addr, N q.block → q.block < w.heap.size → w'.cell? q = w.cell? q) : Gp k N w' v l := by
  obtain ⟨⟨A, c, rfl, h0, h1, h2, hb⟩, h3⟩ := h
  refine ⟨⟨A, c, rfl, h0, h1, h2, fun hl => ?_⟩, h3⟩
  obtain ⟨b, off, rfl, b1, b2, hc⟩ := hb hl
  exact ⟨b, off, rfl, b1, by omega, fun j x hx => (hk ⟨b, off + j, none⟩ (h3 hl b off _ _ _ rfl) b2).trans (hc j x hx)⟩
theorem Gp2.keep {N : Nat → Prop} {w w' : World} {v : Value} {l : List Rn} (h : Gp2 N w v l) (hs : w.heap.size ≤ w'.heap.size) (hk : ∀ q : Addr, N q.block → q.block < w.heap.size → w'.cell? q = w.cell? q) : Gp2 N w' v l := by
  obtain ⟨⟨A, c, rfl, h0, h1, h2, hb⟩, h3⟩ := h
  refine ⟨⟨A, c, rfl, h0, h1, h2, fun hl => ?_⟩, h3⟩
  obtain ⟨b, off, rfl, b1, b2, hc⟩ := hb hl
  exact ⟨b, off, rfl, b1, by omega, fun j x hx => ⟨(hk ⟨b, off + 2 * j, none⟩ (h3 hl b off _ _ _ rfl) b2).trans (hc j x hx).1, (hk ⟨b, off + 2 * j + 1, none⟩ (h3 hl b off _ _ _ rfl) b2).trans (hc j x hx).2⟩⟩
theorem Gp.mono {α : Type} {k : Elem α} {N N' : Nat → Prop} {w : World} {v : Value} {l : List α} (h : Gp k N w v l) (hN : ∀ b, b < w.heap.size → N b → N' b) : Gp k N' w v l :=
  ⟨h.1, fun hl b off sp n c e => hN b (by obtain ⟨b', off', c', e', -, -, -, h2, -⟩ := h.1.form hl; rw [e'] at e; injection e with e; injection e with e; injection e with e; subst e; exact h2) (h.2 hl b off sp n c e)⟩
theorem Gp2.mono {N N' : Nat → Prop} {w : World} {v : Value} {l : List Rn} (h : Gp2 N w v l) (hN : ∀ b, b < w.heap.size → N b → N' b) : Gp2 N' w v l :=
  ⟨h.1, fun hl b off sp n c e => hN b (by obtain ⟨b', off', c', e', -, -, -, h2, -⟩ := h.1.form hl; rw [e'] at e; injection e with e; injection e with e; injection e with e; subst e; exact h2) (h.2 hl b off sp n c e)⟩

/-- The value is a container of kind k that has the set p, its rows in blocks of which N says yes. -/
inductive Cn (N : Nat → Prop) (w : World) : Value → (Nat → Bool) → Nat → Prop
  | arr {p : Nat → Bool} (κ : Int) (A : Option Addr) (n c : Nat) (hκ : κ = 0 ∨ κ = 1) (hn : ct p 65536 = n) (h : Gp e16 N w (.slice A n c) (ls p 65536)) : Cn N w (.agg #[.int .u8 κ, .slice A n c, .slice none 0 0, .slice none 0 0]) p 1
  | wrd {p : Nat → Bool} (A : Option Addr) (c : Nat) (h : Gp e64 N w (.slice A 1024 c) (wm p)) : Cn N w (.agg #[.int .u8 2, .slice none 0 0, .slice A 1024 c, .slice none 0 0]) p 2
  | run {p : Nat → Bool} (A : Option Addr) (n c : Nat) (hn : ct (hm p) 65536 = n) (h : Gp2 N w (.slice A n c) (rs p 65536)) : Cn N w (.agg #[.int .u8 3, .slice none 0 0, .slice none 0 0, .slice A n c]) p 3
section
variable {N : Nat → Prop} {w w' : World} {v : Value} {p q : Nat → Bool} {k : Nat}
theorem Cn.keep (h : Cn N w v p k) (hs : w.heap.size ≤ w'.heap.size) (hk : ∀ q : Addr, N q.block → q.block < w.heap.size → w'.cell? q = w.cell? q) : Cn N w' v p k := by
  cases h with
  | arr κ A n c hκ hn h => exact .arr κ A n c hκ hn (h.keep hs hk)
  | wrd A c h => exact .wrd A c (h.keep hs hk)
  | run A n c hn h => exact .run A n c hn (h.keep hs hk)
theorem Cn.mono {N' : Nat → Prop} (h : Cn N w v p k) (hN : ∀ b, b < w.heap.size → N b → N' b) : Cn N' w v p k := by
  cases h with
  | arr κ A n c hκ hn h => exact .arr κ A n c hκ hn (h.mono hN)
  | wrd A c h => exact .wrd A c (h.mono hN)
  | run A n c hn h => exact .run A n c hn (h.mono hN)
theorem Cn.step (h : Cn N w v p k) (b : Below w.heap.size w w') : Cn N w' v p k := h.keep b.size fun _ _ hp => b.cell hp
theorem Cn.grown {g : Nat} (h : Cn N w v p k) (hg : w.grownBy w' (some g)) (hN : ¬ N g) : Cn N w' v p k :=
  h.keep hg.size fun q hq hb => hg.cell_far q hb (fun e => by injection e with e; exact hN (e ▸ hq))
theorem Cn.ext (h : Cn N w v p k) (e : ∀ x, x < 65536 → p x = q x) : Cn N w v q k := by
  cases h with
  | arr κ A n c hκ hn h => exact .arr κ A n c hκ (by rw [← ct_ext e]; exact hn) (by rw [← ls_ext e]; exact h)
  | wrd A c h => exact .wrd A c (by rw [← wm_ext e]; exact h)
  | run A n c hn h => exact .run A n c (by rw [← ct_ext (hm_ext (n := 65536) e)]; exact hn) (by rw [← rs_ext e]; exact h)
theorem Cn.kind (h : Cn N w v p k) : 1 ≤ k ∧ k ≤ 3 := by cases h <;> omega
theorem Cn.form (h : Cn N w v p k) : ∃ κ A n c A2 n2 c2 A3 n3 c3, v = .agg #[.int .u8 κ, .slice A n c, .slice A2 n2 c2, .slice A3 n3 c3] := by
  cases h with
  | arr κ A n c => exact ⟨_, _, _, _, _, _, _, _, _, _, rfl⟩
  | wrd A c => exact ⟨_, _, _, _, _, _, _, _, _, _, rfl⟩
  | run A n c => exact ⟨_, _, _, _, _, _, _, _, _, _, rfl⟩
theorem Cn.zero (hp : ∀ x, x < 65536 → p x = false) : Cn N w (.agg #[.int .u8 0, .slice none 0 0, .slice none 0 0, .slice none 0 0]) p 1 := by
  have e : ls p 65536 = [] := by rw [ls_ext (q := fun _ => false) hp]; exact List.eq_nil_of_length_eq_zero (by rw [ls_ct]; exact ct_zero fun _ _ => rfl)
  refine .arr 0 none 0 0 (.inl rfl) (ct_zero hp) ?_
  rw [e]
  exact ⟨Gs.nil_ _ _ _, fun h => absurd rfl h⟩
end

set_option maxHeartbeats 400000 in
theorem kind_c {N : Nat → Prop} (v : Value) (p : Nat → Bool) (k : Nat) (w : World) (h : Cn N w v p k) :
    Calls Tryz.prog 82 #[v] w fun e w' => e = .returned (.int .u8 k) ∧ Below w.heap.size w w' := by
  cases h with
  | arr κ A n c hκ hn h =>
    clear hn h
    rcases hκ with rfl | rfl
    · go_enter Tryz.func82, Tryz.ntmps82
      go_wp2
      go_ret
      exact ⟨rfl, (Below.refl _ _).alloc (Nat.le_refl _) _⟩
    · go_enter Tryz.func82, Tryz.ntmps82
      go_wp2
      go_ret
      exact ⟨rfl, (Below.refl _ _).alloc (Nat.le_refl _) _⟩
  | wrd A c h =>
    clear h
    go_enter Tryz.func82, Tryz.ntmps82
    go_wp2
    go_ret
    exact ⟨rfl, (Below.refl _ _).alloc (Nat.le_refl _) _⟩
  | run A n c hn h =>
    clear hn h
    go_enter Tryz.func82, Tryz.ntmps82
    go_wp2
    go_ret
    exact ⟨rfl, (Below.refl _ _).alloc (Nat.le_refl _) _⟩

theorem arrayLen_c (p : Nat → Bool) (κ : Int) (A : Option Addr) (n c : Nat) (w : World) :
    Calls Tryz.prog 176 #[.agg #[.int .u8 κ, .slice A n c, .slice none 0 0, .slice none 0 0]] w fun e w' => e = .returned (.int .i64 n) ∧ Below w.heap.size w w' := by
  go_enter Tryz.func176, Tryz.ntmps176
  go_wp2
  go_ret
  exact ⟨rfl, (Below.refl _ _).alloc (Nat.le_refl _) _⟩
end Go.Proofs.YtponcpneflhpfaaGreatDoor
namespace Go.Proofs.YtponcpneflhpfaaGreatDoor
open Go.RowKit
set_option linter.unusedVariables false

section
variable {P : Program} {ops : Array Oper} {Q : Exit → Act → World → Prop} {md : Region.Mode} {S S' : World → Prop}
end

/-- Blocks that rows do not lie in. -/
def Nn (gs : List Nat) (b : Nat) : Prop := ∀ g ∈ gs, b ≠ g
/-- All of them have been made since w0, each once. -/
def Nl (w0 : World) (gs : List Nat) (w : World) : Prop := (∀ g ∈ gs, w0.heap.size ≤ g ∧ g < w.heap.size) ∧ gs.Nodup
section
variable {w0 : World} {gs : List Nat} {w w' : World} {v : Value} {p : Nat → Bool} {k : Nat}
theorem Nl.nil_ (w0 w : World) : Nl w0 [] w := ⟨fun g h => absurd h List.not_mem_nil, List.nodup_nil⟩
theorem Nl.all (h : Nl w0 gs w) : ∀ b, w.heap.size ≤ b → Nn gs b := fun b hb g hg => by have := (h.1 g hg).2; omega
theorem Nl.le (h : Nl w0 gs w) (hs : w.heap.size ≤ w'.heap.size) : Nl w0 gs w' := ⟨fun g hg => ⟨(h.1 g hg).1, Nat.lt_of_lt_of_le (h.1 g hg).2 hs⟩, h.2⟩
theorem Nl.new (h : Nl w0 gs w) (h0 : w0.heap.size ≤ w.heap.size) (hs : w.heap.size < w'.heap.size) : Nl w0 (w.heap.size :: gs) w' := by
  refine ⟨fun g hg => ?_, List.nodup_cons.2 ⟨fun hm => Nat.lt_irrefl _ (h.1 _ hm).2, h.2⟩⟩
  rcases List.mem_cons.1 hg with e | e
  · rw [e]; exact ⟨h0, hs⟩
  · exact ⟨(h.1 g e).1, Nat.lt_trans (h.1 g e).2 hs⟩
/-- What was there already. -/
theorem Cn.old {N : Nat → Prop} (h : Cn N w0 v p k) (b : Below w0.heap.size w0 w) (hl : Nl w0 gs w) : Cn (Nn gs) w v p k :=
  (h.mono (N' := Nn gs) fun x hx _ g hg => by have := (hl.1 g hg).1; omega).step b
theorem Cn.put {g : Nat} (h : Cn (Nn gs) w v p k) (hg : w.grownBy w' (some g)) (hm : g ∈ gs) : Cn (Nn gs) w' v p k := h.grown hg (fun hn => hn g hm rfl)
end
end Go.Proofs.YtponcpneflhpfaaGreatDoor
namespace Go.Proofs.YtponcpneflhpfaaGreatDoor
open Go.RowKit
set_option linter.unusedVariables false

/-- The canonical kind of so many numbers in so many runs. -/
def ckn (c r : Nat) : Nat := if 2 + 4 * r < (if c ≤ 4096 then 2 * c else 8192) then 3 else if c ≤ 4096 then 1 else 2
/-- The size as a kind. -/
def szn (k c r : Nat) : Nat := if k = 2 then 8192 else if k = 3 then 2 + 4 * r else 2 * c
/-- The canonical kind of a set. -/
def ck (p : Nat → Bool) : Nat := ckn (ct p 65536) (ct (hm p) 65536)
theorem ckn_le (c r : Nat) : 1 ≤ ckn c r ∧ ckn c r ≤ 3 := by unfold ckn; split <;> (try split) <;> omega
theorem ck_le (p : Nat → Bool) : 1 ≤ ck p ∧ ck p ≤ 3 := ckn_le _ _
theorem ck_ext {p q : Nat → Bool} (h : ∀ x, x < 65536 → p x = q x) : ck p = ck q := by
  unfold ck
  rw [ct_ext h, ct_ext (hm_ext (n := 65536) h)]
theorem szn_least (c r : Nat) : szn (ckn c r) c r = if c ≤ 4096 then min (min 8192 (2 + 4 * r)) (2 * c) else min 8192 (2 + 4 * r) := by
  unfold szn ckn
  by_cases h : c ≤ 4096
  · simp only [if_pos h]
    by_cases h2 : 2 + 4 * r < 2 * c
    · rw [if_pos h2]; simp; omega
    · rw [if_neg h2]; simp; omega
  · simp only [if_neg h]
    by_cases h2 : 2 + 4 * r < 8192
    · rw [if_pos h2]; simp; omega
    · rw [if_neg h2]; simp; omega

/-- A rising row is the list of its marks. -/
theorem ls_mk {l : List UInt16} (h : ris l = true) : ls (mk l) 65536 = l :=
  ris_ext (ris_ls _ _ (Nat.le_refl _)) h fun z => by rw [ls_mem _ _ (Nat.le_refl _), mk_iff]; exact ⟨fun h => h.2, fun h => ⟨u16_lt z, h⟩⟩
theorem hm_mk {l : List UInt16} (h : ris l = true) : ct (hm (mk l)) 65536 = rn none l := by rw [← ls_ct, rn_ls h]
theorem pd_rs {t : Bool → Bool → Bool} (t0 : t false false = false) (p q : Nat → Bool) : pd t (rs p 65536) (rs q 65536) = rs (fun x => t (p x) (q x)) 65536 := by
  obtain ⟨h1, h2⟩ := pd_right t0 (mayr_rs p) (mayr_rs q)
  exact rs_mr h1 fun x hx => by rw [h2, mr_rs p hx, mr_rs q hx]

theorem ofp_inv {l : List UInt16} (h : ris l = true) : ∀ k, k ≤ l.length → mayr 0 (ofp l k) = true ∧ (∀ x, mr (ofp l k) x = mk (l.take k) x) ∧ (0 < k → ∃ L r, ofp l k = L ++ [r] ∧ lst r = (at16 l (k - 1)).toNat) := by
  intro k
  induction k with
  | zero => exact fun _ => ⟨rfl, fun x => rfl, fun h => absurd h (by omega)⟩
  | succ k ih =>
    intro hk
    obtain ⟨i1, i2, i3⟩ := ih (by omega)
    have hx := u16_lt (at16 l k)
    rw [ofp_succ]
    by_cases hc : (decide (0 < k) && decide ((at16 l k).toNat = (at16 l (k - 1)).toNat + 1)) = true
    · rw [if_pos hc]
      rw [Bool.and_eq_true, decide_eq_true_eq, decide_eq_true_eq] at hc
      obtain ⟨L, r, e, hr⟩ := i3 hc.1
      rw [e] at i1 i2 ⊢
      rw [bump_snoc]
      obtain ⟨a1, a2, a3, a4⟩ := mayr_snoc.1 i1
      have hr2 : (r.2 + 1).toNat = r.2.toNat + 1 := by
        rw [UInt16.toNat_add]
        have e1 : (1 : UInt16).toNat = 1 := rfl
        rw [e1]
        have e2 : r.1.toNat + r.2.toNat = (at16 l (k - 1)).toNat := hr
        have e3 := hc.2
        omega
      have hl : lst (r.1, r.2 + 1) = (at16 l k).toNat := by
        have e2 : r.1.toNat + r.2.toNat = (at16 l (k - 1)).toNat := hr
        have e3 := hc.2
        show r.1.toNat + (r.2 + 1).toNat = _
        rw [hr2]
        omega
      refine ⟨mayr_snoc.2 ⟨a1, a2, a3, by rw [hl]; omega⟩, fun x => ?_, fun _ => ⟨L, _, rfl, by rw [hl]; rfl⟩⟩
      have h2 := i2 x
      rw [mr_app] at h2 ⊢
      rw [mk_take l k (by omega), ← h2, Bool.or_assoc]
      congr 1
      rw [mr_cons, mr_cons, mr_nil, Bool.or_false, Bool.or_false, Bool.eq_iff_iff, inr_iff, Bool.or_eq_true, inr_iff, decide_eq_true_eq, hl]
      show r.1.toNat ≤ x ∧ _ ↔ _
      have := fst_le r
      omega
    · rw [if_neg hc]
      have hx0 : lst ((at16 l k, 0) : Rn) = (at16 l k).toNat := rfl
      refine ⟨mayr_snoc.2 ⟨i1, fun s hs => ?_, Nat.zero_le _, by rw [hx0]; omega⟩, fun x => ?_, fun _ => ⟨_, _, rfl, hx0⟩⟩
      · have hk0 : 0 < k := by
          rcases Nat.eq_zero_or_pos k with e | e
          · subst e; simp [ofp] at hs
          · exact e
        obtain ⟨L, r, e, hr⟩ := i3 hk0
        have hlt := ris_at h (i := k - 1) (j := k) (by omega) (by omega)
        have hne : (at16 l k).toNat ≠ (at16 l (k - 1)).toNat + 1 := fun e2 => hc (by rw [decide_eq_true hk0, decide_eq_true e2]; rfl)
        rw [e] at hs i1
        show lst s + 2 ≤ (at16 l k).toNat
        rcases List.mem_append.1 hs with g | g
        · have g2 := (mayr_snoc.1 i1).2.1 s g
          have := fst_le r
          omega
        · rw [List.mem_singleton] at g
          subst g
          omega
      · rw [mr_app, i2, mk_take l k (by omega)]
        congr 1
        rw [mr_cons, mr_nil, Bool.or_false, Bool.eq_iff_iff, inr_iff, decide_eq_true_eq, hx0]
        show (at16 l k).toNat ≤ x ∧ x ≤ (at16 l k).toNat ↔ _
        omega
theorem ofp_rs {l : List UInt16} (h : ris l = true) : ofp l l.length = rs (mk l) 65536 := by
  obtain ⟨h1, h2, -⟩ := ofp_inv h l.length (Nat.le_refl _)
  exact rs_mr h1 fun x hx => by rw [h2, List.take_length]
theorem ofp_ls (p : Nat → Bool) : ofp (ls p 65536) (ls p 65536).length = rs p 65536 := by
  rw [ofp_rs (ris_ls p _ (Nat.le_refl _))]
  exact rs_ext fun x hx => mk_ls p hx
theorem lists_rs (p : Nat → Bool) : ls (mr (rs p 65536)) 65536 = ls p 65536 := ls_ext fun x hx => mr_rs p hx
theorem count_rs (p : Nat → Bool) : ct (mr (rs p 65536)) 65536 = ct p 65536 := ct_ext fun x hx => mr_rs p hx
theorem mk_words (p : Nat → Bool) : wm (mk (ls p 65536)) = wm p := wm_ext fun x hx => mk_ls p hx
theorem rs_short (p : Nat → Bool) : (rs p 65536).length ≤ 65536 := mayr_len (mayr_rs p)
end Go.Proofs.YtponcpneflhpfaaGreatDoor
namespace Go.Proofs.YtponcpneflhpfaaGreatDoor
open Go.RowKit
set_option linter.unusedVariables false

/-- A container's cells. -/
structure Bd where
  κ : Int
  A : Option Addr
  n : Nat
  c : Nat
  A2 : Option Addr
  n2 : Nat
  c2 : Nat
  A3 : Option Addr
  n3 : Nat
  c3 : Nat
@[reducible] def Bd.val (x : Bd) : Value := .agg #[.int .u8 x.κ, .slice x.A x.n x.c, .slice x.A2 x.n2 x.c2, .slice x.A3 x.n3 x.c3]
/-- An entry: a key and its container. -/
structure En where
  key : UInt16
  b : Bd
def zB : Bd := ⟨0, none, 0, 0, none, 0, 0, none, 0, 0⟩
def eN : ElemV En := { E := 106, n := 5, cs := fun e => [.int .u16 (e.key.toNat : Int), .int .u8 e.b.κ, .slice e.b.A e.b.n e.b.c, .slice e.b.A2 e.b.n2 e.b.c2, .slice e.b.A3 e.b.n3 e.b.c3], zero := ⟨0, zB⟩, bytes := 88, len := fun _ => rfl, pos := by omega, one := fun e u hu => by simp at hu; rcases hu with rfl | rfl | rfl | rfl | rfl <;> rfl, small := by omega }
theorem infN : (Tryz.prog.info? eN.E).map (fun i => (i.zero, i.size, i.bytes)) = some (some (eN.val eN.zero), eN.n, eN.bytes) := by kernel_rfl
theorem sliN : Tryz.prog.underlying 95 = some (.slice eN.E) := Tryz.underlying95
/-- Spans. -/
def eSp : Elem2 Sn := { E := 34, fst := fun s => .int .u64 s.1.toNat, snd := fun s => .int .u64 s.2.toNat, zero := (0, 0), bytes := 16, one1 := fun _ => rfl, one2 := fun _ => rfl, small := by omega }
theorem infSp : (Tryz.prog.info? eSp.E).map (fun i => (i.zero, i.size, i.bytes)) = some (some (eSp.val eSp.zero), 2, eSp.bytes) := by kernel_rfl
theorem sliSp : Tryz.prog.underlying 26 = some (.slice eSp.E) := Tryz.underlying26
/-- Numbers of 32 bits. -/
def b32 (b : UInt32) : Value := .int .u32 (b.toNat : Int)
def e32 : Elem UInt32 := ⟨28, b32, 0, 4, fun _ => rfl, fun _ => rfl, by omega⟩
theorem inf32 : (Tryz.prog.info? e32.E).map (fun i => (i.zero, i.size, i.bytes)) = some (some (e32.val e32.zero), 1, e32.bytes) := by kernel_rfl
theorem sli32 : Tryz.prog.underlying 40 = some (.slice e32.E) := Tryz.underlying40

/-- The entries of the set P whose keys are from lo on and below hi: all of them, rising, each with the canonical container of its numbers, its rows in blocks of which N says yes. -/
structure Dir (N : Nat → Prop) (w : World) (P : Nat → Bool) (lo hi : Nat) (es : List En) : Prop where
  ris : ris (es.map En.key) = true
  mem : ∀ e ∈ es, lo ≤ e.key.toNat ∧ e.key.toNat < hi ∧ nz P e.key.toNat = true ∧ Cn N w e.b.val (blk P e.key.toNat) (ck (blk P e.key.toNat))
  all : ∀ k, lo ≤ k → k < hi → nz P k = true → ∃ e ∈ es, e.key.toNat = k
section
variable {N N' : Nat → Prop} {w w' : World} {P Q : Nat → Bool} {lo hi mi k : Nat} {es fs : List En} {e : En}
theorem Dir.map (h : Dir N w P lo hi es) (hc : ∀ v p k, Cn N w v p k → Cn N' w' v p k) : Dir N' w' P lo hi es :=
  ⟨h.ris, fun e he => let ⟨a, b, c, d⟩ := h.mem e he; ⟨a, b, c, hc _ _ _ d⟩, h.all⟩
theorem Dir.keep (h : Dir N w P lo hi es) (hs : w.heap.size ≤ w'.heap.size) (hk : ∀ q : Addr, N q.block → q.block < w.heap.size → w'.cell? q = w.cell? q) : Dir N w' P lo hi es := h.map fun _ _ _ c => c.keep hs hk
theorem Dir.mono (h : Dir N w P lo hi es) (hN : ∀ b, b < w.heap.size → N b → N' b) : Dir N' w P lo hi es := h.map fun _ _ _ c => c.mono hN
theorem Dir.step (h : Dir N w P lo hi es) (b : Below w.heap.size w w') : Dir N w' P lo hi es := h.map fun _ _ _ c => c.step b
theorem Dir.grown {g : Nat} (h : Dir N w P lo hi es) (hg : w.grownBy w' (some g)) (hN : ¬ N g) : Dir N w' P lo hi es := h.map fun _ _ _ c => c.grown hg hN
theorem Dir.nil_ : Dir N w P lo lo [] := ⟨rfl, fun e h => (by cases h), fun k h1 h2 => by omega⟩
theorem Dir.skip (h : Dir N w P lo mi es) (hm : mi ≤ hi) (h0 : ∀ k, mi ≤ k → k < hi → nz P k = false) : Dir N w P lo hi es :=
  ⟨h.ris, fun e he => let ⟨a, b, c⟩ := h.mem e he; ⟨a, Nat.lt_of_lt_of_le b hm, c⟩, fun k h1 h2 h3 => by
    by_cases hk : k < mi
    · exact h.all k h1 hk h3
    · rw [h0 k (by omega) h2] at h3; cases h3⟩
theorem Dir.snoc (h : Dir N w P lo k es) (hl : lo ≤ k) (hk : e.key.toNat = k) (hn : nz P k = true) (hc : Cn N w e.b.val (blk P k) (ck (blk P k))) : Dir N w P lo (k + 1) (es ++ [e]) := by
  subst hk
  refine ⟨?_, fun x hx => ?_, fun k h1 h2 h3 => ?_⟩
  · rw [List.map_append]
    refine ris_app h.ris rfl fun x hx y hy => ?_
    obtain ⟨a, ha, rfl⟩ := List.mem_map.1 hx
    simp at hy
    subst hy
    exact (h.mem a ha).2.1
  · rw [List.mem_append] at hx
    rcases hx with hx | hx
    · obtain ⟨a, b, c⟩ := h.mem x hx
      exact ⟨a, by omega, c⟩
    · simp at hx; subst hx
      exact ⟨hl, by omega, hn, hc⟩
  · by_cases hk : k < e.key.toNat
    · obtain ⟨x, hx, hxk⟩ := h.all k h1 hk h3
      exact ⟨x, by simp [hx], hxk⟩
    · exact ⟨e, by simp, by omega⟩
theorem Dir.head (h : Dir N w P lo hi (e :: es)) : lo ≤ e.key.toNat ∧ e.key.toNat < hi ∧ nz P e.key.toNat = true ∧ Cn N w e.b.val (blk P e.key.toNat) (ck (blk P e.key.toNat)) := h.mem e (by simp)
theorem Dir.gap (h : Dir N w P lo hi (e :: es)) : ∀ k, lo ≤ k → k < e.key.toNat → nz P k = false := fun k h1 h2 => by
  cases hn : nz P k with
  | false => rfl
  | true =>
    obtain ⟨x, hx, hxk⟩ := h.all k h1 (by have := h.head.2.1; omega) hn
    rcases List.mem_cons.1 hx with rfl | hx
    · omega
    · have := ris_lt h.ris x.key (List.mem_map_of_mem hx)
      omega
theorem Dir.tail (h : Dir N w P lo hi (e :: es)) : Dir N w P (e.key.toNat + 1) hi es := by
  refine ⟨ris_tail h.ris, fun x hx => ?_, fun k h1 h2 h3 => ?_⟩
  · have := ris_lt h.ris x.key (List.mem_map_of_mem hx)
    obtain ⟨a, b, c⟩ := h.mem x (by simp [hx])
    exact ⟨by omega, b, c⟩
  · obtain ⟨x, hx, hxk⟩ := h.all k (by have := h.head.1; omega) h2 h3
    rcases List.mem_cons.1 hx with rfl | hx
    · omega
    · exact ⟨x, hx, hxk⟩
theorem Dir.none (h : Dir N w P lo hi []) : ∀ k, lo ≤ k → k < hi → nz P k = false := fun k h1 h2 => by
  cases hn : nz P k with
  | false => rfl
  | true => obtain ⟨x, hx, _⟩ := h.all k h1 h2 hn; cases hx
theorem Dir.ext (h : Dir N w P lo hi es) (he : ∀ x, lo ≤ x / 65536 → x / 65536 < hi → P x = Q x) : Dir N w Q lo hi es := by
  have e : ∀ k, lo ≤ k → k < hi → (nz P k = nz Q k ∧ ∀ x, x < 65536 → blk P k x = blk Q k x) := fun k h1 h2 =>
    ⟨nz_ext fun x hx => he x (by omega) (by omega), blk_ext fun x hx => he x (by omega) (by omega)⟩
  refine ⟨h.ris, fun x hx => ?_, fun k h1 h2 h3 => h.all k h1 h2 ((e k h1 h2).1.trans h3)⟩
  obtain ⟨a, b, c, d⟩ := h.mem x hx
  obtain ⟨e1, e2⟩ := e _ a b
  exact ⟨a, b, e1 ▸ c, by rw [← ck_ext e2]; exact d.ext e2⟩
theorem Dir.keys (h : Dir N w P 0 hi es) (hh : hi ≤ 65536) : es.map En.key = ls (nz P) hi :=
  ris_ext h.ris (ris_ls _ _ hh) fun z => by
    rw [ls_mem _ _ hh, List.mem_map]
    constructor
    · rintro ⟨a, ha, rfl⟩
      exact ⟨(h.mem a ha).2.1, (h.mem a ha).2.2.1⟩
    · rintro ⟨h1, h2⟩
      obtain ⟨a, ha, hk⟩ := h.all _ (Nat.zero_le _) h1 h2
      exact ⟨a, ha, u16_eq hk⟩
theorem ris_len {l : List UInt16} (h : ris l = true) : l.length ≤ 65536 := by
  rw [← ls_mk h]; exact ls_len _ _
theorem Dir.len (h : Dir N w P lo hi es) : es.length ≤ 65536 := by
  have := ris_len h.ris
  rwa [List.length_map] at this
theorem Dir.at_ (h : Dir N w P lo hi es) {i : Nat} (hi' : es[i]? = some e) : e ∈ es := List.mem_of_getElem? hi'
end

/-- All that lies where M says no is as it was. -/
structure Off (M : Nat → Prop) (w w' : World) : Prop where
  os : w'.os = w.os
  tape : w'.tape = w.tape
  output : w'.output = w.output
  size : w.heap.size ≤ w'.heap.size
  block : ∀ k, k < w.heap.size → ¬ M k → w'.heap[k]? = w.heap[k]?
theorem Off.below {M : Nat → Prop} {w w' : World} (h : Off M w w') {B : Nat} (hM : ∀ k, k < w.heap.size → M k → B ≤ k) (hB : B ≤ w.heap.size) : Below B w w' :=
  ⟨h.os, h.tape, h.output, h.size, fun k hk => h.block k (Nat.lt_of_lt_of_le hk hB) fun hm => absurd (hM k (Nat.lt_of_lt_of_le hk hB) hm) (by omega)⟩
theorem Off.of {M : Nat → Prop} {w w' : World} (h : Below w.heap.size w w') : Off M w w' := ⟨h.os, h.tape, h.output, h.size, fun k hk _ => h.block k hk⟩
theorem Off.trans {M M' M'' : Nat → Prop} {a b c : World} (h : Off M a b) (k : Off M' b c) (h1 : ∀ x, x < a.heap.size → M x → M'' x) (h2 : ∀ x, x < a.heap.size → M' x → M'' x) : Off M'' a c :=
  ⟨k.os.trans h.os, k.tape.trans h.tape, k.output.trans h.output, Nat.le_trans h.size k.size, fun x hx hm => (k.block x (Nat.lt_of_lt_of_le hx h.size) fun hm' => hm (h2 x hx hm')).trans (h.block x hx fun hm' => hm (h1 x hx hm'))⟩
theorem Off.mono {M M' : Nat → Prop} {a b : World} (h : Off M a b) (h1 : ∀ x, x < a.heap.size → M x → M' x) : Off M' a b := ⟨h.os, h.tape, h.output, h.size, fun x hx hm => h.block x hx fun hm' => hm (h1 x hx hm')⟩
theorem Off.grown {M : Nat → Prop} {g : Nat} {a b : World} (h : a.grownBy b (some g)) (h1 : g < a.heap.size → M g) : Off M a b :=
  ⟨h.os, h.tape, h.output, h.size, fun x hx hm => h.block x hx fun e => by injection e with e; subst e; exact hm (h1 hx)⟩
/-- Which blocks a set's rows may lie in: what was so stays so, new ones too, but for what has become a set's own. -/
structure Nx (N : Nat → Prop) (w : World) (N' : Nat → Prop) (w' : World) : Prop where
  old : ∀ x, x < w.heap.size → N x → N' x
  new : ∀ x, w'.heap.size ≤ x → N x → N' x
  sub : ∀ x, N' x → N x
theorem Nx.refl (N : Nat → Prop) (w w' : World) : Nx N w N w' := ⟨fun _ _ h => h, fun _ _ h => h, fun _ h => h⟩
theorem Nx.trans {N N' N'' : Nat → Prop} {a b c : World} (h : Nx N a N' b) (k : Nx N' b N'' c) (h1 : a.heap.size ≤ b.heap.size) (h2 : b.heap.size ≤ c.heap.size) : Nx N a N'' c :=
  ⟨fun x hx hn => k.old x (Nat.lt_of_lt_of_le hx h1) (h.old x hx hn), fun x hx hn => k.new x hx (h.new x (Nat.le_trans h2 hx) hn), fun x hn => h.sub x (k.sub x hn)⟩
theorem Nx.but {N : Nat → Prop} {w w' : World} (g : Nat) (h1 : w.heap.size ≤ g) (h2 : g < w'.heap.size) : Nx N w (fun x => N x ∧ x ≠ g) w' :=
  ⟨fun x hx hn => ⟨hn, by omega⟩, fun x hx hn => ⟨hn, by omega⟩, fun x hn => hn.1⟩
theorem Nx.all {N N' : Nat → Prop} {w w' : World} (h : Nx N w N' w') (hs : w.heap.size ≤ w'.heap.size) (hN : ∀ x, w.heap.size ≤ x → N x) : ∀ x, w'.heap.size ≤ x → N' x := fun x hx => h.new x hx (hN x (Nat.le_trans hs hx))

/-- A set that is being made: its box's block, the slice in the box, a slice of its own, which is nil where there is no entry, and its entries, of the keys below K; what is its own holds no rows. -/
structure Sx (N : Nat → Prop) (w : World) (v : Value) (P : Nat → Bool) (b K : Nat) (s : Value) (es : List En) : Prop where
  form : v = .pointer (some ⟨b, 0, none⟩)
  box : Row w b 97 #[s]
  arr : GwV eN w 0 s es
  nil : es = [] → s = .slice none 0 0
  dir : Dir N w P 0 K es
  nb : ¬ N b
  ns : ∀ g, s.ownBlock = some g → ¬ N g
  nbs : s.ownBlock ≠ some b
/-- A set, as it is read: one that is there, or is not. -/
inductive St (N : Nat → Prop) (w : World) : Value → (Nat → Bool) → Prop
  | none {P : Nat → Bool} (h : ∀ x, x < 4294967296 → P x = false) : St N w (.pointer none) P
  | some {P : Nat → Bool} (b : Nat) (s : Value) (es : List En) (hb : Row w b 97 #[s]) (hs : GsV eN w 0 w.heap.size s es) (hn : es = [] → s = .slice none 0 0) (hd : Dir N w P 0 65536 es) : St N w (.pointer (some ⟨b, 0, none⟩)) P
section
variable {N N' : Nat → Prop} {w w' : World} {P Q : Nat → Bool} {v s : Value} {b K : Nat} {es : List En}
theorem Sx.step (h : Sx N w v P b K s es) (hb : Below w.heap.size w w') : Sx N w' v P b K s es :=
  ⟨h.form, h.box.below hb h.box.lt, h.arr.below hb (Nat.le_refl _), h.nil, h.dir.step hb, h.nb, h.ns, h.nbs⟩
theorem Sx.nx (h : Sx N w v P b K s es) (hN : Nx N w N' w') : Sx N' w v P b K s es :=
  ⟨h.form, h.box, h.arr, h.nil, h.dir.mono hN.old, fun hn => h.nb (hN.sub _ hn), fun g hg hn => h.ns g hg (hN.sub _ hn), h.nbs⟩
theorem Sx.ext (h : Sx N w v P b K s es) (he : ∀ x, x / 65536 < K → P x = Q x) : Sx N w v Q b K s es := ⟨h.form, h.box, h.arr, h.nil, h.dir.ext fun x _ h2 => he x h2, h.nb, h.ns, h.nbs⟩
theorem Sx.skip {K' : Nat} (h : Sx N w v P b K s es) (hm : K ≤ K') (h0 : ∀ k, K ≤ k → k < K' → nz P k = false) : Sx N w v P b K' s es := ⟨h.form, h.box, h.arr, h.nil, h.dir.skip hm h0, h.nb, h.ns, h.nbs⟩
/-- It is kept where something else is written over. -/
theorem Sx.off {M : Nat → Prop} (h : Sx N w v P b K s es) (ho : Off M w w') (h1 : ¬ M b) (h2 : ∀ g, s.ownBlock = some g → ¬ M g) (hN : ∀ x, x < w.heap.size → N x → ¬ M x) : Sx N w' v P b K s es :=
  ⟨h.form, h.box.keep (ho.block b h.box.lt h1), by
    refine ⟨h.arr.1, ?_⟩
    rcases h.arr.2 with hn | ⟨g, cap, cur, e, hb, hg, r⟩
    · exact .inl hn
    · exact .inr ⟨g, cap, cur, e, hb, (ho.block g (Array.getElem?_eq_some_iff.1 hg).1 (h2 g (by rw [e]; rfl))).trans hg, r⟩, h.nil,
   h.dir.keep ho.size fun q hq hb => World.cell?_of_block (ho.block _ hb (hN _ hb hq)), h.nb, h.ns, h.nbs⟩
theorem Sx.st (h : Sx N w v P b 65536 s es) : St N w v P := by
  obtain rfl := h.form
  exact .some b s es h.box ((h.arr.sl).more (Nat.zero_le _) (Nat.le_refl _)) h.nil h.dir
theorem St.step (h : St N w v P) (hb : Below w.heap.size w w') : St N w' v P := by
  cases h with
  | none h => exact .none h
  | some b s es h1 h2 h3 h4 => exact .some b s es (h1.below hb h1.lt) (h2.step hb) h3 (h4.step hb)
theorem St.mono (h : St N w v P) (hN : ∀ b, b < w.heap.size → N b → N' b) : St N' w v P := by
  cases h with
  | none h => exact .none h
  | some b s es h1 h2 h3 h4 => exact .some b s es h1 h2 h3 (h4.mono hN)
theorem St.ext (h : St N w v P) (he : ∀ x, x < 4294967296 → P x = Q x) : St N w v Q := by
  cases h with
  | none h => exact .none fun x hx => (he x hx).symm.trans (h x hx)
  | some b s es h1 h2 h3 h4 => exact .some b s es h1 h2 h3 (h4.ext fun x _ h2 => he x (by omega))
end
end Go.Proofs.YtponcpneflhpfaaGreatDoor
namespace Go.Proofs.YtponcpneflhpfaaGreatDoor
open Go.RowKit
set_option linter.unusedVariables false

theorem bx (w : World) (o : Obj) : Below w.heap.size w (w.alloc o) := (Below.refl _ _).alloc (Nat.le_refl _) o
theorem ls_small (p : Nat → Bool) : (ls p 65536).length ≤ 65536 := ls_len p 65536

set_option maxHeartbeats 400000 in
theorem clone64_any (v : Value) (l : List UInt64) (lo : Nat) (w : World) (hv : Gs e64 w lo w.heap.size v l) (hb : l.length ≤ 100000000) :
    Calls Tryz.prog 101 #[v] w fun e w' => ∃ v', e = .returned v' ∧ Gw e64 w' w.heap.size v' l ∧ Below w.heap.size w w' := by
  have hv0 := hv
  obtain ⟨A, c, rfl, hc0, -, -, hbt⟩ := hv
  cases A with
  | none =>
    obtain rfl := hc0 rfl
    have hl : l = [] := by
      by_cases h : l = []
      · exact h
      · obtain ⟨b, off, e, _⟩ := hbt h
        cases e
    subst hl
    clear hc0 hbt hv0
    have hq := fun W n c => Lib.run_eql_slice_nil (P := Tryz.prog) W 62 29 none n c 0 0 Tryz.underlying62
    simp only [Option.isNone_none] at hq
    go_enter Tryz.func101, Tryz.ntmps101
    go_wp2
    go_ret
    exact ⟨_, rfl, Gw.nil_ _ _, Below.refl _ _⟩
  | some ad =>
    clear hc0 hbt
    have hq := fun W n c => Lib.run_eql_slice_nil (P := Tryz.prog) W 62 29 (some ad) n c 0 0 Tryz.underlying62
    simp only [Option.isNone_some] at hq
    go_enter Tryz.func101, Tryz.ntmps101
    go_wp2_with (at_builtin; refine wpList_gapp e64 _ rfl _ _ _ rfl w.heap.size sli64 inf64 _ [] rfl (Gw.empty_ _ _ (Nat.le_refl _)) lo w.heap.size _ l rfl (hv0.alloc (Nat.le_refl _) _) (by simp; omega) (by simp) ?_; intro v2 w2 o2 g2 _)
    go_ret
    exact ⟨v2, rfl, by simpa using o2, ((Below.refl _ _).alloc (Nat.le_refl _) _).grown g2 (by simp) (fun k h => by injection h with h; subst h; exact Nat.le_refl _)⟩
set_option maxHeartbeats 400000 in
theorem cloneR_any (v : Value) (l : List Rn) (lo : Nat) (w : World) (hv : Gs2 eR w lo w.heap.size v l) (hb : l.length ≤ 100000000) :
    Calls Tryz.prog 107 #[v] w fun e w' => ∃ v', e = .returned v' ∧ Gw2 eR w' w.heap.size v' l ∧ Below w.heap.size w w' := by
  have hv0 := hv
  obtain ⟨A, c, rfl, hc0, -, -, hbt⟩ := hv
  cases A with
  | none =>
    obtain rfl := hc0 rfl
    have hl : l = [] := by
      by_cases h : l = []
      · exact h
      · obtain ⟨b, off, e, _⟩ := hbt h
        cases e
    subst hl
    clear hc0 hbt hv0
    have hq := fun W n c => Lib.run_eql_slice_nil (P := Tryz.prog) W 63 130 none n c 0 0 Tryz.underlying63
    simp only [Option.isNone_none] at hq
    go_enter Tryz.func107, Tryz.ntmps107
    go_wp2
    go_ret
    exact ⟨_, rfl, Gw2.nil_ _ _, Below.refl _ _⟩
  | some ad =>
    clear hc0 hbt
    have hq := fun W n c => Lib.run_eql_slice_nil (P := Tryz.prog) W 63 130 (some ad) n c 0 0 Tryz.underlying63
    simp only [Option.isNone_some] at hq
    go_enter Tryz.func107, Tryz.ntmps107
    go_wp2_with (at_builtin; refine wpList_gapp2 eR _ rfl _ _ _ rfl w.heap.size sliR infR _ [] rfl (Gw2.empty_ _ _ (Nat.le_refl _)) lo w.heap.size _ l rfl (hv0.alloc (Nat.le_refl _) _) (by simp; omega) (by simp) ?_; intro v2 w2 o2 g2 _)
    go_ret
    exact ⟨v2, rfl, by simpa using o2, ((Below.refl _ _).alloc (Nat.le_refl _) _).grown g2 (by simp) (fun k h => by injection h with h; subst h; exact Nat.le_refl _)⟩

theorem sclone16 (v : Value) (p : Nat → Bool) (n : Nat) (lo : Nat) (w : World) (hv : Gs e16 w lo w.heap.size v (ls p 65536)) (hn : ct p 65536 = n) :
    Calls Tryz.prog 99 #[v] w fun e w' => ∃ A c, e = .returned (.slice A n c) ∧ Gs e16 w' w.heap.size w'.heap.size (.slice A n c) (ls p 65536) ∧ Below w.heap.size w w' := by
  refine (clone16_any v _ lo w hv (Nat.le_trans (ls_small p) (by omega))).mono ?_
  rintro e w' ⟨v', rfl, o, b⟩
  have s := o.sl
  obtain ⟨A, c, rfl, -⟩ := o.sl
  rw [ls_ct, hn] at s ⊢
  exact ⟨A, c, rfl, s, b⟩

theorem sclone64 (v : Value) (p : Nat → Bool) (lo : Nat) (w : World) (hv : Gs e64 w lo w.heap.size v (wm p)) :
    Calls Tryz.prog 101 #[v] w fun e w' => ∃ A c, e = .returned (.slice A 1024 c) ∧ Gs e64 w' w.heap.size w'.heap.size (.slice A 1024 c) (wm p) ∧ Below w.heap.size w w' := by
  refine (clone64_any v _ lo w hv (by rw [wm_length]; omega)).mono ?_
  rintro e w' ⟨v', rfl, o, b⟩
  obtain ⟨A, c, rfl⟩ := gw_wm o
  exact ⟨A, c, rfl, o.sl, b⟩

theorem scloneR (v : Value) (p : Nat → Bool) (n : Nat) (lo : Nat) (w : World) (hv : Gs2 eR w lo w.heap.size v (rs p 65536)) (hn : ct (hm p) 65536 = n) :
    Calls Tryz.prog 107 #[v] w fun e w' => ∃ A c, e = .returned (.slice A n c) ∧ Gs2 eR w' w.heap.size w'.heap.size (.slice A n c) (rs p 65536) ∧ Below w.heap.size w w' := by
  refine (cloneR_any v _ lo w hv (Nat.le_trans (rs_short p) (by omega))).mono ?_
  rintro e w' ⟨v', rfl, o, b⟩
  have s := o.sl
  obtain ⟨A, c, rfl, -⟩ := o.sl
  rw [rs_len, hn] at s ⊢
  exact ⟨A, c, rfl, s, b⟩

theorem swof (v : Value) (p : Nat → Bool) (lo : Nat) (w : World) (hv : Gs e16 w lo w.heap.size v (ls p 65536)) :
    Calls Tryz.prog 171 #[v] w fun e w' => ∃ A c, e = .returned (.slice A 1024 c) ∧ Gs e64 w' w.heap.size w'.heap.size (.slice A 1024 c) (wm p) ∧ Below w.heap.size w w' := by
  refine (wof_any v _ lo w hv).mono ?_
  rintro e w' ⟨v', rfl, o, b⟩
  rw [mk_words] at o
  obtain ⟨A, c, rfl⟩ := gw_wm o
  exact ⟨A, c, rfl, o.sl, b⟩

theorem srof (v : Value) (p : Nat → Bool) (n : Nat) (lo : Nat) (w : World) (hv : Gs e16 w lo w.heap.size v (ls p 65536)) (hn : ct (hm p) 65536 = n) :
    Calls Tryz.prog 174 #[v] w fun e w' => ∃ A c, e = .returned (.slice A n c) ∧ Gs2 eR w' w.heap.size w'.heap.size (.slice A n c) (rs p 65536) ∧ Below w.heap.size w w' := by
  refine (rof_any v _ w (hv.more (Nat.zero_le _) (Nat.le_refl _)) (Nat.le_trans (ls_small p) (by omega))).mono ?_
  rintro e w' ⟨v', rfl, o, b⟩
  rw [ofp_ls] at o
  have s := o.sl
  obtain ⟨A, c, rfl, -⟩ := o.sl
  rw [rs_len, hn] at s ⊢
  exact ⟨A, c, rfl, s, b⟩

theorem swlist (v : Value) (p : Nat → Bool) (n : Nat) (lo : Nat) (w : World) (hv : Gs e64 w lo w.heap.size v (wm p)) (hT : Tb w) (hn : ct p 65536 = n) :
    Calls Tryz.prog 175 #[v] w fun e w' => ∃ A c, e = .returned (.slice A n c) ∧ Gs e16 w' w.heap.size w'.heap.size (.slice A n c) (ls p 65536) ∧ Below w.heap.size w w' := by
  refine (wlist_any v _ lo w hv hT).mono ?_
  rintro e w' ⟨v', rfl, o, b⟩
  rw [ls_wb p (Nat.le_refl _)] at o
  have s := o.sl
  obtain ⟨A, c, rfl, -⟩ := o.sl
  rw [ls_ct, hn] at s ⊢
  exact ⟨A, c, rfl, s, b⟩

theorem srlist (v : Value) (p : Nat → Bool) (n : Nat) (lo : Nat) (w : World) (hv : Gs2 eR w lo w.heap.size v (rs p 65536)) (hn : ct p 65536 = n) :
    Calls Tryz.prog 172 #[v] w fun e w' => ∃ A c, e = .returned (.slice A n c) ∧ Gs e16 w' w.heap.size w'.heap.size (.slice A n c) (ls p 65536) ∧ Below w.heap.size w w' := by
  refine (rlist_any v _ w (hv.more (Nat.zero_le _) (Nat.le_refl _)) (mayr_rs p)).mono ?_
  rintro e w' ⟨v', rfl, o, b⟩
  rw [lists_rs] at o
  have s := o.sl
  obtain ⟨A, c, rfl, -⟩ := o.sl
  rw [ls_ct, hn] at s ⊢
  exact ⟨A, c, rfl, s, b⟩

theorem sruns (v : Value) (p : Nat → Bool) (n lo : Nat) (w : World) (hv : Gs e16 w lo w.heap.size v (ls p 65536)) (hn : ct (hm p) 65536 = n) :
    Calls Tryz.prog 295 #[v] w fun e w' => e = .returned (.int .i64 n) ∧ Below w.heap.size w w' := aruns_p v p n w (hv.more (Nat.zero_le _) (Nat.le_refl _)) hn
theorem swlen (v : Value) (p : Nat → Bool) (n lo : Nat) (w : World) (hv : Gs e64 w lo w.heap.size v (wm p)) (hn : ct p 65536 = n) :
    Calls Tryz.prog 239 #[v] w fun e w' => e = .returned (.int .i64 n) ∧ Below w.heap.size w w' := (wlen_p v p n w (hv.more (Nat.zero_le _) (Nat.le_refl _)) hn).mono fun e w' ⟨h1, h2⟩ => ⟨h1, h2 ▸ Below.refl _ _⟩
theorem swruns (v : Value) (p : Nat → Bool) (n lo : Nat) (w : World) (hv : Gs e64 w lo w.heap.size v (wm p)) (hn : ct (hm p) 65536 = n) :
    Calls Tryz.prog 296 #[v] w fun e w' => e = .returned (.int .i64 n) ∧ Below w.heap.size w w' := (wruns_p v p n w (hv.more (Nat.zero_le _) (Nat.le_refl _)) hn).mono fun e w' ⟨h1, h2⟩ => ⟨h1, h2 ▸ Below.refl _ _⟩
theorem srlen (v : Value) (p : Nat → Bool) (n lo : Nat) (w : World) (hv : Gs2 eR w lo w.heap.size v (rs p 65536)) (hn : ct p 65536 = n) :
    Calls Tryz.prog 237 #[v] w fun e w' => e = .returned (.int .i64 n) ∧ Below w.heap.size w w' := rlen_any v _ n w (hv.more (Nat.zero_le _) (Nat.le_refl _)) (mayr_rs p) (by rw [count_rs]; exact hn)
end Go.Proofs.YtponcpneflhpfaaGreatDoor
