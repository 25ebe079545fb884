/- A container that has a set, as one of three kinds; walks: Kind. -/
import Derived.Test.YtfefmlnlicilbaaDoorUFO
import Derived.Laws.EntriesVeiled
namespace Go.Proofs.YtfefmlnlicilbaaDoor
open Go.RowKit
set_option linter.unusedVariables false

/-- A slice that reads as l, in a block of which N says yes. -/
def Gp {α : Type} (k : Elem α) (N : Nat → Prop) (w : World) (v : Value) (l : List α) : Prop :=
  Gs k w 0 w.heap.size v l ∧ (l ≠ [] → ∀ b off sp n c, v = .slice (some ⟨b, off, sp⟩) n c → N b)
def Gp2 (N : Nat → Prop) (w : World) (v : Value) (l : List Rn) : Prop :=
  Gs2 eR w 0 w.heap.size v l ∧ (l ≠ [] → ∀ b off sp n c, v = .slice (some ⟨b, off, sp⟩) n c → N b)
theorem Gp.of {α : Type} {k : Elem α} {N : Nat → Prop} {w : World} {lo hi : Nat} {v : Value} {l : List α} (h : Gs k w lo hi v l) (hh : hi ≤ w.heap.size) (hN : ∀ b, lo ≤ b → b < hi → N b) : Gp k N w v l := by
  refine ⟨h.more (Nat.zero_le _) hh, fun hl b off sp n c e => ?_⟩
  obtain ⟨b', off', c', e', -, -, h1, h2, -⟩ := h.form hl
  rw [e'] at e
  injection e with e
  injection e with e
  injection e with e
  subst e
  exact hN _ h1 h2
theorem Gp2.of {N : Nat → Prop} {w : World} {lo hi : Nat} {v : Value} {l : List Rn} (h : Gs2 eR w lo hi v l) (hh : hi ≤ w.heap.size) (hN : ∀ b, lo ≤ b → b < hi → N b) : Gp2 N w v l := by
  refine ⟨h.more (Nat.zero_le _) hh, fun hl b off sp n c e => ?_⟩
  obtain ⟨b', off', c', e', -, -, h1, h2, -⟩ := h.form hl
  rw [e'] at e
  injection e with e
  injection e with e
  injection e with e
  subst e
  exact hN _ h1 h2
theorem Gp.keep {α : Type} {k : Elem α} {N : Nat → Prop} {w w' : World} {v : Value} {l : List α} (h : Gp k N w v l) (hs : w.heap.size ≤ w'.heap.size) (hk : ∀ q : Addr, N q.block → q.block < w.heap.size → w'.cell? q = w.cell? q) : Gp k N w' v l := by
  obtain ⟨⟨A, c, rfl, h0, h1, h2, hb⟩, h3⟩ := h
  refine ⟨⟨A, c, rfl, h0, h1, h2, fun hl => ?_⟩, h3⟩
  obtain ⟨b, off, rfl, b1, b2, hc⟩ := hb hl
  exact ⟨b, off, rfl, b1, by omega, fun j x hx => (hk ⟨b, off + j, none⟩ (h3 hl b off _ _ _ rfl) b2).trans (hc j x hx)⟩
theorem Gp2.keep {N : Nat → Prop} {w w' : World} {v : Value} {l : List Rn} (h : Gp2 N w v l) (hs : w.heap.size ≤ w'.heap.size) (hk : ∀ q : Addr, N q.block → q.block < w.heap.size → w'.cell? q = w.cell? q) : Gp2 N w' v l := by
  obtain ⟨⟨A, c, rfl, h0, h1, h2, hb⟩, h3⟩ := h
  refine ⟨⟨A, c, rfl, h0, h1, h2, fun hl => ?_⟩, h3⟩
  obtain ⟨b, off, rfl, b1, b2, hc⟩ := hb hl
  exact ⟨b, off, rfl, b1, by omega, fun j x hx => ⟨(hk ⟨b, off + 2 * j, none⟩ (h3 hl b off _ _ _ rfl) b2).trans (hc j x hx).1, (hk ⟨b, off + 2 * j + 1, none⟩ (h3 hl b off _ _ _ rfl) b2).trans (hc j x hx).2⟩⟩
theorem Gp.mono {α : Type} {k : Elem α} {N N' : Nat → Prop} {w : World} {v : Value} {l : List α} (h : Gp k N w v l) (hN : ∀ b, b < w.heap.size → N b → N' b) : Gp k N' w v l :=
  ⟨h.1, fun hl b off sp n c e => hN b (by obtain ⟨b', off', c', e', -, -, -, h2, -⟩ := h.1.form hl; rw [e'] at e; injection e with e; injection e with e; injection e with e; subst e; exact h2) (h.2 hl b off sp n c e)⟩
theorem Gp2.mono {N N' : Nat → Prop} {w : World} {v : Value} {l : List Rn} (h : Gp2 N w v l) (hN : ∀ b, b < w.heap.size → N b → N' b) : Gp2 N' w v l :=
  ⟨h.1, fun hl b off sp n c e => hN b (by obtain ⟨b', off', c', e', -, -, -, h2, -⟩ := h.1.form hl; rw [e'] at e; injection e with e; injection e with e; injection e with e; subst e; exact h2) (h.2 hl b off sp n c e)⟩

/-- The value is a container of kind k that has the set p, its rows in blocks of which N says yes. -/
inductive Cn (N : Nat → Prop) (w : World) : Value → (Nat → Bool) → Nat → Prop
  | arr {p : Nat → Bool} (κ : Int) (A : Option Addr) (n c : Nat) (hκ : κ = 0 ∨ κ = 1) (hn : ct p 65536 = n) (h : Gp e16 N w (.slice A n c) (ls p 65536)) : Cn N w (.agg #[.int .u8 κ, .slice A n c, .slice none 0 0, .slice none 0 0]) p 1
  | wrd {p : Nat → Bool} (A : Option Addr) (c : Nat) (h : Gp e64 N w (.slice A 1024 c) (wm p)) : Cn N w (.agg #[.int .u8 2, .slice none 0 0, .slice A 1024 c, .slice none 0 0]) p 2
  | run {p : Nat → Bool} (A : Option Addr) (n c : Nat) (hn : ct (hm p) 65536 = n) (h : Gp2 N w (.slice A n c) (rs p 65536)) : Cn N w (.agg #[.int .u8 3, .slice none 0 0, .slice none 0 0, .slice A n c]) p 3
section
variable {N : Nat → Prop} {w w' : World} {v : Value} {p q : Nat → Bool} {k : Nat}
theorem Cn.keep (h : Cn N w v p k) (hs : w.heap.size ≤ w'.heap.size) (hk : ∀ q : Addr, N q.block → q.block < w.heap.size → w'.cell? q = w.cell? q) : Cn N w' v p k := by
  cases h with
  | arr κ A n c hκ hn h => exact .arr κ A n c hκ hn (h.keep hs hk)
  | wrd A c h => exact .wrd A c (h.keep hs hk)
  | run A n c hn h => exact .run A n c hn (h.keep hs hk)
theorem Cn.mono {N' : Nat → Prop} (h : Cn N w v p k) (hN : ∀ b, b < w.heap.size → N b → N' b) : Cn N' w v p k := by
  cases h with
  | arr κ A n c hκ hn h => exact .arr κ A n c hκ hn (h.mono hN)
  | wrd A c h => exact .wrd A c (h.mono hN)
  | run A n c hn h => exact .run A n c hn (h.mono hN)
theorem Cn.step (h : Cn N w v p k) (b : Below w.heap.size w w') : Cn N w' v p k := h.keep b.size fun _ _ hp => b.cell hp
theorem Cn.grown {g : Nat} (h : Cn N w v p k) (hg : w.grownBy w' (some g)) (hN : ¬ N g) : Cn N w' v p k :=
  h.keep hg.size fun q hq hb => hg.cell_far q hb (fun e => by injection e with e; exact hN (e ▸ hq))
theorem Cn.ext (h : Cn N w v p k) (e : ∀ x, x < 65536 → p x = q x) : Cn N w v q k := by
  cases h with
  | arr κ A n c hκ hn h => exact .arr κ A n c hκ (by rw [← ct_ext e]; exact hn) (by rw [← ls_ext e]; exact h)
  | wrd A c h => exact .wrd A c (by rw [← wm_ext e]; exact h)
  | run A n c hn h => exact .run A n c (by rw [← ct_ext (hm_ext (n := 65536) e)]; exact hn) (by rw [← rs_ext e]; exact h)
theorem Cn.kind (h : Cn N w v p k) : 1 ≤ k ∧ k ≤ 3 := by cases h <;> omega
theorem Cn.form (h : Cn N w v p k) : ∃ κ A n c A2 n2 c2 A3 n3 c3, v = .agg #[.int .u8 κ, .slice A n c, .slice A2 n2 c2, .slice A3 n3 c3] := by
  cases h with
  | arr κ A n c => exact ⟨_, _, _, _, _, _, _, _, _, _, rfl⟩
  | wrd A c => exact ⟨_, _, _, _, _, _, _, _, _, _, rfl⟩
  | run A n c => exact ⟨_, _, _, _, _, _, _, _, _, _, rfl⟩
theorem Cn.zero (hp : ∀ x, x < 65536 → p x = false) : Cn N w (.agg #[.int .u8 0, .slice none 0 0, .slice none 0 0, .slice none 0 0]) p 1 := by
  have e : ls p 65536 = [] := by rw [ls_ext (q := fun _ => false) hp]; exact List.eq_nil_of_length_eq_zero (by rw [ls_ct]; exact ct_zero fun _ _ => rfl)
  refine .arr 0 none 0 0 (.inl rfl) (ct_zero hp) ?_
  rw [e]
  exact ⟨Gs.nil_ _ _ _, fun h => absurd rfl h⟩
end

set_option maxHeartbeats 400000 in
theorem kind_c {N : Nat → Prop} (v : Value) (p : Nat → Bool) (k : Nat) (w : World) (h : Cn N w v p k) :
    Calls Tryd.prog 10 #[v] w fun e w' => e = .returned (.int .u8 k) ∧ Below w.heap.size w w' := by
  cases h with
  | arr κ A n c hκ hn h =>
    clear hn h
    rcases hκ with rfl | rfl
    · go_enter Tryd.func10, Tryd.ntmps10
      go_wp2
      go_ret
      exact ⟨rfl, (Below.refl _ _).alloc (Nat.le_refl _) _⟩
    · go_enter Tryd.func10, Tryd.ntmps10
      go_wp2
      go_ret
      exact ⟨rfl, (Below.refl _ _).alloc (Nat.le_refl _) _⟩
  | wrd A c h =>
    clear h
    go_enter Tryd.func10, Tryd.ntmps10
    go_wp2
    go_ret
    exact ⟨rfl, (Below.refl _ _).alloc (Nat.le_refl _) _⟩
  | run A n c hn h =>
    clear hn h
    go_enter Tryd.func10, Tryd.ntmps10
    go_wp2
    go_ret
    exact ⟨rfl, (Below.refl _ _).alloc (Nat.le_refl _) _⟩

theorem arrayLen_c (p : Nat → Bool) (κ : Int) (A : Option Addr) (n c : Nat) (w : World) :
    Calls Tryd.prog 32 #[.agg #[.int .u8 κ, .slice A n c, .slice none 0 0, .slice none 0 0]] w fun e w' => e = .returned (.int .i64 n) ∧ Below w.heap.size w w' := by
  go_enter Tryd.func32, Tryd.ntmps32
  go_wp2
  go_ret
  exact ⟨rfl, (Below.refl _ _).alloc (Nat.le_refl _) _⟩
end Go.Proofs.YtfefmlnlicilbaaDoor
