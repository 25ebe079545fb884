/- Walks: the edges of two rows: passIf, left, pass. -/
import Derived.Test.YtfefmlnlicilbaaDoorF3
namespace Go.Proofs.YtfefmlnlicilbaaDoor
open Go.RowKit
set_option linter.unusedVariables false

theorem gs2_tail {w : World} {lo hi : Nat} {b off n c : Nat} {r : Rn} {l : List Rn} (h : Gs2 eR w lo hi (.slice (some ⟨b, off, none⟩) n c) (r :: l)) (hc : c ≠ 1) :
    Gs2 eR w lo hi (.slice (some ⟨b, off + 2, none⟩) l.length (c - 1)) l := by
  obtain ⟨b', off', c', e, hnc, hcm, h1, h2, hcell⟩ := h.form (by simp)
  have e1 := Option.some.inj (Value.slice.inj e).1
  have e2 := (Value.slice.inj e).2.2
  subst e2
  injection e1 with e3 e4
  subst e3 e4
  simp only [List.length_cons] at hnc
  refine ⟨_, _, rfl, fun e => (by cases e), by omega, by omega, fun _ => ⟨b, off + 2, rfl, h1, h2, fun j x hx => ?_⟩⟩
  have := hcell (j + 1) x hx
  rw [show off + 2 + 2 * j = off + 2 * (j + 1) by omega]
  exact this
theorem gs2_gone {w : World} {lo hi : Nat} {b off n c : Nat} {r : Rn} {l : List Rn} (h : Gs2 eR w lo hi (.slice (some ⟨b, off, none⟩) n c) (r :: l)) (hc : c = 1) :
    l = [] ∧ Gs2 eR w lo hi (.slice (some ⟨b, off, none⟩) l.length 0) l := by
  obtain ⟨b', off', c', e, hnc, hcm, h1, h2, hcell⟩ := h.form (by simp)
  have e2 := (Value.slice.inj e).2.2
  simp only [List.length_cons] at hnc
  have : l = [] := List.eq_nil_of_length_eq_zero (by omega)
  subst this
  exact ⟨rfl, _, _, rfl, fun e => (by cases e), Nat.le_refl _, Nat.zero_le _, fun h => absurd rfl h⟩

set_option maxHeartbeats 2000000 in
theorem passIf_a (g hi : Nat) (T : TypeId) (v u : Value) (y : Bool) (l : List Rn) (b : Bool) (at_ : Int) (w : World) (row : Row w g T #[v, .bool b, u, .bool y]) (hv : Gs2 eR w 0 hi v l) (hg : hi ≤ g) (hs : b = true → l ≠ []) (ha : at_ ≤ 131071) :
    Calls Tryd.prog 96 #[.pointer (some ⟨g, 0, none⟩), .int .i64 at_] w fun e w' => e = .returned (.tuple #[]) ∧ ∃ v', Row w' g T #[v', .bool (psf (l, b) at_).2, u, .bool y] ∧ Gs2 eR w' 0 hi v' (psf (l, b) at_).1 ∧ w.grownBy w' (some g) := by
  have hlt := row.lt
  have r0 : w.cell? ⟨g, 0, none⟩ = some v := by rw [row.cell]; rfl
  have r1 : w.cell? ⟨g, 1, none⟩ = some (.bool b) := by rw [row.cell]; rfl
  have f0 := row.frozen 0
  have f1 := row.frozen 1
  have hlen := hv.len
  have E := Lib.hid (edge_any g 0 hi v l b w r0 r1 hv (by omega))
  have R := Lib.hid row
  have V := Lib.hid hv
  obtain ⟨ed, hed⟩ : ∃ ed, ed = edg l b := ⟨_, rfl⟩
  rw [← hed] at E
  by_cases he : ed = at_
  · have hp : psf (l, b) at_ = (if b = true then l.tail else l, !b) := by unfold psf; rw [if_pos (by rw [← hed, he])]
    have hdec : ((ed : Int) != at_) = false := by simp [he]
    rw [hp]
    cases l with
    | nil => rw [edg_nil] at hed; omega
    | cons r l =>
      obtain ⟨A, c, rfl, -⟩ := id hv
      obtain ⟨bb, off, rfl, -, hbb, c0, c1⟩ := gs2_head hv
      obtain ⟨_, _, _, ez, hnc, hcm, -⟩ := hv.form (by simp)
      have ez2 := (Value.slice.inj ez).2.2
      subst ez2
      have hn1 : (1 : Int) ≤ ((l.length + 1 : Nat) : Int) := by omega
      have hnc2 : l.length + 1 ≤ c := hnc
      have hcm2 : c ≤ 9223372036854775807 := hcm
      simp only [List.length_cons] at r0 E R
      have HED := Lib.hid hed
      clear hed hp row hnc hcm ez c0 c1
      cases b with
      | false =>
        have hb : (!false) = true := rfl
        clear hv
        go_enter Tryd.func96, Tryd.ntmps96
        go_wp2_with (go_at_call 95; refine E.out.mono ?_; rintro e w9 ⟨rfl, b9⟩; have k1 := (b9.cell (p := ⟨g, 1, none⟩) hlt).trans r1; have k2 := (b9.frozen (p := ⟨g, 1, none⟩) hlt).trans f1; have B9 := Lib.hid b9; clear b9)
        go_end0
        have R9 := R.out.below B9.out hlt
        exact ⟨rfl, _, R9.set_ 1 _, (V.out.below (B9.out.mono (by omega))).grown (grown_set _ _ _ _) (by have := B9.out.size; omega) (by intro k hk; injection hk with hk; omega), ((grown_of_below B9.out).but _).trans (grown_set _ _ _ _)⟩
      | true =>
        by_cases hc : c = 1
        · obtain ⟨hl0, hgn⟩ := gs2_gone hv hc
          have HG := Lib.hid hgn
          clear hv hgn
          subst hc hl0
          go_enter Tryd.func96, Tryd.ntmps96
          go_wp2_with (go_at_call 95; refine E.out.mono ?_; rintro e w9 ⟨rfl, b9⟩; have k0 := (b9.cell (p := ⟨g, 0, none⟩) hlt).trans r0; have k1 := (b9.cell (p := ⟨g, 1, none⟩) hlt).trans r1; have k2 := (b9.frozen (p := ⟨g, 1, none⟩) hlt).trans f1; have k3 := (b9.frozen (p := ⟨g, 0, none⟩) hlt).trans f0; have B9 := Lib.hid b9; clear b9)
          go_end0
          have R9 := R.out.below B9.out hlt
          exact ⟨rfl, _, (R9.set_ 0 _).set_ 1 _, (HG.out.below (B9.out.mono (by omega))).grown (row := some g) (World.grownBy.trans (grown_set _ _ _ _) (grown_set _ _ _ _)) (by have := B9.out.size; omega) (by intro k hk; injection hk with hk; omega), World.grownBy.trans ((grown_of_below B9.out).but _) (World.grownBy.trans (grown_set _ _ _ _) (grown_set _ _ _ _))⟩
        · have HG := Lib.hid (gs2_tail hv hc)
          have hc2 : (c : Int) ≠ 1 := by omega
          clear hv
          go_enter Tryd.func96, Tryd.ntmps96
          go_wp2_with (go_at_call 95; refine E.out.mono ?_; rintro e w9 ⟨rfl, b9⟩; have k0 := (b9.cell (p := ⟨g, 0, none⟩) hlt).trans r0; have k1 := (b9.cell (p := ⟨g, 1, none⟩) hlt).trans r1; have k2 := (b9.frozen (p := ⟨g, 1, none⟩) hlt).trans f1; have k3 := (b9.frozen (p := ⟨g, 0, none⟩) hlt).trans f0; have B9 := Lib.hid b9; clear b9)
          go_end0
          have R9 := R.out.below B9.out hlt
          exact ⟨rfl, _, (R9.set_ 0 _).set_ 1 _, (HG.out.below (B9.out.mono (by omega))).grown (row := some g) (World.grownBy.trans (grown_set _ _ _ _) (grown_set _ _ _ _)) (by have := B9.out.size; omega) (by intro k hk; injection hk with hk; omega), World.grownBy.trans ((grown_of_below B9.out).but _) (World.grownBy.trans (grown_set _ _ _ _) (grown_set _ _ _ _))⟩
  · have hp : psf (l, b) at_ = (l, b) := by unfold psf; rw [if_neg (by rw [← hed]; exact he)]
    have hdec : ((ed : Int) != at_) = true := by simp [he]
    rw [hp]
    have HED := Lib.hid hed
    obtain ⟨A, c, rfl, -⟩ := id hv
    clear hed hp row hv r0 r1
    go_enter Tryd.func96, Tryd.ntmps96
    go_wp2_with (go_at_call 95; refine E.out.mono ?_; rintro e w9 ⟨rfl, b9⟩; have B9 := Lib.hid b9; clear b9)
    (try simp only [Exit.inBlock, Exit.then]); refine bodyPost_ret (results_none rfl _ _ _) rfl ?_
    exact ⟨rfl, _, R.out.below B9.out hlt, V.out.below (B9.out.mono (by omega)), (grown_of_below B9.out).but _⟩

set_option maxHeartbeats 2000000 in
theorem passIf_b (g hi : Nat) (T : TypeId) (v u : Value) (y : Bool) (l : List Rn) (b : Bool) (at_ : Int) (w : World) (row : Row w g T #[u, .bool y, v, .bool b]) (hv : Gs2 eR w 0 hi v l) (hg : hi ≤ g) (hs : b = true → l ≠ []) (ha : at_ ≤ 131071) :
    Calls Tryd.prog 96 #[.pointer (some ⟨g, 2, none⟩), .int .i64 at_] w fun e w' => e = .returned (.tuple #[]) ∧ ∃ v', Row w' g T #[u, .bool y, v', .bool (psf (l, b) at_).2] ∧ Gs2 eR w' 0 hi v' (psf (l, b) at_).1 ∧ w.grownBy w' (some g) := by
  have hlt := row.lt
  have r0 : w.cell? ⟨g, 2, none⟩ = some v := by rw [row.cell]; rfl
  have r1 : w.cell? ⟨g, 3, none⟩ = some (.bool b) := by rw [row.cell]; rfl
  have f0 := row.frozen 2
  have f1 := row.frozen 3
  have hlen := hv.len
  have E := Lib.hid (edge_any g 2 hi v l b w r0 r1 hv (by omega))
  have R := Lib.hid row
  have V := Lib.hid hv
  obtain ⟨ed, hed⟩ : ∃ ed, ed = edg l b := ⟨_, rfl⟩
  rw [← hed] at E
  by_cases he : ed = at_
  · have hp : psf (l, b) at_ = (if b = true then l.tail else l, !b) := by unfold psf; rw [if_pos (by rw [← hed, he])]
    have hdec : ((ed : Int) != at_) = false := by simp [he]
    rw [hp]
    cases l with
    | nil => rw [edg_nil] at hed; omega
    | cons r l =>
      obtain ⟨A, c, rfl, -⟩ := id hv
      obtain ⟨bb, off, rfl, -, hbb, c0, c1⟩ := gs2_head hv
      obtain ⟨_, _, _, ez, hnc, hcm, -⟩ := hv.form (by simp)
      have ez2 := (Value.slice.inj ez).2.2
      subst ez2
      have hn1 : (1 : Int) ≤ ((l.length + 1 : Nat) : Int) := by omega
      have hnc2 : l.length + 1 ≤ c := hnc
      have hcm2 : c ≤ 9223372036854775807 := hcm
      simp only [List.length_cons] at r0 E R
      have HED := Lib.hid hed
      clear hed hp row hnc hcm ez c0 c1
      cases b with
      | false =>
        have hb : (!false) = true := rfl
        clear hv
        go_enter Tryd.func96, Tryd.ntmps96
        go_wp2_with (go_at_call 95; refine E.out.mono ?_; rintro e w9 ⟨rfl, b9⟩; have k1 := (b9.cell (p := ⟨g, 3, none⟩) hlt).trans r1; have k2 := (b9.frozen (p := ⟨g, 3, none⟩) hlt).trans f1; have B9 := Lib.hid b9; clear b9)
        go_end0
        have R9 := R.out.below B9.out hlt
        exact ⟨rfl, _, R9.set_ 3 _, (V.out.below (B9.out.mono (by omega))).grown (grown_set _ _ _ _) (by have := B9.out.size; omega) (by intro k hk; injection hk with hk; omega), ((grown_of_below B9.out).but _).trans (grown_set _ _ _ _)⟩
      | true =>
        by_cases hc : c = 1
        · obtain ⟨hl0, hgn⟩ := gs2_gone hv hc
          have HG := Lib.hid hgn
          clear hv hgn
          subst hc hl0
          go_enter Tryd.func96, Tryd.ntmps96
          go_wp2_with (go_at_call 95; refine E.out.mono ?_; rintro e w9 ⟨rfl, b9⟩; have k0 := (b9.cell (p := ⟨g, 2, none⟩) hlt).trans r0; have k1 := (b9.cell (p := ⟨g, 3, none⟩) hlt).trans r1; have k2 := (b9.frozen (p := ⟨g, 3, none⟩) hlt).trans f1; have k3 := (b9.frozen (p := ⟨g, 2, none⟩) hlt).trans f0; have B9 := Lib.hid b9; clear b9)
          go_end0
          have R9 := R.out.below B9.out hlt
          exact ⟨rfl, _, (R9.set_ 2 _).set_ 3 _, (HG.out.below (B9.out.mono (by omega))).grown (row := some g) (World.grownBy.trans (grown_set _ _ _ _) (grown_set _ _ _ _)) (by have := B9.out.size; omega) (by intro k hk; injection hk with hk; omega), World.grownBy.trans ((grown_of_below B9.out).but _) (World.grownBy.trans (grown_set _ _ _ _) (grown_set _ _ _ _))⟩
        · have HG := Lib.hid (gs2_tail hv hc)
          have hc2 : (c : Int) ≠ 1 := by omega
          clear hv
          go_enter Tryd.func96, Tryd.ntmps96
          go_wp2_with (go_at_call 95; refine E.out.mono ?_; rintro e w9 ⟨rfl, b9⟩; have k0 := (b9.cell (p := ⟨g, 2, none⟩) hlt).trans r0; have k1 := (b9.cell (p := ⟨g, 3, none⟩) hlt).trans r1; have k2 := (b9.frozen (p := ⟨g, 3, none⟩) hlt).trans f1; have k3 := (b9.frozen (p := ⟨g, 2, none⟩) hlt).trans f0; have B9 := Lib.hid b9; clear b9)
          go_end0
          have R9 := R.out.below B9.out hlt
          exact ⟨rfl, _, (R9.set_ 2 _).set_ 3 _, (HG.out.below (B9.out.mono (by omega))).grown (row := some g) (World.grownBy.trans (grown_set _ _ _ _) (grown_set _ _ _ _)) (by have := B9.out.size; omega) (by intro k hk; injection hk with hk; omega), World.grownBy.trans ((grown_of_below B9.out).but _) (World.grownBy.trans (grown_set _ _ _ _) (grown_set _ _ _ _))⟩
  · have hp : psf (l, b) at_ = (l, b) := by unfold psf; rw [if_neg (by rw [← hed]; exact he)]
    have hdec : ((ed : Int) != at_) = true := by simp [he]
    rw [hp]
    have HED := Lib.hid hed
    obtain ⟨A, c, rfl, -⟩ := id hv
    clear hed hp row hv r0 r1
    go_enter Tryd.func96, Tryd.ntmps96
    go_wp2_with (go_at_call 95; refine E.out.mono ?_; rintro e w9 ⟨rfl, b9⟩; have B9 := Lib.hid b9; clear b9)
    (try simp only [Exit.inBlock, Exit.then]); refine bodyPost_ret (results_none rfl _ _ _) rfl ?_
    exact ⟨rfl, _, R.out.below B9.out hlt, V.out.below (B9.out.mono (by omega)), (grown_of_below B9.out).but _⟩

/-- Block g has the edges ahead of two rows: the runs that are left, and whether the first one has begun. -/
def Ed (w : World) (hi g : Nat) (a b : List Rn × Bool) : Prop :=
  hi ≤ g ∧ ∃ va vb, Row w g 113 #[va, .bool a.2, vb, .bool b.2] ∧ Gs2 eR w 0 hi va a.1 ∧ Gs2 eR w 0 hi vb b.1
theorem Ed.grown {w w' : World} {hi g : Nat} {a b : List Rn × Bool} {row : Option Nat} (h : Ed w hi g a b) (hg : w.grownBy w' row) (h1 : row ≠ some g) (h2 : ∀ k, row = some k → hi ≤ k) : Ed w' hi g a b := by
  obtain ⟨h0, va, vb, hr, hA, hB⟩ := h
  have hl := hr.lt
  exact ⟨h0, va, vb, hr.grown hg h1, hA.grown hg (by omega) (fun k hk => .inr (h2 k hk)), hB.grown hg (by omega) (fun k hk => .inr (h2 k hk))⟩
theorem Ed.below {w w' : World} {hi g : Nat} {a b : List Rn × Bool} (h : Ed w hi g a b) (hb : Below w.heap.size w w') : Ed w' hi g a b := h.grown (grown_of_below hb) (by simp) (fun k hk => by cases hk)
theorem Ed.drewN {w : World} {hi g : Nat} {a b : List Rn × Bool} (h : Ed w hi g a b) (n : Nat) : Ed (w.drewN n) hi g a b := h
theorem Ed.lt {w : World} {hi g : Nat} {a b : List Rn × Bool} (h : Ed w hi g a b) : g < w.heap.size := let ⟨_, _, _, hr, _⟩ := h; hr.lt
theorem Ed.ge {w : World} {hi g : Nat} {a b : List Rn × Bool} (h : Ed w hi g a b) : hi ≤ g := h.1
set_option maxHeartbeats 1000000 in
theorem left_any (g hi : Nat) (a b : List Rn × Bool) (w : World) (h : Ed w hi g a b) :
    Calls Tryd.prog 92 #[.pointer (some ⟨g, 0, none⟩)] w fun e w' => e = .returned (.bool !(decide (a.1 = [] ∧ b.1 = []))) ∧ w' = w := by
  obtain ⟨h0, va, vb, hr, hA, hB⟩ := h
  have r0 : w.cell? ⟨g, 0, none⟩ = some va := by rw [hr.cell]; rfl
  have r2 : w.cell? ⟨g, 2, none⟩ = some vb := by rw [hr.cell]; rfl
  have la := hA.len
  have lb := hB.len
  obtain ⟨l, x⟩ := a
  obtain ⟨m, y⟩ := b
  obtain ⟨A, c, rfl, -⟩ := hA
  obtain ⟨B, d, rfl, -⟩ := hB
  simp only at r0 r2 la lb ⊢
  clear hr
  by_cases hl : l = []
  · subst hl
    by_cases hm : m = []
    · subst hm
      rw [decide_eq_true ⟨rfl, rfl⟩]
      go_enter Tryd.func92, Tryd.ntmps92
      go_wp2
      go_ret
      exact ⟨rfl, rfl⟩
    · have hm2 : 0 < m.length := List.length_pos_iff.2 hm
      have hm3 : (m.length : Int) > 0 := by omega
      rw [decide_eq_false (by rintro ⟨-, e⟩; exact hm e)]
      have hm4 := decide_eq_true hm2
      clear hm
      go_enter Tryd.func92, Tryd.ntmps92
      go_wp2
      go_ret
      exact ⟨rfl, rfl⟩
  · have hl2 : 0 < l.length := List.length_pos_iff.2 hl
    have hl3 : (l.length : Int) > 0 := by omega
    rw [decide_eq_false (by rintro ⟨e, -⟩; exact hl e)]
    have hl4 := decide_eq_true hl2
    clear hl
    go_enter Tryd.func92, Tryd.ntmps92
    go_wp2
    go_ret
    exact ⟨rfl, rfl⟩
end Go.Proofs.YtfefmlnlicilbaaDoor
