/- Runs: Rank (cut from stages 4 to 6) -/
import Derived.Test.YtponcpneflhpfaaGreatDoorSa7
import Derived.Test.YtponcpneflhpfaaGreatDoorSa6
import Derived.Shelf.Abstract
import Derived.Deep.LoopGhost
namespace Go.Proofs.YtponcpneflhpfaaGreatDoor
open Go.RowKit
set_option linter.unusedVariables false

theorem gs2_tail {w : World} {lo hi : Nat} {b off n c : Nat} {r : Rn} {l : List Rn} (h : Gs2 eR w lo hi (.slice (some ⟨b, off, none⟩) n c) (r :: l)) (hc : c ≠ 1) :
    Gs2 eR w lo hi (.slice (some ⟨b, off + 2, none⟩) l.length (c - 1)) l := by
  obtain ⟨b', off', c', e, hnc, hcm, h1, h2, hcell⟩ := h.form (by simp)
  have e1 := Option.some.inj (Value.slice.inj e).1
  have e2 := (Value.slice.inj e).2.2
  subst e2
  injection e1 with e3 e4
  subst e3 e4
  simp only [List.length_cons] at hnc
  refine ⟨_, _, rfl, fun e => (by cases e), by omega, by omega, fun _ => ⟨b, off + 2, rfl, h1, h2, fun j x hx => ?_⟩⟩
  have := hcell (j + 1) x hx
  rw [show off + 2 + 2 * j = off + 2 * (j + 1) by omega]
  exact this
theorem gs2_gone {w : World} {lo hi : Nat} {b off n c : Nat} {r : Rn} {l : List Rn} (h : Gs2 eR w lo hi (.slice (some ⟨b, off, none⟩) n c) (r :: l)) (hc : c = 1) :
    l = [] ∧ Gs2 eR w lo hi (.slice (some ⟨b, off, none⟩) l.length 0) l := by
  obtain ⟨b', off', c', e, hnc, hcm, h1, h2, hcell⟩ := h.form (by simp)
  have e2 := (Value.slice.inj e).2.2
  simp only [List.length_cons] at hnc
  have : l = [] := List.eq_nil_of_length_eq_zero (by omega)
  subst this
  exact ⟨rfl, _, _, rfl, fun e => (by cases e), Nat.le_refl _, Nat.zero_le _, fun h => absurd rfl h⟩

set_option maxHeartbeats 2000000 in
theorem passIf_a (g hi : Nat) (T : TypeId) (v u : Value) (y : Bool) (l : List Rn) (b : Bool) (at_ : Int) (w : World) (row : Row w g T #[v, .bool b, u, .bool y]) (hv : Gs2 eR w 0 hi v l) (hg : hi ≤ g) (hs : b = true → l ≠ []) (ha : at_ ≤ 131071) :
    Calls Tryz.prog 316 #[.pointer (some ⟨g, 0, none⟩), .int .i64 at_] w fun e w' => e = .returned (.tuple #[]) ∧ ∃ v', Row w' g T #[v', .bool (psf (l, b) at_).2, u, .bool y] ∧ Gs2 eR w' 0 hi v' (psf (l, b) at_).1 ∧ w.grownBy w' (some g) := by
  have hlt := row.lt
  have r0 : w.cell? ⟨g, 0, none⟩ = some v := by rw [row.cell]; rfl
  have r1 : w.cell? ⟨g, 1, none⟩ = some (.bool b) := by rw [row.cell]; rfl
  have f0 := row.frozen 0
  have f1 := row.frozen 1
  have hlen := hv.len
  have E := Lib.hid (edge_any g 0 hi v l b w r0 r1 hv (by omega))
  have R := Lib.hid row
  have V := Lib.hid hv
  obtain ⟨ed, hed⟩ : ∃ ed, ed = edg l b := ⟨_, rfl⟩
  rw [← hed] at E
  by_cases he : ed = at_
  · have hp : psf (l, b) at_ = (if b = true then l.tail else l, !b) := by unfold psf; rw [if_pos (by rw [← hed, he])]
    have hdec : ((ed : Int) != at_) = false := by simp [he]
    rw [hp]
    cases l with
    | nil => rw [edg_nil] at hed; omega
    | cons r l =>
      obtain ⟨A, c, rfl, -⟩ := id hv
      obtain ⟨bb, off, rfl, -, hbb, c0, c1⟩ := gs2_head hv
      obtain ⟨_, _, _, ez, hnc, hcm, -⟩ := hv.form (by simp)
      have ez2 := (Value.slice.inj ez).2.2
      subst ez2
      have hn1 : (1 : Int) ≤ ((l.length + 1 : Nat) : Int) := by omega
      have hnc2 : l.length + 1 ≤ c := hnc
      have hcm2 : c ≤ 9223372036854775807 := hcm
      simp only [List.length_cons] at r0 E R
      have HED := Lib.hid hed
      clear hed hp row hnc hcm ez c0 c1
      cases b with
      | false =>
        have hb : (!false) = true := rfl
        clear hv
        go_enter Tryz.func316, Tryz.ntmps316
        go_wp2_with (go_at_call 315; refine E.out.mono ?_; rintro e w9 ⟨rfl, b9⟩; have k1 := (b9.cell (p := ⟨g, 1, none⟩) hlt).trans r1; have k2 := (b9.frozen (p := ⟨g, 1, none⟩) hlt).trans f1; have B9 := Lib.hid b9; clear b9)
        go_end0
        have R9 := R.out.below B9.out hlt
        exact ⟨rfl, _, R9.set_ 1 _, (V.out.below (B9.out.mono (by omega))).grown (grown_set _ _ _ _) (by have := B9.out.size; omega) (by intro k hk; injection hk with hk; omega), ((grown_of_below B9.out).but _).trans (grown_set _ _ _ _)⟩
      | true =>
        by_cases hc : c = 1
        · obtain ⟨hl0, hgn⟩ := gs2_gone hv hc
          have HG := Lib.hid hgn
          clear hv hgn
          subst hc hl0
          go_enter Tryz.func316, Tryz.ntmps316
          go_wp2_with (go_at_call 315; refine E.out.mono ?_; rintro e w9 ⟨rfl, b9⟩; have k0 := (b9.cell (p := ⟨g, 0, none⟩) hlt).trans r0; have k1 := (b9.cell (p := ⟨g, 1, none⟩) hlt).trans r1; have k2 := (b9.frozen (p := ⟨g, 1, none⟩) hlt).trans f1; have k3 := (b9.frozen (p := ⟨g, 0, none⟩) hlt).trans f0; have B9 := Lib.hid b9; clear b9)
          go_end0
          have R9 := R.out.below B9.out hlt
          exact ⟨rfl, _, (R9.set_ 0 _).set_ 1 _, (HG.out.below (B9.out.mono (by omega))).grown (row := some g) (World.grownBy.trans (grown_set _ _ _ _) (grown_set _ _ _ _)) (by have := B9.out.size; omega) (by intro k hk; injection hk with hk; omega), World.grownBy.trans ((grown_of_below B9.out).but _) (World.grownBy.trans (grown_set _ _ _ _) (grown_set _ _ _ _))⟩
        · have HG := Lib.hid (gs2_tail hv hc)
          have hc2 : (c : Int) ≠ 1 := by omega
          clear hv
          go_enter Tryz.func316, Tryz.ntmps316
          go_wp2_with (go_at_call 315; refine E.out.mono ?_; rintro e w9 ⟨rfl, b9⟩; have k0 := (b9.cell (p := ⟨g, 0, none⟩) hlt).trans r0; have k1 := (b9.cell (p := ⟨g, 1, none⟩) hlt).trans r1; have k2 := (b9.frozen (p := ⟨g, 1, none⟩) hlt).trans f1; have k3 := (b9.frozen (p := ⟨g, 0, none⟩) hlt).trans f0; have B9 := Lib.hid b9; clear b9)
          go_end0
          have R9 := R.out.below B9.out hlt
          exact ⟨rfl, _, (R9.set_ 0 _).set_ 1 _, (HG.out.below (B9.out.mono (by omega))).grown (row := some g) (World.grownBy.trans (grown_set _ _ _ _) (grown_set _ _ _ _)) (by have := B9.out.size; omega) (by intro k hk; injection hk with hk; omega), World.grownBy.trans ((grown_of_below B9.out).but _) (World.grownBy.trans (grown_set _ _ _ _) (grown_set _ _ _ _))⟩
  · have hp : psf (l, b) at_ = (l, b) := by unfold psf; rw [if_neg (by rw [← hed]; exact he)]
    have hdec : ((ed : Int) != at_) = true := by simp [he]
    rw [hp]
    have HED := Lib.hid hed
    obtain ⟨A, c, rfl, -⟩ := id hv
    clear hed hp row hv r0 r1
    go_enter Tryz.func316, Tryz.ntmps316
    go_wp2_with (go_at_call 315; refine E.out.mono ?_; rintro e w9 ⟨rfl, b9⟩; have B9 := Lib.hid b9; clear b9)
    (try simp only [Exit.inBlock, Exit.then]); refine bodyPost_ret (results_none rfl _ _ _) rfl ?_
    exact ⟨rfl, _, R.out.below B9.out hlt, V.out.below (B9.out.mono (by omega)), (grown_of_below B9.out).but _⟩

set_option maxHeartbeats 2000000 in
theorem passIf_b (g hi : Nat) (T : TypeId) (v u : Value) (y : Bool) (l : List Rn) (b : Bool) (at_ : Int) (w : World) (row : Row w g T #[u, .bool y, v, .bool b]) (hv : Gs2 eR w 0 hi v l) (hg : hi ≤ g) (hs : b = true → l ≠ []) (ha : at_ ≤ 131071) :
    Calls Tryz.prog 316 #[.pointer (some ⟨g, 2, none⟩), .int .i64 at_] w fun e w' => e = .returned (.tuple #[]) ∧ ∃ v', Row w' g T #[u, .bool y, v', .bool (psf (l, b) at_).2] ∧ Gs2 eR w' 0 hi v' (psf (l, b) at_).1 ∧ w.grownBy w' (some g) := by
  have hlt := row.lt
  have r0 : w.cell? ⟨g, 2, none⟩ = some v := by rw [row.cell]; rfl
  have r1 : w.cell? ⟨g, 3, none⟩ = some (.bool b) := by rw [row.cell]; rfl
  have f0 := row.frozen 2
  have f1 := row.frozen 3
  have hlen := hv.len
  have E := Lib.hid (edge_any g 2 hi v l b w r0 r1 hv (by omega))
  have R := Lib.hid row
  have V := Lib.hid hv
  obtain ⟨ed, hed⟩ : ∃ ed, ed = edg l b := ⟨_, rfl⟩
  rw [← hed] at E
  by_cases he : ed = at_
  · have hp : psf (l, b) at_ = (if b = true then l.tail else l, !b) := by unfold psf; rw [if_pos (by rw [← hed, he])]
    have hdec : ((ed : Int) != at_) = false := by simp [he]
    rw [hp]
    cases l with
    | nil => rw [edg_nil] at hed; omega
    | cons r l =>
      obtain ⟨A, c, rfl, -⟩ := id hv
      obtain ⟨bb, off, rfl, -, hbb, c0, c1⟩ := gs2_head hv
      obtain ⟨_, _, _, ez, hnc, hcm, -⟩ := hv.form (by simp)
      have ez2 := (Value.slice.inj ez).2.2
      subst ez2
      have hn1 : (1 : Int) ≤ ((l.length + 1 : Nat) : Int) := by omega
      have hnc2 : l.length + 1 ≤ c := hnc
      have hcm2 : c ≤ 9223372036854775807 := hcm
      simp only [List.length_cons] at r0 E R
      have HED := Lib.hid hed
      clear hed hp row hnc hcm ez c0 c1
      cases b with
      | false =>
        have hb : (!false) = true := rfl
        clear hv
        go_enter Tryz.func316, Tryz.ntmps316
        go_wp2_with (go_at_call 315; refine E.out.mono ?_; rintro e w9 ⟨rfl, b9⟩; have k1 := (b9.cell (p := ⟨g, 3, none⟩) hlt).trans r1; have k2 := (b9.frozen (p := ⟨g, 3, none⟩) hlt).trans f1; have B9 := Lib.hid b9; clear b9)
        go_end0
        have R9 := R.out.below B9.out hlt
        exact ⟨rfl, _, R9.set_ 3 _, (V.out.below (B9.out.mono (by omega))).grown (grown_set _ _ _ _) (by have := B9.out.size; omega) (by intro k hk; injection hk with hk; omega), ((grown_of_below B9.out).but _).trans (grown_set _ _ _ _)⟩
      | true =>
        by_cases hc : c = 1
        · obtain ⟨hl0, hgn⟩ := gs2_gone hv hc
          have HG := Lib.hid hgn
          clear hv hgn
          subst hc hl0
          go_enter Tryz.func316, Tryz.ntmps316
          go_wp2_with (go_at_call 315; refine E.out.mono ?_; rintro e w9 ⟨rfl, b9⟩; have k0 := (b9.cell (p := ⟨g, 2, none⟩) hlt).trans r0; have k1 := (b9.cell (p := ⟨g, 3, none⟩) hlt).trans r1; have k2 := (b9.frozen (p := ⟨g, 3, none⟩) hlt).trans f1; have k3 := (b9.frozen (p := ⟨g, 2, none⟩) hlt).trans f0; have B9 := Lib.hid b9; clear b9)
          go_end0
          have R9 := R.out.below B9.out hlt
          exact ⟨rfl, _, (R9.set_ 2 _).set_ 3 _, (HG.out.below (B9.out.mono (by omega))).grown (row := some g) (World.grownBy.trans (grown_set _ _ _ _) (grown_set _ _ _ _)) (by have := B9.out.size; omega) (by intro k hk; injection hk with hk; omega), World.grownBy.trans ((grown_of_below B9.out).but _) (World.grownBy.trans (grown_set _ _ _ _) (grown_set _ _ _ _))⟩
        · have HG := Lib.hid (gs2_tail hv hc)
          have hc2 : (c : Int) ≠ 1 := by omega
          clear hv
          go_enter Tryz.func316, Tryz.ntmps316
          go_wp2_with (go_at_call 315; refine E.out.mono ?_; rintro e w9 ⟨rfl, b9⟩; have k0 := (b9.cell (p := ⟨g, 2, none⟩) hlt).trans r0; have k1 := (b9.cell (p := ⟨g, 3, none⟩) hlt).trans r1; have k2 := (b9.frozen (p := ⟨g, 3, none⟩) hlt).trans f1; have k3 := (b9.frozen (p := ⟨g, 2, none⟩) hlt).trans f0; have B9 := Lib.hid b9; clear b9)
          go_end0
          have R9 := R.out.below B9.out hlt
          exact ⟨rfl, _, (R9.set_ 2 _).set_ 3 _, (HG.out.below (B9.out.mono (by omega))).grown (row := some g) (World.grownBy.trans (grown_set _ _ _ _) (grown_set _ _ _ _)) (by have := B9.out.size; omega) (by intro k hk; injection hk with hk; omega), World.grownBy.trans ((grown_of_below B9.out).but _) (World.grownBy.trans (grown_set _ _ _ _) (grown_set _ _ _ _))⟩
  · have hp : psf (l, b) at_ = (l, b) := by unfold psf; rw [if_neg (by rw [← hed]; exact he)]
    have hdec : ((ed : Int) != at_) = true := by simp [he]
    rw [hp]
    have HED := Lib.hid hed
    obtain ⟨A, c, rfl, -⟩ := id hv
    clear hed hp row hv r0 r1
    go_enter Tryz.func316, Tryz.ntmps316
    go_wp2_with (go_at_call 315; refine E.out.mono ?_; rintro e w9 ⟨rfl, b9⟩; have B9 := Lib.hid b9; clear b9)
    (try simp only [Exit.inBlock, Exit.then]); refine bodyPost_ret (results_none rfl _ _ _) rfl ?_
    exact ⟨rfl, _, R.out.below B9.out hlt, V.out.below (B9.out.mono (by omega)), (grown_of_below B9.out).but _⟩

/-- Block g has the edges ahead of two rows: the runs that are left, and whether the first one has begun. -/
def Ed (w : World) (hi g : Nat) (a b : List Rn × Bool) : Prop :=
  hi ≤ g ∧ ∃ va vb, Row w g 278 #[va, .bool a.2, vb, .bool b.2] ∧ Gs2 eR w 0 hi va a.1 ∧ Gs2 eR w 0 hi vb b.1
theorem Ed.grown {w w' : World} {hi g : Nat} {a b : List Rn × Bool} {row : Option Nat} (h : Ed w hi g a b) (hg : w.grownBy w' row) (h1 : row ≠ some g) (h2 : ∀ k, row = some k → hi ≤ k) : Ed w' hi g a b := by
  obtain ⟨h0, va, vb, hr, hA, hB⟩ := h
  have hl := hr.lt
  exact ⟨h0, va, vb, hr.grown hg h1, hA.grown hg (by omega) (fun k hk => .inr (h2 k hk)), hB.grown hg (by omega) (fun k hk => .inr (h2 k hk))⟩
theorem Ed.below {w w' : World} {hi g : Nat} {a b : List Rn × Bool} (h : Ed w hi g a b) (hb : Below w.heap.size w w') : Ed w' hi g a b := h.grown (grown_of_below hb) (by simp) (fun k hk => by cases hk)
theorem Ed.drewN {w : World} {hi g : Nat} {a b : List Rn × Bool} (h : Ed w hi g a b) (n : Nat) : Ed (w.drewN n) hi g a b := h
theorem Ed.lt {w : World} {hi g : Nat} {a b : List Rn × Bool} (h : Ed w hi g a b) : g < w.heap.size := let ⟨_, _, _, hr, _⟩ := h; hr.lt
theorem Ed.ge {w : World} {hi g : Nat} {a b : List Rn × Bool} (h : Ed w hi g a b) : hi ≤ g := h.1
set_option maxHeartbeats 1000000 in
theorem left_any (g hi : Nat) (a b : List Rn × Bool) (w : World) (h : Ed w hi g a b) :
    Calls Tryz.prog 271 #[.pointer (some ⟨g, 0, none⟩)] w fun e w' => e = .returned (.bool !(decide (a.1 = [] ∧ b.1 = []))) ∧ w' = w := by
  obtain ⟨h0, va, vb, hr, hA, hB⟩ := h
  have r0 : w.cell? ⟨g, 0, none⟩ = some va := by rw [hr.cell]; rfl
  have r2 : w.cell? ⟨g, 2, none⟩ = some vb := by rw [hr.cell]; rfl
  have la := hA.len
  have lb := hB.len
  obtain ⟨l, x⟩ := a
  obtain ⟨m, y⟩ := b
  obtain ⟨A, c, rfl, -⟩ := hA
  obtain ⟨B, d, rfl, -⟩ := hB
  simp only at r0 r2 la lb ⊢
  clear hr
  by_cases hl : l = []
  · subst hl
    by_cases hm : m = []
    · subst hm
      rw [decide_eq_true ⟨rfl, rfl⟩]
      go_enter Tryz.func271, Tryz.ntmps271
      go_wp2
      go_ret
      exact ⟨rfl, rfl⟩
    · have hm2 : 0 < m.length := List.length_pos_iff.2 hm
      have hm3 : (m.length : Int) > 0 := by omega
      rw [decide_eq_false (by rintro ⟨-, e⟩; exact hm e)]
      have hm4 := decide_eq_true hm2
      clear hm
      go_enter Tryz.func271, Tryz.ntmps271
      go_wp2
      go_ret
      exact ⟨rfl, rfl⟩
  · have hl2 : 0 < l.length := List.length_pos_iff.2 hl
    have hl3 : (l.length : Int) > 0 := by omega
    rw [decide_eq_false (by rintro ⟨e, -⟩; exact hl e)]
    have hl4 := decide_eq_true hl2
    clear hl
    go_enter Tryz.func271, Tryz.ntmps271
    go_wp2
    go_ret
    exact ⟨rfl, rfl⟩
end Go.Proofs.YtponcpneflhpfaaGreatDoor
namespace Go.Proofs.YtponcpneflhpfaaGreatDoor
open Go.RowKit
set_option linter.unusedVariables false

theorem below_both {w W w' : World} (h : Below w.heap.size w W) (k : Below W.heap.size W w') : Below w.heap.size w w' := h.trans (k.mono h.size)
set_option maxHeartbeats 4000000 in
theorem pass_any (g hi : Nat) (a b : List Rn × Bool) (w : World) (h : Ed w hi g a b) (hn : ¬ (a.1 = [] ∧ b.1 = [])) (ka : sok a) (kb : sok b) :
    Calls Tryz.prog 272 #[.pointer (some ⟨g, 0, none⟩)] w fun e w' => e = .returned (.int .i64 (nxt a b)) ∧ Ed w' hi g (psf a (nxt a b)) (psf b (nxt a b)) ∧ w.grownBy w' (some g) := by
  have hnx := (nxt_lt hn).2
  obtain ⟨h0, va, vb, hr, hA, hB⟩ := h
  have hlt := hr.lt
  have E0 : ∀ W, Below w.heap.size w W → Calls Tryz.prog 315 #[.pointer (some ⟨g, 0, none⟩)] W fun e w' => e = .returned (.int .i64 (edg a.1 a.2)) ∧ Below W.heap.size W w' := fun W hW => by
    refine (edge_any g 0 hi va a.1 a.2 W (by rw [(hr.below hW hlt).cell]; rfl) (by rw [(hr.below hW hlt).cell]; rfl) (hA.below (hW.mono (by omega))) (by have := hW.size; omega)).mono ?_
    rintro e w' ⟨rfl, hb⟩
    exact ⟨rfl, hb⟩
  have E2 : ∀ W, Below w.heap.size w W → Calls Tryz.prog 315 #[.pointer (some ⟨g, 2, none⟩)] W fun e w' => e = .returned (.int .i64 (edg b.1 b.2)) ∧ Below W.heap.size W w' := fun W hW => by
    refine (edge_any g 2 hi vb b.1 b.2 W (by rw [(hr.below hW hlt).cell]; rfl) (by rw [(hr.below hW hlt).cell]; rfl) (hB.below (hW.mono (by omega))) (by have := hW.size; omega)).mono ?_
    rintro e w' ⟨rfl, hb⟩
    exact ⟨rfl, hb⟩
  have P : ∀ W, Below w.heap.size w W → Calls Tryz.prog 316 #[.pointer (some ⟨g, 0, none⟩), .int .i64 (nxt a b)] W fun e w' => e = .returned (.tuple #[]) ∧ Ed w' hi g (psf a (nxt a b)) b ∧ W.grownBy w' (some g) := fun W hW => by
    have hB' := hB.below (hW.mono (by omega))
    refine (passIf_a g hi _ va vb b.2 a.1 a.2 (nxt a b) W (hr.below hW hlt) (hA.below (hW.mono (by omega))) h0 ka hnx).mono ?_
    rintro e w' ⟨rfl, v', r', g', gr⟩
    exact ⟨rfl, ⟨h0, v', vb, r', g', hB'.grown gr (by have := hW.size; omega) (by intro k hk; injection hk with hk; omega)⟩, gr⟩
  have hle := Int.le_total (edg a.1 a.2) (edg b.1 b.2)
  have hmin : nxt a b = if edg b.1 b.2 < edg a.1 a.2 then edg b.1 b.2 else edg a.1 a.2 := by unfold nxt; split <;> omega
  obtain ⟨ea, hea⟩ : ∃ ea, ea = edg a.1 a.2 := ⟨_, rfl⟩
  obtain ⟨eb, heb⟩ : ∃ eb, eb = edg b.1 b.2 := ⟨_, rfl⟩
  obtain ⟨n, hnn⟩ : ∃ n, n = nxt a b := ⟨_, rfl⟩
  rw [← hea] at E0
  rw [← heb] at E2
  rw [← hnn] at P hnx ⊢
  rw [← hea, ← heb, ← hnn] at hmin
  have Q : ∀ W, Ed W hi g (psf a n) b → Calls Tryz.prog 316 #[.pointer (some ⟨g, 2, none⟩), .int .i64 n] W fun e w' => e = .returned (.tuple #[]) ∧ Ed w' hi g (psf a n) (psf b n) ∧ W.grownBy w' (some g) := fun W hW => by
    obtain ⟨-, xa, xb, xr, xA, xB⟩ := hW
    refine (passIf_b g hi _ xb xa (psf a n).2 b.1 b.2 n W xr xB h0 kb hnx).mono ?_
    rintro e w' ⟨rfl, v', r', g', gr⟩
    exact ⟨rfl, ⟨h0, xa, v', r', xA.grown gr (by have := xr.lt; omega) (by intro k hk; injection hk with hk; omega), g'⟩, gr⟩
  have HE0 := Lib.hid E0
  have HE2 := Lib.hid E2
  have HP := Lib.hid P
  have HQ := Lib.hid Q
  have HN := Lib.hid hnn
  clear E0 E2 P Q hr hA hB hle hn ka kb hea heb hnn hnx h0
  rcases Int.lt_or_le eb ea with hlt2 | hlt2
  · rw [if_pos hlt2] at hmin
    have hd := decide_eq_true hlt2
    subst hmin
    go_enter Tryz.func272, Tryz.ntmps272
    go_wp2_with fail
    have hSc : Below w.heap.size w w.drew := (Below.refl _ _).drew
    refine wp_region_held_drew (S := fun W => Below w.heap.size w W) (by kernel_rfl) hSc (fun _ => ?_)
    refine held_take 0 ?_ rfl (by kernel_rfl) (by kernel_rfl) (by kernel_rfl) (fun _ _ _ h => h) (by rfl) ?_ hSc ?_
    rotate_left
    · (intro W hSW; go_simp; try rfl)
    try simp only [Act.put, List.setIfInBounds_toArray, List.set_cons_zero, List.set_cons_succ]
    refine held_take 1 ?_ rfl (by kernel_rfl) (by kernel_rfl) (by kernel_rfl) (fun _ _ _ h => h) (by rfl) ?_ hSc ?_
    rotate_left
    · (intro W hSW; go_simp; try rfl)
    try simp only [Act.put, List.setIfInBounds_toArray, List.set_cons_zero, List.set_cons_succ]
    refine held_take 2 ?_ rfl (by kernel_rfl) (by kernel_rfl) (by kernel_rfl) (fun _ _ _ h => h) (by rfl) ?_ hSc ?_
    rotate_left
    · (intro W hSW; go_simp; try rfl)
    try simp only [Act.put, List.setIfInBounds_toArray, List.set_cons_zero, List.set_cons_succ]
    refine held_take 4 ?_ rfl (by kernel_rfl) (by kernel_rfl) (by kernel_rfl) (fun _ _ _ h => h) (by rfl) ?_ hSc ?_
    rotate_left
    · (intro W hSW; go_simp; try rfl)
    try simp only [Act.put, List.setIfInBounds_toArray, List.set_cons_zero, List.set_cons_succ]
    refine held_take 5 ?_ rfl (by kernel_rfl) (by kernel_rfl) (by kernel_rfl) (fun _ _ _ h => h) (by rfl) ?_ hSc ?_
    rotate_left
    · (intro W hSW; go_simp; try rfl)
    try simp only [Act.put, List.setIfInBounds_toArray, List.set_cons_zero, List.set_cons_succ]
    refine held_take 6 ?_ rfl (by kernel_rfl) (by kernel_rfl) (by kernel_rfl) (fun _ _ _ h => h) (by rfl) ?_ hSc ?_
    rotate_left
    · (intro W hSW; go_simp; try rfl)
    try simp only [Act.put, List.setIfInBounds_toArray, List.set_cons_zero, List.set_cons_succ]
    refine held_next 3 rfl (by kernel_rfl) (by rfl) ?_
    go_simp
    refine (HE0.out _ hSc).mono ?_
    rintro e wq1 ⟨rfl, bq⟩
    have hbq : Below w.heap.size w wq1 := hSc.trans (bq.mono hSc.size)
    refine ⟨fun W => Below w.heap.size w W, fun W hW => hW, hbq, ?_⟩
    clear hSc bq
    have hSc : Below w.heap.size w wq1 := hbq
    clear hbq
    try simp only [Act.put, List.setIfInBounds_toArray, List.set_cons_zero, List.set_cons_succ]
    refine held_next 7 rfl (by kernel_rfl) (by rfl) ?_
    go_simp
    refine (HE2.out _ hSc).mono ?_
    rintro e wq2 ⟨rfl, bq⟩
    have hbq : Below w.heap.size w wq2 := hSc.trans (bq.mono hSc.size)
    refine ⟨fun W => Below w.heap.size w W, fun W hW => hW, hbq, ?_⟩
    clear hSc bq
    have hSc : Below w.heap.size w wq2 := hbq
    clear hbq
    try simp only [Act.put, List.setIfInBounds_toArray, List.set_cons_zero, List.set_cons_succ]
    refine held_next 8 rfl (by kernel_rfl) (by rfl) ?_
    go_simp
    refine ⟨fun W => Below w.heap.size w W, fun W hW => hW, hSc, ?_⟩
    try simp only [Act.put, List.setIfInBounds_toArray, List.set_cons_zero, List.set_cons_succ]
    refine held_next 9 rfl (by kernel_rfl) (by rfl) ?_
    go_simp
    refine ⟨fun W => Below w.heap.size w W, fun W hW => hW, hSc, ?_⟩
    refine wpAnyH_done (by kernel_rfl) ?_ _
    go_wp2_with fail
    refine (HP.out _ hSc).mono ?_
    rintro e w2 ⟨rfl, d2, gr2⟩
    have D2 := Lib.hid d2
    have G2 := Lib.hid gr2
    clear d2 gr2
    go_wp2_with fail
    refine (HQ.out _ D2.out).mono ?_
    rintro e w3 ⟨rfl, d3, gr3⟩
    have D3 := Lib.hid d3
    have G3 := Lib.hid gr3
    clear d3 gr3
    go_wp2_with fail
    go_ret
    exact ⟨rfl, D3.out, World.grownBy.trans ((grown_of_below hSc).but _) (World.grownBy.trans G2.out G3.out)⟩
  · rw [if_neg (by omega)] at hmin
    have hd : decide (eb < ea) = false := decide_eq_false (by omega)
    subst hmin
    go_enter Tryz.func272, Tryz.ntmps272
    go_wp2_with fail
    have hSc : Below w.heap.size w w.drew := (Below.refl _ _).drew
    refine wp_region_held_drew (S := fun W => Below w.heap.size w W) (by kernel_rfl) hSc (fun _ => ?_)
    refine held_take 0 ?_ rfl (by kernel_rfl) (by kernel_rfl) (by kernel_rfl) (fun _ _ _ h => h) (by rfl) ?_ hSc ?_
    rotate_left
    · (intro W hSW; go_simp; try rfl)
    try simp only [Act.put, List.setIfInBounds_toArray, List.set_cons_zero, List.set_cons_succ]
    refine held_take 1 ?_ rfl (by kernel_rfl) (by kernel_rfl) (by kernel_rfl) (fun _ _ _ h => h) (by rfl) ?_ hSc ?_
    rotate_left
    · (intro W hSW; go_simp; try rfl)
    try simp only [Act.put, List.setIfInBounds_toArray, List.set_cons_zero, List.set_cons_succ]
    refine held_take 2 ?_ rfl (by kernel_rfl) (by kernel_rfl) (by kernel_rfl) (fun _ _ _ h => h) (by rfl) ?_ hSc ?_
    rotate_left
    · (intro W hSW; go_simp; try rfl)
    try simp only [Act.put, List.setIfInBounds_toArray, List.set_cons_zero, List.set_cons_succ]
    refine held_take 4 ?_ rfl (by kernel_rfl) (by kernel_rfl) (by kernel_rfl) (fun _ _ _ h => h) (by rfl) ?_ hSc ?_
    rotate_left
    · (intro W hSW; go_simp; try rfl)
    try simp only [Act.put, List.setIfInBounds_toArray, List.set_cons_zero, List.set_cons_succ]
    refine held_take 5 ?_ rfl (by kernel_rfl) (by kernel_rfl) (by kernel_rfl) (fun _ _ _ h => h) (by rfl) ?_ hSc ?_
    rotate_left
    · (intro W hSW; go_simp; try rfl)
    try simp only [Act.put, List.setIfInBounds_toArray, List.set_cons_zero, List.set_cons_succ]
    refine held_take 6 ?_ rfl (by kernel_rfl) (by kernel_rfl) (by kernel_rfl) (fun _ _ _ h => h) (by rfl) ?_ hSc ?_
    rotate_left
    · (intro W hSW; go_simp; try rfl)
    try simp only [Act.put, List.setIfInBounds_toArray, List.set_cons_zero, List.set_cons_succ]
    refine held_next 3 rfl (by kernel_rfl) (by rfl) ?_
    go_simp
    refine (HE0.out _ hSc).mono ?_
    rintro e wq1 ⟨rfl, bq⟩
    have hbq : Below w.heap.size w wq1 := hSc.trans (bq.mono hSc.size)
    refine ⟨fun W => Below w.heap.size w W, fun W hW => hW, hbq, ?_⟩
    clear hSc bq
    have hSc : Below w.heap.size w wq1 := hbq
    clear hbq
    try simp only [Act.put, List.setIfInBounds_toArray, List.set_cons_zero, List.set_cons_succ]
    refine held_next 7 rfl (by kernel_rfl) (by rfl) ?_
    go_simp
    refine (HE2.out _ hSc).mono ?_
    rintro e wq2 ⟨rfl, bq⟩
    have hbq : Below w.heap.size w wq2 := hSc.trans (bq.mono hSc.size)
    refine ⟨fun W => Below w.heap.size w W, fun W hW => hW, hbq, ?_⟩
    clear hSc bq
    have hSc : Below w.heap.size w wq2 := hbq
    clear hbq
    try simp only [Act.put, List.setIfInBounds_toArray, List.set_cons_zero, List.set_cons_succ]
    refine held_next 8 rfl (by kernel_rfl) (by rfl) ?_
    go_simp
    refine ⟨fun W => Below w.heap.size w W, fun W hW => hW, hSc, ?_⟩
    try simp only [Act.put, List.setIfInBounds_toArray, List.set_cons_zero, List.set_cons_succ]
    refine held_next 9 rfl (by kernel_rfl) (by rfl) ?_
    go_simp
    refine ⟨fun W => Below w.heap.size w W, fun W hW => hW, hSc, ?_⟩
    refine wpAnyH_done (by kernel_rfl) ?_ _
    go_wp2_with fail
    refine (HP.out _ hSc).mono ?_
    rintro e w2 ⟨rfl, d2, gr2⟩
    have D2 := Lib.hid d2
    have G2 := Lib.hid gr2
    clear d2 gr2
    go_wp2_with fail
    refine (HQ.out _ D2.out).mono ?_
    rintro e w3 ⟨rfl, d3, gr3⟩
    have D3 := Lib.hid d3
    have G3 := Lib.hid gr3
    clear d3 gr3
    go_wp2_with fail
    go_ret
    exact ⟨rfl, D3.out, World.grownBy.trans ((grown_of_below hSc).but _) (World.grownBy.trans G2.out G3.out)⟩
end Go.Proofs.YtponcpneflhpfaaGreatDoor
namespace Go.Proofs.YtponcpneflhpfaaGreatDoor
open Go.RowKit
set_option linter.unusedVariables false

/-- What a round of the loops keeps: the runs told so far, the edges ahead. -/
structure Pg (w wr : World) (F g : Nat) (v : Value) (l : List Rn) (a b : List Rn × Bool) : Prop where
  ed : Ed wr w.heap.size w.heap.size a b
  own : Gw2 eR wr (w.heap.size + 1) v l
  bel : Below w.heap.size w wr
  big : w.heap.size + 1 ≤ wr.heap.size
  ka : sok a
  kb : sok b
  fuel : ahd a + ahd b ≤ g
  len : l.length + g ≤ F
theorem Pg.drewN {w wr : World} {F g : Nat} {v : Value} {l : List Rn} {a b : List Rn × Bool} (h : Pg w wr F g v l a b) (n : Nat) : Pg w (wr.drewN n) F g v l a b :=
  ⟨h.ed, h.own, below_drewN h.bel n, h.big, h.ka, h.kb, h.fuel, h.len⟩
theorem Pg.passed {w wr w' : World} {F g : Nat} {v : Value} {l : List Rn} {a b : List Rn × Bool} (h : Pg w wr F (g + 1) v l a b) (hn : ¬ (a.1 = [] ∧ b.1 = []))
    (hd : Ed w' w.heap.size w.heap.size (psf a (nxt a b)) (psf b (nxt a b))) (hg : wr.grownBy w' (some w.heap.size)) : Pg w w' F g v l (psf a (nxt a b)) (psf b (nxt a b)) := by
  have hl := nxt_lt hn
  have hm := ahd_nxt h.ka h.kb hn
  refine ⟨hd, h.own.kept hg (fun k hk e => ?_), h.bel.grown hg (by have := h.big; omega) (fun k hk => by injection hk with hk; omega), Nat.le_trans h.big hg.size, sok_psf h.ka hl.2, sok_psf h.kb hl.2, by have := h.fuel; omega, by have := h.len; omega⟩
  have := (h.own.lt k hk).1
  injection e with e
  omega
theorem Pg.c1 {w wr : World} {F g : Nat} {v : Value} {l : List Rn} {a b : List Rn × Bool} (h : Pg w wr F g v l a b) : wr.cell? ⟨w.heap.size, 1, none⟩ = some (.bool a.2) := by
  obtain ⟨-, va, vb, hr, -⟩ := h.ed
  rw [hr.cell]; rfl
theorem Pg.c3 {w wr : World} {F g : Nat} {v : Value} {l : List Rn} {a b : List Rn × Bool} (h : Pg w wr F g v l a b) : wr.cell? ⟨w.heap.size, 3, none⟩ = some (.bool b.2) := by
  obtain ⟨-, va, vb, hr, -⟩ := h.ed
  rw [hr.cell]; rfl
theorem Pg.start {w : World} {v u : Value} {A B : List Rn} (hv : Gs2 eR w 0 w.heap.size v A) (hu : Gs2 eR w 0 w.heap.size u B) :
    Pg w (w.alloc (.cells #[v, .bool false, u, .bool false] 278)) (2 * A.length + 2 * B.length) (2 * A.length + 2 * B.length) (.slice none 0 0) [] (A, false) (B, false) :=
  ⟨⟨Nat.le_refl _, v, u, Row.new w _ _, hv.alloc (Nat.le_refl _) _, hu.alloc (Nat.le_refl _) _⟩, Gw2.nil_ _ _, (Below.refl _ w).alloc (Nat.le_refl _) _, by simp, (fun h => by cases h), (fun h => by cases h), by simp [ahd], by simp⟩
theorem Pg.told {w wr w1 w2 : World} {F g : Nat} {v v2 : Value} {l m : List Rn} {a b : List Rn × Bool} (h : Pg w wr F g v l a b) (hm : m.length ≤ 1) (hF : l.length + m.length + g ≤ F)
    (b1 : Below wr.heap.size wr w1) (o2 : Gw2 eR w2 (w.heap.size + 1) v2 (l ++ m)) (g2 : w1.grownBy w2 v.ownBlock) : Pg w w2 F g v2 (l ++ m) a b := by
  have hlt := fun k hk => h.own.lt k hk
  have hbig := h.big
  have hs1 := b1.size
  refine ⟨(h.ed.below b1).grown g2 (fun e => ?_) (fun k hk => ?_), o2, (below_both h.bel b1).grown g2 (by omega) (fun k hk => ?_), by have := g2.size; omega, h.ka, h.kb, h.fuel, by rw [List.length_append]; omega⟩
  · have := (hlt _ e).1; omega
  · have := (hlt _ hk).1; omega
  · have := (hlt _ hk).1; omega

set_option maxHeartbeats 8000000 in
set_option maxRecDepth 100000 in
theorem rpaired_any (fn : FuncId) (hE : Enters Tryz.prog fn) (t : Bool → Bool → Bool) (hf : ∀ (x y : Bool) (W : World), Calls Tryz.prog fn #[.bool x, .bool y] W fun e w' => e = .returned (.bool (t x y)) ∧ w' = W)
    (v u : Value) (A B : List Rn) (w : World) (hv : Gs2 eR w 0 w.heap.size v A) (hu : Gs2 eR w 0 w.heap.size u B) (hA : A.length ≤ 100000) (hB : B.length ≤ 100000) :
    Calls Tryz.prog 216 #[v, u, .func (.func fn) #[] #[]] w fun e w' => ∃ v', e = .returned v' ∧ Gw2 eR w' w.heap.size v' (pd t A B) ∧ Below w.heap.size w w' := by
  have HE := hE
  unfold Enters at HE
  have S := Lib.hid (Pg.start hv hu)
  obtain ⟨F, hF⟩ : ∃ F, F = 2 * A.length + 2 * B.length := ⟨_, rfl⟩
  obtain ⟨R, hR⟩ : ∃ R, R = pd t A B := ⟨_, rfl⟩
  have hR2 : pr t F none (A, false) (B, false) = R := by rw [hR, hF]; rfl
  rw [← hF] at S
  have hFb : F ≤ 400000 := by omega
  rw [← hR]
  have HR := Lib.hid hR2
  have HF := Lib.hid hFb
  obtain ⟨A1, c1, rfl, -⟩ := hv
  obtain ⟨A2, c2, rfl, -⟩ := hu
  clear hE hF hR hR2 hFb hA hB
  go_enter Tryz.func216, Tryz.ntmps216
  go_wp2
  go_step3
  go_wp2
  go_step3
  go_wp2
  go_loopg [7] F (fun g s7 wr => ∃ (l : List Rn) (a b : List Rn × Bool), Pg w wr F g s7 l a b ∧ Hid (l ++ pr t g none a b = R))
  case atStart => exact ⟨[], _, _, S.out, HR.out⟩
  case round =>
    obtain ⟨l, a, b, hp, hpr⟩ := hrel
    have HP := Lib.hid hp
    by_cases hn : a.1 = [] ∧ b.1 = []
    · have hl : l = R := by have := hpr.out; rwa [pr_nil _ _ _ hn, List.append_nil] at this
      have L := Lib.hid (left_any _ _ a b wr hp.ed)
      rw [decide_eq_true hn] at L
      have HL := Lib.hid hl
      clear hp hpr hn hl
      go_wp2_with (go_at_call 271; refine L.out.mono ?_; rintro e w1 ⟨rfl, hz⟩; have hz := hz.symm; subst hz)
      try rw [Exit.noGoto_ret]
      go_ret
      rw [← HL.out]
      exact ⟨_, rfl, HP.out.own.more (by omega), HP.out.bel⟩
    · have hlt := ahd_nxt hp.ka hp.kb hn
      have hfu := hp.fuel
      obtain ⟨g, rfl⟩ : ∃ g, gk = g + 1 := ⟨gk - 1, by omega⟩
      have L := Lib.hid (left_any _ _ a b wr hp.ed)
      rw [decide_eq_false hn] at L
      have P := Lib.hid (pass_any _ _ a b wr hp.ed hn hp.ka hp.kb)
      have N := Lib.hid (nxt_lt hn)
      have HPS := Lib.hid (fun w1 d1 g1 => hp.passed (w' := w1) hn d1 g1)
      have HR0 := Lib.hid hpr.out
      have E := pr_none t g hn
      rw [E] at HR0
      obtain ⟨lo, hlo⟩ : ∃ lo, lo = nxt a b := ⟨_, rfl⟩
      obtain ⟨a1, ha1⟩ : ∃ a1, a1 = psf a (nxt a b) := ⟨_, rfl⟩
      obtain ⟨b1, hb1⟩ : ∃ b1, b1 = psf b (nxt a b) := ⟨_, rfl⟩
      rw [← ha1, ← hb1, ← hlo] at P HR0
      rw [← ha1, ← hb1] at HPS
      rw [← hlo] at N
      clear hp hpr hn hlt hfu E hlo ha1 hb1 HP
      go_wp2_with (go_at_call 271; refine L.out.mono ?_; rintro e w1 ⟨rfl, hz⟩; have hz := hz.symm; subst hz)
      go_at_call 272
      refine P.out.mono ?_
      rintro e w1 ⟨rfl, d1, g1⟩
      have P1 := Lib.hid (HPS.out w1 d1 g1)
      have k1 := P1.out.c1
      have k3 := P1.out.c3
      clear d1 g1 P HPS L
      go_wp2_with fail
      refine (hf a1.2 b1.2 _).mono ?_
      rintro e w2 ⟨rfl, hz⟩
      have hz := hz.symm
      subst hz
      cases ht : t a1.2 b1.2 with
      | false =>
        have HR1 := HR0.out
        rw [ht] at HR1
        simp only [Bool.false_eq_true, if_false] at HR1
        have HR2 := Lib.hid HR1
        clear HR1 HR0 k1 k3
        go_wp2
        go_roundg g
        case measure => omega
        case rel => exact ⟨l, a1, b1, P1.out, HR2.out⟩
      | true =>
        have HR1 := HR0.out
        rw [ht] at HR1
        simp only [if_true] at HR1
        have HR2 := Lib.hid HR1
        clear HR1 HR0 k1 k3 ht
        go_wp2
        rename_i v7
        go_loopg [7] g (fun k s7 wx => ∃ (a b : List Rn × Bool), k ≤ g ∧ Pg w wx F k s7 l a b ∧ Hid (l ++ pr t k (some lo) a b = R))
        case atStart => exact ⟨a1, b1, Nat.le_refl _, P1.out, HR2.out⟩
        case round =>
          obtain ⟨a, b, hkg, hp, hpr⟩ := hrel
          have HP := Lib.hid hp
          have HKG := Lib.hid hkg
          clear P1 HR2
          by_cases hn : a.1 = [] ∧ b.1 = []
          · have hl := hpr.out
            rw [pr_nil _ _ _ hn, ← pr_nil t gk none hn] at hl
            have L := Lib.hid (left_any _ _ a b wr hp.ed)
            rw [decide_eq_true hn] at L
            have HL := Lib.hid hl
            clear hp hpr hn hl hkg
            go_wp2_with (go_at_call 271; refine L.out.mono ?_; rintro e w1 ⟨rfl, hz⟩; have hz := hz.symm; subst hz)
            go_roundg gk
            case measure => have := HKG.out; omega
            case rel => exact ⟨l, a, b, HP.out, HL.out⟩
          · have hlt := ahd_nxt hp.ka hp.kb hn
            have hfu := hp.fuel
            obtain ⟨q, rfl⟩ : ∃ q, gk = q + 1 := ⟨gk - 1, by omega⟩
            have L := Lib.hid (left_any _ _ a b wr hp.ed)
            rw [decide_eq_false hn] at L
            have P := Lib.hid (pass_any _ _ a b wr hp.ed hn hp.ka hp.kb)
            have N2 := Lib.hid (nxt_lt hn)
            have HPS := Lib.hid (fun w1 d1 g1 => hp.passed (w' := w1) hn d1 g1)
            have HR0 := Lib.hid hpr.out
            have E := pr_some t q lo hn
            rw [E] at HR0
            have HLN := Lib.hid hp.len
            obtain ⟨hi, hhi⟩ : ∃ hi, hi = nxt a b := ⟨_, rfl⟩
            obtain ⟨a3, ha3⟩ : ∃ a3, a3 = psf a (nxt a b) := ⟨_, rfl⟩
            obtain ⟨b3, hb3⟩ : ∃ b3, b3 = psf b (nxt a b) := ⟨_, rfl⟩
            rw [← ha3, ← hb3, ← hhi] at P HR0
            rw [← ha3, ← hb3] at HPS
            rw [← hhi] at N2
            clear hp hpr hn hlt hfu E hhi ha3 hb3 HP hkg
            go_wp2_with (go_at_call 271; refine L.out.mono ?_; rintro e w1 ⟨rfl, hz⟩; have hz := hz.symm; subst hz)
            go_at_call 272
            refine P.out.mono ?_
            rintro e w1 ⟨rfl, d1, g1⟩
            have P1 := Lib.hid (HPS.out w1 d1 g1)
            have k1 := P1.out.c1
            have k3 := P1.out.c3
            clear d1 g1 P HPS L
            go_wp2_with fail
            refine (hf a3.2 b3.2 _).mono ?_
            rintro e w2 ⟨rfl, hz⟩
            have hz := hz.symm
            subst hz
            cases ht : t a3.2 b3.2 with
            | true =>
              have HR1 := HR0.out
              rw [ht] at HR1
              simp only [if_true] at HR1
              have HR2 := Lib.hid HR1
              clear HR1 HR0 k1 k3
              go_wp2
              go_roundg q
              case measure => omega
              case rel => exact ⟨a3, b3, by have := HKG.out; omega, P1.out, HR2.out⟩
            | false =>
              have HR1 := HR0.out
              rw [ht] at HR1
              simp only [Bool.false_eq_true, if_false] at HR1
              rw [← List.append_assoc] at HR1
              have HR2 := Lib.hid HR1
              have BT := Lib.hid (between_any lo hi (by have := N.out; omega) (by have := N2.out; omega))
              clear HR1 HR0 k1 k3 ht
              go_wp2_with fail
              go_at_call 273
              refine (BT.out _).mono ?_
              rintro e w4 ⟨v4, rfl, o4, b4⟩
              have O4 := Lib.hid o4
              have B4 := Lib.hid b4
              clear o4 b4
              go_wp2_with (at_builtin; refine wpList_gapp2 eR _ rfl _ _ _ rfl (w.heap.size + 1) sliR infR _ l rfl (P1.out.own.below B4.out (Nat.le_refl _)) _ _ _ (btw lo hi) rfl O4.out.sl (by have := btw_len lo hi; have := HLN.out; have := HF.out; omega) (by have := P1.out.big; have := B4.out.size; omega) ?_; intro v5 w5 o5 g5 _; have O5 := Lib.hid o5; have G5 := Lib.hid g5; clear o5 g5)
              have P5 := Lib.hid (P1.out.told (btw_len lo hi) (by have := btw_len lo hi; have := HLN.out; omega) B4.out O5.out G5.out)
              go_roundg q
              case measure => have := HKG.out; omega
              case rel => exact ⟨_, a3, b3, P5.out, HR2.out⟩
end Go.Proofs.YtponcpneflhpfaaGreatDoor
namespace Go.Proofs.YtponcpneflhpfaaGreatDoor
open Go.RowKit
set_option linter.unusedVariables false

theorem rxor_says (x y : Bool) (W : World) : Calls Tryz.prog 227 #[.bool x, .bool y] W fun e w' => e = .returned (.bool (fXor x y)) ∧ w' = W := by
  cases x <;> cases y <;>
    (go_enter Tryz.func227, Tryz.ntmps227
     go_wp2
     go_ret
     exact ⟨rfl, rfl⟩)
set_option maxHeartbeats 400000 in
theorem rxor_any (v u : Value) (A B : List Rn) (w : World) (hv : Gs2 eR w 0 w.heap.size v A) (hu : Gs2 eR w 0 w.heap.size u B) (hA : A.length ≤ 100000) (hB : B.length ≤ 100000) :
    Calls Tryz.prog 155 #[v, u] w fun e w' => ∃ v', e = .returned v' ∧ Gw2 eR w' w.heap.size v' (pd fXor A B) ∧ Below w.heap.size w w' := by
  have T := Lib.hid (rpaired_any 227 (enters_of Tryz.func227 (by kernel_rfl) rfl) fXor rxor_says v u A B w hv hu hA hB)
  clear hv hu hA hB
  go_enter Tryz.func155, Tryz.ntmps155
  go_wp2_with (go_at_call 216; refine T.out.mono ?_; rintro e w1 ⟨v1, rfl, o1, b1⟩; have O1 := Lib.hid o1; have B1 := Lib.hid b1; clear o1 b1)
  go_ret
  exact ⟨_, rfl, O1.out, B1.out⟩
end Go.Proofs.YtponcpneflhpfaaGreatDoor
namespace Go.Proofs.YtponcpneflhpfaaGreatDoor
open Go.RowKit
set_option linter.unusedVariables false

/-- The k-th run's two cells. -/
theorem gs2_at {w : World} {lo hi : Nat} {A : Option Addr} {n c : Nat} {l : List Rn} (h : Gs2 eR w lo hi (.slice A n c) l) {k : Nat} (hk : k < l.length) :
    ∃ b off r, A = some ⟨b, off, none⟩ ∧ n = l.length ∧ b < hi ∧ l.drop k = r :: l.drop (k + 1) ∧ l[k]? = some r ∧ w.cell? ⟨b, off + k * 2, none⟩ = some (.int .u16 r.1.toNat) ∧ w.cell? ⟨b, off + k * 2 + 1, none⟩ = some (.int .u16 r.2.toNat) := by
  obtain ⟨b, off, c', e, -, -, -, hb, hc⟩ := h.form (by rintro rfl; simp at hk)
  injection e with e1 e2 e3
  have h1 := List.getElem?_eq_getElem hk
  have := hc k _ h1
  rw [Nat.mul_comm 2 k] at this
  exact ⟨b, off, _, e1, e2, hb, List.drop_eq_getElem_cons hk, h1, this.1, this.2⟩
theorem mayr_eq (m : Nat) (r : Rn) (l : List Rn) : mayr m (r :: l) = (decide (m ≤ r.1.toNat) && (decide (lst r ≤ 65535) && mayr (lst r + 2) l)) := rfl
end Go.Proofs.YtponcpneflhpfaaGreatDoor
namespace Go.Proofs.YtponcpneflhpfaaGreatDoor
open Go.RowKit
set_option linter.unusedVariables false

theorem ct_le' (p : Nat → Bool) (n : Nat) : ct p n ≤ n := by
  induction n with
  | zero => exact Nat.le_refl _
  | succ n ih => rw [ct]; cases p n <;> simp <;> omega
set_option maxHeartbeats 4000000 in
theorem rrank_any (v : Value) (A : List Rn) (X N : Nat) (w : World) (hv : Gs2 eR w 0 w.heap.size v A) (hA : mayr 0 A = true) (hX : X ≤ 100000) (hN : ct (mr A) X = N) :
    Calls Tryz.prog 236 #[v, .int .i64 X] w fun e w' => e = .returned (.int .i64 N) ∧ Below w.heap.size w w' := by
  have hlen := hv.len
  have HV := Lib.hid hv
  have HNB := Lib.hid (show N ≤ 100000 by have := ct_le' (mr A) X; omega)
  obtain ⟨A1, c1, rfl, -⟩ := hv
  have HN := Lib.hid hN
  have HA := Lib.hid hA
  clear hN hA
  go_enter Tryz.func236, Tryz.ntmps236
  go_wp2
  go_loopw [5, 10] (fun n i wr => ∃ k m d : Nat, k ≤ A.length ∧ n = .int .i64 m ∧ i = .int .i64 k ∧ Hid (mayr d (A.drop k) = true) ∧ Hid (m + ct (mr (A.drop k)) X = N) ∧ Below w.heap.size w wr) (fun _ i _ => A.length - (intOf i).toNat)
  case atStart => exact ⟨0, 0, 0, Nat.zero_le _, rfl, rfl, HA.out, by have := HN.out; show 0 + ct (mr A) X = N; omega, Below.refl _ _⟩
  case round =>
    obtain ⟨k, m, d, hk, rfl, rfl, hmr, hct, hbl⟩ := hrel
    have HB := Lib.hid hbl
    by_cases hlt : k < A.length
    · obtain ⟨b, off, r, e1, -, hb, hdr, hg, c0, c2⟩ := gs2_at HV.out hlt
      subst e1
      rw [← hbl.cell (p := ⟨b, off + k * 2, none⟩) hb] at c0
      rw [← hbl.cell (p := ⟨b, off + k * 2 + 1, none⟩) hb] at c2
      have hmr2 := hmr.out
      have hct2 := hct.out
      rw [hdr] at hmr2 hct2
      have hf := u16_lt r.1
      have hm := u16_lt r.2
      obtain ⟨f, hfe⟩ : ∃ f, f = r.1.toNat := ⟨_, rfl⟩
      obtain ⟨q, hqe⟩ : ∃ q, q = r.2.toNat := ⟨_, rfl⟩
      rw [← hfe] at c0 hf
      rw [← hqe] at c2 hm
      have HF := Lib.hid hf
      have HQ := Lib.hid hm
      have hlr : lst r = f + q := by unfold lst; rw [← hfe, ← hqe]
      have hbw : Below w.heap.size w (wr.alloc (.cells #[.int .u16 (f : Int), .int .u16 (q : Int)] 130)) := hbl.alloc hbl.size _
      have HBW := Lib.hid hbw
      have hsz := hbl.size
      by_cases h1 : X ≤ f
      · have hR : m = N := by
          rw [ct_mr_zero (m := r.1.toNat) (by obtain ⟨h1, h2, h3⟩ := mayr_cons.1 hmr2; exact mayr_cons.2 ⟨Nat.le_refl _, h2, h3⟩) (by omega)] at hct2
          omega
        have HRF := Lib.hid hR
        have h1' : (X : Int) ≤ f := by omega
        clear hbl hmr hct hdr hg hmr2 hct2 hR hfe hqe hlr hbw h1
        go_wp2
        go_ret
        exact ⟨by rw [HRF.out]; rfl, HBW.out⟩
      · have h1' : decide ((X : Int) ≤ f) = false := decide_eq_false (by omega)
        have h1n : ¬ ((X : Int) ≤ f) := by omega
        have hnx : m + min (X - f) (q + 1) + ct (mr (A.drop (k + 1))) X = N := by
          rw [← hct2, ct_mr_cons hmr2, hlr, ← hfe]
          omega
        have hmb : m ≤ 100000 := by have := HNB.out; omega
        have HM3 := Lib.hid (mayr_cons.1 hmr2).2.2
        have w1 : IntKind.i64.wrap (f : Int) = f := by simp [IntKind.wrap, IntKind.bits, IntKind.signed]; omega
        have w2 : IntKind.i64.wrap ((X : Int) - f) = (X : Int) - f := by simp [IntKind.wrap, IntKind.bits, IntKind.signed]; omega
        have HNX := Lib.hid hnx
        have hfin : (m : Int) + (if (q : Int) + 1 < (X : Int) - f then (q : Int) + 1 else (X : Int) - f) = ((m + min (X - f) (q + 1) : Nat) : Int) := by split <;> omega
        have w3 : IntKind.i64.wrap ((m : Int) + (if (q : Int) + 1 < (X : Int) - f then (q : Int) + 1 else (X : Int) - f)) = (m : Int) + (if (q : Int) + 1 < (X : Int) - f then (q : Int) + 1 else (X : Int) - f) := by
          rw [hfin]; simp [IntKind.wrap, IntKind.bits, IntKind.signed]; omega
        have HFIN := Lib.hid hfin
        clear hbl hmr hct hdr hg hmr2 hct2 hfe hqe hlr hbw h1 hnx hfin
        go_wp2_with fail
        go_region_with (go_at_call 238; refine (size_any f q HQ.out _).mono ?_; rintro e w9 ⟨rfl, b9⟩; have k0 := (b9.cell (p := ⟨wr.heap.size, 0, none⟩) (by simp)).trans (show _ = some (.int .u16 (f : Int)) by simp); have k1 := (b9.cell (p := ⟨wr.heap.size, 1, none⟩) (by simp)).trans (show _ = some (.int .u16 (q : Int)) by simp); have B9 := Lib.hid b9; clear b9)
        all_goals
          go_wp2
          refine ⟨⟨k + 1, m + min (X - f) (q + 1), _, by omega, by rw [HFIN.out], by go_num, HM3.out, HNX.out, below_both (below_drewN HBW.out 1) B9.out⟩, by simp [intOf]; omega⟩
    · obtain rfl : k = A.length := by omega
      have hR := hct.out
      rw [List.drop_length] at hR
      have HRF := Lib.hid (show m = N by have : ct (mr []) X = 0 := ct_zero fun x _ => rfl; omega)
      clear hbl hmr hR hct
      go_wp2
      go_ret
      exact ⟨by rw [HRF.out]; rfl, HB.out⟩
end Go.Proofs.YtponcpneflhpfaaGreatDoor
