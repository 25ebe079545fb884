/- Walks: both rows' next edge passed. -/
import Derived.Test.YtfefmlnlicilbaaDoorF4
import Derived.Test.YtfefmlnlicilbaaDoorRg
namespace Go.Proofs.YtfefmlnlicilbaaDoor
open Go.RowKit
set_option linter.unusedVariables false

theorem below_both {w W w' : World} (h : Below w.heap.size w W) (k : Below W.heap.size W w') : Below w.heap.size w w' := h.trans (k.mono h.size)
set_option maxHeartbeats 4000000 in
theorem pass_any (g hi : Nat) (a b : List Rn × Bool) (w : World) (h : Ed w hi g a b) (hn : ¬ (a.1 = [] ∧ b.1 = [])) (ka : sok a) (kb : sok b) :
    Calls Tryd.prog 93 #[.pointer (some ⟨g, 0, none⟩)] w fun e w' => e = .returned (.int .i64 (nxt a b)) ∧ Ed w' hi g (psf a (nxt a b)) (psf b (nxt a b)) ∧ w.grownBy w' (some g) := by
  have hnx := (nxt_lt hn).2
  obtain ⟨h0, va, vb, hr, hA, hB⟩ := h
  have hlt := hr.lt
  have E0 : ∀ W, Below w.heap.size w W → Calls Tryd.prog 95 #[.pointer (some ⟨g, 0, none⟩)] W fun e w' => e = .returned (.int .i64 (edg a.1 a.2)) ∧ Below W.heap.size W w' := fun W hW => by
    refine (edge_any g 0 hi va a.1 a.2 W (by rw [(hr.below hW hlt).cell]; rfl) (by rw [(hr.below hW hlt).cell]; rfl) (hA.below (hW.mono (by omega))) (by have := hW.size; omega)).mono ?_
    rintro e w' ⟨rfl, hb⟩
    exact ⟨rfl, hb⟩
  have E2 : ∀ W, Below w.heap.size w W → Calls Tryd.prog 95 #[.pointer (some ⟨g, 2, none⟩)] W fun e w' => e = .returned (.int .i64 (edg b.1 b.2)) ∧ Below W.heap.size W w' := fun W hW => by
    refine (edge_any g 2 hi vb b.1 b.2 W (by rw [(hr.below hW hlt).cell]; rfl) (by rw [(hr.below hW hlt).cell]; rfl) (hB.below (hW.mono (by omega))) (by have := hW.size; omega)).mono ?_
    rintro e w' ⟨rfl, hb⟩
    exact ⟨rfl, hb⟩
  have P : ∀ W, Below w.heap.size w W → Calls Tryd.prog 96 #[.pointer (some ⟨g, 0, none⟩), .int .i64 (nxt a b)] W fun e w' => e = .returned (.tuple #[]) ∧ Ed w' hi g (psf a (nxt a b)) b ∧ W.grownBy w' (some g) := fun W hW => by
    have hB' := hB.below (hW.mono (by omega))
    refine (passIf_a g hi _ va vb b.2 a.1 a.2 (nxt a b) W (hr.below hW hlt) (hA.below (hW.mono (by omega))) h0 ka hnx).mono ?_
    rintro e w' ⟨rfl, v', r', g', gr⟩
    exact ⟨rfl, ⟨h0, v', vb, r', g', hB'.grown gr (by have := hW.size; omega) (by intro k hk; injection hk with hk; omega)⟩, gr⟩
  have hle := Int.le_total (edg a.1 a.2) (edg b.1 b.2)
  have hmin : nxt a b = if edg b.1 b.2 < edg a.1 a.2 then edg b.1 b.2 else edg a.1 a.2 := by unfold nxt; split <;> omega
  obtain ⟨ea, hea⟩ : ∃ ea, ea = edg a.1 a.2 := ⟨_, rfl⟩
  obtain ⟨eb, heb⟩ : ∃ eb, eb = edg b.1 b.2 := ⟨_, rfl⟩
  obtain ⟨n, hnn⟩ : ∃ n, n = nxt a b := ⟨_, rfl⟩
  rw [← hea] at E0
  rw [← heb] at E2
  rw [← hnn] at P hnx ⊢
  rw [← hea, ← heb, ← hnn] at hmin
  have Q : ∀ W, Ed W hi g (psf a n) b → Calls Tryd.prog 96 #[.pointer (some ⟨g, 2, none⟩), .int .i64 n] W fun e w' => e = .returned (.tuple #[]) ∧ Ed w' hi g (psf a n) (psf b n) ∧ W.grownBy w' (some g) := fun W hW => by
    obtain ⟨-, xa, xb, xr, xA, xB⟩ := hW
    refine (passIf_b g hi _ xb xa (psf a n).2 b.1 b.2 n W xr xB h0 kb hnx).mono ?_
    rintro e w' ⟨rfl, v', r', g', gr⟩
    exact ⟨rfl, ⟨h0, xa, v', r', xA.grown gr (by have := xr.lt; omega) (by intro k hk; injection hk with hk; omega), g'⟩, gr⟩
  have HE0 := Lib.hid E0
  have HE2 := Lib.hid E2
  have HP := Lib.hid P
  have HQ := Lib.hid Q
  have HN := Lib.hid hnn
  clear E0 E2 P Q hr hA hB hle hn ka kb hea heb hnn hnx h0
  rcases Int.lt_or_le eb ea with hlt2 | hlt2
  · rw [if_pos hlt2] at hmin
    have hd := decide_eq_true hlt2
    subst hmin
    go_enter Tryd.func93, Tryd.ntmps93
    go_wp2_with fail
    have hSc : Below w.heap.size w w.drew := (Below.refl _ _).drew
    refine wp_region_held_drew (S := fun W => Below w.heap.size w W) (by kernel_rfl) hSc (fun _ => ?_)
    refine held_take 0 ?_ rfl (by kernel_rfl) (by kernel_rfl) (by kernel_rfl) (fun _ _ _ h => h) (by rfl) ?_ hSc ?_
    rotate_left
    · (intro W hSW; go_simp; try rfl)
    try simp only [Act.put, List.setIfInBounds_toArray, List.set_cons_zero, List.set_cons_succ]
    refine held_take 1 ?_ rfl (by kernel_rfl) (by kernel_rfl) (by kernel_rfl) (fun _ _ _ h => h) (by rfl) ?_ hSc ?_
    rotate_left
    · (intro W hSW; go_simp; try rfl)
    try simp only [Act.put, List.setIfInBounds_toArray, List.set_cons_zero, List.set_cons_succ]
    refine held_take 2 ?_ rfl (by kernel_rfl) (by kernel_rfl) (by kernel_rfl) (fun _ _ _ h => h) (by rfl) ?_ hSc ?_
    rotate_left
    · (intro W hSW; go_simp; try rfl)
    try simp only [Act.put, List.setIfInBounds_toArray, List.set_cons_zero, List.set_cons_succ]
    refine held_take 4 ?_ rfl (by kernel_rfl) (by kernel_rfl) (by kernel_rfl) (fun _ _ _ h => h) (by rfl) ?_ hSc ?_
    rotate_left
    · (intro W hSW; go_simp; try rfl)
    try simp only [Act.put, List.setIfInBounds_toArray, List.set_cons_zero, List.set_cons_succ]
    refine held_take 5 ?_ rfl (by kernel_rfl) (by kernel_rfl) (by kernel_rfl) (fun _ _ _ h => h) (by rfl) ?_ hSc ?_
    rotate_left
    · (intro W hSW; go_simp; try rfl)
    try simp only [Act.put, List.setIfInBounds_toArray, List.set_cons_zero, List.set_cons_succ]
    refine held_take 6 ?_ rfl (by kernel_rfl) (by kernel_rfl) (by kernel_rfl) (fun _ _ _ h => h) (by rfl) ?_ hSc ?_
    rotate_left
    · (intro W hSW; go_simp; try rfl)
    try simp only [Act.put, List.setIfInBounds_toArray, List.set_cons_zero, List.set_cons_succ]
    refine held_next 3 rfl (by kernel_rfl) (by rfl) ?_
    go_simp
    refine (HE0.out _ hSc).mono ?_
    rintro e wq1 ⟨rfl, bq⟩
    have hbq : Below w.heap.size w wq1 := hSc.trans (bq.mono hSc.size)
    refine ⟨fun W => Below w.heap.size w W, fun W hW => hW, hbq, ?_⟩
    clear hSc bq
    have hSc : Below w.heap.size w wq1 := hbq
    clear hbq
    try simp only [Act.put, List.setIfInBounds_toArray, List.set_cons_zero, List.set_cons_succ]
    refine held_next 7 rfl (by kernel_rfl) (by rfl) ?_
    go_simp
    refine (HE2.out _ hSc).mono ?_
    rintro e wq2 ⟨rfl, bq⟩
    have hbq : Below w.heap.size w wq2 := hSc.trans (bq.mono hSc.size)
    refine ⟨fun W => Below w.heap.size w W, fun W hW => hW, hbq, ?_⟩
    clear hSc bq
    have hSc : Below w.heap.size w wq2 := hbq
    clear hbq
    try simp only [Act.put, List.setIfInBounds_toArray, List.set_cons_zero, List.set_cons_succ]
    refine held_next 8 rfl (by kernel_rfl) (by rfl) ?_
    go_simp
    refine ⟨fun W => Below w.heap.size w W, fun W hW => hW, hSc, ?_⟩
    try simp only [Act.put, List.setIfInBounds_toArray, List.set_cons_zero, List.set_cons_succ]
    refine held_next 9 rfl (by kernel_rfl) (by rfl) ?_
    go_simp
    refine ⟨fun W => Below w.heap.size w W, fun W hW => hW, hSc, ?_⟩
    refine wpAnyH_done (by kernel_rfl) ?_ _
    go_wp2_with fail
    refine (HP.out _ hSc).mono ?_
    rintro e w2 ⟨rfl, d2, gr2⟩
    have D2 := Lib.hid d2
    have G2 := Lib.hid gr2
    clear d2 gr2
    go_wp2_with fail
    refine (HQ.out _ D2.out).mono ?_
    rintro e w3 ⟨rfl, d3, gr3⟩
    have D3 := Lib.hid d3
    have G3 := Lib.hid gr3
    clear d3 gr3
    go_wp2_with fail
    go_ret
    exact ⟨rfl, D3.out, World.grownBy.trans ((grown_of_below hSc).but _) (World.grownBy.trans G2.out G3.out)⟩
  · rw [if_neg (by omega)] at hmin
    have hd : decide (eb < ea) = false := decide_eq_false (by omega)
    subst hmin
    go_enter Tryd.func93, Tryd.ntmps93
    go_wp2_with fail
    have hSc : Below w.heap.size w w.drew := (Below.refl _ _).drew
    refine wp_region_held_drew (S := fun W => Below w.heap.size w W) (by kernel_rfl) hSc (fun _ => ?_)
    refine held_take 0 ?_ rfl (by kernel_rfl) (by kernel_rfl) (by kernel_rfl) (fun _ _ _ h => h) (by rfl) ?_ hSc ?_
    rotate_left
    · (intro W hSW; go_simp; try rfl)
    try simp only [Act.put, List.setIfInBounds_toArray, List.set_cons_zero, List.set_cons_succ]
    refine held_take 1 ?_ rfl (by kernel_rfl) (by kernel_rfl) (by kernel_rfl) (fun _ _ _ h => h) (by rfl) ?_ hSc ?_
    rotate_left
    · (intro W hSW; go_simp; try rfl)
    try simp only [Act.put, List.setIfInBounds_toArray, List.set_cons_zero, List.set_cons_succ]
    refine held_take 2 ?_ rfl (by kernel_rfl) (by kernel_rfl) (by kernel_rfl) (fun _ _ _ h => h) (by rfl) ?_ hSc ?_
    rotate_left
    · (intro W hSW; go_simp; try rfl)
    try simp only [Act.put, List.setIfInBounds_toArray, List.set_cons_zero, List.set_cons_succ]
    refine held_take 4 ?_ rfl (by kernel_rfl) (by kernel_rfl) (by kernel_rfl) (fun _ _ _ h => h) (by rfl) ?_ hSc ?_
    rotate_left
    · (intro W hSW; go_simp; try rfl)
    try simp only [Act.put, List.setIfInBounds_toArray, List.set_cons_zero, List.set_cons_succ]
    refine held_take 5 ?_ rfl (by kernel_rfl) (by kernel_rfl) (by kernel_rfl) (fun _ _ _ h => h) (by rfl) ?_ hSc ?_
    rotate_left
    · (intro W hSW; go_simp; try rfl)
    try simp only [Act.put, List.setIfInBounds_toArray, List.set_cons_zero, List.set_cons_succ]
    refine held_take 6 ?_ rfl (by kernel_rfl) (by kernel_rfl) (by kernel_rfl) (fun _ _ _ h => h) (by rfl) ?_ hSc ?_
    rotate_left
    · (intro W hSW; go_simp; try rfl)
    try simp only [Act.put, List.setIfInBounds_toArray, List.set_cons_zero, List.set_cons_succ]
    refine held_next 3 rfl (by kernel_rfl) (by rfl) ?_
    go_simp
    refine (HE0.out _ hSc).mono ?_
    rintro e wq1 ⟨rfl, bq⟩
    have hbq : Below w.heap.size w wq1 := hSc.trans (bq.mono hSc.size)
    refine ⟨fun W => Below w.heap.size w W, fun W hW => hW, hbq, ?_⟩
    clear hSc bq
    have hSc : Below w.heap.size w wq1 := hbq
    clear hbq
    try simp only [Act.put, List.setIfInBounds_toArray, List.set_cons_zero, List.set_cons_succ]
    refine held_next 7 rfl (by kernel_rfl) (by rfl) ?_
    go_simp
    refine (HE2.out _ hSc).mono ?_
    rintro e wq2 ⟨rfl, bq⟩
    have hbq : Below w.heap.size w wq2 := hSc.trans (bq.mono hSc.size)
    refine ⟨fun W => Below w.heap.size w W, fun W hW => hW, hbq, ?_⟩
    clear hSc bq
    have hSc : Below w.heap.size w wq2 := hbq
    clear hbq
    try simp only [Act.put, List.setIfInBounds_toArray, List.set_cons_zero, List.set_cons_succ]
    refine held_next 8 rfl (by kernel_rfl) (by rfl) ?_
    go_simp
    refine ⟨fun W => Below w.heap.size w W, fun W hW => hW, hSc, ?_⟩
    try simp only [Act.put, List.setIfInBounds_toArray, List.set_cons_zero, List.set_cons_succ]
    refine held_next 9 rfl (by kernel_rfl) (by rfl) ?_
    go_simp
    refine ⟨fun W => Below w.heap.size w W, fun W hW => hW, hSc, ?_⟩
    refine wpAnyH_done (by kernel_rfl) ?_ _
    go_wp2_with fail
    refine (HP.out _ hSc).mono ?_
    rintro e w2 ⟨rfl, d2, gr2⟩
    have D2 := Lib.hid d2
    have G2 := Lib.hid gr2
    clear d2 gr2
    go_wp2_with fail
    refine (HQ.out _ D2.out).mono ?_
    rintro e w3 ⟨rfl, d3, gr3⟩
    have D3 := Lib.hid d3
    have G3 := Lib.hid gr3
    clear d3 gr3
    go_wp2_with fail
    go_ret
    exact ⟨rfl, D3.out, World.grownBy.trans ((grown_of_below hSc).but _) (World.grownBy.trans G2.out G3.out)⟩
end Go.Proofs.YtfefmlnlicilbaaDoor
