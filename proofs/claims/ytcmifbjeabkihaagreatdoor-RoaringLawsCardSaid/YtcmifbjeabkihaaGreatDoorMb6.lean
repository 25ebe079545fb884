/- Walks: Rank, Select of a container: a table of method expressions each. -/
import Derived.Test.YtcmifbjeabkihaaGreatDoorMb5
namespace Go.Proofs.YtcmifbjeabkihaaGreatDoor
open Go.RowKit
set_option linter.unusedVariables false

set_option maxHeartbeats 1000000 in
theorem rank_1 (p : Nat → Bool) (κ : Int) (A : Option Addr) (n c : Nat) (m : Nat) (x : Int) (lo : Nat) (w : World) (hX : -9000000000 ≤ x ∧ x ≤ 9000000000) (hm2 : ct p (cl x) = m) (hκ : κ = 0 ∨ κ = 1) (hn : ct p 65536 = n) (h : Gs e16 w lo w.heap.size (.slice A n c) (ls p 65536)) :
    Calls Tryz.prog 86 #[.agg #[.int .u8 κ, .slice A n c, .slice none 0 0, .slice none 0 0], .int .i64 x] w fun e w' => e = .returned (.int .i64 m) ∧ Below w.heap.size w w' := by
  have H0 := Lib.hid (Cn.arr (N := fun _ => True) κ A n c hκ hn (Gp.of h (Nat.le_refl _) fun _ _ _ => trivial))
  have H := Lib.hid h
  have T := two_blocks w #[.int .u8 κ, .slice A n c, .slice none 0 0, .slice none 0 0] #[.nilFunc, .func (.func 143) #[] #[], .func (.func 144) #[] #[], .func (.func 145) #[] #[]] 65 170
  clear h
  go_enter Tryz.func86, Tryz.ntmps86
  go_wp2_with fail
  generalize (w.alloc (.cells #[.int .u8 κ, .slice A n c, .slice none 0 0, .slice none 0 0] 65)).alloc (.cells #[.nilFunc, .func (.func 143) #[] #[], .func (.func 144) #[] #[], .func (.func 145) #[] #[]] 170) = W0 at *
  obtain ⟨b0, r0, r1⟩ := T
  have K0 : Hid (∀ W, Below W0.heap.size W0 W → W.cell? ⟨w.heap.size, 0, none⟩ = some (.int .u8 κ) ∧ W.cell? ⟨w.heap.size, 1, none⟩ = some (.slice A n c) ∧ W.cell? ⟨w.heap.size, 2, none⟩ = some (.slice none 0 0) ∧ W.cell? ⟨w.heap.size, 3, none⟩ = some (.slice none 0 0)) := Lib.hid fun W hW => by
    have r := r0.below hW r0.lt
    exact ⟨r.cell 0, r.cell 1, r.cell 2, r.cell 3⟩
  have K1 : Hid (∀ W, Below W0.heap.size W0 W → W.cell? ⟨w.heap.size + 1, 1, none⟩ = some (.func (.func 143) #[] #[])) := Lib.hid fun W hW => (r1.below hW r1.lt).cell 1
  have B0 := Lib.hid b0
  have hSc : Below W0.heap.size W0 W0.drew := (Below.refl W0.heap.size W0).drew
  clear b0 r0 r1
  refine wp_region_held_drew (S := fun W => Below W0.heap.size W0 W) (by kernel_rfl) hSc (fun _ => ?_)
  refine held_take 0 ?_ rfl (by kernel_rfl) (by kernel_rfl) (by kernel_rfl) (fun _ _ _ h => h) (by rfl) ?_ hSc ?_
  rotate_left
  · (intro W hSW; obtain ⟨k0, k1, k2, k3⟩ := K0.out W hSW; go_simp; try rfl)
  try simp only [Act.put, List.setIfInBounds_toArray, List.set_cons_zero, List.set_cons_succ]
  refine held_take 4 ?_ rfl (by kernel_rfl) (by kernel_rfl) (by kernel_rfl) (fun _ _ _ h => h) (by rfl) ?_ hSc ?_
  rotate_left
  · (intro W hSW; obtain ⟨k0, k1, k2, k3⟩ := K0.out W hSW; go_simp; try rfl)
  try simp only [Act.put, List.setIfInBounds_toArray, List.set_cons_zero, List.set_cons_succ]
  refine held_take 5 ?_ rfl (by kernel_rfl) (by kernel_rfl) (by kernel_rfl) (fun _ _ _ h => h) (by rfl) ?_ hSc ?_
  rotate_left
  · (intro W hSW; go_simp; try rfl)
  try simp only [Act.put, List.setIfInBounds_toArray, List.set_cons_zero, List.set_cons_succ]
  refine held_next 1 rfl (by kernel_rfl) (by rfl) ?_
  go_simp
  refine (kind_c _ p 1 _ ((H0.out.step B0.out).step hSc)).mono ?_
  rintro e wq1 ⟨rfl, bq⟩
  have hbq : Below W0.heap.size W0 wq1 := hSc.trans (bq.mono hSc.size)
  refine ⟨fun W => Below W0.heap.size W0 W, fun W hW => hW, hbq, ?_⟩
  clear hSc bq
  have hSc : Below W0.heap.size W0 wq1 := hbq
  clear hbq
  try simp only [Act.put, List.setIfInBounds_toArray, List.set_cons_zero, List.set_cons_succ]
  have KS := Lib.hid hSc.size
  refine held_take 2 ?_ rfl (by kernel_rfl) (by kernel_rfl) (by kernel_rfl) (fun _ _ _ h => h) (by rfl) ?_ hSc ?_
  rotate_left
  · (intro W hSW; go_simp; try rfl)
  try simp only [Act.put, List.setIfInBounds_toArray, List.set_cons_zero, List.set_cons_succ]
  refine held_take 3 ?_ rfl (by kernel_rfl) (by kernel_rfl) (by kernel_rfl) (fun _ _ _ h => h) (by rfl) ?_ hSc ?_
  rotate_left
  · (intro W hSW; have k1 := K1.out W hSW; go_simp; try rfl)
  try simp only [Act.put, List.setIfInBounds_toArray, List.set_cons_zero, List.set_cons_succ]
  refine held_next 6 rfl (by kernel_rfl) (by rfl) ?_
  go_simp
  refine (arrayRank_c p κ A n c x m lo _ hX hm2 hn ((H.out.stp B0.out).stp hSc)).mono ?_
  rintro e wq2 ⟨rfl, bq⟩
  have hbq : Below W0.heap.size W0 wq2 := hSc.trans (bq.mono hSc.size)
  refine ⟨fun W => Below W0.heap.size W0 W, fun W hW => hW, hbq, ?_⟩
  clear hSc bq
  have hSc : Below W0.heap.size W0 wq2 := hbq
  clear hbq
  try simp only [Act.put, List.setIfInBounds_toArray, List.set_cons_zero, List.set_cons_succ]
  refine held_next 7 rfl (by kernel_rfl) (by rfl) ?_
  go_simp
  refine ⟨fun W => Below W0.heap.size W0 W, fun W hW => hW, hSc, ?_⟩
  refine wpAnyH_done (by kernel_rfl) ?_ _
  have BB := Lib.hid (B0.out.trans (hSc.mono B0.out.size))
  go_wp2
  go_ret
  exact ⟨rfl, BB.out⟩

set_option maxHeartbeats 1000000 in
theorem rank_2 (p : Nat → Bool) (A : Option Addr) (c : Nat) (m : Nat) (x : Int) (lo : Nat) (w : World) (hX : -9000000000 ≤ x ∧ x ≤ 9000000000) (hm2 : ct p (cl x) = m) (h : Gs e64 w lo w.heap.size (.slice A 1024 c) (wm p)) :
    Calls Tryz.prog 86 #[.agg #[.int .u8 2, .slice none 0 0, .slice A 1024 c, .slice none 0 0], .int .i64 x] w fun e w' => e = .returned (.int .i64 m) ∧ Below w.heap.size w w' := by
  have H0 := Lib.hid (Cn.wrd (N := fun _ => True) A c (Gp.of h (Nat.le_refl _) fun _ _ _ => trivial))
  have H := Lib.hid h
  have T := two_blocks w #[.int .u8 2, .slice none 0 0, .slice A 1024 c, .slice none 0 0] #[.nilFunc, .func (.func 143) #[] #[], .func (.func 144) #[] #[], .func (.func 145) #[] #[]] 65 170
  clear h
  go_enter Tryz.func86, Tryz.ntmps86
  go_wp2_with fail
  generalize (w.alloc (.cells #[.int .u8 2, .slice none 0 0, .slice A 1024 c, .slice none 0 0] 65)).alloc (.cells #[.nilFunc, .func (.func 143) #[] #[], .func (.func 144) #[] #[], .func (.func 145) #[] #[]] 170) = W0 at *
  obtain ⟨b0, r0, r1⟩ := T
  have K0 : Hid (∀ W, Below W0.heap.size W0 W → W.cell? ⟨w.heap.size, 0, none⟩ = some (.int .u8 2) ∧ W.cell? ⟨w.heap.size, 1, none⟩ = some (.slice none 0 0) ∧ W.cell? ⟨w.heap.size, 2, none⟩ = some (.slice A 1024 c) ∧ W.cell? ⟨w.heap.size, 3, none⟩ = some (.slice none 0 0)) := Lib.hid fun W hW => by
    have r := r0.below hW r0.lt
    exact ⟨r.cell 0, r.cell 1, r.cell 2, r.cell 3⟩
  have K1 : Hid (∀ W, Below W0.heap.size W0 W → W.cell? ⟨w.heap.size + 1, 2, none⟩ = some (.func (.func 144) #[] #[])) := Lib.hid fun W hW => (r1.below hW r1.lt).cell 2
  have B0 := Lib.hid b0
  have hSc : Below W0.heap.size W0 W0.drew := (Below.refl W0.heap.size W0).drew
  clear b0 r0 r1
  refine wp_region_held_drew (S := fun W => Below W0.heap.size W0 W) (by kernel_rfl) hSc (fun _ => ?_)
  refine held_take 0 ?_ rfl (by kernel_rfl) (by kernel_rfl) (by kernel_rfl) (fun _ _ _ h => h) (by rfl) ?_ hSc ?_
  rotate_left
  · (intro W hSW; obtain ⟨k0, k1, k2, k3⟩ := K0.out W hSW; go_simp; try rfl)
  try simp only [Act.put, List.setIfInBounds_toArray, List.set_cons_zero, List.set_cons_succ]
  refine held_take 4 ?_ rfl (by kernel_rfl) (by kernel_rfl) (by kernel_rfl) (fun _ _ _ h => h) (by rfl) ?_ hSc ?_
  rotate_left
  · (intro W hSW; obtain ⟨k0, k1, k2, k3⟩ := K0.out W hSW; go_simp; try rfl)
  try simp only [Act.put, List.setIfInBounds_toArray, List.set_cons_zero, List.set_cons_succ]
  refine held_take 5 ?_ rfl (by kernel_rfl) (by kernel_rfl) (by kernel_rfl) (fun _ _ _ h => h) (by rfl) ?_ hSc ?_
  rotate_left
  · (intro W hSW; go_simp; try rfl)
  try simp only [Act.put, List.setIfInBounds_toArray, List.set_cons_zero, List.set_cons_succ]
  refine held_next 1 rfl (by kernel_rfl) (by rfl) ?_
  go_simp
  refine (kind_c _ p 2 _ ((H0.out.step B0.out).step hSc)).mono ?_
  rintro e wq1 ⟨rfl, bq⟩
  have hbq : Below W0.heap.size W0 wq1 := hSc.trans (bq.mono hSc.size)
  refine ⟨fun W => Below W0.heap.size W0 W, fun W hW => hW, hbq, ?_⟩
  clear hSc bq
  have hSc : Below W0.heap.size W0 wq1 := hbq
  clear hbq
  try simp only [Act.put, List.setIfInBounds_toArray, List.set_cons_zero, List.set_cons_succ]
  have KS := Lib.hid hSc.size
  refine held_take 2 ?_ rfl (by kernel_rfl) (by kernel_rfl) (by kernel_rfl) (fun _ _ _ h => h) (by rfl) ?_ hSc ?_
  rotate_left
  · (intro W hSW; go_simp; try rfl)
  try simp only [Act.put, List.setIfInBounds_toArray, List.set_cons_zero, List.set_cons_succ]
  refine held_take 3 ?_ rfl (by kernel_rfl) (by kernel_rfl) (by kernel_rfl) (fun _ _ _ h => h) (by rfl) ?_ hSc ?_
  rotate_left
  · (intro W hSW; have k1 := K1.out W hSW; go_simp; try rfl)
  try simp only [Act.put, List.setIfInBounds_toArray, List.set_cons_zero, List.set_cons_succ]
  refine held_next 6 rfl (by kernel_rfl) (by rfl) ?_
  go_simp
  refine (wordsRank_c p A c x m lo _ hm2 ((H.out.stp B0.out).stp hSc)).mono ?_
  rintro e wq2 ⟨rfl, bq⟩
  have hbq : Below W0.heap.size W0 wq2 := hSc.trans (bq.mono hSc.size)
  refine ⟨fun W => Below W0.heap.size W0 W, fun W hW => hW, hbq, ?_⟩
  clear hSc bq
  have hSc : Below W0.heap.size W0 wq2 := hbq
  clear hbq
  try simp only [Act.put, List.setIfInBounds_toArray, List.set_cons_zero, List.set_cons_succ]
  refine held_next 7 rfl (by kernel_rfl) (by rfl) ?_
  go_simp
  refine ⟨fun W => Below W0.heap.size W0 W, fun W hW => hW, hSc, ?_⟩
  refine wpAnyH_done (by kernel_rfl) ?_ _
  have BB := Lib.hid (B0.out.trans (hSc.mono B0.out.size))
  go_wp2
  go_ret
  exact ⟨rfl, BB.out⟩

set_option maxHeartbeats 1000000 in
theorem rank_3 (p : Nat → Bool) (A : Option Addr) (n c : Nat) (m : Nat) (x : Int) (lo : Nat) (w : World) (hX : -9000000000 ≤ x ∧ x ≤ 9000000000) (hm2 : ct p (cl x) = m) (hn : ct (hm p) 65536 = n) (h : Gs2 eR w lo w.heap.size (.slice A n c) (rs p 65536)) :
    Calls Tryz.prog 86 #[.agg #[.int .u8 3, .slice none 0 0, .slice none 0 0, .slice A n c], .int .i64 x] w fun e w' => e = .returned (.int .i64 m) ∧ Below w.heap.size w w' := by
  have H0 := Lib.hid (Cn.run (N := fun _ => True) A n c hn (Gp2.of h (Nat.le_refl _) fun _ _ _ => trivial))
  have H := Lib.hid h
  have T := two_blocks w #[.int .u8 3, .slice none 0 0, .slice none 0 0, .slice A n c] #[.nilFunc, .func (.func 143) #[] #[], .func (.func 144) #[] #[], .func (.func 145) #[] #[]] 65 170
  clear h
  go_enter Tryz.func86, Tryz.ntmps86
  go_wp2_with fail
  generalize (w.alloc (.cells #[.int .u8 3, .slice none 0 0, .slice none 0 0, .slice A n c] 65)).alloc (.cells #[.nilFunc, .func (.func 143) #[] #[], .func (.func 144) #[] #[], .func (.func 145) #[] #[]] 170) = W0 at *
  obtain ⟨b0, r0, r1⟩ := T
  have K0 : Hid (∀ W, Below W0.heap.size W0 W → W.cell? ⟨w.heap.size, 0, none⟩ = some (.int .u8 3) ∧ W.cell? ⟨w.heap.size, 1, none⟩ = some (.slice none 0 0) ∧ W.cell? ⟨w.heap.size, 2, none⟩ = some (.slice none 0 0) ∧ W.cell? ⟨w.heap.size, 3, none⟩ = some (.slice A n c)) := Lib.hid fun W hW => by
    have r := r0.below hW r0.lt
    exact ⟨r.cell 0, r.cell 1, r.cell 2, r.cell 3⟩
  have K1 : Hid (∀ W, Below W0.heap.size W0 W → W.cell? ⟨w.heap.size + 1, 3, none⟩ = some (.func (.func 145) #[] #[])) := Lib.hid fun W hW => (r1.below hW r1.lt).cell 3
  have B0 := Lib.hid b0
  have hSc : Below W0.heap.size W0 W0.drew := (Below.refl W0.heap.size W0).drew
  clear b0 r0 r1
  refine wp_region_held_drew (S := fun W => Below W0.heap.size W0 W) (by kernel_rfl) hSc (fun _ => ?_)
  refine held_take 0 ?_ rfl (by kernel_rfl) (by kernel_rfl) (by kernel_rfl) (fun _ _ _ h => h) (by rfl) ?_ hSc ?_
  rotate_left
  · (intro W hSW; obtain ⟨k0, k1, k2, k3⟩ := K0.out W hSW; go_simp; try rfl)
  try simp only [Act.put, List.setIfInBounds_toArray, List.set_cons_zero, List.set_cons_succ]
  refine held_take 4 ?_ rfl (by kernel_rfl) (by kernel_rfl) (by kernel_rfl) (fun _ _ _ h => h) (by rfl) ?_ hSc ?_
  rotate_left
  · (intro W hSW; obtain ⟨k0, k1, k2, k3⟩ := K0.out W hSW; go_simp; try rfl)
  try simp only [Act.put, List.setIfInBounds_toArray, List.set_cons_zero, List.set_cons_succ]
  refine held_take 5 ?_ rfl (by kernel_rfl) (by kernel_rfl) (by kernel_rfl) (fun _ _ _ h => h) (by rfl) ?_ hSc ?_
  rotate_left
  · (intro W hSW; go_simp; try rfl)
  try simp only [Act.put, List.setIfInBounds_toArray, List.set_cons_zero, List.set_cons_succ]
  refine held_next 1 rfl (by kernel_rfl) (by rfl) ?_
  go_simp
  refine (kind_c _ p 3 _ ((H0.out.step B0.out).step hSc)).mono ?_
  rintro e wq1 ⟨rfl, bq⟩
  have hbq : Below W0.heap.size W0 wq1 := hSc.trans (bq.mono hSc.size)
  refine ⟨fun W => Below W0.heap.size W0 W, fun W hW => hW, hbq, ?_⟩
  clear hSc bq
  have hSc : Below W0.heap.size W0 wq1 := hbq
  clear hbq
  try simp only [Act.put, List.setIfInBounds_toArray, List.set_cons_zero, List.set_cons_succ]
  have KS := Lib.hid hSc.size
  refine held_take 2 ?_ rfl (by kernel_rfl) (by kernel_rfl) (by kernel_rfl) (fun _ _ _ h => h) (by rfl) ?_ hSc ?_
  rotate_left
  · (intro W hSW; go_simp; try rfl)
  try simp only [Act.put, List.setIfInBounds_toArray, List.set_cons_zero, List.set_cons_succ]
  refine held_take 3 ?_ rfl (by kernel_rfl) (by kernel_rfl) (by kernel_rfl) (fun _ _ _ h => h) (by rfl) ?_ hSc ?_
  rotate_left
  · (intro W hSW; have k1 := K1.out W hSW; go_simp; try rfl)
  try simp only [Act.put, List.setIfInBounds_toArray, List.set_cons_zero, List.set_cons_succ]
  refine held_next 6 rfl (by kernel_rfl) (by rfl) ?_
  go_simp
  refine (runsRank_c p A n c x m lo _ hX hm2 ((H.out.stp B0.out).stp hSc)).mono ?_
  rintro e wq2 ⟨rfl, bq⟩
  have hbq : Below W0.heap.size W0 wq2 := hSc.trans (bq.mono hSc.size)
  refine ⟨fun W => Below W0.heap.size W0 W, fun W hW => hW, hbq, ?_⟩
  clear hSc bq
  have hSc : Below W0.heap.size W0 wq2 := hbq
  clear hbq
  try simp only [Act.put, List.setIfInBounds_toArray, List.set_cons_zero, List.set_cons_succ]
  refine held_next 7 rfl (by kernel_rfl) (by rfl) ?_
  go_simp
  refine ⟨fun W => Below W0.heap.size W0 W, fun W hW => hW, hSc, ?_⟩
  refine wpAnyH_done (by kernel_rfl) ?_ _
  have BB := Lib.hid (B0.out.trans (hSc.mono B0.out.size))
  go_wp2
  go_ret
  exact ⟨rfl, BB.out⟩

theorem rank_c {N : Nat → Prop} (v : Value) (p : Nat → Bool) (k : Nat) (m : Nat) (x : Int) (w : World) (hX : -9000000000 ≤ x ∧ x ≤ 9000000000) (hm2 : ct p (cl x) = m) (h : Cn N w v p k) :
    Calls Tryz.prog 86 #[v, .int .i64 x] w fun e w' => e = .returned (.int .i64 m) ∧ Below w.heap.size w w' := by
  cases h with
  | arr κ A n c hκ hn h => exact rank_1 p κ A n c m x 0 w hX hm2 hκ hn h.1
  | wrd A c h => exact rank_2 p A c m x 0 w hX hm2 h.1
  | run A n c hn h => exact rank_3 p A n c m x 0 w hX hm2 hn h.1

set_option maxHeartbeats 1000000 in
theorem select_1 (p : Nat → Bool) (κ : Int) (A : Option Addr) (n c : Nat) (x : Int) (lo : Nat) (w : World) (hT : Tb w) (hX : x ≤ 9223372036854775807) (hκ : κ = 0 ∨ κ = 1) (hn : ct p 65536 = n) (h : Gs e16 w lo w.heap.size (.slice A n c) (ls p 65536)) :
    Calls Tryz.prog 103 #[.agg #[.int .u8 κ, .slice A n c, .slice none 0 0, .slice none 0 0], .int .i64 x] w fun e w' => e = .returned (.tuple #[.int .u16 ((sx p x).toNat : Nat), .bool (so p x)]) ∧ Below w.heap.size w w' := by
  have H0 := Lib.hid (Cn.arr (N := fun _ => True) κ A n c hκ hn (Gp.of h (Nat.le_refl _) fun _ _ _ => trivial))
  have H := Lib.hid h
  have TT := Lib.hid hT
  have T := two_blocks w #[.int .u8 κ, .slice A n c, .slice none 0 0, .slice none 0 0] #[.nilFunc, .func (.func 159) #[] #[], .func (.func 160) #[] #[], .func (.func 161) #[] #[]] 65 181
  clear h
  go_enter Tryz.func103, Tryz.ntmps103
  go_wp2_with fail
  generalize (w.alloc (.cells #[.int .u8 κ, .slice A n c, .slice none 0 0, .slice none 0 0] 65)).alloc (.cells #[.nilFunc, .func (.func 159) #[] #[], .func (.func 160) #[] #[], .func (.func 161) #[] #[]] 181) = W0 at *
  obtain ⟨b0, r0, r1⟩ := T
  have K0 : Hid (∀ W, Below W0.heap.size W0 W → W.cell? ⟨w.heap.size, 0, none⟩ = some (.int .u8 κ) ∧ W.cell? ⟨w.heap.size, 1, none⟩ = some (.slice A n c) ∧ W.cell? ⟨w.heap.size, 2, none⟩ = some (.slice none 0 0) ∧ W.cell? ⟨w.heap.size, 3, none⟩ = some (.slice none 0 0)) := Lib.hid fun W hW => by
    have r := r0.below hW r0.lt
    exact ⟨r.cell 0, r.cell 1, r.cell 2, r.cell 3⟩
  have K1 : Hid (∀ W, Below W0.heap.size W0 W → W.cell? ⟨w.heap.size + 1, 1, none⟩ = some (.func (.func 159) #[] #[])) := Lib.hid fun W hW => (r1.below hW r1.lt).cell 1
  have B0 := Lib.hid b0
  have hSc : Below W0.heap.size W0 W0.drew := (Below.refl W0.heap.size W0).drew
  clear b0 r0 r1
  refine wp_region_held_drew (S := fun W => Below W0.heap.size W0 W) (by kernel_rfl) hSc (fun _ => ?_)
  refine held_take 0 ?_ rfl (by kernel_rfl) (by kernel_rfl) (by kernel_rfl) (fun _ _ _ h => h) (by rfl) ?_ hSc ?_
  rotate_left
  · (intro W hSW; obtain ⟨k0, k1, k2, k3⟩ := K0.out W hSW; go_simp; try rfl)
  try simp only [Act.put, List.setIfInBounds_toArray, List.set_cons_zero, List.set_cons_succ]
  refine held_take 4 ?_ rfl (by kernel_rfl) (by kernel_rfl) (by kernel_rfl) (fun _ _ _ h => h) (by rfl) ?_ hSc ?_
  rotate_left
  · (intro W hSW; obtain ⟨k0, k1, k2, k3⟩ := K0.out W hSW; go_simp; try rfl)
  try simp only [Act.put, List.setIfInBounds_toArray, List.set_cons_zero, List.set_cons_succ]
  refine held_take 5 ?_ rfl (by kernel_rfl) (by kernel_rfl) (by kernel_rfl) (fun _ _ _ h => h) (by rfl) ?_ hSc ?_
  rotate_left
  · (intro W hSW; go_simp; try rfl)
  try simp only [Act.put, List.setIfInBounds_toArray, List.set_cons_zero, List.set_cons_succ]
  refine held_next 1 rfl (by kernel_rfl) (by rfl) ?_
  go_simp
  refine (kind_c _ p 1 _ ((H0.out.step B0.out).step hSc)).mono ?_
  rintro e wq1 ⟨rfl, bq⟩
  have hbq : Below W0.heap.size W0 wq1 := hSc.trans (bq.mono hSc.size)
  refine ⟨fun W => Below W0.heap.size W0 W, fun W hW => hW, hbq, ?_⟩
  clear hSc bq
  have hSc : Below W0.heap.size W0 wq1 := hbq
  clear hbq
  try simp only [Act.put, List.setIfInBounds_toArray, List.set_cons_zero, List.set_cons_succ]
  have KS := Lib.hid hSc.size
  refine held_take 2 ?_ rfl (by kernel_rfl) (by kernel_rfl) (by kernel_rfl) (fun _ _ _ h => h) (by rfl) ?_ hSc ?_
  rotate_left
  · (intro W hSW; go_simp; try rfl)
  try simp only [Act.put, List.setIfInBounds_toArray, List.set_cons_zero, List.set_cons_succ]
  refine held_take 3 ?_ rfl (by kernel_rfl) (by kernel_rfl) (by kernel_rfl) (fun _ _ _ h => h) (by rfl) ?_ hSc ?_
  rotate_left
  · (intro W hSW; have k1 := K1.out W hSW; go_simp; try rfl)
  try simp only [Act.put, List.setIfInBounds_toArray, List.set_cons_zero, List.set_cons_succ]
  refine held_next 6 rfl (by kernel_rfl) (by rfl) ?_
  go_simp
  refine (arraySelect_c p κ A n c x lo _ hn ((H.out.stp B0.out).stp hSc)).mono ?_
  rintro e wq2 ⟨rfl, bq⟩
  have hbq : Below W0.heap.size W0 wq2 := hSc.trans (bq.mono hSc.size)
  refine ⟨fun W => Below W0.heap.size W0 W, fun W hW => hW, hbq, ?_⟩
  clear hSc bq
  have hSc : Below W0.heap.size W0 wq2 := hbq
  clear hbq
  try simp only [Act.put, List.setIfInBounds_toArray, List.set_cons_zero, List.set_cons_succ]
  refine held_take 7 ?_ rfl (by kernel_rfl) (by kernel_rfl) (by kernel_rfl) (fun _ _ _ h => h) (by rfl) ?_ hSc ?_
  rotate_left
  · (intro W hSW; go_simp; try rfl)
  try simp only [Act.put, List.setIfInBounds_toArray, List.set_cons_zero, List.set_cons_succ]
  refine held_take 8 ?_ rfl (by kernel_rfl) (by kernel_rfl) (by kernel_rfl) (fun _ _ _ h => h) (by rfl) ?_ hSc ?_
  rotate_left
  · (intro W hSW; go_simp; try rfl)
  try simp only [Act.put, List.setIfInBounds_toArray, List.set_cons_zero, List.set_cons_succ]
  refine held_next 9 rfl (by kernel_rfl) (by rfl) ?_
  go_simp
  refine ⟨fun W => Below W0.heap.size W0 W, fun W hW => hW, hSc, ?_⟩
  try simp only [Act.put, List.setIfInBounds_toArray, List.set_cons_zero, List.set_cons_succ]
  refine held_next 10 rfl (by kernel_rfl) (by rfl) ?_
  go_simp
  refine ⟨fun W => Below W0.heap.size W0 W, fun W hW => hW, hSc, ?_⟩
  refine wpAnyH_done (by kernel_rfl) ?_ _
  have BB := Lib.hid (B0.out.trans (hSc.mono B0.out.size))
  go_wp2
  go_ret2
  exact ⟨rfl, BB.out⟩

set_option maxHeartbeats 1000000 in
theorem select_2 (p : Nat → Bool) (A : Option Addr) (c : Nat) (x : Int) (lo : Nat) (w : World) (hT : Tb w) (hX : x ≤ 9223372036854775807) (h : Gs e64 w lo w.heap.size (.slice A 1024 c) (wm p)) :
    Calls Tryz.prog 103 #[.agg #[.int .u8 2, .slice none 0 0, .slice A 1024 c, .slice none 0 0], .int .i64 x] w fun e w' => e = .returned (.tuple #[.int .u16 ((sx p x).toNat : Nat), .bool (so p x)]) ∧ Below w.heap.size w w' := by
  have H0 := Lib.hid (Cn.wrd (N := fun _ => True) A c (Gp.of h (Nat.le_refl _) fun _ _ _ => trivial))
  have H := Lib.hid h
  have TT := Lib.hid hT
  have T := two_blocks w #[.int .u8 2, .slice none 0 0, .slice A 1024 c, .slice none 0 0] #[.nilFunc, .func (.func 159) #[] #[], .func (.func 160) #[] #[], .func (.func 161) #[] #[]] 65 181
  clear h
  go_enter Tryz.func103, Tryz.ntmps103
  go_wp2_with fail
  generalize (w.alloc (.cells #[.int .u8 2, .slice none 0 0, .slice A 1024 c, .slice none 0 0] 65)).alloc (.cells #[.nilFunc, .func (.func 159) #[] #[], .func (.func 160) #[] #[], .func (.func 161) #[] #[]] 181) = W0 at *
  obtain ⟨b0, r0, r1⟩ := T
  have K0 : Hid (∀ W, Below W0.heap.size W0 W → W.cell? ⟨w.heap.size, 0, none⟩ = some (.int .u8 2) ∧ W.cell? ⟨w.heap.size, 1, none⟩ = some (.slice none 0 0) ∧ W.cell? ⟨w.heap.size, 2, none⟩ = some (.slice A 1024 c) ∧ W.cell? ⟨w.heap.size, 3, none⟩ = some (.slice none 0 0)) := Lib.hid fun W hW => by
    have r := r0.below hW r0.lt
    exact ⟨r.cell 0, r.cell 1, r.cell 2, r.cell 3⟩
  have K1 : Hid (∀ W, Below W0.heap.size W0 W → W.cell? ⟨w.heap.size + 1, 2, none⟩ = some (.func (.func 160) #[] #[])) := Lib.hid fun W hW => (r1.below hW r1.lt).cell 2
  have B0 := Lib.hid b0
  have hSc : Below W0.heap.size W0 W0.drew := (Below.refl W0.heap.size W0).drew
  clear b0 r0 r1
  refine wp_region_held_drew (S := fun W => Below W0.heap.size W0 W) (by kernel_rfl) hSc (fun _ => ?_)
  refine held_take 0 ?_ rfl (by kernel_rfl) (by kernel_rfl) (by kernel_rfl) (fun _ _ _ h => h) (by rfl) ?_ hSc ?_
  rotate_left
  · (intro W hSW; obtain ⟨k0, k1, k2, k3⟩ := K0.out W hSW; go_simp; try rfl)
  try simp only [Act.put, List.setIfInBounds_toArray, List.set_cons_zero, List.set_cons_succ]
  refine held_take 4 ?_ rfl (by kernel_rfl) (by kernel_rfl) (by kernel_rfl) (fun _ _ _ h => h) (by rfl) ?_ hSc ?_
  rotate_left
  · (intro W hSW; obtain ⟨k0, k1, k2, k3⟩ := K0.out W hSW; go_simp; try rfl)
  try simp only [Act.put, List.setIfInBounds_toArray, List.set_cons_zero, List.set_cons_succ]
  refine held_take 5 ?_ rfl (by kernel_rfl) (by kernel_rfl) (by kernel_rfl) (fun _ _ _ h => h) (by rfl) ?_ hSc ?_
  rotate_left
  · (intro W hSW; go_simp; try rfl)
  try simp only [Act.put, List.setIfInBounds_toArray, List.set_cons_zero, List.set_cons_succ]
  refine held_next 1 rfl (by kernel_rfl) (by rfl) ?_
  go_simp
  refine (kind_c _ p 2 _ ((H0.out.step B0.out).step hSc)).mono ?_
  rintro e wq1 ⟨rfl, bq⟩
  have hbq : Below W0.heap.size W0 wq1 := hSc.trans (bq.mono hSc.size)
  refine ⟨fun W => Below W0.heap.size W0 W, fun W hW => hW, hbq, ?_⟩
  clear hSc bq
  have hSc : Below W0.heap.size W0 wq1 := hbq
  clear hbq
  try simp only [Act.put, List.setIfInBounds_toArray, List.set_cons_zero, List.set_cons_succ]
  have KS := Lib.hid hSc.size
  refine held_take 2 ?_ rfl (by kernel_rfl) (by kernel_rfl) (by kernel_rfl) (fun _ _ _ h => h) (by rfl) ?_ hSc ?_
  rotate_left
  · (intro W hSW; go_simp; try rfl)
  try simp only [Act.put, List.setIfInBounds_toArray, List.set_cons_zero, List.set_cons_succ]
  refine held_take 3 ?_ rfl (by kernel_rfl) (by kernel_rfl) (by kernel_rfl) (fun _ _ _ h => h) (by rfl) ?_ hSc ?_
  rotate_left
  · (intro W hSW; have k1 := K1.out W hSW; go_simp; try rfl)
  try simp only [Act.put, List.setIfInBounds_toArray, List.set_cons_zero, List.set_cons_succ]
  refine held_next 6 rfl (by kernel_rfl) (by rfl) ?_
  go_simp
  refine (wordsSelect_c p A c x lo _ ((TT.out.step B0.out).step hSc) hX ((H.out.stp B0.out).stp hSc)).mono ?_
  rintro e wq2 ⟨rfl, bq⟩
  have hbq : Below W0.heap.size W0 wq2 := hSc.trans (bq.mono hSc.size)
  refine ⟨fun W => Below W0.heap.size W0 W, fun W hW => hW, hbq, ?_⟩
  clear hSc bq
  have hSc : Below W0.heap.size W0 wq2 := hbq
  clear hbq
  try simp only [Act.put, List.setIfInBounds_toArray, List.set_cons_zero, List.set_cons_succ]
  refine held_take 7 ?_ rfl (by kernel_rfl) (by kernel_rfl) (by kernel_rfl) (fun _ _ _ h => h) (by rfl) ?_ hSc ?_
  rotate_left
  · (intro W hSW; go_simp; try rfl)
  try simp only [Act.put, List.setIfInBounds_toArray, List.set_cons_zero, List.set_cons_succ]
  refine held_take 8 ?_ rfl (by kernel_rfl) (by kernel_rfl) (by kernel_rfl) (fun _ _ _ h => h) (by rfl) ?_ hSc ?_
  rotate_left
  · (intro W hSW; go_simp; try rfl)
  try simp only [Act.put, List.setIfInBounds_toArray, List.set_cons_zero, List.set_cons_succ]
  refine held_next 9 rfl (by kernel_rfl) (by rfl) ?_
  go_simp
  refine ⟨fun W => Below W0.heap.size W0 W, fun W hW => hW, hSc, ?_⟩
  try simp only [Act.put, List.setIfInBounds_toArray, List.set_cons_zero, List.set_cons_succ]
  refine held_next 10 rfl (by kernel_rfl) (by rfl) ?_
  go_simp
  refine ⟨fun W => Below W0.heap.size W0 W, fun W hW => hW, hSc, ?_⟩
  refine wpAnyH_done (by kernel_rfl) ?_ _
  have BB := Lib.hid (B0.out.trans (hSc.mono B0.out.size))
  go_wp2
  go_ret2
  exact ⟨rfl, BB.out⟩

set_option maxHeartbeats 1000000 in
theorem select_3 (p : Nat → Bool) (A : Option Addr) (n c : Nat) (x : Int) (lo : Nat) (w : World) (hT : Tb w) (hX : x ≤ 9223372036854775807) (hn : ct (hm p) 65536 = n) (h : Gs2 eR w lo w.heap.size (.slice A n c) (rs p 65536)) :
    Calls Tryz.prog 103 #[.agg #[.int .u8 3, .slice none 0 0, .slice none 0 0, .slice A n c], .int .i64 x] w fun e w' => e = .returned (.tuple #[.int .u16 ((sx p x).toNat : Nat), .bool (so p x)]) ∧ Below w.heap.size w w' := by
  have H0 := Lib.hid (Cn.run (N := fun _ => True) A n c hn (Gp2.of h (Nat.le_refl _) fun _ _ _ => trivial))
  have H := Lib.hid h
  have TT := Lib.hid hT
  have T := two_blocks w #[.int .u8 3, .slice none 0 0, .slice none 0 0, .slice A n c] #[.nilFunc, .func (.func 159) #[] #[], .func (.func 160) #[] #[], .func (.func 161) #[] #[]] 65 181
  clear h
  go_enter Tryz.func103, Tryz.ntmps103
  go_wp2_with fail
  generalize (w.alloc (.cells #[.int .u8 3, .slice none 0 0, .slice none 0 0, .slice A n c] 65)).alloc (.cells #[.nilFunc, .func (.func 159) #[] #[], .func (.func 160) #[] #[], .func (.func 161) #[] #[]] 181) = W0 at *
  obtain ⟨b0, r0, r1⟩ := T
  have K0 : Hid (∀ W, Below W0.heap.size W0 W → W.cell? ⟨w.heap.size, 0, none⟩ = some (.int .u8 3) ∧ W.cell? ⟨w.heap.size, 1, none⟩ = some (.slice none 0 0) ∧ W.cell? ⟨w.heap.size, 2, none⟩ = some (.slice none 0 0) ∧ W.cell? ⟨w.heap.size, 3, none⟩ = some (.slice A n c)) := Lib.hid fun W hW => by
    have r := r0.below hW r0.lt
    exact ⟨r.cell 0, r.cell 1, r.cell 2, r.cell 3⟩
  have K1 : Hid (∀ W, Below W0.heap.size W0 W → W.cell? ⟨w.heap.size + 1, 3, none⟩ = some (.func (.func 161) #[] #[])) := Lib.hid fun W hW => (r1.below hW r1.lt).cell 3
  have B0 := Lib.hid b0
  have hSc : Below W0.heap.size W0 W0.drew := (Below.refl W0.heap.size W0).drew
  clear b0 r0 r1
  refine wp_region_held_drew (S := fun W => Below W0.heap.size W0 W) (by kernel_rfl) hSc (fun _ => ?_)
  refine held_take 0 ?_ rfl (by kernel_rfl) (by kernel_rfl) (by kernel_rfl) (fun _ _ _ h => h) (by rfl) ?_ hSc ?_
  rotate_left
  · (intro W hSW; obtain ⟨k0, k1, k2, k3⟩ := K0.out W hSW; go_simp; try rfl)
  try simp only [Act.put, List.setIfInBounds_toArray, List.set_cons_zero, List.set_cons_succ]
  refine held_take 4 ?_ rfl (by kernel_rfl) (by kernel_rfl) (by kernel_rfl) (fun _ _ _ h => h) (by rfl) ?_ hSc ?_
  rotate_left
  · (intro W hSW; obtain ⟨k0, k1, k2, k3⟩ := K0.out W hSW; go_simp; try rfl)
  try simp only [Act.put, List.setIfInBounds_toArray, List.set_cons_zero, List.set_cons_succ]
  refine held_take 5 ?_ rfl (by kernel_rfl) (by kernel_rfl) (by kernel_rfl) (fun _ _ _ h => h) (by rfl) ?_ hSc ?_
  rotate_left
  · (intro W hSW; go_simp; try rfl)
  try simp only [Act.put, List.setIfInBounds_toArray, List.set_cons_zero, List.set_cons_succ]
  refine held_next 1 rfl (by kernel_rfl) (by rfl) ?_
  go_simp
  refine (kind_c _ p 3 _ ((H0.out.step B0.out).step hSc)).mono ?_
  rintro e wq1 ⟨rfl, bq⟩
  have hbq : Below W0.heap.size W0 wq1 := hSc.trans (bq.mono hSc.size)
  refine ⟨fun W => Below W0.heap.size W0 W, fun W hW => hW, hbq, ?_⟩
  clear hSc bq
  have hSc : Below W0.heap.size W0 wq1 := hbq
  clear hbq
  try simp only [Act.put, List.setIfInBounds_toArray, List.set_cons_zero, List.set_cons_succ]
  have KS := Lib.hid hSc.size
  refine held_take 2 ?_ rfl (by kernel_rfl) (by kernel_rfl) (by kernel_rfl) (fun _ _ _ h => h) (by rfl) ?_ hSc ?_
  rotate_left
  · (intro W hSW; go_simp; try rfl)
  try simp only [Act.put, List.setIfInBounds_toArray, List.set_cons_zero, List.set_cons_succ]
  refine held_take 3 ?_ rfl (by kernel_rfl) (by kernel_rfl) (by kernel_rfl) (fun _ _ _ h => h) (by rfl) ?_ hSc ?_
  rotate_left
  · (intro W hSW; have k1 := K1.out W hSW; go_simp; try rfl)
  try simp only [Act.put, List.setIfInBounds_toArray, List.set_cons_zero, List.set_cons_succ]
  refine held_next 6 rfl (by kernel_rfl) (by rfl) ?_
  go_simp
  refine (runsSelect_c p A n c x lo _ hX ((H.out.stp B0.out).stp hSc)).mono ?_
  rintro e wq2 ⟨rfl, bq⟩
  have hbq : Below W0.heap.size W0 wq2 := hSc.trans (bq.mono hSc.size)
  refine ⟨fun W => Below W0.heap.size W0 W, fun W hW => hW, hbq, ?_⟩
  clear hSc bq
  have hSc : Below W0.heap.size W0 wq2 := hbq
  clear hbq
  try simp only [Act.put, List.setIfInBounds_toArray, List.set_cons_zero, List.set_cons_succ]
  refine held_take 7 ?_ rfl (by kernel_rfl) (by kernel_rfl) (by kernel_rfl) (fun _ _ _ h => h) (by rfl) ?_ hSc ?_
  rotate_left
  · (intro W hSW; go_simp; try rfl)
  try simp only [Act.put, List.setIfInBounds_toArray, List.set_cons_zero, List.set_cons_succ]
  refine held_take 8 ?_ rfl (by kernel_rfl) (by kernel_rfl) (by kernel_rfl) (fun _ _ _ h => h) (by rfl) ?_ hSc ?_
  rotate_left
  · (intro W hSW; go_simp; try rfl)
  try simp only [Act.put, List.setIfInBounds_toArray, List.set_cons_zero, List.set_cons_succ]
  refine held_next 9 rfl (by kernel_rfl) (by rfl) ?_
  go_simp
  refine ⟨fun W => Below W0.heap.size W0 W, fun W hW => hW, hSc, ?_⟩
  try simp only [Act.put, List.setIfInBounds_toArray, List.set_cons_zero, List.set_cons_succ]
  refine held_next 10 rfl (by kernel_rfl) (by rfl) ?_
  go_simp
  refine ⟨fun W => Below W0.heap.size W0 W, fun W hW => hW, hSc, ?_⟩
  refine wpAnyH_done (by kernel_rfl) ?_ _
  have BB := Lib.hid (B0.out.trans (hSc.mono B0.out.size))
  go_wp2
  go_ret2
  exact ⟨rfl, BB.out⟩

theorem select_c {N : Nat → Prop} (v : Value) (p : Nat → Bool) (k : Nat) (x : Int) (w : World) (hT : Tb w) (hX : x ≤ 9223372036854775807) (h : Cn N w v p k) :
    Calls Tryz.prog 103 #[v, .int .i64 x] w fun e w' => e = .returned (.tuple #[.int .u16 ((sx p x).toNat : Nat), .bool (so p x)]) ∧ Below w.heap.size w w' := by
  cases h with
  | arr κ A n c hκ hn h => exact select_1 p κ A n c x 0 w hT hX hκ hn h.1
  | wrd A c h => exact select_2 p A c x 0 w hT hX h.1
  | run A n c hn h => exact select_3 p A n c x 0 w hT hX hn h.1
end Go.Proofs.YtcmifbjeabkihaaGreatDoor
