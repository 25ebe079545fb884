/- Walks: pieces. -/
import Derived.Test.YtponcpneflhpfaaGreatDoorSb5
import Derived.Test.YtponcpneflhpfaaGreatDoorSb4
namespace Go.Proofs.YtponcpneflhpfaaGreatDoor
open Go.RowKit
set_option linter.unusedVariables false

set_option maxHeartbeats 1000000 in
theorem rank_1 (p : Nat → Bool) (κ : Int) (A : Option Addr) (n c : Nat) (m : Nat) (x : Int) (lo : Nat) (w : World) (hX : -9000000000 ≤ x ∧ x ≤ 9000000000) (hm2 : ct p (cl x) = m) (hκ : κ = 0 ∨ κ = 1) (hn : ct p 65536 = n) (h : Gs e16 w lo w.heap.size (.slice A n c) (ls p 65536)) :
    Calls Tryz.prog 96 #[.agg #[.int .u8 κ, .slice A n c, .slice none 0 0, .slice none 0 0], .int .i64 x] w fun e w' => e = .returned (.int .i64 m) ∧ Below w.heap.size w w' := by
  have H0 := Lib.hid (Cn.arr (N := fun _ => True) κ A n c hκ hn (Gp.of h (Nat.le_refl _) fun _ _ _ => trivial))
  have H := Lib.hid h
  have T := two_blocks w #[.int .u8 κ, .slice A n c, .slice none 0 0, .slice none 0 0] #[.nilFunc, .func (.func 168) #[] #[], .func (.func 169) #[] #[], .func (.func 170) #[] #[]] 65 204
  clear h
  go_enter Tryz.func96, Tryz.ntmps96
  go_wp2_with fail
  generalize (w.alloc (.cells #[.int .u8 κ, .slice A n c, .slice none 0 0, .slice none 0 0] 65)).alloc (.cells #[.nilFunc, .func (.func 168) #[] #[], .func (.func 169) #[] #[], .func (.func 170) #[] #[]] 204) = W0 at *
  obtain ⟨b0, r0, r1⟩ := T
  have K0 : Hid (∀ W, Below W0.heap.size W0 W → W.cell? ⟨w.heap.size, 0, none⟩ = some (.int .u8 κ) ∧ W.cell? ⟨w.heap.size, 1, none⟩ = some (.slice A n c) ∧ W.cell? ⟨w.heap.size, 2, none⟩ = some (.slice none 0 0) ∧ W.cell? ⟨w.heap.size, 3, none⟩ = some (.slice none 0 0)) := Lib.hid fun W hW => by
    have r := r0.below hW r0.lt
    exact ⟨r.cell 0, r.cell 1, r.cell 2, r.cell 3⟩
  have K1 : Hid (∀ W, Below W0.heap.size W0 W → W.cell? ⟨w.heap.size + 1, 1, none⟩ = some (.func (.func 168) #[] #[])) := Lib.hid fun W hW => (r1.below hW r1.lt).cell 1
  have B0 := Lib.hid b0
  have hSc : Below W0.heap.size W0 W0.drew := (Below.refl W0.heap.size W0).drew
  clear b0 r0 r1
  refine wp_region_held_drew (S := fun W => Below W0.heap.size W0 W) (by kernel_rfl) hSc (fun _ => ?_)
  refine held_take 0 ?_ rfl (by kernel_rfl) (by kernel_rfl) (by kernel_rfl) (fun _ _ _ h => h) (by rfl) ?_ hSc ?_
  rotate_left
  · (intro W hSW; obtain ⟨k0, k1, k2, k3⟩ := K0.out W hSW; go_simp; try rfl)
  try simp only [Act.put, List.setIfInBounds_toArray, List.set_cons_zero, List.set_cons_succ]
  refine held_take 4 ?_ rfl (by kernel_rfl) (by kernel_rfl) (by kernel_rfl) (fun _ _ _ h => h) (by rfl) ?_ hSc ?_
  rotate_left
  · (intro W hSW; obtain ⟨k0, k1, k2, k3⟩ := K0.out W hSW; go_simp; try rfl)
  try simp only [Act.put, List.setIfInBounds_toArray, List.set_cons_zero, List.set_cons_succ]
  refine held_take 5 ?_ rfl (by kernel_rfl) (by kernel_rfl) (by kernel_rfl) (fun _ _ _ h => h) (by rfl) ?_ hSc ?_
  rotate_left
  · (intro W hSW; go_simp; try rfl)
  try simp only [Act.put, List.setIfInBounds_toArray, List.set_cons_zero, List.set_cons_succ]
  refine held_next 1 rfl (by kernel_rfl) (by rfl) ?_
  go_simp
  refine (kind_c _ p 1 _ ((H0.out.step B0.out).step hSc)).mono ?_
  rintro e wq1 ⟨rfl, bq⟩
  have hbq : Below W0.heap.size W0 wq1 := hSc.trans (bq.mono hSc.size)
  refine ⟨fun W => Below W0.heap.size W0 W, fun W hW => hW, hbq, ?_⟩
  clear hSc bq
  have hSc : Below W0.heap.size W0 wq1 := hbq
  clear hbq
  try simp only [Act.put, List.setIfInBounds_toArray, List.set_cons_zero, List.set_cons_succ]
  have KS := Lib.hid hSc.size
  refine held_take 2 ?_ rfl (by kernel_rfl) (by kernel_rfl) (by kernel_rfl) (fun _ _ _ h => h) (by rfl) ?_ hSc ?_
  rotate_left
  · (intro W hSW; go_simp; try rfl)
  try simp only [Act.put, List.setIfInBounds_toArray, List.set_cons_zero, List.set_cons_succ]
  refine held_take 3 ?_ rfl (by kernel_rfl) (by kernel_rfl) (by kernel_rfl) (fun _ _ _ h => h) (by rfl) ?_ hSc ?_
  rotate_left
  · (intro W hSW; have k1 := K1.out W hSW; go_simp; try rfl)
  try simp only [Act.put, List.setIfInBounds_toArray, List.set_cons_zero, List.set_cons_succ]
  refine held_next 6 rfl (by kernel_rfl) (by rfl) ?_
  go_simp
  refine (arrayRank_c p κ A n c x m lo _ hX hm2 hn ((H.out.stp B0.out).stp hSc)).mono ?_
  rintro e wq2 ⟨rfl, bq⟩
  have hbq : Below W0.heap.size W0 wq2 := hSc.trans (bq.mono hSc.size)
  refine ⟨fun W => Below W0.heap.size W0 W, fun W hW => hW, hbq, ?_⟩
  clear hSc bq
  have hSc : Below W0.heap.size W0 wq2 := hbq
  clear hbq
  try simp only [Act.put, List.setIfInBounds_toArray, List.set_cons_zero, List.set_cons_succ]
  refine held_next 7 rfl (by kernel_rfl) (by rfl) ?_
  go_simp
  refine ⟨fun W => Below W0.heap.size W0 W, fun W hW => hW, hSc, ?_⟩
  refine wpAnyH_done (by kernel_rfl) ?_ _
  have BB := Lib.hid (B0.out.trans (hSc.mono B0.out.size))
  go_wp2
  go_ret
  exact ⟨rfl, BB.out⟩

set_option maxHeartbeats 1000000 in
theorem rank_2 (p : Nat → Bool) (A : Option Addr) (c : Nat) (m : Nat) (x : Int) (lo : Nat) (w : World) (hX : -9000000000 ≤ x ∧ x ≤ 9000000000) (hm2 : ct p (cl x) = m) (h : Gs e64 w lo w.heap.size (.slice A 1024 c) (wm p)) :
    Calls Tryz.prog 96 #[.agg #[.int .u8 2, .slice none 0 0, .slice A 1024 c, .slice none 0 0], .int .i64 x] w fun e w' => e = .returned (.int .i64 m) ∧ Below w.heap.size w w' := by
  have H0 := Lib.hid (Cn.wrd (N := fun _ => True) A c (Gp.of h (Nat.le_refl _) fun _ _ _ => trivial))
  have H := Lib.hid h
  have T := two_blocks w #[.int .u8 2, .slice none 0 0, .slice A 1024 c, .slice none 0 0] #[.nilFunc, .func (.func 168) #[] #[], .func (.func 169) #[] #[], .func (.func 170) #[] #[]] 65 204
  clear h
  go_enter Tryz.func96, Tryz.ntmps96
  go_wp2_with fail
  generalize (w.alloc (.cells #[.int .u8 2, .slice none 0 0, .slice A 1024 c, .slice none 0 0] 65)).alloc (.cells #[.nilFunc, .func (.func 168) #[] #[], .func (.func 169) #[] #[], .func (.func 170) #[] #[]] 204) = W0 at *
  obtain ⟨b0, r0, r1⟩ := T
  have K0 : Hid (∀ W, Below W0.heap.size W0 W → W.cell? ⟨w.heap.size, 0, none⟩ = some (.int .u8 2) ∧ W.cell? ⟨w.heap.size, 1, none⟩ = some (.slice none 0 0) ∧ W.cell? ⟨w.heap.size, 2, none⟩ = some (.slice A 1024 c) ∧ W.cell? ⟨w.heap.size, 3, none⟩ = some (.slice none 0 0)) := Lib.hid fun W hW => by
    have r := r0.below hW r0.lt
    exact ⟨r.cell 0, r.cell 1, r.cell 2, r.cell 3⟩
  have K1 : Hid (∀ W, Below W0.heap.size W0 W → W.cell? ⟨w.heap.size + 1, 2, none⟩ = some (.func (.func 169) #[] #[])) := Lib.hid fun W hW => (r1.below hW r1.lt).cell 2
  have B0 := Lib.hid b0
  have hSc : Below W0.heap.size W0 W0.drew := (Below.refl W0.heap.size W0).drew
  clear b0 r0 r1
  refine wp_region_held_drew (S := fun W => Below W0.heap.size W0 W) (by kernel_rfl) hSc (fun _ => ?_)
  refine held_take 0 ?_ rfl (by kernel_rfl) (by kernel_rfl) (by kernel_rfl) (fun _ _ _ h => h) (by rfl) ?_ hSc ?_
  rotate_left
  · (intro W hSW; obtain ⟨k0, k1, k2, k3⟩ := K0.out W hSW; go_simp; try rfl)
  try simp only [Act.put, List.setIfInBounds_toArray, List.set_cons_zero, List.set_cons_succ]
  refine held_take 4 ?_ rfl (by kernel_rfl) (by kernel_rfl) (by kernel_rfl) (fun _ _ _ h => h) (by rfl) ?_ hSc ?_
  rotate_left
  · (intro W hSW; obtain ⟨k0, k1, k2, k3⟩ := K0.out W hSW; go_simp; try rfl)
  try simp only [Act.put, List.setIfInBounds_toArray, List.set_cons_zero, List.set_cons_succ]
  refine held_take 5 ?_ rfl (by kernel_rfl) (by kernel_rfl) (by kernel_rfl) (fun _ _ _ h => h) (by rfl) ?_ hSc ?_
  rotate_left
  · (intro W hSW; go_simp; try rfl)
  try simp only [Act.put, List.setIfInBounds_toArray, List.set_cons_zero, List.set_cons_succ]
  refine held_next 1 rfl (by kernel_rfl) (by rfl) ?_
  go_simp
  refine (kind_c _ p 2 _ ((H0.out.step B0.out).step hSc)).mono ?_
  rintro e wq1 ⟨rfl, bq⟩
  have hbq : Below W0.heap.size W0 wq1 := hSc.trans (bq.mono hSc.size)
  refine ⟨fun W => Below W0.heap.size W0 W, fun W hW => hW, hbq, ?_⟩
  clear hSc bq
  have hSc : Below W0.heap.size W0 wq1 := hbq
  clear hbq
  try simp only [Act.put, List.setIfInBounds_toArray, List.set_cons_zero, List.set_cons_succ]
  have KS := Lib.hid hSc.size
  refine held_take 2 ?_ rfl (by kernel_rfl) (by kernel_rfl) (by kernel_rfl) (fun _ _ _ h => h) (by rfl) ?_ hSc ?_
  rotate_left
  · (intro W hSW; go_simp; try rfl)
  try simp only [Act.put, List.setIfInBounds_toArray, List.set_cons_zero, List.set_cons_succ]
  refine held_take 3 ?_ rfl (by kernel_rfl) (by kernel_rfl) (by kernel_rfl) (fun _ _ _ h => h) (by rfl) ?_ hSc ?_
  rotate_left
  · (intro W hSW; have k1 := K1.out W hSW; go_simp; try rfl)
  try simp only [Act.put, List.setIfInBounds_toArray, List.set_cons_zero, List.set_cons_succ]
  refine held_next 6 rfl (by kernel_rfl) (by rfl) ?_
  go_simp
  refine (wordsRank_c p A c x m lo _ hm2 ((H.out.stp B0.out).stp hSc)).mono ?_
  rintro e wq2 ⟨rfl, bq⟩
  have hbq : Below W0.heap.size W0 wq2 := hSc.trans (bq.mono hSc.size)
  refine ⟨fun W => Below W0.heap.size W0 W, fun W hW => hW, hbq, ?_⟩
  clear hSc bq
  have hSc : Below W0.heap.size W0 wq2 := hbq
  clear hbq
  try simp only [Act.put, List.setIfInBounds_toArray, List.set_cons_zero, List.set_cons_succ]
  refine held_next 7 rfl (by kernel_rfl) (by rfl) ?_
  go_simp
  refine ⟨fun W => Below W0.heap.size W0 W, fun W hW => hW, hSc, ?_⟩
  refine wpAnyH_done (by kernel_rfl) ?_ _
  have BB := Lib.hid (B0.out.trans (hSc.mono B0.out.size))
  go_wp2
  go_ret
  exact ⟨rfl, BB.out⟩

set_option maxHeartbeats 1000000 in
theorem rank_3 (p : Nat → Bool) (A : Option Addr) (n c : Nat) (m : Nat) (x : Int) (lo : Nat) (w : World) (hX : -9000000000 ≤ x ∧ x ≤ 9000000000) (hm2 : ct p (cl x) = m) (hn : ct (hm p) 65536 = n) (h : Gs2 eR w lo w.heap.size (.slice A n c) (rs p 65536)) :
    Calls Tryz.prog 96 #[.agg #[.int .u8 3, .slice none 0 0, .slice none 0 0, .slice A n c], .int .i64 x] w fun e w' => e = .returned (.int .i64 m) ∧ Below w.heap.size w w' := by
  have H0 := Lib.hid (Cn.run (N := fun _ => True) A n c hn (Gp2.of h (Nat.le_refl _) fun _ _ _ => trivial))
  have H := Lib.hid h
  have T := two_blocks w #[.int .u8 3, .slice none 0 0, .slice none 0 0, .slice A n c] #[.nilFunc, .func (.func 168) #[] #[], .func (.func 169) #[] #[], .func (.func 170) #[] #[]] 65 204
  clear h
  go_enter Tryz.func96, Tryz.ntmps96
  go_wp2_with fail
  generalize (w.alloc (.cells #[.int .u8 3, .slice none 0 0, .slice none 0 0, .slice A n c] 65)).alloc (.cells #[.nilFunc, .func (.func 168) #[] #[], .func (.func 169) #[] #[], .func (.func 170) #[] #[]] 204) = W0 at *
  obtain ⟨b0, r0, r1⟩ := T
  have K0 : Hid (∀ W, Below W0.heap.size W0 W → W.cell? ⟨w.heap.size, 0, none⟩ = some (.int .u8 3) ∧ W.cell? ⟨w.heap.size, 1, none⟩ = some (.slice none 0 0) ∧ W.cell? ⟨w.heap.size, 2, none⟩ = some (.slice none 0 0) ∧ W.cell? ⟨w.heap.size, 3, none⟩ = some (.slice A n c)) := Lib.hid fun W hW => by
    have r := r0.below hW r0.lt
    exact ⟨r.cell 0, r.cell 1, r.cell 2, r.cell 3⟩
  have K1 : Hid (∀ W, Below W0.heap.size W0 W → W.cell? ⟨w.heap.size + 1, 3, none⟩ = some (.func (.func 170) #[] #[])) := Lib.hid fun W hW => (r1.below hW r1.lt).cell 3
  have B0 := Lib.hid b0
  have hSc : Below W0.heap.size W0 W0.drew := (Below.refl W0.heap.size W0).drew
  clear b0 r0 r1
  refine wp_region_held_drew (S := fun W => Below W0.heap.size W0 W) (by kernel_rfl) hSc (fun _ => ?_)
  refine held_take 0 ?_ rfl (by kernel_rfl) (by kernel_rfl) (by kernel_rfl) (fun _ _ _ h => h) (by rfl) ?_ hSc ?_
  rotate_left
  · (intro W hSW; obtain ⟨k0, k1, k2, k3⟩ := K0.out W hSW; go_simp; try rfl)
  try simp only [Act.put, List.setIfInBounds_toArray, List.set_cons_zero, List.set_cons_succ]
  refine held_take 4 ?_ rfl (by kernel_rfl) (by kernel_rfl) (by kernel_rfl) (fun _ _ _ h => h) (by rfl) ?_ hSc ?_
  rotate_left
  · (intro W hSW; obtain ⟨k0, k1, k2, k3⟩ := K0.out W hSW; go_simp; try rfl)
  try simp only [Act.put, List.setIfInBounds_toArray, List.set_cons_zero, List.set_cons_succ]
  refine held_take 5 ?_ rfl (by kernel_rfl) (by kernel_rfl) (by kernel_rfl) (fun _ _ _ h => h) (by rfl) ?_ hSc ?_
  rotate_left
  · (intro W hSW; go_simp; try rfl)
  try simp only [Act.put, List.setIfInBounds_toArray, List.set_cons_zero, List.set_cons_succ]
  refine held_next 1 rfl (by kernel_rfl) (by rfl) ?_
  go_simp
  refine (kind_c _ p 3 _ ((H0.out.step B0.out).step hSc)).mono ?_
  rintro e wq1 ⟨rfl, bq⟩
  have hbq : Below W0.heap.size W0 wq1 := hSc.trans (bq.mono hSc.size)
  refine ⟨fun W => Below W0.heap.size W0 W, fun W hW => hW, hbq, ?_⟩
  clear hSc bq
  have hSc : Below W0.heap.size W0 wq1 := hbq
  clear hbq
  try simp only [Act.put, List.setIfInBounds_toArray, List.set_cons_zero, List.set_cons_succ]
  have KS := Lib.hid hSc.size
  refine held_take 2 ?_ rfl (by kernel_rfl) (by kernel_rfl) (by kernel_rfl) (fun _ _ _ h => h) (by rfl) ?_ hSc ?_
  rotate_left
  · (intro W hSW; go_simp; try rfl)
  try simp only [Act.put, List.setIfInBounds_toArray, List.set_cons_zero, List.set_cons_succ]
  refine held_take 3 ?_ rfl (by kernel_rfl) (by kernel_rfl) (by kernel_rfl) (fun _ _ _ h => h) (by rfl) ?_ hSc ?_
  rotate_left
  · (intro W hSW; have k1 := K1.out W hSW; go_simp; try rfl)
  try simp only [Act.put, List.setIfInBounds_toArray, List.set_cons_zero, List.set_cons_succ]
  refine held_next 6 rfl (by kernel_rfl) (by rfl) ?_
  go_simp
  refine (runsRank_c p A n c x m lo _ hX hm2 ((H.out.stp B0.out).stp hSc)).mono ?_
  rintro e wq2 ⟨rfl, bq⟩
  have hbq : Below W0.heap.size W0 wq2 := hSc.trans (bq.mono hSc.size)
  refine ⟨fun W => Below W0.heap.size W0 W, fun W hW => hW, hbq, ?_⟩
  clear hSc bq
  have hSc : Below W0.heap.size W0 wq2 := hbq
  clear hbq
  try simp only [Act.put, List.setIfInBounds_toArray, List.set_cons_zero, List.set_cons_succ]
  refine held_next 7 rfl (by kernel_rfl) (by rfl) ?_
  go_simp
  refine ⟨fun W => Below W0.heap.size W0 W, fun W hW => hW, hSc, ?_⟩
  refine wpAnyH_done (by kernel_rfl) ?_ _
  have BB := Lib.hid (B0.out.trans (hSc.mono B0.out.size))
  go_wp2
  go_ret
  exact ⟨rfl, BB.out⟩

theorem rank_c {N : Nat → Prop} (v : Value) (p : Nat → Bool) (k : Nat) (m : Nat) (x : Int) (w : World) (hX : -9000000000 ≤ x ∧ x ≤ 9000000000) (hm2 : ct p (cl x) = m) (h : Cn N w v p k) :
    Calls Tryz.prog 96 #[v, .int .i64 x] w fun e w' => e = .returned (.int .i64 m) ∧ Below w.heap.size w w' := by
  cases h with
  | arr κ A n c hκ hn h => exact rank_1 p κ A n c m x 0 w hX hm2 hκ hn h.1
  | wrd A c h => exact rank_2 p A c m x 0 w hX hm2 h.1
  | run A n c hn h => exact rank_3 p A n c m x 0 w hX hm2 hn h.1

end Go.Proofs.YtponcpneflhpfaaGreatDoor
namespace Go.Proofs.YtponcpneflhpfaaGreatDoor
open Go.RowKit
set_option linter.unusedVariables false

theorem number_lo (k Z : Nat) (w : World) (hk : k < 65536) (hZ : 65536 * k = Z) :
    Calls Tryz.prog 88 #[.int .u16 k, .int .u16 0] w fun e w' => e = .returned (.int .u32 Z) ∧ w' = w := by
  subst hZ; exact number_c k 0 w hk (by omega)
theorem run_minb (w : World) (ts : Array TypeId) (t : TypeId) (x n : Int) (h : n = min x 4294967296) : (Builtin.min_ ts t #[.int .u64 x, .int .u64 4294967296]).run Tryz.prog w = .ok (.int .u64 n) w := by
  subst h
  have e : ∀ a b : Int, (if b < a then b else a) = min a b := fun a b => by split <;> omega
  simp [Builtin.min_, Builtin.min2, e]
set_option maxHeartbeats 4000000 in
theorem setrank_c {N : Nat → Prop} (v : Value) (P : Nat → Bool) (x : Nat) (m : Nat) (w : World) (h : St N w v P) (hm : ct P (min x 4294967296) = m) :
    Calls Tryz.prog 35 #[v, .int .u64 x] w fun e w' => e = .returned (.int .i64 m) ∧ Below w.heap.size w w' := by
  have H := Lib.hid h
  obtain ⟨X, hX⟩ : ∃ X, X = min x 4294967296 := ⟨_, rfl⟩
  rw [← hX] at hm
  have hXb : X ≤ 4294967296 := by omega
  have hmin := fun W => run_minb W #[29, 29] 29 (x : Int) (X : Int) (by omega)
  have HM := Lib.hid hm
  clear h hm hX
  go_enter Tryz.func35, Tryz.ntmps35
  go_wp2_with fail
  refine (entries_c v P _ H.out).mono ?_
  rintro e w0 ⟨A, n, c, es, rfl, hz, g, d⟩
  have hz := hz.symm
  subst hz
  have hn : n = es.length := by obtain ⟨_, _, e, _⟩ := g; injection e
  subst hn
  have HV := Lib.hid g
  have HD := Lib.hid d
  have hlen := d.len
  clear g d
  go_wp2
  go_loopw [5, 11] (fun s5 s11 wr => ∃ k q K : Nat, k ≤ es.length ∧ s5 = .int .i64 q ∧ s11 = .int .i64 k ∧ K ≤ 65536 ∧ Hid (Dir N w P K 65536 (es.drop k)) ∧ Hid (q = ct P (min X (65536 * K))) ∧ Below w.heap.size w wr) (fun _ s11 _ => es.length - (intOf s11).toNat)
  case atStart => exact ⟨0, 0, 0, Nat.zero_le _, rfl, rfl, Nat.zero_le _, HD.out, by rw [Nat.mul_zero, Nat.min_zero]; rfl, Below.refl _ _⟩
  case round =>
    obtain ⟨k, q, K, hk, rfl, rfl, hK, hdk, hq, hbl⟩ := hrel
    have HB := Lib.hid hbl
    by_cases hlt : k < es.length
    · obtain ⟨b, off, e, e1, -, hb, hdr, hg, c0, c1, c2, c3, c4⟩ := gsv_at HV.out hlt
      subst e1
      rw [← hbl.cell (p := ⟨b, off + k * 5, none⟩) hb] at c0
      rw [← hbl.cell (p := ⟨b, off + k * 5 + 1, none⟩) hb] at c1
      rw [← hbl.cell (p := ⟨b, off + k * 5 + 2, none⟩) hb] at c2
      rw [← hbl.cell (p := ⟨b, off + k * 5 + 3, none⟩) hb] at c3
      rw [← hbl.cell (p := ⟨b, off + k * 5 + 4, none⟩) hb] at c4
      have hd2 := hdk.out
      rw [hdr] at hd2
      have hh := hd2.head
      have HT := Lib.hid hd2.tail
      have hcn := hh.2.2.2
      have hK1 := hh.1
      have hK2 := hh.2.1
      have hgap := ct_gap_min P X hK1 hd2.gap
      have hnext := ct_clm P X e.key.toNat
      obtain ⟨y, hy⟩ : ∃ y, y = e.key.toNat := ⟨_, rfl⟩
      rw [← hy] at c0 hK1 hK2 hcn hgap hnext
      have HY := Lib.hid hy
      obtain ⟨Z, hZ⟩ : ∃ Z, 65536 * y = Z := ⟨_, rfl⟩
      have HZ := Lib.hid hZ
      have hZb : Z ≤ 4294967295 := by omega
      obtain ⟨r, hr⟩ : ∃ r, ct (blk P y) (cl ((X : Int) - (Z : Nat))) = r := ⟨_, rfl⟩
      have hcl : cl ((X : Int) - (Z : Nat)) = clm X y := by unfold cl clm; omega
      have hq1 := hq.out
      have hq2 : q + r = ct P (min X (65536 * (y + 1))) := by rw [hnext, hgap, ← hq1, ← hr, hcl]
      have hqb : q ≤ 4294967296 := by rw [hq1]; exact Nat.le_trans (ct_le _ _) (by omega)
      have hrb : r ≤ 65536 := by rw [← hr]; exact Nat.le_trans (ct_le _ _) (cl_le _)
      have HX9 : Hid (-9000000000 ≤ (X : Int) - (Z : Nat) ∧ (X : Int) - (Z : Nat) ≤ 9000000000) := Lib.hid (by omega)
      have HR := Lib.hid hr
      have HQ := Lib.hid hq2
      have HC := Lib.hid (hcn.step hbl)
      have hkl : (k : Int) < es.length := by omega
      have rz := Row.new wr 106 #[.int .u16 y, .int .u8 e.b.κ, .slice e.b.A e.b.n e.b.c, .slice e.b.A2 e.b.n2 e.b.c2, .slice e.b.A3 e.b.n3 e.b.c3]
      have bz := bx wr (.cells #[.int .u16 y, .int .u8 e.b.κ, .slice e.b.A e.b.n e.b.c, .slice e.b.A2 e.b.n2 e.b.c2, .slice e.b.A3 e.b.n3 e.b.c3] 106)
      have w1 : IntKind.i64.wrap (X : Int) = X := by simp [IntKind.wrap, IntKind.bits, IntKind.signed]; omega
      have w2 : IntKind.i64.wrap ((Z : Nat) : Int) = ((Z : Nat) : Int) := by simp [IntKind.wrap, IntKind.bits, IntKind.signed]; omega
      have w3 : IntKind.i64.wrap ((X : Int) - (Z : Nat)) = (X : Int) - (Z : Nat) := by rw [IntKind.wrap_i64]; omega
      have w4 : IntKind.i64.wrap ((q : Int) + r) = (q : Int) + r := by rw [IntKind.wrap_i64]; omega
      clear hd2 hdr hg hh hcn hgap hnext hy hZ hr hcl hq1 hq2 hq hbl hdk
      go_wp2_with fail
      generalize wr.alloc (.cells #[.int .u16 y, .int .u8 e.b.κ, .slice e.b.A e.b.n e.b.c, .slice e.b.A2 e.b.n2 e.b.c2, .slice e.b.A3 e.b.n3 e.b.c3] 106) = W1 at *
      have RZ := Lib.hid rz
      have B1 := Lib.hid bz
      have hSc : Below W1.heap.size W1 W1.drew := (Below.refl W1.heap.size W1).drew
      clear rz bz
      refine wp_region_held_drew (S := fun W => Below W1.heap.size W1 W) (by kernel_rfl) hSc (fun _ => ?_)
      refine held_take 0 ?_ rfl (by kernel_rfl) (by kernel_rfl) (by kernel_rfl) (fun _ _ _ h => h) (by rfl) ?_ hSc ?_
      rotate_left
      · (intro W hSW; go_simp; try rfl)
      try simp only [Act.put, List.setIfInBounds_toArray, List.set_cons_zero, List.set_cons_succ]
      refine held_take 1 ?_ rfl (by kernel_rfl) (by kernel_rfl) (by kernel_rfl) (fun _ _ _ h => h) (by rfl) ?_ hSc ?_
      rotate_left
      · (intro W hSW; go_simp; try rfl)
      try simp only [Act.put, List.setIfInBounds_toArray, List.set_cons_zero, List.set_cons_succ]
      refine held_take 2 ?_ rfl (by kernel_rfl) (by kernel_rfl) (by kernel_rfl) (fun _ _ _ h => h) (by rfl) ?_ hSc ?_
      rotate_left
      · (intro W hSW; have rr := RZ.out.below hSW RZ.out.lt; have k0 := rr.cell 0; have k1 := rr.cell 1; have k2 := rr.cell 2; have k3 := rr.cell 3; have k4 := rr.cell 4; go_simp; try rfl)
      try simp only [Act.put, List.setIfInBounds_toArray, List.set_cons_zero, List.set_cons_succ]
      refine held_take 3 ?_ rfl (by kernel_rfl) (by kernel_rfl) (by kernel_rfl) (fun _ _ _ h => h) (by rfl) ?_ hSc ?_
      rotate_left
      · (intro W hSW; go_simp; try rfl)
      try simp only [Act.put, List.setIfInBounds_toArray, List.set_cons_zero, List.set_cons_succ]
      refine held_take 4 ?_ rfl (by kernel_rfl) (by kernel_rfl) (by kernel_rfl) (fun _ _ _ h => h) (by rfl) ?_ hSc ?_
      rotate_left
      · (intro W hSW; go_simp; try rfl)
      try simp only [Act.put, List.setIfInBounds_toArray, List.set_cons_zero, List.set_cons_succ]
      refine held_take 5 ?_ rfl (by kernel_rfl) (by kernel_rfl) (by kernel_rfl) (fun _ _ _ h => h) (by rfl) ?_ hSc ?_
      rotate_left
      · (intro W hSW; go_simp; try rfl)
      try simp only [Act.put, List.setIfInBounds_toArray, List.set_cons_zero, List.set_cons_succ]
      refine held_take 6 ?_ rfl (by kernel_rfl) (by kernel_rfl) (by kernel_rfl) (fun _ _ _ h => h) (by rfl) ?_ hSc ?_
      rotate_left
      · (intro W hSW; go_simp; try rfl)
      try simp only [Act.put, List.setIfInBounds_toArray, List.set_cons_zero, List.set_cons_succ]
      refine held_take 7 ?_ rfl (by kernel_rfl) (by kernel_rfl) (by kernel_rfl) (fun _ _ _ h => h) (by rfl) ?_ hSc ?_
      rotate_left
      · (intro W hSW; have rr := RZ.out.below hSW RZ.out.lt; have k0 := rr.cell 0; have k1 := rr.cell 1; have k2 := rr.cell 2; have k3 := rr.cell 3; have k4 := rr.cell 4; go_simp; try rfl)
      try simp only [Act.put, List.setIfInBounds_toArray, List.set_cons_zero, List.set_cons_succ]
      refine held_next 8 rfl (by kernel_rfl) (by rfl) ?_
      go_simp
      refine (number_lo y Z _ hK2 HZ.out).mono ?_
      rintro e wq ⟨rfl, hz⟩
      have hz := hz.symm
      subst hz
      refine ⟨fun W => Below W1.heap.size W1 W, fun W hW => hW, hSc, ?_⟩
      try simp only [Act.put, List.setIfInBounds_toArray, List.set_cons_zero, List.set_cons_succ]
      refine held_take 9 ?_ rfl (by kernel_rfl) (by kernel_rfl) (by kernel_rfl) (fun _ _ _ h => h) (by rfl) ?_ hSc ?_
      rotate_left
      · (intro W hSW; go_simp; try rfl)
      try simp only [Act.put, List.setIfInBounds_toArray, List.set_cons_zero, List.set_cons_succ]
      refine held_take 10 ?_ rfl (by kernel_rfl) (by kernel_rfl) (by kernel_rfl) (fun _ _ _ h => h) (by rfl) ?_ hSc ?_
      rotate_left
      · (intro W hSW; go_simp; try rfl)
      try simp only [Act.put, List.setIfInBounds_toArray, List.set_cons_zero, List.set_cons_succ]
      refine held_next 11 rfl (by kernel_rfl) (by rfl) ?_
      go_simp
      refine (rank_c _ _ _ r _ _ HX9.out HR.out ((HC.out.step B1.out).step hSc)).mono ?_
      rintro e wq1 ⟨rfl, bq⟩
      have hbq : Below W1.heap.size W1 wq1 := hSc.trans (bq.mono hSc.size)
      refine ⟨fun W => Below W1.heap.size W1 W, fun W hW => hW, hbq, ?_⟩
      clear hSc bq
      have hSc : Below W1.heap.size W1 wq1 := hbq
      clear hbq
      try simp only [Act.put, List.setIfInBounds_toArray, List.set_cons_zero, List.set_cons_succ]
      refine held_take 12 ?_ rfl (by kernel_rfl) (by kernel_rfl) (by kernel_rfl) (fun _ _ _ h => h) (by rfl) ?_ hSc ?_
      rotate_left
      · (intro W hSW; go_simp; try rfl)
      try simp only [Act.put, List.setIfInBounds_toArray, List.set_cons_zero, List.set_cons_succ]
      refine held_next 13 rfl (by kernel_rfl) (by rfl) ?_
      go_simp
      refine ⟨fun W => Below W1.heap.size W1 W, fun W hW => hW, hSc, ?_⟩
      refine wpAnyH_done (by kernel_rfl) ?_ _
      have BB := Lib.hid ((HB.out.trans (B1.out.mono HB.out.size)).trans (hSc.mono (Nat.le_trans HB.out.size B1.out.size)))
      go_wp2
      refine ⟨⟨k + 1, q + r, y + 1, by omega, by push_cast; rfl, by go_num, by omega, ?_, HQ.out, BB.out⟩, by simp [intOf]; omega⟩
      have := HT.out
      rw [← HY.out] at this
      exact this
    · obtain rfl : k = es.length := by omega
      have hd2 := hdk.out
      rw [List.drop_length] at hd2
      have hf := ct_gap_min P X hK hd2.none
      rw [← hq.out, show min X (65536 * 65536) = X by omega, HM.out] at hf
      subst hf
      clear hdk hd2 hq hbl
      go_wp2
      go_ret
      exact ⟨rfl, HB.out⟩
theorem setlen_c {N : Nat → Prop} (v : Value) (P : Nat → Bool) (m : Nat) (w : World) (h : St N w v P) (hm : ct P 4294967296 = m) :
    Calls Tryz.prog 33 #[v] w fun e w' => e = .returned (.int .i64 m) ∧ Below w.heap.size w w' := by
  have H := Lib.hid h
  have HM := Lib.hid hm
  clear h hm
  go_enter Tryz.func33, Tryz.ntmps33
  go_wp2_with fail
  refine (setrank_c v P 4294967296 m _ H.out HM.out).mono ?_
  rintro e w1 ⟨rfl, b⟩
  have B := Lib.hid b
  clear b
  go_wp2
  go_ret
  exact ⟨rfl, B.out⟩
end Go.Proofs.YtponcpneflhpfaaGreatDoor
namespace Go.Proofs.YtponcpneflhpfaaGreatDoor
open Go.RowKit
set_option linter.unusedVariables false

/-- The k-th span's two cells. -/
theorem gss_at {w : World} {lo hi : Nat} {A : Option Addr} {n c : Nat} {l : List Sn} (h : Gs2 eSp w lo hi (.slice A n c) l) {k : Nat} (hk : k < l.length) :
    ∃ b off r, A = some ⟨b, off, none⟩ ∧ n = l.length ∧ b < hi ∧ l.drop k = r :: l.drop (k + 1) ∧ l[k]? = some r ∧ w.cell? ⟨b, off + k * 2, none⟩ = some (.int .u64 r.1.toNat) ∧ w.cell? ⟨b, off + k * 2 + 1, none⟩ = some (.int .u64 r.2.toNat) := by
  obtain ⟨b, off, c', e, -, -, -, hb, hc⟩ := h.form (by rintro rfl; simp at hk)
  injection e with e1 e2 e3
  have h1 := List.getElem?_eq_getElem hk
  have := hc k _ h1
  rw [Nat.mul_comm 2 k] at this
  exact ⟨b, off, _, e1, e2, hb, List.drop_eq_getElem_cons hk, h1, this.1, this.2⟩
theorem take_snoc {α : Type} {l : List α} {k : Nat} {x : α} (h : l[k]? = some x) : l.take (k + 1) = l.take k ++ [x] := by
  rw [List.take_add_one, h]; rfl
/-- What has been joined so far. -/
def JI (w2 : World) (wr : World) (v : Value) (l : List Sn) : Prop := Gw2 eSp wr w2.heap.size v l ∧ (l = [] → v = .slice none 0 0) ∧ Below w2.heap.size w2 wr
theorem wsp_ne (l : List Sn) (s : Sn) : wsp l s ≠ [] := by
  rcases snoc_cases l with rfl | ⟨a, r, rfl⟩
  · simp [wsp]
  · by_cases h : s.1.toNat ≤ r.2.toNat
    · rw [wsp_in _ _ _ h]; simp
    · rw [wsp_out _ _ _ h]; simp
set_option maxHeartbeats 4000000 in
theorem joined_c (v : Value) (l : List Sn) (w : World) (hv : Gs2 eSp w 0 w.heap.size v l) (hl : l.length ≤ 10000000) :
    Calls Tryz.prog 58 #[v] w fun e w' => ∃ v' l', e = .returned v' ∧ Gw2 eSp w' w.heap.size v' l' ∧ mys 0 l' ∧ (∀ x, sp l' x = (decide (x < 4294967296) && sp l x)) ∧ l'.length ≤ l.length ∧ Below w.heap.size w w' := by
  have HV := Lib.hid hv
  have HL := Lib.hid hl
  clear hv hl
  go_enter Tryz.func58, Tryz.ntmps58
  go_wp2_with fail
  refine (cloneSp_any v l 0 w HV.out (by have := HL.out; omega)).mono ?_
  rintro e w1 ⟨v1, rfl, g1, b1⟩
  have G1 := Lib.hid g1
  have B1 := Lib.hid b1
  clear g1 b1
  go_wp2_with fail
  refine (sortSp_c v1 l w.heap.size w1 G1.out (by have := HL.out; omega) B1.out.size).mono ?_
  rintro e w2 ⟨rfl, l1, hp, hs, g2, b2⟩
  have HPM := Lib.hid hp
  have HSR := Lib.hid hs
  have G2 := Lib.hid g2
  have B2 : Hid (Below w.heap.size w w2) := Lib.hid (B1.out.trans b2)
  have hlen : l1.length ≤ 10000000 := by rw [hp.length_eq]; exact HL.out
  have HLEN := Lib.hid hlen
  obtain ⟨A, c, rfl, -⟩ := g2
  clear hp hs b2 hlen G1
  go_wp2
  go_loopw [3, 12] (fun s3 s12 wr => ∃ k : Nat, k ≤ l1.length ∧ s12 = .int .i64 k ∧ Hid (JI w2 wr s3 (jn (l1.take k)))) (fun _ s12 _ => l1.length - (intOf s12).toNat)
  case atStart => exact ⟨0, Nat.zero_le _, rfl, Lib.hid ⟨Gw2.nil_ _ _, fun _ => rfl, Below.refl _ _⟩⟩
  case round =>
    obtain ⟨k, hk, rfl, hj⟩ := hrel
    have HJ := Lib.hid hj.out
    by_cases hlt : k < l1.length
    · obtain ⟨b, off, s, e1, -, hb, hdr, hg, c0, c1⟩ := gss_at G2.out hlt
      subst e1
      have hbl := hj.out.2.2
      rw [← hbl.cell (p := ⟨b, off + k * 2, none⟩) hb] at c0
      rw [← hbl.cell (p := ⟨b, off + k * 2 + 1, none⟩) hb] at c1
      have hts : jn (l1.take (k + 1)) = jst (jn (l1.take k)) s := by rw [take_snoc hg, jn_snoc]
      have HTS := Lib.hid hts
      have hch := clip_hi s
      obtain ⟨p, hp⟩ : ∃ p : Nat, p = s.1.toNat := ⟨_, rfl⟩
      obtain ⟨q, hq⟩ : ∃ q : Nat, q = s.2.toNat := ⟨_, rfl⟩
      obtain ⟨z, hz⟩ : ∃ z : Nat, z = (clip s).2.toNat := ⟨_, rfl⟩
      have hzq : z = min q 4294967296 := by rw [hz, hch, hq]
      rw [← hp] at c0
      rw [← hq] at c1
      have HP := Lib.hid hp
      have HZ := Lib.hid hz
      have hmin := fun W => run_minb W #[29, 29] 29 (q : Int) (z : Int) (by omega)
      have hkl : (k : Int) < l1.length := by omega
      have bz := bx wr (.cells #[.int .u64 (p : Int), .int .u64 (z : Int)] 34)
      have BZ := Lib.hid bz
      have hjl := Nat.le_trans (jn_len (l1.take k)) (by rw [List.length_take]; exact Nat.min_le_left _ _ : (l1.take k).length ≤ k)
      have HJL : Hid ((jn (l1.take k)).length ≤ 100000000) := Lib.hid (by have := HLEN.out; omega)
      clear hdr hg hts hch hp hq hz hzq hbl bz hjl hj
      by_cases h1 : p < z
      · have h1' : (p : Int) < z := by omega
        have HST : Hid (jst (jn (l1.take k)) s = wsp (jn (l1.take k)) (clip s)) := Lib.hid (by unfold jst; rw [if_pos]; rw [← HP.out, ← HZ.out]; exact h1)
        go_wp2_with fail
        have hW := withSpan_c (jn (l1.take k)) (clip s) _ w2.heap.size _ (HJ.out.1.below BZ.out (Nat.le_refl _)) HJ.out.2.1 HJL.out (Nat.le_trans HJ.out.2.2.size BZ.out.size)
        rw [show (((clip s).1.toNat : Nat) : Int) = (p : Int) from by rw [HP.out]; rfl, ← HZ.out] at hW
        refine hW.mono ?_
        clear hW
        rintro e w5 ⟨v5, rfl, g5, -, b5⟩
        have HN : Hid (JI w2 w5 v5 (wsp (jn (l1.take k)) (clip s))) := Lib.hid ⟨g5, fun h => absurd h (wsp_ne _ _), (HJ.out.2.2.trans (BZ.out.mono HJ.out.2.2.size)).trans b5⟩
        have hlen := HLEN.out
        clear g5 b5
        go_wp2
        refine ⟨⟨k + 1, by omega, by go_num, ?_⟩, by simp [intOf]; omega⟩
        rw [HTS.out, HST.out]
        exact HN
      · have h1' : decide ((p : Int) < z) = false := decide_eq_false (by omega)
        have h2' : decide (p < z) = false := decide_eq_false h1
        have HST : Hid (jst (jn (l1.take k)) s = jn (l1.take k)) := Lib.hid (by unfold jst; rw [if_neg]; rw [← HP.out, ← HZ.out]; exact h1)
        have hlen := HLEN.out
        go_wp2
        refine ⟨⟨k + 1, by omega, by go_num, ?_⟩, by simp [intOf]; omega⟩
        rw [HTS.out, HST.out]
        exact Lib.hid ⟨HJ.out.1.below BZ.out (Nat.le_refl _), HJ.out.2.1, HJ.out.2.2.trans (BZ.out.mono HJ.out.2.2.size)⟩
    · obtain rfl : k = l1.length := by omega
      have hj2 := hj.out
      rw [List.take_length] at hj2
      have HJ2 := Lib.hid hj2
      clear hj hj2
      go_wp2
      go_ret
      obtain ⟨j1, j2, j3⟩ := jn_right l1 HSR.out
      refine ⟨_, jn l1, rfl, HJ2.out.1.more B2.out.size, j1, fun x => ?_, ?_, B2.out.trans (HJ2.out.2.2.mono B2.out.size)⟩
      · rw [j2]
        congr 1
        unfold sp
        rw [Bool.eq_iff_iff, List.any_eq_true, List.any_eq_true]
        constructor
        · rintro ⟨s, h1, h2⟩; exact ⟨s, HPM.out.mem_iff.1 h1, h2⟩
        · rintro ⟨s, h1, h2⟩; exact ⟨s, HPM.out.mem_iff.2 h1, h2⟩
      · rw [← HPM.out.length_eq]; exact jn_len _
end Go.Proofs.YtponcpneflhpfaaGreatDoor
namespace Go.Proofs.YtponcpneflhpfaaGreatDoor
open Go.RowKit
set_option linter.unusedVariables false

theorem run_min2 (w : World) (ts : Array TypeId) (t : TypeId) (x y n : Int) (h : n = min x y) : (Builtin.min_ ts t #[.int .u64 x, .int .u64 y]).run Tryz.prog w = .ok (.int .u64 n) w := by
  subst h
  have e : ∀ a b : Int, (if b < a then b else a) = min a b := fun a b => by split <;> omega
  simp [Builtin.min_, Builtin.min2, e]
set_option maxHeartbeats 8000000 in
theorem pieces_c (v : Value) (l : List Sn) (w : World) (hv : Gs2 eSp w 0 w.heap.size v l) (hm : mys 0 l) (hl : l.length ≤ 10000000) :
    Calls Tryz.prog 57 #[v] w fun e w' => ∃ v', e = .returned v' ∧ Gw2 eSp w' w.heap.size v' (pcs l) ∧ Below w.heap.size w w' := by
  have HV := Lib.hid hv
  have HLEN := Lib.hid hl
  have hpl := (pcs_spec l 0 (by omega) hm).2.2
  have HPL : Hid ((pcs l).length ≤ 20000000) := Lib.hid (by omega)
  have HM := Lib.hid hm
  obtain ⟨A, c, rfl, -⟩ := hv
  clear hl hm hpl
  go_enter Tryz.func57, Tryz.ntmps57
  go_wp2
  go_loopw [3, 10] (fun s3 s10 wr => ∃ k : Nat, k ≤ l.length ∧ s10 = .int .i64 k ∧ Hid (Gw2 eSp wr w.heap.size s3 (pcs (l.take k)) ∧ Below w.heap.size w wr)) (fun _ s10 _ => l.length - (intOf s10).toNat)
  case atStart => exact ⟨0, Nat.zero_le _, rfl, Lib.hid ⟨Gw2.nil_ _ _, Below.refl _ _⟩⟩
  case round =>
    obtain ⟨k, hk, rfl, hj⟩ := hrel
    have HJ := Lib.hid hj.out
    by_cases hlt : k < l.length
    · obtain ⟨b, off, s, e1, -, hb, hdr, hg, c0, c1⟩ := gss_at HV.out hlt
      subst e1
      have hbl := hj.out.2
      rw [← hbl.cell (p := ⟨b, off + k * 2, none⟩) hb] at c0
      rw [← hbl.cell (p := ⟨b, off + k * 2 + 1, none⟩) hb] at c1
      have hts : pcs (l.take (k + 1)) = pcs (l.take k) ++ cut s.1.toNat s.2.toNat := by rw [take_snoc hg]; simp [pcs]
      have hle : (pcs (l.take k) ++ cut s.1.toNat s.2.toNat).length ≤ 20000000 := by
        rw [← hts]
        have e : pcs l = pcs (l.take (k + 1)) ++ pcs (l.drop (k + 1)) := by
          unfold pcs; rw [← List.flatMap_append, List.take_append_drop]
        have := HPL.out
        rw [e, List.length_append] at this
        omega
      have hsb : s.1.toNat < s.2.toNat ∧ s.2.toNat ≤ 4294967296 := by
        have : mys 0 (l.take k ++ [s]) := by
          have hh := HM.out
          rw [← List.take_append_drop (k + 1) l, take_snoc hg] at hh
          clear hle hts
          revert hh
          generalize l.take k ++ [s] = u
          generalize l.drop (k + 1) = t
          intro hh
          have : ∀ (u t : List Sn) (n : Nat), mys n (u ++ t) → mys n u := by
            intro u
            induction u with
            | nil => intro t n _; trivial
            | cons x u ih => intro t n h; exact ⟨h.1, h.2.1, h.2.2.1, ih t _ h.2.2.2⟩
          exact this u t 0 hh
        exact ⟨(mys_snoc.1 this).2.2.2.1, (mys_snoc.1 this).2.2.2.2⟩
      obtain ⟨p, hp⟩ : ∃ p : Nat, p = s.1.toNat := ⟨_, rfl⟩
      obtain ⟨q, hq⟩ : ∃ q : Nat, q = s.2.toNat := ⟨_, rfl⟩
      rw [← hp, ← hq] at hts hle hsb
      rw [← hp] at c0
      rw [← hq] at c1
      have HTS := Lib.hid hts
      have HLE := Lib.hid hle
      have hpq := hsb.1
      have hqb := hsb.2
      have hkl : (k : Int) < l.length := by omega
      have bz := bx wr (.cells #[.int .u64 (p : Int), .int .u64 (q : Int)] 34)
      have rz := Row.new wr 34 #[.int .u64 (p : Int), .int .u64 (q : Int)]
      clear hdr hg hts hle hsb hp hq hbl hj
      go_upto_region 6 with fail
      generalize wr.alloc (.cells #[.int .u64 (p : Int), .int .u64 (q : Int)] 34) = w1 at *
      have IN : Hid (Gw2 eSp w1 w.heap.size u3 (pcs (l.take k)) ∧ Row w1 wr.heap.size 34 #[.int .u64 (p : Int), .int .u64 (q : Int)] ∧ Below w.heap.size w w1) := Lib.hid ⟨HJ.out.1.below bz (Nat.le_refl _), rz, HJ.out.2.trans (bz.mono HJ.out.2.size)⟩
      have HWR : Hid (w.heap.size ≤ wr.heap.size) := Lib.hid HJ.out.2.size
      have OWNX : Hid (∀ g, u3.ownBlock = some g → g ≠ wr.heap.size) := Lib.hid (fun g hg => by have := (HJ.out.1.lt g hg).2; omega)
      clear bz rz HJ
      generalize wr.heap.size = g0 at *
      clear HWR
      go_loopw [3, 6] (fun t3 t6 wi => ∃ (T : List Sn) (lo : Nat), t6 = .int .u64 lo ∧ lo ≤ q ∧ Hid (T ++ cut lo q = pcs (l.take k) ++ cut p q) ∧ Hid (Gw2 eSp wi w.heap.size t3 T ∧ Row wi g0 34 #[.int .u64 (p : Int), .int .u64 (q : Int)] ∧ (∀ g, t3.ownBlock = some g → g ≠ g0) ∧ Below w.heap.size w wi)) (fun _ t6 _ => q - (intOf t6).toNat)
      case atStart => exact ⟨pcs (l.take k), p, rfl, by omega, Lib.hid rfl, Lib.hid ⟨IN.out.1, IN.out.2.1, OWNX.out, IN.out.2.2⟩⟩
      case round =>
        obtain ⟨T, lo, rfl, hlq, hT, hI⟩ := hrel
        have c0 : wr.cell? ⟨g0, 0, none⟩ = some (.int .u64 (p : Int)) := hI.out.2.1.cell 0
        have c1 : wr.cell? ⟨g0, 1, none⟩ = some (.int .u64 (q : Int)) := hI.out.2.1.cell 1
        by_cases h1 : lo < q
        · have h1' : (lo : Int) < q := by omega
          obtain ⟨h, hh⟩ : ∃ h : Nat, h = min q (lo - lo % 65536 + 65536) := ⟨_, rfl⟩
          have hmin := fun W => run_min2 W #[29, 29] 29 (q : Int) ((lo : Int) - (lo : Int) % 65536 + 65536) (h : Int) (by omega)
          have w1' : IntKind.u64.wrap ((lo : Int) % 65536) = (lo : Int) % 65536 := by rw [IntKind.wrap_u64]; omega
          have w2' : IntKind.u64.wrap ((lo : Int) - (lo : Int) % 65536) = (lo : Int) - (lo : Int) % 65536 := by rw [IntKind.wrap_u64]; omega
          have w3' : IntKind.u64.wrap ((lo : Int) - (lo : Int) % 65536 + 65536) = (lo : Int) - (lo : Int) % 65536 + 65536 := by rw [IntKind.wrap_u64]; omega
          have hc := cut_more h1
          rw [← hh] at hc
          have HC := Lib.hid hc
          have hhq : h ≤ q := by omega
          have hlh : lo < h := by omega
          have HTL : Hid (T.length + 1 ≤ 1000000000) := Lib.hid (by
            have e := hT.out
            have := HLE.out
            rw [← e, hc] at this
            simp only [List.length_append, List.length_cons] at this
            omega)
          have HT := Lib.hid hT.out
          have HI := Lib.hid hI.out
          have HU : Hid ((UInt64.ofNat lo).toNat = lo ∧ (UInt64.ofNat h).toNat = h) := Lib.hid ⟨u64_of lo (by omega), u64_of h (by omega)⟩
          clear hh hc hT hI
          go_wp2_with (at_builtin; refine wpList_gapp2_one (P := Tryz.prog) eSp _ rfl _ _ _ rfl w.heap.size sliSp infSp _ T rfl ?_ _ _ (UInt64.ofNat lo, UInt64.ofNat h) ?_ ?_ ?_ ?_ ?_ ?_; (exact HI.out.1); (show _ = Value.int .u64 _; rw [HU.out.1]); (show _ = Value.int .u64 _; rw [HU.out.2]); rfl; (exact HTL.out); (exact HI.out.2.2.2.size); intro v2 w2 o2 g2 g3; have NX : Hid (Gw2 eSp w2 w.heap.size v2 (T ++ [(UInt64.ofNat lo, UInt64.ofNat h)]) ∧ Row w2 g0 34 #[.int .u64 (p : Int), .int .u64 (q : Int)] ∧ (∀ g, v2.ownBlock = some g → g ≠ g0) ∧ Below w.heap.size w w2) := Lib.hid ⟨o2, HI.out.2.1.grown g2 (fun e => HI.out.2.2.1 _ e rfl), (fun g hg => by rcases g3 with e | e; exact HI.out.2.2.1 g (e ▸ hg); (rw [hg] at e; injection e with e; have := HI.out.2.1.lt; omega)), HI.out.2.2.2.grown g2 HI.out.2.2.2.size (fun j hj => (HI.out.1.lt j hj).1)⟩; clear o2 g2 g3)
          refine ⟨⟨_, h, rfl, hhq, Lib.hid (by rw [List.append_assoc, List.singleton_append, ← HC.out]; exact HT.out), NX⟩, by simp [intOf]; omega⟩
        · obtain rfl : lo = q := by omega
          have e := hT.out
          rw [cut_end h1, List.append_nil] at e
          have HTT : Hid (T = pcs (l.take (k + 1))) := Lib.hid (by rw [HTS.out]; exact e)
          have HI := Lib.hid hI.out
          have hlen := HLEN.out
          clear e hT hI
          go_wp2
          refine ⟨⟨k + 1, by omega, by go_num, Lib.hid ⟨by rw [← HTT.out]; exact HI.out.1, HI.out.2.2.2⟩⟩, by simp [intOf]; omega⟩
    · obtain rfl : k = l.length := by omega
      have hj2 := hj.out
      rw [List.take_length] at hj2
      have HJ2 := Lib.hid hj2
      clear hj hj2
      go_wp2
      go_ret
      exact ⟨_, rfl, HJ2.out.1, HJ2.out.2⟩
end Go.Proofs.YtponcpneflhpfaaGreatDoor
