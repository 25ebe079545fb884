/- Walks: Len, runCount, Array, Words, Runs, Has of a container: a table of method expressions each. -/
import Derived.Test.YtponcpneflhpfaaGreatDoorSb2
import Derived.Test.YtponcpneflhpfaaGreatDoorSa6
namespace Go.Proofs.YtponcpneflhpfaaGreatDoor
open Go.RowKit
set_option linter.unusedVariables false

theorem two_blocks (w : World) (o1 o2 : Array Value) (t1 t2 : TypeId) : Below w.heap.size w ((w.alloc (.cells o1 t1)).alloc (.cells o2 t2)) ∧ Row ((w.alloc (.cells o1 t1)).alloc (.cells o2 t2)) w.heap.size t1 o1 ∧ Row ((w.alloc (.cells o1 t1)).alloc (.cells o2 t2)) (w.heap.size + 1) t2 o2 := by
  refine ⟨(bx w _).trans ((bx _ _).mono (by simp)), (Row.new w t1 o1).alloc _, ?_⟩
  have h := Row.new (w.alloc (.cells o1 t1)) t2 o2
  simpa using h

set_option maxHeartbeats 1000000 in
theorem len_1 (p : Nat → Bool) (κ : Int) (A : Option Addr) (n c : Nat) (m : Nat) (lo : Nat) (w : World) (hm2 : ct p 65536 = m) (hκ : κ = 0 ∨ κ = 1) (hn : ct p 65536 = n) (h : Gs e16 w lo w.heap.size (.slice A n c) (ls p 65536)) :
    Calls Tryz.prog 111 #[.agg #[.int .u8 κ, .slice A n c, .slice none 0 0, .slice none 0 0]] w fun e w' => e = .returned (.int .i64 m) ∧ Below w.heap.size w w' := by
  obtain rfl : n = m := hn.symm.trans hm2
  have H0 := Lib.hid (Cn.arr (N := fun _ => True) κ A n c hκ hn (Gp.of h (Nat.le_refl _) fun _ _ _ => trivial))
  have H := Lib.hid h
  have T := two_blocks w #[.int .u8 κ, .slice A n c, .slice none 0 0, .slice none 0 0] #[.nilFunc, .func (.func 176) #[] #[], .func (.func 177) #[] #[], .func (.func 178) #[] #[]] 65 211
  clear h
  go_enter Tryz.func111, Tryz.ntmps111
  go_wp2_with fail
  generalize (w.alloc (.cells #[.int .u8 κ, .slice A n c, .slice none 0 0, .slice none 0 0] 65)).alloc (.cells #[.nilFunc, .func (.func 176) #[] #[], .func (.func 177) #[] #[], .func (.func 178) #[] #[]] 211) = W0 at *
  obtain ⟨b0, r0, r1⟩ := T
  have K0 : Hid (∀ W, Below W0.heap.size W0 W → W.cell? ⟨w.heap.size, 0, none⟩ = some (.int .u8 κ) ∧ W.cell? ⟨w.heap.size, 1, none⟩ = some (.slice A n c) ∧ W.cell? ⟨w.heap.size, 2, none⟩ = some (.slice none 0 0) ∧ W.cell? ⟨w.heap.size, 3, none⟩ = some (.slice none 0 0)) := Lib.hid fun W hW => by
    have r := r0.below hW r0.lt
    exact ⟨r.cell 0, r.cell 1, r.cell 2, r.cell 3⟩
  have K1 : Hid (∀ W, Below W0.heap.size W0 W → W.cell? ⟨w.heap.size + 1, 1, none⟩ = some (.func (.func 176) #[] #[])) := Lib.hid fun W hW => (r1.below hW r1.lt).cell 1
  have B0 := Lib.hid b0
  have hSc : Below W0.heap.size W0 W0.drew := (Below.refl W0.heap.size W0).drew
  clear b0 r0 r1
  refine wp_region_held_drew (S := fun W => Below W0.heap.size W0 W) (by kernel_rfl) hSc (fun _ => ?_)
  refine held_take 0 ?_ rfl (by kernel_rfl) (by kernel_rfl) (by kernel_rfl) (fun _ _ _ h => h) (by rfl) ?_ hSc ?_
  rotate_left
  · (intro W hSW; obtain ⟨k0, k1, k2, k3⟩ := K0.out W hSW; go_simp; try rfl)
  try simp only [Act.put, List.setIfInBounds_toArray, List.set_cons_zero, List.set_cons_succ]
  refine held_take 4 ?_ rfl (by kernel_rfl) (by kernel_rfl) (by kernel_rfl) (fun _ _ _ h => h) (by rfl) ?_ hSc ?_
  rotate_left
  · (intro W hSW; obtain ⟨k0, k1, k2, k3⟩ := K0.out W hSW; go_simp; try rfl)
  try simp only [Act.put, List.setIfInBounds_toArray, List.set_cons_zero, List.set_cons_succ]
  refine held_next 1 rfl (by kernel_rfl) (by rfl) ?_
  go_simp
  refine (kind_c _ p 1 _ ((H0.out.step B0.out).step hSc)).mono ?_
  rintro e wq1 ⟨rfl, bq⟩
  have hbq : Below W0.heap.size W0 wq1 := hSc.trans (bq.mono hSc.size)
  refine ⟨fun W => Below W0.heap.size W0 W, fun W hW => hW, hbq, ?_⟩
  clear hSc bq
  have hSc : Below W0.heap.size W0 wq1 := hbq
  clear hbq
  try simp only [Act.put, List.setIfInBounds_toArray, List.set_cons_zero, List.set_cons_succ]
  have KS := Lib.hid hSc.size
  refine held_take 2 ?_ rfl (by kernel_rfl) (by kernel_rfl) (by kernel_rfl) (fun _ _ _ h => h) (by rfl) ?_ hSc ?_
  rotate_left
  · (intro W hSW; go_simp; try rfl)
  try simp only [Act.put, List.setIfInBounds_toArray, List.set_cons_zero, List.set_cons_succ]
  refine held_take 3 ?_ rfl (by kernel_rfl) (by kernel_rfl) (by kernel_rfl) (fun _ _ _ h => h) (by rfl) ?_ hSc ?_
  rotate_left
  · (intro W hSW; have k1 := K1.out W hSW; go_simp; try rfl)
  try simp only [Act.put, List.setIfInBounds_toArray, List.set_cons_zero, List.set_cons_succ]
  refine held_next 5 rfl (by kernel_rfl) (by rfl) ?_
  go_simp
  refine (arrayLen_c p κ A n c _).mono ?_
  rintro e wq2 ⟨rfl, bq⟩
  have hbq : Below W0.heap.size W0 wq2 := hSc.trans (bq.mono hSc.size)
  refine ⟨fun W => Below W0.heap.size W0 W, fun W hW => hW, hbq, ?_⟩
  clear hSc bq
  have hSc : Below W0.heap.size W0 wq2 := hbq
  clear hbq
  try simp only [Act.put, List.setIfInBounds_toArray, List.set_cons_zero, List.set_cons_succ]
  refine held_next 6 rfl (by kernel_rfl) (by rfl) ?_
  go_simp
  refine ⟨fun W => Below W0.heap.size W0 W, fun W hW => hW, hSc, ?_⟩
  refine wpAnyH_done (by kernel_rfl) ?_ _
  have BB := Lib.hid (B0.out.trans (hSc.mono B0.out.size))
  go_wp2
  go_ret
  exact ⟨rfl, BB.out⟩

set_option maxHeartbeats 1000000 in
theorem len_2 (p : Nat → Bool) (A : Option Addr) (c : Nat) (m : Nat) (lo : Nat) (w : World) (hm2 : ct p 65536 = m) (h : Gs e64 w lo w.heap.size (.slice A 1024 c) (wm p)) :
    Calls Tryz.prog 111 #[.agg #[.int .u8 2, .slice none 0 0, .slice A 1024 c, .slice none 0 0]] w fun e w' => e = .returned (.int .i64 m) ∧ Below w.heap.size w w' := by
  have H0 := Lib.hid (Cn.wrd (N := fun _ => True) A c (Gp.of h (Nat.le_refl _) fun _ _ _ => trivial))
  have H := Lib.hid h
  have T := two_blocks w #[.int .u8 2, .slice none 0 0, .slice A 1024 c, .slice none 0 0] #[.nilFunc, .func (.func 176) #[] #[], .func (.func 177) #[] #[], .func (.func 178) #[] #[]] 65 211
  clear h
  go_enter Tryz.func111, Tryz.ntmps111
  go_wp2_with fail
  generalize (w.alloc (.cells #[.int .u8 2, .slice none 0 0, .slice A 1024 c, .slice none 0 0] 65)).alloc (.cells #[.nilFunc, .func (.func 176) #[] #[], .func (.func 177) #[] #[], .func (.func 178) #[] #[]] 211) = W0 at *
  obtain ⟨b0, r0, r1⟩ := T
  have K0 : Hid (∀ W, Below W0.heap.size W0 W → W.cell? ⟨w.heap.size, 0, none⟩ = some (.int .u8 2) ∧ W.cell? ⟨w.heap.size, 1, none⟩ = some (.slice none 0 0) ∧ W.cell? ⟨w.heap.size, 2, none⟩ = some (.slice A 1024 c) ∧ W.cell? ⟨w.heap.size, 3, none⟩ = some (.slice none 0 0)) := Lib.hid fun W hW => by
    have r := r0.below hW r0.lt
    exact ⟨r.cell 0, r.cell 1, r.cell 2, r.cell 3⟩
  have K1 : Hid (∀ W, Below W0.heap.size W0 W → W.cell? ⟨w.heap.size + 1, 2, none⟩ = some (.func (.func 177) #[] #[])) := Lib.hid fun W hW => (r1.below hW r1.lt).cell 2
  have B0 := Lib.hid b0
  have hSc : Below W0.heap.size W0 W0.drew := (Below.refl W0.heap.size W0).drew
  clear b0 r0 r1
  refine wp_region_held_drew (S := fun W => Below W0.heap.size W0 W) (by kernel_rfl) hSc (fun _ => ?_)
  refine held_take 0 ?_ rfl (by kernel_rfl) (by kernel_rfl) (by kernel_rfl) (fun _ _ _ h => h) (by rfl) ?_ hSc ?_
  rotate_left
  · (intro W hSW; obtain ⟨k0, k1, k2, k3⟩ := K0.out W hSW; go_simp; try rfl)
  try simp only [Act.put, List.setIfInBounds_toArray, List.set_cons_zero, List.set_cons_succ]
  refine held_take 4 ?_ rfl (by kernel_rfl) (by kernel_rfl) (by kernel_rfl) (fun _ _ _ h => h) (by rfl) ?_ hSc ?_
  rotate_left
  · (intro W hSW; obtain ⟨k0, k1, k2, k3⟩ := K0.out W hSW; go_simp; try rfl)
  try simp only [Act.put, List.setIfInBounds_toArray, List.set_cons_zero, List.set_cons_succ]
  refine held_next 1 rfl (by kernel_rfl) (by rfl) ?_
  go_simp
  refine (kind_c _ p 2 _ ((H0.out.step B0.out).step hSc)).mono ?_
  rintro e wq1 ⟨rfl, bq⟩
  have hbq : Below W0.heap.size W0 wq1 := hSc.trans (bq.mono hSc.size)
  refine ⟨fun W => Below W0.heap.size W0 W, fun W hW => hW, hbq, ?_⟩
  clear hSc bq
  have hSc : Below W0.heap.size W0 wq1 := hbq
  clear hbq
  try simp only [Act.put, List.setIfInBounds_toArray, List.set_cons_zero, List.set_cons_succ]
  have KS := Lib.hid hSc.size
  refine held_take 2 ?_ rfl (by kernel_rfl) (by kernel_rfl) (by kernel_rfl) (fun _ _ _ h => h) (by rfl) ?_ hSc ?_
  rotate_left
  · (intro W hSW; go_simp; try rfl)
  try simp only [Act.put, List.setIfInBounds_toArray, List.set_cons_zero, List.set_cons_succ]
  refine held_take 3 ?_ rfl (by kernel_rfl) (by kernel_rfl) (by kernel_rfl) (fun _ _ _ h => h) (by rfl) ?_ hSc ?_
  rotate_left
  · (intro W hSW; have k1 := K1.out W hSW; go_simp; try rfl)
  try simp only [Act.put, List.setIfInBounds_toArray, List.set_cons_zero, List.set_cons_succ]
  refine held_next 5 rfl (by kernel_rfl) (by rfl) ?_
  go_simp
  refine (wordsLen_c p A c m lo _ hm2 ((H.out.stp B0.out).stp hSc)).mono ?_
  rintro e wq2 ⟨rfl, bq⟩
  have hbq : Below W0.heap.size W0 wq2 := hSc.trans (bq.mono hSc.size)
  refine ⟨fun W => Below W0.heap.size W0 W, fun W hW => hW, hbq, ?_⟩
  clear hSc bq
  have hSc : Below W0.heap.size W0 wq2 := hbq
  clear hbq
  try simp only [Act.put, List.setIfInBounds_toArray, List.set_cons_zero, List.set_cons_succ]
  refine held_next 6 rfl (by kernel_rfl) (by rfl) ?_
  go_simp
  refine ⟨fun W => Below W0.heap.size W0 W, fun W hW => hW, hSc, ?_⟩
  refine wpAnyH_done (by kernel_rfl) ?_ _
  have BB := Lib.hid (B0.out.trans (hSc.mono B0.out.size))
  go_wp2
  go_ret
  exact ⟨rfl, BB.out⟩

set_option maxHeartbeats 1000000 in
theorem len_3 (p : Nat → Bool) (A : Option Addr) (n c : Nat) (m : Nat) (lo : Nat) (w : World) (hm2 : ct p 65536 = m) (hn : ct (hm p) 65536 = n) (h : Gs2 eR w lo w.heap.size (.slice A n c) (rs p 65536)) :
    Calls Tryz.prog 111 #[.agg #[.int .u8 3, .slice none 0 0, .slice none 0 0, .slice A n c]] w fun e w' => e = .returned (.int .i64 m) ∧ Below w.heap.size w w' := by
  have H0 := Lib.hid (Cn.run (N := fun _ => True) A n c hn (Gp2.of h (Nat.le_refl _) fun _ _ _ => trivial))
  have H := Lib.hid h
  have T := two_blocks w #[.int .u8 3, .slice none 0 0, .slice none 0 0, .slice A n c] #[.nilFunc, .func (.func 176) #[] #[], .func (.func 177) #[] #[], .func (.func 178) #[] #[]] 65 211
  clear h
  go_enter Tryz.func111, Tryz.ntmps111
  go_wp2_with fail
  generalize (w.alloc (.cells #[.int .u8 3, .slice none 0 0, .slice none 0 0, .slice A n c] 65)).alloc (.cells #[.nilFunc, .func (.func 176) #[] #[], .func (.func 177) #[] #[], .func (.func 178) #[] #[]] 211) = W0 at *
  obtain ⟨b0, r0, r1⟩ := T
  have K0 : Hid (∀ W, Below W0.heap.size W0 W → W.cell? ⟨w.heap.size, 0, none⟩ = some (.int .u8 3) ∧ W.cell? ⟨w.heap.size, 1, none⟩ = some (.slice none 0 0) ∧ W.cell? ⟨w.heap.size, 2, none⟩ = some (.slice none 0 0) ∧ W.cell? ⟨w.heap.size, 3, none⟩ = some (.slice A n c)) := Lib.hid fun W hW => by
    have r := r0.below hW r0.lt
    exact ⟨r.cell 0, r.cell 1, r.cell 2, r.cell 3⟩
  have K1 : Hid (∀ W, Below W0.heap.size W0 W → W.cell? ⟨w.heap.size + 1, 3, none⟩ = some (.func (.func 178) #[] #[])) := Lib.hid fun W hW => (r1.below hW r1.lt).cell 3
  have B0 := Lib.hid b0
  have hSc : Below W0.heap.size W0 W0.drew := (Below.refl W0.heap.size W0).drew
  clear b0 r0 r1
  refine wp_region_held_drew (S := fun W => Below W0.heap.size W0 W) (by kernel_rfl) hSc (fun _ => ?_)
  refine held_take 0 ?_ rfl (by kernel_rfl) (by kernel_rfl) (by kernel_rfl) (fun _ _ _ h => h) (by rfl) ?_ hSc ?_
  rotate_left
  · (intro W hSW; obtain ⟨k0, k1, k2, k3⟩ := K0.out W hSW; go_simp; try rfl)
  try simp only [Act.put, List.setIfInBounds_toArray, List.set_cons_zero, List.set_cons_succ]
  refine held_take 4 ?_ rfl (by kernel_rfl) (by kernel_rfl) (by kernel_rfl) (fun _ _ _ h => h) (by rfl) ?_ hSc ?_
  rotate_left
  · (intro W hSW; obtain ⟨k0, k1, k2, k3⟩ := K0.out W hSW; go_simp; try rfl)
  try simp only [Act.put, List.setIfInBounds_toArray, List.set_cons_zero, List.set_cons_succ]
  refine held_next 1 rfl (by kernel_rfl) (by rfl) ?_
  go_simp
  refine (kind_c _ p 3 _ ((H0.out.step B0.out).step hSc)).mono ?_
  rintro e wq1 ⟨rfl, bq⟩
  have hbq : Below W0.heap.size W0 wq1 := hSc.trans (bq.mono hSc.size)
  refine ⟨fun W => Below W0.heap.size W0 W, fun W hW => hW, hbq, ?_⟩
  clear hSc bq
  have hSc : Below W0.heap.size W0 wq1 := hbq
  clear hbq
  try simp only [Act.put, List.setIfInBounds_toArray, List.set_cons_zero, List.set_cons_succ]
  have KS := Lib.hid hSc.size
  refine held_take 2 ?_ rfl (by kernel_rfl) (by kernel_rfl) (by kernel_rfl) (fun _ _ _ h => h) (by rfl) ?_ hSc ?_
  rotate_left
  · (intro W hSW; go_simp; try rfl)
  try simp only [Act.put, List.setIfInBounds_toArray, List.set_cons_zero, List.set_cons_succ]
  refine held_take 3 ?_ rfl (by kernel_rfl) (by kernel_rfl) (by kernel_rfl) (fun _ _ _ h => h) (by rfl) ?_ hSc ?_
  rotate_left
  · (intro W hSW; have k1 := K1.out W hSW; go_simp; try rfl)
  try simp only [Act.put, List.setIfInBounds_toArray, List.set_cons_zero, List.set_cons_succ]
  refine held_next 5 rfl (by kernel_rfl) (by rfl) ?_
  go_simp
  refine (runsLen_c p A n c m lo _ hm2 ((H.out.stp B0.out).stp hSc)).mono ?_
  rintro e wq2 ⟨rfl, bq⟩
  have hbq : Below W0.heap.size W0 wq2 := hSc.trans (bq.mono hSc.size)
  refine ⟨fun W => Below W0.heap.size W0 W, fun W hW => hW, hbq, ?_⟩
  clear hSc bq
  have hSc : Below W0.heap.size W0 wq2 := hbq
  clear hbq
  try simp only [Act.put, List.setIfInBounds_toArray, List.set_cons_zero, List.set_cons_succ]
  refine held_next 6 rfl (by kernel_rfl) (by rfl) ?_
  go_simp
  refine ⟨fun W => Below W0.heap.size W0 W, fun W hW => hW, hSc, ?_⟩
  refine wpAnyH_done (by kernel_rfl) ?_ _
  have BB := Lib.hid (B0.out.trans (hSc.mono B0.out.size))
  go_wp2
  go_ret
  exact ⟨rfl, BB.out⟩

theorem len_c {N : Nat → Prop} (v : Value) (p : Nat → Bool) (k : Nat) (m : Nat) (w : World) (hm2 : ct p 65536 = m) (h : Cn N w v p k) :
    Calls Tryz.prog 111 #[v] w fun e w' => e = .returned (.int .i64 m) ∧ Below w.heap.size w w' := by
  cases h with
  | arr κ A n c hκ hn h => exact len_1 p κ A n c m 0 w hm2 hκ hn h.1
  | wrd A c h => exact len_2 p A c m 0 w hm2 h.1
  | run A n c hn h => exact len_3 p A n c m 0 w hm2 hn h.1

set_option maxHeartbeats 1000000 in
theorem runCount_1 (p : Nat → Bool) (κ : Int) (A : Option Addr) (n c : Nat) (m : Nat) (lo : Nat) (w : World) (hm2 : ct (hm p) 65536 = m) (hκ : κ = 0 ∨ κ = 1) (hn : ct p 65536 = n) (h : Gs e16 w lo w.heap.size (.slice A n c) (ls p 65536)) :
    Calls Tryz.prog 180 #[.agg #[.int .u8 κ, .slice A n c, .slice none 0 0, .slice none 0 0]] w fun e w' => e = .returned (.int .i64 m) ∧ Below w.heap.size w w' := by
  have H0 := Lib.hid (Cn.arr (N := fun _ => True) κ A n c hκ hn (Gp.of h (Nat.le_refl _) fun _ _ _ => trivial))
  have H := Lib.hid h
  have T := two_blocks w #[.int .u8 κ, .slice A n c, .slice none 0 0, .slice none 0 0] #[.nilFunc, .func (.func 243) #[] #[], .func (.func 244) #[] #[], .func (.func 245) #[] #[]] 65 211
  clear h
  go_enter Tryz.func180, Tryz.ntmps180
  go_wp2_with fail
  generalize (w.alloc (.cells #[.int .u8 κ, .slice A n c, .slice none 0 0, .slice none 0 0] 65)).alloc (.cells #[.nilFunc, .func (.func 243) #[] #[], .func (.func 244) #[] #[], .func (.func 245) #[] #[]] 211) = W0 at *
  obtain ⟨b0, r0, r1⟩ := T
  have K0 : Hid (∀ W, Below W0.heap.size W0 W → W.cell? ⟨w.heap.size, 0, none⟩ = some (.int .u8 κ) ∧ W.cell? ⟨w.heap.size, 1, none⟩ = some (.slice A n c) ∧ W.cell? ⟨w.heap.size, 2, none⟩ = some (.slice none 0 0) ∧ W.cell? ⟨w.heap.size, 3, none⟩ = some (.slice none 0 0)) := Lib.hid fun W hW => by
    have r := r0.below hW r0.lt
    exact ⟨r.cell 0, r.cell 1, r.cell 2, r.cell 3⟩
  have K1 : Hid (∀ W, Below W0.heap.size W0 W → W.cell? ⟨w.heap.size + 1, 1, none⟩ = some (.func (.func 243) #[] #[])) := Lib.hid fun W hW => (r1.below hW r1.lt).cell 1
  have B0 := Lib.hid b0
  have hSc : Below W0.heap.size W0 W0.drew := (Below.refl W0.heap.size W0).drew
  clear b0 r0 r1
  refine wp_region_held_drew (S := fun W => Below W0.heap.size W0 W) (by kernel_rfl) hSc (fun _ => ?_)
  refine held_take 0 ?_ rfl (by kernel_rfl) (by kernel_rfl) (by kernel_rfl) (fun _ _ _ h => h) (by rfl) ?_ hSc ?_
  rotate_left
  · (intro W hSW; obtain ⟨k0, k1, k2, k3⟩ := K0.out W hSW; go_simp; try rfl)
  try simp only [Act.put, List.setIfInBounds_toArray, List.set_cons_zero, List.set_cons_succ]
  refine held_take 4 ?_ rfl (by kernel_rfl) (by kernel_rfl) (by kernel_rfl) (fun _ _ _ h => h) (by rfl) ?_ hSc ?_
  rotate_left
  · (intro W hSW; obtain ⟨k0, k1, k2, k3⟩ := K0.out W hSW; go_simp; try rfl)
  try simp only [Act.put, List.setIfInBounds_toArray, List.set_cons_zero, List.set_cons_succ]
  refine held_next 1 rfl (by kernel_rfl) (by rfl) ?_
  go_simp
  refine (kind_c _ p 1 _ ((H0.out.step B0.out).step hSc)).mono ?_
  rintro e wq1 ⟨rfl, bq⟩
  have hbq : Below W0.heap.size W0 wq1 := hSc.trans (bq.mono hSc.size)
  refine ⟨fun W => Below W0.heap.size W0 W, fun W hW => hW, hbq, ?_⟩
  clear hSc bq
  have hSc : Below W0.heap.size W0 wq1 := hbq
  clear hbq
  try simp only [Act.put, List.setIfInBounds_toArray, List.set_cons_zero, List.set_cons_succ]
  have KS := Lib.hid hSc.size
  refine held_take 2 ?_ rfl (by kernel_rfl) (by kernel_rfl) (by kernel_rfl) (fun _ _ _ h => h) (by rfl) ?_ hSc ?_
  rotate_left
  · (intro W hSW; go_simp; try rfl)
  try simp only [Act.put, List.setIfInBounds_toArray, List.set_cons_zero, List.set_cons_succ]
  refine held_take 3 ?_ rfl (by kernel_rfl) (by kernel_rfl) (by kernel_rfl) (fun _ _ _ h => h) (by rfl) ?_ hSc ?_
  rotate_left
  · (intro W hSW; have k1 := K1.out W hSW; go_simp; try rfl)
  try simp only [Act.put, List.setIfInBounds_toArray, List.set_cons_zero, List.set_cons_succ]
  refine held_next 5 rfl (by kernel_rfl) (by rfl) ?_
  go_simp
  refine (arrayRunCount_c p κ A n c m lo _ hm2 ((H.out.stp B0.out).stp hSc)).mono ?_
  rintro e wq2 ⟨rfl, bq⟩
  have hbq : Below W0.heap.size W0 wq2 := hSc.trans (bq.mono hSc.size)
  refine ⟨fun W => Below W0.heap.size W0 W, fun W hW => hW, hbq, ?_⟩
  clear hSc bq
  have hSc : Below W0.heap.size W0 wq2 := hbq
  clear hbq
  try simp only [Act.put, List.setIfInBounds_toArray, List.set_cons_zero, List.set_cons_succ]
  refine held_next 6 rfl (by kernel_rfl) (by rfl) ?_
  go_simp
  refine ⟨fun W => Below W0.heap.size W0 W, fun W hW => hW, hSc, ?_⟩
  refine wpAnyH_done (by kernel_rfl) ?_ _
  have BB := Lib.hid (B0.out.trans (hSc.mono B0.out.size))
  go_wp2
  go_ret
  exact ⟨rfl, BB.out⟩

set_option maxHeartbeats 1000000 in
theorem runCount_2 (p : Nat → Bool) (A : Option Addr) (c : Nat) (m : Nat) (lo : Nat) (w : World) (hm2 : ct (hm p) 65536 = m) (h : Gs e64 w lo w.heap.size (.slice A 1024 c) (wm p)) :
    Calls Tryz.prog 180 #[.agg #[.int .u8 2, .slice none 0 0, .slice A 1024 c, .slice none 0 0]] w fun e w' => e = .returned (.int .i64 m) ∧ Below w.heap.size w w' := by
  have H0 := Lib.hid (Cn.wrd (N := fun _ => True) A c (Gp.of h (Nat.le_refl _) fun _ _ _ => trivial))
  have H := Lib.hid h
  have T := two_blocks w #[.int .u8 2, .slice none 0 0, .slice A 1024 c, .slice none 0 0] #[.nilFunc, .func (.func 243) #[] #[], .func (.func 244) #[] #[], .func (.func 245) #[] #[]] 65 211
  clear h
  go_enter Tryz.func180, Tryz.ntmps180
  go_wp2_with fail
  generalize (w.alloc (.cells #[.int .u8 2, .slice none 0 0, .slice A 1024 c, .slice none 0 0] 65)).alloc (.cells #[.nilFunc, .func (.func 243) #[] #[], .func (.func 244) #[] #[], .func (.func 245) #[] #[]] 211) = W0 at *
  obtain ⟨b0, r0, r1⟩ := T
  have K0 : Hid (∀ W, Below W0.heap.size W0 W → W.cell? ⟨w.heap.size, 0, none⟩ = some (.int .u8 2) ∧ W.cell? ⟨w.heap.size, 1, none⟩ = some (.slice none 0 0) ∧ W.cell? ⟨w.heap.size, 2, none⟩ = some (.slice A 1024 c) ∧ W.cell? ⟨w.heap.size, 3, none⟩ = some (.slice none 0 0)) := Lib.hid fun W hW => by
    have r := r0.below hW r0.lt
    exact ⟨r.cell 0, r.cell 1, r.cell 2, r.cell 3⟩
  have K1 : Hid (∀ W, Below W0.heap.size W0 W → W.cell? ⟨w.heap.size + 1, 2, none⟩ = some (.func (.func 244) #[] #[])) := Lib.hid fun W hW => (r1.below hW r1.lt).cell 2
  have B0 := Lib.hid b0
  have hSc : Below W0.heap.size W0 W0.drew := (Below.refl W0.heap.size W0).drew
  clear b0 r0 r1
  refine wp_region_held_drew (S := fun W => Below W0.heap.size W0 W) (by kernel_rfl) hSc (fun _ => ?_)
  refine held_take 0 ?_ rfl (by kernel_rfl) (by kernel_rfl) (by kernel_rfl) (fun _ _ _ h => h) (by rfl) ?_ hSc ?_
  rotate_left
  · (intro W hSW; obtain ⟨k0, k1, k2, k3⟩ := K0.out W hSW; go_simp; try rfl)
  try simp only [Act.put, List.setIfInBounds_toArray, List.set_cons_zero, List.set_cons_succ]
  refine held_take 4 ?_ rfl (by kernel_rfl) (by kernel_rfl) (by kernel_rfl) (fun _ _ _ h => h) (by rfl) ?_ hSc ?_
  rotate_left
  · (intro W hSW; obtain ⟨k0, k1, k2, k3⟩ := K0.out W hSW; go_simp; try rfl)
  try simp only [Act.put, List.setIfInBounds_toArray, List.set_cons_zero, List.set_cons_succ]
  refine held_next 1 rfl (by kernel_rfl) (by rfl) ?_
  go_simp
  refine (kind_c _ p 2 _ ((H0.out.step B0.out).step hSc)).mono ?_
  rintro e wq1 ⟨rfl, bq⟩
  have hbq : Below W0.heap.size W0 wq1 := hSc.trans (bq.mono hSc.size)
  refine ⟨fun W => Below W0.heap.size W0 W, fun W hW => hW, hbq, ?_⟩
  clear hSc bq
  have hSc : Below W0.heap.size W0 wq1 := hbq
  clear hbq
  try simp only [Act.put, List.setIfInBounds_toArray, List.set_cons_zero, List.set_cons_succ]
  have KS := Lib.hid hSc.size
  refine held_take 2 ?_ rfl (by kernel_rfl) (by kernel_rfl) (by kernel_rfl) (fun _ _ _ h => h) (by rfl) ?_ hSc ?_
  rotate_left
  · (intro W hSW; go_simp; try rfl)
  try simp only [Act.put, List.setIfInBounds_toArray, List.set_cons_zero, List.set_cons_succ]
  refine held_take 3 ?_ rfl (by kernel_rfl) (by kernel_rfl) (by kernel_rfl) (fun _ _ _ h => h) (by rfl) ?_ hSc ?_
  rotate_left
  · (intro W hSW; have k1 := K1.out W hSW; go_simp; try rfl)
  try simp only [Act.put, List.setIfInBounds_toArray, List.set_cons_zero, List.set_cons_succ]
  refine held_next 5 rfl (by kernel_rfl) (by rfl) ?_
  go_simp
  refine (wordsRunCount_c p A c m lo _ hm2 ((H.out.stp B0.out).stp hSc)).mono ?_
  rintro e wq2 ⟨rfl, bq⟩
  have hbq : Below W0.heap.size W0 wq2 := hSc.trans (bq.mono hSc.size)
  refine ⟨fun W => Below W0.heap.size W0 W, fun W hW => hW, hbq, ?_⟩
  clear hSc bq
  have hSc : Below W0.heap.size W0 wq2 := hbq
  clear hbq
  try simp only [Act.put, List.setIfInBounds_toArray, List.set_cons_zero, List.set_cons_succ]
  refine held_next 6 rfl (by kernel_rfl) (by rfl) ?_
  go_simp
  refine ⟨fun W => Below W0.heap.size W0 W, fun W hW => hW, hSc, ?_⟩
  refine wpAnyH_done (by kernel_rfl) ?_ _
  have BB := Lib.hid (B0.out.trans (hSc.mono B0.out.size))
  go_wp2
  go_ret
  exact ⟨rfl, BB.out⟩

set_option maxHeartbeats 1000000 in
theorem runCount_3 (p : Nat → Bool) (A : Option Addr) (n c : Nat) (m : Nat) (lo : Nat) (w : World) (hm2 : ct (hm p) 65536 = m) (hn : ct (hm p) 65536 = n) (h : Gs2 eR w lo w.heap.size (.slice A n c) (rs p 65536)) :
    Calls Tryz.prog 180 #[.agg #[.int .u8 3, .slice none 0 0, .slice none 0 0, .slice A n c]] w fun e w' => e = .returned (.int .i64 m) ∧ Below w.heap.size w w' := by
  obtain rfl : n = m := hn.symm.trans hm2
  have H0 := Lib.hid (Cn.run (N := fun _ => True) A n c hn (Gp2.of h (Nat.le_refl _) fun _ _ _ => trivial))
  have H := Lib.hid h
  have T := two_blocks w #[.int .u8 3, .slice none 0 0, .slice none 0 0, .slice A n c] #[.nilFunc, .func (.func 243) #[] #[], .func (.func 244) #[] #[], .func (.func 245) #[] #[]] 65 211
  clear h
  go_enter Tryz.func180, Tryz.ntmps180
  go_wp2_with fail
  generalize (w.alloc (.cells #[.int .u8 3, .slice none 0 0, .slice none 0 0, .slice A n c] 65)).alloc (.cells #[.nilFunc, .func (.func 243) #[] #[], .func (.func 244) #[] #[], .func (.func 245) #[] #[]] 211) = W0 at *
  obtain ⟨b0, r0, r1⟩ := T
  have K0 : Hid (∀ W, Below W0.heap.size W0 W → W.cell? ⟨w.heap.size, 0, none⟩ = some (.int .u8 3) ∧ W.cell? ⟨w.heap.size, 1, none⟩ = some (.slice none 0 0) ∧ W.cell? ⟨w.heap.size, 2, none⟩ = some (.slice none 0 0) ∧ W.cell? ⟨w.heap.size, 3, none⟩ = some (.slice A n c)) := Lib.hid fun W hW => by
    have r := r0.below hW r0.lt
    exact ⟨r.cell 0, r.cell 1, r.cell 2, r.cell 3⟩
  have K1 : Hid (∀ W, Below W0.heap.size W0 W → W.cell? ⟨w.heap.size + 1, 3, none⟩ = some (.func (.func 245) #[] #[])) := Lib.hid fun W hW => (r1.below hW r1.lt).cell 3
  have B0 := Lib.hid b0
  have hSc : Below W0.heap.size W0 W0.drew := (Below.refl W0.heap.size W0).drew
  clear b0 r0 r1
  refine wp_region_held_drew (S := fun W => Below W0.heap.size W0 W) (by kernel_rfl) hSc (fun _ => ?_)
  refine held_take 0 ?_ rfl (by kernel_rfl) (by kernel_rfl) (by kernel_rfl) (fun _ _ _ h => h) (by rfl) ?_ hSc ?_
  rotate_left
  · (intro W hSW; obtain ⟨k0, k1, k2, k3⟩ := K0.out W hSW; go_simp; try rfl)
  try simp only [Act.put, List.setIfInBounds_toArray, List.set_cons_zero, List.set_cons_succ]
  refine held_take 4 ?_ rfl (by kernel_rfl) (by kernel_rfl) (by kernel_rfl) (fun _ _ _ h => h) (by rfl) ?_ hSc ?_
  rotate_left
  · (intro W hSW; obtain ⟨k0, k1, k2, k3⟩ := K0.out W hSW; go_simp; try rfl)
  try simp only [Act.put, List.setIfInBounds_toArray, List.set_cons_zero, List.set_cons_succ]
  refine held_next 1 rfl (by kernel_rfl) (by rfl) ?_
  go_simp
  refine (kind_c _ p 3 _ ((H0.out.step B0.out).step hSc)).mono ?_
  rintro e wq1 ⟨rfl, bq⟩
  have hbq : Below W0.heap.size W0 wq1 := hSc.trans (bq.mono hSc.size)
  refine ⟨fun W => Below W0.heap.size W0 W, fun W hW => hW, hbq, ?_⟩
  clear hSc bq
  have hSc : Below W0.heap.size W0 wq1 := hbq
  clear hbq
  try simp only [Act.put, List.setIfInBounds_toArray, List.set_cons_zero, List.set_cons_succ]
  have KS := Lib.hid hSc.size
  refine held_take 2 ?_ rfl (by kernel_rfl) (by kernel_rfl) (by kernel_rfl) (fun _ _ _ h => h) (by rfl) ?_ hSc ?_
  rotate_left
  · (intro W hSW; go_simp; try rfl)
  try simp only [Act.put, List.setIfInBounds_toArray, List.set_cons_zero, List.set_cons_succ]
  refine held_take 3 ?_ rfl (by kernel_rfl) (by kernel_rfl) (by kernel_rfl) (fun _ _ _ h => h) (by rfl) ?_ hSc ?_
  rotate_left
  · (intro W hSW; have k1 := K1.out W hSW; go_simp; try rfl)
  try simp only [Act.put, List.setIfInBounds_toArray, List.set_cons_zero, List.set_cons_succ]
  refine held_next 5 rfl (by kernel_rfl) (by rfl) ?_
  go_simp
  refine (runsRunCount_c A n c _).mono ?_
  rintro e wq2 ⟨rfl, bq⟩
  have hbq : Below W0.heap.size W0 wq2 := hSc.trans (bq.mono hSc.size)
  refine ⟨fun W => Below W0.heap.size W0 W, fun W hW => hW, hbq, ?_⟩
  clear hSc bq
  have hSc : Below W0.heap.size W0 wq2 := hbq
  clear hbq
  try simp only [Act.put, List.setIfInBounds_toArray, List.set_cons_zero, List.set_cons_succ]
  refine held_next 6 rfl (by kernel_rfl) (by rfl) ?_
  go_simp
  refine ⟨fun W => Below W0.heap.size W0 W, fun W hW => hW, hSc, ?_⟩
  refine wpAnyH_done (by kernel_rfl) ?_ _
  have BB := Lib.hid (B0.out.trans (hSc.mono B0.out.size))
  go_wp2
  go_ret
  exact ⟨rfl, BB.out⟩

theorem runCount_c {N : Nat → Prop} (v : Value) (p : Nat → Bool) (k : Nat) (m : Nat) (w : World) (hm2 : ct (hm p) 65536 = m) (h : Cn N w v p k) :
    Calls Tryz.prog 180 #[v] w fun e w' => e = .returned (.int .i64 m) ∧ Below w.heap.size w w' := by
  cases h with
  | arr κ A n c hκ hn h => exact runCount_1 p κ A n c m 0 w hm2 hκ hn h.1
  | wrd A c h => exact runCount_2 p A c m 0 w hm2 h.1
  | run A n c hn h => exact runCount_3 p A n c m 0 w hm2 hn h.1

set_option maxHeartbeats 1000000 in
theorem array_1 (p : Nat → Bool) (κ : Int) (A : Option Addr) (n c : Nat) (m : Nat) (lo : Nat) (w : World) (hT : Tb w) (hm2 : ct p 65536 = m) (hκ : κ = 0 ∨ κ = 1) (hn : ct p 65536 = n) (h : Gs e16 w lo w.heap.size (.slice A n c) (ls p 65536)) :
    Calls Tryz.prog 84 #[.agg #[.int .u8 κ, .slice A n c, .slice none 0 0, .slice none 0 0]] w fun e w' => ∃ A' c', e = .returned (.slice A' m c') ∧ Gs e16 w' w.heap.size w'.heap.size (.slice A' m c') (ls p 65536) ∧ Below w.heap.size w w' := by
  have H0 := Lib.hid (Cn.arr (N := fun _ => True) κ A n c hκ hn (Gp.of h (Nat.le_refl _) fun _ _ _ => trivial))
  have H := Lib.hid h
  have TT := Lib.hid hT
  have T := two_blocks w #[.int .u8 κ, .slice A n c, .slice none 0 0, .slice none 0 0] #[.nilFunc, .func (.func 157) #[] #[], .func (.func 158) #[] #[], .func (.func 159) #[] #[]] 65 198
  clear h
  go_enter Tryz.func84, Tryz.ntmps84
  go_wp2_with fail
  generalize (w.alloc (.cells #[.int .u8 κ, .slice A n c, .slice none 0 0, .slice none 0 0] 65)).alloc (.cells #[.nilFunc, .func (.func 157) #[] #[], .func (.func 158) #[] #[], .func (.func 159) #[] #[]] 198) = W0 at *
  obtain ⟨b0, r0, r1⟩ := T
  have K0 : Hid (∀ W, Below W0.heap.size W0 W → W.cell? ⟨w.heap.size, 0, none⟩ = some (.int .u8 κ) ∧ W.cell? ⟨w.heap.size, 1, none⟩ = some (.slice A n c) ∧ W.cell? ⟨w.heap.size, 2, none⟩ = some (.slice none 0 0) ∧ W.cell? ⟨w.heap.size, 3, none⟩ = some (.slice none 0 0)) := Lib.hid fun W hW => by
    have r := r0.below hW r0.lt
    exact ⟨r.cell 0, r.cell 1, r.cell 2, r.cell 3⟩
  have K1 : Hid (∀ W, Below W0.heap.size W0 W → W.cell? ⟨w.heap.size + 1, 1, none⟩ = some (.func (.func 157) #[] #[])) := Lib.hid fun W hW => (r1.below hW r1.lt).cell 1
  have B0 := Lib.hid b0
  have hSc : Below W0.heap.size W0 W0.drew := (Below.refl W0.heap.size W0).drew
  clear b0 r0 r1
  refine wp_region_held_drew (S := fun W => Below W0.heap.size W0 W) (by kernel_rfl) hSc (fun _ => ?_)
  refine held_take 0 ?_ rfl (by kernel_rfl) (by kernel_rfl) (by kernel_rfl) (fun _ _ _ h => h) (by rfl) ?_ hSc ?_
  rotate_left
  · (intro W hSW; obtain ⟨k0, k1, k2, k3⟩ := K0.out W hSW; go_simp; try rfl)
  try simp only [Act.put, List.setIfInBounds_toArray, List.set_cons_zero, List.set_cons_succ]
  refine held_take 4 ?_ rfl (by kernel_rfl) (by kernel_rfl) (by kernel_rfl) (fun _ _ _ h => h) (by rfl) ?_ hSc ?_
  rotate_left
  · (intro W hSW; obtain ⟨k0, k1, k2, k3⟩ := K0.out W hSW; go_simp; try rfl)
  try simp only [Act.put, List.setIfInBounds_toArray, List.set_cons_zero, List.set_cons_succ]
  refine held_next 1 rfl (by kernel_rfl) (by rfl) ?_
  go_simp
  refine (kind_c _ p 1 _ ((H0.out.step B0.out).step hSc)).mono ?_
  rintro e wq1 ⟨rfl, bq⟩
  have hbq : Below W0.heap.size W0 wq1 := hSc.trans (bq.mono hSc.size)
  refine ⟨fun W => Below W0.heap.size W0 W, fun W hW => hW, hbq, ?_⟩
  clear hSc bq
  have hSc : Below W0.heap.size W0 wq1 := hbq
  clear hbq
  try simp only [Act.put, List.setIfInBounds_toArray, List.set_cons_zero, List.set_cons_succ]
  have KS := Lib.hid hSc.size
  refine held_take 2 ?_ rfl (by kernel_rfl) (by kernel_rfl) (by kernel_rfl) (fun _ _ _ h => h) (by rfl) ?_ hSc ?_
  rotate_left
  · (intro W hSW; go_simp; try rfl)
  try simp only [Act.put, List.setIfInBounds_toArray, List.set_cons_zero, List.set_cons_succ]
  refine held_take 3 ?_ rfl (by kernel_rfl) (by kernel_rfl) (by kernel_rfl) (fun _ _ _ h => h) (by rfl) ?_ hSc ?_
  rotate_left
  · (intro W hSW; have k1 := K1.out W hSW; go_simp; try rfl)
  try simp only [Act.put, List.setIfInBounds_toArray, List.set_cons_zero, List.set_cons_succ]
  refine held_next 5 rfl (by kernel_rfl) (by rfl) ?_
  go_simp
  refine (arrayCopy_c p κ A n c m hm2 lo _ ((H.out.stp B0.out).stp hSc)).mono ?_
  rintro e wq2 ⟨A', c', rfl, gq, bq⟩
  have hbq : Below W0.heap.size W0 wq2 := hSc.trans (bq.mono hSc.size)
  refine ⟨fun W => Below W0.heap.size W0 W, fun W hW => hW, hbq, ?_⟩
  have G := Lib.hid gq
  clear gq
  clear hSc bq
  have hSc : Below W0.heap.size W0 wq2 := hbq
  clear hbq
  try simp only [Act.put, List.setIfInBounds_toArray, List.set_cons_zero, List.set_cons_succ]
  refine held_next 6 rfl (by kernel_rfl) (by rfl) ?_
  go_simp
  refine ⟨fun W => Below W0.heap.size W0 W, fun W hW => hW, hSc, ?_⟩
  refine wpAnyH_done (by kernel_rfl) ?_ _
  have BB := Lib.hid (B0.out.trans (hSc.mono B0.out.size))
  go_wp2
  go_ret
  exact ⟨_, _, rfl, G.out.more (Nat.le_trans B0.out.size KS.out) (Nat.le_refl _), BB.out⟩

set_option maxHeartbeats 1000000 in
theorem array_2 (p : Nat → Bool) (A : Option Addr) (c : Nat) (m : Nat) (lo : Nat) (w : World) (hT : Tb w) (hm2 : ct p 65536 = m) (h : Gs e64 w lo w.heap.size (.slice A 1024 c) (wm p)) :
    Calls Tryz.prog 84 #[.agg #[.int .u8 2, .slice none 0 0, .slice A 1024 c, .slice none 0 0]] w fun e w' => ∃ A' c', e = .returned (.slice A' m c') ∧ Gs e16 w' w.heap.size w'.heap.size (.slice A' m c') (ls p 65536) ∧ Below w.heap.size w w' := by
  have H0 := Lib.hid (Cn.wrd (N := fun _ => True) A c (Gp.of h (Nat.le_refl _) fun _ _ _ => trivial))
  have H := Lib.hid h
  have TT := Lib.hid hT
  have T := two_blocks w #[.int .u8 2, .slice none 0 0, .slice A 1024 c, .slice none 0 0] #[.nilFunc, .func (.func 157) #[] #[], .func (.func 158) #[] #[], .func (.func 159) #[] #[]] 65 198
  clear h
  go_enter Tryz.func84, Tryz.ntmps84
  go_wp2_with fail
  generalize (w.alloc (.cells #[.int .u8 2, .slice none 0 0, .slice A 1024 c, .slice none 0 0] 65)).alloc (.cells #[.nilFunc, .func (.func 157) #[] #[], .func (.func 158) #[] #[], .func (.func 159) #[] #[]] 198) = W0 at *
  obtain ⟨b0, r0, r1⟩ := T
  have K0 : Hid (∀ W, Below W0.heap.size W0 W → W.cell? ⟨w.heap.size, 0, none⟩ = some (.int .u8 2) ∧ W.cell? ⟨w.heap.size, 1, none⟩ = some (.slice none 0 0) ∧ W.cell? ⟨w.heap.size, 2, none⟩ = some (.slice A 1024 c) ∧ W.cell? ⟨w.heap.size, 3, none⟩ = some (.slice none 0 0)) := Lib.hid fun W hW => by
    have r := r0.below hW r0.lt
    exact ⟨r.cell 0, r.cell 1, r.cell 2, r.cell 3⟩
  have K1 : Hid (∀ W, Below W0.heap.size W0 W → W.cell? ⟨w.heap.size + 1, 2, none⟩ = some (.func (.func 158) #[] #[])) := Lib.hid fun W hW => (r1.below hW r1.lt).cell 2
  have B0 := Lib.hid b0
  have hSc : Below W0.heap.size W0 W0.drew := (Below.refl W0.heap.size W0).drew
  clear b0 r0 r1
  refine wp_region_held_drew (S := fun W => Below W0.heap.size W0 W) (by kernel_rfl) hSc (fun _ => ?_)
  refine held_take 0 ?_ rfl (by kernel_rfl) (by kernel_rfl) (by kernel_rfl) (fun _ _ _ h => h) (by rfl) ?_ hSc ?_
  rotate_left
  · (intro W hSW; obtain ⟨k0, k1, k2, k3⟩ := K0.out W hSW; go_simp; try rfl)
  try simp only [Act.put, List.setIfInBounds_toArray, List.set_cons_zero, List.set_cons_succ]
  refine held_take 4 ?_ rfl (by kernel_rfl) (by kernel_rfl) (by kernel_rfl) (fun _ _ _ h => h) (by rfl) ?_ hSc ?_
  rotate_left
  · (intro W hSW; obtain ⟨k0, k1, k2, k3⟩ := K0.out W hSW; go_simp; try rfl)
  try simp only [Act.put, List.setIfInBounds_toArray, List.set_cons_zero, List.set_cons_succ]
  refine held_next 1 rfl (by kernel_rfl) (by rfl) ?_
  go_simp
  refine (kind_c _ p 2 _ ((H0.out.step B0.out).step hSc)).mono ?_
  rintro e wq1 ⟨rfl, bq⟩
  have hbq : Below W0.heap.size W0 wq1 := hSc.trans (bq.mono hSc.size)
  refine ⟨fun W => Below W0.heap.size W0 W, fun W hW => hW, hbq, ?_⟩
  clear hSc bq
  have hSc : Below W0.heap.size W0 wq1 := hbq
  clear hbq
  try simp only [Act.put, List.setIfInBounds_toArray, List.set_cons_zero, List.set_cons_succ]
  have KS := Lib.hid hSc.size
  refine held_take 2 ?_ rfl (by kernel_rfl) (by kernel_rfl) (by kernel_rfl) (fun _ _ _ h => h) (by rfl) ?_ hSc ?_
  rotate_left
  · (intro W hSW; go_simp; try rfl)
  try simp only [Act.put, List.setIfInBounds_toArray, List.set_cons_zero, List.set_cons_succ]
  refine held_take 3 ?_ rfl (by kernel_rfl) (by kernel_rfl) (by kernel_rfl) (fun _ _ _ h => h) (by rfl) ?_ hSc ?_
  rotate_left
  · (intro W hSW; have k1 := K1.out W hSW; go_simp; try rfl)
  try simp only [Act.put, List.setIfInBounds_toArray, List.set_cons_zero, List.set_cons_succ]
  refine held_next 5 rfl (by kernel_rfl) (by rfl) ?_
  go_simp
  refine (wordsToArray_c p A c m hm2 lo _ ((TT.out.step B0.out).step hSc) ((H.out.stp B0.out).stp hSc)).mono ?_
  rintro e wq2 ⟨A', c', rfl, gq, bq⟩
  have hbq : Below W0.heap.size W0 wq2 := hSc.trans (bq.mono hSc.size)
  refine ⟨fun W => Below W0.heap.size W0 W, fun W hW => hW, hbq, ?_⟩
  have G := Lib.hid gq
  clear gq
  clear hSc bq
  have hSc : Below W0.heap.size W0 wq2 := hbq
  clear hbq
  try simp only [Act.put, List.setIfInBounds_toArray, List.set_cons_zero, List.set_cons_succ]
  refine held_next 6 rfl (by kernel_rfl) (by rfl) ?_
  go_simp
  refine ⟨fun W => Below W0.heap.size W0 W, fun W hW => hW, hSc, ?_⟩
  refine wpAnyH_done (by kernel_rfl) ?_ _
  have BB := Lib.hid (B0.out.trans (hSc.mono B0.out.size))
  go_wp2
  go_ret
  exact ⟨_, _, rfl, G.out.more (Nat.le_trans B0.out.size KS.out) (Nat.le_refl _), BB.out⟩

set_option maxHeartbeats 1000000 in
theorem array_3 (p : Nat → Bool) (A : Option Addr) (n c : Nat) (m : Nat) (lo : Nat) (w : World) (hT : Tb w) (hm2 : ct p 65536 = m) (hn : ct (hm p) 65536 = n) (h : Gs2 eR w lo w.heap.size (.slice A n c) (rs p 65536)) :
    Calls Tryz.prog 84 #[.agg #[.int .u8 3, .slice none 0 0, .slice none 0 0, .slice A n c]] w fun e w' => ∃ A' c', e = .returned (.slice A' m c') ∧ Gs e16 w' w.heap.size w'.heap.size (.slice A' m c') (ls p 65536) ∧ Below w.heap.size w w' := by
  have H0 := Lib.hid (Cn.run (N := fun _ => True) A n c hn (Gp2.of h (Nat.le_refl _) fun _ _ _ => trivial))
  have H := Lib.hid h
  have TT := Lib.hid hT
  have T := two_blocks w #[.int .u8 3, .slice none 0 0, .slice none 0 0, .slice A n c] #[.nilFunc, .func (.func 157) #[] #[], .func (.func 158) #[] #[], .func (.func 159) #[] #[]] 65 198
  clear h
  go_enter Tryz.func84, Tryz.ntmps84
  go_wp2_with fail
  generalize (w.alloc (.cells #[.int .u8 3, .slice none 0 0, .slice none 0 0, .slice A n c] 65)).alloc (.cells #[.nilFunc, .func (.func 157) #[] #[], .func (.func 158) #[] #[], .func (.func 159) #[] #[]] 198) = W0 at *
  obtain ⟨b0, r0, r1⟩ := T
  have K0 : Hid (∀ W, Below W0.heap.size W0 W → W.cell? ⟨w.heap.size, 0, none⟩ = some (.int .u8 3) ∧ W.cell? ⟨w.heap.size, 1, none⟩ = some (.slice none 0 0) ∧ W.cell? ⟨w.heap.size, 2, none⟩ = some (.slice none 0 0) ∧ W.cell? ⟨w.heap.size, 3, none⟩ = some (.slice A n c)) := Lib.hid fun W hW => by
    have r := r0.below hW r0.lt
    exact ⟨r.cell 0, r.cell 1, r.cell 2, r.cell 3⟩
  have K1 : Hid (∀ W, Below W0.heap.size W0 W → W.cell? ⟨w.heap.size + 1, 3, none⟩ = some (.func (.func 159) #[] #[])) := Lib.hid fun W hW => (r1.below hW r1.lt).cell 3
  have B0 := Lib.hid b0
  have hSc : Below W0.heap.size W0 W0.drew := (Below.refl W0.heap.size W0).drew
  clear b0 r0 r1
  refine wp_region_held_drew (S := fun W => Below W0.heap.size W0 W) (by kernel_rfl) hSc (fun _ => ?_)
  refine held_take 0 ?_ rfl (by kernel_rfl) (by kernel_rfl) (by kernel_rfl) (fun _ _ _ h => h) (by rfl) ?_ hSc ?_
  rotate_left
  · (intro W hSW; obtain ⟨k0, k1, k2, k3⟩ := K0.out W hSW; go_simp; try rfl)
  try simp only [Act.put, List.setIfInBounds_toArray, List.set_cons_zero, List.set_cons_succ]
  refine held_take 4 ?_ rfl (by kernel_rfl) (by kernel_rfl) (by kernel_rfl) (fun _ _ _ h => h) (by rfl) ?_ hSc ?_
  rotate_left
  · (intro W hSW; obtain ⟨k0, k1, k2, k3⟩ := K0.out W hSW; go_simp; try rfl)
  try simp only [Act.put, List.setIfInBounds_toArray, List.set_cons_zero, List.set_cons_succ]
  refine held_next 1 rfl (by kernel_rfl) (by rfl) ?_
  go_simp
  refine (kind_c _ p 3 _ ((H0.out.step B0.out).step hSc)).mono ?_
  rintro e wq1 ⟨rfl, bq⟩
  have hbq : Below W0.heap.size W0 wq1 := hSc.trans (bq.mono hSc.size)
  refine ⟨fun W => Below W0.heap.size W0 W, fun W hW => hW, hbq, ?_⟩
  clear hSc bq
  have hSc : Below W0.heap.size W0 wq1 := hbq
  clear hbq
  try simp only [Act.put, List.setIfInBounds_toArray, List.set_cons_zero, List.set_cons_succ]
  have KS := Lib.hid hSc.size
  refine held_take 2 ?_ rfl (by kernel_rfl) (by kernel_rfl) (by kernel_rfl) (fun _ _ _ h => h) (by rfl) ?_ hSc ?_
  rotate_left
  · (intro W hSW; go_simp; try rfl)
  try simp only [Act.put, List.setIfInBounds_toArray, List.set_cons_zero, List.set_cons_succ]
  refine held_take 3 ?_ rfl (by kernel_rfl) (by kernel_rfl) (by kernel_rfl) (fun _ _ _ h => h) (by rfl) ?_ hSc ?_
  rotate_left
  · (intro W hSW; have k1 := K1.out W hSW; go_simp; try rfl)
  try simp only [Act.put, List.setIfInBounds_toArray, List.set_cons_zero, List.set_cons_succ]
  refine held_next 5 rfl (by kernel_rfl) (by rfl) ?_
  go_simp
  refine (runsToArray_c p A n c m hm2 lo _ ((H.out.stp B0.out).stp hSc)).mono ?_
  rintro e wq2 ⟨A', c', rfl, gq, bq⟩
  have hbq : Below W0.heap.size W0 wq2 := hSc.trans (bq.mono hSc.size)
  refine ⟨fun W => Below W0.heap.size W0 W, fun W hW => hW, hbq, ?_⟩
  have G := Lib.hid gq
  clear gq
  clear hSc bq
  have hSc : Below W0.heap.size W0 wq2 := hbq
  clear hbq
  try simp only [Act.put, List.setIfInBounds_toArray, List.set_cons_zero, List.set_cons_succ]
  refine held_next 6 rfl (by kernel_rfl) (by rfl) ?_
  go_simp
  refine ⟨fun W => Below W0.heap.size W0 W, fun W hW => hW, hSc, ?_⟩
  refine wpAnyH_done (by kernel_rfl) ?_ _
  have BB := Lib.hid (B0.out.trans (hSc.mono B0.out.size))
  go_wp2
  go_ret
  exact ⟨_, _, rfl, G.out.more (Nat.le_trans B0.out.size KS.out) (Nat.le_refl _), BB.out⟩

theorem array_c {N : Nat → Prop} (v : Value) (p : Nat → Bool) (k : Nat) (m : Nat) (w : World) (hT : Tb w) (hm2 : ct p 65536 = m) (h : Cn N w v p k) :
    Calls Tryz.prog 84 #[v] w fun e w' => ∃ A' c', e = .returned (.slice A' m c') ∧ Gs e16 w' w.heap.size w'.heap.size (.slice A' m c') (ls p 65536) ∧ Below w.heap.size w w' := by
  cases h with
  | arr κ A n c hκ hn h => exact array_1 p κ A n c m 0 w hT hm2 hκ hn h.1
  | wrd A c h => exact array_2 p A c m 0 w hT hm2 h.1
  | run A n c hn h => exact array_3 p A n c m 0 w hT hm2 hn h.1

set_option maxHeartbeats 1000000 in
theorem words_1 (p : Nat → Bool) (κ : Int) (A : Option Addr) (n c : Nat) (lo : Nat) (w : World) (hκ : κ = 0 ∨ κ = 1) (hn : ct p 65536 = n) (h : Gs e16 w lo w.heap.size (.slice A n c) (ls p 65536)) :
    Calls Tryz.prog 38 #[.agg #[.int .u8 κ, .slice A n c, .slice none 0 0, .slice none 0 0]] w fun e w' => ∃ A' c', e = .returned (.slice A' 1024 c') ∧ Gs e64 w' w.heap.size w'.heap.size (.slice A' 1024 c') (wm p) ∧ Below w.heap.size w w' := by
  have H0 := Lib.hid (Cn.arr (N := fun _ => True) κ A n c hκ hn (Gp.of h (Nat.le_refl _) fun _ _ _ => trivial))
  have H := Lib.hid h
  have T := two_blocks w #[.int .u8 κ, .slice A n c, .slice none 0 0, .slice none 0 0] #[.nilFunc, .func (.func 102) #[] #[], .func (.func 103) #[] #[], .func (.func 104) #[] #[]] 65 144
  clear h
  go_enter Tryz.func38, Tryz.ntmps38
  go_wp2_with fail
  generalize (w.alloc (.cells #[.int .u8 κ, .slice A n c, .slice none 0 0, .slice none 0 0] 65)).alloc (.cells #[.nilFunc, .func (.func 102) #[] #[], .func (.func 103) #[] #[], .func (.func 104) #[] #[]] 144) = W0 at *
  obtain ⟨b0, r0, r1⟩ := T
  have K0 : Hid (∀ W, Below W0.heap.size W0 W → W.cell? ⟨w.heap.size, 0, none⟩ = some (.int .u8 κ) ∧ W.cell? ⟨w.heap.size, 1, none⟩ = some (.slice A n c) ∧ W.cell? ⟨w.heap.size, 2, none⟩ = some (.slice none 0 0) ∧ W.cell? ⟨w.heap.size, 3, none⟩ = some (.slice none 0 0)) := Lib.hid fun W hW => by
    have r := r0.below hW r0.lt
    exact ⟨r.cell 0, r.cell 1, r.cell 2, r.cell 3⟩
  have K1 : Hid (∀ W, Below W0.heap.size W0 W → W.cell? ⟨w.heap.size + 1, 1, none⟩ = some (.func (.func 102) #[] #[])) := Lib.hid fun W hW => (r1.below hW r1.lt).cell 1
  have B0 := Lib.hid b0
  have hSc : Below W0.heap.size W0 W0.drew := (Below.refl W0.heap.size W0).drew
  clear b0 r0 r1
  refine wp_region_held_drew (S := fun W => Below W0.heap.size W0 W) (by kernel_rfl) hSc (fun _ => ?_)
  refine held_take 0 ?_ rfl (by kernel_rfl) (by kernel_rfl) (by kernel_rfl) (fun _ _ _ h => h) (by rfl) ?_ hSc ?_
  rotate_left
  · (intro W hSW; obtain ⟨k0, k1, k2, k3⟩ := K0.out W hSW; go_simp; try rfl)
  try simp only [Act.put, List.setIfInBounds_toArray, List.set_cons_zero, List.set_cons_succ]
  refine held_take 4 ?_ rfl (by kernel_rfl) (by kernel_rfl) (by kernel_rfl) (fun _ _ _ h => h) (by rfl) ?_ hSc ?_
  rotate_left
  · (intro W hSW; obtain ⟨k0, k1, k2, k3⟩ := K0.out W hSW; go_simp; try rfl)
  try simp only [Act.put, List.setIfInBounds_toArray, List.set_cons_zero, List.set_cons_succ]
  refine held_next 1 rfl (by kernel_rfl) (by rfl) ?_
  go_simp
  refine (kind_c _ p 1 _ ((H0.out.step B0.out).step hSc)).mono ?_
  rintro e wq1 ⟨rfl, bq⟩
  have hbq : Below W0.heap.size W0 wq1 := hSc.trans (bq.mono hSc.size)
  refine ⟨fun W => Below W0.heap.size W0 W, fun W hW => hW, hbq, ?_⟩
  clear hSc bq
  have hSc : Below W0.heap.size W0 wq1 := hbq
  clear hbq
  try simp only [Act.put, List.setIfInBounds_toArray, List.set_cons_zero, List.set_cons_succ]
  have KS := Lib.hid hSc.size
  refine held_take 2 ?_ rfl (by kernel_rfl) (by kernel_rfl) (by kernel_rfl) (fun _ _ _ h => h) (by rfl) ?_ hSc ?_
  rotate_left
  · (intro W hSW; go_simp; try rfl)
  try simp only [Act.put, List.setIfInBounds_toArray, List.set_cons_zero, List.set_cons_succ]
  refine held_take 3 ?_ rfl (by kernel_rfl) (by kernel_rfl) (by kernel_rfl) (fun _ _ _ h => h) (by rfl) ?_ hSc ?_
  rotate_left
  · (intro W hSW; have k1 := K1.out W hSW; go_simp; try rfl)
  try simp only [Act.put, List.setIfInBounds_toArray, List.set_cons_zero, List.set_cons_succ]
  refine held_next 5 rfl (by kernel_rfl) (by rfl) ?_
  go_simp
  refine (arrayToWords_c p κ A n c lo _ ((H.out.stp B0.out).stp hSc)).mono ?_
  rintro e wq2 ⟨A', c', rfl, gq, bq⟩
  have hbq : Below W0.heap.size W0 wq2 := hSc.trans (bq.mono hSc.size)
  refine ⟨fun W => Below W0.heap.size W0 W, fun W hW => hW, hbq, ?_⟩
  have G := Lib.hid gq
  clear gq
  clear hSc bq
  have hSc : Below W0.heap.size W0 wq2 := hbq
  clear hbq
  try simp only [Act.put, List.setIfInBounds_toArray, List.set_cons_zero, List.set_cons_succ]
  refine held_next 6 rfl (by kernel_rfl) (by rfl) ?_
  go_simp
  refine ⟨fun W => Below W0.heap.size W0 W, fun W hW => hW, hSc, ?_⟩
  refine wpAnyH_done (by kernel_rfl) ?_ _
  have BB := Lib.hid (B0.out.trans (hSc.mono B0.out.size))
  go_wp2
  go_ret
  exact ⟨_, _, rfl, G.out.more (Nat.le_trans B0.out.size KS.out) (Nat.le_refl _), BB.out⟩

set_option maxHeartbeats 1000000 in
theorem words_2 (p : Nat → Bool) (A : Option Addr) (c : Nat) (lo : Nat) (w : World) (h : Gs e64 w lo w.heap.size (.slice A 1024 c) (wm p)) :
    Calls Tryz.prog 38 #[.agg #[.int .u8 2, .slice none 0 0, .slice A 1024 c, .slice none 0 0]] w fun e w' => ∃ A' c', e = .returned (.slice A' 1024 c') ∧ Gs e64 w' w.heap.size w'.heap.size (.slice A' 1024 c') (wm p) ∧ Below w.heap.size w w' := by
  have H0 := Lib.hid (Cn.wrd (N := fun _ => True) A c (Gp.of h (Nat.le_refl _) fun _ _ _ => trivial))
  have H := Lib.hid h
  have T := two_blocks w #[.int .u8 2, .slice none 0 0, .slice A 1024 c, .slice none 0 0] #[.nilFunc, .func (.func 102) #[] #[], .func (.func 103) #[] #[], .func (.func 104) #[] #[]] 65 144
  clear h
  go_enter Tryz.func38, Tryz.ntmps38
  go_wp2_with fail
  generalize (w.alloc (.cells #[.int .u8 2, .slice none 0 0, .slice A 1024 c, .slice none 0 0] 65)).alloc (.cells #[.nilFunc, .func (.func 102) #[] #[], .func (.func 103) #[] #[], .func (.func 104) #[] #[]] 144) = W0 at *
  obtain ⟨b0, r0, r1⟩ := T
  have K0 : Hid (∀ W, Below W0.heap.size W0 W → W.cell? ⟨w.heap.size, 0, none⟩ = some (.int .u8 2) ∧ W.cell? ⟨w.heap.size, 1, none⟩ = some (.slice none 0 0) ∧ W.cell? ⟨w.heap.size, 2, none⟩ = some (.slice A 1024 c) ∧ W.cell? ⟨w.heap.size, 3, none⟩ = some (.slice none 0 0)) := Lib.hid fun W hW => by
    have r := r0.below hW r0.lt
    exact ⟨r.cell 0, r.cell 1, r.cell 2, r.cell 3⟩
  have K1 : Hid (∀ W, Below W0.heap.size W0 W → W.cell? ⟨w.heap.size + 1, 2, none⟩ = some (.func (.func 103) #[] #[])) := Lib.hid fun W hW => (r1.below hW r1.lt).cell 2
  have B0 := Lib.hid b0
  have hSc : Below W0.heap.size W0 W0.drew := (Below.refl W0.heap.size W0).drew
  clear b0 r0 r1
  refine wp_region_held_drew (S := fun W => Below W0.heap.size W0 W) (by kernel_rfl) hSc (fun _ => ?_)
  refine held_take 0 ?_ rfl (by kernel_rfl) (by kernel_rfl) (by kernel_rfl) (fun _ _ _ h => h) (by rfl) ?_ hSc ?_
  rotate_left
  · (intro W hSW; obtain ⟨k0, k1, k2, k3⟩ := K0.out W hSW; go_simp; try rfl)
  try simp only [Act.put, List.setIfInBounds_toArray, List.set_cons_zero, List.set_cons_succ]
  refine held_take 4 ?_ rfl (by kernel_rfl) (by kernel_rfl) (by kernel_rfl) (fun _ _ _ h => h) (by rfl) ?_ hSc ?_
  rotate_left
  · (intro W hSW; obtain ⟨k0, k1, k2, k3⟩ := K0.out W hSW; go_simp; try rfl)
  try simp only [Act.put, List.setIfInBounds_toArray, List.set_cons_zero, List.set_cons_succ]
  refine held_next 1 rfl (by kernel_rfl) (by rfl) ?_
  go_simp
  refine (kind_c _ p 2 _ ((H0.out.step B0.out).step hSc)).mono ?_
  rintro e wq1 ⟨rfl, bq⟩
  have hbq : Below W0.heap.size W0 wq1 := hSc.trans (bq.mono hSc.size)
  refine ⟨fun W => Below W0.heap.size W0 W, fun W hW => hW, hbq, ?_⟩
  clear hSc bq
  have hSc : Below W0.heap.size W0 wq1 := hbq
  clear hbq
  try simp only [Act.put, List.setIfInBounds_toArray, List.set_cons_zero, List.set_cons_succ]
  have KS := Lib.hid hSc.size
  refine held_take 2 ?_ rfl (by kernel_rfl) (by kernel_rfl) (by kernel_rfl) (fun _ _ _ h => h) (by rfl) ?_ hSc ?_
  rotate_left
  · (intro W hSW; go_simp; try rfl)
  try simp only [Act.put, List.setIfInBounds_toArray, List.set_cons_zero, List.set_cons_succ]
  refine held_take 3 ?_ rfl (by kernel_rfl) (by kernel_rfl) (by kernel_rfl) (fun _ _ _ h => h) (by rfl) ?_ hSc ?_
  rotate_left
  · (intro W hSW; have k1 := K1.out W hSW; go_simp; try rfl)
  try simp only [Act.put, List.setIfInBounds_toArray, List.set_cons_zero, List.set_cons_succ]
  refine held_next 5 rfl (by kernel_rfl) (by rfl) ?_
  go_simp
  refine (wordsCopy_c p A c lo _ ((H.out.stp B0.out).stp hSc)).mono ?_
  rintro e wq2 ⟨A', c', rfl, gq, bq⟩
  have hbq : Below W0.heap.size W0 wq2 := hSc.trans (bq.mono hSc.size)
  refine ⟨fun W => Below W0.heap.size W0 W, fun W hW => hW, hbq, ?_⟩
  have G := Lib.hid gq
  clear gq
  clear hSc bq
  have hSc : Below W0.heap.size W0 wq2 := hbq
  clear hbq
  try simp only [Act.put, List.setIfInBounds_toArray, List.set_cons_zero, List.set_cons_succ]
  refine held_next 6 rfl (by kernel_rfl) (by rfl) ?_
  go_simp
  refine ⟨fun W => Below W0.heap.size W0 W, fun W hW => hW, hSc, ?_⟩
  refine wpAnyH_done (by kernel_rfl) ?_ _
  have BB := Lib.hid (B0.out.trans (hSc.mono B0.out.size))
  go_wp2
  go_ret
  exact ⟨_, _, rfl, G.out.more (Nat.le_trans B0.out.size KS.out) (Nat.le_refl _), BB.out⟩

set_option maxHeartbeats 1000000 in
theorem words_3 (p : Nat → Bool) (A : Option Addr) (n c : Nat) (lo : Nat) (w : World) (hn : ct (hm p) 65536 = n) (h : Gs2 eR w lo w.heap.size (.slice A n c) (rs p 65536)) :
    Calls Tryz.prog 38 #[.agg #[.int .u8 3, .slice none 0 0, .slice none 0 0, .slice A n c]] w fun e w' => ∃ A' c', e = .returned (.slice A' 1024 c') ∧ Gs e64 w' w.heap.size w'.heap.size (.slice A' 1024 c') (wm p) ∧ Below w.heap.size w w' := by
  have H0 := Lib.hid (Cn.run (N := fun _ => True) A n c hn (Gp2.of h (Nat.le_refl _) fun _ _ _ => trivial))
  have H := Lib.hid h
  have T := two_blocks w #[.int .u8 3, .slice none 0 0, .slice none 0 0, .slice A n c] #[.nilFunc, .func (.func 102) #[] #[], .func (.func 103) #[] #[], .func (.func 104) #[] #[]] 65 144
  clear h
  go_enter Tryz.func38, Tryz.ntmps38
  go_wp2_with fail
  generalize (w.alloc (.cells #[.int .u8 3, .slice none 0 0, .slice none 0 0, .slice A n c] 65)).alloc (.cells #[.nilFunc, .func (.func 102) #[] #[], .func (.func 103) #[] #[], .func (.func 104) #[] #[]] 144) = W0 at *
  obtain ⟨b0, r0, r1⟩ := T
  have K0 : Hid (∀ W, Below W0.heap.size W0 W → W.cell? ⟨w.heap.size, 0, none⟩ = some (.int .u8 3) ∧ W.cell? ⟨w.heap.size, 1, none⟩ = some (.slice none 0 0) ∧ W.cell? ⟨w.heap.size, 2, none⟩ = some (.slice none 0 0) ∧ W.cell? ⟨w.heap.size, 3, none⟩ = some (.slice A n c)) := Lib.hid fun W hW => by
    have r := r0.below hW r0.lt
    exact ⟨r.cell 0, r.cell 1, r.cell 2, r.cell 3⟩
  have K1 : Hid (∀ W, Below W0.heap.size W0 W → W.cell? ⟨w.heap.size + 1, 3, none⟩ = some (.func (.func 104) #[] #[])) := Lib.hid fun W hW => (r1.below hW r1.lt).cell 3
  have B0 := Lib.hid b0
  have hSc : Below W0.heap.size W0 W0.drew := (Below.refl W0.heap.size W0).drew
  clear b0 r0 r1
  refine wp_region_held_drew (S := fun W => Below W0.heap.size W0 W) (by kernel_rfl) hSc (fun _ => ?_)
  refine held_take 0 ?_ rfl (by kernel_rfl) (by kernel_rfl) (by kernel_rfl) (fun _ _ _ h => h) (by rfl) ?_ hSc ?_
  rotate_left
  · (intro W hSW; obtain ⟨k0, k1, k2, k3⟩ := K0.out W hSW; go_simp; try rfl)
  try simp only [Act.put, List.setIfInBounds_toArray, List.set_cons_zero, List.set_cons_succ]
  refine held_take 4 ?_ rfl (by kernel_rfl) (by kernel_rfl) (by kernel_rfl) (fun _ _ _ h => h) (by rfl) ?_ hSc ?_
  rotate_left
  · (intro W hSW; obtain ⟨k0, k1, k2, k3⟩ := K0.out W hSW; go_simp; try rfl)
  try simp only [Act.put, List.setIfInBounds_toArray, List.set_cons_zero, List.set_cons_succ]
  refine held_next 1 rfl (by kernel_rfl) (by rfl) ?_
  go_simp
  refine (kind_c _ p 3 _ ((H0.out.step B0.out).step hSc)).mono ?_
  rintro e wq1 ⟨rfl, bq⟩
  have hbq : Below W0.heap.size W0 wq1 := hSc.trans (bq.mono hSc.size)
  refine ⟨fun W => Below W0.heap.size W0 W, fun W hW => hW, hbq, ?_⟩
  clear hSc bq
  have hSc : Below W0.heap.size W0 wq1 := hbq
  clear hbq
  try simp only [Act.put, List.setIfInBounds_toArray, List.set_cons_zero, List.set_cons_succ]
  have KS := Lib.hid hSc.size
  refine held_take 2 ?_ rfl (by kernel_rfl) (by kernel_rfl) (by kernel_rfl) (fun _ _ _ h => h) (by rfl) ?_ hSc ?_
  rotate_left
  · (intro W hSW; go_simp; try rfl)
  try simp only [Act.put, List.setIfInBounds_toArray, List.set_cons_zero, List.set_cons_succ]
  refine held_take 3 ?_ rfl (by kernel_rfl) (by kernel_rfl) (by kernel_rfl) (fun _ _ _ h => h) (by rfl) ?_ hSc ?_
  rotate_left
  · (intro W hSW; have k1 := K1.out W hSW; go_simp; try rfl)
  try simp only [Act.put, List.setIfInBounds_toArray, List.set_cons_zero, List.set_cons_succ]
  refine held_next 5 rfl (by kernel_rfl) (by rfl) ?_
  go_simp
  refine (runsToWords_c p A n c lo _ ((H.out.stp B0.out).stp hSc)).mono ?_
  rintro e wq2 ⟨A', c', rfl, gq, bq⟩
  have hbq : Below W0.heap.size W0 wq2 := hSc.trans (bq.mono hSc.size)
  refine ⟨fun W => Below W0.heap.size W0 W, fun W hW => hW, hbq, ?_⟩
  have G := Lib.hid gq
  clear gq
  clear hSc bq
  have hSc : Below W0.heap.size W0 wq2 := hbq
  clear hbq
  try simp only [Act.put, List.setIfInBounds_toArray, List.set_cons_zero, List.set_cons_succ]
  refine held_next 6 rfl (by kernel_rfl) (by rfl) ?_
  go_simp
  refine ⟨fun W => Below W0.heap.size W0 W, fun W hW => hW, hSc, ?_⟩
  refine wpAnyH_done (by kernel_rfl) ?_ _
  have BB := Lib.hid (B0.out.trans (hSc.mono B0.out.size))
  go_wp2
  go_ret
  exact ⟨_, _, rfl, G.out.more (Nat.le_trans B0.out.size KS.out) (Nat.le_refl _), BB.out⟩

theorem words_c {N : Nat → Prop} (v : Value) (p : Nat → Bool) (k : Nat) (w : World) (h : Cn N w v p k) :
    Calls Tryz.prog 38 #[v] w fun e w' => ∃ A' c', e = .returned (.slice A' 1024 c') ∧ Gs e64 w' w.heap.size w'.heap.size (.slice A' 1024 c') (wm p) ∧ Below w.heap.size w w' := by
  cases h with
  | arr κ A n c hκ hn h => exact words_1 p κ A n c  0 w  hκ hn h.1
  | wrd A c h => exact words_2 p A c  0 w  h.1
  | run A n c hn h => exact words_3 p A n c  0 w  hn h.1

set_option maxHeartbeats 1000000 in
theorem runs_1 (p : Nat → Bool) (κ : Int) (A : Option Addr) (n c : Nat) (m : Nat) (lo : Nat) (w : World) (hT : Tb w) (hm2 : ct (hm p) 65536 = m) (hκ : κ = 0 ∨ κ = 1) (hn : ct p 65536 = n) (h : Gs e16 w lo w.heap.size (.slice A n c) (ls p 65536)) :
    Calls Tryz.prog 40 #[.agg #[.int .u8 κ, .slice A n c, .slice none 0 0, .slice none 0 0]] w fun e w' => ∃ A' c', e = .returned (.slice A' m c') ∧ Gs2 eR w' w.heap.size w'.heap.size (.slice A' m c') (rs p 65536) ∧ Below w.heap.size w w' := by
  have H0 := Lib.hid (Cn.arr (N := fun _ => True) κ A n c hκ hn (Gp.of h (Nat.le_refl _) fun _ _ _ => trivial))
  have H := Lib.hid h
  have TT := Lib.hid hT
  have T := two_blocks w #[.int .u8 κ, .slice A n c, .slice none 0 0, .slice none 0 0] #[.nilFunc, .func (.func 108) #[] #[], .func (.func 109) #[] #[], .func (.func 110) #[] #[]] 65 149
  clear h
  go_enter Tryz.func40, Tryz.ntmps40
  go_wp2_with fail
  generalize (w.alloc (.cells #[.int .u8 κ, .slice A n c, .slice none 0 0, .slice none 0 0] 65)).alloc (.cells #[.nilFunc, .func (.func 108) #[] #[], .func (.func 109) #[] #[], .func (.func 110) #[] #[]] 149) = W0 at *
  obtain ⟨b0, r0, r1⟩ := T
  have K0 : Hid (∀ W, Below W0.heap.size W0 W → W.cell? ⟨w.heap.size, 0, none⟩ = some (.int .u8 κ) ∧ W.cell? ⟨w.heap.size, 1, none⟩ = some (.slice A n c) ∧ W.cell? ⟨w.heap.size, 2, none⟩ = some (.slice none 0 0) ∧ W.cell? ⟨w.heap.size, 3, none⟩ = some (.slice none 0 0)) := Lib.hid fun W hW => by
    have r := r0.below hW r0.lt
    exact ⟨r.cell 0, r.cell 1, r.cell 2, r.cell 3⟩
  have K1 : Hid (∀ W, Below W0.heap.size W0 W → W.cell? ⟨w.heap.size + 1, 1, none⟩ = some (.func (.func 108) #[] #[])) := Lib.hid fun W hW => (r1.below hW r1.lt).cell 1
  have B0 := Lib.hid b0
  have hSc : Below W0.heap.size W0 W0.drew := (Below.refl W0.heap.size W0).drew
  clear b0 r0 r1
  refine wp_region_held_drew (S := fun W => Below W0.heap.size W0 W) (by kernel_rfl) hSc (fun _ => ?_)
  refine held_take 0 ?_ rfl (by kernel_rfl) (by kernel_rfl) (by kernel_rfl) (fun _ _ _ h => h) (by rfl) ?_ hSc ?_
  rotate_left
  · (intro W hSW; obtain ⟨k0, k1, k2, k3⟩ := K0.out W hSW; go_simp; try rfl)
  try simp only [Act.put, List.setIfInBounds_toArray, List.set_cons_zero, List.set_cons_succ]
  refine held_take 4 ?_ rfl (by kernel_rfl) (by kernel_rfl) (by kernel_rfl) (fun _ _ _ h => h) (by rfl) ?_ hSc ?_
  rotate_left
  · (intro W hSW; obtain ⟨k0, k1, k2, k3⟩ := K0.out W hSW; go_simp; try rfl)
  try simp only [Act.put, List.setIfInBounds_toArray, List.set_cons_zero, List.set_cons_succ]
  refine held_next 1 rfl (by kernel_rfl) (by rfl) ?_
  go_simp
  refine (kind_c _ p 1 _ ((H0.out.step B0.out).step hSc)).mono ?_
  rintro e wq1 ⟨rfl, bq⟩
  have hbq : Below W0.heap.size W0 wq1 := hSc.trans (bq.mono hSc.size)
  refine ⟨fun W => Below W0.heap.size W0 W, fun W hW => hW, hbq, ?_⟩
  clear hSc bq
  have hSc : Below W0.heap.size W0 wq1 := hbq
  clear hbq
  try simp only [Act.put, List.setIfInBounds_toArray, List.set_cons_zero, List.set_cons_succ]
  have KS := Lib.hid hSc.size
  refine held_take 2 ?_ rfl (by kernel_rfl) (by kernel_rfl) (by kernel_rfl) (fun _ _ _ h => h) (by rfl) ?_ hSc ?_
  rotate_left
  · (intro W hSW; go_simp; try rfl)
  try simp only [Act.put, List.setIfInBounds_toArray, List.set_cons_zero, List.set_cons_succ]
  refine held_take 3 ?_ rfl (by kernel_rfl) (by kernel_rfl) (by kernel_rfl) (fun _ _ _ h => h) (by rfl) ?_ hSc ?_
  rotate_left
  · (intro W hSW; have k1 := K1.out W hSW; go_simp; try rfl)
  try simp only [Act.put, List.setIfInBounds_toArray, List.set_cons_zero, List.set_cons_succ]
  refine held_next 5 rfl (by kernel_rfl) (by rfl) ?_
  go_simp
  refine (arrayToRuns_c p κ A n c m hm2 lo _ ((H.out.stp B0.out).stp hSc)).mono ?_
  rintro e wq2 ⟨A', c', rfl, gq, bq⟩
  have hbq : Below W0.heap.size W0 wq2 := hSc.trans (bq.mono hSc.size)
  refine ⟨fun W => Below W0.heap.size W0 W, fun W hW => hW, hbq, ?_⟩
  have G := Lib.hid gq
  clear gq
  clear hSc bq
  have hSc : Below W0.heap.size W0 wq2 := hbq
  clear hbq
  try simp only [Act.put, List.setIfInBounds_toArray, List.set_cons_zero, List.set_cons_succ]
  refine held_next 6 rfl (by kernel_rfl) (by rfl) ?_
  go_simp
  refine ⟨fun W => Below W0.heap.size W0 W, fun W hW => hW, hSc, ?_⟩
  refine wpAnyH_done (by kernel_rfl) ?_ _
  have BB := Lib.hid (B0.out.trans (hSc.mono B0.out.size))
  go_wp2
  go_ret
  exact ⟨_, _, rfl, G.out.more (Nat.le_trans B0.out.size KS.out) (Nat.le_refl _), BB.out⟩

set_option maxHeartbeats 1000000 in
theorem runs_2 (p : Nat → Bool) (A : Option Addr) (c : Nat) (m : Nat) (lo : Nat) (w : World) (hT : Tb w) (hm2 : ct (hm p) 65536 = m) (h : Gs e64 w lo w.heap.size (.slice A 1024 c) (wm p)) :
    Calls Tryz.prog 40 #[.agg #[.int .u8 2, .slice none 0 0, .slice A 1024 c, .slice none 0 0]] w fun e w' => ∃ A' c', e = .returned (.slice A' m c') ∧ Gs2 eR w' w.heap.size w'.heap.size (.slice A' m c') (rs p 65536) ∧ Below w.heap.size w w' := by
  have H0 := Lib.hid (Cn.wrd (N := fun _ => True) A c (Gp.of h (Nat.le_refl _) fun _ _ _ => trivial))
  have H := Lib.hid h
  have TT := Lib.hid hT
  have T := two_blocks w #[.int .u8 2, .slice none 0 0, .slice A 1024 c, .slice none 0 0] #[.nilFunc, .func (.func 108) #[] #[], .func (.func 109) #[] #[], .func (.func 110) #[] #[]] 65 149
  clear h
  go_enter Tryz.func40, Tryz.ntmps40
  go_wp2_with fail
  generalize (w.alloc (.cells #[.int .u8 2, .slice none 0 0, .slice A 1024 c, .slice none 0 0] 65)).alloc (.cells #[.nilFunc, .func (.func 108) #[] #[], .func (.func 109) #[] #[], .func (.func 110) #[] #[]] 149) = W0 at *
  obtain ⟨b0, r0, r1⟩ := T
  have K0 : Hid (∀ W, Below W0.heap.size W0 W → W.cell? ⟨w.heap.size, 0, none⟩ = some (.int .u8 2) ∧ W.cell? ⟨w.heap.size, 1, none⟩ = some (.slice none 0 0) ∧ W.cell? ⟨w.heap.size, 2, none⟩ = some (.slice A 1024 c) ∧ W.cell? ⟨w.heap.size, 3, none⟩ = some (.slice none 0 0)) := Lib.hid fun W hW => by
    have r := r0.below hW r0.lt
    exact ⟨r.cell 0, r.cell 1, r.cell 2, r.cell 3⟩
  have K1 : Hid (∀ W, Below W0.heap.size W0 W → W.cell? ⟨w.heap.size + 1, 2, none⟩ = some (.func (.func 109) #[] #[])) := Lib.hid fun W hW => (r1.below hW r1.lt).cell 2
  have B0 := Lib.hid b0
  have hSc : Below W0.heap.size W0 W0.drew := (Below.refl W0.heap.size W0).drew
  clear b0 r0 r1
  refine wp_region_held_drew (S := fun W => Below W0.heap.size W0 W) (by kernel_rfl) hSc (fun _ => ?_)
  refine held_take 0 ?_ rfl (by kernel_rfl) (by kernel_rfl) (by kernel_rfl) (fun _ _ _ h => h) (by rfl) ?_ hSc ?_
  rotate_left
  · (intro W hSW; obtain ⟨k0, k1, k2, k3⟩ := K0.out W hSW; go_simp; try rfl)
  try simp only [Act.put, List.setIfInBounds_toArray, List.set_cons_zero, List.set_cons_succ]
  refine held_take 4 ?_ rfl (by kernel_rfl) (by kernel_rfl) (by kernel_rfl) (fun _ _ _ h => h) (by rfl) ?_ hSc ?_
  rotate_left
  · (intro W hSW; obtain ⟨k0, k1, k2, k3⟩ := K0.out W hSW; go_simp; try rfl)
  try simp only [Act.put, List.setIfInBounds_toArray, List.set_cons_zero, List.set_cons_succ]
  refine held_next 1 rfl (by kernel_rfl) (by rfl) ?_
  go_simp
  refine (kind_c _ p 2 _ ((H0.out.step B0.out).step hSc)).mono ?_
  rintro e wq1 ⟨rfl, bq⟩
  have hbq : Below W0.heap.size W0 wq1 := hSc.trans (bq.mono hSc.size)
  refine ⟨fun W => Below W0.heap.size W0 W, fun W hW => hW, hbq, ?_⟩
  clear hSc bq
  have hSc : Below W0.heap.size W0 wq1 := hbq
  clear hbq
  try simp only [Act.put, List.setIfInBounds_toArray, List.set_cons_zero, List.set_cons_succ]
  have KS := Lib.hid hSc.size
  refine held_take 2 ?_ rfl (by kernel_rfl) (by kernel_rfl) (by kernel_rfl) (fun _ _ _ h => h) (by rfl) ?_ hSc ?_
  rotate_left
  · (intro W hSW; go_simp; try rfl)
  try simp only [Act.put, List.setIfInBounds_toArray, List.set_cons_zero, List.set_cons_succ]
  refine held_take 3 ?_ rfl (by kernel_rfl) (by kernel_rfl) (by kernel_rfl) (fun _ _ _ h => h) (by rfl) ?_ hSc ?_
  rotate_left
  · (intro W hSW; have k1 := K1.out W hSW; go_simp; try rfl)
  try simp only [Act.put, List.setIfInBounds_toArray, List.set_cons_zero, List.set_cons_succ]
  refine held_next 5 rfl (by kernel_rfl) (by rfl) ?_
  go_simp
  refine (wordsToRuns_c p A c m hm2 lo _ ((TT.out.step B0.out).step hSc) ((H.out.stp B0.out).stp hSc)).mono ?_
  rintro e wq2 ⟨A', c', rfl, gq, bq⟩
  have hbq : Below W0.heap.size W0 wq2 := hSc.trans (bq.mono hSc.size)
  refine ⟨fun W => Below W0.heap.size W0 W, fun W hW => hW, hbq, ?_⟩
  have G := Lib.hid gq
  clear gq
  clear hSc bq
  have hSc : Below W0.heap.size W0 wq2 := hbq
  clear hbq
  try simp only [Act.put, List.setIfInBounds_toArray, List.set_cons_zero, List.set_cons_succ]
  refine held_next 6 rfl (by kernel_rfl) (by rfl) ?_
  go_simp
  refine ⟨fun W => Below W0.heap.size W0 W, fun W hW => hW, hSc, ?_⟩
  refine wpAnyH_done (by kernel_rfl) ?_ _
  have BB := Lib.hid (B0.out.trans (hSc.mono B0.out.size))
  go_wp2
  go_ret
  exact ⟨_, _, rfl, G.out.more (Nat.le_trans B0.out.size KS.out) (Nat.le_refl _), BB.out⟩

set_option maxHeartbeats 1000000 in
theorem runs_3 (p : Nat → Bool) (A : Option Addr) (n c : Nat) (m : Nat) (lo : Nat) (w : World) (hT : Tb w) (hm2 : ct (hm p) 65536 = m) (hn : ct (hm p) 65536 = n) (h : Gs2 eR w lo w.heap.size (.slice A n c) (rs p 65536)) :
    Calls Tryz.prog 40 #[.agg #[.int .u8 3, .slice none 0 0, .slice none 0 0, .slice A n c]] w fun e w' => ∃ A' c', e = .returned (.slice A' m c') ∧ Gs2 eR w' w.heap.size w'.heap.size (.slice A' m c') (rs p 65536) ∧ Below w.heap.size w w' := by
  have H0 := Lib.hid (Cn.run (N := fun _ => True) A n c hn (Gp2.of h (Nat.le_refl _) fun _ _ _ => trivial))
  have H := Lib.hid h
  have TT := Lib.hid hT
  have T := two_blocks w #[.int .u8 3, .slice none 0 0, .slice none 0 0, .slice A n c] #[.nilFunc, .func (.func 108) #[] #[], .func (.func 109) #[] #[], .func (.func 110) #[] #[]] 65 149
  clear h
  go_enter Tryz.func40, Tryz.ntmps40
  go_wp2_with fail
  generalize (w.alloc (.cells #[.int .u8 3, .slice none 0 0, .slice none 0 0, .slice A n c] 65)).alloc (.cells #[.nilFunc, .func (.func 108) #[] #[], .func (.func 109) #[] #[], .func (.func 110) #[] #[]] 149) = W0 at *
  obtain ⟨b0, r0, r1⟩ := T
  have K0 : Hid (∀ W, Below W0.heap.size W0 W → W.cell? ⟨w.heap.size, 0, none⟩ = some (.int .u8 3) ∧ W.cell? ⟨w.heap.size, 1, none⟩ = some (.slice none 0 0) ∧ W.cell? ⟨w.heap.size, 2, none⟩ = some (.slice none 0 0) ∧ W.cell? ⟨w.heap.size, 3, none⟩ = some (.slice A n c)) := Lib.hid fun W hW => by
    have r := r0.below hW r0.lt
    exact ⟨r.cell 0, r.cell 1, r.cell 2, r.cell 3⟩
  have K1 : Hid (∀ W, Below W0.heap.size W0 W → W.cell? ⟨w.heap.size + 1, 3, none⟩ = some (.func (.func 110) #[] #[])) := Lib.hid fun W hW => (r1.below hW r1.lt).cell 3
  have B0 := Lib.hid b0
  have hSc : Below W0.heap.size W0 W0.drew := (Below.refl W0.heap.size W0).drew
  clear b0 r0 r1
  refine wp_region_held_drew (S := fun W => Below W0.heap.size W0 W) (by kernel_rfl) hSc (fun _ => ?_)
  refine held_take 0 ?_ rfl (by kernel_rfl) (by kernel_rfl) (by kernel_rfl) (fun _ _ _ h => h) (by rfl) ?_ hSc ?_
  rotate_left
  · (intro W hSW; obtain ⟨k0, k1, k2, k3⟩ := K0.out W hSW; go_simp; try rfl)
  try simp only [Act.put, List.setIfInBounds_toArray, List.set_cons_zero, List.set_cons_succ]
  refine held_take 4 ?_ rfl (by kernel_rfl) (by kernel_rfl) (by kernel_rfl) (fun _ _ _ h => h) (by rfl) ?_ hSc ?_
  rotate_left
  · (intro W hSW; obtain ⟨k0, k1, k2, k3⟩ := K0.out W hSW; go_simp; try rfl)
  try simp only [Act.put, List.setIfInBounds_toArray, List.set_cons_zero, List.set_cons_succ]
  refine held_next 1 rfl (by kernel_rfl) (by rfl) ?_
  go_simp
  refine (kind_c _ p 3 _ ((H0.out.step B0.out).step hSc)).mono ?_
  rintro e wq1 ⟨rfl, bq⟩
  have hbq : Below W0.heap.size W0 wq1 := hSc.trans (bq.mono hSc.size)
  refine ⟨fun W => Below W0.heap.size W0 W, fun W hW => hW, hbq, ?_⟩
  clear hSc bq
  have hSc : Below W0.heap.size W0 wq1 := hbq
  clear hbq
  try simp only [Act.put, List.setIfInBounds_toArray, List.set_cons_zero, List.set_cons_succ]
  have KS := Lib.hid hSc.size
  refine held_take 2 ?_ rfl (by kernel_rfl) (by kernel_rfl) (by kernel_rfl) (fun _ _ _ h => h) (by rfl) ?_ hSc ?_
  rotate_left
  · (intro W hSW; go_simp; try rfl)
  try simp only [Act.put, List.setIfInBounds_toArray, List.set_cons_zero, List.set_cons_succ]
  refine held_take 3 ?_ rfl (by kernel_rfl) (by kernel_rfl) (by kernel_rfl) (fun _ _ _ h => h) (by rfl) ?_ hSc ?_
  rotate_left
  · (intro W hSW; have k1 := K1.out W hSW; go_simp; try rfl)
  try simp only [Act.put, List.setIfInBounds_toArray, List.set_cons_zero, List.set_cons_succ]
  refine held_next 5 rfl (by kernel_rfl) (by rfl) ?_
  go_simp
  refine (runsCopy_c p A n c m hm2 lo _ ((H.out.stp B0.out).stp hSc)).mono ?_
  rintro e wq2 ⟨A', c', rfl, gq, bq⟩
  have hbq : Below W0.heap.size W0 wq2 := hSc.trans (bq.mono hSc.size)
  refine ⟨fun W => Below W0.heap.size W0 W, fun W hW => hW, hbq, ?_⟩
  have G := Lib.hid gq
  clear gq
  clear hSc bq
  have hSc : Below W0.heap.size W0 wq2 := hbq
  clear hbq
  try simp only [Act.put, List.setIfInBounds_toArray, List.set_cons_zero, List.set_cons_succ]
  refine held_next 6 rfl (by kernel_rfl) (by rfl) ?_
  go_simp
  refine ⟨fun W => Below W0.heap.size W0 W, fun W hW => hW, hSc, ?_⟩
  refine wpAnyH_done (by kernel_rfl) ?_ _
  have BB := Lib.hid (B0.out.trans (hSc.mono B0.out.size))
  go_wp2
  go_ret
  exact ⟨_, _, rfl, G.out.more (Nat.le_trans B0.out.size KS.out) (Nat.le_refl _), BB.out⟩

theorem runs_c {N : Nat → Prop} (v : Value) (p : Nat → Bool) (k : Nat) (m : Nat) (w : World) (hT : Tb w) (hm2 : ct (hm p) 65536 = m) (h : Cn N w v p k) :
    Calls Tryz.prog 40 #[v] w fun e w' => ∃ A' c', e = .returned (.slice A' m c') ∧ Gs2 eR w' w.heap.size w'.heap.size (.slice A' m c') (rs p 65536) ∧ Below w.heap.size w w' := by
  cases h with
  | arr κ A n c hκ hn h => exact runs_1 p κ A n c m 0 w hT hm2 hκ hn h.1
  | wrd A c h => exact runs_2 p A c m 0 w hT hm2 h.1
  | run A n c hn h => exact runs_3 p A n c m 0 w hT hm2 hn h.1

end Go.Proofs.YtponcpneflhpfaaGreatDoor
