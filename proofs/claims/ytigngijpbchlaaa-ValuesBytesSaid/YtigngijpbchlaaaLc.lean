/- Walks: values.Compare. -/
import Derived.Test.YtigngijpbchlaaaLb
import Derived.Test.YtigngijpbchlaaaRg
namespace Go.Proofs.Ytigngijpbchlaaa
open Go.RowKit
set_option linter.unusedVariables false

section
variable {P : Program} {ops : Array Oper} {Q : Exit → Act → World → Prop} {S : World → Prop}
/-- A region that draws, walked in any world that meets S. -/
theorem wp_region_all {id : Nat} {a : Act} {w : World} (hm : P.follows .mixedOrders = true) (hS : S w.drew)
    (h : ∀ W, S W → wpAnyH P .any ops Q S ops.size (Array.replicate ops.size false) a W) : (Code.region id ops true).wp P Q a w :=
  wp_region_held_drew hm hS (fun h' => h _ h')
end
/-- The two blocks in which two values lie; older blocks are as they were. -/
structure Bx2 (w W : World) (k n : Int) (s : ByteArray) (k' n' : Int) (s' : ByteArray) : Prop where
  below : Below w.heap.size w W
  r1 : Row W w.heap.size 23 #[.int .u8 k, .int .i64 n, .string s]
  r2 : Row W (w.heap.size + 1) 23 #[.int .u8 k', .int .i64 n', .string s']
section
variable {w W W' : World} {k n k' n' : Int} {s s' : ByteArray}
theorem Bx2.new (w : World) (k n : Int) (s : ByteArray) (k' n' : Int) (s' : ByteArray) :
    Bx2 w ((w.alloc (.cells #[.int .u8 k, .int .i64 n, .string s] 23)).alloc (.cells #[.int .u8 k', .int .i64 n', .string s'] 23)) k n s k' n' s' :=
  ⟨((Below.refl _ _).alloc (Nat.le_refl _) _).alloc (by simp) _, (Row.new _ _ _).alloc _, by have := Row.new (w.alloc (.cells #[.int .u8 k, .int .i64 n, .string s] 23)) 23 #[.int .u8 k', .int .i64 n', .string s']; simpa using this⟩
theorem Bx2.a0 (h : Bx2 w W k n s k' n' s') : W.cell? ⟨w.heap.size, 0, none⟩ = some (.int .u8 k) := by rw [h.r1.cell]; rfl
theorem Bx2.a1 (h : Bx2 w W k n s k' n' s') : W.cell? ⟨w.heap.size, 1, none⟩ = some (.int .i64 n) := by rw [h.r1.cell]; rfl
theorem Bx2.a2 (h : Bx2 w W k n s k' n' s') : W.cell? ⟨w.heap.size, 2, none⟩ = some (.string s) := by rw [h.r1.cell]; rfl
theorem Bx2.b0 (h : Bx2 w W k n s k' n' s') : W.cell? ⟨w.heap.size + 1, 0, none⟩ = some (.int .u8 k') := by rw [h.r2.cell]; rfl
theorem Bx2.b1 (h : Bx2 w W k n s k' n' s') : W.cell? ⟨w.heap.size + 1, 1, none⟩ = some (.int .i64 n') := by rw [h.r2.cell]; rfl
theorem Bx2.b2 (h : Bx2 w W k n s k' n' s') : W.cell? ⟨w.heap.size + 1, 2, none⟩ = some (.string s') := by rw [h.r2.cell]; rfl
theorem Bx2.lt (h : Bx2 w W k n s k' n' s') : w.heap.size + 1 < W.heap.size := h.r2.lt
theorem Bx2.alloc (h : Bx2 w W k n s k' n' s') (o : Obj) : Bx2 w (W.alloc o) k n s k' n' s' := ⟨h.below.alloc (by have := h.lt; omega) _, h.r1.alloc _, h.r2.alloc _⟩
theorem Bx2.step (h : Bx2 w W k n s k' n' s') (b : Below W.heap.size W W') : Bx2 w W' k n s k' n' s' :=
  ⟨h.below.trans (b.mono (by have := h.lt; omega)), h.r1.below b h.r1.lt, h.r2.below b h.r2.lt⟩
theorem Bx2.drew (h : Bx2 w W k n s k' n' s') : Bx2 w W.drew k n s k' n' s' := ⟨h.below.drew, h.r1, h.r2⟩
theorem Bx2.drewN (h : Bx2 w W k n s k' n' s') (m : Nat) : Bx2 w (W.drewN m) k n s k' n' s' := ⟨below_drewN h.below m, h.r1, h.r2⟩
end

set_option maxHeartbeats 1000000 in
theorem compareV_any (k n : Int) (s : ByteArray) (k' n' : Int) (s' : ByteArray) (w : World) :
    Calls Try.prog 12 #[vV k n s, vV k' n' s'] w fun e w' => e = .returned (.int .i64 (cmpV k n (bls s) k' n' (bls s'))) ∧ Below w.heap.size w w' := by
  go_enter Try.func12, Try.ntmps12
  go_wp2_with fail
  have hSc := (Bx2.new w k n s k' n' s').drew
  refine wp_region_all (S := fun W => Bx2 w W k n s k' n' s') (by kernel_rfl) hSc (fun W0 hSc => ?_)
  refine held_take 0 ?_ rfl (by kernel_rfl) (by kernel_rfl) (by kernel_rfl) (fun _ _ _ h => h) (by rfl) ?_ hSc ?_
  rotate_left
  · (intro W hSW; have a0 := hSW.a0; have a1 := hSW.a1; have a2 := hSW.a2; have b0 := hSW.b0; have b1 := hSW.b1; have b2 := hSW.b2; go_simp; try rfl)
  try simp only [Act.put, List.setIfInBounds_toArray, List.set_cons_zero, List.set_cons_succ]
  refine held_take 1 ?_ rfl (by kernel_rfl) (by kernel_rfl) (by kernel_rfl) (fun _ _ _ h => h) (by rfl) ?_ hSc ?_
  rotate_left
  · (intro W hSW; have a0 := hSW.a0; have a1 := hSW.a1; have a2 := hSW.a2; have b0 := hSW.b0; have b1 := hSW.b1; have b2 := hSW.b2; go_simp; try rfl)
  try simp only [Act.put, List.setIfInBounds_toArray, List.set_cons_zero, List.set_cons_succ]
  refine held_take 2 ?_ rfl (by kernel_rfl) (by kernel_rfl) (by kernel_rfl) (fun _ _ _ h => h) (by rfl) ?_ hSc ?_
  rotate_left
  · (intro W hSW; have a0 := hSW.a0; have a1 := hSW.a1; have a2 := hSW.a2; have b0 := hSW.b0; have b1 := hSW.b1; have b2 := hSW.b2; go_simp; try rfl)
  try simp only [Act.put, List.setIfInBounds_toArray, List.set_cons_zero, List.set_cons_succ]
  refine held_take 3 ?_ rfl (by kernel_rfl) (by kernel_rfl) (by kernel_rfl) (fun _ _ _ h => h) (by rfl) ?_ hSc ?_
  rotate_left
  · (intro W hSW; have a0 := hSW.a0; have a1 := hSW.a1; have a2 := hSW.a2; have b0 := hSW.b0; have b1 := hSW.b1; have b2 := hSW.b2; go_simp; try rfl)
  try simp only [Act.put, List.setIfInBounds_toArray, List.set_cons_zero, List.set_cons_succ]
  refine held_take 5 ?_ rfl (by kernel_rfl) (by kernel_rfl) (by kernel_rfl) (fun _ _ _ h => h) (by rfl) ?_ hSc ?_
  rotate_left
  · (intro W hSW; have a0 := hSW.a0; have a1 := hSW.a1; have a2 := hSW.a2; have b0 := hSW.b0; have b1 := hSW.b1; have b2 := hSW.b2; go_simp; try rfl)
  try simp only [Act.put, List.setIfInBounds_toArray, List.set_cons_zero, List.set_cons_succ]
  refine held_take 6 ?_ rfl (by kernel_rfl) (by kernel_rfl) (by kernel_rfl) (fun _ _ _ h => h) (by rfl) ?_ hSc ?_
  rotate_left
  · (intro W hSW; have a0 := hSW.a0; have a1 := hSW.a1; have a2 := hSW.a2; have b0 := hSW.b0; have b1 := hSW.b1; have b2 := hSW.b2; go_simp; try rfl)
  try simp only [Act.put, List.setIfInBounds_toArray, List.set_cons_zero, List.set_cons_succ]
  refine held_take 7 ?_ rfl (by kernel_rfl) (by kernel_rfl) (by kernel_rfl) (fun _ _ _ h => h) (by rfl) ?_ hSc ?_
  rotate_left
  · (intro W hSW; have a0 := hSW.a0; have a1 := hSW.a1; have a2 := hSW.a2; have b0 := hSW.b0; have b1 := hSW.b1; have b2 := hSW.b2; go_simp; try rfl)
  try simp only [Act.put, List.setIfInBounds_toArray, List.set_cons_zero, List.set_cons_succ]
  refine held_take 8 ?_ rfl (by kernel_rfl) (by kernel_rfl) (by kernel_rfl) (fun _ _ _ h => h) (by rfl) ?_ hSc ?_
  rotate_left
  · (intro W hSW; have a0 := hSW.a0; have a1 := hSW.a1; have a2 := hSW.a2; have b0 := hSW.b0; have b1 := hSW.b1; have b2 := hSW.b2; go_simp; try rfl)
  try simp only [Act.put, List.setIfInBounds_toArray, List.set_cons_zero, List.set_cons_succ]
  refine held_take 10 ?_ rfl (by kernel_rfl) (by kernel_rfl) (by kernel_rfl) (fun _ _ _ h => h) (by rfl) ?_ hSc ?_
  rotate_left
  · (intro W hSW; have a0 := hSW.a0; have a1 := hSW.a1; have a2 := hSW.a2; have b0 := hSW.b0; have b1 := hSW.b1; have b2 := hSW.b2; go_simp; try rfl)
  try simp only [Act.put, List.setIfInBounds_toArray, List.set_cons_zero, List.set_cons_succ]
  refine held_take 11 ?_ rfl (by kernel_rfl) (by kernel_rfl) (by kernel_rfl) (fun _ _ _ h => h) (by rfl) ?_ hSc ?_
  rotate_left
  · (intro W hSW; have a0 := hSW.a0; have a1 := hSW.a1; have a2 := hSW.a2; have b0 := hSW.b0; have b1 := hSW.b1; have b2 := hSW.b2; go_simp; try rfl)
  try simp only [Act.put, List.setIfInBounds_toArray, List.set_cons_zero, List.set_cons_succ]
  refine held_take 12 ?_ rfl (by kernel_rfl) (by kernel_rfl) (by kernel_rfl) (fun _ _ _ h => h) (by rfl) ?_ hSc ?_
  rotate_left
  · (intro W hSW; have a0 := hSW.a0; have a1 := hSW.a1; have a2 := hSW.a2; have b0 := hSW.b0; have b1 := hSW.b1; have b2 := hSW.b2; go_simp; try rfl)
  try simp only [Act.put, List.setIfInBounds_toArray, List.set_cons_zero, List.set_cons_succ]
  refine held_take 13 ?_ rfl (by kernel_rfl) (by kernel_rfl) (by kernel_rfl) (fun _ _ _ h => h) (by rfl) ?_ hSc ?_
  rotate_left
  · (intro W hSW; have a0 := hSW.a0; have a1 := hSW.a1; have a2 := hSW.a2; have b0 := hSW.b0; have b1 := hSW.b1; have b2 := hSW.b2; go_simp; try rfl)
  try simp only [Act.put, List.setIfInBounds_toArray, List.set_cons_zero, List.set_cons_succ]
  refine held_next 4 rfl (by kernel_rfl) (by rfl) ?_
  go_simp
  refine (cmp8_any _ _ _).mono ?_
  rintro e _ ⟨rfl, rfl⟩
  refine ⟨fun W => Bx2 w W k n s k' n' s', fun W hW => hW, hSc, ?_⟩
  try simp only [Act.put, List.setIfInBounds_toArray, List.set_cons_zero, List.set_cons_succ]
  refine held_next 9 rfl (by kernel_rfl) (by rfl) ?_
  go_simp
  refine (cmp64_any _ _ _).mono ?_
  rintro e _ ⟨rfl, rfl⟩
  refine ⟨fun W => Bx2 w W k n s k' n' s', fun W hW => hW, hSc, ?_⟩
  try simp only [Act.put, List.setIfInBounds_toArray, List.set_cons_zero, List.set_cons_succ]
  refine held_next 14 rfl (by kernel_rfl) (by rfl) ?_
  go_simp
  refine (compareS_any _ _ _).mono ?_
  rintro e _ ⟨rfl, rfl⟩
  refine ⟨fun W => Bx2 w W k n s k' n' s', fun W hW => hW, hSc, ?_⟩
  try simp only [Act.put, List.setIfInBounds_toArray, List.set_cons_zero, List.set_cons_succ]
  refine held_next 15 rfl (by kernel_rfl) (by rfl) ?_
  go_simp
  have hSd := hSc.alloc (.cells #[.int .i64 (cmpI k k'), .int .i64 (cmpI n n'), .int .i64 (cmpB (bls s) (bls s'))] 3)
  refine ⟨fun W => Bx2 w W k n s k' n' s', fun W hW => hW, hSd, ?_⟩
  clear hSc 
  have hSc := hSd
  clear hSd
  try simp only [Act.put, List.setIfInBounds_toArray, List.set_cons_zero, List.set_cons_succ]
  refine held_next 16 rfl (by kernel_rfl) (by rfl) ?_
  go_simp
  refine (or_any _ (cmpI k k') (cmpI n n') (cmpB (bls s) (bls s')) _ (by rw [(Row.new _ _ _).cell]; rfl) (by rw [(Row.new _ _ _).cell]; rfl) (by rw [(Row.new _ _ _).cell]; rfl)).mono ?_
  rintro e _ ⟨rfl, rfl⟩
  refine ⟨fun W => Bx2 w W k n s k' n' s', fun W hW => hW, hSc, ?_⟩
  try simp only [Act.put, List.setIfInBounds_toArray, List.set_cons_zero, List.set_cons_succ]
  refine held_next 17 rfl (by kernel_rfl) (by rfl) ?_
  go_simp
  refine ⟨fun W => Bx2 w W k n s k' n' s', fun W hW => hW, hSc, ?_⟩
  refine wpAnyH_done (by kernel_rfl) ?_ _
  go_wp2
  go_ret
  exact ⟨rfl, hSc.below⟩
end Go.Proofs.Ytigngijpbchlaaa
