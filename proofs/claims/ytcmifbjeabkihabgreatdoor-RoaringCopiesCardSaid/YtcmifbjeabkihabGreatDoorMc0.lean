/- Walks: Flip, With, OfArray. -/
import Derived.Test.YtcmifbjeabkihabGreatDoorMb9
namespace Go.Proofs.YtcmifbjeabkihabGreatDoor
open Go.RowKit
set_option linter.unusedVariables false

theorem three_blocks (w : World) (o1 o2 o3 : Array Value) (t1 t2 t3 : TypeId) :
    Bx w w.heap.size t1 o1 (w.heap.size + 2) t3 o3 (((w.alloc (.cells o1 t1)).alloc (.cells o2 t2)).alloc (.cells o3 t3)) ∧ Row (((w.alloc (.cells o1 t1)).alloc (.cells o2 t2)).alloc (.cells o3 t3)) (w.heap.size + 1) t2 o2 ∧ (((w.alloc (.cells o1 t1)).alloc (.cells o2 t2)).alloc (.cells o3 t3)).heap.size = w.heap.size + 3 := by
  obtain ⟨b, r1, r2⟩ := two_blocks w o1 o2 t1 t2
  have h := Row.new ((w.alloc (.cells o1 t1)).alloc (.cells o2 t2)) t3 o3
  refine ⟨⟨b.trans ((bx _ _).mono (by simp; omega)), r1.alloc _, by simpa using h⟩, r2.alloc _, by simp⟩
theorem ret_row2 {fn : Func} {p u : Tmp} (hf : fn.results = #[.cell p 55, .tmp u]) {tmps : Array Value} {w : World} {g : Nat} {a b c d : Value} {y : Value} (hp : tmps.getD p undef = .pointer (some ⟨g, 0, none⟩)) (hu : tmps.getD u undef = y) (R : Row w g 55 #[a, b, c, d]) :
    (results fn tmps).run Tryz.prog w = .ok (.tuple #[.agg #[a, b, c, d], y]) w := by
  rw [results_cell_tmp hf, hp, hu]
  simp [asAddr, run_loadVar_row w g 55 55 _ (0, 0) _ R Tryz.underlying55 rfl szC, Result.andThen]

set_option maxHeartbeats 2000000 in
theorem flip_1 {N : Nat → Prop} (v : Value) (p : Nat → Bool) (x y : Int) (w : World) (hT : Tb w) (hN : ∀ b, w.heap.size ≤ b → N b) (h : Cn N w v p 1) :
    Calls Tryz.prog 115 #[v, .int .i64 x, .int .i64 y] w fun e w' => ∃ v', e = .returned v' ∧ Cn N w' v' (flp p x y) (ck (flp p x y)) ∧ Below w.heap.size w w' := by
  obtain ⟨κ, A, n, c, A2, n2, c2, A3, n3, c3, rfl⟩ := h.form
  have H := Lib.hid (h.mono (N' := fun b => N b ∧ b < w.heap.size) fun b hb hn => ⟨hn, hb⟩)
  have TT := Lib.hid hT
  have NN := Lib.hid hN
  have X := three_blocks w #[.int .u8 κ, .slice A n c, .slice A2 n2 c2, .slice A3 n3 c3] #[.int .u8 0, .slice none 0 0, .slice none 0 0, .slice none 0 0] #[.nilFunc, .func (.func 162) #[] #[], .func (.func 163) #[] #[], .func (.func 162) #[] #[]] 55 55 170
  clear hT hN
  go_enter Tryz.func115, Tryz.ntmps115
  go_wp2_with fail
  generalize ((w.alloc (.cells #[.int .u8 κ, .slice A n c, .slice A2 n2 c2, .slice A3 n3 c3] 55)).alloc (.cells #[.int .u8 0, .slice none 0 0, .slice none 0 0, .slice none 0 0] 55)).alloc (.cells #[.nilFunc, .func (.func 162) #[] #[], .func (.func 163) #[] #[], .func (.func 162) #[] #[]] 170) = W0 at *
  obtain ⟨x1, x2, x3⟩ := X
  have hSc : Bx w w.heap.size 55 #[.int .u8 κ, .slice A n c, .slice A2 n2 c2, .slice A3 n3 c3] (w.heap.size + 2) 170 #[.nilFunc, .func (.func 162) #[] #[], .func (.func 163) #[] #[], .func (.func 162) #[] #[]] W0.drew := ⟨x1.bel.drew, x1.r1, x1.r2⟩
  have H2 := Lib.hid (Cn.mono (N' := fun b => N b ∧ b ≠ w.heap.size + 1) (H.out.step x1.bel.drew) fun b _ hn => ⟨hn.1, by have := hn.2; omega⟩)
  have T2 := Lib.hid (TT.out.step x1.bel.drew)
  have RR := Lib.hid (show Row W0.drew (w.heap.size + 1) _ _ from x2)
  have N2 : Hid (∀ b, W0.drew.heap.size ≤ b → N b ∧ b ≠ w.heap.size + 1) := Lib.hid fun b hb => by
    have hb' : W0.heap.size ≤ b := hb
    exact ⟨NN.out b (by omega), by omega⟩
  have SZ : w.heap.size + 3 ≤ W0.drew.heap.size := Nat.le_of_eq x3.symm
  clear x1 x2 x3 H TT
  refine wp_region_held_drew (S := fun W => Bx w w.heap.size 55 #[.int .u8 κ, .slice A n c, .slice A2 n2 c2, .slice A3 n3 c3] (w.heap.size + 2) 170 #[.nilFunc, .func (.func 162) #[] #[], .func (.func 163) #[] #[], .func (.func 162) #[] #[]] W) (by kernel_rfl) hSc (fun _ => ?_)
  refine held_take 0 ?_ rfl (by kernel_rfl) (by kernel_rfl) (by kernel_rfl) (fun _ _ _ h => h) (by rfl) ?_ hSc ?_
  rotate_left
  · (intro W hSW; have k0 : W.cell? ⟨w.heap.size, 0, none⟩ = some (.int .u8 κ) := hSW.r1.cell 0; have k1 : W.cell? ⟨w.heap.size, 1, none⟩ = some (.slice A n c) := hSW.r1.cell 1; have k2 : W.cell? ⟨w.heap.size, 2, none⟩ = some (.slice A2 n2 c2) := hSW.r1.cell 2; have k3 : W.cell? ⟨w.heap.size, 3, none⟩ = some (.slice A3 n3 c3) := hSW.r1.cell 3; go_simp; try rfl)
  try simp only [Act.put, List.setIfInBounds_toArray, List.set_cons_zero, List.set_cons_succ]
  refine held_take 4 ?_ rfl (by kernel_rfl) (by kernel_rfl) (by kernel_rfl) (fun _ _ _ h => h) (by rfl) ?_ hSc ?_
  rotate_left
  · (intro W hSW; have k0 : W.cell? ⟨w.heap.size, 0, none⟩ = some (.int .u8 κ) := hSW.r1.cell 0; have k1 : W.cell? ⟨w.heap.size, 1, none⟩ = some (.slice A n c) := hSW.r1.cell 1; have k2 : W.cell? ⟨w.heap.size, 2, none⟩ = some (.slice A2 n2 c2) := hSW.r1.cell 2; have k3 : W.cell? ⟨w.heap.size, 3, none⟩ = some (.slice A3 n3 c3) := hSW.r1.cell 3; go_simp; try rfl)
  try simp only [Act.put, List.setIfInBounds_toArray, List.set_cons_zero, List.set_cons_succ]
  refine held_take 5 ?_ rfl (by kernel_rfl) (by kernel_rfl) (by kernel_rfl) (fun _ _ _ h => h) (by rfl) ?_ hSc ?_
  rotate_left
  · (intro W hSW; go_simp; try rfl)
  try simp only [Act.put, List.setIfInBounds_toArray, List.set_cons_zero, List.set_cons_succ]
  refine held_take 6 ?_ rfl (by kernel_rfl) (by kernel_rfl) (by kernel_rfl) (fun _ _ _ h => h) (by rfl) ?_ hSc ?_
  rotate_left
  · (intro W hSW; go_simp; try rfl)
  try simp only [Act.put, List.setIfInBounds_toArray, List.set_cons_zero, List.set_cons_succ]
  refine held_next 1 rfl (by kernel_rfl) (by rfl) ?_
  go_simp
  refine (kind_c _ p 1 _ H2.out).mono ?_
  rintro e u1 ⟨rfl, bq⟩
  have hS2 := hSc.step bq
  have RR := Lib.hid (RR.out.below bq RR.out.lt)
  have T2 := Lib.hid (T2.out.step bq)
  have N2 : Hid (∀ b, u1.heap.size ≤ b → N b ∧ b ≠ w.heap.size + 1) := Lib.hid fun b hb => N2.out b (Nat.le_trans bq.size hb)
  have H2 := Lib.hid (H2.out.step bq)
  clear hSc bq
  have hSc := hS2
  clear hS2
  refine ⟨fun W => Bx w w.heap.size 55 #[.int .u8 κ, .slice A n c, .slice A2 n2 c2, .slice A3 n3 c3] (w.heap.size + 2) 170 #[.nilFunc, .func (.func 162) #[] #[], .func (.func 163) #[] #[], .func (.func 162) #[] #[]] W, fun W hW => hW, hSc, ?_⟩
  try simp only [Act.put, List.setIfInBounds_toArray, List.set_cons_zero, List.set_cons_succ]
  refine held_take 2 ?_ rfl (by kernel_rfl) (by kernel_rfl) (by kernel_rfl) (fun _ _ _ h => h) (by rfl) ?_ hSc ?_
  rotate_left
  · (intro W hSW; go_simp; try rfl)
  try simp only [Act.put, List.setIfInBounds_toArray, List.set_cons_zero, List.set_cons_succ]
  refine held_take 3 ?_ rfl (by kernel_rfl) (by kernel_rfl) (by kernel_rfl) (fun _ _ _ h => h) (by rfl) ?_ hSc ?_
  rotate_left
  · (intro W hSW; have k0 : W.cell? ⟨w.heap.size + 2, 1, none⟩ = some (.func (.func 162) #[] #[]) := hSW.r2.cell 1; go_simp; try rfl)
  try simp only [Act.put, List.setIfInBounds_toArray, List.set_cons_zero, List.set_cons_succ]
  refine held_next 7 rfl (by kernel_rfl) (by rfl) ?_
  go_simp
  refine (flippedByRuns_c _ p 1 x y _ T2.out N2.out H2.out).mono ?_
  rintro e u2 ⟨v2, rfl, gq, bq⟩
  have hS2 := hSc.step bq
  have RR := Lib.hid (RR.out.below bq RR.out.lt)
  have T2 := Lib.hid (T2.out.step bq)
  have N2 : Hid (∀ b, u2.heap.size ≤ b → N b ∧ b ≠ w.heap.size + 1) := Lib.hid fun b hb => N2.out b (Nat.le_trans bq.size hb)
  have H2 := Lib.hid gq
  clear hSc bq gq
  have hSc := hS2
  clear hS2
  refine ⟨fun W => Bx w w.heap.size 55 #[.int .u8 κ, .slice A n c, .slice A2 n2 c2, .slice A3 n3 c3] (w.heap.size + 2) 170 #[.nilFunc, .func (.func 162) #[] #[], .func (.func 163) #[] #[], .func (.func 162) #[] #[]] W, fun W hW => hW, hSc, ?_⟩
  try simp only [Act.put, List.setIfInBounds_toArray, List.set_cons_zero, List.set_cons_succ]
  refine held_next 8 rfl (by kernel_rfl) (by rfl) ?_
  go_simp
  refine (canonical_c v2 _ _ _ T2.out N2.out H2.out).mono ?_
  rintro e u3 ⟨v', rfl, gq, bq⟩
  obtain ⟨κ5, A5, n5, c5, A6, n6, c6, A7, n7, c7, rfl⟩ := gq.form
  have hS2 := hSc.step bq
  have RR := Lib.hid (RR.out.below bq RR.out.lt)
  have T2 := Lib.hid (T2.out.step bq)
  have N2 : Hid (∀ b, u3.heap.size ≤ b → N b ∧ b ≠ w.heap.size + 1) := Lib.hid fun b hb => N2.out b (Nat.le_trans bq.size hb)
  have G := Lib.hid gq
  clear hSc bq gq
  have hSc := hS2
  clear hS2
  refine ⟨fun W => Bx w w.heap.size 55 #[.int .u8 κ, .slice A n c, .slice A2 n2 c2, .slice A3 n3 c3] (w.heap.size + 2) 170 #[.nilFunc, .func (.func 162) #[] #[], .func (.func 163) #[] #[], .func (.func 162) #[] #[]] W, fun W hW => hW, hSc, ?_⟩
  try simp only [Act.put, List.setIfInBounds_toArray, List.set_cons_zero, List.set_cons_succ]
  have d0 : u3.cell? ⟨w.heap.size + 1, 0, none⟩ = some (.int .u8 0) := RR.out.cell 0
  have d1 : u3.cell? ⟨w.heap.size + 1, 1, none⟩ = some (.slice none 0 0) := RR.out.cell 1
  have d2 : u3.cell? ⟨w.heap.size + 1, 2, none⟩ = some (.slice none 0 0) := RR.out.cell 2
  have d3 : u3.cell? ⟨w.heap.size + 1, 3, none⟩ = some (.slice none 0 0) := RR.out.cell 3
  have e0 := RR.out.frozen 0
  have e1 := RR.out.frozen 1
  have e2 := RR.out.frozen 2
  have e3 := RR.out.frozen 3
  refine held_next 9 rfl (by kernel_rfl) (by rfl) ?_
  go_simp
  have S4 := set4 (a' := .int .u8 κ5) (b' := .slice A5 n5 c5) (c' := .slice A6 n6 c6) (d' := .slice A7 n7 c7) RR.out
  have hSd := hSc.stored S4.2 (by omega) (by omega) (by omega)
  have H5 := Lib.hid ((G.out.grown S4.2 (fun hh => hh.2 rfl)).mono fun b _ hn => hn.1)
  refine ⟨fun W => Bx w w.heap.size 55 #[.int .u8 κ, .slice A n c, .slice A2 n2 c2, .slice A3 n3 c3] (w.heap.size + 2) 170 #[.nilFunc, .func (.func 162) #[] #[], .func (.func 163) #[] #[], .func (.func 162) #[] #[]] W, fun W hW => hW, hSd, ?_⟩
  refine wpAnyH_done (by kernel_rfl) ?_ _
  go_wp2
  exact bodyPost_ret (ret_row rfl rfl S4.1) rfl ⟨_, rfl, H5.out, hSd.bel⟩

set_option maxHeartbeats 2000000 in
theorem flip_2 {N : Nat → Prop} (v : Value) (p : Nat → Bool) (x y : Int) (w : World) (hT : Tb w) (hN : ∀ b, w.heap.size ≤ b → N b) (h : Cn N w v p 2) :
    Calls Tryz.prog 115 #[v, .int .i64 x, .int .i64 y] w fun e w' => ∃ v', e = .returned v' ∧ Cn N w' v' (flp p x y) (ck (flp p x y)) ∧ Below w.heap.size w w' := by
  obtain ⟨κ, A, n, c, A2, n2, c2, A3, n3, c3, rfl⟩ := h.form
  have H := Lib.hid (h.mono (N' := fun b => N b ∧ b < w.heap.size) fun b hb hn => ⟨hn, hb⟩)
  have TT := Lib.hid hT
  have NN := Lib.hid hN
  have X := three_blocks w #[.int .u8 κ, .slice A n c, .slice A2 n2 c2, .slice A3 n3 c3] #[.int .u8 0, .slice none 0 0, .slice none 0 0, .slice none 0 0] #[.nilFunc, .func (.func 162) #[] #[], .func (.func 163) #[] #[], .func (.func 162) #[] #[]] 55 55 170
  clear hT hN
  go_enter Tryz.func115, Tryz.ntmps115
  go_wp2_with fail
  generalize ((w.alloc (.cells #[.int .u8 κ, .slice A n c, .slice A2 n2 c2, .slice A3 n3 c3] 55)).alloc (.cells #[.int .u8 0, .slice none 0 0, .slice none 0 0, .slice none 0 0] 55)).alloc (.cells #[.nilFunc, .func (.func 162) #[] #[], .func (.func 163) #[] #[], .func (.func 162) #[] #[]] 170) = W0 at *
  obtain ⟨x1, x2, x3⟩ := X
  have hSc : Bx w w.heap.size 55 #[.int .u8 κ, .slice A n c, .slice A2 n2 c2, .slice A3 n3 c3] (w.heap.size + 2) 170 #[.nilFunc, .func (.func 162) #[] #[], .func (.func 163) #[] #[], .func (.func 162) #[] #[]] W0.drew := ⟨x1.bel.drew, x1.r1, x1.r2⟩
  have H2 := Lib.hid (Cn.mono (N' := fun b => N b ∧ b ≠ w.heap.size + 1) (H.out.step x1.bel.drew) fun b _ hn => ⟨hn.1, by have := hn.2; omega⟩)
  have T2 := Lib.hid (TT.out.step x1.bel.drew)
  have RR := Lib.hid (show Row W0.drew (w.heap.size + 1) _ _ from x2)
  have N2 : Hid (∀ b, W0.drew.heap.size ≤ b → N b ∧ b ≠ w.heap.size + 1) := Lib.hid fun b hb => by
    have hb' : W0.heap.size ≤ b := hb
    exact ⟨NN.out b (by omega), by omega⟩
  have SZ : w.heap.size + 3 ≤ W0.drew.heap.size := Nat.le_of_eq x3.symm
  clear x1 x2 x3 H TT
  refine wp_region_held_drew (S := fun W => Bx w w.heap.size 55 #[.int .u8 κ, .slice A n c, .slice A2 n2 c2, .slice A3 n3 c3] (w.heap.size + 2) 170 #[.nilFunc, .func (.func 162) #[] #[], .func (.func 163) #[] #[], .func (.func 162) #[] #[]] W) (by kernel_rfl) hSc (fun _ => ?_)
  refine held_take 0 ?_ rfl (by kernel_rfl) (by kernel_rfl) (by kernel_rfl) (fun _ _ _ h => h) (by rfl) ?_ hSc ?_
  rotate_left
  · (intro W hSW; have k0 : W.cell? ⟨w.heap.size, 0, none⟩ = some (.int .u8 κ) := hSW.r1.cell 0; have k1 : W.cell? ⟨w.heap.size, 1, none⟩ = some (.slice A n c) := hSW.r1.cell 1; have k2 : W.cell? ⟨w.heap.size, 2, none⟩ = some (.slice A2 n2 c2) := hSW.r1.cell 2; have k3 : W.cell? ⟨w.heap.size, 3, none⟩ = some (.slice A3 n3 c3) := hSW.r1.cell 3; go_simp; try rfl)
  try simp only [Act.put, List.setIfInBounds_toArray, List.set_cons_zero, List.set_cons_succ]
  refine held_take 4 ?_ rfl (by kernel_rfl) (by kernel_rfl) (by kernel_rfl) (fun _ _ _ h => h) (by rfl) ?_ hSc ?_
  rotate_left
  · (intro W hSW; have k0 : W.cell? ⟨w.heap.size, 0, none⟩ = some (.int .u8 κ) := hSW.r1.cell 0; have k1 : W.cell? ⟨w.heap.size, 1, none⟩ = some (.slice A n c) := hSW.r1.cell 1; have k2 : W.cell? ⟨w.heap.size, 2, none⟩ = some (.slice A2 n2 c2) := hSW.r1.cell 2; have k3 : W.cell? ⟨w.heap.size, 3, none⟩ = some (.slice A3 n3 c3) := hSW.r1.cell 3; go_simp; try rfl)
  try simp only [Act.put, List.setIfInBounds_toArray, List.set_cons_zero, List.set_cons_succ]
  refine held_take 5 ?_ rfl (by kernel_rfl) (by kernel_rfl) (by kernel_rfl) (fun _ _ _ h => h) (by rfl) ?_ hSc ?_
  rotate_left
  · (intro W hSW; go_simp; try rfl)
  try simp only [Act.put, List.setIfInBounds_toArray, List.set_cons_zero, List.set_cons_succ]
  refine held_take 6 ?_ rfl (by kernel_rfl) (by kernel_rfl) (by kernel_rfl) (fun _ _ _ h => h) (by rfl) ?_ hSc ?_
  rotate_left
  · (intro W hSW; go_simp; try rfl)
  try simp only [Act.put, List.setIfInBounds_toArray, List.set_cons_zero, List.set_cons_succ]
  refine held_next 1 rfl (by kernel_rfl) (by rfl) ?_
  go_simp
  refine (kind_c _ p 2 _ H2.out).mono ?_
  rintro e u1 ⟨rfl, bq⟩
  have hS2 := hSc.step bq
  have RR := Lib.hid (RR.out.below bq RR.out.lt)
  have T2 := Lib.hid (T2.out.step bq)
  have N2 : Hid (∀ b, u1.heap.size ≤ b → N b ∧ b ≠ w.heap.size + 1) := Lib.hid fun b hb => N2.out b (Nat.le_trans bq.size hb)
  have H2 := Lib.hid (H2.out.step bq)
  clear hSc bq
  have hSc := hS2
  clear hS2
  refine ⟨fun W => Bx w w.heap.size 55 #[.int .u8 κ, .slice A n c, .slice A2 n2 c2, .slice A3 n3 c3] (w.heap.size + 2) 170 #[.nilFunc, .func (.func 162) #[] #[], .func (.func 163) #[] #[], .func (.func 162) #[] #[]] W, fun W hW => hW, hSc, ?_⟩
  try simp only [Act.put, List.setIfInBounds_toArray, List.set_cons_zero, List.set_cons_succ]
  refine held_take 2 ?_ rfl (by kernel_rfl) (by kernel_rfl) (by kernel_rfl) (fun _ _ _ h => h) (by rfl) ?_ hSc ?_
  rotate_left
  · (intro W hSW; go_simp; try rfl)
  try simp only [Act.put, List.setIfInBounds_toArray, List.set_cons_zero, List.set_cons_succ]
  refine held_take 3 ?_ rfl (by kernel_rfl) (by kernel_rfl) (by kernel_rfl) (fun _ _ _ h => h) (by rfl) ?_ hSc ?_
  rotate_left
  · (intro W hSW; have k0 : W.cell? ⟨w.heap.size + 2, 2, none⟩ = some (.func (.func 163) #[] #[]) := hSW.r2.cell 2; go_simp; try rfl)
  try simp only [Act.put, List.setIfInBounds_toArray, List.set_cons_zero, List.set_cons_succ]
  refine held_next 7 rfl (by kernel_rfl) (by rfl) ?_
  go_simp
  refine (flippedByWords_c _ p 2 x y _ T2.out N2.out H2.out).mono ?_
  rintro e u2 ⟨v2, rfl, gq, bq⟩
  have hS2 := hSc.step bq
  have RR := Lib.hid (RR.out.below bq RR.out.lt)
  have T2 := Lib.hid (T2.out.step bq)
  have N2 : Hid (∀ b, u2.heap.size ≤ b → N b ∧ b ≠ w.heap.size + 1) := Lib.hid fun b hb => N2.out b (Nat.le_trans bq.size hb)
  have H2 := Lib.hid gq
  clear hSc bq gq
  have hSc := hS2
  clear hS2
  refine ⟨fun W => Bx w w.heap.size 55 #[.int .u8 κ, .slice A n c, .slice A2 n2 c2, .slice A3 n3 c3] (w.heap.size + 2) 170 #[.nilFunc, .func (.func 162) #[] #[], .func (.func 163) #[] #[], .func (.func 162) #[] #[]] W, fun W hW => hW, hSc, ?_⟩
  try simp only [Act.put, List.setIfInBounds_toArray, List.set_cons_zero, List.set_cons_succ]
  refine held_next 8 rfl (by kernel_rfl) (by rfl) ?_
  go_simp
  refine (canonical_c v2 _ _ _ T2.out N2.out H2.out).mono ?_
  rintro e u3 ⟨v', rfl, gq, bq⟩
  obtain ⟨κ5, A5, n5, c5, A6, n6, c6, A7, n7, c7, rfl⟩ := gq.form
  have hS2 := hSc.step bq
  have RR := Lib.hid (RR.out.below bq RR.out.lt)
  have T2 := Lib.hid (T2.out.step bq)
  have N2 : Hid (∀ b, u3.heap.size ≤ b → N b ∧ b ≠ w.heap.size + 1) := Lib.hid fun b hb => N2.out b (Nat.le_trans bq.size hb)
  have G := Lib.hid gq
  clear hSc bq gq
  have hSc := hS2
  clear hS2
  refine ⟨fun W => Bx w w.heap.size 55 #[.int .u8 κ, .slice A n c, .slice A2 n2 c2, .slice A3 n3 c3] (w.heap.size + 2) 170 #[.nilFunc, .func (.func 162) #[] #[], .func (.func 163) #[] #[], .func (.func 162) #[] #[]] W, fun W hW => hW, hSc, ?_⟩
  try simp only [Act.put, List.setIfInBounds_toArray, List.set_cons_zero, List.set_cons_succ]
  have d0 : u3.cell? ⟨w.heap.size + 1, 0, none⟩ = some (.int .u8 0) := RR.out.cell 0
  have d1 : u3.cell? ⟨w.heap.size + 1, 1, none⟩ = some (.slice none 0 0) := RR.out.cell 1
  have d2 : u3.cell? ⟨w.heap.size + 1, 2, none⟩ = some (.slice none 0 0) := RR.out.cell 2
  have d3 : u3.cell? ⟨w.heap.size + 1, 3, none⟩ = some (.slice none 0 0) := RR.out.cell 3
  have e0 := RR.out.frozen 0
  have e1 := RR.out.frozen 1
  have e2 := RR.out.frozen 2
  have e3 := RR.out.frozen 3
  refine held_next 9 rfl (by kernel_rfl) (by rfl) ?_
  go_simp
  have S4 := set4 (a' := .int .u8 κ5) (b' := .slice A5 n5 c5) (c' := .slice A6 n6 c6) (d' := .slice A7 n7 c7) RR.out
  have hSd := hSc.stored S4.2 (by omega) (by omega) (by omega)
  have H5 := Lib.hid ((G.out.grown S4.2 (fun hh => hh.2 rfl)).mono fun b _ hn => hn.1)
  refine ⟨fun W => Bx w w.heap.size 55 #[.int .u8 κ, .slice A n c, .slice A2 n2 c2, .slice A3 n3 c3] (w.heap.size + 2) 170 #[.nilFunc, .func (.func 162) #[] #[], .func (.func 163) #[] #[], .func (.func 162) #[] #[]] W, fun W hW => hW, hSd, ?_⟩
  refine wpAnyH_done (by kernel_rfl) ?_ _
  go_wp2
  exact bodyPost_ret (ret_row rfl rfl S4.1) rfl ⟨_, rfl, H5.out, hSd.bel⟩

set_option maxHeartbeats 2000000 in
theorem flip_3 {N : Nat → Prop} (v : Value) (p : Nat → Bool) (x y : Int) (w : World) (hT : Tb w) (hN : ∀ b, w.heap.size ≤ b → N b) (h : Cn N w v p 3) :
    Calls Tryz.prog 115 #[v, .int .i64 x, .int .i64 y] w fun e w' => ∃ v', e = .returned v' ∧ Cn N w' v' (flp p x y) (ck (flp p x y)) ∧ Below w.heap.size w w' := by
  obtain ⟨κ, A, n, c, A2, n2, c2, A3, n3, c3, rfl⟩ := h.form
  have H := Lib.hid (h.mono (N' := fun b => N b ∧ b < w.heap.size) fun b hb hn => ⟨hn, hb⟩)
  have TT := Lib.hid hT
  have NN := Lib.hid hN
  have X := three_blocks w #[.int .u8 κ, .slice A n c, .slice A2 n2 c2, .slice A3 n3 c3] #[.int .u8 0, .slice none 0 0, .slice none 0 0, .slice none 0 0] #[.nilFunc, .func (.func 162) #[] #[], .func (.func 163) #[] #[], .func (.func 162) #[] #[]] 55 55 170
  clear hT hN
  go_enter Tryz.func115, Tryz.ntmps115
  go_wp2_with fail
  generalize ((w.alloc (.cells #[.int .u8 κ, .slice A n c, .slice A2 n2 c2, .slice A3 n3 c3] 55)).alloc (.cells #[.int .u8 0, .slice none 0 0, .slice none 0 0, .slice none 0 0] 55)).alloc (.cells #[.nilFunc, .func (.func 162) #[] #[], .func (.func 163) #[] #[], .func (.func 162) #[] #[]] 170) = W0 at *
  obtain ⟨x1, x2, x3⟩ := X
  have hSc : Bx w w.heap.size 55 #[.int .u8 κ, .slice A n c, .slice A2 n2 c2, .slice A3 n3 c3] (w.heap.size + 2) 170 #[.nilFunc, .func (.func 162) #[] #[], .func (.func 163) #[] #[], .func (.func 162) #[] #[]] W0.drew := ⟨x1.bel.drew, x1.r1, x1.r2⟩
  have H2 := Lib.hid (Cn.mono (N' := fun b => N b ∧ b ≠ w.heap.size + 1) (H.out.step x1.bel.drew) fun b _ hn => ⟨hn.1, by have := hn.2; omega⟩)
  have T2 := Lib.hid (TT.out.step x1.bel.drew)
  have RR := Lib.hid (show Row W0.drew (w.heap.size + 1) _ _ from x2)
  have N2 : Hid (∀ b, W0.drew.heap.size ≤ b → N b ∧ b ≠ w.heap.size + 1) := Lib.hid fun b hb => by
    have hb' : W0.heap.size ≤ b := hb
    exact ⟨NN.out b (by omega), by omega⟩
  have SZ : w.heap.size + 3 ≤ W0.drew.heap.size := Nat.le_of_eq x3.symm
  clear x1 x2 x3 H TT
  refine wp_region_held_drew (S := fun W => Bx w w.heap.size 55 #[.int .u8 κ, .slice A n c, .slice A2 n2 c2, .slice A3 n3 c3] (w.heap.size + 2) 170 #[.nilFunc, .func (.func 162) #[] #[], .func (.func 163) #[] #[], .func (.func 162) #[] #[]] W) (by kernel_rfl) hSc (fun _ => ?_)
  refine held_take 0 ?_ rfl (by kernel_rfl) (by kernel_rfl) (by kernel_rfl) (fun _ _ _ h => h) (by rfl) ?_ hSc ?_
  rotate_left
  · (intro W hSW; have k0 : W.cell? ⟨w.heap.size, 0, none⟩ = some (.int .u8 κ) := hSW.r1.cell 0; have k1 : W.cell? ⟨w.heap.size, 1, none⟩ = some (.slice A n c) := hSW.r1.cell 1; have k2 : W.cell? ⟨w.heap.size, 2, none⟩ = some (.slice A2 n2 c2) := hSW.r1.cell 2; have k3 : W.cell? ⟨w.heap.size, 3, none⟩ = some (.slice A3 n3 c3) := hSW.r1.cell 3; go_simp; try rfl)
  try simp only [Act.put, List.setIfInBounds_toArray, List.set_cons_zero, List.set_cons_succ]
  refine held_take 4 ?_ rfl (by kernel_rfl) (by kernel_rfl) (by kernel_rfl) (fun _ _ _ h => h) (by rfl) ?_ hSc ?_
  rotate_left
  · (intro W hSW; have k0 : W.cell? ⟨w.heap.size, 0, none⟩ = some (.int .u8 κ) := hSW.r1.cell 0; have k1 : W.cell? ⟨w.heap.size, 1, none⟩ = some (.slice A n c) := hSW.r1.cell 1; have k2 : W.cell? ⟨w.heap.size, 2, none⟩ = some (.slice A2 n2 c2) := hSW.r1.cell 2; have k3 : W.cell? ⟨w.heap.size, 3, none⟩ = some (.slice A3 n3 c3) := hSW.r1.cell 3; go_simp; try rfl)
  try simp only [Act.put, List.setIfInBounds_toArray, List.set_cons_zero, List.set_cons_succ]
  refine held_take 5 ?_ rfl (by kernel_rfl) (by kernel_rfl) (by kernel_rfl) (fun _ _ _ h => h) (by rfl) ?_ hSc ?_
  rotate_left
  · (intro W hSW; go_simp; try rfl)
  try simp only [Act.put, List.setIfInBounds_toArray, List.set_cons_zero, List.set_cons_succ]
  refine held_take 6 ?_ rfl (by kernel_rfl) (by kernel_rfl) (by kernel_rfl) (fun _ _ _ h => h) (by rfl) ?_ hSc ?_
  rotate_left
  · (intro W hSW; go_simp; try rfl)
  try simp only [Act.put, List.setIfInBounds_toArray, List.set_cons_zero, List.set_cons_succ]
  refine held_next 1 rfl (by kernel_rfl) (by rfl) ?_
  go_simp
  refine (kind_c _ p 3 _ H2.out).mono ?_
  rintro e u1 ⟨rfl, bq⟩
  have hS2 := hSc.step bq
  have RR := Lib.hid (RR.out.below bq RR.out.lt)
  have T2 := Lib.hid (T2.out.step bq)
  have N2 : Hid (∀ b, u1.heap.size ≤ b → N b ∧ b ≠ w.heap.size + 1) := Lib.hid fun b hb => N2.out b (Nat.le_trans bq.size hb)
  have H2 := Lib.hid (H2.out.step bq)
  clear hSc bq
  have hSc := hS2
  clear hS2
  refine ⟨fun W => Bx w w.heap.size 55 #[.int .u8 κ, .slice A n c, .slice A2 n2 c2, .slice A3 n3 c3] (w.heap.size + 2) 170 #[.nilFunc, .func (.func 162) #[] #[], .func (.func 163) #[] #[], .func (.func 162) #[] #[]] W, fun W hW => hW, hSc, ?_⟩
  try simp only [Act.put, List.setIfInBounds_toArray, List.set_cons_zero, List.set_cons_succ]
  refine held_take 2 ?_ rfl (by kernel_rfl) (by kernel_rfl) (by kernel_rfl) (fun _ _ _ h => h) (by rfl) ?_ hSc ?_
  rotate_left
  · (intro W hSW; go_simp; try rfl)
  try simp only [Act.put, List.setIfInBounds_toArray, List.set_cons_zero, List.set_cons_succ]
  refine held_take 3 ?_ rfl (by kernel_rfl) (by kernel_rfl) (by kernel_rfl) (fun _ _ _ h => h) (by rfl) ?_ hSc ?_
  rotate_left
  · (intro W hSW; have k0 : W.cell? ⟨w.heap.size + 2, 3, none⟩ = some (.func (.func 162) #[] #[]) := hSW.r2.cell 3; go_simp; try rfl)
  try simp only [Act.put, List.setIfInBounds_toArray, List.set_cons_zero, List.set_cons_succ]
  refine held_next 7 rfl (by kernel_rfl) (by rfl) ?_
  go_simp
  refine (flippedByRuns_c _ p 3 x y _ T2.out N2.out H2.out).mono ?_
  rintro e u2 ⟨v2, rfl, gq, bq⟩
  have hS2 := hSc.step bq
  have RR := Lib.hid (RR.out.below bq RR.out.lt)
  have T2 := Lib.hid (T2.out.step bq)
  have N2 : Hid (∀ b, u2.heap.size ≤ b → N b ∧ b ≠ w.heap.size + 1) := Lib.hid fun b hb => N2.out b (Nat.le_trans bq.size hb)
  have H2 := Lib.hid gq
  clear hSc bq gq
  have hSc := hS2
  clear hS2
  refine ⟨fun W => Bx w w.heap.size 55 #[.int .u8 κ, .slice A n c, .slice A2 n2 c2, .slice A3 n3 c3] (w.heap.size + 2) 170 #[.nilFunc, .func (.func 162) #[] #[], .func (.func 163) #[] #[], .func (.func 162) #[] #[]] W, fun W hW => hW, hSc, ?_⟩
  try simp only [Act.put, List.setIfInBounds_toArray, List.set_cons_zero, List.set_cons_succ]
  refine held_next 8 rfl (by kernel_rfl) (by rfl) ?_
  go_simp
  refine (canonical_c v2 _ _ _ T2.out N2.out H2.out).mono ?_
  rintro e u3 ⟨v', rfl, gq, bq⟩
  obtain ⟨κ5, A5, n5, c5, A6, n6, c6, A7, n7, c7, rfl⟩ := gq.form
  have hS2 := hSc.step bq
  have RR := Lib.hid (RR.out.below bq RR.out.lt)
  have T2 := Lib.hid (T2.out.step bq)
  have N2 : Hid (∀ b, u3.heap.size ≤ b → N b ∧ b ≠ w.heap.size + 1) := Lib.hid fun b hb => N2.out b (Nat.le_trans bq.size hb)
  have G := Lib.hid gq
  clear hSc bq gq
  have hSc := hS2
  clear hS2
  refine ⟨fun W => Bx w w.heap.size 55 #[.int .u8 κ, .slice A n c, .slice A2 n2 c2, .slice A3 n3 c3] (w.heap.size + 2) 170 #[.nilFunc, .func (.func 162) #[] #[], .func (.func 163) #[] #[], .func (.func 162) #[] #[]] W, fun W hW => hW, hSc, ?_⟩
  try simp only [Act.put, List.setIfInBounds_toArray, List.set_cons_zero, List.set_cons_succ]
  have d0 : u3.cell? ⟨w.heap.size + 1, 0, none⟩ = some (.int .u8 0) := RR.out.cell 0
  have d1 : u3.cell? ⟨w.heap.size + 1, 1, none⟩ = some (.slice none 0 0) := RR.out.cell 1
  have d2 : u3.cell? ⟨w.heap.size + 1, 2, none⟩ = some (.slice none 0 0) := RR.out.cell 2
  have d3 : u3.cell? ⟨w.heap.size + 1, 3, none⟩ = some (.slice none 0 0) := RR.out.cell 3
  have e0 := RR.out.frozen 0
  have e1 := RR.out.frozen 1
  have e2 := RR.out.frozen 2
  have e3 := RR.out.frozen 3
  refine held_next 9 rfl (by kernel_rfl) (by rfl) ?_
  go_simp
  have S4 := set4 (a' := .int .u8 κ5) (b' := .slice A5 n5 c5) (c' := .slice A6 n6 c6) (d' := .slice A7 n7 c7) RR.out
  have hSd := hSc.stored S4.2 (by omega) (by omega) (by omega)
  have H5 := Lib.hid ((G.out.grown S4.2 (fun hh => hh.2 rfl)).mono fun b _ hn => hn.1)
  refine ⟨fun W => Bx w w.heap.size 55 #[.int .u8 κ, .slice A n c, .slice A2 n2 c2, .slice A3 n3 c3] (w.heap.size + 2) 170 #[.nilFunc, .func (.func 162) #[] #[], .func (.func 163) #[] #[], .func (.func 162) #[] #[]] W, fun W hW => hW, hSd, ?_⟩
  refine wpAnyH_done (by kernel_rfl) ?_ _
  go_wp2
  exact bodyPost_ret (ret_row rfl rfl S4.1) rfl ⟨_, rfl, H5.out, hSd.bel⟩

theorem flip_c {N : Nat → Prop} (v : Value) (p : Nat → Bool) (k : Nat) (x y : Int) (w : World) (hT : Tb w) (hN : ∀ b, w.heap.size ≤ b → N b) (h : Cn N w v p k) :
    Calls Tryz.prog 115 #[v, .int .i64 x, .int .i64 y] w fun e w' => ∃ v', e = .returned v' ∧ Cn N w' v' (flp p x y) (ck (flp p x y)) ∧ Below w.heap.size w w' := by
  have hk := h.kind
  have hk2 : k = 1 ∨ k = 2 ∨ k = 3 := by omega
  rcases hk2 with rfl | rfl | rfl
  · exact flip_1 v p x y w hT hN h
  · exact flip_2 v p x y w hT hN h
  · exact flip_3 v p x y w hT hN h

set_option maxHeartbeats 1000000 in
theorem flippedWith_yes {N : Nat → Prop} (v : Value) (p : Nat → Bool) (k x : Nat) (w : World) (hT : Tb w) (hN : ∀ b, w.heap.size ≤ b → N b) (hx : x < 65536) (hp : p x = true) (h : Cn N w v p k) :
    Calls Tryz.prog 70 #[v, .int .u16 x] w fun e w' => ∃ v' k', e = .returned v' ∧ Cn N w' v' (pls p x) k' ∧ Below w.heap.size w w' := by
  obtain ⟨κ, A, n, c, A2, n2, c2, A3, n3, c3, rfl⟩ := h.form
  have H := Lib.hid (h.mono (N' := fun b => N b ∧ b < w.heap.size) fun b hb hn => ⟨hn, hb⟩)
  have TT := Lib.hid hT
  have NN := Lib.hid hN
  have HP := Lib.hid hp
  have HX := Lib.hid hx
  have X := two_blocks w #[.int .u8 κ, .slice A n c, .slice A2 n2 c2, .slice A3 n3 c3] #[.int .u8 0, .slice none 0 0, .slice none 0 0, .slice none 0 0] 55 55
  have w1 : IntKind.i64.wrap (x : Int) = x := by simp [IntKind.wrap, IntKind.bits, IntKind.signed]; omega
  have w2 : wrap64 ((x : Int) + 1) = (x : Int) + 1 := by unfold wrap64; omega
  clear h hT hN hp hx
  go_enter Tryz.func70, Tryz.ntmps70
  go_wp2_with fail
  generalize (w.alloc (.cells #[.int .u8 κ, .slice A n c, .slice A2 n2 c2, .slice A3 n3 c3] 55)).alloc (.cells #[.int .u8 0, .slice none 0 0, .slice none 0 0, .slice none 0 0] 55) = W0 at *
  obtain ⟨b0, r0, r1⟩ := X
  have lg := r1.lt
  have R0 := Lib.hid r0
  have RR := Lib.hid r1
  have BB := Lib.hid b0
  clear b0 r0 r1
  refine (has_c _ p k x _ HX.out (H.out.step BB.out)).mono ?_
  rw [HP.out]
  rintro e u1 ⟨rfl, b⟩
  have R0 := Lib.hid (R0.out.below b R0.out.lt)
  have RR := Lib.hid (RR.out.below b RR.out.lt)
  have BB := Lib.hid (below_both BB.out b)
  have hs := b.size
  clear b
  have k0 : u1.cell? ⟨w.heap.size, 0, none⟩ = some (.int .u8 κ) := R0.out.cell 0
  have k1 : u1.cell? ⟨w.heap.size, 1, none⟩ = some (.slice A n c) := R0.out.cell 1
  have k2 : u1.cell? ⟨w.heap.size, 2, none⟩ = some (.slice A2 n2 c2) := R0.out.cell 2
  have k3 : u1.cell? ⟨w.heap.size, 3, none⟩ = some (.slice A3 n3 c3) := R0.out.cell 3
  have d0 : u1.cell? ⟨w.heap.size + 1, 0, none⟩ = some (.int .u8 0) := RR.out.cell 0
  have d1 : u1.cell? ⟨w.heap.size + 1, 1, none⟩ = some (.slice none 0 0) := RR.out.cell 1
  have d2 : u1.cell? ⟨w.heap.size + 1, 2, none⟩ = some (.slice none 0 0) := RR.out.cell 2
  have d3 : u1.cell? ⟨w.heap.size + 1, 3, none⟩ = some (.slice none 0 0) := RR.out.cell 3
  have e0 := RR.out.frozen 0
  have e1 := RR.out.frozen 1
  have e2 := RR.out.frozen 2
  have e3 := RR.out.frozen 3
  go_wp2
  have S4 := set4 (a' := .int .u8 κ) (b' := .slice A n c) (c' := .slice A2 n2 c2) (d' := .slice A3 n3 c3) RR.out
  have B5 := Lib.hid (BB.out.grown S4.2 BB.out.size (fun j e => by injection e with e; subst e; omega))
  have H5 := Lib.hid (((H.out.step BB.out).grown S4.2 (fun hh => by have := hh.2; omega)).mono fun b _ hn => hn.1)
  exact bodyPost_ret (ret_row rfl rfl S4.1) rfl ⟨_, _, rfl, by rw [pls_has HP.out]; exact H5.out, B5.out⟩

set_option maxHeartbeats 1000000 in
theorem flippedWith_no {N : Nat → Prop} (v : Value) (p : Nat → Bool) (k x : Nat) (w : World) (hT : Tb w) (hN : ∀ b, w.heap.size ≤ b → N b) (hx : x < 65536) (hp : p x = false) (h : Cn N w v p k) :
    Calls Tryz.prog 70 #[v, .int .u16 x] w fun e w' => ∃ v' k', e = .returned v' ∧ Cn N w' v' (pls p x) k' ∧ Below w.heap.size w w' := by
  obtain ⟨κ, A, n, c, A2, n2, c2, A3, n3, c3, rfl⟩ := h.form
  have H := Lib.hid (h.mono (N' := fun b => N b ∧ b < w.heap.size) fun b hb hn => ⟨hn, hb⟩)
  have TT := Lib.hid hT
  have NN := Lib.hid hN
  have HP := Lib.hid hp
  have HX := Lib.hid hx
  have X := two_blocks w #[.int .u8 κ, .slice A n c, .slice A2 n2 c2, .slice A3 n3 c3] #[.int .u8 0, .slice none 0 0, .slice none 0 0, .slice none 0 0] 55 55
  have w1 : IntKind.i64.wrap (x : Int) = x := by simp [IntKind.wrap, IntKind.bits, IntKind.signed]; omega
  have w2 : wrap64 ((x : Int) + 1) = (x : Int) + 1 := by unfold wrap64; omega
  clear h hT hN hp hx
  go_enter Tryz.func70, Tryz.ntmps70
  go_wp2_with fail
  generalize (w.alloc (.cells #[.int .u8 κ, .slice A n c, .slice A2 n2 c2, .slice A3 n3 c3] 55)).alloc (.cells #[.int .u8 0, .slice none 0 0, .slice none 0 0, .slice none 0 0] 55) = W0 at *
  obtain ⟨b0, r0, r1⟩ := X
  have lg := r1.lt
  have R0 := Lib.hid r0
  have RR := Lib.hid r1
  have BB := Lib.hid b0
  clear b0 r0 r1
  refine (has_c _ p k x _ HX.out (H.out.step BB.out)).mono ?_
  rw [HP.out]
  rintro e u1 ⟨rfl, b⟩
  have R0 := Lib.hid (R0.out.below b R0.out.lt)
  have RR := Lib.hid (RR.out.below b RR.out.lt)
  have BB := Lib.hid (below_both BB.out b)
  have hs := b.size
  clear b
  have k0 : u1.cell? ⟨w.heap.size, 0, none⟩ = some (.int .u8 κ) := R0.out.cell 0
  have k1 : u1.cell? ⟨w.heap.size, 1, none⟩ = some (.slice A n c) := R0.out.cell 1
  have k2 : u1.cell? ⟨w.heap.size, 2, none⟩ = some (.slice A2 n2 c2) := R0.out.cell 2
  have k3 : u1.cell? ⟨w.heap.size, 3, none⟩ = some (.slice A3 n3 c3) := R0.out.cell 3
  have N2 : Hid (∀ b, u1.heap.size ≤ b → N b ∧ b ≠ w.heap.size + 1) := Lib.hid fun b hb => ⟨NN.out b (by omega), by omega⟩
  have H2 := Lib.hid (Cn.mono (N' := fun b => N b ∧ b ≠ w.heap.size + 1) (H.out.step BB.out) fun b _ hn => ⟨hn.1, by have := hn.2; omega⟩)
  go_wp2_with fail
  refine (flip_c _ p k _ _ _ (TT.out.step BB.out) N2.out H2.out).mono ?_
  rw [pls_flp HP.out]
  rintro e u2 ⟨v', rfl, g, b⟩
  obtain ⟨κ5, A5, n5, c5, A6, n6, c6, A7, n7, c7, rfl⟩ := g.form
  have G := Lib.hid g
  have RR := Lib.hid (RR.out.below b RR.out.lt)
  have BB := Lib.hid (below_both BB.out b)
  clear b g k0 k1 k2 k3
  have d0 : u2.cell? ⟨w.heap.size + 1, 0, none⟩ = some (.int .u8 0) := RR.out.cell 0
  have d1 : u2.cell? ⟨w.heap.size + 1, 1, none⟩ = some (.slice none 0 0) := RR.out.cell 1
  have d2 : u2.cell? ⟨w.heap.size + 1, 2, none⟩ = some (.slice none 0 0) := RR.out.cell 2
  have d3 : u2.cell? ⟨w.heap.size + 1, 3, none⟩ = some (.slice none 0 0) := RR.out.cell 3
  have e0 := RR.out.frozen 0
  have e1 := RR.out.frozen 1
  have e2 := RR.out.frozen 2
  have e3 := RR.out.frozen 3
  go_wp2
  have S4 := set4 (a' := .int .u8 κ5) (b' := .slice A5 n5 c5) (c' := .slice A6 n6 c6) (d' := .slice A7 n7 c7) RR.out
  have B5 := Lib.hid (BB.out.grown S4.2 BB.out.size (fun j e => by injection e with e; subst e; omega))
  have H5 := Lib.hid ((G.out.grown S4.2 (fun hh => hh.2 rfl)).mono fun b _ hn => hn.1)
  exact bodyPost_ret (ret_row rfl rfl S4.1) rfl ⟨_, _, rfl, H5.out, B5.out⟩

theorem flippedWith_c {N : Nat → Prop} (v : Value) (p : Nat → Bool) (k x : Nat) (w : World) (hT : Tb w) (hN : ∀ b, w.heap.size ≤ b → N b) (hx : x < 65536) (h : Cn N w v p k) :
    Calls Tryz.prog 70 #[v, .int .u16 x] w fun e w' => ∃ v' k', e = .returned v' ∧ Cn N w' v' (pls p x) k' ∧ Below w.heap.size w w' := by
  cases hp : p x with
  | true => exact flippedWith_yes v p k x w hT hN hx hp h
  | false => exact flippedWith_no v p k x w hT hN hx hp h

set_option maxHeartbeats 2000000 in
theorem with_1 {N : Nat → Prop} (κ : Int) (A : Option Addr) (n c : Nat) (p : Nat → Bool) (x : Nat) (w : World) (hT : Tb w) (hN : ∀ b, w.heap.size ≤ b → N b) (hx : x < 65536) (hκ : κ = 0 ∨ κ = 1) (hn : ct p 65536 = n) (h : Gp e16 N w (.slice A n c) (ls p 65536)) :
    Calls Tryz.prog 38 #[.agg #[.int .u8 κ, .slice A n c, .slice none 0 0, .slice none 0 0], .int .u16 x] w fun e w' => ∃ v', e = .returned v' ∧ Cn N w' v' (pls p x) (ck (pls p x)) ∧ Below w.heap.size w w' := by
  have H := Lib.hid (show Cn (fun b => N b ∧ b < w.heap.size) w _ p 1 from .arr κ A n c hκ hn (h.mono fun b hb hn => ⟨hn, hb⟩))
  have TT := Lib.hid hT
  have NN := Lib.hid hN
  have X := three_blocks w #[.int .u8 κ, .slice A n c, .slice none 0 0, .slice none 0 0] #[.int .u8 0, .slice none 0 0, .slice none 0 0, .slice none 0 0] #[.nilFunc, .func (.func 69) #[] #[], .func (.func 70) #[] #[], .func (.func 70) #[] #[]] 55 55 106
  clear hT hN
  go_enter Tryz.func38, Tryz.ntmps38
  go_wp2_with fail
  generalize ((w.alloc (.cells #[.int .u8 κ, .slice A n c, .slice none 0 0, .slice none 0 0] 55)).alloc (.cells #[.int .u8 0, .slice none 0 0, .slice none 0 0, .slice none 0 0] 55)).alloc (.cells #[.nilFunc, .func (.func 69) #[] #[], .func (.func 70) #[] #[], .func (.func 70) #[] #[]] 106) = W0 at *
  obtain ⟨x1, x2, x3⟩ := X
  have hSc : Bx w w.heap.size 55 #[.int .u8 κ, .slice A n c, .slice none 0 0, .slice none 0 0] (w.heap.size + 2) 106 #[.nilFunc, .func (.func 69) #[] #[], .func (.func 70) #[] #[], .func (.func 70) #[] #[]] W0.drew := ⟨x1.bel.drew, x1.r1, x1.r2⟩
  have H2 := Lib.hid (Cn.mono (N' := fun b => N b ∧ b ≠ w.heap.size + 1) (H.out.step x1.bel.drew) fun b _ hn => ⟨hn.1, by have := hn.2; omega⟩)
  have T2 := Lib.hid (TT.out.step x1.bel.drew)
  have RR := Lib.hid (show Row W0.drew (w.heap.size + 1) _ _ from x2)
  have N2 : Hid (∀ b, W0.drew.heap.size ≤ b → N b ∧ b ≠ w.heap.size + 1) := Lib.hid fun b hb => by
    have hb' : W0.heap.size ≤ b := hb
    exact ⟨NN.out b (by omega), by omega⟩
  have SZ : w.heap.size + 3 ≤ W0.drew.heap.size := Nat.le_of_eq x3.symm
  clear x1 x2 x3 H TT
  refine wp_region_held_drew (S := fun W => Bx w w.heap.size 55 #[.int .u8 κ, .slice A n c, .slice none 0 0, .slice none 0 0] (w.heap.size + 2) 106 #[.nilFunc, .func (.func 69) #[] #[], .func (.func 70) #[] #[], .func (.func 70) #[] #[]] W) (by kernel_rfl) hSc (fun _ => ?_)
  refine held_take 0 ?_ rfl (by kernel_rfl) (by kernel_rfl) (by kernel_rfl) (fun _ _ _ h => h) (by rfl) ?_ hSc ?_
  rotate_left
  · (intro W hSW; have k0 : W.cell? ⟨w.heap.size, 0, none⟩ = some (.int .u8 κ) := hSW.r1.cell 0; have k1 : W.cell? ⟨w.heap.size, 1, none⟩ = some (.slice A n c) := hSW.r1.cell 1; have k2 : W.cell? ⟨w.heap.size, 2, none⟩ = some (.slice none 0 0) := hSW.r1.cell 2; have k3 : W.cell? ⟨w.heap.size, 3, none⟩ = some (.slice none 0 0) := hSW.r1.cell 3; go_simp; try rfl)
  try simp only [Act.put, List.setIfInBounds_toArray, List.set_cons_zero, List.set_cons_succ]
  refine held_take 4 ?_ rfl (by kernel_rfl) (by kernel_rfl) (by kernel_rfl) (fun _ _ _ h => h) (by rfl) ?_ hSc ?_
  rotate_left
  · (intro W hSW; have k0 : W.cell? ⟨w.heap.size, 0, none⟩ = some (.int .u8 κ) := hSW.r1.cell 0; have k1 : W.cell? ⟨w.heap.size, 1, none⟩ = some (.slice A n c) := hSW.r1.cell 1; have k2 : W.cell? ⟨w.heap.size, 2, none⟩ = some (.slice none 0 0) := hSW.r1.cell 2; have k3 : W.cell? ⟨w.heap.size, 3, none⟩ = some (.slice none 0 0) := hSW.r1.cell 3; go_simp; try rfl)
  try simp only [Act.put, List.setIfInBounds_toArray, List.set_cons_zero, List.set_cons_succ]
  refine held_take 5 ?_ rfl (by kernel_rfl) (by kernel_rfl) (by kernel_rfl) (fun _ _ _ h => h) (by rfl) ?_ hSc ?_
  rotate_left
  · (intro W hSW; go_simp; try rfl)
  try simp only [Act.put, List.setIfInBounds_toArray, List.set_cons_zero, List.set_cons_succ]
  refine held_next 1 rfl (by kernel_rfl) (by rfl) ?_
  go_simp
  refine (kind_c _ p 1 _ H2.out).mono ?_
  rintro e u1 ⟨rfl, bq⟩
  have hS2 := hSc.step bq
  have RR := Lib.hid (RR.out.below bq RR.out.lt)
  have T2 := Lib.hid (T2.out.step bq)
  have N2 : Hid (∀ b, u1.heap.size ≤ b → N b ∧ b ≠ w.heap.size + 1) := Lib.hid fun b hb => N2.out b (Nat.le_trans bq.size hb)
  have H2 := Lib.hid (H2.out.step bq)
  clear hSc bq
  have hSc := hS2
  clear hS2
  refine ⟨fun W => Bx w w.heap.size 55 #[.int .u8 κ, .slice A n c, .slice none 0 0, .slice none 0 0] (w.heap.size + 2) 106 #[.nilFunc, .func (.func 69) #[] #[], .func (.func 70) #[] #[], .func (.func 70) #[] #[]] W, fun W hW => hW, hSc, ?_⟩
  try simp only [Act.put, List.setIfInBounds_toArray, List.set_cons_zero, List.set_cons_succ]
  refine held_take 2 ?_ rfl (by kernel_rfl) (by kernel_rfl) (by kernel_rfl) (fun _ _ _ h => h) (by rfl) ?_ hSc ?_
  rotate_left
  · (intro W hSW; go_simp; try rfl)
  try simp only [Act.put, List.setIfInBounds_toArray, List.set_cons_zero, List.set_cons_succ]
  refine held_take 3 ?_ rfl (by kernel_rfl) (by kernel_rfl) (by kernel_rfl) (fun _ _ _ h => h) (by rfl) ?_ hSc ?_
  rotate_left
  · (intro W hSW; have k0 : W.cell? ⟨w.heap.size + 2, 1, none⟩ = some (.func (.func 69) #[] #[]) := hSW.r2.cell 1; go_simp; try rfl)
  try simp only [Act.put, List.setIfInBounds_toArray, List.set_cons_zero, List.set_cons_succ]
  refine held_next 6 rfl (by kernel_rfl) (by rfl) ?_
  go_simp
  refine (arrayWith_c p κ A n c x _ T2.out N2.out hx (h.1.stp hSc.bel)).mono ?_
  rintro e u2 ⟨v2, rfl, gq, bq⟩
  have hS2 := hSc.step bq
  have RR := Lib.hid (RR.out.below bq RR.out.lt)
  have T2 := Lib.hid (T2.out.step bq)
  have N2 : Hid (∀ b, u2.heap.size ≤ b → N b ∧ b ≠ w.heap.size + 1) := Lib.hid fun b hb => N2.out b (Nat.le_trans bq.size hb)
  have H2 := Lib.hid gq
  clear hSc bq gq
  have hSc := hS2
  clear hS2
  refine ⟨fun W => Bx w w.heap.size 55 #[.int .u8 κ, .slice A n c, .slice none 0 0, .slice none 0 0] (w.heap.size + 2) 106 #[.nilFunc, .func (.func 69) #[] #[], .func (.func 70) #[] #[], .func (.func 70) #[] #[]] W, fun W hW => hW, hSc, ?_⟩
  try simp only [Act.put, List.setIfInBounds_toArray, List.set_cons_zero, List.set_cons_succ]
  refine held_next 7 rfl (by kernel_rfl) (by rfl) ?_
  go_simp
  refine (canonical_c v2 _ _ _ T2.out N2.out H2.out).mono ?_
  rintro e u3 ⟨v', rfl, gq, bq⟩
  obtain ⟨κ5, A5, n5, c5, A6, n6, c6, A7, n7, c7, rfl⟩ := gq.form
  have hS2 := hSc.step bq
  have RR := Lib.hid (RR.out.below bq RR.out.lt)
  have T2 := Lib.hid (T2.out.step bq)
  have N2 : Hid (∀ b, u3.heap.size ≤ b → N b ∧ b ≠ w.heap.size + 1) := Lib.hid fun b hb => N2.out b (Nat.le_trans bq.size hb)
  have G := Lib.hid gq
  clear hSc bq gq
  have hSc := hS2
  clear hS2
  refine ⟨fun W => Bx w w.heap.size 55 #[.int .u8 κ, .slice A n c, .slice none 0 0, .slice none 0 0] (w.heap.size + 2) 106 #[.nilFunc, .func (.func 69) #[] #[], .func (.func 70) #[] #[], .func (.func 70) #[] #[]] W, fun W hW => hW, hSc, ?_⟩
  try simp only [Act.put, List.setIfInBounds_toArray, List.set_cons_zero, List.set_cons_succ]
  have d0 : u3.cell? ⟨w.heap.size + 1, 0, none⟩ = some (.int .u8 0) := RR.out.cell 0
  have d1 : u3.cell? ⟨w.heap.size + 1, 1, none⟩ = some (.slice none 0 0) := RR.out.cell 1
  have d2 : u3.cell? ⟨w.heap.size + 1, 2, none⟩ = some (.slice none 0 0) := RR.out.cell 2
  have d3 : u3.cell? ⟨w.heap.size + 1, 3, none⟩ = some (.slice none 0 0) := RR.out.cell 3
  have e0 := RR.out.frozen 0
  have e1 := RR.out.frozen 1
  have e2 := RR.out.frozen 2
  have e3 := RR.out.frozen 3
  refine held_next 8 rfl (by kernel_rfl) (by rfl) ?_
  go_simp
  have S4 := set4 (a' := .int .u8 κ5) (b' := .slice A5 n5 c5) (c' := .slice A6 n6 c6) (d' := .slice A7 n7 c7) RR.out
  have hSd := hSc.stored S4.2 (by omega) (by omega) (by omega)
  have H5 := Lib.hid ((G.out.grown S4.2 (fun hh => hh.2 rfl)).mono fun b _ hn => hn.1)
  refine ⟨fun W => Bx w w.heap.size 55 #[.int .u8 κ, .slice A n c, .slice none 0 0, .slice none 0 0] (w.heap.size + 2) 106 #[.nilFunc, .func (.func 69) #[] #[], .func (.func 70) #[] #[], .func (.func 70) #[] #[]] W, fun W hW => hW, hSd, ?_⟩
  refine wpAnyH_done (by kernel_rfl) ?_ _
  go_wp2
  exact bodyPost_ret (ret_row rfl rfl S4.1) rfl ⟨_, rfl, H5.out, hSd.bel⟩

set_option maxHeartbeats 2000000 in
theorem with_2 {N : Nat → Prop} (v : Value) (p : Nat → Bool) (x : Nat) (w : World) (hT : Tb w) (hN : ∀ b, w.heap.size ≤ b → N b) (hx : x < 65536) (h : Cn N w v p 2) :
    Calls Tryz.prog 38 #[v, .int .u16 x] w fun e w' => ∃ v', e = .returned v' ∧ Cn N w' v' (pls p x) (ck (pls p x)) ∧ Below w.heap.size w w' := by
  obtain ⟨κ, A, n, c, A2, n2, c2, A3, n3, c3, rfl⟩ := h.form
  have H := Lib.hid (h.mono (N' := fun b => N b ∧ b < w.heap.size) fun b hb hn => ⟨hn, hb⟩)
  have TT := Lib.hid hT
  have NN := Lib.hid hN
  have X := three_blocks w #[.int .u8 κ, .slice A n c, .slice A2 n2 c2, .slice A3 n3 c3] #[.int .u8 0, .slice none 0 0, .slice none 0 0, .slice none 0 0] #[.nilFunc, .func (.func 69) #[] #[], .func (.func 70) #[] #[], .func (.func 70) #[] #[]] 55 55 106
  clear hT hN
  go_enter Tryz.func38, Tryz.ntmps38
  go_wp2_with fail
  generalize ((w.alloc (.cells #[.int .u8 κ, .slice A n c, .slice A2 n2 c2, .slice A3 n3 c3] 55)).alloc (.cells #[.int .u8 0, .slice none 0 0, .slice none 0 0, .slice none 0 0] 55)).alloc (.cells #[.nilFunc, .func (.func 69) #[] #[], .func (.func 70) #[] #[], .func (.func 70) #[] #[]] 106) = W0 at *
  obtain ⟨x1, x2, x3⟩ := X
  have hSc : Bx w w.heap.size 55 #[.int .u8 κ, .slice A n c, .slice A2 n2 c2, .slice A3 n3 c3] (w.heap.size + 2) 106 #[.nilFunc, .func (.func 69) #[] #[], .func (.func 70) #[] #[], .func (.func 70) #[] #[]] W0.drew := ⟨x1.bel.drew, x1.r1, x1.r2⟩
  have H2 := Lib.hid (Cn.mono (N' := fun b => N b ∧ b ≠ w.heap.size + 1) (H.out.step x1.bel.drew) fun b _ hn => ⟨hn.1, by have := hn.2; omega⟩)
  have T2 := Lib.hid (TT.out.step x1.bel.drew)
  have RR := Lib.hid (show Row W0.drew (w.heap.size + 1) _ _ from x2)
  have N2 : Hid (∀ b, W0.drew.heap.size ≤ b → N b ∧ b ≠ w.heap.size + 1) := Lib.hid fun b hb => by
    have hb' : W0.heap.size ≤ b := hb
    exact ⟨NN.out b (by omega), by omega⟩
  have SZ : w.heap.size + 3 ≤ W0.drew.heap.size := Nat.le_of_eq x3.symm
  clear x1 x2 x3 H TT
  refine wp_region_held_drew (S := fun W => Bx w w.heap.size 55 #[.int .u8 κ, .slice A n c, .slice A2 n2 c2, .slice A3 n3 c3] (w.heap.size + 2) 106 #[.nilFunc, .func (.func 69) #[] #[], .func (.func 70) #[] #[], .func (.func 70) #[] #[]] W) (by kernel_rfl) hSc (fun _ => ?_)
  refine held_take 0 ?_ rfl (by kernel_rfl) (by kernel_rfl) (by kernel_rfl) (fun _ _ _ h => h) (by rfl) ?_ hSc ?_
  rotate_left
  · (intro W hSW; have k0 : W.cell? ⟨w.heap.size, 0, none⟩ = some (.int .u8 κ) := hSW.r1.cell 0; have k1 : W.cell? ⟨w.heap.size, 1, none⟩ = some (.slice A n c) := hSW.r1.cell 1; have k2 : W.cell? ⟨w.heap.size, 2, none⟩ = some (.slice A2 n2 c2) := hSW.r1.cell 2; have k3 : W.cell? ⟨w.heap.size, 3, none⟩ = some (.slice A3 n3 c3) := hSW.r1.cell 3; go_simp; try rfl)
  try simp only [Act.put, List.setIfInBounds_toArray, List.set_cons_zero, List.set_cons_succ]
  refine held_take 4 ?_ rfl (by kernel_rfl) (by kernel_rfl) (by kernel_rfl) (fun _ _ _ h => h) (by rfl) ?_ hSc ?_
  rotate_left
  · (intro W hSW; have k0 : W.cell? ⟨w.heap.size, 0, none⟩ = some (.int .u8 κ) := hSW.r1.cell 0; have k1 : W.cell? ⟨w.heap.size, 1, none⟩ = some (.slice A n c) := hSW.r1.cell 1; have k2 : W.cell? ⟨w.heap.size, 2, none⟩ = some (.slice A2 n2 c2) := hSW.r1.cell 2; have k3 : W.cell? ⟨w.heap.size, 3, none⟩ = some (.slice A3 n3 c3) := hSW.r1.cell 3; go_simp; try rfl)
  try simp only [Act.put, List.setIfInBounds_toArray, List.set_cons_zero, List.set_cons_succ]
  refine held_take 5 ?_ rfl (by kernel_rfl) (by kernel_rfl) (by kernel_rfl) (fun _ _ _ h => h) (by rfl) ?_ hSc ?_
  rotate_left
  · (intro W hSW; go_simp; try rfl)
  try simp only [Act.put, List.setIfInBounds_toArray, List.set_cons_zero, List.set_cons_succ]
  refine held_next 1 rfl (by kernel_rfl) (by rfl) ?_
  go_simp
  refine (kind_c _ p 2 _ H2.out).mono ?_
  rintro e u1 ⟨rfl, bq⟩
  have hS2 := hSc.step bq
  have RR := Lib.hid (RR.out.below bq RR.out.lt)
  have T2 := Lib.hid (T2.out.step bq)
  have N2 : Hid (∀ b, u1.heap.size ≤ b → N b ∧ b ≠ w.heap.size + 1) := Lib.hid fun b hb => N2.out b (Nat.le_trans bq.size hb)
  have H2 := Lib.hid (H2.out.step bq)
  clear hSc bq
  have hSc := hS2
  clear hS2
  refine ⟨fun W => Bx w w.heap.size 55 #[.int .u8 κ, .slice A n c, .slice A2 n2 c2, .slice A3 n3 c3] (w.heap.size + 2) 106 #[.nilFunc, .func (.func 69) #[] #[], .func (.func 70) #[] #[], .func (.func 70) #[] #[]] W, fun W hW => hW, hSc, ?_⟩
  try simp only [Act.put, List.setIfInBounds_toArray, List.set_cons_zero, List.set_cons_succ]
  refine held_take 2 ?_ rfl (by kernel_rfl) (by kernel_rfl) (by kernel_rfl) (fun _ _ _ h => h) (by rfl) ?_ hSc ?_
  rotate_left
  · (intro W hSW; go_simp; try rfl)
  try simp only [Act.put, List.setIfInBounds_toArray, List.set_cons_zero, List.set_cons_succ]
  refine held_take 3 ?_ rfl (by kernel_rfl) (by kernel_rfl) (by kernel_rfl) (fun _ _ _ h => h) (by rfl) ?_ hSc ?_
  rotate_left
  · (intro W hSW; have k0 : W.cell? ⟨w.heap.size + 2, 2, none⟩ = some (.func (.func 70) #[] #[]) := hSW.r2.cell 2; go_simp; try rfl)
  try simp only [Act.put, List.setIfInBounds_toArray, List.set_cons_zero, List.set_cons_succ]
  refine held_next 6 rfl (by kernel_rfl) (by rfl) ?_
  go_simp
  refine (flippedWith_c _ p 2 x _ T2.out N2.out hx H2.out).mono ?_
  rintro e u2 ⟨v2, kk, rfl, gq, bq⟩
  have hS2 := hSc.step bq
  have RR := Lib.hid (RR.out.below bq RR.out.lt)
  have T2 := Lib.hid (T2.out.step bq)
  have N2 : Hid (∀ b, u2.heap.size ≤ b → N b ∧ b ≠ w.heap.size + 1) := Lib.hid fun b hb => N2.out b (Nat.le_trans bq.size hb)
  have H2 := Lib.hid gq
  clear hSc bq gq
  have hSc := hS2
  clear hS2
  refine ⟨fun W => Bx w w.heap.size 55 #[.int .u8 κ, .slice A n c, .slice A2 n2 c2, .slice A3 n3 c3] (w.heap.size + 2) 106 #[.nilFunc, .func (.func 69) #[] #[], .func (.func 70) #[] #[], .func (.func 70) #[] #[]] W, fun W hW => hW, hSc, ?_⟩
  try simp only [Act.put, List.setIfInBounds_toArray, List.set_cons_zero, List.set_cons_succ]
  refine held_next 7 rfl (by kernel_rfl) (by rfl) ?_
  go_simp
  refine (canonical_c v2 _ _ _ T2.out N2.out H2.out).mono ?_
  rintro e u3 ⟨v', rfl, gq, bq⟩
  obtain ⟨κ5, A5, n5, c5, A6, n6, c6, A7, n7, c7, rfl⟩ := gq.form
  have hS2 := hSc.step bq
  have RR := Lib.hid (RR.out.below bq RR.out.lt)
  have T2 := Lib.hid (T2.out.step bq)
  have N2 : Hid (∀ b, u3.heap.size ≤ b → N b ∧ b ≠ w.heap.size + 1) := Lib.hid fun b hb => N2.out b (Nat.le_trans bq.size hb)
  have G := Lib.hid gq
  clear hSc bq gq
  have hSc := hS2
  clear hS2
  refine ⟨fun W => Bx w w.heap.size 55 #[.int .u8 κ, .slice A n c, .slice A2 n2 c2, .slice A3 n3 c3] (w.heap.size + 2) 106 #[.nilFunc, .func (.func 69) #[] #[], .func (.func 70) #[] #[], .func (.func 70) #[] #[]] W, fun W hW => hW, hSc, ?_⟩
  try simp only [Act.put, List.setIfInBounds_toArray, List.set_cons_zero, List.set_cons_succ]
  have d0 : u3.cell? ⟨w.heap.size + 1, 0, none⟩ = some (.int .u8 0) := RR.out.cell 0
  have d1 : u3.cell? ⟨w.heap.size + 1, 1, none⟩ = some (.slice none 0 0) := RR.out.cell 1
  have d2 : u3.cell? ⟨w.heap.size + 1, 2, none⟩ = some (.slice none 0 0) := RR.out.cell 2
  have d3 : u3.cell? ⟨w.heap.size + 1, 3, none⟩ = some (.slice none 0 0) := RR.out.cell 3
  have e0 := RR.out.frozen 0
  have e1 := RR.out.frozen 1
  have e2 := RR.out.frozen 2
  have e3 := RR.out.frozen 3
  refine held_next 8 rfl (by kernel_rfl) (by rfl) ?_
  go_simp
  have S4 := set4 (a' := .int .u8 κ5) (b' := .slice A5 n5 c5) (c' := .slice A6 n6 c6) (d' := .slice A7 n7 c7) RR.out
  have hSd := hSc.stored S4.2 (by omega) (by omega) (by omega)
  have H5 := Lib.hid ((G.out.grown S4.2 (fun hh => hh.2 rfl)).mono fun b _ hn => hn.1)
  refine ⟨fun W => Bx w w.heap.size 55 #[.int .u8 κ, .slice A n c, .slice A2 n2 c2, .slice A3 n3 c3] (w.heap.size + 2) 106 #[.nilFunc, .func (.func 69) #[] #[], .func (.func 70) #[] #[], .func (.func 70) #[] #[]] W, fun W hW => hW, hSd, ?_⟩
  refine wpAnyH_done (by kernel_rfl) ?_ _
  go_wp2
  exact bodyPost_ret (ret_row rfl rfl S4.1) rfl ⟨_, rfl, H5.out, hSd.bel⟩

set_option maxHeartbeats 2000000 in
theorem with_3 {N : Nat → Prop} (v : Value) (p : Nat → Bool) (x : Nat) (w : World) (hT : Tb w) (hN : ∀ b, w.heap.size ≤ b → N b) (hx : x < 65536) (h : Cn N w v p 3) :
    Calls Tryz.prog 38 #[v, .int .u16 x] w fun e w' => ∃ v', e = .returned v' ∧ Cn N w' v' (pls p x) (ck (pls p x)) ∧ Below w.heap.size w w' := by
  obtain ⟨κ, A, n, c, A2, n2, c2, A3, n3, c3, rfl⟩ := h.form
  have H := Lib.hid (h.mono (N' := fun b => N b ∧ b < w.heap.size) fun b hb hn => ⟨hn, hb⟩)
  have TT := Lib.hid hT
  have NN := Lib.hid hN
  have X := three_blocks w #[.int .u8 κ, .slice A n c, .slice A2 n2 c2, .slice A3 n3 c3] #[.int .u8 0, .slice none 0 0, .slice none 0 0, .slice none 0 0] #[.nilFunc, .func (.func 69) #[] #[], .func (.func 70) #[] #[], .func (.func 70) #[] #[]] 55 55 106
  clear hT hN
  go_enter Tryz.func38, Tryz.ntmps38
  go_wp2_with fail
  generalize ((w.alloc (.cells #[.int .u8 κ, .slice A n c, .slice A2 n2 c2, .slice A3 n3 c3] 55)).alloc (.cells #[.int .u8 0, .slice none 0 0, .slice none 0 0, .slice none 0 0] 55)).alloc (.cells #[.nilFunc, .func (.func 69) #[] #[], .func (.func 70) #[] #[], .func (.func 70) #[] #[]] 106) = W0 at *
  obtain ⟨x1, x2, x3⟩ := X
  have hSc : Bx w w.heap.size 55 #[.int .u8 κ, .slice A n c, .slice A2 n2 c2, .slice A3 n3 c3] (w.heap.size + 2) 106 #[.nilFunc, .func (.func 69) #[] #[], .func (.func 70) #[] #[], .func (.func 70) #[] #[]] W0.drew := ⟨x1.bel.drew, x1.r1, x1.r2⟩
  have H2 := Lib.hid (Cn.mono (N' := fun b => N b ∧ b ≠ w.heap.size + 1) (H.out.step x1.bel.drew) fun b _ hn => ⟨hn.1, by have := hn.2; omega⟩)
  have T2 := Lib.hid (TT.out.step x1.bel.drew)
  have RR := Lib.hid (show Row W0.drew (w.heap.size + 1) _ _ from x2)
  have N2 : Hid (∀ b, W0.drew.heap.size ≤ b → N b ∧ b ≠ w.heap.size + 1) := Lib.hid fun b hb => by
    have hb' : W0.heap.size ≤ b := hb
    exact ⟨NN.out b (by omega), by omega⟩
  have SZ : w.heap.size + 3 ≤ W0.drew.heap.size := Nat.le_of_eq x3.symm
  clear x1 x2 x3 H TT
  refine wp_region_held_drew (S := fun W => Bx w w.heap.size 55 #[.int .u8 κ, .slice A n c, .slice A2 n2 c2, .slice A3 n3 c3] (w.heap.size + 2) 106 #[.nilFunc, .func (.func 69) #[] #[], .func (.func 70) #[] #[], .func (.func 70) #[] #[]] W) (by kernel_rfl) hSc (fun _ => ?_)
  refine held_take 0 ?_ rfl (by kernel_rfl) (by kernel_rfl) (by kernel_rfl) (fun _ _ _ h => h) (by rfl) ?_ hSc ?_
  rotate_left
  · (intro W hSW; have k0 : W.cell? ⟨w.heap.size, 0, none⟩ = some (.int .u8 κ) := hSW.r1.cell 0; have k1 : W.cell? ⟨w.heap.size, 1, none⟩ = some (.slice A n c) := hSW.r1.cell 1; have k2 : W.cell? ⟨w.heap.size, 2, none⟩ = some (.slice A2 n2 c2) := hSW.r1.cell 2; have k3 : W.cell? ⟨w.heap.size, 3, none⟩ = some (.slice A3 n3 c3) := hSW.r1.cell 3; go_simp; try rfl)
  try simp only [Act.put, List.setIfInBounds_toArray, List.set_cons_zero, List.set_cons_succ]
  refine held_take 4 ?_ rfl (by kernel_rfl) (by kernel_rfl) (by kernel_rfl) (fun _ _ _ h => h) (by rfl) ?_ hSc ?_
  rotate_left
  · (intro W hSW; have k0 : W.cell? ⟨w.heap.size, 0, none⟩ = some (.int .u8 κ) := hSW.r1.cell 0; have k1 : W.cell? ⟨w.heap.size, 1, none⟩ = some (.slice A n c) := hSW.r1.cell 1; have k2 : W.cell? ⟨w.heap.size, 2, none⟩ = some (.slice A2 n2 c2) := hSW.r1.cell 2; have k3 : W.cell? ⟨w.heap.size, 3, none⟩ = some (.slice A3 n3 c3) := hSW.r1.cell 3; go_simp; try rfl)
  try simp only [Act.put, List.setIfInBounds_toArray, List.set_cons_zero, List.set_cons_succ]
  refine held_take 5 ?_ rfl (by kernel_rfl) (by kernel_rfl) (by kernel_rfl) (fun _ _ _ h => h) (by rfl) ?_ hSc ?_
  rotate_left
  · (intro W hSW; go_simp; try rfl)
  try simp only [Act.put, List.setIfInBounds_toArray, List.set_cons_zero, List.set_cons_succ]
  refine held_next 1 rfl (by kernel_rfl) (by rfl) ?_
  go_simp
  refine (kind_c _ p 3 _ H2.out).mono ?_
  rintro e u1 ⟨rfl, bq⟩
  have hS2 := hSc.step bq
  have RR := Lib.hid (RR.out.below bq RR.out.lt)
  have T2 := Lib.hid (T2.out.step bq)
  have N2 : Hid (∀ b, u1.heap.size ≤ b → N b ∧ b ≠ w.heap.size + 1) := Lib.hid fun b hb => N2.out b (Nat.le_trans bq.size hb)
  have H2 := Lib.hid (H2.out.step bq)
  clear hSc bq
  have hSc := hS2
  clear hS2
  refine ⟨fun W => Bx w w.heap.size 55 #[.int .u8 κ, .slice A n c, .slice A2 n2 c2, .slice A3 n3 c3] (w.heap.size + 2) 106 #[.nilFunc, .func (.func 69) #[] #[], .func (.func 70) #[] #[], .func (.func 70) #[] #[]] W, fun W hW => hW, hSc, ?_⟩
  try simp only [Act.put, List.setIfInBounds_toArray, List.set_cons_zero, List.set_cons_succ]
  refine held_take 2 ?_ rfl (by kernel_rfl) (by kernel_rfl) (by kernel_rfl) (fun _ _ _ h => h) (by rfl) ?_ hSc ?_
  rotate_left
  · (intro W hSW; go_simp; try rfl)
  try simp only [Act.put, List.setIfInBounds_toArray, List.set_cons_zero, List.set_cons_succ]
  refine held_take 3 ?_ rfl (by kernel_rfl) (by kernel_rfl) (by kernel_rfl) (fun _ _ _ h => h) (by rfl) ?_ hSc ?_
  rotate_left
  · (intro W hSW; have k0 : W.cell? ⟨w.heap.size + 2, 3, none⟩ = some (.func (.func 70) #[] #[]) := hSW.r2.cell 3; go_simp; try rfl)
  try simp only [Act.put, List.setIfInBounds_toArray, List.set_cons_zero, List.set_cons_succ]
  refine held_next 6 rfl (by kernel_rfl) (by rfl) ?_
  go_simp
  refine (flippedWith_c _ p 3 x _ T2.out N2.out hx H2.out).mono ?_
  rintro e u2 ⟨v2, kk, rfl, gq, bq⟩
  have hS2 := hSc.step bq
  have RR := Lib.hid (RR.out.below bq RR.out.lt)
  have T2 := Lib.hid (T2.out.step bq)
  have N2 : Hid (∀ b, u2.heap.size ≤ b → N b ∧ b ≠ w.heap.size + 1) := Lib.hid fun b hb => N2.out b (Nat.le_trans bq.size hb)
  have H2 := Lib.hid gq
  clear hSc bq gq
  have hSc := hS2
  clear hS2
  refine ⟨fun W => Bx w w.heap.size 55 #[.int .u8 κ, .slice A n c, .slice A2 n2 c2, .slice A3 n3 c3] (w.heap.size + 2) 106 #[.nilFunc, .func (.func 69) #[] #[], .func (.func 70) #[] #[], .func (.func 70) #[] #[]] W, fun W hW => hW, hSc, ?_⟩
  try simp only [Act.put, List.setIfInBounds_toArray, List.set_cons_zero, List.set_cons_succ]
  refine held_next 7 rfl (by kernel_rfl) (by rfl) ?_
  go_simp
  refine (canonical_c v2 _ _ _ T2.out N2.out H2.out).mono ?_
  rintro e u3 ⟨v', rfl, gq, bq⟩
  obtain ⟨κ5, A5, n5, c5, A6, n6, c6, A7, n7, c7, rfl⟩ := gq.form
  have hS2 := hSc.step bq
  have RR := Lib.hid (RR.out.below bq RR.out.lt)
  have T2 := Lib.hid (T2.out.step bq)
  have N2 : Hid (∀ b, u3.heap.size ≤ b → N b ∧ b ≠ w.heap.size + 1) := Lib.hid fun b hb => N2.out b (Nat.le_trans bq.size hb)
  have G := Lib.hid gq
  clear hSc bq gq
  have hSc := hS2
  clear hS2
  refine ⟨fun W => Bx w w.heap.size 55 #[.int .u8 κ, .slice A n c, .slice A2 n2 c2, .slice A3 n3 c3] (w.heap.size + 2) 106 #[.nilFunc, .func (.func 69) #[] #[], .func (.func 70) #[] #[], .func (.func 70) #[] #[]] W, fun W hW => hW, hSc, ?_⟩
  try simp only [Act.put, List.setIfInBounds_toArray, List.set_cons_zero, List.set_cons_succ]
  have d0 : u3.cell? ⟨w.heap.size + 1, 0, none⟩ = some (.int .u8 0) := RR.out.cell 0
  have d1 : u3.cell? ⟨w.heap.size + 1, 1, none⟩ = some (.slice none 0 0) := RR.out.cell 1
  have d2 : u3.cell? ⟨w.heap.size + 1, 2, none⟩ = some (.slice none 0 0) := RR.out.cell 2
  have d3 : u3.cell? ⟨w.heap.size + 1, 3, none⟩ = some (.slice none 0 0) := RR.out.cell 3
  have e0 := RR.out.frozen 0
  have e1 := RR.out.frozen 1
  have e2 := RR.out.frozen 2
  have e3 := RR.out.frozen 3
  refine held_next 8 rfl (by kernel_rfl) (by rfl) ?_
  go_simp
  have S4 := set4 (a' := .int .u8 κ5) (b' := .slice A5 n5 c5) (c' := .slice A6 n6 c6) (d' := .slice A7 n7 c7) RR.out
  have hSd := hSc.stored S4.2 (by omega) (by omega) (by omega)
  have H5 := Lib.hid ((G.out.grown S4.2 (fun hh => hh.2 rfl)).mono fun b _ hn => hn.1)
  refine ⟨fun W => Bx w w.heap.size 55 #[.int .u8 κ, .slice A n c, .slice A2 n2 c2, .slice A3 n3 c3] (w.heap.size + 2) 106 #[.nilFunc, .func (.func 69) #[] #[], .func (.func 70) #[] #[], .func (.func 70) #[] #[]] W, fun W hW => hW, hSd, ?_⟩
  refine wpAnyH_done (by kernel_rfl) ?_ _
  go_wp2
  exact bodyPost_ret (ret_row rfl rfl S4.1) rfl ⟨_, rfl, H5.out, hSd.bel⟩

theorem with_c {N : Nat → Prop} (v : Value) (p : Nat → Bool) (k x : Nat) (w : World) (hT : Tb w) (hN : ∀ b, w.heap.size ≤ b → N b) (hx : x < 65536) (h : Cn N w v p k) :
    Calls Tryz.prog 38 #[v, .int .u16 x] w fun e w' => ∃ v', e = .returned v' ∧ Cn N w' v' (pls p x) (ck (pls p x)) ∧ Below w.heap.size w w' := by
  cases h with
  | arr κ A n c hκ hn h => exact with_1 κ A n c p x w hT hN hx hκ hn h
  | wrd A c h => exact with_2 _ p x w hT hN hx (.wrd A c h)
  | run A n c hn h => exact with_3 _ p x w hT hN hx (.run A n c hn h)
end Go.Proofs.YtcmifbjeabkihabGreatDoor
