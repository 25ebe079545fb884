/- The table of lowest bits, as the program's text lays it: what a row's condition gives. -/
import Derived.Test.YtfefmlnlicilbaaGreatDoorMe
import Derived.Test.YtfefmlnlicilbaaGreatDoorM2
import Derived.Test.YtfefmlnlicilbaaGreatDoorM9
import Derived.Test.YtfefmlnlicilbaaGreatDoorM4
import Derived.Test.YtfefmlnlicilbaaGreatDoorTie
import Derived.Test.YtfefmlnlicilbaaGreatDoorCards
import Derived.Lib.LaidTab
import Derived.LaidMore
import Derived.ProofKit
import Derived.SevenTiedAt
/- Walks: Flip, With, OfArray. -/
namespace Go.Proofs.YtfefmlnlicilbaaGreatDoor
open Go.RowKit
set_option linter.unusedVariables false

theorem three_blocks (w : World) (o1 o2 o3 : Array Value) (t1 t2 t3 : TypeId) :
    Bx w w.heap.size t1 o1 (w.heap.size + 2) t3 o3 (((w.alloc (.cells o1 t1)).alloc (.cells o2 t2)).alloc (.cells o3 t3)) ∧ Row (((w.alloc (.cells o1 t1)).alloc (.cells o2 t2)).alloc (.cells o3 t3)) (w.heap.size + 1) t2 o2 ∧ (((w.alloc (.cells o1 t1)).alloc (.cells o2 t2)).alloc (.cells o3 t3)).heap.size = w.heap.size + 3 := by
  obtain ⟨b, r1, r2⟩ := two_blocks w o1 o2 t1 t2
  have h := Row.new ((w.alloc (.cells o1 t1)).alloc (.cells o2 t2)) t3 o3
  refine ⟨⟨b.trans ((bx _ _).mono (by simp; omega)), r1.alloc _, by simpa using h⟩, r2.alloc _, by simp⟩
theorem ret_row2 {fn : Func} {p u : Tmp} (hf : fn.results = #[.cell p 28, .tmp u]) {tmps : Array Value} {w : World} {g : Nat} {a b c d : Value} {y : Value} (hp : tmps.getD p undef = .pointer (some ⟨g, 0, none⟩)) (hu : tmps.getD u undef = y) (R : Row w g 28 #[a, b, c, d]) :
    (results fn tmps).run Tryz.prog w = .ok (.tuple #[.agg #[a, b, c, d], y]) w := by
  rw [results_cell_tmp hf, hp, hu]
  simp [asAddr, run_loadVar_row w g 28 28 _ (0, 0) _ R Tryz.underlying28 rfl szC, Result.andThen]

set_option maxHeartbeats 2000000 in
theorem flip_1 {N : Nat → Prop} (v : Value) (p : Nat → Bool) (x y : Int) (w : World) (hT : Tb w) (hN : ∀ b, w.heap.size ≤ b → N b) (h : Cn N w v p 1) :
    Calls Tryz.prog 18 #[v, .int .i64 x, .int .i64 y] w fun e w' => ∃ v', e = .returned v' ∧ Cn N w' v' (flp p x y) (ck (flp p x y)) ∧ Below w.heap.size w w' := by
  obtain ⟨κ, A, n, c, A2, n2, c2, A3, n3, c3, rfl⟩ := h.form
  have H := Lib.hid (h.mono (N' := fun b => N b ∧ b < w.heap.size) fun b hb hn => ⟨hn, hb⟩)
  have TT := Lib.hid hT
  have NN := Lib.hid hN
  have X := three_blocks w #[.int .u8 κ, .slice A n c, .slice A2 n2 c2, .slice A3 n3 c3] #[.int .u8 0, .slice none 0 0, .slice none 0 0, .slice none 0 0] #[.nilFunc, .func (.func 52) #[] #[], .func (.func 53) #[] #[], .func (.func 52) #[] #[]] 28 28 69
  clear hT hN
  go_enter Tryz.func18, Tryz.ntmps18
  go_wp2_with fail
  generalize ((w.alloc (.cells #[.int .u8 κ, .slice A n c, .slice A2 n2 c2, .slice A3 n3 c3] 28)).alloc (.cells #[.int .u8 0, .slice none 0 0, .slice none 0 0, .slice none 0 0] 28)).alloc (.cells #[.nilFunc, .func (.func 52) #[] #[], .func (.func 53) #[] #[], .func (.func 52) #[] #[]] 69) = W0 at *
  obtain ⟨x1, x2, x3⟩ := X
  have hSc : Bx w w.heap.size 28 #[.int .u8 κ, .slice A n c, .slice A2 n2 c2, .slice A3 n3 c3] (w.heap.size + 2) 69 #[.nilFunc, .func (.func 52) #[] #[], .func (.func 53) #[] #[], .func (.func 52) #[] #[]] W0.drew := ⟨x1.bel.drew, x1.r1, x1.r2⟩
  have H2 := Lib.hid (Cn.mono (N' := fun b => N b ∧ b ≠ w.heap.size + 1) (H.out.step x1.bel.drew) fun b _ hn => ⟨hn.1, by have := hn.2; omega⟩)
  have T2 := Lib.hid (TT.out.step x1.bel.drew)
  have RR := Lib.hid (show Row W0.drew (w.heap.size + 1) _ _ from x2)
  have N2 : Hid (∀ b, W0.drew.heap.size ≤ b → N b ∧ b ≠ w.heap.size + 1) := Lib.hid fun b hb => by
    have hb' : W0.heap.size ≤ b := hb
    exact ⟨NN.out b (by omega), by omega⟩
  have SZ : w.heap.size + 3 ≤ W0.drew.heap.size := Nat.le_of_eq x3.symm
  clear x1 x2 x3 H TT
  refine wp_region_held_drew (S := fun W => Bx w w.heap.size 28 #[.int .u8 κ, .slice A n c, .slice A2 n2 c2, .slice A3 n3 c3] (w.heap.size + 2) 69 #[.nilFunc, .func (.func 52) #[] #[], .func (.func 53) #[] #[], .func (.func 52) #[] #[]] W) (by kernel_rfl) hSc (fun _ => ?_)
  refine held_take 0 ?_ rfl (by kernel_rfl) (by kernel_rfl) (by kernel_rfl) (fun _ _ _ h => h) (by rfl) ?_ hSc ?_
  rotate_left
  · (intro W hSW; have k0 : W.cell? ⟨w.heap.size, 0, none⟩ = some (.int .u8 κ) := hSW.r1.cell 0; have k1 : W.cell? ⟨w.heap.size, 1, none⟩ = some (.slice A n c) := hSW.r1.cell 1; have k2 : W.cell? ⟨w.heap.size, 2, none⟩ = some (.slice A2 n2 c2) := hSW.r1.cell 2; have k3 : W.cell? ⟨w.heap.size, 3, none⟩ = some (.slice A3 n3 c3) := hSW.r1.cell 3; go_simp; try rfl)
  try simp only [Act.put, List.setIfInBounds_toArray, List.set_cons_zero, List.set_cons_succ]
  refine held_take 4 ?_ rfl (by kernel_rfl) (by kernel_rfl) (by kernel_rfl) (fun _ _ _ h => h) (by rfl) ?_ hSc ?_
  rotate_left
  · (intro W hSW; have k0 : W.cell? ⟨w.heap.size, 0, none⟩ = some (.int .u8 κ) := hSW.r1.cell 0; have k1 : W.cell? ⟨w.heap.size, 1, none⟩ = some (.slice A n c) := hSW.r1.cell 1; have k2 : W.cell? ⟨w.heap.size, 2, none⟩ = some (.slice A2 n2 c2) := hSW.r1.cell 2; have k3 : W.cell? ⟨w.heap.size, 3, none⟩ = some (.slice A3 n3 c3) := hSW.r1.cell 3; go_simp; try rfl)
  try simp only [Act.put, List.setIfInBounds_toArray, List.set_cons_zero, List.set_cons_succ]
  refine held_take 5 ?_ rfl (by kernel_rfl) (by kernel_rfl) (by kernel_rfl) (fun _ _ _ h => h) (by rfl) ?_ hSc ?_
  rotate_left
  · (intro W hSW; go_simp; try rfl)
  try simp only [Act.put, List.setIfInBounds_toArray, List.set_cons_zero, List.set_cons_succ]
  refine held_take 6 ?_ rfl (by kernel_rfl) (by kernel_rfl) (by kernel_rfl) (fun _ _ _ h => h) (by rfl) ?_ hSc ?_
  rotate_left
  · (intro W hSW; go_simp; try rfl)
  try simp only [Act.put, List.setIfInBounds_toArray, List.set_cons_zero, List.set_cons_succ]
  refine held_next 1 rfl (by kernel_rfl) (by rfl) ?_
  go_simp
  refine (kind_c _ p 1 _ H2.out).mono ?_
  rintro e u1 ⟨rfl, bq⟩
  have hS2 := hSc.step bq
  have RR := Lib.hid (RR.out.below bq RR.out.lt)
  have T2 := Lib.hid (T2.out.step bq)
  have N2 : Hid (∀ b, u1.heap.size ≤ b → N b ∧ b ≠ w.heap.size + 1) := Lib.hid fun b hb => N2.out b (Nat.le_trans bq.size hb)
  have H2 := Lib.hid (H2.out.step bq)
  clear hSc bq
  have hSc := hS2
  clear hS2
  refine ⟨fun W => Bx w w.heap.size 28 #[.int .u8 κ, .slice A n c, .slice A2 n2 c2, .slice A3 n3 c3] (w.heap.size + 2) 69 #[.nilFunc, .func (.func 52) #[] #[], .func (.func 53) #[] #[], .func (.func 52) #[] #[]] W, fun W hW => hW, hSc, ?_⟩
  try simp only [Act.put, List.setIfInBounds_toArray, List.set_cons_zero, List.set_cons_succ]
  refine held_take 2 ?_ rfl (by kernel_rfl) (by kernel_rfl) (by kernel_rfl) (fun _ _ _ h => h) (by rfl) ?_ hSc ?_
  rotate_left
  · (intro W hSW; go_simp; try rfl)
  try simp only [Act.put, List.setIfInBounds_toArray, List.set_cons_zero, List.set_cons_succ]
  refine held_take 3 ?_ rfl (by kernel_rfl) (by kernel_rfl) (by kernel_rfl) (fun _ _ _ h => h) (by rfl) ?_ hSc ?_
  rotate_left
  · (intro W hSW; have k0 : W.cell? ⟨w.heap.size + 2, 1, none⟩ = some (.func (.func 52) #[] #[]) := hSW.r2.cell 1; go_simp; try rfl)
  try simp only [Act.put, List.setIfInBounds_toArray, List.set_cons_zero, List.set_cons_succ]
  refine held_next 7 rfl (by kernel_rfl) (by rfl) ?_
  go_simp
  refine (flippedByRuns_c _ p 1 x y _ T2.out N2.out H2.out).mono ?_
  rintro e u2 ⟨v2, rfl, gq, bq⟩
  have hS2 := hSc.step bq
  have RR := Lib.hid (RR.out.below bq RR.out.lt)
  have T2 := Lib.hid (T2.out.step bq)
  have N2 : Hid (∀ b, u2.heap.size ≤ b → N b ∧ b ≠ w.heap.size + 1) := Lib.hid fun b hb => N2.out b (Nat.le_trans bq.size hb)
  have H2 := Lib.hid gq
  clear hSc bq gq
  have hSc := hS2
  clear hS2
  refine ⟨fun W => Bx w w.heap.size 28 #[.int .u8 κ, .slice A n c, .slice A2 n2 c2, .slice A3 n3 c3] (w.heap.size + 2) 69 #[.nilFunc, .func (.func 52) #[] #[], .func (.func 53) #[] #[], .func (.func 52) #[] #[]] W, fun W hW => hW, hSc, ?_⟩
  try simp only [Act.put, List.setIfInBounds_toArray, List.set_cons_zero, List.set_cons_succ]
  refine held_next 8 rfl (by kernel_rfl) (by rfl) ?_
  go_simp
  refine (canonical_c v2 _ _ _ T2.out N2.out H2.out).mono ?_
  rintro e u3 ⟨v', rfl, gq, bq⟩
  obtain ⟨κ5, A5, n5, c5, A6, n6, c6, A7, n7, c7, rfl⟩ := gq.form
  have hS2 := hSc.step bq
  have RR := Lib.hid (RR.out.below bq RR.out.lt)
  have T2 := Lib.hid (T2.out.step bq)
  have N2 : Hid (∀ b, u3.heap.size ≤ b → N b ∧ b ≠ w.heap.size + 1) := Lib.hid fun b hb => N2.out b (Nat.le_trans bq.size hb)
  have G := Lib.hid gq
  clear hSc bq gq
  have hSc := hS2
  clear hS2
  refine ⟨fun W => Bx w w.heap.size 28 #[.int .u8 κ, .slice A n c, .slice A2 n2 c2, .slice A3 n3 c3] (w.heap.size + 2) 69 #[.nilFunc, .func (.func 52) #[] #[], .func (.func 53) #[] #[], .func (.func 52) #[] #[]] W, fun W hW => hW, hSc, ?_⟩
  try simp only [Act.put, List.setIfInBounds_toArray, List.set_cons_zero, List.set_cons_succ]
  have d0 : u3.cell? ⟨w.heap.size + 1, 0, none⟩ = some (.int .u8 0) := RR.out.cell 0
  have d1 : u3.cell? ⟨w.heap.size + 1, 1, none⟩ = some (.slice none 0 0) := RR.out.cell 1
  have d2 : u3.cell? ⟨w.heap.size + 1, 2, none⟩ = some (.slice none 0 0) := RR.out.cell 2
  have d3 : u3.cell? ⟨w.heap.size + 1, 3, none⟩ = some (.slice none 0 0) := RR.out.cell 3
  have e0 := RR.out.frozen 0
  have e1 := RR.out.frozen 1
  have e2 := RR.out.frozen 2
  have e3 := RR.out.frozen 3
  refine held_next 9 rfl (by kernel_rfl) (by rfl) ?_
  go_simp
  have S4 := set4 (a' := .int .u8 κ5) (b' := .slice A5 n5 c5) (c' := .slice A6 n6 c6) (d' := .slice A7 n7 c7) RR.out
  have hSd := hSc.stored S4.2 (by omega) (by omega) (by omega)
  have H5 := Lib.hid ((G.out.grown S4.2 (fun hh => hh.2 rfl)).mono fun b _ hn => hn.1)
  refine ⟨fun W => Bx w w.heap.size 28 #[.int .u8 κ, .slice A n c, .slice A2 n2 c2, .slice A3 n3 c3] (w.heap.size + 2) 69 #[.nilFunc, .func (.func 52) #[] #[], .func (.func 53) #[] #[], .func (.func 52) #[] #[]] W, fun W hW => hW, hSd, ?_⟩
  refine wpAnyH_done (by kernel_rfl) ?_ _
  go_wp2
  exact bodyPost_ret (ret_row rfl rfl S4.1) rfl ⟨_, rfl, H5.out, hSd.bel⟩

set_option maxHeartbeats 2000000 in
theorem flip_2 {N : Nat → Prop} (v : Value) (p : Nat → Bool) (x y : Int) (w : World) (hT : Tb w) (hN : ∀ b, w.heap.size ≤ b → N b) (h : Cn N w v p 2) :
    Calls Tryz.prog 18 #[v, .int .i64 x, .int .i64 y] w fun e w' => ∃ v', e = .returned v' ∧ Cn N w' v' (flp p x y) (ck (flp p x y)) ∧ Below w.heap.size w w' := by
  obtain ⟨κ, A, n, c, A2, n2, c2, A3, n3, c3, rfl⟩ := h.form
  have H := Lib.hid (h.mono (N' := fun b => N b ∧ b < w.heap.size) fun b hb hn => ⟨hn, hb⟩)
  have TT := Lib.hid hT
  have NN := Lib.hid hN
  have X := three_blocks w #[.int .u8 κ, .slice A n c, .slice A2 n2 c2, .slice A3 n3 c3] #[.int .u8 0, .slice none 0 0, .slice none 0 0, .slice none 0 0] #[.nilFunc, .func (.func 52) #[] #[], .func (.func 53) #[] #[], .func (.func 52) #[] #[]] 28 28 69
  clear hT hN
  go_enter Tryz.func18, Tryz.ntmps18
  go_wp2_with fail
  generalize ((w.alloc (.cells #[.int .u8 κ, .slice A n c, .slice A2 n2 c2, .slice A3 n3 c3] 28)).alloc (.cells #[.int .u8 0, .slice none 0 0, .slice none 0 0, .slice none 0 0] 28)).alloc (.cells #[.nilFunc, .func (.func 52) #[] #[], .func (.func 53) #[] #[], .func (.func 52) #[] #[]] 69) = W0 at *
  obtain ⟨x1, x2, x3⟩ := X
  have hSc : Bx w w.heap.size 28 #[.int .u8 κ, .slice A n c, .slice A2 n2 c2, .slice A3 n3 c3] (w.heap.size + 2) 69 #[.nilFunc, .func (.func 52) #[] #[], .func (.func 53) #[] #[], .func (.func 52) #[] #[]] W0.drew := ⟨x1.bel.drew, x1.r1, x1.r2⟩
  have H2 := Lib.hid (Cn.mono (N' := fun b => N b ∧ b ≠ w.heap.size + 1) (H.out.step x1.bel.drew) fun b _ hn => ⟨hn.1, by have := hn.2; omega⟩)
  have T2 := Lib.hid (TT.out.step x1.bel.drew)
  have RR := Lib.hid (show Row W0.drew (w.heap.size + 1) _ _ from x2)
  have N2 : Hid (∀ b, W0.drew.heap.size ≤ b → N b ∧ b ≠ w.heap.size + 1) := Lib.hid fun b hb => by
    have hb' : W0.heap.size ≤ b := hb
    exact ⟨NN.out b (by omega), by omega⟩
  have SZ : w.heap.size + 3 ≤ W0.drew.heap.size := Nat.le_of_eq x3.symm
  clear x1 x2 x3 H TT
  refine wp_region_held_drew (S := fun W => Bx w w.heap.size 28 #[.int .u8 κ, .slice A n c, .slice A2 n2 c2, .slice A3 n3 c3] (w.heap.size + 2) 69 #[.nilFunc, .func (.func 52) #[] #[], .func (.func 53) #[] #[], .func (.func 52) #[] #[]] W) (by kernel_rfl) hSc (fun _ => ?_)
  refine held_take 0 ?_ rfl (by kernel_rfl) (by kernel_rfl) (by kernel_rfl) (fun _ _ _ h => h) (by rfl) ?_ hSc ?_
  rotate_left
  · (intro W hSW; have k0 : W.cell? ⟨w.heap.size, 0, none⟩ = some (.int .u8 κ) := hSW.r1.cell 0; have k1 : W.cell? ⟨w.heap.size, 1, none⟩ = some (.slice A n c) := hSW.r1.cell 1; have k2 : W.cell? ⟨w.heap.size, 2, none⟩ = some (.slice A2 n2 c2) := hSW.r1.cell 2; have k3 : W.cell? ⟨w.heap.size, 3, none⟩ = some (.slice A3 n3 c3) := hSW.r1.cell 3; go_simp; try rfl)
  try simp only [Act.put, List.setIfInBounds_toArray, List.set_cons_zero, List.set_cons_succ]
  refine held_take 4 ?_ rfl (by kernel_rfl) (by kernel_rfl) (by kernel_rfl) (fun _ _ _ h => h) (by rfl) ?_ hSc ?_
  rotate_left
  · (intro W hSW; have k0 : W.cell? ⟨w.heap.size, 0, none⟩ = some (.int .u8 κ) := hSW.r1.cell 0; have k1 : W.cell? ⟨w.heap.size, 1, none⟩ = some (.slice A n c) := hSW.r1.cell 1; have k2 : W.cell? ⟨w.heap.size, 2, none⟩ = some (.slice A2 n2 c2) := hSW.r1.cell 2; have k3 : W.cell? ⟨w.heap.size, 3, none⟩ = some (.slice A3 n3 c3) := hSW.r1.cell 3; go_simp; try rfl)
  try simp only [Act.put, List.setIfInBounds_toArray, List.set_cons_zero, List.set_cons_succ]
  refine held_take 5 ?_ rfl (by kernel_rfl) (by kernel_rfl) (by kernel_rfl) (fun _ _ _ h => h) (by rfl) ?_ hSc ?_
  rotate_left
  · (intro W hSW; go_simp; try rfl)
  try simp only [Act.put, List.setIfInBounds_toArray, List.set_cons_zero, List.set_cons_succ]
  refine held_take 6 ?_ rfl (by kernel_rfl) (by kernel_rfl) (by kernel_rfl) (fun _ _ _ h => h) (by rfl) ?_ hSc ?_
  rotate_left
  · (intro W hSW; go_simp; try rfl)
  try simp only [Act.put, List.setIfInBounds_toArray, List.set_cons_zero, List.set_cons_succ]
  refine held_next 1 rfl (by kernel_rfl) (by rfl) ?_
  go_simp
  refine (kind_c _ p 2 _ H2.out).mono ?_
  rintro e u1 ⟨rfl, bq⟩
  have hS2 := hSc.step bq
  have RR := Lib.hid (RR.out.below bq RR.out.lt)
  have T2 := Lib.hid (T2.out.step bq)
  have N2 : Hid (∀ b, u1.heap.size ≤ b → N b ∧ b ≠ w.heap.size + 1) := Lib.hid fun b hb => N2.out b (Nat.le_trans bq.size hb)
  have H2 := Lib.hid (H2.out.step bq)
  clear hSc bq
  have hSc := hS2
  clear hS2
  refine ⟨fun W => Bx w w.heap.size 28 #[.int .u8 κ, .slice A n c, .slice A2 n2 c2, .slice A3 n3 c3] (w.heap.size + 2) 69 #[.nilFunc, .func (.func 52) #[] #[], .func (.func 53) #[] #[], .func (.func 52) #[] #[]] W, fun W hW => hW, hSc, ?_⟩
  try simp only [Act.put, List.setIfInBounds_toArray, List.set_cons_zero, List.set_cons_succ]
  refine held_take 2 ?_ rfl (by kernel_rfl) (by kernel_rfl) (by kernel_rfl) (fun _ _ _ h => h) (by rfl) ?_ hSc ?_
  rotate_left
  · (intro W hSW; go_simp; try rfl)
  try simp only [Act.put, List.setIfInBounds_toArray, List.set_cons_zero, List.set_cons_succ]
  refine held_take 3 ?_ rfl (by kernel_rfl) (by kernel_rfl) (by kernel_rfl) (fun _ _ _ h => h) (by rfl) ?_ hSc ?_
  rotate_left
  · (intro W hSW; have k0 : W.cell? ⟨w.heap.size + 2, 2, none⟩ = some (.func (.func 53) #[] #[]) := hSW.r2.cell 2; go_simp; try rfl)
  try simp only [Act.put, List.setIfInBounds_toArray, List.set_cons_zero, List.set_cons_succ]
  refine held_next 7 rfl (by kernel_rfl) (by rfl) ?_
  go_simp
  refine (flippedByWords_c _ p 2 x y _ T2.out N2.out H2.out).mono ?_
  rintro e u2 ⟨v2, rfl, gq, bq⟩
  have hS2 := hSc.step bq
  have RR := Lib.hid (RR.out.below bq RR.out.lt)
  have T2 := Lib.hid (T2.out.step bq)
  have N2 : Hid (∀ b, u2.heap.size ≤ b → N b ∧ b ≠ w.heap.size + 1) := Lib.hid fun b hb => N2.out b (Nat.le_trans bq.size hb)
  have H2 := Lib.hid gq
  clear hSc bq gq
  have hSc := hS2
  clear hS2
  refine ⟨fun W => Bx w w.heap.size 28 #[.int .u8 κ, .slice A n c, .slice A2 n2 c2, .slice A3 n3 c3] (w.heap.size + 2) 69 #[.nilFunc, .func (.func 52) #[] #[], .func (.func 53) #[] #[], .func (.func 52) #[] #[]] W, fun W hW => hW, hSc, ?_⟩
  try simp only [Act.put, List.setIfInBounds_toArray, List.set_cons_zero, List.set_cons_succ]
  refine held_next 8 rfl (by kernel_rfl) (by rfl) ?_
  go_simp
  refine (canonical_c v2 _ _ _ T2.out N2.out H2.out).mono ?_
  rintro e u3 ⟨v', rfl, gq, bq⟩
  obtain ⟨κ5, A5, n5, c5, A6, n6, c6, A7, n7, c7, rfl⟩ := gq.form
  have hS2 := hSc.step bq
  have RR := Lib.hid (RR.out.below bq RR.out.lt)
  have T2 := Lib.hid (T2.out.step bq)
  have N2 : Hid (∀ b, u3.heap.size ≤ b → N b ∧ b ≠ w.heap.size + 1) := Lib.hid fun b hb => N2.out b (Nat.le_trans bq.size hb)
  have G := Lib.hid gq
  clear hSc bq gq
  have hSc := hS2
  clear hS2
  refine ⟨fun W => Bx w w.heap.size 28 #[.int .u8 κ, .slice A n c, .slice A2 n2 c2, .slice A3 n3 c3] (w.heap.size + 2) 69 #[.nilFunc, .func (.func 52) #[] #[], .func (.func 53) #[] #[], .func (.func 52) #[] #[]] W, fun W hW => hW, hSc, ?_⟩
  try simp only [Act.put, List.setIfInBounds_toArray, List.set_cons_zero, List.set_cons_succ]
  have d0 : u3.cell? ⟨w.heap.size + 1, 0, none⟩ = some (.int .u8 0) := RR.out.cell 0
  have d1 : u3.cell? ⟨w.heap.size + 1, 1, none⟩ = some (.slice none 0 0) := RR.out.cell 1
  have d2 : u3.cell? ⟨w.heap.size + 1, 2, none⟩ = some (.slice none 0 0) := RR.out.cell 2
  have d3 : u3.cell? ⟨w.heap.size + 1, 3, none⟩ = some (.slice none 0 0) := RR.out.cell 3
  have e0 := RR.out.frozen 0
  have e1 := RR.out.frozen 1
  have e2 := RR.out.frozen 2
  have e3 := RR.out.frozen 3
  refine held_next 9 rfl (by kernel_rfl) (by rfl) ?_
  go_simp
  have S4 := set4 (a' := .int .u8 κ5) (b' := .slice A5 n5 c5) (c' := .slice A6 n6 c6) (d' := .slice A7 n7 c7) RR.out
  have hSd := hSc.stored S4.2 (by omega) (by omega) (by omega)
  have H5 := Lib.hid ((G.out.grown S4.2 (fun hh => hh.2 rfl)).mono fun b _ hn => hn.1)
  refine ⟨fun W => Bx w w.heap.size 28 #[.int .u8 κ, .slice A n c, .slice A2 n2 c2, .slice A3 n3 c3] (w.heap.size + 2) 69 #[.nilFunc, .func (.func 52) #[] #[], .func (.func 53) #[] #[], .func (.func 52) #[] #[]] W, fun W hW => hW, hSd, ?_⟩
  refine wpAnyH_done (by kernel_rfl) ?_ _
  go_wp2
  exact bodyPost_ret (ret_row rfl rfl S4.1) rfl ⟨_, rfl, H5.out, hSd.bel⟩

set_option maxHeartbeats 2000000 in
theorem flip_3 {N : Nat → Prop} (v : Value) (p : Nat → Bool) (x y : Int) (w : World) (hT : Tb w) (hN : ∀ b, w.heap.size ≤ b → N b) (h : Cn N w v p 3) :
    Calls Tryz.prog 18 #[v, .int .i64 x, .int .i64 y] w fun e w' => ∃ v', e = .returned v' ∧ Cn N w' v' (flp p x y) (ck (flp p x y)) ∧ Below w.heap.size w w' := by
  obtain ⟨κ, A, n, c, A2, n2, c2, A3, n3, c3, rfl⟩ := h.form
  have H := Lib.hid (h.mono (N' := fun b => N b ∧ b < w.heap.size) fun b hb hn => ⟨hn, hb⟩)
  have TT := Lib.hid hT
  have NN := Lib.hid hN
  have X := three_blocks w #[.int .u8 κ, .slice A n c, .slice A2 n2 c2, .slice A3 n3 c3] #[.int .u8 0, .slice none 0 0, .slice none 0 0, .slice none 0 0] #[.nilFunc, .func (.func 52) #[] #[], .func (.func 53) #[] #[], .func (.func 52) #[] #[]] 28 28 69
  clear hT hN
  go_enter Tryz.func18, Tryz.ntmps18
  go_wp2_with fail
  generalize ((w.alloc (.cells #[.int .u8 κ, .slice A n c, .slice A2 n2 c2, .slice A3 n3 c3] 28)).alloc (.cells #[.int .u8 0, .slice none 0 0, .slice none 0 0, .slice none 0 0] 28)).alloc (.cells #[.nilFunc, .func (.func 52) #[] #[], .func (.func 53) #[] #[], .func (.func 52) #[] #[]] 69) = W0 at *
  obtain ⟨x1, x2, x3⟩ := X
  have hSc : Bx w w.heap.size 28 #[.int .u8 κ, .slice A n c, .slice A2 n2 c2, .slice A3 n3 c3] (w.heap.size + 2) 69 #[.nilFunc, .func (.func 52) #[] #[], .func (.func 53) #[] #[], .func (.func 52) #[] #[]] W0.drew := ⟨x1.bel.drew, x1.r1, x1.r2⟩
  have H2 := Lib.hid (Cn.mono (N' := fun b => N b ∧ b ≠ w.heap.size + 1) (H.out.step x1.bel.drew) fun b _ hn => ⟨hn.1, by have := hn.2; omega⟩)
  have T2 := Lib.hid (TT.out.step x1.bel.drew)
  have RR := Lib.hid (show Row W0.drew (w.heap.size + 1) _ _ from x2)
  have N2 : Hid (∀ b, W0.drew.heap.size ≤ b → N b ∧ b ≠ w.heap.size + 1) := Lib.hid fun b hb => by
    have hb' : W0.heap.size ≤ b := hb
    exact ⟨NN.out b (by omega), by omega⟩
  have SZ : w.heap.size + 3 ≤ W0.drew.heap.size := Nat.le_of_eq x3.symm
  clear x1 x2 x3 H TT
  refine wp_region_held_drew (S := fun W => Bx w w.heap.size 28 #[.int .u8 κ, .slice A n c, .slice A2 n2 c2, .slice A3 n3 c3] (w.heap.size + 2) 69 #[.nilFunc, .func (.func 52) #[] #[], .func (.func 53) #[] #[], .func (.func 52) #[] #[]] W) (by kernel_rfl) hSc (fun _ => ?_)
  refine held_take 0 ?_ rfl (by kernel_rfl) (by kernel_rfl) (by kernel_rfl) (fun _ _ _ h => h) (by rfl) ?_ hSc ?_
  rotate_left
  · (intro W hSW; have k0 : W.cell? ⟨w.heap.size, 0, none⟩ = some (.int .u8 κ) := hSW.r1.cell 0; have k1 : W.cell? ⟨w.heap.size, 1, none⟩ = some (.slice A n c) := hSW.r1.cell 1; have k2 : W.cell? ⟨w.heap.size, 2, none⟩ = some (.slice A2 n2 c2) := hSW.r1.cell 2; have k3 : W.cell? ⟨w.heap.size, 3, none⟩ = some (.slice A3 n3 c3) := hSW.r1.cell 3; go_simp; try rfl)
  try simp only [Act.put, List.setIfInBounds_toArray, List.set_cons_zero, List.set_cons_succ]
  refine held_take 4 ?_ rfl (by kernel_rfl) (by kernel_rfl) (by kernel_rfl) (fun _ _ _ h => h) (by rfl) ?_ hSc ?_
  rotate_left
  · (intro W hSW; have k0 : W.cell? ⟨w.heap.size, 0, none⟩ = some (.int .u8 κ) := hSW.r1.cell 0; have k1 : W.cell? ⟨w.heap.size, 1, none⟩ = some (.slice A n c) := hSW.r1.cell 1; have k2 : W.cell? ⟨w.heap.size, 2, none⟩ = some (.slice A2 n2 c2) := hSW.r1.cell 2; have k3 : W.cell? ⟨w.heap.size, 3, none⟩ = some (.slice A3 n3 c3) := hSW.r1.cell 3; go_simp; try rfl)
  try simp only [Act.put, List.setIfInBounds_toArray, List.set_cons_zero, List.set_cons_succ]
  refine held_take 5 ?_ rfl (by kernel_rfl) (by kernel_rfl) (by kernel_rfl) (fun _ _ _ h => h) (by rfl) ?_ hSc ?_
  rotate_left
  · (intro W hSW; go_simp; try rfl)
  try simp only [Act.put, List.setIfInBounds_toArray, List.set_cons_zero, List.set_cons_succ]
  refine held_take 6 ?_ rfl (by kernel_rfl) (by kernel_rfl) (by kernel_rfl) (fun _ _ _ h => h) (by rfl) ?_ hSc ?_
  rotate_left
  · (intro W hSW; go_simp; try rfl)
  try simp only [Act.put, List.setIfInBounds_toArray, List.set_cons_zero, List.set_cons_succ]
  refine held_next 1 rfl (by kernel_rfl) (by rfl) ?_
  go_simp
  refine (kind_c _ p 3 _ H2.out).mono ?_
  rintro e u1 ⟨rfl, bq⟩
  have hS2 := hSc.step bq
  have RR := Lib.hid (RR.out.below bq RR.out.lt)
  have T2 := Lib.hid (T2.out.step bq)
  have N2 : Hid (∀ b, u1.heap.size ≤ b → N b ∧ b ≠ w.heap.size + 1) := Lib.hid fun b hb => N2.out b (Nat.le_trans bq.size hb)
  have H2 := Lib.hid (H2.out.step bq)
  clear hSc bq
  have hSc := hS2
  clear hS2
  refine ⟨fun W => Bx w w.heap.size 28 #[.int .u8 κ, .slice A n c, .slice A2 n2 c2, .slice A3 n3 c3] (w.heap.size + 2) 69 #[.nilFunc, .func (.func 52) #[] #[], .func (.func 53) #[] #[], .func (.func 52) #[] #[]] W, fun W hW => hW, hSc, ?_⟩
  try simp only [Act.put, List.setIfInBounds_toArray, List.set_cons_zero, List.set_cons_succ]
  refine held_take 2 ?_ rfl (by kernel_rfl) (by kernel_rfl) (by kernel_rfl) (fun _ _ _ h => h) (by rfl) ?_ hSc ?_
  rotate_left
  · (intro W hSW; go_simp; try rfl)
  try simp only [Act.put, List.setIfInBounds_toArray, List.set_cons_zero, List.set_cons_succ]
  refine held_take 3 ?_ rfl (by kernel_rfl) (by kernel_rfl) (by kernel_rfl) (fun _ _ _ h => h) (by rfl) ?_ hSc ?_
  rotate_left
  · (intro W hSW; have k0 : W.cell? ⟨w.heap.size + 2, 3, none⟩ = some (.func (.func 52) #[] #[]) := hSW.r2.cell 3; go_simp; try rfl)
  try simp only [Act.put, List.setIfInBounds_toArray, List.set_cons_zero, List.set_cons_succ]
  refine held_next 7 rfl (by kernel_rfl) (by rfl) ?_
  go_simp
  refine (flippedByRuns_c _ p 3 x y _ T2.out N2.out H2.out).mono ?_
  rintro e u2 ⟨v2, rfl, gq, bq⟩
  have hS2 := hSc.step bq
  have RR := Lib.hid (RR.out.below bq RR.out.lt)
  have T2 := Lib.hid (T2.out.step bq)
  have N2 : Hid (∀ b, u2.heap.size ≤ b → N b ∧ b ≠ w.heap.size + 1) := Lib.hid fun b hb => N2.out b (Nat.le_trans bq.size hb)
  have H2 := Lib.hid gq
  clear hSc bq gq
  have hSc := hS2
  clear hS2
  refine ⟨fun W => Bx w w.heap.size 28 #[.int .u8 κ, .slice A n c, .slice A2 n2 c2, .slice A3 n3 c3] (w.heap.size + 2) 69 #[.nilFunc, .func (.func 52) #[] #[], .func (.func 53) #[] #[], .func (.func 52) #[] #[]] W, fun W hW => hW, hSc, ?_⟩
  try simp only [Act.put, List.setIfInBounds_toArray, List.set_cons_zero, List.set_cons_succ]
  refine held_next 8 rfl (by kernel_rfl) (by rfl) ?_
  go_simp
  refine (canonical_c v2 _ _ _ T2.out N2.out H2.out).mono ?_
  rintro e u3 ⟨v', rfl, gq, bq⟩
  obtain ⟨κ5, A5, n5, c5, A6, n6, c6, A7, n7, c7, rfl⟩ := gq.form
  have hS2 := hSc.step bq
  have RR := Lib.hid (RR.out.below bq RR.out.lt)
  have T2 := Lib.hid (T2.out.step bq)
  have N2 : Hid (∀ b, u3.heap.size ≤ b → N b ∧ b ≠ w.heap.size + 1) := Lib.hid fun b hb => N2.out b (Nat.le_trans bq.size hb)
  have G := Lib.hid gq
  clear hSc bq gq
  have hSc := hS2
  clear hS2
  refine ⟨fun W => Bx w w.heap.size 28 #[.int .u8 κ, .slice A n c, .slice A2 n2 c2, .slice A3 n3 c3] (w.heap.size + 2) 69 #[.nilFunc, .func (.func 52) #[] #[], .func (.func 53) #[] #[], .func (.func 52) #[] #[]] W, fun W hW => hW, hSc, ?_⟩
  try simp only [Act.put, List.setIfInBounds_toArray, List.set_cons_zero, List.set_cons_succ]
  have d0 : u3.cell? ⟨w.heap.size + 1, 0, none⟩ = some (.int .u8 0) := RR.out.cell 0
  have d1 : u3.cell? ⟨w.heap.size + 1, 1, none⟩ = some (.slice none 0 0) := RR.out.cell 1
  have d2 : u3.cell? ⟨w.heap.size + 1, 2, none⟩ = some (.slice none 0 0) := RR.out.cell 2
  have d3 : u3.cell? ⟨w.heap.size + 1, 3, none⟩ = some (.slice none 0 0) := RR.out.cell 3
  have e0 := RR.out.frozen 0
  have e1 := RR.out.frozen 1
  have e2 := RR.out.frozen 2
  have e3 := RR.out.frozen 3
  refine held_next 9 rfl (by kernel_rfl) (by rfl) ?_
  go_simp
  have S4 := set4 (a' := .int .u8 κ5) (b' := .slice A5 n5 c5) (c' := .slice A6 n6 c6) (d' := .slice A7 n7 c7) RR.out
  have hSd := hSc.stored S4.2 (by omega) (by omega) (by omega)
  have H5 := Lib.hid ((G.out.grown S4.2 (fun hh => hh.2 rfl)).mono fun b _ hn => hn.1)
  refine ⟨fun W => Bx w w.heap.size 28 #[.int .u8 κ, .slice A n c, .slice A2 n2 c2, .slice A3 n3 c3] (w.heap.size + 2) 69 #[.nilFunc, .func (.func 52) #[] #[], .func (.func 53) #[] #[], .func (.func 52) #[] #[]] W, fun W hW => hW, hSd, ?_⟩
  refine wpAnyH_done (by kernel_rfl) ?_ _
  go_wp2
  exact bodyPost_ret (ret_row rfl rfl S4.1) rfl ⟨_, rfl, H5.out, hSd.bel⟩

theorem flip_c {N : Nat → Prop} (v : Value) (p : Nat → Bool) (k : Nat) (x y : Int) (w : World) (hT : Tb w) (hN : ∀ b, w.heap.size ≤ b → N b) (h : Cn N w v p k) :
    Calls Tryz.prog 18 #[v, .int .i64 x, .int .i64 y] w fun e w' => ∃ v', e = .returned v' ∧ Cn N w' v' (flp p x y) (ck (flp p x y)) ∧ Below w.heap.size w w' := by
  have hk := h.kind
  have hk2 : k = 1 ∨ k = 2 ∨ k = 3 := by omega
  rcases hk2 with rfl | rfl | rfl
  · exact flip_1 v p x y w hT hN h
  · exact flip_2 v p x y w hT hN h
  · exact flip_3 v p x y w hT hN h

set_option maxHeartbeats 1000000 in
theorem flippedWith_yes {N : Nat → Prop} (v : Value) (p : Nat → Bool) (k x : Nat) (w : World) (hT : Tb w) (hN : ∀ b, w.heap.size ≤ b → N b) (hx : x < 65536) (hp : p x = true) (h : Cn N w v p k) :
    Calls Tryz.prog 55 #[v, .int .u16 x] w fun e w' => ∃ v' k', e = .returned v' ∧ Cn N w' v' (pls p x) k' ∧ Below w.heap.size w w' := by
  obtain ⟨κ, A, n, c, A2, n2, c2, A3, n3, c3, rfl⟩ := h.form
  have H := Lib.hid (h.mono (N' := fun b => N b ∧ b < w.heap.size) fun b hb hn => ⟨hn, hb⟩)
  have TT := Lib.hid hT
  have NN := Lib.hid hN
  have HP := Lib.hid hp
  have HX := Lib.hid hx
  have X := two_blocks w #[.int .u8 κ, .slice A n c, .slice A2 n2 c2, .slice A3 n3 c3] #[.int .u8 0, .slice none 0 0, .slice none 0 0, .slice none 0 0] 28 28
  have w1 : IntKind.i64.wrap (x : Int) = x := by simp [IntKind.wrap, IntKind.bits, IntKind.signed]; omega
  have w2 : wrap64 ((x : Int) + 1) = (x : Int) + 1 := by unfold wrap64; omega
  clear h hT hN hp hx
  go_enter Tryz.func55, Tryz.ntmps55
  go_wp2_with fail
  generalize (w.alloc (.cells #[.int .u8 κ, .slice A n c, .slice A2 n2 c2, .slice A3 n3 c3] 28)).alloc (.cells #[.int .u8 0, .slice none 0 0, .slice none 0 0, .slice none 0 0] 28) = W0 at *
  obtain ⟨b0, r0, r1⟩ := X
  have lg := r1.lt
  have R0 := Lib.hid r0
  have RR := Lib.hid r1
  have BB := Lib.hid b0
  clear b0 r0 r1
  refine (has_c _ p k x _ HX.out (H.out.step BB.out)).mono ?_
  rw [HP.out]
  rintro e u1 ⟨rfl, b⟩
  have R0 := Lib.hid (R0.out.below b R0.out.lt)
  have RR := Lib.hid (RR.out.below b RR.out.lt)
  have BB := Lib.hid (below_both BB.out b)
  have hs := b.size
  clear b
  have k0 : u1.cell? ⟨w.heap.size, 0, none⟩ = some (.int .u8 κ) := R0.out.cell 0
  have k1 : u1.cell? ⟨w.heap.size, 1, none⟩ = some (.slice A n c) := R0.out.cell 1
  have k2 : u1.cell? ⟨w.heap.size, 2, none⟩ = some (.slice A2 n2 c2) := R0.out.cell 2
  have k3 : u1.cell? ⟨w.heap.size, 3, none⟩ = some (.slice A3 n3 c3) := R0.out.cell 3
  have d0 : u1.cell? ⟨w.heap.size + 1, 0, none⟩ = some (.int .u8 0) := RR.out.cell 0
  have d1 : u1.cell? ⟨w.heap.size + 1, 1, none⟩ = some (.slice none 0 0) := RR.out.cell 1
  have d2 : u1.cell? ⟨w.heap.size + 1, 2, none⟩ = some (.slice none 0 0) := RR.out.cell 2
  have d3 : u1.cell? ⟨w.heap.size + 1, 3, none⟩ = some (.slice none 0 0) := RR.out.cell 3
  have e0 := RR.out.frozen 0
  have e1 := RR.out.frozen 1
  have e2 := RR.out.frozen 2
  have e3 := RR.out.frozen 3
  go_wp2
  have S4 := set4 (a' := .int .u8 κ) (b' := .slice A n c) (c' := .slice A2 n2 c2) (d' := .slice A3 n3 c3) RR.out
  have B5 := Lib.hid (BB.out.grown S4.2 BB.out.size (fun j e => by injection e with e; subst e; omega))
  have H5 := Lib.hid (((H.out.step BB.out).grown S4.2 (fun hh => by have := hh.2; omega)).mono fun b _ hn => hn.1)
  exact bodyPost_ret (ret_row rfl rfl S4.1) rfl ⟨_, _, rfl, by rw [pls_has HP.out]; exact H5.out, B5.out⟩

set_option maxHeartbeats 1000000 in
theorem flippedWith_no {N : Nat → Prop} (v : Value) (p : Nat → Bool) (k x : Nat) (w : World) (hT : Tb w) (hN : ∀ b, w.heap.size ≤ b → N b) (hx : x < 65536) (hp : p x = false) (h : Cn N w v p k) :
    Calls Tryz.prog 55 #[v, .int .u16 x] w fun e w' => ∃ v' k', e = .returned v' ∧ Cn N w' v' (pls p x) k' ∧ Below w.heap.size w w' := by
  obtain ⟨κ, A, n, c, A2, n2, c2, A3, n3, c3, rfl⟩ := h.form
  have H := Lib.hid (h.mono (N' := fun b => N b ∧ b < w.heap.size) fun b hb hn => ⟨hn, hb⟩)
  have TT := Lib.hid hT
  have NN := Lib.hid hN
  have HP := Lib.hid hp
  have HX := Lib.hid hx
  have X := two_blocks w #[.int .u8 κ, .slice A n c, .slice A2 n2 c2, .slice A3 n3 c3] #[.int .u8 0, .slice none 0 0, .slice none 0 0, .slice none 0 0] 28 28
  have w1 : IntKind.i64.wrap (x : Int) = x := by simp [IntKind.wrap, IntKind.bits, IntKind.signed]; omega
  have w2 : wrap64 ((x : Int) + 1) = (x : Int) + 1 := by unfold wrap64; omega
  clear h hT hN hp hx
  go_enter Tryz.func55, Tryz.ntmps55
  go_wp2_with fail
  generalize (w.alloc (.cells #[.int .u8 κ, .slice A n c, .slice A2 n2 c2, .slice A3 n3 c3] 28)).alloc (.cells #[.int .u8 0, .slice none 0 0, .slice none 0 0, .slice none 0 0] 28) = W0 at *
  obtain ⟨b0, r0, r1⟩ := X
  have lg := r1.lt
  have R0 := Lib.hid r0
  have RR := Lib.hid r1
  have BB := Lib.hid b0
  clear b0 r0 r1
  refine (has_c _ p k x _ HX.out (H.out.step BB.out)).mono ?_
  rw [HP.out]
  rintro e u1 ⟨rfl, b⟩
  have R0 := Lib.hid (R0.out.below b R0.out.lt)
  have RR := Lib.hid (RR.out.below b RR.out.lt)
  have BB := Lib.hid (below_both BB.out b)
  have hs := b.size
  clear b
  have k0 : u1.cell? ⟨w.heap.size, 0, none⟩ = some (.int .u8 κ) := R0.out.cell 0
  have k1 : u1.cell? ⟨w.heap.size, 1, none⟩ = some (.slice A n c) := R0.out.cell 1
  have k2 : u1.cell? ⟨w.heap.size, 2, none⟩ = some (.slice A2 n2 c2) := R0.out.cell 2
  have k3 : u1.cell? ⟨w.heap.size, 3, none⟩ = some (.slice A3 n3 c3) := R0.out.cell 3
  have N2 : Hid (∀ b, u1.heap.size ≤ b → N b ∧ b ≠ w.heap.size + 1) := Lib.hid fun b hb => ⟨NN.out b (by omega), by omega⟩
  have H2 := Lib.hid (Cn.mono (N' := fun b => N b ∧ b ≠ w.heap.size + 1) (H.out.step BB.out) fun b _ hn => ⟨hn.1, by have := hn.2; omega⟩)
  go_wp2_with fail
  refine (flip_c _ p k _ _ _ (TT.out.step BB.out) N2.out H2.out).mono ?_
  rw [pls_flp HP.out]
  rintro e u2 ⟨v', rfl, g, b⟩
  obtain ⟨κ5, A5, n5, c5, A6, n6, c6, A7, n7, c7, rfl⟩ := g.form
  have G := Lib.hid g
  have RR := Lib.hid (RR.out.below b RR.out.lt)
  have BB := Lib.hid (below_both BB.out b)
  clear b g k0 k1 k2 k3
  have d0 : u2.cell? ⟨w.heap.size + 1, 0, none⟩ = some (.int .u8 0) := RR.out.cell 0
  have d1 : u2.cell? ⟨w.heap.size + 1, 1, none⟩ = some (.slice none 0 0) := RR.out.cell 1
  have d2 : u2.cell? ⟨w.heap.size + 1, 2, none⟩ = some (.slice none 0 0) := RR.out.cell 2
  have d3 : u2.cell? ⟨w.heap.size + 1, 3, none⟩ = some (.slice none 0 0) := RR.out.cell 3
  have e0 := RR.out.frozen 0
  have e1 := RR.out.frozen 1
  have e2 := RR.out.frozen 2
  have e3 := RR.out.frozen 3
  go_wp2
  have S4 := set4 (a' := .int .u8 κ5) (b' := .slice A5 n5 c5) (c' := .slice A6 n6 c6) (d' := .slice A7 n7 c7) RR.out
  have B5 := Lib.hid (BB.out.grown S4.2 BB.out.size (fun j e => by injection e with e; subst e; omega))
  have H5 := Lib.hid ((G.out.grown S4.2 (fun hh => hh.2 rfl)).mono fun b _ hn => hn.1)
  exact bodyPost_ret (ret_row rfl rfl S4.1) rfl ⟨_, _, rfl, H5.out, B5.out⟩

theorem flippedWith_c {N : Nat → Prop} (v : Value) (p : Nat → Bool) (k x : Nat) (w : World) (hT : Tb w) (hN : ∀ b, w.heap.size ≤ b → N b) (hx : x < 65536) (h : Cn N w v p k) :
    Calls Tryz.prog 55 #[v, .int .u16 x] w fun e w' => ∃ v' k', e = .returned v' ∧ Cn N w' v' (pls p x) k' ∧ Below w.heap.size w w' := by
  cases hp : p x with
  | true => exact flippedWith_yes v p k x w hT hN hx hp h
  | false => exact flippedWith_no v p k x w hT hN hx hp h

set_option maxHeartbeats 2000000 in
theorem with_1 {N : Nat → Prop} (κ : Int) (A : Option Addr) (n c : Nat) (p : Nat → Bool) (x : Nat) (w : World) (hT : Tb w) (hN : ∀ b, w.heap.size ≤ b → N b) (hx : x < 65536) (hκ : κ = 0 ∨ κ = 1) (hn : ct p 65536 = n) (h : Gp e16 N w (.slice A n c) (ls p 65536)) :
    Calls Tryz.prog 19 #[.agg #[.int .u8 κ, .slice A n c, .slice none 0 0, .slice none 0 0], .int .u16 x] w fun e w' => ∃ v', e = .returned v' ∧ Cn N w' v' (pls p x) (ck (pls p x)) ∧ Below w.heap.size w w' := by
  have H := Lib.hid (show Cn (fun b => N b ∧ b < w.heap.size) w _ p 1 from .arr κ A n c hκ hn (h.mono fun b hb hn => ⟨hn, hb⟩))
  have TT := Lib.hid hT
  have NN := Lib.hid hN
  have X := three_blocks w #[.int .u8 κ, .slice A n c, .slice none 0 0, .slice none 0 0] #[.int .u8 0, .slice none 0 0, .slice none 0 0, .slice none 0 0] #[.nilFunc, .func (.func 54) #[] #[], .func (.func 55) #[] #[], .func (.func 55) #[] #[]] 28 28 71
  clear hT hN
  go_enter Tryz.func19, Tryz.ntmps19
  go_wp2_with fail
  generalize ((w.alloc (.cells #[.int .u8 κ, .slice A n c, .slice none 0 0, .slice none 0 0] 28)).alloc (.cells #[.int .u8 0, .slice none 0 0, .slice none 0 0, .slice none 0 0] 28)).alloc (.cells #[.nilFunc, .func (.func 54) #[] #[], .func (.func 55) #[] #[], .func (.func 55) #[] #[]] 71) = W0 at *
  obtain ⟨x1, x2, x3⟩ := X
  have hSc : Bx w w.heap.size 28 #[.int .u8 κ, .slice A n c, .slice none 0 0, .slice none 0 0] (w.heap.size + 2) 71 #[.nilFunc, .func (.func 54) #[] #[], .func (.func 55) #[] #[], .func (.func 55) #[] #[]] W0.drew := ⟨x1.bel.drew, x1.r1, x1.r2⟩
  have H2 := Lib.hid (Cn.mono (N' := fun b => N b ∧ b ≠ w.heap.size + 1) (H.out.step x1.bel.drew) fun b _ hn => ⟨hn.1, by have := hn.2; omega⟩)
  have T2 := Lib.hid (TT.out.step x1.bel.drew)
  have RR := Lib.hid (show Row W0.drew (w.heap.size + 1) _ _ from x2)
  have N2 : Hid (∀ b, W0.drew.heap.size ≤ b → N b ∧ b ≠ w.heap.size + 1) := Lib.hid fun b hb => by
    have hb' : W0.heap.size ≤ b := hb
    exact ⟨NN.out b (by omega), by omega⟩
  have SZ : w.heap.size + 3 ≤ W0.drew.heap.size := Nat.le_of_eq x3.symm
  clear x1 x2 x3 H TT
  refine wp_region_held_drew (S := fun W => Bx w w.heap.size 28 #[.int .u8 κ, .slice A n c, .slice none 0 0, .slice none 0 0] (w.heap.size + 2) 71 #[.nilFunc, .func (.func 54) #[] #[], .func (.func 55) #[] #[], .func (.func 55) #[] #[]] W) (by kernel_rfl) hSc (fun _ => ?_)
  refine held_take 0 ?_ rfl (by kernel_rfl) (by kernel_rfl) (by kernel_rfl) (fun _ _ _ h => h) (by rfl) ?_ hSc ?_
  rotate_left
  · (intro W hSW; have k0 : W.cell? ⟨w.heap.size, 0, none⟩ = some (.int .u8 κ) := hSW.r1.cell 0; have k1 : W.cell? ⟨w.heap.size, 1, none⟩ = some (.slice A n c) := hSW.r1.cell 1; have k2 : W.cell? ⟨w.heap.size, 2, none⟩ = some (.slice none 0 0) := hSW.r1.cell 2; have k3 : W.cell? ⟨w.heap.size, 3, none⟩ = some (.slice none 0 0) := hSW.r1.cell 3; go_simp; try rfl)
  try simp only [Act.put, List.setIfInBounds_toArray, List.set_cons_zero, List.set_cons_succ]
  refine held_take 4 ?_ rfl (by kernel_rfl) (by kernel_rfl) (by kernel_rfl) (fun _ _ _ h => h) (by rfl) ?_ hSc ?_
  rotate_left
  · (intro W hSW; have k0 : W.cell? ⟨w.heap.size, 0, none⟩ = some (.int .u8 κ) := hSW.r1.cell 0; have k1 : W.cell? ⟨w.heap.size, 1, none⟩ = some (.slice A n c) := hSW.r1.cell 1; have k2 : W.cell? ⟨w.heap.size, 2, none⟩ = some (.slice none 0 0) := hSW.r1.cell 2; have k3 : W.cell? ⟨w.heap.size, 3, none⟩ = some (.slice none 0 0) := hSW.r1.cell 3; go_simp; try rfl)
  try simp only [Act.put, List.setIfInBounds_toArray, List.set_cons_zero, List.set_cons_succ]
  refine held_take 5 ?_ rfl (by kernel_rfl) (by kernel_rfl) (by kernel_rfl) (fun _ _ _ h => h) (by rfl) ?_ hSc ?_
  rotate_left
  · (intro W hSW; go_simp; try rfl)
  try simp only [Act.put, List.setIfInBounds_toArray, List.set_cons_zero, List.set_cons_succ]
  refine held_next 1 rfl (by kernel_rfl) (by rfl) ?_
  go_simp
  refine (kind_c _ p 1 _ H2.out).mono ?_
  rintro e u1 ⟨rfl, bq⟩
  have hS2 := hSc.step bq
  have RR := Lib.hid (RR.out.below bq RR.out.lt)
  have T2 := Lib.hid (T2.out.step bq)
  have N2 : Hid (∀ b, u1.heap.size ≤ b → N b ∧ b ≠ w.heap.size + 1) := Lib.hid fun b hb => N2.out b (Nat.le_trans bq.size hb)
  have H2 := Lib.hid (H2.out.step bq)
  clear hSc bq
  have hSc := hS2
  clear hS2
  refine ⟨fun W => Bx w w.heap.size 28 #[.int .u8 κ, .slice A n c, .slice none 0 0, .slice none 0 0] (w.heap.size + 2) 71 #[.nilFunc, .func (.func 54) #[] #[], .func (.func 55) #[] #[], .func (.func 55) #[] #[]] W, fun W hW => hW, hSc, ?_⟩
  try simp only [Act.put, List.setIfInBounds_toArray, List.set_cons_zero, List.set_cons_succ]
  refine held_take 2 ?_ rfl (by kernel_rfl) (by kernel_rfl) (by kernel_rfl) (fun _ _ _ h => h) (by rfl) ?_ hSc ?_
  rotate_left
  · (intro W hSW; go_simp; try rfl)
  try simp only [Act.put, List.setIfInBounds_toArray, List.set_cons_zero, List.set_cons_succ]
  refine held_take 3 ?_ rfl (by kernel_rfl) (by kernel_rfl) (by kernel_rfl) (fun _ _ _ h => h) (by rfl) ?_ hSc ?_
  rotate_left
  · (intro W hSW; have k0 : W.cell? ⟨w.heap.size + 2, 1, none⟩ = some (.func (.func 54) #[] #[]) := hSW.r2.cell 1; go_simp; try rfl)
  try simp only [Act.put, List.setIfInBounds_toArray, List.set_cons_zero, List.set_cons_succ]
  refine held_next 6 rfl (by kernel_rfl) (by rfl) ?_
  go_simp
  refine (arrayWith_c p κ A n c x _ T2.out N2.out hx (h.1.stp hSc.bel)).mono ?_
  rintro e u2 ⟨v2, rfl, gq, bq⟩
  have hS2 := hSc.step bq
  have RR := Lib.hid (RR.out.below bq RR.out.lt)
  have T2 := Lib.hid (T2.out.step bq)
  have N2 : Hid (∀ b, u2.heap.size ≤ b → N b ∧ b ≠ w.heap.size + 1) := Lib.hid fun b hb => N2.out b (Nat.le_trans bq.size hb)
  have H2 := Lib.hid gq
  clear hSc bq gq
  have hSc := hS2
  clear hS2
  refine ⟨fun W => Bx w w.heap.size 28 #[.int .u8 κ, .slice A n c, .slice none 0 0, .slice none 0 0] (w.heap.size + 2) 71 #[.nilFunc, .func (.func 54) #[] #[], .func (.func 55) #[] #[], .func (.func 55) #[] #[]] W, fun W hW => hW, hSc, ?_⟩
  try simp only [Act.put, List.setIfInBounds_toArray, List.set_cons_zero, List.set_cons_succ]
  refine held_next 7 rfl (by kernel_rfl) (by rfl) ?_
  go_simp
  refine (canonical_c v2 _ _ _ T2.out N2.out H2.out).mono ?_
  rintro e u3 ⟨v', rfl, gq, bq⟩
  obtain ⟨κ5, A5, n5, c5, A6, n6, c6, A7, n7, c7, rfl⟩ := gq.form
  have hS2 := hSc.step bq
  have RR := Lib.hid (RR.out.below bq RR.out.lt)
  have T2 := Lib.hid (T2.out.step bq)
  have N2 : Hid (∀ b, u3.heap.size ≤ b → N b ∧ b ≠ w.heap.size + 1) := Lib.hid fun b hb => N2.out b (Nat.le_trans bq.size hb)
  have G := Lib.hid gq
  clear hSc bq gq
  have hSc := hS2
  clear hS2
  refine ⟨fun W => Bx w w.heap.size 28 #[.int .u8 κ, .slice A n c, .slice none 0 0, .slice none 0 0] (w.heap.size + 2) 71 #[.nilFunc, .func (.func 54) #[] #[], .func (.func 55) #[] #[], .func (.func 55) #[] #[]] W, fun W hW => hW, hSc, ?_⟩
  try simp only [Act.put, List.setIfInBounds_toArray, List.set_cons_zero, List.set_cons_succ]
  have d0 : u3.cell? ⟨w.heap.size + 1, 0, none⟩ = some (.int .u8 0) := RR.out.cell 0
  have d1 : u3.cell? ⟨w.heap.size + 1, 1, none⟩ = some (.slice none 0 0) := RR.out.cell 1
  have d2 : u3.cell? ⟨w.heap.size + 1, 2, none⟩ = some (.slice none 0 0) := RR.out.cell 2
  have d3 : u3.cell? ⟨w.heap.size + 1, 3, none⟩ = some (.slice none 0 0) := RR.out.cell 3
  have e0 := RR.out.frozen 0
  have e1 := RR.out.frozen 1
  have e2 := RR.out.frozen 2
  have e3 := RR.out.frozen 3
  refine held_next 8 rfl (by kernel_rfl) (by rfl) ?_
  go_simp
  have S4 := set4 (a' := .int .u8 κ5) (b' := .slice A5 n5 c5) (c' := .slice A6 n6 c6) (d' := .slice A7 n7 c7) RR.out
  have hSd := hSc.stored S4.2 (by omega) (by omega) (by omega)
  have H5 := Lib.hid ((G.out.grown S4.2 (fun hh => hh.2 rfl)).mono fun b _ hn => hn.1)
  refine ⟨fun W => Bx w w.heap.size 28 #[.int .u8 κ, .slice A n c, .slice none 0 0, .slice none 0 0] (w.heap.size + 2) 71 #[.nilFunc, .func (.func 54) #[] #[], .func (.func 55) #[] #[], .func (.func 55) #[] #[]] W, fun W hW => hW, hSd, ?_⟩
  refine wpAnyH_done (by kernel_rfl) ?_ _
  go_wp2
  exact bodyPost_ret (ret_row rfl rfl S4.1) rfl ⟨_, rfl, H5.out, hSd.bel⟩

set_option maxHeartbeats 2000000 in
theorem with_2 {N : Nat → Prop} (v : Value) (p : Nat → Bool) (x : Nat) (w : World) (hT : Tb w) (hN : ∀ b, w.heap.size ≤ b → N b) (hx : x < 65536) (h : Cn N w v p 2) :
    Calls Tryz.prog 19 #[v, .int .u16 x] w fun e w' => ∃ v', e = .returned v' ∧ Cn N w' v' (pls p x) (ck (pls p x)) ∧ Below w.heap.size w w' := by
  obtain ⟨κ, A, n, c, A2, n2, c2, A3, n3, c3, rfl⟩ := h.form
  have H := Lib.hid (h.mono (N' := fun b => N b ∧ b < w.heap.size) fun b hb hn => ⟨hn, hb⟩)
  have TT := Lib.hid hT
  have NN := Lib.hid hN
  have X := three_blocks w #[.int .u8 κ, .slice A n c, .slice A2 n2 c2, .slice A3 n3 c3] #[.int .u8 0, .slice none 0 0, .slice none 0 0, .slice none 0 0] #[.nilFunc, .func (.func 54) #[] #[], .func (.func 55) #[] #[], .func (.func 55) #[] #[]] 28 28 71
  clear hT hN
  go_enter Tryz.func19, Tryz.ntmps19
  go_wp2_with fail
  generalize ((w.alloc (.cells #[.int .u8 κ, .slice A n c, .slice A2 n2 c2, .slice A3 n3 c3] 28)).alloc (.cells #[.int .u8 0, .slice none 0 0, .slice none 0 0, .slice none 0 0] 28)).alloc (.cells #[.nilFunc, .func (.func 54) #[] #[], .func (.func 55) #[] #[], .func (.func 55) #[] #[]] 71) = W0 at *
  obtain ⟨x1, x2, x3⟩ := X
  have hSc : Bx w w.heap.size 28 #[.int .u8 κ, .slice A n c, .slice A2 n2 c2, .slice A3 n3 c3] (w.heap.size + 2) 71 #[.nilFunc, .func (.func 54) #[] #[], .func (.func 55) #[] #[], .func (.func 55) #[] #[]] W0.drew := ⟨x1.bel.drew, x1.r1, x1.r2⟩
  have H2 := Lib.hid (Cn.mono (N' := fun b => N b ∧ b ≠ w.heap.size + 1) (H.out.step x1.bel.drew) fun b _ hn => ⟨hn.1, by have := hn.2; omega⟩)
  have T2 := Lib.hid (TT.out.step x1.bel.drew)
  have RR := Lib.hid (show Row W0.drew (w.heap.size + 1) _ _ from x2)
  have N2 : Hid (∀ b, W0.drew.heap.size ≤ b → N b ∧ b ≠ w.heap.size + 1) := Lib.hid fun b hb => by
    have hb' : W0.heap.size ≤ b := hb
    exact ⟨NN.out b (by omega), by omega⟩
  have SZ : w.heap.size + 3 ≤ W0.drew.heap.size := Nat.le_of_eq x3.symm
  clear x1 x2 x3 H TT
  refine wp_region_held_drew (S := fun W => Bx w w.heap.size 28 #[.int .u8 κ, .slice A n c, .slice A2 n2 c2, .slice A3 n3 c3] (w.heap.size + 2) 71 #[.nilFunc, .func (.func 54) #[] #[], .func (.func 55) #[] #[], .func (.func 55) #[] #[]] W) (by kernel_rfl) hSc (fun _ => ?_)
  refine held_take 0 ?_ rfl (by kernel_rfl) (by kernel_rfl) (by kernel_rfl) (fun _ _ _ h => h) (by rfl) ?_ hSc ?_
  rotate_left
  · (intro W hSW; have k0 : W.cell? ⟨w.heap.size, 0, none⟩ = some (.int .u8 κ) := hSW.r1.cell 0; have k1 : W.cell? ⟨w.heap.size, 1, none⟩ = some (.slice A n c) := hSW.r1.cell 1; have k2 : W.cell? ⟨w.heap.size, 2, none⟩ = some (.slice A2 n2 c2) := hSW.r1.cell 2; have k3 : W.cell? ⟨w.heap.size, 3, none⟩ = some (.slice A3 n3 c3) := hSW.r1.cell 3; go_simp; try rfl)
  try simp only [Act.put, List.setIfInBounds_toArray, List.set_cons_zero, List.set_cons_succ]
  refine held_take 4 ?_ rfl (by kernel_rfl) (by kernel_rfl) (by kernel_rfl) (fun _ _ _ h => h) (by rfl) ?_ hSc ?_
  rotate_left
  · (intro W hSW; have k0 : W.cell? ⟨w.heap.size, 0, none⟩ = some (.int .u8 κ) := hSW.r1.cell 0; have k1 : W.cell? ⟨w.heap.size, 1, none⟩ = some (.slice A n c) := hSW.r1.cell 1; have k2 : W.cell? ⟨w.heap.size, 2, none⟩ = some (.slice A2 n2 c2) := hSW.r1.cell 2; have k3 : W.cell? ⟨w.heap.size, 3, none⟩ = some (.slice A3 n3 c3) := hSW.r1.cell 3; go_simp; try rfl)
  try simp only [Act.put, List.setIfInBounds_toArray, List.set_cons_zero, List.set_cons_succ]
  refine held_take 5 ?_ rfl (by kernel_rfl) (by kernel_rfl) (by kernel_rfl) (fun _ _ _ h => h) (by rfl) ?_ hSc ?_
  rotate_left
  · (intro W hSW; go_simp; try rfl)
  try simp only [Act.put, List.setIfInBounds_toArray, List.set_cons_zero, List.set_cons_succ]
  refine held_next 1 rfl (by kernel_rfl) (by rfl) ?_
  go_simp
  refine (kind_c _ p 2 _ H2.out).mono ?_
  rintro e u1 ⟨rfl, bq⟩
  have hS2 := hSc.step bq
  have RR := Lib.hid (RR.out.below bq RR.out.lt)
  have T2 := Lib.hid (T2.out.step bq)
  have N2 : Hid (∀ b, u1.heap.size ≤ b → N b ∧ b ≠ w.heap.size + 1) := Lib.hid fun b hb => N2.out b (Nat.le_trans bq.size hb)
  have H2 := Lib.hid (H2.out.step bq)
  clear hSc bq
  have hSc := hS2
  clear hS2
  refine ⟨fun W => Bx w w.heap.size 28 #[.int .u8 κ, .slice A n c, .slice A2 n2 c2, .slice A3 n3 c3] (w.heap.size + 2) 71 #[.nilFunc, .func (.func 54) #[] #[], .func (.func 55) #[] #[], .func (.func 55) #[] #[]] W, fun W hW => hW, hSc, ?_⟩
  try simp only [Act.put, List.setIfInBounds_toArray, List.set_cons_zero, List.set_cons_succ]
  refine held_take 2 ?_ rfl (by kernel_rfl) (by kernel_rfl) (by kernel_rfl) (fun _ _ _ h => h) (by rfl) ?_ hSc ?_
  rotate_left
  · (intro W hSW; go_simp; try rfl)
  try simp only [Act.put, List.setIfInBounds_toArray, List.set_cons_zero, List.set_cons_succ]
  refine held_take 3 ?_ rfl (by kernel_rfl) (by kernel_rfl) (by kernel_rfl) (fun _ _ _ h => h) (by rfl) ?_ hSc ?_
  rotate_left
  · (intro W hSW; have k0 : W.cell? ⟨w.heap.size + 2, 2, none⟩ = some (.func (.func 55) #[] #[]) := hSW.r2.cell 2; go_simp; try rfl)
  try simp only [Act.put, List.setIfInBounds_toArray, List.set_cons_zero, List.set_cons_succ]
  refine held_next 6 rfl (by kernel_rfl) (by rfl) ?_
  go_simp
  refine (flippedWith_c _ p 2 x _ T2.out N2.out hx H2.out).mono ?_
  rintro e u2 ⟨v2, kk, rfl, gq, bq⟩
  have hS2 := hSc.step bq
  have RR := Lib.hid (RR.out.below bq RR.out.lt)
  have T2 := Lib.hid (T2.out.step bq)
  have N2 : Hid (∀ b, u2.heap.size ≤ b → N b ∧ b ≠ w.heap.size + 1) := Lib.hid fun b hb => N2.out b (Nat.le_trans bq.size hb)
  have H2 := Lib.hid gq
  clear hSc bq gq
  have hSc := hS2
  clear hS2
  refine ⟨fun W => Bx w w.heap.size 28 #[.int .u8 κ, .slice A n c, .slice A2 n2 c2, .slice A3 n3 c3] (w.heap.size + 2) 71 #[.nilFunc, .func (.func 54) #[] #[], .func (.func 55) #[] #[], .func (.func 55) #[] #[]] W, fun W hW => hW, hSc, ?_⟩
  try simp only [Act.put, List.setIfInBounds_toArray, List.set_cons_zero, List.set_cons_succ]
  refine held_next 7 rfl (by kernel_rfl) (by rfl) ?_
  go_simp
  refine (canonical_c v2 _ _ _ T2.out N2.out H2.out).mono ?_
  rintro e u3 ⟨v', rfl, gq, bq⟩
  obtain ⟨κ5, A5, n5, c5, A6, n6, c6, A7, n7, c7, rfl⟩ := gq.form
  have hS2 := hSc.step bq
  have RR := Lib.hid (RR.out.below bq RR.out.lt)
  have T2 := Lib.hid (T2.out.step bq)
  have N2 : Hid (∀ b, u3.heap.size ≤ b → N b ∧ b ≠ w.heap.size + 1) := Lib.hid fun b hb => N2.out b (Nat.le_trans bq.size hb)
  have G := Lib.hid gq
  clear hSc bq gq
  have hSc := hS2
  clear hS2
  refine ⟨fun W => Bx w w.heap.size 28 #[.int .u8 κ, .slice A n c, .slice A2 n2 c2, .slice A3 n3 c3] (w.heap.size + 2) 71 #[.nilFunc, .func (.func 54) #[] #[], .func (.func 55) #[] #[], .func (.func 55) #[] #[]] W, fun W hW => hW, hSc, ?_⟩
  try simp only [Act.put, List.setIfInBounds_toArray, List.set_cons_zero, List.set_cons_succ]
  have d0 : u3.cell? ⟨w.heap.size + 1, 0, none⟩ = some (.int .u8 0) := RR.out.cell 0
  have d1 : u3.cell? ⟨w.heap.size + 1, 1, none⟩ = some (.slice none 0 0) := RR.out.cell 1
  have d2 : u3.cell? ⟨w.heap.size + 1, 2, none⟩ = some (.slice none 0 0) := RR.out.cell 2
  have d3 : u3.cell? ⟨w.heap.size + 1, 3, none⟩ = some (.slice none 0 0) := RR.out.cell 3
  have e0 := RR.out.frozen 0
  have e1 := RR.out.frozen 1
  have e2 := RR.out.frozen 2
  have e3 := RR.out.frozen 3
  refine held_next 8 rfl (by kernel_rfl) (by rfl) ?_
  go_simp
  have S4 := set4 (a' := .int .u8 κ5) (b' := .slice A5 n5 c5) (c' := .slice A6 n6 c6) (d' := .slice A7 n7 c7) RR.out
  have hSd := hSc.stored S4.2 (by omega) (by omega) (by omega)
  have H5 := Lib.hid ((G.out.grown S4.2 (fun hh => hh.2 rfl)).mono fun b _ hn => hn.1)
  refine ⟨fun W => Bx w w.heap.size 28 #[.int .u8 κ, .slice A n c, .slice A2 n2 c2, .slice A3 n3 c3] (w.heap.size + 2) 71 #[.nilFunc, .func (.func 54) #[] #[], .func (.func 55) #[] #[], .func (.func 55) #[] #[]] W, fun W hW => hW, hSd, ?_⟩
  refine wpAnyH_done (by kernel_rfl) ?_ _
  go_wp2
  exact bodyPost_ret (ret_row rfl rfl S4.1) rfl ⟨_, rfl, H5.out, hSd.bel⟩

set_option maxHeartbeats 2000000 in
theorem with_3 {N : Nat → Prop} (v : Value) (p : Nat → Bool) (x : Nat) (w : World) (hT : Tb w) (hN : ∀ b, w.heap.size ≤ b → N b) (hx : x < 65536) (h : Cn N w v p 3) :
    Calls Tryz.prog 19 #[v, .int .u16 x] w fun e w' => ∃ v', e = .returned v' ∧ Cn N w' v' (pls p x) (ck (pls p x)) ∧ Below w.heap.size w w' := by
  obtain ⟨κ, A, n, c, A2, n2, c2, A3, n3, c3, rfl⟩ := h.form
  have H := Lib.hid (h.mono (N' := fun b => N b ∧ b < w.heap.size) fun b hb hn => ⟨hn, hb⟩)
  have TT := Lib.hid hT
  have NN := Lib.hid hN
  have X := three_blocks w #[.int .u8 κ, .slice A n c, .slice A2 n2 c2, .slice A3 n3 c3] #[.int .u8 0, .slice none 0 0, .slice none 0 0, .slice none 0 0] #[.nilFunc, .func (.func 54) #[] #[], .func (.func 55) #[] #[], .func (.func 55) #[] #[]] 28 28 71
  clear hT hN
  go_enter Tryz.func19, Tryz.ntmps19
  go_wp2_with fail
  generalize ((w.alloc (.cells #[.int .u8 κ, .slice A n c, .slice A2 n2 c2, .slice A3 n3 c3] 28)).alloc (.cells #[.int .u8 0, .slice none 0 0, .slice none 0 0, .slice none 0 0] 28)).alloc (.cells #[.nilFunc, .func (.func 54) #[] #[], .func (.func 55) #[] #[], .func (.func 55) #[] #[]] 71) = W0 at *
  obtain ⟨x1, x2, x3⟩ := X
  have hSc : Bx w w.heap.size 28 #[.int .u8 κ, .slice A n c, .slice A2 n2 c2, .slice A3 n3 c3] (w.heap.size + 2) 71 #[.nilFunc, .func (.func 54) #[] #[], .func (.func 55) #[] #[], .func (.func 55) #[] #[]] W0.drew := ⟨x1.bel.drew, x1.r1, x1.r2⟩
  have H2 := Lib.hid (Cn.mono (N' := fun b => N b ∧ b ≠ w.heap.size + 1) (H.out.step x1.bel.drew) fun b _ hn => ⟨hn.1, by have := hn.2; omega⟩)
  have T2 := Lib.hid (TT.out.step x1.bel.drew)
  have RR := Lib.hid (show Row W0.drew (w.heap.size + 1) _ _ from x2)
  have N2 : Hid (∀ b, W0.drew.heap.size ≤ b → N b ∧ b ≠ w.heap.size + 1) := Lib.hid fun b hb => by
    have hb' : W0.heap.size ≤ b := hb
    exact ⟨NN.out b (by omega), by omega⟩
  have SZ : w.heap.size + 3 ≤ W0.drew.heap.size := Nat.le_of_eq x3.symm
  clear x1 x2 x3 H TT
  refine wp_region_held_drew (S := fun W => Bx w w.heap.size 28 #[.int .u8 κ, .slice A n c, .slice A2 n2 c2, .slice A3 n3 c3] (w.heap.size + 2) 71 #[.nilFunc, .func (.func 54) #[] #[], .func (.func 55) #[] #[], .func (.func 55) #[] #[]] W) (by kernel_rfl) hSc (fun _ => ?_)
  refine held_take 0 ?_ rfl (by kernel_rfl) (by kernel_rfl) (by kernel_rfl) (fun _ _ _ h => h) (by rfl) ?_ hSc ?_
  rotate_left
  · (intro W hSW; have k0 : W.cell? ⟨w.heap.size, 0, none⟩ = some (.int .u8 κ) := hSW.r1.cell 0; have k1 : W.cell? ⟨w.heap.size, 1, none⟩ = some (.slice A n c) := hSW.r1.cell 1; have k2 : W.cell? ⟨w.heap.size, 2, none⟩ = some (.slice A2 n2 c2) := hSW.r1.cell 2; have k3 : W.cell? ⟨w.heap.size, 3, none⟩ = some (.slice A3 n3 c3) := hSW.r1.cell 3; go_simp; try rfl)
  try simp only [Act.put, List.setIfInBounds_toArray, List.set_cons_zero, List.set_cons_succ]
  refine held_take 4 ?_ rfl (by kernel_rfl) (by kernel_rfl) (by kernel_rfl) (fun _ _ _ h => h) (by rfl) ?_ hSc ?_
  rotate_left
  · (intro W hSW; have k0 : W.cell? ⟨w.heap.size, 0, none⟩ = some (.int .u8 κ) := hSW.r1.cell 0; have k1 : W.cell? ⟨w.heap.size, 1, none⟩ = some (.slice A n c) := hSW.r1.cell 1; have k2 : W.cell? ⟨w.heap.size, 2, none⟩ = some (.slice A2 n2 c2) := hSW.r1.cell 2; have k3 : W.cell? ⟨w.heap.size, 3, none⟩ = some (.slice A3 n3 c3) := hSW.r1.cell 3; go_simp; try rfl)
  try simp only [Act.put, List.setIfInBounds_toArray, List.set_cons_zero, List.set_cons_succ]
  refine held_take 5 ?_ rfl (by kernel_rfl) (by kernel_rfl) (by kernel_rfl) (fun _ _ _ h => h) (by rfl) ?_ hSc ?_
  rotate_left
  · (intro W hSW; go_simp; try rfl)
  try simp only [Act.put, List.setIfInBounds_toArray, List.set_cons_zero, List.set_cons_succ]
  refine held_next 1 rfl (by kernel_rfl) (by rfl) ?_
  go_simp
  refine (kind_c _ p 3 _ H2.out).mono ?_
  rintro e u1 ⟨rfl, bq⟩
  have hS2 := hSc.step bq
  have RR := Lib.hid (RR.out.below bq RR.out.lt)
  have T2 := Lib.hid (T2.out.step bq)
  have N2 : Hid (∀ b, u1.heap.size ≤ b → N b ∧ b ≠ w.heap.size + 1) := Lib.hid fun b hb => N2.out b (Nat.le_trans bq.size hb)
  have H2 := Lib.hid (H2.out.step bq)
  clear hSc bq
  have hSc := hS2
  clear hS2
  refine ⟨fun W => Bx w w.heap.size 28 #[.int .u8 κ, .slice A n c, .slice A2 n2 c2, .slice A3 n3 c3] (w.heap.size + 2) 71 #[.nilFunc, .func (.func 54) #[] #[], .func (.func 55) #[] #[], .func (.func 55) #[] #[]] W, fun W hW => hW, hSc, ?_⟩
  try simp only [Act.put, List.setIfInBounds_toArray, List.set_cons_zero, List.set_cons_succ]
  refine held_take 2 ?_ rfl (by kernel_rfl) (by kernel_rfl) (by kernel_rfl) (fun _ _ _ h => h) (by rfl) ?_ hSc ?_
  rotate_left
  · (intro W hSW; go_simp; try rfl)
  try simp only [Act.put, List.setIfInBounds_toArray, List.set_cons_zero, List.set_cons_succ]
  refine held_take 3 ?_ rfl (by kernel_rfl) (by kernel_rfl) (by kernel_rfl) (fun _ _ _ h => h) (by rfl) ?_ hSc ?_
  rotate_left
  · (intro W hSW; have k0 : W.cell? ⟨w.heap.size + 2, 3, none⟩ = some (.func (.func 55) #[] #[]) := hSW.r2.cell 3; go_simp; try rfl)
  try simp only [Act.put, List.setIfInBounds_toArray, List.set_cons_zero, List.set_cons_succ]
  refine held_next 6 rfl (by kernel_rfl) (by rfl) ?_
  go_simp
  refine (flippedWith_c _ p 3 x _ T2.out N2.out hx H2.out).mono ?_
  rintro e u2 ⟨v2, kk, rfl, gq, bq⟩
  have hS2 := hSc.step bq
  have RR := Lib.hid (RR.out.below bq RR.out.lt)
  have T2 := Lib.hid (T2.out.step bq)
  have N2 : Hid (∀ b, u2.heap.size ≤ b → N b ∧ b ≠ w.heap.size + 1) := Lib.hid fun b hb => N2.out b (Nat.le_trans bq.size hb)
  have H2 := Lib.hid gq
  clear hSc bq gq
  have hSc := hS2
  clear hS2
  refine ⟨fun W => Bx w w.heap.size 28 #[.int .u8 κ, .slice A n c, .slice A2 n2 c2, .slice A3 n3 c3] (w.heap.size + 2) 71 #[.nilFunc, .func (.func 54) #[] #[], .func (.func 55) #[] #[], .func (.func 55) #[] #[]] W, fun W hW => hW, hSc, ?_⟩
  try simp only [Act.put, List.setIfInBounds_toArray, List.set_cons_zero, List.set_cons_succ]
  refine held_next 7 rfl (by kernel_rfl) (by rfl) ?_
  go_simp
  refine (canonical_c v2 _ _ _ T2.out N2.out H2.out).mono ?_
  rintro e u3 ⟨v', rfl, gq, bq⟩
  obtain ⟨κ5, A5, n5, c5, A6, n6, c6, A7, n7, c7, rfl⟩ := gq.form
  have hS2 := hSc.step bq
  have RR := Lib.hid (RR.out.below bq RR.out.lt)
  have T2 := Lib.hid (T2.out.step bq)
  have N2 : Hid (∀ b, u3.heap.size ≤ b → N b ∧ b ≠ w.heap.size + 1) := Lib.hid fun b hb => N2.out b (Nat.le_trans bq.size hb)
  have G := Lib.hid gq
  clear hSc bq gq
  have hSc := hS2
  clear hS2
  refine ⟨fun W => Bx w w.heap.size 28 #[.int .u8 κ, .slice A n c, .slice A2 n2 c2, .slice A3 n3 c3] (w.heap.size + 2) 71 #[.nilFunc, .func (.func 54) #[] #[], .func (.func 55) #[] #[], .func (.func 55) #[] #[]] W, fun W hW => hW, hSc, ?_⟩
  try simp only [Act.put, List.setIfInBounds_toArray, List.set_cons_zero, List.set_cons_succ]
  have d0 : u3.cell? ⟨w.heap.size + 1, 0, none⟩ = some (.int .u8 0) := RR.out.cell 0
  have d1 : u3.cell? ⟨w.heap.size + 1, 1, none⟩ = some (.slice none 0 0) := RR.out.cell 1
  have d2 : u3.cell? ⟨w.heap.size + 1, 2, none⟩ = some (.slice none 0 0) := RR.out.cell 2
  have d3 : u3.cell? ⟨w.heap.size + 1, 3, none⟩ = some (.slice none 0 0) := RR.out.cell 3
  have e0 := RR.out.frozen 0
  have e1 := RR.out.frozen 1
  have e2 := RR.out.frozen 2
  have e3 := RR.out.frozen 3
  refine held_next 8 rfl (by kernel_rfl) (by rfl) ?_
  go_simp
  have S4 := set4 (a' := .int .u8 κ5) (b' := .slice A5 n5 c5) (c' := .slice A6 n6 c6) (d' := .slice A7 n7 c7) RR.out
  have hSd := hSc.stored S4.2 (by omega) (by omega) (by omega)
  have H5 := Lib.hid ((G.out.grown S4.2 (fun hh => hh.2 rfl)).mono fun b _ hn => hn.1)
  refine ⟨fun W => Bx w w.heap.size 28 #[.int .u8 κ, .slice A n c, .slice A2 n2 c2, .slice A3 n3 c3] (w.heap.size + 2) 71 #[.nilFunc, .func (.func 54) #[] #[], .func (.func 55) #[] #[], .func (.func 55) #[] #[]] W, fun W hW => hW, hSd, ?_⟩
  refine wpAnyH_done (by kernel_rfl) ?_ _
  go_wp2
  exact bodyPost_ret (ret_row rfl rfl S4.1) rfl ⟨_, rfl, H5.out, hSd.bel⟩

theorem with_c {N : Nat → Prop} (v : Value) (p : Nat → Bool) (k x : Nat) (w : World) (hT : Tb w) (hN : ∀ b, w.heap.size ≤ b → N b) (hx : x < 65536) (h : Cn N w v p k) :
    Calls Tryz.prog 19 #[v, .int .u16 x] w fun e w' => ∃ v', e = .returned v' ∧ Cn N w' v' (pls p x) (ck (pls p x)) ∧ Below w.heap.size w w' := by
  cases h with
  | arr κ A n c hκ hn h => exact with_1 κ A n c p x w hT hN hx hκ hn h
  | wrd A c h => exact with_2 _ p x w hT hN hx (.wrd A c h)
  | run A n c hn h => exact with_3 _ p x w hT hN hx (.run A n c hn h)
end Go.Proofs.YtfefmlnlicilbaaGreatDoor
/- Walks: OfArray. -/
namespace Go.Proofs.YtfefmlnlicilbaaGreatDoor
open Go.RowKit
set_option linter.unusedVariables false

theorem ofArray_no (v : Value) (l : List UInt16) (w : World) (hv : Gs e16 w 0 w.heap.size v l) (h : ris l = false) :
    Calls Tryz.prog 31 #[v] w fun e w' => e = .returned (.tuple #[.agg #[.int .u8 0, .slice none 0 0, .slice none 0 0, .slice none 0 0], .bool false]) ∧ Below w.heap.size w w' := by
  have HV := Lib.hid hv
  obtain ⟨A, c, rfl, -⟩ := hv
  have H := Lib.hid h
  have r0 := Row.new w 28 #[.int .u8 0, .slice none 0 0, .slice none 0 0, .slice none 0 0]
  have b0 := bx w (.cells #[.int .u8 0, .slice none 0 0, .slice none 0 0, .slice none 0 0] 28)
  clear h
  go_enter Tryz.func31, Tryz.ntmps31
  go_wp2_with fail
  generalize w.alloc (.cells #[.int .u8 0, .slice none 0 0, .slice none 0 0, .slice none 0 0] 28) = W0 at *
  have RR := Lib.hid r0
  have BB := Lib.hid b0
  clear r0 b0
  refine (may_any _ l 0 _ _ (HV.out.stp BB.out)).mono ?_
  rw [H.out]
  rintro e u1 ⟨rfl, m, rfl⟩
  have RR := Lib.hid (show Row (W0.drewN m) _ _ _ from RR.out)
  have BB := Lib.hid (below_drewN BB.out m)
  have d0 : (W0.drewN m).cell? ⟨w.heap.size, 0, none⟩ = some (.int .u8 0) := RR.out.cell 0
  have d1 : (W0.drewN m).cell? ⟨w.heap.size, 1, none⟩ = some (.slice none 0 0) := RR.out.cell 1
  have d2 : (W0.drewN m).cell? ⟨w.heap.size, 2, none⟩ = some (.slice none 0 0) := RR.out.cell 2
  have d3 : (W0.drewN m).cell? ⟨w.heap.size, 3, none⟩ = some (.slice none 0 0) := RR.out.cell 3
  have e0 := RR.out.frozen 0
  have e1 := RR.out.frozen 1
  have e2 := RR.out.frozen 2
  have e3 := RR.out.frozen 3
  go_wp2
  have S4 := set4 (a' := .int .u8 0) (b' := .slice none 0 0) (c' := .slice none 0 0) (d' := .slice none 0 0) RR.out
  have B5 := Lib.hid (BB.out.grown S4.2 BB.out.size (fun j e => by injection e with e; subst e; omega))
  exact bodyPost_ret (ret_row2 rfl rfl rfl S4.1) rfl ⟨rfl, B5.out⟩

theorem ofArray_yes {N : Nat → Prop} (v : Value) (l : List UInt16) (p : Nat → Bool) (w : World) (hN : ∀ b, w.heap.size ≤ b → N b) (hv : Gs e16 w 0 w.heap.size v l) (h : ris l = true) (hl : l.length ≤ 65536) (hp : ls p 65536 = l) :
    Calls Tryz.prog 31 #[v] w fun e w' => ∃ v', e = .returned (.tuple #[v', .bool true]) ∧ Cn N w' v' p 1 ∧ Below w.heap.size w w' := by
  have HV := Lib.hid hv
  obtain ⟨A, c, rfl, -⟩ := hv
  have H := Lib.hid h
  have HL := Lib.hid hl
  have NN := Lib.hid hN
  have HP := Lib.hid hp
  have r0 := Row.new w 28 #[.int .u8 0, .slice none 0 0, .slice none 0 0, .slice none 0 0]
  have b0 := bx w (.cells #[.int .u8 0, .slice none 0 0, .slice none 0 0, .slice none 0 0] 28)
  clear h hl hN hp
  go_enter Tryz.func31, Tryz.ntmps31
  go_wp2_with fail
  generalize w.alloc (.cells #[.int .u8 0, .slice none 0 0, .slice none 0 0, .slice none 0 0] 28) = W0 at *
  have lg := r0.lt
  have RR := Lib.hid r0
  have BB := Lib.hid b0
  clear r0 b0
  refine (may_any _ l 0 _ _ (HV.out.stp BB.out)).mono ?_
  rw [H.out]
  rintro e u1 ⟨rfl, m, rfl⟩
  have RR := Lib.hid (show Row (W0.drewN m) _ _ _ from RR.out)
  have BB := Lib.hid (below_drewN BB.out m)
  go_wp2_with fail
  refine (clone16_any _ l 0 _ (HV.out.stp BB.out) (Nat.le_trans HL.out (by omega))).mono ?_
  rintro e u2 ⟨v2, rfl, o2, b⟩
  obtain ⟨X, x, rfl, -⟩ := o2.sl
  have G := Lib.hid o2.sl
  have RR := Lib.hid (RR.out.below b RR.out.lt)
  have BB := Lib.hid (below_both BB.out b)
  clear b o2
  go_wp2_with fail
  refine (ofArray_v _ _ _ _).mono ?_
  rintro e u3 ⟨rfl, b⟩
  have G := Lib.hid (G.out.stp b)
  have RR := Lib.hid (RR.out.below b RR.out.lt)
  have BB := Lib.hid (below_both BB.out b)
  clear b
  have d0 : u3.cell? ⟨w.heap.size, 0, none⟩ = some (.int .u8 0) := RR.out.cell 0
  have d1 : u3.cell? ⟨w.heap.size, 1, none⟩ = some (.slice none 0 0) := RR.out.cell 1
  have d2 : u3.cell? ⟨w.heap.size, 2, none⟩ = some (.slice none 0 0) := RR.out.cell 2
  have d3 : u3.cell? ⟨w.heap.size, 3, none⟩ = some (.slice none 0 0) := RR.out.cell 3
  have e0 := RR.out.frozen 0
  have e1 := RR.out.frozen 1
  have e2 := RR.out.frozen 2
  have e3 := RR.out.frozen 3
  go_wp2
  have S4 := set4 (a' := .int .u8 1) (b' := .slice X l.length x) (c' := .slice none 0 0) (d' := .slice none 0 0) RR.out
  have B5 := Lib.hid (BB.out.grown S4.2 BB.out.size (fun j e => by injection e with e; subst e; omega))
  have hsz : W0.heap.size ≤ (W0.drewN m).heap.size := Nat.le_refl _
  have G5 := G.out.grown S4.2 (Nat.le_refl _) (fun j e => by injection e with e; subst e; exact .inl (by omega))
  rw [← HP.out] at G5
  have hc : ct p 65536 = l.length := by rw [← ls_ct, HP.out]
  rw [ls_ct, hc] at G5
  exact bodyPost_ret (ret_row2 rfl rfl rfl S4.1) rfl ⟨_, rfl, Cn.arr 1 _ _ _ (.inr rfl) hc (Gp.of G5 S4.2.size (fun b hb _ => NN.out b (by omega))), B5.out⟩
end Go.Proofs.YtfefmlnlicilbaaGreatDoor
/- Walks: what is known of containers. -/
namespace Go.Proofs.YtfefmlnlicilbaaGreatDoor
open Go.RowKit
set_option linter.unusedVariables false

def anyN (b : Nat) : Prop := True
theorem anyN_all (n : Nat) : ∀ b, n ≤ b → anyN b := fun _ _ => trivial
def kA : Nat → Bool := mk [1, 2, 3]
def kB : Nat → Bool := mk [1, 2, 3, 4]
def kZ : Nat → Bool := fun _ => false
def kO : Nat → Bool := fun _ => true
theorem kA_ris : ris [1, 2, 3] = true := by decide
theorem kB_ris : ris [1, 2, 3, 4] = true := by decide
theorem kA_ls : ls kA 65536 = [1, 2, 3] := ls_mk kA_ris
theorem kA_ct : ct kA 65536 = 3 := ct_mk kA_ris
theorem kB_ct : ct kB 65536 = 4 := ct_mk kB_ris
theorem kA_hm : ct (hm kA) 65536 = 1 := (hm_mk kA_ris).trans (by decide)
theorem kB_hm : ct (hm kB) 65536 = 1 := (hm_mk kB_ris).trans (by decide)
theorem kO_ct : ct kO 65536 = 65536 := ct_all fun _ _ => rfl
theorem one_ct (n : Nat) : ct (fun i => decide (i = 0)) (n + 1) = 1 := by
  induction n with
  | zero => rfl
  | succ n ih => rw [ct, ih]; simp
theorem kO_hm : ct (hm kO) 65536 = 1 := by
  rw [show (65536 : Nat) = 65535 + 1 from rfl, ct_ext (q := fun i => decide (i = 0)) fun j _ => by simp [hm, kO]]
  exact one_ct _
theorem kA_ck : ck kA = 1 := by unfold ck; rw [kA_ct, kA_hm]; rfl
theorem kB_ck : ck kB = 3 := by unfold ck; rw [kB_ct, kB_hm]; rfl
theorem kO_ck : ck kO = 3 := by unfold ck; rw [kO_ct, kO_hm]; rfl
theorem kB_pls : pls kA 4 = kB := by
  funext i
  simp only [pls, kA, kB, mk, List.any_cons, List.any_nil, Bool.or_false]
  by_cases h : i = 4
  · subst h; decide
  · rw [decide_eq_false h]
    have : decide ((4 : UInt16).toNat = i) = false := decide_eq_false fun e => h e.symm
    rw [this]; simp
theorem kO_flp : flp kZ 0 65536 = fun x => flp kZ 0 65536 x := rfl
theorem kO_ext : ∀ x, x < 65536 → flp kZ 0 65536 x = kO x := fun x hx => flp_all kZ x hx
theorem kO_ck2 : ck (flp kZ 0 65536) = 3 := (ck_ext kO_ext).trans kO_ck
theorem kA_sz : szn 1 (ct kA 65536) (ct (hm kA) 65536) = 6 := by rw [kA_ct, kA_hm]; rfl
theorem kB_sz : szn 3 (ct kB 65536) (ct (hm kB) 65536) = 6 := by rw [kB_ct, kB_hm]; rfl
theorem kO_sz : szn 3 (ct kO 65536) (ct (hm kO) 65536) = 6 := by rw [kO_ct, kO_hm]; rfl
section
variable (v : Value) (w : World)
theorem k_of (hv : Gs e16 w 0 w.heap.size v [1, 2, 3]) : Calls Tryz.prog 31 #[v] w fun e w' => ∃ κ A n c A2 n2 c2 A3 n3 c3, e = .returned (.tuple #[.agg #[.int .u8 κ, .slice A n c, .slice A2 n2 c2, .slice A3 n3 c3], .bool true]) ∧ Cn anyN w' (.agg #[.int .u8 κ, .slice A n c, .slice A2 n2 c2, .slice A3 n3 c3]) kA 1 ∧ Below w.heap.size w w' := by
  refine (ofArray_yes v _ kA w (anyN_all _) hv kA_ris (by simp) kA_ls).mono ?_
  rintro e w' ⟨v', rfl, g, b⟩
  obtain ⟨κ, A, n, c, A2, n2, c2, A3, n3, c3, rfl⟩ := g.form
  exact ⟨_, _, _, _, _, _, _, _, _, _, rfl, g, b⟩
theorem k_no (hv : Gs e16 w 0 w.heap.size v [2, 1]) : Calls Tryz.prog 31 #[v] w fun e w' => e = .returned (.tuple #[.agg #[.int .u8 0, .slice none 0 0, .slice none 0 0, .slice none 0 0], .bool false]) ∧ Below w.heap.size w w' :=
  ofArray_no v _ w hv (by decide)
theorem k_with (hT : Tb w) (h : Cn anyN w v kA 1) : Calls Tryz.prog 19 #[v, .int .u16 4] w fun e w' => ∃ κ A n c A2 n2 c2 A3 n3 c3, e = .returned (.agg #[.int .u8 κ, .slice A n c, .slice A2 n2 c2, .slice A3 n3 c3]) ∧ Cn anyN w' (.agg #[.int .u8 κ, .slice A n c, .slice A2 n2 c2, .slice A3 n3 c3]) kB 3 ∧ Below w.heap.size w w' := by
  refine (with_c v kA 1 4 w hT (anyN_all _) (by omega) h).mono ?_
  rintro e w' ⟨v', rfl, g, b⟩
  obtain ⟨κ, A, n, c, A2, n2, c2, A3, n3, c3, rfl⟩ := g.form
  rw [kB_pls, kB_ck] at g
  exact ⟨_, _, _, _, _, _, _, _, _, _, rfl, g, b⟩
theorem k_flip (hT : Tb w) (h : Cn anyN w v kZ 1) : Calls Tryz.prog 18 #[v, .int .i64 0, .int .i64 65536] w fun e w' => ∃ κ A n c A2 n2 c2 A3 n3 c3, e = .returned (.agg #[.int .u8 κ, .slice A n c, .slice A2 n2 c2, .slice A3 n3 c3]) ∧ Cn anyN w' (.agg #[.int .u8 κ, .slice A n c, .slice A2 n2 c2, .slice A3 n3 c3]) kO 3 ∧ Below w.heap.size w w' := by
  refine (flip_c v kZ 1 0 65536 w hT (anyN_all _) h).mono ?_
  rintro e w' ⟨v', rfl, g, b⟩
  obtain ⟨κ, A, n, c, A2, n2, c2, A3, n3, c3, rfl⟩ := g.form
  rw [kO_ck2] at g
  exact ⟨_, _, _, _, _, _, _, _, _, _, rfl, g.ext kO_ext, b⟩
theorem k_can (hT : Tb w) (h : Cn anyN w v kA 1) : Calls Tryz.prog 32 #[v] w fun e w' => ∃ v', e = .returned v' ∧ Cn anyN w' v' kA 1 ∧ Below w.heap.size w w' := by
  have := canonical_c v kA 1 w hT (anyN_all _) h
  rw [kA_ck] at this
  exact this
theorem k_kind {p : Nat → Bool} {k : Nat} (h : Cn anyN w v p k) (z : Int) (hz : (k : Int) = z) : Calls Tryz.prog 13 #[v] w fun e w' => e = .returned (.int .u8 z) ∧ Below w.heap.size w w' := by
  rw [← hz]; exact kind_c v p k w h
theorem k_size {p : Nat → Bool} {k m : Nat} (h : Cn anyN w v p k) (hm2 : szn k (ct p 65536) (ct (hm p) 65536) = m) (z : Int) (hz : (m : Int) = z) : Calls Tryz.prog 26 #[v] w fun e w' => e = .returned (.int .i64 z) ∧ Below w.heap.size w w' := by
  rw [← hz]; exact sizeOf_c v p k m w h hm2
theorem k_len {p : Nat → Bool} {k m : Nat} (h : Cn anyN w v p k) (hm2 : ct p 65536 = m) (z : Int) (hz : (m : Int) = z) : Calls Tryz.prog 25 #[v] w fun e w' => e = .returned (.int .i64 z) ∧ Below w.heap.size w w' := by
  rw [← hz]; exact len_c v p k m w hm2 h
end

set_option maxHeartbeats 4000000 in
theorem known_any (w : World) (hT : Tb w) : Calls Tryz.prog 6 #[] w fun e w' => e = .returned (.bool true) ∧ Below w.heap.size w w' := by
  have TT := Lib.hid hT
  have L0 := lit16 w [1, 2, 3] #[.int .u16 1, .int .u16 2, .int .u16 3] 3 (by rfl) rfl (by omega)
  have b0 := bx w (.cells #[.int .u16 1, .int .u16 2, .int .u16 3] 23)
  clear hT
  go_enter Tryz.func6, Tryz.ntmps6
  go_wp2_with fail
  generalize w.alloc (.cells #[.int .u16 1, .int .u16 2, .int .u16 3] 23) = W0 at *
  have TT := Lib.hid (TT.out.step b0)
  have BB := Lib.hid b0
  have G0 := Lib.hid L0
  clear b0 L0
  refine (k_of _ _ G0.out).mono ?_
  rintro e u1 ⟨κa, Aa, na, ca, Ba, ma, da, Da, qa, ea, rfl, g, b⟩
  have TT := Lib.hid (TT.out.step b)
  have BB := Lib.hid (below_both BB.out b)
  have CA := Lib.hid (g)
  clear g b G0
  go_wp2_with fail
  have rz := Row.new u1 28 #[.int .u8 κa, .slice Aa na ca, .slice Ba ma da, .slice Da qa ea]
  have bz := bx u1 (.cells #[.int .u8 κa, .slice Aa na ca, .slice Ba ma da, .slice Da qa ea] 28)
  generalize u1.alloc (.cells #[.int .u8 κa, .slice Aa na ca, .slice Ba ma da, .slice Da qa ea] 28) = u2 at *
  have TT := Lib.hid (TT.out.step bz)
  have BB := Lib.hid (below_both BB.out bz)
  have CA := Lib.hid (CA.out.step bz)
  have RA := Lib.hid rz
  clear rz bz
  refine (k_with _ _ TT.out CA.out).mono ?_
  rintro e u3 ⟨κb, Ab, nb, cb, Bb, mb, db, Db, qb, eb, rfl, g, b⟩
  have TT := Lib.hid (TT.out.step b)
  have BB := Lib.hid (below_both BB.out b)
  have CA := Lib.hid (CA.out.step b)
  have RA := Lib.hid (RA.out.below b RA.out.lt)
  have CB := Lib.hid (g)
  clear g b
  go_wp2_with fail
  have lz := lit16 (u3.alloc (.cells #[.int .u8 κb, .slice Ab nb cb, .slice Bb mb db, .slice Db qb eb] 28)) [2, 1] #[.int .u16 2, .int .u16 1] 2 (by rfl) rfl (by omega)
  have hs3 : (u3.alloc (.cells #[.int .u8 κb, .slice Ab nb cb, .slice Bb mb db, .slice Db qb eb] 28)).heap.size = u3.heap.size + 1 := by simp
  rw [hs3] at lz
  have rz := Row.new u3 28 #[.int .u8 κb, .slice Ab nb cb, .slice Bb mb db, .slice Db qb eb]
  have bz := bx u3 (.cells #[.int .u8 κb, .slice Ab nb cb, .slice Bb mb db, .slice Db qb eb] 28)
  generalize u3.alloc (.cells #[.int .u8 κb, .slice Ab nb cb, .slice Bb mb db, .slice Db qb eb] 28) = u4 at *
  have TT := Lib.hid (TT.out.step bz)
  have BB := Lib.hid (below_both BB.out bz)
  have CA := Lib.hid (CA.out.step bz)
  have RA := Lib.hid (RA.out.below bz RA.out.lt)
  have CB := Lib.hid (CB.out.step bz)
  have RB := Lib.hid rz
  clear rz bz
  have bz := bx u4 (.cells #[.int .u16 2, .int .u16 1] 23)
  generalize u4.alloc (.cells #[.int .u16 2, .int .u16 1] 23) = u5 at *
  have TT := Lib.hid (TT.out.step bz)
  have BB := Lib.hid (below_both BB.out bz)
  have CA := Lib.hid (CA.out.step bz)
  have RA := Lib.hid (RA.out.below bz RA.out.lt)
  have CB := Lib.hid (CB.out.step bz)
  have RB := Lib.hid (RB.out.below bz RB.out.lt)
  clear bz
  refine (k_no _ _ lz).mono ?_
  rintro e u6 ⟨rfl, b⟩
  have TT := Lib.hid (TT.out.step b)
  have BB := Lib.hid (below_both BB.out b)
  have CA := Lib.hid (CA.out.step b)
  have RA := Lib.hid (RA.out.below b RA.out.lt)
  have CB := Lib.hid (CB.out.step b)
  have RB := Lib.hid (RB.out.below b RB.out.lt)
  clear b lz
  go_wp2_with fail
  have hs6 : (u6.alloc (.cells #[.int .u8 0, .slice none 0 0, .slice none 0 0, .slice none 0 0] 28)).heap.size = u6.heap.size + 1 := by simp
  have bz := bx u6 (.cells #[.int .u8 0, .slice none 0 0, .slice none 0 0, .slice none 0 0] 28)
  generalize u6.alloc (.cells #[.int .u8 0, .slice none 0 0, .slice none 0 0, .slice none 0 0] 28) = u7 at *
  have TT := Lib.hid (TT.out.step bz)
  have BB := Lib.hid (below_both BB.out bz)
  have CA := Lib.hid (CA.out.step bz)
  have RA := Lib.hid (RA.out.below bz RA.out.lt)
  have CB := Lib.hid (CB.out.step bz)
  have RB := Lib.hid (RB.out.below bz RB.out.lt)
  clear bz
  have rz := Row.new u7 28 #[.int .u8 0, .slice none 0 0, .slice none 0 0, .slice none 0 0]
  have bz := bx u7 (.cells #[.int .u8 0, .slice none 0 0, .slice none 0 0, .slice none 0 0] 28)
  generalize u7.alloc (.cells #[.int .u8 0, .slice none 0 0, .slice none 0 0, .slice none 0 0] 28) = u8 at *
  have TT := Lib.hid (TT.out.step bz)
  have BB := Lib.hid (below_both BB.out bz)
  have CA := Lib.hid (CA.out.step bz)
  have RA := Lib.hid (RA.out.below bz RA.out.lt)
  have CB := Lib.hid (CB.out.step bz)
  have RB := Lib.hid (RB.out.below bz RB.out.lt)
  have RZ := Lib.hid rz
  clear rz bz
  have RZ := RZ.out
  rw [hs6] at RZ
  have RZ := Lib.hid RZ
  clear hs6 hs3
  refine (k_flip _ _ TT.out (Cn.zero fun _ _ => rfl)).mono ?_
  rintro e u9 ⟨κt, At, nt, ct, Bt, mt, dt, Dt, qt, et, rfl, g, b⟩
  have TT := Lib.hid (TT.out.step b)
  have BB := Lib.hid (below_both BB.out b)
  have CA := Lib.hid (CA.out.step b)
  have RA := Lib.hid (RA.out.below b RA.out.lt)
  have CB := Lib.hid (CB.out.step b)
  have RB := Lib.hid (RB.out.below b RB.out.lt)
  have RZ := Lib.hid (RZ.out.below b RZ.out.lt)
  have CO := Lib.hid (g)
  clear g b
  have RAc0 : (u9.alloc (.cells #[.int .u8 κt, .slice At nt ct, .slice Bt mt dt, .slice Dt qt et] 28)).cell? ⟨u1.heap.size, 0, none⟩ = some (.int .u8 κa) := (RA.out.alloc _).cell 0
  have RAc1 : (u9.alloc (.cells #[.int .u8 κt, .slice At nt ct, .slice Bt mt dt, .slice Dt qt et] 28)).cell? ⟨u1.heap.size, 1, none⟩ = some (.slice Aa na ca) := (RA.out.alloc _).cell 1
  have RAc2 : (u9.alloc (.cells #[.int .u8 κt, .slice At nt ct, .slice Bt mt dt, .slice Dt qt et] 28)).cell? ⟨u1.heap.size, 2, none⟩ = some (.slice Ba ma da) := (RA.out.alloc _).cell 2
  have RAc3 : (u9.alloc (.cells #[.int .u8 κt, .slice At nt ct, .slice Bt mt dt, .slice Dt qt et] 28)).cell? ⟨u1.heap.size, 3, none⟩ = some (.slice Da qa ea) := (RA.out.alloc _).cell 3
  go_wp2_with fail
  clear RAc0 RAc1 RAc2 RAc3
  have rz := Row.new u9 28 #[.int .u8 κt, .slice At nt ct, .slice Bt mt dt, .slice Dt qt et]
  have bz := bx u9 (.cells #[.int .u8 κt, .slice At nt ct, .slice Bt mt dt, .slice Dt qt et] 28)
  generalize u9.alloc (.cells #[.int .u8 κt, .slice At nt ct, .slice Bt mt dt, .slice Dt qt et] 28) = u10 at *
  have TT := Lib.hid (TT.out.step bz)
  have BB := Lib.hid (below_both BB.out bz)
  have CA := Lib.hid (CA.out.step bz)
  have RA := Lib.hid (RA.out.below bz RA.out.lt)
  have CB := Lib.hid (CB.out.step bz)
  have RB := Lib.hid (RB.out.below bz RB.out.lt)
  have RZ := Lib.hid (RZ.out.below bz RZ.out.lt)
  have CO := Lib.hid (CO.out.step bz)
  have RO := Lib.hid rz
  clear rz bz
  refine (k_can _ _ TT.out CA.out).mono ?_
  rintro e u11 ⟨vc, rfl, gc, b⟩
  have TT := Lib.hid (TT.out.step b)
  have BB := Lib.hid (below_both BB.out b)
  have CA := Lib.hid (CA.out.step b)
  have RA := Lib.hid (RA.out.below b RA.out.lt)
  have CB := Lib.hid (CB.out.step b)
  have RB := Lib.hid (RB.out.below b RB.out.lt)
  have RZ := Lib.hid (RZ.out.below b RZ.out.lt)
  have CO := Lib.hid (CO.out.step b)
  have RO := Lib.hid (RO.out.below b RO.out.lt)
  have CC := Lib.hid (gc)
  clear gc
  clear b
  go_wp2_with fail
  refine (k_kind _ _ CC.out 1 rfl).mono ?_
  rintro e u12 ⟨rfl, b⟩
  have TT := Lib.hid (TT.out.step b)
  have BB := Lib.hid (below_both BB.out b)
  have CA := Lib.hid (CA.out.step b)
  have RA := Lib.hid (RA.out.below b RA.out.lt)
  have CB := Lib.hid (CB.out.step b)
  have RB := Lib.hid (RB.out.below b RB.out.lt)
  have RZ := Lib.hid (RZ.out.below b RZ.out.lt)
  have CO := Lib.hid (CO.out.step b)
  have RO := Lib.hid (RO.out.below b RO.out.lt)
  have CC := Lib.hid (CC.out.step b)
  clear b
  have RAc0 : u12.cell? ⟨u1.heap.size, 0, none⟩ = some (.int .u8 κa) := RA.out.cell 0
  have RAc1 : u12.cell? ⟨u1.heap.size, 1, none⟩ = some (.slice Aa na ca) := RA.out.cell 1
  have RAc2 : u12.cell? ⟨u1.heap.size, 2, none⟩ = some (.slice Ba ma da) := RA.out.cell 2
  have RAc3 : u12.cell? ⟨u1.heap.size, 3, none⟩ = some (.slice Da qa ea) := RA.out.cell 3
  go_wp2_with fail
  clear RAc0 RAc1 RAc2 RAc3
  refine (k_size _ _ CA.out kA_sz 6 rfl).mono ?_
  rintro e u13 ⟨rfl, b⟩
  have TT := Lib.hid (TT.out.step b)
  have BB := Lib.hid (below_both BB.out b)
  have CA := Lib.hid (CA.out.step b)
  have RA := Lib.hid (RA.out.below b RA.out.lt)
  have CB := Lib.hid (CB.out.step b)
  have RB := Lib.hid (RB.out.below b RB.out.lt)
  have RZ := Lib.hid (RZ.out.below b RZ.out.lt)
  have CO := Lib.hid (CO.out.step b)
  have RO := Lib.hid (RO.out.below b RO.out.lt)
  have CC := Lib.hid (CC.out.step b)
  clear b
  have RBc0 : u13.cell? ⟨u3.heap.size, 0, none⟩ = some (.int .u8 κb) := RB.out.cell 0
  have RBc1 : u13.cell? ⟨u3.heap.size, 1, none⟩ = some (.slice Ab nb cb) := RB.out.cell 1
  have RBc2 : u13.cell? ⟨u3.heap.size, 2, none⟩ = some (.slice Bb mb db) := RB.out.cell 2
  have RBc3 : u13.cell? ⟨u3.heap.size, 3, none⟩ = some (.slice Db qb eb) := RB.out.cell 3
  go_wp2_with fail
  clear RBc0 RBc1 RBc2 RBc3
  refine (k_kind _ _ CB.out 3 rfl).mono ?_
  rintro e u14 ⟨rfl, b⟩
  have TT := Lib.hid (TT.out.step b)
  have BB := Lib.hid (below_both BB.out b)
  have CA := Lib.hid (CA.out.step b)
  have RA := Lib.hid (RA.out.below b RA.out.lt)
  have CB := Lib.hid (CB.out.step b)
  have RB := Lib.hid (RB.out.below b RB.out.lt)
  have RZ := Lib.hid (RZ.out.below b RZ.out.lt)
  have CO := Lib.hid (CO.out.step b)
  have RO := Lib.hid (RO.out.below b RO.out.lt)
  have CC := Lib.hid (CC.out.step b)
  clear b
  have RBc0 : u14.cell? ⟨u3.heap.size, 0, none⟩ = some (.int .u8 κb) := RB.out.cell 0
  have RBc1 : u14.cell? ⟨u3.heap.size, 1, none⟩ = some (.slice Ab nb cb) := RB.out.cell 1
  have RBc2 : u14.cell? ⟨u3.heap.size, 2, none⟩ = some (.slice Bb mb db) := RB.out.cell 2
  have RBc3 : u14.cell? ⟨u3.heap.size, 3, none⟩ = some (.slice Db qb eb) := RB.out.cell 3
  go_wp2_with fail
  clear RBc0 RBc1 RBc2 RBc3
  refine (k_size _ _ CB.out kB_sz 6 rfl).mono ?_
  rintro e u15 ⟨rfl, b⟩
  have TT := Lib.hid (TT.out.step b)
  have BB := Lib.hid (below_both BB.out b)
  have CA := Lib.hid (CA.out.step b)
  have RA := Lib.hid (RA.out.below b RA.out.lt)
  have CB := Lib.hid (CB.out.step b)
  have RB := Lib.hid (RB.out.below b RB.out.lt)
  have RZ := Lib.hid (RZ.out.below b RZ.out.lt)
  have CO := Lib.hid (CO.out.step b)
  have RO := Lib.hid (RO.out.below b RO.out.lt)
  have CC := Lib.hid (CC.out.step b)
  clear b
  have RBc0 : u15.cell? ⟨u3.heap.size, 0, none⟩ = some (.int .u8 κb) := RB.out.cell 0
  have RBc1 : u15.cell? ⟨u3.heap.size, 1, none⟩ = some (.slice Ab nb cb) := RB.out.cell 1
  have RBc2 : u15.cell? ⟨u3.heap.size, 2, none⟩ = some (.slice Bb mb db) := RB.out.cell 2
  have RBc3 : u15.cell? ⟨u3.heap.size, 3, none⟩ = some (.slice Db qb eb) := RB.out.cell 3
  go_wp2_with fail
  clear RBc0 RBc1 RBc2 RBc3
  refine (k_len _ _ CB.out kB_ct 4 rfl).mono ?_
  rintro e u16 ⟨rfl, b⟩
  have TT := Lib.hid (TT.out.step b)
  have BB := Lib.hid (below_both BB.out b)
  have CA := Lib.hid (CA.out.step b)
  have RA := Lib.hid (RA.out.below b RA.out.lt)
  have CB := Lib.hid (CB.out.step b)
  have RB := Lib.hid (RB.out.below b RB.out.lt)
  have RZ := Lib.hid (RZ.out.below b RZ.out.lt)
  have CO := Lib.hid (CO.out.step b)
  have RO := Lib.hid (RO.out.below b RO.out.lt)
  have CC := Lib.hid (CC.out.step b)
  clear b
  have ROc0 : u16.cell? ⟨u9.heap.size, 0, none⟩ = some (.int .u8 κt) := RO.out.cell 0
  have ROc1 : u16.cell? ⟨u9.heap.size, 1, none⟩ = some (.slice At nt ct) := RO.out.cell 1
  have ROc2 : u16.cell? ⟨u9.heap.size, 2, none⟩ = some (.slice Bt mt dt) := RO.out.cell 2
  have ROc3 : u16.cell? ⟨u9.heap.size, 3, none⟩ = some (.slice Dt qt et) := RO.out.cell 3
  go_wp2_with fail
  clear ROc0 ROc1 ROc2 ROc3
  refine (k_kind _ _ CO.out 3 rfl).mono ?_
  rintro e u17 ⟨rfl, b⟩
  have TT := Lib.hid (TT.out.step b)
  have BB := Lib.hid (below_both BB.out b)
  have CA := Lib.hid (CA.out.step b)
  have RA := Lib.hid (RA.out.below b RA.out.lt)
  have CB := Lib.hid (CB.out.step b)
  have RB := Lib.hid (RB.out.below b RB.out.lt)
  have RZ := Lib.hid (RZ.out.below b RZ.out.lt)
  have CO := Lib.hid (CO.out.step b)
  have RO := Lib.hid (RO.out.below b RO.out.lt)
  have CC := Lib.hid (CC.out.step b)
  clear b
  have ROc0 : u17.cell? ⟨u9.heap.size, 0, none⟩ = some (.int .u8 κt) := RO.out.cell 0
  have ROc1 : u17.cell? ⟨u9.heap.size, 1, none⟩ = some (.slice At nt ct) := RO.out.cell 1
  have ROc2 : u17.cell? ⟨u9.heap.size, 2, none⟩ = some (.slice Bt mt dt) := RO.out.cell 2
  have ROc3 : u17.cell? ⟨u9.heap.size, 3, none⟩ = some (.slice Dt qt et) := RO.out.cell 3
  go_wp2_with fail
  clear ROc0 ROc1 ROc2 ROc3
  refine (k_size _ _ CO.out kO_sz 6 rfl).mono ?_
  rintro e u18 ⟨rfl, b⟩
  have TT := Lib.hid (TT.out.step b)
  have BB := Lib.hid (below_both BB.out b)
  have CA := Lib.hid (CA.out.step b)
  have RA := Lib.hid (RA.out.below b RA.out.lt)
  have CB := Lib.hid (CB.out.step b)
  have RB := Lib.hid (RB.out.below b RB.out.lt)
  have RZ := Lib.hid (RZ.out.below b RZ.out.lt)
  have CO := Lib.hid (CO.out.step b)
  have RO := Lib.hid (RO.out.below b RO.out.lt)
  have CC := Lib.hid (CC.out.step b)
  clear b
  have ROc0 : u18.cell? ⟨u9.heap.size, 0, none⟩ = some (.int .u8 κt) := RO.out.cell 0
  have ROc1 : u18.cell? ⟨u9.heap.size, 1, none⟩ = some (.slice At nt ct) := RO.out.cell 1
  have ROc2 : u18.cell? ⟨u9.heap.size, 2, none⟩ = some (.slice Bt mt dt) := RO.out.cell 2
  have ROc3 : u18.cell? ⟨u9.heap.size, 3, none⟩ = some (.slice Dt qt et) := RO.out.cell 3
  go_wp2_with fail
  clear ROc0 ROc1 ROc2 ROc3
  refine (k_len _ _ CO.out kO_ct 65536 rfl).mono ?_
  rintro e u19 ⟨rfl, b⟩
  have TT := Lib.hid (TT.out.step b)
  have BB := Lib.hid (below_both BB.out b)
  have CA := Lib.hid (CA.out.step b)
  have RA := Lib.hid (RA.out.below b RA.out.lt)
  have CB := Lib.hid (CB.out.step b)
  have RB := Lib.hid (RB.out.below b RB.out.lt)
  have RZ := Lib.hid (RZ.out.below b RZ.out.lt)
  have CO := Lib.hid (CO.out.step b)
  have RO := Lib.hid (RO.out.below b RO.out.lt)
  have CC := Lib.hid (CC.out.step b)
  clear b
  have RZc0 : u19.cell? ⟨u6.heap.size + 1, 0, none⟩ = some (.int .u8 0) := RZ.out.cell 0
  have RZc1 : u19.cell? ⟨u6.heap.size + 1, 1, none⟩ = some (.slice none 0 0) := RZ.out.cell 1
  have RZc2 : u19.cell? ⟨u6.heap.size + 1, 2, none⟩ = some (.slice none 0 0) := RZ.out.cell 2
  have RZc3 : u19.cell? ⟨u6.heap.size + 1, 3, none⟩ = some (.slice none 0 0) := RZ.out.cell 3
  go_wp2_with fail
  clear RZc0 RZc1 RZc2 RZc3
  refine (k_kind _ _ (Cn.zero (p := kZ) fun _ _ => rfl) 1 rfl).mono ?_
  rintro e u20 ⟨rfl, b⟩
  have TT := Lib.hid (TT.out.step b)
  have BB := Lib.hid (below_both BB.out b)
  have CA := Lib.hid (CA.out.step b)
  have RA := Lib.hid (RA.out.below b RA.out.lt)
  have CB := Lib.hid (CB.out.step b)
  have RB := Lib.hid (RB.out.below b RB.out.lt)
  have RZ := Lib.hid (RZ.out.below b RZ.out.lt)
  have CO := Lib.hid (CO.out.step b)
  have RO := Lib.hid (RO.out.below b RO.out.lt)
  have CC := Lib.hid (CC.out.step b)
  clear b
  go_wp2
  go_ret
  exact ⟨rfl, BB.out⟩
end Go.Proofs.YtfefmlnlicilbaaGreatDoor
/- A region that draws its order: three operations may come up; facts of containers while blocks are made. -/
namespace Go.Proofs.YtfefmlnlicilbaaGreatDoor
open Go.RowKit
set_option linter.unusedVariables false

section
variable {P : Program} {ops : Array Oper} {Q : Exit → Act → World → Prop} {md : Region.Mode} {S S' : World → Prop}
/-- Three operations may come up: whichever does is carried out. -/
theorem held_three (i j k : Nat) {oi oj ok : Oper} {ri rj rk : List Oper} {fuel : Nat} {listed : Array Bool} {a : Act} {w : World} (hi : ops.toList.drop i = oi :: ri) (hj : ops.toList.drop j = oj :: rj) (hk : ops.toList.drop k = ok :: rk) (hr : Region.ready md ops listed = [i, j, k])
    (hwi : Region.wanted oi (yielded ops a.tmps) = true) (hwj : Region.wanted oj (yielded ops a.tmps) = true) (hwk : Region.wanted ok (yielded ops a.tmps) = true)
    (h1 : Oper.wp P oi a w (fun a' w' => ∃ S' : World → Prop, (∀ W, S' W → S W) ∧ S' w' ∧ wpAnyH P md ops Q S' fuel (listed.setIfInBounds i true) a' w') Q)
    (h2 : Oper.wp P oj a w (fun a' w' => ∃ S' : World → Prop, (∀ W, S' W → S W) ∧ S' w' ∧ wpAnyH P md ops Q S' fuel (listed.setIfInBounds j true) a' w') Q)
    (h3 : Oper.wp P ok a w (fun a' w' => ∃ S' : World → Prop, (∀ W, S' W → S W) ∧ S' w' ∧ wpAnyH P md ops Q S' fuel (listed.setIfInBounds k true) a' w') Q) : wpAnyH P md ops Q S (fuel + 1) listed a w := by
  refine wpAnyH_ready hr (by simp) (AllReadyH.cons (op_at hi) (fun K' hK => ?_) (AllReadyH.cons (op_at hj) (fun K' hK => ?_) (AllReadyH.cons (op_at hk) (fun K' hK => ?_) AllReadyH.nil)))
  · rw [if_pos hwi]
    exact Oper.wp_mono (fun a' w' ⟨S', h1, h2, h3⟩ => hK.out a' w' (h1 _ h2) (fun _ => held_mono h1 _ _ _ _ h3)) h1
  · rw [if_pos hwj]
    exact Oper.wp_mono (fun a' w' ⟨S', h1, h2, h3⟩ => hK.out a' w' (h1 _ h2) (fun _ => held_mono h1 _ _ _ _ h3)) h2
  · rw [if_pos hwk]
    exact Oper.wp_mono (fun a' w' ⟨S', h1, h2, h3⟩ => hK.out a' w' (h1 _ h2) (fun _ => held_mono h1 _ _ _ _ h3)) h3
end

/-- Blocks that rows do not lie in. -/
def Nn (gs : List Nat) (b : Nat) : Prop := ∀ g ∈ gs, b ≠ g
/-- All of them have been made since w0, each once. -/
def Nl (w0 : World) (gs : List Nat) (w : World) : Prop := (∀ g ∈ gs, w0.heap.size ≤ g ∧ g < w.heap.size) ∧ gs.Nodup
section
variable {w0 : World} {gs : List Nat} {w w' : World} {v : Value} {p : Nat → Bool} {k : Nat}
theorem Nl.nil_ (w0 w : World) : Nl w0 [] w := ⟨fun g h => absurd h List.not_mem_nil, List.nodup_nil⟩
theorem Nl.all (h : Nl w0 gs w) : ∀ b, w.heap.size ≤ b → Nn gs b := fun b hb g hg => by have := (h.1 g hg).2; omega
theorem Nl.le (h : Nl w0 gs w) (hs : w.heap.size ≤ w'.heap.size) : Nl w0 gs w' := ⟨fun g hg => ⟨(h.1 g hg).1, Nat.lt_of_lt_of_le (h.1 g hg).2 hs⟩, h.2⟩
theorem Nl.new (h : Nl w0 gs w) (h0 : w0.heap.size ≤ w.heap.size) (hs : w.heap.size < w'.heap.size) : Nl w0 (w.heap.size :: gs) w' := by
  refine ⟨fun g hg => ?_, List.nodup_cons.2 ⟨fun hm => Nat.lt_irrefl _ (h.1 _ hm).2, h.2⟩⟩
  rcases List.mem_cons.1 hg with e | e
  · rw [e]; exact ⟨h0, hs⟩
  · exact ⟨(h.1 g e).1, Nat.lt_trans (h.1 g e).2 hs⟩
/-- What was there already. -/
theorem Cn.old {N : Nat → Prop} (h : Cn N w0 v p k) (b : Below w0.heap.size w0 w) (hl : Nl w0 gs w) : Cn (Nn gs) w v p k :=
  (h.mono (N' := Nn gs) fun x hx _ g hg => by have := (hl.1 g hg).1; omega).step b
/-- A block is made: no row lies in it. -/
theorem Cn.made (h : Cn (Nn gs) w v p k) (b : Below w.heap.size w w') : Cn (Nn (w.heap.size :: gs)) w' v p k :=
  (h.mono (N' := Nn (w.heap.size :: gs)) fun x hx hn g hg => by
    rcases List.mem_cons.1 hg with e | e
    · rw [e]; omega
    · exact hn g e).step b
theorem Cn.put {g : Nat} (h : Cn (Nn gs) w v p k) (hg : w.grownBy w' (some g)) (hm : g ∈ gs) : Cn (Nn gs) w' v p k := h.grown hg (fun hn => hn g hm rfl)
end
end Go.Proofs.YtfefmlnlicilbaaGreatDoor
namespace Go.Proofs.YtfefmlnlicilbaaGreatDoor
open Go.ChangeShapes Go.WideShapes Go.ChangeAt Go.RowKit
set_option linter.unusedVariables false

theorem g_tab : Tryz.prog.globalNamed "math/bits.deBruijn64tab" = some 0 := by kernel_rfl
theorem t_tab : (Tryz.prog.globals[0]?).map (·.type) = some 136 := by kernel_rfl
theorem c_tab : Tryz.prog.cellsOf 136 = 64 := by kernel_rfl
theorem c_tab8 : Tryz.prog.cellsOf 5 = 1 := by kernel_rfl
def tabZ : List Int := Lib.deBruijn64tab.map Int.ofNat
theorem tab_data : (Rows.laid_math_bits_deBruijn64tab : DataW Unit) = Lib.tabData .u8 tabZ := rfl
theorem tabZ_len : tabZ.length = 64 := by decide +kernel
theorem tabZ_at : ∀ i : Fin 64, tabZ.getD i.val 0 = ((Lib.deBruijn64tab.getD i.val 0 : Nat) : Int) := by decide +kernel
def laidAll : List (String × DataW Unit) := [("math/bits.deBruijn64tab", Rows.laid_math_bits_deBruijn64tab)]
theorem tb_of_laid {W : World} (h : laidMetH Tryz.prog laidAll W) : Tb W := by
  rw [MakeChecks.laidMetH_plain _ _ _ (by kernel_rfl)] at h
  unfold laidAll at h
  rw [tab_data] at h
  have hT := Lib.tabIs_of_head g_tab t_tab Tryz.underlying136 Tryz.underlying5 c_tab8 c_tab h
  have hc : ∀ j, j < 64 → W.cell? ⟨0, j, none⟩ = some (.int .u8 ((Lib.deBruijn64tab.getD j 0 : Nat) : Int)) := fun j hj => by
    rw [← tabZ_at ⟨j, hj⟩]
    exact hT.cell g_tab j (by rw [tabZ_len]; exact hj)
  exact ⟨World.block_lt_of_cell? W _ (hc 0 (by omega)), hc⟩
theorem door_met (os : Os) (args : Array Value) : laidMetH Tryz.prog laidAll ((World.doorLaid Tryz.prog 14 os).forCall (fun _ _ => 0) ⟨#[], args, []⟩).memory :=
  laidMetH_of_parts3 (fuel := 8) (laidMet_of_run' 8 (by kernel_rfl) (by kernel_rfl)) (by kernel_rfl) (by kernel_rfl)
end Go.Proofs.YtfefmlnlicilbaaGreatDoor
