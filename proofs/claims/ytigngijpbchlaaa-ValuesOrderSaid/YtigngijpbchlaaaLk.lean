/- Walks: the law ValuesOrder. -/
import Derived.Test.YtigngijpbchlaaaLg
import Derived.Deep.DeepCutAuto
namespace Go.Proofs.Ytigngijpbchlaaa
open Go.RowKit
set_option linter.unusedVariables false

section
variable {P : Program} {ops : Array Oper} {Q : Exit → Act → World → Prop} {md : Region.Mode} {S S' : World → Prop}
/-- Three operations may come up: whichever does is carried out. -/
theorem held_three (i j k : Nat) {oi oj ok : Oper} {ri rj rk : List Oper} {fuel : Nat} {listed : Array Bool} {a : Act} {w : World} (hi : ops.toList.drop i = oi :: ri) (hj : ops.toList.drop j = oj :: rj) (hk : ops.toList.drop k = ok :: rk) (hr : Region.ready md ops listed = [i, j, k])
    (hwi : Region.wanted oi (yielded ops a.tmps) = true) (hwj : Region.wanted oj (yielded ops a.tmps) = true) (hwk : Region.wanted ok (yielded ops a.tmps) = true)
    (h1 : Oper.wp P oi a w (fun a' w' => ∃ S' : World → Prop, (∀ W, S' W → S W) ∧ S' w' ∧ wpAnyH P md ops Q S' fuel (listed.setIfInBounds i true) a' w') Q)
    (h2 : Oper.wp P oj a w (fun a' w' => ∃ S' : World → Prop, (∀ W, S' W → S W) ∧ S' w' ∧ wpAnyH P md ops Q S' fuel (listed.setIfInBounds j true) a' w') Q)
    (h3 : Oper.wp P ok a w (fun a' w' => ∃ S' : World → Prop, (∀ W, S' W → S W) ∧ S' w' ∧ wpAnyH P md ops Q S' fuel (listed.setIfInBounds k true) a' w') Q) : wpAnyH P md ops Q S (fuel + 1) listed a w := by
  refine wpAnyH_ready hr (by simp) (AllReadyH.cons (op_at hi) (fun K' hK => ?_) (AllReadyH.cons (op_at hj) (fun K' hK => ?_) (AllReadyH.cons (op_at hk) (fun K' hK => ?_) AllReadyH.nil)))
  · rw [if_pos hwi]
    exact Oper.wp_mono (fun a' w' ⟨S', h1, h2, h3⟩ => hK.out a' w' (h1 _ h2) (fun _ => held_mono h1 _ _ _ _ h3)) h1
  · rw [if_pos hwj]
    exact Oper.wp_mono (fun a' w' ⟨S', h1, h2, h3⟩ => hK.out a' w' (h1 _ h2) (fun _ => held_mono h1 _ _ _ _ h3)) h2
  · rw [if_pos hwk]
    exact Oper.wp_mono (fun a' w' ⟨S', h1, h2, h3⟩ => hK.out a' w' (h1 _ h2) (fun _ => held_mono h1 _ _ _ _ h3)) h3
end
section
variable {P : Program}
/-- A whole row is stored. -/
theorem wp_store_row' {op : Oper} {a : Act} {w : World} {K : Act → World → Prop} {Q : Exit → Act → World → Prop} (ty : TypeId) (x y : Operand) (ho : op.op = .store ty x y)
    (g : Nat) (cells : Array Value) (hx : a.eval x = .pointer (some ⟨g, 0, none⟩)) (hy : a.eval y = .agg cells) (t : TypeId) (cs : Array Value) (hr : Row w g t cs) (hs : cs.size = cells.size)
    (hi : (P.info? ty).map (·.size) = some cells.size) (h1 : cells.all (·.oneCell') = true)
    (h : ∀ w', Row w' g t cells → w.grownBy w' (some g) → K (a.put op.dst undef) w') : op.wp P a w K Q := by
  unfold Oper.wp execOp
  simp only [ho, hx, hy, Instr.storeAt, Instr.sureAddr, Sem.run_bind, Sem.run_pure, Result.andThen_ok, run_storeVar_row w g t ty cs cells hr hi hs h1]
  refine h _ (setRow_heap w g cs cells t (0, 0) hr) ⟨rfl, rfl, rfl, by simp [World.setRow], fun k hk hne => ?_⟩
  have hne' : ¬ g = k := fun e => hne (by rw [e])
  simp [World.setRow, Array.getElem?_modify, hne']
end

theorem szV : (Try.prog.info? 23).map (·.size) = some 3 := by kernel_rfl
theorem Bx2.grown {w W W' : World} {k n k' n' : Int} {s s' : ByteArray} {row : Option Nat} (h : Bx2 w W k n s k' n' s') (hg : W.grownBy W' row) (hr : ∀ x, row = some x → w.heap.size + 1 < x) : Bx2 w W' k n s k' n' s' :=
  ⟨h.below.grown hg (by have := h.lt; omega) (fun x hx => by have := hr x hx; omega), h.r1.grown hg (fun e => by have := hr _ e; omega), h.r2.grown hg (fun e => by have := hr _ e; omega)⟩
/-- Two values, and what Int and Text made of them. -/
structure Bxo (w W : World) (g5 g6 : Nat) (k0 n0 : Int) (s0 : ByteArray) (k1 n1 : Int) (s1 : ByteArray) : Prop where
  bx : Bx2 w W k0 n0 s0 k1 n1 s1
  r5 : Row W g5 23 #[.int .u8 1, .int .i64 n0, .string ⟨#[]⟩]
  r6 : Row W g6 23 #[.int .u8 2, .int .i64 0, .string s1]
section
variable {w W W' : World} {g5 g6 : Nat} {k0 n0 k1 n1 : Int} {s0 s1 : ByteArray}
theorem Bxo.world (h : Bxo w W g5 g6 k0 n0 s0 k1 n1 s1) : ∃ X, X = W := ⟨W, rfl⟩
theorem Bxo.step (h : Bxo w W g5 g6 k0 n0 s0 k1 n1 s1) (b : Below W.heap.size W W') : Bxo w W' g5 g6 k0 n0 s0 k1 n1 s1 := ⟨h.bx.step b, h.r5.below b h.r5.lt, h.r6.below b h.r6.lt⟩
theorem Bxo.drew (h : Bxo w W g5 g6 k0 n0 s0 k1 n1 s1) : Bxo w W.drew g5 g6 k0 n0 s0 k1 n1 s1 := ⟨h.bx.drew, h.r5, h.r6⟩
theorem Bxo.a0 (h : Bxo w W g5 g6 k0 n0 s0 k1 n1 s1) : W.cell? ⟨w.heap.size, 0, none⟩ = some (.int .u8 k0) := h.bx.a0
theorem Bxo.a1 (h : Bxo w W g5 g6 k0 n0 s0 k1 n1 s1) : W.cell? ⟨w.heap.size, 1, none⟩ = some (.int .i64 n0) := h.bx.a1
theorem Bxo.a2 (h : Bxo w W g5 g6 k0 n0 s0 k1 n1 s1) : W.cell? ⟨w.heap.size, 2, none⟩ = some (.string s0) := h.bx.a2
theorem Bxo.b0 (h : Bxo w W g5 g6 k0 n0 s0 k1 n1 s1) : W.cell? ⟨w.heap.size + 1, 0, none⟩ = some (.int .u8 k1) := h.bx.b0
theorem Bxo.b1 (h : Bxo w W g5 g6 k0 n0 s0 k1 n1 s1) : W.cell? ⟨w.heap.size + 1, 1, none⟩ = some (.int .i64 n1) := h.bx.b1
theorem Bxo.b2 (h : Bxo w W g5 g6 k0 n0 s0 k1 n1 s1) : W.cell? ⟨w.heap.size + 1, 2, none⟩ = some (.string s1) := h.bx.b2
theorem Bxo.c0 (h : Bxo w W g5 g6 k0 n0 s0 k1 n1 s1) : W.cell? ⟨g5, 0, none⟩ = some (.int .u8 1) := by rw [h.r5.cell]; rfl
theorem Bxo.c1 (h : Bxo w W g5 g6 k0 n0 s0 k1 n1 s1) : W.cell? ⟨g5, 1, none⟩ = some (.int .i64 n0) := by rw [h.r5.cell]; rfl
theorem Bxo.c2 (h : Bxo w W g5 g6 k0 n0 s0 k1 n1 s1) : W.cell? ⟨g5, 2, none⟩ = some (.string ⟨#[]⟩) := by rw [h.r5.cell]; rfl
theorem Bxo.d0 (h : Bxo w W g5 g6 k0 n0 s0 k1 n1 s1) : W.cell? ⟨g6, 0, none⟩ = some (.int .u8 2) := by rw [h.r6.cell]; rfl
theorem Bxo.d1 (h : Bxo w W g5 g6 k0 n0 s0 k1 n1 s1) : W.cell? ⟨g6, 1, none⟩ = some (.int .i64 0) := by rw [h.r6.cell]; rfl
theorem Bxo.d2 (h : Bxo w W g5 g6 k0 n0 s0 k1 n1 s1) : W.cell? ⟨g6, 2, none⟩ = some (.string s1) := by rw [h.r6.cell]; rfl
end

set_option maxHeartbeats 4000000 in
theorem order_go (k0 n0 : Int) (s0 : ByteArray) (k1 n1 : Int) (s1 : ByteArray) (w : World) (M : Bool) (X : Int) (hd0 : decide ((70000 : Int) < s0.size) = false) (hd1 : decide ((70000 : Int) < s1.size) = false)
    (hM : ∀ W, Calls Try.prog 10 #[vV k0 n0 s0] W fun e w' => e = .returned (.bool M) ∧ Below W.heap.size W w')
    (hR : ∀ W, Calls Try.prog 11 #[vV k0 n0 s0] W fun e w' => e = .returned (.bool M) ∧ Below W.heap.size W w')
    (hC : ∀ W, Calls Try.prog 12 #[vV k0 n0 s0, vV k1 n1 s1] W fun e w' => e = .returned (.int .i64 X) ∧ Below W.heap.size W w')
    (hD : ∀ W, Calls Try.prog 13 #[vV k0 n0 s0, vV k1 n1 s1] W fun e w' => e = .returned (.int .i64 X) ∧ Below W.heap.size W w') :
    Calls Try.prog 3 #[vV k0 n0 s0, vV k1 n1 s1] w fun e w' => e = .returned (.bool true) ∧ Below w.heap.size w w' := by
  have HM := Lib.hid hM
  have HR := Lib.hid hR
  have HC := Lib.hid hC
  have HD := Lib.hid hD
  clear hM hR hC hD
  go_enter Try.func3, Try.ntmps3
  go_wp2_with fail
  go_cut [5, 6] (fun s5 s6 wx => ∃ g5 g6, s5 = .pointer (some ⟨g5, 0, none⟩) ∧ s6 = .pointer (some ⟨g6, 0, none⟩) ∧ Row wx g5 23 #[.int .u8 1, .int .i64 n0, .string ⟨#[]⟩] ∧ Row wx g6 23 #[.int .u8 2, .int .i64 0, .string s1] ∧ Bx2 w wx k0 n0 s0 k1 n1 s1)
  case first =>
    have hSc := (Bx2.new w k0 n0 s0 k1 n1 s1).drew
    refine wp_region_all (S := fun W => Bx2 w W k0 n0 s0 k1 n1 s1) (by kernel_rfl) hSc (fun W0 hSc => ?_)
    refine held_take 0 ?_ rfl (by kernel_rfl) (by kernel_rfl) (by kernel_rfl) (fun _ _ _ h => h) (by rfl) ?_ hSc ?_
    rotate_left
    · (intro W hSW; have a0 := hSW.a0; have a1 := hSW.a1; have a2 := hSW.a2; have b0 := hSW.b0; have b1 := hSW.b1; have b2 := hSW.b2; go_simp; try rfl)
    try simp only [Act.put, List.setIfInBounds_toArray, List.set_cons_zero, List.set_cons_succ]
    refine held_take 1 ?_ rfl (by kernel_rfl) (by kernel_rfl) (by kernel_rfl) (fun _ _ _ h => h) (by rfl) ?_ hSc ?_
    rotate_left
    · (intro W hSW; have a0 := hSW.a0; have a1 := hSW.a1; have a2 := hSW.a2; have b0 := hSW.b0; have b1 := hSW.b1; have b2 := hSW.b2; go_simp; try rfl)
    try simp only [Act.put, List.setIfInBounds_toArray, List.set_cons_zero, List.set_cons_succ]
    refine held_take 3 ?_ rfl (by kernel_rfl) (by kernel_rfl) (by kernel_rfl) (fun _ _ _ h => h) (by rfl) ?_ hSc ?_
    rotate_left
    · (intro W hSW; have a0 := hSW.a0; have a1 := hSW.a1; have a2 := hSW.a2; have b0 := hSW.b0; have b1 := hSW.b1; have b2 := hSW.b2; go_simp; try rfl)
    try simp only [Act.put, List.setIfInBounds_toArray, List.set_cons_zero, List.set_cons_succ]
    refine held_take 4 ?_ rfl (by kernel_rfl) (by kernel_rfl) (by kernel_rfl) (fun _ _ _ h => h) (by rfl) ?_ hSc ?_
    rotate_left
    · (intro W hSW; have a0 := hSW.a0; have a1 := hSW.a1; have a2 := hSW.a2; have b0 := hSW.b0; have b1 := hSW.b1; have b2 := hSW.b2; go_simp; try rfl)
    try simp only [Act.put, List.setIfInBounds_toArray, List.set_cons_zero, List.set_cons_succ]
    refine held_three 2 6 7 rfl rfl rfl (by kernel_rfl) (by rfl) (by rfl) (by rfl) ?_ ?_ ?_
    · skip
      go_simp
      refine (int_any _ _).mono ?_
      rintro e y1 ⟨rfl, bq⟩
      have hS2 : (fun W => Bx2 w W k0 n0 s0 k1 n1 s1) y1 := hSc.step bq
      clear hSc bq
      have hSc := hS2
      clear hS2
      refine ⟨fun W => Bx2 w W k0 n0 s0 k1 n1 s1, fun W hW => hW, hSc, ?_⟩
      try simp only [Act.put, List.setIfInBounds_toArray, List.set_cons_zero, List.set_cons_succ]
      refine held_three 5 6 7 rfl rfl rfl (by kernel_rfl) (by rfl) (by rfl) (by rfl) ?_ ?_ ?_
      · skip
        go_simp
        refine (text_any _ _).mono ?_
        rintro e y2 ⟨rfl, bq⟩
        have hS2 : (fun W => Bx2 w W k0 n0 s0 k1 n1 s1) y2 := hSc.step bq
        clear hSc bq
        have hSc := hS2
        clear hS2
        refine ⟨fun W => Bx2 w W k0 n0 s0 k1 n1 s1, fun W hW => hW, hSc, ?_⟩
        try simp only [Act.put, List.setIfInBounds_toArray, List.set_cons_zero, List.set_cons_succ]
        refine held_two 6 7 rfl rfl (by kernel_rfl) (by rfl) (by rfl) ?_ ?_
        · skip
          go_simp
          have rz := Row.new y2 23 #[.int .u8 0, .int .i64 0, .string ⟨#[]⟩]
          have G6 : w.heap.size + 1 < y2.heap.size := hSc.lt
          have bq : Below y2.heap.size y2 (y2.alloc (.cells #[.int .u8 0, .int .i64 0, .string ⟨#[]⟩] 23)) := (Below.refl _ _).alloc (Nat.le_refl _) _
          generalize y2.alloc (.cells #[.int .u8 0, .int .i64 0, .string ⟨#[]⟩] 23) = y3 at *
          have hS2 : (fun W => Bx2 w W k0 n0 s0 k1 n1 s1) y3 := hSc.step bq
          clear hSc bq
          have hSc := hS2
          clear hS2
          refine ⟨fun W => Bx2 w W k0 n0 s0 k1 n1 s1, fun W hW => hW, hSc, ?_⟩
          try simp only [Act.put, List.setIfInBounds_toArray, List.set_cons_zero, List.set_cons_succ]
          have R6 := rz
          clear rz
          refine held_next 7 rfl (by kernel_rfl) (by rfl) ?_
          go_simp
          have rz := Row.new y3 23 #[.int .u8 0, .int .i64 0, .string ⟨#[]⟩]
          have G7 : w.heap.size + 1 < y3.heap.size := hSc.lt
          have bq : Below y3.heap.size y3 (y3.alloc (.cells #[.int .u8 0, .int .i64 0, .string ⟨#[]⟩] 23)) := (Below.refl _ _).alloc (Nat.le_refl _) _
          have hne : y2.heap.size ≠ y3.heap.size := by have := R6.lt; omega
          generalize y3.alloc (.cells #[.int .u8 0, .int .i64 0, .string ⟨#[]⟩] 23) = y4 at *
          have R6 := R6.below bq R6.lt
          have hS2 : (fun W => Bx2 w W k0 n0 s0 k1 n1 s1) y4 := hSc.step bq
          clear hSc bq
          have hSc := hS2
          clear hS2
          refine ⟨fun W => Bx2 w W k0 n0 s0 k1 n1 s1, fun W hW => hW, hSc, ?_⟩
          try simp only [Act.put, List.setIfInBounds_toArray, List.set_cons_zero, List.set_cons_succ]
          have R7 := rz
          clear rz
          refine held_next 8 rfl (by kernel_rfl) (by rfl) ?_
          refine wp_store_row' 23 _ _ rfl (y2.heap.size) #[.int .u8 1, .int .i64 n0, .string ⟨#[]⟩] rfl rfl _ _ R6 rfl szV (by simp [Value.oneCell']) (fun z8 q6 qg => ?_)
          have q7 := R7.grown qg (by intro e; injection e with e; exact hne e)
          have hS2 : (fun W => Bx2 w W k0 n0 s0 k1 n1 s1) z8 := hSc.grown qg (fun x hx => by injection hx with hx; subst hx; exact G6)
          refine ⟨fun W => Bx2 w W k0 n0 s0 k1 n1 s1, fun W hW => hW, hS2, ?_⟩
          try simp only [Act.put]
          refine held_next 9 rfl (by kernel_rfl) (by rfl) ?_
          refine wp_store_row' 23 _ _ rfl (y3.heap.size) #[.int .u8 2, .int .i64 0, .string s1] rfl rfl _ _ q7 rfl szV (by simp [Value.oneCell']) (fun z9 p7 pg => ?_)
          have p6 := q6.grown pg (by intro e; injection e with e; exact hne e.symm)
          have hS3 : (fun W => Bx2 w W k0 n0 s0 k1 n1 s1) z9 := hS2.grown pg (fun x hx => by injection hx with hx; subst hx; exact G7)
          refine ⟨fun W => Bx2 w W k0 n0 s0 k1 n1 s1, fun W hW => hW, hS3, ?_⟩
          refine wpAnyH_done (by kernel_rfl) ?_ _
          go_wp2_with fail
          go_meet
          case rel => exact ⟨_, _, rfl, rfl, p6, p7, hS3⟩
        · skip
          go_simp
          have rz := Row.new y2 23 #[.int .u8 0, .int .i64 0, .string ⟨#[]⟩]
          have G7 : w.heap.size + 1 < y2.heap.size := hSc.lt
          have bq : Below y2.heap.size y2 (y2.alloc (.cells #[.int .u8 0, .int .i64 0, .string ⟨#[]⟩] 23)) := (Below.refl _ _).alloc (Nat.le_refl _) _
          generalize y2.alloc (.cells #[.int .u8 0, .int .i64 0, .string ⟨#[]⟩] 23) = y5 at *
          have hS2 : (fun W => Bx2 w W k0 n0 s0 k1 n1 s1) y5 := hSc.step bq
          clear hSc bq
          have hSc := hS2
          clear hS2
          refine ⟨fun W => Bx2 w W k0 n0 s0 k1 n1 s1, fun W hW => hW, hSc, ?_⟩
          try simp only [Act.put, List.setIfInBounds_toArray, List.set_cons_zero, List.set_cons_succ]
          have R7 := rz
          clear rz
          refine held_next 6 rfl (by kernel_rfl) (by rfl) ?_
          go_simp
          have rz := Row.new y5 23 #[.int .u8 0, .int .i64 0, .string ⟨#[]⟩]
          have G6 : w.heap.size + 1 < y5.heap.size := hSc.lt
          have bq : Below y5.heap.size y5 (y5.alloc (.cells #[.int .u8 0, .int .i64 0, .string ⟨#[]⟩] 23)) := (Below.refl _ _).alloc (Nat.le_refl _) _
          have hne : y5.heap.size ≠ y2.heap.size := by have := R7.lt; omega
          generalize y5.alloc (.cells #[.int .u8 0, .int .i64 0, .string ⟨#[]⟩] 23) = y6 at *
          have R7 := R7.below bq R7.lt
          have hS2 : (fun W => Bx2 w W k0 n0 s0 k1 n1 s1) y6 := hSc.step bq
          clear hSc bq
          have hSc := hS2
          clear hS2
          refine ⟨fun W => Bx2 w W k0 n0 s0 k1 n1 s1, fun W hW => hW, hSc, ?_⟩
          try simp only [Act.put, List.setIfInBounds_toArray, List.set_cons_zero, List.set_cons_succ]
          have R6 := rz
          clear rz
          refine held_next 8 rfl (by kernel_rfl) (by rfl) ?_
          refine wp_store_row' 23 _ _ rfl (y5.heap.size) #[.int .u8 1, .int .i64 n0, .string ⟨#[]⟩] rfl rfl _ _ R6 rfl szV (by simp [Value.oneCell']) (fun z8 q6 qg => ?_)
          have q7 := R7.grown qg (by intro e; injection e with e; exact hne e)
          have hS2 : (fun W => Bx2 w W k0 n0 s0 k1 n1 s1) z8 := hSc.grown qg (fun x hx => by injection hx with hx; subst hx; exact G6)
          refine ⟨fun W => Bx2 w W k0 n0 s0 k1 n1 s1, fun W hW => hW, hS2, ?_⟩
          try simp only [Act.put]
          refine held_next 9 rfl (by kernel_rfl) (by rfl) ?_
          refine wp_store_row' 23 _ _ rfl (y2.heap.size) #[.int .u8 2, .int .i64 0, .string s1] rfl rfl _ _ q7 rfl szV (by simp [Value.oneCell']) (fun z9 p7 pg => ?_)
          have p6 := q6.grown pg (by intro e; injection e with e; exact hne e.symm)
          have hS3 : (fun W => Bx2 w W k0 n0 s0 k1 n1 s1) z9 := hS2.grown pg (fun x hx => by injection hx with hx; subst hx; exact G7)
          refine ⟨fun W => Bx2 w W k0 n0 s0 k1 n1 s1, fun W hW => hW, hS3, ?_⟩
          refine wpAnyH_done (by kernel_rfl) ?_ _
          go_wp2_with fail
          go_meet
          case rel => exact ⟨_, _, rfl, rfl, p6, p7, hS3⟩
      · skip
        go_simp
        have rz := Row.new y1 23 #[.int .u8 0, .int .i64 0, .string ⟨#[]⟩]
        have G6 : w.heap.size + 1 < y1.heap.size := hSc.lt
        have bq : Below y1.heap.size y1 (y1.alloc (.cells #[.int .u8 0, .int .i64 0, .string ⟨#[]⟩] 23)) := (Below.refl _ _).alloc (Nat.le_refl _) _
        generalize y1.alloc (.cells #[.int .u8 0, .int .i64 0, .string ⟨#[]⟩] 23) = y7 at *
        have hS2 : (fun W => Bx2 w W k0 n0 s0 k1 n1 s1) y7 := hSc.step bq
        clear hSc bq
        have hSc := hS2
        clear hS2
        refine ⟨fun W => Bx2 w W k0 n0 s0 k1 n1 s1, fun W hW => hW, hSc, ?_⟩
        try simp only [Act.put, List.setIfInBounds_toArray, List.set_cons_zero, List.set_cons_succ]
        have R6 := rz
        clear rz
        refine held_two 5 7 rfl rfl (by kernel_rfl) (by rfl) (by rfl) ?_ ?_
        · skip
          go_simp
          refine (text_any _ _).mono ?_
          rintro e y8 ⟨rfl, bq⟩
          have R6 := R6.below bq R6.lt
          have hS2 : (fun W => Bx2 w W k0 n0 s0 k1 n1 s1) y8 := hSc.step bq
          clear hSc bq
          have hSc := hS2
          clear hS2
          refine ⟨fun W => Bx2 w W k0 n0 s0 k1 n1 s1, fun W hW => hW, hSc, ?_⟩
          try simp only [Act.put, List.setIfInBounds_toArray, List.set_cons_zero, List.set_cons_succ]
          refine held_next 7 rfl (by kernel_rfl) (by rfl) ?_
          go_simp
          have rz := Row.new y8 23 #[.int .u8 0, .int .i64 0, .string ⟨#[]⟩]
          have G7 : w.heap.size + 1 < y8.heap.size := hSc.lt
          have bq : Below y8.heap.size y8 (y8.alloc (.cells #[.int .u8 0, .int .i64 0, .string ⟨#[]⟩] 23)) := (Below.refl _ _).alloc (Nat.le_refl _) _
          have hne : y1.heap.size ≠ y8.heap.size := by have := R6.lt; omega
          generalize y8.alloc (.cells #[.int .u8 0, .int .i64 0, .string ⟨#[]⟩] 23) = y9 at *
          have R6 := R6.below bq R6.lt
          have hS2 : (fun W => Bx2 w W k0 n0 s0 k1 n1 s1) y9 := hSc.step bq
          clear hSc bq
          have hSc := hS2
          clear hS2
          refine ⟨fun W => Bx2 w W k0 n0 s0 k1 n1 s1, fun W hW => hW, hSc, ?_⟩
          try simp only [Act.put, List.setIfInBounds_toArray, List.set_cons_zero, List.set_cons_succ]
          have R7 := rz
          clear rz
          refine held_next 8 rfl (by kernel_rfl) (by rfl) ?_
          refine wp_store_row' 23 _ _ rfl (y1.heap.size) #[.int .u8 1, .int .i64 n0, .string ⟨#[]⟩] rfl rfl _ _ R6 rfl szV (by simp [Value.oneCell']) (fun z8 q6 qg => ?_)
          have q7 := R7.grown qg (by intro e; injection e with e; exact hne e)
          have hS2 : (fun W => Bx2 w W k0 n0 s0 k1 n1 s1) z8 := hSc.grown qg (fun x hx => by injection hx with hx; subst hx; exact G6)
          refine ⟨fun W => Bx2 w W k0 n0 s0 k1 n1 s1, fun W hW => hW, hS2, ?_⟩
          try simp only [Act.put]
          refine held_next 9 rfl (by kernel_rfl) (by rfl) ?_
          refine wp_store_row' 23 _ _ rfl (y8.heap.size) #[.int .u8 2, .int .i64 0, .string s1] rfl rfl _ _ q7 rfl szV (by simp [Value.oneCell']) (fun z9 p7 pg => ?_)
          have p6 := q6.grown pg (by intro e; injection e with e; exact hne e.symm)
          have hS3 : (fun W => Bx2 w W k0 n0 s0 k1 n1 s1) z9 := hS2.grown pg (fun x hx => by injection hx with hx; subst hx; exact G7)
          refine ⟨fun W => Bx2 w W k0 n0 s0 k1 n1 s1, fun W hW => hW, hS3, ?_⟩
          refine wpAnyH_done (by kernel_rfl) ?_ _
          go_wp2_with fail
          go_meet
          case rel => exact ⟨_, _, rfl, rfl, p6, p7, hS3⟩
        · skip
          go_simp
          have rz := Row.new y7 23 #[.int .u8 0, .int .i64 0, .string ⟨#[]⟩]
          have G7 : w.heap.size + 1 < y7.heap.size := hSc.lt
          have bq : Below y7.heap.size y7 (y7.alloc (.cells #[.int .u8 0, .int .i64 0, .string ⟨#[]⟩] 23)) := (Below.refl _ _).alloc (Nat.le_refl _) _
          have hne : y1.heap.size ≠ y7.heap.size := by have := R6.lt; omega
          generalize y7.alloc (.cells #[.int .u8 0, .int .i64 0, .string ⟨#[]⟩] 23) = y10 at *
          have R6 := R6.below bq R6.lt
          have hS2 : (fun W => Bx2 w W k0 n0 s0 k1 n1 s1) y10 := hSc.step bq
          clear hSc bq
          have hSc := hS2
          clear hS2
          refine ⟨fun W => Bx2 w W k0 n0 s0 k1 n1 s1, fun W hW => hW, hSc, ?_⟩
          try simp only [Act.put, List.setIfInBounds_toArray, List.set_cons_zero, List.set_cons_succ]
          have R7 := rz
          clear rz
          refine held_next 5 rfl (by kernel_rfl) (by rfl) ?_
          go_simp
          refine (text_any _ _).mono ?_
          rintro e y11 ⟨rfl, bq⟩
          have R6 := R6.below bq R6.lt
          have R7 := R7.below bq R7.lt
          have hS2 : (fun W => Bx2 w W k0 n0 s0 k1 n1 s1) y11 := hSc.step bq
          clear hSc bq
          have hSc := hS2
          clear hS2
          refine ⟨fun W => Bx2 w W k0 n0 s0 k1 n1 s1, fun W hW => hW, hSc, ?_⟩
          try simp only [Act.put, List.setIfInBounds_toArray, List.set_cons_zero, List.set_cons_succ]
          refine held_next 8 rfl (by kernel_rfl) (by rfl) ?_
          refine wp_store_row' 23 _ _ rfl (y1.heap.size) #[.int .u8 1, .int .i64 n0, .string ⟨#[]⟩] rfl rfl _ _ R6 rfl szV (by simp [Value.oneCell']) (fun z8 q6 qg => ?_)
          have q7 := R7.grown qg (by intro e; injection e with e; exact hne e)
          have hS2 : (fun W => Bx2 w W k0 n0 s0 k1 n1 s1) z8 := hSc.grown qg (fun x hx => by injection hx with hx; subst hx; exact G6)
          refine ⟨fun W => Bx2 w W k0 n0 s0 k1 n1 s1, fun W hW => hW, hS2, ?_⟩
          try simp only [Act.put]
          refine held_next 9 rfl (by kernel_rfl) (by rfl) ?_
          refine wp_store_row' 23 _ _ rfl (y7.heap.size) #[.int .u8 2, .int .i64 0, .string s1] rfl rfl _ _ q7 rfl szV (by simp [Value.oneCell']) (fun z9 p7 pg => ?_)
          have p6 := q6.grown pg (by intro e; injection e with e; exact hne e.symm)
          have hS3 : (fun W => Bx2 w W k0 n0 s0 k1 n1 s1) z9 := hS2.grown pg (fun x hx => by injection hx with hx; subst hx; exact G7)
          refine ⟨fun W => Bx2 w W k0 n0 s0 k1 n1 s1, fun W hW => hW, hS3, ?_⟩
          refine wpAnyH_done (by kernel_rfl) ?_ _
          go_wp2_with fail
          go_meet
          case rel => exact ⟨_, _, rfl, rfl, p6, p7, hS3⟩
      · skip
        go_simp
        have rz := Row.new y1 23 #[.int .u8 0, .int .i64 0, .string ⟨#[]⟩]
        have G7 : w.heap.size + 1 < y1.heap.size := hSc.lt
        have bq : Below y1.heap.size y1 (y1.alloc (.cells #[.int .u8 0, .int .i64 0, .string ⟨#[]⟩] 23)) := (Below.refl _ _).alloc (Nat.le_refl _) _
        generalize y1.alloc (.cells #[.int .u8 0, .int .i64 0, .string ⟨#[]⟩] 23) = y12 at *
        have hS2 : (fun W => Bx2 w W k0 n0 s0 k1 n1 s1) y12 := hSc.step bq
        clear hSc bq
        have hSc := hS2
        clear hS2
        refine ⟨fun W => Bx2 w W k0 n0 s0 k1 n1 s1, fun W hW => hW, hSc, ?_⟩
        try simp only [Act.put, List.setIfInBounds_toArray, List.set_cons_zero, List.set_cons_succ]
        have R7 := rz
        clear rz
        refine held_two 5 6 rfl rfl (by kernel_rfl) (by rfl) (by rfl) ?_ ?_
        · skip
          go_simp
          refine (text_any _ _).mono ?_
          rintro e y13 ⟨rfl, bq⟩
          have R7 := R7.below bq R7.lt
          have hS2 : (fun W => Bx2 w W k0 n0 s0 k1 n1 s1) y13 := hSc.step bq
          clear hSc bq
          have hSc := hS2
          clear hS2
          refine ⟨fun W => Bx2 w W k0 n0 s0 k1 n1 s1, fun W hW => hW, hSc, ?_⟩
          try simp only [Act.put, List.setIfInBounds_toArray, List.set_cons_zero, List.set_cons_succ]
          refine held_next 6 rfl (by kernel_rfl) (by rfl) ?_
          go_simp
          have rz := Row.new y13 23 #[.int .u8 0, .int .i64 0, .string ⟨#[]⟩]
          have G6 : w.heap.size + 1 < y13.heap.size := hSc.lt
          have bq : Below y13.heap.size y13 (y13.alloc (.cells #[.int .u8 0, .int .i64 0, .string ⟨#[]⟩] 23)) := (Below.refl _ _).alloc (Nat.le_refl _) _
          have hne : y13.heap.size ≠ y1.heap.size := by have := R7.lt; omega
          generalize y13.alloc (.cells #[.int .u8 0, .int .i64 0, .string ⟨#[]⟩] 23) = y14 at *
          have R7 := R7.below bq R7.lt
          have hS2 : (fun W => Bx2 w W k0 n0 s0 k1 n1 s1) y14 := hSc.step bq
          clear hSc bq
          have hSc := hS2
          clear hS2
          refine ⟨fun W => Bx2 w W k0 n0 s0 k1 n1 s1, fun W hW => hW, hSc, ?_⟩
          try simp only [Act.put, List.setIfInBounds_toArray, List.set_cons_zero, List.set_cons_succ]
          have R6 := rz
          clear rz
          refine held_next 8 rfl (by kernel_rfl) (by rfl) ?_
          refine wp_store_row' 23 _ _ rfl (y13.heap.size) #[.int .u8 1, .int .i64 n0, .string ⟨#[]⟩] rfl rfl _ _ R6 rfl szV (by simp [Value.oneCell']) (fun z8 q6 qg => ?_)
          have q7 := R7.grown qg (by intro e; injection e with e; exact hne e)
          have hS2 : (fun W => Bx2 w W k0 n0 s0 k1 n1 s1) z8 := hSc.grown qg (fun x hx => by injection hx with hx; subst hx; exact G6)
          refine ⟨fun W => Bx2 w W k0 n0 s0 k1 n1 s1, fun W hW => hW, hS2, ?_⟩
          try simp only [Act.put]
          refine held_next 9 rfl (by kernel_rfl) (by rfl) ?_
          refine wp_store_row' 23 _ _ rfl (y1.heap.size) #[.int .u8 2, .int .i64 0, .string s1] rfl rfl _ _ q7 rfl szV (by simp [Value.oneCell']) (fun z9 p7 pg => ?_)
          have p6 := q6.grown pg (by intro e; injection e with e; exact hne e.symm)
          have hS3 : (fun W => Bx2 w W k0 n0 s0 k1 n1 s1) z9 := hS2.grown pg (fun x hx => by injection hx with hx; subst hx; exact G7)
          refine ⟨fun W => Bx2 w W k0 n0 s0 k1 n1 s1, fun W hW => hW, hS3, ?_⟩
          refine wpAnyH_done (by kernel_rfl) ?_ _
          go_wp2_with fail
          go_meet
          case rel => exact ⟨_, _, rfl, rfl, p6, p7, hS3⟩
        · skip
          go_simp
          have rz := Row.new y12 23 #[.int .u8 0, .int .i64 0, .string ⟨#[]⟩]
          have G6 : w.heap.size + 1 < y12.heap.size := hSc.lt
          have bq : Below y12.heap.size y12 (y12.alloc (.cells #[.int .u8 0, .int .i64 0, .string ⟨#[]⟩] 23)) := (Below.refl _ _).alloc (Nat.le_refl _) _
          have hne : y12.heap.size ≠ y1.heap.size := by have := R7.lt; omega
          generalize y12.alloc (.cells #[.int .u8 0, .int .i64 0, .string ⟨#[]⟩] 23) = y15 at *
          have R7 := R7.below bq R7.lt
          have hS2 : (fun W => Bx2 w W k0 n0 s0 k1 n1 s1) y15 := hSc.step bq
          clear hSc bq
          have hSc := hS2
          clear hS2
          refine ⟨fun W => Bx2 w W k0 n0 s0 k1 n1 s1, fun W hW => hW, hSc, ?_⟩
          try simp only [Act.put, List.setIfInBounds_toArray, List.set_cons_zero, List.set_cons_succ]
          have R6 := rz
          clear rz
          refine held_next 5 rfl (by kernel_rfl) (by rfl) ?_
          go_simp
          refine (text_any _ _).mono ?_
          rintro e y16 ⟨rfl, bq⟩
          have R7 := R7.below bq R7.lt
          have R6 := R6.below bq R6.lt
          have hS2 : (fun W => Bx2 w W k0 n0 s0 k1 n1 s1) y16 := hSc.step bq
          clear hSc bq
          have hSc := hS2
          clear hS2
          refine ⟨fun W => Bx2 w W k0 n0 s0 k1 n1 s1, fun W hW => hW, hSc, ?_⟩
          try simp only [Act.put, List.setIfInBounds_toArray, List.set_cons_zero, List.set_cons_succ]
          refine held_next 8 rfl (by kernel_rfl) (by rfl) ?_
          refine wp_store_row' 23 _ _ rfl (y12.heap.size) #[.int .u8 1, .int .i64 n0, .string ⟨#[]⟩] rfl rfl _ _ R6 rfl szV (by simp [Value.oneCell']) (fun z8 q6 qg => ?_)
          have q7 := R7.grown qg (by intro e; injection e with e; exact hne e)
          have hS2 : (fun W => Bx2 w W k0 n0 s0 k1 n1 s1) z8 := hSc.grown qg (fun x hx => by injection hx with hx; subst hx; exact G6)
          refine ⟨fun W => Bx2 w W k0 n0 s0 k1 n1 s1, fun W hW => hW, hS2, ?_⟩
          try simp only [Act.put]
          refine held_next 9 rfl (by kernel_rfl) (by rfl) ?_
          refine wp_store_row' 23 _ _ rfl (y1.heap.size) #[.int .u8 2, .int .i64 0, .string s1] rfl rfl _ _ q7 rfl szV (by simp [Value.oneCell']) (fun z9 p7 pg => ?_)
          have p6 := q6.grown pg (by intro e; injection e with e; exact hne e.symm)
          have hS3 : (fun W => Bx2 w W k0 n0 s0 k1 n1 s1) z9 := hS2.grown pg (fun x hx => by injection hx with hx; subst hx; exact G7)
          refine ⟨fun W => Bx2 w W k0 n0 s0 k1 n1 s1, fun W hW => hW, hS3, ?_⟩
          refine wpAnyH_done (by kernel_rfl) ?_ _
          go_wp2_with fail
          go_meet
          case rel => exact ⟨_, _, rfl, rfl, p6, p7, hS3⟩
    · skip
      go_simp
      have rz := Row.new W0 23 #[.int .u8 0, .int .i64 0, .string ⟨#[]⟩]
      have G6 : w.heap.size + 1 < W0.heap.size := hSc.lt
      have bq : Below W0.heap.size W0 (W0.alloc (.cells #[.int .u8 0, .int .i64 0, .string ⟨#[]⟩] 23)) := (Below.refl _ _).alloc (Nat.le_refl _) _
      generalize W0.alloc (.cells #[.int .u8 0, .int .i64 0, .string ⟨#[]⟩] 23) = y17 at *
      have hS2 : (fun W => Bx2 w W k0 n0 s0 k1 n1 s1) y17 := hSc.step bq
      clear hSc bq
      have hSc := hS2
      clear hS2
      refine ⟨fun W => Bx2 w W k0 n0 s0 k1 n1 s1, fun W hW => hW, hSc, ?_⟩
      try simp only [Act.put, List.setIfInBounds_toArray, List.set_cons_zero, List.set_cons_succ]
      have R6 := rz
      clear rz
      refine held_two 2 7 rfl rfl (by kernel_rfl) (by rfl) (by rfl) ?_ ?_
      · skip
        go_simp
        refine (int_any _ _).mono ?_
        rintro e y18 ⟨rfl, bq⟩
        have R6 := R6.below bq R6.lt
        have hS2 : (fun W => Bx2 w W k0 n0 s0 k1 n1 s1) y18 := hSc.step bq
        clear hSc bq
        have hSc := hS2
        clear hS2
        refine ⟨fun W => Bx2 w W k0 n0 s0 k1 n1 s1, fun W hW => hW, hSc, ?_⟩
        try simp only [Act.put, List.setIfInBounds_toArray, List.set_cons_zero, List.set_cons_succ]
        refine held_two 5 7 rfl rfl (by kernel_rfl) (by rfl) (by rfl) ?_ ?_
        · skip
          go_simp
          refine (text_any _ _).mono ?_
          rintro e y19 ⟨rfl, bq⟩
          have R6 := R6.below bq R6.lt
          have hS2 : (fun W => Bx2 w W k0 n0 s0 k1 n1 s1) y19 := hSc.step bq
          clear hSc bq
          have hSc := hS2
          clear hS2
          refine ⟨fun W => Bx2 w W k0 n0 s0 k1 n1 s1, fun W hW => hW, hSc, ?_⟩
          try simp only [Act.put, List.setIfInBounds_toArray, List.set_cons_zero, List.set_cons_succ]
          refine held_next 7 rfl (by kernel_rfl) (by rfl) ?_
          go_simp
          have rz := Row.new y19 23 #[.int .u8 0, .int .i64 0, .string ⟨#[]⟩]
          have G7 : w.heap.size + 1 < y19.heap.size := hSc.lt
          have bq : Below y19.heap.size y19 (y19.alloc (.cells #[.int .u8 0, .int .i64 0, .string ⟨#[]⟩] 23)) := (Below.refl _ _).alloc (Nat.le_refl _) _
          have hne : W0.heap.size ≠ y19.heap.size := by have := R6.lt; omega
          generalize y19.alloc (.cells #[.int .u8 0, .int .i64 0, .string ⟨#[]⟩] 23) = y20 at *
          have R6 := R6.below bq R6.lt
          have hS2 : (fun W => Bx2 w W k0 n0 s0 k1 n1 s1) y20 := hSc.step bq
          clear hSc bq
          have hSc := hS2
          clear hS2
          refine ⟨fun W => Bx2 w W k0 n0 s0 k1 n1 s1, fun W hW => hW, hSc, ?_⟩
          try simp only [Act.put, List.setIfInBounds_toArray, List.set_cons_zero, List.set_cons_succ]
          have R7 := rz
          clear rz
          refine held_next 8 rfl (by kernel_rfl) (by rfl) ?_
          refine wp_store_row' 23 _ _ rfl (W0.heap.size) #[.int .u8 1, .int .i64 n0, .string ⟨#[]⟩] rfl rfl _ _ R6 rfl szV (by simp [Value.oneCell']) (fun z8 q6 qg => ?_)
          have q7 := R7.grown qg (by intro e; injection e with e; exact hne e)
          have hS2 : (fun W => Bx2 w W k0 n0 s0 k1 n1 s1) z8 := hSc.grown qg (fun x hx => by injection hx with hx; subst hx; exact G6)
          refine ⟨fun W => Bx2 w W k0 n0 s0 k1 n1 s1, fun W hW => hW, hS2, ?_⟩
          try simp only [Act.put]
          refine held_next 9 rfl (by kernel_rfl) (by rfl) ?_
          refine wp_store_row' 23 _ _ rfl (y19.heap.size) #[.int .u8 2, .int .i64 0, .string s1] rfl rfl _ _ q7 rfl szV (by simp [Value.oneCell']) (fun z9 p7 pg => ?_)
          have p6 := q6.grown pg (by intro e; injection e with e; exact hne e.symm)
          have hS3 : (fun W => Bx2 w W k0 n0 s0 k1 n1 s1) z9 := hS2.grown pg (fun x hx => by injection hx with hx; subst hx; exact G7)
          refine ⟨fun W => Bx2 w W k0 n0 s0 k1 n1 s1, fun W hW => hW, hS3, ?_⟩
          refine wpAnyH_done (by kernel_rfl) ?_ _
          go_wp2_with fail
          go_meet
          case rel => exact ⟨_, _, rfl, rfl, p6, p7, hS3⟩
        · skip
          go_simp
          have rz := Row.new y18 23 #[.int .u8 0, .int .i64 0, .string ⟨#[]⟩]
          have G7 : w.heap.size + 1 < y18.heap.size := hSc.lt
          have bq : Below y18.heap.size y18 (y18.alloc (.cells #[.int .u8 0, .int .i64 0, .string ⟨#[]⟩] 23)) := (Below.refl _ _).alloc (Nat.le_refl _) _
          have hne : W0.heap.size ≠ y18.heap.size := by have := R6.lt; omega
          generalize y18.alloc (.cells #[.int .u8 0, .int .i64 0, .string ⟨#[]⟩] 23) = y21 at *
          have R6 := R6.below bq R6.lt
          have hS2 : (fun W => Bx2 w W k0 n0 s0 k1 n1 s1) y21 := hSc.step bq
          clear hSc bq
          have hSc := hS2
          clear hS2
          refine ⟨fun W => Bx2 w W k0 n0 s0 k1 n1 s1, fun W hW => hW, hSc, ?_⟩
          try simp only [Act.put, List.setIfInBounds_toArray, List.set_cons_zero, List.set_cons_succ]
          have R7 := rz
          clear rz
          refine held_next 5 rfl (by kernel_rfl) (by rfl) ?_
          go_simp
          refine (text_any _ _).mono ?_
          rintro e y22 ⟨rfl, bq⟩
          have R6 := R6.below bq R6.lt
          have R7 := R7.below bq R7.lt
          have hS2 : (fun W => Bx2 w W k0 n0 s0 k1 n1 s1) y22 := hSc.step bq
          clear hSc bq
          have hSc := hS2
          clear hS2
          refine ⟨fun W => Bx2 w W k0 n0 s0 k1 n1 s1, fun W hW => hW, hSc, ?_⟩
          try simp only [Act.put, List.setIfInBounds_toArray, List.set_cons_zero, List.set_cons_succ]
          refine held_next 8 rfl (by kernel_rfl) (by rfl) ?_
          refine wp_store_row' 23 _ _ rfl (W0.heap.size) #[.int .u8 1, .int .i64 n0, .string ⟨#[]⟩] rfl rfl _ _ R6 rfl szV (by simp [Value.oneCell']) (fun z8 q6 qg => ?_)
          have q7 := R7.grown qg (by intro e; injection e with e; exact hne e)
          have hS2 : (fun W => Bx2 w W k0 n0 s0 k1 n1 s1) z8 := hSc.grown qg (fun x hx => by injection hx with hx; subst hx; exact G6)
          refine ⟨fun W => Bx2 w W k0 n0 s0 k1 n1 s1, fun W hW => hW, hS2, ?_⟩
          try simp only [Act.put]
          refine held_next 9 rfl (by kernel_rfl) (by rfl) ?_
          refine wp_store_row' 23 _ _ rfl (y18.heap.size) #[.int .u8 2, .int .i64 0, .string s1] rfl rfl _ _ q7 rfl szV (by simp [Value.oneCell']) (fun z9 p7 pg => ?_)
          have p6 := q6.grown pg (by intro e; injection e with e; exact hne e.symm)
          have hS3 : (fun W => Bx2 w W k0 n0 s0 k1 n1 s1) z9 := hS2.grown pg (fun x hx => by injection hx with hx; subst hx; exact G7)
          refine ⟨fun W => Bx2 w W k0 n0 s0 k1 n1 s1, fun W hW => hW, hS3, ?_⟩
          refine wpAnyH_done (by kernel_rfl) ?_ _
          go_wp2_with fail
          go_meet
          case rel => exact ⟨_, _, rfl, rfl, p6, p7, hS3⟩
      · skip
        go_simp
        have rz := Row.new y17 23 #[.int .u8 0, .int .i64 0, .string ⟨#[]⟩]
        have G7 : w.heap.size + 1 < y17.heap.size := hSc.lt
        have bq : Below y17.heap.size y17 (y17.alloc (.cells #[.int .u8 0, .int .i64 0, .string ⟨#[]⟩] 23)) := (Below.refl _ _).alloc (Nat.le_refl _) _
        have hne : W0.heap.size ≠ y17.heap.size := by have := R6.lt; omega
        generalize y17.alloc (.cells #[.int .u8 0, .int .i64 0, .string ⟨#[]⟩] 23) = y23 at *
        have R6 := R6.below bq R6.lt
        have hS2 : (fun W => Bx2 w W k0 n0 s0 k1 n1 s1) y23 := hSc.step bq
        clear hSc bq
        have hSc := hS2
        clear hS2
        refine ⟨fun W => Bx2 w W k0 n0 s0 k1 n1 s1, fun W hW => hW, hSc, ?_⟩
        try simp only [Act.put, List.setIfInBounds_toArray, List.set_cons_zero, List.set_cons_succ]
        have R7 := rz
        clear rz
        refine held_next 2 rfl (by kernel_rfl) (by rfl) ?_
        go_simp
        refine (int_any _ _).mono ?_
        rintro e y24 ⟨rfl, bq⟩
        have R6 := R6.below bq R6.lt
        have R7 := R7.below bq R7.lt
        have hS2 : (fun W => Bx2 w W k0 n0 s0 k1 n1 s1) y24 := hSc.step bq
        clear hSc bq
        have hSc := hS2
        clear hS2
        refine ⟨fun W => Bx2 w W k0 n0 s0 k1 n1 s1, fun W hW => hW, hSc, ?_⟩
        try simp only [Act.put, List.setIfInBounds_toArray, List.set_cons_zero, List.set_cons_succ]
        refine held_next 5 rfl (by kernel_rfl) (by rfl) ?_
        go_simp
        refine (text_any _ _).mono ?_
        rintro e y25 ⟨rfl, bq⟩
        have R6 := R6.below bq R6.lt
        have R7 := R7.below bq R7.lt
        have hS2 : (fun W => Bx2 w W k0 n0 s0 k1 n1 s1) y25 := hSc.step bq
        clear hSc bq
        have hSc := hS2
        clear hS2
        refine ⟨fun W => Bx2 w W k0 n0 s0 k1 n1 s1, fun W hW => hW, hSc, ?_⟩
        try simp only [Act.put, List.setIfInBounds_toArray, List.set_cons_zero, List.set_cons_succ]
        refine held_next 8 rfl (by kernel_rfl) (by rfl) ?_
        refine wp_store_row' 23 _ _ rfl (W0.heap.size) #[.int .u8 1, .int .i64 n0, .string ⟨#[]⟩] rfl rfl _ _ R6 rfl szV (by simp [Value.oneCell']) (fun z8 q6 qg => ?_)
        have q7 := R7.grown qg (by intro e; injection e with e; exact hne e)
        have hS2 : (fun W => Bx2 w W k0 n0 s0 k1 n1 s1) z8 := hSc.grown qg (fun x hx => by injection hx with hx; subst hx; exact G6)
        refine ⟨fun W => Bx2 w W k0 n0 s0 k1 n1 s1, fun W hW => hW, hS2, ?_⟩
        try simp only [Act.put]
        refine held_next 9 rfl (by kernel_rfl) (by rfl) ?_
        refine wp_store_row' 23 _ _ rfl (y17.heap.size) #[.int .u8 2, .int .i64 0, .string s1] rfl rfl _ _ q7 rfl szV (by simp [Value.oneCell']) (fun z9 p7 pg => ?_)
        have p6 := q6.grown pg (by intro e; injection e with e; exact hne e.symm)
        have hS3 : (fun W => Bx2 w W k0 n0 s0 k1 n1 s1) z9 := hS2.grown pg (fun x hx => by injection hx with hx; subst hx; exact G7)
        refine ⟨fun W => Bx2 w W k0 n0 s0 k1 n1 s1, fun W hW => hW, hS3, ?_⟩
        refine wpAnyH_done (by kernel_rfl) ?_ _
        go_wp2_with fail
        go_meet
        case rel => exact ⟨_, _, rfl, rfl, p6, p7, hS3⟩
    · skip
      go_simp
      have rz := Row.new W0 23 #[.int .u8 0, .int .i64 0, .string ⟨#[]⟩]
      have G7 : w.heap.size + 1 < W0.heap.size := hSc.lt
      have bq : Below W0.heap.size W0 (W0.alloc (.cells #[.int .u8 0, .int .i64 0, .string ⟨#[]⟩] 23)) := (Below.refl _ _).alloc (Nat.le_refl _) _
      generalize W0.alloc (.cells #[.int .u8 0, .int .i64 0, .string ⟨#[]⟩] 23) = y26 at *
      have hS2 : (fun W => Bx2 w W k0 n0 s0 k1 n1 s1) y26 := hSc.step bq
      clear hSc bq
      have hSc := hS2
      clear hS2
      refine ⟨fun W => Bx2 w W k0 n0 s0 k1 n1 s1, fun W hW => hW, hSc, ?_⟩
      try simp only [Act.put, List.setIfInBounds_toArray, List.set_cons_zero, List.set_cons_succ]
      have R7 := rz
      clear rz
      refine held_two 2 6 rfl rfl (by kernel_rfl) (by rfl) (by rfl) ?_ ?_
      · skip
        go_simp
        refine (int_any _ _).mono ?_
        rintro e y27 ⟨rfl, bq⟩
        have R7 := R7.below bq R7.lt
        have hS2 : (fun W => Bx2 w W k0 n0 s0 k1 n1 s1) y27 := hSc.step bq
        clear hSc bq
        have hSc := hS2
        clear hS2
        refine ⟨fun W => Bx2 w W k0 n0 s0 k1 n1 s1, fun W hW => hW, hSc, ?_⟩
        try simp only [Act.put, List.setIfInBounds_toArray, List.set_cons_zero, List.set_cons_succ]
        refine held_two 5 6 rfl rfl (by kernel_rfl) (by rfl) (by rfl) ?_ ?_
        · skip
          go_simp
          refine (text_any _ _).mono ?_
          rintro e y28 ⟨rfl, bq⟩
          have R7 := R7.below bq R7.lt
          have hS2 : (fun W => Bx2 w W k0 n0 s0 k1 n1 s1) y28 := hSc.step bq
          clear hSc bq
          have hSc := hS2
          clear hS2
          refine ⟨fun W => Bx2 w W k0 n0 s0 k1 n1 s1, fun W hW => hW, hSc, ?_⟩
          try simp only [Act.put, List.setIfInBounds_toArray, List.set_cons_zero, List.set_cons_succ]
          refine held_next 6 rfl (by kernel_rfl) (by rfl) ?_
          go_simp
          have rz := Row.new y28 23 #[.int .u8 0, .int .i64 0, .string ⟨#[]⟩]
          have G6 : w.heap.size + 1 < y28.heap.size := hSc.lt
          have bq : Below y28.heap.size y28 (y28.alloc (.cells #[.int .u8 0, .int .i64 0, .string ⟨#[]⟩] 23)) := (Below.refl _ _).alloc (Nat.le_refl _) _
          have hne : y28.heap.size ≠ W0.heap.size := by have := R7.lt; omega
          generalize y28.alloc (.cells #[.int .u8 0, .int .i64 0, .string ⟨#[]⟩] 23) = y29 at *
          have R7 := R7.below bq R7.lt
          have hS2 : (fun W => Bx2 w W k0 n0 s0 k1 n1 s1) y29 := hSc.step bq
          clear hSc bq
          have hSc := hS2
          clear hS2
          refine ⟨fun W => Bx2 w W k0 n0 s0 k1 n1 s1, fun W hW => hW, hSc, ?_⟩
          try simp only [Act.put, List.setIfInBounds_toArray, List.set_cons_zero, List.set_cons_succ]
          have R6 := rz
          clear rz
          refine held_next 8 rfl (by kernel_rfl) (by rfl) ?_
          refine wp_store_row' 23 _ _ rfl (y28.heap.size) #[.int .u8 1, .int .i64 n0, .string ⟨#[]⟩] rfl rfl _ _ R6 rfl szV (by simp [Value.oneCell']) (fun z8 q6 qg => ?_)
          have q7 := R7.grown qg (by intro e; injection e with e; exact hne e)
          have hS2 : (fun W => Bx2 w W k0 n0 s0 k1 n1 s1) z8 := hSc.grown qg (fun x hx => by injection hx with hx; subst hx; exact G6)
          refine ⟨fun W => Bx2 w W k0 n0 s0 k1 n1 s1, fun W hW => hW, hS2, ?_⟩
          try simp only [Act.put]
          refine held_next 9 rfl (by kernel_rfl) (by rfl) ?_
          refine wp_store_row' 23 _ _ rfl (W0.heap.size) #[.int .u8 2, .int .i64 0, .string s1] rfl rfl _ _ q7 rfl szV (by simp [Value.oneCell']) (fun z9 p7 pg => ?_)
          have p6 := q6.grown pg (by intro e; injection e with e; exact hne e.symm)
          have hS3 : (fun W => Bx2 w W k0 n0 s0 k1 n1 s1) z9 := hS2.grown pg (fun x hx => by injection hx with hx; subst hx; exact G7)
          refine ⟨fun W => Bx2 w W k0 n0 s0 k1 n1 s1, fun W hW => hW, hS3, ?_⟩
          refine wpAnyH_done (by kernel_rfl) ?_ _
          go_wp2_with fail
          go_meet
          case rel => exact ⟨_, _, rfl, rfl, p6, p7, hS3⟩
        · skip
          go_simp
          have rz := Row.new y27 23 #[.int .u8 0, .int .i64 0, .string ⟨#[]⟩]
          have G6 : w.heap.size + 1 < y27.heap.size := hSc.lt
          have bq : Below y27.heap.size y27 (y27.alloc (.cells #[.int .u8 0, .int .i64 0, .string ⟨#[]⟩] 23)) := (Below.refl _ _).alloc (Nat.le_refl _) _
          have hne : y27.heap.size ≠ W0.heap.size := by have := R7.lt; omega
          generalize y27.alloc (.cells #[.int .u8 0, .int .i64 0, .string ⟨#[]⟩] 23) = y30 at *
          have R7 := R7.below bq R7.lt
          have hS2 : (fun W => Bx2 w W k0 n0 s0 k1 n1 s1) y30 := hSc.step bq
          clear hSc bq
          have hSc := hS2
          clear hS2
          refine ⟨fun W => Bx2 w W k0 n0 s0 k1 n1 s1, fun W hW => hW, hSc, ?_⟩
          try simp only [Act.put, List.setIfInBounds_toArray, List.set_cons_zero, List.set_cons_succ]
          have R6 := rz
          clear rz
          refine held_next 5 rfl (by kernel_rfl) (by rfl) ?_
          go_simp
          refine (text_any _ _).mono ?_
          rintro e y31 ⟨rfl, bq⟩
          have R7 := R7.below bq R7.lt
          have R6 := R6.below bq R6.lt
          have hS2 : (fun W => Bx2 w W k0 n0 s0 k1 n1 s1) y31 := hSc.step bq
          clear hSc bq
          have hSc := hS2
          clear hS2
          refine ⟨fun W => Bx2 w W k0 n0 s0 k1 n1 s1, fun W hW => hW, hSc, ?_⟩
          try simp only [Act.put, List.setIfInBounds_toArray, List.set_cons_zero, List.set_cons_succ]
          refine held_next 8 rfl (by kernel_rfl) (by rfl) ?_
          refine wp_store_row' 23 _ _ rfl (y27.heap.size) #[.int .u8 1, .int .i64 n0, .string ⟨#[]⟩] rfl rfl _ _ R6 rfl szV (by simp [Value.oneCell']) (fun z8 q6 qg => ?_)
          have q7 := R7.grown qg (by intro e; injection e with e; exact hne e)
          have hS2 : (fun W => Bx2 w W k0 n0 s0 k1 n1 s1) z8 := hSc.grown qg (fun x hx => by injection hx with hx; subst hx; exact G6)
          refine ⟨fun W => Bx2 w W k0 n0 s0 k1 n1 s1, fun W hW => hW, hS2, ?_⟩
          try simp only [Act.put]
          refine held_next 9 rfl (by kernel_rfl) (by rfl) ?_
          refine wp_store_row' 23 _ _ rfl (W0.heap.size) #[.int .u8 2, .int .i64 0, .string s1] rfl rfl _ _ q7 rfl szV (by simp [Value.oneCell']) (fun z9 p7 pg => ?_)
          have p6 := q6.grown pg (by intro e; injection e with e; exact hne e.symm)
          have hS3 : (fun W => Bx2 w W k0 n0 s0 k1 n1 s1) z9 := hS2.grown pg (fun x hx => by injection hx with hx; subst hx; exact G7)
          refine ⟨fun W => Bx2 w W k0 n0 s0 k1 n1 s1, fun W hW => hW, hS3, ?_⟩
          refine wpAnyH_done (by kernel_rfl) ?_ _
          go_wp2_with fail
          go_meet
          case rel => exact ⟨_, _, rfl, rfl, p6, p7, hS3⟩
      · skip
        go_simp
        have rz := Row.new y26 23 #[.int .u8 0, .int .i64 0, .string ⟨#[]⟩]
        have G6 : w.heap.size + 1 < y26.heap.size := hSc.lt
        have bq : Below y26.heap.size y26 (y26.alloc (.cells #[.int .u8 0, .int .i64 0, .string ⟨#[]⟩] 23)) := (Below.refl _ _).alloc (Nat.le_refl _) _
        have hne : y26.heap.size ≠ W0.heap.size := by have := R7.lt; omega
        generalize y26.alloc (.cells #[.int .u8 0, .int .i64 0, .string ⟨#[]⟩] 23) = y32 at *
        have R7 := R7.below bq R7.lt
        have hS2 : (fun W => Bx2 w W k0 n0 s0 k1 n1 s1) y32 := hSc.step bq
        clear hSc bq
        have hSc := hS2
        clear hS2
        refine ⟨fun W => Bx2 w W k0 n0 s0 k1 n1 s1, fun W hW => hW, hSc, ?_⟩
        try simp only [Act.put, List.setIfInBounds_toArray, List.set_cons_zero, List.set_cons_succ]
        have R6 := rz
        clear rz
        refine held_next 2 rfl (by kernel_rfl) (by rfl) ?_
        go_simp
        refine (int_any _ _).mono ?_
        rintro e y33 ⟨rfl, bq⟩
        have R7 := R7.below bq R7.lt
        have R6 := R6.below bq R6.lt
        have hS2 : (fun W => Bx2 w W k0 n0 s0 k1 n1 s1) y33 := hSc.step bq
        clear hSc bq
        have hSc := hS2
        clear hS2
        refine ⟨fun W => Bx2 w W k0 n0 s0 k1 n1 s1, fun W hW => hW, hSc, ?_⟩
        try simp only [Act.put, List.setIfInBounds_toArray, List.set_cons_zero, List.set_cons_succ]
        refine held_next 5 rfl (by kernel_rfl) (by rfl) ?_
        go_simp
        refine (text_any _ _).mono ?_
        rintro e y34 ⟨rfl, bq⟩
        have R7 := R7.below bq R7.lt
        have R6 := R6.below bq R6.lt
        have hS2 : (fun W => Bx2 w W k0 n0 s0 k1 n1 s1) y34 := hSc.step bq
        clear hSc bq
        have hSc := hS2
        clear hS2
        refine ⟨fun W => Bx2 w W k0 n0 s0 k1 n1 s1, fun W hW => hW, hSc, ?_⟩
        try simp only [Act.put, List.setIfInBounds_toArray, List.set_cons_zero, List.set_cons_succ]
        refine held_next 8 rfl (by kernel_rfl) (by rfl) ?_
        refine wp_store_row' 23 _ _ rfl (y26.heap.size) #[.int .u8 1, .int .i64 n0, .string ⟨#[]⟩] rfl rfl _ _ R6 rfl szV (by simp [Value.oneCell']) (fun z8 q6 qg => ?_)
        have q7 := R7.grown qg (by intro e; injection e with e; exact hne e)
        have hS2 : (fun W => Bx2 w W k0 n0 s0 k1 n1 s1) z8 := hSc.grown qg (fun x hx => by injection hx with hx; subst hx; exact G6)
        refine ⟨fun W => Bx2 w W k0 n0 s0 k1 n1 s1, fun W hW => hW, hS2, ?_⟩
        try simp only [Act.put]
        refine held_next 9 rfl (by kernel_rfl) (by rfl) ?_
        refine wp_store_row' 23 _ _ rfl (W0.heap.size) #[.int .u8 2, .int .i64 0, .string s1] rfl rfl _ _ q7 rfl szV (by simp [Value.oneCell']) (fun z9 p7 pg => ?_)
        have p6 := q6.grown pg (by intro e; injection e with e; exact hne e.symm)
        have hS3 : (fun W => Bx2 w W k0 n0 s0 k1 n1 s1) z9 := hS2.grown pg (fun x hx => by injection hx with hx; subst hx; exact G7)
        refine ⟨fun W => Bx2 w W k0 n0 s0 k1 n1 s1, fun W hW => hW, hS3, ?_⟩
        refine wpAnyH_done (by kernel_rfl) ?_ _
        go_wp2_with fail
        go_meet
        case rel => exact ⟨_, _, rfl, rfl, p6, p7, hS3⟩
  case rest =>
    obtain ⟨g5, g6, rfl, rfl, hr5, hr6, hbx⟩ := hcut
    have hB : Bxo w _ g5 g6 k0 n0 s0 k1 n1 s1 := ⟨hbx, hr5, hr6⟩
    clear hbx hr5 hr6
    obtain ⟨wm, rfl⟩ := hB.world
    go_wp2_with fail
    have hSc := hB.drew
    refine wp_region_all (S := fun W => Bxo w W g5 g6 k0 n0 s0 k1 n1 s1) (by kernel_rfl) hSc (fun W0 hSc => ?_)
    refine held_take 0 ?_ rfl (by kernel_rfl) (by kernel_rfl) (by kernel_rfl) (fun _ _ _ h => h) (by rfl) ?_ hSc ?_
    rotate_left
    · (intro W hSW; have a0 := hSW.a0; have a1 := hSW.a1; have a2 := hSW.a2; have b0 := hSW.b0; have b1 := hSW.b1; have b2 := hSW.b2; have c0 := hSW.c0; have c1 := hSW.c1; have c2 := hSW.c2; have d0 := hSW.d0; have d1 := hSW.d1; have d2 := hSW.d2; go_simp; try rfl)
    try simp only [Act.put, List.setIfInBounds_toArray, List.set_cons_zero, List.set_cons_succ]
    refine held_take 2 ?_ rfl (by kernel_rfl) (by kernel_rfl) (by kernel_rfl) (fun _ _ _ h => h) (by rfl) ?_ hSc ?_
    rotate_left
    · (intro W hSW; have a0 := hSW.a0; have a1 := hSW.a1; have a2 := hSW.a2; have b0 := hSW.b0; have b1 := hSW.b1; have b2 := hSW.b2; have c0 := hSW.c0; have c1 := hSW.c1; have c2 := hSW.c2; have d0 := hSW.d0; have d1 := hSW.d1; have d2 := hSW.d2; go_simp; try rfl)
    try simp only [Act.put, List.setIfInBounds_toArray, List.set_cons_zero, List.set_cons_succ]
    refine held_next 1 rfl (by kernel_rfl) (by rfl) ?_
    go_simp
    refine (HM.out _).mono ?_
    rintro e wq1 ⟨rfl, b⟩
    have hSd : (fun W => Bxo w W g5 g6 k0 n0 s0 k1 n1 s1) wq1 := hSc.step b
    refine ⟨fun W => Bxo w W g5 g6 k0 n0 s0 k1 n1 s1, fun W hW => hW, hSd, ?_⟩
    clear hSc b
    have hSc := hSd
    clear hSd
    try simp only [Act.put, List.setIfInBounds_toArray, List.set_cons_zero, List.set_cons_succ]
    refine held_next 3 rfl (by kernel_rfl) (by rfl) ?_
    go_simp
    refine (HR.out _).mono ?_
    rintro e wq2 ⟨rfl, b⟩
    have hSd : (fun W => Bxo w W g5 g6 k0 n0 s0 k1 n1 s1) wq2 := hSc.step b
    refine ⟨fun W => Bxo w W g5 g6 k0 n0 s0 k1 n1 s1, fun W hW => hW, hSd, ?_⟩
    clear hSc b
    have hSc := hSd
    clear hSd
    try simp only [Act.put, List.setIfInBounds_toArray, List.set_cons_zero, List.set_cons_succ]
    refine held_take 4 ?_ rfl (by kernel_rfl) (by kernel_rfl) (by kernel_rfl) (fun _ _ _ h => h) (by rfl) ?_ hSc ?_
    rotate_left
    · (intro W hSW; have a0 := hSW.a0; have a1 := hSW.a1; have a2 := hSW.a2; have b0 := hSW.b0; have b1 := hSW.b1; have b2 := hSW.b2; have c0 := hSW.c0; have c1 := hSW.c1; have c2 := hSW.c2; have d0 := hSW.d0; have d1 := hSW.d1; have d2 := hSW.d2; go_simp; try rfl)
    try simp only [Act.put, List.setIfInBounds_toArray, List.set_cons_zero, List.set_cons_succ]
    refine held_take 5 ?_ rfl (by kernel_rfl) (by kernel_rfl) (by kernel_rfl) (fun _ _ _ h => h) (by rfl) ?_ hSc ?_
    rotate_left
    · (intro W hSW; have a0 := hSW.a0; have a1 := hSW.a1; have a2 := hSW.a2; have b0 := hSW.b0; have b1 := hSW.b1; have b2 := hSW.b2; have c0 := hSW.c0; have c1 := hSW.c1; have c2 := hSW.c2; have d0 := hSW.d0; have d1 := hSW.d1; have d2 := hSW.d2; go_simp; try rfl)
    try simp only [Act.put, List.setIfInBounds_toArray, List.set_cons_zero, List.set_cons_succ]
    refine held_take 6 ?_ rfl (by kernel_rfl) (by kernel_rfl) (by kernel_rfl) (fun _ _ _ h => h) (by rfl) ?_ hSc ?_
    rotate_left
    · (intro W hSW; have a0 := hSW.a0; have a1 := hSW.a1; have a2 := hSW.a2; have b0 := hSW.b0; have b1 := hSW.b1; have b2 := hSW.b2; have c0 := hSW.c0; have c1 := hSW.c1; have c2 := hSW.c2; have d0 := hSW.d0; have d1 := hSW.d1; have d2 := hSW.d2; go_simp; try rfl)
    try simp only [Act.put, List.setIfInBounds_toArray, List.set_cons_zero, List.set_cons_succ]
    refine held_take 7 ?_ rfl (by kernel_rfl) (by kernel_rfl) (by kernel_rfl) (fun _ _ _ h => h) (by rfl) ?_ hSc ?_
    rotate_left
    · (intro W hSW; have a0 := hSW.a0; have a1 := hSW.a1; have a2 := hSW.a2; have b0 := hSW.b0; have b1 := hSW.b1; have b2 := hSW.b2; have c0 := hSW.c0; have c1 := hSW.c1; have c2 := hSW.c2; have d0 := hSW.d0; have d1 := hSW.d1; have d2 := hSW.d2; go_simp; try rfl)
    try simp only [Act.put, List.setIfInBounds_toArray, List.set_cons_zero, List.set_cons_succ]
    refine held_take 9 ?_ rfl (by kernel_rfl) (by kernel_rfl) (by kernel_rfl) (fun _ _ _ h => h) (by rfl) ?_ hSc ?_
    rotate_left
    · (intro W hSW; have a0 := hSW.a0; have a1 := hSW.a1; have a2 := hSW.a2; have b0 := hSW.b0; have b1 := hSW.b1; have b2 := hSW.b2; have c0 := hSW.c0; have c1 := hSW.c1; have c2 := hSW.c2; have d0 := hSW.d0; have d1 := hSW.d1; have d2 := hSW.d2; go_simp; try rfl)
    try simp only [Act.put, List.setIfInBounds_toArray, List.set_cons_zero, List.set_cons_succ]
    refine held_take 10 ?_ rfl (by kernel_rfl) (by kernel_rfl) (by kernel_rfl) (fun _ _ _ h => h) (by rfl) ?_ hSc ?_
    rotate_left
    · (intro W hSW; have a0 := hSW.a0; have a1 := hSW.a1; have a2 := hSW.a2; have b0 := hSW.b0; have b1 := hSW.b1; have b2 := hSW.b2; have c0 := hSW.c0; have c1 := hSW.c1; have c2 := hSW.c2; have d0 := hSW.d0; have d1 := hSW.d1; have d2 := hSW.d2; go_simp; try rfl)
    try simp only [Act.put, List.setIfInBounds_toArray, List.set_cons_zero, List.set_cons_succ]
    refine held_next 8 rfl (by kernel_rfl) (by rfl) ?_
    go_simp
    refine (HC.out _).mono ?_
    rintro e wq3 ⟨rfl, b⟩
    have hSd : (fun W => Bxo w W g5 g6 k0 n0 s0 k1 n1 s1) wq3 := hSc.step b
    refine ⟨fun W => Bxo w W g5 g6 k0 n0 s0 k1 n1 s1, fun W hW => hW, hSd, ?_⟩
    clear hSc b
    have hSc := hSd
    clear hSd
    try simp only [Act.put, List.setIfInBounds_toArray, List.set_cons_zero, List.set_cons_succ]
    refine held_next 11 rfl (by kernel_rfl) (by rfl) ?_
    go_simp
    refine (HD.out _).mono ?_
    rintro e wq4 ⟨rfl, b⟩
    have hSd : (fun W => Bxo w W g5 g6 k0 n0 s0 k1 n1 s1) wq4 := hSc.step b
    refine ⟨fun W => Bxo w W g5 g6 k0 n0 s0 k1 n1 s1, fun W hW => hW, hSd, ?_⟩
    clear hSc b
    have hSc := hSd
    clear hSd
    try simp only [Act.put, List.setIfInBounds_toArray, List.set_cons_zero, List.set_cons_succ]
    refine held_take 12 ?_ rfl (by kernel_rfl) (by kernel_rfl) (by kernel_rfl) (fun _ _ _ h => h) (by rfl) ?_ hSc ?_
    rotate_left
    · (intro W hSW; have a0 := hSW.a0; have a1 := hSW.a1; have a2 := hSW.a2; have b0 := hSW.b0; have b1 := hSW.b1; have b2 := hSW.b2; have c0 := hSW.c0; have c1 := hSW.c1; have c2 := hSW.c2; have d0 := hSW.d0; have d1 := hSW.d1; have d2 := hSW.d2; go_simp; try rfl)
    try simp only [Act.put, List.setIfInBounds_toArray, List.set_cons_zero, List.set_cons_succ]
    refine held_take 13 ?_ rfl (by kernel_rfl) (by kernel_rfl) (by kernel_rfl) (fun _ _ _ h => h) (by rfl) ?_ hSc ?_
    rotate_left
    · (intro W hSW; have a0 := hSW.a0; have a1 := hSW.a1; have a2 := hSW.a2; have b0 := hSW.b0; have b1 := hSW.b1; have b2 := hSW.b2; have c0 := hSW.c0; have c1 := hSW.c1; have c2 := hSW.c2; have d0 := hSW.d0; have d1 := hSW.d1; have d2 := hSW.d2; go_simp; try rfl)
    try simp only [Act.put, List.setIfInBounds_toArray, List.set_cons_zero, List.set_cons_succ]
    refine held_take 14 ?_ rfl (by kernel_rfl) (by kernel_rfl) (by kernel_rfl) (fun _ _ _ h => h) (by rfl) ?_ hSc ?_
    rotate_left
    · (intro W hSW; have a0 := hSW.a0; have a1 := hSW.a1; have a2 := hSW.a2; have b0 := hSW.b0; have b1 := hSW.b1; have b2 := hSW.b2; have c0 := hSW.c0; have c1 := hSW.c1; have c2 := hSW.c2; have d0 := hSW.d0; have d1 := hSW.d1; have d2 := hSW.d2; go_simp; try rfl)
    try simp only [Act.put, List.setIfInBounds_toArray, List.set_cons_zero, List.set_cons_succ]
    refine held_take 15 ?_ rfl (by kernel_rfl) (by kernel_rfl) (by kernel_rfl) (fun _ _ _ h => h) (by rfl) ?_ hSc ?_
    rotate_left
    · (intro W hSW; have a0 := hSW.a0; have a1 := hSW.a1; have a2 := hSW.a2; have b0 := hSW.b0; have b1 := hSW.b1; have b2 := hSW.b2; have c0 := hSW.c0; have c1 := hSW.c1; have c2 := hSW.c2; have d0 := hSW.d0; have d1 := hSW.d1; have d2 := hSW.d2; go_simp; try rfl)
    try simp only [Act.put, List.setIfInBounds_toArray, List.set_cons_zero, List.set_cons_succ]
    refine held_take 16 ?_ rfl (by kernel_rfl) (by kernel_rfl) (by kernel_rfl) (fun _ _ _ h => h) (by rfl) ?_ hSc ?_
    rotate_left
    · (intro W hSW; have a0 := hSW.a0; have a1 := hSW.a1; have a2 := hSW.a2; have b0 := hSW.b0; have b1 := hSW.b1; have b2 := hSW.b2; have c0 := hSW.c0; have c1 := hSW.c1; have c2 := hSW.c2; have d0 := hSW.d0; have d1 := hSW.d1; have d2 := hSW.d2; go_simp; try rfl)
    try simp only [Act.put, List.setIfInBounds_toArray, List.set_cons_zero, List.set_cons_succ]
    refine held_take 17 ?_ rfl (by kernel_rfl) (by kernel_rfl) (by kernel_rfl) (fun _ _ _ h => h) (by rfl) ?_ hSc ?_
    rotate_left
    · (intro W hSW; have a0 := hSW.a0; have a1 := hSW.a1; have a2 := hSW.a2; have b0 := hSW.b0; have b1 := hSW.b1; have b2 := hSW.b2; have c0 := hSW.c0; have c1 := hSW.c1; have c2 := hSW.c2; have d0 := hSW.d0; have d1 := hSW.d1; have d2 := hSW.d2; go_simp; try rfl)
    try simp only [Act.put, List.setIfInBounds_toArray, List.set_cons_zero, List.set_cons_succ]
    refine held_take 18 ?_ rfl (by kernel_rfl) (by kernel_rfl) (by kernel_rfl) (fun _ _ _ h => h) (by rfl) ?_ hSc ?_
    rotate_left
    · (intro W hSW; have a0 := hSW.a0; have a1 := hSW.a1; have a2 := hSW.a2; have b0 := hSW.b0; have b1 := hSW.b1; have b2 := hSW.b2; have c0 := hSW.c0; have c1 := hSW.c1; have c2 := hSW.c2; have d0 := hSW.d0; have d1 := hSW.d1; have d2 := hSW.d2; go_simp; try rfl)
    try simp only [Act.put, List.setIfInBounds_toArray, List.set_cons_zero, List.set_cons_succ]
    refine held_take 19 ?_ rfl (by kernel_rfl) (by kernel_rfl) (by kernel_rfl) (fun _ _ _ h => h) (by rfl) ?_ hSc ?_
    rotate_left
    · (intro W hSW; have a0 := hSW.a0; have a1 := hSW.a1; have a2 := hSW.a2; have b0 := hSW.b0; have b1 := hSW.b1; have b2 := hSW.b2; have c0 := hSW.c0; have c1 := hSW.c1; have c2 := hSW.c2; have d0 := hSW.d0; have d1 := hSW.d1; have d2 := hSW.d2; go_simp; try rfl)
    try simp only [Act.put, List.setIfInBounds_toArray, List.set_cons_zero, List.set_cons_succ]
    refine held_take 20 ?_ rfl (by kernel_rfl) (by kernel_rfl) (by kernel_rfl) (fun _ _ _ h => h) (by rfl) ?_ hSc ?_
    rotate_left
    · (intro W hSW; have a0 := hSW.a0; have a1 := hSW.a1; have a2 := hSW.a2; have b0 := hSW.b0; have b1 := hSW.b1; have b2 := hSW.b2; have c0 := hSW.c0; have c1 := hSW.c1; have c2 := hSW.c2; have d0 := hSW.d0; have d1 := hSW.d1; have d2 := hSW.d2; go_simp; try rfl)
    try simp only [Act.put, List.setIfInBounds_toArray, List.set_cons_zero, List.set_cons_succ]
    refine held_take 21 ?_ rfl (by kernel_rfl) (by kernel_rfl) (by kernel_rfl) (fun _ _ _ h => h) (by rfl) ?_ hSc ?_
    rotate_left
    · (intro W hSW; have a0 := hSW.a0; have a1 := hSW.a1; have a2 := hSW.a2; have b0 := hSW.b0; have b1 := hSW.b1; have b2 := hSW.b2; have c0 := hSW.c0; have c1 := hSW.c1; have c2 := hSW.c2; have d0 := hSW.d0; have d1 := hSW.d1; have d2 := hSW.d2; go_simp; try rfl)
    try simp only [Act.put, List.setIfInBounds_toArray, List.set_cons_zero, List.set_cons_succ]
    refine held_take 22 ?_ rfl (by kernel_rfl) (by kernel_rfl) (by kernel_rfl) (fun _ _ _ h => h) (by rfl) ?_ hSc ?_
    rotate_left
    · (intro W hSW; have a0 := hSW.a0; have a1 := hSW.a1; have a2 := hSW.a2; have b0 := hSW.b0; have b1 := hSW.b1; have b2 := hSW.b2; have c0 := hSW.c0; have c1 := hSW.c1; have c2 := hSW.c2; have d0 := hSW.d0; have d1 := hSW.d1; have d2 := hSW.d2; go_simp; try rfl)
    try simp only [Act.put, List.setIfInBounds_toArray, List.set_cons_zero, List.set_cons_succ]
    refine held_take 23 ?_ rfl (by kernel_rfl) (by kernel_rfl) (by kernel_rfl) (fun _ _ _ h => h) (by rfl) ?_ hSc ?_
    rotate_left
    · (intro W hSW; have a0 := hSW.a0; have a1 := hSW.a1; have a2 := hSW.a2; have b0 := hSW.b0; have b1 := hSW.b1; have b2 := hSW.b2; have c0 := hSW.c0; have c1 := hSW.c1; have c2 := hSW.c2; have d0 := hSW.d0; have d1 := hSW.d1; have d2 := hSW.d2; go_simp; try rfl)
    try simp only [Act.put, List.setIfInBounds_toArray, List.set_cons_zero, List.set_cons_succ]
    refine held_take 24 ?_ rfl (by kernel_rfl) (by kernel_rfl) (by kernel_rfl) (fun _ _ _ h => h) (by rfl) ?_ hSc ?_
    rotate_left
    · (intro W hSW; have a0 := hSW.a0; have a1 := hSW.a1; have a2 := hSW.a2; have b0 := hSW.b0; have b1 := hSW.b1; have b2 := hSW.b2; have c0 := hSW.c0; have c1 := hSW.c1; have c2 := hSW.c2; have d0 := hSW.d0; have d1 := hSW.d1; have d2 := hSW.d2; go_simp; try rfl)
    try simp only [Act.put, List.setIfInBounds_toArray, List.set_cons_zero, List.set_cons_succ]
    refine held_take 25 ?_ rfl (by kernel_rfl) (by kernel_rfl) (by kernel_rfl) (fun _ _ _ h => h) (by rfl) ?_ hSc ?_
    rotate_left
    · (intro W hSW; have a0 := hSW.a0; have a1 := hSW.a1; have a2 := hSW.a2; have b0 := hSW.b0; have b1 := hSW.b1; have b2 := hSW.b2; have c0 := hSW.c0; have c1 := hSW.c1; have c2 := hSW.c2; have d0 := hSW.d0; have d1 := hSW.d1; have d2 := hSW.d2; go_simp; try rfl)
    try simp only [Act.put, List.setIfInBounds_toArray, List.set_cons_zero, List.set_cons_succ]
    refine held_take 26 ?_ rfl (by kernel_rfl) (by kernel_rfl) (by kernel_rfl) (fun _ _ _ h => h) (by rfl) ?_ hSc ?_
    rotate_left
    · (intro W hSW; have a0 := hSW.a0; have a1 := hSW.a1; have a2 := hSW.a2; have b0 := hSW.b0; have b1 := hSW.b1; have b2 := hSW.b2; have c0 := hSW.c0; have c1 := hSW.c1; have c2 := hSW.c2; have d0 := hSW.d0; have d1 := hSW.d1; have d2 := hSW.d2; go_simp; try rfl)
    try simp only [Act.put, List.setIfInBounds_toArray, List.set_cons_zero, List.set_cons_succ]
    refine held_take 27 ?_ rfl (by kernel_rfl) (by kernel_rfl) (by kernel_rfl) (fun _ _ _ h => h) (by rfl) ?_ hSc ?_
    rotate_left
    · (intro W hSW; have a0 := hSW.a0; have a1 := hSW.a1; have a2 := hSW.a2; have b0 := hSW.b0; have b1 := hSW.b1; have b2 := hSW.b2; have c0 := hSW.c0; have c1 := hSW.c1; have c2 := hSW.c2; have d0 := hSW.d0; have d1 := hSW.d1; have d2 := hSW.d2; go_simp; try rfl)
    try simp only [Act.put, List.setIfInBounds_toArray, List.set_cons_zero, List.set_cons_succ]
    refine held_take 28 ?_ rfl (by kernel_rfl) (by kernel_rfl) (by kernel_rfl) (fun _ _ _ h => h) (by rfl) ?_ hSc ?_
    rotate_left
    · (intro W hSW; have a0 := hSW.a0; have a1 := hSW.a1; have a2 := hSW.a2; have b0 := hSW.b0; have b1 := hSW.b1; have b2 := hSW.b2; have c0 := hSW.c0; have c1 := hSW.c1; have c2 := hSW.c2; have d0 := hSW.d0; have d1 := hSW.d1; have d2 := hSW.d2; go_simp; try rfl)
    try simp only [Act.put, List.setIfInBounds_toArray, List.set_cons_zero, List.set_cons_succ]
    refine held_next 29 rfl (by kernel_rfl) (by rfl) ?_
    go_simp
    refine (known_any _).mono ?_
    rintro e wq5 ⟨rfl, b⟩
    have hSd : (fun W => Bxo w W g5 g6 k0 n0 s0 k1 n1 s1) wq5 := hSc.step b
    refine ⟨fun W => Bxo w W g5 g6 k0 n0 s0 k1 n1 s1, fun W hW => hW, hSd, ?_⟩
    clear hSc b
    have hSc := hSd
    clear hSd
    try simp only [Act.put, List.setIfInBounds_toArray, List.set_cons_zero, List.set_cons_succ]
    refine held_take 30 ?_ rfl (by kernel_rfl) (by kernel_rfl) (by kernel_rfl) (fun _ _ _ h => h) (by rfl) ?_ hSc ?_
    rotate_left
    · (intro W hSW; go_simp; try rfl)
    try simp only [Act.put, List.setIfInBounds_toArray, List.set_cons_zero, List.set_cons_succ]
    refine held_next 31 rfl (by kernel_rfl) (by rfl) ?_
    go_simp
    refine ⟨fun W => Bxo w W g5 g6 k0 n0 s0 k1 n1 s1, fun W hW => hW, hSc, ?_⟩
    refine wpAnyH_done (by kernel_rfl) ?_ _
    go_wp2
    go_ret
    exact ⟨rfl, hSc.bx.below⟩

set_option maxHeartbeats 400000 in
theorem order_long0 (k0 n0 : Int) (s0 : ByteArray) (k1 n1 : Int) (s1 : ByteArray) (w : World) (hd0 : decide ((70000 : Int) < s0.size) = true) :
    Calls Try.prog 3 #[vV k0 n0 s0, vV k1 n1 s1] w fun e w' => e = .returned (.bool true) ∧ Below w.heap.size w w' := by
  go_enter Try.func3, Try.ntmps3
  go_wp2_with (go_at_call 7; refine (known_any _).mono ?_; rintro e w5 ⟨rfl, b5⟩)
  go_ret
  exact ⟨rfl, ((Bx2.new w k0 n0 s0 k1 n1 s1).step b5).below⟩
set_option maxHeartbeats 400000 in
theorem order_long1 (k0 n0 : Int) (s0 : ByteArray) (k1 n1 : Int) (s1 : ByteArray) (w : World) (hd0 : decide ((70000 : Int) < s0.size) = false) (hd1 : decide ((70000 : Int) < s1.size) = true) :
    Calls Try.prog 3 #[vV k0 n0 s0, vV k1 n1 s1] w fun e w' => e = .returned (.bool true) ∧ Below w.heap.size w w' := by
  go_enter Try.func3, Try.ntmps3
  go_wp2_with (go_at_call 7; refine (known_any _).mono ?_; rintro e w5 ⟨rfl, b5⟩)
  go_ret
  exact ⟨rfl, ((Bx2.new w k0 n0 s0 k1 n1 s1).step b5).below⟩
theorem order_any (k0 n0 : Int) (s0 : ByteArray) (k1 n1 : Int) (s1 : ByteArray) (w : World) :
    Calls Try.prog 3 #[vV k0 n0 s0, vV k1 n1 s1] w fun e w' => e = .returned (.bool true) ∧ Below w.heap.size w w' := by
  cases hd0 : decide ((70000 : Int) < s0.size) with
  | true => exact order_long0 k0 n0 s0 k1 n1 s1 w hd0
  | false =>
    cases hd1 : decide ((70000 : Int) < s1.size) with
    | true => exact order_long1 k0 n0 s0 k1 n1 s1 w hd0 hd1
    | false =>
      have h0 : s0.size ≤ 1000000000 := by have := of_decide_eq_false hd0; omega
      have h1 : s1.size ≤ 1000000000 := by have := of_decide_eq_false hd1; omega
      exact order_go k0 n0 s0 k1 n1 s1 w _ _ hd0 hd1 (fun W => may_any k0 n0 s0 W) (fun W => refmay_any k0 n0 s0 W) (fun W => compareV_any k0 n0 s0 k1 n1 s1 W) (fun W => refcompare_any k0 n0 s0 k1 n1 s1 W h0 h1)
end Go.Proofs.Ytigngijpbchlaaa
