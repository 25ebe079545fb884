/- Walks: the law ValuesThree. -/
import Derived.Test.YtigngijpbchlaaaLg
namespace Go.Proofs.Ytigngijpbchlaaa
open Go.RowKit
set_option linter.unusedVariables false

/-- The three blocks in which three values lie; older blocks are as they were. -/
structure Bx3 (w W : World) (k0 n0 : Int) (s0 : ByteArray) (k1 n1 : Int) (s1 : ByteArray) (k2 n2 : Int) (s2 : ByteArray) : Prop where
  below : Below w.heap.size w W
  r1 : Row W w.heap.size 23 #[.int .u8 k0, .int .i64 n0, .string s0]
  r2 : Row W (w.heap.size + 1) 23 #[.int .u8 k1, .int .i64 n1, .string s1]
  r3 : Row W (w.heap.size + 1 + 1) 23 #[.int .u8 k2, .int .i64 n2, .string s2]
section
variable {w W W' : World} {k0 n0 k1 n1 k2 n2 : Int} {s0 s1 s2 : ByteArray}
theorem Bx3.new (w : World) (k0 n0 : Int) (s0 : ByteArray) (k1 n1 : Int) (s1 : ByteArray) (k2 n2 : Int) (s2 : ByteArray) :
    Bx3 w (((w.alloc (.cells #[.int .u8 k0, .int .i64 n0, .string s0] 23)).alloc (.cells #[.int .u8 k1, .int .i64 n1, .string s1] 23)).alloc (.cells #[.int .u8 k2, .int .i64 n2, .string s2] 23)) k0 n0 s0 k1 n1 s1 k2 n2 s2 := by
  have B := Bx2.new w k0 n0 s0 k1 n1 s1
  have R := Row.new ((w.alloc (.cells #[.int .u8 k0, .int .i64 n0, .string s0] 23)).alloc (.cells #[.int .u8 k1, .int .i64 n1, .string s1] 23)) 23 #[.int .u8 k2, .int .i64 n2, .string s2]
  exact ⟨B.below.alloc (by have := B.lt; omega) _, B.r1.alloc _, B.r2.alloc _, by simpa using R⟩
theorem Bx3.a0 (h : Bx3 w W k0 n0 s0 k1 n1 s1 k2 n2 s2) : W.cell? ⟨w.heap.size, 0, none⟩ = some (.int .u8 k0) := by rw [h.r1.cell]; rfl
theorem Bx3.a1 (h : Bx3 w W k0 n0 s0 k1 n1 s1 k2 n2 s2) : W.cell? ⟨w.heap.size, 1, none⟩ = some (.int .i64 n0) := by rw [h.r1.cell]; rfl
theorem Bx3.a2 (h : Bx3 w W k0 n0 s0 k1 n1 s1 k2 n2 s2) : W.cell? ⟨w.heap.size, 2, none⟩ = some (.string s0) := by rw [h.r1.cell]; rfl
theorem Bx3.b0 (h : Bx3 w W k0 n0 s0 k1 n1 s1 k2 n2 s2) : W.cell? ⟨w.heap.size + 1, 0, none⟩ = some (.int .u8 k1) := by rw [h.r2.cell]; rfl
theorem Bx3.b1 (h : Bx3 w W k0 n0 s0 k1 n1 s1 k2 n2 s2) : W.cell? ⟨w.heap.size + 1, 1, none⟩ = some (.int .i64 n1) := by rw [h.r2.cell]; rfl
theorem Bx3.b2 (h : Bx3 w W k0 n0 s0 k1 n1 s1 k2 n2 s2) : W.cell? ⟨w.heap.size + 1, 2, none⟩ = some (.string s1) := by rw [h.r2.cell]; rfl
theorem Bx3.c0 (h : Bx3 w W k0 n0 s0 k1 n1 s1 k2 n2 s2) : W.cell? ⟨w.heap.size + 1 + 1, 0, none⟩ = some (.int .u8 k2) := by rw [h.r3.cell]; rfl
theorem Bx3.c1 (h : Bx3 w W k0 n0 s0 k1 n1 s1 k2 n2 s2) : W.cell? ⟨w.heap.size + 1 + 1, 1, none⟩ = some (.int .i64 n2) := by rw [h.r3.cell]; rfl
theorem Bx3.c2 (h : Bx3 w W k0 n0 s0 k1 n1 s1 k2 n2 s2) : W.cell? ⟨w.heap.size + 1 + 1, 2, none⟩ = some (.string s2) := by rw [h.r3.cell]; rfl
theorem Bx3.lt (h : Bx3 w W k0 n0 s0 k1 n1 s1 k2 n2 s2) : w.heap.size + 1 + 1 < W.heap.size := h.r3.lt
theorem Bx3.step (h : Bx3 w W k0 n0 s0 k1 n1 s1 k2 n2 s2) (b : Below W.heap.size W W') : Bx3 w W' k0 n0 s0 k1 n1 s1 k2 n2 s2 :=
  ⟨h.below.trans (b.mono (by have := h.lt; omega)), h.r1.below b h.r1.lt, h.r2.below b h.r2.lt, h.r3.below b h.r3.lt⟩
theorem Bx3.drew (h : Bx3 w W k0 n0 s0 k1 n1 s1 k2 n2 s2) : Bx3 w W.drew k0 n0 s0 k1 n1 s1 k2 n2 s2 := ⟨h.below.drew, h.r1, h.r2, h.r3⟩
end

set_option maxHeartbeats 1000000 in
theorem three_go (k0 n0 : Int) (s0 : ByteArray) (k1 n1 : Int) (s1 : ByteArray) (k2 n2 : Int) (s2 : ByteArray) (w : World)
    (X Y Z T : Int) (hT : T = -X) (hX : X = -1 ∨ X = 0 ∨ X = 1) (hY : Y = -1 ∨ Y = 0 ∨ Y = 1) (hZ : Z = -1 ∨ Z = 0 ∨ Z = 1)
    (hO : X ≤ 0 → Y ≤ 0 → Z ≤ 0 ∧ (Z = 0 → X = 0 ∧ Y = 0)) (hE : X = 0 ↔ k0 = k1 ∧ n0 = n1 ∧ bls s0 = bls s1)
    (h1 : ∀ W, Calls Try.prog 12 #[vV k0 n0 s0, vV k1 n1 s1] W fun e w' => e = .returned (.int .i64 X) ∧ Below W.heap.size W w')
    (h2 : ∀ W, Calls Try.prog 12 #[vV k1 n1 s1, vV k2 n2 s2] W fun e w' => e = .returned (.int .i64 Y) ∧ Below W.heap.size W w')
    (h3 : ∀ W, Calls Try.prog 12 #[vV k0 n0 s0, vV k2 n2 s2] W fun e w' => e = .returned (.int .i64 Z) ∧ Below W.heap.size W w')
    (h4 : ∀ W, Calls Try.prog 12 #[vV k1 n1 s1, vV k0 n0 s0] W fun e w' => e = .returned (.int .i64 T) ∧ Below W.heap.size W w')
    (hd : decide ((200000 : Int) < wrap64 (wrap64 ((s0.size : Int) + s1.size) + s2.size)) = false) :
    Calls Try.prog 5 #[vV k0 n0 s0, vV k1 n1 s1, vV k2 n2 s2] w fun e w' => e = .returned (.bool true) ∧ Below w.heap.size w w' := by
  have H1 := Lib.hid h1
  have H2 := Lib.hid h2
  have H3 := Lib.hid h3
  have H4 := Lib.hid h4
  have HT := Lib.hid hT
  have HE := Lib.hid hE
  have HX := Lib.hid hX
  have HY := Lib.hid hY
  have HZ := Lib.hid hZ
  have HO := Lib.hid hO
  clear h1 h2 h3 h4 hT hE hX hY hZ hO
  go_enter Try.func5, Try.ntmps5
  go_wp2_with fail
  have hSc := (Bx3.new w k0 n0 s0 k1 n1 s1 k2 n2 s2).drew
  refine wp_region_all (S := fun W => Bx3 w W k0 n0 s0 k1 n1 s1 k2 n2 s2) (by kernel_rfl) hSc (fun W0 hSc => ?_)
  refine held_take 0 ?_ rfl (by kernel_rfl) (by kernel_rfl) (by kernel_rfl) (fun _ _ _ h => h) (by rfl) ?_ hSc ?_
  rotate_left
  · (intro W hSW; have a0 := hSW.a0; have a1 := hSW.a1; have a2 := hSW.a2; have b0 := hSW.b0; have b1 := hSW.b1; have b2 := hSW.b2; have c0 := hSW.c0; have c1 := hSW.c1; have c2 := hSW.c2; go_simp; try rfl)
  try simp only [Act.put, List.setIfInBounds_toArray, List.set_cons_zero, List.set_cons_succ]
  refine held_take 1 ?_ rfl (by kernel_rfl) (by kernel_rfl) (by kernel_rfl) (fun _ _ _ h => h) (by rfl) ?_ hSc ?_
  rotate_left
  · (intro W hSW; have a0 := hSW.a0; have a1 := hSW.a1; have a2 := hSW.a2; have b0 := hSW.b0; have b1 := hSW.b1; have b2 := hSW.b2; have c0 := hSW.c0; have c1 := hSW.c1; have c2 := hSW.c2; go_simp; try rfl)
  try simp only [Act.put, List.setIfInBounds_toArray, List.set_cons_zero, List.set_cons_succ]
  refine held_take 3 ?_ rfl (by kernel_rfl) (by kernel_rfl) (by kernel_rfl) (fun _ _ _ h => h) (by rfl) ?_ hSc ?_
  rotate_left
  · (intro W hSW; have a0 := hSW.a0; have a1 := hSW.a1; have a2 := hSW.a2; have b0 := hSW.b0; have b1 := hSW.b1; have b2 := hSW.b2; have c0 := hSW.c0; have c1 := hSW.c1; have c2 := hSW.c2; go_simp; try rfl)
  try simp only [Act.put, List.setIfInBounds_toArray, List.set_cons_zero, List.set_cons_succ]
  refine held_take 4 ?_ rfl (by kernel_rfl) (by kernel_rfl) (by kernel_rfl) (fun _ _ _ h => h) (by rfl) ?_ hSc ?_
  rotate_left
  · (intro W hSW; have a0 := hSW.a0; have a1 := hSW.a1; have a2 := hSW.a2; have b0 := hSW.b0; have b1 := hSW.b1; have b2 := hSW.b2; have c0 := hSW.c0; have c1 := hSW.c1; have c2 := hSW.c2; go_simp; try rfl)
  try simp only [Act.put, List.setIfInBounds_toArray, List.set_cons_zero, List.set_cons_succ]
  refine held_take 6 ?_ rfl (by kernel_rfl) (by kernel_rfl) (by kernel_rfl) (fun _ _ _ h => h) (by rfl) ?_ hSc ?_
  rotate_left
  · (intro W hSW; have a0 := hSW.a0; have a1 := hSW.a1; have a2 := hSW.a2; have b0 := hSW.b0; have b1 := hSW.b1; have b2 := hSW.b2; have c0 := hSW.c0; have c1 := hSW.c1; have c2 := hSW.c2; go_simp; try rfl)
  try simp only [Act.put, List.setIfInBounds_toArray, List.set_cons_zero, List.set_cons_succ]
  refine held_take 7 ?_ rfl (by kernel_rfl) (by kernel_rfl) (by kernel_rfl) (fun _ _ _ h => h) (by rfl) ?_ hSc ?_
  rotate_left
  · (intro W hSW; have a0 := hSW.a0; have a1 := hSW.a1; have a2 := hSW.a2; have b0 := hSW.b0; have b1 := hSW.b1; have b2 := hSW.b2; have c0 := hSW.c0; have c1 := hSW.c1; have c2 := hSW.c2; go_simp; try rfl)
  try simp only [Act.put, List.setIfInBounds_toArray, List.set_cons_zero, List.set_cons_succ]
  refine held_next 2 rfl (by kernel_rfl) (by rfl) ?_
  go_simp
  refine (H1.out _).mono ?_
  rintro e wq1 ⟨rfl, b⟩
  have hSd : (fun W => Bx3 w W k0 n0 s0 k1 n1 s1 k2 n2 s2) wq1 := hSc.step b
  refine ⟨fun W => Bx3 w W k0 n0 s0 k1 n1 s1 k2 n2 s2, fun W hW => hW, hSd, ?_⟩
  clear hSc b
  have hSc := hSd
  clear hSd
  try simp only [Act.put, List.setIfInBounds_toArray, List.set_cons_zero, List.set_cons_succ]
  refine held_next 5 rfl (by kernel_rfl) (by rfl) ?_
  go_simp
  refine (H2.out _).mono ?_
  rintro e wq2 ⟨rfl, b⟩
  have hSd : (fun W => Bx3 w W k0 n0 s0 k1 n1 s1 k2 n2 s2) wq2 := hSc.step b
  refine ⟨fun W => Bx3 w W k0 n0 s0 k1 n1 s1 k2 n2 s2, fun W hW => hW, hSd, ?_⟩
  clear hSc b
  have hSc := hSd
  clear hSd
  try simp only [Act.put, List.setIfInBounds_toArray, List.set_cons_zero, List.set_cons_succ]
  refine held_next 8 rfl (by kernel_rfl) (by rfl) ?_
  go_simp
  refine (H3.out _).mono ?_
  rintro e wq3 ⟨rfl, b⟩
  have hSd : (fun W => Bx3 w W k0 n0 s0 k1 n1 s1 k2 n2 s2) wq3 := hSc.step b
  refine ⟨fun W => Bx3 w W k0 n0 s0 k1 n1 s1 k2 n2 s2, fun W hW => hW, hSd, ?_⟩
  clear hSc b
  have hSc := hSd
  clear hSd
  try simp only [Act.put, List.setIfInBounds_toArray, List.set_cons_zero, List.set_cons_succ]
  refine held_next 9 rfl (by kernel_rfl) (by rfl) ?_
  go_simp
  refine ⟨fun W => Bx3 w W k0 n0 s0 k1 n1 s1 k2 n2 s2, fun W hW => hW, hSc, ?_⟩
  try simp only [Act.put, List.setIfInBounds_toArray, List.set_cons_zero, List.set_cons_succ]
  refine held_next 10 rfl (by kernel_rfl) (by rfl) ?_
  go_simp
  refine ⟨fun W => Bx3 w W k0 n0 s0 k1 n1 s1 k2 n2 s2, fun W hW => hW, hSc, ?_⟩
  try simp only [Act.put, List.setIfInBounds_toArray, List.set_cons_zero, List.set_cons_succ]
  refine held_next 11 rfl (by kernel_rfl) (by rfl) ?_
  go_simp
  refine ⟨fun W => Bx3 w W k0 n0 s0 k1 n1 s1 k2 n2 s2, fun W hW => hW, hSc, ?_⟩
  refine wpAnyH_done (by kernel_rfl) ?_ _
  have a0 := hSc.a0
  have a1 := hSc.a1
  have a2 := hSc.a2
  have b0 := hSc.b0
  have b1 := hSc.b1
  have b2 := hSc.b2
  have c0 := hSc.c0
  have c1 := hSc.c1
  have c2 := hSc.c2
  have HS := Lib.hid hSc
  clear hSc
  rcases HX.out with hX | hX | hX
  · subst hX
    obtain rfl : T = 1 := by have := HT.out; omega
    have hne : ¬ (k0 = k1 ∧ n0 = n1 ∧ bls s0 = bls s1) := fun h => by have := HE.out.2 h; omega
    by_cases hk : k0 = k1
    · subst hk
      by_cases hn : n0 = n1
      · subst hn
        have hq : (s0.toList == s1.toList) = false := by rw [beq_eq_false_iff_ne, bls_list, bls_list]; exact fun h => hne ⟨rfl, rfl, h⟩
        have hq2 : (k0 == k0) = true := by simp
        have hq3 : (n0 == n0) = true := by simp
        clear hne
        rcases HY.out with hY | hY | hY
        · subst hY
          obtain rfl : Z = -1 := by have h1 := HO.out (by omega) (by omega); rcases HZ.out with h | h | h <;> omega
          go_wp2_with (first | (go_at_call 12; refine (H4.out _).mono ?_; rintro e w4 ⟨rfl, b4⟩; have hS2 := HS.out.step b4; have a0' := hS2.a0; have a1' := hS2.a1; have a2' := hS2.a2; have b0' := hS2.b0; have b1' := hS2.b1; have b2' := hS2.b2; have HS2 := Lib.hid hS2; clear hS2 b4 H4) | (go_at_call 7; refine (known_any _).mono ?_; rintro e w5 ⟨rfl, b5⟩))
          go_ret
          exact ⟨rfl, (HS2.out.step b5).below⟩
        · subst hY
          obtain rfl : Z = -1 := by have h1 := HO.out (by omega) (by omega); rcases HZ.out with h | h | h <;> omega
          go_wp2_with (first | (go_at_call 12; refine (H4.out _).mono ?_; rintro e w4 ⟨rfl, b4⟩; have hS2 := HS.out.step b4; have a0' := hS2.a0; have a1' := hS2.a1; have a2' := hS2.a2; have b0' := hS2.b0; have b1' := hS2.b1; have b2' := hS2.b2; have HS2 := Lib.hid hS2; clear hS2 b4 H4) | (go_at_call 7; refine (known_any _).mono ?_; rintro e w5 ⟨rfl, b5⟩))
          go_ret
          exact ⟨rfl, (HS2.out.step b5).below⟩
        · subst hY
          go_wp2_with (first | (go_at_call 12; refine (H4.out _).mono ?_; rintro e w4 ⟨rfl, b4⟩; have hS2 := HS.out.step b4; have a0' := hS2.a0; have a1' := hS2.a1; have a2' := hS2.a2; have b0' := hS2.b0; have b1' := hS2.b1; have b2' := hS2.b2; have HS2 := Lib.hid hS2; clear hS2 b4 H4) | (go_at_call 7; refine (known_any _).mono ?_; rintro e w5 ⟨rfl, b5⟩))
          go_ret
          exact ⟨rfl, (HS2.out.step b5).below⟩
      · have hq : (n0 == n1) = false := by simp [hn]
        have hq2 : (k0 == k0) = true := by simp
        clear hne
        rcases HY.out with hY | hY | hY
        · subst hY
          obtain rfl : Z = -1 := by have h1 := HO.out (by omega) (by omega); rcases HZ.out with h | h | h <;> omega
          go_wp2_with (first | (go_at_call 12; refine (H4.out _).mono ?_; rintro e w4 ⟨rfl, b4⟩; have hS2 := HS.out.step b4; have a0' := hS2.a0; have a1' := hS2.a1; have a2' := hS2.a2; have b0' := hS2.b0; have b1' := hS2.b1; have b2' := hS2.b2; have HS2 := Lib.hid hS2; clear hS2 b4 H4) | (go_at_call 7; refine (known_any _).mono ?_; rintro e w5 ⟨rfl, b5⟩))
          go_ret
          exact ⟨rfl, (HS2.out.step b5).below⟩
        · subst hY
          obtain rfl : Z = -1 := by have h1 := HO.out (by omega) (by omega); rcases HZ.out with h | h | h <;> omega
          go_wp2_with (first | (go_at_call 12; refine (H4.out _).mono ?_; rintro e w4 ⟨rfl, b4⟩; have hS2 := HS.out.step b4; have a0' := hS2.a0; have a1' := hS2.a1; have a2' := hS2.a2; have b0' := hS2.b0; have b1' := hS2.b1; have b2' := hS2.b2; have HS2 := Lib.hid hS2; clear hS2 b4 H4) | (go_at_call 7; refine (known_any _).mono ?_; rintro e w5 ⟨rfl, b5⟩))
          go_ret
          exact ⟨rfl, (HS2.out.step b5).below⟩
        · subst hY
          go_wp2_with (first | (go_at_call 12; refine (H4.out _).mono ?_; rintro e w4 ⟨rfl, b4⟩; have hS2 := HS.out.step b4; have a0' := hS2.a0; have a1' := hS2.a1; have a2' := hS2.a2; have b0' := hS2.b0; have b1' := hS2.b1; have b2' := hS2.b2; have HS2 := Lib.hid hS2; clear hS2 b4 H4) | (go_at_call 7; refine (known_any _).mono ?_; rintro e w5 ⟨rfl, b5⟩))
          go_ret
          exact ⟨rfl, (HS2.out.step b5).below⟩
    · have hq : (k0 == k1) = false := by simp [hk]
      clear hne
      rcases HY.out with hY | hY | hY
      · subst hY
        obtain rfl : Z = -1 := by have h1 := HO.out (by omega) (by omega); rcases HZ.out with h | h | h <;> omega
        go_wp2_with (first | (go_at_call 12; refine (H4.out _).mono ?_; rintro e w4 ⟨rfl, b4⟩; have hS2 := HS.out.step b4; have a0' := hS2.a0; have a1' := hS2.a1; have a2' := hS2.a2; have b0' := hS2.b0; have b1' := hS2.b1; have b2' := hS2.b2; have HS2 := Lib.hid hS2; clear hS2 b4 H4) | (go_at_call 7; refine (known_any _).mono ?_; rintro e w5 ⟨rfl, b5⟩))
        go_ret
        exact ⟨rfl, (HS2.out.step b5).below⟩
      · subst hY
        obtain rfl : Z = -1 := by have h1 := HO.out (by omega) (by omega); rcases HZ.out with h | h | h <;> omega
        go_wp2_with (first | (go_at_call 12; refine (H4.out _).mono ?_; rintro e w4 ⟨rfl, b4⟩; have hS2 := HS.out.step b4; have a0' := hS2.a0; have a1' := hS2.a1; have a2' := hS2.a2; have b0' := hS2.b0; have b1' := hS2.b1; have b2' := hS2.b2; have HS2 := Lib.hid hS2; clear hS2 b4 H4) | (go_at_call 7; refine (known_any _).mono ?_; rintro e w5 ⟨rfl, b5⟩))
        go_ret
        exact ⟨rfl, (HS2.out.step b5).below⟩
      · subst hY
        go_wp2_with (first | (go_at_call 12; refine (H4.out _).mono ?_; rintro e w4 ⟨rfl, b4⟩; have hS2 := HS.out.step b4; have a0' := hS2.a0; have a1' := hS2.a1; have a2' := hS2.a2; have b0' := hS2.b0; have b1' := hS2.b1; have b2' := hS2.b2; have HS2 := Lib.hid hS2; clear hS2 b4 H4) | (go_at_call 7; refine (known_any _).mono ?_; rintro e w5 ⟨rfl, b5⟩))
        go_ret
        exact ⟨rfl, (HS2.out.step b5).below⟩
  · subst hX
    obtain rfl : T = 0 := by have := HT.out; omega
    obtain ⟨hk, hn, hs⟩ := HE.out.1 rfl
    subst hk hn
    have hq : (s0.toList == s1.toList) = true := by rw [beq_iff_eq, bls_list, bls_list]; exact hs
    have hq2 : (k0 == k0) = true := by simp
    have hq3 : (n0 == n0) = true := by simp
    clear hs
    rcases HY.out with hY | hY | hY
    · subst hY
      obtain rfl : Z = -1 := by have h1 := HO.out (by omega) (by omega); rcases HZ.out with h | h | h <;> omega
      go_wp2_with (first | (go_at_call 12; refine (H4.out _).mono ?_; rintro e w4 ⟨rfl, b4⟩; have hS2 := HS.out.step b4; have a0' := hS2.a0; have a1' := hS2.a1; have a2' := hS2.a2; have b0' := hS2.b0; have b1' := hS2.b1; have b2' := hS2.b2; have HS2 := Lib.hid hS2; clear hS2 b4 H4) | (go_at_call 7; refine (known_any _).mono ?_; rintro e w5 ⟨rfl, b5⟩))
      go_ret
      exact ⟨rfl, (HS2.out.step b5).below⟩
    · subst hY
      rcases HZ.out with hZ | hZ | hZ
      · subst hZ
        go_wp2_with (first | (go_at_call 12; refine (H4.out _).mono ?_; rintro e w4 ⟨rfl, b4⟩; have hS2 := HS.out.step b4; have a0' := hS2.a0; have a1' := hS2.a1; have a2' := hS2.a2; have b0' := hS2.b0; have b1' := hS2.b1; have b2' := hS2.b2; have HS2 := Lib.hid hS2; clear hS2 b4 H4) | (go_at_call 7; refine (known_any _).mono ?_; rintro e w5 ⟨rfl, b5⟩))
        go_ret
        exact ⟨rfl, (HS2.out.step b5).below⟩
      · subst hZ
        go_wp2_with (first | (go_at_call 12; refine (H4.out _).mono ?_; rintro e w4 ⟨rfl, b4⟩; have hS2 := HS.out.step b4; have a0' := hS2.a0; have a1' := hS2.a1; have a2' := hS2.a2; have b0' := hS2.b0; have b1' := hS2.b1; have b2' := hS2.b2; have HS2 := Lib.hid hS2; clear hS2 b4 H4) | (go_at_call 7; refine (known_any _).mono ?_; rintro e w5 ⟨rfl, b5⟩))
        go_ret
        exact ⟨rfl, (HS2.out.step b5).below⟩
      · subst hZ
        exact absurd (HO.out (by omega) (by omega)).1 (by omega)
    · subst hY
      go_wp2_with (first | (go_at_call 12; refine (H4.out _).mono ?_; rintro e w4 ⟨rfl, b4⟩; have hS2 := HS.out.step b4; have a0' := hS2.a0; have a1' := hS2.a1; have a2' := hS2.a2; have b0' := hS2.b0; have b1' := hS2.b1; have b2' := hS2.b2; have HS2 := Lib.hid hS2; clear hS2 b4 H4) | (go_at_call 7; refine (known_any _).mono ?_; rintro e w5 ⟨rfl, b5⟩))
      go_ret
      exact ⟨rfl, (HS2.out.step b5).below⟩
  · subst hX
    obtain rfl : T = (-1) := by have := HT.out; omega
    have hne : ¬ (k0 = k1 ∧ n0 = n1 ∧ bls s0 = bls s1) := fun h => by have := HE.out.2 h; omega
    by_cases hk : k0 = k1
    · subst hk
      by_cases hn : n0 = n1
      · subst hn
        have hq : (s0.toList == s1.toList) = false := by rw [beq_eq_false_iff_ne, bls_list, bls_list]; exact fun h => hne ⟨rfl, rfl, h⟩
        have hq2 : (k0 == k0) = true := by simp
        have hq3 : (n0 == n0) = true := by simp
        clear hne
        go_wp2_with (first | (go_at_call 12; refine (H4.out _).mono ?_; rintro e w4 ⟨rfl, b4⟩; have hS2 := HS.out.step b4; have a0' := hS2.a0; have a1' := hS2.a1; have a2' := hS2.a2; have b0' := hS2.b0; have b1' := hS2.b1; have b2' := hS2.b2; have HS2 := Lib.hid hS2; clear hS2 b4 H4) | (go_at_call 7; refine (known_any _).mono ?_; rintro e w5 ⟨rfl, b5⟩))
        go_ret
        exact ⟨rfl, (HS2.out.step b5).below⟩
      · have hq : (n0 == n1) = false := by simp [hn]
        have hq2 : (k0 == k0) = true := by simp
        clear hne
        go_wp2_with (first | (go_at_call 12; refine (H4.out _).mono ?_; rintro e w4 ⟨rfl, b4⟩; have hS2 := HS.out.step b4; have a0' := hS2.a0; have a1' := hS2.a1; have a2' := hS2.a2; have b0' := hS2.b0; have b1' := hS2.b1; have b2' := hS2.b2; have HS2 := Lib.hid hS2; clear hS2 b4 H4) | (go_at_call 7; refine (known_any _).mono ?_; rintro e w5 ⟨rfl, b5⟩))
        go_ret
        exact ⟨rfl, (HS2.out.step b5).below⟩
    · have hq : (k0 == k1) = false := by simp [hk]
      clear hne
      go_wp2_with (first | (go_at_call 12; refine (H4.out _).mono ?_; rintro e w4 ⟨rfl, b4⟩; have hS2 := HS.out.step b4; have a0' := hS2.a0; have a1' := hS2.a1; have a2' := hS2.a2; have b0' := hS2.b0; have b1' := hS2.b1; have b2' := hS2.b2; have HS2 := Lib.hid hS2; clear hS2 b4 H4) | (go_at_call 7; refine (known_any _).mono ?_; rintro e w5 ⟨rfl, b5⟩))
      go_ret
      exact ⟨rfl, (HS2.out.step b5).below⟩

set_option maxHeartbeats 400000 in
theorem three_long (k0 n0 : Int) (s0 : ByteArray) (k1 n1 : Int) (s1 : ByteArray) (k2 n2 : Int) (s2 : ByteArray) (w : World)
    (hd : decide ((200000 : Int) < wrap64 (wrap64 ((s0.size : Int) + s1.size) + s2.size)) = true) :
    Calls Try.prog 5 #[vV k0 n0 s0, vV k1 n1 s1, vV k2 n2 s2] w fun e w' => e = .returned (.bool true) ∧ Below w.heap.size w w' := by
  go_enter Try.func5, Try.ntmps5
  go_wp2_with (go_at_call 7; refine (known_any _).mono ?_; rintro e w5 ⟨rfl, b5⟩)
  go_ret
  exact ⟨rfl, ((Bx3.new w k0 n0 s0 k1 n1 s1 k2 n2 s2).step b5).below⟩
theorem three_any (k0 n0 : Int) (s0 : ByteArray) (k1 n1 : Int) (s1 : ByteArray) (k2 n2 : Int) (s2 : ByteArray) (w : World) :
    Calls Try.prog 5 #[vV k0 n0 s0, vV k1 n1 s1, vV k2 n2 s2] w fun e w' => e = .returned (.bool true) ∧ Below w.heap.size w w' := by
  cases hd : decide ((200000 : Int) < wrap64 (wrap64 ((s0.size : Int) + s1.size) + s2.size)) with
  | true => exact three_long k0 n0 s0 k1 n1 s1 k2 n2 s2 w hd
  | false => exact three_go k0 n0 s0 k1 n1 s1 k2 n2 s2 w _ _ _ _ (cmpV_turn _ _ _ _ _ _) (cmpV_three _ _ _ _ _ _) (cmpV_three _ _ _ _ _ _) (cmpV_three _ _ _ _ _ _) (fun h1 h2 => cmpV_over _ _ _ _ _ _ _ _ _ h1 h2) cmpV_zero (fun W => compareV_any k0 n0 s0 k1 n1 s1 W) (fun W => compareV_any k1 n1 s1 k2 n2 s2 W) (fun W => compareV_any k0 n0 s0 k2 n2 s2 W) (fun W => compareV_any k1 n1 s1 k0 n0 s0 W) hd
end Go.Proofs.Ytigngijpbchlaaa
