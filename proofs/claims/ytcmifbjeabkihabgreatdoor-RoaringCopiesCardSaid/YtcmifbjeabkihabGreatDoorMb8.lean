/- Walks: a container as one of another kind; flipped by words and by runs; an array with a number more; the size. -/
import Derived.Test.YtcmifbjeabkihabGreatDoorMb1
import Derived.Test.YtcmifbjeabkihabGreatDoorMb7
namespace Go.Proofs.YtcmifbjeabkihabGreatDoor
open Go.RowKit
set_option linter.unusedVariables false

set_option maxHeartbeats 1000000 in
theorem toArrays_c {N : Nat → Prop} (v : Value) (p : Nat → Bool) (k : Nat) (w : World) (hT : Tb w) (hN : ∀ b, w.heap.size ≤ b → N b) (h : Cn N w v p k) :
    Calls Tryz.prog 102 #[v] w fun e w' => ∃ v', e = .returned v' ∧ Cn N w' v' p 1 ∧ Below w.heap.size w w' := by
  obtain ⟨κ, A, n, c, A2, n2, c2, A3, n3, c3, rfl⟩ := h.form
  have H := Lib.hid h
  have TT := Lib.hid hT
  have NN := Lib.hid hN
  have T := two_blocks w #[.int .u8 κ, .slice A n c, .slice A2 n2 c2, .slice A3 n3 c3] #[.int .u8 0, .slice none 0 0, .slice none 0 0, .slice none 0 0] 55 55
  clear h hT hN
  go_enter Tryz.func102, Tryz.ntmps102
  go_wp2_with fail
  generalize (w.alloc (.cells #[.int .u8 κ, .slice A n c, .slice A2 n2 c2, .slice A3 n3 c3] 55)).alloc (.cells #[.int .u8 0, .slice none 0 0, .slice none 0 0, .slice none 0 0] 55) = W0 at *
  obtain ⟨b0, r0, r1⟩ := T
  have lg := r1.lt
  have RR := Lib.hid r1
  have BB := Lib.hid b0
  clear b0 r0 r1
  refine (array_c _ p k _ _ (TT.out.step BB.out) rfl (H.out.step BB.out)).mono ?_
  rintro e u1 ⟨X1, x1, rfl, g, b⟩
  have G1 := Lib.hid g
  have L := Lib.hid (Nat.le_refl _ : W0.heap.size ≤ W0.heap.size)
  have RR := Lib.hid (RR.out.below b RR.out.lt)
  have BB := Lib.hid (below_both BB.out b)
  have hs1 := b.size
  clear b g
  go_wp2_with fail
  refine (ofArray_v _ _ _ _).mono ?_
  rintro e u2 ⟨rfl, b⟩
  have G2 := Lib.hid (G1.out.stp b)
  have RR := Lib.hid (RR.out.below b RR.out.lt)
  have BB := Lib.hid (below_both BB.out b)
  clear b
  have d0 : u2.cell? ⟨w.heap.size + 1, 0, none⟩ = some (.int .u8 0) := RR.out.cell 0
  have d1 : u2.cell? ⟨w.heap.size + 1, 1, none⟩ = some (.slice none 0 0) := RR.out.cell 1
  have d2 : u2.cell? ⟨w.heap.size + 1, 2, none⟩ = some (.slice none 0 0) := RR.out.cell 2
  have d3 : u2.cell? ⟨w.heap.size + 1, 3, none⟩ = some (.slice none 0 0) := RR.out.cell 3
  have e0 := RR.out.frozen 0
  have e1 := RR.out.frozen 1
  have e2 := RR.out.frozen 2
  have e3 := RR.out.frozen 3
  go_wp2
  have S4 := set4 (a' := .int .u8 1) (b' := .slice X1 (ct p 65536) x1) (c' := .slice none 0 0) (d' := .slice none 0 0) RR.out
  have B5 := Lib.hid (BB.out.grown S4.2 BB.out.size (fun j e => by injection e with e; subst e; omega))
  exact bodyPost_ret (ret_row rfl rfl S4.1) rfl ⟨_, rfl, Cn.arr 1 _ _ _ (.inr rfl) rfl (Gp.of (G2.out.grown S4.2 (Nat.le_refl _) (fun j e => by injection e with e; subst e; exact .inl (by omega))) S4.2.size (fun b hb _ => NN.out b (by omega))), B5.out⟩

set_option maxHeartbeats 1000000 in
theorem toWords_c {N : Nat → Prop} (v : Value) (p : Nat → Bool) (k : Nat) (w : World) (hT : Tb w) (hN : ∀ b, w.heap.size ≤ b → N b) (h : Cn N w v p k) :
    Calls Tryz.prog 103 #[v] w fun e w' => ∃ v', e = .returned v' ∧ Cn N w' v' p 2 ∧ Below w.heap.size w w' := by
  obtain ⟨κ, A, n, c, A2, n2, c2, A3, n3, c3, rfl⟩ := h.form
  have H := Lib.hid h
  have TT := Lib.hid hT
  have NN := Lib.hid hN
  have T := two_blocks w #[.int .u8 κ, .slice A n c, .slice A2 n2 c2, .slice A3 n3 c3] #[.int .u8 0, .slice none 0 0, .slice none 0 0, .slice none 0 0] 55 55
  clear h hT hN
  go_enter Tryz.func103, Tryz.ntmps103
  go_wp2_with fail
  generalize (w.alloc (.cells #[.int .u8 κ, .slice A n c, .slice A2 n2 c2, .slice A3 n3 c3] 55)).alloc (.cells #[.int .u8 0, .slice none 0 0, .slice none 0 0, .slice none 0 0] 55) = W0 at *
  obtain ⟨b0, r0, r1⟩ := T
  have lg := r1.lt
  have RR := Lib.hid r1
  have BB := Lib.hid b0
  clear b0 r0 r1
  refine (words_c _ p k _ (H.out.step BB.out)).mono ?_
  rintro e u1 ⟨X1, x1, rfl, g, b⟩
  have G1 := Lib.hid g
  have L := Lib.hid (Nat.le_refl _ : W0.heap.size ≤ W0.heap.size)
  have RR := Lib.hid (RR.out.below b RR.out.lt)
  have BB := Lib.hid (below_both BB.out b)
  have hs1 := b.size
  clear b g
  go_wp2_with fail
  refine (ofWords_v _ _ _ _).mono ?_
  rintro e u2 ⟨rfl, b⟩
  have G2 := Lib.hid (G1.out.stp b)
  have RR := Lib.hid (RR.out.below b RR.out.lt)
  have BB := Lib.hid (below_both BB.out b)
  clear b
  have d0 : u2.cell? ⟨w.heap.size + 1, 0, none⟩ = some (.int .u8 0) := RR.out.cell 0
  have d1 : u2.cell? ⟨w.heap.size + 1, 1, none⟩ = some (.slice none 0 0) := RR.out.cell 1
  have d2 : u2.cell? ⟨w.heap.size + 1, 2, none⟩ = some (.slice none 0 0) := RR.out.cell 2
  have d3 : u2.cell? ⟨w.heap.size + 1, 3, none⟩ = some (.slice none 0 0) := RR.out.cell 3
  have e0 := RR.out.frozen 0
  have e1 := RR.out.frozen 1
  have e2 := RR.out.frozen 2
  have e3 := RR.out.frozen 3
  go_wp2
  have S4 := set4 (a' := .int .u8 2) (b' := .slice none 0 0) (c' := .slice X1 1024 x1) (d' := .slice none 0 0) RR.out
  have B5 := Lib.hid (BB.out.grown S4.2 BB.out.size (fun j e => by injection e with e; subst e; omega))
  exact bodyPost_ret (ret_row rfl rfl S4.1) rfl ⟨_, rfl, Cn.wrd _ _ (Gp.of (G2.out.grown S4.2 (Nat.le_refl _) (fun j e => by injection e with e; subst e; exact .inl (by omega))) S4.2.size (fun b hb _ => NN.out b (by omega))), B5.out⟩

set_option maxHeartbeats 1000000 in
theorem toRuns_c {N : Nat → Prop} (v : Value) (p : Nat → Bool) (k : Nat) (w : World) (hT : Tb w) (hN : ∀ b, w.heap.size ≤ b → N b) (h : Cn N w v p k) :
    Calls Tryz.prog 104 #[v] w fun e w' => ∃ v', e = .returned v' ∧ Cn N w' v' p 3 ∧ Below w.heap.size w w' := by
  obtain ⟨κ, A, n, c, A2, n2, c2, A3, n3, c3, rfl⟩ := h.form
  have H := Lib.hid h
  have TT := Lib.hid hT
  have NN := Lib.hid hN
  have T := two_blocks w #[.int .u8 κ, .slice A n c, .slice A2 n2 c2, .slice A3 n3 c3] #[.int .u8 0, .slice none 0 0, .slice none 0 0, .slice none 0 0] 55 55
  clear h hT hN
  go_enter Tryz.func104, Tryz.ntmps104
  go_wp2_with fail
  generalize (w.alloc (.cells #[.int .u8 κ, .slice A n c, .slice A2 n2 c2, .slice A3 n3 c3] 55)).alloc (.cells #[.int .u8 0, .slice none 0 0, .slice none 0 0, .slice none 0 0] 55) = W0 at *
  obtain ⟨b0, r0, r1⟩ := T
  have lg := r1.lt
  have RR := Lib.hid r1
  have BB := Lib.hid b0
  clear b0 r0 r1
  refine (runs_c _ p k _ _ (TT.out.step BB.out) rfl (H.out.step BB.out)).mono ?_
  rintro e u1 ⟨X1, x1, rfl, g, b⟩
  have G1 := Lib.hid g
  have L := Lib.hid (Nat.le_refl _ : W0.heap.size ≤ W0.heap.size)
  have RR := Lib.hid (RR.out.below b RR.out.lt)
  have BB := Lib.hid (below_both BB.out b)
  have hs1 := b.size
  clear b g
  go_wp2_with fail
  refine (ofRuns_v _ _ _ _).mono ?_
  rintro e u2 ⟨rfl, b⟩
  have G2 := Lib.hid (G1.out.stp b)
  have RR := Lib.hid (RR.out.below b RR.out.lt)
  have BB := Lib.hid (below_both BB.out b)
  clear b
  have d0 : u2.cell? ⟨w.heap.size + 1, 0, none⟩ = some (.int .u8 0) := RR.out.cell 0
  have d1 : u2.cell? ⟨w.heap.size + 1, 1, none⟩ = some (.slice none 0 0) := RR.out.cell 1
  have d2 : u2.cell? ⟨w.heap.size + 1, 2, none⟩ = some (.slice none 0 0) := RR.out.cell 2
  have d3 : u2.cell? ⟨w.heap.size + 1, 3, none⟩ = some (.slice none 0 0) := RR.out.cell 3
  have e0 := RR.out.frozen 0
  have e1 := RR.out.frozen 1
  have e2 := RR.out.frozen 2
  have e3 := RR.out.frozen 3
  go_wp2
  have S4 := set4 (a' := .int .u8 3) (b' := .slice none 0 0) (c' := .slice none 0 0) (d' := .slice X1 (ct (hm p) 65536) x1) RR.out
  have B5 := Lib.hid (BB.out.grown S4.2 BB.out.size (fun j e => by injection e with e; subst e; omega))
  exact bodyPost_ret (ret_row rfl rfl S4.1) rfl ⟨_, rfl, Cn.run _ _ _ rfl (Gp2.of (G2.out.grown S4.2 (Nat.le_refl _) (fun j e => by injection e with e; subst e; exact .inl (by omega))) S4.2.size (fun b hb _ => NN.out b (by omega))), B5.out⟩

set_option maxHeartbeats 1000000 in
theorem flippedByRuns_c {N : Nat → Prop} (v : Value) (p : Nat → Bool) (k : Nat) (x y : Int) (w : World) (hT : Tb w) (hN : ∀ b, w.heap.size ≤ b → N b) (h : Cn N w v p k) :
    Calls Tryz.prog 162 #[v, .int .i64 x, .int .i64 y] w fun e w' => ∃ v', e = .returned v' ∧ Cn N w' v' (flp p x y) 3 ∧ Below w.heap.size w w' := by
  obtain ⟨κ, A, n, c, A2, n2, c2, A3, n3, c3, rfl⟩ := h.form
  have H := Lib.hid h
  have TT := Lib.hid hT
  have NN := Lib.hid hN
  have T := two_blocks w #[.int .u8 κ, .slice A n c, .slice A2 n2 c2, .slice A3 n3 c3] #[.int .u8 0, .slice none 0 0, .slice none 0 0, .slice none 0 0] 55 55
  clear h hT hN
  go_enter Tryz.func162, Tryz.ntmps162
  go_wp2_with fail
  generalize (w.alloc (.cells #[.int .u8 κ, .slice A n c, .slice A2 n2 c2, .slice A3 n3 c3] 55)).alloc (.cells #[.int .u8 0, .slice none 0 0, .slice none 0 0, .slice none 0 0] 55) = W0 at *
  obtain ⟨b0, r0, r1⟩ := T
  have lg := r1.lt
  have RR := Lib.hid r1
  have BB := Lib.hid b0
  clear b0 r0 r1
  refine (runs_c _ p k _ _ (TT.out.step BB.out) rfl (H.out.step BB.out)).mono ?_
  rintro e u1 ⟨X1, x1, rfl, g, b⟩
  have G1 := Lib.hid g
  have RR := Lib.hid (RR.out.below b RR.out.lt)
  have BB := Lib.hid (below_both BB.out b)
  have hs1 := b.size
  clear b g
  go_wp2_with fail
  refine (srflip _ p _ x y _ _ G1.out rfl).mono ?_
  rintro e u2 ⟨X2, x2, rfl, g, b⟩
  have G2 := Lib.hid g
  have L := Lib.hid (Nat.le_refl _ : u1.heap.size ≤ u1.heap.size)
  have RR := Lib.hid (RR.out.below b RR.out.lt)
  have BB := Lib.hid (below_both BB.out b)
  have hs2 := b.size
  clear b g
  go_wp2_with fail
  refine (ofRuns_v _ _ _ _).mono ?_
  rintro e u3 ⟨rfl, b⟩
  have G3 := Lib.hid (G2.out.stp b)
  have RR := Lib.hid (RR.out.below b RR.out.lt)
  have BB := Lib.hid (below_both BB.out b)
  clear b
  have d0 : u3.cell? ⟨w.heap.size + 1, 0, none⟩ = some (.int .u8 0) := RR.out.cell 0
  have d1 : u3.cell? ⟨w.heap.size + 1, 1, none⟩ = some (.slice none 0 0) := RR.out.cell 1
  have d2 : u3.cell? ⟨w.heap.size + 1, 2, none⟩ = some (.slice none 0 0) := RR.out.cell 2
  have d3 : u3.cell? ⟨w.heap.size + 1, 3, none⟩ = some (.slice none 0 0) := RR.out.cell 3
  have e0 := RR.out.frozen 0
  have e1 := RR.out.frozen 1
  have e2 := RR.out.frozen 2
  have e3 := RR.out.frozen 3
  go_wp2
  have S4 := set4 (a' := .int .u8 3) (b' := .slice none 0 0) (c' := .slice none 0 0) (d' := .slice X2 (ct (hm (flp p x y)) 65536) x2) RR.out
  have B5 := Lib.hid (BB.out.grown S4.2 BB.out.size (fun j e => by injection e with e; subst e; omega))
  exact bodyPost_ret (ret_row rfl rfl S4.1) rfl ⟨_, rfl, Cn.run _ _ _ rfl (Gp2.of (G3.out.grown S4.2 (Nat.le_refl _) (fun j e => by injection e with e; subst e; exact .inl (by omega))) S4.2.size (fun b hb _ => NN.out b (by omega))), B5.out⟩

set_option maxHeartbeats 1000000 in
theorem flippedByWords_c {N : Nat → Prop} (v : Value) (p : Nat → Bool) (k : Nat) (x y : Int) (w : World) (hT : Tb w) (hN : ∀ b, w.heap.size ≤ b → N b) (h : Cn N w v p k) :
    Calls Tryz.prog 163 #[v, .int .i64 x, .int .i64 y] w fun e w' => ∃ v', e = .returned v' ∧ Cn N w' v' (flp p x y) 2 ∧ Below w.heap.size w w' := by
  obtain ⟨κ, A, n, c, A2, n2, c2, A3, n3, c3, rfl⟩ := h.form
  have H := Lib.hid h
  have TT := Lib.hid hT
  have NN := Lib.hid hN
  have T := two_blocks w #[.int .u8 κ, .slice A n c, .slice A2 n2 c2, .slice A3 n3 c3] #[.int .u8 0, .slice none 0 0, .slice none 0 0, .slice none 0 0] 55 55
  clear h hT hN
  go_enter Tryz.func163, Tryz.ntmps163
  go_wp2_with fail
  generalize (w.alloc (.cells #[.int .u8 κ, .slice A n c, .slice A2 n2 c2, .slice A3 n3 c3] 55)).alloc (.cells #[.int .u8 0, .slice none 0 0, .slice none 0 0, .slice none 0 0] 55) = W0 at *
  obtain ⟨b0, r0, r1⟩ := T
  have lg := r1.lt
  have RR := Lib.hid r1
  have BB := Lib.hid b0
  clear b0 r0 r1
  refine (words_c _ p k _ (H.out.step BB.out)).mono ?_
  rintro e u1 ⟨X1, x1, rfl, g, b⟩
  have G1 := Lib.hid g
  have RR := Lib.hid (RR.out.below b RR.out.lt)
  have BB := Lib.hid (below_both BB.out b)
  have hs1 := b.size
  clear b g
  go_wp2_with fail
  refine (swflip _ p x y _ _ G1.out).mono ?_
  rintro e u2 ⟨X2, x2, rfl, g, b⟩
  have G2 := Lib.hid g
  have L := Lib.hid (Nat.le_refl _ : u1.heap.size ≤ u1.heap.size)
  have RR := Lib.hid (RR.out.below b RR.out.lt)
  have BB := Lib.hid (below_both BB.out b)
  have hs2 := b.size
  clear b g
  go_wp2_with fail
  refine (ofWords_v _ _ _ _).mono ?_
  rintro e u3 ⟨rfl, b⟩
  have G3 := Lib.hid (G2.out.stp b)
  have RR := Lib.hid (RR.out.below b RR.out.lt)
  have BB := Lib.hid (below_both BB.out b)
  clear b
  have d0 : u3.cell? ⟨w.heap.size + 1, 0, none⟩ = some (.int .u8 0) := RR.out.cell 0
  have d1 : u3.cell? ⟨w.heap.size + 1, 1, none⟩ = some (.slice none 0 0) := RR.out.cell 1
  have d2 : u3.cell? ⟨w.heap.size + 1, 2, none⟩ = some (.slice none 0 0) := RR.out.cell 2
  have d3 : u3.cell? ⟨w.heap.size + 1, 3, none⟩ = some (.slice none 0 0) := RR.out.cell 3
  have e0 := RR.out.frozen 0
  have e1 := RR.out.frozen 1
  have e2 := RR.out.frozen 2
  have e3 := RR.out.frozen 3
  go_wp2
  have S4 := set4 (a' := .int .u8 2) (b' := .slice none 0 0) (c' := .slice X2 1024 x2) (d' := .slice none 0 0) RR.out
  have B5 := Lib.hid (BB.out.grown S4.2 BB.out.size (fun j e => by injection e with e; subst e; omega))
  exact bodyPost_ret (ret_row rfl rfl S4.1) rfl ⟨_, rfl, Cn.wrd _ _ (Gp.of (G3.out.grown S4.2 (Nat.le_refl _) (fun j e => by injection e with e; subst e; exact .inl (by omega))) S4.2.size (fun b hb _ => NN.out b (by omega))), B5.out⟩

set_option maxHeartbeats 1000000 in
theorem arrayWith_c {N : Nat → Prop} (p : Nat → Bool) (κ : Int) (A : Option Addr) (n c : Nat) (x : Nat) (w : World) (hT : Tb w) (hN : ∀ b, w.heap.size ≤ b → N b) (hx : x < 65536) (h : Gs e16 w 0 w.heap.size (.slice A n c) (ls p 65536)) :
    Calls Tryz.prog 69 #[.agg #[.int .u8 κ, .slice A n c, .slice none 0 0, .slice none 0 0], .int .u16 x] w fun e w' => ∃ v', e = .returned v' ∧ Cn N w' v' (pls p x) 1 ∧ Below w.heap.size w w' := by
  have G0 := Lib.hid h
  have TT := Lib.hid hT
  have NN := Lib.hid hN
  have T := two_blocks w #[.int .u8 κ, .slice A n c, .slice none 0 0, .slice none 0 0] #[.int .u8 0, .slice none 0 0, .slice none 0 0, .slice none 0 0] 55 55
  clear h hT hN
  go_enter Tryz.func69, Tryz.ntmps69
  go_wp2_with fail
  generalize (w.alloc (.cells #[.int .u8 κ, .slice A n c, .slice none 0 0, .slice none 0 0] 55)).alloc (.cells #[.int .u8 0, .slice none 0 0, .slice none 0 0, .slice none 0 0] 55) = W0 at *
  obtain ⟨b0, r0, r1⟩ := T
  have lg := r1.lt
  have RR := Lib.hid r1
  have BB := Lib.hid b0
  clear b0 r0 r1
  refine (swith _ p _ x 0 _ (G0.out.stp BB.out) hx rfl).mono ?_
  rintro e u1 ⟨X1, x1, rfl, g, b⟩
  have G1 := Lib.hid g
  have L := Lib.hid (Nat.le_refl _ : W0.heap.size ≤ W0.heap.size)
  have RR := Lib.hid (RR.out.below b RR.out.lt)
  have BB := Lib.hid (below_both BB.out b)
  have hs1 := b.size
  clear b g
  go_wp2_with fail
  refine (ofArray_v _ _ _ _).mono ?_
  rintro e u2 ⟨rfl, b⟩
  have G2 := Lib.hid (G1.out.stp b)
  have RR := Lib.hid (RR.out.below b RR.out.lt)
  have BB := Lib.hid (below_both BB.out b)
  clear b
  have d0 : u2.cell? ⟨w.heap.size + 1, 0, none⟩ = some (.int .u8 0) := RR.out.cell 0
  have d1 : u2.cell? ⟨w.heap.size + 1, 1, none⟩ = some (.slice none 0 0) := RR.out.cell 1
  have d2 : u2.cell? ⟨w.heap.size + 1, 2, none⟩ = some (.slice none 0 0) := RR.out.cell 2
  have d3 : u2.cell? ⟨w.heap.size + 1, 3, none⟩ = some (.slice none 0 0) := RR.out.cell 3
  have e0 := RR.out.frozen 0
  have e1 := RR.out.frozen 1
  have e2 := RR.out.frozen 2
  have e3 := RR.out.frozen 3
  go_wp2
  have S4 := set4 (a' := .int .u8 1) (b' := .slice X1 (ct (pls p x) 65536) x1) (c' := .slice none 0 0) (d' := .slice none 0 0) RR.out
  have B5 := Lib.hid (BB.out.grown S4.2 BB.out.size (fun j e => by injection e with e; subst e; omega))
  exact bodyPost_ret (ret_row rfl rfl S4.1) rfl ⟨_, rfl, Cn.arr 1 _ _ _ (.inr rfl) rfl (Gp.of (G2.out.grown S4.2 (Nat.le_refl _) (fun j e => by injection e with e; subst e; exact .inl (by omega))) S4.2.size (fun b hb _ => NN.out b (by omega))), B5.out⟩

end Go.Proofs.YtcmifbjeabkihabGreatDoor
