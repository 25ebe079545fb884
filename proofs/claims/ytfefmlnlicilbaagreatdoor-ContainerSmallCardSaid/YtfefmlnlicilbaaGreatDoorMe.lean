/- Walks: Canonical. -/
import Derived.Test.YtfefmlnlicilbaaGreatDoorM9
import Derived.Test.YtfefmlnlicilbaaGreatDoorMd
/- Walks: containers made of rows; the canonical kind, the size; a container of any kind as one of another; flipped; with a number more. -/
namespace Go.Proofs.YtfefmlnlicilbaaGreatDoor
open Go.RowKit
set_option linter.unusedVariables false

theorem szC : (Tryz.prog.info? 28).map (·.size) = some 4 := by kernel_rfl
theorem ret_row {fn : Func} {p : Tmp} (hf : fn.results = #[.cell p 28]) {tmps : Array Value} {w : World} {g : Nat} {a b c d : Value} (hp : tmps.getD p undef = .pointer (some ⟨g, 0, none⟩)) (R : Row w g 28 #[a, b, c, d]) :
    (results fn tmps).run Tryz.prog w = .ok (.agg #[a, b, c, d]) w :=
  results_cell_row hf _ w g _ _ (0, 0) _ hp R Tryz.underlying28 rfl szC
theorem set4 {w : World} {g : Nat} {t : TypeId} {a b c d a' b' c' d' : Value} (R : Row w g t #[a, b, c, d]) :
    Row ((((w.setCell ⟨g, 0, none⟩ a').setCell ⟨g, 1, none⟩ b').setCell ⟨g, 2, none⟩ c').setCell ⟨g, 3, none⟩ d') g t #[a', b', c', d'] ∧ w.grownBy ((((w.setCell ⟨g, 0, none⟩ a').setCell ⟨g, 1, none⟩ b').setCell ⟨g, 2, none⟩ c').setCell ⟨g, 3, none⟩ d') (some g) := by
  refine ⟨by simpa using (((R.set_ 0 a').set_ 1 b').set_ 2 c').set_ 3 d', ⟨rfl, rfl, rfl, by simp [World.setCell], fun k hk hne => ?_⟩⟩
  have h : ∀ (w : World) (i : Nat) (u : Value), (w.setCell ⟨g, i, none⟩ u).heap[k]? = w.heap[k]? := fun w i u => Below.heap_setCell w _ u k (fun e => hne (by rw [e]))
  rw [h, h, h, h]

theorem ofArray_v (A : Option Addr) (n c : Nat) (w : World) :
    Calls Tryz.prog 70 #[.slice A n c] w fun e w' => e = .returned (.agg #[.int .u8 1, .slice A n c, .slice none 0 0, .slice none 0 0]) ∧ Below w.heap.size w w' := by
  have R := Row.new w 28 #[.int .u8 1, .slice A n c, .slice none 0 0, .slice none 0 0]
  have B := bx w (.cells #[.int .u8 1, .slice A n c, .slice none 0 0, .slice none 0 0] 28)
  go_enter Tryz.func70, Tryz.ntmps70
  go_wp2
  exact bodyPost_ret (ret_row rfl rfl R) rfl ⟨rfl, B⟩

theorem ofWords_v (A : Option Addr) (n c : Nat) (w : World) :
    Calls Tryz.prog 56 #[.slice A n c] w fun e w' => e = .returned (.agg #[.int .u8 2, .slice none 0 0, .slice A n c, .slice none 0 0]) ∧ Below w.heap.size w w' := by
  have R := Row.new w 28 #[.int .u8 2, .slice none 0 0, .slice A n c, .slice none 0 0]
  have B := bx w (.cells #[.int .u8 2, .slice none 0 0, .slice A n c, .slice none 0 0] 28)
  go_enter Tryz.func56, Tryz.ntmps56
  go_wp2
  exact bodyPost_ret (ret_row rfl rfl R) rfl ⟨rfl, B⟩

theorem ofRuns_v (A : Option Addr) (n c : Nat) (w : World) :
    Calls Tryz.prog 77 #[.slice A n c] w fun e w' => e = .returned (.agg #[.int .u8 3, .slice none 0 0, .slice none 0 0, .slice A n c]) ∧ Below w.heap.size w w' := by
  have R := Row.new w 28 #[.int .u8 3, .slice none 0 0, .slice none 0 0, .slice A n c]
  have B := bx w (.cells #[.int .u8 3, .slice none 0 0, .slice none 0 0, .slice A n c] 28)
  go_enter Tryz.func77, Tryz.ntmps77
  go_wp2
  exact bodyPost_ret (ret_row rfl rfl R) rfl ⟨rfl, B⟩

theorem mul_wrap (a b : Int) (h0 : 0 ≤ b) (h1 : b ≤ 100000) (ha : 0 ≤ a ∧ a ≤ 8) : wrap64 (a * b) = a * b := by
  have : 0 ≤ a * b ∧ a * b ≤ 800000 := by
    constructor
    · exact Int.mul_nonneg ha.1 h0
    · exact Int.le_trans (Int.mul_le_mul ha.2 h1 h0 (by omega)) (by omega)
  unfold wrap64; omega

theorem size_1 (c r : Nat) (w : World) (hc : c ≤ 65536) (hr : r ≤ 65536) :
    Calls Tryz.prog 64 #[.int .u8 1, .int .i64 c, .int .i64 r] w fun e w' => e = .returned (.int .i64 (2 * (c : Int))) ∧ w' = w := by
  have h1 : wrap64 (2 * (c : Int)) = 2 * (c : Int) := by unfold wrap64; omega
  have h2 : wrap64 (4 * (r : Int)) = 4 * (r : Int) := by unfold wrap64; omega
  have h3 : wrap64 (2 + 4 * (r : Int)) = 2 + 4 * (r : Int) := by unfold wrap64; omega
  go_enter Tryz.func64, Tryz.ntmps64
  go_wp2
  go_ret
  exact ⟨rfl, rfl⟩

theorem size_2 (c r : Nat) (w : World) (hc : c ≤ 65536) (hr : r ≤ 65536) :
    Calls Tryz.prog 64 #[.int .u8 2, .int .i64 c, .int .i64 r] w fun e w' => e = .returned (.int .i64 (8192)) ∧ w' = w := by
  have h1 : wrap64 (2 * (c : Int)) = 2 * (c : Int) := by unfold wrap64; omega
  have h2 : wrap64 (4 * (r : Int)) = 4 * (r : Int) := by unfold wrap64; omega
  have h3 : wrap64 (2 + 4 * (r : Int)) = 2 + 4 * (r : Int) := by unfold wrap64; omega
  go_enter Tryz.func64, Tryz.ntmps64
  go_wp2
  go_ret
  exact ⟨rfl, rfl⟩

theorem size_3 (c r : Nat) (w : World) (hc : c ≤ 65536) (hr : r ≤ 65536) :
    Calls Tryz.prog 64 #[.int .u8 3, .int .i64 c, .int .i64 r] w fun e w' => e = .returned (.int .i64 (2 + 4 * (r : Int))) ∧ w' = w := by
  have h1 : wrap64 (2 * (c : Int)) = 2 * (c : Int) := by unfold wrap64; omega
  have h2 : wrap64 (4 * (r : Int)) = 4 * (r : Int) := by unfold wrap64; omega
  have h3 : wrap64 (2 + 4 * (r : Int)) = 2 + 4 * (r : Int) := by unfold wrap64; omega
  go_enter Tryz.func64, Tryz.ntmps64
  go_wp2
  go_ret
  exact ⟨rfl, rfl⟩

theorem ck_11 (c r : Nat) (w : World) (hc : c ≤ 65536) (hr : r ≤ 65536) (h : c ≤ 4096) (h2 : ¬ 2 + 4 * r < 2 * c) :
    Calls Tryz.prog 72 #[.int .i64 c, .int .i64 r] w fun e w' => e = .returned (.int .u8 1) ∧ w' = w := by
  have S1 := Lib.hid (fun W => size_3 c r W hc hr)
  have S2 := Lib.hid (fun W => size_1 c r W hc hr)
  have g1 : decide ((c : Int) > 4096) = false := decide_eq_false (by omega)
  have g2 : decide (2 + 4 * (r : Int) < 2 * (c : Int)) = false := decide_eq_false (by omega)
  have g3 : ¬ (c : Int) > 4096 := by omega
  go_enter Tryz.func72, Tryz.ntmps72
  go_wp2_with fail
  refine (S1.out _).mono ?_
  rintro e w1 ⟨rfl, hz⟩
  have hz := hz.symm
  subst hz
  go_wp2_with fail
  refine (S2.out _).mono ?_
  rintro e w1 ⟨rfl, hz⟩
  have hz := hz.symm
  subst hz
  go_wp2
  go_ret
  exact ⟨rfl, rfl⟩

theorem ck_13 (c r : Nat) (w : World) (hc : c ≤ 65536) (hr : r ≤ 65536) (h : c ≤ 4096) (h2 : 2 + 4 * r < 2 * c) :
    Calls Tryz.prog 72 #[.int .i64 c, .int .i64 r] w fun e w' => e = .returned (.int .u8 3) ∧ w' = w := by
  have S1 := Lib.hid (fun W => size_3 c r W hc hr)
  have S2 := Lib.hid (fun W => size_1 c r W hc hr)
  have g1 : decide ((c : Int) > 4096) = false := decide_eq_false (by omega)
  have g2 : decide (2 + 4 * (r : Int) < 2 * (c : Int)) = true := decide_eq_true (by omega)
  have g3 : ¬ (c : Int) > 4096 := by omega
  go_enter Tryz.func72, Tryz.ntmps72
  go_wp2_with fail
  refine (S1.out _).mono ?_
  rintro e w1 ⟨rfl, hz⟩
  have hz := hz.symm
  subst hz
  go_wp2_with fail
  refine (S2.out _).mono ?_
  rintro e w1 ⟨rfl, hz⟩
  have hz := hz.symm
  subst hz
  go_wp2
  go_ret
  exact ⟨rfl, rfl⟩

theorem ck_22 (c r : Nat) (w : World) (hc : c ≤ 65536) (hr : r ≤ 65536) (h : ¬ c ≤ 4096) (h2 : ¬ 2 + 4 * r < 8192) :
    Calls Tryz.prog 72 #[.int .i64 c, .int .i64 r] w fun e w' => e = .returned (.int .u8 2) ∧ w' = w := by
  have S1 := Lib.hid (fun W => size_3 c r W hc hr)
  have S2 := Lib.hid (fun W => size_2 c r W hc hr)
  have g1 : decide ((c : Int) > 4096) = true := decide_eq_true (by omega)
  have g2 : decide (2 + 4 * (r : Int) < 8192) = false := decide_eq_false (by omega)
  have g3 : (c : Int) > 4096 := by omega
  go_enter Tryz.func72, Tryz.ntmps72
  go_wp2_with fail
  refine (S1.out _).mono ?_
  rintro e w1 ⟨rfl, hz⟩
  have hz := hz.symm
  subst hz
  go_wp2_with fail
  refine (S2.out _).mono ?_
  rintro e w1 ⟨rfl, hz⟩
  have hz := hz.symm
  subst hz
  go_wp2
  go_ret
  exact ⟨rfl, rfl⟩

theorem ck_23 (c r : Nat) (w : World) (hc : c ≤ 65536) (hr : r ≤ 65536) (h : ¬ c ≤ 4096) (h2 : 2 + 4 * r < 8192) :
    Calls Tryz.prog 72 #[.int .i64 c, .int .i64 r] w fun e w' => e = .returned (.int .u8 3) ∧ w' = w := by
  have S1 := Lib.hid (fun W => size_3 c r W hc hr)
  have S2 := Lib.hid (fun W => size_2 c r W hc hr)
  have g1 : decide ((c : Int) > 4096) = true := decide_eq_true (by omega)
  have g2 : decide (2 + 4 * (r : Int) < 8192) = true := decide_eq_true (by omega)
  have g3 : (c : Int) > 4096 := by omega
  go_enter Tryz.func72, Tryz.ntmps72
  go_wp2_with fail
  refine (S1.out _).mono ?_
  rintro e w1 ⟨rfl, hz⟩
  have hz := hz.symm
  subst hz
  go_wp2_with fail
  refine (S2.out _).mono ?_
  rintro e w1 ⟨rfl, hz⟩
  have hz := hz.symm
  subst hz
  go_wp2
  go_ret
  exact ⟨rfl, rfl⟩

theorem canonicalKind_c (c r : Nat) (w : World) (hc : c ≤ 65536) (hr : r ≤ 65536) :
    Calls Tryz.prog 72 #[.int .i64 c, .int .i64 r] w fun e w' => e = .returned (.int .u8 (ckn c r : Nat)) ∧ w' = w := by
  unfold ckn
  by_cases h : c ≤ 4096
  · rw [if_pos h, if_pos h]
    by_cases h2 : 2 + 4 * r < 2 * c
    · rw [if_pos h2]; exact ck_13 c r w hc hr h h2
    · rw [if_neg h2]; exact ck_11 c r w hc hr h h2
  · rw [if_neg h, if_neg h]
    by_cases h2 : 2 + 4 * r < 8192
    · rw [if_pos h2]; exact ck_23 c r w hc hr h h2
    · rw [if_neg h2]; exact ck_22 c r w hc hr h h2
theorem size_c (k c r : Nat) (w : World) (hk : 1 ≤ k ∧ k ≤ 3) (hc : c ≤ 65536) (hr : r ≤ 65536) :
    Calls Tryz.prog 64 #[.int .u8 k, .int .i64 c, .int .i64 r] w fun e w' => e = .returned (.int .i64 (szn k c r : Nat)) ∧ w' = w := by
  have hk2 : k = 1 ∨ k = 2 ∨ k = 3 := by omega
  rcases hk2 with rfl | rfl | rfl
  · have e : ((szn 1 c r : Nat) : Int) = 2 * (c : Int) := by simp [szn]
    rw [e]; exact size_1 c r w hc hr
  · exact size_2 c r w hc hr
  · have e : ((szn 3 c r : Nat) : Int) = 2 + 4 * (r : Int) := by simp [szn]
    rw [e]; exact size_3 c r w hc hr
end Go.Proofs.YtfefmlnlicilbaaGreatDoor
/- Walks: a container as one of another kind; flipped by words and by runs; an array with a number more; the size. -/
namespace Go.Proofs.YtfefmlnlicilbaaGreatDoor
open Go.RowKit
set_option linter.unusedVariables false

set_option maxHeartbeats 1000000 in
theorem toArrays_c {N : Nat → Prop} (v : Value) (p : Nat → Bool) (k : Nat) (w : World) (hT : Tb w) (hN : ∀ b, w.heap.size ≤ b → N b) (h : Cn N w v p k) :
    Calls Tryz.prog 73 #[v] w fun e w' => ∃ v', e = .returned v' ∧ Cn N w' v' p 1 ∧ Below w.heap.size w w' := by
  obtain ⟨κ, A, n, c, A2, n2, c2, A3, n3, c3, rfl⟩ := h.form
  have H := Lib.hid h
  have TT := Lib.hid hT
  have NN := Lib.hid hN
  have T := two_blocks w #[.int .u8 κ, .slice A n c, .slice A2 n2 c2, .slice A3 n3 c3] #[.int .u8 0, .slice none 0 0, .slice none 0 0, .slice none 0 0] 28 28
  clear h hT hN
  go_enter Tryz.func73, Tryz.ntmps73
  go_wp2_with fail
  generalize (w.alloc (.cells #[.int .u8 κ, .slice A n c, .slice A2 n2 c2, .slice A3 n3 c3] 28)).alloc (.cells #[.int .u8 0, .slice none 0 0, .slice none 0 0, .slice none 0 0] 28) = W0 at *
  obtain ⟨b0, r0, r1⟩ := T
  have lg := r1.lt
  have RR := Lib.hid r1
  have BB := Lib.hid b0
  clear b0 r0 r1
  refine (array_c _ p k _ _ (TT.out.step BB.out) rfl (H.out.step BB.out)).mono ?_
  rintro e u1 ⟨X1, x1, rfl, g, b⟩
  have G1 := Lib.hid g
  have L := Lib.hid (Nat.le_refl _ : W0.heap.size ≤ W0.heap.size)
  have RR := Lib.hid (RR.out.below b RR.out.lt)
  have BB := Lib.hid (below_both BB.out b)
  have hs1 := b.size
  clear b g
  go_wp2_with fail
  refine (ofArray_v _ _ _ _).mono ?_
  rintro e u2 ⟨rfl, b⟩
  have G2 := Lib.hid (G1.out.stp b)
  have RR := Lib.hid (RR.out.below b RR.out.lt)
  have BB := Lib.hid (below_both BB.out b)
  clear b
  have d0 : u2.cell? ⟨w.heap.size + 1, 0, none⟩ = some (.int .u8 0) := RR.out.cell 0
  have d1 : u2.cell? ⟨w.heap.size + 1, 1, none⟩ = some (.slice none 0 0) := RR.out.cell 1
  have d2 : u2.cell? ⟨w.heap.size + 1, 2, none⟩ = some (.slice none 0 0) := RR.out.cell 2
  have d3 : u2.cell? ⟨w.heap.size + 1, 3, none⟩ = some (.slice none 0 0) := RR.out.cell 3
  have e0 := RR.out.frozen 0
  have e1 := RR.out.frozen 1
  have e2 := RR.out.frozen 2
  have e3 := RR.out.frozen 3
  go_wp2
  have S4 := set4 (a' := .int .u8 1) (b' := .slice X1 (ct p 65536) x1) (c' := .slice none 0 0) (d' := .slice none 0 0) RR.out
  have B5 := Lib.hid (BB.out.grown S4.2 BB.out.size (fun j e => by injection e with e; subst e; omega))
  exact bodyPost_ret (ret_row rfl rfl S4.1) rfl ⟨_, rfl, Cn.arr 1 _ _ _ (.inr rfl) rfl (Gp.of (G2.out.grown S4.2 (Nat.le_refl _) (fun j e => by injection e with e; subst e; exact .inl (by omega))) S4.2.size (fun b hb _ => NN.out b (by omega))), B5.out⟩

set_option maxHeartbeats 1000000 in
theorem toWords_c {N : Nat → Prop} (v : Value) (p : Nat → Bool) (k : Nat) (w : World) (hT : Tb w) (hN : ∀ b, w.heap.size ≤ b → N b) (h : Cn N w v p k) :
    Calls Tryz.prog 74 #[v] w fun e w' => ∃ v', e = .returned v' ∧ Cn N w' v' p 2 ∧ Below w.heap.size w w' := by
  obtain ⟨κ, A, n, c, A2, n2, c2, A3, n3, c3, rfl⟩ := h.form
  have H := Lib.hid h
  have TT := Lib.hid hT
  have NN := Lib.hid hN
  have T := two_blocks w #[.int .u8 κ, .slice A n c, .slice A2 n2 c2, .slice A3 n3 c3] #[.int .u8 0, .slice none 0 0, .slice none 0 0, .slice none 0 0] 28 28
  clear h hT hN
  go_enter Tryz.func74, Tryz.ntmps74
  go_wp2_with fail
  generalize (w.alloc (.cells #[.int .u8 κ, .slice A n c, .slice A2 n2 c2, .slice A3 n3 c3] 28)).alloc (.cells #[.int .u8 0, .slice none 0 0, .slice none 0 0, .slice none 0 0] 28) = W0 at *
  obtain ⟨b0, r0, r1⟩ := T
  have lg := r1.lt
  have RR := Lib.hid r1
  have BB := Lib.hid b0
  clear b0 r0 r1
  refine (words_c _ p k _ (H.out.step BB.out)).mono ?_
  rintro e u1 ⟨X1, x1, rfl, g, b⟩
  have G1 := Lib.hid g
  have L := Lib.hid (Nat.le_refl _ : W0.heap.size ≤ W0.heap.size)
  have RR := Lib.hid (RR.out.below b RR.out.lt)
  have BB := Lib.hid (below_both BB.out b)
  have hs1 := b.size
  clear b g
  go_wp2_with fail
  refine (ofWords_v _ _ _ _).mono ?_
  rintro e u2 ⟨rfl, b⟩
  have G2 := Lib.hid (G1.out.stp b)
  have RR := Lib.hid (RR.out.below b RR.out.lt)
  have BB := Lib.hid (below_both BB.out b)
  clear b
  have d0 : u2.cell? ⟨w.heap.size + 1, 0, none⟩ = some (.int .u8 0) := RR.out.cell 0
  have d1 : u2.cell? ⟨w.heap.size + 1, 1, none⟩ = some (.slice none 0 0) := RR.out.cell 1
  have d2 : u2.cell? ⟨w.heap.size + 1, 2, none⟩ = some (.slice none 0 0) := RR.out.cell 2
  have d3 : u2.cell? ⟨w.heap.size + 1, 3, none⟩ = some (.slice none 0 0) := RR.out.cell 3
  have e0 := RR.out.frozen 0
  have e1 := RR.out.frozen 1
  have e2 := RR.out.frozen 2
  have e3 := RR.out.frozen 3
  go_wp2
  have S4 := set4 (a' := .int .u8 2) (b' := .slice none 0 0) (c' := .slice X1 1024 x1) (d' := .slice none 0 0) RR.out
  have B5 := Lib.hid (BB.out.grown S4.2 BB.out.size (fun j e => by injection e with e; subst e; omega))
  exact bodyPost_ret (ret_row rfl rfl S4.1) rfl ⟨_, rfl, Cn.wrd _ _ (Gp.of (G2.out.grown S4.2 (Nat.le_refl _) (fun j e => by injection e with e; subst e; exact .inl (by omega))) S4.2.size (fun b hb _ => NN.out b (by omega))), B5.out⟩

set_option maxHeartbeats 1000000 in
theorem toRuns_c {N : Nat → Prop} (v : Value) (p : Nat → Bool) (k : Nat) (w : World) (hT : Tb w) (hN : ∀ b, w.heap.size ≤ b → N b) (h : Cn N w v p k) :
    Calls Tryz.prog 75 #[v] w fun e w' => ∃ v', e = .returned v' ∧ Cn N w' v' p 3 ∧ Below w.heap.size w w' := by
  obtain ⟨κ, A, n, c, A2, n2, c2, A3, n3, c3, rfl⟩ := h.form
  have H := Lib.hid h
  have TT := Lib.hid hT
  have NN := Lib.hid hN
  have T := two_blocks w #[.int .u8 κ, .slice A n c, .slice A2 n2 c2, .slice A3 n3 c3] #[.int .u8 0, .slice none 0 0, .slice none 0 0, .slice none 0 0] 28 28
  clear h hT hN
  go_enter Tryz.func75, Tryz.ntmps75
  go_wp2_with fail
  generalize (w.alloc (.cells #[.int .u8 κ, .slice A n c, .slice A2 n2 c2, .slice A3 n3 c3] 28)).alloc (.cells #[.int .u8 0, .slice none 0 0, .slice none 0 0, .slice none 0 0] 28) = W0 at *
  obtain ⟨b0, r0, r1⟩ := T
  have lg := r1.lt
  have RR := Lib.hid r1
  have BB := Lib.hid b0
  clear b0 r0 r1
  refine (runs_c _ p k _ _ (TT.out.step BB.out) rfl (H.out.step BB.out)).mono ?_
  rintro e u1 ⟨X1, x1, rfl, g, b⟩
  have G1 := Lib.hid g
  have L := Lib.hid (Nat.le_refl _ : W0.heap.size ≤ W0.heap.size)
  have RR := Lib.hid (RR.out.below b RR.out.lt)
  have BB := Lib.hid (below_both BB.out b)
  have hs1 := b.size
  clear b g
  go_wp2_with fail
  refine (ofRuns_v _ _ _ _).mono ?_
  rintro e u2 ⟨rfl, b⟩
  have G2 := Lib.hid (G1.out.stp b)
  have RR := Lib.hid (RR.out.below b RR.out.lt)
  have BB := Lib.hid (below_both BB.out b)
  clear b
  have d0 : u2.cell? ⟨w.heap.size + 1, 0, none⟩ = some (.int .u8 0) := RR.out.cell 0
  have d1 : u2.cell? ⟨w.heap.size + 1, 1, none⟩ = some (.slice none 0 0) := RR.out.cell 1
  have d2 : u2.cell? ⟨w.heap.size + 1, 2, none⟩ = some (.slice none 0 0) := RR.out.cell 2
  have d3 : u2.cell? ⟨w.heap.size + 1, 3, none⟩ = some (.slice none 0 0) := RR.out.cell 3
  have e0 := RR.out.frozen 0
  have e1 := RR.out.frozen 1
  have e2 := RR.out.frozen 2
  have e3 := RR.out.frozen 3
  go_wp2
  have S4 := set4 (a' := .int .u8 3) (b' := .slice none 0 0) (c' := .slice none 0 0) (d' := .slice X1 (ct (hm p) 65536) x1) RR.out
  have B5 := Lib.hid (BB.out.grown S4.2 BB.out.size (fun j e => by injection e with e; subst e; omega))
  exact bodyPost_ret (ret_row rfl rfl S4.1) rfl ⟨_, rfl, Cn.run _ _ _ rfl (Gp2.of (G2.out.grown S4.2 (Nat.le_refl _) (fun j e => by injection e with e; subst e; exact .inl (by omega))) S4.2.size (fun b hb _ => NN.out b (by omega))), B5.out⟩

set_option maxHeartbeats 1000000 in
theorem flippedByRuns_c {N : Nat → Prop} (v : Value) (p : Nat → Bool) (k : Nat) (x y : Int) (w : World) (hT : Tb w) (hN : ∀ b, w.heap.size ≤ b → N b) (h : Cn N w v p k) :
    Calls Tryz.prog 52 #[v, .int .i64 x, .int .i64 y] w fun e w' => ∃ v', e = .returned v' ∧ Cn N w' v' (flp p x y) 3 ∧ Below w.heap.size w w' := by
  obtain ⟨κ, A, n, c, A2, n2, c2, A3, n3, c3, rfl⟩ := h.form
  have H := Lib.hid h
  have TT := Lib.hid hT
  have NN := Lib.hid hN
  have T := two_blocks w #[.int .u8 κ, .slice A n c, .slice A2 n2 c2, .slice A3 n3 c3] #[.int .u8 0, .slice none 0 0, .slice none 0 0, .slice none 0 0] 28 28
  clear h hT hN
  go_enter Tryz.func52, Tryz.ntmps52
  go_wp2_with fail
  generalize (w.alloc (.cells #[.int .u8 κ, .slice A n c, .slice A2 n2 c2, .slice A3 n3 c3] 28)).alloc (.cells #[.int .u8 0, .slice none 0 0, .slice none 0 0, .slice none 0 0] 28) = W0 at *
  obtain ⟨b0, r0, r1⟩ := T
  have lg := r1.lt
  have RR := Lib.hid r1
  have BB := Lib.hid b0
  clear b0 r0 r1
  refine (runs_c _ p k _ _ (TT.out.step BB.out) rfl (H.out.step BB.out)).mono ?_
  rintro e u1 ⟨X1, x1, rfl, g, b⟩
  have G1 := Lib.hid g
  have RR := Lib.hid (RR.out.below b RR.out.lt)
  have BB := Lib.hid (below_both BB.out b)
  have hs1 := b.size
  clear b g
  go_wp2_with fail
  refine (srflip _ p _ x y _ _ G1.out rfl).mono ?_
  rintro e u2 ⟨X2, x2, rfl, g, b⟩
  have G2 := Lib.hid g
  have L := Lib.hid (Nat.le_refl _ : u1.heap.size ≤ u1.heap.size)
  have RR := Lib.hid (RR.out.below b RR.out.lt)
  have BB := Lib.hid (below_both BB.out b)
  have hs2 := b.size
  clear b g
  go_wp2_with fail
  refine (ofRuns_v _ _ _ _).mono ?_
  rintro e u3 ⟨rfl, b⟩
  have G3 := Lib.hid (G2.out.stp b)
  have RR := Lib.hid (RR.out.below b RR.out.lt)
  have BB := Lib.hid (below_both BB.out b)
  clear b
  have d0 : u3.cell? ⟨w.heap.size + 1, 0, none⟩ = some (.int .u8 0) := RR.out.cell 0
  have d1 : u3.cell? ⟨w.heap.size + 1, 1, none⟩ = some (.slice none 0 0) := RR.out.cell 1
  have d2 : u3.cell? ⟨w.heap.size + 1, 2, none⟩ = some (.slice none 0 0) := RR.out.cell 2
  have d3 : u3.cell? ⟨w.heap.size + 1, 3, none⟩ = some (.slice none 0 0) := RR.out.cell 3
  have e0 := RR.out.frozen 0
  have e1 := RR.out.frozen 1
  have e2 := RR.out.frozen 2
  have e3 := RR.out.frozen 3
  go_wp2
  have S4 := set4 (a' := .int .u8 3) (b' := .slice none 0 0) (c' := .slice none 0 0) (d' := .slice X2 (ct (hm (flp p x y)) 65536) x2) RR.out
  have B5 := Lib.hid (BB.out.grown S4.2 BB.out.size (fun j e => by injection e with e; subst e; omega))
  exact bodyPost_ret (ret_row rfl rfl S4.1) rfl ⟨_, rfl, Cn.run _ _ _ rfl (Gp2.of (G3.out.grown S4.2 (Nat.le_refl _) (fun j e => by injection e with e; subst e; exact .inl (by omega))) S4.2.size (fun b hb _ => NN.out b (by omega))), B5.out⟩

set_option maxHeartbeats 1000000 in
theorem flippedByWords_c {N : Nat → Prop} (v : Value) (p : Nat → Bool) (k : Nat) (x y : Int) (w : World) (hT : Tb w) (hN : ∀ b, w.heap.size ≤ b → N b) (h : Cn N w v p k) :
    Calls Tryz.prog 53 #[v, .int .i64 x, .int .i64 y] w fun e w' => ∃ v', e = .returned v' ∧ Cn N w' v' (flp p x y) 2 ∧ Below w.heap.size w w' := by
  obtain ⟨κ, A, n, c, A2, n2, c2, A3, n3, c3, rfl⟩ := h.form
  have H := Lib.hid h
  have TT := Lib.hid hT
  have NN := Lib.hid hN
  have T := two_blocks w #[.int .u8 κ, .slice A n c, .slice A2 n2 c2, .slice A3 n3 c3] #[.int .u8 0, .slice none 0 0, .slice none 0 0, .slice none 0 0] 28 28
  clear h hT hN
  go_enter Tryz.func53, Tryz.ntmps53
  go_wp2_with fail
  generalize (w.alloc (.cells #[.int .u8 κ, .slice A n c, .slice A2 n2 c2, .slice A3 n3 c3] 28)).alloc (.cells #[.int .u8 0, .slice none 0 0, .slice none 0 0, .slice none 0 0] 28) = W0 at *
  obtain ⟨b0, r0, r1⟩ := T
  have lg := r1.lt
  have RR := Lib.hid r1
  have BB := Lib.hid b0
  clear b0 r0 r1
  refine (words_c _ p k _ (H.out.step BB.out)).mono ?_
  rintro e u1 ⟨X1, x1, rfl, g, b⟩
  have G1 := Lib.hid g
  have RR := Lib.hid (RR.out.below b RR.out.lt)
  have BB := Lib.hid (below_both BB.out b)
  have hs1 := b.size
  clear b g
  go_wp2_with fail
  refine (swflip _ p x y _ _ G1.out).mono ?_
  rintro e u2 ⟨X2, x2, rfl, g, b⟩
  have G2 := Lib.hid g
  have L := Lib.hid (Nat.le_refl _ : u1.heap.size ≤ u1.heap.size)
  have RR := Lib.hid (RR.out.below b RR.out.lt)
  have BB := Lib.hid (below_both BB.out b)
  have hs2 := b.size
  clear b g
  go_wp2_with fail
  refine (ofWords_v _ _ _ _).mono ?_
  rintro e u3 ⟨rfl, b⟩
  have G3 := Lib.hid (G2.out.stp b)
  have RR := Lib.hid (RR.out.below b RR.out.lt)
  have BB := Lib.hid (below_both BB.out b)
  clear b
  have d0 : u3.cell? ⟨w.heap.size + 1, 0, none⟩ = some (.int .u8 0) := RR.out.cell 0
  have d1 : u3.cell? ⟨w.heap.size + 1, 1, none⟩ = some (.slice none 0 0) := RR.out.cell 1
  have d2 : u3.cell? ⟨w.heap.size + 1, 2, none⟩ = some (.slice none 0 0) := RR.out.cell 2
  have d3 : u3.cell? ⟨w.heap.size + 1, 3, none⟩ = some (.slice none 0 0) := RR.out.cell 3
  have e0 := RR.out.frozen 0
  have e1 := RR.out.frozen 1
  have e2 := RR.out.frozen 2
  have e3 := RR.out.frozen 3
  go_wp2
  have S4 := set4 (a' := .int .u8 2) (b' := .slice none 0 0) (c' := .slice X2 1024 x2) (d' := .slice none 0 0) RR.out
  have B5 := Lib.hid (BB.out.grown S4.2 BB.out.size (fun j e => by injection e with e; subst e; omega))
  exact bodyPost_ret (ret_row rfl rfl S4.1) rfl ⟨_, rfl, Cn.wrd _ _ (Gp.of (G3.out.grown S4.2 (Nat.le_refl _) (fun j e => by injection e with e; subst e; exact .inl (by omega))) S4.2.size (fun b hb _ => NN.out b (by omega))), B5.out⟩

set_option maxHeartbeats 1000000 in
theorem arrayWith_c {N : Nat → Prop} (p : Nat → Bool) (κ : Int) (A : Option Addr) (n c : Nat) (x : Nat) (w : World) (hT : Tb w) (hN : ∀ b, w.heap.size ≤ b → N b) (hx : x < 65536) (h : Gs e16 w 0 w.heap.size (.slice A n c) (ls p 65536)) :
    Calls Tryz.prog 54 #[.agg #[.int .u8 κ, .slice A n c, .slice none 0 0, .slice none 0 0], .int .u16 x] w fun e w' => ∃ v', e = .returned v' ∧ Cn N w' v' (pls p x) 1 ∧ Below w.heap.size w w' := by
  have G0 := Lib.hid h
  have TT := Lib.hid hT
  have NN := Lib.hid hN
  have T := two_blocks w #[.int .u8 κ, .slice A n c, .slice none 0 0, .slice none 0 0] #[.int .u8 0, .slice none 0 0, .slice none 0 0, .slice none 0 0] 28 28
  clear h hT hN
  go_enter Tryz.func54, Tryz.ntmps54
  go_wp2_with fail
  generalize (w.alloc (.cells #[.int .u8 κ, .slice A n c, .slice none 0 0, .slice none 0 0] 28)).alloc (.cells #[.int .u8 0, .slice none 0 0, .slice none 0 0, .slice none 0 0] 28) = W0 at *
  obtain ⟨b0, r0, r1⟩ := T
  have lg := r1.lt
  have RR := Lib.hid r1
  have BB := Lib.hid b0
  clear b0 r0 r1
  refine (swith _ p _ x 0 _ (G0.out.stp BB.out) hx rfl).mono ?_
  rintro e u1 ⟨X1, x1, rfl, g, b⟩
  have G1 := Lib.hid g
  have L := Lib.hid (Nat.le_refl _ : W0.heap.size ≤ W0.heap.size)
  have RR := Lib.hid (RR.out.below b RR.out.lt)
  have BB := Lib.hid (below_both BB.out b)
  have hs1 := b.size
  clear b g
  go_wp2_with fail
  refine (ofArray_v _ _ _ _).mono ?_
  rintro e u2 ⟨rfl, b⟩
  have G2 := Lib.hid (G1.out.stp b)
  have RR := Lib.hid (RR.out.below b RR.out.lt)
  have BB := Lib.hid (below_both BB.out b)
  clear b
  have d0 : u2.cell? ⟨w.heap.size + 1, 0, none⟩ = some (.int .u8 0) := RR.out.cell 0
  have d1 : u2.cell? ⟨w.heap.size + 1, 1, none⟩ = some (.slice none 0 0) := RR.out.cell 1
  have d2 : u2.cell? ⟨w.heap.size + 1, 2, none⟩ = some (.slice none 0 0) := RR.out.cell 2
  have d3 : u2.cell? ⟨w.heap.size + 1, 3, none⟩ = some (.slice none 0 0) := RR.out.cell 3
  have e0 := RR.out.frozen 0
  have e1 := RR.out.frozen 1
  have e2 := RR.out.frozen 2
  have e3 := RR.out.frozen 3
  go_wp2
  have S4 := set4 (a' := .int .u8 1) (b' := .slice X1 (ct (pls p x) 65536) x1) (c' := .slice none 0 0) (d' := .slice none 0 0) RR.out
  have B5 := Lib.hid (BB.out.grown S4.2 BB.out.size (fun j e => by injection e with e; subst e; omega))
  exact bodyPost_ret (ret_row rfl rfl S4.1) rfl ⟨_, rfl, Cn.arr 1 _ _ _ (.inr rfl) rfl (Gp.of (G2.out.grown S4.2 (Nat.le_refl _) (fun j e => by injection e with e; subst e; exact .inl (by omega))) S4.2.size (fun b hb _ => NN.out b (by omega))), B5.out⟩

set_option maxHeartbeats 1000000 in
theorem sizeOf_c {N : Nat → Prop} (v : Value) (p : Nat → Bool) (k m : Nat) (w : World) (h : Cn N w v p k) (hm2 : szn k (ct p 65536) (ct (hm p) 65536) = m) :
    Calls Tryz.prog 26 #[v] w fun e w' => e = .returned (.int .i64 m) ∧ Below w.heap.size w w' := by
  obtain ⟨κ, A, n, c, A2, n2, c2, A3, n3, c3, rfl⟩ := h.form
  have H := Lib.hid h
  have KK := Lib.hid h.kind
  obtain ⟨cc, hcc⟩ : ∃ x, ct p 65536 = x := ⟨_, rfl⟩
  obtain ⟨rr, hrr⟩ : ∃ x, ct (hm p) 65536 = x := ⟨_, rfl⟩
  have CC := Lib.hid (show cc ≤ 65536 from hcc ▸ ct_le _ _)
  have CR := Lib.hid (show rr ≤ 65536 from hrr ▸ ct_le _ _)
  rw [hcc, hrr] at hm2
  have EC := Lib.hid hcc
  have ER := Lib.hid hrr
  have EM := Lib.hid hm2
  have r0 := Row.new w 28 #[.int .u8 κ, .slice A n c, .slice A2 n2 c2, .slice A3 n3 c3]
  have b0 := bx w (.cells #[.int .u8 κ, .slice A n c, .slice A2 n2 c2, .slice A3 n3 c3] 28)
  clear h hcc hrr hm2
  go_enter Tryz.func26, Tryz.ntmps26
  go_wp2_with fail
  generalize w.alloc (.cells #[.int .u8 κ, .slice A n c, .slice A2 n2 c2, .slice A3 n3 c3] 28) = W0 at *
  have K0 : Hid (∀ W, Below W0.heap.size W0 W → W.cell? ⟨w.heap.size, 0, none⟩ = some (.int .u8 κ) ∧ W.cell? ⟨w.heap.size, 1, none⟩ = some (.slice A n c) ∧ W.cell? ⟨w.heap.size, 2, none⟩ = some (.slice A2 n2 c2) ∧ W.cell? ⟨w.heap.size, 3, none⟩ = some (.slice A3 n3 c3)) := Lib.hid fun W hW => by
    have r := r0.below hW r0.lt
    exact ⟨r.cell 0, r.cell 1, r.cell 2, r.cell 3⟩
  have B0 := Lib.hid b0
  have hSc : Below W0.heap.size W0 W0.drew := (Below.refl W0.heap.size W0).drew
  clear b0 r0
  refine wp_region_held_drew (S := fun W => Below W0.heap.size W0 W) (by kernel_rfl) hSc (fun _ => ?_)
  refine held_take 0 ?_ rfl (by kernel_rfl) (by kernel_rfl) (by kernel_rfl) (fun _ _ _ h => h) (by rfl) ?_ hSc ?_
  rotate_left
  · (intro W hSW; obtain ⟨k0, k1, k2, k3⟩ := K0.out W hSW; go_simp; try rfl)
  try simp only [Act.put, List.setIfInBounds_toArray, List.set_cons_zero, List.set_cons_succ]
  refine held_take 2 ?_ rfl (by kernel_rfl) (by kernel_rfl) (by kernel_rfl) (fun _ _ _ h => h) (by rfl) ?_ hSc ?_
  rotate_left
  · (intro W hSW; obtain ⟨k0, k1, k2, k3⟩ := K0.out W hSW; go_simp; try rfl)
  try simp only [Act.put, List.setIfInBounds_toArray, List.set_cons_zero, List.set_cons_succ]
  refine held_take 4 ?_ rfl (by kernel_rfl) (by kernel_rfl) (by kernel_rfl) (fun _ _ _ h => h) (by rfl) ?_ hSc ?_
  rotate_left
  · (intro W hSW; obtain ⟨k0, k1, k2, k3⟩ := K0.out W hSW; go_simp; try rfl)
  try simp only [Act.put, List.setIfInBounds_toArray, List.set_cons_zero, List.set_cons_succ]
  refine held_next 1 rfl (by kernel_rfl) (by rfl) ?_
  go_simp
  refine (kind_c _ p k _ ((H.out.step B0.out).step hSc)).mono ?_
  rintro e wq1 ⟨rfl, bq⟩
  have hbq : Below W0.heap.size W0 wq1 := hSc.trans (bq.mono hSc.size)
  refine ⟨fun W => Below W0.heap.size W0 W, fun W hW => hW, hbq, ?_⟩
  clear hSc bq
  have hSc : Below W0.heap.size W0 wq1 := hbq
  clear hbq
  try simp only [Act.put, List.setIfInBounds_toArray, List.set_cons_zero, List.set_cons_succ]
  refine held_next 3 rfl (by kernel_rfl) (by rfl) ?_
  go_simp
  refine (len_c _ p k cc _ EC.out ((H.out.step B0.out).step hSc)).mono ?_
  rintro e wq2 ⟨rfl, bq⟩
  have hbq : Below W0.heap.size W0 wq2 := hSc.trans (bq.mono hSc.size)
  refine ⟨fun W => Below W0.heap.size W0 W, fun W hW => hW, hbq, ?_⟩
  clear hSc bq
  have hSc : Below W0.heap.size W0 wq2 := hbq
  clear hbq
  try simp only [Act.put, List.setIfInBounds_toArray, List.set_cons_zero, List.set_cons_succ]
  refine held_next 5 rfl (by kernel_rfl) (by rfl) ?_
  go_simp
  refine (runCount_c _ p k rr _ ER.out ((H.out.step B0.out).step hSc)).mono ?_
  rintro e wq3 ⟨rfl, bq⟩
  have hbq : Below W0.heap.size W0 wq3 := hSc.trans (bq.mono hSc.size)
  refine ⟨fun W => Below W0.heap.size W0 W, fun W hW => hW, hbq, ?_⟩
  clear hSc bq
  have hSc : Below W0.heap.size W0 wq3 := hbq
  clear hbq
  try simp only [Act.put, List.setIfInBounds_toArray, List.set_cons_zero, List.set_cons_succ]
  refine held_next 6 rfl (by kernel_rfl) (by rfl) ?_
  go_simp
  refine (size_c k cc rr _ KK.out CC.out CR.out).mono ?_
  rw [EM.out]
  rintro e wq ⟨rfl, hz⟩
  have hz := hz.symm
  subst hz
  refine ⟨fun W => Below W0.heap.size W0 W, fun W hW => hW, hSc, ?_⟩
  try simp only [Act.put, List.setIfInBounds_toArray, List.set_cons_zero, List.set_cons_succ]
  refine held_next 7 rfl (by kernel_rfl) (by rfl) ?_
  go_simp
  refine ⟨fun W => Below W0.heap.size W0 W, fun W hW => hW, hSc, ?_⟩
  refine wpAnyH_done (by kernel_rfl) ?_ _
  have BB := Lib.hid (B0.out.trans (hSc.mono B0.out.size))
  go_wp2
  go_ret
  exact ⟨rfl, BB.out⟩
end Go.Proofs.YtfefmlnlicilbaaGreatDoor
namespace Go.Proofs.YtfefmlnlicilbaaGreatDoor
open Go.RowKit
set_option linter.unusedVariables false

/-- Behind w: block g1 and block g2 are as told. -/
structure Bx (w : World) (g1 : Nat) (t1 : TypeId) (o1 : Array Value) (g2 : Nat) (t2 : TypeId) (o2 : Array Value) (W : World) : Prop where
  bel : Below w.heap.size w W
  r1 : Row W g1 t1 o1
  r2 : Row W g2 t2 o2
theorem Bx.step {w W W' : World} {g1 g2 : Nat} {t1 t2 : TypeId} {o1 o2 : Array Value} (h : Bx w g1 t1 o1 g2 t2 o2 W) (b : Below W.heap.size W W') : Bx w g1 t1 o1 g2 t2 o2 W' :=
  ⟨below_both h.bel b, h.r1.below b h.r1.lt, h.r2.below b h.r2.lt⟩
theorem Bx.stored {w W W' : World} {g1 g2 g : Nat} {t1 t2 : TypeId} {o1 o2 : Array Value} (h : Bx w g1 t1 o1 g2 t2 o2 W) (hg : W.grownBy W' (some g)) (h0 : w.heap.size ≤ g) (n1 : g ≠ g1) (n2 : g ≠ g2) : Bx w g1 t1 o1 g2 t2 o2 W' :=
  ⟨h.bel.grown hg h.bel.size (fun j e => by injection e with e; omega), h.r1.grown hg (by intro e; injection e with e; exact n1 e), h.r2.grown hg (by intro e; injection e with e; exact n2 e)⟩

set_option maxHeartbeats 2000000 in
theorem canonical_same {N : Nat → Prop} (v : Value) (p : Nat → Bool) (k : Nat) (w : World) (hT : Tb w) (hN : ∀ b, w.heap.size ≤ b → N b) (hk : ck p = k) (h : Cn N w v p k) :
    Calls Tryz.prog 32 #[v] w fun e w' => ∃ v', e = .returned v' ∧ Cn N w' v' p (ck p) ∧ Below w.heap.size w w' := by
  obtain ⟨κ, A, n, c, A2, n2, c2, A3, n3, c3, rfl⟩ := h.form
  have H := Lib.hid (h.mono (N' := fun b => N b ∧ b < w.heap.size) fun b hb hn => ⟨hn, hb⟩)
  have TT := Lib.hid hT
  have NN := Lib.hid hN
  have KK := Lib.hid h.kind
  obtain ⟨cc, hcc⟩ : ∃ x, ct p 65536 = x := ⟨_, rfl⟩
  obtain ⟨rr, hrr⟩ : ∃ x, ct (hm p) 65536 = x := ⟨_, rfl⟩
  obtain ⟨q, hq⟩ : ∃ x, ck p = x := ⟨_, rfl⟩
  have CC := Lib.hid (show cc ≤ 65536 from hcc ▸ ct_le _ _)
  have CR := Lib.hid (show rr ≤ 65536 from hrr ▸ ct_le _ _)
  have EQ := Lib.hid (show ckn cc rr = q by rw [← hq, ← hcc, ← hrr]; rfl)
  have EC := Lib.hid hcc
  have ER := Lib.hid hrr
  have hqk : k = q := hk.symm.trans hq
  subst hqk
  clear hk
  rw [hq]
  have hqq : ((k : Int) == (k : Int)) = true := by simp
  have T := two_blocks w #[.int .u8 κ, .slice A n c, .slice A2 n2 c2, .slice A3 n3 c3] #[.int .u8 0, .slice none 0 0, .slice none 0 0, .slice none 0 0] 28 28
  clear h hT hN hcc hrr
  go_enter Tryz.func32, Tryz.ntmps32
  go_wp2_with fail
  generalize (w.alloc (.cells #[.int .u8 κ, .slice A n c, .slice A2 n2 c2, .slice A3 n3 c3] 28)).alloc (.cells #[.int .u8 0, .slice none 0 0, .slice none 0 0, .slice none 0 0] 28) = W0 at *
  obtain ⟨b0, r0, r1⟩ := T
  have lg := r1.lt
  have BX := Lib.hid (show Bx w w.heap.size 28 #[.int .u8 κ, .slice A n c, .slice A2 n2 c2, .slice A3 n3 c3] (w.heap.size + 1) 28 #[.int .u8 0, .slice none 0 0, .slice none 0 0, .slice none 0 0] W0 from ⟨b0, r0, r1⟩)
  have K0 : Hid (∀ W, Below W0.heap.size W0 W → W.cell? ⟨w.heap.size, 0, none⟩ = some (.int .u8 κ) ∧ W.cell? ⟨w.heap.size, 1, none⟩ = some (.slice A n c) ∧ W.cell? ⟨w.heap.size, 2, none⟩ = some (.slice A2 n2 c2) ∧ W.cell? ⟨w.heap.size, 3, none⟩ = some (.slice A3 n3 c3)) := Lib.hid fun W hW => by
    have r := r0.below hW r0.lt
    exact ⟨r.cell 0, r.cell 1, r.cell 2, r.cell 3⟩
  have B0 := Lib.hid b0
  have hSc : Below W0.heap.size W0 W0.drew := (Below.refl W0.heap.size W0).drew
  clear b0 r0 r1
  refine wp_region_held_drew (S := fun W => Below W0.heap.size W0 W) (by kernel_rfl) hSc (fun _ => ?_)
  refine held_take 0 ?_ rfl (by kernel_rfl) (by kernel_rfl) (by kernel_rfl) (fun _ _ _ h => h) (by rfl) ?_ hSc ?_
  rotate_left
  · (intro W hSW; obtain ⟨k0, k1, k2, k3⟩ := K0.out W hSW; go_simp; try rfl)
  try simp only [Act.put, List.setIfInBounds_toArray, List.set_cons_zero, List.set_cons_succ]
  refine held_take 2 ?_ rfl (by kernel_rfl) (by kernel_rfl) (by kernel_rfl) (fun _ _ _ h => h) (by rfl) ?_ hSc ?_
  rotate_left
  · (intro W hSW; obtain ⟨k0, k1, k2, k3⟩ := K0.out W hSW; go_simp; try rfl)
  try simp only [Act.put, List.setIfInBounds_toArray, List.set_cons_zero, List.set_cons_succ]
  refine held_next 1 rfl (by kernel_rfl) (by rfl) ?_
  go_simp
  refine (len_c _ p k cc _ EC.out ((H.out.step B0.out).step hSc)).mono ?_
  rintro e wq1 ⟨rfl, bq⟩
  have hbq : Below W0.heap.size W0 wq1 := hSc.trans (bq.mono hSc.size)
  refine ⟨fun W => Below W0.heap.size W0 W, fun W hW => hW, hbq, ?_⟩
  clear hSc bq
  have hSc : Below W0.heap.size W0 wq1 := hbq
  clear hbq
  try simp only [Act.put, List.setIfInBounds_toArray, List.set_cons_zero, List.set_cons_succ]
  refine held_next 3 rfl (by kernel_rfl) (by rfl) ?_
  go_simp
  refine (runCount_c _ p k rr _ ER.out ((H.out.step B0.out).step hSc)).mono ?_
  rintro e wq2 ⟨rfl, bq⟩
  have hbq : Below W0.heap.size W0 wq2 := hSc.trans (bq.mono hSc.size)
  refine ⟨fun W => Below W0.heap.size W0 W, fun W hW => hW, hbq, ?_⟩
  clear hSc bq
  have hSc : Below W0.heap.size W0 wq2 := hbq
  clear hbq
  try simp only [Act.put, List.setIfInBounds_toArray, List.set_cons_zero, List.set_cons_succ]
  refine held_next 4 rfl (by kernel_rfl) (by rfl) ?_
  go_simp
  refine (canonicalKind_c cc rr _ CC.out CR.out).mono ?_
  rw [EQ.out]
  rintro e wq ⟨rfl, hz⟩
  have hz := hz.symm
  subst hz
  refine ⟨fun W => Below W0.heap.size W0 W, fun W hW => hW, hSc, ?_⟩
  try simp only [Act.put, List.setIfInBounds_toArray, List.set_cons_zero, List.set_cons_succ]
  refine held_next 5 rfl (by kernel_rfl) (by rfl) ?_
  go_simp
  refine ⟨fun W => Below W0.heap.size W0 W, fun W hW => hW, hSc, ?_⟩
  refine wpAnyH_done (by kernel_rfl) ?_ _
  have H1 := Lib.hid ((H.out.step B0.out).step hSc)
  have T1 := Lib.hid ((TT.out.step B0.out).step hSc)
  have X1 := Lib.hid (BX.out.step hSc)
  obtain ⟨k0, k1, k2, k3⟩ := K0.out _ hSc
  clear hSc H TT BX B0 K0
  go_wp2_with fail
  refine (kind_c _ p k _ H1.out).mono ?_
  rintro e u1 ⟨rfl, b⟩
  have H1 := Lib.hid (H1.out.step b)
  have T1 := Lib.hid (T1.out.step b)
  have X1 := Lib.hid (X1.out.step b)
  have k0 : u1.cell? ⟨w.heap.size, 0, none⟩ = some (.int .u8 κ) := X1.out.r1.cell 0
  have k1 : u1.cell? ⟨w.heap.size, 1, none⟩ = some (.slice A n c) := X1.out.r1.cell 1
  have k2 : u1.cell? ⟨w.heap.size, 2, none⟩ = some (.slice A2 n2 c2) := X1.out.r1.cell 2
  have k3 : u1.cell? ⟨w.heap.size, 3, none⟩ = some (.slice A3 n3 c3) := X1.out.r1.cell 3
  clear b
  have d0 : u1.cell? ⟨w.heap.size + 1, 0, none⟩ = some (.int .u8 0) := X1.out.r2.cell 0
  have d1 : u1.cell? ⟨w.heap.size + 1, 1, none⟩ = some (.slice none 0 0) := X1.out.r2.cell 1
  have d2 : u1.cell? ⟨w.heap.size + 1, 2, none⟩ = some (.slice none 0 0) := X1.out.r2.cell 2
  have d3 : u1.cell? ⟨w.heap.size + 1, 3, none⟩ = some (.slice none 0 0) := X1.out.r2.cell 3
  have e0 := X1.out.r2.frozen 0
  have e1 := X1.out.r2.frozen 1
  have e2 := X1.out.r2.frozen 2
  have e3 := X1.out.r2.frozen 3
  go_wp2
  have S4 := set4 (a' := .int .u8 κ) (b' := .slice A n c) (c' := .slice A2 n2 c2) (d' := .slice A3 n3 c3) X1.out.r2
  have B5 := Lib.hid (X1.out.bel.grown S4.2 X1.out.bel.size (fun j e => by injection e with e; subst e; omega))
  have H5 := Lib.hid ((H1.out.grown S4.2 (fun hh => by have := hh.2; omega)).mono fun b _ hn => hn.1)
  exact bodyPost_ret (ret_row rfl rfl S4.1) rfl ⟨_, rfl, H5.out, B5.out⟩

set_option maxHeartbeats 2000000 in
theorem canonical_1 {N : Nat → Prop} (v : Value) (p : Nat → Bool) (k : Nat) (w : World) (hT : Tb w) (hN : ∀ b, w.heap.size ≤ b → N b) (hj : ck p = 1) (hk : 1 ≠ k) (h : Cn N w v p k) :
    Calls Tryz.prog 32 #[v] w fun e w' => ∃ v', e = .returned v' ∧ Cn N w' v' p (ck p) ∧ Below w.heap.size w w' := by
  obtain ⟨κ, A, n, c, A2, n2, c2, A3, n3, c3, rfl⟩ := h.form
  have H := Lib.hid (h.mono (N' := fun b => N b ∧ b < w.heap.size) fun b hb hn => ⟨hn, hb⟩)
  have TT := Lib.hid hT
  have NN := Lib.hid hN
  have KK := Lib.hid h.kind
  obtain ⟨cc, hcc⟩ : ∃ x, ct p 65536 = x := ⟨_, rfl⟩
  obtain ⟨rr, hrr⟩ : ∃ x, ct (hm p) 65536 = x := ⟨_, rfl⟩
  obtain ⟨q, hq⟩ : ∃ x, ck p = x := ⟨_, rfl⟩
  have CC := Lib.hid (show cc ≤ 65536 from hcc ▸ ct_le _ _)
  have CR := Lib.hid (show rr ≤ 65536 from hrr ▸ ct_le _ _)
  have EQ := Lib.hid (show ckn cc rr = q by rw [← hq, ← hcc, ← hrr]; rfl)
  have EC := Lib.hid hcc
  have ER := Lib.hid hrr
  obtain rfl : q = 1 := hq.symm.trans hj
  clear hj
  rw [hq]
  have hqq : (((1 : Nat) : Int) == (k : Int)) = false := by rw [beq_eq_false_iff_ne]; omega
  have T := two_blocks w #[.int .u8 κ, .slice A n c, .slice A2 n2 c2, .slice A3 n3 c3] #[.int .u8 0, .slice none 0 0, .slice none 0 0, .slice none 0 0] 28 28
  clear h hT hN hcc hrr
  go_enter Tryz.func32, Tryz.ntmps32
  go_wp2_with fail
  generalize (w.alloc (.cells #[.int .u8 κ, .slice A n c, .slice A2 n2 c2, .slice A3 n3 c3] 28)).alloc (.cells #[.int .u8 0, .slice none 0 0, .slice none 0 0, .slice none 0 0] 28) = W0 at *
  obtain ⟨b0, r0, r1⟩ := T
  have lg := r1.lt
  have BX := Lib.hid (show Bx w w.heap.size 28 #[.int .u8 κ, .slice A n c, .slice A2 n2 c2, .slice A3 n3 c3] (w.heap.size + 1) 28 #[.int .u8 0, .slice none 0 0, .slice none 0 0, .slice none 0 0] W0 from ⟨b0, r0, r1⟩)
  have K0 : Hid (∀ W, Below W0.heap.size W0 W → W.cell? ⟨w.heap.size, 0, none⟩ = some (.int .u8 κ) ∧ W.cell? ⟨w.heap.size, 1, none⟩ = some (.slice A n c) ∧ W.cell? ⟨w.heap.size, 2, none⟩ = some (.slice A2 n2 c2) ∧ W.cell? ⟨w.heap.size, 3, none⟩ = some (.slice A3 n3 c3)) := Lib.hid fun W hW => by
    have r := r0.below hW r0.lt
    exact ⟨r.cell 0, r.cell 1, r.cell 2, r.cell 3⟩
  have B0 := Lib.hid b0
  have hSc : Below W0.heap.size W0 W0.drew := (Below.refl W0.heap.size W0).drew
  clear b0 r0 r1
  refine wp_region_held_drew (S := fun W => Below W0.heap.size W0 W) (by kernel_rfl) hSc (fun _ => ?_)
  refine held_take 0 ?_ rfl (by kernel_rfl) (by kernel_rfl) (by kernel_rfl) (fun _ _ _ h => h) (by rfl) ?_ hSc ?_
  rotate_left
  · (intro W hSW; obtain ⟨k0, k1, k2, k3⟩ := K0.out W hSW; go_simp; try rfl)
  try simp only [Act.put, List.setIfInBounds_toArray, List.set_cons_zero, List.set_cons_succ]
  refine held_take 2 ?_ rfl (by kernel_rfl) (by kernel_rfl) (by kernel_rfl) (fun _ _ _ h => h) (by rfl) ?_ hSc ?_
  rotate_left
  · (intro W hSW; obtain ⟨k0, k1, k2, k3⟩ := K0.out W hSW; go_simp; try rfl)
  try simp only [Act.put, List.setIfInBounds_toArray, List.set_cons_zero, List.set_cons_succ]
  refine held_next 1 rfl (by kernel_rfl) (by rfl) ?_
  go_simp
  refine (len_c _ p k cc _ EC.out ((H.out.step B0.out).step hSc)).mono ?_
  rintro e wq1 ⟨rfl, bq⟩
  have hbq : Below W0.heap.size W0 wq1 := hSc.trans (bq.mono hSc.size)
  refine ⟨fun W => Below W0.heap.size W0 W, fun W hW => hW, hbq, ?_⟩
  clear hSc bq
  have hSc : Below W0.heap.size W0 wq1 := hbq
  clear hbq
  try simp only [Act.put, List.setIfInBounds_toArray, List.set_cons_zero, List.set_cons_succ]
  refine held_next 3 rfl (by kernel_rfl) (by rfl) ?_
  go_simp
  refine (runCount_c _ p k rr _ ER.out ((H.out.step B0.out).step hSc)).mono ?_
  rintro e wq2 ⟨rfl, bq⟩
  have hbq : Below W0.heap.size W0 wq2 := hSc.trans (bq.mono hSc.size)
  refine ⟨fun W => Below W0.heap.size W0 W, fun W hW => hW, hbq, ?_⟩
  clear hSc bq
  have hSc : Below W0.heap.size W0 wq2 := hbq
  clear hbq
  try simp only [Act.put, List.setIfInBounds_toArray, List.set_cons_zero, List.set_cons_succ]
  refine held_next 4 rfl (by kernel_rfl) (by rfl) ?_
  go_simp
  refine (canonicalKind_c cc rr _ CC.out CR.out).mono ?_
  rw [EQ.out]
  rintro e wq ⟨rfl, hz⟩
  have hz := hz.symm
  subst hz
  refine ⟨fun W => Below W0.heap.size W0 W, fun W hW => hW, hSc, ?_⟩
  try simp only [Act.put, List.setIfInBounds_toArray, List.set_cons_zero, List.set_cons_succ]
  refine held_next 5 rfl (by kernel_rfl) (by rfl) ?_
  go_simp
  refine ⟨fun W => Below W0.heap.size W0 W, fun W hW => hW, hSc, ?_⟩
  refine wpAnyH_done (by kernel_rfl) ?_ _
  have H1 := Lib.hid ((H.out.step B0.out).step hSc)
  have T1 := Lib.hid ((TT.out.step B0.out).step hSc)
  have X1 := Lib.hid (BX.out.step hSc)
  obtain ⟨k0, k1, k2, k3⟩ := K0.out _ hSc
  clear hSc H TT BX B0 K0
  go_wp2_with fail
  refine (kind_c _ p k _ H1.out).mono ?_
  rintro e u1 ⟨rfl, b⟩
  have H1 := Lib.hid (H1.out.step b)
  have T1 := Lib.hid (T1.out.step b)
  have X1 := Lib.hid (X1.out.step b)
  have k0 : u1.cell? ⟨w.heap.size, 0, none⟩ = some (.int .u8 κ) := X1.out.r1.cell 0
  have k1 : u1.cell? ⟨w.heap.size, 1, none⟩ = some (.slice A n c) := X1.out.r1.cell 1
  have k2 : u1.cell? ⟨w.heap.size, 2, none⟩ = some (.slice A2 n2 c2) := X1.out.r1.cell 2
  have k3 : u1.cell? ⟨w.heap.size, 3, none⟩ = some (.slice A3 n3 c3) := X1.out.r1.cell 3
  clear b
  go_wp2_with fail
  have RT := Row.new u1 87 #[.nilFunc, .func (.func 73) #[] #[], .func (.func 74) #[] #[], .func (.func 75) #[] #[]]
  have bt := bx u1 (.cells #[.nilFunc, .func (.func 73) #[] #[], .func (.func 74) #[] #[], .func (.func 75) #[] #[]] 87)
  have hsz : u1.heap.size < (u1.alloc (.cells #[.nilFunc, .func (.func 73) #[] #[], .func (.func 74) #[] #[], .func (.func 75) #[] #[]] 87)).heap.size := RT.lt
  generalize u1.alloc (.cells #[.nilFunc, .func (.func 73) #[] #[], .func (.func 74) #[] #[], .func (.func 75) #[] #[]] 87) = W1 at *
  have RR := Lib.hid (X1.out.r2.below bt X1.out.r2.lt)
  have hlt := X1.out.r2.lt
  have hlu := X1.out.bel.size
  have hSc : Bx w w.heap.size 28 #[.int .u8 κ, .slice A n c, .slice A2 n2 c2, .slice A3 n3 c3] u1.heap.size 87 #[.nilFunc, .func (.func 73) #[] #[], .func (.func 74) #[] #[], .func (.func 75) #[] #[]] W1.drew := ⟨(below_both X1.out.bel bt).drew, X1.out.r1.below bt.drew X1.out.r1.lt, RT⟩
  have H2 := Lib.hid (Cn.mono (N' := fun b => N b ∧ b ≠ w.heap.size + 1) (H1.out.step bt.drew) fun b _ hn => ⟨hn.1, by have := hn.2; omega⟩)
  have T2 := Lib.hid (T1.out.step bt.drew)
  have RR := Lib.hid (show Row W1.drew (w.heap.size + 1) _ _ from RR.out)
  have N2 : Hid (∀ b, W1.drew.heap.size ≤ b → N b ∧ b ≠ w.heap.size + 1) := Lib.hid fun b hb => by
    have hb' : W1.heap.size ≤ b := hb
    exact ⟨NN.out b (by omega), by omega⟩
  clear bt RT H1 T1 X1 k0 k1 k2 k3
  refine wp_region_held_drew (S := fun W => Bx w w.heap.size 28 #[.int .u8 κ, .slice A n c, .slice A2 n2 c2, .slice A3 n3 c3] u1.heap.size 87 #[.nilFunc, .func (.func 73) #[] #[], .func (.func 74) #[] #[], .func (.func 75) #[] #[]] W) (by kernel_rfl) hSc (fun _ => ?_)
  refine held_take 0 ?_ rfl (by kernel_rfl) (by kernel_rfl) (by kernel_rfl) (fun _ _ _ h => h) (by rfl) ?_ hSc ?_
  rotate_left
  · (intro W hSW; go_simp; try rfl)
  try simp only [Act.put, List.setIfInBounds_toArray, List.set_cons_zero, List.set_cons_succ]
  refine held_take 1 ?_ rfl (by kernel_rfl) (by kernel_rfl) (by kernel_rfl) (fun _ _ _ h => h) (by rfl) ?_ hSc ?_
  rotate_left
  · (intro W hSW; go_simp; try rfl)
  try simp only [Act.put, List.setIfInBounds_toArray, List.set_cons_zero, List.set_cons_succ]
  refine held_take 2 ?_ rfl (by kernel_rfl) (by kernel_rfl) (by kernel_rfl) (fun _ _ _ h => h) (by rfl) ?_ hSc ?_
  rotate_left
  · (intro W hSW; have k0 : W.cell? ⟨u1.heap.size, 1, none⟩ = some (.func (.func 73) #[] #[]) := hSW.r2.cell 1; go_simp; try rfl)
  try simp only [Act.put, List.setIfInBounds_toArray, List.set_cons_zero, List.set_cons_succ]
  refine held_take 3 ?_ rfl (by kernel_rfl) (by kernel_rfl) (by kernel_rfl) (fun _ _ _ h => h) (by rfl) ?_ hSc ?_
  rotate_left
  · (intro W hSW; have k0 : W.cell? ⟨w.heap.size, 0, none⟩ = some (.int .u8 κ) := hSW.r1.cell 0; have k1 : W.cell? ⟨w.heap.size, 1, none⟩ = some (.slice A n c) := hSW.r1.cell 1; have k2 : W.cell? ⟨w.heap.size, 2, none⟩ = some (.slice A2 n2 c2) := hSW.r1.cell 2; have k3 : W.cell? ⟨w.heap.size, 3, none⟩ = some (.slice A3 n3 c3) := hSW.r1.cell 3; go_simp; try rfl)
  try simp only [Act.put, List.setIfInBounds_toArray, List.set_cons_zero, List.set_cons_succ]
  refine held_next 4 rfl (by kernel_rfl) (by rfl) ?_
  go_simp
  refine (toArrays_c _ p k _ T2.out N2.out H2.out).mono ?_
  rintro e u2 ⟨v', rfl, gq, bq⟩
  obtain ⟨κ5, A5, n5, c5, A6, n6, c6, A7, n7, c7, rfl⟩ := gq.form
  have hS2 := hSc.step bq
  have RR := Lib.hid (RR.out.below bq RR.out.lt)
  have G := Lib.hid gq
  clear hSc gq bq
  have hSc := hS2
  clear hS2
  refine ⟨fun W => Bx w w.heap.size 28 #[.int .u8 κ, .slice A n c, .slice A2 n2 c2, .slice A3 n3 c3] u1.heap.size 87 #[.nilFunc, .func (.func 73) #[] #[], .func (.func 74) #[] #[], .func (.func 75) #[] #[]] W, fun W hW => hW, hSc, ?_⟩
  try simp only [Act.put, List.setIfInBounds_toArray, List.set_cons_zero, List.set_cons_succ]
  have d0 : u2.cell? ⟨w.heap.size + 1, 0, none⟩ = some (.int .u8 0) := RR.out.cell 0
  have d1 : u2.cell? ⟨w.heap.size + 1, 1, none⟩ = some (.slice none 0 0) := RR.out.cell 1
  have d2 : u2.cell? ⟨w.heap.size + 1, 2, none⟩ = some (.slice none 0 0) := RR.out.cell 2
  have d3 : u2.cell? ⟨w.heap.size + 1, 3, none⟩ = some (.slice none 0 0) := RR.out.cell 3
  have e0 := RR.out.frozen 0
  have e1 := RR.out.frozen 1
  have e2 := RR.out.frozen 2
  have e3 := RR.out.frozen 3
  refine held_next 5 rfl (by kernel_rfl) (by rfl) ?_
  go_simp
  have S4 := set4 (a' := .int .u8 κ5) (b' := .slice A5 n5 c5) (c' := .slice A6 n6 c6) (d' := .slice A7 n7 c7) RR.out
  have hSd := hSc.stored S4.2 (by omega) (by omega) (by omega)
  have H5 := Lib.hid ((G.out.grown S4.2 (fun hh => hh.2 rfl)).mono fun b _ hn => hn.1)
  refine ⟨fun W => Bx w w.heap.size 28 #[.int .u8 κ, .slice A n c, .slice A2 n2 c2, .slice A3 n3 c3] u1.heap.size 87 #[.nilFunc, .func (.func 73) #[] #[], .func (.func 74) #[] #[], .func (.func 75) #[] #[]] W, fun W hW => hW, hSd, ?_⟩
  refine wpAnyH_done (by kernel_rfl) ?_ _
  go_wp2
  exact bodyPost_ret (ret_row rfl rfl S4.1) rfl ⟨_, rfl, H5.out, hSd.bel⟩

set_option maxHeartbeats 2000000 in
theorem canonical_2 {N : Nat → Prop} (v : Value) (p : Nat → Bool) (k : Nat) (w : World) (hT : Tb w) (hN : ∀ b, w.heap.size ≤ b → N b) (hj : ck p = 2) (hk : 2 ≠ k) (h : Cn N w v p k) :
    Calls Tryz.prog 32 #[v] w fun e w' => ∃ v', e = .returned v' ∧ Cn N w' v' p (ck p) ∧ Below w.heap.size w w' := by
  obtain ⟨κ, A, n, c, A2, n2, c2, A3, n3, c3, rfl⟩ := h.form
  have H := Lib.hid (h.mono (N' := fun b => N b ∧ b < w.heap.size) fun b hb hn => ⟨hn, hb⟩)
  have TT := Lib.hid hT
  have NN := Lib.hid hN
  have KK := Lib.hid h.kind
  obtain ⟨cc, hcc⟩ : ∃ x, ct p 65536 = x := ⟨_, rfl⟩
  obtain ⟨rr, hrr⟩ : ∃ x, ct (hm p) 65536 = x := ⟨_, rfl⟩
  obtain ⟨q, hq⟩ : ∃ x, ck p = x := ⟨_, rfl⟩
  have CC := Lib.hid (show cc ≤ 65536 from hcc ▸ ct_le _ _)
  have CR := Lib.hid (show rr ≤ 65536 from hrr ▸ ct_le _ _)
  have EQ := Lib.hid (show ckn cc rr = q by rw [← hq, ← hcc, ← hrr]; rfl)
  have EC := Lib.hid hcc
  have ER := Lib.hid hrr
  obtain rfl : q = 2 := hq.symm.trans hj
  clear hj
  rw [hq]
  have hqq : (((2 : Nat) : Int) == (k : Int)) = false := by rw [beq_eq_false_iff_ne]; omega
  have T := two_blocks w #[.int .u8 κ, .slice A n c, .slice A2 n2 c2, .slice A3 n3 c3] #[.int .u8 0, .slice none 0 0, .slice none 0 0, .slice none 0 0] 28 28
  clear h hT hN hcc hrr
  go_enter Tryz.func32, Tryz.ntmps32
  go_wp2_with fail
  generalize (w.alloc (.cells #[.int .u8 κ, .slice A n c, .slice A2 n2 c2, .slice A3 n3 c3] 28)).alloc (.cells #[.int .u8 0, .slice none 0 0, .slice none 0 0, .slice none 0 0] 28) = W0 at *
  obtain ⟨b0, r0, r1⟩ := T
  have lg := r1.lt
  have BX := Lib.hid (show Bx w w.heap.size 28 #[.int .u8 κ, .slice A n c, .slice A2 n2 c2, .slice A3 n3 c3] (w.heap.size + 1) 28 #[.int .u8 0, .slice none 0 0, .slice none 0 0, .slice none 0 0] W0 from ⟨b0, r0, r1⟩)
  have K0 : Hid (∀ W, Below W0.heap.size W0 W → W.cell? ⟨w.heap.size, 0, none⟩ = some (.int .u8 κ) ∧ W.cell? ⟨w.heap.size, 1, none⟩ = some (.slice A n c) ∧ W.cell? ⟨w.heap.size, 2, none⟩ = some (.slice A2 n2 c2) ∧ W.cell? ⟨w.heap.size, 3, none⟩ = some (.slice A3 n3 c3)) := Lib.hid fun W hW => by
    have r := r0.below hW r0.lt
    exact ⟨r.cell 0, r.cell 1, r.cell 2, r.cell 3⟩
  have B0 := Lib.hid b0
  have hSc : Below W0.heap.size W0 W0.drew := (Below.refl W0.heap.size W0).drew
  clear b0 r0 r1
  refine wp_region_held_drew (S := fun W => Below W0.heap.size W0 W) (by kernel_rfl) hSc (fun _ => ?_)
  refine held_take 0 ?_ rfl (by kernel_rfl) (by kernel_rfl) (by kernel_rfl) (fun _ _ _ h => h) (by rfl) ?_ hSc ?_
  rotate_left
  · (intro W hSW; obtain ⟨k0, k1, k2, k3⟩ := K0.out W hSW; go_simp; try rfl)
  try simp only [Act.put, List.setIfInBounds_toArray, List.set_cons_zero, List.set_cons_succ]
  refine held_take 2 ?_ rfl (by kernel_rfl) (by kernel_rfl) (by kernel_rfl) (fun _ _ _ h => h) (by rfl) ?_ hSc ?_
  rotate_left
  · (intro W hSW; obtain ⟨k0, k1, k2, k3⟩ := K0.out W hSW; go_simp; try rfl)
  try simp only [Act.put, List.setIfInBounds_toArray, List.set_cons_zero, List.set_cons_succ]
  refine held_next 1 rfl (by kernel_rfl) (by rfl) ?_
  go_simp
  refine (len_c _ p k cc _ EC.out ((H.out.step B0.out).step hSc)).mono ?_
  rintro e wq1 ⟨rfl, bq⟩
  have hbq : Below W0.heap.size W0 wq1 := hSc.trans (bq.mono hSc.size)
  refine ⟨fun W => Below W0.heap.size W0 W, fun W hW => hW, hbq, ?_⟩
  clear hSc bq
  have hSc : Below W0.heap.size W0 wq1 := hbq
  clear hbq
  try simp only [Act.put, List.setIfInBounds_toArray, List.set_cons_zero, List.set_cons_succ]
  refine held_next 3 rfl (by kernel_rfl) (by rfl) ?_
  go_simp
  refine (runCount_c _ p k rr _ ER.out ((H.out.step B0.out).step hSc)).mono ?_
  rintro e wq2 ⟨rfl, bq⟩
  have hbq : Below W0.heap.size W0 wq2 := hSc.trans (bq.mono hSc.size)
  refine ⟨fun W => Below W0.heap.size W0 W, fun W hW => hW, hbq, ?_⟩
  clear hSc bq
  have hSc : Below W0.heap.size W0 wq2 := hbq
  clear hbq
  try simp only [Act.put, List.setIfInBounds_toArray, List.set_cons_zero, List.set_cons_succ]
  refine held_next 4 rfl (by kernel_rfl) (by rfl) ?_
  go_simp
  refine (canonicalKind_c cc rr _ CC.out CR.out).mono ?_
  rw [EQ.out]
  rintro e wq ⟨rfl, hz⟩
  have hz := hz.symm
  subst hz
  refine ⟨fun W => Below W0.heap.size W0 W, fun W hW => hW, hSc, ?_⟩
  try simp only [Act.put, List.setIfInBounds_toArray, List.set_cons_zero, List.set_cons_succ]
  refine held_next 5 rfl (by kernel_rfl) (by rfl) ?_
  go_simp
  refine ⟨fun W => Below W0.heap.size W0 W, fun W hW => hW, hSc, ?_⟩
  refine wpAnyH_done (by kernel_rfl) ?_ _
  have H1 := Lib.hid ((H.out.step B0.out).step hSc)
  have T1 := Lib.hid ((TT.out.step B0.out).step hSc)
  have X1 := Lib.hid (BX.out.step hSc)
  obtain ⟨k0, k1, k2, k3⟩ := K0.out _ hSc
  clear hSc H TT BX B0 K0
  go_wp2_with fail
  refine (kind_c _ p k _ H1.out).mono ?_
  rintro e u1 ⟨rfl, b⟩
  have H1 := Lib.hid (H1.out.step b)
  have T1 := Lib.hid (T1.out.step b)
  have X1 := Lib.hid (X1.out.step b)
  have k0 : u1.cell? ⟨w.heap.size, 0, none⟩ = some (.int .u8 κ) := X1.out.r1.cell 0
  have k1 : u1.cell? ⟨w.heap.size, 1, none⟩ = some (.slice A n c) := X1.out.r1.cell 1
  have k2 : u1.cell? ⟨w.heap.size, 2, none⟩ = some (.slice A2 n2 c2) := X1.out.r1.cell 2
  have k3 : u1.cell? ⟨w.heap.size, 3, none⟩ = some (.slice A3 n3 c3) := X1.out.r1.cell 3
  clear b
  go_wp2_with fail
  have RT := Row.new u1 87 #[.nilFunc, .func (.func 73) #[] #[], .func (.func 74) #[] #[], .func (.func 75) #[] #[]]
  have bt := bx u1 (.cells #[.nilFunc, .func (.func 73) #[] #[], .func (.func 74) #[] #[], .func (.func 75) #[] #[]] 87)
  have hsz : u1.heap.size < (u1.alloc (.cells #[.nilFunc, .func (.func 73) #[] #[], .func (.func 74) #[] #[], .func (.func 75) #[] #[]] 87)).heap.size := RT.lt
  generalize u1.alloc (.cells #[.nilFunc, .func (.func 73) #[] #[], .func (.func 74) #[] #[], .func (.func 75) #[] #[]] 87) = W1 at *
  have RR := Lib.hid (X1.out.r2.below bt X1.out.r2.lt)
  have hlt := X1.out.r2.lt
  have hlu := X1.out.bel.size
  have hSc : Bx w w.heap.size 28 #[.int .u8 κ, .slice A n c, .slice A2 n2 c2, .slice A3 n3 c3] u1.heap.size 87 #[.nilFunc, .func (.func 73) #[] #[], .func (.func 74) #[] #[], .func (.func 75) #[] #[]] W1.drew := ⟨(below_both X1.out.bel bt).drew, X1.out.r1.below bt.drew X1.out.r1.lt, RT⟩
  have H2 := Lib.hid (Cn.mono (N' := fun b => N b ∧ b ≠ w.heap.size + 1) (H1.out.step bt.drew) fun b _ hn => ⟨hn.1, by have := hn.2; omega⟩)
  have T2 := Lib.hid (T1.out.step bt.drew)
  have RR := Lib.hid (show Row W1.drew (w.heap.size + 1) _ _ from RR.out)
  have N2 : Hid (∀ b, W1.drew.heap.size ≤ b → N b ∧ b ≠ w.heap.size + 1) := Lib.hid fun b hb => by
    have hb' : W1.heap.size ≤ b := hb
    exact ⟨NN.out b (by omega), by omega⟩
  clear bt RT H1 T1 X1 k0 k1 k2 k3
  refine wp_region_held_drew (S := fun W => Bx w w.heap.size 28 #[.int .u8 κ, .slice A n c, .slice A2 n2 c2, .slice A3 n3 c3] u1.heap.size 87 #[.nilFunc, .func (.func 73) #[] #[], .func (.func 74) #[] #[], .func (.func 75) #[] #[]] W) (by kernel_rfl) hSc (fun _ => ?_)
  refine held_take 0 ?_ rfl (by kernel_rfl) (by kernel_rfl) (by kernel_rfl) (fun _ _ _ h => h) (by rfl) ?_ hSc ?_
  rotate_left
  · (intro W hSW; go_simp; try rfl)
  try simp only [Act.put, List.setIfInBounds_toArray, List.set_cons_zero, List.set_cons_succ]
  refine held_take 1 ?_ rfl (by kernel_rfl) (by kernel_rfl) (by kernel_rfl) (fun _ _ _ h => h) (by rfl) ?_ hSc ?_
  rotate_left
  · (intro W hSW; go_simp; try rfl)
  try simp only [Act.put, List.setIfInBounds_toArray, List.set_cons_zero, List.set_cons_succ]
  refine held_take 2 ?_ rfl (by kernel_rfl) (by kernel_rfl) (by kernel_rfl) (fun _ _ _ h => h) (by rfl) ?_ hSc ?_
  rotate_left
  · (intro W hSW; have k0 : W.cell? ⟨u1.heap.size, 2, none⟩ = some (.func (.func 74) #[] #[]) := hSW.r2.cell 2; go_simp; try rfl)
  try simp only [Act.put, List.setIfInBounds_toArray, List.set_cons_zero, List.set_cons_succ]
  refine held_take 3 ?_ rfl (by kernel_rfl) (by kernel_rfl) (by kernel_rfl) (fun _ _ _ h => h) (by rfl) ?_ hSc ?_
  rotate_left
  · (intro W hSW; have k0 : W.cell? ⟨w.heap.size, 0, none⟩ = some (.int .u8 κ) := hSW.r1.cell 0; have k1 : W.cell? ⟨w.heap.size, 1, none⟩ = some (.slice A n c) := hSW.r1.cell 1; have k2 : W.cell? ⟨w.heap.size, 2, none⟩ = some (.slice A2 n2 c2) := hSW.r1.cell 2; have k3 : W.cell? ⟨w.heap.size, 3, none⟩ = some (.slice A3 n3 c3) := hSW.r1.cell 3; go_simp; try rfl)
  try simp only [Act.put, List.setIfInBounds_toArray, List.set_cons_zero, List.set_cons_succ]
  refine held_next 4 rfl (by kernel_rfl) (by rfl) ?_
  go_simp
  refine (toWords_c _ p k _ T2.out N2.out H2.out).mono ?_
  rintro e u2 ⟨v', rfl, gq, bq⟩
  obtain ⟨κ5, A5, n5, c5, A6, n6, c6, A7, n7, c7, rfl⟩ := gq.form
  have hS2 := hSc.step bq
  have RR := Lib.hid (RR.out.below bq RR.out.lt)
  have G := Lib.hid gq
  clear hSc gq bq
  have hSc := hS2
  clear hS2
  refine ⟨fun W => Bx w w.heap.size 28 #[.int .u8 κ, .slice A n c, .slice A2 n2 c2, .slice A3 n3 c3] u1.heap.size 87 #[.nilFunc, .func (.func 73) #[] #[], .func (.func 74) #[] #[], .func (.func 75) #[] #[]] W, fun W hW => hW, hSc, ?_⟩
  try simp only [Act.put, List.setIfInBounds_toArray, List.set_cons_zero, List.set_cons_succ]
  have d0 : u2.cell? ⟨w.heap.size + 1, 0, none⟩ = some (.int .u8 0) := RR.out.cell 0
  have d1 : u2.cell? ⟨w.heap.size + 1, 1, none⟩ = some (.slice none 0 0) := RR.out.cell 1
  have d2 : u2.cell? ⟨w.heap.size + 1, 2, none⟩ = some (.slice none 0 0) := RR.out.cell 2
  have d3 : u2.cell? ⟨w.heap.size + 1, 3, none⟩ = some (.slice none 0 0) := RR.out.cell 3
  have e0 := RR.out.frozen 0
  have e1 := RR.out.frozen 1
  have e2 := RR.out.frozen 2
  have e3 := RR.out.frozen 3
  refine held_next 5 rfl (by kernel_rfl) (by rfl) ?_
  go_simp
  have S4 := set4 (a' := .int .u8 κ5) (b' := .slice A5 n5 c5) (c' := .slice A6 n6 c6) (d' := .slice A7 n7 c7) RR.out
  have hSd := hSc.stored S4.2 (by omega) (by omega) (by omega)
  have H5 := Lib.hid ((G.out.grown S4.2 (fun hh => hh.2 rfl)).mono fun b _ hn => hn.1)
  refine ⟨fun W => Bx w w.heap.size 28 #[.int .u8 κ, .slice A n c, .slice A2 n2 c2, .slice A3 n3 c3] u1.heap.size 87 #[.nilFunc, .func (.func 73) #[] #[], .func (.func 74) #[] #[], .func (.func 75) #[] #[]] W, fun W hW => hW, hSd, ?_⟩
  refine wpAnyH_done (by kernel_rfl) ?_ _
  go_wp2
  exact bodyPost_ret (ret_row rfl rfl S4.1) rfl ⟨_, rfl, H5.out, hSd.bel⟩

set_option maxHeartbeats 2000000 in
theorem canonical_3 {N : Nat → Prop} (v : Value) (p : Nat → Bool) (k : Nat) (w : World) (hT : Tb w) (hN : ∀ b, w.heap.size ≤ b → N b) (hj : ck p = 3) (hk : 3 ≠ k) (h : Cn N w v p k) :
    Calls Tryz.prog 32 #[v] w fun e w' => ∃ v', e = .returned v' ∧ Cn N w' v' p (ck p) ∧ Below w.heap.size w w' := by
  obtain ⟨κ, A, n, c, A2, n2, c2, A3, n3, c3, rfl⟩ := h.form
  have H := Lib.hid (h.mono (N' := fun b => N b ∧ b < w.heap.size) fun b hb hn => ⟨hn, hb⟩)
  have TT := Lib.hid hT
  have NN := Lib.hid hN
  have KK := Lib.hid h.kind
  obtain ⟨cc, hcc⟩ : ∃ x, ct p 65536 = x := ⟨_, rfl⟩
  obtain ⟨rr, hrr⟩ : ∃ x, ct (hm p) 65536 = x := ⟨_, rfl⟩
  obtain ⟨q, hq⟩ : ∃ x, ck p = x := ⟨_, rfl⟩
  have CC := Lib.hid (show cc ≤ 65536 from hcc ▸ ct_le _ _)
  have CR := Lib.hid (show rr ≤ 65536 from hrr ▸ ct_le _ _)
  have EQ := Lib.hid (show ckn cc rr = q by rw [← hq, ← hcc, ← hrr]; rfl)
  have EC := Lib.hid hcc
  have ER := Lib.hid hrr
  obtain rfl : q = 3 := hq.symm.trans hj
  clear hj
  rw [hq]
  have hqq : (((3 : Nat) : Int) == (k : Int)) = false := by rw [beq_eq_false_iff_ne]; omega
  have T := two_blocks w #[.int .u8 κ, .slice A n c, .slice A2 n2 c2, .slice A3 n3 c3] #[.int .u8 0, .slice none 0 0, .slice none 0 0, .slice none 0 0] 28 28
  clear h hT hN hcc hrr
  go_enter Tryz.func32, Tryz.ntmps32
  go_wp2_with fail
  generalize (w.alloc (.cells #[.int .u8 κ, .slice A n c, .slice A2 n2 c2, .slice A3 n3 c3] 28)).alloc (.cells #[.int .u8 0, .slice none 0 0, .slice none 0 0, .slice none 0 0] 28) = W0 at *
  obtain ⟨b0, r0, r1⟩ := T
  have lg := r1.lt
  have BX := Lib.hid (show Bx w w.heap.size 28 #[.int .u8 κ, .slice A n c, .slice A2 n2 c2, .slice A3 n3 c3] (w.heap.size + 1) 28 #[.int .u8 0, .slice none 0 0, .slice none 0 0, .slice none 0 0] W0 from ⟨b0, r0, r1⟩)
  have K0 : Hid (∀ W, Below W0.heap.size W0 W → W.cell? ⟨w.heap.size, 0, none⟩ = some (.int .u8 κ) ∧ W.cell? ⟨w.heap.size, 1, none⟩ = some (.slice A n c) ∧ W.cell? ⟨w.heap.size, 2, none⟩ = some (.slice A2 n2 c2) ∧ W.cell? ⟨w.heap.size, 3, none⟩ = some (.slice A3 n3 c3)) := Lib.hid fun W hW => by
    have r := r0.below hW r0.lt
    exact ⟨r.cell 0, r.cell 1, r.cell 2, r.cell 3⟩
  have B0 := Lib.hid b0
  have hSc : Below W0.heap.size W0 W0.drew := (Below.refl W0.heap.size W0).drew
  clear b0 r0 r1
  refine wp_region_held_drew (S := fun W => Below W0.heap.size W0 W) (by kernel_rfl) hSc (fun _ => ?_)
  refine held_take 0 ?_ rfl (by kernel_rfl) (by kernel_rfl) (by kernel_rfl) (fun _ _ _ h => h) (by rfl) ?_ hSc ?_
  rotate_left
  · (intro W hSW; obtain ⟨k0, k1, k2, k3⟩ := K0.out W hSW; go_simp; try rfl)
  try simp only [Act.put, List.setIfInBounds_toArray, List.set_cons_zero, List.set_cons_succ]
  refine held_take 2 ?_ rfl (by kernel_rfl) (by kernel_rfl) (by kernel_rfl) (fun _ _ _ h => h) (by rfl) ?_ hSc ?_
  rotate_left
  · (intro W hSW; obtain ⟨k0, k1, k2, k3⟩ := K0.out W hSW; go_simp; try rfl)
  try simp only [Act.put, List.setIfInBounds_toArray, List.set_cons_zero, List.set_cons_succ]
  refine held_next 1 rfl (by kernel_rfl) (by rfl) ?_
  go_simp
  refine (len_c _ p k cc _ EC.out ((H.out.step B0.out).step hSc)).mono ?_
  rintro e wq1 ⟨rfl, bq⟩
  have hbq : Below W0.heap.size W0 wq1 := hSc.trans (bq.mono hSc.size)
  refine ⟨fun W => Below W0.heap.size W0 W, fun W hW => hW, hbq, ?_⟩
  clear hSc bq
  have hSc : Below W0.heap.size W0 wq1 := hbq
  clear hbq
  try simp only [Act.put, List.setIfInBounds_toArray, List.set_cons_zero, List.set_cons_succ]
  refine held_next 3 rfl (by kernel_rfl) (by rfl) ?_
  go_simp
  refine (runCount_c _ p k rr _ ER.out ((H.out.step B0.out).step hSc)).mono ?_
  rintro e wq2 ⟨rfl, bq⟩
  have hbq : Below W0.heap.size W0 wq2 := hSc.trans (bq.mono hSc.size)
  refine ⟨fun W => Below W0.heap.size W0 W, fun W hW => hW, hbq, ?_⟩
  clear hSc bq
  have hSc : Below W0.heap.size W0 wq2 := hbq
  clear hbq
  try simp only [Act.put, List.setIfInBounds_toArray, List.set_cons_zero, List.set_cons_succ]
  refine held_next 4 rfl (by kernel_rfl) (by rfl) ?_
  go_simp
  refine (canonicalKind_c cc rr _ CC.out CR.out).mono ?_
  rw [EQ.out]
  rintro e wq ⟨rfl, hz⟩
  have hz := hz.symm
  subst hz
  refine ⟨fun W => Below W0.heap.size W0 W, fun W hW => hW, hSc, ?_⟩
  try simp only [Act.put, List.setIfInBounds_toArray, List.set_cons_zero, List.set_cons_succ]
  refine held_next 5 rfl (by kernel_rfl) (by rfl) ?_
  go_simp
  refine ⟨fun W => Below W0.heap.size W0 W, fun W hW => hW, hSc, ?_⟩
  refine wpAnyH_done (by kernel_rfl) ?_ _
  have H1 := Lib.hid ((H.out.step B0.out).step hSc)
  have T1 := Lib.hid ((TT.out.step B0.out).step hSc)
  have X1 := Lib.hid (BX.out.step hSc)
  obtain ⟨k0, k1, k2, k3⟩ := K0.out _ hSc
  clear hSc H TT BX B0 K0
  go_wp2_with fail
  refine (kind_c _ p k _ H1.out).mono ?_
  rintro e u1 ⟨rfl, b⟩
  have H1 := Lib.hid (H1.out.step b)
  have T1 := Lib.hid (T1.out.step b)
  have X1 := Lib.hid (X1.out.step b)
  have k0 : u1.cell? ⟨w.heap.size, 0, none⟩ = some (.int .u8 κ) := X1.out.r1.cell 0
  have k1 : u1.cell? ⟨w.heap.size, 1, none⟩ = some (.slice A n c) := X1.out.r1.cell 1
  have k2 : u1.cell? ⟨w.heap.size, 2, none⟩ = some (.slice A2 n2 c2) := X1.out.r1.cell 2
  have k3 : u1.cell? ⟨w.heap.size, 3, none⟩ = some (.slice A3 n3 c3) := X1.out.r1.cell 3
  clear b
  go_wp2_with fail
  have RT := Row.new u1 87 #[.nilFunc, .func (.func 73) #[] #[], .func (.func 74) #[] #[], .func (.func 75) #[] #[]]
  have bt := bx u1 (.cells #[.nilFunc, .func (.func 73) #[] #[], .func (.func 74) #[] #[], .func (.func 75) #[] #[]] 87)
  have hsz : u1.heap.size < (u1.alloc (.cells #[.nilFunc, .func (.func 73) #[] #[], .func (.func 74) #[] #[], .func (.func 75) #[] #[]] 87)).heap.size := RT.lt
  generalize u1.alloc (.cells #[.nilFunc, .func (.func 73) #[] #[], .func (.func 74) #[] #[], .func (.func 75) #[] #[]] 87) = W1 at *
  have RR := Lib.hid (X1.out.r2.below bt X1.out.r2.lt)
  have hlt := X1.out.r2.lt
  have hlu := X1.out.bel.size
  have hSc : Bx w w.heap.size 28 #[.int .u8 κ, .slice A n c, .slice A2 n2 c2, .slice A3 n3 c3] u1.heap.size 87 #[.nilFunc, .func (.func 73) #[] #[], .func (.func 74) #[] #[], .func (.func 75) #[] #[]] W1.drew := ⟨(below_both X1.out.bel bt).drew, X1.out.r1.below bt.drew X1.out.r1.lt, RT⟩
  have H2 := Lib.hid (Cn.mono (N' := fun b => N b ∧ b ≠ w.heap.size + 1) (H1.out.step bt.drew) fun b _ hn => ⟨hn.1, by have := hn.2; omega⟩)
  have T2 := Lib.hid (T1.out.step bt.drew)
  have RR := Lib.hid (show Row W1.drew (w.heap.size + 1) _ _ from RR.out)
  have N2 : Hid (∀ b, W1.drew.heap.size ≤ b → N b ∧ b ≠ w.heap.size + 1) := Lib.hid fun b hb => by
    have hb' : W1.heap.size ≤ b := hb
    exact ⟨NN.out b (by omega), by omega⟩
  clear bt RT H1 T1 X1 k0 k1 k2 k3
  refine wp_region_held_drew (S := fun W => Bx w w.heap.size 28 #[.int .u8 κ, .slice A n c, .slice A2 n2 c2, .slice A3 n3 c3] u1.heap.size 87 #[.nilFunc, .func (.func 73) #[] #[], .func (.func 74) #[] #[], .func (.func 75) #[] #[]] W) (by kernel_rfl) hSc (fun _ => ?_)
  refine held_take 0 ?_ rfl (by kernel_rfl) (by kernel_rfl) (by kernel_rfl) (fun _ _ _ h => h) (by rfl) ?_ hSc ?_
  rotate_left
  · (intro W hSW; go_simp; try rfl)
  try simp only [Act.put, List.setIfInBounds_toArray, List.set_cons_zero, List.set_cons_succ]
  refine held_take 1 ?_ rfl (by kernel_rfl) (by kernel_rfl) (by kernel_rfl) (fun _ _ _ h => h) (by rfl) ?_ hSc ?_
  rotate_left
  · (intro W hSW; go_simp; try rfl)
  try simp only [Act.put, List.setIfInBounds_toArray, List.set_cons_zero, List.set_cons_succ]
  refine held_take 2 ?_ rfl (by kernel_rfl) (by kernel_rfl) (by kernel_rfl) (fun _ _ _ h => h) (by rfl) ?_ hSc ?_
  rotate_left
  · (intro W hSW; have k0 : W.cell? ⟨u1.heap.size, 3, none⟩ = some (.func (.func 75) #[] #[]) := hSW.r2.cell 3; go_simp; try rfl)
  try simp only [Act.put, List.setIfInBounds_toArray, List.set_cons_zero, List.set_cons_succ]
  refine held_take 3 ?_ rfl (by kernel_rfl) (by kernel_rfl) (by kernel_rfl) (fun _ _ _ h => h) (by rfl) ?_ hSc ?_
  rotate_left
  · (intro W hSW; have k0 : W.cell? ⟨w.heap.size, 0, none⟩ = some (.int .u8 κ) := hSW.r1.cell 0; have k1 : W.cell? ⟨w.heap.size, 1, none⟩ = some (.slice A n c) := hSW.r1.cell 1; have k2 : W.cell? ⟨w.heap.size, 2, none⟩ = some (.slice A2 n2 c2) := hSW.r1.cell 2; have k3 : W.cell? ⟨w.heap.size, 3, none⟩ = some (.slice A3 n3 c3) := hSW.r1.cell 3; go_simp; try rfl)
  try simp only [Act.put, List.setIfInBounds_toArray, List.set_cons_zero, List.set_cons_succ]
  refine held_next 4 rfl (by kernel_rfl) (by rfl) ?_
  go_simp
  refine (toRuns_c _ p k _ T2.out N2.out H2.out).mono ?_
  rintro e u2 ⟨v', rfl, gq, bq⟩
  obtain ⟨κ5, A5, n5, c5, A6, n6, c6, A7, n7, c7, rfl⟩ := gq.form
  have hS2 := hSc.step bq
  have RR := Lib.hid (RR.out.below bq RR.out.lt)
  have G := Lib.hid gq
  clear hSc gq bq
  have hSc := hS2
  clear hS2
  refine ⟨fun W => Bx w w.heap.size 28 #[.int .u8 κ, .slice A n c, .slice A2 n2 c2, .slice A3 n3 c3] u1.heap.size 87 #[.nilFunc, .func (.func 73) #[] #[], .func (.func 74) #[] #[], .func (.func 75) #[] #[]] W, fun W hW => hW, hSc, ?_⟩
  try simp only [Act.put, List.setIfInBounds_toArray, List.set_cons_zero, List.set_cons_succ]
  have d0 : u2.cell? ⟨w.heap.size + 1, 0, none⟩ = some (.int .u8 0) := RR.out.cell 0
  have d1 : u2.cell? ⟨w.heap.size + 1, 1, none⟩ = some (.slice none 0 0) := RR.out.cell 1
  have d2 : u2.cell? ⟨w.heap.size + 1, 2, none⟩ = some (.slice none 0 0) := RR.out.cell 2
  have d3 : u2.cell? ⟨w.heap.size + 1, 3, none⟩ = some (.slice none 0 0) := RR.out.cell 3
  have e0 := RR.out.frozen 0
  have e1 := RR.out.frozen 1
  have e2 := RR.out.frozen 2
  have e3 := RR.out.frozen 3
  refine held_next 5 rfl (by kernel_rfl) (by rfl) ?_
  go_simp
  have S4 := set4 (a' := .int .u8 κ5) (b' := .slice A5 n5 c5) (c' := .slice A6 n6 c6) (d' := .slice A7 n7 c7) RR.out
  have hSd := hSc.stored S4.2 (by omega) (by omega) (by omega)
  have H5 := Lib.hid ((G.out.grown S4.2 (fun hh => hh.2 rfl)).mono fun b _ hn => hn.1)
  refine ⟨fun W => Bx w w.heap.size 28 #[.int .u8 κ, .slice A n c, .slice A2 n2 c2, .slice A3 n3 c3] u1.heap.size 87 #[.nilFunc, .func (.func 73) #[] #[], .func (.func 74) #[] #[], .func (.func 75) #[] #[]] W, fun W hW => hW, hSd, ?_⟩
  refine wpAnyH_done (by kernel_rfl) ?_ _
  go_wp2
  exact bodyPost_ret (ret_row rfl rfl S4.1) rfl ⟨_, rfl, H5.out, hSd.bel⟩

theorem canonical_c {N : Nat → Prop} (v : Value) (p : Nat → Bool) (k : Nat) (w : World) (hT : Tb w) (hN : ∀ b, w.heap.size ≤ b → N b) (h : Cn N w v p k) :
    Calls Tryz.prog 32 #[v] w fun e w' => ∃ v', e = .returned v' ∧ Cn N w' v' p (ck p) ∧ Below w.heap.size w w' := by
  have hc := ck_le p
  by_cases hk : ck p = k
  · exact canonical_same v p k w hT hN hk h
  · have hj : ck p = 1 ∨ ck p = 2 ∨ ck p = 3 := by omega
    rcases hj with hj | hj | hj
    · exact canonical_1 v p k w hT hN hj (by omega) h
    · exact canonical_2 v p k w hT hN hj (by omega) h
    · exact canonical_3 v p k w hT hN hj (by omega) h
end Go.Proofs.YtfefmlnlicilbaaGreatDoor
