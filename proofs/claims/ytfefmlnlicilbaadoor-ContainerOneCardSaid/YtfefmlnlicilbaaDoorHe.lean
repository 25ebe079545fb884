/- Walks: containers made of rows; the canonical kind, the size; a container of any kind as one of another; flipped; with a number more. -/
import Derived.Test.YtfefmlnlicilbaaDoorHc
namespace Go.Proofs.YtfefmlnlicilbaaDoor
open Go.RowKit
set_option linter.unusedVariables false

theorem szC : (Tryd.prog.info? 27).map (·.size) = some 4 := by kernel_rfl
theorem ret_row {fn : Func} {p : Tmp} (hf : fn.results = #[.cell p 27]) {tmps : Array Value} {w : World} {g : Nat} {a b c d : Value} (hp : tmps.getD p undef = .pointer (some ⟨g, 0, none⟩)) (R : Row w g 27 #[a, b, c, d]) :
    (results fn tmps).run Tryd.prog w = .ok (.agg #[a, b, c, d]) w :=
  results_cell_row hf _ w g _ _ (0, 0) _ hp R Tryd.underlying27 rfl szC
theorem set4 {w : World} {g : Nat} {t : TypeId} {a b c d a' b' c' d' : Value} (R : Row w g t #[a, b, c, d]) :
    Row ((((w.setCell ⟨g, 0, none⟩ a').setCell ⟨g, 1, none⟩ b').setCell ⟨g, 2, none⟩ c').setCell ⟨g, 3, none⟩ d') g t #[a', b', c', d'] ∧ w.grownBy ((((w.setCell ⟨g, 0, none⟩ a').setCell ⟨g, 1, none⟩ b').setCell ⟨g, 2, none⟩ c').setCell ⟨g, 3, none⟩ d') (some g) := by
  refine ⟨by simpa using (((R.set_ 0 a').set_ 1 b').set_ 2 c').set_ 3 d', ⟨rfl, rfl, rfl, by simp [World.setCell], fun k hk hne => ?_⟩⟩
  have h : ∀ (w : World) (i : Nat) (u : Value), (w.setCell ⟨g, i, none⟩ u).heap[k]? = w.heap[k]? := fun w i u => Below.heap_setCell w _ u k (fun e => hne (by rw [e]))
  rw [h, h, h, h]

theorem ofArray_v (A : Option Addr) (n c : Nat) (w : World) :
    Calls Tryd.prog 19 #[.slice A n c] w fun e w' => e = .returned (.agg #[.int .u8 1, .slice A n c, .slice none 0 0, .slice none 0 0]) ∧ Below w.heap.size w w' := by
  have R := Row.new w 27 #[.int .u8 1, .slice A n c, .slice none 0 0, .slice none 0 0]
  have B := bx w (.cells #[.int .u8 1, .slice A n c, .slice none 0 0, .slice none 0 0] 27)
  go_enter Tryd.func19, Tryd.ntmps19
  go_wp2
  exact bodyPost_ret (ret_row rfl rfl R) rfl ⟨rfl, B⟩

theorem ofWords_v (A : Option Addr) (n c : Nat) (w : World) :
    Calls Tryd.prog 40 #[.slice A n c] w fun e w' => e = .returned (.agg #[.int .u8 2, .slice none 0 0, .slice A n c, .slice none 0 0]) ∧ Below w.heap.size w w' := by
  have R := Row.new w 27 #[.int .u8 2, .slice none 0 0, .slice A n c, .slice none 0 0]
  have B := bx w (.cells #[.int .u8 2, .slice none 0 0, .slice A n c, .slice none 0 0] 27)
  go_enter Tryd.func40, Tryd.ntmps40
  go_wp2
  exact bodyPost_ret (ret_row rfl rfl R) rfl ⟨rfl, B⟩

theorem ofRuns_v (A : Option Addr) (n c : Nat) (w : World) :
    Calls Tryd.prog 42 #[.slice A n c] w fun e w' => e = .returned (.agg #[.int .u8 3, .slice none 0 0, .slice none 0 0, .slice A n c]) ∧ Below w.heap.size w w' := by
  have R := Row.new w 27 #[.int .u8 3, .slice none 0 0, .slice none 0 0, .slice A n c]
  have B := bx w (.cells #[.int .u8 3, .slice none 0 0, .slice none 0 0, .slice A n c] 27)
  go_enter Tryd.func42, Tryd.ntmps42
  go_wp2
  exact bodyPost_ret (ret_row rfl rfl R) rfl ⟨rfl, B⟩

theorem mul_wrap (a b : Int) (h0 : 0 ≤ b) (h1 : b ≤ 100000) (ha : 0 ≤ a ∧ a ≤ 8) : wrap64 (a * b) = a * b := by
  have : 0 ≤ a * b ∧ a * b ≤ 800000 := by
    constructor
    · exact Int.mul_nonneg ha.1 h0
    · exact Int.le_trans (Int.mul_le_mul ha.2 h1 h0 (by omega)) (by omega)
  unfold wrap64; omega

theorem size_1 (c r : Nat) (w : World) (hc : c ≤ 65536) (hr : r ≤ 65536) :
    Calls Tryd.prog 31 #[.int .u8 1, .int .i64 c, .int .i64 r] w fun e w' => e = .returned (.int .i64 (2 * (c : Int))) ∧ w' = w := by
  have h1 : wrap64 (2 * (c : Int)) = 2 * (c : Int) := by unfold wrap64; omega
  have h2 : wrap64 (4 * (r : Int)) = 4 * (r : Int) := by unfold wrap64; omega
  have h3 : wrap64 (2 + 4 * (r : Int)) = 2 + 4 * (r : Int) := by unfold wrap64; omega
  go_enter Tryd.func31, Tryd.ntmps31
  go_wp2
  go_ret
  exact ⟨rfl, rfl⟩

theorem size_2 (c r : Nat) (w : World) (hc : c ≤ 65536) (hr : r ≤ 65536) :
    Calls Tryd.prog 31 #[.int .u8 2, .int .i64 c, .int .i64 r] w fun e w' => e = .returned (.int .i64 (8192)) ∧ w' = w := by
  have h1 : wrap64 (2 * (c : Int)) = 2 * (c : Int) := by unfold wrap64; omega
  have h2 : wrap64 (4 * (r : Int)) = 4 * (r : Int) := by unfold wrap64; omega
  have h3 : wrap64 (2 + 4 * (r : Int)) = 2 + 4 * (r : Int) := by unfold wrap64; omega
  go_enter Tryd.func31, Tryd.ntmps31
  go_wp2
  go_ret
  exact ⟨rfl, rfl⟩

theorem size_3 (c r : Nat) (w : World) (hc : c ≤ 65536) (hr : r ≤ 65536) :
    Calls Tryd.prog 31 #[.int .u8 3, .int .i64 c, .int .i64 r] w fun e w' => e = .returned (.int .i64 (2 + 4 * (r : Int))) ∧ w' = w := by
  have h1 : wrap64 (2 * (c : Int)) = 2 * (c : Int) := by unfold wrap64; omega
  have h2 : wrap64 (4 * (r : Int)) = 4 * (r : Int) := by unfold wrap64; omega
  have h3 : wrap64 (2 + 4 * (r : Int)) = 2 + 4 * (r : Int) := by unfold wrap64; omega
  go_enter Tryd.func31, Tryd.ntmps31
  go_wp2
  go_ret
  exact ⟨rfl, rfl⟩

theorem ck_11 (c r : Nat) (w : World) (hc : c ≤ 65536) (hr : r ≤ 65536) (h : c ≤ 4096) (h2 : ¬ 2 + 4 * r < 2 * c) :
    Calls Tryd.prog 21 #[.int .i64 c, .int .i64 r] w fun e w' => e = .returned (.int .u8 1) ∧ w' = w := by
  have S1 := Lib.hid (fun W => size_3 c r W hc hr)
  have S2 := Lib.hid (fun W => size_1 c r W hc hr)
  have g1 : decide ((c : Int) > 4096) = false := decide_eq_false (by omega)
  have g2 : decide (2 + 4 * (r : Int) < 2 * (c : Int)) = false := decide_eq_false (by omega)
  have g3 : ¬ (c : Int) > 4096 := by omega
  go_enter Tryd.func21, Tryd.ntmps21
  go_wp2_with fail
  refine (S1.out _).mono ?_
  rintro e w1 ⟨rfl, hz⟩
  have hz := hz.symm
  subst hz
  go_wp2_with fail
  refine (S2.out _).mono ?_
  rintro e w1 ⟨rfl, hz⟩
  have hz := hz.symm
  subst hz
  go_wp2
  go_ret
  exact ⟨rfl, rfl⟩

theorem ck_13 (c r : Nat) (w : World) (hc : c ≤ 65536) (hr : r ≤ 65536) (h : c ≤ 4096) (h2 : 2 + 4 * r < 2 * c) :
    Calls Tryd.prog 21 #[.int .i64 c, .int .i64 r] w fun e w' => e = .returned (.int .u8 3) ∧ w' = w := by
  have S1 := Lib.hid (fun W => size_3 c r W hc hr)
  have S2 := Lib.hid (fun W => size_1 c r W hc hr)
  have g1 : decide ((c : Int) > 4096) = false := decide_eq_false (by omega)
  have g2 : decide (2 + 4 * (r : Int) < 2 * (c : Int)) = true := decide_eq_true (by omega)
  have g3 : ¬ (c : Int) > 4096 := by omega
  go_enter Tryd.func21, Tryd.ntmps21
  go_wp2_with fail
  refine (S1.out _).mono ?_
  rintro e w1 ⟨rfl, hz⟩
  have hz := hz.symm
  subst hz
  go_wp2_with fail
  refine (S2.out _).mono ?_
  rintro e w1 ⟨rfl, hz⟩
  have hz := hz.symm
  subst hz
  go_wp2
  go_ret
  exact ⟨rfl, rfl⟩

theorem ck_22 (c r : Nat) (w : World) (hc : c ≤ 65536) (hr : r ≤ 65536) (h : ¬ c ≤ 4096) (h2 : ¬ 2 + 4 * r < 8192) :
    Calls Tryd.prog 21 #[.int .i64 c, .int .i64 r] w fun e w' => e = .returned (.int .u8 2) ∧ w' = w := by
  have S1 := Lib.hid (fun W => size_3 c r W hc hr)
  have S2 := Lib.hid (fun W => size_2 c r W hc hr)
  have g1 : decide ((c : Int) > 4096) = true := decide_eq_true (by omega)
  have g2 : decide (2 + 4 * (r : Int) < 8192) = false := decide_eq_false (by omega)
  have g3 : (c : Int) > 4096 := by omega
  go_enter Tryd.func21, Tryd.ntmps21
  go_wp2_with fail
  refine (S1.out _).mono ?_
  rintro e w1 ⟨rfl, hz⟩
  have hz := hz.symm
  subst hz
  go_wp2_with fail
  refine (S2.out _).mono ?_
  rintro e w1 ⟨rfl, hz⟩
  have hz := hz.symm
  subst hz
  go_wp2
  go_ret
  exact ⟨rfl, rfl⟩

theorem ck_23 (c r : Nat) (w : World) (hc : c ≤ 65536) (hr : r ≤ 65536) (h : ¬ c ≤ 4096) (h2 : 2 + 4 * r < 8192) :
    Calls Tryd.prog 21 #[.int .i64 c, .int .i64 r] w fun e w' => e = .returned (.int .u8 3) ∧ w' = w := by
  have S1 := Lib.hid (fun W => size_3 c r W hc hr)
  have S2 := Lib.hid (fun W => size_2 c r W hc hr)
  have g1 : decide ((c : Int) > 4096) = true := decide_eq_true (by omega)
  have g2 : decide (2 + 4 * (r : Int) < 8192) = true := decide_eq_true (by omega)
  have g3 : (c : Int) > 4096 := by omega
  go_enter Tryd.func21, Tryd.ntmps21
  go_wp2_with fail
  refine (S1.out _).mono ?_
  rintro e w1 ⟨rfl, hz⟩
  have hz := hz.symm
  subst hz
  go_wp2_with fail
  refine (S2.out _).mono ?_
  rintro e w1 ⟨rfl, hz⟩
  have hz := hz.symm
  subst hz
  go_wp2
  go_ret
  exact ⟨rfl, rfl⟩

theorem canonicalKind_c (c r : Nat) (w : World) (hc : c ≤ 65536) (hr : r ≤ 65536) :
    Calls Tryd.prog 21 #[.int .i64 c, .int .i64 r] w fun e w' => e = .returned (.int .u8 (ckn c r : Nat)) ∧ w' = w := by
  unfold ckn
  by_cases h : c ≤ 4096
  · rw [if_pos h, if_pos h]
    by_cases h2 : 2 + 4 * r < 2 * c
    · rw [if_pos h2]; exact ck_13 c r w hc hr h h2
    · rw [if_neg h2]; exact ck_11 c r w hc hr h h2
  · rw [if_neg h, if_neg h]
    by_cases h2 : 2 + 4 * r < 8192
    · rw [if_pos h2]; exact ck_23 c r w hc hr h h2
    · rw [if_neg h2]; exact ck_22 c r w hc hr h h2
theorem size_c (k c r : Nat) (w : World) (hk : 1 ≤ k ∧ k ≤ 3) (hc : c ≤ 65536) (hr : r ≤ 65536) :
    Calls Tryd.prog 31 #[.int .u8 k, .int .i64 c, .int .i64 r] w fun e w' => e = .returned (.int .i64 (szn k c r : Nat)) ∧ w' = w := by
  have hk2 : k = 1 ∨ k = 2 ∨ k = 3 := by omega
  rcases hk2 with rfl | rfl | rfl
  · have e : ((szn 1 c r : Nat) : Int) = 2 * (c : Int) := by simp [szn]
    rw [e]; exact size_1 c r w hc hr
  · exact size_2 c r w hc hr
  · have e : ((szn 3 c r : Nat) : Int) = 2 + 4 * (r : Int) := by simp [szn]
    rw [e]; exact size_3 c r w hc hr
end Go.Proofs.YtfefmlnlicilbaaDoor
