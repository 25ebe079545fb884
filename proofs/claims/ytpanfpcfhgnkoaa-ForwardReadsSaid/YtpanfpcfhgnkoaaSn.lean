/- Mathematics of reading an index; walks: readHead. -/
import Derived.Test.YtpanfpcfhgnkoaaSk
namespace Go.Proofs.Ytpanfpcfhgnkoaa
open Go.RowKit
set_option linter.unusedVariables false

theorem le_leVal (s : List UInt8) : le s.length (leVal s) = s := by
  induction s with
  | nil => rfl
  | cons x r ih =>
    have hx := x.toNat_lt
    rw [List.length_cons, le, leVal]
    rw [show (x.toNat + 256 * leVal r) / 256 = leVal r by omega, ih]
    congr 1
    apply UInt8.toNat.inj
    simp
/-- The three numbers of the head. -/
def rN (b : List UInt8) : Nat := leVal (b.take 4)
def rM (b : List UInt8) : Nat := leVal ((b.drop 4).take 4)
def rW (b : List UInt8) : Nat := (b.getD 8 0).toNat
theorem rN_lt (b : List UInt8) : rN b < 4294967296 := by
  have h1 := leVal_lt (b.take 4)
  have h2 : (b.take 4).length ≤ 4 := by simp; omega
  have h3 : 2 ^ (8 * (b.take 4).length) ≤ 2 ^ 32 := Nat.pow_le_pow_right (by omega) (by omega)
  unfold rN
  omega
theorem rM_lt (b : List UInt8) : rM b < 4294967296 := by
  have h1 := leVal_lt ((b.drop 4).take 4)
  have h2 : ((b.drop 4).take 4).length ≤ 4 := by simp; omega
  have h3 : 2 ^ (8 * ((b.drop 4).take 4).length) ≤ 2 ^ 32 := Nat.pow_le_pow_right (by omega) (by omega)
  unfold rM
  omega
theorem rW_lt (b : List UInt8) : rW b < 256 := by unfold rW; exact UInt8.toNat_lt _
theorem rd_bad (l : List UInt8) (p s : Nat) : rd l p true s = (0, p, true) := by unfold rd; simp
theorem rd_no {l : List UInt8} {p s : Nat} (hs : s ≠ 0) (h : l.length - p < s) : rd l p false s = (0, p, true) := by
  unfold rd rdW
  simp [hs, h]
theorem rd_yes {l : List UInt8} {p s : Nat} (hs : s ≠ 0) (h : ¬ l.length - p < s) : rd l p false s = (leVal ((l.drop p).take s), p + s, false) := by
  unfold rd rdW
  simp [hs, h]
/-- Three numbers, one behind the other, of nine bytes. -/
theorem three_no (l : List UInt8) (h : l.length < 9) :
    (rd l (rd l (rd l 0 false 4).2.1 (rd l 0 false 4).2.2 4).2.1 (rd l (rd l 0 false 4).2.1 (rd l 0 false 4).2.2 4).2.2 1).2.2 = true := by
  by_cases h1 : l.length - 0 < 4
  · rw [rd_no (by omega) h1, rd_bad, rd_bad]
  · rw [rd_yes (by omega) h1]
    by_cases h2 : l.length - (0 + 4) < 4
    · rw [rd_no (by omega) h2, rd_bad]
    · rw [rd_yes (by omega) h2, rd_no (by omega) (by show l.length - (0 + 4 + 4) < 1; omega)]
theorem take_one_val (b : List UInt8) (p : Nat) (h : p < b.length) : leVal ((b.drop p).take 1) = (b.getD p 0).toNat := by
  rw [List.drop_eq_getElem_cons h, List.take_succ_cons, List.take_zero, leVal, leVal, List.getD_eq_getElem?_getD, List.getElem?_eq_getElem h, Option.getD_some]
  simp
theorem nine_1 (b : List UInt8) (h : 9 ≤ b.length) : rd (b.take 9) 0 false 4 = (rN b, 4, false) := by
  rw [rd_yes (by omega) (by rw [List.length_take]; omega), List.drop_zero, List.take_take]
  rfl
theorem nine_2 (b : List UInt8) (h : 9 ≤ b.length) : rd (b.take 9) 4 false 4 = (rM b, 8, false) := by
  rw [rd_yes (by omega) (by rw [List.length_take]; omega), List.drop_take, List.take_take]
  rfl
theorem nine_3 (b : List UInt8) (h : 9 ≤ b.length) : rd (b.take 9) 8 false 1 = (rW b, 9, false) := by
  rw [rd_yes (by omega) (by rw [List.length_take]; omega), List.drop_take, List.take_take]
  show (leVal ((b.drop 8).take 1), 8 + 1, false) = _
  rw [take_one_val b 8 (by omega)]
  rfl
theorem w64_small {n : Nat} (h : n < 4294967296) : wrap64 (n : Int) = (n : Int) := by unfold wrap64; omega
theorem wi64_small {n : Nat} (h : n < 4294967296) : IntKind.i64.wrap (n : Int) = (n : Int) := by rw [IntKind.wrap_i64]; omega
theorem rd_small (l : List UInt8) (p : Nat) (x : Bool) : (rd l p x 4).1 < 4294967296 := by
  have := rd_lt l p x 4 (by omega)
  simpa using this
theorem rd_small1 (l : List UInt8) (p : Nat) (x : Bool) : (rd l p x 1).1 < 4294967296 := by
  have := rd_lt l p x 1 (by omega)
  have h : (2 : Nat) ^ (8 * 1) = 256 := by decide
  omega
/-- A result that lies in a block, and one beside it. -/
theorem res_two {fn : Func} {p u : Tmp} {ty : TypeId} (h : fn.results = #[.cell p ty, .tmp u]) (tmps : Array Value) (P : Program) (w : World) (g : Nat) (t : TypeId) (cs : Array Value) (fs : Array Field) (y : Value) (hy : tmps.getD u undef = y)
    (hp : tmps.getD p undef = .pointer (some ⟨g, 0, none⟩)) (hg : Row w g t cs)
    (hu : P.underlying ty = some (.struct fs)) (hi : (P.info? ty).map (·.size) = some cs.size) :
    (results fn tmps).run P w = .ok (.tuple #[.agg cs, y]) w := by
  subst hy
  rw [results_cell_tmp h]
  simp only [hp, asAddr, Sem.run_pure, Result.andThen_ok, run_loadVar_row w g t ty cs (0, 0) (.struct fs) hg hu rfl hi]
set_option maxHeartbeats 2000000 in
set_option maxRecDepth 100000 in
theorem head_a (A : Option Addr) (c : Nat) (b L : List UInt8) (n1 p1 n2 p2 n3 p3 : Nat) (x1 x2 : Bool) (w : World) (hG : Gs e8 w 0 w.heap.size (.slice A b.length c) b) (hb : b.length ≤ 9) (hL : L = b)
    (h1 : rd L 0 false 4 = (n1, p1, x1)) (h2 : rd L p1 x1 4 = (n2, p2, x2)) (h3 : rd L p2 x2 1 = (n3, p3, true)) :
    Calls Try.prog 34 #[.slice A b.length c] w fun e w' => e = .returned (.tuple #[.agg #[.int .i64 0, .int .i64 0, .int .i64 0, .slice none 0 0], .int .i64 4]) ∧ Below w.heap.size w w' := by
  have w1 := w64_small (show n1 < 4294967296 by have := rd_small L 0 false; rw [h1] at this; exact this)
  have w2 := w64_small (show n2 < 4294967296 by have := rd_small L p1 x1; rw [h2] at this; exact this)
  have w3 := w64_small (show n3 < 4294967296 by have := rd_small1 L p2 x2; rw [h3] at this; exact this)
  have y1 := wi64_small (show n1 < 4294967296 by have := rd_small L 0 false; rw [h1] at this; exact this)
  have y2 := wi64_small (show n2 < 4294967296 by have := rd_small L p1 x1; rw [h2] at this; exact this)
  have y3 := wi64_small (show n3 < 4294967296 by have := rd_small1 L p2 x2; rw [h3] at this; exact this)
  have HCUT := Lib.hid (show Gs e8 w 0 w.heap.size (.slice A b.length c) L by rw [hL]; exact hG)
  have hmc : b.length ≤ c := by obtain ⟨_, _, e, _, h1, _⟩ := hG; injection e with _ _ e3; omega
  have hcm : c ≤ 9223372036854775807 := by obtain ⟨_, _, e, _, _, h2, _⟩ := hG; injection e with _ _ e3; subst e3; unfold maxLen at h2; omega
  have HLL := Lib.hid (show L.length ≤ 10000000 by rw [hL]; omega)
  obtain ⟨W0, hW0⟩ : ∃ W0, W0 = w.alloc (.cells #[.int .i64 0, .int .i64 0, .int .i64 0, .slice none 0 0] 41) := ⟨_, rfl⟩
  have R0 := Lib.hid (show Row W0 w.heap.size 41 #[.int .i64 0, .int .i64 0, .int .i64 0, .slice none 0 0] by rw [hW0]; exact Row.new _ _ _)
  have B0 := Lib.hid (show Below w.heap.size w W0 by rw [hW0]; exact (Below.refl _ _).alloc (Nat.le_refl _) _)
  have C0 := Lib.hid (HCUT.out.step B0.out)
  have dm : decide ((b.length : Int) ≤ 9) = true := decide_eq_true (by omega)
  clear hG hL HCUT
  go_enter Try.func34, Try.ntmps34
  go_wp2_with (go_at_call 51; rw [← hW0]; clear hW0; refine (new_any _ L 0 W0 C0.out HLL.out).mono ?_; rintro e w4 ⟨gr, v4, rfl, r4, b4⟩; have Q4 := Lib.hid r4; have B4 := Lib.hid b4; clear b4 r4; go_wp2_with (go_at_call 52; refine (U32_any _ Q4.out).mono ?_; rw [h1]; rintro e w5 ⟨rfl, r5, g5⟩; have Q5 := Lib.hid r5; have B5 := Lib.hid (B4.out.grown g5 B4.out.size (fun k e => by injection e with e; have := Q4.out.ge; omega)); clear r5 g5; go_wp2_with (first
    | (go_at_call 52; refine (U32_any _ Q5.out).mono ?_; rw [h2]; rintro e w6 ⟨rfl, r6, g6⟩; have Q6 := Lib.hid r6; have B6 := Lib.hid (B5.out.grown g6 B5.out.size (fun k e => by injection e with e; have := Q5.out.ge; omega)); clear r6 g6)
    | (go_at_call 53; refine (U8_any _ Q6.out).mono ?_; rw [h3]; rintro e w7 ⟨rfl, r7, g7⟩; have B7 := Lib.hid (B6.out.grown g7 B6.out.size (fun k e => by injection e with e; have := Q6.out.ge; omega)); have Q7 := Lib.hid r7; clear r7 g7; have hr9 := (R0.out.below B7.out R0.out.lt).alloc (.cells #[.int .i64 (n1 : Int), .int .i64 (n2 : Int), .int .i64 (n3 : Int), .slice none 0 0] 41); have d0 := hr9.cell 0; have d1 := hr9.cell 1; have d2 := hr9.cell 2; have d3 := hr9.cell 3; have f0 := hr9.frozen 0; have f1 := hr9.frozen 1; have f2 := hr9.frozen 2; have f3 := hr9.frozen 3; have R9 := Lib.hid hr9; have B9 := Lib.hid (B0.out.trans ((B7.out.mono B0.out.size).alloc (Nat.le_trans B0.out.size B7.out.size) (.cells #[.int .i64 (n1 : Int), .int .i64 (n2 : Int), .int .i64 (n3 : Int), .slice none 0 0] 41))); have Q9 := Lib.hid (Q7.out.alloc (.cells #[.int .i64 (n1 : Int), .int .i64 (n2 : Int), .int .i64 (n3 : Int), .slice none 0 0] 41)); clear hr9)
    | (go_at_call 54; refine (Bad_any _ Q9.out).mono ?_; rintro e w8 ⟨rfl, hz⟩; subst hz))))
  have S := set4i (x' := .int .i64 0) (y' := .int .i64 0) (z' := .int .i64 0) (u' := .slice none 0 0) R9.out
  refine bodyPost_ret (v := .tuple #[.agg #[.int .i64 0, .int .i64 0, .int .i64 0, .slice none 0 0], .int .i64 4]) ?_ rfl ⟨rfl, B9.out.trans (S.2 (Nat.le_refl _))⟩
  exact res_two rfl _ _ _ _ _ _ _ _ (by rfl) (by rfl) S.1 Try.underlying41 szI4
set_option maxHeartbeats 2000000 in
set_option maxRecDepth 100000 in
theorem head_b (A : Option Addr) (c : Nat) (b L : List UInt8) (n1 p1 n2 p2 n3 p3 : Nat) (x1 x2 : Bool) (w : World) (hG : Gs e8 w 0 w.heap.size (.slice A b.length c) b) (hb : b.length ≤ 9) (hL : L = b)
    (h1 : rd L 0 false 4 = (n1, p1, x1)) (h2 : rd L p1 x1 4 = (n2, p2, x2)) (h3 : rd L p2 x2 1 = (n3, p3, false)) :
    Calls Try.prog 34 #[.slice A b.length c] w fun e w' => e = .returned (.tuple #[.agg #[.int .i64 (n1 : Int), .int .i64 (n2 : Int), .int .i64 (n3 : Int), .slice none 0 0], .int .i64 0]) ∧ Below w.heap.size w w' := by
  have w1 := w64_small (show n1 < 4294967296 by have := rd_small L 0 false; rw [h1] at this; exact this)
  have w2 := w64_small (show n2 < 4294967296 by have := rd_small L p1 x1; rw [h2] at this; exact this)
  have w3 := w64_small (show n3 < 4294967296 by have := rd_small1 L p2 x2; rw [h3] at this; exact this)
  have y1 := wi64_small (show n1 < 4294967296 by have := rd_small L 0 false; rw [h1] at this; exact this)
  have y2 := wi64_small (show n2 < 4294967296 by have := rd_small L p1 x1; rw [h2] at this; exact this)
  have y3 := wi64_small (show n3 < 4294967296 by have := rd_small1 L p2 x2; rw [h3] at this; exact this)
  have HCUT := Lib.hid (show Gs e8 w 0 w.heap.size (.slice A b.length c) L by rw [hL]; exact hG)
  have hmc : b.length ≤ c := by obtain ⟨_, _, e, _, h1, _⟩ := hG; injection e with _ _ e3; omega
  have hcm : c ≤ 9223372036854775807 := by obtain ⟨_, _, e, _, _, h2, _⟩ := hG; injection e with _ _ e3; subst e3; unfold maxLen at h2; omega
  have HLL := Lib.hid (show L.length ≤ 10000000 by rw [hL]; omega)
  obtain ⟨W0, hW0⟩ : ∃ W0, W0 = w.alloc (.cells #[.int .i64 0, .int .i64 0, .int .i64 0, .slice none 0 0] 41) := ⟨_, rfl⟩
  have R0 := Lib.hid (show Row W0 w.heap.size 41 #[.int .i64 0, .int .i64 0, .int .i64 0, .slice none 0 0] by rw [hW0]; exact Row.new _ _ _)
  have B0 := Lib.hid (show Below w.heap.size w W0 by rw [hW0]; exact (Below.refl _ _).alloc (Nat.le_refl _) _)
  have C0 := Lib.hid (HCUT.out.step B0.out)
  have dm : decide ((b.length : Int) ≤ 9) = true := decide_eq_true (by omega)
  clear hG hL HCUT
  go_enter Try.func34, Try.ntmps34
  go_wp2_with (go_at_call 51; rw [← hW0]; clear hW0; refine (new_any _ L 0 W0 C0.out HLL.out).mono ?_; rintro e w4 ⟨gr, v4, rfl, r4, b4⟩; have Q4 := Lib.hid r4; have B4 := Lib.hid b4; clear b4 r4; go_wp2_with (go_at_call 52; refine (U32_any _ Q4.out).mono ?_; rw [h1]; rintro e w5 ⟨rfl, r5, g5⟩; have Q5 := Lib.hid r5; have B5 := Lib.hid (B4.out.grown g5 B4.out.size (fun k e => by injection e with e; have := Q4.out.ge; omega)); clear r5 g5; go_wp2_with (first
    | (go_at_call 52; refine (U32_any _ Q5.out).mono ?_; rw [h2]; rintro e w6 ⟨rfl, r6, g6⟩; have Q6 := Lib.hid r6; have B6 := Lib.hid (B5.out.grown g6 B5.out.size (fun k e => by injection e with e; have := Q5.out.ge; omega)); clear r6 g6)
    | (go_at_call 53; refine (U8_any _ Q6.out).mono ?_; rw [h3]; rintro e w7 ⟨rfl, r7, g7⟩; have B7 := Lib.hid (B6.out.grown g7 B6.out.size (fun k e => by injection e with e; have := Q6.out.ge; omega)); have Q7 := Lib.hid r7; clear r7 g7; have hr9 := (R0.out.below B7.out R0.out.lt).alloc (.cells #[.int .i64 (n1 : Int), .int .i64 (n2 : Int), .int .i64 (n3 : Int), .slice none 0 0] 41); have d0 := hr9.cell 0; have d1 := hr9.cell 1; have d2 := hr9.cell 2; have d3 := hr9.cell 3; have f0 := hr9.frozen 0; have f1 := hr9.frozen 1; have f2 := hr9.frozen 2; have f3 := hr9.frozen 3; have R9 := Lib.hid hr9; have B9 := Lib.hid (B0.out.trans ((B7.out.mono B0.out.size).alloc (Nat.le_trans B0.out.size B7.out.size) (.cells #[.int .i64 (n1 : Int), .int .i64 (n2 : Int), .int .i64 (n3 : Int), .slice none 0 0] 41))); have Q9 := Lib.hid (Q7.out.alloc (.cells #[.int .i64 (n1 : Int), .int .i64 (n2 : Int), .int .i64 (n3 : Int), .slice none 0 0] 41)); clear hr9)
    | (go_at_call 54; refine (Bad_any _ Q9.out).mono ?_; rintro e w8 ⟨rfl, hz⟩; subst hz))))
  have S := set4i (x' := .int .i64 (n1 : Int)) (y' := .int .i64 (n2 : Int)) (z' := .int .i64 (n3 : Int)) (u' := .slice none 0 0) R9.out
  refine bodyPost_ret (v := .tuple #[.agg #[.int .i64 (n1 : Int), .int .i64 (n2 : Int), .int .i64 (n3 : Int), .slice none 0 0], .int .i64 0]) ?_ rfl ⟨rfl, B9.out.trans (S.2 (Nat.le_refl _))⟩
  exact res_two rfl _ _ _ _ _ _ _ _ (by rfl) (by rfl) S.1 Try.underlying41 szI4
set_option maxHeartbeats 2000000 in
set_option maxRecDepth 100000 in
theorem head_c (A : Option Addr) (c : Nat) (b L : List UInt8) (n1 p1 n2 p2 n3 p3 : Nat) (x1 x2 : Bool) (w : World) (hG : Gs e8 w 0 w.heap.size (.slice A b.length c) b) (hb : 9 < b.length) (hL : L = b.take 9)
    (h1 : rd L 0 false 4 = (n1, p1, x1)) (h2 : rd L p1 x1 4 = (n2, p2, x2)) (h3 : rd L p2 x2 1 = (n3, p3, false)) :
    Calls Try.prog 34 #[.slice A b.length c] w fun e w' => e = .returned (.tuple #[.agg #[.int .i64 (n1 : Int), .int .i64 (n2 : Int), .int .i64 (n3 : Int), .slice none 0 0], .int .i64 0]) ∧ Below w.heap.size w w' := by
  have w1 := w64_small (show n1 < 4294967296 by have := rd_small L 0 false; rw [h1] at this; exact this)
  have w2 := w64_small (show n2 < 4294967296 by have := rd_small L p1 x1; rw [h2] at this; exact this)
  have w3 := w64_small (show n3 < 4294967296 by have := rd_small1 L p2 x2; rw [h3] at this; exact this)
  have y1 := wi64_small (show n1 < 4294967296 by have := rd_small L 0 false; rw [h1] at this; exact this)
  have y2 := wi64_small (show n2 < 4294967296 by have := rd_small L p1 x1; rw [h2] at this; exact this)
  have y3 := wi64_small (show n3 < 4294967296 by have := rd_small1 L p2 x2; rw [h3] at this; exact this)
  have HCUT := Lib.hid (show Gs e8 w 0 w.heap.size (.slice A 9 c) L by rw [hL]; exact hG.take (by omega))
  have hmc : b.length ≤ c := by obtain ⟨_, _, e, _, h1, _⟩ := hG; injection e with _ _ e3; omega
  have hcm : c ≤ 9223372036854775807 := by obtain ⟨_, _, e, _, _, h2, _⟩ := hG; injection e with _ _ e3; subst e3; unfold maxLen at h2; omega
  have HLL := Lib.hid (show L.length ≤ 10000000 by rw [hL]; rw [List.length_take]; omega)
  obtain ⟨W0, hW0⟩ : ∃ W0, W0 = w.alloc (.cells #[.int .i64 0, .int .i64 0, .int .i64 0, .slice none 0 0] 41) := ⟨_, rfl⟩
  have R0 := Lib.hid (show Row W0 w.heap.size 41 #[.int .i64 0, .int .i64 0, .int .i64 0, .slice none 0 0] by rw [hW0]; exact Row.new _ _ _)
  have B0 := Lib.hid (show Below w.heap.size w W0 by rw [hW0]; exact (Below.refl _ _).alloc (Nat.le_refl _) _)
  have C0 := Lib.hid (HCUT.out.step B0.out)
  have dm : decide ((b.length : Int) ≤ 9) = false := decide_eq_false (by omega)
  clear hG hL HCUT
  go_enter Try.func34, Try.ntmps34
  go_wp2_with (go_at_call 51; rw [← hW0]; clear hW0; refine (new_any _ L 0 W0 C0.out HLL.out).mono ?_; rintro e w4 ⟨gr, v4, rfl, r4, b4⟩; have Q4 := Lib.hid r4; have B4 := Lib.hid b4; clear b4 r4; go_wp2_with (go_at_call 52; refine (U32_any _ Q4.out).mono ?_; rw [h1]; rintro e w5 ⟨rfl, r5, g5⟩; have Q5 := Lib.hid r5; have B5 := Lib.hid (B4.out.grown g5 B4.out.size (fun k e => by injection e with e; have := Q4.out.ge; omega)); clear r5 g5; go_wp2_with (first
    | (go_at_call 52; refine (U32_any _ Q5.out).mono ?_; rw [h2]; rintro e w6 ⟨rfl, r6, g6⟩; have Q6 := Lib.hid r6; have B6 := Lib.hid (B5.out.grown g6 B5.out.size (fun k e => by injection e with e; have := Q5.out.ge; omega)); clear r6 g6)
    | (go_at_call 53; refine (U8_any _ Q6.out).mono ?_; rw [h3]; rintro e w7 ⟨rfl, r7, g7⟩; have B7 := Lib.hid (B6.out.grown g7 B6.out.size (fun k e => by injection e with e; have := Q6.out.ge; omega)); have Q7 := Lib.hid r7; clear r7 g7; have hr9 := (R0.out.below B7.out R0.out.lt).alloc (.cells #[.int .i64 (n1 : Int), .int .i64 (n2 : Int), .int .i64 (n3 : Int), .slice none 0 0] 41); have d0 := hr9.cell 0; have d1 := hr9.cell 1; have d2 := hr9.cell 2; have d3 := hr9.cell 3; have f0 := hr9.frozen 0; have f1 := hr9.frozen 1; have f2 := hr9.frozen 2; have f3 := hr9.frozen 3; have R9 := Lib.hid hr9; have B9 := Lib.hid (B0.out.trans ((B7.out.mono B0.out.size).alloc (Nat.le_trans B0.out.size B7.out.size) (.cells #[.int .i64 (n1 : Int), .int .i64 (n2 : Int), .int .i64 (n3 : Int), .slice none 0 0] 41))); have Q9 := Lib.hid (Q7.out.alloc (.cells #[.int .i64 (n1 : Int), .int .i64 (n2 : Int), .int .i64 (n3 : Int), .slice none 0 0] 41)); clear hr9)
    | (go_at_call 54; refine (Bad_any _ Q9.out).mono ?_; rintro e w8 ⟨rfl, hz⟩; subst hz))))
  have S := set4i (x' := .int .i64 (n1 : Int)) (y' := .int .i64 (n2 : Int)) (z' := .int .i64 (n3 : Int)) (u' := .slice none 0 0) R9.out
  refine bodyPost_ret (v := .tuple #[.agg #[.int .i64 (n1 : Int), .int .i64 (n2 : Int), .int .i64 (n3 : Int), .slice none 0 0], .int .i64 0]) ?_ rfl ⟨rfl, B9.out.trans (S.2 (Nat.le_refl _))⟩
  exact res_two rfl _ _ _ _ _ _ _ _ (by rfl) (by rfl) S.1 Try.underlying41 szI4
theorem head_short (A : Option Addr) (c : Nat) (b : List UInt8) (w : World) (hG : Gs e8 w 0 w.heap.size (.slice A b.length c) b) (hl : b.length < 9) :
    Calls Try.prog 34 #[.slice A b.length c] w fun e w' => e = .returned (.tuple #[.agg #[.int .i64 0, .int .i64 0, .int .i64 0, .slice none 0 0], .int .i64 4]) ∧ Below w.heap.size w w' := by
  have h3 := three_no b hl
  rcases e1 : rd b 0 false 4 with ⟨n1, p1, x1⟩
  rw [e1] at h3
  rcases e2 : rd b p1 x1 4 with ⟨n2, p2, x2⟩
  simp only [e2] at h3
  rcases e3 : rd b p2 x2 1 with ⟨n3, p3, x3⟩
  rw [e3] at h3
  obtain rfl : x3 = true := h3
  exact head_a A c b b n1 p1 n2 p2 n3 p3 x1 x2 w hG (by omega) rfl e1 e2 e3
theorem head_yes (A : Option Addr) (c : Nat) (b : List UInt8) (w : World) (hG : Gs e8 w 0 w.heap.size (.slice A b.length c) b) (hl : 9 ≤ b.length) :
    Calls Try.prog 34 #[.slice A b.length c] w fun e w' => e = .returned (.tuple #[.agg #[.int .i64 (rN b : Int), .int .i64 (rM b : Int), .int .i64 (rW b : Int), .slice none 0 0], .int .i64 0]) ∧ Below w.heap.size w w' := by
  have e1 := nine_1 b hl
  have e2 := nine_2 b hl
  have e3 := nine_3 b hl
  by_cases h : b.length ≤ 9
  · rw [List.take_of_length_le h] at e1 e2 e3
    exact head_b A c b b _ _ _ _ _ _ _ _ w hG h rfl e1 e2 e3
  · exact head_c A c b _ _ _ _ _ _ _ _ _ w hG (by omega) rfl e1 e2 e3
end Go.Proofs.Ytpanfpcfhgnkoaa
