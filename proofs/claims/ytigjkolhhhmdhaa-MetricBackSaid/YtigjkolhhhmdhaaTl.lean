/- Walks: Read. -/
import Derived.Test.YtigjkolhhhmdhaaTk
namespace Go.Proofs.Ytigjkolhhhmdhaa
open Go.RowKit
set_option linter.unusedVariables false

/-- What a slice's part from a place on is, in the model's words. -/
theorem run_from8 (A : Option Addr) (n c p : Nat) (w : World) (hp : p ≤ n) : (Instr.slice 31 (.slice A n c) (some (.int .i64 (p : Int))) none none).run Try.prog w = .ok (.slice (if c = p then A else A.map fun x => x.add p) (n - p) (c - p)) w := by
  have hu : Try.prog.underlying 31 = some (.slice (Try.prog.elem 31)) := by kernel_rfl
  have hs : (sizeOf (Try.prog.elem 31)).run Try.prog w = .ok 1 w := by kernel_rfl
  rw [run_slice_l _ _ _ _ _ hu _ _ (by omega) (by omega), hs]
  simp only [Result.andThen, sliced, Int.toNat_natCast, Nat.mul_one]
theorem head_rd (b : List UInt8) (h : 4 ≤ b.length) : rd (b.take 4) 0 false 4 = (rN b, 4, false) := by
  rw [rd_yes (by omega) (by rw [List.length_take]; omega), List.drop_zero, List.take_take]
  rfl
set_option maxHeartbeats 400000 in
theorem read_short (A : Option Addr) (c : Nat) (b : List UInt8) (rows : Int) (w : World) (h4 : b.length < 4) :
    Calls Try.prog 12 #[.slice A b.length c, .int .i64 rows] w fun e w' => e = .returned (.tuple #[.pointer none, .int .i64 4]) ∧ Below w.heap.size w w' := by
  have d1 : decide ((b.length : Int) < 4) = true := decide_eq_true (by omega)
  have d2 : decide (b.length < 4) = true := decide_eq_true h4
  go_enter Try.func12, Try.ntmps12
  go_wp2
  go_ret2
  exact ⟨rfl, Below.refl _ _⟩
set_option maxHeartbeats 2000000 in
set_option maxRecDepth 100000 in
theorem read_long (A : Option Addr) (c : Nat) (b : List UInt8) (rows : Int) (w : World) (hG : Gs e8 w 0 w.heap.size (.slice A b.length c) b) (h4 : 4 ≤ b.length) (hx : 16777216 < rN b) :
    Calls Try.prog 12 #[.slice A b.length c, .int .i64 rows] w fun e w' => e = .returned (.tuple #[.pointer none, .int .i64 3]) ∧ Below w.heap.size w w' := by
  have dh : decide ((b.length : Int) < 4) = false := decide_eq_false (by omega)
  have dhn : decide (b.length < 4) = false := decide_eq_false (by omega)
  have hcap : b.length ≤ c := by obtain ⟨_, _, e, _, h9, _⟩ := hG; injection e with _ _ e3; omega
  have hc4 : (4 : Int) ≤ (c : Int) := by omega
  have HCUT := Lib.hid (hG.take (m := 4) h4)
  have E1 := head_rd b h4
  obtain ⟨n, hn⟩ : ∃ n, rN b = n := ⟨_, rfl⟩
  have hn32 := rN_lt b
  rw [hn] at E1 hn32
  have HE1 := Lib.hid E1
  have HTL := Lib.hid (show (b.take 4).length ≤ 10000000 by simp; omega)
  have w1 := w64_small hn32
  have y1 := wi64_small hn32
  obtain ⟨sz, hsz⟩ : ∃ sz, sz = 20 + 8 * n := ⟨_, rfl⟩
  have HSZ0 := fun W => size_any n W hn32
  rw [← hsz] at HSZ0
  have HSZ := Lib.hid HSZ0
  clear E1 HSZ0
  rw [hn] at hx
  have d1 : decide ((16777216 : Int) < (n : Int)) = true := decide_eq_true (by omega)
  have d1n : decide (16777216 < n) = true := decide_eq_true hx
  clear hG h4 hn hx hsz
  go_enter Try.func12, Try.ntmps12
  go_wp2_with (first
    | (go_at_call 24; refine (new_any _ (b.take 4) 0 w (HCUT.out) HTL.out).mono ?_; rintro e w1 ⟨g1, v1, rfl, r1, b1⟩; have Q1 := Lib.hid r1; have B1 := Lib.hid b1; clear r1 b1)
    | (go_at_call 25; refine (U32_any _ Q1.out).mono ?_; rw [HE1.out]; rintro e w2 ⟨rfl, r2, g2⟩; have B2 := Lib.hid (B1.out.grown g2 B1.out.size (fun k e => by injection e with e; have := Q1.out.ge; omega)); clear r2 g2)
    | (go_at_call 26; refine (HSZ.out _).mono ?_; rintro e w3 ⟨rfl, hz⟩; have hz := hz.symm; subst hz))
  go_ret2
  exact ⟨rfl, B2.out⟩
set_option maxHeartbeats 2000000 in
set_option maxRecDepth 100000 in
theorem read_cut (A : Option Addr) (c : Nat) (b : List UInt8) (rows : Int) (w : World) (hG : Gs e8 w 0 w.heap.size (.slice A b.length c) b) (h4 : 4 ≤ b.length) (hx : ¬ 16777216 < rN b) (h5 : b.length < 20 + 8 * rN b) :
    Calls Try.prog 12 #[.slice A b.length c, .int .i64 rows] w fun e w' => e = .returned (.tuple #[.pointer none, .int .i64 4]) ∧ Below w.heap.size w w' := by
  have dh : decide ((b.length : Int) < 4) = false := decide_eq_false (by omega)
  have dhn : decide (b.length < 4) = false := decide_eq_false (by omega)
  have hcap : b.length ≤ c := by obtain ⟨_, _, e, _, h9, _⟩ := hG; injection e with _ _ e3; omega
  have hc4 : (4 : Int) ≤ (c : Int) := by omega
  have HCUT := Lib.hid (hG.take (m := 4) h4)
  have E1 := head_rd b h4
  obtain ⟨n, hn⟩ : ∃ n, rN b = n := ⟨_, rfl⟩
  have hn32 := rN_lt b
  rw [hn] at E1 hn32
  have HE1 := Lib.hid E1
  have HTL := Lib.hid (show (b.take 4).length ≤ 10000000 by simp; omega)
  have w1 := w64_small hn32
  have y1 := wi64_small hn32
  obtain ⟨sz, hsz⟩ : ∃ sz, sz = 20 + 8 * n := ⟨_, rfl⟩
  have HSZ0 := fun W => size_any n W hn32
  rw [← hsz] at HSZ0
  have HSZ := Lib.hid HSZ0
  clear E1 HSZ0
  rw [hn] at hx
  have d1 : decide ((16777216 : Int) < (n : Int)) = false := decide_eq_false (by omega)
  have d1n : decide (16777216 < n) = false := decide_eq_false hx
  rw [hn] at h5
  have d2 : decide ((b.length : Int) < (sz : Int)) = true := decide_eq_true (by omega)
  have d2n : decide (b.length < sz) = true := decide_eq_true (by omega)
  clear hG h4 hn hx hsz h5
  go_enter Try.func12, Try.ntmps12
  go_wp2_with (first
    | (go_at_call 24; refine (new_any _ (b.take 4) 0 w (HCUT.out) HTL.out).mono ?_; rintro e w1 ⟨g1, v1, rfl, r1, b1⟩; have Q1 := Lib.hid r1; have B1 := Lib.hid b1; clear r1 b1)
    | (go_at_call 25; refine (U32_any _ Q1.out).mono ?_; rw [HE1.out]; rintro e w2 ⟨rfl, r2, g2⟩; have B2 := Lib.hid (B1.out.grown g2 B1.out.size (fun k e => by injection e with e; have := Q1.out.ge; omega)); clear r2 g2)
    | (go_at_call 26; refine (HSZ.out _).mono ?_; rintro e w3 ⟨rfl, hz⟩; have hz := hz.symm; subst hz))
  go_ret2
  exact ⟨rfl, B2.out⟩
set_option maxHeartbeats 2000000 in
set_option maxRecDepth 100000 in
theorem read_more (A : Option Addr) (c : Nat) (b : List UInt8) (rows : Int) (w : World) (hG : Gs e8 w 0 w.heap.size (.slice A b.length c) b) (h4 : 4 ≤ b.length) (hx : ¬ 16777216 < rN b) (h5 : 20 + 8 * rN b < b.length) :
    Calls Try.prog 12 #[.slice A b.length c, .int .i64 rows] w fun e w' => e = .returned (.tuple #[.pointer none, .int .i64 5]) ∧ Below w.heap.size w w' := by
  have dh : decide ((b.length : Int) < 4) = false := decide_eq_false (by omega)
  have dhn : decide (b.length < 4) = false := decide_eq_false (by omega)
  have hcap : b.length ≤ c := by obtain ⟨_, _, e, _, h9, _⟩ := hG; injection e with _ _ e3; omega
  have hc4 : (4 : Int) ≤ (c : Int) := by omega
  have HCUT := Lib.hid (hG.take (m := 4) h4)
  have E1 := head_rd b h4
  obtain ⟨n, hn⟩ : ∃ n, rN b = n := ⟨_, rfl⟩
  have hn32 := rN_lt b
  rw [hn] at E1 hn32
  have HE1 := Lib.hid E1
  have HTL := Lib.hid (show (b.take 4).length ≤ 10000000 by simp; omega)
  have w1 := w64_small hn32
  have y1 := wi64_small hn32
  obtain ⟨sz, hsz⟩ : ∃ sz, sz = 20 + 8 * n := ⟨_, rfl⟩
  have HSZ0 := fun W => size_any n W hn32
  rw [← hsz] at HSZ0
  have HSZ := Lib.hid HSZ0
  clear E1 HSZ0
  rw [hn] at hx
  have d1 : decide ((16777216 : Int) < (n : Int)) = false := decide_eq_false (by omega)
  have d1n : decide (16777216 < n) = false := decide_eq_false hx
  rw [hn] at h5
  have d2 : decide ((b.length : Int) < (sz : Int)) = false := decide_eq_false (by omega)
  have d2n : decide (b.length < sz) = false := decide_eq_false (by omega)
  have d3 : decide ((sz : Int) < (b.length : Int)) = true := decide_eq_true (by omega)
  have d3n : decide (sz < b.length) = true := decide_eq_true (by omega)
  clear hG h4 hn hx hsz h5
  go_enter Try.func12, Try.ntmps12
  go_wp2_with (first
    | (go_at_call 24; refine (new_any _ (b.take 4) 0 w (HCUT.out) HTL.out).mono ?_; rintro e w1 ⟨g1, v1, rfl, r1, b1⟩; have Q1 := Lib.hid r1; have B1 := Lib.hid b1; clear r1 b1)
    | (go_at_call 25; refine (U32_any _ Q1.out).mono ?_; rw [HE1.out]; rintro e w2 ⟨rfl, r2, g2⟩; have B2 := Lib.hid (B1.out.grown g2 B1.out.size (fun k e => by injection e with e; have := Q1.out.ge; omega)); clear r2 g2)
    | (go_at_call 26; refine (HSZ.out _).mono ?_; rintro e w3 ⟨rfl, hz⟩; have hz := hz.symm; subst hz))
  go_ret2
  exact ⟨rfl, B2.out⟩
set_option maxHeartbeats 2000000 in
set_option maxRecDepth 100000 in
theorem read_rows (A : Option Addr) (c : Nat) (b : List UInt8) (rows : Int) (w : World) (hG : Gs e8 w 0 w.heap.size (.slice A b.length c) b) (h4 : 4 ≤ b.length) (hx : ¬ 16777216 < rN b) (h5 : b.length = 20 + 8 * rN b) (h6 : (rN b : Int) ≠ rows) :
    Calls Try.prog 12 #[.slice A b.length c, .int .i64 rows] w fun e w' => e = .returned (.tuple #[.pointer none, .int .i64 5]) ∧ Below w.heap.size w w' := by
  have dh : decide ((b.length : Int) < 4) = false := decide_eq_false (by omega)
  have dhn : decide (b.length < 4) = false := decide_eq_false (by omega)
  have hcap : b.length ≤ c := by obtain ⟨_, _, e, _, h9, _⟩ := hG; injection e with _ _ e3; omega
  have hc4 : (4 : Int) ≤ (c : Int) := by omega
  have HCUT := Lib.hid (hG.take (m := 4) h4)
  have E1 := head_rd b h4
  obtain ⟨n, hn⟩ : ∃ n, rN b = n := ⟨_, rfl⟩
  have hn32 := rN_lt b
  rw [hn] at E1 hn32
  have HE1 := Lib.hid E1
  have HTL := Lib.hid (show (b.take 4).length ≤ 10000000 by simp; omega)
  have w1 := w64_small hn32
  have y1 := wi64_small hn32
  obtain ⟨sz, hsz⟩ : ∃ sz, sz = 20 + 8 * n := ⟨_, rfl⟩
  have HSZ0 := fun W => size_any n W hn32
  rw [← hsz] at HSZ0
  have HSZ := Lib.hid HSZ0
  clear E1 HSZ0
  rw [hn] at hx
  have d1 : decide ((16777216 : Int) < (n : Int)) = false := decide_eq_false (by omega)
  have d1n : decide (16777216 < n) = false := decide_eq_false hx
  rw [hn] at h5 h6
  have d2 : decide ((b.length : Int) < (sz : Int)) = false := decide_eq_false (by omega)
  have d2n : decide (b.length < sz) = false := decide_eq_false (by omega)
  have d3 : decide ((sz : Int) < (b.length : Int)) = false := decide_eq_false (by omega)
  have d3n : decide (sz < b.length) = false := decide_eq_false (by omega)
  have d4 : ((n : Int) != rows) = true := by simpa using h6
  clear hG h4 hn hx hsz h5 h6
  go_enter Try.func12, Try.ntmps12
  go_wp2_with (first
    | (go_at_call 24; refine (new_any _ (b.take 4) 0 w (HCUT.out) HTL.out).mono ?_; rintro e w1 ⟨g1, v1, rfl, r1, b1⟩; have Q1 := Lib.hid r1; have B1 := Lib.hid b1; clear r1 b1)
    | (go_at_call 25; refine (U32_any _ Q1.out).mono ?_; rw [HE1.out]; rintro e w2 ⟨rfl, r2, g2⟩; have B2 := Lib.hid (B1.out.grown g2 B1.out.size (fun k e => by injection e with e; have := Q1.out.ge; omega)); clear r2 g2)
    | (go_at_call 26; refine (HSZ.out _).mono ?_; rintro e w3 ⟨rfl, hz⟩; have hz := hz.symm; subst hz))
  go_ret2
  exact ⟨rfl, B2.out⟩
set_option maxHeartbeats 4000000 in
set_option maxRecDepth 100000 in
theorem read_ends1 (A : Option Addr) (c : Nat) (b : List UInt8) (rows : Int) (w : World) (hG : Gs e8 w 0 w.heap.size (.slice A b.length c) b) (hl : b.length ≤ 10000) (h4 : 4 ≤ b.length) (hx : ¬ 16777216 < rN b) (h5 : b.length = 20 + 8 * rN b) (h6 : (rN b : Int) = rows) (h7 : loI (rL b 20 (rN b)) ≠ z8 b 4 ∧ z8 b 12 = z8 b 12) :
    Calls Try.prog 12 #[.slice A b.length c, .int .i64 rows] w fun e w' => e = .returned (.tuple #[.pointer none, .int .i64 5]) ∧ Below w.heap.size w w' := by
  have dh : decide ((b.length : Int) < 4) = false := decide_eq_false (by omega)
  have dhn : decide (b.length < 4) = false := decide_eq_false (by omega)
  have hcap : b.length ≤ c := by obtain ⟨_, _, e, _, h9, _⟩ := hG; injection e with _ _ e3; omega
  have hc4 : (4 : Int) ≤ (c : Int) := by omega
  have HCUT := Lib.hid (hG.take (m := 4) h4)
  have E1 := head_rd b h4
  obtain ⟨n, hn⟩ : ∃ n, rN b = n := ⟨_, rfl⟩
  have hn32 := rN_lt b
  rw [hn] at E1 hn32
  have HE1 := Lib.hid E1
  have HTL := Lib.hid (show (b.take 4).length ≤ 10000000 by simp; omega)
  have w1 := w64_small hn32
  have y1 := wi64_small hn32
  obtain ⟨sz, hsz⟩ : ∃ sz, sz = 20 + 8 * n := ⟨_, rfl⟩
  have HSZ0 := fun W => size_any n W hn32
  rw [← hsz] at HSZ0
  have HSZ := Lib.hid HSZ0
  clear E1 HSZ0
  rw [hn] at hx
  have d1 : decide ((16777216 : Int) < (n : Int)) = false := decide_eq_false (by omega)
  have d1n : decide (16777216 < n) = false := decide_eq_false hx
  rw [hn] at h5 h6
  have d2 : decide ((b.length : Int) < (sz : Int)) = false := decide_eq_false (by omega)
  have d2n : decide (b.length < sz) = false := decide_eq_false (by omega)
  have d3 : decide ((sz : Int) < (b.length : Int)) = false := decide_eq_false (by omega)
  have d3n : decide (sz < b.length) = false := decide_eq_false (by omega)
  subst h6
  obtain ⟨A', hA', hP0⟩ := hG.part (p := 4) (q := b.length) h4 (Nat.le_refl _)
  rw [List.take_length] at hP0
  have hfr : ∀ W, (Instr.slice 31 (.slice A b.length c) (some (.int .i64 4)) none none).run Try.prog W = .ok (.slice A' (b.length - 4) (c - 4)) W := fun W => by rw [hA']; exact run_from8 A b.length c 4 W h4
  have P0 := Lib.hid hP0
  obtain ⟨L, hL⟩ : ∃ L, b.drop 4 = L := ⟨_, rfl⟩
  have HLL := Lib.hid (show L.length = 16 + 8 * n by rw [← hL, List.length_drop]; omega)
  have hzs : rL L 16 n = rL b 20 (rN b) := by rw [← hL, rL_cut, hn]
  have hza : z8 L 0 = z8 b 4 := by rw [← hL, z8_cut]
  have hzb : z8 L 8 = z8 b 12 := by rw [← hL, z8_cut]
  rw [← hzs, ← hza, ← hzb] at h7
  try rw [← hzs]
  rw [hL] at P0
  have hnb : n ≤ 10000 := by omega
  have HNB := Lib.hid hnb
  have HZN := Lib.hid (rL_len L 16 n)
  have KN := Lib.hid (fun g v W base (h : Rd W base g v L 16 false) => readNumbers_yes n W h (by rw [HLL.out]; exact Nat.le_refl _) (by omega))
  generalize rL L 16 n = zs at h7 HZN KN ⊢
  have HB4 := Lib.hid (show L.length ≤ 10000000 by rw [HLL.out]; omega)
  have RN1 := Lib.hid (fun g v W base (h : Rd W base g v L 0 false) => readNumber_yes W h (by rw [HLL.out]; omega))
  have RN2 := Lib.hid (fun g v W base (h : Rd W base g v L 8 false) => readNumber_yes W h (by rw [HLL.out]; omega))
  generalize z8 L 0 = za at h7 RN1
  generalize z8 L 8 = zb at h7 RN2
  clear hG h4 hn hx hsz h5 hA' hP0 hL hzs hza hzb
  obtain ⟨lo_, hlo⟩ : ∃ x, loI zs = x := ⟨_, rfl⟩
  have HLO := Lib.hid hlo
  rw [hlo] at h7
  have d5 : (lo_ != za) = true := by simpa using h7.1
  clear h7 hlo
  go_enter Try.func12, Try.ntmps12
  go_wp2_with (go_at_call 24; refine (new_any _ (b.take 4) 0 w (HCUT.out) HTL.out).mono ?_; rintro e w1 ⟨g1, v1, rfl, r1, b1⟩; have Q1 := Lib.hid r1; have B1 := Lib.hid b1; clear r1 b1; go_wp2_with (go_at_call 25; refine (U32_any _ Q1.out).mono ?_; rw [HE1.out]; rintro e w2 ⟨rfl, r2, g2⟩; have B2 := Lib.hid (B1.out.grown g2 B1.out.size (fun k e => by injection e with e; have := Q1.out.ge; omega)); clear r2 g2; go_wp2_with (first
      | (go_at_call 26; refine (HSZ.out _).mono ?_; rintro e w3 ⟨rfl, hz⟩; have hz := hz.symm; subst hz)
      | (go_at_call 24; refine (new_any _ L 0 _ (P0.out.step B2.out) HB4.out).mono ?_; rintro e w4 ⟨g4, v4, rfl, r4, b4⟩; have Q4 := Lib.hid (show Rd w4 w.heap.size g4 v4 L 0 false from r4.more B2.out.size); have B4 := Lib.hid (B2.out.trans (b4.mono B2.out.size)); clear r4 b4; go_wp2_with (go_at_call 27; refine (RN1.out _ _ _ _ Q4.out).mono ?_; rintro e w5 ⟨rfl, r5, g5⟩; have Q5 := Lib.hid r5; have B5 := Lib.hid (B4.out.grown g5 B4.out.size (fun k e => by injection e with e; have := Q4.out.ge; omega)); clear r5 g5; go_wp2_with (go_at_call 27; refine (RN2.out _ _ _ _ Q5.out).mono ?_; rintro e w6 ⟨rfl, r6, g6⟩; have Q6 := Lib.hid r6; have B6 := Lib.hid (B5.out.grown g6 B5.out.size (fun k e => by injection e with e; have := Q5.out.ge; omega)); clear r6 g6; go_wp2_with (go_at_call 28; refine (KN.out _ _ _ _ Q6.out).mono ?_; rintro e w7 ⟨v7, rfl, o7, g7⟩; have B7 := Lib.hid (B6.out.grown g7 B6.out.size (fun k e => by injection e with e; have := Q6.out.ge; omega)); have O7 := Lib.hid (o7.sl.more B6.out.size (Nat.le_refl _)); obtain ⟨A7, c7, hv7, -⟩ := o7.sl; subst hv7; clear o7 g7; go_wp2_with (go_at_call 20; refine (keep_any A7 c7 zs w7 _ (Nat.le_refl _) (O7.out.more (Nat.zero_le _) (Nat.le_refl _)) (by have := HZN.out; have := HNB.out; omega)).mono ?_; rintro e w8 ⟨rfl, r8, b8⟩; have R8 := Lib.hid r8; have B8 := Lib.hid (B7.out.trans (b8.mono B7.out.size)); have D8 := Lib.hid ((O7.out.below b8).more (Nat.le_refl _) b8.size); have k2 := r8.cell 2; have k3 := r8.cell 3; clear r8 b8; rw [HLO.out] at k2))))))))
  go_ret2
  exact ⟨rfl, B8.out⟩
set_option maxHeartbeats 4000000 in
set_option maxRecDepth 100000 in
theorem read_ends2 (A : Option Addr) (c : Nat) (b : List UInt8) (rows : Int) (w : World) (hG : Gs e8 w 0 w.heap.size (.slice A b.length c) b) (hl : b.length ≤ 10000) (h4 : 4 ≤ b.length) (hx : ¬ 16777216 < rN b) (h5 : b.length = 20 + 8 * rN b) (h6 : (rN b : Int) = rows) (h7 : loI (rL b 20 (rN b)) = z8 b 4 ∧ hiI (rL b 20 (rN b)) ≠ z8 b 12) :
    Calls Try.prog 12 #[.slice A b.length c, .int .i64 rows] w fun e w' => e = .returned (.tuple #[.pointer none, .int .i64 5]) ∧ Below w.heap.size w w' := by
  have dh : decide ((b.length : Int) < 4) = false := decide_eq_false (by omega)
  have dhn : decide (b.length < 4) = false := decide_eq_false (by omega)
  have hcap : b.length ≤ c := by obtain ⟨_, _, e, _, h9, _⟩ := hG; injection e with _ _ e3; omega
  have hc4 : (4 : Int) ≤ (c : Int) := by omega
  have HCUT := Lib.hid (hG.take (m := 4) h4)
  have E1 := head_rd b h4
  obtain ⟨n, hn⟩ : ∃ n, rN b = n := ⟨_, rfl⟩
  have hn32 := rN_lt b
  rw [hn] at E1 hn32
  have HE1 := Lib.hid E1
  have HTL := Lib.hid (show (b.take 4).length ≤ 10000000 by simp; omega)
  have w1 := w64_small hn32
  have y1 := wi64_small hn32
  obtain ⟨sz, hsz⟩ : ∃ sz, sz = 20 + 8 * n := ⟨_, rfl⟩
  have HSZ0 := fun W => size_any n W hn32
  rw [← hsz] at HSZ0
  have HSZ := Lib.hid HSZ0
  clear E1 HSZ0
  rw [hn] at hx
  have d1 : decide ((16777216 : Int) < (n : Int)) = false := decide_eq_false (by omega)
  have d1n : decide (16777216 < n) = false := decide_eq_false hx
  rw [hn] at h5 h6
  have d2 : decide ((b.length : Int) < (sz : Int)) = false := decide_eq_false (by omega)
  have d2n : decide (b.length < sz) = false := decide_eq_false (by omega)
  have d3 : decide ((sz : Int) < (b.length : Int)) = false := decide_eq_false (by omega)
  have d3n : decide (sz < b.length) = false := decide_eq_false (by omega)
  subst h6
  obtain ⟨A', hA', hP0⟩ := hG.part (p := 4) (q := b.length) h4 (Nat.le_refl _)
  rw [List.take_length] at hP0
  have hfr : ∀ W, (Instr.slice 31 (.slice A b.length c) (some (.int .i64 4)) none none).run Try.prog W = .ok (.slice A' (b.length - 4) (c - 4)) W := fun W => by rw [hA']; exact run_from8 A b.length c 4 W h4
  have P0 := Lib.hid hP0
  obtain ⟨L, hL⟩ : ∃ L, b.drop 4 = L := ⟨_, rfl⟩
  have HLL := Lib.hid (show L.length = 16 + 8 * n by rw [← hL, List.length_drop]; omega)
  have hzs : rL L 16 n = rL b 20 (rN b) := by rw [← hL, rL_cut, hn]
  have hza : z8 L 0 = z8 b 4 := by rw [← hL, z8_cut]
  have hzb : z8 L 8 = z8 b 12 := by rw [← hL, z8_cut]
  rw [← hzs, ← hza, ← hzb] at h7
  try rw [← hzs]
  rw [hL] at P0
  have hnb : n ≤ 10000 := by omega
  have HNB := Lib.hid hnb
  have HZN := Lib.hid (rL_len L 16 n)
  have KN := Lib.hid (fun g v W base (h : Rd W base g v L 16 false) => readNumbers_yes n W h (by rw [HLL.out]; exact Nat.le_refl _) (by omega))
  generalize rL L 16 n = zs at h7 HZN KN ⊢
  have HB4 := Lib.hid (show L.length ≤ 10000000 by rw [HLL.out]; omega)
  have RN1 := Lib.hid (fun g v W base (h : Rd W base g v L 0 false) => readNumber_yes W h (by rw [HLL.out]; omega))
  have RN2 := Lib.hid (fun g v W base (h : Rd W base g v L 8 false) => readNumber_yes W h (by rw [HLL.out]; omega))
  generalize z8 L 0 = za at h7 RN1
  generalize z8 L 8 = zb at h7 RN2
  clear hG h4 hn hx hsz h5 hA' hP0 hL hzs hza hzb
  obtain ⟨lo_, hlo⟩ : ∃ x, loI zs = x := ⟨_, rfl⟩
  obtain ⟨hi_, hhi⟩ : ∃ x, hiI zs = x := ⟨_, rfl⟩
  have HLO := Lib.hid hlo
  have HHI := Lib.hid hhi
  rw [hlo, hhi] at h7
  have d5 : (lo_ != za) = false := by simpa using h7.1
  have d6 : (hi_ != zb) = true := by simpa using h7.2
  clear h7 hlo hhi
  go_enter Try.func12, Try.ntmps12
  go_wp2_with (go_at_call 24; refine (new_any _ (b.take 4) 0 w (HCUT.out) HTL.out).mono ?_; rintro e w1 ⟨g1, v1, rfl, r1, b1⟩; have Q1 := Lib.hid r1; have B1 := Lib.hid b1; clear r1 b1; go_wp2_with (go_at_call 25; refine (U32_any _ Q1.out).mono ?_; rw [HE1.out]; rintro e w2 ⟨rfl, r2, g2⟩; have B2 := Lib.hid (B1.out.grown g2 B1.out.size (fun k e => by injection e with e; have := Q1.out.ge; omega)); clear r2 g2; go_wp2_with (first
      | (go_at_call 26; refine (HSZ.out _).mono ?_; rintro e w3 ⟨rfl, hz⟩; have hz := hz.symm; subst hz)
      | (go_at_call 24; refine (new_any _ L 0 _ (P0.out.step B2.out) HB4.out).mono ?_; rintro e w4 ⟨g4, v4, rfl, r4, b4⟩; have Q4 := Lib.hid (show Rd w4 w.heap.size g4 v4 L 0 false from r4.more B2.out.size); have B4 := Lib.hid (B2.out.trans (b4.mono B2.out.size)); clear r4 b4; go_wp2_with (go_at_call 27; refine (RN1.out _ _ _ _ Q4.out).mono ?_; rintro e w5 ⟨rfl, r5, g5⟩; have Q5 := Lib.hid r5; have B5 := Lib.hid (B4.out.grown g5 B4.out.size (fun k e => by injection e with e; have := Q4.out.ge; omega)); clear r5 g5; go_wp2_with (go_at_call 27; refine (RN2.out _ _ _ _ Q5.out).mono ?_; rintro e w6 ⟨rfl, r6, g6⟩; have Q6 := Lib.hid r6; have B6 := Lib.hid (B5.out.grown g6 B5.out.size (fun k e => by injection e with e; have := Q5.out.ge; omega)); clear r6 g6; go_wp2_with (go_at_call 28; refine (KN.out _ _ _ _ Q6.out).mono ?_; rintro e w7 ⟨v7, rfl, o7, g7⟩; have B7 := Lib.hid (B6.out.grown g7 B6.out.size (fun k e => by injection e with e; have := Q6.out.ge; omega)); have O7 := Lib.hid (o7.sl.more B6.out.size (Nat.le_refl _)); obtain ⟨A7, c7, hv7, -⟩ := o7.sl; subst hv7; clear o7 g7; go_wp2_with (go_at_call 20; refine (keep_any A7 c7 zs w7 _ (Nat.le_refl _) (O7.out.more (Nat.zero_le _) (Nat.le_refl _)) (by have := HZN.out; have := HNB.out; omega)).mono ?_; rintro e w8 ⟨rfl, r8, b8⟩; have R8 := Lib.hid r8; have B8 := Lib.hid (B7.out.trans (b8.mono B7.out.size)); have D8 := Lib.hid ((O7.out.below b8).more (Nat.le_refl _) b8.size); have k2 := r8.cell 2; have k3 := r8.cell 3; clear r8 b8; rw [HLO.out] at k2; rw [HHI.out] at k3))))))))
  go_ret2
  exact ⟨rfl, B8.out⟩
set_option maxHeartbeats 4000000 in
set_option maxRecDepth 100000 in
theorem read_yes (A : Option Addr) (c : Nat) (b : List UInt8) (rows : Int) (w : World) (hG : Gs e8 w 0 w.heap.size (.slice A b.length c) b) (hl : b.length ≤ 10000) (h4 : 4 ≤ b.length) (hx : ¬ 16777216 < rN b) (h5 : b.length = 20 + 8 * rN b) (h6 : (rN b : Int) = rows) (h7 : loI (rL b 20 (rN b)) = z8 b 4 ∧ hiI (rL b 20 (rN b)) = z8 b 12) :
    Calls Try.prog 12 #[.slice A b.length c, .int .i64 rows] w fun e w' => (∃ g A c, e = .returned (.tuple #[.pointer (some ⟨g, 0, none⟩), .int .i64 0]) ∧ CxN w' w.heap.size g A c (rL b 20 (rN b))) ∧ Below w.heap.size w w' := by
  have dh : decide ((b.length : Int) < 4) = false := decide_eq_false (by omega)
  have dhn : decide (b.length < 4) = false := decide_eq_false (by omega)
  have hcap : b.length ≤ c := by obtain ⟨_, _, e, _, h9, _⟩ := hG; injection e with _ _ e3; omega
  have hc4 : (4 : Int) ≤ (c : Int) := by omega
  have HCUT := Lib.hid (hG.take (m := 4) h4)
  have E1 := head_rd b h4
  obtain ⟨n, hn⟩ : ∃ n, rN b = n := ⟨_, rfl⟩
  have hn32 := rN_lt b
  rw [hn] at E1 hn32
  have HE1 := Lib.hid E1
  have HTL := Lib.hid (show (b.take 4).length ≤ 10000000 by simp; omega)
  have w1 := w64_small hn32
  have y1 := wi64_small hn32
  obtain ⟨sz, hsz⟩ : ∃ sz, sz = 20 + 8 * n := ⟨_, rfl⟩
  have HSZ0 := fun W => size_any n W hn32
  rw [← hsz] at HSZ0
  have HSZ := Lib.hid HSZ0
  clear E1 HSZ0
  rw [hn] at hx
  have d1 : decide ((16777216 : Int) < (n : Int)) = false := decide_eq_false (by omega)
  have d1n : decide (16777216 < n) = false := decide_eq_false hx
  rw [hn] at h5 h6
  have d2 : decide ((b.length : Int) < (sz : Int)) = false := decide_eq_false (by omega)
  have d2n : decide (b.length < sz) = false := decide_eq_false (by omega)
  have d3 : decide ((sz : Int) < (b.length : Int)) = false := decide_eq_false (by omega)
  have d3n : decide (sz < b.length) = false := decide_eq_false (by omega)
  subst h6
  obtain ⟨A', hA', hP0⟩ := hG.part (p := 4) (q := b.length) h4 (Nat.le_refl _)
  rw [List.take_length] at hP0
  have hfr : ∀ W, (Instr.slice 31 (.slice A b.length c) (some (.int .i64 4)) none none).run Try.prog W = .ok (.slice A' (b.length - 4) (c - 4)) W := fun W => by rw [hA']; exact run_from8 A b.length c 4 W h4
  have P0 := Lib.hid hP0
  obtain ⟨L, hL⟩ : ∃ L, b.drop 4 = L := ⟨_, rfl⟩
  have HLL := Lib.hid (show L.length = 16 + 8 * n by rw [← hL, List.length_drop]; omega)
  have hzs : rL L 16 n = rL b 20 (rN b) := by rw [← hL, rL_cut, hn]
  have hza : z8 L 0 = z8 b 4 := by rw [← hL, z8_cut]
  have hzb : z8 L 8 = z8 b 12 := by rw [← hL, z8_cut]
  rw [← hzs, ← hza, ← hzb] at h7
  try rw [← hzs]
  rw [hL] at P0
  have hnb : n ≤ 10000 := by omega
  have HNB := Lib.hid hnb
  have HZN := Lib.hid (rL_len L 16 n)
  have KN := Lib.hid (fun g v W base (h : Rd W base g v L 16 false) => readNumbers_yes n W h (by rw [HLL.out]; exact Nat.le_refl _) (by omega))
  generalize rL L 16 n = zs at h7 HZN KN ⊢
  have HB4 := Lib.hid (show L.length ≤ 10000000 by rw [HLL.out]; omega)
  have RN1 := Lib.hid (fun g v W base (h : Rd W base g v L 0 false) => readNumber_yes W h (by rw [HLL.out]; omega))
  have RN2 := Lib.hid (fun g v W base (h : Rd W base g v L 8 false) => readNumber_yes W h (by rw [HLL.out]; omega))
  generalize z8 L 0 = za at h7 RN1
  generalize z8 L 8 = zb at h7 RN2
  clear hG h4 hn hx hsz h5 hA' hP0 hL hzs hza hzb
  obtain ⟨lo_, hlo⟩ : ∃ x, loI zs = x := ⟨_, rfl⟩
  obtain ⟨hi_, hhi⟩ : ∃ x, hiI zs = x := ⟨_, rfl⟩
  have HLO := Lib.hid hlo
  have HHI := Lib.hid hhi
  rw [hlo, hhi] at h7
  have d5 : (lo_ != za) = false := by simpa using h7.1
  have d6 : (hi_ != zb) = false := by simpa using h7.2
  clear h7 hlo hhi
  go_enter Try.func12, Try.ntmps12
  go_wp2_with (go_at_call 24; refine (new_any _ (b.take 4) 0 w (HCUT.out) HTL.out).mono ?_; rintro e w1 ⟨g1, v1, rfl, r1, b1⟩; have Q1 := Lib.hid r1; have B1 := Lib.hid b1; clear r1 b1; go_wp2_with (go_at_call 25; refine (U32_any _ Q1.out).mono ?_; rw [HE1.out]; rintro e w2 ⟨rfl, r2, g2⟩; have B2 := Lib.hid (B1.out.grown g2 B1.out.size (fun k e => by injection e with e; have := Q1.out.ge; omega)); clear r2 g2; go_wp2_with (first
      | (go_at_call 26; refine (HSZ.out _).mono ?_; rintro e w3 ⟨rfl, hz⟩; have hz := hz.symm; subst hz)
      | (go_at_call 24; refine (new_any _ L 0 _ (P0.out.step B2.out) HB4.out).mono ?_; rintro e w4 ⟨g4, v4, rfl, r4, b4⟩; have Q4 := Lib.hid (show Rd w4 w.heap.size g4 v4 L 0 false from r4.more B2.out.size); have B4 := Lib.hid (B2.out.trans (b4.mono B2.out.size)); clear r4 b4; go_wp2_with (go_at_call 27; refine (RN1.out _ _ _ _ Q4.out).mono ?_; rintro e w5 ⟨rfl, r5, g5⟩; have Q5 := Lib.hid r5; have B5 := Lib.hid (B4.out.grown g5 B4.out.size (fun k e => by injection e with e; have := Q4.out.ge; omega)); clear r5 g5; go_wp2_with (go_at_call 27; refine (RN2.out _ _ _ _ Q5.out).mono ?_; rintro e w6 ⟨rfl, r6, g6⟩; have Q6 := Lib.hid r6; have B6 := Lib.hid (B5.out.grown g6 B5.out.size (fun k e => by injection e with e; have := Q5.out.ge; omega)); clear r6 g6; go_wp2_with (go_at_call 28; refine (KN.out _ _ _ _ Q6.out).mono ?_; rintro e w7 ⟨v7, rfl, o7, g7⟩; have B7 := Lib.hid (B6.out.grown g7 B6.out.size (fun k e => by injection e with e; have := Q6.out.ge; omega)); have O7 := Lib.hid (o7.sl.more B6.out.size (Nat.le_refl _)); obtain ⟨A7, c7, hv7, -⟩ := o7.sl; subst hv7; clear o7 g7; go_wp2_with (go_at_call 20; refine (keep_any A7 c7 zs w7 _ (Nat.le_refl _) (O7.out.more (Nat.zero_le _) (Nat.le_refl _)) (by have := HZN.out; have := HNB.out; omega)).mono ?_; rintro e w8 ⟨rfl, r8, b8⟩; have R8 := Lib.hid r8; have B8 := Lib.hid (B7.out.trans (b8.mono B7.out.size)); have D8 := Lib.hid ((O7.out.below b8).more (Nat.le_refl _) b8.size); have k2 := r8.cell 2; have k3 := r8.cell 3; clear r8 b8; rw [HLO.out] at k2; rw [HHI.out] at k3))))))))
  go_ret2
  exact ⟨⟨_, A7, c7, rfl, ⟨R8.out, D8.out.more (Nat.zero_le _) (Nat.le_refl _), by have := HZN.out; have := HNB.out; omega⟩, B7.out.size, D8.out⟩, B8.out⟩
end Go.Proofs.Ytigjkolhhhmdhaa
