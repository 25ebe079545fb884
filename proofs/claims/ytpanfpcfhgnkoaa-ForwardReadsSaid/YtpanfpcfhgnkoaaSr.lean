/- Walks: the document's Read, where the head is wrong. -/
import Derived.Test.YtpanfpcfhgnkoaaSq
import Derived.Test.YtpanfpcfhgnkoaaRr
namespace Go.Proofs.Ytpanfpcfhgnkoaa
open Go.RowKit
set_option linter.unusedVariables false

theorem w64_k {n : Nat} (h : n < 256) : wrap64 (n : Int) = (n : Int) := by unfold wrap64; omega
theorem wi64_k {n : Nat} (h : n < 256) : IntKind.i64.wrap (n : Int) = (n : Int) := by rw [IntKind.wrap_i64]; omega
theorem w64_24 {n : Nat} (h : n < 16777216) : wrap64 (n : Int) = (n : Int) := by unfold wrap64; omega
theorem wi64_24 {n : Nat} (h : n < 16777216) : IntKind.i64.wrap (n : Int) = (n : Int) := by rw [IntKind.wrap_i64]; omega
theorem all_1 (b : List UInt8) (h : 9 ≤ b.length) : rd b 0 false 4 = (rN b, 4, false) := by
  rw [rd_yes (by omega) (by omega), List.drop_zero]
  rfl
theorem all_2 (b : List UInt8) (h : 9 ≤ b.length) : rd b 4 false 4 = (rM b, 8, false) := by
  rw [rd_yes (by omega) (by omega)]
  rfl
theorem all_3 (b : List UInt8) (h : 9 ≤ b.length) : rd b 8 false 1 = (rW b, 9, false) := by
  rw [rd_yes (by omega) (by omega), take_one_val b 8 (by omega)]
  rfl
set_option maxHeartbeats 2000000 in
set_option maxRecDepth 100000 in
theorem rread_short (A : Option Addr) (c : Nat) (b : List UInt8) (rows many : Int) (w : World) (hG : Gs e8 w 0 w.heap.size (.slice A b.length c) b) (hl : b.length ≤ 10000) (h9 : b.length < 9) :
    Calls Try.prog 15 #[.slice A b.length c, .int .i64 rows, .int .i64 many] w fun e w' => e = .returned (.tuple #[.slice none 0 0, .int .i64 4]) ∧ Below w.heap.size w w' := by
  obtain ⟨W0, hW0⟩ : ∃ W0, W0 = w.alloc (.cells #[.slice A b.length c, .int .i64 0, .bool false] 64) := ⟨_, rfl⟩
  have B0 := Lib.hid (show Below w.heap.size w W0 by rw [hW0]; exact (Below.refl _ _).alloc (Nat.le_refl _) _)
  have Q0 := Lib.hid (show RR W0 w.heap.size w.heap.size (.slice A b.length c) b 0 false by rw [hW0]; exact ⟨Row.new _ _ _, hG.alloc (Nat.le_refl _) _, Nat.le_refl _, Nat.zero_le _, by omega⟩)
  have h3 := three_no b h9
  rcases E1 : rd b 0 false 4 with ⟨n, p1, x1⟩
  rw [E1] at h3
  rcases E2 : rd b p1 x1 4 with ⟨m, p2, x2⟩
  simp only [E2] at h3
  rcases E3 : rd b p2 x2 1 with ⟨k, p3, x3⟩
  rw [E3] at h3
  obtain rfl : x3 = true := h3
  have v1 := w64_small (show n < 4294967296 by have := rd_small b 0 false; rw [E1] at this; exact this)
  have v2 := w64_small (show m < 4294967296 by have := rd_small b p1 x1; rw [E2] at this; exact this)
  have v3 := w64_small (show k < 4294967296 by have := rd_small1 b p2 x2; rw [E3] at this; exact this)
  clear hG
  try clear hn32 hm32 hk32
  go_enter Try.func15, Try.ntmps15
  go_wp2_with (go_at_call 37; rw [← hW0]; clear hW0; refine (refNumber_any 4 4 rfl _ Q0.out (by omega) (by omega)).mono ?_; rw [E1]; rintro e w1 ⟨rfl, r1, g1⟩; have Q1 := Lib.hid r1; have B1 := Lib.hid (B0.out.grown g1 B0.out.size (fun k e => by injection e with e; omega)); clear r1 g1; go_wp2_with (go_at_call 37; refine (refNumber_any 4 4 rfl _ Q1.out (by omega) (by omega)).mono ?_; rw [E2]; rintro e w2 ⟨rfl, r2, g2⟩; have Q2 := Lib.hid r2; have B2 := Lib.hid (B1.out.grown g2 B1.out.size (fun k e => by injection e with e; omega)); clear r2 g2; go_wp2_with (first
    | (go_at_call 37; refine (refNumber_any 1 1 rfl _ Q2.out (by omega) (by omega)).mono ?_; rw [E3]; rintro e w3 ⟨rfl, r3, g3⟩; have c2 := r3.c2; have B3 := Lib.hid (B2.out.grown g3 B2.out.size (fun k e => by injection e with e; omega)); clear r3 g3))))
  go_ret2
  exact ⟨rfl, B3.out⟩
set_option maxHeartbeats 2000000 in
set_option maxRecDepth 100000 in
theorem rread_long (A : Option Addr) (c : Nat) (b : List UInt8) (rows many : Int) (w : World) (hG : Gs e8 w 0 w.heap.size (.slice A b.length c) b) (hl : b.length ≤ 10000) (h9 : 9 ≤ b.length) (hx : 16777216 < rN b) :
    Calls Try.prog 15 #[.slice A b.length c, .int .i64 rows, .int .i64 many] w fun e w' => e = .returned (.tuple #[.slice none 0 0, .int .i64 3]) ∧ Below w.heap.size w w' := by
  obtain ⟨W0, hW0⟩ : ∃ W0, W0 = w.alloc (.cells #[.slice A b.length c, .int .i64 0, .bool false] 64) := ⟨_, rfl⟩
  have B0 := Lib.hid (show Below w.heap.size w W0 by rw [hW0]; exact (Below.refl _ _).alloc (Nat.le_refl _) _)
  have Q0 := Lib.hid (show RR W0 w.heap.size w.heap.size (.slice A b.length c) b 0 false by rw [hW0]; exact ⟨Row.new _ _ _, hG.alloc (Nat.le_refl _) _, Nat.le_refl _, Nat.zero_le _, by omega⟩)
  obtain ⟨n, hn⟩ : ∃ n, rN b = n := ⟨_, rfl⟩
  obtain ⟨m, hm⟩ : ∃ m, rM b = m := ⟨_, rfl⟩
  obtain ⟨k, hk⟩ : ∃ k, rW b = k := ⟨_, rfl⟩
  have hn32 := rN_lt b
  have hm32 := rM_lt b
  have hk32 := rW_lt b
  have E1 := all_1 b h9
  have E2 := all_2 b h9
  have E3 := all_3 b h9
  rw [hn] at E1 hn32 hx
  rw [hm] at E2 hm32
  rw [hk] at E3 hk32
  have v1 := w64_small hn32
  have v2 := w64_small hm32
  have v3 := w64_k hk32
  have y1 := wi64_small hn32
  have y2 := wi64_small hm32
  have y3 := wi64_k hk32
  have d1 : decide ((16777216 : Int) < (n : Int)) = true := decide_eq_true (by omega)
  clear hG
  try clear hn32 hm32 hk32
  go_enter Try.func15, Try.ntmps15
  go_wp2_with (go_at_call 37; rw [← hW0]; clear hW0; refine (refNumber_any 4 4 rfl _ Q0.out (by omega) (by omega)).mono ?_; rw [E1]; rintro e w1 ⟨rfl, r1, g1⟩; have Q1 := Lib.hid r1; have B1 := Lib.hid (B0.out.grown g1 B0.out.size (fun k e => by injection e with e; omega)); clear r1 g1; go_wp2_with (go_at_call 37; refine (refNumber_any 4 4 rfl _ Q1.out (by omega) (by omega)).mono ?_; rw [E2]; rintro e w2 ⟨rfl, r2, g2⟩; have Q2 := Lib.hid r2; have B2 := Lib.hid (B1.out.grown g2 B1.out.size (fun k e => by injection e with e; omega)); clear r2 g2; go_wp2_with (first
    | (go_at_call 37; refine (refNumber_any 1 1 rfl _ Q2.out (by omega) (by omega)).mono ?_; rw [E3]; rintro e w3 ⟨rfl, r3, g3⟩; have c2 := r3.c2; have B3 := Lib.hid (B2.out.grown g3 B2.out.size (fun k e => by injection e with e; omega)); clear r3 g3))))
  go_ret2
  exact ⟨rfl, B3.out⟩
set_option maxHeartbeats 2000000 in
set_option maxRecDepth 100000 in
theorem rread_rows (A : Option Addr) (c : Nat) (b : List UInt8) (rows many : Int) (w : World) (hG : Gs e8 w 0 w.heap.size (.slice A b.length c) b) (hl : b.length ≤ 10000) (h9 : 9 ≤ b.length) (hx : ¬ 16777216 < rN b) (h1 : (rN b : Int) ≠ rows) :
    Calls Try.prog 15 #[.slice A b.length c, .int .i64 rows, .int .i64 many] w fun e w' => e = .returned (.tuple #[.slice none 0 0, .int .i64 5]) ∧ Below w.heap.size w w' := by
  obtain ⟨W0, hW0⟩ : ∃ W0, W0 = w.alloc (.cells #[.slice A b.length c, .int .i64 0, .bool false] 64) := ⟨_, rfl⟩
  have B0 := Lib.hid (show Below w.heap.size w W0 by rw [hW0]; exact (Below.refl _ _).alloc (Nat.le_refl _) _)
  have Q0 := Lib.hid (show RR W0 w.heap.size w.heap.size (.slice A b.length c) b 0 false by rw [hW0]; exact ⟨Row.new _ _ _, hG.alloc (Nat.le_refl _) _, Nat.le_refl _, Nat.zero_le _, by omega⟩)
  obtain ⟨n, hn⟩ : ∃ n, rN b = n := ⟨_, rfl⟩
  obtain ⟨m, hm⟩ : ∃ m, rM b = m := ⟨_, rfl⟩
  obtain ⟨k, hk⟩ : ∃ k, rW b = k := ⟨_, rfl⟩
  have hn32 := rN_lt b
  have hm32 := rM_lt b
  have hk32 := rW_lt b
  have E1 := all_1 b h9
  have E2 := all_2 b h9
  have E3 := all_3 b h9
  rw [hn] at E1 hn32 hx
  rw [hm] at E2 hm32
  rw [hk] at E3 hk32
  have v1 := w64_small hn32
  have v2 := w64_small hm32
  have v3 := w64_k hk32
  have y1 := wi64_small hn32
  have y2 := wi64_small hm32
  have y3 := wi64_k hk32
  have d1 : decide ((16777216 : Int) < (n : Int)) = false := decide_eq_false (by omega)
  rw [hn] at h1
  have d2 : ((n : Int) != rows) = true := by simpa using h1
  clear hG
  try clear hn32 hm32 hk32
  go_enter Try.func15, Try.ntmps15
  go_wp2_with (go_at_call 37; rw [← hW0]; clear hW0; refine (refNumber_any 4 4 rfl _ Q0.out (by omega) (by omega)).mono ?_; rw [E1]; rintro e w1 ⟨rfl, r1, g1⟩; have Q1 := Lib.hid r1; have B1 := Lib.hid (B0.out.grown g1 B0.out.size (fun k e => by injection e with e; omega)); clear r1 g1; go_wp2_with (go_at_call 37; refine (refNumber_any 4 4 rfl _ Q1.out (by omega) (by omega)).mono ?_; rw [E2]; rintro e w2 ⟨rfl, r2, g2⟩; have Q2 := Lib.hid r2; have B2 := Lib.hid (B1.out.grown g2 B1.out.size (fun k e => by injection e with e; omega)); clear r2 g2; go_wp2_with (first
    | (go_at_call 37; refine (refNumber_any 1 1 rfl _ Q2.out (by omega) (by omega)).mono ?_; rw [E3]; rintro e w3 ⟨rfl, r3, g3⟩; have c2 := r3.c2; have B3 := Lib.hid (B2.out.grown g3 B2.out.size (fun k e => by injection e with e; omega)); clear r3 g3))))
  go_ret2
  exact ⟨rfl, B3.out⟩
set_option maxHeartbeats 2000000 in
set_option maxRecDepth 100000 in
theorem rread_many (A : Option Addr) (c : Nat) (b : List UInt8) (rows many : Int) (w : World) (hG : Gs e8 w 0 w.heap.size (.slice A b.length c) b) (hl : b.length ≤ 10000) (h9 : 9 ≤ b.length) (hx : ¬ 16777216 < rN b) (h1 : (rN b : Int) = rows) (h2 : (rM b : Int) ≠ many) :
    Calls Try.prog 15 #[.slice A b.length c, .int .i64 rows, .int .i64 many] w fun e w' => e = .returned (.tuple #[.slice none 0 0, .int .i64 5]) ∧ Below w.heap.size w w' := by
  obtain ⟨W0, hW0⟩ : ∃ W0, W0 = w.alloc (.cells #[.slice A b.length c, .int .i64 0, .bool false] 64) := ⟨_, rfl⟩
  have B0 := Lib.hid (show Below w.heap.size w W0 by rw [hW0]; exact (Below.refl _ _).alloc (Nat.le_refl _) _)
  have Q0 := Lib.hid (show RR W0 w.heap.size w.heap.size (.slice A b.length c) b 0 false by rw [hW0]; exact ⟨Row.new _ _ _, hG.alloc (Nat.le_refl _) _, Nat.le_refl _, Nat.zero_le _, by omega⟩)
  obtain ⟨n, hn⟩ : ∃ n, rN b = n := ⟨_, rfl⟩
  obtain ⟨m, hm⟩ : ∃ m, rM b = m := ⟨_, rfl⟩
  obtain ⟨k, hk⟩ : ∃ k, rW b = k := ⟨_, rfl⟩
  have hn32 := rN_lt b
  have hm32 := rM_lt b
  have hk32 := rW_lt b
  have E1 := all_1 b h9
  have E2 := all_2 b h9
  have E3 := all_3 b h9
  rw [hn] at E1 hn32 hx
  rw [hm] at E2 hm32
  rw [hk] at E3 hk32
  have v1 := w64_small hn32
  have v2 := w64_small hm32
  have v3 := w64_k hk32
  have y1 := wi64_small hn32
  have y2 := wi64_small hm32
  have y3 := wi64_k hk32
  have d1 : decide ((16777216 : Int) < (n : Int)) = false := decide_eq_false (by omega)
  rw [hn] at h1
  rw [hm] at h2
  subst h1
  have d3 : ((m : Int) != many) = true := by simpa using h2
  clear hG
  try clear hn32 hm32 hk32
  go_enter Try.func15, Try.ntmps15
  go_wp2_with (go_at_call 37; rw [← hW0]; clear hW0; refine (refNumber_any 4 4 rfl _ Q0.out (by omega) (by omega)).mono ?_; rw [E1]; rintro e w1 ⟨rfl, r1, g1⟩; have Q1 := Lib.hid r1; have B1 := Lib.hid (B0.out.grown g1 B0.out.size (fun k e => by injection e with e; omega)); clear r1 g1; go_wp2_with (go_at_call 37; refine (refNumber_any 4 4 rfl _ Q1.out (by omega) (by omega)).mono ?_; rw [E2]; rintro e w2 ⟨rfl, r2, g2⟩; have Q2 := Lib.hid r2; have B2 := Lib.hid (B1.out.grown g2 B1.out.size (fun k e => by injection e with e; omega)); clear r2 g2; go_wp2_with (first
    | (go_at_call 37; refine (refNumber_any 1 1 rfl _ Q2.out (by omega) (by omega)).mono ?_; rw [E3]; rintro e w3 ⟨rfl, r3, g3⟩; have c2 := r3.c2; have B3 := Lib.hid (B2.out.grown g3 B2.out.size (fun k e => by injection e with e; omega)); clear r3 g3))))
  go_ret2
  exact ⟨rfl, B3.out⟩
set_option maxHeartbeats 2000000 in
set_option maxRecDepth 100000 in
theorem rread_may (A : Option Addr) (c : Nat) (b : List UInt8) (rows many : Int) (w : World) (hG : Gs e8 w 0 w.heap.size (.slice A b.length c) b) (hl : b.length ≤ 10000) (h9 : 9 ≤ b.length) (hx : ¬ 16777216 < rN b) (h1 : (rN b : Int) = rows) (h2 : (rM b : Int) = many) (h3 : mayM rows many = false) :
    Calls Try.prog 15 #[.slice A b.length c, .int .i64 rows, .int .i64 many] w fun e w' => e = .returned (.tuple #[.slice none 0 0, .int .i64 5]) ∧ Below w.heap.size w w' := by
  obtain ⟨W0, hW0⟩ : ∃ W0, W0 = w.alloc (.cells #[.slice A b.length c, .int .i64 0, .bool false] 64) := ⟨_, rfl⟩
  have B0 := Lib.hid (show Below w.heap.size w W0 by rw [hW0]; exact (Below.refl _ _).alloc (Nat.le_refl _) _)
  have Q0 := Lib.hid (show RR W0 w.heap.size w.heap.size (.slice A b.length c) b 0 false by rw [hW0]; exact ⟨Row.new _ _ _, hG.alloc (Nat.le_refl _) _, Nat.le_refl _, Nat.zero_le _, by omega⟩)
  obtain ⟨n, hn⟩ : ∃ n, rN b = n := ⟨_, rfl⟩
  obtain ⟨m, hm⟩ : ∃ m, rM b = m := ⟨_, rfl⟩
  obtain ⟨k, hk⟩ : ∃ k, rW b = k := ⟨_, rfl⟩
  have hn32 := rN_lt b
  have hm32 := rM_lt b
  have hk32 := rW_lt b
  have E1 := all_1 b h9
  have E2 := all_2 b h9
  have E3 := all_3 b h9
  rw [hn] at E1 hn32 hx
  rw [hm] at E2 hm32
  rw [hk] at E3 hk32
  have v1 := w64_small hn32
  have v2 := w64_small hm32
  have v3 := w64_k hk32
  have y1 := wi64_small hn32
  have y2 := wi64_small hm32
  have y3 := wi64_k hk32
  have d1 : decide ((16777216 : Int) < (n : Int)) = false := decide_eq_false (by omega)
  rw [hn] at h1
  rw [hm] at h2
  subst h1 h2
  have HMY := Lib.hid (fun W => refMay_any (n : Int) (m : Int) W)
  rw [h3] at HMY
  have HWO := Lib.hid (fun W => rwid_any (m : Int) W (by omega))
  clear hG
  try clear hn32 hm32 hk32
  go_enter Try.func15, Try.ntmps15
  go_wp2_with (go_at_call 37; rw [← hW0]; clear hW0; refine (refNumber_any 4 4 rfl _ Q0.out (by omega) (by omega)).mono ?_; rw [E1]; rintro e w1 ⟨rfl, r1, g1⟩; have Q1 := Lib.hid r1; have B1 := Lib.hid (B0.out.grown g1 B0.out.size (fun k e => by injection e with e; omega)); clear r1 g1; go_wp2_with (go_at_call 37; refine (refNumber_any 4 4 rfl _ Q1.out (by omega) (by omega)).mono ?_; rw [E2]; rintro e w2 ⟨rfl, r2, g2⟩; have Q2 := Lib.hid r2; have B2 := Lib.hid (B1.out.grown g2 B1.out.size (fun k e => by injection e with e; omega)); clear r2 g2; go_wp2_with (first
    | (go_at_call 37; refine (refNumber_any 1 1 rfl _ Q2.out (by omega) (by omega)).mono ?_; rw [E3]; rintro e w3 ⟨rfl, r3, g3⟩; have c2 := r3.c2; have B3 := Lib.hid (B2.out.grown g3 B2.out.size (fun k e => by injection e with e; omega)); clear r3 g3)
    | (go_at_call 29; refine (HMY.out _).mono ?_; rintro e w9 ⟨rfl, hz⟩; have hz := hz.symm; subst hz))))
  go_ret2
  exact ⟨rfl, B3.out⟩
set_option maxHeartbeats 2000000 in
set_option maxRecDepth 100000 in
theorem rread_width (A : Option Addr) (c : Nat) (b : List UInt8) (rows many : Int) (w : World) (hG : Gs e8 w 0 w.heap.size (.slice A b.length c) b) (hl : b.length ≤ 10000) (h9 : 9 ≤ b.length) (hx : ¬ 16777216 < rN b) (h1 : (rN b : Int) = rows) (h2 : (rM b : Int) = many) (h3 : mayM rows many = true) (h4 : rW b ≠ wdm many) :
    Calls Try.prog 15 #[.slice A b.length c, .int .i64 rows, .int .i64 many] w fun e w' => e = .returned (.tuple #[.slice none 0 0, .int .i64 5]) ∧ Below w.heap.size w w' := by
  obtain ⟨W0, hW0⟩ : ∃ W0, W0 = w.alloc (.cells #[.slice A b.length c, .int .i64 0, .bool false] 64) := ⟨_, rfl⟩
  have B0 := Lib.hid (show Below w.heap.size w W0 by rw [hW0]; exact (Below.refl _ _).alloc (Nat.le_refl _) _)
  have Q0 := Lib.hid (show RR W0 w.heap.size w.heap.size (.slice A b.length c) b 0 false by rw [hW0]; exact ⟨Row.new _ _ _, hG.alloc (Nat.le_refl _) _, Nat.le_refl _, Nat.zero_le _, by omega⟩)
  obtain ⟨n, hn⟩ : ∃ n, rN b = n := ⟨_, rfl⟩
  obtain ⟨m, hm⟩ : ∃ m, rM b = m := ⟨_, rfl⟩
  obtain ⟨k, hk⟩ : ∃ k, rW b = k := ⟨_, rfl⟩
  have hn32 := rN_lt b
  have hm32 := rM_lt b
  have hk32 := rW_lt b
  have E1 := all_1 b h9
  have E2 := all_2 b h9
  have E3 := all_3 b h9
  rw [hn] at E1 hn32 hx
  rw [hm] at E2 hm32
  rw [hk] at E3 hk32
  have v1 := w64_small hn32
  have v2 := w64_small hm32
  have v3 := w64_k hk32
  have y1 := wi64_small hn32
  have y2 := wi64_small hm32
  have y3 := wi64_k hk32
  have d1 : decide ((16777216 : Int) < (n : Int)) = false := decide_eq_false (by omega)
  rw [hn] at h1
  rw [hm] at h2
  subst h1 h2
  have HMY := Lib.hid (fun W => refMay_any (n : Int) (m : Int) W)
  rw [h3] at HMY
  have HWO := Lib.hid (fun W => rwid_any (m : Int) W (by omega))
  rw [hk] at h4
  generalize wdm (m : Int) = wd_ at HWO h4
  have d5 : ((k : Int) != (wd_ : Int)) = true := by simp; omega
  clear hG
  try clear hn32 hm32 hk32
  go_enter Try.func15, Try.ntmps15
  go_wp2_with (go_at_call 37; rw [← hW0]; clear hW0; refine (refNumber_any 4 4 rfl _ Q0.out (by omega) (by omega)).mono ?_; rw [E1]; rintro e w1 ⟨rfl, r1, g1⟩; have Q1 := Lib.hid r1; have B1 := Lib.hid (B0.out.grown g1 B0.out.size (fun k e => by injection e with e; omega)); clear r1 g1; go_wp2_with (go_at_call 37; refine (refNumber_any 4 4 rfl _ Q1.out (by omega) (by omega)).mono ?_; rw [E2]; rintro e w2 ⟨rfl, r2, g2⟩; have Q2 := Lib.hid r2; have B2 := Lib.hid (B1.out.grown g2 B1.out.size (fun k e => by injection e with e; omega)); clear r2 g2; go_wp2_with (first
    | (go_at_call 37; refine (refNumber_any 1 1 rfl _ Q2.out (by omega) (by omega)).mono ?_; rw [E3]; rintro e w3 ⟨rfl, r3, g3⟩; have c2 := r3.c2; have B3 := Lib.hid (B2.out.grown g3 B2.out.size (fun k e => by injection e with e; omega)); clear r3 g3)
    | (go_at_call 29; refine (HMY.out _).mono ?_; rintro e w9 ⟨rfl, hz⟩; have hz := hz.symm; subst hz)
    | (go_at_call 22; refine (HWO.out _).mono ?_; rintro e w9 ⟨rfl, hz⟩; have hz := hz.symm; subst hz))))
  go_ret2
  exact ⟨rfl, B3.out⟩
set_option maxHeartbeats 2000000 in
set_option maxRecDepth 100000 in
theorem rread_size (A : Option Addr) (c : Nat) (b : List UInt8) (rows many : Int) (w : World) (hG : Gs e8 w 0 w.heap.size (.slice A b.length c) b) (hl : b.length ≤ 10000) (h9 : 9 ≤ b.length) (hx : ¬ 16777216 < rN b) (h1 : (rN b : Int) = rows) (h2 : (rM b : Int) = many) (h3 : mayM rows many = true) (h4 : rW b = wdm many) (h5 : b.length - 9 < sz (rN b) (rW b)) :
    Calls Try.prog 15 #[.slice A b.length c, .int .i64 rows, .int .i64 many] w fun e w' => e = .returned (.tuple #[.slice none 0 0, .int .i64 4]) ∧ Below w.heap.size w w' := by
  obtain ⟨W0, hW0⟩ : ∃ W0, W0 = w.alloc (.cells #[.slice A b.length c, .int .i64 0, .bool false] 64) := ⟨_, rfl⟩
  have B0 := Lib.hid (show Below w.heap.size w W0 by rw [hW0]; exact (Below.refl _ _).alloc (Nat.le_refl _) _)
  have Q0 := Lib.hid (show RR W0 w.heap.size w.heap.size (.slice A b.length c) b 0 false by rw [hW0]; exact ⟨Row.new _ _ _, hG.alloc (Nat.le_refl _) _, Nat.le_refl _, Nat.zero_le _, by omega⟩)
  have H5 := Lib.hid h5
  have hk1 := wdm_pos many
  have hk2 := wdm_le (many := many) (by rcases mayM_iff.1 h3 with h | h <;> omega)
  have HWO := Lib.hid (fun W => rwid_any many W (by rcases mayM_iff.1 h3 with h | h <;> omega))
  rw [← h4] at hk1 hk2 HWO
  clear h4 h5
  obtain ⟨n, hn⟩ : ∃ n, rN b = n := ⟨_, rfl⟩
  obtain ⟨m, hm⟩ : ∃ m, rM b = m := ⟨_, rfl⟩
  obtain ⟨k, hk⟩ : ∃ k, rW b = k := ⟨_, rfl⟩
  have hn32 := rN_lt b
  have hm32 := rM_lt b
  have hk32 := rW_lt b
  have E1 := all_1 b h9
  have E2 := all_2 b h9
  have E3 := all_3 b h9
  rw [hn] at E1 hn32 hx
  rw [hm] at E2 hm32
  rw [hk] at E3 hk32
  have v1 := w64_small hn32
  have v2 := w64_small hm32
  have v3 := w64_k hk32
  have y1 := wi64_small hn32
  have y2 := wi64_small hm32
  have y3 := wi64_k hk32
  have d1 : decide ((16777216 : Int) < (n : Int)) = false := decide_eq_false (by omega)
  rw [hn] at h1
  rw [hm] at h2
  rw [hk] at hk1 hk2 HWO
  subst h1 h2
  have HMY := Lib.hid (fun W => refMay_any (n : Int) (m : Int) W)
  rw [h3] at HMY
  have SZ := Lib.hid (fun W => refSize_yes n k W (by omega) hk1 (by omega))
  have l9 : wrap64 ((b.length : Int) - 9) = (b.length : Int) - 9 := by unfold wrap64; omega
  have h5 := H5.out
  rw [hn, hk] at h5
  have d6 : decide ((b.length : Int) - 9 < (sz n k : Int)) = true := decide_eq_true (by omega)
  clear hG
  try clear hn32 hm32 hk32
  go_enter Try.func15, Try.ntmps15
  go_wp2_with (go_at_call 37; rw [← hW0]; clear hW0; refine (refNumber_any 4 4 rfl _ Q0.out (by omega) (by omega)).mono ?_; rw [E1]; rintro e w1 ⟨rfl, r1, g1⟩; have Q1 := Lib.hid r1; have B1 := Lib.hid (B0.out.grown g1 B0.out.size (fun k e => by injection e with e; omega)); clear r1 g1; go_wp2_with (go_at_call 37; refine (refNumber_any 4 4 rfl _ Q1.out (by omega) (by omega)).mono ?_; rw [E2]; rintro e w2 ⟨rfl, r2, g2⟩; have Q2 := Lib.hid r2; have B2 := Lib.hid (B1.out.grown g2 B1.out.size (fun k e => by injection e with e; omega)); clear r2 g2; go_wp2_with (first
    | (go_at_call 37; refine (refNumber_any 1 1 rfl _ Q2.out (by omega) (by omega)).mono ?_; rw [E3]; rintro e w3 ⟨rfl, r3, g3⟩; have c2 := r3.c2; have B3 := Lib.hid (B2.out.grown g3 B2.out.size (fun k e => by injection e with e; omega)); clear r3 g3)
    | (go_at_call 29; refine (HMY.out _).mono ?_; rintro e w9 ⟨rfl, hz⟩; have hz := hz.symm; subst hz)
    | (go_at_call 22; refine (HWO.out _).mono ?_; rintro e w9 ⟨rfl, hz⟩; have hz := hz.symm; subst hz)
    | (go_at_call 38; refine (SZ.out _).mono ?_; rintro e w9 ⟨rfl, hz⟩; subst hz))))
  go_ret2
  exact ⟨rfl, B3.out⟩
set_option maxHeartbeats 2000000 in
set_option maxRecDepth 100000 in
theorem rread_form (A : Option Addr) (c : Nat) (b : List UInt8) (rows many : Int) (w : World) (hG : Gs e8 w 0 w.heap.size (.slice A b.length c) b) (hl : b.length ≤ 10000) (h9 : 9 ≤ b.length) (hx : ¬ 16777216 < rN b) (h1 : (rN b : Int) = rows) (h2 : (rM b : Int) = many) (h3 : mayM rows many = true) (h4 : rW b = wdm many) (h5 : ¬ b.length - 9 < sz (rN b) (rW b)) (h6 : upE (b.drop 9) (rN b) (rW b) ≠ 0) :
    Calls Try.prog 15 #[.slice A b.length c, .int .i64 rows, .int .i64 many] w fun e w' => e = .returned (.tuple #[.slice none 0 0, .int .i64 5]) ∧ Below w.heap.size w w' := by
  obtain ⟨W0, hW0⟩ : ∃ W0, W0 = w.alloc (.cells #[.slice A b.length c, .int .i64 0, .bool false] 64) := ⟨_, rfl⟩
  have B0 := Lib.hid (show Below w.heap.size w W0 by rw [hW0]; exact (Below.refl _ _).alloc (Nat.le_refl _) _)
  have Q0 := Lib.hid (show RR W0 w.heap.size w.heap.size (.slice A b.length c) b 0 false by rw [hW0]; exact ⟨Row.new _ _ _, hG.alloc (Nat.le_refl _) _, Nat.le_refl _, Nat.zero_le _, by omega⟩)
  have H5 := Lib.hid h5
  have hk1 := wdm_pos many
  have hk2 := wdm_le (many := many) (by rcases mayM_iff.1 h3 with h | h <;> omega)
  have HWO := Lib.hid (fun W => rwid_any many W (by rcases mayM_iff.1 h3 with h | h <;> omega))
  rw [← h4] at hk1 hk2 HWO
  clear h4 h5
  obtain ⟨n, hn⟩ : ∃ n, rN b = n := ⟨_, rfl⟩
  obtain ⟨m, hm⟩ : ∃ m, rM b = m := ⟨_, rfl⟩
  obtain ⟨k, hk⟩ : ∃ k, rW b = k := ⟨_, rfl⟩
  have hn32 := rN_lt b
  have hm32 := rM_lt b
  have hk32 := rW_lt b
  have E1 := all_1 b h9
  have E2 := all_2 b h9
  have E3 := all_3 b h9
  rw [hn] at E1 hn32 hx
  rw [hm] at E2 hm32
  rw [hk] at E3 hk32
  have v1 := w64_small hn32
  have v2 := w64_small hm32
  have v3 := w64_k hk32
  have y1 := wi64_small hn32
  have y2 := wi64_small hm32
  have y3 := wi64_k hk32
  have d1 : decide ((16777216 : Int) < (n : Int)) = false := decide_eq_false (by omega)
  rw [hn] at h1
  rw [hm] at h2
  rw [hk] at hk1 hk2 HWO
  subst h1 h2
  have HMY := Lib.hid (fun W => refMay_any (n : Int) (m : Int) W)
  rw [h3] at HMY
  have SZ := Lib.hid (fun W => refSize_yes n k W (by omega) hk1 (by omega))
  have l9 : wrap64 ((b.length : Int) - 9) = (b.length : Int) - 9 := by unfold wrap64; omega
  have h5 := H5.out
  rw [hn, hk] at h5
  have d6 : decide ((b.length : Int) - 9 < (sz n k : Int)) = false := decide_eq_false (by omega)
  have hmc : b.length ≤ c := by obtain ⟨_, _, e, _, h1, _⟩ := hG; injection e with _ _ e3; omega
  have hcm : c ≤ 9223372036854775807 := by obtain ⟨_, _, e, _, _, h2, _⟩ := hG; injection e with _ _ e3; subst e3; unfold maxLen at h2; omega
  obtain ⟨b0, off, c', e, -, -, -, -, -⟩ := hG.form (by rintro rfl; simp at h9)
  injection e with e1 e2 e3
  clear e2
  subst e1 e3
  have hcut := sl_cut (p := 9) (m := b.length - 9) hG (by omega)
  simp only [Option.map_some, Addr.add_lit] at hcut
  rw [List.take_of_length_le (by rw [List.length_drop]; exact Nat.le_refl _)] at hcut
  obtain ⟨A9, hA9⟩ : ∃ A9, A9 = (if c = 9 then some (⟨b0, off, none⟩ : Addr) else some ⟨b0, off + 9, none⟩) := ⟨_, rfl⟩
  rw [← hA9] at hcut
  have G9 := Lib.hid hcut
  have HA9 := Lib.hid hA9
  clear hA9
  have HDL := Lib.hid (show (b.drop 9).length ≤ 100000 by rw [List.length_drop]; omega)
  have h9i : (9 : Int) ≤ (b.length : Int) := by omega
  have HUN := Lib.hid (fun W (h : Below w.heap.size w W) => refUnpack_any (.slice A9 (b.length - 9) (c - 9)) (b.drop 9) 0 (n : Int) (k : Int) W ((G9.out.below h).more (Nat.zero_le _) h.size) HDL.out)
  clear hcut
  rw [hn, hk] at h6
  obtain ⟨E, hE⟩ : ∃ E, upE (b.drop 9) (n : Int) (k : Int) = E := ⟨_, rfl⟩
  rw [hE] at HUN h6
  have e6 : (E != 0) = true := by simp [h6]
  clear h6 hE
  clear hG
  try clear hn32 hm32 hk32
  go_enter Try.func15, Try.ntmps15
  go_wp2_with (go_at_call 37; rw [← hW0]; clear hW0; refine (refNumber_any 4 4 rfl _ Q0.out (by omega) (by omega)).mono ?_; rw [E1]; rintro e w1 ⟨rfl, r1, g1⟩; have Q1 := Lib.hid r1; have B1 := Lib.hid (B0.out.grown g1 B0.out.size (fun k e => by injection e with e; omega)); clear r1 g1; go_wp2_with (go_at_call 37; refine (refNumber_any 4 4 rfl _ Q1.out (by omega) (by omega)).mono ?_; rw [E2]; rintro e w2 ⟨rfl, r2, g2⟩; have Q2 := Lib.hid r2; have B2 := Lib.hid (B1.out.grown g2 B1.out.size (fun k e => by injection e with e; omega)); clear r2 g2; go_wp2_with (first
    | (go_at_call 37; refine (refNumber_any 1 1 rfl _ Q2.out (by omega) (by omega)).mono ?_; rw [E3]; rintro e w3 ⟨rfl, r3, g3⟩; have c2 := r3.c2; have B3 := Lib.hid (B2.out.grown g3 B2.out.size (fun k e => by injection e with e; omega)); clear r3 g3)
    | (go_at_call 29; refine (HMY.out _).mono ?_; rintro e w9 ⟨rfl, hz⟩; have hz := hz.symm; subst hz)
    | (go_at_call 22; refine (HWO.out _).mono ?_; rintro e w9 ⟨rfl, hz⟩; have hz := hz.symm; subst hz)
    | (go_at_call 38; refine (SZ.out _).mono ?_; rintro e w9 ⟨rfl, hz⟩; subst hz)
    | (go_at_call 39; rw [← HA9.out]; refine (HUN.out _ B3.out).mono ?_; rintro e w6 ⟨v6, rfl, o6, b6⟩; have B6 := Lib.hid (B3.out.trans (b6.mono B3.out.size)); have O6 := Lib.hid o6; clear b6 o6))))
  go_ret2
  exact ⟨rfl, B6.out⟩
end Go.Proofs.Ytpanfpcfhgnkoaa
