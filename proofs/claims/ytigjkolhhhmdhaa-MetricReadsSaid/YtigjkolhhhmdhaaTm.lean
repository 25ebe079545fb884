/- Walks: the document's Read. -/
import Derived.Test.YtigjkolhhhmdhaaTk
import Derived.Test.YtigjkolhhhmdhaaRr
namespace Go.Proofs.Ytigjkolhhhmdhaa
open Go.RowKit Go.Shelf
set_option linter.unusedVariables false

attribute [local go_sem] Oper.semAt_some

theorem held_skip {P : Program} {ops : Array Oper} {Q : Exit → Act → World → Prop} {md : Region.Mode} {S : World → Prop} (i : Nat) {oi : Oper} {rest : List Oper} {fuel : Nat} {listed : Array Bool} {a : Act} {w : World} (hl : ops.toList.drop i = oi :: rest)
    (hs : Region.noSelect ops = true) (hf : Region.free md ops listed i = true) (hr : (Region.ready md ops listed).contains i = true)
    (hQ : ∀ c a w, Q (.panic c) (a.put oi.dst undef) w → Q (.panic c) a w) (hw : Region.wanted oi (yielded ops a.tmps) = false) (hS : S w)
    (h : wpAnyH P md ops Q S fuel (listed.setIfInBounds i true) (a.put oi.dst undef) w) : wpAnyH P md ops Q S (fuel + 1) listed a w :=
  wpAnyH_take (op_at hl) hs hf hr hQ (Or.inr ⟨hw, rfl⟩) hS h
theorem num8 {hi g : Nat} {v : Value} {b : List UInt8} {p : Nat} (w : World) (h : RR w hi g v b p false) (hp : p + 8 ≤ b.length) :
    Calls Try.prog 29 #[.pointer (some ⟨g, 0, none⟩), .int .i64 8] w fun e w' => e = .returned (.int .u64 (v8 b p : Int)) ∧ RR w' hi g v b (p + 8) false ∧ w.grownBy w' (some g) := by
  have h1 := refNumber_any 8 8 rfl w h (by omega) (by omega)
  rw [rd_yes (by omega) (by omega)] at h1
  exact h1
set_option maxHeartbeats 4000000 in
set_option maxRecDepth 100000 in
theorem rread_short (A : Option Addr) (c : Nat) (b : List UInt8) (rows : Int) (w : World) (hG : Gs e8 w 0 w.heap.size (.slice A b.length c) b) (hl : b.length ≤ 10000) (h4 : b.length < 4) :
    Calls Try.prog 13 #[.slice A b.length c, .int .i64 rows] w fun e w' => e = .returned (.tuple #[.slice none 0 0, .int .i64 4]) ∧ Below w.heap.size w w' := by
  obtain ⟨W0, hW0⟩ : ∃ W0, W0 = w.alloc (.cells #[.slice A b.length c, .int .i64 0, .bool false] 61) := ⟨_, rfl⟩
  have B0 := Lib.hid (show Below w.heap.size w W0 by rw [hW0]; exact (Below.refl _ _).alloc (Nat.le_refl _) _)
  have HS0 := Lib.hid (show W0.heap.size = w.heap.size + 1 by rw [hW0]; simp)
  have Q0 := Lib.hid (show RR W0 w.heap.size w.heap.size (.slice A b.length c) b 0 false by rw [hW0]; exact ⟨Row.new _ _ _, hG.alloc (Nat.le_refl _) _, Nat.le_refl _, Nat.zero_le _, by omega⟩)
  have E1 : rd b 0 false 4 = (0, 0, true) := rd_no (by omega) (by omega)
  have HE1 := Lib.hid E1
  clear E1 hG h4
  go_enter Try.func13, Try.ntmps13
  go_wp2_with (go_at_call 29; rw [← hW0]; clear hW0; refine (refNumber_any 4 4 rfl _ Q0.out (by omega) (by omega)).mono ?_; rw [HE1.out]; rintro e w1 ⟨rfl, r1, g1⟩; have Q1 := Lib.hid r1; have c2 := r1.c2; have B1 := Lib.hid (B0.out.grown g1 B0.out.size (fun k e => by injection e with e; omega)); have S1 := Lib.hid (show w.heap.size + 1 ≤ w1.heap.size by have := g1.size; have := HS0.out; omega); clear r1 g1)
  go_ret2
  exact ⟨rfl, B1.out⟩
set_option maxHeartbeats 4000000 in
set_option maxRecDepth 100000 in
theorem rread_long (A : Option Addr) (c : Nat) (b : List UInt8) (rows : Int) (w : World) (hG : Gs e8 w 0 w.heap.size (.slice A b.length c) b) (hl : b.length ≤ 10000) (h4 : 4 ≤ b.length) (hx : 16777216 < rN b) :
    Calls Try.prog 13 #[.slice A b.length c, .int .i64 rows] w fun e w' => e = .returned (.tuple #[.slice none 0 0, .int .i64 3]) ∧ Below w.heap.size w w' := by
  obtain ⟨W0, hW0⟩ : ∃ W0, W0 = w.alloc (.cells #[.slice A b.length c, .int .i64 0, .bool false] 61) := ⟨_, rfl⟩
  have B0 := Lib.hid (show Below w.heap.size w W0 by rw [hW0]; exact (Below.refl _ _).alloc (Nat.le_refl _) _)
  have HS0 := Lib.hid (show W0.heap.size = w.heap.size + 1 by rw [hW0]; simp)
  have Q0 := Lib.hid (show RR W0 w.heap.size w.heap.size (.slice A b.length c) b 0 false by rw [hW0]; exact ⟨Row.new _ _ _, hG.alloc (Nat.le_refl _) _, Nat.le_refl _, Nat.zero_le _, by omega⟩)
  have E1 : rd b 0 false 4 = (rN b, 4, false) := by rw [rd_yes (by omega) (by omega), List.drop_zero]; rfl
  obtain ⟨n, hn⟩ : ∃ n, rN b = n := ⟨_, rfl⟩
  have hn32 := rN_lt b
  rw [hn] at E1 hn32 hx
  have HE1 := Lib.hid E1
  have w1 := w64_small hn32
  have y1 := wi64_small hn32
  have u1 : wrap64 (8 * (n : Int)) = 8 * (n : Int) := by unfold wrap64; omega
  have u2 : wrap64 (20 + 8 * (n : Int)) = 20 + 8 * (n : Int) := by unfold wrap64; omega
  clear E1
  have d1 : decide ((16777216 : Int) < (n : Int)) = true := decide_eq_true (by omega)
  have d1n : decide (16777216 < n) = true := decide_eq_true hx
  clear hG h4 hn hx
  go_enter Try.func13, Try.ntmps13
  go_wp2_with (go_at_call 29; rw [← hW0]; clear hW0; refine (refNumber_any 4 4 rfl _ Q0.out (by omega) (by omega)).mono ?_; rw [HE1.out]; rintro e w1 ⟨rfl, r1, g1⟩; have Q1 := Lib.hid r1; have c2 := r1.c2; have B1 := Lib.hid (B0.out.grown g1 B0.out.size (fun k e => by injection e with e; omega)); have S1 := Lib.hid (show w.heap.size + 1 ≤ w1.heap.size by have := g1.size; have := HS0.out; omega); clear r1 g1)
  go_ret2
  exact ⟨rfl, B1.out⟩
set_option maxHeartbeats 4000000 in
set_option maxRecDepth 100000 in
theorem rread_cut (A : Option Addr) (c : Nat) (b : List UInt8) (rows : Int) (w : World) (hG : Gs e8 w 0 w.heap.size (.slice A b.length c) b) (hl : b.length ≤ 10000) (h4 : 4 ≤ b.length) (hx : ¬ 16777216 < rN b) (h5 : b.length < 20 + 8 * rN b) :
    Calls Try.prog 13 #[.slice A b.length c, .int .i64 rows] w fun e w' => e = .returned (.tuple #[.slice none 0 0, .int .i64 4]) ∧ Below w.heap.size w w' := by
  obtain ⟨W0, hW0⟩ : ∃ W0, W0 = w.alloc (.cells #[.slice A b.length c, .int .i64 0, .bool false] 61) := ⟨_, rfl⟩
  have B0 := Lib.hid (show Below w.heap.size w W0 by rw [hW0]; exact (Below.refl _ _).alloc (Nat.le_refl _) _)
  have HS0 := Lib.hid (show W0.heap.size = w.heap.size + 1 by rw [hW0]; simp)
  have Q0 := Lib.hid (show RR W0 w.heap.size w.heap.size (.slice A b.length c) b 0 false by rw [hW0]; exact ⟨Row.new _ _ _, hG.alloc (Nat.le_refl _) _, Nat.le_refl _, Nat.zero_le _, by omega⟩)
  have E1 : rd b 0 false 4 = (rN b, 4, false) := by rw [rd_yes (by omega) (by omega), List.drop_zero]; rfl
  obtain ⟨n, hn⟩ : ∃ n, rN b = n := ⟨_, rfl⟩
  have hn32 := rN_lt b
  rw [hn] at E1 hn32 hx
  have HE1 := Lib.hid E1
  have w1 := w64_small hn32
  have y1 := wi64_small hn32
  have u1 : wrap64 (8 * (n : Int)) = 8 * (n : Int) := by unfold wrap64; omega
  have u2 : wrap64 (20 + 8 * (n : Int)) = 20 + 8 * (n : Int) := by unfold wrap64; omega
  clear E1
  have d1 : decide ((16777216 : Int) < (n : Int)) = false := decide_eq_false (by omega)
  have d1n : decide (16777216 < n) = false := decide_eq_false hx
  rw [hn] at h5
  have d2 : decide ((b.length : Int) < 20 + 8 * (n : Int)) = true := decide_eq_true (by omega)
  clear hG h4 hn hx h5
  go_enter Try.func13, Try.ntmps13
  go_wp2_with (go_at_call 29; rw [← hW0]; clear hW0; refine (refNumber_any 4 4 rfl _ Q0.out (by omega) (by omega)).mono ?_; rw [HE1.out]; rintro e w1 ⟨rfl, r1, g1⟩; have Q1 := Lib.hid r1; have c2 := r1.c2; have B1 := Lib.hid (B0.out.grown g1 B0.out.size (fun k e => by injection e with e; omega)); have S1 := Lib.hid (show w.heap.size + 1 ≤ w1.heap.size by have := g1.size; have := HS0.out; omega); clear r1 g1)
  go_ret2
  exact ⟨rfl, B1.out⟩
set_option maxHeartbeats 4000000 in
set_option maxRecDepth 100000 in
theorem rread_rows (A : Option Addr) (c : Nat) (b : List UInt8) (rows : Int) (w : World) (hG : Gs e8 w 0 w.heap.size (.slice A b.length c) b) (hl : b.length ≤ 10000) (h4 : 4 ≤ b.length) (hx : ¬ 16777216 < rN b) (h5 : ¬ b.length < 20 + 8 * rN b) (h6 : (rN b : Int) ≠ rows) :
    Calls Try.prog 13 #[.slice A b.length c, .int .i64 rows] w fun e w' => e = .returned (.tuple #[.slice none 0 0, .int .i64 5]) ∧ Below w.heap.size w w' := by
  obtain ⟨W0, hW0⟩ : ∃ W0, W0 = w.alloc (.cells #[.slice A b.length c, .int .i64 0, .bool false] 61) := ⟨_, rfl⟩
  have B0 := Lib.hid (show Below w.heap.size w W0 by rw [hW0]; exact (Below.refl _ _).alloc (Nat.le_refl _) _)
  have HS0 := Lib.hid (show W0.heap.size = w.heap.size + 1 by rw [hW0]; simp)
  have Q0 := Lib.hid (show RR W0 w.heap.size w.heap.size (.slice A b.length c) b 0 false by rw [hW0]; exact ⟨Row.new _ _ _, hG.alloc (Nat.le_refl _) _, Nat.le_refl _, Nat.zero_le _, by omega⟩)
  have E1 : rd b 0 false 4 = (rN b, 4, false) := by rw [rd_yes (by omega) (by omega), List.drop_zero]; rfl
  obtain ⟨n, hn⟩ : ∃ n, rN b = n := ⟨_, rfl⟩
  have hn32 := rN_lt b
  rw [hn] at E1 hn32 hx
  have HE1 := Lib.hid E1
  have w1 := w64_small hn32
  have y1 := wi64_small hn32
  have u1 : wrap64 (8 * (n : Int)) = 8 * (n : Int) := by unfold wrap64; omega
  have u2 : wrap64 (20 + 8 * (n : Int)) = 20 + 8 * (n : Int) := by unfold wrap64; omega
  clear E1
  have d1 : decide ((16777216 : Int) < (n : Int)) = false := decide_eq_false (by omega)
  have d1n : decide (16777216 < n) = false := decide_eq_false hx
  rw [hn] at h5
  have d2 : decide ((b.length : Int) < 20 + 8 * (n : Int)) = false := decide_eq_false (by omega)
  have HN4 := Lib.hid (fun W (h : RR W w.heap.size w.heap.size (.slice A b.length c) b 4 false) => num8 W h (by omega))
  have HN12 := Lib.hid (fun W (h : RR W w.heap.size w.heap.size (.slice A b.length c) b 12 false) => num8 W h (by omega))
  have HNK := Lib.hid (fun k W (hk : k < n) (h : RR W w.heap.size w.heap.size (.slice A b.length c) b (20 + 8 * k) false) => num8 W h (by omega))
  generalize v8 b 4 = va at HN4
  generalize v8 b 12 = vb at HN12
  have HG := Lib.hid hG
  have hnb : n ≤ 10000 := by omega
  rw [hn] at h6
  have d3 : ((n : Int) != rows) = true := by simpa using h6
  clear h6
  clear hG h4 hn hx h5 hn32
  go_enter Try.func13, Try.ntmps13
  go_wp2_with (go_at_call 29; rw [← hW0]; clear hW0; refine (refNumber_any 4 4 rfl _ Q0.out (by omega) (by omega)).mono ?_; rw [HE1.out]; rintro e w1 ⟨rfl, r1, g1⟩; have Q1 := Lib.hid r1; have c2 := r1.c2; have B1 := Lib.hid (B0.out.grown g1 B0.out.size (fun k e => by injection e with e; omega)); have S1 := Lib.hid (show w.heap.size + 1 ≤ w1.heap.size by have := g1.size; have := HS0.out; omega); clear r1 g1; go_wp2_with (go_at_call 29; refine (HN4.out _ Q1.out).mono ?_; rintro e w2 ⟨rfl, r2, g2⟩; have Q2 := Lib.hid r2; have B2 := Lib.hid (B1.out.grown g2 B1.out.size (fun k e => by injection e with e; omega)); have S2 := Lib.hid (Nat.le_trans S1.out g2.size); clear r2 g2; go_wp2_with (go_at_call 29; refine (HN12.out _ Q2.out).mono ?_; rintro e w3 ⟨rfl, r3, g3⟩; have Q3 := Lib.hid r3; have B3 := Lib.hid (B2.out.grown g3 B2.out.size (fun k e => by injection e with e; omega)); have S3 := Lib.hid (Nat.le_trans S2.out g3.size); clear r3 g3)))
  go_loopw [8, 9] (fun lv i wr => ∃ k : Nat, k ≤ n ∧ i = .int .i64 k ∧ Gw eL wr (w.heap.size + 1) lv (rL b 20 k) ∧ RR wr w.heap.size w.heap.size (.slice A b.length c) b (20 + 8 * k) false ∧ Below w.heap.size w wr ∧ w.heap.size + 1 ≤ wr.heap.size) (fun _ i _ => n - (intOf i).toNat)
  case atStart => exact ⟨0, Nat.zero_le _, rfl, Gw.nil_ _ _, Q3.out, B3.out, S3.out⟩
  case round =>
    obtain ⟨k, hk, rfl, ok, rk, bk, sk⟩ := hrel
    have OK := Lib.hid ok
    have RK := Lib.hid rk
    have BK := Lib.hid bk
    have SK := Lib.hid sk
    clear ok rk bk sk
    by_cases hlt : k < n
    · have HC0 := HNK.out k wr hlt RK.out
      have HSN := Lib.hid (rL_snoc b 20 k)
      have HRL := Lib.hid (rL_len b 20 k)
      obtain ⟨z, hz⟩ : ∃ z, z8 b (20 + 8 * k) = z := ⟨_, rfl⟩
      have hw : IntKind.i64.wrap (v8 b (20 + 8 * k) : Int) = z := by rw [← hz]; rfl
      rw [hz] at HSN
      generalize v8 b (20 + 8 * k) = N at HC0 hw
      have HC := Lib.hid HC0
      clear HC0 hz
      go_wp2_with (first
        | (go_at_call 29; refine HC.out.mono ?_; rintro e w7 ⟨rfl, r7, g7⟩; have Q7 := Lib.hid (show RR w7 w.heap.size w.heap.size (.slice A b.length c) b (20 + 8 * (k + 1)) false by rw [show 20 + 8 * (k + 1) = 20 + 8 * k + 8 by omega]; exact r7); have B7 := Lib.hid (BK.out.grown g7 BK.out.size (fun k e => by injection e with e; omega)); have S7 := Lib.hid (Nat.le_trans SK.out g7.size); have O7 := Lib.hid (OK.out.kept g7 (fun j hj e => by injection e with e; have := (OK.out.lt j hj).1; omega)); clear r7 g7)
        | (at_builtin; refine wpList_gapp1 eL _ rfl _ _ _ rfl (w.heap.size + 1) sliL infL _ _ rfl O7.out _ z rfl rfl (by have := HRL.out; omega) S7.out ?_; intro v8_ w8 o8 g8 hj; clear hj; have B8 := Lib.hid (B7.out.grown g8 B7.out.size (fun j hj => by have := (O7.out.lt j hj).1; omega)); have Q8 := Lib.hid (Q7.out.grown g8 (fun e => by have := (O7.out.lt _ e).1; omega) (fun j hj => by have := (O7.out.lt j hj).1; omega)); have S8 := Lib.hid (Nat.le_trans S7.out g8.size); have O8 := Lib.hid o8; clear o8 g8))
      go_roundw
      case rel => exact ⟨k + 1, by omega, by go_num, by rw [HSN.out]; exact O8.out, Q8.out, B8.out, S8.out⟩
      case measure => simp [intOf]; omega
    · obtain rfl : k = n := by omega
      have OK9 := Lib.hid OK.out
      clear OK HNK
      go_wp2_with fail
      have hSc := (Below.refl wr.heap.size wr).drew
      refine wp_region_held_drew (S := fun W => Below wr.heap.size wr W) (by kernel_rfl) hSc (fun _ => ?_)
      refine held_take 0 ?_ rfl (by kernel_rfl) (by kernel_rfl) (by kernel_rfl) (fun _ _ _ h => h) (by rfl) ?_ hSc ?_
      rotate_left
      · (intro W hSW; go_simp; try rfl)
      try simp only [Act.put, List.setIfInBounds_toArray, List.set_cons_zero, List.set_cons_succ]
      refine held_take 1 ?_ rfl (by kernel_rfl) (by kernel_rfl) (by kernel_rfl) (fun _ _ _ h => h) (by rfl) ?_ hSc ?_
      rotate_left
      · (intro W hSW; go_simp; try rfl)
      try simp only [Act.put, List.setIfInBounds_toArray, List.set_cons_zero, List.set_cons_succ]
      refine held_take 2 ?_ rfl (by kernel_rfl) (by kernel_rfl) (by kernel_rfl) (fun _ _ _ h => h) (by rfl) ?_ hSc ?_
      rotate_left
      · (intro W hSW; go_simp; try rfl)
      try simp only [Act.put, List.setIfInBounds_toArray, List.set_cons_zero, List.set_cons_succ]
      refine held_take 3 ?_ rfl (by kernel_rfl) (by kernel_rfl) (by kernel_rfl) (fun _ _ _ h => h) (by rfl) ?_ hSc ?_
      rotate_left
      · (intro W hSW; go_simp; try rfl)
      try simp only [Act.put, List.setIfInBounds_toArray, List.set_cons_zero, List.set_cons_succ]
      refine held_skip 4 rfl (by kernel_rfl) (by kernel_rfl) (by kernel_rfl) (fun _ _ _ h => h) (by rfl) hSc ?_
      try simp only [Act.put, List.setIfInBounds_toArray, List.set_cons_zero, List.set_cons_succ]
      refine held_skip 5 rfl (by kernel_rfl) (by kernel_rfl) (by kernel_rfl) (fun _ _ _ h => h) (by rfl) hSc ?_
      try simp only [Act.put, List.setIfInBounds_toArray, List.set_cons_zero, List.set_cons_succ]
      refine held_skip 6 rfl (by kernel_rfl) (by kernel_rfl) (by kernel_rfl) (fun _ _ _ h => h) (by rfl) hSc ?_
      try simp only [Act.put, List.setIfInBounds_toArray, List.set_cons_zero, List.set_cons_succ]
      refine held_skip 7 rfl (by kernel_rfl) (by kernel_rfl) (by kernel_rfl) (fun _ _ _ h => h) (by rfl) hSc ?_
      try simp only [Act.put, List.setIfInBounds_toArray, List.set_cons_zero, List.set_cons_succ]
      refine held_skip 8 rfl (by kernel_rfl) (by kernel_rfl) (by kernel_rfl) (fun _ _ _ h => h) (by rfl) hSc ?_
      try simp only [Act.put, List.setIfInBounds_toArray, List.set_cons_zero, List.set_cons_succ]
      refine held_skip 9 rfl (by kernel_rfl) (by kernel_rfl) (by kernel_rfl) (fun _ _ _ h => h) (by rfl) hSc ?_
      try simp only [Act.put, List.setIfInBounds_toArray, List.set_cons_zero, List.set_cons_succ]
      refine held_next 10 rfl (by kernel_rfl) (by rfl) ?_
      go_simp
      refine ⟨fun W => Below wr.heap.size wr W, fun W hW => hW, hSc, ?_⟩
      refine wpAnyH_done (by kernel_rfl) ?_ _
      go_wp2
      go_ret2
      exact ⟨rfl, BK.out.drew⟩
set_option maxHeartbeats 4000000 in
set_option maxRecDepth 100000 in
theorem rread_ends (A : Option Addr) (c : Nat) (b : List UInt8) (rows : Int) (w : World) (hG : Gs e8 w 0 w.heap.size (.slice A b.length c) b) (hl : b.length ≤ 10000) (h4 : 4 ≤ b.length) (hx : ¬ 16777216 < rN b) (h5 : ¬ b.length < 20 + 8 * rN b) (h6 : (rN b : Int) = rows) (h7 : cB (rL b 20 (rN b)) ≠ b) :
    Calls Try.prog 13 #[.slice A b.length c, .int .i64 rows] w fun e w' => e = .returned (.tuple #[.slice none 0 0, .int .i64 5]) ∧ Below w.heap.size w w' := by
  obtain ⟨W0, hW0⟩ : ∃ W0, W0 = w.alloc (.cells #[.slice A b.length c, .int .i64 0, .bool false] 61) := ⟨_, rfl⟩
  have B0 := Lib.hid (show Below w.heap.size w W0 by rw [hW0]; exact (Below.refl _ _).alloc (Nat.le_refl _) _)
  have HS0 := Lib.hid (show W0.heap.size = w.heap.size + 1 by rw [hW0]; simp)
  have Q0 := Lib.hid (show RR W0 w.heap.size w.heap.size (.slice A b.length c) b 0 false by rw [hW0]; exact ⟨Row.new _ _ _, hG.alloc (Nat.le_refl _) _, Nat.le_refl _, Nat.zero_le _, by omega⟩)
  have E1 : rd b 0 false 4 = (rN b, 4, false) := by rw [rd_yes (by omega) (by omega), List.drop_zero]; rfl
  obtain ⟨n, hn⟩ : ∃ n, rN b = n := ⟨_, rfl⟩
  have hn32 := rN_lt b
  rw [hn] at E1 hn32 hx
  have HE1 := Lib.hid E1
  have w1 := w64_small hn32
  have y1 := wi64_small hn32
  have u1 : wrap64 (8 * (n : Int)) = 8 * (n : Int) := by unfold wrap64; omega
  have u2 : wrap64 (20 + 8 * (n : Int)) = 20 + 8 * (n : Int) := by unfold wrap64; omega
  clear E1
  have d1 : decide ((16777216 : Int) < (n : Int)) = false := decide_eq_false (by omega)
  have d1n : decide (16777216 < n) = false := decide_eq_false hx
  rw [hn] at h5
  have d2 : decide ((b.length : Int) < 20 + 8 * (n : Int)) = false := decide_eq_false (by omega)
  have HN4 := Lib.hid (fun W (h : RR W w.heap.size w.heap.size (.slice A b.length c) b 4 false) => num8 W h (by omega))
  have HN12 := Lib.hid (fun W (h : RR W w.heap.size w.heap.size (.slice A b.length c) b 12 false) => num8 W h (by omega))
  have HNK := Lib.hid (fun k W (hk : k < n) (h : RR W w.heap.size w.heap.size (.slice A b.length c) b (20 + 8 * k) false) => num8 W h (by omega))
  generalize v8 b 4 = va at HN4
  generalize v8 b 12 = vb at HN12
  have HG := Lib.hid hG
  have hnb : n ≤ 10000 := by omega
  rw [hn] at h6 h7
  have d3 : ((n : Int) != rows) = false := by simpa using h6
  have H7 := Lib.hid h7
  clear h6 h7
  clear hG h4 hn hx h5 hn32
  go_enter Try.func13, Try.ntmps13
  go_wp2_with (go_at_call 29; rw [← hW0]; clear hW0; refine (refNumber_any 4 4 rfl _ Q0.out (by omega) (by omega)).mono ?_; rw [HE1.out]; rintro e w1 ⟨rfl, r1, g1⟩; have Q1 := Lib.hid r1; have c2 := r1.c2; have B1 := Lib.hid (B0.out.grown g1 B0.out.size (fun k e => by injection e with e; omega)); have S1 := Lib.hid (show w.heap.size + 1 ≤ w1.heap.size by have := g1.size; have := HS0.out; omega); clear r1 g1; go_wp2_with (go_at_call 29; refine (HN4.out _ Q1.out).mono ?_; rintro e w2 ⟨rfl, r2, g2⟩; have Q2 := Lib.hid r2; have B2 := Lib.hid (B1.out.grown g2 B1.out.size (fun k e => by injection e with e; omega)); have S2 := Lib.hid (Nat.le_trans S1.out g2.size); clear r2 g2; go_wp2_with (go_at_call 29; refine (HN12.out _ Q2.out).mono ?_; rintro e w3 ⟨rfl, r3, g3⟩; have Q3 := Lib.hid r3; have B3 := Lib.hid (B2.out.grown g3 B2.out.size (fun k e => by injection e with e; omega)); have S3 := Lib.hid (Nat.le_trans S2.out g3.size); clear r3 g3)))
  go_loopw [8, 9] (fun lv i wr => ∃ k : Nat, k ≤ n ∧ i = .int .i64 k ∧ Gw eL wr (w.heap.size + 1) lv (rL b 20 k) ∧ RR wr w.heap.size w.heap.size (.slice A b.length c) b (20 + 8 * k) false ∧ Below w.heap.size w wr ∧ w.heap.size + 1 ≤ wr.heap.size) (fun _ i _ => n - (intOf i).toNat)
  case atStart => exact ⟨0, Nat.zero_le _, rfl, Gw.nil_ _ _, Q3.out, B3.out, S3.out⟩
  case round =>
    obtain ⟨k, hk, rfl, ok, rk, bk, sk⟩ := hrel
    have OK := Lib.hid ok
    have RK := Lib.hid rk
    have BK := Lib.hid bk
    have SK := Lib.hid sk
    clear ok rk bk sk
    by_cases hlt : k < n
    · have HC0 := HNK.out k wr hlt RK.out
      have HSN := Lib.hid (rL_snoc b 20 k)
      have HRL := Lib.hid (rL_len b 20 k)
      obtain ⟨z, hz⟩ : ∃ z, z8 b (20 + 8 * k) = z := ⟨_, rfl⟩
      have hw : IntKind.i64.wrap (v8 b (20 + 8 * k) : Int) = z := by rw [← hz]; rfl
      rw [hz] at HSN
      generalize v8 b (20 + 8 * k) = N at HC0 hw
      have HC := Lib.hid HC0
      clear HC0 hz
      go_wp2_with (first
        | (go_at_call 29; refine HC.out.mono ?_; rintro e w7 ⟨rfl, r7, g7⟩; have Q7 := Lib.hid (show RR w7 w.heap.size w.heap.size (.slice A b.length c) b (20 + 8 * (k + 1)) false by rw [show 20 + 8 * (k + 1) = 20 + 8 * k + 8 by omega]; exact r7); have B7 := Lib.hid (BK.out.grown g7 BK.out.size (fun k e => by injection e with e; omega)); have S7 := Lib.hid (Nat.le_trans SK.out g7.size); have O7 := Lib.hid (OK.out.kept g7 (fun j hj e => by injection e with e; have := (OK.out.lt j hj).1; omega)); clear r7 g7)
        | (at_builtin; refine wpList_gapp1 eL _ rfl _ _ _ rfl (w.heap.size + 1) sliL infL _ _ rfl O7.out _ z rfl rfl (by have := HRL.out; omega) S7.out ?_; intro v8_ w8 o8 g8 hj; clear hj; have B8 := Lib.hid (B7.out.grown g8 B7.out.size (fun j hj => by have := (O7.out.lt j hj).1; omega)); have Q8 := Lib.hid (Q7.out.grown g8 (fun e => by have := (O7.out.lt _ e).1; omega) (fun j hj => by have := (O7.out.lt j hj).1; omega)); have S8 := Lib.hid (Nat.le_trans S7.out g8.size); have O8 := Lib.hid o8; clear o8 g8))
      go_roundw
      case rel => exact ⟨k + 1, by omega, by go_num, by rw [HSN.out]; exact O8.out, Q8.out, B8.out, S8.out⟩
      case measure => simp [intOf]; omega
    · obtain rfl : k = n := by omega
      have OK9 := Lib.hid OK.out
      clear OK HNK
      go_wp2_with fail
      have h7 := H7.out
      have G9 := Lib.hid (HG.out.step BK.out)
      obtain ⟨zs, hzs⟩ : ∃ zs, rL b 20 k = zs := ⟨_, rfl⟩
      have hzl : zs.length = k := by rw [← hzs, rL_len]
      have HZS := Lib.hid hzs
      rw [hzs] at OK9
      obtain ⟨A9, d9, hv9, -⟩ := OK9.out.sl
      rw [hzl] at hv9
      subst hv9
      have cb := fun W (h : Gs eL W 0 W.heap.size (.slice A9 zs.length d9) zs) => refBytes_c A9 d9 zs W h (by omega)
      rw [hzl] at cb
      have hcb : cB zs = cB (rL b 20 k) := by rw [hzs]
      rw [hcb] at cb
      generalize cB (rL b 20 k) = bs at cb h7
      have CB := Lib.hid cb
      clear cb hcb hzs hzl
      have hE : (bs == b) = false := by simpa using h7
      have hE2 : (bs != b) = true := by simpa using h7
      clear h7
      have hSc := (Below.refl wr.heap.size wr).drew
      refine wp_region_all (S := fun W => Below wr.heap.size wr W) (by kernel_rfl) hSc (fun W0 hSc => ?_)
      refine held_take 0 ?_ rfl (by kernel_rfl) (by kernel_rfl) (by kernel_rfl) (fun _ _ _ h => h) (by rfl) ?_ hSc ?_
      rotate_left
      · (intro W hSW; go_simp; try rfl)
      try simp only [Act.put, List.setIfInBounds_toArray, List.set_cons_zero, List.set_cons_succ]
      refine held_take 1 ?_ rfl (by kernel_rfl) (by kernel_rfl) (by kernel_rfl) (fun _ _ _ h => h) (by rfl) ?_ hSc ?_
      rotate_left
      · (intro W hSW; go_simp; try rfl)
      try simp only [Act.put, List.setIfInBounds_toArray, List.set_cons_zero, List.set_cons_succ]
      refine held_take 2 ?_ rfl (by kernel_rfl) (by kernel_rfl) (by kernel_rfl) (fun _ _ _ h => h) (by rfl) ?_ hSc ?_
      rotate_left
      · (intro W hSW; go_simp; try rfl)
      try simp only [Act.put, List.setIfInBounds_toArray, List.set_cons_zero, List.set_cons_succ]
      refine held_take 3 ?_ rfl (by kernel_rfl) (by kernel_rfl) (by kernel_rfl) (fun _ _ _ h => h) (by rfl) ?_ hSc ?_
      rotate_left
      · (intro W hSW; go_simp; try rfl)
      try simp only [Act.put, List.setIfInBounds_toArray, List.set_cons_zero, List.set_cons_succ]
      refine held_take 4 ?_ rfl (by kernel_rfl) (by kernel_rfl) (by kernel_rfl) (fun _ _ _ h => h) (by rfl) ?_ hSc ?_
      rotate_left
      · (intro W hSW; go_simp; try rfl)
      try simp only [Act.put, List.setIfInBounds_toArray, List.set_cons_zero, List.set_cons_succ]
      refine held_take 7 ?_ rfl (by kernel_rfl) (by kernel_rfl) (by kernel_rfl) (fun _ _ _ h => h) (by rfl) ?_ hSc ?_
      rotate_left
      · (intro W hSW; go_simp; try rfl)
      try simp only [Act.put, List.setIfInBounds_toArray, List.set_cons_zero, List.set_cons_succ]
      refine held_take 8 ?_ rfl (by kernel_rfl) (by kernel_rfl) (by kernel_rfl) (fun _ _ _ h => h) (by rfl) ?_ hSc ?_
      rotate_left
      · (intro W hSW; have s1 := str8 (G9.out.below hSW); go_simp; try rfl)
      try simp only [Act.put, List.setIfInBounds_toArray, List.set_cons_zero, List.set_cons_succ]
      refine held_next 5 rfl (by kernel_rfl) (by rfl) ?_
      go_simp
      refine (CB.out _ ((OK9.out.sl.below hSc).more (Nat.zero_le _) hSc.size)).mono ?_
      rintro e x1 ⟨v1, rfl, o1, b1⟩
      have U1 := Lib.hid (hSc.trans (b1.mono hSc.size))
      have Q1x := Lib.hid (o1.sl.more (Nat.zero_le _) (Nat.le_refl _))
      have OX := Lib.hid (OK9.out.below U1.out (Nat.le_refl _))
      refine ⟨fun W => Below x1.heap.size x1 W, fun W hW => U1.out.trans (hW.mono U1.out.size), Below.refl _ _, ?_⟩
      obtain ⟨A1x, d1x, rfl, -⟩ := o1.sl
      clear o1 b1 hSc
      have hSc := Below.refl x1.heap.size x1
      try simp only [Act.put, List.setIfInBounds_toArray, List.set_cons_zero, List.set_cons_succ]
      refine held_take 6 ?_ rfl (by kernel_rfl) (by kernel_rfl) (by kernel_rfl) (fun _ _ _ h => h) (by rfl) ?_ hSc ?_
      rotate_left
      · (intro W hSW; have s1 := str8 (Q1x.out.below hSW); go_simp; try rfl)
      try simp only [Act.put, List.setIfInBounds_toArray, List.set_cons_zero, List.set_cons_succ]
      refine held_next 9 rfl (by kernel_rfl) (by rfl) ?_
      go_simp
      refine ⟨fun W => Below x1.heap.size x1 W, fun W hW => hW, hSc, ?_⟩
      try simp only [Act.put, List.setIfInBounds_toArray, List.set_cons_zero, List.set_cons_succ]
      refine held_next 10 rfl (by kernel_rfl) (by rfl) ?_
      go_simp
      refine ⟨fun W => Below x1.heap.size x1 W, fun W hW => hW, hSc, ?_⟩
      refine wpAnyH_done (by kernel_rfl) ?_ _
      go_wp2
      go_ret2
      exact ⟨rfl, BK.out.trans (U1.out.mono BK.out.size)⟩
set_option maxHeartbeats 4000000 in
set_option maxRecDepth 100000 in
theorem rread_yes (A : Option Addr) (c : Nat) (b : List UInt8) (rows : Int) (w : World) (hG : Gs e8 w 0 w.heap.size (.slice A b.length c) b) (hl : b.length ≤ 10000) (h4 : 4 ≤ b.length) (hx : ¬ 16777216 < rN b) (h5 : ¬ b.length < 20 + 8 * rN b) (h6 : (rN b : Int) = rows) (h7 : cB (rL b 20 (rN b)) = b) :
    Calls Try.prog 13 #[.slice A b.length c, .int .i64 rows] w fun e w' => (∃ v', e = .returned (.tuple #[v', .int .i64 0]) ∧ Gw eL w' w.heap.size v' (rL b 20 (rN b))) ∧ Below w.heap.size w w' := by
  obtain ⟨W0, hW0⟩ : ∃ W0, W0 = w.alloc (.cells #[.slice A b.length c, .int .i64 0, .bool false] 61) := ⟨_, rfl⟩
  have B0 := Lib.hid (show Below w.heap.size w W0 by rw [hW0]; exact (Below.refl _ _).alloc (Nat.le_refl _) _)
  have HS0 := Lib.hid (show W0.heap.size = w.heap.size + 1 by rw [hW0]; simp)
  have Q0 := Lib.hid (show RR W0 w.heap.size w.heap.size (.slice A b.length c) b 0 false by rw [hW0]; exact ⟨Row.new _ _ _, hG.alloc (Nat.le_refl _) _, Nat.le_refl _, Nat.zero_le _, by omega⟩)
  have E1 : rd b 0 false 4 = (rN b, 4, false) := by rw [rd_yes (by omega) (by omega), List.drop_zero]; rfl
  obtain ⟨n, hn⟩ : ∃ n, rN b = n := ⟨_, rfl⟩
  have hn32 := rN_lt b
  rw [hn] at E1 hn32 hx
  have HE1 := Lib.hid E1
  have w1 := w64_small hn32
  have y1 := wi64_small hn32
  have u1 : wrap64 (8 * (n : Int)) = 8 * (n : Int) := by unfold wrap64; omega
  have u2 : wrap64 (20 + 8 * (n : Int)) = 20 + 8 * (n : Int) := by unfold wrap64; omega
  clear E1
  have d1 : decide ((16777216 : Int) < (n : Int)) = false := decide_eq_false (by omega)
  have d1n : decide (16777216 < n) = false := decide_eq_false hx
  rw [hn] at h5
  have d2 : decide ((b.length : Int) < 20 + 8 * (n : Int)) = false := decide_eq_false (by omega)
  have HN4 := Lib.hid (fun W (h : RR W w.heap.size w.heap.size (.slice A b.length c) b 4 false) => num8 W h (by omega))
  have HN12 := Lib.hid (fun W (h : RR W w.heap.size w.heap.size (.slice A b.length c) b 12 false) => num8 W h (by omega))
  have HNK := Lib.hid (fun k W (hk : k < n) (h : RR W w.heap.size w.heap.size (.slice A b.length c) b (20 + 8 * k) false) => num8 W h (by omega))
  generalize v8 b 4 = va at HN4
  generalize v8 b 12 = vb at HN12
  have HG := Lib.hid hG
  have hnb : n ≤ 10000 := by omega
  rw [hn] at h6 h7
  try rw [hn]
  have d3 : ((n : Int) != rows) = false := by simpa using h6
  have H7 := Lib.hid h7
  clear h6 h7
  clear hG h4 hn hx h5 hn32
  go_enter Try.func13, Try.ntmps13
  go_wp2_with (go_at_call 29; rw [← hW0]; clear hW0; refine (refNumber_any 4 4 rfl _ Q0.out (by omega) (by omega)).mono ?_; rw [HE1.out]; rintro e w1 ⟨rfl, r1, g1⟩; have Q1 := Lib.hid r1; have c2 := r1.c2; have B1 := Lib.hid (B0.out.grown g1 B0.out.size (fun k e => by injection e with e; omega)); have S1 := Lib.hid (show w.heap.size + 1 ≤ w1.heap.size by have := g1.size; have := HS0.out; omega); clear r1 g1; go_wp2_with (go_at_call 29; refine (HN4.out _ Q1.out).mono ?_; rintro e w2 ⟨rfl, r2, g2⟩; have Q2 := Lib.hid r2; have B2 := Lib.hid (B1.out.grown g2 B1.out.size (fun k e => by injection e with e; omega)); have S2 := Lib.hid (Nat.le_trans S1.out g2.size); clear r2 g2; go_wp2_with (go_at_call 29; refine (HN12.out _ Q2.out).mono ?_; rintro e w3 ⟨rfl, r3, g3⟩; have Q3 := Lib.hid r3; have B3 := Lib.hid (B2.out.grown g3 B2.out.size (fun k e => by injection e with e; omega)); have S3 := Lib.hid (Nat.le_trans S2.out g3.size); clear r3 g3)))
  go_loopw [8, 9] (fun lv i wr => ∃ k : Nat, k ≤ n ∧ i = .int .i64 k ∧ Gw eL wr (w.heap.size + 1) lv (rL b 20 k) ∧ RR wr w.heap.size w.heap.size (.slice A b.length c) b (20 + 8 * k) false ∧ Below w.heap.size w wr ∧ w.heap.size + 1 ≤ wr.heap.size) (fun _ i _ => n - (intOf i).toNat)
  case atStart => exact ⟨0, Nat.zero_le _, rfl, Gw.nil_ _ _, Q3.out, B3.out, S3.out⟩
  case round =>
    obtain ⟨k, hk, rfl, ok, rk, bk, sk⟩ := hrel
    have OK := Lib.hid ok
    have RK := Lib.hid rk
    have BK := Lib.hid bk
    have SK := Lib.hid sk
    clear ok rk bk sk
    by_cases hlt : k < n
    · have HC0 := HNK.out k wr hlt RK.out
      have HSN := Lib.hid (rL_snoc b 20 k)
      have HRL := Lib.hid (rL_len b 20 k)
      obtain ⟨z, hz⟩ : ∃ z, z8 b (20 + 8 * k) = z := ⟨_, rfl⟩
      have hw : IntKind.i64.wrap (v8 b (20 + 8 * k) : Int) = z := by rw [← hz]; rfl
      rw [hz] at HSN
      generalize v8 b (20 + 8 * k) = N at HC0 hw
      have HC := Lib.hid HC0
      clear HC0 hz
      go_wp2_with (first
        | (go_at_call 29; refine HC.out.mono ?_; rintro e w7 ⟨rfl, r7, g7⟩; have Q7 := Lib.hid (show RR w7 w.heap.size w.heap.size (.slice A b.length c) b (20 + 8 * (k + 1)) false by rw [show 20 + 8 * (k + 1) = 20 + 8 * k + 8 by omega]; exact r7); have B7 := Lib.hid (BK.out.grown g7 BK.out.size (fun k e => by injection e with e; omega)); have S7 := Lib.hid (Nat.le_trans SK.out g7.size); have O7 := Lib.hid (OK.out.kept g7 (fun j hj e => by injection e with e; have := (OK.out.lt j hj).1; omega)); clear r7 g7)
        | (at_builtin; refine wpList_gapp1 eL _ rfl _ _ _ rfl (w.heap.size + 1) sliL infL _ _ rfl O7.out _ z rfl rfl (by have := HRL.out; omega) S7.out ?_; intro v8_ w8 o8 g8 hj; clear hj; have B8 := Lib.hid (B7.out.grown g8 B7.out.size (fun j hj => by have := (O7.out.lt j hj).1; omega)); have Q8 := Lib.hid (Q7.out.grown g8 (fun e => by have := (O7.out.lt _ e).1; omega) (fun j hj => by have := (O7.out.lt j hj).1; omega)); have S8 := Lib.hid (Nat.le_trans S7.out g8.size); have O8 := Lib.hid o8; clear o8 g8))
      go_roundw
      case rel => exact ⟨k + 1, by omega, by go_num, by rw [HSN.out]; exact O8.out, Q8.out, B8.out, S8.out⟩
      case measure => simp [intOf]; omega
    · obtain rfl : k = n := by omega
      have OK9 := Lib.hid OK.out
      clear OK HNK
      go_wp2_with fail
      have h7 := H7.out
      have G9 := Lib.hid (HG.out.step BK.out)
      obtain ⟨zs, hzs⟩ : ∃ zs, rL b 20 k = zs := ⟨_, rfl⟩
      have hzl : zs.length = k := by rw [← hzs, rL_len]
      have HZS := Lib.hid hzs
      rw [hzs] at OK9
      obtain ⟨A9, d9, hv9, -⟩ := OK9.out.sl
      rw [hzl] at hv9
      subst hv9
      have cb := fun W (h : Gs eL W 0 W.heap.size (.slice A9 zs.length d9) zs) => refBytes_c A9 d9 zs W h (by omega)
      rw [hzl] at cb
      have hcb : cB zs = cB (rL b 20 k) := by rw [hzs]
      rw [hcb] at cb
      generalize cB (rL b 20 k) = bs at cb h7
      have CB := Lib.hid cb
      clear cb hcb hzs hzl
      have hE : (bs == b) = true := by simpa using h7
      have hE2 : (bs != b) = false := by simpa using h7
      clear h7
      have hSc := (Below.refl wr.heap.size wr).drew
      refine wp_region_all (S := fun W => Below wr.heap.size wr W) (by kernel_rfl) hSc (fun W0 hSc => ?_)
      refine held_take 0 ?_ rfl (by kernel_rfl) (by kernel_rfl) (by kernel_rfl) (fun _ _ _ h => h) (by rfl) ?_ hSc ?_
      rotate_left
      · (intro W hSW; go_simp; try rfl)
      try simp only [Act.put, List.setIfInBounds_toArray, List.set_cons_zero, List.set_cons_succ]
      refine held_take 1 ?_ rfl (by kernel_rfl) (by kernel_rfl) (by kernel_rfl) (fun _ _ _ h => h) (by rfl) ?_ hSc ?_
      rotate_left
      · (intro W hSW; go_simp; try rfl)
      try simp only [Act.put, List.setIfInBounds_toArray, List.set_cons_zero, List.set_cons_succ]
      refine held_take 2 ?_ rfl (by kernel_rfl) (by kernel_rfl) (by kernel_rfl) (fun _ _ _ h => h) (by rfl) ?_ hSc ?_
      rotate_left
      · (intro W hSW; go_simp; try rfl)
      try simp only [Act.put, List.setIfInBounds_toArray, List.set_cons_zero, List.set_cons_succ]
      refine held_take 3 ?_ rfl (by kernel_rfl) (by kernel_rfl) (by kernel_rfl) (fun _ _ _ h => h) (by rfl) ?_ hSc ?_
      rotate_left
      · (intro W hSW; go_simp; try rfl)
      try simp only [Act.put, List.setIfInBounds_toArray, List.set_cons_zero, List.set_cons_succ]
      refine held_take 4 ?_ rfl (by kernel_rfl) (by kernel_rfl) (by kernel_rfl) (fun _ _ _ h => h) (by rfl) ?_ hSc ?_
      rotate_left
      · (intro W hSW; go_simp; try rfl)
      try simp only [Act.put, List.setIfInBounds_toArray, List.set_cons_zero, List.set_cons_succ]
      refine held_take 7 ?_ rfl (by kernel_rfl) (by kernel_rfl) (by kernel_rfl) (fun _ _ _ h => h) (by rfl) ?_ hSc ?_
      rotate_left
      · (intro W hSW; go_simp; try rfl)
      try simp only [Act.put, List.setIfInBounds_toArray, List.set_cons_zero, List.set_cons_succ]
      refine held_take 8 ?_ rfl (by kernel_rfl) (by kernel_rfl) (by kernel_rfl) (fun _ _ _ h => h) (by rfl) ?_ hSc ?_
      rotate_left
      · (intro W hSW; have s1 := str8 (G9.out.below hSW); go_simp; try rfl)
      try simp only [Act.put, List.setIfInBounds_toArray, List.set_cons_zero, List.set_cons_succ]
      refine held_next 5 rfl (by kernel_rfl) (by rfl) ?_
      go_simp
      refine (CB.out _ ((OK9.out.sl.below hSc).more (Nat.zero_le _) hSc.size)).mono ?_
      rintro e x1 ⟨v1, rfl, o1, b1⟩
      have U1 := Lib.hid (hSc.trans (b1.mono hSc.size))
      have Q1x := Lib.hid (o1.sl.more (Nat.zero_le _) (Nat.le_refl _))
      have OX := Lib.hid (OK9.out.below U1.out (Nat.le_refl _))
      refine ⟨fun W => Below x1.heap.size x1 W, fun W hW => U1.out.trans (hW.mono U1.out.size), Below.refl _ _, ?_⟩
      obtain ⟨A1x, d1x, rfl, -⟩ := o1.sl
      clear o1 b1 hSc
      have hSc := Below.refl x1.heap.size x1
      try simp only [Act.put, List.setIfInBounds_toArray, List.set_cons_zero, List.set_cons_succ]
      refine held_take 6 ?_ rfl (by kernel_rfl) (by kernel_rfl) (by kernel_rfl) (fun _ _ _ h => h) (by rfl) ?_ hSc ?_
      rotate_left
      · (intro W hSW; have s1 := str8 (Q1x.out.below hSW); go_simp; try rfl)
      try simp only [Act.put, List.setIfInBounds_toArray, List.set_cons_zero, List.set_cons_succ]
      refine held_next 9 rfl (by kernel_rfl) (by rfl) ?_
      go_simp
      refine ⟨fun W => Below x1.heap.size x1 W, fun W hW => hW, hSc, ?_⟩
      try simp only [Act.put, List.setIfInBounds_toArray, List.set_cons_zero, List.set_cons_succ]
      refine held_next 10 rfl (by kernel_rfl) (by rfl) ?_
      go_simp
      refine ⟨fun W => Below x1.heap.size x1 W, fun W hW => hW, hSc, ?_⟩
      refine wpAnyH_done (by kernel_rfl) ?_ _
      go_wp2
      go_ret2
      exact ⟨⟨_, rfl, by rw [HZS.out]; exact OX.out.more (Nat.le_succ _)⟩, BK.out.trans (U1.out.mono BK.out.size)⟩
end Go.Proofs.Ytigjkolhhhmdhaa
