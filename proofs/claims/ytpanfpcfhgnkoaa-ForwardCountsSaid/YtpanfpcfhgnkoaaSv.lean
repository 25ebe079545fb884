/- Walks: the law ForwardCounts. -/
import Derived.Test.YtpanfpcfhgnkoaaSl
namespace Go.Proofs.Ytpanfpcfhgnkoaa
open Go.RowKit
set_option linter.unusedVariables false

/-- How many are below k. -/
def cl (zs : List Int) (k : Nat) : Nat := (zs.filter fun z => decide (z < (k : Int))).length
theorem cnt_all (zs : List Int) (id : Int) : cnt zs id zs.length = (zs.filter fun z => z == id).length := by unfold cnt; rw [List.take_length]
theorem cl_zero {zs : List Int} (h : ∀ z ∈ zs, 0 ≤ z) : cl zs 0 = 0 := by
  unfold cl
  rw [List.length_eq_zero_iff, List.filter_eq_nil_iff]
  intro z hz hd
  have := h z hz
  have := of_decide_eq_true hd
  omega
theorem cl_succ (zs : List Int) (k : Nat) : cl zs (k + 1) = cl zs k + cnt zs (k : Int) zs.length := by
  rw [cnt_all]
  unfold cl
  induction zs with
  | nil => rfl
  | cons z r ih =>
    by_cases h1 : z < (k : Int)
    · rw [List.filter_cons_of_pos (by simp; omega), List.filter_cons_of_pos (by simpa using h1), List.filter_cons_of_neg (by simp; omega), List.length_cons, List.length_cons, ih]; omega
    · by_cases h2 : z = (k : Int)
      · rw [List.filter_cons_of_pos (by simp; omega), List.filter_cons_of_neg (by simpa using h1), List.filter_cons_of_pos (by simpa using h2), List.length_cons, List.length_cons, ih]; omega
      · rw [List.filter_cons_of_neg (by simp; omega), List.filter_cons_of_neg (by simpa using h1), List.filter_cons_of_neg (by simpa using h2), ih]
theorem cl_all {zs : List Int} {m : Nat} (h : ∀ z ∈ zs, z < (m : Int)) : cl zs m = zs.length := by
  unfold cl
  rw [List.filter_eq_self.2 (fun z hz => decide_eq_true (h z hz))]
theorem cl_le (zs : List Int) (k : Nat) : cl zs k ≤ zs.length := List.length_filter_le _ _
theorem cnt_none {zs : List Int} {id : Int} (h : ∀ z ∈ zs, z ≠ id) : cnt zs id zs.length = 0 := by
  rw [cnt_all, List.length_eq_zero_iff, List.filter_eq_nil_iff]
  intro z hz hd
  exact h z hz (by simpa using hd)
/-- As few bits as ids need. -/
theorem wdm_hi {many : Int} (h : 1 ≤ many) : many ≤ 2 ^ wdm many := by
  have h1 := lt_wd (max many 1 - 1).toNat
  unfold wdm
  have e : max many 1 = many := by omega
  rw [e] at h1 ⊢
  have h2 : ((2 ^ wd (many - 1).toNat : Nat) : Int) = 2 ^ wd (many - 1).toNat := by push_cast; rfl
  omega
theorem wdm_lo {many : Int} (h : 2 ≤ many) : (2 : Int) ^ (wdm many - 1) < many := by
  have e : max many 1 = many := by omega
  have hp := wdm_pos many
  have h3 : ¬ (many - 1).toNat < 2 ^ (wdm many - 1) := by
    by_cases h0 : wdm many - 1 = 0
    · rw [h0]; simp; omega
    · intro hc
      have := (wd_fit (many - 1).toNat (wdm many - 1) (by omega)).2 hc
      have e2 : wdm many = wd (many - 1).toNat := by unfold wdm; rw [e]
      omega
  have h2 : ((2 ^ (wdm many - 1) : Nat) : Int) = 2 ^ (wdm many - 1) := by push_cast; rfl
  omega
theorem len_int {n w L : Nat} (h : L = 9 + sz n w) : (L : Int) = 9 + ((n : Int) * (w : Int) + 7) / 8 := by
  rw [h]
  unfold sz
  push_cast
  rfl
theorem mul_wraps {n w : Nat} (hn : n ≤ 300) (hw : w ≤ 24) : wrap64 ((n : Int) * (w : Int)) = (n : Int) * (w : Int) ∧ wrap64 ((n : Int) * (w : Int) + 7) = (n : Int) * (w : Int) + 7 ∧ wrap64 (9 + wrap64 (((n : Int) * (w : Int) + 7).tdiv 8)) = 9 + ((n : Int) * (w : Int) + 7) / 8 := by
  have h1 : n * w ≤ 300 * 24 := Nat.mul_le_mul hn hw
  have h2 : ((n * w : Nat) : Int) = (n : Int) * (w : Int) := by push_cast; rfl
  rw [← h2, Int.tdiv_eq_ediv_of_nonneg (by omega)]
  generalize n * w = x at h1
  unfold wrap64
  omega
theorem pow_wrap {k : Nat} (h : k ≤ 24) : wrap64 ((2 : Int) ^ min k 64) = 2 ^ k := by
  rw [Nat.min_eq_left (by omega)]
  have h1 : (2 : Nat) ^ k ≤ 2 ^ 24 := Nat.pow_le_pow_right (by omega) h
  have h2 : ((2 ^ k : Nat) : Int) = 2 ^ k := by push_cast; rfl
  have h3 : (2 : Nat) ^ 24 = 16777216 := by decide
  rw [← h2]
  generalize 2 ^ k = x at h1
  unfold wrap64
  omega
theorem sub_wrap {k : Nat} (h0 : 1 ≤ k) (h : k ≤ 24) : wrap64 ((k : Int) - 1) = ((k - 1 : Nat) : Int) := by unfold wrap64; omega
set_option maxHeartbeats 2000000 in
set_option maxRecDepth 100000 in
theorem counts_long (A : Option Addr) (n c : Nat) (many : Int) (w : World) (h : 300 < n) : Calls Try.prog 7 #[.slice A n c, .int .i64 many] w fun e w' => e = .returned (.bool true) ∧ Below w.heap.size w w' := by
  have d2 : decide ((300 : Int) < (n : Int)) = true := decide_eq_true (by omega)
  clear h
  go_enter Try.func7, Try.ntmps7
  go_wp2_with (go_at_call 8; refine (known12_any _).mono ?_; rintro e w9 ⟨rfl, b9⟩; have B9 := Lib.hid b9; clear b9)
  go_ret
  exact ⟨rfl, B9.out⟩
set_option maxHeartbeats 2000000 in
set_option maxRecDepth 100000 in
theorem counts_many (A : Option Addr) (n c : Nat) (many : Int) (w : World) (h : ¬ 300 < n) (h1 : 2000 < many) : Calls Try.prog 7 #[.slice A n c, .int .i64 many] w fun e w' => e = .returned (.bool true) ∧ Below w.heap.size w w' := by
  have d2 : decide ((300 : Int) < (n : Int)) = false := decide_eq_false (by omega)
  have d3 : decide (2000 < many) = true := decide_eq_true h1
  clear h h1
  go_enter Try.func7, Try.ntmps7
  go_wp2_with (go_at_call 8; refine (known12_any _).mono ?_; rintro e w9 ⟨rfl, b9⟩; have B9 := Lib.hid b9; clear b9)
  go_ret
  exact ⟨rfl, B9.out⟩
set_option maxHeartbeats 2000000 in
set_option maxRecDepth 100000 in
theorem counts_no (A : Option Addr) (c : Nat) (zs : List Int) (many : Int) (w : World) (hG : Gs eI w 0 w.heap.size (.slice A zs.length c) zs) (hn : zs.length ≤ 300) (hm : ¬ 2000 < many) (h0 : ofE zs many ≠ 0) : Calls Try.prog 7 #[.slice A zs.length c, .int .i64 many] w fun e w' => e = .returned (.bool true) ∧ Below w.heap.size w w' := by
  have d2 : decide ((300 : Int) < (zs.length : Int)) = false := decide_eq_false (by omega)
  have d3 : decide (2000 < many) = false := decide_eq_false hm
  obtain ⟨E, hE⟩ : ∃ E, ofE zs many = E := ⟨_, rfl⟩
  rw [hE] at h0
  have HO := Lib.hid ((of_any A c zs many w hG (by omega)).mono (R' := fun e w' => e = .returned (.tuple #[.pointer none, .int .i64 E]) ∧ Below w.heap.size w w') fun e w' ⟨p, h1, _, h3, h4⟩ => ⟨by rw [h1, h3 (by rw [hE]; exact h0), hE], h4⟩)
  have e2 : (E != 0) = true := by simp [h0]
  clear h0 hE hG hn hm
  go_enter Try.func7, Try.ntmps7
  go_wp2_with (first
    | (go_at_call 9; refine HO.out.mono ?_; rintro e w1 ⟨rfl, b1⟩; have B1 := Lib.hid b1; clear b1)
    | (go_at_call 8; refine (known12_any _).mono ?_; rintro e w9 ⟨rfl, b9⟩; have B9 := Lib.hid (B1.out.trans (b9.mono B1.out.size)); clear b9))
  go_ret
  exact ⟨rfl, B9.out⟩
set_option maxHeartbeats 8000000 in
set_option maxRecDepth 100000 in
theorem counts_few (A : Option Addr) (c : Nat) (zs : List Int) (m : Nat) (many : Int) (hmm : many = (m : Int)) (w : World) (hG : Gs eI w 0 w.heap.size (.slice A zs.length c) zs) (hn : zs.length ≤ 300) (hm : m ≤ 2000) (h0 : ofE zs (m : Int) = 0) (h1 : m ≤ 1) : Calls Try.prog 7 #[.slice A zs.length c, .int .i64 many] w fun e w' => e = .returned (.bool true) ∧ Below w.heap.size w w' := by
  subst hmm
  have d2 : decide ((300 : Int) < (zs.length : Int)) = false := decide_eq_false (by omega)
  have d3 : decide ((2000 : Int) < (m : Int)) = false := decide_eq_false (by omega)
  have hmy := of_ok h0
  have har := all_inr hmy.2
  have HO := Lib.hid ((of_any A c zs (m : Int) w hG (by omega)).mono (R' := fun e w' => ∃ g Ai ci, e = .returned (.tuple #[.pointer (some ⟨g, 0, none⟩), .int .i64 0]) ∧ IxM w' g Ai ci zs (m : Int) ∧ Below w.heap.size w w') fun e w' ⟨p, h1, h2, _, h4⟩ => by
    obtain ⟨g, Ai, ci, hp, hm⟩ := h2 h0
    exact ⟨g, Ai, ci, by rw [h1, hp, h0], hm.m, h4⟩)
  have HCZ := Lib.hid (cl_zero (fun z hz => (har z hz).1))
  have HCA := Lib.hid (cl_all (fun z hz => (har z hz).2))
  have hcm := cnt_none (id := (m : Int)) (fun z hz => by have := (har z hz).2; omega)
  have hcn := cnt_none (id := -1) (fun z hz => by have := (har z hz).1; omega)
  have hxm : ∀ g Ai ci W, IxM W g Ai ci zs (m : Int) → Calls Try.prog 20 #[.pointer (some ⟨g, 0, none⟩), .int .i64 (m : Int)] W fun e w' => e = .returned (.int .i64 0) ∧ Below W.heap.size W w' := fun g Ai ci W h => by
    have h2 := ix_count g Ai ci zs (m : Int) (m : Int) W h
    rw [hcm] at h2
    exact h2
  have hxn : ∀ g Ai ci W, IxM W g Ai ci zs (m : Int) → Calls Try.prog 20 #[.pointer (some ⟨g, 0, none⟩), .int .i64 (-1)] W fun e w' => e = .returned (.int .i64 0) ∧ Below W.heap.size W w' := fun g Ai ci W h => by
    have h2 := ix_count g Ai ci zs (m : Int) (-1) W h
    rw [hcn] at h2
    exact h2
  have HXM := Lib.hid hxm
  have HXN := Lib.hid hxn
  have hw1 := wdm_pos (m : Int)
  have hw2 := wdm_le (many := (m : Int)) (by omega)
  have hbl := iB_len zs (m : Int)
  rw [iP_len] at hbl
  have hcb := fun g Ai ci W (h : IxM W g Ai ci zs (m : Int)) => bytes_c g Ai ci zs (m : Int) W h
  have hwi := fun g Ai ci W (h : IxM W g Ai ci zs (m : Int)) => wid_any _ _ _ _ Ai _ ci W h.at_
  have hrw := fun W => rwid_any (m : Int) W (by omega)

  generalize iB zs (m : Int) = B at hcb hbl
  obtain ⟨wd_, hwd⟩ : ∃ k, wdm (m : Int) = k := ⟨_, rfl⟩
  rw [hwd] at hw1 hw2 hbl hwi hrw
  have d4 : decide ((m : Int) ≤ 1) = true := decide_eq_true (by omega)
  clear hwd
  have HBL := Lib.hid (len_int hbl)
  have hz3 := mul_wraps hn hw2
  obtain ⟨z1, z2, z3⟩ := hz3
  have f9 : ((B.length : Int) == wrap64 (9 + wrap64 (((zs.length : Int) * (wd_ : Int) + 7).tdiv 8))) = true := by rw [HBL.out, z3]; exact beq_self_eq_true _
  clear z3
  have HCB := Lib.hid hcb
  have HWI := Lib.hid hwi
  have HRW := Lib.hid hrw
  have HCL := Lib.hid (fun k => cl_le zs k)
  have HN := Lib.hid hn
  clear hmy har hcm hcn hxm hxn hw1 hw2 hbl hcb hwi hrw h0 hG
  go_enter Try.func7, Try.ntmps7
  go_wp2_with (go_at_call 9; refine HO.out.mono ?_; rintro e w1 ⟨g, Ai, ci, rfl, hm1, b1⟩; have B1 := Lib.hid b1; have M1 := Lib.hid hm1; clear b1 hm1)
  go_loopw [7, 28] (fun s i wr => ∃ k : Nat, k ≤ m ∧ i = .int .i64 k ∧ s = .int .i64 (cl zs k : Nat) ∧ Hid (Below w1.heap.size w1 wr)) (fun _ i _ => m - (intOf i).toNat)
  case atStart => exact ⟨0, Nat.zero_le _, rfl, by rw [HCZ.out]; rfl, Lib.hid (Below.refl _ _)⟩
  case round =>
    obtain ⟨k, hk, rfl, rfl, hB⟩ := hrel
    have HB := Lib.hid hB.out
    clear hB
    by_cases hlt : k < m
    · have HCT := Lib.hid (ix_count g Ai ci zs (m : Int) (k : Int) wr (M1.out.step HB.out))
      have HSU := Lib.hid (cl_succ zs k)
      obtain ⟨x, hx⟩ : ∃ x, cnt zs (k : Int) zs.length = x := ⟨_, rfl⟩
      obtain ⟨y, hy⟩ : ∃ y, cl zs k = y := ⟨_, rfl⟩
      have hsm := HCL.out (k + 1)
      have hnn := HN.out
      rw [HSU.out, hx, hy] at hsm
      have ha : wrap64 ((y : Int) + (x : Int)) = ((y + x : Nat) : Int) := by unfold wrap64; push_cast; omega
      have HSU2 := Lib.hid (show cl zs (k + 1) = y + x by rw [HSU.out, hx, hy])
      rw [hx] at HCT
      rw [hy]
      clear hx hy hsm HSU
      go_wp2_with (go_at_call 20; refine HCT.out.mono ?_; rintro e w2 ⟨rfl, b2⟩; have HB2 := Lib.hid (HB.out.trans (b2.mono HB.out.size)); clear b2)
      go_roundw
      case rel => exact ⟨k + 1, by omega, by go_num, by rw [HSU2.out, ← ha], Lib.hid HB2.out⟩
      case measure => simp [intOf]; omega
    · obtain rfl : k = m := by omega
      rw [HCA.out]
      have M2 := Lib.hid (M1.out.step HB.out)
      have B2 := Lib.hid (B1.out.trans (HB.out.mono B1.out.size))
      go_wp2_with (go_at_call 19; refine (HWI.out _ _ _ _ M2.out).mono ?_; rintro e w3 ⟨rfl, b3⟩; have B3 := Lib.hid (B2.out.trans (b3.mono B2.out.size)); have M3 := Lib.hid (M2.out.step b3); clear b3; go_wp2_with (go_at_call 20; refine (HXM.out _ _ _ _ M3.out).mono ?_; rintro e w4 ⟨rfl, b4⟩; have B4 := Lib.hid (B3.out.trans (b4.mono B3.out.size)); have M4 := Lib.hid (M3.out.step b4); clear b4; go_wp2_with (first
        | (go_at_call 20; refine (HXN.out _ _ _ _ M4.out).mono ?_; rintro e w5 ⟨rfl, b5⟩; have B5 := Lib.hid (B4.out.trans (b5.mono B4.out.size)); have M5 := Lib.hid (M4.out.step b5); clear b5)
        | (go_at_call 21; refine (HCB.out _ _ _ _ M5.out).mono ?_; rintro e w6 ⟨v6, rfl, o6, b6⟩; have B6 := Lib.hid (B5.out.trans (b6.mono B5.out.size)); obtain ⟨A6, d6, rfl, -⟩ := o6.sl; clear o6 b6)
        | (go_at_call 22; refine (HRW.out _).mono ?_; rintro e w7 ⟨rfl, hz⟩; have hz := hz.symm; subst hz)
        | (go_at_call 8; refine (known12_any _).mono ?_; rintro e w9 ⟨rfl, b9⟩; have B9 := Lib.hid (B6.out.trans (b9.mono B6.out.size)); clear b9))))
      go_ret
      exact ⟨rfl, B9.out⟩
set_option maxHeartbeats 8000000 in
set_option maxRecDepth 100000 in
theorem counts_yes (A : Option Addr) (c : Nat) (zs : List Int) (m : Nat) (many : Int) (hmm : many = (m : Int)) (w : World) (hG : Gs eI w 0 w.heap.size (.slice A zs.length c) zs) (hn : zs.length ≤ 300) (hm : m ≤ 2000) (h0 : ofE zs (m : Int) = 0) (h1 : ¬ m ≤ 1) : Calls Try.prog 7 #[.slice A zs.length c, .int .i64 many] w fun e w' => e = .returned (.bool true) ∧ Below w.heap.size w w' := by
  subst hmm
  have d2 : decide ((300 : Int) < (zs.length : Int)) = false := decide_eq_false (by omega)
  have d3 : decide ((2000 : Int) < (m : Int)) = false := decide_eq_false (by omega)
  have hmy := of_ok h0
  have har := all_inr hmy.2
  have HO := Lib.hid ((of_any A c zs (m : Int) w hG (by omega)).mono (R' := fun e w' => ∃ g Ai ci, e = .returned (.tuple #[.pointer (some ⟨g, 0, none⟩), .int .i64 0]) ∧ IxM w' g Ai ci zs (m : Int) ∧ Below w.heap.size w w') fun e w' ⟨p, h1, h2, _, h4⟩ => by
    obtain ⟨g, Ai, ci, hp, hm⟩ := h2 h0
    exact ⟨g, Ai, ci, by rw [h1, hp, h0], hm.m, h4⟩)
  have HCZ := Lib.hid (cl_zero (fun z hz => (har z hz).1))
  have HCA := Lib.hid (cl_all (fun z hz => (har z hz).2))
  have hcm := cnt_none (id := (m : Int)) (fun z hz => by have := (har z hz).2; omega)
  have hcn := cnt_none (id := -1) (fun z hz => by have := (har z hz).1; omega)
  have hxm : ∀ g Ai ci W, IxM W g Ai ci zs (m : Int) → Calls Try.prog 20 #[.pointer (some ⟨g, 0, none⟩), .int .i64 (m : Int)] W fun e w' => e = .returned (.int .i64 0) ∧ Below W.heap.size W w' := fun g Ai ci W h => by
    have h2 := ix_count g Ai ci zs (m : Int) (m : Int) W h
    rw [hcm] at h2
    exact h2
  have hxn : ∀ g Ai ci W, IxM W g Ai ci zs (m : Int) → Calls Try.prog 20 #[.pointer (some ⟨g, 0, none⟩), .int .i64 (-1)] W fun e w' => e = .returned (.int .i64 0) ∧ Below W.heap.size W w' := fun g Ai ci W h => by
    have h2 := ix_count g Ai ci zs (m : Int) (-1) W h
    rw [hcn] at h2
    exact h2
  have HXM := Lib.hid hxm
  have HXN := Lib.hid hxn
  have hw1 := wdm_pos (m : Int)
  have hw2 := wdm_le (many := (m : Int)) (by omega)
  have hbl := iB_len zs (m : Int)
  rw [iP_len] at hbl
  have hcb := fun g Ai ci W (h : IxM W g Ai ci zs (m : Int)) => bytes_c g Ai ci zs (m : Int) W h
  have hwi := fun g Ai ci W (h : IxM W g Ai ci zs (m : Int)) => wid_any _ _ _ _ Ai _ ci W h.at_
  have hrw := fun W => rwid_any (m : Int) W (by omega)
  have hhi := wdm_hi (many := (m : Int)) (by omega)
  have hlo := wdm_lo (many := (m : Int)) (by omega)
  generalize iB zs (m : Int) = B at hcb hbl
  obtain ⟨wd_, hwd⟩ : ∃ k, wdm (m : Int) = k := ⟨_, rfl⟩
  rw [hwd] at hw1 hw2 hbl hwi hrw
  rw [hwd] at hhi hlo
  have d4 : decide ((m : Int) ≤ 1) = false := decide_eq_false (by omega)
  have d5 : decide ((m : Int) ≤ wrap64 (2 ^ min wd_ 64)) = true := by rw [pow_wrap hw2]; exact decide_eq_true hhi
  have k1 : wrap64 ((wd_ : Int) - 1) = ((wd_ - 1 : Nat) : Int) := sub_wrap hw1 hw2
  have d6 : decide (wrap64 ((2 : Int) ^ min (wd_ - 1) 64) < (m : Int)) = true := by rw [pow_wrap (by omega)]; exact decide_eq_true hlo
  generalize wd_ - 1 = u at k1 d6
  clear hhi hlo
  clear hwd
  have HBL := Lib.hid (len_int hbl)
  have hz3 := mul_wraps hn hw2
  obtain ⟨z1, z2, z3⟩ := hz3
  have f9 : ((B.length : Int) == wrap64 (9 + wrap64 (((zs.length : Int) * (wd_ : Int) + 7).tdiv 8))) = true := by rw [HBL.out, z3]; exact beq_self_eq_true _
  clear z3
  have HCB := Lib.hid hcb
  have HWI := Lib.hid hwi
  have HRW := Lib.hid hrw
  have HCL := Lib.hid (fun k => cl_le zs k)
  have HN := Lib.hid hn
  clear hmy har hcm hcn hxm hxn hw1 hw2 hbl hcb hwi hrw h0 hG
  go_enter Try.func7, Try.ntmps7
  go_wp2_with (go_at_call 9; refine HO.out.mono ?_; rintro e w1 ⟨g, Ai, ci, rfl, hm1, b1⟩; have B1 := Lib.hid b1; have M1 := Lib.hid hm1; clear b1 hm1)
  go_loopw [7, 28] (fun s i wr => ∃ k : Nat, k ≤ m ∧ i = .int .i64 k ∧ s = .int .i64 (cl zs k : Nat) ∧ Hid (Below w1.heap.size w1 wr)) (fun _ i _ => m - (intOf i).toNat)
  case atStart => exact ⟨0, Nat.zero_le _, rfl, by rw [HCZ.out]; rfl, Lib.hid (Below.refl _ _)⟩
  case round =>
    obtain ⟨k, hk, rfl, rfl, hB⟩ := hrel
    have HB := Lib.hid hB.out
    clear hB
    by_cases hlt : k < m
    · have HCT := Lib.hid (ix_count g Ai ci zs (m : Int) (k : Int) wr (M1.out.step HB.out))
      have HSU := Lib.hid (cl_succ zs k)
      obtain ⟨x, hx⟩ : ∃ x, cnt zs (k : Int) zs.length = x := ⟨_, rfl⟩
      obtain ⟨y, hy⟩ : ∃ y, cl zs k = y := ⟨_, rfl⟩
      have hsm := HCL.out (k + 1)
      have hnn := HN.out
      rw [HSU.out, hx, hy] at hsm
      have ha : wrap64 ((y : Int) + (x : Int)) = ((y + x : Nat) : Int) := by unfold wrap64; push_cast; omega
      have HSU2 := Lib.hid (show cl zs (k + 1) = y + x by rw [HSU.out, hx, hy])
      rw [hx] at HCT
      rw [hy]
      clear hx hy hsm HSU
      go_wp2_with (go_at_call 20; refine HCT.out.mono ?_; rintro e w2 ⟨rfl, b2⟩; have HB2 := Lib.hid (HB.out.trans (b2.mono HB.out.size)); clear b2)
      go_roundw
      case rel => exact ⟨k + 1, by omega, by go_num, by rw [HSU2.out, ← ha], Lib.hid HB2.out⟩
      case measure => simp [intOf]; omega
    · obtain rfl : k = m := by omega
      rw [HCA.out]
      have M2 := Lib.hid (M1.out.step HB.out)
      have B2 := Lib.hid (B1.out.trans (HB.out.mono B1.out.size))
      go_wp2_with (go_at_call 19; refine (HWI.out _ _ _ _ M2.out).mono ?_; rintro e w3 ⟨rfl, b3⟩; have B3 := Lib.hid (B2.out.trans (b3.mono B2.out.size)); have M3 := Lib.hid (M2.out.step b3); clear b3; go_wp2_with (go_at_call 20; refine (HXM.out _ _ _ _ M3.out).mono ?_; rintro e w4 ⟨rfl, b4⟩; have B4 := Lib.hid (B3.out.trans (b4.mono B3.out.size)); have M4 := Lib.hid (M3.out.step b4); clear b4; go_wp2_with (first
        | (go_at_call 20; refine (HXN.out _ _ _ _ M4.out).mono ?_; rintro e w5 ⟨rfl, b5⟩; have B5 := Lib.hid (B4.out.trans (b5.mono B4.out.size)); have M5 := Lib.hid (M4.out.step b5); clear b5)
        | (go_at_call 21; refine (HCB.out _ _ _ _ M5.out).mono ?_; rintro e w6 ⟨v6, rfl, o6, b6⟩; have B6 := Lib.hid (B5.out.trans (b6.mono B5.out.size)); obtain ⟨A6, d6, rfl, -⟩ := o6.sl; clear o6 b6)
        | (go_at_call 22; refine (HRW.out _).mono ?_; rintro e w7 ⟨rfl, hz⟩; have hz := hz.symm; subst hz)
        | (go_at_call 8; refine (known12_any _).mono ?_; rintro e w9 ⟨rfl, b9⟩; have B9 := Lib.hid (B6.out.trans (b9.mono B6.out.size)); clear b9))))
      go_ret
      exact ⟨rfl, B9.out⟩
theorem counts_all (A : Option Addr) (c : Nat) (zs : List Int) (many : Int) (w : World) (hG : Gs eI w 0 w.heap.size (.slice A zs.length c) zs) : Calls Try.prog 7 #[.slice A zs.length c, .int .i64 many] w fun e w' => e = .returned (.bool true) ∧ Below w.heap.size w w' := by
  by_cases h : 300 < zs.length
  · exact counts_long A zs.length c many w h
  · by_cases h1 : 2000 < many
    · exact counts_many A zs.length c many w h h1
    · by_cases h0 : ofE zs many = 0
      · have hmb : 0 ≤ many := by rcases mayM_iff.1 (of_ok h0).1 with h | h <;> omega
        obtain ⟨m, rfl⟩ : ∃ m : Nat, many = (m : Int) := ⟨many.toNat, by omega⟩
        by_cases h2 : m ≤ 1
        · exact counts_few A c zs m _ rfl w hG (by omega) (by omega) h0 h2
        · exact counts_yes A c zs m _ rfl w hG (by omega) (by omega) h0 h2
      · exact counts_no A c zs many w hG (by omega) h1 h0
end Go.Proofs.Ytpanfpcfhgnkoaa
