/- Proved of RunsTouch: whatever its arguments. -/
import Derived.Test.YtgkelfhmpeakkaaFK
import Derived.Test.YtgkelfhmpeakkaaRg
namespace Go.Proofs.Ytgkelfhmpeakkaa
open Go.RowKit
set_option linter.unusedVariables false

theorem mr_one (r : Rn) (x : Nat) : mr [r] x = (decide (r.1.toNat ≤ x) && decide (x ≤ lst r)) := by rw [mr_cons, mr_nil, Bool.or_false]; rfl
/-- A run from whole numbers. -/
def ru (f m : Nat) : Rn := (UInt16.ofNat f, UInt16.ofNat m)
theorem ru_fst {f m : Nat} (hf : f < 65536) : (ru f m).1.toNat = f := u16_of f hf
theorem ru_snd {f m : Nat} (hm : m < 65536) : (ru f m).2.toNat = m := u16_of m hm
theorem ru_lst {f m : Nat} (hf : f < 65536) (hm : m < 65536) : lst (ru f m) = f + m := by unfold lst; rw [ru_fst hf, ru_snd hm]
theorem may_one {f m : Nat} (h : f + m ≤ 65535) : mayr 0 [ru f m] = true := by
  rw [mayr_eq, ru_lst (by omega) (by omega), decide_eq_true (Nat.zero_le _), decide_eq_true h]; rfl
theorem may_two {f m g n : Nat} (h : f + m + 2 ≤ g) (h2 : g + n ≤ 65535) : mayr 0 [ru f m, ru g n] = true := by
  rw [mayr_eq, mayr_eq, ru_lst (by omega) (by omega), ru_lst (by omega) (by omega), ru_fst (f := g) (by omega), decide_eq_true (Nat.zero_le _), decide_eq_true (by omega), decide_eq_true h, decide_eq_true h2]; rfl
theorem may_touch {f m n : Nat} (h : f + m + 1 + n ≤ 65535) : mayr 0 [ru f m, ru (f + m + 1) n] = false := by
  rw [mayr_eq, mayr_eq, ru_lst (by omega) (by omega), ru_fst (f := f + m + 1) (by omega), decide_eq_false (p := f + m + 2 ≤ f + m + 1) (by omega)]; simp
theorem or_touch {f m n : Nat} (h : f + m + 1 + n ≤ 65535) : pd fOr [ru f m] [ru (f + m + 1) n] = [ru f (m + n + 1)] := by
  have ha := may_one (f := f) (m := m) (by omega)
  have hb := may_one (f := f + m + 1) (m := n) (by omega)
  obtain ⟨h1, h2⟩ := pd_right (t := fOr) rfl ha hb
  refine mr_inj h1 (may_one (f := f) (m := m + n + 1) (by omega)) fun x => ?_
  rw [h2, mr_one, mr_one, mr_one, ru_lst (by omega) (by omega), ru_lst (by omega) (by omega), ru_lst (by omega) (by omega), ru_fst (by omega), ru_fst (by omega), ru_fst (by omega)]
  unfold fOr
  rw [Bool.eq_iff_iff]
  simp only [Bool.or_eq_true, Bool.and_eq_true, decide_eq_true_eq]
  omega
theorem or_apart {f m n : Nat} (h : f + m + 2 + n ≤ 65535) : pd fOr [ru (f + m + 2) n] [ru f m] = [ru f m, ru (f + m + 2) n] := by
  have ha := may_one (f := f) (m := m) (by omega)
  have hb := may_one (f := f + m + 2) (m := n) (by omega)
  obtain ⟨h1, h2⟩ := pd_right (t := fOr) rfl hb ha
  refine mr_inj h1 (may_two (f := f) (m := m) (g := f + m + 2) (n := n) (by omega) (by omega)) fun x => ?_
  rw [h2, mr_one, mr_one, mr_cons, mr_one, ru_lst (by omega) (by omega), ru_lst (by omega) (by omega), ru_fst (by omega), ru_fst (by omega)]
  unfold fOr inr
  rw [ru_lst (by omega) (by omega), ru_fst (by omega)]
  exact Bool.or_comm _ _

theorem row_ru {f m : Nat} (hf : f < 65536) (hm : m < 65536) (l : List Rn) : eR.row (ru f m :: l) = .int .u16 (f : Int) :: .int .u16 (m : Int) :: eR.row l := by
  simp only [Elem2.row, eR, ru_fst hf, ru_snd hm]
/-- A slice of one run, of two, just made. -/
theorem lit1 (w : World) {b f m : Nat} (hb : b = w.heap.size) (hf : f < 65536) (hm : m < 65536) : Gs2 eR (w.alloc (.cells #[.int .u16 (f : Int), .int .u16 (m : Int)] eR.E)) 0 (w.alloc (.cells #[.int .u16 (f : Int), .int .u16 (m : Int)] eR.E)).heap.size (.slice (some ⟨b, 0, none⟩) 1 1) [ru f m] := by
  subst hb
  exact (Gw2.lit (k := eR) w 0 (Nat.zero_le _) [ru f m] #[.int .u16 (f : Int), .int .u16 (m : Int)] 1 (by rw [row_ru hf hm]; rfl) rfl (by omega)).sl
theorem lit2 (w : World) {f m g n : Nat} (hf : f < 65536) (hm : m < 65536) (hg : g < 65536) (hn : n < 65536) :
    Gs2 eR (w.alloc (.cells #[.int .u16 (f : Int), .int .u16 (m : Int), .int .u16 (g : Int), .int .u16 (n : Int)] eR.E)) 0 (w.alloc (.cells #[.int .u16 (f : Int), .int .u16 (m : Int), .int .u16 (g : Int), .int .u16 (n : Int)] eR.E)).heap.size (.slice (some ⟨w.heap.size, 0, none⟩) 2 2) [ru f m, ru g n] :=
  (Gw2.lit (k := eR) w 0 (Nat.zero_le _) [ru f m, ru g n] #[.int .u16 (f : Int), .int .u16 (m : Int), .int .u16 (g : Int), .int .u16 (n : Int)] 2 (by rw [row_ru hf hm, row_ru hg hn]; rfl) rfl (by omega)).sl
theorem alloc_below (w : World) (o : Obj) : Below w.heap.size w (w.alloc o) := (Below.refl _ w).alloc (Nat.le_refl _) _
theorem ru_cells {w : World} {lo hi : Nat} {A : Option Addr} {n c : Nat} {l : List Rn} (h : Gs2 eR w lo hi (.slice A n c) l) {k f m : Nat} (hf : f < 65536) (hm : m < 65536) (hk : l[k]? = some (ru f m)) :
    ∃ b off, A = some ⟨b, off, none⟩ ∧ b < hi ∧ w.cell? ⟨b, off + k * 2, none⟩ = some (.int .u16 (f : Int)) ∧ w.cell? ⟨b, off + k * 2 + 1, none⟩ = some (.int .u16 (m : Int)) := by
  obtain ⟨b, off, r, e, -, hb, -, hg, c0, c1⟩ := gs2_at h (k := k) (List.getElem?_eq_some_iff.1 hk).1
  obtain rfl := Option.some.inj (hg.symm.trans hk)
  rw [ru_fst hf] at c0
  rw [ru_snd hm] at c1
  exact ⟨b, off, e, hb, c0, c1⟩
set_option maxHeartbeats 400000 in
theorem touch_far (f m n : Nat) (hf : f < 65536) (hm : m < 65536) (hn : n < 65536) (h : 65536 ≤ f + m + 2 + n) (w : World) :
    Calls Try.prog 5 #[.int .u16 f, .int .u16 m, .int .u16 n] w fun e w' => e = .returned (.bool true) ∧ Below w.heap.size w w' := by
  have hi : (f : Int) + m + 1 + 1 + n ≥ 65536 := by omega
  have hf2 : (f : Int) < 65536 := by omega
  have hm2 : (m : Int) < 65536 := by omega
  have hn2 : (n : Int) < 65536 := by omega
  clear h hf hm hn
  go_enter Try.func5, Try.ntmps5
  go_wp2_with (go_at_call 6; refine (known_any _).mono ?_; rintro e w1 ⟨rfl, b1⟩; have B1 := Lib.hid b1; clear b1)
  go_ret
  exact ⟨rfl, B1.out⟩
set_option maxHeartbeats 8000000 in
set_option maxRecDepth 100000 in
theorem touch_near (f m n : Nat) (h : f + m + 2 + n < 65536) (w : World) :
    Calls Try.prog 5 #[.int .u16 f, .int .u16 m, .int .u16 n] w fun e w' => e = .returned (.bool true) ∧ Below w.heap.size w w' := by
  have hi : ¬ (f : Int) + m + 1 + 1 + n ≥ 65536 := by omega
  have hd : decide ((f : Int) + m + 1 + 1 + n ≥ 65536) = false := decide_eq_false (by omega)
  have hf2 : (f : Int) < 65536 := by omega
  have hm2 : (m : Int) < 65536 := by omega
  have hn2 : (n : Int) < 65536 := by omega
  obtain ⟨g, hg⟩ : ∃ g, g = f + m + 1 := ⟨_, rfl⟩
  obtain ⟨q, hq⟩ : ∃ q, q = f + m + 2 := ⟨_, rfl⟩
  obtain ⟨s, hs⟩ : ∃ s, s = m + n := ⟨_, rfl⟩
  obtain ⟨t, ht⟩ : ∃ t, t = m + n + 1 := ⟨_, rfl⟩
  have w1 : IntKind.u16.wrap ((f : Int) + m + 1) = (g : Int) := by simp [IntKind.wrap, IntKind.bits, IntKind.signed]; omega
  have w2 : IntKind.u16.wrap ((f : Int) + m + 1 + 1) = (q : Int) := by simp [IntKind.wrap, IntKind.bits, IntKind.signed]; omega
  have w3 : IntKind.u16.wrap ((m : Int) + n) = (s : Int) := by simp [IntKind.wrap, IntKind.bits, IntKind.signed]; omega
  have w4 : IntKind.u16.wrap ((s : Int) + 1) = (t : Int) := by simp [IntKind.wrap, IntKind.bits, IntKind.signed]; omega
  have H := Lib.hid h
  have HG := Lib.hid hg
  have HQ := Lib.hid hq
  have HT := Lib.hid ht
  have HS := Lib.hid hs
  have A := Lib.hid (show ∀ W, Gs2 eR W 0 W.heap.size (.slice none 0 0) [] from fun W => Gs2.nil_ _ _ _)
  clear h hg hq ht hs A
  go_enter Try.func5, Try.ntmps5
  have GA := Lib.hid (((lit1 w (b := w.heap.size) rfl (f := f) (m := m) (by omega) (by omega)).step (alloc_below _ (.cells #[.int .u16 (g : Int), .int .u16 (n : Int)] eR.E))).step (alloc_below _ (.cells #[.int .u16 (q : Int), .int .u16 (n : Int)] eR.E)))
  have GB := Lib.hid ((lit1 (w.alloc (.cells #[.int .u16 (f : Int), .int .u16 (m : Int)] eR.E)) (b := w.heap.size + 1) (by simp) (f := g) (m := n) (by have := HG.out; have := H.out; omega) (by omega)).step (alloc_below _ (.cells #[.int .u16 (q : Int), .int .u16 (n : Int)] eR.E)))
  have GC := Lib.hid (lit1 ((w.alloc (.cells #[.int .u16 (f : Int), .int .u16 (m : Int)] eR.E)).alloc (.cells #[.int .u16 (g : Int), .int .u16 (n : Int)] eR.E)) (b := w.heap.size + 1 + 1) (by simp) (f := q) (m := n) (by have := HQ.out; have := H.out; omega) (by omega))
  have B0 := Lib.hid (below_both (below_both (alloc_below w (.cells #[.int .u16 (f : Int), .int .u16 (m : Int)] eR.E)) (alloc_below _ (.cells #[.int .u16 (g : Int), .int .u16 (n : Int)] eR.E))) (alloc_below _ (.cells #[.int .u16 (q : Int), .int .u16 (n : Int)] eR.E)))
  have hOr1 : pd fOr [ru f m] [ru g n] = [ru f t] := by rw [HG.out, HT.out]; exact or_touch (by have := H.out; omega)
  have hOr2 : pd fOr [ru q n] [ru f m] = [ru f m, ru q n] := by rw [HQ.out]; exact or_apart (by have := H.out; omega)
  have hM2 : mayr 0 [ru f m, ru q n] = true := may_two (by have := HQ.out; omega) (by have := HQ.out; have := H.out; omega)
  have hM1 : mayr 0 [ru f m, ru g n] = false := by rw [HG.out]; exact may_touch (by have := H.out; omega)
  have HO1 := Lib.hid hOr1
  have HO2 := Lib.hid hOr2
  have HM1 := Lib.hid hM1
  have HM2 := Lib.hid hM2
  clear hOr1 hOr2 hM1 hM2
  go_wp2_with fail
  refine (ror_any _ _ [ru f m] [ru g n] _ GA.out GB.out (by simp) (by simp)).mono ?_
  rw [HO1.out]
  rintro e w4 ⟨v4, rfl, o4, b4⟩
  have B4 := Lib.hid b4
  have O4 := Lib.hid (o4.sl.more (Nat.zero_le _) (Nat.le_refl _))
  have GA4 := Lib.hid (GA.out.step b4)
  have GB4 := Lib.hid (GB.out.step b4)
  have GC4 := Lib.hid (GC.out.step b4)
  clear o4 b4 GA GB GC
  go_wp2_with fail
  refine (ror_any _ _ [ru q n] [ru f m] _ GC4.out GA4.out (by simp) (by simp)).mono ?_
  rw [HO2.out]
  rintro e w5 ⟨v5, rfl, o5, b5⟩
  have B5 := Lib.hid (below_both (below_both B0.out B4.out) b5)
  have one := O4.out.step b5
  have two := o5.sl.more (Nat.zero_le _) (Nat.le_refl _)
  have ga := GA4.out.step b5
  have gb := GB4.out.step b5
  have gc := GC4.out.step b5
  have TWO := Lib.hid two
  clear b5 o5 O4 GA4 GB4 GC4 B4 B0
  obtain ⟨A4, c4, rfl, -⟩ := id one
  obtain ⟨A5, c5, rfl, -⟩ := id two
  obtain ⟨b1, x1, rfl, hb1, p0, p1⟩ := ru_cells one (k := 0) (f := f) (m := t) (by omega) (by have := HT.out; have := H.out; omega) rfl
  obtain ⟨b2, x2, rfl, hb2, q0, q1⟩ := ru_cells two (k := 0) (f := f) (m := m) (by omega) (by omega) rfl
  obtain ⟨b3, x3, e3, hb3, q2, q3⟩ := ru_cells two (k := 1) (f := q) (m := n) (by have := HQ.out; have := H.out; omega) (by omega) rfl
  obtain ⟨rfl, rfl, -⟩ := Addr.mk.inj (Option.some.inj e3)
  obtain ⟨_, _, ea, hba, a0, a1⟩ := ru_cells ga (k := 0) (f := f) (m := m) (by omega) (by omega) rfl
  obtain ⟨rfl, rfl, -⟩ := Addr.mk.inj (Option.some.inj ea)
  obtain ⟨_, _, eb, hbb, d0, d1⟩ := ru_cells gb (k := 0) (f := g) (m := n) (by have := HG.out; have := H.out; omega) (by omega) rfl
  obtain ⟨rfl, rfl, -⟩ := Addr.mk.inj (Option.some.inj eb)
  obtain ⟨_, _, ec, hbc, g0, g1⟩ := ru_cells gc (k := 0) (f := q) (m := n) (by have := HQ.out; have := H.out; omega) (by omega) rfl
  obtain ⟨rfl, rfl, -⟩ := Addr.mk.inj (Option.some.inj ec)
  simp only [Nat.zero_mul, Nat.one_mul, Nat.add_zero, Nat.zero_add] at p0 p1 q0 q1 q2 q3 a0 a1 d0 d1 g0 g1
  have CE := Lib.hid (And.intro (And.intro hb1 (And.intro p0 p1)) (And.intro (And.intro hb2 (And.intro q0 q1)) (And.intro (And.intro hb2 (And.intro q2 q3)) (And.intro (And.intro hba (And.intro a0 a1)) (And.intro (And.intro hbb (And.intro d0 d1)) (And.intro hbc (And.intro g0 g1)))))))
  clear one two ga gb gc hb1 hb2 hb3 hba hbb hbc p0 p1 q0 q1 q2 q3 a0 a1 d0 d1 g0 g1
  go_wp2_with fail
  have hSc : Below w5.heap.size w5 w5.drew := (Below.refl _ _).drew
  refine wp_region_held_drew (S := fun W => Below w5.heap.size w5 W) (by kernel_rfl) hSc (fun _ => ?_)
  refine held_take 0 ?_ rfl (by kernel_rfl) (by kernel_rfl) (by kernel_rfl) (fun _ _ _ h => h) (by rfl) ?_ hSc ?_
  rotate_left
  · (intro W hSW; go_simp; try rfl)
  try simp only [Act.put, List.setIfInBounds_toArray, List.set_cons_zero, List.set_cons_succ]
  refine held_take 1 ?_ rfl (by kernel_rfl) (by kernel_rfl) (by kernel_rfl) (fun _ _ _ h => h) (by rfl) ?_ hSc ?_
  rotate_left
  · (intro W hSW; go_simp; try rfl)
  try simp only [Act.put, List.setIfInBounds_toArray, List.set_cons_zero, List.set_cons_succ]
  refine held_take 2 ?_ rfl (by kernel_rfl) (by kernel_rfl) (by kernel_rfl) (fun _ _ _ h => h) (by rfl) ?_ hSc ?_
  rotate_left
  · (intro W hSW; go_simp; try rfl)
  try simp only [Act.put, List.setIfInBounds_toArray, List.set_cons_zero, List.set_cons_succ]
  refine held_take 3 ?_ rfl (by kernel_rfl) (by kernel_rfl) (by kernel_rfl) (fun _ _ _ h => h) (by rfl) ?_ hSc ?_
  rotate_left
  · (intro W hSW; go_simp; try rfl)
  try simp only [Act.put, List.setIfInBounds_toArray, List.set_cons_zero, List.set_cons_succ]
  refine held_take 4 ?_ rfl (by kernel_rfl) (by kernel_rfl) (by kernel_rfl) (fun _ _ _ h => h) (by rfl) ?_ hSc ?_
  rotate_left
  · (intro W hSW; go_simp; try rfl)
  try simp only [Act.put, List.setIfInBounds_toArray, List.set_cons_zero, List.set_cons_succ]
  refine held_take 5 ?_ rfl (by kernel_rfl) (by kernel_rfl) (by kernel_rfl) (fun _ _ _ h => h) (by rfl) ?_ hSc ?_
  rotate_left
  · (intro W hSW; go_simp; try rfl)
  try simp only [Act.put, List.setIfInBounds_toArray, List.set_cons_zero, List.set_cons_succ]
  refine held_take 6 ?_ rfl (by kernel_rfl) (by kernel_rfl) (by kernel_rfl) (fun _ _ _ h => h) (by rfl) ?_ hSc ?_
  rotate_left
  · (intro W hSW; obtain ⟨hbx, ca, cb⟩ := CE.out.1; have ca2 := (hSW.cell hbx).trans ca; have cb2 := (hSW.cell hbx).trans cb; clear ca cb hbx; go_simp; try rfl)
  try simp only [Act.put, List.setIfInBounds_toArray, List.set_cons_zero, List.set_cons_succ]
  refine held_take 7 ?_ rfl (by kernel_rfl) (by kernel_rfl) (by kernel_rfl) (fun _ _ _ h => h) (by rfl) ?_ hSc ?_
  rotate_left
  · (intro W hSW; go_simp; try rfl)
  try simp only [Act.put, List.setIfInBounds_toArray, List.set_cons_zero, List.set_cons_succ]
  refine held_take 8 ?_ rfl (by kernel_rfl) (by kernel_rfl) (by kernel_rfl) (fun _ _ _ h => h) (by rfl) ?_ hSc ?_
  rotate_left
  · (intro W hSW; go_simp; try rfl)
  try simp only [Act.put, List.setIfInBounds_toArray, List.set_cons_zero, List.set_cons_succ]
  refine held_take 9 ?_ rfl (by kernel_rfl) (by kernel_rfl) (by kernel_rfl) (fun _ _ _ h => h) (by rfl) ?_ hSc ?_
  rotate_left
  · (intro W hSW; go_simp; try rfl)
  try simp only [Act.put, List.setIfInBounds_toArray, List.set_cons_zero, List.set_cons_succ]
  refine held_take 10 ?_ rfl (by kernel_rfl) (by kernel_rfl) (by kernel_rfl) (fun _ _ _ h => h) (by rfl) ?_ hSc ?_
  rotate_left
  · (intro W hSW; go_simp; try rfl)
  try simp only [Act.put, List.setIfInBounds_toArray, List.set_cons_zero, List.set_cons_succ]
  refine held_take 11 ?_ rfl (by kernel_rfl) (by kernel_rfl) (by kernel_rfl) (fun _ _ _ h => h) (by rfl) ?_ hSc ?_
  rotate_left
  · (intro W hSW; go_simp; try rfl)
  try simp only [Act.put, List.setIfInBounds_toArray, List.set_cons_zero, List.set_cons_succ]
  refine held_take 12 ?_ rfl (by kernel_rfl) (by kernel_rfl) (by kernel_rfl) (fun _ _ _ h => h) (by rfl) ?_ hSc ?_
  rotate_left
  · (intro W hSW; go_simp; try rfl)
  try simp only [Act.put, List.setIfInBounds_toArray, List.set_cons_zero, List.set_cons_succ]
  refine held_take 13 ?_ rfl (by kernel_rfl) (by kernel_rfl) (by kernel_rfl) (fun _ _ _ h => h) (by rfl) ?_ hSc ?_
  rotate_left
  · (intro W hSW; go_simp; try rfl)
  try simp only [Act.put, List.setIfInBounds_toArray, List.set_cons_zero, List.set_cons_succ]
  refine held_take 14 ?_ rfl (by kernel_rfl) (by kernel_rfl) (by kernel_rfl) (fun _ _ _ h => h) (by rfl) ?_ hSc ?_
  rotate_left
  · (intro W hSW; go_simp; try rfl)
  try simp only [Act.put, List.setIfInBounds_toArray, List.set_cons_zero, List.set_cons_succ]
  refine held_take 15 ?_ rfl (by kernel_rfl) (by kernel_rfl) (by kernel_rfl) (fun _ _ _ h => h) (by rfl) ?_ hSc ?_
  rotate_left
  · (intro W hSW; go_simp; try rfl)
  try simp only [Act.put, List.setIfInBounds_toArray, List.set_cons_zero, List.set_cons_succ]
  refine held_take 16 ?_ rfl (by kernel_rfl) (by kernel_rfl) (by kernel_rfl) (fun _ _ _ h => h) (by rfl) ?_ hSc ?_
  rotate_left
  · (intro W hSW; go_simp; try rfl)
  try simp only [Act.put, List.setIfInBounds_toArray, List.set_cons_zero, List.set_cons_succ]
  refine held_take 17 ?_ rfl (by kernel_rfl) (by kernel_rfl) (by kernel_rfl) (fun _ _ _ h => h) (by rfl) ?_ hSc ?_
  rotate_left
  · (intro W hSW; go_simp; try rfl)
  try simp only [Act.put, List.setIfInBounds_toArray, List.set_cons_zero, List.set_cons_succ]
  refine held_take 18 ?_ rfl (by kernel_rfl) (by kernel_rfl) (by kernel_rfl) (fun _ _ _ h => h) (by rfl) ?_ hSc ?_
  rotate_left
  · (intro W hSW; go_simp; try rfl)
  try simp only [Act.put, List.setIfInBounds_toArray, List.set_cons_zero, List.set_cons_succ]
  refine held_take 19 ?_ rfl (by kernel_rfl) (by kernel_rfl) (by kernel_rfl) (fun _ _ _ h => h) (by rfl) ?_ hSc ?_
  rotate_left
  · (intro W hSW; go_simp; try rfl)
  try simp only [Act.put, List.setIfInBounds_toArray, List.set_cons_zero, List.set_cons_succ]
  refine held_take 20 ?_ rfl (by kernel_rfl) (by kernel_rfl) (by kernel_rfl) (fun _ _ _ h => h) (by rfl) ?_ hSc ?_
  rotate_left
  · (intro W hSW; go_simp; try rfl)
  try simp only [Act.put, List.setIfInBounds_toArray, List.set_cons_zero, List.set_cons_succ]
  refine held_take 21 ?_ rfl (by kernel_rfl) (by kernel_rfl) (by kernel_rfl) (fun _ _ _ h => h) (by rfl) ?_ hSc ?_
  rotate_left
  · (intro W hSW; go_simp; try rfl)
  try simp only [Act.put, List.setIfInBounds_toArray, List.set_cons_zero, List.set_cons_succ]
  refine held_take 22 ?_ rfl (by kernel_rfl) (by kernel_rfl) (by kernel_rfl) (fun _ _ _ h => h) (by rfl) ?_ hSc ?_
  rotate_left
  · (intro W hSW; go_simp; try rfl)
  try simp only [Act.put, List.setIfInBounds_toArray, List.set_cons_zero, List.set_cons_succ]
  refine held_take 23 ?_ rfl (by kernel_rfl) (by kernel_rfl) (by kernel_rfl) (fun _ _ _ h => h) (by rfl) ?_ hSc ?_
  rotate_left
  · (intro W hSW; obtain ⟨hbx, ca, cb⟩ := CE.out.2.1; have ca2 := (hSW.cell hbx).trans ca; have cb2 := (hSW.cell hbx).trans cb; clear ca cb hbx; go_simp; try rfl)
  try simp only [Act.put, List.setIfInBounds_toArray, List.set_cons_zero, List.set_cons_succ]
  refine held_take 24 ?_ rfl (by kernel_rfl) (by kernel_rfl) (by kernel_rfl) (fun _ _ _ h => h) (by rfl) ?_ hSc ?_
  rotate_left
  · (intro W hSW; go_simp; try rfl)
  try simp only [Act.put, List.setIfInBounds_toArray, List.set_cons_zero, List.set_cons_succ]
  refine held_take 25 ?_ rfl (by kernel_rfl) (by kernel_rfl) (by kernel_rfl) (fun _ _ _ h => h) (by rfl) ?_ hSc ?_
  rotate_left
  · (intro W hSW; go_simp; try rfl)
  try simp only [Act.put, List.setIfInBounds_toArray, List.set_cons_zero, List.set_cons_succ]
  refine held_take 26 ?_ rfl (by kernel_rfl) (by kernel_rfl) (by kernel_rfl) (fun _ _ _ h => h) (by rfl) ?_ hSc ?_
  rotate_left
  · (intro W hSW; obtain ⟨hbx, ca, cb⟩ := CE.out.2.2.2.1; have ca2 := (hSW.cell hbx).trans ca; have cb2 := (hSW.cell hbx).trans cb; clear ca cb hbx; go_simp; try rfl)
  try simp only [Act.put, List.setIfInBounds_toArray, List.set_cons_zero, List.set_cons_succ]
  refine held_take 27 ?_ rfl (by kernel_rfl) (by kernel_rfl) (by kernel_rfl) (fun _ _ _ h => h) (by rfl) ?_ hSc ?_
  rotate_left
  · (intro W hSW; go_simp; try rfl)
  try simp only [Act.put, List.setIfInBounds_toArray, List.set_cons_zero, List.set_cons_succ]
  refine held_take 28 ?_ rfl (by kernel_rfl) (by kernel_rfl) (by kernel_rfl) (fun _ _ _ h => h) (by rfl) ?_ hSc ?_
  rotate_left
  · (intro W hSW; go_simp; try rfl)
  try simp only [Act.put, List.setIfInBounds_toArray, List.set_cons_zero, List.set_cons_succ]
  refine held_take 29 ?_ rfl (by kernel_rfl) (by kernel_rfl) (by kernel_rfl) (fun _ _ _ h => h) (by rfl) ?_ hSc ?_
  rotate_left
  · (intro W hSW; go_simp; try rfl)
  try simp only [Act.put, List.setIfInBounds_toArray, List.set_cons_zero, List.set_cons_succ]
  refine held_take 30 ?_ rfl (by kernel_rfl) (by kernel_rfl) (by kernel_rfl) (fun _ _ _ h => h) (by rfl) ?_ hSc ?_
  rotate_left
  · (intro W hSW; go_simp; try rfl)
  try simp only [Act.put, List.setIfInBounds_toArray, List.set_cons_zero, List.set_cons_succ]
  refine held_take 31 ?_ rfl (by kernel_rfl) (by kernel_rfl) (by kernel_rfl) (fun _ _ _ h => h) (by rfl) ?_ hSc ?_
  rotate_left
  · (intro W hSW; go_simp; try rfl)
  try simp only [Act.put, List.setIfInBounds_toArray, List.set_cons_zero, List.set_cons_succ]
  refine held_take 32 ?_ rfl (by kernel_rfl) (by kernel_rfl) (by kernel_rfl) (fun _ _ _ h => h) (by rfl) ?_ hSc ?_
  rotate_left
  · (intro W hSW; obtain ⟨hbx, ca, cb⟩ := CE.out.2.2.1; have ca2 := (hSW.cell hbx).trans ca; have cb2 := (hSW.cell hbx).trans cb; clear ca cb hbx; go_simp; try rfl)
  try simp only [Act.put, List.setIfInBounds_toArray, List.set_cons_zero, List.set_cons_succ]
  refine held_take 33 ?_ rfl (by kernel_rfl) (by kernel_rfl) (by kernel_rfl) (fun _ _ _ h => h) (by rfl) ?_ hSc ?_
  rotate_left
  · (intro W hSW; go_simp; try rfl)
  try simp only [Act.put, List.setIfInBounds_toArray, List.set_cons_zero, List.set_cons_succ]
  refine held_take 34 ?_ rfl (by kernel_rfl) (by kernel_rfl) (by kernel_rfl) (fun _ _ _ h => h) (by rfl) ?_ hSc ?_
  rotate_left
  · (intro W hSW; go_simp; try rfl)
  try simp only [Act.put, List.setIfInBounds_toArray, List.set_cons_zero, List.set_cons_succ]
  refine held_take 35 ?_ rfl (by kernel_rfl) (by kernel_rfl) (by kernel_rfl) (fun _ _ _ h => h) (by rfl) ?_ hSc ?_
  rotate_left
  · (intro W hSW; obtain ⟨hbx, ca, cb⟩ := CE.out.2.2.2.2.2; have ca2 := (hSW.cell hbx).trans ca; have cb2 := (hSW.cell hbx).trans cb; clear ca cb hbx; go_simp; try rfl)
  try simp only [Act.put, List.setIfInBounds_toArray, List.set_cons_zero, List.set_cons_succ]
  refine held_take 36 ?_ rfl (by kernel_rfl) (by kernel_rfl) (by kernel_rfl) (fun _ _ _ h => h) (by rfl) ?_ hSc ?_
  rotate_left
  · (intro W hSW; go_simp; try rfl)
  try simp only [Act.put, List.setIfInBounds_toArray, List.set_cons_zero, List.set_cons_succ]
  refine held_take 37 ?_ rfl (by kernel_rfl) (by kernel_rfl) (by kernel_rfl) (fun _ _ _ h => h) (by rfl) ?_ hSc ?_
  rotate_left
  · (intro W hSW; go_simp; try rfl)
  try simp only [Act.put, List.setIfInBounds_toArray, List.set_cons_zero, List.set_cons_succ]
  refine held_take 38 ?_ rfl (by kernel_rfl) (by kernel_rfl) (by kernel_rfl) (fun _ _ _ h => h) (by rfl) ?_ hSc ?_
  rotate_left
  · (intro W hSW; go_simp; try rfl)
  try simp only [Act.put, List.setIfInBounds_toArray, List.set_cons_zero, List.set_cons_succ]
  refine held_take 39 ?_ rfl (by kernel_rfl) (by kernel_rfl) (by kernel_rfl) (fun _ _ _ h => h) (by rfl) ?_ hSc ?_
  rotate_left
  · (intro W hSW; go_simp; try rfl)
  try simp only [Act.put, List.setIfInBounds_toArray, List.set_cons_zero, List.set_cons_succ]
  refine held_next 40 rfl (by kernel_rfl) (by rfl) ?_
  go_simp
  refine (rmay_any _ [ru f m, ru q n] _ (TWO.out.step hSc)).mono ?_
  rw [HM2.out]
  rintro e wq1 ⟨rfl, bq⟩
  have hbq : Below w5.heap.size w5 wq1 := hSc.trans (bq.mono hSc.size)
  refine ⟨fun W => Below w5.heap.size w5 W, fun W hW => hW, hbq, ?_⟩
  clear hSc bq
  have hSc : Below w5.heap.size w5 wq1 := hbq
  clear hbq
  try simp only [Act.put, List.setIfInBounds_toArray, List.set_cons_zero, List.set_cons_succ]
  refine held_take 41 ?_ rfl (by kernel_rfl) (by kernel_rfl) (by kernel_rfl) (fun _ _ _ h => h) (by rfl) ?_ hSc ?_
  rotate_left
  · (intro W hSW; go_simp; try rfl)
  try simp only [Act.put, List.setIfInBounds_toArray, List.set_cons_zero, List.set_cons_succ]
  refine held_take 42 ?_ rfl (by kernel_rfl) (by kernel_rfl) (by kernel_rfl) (fun _ _ _ h => h) (by rfl) ?_ hSc ?_
  rotate_left
  · (intro W hSW; go_simp; try rfl)
  try simp only [Act.put, List.setIfInBounds_toArray, List.set_cons_zero, List.set_cons_succ]
  refine held_take 43 ?_ rfl (by kernel_rfl) (by kernel_rfl) (by kernel_rfl) (fun _ _ _ h => h) (by rfl) ?_ hSc ?_
  rotate_left
  · (intro W hSW; go_simp; try rfl)
  try simp only [Act.put, List.setIfInBounds_toArray, List.set_cons_zero, List.set_cons_succ]
  refine held_take 44 ?_ rfl (by kernel_rfl) (by kernel_rfl) (by kernel_rfl) (fun _ _ _ h => h) (by rfl) ?_ hSc ?_
  rotate_left
  · (intro W hSW; go_simp; try rfl)
  try simp only [Act.put, List.setIfInBounds_toArray, List.set_cons_zero, List.set_cons_succ]
  refine held_take 45 ?_ rfl (by kernel_rfl) (by kernel_rfl) (by kernel_rfl) (fun _ _ _ h => h) (by rfl) ?_ hSc ?_
  rotate_left
  · (intro W hSW; obtain ⟨hbx, ca, cb⟩ := CE.out.2.2.2.1; have ca2 := (hSW.cell hbx).trans ca; have cb2 := (hSW.cell hbx).trans cb; clear ca cb hbx; go_simp; try rfl)
  try simp only [Act.put, List.setIfInBounds_toArray, List.set_cons_zero, List.set_cons_succ]
  refine held_take 46 ?_ rfl (by kernel_rfl) (by kernel_rfl) (by kernel_rfl) (fun _ _ _ h => h) (by rfl) ?_ hSc ?_
  rotate_left
  · (intro W hSW; go_simp; try rfl)
  try simp only [Act.put, List.setIfInBounds_toArray, List.set_cons_zero, List.set_cons_succ]
  refine held_take 47 ?_ rfl (by kernel_rfl) (by kernel_rfl) (by kernel_rfl) (fun _ _ _ h => h) (by rfl) ?_ hSc ?_
  rotate_left
  · (intro W hSW; go_simp; try rfl)
  try simp only [Act.put, List.setIfInBounds_toArray, List.set_cons_zero, List.set_cons_succ]
  refine held_take 48 ?_ rfl (by kernel_rfl) (by kernel_rfl) (by kernel_rfl) (fun _ _ _ h => h) (by rfl) ?_ hSc ?_
  rotate_left
  · (intro W hSW; obtain ⟨hbx, ca, cb⟩ := CE.out.2.2.2.2.1; have ca2 := (hSW.cell hbx).trans ca; have cb2 := (hSW.cell hbx).trans cb; clear ca cb hbx; go_simp; try rfl)
  try simp only [Act.put, List.setIfInBounds_toArray, List.set_cons_zero, List.set_cons_succ]
  refine held_next 49 rfl (by kernel_rfl) (by rfl) ?_
  go_simp
  refine ⟨fun W => Below w5.heap.size w5 W, fun W hW => hW, hSc.alloc hSc.size _, ?_⟩
  have hSd := hSc.alloc hSc.size (.cells #[.int .u16 (f : Int), .int .u16 (m : Int), .int .u16 (g : Int), .int .u16 (n : Int)] eR.E)
  clear hSc
  have hSc := hSd
  clear hSd
  try simp only [Act.put, List.setIfInBounds_toArray, List.set_cons_zero, List.set_cons_succ]
  refine held_next 50 rfl (by kernel_rfl) (by rfl) ?_
  go_simp
  refine (rmay_any _ [ru f m, ru g n] _ (lit2 _ (by omega) (by omega) (by have := HG.out; have := H.out; omega) (by omega))).mono ?_
  rw [HM1.out]
  rintro e wq2 ⟨rfl, bq⟩
  have hbq : Below w5.heap.size w5 wq2 := hSc.trans (bq.mono hSc.size)
  refine ⟨fun W => Below w5.heap.size w5 W, fun W hW => hW, hbq, ?_⟩
  clear hSc bq
  have hSc : Below w5.heap.size w5 wq2 := hbq
  clear hbq
  try simp only [Act.put, List.setIfInBounds_toArray, List.set_cons_zero, List.set_cons_succ]
  refine held_take 51 ?_ rfl (by kernel_rfl) (by kernel_rfl) (by kernel_rfl) (fun _ _ _ h => h) (by rfl) ?_ hSc ?_
  rotate_left
  · (intro W hSW; go_simp; try rfl)
  try simp only [Act.put, List.setIfInBounds_toArray, List.set_cons_zero, List.set_cons_succ]
  refine held_take 52 ?_ rfl (by kernel_rfl) (by kernel_rfl) (by kernel_rfl) (fun _ _ _ h => h) (by rfl) ?_ hSc ?_
  rotate_left
  · (intro W hSW; go_simp; try rfl)
  try simp only [Act.put, List.setIfInBounds_toArray, List.set_cons_zero, List.set_cons_succ]
  refine held_take 53 ?_ rfl (by kernel_rfl) (by kernel_rfl) (by kernel_rfl) (fun _ _ _ h => h) (by rfl) ?_ hSc ?_
  rotate_left
  · (intro W hSW; go_simp; try rfl)
  try simp only [Act.put, List.setIfInBounds_toArray, List.set_cons_zero, List.set_cons_succ]
  refine held_next 54 rfl (by kernel_rfl) (by rfl) ?_
  go_simp
  refine (known_any _).mono ?_
  rintro e wq3 ⟨rfl, bq⟩
  have hbq : Below w5.heap.size w5 wq3 := hSc.trans (bq.mono hSc.size)
  refine ⟨fun W => Below w5.heap.size w5 W, fun W hW => hW, hbq, ?_⟩
  clear hSc bq
  have hSc : Below w5.heap.size w5 wq3 := hbq
  clear hbq
  try simp only [Act.put, List.setIfInBounds_toArray, List.set_cons_zero, List.set_cons_succ]
  refine held_take 55 ?_ rfl (by kernel_rfl) (by kernel_rfl) (by kernel_rfl) (fun _ _ _ h => h) (by rfl) ?_ hSc ?_
  rotate_left
  · (intro W hSW; go_simp; try rfl)
  try simp only [Act.put, List.setIfInBounds_toArray, List.set_cons_zero, List.set_cons_succ]
  refine held_next 56 rfl (by kernel_rfl) (by rfl) ?_
  go_simp
  refine ⟨fun W => Below w5.heap.size w5 W, fun W hW => hW, hSc, ?_⟩
  refine wpAnyH_done (by kernel_rfl) ?_ _
  go_wp2
  go_ret
  exact ⟨rfl, below_both B5.out hSc⟩
theorem touch_any (a0 a1 a2 : Int) (w0 : (Lit.int .u16 a0).wf = true) (w1 : (Lit.int .u16 a1).wf = true) (w2 : (Lit.int .u16 a2).wf = true) (w : World) :
    Calls Try.prog 5 #[.int .u16 a0, .int .u16 a1, .int .u16 a2] w fun e w' => e = .returned (.bool true) ∧ Below w.heap.size w w' := by
  simp [Lit.wf, IntKind.min, IntKind.max, IntKind.bits, IntKind.signed] at w0 w1 w2
  obtain ⟨f, rfl⟩ : ∃ f : Nat, a0 = (f : Int) := ⟨a0.toNat, by omega⟩
  obtain ⟨m, rfl⟩ : ∃ m : Nat, a1 = (m : Int) := ⟨a1.toNat, by omega⟩
  obtain ⟨n, rfl⟩ : ∃ n : Nat, a2 = (n : Int) := ⟨a2.toNat, by omega⟩
  rcases Nat.lt_or_ge (f + m + 2 + n) 65536 with h | h
  · exact touch_near f m n h w
  · exact touch_far f m n (by omega) (by omega) (by omega) h w
end Go.Proofs.Ytgkelfhmpeakkaa
