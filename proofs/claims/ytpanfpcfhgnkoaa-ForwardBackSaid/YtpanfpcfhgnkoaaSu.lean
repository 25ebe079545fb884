/- Walks: the law ForwardBack. -/
import Derived.Test.YtpanfpcfhgnkoaaSx
import Derived.Test.YtpanfpcfhgnkoaaSl
namespace Go.Proofs.Ytpanfpcfhgnkoaa
open Go.RowKit
set_option linter.unusedVariables false

set_option maxHeartbeats 2000000 in
set_option maxRecDepth 100000 in
theorem back_long (A : Option Addr) (n c : Nat) (many rows others : Int) (w : World) (h : 300 < n) : Calls Try.prog 6 #[.slice A n c, .int .i64 many, .int .i64 rows, .int .i64 others] w fun e w' => e = .returned (.bool true) ∧ Below w.heap.size w w' := by
  have d2 : decide ((300 : Int) < (n : Int)) = true := decide_eq_true (by omega)
  clear h
  go_enter Try.func6, Try.ntmps6
  go_wp2_with (go_at_call 8; refine (known12_any _).mono ?_; rintro e w9 ⟨rfl, b9⟩; have B9 := Lib.hid b9; clear b9)
  go_ret
  exact ⟨rfl, B9.out⟩
set_option maxHeartbeats 2000000 in
set_option maxRecDepth 100000 in
theorem back_no (A : Option Addr) (c : Nat) (zs : List Int) (many rows others : Int) (w : World) (hG : Gs eI w 0 w.heap.size (.slice A zs.length c) zs) (hn : zs.length ≤ 300) (h0 : ofE zs many ≠ 0) : Calls Try.prog 6 #[.slice A zs.length c, .int .i64 many, .int .i64 rows, .int .i64 others] w fun e w' => e = .returned (.bool true) ∧ Below w.heap.size w w' := by
  have d2 : decide ((300 : Int) < (zs.length : Int)) = false := decide_eq_false (by omega)
  obtain ⟨E, hE⟩ : ∃ E, ofE zs many = E := ⟨_, rfl⟩
  rw [hE] at h0
  have HO := Lib.hid ((of_any A c zs many w hG (by omega)).mono (R' := fun e w' => e = .returned (.tuple #[.pointer none, .int .i64 E]) ∧ Below w.heap.size w w') fun e w' ⟨p, h1, _, h3, h4⟩ => ⟨by rw [h1, h3 (by rw [hE]; exact h0), hE], h4⟩)
  have e2 : (E != 0) = true := by simp [h0]
  clear h0 hE hG hn
  go_enter Try.func6, Try.ntmps6
  go_wp2_with (first
    | (go_at_call 9; refine HO.out.mono ?_; rintro e w1 ⟨rfl, b1⟩; have B1 := Lib.hid b1; clear b1)
    | (go_at_call 8; refine (known12_any _).mono ?_; rintro e w9 ⟨rfl, b9⟩; have B9 := Lib.hid (B1.out.trans (b9.mono B1.out.size)); clear b9))
  go_ret
  exact ⟨rfl, B9.out⟩
set_option maxHeartbeats 4000000 in
set_option maxRecDepth 100000 in
theorem back_same (A : Option Addr) (c : Nat) (zs : List Int) (many rows others : Int) (w : World) (hG : Gs eI w 0 w.heap.size (.slice A zs.length c) zs) (hn : zs.length ≤ 300) (h0 : ofE zs many = 0) (h1 : rows = zs.length) (h2 : others = many) : Calls Try.prog 6 #[.slice A zs.length c, .int .i64 many, .int .i64 rows, .int .i64 others] w fun e w' => e = .returned (.bool true) ∧ Below w.heap.size w w' := by
  have d2 : decide ((300 : Int) < (zs.length : Int)) = false := decide_eq_false (by omega)
  have hmy := of_ok h0
  have HO := Lib.hid ((of_any A c zs many w hG (by omega)).mono (R' := fun e w' => ∃ g Ai ci, e = .returned (.tuple #[.pointer (some ⟨g, 0, none⟩), .int .i64 0]) ∧ IxM w' g Ai ci zs many ∧ Below w.heap.size w w') fun e w' ⟨p, h1, h2, _, h4⟩ => by
    obtain ⟨g, Ai, ci, hp, hm⟩ := h2 h0
    exact ⟨g, Ai, ci, by rw [h1, hp, h0], hm.m, h4⟩)
  have hRB := back_E hmy.1 hmy.2 (by omega)
  have hRL := back_L hmy.1 hmy.2 (by omega)
  have hRO := (show rdE (iB zs many) rows others = 0 by rw [h1, h2]; exact hRB)
  have hRM := back_more hmy.1 (by omega) 0
  have hRS := back_less hmy.1 (by omega)
  have hBL := iB_len zs many
  have hPS := iP_small (zs := zs) (many := many) (by rcases mayM_iff.1 hmy.1 with h | h <;> omega)
  have hcb := fun g Ai ci W (h : IxM W g Ai ci zs many) => bytes_c g Ai ci zs many W h
  have hr1 := fun Ab db W (h : Gs e8 W 0 W.heap.size (.slice Ab (iB zs many).length db) (iB zs many)) => (read_any Ab db (iB zs many) zs.length many W h (by omega)).mono (R' := fun e w' => ∃ g A c, e = .returned (.tuple #[.pointer (some ⟨g, 0, none⟩), .int .i64 0]) ∧ IxM w' g A c zs many ∧ Below W.heap.size W w') fun e w' ⟨p, h1, h2, _, h4⟩ => by
    obtain ⟨g, A, c, hp, hm⟩ := h2 hRB
    rw [hRL] at hm
    exact ⟨g, A, c, by rw [h1, hp, hRB], hm.m, h4⟩
  have hr2 := fun Ab db W (h : Gs e8 W 0 W.heap.size (.slice Ab (iB zs many).length db) (iB zs many)) => (read_any Ab db (iB zs many) rows others W h (by omega)).mono (R' := fun e w' => ∃ p, e = .returned (.tuple #[p, .int .i64 0]) ∧ Below W.heap.size W w') fun e w' ⟨p, h1, _, _, h4⟩ => ⟨p, by rw [h1, hRO], h4⟩
  have hr3 := fun Ab db W (h : Gs e8 W 0 W.heap.size (.slice Ab (iB zs many ++ [0]).length db) (iB zs many ++ [0])) => (read_any Ab db (iB zs many ++ [0]) zs.length many W h (by rw [List.length_append]; simp; omega)).mono (R' := fun e w' => ∃ p, e = .returned (.tuple #[p, .int .i64 5]) ∧ Below W.heap.size W w') fun e w' ⟨p, h1, _, _, h4⟩ => ⟨p, by rw [h1, hRM], h4⟩
  have hr4 := fun Ab db W (h : Gs e8 W 0 W.heap.size (.slice Ab ((iB zs many).length - 1) db) ((iB zs many).take ((iB zs many).length - 1))) => (by
    have hlt : ((iB zs many).take ((iB zs many).length - 1)).length = (iB zs many).length - 1 := by rw [List.length_take]; omega
    have h2 : Gs e8 W 0 W.heap.size (.slice Ab ((iB zs many).take ((iB zs many).length - 1)).length db) ((iB zs many).take ((iB zs many).length - 1)) := by rw [hlt]; exact h
    have h3 := (read_any Ab db ((iB zs many).take ((iB zs many).length - 1)) zs.length many W h2 (by rw [hlt]; omega)).mono (R' := fun e w' => ∃ p, e = .returned (.tuple #[p, .int .i64 4]) ∧ Below W.heap.size W w') fun e w' ⟨p, h1, _, _, h4⟩ => ⟨p, by rw [h1, hRS], h4⟩
    rw [hlt] at h3
    exact h3 : Calls Try.prog 14 #[.slice Ab ((iB zs many).length - 1) db, .int .i64 (zs.length : Int), .int .i64 many] W fun e w' => ∃ p, e = .returned (.tuple #[p, .int .i64 4]) ∧ Below W.heap.size W w')
  have h9 : 9 ≤ (iB zs many).length := by omega
  have hbs : (iB zs many).length ≤ 10000 := by omega
  obtain ⟨B1, hB1⟩ : ∃ B1, iB zs many ++ [0] = B1 := ⟨_, rfl⟩
  rw [hB1] at hr3
  generalize iB zs many = B at hB1 hcb hr1 hr2 hr3 hr4 h9 hbs
  have CB := Lib.hid hcb
  have R1 := Lib.hid hr1
  have R2 := Lib.hid hr2
  have R3 := Lib.hid hr3
  have R4 := Lib.hid hr4
  have H9 := Lib.hid h9
  have HB1 := Lib.hid hB1
  clear hB1
  have d3 : decide ((B.length : Int) < 9) = false := decide_eq_false (by omega)
  have l1 : wrap64 ((B.length : Int) - 1) = (B.length : Int) - 1 := by unfold wrap64; omega
  have l2 : ((B.length : Int) - 1).toNat = B.length - 1 := by omega
  have HBS := Lib.hid hbs
  have f1 : (rows == (zs.length : Int)) = true := by simpa using h1
  have f2 : (others == many) = true := by simpa using h2
  clear h1 h2
  clear hRB hRL hRO hRM hRS hBL hPS hcb hr1 hr2 hr3 hr4 hmy h0 hG hn h9 hbs
  go_enter Try.func6, Try.ntmps6
  go_wp2_with (first
    | (go_at_call 9; refine HO.out.mono ?_; rintro e w1 ⟨g, Ai, ci, rfl, hm, b1⟩; have B1 := Lib.hid b1; have M1 := Lib.hid hm; clear b1 hm)
    | (go_at_call 21; refine (CB.out _ _ _ _ M1.out).mono ?_; rintro e w2 ⟨v2, rfl, o2, b2⟩; have B2 := Lib.hid (B1.out.trans (b2.mono B1.out.size)); have G2 := Lib.hid (o2.sl.more (Nat.zero_le _) (Nat.le_refl _)); obtain ⟨Ab, db, rfl, -⟩ := o2.sl; clear o2 b2)
    | (go_at_call 14; refine (R1.out Ab db _ G2.out).mono ?_; rintro e w3 ⟨g3, A3, c3, rfl, hm, b3⟩; have B3 := Lib.hid (B2.out.trans (b3.mono B2.out.size)); have M3 := Lib.hid hm; have G3 := Lib.hid (G2.out.step b3); clear b3 hm))
  refine wp_only ?_
  have hSc := (Below.refl w3.heap.size w3).drew
  refine wp_region_all (S := fun W => Below w3.heap.size w3 W) (by kernel_rfl) hSc (fun W0 hSc => ?_)
  refine held_take 0 ?_ rfl (by kernel_rfl) (by kernel_rfl) (by kernel_rfl) (fun _ _ _ h => h) (by rfl) ?_ hSc ?_
  rotate_left
  · (intro W hSW; go_simp; try rfl)
  try simp only [Act.put, List.setIfInBounds_toArray, List.set_cons_zero, List.set_cons_succ]
  refine held_take 1 ?_ rfl (by kernel_rfl) (by kernel_rfl) (by kernel_rfl) (fun _ _ _ h => h) (by rfl) ?_ hSc ?_
  rotate_left
  · (intro W hSW; go_simp; try rfl)
  try simp only [Act.put, List.setIfInBounds_toArray, List.set_cons_zero, List.set_cons_succ]
  refine held_take 2 ?_ rfl (by kernel_rfl) (by kernel_rfl) (by kernel_rfl) (fun _ _ _ h => h) (by rfl) ?_ hSc ?_
  rotate_left
  · (intro W hSW; go_simp; try rfl)
  try simp only [Act.put, List.setIfInBounds_toArray, List.set_cons_zero, List.set_cons_succ]
  refine held_take 3 ?_ rfl (by kernel_rfl) (by kernel_rfl) (by kernel_rfl) (fun _ _ _ h => h) (by rfl) ?_ hSc ?_
  rotate_left
  · (intro W hSW; go_simp; try rfl)
  try simp only [Act.put, List.setIfInBounds_toArray, List.set_cons_zero, List.set_cons_succ]
  refine held_take 4 ?_ rfl (by kernel_rfl) (by kernel_rfl) (by kernel_rfl) (fun _ _ _ h => h) (by rfl) ?_ hSc ?_
  rotate_left
  · (intro W hSW; go_simp; try rfl)
  try simp only [Act.put, List.setIfInBounds_toArray, List.set_cons_zero, List.set_cons_succ]
  refine held_take 5 ?_ rfl (by kernel_rfl) (by kernel_rfl) (by kernel_rfl) (fun _ _ _ h => h) (by rfl) ?_ hSc ?_
  rotate_left
  · (intro W hSW; go_simp; try rfl)
  try simp only [Act.put, List.setIfInBounds_toArray, List.set_cons_zero, List.set_cons_succ]
  refine held_take 6 ?_ rfl (by kernel_rfl) (by kernel_rfl) (by kernel_rfl) (fun _ _ _ h => h) (by rfl) ?_ hSc ?_
  rotate_left
  · (intro W hSW; go_simp; try rfl)
  try simp only [Act.put, List.setIfInBounds_toArray, List.set_cons_zero, List.set_cons_succ]
  refine held_take 7 ?_ rfl (by kernel_rfl) (by kernel_rfl) (by kernel_rfl) (fun _ _ _ h => h) (by rfl) ?_ hSc ?_
  rotate_left
  · (intro W hSW; go_simp; try rfl)
  try simp only [Act.put, List.setIfInBounds_toArray, List.set_cons_zero, List.set_cons_succ]
  refine held_take 10 ?_ rfl (by kernel_rfl) (by kernel_rfl) (by kernel_rfl) (fun _ _ _ h => h) (by rfl) ?_ hSc ?_
  rotate_left
  · (intro W hSW; go_simp; try rfl)
  try simp only [Act.put, List.setIfInBounds_toArray, List.set_cons_zero, List.set_cons_succ]
  refine held_take 11 ?_ rfl (by kernel_rfl) (by kernel_rfl) (by kernel_rfl) (fun _ _ _ h => h) (by rfl) ?_ hSc ?_
  rotate_left
  · (intro W hSW; have s1 := str8 (G3.out.below hSW); go_simp; try rfl)
  try simp only [Act.put, List.setIfInBounds_toArray, List.set_cons_zero, List.set_cons_succ]
  refine held_next 8 rfl (by kernel_rfl) (by rfl) ?_
  go_simp
  refine (CB.out _ _ _ _ (M3.out.step hSc)).mono ?_
  rintro e x1 ⟨v1, rfl, o1, b1⟩
  have G1 := Lib.hid (o1.sl.more (Nat.zero_le _) (Nat.le_refl _))
  have U1 := Lib.hid (hSc.trans (b1.mono hSc.size))
  refine ⟨fun W => Below x1.heap.size x1 W, fun W hW => U1.out.trans (hW.mono U1.out.size), Below.refl _ _, ?_⟩
  obtain ⟨A1x, d1x, rfl, -⟩ := o1.sl
  clear o1 b1
  have hSc := Below.refl x1.heap.size x1
  try simp only [Act.put, List.setIfInBounds_toArray, List.set_cons_zero, List.set_cons_succ]
  refine held_take 9 ?_ rfl (by kernel_rfl) (by kernel_rfl) (by kernel_rfl) (fun _ _ _ h => h) (by rfl) ?_ hSc ?_
  rotate_left
  · (intro W hSW; have s1 := str8 (G1.out.below hSW); go_simp; try rfl)
  try simp only [Act.put, List.setIfInBounds_toArray, List.set_cons_zero, List.set_cons_succ]
  refine held_next 12 rfl (by kernel_rfl) (by rfl) ?_
  go_simp
  refine ⟨fun W => Below x1.heap.size x1 W, fun W hW => hW, hSc, ?_⟩
  try simp only [Act.put, List.setIfInBounds_toArray, List.set_cons_zero, List.set_cons_succ]
  refine held_next 13 rfl (by kernel_rfl) (by rfl) ?_
  go_simp
  refine ⟨fun W => Below x1.heap.size x1 W, fun W hW => hW, hSc, ?_⟩
  refine wpAnyH_done (by kernel_rfl) ?_ _
  unfold onlyN
  clear hSc
  have G4 := Lib.hid (G3.out.step U1.out)
  have B4 := Lib.hid (B3.out.trans (U1.out.mono B3.out.size))
  have hbc : B.length ≤ db := by obtain ⟨_, _, e, _, h1, _⟩ := G4.out; injection e with _ _ e3; omega
  have hcm : db ≤ 9223372036854775807 := by obtain ⟨_, _, e, _, _, h2, _⟩ := G4.out; injection e with _ _ e3; subst e3; unfold maxLen at h2; omega
  have hl9 := H9.out
  have hlb := HBS.out
  go_wp2_with (go_at_call 14; refine (R2.out Ab db _ G4.out).mono ?_; rintro e w5 ⟨p5, rfl, b5⟩; have B5 := Lib.hid (B4.out.trans (b5.mono B4.out.size)); have G5 := Lib.hid (G4.out.step b5); clear b5; go_wp2_with (at_builtin; refine wpList_gapp e8 _ rfl _ _ _ rfl w5.heap.size sli8 inf8 _ [] rfl (Gw.empty_ _ _ (Nat.le_refl _)) 0 w5.heap.size _ B rfl (G5.out.alloc (Nat.le_refl _) _) (by simp; omega) (by simp) ?_; intro v6 w6 o6 g6 _; have C6 := Lib.hid (show Below w5.heap.size w5 w6 from ((Below.refl _ _).alloc (Nat.le_refl _) _).grown g6 (by simp) (fun k h => by injection h with h; subst h; exact Nat.le_refl _)); have O6 := Lib.hid (show Gw e8 w6 w5.heap.size v6 B by simpa using o6); clear o6 g6; go_wp2_with (at_builtin; refine wpList_gapp1 e8 _ rfl _ _ _ rfl w5.heap.size sli8 inf8 _ B rfl O6.out _ (0 : UInt8) rfl rfl (by omega) C6.out.size ?_; intro v7 w7 o7 g7 hj; clear hj; rw [HB1.out] at o7; have C7 := Lib.hid (C6.out.grown g7 C6.out.size (fun j hj => (O6.out.lt j hj).1)); have H7 := Lib.hid (o7.sl.more (Nat.zero_le _) (Nat.le_refl _)); have G7 := Lib.hid (G5.out.step C7.out); have B7 := Lib.hid (B5.out.trans (C7.out.mono B5.out.size)); obtain ⟨A7, d7, hv7, -⟩ := o7.sl; subst hv7; clear o7 g7; go_wp2_with (go_at_call 14; refine (R3.out A7 d7 _ H7.out).mono ?_; rintro e w8 ⟨p8, rfl, b8⟩; have B8 := Lib.hid (B7.out.trans (b8.mono B7.out.size)); have G8 := Lib.hid (G7.out.step b8); clear b8; go_wp2_with (first
      | (go_at_call 14; refine (R4.out Ab db _ (G8.out.take (by omega))).mono ?_; rintro e w9 ⟨p9, rfl, b9⟩; have B9 := Lib.hid (B8.out.trans (b9.mono B8.out.size)); clear b9)
      | (go_at_call 8; refine (known12_any _).mono ?_; rintro e wz ⟨rfl, bz⟩; have BZ := Lib.hid (B9.out.trans (bz.mono B9.out.size)); clear bz))))))
  go_ret
  exact ⟨rfl, BZ.out⟩
set_option maxHeartbeats 4000000 in
set_option maxRecDepth 100000 in
theorem back_rows (A : Option Addr) (c : Nat) (zs : List Int) (many rows others : Int) (w : World) (hG : Gs eI w 0 w.heap.size (.slice A zs.length c) zs) (hn : zs.length ≤ 300) (h0 : ofE zs many = 0) (h1 : rows ≠ zs.length ∨ others ≠ many) (h2 : rows ≠ zs.length) : Calls Try.prog 6 #[.slice A zs.length c, .int .i64 many, .int .i64 rows, .int .i64 others] w fun e w' => e = .returned (.bool true) ∧ Below w.heap.size w w' := by
  have d2 : decide ((300 : Int) < (zs.length : Int)) = false := decide_eq_false (by omega)
  have hmy := of_ok h0
  have HO := Lib.hid ((of_any A c zs many w hG (by omega)).mono (R' := fun e w' => ∃ g Ai ci, e = .returned (.tuple #[.pointer (some ⟨g, 0, none⟩), .int .i64 0]) ∧ IxM w' g Ai ci zs many ∧ Below w.heap.size w w') fun e w' ⟨p, h1, h2, _, h4⟩ => by
    obtain ⟨g, Ai, ci, hp, hm⟩ := h2 h0
    exact ⟨g, Ai, ci, by rw [h1, hp, h0], hm.m, h4⟩)
  have hRB := back_E hmy.1 hmy.2 (by omega)
  have hRL := back_L hmy.1 hmy.2 (by omega)
  have hRO := back_other hmy.1 (by omega) h1
  have hRM := back_more hmy.1 (by omega) 0
  have hRS := back_less hmy.1 (by omega)
  have hBL := iB_len zs many
  have hPS := iP_small (zs := zs) (many := many) (by rcases mayM_iff.1 hmy.1 with h | h <;> omega)
  have hcb := fun g Ai ci W (h : IxM W g Ai ci zs many) => bytes_c g Ai ci zs many W h
  have hr1 := fun Ab db W (h : Gs e8 W 0 W.heap.size (.slice Ab (iB zs many).length db) (iB zs many)) => (read_any Ab db (iB zs many) zs.length many W h (by omega)).mono (R' := fun e w' => ∃ g A c, e = .returned (.tuple #[.pointer (some ⟨g, 0, none⟩), .int .i64 0]) ∧ IxM w' g A c zs many ∧ Below W.heap.size W w') fun e w' ⟨p, h1, h2, _, h4⟩ => by
    obtain ⟨g, A, c, hp, hm⟩ := h2 hRB
    rw [hRL] at hm
    exact ⟨g, A, c, by rw [h1, hp, hRB], hm.m, h4⟩
  have hr2 := fun Ab db W (h : Gs e8 W 0 W.heap.size (.slice Ab (iB zs many).length db) (iB zs many)) => (read_any Ab db (iB zs many) rows others W h (by omega)).mono (R' := fun e w' => ∃ p, e = .returned (.tuple #[p, .int .i64 5]) ∧ Below W.heap.size W w') fun e w' ⟨p, h1, _, _, h4⟩ => ⟨p, by rw [h1, hRO], h4⟩
  have hr3 := fun Ab db W (h : Gs e8 W 0 W.heap.size (.slice Ab (iB zs many ++ [0]).length db) (iB zs many ++ [0])) => (read_any Ab db (iB zs many ++ [0]) zs.length many W h (by rw [List.length_append]; simp; omega)).mono (R' := fun e w' => ∃ p, e = .returned (.tuple #[p, .int .i64 5]) ∧ Below W.heap.size W w') fun e w' ⟨p, h1, _, _, h4⟩ => ⟨p, by rw [h1, hRM], h4⟩
  have hr4 := fun Ab db W (h : Gs e8 W 0 W.heap.size (.slice Ab ((iB zs many).length - 1) db) ((iB zs many).take ((iB zs many).length - 1))) => (by
    have hlt : ((iB zs many).take ((iB zs many).length - 1)).length = (iB zs many).length - 1 := by rw [List.length_take]; omega
    have h2 : Gs e8 W 0 W.heap.size (.slice Ab ((iB zs many).take ((iB zs many).length - 1)).length db) ((iB zs many).take ((iB zs many).length - 1)) := by rw [hlt]; exact h
    have h3 := (read_any Ab db ((iB zs many).take ((iB zs many).length - 1)) zs.length many W h2 (by rw [hlt]; omega)).mono (R' := fun e w' => ∃ p, e = .returned (.tuple #[p, .int .i64 4]) ∧ Below W.heap.size W w') fun e w' ⟨p, h1, _, _, h4⟩ => ⟨p, by rw [h1, hRS], h4⟩
    rw [hlt] at h3
    exact h3 : Calls Try.prog 14 #[.slice Ab ((iB zs many).length - 1) db, .int .i64 (zs.length : Int), .int .i64 many] W fun e w' => ∃ p, e = .returned (.tuple #[p, .int .i64 4]) ∧ Below W.heap.size W w')
  have h9 : 9 ≤ (iB zs many).length := by omega
  have hbs : (iB zs many).length ≤ 10000 := by omega
  obtain ⟨B1, hB1⟩ : ∃ B1, iB zs many ++ [0] = B1 := ⟨_, rfl⟩
  rw [hB1] at hr3
  generalize iB zs many = B at hB1 hcb hr1 hr2 hr3 hr4 h9 hbs
  have CB := Lib.hid hcb
  have R1 := Lib.hid hr1
  have R2 := Lib.hid hr2
  have R3 := Lib.hid hr3
  have R4 := Lib.hid hr4
  have H9 := Lib.hid h9
  have HB1 := Lib.hid hB1
  clear hB1
  have d3 : decide ((B.length : Int) < 9) = false := decide_eq_false (by omega)
  have l1 : wrap64 ((B.length : Int) - 1) = (B.length : Int) - 1 := by unfold wrap64; omega
  have l2 : ((B.length : Int) - 1).toNat = B.length - 1 := by omega
  have HBS := Lib.hid hbs
  have f1 : (rows == (zs.length : Int)) = false := by simpa using h2
  clear h1 h2
  clear hRB hRL hRO hRM hRS hBL hPS hcb hr1 hr2 hr3 hr4 hmy h0 hG hn h9 hbs
  go_enter Try.func6, Try.ntmps6
  go_wp2_with (first
    | (go_at_call 9; refine HO.out.mono ?_; rintro e w1 ⟨g, Ai, ci, rfl, hm, b1⟩; have B1 := Lib.hid b1; have M1 := Lib.hid hm; clear b1 hm)
    | (go_at_call 21; refine (CB.out _ _ _ _ M1.out).mono ?_; rintro e w2 ⟨v2, rfl, o2, b2⟩; have B2 := Lib.hid (B1.out.trans (b2.mono B1.out.size)); have G2 := Lib.hid (o2.sl.more (Nat.zero_le _) (Nat.le_refl _)); obtain ⟨Ab, db, rfl, -⟩ := o2.sl; clear o2 b2)
    | (go_at_call 14; refine (R1.out Ab db _ G2.out).mono ?_; rintro e w3 ⟨g3, A3, c3, rfl, hm, b3⟩; have B3 := Lib.hid (B2.out.trans (b3.mono B2.out.size)); have M3 := Lib.hid hm; have G3 := Lib.hid (G2.out.step b3); clear b3 hm))
  refine wp_only ?_
  have hSc := (Below.refl w3.heap.size w3).drew
  refine wp_region_all (S := fun W => Below w3.heap.size w3 W) (by kernel_rfl) hSc (fun W0 hSc => ?_)
  refine held_take 0 ?_ rfl (by kernel_rfl) (by kernel_rfl) (by kernel_rfl) (fun _ _ _ h => h) (by rfl) ?_ hSc ?_
  rotate_left
  · (intro W hSW; go_simp; try rfl)
  try simp only [Act.put, List.setIfInBounds_toArray, List.set_cons_zero, List.set_cons_succ]
  refine held_take 1 ?_ rfl (by kernel_rfl) (by kernel_rfl) (by kernel_rfl) (fun _ _ _ h => h) (by rfl) ?_ hSc ?_
  rotate_left
  · (intro W hSW; go_simp; try rfl)
  try simp only [Act.put, List.setIfInBounds_toArray, List.set_cons_zero, List.set_cons_succ]
  refine held_take 2 ?_ rfl (by kernel_rfl) (by kernel_rfl) (by kernel_rfl) (fun _ _ _ h => h) (by rfl) ?_ hSc ?_
  rotate_left
  · (intro W hSW; go_simp; try rfl)
  try simp only [Act.put, List.setIfInBounds_toArray, List.set_cons_zero, List.set_cons_succ]
  refine held_take 3 ?_ rfl (by kernel_rfl) (by kernel_rfl) (by kernel_rfl) (fun _ _ _ h => h) (by rfl) ?_ hSc ?_
  rotate_left
  · (intro W hSW; go_simp; try rfl)
  try simp only [Act.put, List.setIfInBounds_toArray, List.set_cons_zero, List.set_cons_succ]
  refine held_take 4 ?_ rfl (by kernel_rfl) (by kernel_rfl) (by kernel_rfl) (fun _ _ _ h => h) (by rfl) ?_ hSc ?_
  rotate_left
  · (intro W hSW; go_simp; try rfl)
  try simp only [Act.put, List.setIfInBounds_toArray, List.set_cons_zero, List.set_cons_succ]
  refine held_take 5 ?_ rfl (by kernel_rfl) (by kernel_rfl) (by kernel_rfl) (fun _ _ _ h => h) (by rfl) ?_ hSc ?_
  rotate_left
  · (intro W hSW; go_simp; try rfl)
  try simp only [Act.put, List.setIfInBounds_toArray, List.set_cons_zero, List.set_cons_succ]
  refine held_take 6 ?_ rfl (by kernel_rfl) (by kernel_rfl) (by kernel_rfl) (fun _ _ _ h => h) (by rfl) ?_ hSc ?_
  rotate_left
  · (intro W hSW; go_simp; try rfl)
  try simp only [Act.put, List.setIfInBounds_toArray, List.set_cons_zero, List.set_cons_succ]
  refine held_take 7 ?_ rfl (by kernel_rfl) (by kernel_rfl) (by kernel_rfl) (fun _ _ _ h => h) (by rfl) ?_ hSc ?_
  rotate_left
  · (intro W hSW; go_simp; try rfl)
  try simp only [Act.put, List.setIfInBounds_toArray, List.set_cons_zero, List.set_cons_succ]
  refine held_take 10 ?_ rfl (by kernel_rfl) (by kernel_rfl) (by kernel_rfl) (fun _ _ _ h => h) (by rfl) ?_ hSc ?_
  rotate_left
  · (intro W hSW; go_simp; try rfl)
  try simp only [Act.put, List.setIfInBounds_toArray, List.set_cons_zero, List.set_cons_succ]
  refine held_take 11 ?_ rfl (by kernel_rfl) (by kernel_rfl) (by kernel_rfl) (fun _ _ _ h => h) (by rfl) ?_ hSc ?_
  rotate_left
  · (intro W hSW; have s1 := str8 (G3.out.below hSW); go_simp; try rfl)
  try simp only [Act.put, List.setIfInBounds_toArray, List.set_cons_zero, List.set_cons_succ]
  refine held_next 8 rfl (by kernel_rfl) (by rfl) ?_
  go_simp
  refine (CB.out _ _ _ _ (M3.out.step hSc)).mono ?_
  rintro e x1 ⟨v1, rfl, o1, b1⟩
  have G1 := Lib.hid (o1.sl.more (Nat.zero_le _) (Nat.le_refl _))
  have U1 := Lib.hid (hSc.trans (b1.mono hSc.size))
  refine ⟨fun W => Below x1.heap.size x1 W, fun W hW => U1.out.trans (hW.mono U1.out.size), Below.refl _ _, ?_⟩
  obtain ⟨A1x, d1x, rfl, -⟩ := o1.sl
  clear o1 b1
  have hSc := Below.refl x1.heap.size x1
  try simp only [Act.put, List.setIfInBounds_toArray, List.set_cons_zero, List.set_cons_succ]
  refine held_take 9 ?_ rfl (by kernel_rfl) (by kernel_rfl) (by kernel_rfl) (fun _ _ _ h => h) (by rfl) ?_ hSc ?_
  rotate_left
  · (intro W hSW; have s1 := str8 (G1.out.below hSW); go_simp; try rfl)
  try simp only [Act.put, List.setIfInBounds_toArray, List.set_cons_zero, List.set_cons_succ]
  refine held_next 12 rfl (by kernel_rfl) (by rfl) ?_
  go_simp
  refine ⟨fun W => Below x1.heap.size x1 W, fun W hW => hW, hSc, ?_⟩
  try simp only [Act.put, List.setIfInBounds_toArray, List.set_cons_zero, List.set_cons_succ]
  refine held_next 13 rfl (by kernel_rfl) (by rfl) ?_
  go_simp
  refine ⟨fun W => Below x1.heap.size x1 W, fun W hW => hW, hSc, ?_⟩
  refine wpAnyH_done (by kernel_rfl) ?_ _
  unfold onlyN
  clear hSc
  have G4 := Lib.hid (G3.out.step U1.out)
  have B4 := Lib.hid (B3.out.trans (U1.out.mono B3.out.size))
  have hbc : B.length ≤ db := by obtain ⟨_, _, e, _, h1, _⟩ := G4.out; injection e with _ _ e3; omega
  have hcm : db ≤ 9223372036854775807 := by obtain ⟨_, _, e, _, _, h2, _⟩ := G4.out; injection e with _ _ e3; subst e3; unfold maxLen at h2; omega
  have hl9 := H9.out
  have hlb := HBS.out
  go_wp2_with (go_at_call 14; refine (R2.out Ab db _ G4.out).mono ?_; rintro e w5 ⟨p5, rfl, b5⟩; have B5 := Lib.hid (B4.out.trans (b5.mono B4.out.size)); have G5 := Lib.hid (G4.out.step b5); clear b5; go_wp2_with (at_builtin; refine wpList_gapp e8 _ rfl _ _ _ rfl w5.heap.size sli8 inf8 _ [] rfl (Gw.empty_ _ _ (Nat.le_refl _)) 0 w5.heap.size _ B rfl (G5.out.alloc (Nat.le_refl _) _) (by simp; omega) (by simp) ?_; intro v6 w6 o6 g6 _; have C6 := Lib.hid (show Below w5.heap.size w5 w6 from ((Below.refl _ _).alloc (Nat.le_refl _) _).grown g6 (by simp) (fun k h => by injection h with h; subst h; exact Nat.le_refl _)); have O6 := Lib.hid (show Gw e8 w6 w5.heap.size v6 B by simpa using o6); clear o6 g6; go_wp2_with (at_builtin; refine wpList_gapp1 e8 _ rfl _ _ _ rfl w5.heap.size sli8 inf8 _ B rfl O6.out _ (0 : UInt8) rfl rfl (by omega) C6.out.size ?_; intro v7 w7 o7 g7 hj; clear hj; rw [HB1.out] at o7; have C7 := Lib.hid (C6.out.grown g7 C6.out.size (fun j hj => (O6.out.lt j hj).1)); have H7 := Lib.hid (o7.sl.more (Nat.zero_le _) (Nat.le_refl _)); have G7 := Lib.hid (G5.out.step C7.out); have B7 := Lib.hid (B5.out.trans (C7.out.mono B5.out.size)); obtain ⟨A7, d7, hv7, -⟩ := o7.sl; subst hv7; clear o7 g7; go_wp2_with (go_at_call 14; refine (R3.out A7 d7 _ H7.out).mono ?_; rintro e w8 ⟨p8, rfl, b8⟩; have B8 := Lib.hid (B7.out.trans (b8.mono B7.out.size)); have G8 := Lib.hid (G7.out.step b8); clear b8; go_wp2_with (first
      | (go_at_call 14; refine (R4.out Ab db _ (G8.out.take (by omega))).mono ?_; rintro e w9 ⟨p9, rfl, b9⟩; have B9 := Lib.hid (B8.out.trans (b9.mono B8.out.size)); clear b9)
      | (go_at_call 8; refine (known12_any _).mono ?_; rintro e wz ⟨rfl, bz⟩; have BZ := Lib.hid (B9.out.trans (bz.mono B9.out.size)); clear bz))))))
  go_ret
  exact ⟨rfl, BZ.out⟩
set_option maxHeartbeats 4000000 in
set_option maxRecDepth 100000 in
theorem back_many (A : Option Addr) (c : Nat) (zs : List Int) (many rows others : Int) (w : World) (hG : Gs eI w 0 w.heap.size (.slice A zs.length c) zs) (hn : zs.length ≤ 300) (h0 : ofE zs many = 0) (h1 : rows ≠ zs.length ∨ others ≠ many) (h2 : rows = zs.length) (h3 : others ≠ many) : Calls Try.prog 6 #[.slice A zs.length c, .int .i64 many, .int .i64 rows, .int .i64 others] w fun e w' => e = .returned (.bool true) ∧ Below w.heap.size w w' := by
  have d2 : decide ((300 : Int) < (zs.length : Int)) = false := decide_eq_false (by omega)
  have hmy := of_ok h0
  have HO := Lib.hid ((of_any A c zs many w hG (by omega)).mono (R' := fun e w' => ∃ g Ai ci, e = .returned (.tuple #[.pointer (some ⟨g, 0, none⟩), .int .i64 0]) ∧ IxM w' g Ai ci zs many ∧ Below w.heap.size w w') fun e w' ⟨p, h1, h2, _, h4⟩ => by
    obtain ⟨g, Ai, ci, hp, hm⟩ := h2 h0
    exact ⟨g, Ai, ci, by rw [h1, hp, h0], hm.m, h4⟩)
  have hRB := back_E hmy.1 hmy.2 (by omega)
  have hRL := back_L hmy.1 hmy.2 (by omega)
  have hRO := back_other hmy.1 (by omega) h1
  have hRM := back_more hmy.1 (by omega) 0
  have hRS := back_less hmy.1 (by omega)
  have hBL := iB_len zs many
  have hPS := iP_small (zs := zs) (many := many) (by rcases mayM_iff.1 hmy.1 with h | h <;> omega)
  have hcb := fun g Ai ci W (h : IxM W g Ai ci zs many) => bytes_c g Ai ci zs many W h
  have hr1 := fun Ab db W (h : Gs e8 W 0 W.heap.size (.slice Ab (iB zs many).length db) (iB zs many)) => (read_any Ab db (iB zs many) zs.length many W h (by omega)).mono (R' := fun e w' => ∃ g A c, e = .returned (.tuple #[.pointer (some ⟨g, 0, none⟩), .int .i64 0]) ∧ IxM w' g A c zs many ∧ Below W.heap.size W w') fun e w' ⟨p, h1, h2, _, h4⟩ => by
    obtain ⟨g, A, c, hp, hm⟩ := h2 hRB
    rw [hRL] at hm
    exact ⟨g, A, c, by rw [h1, hp, hRB], hm.m, h4⟩
  have hr2 := fun Ab db W (h : Gs e8 W 0 W.heap.size (.slice Ab (iB zs many).length db) (iB zs many)) => (read_any Ab db (iB zs many) rows others W h (by omega)).mono (R' := fun e w' => ∃ p, e = .returned (.tuple #[p, .int .i64 5]) ∧ Below W.heap.size W w') fun e w' ⟨p, h1, _, _, h4⟩ => ⟨p, by rw [h1, hRO], h4⟩
  have hr3 := fun Ab db W (h : Gs e8 W 0 W.heap.size (.slice Ab (iB zs many ++ [0]).length db) (iB zs many ++ [0])) => (read_any Ab db (iB zs many ++ [0]) zs.length many W h (by rw [List.length_append]; simp; omega)).mono (R' := fun e w' => ∃ p, e = .returned (.tuple #[p, .int .i64 5]) ∧ Below W.heap.size W w') fun e w' ⟨p, h1, _, _, h4⟩ => ⟨p, by rw [h1, hRM], h4⟩
  have hr4 := fun Ab db W (h : Gs e8 W 0 W.heap.size (.slice Ab ((iB zs many).length - 1) db) ((iB zs many).take ((iB zs many).length - 1))) => (by
    have hlt : ((iB zs many).take ((iB zs many).length - 1)).length = (iB zs many).length - 1 := by rw [List.length_take]; omega
    have h2 : Gs e8 W 0 W.heap.size (.slice Ab ((iB zs many).take ((iB zs many).length - 1)).length db) ((iB zs many).take ((iB zs many).length - 1)) := by rw [hlt]; exact h
    have h3 := (read_any Ab db ((iB zs many).take ((iB zs many).length - 1)) zs.length many W h2 (by rw [hlt]; omega)).mono (R' := fun e w' => ∃ p, e = .returned (.tuple #[p, .int .i64 4]) ∧ Below W.heap.size W w') fun e w' ⟨p, h1, _, _, h4⟩ => ⟨p, by rw [h1, hRS], h4⟩
    rw [hlt] at h3
    exact h3 : Calls Try.prog 14 #[.slice Ab ((iB zs many).length - 1) db, .int .i64 (zs.length : Int), .int .i64 many] W fun e w' => ∃ p, e = .returned (.tuple #[p, .int .i64 4]) ∧ Below W.heap.size W w')
  have h9 : 9 ≤ (iB zs many).length := by omega
  have hbs : (iB zs many).length ≤ 10000 := by omega
  obtain ⟨B1, hB1⟩ : ∃ B1, iB zs many ++ [0] = B1 := ⟨_, rfl⟩
  rw [hB1] at hr3
  generalize iB zs many = B at hB1 hcb hr1 hr2 hr3 hr4 h9 hbs
  have CB := Lib.hid hcb
  have R1 := Lib.hid hr1
  have R2 := Lib.hid hr2
  have R3 := Lib.hid hr3
  have R4 := Lib.hid hr4
  have H9 := Lib.hid h9
  have HB1 := Lib.hid hB1
  clear hB1
  have d3 : decide ((B.length : Int) < 9) = false := decide_eq_false (by omega)
  have l1 : wrap64 ((B.length : Int) - 1) = (B.length : Int) - 1 := by unfold wrap64; omega
  have l2 : ((B.length : Int) - 1).toNat = B.length - 1 := by omega
  have HBS := Lib.hid hbs
  have f1 : (rows == (zs.length : Int)) = true := by simpa using h2
  have f2 : (others == many) = false := by simpa using h3
  clear h1 h2 h3
  clear hRB hRL hRO hRM hRS hBL hPS hcb hr1 hr2 hr3 hr4 hmy h0 hG hn h9 hbs
  go_enter Try.func6, Try.ntmps6
  go_wp2_with (first
    | (go_at_call 9; refine HO.out.mono ?_; rintro e w1 ⟨g, Ai, ci, rfl, hm, b1⟩; have B1 := Lib.hid b1; have M1 := Lib.hid hm; clear b1 hm)
    | (go_at_call 21; refine (CB.out _ _ _ _ M1.out).mono ?_; rintro e w2 ⟨v2, rfl, o2, b2⟩; have B2 := Lib.hid (B1.out.trans (b2.mono B1.out.size)); have G2 := Lib.hid (o2.sl.more (Nat.zero_le _) (Nat.le_refl _)); obtain ⟨Ab, db, rfl, -⟩ := o2.sl; clear o2 b2)
    | (go_at_call 14; refine (R1.out Ab db _ G2.out).mono ?_; rintro e w3 ⟨g3, A3, c3, rfl, hm, b3⟩; have B3 := Lib.hid (B2.out.trans (b3.mono B2.out.size)); have M3 := Lib.hid hm; have G3 := Lib.hid (G2.out.step b3); clear b3 hm))
  refine wp_only ?_
  have hSc := (Below.refl w3.heap.size w3).drew
  refine wp_region_all (S := fun W => Below w3.heap.size w3 W) (by kernel_rfl) hSc (fun W0 hSc => ?_)
  refine held_take 0 ?_ rfl (by kernel_rfl) (by kernel_rfl) (by kernel_rfl) (fun _ _ _ h => h) (by rfl) ?_ hSc ?_
  rotate_left
  · (intro W hSW; go_simp; try rfl)
  try simp only [Act.put, List.setIfInBounds_toArray, List.set_cons_zero, List.set_cons_succ]
  refine held_take 1 ?_ rfl (by kernel_rfl) (by kernel_rfl) (by kernel_rfl) (fun _ _ _ h => h) (by rfl) ?_ hSc ?_
  rotate_left
  · (intro W hSW; go_simp; try rfl)
  try simp only [Act.put, List.setIfInBounds_toArray, List.set_cons_zero, List.set_cons_succ]
  refine held_take 2 ?_ rfl (by kernel_rfl) (by kernel_rfl) (by kernel_rfl) (fun _ _ _ h => h) (by rfl) ?_ hSc ?_
  rotate_left
  · (intro W hSW; go_simp; try rfl)
  try simp only [Act.put, List.setIfInBounds_toArray, List.set_cons_zero, List.set_cons_succ]
  refine held_take 3 ?_ rfl (by kernel_rfl) (by kernel_rfl) (by kernel_rfl) (fun _ _ _ h => h) (by rfl) ?_ hSc ?_
  rotate_left
  · (intro W hSW; go_simp; try rfl)
  try simp only [Act.put, List.setIfInBounds_toArray, List.set_cons_zero, List.set_cons_succ]
  refine held_take 4 ?_ rfl (by kernel_rfl) (by kernel_rfl) (by kernel_rfl) (fun _ _ _ h => h) (by rfl) ?_ hSc ?_
  rotate_left
  · (intro W hSW; go_simp; try rfl)
  try simp only [Act.put, List.setIfInBounds_toArray, List.set_cons_zero, List.set_cons_succ]
  refine held_take 5 ?_ rfl (by kernel_rfl) (by kernel_rfl) (by kernel_rfl) (fun _ _ _ h => h) (by rfl) ?_ hSc ?_
  rotate_left
  · (intro W hSW; go_simp; try rfl)
  try simp only [Act.put, List.setIfInBounds_toArray, List.set_cons_zero, List.set_cons_succ]
  refine held_take 6 ?_ rfl (by kernel_rfl) (by kernel_rfl) (by kernel_rfl) (fun _ _ _ h => h) (by rfl) ?_ hSc ?_
  rotate_left
  · (intro W hSW; go_simp; try rfl)
  try simp only [Act.put, List.setIfInBounds_toArray, List.set_cons_zero, List.set_cons_succ]
  refine held_take 7 ?_ rfl (by kernel_rfl) (by kernel_rfl) (by kernel_rfl) (fun _ _ _ h => h) (by rfl) ?_ hSc ?_
  rotate_left
  · (intro W hSW; go_simp; try rfl)
  try simp only [Act.put, List.setIfInBounds_toArray, List.set_cons_zero, List.set_cons_succ]
  refine held_take 10 ?_ rfl (by kernel_rfl) (by kernel_rfl) (by kernel_rfl) (fun _ _ _ h => h) (by rfl) ?_ hSc ?_
  rotate_left
  · (intro W hSW; go_simp; try rfl)
  try simp only [Act.put, List.setIfInBounds_toArray, List.set_cons_zero, List.set_cons_succ]
  refine held_take 11 ?_ rfl (by kernel_rfl) (by kernel_rfl) (by kernel_rfl) (fun _ _ _ h => h) (by rfl) ?_ hSc ?_
  rotate_left
  · (intro W hSW; have s1 := str8 (G3.out.below hSW); go_simp; try rfl)
  try simp only [Act.put, List.setIfInBounds_toArray, List.set_cons_zero, List.set_cons_succ]
  refine held_next 8 rfl (by kernel_rfl) (by rfl) ?_
  go_simp
  refine (CB.out _ _ _ _ (M3.out.step hSc)).mono ?_
  rintro e x1 ⟨v1, rfl, o1, b1⟩
  have G1 := Lib.hid (o1.sl.more (Nat.zero_le _) (Nat.le_refl _))
  have U1 := Lib.hid (hSc.trans (b1.mono hSc.size))
  refine ⟨fun W => Below x1.heap.size x1 W, fun W hW => U1.out.trans (hW.mono U1.out.size), Below.refl _ _, ?_⟩
  obtain ⟨A1x, d1x, rfl, -⟩ := o1.sl
  clear o1 b1
  have hSc := Below.refl x1.heap.size x1
  try simp only [Act.put, List.setIfInBounds_toArray, List.set_cons_zero, List.set_cons_succ]
  refine held_take 9 ?_ rfl (by kernel_rfl) (by kernel_rfl) (by kernel_rfl) (fun _ _ _ h => h) (by rfl) ?_ hSc ?_
  rotate_left
  · (intro W hSW; have s1 := str8 (G1.out.below hSW); go_simp; try rfl)
  try simp only [Act.put, List.setIfInBounds_toArray, List.set_cons_zero, List.set_cons_succ]
  refine held_next 12 rfl (by kernel_rfl) (by rfl) ?_
  go_simp
  refine ⟨fun W => Below x1.heap.size x1 W, fun W hW => hW, hSc, ?_⟩
  try simp only [Act.put, List.setIfInBounds_toArray, List.set_cons_zero, List.set_cons_succ]
  refine held_next 13 rfl (by kernel_rfl) (by rfl) ?_
  go_simp
  refine ⟨fun W => Below x1.heap.size x1 W, fun W hW => hW, hSc, ?_⟩
  refine wpAnyH_done (by kernel_rfl) ?_ _
  unfold onlyN
  clear hSc
  have G4 := Lib.hid (G3.out.step U1.out)
  have B4 := Lib.hid (B3.out.trans (U1.out.mono B3.out.size))
  have hbc : B.length ≤ db := by obtain ⟨_, _, e, _, h1, _⟩ := G4.out; injection e with _ _ e3; omega
  have hcm : db ≤ 9223372036854775807 := by obtain ⟨_, _, e, _, _, h2, _⟩ := G4.out; injection e with _ _ e3; subst e3; unfold maxLen at h2; omega
  have hl9 := H9.out
  have hlb := HBS.out
  go_wp2_with (go_at_call 14; refine (R2.out Ab db _ G4.out).mono ?_; rintro e w5 ⟨p5, rfl, b5⟩; have B5 := Lib.hid (B4.out.trans (b5.mono B4.out.size)); have G5 := Lib.hid (G4.out.step b5); clear b5; go_wp2_with (at_builtin; refine wpList_gapp e8 _ rfl _ _ _ rfl w5.heap.size sli8 inf8 _ [] rfl (Gw.empty_ _ _ (Nat.le_refl _)) 0 w5.heap.size _ B rfl (G5.out.alloc (Nat.le_refl _) _) (by simp; omega) (by simp) ?_; intro v6 w6 o6 g6 _; have C6 := Lib.hid (show Below w5.heap.size w5 w6 from ((Below.refl _ _).alloc (Nat.le_refl _) _).grown g6 (by simp) (fun k h => by injection h with h; subst h; exact Nat.le_refl _)); have O6 := Lib.hid (show Gw e8 w6 w5.heap.size v6 B by simpa using o6); clear o6 g6; go_wp2_with (at_builtin; refine wpList_gapp1 e8 _ rfl _ _ _ rfl w5.heap.size sli8 inf8 _ B rfl O6.out _ (0 : UInt8) rfl rfl (by omega) C6.out.size ?_; intro v7 w7 o7 g7 hj; clear hj; rw [HB1.out] at o7; have C7 := Lib.hid (C6.out.grown g7 C6.out.size (fun j hj => (O6.out.lt j hj).1)); have H7 := Lib.hid (o7.sl.more (Nat.zero_le _) (Nat.le_refl _)); have G7 := Lib.hid (G5.out.step C7.out); have B7 := Lib.hid (B5.out.trans (C7.out.mono B5.out.size)); obtain ⟨A7, d7, hv7, -⟩ := o7.sl; subst hv7; clear o7 g7; go_wp2_with (go_at_call 14; refine (R3.out A7 d7 _ H7.out).mono ?_; rintro e w8 ⟨p8, rfl, b8⟩; have B8 := Lib.hid (B7.out.trans (b8.mono B7.out.size)); have G8 := Lib.hid (G7.out.step b8); clear b8; go_wp2_with (first
      | (go_at_call 14; refine (R4.out Ab db _ (G8.out.take (by omega))).mono ?_; rintro e w9 ⟨p9, rfl, b9⟩; have B9 := Lib.hid (B8.out.trans (b9.mono B8.out.size)); clear b9)
      | (go_at_call 8; refine (known12_any _).mono ?_; rintro e wz ⟨rfl, bz⟩; have BZ := Lib.hid (B9.out.trans (bz.mono B9.out.size)); clear bz))))))
  go_ret
  exact ⟨rfl, BZ.out⟩
theorem back_all (A : Option Addr) (c : Nat) (zs : List Int) (many rows others : Int) (w : World) (hG : Gs eI w 0 w.heap.size (.slice A zs.length c) zs) : Calls Try.prog 6 #[.slice A zs.length c, .int .i64 many, .int .i64 rows, .int .i64 others] w fun e w' => e = .returned (.bool true) ∧ Below w.heap.size w w' := by
  by_cases h : 300 < zs.length
  · exact back_long A zs.length c many rows others w h
  · by_cases h0 : ofE zs many = 0
    · by_cases h1 : rows = zs.length
      · by_cases h2 : others = many
        · exact back_same A c zs many rows others w hG (by omega) h0 h1 h2
        · exact back_many A c zs many rows others w hG (by omega) h0 (.inr h2) h1 h2
      · exact back_rows A c zs many rows others w hG (by omega) h0 (.inl h1) h1
    · exact back_no A c zs many rows others w hG (by omega) h0
end Go.Proofs.Ytpanfpcfhgnkoaa
