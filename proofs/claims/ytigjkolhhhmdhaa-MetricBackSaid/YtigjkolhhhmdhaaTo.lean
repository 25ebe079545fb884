/- A column's bytes are read again; the law MetricBack. -/
import Derived.Test.YtigjkolhhhmdhaaTn
namespace Go.Proofs.Ytigjkolhhhmdhaa
open Go.RowKit
set_option linter.unusedVariables false

theorem rN_cB (zs : List Int) (t : List UInt8) (h : zs.length < 4294967296) : rN (cB zs ++ t) = zs.length := by
  unfold rN cB
  rw [List.append_assoc, List.append_assoc, List.append_assoc, List.take_append_of_le_length (by rw [le_length]; omega), List.take_of_length_le (by rw [le_length]; omega)]
  exact leVal_le 4 _ (by omega)
theorem rL_cN (pre : List UInt8) (zs : List Int) (h : R64 zs) : rL (pre ++ cN zs) pre.length zs.length = zs := by
  induction zs generalizing pre with
  | nil => rfl
  | cons x r ih =>
    rw [List.length_cons, rL_cons]
    have hx := h x List.mem_cons_self
    have e1 : z8 (pre ++ cN (x :: r)) pre.length = x := by
      unfold z8 v8
      rw [List.drop_left, cN_cons, List.take_append_of_le_length (by rw [le_length]; omega), List.take_of_length_le (by rw [le_length]; omega), leVal_le 8 _ (by have := n8_lt x; omega)]
      exact n8_back hx
    have e2 := ih (pre ++ le 8 (n8 x)) (fun z hz => h z (List.mem_cons_of_mem _ hz))
    rw [List.length_append, le_length, List.append_assoc, ← cN_cons] at e2
    rw [e1, e2]
theorem rL_cB (zs : List Int) (h : R64 zs) : rL (cB zs) 20 zs.length = zs := by
  have := rL_cN (le 4 zs.length ++ le 8 (n8 (loI zs)) ++ le 8 (n8 (hiI zs))) zs h
  rwa [show (le 4 zs.length ++ le 8 (n8 (loI zs)) ++ le 8 (n8 (hiI zs))).length = 20 by simp [le_length]] at this
theorem rN_cB0 {zs : List Int} (h : zs.length < 4294967296) : rN (cB zs) = zs.length := by have := rN_cB zs [] h; rwa [List.append_nil] at this
theorem back_L {zs : List Int} (hr : R64 zs) (h : zs.length ≤ 300) : rdL (cB zs) = zs := by unfold rdL; rw [rN_cB0 (by omega), rL_cB zs hr]
theorem back_E {zs : List Int} (hr : R64 zs) (h : zs.length ≤ 300) : rdE (cB zs) zs.length = 0 := by
  have h1 := rN_cB0 (zs := zs) (by omega)
  have h2 := cB_len zs
  exact rdE_yes (by omega) (by omega) (by omega) ⟨by rw [h1], by rw [h1, rL_cB zs hr]⟩
theorem back_other {zs : List Int} {rows : Int} (h : zs.length ≤ 300) (hn : rows ≠ zs.length) : rdE (cB zs) rows = 5 := by
  have h1 := rN_cB0 (zs := zs) (by omega)
  have h2 := cB_len zs
  exact rdE_form (by omega) (by omega) (by omega) (fun h => hn (by rw [← h.1, h1]))
theorem back_more {zs : List Int} (h : zs.length ≤ 300) : rdE (cB zs ++ [0]) zs.length = 5 := by
  have h1 := rN_cB zs [0] (by omega)
  have h2 : (cB zs ++ [0]).length = 21 + 8 * zs.length := by rw [List.length_append, cB_len]; simp; omega
  exact rdE_form (by omega) (by omega) (by omega) (fun h => by have := cB_size h.2; omega)
theorem back_less {zs : List Int} (h : zs.length ≤ 300) : rdE ((cB zs).take ((cB zs).length - 1)) zs.length = 4 := by
  have h2 := cB_len zs
  have h1 : rN ((cB zs).take ((cB zs).length - 1)) = zs.length := by
    have := rN_cB0 (zs := zs) (by omega)
    unfold rN at this ⊢
    rwa [List.take_take, show min 4 ((cB zs).length - 1) = 4 by omega]
  have h3 : ((cB zs).take ((cB zs).length - 1)).length = 19 + 8 * zs.length := by rw [List.length_take]; omega
  exact rdE_cut (by omega) (by omega) (by omega)
set_option maxHeartbeats 1000000 in
theorem back_long (A : Option Addr) (n d : Nat) (rows : Int) (w : World) (h : 300 < n) :
    Calls Try.prog 6 #[.slice A n d, .int .i64 rows] w fun e w' => e = .returned (.bool true) ∧ Below w.heap.size w w' := by
  have d2 : decide ((300 : Int) < (n : Int)) = true := decide_eq_true (by omega)
  clear h
  go_enter Try.func6, Try.ntmps6
  go_wp2_with (go_at_call 8; refine (known13_any _).mono ?_; rintro e w9 ⟨rfl, b9⟩)
  go_ret
  exact ⟨rfl, b9⟩
set_option maxHeartbeats 4000000 in
set_option maxRecDepth 100000 in
theorem back_same (A : Option Addr) (c : Nat) (zs : List Int) (rows : Int) (w : World) (hG : Gs eL w 0 w.heap.size (.slice A zs.length c) zs) (hn : zs.length ≤ 300) (hr : R64 zs) (h1 : rows = zs.length) :
    Calls Try.prog 6 #[.slice A zs.length c, .int .i64 rows] w fun e w' => e = .returned (.bool true) ∧ Below w.heap.size w w' := by
  have d2 : decide ((300 : Int) < (zs.length : Int)) = false := decide_eq_false (by omega)
  have HO := Lib.hid (of_any A c zs w hG (by omega))
  have hRB := back_E hr hn
  have hRL := back_L hr hn
  have hRO : rdE (cB zs) rows = 0 := by rw [h1]; exact hRB
  have hRM := back_more hn
  have hRS := back_less hn
  have hBL := cB_len zs
  have hcb := fun g Ai ci W (h : CxM W g Ai ci zs) => bytes_c g Ai ci zs W h
  have hr1 := fun Ab db W (h : Gs e8 W 0 W.heap.size (.slice Ab (cB zs).length db) (cB zs)) => (read_any Ab db (cB zs) zs.length W h (by omega)).mono (R' := fun e w' => ∃ g A c, e = .returned (.tuple #[.pointer (some ⟨g, 0, none⟩), .int .i64 0]) ∧ CxM w' g A c zs ∧ Below W.heap.size W w') fun e w' ⟨p, h1, h2, _, h4⟩ => by
    obtain ⟨g, A, c, hp, hm⟩ := h2 hRB
    rw [hRL] at hm
    exact ⟨g, A, c, by rw [h1, hp, hRB], hm.m, h4⟩
  have hr2 := fun Ab db W (h : Gs e8 W 0 W.heap.size (.slice Ab (cB zs).length db) (cB zs)) => (read_any Ab db (cB zs) rows W h (by omega)).mono (R' := fun e w' => ∃ p, e = .returned (.tuple #[p, .int .i64 0]) ∧ Below W.heap.size W w') fun e w' ⟨p, h1, _, _, h4⟩ => ⟨p, by rw [h1, hRO], h4⟩
  have hr3 := fun Ab db W (h : Gs e8 W 0 W.heap.size (.slice Ab (cB zs ++ [0]).length db) (cB zs ++ [0])) => (read_any Ab db (cB zs ++ [0]) zs.length W h (by rw [List.length_append]; simp; omega)).mono (R' := fun e w' => ∃ p, e = .returned (.tuple #[p, .int .i64 5]) ∧ Below W.heap.size W w') fun e w' ⟨p, h1, _, _, h4⟩ => ⟨p, by rw [h1, hRM], h4⟩
  have hr4 := fun Ab db W (h : Gs e8 W 0 W.heap.size (.slice Ab ((cB zs).length - 1) db) ((cB zs).take ((cB zs).length - 1))) => (by
    have hlt : ((cB zs).take ((cB zs).length - 1)).length = (cB zs).length - 1 := by rw [List.length_take]; omega
    have h2 : Gs e8 W 0 W.heap.size (.slice Ab ((cB zs).take ((cB zs).length - 1)).length db) ((cB zs).take ((cB zs).length - 1)) := by rw [hlt]; exact h
    have h3 := (read_any Ab db ((cB zs).take ((cB zs).length - 1)) zs.length W h2 (by rw [hlt]; omega)).mono (R' := fun e w' => ∃ p, e = .returned (.tuple #[p, .int .i64 4]) ∧ Below W.heap.size W w') fun e w' ⟨p, h1, _, _, h4⟩ => ⟨p, by rw [h1, hRS], h4⟩
    rw [hlt] at h3
    exact h3 : Calls Try.prog 12 #[.slice Ab ((cB zs).length - 1) db, .int .i64 (zs.length : Int)] W fun e w' => ∃ p, e = .returned (.tuple #[p, .int .i64 4]) ∧ Below W.heap.size W w')
  have h9 : 20 ≤ (cB zs).length := by omega
  have hbs : (cB zs).length ≤ 10000 := by omega
  obtain ⟨B1, hB1⟩ : ∃ B1, cB zs ++ [0] = B1 := ⟨_, rfl⟩
  have hB1l : B1.length = (cB zs).length + 1 := by rw [← hB1]; simp
  rw [hB1] at hr3
  generalize cB zs = B at hB1 hB1l hcb hr1 hr2 hr3 hr4 h9 hbs
  obtain ⟨m, hm⟩ : ∃ m, B.length = m := ⟨_, rfl⟩
  have HM := Lib.hid hm
  rw [hm] at hr1 hr2 hr4 h9 hbs hB1l
  rw [hB1l] at hr3
  obtain ⟨q, hq⟩ : ∃ q, m = q + 1 := ⟨m - 1, by omega⟩
  have hq1 : m - 1 = q := by omega
  rw [hq1] at hr4
  have CB := Lib.hid hcb
  have R1 := Lib.hid hr1
  have R2 := Lib.hid hr2
  have R3 := Lib.hid hr3
  have R4 := Lib.hid hr4
  have HB1 := Lib.hid hB1
  have HL1 := Lib.hid hB1l
  have HQ := Lib.hid hq
  have e0 : ((m : Int) == 0) = false := beq_false_of_ne (by omega)
  have e0n : (m == 0) = false := beq_false_of_ne (by omega)
  have l1 : wrap64 ((m : Int) - 1) = (q : Int) := by unfold wrap64; omega
  have l2 : IntKind.i64.wrap ((m : Int) - 1) = (q : Int) := by rw [IntKind.wrap_i64]; omega
  have HBS := Lib.hid hbs
  have f1 : (rows == (zs.length : Int)) = true := by simpa using h1
  have HNS := Lib.hid hn
  have G0 := Lib.hid hG
  clear h1 hB1 hB1l hq hq1 hm
  clear hRB hRL hRO hRM hRS hBL hcb hr1 hr2 hr3 hr4 hG hn h9 hbs hr
  obtain ⟨n, hnn⟩ : ∃ n, zs.length = n := ⟨_, rfl⟩
  have HNN := Lib.hid hnn
  rw [hnn] at HO R1 R3 R4 d2 f1 HNS G0 ⊢
  clear hnn
  have SM := Lib.hid (fun g A c W (h : CxM W g A c zs) => some_yes g A c zs 0 zs.length W h (Nat.zero_le _) (Nat.le_refl _))
  rw [HNN.out] at SM
  have ST := Lib.hid (show (zs.take n).drop 0 = zs by rw [List.drop_zero, ← HNN.out, List.take_length])
  rw [ST.out] at SM
  have LN := Lib.hid (fun g A c W (h : CxM W g A c zs) => len_any _ _ A _ c _ _ W h.at_)
  rw [HNN.out] at LN
  go_enter Try.func6, Try.ntmps6
  go_wp2_with (go_at_call 9; refine HO.out.mono ?_; rintro e w1 ⟨g, Ai, ci, rfl, hm, b1⟩; have B1x := Lib.hid b1; have M1 := Lib.hid hm.m; clear b1 hm; go_wp2_with (go_at_call 19; refine (CB.out _ _ _ _ M1.out).mono ?_; rintro e w2 ⟨v2, rfl, o2, b2⟩; have B2 := Lib.hid (B1x.out.trans (b2.mono B1x.out.size)); have G2 := Lib.hid (o2.sl.more (Nat.zero_le _) (Nat.le_refl _)); obtain ⟨Ab, db, hv, -⟩ := o2.sl; rw [HM.out] at hv; subst hv; clear o2 b2; go_wp2_with (go_at_call 12; refine (R1.out Ab db _ G2.out).mono ?_; rintro e w3 ⟨g3, A3, c3, rfl, hm, b3⟩; have B3 := Lib.hid (B2.out.trans (b3.mono B2.out.size)); have M3 := Lib.hid hm; have G3 := Lib.hid (G2.out.step b3); clear b3 hm; go_wp2_with (go_at_call 16; refine (LN.out _ _ _ _ M3.out).mono ?_; rintro e w3b ⟨rfl, b⟩; have B3b := Lib.hid (B3.out.trans (b.mono B3.out.size)); have M3b := Lib.hid (M3.out.step b); have G3b := Lib.hid (G3.out.step b); clear b; go_wp2_with (go_at_call 15; refine (SM.out _ _ _ _ M3b.out).mono ?_; rintro e w4 ⟨v4, rfl, o4, b4⟩; have B4 := Lib.hid (B3b.out.trans (b4.mono B3b.out.size)); have G4 := Lib.hid (G3b.out.step b4); have V4 := Lib.hid (o4.sl.more (Nat.zero_le _) (Nat.le_refl _)); have hbc : m ≤ db := (by obtain ⟨_, _, e, _, h1, _⟩ := G4.out; injection e with _ e2 e3; have := HM.out; omega); have hcm : db ≤ 9223372036854775807 := (by obtain ⟨_, _, e, _, _, h2, _⟩ := G4.out; injection e with _ _ e3; subst e3; unfold maxLen at h2; omega); have hqc : (q : Int) ≤ (db : Int) := (by have := HQ.out; omega); clear o4 b4; have GT := Lib.hid (fun W (h : Gs e8 W 0 W.heap.size (.slice Ab m db) B) => (show Gs e8 W 0 W.heap.size (.slice Ab q db) (B.take q) from by have h8 := HM.out; have h9 := HQ.out; have h7 : Gs e8 W 0 W.heap.size (.slice Ab B.length db) B := (by rw [h8]; exact h); have h6 := h7.take (m := q) (by omega); exact h6)); go_wp2_with (go_at_call 12; refine (R2.out Ab db _ G4.out).mono ?_; rintro e w5 ⟨p5, rfl, b5⟩; have B5 := Lib.hid (B4.out.trans (b5.mono B4.out.size)); have G5 := Lib.hid (G4.out.step b5); have V5 := Lib.hid (V4.out.step b5); clear b5; go_wp2_with (at_builtin; refine wpList_gapp e8 _ rfl _ _ _ rfl w5.heap.size sli8 inf8 _ [] rfl (Gw.empty_ _ _ (Nat.le_refl _)) 0 w5.heap.size _ B rfl (G5.out.alloc (Nat.le_refl _) _) (by have := HM.out; have := HBS.out; simp; omega) (by simp) ?_; intro v6 w6 o6 g6 hj; clear hj; have C6 := Lib.hid (show Below w5.heap.size w5 w6 from ((Below.refl _ _).alloc (Nat.le_refl _) _).grown g6 (by simp) (fun k h => by injection h with h; subst h; exact Nat.le_refl _)); have O6 := Lib.hid (show Gw e8 w6 w5.heap.size v6 B by simpa using o6); clear o6 g6; go_wp2_with (at_builtin; refine wpList_gapp1 e8 _ rfl _ _ _ rfl w5.heap.size sli8 inf8 _ B rfl O6.out _ (0 : UInt8) rfl rfl (by have := HM.out; have := HBS.out; omega) C6.out.size ?_; intro v7 w7 o7 g7 hj; clear hj; have C7 := Lib.hid (C6.out.grown g7 C6.out.size (fun j hj => (O6.out.lt j hj).1)); have O7 := Lib.hid (show Gs e8 w7 0 w7.heap.size v7 B1 by rw [← HB1.out]; exact o7.sl.more (Nat.zero_le _) (Nat.le_refl _)); clear o7 g7; have G7 := Lib.hid (G5.out.step C7.out); have V7 := Lib.hid (V5.out.step C7.out); have B7 := Lib.hid (B5.out.trans (C7.out.mono B5.out.size)); have o7b := O7.out; obtain ⟨A7, d7, hv7, -⟩ := o7b; rw [HL1.out] at hv7; subst hv7; go_wp2_with (go_at_call 12; refine (R3.out A7 d7 _ O7.out).mono ?_; rintro e w8 ⟨p8, rfl, b8⟩; have B8 := Lib.hid (B7.out.trans (b8.mono B7.out.size)); have G8 := Lib.hid (G7.out.step b8); have V8 := Lib.hid (V7.out.step b8); clear b8; go_wp2_with (go_at_call 12; refine (R4.out Ab db _ (GT.out _ G8.out)).mono ?_; rintro e w9 ⟨p9, rfl, b9⟩; have B9 := Lib.hid (B8.out.trans (b9.mono B8.out.size)); have V9 := Lib.hid (V8.out.step b9); have G9 := Lib.hid (G0.out.step B9.out); clear b9; go_wp2_with (go_at_call 10; refine (sameL_yes _ _ zs _ _ _ _ _ V9.out G9.out).mono ?_; rintro e wy ⟨rfl, nz, hz⟩; have BY := Lib.hid (show Below w.heap.size w wy by rw [hz]; exact below_drewN B9.out nz); clear hz; go_wp2_with (go_at_call 8; refine (known13_any _).mono ?_; rintro e wz ⟨rfl, bz⟩; have BZ := Lib.hid (BY.out.trans (bz.mono BY.out.size)); clear bz))))))))))))
  go_ret
  exact ⟨rfl, BZ.out⟩
set_option maxHeartbeats 4000000 in
set_option maxRecDepth 100000 in
theorem back_diff (A : Option Addr) (c : Nat) (zs : List Int) (rows : Int) (w : World) (hG : Gs eL w 0 w.heap.size (.slice A zs.length c) zs) (hn : zs.length ≤ 300) (hr : R64 zs) (h1 : rows ≠ zs.length) :
    Calls Try.prog 6 #[.slice A zs.length c, .int .i64 rows] w fun e w' => e = .returned (.bool true) ∧ Below w.heap.size w w' := by
  have d2 : decide ((300 : Int) < (zs.length : Int)) = false := decide_eq_false (by omega)
  have HO := Lib.hid (of_any A c zs w hG (by omega))
  have hRB := back_E hr hn
  have hRL := back_L hr hn
  have hRO : rdE (cB zs) rows = 5 := back_other hn h1
  have hRM := back_more hn
  have hRS := back_less hn
  have hBL := cB_len zs
  have hcb := fun g Ai ci W (h : CxM W g Ai ci zs) => bytes_c g Ai ci zs W h
  have hr1 := fun Ab db W (h : Gs e8 W 0 W.heap.size (.slice Ab (cB zs).length db) (cB zs)) => (read_any Ab db (cB zs) zs.length W h (by omega)).mono (R' := fun e w' => ∃ g A c, e = .returned (.tuple #[.pointer (some ⟨g, 0, none⟩), .int .i64 0]) ∧ CxM w' g A c zs ∧ Below W.heap.size W w') fun e w' ⟨p, h1, h2, _, h4⟩ => by
    obtain ⟨g, A, c, hp, hm⟩ := h2 hRB
    rw [hRL] at hm
    exact ⟨g, A, c, by rw [h1, hp, hRB], hm.m, h4⟩
  have hr2 := fun Ab db W (h : Gs e8 W 0 W.heap.size (.slice Ab (cB zs).length db) (cB zs)) => (read_any Ab db (cB zs) rows W h (by omega)).mono (R' := fun e w' => ∃ p, e = .returned (.tuple #[p, .int .i64 5]) ∧ Below W.heap.size W w') fun e w' ⟨p, h1, _, _, h4⟩ => ⟨p, by rw [h1, hRO], h4⟩
  have hr3 := fun Ab db W (h : Gs e8 W 0 W.heap.size (.slice Ab (cB zs ++ [0]).length db) (cB zs ++ [0])) => (read_any Ab db (cB zs ++ [0]) zs.length W h (by rw [List.length_append]; simp; omega)).mono (R' := fun e w' => ∃ p, e = .returned (.tuple #[p, .int .i64 5]) ∧ Below W.heap.size W w') fun e w' ⟨p, h1, _, _, h4⟩ => ⟨p, by rw [h1, hRM], h4⟩
  have hr4 := fun Ab db W (h : Gs e8 W 0 W.heap.size (.slice Ab ((cB zs).length - 1) db) ((cB zs).take ((cB zs).length - 1))) => (by
    have hlt : ((cB zs).take ((cB zs).length - 1)).length = (cB zs).length - 1 := by rw [List.length_take]; omega
    have h2 : Gs e8 W 0 W.heap.size (.slice Ab ((cB zs).take ((cB zs).length - 1)).length db) ((cB zs).take ((cB zs).length - 1)) := by rw [hlt]; exact h
    have h3 := (read_any Ab db ((cB zs).take ((cB zs).length - 1)) zs.length W h2 (by rw [hlt]; omega)).mono (R' := fun e w' => ∃ p, e = .returned (.tuple #[p, .int .i64 4]) ∧ Below W.heap.size W w') fun e w' ⟨p, h1, _, _, h4⟩ => ⟨p, by rw [h1, hRS], h4⟩
    rw [hlt] at h3
    exact h3 : Calls Try.prog 12 #[.slice Ab ((cB zs).length - 1) db, .int .i64 (zs.length : Int)] W fun e w' => ∃ p, e = .returned (.tuple #[p, .int .i64 4]) ∧ Below W.heap.size W w')
  have h9 : 20 ≤ (cB zs).length := by omega
  have hbs : (cB zs).length ≤ 10000 := by omega
  obtain ⟨B1, hB1⟩ : ∃ B1, cB zs ++ [0] = B1 := ⟨_, rfl⟩
  have hB1l : B1.length = (cB zs).length + 1 := by rw [← hB1]; simp
  rw [hB1] at hr3
  generalize cB zs = B at hB1 hB1l hcb hr1 hr2 hr3 hr4 h9 hbs
  obtain ⟨m, hm⟩ : ∃ m, B.length = m := ⟨_, rfl⟩
  have HM := Lib.hid hm
  rw [hm] at hr1 hr2 hr4 h9 hbs hB1l
  rw [hB1l] at hr3
  obtain ⟨q, hq⟩ : ∃ q, m = q + 1 := ⟨m - 1, by omega⟩
  have hq1 : m - 1 = q := by omega
  rw [hq1] at hr4
  have CB := Lib.hid hcb
  have R1 := Lib.hid hr1
  have R2 := Lib.hid hr2
  have R3 := Lib.hid hr3
  have R4 := Lib.hid hr4
  have HB1 := Lib.hid hB1
  have HL1 := Lib.hid hB1l
  have HQ := Lib.hid hq
  have e0 : ((m : Int) == 0) = false := beq_false_of_ne (by omega)
  have e0n : (m == 0) = false := beq_false_of_ne (by omega)
  have l1 : wrap64 ((m : Int) - 1) = (q : Int) := by unfold wrap64; omega
  have l2 : IntKind.i64.wrap ((m : Int) - 1) = (q : Int) := by rw [IntKind.wrap_i64]; omega
  have HBS := Lib.hid hbs
  have f1 : (rows == (zs.length : Int)) = false := by simpa using h1
  have HNS := Lib.hid hn
  have G0 := Lib.hid hG
  clear h1 hB1 hB1l hq hq1 hm
  clear hRB hRL hRO hRM hRS hBL hcb hr1 hr2 hr3 hr4 hG hn h9 hbs hr
  obtain ⟨n, hnn⟩ : ∃ n, zs.length = n := ⟨_, rfl⟩
  have HNN := Lib.hid hnn
  rw [hnn] at HO R1 R3 R4 d2 f1 HNS G0 ⊢
  clear hnn
  have SM := Lib.hid (fun g A c W (h : CxM W g A c zs) => some_yes g A c zs 0 zs.length W h (Nat.zero_le _) (Nat.le_refl _))
  rw [HNN.out] at SM
  have ST := Lib.hid (show (zs.take n).drop 0 = zs by rw [List.drop_zero, ← HNN.out, List.take_length])
  rw [ST.out] at SM
  have LN := Lib.hid (fun g A c W (h : CxM W g A c zs) => len_any _ _ A _ c _ _ W h.at_)
  rw [HNN.out] at LN
  go_enter Try.func6, Try.ntmps6
  go_wp2_with (go_at_call 9; refine HO.out.mono ?_; rintro e w1 ⟨g, Ai, ci, rfl, hm, b1⟩; have B1x := Lib.hid b1; have M1 := Lib.hid hm.m; clear b1 hm; go_wp2_with (go_at_call 19; refine (CB.out _ _ _ _ M1.out).mono ?_; rintro e w2 ⟨v2, rfl, o2, b2⟩; have B2 := Lib.hid (B1x.out.trans (b2.mono B1x.out.size)); have G2 := Lib.hid (o2.sl.more (Nat.zero_le _) (Nat.le_refl _)); obtain ⟨Ab, db, hv, -⟩ := o2.sl; rw [HM.out] at hv; subst hv; clear o2 b2; go_wp2_with (go_at_call 12; refine (R1.out Ab db _ G2.out).mono ?_; rintro e w3 ⟨g3, A3, c3, rfl, hm, b3⟩; have B3 := Lib.hid (B2.out.trans (b3.mono B2.out.size)); have M3 := Lib.hid hm; have G3 := Lib.hid (G2.out.step b3); clear b3 hm; go_wp2_with (go_at_call 16; refine (LN.out _ _ _ _ M3.out).mono ?_; rintro e w3b ⟨rfl, b⟩; have B3b := Lib.hid (B3.out.trans (b.mono B3.out.size)); have M3b := Lib.hid (M3.out.step b); have G3b := Lib.hid (G3.out.step b); clear b; go_wp2_with (go_at_call 15; refine (SM.out _ _ _ _ M3b.out).mono ?_; rintro e w4 ⟨v4, rfl, o4, b4⟩; have B4 := Lib.hid (B3b.out.trans (b4.mono B3b.out.size)); have G4 := Lib.hid (G3b.out.step b4); have V4 := Lib.hid (o4.sl.more (Nat.zero_le _) (Nat.le_refl _)); have hbc : m ≤ db := (by obtain ⟨_, _, e, _, h1, _⟩ := G4.out; injection e with _ e2 e3; have := HM.out; omega); have hcm : db ≤ 9223372036854775807 := (by obtain ⟨_, _, e, _, _, h2, _⟩ := G4.out; injection e with _ _ e3; subst e3; unfold maxLen at h2; omega); have hqc : (q : Int) ≤ (db : Int) := (by have := HQ.out; omega); clear o4 b4; have GT := Lib.hid (fun W (h : Gs e8 W 0 W.heap.size (.slice Ab m db) B) => (show Gs e8 W 0 W.heap.size (.slice Ab q db) (B.take q) from by have h8 := HM.out; have h9 := HQ.out; have h7 : Gs e8 W 0 W.heap.size (.slice Ab B.length db) B := (by rw [h8]; exact h); have h6 := h7.take (m := q) (by omega); exact h6)); go_wp2_with (go_at_call 12; refine (R2.out Ab db _ G4.out).mono ?_; rintro e w5 ⟨p5, rfl, b5⟩; have B5 := Lib.hid (B4.out.trans (b5.mono B4.out.size)); have G5 := Lib.hid (G4.out.step b5); have V5 := Lib.hid (V4.out.step b5); clear b5; go_wp2_with (at_builtin; refine wpList_gapp e8 _ rfl _ _ _ rfl w5.heap.size sli8 inf8 _ [] rfl (Gw.empty_ _ _ (Nat.le_refl _)) 0 w5.heap.size _ B rfl (G5.out.alloc (Nat.le_refl _) _) (by have := HM.out; have := HBS.out; simp; omega) (by simp) ?_; intro v6 w6 o6 g6 hj; clear hj; have C6 := Lib.hid (show Below w5.heap.size w5 w6 from ((Below.refl _ _).alloc (Nat.le_refl _) _).grown g6 (by simp) (fun k h => by injection h with h; subst h; exact Nat.le_refl _)); have O6 := Lib.hid (show Gw e8 w6 w5.heap.size v6 B by simpa using o6); clear o6 g6; go_wp2_with (at_builtin; refine wpList_gapp1 e8 _ rfl _ _ _ rfl w5.heap.size sli8 inf8 _ B rfl O6.out _ (0 : UInt8) rfl rfl (by have := HM.out; have := HBS.out; omega) C6.out.size ?_; intro v7 w7 o7 g7 hj; clear hj; have C7 := Lib.hid (C6.out.grown g7 C6.out.size (fun j hj => (O6.out.lt j hj).1)); have O7 := Lib.hid (show Gs e8 w7 0 w7.heap.size v7 B1 by rw [← HB1.out]; exact o7.sl.more (Nat.zero_le _) (Nat.le_refl _)); clear o7 g7; have G7 := Lib.hid (G5.out.step C7.out); have V7 := Lib.hid (V5.out.step C7.out); have B7 := Lib.hid (B5.out.trans (C7.out.mono B5.out.size)); have o7b := O7.out; obtain ⟨A7, d7, hv7, -⟩ := o7b; rw [HL1.out] at hv7; subst hv7; go_wp2_with (go_at_call 12; refine (R3.out A7 d7 _ O7.out).mono ?_; rintro e w8 ⟨p8, rfl, b8⟩; have B8 := Lib.hid (B7.out.trans (b8.mono B7.out.size)); have G8 := Lib.hid (G7.out.step b8); have V8 := Lib.hid (V7.out.step b8); clear b8; go_wp2_with (go_at_call 12; refine (R4.out Ab db _ (GT.out _ G8.out)).mono ?_; rintro e w9 ⟨p9, rfl, b9⟩; have B9 := Lib.hid (B8.out.trans (b9.mono B8.out.size)); have V9 := Lib.hid (V8.out.step b9); have G9 := Lib.hid (G0.out.step B9.out); clear b9; go_wp2_with (go_at_call 10; refine (sameL_yes _ _ zs _ _ _ _ _ V9.out G9.out).mono ?_; rintro e wy ⟨rfl, nz, hz⟩; have BY := Lib.hid (show Below w.heap.size w wy by rw [hz]; exact below_drewN B9.out nz); clear hz; go_wp2_with (go_at_call 8; refine (known13_any _).mono ?_; rintro e wz ⟨rfl, bz⟩; have BZ := Lib.hid (BY.out.trans (bz.mono BY.out.size)); clear bz))))))))))))
  go_ret
  exact ⟨rfl, BZ.out⟩
end Go.Proofs.Ytigjkolhhhmdhaa
