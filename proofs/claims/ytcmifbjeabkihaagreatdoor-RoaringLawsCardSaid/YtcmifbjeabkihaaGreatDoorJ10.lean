/- Walks: RoaringLaws, the whole road. -/
import Derived.Test.YtcmifbjeabkihaaGreatDoorJ9
namespace Go.Proofs.YtcmifbjeabkihaaGreatDoor
open Go.RowKit Go.Shelf
set_option linter.unusedVariables false

theorem ct_pl1 (x : Nat) : ∀ n, ct (pl (fun _ => false) x) n = if x < n then 1 else 0
  | 0 => by simp [ct]
  | n + 1 => by
    have ih := ct_pl1 x n
    have s1 : ct (pl (fun _ => false) x) (n + 1) = ct (pl (fun _ => false) x) n + (pl (fun _ => false) x n).toNat := rfl
    rw [s1, ih]
    unfold pl
    by_cases h : n = x
    · subst h; simp
    · rw [decide_eq_false h]
      by_cases h2 : x < n
      · rw [if_pos h2, if_pos (by omega)]; rfl
      · rw [if_neg h2, if_neg (by omega)]; rfl
theorem wrap_small (x : Int) (h : 0 ≤ x) (h2 : x ≤ 9000000000) : wrap64 x = x := by unfold wrap64; omega
theorem run_eql_func_nil {P : Program} (w : World) (t : TypeId) (ps rs : Array TypeId) (v : Bool) (f : Fn) (a b : Array Value) (h : P.underlying t = some (.func ps rs v)) : (binOp .eql t (.func f a b) .nilFunc).run P w = .ok (.bool false) w := by
  have h2 : ∀ d : Nat, (Op.equalIn (d + 1) t (.func f a b) .nilFunc).run P w = .ok false w := fun d => by
    simp [Op.equalIn, run_underlying h]
  simp only [binOp]
  simp [Op.equal, Op.maxDepth, h2 9999]
theorem len_none (w : World) : Calls Tryz.prog 32 #[.pointer none] w fun e w' => e = .returned (.int .i64 0) ∧ Below w.heap.size w w' :=
  setlen_c (N := fun _ => True) _ (fun _ => false) 0 w (.none fun _ _ => rfl) (ct_zero fun _ _ => rfl)
theorem has_nil (w : World) : Calls Tryz.prog 33 #[.pointer none, .int .u32 1] w fun e w' => e = .returned (.bool false) ∧ Below w.heap.size w w' :=
  sethas_c (N := fun _ => True) _ (fun _ => false) 1 w (.none fun _ _ => rfl) (by omega)
theorem len_empty (v : Value) (w : World) (h : St (fun _ => True) w v fun _ => false) : Calls Tryz.prog 32 #[v] w fun e w' => e = .returned (.int .i64 0) ∧ Below w.heap.size w w' :=
  setlen_c _ (fun _ => false) 0 w h (ct_zero fun _ _ => rfl)
theorem has_seven (v : Value) (w : World) (h : St (fun _ => True) w v (pl (fun _ => false) 7)) : Calls Tryz.prog 33 #[v, .int .u32 7] w fun e w' => e = .returned (.bool true) ∧ Below w.heap.size w w' :=
  sethas_c _ (pl (fun _ => false) 7) 7 w h (by omega)
theorem len_seven (v : Value) (w : World) (h : St (fun _ => True) w v (pl (fun _ => false) 7)) : Calls Tryz.prog 32 #[v] w fun e w' => e = .returned (.int .i64 1) ∧ Below w.heap.size w w' :=
  setlen_c _ (pl (fun _ => false) 7) 1 w h (by rw [ct_pl1, if_pos (by omega)])
theorem runs_nil (w : World) (hT : Tb w) : Calls Tryz.prog 29 #[.pointer none] w fun e w' => ∃ A c, e = .returned (.slice A 0 c) ∧ Below w.heap.size w w' := by
  have h0 : ct (fun _ : Nat => false) 4294967296 = 0 := ct_zero fun _ _ => rfl
  refine (setruns_c (N := fun _ => True) _ (fun _ => false) w hT (.none fun _ _ => rfl) (by rw [h0]; omega)).mono ?_
  rintro e w' ⟨v', l, rfl, g, -, -, hl, B⟩
  have hl0 : l = [] := List.eq_nil_of_length_eq_zero (by rw [h0] at hl; omega)
  subst hl0
  obtain ⟨A, c, rfl, -⟩ := g.sl
  exact ⟨A, c, rfl, B⟩
theorem keepD {w w' : World} {D : Nat} {x : Obj} (hk : w.heap[D]? = some x) (h : Below w.heap.size w w') : w'.heap[D]? = some x := (h.block D (Array.getElem?_eq_some_iff.1 hk).1).trans hk
theorem new_st (w : World) : Calls Tryz.prog 10 #[] w fun e w' => ∃ b, e = .returned (.pointer (some ⟨b, 0, none⟩)) ∧ St (fun _ => True) w' (.pointer (some ⟨b, 0, none⟩)) (fun _ => false) ∧ Below w.heap.size w w' :=
  (new_none w).mono fun e w' ⟨b, N', h1, _, h2, _, h3⟩ => ⟨b, h1, h2.st.mono fun _ _ _ => trivial, h3⟩
/-- What is asked of how many there are. -/
structure LawN (P Q : Nat → Bool) (ca co cp cq cs : Nat) : Prop where
  a : ct (fun x => fAnd (P x) (Q x)) 4294967296 = ca
  o : ct (fun x => fOr (P x) (Q x)) 4294967296 = co
  p : ct P 4294967296 = cp
  q : ct Q 4294967296 = cq
theorem wraps_of (ca co cp cq cs : Nat) (hm1 : ca ≤ 4294967296) (hm2 : co ≤ 4294967296) (hm3 : cp ≤ 4294967296) (hm4 : cq ≤ 4294967296) (hs1 : ca + co = cs) (hs2 : cp + cq = cs) :
    IntKind.i64.wrap ((ca : Int) + (co : Int)) = (cs : Int) ∧ IntKind.i64.wrap ((cp : Int) + (cq : Int)) = (cs : Int) ∧ wrap64 ((ca : Int) + (co : Int)) = (cs : Int) ∧ wrap64 ((cp : Int) + (cq : Int)) = (cs : Int) := by
  have e1 : (ca : Int) + (co : Int) = cs := by omega
  have e2 : (cp : Int) + (cq : Int) = cs := by omega
  have e3 : IntKind.i64.wrap (cs : Int) = cs := by rw [IntKind.wrap_i64]; omega
  have e4 : wrap64 (cs : Int) = cs := wrap_small _ (by omega) (by omega)
  rw [e1, e2]
  exact ⟨e3, e3, e4, e4⟩
theorem LawN.wraps {P Q : Nat → Bool} {ca co cp cq cs : Nat} (h : LawN P Q ca co cp cq cs) (hs1 : ca + co = cs) (hs2 : cp + cq = cs) :
    IntKind.i64.wrap ((ca : Int) + (co : Int)) = (cs : Int) ∧ IntKind.i64.wrap ((cp : Int) + (cq : Int)) = (cs : Int) ∧ wrap64 ((ca : Int) + (co : Int)) = (cs : Int) ∧ wrap64 ((cp : Int) + (cq : Int)) = (cs : Int) :=
  wraps_of ca co cp cq cs (h.a ▸ ct_le _ _) (h.o ▸ ct_le _ _) (h.p ▸ ct_le _ _) (h.q ▸ ct_le _ _) hs1 hs2
set_option maxHeartbeats 40000000 in
set_option maxRecDepth 100000 in
theorem laws_main (P Q Z : Nat → Bool) (nn : UInt64) (ca co cp cq cs : Nat) (A : Option Addr) (c : Nat) (a : List Sn) (A2 : Option Addr) (c2 : Nat) (b : List Sn) (n : Nat) (w : World) (hT : Tb w) (hva : Gs2 eSp w 0 w.heap.size (.slice A a.length c) a) (hvb : Gs2 eSp w 0 w.heap.size (.slice A2 b.length c2) b) (hla : a.length ≤ 8796093022209) (hlb : b.length ≤ 8796093022209) (ha : grt a = false) (hb : grt b = false) (hn : n ≤ 500000) (hnn : n = nn.toNat) (hP : P = clp32 a) (hQ : Q = clp32 b) (hZ : Z = clp32 [((0 : UInt64), nn)])
    (hN : LawN P Q ca co cp cq cs) (hs1 : ca + co = cs) (hs2 : cp + cq = cs) :
    Calls Tryz.prog 6 #[.slice A a.length c, .slice A2 b.length c2, .int .u64 (n : Int)] w fun e w' => e = .returned (.bool true) ∧ Below w.heap.size w w' := by
  have CGa := Lib.hid (fun (v : Value) (W : World) (h : Gs2 eSp W 0 W.heap.size v a) => great_is v a false W ha hla h)
  have CGb := Lib.hid (fun (v : Value) (W : World) (h : Gs2 eSp W 0 W.heap.size v b) => great_is v b false W hb hlb h)
  have h60a := (grt_no ha).1
  have h60b := (grt_no hb).1
  have CSA := Lib.hid (fun (v : Value) (W : World) (h1 : Tb W) (h2 : Gs2 eSp W 0 W.heap.size v a) => lspans_any v a P W hP h1 h2 (by omega))
  have CSB := Lib.hid (fun (v : Value) (W : World) (h1 : Tb W) (h2 : Gs2 eSp W 0 W.heap.size v b) => lspans_any v b Q W hQ h1 h2 (by omega))
  have CSZ := Lib.hid (fun (v : Value) (W : World) (h1 : Tb W) (h2 : Gs2 eSp W 0 W.heap.size v [((0 : UInt64), nn)]) => lspans_any v _ Z W hZ h1 h2 (by simp))
  have CNOT := Lib.hid (fun (v : Value) (R : Nat → Bool) (W : World) (h1 : Tb W) (h2 : St (fun _ => True) W v R) => show Calls Tryz.prog 24 #[v, .int .u64 (n : Int)] W (OfAns W fun x => fNot (Z x) (R x)) from hZ ▸ rest_p v R nn n W hnn h1 h2)
  have CLA := Lib.hid (fun (v : Value) (W : World) (h : St (fun _ => True) W v fun x => fAnd (P x) (Q x)) => setlen_c v _ ca W h hN.a)
  have CLO := Lib.hid (fun (v : Value) (W : World) (h : St (fun _ => True) W v fun x => fOr (P x) (Q x)) => setlen_c v _ co W h hN.o)
  have CLP := Lib.hid (fun (v : Value) (W : World) (h : St (fun _ => True) W v P) => setlen_c v P cp W h hN.p)
  have CLQ := Lib.hid (fun (v : Value) (W : World) (h : St (fun _ => True) W v Q) => setlen_c v Q cq W h hN.q)
  have CLZ := Lib.hid (fun (v : Value) (W : World) (h : St (fun _ => True) W v fun x => fAnd (fNot (P x) (Q x)) (Q x)) => setlen_c v _ 0 W h (ct_zero fun x _ => by cases P x <;> cases Q x <;> rfl))
  obtain ⟨w1, w2, w1b, w2b⟩ := hN.wraps hs1 hs2
  have g1 : decide ((n : Int) > 500000) = false := decide_eq_false (by omega)
  have g1n : decide (n > 500000) = false := decide_eq_false (by omega)
  have HNN := Lib.hid hnn
  have TT := Lib.hid hT
  have HA := Lib.hid hva
  have HB := Lib.hid hvb
  clear hT hva hvb ha hb hla hlb h60a h60b hs1 hs2 hN hP hQ hZ hn hnn
  refine (callsIn_wide (n := 3)).1 ?_
  refine callsIn_of_wp_marks Tryz.func6 rfl trivial ?_ rfl
  refine wpIn_wide.2 ?_
  simp only [Tryz.ntmps6, List.size_toArray, List.length_cons, List.length_nil, Nat.reduceAdd, Nat.reduceSub, Array.replicate_succ, Array.replicate_zero, List.push_toArray, List.append_toArray, List.nil_append, List.cons_append]
  go_wp2_with fail
  have bq1 := bx w (.cells #[.bool false] 4)
  have gX_1 := Row.new w 4 #[.bool false]
  generalize w.alloc (.cells #[.bool false] 4) = u1 at *
  have X_1 := Lib.hid gX_1
  have A_1 := Lib.hid (HA.out.step bq1)
  have B_1 := Lib.hid (HB.out.step bq1)
  have B1 := Lib.hid bq1
  clear bq1 HA HB gX_1
  refine (CGa.out _ u1 A_1.out).mono ?_
  rintro e u2 ⟨rfl, bq2⟩
  have A_2 := Lib.hid (A_1.out.step bq2)
  have B_2 := Lib.hid (B_1.out.step bq2)
  have X_2 := Lib.hid (X_1.out.below bq2 X_1.out.lt)
  have B2 := Lib.hid (below_both B1.out bq2)
  clear bq2 A_1 B_1 X_1
  go_wp2_with fail
  refine (CGb.out _ u2 B_2.out).mono ?_
  rintro e u3 ⟨rfl, bq3⟩
  have A_3 := Lib.hid (A_2.out.step bq3)
  have B_3 := Lib.hid (B_2.out.step bq3)
  have X_3 := Lib.hid (X_2.out.below bq3 X_2.out.lt)
  have B3 := Lib.hid (below_both B2.out bq3)
  clear bq3 A_2 B_2 X_2
  go_wp2_with fail
  refine (CSA.out _ u3 (TT.out.step B3.out) A_3.out).mono ?_
  rintro e u4 ⟨b4, rfl, t4, bq4⟩
  have S_4 := Lib.hid t4
  have B_4 := Lib.hid (B_3.out.step bq4)
  have X_4 := Lib.hid (X_3.out.below bq4 X_3.out.lt)
  have B4 := Lib.hid (below_both B3.out bq4)
  clear bq4 A_3 B_3 X_3 t4
  go_wp2_with fail
  refine (CSB.out _ u4 (TT.out.step B4.out) B_4.out).mono ?_
  rintro e u5 ⟨b5, rfl, t5, bq5⟩
  have Y_5 := Lib.hid t5
  have X_5 := Lib.hid (X_4.out.below bq5 X_4.out.lt)
  have S_5 := Lib.hid (S_4.out.step bq5)
  have B5 := Lib.hid (below_both B4.out bq5)
  clear bq5 B_4 X_4 S_4 t5
  go_wp2_with fail
  refine (and_p _ _ P Q u5 (TT.out.step B5.out) S_5.out Y_5.out).mono ?_
  rintro e u6 ⟨b6, rfl, t6, bq6⟩
  have AN_6 := Lib.hid t6
  have X_6 := Lib.hid (X_5.out.below bq6 X_5.out.lt)
  have S_6 := Lib.hid (S_5.out.step bq6)
  have Y_6 := Lib.hid (Y_5.out.step bq6)
  have B6 := Lib.hid (below_both B5.out bq6)
  clear bq6 X_5 S_5 Y_5 t6
  go_wp2_with fail
  refine (or_p _ _ P Q u6 (TT.out.step B6.out) S_6.out Y_6.out).mono ?_
  rintro e u7 ⟨b7, rfl, t7, bq7⟩
  have OR_7 := Lib.hid t7
  have X_7 := Lib.hid (X_6.out.below bq7 X_6.out.lt)
  have S_7 := Lib.hid (S_6.out.step bq7)
  have Y_7 := Lib.hid (Y_6.out.step bq7)
  have AN_7 := Lib.hid (AN_6.out.step bq7)
  have B7 := Lib.hid (below_both B6.out bq7)
  clear bq7 X_6 S_6 Y_6 AN_6 t7
  go_wp2_with fail
  refine (not_p _ _ P Q u7 (TT.out.step B7.out) S_7.out Y_7.out).mono ?_
  rintro e u8 ⟨b8, rfl, t8, bq8⟩
  have RE_8 := Lib.hid t8
  have X_8 := Lib.hid (X_7.out.below bq8 X_7.out.lt)
  have S_8 := Lib.hid (S_7.out.step bq8)
  have Y_8 := Lib.hid (Y_7.out.step bq8)
  have AN_8 := Lib.hid (AN_7.out.step bq8)
  have OR_8 := Lib.hid (OR_7.out.step bq8)
  have B8 := Lib.hid (below_both B7.out bq8)
  clear bq8 X_7 S_7 Y_7 AN_7 OR_7 t8
  go_wp2_with fail
  refine (xor_p _ _ P Q u8 (TT.out.step B8.out) S_8.out Y_8.out).mono ?_
  rintro e u9 ⟨b9, rfl, t9, bq9⟩
  have XO_9 := Lib.hid t9
  have X_9 := Lib.hid (X_8.out.below bq9 X_8.out.lt)
  have S_9 := Lib.hid (S_8.out.step bq9)
  have Y_9 := Lib.hid (Y_8.out.step bq9)
  have AN_9 := Lib.hid (AN_8.out.step bq9)
  have OR_9 := Lib.hid (OR_8.out.step bq9)
  have RE_9 := Lib.hid (RE_8.out.step bq9)
  have B9 := Lib.hid (below_both B8.out bq9)
  clear bq9 X_8 S_8 Y_8 AN_8 OR_8 RE_8 t9
  go_wp2_with fail
  refine (or_p _ _ _ _ u9 (TT.out.step B9.out) AN_9.out XO_9.out).mono ?_
  rintro e u10 ⟨b10, rfl, t10, bq10⟩
  have U_10 := Lib.hid t10
  have X_10 := Lib.hid (X_9.out.below bq10 X_9.out.lt)
  have S_10 := Lib.hid (S_9.out.step bq10)
  have Y_10 := Lib.hid (Y_9.out.step bq10)
  have AN_10 := Lib.hid (AN_9.out.step bq10)
  have OR_10 := Lib.hid (OR_9.out.step bq10)
  have RE_10 := Lib.hid (RE_9.out.step bq10)
  have XO_10 := Lib.hid (XO_9.out.step bq10)
  have B10 := Lib.hid (below_both B9.out bq10)
  clear bq10 X_9 S_9 Y_9 AN_9 OR_9 RE_9 XO_9 t10
  go_wp2_with fail
  refine (same_p _ _ _ _ u10 (fun x => by cases P x <;> cases Q x <;> rfl) (TT.out.step B10.out) U_10.out OR_10.out).mono ?_
  rintro e u11 ⟨rfl, bq11⟩
  have X_11 := Lib.hid (X_10.out.below bq11 X_10.out.lt)
  have S_11 := Lib.hid (S_10.out.step bq11)
  have Y_11 := Lib.hid (Y_10.out.step bq11)
  have AN_11 := Lib.hid (AN_10.out.step bq11)
  have OR_11 := Lib.hid (OR_10.out.step bq11)
  have RE_11 := Lib.hid (RE_10.out.step bq11)
  have XO_11 := Lib.hid (XO_10.out.step bq11)
  have B11 := Lib.hid (below_both B10.out bq11)
  clear bq11 X_10 S_10 Y_10 AN_10 OR_10 RE_10 XO_10 U_10
  go_wp2_with fail
  refine (or_p _ _ _ _ u11 (TT.out.step B11.out) RE_11.out AN_11.out).mono ?_
  rintro e u12 ⟨b12, rfl, t12, bq12⟩
  have U_12 := Lib.hid t12
  have X_12 := Lib.hid (X_11.out.below bq12 X_11.out.lt)
  have S_12 := Lib.hid (S_11.out.step bq12)
  have Y_12 := Lib.hid (Y_11.out.step bq12)
  have AN_12 := Lib.hid (AN_11.out.step bq12)
  have OR_12 := Lib.hid (OR_11.out.step bq12)
  have RE_12 := Lib.hid (RE_11.out.step bq12)
  have XO_12 := Lib.hid (XO_11.out.step bq12)
  have B12 := Lib.hid (below_both B11.out bq12)
  clear bq12 X_11 S_11 Y_11 AN_11 OR_11 RE_11 XO_11 t12
  go_wp2_with fail
  refine (same_p _ _ _ _ u12 (fun x => by cases P x <;> cases Q x <;> rfl) (TT.out.step B12.out) U_12.out S_12.out).mono ?_
  rintro e u13 ⟨rfl, bq13⟩
  have X_13 := Lib.hid (X_12.out.below bq13 X_12.out.lt)
  have S_13 := Lib.hid (S_12.out.step bq13)
  have Y_13 := Lib.hid (Y_12.out.step bq13)
  have AN_13 := Lib.hid (AN_12.out.step bq13)
  have OR_13 := Lib.hid (OR_12.out.step bq13)
  have RE_13 := Lib.hid (RE_12.out.step bq13)
  have XO_13 := Lib.hid (XO_12.out.step bq13)
  have B13 := Lib.hid (below_both B12.out bq13)
  clear bq13 X_12 S_12 Y_12 AN_12 OR_12 RE_12 XO_12 U_12
  go_wp2_with fail
  refine (and_p _ _ _ _ u13 (TT.out.step B13.out) RE_13.out Y_13.out).mono ?_
  rintro e u14 ⟨b14, rfl, t14, bq14⟩
  have U_14 := Lib.hid t14
  have X_14 := Lib.hid (X_13.out.below bq14 X_13.out.lt)
  have S_14 := Lib.hid (S_13.out.step bq14)
  have Y_14 := Lib.hid (Y_13.out.step bq14)
  have AN_14 := Lib.hid (AN_13.out.step bq14)
  have OR_14 := Lib.hid (OR_13.out.step bq14)
  have XO_14 := Lib.hid (XO_13.out.step bq14)
  have B14 := Lib.hid (below_both B13.out bq14)
  clear bq14 X_13 S_13 Y_13 AN_13 OR_13 RE_13 XO_13 t14
  go_wp2_with fail
  refine (CLZ.out _ u14 U_14.out).mono ?_
  rintro e u15 ⟨rfl, bq15⟩
  have X_15 := Lib.hid (X_14.out.below bq15 X_14.out.lt)
  have S_15 := Lib.hid (S_14.out.step bq15)
  have Y_15 := Lib.hid (Y_14.out.step bq15)
  have AN_15 := Lib.hid (AN_14.out.step bq15)
  have OR_15 := Lib.hid (OR_14.out.step bq15)
  have XO_15 := Lib.hid (XO_14.out.step bq15)
  have B15 := Lib.hid (below_both B14.out bq15)
  clear bq15 X_14 S_14 Y_14 AN_14 OR_14 XO_14 U_14
  go_wp2_with fail
  refine (xor_p _ _ _ _ u15 (TT.out.step B15.out) XO_15.out Y_15.out).mono ?_
  rintro e u16 ⟨b16, rfl, t16, bq16⟩
  have U_16 := Lib.hid t16
  have X_16 := Lib.hid (X_15.out.below bq16 X_15.out.lt)
  have S_16 := Lib.hid (S_15.out.step bq16)
  have Y_16 := Lib.hid (Y_15.out.step bq16)
  have AN_16 := Lib.hid (AN_15.out.step bq16)
  have OR_16 := Lib.hid (OR_15.out.step bq16)
  have B16 := Lib.hid (below_both B15.out bq16)
  clear bq16 X_15 S_15 Y_15 AN_15 OR_15 XO_15 t16
  go_wp2_with fail
  refine (same_p _ _ _ _ u16 (fun x => by cases P x <;> cases Q x <;> rfl) (TT.out.step B16.out) U_16.out S_16.out).mono ?_
  rintro e u17 ⟨rfl, bq17⟩
  have X_17 := Lib.hid (X_16.out.below bq17 X_16.out.lt)
  have S_17 := Lib.hid (S_16.out.step bq17)
  have Y_17 := Lib.hid (Y_16.out.step bq17)
  have AN_17 := Lib.hid (AN_16.out.step bq17)
  have OR_17 := Lib.hid (OR_16.out.step bq17)
  have B17 := Lib.hid (below_both B16.out bq17)
  clear bq17 X_16 S_16 Y_16 AN_16 OR_16 U_16
  go_wp2_with fail
  refine (CLA.out _ u17 AN_17.out).mono ?_
  rintro e u18 ⟨rfl, bq18⟩
  have X_18 := Lib.hid (X_17.out.below bq18 X_17.out.lt)
  have S_18 := Lib.hid (S_17.out.step bq18)
  have Y_18 := Lib.hid (Y_17.out.step bq18)
  have AN_18 := Lib.hid (AN_17.out.step bq18)
  have OR_18 := Lib.hid (OR_17.out.step bq18)
  have B18 := Lib.hid (below_both B17.out bq18)
  clear bq18 X_17 S_17 Y_17 AN_17 OR_17
  go_wp2_with fail
  refine (CLO.out _ u18 OR_18.out).mono ?_
  rintro e u19 ⟨rfl, bq19⟩
  have X_19 := Lib.hid (X_18.out.below bq19 X_18.out.lt)
  have S_19 := Lib.hid (S_18.out.step bq19)
  have Y_19 := Lib.hid (Y_18.out.step bq19)
  have AN_19 := Lib.hid (AN_18.out.step bq19)
  have OR_19 := Lib.hid (OR_18.out.step bq19)
  have B19 := Lib.hid (below_both B18.out bq19)
  clear bq19 X_18 S_18 Y_18 AN_18 OR_18
  go_wp2_with fail
  refine (CLP.out _ u19 S_19.out).mono ?_
  rintro e u20 ⟨rfl, bq20⟩
  have X_20 := Lib.hid (X_19.out.below bq20 X_19.out.lt)
  have S_20 := Lib.hid (S_19.out.step bq20)
  have Y_20 := Lib.hid (Y_19.out.step bq20)
  have AN_20 := Lib.hid (AN_19.out.step bq20)
  have OR_20 := Lib.hid (OR_19.out.step bq20)
  have B20 := Lib.hid (below_both B19.out bq20)
  clear bq20 X_19 S_19 Y_19 AN_19 OR_19
  go_wp2_with fail
  refine (CLQ.out _ u20 Y_20.out).mono ?_
  rintro e u21 ⟨rfl, bq21⟩
  have X_21 := Lib.hid (X_20.out.below bq21 X_20.out.lt)
  have S_21 := Lib.hid (S_20.out.step bq21)
  have Y_21 := Lib.hid (Y_20.out.step bq21)
  have AN_21 := Lib.hid (AN_20.out.step bq21)
  have OR_21 := Lib.hid (OR_20.out.step bq21)
  have B21 := Lib.hid (below_both B20.out bq21)
  clear bq21 X_20 S_20 Y_20 AN_20 OR_20
  go_wp2_with fail
  refine (and_p _ _ _ _ u21 (TT.out.step B21.out) Y_21.out S_21.out).mono ?_
  rintro e u22 ⟨b22, rfl, t22, bq22⟩
  have U_22 := Lib.hid t22
  have X_22 := Lib.hid (X_21.out.below bq22 X_21.out.lt)
  have S_22 := Lib.hid (S_21.out.step bq22)
  have Y_22 := Lib.hid (Y_21.out.step bq22)
  have AN_22 := Lib.hid (AN_21.out.step bq22)
  have OR_22 := Lib.hid (OR_21.out.step bq22)
  have B22 := Lib.hid (below_both B21.out bq22)
  clear bq22 X_21 S_21 Y_21 AN_21 OR_21 t22
  go_wp2_with fail
  refine (same_p _ _ _ _ u22 (fun x => by cases P x <;> cases Q x <;> rfl) (TT.out.step B22.out) U_22.out AN_22.out).mono ?_
  rintro e u23 ⟨rfl, bq23⟩
  have X_23 := Lib.hid (X_22.out.below bq23 X_22.out.lt)
  have S_23 := Lib.hid (S_22.out.step bq23)
  have Y_23 := Lib.hid (Y_22.out.step bq23)
  have OR_23 := Lib.hid (OR_22.out.step bq23)
  have B23 := Lib.hid (below_both B22.out bq23)
  clear bq23 X_22 S_22 Y_22 AN_22 OR_22 U_22
  go_wp2_with fail
  refine (or_p _ _ _ _ u23 (TT.out.step B23.out) Y_23.out S_23.out).mono ?_
  rintro e u24 ⟨b24, rfl, t24, bq24⟩
  have U_24 := Lib.hid t24
  have X_24 := Lib.hid (X_23.out.below bq24 X_23.out.lt)
  have S_24 := Lib.hid (S_23.out.step bq24)
  have OR_24 := Lib.hid (OR_23.out.step bq24)
  have B24 := Lib.hid (below_both B23.out bq24)
  clear bq24 X_23 S_23 Y_23 OR_23 t24
  go_wp2_with fail
  refine (same_p _ _ _ _ u24 (fun x => by cases P x <;> cases Q x <;> rfl) (TT.out.step B24.out) U_24.out OR_24.out).mono ?_
  rintro e u25 ⟨rfl, bq25⟩
  have X_25 := Lib.hid (X_24.out.below bq25 X_24.out.lt)
  have S_25 := Lib.hid (S_24.out.step bq25)
  have B25 := Lib.hid (below_both B24.out bq25)
  clear bq25 X_24 S_24 OR_24 U_24
  go_wp2_with fail
  have bq26 := bx u25 (.cells #[.int .u64 0, .int .u64 (n : Int)] 34)
  have gL_26 := (show Gs2 eSp (u25.alloc (.cells #[.int .u64 0, .int .u64 (n : Int)] 34)) 0 (u25.alloc (.cells #[.int .u64 0, .int .u64 (n : Int)] 34)).heap.size (.slice (some ⟨u25.heap.size, 0, none⟩) 1 1) [((0 : UInt64), nn)] from lit_span u25 ((0 : UInt64), nn) 0 n rfl HNN.out)
  generalize u25.alloc (.cells #[.int .u64 0, .int .u64 (n : Int)] 34) = u26 at *
  have L_26 := Lib.hid gL_26
  have X_26 := Lib.hid (X_25.out.below bq26 X_25.out.lt)
  have S_26 := Lib.hid (S_25.out.step bq26)
  have B26 := Lib.hid (below_both B25.out bq26)
  clear bq26 X_25 S_25 gL_26
  refine (CSZ.out _ u26 (TT.out.step B26.out) L_26.out).mono ?_
  rintro e u27 ⟨b27, rfl, t27, bq27⟩
  have Z_27 := Lib.hid t27
  have X_27 := Lib.hid (X_26.out.below bq27 X_26.out.lt)
  have S_27 := Lib.hid (S_26.out.step bq27)
  have B27 := Lib.hid (below_both B26.out bq27)
  clear bq27 X_26 S_26 L_26 t27
  go_wp2_with fail
  refine (CNOT.out _ P u27 (TT.out.step B27.out) S_27.out).mono ?_
  rintro e u28 ⟨b28, rfl, t28, bq28⟩
  have U_28 := Lib.hid t28
  have X_28 := Lib.hid (X_27.out.below bq28 X_27.out.lt)
  have S_28 := Lib.hid (S_27.out.step bq28)
  have Z_28 := Lib.hid (Z_27.out.step bq28)
  have B28 := Lib.hid (below_both B27.out bq28)
  clear bq28 X_27 S_27 Z_27 t28
  go_wp2_with fail
  refine (not_p _ _ _ _ u28 (TT.out.step B28.out) Z_28.out S_28.out).mono ?_
  rintro e u29 ⟨b29, rfl, t29, bq29⟩
  have V_29 := Lib.hid t29
  have X_29 := Lib.hid (X_28.out.below bq29 X_28.out.lt)
  have S_29 := Lib.hid (S_28.out.step bq29)
  have Z_29 := Lib.hid (Z_28.out.step bq29)
  have U_29 := Lib.hid (U_28.out.step bq29)
  have B29 := Lib.hid (below_both B28.out bq29)
  clear bq29 X_28 S_28 Z_28 U_28 t29
  go_wp2_with fail
  refine (same_p _ _ _ _ u29 (fun x => by cases P x <;> cases Z x <;> rfl) (TT.out.step B29.out) U_29.out V_29.out).mono ?_
  rintro e u30 ⟨rfl, bq30⟩
  have X_30 := Lib.hid (X_29.out.below bq30 X_29.out.lt)
  have S_30 := Lib.hid (S_29.out.step bq30)
  have Z_30 := Lib.hid (Z_29.out.step bq30)
  have B30 := Lib.hid (below_both B29.out bq30)
  clear bq30 X_29 S_29 Z_29 U_29 V_29
  go_wp2_with fail
  refine (CNOT.out _ P u30 (TT.out.step B30.out) S_30.out).mono ?_
  rintro e u31 ⟨b31, rfl, t31, bq31⟩
  have U_31 := Lib.hid t31
  have X_31 := Lib.hid (X_30.out.below bq31 X_30.out.lt)
  have S_31 := Lib.hid (S_30.out.step bq31)
  have Z_31 := Lib.hid (Z_30.out.step bq31)
  have B31 := Lib.hid (below_both B30.out bq31)
  clear bq31 X_30 S_30 Z_30 t31
  go_wp2_with fail
  refine (CNOT.out _ _ u31 (TT.out.step B31.out) U_31.out).mono ?_
  rintro e u32 ⟨b32, rfl, t32, bq32⟩
  have V_32 := Lib.hid t32
  have X_32 := Lib.hid (X_31.out.below bq32 X_31.out.lt)
  have S_32 := Lib.hid (S_31.out.step bq32)
  have Z_32 := Lib.hid (Z_31.out.step bq32)
  have B32 := Lib.hid (below_both B31.out bq32)
  clear bq32 X_31 S_31 Z_31 U_31 t32
  go_wp2_with fail
  refine (and_p _ _ _ _ u32 (TT.out.step B32.out) S_32.out Z_32.out).mono ?_
  rintro e u33 ⟨b33, rfl, t33, bq33⟩
  have U2_33 := Lib.hid t33
  have X_33 := Lib.hid (X_32.out.below bq33 X_32.out.lt)
  have S_33 := Lib.hid (S_32.out.step bq33)
  have Z_33 := Lib.hid (Z_32.out.step bq33)
  have V_33 := Lib.hid (V_32.out.step bq33)
  have B33 := Lib.hid (below_both B32.out bq33)
  clear bq33 X_32 S_32 Z_32 V_32 t33
  go_wp2_with fail
  refine (same_p _ _ _ _ u33 (fun x => by cases P x <;> cases Z x <;> rfl) (TT.out.step B33.out) V_33.out U2_33.out).mono ?_
  rintro e u34 ⟨rfl, bq34⟩
  have X_34 := Lib.hid (X_33.out.below bq34 X_33.out.lt)
  have S_34 := Lib.hid (S_33.out.step bq34)
  have Z_34 := Lib.hid (Z_33.out.step bq34)
  have B34 := Lib.hid (below_both B33.out bq34)
  clear bq34 X_33 S_33 Z_33 V_33 U2_33
  have TW := Lib.hid (TT.out.step B34.out)
  go_wp2_with fail
  have bq35 := bx u34 (.cells #[.slice none 0 0] 82)
  have gO_35 := Row.new u34 82 #[.slice none 0 0]
  generalize u34.alloc (.cells #[.slice none 0 0] 82) = u35 at *
  have O_35 := Lib.hid gO_35
  have B35 := Lib.hid bq35
  clear bq35 gO_35
  refine (add_nil 1 u35).mono ?_
  rintro e u36 ⟨rfl, bq36⟩
  have O_36 := Lib.hid (O_35.out.below bq36 O_35.out.lt)
  have B36 := Lib.hid (below_both B35.out bq36)
  clear bq36 O_35
  go_wp2_with fail
  refine (addRange_nil 0 9 u36).mono ?_
  rintro e u37 ⟨rfl, bq37⟩
  have O_37 := Lib.hid (O_36.out.below bq37 O_36.out.lt)
  have B37 := Lib.hid (below_both B36.out bq37)
  clear bq37 O_36
  go_wp2_with fail
  refine (all_nil u37).mono ?_
  rintro e u38 ⟨A38, rfl, t38, bq38⟩
  have I_38 := Lib.hid t38
  have O_38 := Lib.hid (O_37.out.below bq38 O_37.out.lt)
  have B38 := Lib.hid (below_both B37.out bq38)
  clear bq38 O_37 t38
  have hq := fun W => run_eql_func_nil (P := Tryz.prog) W 53 _ _ _ (.func 84) #[] #[.pointer (some ⟨A38, 0, none⟩)] Tryz.underlying53
  go_wp2_with fail
  refine (all_nil u38).mono ?_
  rintro e u39 ⟨AA, rfl, t39, bq39⟩
  have I_39 := Lib.hid t39
  have O_39 := Lib.hid (O_38.out.below bq39 O_38.out.lt)
  have B39 := Lib.hid (below_both B38.out bq39)
  clear bq39 O_38 t39
  clear hq
  go_wp2_with fail
  have HSEQ : SeqStopsK Fence.wide (3 - 1) Tryz.prog 84 #[.pointer (some ⟨AA, 0, none⟩)] (fun x : Empty => x.elim) (Below 0) (fun _ => True) (fun _ => False) 0 u39 := fun l J Jx W hW hJ hJx hY h0 =>
    callsIn_wide.2 ((all1_nil _ AA W (I_39.out.below hW I_39.out.lt)).mono fun e W' ⟨h1, h2⟩ => ⟨h1, .inl ⟨[], trivial, by rw [h2]; exact h0⟩⟩)
  refine (wpIn_wide (n := 3)).1 ?_
  refine wpIn_rangeFunc_ownF (F := Fence.wide) (α := Empty) rfl (by omega) (gf := 84) (lb := #[.pointer (some ⟨AA, 0, none⟩)]) rfl trivial (enters_of Tryz.func84 (by kernel_rfl) rfl) HSEQ belowK_t (belowK_b (Nat.zero_le _)) (Below.refl _ _) (fun x => x.elim)
    (fun _ W => Below u39.heap.size u39 W) (fun _ _ _ => False) (ownFrom_below (Nat.le_refl _) (Nat.le_refl _)) (fun c s W W' row hs _ _ => hs) (Below.refl _ _) (fun x => x.elim) (fun l x => x.elim) (fun l pre x => x.elim) ?_ (fun D c pre W _ h => h.elim)
  rintro D xs u40 hD - bq40 hK
  have HK40 := Lib.hid hK
  have HDZ : Hid (u34.heap.size < D) := Lib.hid (Nat.lt_of_lt_of_le O_39.out.lt hD)
  have O_40 := Lib.hid (O_39.out.below bq40 O_39.out.lt)
  have B40 := Lib.hid (below_both B39.out bq40)
  clear bq40 O_39 I_39 HSEQ hK hD
  go_wp2_with fail
  refine (add_zero u34.heap.size 7 u40 (TW.out.step B40.out) O_40.out (by omega) (fun W o => TW.out.step (B40.out.trans (o.below (fun k _ hk => Nat.le_of_eq hk.symm) B40.out.size)))).mono ?_
  rintro e u41 ⟨rfl, tz, oo⟩
  have bA : Below u34.heap.size u40 u41 := oo.below (fun k _ hk => Nat.le_of_eq hk.symm) B40.out.size
  have B41 := Lib.hid (B40.out.trans bA)
  have K_41 := Lib.hid ((oo.block D (Array.getElem?_eq_some_iff.1 HK40.out).1 (fun e => by have := HDZ.out; omega)).trans HK40.out)
  have O_41 := Lib.hid tz
  clear tz oo bA HK40 O_40
  go_wp2_with fail
  refine (len_none u41).mono ?_
  rintro e u42 ⟨rfl, bq42⟩
  have K_42 := Lib.hid (keepD K_41.out bq42)
  have O_42 := Lib.hid (O_41.out.step bq42)
  have B42 := Lib.hid (below_both B41.out bq42)
  clear bq42 O_41 K_41
  go_wp2_with fail
  refine (has_nil u42).mono ?_
  rintro e u43 ⟨rfl, bq43⟩
  have K_43 := Lib.hid (keepD K_42.out bq43)
  have O_43 := Lib.hid (O_42.out.step bq43)
  have B43 := Lib.hid (below_both B42.out bq43)
  clear bq43 O_42 K_42
  go_wp2_with fail
  refine (or_p _ _ (fun _ => false) P u43 (TW.out.step B43.out) (.none fun _ _ => rfl) (S_34.out.step B43.out)).mono ?_
  rintro e u44 ⟨b44, rfl, t44, bq44⟩
  have U_44 := Lib.hid t44
  have K_44 := Lib.hid (keepD K_43.out bq44)
  have O_44 := Lib.hid (O_43.out.step bq44)
  have B44 := Lib.hid (below_both B43.out bq44)
  clear bq44 O_43 t44 K_43
  go_wp2_with fail
  refine (same_p _ _ _ _ u44 (fun x => by cases P x <;> rfl) (TW.out.step B44.out) U_44.out (S_34.out.step B44.out)).mono ?_
  rintro e u45 ⟨rfl, bq45⟩
  have K_45 := Lib.hid (keepD K_44.out bq45)
  have O_45 := Lib.hid (O_44.out.step bq45)
  have B45 := Lib.hid (below_both B44.out bq45)
  clear bq45 O_44 U_44 K_44
  go_wp2_with fail
  refine (not_p _ _ P (fun _ => false) u45 (TW.out.step B45.out) (S_34.out.step B45.out) (.none fun _ _ => rfl)).mono ?_
  rintro e u46 ⟨b46, rfl, t46, bq46⟩
  have U_46 := Lib.hid t46
  have K_46 := Lib.hid (keepD K_45.out bq46)
  have O_46 := Lib.hid (O_45.out.step bq46)
  have B46 := Lib.hid (below_both B45.out bq46)
  clear bq46 O_45 t46 K_45
  go_wp2_with fail
  refine (same_p _ _ _ _ u46 (fun x => by cases P x <;> rfl) (TW.out.step B46.out) U_46.out (S_34.out.step B46.out)).mono ?_
  rintro e u47 ⟨rfl, bq47⟩
  have K_47 := Lib.hid (keepD K_46.out bq47)
  have O_47 := Lib.hid (O_46.out.step bq47)
  have B47 := Lib.hid (below_both B46.out bq47)
  clear bq47 O_46 U_46 K_46
  go_wp2_with fail
  refine (new_st u47).mono ?_
  rintro e u48 ⟨b48, rfl, t48, bq48⟩
  have U_48 := Lib.hid t48
  have K_48 := Lib.hid (keepD K_47.out bq48)
  have O_48 := Lib.hid (O_47.out.step bq48)
  have B48 := Lib.hid (below_both B47.out bq48)
  clear bq48 O_47 t48 K_47
  go_wp2_with fail
  refine (same_p _ _ (fun _ => false) _ u48 (fun _ => rfl) (TW.out.step B48.out) (.none fun _ _ => rfl) U_48.out).mono ?_
  rintro e u49 ⟨rfl, bq49⟩
  have K_49 := Lib.hid (keepD K_48.out bq49)
  have O_49 := Lib.hid (O_48.out.step bq49)
  have B49 := Lib.hid (below_both B48.out bq49)
  clear bq49 O_48 U_48 K_48
  go_wp2_with fail
  refine (CNOT.out _ (fun _ => false) u49 (TW.out.step B49.out) (.none fun _ _ => rfl)).mono ?_
  rintro e u50 ⟨b50, rfl, t50, bq50⟩
  have U_50 := Lib.hid t50
  have K_50 := Lib.hid (keepD K_49.out bq50)
  have O_50 := Lib.hid (O_49.out.step bq50)
  have B50 := Lib.hid (below_both B49.out bq50)
  clear bq50 O_49 t50 K_49
  go_wp2_with fail
  refine (same_p _ _ _ _ u50 (fun x => by cases Z x <;> rfl) (TW.out.step B50.out) U_50.out (Z_34.out.step B50.out)).mono ?_
  rintro e u51 ⟨rfl, bq51⟩
  have K_51 := Lib.hid (keepD K_50.out bq51)
  have O_51 := Lib.hid (O_50.out.step bq51)
  have B51 := Lib.hid (below_both B50.out bq51)
  clear bq51 O_50 U_50 K_50
  go_wp2_with fail
  refine (runs_nil u51 (TW.out.step B51.out)).mono ?_
  rintro e u52 ⟨A52, c52, rfl, bq52⟩
  have K_52 := Lib.hid (keepD K_51.out bq52)
  have O_52 := Lib.hid (O_51.out.step bq52)
  have B52 := Lib.hid (below_both B51.out bq52)
  clear bq52 O_51 K_51
  go_wp2_with fail
  refine (copy_nil u52).mono ?_
  rintro e u53 ⟨b53, rfl, t53, bq53⟩
  have U_53 := Lib.hid t53
  have K_53 := Lib.hid (keepD K_52.out bq53)
  have O_53 := Lib.hid (O_52.out.step bq53)
  have B53 := Lib.hid (below_both B52.out bq53)
  clear bq53 O_52 t53 K_52
  go_wp2_with fail
  refine (len_empty _ u53 U_53.out).mono ?_
  rintro e u54 ⟨rfl, bq54⟩
  have K_54 := Lib.hid (keepD K_53.out bq54)
  have O_54 := Lib.hid (O_53.out.step bq54)
  have B54 := Lib.hid (below_both B53.out bq54)
  clear bq54 O_53 U_53 K_53
  go_wp2_with fail
  refine (has_seven _ u54 O_54.out).mono ?_
  rintro e u55 ⟨rfl, bq55⟩
  have K_55 := Lib.hid (keepD K_54.out bq55)
  have O_55 := Lib.hid (O_54.out.step bq55)
  have B55 := Lib.hid (below_both B54.out bq55)
  clear bq55 O_54 K_54
  go_wp2_with fail
  refine (len_seven _ u55 O_55.out).mono ?_
  rintro e u56 ⟨rfl, bq56⟩
  have K_56 := Lib.hid (keepD K_55.out bq56)
  have B56 := Lib.hid (below_both B55.out bq56)
  clear bq56 O_55 K_55
  go_wp2_with fail
  refine (known8 u56 (TW.out.step B56.out)).mono ?_
  rintro e u57 ⟨rfl, bq57⟩
  have K_57 := Lib.hid (keepD K_56.out bq57)
  have B57 := Lib.hid (below_both B56.out bq57)
  clear bq57 K_56
  have RX := Lib.hid (Row.below (X_34.out) B57.out X_34.out.lt)
  have c0 := RX.out.cell 0
  have f0 := RX.out.frozen 0
  have hBox : w.heap.size < u34.heap.size := X_34.out.lt
  have hne : D ≠ w.heap.size := by have := HDZ.out; omega
  go_wp2
  have hK' : (u57.setCell ⟨w.heap.size, 0, none⟩ (.bool true)).heap[D]? = some (.deferred (some [])) := (Below.heap_setCell u57 ⟨w.heap.size, 0, none⟩ _ _ hne).trans K_57.out
  have hc : ((u57.setCell ⟨w.heap.size, 0, none⟩ (.bool true)).putObj D (.deferred none)).cell? ⟨w.heap.size, 0, none⟩ = some (.bool true) :=
    (World.cell?_of_block (World.putObj_heap_other (k := w.heap.size) (Ne.symm hne))).trans (World.cell?_setCell_same' _ _ _ (by rw [c0]; rfl))
  have BF : Below w.heap.size w ((u57.setCell ⟨w.heap.size, 0, none⟩ (.bool true)).putObj D (.deferred none)) := ((below_both B34.out B57.out).setCell (p := ⟨w.heap.size, 0, none⟩) (Nat.le_refl _) _).trans (belowK_b (w := w) (Nat.le_refl _) _ D _ _ (by have := HDZ.out; omega) hK' rfl rfl)
  refine leaves_mark (D := D) (v := .bool true) rfl hK' ?_ ⟨rfl, BF⟩
  have hres : Tryz.f6.results = #[.cell 6 4] := by kernel_rfl
  simp only [results, hres]
  go_simp
end Go.Proofs.YtcmifbjeabkihaaGreatDoor
