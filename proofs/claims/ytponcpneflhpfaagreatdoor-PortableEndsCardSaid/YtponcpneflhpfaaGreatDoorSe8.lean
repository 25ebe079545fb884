/- Walks: PortableEnds, the whole road. -/
import Derived.Test.YtponcpneflhpfaaGreatDoorKPS
import Derived.Test.YtponcpneflhpfaaGreatDoorK34faS
import Derived.Test.YtponcpneflhpfaaGreatDoorK34fbS
import Derived.Test.YtponcpneflhpfaaGreatDoorSe3
namespace Go.Proofs.YtponcpneflhpfaaGreatDoor
open Go
set_option maxRecDepth 100000
set_option linter.unusedSimpArgs false
theorem portableEnds_closed : joinedFacts Tryz.prog 8 Tryz.f8 Rows.portableEndsSpec Rows.portableEndsRow = true := by
  unfold joinedFacts
  simp only [pg_laid, pg_maps, pg_heard, pg_enter, portableEnds_named, portableEnds_recurses, portableEnds_lifted_, portableEnds_inPlace, portableEnds_unfollowed, Bool.and_true, Bool.true_and]
  kernel_rfl
end Go.Proofs.YtponcpneflhpfaaGreatDoor
namespace Go.Proofs.YtponcpneflhpfaaGreatDoor
open Go.RowKit
set_option linter.unusedVariables false

theorem img_ge (P : Nat → Bool) : 8 ≤ (img (cso P)).length := by
  have := ahed_ge (cso P)
  rw [img_len]
  omega
theorem cut_any (P : Nat → Bool) (X : List UInt8) (n k c : Nat) (A : Option Addr) (w : World) (hX : img (cso P) = X) (hn : X.length = n) (hk : k < n) (hl : n ≤ 4000000) (hT : Tb w) (h : Gs e8 w 0 w.heap.size (.slice A n c) X) :
    Calls Tryz.prog 51 #[.slice A k c, .int .i64 0] w fun e w' => e = .returned (.tuple #[.pointer none, .int .i64 0, .int .i64 4]) ∧ Below w.heap.size w w' := by
  subst hn
  exact read_cut (i := 0) P (X.take k) X k w hT (h.take (by omega)) (by rw [List.length_take]; omega) (by omega) (by omega) (by rfl) hk hX (by omega)
theorem fst_any (P : Nat → Bool) (X Y : List UInt8) (n m c : Nat) (A : Option Addr) (w : World) (hX : img (cso P) = X) (hn : X.length = n) (hm : Y.length = m) (hl : n ≤ 4000000) (hl2 : m ≤ 4000000) (hT : Tb w) (h : Gs e8 w 0 w.heap.size (.slice A (n + m) c) ([] ++ X ++ Y)) :
    Calls Tryz.prog 51 #[.slice A (n + m) c, .int .i64 0] w (RdAns w 0 n P) :=
  read_yes (i := 0) P ([] ++ X ++ Y) X Y w hT h (by rw [List.nil_append, List.length_append, hn, hm]) (by omega) (by omega) (by rfl) hX hn
theorem snd_any (Q : Nat → Bool) (X Y : List UInt8) (n m c : Nat) (A : Option Addr) (w : World) (hY : img (cso Q) = Y) (hn : X.length = n) (hm : Y.length = m) (hl : n ≤ 4000000) (hl2 : m ≤ 4000000) (hT : Tb w) (h : Gs e8 w 0 w.heap.size (.slice A (n + m) c) ([] ++ X ++ Y)) :
    Calls Tryz.prog 51 #[.slice A (n + m) c, .int .i64 n] w (RdAns w n m Q) :=
  read_yes (i := n) Q ([] ++ X ++ Y) Y [] w hT h (by rw [List.nil_append, List.length_append, hn, hm]) (by omega) (by omega) (by rw [List.nil_append, List.append_nil, ← hn]; exact List.drop_left) hY hm
theorem past_any (n m c : Nat) (A : Option Addr) (w : World) (hl : n ≤ 4000000) (hl2 : m ≤ 4000000) :
    Calls Tryz.prog 51 #[.slice A (n + m) c, .int .i64 ((n : Int) + (m : Int) + 1)] w fun e w' => e = .returned (.tuple #[.pointer none, .int .i64 0, .int .i64 2]) ∧ Below w.heap.size w w' := by
  have h := read_arg (A := A) (c := c) (m := n + m) (i := n + m + 1) w (by omega) (by omega)
  simpa using h
theorem same_any9 (v u : Value) (P : Nat → Bool) (w : World) (hT : Tb w) (hv : St (fun _ => True) w v P) (hu : St (fun _ => True) w u P) :
    Calls Tryz.prog 28 #[v, u] w fun e w' => e = .returned (.bool true) ∧ Below w.heap.size w w' := by
  refine (setsame_c (N := fun _ => True) v u P P w hT (fun _ _ => trivial) hv hu).mono ?_
  rintro e w' ⟨B, rfl, h, b⟩
  have hB : B = true := h.2 fun _ _ => rfl
  subst hB
  exact ⟨rfl, b⟩
theorem cut_k {x n k : Nat} (h : x % n = k) (hk : k ≤ 4000000) : wrap64 ((x : Int) % (n : Int)) = (k : Int) := by
  have e : (x : Int) % (n : Int) = (k : Int) := by rw [← h]; rfl
  rw [e]
  unfold wrap64
  omega
set_option maxHeartbeats 16000000 in
set_option maxRecDepth 2000 in
theorem ends_any (A : Option Addr) (c : Nat) (a : List Sn) (A2 : Option Addr) (c2 : Nat) (b : List Sn) (z : Int) (w : World) (hT : Tb w) (hva : Gs2 eSp w 0 w.heap.size (.slice A a.length c) a) (hvb : Gs2 eSp w 0 w.heap.size (.slice A2 b.length c2) b) (hla : a.length ≤ 8796093022209) (hlb : b.length ≤ 8796093022209) :
    Calls Tryz.prog 8 #[.slice A a.length c, .slice A2 b.length c2, .int .i64 z] w fun e w' => e = .returned (.bool true) ∧ Below w.heap.size w w' := by
  have TT := Lib.hid hT
  have HA := Lib.hid hva
  have HB := Lib.hid hvb
  clear hT hva hvb
  go_enter Tryz.func8, Tryz.ntmps8
  go_wp2_with fail
  refine (great9_is _ a w hla HA.out).mono ?_
  rintro e u1 ⟨R1, rfl, hs1, bq1⟩
  have A_1 := Lib.hid (HA.out.step bq1)
  have B_1 := Lib.hid (HB.out.step bq1)
  have B1 := Lib.hid bq1
  clear bq1 HA HB
  cases R1 with
  | true =>
    go_wp2_with fail
    refine (known9 u1 (TT.out.step B1.out)).mono ?_
    rintro e u2 ⟨rfl, bq2⟩
    have B2 := Lib.hid (below_both B1.out bq2)
    clear bq2 A_1 B_1
    go_wp2
    go_ret
    exact ⟨rfl, B2.out⟩
  | false =>
    go_wp2_with fail
    refine (great9_is _ b u1 hlb B_1.out).mono ?_
    rintro e u2 ⟨R2, rfl, hs2, bq2⟩
    have A_2 := Lib.hid (A_1.out.step bq2)
    have B_2 := Lib.hid (B_1.out.step bq2)
    have B2 := Lib.hid (below_both B1.out bq2)
    clear bq2 A_1 B_1
    cases R2 with
    | true =>
      go_wp2_with fail
      refine (known9 u2 (TT.out.step B2.out)).mono ?_
      rintro e u3 ⟨rfl, bq3⟩
      have B3 := Lib.hid (below_both B2.out bq3)
      clear bq3 A_2 B_2
      go_wp2
      go_ret
      exact ⟨rfl, B3.out⟩
    | false =>
      obtain ⟨ga, la⟩ := hs1 (by simp)
      obtain ⟨gb, lb⟩ := hs2 (by simp)
      have ca := Nat.le_trans (ct_spans a) ga
      have cb := Nat.le_trans (ct_spans b) gb
      clear hs1 hs2 ga gb
      obtain ⟨P, hP⟩ : ∃ P, P = clp32 a := ⟨_, rfl⟩
      obtain ⟨Q, hQ⟩ : ∃ Q, Q = clp32 b := ⟨_, rfl⟩
      rw [← hP] at ca
      rw [← hQ] at cb
      obtain ⟨X, hX⟩ : ∃ X, img (cso P) = X := ⟨_, rfl⟩
      obtain ⟨Y, hY⟩ : ∃ Y, img (cso Q) = Y := ⟨_, rfl⟩
      obtain ⟨n1, hn1⟩ : ∃ n, X.length = n := ⟨_, rfl⟩
      obtain ⟨n2, hn2⟩ : ∃ n, Y.length = n := ⟨_, rfl⟩
      have hl1 : n1 ≤ 4000000 := by have := img_le P ca; rw [hX, hn1] at this; omega
      have hl2 : n2 ≤ 4000000 := by have := img_le Q cb; rw [hY, hn2] at this; omega
      have h0 : 1 ≤ n1 := by have := img_ge P; rw [hX, hn1] at this; omega
      have WX := Lib.hid (fun (v : Value) (W : World) (h1 : Tb W) (h2 : St (fun _ => True) W v P) => write_any v P X n1 W hX hn1 (by omega) h1 h2)
      have WY := Lib.hid (fun (v : Value) (W : World) (h1 : Tb W) (h2 : St (fun _ => True) W v Q) => write_any v Q Y n2 W hY hn2 (by omega) h1 h2)
      have SA := Lib.hid (fun (v : Value) (W : World) (h1 : Tb W) (h2 : Gs2 eSp W 0 W.heap.size v a) => spans_any v a P W hP h1 h2 (by omega))
      have SB := Lib.hid (fun (v : Value) (W : World) (h1 : Tb W) (h2 : Gs2 eSp W 0 W.heap.size v b) => spans_any v b Q W hQ h1 h2 (by omega))
      obtain ⟨x, hx⟩ : ∃ x : Nat, IntKind.u64.wrap z = (x : Int) := ⟨(IntKind.u64.wrap z).toNat, by rw [IntKind.wrap_u64]; omega⟩
      have hx6 : x < 18446744073709551616 := by rw [IntKind.wrap_u64] at hx; omega
      obtain ⟨k, hk⟩ : ∃ k, x % n1 = k := ⟨_, rfl⟩
      have hkn : k < n1 := by rw [← hk]; exact Nat.mod_lt _ (by omega)
      have hki : (k : Int) < n1 := by omega
      have h1i : (n1 : Int) ≤ 4000000 := by omega
      have h2i : (n2 : Int) ≤ 4000000 := by omega
      have h0i : (1 : Int) ≤ n1 := by omega
      have CU := Lib.hid (fun (A : Option Addr) (c : Nat) (W : World) (h1 : Tb W) (h2 : Gs e8 W 0 W.heap.size (.slice A n1 c) X) => cut_any P X n1 k c A W hX hn1 hkn hl1 h1 h2)
      have RX := Lib.hid (fun (A : Option Addr) (c : Nat) (W : World) (h1 : Tb W) (h2 : Gs e8 W 0 W.heap.size (.slice A (n1 + n2) c) ([] ++ X ++ Y)) => fst_any P X Y n1 n2 c A W hX hn1 hn2 hl1 hl2 h1 h2)
      have RY := Lib.hid (fun (A : Option Addr) (c : Nat) (W : World) (h1 : Tb W) (h2 : Gs e8 W 0 W.heap.size (.slice A (n1 + n2) c) ([] ++ X ++ Y)) => snd_any Q X Y n1 n2 c A W hY hn1 hn2 hl1 hl2 h1 h2)
      have AR := Lib.hid (fun (A : Option Addr) (c : Nat) (W : World) => past_any n1 n2 c A W hl1 hl2)
      have SP := Lib.hid (fun (v u : Value) (W : World) (h1 : Tb W) (h2 : St (fun _ => True) W v P) (h3 : St (fun _ => True) W u P) => same_any9 v u P W h1 h2 h3)
      have SQ := Lib.hid (fun (v u : Value) (W : World) (h1 : Tb W) (h2 : St (fun _ => True) W v Q) (h3 : St (fun _ => True) W u Q) => same_any9 v u Q W h1 h2 h3)
      have L1 := Lib.hid (show ([] : List UInt8).length + X.length ≤ 1000000000 by rw [List.length_nil]; omega)
      have L2 := Lib.hid (show ([] ++ X : List UInt8).length + Y.length ≤ 1000000000 by rw [List.nil_append]; omega)
      have L3 := Lib.hid (fun (m : Nat) (h : m = ([] ++ X ++ Y : List UInt8).length) => show m = n1 + n2 by rw [h, List.nil_append, List.length_append, hn1, hn2])
      have w1 : IntKind.u64.wrap (n1 : Int) = (n1 : Int) := by rw [IntKind.wrap_u64]; omega
      have w2 : IntKind.i64.wrap (k : Int) = (k : Int) := by rw [IntKind.wrap_i64]; omega
      have w3 : Int.tmod (x : Int) (n1 : Int) = (k : Int) := by rw [← hk]; rfl
      have w5 := cut_k hk (by omega)
      have g0 : ((n1 : Int) == 0) = false := beq_false_of_ne (by omega)
      clear hX hY hn1 hn2 hP hQ ca cb la lb hla hlb
      go_wp2_with fail
      refine (SA.out _ u2 (TT.out.step B2.out) A_2.out).mono ?_
      rintro e u3 ⟨b3, rfl, t3, bq3⟩
      have S_3 := Lib.hid t3
      have B_3 := Lib.hid (B_2.out.step bq3)
      have B3 := Lib.hid (below_both B2.out bq3)
      clear bq3 A_2 B_2 t3
      go_wp2_with fail
      refine (SB.out _ u3 (TT.out.step B3.out) B_3.out).mono ?_
      rintro e u4 ⟨b4, rfl, t4, bq4⟩
      have T_4 := Lib.hid t4
      have S_4 := Lib.hid (S_3.out.step bq4)
      have B4 := Lib.hid (below_both B3.out bq4)
      clear bq4 B_3 S_3 t4
      go_wp2_with fail
      refine (WX.out _ u4 (TT.out.step B4.out) S_4.out).mono ?_
      rintro e u5 ⟨A5, c5, rfl, g5, bq5⟩
      have G_5 := Lib.hid g5
      have S_5 := Lib.hid (S_4.out.step bq5)
      have T_5 := Lib.hid (T_4.out.step bq5)
      have B5 := Lib.hid (below_both B4.out bq5)
      clear bq5 S_4 T_4 g5
      go_wp2_with fail
      refine (WY.out _ u5 (TT.out.step B5.out) T_5.out).mono ?_
      rintro e u6 ⟨A6, c6, rfl, g6, bq6⟩
      have H_6 := Lib.hid g6
      have S_6 := Lib.hid (S_5.out.step bq6)
      have T_6 := Lib.hid (T_5.out.step bq6)
      have G_6 := Lib.hid (G_5.out.step bq6)
      have B6 := Lib.hid (below_both B5.out bq6)
      clear bq6 S_5 T_5 G_5 g6
      clear hk hx6 w3
      obtain ⟨q0, q1, q2⟩ := gs_caps G_6.out
      have hkc : (k : Int) ≤ c5 := by omega
      have hcm : (c5 : Int) ≤ 9223372036854775807 := by omega
      clear q0 q1 q2
      go_wp2_with fail
      refine (CU.out _ _ u6 (TT.out.step B6.out) G_6.out).mono ?_
      rintro e u7 ⟨rfl, bq7⟩
      have S_7 := Lib.hid (S_6.out.step bq7)
      have T_7 := Lib.hid (T_6.out.step bq7)
      have G_7 := Lib.hid (G_6.out.step bq7)
      have H_7 := Lib.hid (H_6.out.step bq7)
      have B7 := Lib.hid (below_both B6.out bq7)
      clear bq7 S_6 T_6 G_6 H_6
      clear w5 hx w1 w2 hkn hki
      have E0 := Lib.hid (Gw.empty_ (k := e8) u7 u7.heap.size (Nat.le_refl _))
      have BE := Lib.hid (bx u7 (.cells #[] 5))
      go_wp2_with (at_builtin; first
        | (refine wpList_gapp e8 _ rfl _ _ _ rfl u7.heap.size sli8 inf8 _ [] rfl E0.out 0 u7.heap.size _ X rfl (G_7.out.below BE.out) L1.out BE.out.size ?_; intro v3 w3 o3 g3 h3; clear h3; obtain ⟨A3, m3, c3, rfl⟩ := gw_slice o3; have O3 := Lib.hid o3; have B3x := Lib.hid (BE.out.grown g3 BE.out.size (fun j hj => (E0.out.lt j hj).1)); clear o3 g3)
        | (refine wpList_gapp e8 _ rfl _ _ _ rfl u7.heap.size sli8 inf8 _ _ rfl O3.out 0 u7.heap.size _ Y rfl (H_7.out.below B3x.out) L2.out B3x.out.size ?_; intro v4 w4 o4 g4 h4; clear h4; obtain ⟨A4, m4, c4, rfl⟩ := gw_slice o4; have O4 := Lib.hid o4; have B4x := Lib.hid (B3x.out.grown g4 B3x.out.size (fun j hj => (O3.out.lt j hj).1)); clear o4 g4))
      have hm4 := L3.out m4 (gs_caps O4.out.sl).1
      subst hm4
      have gU := O4.out.sl.more (Nat.zero_le _) (Nat.le_refl _)
      have U_0 := Lib.hid gU
      have bq4 := B4x.out
      clear gU O3 B3x E0 BE
      have S_8 := Lib.hid (S_7.out.step bq4)
      have T_8 := Lib.hid (T_7.out.step bq4)
      have B8 := Lib.hid (below_both B7.out bq4)
      clear bq4 S_7 T_7 G_7 H_7 B4x O4
      go_wp2_with fail
      refine (RX.out _ _ w4 (TT.out.step B8.out) U_0.out).mono ?_
      rintro e u9 ⟨b9, rfl, t9, bq9⟩
      have V_9 := Lib.hid t9
      have S_9 := Lib.hid (S_8.out.step bq9)
      have T_9 := Lib.hid (T_8.out.step bq9)
      have U_9 := Lib.hid (U_0.out.step bq9)
      have B9 := Lib.hid (below_both B8.out bq9)
      clear bq9 S_8 T_8 U_0 t9
      go_wp2_with fail
      refine (RY.out _ _ u9 (TT.out.step B9.out) U_9.out).mono ?_
      rintro e u10 ⟨b10, rfl, t10, bq10⟩
      have Z_10 := Lib.hid t10
      have S_10 := Lib.hid (S_9.out.step bq10)
      have T_10 := Lib.hid (T_9.out.step bq10)
      have U_10 := Lib.hid (U_9.out.step bq10)
      have V_10 := Lib.hid (V_9.out.step bq10)
      have B10 := Lib.hid (below_both B9.out bq10)
      clear bq10 S_9 T_9 U_9 V_9 t10
      go_wp2_with fail
      refine (AR.out _ _ u10).mono ?_
      rintro e u11 ⟨rfl, bq11⟩
      have S_11 := Lib.hid (S_10.out.step bq11)
      have T_11 := Lib.hid (T_10.out.step bq11)
      have V_11 := Lib.hid (V_10.out.step bq11)
      have Z_11 := Lib.hid (Z_10.out.step bq11)
      have B11 := Lib.hid (below_both B10.out bq11)
      clear bq11 S_10 T_10 U_10 V_10 Z_10
      go_wp2_with fail
      refine (SP.out _ _ u11 (TT.out.step B11.out) V_11.out S_11.out).mono ?_
      rintro e u12 ⟨rfl, bq12⟩
      have S_12 := Lib.hid (S_11.out.step bq12)
      have T_12 := Lib.hid (T_11.out.step bq12)
      have V_12 := Lib.hid (V_11.out.step bq12)
      have Z_12 := Lib.hid (Z_11.out.step bq12)
      have B12 := Lib.hid (below_both B11.out bq12)
      clear bq12 S_11 T_11 V_11 Z_11
      go_wp2_with fail
      refine (SQ.out _ _ u12 (TT.out.step B12.out) Z_12.out T_12.out).mono ?_
      rintro e u13 ⟨rfl, bq13⟩
      have S_13 := Lib.hid (S_12.out.step bq13)
      have T_13 := Lib.hid (T_12.out.step bq13)
      have V_13 := Lib.hid (V_12.out.step bq13)
      have Z_13 := Lib.hid (Z_12.out.step bq13)
      have B13 := Lib.hid (below_both B12.out bq13)
      clear bq13 S_12 T_12 V_12 Z_12
      go_wp2_with fail
      refine (known9 u13 (TT.out.step B13.out)).mono ?_
      rintro e u14 ⟨rfl, bq14⟩
      have S_14 := Lib.hid (S_13.out.step bq14)
      have T_14 := Lib.hid (T_13.out.step bq14)
      have V_14 := Lib.hid (V_13.out.step bq14)
      have Z_14 := Lib.hid (Z_13.out.step bq14)
      have B14 := Lib.hid (below_both B13.out bq14)
      clear bq14 S_13 T_13 V_13 Z_13
      go_wp2
      go_ret
      exact ⟨rfl, B14.out⟩
end Go.Proofs.YtponcpneflhpfaaGreatDoor
