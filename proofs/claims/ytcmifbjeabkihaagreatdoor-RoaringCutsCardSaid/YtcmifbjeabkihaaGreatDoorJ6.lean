/- Walks: RoaringCuts. -/
import Derived.Test.YtcmifbjeabkihaaGreatDoorMd4
import Derived.Test.YtcmifbjeabkihaaGreatDoorJ5
import Derived.Test.YtcmifbjeabkihaaGreatDoorJ3
import Derived.Test.YtcmifbjeabkihaaGreatDoorJ4
import Derived.Test.YtcmifbjeabkihaaGreatDoorJ7

namespace Go.Proofs.YtcmifbjeabkihaaGreatDoor
open Go.RowKit
set_option linter.unusedVariables false

theorem sspans_any (v : Value) (l : List Sn) (P : Nat → Bool) (w : World) (hP : P = clp32 l) (hT : Tb w) (hv : Gs2 eSp w 0 w.heap.size v l) (hl : l.length ≤ 1000000) : Calls Tryz.prog 12 #[v] w (OfAns w P) := by
  subst hP
  exact (spans_c (N := fun _ => True) v l w hT (fun _ _ => trivial) hv hl).mono fun e w' h => Made.ans h
theorem sand_any (v u : Value) (P Q R : Nat → Bool) (w : World) (hR : R = fun x => fAnd (P x) (Q x)) (hT : Tb w) (hv : St (fun _ => True) w v P) (hu : St (fun _ => True) w u Q) : Calls Tryz.prog 20 #[v, u] w (OfAns w R) := by
  subst hR
  exact (setAnd_c (N := fun _ => True) v u P Q w hT (fun _ _ => trivial) hv hu).mono fun e w' h => Made.ans h
/-- What is asked of numbers here. -/
structure CutN (P R : Nat → Bool) (lo hi a b m n : Nat) : Prop where
  rh : ct P (min hi 4294967296) = a
  rl : ct P (min lo 4294967296) = b
  len : ct P 4294967296 = m
  cut : ct R 4294967296 = n
set_option maxHeartbeats 4000000 in
set_option maxRecDepth 100000 in
theorem cuts_great (A : Option Addr) (c : Nat) (l : List Sn) (lo hi : Nat) (s : Sn) (w : World) (hT : Tb w) (hlo : lo = s.1.toNat) (hhi : hi = s.2.toNat) (hv : Gs2 eSp w 0 w.heap.size (.slice A l.length c) l) (hg : grt (s :: l) = true) (hl : (l.length + 1) * 16 ≤ 140737488355328) :
    Calls Tryz.prog 7 #[.slice A l.length c, .int .u64 (lo : Int), .int .u64 (hi : Int)] w fun e w' => e = .returned (.bool true) ∧ Below w.heap.size w w' := by
  have TT := Lib.hid hT
  have HV := Lib.hid hv
  have HLO := Lib.hid hlo
  have HHI := Lib.hid hhi
  have HL := Lib.hid hl
  have CG := Lib.hid (fun (v : Value) (W : World) (h : Gs2 eSp W 0 W.heap.size v (s :: l)) => great_is v (s :: l) true W hg (by simp; omega) h)
  clear hT hv hlo hhi hg hl
  go_enter Tryz.func7, Tryz.ntmps7
  go_wp2_with (at_builtin; refine wpList_gappb2 eSp _ rfl _ _ _ rfl w.heap.size sliSp infSp _ [s] rfl (Gw2.lit (k := eSp) w w.heap.size (Nat.le_refl _) [s] _ 1 (by rw [HLO.out, HHI.out]; rfl) rfl (by omega)) 0 w.heap.size _ l rfl (HV.out.alloc (Nat.le_refl _) _) (by have := HL.out; simp; show _ * 16 ≤ _; omega) (by simp) (by have := HL.out; simp; unfold maxLen; omega) ?_; intro v1 u1 o1 g1 _)
  obtain ⟨A1, c1, rfl, -⟩ := id o1.sl
  have b1 : Below w.heap.size w u1 := ((Below.refl _ _).alloc (Nat.le_refl _) _).grown g1 (by simp) (fun k h => by injection h with h; subst h; exact Nat.le_refl _)
  have B1 := Lib.hid b1
  have V_1 := Lib.hid (HV.out.step b1)
  have APP := Lib.hid (o1.sl.more (Nat.zero_le _) (Nat.le_refl _))
  clear o1 g1 b1 HV
  go_wp2_with fail
  refine (CG.out _ u1 APP.out).mono ?_
  rintro e u2 ⟨rfl, bq2⟩
  have B2 := Lib.hid (below_both B1.out bq2)
  clear bq2 V_1 APP
  go_wp2_with fail
  refine (known8 u2 (TT.out.step B2.out)).mono ?_
  rintro e u3 ⟨rfl, bq3⟩
  have B3 := Lib.hid (below_both B2.out bq3)
  clear bq3 
  go_wp2
  go_ret
  exact ⟨rfl, B3.out⟩
set_option maxHeartbeats 16000000 in
set_option maxRecDepth 100000 in
theorem cuts_a (A : Option Addr) (c : Nat) (l : List Sn) (lo hi a b m n x : Nat) (s : Sn) (P Q R : Nat → Bool) (w : World) (hT : Tb w) (hlo : lo = s.1.toNat) (hhi : hi = s.2.toNat) (hv : Gs2 eSp w 0 w.heap.size (.slice A l.length c) l) (hg : grt (s :: l) = false) (hl : l.length ≤ 60)
    (hP : P = clp32 l) (hQ : Q = clp32 [s]) (hR : R = fun x => fAnd (P x) (Q x)) (hN : CutN P R lo hi a b m n) (hlt : lo < hi) (hn : n + b = a) (hbm : b < m) (hx : x < 4294967296) (hPx : P x = true) (hcx : ct P x = b) (hlx : lo ≤ x) :
    Calls Tryz.prog 7 #[.slice A l.length c, .int .u64 (lo : Int), .int .u64 (hi : Int)] w fun e w' => e = .returned (.bool true) ∧ Below w.heap.size w w' := by
  have CSP := Lib.hid (fun (v : Value) (W : World) (h1 : Tb W) (h2 : Gs2 eSp W 0 W.heap.size v l) => sspans_any v l P W hP h1 h2 (by omega))
  have CSQ := Lib.hid (fun (v : Value) (W : World) (h1 : Tb W) (h2 : Gs2 eSp W 0 W.heap.size v [s]) => sspans_any v [s] Q W hQ h1 h2 (by simp))
  have CAND := Lib.hid (fun (v u : Value) (W : World) (h1 : Tb W) (h2 : St (fun _ => True) W v P) (h3 : St (fun _ => True) W u Q) => sand_any v u P Q R W hR h1 h2 h3)
  have CLENR := Lib.hid (fun (v : Value) (W : World) (h : St (fun _ => True) W v R) => setlen_c v R n W h hN.cut)
  have CLEN := Lib.hid (fun (v : Value) (W : World) (h : St (fun _ => True) W v P) => setlen_c v P m W h hN.len)
  have CRH := Lib.hid (fun (v : Value) (W : World) (h : St (fun _ => True) W v P) => setrank_c v P hi a W h hN.rh)
  have CRL := Lib.hid (fun (v : Value) (W : World) (h : St (fun _ => True) W v P) => setrank_c v P lo b W h hN.rl)
  have C40 := Lib.hid (fun (v : Value) (W : World) (h : St (fun _ => True) W v P) => setrank_c v P 1099511627776 m W h hN.len)
  have CSEL := Lib.hid (fun (v : Value) (W : World) (hT : Tb W) (h : St (fun _ => True) W v P) => select_yes v P b x W hT h hx hPx hcx)
  have CRX := Lib.hid (fun (v : Value) (W : World) (h : St (fun _ => True) W v P) => setrank_c v P x b W h (by rw [Nat.min_eq_left (by omega)]; exact hcx))
  have hmb : m ≤ 4294967296 := by rw [← hN.len]; exact ct_le _ _
  have hab : a ≤ 4294967296 := by rw [← hN.rh]; exact Nat.le_trans (ct_le _ _) (by omega)
  have hbb : b ≤ 4294967296 := by rw [← hN.rl]; exact Nat.le_trans (ct_le _ _) (by omega)
  have g1 : decide ((lo : Int) < hi) = true := decide_eq_true (by omega)
  have g1n : decide (lo < hi) = true := decide_eq_true (by omega)
  have g2 : decide ((b : Int) < m) = true := decide_eq_true (by omega)
  have g2n : decide (b < m) = true := decide_eq_true (by omega)
  have w1 : IntKind.i64.wrap ((a : Int) - (b : Int)) = (n : Int) := by rw [IntKind.wrap_i64]; omega
  have w1b : wrap64 ((a : Int) - (b : Int)) = (n : Int) := by unfold wrap64; omega
  have g3 : decide ((x : Int) < lo) = false := decide_eq_false (by omega)
  have g3n : decide (x < lo) = false := decide_eq_false (by omega)
  have w2 : IntKind.u64.wrap (x : Int) = (x : Int) := by rw [IntKind.wrap_u64]; omega
  have TT := Lib.hid hT
  have HV := Lib.hid hv
  have HLO := Lib.hid hlo
  have HHI := Lib.hid hhi
  have CG := Lib.hid (fun (v : Value) (W : World) (h : Gs2 eSp W 0 W.heap.size v (s :: l)) => great_is v (s :: l) false W hg (by simp; omega) h)
  have HL := Lib.hid hl
  clear hl hg hT hv hlo hhi hP hQ hR hN hlt hn hbm hmb hab hbb hx hPx hcx hlx
  go_enter Tryz.func7, Tryz.ntmps7
  go_wp2_with (at_builtin; refine wpList_gappb2 eSp _ rfl _ _ _ rfl w.heap.size sliSp infSp _ [s] rfl (Gw2.lit (k := eSp) w w.heap.size (Nat.le_refl _) [s] _ 1 (by rw [HLO.out, HHI.out]; rfl) rfl (by omega)) 0 w.heap.size _ l rfl (HV.out.alloc (Nat.le_refl _) _) (by have := HL.out; simp; show _ * 16 ≤ _; omega) (by simp) (by have := HL.out; simp; unfold maxLen; omega) ?_; intro v1 u1 o1 g1 _)
  obtain ⟨A1, c1, rfl, -⟩ := id o1.sl
  have b1 : Below w.heap.size w u1 := ((Below.refl _ _).alloc (Nat.le_refl _) _).grown g1 (by simp) (fun k h => by injection h with h; subst h; exact Nat.le_refl _)
  have B1 := Lib.hid b1
  have V_1 := Lib.hid (HV.out.step b1)
  have APP := Lib.hid (o1.sl.more (Nat.zero_le _) (Nat.le_refl _))
  clear o1 g1 b1 HV
  go_wp2_with fail
  refine (CG.out _ u1 APP.out).mono ?_
  rintro e u2 ⟨rfl, bq2⟩
  have V_2 := Lib.hid (V_1.out.step bq2)
  have B2 := Lib.hid (below_both B1.out bq2)
  clear bq2 V_1 APP
  go_wp2_with fail
  refine (CSP.out _ u2 (TT.out.step B2.out) V_2.out).mono ?_
  rintro e u3 ⟨b3, rfl, t3, bq3⟩
  have S_3 := Lib.hid t3
  have B3 := Lib.hid (below_both B2.out bq3)
  clear bq3 V_2 t3
  go_wp2_with fail
  have bq4 := bx u3 (.cells #[.int .u64 (lo : Int), .int .u64 (hi : Int)] 34)
  have gL_4 := lit_span u3 s lo hi HLO.out HHI.out
  generalize u3.alloc (.cells #[.int .u64 (lo : Int), .int .u64 (hi : Int)] 34) = u4 at *
  have L_4 := Lib.hid gL_4
  have S_4 := Lib.hid (S_3.out.step bq4)
  have B4 := Lib.hid (below_both B3.out bq4)
  clear bq4 S_3 gL_4
  refine (CSQ.out _ u4 (TT.out.step B4.out) L_4.out).mono ?_
  rintro e u5 ⟨b5, rfl, t5, bq5⟩
  have Q_5 := Lib.hid t5
  have S_5 := Lib.hid (S_4.out.step bq5)
  have B5 := Lib.hid (below_both B4.out bq5)
  clear bq5 S_4 L_4 t5
  go_wp2_with fail
  refine (CAND.out _ _ u5 (TT.out.step B5.out) S_5.out Q_5.out).mono ?_
  rintro e u6 ⟨b6, rfl, t6, bq6⟩
  have R_6 := Lib.hid t6
  have S_6 := Lib.hid (S_5.out.step bq6)
  have B6 := Lib.hid (below_both B5.out bq6)
  clear bq6 S_5 Q_5 t6
  go_wp2_with fail
  refine (CRH.out _ u6 S_6.out).mono ?_
  rintro e u7 ⟨rfl, bq7⟩
  have S_7 := Lib.hid (S_6.out.step bq7)
  have R_7 := Lib.hid (R_6.out.step bq7)
  have B7 := Lib.hid (below_both B6.out bq7)
  clear bq7 S_6 R_6
  go_wp2_with fail
  refine (CRL.out _ u7 S_7.out).mono ?_
  rintro e u8 ⟨rfl, bq8⟩
  have S_8 := Lib.hid (S_7.out.step bq8)
  have R_8 := Lib.hid (R_7.out.step bq8)
  have B8 := Lib.hid (below_both B7.out bq8)
  clear bq8 S_7 R_7
  go_wp2_with fail
  refine (CLENR.out _ u8 R_8.out).mono ?_
  rintro e u9 ⟨rfl, bq9⟩
  have S_9 := Lib.hid (S_8.out.step bq9)
  have B9 := Lib.hid (below_both B8.out bq9)
  clear bq9 S_8 R_8
  go_wp2_with fail
  refine (C40.out _ u9 S_9.out).mono ?_
  rintro e u10 ⟨rfl, bq10⟩
  have S_10 := Lib.hid (S_9.out.step bq10)
  have B10 := Lib.hid (below_both B9.out bq10)
  clear bq10 S_9
  go_wp2_with fail
  refine (CLEN.out _ u10 S_10.out).mono ?_
  rintro e u11 ⟨rfl, bq11⟩
  have S_11 := Lib.hid (S_10.out.step bq11)
  have B11 := Lib.hid (below_both B10.out bq11)
  clear bq11 S_10
  go_wp2_with fail
  refine (CRL.out _ u11 S_11.out).mono ?_
  rintro e u12 ⟨rfl, bq12⟩
  have S_12 := Lib.hid (S_11.out.step bq12)
  have B12 := Lib.hid (below_both B11.out bq12)
  clear bq12 S_11
  go_wp2_with fail
  refine (CSEL.out _ u12 (TT.out.step B12.out) S_12.out).mono ?_
  rintro e u13 ⟨rfl, bq13⟩
  have S_13 := Lib.hid (S_12.out.step bq13)
  have B13 := Lib.hid (below_both B12.out bq13)
  clear bq13 S_12
  go_wp2_with fail
  refine (CRL.out _ u13 S_13.out).mono ?_
  rintro e u14 ⟨rfl, bq14⟩
  have S_14 := Lib.hid (S_13.out.step bq14)
  have B14 := Lib.hid (below_both B13.out bq14)
  clear bq14 S_13
  go_wp2_with fail
  refine (CLEN.out _ u14 S_14.out).mono ?_
  rintro e u15 ⟨rfl, bq15⟩
  have S_15 := Lib.hid (S_14.out.step bq15)
  have B15 := Lib.hid (below_both B14.out bq15)
  clear bq15 S_14
  go_wp2_with fail
  refine (CRX.out _ u15 S_15.out).mono ?_
  rintro e u16 ⟨rfl, bq16⟩
  have S_16 := Lib.hid (S_15.out.step bq16)
  have B16 := Lib.hid (below_both B15.out bq16)
  clear bq16 S_15
  go_wp2_with fail
  refine (CRL.out _ u16 S_16.out).mono ?_
  rintro e u17 ⟨rfl, bq17⟩
  have S_17 := Lib.hid (S_16.out.step bq17)
  have B17 := Lib.hid (below_both B16.out bq17)
  clear bq17 S_16
  go_wp2_with fail
  refine (known8 u17 (TT.out.step B17.out)).mono ?_
  rintro e u18 ⟨rfl, bq18⟩
  have B18 := Lib.hid (below_both B17.out bq18)
  clear bq18 
  go_wp2
  go_ret
  exact ⟨rfl, B18.out⟩
set_option maxHeartbeats 16000000 in
set_option maxRecDepth 100000 in
theorem cuts_b (A : Option Addr) (c : Nat) (l : List Sn) (lo hi a b m n x : Nat) (s : Sn) (P Q R : Nat → Bool) (w : World) (hT : Tb w) (hlo : lo = s.1.toNat) (hhi : hi = s.2.toNat) (hv : Gs2 eSp w 0 w.heap.size (.slice A l.length c) l) (hg : grt (s :: l) = false) (hl : l.length ≤ 60)
    (hP : P = clp32 l) (hQ : Q = clp32 [s]) (hR : R = fun x => fAnd (P x) (Q x)) (hN : CutN P R lo hi a b m n) (hlt : lo < hi) (hn : n + b = a) (hbm : m ≤ b) :
    Calls Tryz.prog 7 #[.slice A l.length c, .int .u64 (lo : Int), .int .u64 (hi : Int)] w fun e w' => e = .returned (.bool true) ∧ Below w.heap.size w w' := by
  have CSP := Lib.hid (fun (v : Value) (W : World) (h1 : Tb W) (h2 : Gs2 eSp W 0 W.heap.size v l) => sspans_any v l P W hP h1 h2 (by omega))
  have CSQ := Lib.hid (fun (v : Value) (W : World) (h1 : Tb W) (h2 : Gs2 eSp W 0 W.heap.size v [s]) => sspans_any v [s] Q W hQ h1 h2 (by simp))
  have CAND := Lib.hid (fun (v u : Value) (W : World) (h1 : Tb W) (h2 : St (fun _ => True) W v P) (h3 : St (fun _ => True) W u Q) => sand_any v u P Q R W hR h1 h2 h3)
  have CLENR := Lib.hid (fun (v : Value) (W : World) (h : St (fun _ => True) W v R) => setlen_c v R n W h hN.cut)
  have CLEN := Lib.hid (fun (v : Value) (W : World) (h : St (fun _ => True) W v P) => setlen_c v P m W h hN.len)
  have CRH := Lib.hid (fun (v : Value) (W : World) (h : St (fun _ => True) W v P) => setrank_c v P hi a W h hN.rh)
  have CRL := Lib.hid (fun (v : Value) (W : World) (h : St (fun _ => True) W v P) => setrank_c v P lo b W h hN.rl)
  have C40 := Lib.hid (fun (v : Value) (W : World) (h : St (fun _ => True) W v P) => setrank_c v P 1099511627776 m W h hN.len)
  have CSEL := Lib.hid (fun (v : Value) (W : World) (hT : Tb W) (h : St (fun _ => True) W v P) => select_no v P b W hT h (by have := ct_le P (min lo 4294967296); rw [hN.rl] at this; omega) (by rw [hN.len]; exact hbm))
  have hmb : m ≤ 4294967296 := by rw [← hN.len]; exact ct_le _ _
  have hab : a ≤ 4294967296 := by rw [← hN.rh]; exact Nat.le_trans (ct_le _ _) (by omega)
  have hbb : b ≤ 4294967296 := by rw [← hN.rl]; exact Nat.le_trans (ct_le _ _) (by omega)
  have g1 : decide ((lo : Int) < hi) = true := decide_eq_true (by omega)
  have g1n : decide (lo < hi) = true := decide_eq_true (by omega)
  have g2 : decide ((b : Int) < m) = false := decide_eq_false (by omega)
  have g2n : decide (b < m) = false := decide_eq_false (by omega)
  have w1 : IntKind.i64.wrap ((a : Int) - (b : Int)) = (n : Int) := by rw [IntKind.wrap_i64]; omega
  have w1b : wrap64 ((a : Int) - (b : Int)) = (n : Int) := by unfold wrap64; omega
  have TT := Lib.hid hT
  have HV := Lib.hid hv
  have HLO := Lib.hid hlo
  have HHI := Lib.hid hhi
  have CG := Lib.hid (fun (v : Value) (W : World) (h : Gs2 eSp W 0 W.heap.size v (s :: l)) => great_is v (s :: l) false W hg (by simp; omega) h)
  have HL := Lib.hid hl
  clear hl hg hT hv hlo hhi hP hQ hR hN hlt hn hbm hmb hab hbb
  go_enter Tryz.func7, Tryz.ntmps7
  go_wp2_with (at_builtin; refine wpList_gappb2 eSp _ rfl _ _ _ rfl w.heap.size sliSp infSp _ [s] rfl (Gw2.lit (k := eSp) w w.heap.size (Nat.le_refl _) [s] _ 1 (by rw [HLO.out, HHI.out]; rfl) rfl (by omega)) 0 w.heap.size _ l rfl (HV.out.alloc (Nat.le_refl _) _) (by have := HL.out; simp; show _ * 16 ≤ _; omega) (by simp) (by have := HL.out; simp; unfold maxLen; omega) ?_; intro v1 u1 o1 g1 _)
  obtain ⟨A1, c1, rfl, -⟩ := id o1.sl
  have b1 : Below w.heap.size w u1 := ((Below.refl _ _).alloc (Nat.le_refl _) _).grown g1 (by simp) (fun k h => by injection h with h; subst h; exact Nat.le_refl _)
  have B1 := Lib.hid b1
  have V_1 := Lib.hid (HV.out.step b1)
  have APP := Lib.hid (o1.sl.more (Nat.zero_le _) (Nat.le_refl _))
  clear o1 g1 b1 HV
  go_wp2_with fail
  refine (CG.out _ u1 APP.out).mono ?_
  rintro e u2 ⟨rfl, bq2⟩
  have V_2 := Lib.hid (V_1.out.step bq2)
  have B2 := Lib.hid (below_both B1.out bq2)
  clear bq2 V_1 APP
  go_wp2_with fail
  refine (CSP.out _ u2 (TT.out.step B2.out) V_2.out).mono ?_
  rintro e u3 ⟨b3, rfl, t3, bq3⟩
  have S_3 := Lib.hid t3
  have B3 := Lib.hid (below_both B2.out bq3)
  clear bq3 V_2 t3
  go_wp2_with fail
  have bq4 := bx u3 (.cells #[.int .u64 (lo : Int), .int .u64 (hi : Int)] 34)
  have gL_4 := lit_span u3 s lo hi HLO.out HHI.out
  generalize u3.alloc (.cells #[.int .u64 (lo : Int), .int .u64 (hi : Int)] 34) = u4 at *
  have L_4 := Lib.hid gL_4
  have S_4 := Lib.hid (S_3.out.step bq4)
  have B4 := Lib.hid (below_both B3.out bq4)
  clear bq4 S_3 gL_4
  refine (CSQ.out _ u4 (TT.out.step B4.out) L_4.out).mono ?_
  rintro e u5 ⟨b5, rfl, t5, bq5⟩
  have Q_5 := Lib.hid t5
  have S_5 := Lib.hid (S_4.out.step bq5)
  have B5 := Lib.hid (below_both B4.out bq5)
  clear bq5 S_4 L_4 t5
  go_wp2_with fail
  refine (CAND.out _ _ u5 (TT.out.step B5.out) S_5.out Q_5.out).mono ?_
  rintro e u6 ⟨b6, rfl, t6, bq6⟩
  have R_6 := Lib.hid t6
  have S_6 := Lib.hid (S_5.out.step bq6)
  have B6 := Lib.hid (below_both B5.out bq6)
  clear bq6 S_5 Q_5 t6
  go_wp2_with fail
  refine (CRH.out _ u6 S_6.out).mono ?_
  rintro e u7 ⟨rfl, bq7⟩
  have S_7 := Lib.hid (S_6.out.step bq7)
  have R_7 := Lib.hid (R_6.out.step bq7)
  have B7 := Lib.hid (below_both B6.out bq7)
  clear bq7 S_6 R_6
  go_wp2_with fail
  refine (CRL.out _ u7 S_7.out).mono ?_
  rintro e u8 ⟨rfl, bq8⟩
  have S_8 := Lib.hid (S_7.out.step bq8)
  have R_8 := Lib.hid (R_7.out.step bq8)
  have B8 := Lib.hid (below_both B7.out bq8)
  clear bq8 S_7 R_7
  go_wp2_with fail
  refine (CLENR.out _ u8 R_8.out).mono ?_
  rintro e u9 ⟨rfl, bq9⟩
  have S_9 := Lib.hid (S_8.out.step bq9)
  have B9 := Lib.hid (below_both B8.out bq9)
  clear bq9 S_8 R_8
  go_wp2_with fail
  refine (C40.out _ u9 S_9.out).mono ?_
  rintro e u10 ⟨rfl, bq10⟩
  have S_10 := Lib.hid (S_9.out.step bq10)
  have B10 := Lib.hid (below_both B9.out bq10)
  clear bq10 S_9
  go_wp2_with fail
  refine (CLEN.out _ u10 S_10.out).mono ?_
  rintro e u11 ⟨rfl, bq11⟩
  have S_11 := Lib.hid (S_10.out.step bq11)
  have B11 := Lib.hid (below_both B10.out bq11)
  clear bq11 S_10
  go_wp2_with fail
  refine (CRL.out _ u11 S_11.out).mono ?_
  rintro e u12 ⟨rfl, bq12⟩
  have S_12 := Lib.hid (S_11.out.step bq12)
  have B12 := Lib.hid (below_both B11.out bq12)
  clear bq12 S_11
  go_wp2_with fail
  refine (CSEL.out _ u12 (TT.out.step B12.out) S_12.out).mono ?_
  rintro e u13 ⟨rfl, bq13⟩
  have S_13 := Lib.hid (S_12.out.step bq13)
  have B13 := Lib.hid (below_both B12.out bq13)
  clear bq13 S_12
  go_wp2_with fail
  refine (CRL.out _ u13 S_13.out).mono ?_
  rintro e u14 ⟨rfl, bq14⟩
  have S_14 := Lib.hid (S_13.out.step bq14)
  have B14 := Lib.hid (below_both B13.out bq14)
  clear bq14 S_13
  go_wp2_with fail
  refine (CLEN.out _ u14 S_14.out).mono ?_
  rintro e u15 ⟨rfl, bq15⟩
  have S_15 := Lib.hid (S_14.out.step bq15)
  have B15 := Lib.hid (below_both B14.out bq15)
  clear bq15 S_14
  go_wp2_with fail
  refine (known8 u15 (TT.out.step B15.out)).mono ?_
  rintro e u16 ⟨rfl, bq16⟩
  have B16 := Lib.hid (below_both B15.out bq16)
  clear bq16 
  go_wp2
  go_ret
  exact ⟨rfl, B16.out⟩
set_option maxHeartbeats 16000000 in
set_option maxRecDepth 100000 in
theorem cuts_c (A : Option Addr) (c : Nat) (l : List Sn) (lo hi a b m n x : Nat) (s : Sn) (P Q R : Nat → Bool) (w : World) (hT : Tb w) (hlo : lo = s.1.toNat) (hhi : hi = s.2.toNat) (hv : Gs2 eSp w 0 w.heap.size (.slice A l.length c) l) (hg : grt (s :: l) = false) (hl : l.length ≤ 60)
    (hP : P = clp32 l) (hQ : Q = clp32 [s]) (hR : R = fun x => fAnd (P x) (Q x)) (hN : CutN P R lo hi a b m n) (hlt : hi ≤ lo) (hn : n = 0) (hbm : b < m) (hx : x < 4294967296) (hPx : P x = true) (hcx : ct P x = b) (hlx : lo ≤ x) :
    Calls Tryz.prog 7 #[.slice A l.length c, .int .u64 (lo : Int), .int .u64 (hi : Int)] w fun e w' => e = .returned (.bool true) ∧ Below w.heap.size w w' := by
  have CSP := Lib.hid (fun (v : Value) (W : World) (h1 : Tb W) (h2 : Gs2 eSp W 0 W.heap.size v l) => sspans_any v l P W hP h1 h2 (by omega))
  have CSQ := Lib.hid (fun (v : Value) (W : World) (h1 : Tb W) (h2 : Gs2 eSp W 0 W.heap.size v [s]) => sspans_any v [s] Q W hQ h1 h2 (by simp))
  have CAND := Lib.hid (fun (v u : Value) (W : World) (h1 : Tb W) (h2 : St (fun _ => True) W v P) (h3 : St (fun _ => True) W u Q) => sand_any v u P Q R W hR h1 h2 h3)
  have CLENR := Lib.hid (fun (v : Value) (W : World) (h : St (fun _ => True) W v R) => setlen_c v R n W h hN.cut)
  have CLEN := Lib.hid (fun (v : Value) (W : World) (h : St (fun _ => True) W v P) => setlen_c v P m W h hN.len)
  have CRH := Lib.hid (fun (v : Value) (W : World) (h : St (fun _ => True) W v P) => setrank_c v P hi a W h hN.rh)
  have CRL := Lib.hid (fun (v : Value) (W : World) (h : St (fun _ => True) W v P) => setrank_c v P lo b W h hN.rl)
  have C40 := Lib.hid (fun (v : Value) (W : World) (h : St (fun _ => True) W v P) => setrank_c v P 1099511627776 m W h hN.len)
  have CSEL := Lib.hid (fun (v : Value) (W : World) (hT : Tb W) (h : St (fun _ => True) W v P) => select_yes v P b x W hT h hx hPx hcx)
  have CRX := Lib.hid (fun (v : Value) (W : World) (h : St (fun _ => True) W v P) => setrank_c v P x b W h (by rw [Nat.min_eq_left (by omega)]; exact hcx))
  have hmb : m ≤ 4294967296 := by rw [← hN.len]; exact ct_le _ _
  have hab : a ≤ 4294967296 := by rw [← hN.rh]; exact Nat.le_trans (ct_le _ _) (by omega)
  have hbb : b ≤ 4294967296 := by rw [← hN.rl]; exact Nat.le_trans (ct_le _ _) (by omega)
  have g1 : decide ((lo : Int) < hi) = false := decide_eq_false (by omega)
  have g1n : decide (lo < hi) = false := decide_eq_false (by omega)
  have g2 : decide ((b : Int) < m) = true := decide_eq_true (by omega)
  have g2n : decide (b < m) = true := decide_eq_true (by omega)
  have n0 : (n : Int) = 0 := by omega
  subst hn
  have g3 : decide ((x : Int) < lo) = false := decide_eq_false (by omega)
  have g3n : decide (x < lo) = false := decide_eq_false (by omega)
  have w2 : IntKind.u64.wrap (x : Int) = (x : Int) := by rw [IntKind.wrap_u64]; omega
  have TT := Lib.hid hT
  have HV := Lib.hid hv
  have HLO := Lib.hid hlo
  have HHI := Lib.hid hhi
  have CG := Lib.hid (fun (v : Value) (W : World) (h : Gs2 eSp W 0 W.heap.size v (s :: l)) => great_is v (s :: l) false W hg (by simp; omega) h)
  have HL := Lib.hid hl
  clear hl hg hT hv hlo hhi hP hQ hR hN hlt hbm hmb hab hbb hx hPx hcx hlx
  go_enter Tryz.func7, Tryz.ntmps7
  go_wp2_with (at_builtin; refine wpList_gappb2 eSp _ rfl _ _ _ rfl w.heap.size sliSp infSp _ [s] rfl (Gw2.lit (k := eSp) w w.heap.size (Nat.le_refl _) [s] _ 1 (by rw [HLO.out, HHI.out]; rfl) rfl (by omega)) 0 w.heap.size _ l rfl (HV.out.alloc (Nat.le_refl _) _) (by have := HL.out; simp; show _ * 16 ≤ _; omega) (by simp) (by have := HL.out; simp; unfold maxLen; omega) ?_; intro v1 u1 o1 g1 _)
  obtain ⟨A1, c1, rfl, -⟩ := id o1.sl
  have b1 : Below w.heap.size w u1 := ((Below.refl _ _).alloc (Nat.le_refl _) _).grown g1 (by simp) (fun k h => by injection h with h; subst h; exact Nat.le_refl _)
  have B1 := Lib.hid b1
  have V_1 := Lib.hid (HV.out.step b1)
  have APP := Lib.hid (o1.sl.more (Nat.zero_le _) (Nat.le_refl _))
  clear o1 g1 b1 HV
  go_wp2_with fail
  refine (CG.out _ u1 APP.out).mono ?_
  rintro e u2 ⟨rfl, bq2⟩
  have V_2 := Lib.hid (V_1.out.step bq2)
  have B2 := Lib.hid (below_both B1.out bq2)
  clear bq2 V_1 APP
  go_wp2_with fail
  refine (CSP.out _ u2 (TT.out.step B2.out) V_2.out).mono ?_
  rintro e u3 ⟨b3, rfl, t3, bq3⟩
  have S_3 := Lib.hid t3
  have B3 := Lib.hid (below_both B2.out bq3)
  clear bq3 V_2 t3
  go_wp2_with fail
  have bq4 := bx u3 (.cells #[.int .u64 (lo : Int), .int .u64 (hi : Int)] 34)
  have gL_4 := lit_span u3 s lo hi HLO.out HHI.out
  generalize u3.alloc (.cells #[.int .u64 (lo : Int), .int .u64 (hi : Int)] 34) = u4 at *
  have L_4 := Lib.hid gL_4
  have S_4 := Lib.hid (S_3.out.step bq4)
  have B4 := Lib.hid (below_both B3.out bq4)
  clear bq4 S_3 gL_4
  refine (CSQ.out _ u4 (TT.out.step B4.out) L_4.out).mono ?_
  rintro e u5 ⟨b5, rfl, t5, bq5⟩
  have Q_5 := Lib.hid t5
  have S_5 := Lib.hid (S_4.out.step bq5)
  have B5 := Lib.hid (below_both B4.out bq5)
  clear bq5 S_4 L_4 t5
  go_wp2_with fail
  refine (CAND.out _ _ u5 (TT.out.step B5.out) S_5.out Q_5.out).mono ?_
  rintro e u6 ⟨b6, rfl, t6, bq6⟩
  have R_6 := Lib.hid t6
  have S_6 := Lib.hid (S_5.out.step bq6)
  have B6 := Lib.hid (below_both B5.out bq6)
  clear bq6 S_5 Q_5 t6
  go_wp2_with fail
  refine (CLENR.out _ u6 R_6.out).mono ?_
  rintro e u7 ⟨rfl, bq7⟩
  have S_7 := Lib.hid (S_6.out.step bq7)
  have B7 := Lib.hid (below_both B6.out bq7)
  clear bq7 S_6 R_6
  go_wp2_with fail
  refine (C40.out _ u7 S_7.out).mono ?_
  rintro e u8 ⟨rfl, bq8⟩
  have S_8 := Lib.hid (S_7.out.step bq8)
  have B8 := Lib.hid (below_both B7.out bq8)
  clear bq8 S_7
  go_wp2_with fail
  refine (CLEN.out _ u8 S_8.out).mono ?_
  rintro e u9 ⟨rfl, bq9⟩
  have S_9 := Lib.hid (S_8.out.step bq9)
  have B9 := Lib.hid (below_both B8.out bq9)
  clear bq9 S_8
  go_wp2_with fail
  refine (CRL.out _ u9 S_9.out).mono ?_
  rintro e u10 ⟨rfl, bq10⟩
  have S_10 := Lib.hid (S_9.out.step bq10)
  have B10 := Lib.hid (below_both B9.out bq10)
  clear bq10 S_9
  go_wp2_with fail
  refine (CSEL.out _ u10 (TT.out.step B10.out) S_10.out).mono ?_
  rintro e u11 ⟨rfl, bq11⟩
  have S_11 := Lib.hid (S_10.out.step bq11)
  have B11 := Lib.hid (below_both B10.out bq11)
  clear bq11 S_10
  go_wp2_with fail
  refine (CRL.out _ u11 S_11.out).mono ?_
  rintro e u12 ⟨rfl, bq12⟩
  have S_12 := Lib.hid (S_11.out.step bq12)
  have B12 := Lib.hid (below_both B11.out bq12)
  clear bq12 S_11
  go_wp2_with fail
  refine (CLEN.out _ u12 S_12.out).mono ?_
  rintro e u13 ⟨rfl, bq13⟩
  have S_13 := Lib.hid (S_12.out.step bq13)
  have B13 := Lib.hid (below_both B12.out bq13)
  clear bq13 S_12
  go_wp2_with fail
  refine (CRX.out _ u13 S_13.out).mono ?_
  rintro e u14 ⟨rfl, bq14⟩
  have S_14 := Lib.hid (S_13.out.step bq14)
  have B14 := Lib.hid (below_both B13.out bq14)
  clear bq14 S_13
  go_wp2_with fail
  refine (CRL.out _ u14 S_14.out).mono ?_
  rintro e u15 ⟨rfl, bq15⟩
  have S_15 := Lib.hid (S_14.out.step bq15)
  have B15 := Lib.hid (below_both B14.out bq15)
  clear bq15 S_14
  go_wp2_with fail
  refine (known8 u15 (TT.out.step B15.out)).mono ?_
  rintro e u16 ⟨rfl, bq16⟩
  have B16 := Lib.hid (below_both B15.out bq16)
  clear bq16 
  go_wp2
  go_ret
  exact ⟨rfl, B16.out⟩
set_option maxHeartbeats 16000000 in
set_option maxRecDepth 100000 in
theorem cuts_d (A : Option Addr) (c : Nat) (l : List Sn) (lo hi a b m n x : Nat) (s : Sn) (P Q R : Nat → Bool) (w : World) (hT : Tb w) (hlo : lo = s.1.toNat) (hhi : hi = s.2.toNat) (hv : Gs2 eSp w 0 w.heap.size (.slice A l.length c) l) (hg : grt (s :: l) = false) (hl : l.length ≤ 60)
    (hP : P = clp32 l) (hQ : Q = clp32 [s]) (hR : R = fun x => fAnd (P x) (Q x)) (hN : CutN P R lo hi a b m n) (hlt : hi ≤ lo) (hn : n = 0) (hbm : m ≤ b) :
    Calls Tryz.prog 7 #[.slice A l.length c, .int .u64 (lo : Int), .int .u64 (hi : Int)] w fun e w' => e = .returned (.bool true) ∧ Below w.heap.size w w' := by
  have CSP := Lib.hid (fun (v : Value) (W : World) (h1 : Tb W) (h2 : Gs2 eSp W 0 W.heap.size v l) => sspans_any v l P W hP h1 h2 (by omega))
  have CSQ := Lib.hid (fun (v : Value) (W : World) (h1 : Tb W) (h2 : Gs2 eSp W 0 W.heap.size v [s]) => sspans_any v [s] Q W hQ h1 h2 (by simp))
  have CAND := Lib.hid (fun (v u : Value) (W : World) (h1 : Tb W) (h2 : St (fun _ => True) W v P) (h3 : St (fun _ => True) W u Q) => sand_any v u P Q R W hR h1 h2 h3)
  have CLENR := Lib.hid (fun (v : Value) (W : World) (h : St (fun _ => True) W v R) => setlen_c v R n W h hN.cut)
  have CLEN := Lib.hid (fun (v : Value) (W : World) (h : St (fun _ => True) W v P) => setlen_c v P m W h hN.len)
  have CRH := Lib.hid (fun (v : Value) (W : World) (h : St (fun _ => True) W v P) => setrank_c v P hi a W h hN.rh)
  have CRL := Lib.hid (fun (v : Value) (W : World) (h : St (fun _ => True) W v P) => setrank_c v P lo b W h hN.rl)
  have C40 := Lib.hid (fun (v : Value) (W : World) (h : St (fun _ => True) W v P) => setrank_c v P 1099511627776 m W h hN.len)
  have CSEL := Lib.hid (fun (v : Value) (W : World) (hT : Tb W) (h : St (fun _ => True) W v P) => select_no v P b W hT h (by have := ct_le P (min lo 4294967296); rw [hN.rl] at this; omega) (by rw [hN.len]; exact hbm))
  have hmb : m ≤ 4294967296 := by rw [← hN.len]; exact ct_le _ _
  have hab : a ≤ 4294967296 := by rw [← hN.rh]; exact Nat.le_trans (ct_le _ _) (by omega)
  have hbb : b ≤ 4294967296 := by rw [← hN.rl]; exact Nat.le_trans (ct_le _ _) (by omega)
  have g1 : decide ((lo : Int) < hi) = false := decide_eq_false (by omega)
  have g1n : decide (lo < hi) = false := decide_eq_false (by omega)
  have g2 : decide ((b : Int) < m) = false := decide_eq_false (by omega)
  have g2n : decide (b < m) = false := decide_eq_false (by omega)
  have n0 : (n : Int) = 0 := by omega
  subst hn
  have TT := Lib.hid hT
  have HV := Lib.hid hv
  have HLO := Lib.hid hlo
  have HHI := Lib.hid hhi
  have CG := Lib.hid (fun (v : Value) (W : World) (h : Gs2 eSp W 0 W.heap.size v (s :: l)) => great_is v (s :: l) false W hg (by simp; omega) h)
  have HL := Lib.hid hl
  clear hl hg hT hv hlo hhi hP hQ hR hN hlt hbm hmb hab hbb
  go_enter Tryz.func7, Tryz.ntmps7
  go_wp2_with (at_builtin; refine wpList_gappb2 eSp _ rfl _ _ _ rfl w.heap.size sliSp infSp _ [s] rfl (Gw2.lit (k := eSp) w w.heap.size (Nat.le_refl _) [s] _ 1 (by rw [HLO.out, HHI.out]; rfl) rfl (by omega)) 0 w.heap.size _ l rfl (HV.out.alloc (Nat.le_refl _) _) (by have := HL.out; simp; show _ * 16 ≤ _; omega) (by simp) (by have := HL.out; simp; unfold maxLen; omega) ?_; intro v1 u1 o1 g1 _)
  obtain ⟨A1, c1, rfl, -⟩ := id o1.sl
  have b1 : Below w.heap.size w u1 := ((Below.refl _ _).alloc (Nat.le_refl _) _).grown g1 (by simp) (fun k h => by injection h with h; subst h; exact Nat.le_refl _)
  have B1 := Lib.hid b1
  have V_1 := Lib.hid (HV.out.step b1)
  have APP := Lib.hid (o1.sl.more (Nat.zero_le _) (Nat.le_refl _))
  clear o1 g1 b1 HV
  go_wp2_with fail
  refine (CG.out _ u1 APP.out).mono ?_
  rintro e u2 ⟨rfl, bq2⟩
  have V_2 := Lib.hid (V_1.out.step bq2)
  have B2 := Lib.hid (below_both B1.out bq2)
  clear bq2 V_1 APP
  go_wp2_with fail
  refine (CSP.out _ u2 (TT.out.step B2.out) V_2.out).mono ?_
  rintro e u3 ⟨b3, rfl, t3, bq3⟩
  have S_3 := Lib.hid t3
  have B3 := Lib.hid (below_both B2.out bq3)
  clear bq3 V_2 t3
  go_wp2_with fail
  have bq4 := bx u3 (.cells #[.int .u64 (lo : Int), .int .u64 (hi : Int)] 34)
  have gL_4 := lit_span u3 s lo hi HLO.out HHI.out
  generalize u3.alloc (.cells #[.int .u64 (lo : Int), .int .u64 (hi : Int)] 34) = u4 at *
  have L_4 := Lib.hid gL_4
  have S_4 := Lib.hid (S_3.out.step bq4)
  have B4 := Lib.hid (below_both B3.out bq4)
  clear bq4 S_3 gL_4
  refine (CSQ.out _ u4 (TT.out.step B4.out) L_4.out).mono ?_
  rintro e u5 ⟨b5, rfl, t5, bq5⟩
  have Q_5 := Lib.hid t5
  have S_5 := Lib.hid (S_4.out.step bq5)
  have B5 := Lib.hid (below_both B4.out bq5)
  clear bq5 S_4 L_4 t5
  go_wp2_with fail
  refine (CAND.out _ _ u5 (TT.out.step B5.out) S_5.out Q_5.out).mono ?_
  rintro e u6 ⟨b6, rfl, t6, bq6⟩
  have R_6 := Lib.hid t6
  have S_6 := Lib.hid (S_5.out.step bq6)
  have B6 := Lib.hid (below_both B5.out bq6)
  clear bq6 S_5 Q_5 t6
  go_wp2_with fail
  refine (CLENR.out _ u6 R_6.out).mono ?_
  rintro e u7 ⟨rfl, bq7⟩
  have S_7 := Lib.hid (S_6.out.step bq7)
  have B7 := Lib.hid (below_both B6.out bq7)
  clear bq7 S_6 R_6
  go_wp2_with fail
  refine (C40.out _ u7 S_7.out).mono ?_
  rintro e u8 ⟨rfl, bq8⟩
  have S_8 := Lib.hid (S_7.out.step bq8)
  have B8 := Lib.hid (below_both B7.out bq8)
  clear bq8 S_7
  go_wp2_with fail
  refine (CLEN.out _ u8 S_8.out).mono ?_
  rintro e u9 ⟨rfl, bq9⟩
  have S_9 := Lib.hid (S_8.out.step bq9)
  have B9 := Lib.hid (below_both B8.out bq9)
  clear bq9 S_8
  go_wp2_with fail
  refine (CRL.out _ u9 S_9.out).mono ?_
  rintro e u10 ⟨rfl, bq10⟩
  have S_10 := Lib.hid (S_9.out.step bq10)
  have B10 := Lib.hid (below_both B9.out bq10)
  clear bq10 S_9
  go_wp2_with fail
  refine (CSEL.out _ u10 (TT.out.step B10.out) S_10.out).mono ?_
  rintro e u11 ⟨rfl, bq11⟩
  have S_11 := Lib.hid (S_10.out.step bq11)
  have B11 := Lib.hid (below_both B10.out bq11)
  clear bq11 S_10
  go_wp2_with fail
  refine (CRL.out _ u11 S_11.out).mono ?_
  rintro e u12 ⟨rfl, bq12⟩
  have S_12 := Lib.hid (S_11.out.step bq12)
  have B12 := Lib.hid (below_both B11.out bq12)
  clear bq12 S_11
  go_wp2_with fail
  refine (CLEN.out _ u12 S_12.out).mono ?_
  rintro e u13 ⟨rfl, bq13⟩
  have S_13 := Lib.hid (S_12.out.step bq13)
  have B13 := Lib.hid (below_both B12.out bq13)
  clear bq13 S_12
  go_wp2_with fail
  refine (known8 u13 (TT.out.step B13.out)).mono ?_
  rintro e u14 ⟨rfl, bq14⟩
  have B14 := Lib.hid (below_both B13.out bq14)
  clear bq14 
  go_wp2
  go_ret
  exact ⟨rfl, B14.out⟩
theorem cuts_any (A : Option Addr) (c : Nat) (l : List Sn) (lo hi : Nat) (s : Sn) (w : World) (hT : Tb w) (hlo : lo = s.1.toNat) (hhi : hi = s.2.toNat) (hv : Gs2 eSp w 0 w.heap.size (.slice A l.length c) l) (hl : l.length * 16 ≤ 140737488355312) :
    Calls Tryz.prog 7 #[.slice A l.length c, .int .u64 (lo : Int), .int .u64 (hi : Int)] w fun e w' => e = .returned (.bool true) ∧ Below w.heap.size w w' := by
  cases hg : grt (s :: l) with
  | true => exact cuts_great A c l lo hi s w hT hlo hhi hv hg (by omega)
  | false =>
    have h60 : l.length ≤ 60 := by have := (grt_no hg).1; simp at this; omega
    have hc1 := ct_clp_cut (clp32 l) s
    have hc0 := ct_clp_cut0 (clp32 l) s
    rw [← hlo, ← hhi] at hc1 hc0
    have hfd := fun h => @ct_find (clp32 l) (ct (clp32 l) (min lo 4294967296)) 4294967296 h
    have key : ∀ n, (lo < hi → ct (fun x => fAnd (clp32 l x) (clp32 [s] x)) 4294967296 = n → n + ct (clp32 l) (min lo 4294967296) = ct (clp32 l) (min hi 4294967296)) := fun n h e => by rw [← e]; exact hc1 (by omega)
    have key0 : ∀ n, (hi ≤ lo → ct (fun x => fAnd (clp32 l x) (clp32 [s] x)) 4294967296 = n → n = 0) := fun n h e => by rw [← e]; exact hc0 h
    have hit : ∀ x, x < 4294967296 → clp32 l x = true → ct (clp32 l) x = ct (clp32 l) (min lo 4294967296) → lo ≤ x := fun x hx hp hc => by
      rcases Nat.lt_or_ge x lo with h | h
      · have := ct_hit' hp (show x < min lo 4294967296 by omega)
        rw [hc] at this
        exact absurd this (Nat.lt_irrefl _)
      · exact h
    clear hc1 hc0
    by_cases hbm : ct (clp32 l) (min lo 4294967296) < ct (clp32 l) 4294967296
    · obtain ⟨x, hx, hPx, hcx⟩ := hfd hbm
      have hlx := hit x hx hPx hcx
      by_cases hlt : lo < hi
      · exact cuts_a A c l lo hi _ _ _ _ x s _ _ _ w hT hlo hhi hv hg h60 rfl rfl rfl ⟨rfl, rfl, rfl, rfl⟩ hlt (key _ hlt rfl) hbm hx hPx hcx hlx
      · exact cuts_c A c l lo hi _ _ _ _ x s _ _ _ w hT hlo hhi hv hg h60 rfl rfl rfl ⟨rfl, rfl, rfl, rfl⟩ (Nat.le_of_not_lt hlt) (key0 _ (Nat.le_of_not_lt hlt) rfl) hbm hx hPx hcx hlx
    · by_cases hlt : lo < hi
      · exact cuts_b A c l lo hi _ _ _ _ 0 s _ _ _ w hT hlo hhi hv hg h60 rfl rfl rfl ⟨rfl, rfl, rfl, rfl⟩ hlt (key _ hlt rfl) (Nat.le_of_not_lt hbm)
      · exact cuts_d A c l lo hi _ _ _ _ 0 s _ _ _ w hT hlo hhi hv hg h60 rfl rfl rfl ⟨rfl, rfl, rfl, rfl⟩ (Nat.le_of_not_lt hlt) (key0 _ (Nat.le_of_not_lt hlt) rfl) (Nat.le_of_not_lt hbm)
end Go.Proofs.YtcmifbjeabkihaaGreatDoor
