/- Walks: the law ArraysFind. -/
import Derived.Test.YthfhkcnbpbmenaaDa
namespace Go.Proofs.Ythfhkcnbpbmenaa
open Go.RowKit
set_option linter.unusedVariables false

theorem find_long (a0 : Option Addr) (len0 cap0 : Nat) (X Y : Int) (w : World) (h : 3000 < len0) (h2 : len0 ≤ 9223372036854775807) :
    Calls Try.prog 5 #[.slice a0 len0 cap0, .int .u16 X, .int .u16 Y] w fun e w' => e = .returned (.bool true) ∧ Below w.heap.size w w' := by
  have hi : (3000 : Int) < len0 := by omega
  clear h
  go_enter Try.func5, Try.ntmps5
  go_wp2_with (go_at_call 8; refine (known_any _).mono ?_; rintro e w1 ⟨rfl, b1⟩)
  go_ret
  exact ⟨rfl, b1⟩
theorem find_odd (v : Value) (l : List UInt16) (X Y : Int) (w : World) (hv : Gs e16 w 0 w.heap.size v l) (h : l.length ≤ 3000) (hr : ris l = false) :
    Calls Try.prog 5 #[v, .int .u16 X, .int .u16 Y] w fun e w' => e = .returned (.bool true) ∧ Below w.heap.size w w' := by
  have HV := Lib.hid hv
  obtain ⟨A, c, rfl, -⟩ := hv
  have hi : (l.length : Int) ≤ 3000 := by omega
  clear h
  go_enter Try.func5, Try.ntmps5
  go_wp2_with fail
  refine (refMay_b _ l 0 _ _ HV.out).mono ?_
  rintro e w1 ⟨rfl, b1⟩
  have B1 := Lib.hid b1
  clear b1
  rw [hr]
  go_wp2_with fail
  refine (known_any _).mono ?_
  rintro e w2 ⟨rfl, b2⟩
  have B2 := Lib.hid (B1.out.trans (b2.mono B1.out.size))
  clear b2
  go_wp2
  go_ret
  exact ⟨rfl, B2.out⟩

set_option maxHeartbeats 2000000 in
set_option maxRecDepth 100000 in
theorem find_true_tt (v : Value) (l B : List UInt16) (X Y : Int) (x y : UInt16) (hX : X = x.toNat) (hY : Y = y.toNat) (w : World) (hv : Gs e16 w 0 w.heap.size v l) (h : l.length ≤ 3000) (hr : ris l = true) (hB : wi l x = B)
    (h1 : fd l x = true) (h2 : fd B x = true) (h3 : bs B x = bs l x) (h4 : fd l y = true) (h5 : fd B y = true) (h6 : (B.length : Int) = l.length) (h7 : bs B y < B.length) (h8 : at16 B (bs B y) = y) :
    Calls Try.prog 5 #[v, .int .u16 X, .int .u16 Y] w fun e w' => e = .returned (.bool true) ∧ Below w.heap.size w w' := by
  have HV := Lib.hid hv
  have HX := Lib.hid hX
  have HY := Lib.hid hY
  obtain ⟨A, c, rfl, -⟩ := hv
  have hi : (l.length : Int) ≤ 3000 := by omega
  have hBl : B.length ≤ 100000000 := by omega
  have hn := bs_le l x
  have HBW := Lib.hid hB
  clear h hX hY hB
  skip
  go_enter Try.func5, Try.ntmps5
  go_wp2_with fail
  refine (refMay_b _ l 0 _ _ HV.out).mono ?_
  rintro e w1 ⟨rfl, b1⟩
  have B1 := Lib.hid b1
  clear b1
  rw [hr]
  go_wp2_with fail
  refine (with_any _ l 0 _ x HX.out _ ((HV.out.below B1.out).more (Nat.le_refl _) B1.out.size) (by omega)).mono ?_
  rintro e w2 ⟨v2, rfl, o2, b2⟩
  rw [HBW.out] at o2
  have O2 := Lib.hid o2
  have B2 := Lib.hid (B1.out.trans (b2.mono B1.out.size))
  clear b2 B1 o2
  obtain ⟨A2, c2, rfl, -⟩ := O2.out.sl
  go_wp2_with fail
  refine (find_b _ l 0 w.heap.size _ x HX.out _ (HV.out.below B2.out) (by omega)).mono ?_
  rintro e w3 ⟨rfl, b3⟩
  rw [h1]
  have O3 := Lib.hid (O2.out.below b3 (Nat.le_refl _))
  have B3 := Lib.hid (B2.out.trans (b3.mono B2.out.size))
  clear b3 B2 O2
  go_wp2_with fail
  refine (find_b _ B _ _ _ x HX.out _ O3.out.sl hBl).mono ?_
  rintro e w4 ⟨rfl, b4⟩
  rw [h2, h3]
  have O4 := Lib.hid (O3.out.below b4 (Nat.le_refl _))
  have B4 := Lib.hid (B3.out.trans (b4.mono B3.out.size))
  clear b4 B3 O3
  go_wp2_with fail
  refine (find_b _ l 0 w.heap.size _ y HY.out _ (HV.out.below B4.out) (by omega)).mono ?_
  rintro e w5 ⟨rfl, b5⟩
  rw [h4]
  have O5 := Lib.hid (O4.out.below b5 (Nat.le_refl _))
  have B5 := Lib.hid (B4.out.trans (b5.mono B4.out.size))
  clear b5 B4 O4
  go_wp2_with fail
  refine (find_b _ B _ _ _ y HY.out _ O5.out.sl hBl).mono ?_
  rintro e w6 ⟨rfl, b6⟩
  rw [h5]
  have O6 := Lib.hid (O5.out.below b6 (Nat.le_refl _))
  have B6 := Lib.hid (B5.out.trans (b6.mono B5.out.size))
  clear b6 B5 O5
  obtain ⟨g, c, e1, -, -, -, -, hc, -⟩ := O6.out.form (by rintro rfl; simp at h7)
  injection e1 with e1 _ e2
  subst e1 e2
  have k1 := hc _ _ (at16_get h7)
  rw [h8] at k1
  simp only [e16, b16] at k1
  rw [← HY.out] at k1
  obtain ⟨n2, hn2⟩ : ∃ n2, n2 = bs B y := ⟨_, rfl⟩
  rw [← hn2] at k1 h7 ⊢
  have h7i : (n2 : Int) < B.length := by omega
  have h7j : (n2 : Int) < l.length := by omega
  clear hc hn2
  obtain ⟨n1, hn1⟩ : ∃ n1, n1 = bs l x := ⟨_, rfl⟩
  rw [← hn1]
  clear hn1 hn h1 h2 h3 h4 h5
  have q1 : ((B.length : Int) == l.length) = true := by rw [h6]; exact beq_self_eq_true _
  go_wp2_with fail
  refine (known_any _).mono ?_
  rintro e w7 ⟨rfl, b7⟩
  have B7 := Lib.hid (B6.out.trans (b7.mono B6.out.size))
  clear b7
  go_wp2
  go_ret
  exact ⟨rfl, B7.out⟩

set_option maxHeartbeats 2000000 in
set_option maxRecDepth 100000 in
theorem find_true_ff (v : Value) (l B : List UInt16) (X Y : Int) (x y : UInt16) (hX : X = x.toNat) (hY : Y = y.toNat) (w : World) (hv : Gs e16 w 0 w.heap.size v l) (h : l.length ≤ 3000) (hr : ris l = true) (hB : wi l x = B)
    (h1 : fd l x = true) (h2 : fd B x = true) (h3 : bs B x = bs l x) (h4 : fd l y = false) (h5 : fd B y = false) (h6 : (B.length : Int) = l.length) :
    Calls Try.prog 5 #[v, .int .u16 X, .int .u16 Y] w fun e w' => e = .returned (.bool true) ∧ Below w.heap.size w w' := by
  have HV := Lib.hid hv
  have HX := Lib.hid hX
  have HY := Lib.hid hY
  obtain ⟨A, c, rfl, -⟩ := hv
  have hi : (l.length : Int) ≤ 3000 := by omega
  have hBl : B.length ≤ 100000000 := by omega
  have hn := bs_le l x
  have HBW := Lib.hid hB
  clear h hX hY hB
  skip
  go_enter Try.func5, Try.ntmps5
  go_wp2_with fail
  refine (refMay_b _ l 0 _ _ HV.out).mono ?_
  rintro e w1 ⟨rfl, b1⟩
  have B1 := Lib.hid b1
  clear b1
  rw [hr]
  go_wp2_with fail
  refine (with_any _ l 0 _ x HX.out _ ((HV.out.below B1.out).more (Nat.le_refl _) B1.out.size) (by omega)).mono ?_
  rintro e w2 ⟨v2, rfl, o2, b2⟩
  rw [HBW.out] at o2
  have O2 := Lib.hid o2
  have B2 := Lib.hid (B1.out.trans (b2.mono B1.out.size))
  clear b2 B1 o2
  obtain ⟨A2, c2, rfl, -⟩ := O2.out.sl
  go_wp2_with fail
  refine (find_b _ l 0 w.heap.size _ x HX.out _ (HV.out.below B2.out) (by omega)).mono ?_
  rintro e w3 ⟨rfl, b3⟩
  rw [h1]
  have O3 := Lib.hid (O2.out.below b3 (Nat.le_refl _))
  have B3 := Lib.hid (B2.out.trans (b3.mono B2.out.size))
  clear b3 B2 O2
  go_wp2_with fail
  refine (find_b _ B _ _ _ x HX.out _ O3.out.sl hBl).mono ?_
  rintro e w4 ⟨rfl, b4⟩
  rw [h2, h3]
  have O4 := Lib.hid (O3.out.below b4 (Nat.le_refl _))
  have B4 := Lib.hid (B3.out.trans (b4.mono B3.out.size))
  clear b4 B3 O3
  go_wp2_with fail
  refine (find_b _ l 0 w.heap.size _ y HY.out _ (HV.out.below B4.out) (by omega)).mono ?_
  rintro e w5 ⟨rfl, b5⟩
  rw [h4]
  have O5 := Lib.hid (O4.out.below b5 (Nat.le_refl _))
  have B5 := Lib.hid (B4.out.trans (b5.mono B4.out.size))
  clear b5 B4 O4
  go_wp2_with fail
  refine (find_b _ B _ _ _ y HY.out _ O5.out.sl hBl).mono ?_
  rintro e w6 ⟨rfl, b6⟩
  rw [h5]
  have O6 := Lib.hid (O5.out.below b6 (Nat.le_refl _))
  have B6 := Lib.hid (B5.out.trans (b6.mono B5.out.size))
  clear b6 B5 O5
  obtain ⟨n1, hn1⟩ : ∃ n1, n1 = bs l x := ⟨_, rfl⟩
  rw [← hn1]
  clear hn1 hn h1 h2 h3 h4 h5
  have q1 : ((B.length : Int) == l.length) = true := by rw [h6]; exact beq_self_eq_true _
  go_wp2_with fail
  refine (known_any _).mono ?_
  rintro e w7 ⟨rfl, b7⟩
  have B7 := Lib.hid (B6.out.trans (b7.mono B6.out.size))
  clear b7
  go_wp2
  go_ret
  exact ⟨rfl, B7.out⟩

set_option maxHeartbeats 2000000 in
set_option maxRecDepth 100000 in
theorem find_false_tt (v : Value) (l B : List UInt16) (X Y : Int) (x y : UInt16) (hX : X = x.toNat) (hY : Y = y.toNat) (w : World) (hv : Gs e16 w 0 w.heap.size v l) (h : l.length ≤ 3000) (hr : ris l = true) (hB : wi l x = B)
    (h1 : fd l x = false) (h2 : fd B x = true) (h3 : bs B x = bs l x) (h4 : fd l y = true) (h5 : fd B y = true) (h6 : (B.length : Int) = l.length + 1) (h7 : bs B y < B.length) (h8 : at16 B (bs B y) = y) :
    Calls Try.prog 5 #[v, .int .u16 X, .int .u16 Y] w fun e w' => e = .returned (.bool true) ∧ Below w.heap.size w w' := by
  have HV := Lib.hid hv
  have HX := Lib.hid hX
  have HY := Lib.hid hY
  obtain ⟨A, c, rfl, -⟩ := hv
  have hi : (l.length : Int) ≤ 3000 := by omega
  have hBl : B.length ≤ 100000000 := by omega
  have hn := bs_le l x
  have HBW := Lib.hid hB
  clear h hX hY hB
  skip
  go_enter Try.func5, Try.ntmps5
  go_wp2_with fail
  refine (refMay_b _ l 0 _ _ HV.out).mono ?_
  rintro e w1 ⟨rfl, b1⟩
  have B1 := Lib.hid b1
  clear b1
  rw [hr]
  go_wp2_with fail
  refine (with_any _ l 0 _ x HX.out _ ((HV.out.below B1.out).more (Nat.le_refl _) B1.out.size) (by omega)).mono ?_
  rintro e w2 ⟨v2, rfl, o2, b2⟩
  rw [HBW.out] at o2
  have O2 := Lib.hid o2
  have B2 := Lib.hid (B1.out.trans (b2.mono B1.out.size))
  clear b2 B1 o2
  obtain ⟨A2, c2, rfl, -⟩ := O2.out.sl
  go_wp2_with fail
  refine (find_b _ l 0 w.heap.size _ x HX.out _ (HV.out.below B2.out) (by omega)).mono ?_
  rintro e w3 ⟨rfl, b3⟩
  rw [h1]
  have O3 := Lib.hid (O2.out.below b3 (Nat.le_refl _))
  have B3 := Lib.hid (B2.out.trans (b3.mono B2.out.size))
  clear b3 B2 O2
  go_wp2_with fail
  refine (find_b _ B _ _ _ x HX.out _ O3.out.sl hBl).mono ?_
  rintro e w4 ⟨rfl, b4⟩
  rw [h2, h3]
  have O4 := Lib.hid (O3.out.below b4 (Nat.le_refl _))
  have B4 := Lib.hid (B3.out.trans (b4.mono B3.out.size))
  clear b4 B3 O3
  go_wp2_with fail
  refine (find_b _ l 0 w.heap.size _ y HY.out _ (HV.out.below B4.out) (by omega)).mono ?_
  rintro e w5 ⟨rfl, b5⟩
  rw [h4]
  have O5 := Lib.hid (O4.out.below b5 (Nat.le_refl _))
  have B5 := Lib.hid (B4.out.trans (b5.mono B4.out.size))
  clear b5 B4 O4
  go_wp2_with fail
  refine (find_b _ B _ _ _ y HY.out _ O5.out.sl hBl).mono ?_
  rintro e w6 ⟨rfl, b6⟩
  rw [h5]
  have O6 := Lib.hid (O5.out.below b6 (Nat.le_refl _))
  have B6 := Lib.hid (B5.out.trans (b6.mono B5.out.size))
  clear b6 B5 O5
  obtain ⟨g, c, e1, -, -, -, -, hc, -⟩ := O6.out.form (by rintro rfl; simp at h7)
  injection e1 with e1 _ e2
  subst e1 e2
  have k1 := hc _ _ (at16_get h7)
  rw [h8] at k1
  simp only [e16, b16] at k1
  rw [← HY.out] at k1
  obtain ⟨n2, hn2⟩ : ∃ n2, n2 = bs B y := ⟨_, rfl⟩
  rw [← hn2] at k1 h7 ⊢
  have h7i : (n2 : Int) < B.length := by omega
  have h7j : (n2 : Int) < l.length + 1 := by omega
  clear hc hn2
  obtain ⟨n1, hn1⟩ : ∃ n1, n1 = bs l x := ⟨_, rfl⟩
  rw [← hn1]
  clear hn1 hn h1 h2 h3 h4 h5
  have q1 : ((B.length : Int) == l.length + 1) = true := by rw [h6]; exact beq_self_eq_true _
  go_wp2_with fail
  refine (known_any _).mono ?_
  rintro e w7 ⟨rfl, b7⟩
  have B7 := Lib.hid (B6.out.trans (b7.mono B6.out.size))
  clear b7
  go_wp2
  go_ret
  exact ⟨rfl, B7.out⟩

set_option maxHeartbeats 2000000 in
set_option maxRecDepth 100000 in
theorem find_false_ff (v : Value) (l B : List UInt16) (X Y : Int) (x y : UInt16) (hX : X = x.toNat) (hY : Y = y.toNat) (w : World) (hv : Gs e16 w 0 w.heap.size v l) (h : l.length ≤ 3000) (hr : ris l = true) (hB : wi l x = B)
    (h1 : fd l x = false) (h2 : fd B x = true) (h3 : bs B x = bs l x) (h4 : fd l y = false) (h5 : fd B y = false) (h6 : (B.length : Int) = l.length + 1) :
    Calls Try.prog 5 #[v, .int .u16 X, .int .u16 Y] w fun e w' => e = .returned (.bool true) ∧ Below w.heap.size w w' := by
  have HV := Lib.hid hv
  have HX := Lib.hid hX
  have HY := Lib.hid hY
  obtain ⟨A, c, rfl, -⟩ := hv
  have hi : (l.length : Int) ≤ 3000 := by omega
  have hBl : B.length ≤ 100000000 := by omega
  have hn := bs_le l x
  have HBW := Lib.hid hB
  clear h hX hY hB
  skip
  go_enter Try.func5, Try.ntmps5
  go_wp2_with fail
  refine (refMay_b _ l 0 _ _ HV.out).mono ?_
  rintro e w1 ⟨rfl, b1⟩
  have B1 := Lib.hid b1
  clear b1
  rw [hr]
  go_wp2_with fail
  refine (with_any _ l 0 _ x HX.out _ ((HV.out.below B1.out).more (Nat.le_refl _) B1.out.size) (by omega)).mono ?_
  rintro e w2 ⟨v2, rfl, o2, b2⟩
  rw [HBW.out] at o2
  have O2 := Lib.hid o2
  have B2 := Lib.hid (B1.out.trans (b2.mono B1.out.size))
  clear b2 B1 o2
  obtain ⟨A2, c2, rfl, -⟩ := O2.out.sl
  go_wp2_with fail
  refine (find_b _ l 0 w.heap.size _ x HX.out _ (HV.out.below B2.out) (by omega)).mono ?_
  rintro e w3 ⟨rfl, b3⟩
  rw [h1]
  have O3 := Lib.hid (O2.out.below b3 (Nat.le_refl _))
  have B3 := Lib.hid (B2.out.trans (b3.mono B2.out.size))
  clear b3 B2 O2
  go_wp2_with fail
  refine (find_b _ B _ _ _ x HX.out _ O3.out.sl hBl).mono ?_
  rintro e w4 ⟨rfl, b4⟩
  rw [h2, h3]
  have O4 := Lib.hid (O3.out.below b4 (Nat.le_refl _))
  have B4 := Lib.hid (B3.out.trans (b4.mono B3.out.size))
  clear b4 B3 O3
  go_wp2_with fail
  refine (find_b _ l 0 w.heap.size _ y HY.out _ (HV.out.below B4.out) (by omega)).mono ?_
  rintro e w5 ⟨rfl, b5⟩
  rw [h4]
  have O5 := Lib.hid (O4.out.below b5 (Nat.le_refl _))
  have B5 := Lib.hid (B4.out.trans (b5.mono B4.out.size))
  clear b5 B4 O4
  go_wp2_with fail
  refine (find_b _ B _ _ _ y HY.out _ O5.out.sl hBl).mono ?_
  rintro e w6 ⟨rfl, b6⟩
  rw [h5]
  have O6 := Lib.hid (O5.out.below b6 (Nat.le_refl _))
  have B6 := Lib.hid (B5.out.trans (b6.mono B5.out.size))
  clear b6 B5 O5
  obtain ⟨n1, hn1⟩ : ∃ n1, n1 = bs l x := ⟨_, rfl⟩
  rw [← hn1]
  clear hn1 hn h1 h2 h3 h4 h5
  have q1 : ((B.length : Int) == l.length + 1) = true := by rw [h6]; exact beq_self_eq_true _
  go_wp2_with fail
  refine (known_any _).mono ?_
  rintro e w7 ⟨rfl, b7⟩
  have B7 := Lib.hid (B6.out.trans (b7.mono B6.out.size))
  clear b7
  go_wp2
  go_ret
  exact ⟨rfl, B7.out⟩

set_option maxHeartbeats 2000000 in
set_option maxRecDepth 100000 in
theorem find_new (v : Value) (l B : List UInt16) (X Y : Int) (x y : UInt16) (hX : X = x.toNat) (hY : Y = y.toNat) (w : World) (hv : Gs e16 w 0 w.heap.size v l) (h : l.length ≤ 3000) (hr : ris l = true) (hB : wi l x = B)
    (h1 : fd l x = false) (h2 : fd B x = true) (h3 : bs B x = bs l x) (h4 : fd l y = false) (h5 : fd B y = true) (h6 : (B.length : Int) = l.length + 1) (h7 : bs B y < B.length) (h8 : at16 B (bs B y) = y) (h9 : X = Y) :
    Calls Try.prog 5 #[v, .int .u16 X, .int .u16 Y] w fun e w' => e = .returned (.bool true) ∧ Below w.heap.size w w' := by
  have HV := Lib.hid hv
  have HX := Lib.hid hX
  have HY := Lib.hid hY
  obtain ⟨A, c, rfl, -⟩ := hv
  have hi : (l.length : Int) ≤ 3000 := by omega
  have hBl : B.length ≤ 100000000 := by omega
  have hn := bs_le l x
  have HBW := Lib.hid hB
  clear h hX hY hB
  subst h9
  go_enter Try.func5, Try.ntmps5
  go_wp2_with fail
  refine (refMay_b _ l 0 _ _ HV.out).mono ?_
  rintro e w1 ⟨rfl, b1⟩
  have B1 := Lib.hid b1
  clear b1
  rw [hr]
  go_wp2_with fail
  refine (with_any _ l 0 _ x HX.out _ ((HV.out.below B1.out).more (Nat.le_refl _) B1.out.size) (by omega)).mono ?_
  rintro e w2 ⟨v2, rfl, o2, b2⟩
  rw [HBW.out] at o2
  have O2 := Lib.hid o2
  have B2 := Lib.hid (B1.out.trans (b2.mono B1.out.size))
  clear b2 B1 o2
  obtain ⟨A2, c2, rfl, -⟩ := O2.out.sl
  go_wp2_with fail
  refine (find_b _ l 0 w.heap.size _ x HX.out _ (HV.out.below B2.out) (by omega)).mono ?_
  rintro e w3 ⟨rfl, b3⟩
  rw [h1]
  have O3 := Lib.hid (O2.out.below b3 (Nat.le_refl _))
  have B3 := Lib.hid (B2.out.trans (b3.mono B2.out.size))
  clear b3 B2 O2
  go_wp2_with fail
  refine (find_b _ B _ _ _ x HX.out _ O3.out.sl hBl).mono ?_
  rintro e w4 ⟨rfl, b4⟩
  rw [h2, h3]
  have O4 := Lib.hid (O3.out.below b4 (Nat.le_refl _))
  have B4 := Lib.hid (B3.out.trans (b4.mono B3.out.size))
  clear b4 B3 O3
  go_wp2_with fail
  refine (find_b _ l 0 w.heap.size _ y HY.out _ (HV.out.below B4.out) (by omega)).mono ?_
  rintro e w5 ⟨rfl, b5⟩
  rw [h4]
  have O5 := Lib.hid (O4.out.below b5 (Nat.le_refl _))
  have B5 := Lib.hid (B4.out.trans (b5.mono B4.out.size))
  clear b5 B4 O4
  go_wp2_with fail
  refine (find_b _ B _ _ _ y HY.out _ O5.out.sl hBl).mono ?_
  rintro e w6 ⟨rfl, b6⟩
  rw [h5]
  have O6 := Lib.hid (O5.out.below b6 (Nat.le_refl _))
  have B6 := Lib.hid (B5.out.trans (b6.mono B5.out.size))
  clear b6 B5 O5
  obtain ⟨g, c, e1, -, -, -, -, hc, -⟩ := O6.out.form (by rintro rfl; simp at h7)
  injection e1 with e1 _ e2
  subst e1 e2
  have k1 := hc _ _ (at16_get h7)
  rw [h8] at k1
  simp only [e16, b16] at k1
  rw [← HY.out] at k1
  obtain ⟨n2, hn2⟩ : ∃ n2, n2 = bs B y := ⟨_, rfl⟩
  rw [← hn2] at k1 h7 ⊢
  have h7i : (n2 : Int) < B.length := by omega
  have h7j : (n2 : Int) < l.length + 1 := by omega
  clear hc hn2
  obtain ⟨n1, hn1⟩ : ∃ n1, n1 = bs l x := ⟨_, rfl⟩
  rw [← hn1]
  clear hn1 hn h1 h2 h3 h4 h5
  have q1 : ((B.length : Int) == l.length + 1) = true := by rw [h6]; exact beq_self_eq_true _
  go_wp2_with fail
  refine (known_any _).mono ?_
  rintro e w7 ⟨rfl, b7⟩
  have B7 := Lib.hid (B6.out.trans (b7.mono B6.out.size))
  clear b7
  go_wp2
  go_ret
  exact ⟨rfl, B7.out⟩

theorem find_good (v : Value) (l : List UInt16) (X Y : Int) (x y : UInt16) (hX : X = x.toNat) (hY : Y = y.toNat) (w : World) (hv : Gs e16 w 0 w.heap.size v l) (h : l.length ≤ 3000) (hr : ris l = true) :
    Calls Try.prog 5 #[v, .int .u16 X, .int .u16 Y] w fun e w' => e = .returned (.bool true) ∧ Below w.heap.size w w' := by
  have hw := ris_wi hr x
  have hm := fun z => wi_mem hr x z
  have hl := wi_len l x
  have hb := wi_bs hr x
  obtain ⟨B, hB⟩ : ∃ B, wi l x = B := ⟨_, rfl⟩
  rw [hB] at hw hm hl hb
  have h2 : fd B x = true := by rw [fd_mem hw, decide_eq_true_eq]; exact (hm x).2 (.inl rfl)
  have h7 : fd B y = true → bs B y < B.length ∧ at16 B (bs B y) = y := by
    intro h
    simp only [fd, Bool.and_eq_true, decide_eq_true_eq] at h
    exact ⟨h.1, u16_eq h.2⟩
  cases h1 : fd l x with
  | true =>
    have hx : x ∈ l := by rw [fd_mem hr, decide_eq_true_eq] at h1; exact h1
    have hl2 : (B.length : Int) = l.length := by rw [hl, h1]; simp
    have h45 : fd l y = fd B y := by
      rw [fd_mem hr, fd_mem hw]
      exact decide_eq_decide.2 ⟨fun h => (hm y).2 (.inr h), fun h => by rcases (hm y).1 h with rfl | h; exact hx; exact h⟩
    cases h5 : fd B y with
    | true => exact find_true_tt v l B X Y x y hX hY w hv h hr hB h1 h2 hb (h45.trans h5) h5 hl2 (h7 h5).1 (h7 h5).2
    | false => exact find_true_ff v l B X Y x y hX hY w hv h hr hB h1 h2 hb (h45.trans h5) h5 hl2
  | false =>
    have hl2 : (B.length : Int) = l.length + 1 := by rw [hl, h1]; simp
    cases h5 : fd B y with
    | true =>
      cases h4 : fd l y with
      | true => exact find_false_tt v l B X Y x y hX hY w hv h hr hB h1 h2 hb h4 h5 hl2 (h7 h5).1 (h7 h5).2
      | false =>
        have e : X = Y := by
          rw [fd_mem hr, decide_eq_false_iff_not] at h4
          rw [fd_mem hw, decide_eq_true_eq, hm] at h5
          rcases h5 with rfl | h5
          · rw [hX, hY]
          · exact absurd h5 h4
        exact find_new v l B X Y x y hX hY w hv h hr hB h1 h2 hb h4 h5 hl2 (h7 h5).1 (h7 h5).2 e
    | false =>
      have h4 : fd l y = false := by
        rw [fd_mem hr, decide_eq_false_iff_not]
        rw [fd_mem hw, decide_eq_false_iff_not, hm] at h5
        exact fun h => h5 (.inr h)
      exact find_false_ff v l B X Y x y hX hY w hv h hr hB h1 h2 hb h4 h5 hl2
end Go.Proofs.Ythfhkcnbpbmenaa
