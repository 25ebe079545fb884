/- Walks: the law ArraysSets, of rows that are no arrays. -/
import Derived.Test.YthfhkcnbpbmenaaDl
namespace Go.Proofs.Ythfhkcnbpbmenaa
open Go.RowKit
set_option linter.unusedVariables false

theorem sets_long (a0 a1 : Option Addr) (len0 cap0 len1 cap1 : Nat) (X : Int) (w : World) (h : 3000 < len0) (h2 : len0 ≤ 9223372036854775807) :
    Calls Try.prog 3 #[.slice a0 len0 cap0, .slice a1 len1 cap1, .int .u16 X] w fun e w' => e = .returned (.bool true) ∧ Below w.heap.size w w' := by
  have hi : (3000 : Int) < len0 := by omega
  clear h
  go_enter Try.func3, Try.ntmps3
  go_wp2_with (go_at_call 8; refine (known_any _).mono ?_; rintro e w1 ⟨rfl, b1⟩)
  go_ret
  exact ⟨rfl, b1⟩
theorem sets_long2 (a0 a1 : Option Addr) (len0 cap0 len1 cap1 : Nat) (X : Int) (w : World) (h0 : len0 ≤ 3000) (h : 3000 < len1) (h2 : len1 ≤ 9223372036854775807) :
    Calls Try.prog 3 #[.slice a0 len0 cap0, .slice a1 len1 cap1, .int .u16 X] w fun e w' => e = .returned (.bool true) ∧ Below w.heap.size w w' := by
  have hi : (3000 : Int) < len1 := by omega
  have hi0 : (len0 : Int) ≤ 3000 := by omega
  clear h h0
  go_enter Try.func3, Try.ntmps3
  go_wp2_with (go_at_call 8; refine (known_any _).mono ?_; rintro e w1 ⟨rfl, b1⟩)
  go_ret
  exact ⟨rfl, b1⟩

set_option maxHeartbeats 4000000 in
set_option maxRecDepth 100000 in
theorem sets_odd (v u : Value) (l m : List UInt16) (X : Int) (x : UInt16) (hX : X = x.toNat) (w : World) (hv : Gs e16 w 0 w.heap.size v l) (hu : Gs e16 w 0 w.heap.size u m) (h : l.length ≤ 3000) (h' : m.length ≤ 3000) (hr : ris l = false) :
    Calls Try.prog 3 #[v, u, .int .u16 X] w fun e w' => e = .returned (.bool true) ∧ Below w.heap.size w w' := by
  have HX := Lib.hid hX
  have HV := Lib.hid hv
  have HU := Lib.hid hu
  have HVa := Lib.hid hv
  have HUa := Lib.hid hu
  obtain ⟨A, c, rfl, -⟩ := hv
  obtain ⟨A0, c0, rfl, -⟩ := hu
  have hi : (l.length : Int) ≤ 3000 := by omega
  have hi' : (m.length : Int) ≤ 3000 := by omega
  have hq1 : decide ((3000 : Int) < l.length) = false := decide_eq_false (by omega)
  have hq2 : decide ((3000 : Int) < m.length) = false := decide_eq_false (by omega)
  clear h h' hX
  go_enter Try.func3, Try.ntmps3
  go_wp2_with (first
    | (at_builtin; refine wpList_gapp e16 _ rfl _ _ _ rfl w.heap.size sli16 inf16 _ [] rfl (Gw.empty_ _ _ (Nat.le_refl _)) 0 w.heap.size _ l rfl (HVa.out.alloc (Nat.le_refl _) _) (by simp; omega) (by simp) ?_; intro v2 w2 o2 g2 hj; clear HVa hj; rw [List.nil_append] at o2; obtain ⟨A2, c2, rfl, -⟩ := o2.sl; have O2 := Lib.hid o2; have B2 := Lib.hid (((Below.refl _ _).alloc (Nat.le_refl _) _).grown g2 (by simp) (fun k h => by injection h with h; subst h; exact Nat.le_refl _) : Below w.heap.size w w2); clear o2 g2)
    | (at_builtin; refine wpList_gapp e16 _ rfl _ _ _ rfl w2.heap.size sli16 inf16 _ [] rfl (Gw.empty_ _ _ (Nat.le_refl _)) 0 w.heap.size _ m rfl ((HUa.out.below B2.out).alloc B2.out.size _) (by simp; omega) (by simp) ?_; intro v3 w3 o3 g3 hj; clear HUa hj; rw [List.nil_append] at o3; obtain ⟨A3, c3, rfl, -⟩ := o3.sl; have O3 := Lib.hid o3; have B3 := Lib.hid (((Below.refl _ _).alloc (Nat.le_refl _) _).grown g3 (by simp) (fun k h => by injection h with h; subst h; exact Nat.le_refl _) : Below w2.heap.size w2 w3); clear o3 g3))
  have C3 := Lib.hid (B2.out.trans (B3.out.mono B2.out.size))
  have I3 := Lib.hid ((O2.out.below B3.out (Nat.le_refl _)).sl.more (Nat.zero_le _) (Nat.le_refl _))
  have A3' := Lib.hid (O3.out.sl.more (Nat.zero_le _) (Nat.le_refl _))
  have a3 := Lib.hid ((HV.out.below C3.out).more (Nat.le_refl _) C3.out.size)
  have b3 := Lib.hid ((HU.out.below C3.out).more (Nat.le_refl _) C3.out.size)
  have N3 := Lib.hid C3.out.size
  clear B2 B3 O2 O3
  refine (may_b _ l 0 _ _ I3.out).mono ?_
  rintro e w4 ⟨rfl, b4⟩
  rw [hr]
  have D4 := Lib.hid b4
  clear b4
  go_wp2_with fail
  refine (refMay_b _ l 0 w3.heap.size _ (a3.out.below D4.out)).mono ?_
  rintro e w5 ⟨rfl, b5⟩
  rw [hr]
  have D5 := Lib.hid (D4.out.trans (b5.mono D4.out.size))
  clear b5 D4
  go_wp2_with fail
  refine (calls_any _ _ l m _ ((I3.out.below D5.out).more (Nat.le_refl _) D5.out.size) ((A3'.out.below D5.out).more (Nat.le_refl _) D5.out.size) (by omega) (by omega)).mono ?_
  rintro e w6 ⟨x1, x2, x3, x4, rfl, f6, b6⟩
  obtain ⟨Ax1, cx1, rfl, -⟩ := f6.gs.1
  obtain ⟨Ax2, cx2, rfl, -⟩ := f6.gs.2.1
  obtain ⟨Ax3, cx3, rfl, -⟩ := f6.gs.2.2.1
  obtain ⟨Ax4, cx4, rfl, -⟩ := f6.gs.2.2.2
  obtain ⟨bs4, sl, hs1, hs2, hs3, hs4, hm0, hm1, hm2, rem6, hm3⟩ := f6.fn
  have HS1 := Lib.hid hs1
  have HS2 := Lib.hid hs2
  have HS3 := Lib.hid hs3
  have HS4 := Lib.hid hs4
  have D6 := Lib.hid (D5.out.trans (b6.mono D5.out.size))
  have hm4 : w3.heap.size ≤ bs4 0 := Nat.le_trans D5.out.size hm1
  have HM0 := Lib.hid hm0
  have HM2 := Lib.hid hm2
  have HM3 := Lib.hid hm3
  have HM4 := Lib.hid hm4
  have E6 := Lib.hid rem6
  clear b6 D5 hm0 hm1 hm2 hm3 hm4 rem6 f6 hs1 hs2 hs3 hs4
  go_wp2_with fail
  have R7 := Lib.hid (Row.new w6 26 #[.slice Ax1 (mg fAnd l m).length cx1, .slice Ax2 (mg fOr l m).length cx2, .slice Ax3 (mg fNot l m).length cx3, .slice Ax4 (mg fXor l m).length cx4])
  have D7 := Lib.hid (D6.out.alloc D6.out.size (.cells #[.slice Ax1 (mg fAnd l m).length cx1, .slice Ax2 (mg fOr l m).length cx2, .slice Ax3 (mg fNot l m).length cx3, .slice Ax4 (mg fXor l m).length cx4] 26))
  have E7 := Lib.hid (E6.out.below ((Below.refl w6.heap.size w6).alloc (Nat.le_refl _) (.cells #[.slice Ax1 (mg fAnd l m).length cx1, .slice Ax2 (mg fOr l m).length cx2, .slice Ax3 (mg fNot l m).length cx3, .slice Ax4 (mg fXor l m).length cx4] 26)))
  have G7 := Lib.hid (show w6.heap.size < (w6.alloc (.cells #[.slice Ax1 (mg fAnd l m).length cx1, .slice Ax2 (mg fOr l m).length cx2, .slice Ax3 (mg fNot l m).length cx3, .slice Ax4 (mg fXor l m).length cx4] 26)).heap.size by simp)
  have G6 := Lib.hid D6.out.size
  generalize w6.alloc (.cells #[.slice Ax1 (mg fAnd l m).length cx1, .slice Ax2 (mg fOr l m).length cx2, .slice Ax3 (mg fNot l m).length cx3, .slice Ax4 (mg fXor l m).length cx4] 26) = w7 at *
  clear E6 D6
  rw [← HS1.out, ← HS2.out, ← HS3.out, ← HS4.out] at R7
  clear HS1 HS2 HS3 HS4
  obtain ⟨g, hg⟩ : ∃ g, g = w6.heap.size := ⟨_, rfl⟩
  rw [← hg] at R7 G7 G6 HM2 ⊢
  clear hg
  refine (find_b _ l 0 w3.heap.size _ x HX.out _ (I3.out.below D7.out) (by omega)).mono ?_
  rintro e w8 ⟨rfl, b8⟩
  have D8 := Lib.hid (D7.out.trans (b8.mono D7.out.size))
  have R8 := Lib.hid (R7.out.below b8 R7.out.lt)
  have E8 := Lib.hid (E7.out.below b8)
  have G8 := Lib.hid (Nat.lt_of_lt_of_le G7.out b8.size)
  clear b8 D7 R7 E7 G7
  go_wp2_with fail
  refine (with_any _ l 0 _ x HX.out _ ((I3.out.below D8.out).more (Nat.le_refl _) D8.out.size) (by omega)).mono ?_
  rintro e w9 ⟨v9, rfl, o9, b9⟩
  obtain ⟨A9, c9, rfl, -⟩ := o9.sl
  have O9 := Lib.hid o9
  have HO9 := Lib.hid o9.lt
  have D9 := Lib.hid (D8.out.trans (b9.mono D8.out.size))
  have R9 := Lib.hid (R8.out.below b9 R8.out.lt)
  have E9 := Lib.hid (E8.out.below b9)
  have G9 := Lib.hid b9.size
  clear b9 o9 D8 R8 E8
  go_wp2_with fail
  refine (runs_b _ l 0 w3.heap.size _ (I3.out.below D9.out) (by omega)).mono ?_
  rintro e w10 ⟨rfl, b10⟩
  have D10 := Lib.hid (D9.out.trans (b10.mono D9.out.size))
  have R10 := Lib.hid (R9.out.below b10 R9.out.lt)
  have E10 := Lib.hid (E9.out.below b10)
  have O10 := Lib.hid (O9.out.below b10 (Nat.le_refl _))
  have G10 := Lib.hid (Nat.le_trans G9.out b10.size)
  have K10 := Lib.hid b10.size
  clear b10 D9 R9 E9 G9 O9
  go_wp2_with fail
  refine (refMay_b _ l 0 w3.heap.size _ (a3.out.below D10.out)).mono ?_
  rintro e w11 ⟨rfl, b11⟩
  rw [hr]
  have D11 := Lib.hid (D10.out.trans (b11.mono D10.out.size))
  have R11 := Lib.hid (R10.out.below b11 R10.out.lt)
  have E11 := Lib.hid (E10.out.below b11)
  have O11 := Lib.hid (O10.out.below b11 (Nat.le_refl _))
  have G11 := Lib.hid (Nat.le_trans G10.out b11.size)
  have K11 := Lib.hid (Nat.le_trans K10.out b11.size)
  clear b11 D10 R10 E10 G10 O10
  go_wp2_with fail
  refine (known_any _).mono ?_
  rintro e w20 ⟨rfl, b20⟩
  have B20 := Lib.hid (C3.out.trans ((D11.out.trans (b20.mono D11.out.size)).mono N3.out))
  clear b20
  go_wp2
  go_ret
  exact ⟨rfl, B20.out⟩

set_option maxHeartbeats 4000000 in
set_option maxRecDepth 100000 in
theorem sets_odd2 (v u : Value) (l m : List UInt16) (X : Int) (x : UInt16) (hX : X = x.toNat) (w : World) (hv : Gs e16 w 0 w.heap.size v l) (hu : Gs e16 w 0 w.heap.size u m) (h : l.length ≤ 3000) (h' : m.length ≤ 3000) (hr : ris l = true) (hr2 : ris m = false) :
    Calls Try.prog 3 #[v, u, .int .u16 X] w fun e w' => e = .returned (.bool true) ∧ Below w.heap.size w w' := by
  have HX := Lib.hid hX
  have HV := Lib.hid hv
  have HU := Lib.hid hu
  have HVa := Lib.hid hv
  have HUa := Lib.hid hu
  obtain ⟨A, c, rfl, -⟩ := hv
  obtain ⟨A0, c0, rfl, -⟩ := hu
  have hi : (l.length : Int) ≤ 3000 := by omega
  have hi' : (m.length : Int) ≤ 3000 := by omega
  have hq1 : decide ((3000 : Int) < l.length) = false := decide_eq_false (by omega)
  have hq2 : decide ((3000 : Int) < m.length) = false := decide_eq_false (by omega)
  clear h h' hX
  go_enter Try.func3, Try.ntmps3
  go_wp2_with (first
    | (at_builtin; refine wpList_gapp e16 _ rfl _ _ _ rfl w.heap.size sli16 inf16 _ [] rfl (Gw.empty_ _ _ (Nat.le_refl _)) 0 w.heap.size _ l rfl (HVa.out.alloc (Nat.le_refl _) _) (by simp; omega) (by simp) ?_; intro v2 w2 o2 g2 hj; clear HVa hj; rw [List.nil_append] at o2; obtain ⟨A2, c2, rfl, -⟩ := o2.sl; have O2 := Lib.hid o2; have B2 := Lib.hid (((Below.refl _ _).alloc (Nat.le_refl _) _).grown g2 (by simp) (fun k h => by injection h with h; subst h; exact Nat.le_refl _) : Below w.heap.size w w2); clear o2 g2)
    | (at_builtin; refine wpList_gapp e16 _ rfl _ _ _ rfl w2.heap.size sli16 inf16 _ [] rfl (Gw.empty_ _ _ (Nat.le_refl _)) 0 w.heap.size _ m rfl ((HUa.out.below B2.out).alloc B2.out.size _) (by simp; omega) (by simp) ?_; intro v3 w3 o3 g3 hj; clear HUa hj; rw [List.nil_append] at o3; obtain ⟨A3, c3, rfl, -⟩ := o3.sl; have O3 := Lib.hid o3; have B3 := Lib.hid (((Below.refl _ _).alloc (Nat.le_refl _) _).grown g3 (by simp) (fun k h => by injection h with h; subst h; exact Nat.le_refl _) : Below w2.heap.size w2 w3); clear o3 g3))
  have C3 := Lib.hid (B2.out.trans (B3.out.mono B2.out.size))
  have I3 := Lib.hid ((O2.out.below B3.out (Nat.le_refl _)).sl.more (Nat.zero_le _) (Nat.le_refl _))
  have A3' := Lib.hid (O3.out.sl.more (Nat.zero_le _) (Nat.le_refl _))
  have a3 := Lib.hid ((HV.out.below C3.out).more (Nat.le_refl _) C3.out.size)
  have b3 := Lib.hid ((HU.out.below C3.out).more (Nat.le_refl _) C3.out.size)
  have N3 := Lib.hid C3.out.size
  clear B2 B3 O2 O3
  refine (may_b _ l 0 _ _ I3.out).mono ?_
  rintro e w4 ⟨rfl, b4⟩
  rw [hr]
  have D4 := Lib.hid b4
  clear b4
  go_wp2_with fail
  refine (refMay_b _ l 0 w3.heap.size _ (a3.out.below D4.out)).mono ?_
  rintro e w5 ⟨rfl, b5⟩
  rw [hr]
  have D5 := Lib.hid (D4.out.trans (b5.mono D4.out.size))
  clear b5 D4
  go_wp2_with fail
  refine (calls_any _ _ l m _ ((I3.out.below D5.out).more (Nat.le_refl _) D5.out.size) ((A3'.out.below D5.out).more (Nat.le_refl _) D5.out.size) (by omega) (by omega)).mono ?_
  rintro e w6 ⟨x1, x2, x3, x4, rfl, f6, b6⟩
  obtain ⟨Ax1, cx1, rfl, -⟩ := f6.gs.1
  obtain ⟨Ax2, cx2, rfl, -⟩ := f6.gs.2.1
  obtain ⟨Ax3, cx3, rfl, -⟩ := f6.gs.2.2.1
  obtain ⟨Ax4, cx4, rfl, -⟩ := f6.gs.2.2.2
  obtain ⟨bs4, sl, hs1, hs2, hs3, hs4, hm0, hm1, hm2, rem6, hm3⟩ := f6.fn
  have HS1 := Lib.hid hs1
  have HS2 := Lib.hid hs2
  have HS3 := Lib.hid hs3
  have HS4 := Lib.hid hs4
  have D6 := Lib.hid (D5.out.trans (b6.mono D5.out.size))
  have hm4 : w3.heap.size ≤ bs4 0 := Nat.le_trans D5.out.size hm1
  have HM0 := Lib.hid hm0
  have HM2 := Lib.hid hm2
  have HM3 := Lib.hid hm3
  have HM4 := Lib.hid hm4
  have E6 := Lib.hid rem6
  clear b6 D5 hm0 hm1 hm2 hm3 hm4 rem6 f6 hs1 hs2 hs3 hs4
  go_wp2_with fail
  have R7 := Lib.hid (Row.new w6 26 #[.slice Ax1 (mg fAnd l m).length cx1, .slice Ax2 (mg fOr l m).length cx2, .slice Ax3 (mg fNot l m).length cx3, .slice Ax4 (mg fXor l m).length cx4])
  have D7 := Lib.hid (D6.out.alloc D6.out.size (.cells #[.slice Ax1 (mg fAnd l m).length cx1, .slice Ax2 (mg fOr l m).length cx2, .slice Ax3 (mg fNot l m).length cx3, .slice Ax4 (mg fXor l m).length cx4] 26))
  have E7 := Lib.hid (E6.out.below ((Below.refl w6.heap.size w6).alloc (Nat.le_refl _) (.cells #[.slice Ax1 (mg fAnd l m).length cx1, .slice Ax2 (mg fOr l m).length cx2, .slice Ax3 (mg fNot l m).length cx3, .slice Ax4 (mg fXor l m).length cx4] 26)))
  have G7 := Lib.hid (show w6.heap.size < (w6.alloc (.cells #[.slice Ax1 (mg fAnd l m).length cx1, .slice Ax2 (mg fOr l m).length cx2, .slice Ax3 (mg fNot l m).length cx3, .slice Ax4 (mg fXor l m).length cx4] 26)).heap.size by simp)
  have G6 := Lib.hid D6.out.size
  generalize w6.alloc (.cells #[.slice Ax1 (mg fAnd l m).length cx1, .slice Ax2 (mg fOr l m).length cx2, .slice Ax3 (mg fNot l m).length cx3, .slice Ax4 (mg fXor l m).length cx4] 26) = w7 at *
  clear E6 D6
  rw [← HS1.out, ← HS2.out, ← HS3.out, ← HS4.out] at R7
  clear HS1 HS2 HS3 HS4
  obtain ⟨g, hg⟩ : ∃ g, g = w6.heap.size := ⟨_, rfl⟩
  rw [← hg] at R7 G7 G6 HM2 ⊢
  clear hg
  refine (find_b _ l 0 w3.heap.size _ x HX.out _ (I3.out.below D7.out) (by omega)).mono ?_
  rintro e w8 ⟨rfl, b8⟩
  have D8 := Lib.hid (D7.out.trans (b8.mono D7.out.size))
  have R8 := Lib.hid (R7.out.below b8 R7.out.lt)
  have E8 := Lib.hid (E7.out.below b8)
  have G8 := Lib.hid (Nat.lt_of_lt_of_le G7.out b8.size)
  clear b8 D7 R7 E7 G7
  go_wp2_with fail
  refine (with_any _ l 0 _ x HX.out _ ((I3.out.below D8.out).more (Nat.le_refl _) D8.out.size) (by omega)).mono ?_
  rintro e w9 ⟨v9, rfl, o9, b9⟩
  obtain ⟨A9, c9, rfl, -⟩ := o9.sl
  have O9 := Lib.hid o9
  have HO9 := Lib.hid o9.lt
  have D9 := Lib.hid (D8.out.trans (b9.mono D8.out.size))
  have R9 := Lib.hid (R8.out.below b9 R8.out.lt)
  have E9 := Lib.hid (E8.out.below b9)
  have G9 := Lib.hid b9.size
  clear b9 o9 D8 R8 E8
  go_wp2_with fail
  refine (runs_b _ l 0 w3.heap.size _ (I3.out.below D9.out) (by omega)).mono ?_
  rintro e w10 ⟨rfl, b10⟩
  have D10 := Lib.hid (D9.out.trans (b10.mono D9.out.size))
  have R10 := Lib.hid (R9.out.below b10 R9.out.lt)
  have E10 := Lib.hid (E9.out.below b10)
  have O10 := Lib.hid (O9.out.below b10 (Nat.le_refl _))
  have G10 := Lib.hid (Nat.le_trans G9.out b10.size)
  have K10 := Lib.hid b10.size
  clear b10 D9 R9 E9 G9 O9
  go_wp2_with fail
  refine (refMay_b _ l 0 w3.heap.size _ (a3.out.below D10.out)).mono ?_
  rintro e w11 ⟨rfl, b11⟩
  rw [hr]
  have D11 := Lib.hid (D10.out.trans (b11.mono D10.out.size))
  have R11 := Lib.hid (R10.out.below b11 R10.out.lt)
  have E11 := Lib.hid (E10.out.below b11)
  have O11 := Lib.hid (O10.out.below b11 (Nat.le_refl _))
  have G11 := Lib.hid (Nat.le_trans G10.out b11.size)
  have K11 := Lib.hid (Nat.le_trans K10.out b11.size)
  clear b11 D10 R10 E10 G10 O10
  go_wp2_with fail
  refine (refMay_b _ m 0 w3.heap.size _ (b3.out.below D11.out)).mono ?_
  rintro e w12 ⟨rfl, b12⟩
  rw [hr2]
  have D12 := Lib.hid (D11.out.trans (b12.mono D11.out.size))
  have R12 := Lib.hid (R11.out.below b12 R11.out.lt)
  have E12 := Lib.hid (E11.out.below b12)
  have O12 := Lib.hid (O11.out.below b12 (Nat.le_refl _))
  have G12 := Lib.hid (Nat.le_trans G11.out b12.size)
  have K12 := Lib.hid (Nat.le_trans K11.out b12.size)
  clear b12 D11 R11 E11 G11 O11
  go_wp2_with fail
  refine (known_any _).mono ?_
  rintro e w20 ⟨rfl, b20⟩
  have B20 := Lib.hid (C3.out.trans ((D12.out.trans (b20.mono D12.out.size)).mono N3.out))
  clear b20
  go_wp2
  go_ret
  exact ⟨rfl, B20.out⟩
end Go.Proofs.Ythfhkcnbpbmenaa
