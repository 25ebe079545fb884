/- Proved of WordsRanges: whatever its arguments. -/
import Derived.Test.YtgegpbchjkfdkaaDoorE8
import Derived.Deep.CutRange
import Derived.Deep.DeepCutAuto
namespace Go.Proofs.YtgegpbchjkfdkaaDoor
open Go.RowKit
set_option linter.unusedVariables false

set_option maxHeartbeats 400000 in
theorem ranges_long (a0 : Option Addr) (len0 cap0 : Nat) (lo hi : Int) (w : World) (hT : Tb w) (h : 3000 < len0) (h2 : len0 ≤ 9223372036854775807) :
    Calls Tryd.prog 7 #[.slice a0 len0 cap0, .int .i64 lo, .int .i64 hi] w fun e w' => e = .returned (.bool true) ∧ Below w.heap.size w w' := by
  have hi : (3000 : Int) < len0 := by omega
  clear h
  go_enter Tryd.func7, Tryd.ntmps7
  go_wp2_with (go_at_call 8; refine (known_p _ hT).mono ?_; rintro e w1 ⟨rfl, b1⟩)
  go_ret
  exact ⟨rfl, b1⟩
theorem cl_val {x z : Int} (h : z = min (max x 0) 65536) : Value.int .i64 z = .int .i64 (cl x : Nat) := by
  congr 1
  unfold cl
  omega

set_option maxHeartbeats 4000000 in
set_option maxRecDepth 100000 in
theorem ranges_up (v : Value) (l : List UInt16) (lo hi : Int) (w : World) (hv : Gs e16 w 0 w.heap.size v l) (hT : Tb w) (hl : l.length ≤ 3000) (hXY : cl lo ≤ cl hi) :
    Calls Tryd.prog 7 #[v, .int .i64 lo, .int .i64 hi] w fun e w' => e = .returned (.bool true) ∧ Below w.heap.size w w' := by
  have HV := Lib.hid hv
  have HT := Lib.hid hT
  obtain ⟨A, c, rfl, -⟩ := hv
  have hli : (l.length : Int) ≤ 3000 := by omega
  have hX := cl_le lo
  have hY := cl_le hi
  have HX := Lib.hid hX
  have HY := Lib.hid hY
  have HXY := Lib.hid hXY
  clear hT hl hX hY hXY
  go_enter Tryd.func7, Tryd.ntmps7
  go_upto_region 3 with fail
  go_cut [1, 2] from 14 (fun s1 s2 wx => s1 = .int .i64 (cl lo : Nat) ∧ s2 = .int .i64 (cl hi : Nat) ∧ wx = w)
  case first =>
    go_wp2
    all_goals (go_meet; case rel => exact ⟨cl_val (by omega), cl_val (by omega), rfl⟩)
  case rest =>
    obtain ⟨rfl, rfl, rfl⟩ := hcut
    generalize cl lo = X at *
    generalize cl hi = Y at *
    have hle : (X : Int) ≤ Y := by have := HXY.out; omega
    have hlt : ¬ (Y : Int) < X := by have := HXY.out; omega
    have hY6 : (Y : Int) ≤ 65536 := by have := HY.out; have := HX.out; omega
    obtain ⟨a, b, d, fb, fa, fd, e1, e2, e3, e4, e5, e6, e7⟩ := flp_counts (mk l) X Y (by omega) (by omega)
    obtain ⟨pH, hpH⟩ : ∃ n, n = a + b := ⟨_, rfl⟩
    obtain ⟨pA, hpA⟩ : ∃ n, n = a + b + d := ⟨_, rfl⟩
    obtain ⟨qH, hqH⟩ : ∃ n, n = a + (Y - X - b) := ⟨_, rfl⟩
    obtain ⟨qA, hqA⟩ : ∃ n, n = a + (Y - X - b) + d := ⟨_, rfl⟩
    obtain ⟨m, hm⟩ : ∃ n, n = a + d := ⟨_, rfl⟩
    rw [← hpH] at e2
    rw [← hpA] at e3
    rw [← hqH] at e5
    rw [← hqA] at e6
    rw [← hm] at e7
    have t1 : ((qH : Int) - a == (Y : Int) - X - ((pH : Int) - a)) = true := by simp; omega
    have t2 : ((qA : Int) - qH == (pA : Int) - pH) = true := by simp; omega
    have t3 : ((m : Int) == (pA : Int) - ((pH : Int) - a)) = true := by simp; omega
    have T1 := Lib.hid t1
    have b1 : (a : Int) ≤ 65536 := by omega
    have b2 : (pH : Int) ≤ 131072 := by omega
    have b3 : (pA : Int) ≤ 262144 := by omega
    have b4 : (qH : Int) ≤ 131072 := by omega
    have b5 : (qA : Int) ≤ 262144 := by omega
    have b6 : (m : Int) ≤ 262144 := by omega
    have cL : cl (X : Int) = X := cl_nat (by omega)
    have cH : cl (Y : Int) = Y := cl_nat (by omega)
    have R1 := Lib.hid (show ct (mk l) (cl (Y : Int)) = pH by rw [cH]; exact e2)
    have R2 := Lib.hid (show ct (mk l) (cl (X : Int)) = a by rw [cL]; exact e1)
    have R3 := Lib.hid (show ct (flp (mk l) X Y) (cl (Y : Int)) = qH by rw [cH]; exact e5)
    have R4 := Lib.hid (show ct (flp (mk l) X Y) (cl (X : Int)) = a by rw [cL]; exact e4)
    have E3 := Lib.hid e3
    have E6 := Lib.hid e6
    have E7 := Lib.hid e7
    clear fb fa fd e1 e2 e3 e4 e5 e6 e7 hpH hpA hqH hqA hm cL cH
    go_wp2_with fail
    refine (wof_p _ l _ HV.out).mono ?_
    rintro e w1 ⟨A1, c1, rfl, g1, b1'⟩
    have G1 := Lib.hid g1
    have B1 := Lib.hid b1'
    have T1' := Lib.hid (HT.out.step b1')
    clear g1 b1'
    go_wp2_with fail
    refine (wflip_p _ (mk l) _ _ _ G1.out).mono ?_
    rintro e w2 ⟨A2, c2, rfl, g2, b2'⟩
    have G2 := Lib.hid g2
    have G12 := Lib.hid (G1.out.step b2')
    have B2 := Lib.hid (B1.out.trans (b2'.mono B1.out.size))
    have T2 := Lib.hid (T1'.out.step b2')
    clear g2 b2'
    go_wp2_with fail
    refine (wrank_p _ (mk l) _ pH _ G12.out R1.out).mono ?_
    rintro e w' ⟨rfl, hz⟩
    have hz := hz.symm
    subst hz
    go_wp2_with fail
    refine (wrank_p _ (mk l) _ a _ G12.out R2.out).mono ?_
    rintro e w' ⟨rfl, hz⟩
    have hz := hz.symm
    subst hz
    go_wp2_with fail
    refine (wrank_p _ (flp (mk l) X Y) _ qH _ G2.out R3.out).mono ?_
    rintro e w' ⟨rfl, hz⟩
    have hz := hz.symm
    subst hz
    go_wp2_with fail
    refine (wrank_p _ (flp (mk l) X Y) _ a _ G2.out R4.out).mono ?_
    rintro e w' ⟨rfl, hz⟩
    have hz := hz.symm
    subst hz
    go_wp2_with fail
    refine (wrank_p _ (flp (mk l) X Y) _ a _ G2.out R4.out).mono ?_
    rintro e w' ⟨rfl, hz⟩
    have hz := hz.symm
    subst hz
    go_wp2_with fail
    refine (wrank_p _ (mk l) _ a _ G12.out R2.out).mono ?_
    rintro e w' ⟨rfl, hz⟩
    have hz := hz.symm
    subst hz
    go_wp2_with fail
    refine (wlen_p _ (flp (mk l) X Y) qA _ G2.out E6.out).mono ?_
    rintro e w' ⟨rfl, hz⟩
    have hz := hz.symm
    subst hz
    go_wp2_with fail
    refine (wrank_p _ (flp (mk l) X Y) _ qH _ G2.out R3.out).mono ?_
    rintro e w' ⟨rfl, hz⟩
    have hz := hz.symm
    subst hz
    go_wp2_with fail
    refine (wlen_p _ (mk l) pA _ G12.out E3.out).mono ?_
    rintro e w' ⟨rfl, hz⟩
    have hz := hz.symm
    subst hz
    go_wp2_with fail
    refine (wrank_p _ (mk l) _ pH _ G12.out R1.out).mono ?_
    rintro e w' ⟨rfl, hz⟩
    have hz := hz.symm
    subst hz
    go_wp2_with fail
    refine (wand_p _ _ (mk l) (flp (mk l) X Y) _ G12.out G2.out).mono ?_
    rintro e w3 ⟨A3, c3, rfl, g3, b3'⟩
    have G3 := Lib.hid g3
    have G13 := Lib.hid (G12.out.step b3')
    have B3 := Lib.hid (B2.out.trans (b3'.mono B2.out.size))
    have T3 := Lib.hid (T2.out.step b3')
    clear g3 b3'
    go_wp2_with fail
    refine (wlen_p _ (fun x => fAnd (mk l x) (flp (mk l) X Y x)) m _ G3.out E7.out).mono ?_
    rintro e w' ⟨rfl, hz⟩
    have hz := hz.symm
    subst hz
    go_wp2_with fail
    refine (wlen_p _ (mk l) pA _ G13.out E3.out).mono ?_
    rintro e w' ⟨rfl, hz⟩
    have hz := hz.symm
    subst hz
    go_wp2_with fail
    refine (known_p _ T3.out).mono ?_
    rintro e w4 ⟨rfl, b4'⟩
    have B4 := Lib.hid (B3.out.trans (b4'.mono B3.out.size))
    clear b4'
    go_wp2
    go_ret
    exact ⟨rfl, B4.out⟩

set_option maxHeartbeats 4000000 in
set_option maxRecDepth 100000 in
theorem ranges_down (v : Value) (l : List UInt16) (lo hi : Int) (w : World) (hv : Gs e16 w 0 w.heap.size v l) (hT : Tb w) (hl : l.length ≤ 3000) (hXY : ¬ cl lo ≤ cl hi) :
    Calls Tryd.prog 7 #[v, .int .i64 lo, .int .i64 hi] w fun e w' => e = .returned (.bool true) ∧ Below w.heap.size w w' := by
  have HV := Lib.hid hv
  have HT := Lib.hid hT
  obtain ⟨A, c, rfl, -⟩ := hv
  have hli : (l.length : Int) ≤ 3000 := by omega
  have hX := cl_le lo
  have hY := cl_le hi
  have HX := Lib.hid hX
  have HY := Lib.hid hY
  have HXY := Lib.hid hXY
  clear hT hl hX hY hXY
  go_enter Tryd.func7, Tryd.ntmps7
  go_upto_region 3 with fail
  go_cut [1, 2] from 14 (fun s1 s2 wx => s1 = .int .i64 (cl lo : Nat) ∧ s2 = .int .i64 (cl hi : Nat) ∧ wx = w)
  case first =>
    go_wp2
    all_goals (go_meet; case rel => exact ⟨cl_val (by omega), cl_val (by omega), rfl⟩)
  case rest =>
    obtain ⟨rfl, rfl, rfl⟩ := hcut
    generalize cl lo = X at *
    generalize cl hi = Y at *
    have hle : (Y : Int) ≤ X := by have := HXY.out; omega
    have hlt : (Y : Int) < X := by have := HXY.out; omega
    have hY6 : (X : Int) ≤ 65536 := by have := HY.out; have := HX.out; omega
    obtain ⟨a, b, d, fb, fa, fd, e1, e2, e3, e4, e5, e6, e7⟩ := flp_counts (mk l) Y X (by omega) (by omega)
    obtain ⟨pH, hpH⟩ : ∃ n, n = a + b := ⟨_, rfl⟩
    obtain ⟨pA, hpA⟩ : ∃ n, n = a + b + d := ⟨_, rfl⟩
    obtain ⟨qH, hqH⟩ : ∃ n, n = a + (X - Y - b) := ⟨_, rfl⟩
    obtain ⟨qA, hqA⟩ : ∃ n, n = a + (X - Y - b) + d := ⟨_, rfl⟩
    obtain ⟨m, hm⟩ : ∃ n, n = a + d := ⟨_, rfl⟩
    rw [← hpH] at e2
    rw [← hpA] at e3
    rw [← hqH] at e5
    rw [← hqA] at e6
    rw [← hm] at e7
    have t1 : ((qH : Int) - a == (X : Int) - Y - ((pH : Int) - a)) = true := by simp; omega
    have t2 : ((qA : Int) - qH == (pA : Int) - pH) = true := by simp; omega
    have t3 : ((m : Int) == (pA : Int) - ((pH : Int) - a)) = true := by simp; omega
    have T1 := Lib.hid t1
    have b1 : (a : Int) ≤ 65536 := by omega
    have b2 : (pH : Int) ≤ 131072 := by omega
    have b3 : (pA : Int) ≤ 262144 := by omega
    have b4 : (qH : Int) ≤ 131072 := by omega
    have b5 : (qA : Int) ≤ 262144 := by omega
    have b6 : (m : Int) ≤ 262144 := by omega
    have cL : cl (Y : Int) = Y := cl_nat (by omega)
    have cH : cl (X : Int) = X := cl_nat (by omega)
    have R1 := Lib.hid (show ct (mk l) (cl (X : Int)) = pH by rw [cH]; exact e2)
    have R2 := Lib.hid (show ct (mk l) (cl (Y : Int)) = a by rw [cL]; exact e1)
    have R3 := Lib.hid (show ct (flp (mk l) Y X) (cl (X : Int)) = qH by rw [cH]; exact e5)
    have R4 := Lib.hid (show ct (flp (mk l) Y X) (cl (Y : Int)) = a by rw [cL]; exact e4)
    have E3 := Lib.hid e3
    have E6 := Lib.hid e6
    have E7 := Lib.hid e7
    clear fb fa fd e1 e2 e3 e4 e5 e6 e7 hpH hpA hqH hqA hm cL cH
    go_wp2_with fail
    refine (wof_p _ l _ HV.out).mono ?_
    rintro e w1 ⟨A1, c1, rfl, g1, b1'⟩
    have G1 := Lib.hid g1
    have B1 := Lib.hid b1'
    have T1' := Lib.hid (HT.out.step b1')
    clear g1 b1'
    go_wp2_with fail
    refine (wflip_p _ (mk l) _ _ _ G1.out).mono ?_
    rintro e w2 ⟨A2, c2, rfl, g2, b2'⟩
    have G2 := Lib.hid g2
    have G12 := Lib.hid (G1.out.step b2')
    have B2 := Lib.hid (B1.out.trans (b2'.mono B1.out.size))
    have T2 := Lib.hid (T1'.out.step b2')
    clear g2 b2'
    go_wp2_with fail
    refine (wrank_p _ (mk l) _ pH _ G12.out R1.out).mono ?_
    rintro e w' ⟨rfl, hz⟩
    have hz := hz.symm
    subst hz
    go_wp2_with fail
    refine (wrank_p _ (mk l) _ a _ G12.out R2.out).mono ?_
    rintro e w' ⟨rfl, hz⟩
    have hz := hz.symm
    subst hz
    go_wp2_with fail
    refine (wrank_p _ (flp (mk l) Y X) _ qH _ G2.out R3.out).mono ?_
    rintro e w' ⟨rfl, hz⟩
    have hz := hz.symm
    subst hz
    go_wp2_with fail
    refine (wrank_p _ (flp (mk l) Y X) _ a _ G2.out R4.out).mono ?_
    rintro e w' ⟨rfl, hz⟩
    have hz := hz.symm
    subst hz
    go_wp2_with fail
    refine (wrank_p _ (flp (mk l) Y X) _ a _ G2.out R4.out).mono ?_
    rintro e w' ⟨rfl, hz⟩
    have hz := hz.symm
    subst hz
    go_wp2_with fail
    refine (wrank_p _ (mk l) _ a _ G12.out R2.out).mono ?_
    rintro e w' ⟨rfl, hz⟩
    have hz := hz.symm
    subst hz
    go_wp2_with fail
    refine (wlen_p _ (flp (mk l) Y X) qA _ G2.out E6.out).mono ?_
    rintro e w' ⟨rfl, hz⟩
    have hz := hz.symm
    subst hz
    go_wp2_with fail
    refine (wrank_p _ (flp (mk l) Y X) _ qH _ G2.out R3.out).mono ?_
    rintro e w' ⟨rfl, hz⟩
    have hz := hz.symm
    subst hz
    go_wp2_with fail
    refine (wlen_p _ (mk l) pA _ G12.out E3.out).mono ?_
    rintro e w' ⟨rfl, hz⟩
    have hz := hz.symm
    subst hz
    go_wp2_with fail
    refine (wrank_p _ (mk l) _ pH _ G12.out R1.out).mono ?_
    rintro e w' ⟨rfl, hz⟩
    have hz := hz.symm
    subst hz
    go_wp2_with fail
    refine (wand_p _ _ (mk l) (flp (mk l) Y X) _ G12.out G2.out).mono ?_
    rintro e w3 ⟨A3, c3, rfl, g3, b3'⟩
    have G3 := Lib.hid g3
    have G13 := Lib.hid (G12.out.step b3')
    have B3 := Lib.hid (B2.out.trans (b3'.mono B2.out.size))
    have T3 := Lib.hid (T2.out.step b3')
    clear g3 b3'
    go_wp2_with fail
    refine (wlen_p _ (fun x => fAnd (mk l x) (flp (mk l) Y X x)) m _ G3.out E7.out).mono ?_
    rintro e w' ⟨rfl, hz⟩
    have hz := hz.symm
    subst hz
    go_wp2_with fail
    refine (wlen_p _ (mk l) pA _ G13.out E3.out).mono ?_
    rintro e w' ⟨rfl, hz⟩
    have hz := hz.symm
    subst hz
    go_wp2_with fail
    refine (known_p _ T3.out).mono ?_
    rintro e w4 ⟨rfl, b4'⟩
    have B4 := Lib.hid (B3.out.trans (b4'.mono B3.out.size))
    clear b4'
    go_wp2
    go_ret
    exact ⟨rfl, B4.out⟩
end Go.Proofs.YtgegpbchjkfdkaaDoor
