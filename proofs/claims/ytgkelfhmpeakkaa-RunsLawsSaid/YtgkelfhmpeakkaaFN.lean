/- Proved of RunsLaws: whatever its arguments. -/
import Derived.Test.YtgkelfhmpeakkaaFO
namespace Go.Proofs.Ytgkelfhmpeakkaa
open Go.RowKit
set_option linter.unusedVariables false

set_option maxHeartbeats 400000 in
theorem laws_long (a0 a1 : Option Addr) (len0 cap0 len1 cap1 : Nat) (lo hi k : Int) (w : World) (h : 500 < len0) (h2 : len0 ≤ 9223372036854775807) :
    Calls Try.prog 4 #[.slice a0 len0 cap0, .slice a1 len1 cap1, .int .i64 lo, .int .i64 hi, .int .i64 k] w fun e w' => e = .returned (.bool true) ∧ Below w.heap.size w w' := by
  have hi : (len0 : Int) > 500 := by omega
  clear h
  go_enter Try.func4, Try.ntmps4
  go_wp2_with (go_at_call 6; refine (known_any _).mono ?_; rintro e w1 ⟨rfl, b1⟩)
  go_ret
  exact ⟨rfl, b1⟩
set_option maxHeartbeats 400000 in
theorem laws_long2 (a0 a1 : Option Addr) (len0 cap0 len1 cap1 : Nat) (lo hi k : Int) (w : World) (h0 : len0 ≤ 500) (h : 500 < len1) (h2 : len1 ≤ 9223372036854775807) :
    Calls Try.prog 4 #[.slice a0 len0 cap0, .slice a1 len1 cap1, .int .i64 lo, .int .i64 hi, .int .i64 k] w fun e w' => e = .returned (.bool true) ∧ Below w.heap.size w w' := by
  have hi : (len1 : Int) > 500 := by omega
  have hi0 : ¬ (len0 : Int) > 500 := by omega
  clear h h0
  go_enter Try.func4, Try.ntmps4
  go_wp2_with (go_at_call 6; refine (known_any _).mono ?_; rintro e w1 ⟨rfl, b1⟩)
  go_ret
  exact ⟨rfl, b1⟩
set_option maxHeartbeats 400000 in
theorem laws_odd (v u : Value) (a b : List Rn) (lo hi k : Int) (w : World) (hv : Gs2 eR w 0 w.heap.size v a) (hu : Gs2 eR w 0 w.heap.size u b) (ha : a.length ≤ 500) (hb : b.length ≤ 500) (hm : mayr 0 a = false) :
    Calls Try.prog 4 #[v, u, .int .i64 lo, .int .i64 hi, .int .i64 k] w fun e w' => e = .returned (.bool true) ∧ Below w.heap.size w w' := by
  have HV := Lib.hid hv
  have HU := Lib.hid hu
  have B0 := Lib.hid (Below.refl w.heap.size w)
  obtain ⟨A0, c0, rfl, -⟩ := hv
  obtain ⟨A1, c1, rfl, -⟩ := hu
  have hn0 : ¬ (a.length : Int) > 500 := by omega
  have hn1 : ¬ (b.length : Int) > 500 := by omega
  have hd0 : decide ((a.length : Int) > 500) = false := decide_eq_false hn0
  have hd1 : decide ((b.length : Int) > 500) = false := decide_eq_false hn1
  clear ha hb
  have HM := Lib.hid hm
  clear hm 
  go_enter Try.func4, Try.ntmps4
  go_wp2_with fail
  refine (lmay _ a _ HV.out false HM.out).mono ?_
  rintro e w101 ⟨rfl, b0⟩
  have HV1 := Lib.hid (HV.out.step b0)
  have HU1 := Lib.hid (HU.out.step b0)
  have BB1 := Lib.hid (below_both B0.out b0)
  clear b0 B0 HV HU
  go_wp2_with fail
  refine (known_any _).mono ?_
  rintro e w102 ⟨rfl, b0⟩
  have HV2 := Lib.hid (HV1.out.step b0)
  have HU2 := Lib.hid (HU1.out.step b0)
  have BB2 := Lib.hid (below_both BB1.out b0)
  clear b0 BB1 HV1 HU1
  go_wp2_with fail
  go_ret
  exact ⟨rfl, BB2.out⟩
set_option maxHeartbeats 400000 in
theorem laws_odd2 (v u : Value) (a b : List Rn) (lo hi k : Int) (w : World) (hv : Gs2 eR w 0 w.heap.size v a) (hu : Gs2 eR w 0 w.heap.size u b) (ha : a.length ≤ 500) (hb : b.length ≤ 500) (hma : mayr 0 a = true) (hm : mayr 0 b = false) :
    Calls Try.prog 4 #[v, u, .int .i64 lo, .int .i64 hi, .int .i64 k] w fun e w' => e = .returned (.bool true) ∧ Below w.heap.size w w' := by
  have HV := Lib.hid hv
  have HU := Lib.hid hu
  have B0 := Lib.hid (Below.refl w.heap.size w)
  obtain ⟨A0, c0, rfl, -⟩ := hv
  obtain ⟨A1, c1, rfl, -⟩ := hu
  have hn0 : ¬ (a.length : Int) > 500 := by omega
  have hn1 : ¬ (b.length : Int) > 500 := by omega
  have hd0 : decide ((a.length : Int) > 500) = false := decide_eq_false hn0
  have hd1 : decide ((b.length : Int) > 500) = false := decide_eq_false hn1
  clear ha hb
  have HM := Lib.hid hm
  have HMA := Lib.hid hma
  clear hm hma
  go_enter Try.func4, Try.ntmps4
  go_wp2_with fail
  refine (lmay _ a _ HV.out true HMA.out).mono ?_
  rintro e w101 ⟨rfl, b0⟩
  have HV1 := Lib.hid (HV.out.step b0)
  have HU1 := Lib.hid (HU.out.step b0)
  have BB1 := Lib.hid (below_both B0.out b0)
  clear b0 B0 HV HU
  go_wp2_with fail
  refine (lmay _ b _ HU1.out false HM.out).mono ?_
  rintro e w102 ⟨rfl, b0⟩
  have HV2 := Lib.hid (HV1.out.step b0)
  have HU2 := Lib.hid (HU1.out.step b0)
  have BB2 := Lib.hid (below_both BB1.out b0)
  clear b0 BB1 HV1 HU1
  go_wp2_with fail
  refine (known_any _).mono ?_
  rintro e w103 ⟨rfl, b0⟩
  have HV3 := Lib.hid (HV2.out.step b0)
  have HU3 := Lib.hid (HU2.out.step b0)
  have BB3 := Lib.hid (below_both BB2.out b0)
  clear b0 BB2 HV2 HU2
  go_wp2_with fail
  go_ret
  exact ⟨rfl, BB3.out⟩

set_option maxHeartbeats 8000000 in
set_option maxRecDepth 100000 in
theorem laws_good (v u : Value) (a b : List Rn) (lo hi k : Int) (w : World) (hv : Gs2 eR w 0 w.heap.size v a) (hu : Gs2 eR w 0 w.heap.size u b) (ha : a.length ≤ 500) (hb : b.length ≤ 500) (hma : mayr 0 a = true) (hmb : mayr 0 b = true) (hk : -9223372036854775808 ≤ k ∧ k ≤ 9223372036854775807) :
    Calls Try.prog 4 #[v, u, .int .i64 lo, .int .i64 hi, .int .i64 k] w fun e w' => e = .returned (.bool true) ∧ Below w.heap.size w w' := by
  have HV := Lib.hid hv
  have HU := Lib.hid hu
  have B0 := Lib.hid (Below.refl w.heap.size w)
  obtain ⟨A0, c0, rfl, -⟩ := hv
  obtain ⟨A1, c1, rfl, -⟩ := hu
  have hn0 : ¬ (a.length : Int) > 500 := by omega
  have hn1 : ¬ (b.length : Int) > 500 := by omega
  have hd0 : decide ((a.length : Int) > 500) = false := decide_eq_false hn0
  have hd1 : decide ((b.length : Int) > 500) = false := decide_eq_false hn1
  clear ha hb
  have HMA := Lib.hid hma
  have HMB := Lib.hid hmb
  have HK := Lib.hid hk
  obtain ⟨P, hP⟩ : ∃ P, pd fNot a b = P := ⟨_, rfl⟩
  obtain ⟨Q, hQ⟩ : ∃ Q, pd fAnd a b = Q := ⟨_, rfl⟩
  obtain ⟨O, hO⟩ : ∃ O, pd fXor a b = O := ⟨_, rfl⟩
  obtain ⟨T, hT⟩ : ∃ T, flr a lo hi = T := ⟨_, rfl⟩
  have MP := Lib.hid (show mayr 0 P = true by rw [← hP]; exact not_may hma hmb)
  have MQ := Lib.hid (show mayr 0 Q = true by rw [← hQ]; exact and_may hma hmb)
  have MO := Lib.hid (show mayr 0 O = true by rw [← hO]; exact xor_may hma hmb)
  have MT := Lib.hid (show mayr 0 T = true by rw [← hT]; exact flr_may hma lo hi)
  have LW := Lib.hid (show pd fOr P Q = a by rw [← hP, ← hQ]; exact or_whole hma hmb)
  have LX := Lib.hid (show pd fXor O b = a by rw [← hO]; exact xor_back hma hmb)
  have LF := Lib.hid (show flr T lo hi = a by rw [← hT]; exact flr_back hma lo hi)
  have LN := Lib.hid (show pd fAnd P b = [] by rw [← hP]; exact and_none hma hmb)
  obtain ⟨nA, hnA⟩ : ∃ n, ct (mr a) 65536 = n := ⟨_, rfl⟩
  obtain ⟨nP, hnP⟩ : ∃ n, ct (mr P) 65536 = n := ⟨_, rfl⟩
  obtain ⟨nQ, hnQ⟩ : ∃ n, ct (mr Q) 65536 = n := ⟨_, rfl⟩
  have hsum : (nQ : Int) + nP = nA := by rw [← hnA, ← hnP, ← hnQ, ← hP, ← hQ]; exact_mod_cast and_sum hma hmb
  have hA70 : ct (mr a) 70000 = nA := by rw [← hnA]; exact mr_stop hma 4464
  have hnAb : (nA : Int) ≤ 65536 := by have := ct_le' (mr a) 65536; omega
  have hnPb : (nP : Int) ≤ 65536 := by have := ct_le' (mr P) 65536; omega
  have hnQb : (nQ : Int) ≤ 65536 := by have := ct_le' (mr Q) 65536; omega
  have N70 := Lib.hid hA70
  have NA := Lib.hid hnA
  have NP := Lib.hid hnP
  have NQ := Lib.hid hnQ
  have EP := Lib.hid hP
  have EQ := Lib.hid hQ
  have EO := Lib.hid hO
  have ET := Lib.hid hT
  clear hma hmb hP hQ hO hT hnA hnP hnQ hA70 hk
  go_enter Try.func4, Try.ntmps4
  go_wp2_with fail
  refine (lmay _ a _ HV.out true HMA.out).mono ?_
  rintro e w101 ⟨rfl, b0⟩
  have HV1 := Lib.hid (HV.out.step b0)
  have HU1 := Lib.hid (HU.out.step b0)
  have BB1 := Lib.hid (below_both B0.out b0)
  clear b0 B0 HV HU
  go_wp2_with fail
  refine (lmay _ b _ HU1.out true HMB.out).mono ?_
  rintro e w102 ⟨rfl, b0⟩
  have HV2 := Lib.hid (HV1.out.step b0)
  have HU2 := Lib.hid (HU1.out.step b0)
  have BB2 := Lib.hid (below_both BB1.out b0)
  clear b0 BB1 HV1 HU1
  go_wp2_with fail
  refine (lnot _ _ a b P _ HV2.out HU2.out HMA.out HMB.out EP.out).mono ?_
  rintro e w103 ⟨AP, cP, rfl, g0, b0⟩
  have HV3 := Lib.hid (HV2.out.step b0)
  have HU3 := Lib.hid (HU2.out.step b0)
  have BB3 := Lib.hid (below_both BB2.out b0)
  clear b0 BB2 HV2 HU2
  have HP3 := Lib.hid g0
  clear g0
  go_wp2_with fail
  refine (land _ _ a b Q _ HV3.out HU3.out HMA.out HMB.out EQ.out).mono ?_
  rintro e w104 ⟨AQ, cQ, rfl, g0, b0⟩
  have HV4 := Lib.hid (HV3.out.step b0)
  have HU4 := Lib.hid (HU3.out.step b0)
  have HP4 := Lib.hid (HP3.out.step b0)
  have BB4 := Lib.hid (below_both BB3.out b0)
  clear b0 BB3 HV3 HU3 HP3
  have HQ4 := Lib.hid g0
  clear g0
  go_wp2_with fail
  refine (lxor _ _ a b O _ HV4.out HU4.out HMA.out HMB.out EO.out).mono ?_
  rintro e w105 ⟨AO, cO, rfl, g0, b0⟩
  have HV5 := Lib.hid (HV4.out.step b0)
  have HU5 := Lib.hid (HU4.out.step b0)
  have HP5 := Lib.hid (HP4.out.step b0)
  have HQ5 := Lib.hid (HQ4.out.step b0)
  have BB5 := Lib.hid (below_both BB4.out b0)
  clear b0 BB4 HV4 HU4 HP4 HQ4
  have HO5 := Lib.hid g0
  clear g0
  go_wp2_with fail
  refine (lor _ _ P Q a _ HP5.out HQ5.out MP.out MQ.out LW.out).mono ?_
  rintro e w106 ⟨AX, cX, rfl, g0, b0⟩
  have HV6 := Lib.hid (HV5.out.step b0)
  have HU6 := Lib.hid (HU5.out.step b0)
  have HP6 := Lib.hid (HP5.out.step b0)
  have HQ6 := Lib.hid (HQ5.out.step b0)
  have HO6 := Lib.hid (HO5.out.step b0)
  have BB6 := Lib.hid (below_both BB5.out b0)
  clear b0 BB5 HV5 HU5 HP5 HQ5 HO5
  have HX6 := Lib.hid g0
  clear g0
  go_wp2_with fail
  refine (lsame _ _ a a _ HX6.out HV6.out rfl).mono ?_
  rintro e w107 ⟨rfl, b0⟩
  have HV7 := Lib.hid (HV6.out.step b0)
  have HU7 := Lib.hid (HU6.out.step b0)
  have HP7 := Lib.hid (HP6.out.step b0)
  have HQ7 := Lib.hid (HQ6.out.step b0)
  have HO7 := Lib.hid (HO6.out.step b0)
  have HX7 := Lib.hid (HX6.out.step b0)
  have BB7 := Lib.hid (below_both BB6.out b0)
  clear b0 BB6 HV6 HU6 HP6 HQ6 HO6 HX6
  go_wp2_with fail
  refine (lxor _ _ O b a _ HO7.out HU7.out MO.out HMB.out LX.out).mono ?_
  rintro e w108 ⟨AY, cY, rfl, g0, b0⟩
  have HV8 := Lib.hid (HV7.out.step b0)
  have HU8 := Lib.hid (HU7.out.step b0)
  have HP8 := Lib.hid (HP7.out.step b0)
  have HQ8 := Lib.hid (HQ7.out.step b0)
  have HO8 := Lib.hid (HO7.out.step b0)
  have HX8 := Lib.hid (HX7.out.step b0)
  have BB8 := Lib.hid (below_both BB7.out b0)
  clear b0 BB7 HV7 HU7 HP7 HQ7 HO7 HX7
  have HY8 := Lib.hid g0
  clear g0
  go_wp2_with fail
  refine (lsame _ _ a a _ HY8.out HV8.out rfl).mono ?_
  rintro e w109 ⟨rfl, b0⟩
  have HV9 := Lib.hid (HV8.out.step b0)
  have HU9 := Lib.hid (HU8.out.step b0)
  have HP9 := Lib.hid (HP8.out.step b0)
  have HQ9 := Lib.hid (HQ8.out.step b0)
  have HO9 := Lib.hid (HO8.out.step b0)
  have HX9 := Lib.hid (HX8.out.step b0)
  have HY9 := Lib.hid (HY8.out.step b0)
  have BB9 := Lib.hid (below_both BB8.out b0)
  clear b0 BB8 HV8 HU8 HP8 HQ8 HO8 HX8 HY8
  go_wp2_with fail
  refine (lflip _ a T lo hi _ HV9.out HMA.out ET.out).mono ?_
  rintro e w110 ⟨AT, cT, rfl, g0, b0⟩
  have HV10 := Lib.hid (HV9.out.step b0)
  have HU10 := Lib.hid (HU9.out.step b0)
  have HP10 := Lib.hid (HP9.out.step b0)
  have HQ10 := Lib.hid (HQ9.out.step b0)
  have HO10 := Lib.hid (HO9.out.step b0)
  have HX10 := Lib.hid (HX9.out.step b0)
  have HY10 := Lib.hid (HY9.out.step b0)
  have BB10 := Lib.hid (below_both BB9.out b0)
  clear b0 BB9 HV9 HU9 HP9 HQ9 HO9 HX9 HY9
  have HT10 := Lib.hid g0
  clear g0
  go_wp2_with fail
  refine (lflip _ T a lo hi _ HT10.out MT.out LF.out).mono ?_
  rintro e w111 ⟨AZ, cZ, rfl, g0, b0⟩
  have HV11 := Lib.hid (HV10.out.step b0)
  have HU11 := Lib.hid (HU10.out.step b0)
  have HP11 := Lib.hid (HP10.out.step b0)
  have HQ11 := Lib.hid (HQ10.out.step b0)
  have HO11 := Lib.hid (HO10.out.step b0)
  have HX11 := Lib.hid (HX10.out.step b0)
  have HY11 := Lib.hid (HY10.out.step b0)
  have HT11 := Lib.hid (HT10.out.step b0)
  have BB11 := Lib.hid (below_both BB10.out b0)
  clear b0 BB10 HV10 HU10 HP10 HQ10 HO10 HX10 HY10 HT10
  have HZ11 := Lib.hid g0
  clear g0
  go_wp2_with fail
  refine (lsame _ _ a a _ HZ11.out HV11.out rfl).mono ?_
  rintro e w112 ⟨rfl, b0⟩
  have HV12 := Lib.hid (HV11.out.step b0)
  have HU12 := Lib.hid (HU11.out.step b0)
  have HP12 := Lib.hid (HP11.out.step b0)
  have HQ12 := Lib.hid (HQ11.out.step b0)
  have HO12 := Lib.hid (HO11.out.step b0)
  have HX12 := Lib.hid (HX11.out.step b0)
  have HY12 := Lib.hid (HY11.out.step b0)
  have HT12 := Lib.hid (HT11.out.step b0)
  have HZ12 := Lib.hid (HZ11.out.step b0)
  have BB12 := Lib.hid (below_both BB11.out b0)
  clear b0 BB11 HV11 HU11 HP11 HQ11 HO11 HX11 HY11 HT11 HZ11
  go_wp2_with fail
  refine (land _ _ P b [] _ HP12.out HU12.out MP.out HMB.out LN.out).mono ?_
  rintro e w113 ⟨AE, cE, rfl, g0, b0⟩
  have HV13 := Lib.hid (HV12.out.step b0)
  have HU13 := Lib.hid (HU12.out.step b0)
  have HP13 := Lib.hid (HP12.out.step b0)
  have HQ13 := Lib.hid (HQ12.out.step b0)
  have HO13 := Lib.hid (HO12.out.step b0)
  have HX13 := Lib.hid (HX12.out.step b0)
  have HY13 := Lib.hid (HY12.out.step b0)
  have HT13 := Lib.hid (HT12.out.step b0)
  have HZ13 := Lib.hid (HZ12.out.step b0)
  have BB13 := Lib.hid (below_both BB12.out b0)
  clear b0 BB12 HV12 HU12 HP12 HQ12 HO12 HX12 HY12 HT12 HZ12
  have HE13 := Lib.hid g0
  clear g0
  clear HX13 HY13 HT13 HZ13 HE13
  go_wp2_with fail
  refine (lflip _ a T lo hi _ HV13.out HMA.out ET.out).mono ?_
  rintro e w114 ⟨AS, cS, rfl, g0, b0⟩
  have HV14 := Lib.hid (HV13.out.step b0)
  have HU14 := Lib.hid (HU13.out.step b0)
  have HP14 := Lib.hid (HP13.out.step b0)
  have HQ14 := Lib.hid (HQ13.out.step b0)
  have HO14 := Lib.hid (HO13.out.step b0)
  have BB14 := Lib.hid (below_both BB13.out b0)
  clear b0 BB13 HV13 HU13 HP13 HQ13 HO13
  have HS14 := Lib.hid g0
  clear g0
  go_wp2_with fail
  have ix0 : ∀ w : World, (Instr.index 38 (.agg #[.slice AP P.length cP, .slice AQ Q.length cQ, .slice AO O.length cO, .slice AS T.length cS]) (.int .i64 0)).run Try.prog w = .ok (.slice AP P.length cP) w := fun _ => by kernel_rfl
  have ix1 : ∀ w : World, (Instr.index 38 (.agg #[.slice AP P.length cP, .slice AQ Q.length cQ, .slice AO O.length cO, .slice AS T.length cS]) (.int .i64 1)).run Try.prog w = .ok (.slice AQ Q.length cQ) w := fun _ => by kernel_rfl
  have ix2 : ∀ w : World, (Instr.index 38 (.agg #[.slice AP P.length cP, .slice AQ Q.length cQ, .slice AO O.length cO, .slice AS T.length cS]) (.int .i64 2)).run Try.prog w = .ok (.slice AO O.length cO) w := fun _ => by kernel_rfl
  have ix3 : ∀ w : World, (Instr.index 38 (.agg #[.slice AP P.length cP, .slice AQ Q.length cQ, .slice AO O.length cO, .slice AS T.length cS]) (.int .i64 3)).run Try.prog w = .ok (.slice AS T.length cS) w := fun _ => by kernel_rfl
  go_loopw [87] (fun s wr => (s = .int .i64 0 ∨ s = .int .i64 1 ∨ s = .int .i64 2 ∨ s = .int .i64 3 ∨ s = .int .i64 4) ∧ Below w114.heap.size w114 wr) (fun s _ => ((4 : Int) - intOf s).toNat)
  case atStart => exact ⟨.inl rfl, Below.refl _ _⟩
  case round =>
    obtain ⟨hk4, hbl⟩ := hrel
    have HVr := Lib.hid (HV14.out.step hbl)
    have HUr := Lib.hid (HU14.out.step hbl)
    have HPr := Lib.hid (HP14.out.step hbl)
    have HQr := Lib.hid (HQ14.out.step hbl)
    have HOr := Lib.hid (HO14.out.step hbl)
    have HSr := Lib.hid (HS14.out.step hbl)
    have BBr := Lib.hid (below_both BB14.out hbl)
    have BL := Lib.hid hbl
    clear hbl
    rcases hk4 with rfl | rfl | rfl | rfl | rfl
    · go_wp2_with fail
      refine (lmay _ P _ HPr.out true MP.out).mono ?_
      rintro e wz ⟨rfl, bz⟩
      have BZ := Lib.hid (below_both BL.out bz)
      clear bz
      go_wp2
      exact ⟨⟨.inr (.inl rfl), BZ.out⟩, by simp [intOf]⟩
    · go_wp2_with fail
      refine (lmay _ Q _ HQr.out true MQ.out).mono ?_
      rintro e wz ⟨rfl, bz⟩
      have BZ := Lib.hid (below_both BL.out bz)
      clear bz
      go_wp2
      exact ⟨⟨.inr (.inr (.inl rfl)), BZ.out⟩, by simp [intOf]⟩
    · go_wp2_with fail
      refine (lmay _ O _ HOr.out true MO.out).mono ?_
      rintro e wz ⟨rfl, bz⟩
      have BZ := Lib.hid (below_both BL.out bz)
      clear bz
      go_wp2
      exact ⟨⟨.inr (.inr (.inr (.inl rfl))), BZ.out⟩, by simp [intOf]⟩
    · go_wp2_with fail
      refine (lmay _ T _ HSr.out true MT.out).mono ?_
      rintro e wz ⟨rfl, bz⟩
      have BZ := Lib.hid (below_both BL.out bz)
      clear bz
      go_wp2
      exact ⟨⟨.inr (.inr (.inr (.inr rfl))), BZ.out⟩, by simp [intOf]⟩
    · skip
      clear HSr BL ix0 ix1 ix2 ix3
      rcases Int.lt_or_le k 0 with h0 | h0
      · have hsv : selv a k = .tuple #[.int .u16 0, .bool false] := by unfold selv; rw [if_pos h0]; rfl
        have KB := Lib.hid HK.out.2
        clear h0 HK
        skip
        have SV := Lib.hid hsv
        clear hsv
        go_wp2_with fail
        refine (rselect_any _ a _ _ HVr.out HMA.out (by have := KB.out; omega)).mono ?_
        rw [SV.out]
        rintro e w115 ⟨rfl, b0⟩
        have HV15 := Lib.hid (HVr.out.step b0)
        have HU15 := Lib.hid (HUr.out.step b0)
        have HP15 := Lib.hid (HPr.out.step b0)
        have HQ15 := Lib.hid (HQr.out.step b0)
        have HO15 := Lib.hid (HOr.out.step b0)
        have BB15 := Lib.hid (below_both BBr.out b0)
        clear b0 BBr HVr HUr HPr HQr HOr
        go_wp2_with fail
        refine (rrank_any _ a 70000 nA _ HV15.out HMA.out (by omega) N70.out).mono ?_
        rintro e w116 ⟨rfl, b0⟩
        have HV16 := Lib.hid (HV15.out.step b0)
        have HU16 := Lib.hid (HU15.out.step b0)
        have HP16 := Lib.hid (HP15.out.step b0)
        have HQ16 := Lib.hid (HQ15.out.step b0)
        have HO16 := Lib.hid (HO15.out.step b0)
        have BB16 := Lib.hid (below_both BB15.out b0)
        clear b0 BB15 HV15 HU15 HP15 HQ15 HO15
        go_wp2_with fail
        refine (rlen_any _ a nA _ HV16.out HMA.out NA.out).mono ?_
        rintro e w117 ⟨rfl, b0⟩
        have HV17 := Lib.hid (HV16.out.step b0)
        have HU17 := Lib.hid (HU16.out.step b0)
        have HP17 := Lib.hid (HP16.out.step b0)
        have HQ17 := Lib.hid (HQ16.out.step b0)
        have HO17 := Lib.hid (HO16.out.step b0)
        have BB17 := Lib.hid (below_both BB16.out b0)
        clear b0 BB16 HV16 HU16 HP16 HQ16 HO16
        go_wp2_with fail
        refine (rlen_any _ Q nQ _ HQ17.out MQ.out NQ.out).mono ?_
        rintro e w118 ⟨rfl, b0⟩
        have HV18 := Lib.hid (HV17.out.step b0)
        have HU18 := Lib.hid (HU17.out.step b0)
        have HP18 := Lib.hid (HP17.out.step b0)
        have HQ18 := Lib.hid (HQ17.out.step b0)
        have HO18 := Lib.hid (HO17.out.step b0)
        have BB18 := Lib.hid (below_both BB17.out b0)
        clear b0 BB17 HV17 HU17 HP17 HQ17 HO17
        go_wp2_with fail
        refine (rlen_any _ P nP _ HP18.out MP.out NP.out).mono ?_
        rintro e w119 ⟨rfl, b0⟩
        have HV19 := Lib.hid (HV18.out.step b0)
        have HU19 := Lib.hid (HU18.out.step b0)
        have HP19 := Lib.hid (HP18.out.step b0)
        have HQ19 := Lib.hid (HQ18.out.step b0)
        have HO19 := Lib.hid (HO18.out.step b0)
        have BB19 := Lib.hid (below_both BB18.out b0)
        clear b0 BB18 HV18 HU18 HP18 HQ18 HO18
        go_wp2_with fail
        refine (rlen_any _ a nA _ HV19.out HMA.out NA.out).mono ?_
        rintro e w120 ⟨rfl, b0⟩
        have HV20 := Lib.hid (HV19.out.step b0)
        have HU20 := Lib.hid (HU19.out.step b0)
        have HP20 := Lib.hid (HP19.out.step b0)
        have HQ20 := Lib.hid (HQ19.out.step b0)
        have HO20 := Lib.hid (HO19.out.step b0)
        have BB20 := Lib.hid (below_both BB19.out b0)
        clear b0 BB19 HV19 HU19 HP19 HQ19 HO19
        go_wp2_with fail
        refine (known_any _).mono ?_
        rintro e w121 ⟨rfl, b0⟩
        have HV21 := Lib.hid (HV20.out.step b0)
        have HU21 := Lib.hid (HU20.out.step b0)
        have HP21 := Lib.hid (HP20.out.step b0)
        have HQ21 := Lib.hid (HQ20.out.step b0)
        have HO21 := Lib.hid (HO20.out.step b0)
        have BB21 := Lib.hid (below_both BB20.out b0)
        clear b0 BB20 HV20 HU20 HP20 HQ20 HO20
        go_wp2_with fail
        go_ret
        exact ⟨rfl, BB21.out⟩
      · obtain ⟨M, rfl⟩ : ∃ M : Nat, k = (M : Int) := ⟨k.toNat, by omega⟩
        cases hsel : sel a M with
        | none =>
          have hsv : selv a (M : Int) = .tuple #[.int .u16 0, .bool false] := by unfold selv; rw [if_neg (by omega), Int.toNat_natCast, hsel]; rfl
          have KB := Lib.hid HK.out.2
          clear h0 HK
          clear hsel
          have SV := Lib.hid hsv
          clear hsv
          go_wp2_with fail
          refine (rselect_any _ a _ _ HVr.out HMA.out (by have := KB.out; omega)).mono ?_
          rw [SV.out]
          rintro e w115 ⟨rfl, b0⟩
          have HV15 := Lib.hid (HVr.out.step b0)
          have HU15 := Lib.hid (HUr.out.step b0)
          have HP15 := Lib.hid (HPr.out.step b0)
          have HQ15 := Lib.hid (HQr.out.step b0)
          have HO15 := Lib.hid (HOr.out.step b0)
          have BB15 := Lib.hid (below_both BBr.out b0)
          clear b0 BBr HVr HUr HPr HQr HOr
          go_wp2_with fail
          refine (rrank_any _ a 70000 nA _ HV15.out HMA.out (by omega) N70.out).mono ?_
          rintro e w116 ⟨rfl, b0⟩
          have HV16 := Lib.hid (HV15.out.step b0)
          have HU16 := Lib.hid (HU15.out.step b0)
          have HP16 := Lib.hid (HP15.out.step b0)
          have HQ16 := Lib.hid (HQ15.out.step b0)
          have HO16 := Lib.hid (HO15.out.step b0)
          have BB16 := Lib.hid (below_both BB15.out b0)
          clear b0 BB15 HV15 HU15 HP15 HQ15 HO15
          go_wp2_with fail
          refine (rlen_any _ a nA _ HV16.out HMA.out NA.out).mono ?_
          rintro e w117 ⟨rfl, b0⟩
          have HV17 := Lib.hid (HV16.out.step b0)
          have HU17 := Lib.hid (HU16.out.step b0)
          have HP17 := Lib.hid (HP16.out.step b0)
          have HQ17 := Lib.hid (HQ16.out.step b0)
          have HO17 := Lib.hid (HO16.out.step b0)
          have BB17 := Lib.hid (below_both BB16.out b0)
          clear b0 BB16 HV16 HU16 HP16 HQ16 HO16
          go_wp2_with fail
          refine (rlen_any _ Q nQ _ HQ17.out MQ.out NQ.out).mono ?_
          rintro e w118 ⟨rfl, b0⟩
          have HV18 := Lib.hid (HV17.out.step b0)
          have HU18 := Lib.hid (HU17.out.step b0)
          have HP18 := Lib.hid (HP17.out.step b0)
          have HQ18 := Lib.hid (HQ17.out.step b0)
          have HO18 := Lib.hid (HO17.out.step b0)
          have BB18 := Lib.hid (below_both BB17.out b0)
          clear b0 BB17 HV17 HU17 HP17 HQ17 HO17
          go_wp2_with fail
          refine (rlen_any _ P nP _ HP18.out MP.out NP.out).mono ?_
          rintro e w119 ⟨rfl, b0⟩
          have HV19 := Lib.hid (HV18.out.step b0)
          have HU19 := Lib.hid (HU18.out.step b0)
          have HP19 := Lib.hid (HP18.out.step b0)
          have HQ19 := Lib.hid (HQ18.out.step b0)
          have HO19 := Lib.hid (HO18.out.step b0)
          have BB19 := Lib.hid (below_both BB18.out b0)
          clear b0 BB18 HV18 HU18 HP18 HQ18 HO18
          go_wp2_with fail
          refine (rlen_any _ a nA _ HV19.out HMA.out NA.out).mono ?_
          rintro e w120 ⟨rfl, b0⟩
          have HV20 := Lib.hid (HV19.out.step b0)
          have HU20 := Lib.hid (HU19.out.step b0)
          have HP20 := Lib.hid (HP19.out.step b0)
          have HQ20 := Lib.hid (HQ19.out.step b0)
          have HO20 := Lib.hid (HO19.out.step b0)
          have BB20 := Lib.hid (below_both BB19.out b0)
          clear b0 BB19 HV19 HU19 HP19 HQ19 HO19
          go_wp2_with fail
          refine (known_any _).mono ?_
          rintro e w121 ⟨rfl, b0⟩
          have HV21 := Lib.hid (HV20.out.step b0)
          have HU21 := Lib.hid (HU20.out.step b0)
          have HP21 := Lib.hid (HP20.out.step b0)
          have HQ21 := Lib.hid (HQ20.out.step b0)
          have HO21 := Lib.hid (HO20.out.step b0)
          have BB21 := Lib.hid (below_both BB20.out b0)
          clear b0 BB20 HV20 HU20 HP20 HQ20 HO20
          go_wp2_with fail
          go_ret
          exact ⟨rfl, BB21.out⟩
        | some y =>
          have hsv : selv a (M : Int) = .tuple #[.int .u16 (y : Int), .bool true] := by unfold selv; rw [if_neg (by omega), Int.toNat_natCast, hsel]; rfl
          clear h0
          obtain ⟨hs1, hs2, hs3⟩ := sel_some HMA.out hsel
          have hyi : (y : Int) ≤ 65535 := by omega
          have hkM : (M : Int) ≤ 65535 := by have := ct_le' (mr a) y; omega
          have hct1 : ct (mr a) (y + 1) = M + 1 := by rw [ct, hs2, hs1]; rfl
          have w1 : IntKind.i64.wrap (y : Int) = y := by simp [IntKind.wrap, IntKind.bits, IntKind.signed]; omega
          have w2 : IntKind.i64.wrap ((y : Int) + 1) = ((y + 1 : Nat) : Int) := by simp [IntKind.wrap, IntKind.bits, IntKind.signed]; omega
          have w3 : IntKind.i64.wrap ((M : Int) + 1) = ((M + 1 : Nat) : Int) := by simp [IntKind.wrap, IntKind.bits, IntKind.signed]; omega
          have S1 := Lib.hid hs1
          have S2 := Lib.hid hs2
          have S4 := Lib.hid hct1
          have SY := Lib.hid hs3
          obtain ⟨y1, hy1⟩ : ∃ y1, y1 = y + 1 := ⟨_, rfl⟩
          obtain ⟨M1, hM1⟩ : ∃ M1, M1 = M + 1 := ⟨_, rfl⟩
          rw [← hy1] at w2
          rw [← hM1] at w3
          have Y1 := Lib.hid hy1
          have M1' := Lib.hid hM1
          clear hs1 hs2 hs3 hct1 hsel hy1 hM1 HK
          have SV := Lib.hid hsv
          clear hsv
          go_wp2_with fail
          refine (rselect_any _ a _ _ HVr.out HMA.out (by omega)).mono ?_
          rw [SV.out]
          rintro e w115 ⟨rfl, b0⟩
          have HV15 := Lib.hid (HVr.out.step b0)
          have HU15 := Lib.hid (HUr.out.step b0)
          have HP15 := Lib.hid (HPr.out.step b0)
          have HQ15 := Lib.hid (HQr.out.step b0)
          have HO15 := Lib.hid (HOr.out.step b0)
          have BB15 := Lib.hid (below_both BBr.out b0)
          clear b0 BBr HVr HUr HPr HQr HOr
          go_wp2_with fail
          refine (rrank_any _ a y M _ HV15.out HMA.out (by have := SY.out; omega) S2.out).mono ?_
          rintro e w116 ⟨rfl, b0⟩
          have HV16 := Lib.hid (HV15.out.step b0)
          have HU16 := Lib.hid (HU15.out.step b0)
          have HP16 := Lib.hid (HP15.out.step b0)
          have HQ16 := Lib.hid (HQ15.out.step b0)
          have HO16 := Lib.hid (HO15.out.step b0)
          have BB16 := Lib.hid (below_both BB15.out b0)
          clear b0 BB15 HV15 HU15 HP15 HQ15 HO15
          go_wp2_with fail
          refine (rhas_any _ a y _ HV16.out HMA.out (Nat.le_trans (mayr_len HMA.out) (by omega)) (by have := SY.out; omega)).mono ?_
          rw [S1.out]
          rintro e w117 ⟨rfl, b0⟩
          have HV17 := Lib.hid (HV16.out.step b0)
          have HU17 := Lib.hid (HU16.out.step b0)
          have HP17 := Lib.hid (HP16.out.step b0)
          have HQ17 := Lib.hid (HQ16.out.step b0)
          have HO17 := Lib.hid (HO16.out.step b0)
          have BB17 := Lib.hid (below_both BB16.out b0)
          clear b0 BB16 HV16 HU16 HP16 HQ16 HO16
          go_wp2_with fail
          refine (rrank_any _ a y1 M1 _ HV17.out HMA.out (by have := SY.out; have := Y1.out; omega) (by rw [Y1.out, M1'.out]; exact S4.out)).mono ?_
          rintro e w118 ⟨rfl, b0⟩
          have HV18 := Lib.hid (HV17.out.step b0)
          have HU18 := Lib.hid (HU17.out.step b0)
          have HP18 := Lib.hid (HP17.out.step b0)
          have HQ18 := Lib.hid (HQ17.out.step b0)
          have HO18 := Lib.hid (HO17.out.step b0)
          have BB18 := Lib.hid (below_both BB17.out b0)
          clear b0 BB17 HV17 HU17 HP17 HQ17 HO17
          go_wp2_with fail
          refine (rrank_any _ a 70000 nA _ HV18.out HMA.out (by omega) N70.out).mono ?_
          rintro e w119 ⟨rfl, b0⟩
          have HV19 := Lib.hid (HV18.out.step b0)
          have HU19 := Lib.hid (HU18.out.step b0)
          have HP19 := Lib.hid (HP18.out.step b0)
          have HQ19 := Lib.hid (HQ18.out.step b0)
          have HO19 := Lib.hid (HO18.out.step b0)
          have BB19 := Lib.hid (below_both BB18.out b0)
          clear b0 BB18 HV18 HU18 HP18 HQ18 HO18
          go_wp2_with fail
          refine (rlen_any _ a nA _ HV19.out HMA.out NA.out).mono ?_
          rintro e w120 ⟨rfl, b0⟩
          have HV20 := Lib.hid (HV19.out.step b0)
          have HU20 := Lib.hid (HU19.out.step b0)
          have HP20 := Lib.hid (HP19.out.step b0)
          have HQ20 := Lib.hid (HQ19.out.step b0)
          have HO20 := Lib.hid (HO19.out.step b0)
          have BB20 := Lib.hid (below_both BB19.out b0)
          clear b0 BB19 HV19 HU19 HP19 HQ19 HO19
          go_wp2_with fail
          refine (rlen_any _ Q nQ _ HQ20.out MQ.out NQ.out).mono ?_
          rintro e w121 ⟨rfl, b0⟩
          have HV21 := Lib.hid (HV20.out.step b0)
          have HU21 := Lib.hid (HU20.out.step b0)
          have HP21 := Lib.hid (HP20.out.step b0)
          have HQ21 := Lib.hid (HQ20.out.step b0)
          have HO21 := Lib.hid (HO20.out.step b0)
          have BB21 := Lib.hid (below_both BB20.out b0)
          clear b0 BB20 HV20 HU20 HP20 HQ20 HO20
          go_wp2_with fail
          refine (rlen_any _ P nP _ HP21.out MP.out NP.out).mono ?_
          rintro e w122 ⟨rfl, b0⟩
          have HV22 := Lib.hid (HV21.out.step b0)
          have HU22 := Lib.hid (HU21.out.step b0)
          have HP22 := Lib.hid (HP21.out.step b0)
          have HQ22 := Lib.hid (HQ21.out.step b0)
          have HO22 := Lib.hid (HO21.out.step b0)
          have BB22 := Lib.hid (below_both BB21.out b0)
          clear b0 BB21 HV21 HU21 HP21 HQ21 HO21
          go_wp2_with fail
          refine (rlen_any _ a nA _ HV22.out HMA.out NA.out).mono ?_
          rintro e w123 ⟨rfl, b0⟩
          have HV23 := Lib.hid (HV22.out.step b0)
          have HU23 := Lib.hid (HU22.out.step b0)
          have HP23 := Lib.hid (HP22.out.step b0)
          have HQ23 := Lib.hid (HQ22.out.step b0)
          have HO23 := Lib.hid (HO22.out.step b0)
          have BB23 := Lib.hid (below_both BB22.out b0)
          clear b0 BB22 HV22 HU22 HP22 HQ22 HO22
          go_wp2_with fail
          refine (known_any _).mono ?_
          rintro e w124 ⟨rfl, b0⟩
          have HV24 := Lib.hid (HV23.out.step b0)
          have HU24 := Lib.hid (HU23.out.step b0)
          have HP24 := Lib.hid (HP23.out.step b0)
          have HQ24 := Lib.hid (HQ23.out.step b0)
          have HO24 := Lib.hid (HO23.out.step b0)
          have BB24 := Lib.hid (below_both BB23.out b0)
          clear b0 BB23 HV23 HU23 HP23 HQ23 HO23
          go_wp2_with fail
          go_ret
          exact ⟨rfl, BB24.out⟩
end Go.Proofs.Ytgkelfhmpeakkaa
