/- Proved: for every slice of numbers and every two integers the law ContainerSmall returns true, and its arguments read as they did; the table of lowest bits of math/bits is as the program's text lays it (the card ties it); no condition of ours. -/
import Derived.Test.YtfefmlnlicilbaaGreatDoorMh
import Derived.Deep.CutRange
import Derived.Deep.DeepCutAuto
import Derived.Test.YtfefmlnlicilbaaGreatDoorMf
/- Proved of ContainerSmall: whatever its arguments. -/
namespace Go.Proofs.YtfefmlnlicilbaaGreatDoor
open Go.RowKit
set_option linter.unusedVariables false

set_option maxHeartbeats 400000 in
theorem small_long (a0 : Option Addr) (len0 cap0 : Nat) (x y : Int) (w : World) (hT : Tb w) (h : 1000 < len0) (h2 : len0 ≤ 9223372036854775807) :
    Calls Tryz.prog 4 #[.slice a0 len0 cap0, .int .i64 x, .int .i64 y] w fun e w' => e = .returned (.bool true) ∧ Below w.heap.size w w' := by
  have hi : (len0 : Int) > 1000 := by omega
  clear h
  go_enter Tryz.func4, Tryz.ntmps4
  go_wp2_with (go_at_call 6; refine (known_any _ hT).mono ?_; rintro e w1 ⟨rfl, b1⟩)
  go_ret
  exact ⟨rfl, b1⟩
theorem all_ct (p : Nat → Bool) : ct (flp p 0 65536) 65536 = 65536 - ct p 65536 := by
  rw [← ct_not]
  exact ct_ext fun j hj => flp_all p j hj
theorem and_ct (p : Nat → Bool) : ct (fun x => fAnd (flp p 0 65536 x) (p x)) 65536 = 0 := ct_zero fun j hj => by
  show fAnd (flp p 0 65536 j) (p j) = false
  rw [flp_all p j hj]; unfold fAnd; cases p j <;> rfl
theorem or_ct (p : Nat → Bool) : ct (fun x => fOr (flp p 0 65536 x) (p x)) 65536 = 65536 := ct_all fun j hj => by
  show fOr (flp p 0 65536 j) (p j) = true
  rw [flp_all p j hj]; unfold fOr; cases p j <;> rfl

set_option maxHeartbeats 8000000 in
set_option maxRecDepth 100000 in
theorem small_good (v : Value) (l : List UInt16) (x y : Int) (w : World) (hT : Tb w) (hv : Gs e16 w 0 w.heap.size v l) (hl : l.length ≤ 1000) :
    Calls Tryz.prog 4 #[v, .int .i64 x, .int .i64 y] w fun e w' => e = .returned (.bool true) ∧ Below w.heap.size w w' := by
  have GV := Lib.hid hv
  have TT := Lib.hid hT
  have BB := Lib.hid (Below.refl w.heap.size w)
  have LB := Lib.hid (show l.length ≤ 100000000 from Nat.le_trans hl (by omega))
  obtain ⟨A, c, rfl, -⟩ := hv
  have hn0 : ¬ (l.length : Int) > 1000 := by omega
  have hd0 : decide ((l.length : Int) > 1000) = false := decide_eq_false hn0
  obtain ⟨p, hp⟩ : ∃ p, mk l = p := ⟨_, rfl⟩
  obtain ⟨P, hP⟩ : ∃ P, flp p x y = P := ⟨_, rfl⟩
  obtain ⟨Q, hQ⟩ : ∃ Q, ck P = Q := ⟨_, rfl⟩
  obtain ⟨cc, hcc⟩ : ∃ n, ct P 65536 = n := ⟨_, rfl⟩
  obtain ⟨rr, hrr⟩ : ∃ n, ct (hm P) 65536 = n := ⟨_, rfl⟩
  obtain ⟨m, hm2⟩ : ∃ n, ct p 65536 = n := ⟨_, rfl⟩
  obtain ⟨s, hs⟩ : ∃ n, szn Q cc rr = n := ⟨_, rfl⟩
  have hck : ck p = ck p := rfl
  obtain ⟨kp, hkp⟩ : ∃ n, ck p = n := ⟨_, rfl⟩
  obtain ⟨R, hR⟩ : ∃ R, flp P 0 65536 = R := ⟨_, rfl⟩
  obtain ⟨KR, hKR⟩ : ∃ n, ck R = n := ⟨_, rfl⟩
  have hc6 : cc ≤ 65536 := hcc ▸ ct_le _ _
  have hr6 : rr ≤ 65536 := hrr ▸ ct_le _ _
  have hRc : ct R 65536 = 65536 - cc := by rw [← hR, all_ct, hcc]
  have HS := Lib.hid (show s = if cc ≤ 4096 then min (min 8192 (2 + 4 * rr)) (2 * cc) else min 8192 (2 + 4 * rr) by rw [← szn_least, ← hs, ← hQ, ← hcc, ← hrr]; rfl)
  have ES := Lib.hid (show szn Q (ct P 65536) (ct (hm P) 65536) = s by rw [hcc, hrr]; exact hs)
  have HP := Lib.hid hp
  have EP := Lib.hid hP
  have EQ := Lib.hid hQ
  have EC := Lib.hid hcc
  have ER := Lib.hid hrr
  have EM := Lib.hid hm2
  have EK := Lib.hid hkp
  have ERR := Lib.hid hR
  have EKR := Lib.hid hKR
  have C6 := Lib.hid hc6
  have R6 := Lib.hid hr6
  have FB := Lib.hid (show flp P x y = p by rw [← hP]; exact flp_twice p x y)
  have RC0 := Lib.hid hRc
  have A0 := Lib.hid (show ct (fun x => fAnd (R x) (P x)) 65536 = 0 by rw [← hR]; exact and_ct P)
  have O0 := Lib.hid (show ct (fun x => fOr (R x) (P x)) 65536 = 65536 by rw [← hR]; exact or_ct P)
  clear hT hl hp hP hQ hcc hrr hm2 hs hck hkp hR hKR hRc hc6 hr6
  go_enter Tryz.func4, Tryz.ntmps4
  go_wp2_with fail
  refine (of_any _ l 0 _ GV.out LB.out).mono ?_
  rw [HP.out]
  rintro e u1 ⟨rfl, rm, b⟩
  have TT := Lib.hid (TT.out.step b)
  have BB := Lib.hid (below_both BB.out b)
  have RM := Lib.hid (rm)
  clear rm b
  go_wp2_with fail
  refine (marks_words _ p _ RM.out).mono ?_
  rintro e u2 ⟨X2, x2, rfl, g, b⟩
  have TT := Lib.hid (TT.out.step b)
  have BB := Lib.hid (below_both BB.out b)
  have RM := Lib.hid (RM.out.below b RM.out.lt)
  have G2 := Lib.hid (g.more (Nat.zero_le _) (Nat.le_refl _))
  clear g b
  go_wp2_with fail
  refine (ofWords_yes _ 1024 _ p _ (anyN_all _) G2.out).mono ?_
  rintro e u3 ⟨v4, rfl, g, b⟩
  obtain ⟨κa, Aa, na, ca, Ba, ma, da, Da, qa, ea, rfl⟩ := g.form
  have TT := Lib.hid (TT.out.step b)
  have BB := Lib.hid (below_both BB.out b)
  have RM := Lib.hid (RM.out.below b RM.out.lt)
  have G2 := Lib.hid (G2.out.stp b)
  have CA := Lib.hid (g)
  clear g b
  go_wp2_with fail
  clear RM
  clear G2
  have rz := Row.new u3 28 #[.int .u8 κa, .slice Aa na ca, .slice Ba ma da, .slice Da qa ea]
  have bz := bx u3 (.cells #[.int .u8 κa, .slice Aa na ca, .slice Ba ma da, .slice Da qa ea] 28)
  generalize u3.alloc (.cells #[.int .u8 κa, .slice Aa na ca, .slice Ba ma da, .slice Da qa ea] 28) = u4 at *
  have TT := Lib.hid (TT.out.step bz)
  have BB := Lib.hid (below_both BB.out bz)
  have CA := Lib.hid (CA.out.step bz)
  have RA := Lib.hid rz
  clear rz bz
  refine (flip_c _ p 2 x y _ TT.out (anyN_all _) CA.out).mono ?_
  rw [EP.out, EQ.out]
  rintro e u5 ⟨v4, rfl, g, b⟩
  obtain ⟨κb, Ab, nb, cb, Bb, mb, db, Db, qb, eb, rfl⟩ := g.form
  have TT := Lib.hid (TT.out.step b)
  have BB := Lib.hid (below_both BB.out b)
  have CA := Lib.hid (CA.out.step b)
  have RA := Lib.hid (RA.out.below b RA.out.lt)
  have CD := Lib.hid (g)
  clear g b
  go_upto_region 7 with fail
  have rz := Row.new u5 28 #[.int .u8 κb, .slice Ab nb cb, .slice Bb mb db, .slice Db qb eb]
  have bz := bx u5 (.cells #[.int .u8 κb, .slice Ab nb cb, .slice Bb mb db, .slice Db qb eb] 28)
  generalize u5.alloc (.cells #[.int .u8 κb, .slice Ab nb cb, .slice Bb mb db, .slice Db qb eb] 28) = u6 at *
  have TT := Lib.hid (TT.out.step bz)
  have BB := Lib.hid (below_both BB.out bz)
  have CA := Lib.hid (CA.out.step bz)
  have RA := Lib.hid (RA.out.below bz RA.out.lt)
  have CD := Lib.hid (CD.out.step bz)
  have RD := Lib.hid rz
  clear rz bz
  obtain ⟨M1, hM1⟩ : ∃ n, min 8192 (2 + 4 * rr) = n := ⟨_, rfl⟩
  have EM1 := Lib.hid hM1
  clear hM1
  have w1 : wrap64 (4 * (rr : Int)) = 4 * (rr : Int) := by have := R6.out; unfold wrap64; omega
  have w2 : wrap64 (2 + 4 * (rr : Int)) = 2 + 4 * (rr : Int) := by have := R6.out; unfold wrap64; omega
  go_cut [10] from 13 (fun s10 wx => s10 = .int .i64 (M1 : Nat) ∧ Below u6.heap.size u6 wx)
  case first =>
    have RDc0 : u6.cell? ⟨u5.heap.size, 0, none⟩ = some (.int .u8 κb) := RD.out.cell 0
    have RDc1 : u6.cell? ⟨u5.heap.size, 1, none⟩ = some (.slice Ab nb cb) := RD.out.cell 1
    have RDc2 : u6.cell? ⟨u5.heap.size, 2, none⟩ = some (.slice Bb mb db) := RD.out.cell 2
    have RDc3 : u6.cell? ⟨u5.heap.size, 3, none⟩ = some (.slice Db qb eb) := RD.out.cell 3
    go_wp2_with fail
    refine (runs_c _ P Q rr _ TT.out ER.out CD.out).mono ?_
    rintro e z1 ⟨X3, x3, rfl, -, b⟩
    have BZ := Lib.hid b
    clear b
    go_wp2
    all_goals (go_meet; case rel => exact ⟨by congr 1; have := EM1.out; omega, BZ.out⟩)
  case rest =>
    obtain ⟨rfl, bd⟩ := hcut
    have TT := Lib.hid (TT.out.step bd)
    have BB := Lib.hid (below_both BB.out bd)
    have CA := Lib.hid (CA.out.step bd)
    have RA := Lib.hid (RA.out.below bd RA.out.lt)
    have CD := Lib.hid (CD.out.step bd)
    have RD := Lib.hid (RD.out.below bd RD.out.lt)
    clear bd w1 w2
    generalize wc = v1 at *
    have RDc0 : v1.cell? ⟨u5.heap.size, 0, none⟩ = some (.int .u8 κb) := RD.out.cell 0
    have RDc1 : v1.cell? ⟨u5.heap.size, 1, none⟩ = some (.slice Ab nb cb) := RD.out.cell 1
    have RDc2 : v1.cell? ⟨u5.heap.size, 2, none⟩ = some (.slice Bb mb db) := RD.out.cell 2
    have RDc3 : v1.cell? ⟨u5.heap.size, 3, none⟩ = some (.slice Db qb eb) := RD.out.cell 3
    go_wp2_with fail
    refine (len_c _ P Q cc _ EC.out CD.out).mono ?_
    rintro e u1 ⟨rfl, b⟩
    have TT := Lib.hid (TT.out.step b)
    have BB := Lib.hid (below_both BB.out b)
    have CA := Lib.hid (CA.out.step b)
    have RA := Lib.hid (RA.out.below b RA.out.lt)
    have CD := Lib.hid (CD.out.step b)
    have RD := Lib.hid (RD.out.below b RD.out.lt)
    clear b RDc0 RDc1 RDc2 RDc3
    have hc6 := C6.out
    have w3 : wrap64 (2 * (cc : Int)) = 2 * (cc : Int) := by unfold wrap64; omega
    go_upto_if 38 with fail
    go_cut [10] from 13 (fun s10 wx => s10 = .int .i64 (s : Nat) ∧ Below u1.heap.size u1 wx)
    case first =>
      by_cases hq : cc ≤ 4096
      · have hq1 : decide ((cc : Int) ≤ 4096) = true := decide_eq_true (by omega)
        have hq2 : (cc : Int) ≤ 4096 := by omega
        have RDc0 : u1.cell? ⟨u5.heap.size, 0, none⟩ = some (.int .u8 κb) := RD.out.cell 0
        have RDc1 : u1.cell? ⟨u5.heap.size, 1, none⟩ = some (.slice Ab nb cb) := RD.out.cell 1
        have RDc2 : u1.cell? ⟨u5.heap.size, 2, none⟩ = some (.slice Bb mb db) := RD.out.cell 2
        have RDc3 : u1.cell? ⟨u5.heap.size, 3, none⟩ = some (.slice Db qb eb) := RD.out.cell 3
        go_wp2_with fail
        refine (len_c _ P Q cc _ EC.out CD.out).mono ?_
        rintro e z1 ⟨rfl, b⟩
        have BZ := Lib.hid b
        clear b
        go_wp2
        all_goals (go_meet; case rel => exact ⟨by congr 1; have := EM1.out; have h9 := HS.out; rw [if_pos hq] at h9; omega, BZ.out⟩)
      · have hq1 : decide ((cc : Int) ≤ 4096) = false := decide_eq_false (by omega)
        have hq2 : ¬ (cc : Int) ≤ 4096 := by omega
        go_wp2
        all_goals (go_meet; case rel => exact ⟨by congr 1; have := EM1.out; have h9 := HS.out; rw [if_neg hq] at h9; omega, Below.refl _ _⟩)
    case rest =>
      obtain ⟨rfl, bd⟩ := hcut
      have TT := Lib.hid (TT.out.step bd)
      have BB := Lib.hid (below_both BB.out bd)
      have CA := Lib.hid (CA.out.step bd)
      have RA := Lib.hid (RA.out.below bd RA.out.lt)
      have CD := Lib.hid (CD.out.step bd)
      have RD := Lib.hid (RD.out.below bd RD.out.lt)
      clear bd w3 hc6
      generalize wc = v2 at *
      have hs8 : s ≤ 8192 := by have h9 := HS.out; split at h9 <;> omega
      have hs1 : decide ((s : Int) > 8192) = false := decide_eq_false (by omega)
      have hs2 : ¬ (s : Int) > 8192 := by omega
      have hs3 : ((s : Int) != (s : Int)) = false := by simp
      have RDc0 : v2.cell? ⟨u5.heap.size, 0, none⟩ = some (.int .u8 κb) := RD.out.cell 0
      have RDc1 : v2.cell? ⟨u5.heap.size, 1, none⟩ = some (.slice Ab nb cb) := RD.out.cell 1
      have RDc2 : v2.cell? ⟨u5.heap.size, 2, none⟩ = some (.slice Bb mb db) := RD.out.cell 2
      have RDc3 : v2.cell? ⟨u5.heap.size, 3, none⟩ = some (.slice Db qb eb) := RD.out.cell 3
      go_wp2_with fail
      clear RDc0 RDc1 RDc2 RDc3
      refine (sizeOf_c _ P Q s _ CD.out ES.out).mono ?_
      rintro e u61 ⟨rfl, b⟩
      have TT := Lib.hid (TT.out.step b)
      have BB := Lib.hid (below_both BB.out b)
      have CA := Lib.hid (CA.out.step b)
      have RA := Lib.hid (RA.out.below b RA.out.lt)
      have CD := Lib.hid (CD.out.step b)
      have RD := Lib.hid (RD.out.below b RD.out.lt)
      clear b
      have RDc0 : u61.cell? ⟨u5.heap.size, 0, none⟩ = some (.int .u8 κb) := RD.out.cell 0
      have RDc1 : u61.cell? ⟨u5.heap.size, 1, none⟩ = some (.slice Ab nb cb) := RD.out.cell 1
      have RDc2 : u61.cell? ⟨u5.heap.size, 2, none⟩ = some (.slice Bb mb db) := RD.out.cell 2
      have RDc3 : u61.cell? ⟨u5.heap.size, 3, none⟩ = some (.slice Db qb eb) := RD.out.cell 3
      go_wp2_with fail
      clear RDc0 RDc1 RDc2 RDc3
      refine (sizeOf_c _ P Q s _ CD.out ES.out).mono ?_
      rintro e u62 ⟨rfl, b⟩
      have TT := Lib.hid (TT.out.step b)
      have BB := Lib.hid (below_both BB.out b)
      have CA := Lib.hid (CA.out.step b)
      have RA := Lib.hid (RA.out.below b RA.out.lt)
      have CD := Lib.hid (CD.out.step b)
      have RD := Lib.hid (RD.out.below b RD.out.lt)
      clear b
      have RDc0 : u62.cell? ⟨u5.heap.size, 0, none⟩ = some (.int .u8 κb) := RD.out.cell 0
      have RDc1 : u62.cell? ⟨u5.heap.size, 1, none⟩ = some (.slice Ab nb cb) := RD.out.cell 1
      have RDc2 : u62.cell? ⟨u5.heap.size, 2, none⟩ = some (.slice Bb mb db) := RD.out.cell 2
      have RDc3 : u62.cell? ⟨u5.heap.size, 3, none⟩ = some (.slice Db qb eb) := RD.out.cell 3
      go_wp2_with fail
      clear RDc0 RDc1 RDc2 RDc3
      refine (flip_c _ P Q x y _ TT.out (anyN_all _) CD.out).mono ?_
      rw [FB.out, EK.out]
      rintro e u63 ⟨v5, rfl, g, b⟩
      obtain ⟨κe, Ae, ne, ce, Be, me, de, De, qe, ee, rfl⟩ := g.form
      have TT := Lib.hid (TT.out.step b)
      have BB := Lib.hid (below_both BB.out b)
      have CA := Lib.hid (CA.out.step b)
      have RA := Lib.hid (RA.out.below b RA.out.lt)
      have CD := Lib.hid (CD.out.step b)
      have RD := Lib.hid (RD.out.below b RD.out.lt)
      have CE := Lib.hid (g)
      clear g b
      have RDc0 : (u63.alloc (.cells #[.int .u8 κe, .slice Ae ne ce, .slice Be me de, .slice De qe ee] 28)).cell? ⟨u5.heap.size, 0, none⟩ = some (.int .u8 κb) := (RD.out.alloc _).cell 0
      have RDc1 : (u63.alloc (.cells #[.int .u8 κe, .slice Ae ne ce, .slice Be me de, .slice De qe ee] 28)).cell? ⟨u5.heap.size, 1, none⟩ = some (.slice Ab nb cb) := (RD.out.alloc _).cell 1
      have RDc2 : (u63.alloc (.cells #[.int .u8 κe, .slice Ae ne ce, .slice Be me de, .slice De qe ee] 28)).cell? ⟨u5.heap.size, 2, none⟩ = some (.slice Bb mb db) := (RD.out.alloc _).cell 2
      have RDc3 : (u63.alloc (.cells #[.int .u8 κe, .slice Ae ne ce, .slice Be me de, .slice De qe ee] 28)).cell? ⟨u5.heap.size, 3, none⟩ = some (.slice Db qb eb) := (RD.out.alloc _).cell 3
      go_wp2_with fail
      have rz := Row.new u63 28 #[.int .u8 κe, .slice Ae ne ce, .slice Be me de, .slice De qe ee]
      have bz := bx u63 (.cells #[.int .u8 κe, .slice Ae ne ce, .slice Be me de, .slice De qe ee] 28)
      generalize u63.alloc (.cells #[.int .u8 κe, .slice Ae ne ce, .slice Be me de, .slice De qe ee] 28) = u64 at *
      have TT := Lib.hid (TT.out.step bz)
      have BB := Lib.hid (below_both BB.out bz)
      have CA := Lib.hid (CA.out.step bz)
      have RA := Lib.hid (RA.out.below bz RA.out.lt)
      have CD := Lib.hid (CD.out.step bz)
      have RD := Lib.hid (RD.out.below bz RD.out.lt)
      have CE := Lib.hid (CE.out.step bz)
      have RE := Lib.hid rz
      clear rz bz
      clear RDc0 RDc1 RDc2 RDc3
      refine (flip_c _ P Q 0 65536 _ TT.out (anyN_all _) CD.out).mono ?_
      rw [ERR.out, EKR.out]
      rintro e u65 ⟨v5, rfl, g, b⟩
      obtain ⟨κf, Af, nf, cf, Bf, mf, df, Df, qf, ef, rfl⟩ := g.form
      have TT := Lib.hid (TT.out.step b)
      have BB := Lib.hid (below_both BB.out b)
      have CA := Lib.hid (CA.out.step b)
      have RA := Lib.hid (RA.out.below b RA.out.lt)
      have CD := Lib.hid (CD.out.step b)
      have RD := Lib.hid (RD.out.below b RD.out.lt)
      have CE := Lib.hid (CE.out.step b)
      have RE := Lib.hid (RE.out.below b RE.out.lt)
      have CF := Lib.hid (g)
      clear g b
      go_wp2_with fail
      have rz := Row.new u65 28 #[.int .u8 κf, .slice Af nf cf, .slice Bf mf df, .slice Df qf ef]
      have bz := bx u65 (.cells #[.int .u8 κf, .slice Af nf cf, .slice Bf mf df, .slice Df qf ef] 28)
      generalize u65.alloc (.cells #[.int .u8 κf, .slice Af nf cf, .slice Bf mf df, .slice Df qf ef] 28) = u66 at *
      have TT := Lib.hid (TT.out.step bz)
      have BB := Lib.hid (below_both BB.out bz)
      have CA := Lib.hid (CA.out.step bz)
      have RA := Lib.hid (RA.out.below bz RA.out.lt)
      have CD := Lib.hid (CD.out.step bz)
      have RD := Lib.hid (RD.out.below bz RD.out.lt)
      have CE := Lib.hid (CE.out.step bz)
      have RE := Lib.hid (RE.out.below bz RE.out.lt)
      have CF := Lib.hid (CF.out.step bz)
      have RF := Lib.hid rz
      clear rz bz
      obtain ⟨n, hn⟩ : ∃ n, 65536 - cc = n := ⟨_, rfl⟩
      have RN := Lib.hid (show ct R 65536 = n by rw [RC0.out, hn])
      have w4 : wrap64 (65536 - (cc : Int)) = (n : Int) := by have := C6.out; unfold wrap64; omega
      have w7 : IntKind.i64.wrap (65536 - (cc : Int)) = (n : Int) := by have := C6.out; simp [IntKind.wrap, IntKind.bits, IntKind.signed]; omega
      have w5 : ((n : Int) == (n : Int)) = true := by simp
      have w6 : decide ((n : Int) = (n : Int)) = true := decide_eq_true rfl
      clear hn hs8 hs1 hs2 hs3
      have KA : Hid (∀ W, Below u66.heap.size u66 W → W.cell? ⟨u3.heap.size, 0, none⟩ = some (.int .u8 κa) ∧ W.cell? ⟨u3.heap.size, 1, none⟩ = some (.slice Aa na ca) ∧ W.cell? ⟨u3.heap.size, 2, none⟩ = some (.slice Ba ma da) ∧ W.cell? ⟨u3.heap.size, 3, none⟩ = some (.slice Da qa ea)) := Lib.hid fun W hW => by
        have r := RA.out.below hW RA.out.lt
        exact ⟨r.cell 0, r.cell 1, r.cell 2, r.cell 3⟩
      have KD : Hid (∀ W, Below u66.heap.size u66 W → W.cell? ⟨u5.heap.size, 0, none⟩ = some (.int .u8 κb) ∧ W.cell? ⟨u5.heap.size, 1, none⟩ = some (.slice Ab nb cb) ∧ W.cell? ⟨u5.heap.size, 2, none⟩ = some (.slice Bb mb db) ∧ W.cell? ⟨u5.heap.size, 3, none⟩ = some (.slice Db qb eb)) := Lib.hid fun W hW => by
        have r := RD.out.below hW RD.out.lt
        exact ⟨r.cell 0, r.cell 1, r.cell 2, r.cell 3⟩
      have KE : Hid (∀ W, Below u66.heap.size u66 W → W.cell? ⟨u63.heap.size, 0, none⟩ = some (.int .u8 κe) ∧ W.cell? ⟨u63.heap.size, 1, none⟩ = some (.slice Ae ne ce) ∧ W.cell? ⟨u63.heap.size, 2, none⟩ = some (.slice Be me de) ∧ W.cell? ⟨u63.heap.size, 3, none⟩ = some (.slice De qe ee)) := Lib.hid fun W hW => by
        have r := RE.out.below hW RE.out.lt
        exact ⟨r.cell 0, r.cell 1, r.cell 2, r.cell 3⟩
      have KF : Hid (∀ W, Below u66.heap.size u66 W → W.cell? ⟨u65.heap.size, 0, none⟩ = some (.int .u8 κf) ∧ W.cell? ⟨u65.heap.size, 1, none⟩ = some (.slice Af nf cf) ∧ W.cell? ⟨u65.heap.size, 2, none⟩ = some (.slice Bf mf df) ∧ W.cell? ⟨u65.heap.size, 3, none⟩ = some (.slice Df qf ef)) := Lib.hid fun W hW => by
        have r := RF.out.below hW RF.out.lt
        exact ⟨r.cell 0, r.cell 1, r.cell 2, r.cell 3⟩
      have hSc : Below u66.heap.size u66 u66.drew := (Below.refl u66.heap.size u66).drew
      refine wp_region_held_drew (S := fun W => Below u66.heap.size u66 W) (by kernel_rfl) hSc (fun _ => ?_)
      refine held_take 0 ?_ rfl (by kernel_rfl) (by kernel_rfl) (by kernel_rfl) (fun _ _ _ h => h) (by rfl) ?_ hSc ?_
      rotate_left
      · (intro W hSW; obtain ⟨k0, k1, k2, k3⟩ := KE.out W hSW; go_simp; try rfl)
      try simp only [Act.put, List.setIfInBounds_toArray, List.set_cons_zero, List.set_cons_succ]
      refine held_take 2 ?_ rfl (by kernel_rfl) (by kernel_rfl) (by kernel_rfl) (fun _ _ _ h => h) (by rfl) ?_ hSc ?_
      rotate_left
      · (intro W hSW; obtain ⟨k0, k1, k2, k3⟩ := KA.out W hSW; go_simp; try rfl)
      try simp only [Act.put, List.setIfInBounds_toArray, List.set_cons_zero, List.set_cons_succ]
      refine held_next 1 rfl (by kernel_rfl) (by rfl) ?_
      go_simp
      refine (array_c _ p kp m _ (TT.out.step hSc) EM.out (CE.out.step hSc)).mono ?_
      rintro e wq71 ⟨X3, x3, rfl, gq, bq⟩
      have hbq : Below u66.heap.size u66 wq71 := hSc.trans (bq.mono hSc.size)
      refine ⟨fun W => Below u66.heap.size u66 W, fun W hW => hW, hbq, ?_⟩
      have G3 := Lib.hid gq
      clear gq
      clear hSc bq
      have hSc : Below u66.heap.size u66 wq71 := hbq
      clear hbq
      try simp only [Act.put, List.setIfInBounds_toArray, List.set_cons_zero, List.set_cons_succ]
      refine held_next 3 rfl (by kernel_rfl) (by rfl) ?_
      go_simp
      refine (array_c _ p 2 m _ (TT.out.step hSc) EM.out (CA.out.step hSc)).mono ?_
      rintro e wq72 ⟨X4, x4, rfl, gq, bq⟩
      have hbq : Below u66.heap.size u66 wq72 := hSc.trans (bq.mono hSc.size)
      refine ⟨fun W => Below u66.heap.size u66 W, fun W hW => hW, hbq, ?_⟩
      have G4 := Lib.hid gq
      clear gq
      have G3 := Lib.hid (G3.out.stp bq)
      clear hSc bq
      have hSc : Below u66.heap.size u66 wq72 := hbq
      clear hbq
      try simp only [Act.put, List.setIfInBounds_toArray, List.set_cons_zero, List.set_cons_succ]
      refine held_next 4 rfl (by kernel_rfl) (by rfl) ?_
      go_simp
      refine (same16_p _ _ _ _ _ (G3.out.more (Nat.zero_le _) (Nat.le_refl _)) (G4.out.more (Nat.zero_le _) (Nat.le_refl _)) rfl).mono ?_
      rintro e wq73 ⟨rfl, bq⟩
      have hbq : Below u66.heap.size u66 wq73 := hSc.trans (bq.mono hSc.size)
      refine ⟨fun W => Below u66.heap.size u66 W, fun W hW => hW, hbq, ?_⟩
      clear hSc bq
      have hSc : Below u66.heap.size u66 wq73 := hbq
      clear hbq
      try simp only [Act.put, List.setIfInBounds_toArray, List.set_cons_zero, List.set_cons_succ]
      clear G3 G4
      refine held_take 5 ?_ rfl (by kernel_rfl) (by kernel_rfl) (by kernel_rfl) (fun _ _ _ h => h) (by rfl) ?_ hSc ?_
      rotate_left
      · (intro W hSW; go_simp; try rfl)
      try simp only [Act.put, List.setIfInBounds_toArray, List.set_cons_zero, List.set_cons_succ]
      refine held_take 6 ?_ rfl (by kernel_rfl) (by kernel_rfl) (by kernel_rfl) (fun _ _ _ h => h) (by rfl) ?_ hSc ?_
      rotate_left
      · (intro W hSW; obtain ⟨k0, k1, k2, k3⟩ := KF.out W hSW; go_simp; try rfl)
      try simp only [Act.put, List.setIfInBounds_toArray, List.set_cons_zero, List.set_cons_succ]
      refine held_take 8 ?_ rfl (by kernel_rfl) (by kernel_rfl) (by kernel_rfl) (fun _ _ _ h => h) (by rfl) ?_ hSc ?_
      rotate_left
      · (intro W hSW; obtain ⟨k0, k1, k2, k3⟩ := KD.out W hSW; go_simp; try rfl)
      try simp only [Act.put, List.setIfInBounds_toArray, List.set_cons_zero, List.set_cons_succ]
      refine held_next 7 rfl (by kernel_rfl) (by rfl) ?_
      go_simp
      refine (len_c _ R KR n _ RN.out (CF.out.step hSc)).mono ?_
      rintro e wq74 ⟨rfl, bq⟩
      have hbq : Below u66.heap.size u66 wq74 := hSc.trans (bq.mono hSc.size)
      refine ⟨fun W => Below u66.heap.size u66 W, fun W hW => hW, hbq, ?_⟩
      clear hSc bq
      have hSc : Below u66.heap.size u66 wq74 := hbq
      clear hbq
      try simp only [Act.put, List.setIfInBounds_toArray, List.set_cons_zero, List.set_cons_succ]
      refine held_next 9 rfl (by kernel_rfl) (by rfl) ?_
      go_simp
      refine (len_c _ P Q cc _ EC.out (CD.out.step hSc)).mono ?_
      rintro e wq75 ⟨rfl, bq⟩
      have hbq : Below u66.heap.size u66 wq75 := hSc.trans (bq.mono hSc.size)
      refine ⟨fun W => Below u66.heap.size u66 W, fun W hW => hW, hbq, ?_⟩
      clear hSc bq
      have hSc : Below u66.heap.size u66 wq75 := hbq
      clear hbq
      try simp only [Act.put, List.setIfInBounds_toArray, List.set_cons_zero, List.set_cons_succ]
      refine held_take 10 ?_ rfl (by kernel_rfl) (by kernel_rfl) (by kernel_rfl) (fun _ _ _ h => h) (by rfl) ?_ hSc ?_
      rotate_left
      · (intro W hSW; go_simp; try rfl)
      try simp only [Act.put, List.setIfInBounds_toArray, List.set_cons_zero, List.set_cons_succ]
      refine held_take 11 ?_ rfl (by kernel_rfl) (by kernel_rfl) (by kernel_rfl) (fun _ _ _ h => h) (by rfl) ?_ hSc ?_
      rotate_left
      · (intro W hSW; go_simp; try rfl)
      try simp only [Act.put, List.setIfInBounds_toArray, List.set_cons_zero, List.set_cons_succ]
      refine held_take 12 ?_ rfl (by kernel_rfl) (by kernel_rfl) (by kernel_rfl) (fun _ _ _ h => h) (by rfl) ?_ hSc ?_
      rotate_left
      · (intro W hSW; go_simp; try rfl)
      try simp only [Act.put, List.setIfInBounds_toArray, List.set_cons_zero, List.set_cons_succ]
      refine held_take 13 ?_ rfl (by kernel_rfl) (by kernel_rfl) (by kernel_rfl) (fun _ _ _ h => h) (by rfl) ?_ hSc ?_
      rotate_left
      · (intro W hSW; go_simp; try rfl)
      try simp only [Act.put, List.setIfInBounds_toArray, List.set_cons_zero, List.set_cons_succ]
      refine held_take 14 ?_ rfl (by kernel_rfl) (by kernel_rfl) (by kernel_rfl) (fun _ _ _ h => h) (by rfl) ?_ hSc ?_
      rotate_left
      · (intro W hSW; obtain ⟨k0, k1, k2, k3⟩ := KF.out W hSW; go_simp; try rfl)
      try simp only [Act.put, List.setIfInBounds_toArray, List.set_cons_zero, List.set_cons_succ]
      refine held_take 15 ?_ rfl (by kernel_rfl) (by kernel_rfl) (by kernel_rfl) (fun _ _ _ h => h) (by rfl) ?_ hSc ?_
      rotate_left
      · (intro W hSW; obtain ⟨k0, k1, k2, k3⟩ := KD.out W hSW; go_simp; try rfl)
      try simp only [Act.put, List.setIfInBounds_toArray, List.set_cons_zero, List.set_cons_succ]
      refine held_next 16 rfl (by kernel_rfl) (by rfl) ?_
      go_simp
      refine (cand _ _ R P KR Q _ (TT.out.step hSc) (anyN_all _) (CF.out.step hSc) (CD.out.step hSc)).mono ?_
      rintro e wq76 ⟨v6, rfl, gq, bq⟩
      have hbq : Below u66.heap.size u66 wq76 := hSc.trans (bq.mono hSc.size)
      refine ⟨fun W => Below u66.heap.size u66 W, fun W hW => hW, hbq, ?_⟩
      have GA := Lib.hid gq
      clear gq
      clear hSc bq
      have hSc : Below u66.heap.size u66 wq76 := hbq
      clear hbq
      try simp only [Act.put, List.setIfInBounds_toArray, List.set_cons_zero, List.set_cons_succ]
      refine held_next 17 rfl (by kernel_rfl) (by rfl) ?_
      go_simp
      refine (k_len _ _ GA.out A0.out 0 rfl).mono ?_
      rintro e wq77 ⟨rfl, bq⟩
      have hbq : Below u66.heap.size u66 wq77 := hSc.trans (bq.mono hSc.size)
      refine ⟨fun W => Below u66.heap.size u66 W, fun W hW => hW, hbq, ?_⟩
      clear hSc bq
      have hSc : Below u66.heap.size u66 wq77 := hbq
      clear hbq
      try simp only [Act.put, List.setIfInBounds_toArray, List.set_cons_zero, List.set_cons_succ]
      refine held_take 18 ?_ rfl (by kernel_rfl) (by kernel_rfl) (by kernel_rfl) (fun _ _ _ h => h) (by rfl) ?_ hSc ?_
      rotate_left
      · (intro W hSW; go_simp; try rfl)
      try simp only [Act.put, List.setIfInBounds_toArray, List.set_cons_zero, List.set_cons_succ]
      refine held_take 19 ?_ rfl (by kernel_rfl) (by kernel_rfl) (by kernel_rfl) (fun _ _ _ h => h) (by rfl) ?_ hSc ?_
      rotate_left
      · (intro W hSW; go_simp; try rfl)
      try simp only [Act.put, List.setIfInBounds_toArray, List.set_cons_zero, List.set_cons_succ]
      refine held_take 20 ?_ rfl (by kernel_rfl) (by kernel_rfl) (by kernel_rfl) (fun _ _ _ h => h) (by rfl) ?_ hSc ?_
      rotate_left
      · (intro W hSW; go_simp; try rfl)
      try simp only [Act.put, List.setIfInBounds_toArray, List.set_cons_zero, List.set_cons_succ]
      refine held_take 21 ?_ rfl (by kernel_rfl) (by kernel_rfl) (by kernel_rfl) (fun _ _ _ h => h) (by rfl) ?_ hSc ?_
      rotate_left
      · (intro W hSW; obtain ⟨k0, k1, k2, k3⟩ := KF.out W hSW; go_simp; try rfl)
      try simp only [Act.put, List.setIfInBounds_toArray, List.set_cons_zero, List.set_cons_succ]
      refine held_take 22 ?_ rfl (by kernel_rfl) (by kernel_rfl) (by kernel_rfl) (fun _ _ _ h => h) (by rfl) ?_ hSc ?_
      rotate_left
      · (intro W hSW; obtain ⟨k0, k1, k2, k3⟩ := KD.out W hSW; go_simp; try rfl)
      try simp only [Act.put, List.setIfInBounds_toArray, List.set_cons_zero, List.set_cons_succ]
      refine held_next 23 rfl (by kernel_rfl) (by rfl) ?_
      go_simp
      refine (cor _ _ R P KR Q _ (TT.out.step hSc) (anyN_all _) (CF.out.step hSc) (CD.out.step hSc)).mono ?_
      rintro e wq78 ⟨v7, rfl, gq, bq⟩
      have hbq : Below u66.heap.size u66 wq78 := hSc.trans (bq.mono hSc.size)
      refine ⟨fun W => Below u66.heap.size u66 W, fun W hW => hW, hbq, ?_⟩
      have GO := Lib.hid gq
      clear gq
      clear hSc bq
      have hSc : Below u66.heap.size u66 wq78 := hbq
      clear hbq
      try simp only [Act.put, List.setIfInBounds_toArray, List.set_cons_zero, List.set_cons_succ]
      refine held_next 24 rfl (by kernel_rfl) (by rfl) ?_
      go_simp
      refine (k_len _ _ GO.out O0.out 65536 rfl).mono ?_
      rintro e wq79 ⟨rfl, bq⟩
      have hbq : Below u66.heap.size u66 wq79 := hSc.trans (bq.mono hSc.size)
      refine ⟨fun W => Below u66.heap.size u66 W, fun W hW => hW, hbq, ?_⟩
      clear hSc bq
      have hSc : Below u66.heap.size u66 wq79 := hbq
      clear hbq
      try simp only [Act.put, List.setIfInBounds_toArray, List.set_cons_zero, List.set_cons_succ]
      refine held_take 25 ?_ rfl (by kernel_rfl) (by kernel_rfl) (by kernel_rfl) (fun _ _ _ h => h) (by rfl) ?_ hSc ?_
      rotate_left
      · (intro W hSW; go_simp; try rfl)
      try simp only [Act.put, List.setIfInBounds_toArray, List.set_cons_zero, List.set_cons_succ]
      refine held_take 26 ?_ rfl (by kernel_rfl) (by kernel_rfl) (by kernel_rfl) (fun _ _ _ h => h) (by rfl) ?_ hSc ?_
      rotate_left
      · (intro W hSW; go_simp; try rfl)
      try simp only [Act.put, List.setIfInBounds_toArray, List.set_cons_zero, List.set_cons_succ]
      refine held_take 27 ?_ rfl (by kernel_rfl) (by kernel_rfl) (by kernel_rfl) (fun _ _ _ h => h) (by rfl) ?_ hSc ?_
      rotate_left
      · (intro W hSW; go_simp; try rfl)
      try simp only [Act.put, List.setIfInBounds_toArray, List.set_cons_zero, List.set_cons_succ]
      refine held_next 28 rfl (by kernel_rfl) (by rfl) ?_
      go_simp
      refine (known_any _ (TT.out.step hSc)).mono ?_
      rintro e wq80 ⟨rfl, bq⟩
      have hbq : Below u66.heap.size u66 wq80 := hSc.trans (bq.mono hSc.size)
      refine ⟨fun W => Below u66.heap.size u66 W, fun W hW => hW, hbq, ?_⟩
      clear hSc bq
      have hSc : Below u66.heap.size u66 wq80 := hbq
      clear hbq
      try simp only [Act.put, List.setIfInBounds_toArray, List.set_cons_zero, List.set_cons_succ]
      refine held_take 29 ?_ rfl (by kernel_rfl) (by kernel_rfl) (by kernel_rfl) (fun _ _ _ h => h) (by rfl) ?_ hSc ?_
      rotate_left
      · (intro W hSW; go_simp; try rfl)
      try simp only [Act.put, List.setIfInBounds_toArray, List.set_cons_zero, List.set_cons_succ]
      refine held_next 30 rfl (by kernel_rfl) (by rfl) ?_
      go_simp
      refine ⟨fun W => Below u66.heap.size u66 W, fun W hW => hW, hSc, ?_⟩
      refine wpAnyH_done (by kernel_rfl) ?_ _
      go_wp2
      go_ret
      exact ⟨rfl, below_both BB.out hSc⟩
end Go.Proofs.YtfefmlnlicilbaaGreatDoor
namespace Go.Proofs.YtfefmlnlicilbaaGreatDoor
open Go.ChangeShapes Go.WideShapes Go.ChangeAt Go.RowKit
open Go.ChangeMaps (open_string shut_string)
set_option linter.unusedVariables false

theorem containerSmall_walk (a0 : Option Addr) (len0 cap0 : Nat) (z0 : List Int) (a1 : Int) (a2 : Int) (w : World) (hT : Tb w) (w0 : IsRow .u16 w a0 len0 cap0 z0) (w1 : (Lit.int .i64 a1).wf = true) (w2 : (Lit.int .i64 a2).wf = true) :
    Calls Tryz.prog 4 #[.slice a0 len0 cap0, .int .i64 a1, .int .i64 a2] w fun e w' => e = .returned (.bool true) ∧ Below w.heap.size w w' := by
  obtain ⟨l, rfl, g⟩ := gs16_of_row w0
  have r0 := g.len
  by_cases h : 1000 < l.length
  · exact small_long a0 l.length cap0 a1 a2 w hT h r0
  · exact small_good _ l a1 a2 w hT g (by omega)

set_option maxRecDepth 100000 in
theorem containerSmall_lifted (os : Os) (started : os.Started) (H : Type) (enc : TypeId × Value → H) :
    ReturnsInHanded {} Tryz.checked os 4 .any (fun w args => (Rows.containerSmallSpec.pre enc Tryz.prog Tryz.f4 [] false w args ∧ laidMetH Tryz.prog laidAll w) ∧ sizedMet enc Tryz.prog Tryz.f4 (OpenSpec.ofChange Rows.containerSmallSpec) false w args) (Rows.containerSmallSpec.post enc Tryz.prog Tryz.f4 false true false false) := by
  refine returnsInHanded_of_change_and (C := Tryz.checked) (X := fun w _ => laidMetH Tryz.prog laidAll w) (fun _ _ _ hh h => h.of_heap hh) own_knob started (by kernel_rfl) Tryz.func4
    (ChangeSpec.witness_shaped (enc := enc) (C := Tryz.checked) (os := os) (X := fun w _ => laidMetH Tryz.prog laidAll w) false (World.doorLaid Tryz.prog 14 os) #[.slice none 0 0, .int .i64 0, .int .i64 0] 8 rfl (World.shaped_of_RefB (by kernel_rfl) (by kernel_rfl)) (by kernel_rfl) (by kernel_rfl) (by kernel_rfl) (door_met os _)) ?_
  intro W base args ds gs before hval0 hW _ _ hL _
  have hval : ∀ (j : Nat) t v, Tryz.f4.params[j]? = some t → args[j]? = some v → Value.okWide Tryz.prog W .any base t v := hval0
  have hW' := hW
  obtain ⟨p, q, hA0, hV, rfl, hfz, hnd⟩ := hW
  have hA : DataW.TrodAll enc Tryz.prog W 0 (fun _ => true) true Tryz.f4.params.toList args.toList ds p := hA0
  rw [Tryz.params4] at hA hval
  obtain ⟨v0, vs0, d0, ds0, p0, q0, hargs, rfl, rfl, h0, r0⟩ := trodAll_cons hA
  obtain ⟨v1, vs1, d1, ds1, p1, q1, rfl, rfl, rfl, h1, r1⟩ := trodAll_cons r0
  obtain ⟨v2, vs2, d2, ds2, p2, q2, rfl, rfl, rfl, h2, r2⟩ := trodAll_cons r1
  obtain ⟨rfl, rfl, rfl⟩ := trodAll_nil r2
  obtain rfl : args = #[v0, v1, v2] := by cases args; simp_all
  obtain ⟨rfl, rfl⟩ := trodVars_none hV
  obtain ⟨a0, len0, cap0, rfl⟩ := okWide_slice Tryz.underlying22 (hval 0 22 v0 rfl rfl)
  have k0 := h0
  have lt0 : ∀ x ∈ p0, x.block < W.heap.size := by obtain ⟨m, hm⟩ := k0; exact DataW.trod_lt m _ _ _ hm
  obtain ⟨z0, w0⟩ : ∃ zs, IsRow .u16 W a0 len0 cap0 zs := by
    obtain ⟨fuel, hf⟩ := h0
    rcases open_ints Tryz.underlying22 Tryz.underlying23 (by kernel_rfl) hf with ⟨hcs, _⟩ | ⟨x, l, c, zs, hcs, _, hl, hm, hz, _, hcell, hwz⟩
    · simp [Value.cells] at hcs
      obtain ⟨rfl, rfl, rfl⟩ := hcs
      exact ⟨[], .inl ⟨rfl, rfl, rfl, rfl⟩⟩
    · simp [Value.cells] at hcs
      obtain ⟨rfl, rfl, rfl⟩ := hcs
      exact ⟨zs, .inr ⟨_, rfl, hl, hm, by simpa using hz, hcell, hwz⟩⟩
  obtain ⟨a1, rfl, rfl, rfl, w1⟩ := open_int Tryz.underlying3 (hval 1 3 v1 rfl rfl) h1
  obtain ⟨a2, rfl, rfl, rfl, w2⟩ := open_int Tryz.underlying3 (hval 2 3 v2 rfl rfl) h2
  clear hA0 hval0
  refine (containerSmall_walk a0 len0 cap0 z0 a1 a2 W (tb_of_laid hL) w0 w1 w2).mono fun e W' ⟨he, bel⟩ => ?_
  subst he
  exact ⟨_, rfl, _, _, _, [], _, [], hW', trodAll_mk1 (shut_bool Tryz.underlying4 _), (trodAll_cons_mk (Below.trod laid_out (by kernel_rfl) (of_decide_eq_true (by kernel_rfl)) k0 bel lt0) (trodAll_cons_mk (shut_int Tryz.underlying3 w1) (trodAll_cons_mk (shut_int Tryz.underlying3 w2) trodAll_mk0))), rfl, bel.frame _, fun h => by cases h⟩

theorem containerSmall_over : Rows.containerSmallRow.holds Tryz.pinned (OpenSpec.ofChange Rows.containerSmallSpec) :=
  OpenClaim.holds_of_wide 4 Tryz.f4 rfl rfl rfl rfl rfl rfl rfl ⟨rfl, rfl, rfl, rfl, rfl⟩ rfl rfl rfl rfl rfl (by kernel_rfl) Tryz.func4 (by kernel_rfl)
    (of_decide_eq_true (by kernel_rfl)) (by unfold Func.isWrapper; first | (rw [if_pos (by decide +kernel)]; kernel_rfl) | (rw [if_neg (by decide +kernel)]; exact ⟨rfl, rfl⟩))
    (fun os started H enc _ => containerSmall_lifted os started H enc)


theorem containerSmall_holds : Rows.ContainerSmallCardSaid :=
  Claim7.holds_tied_plain_at .later [] [.data] true _ false
    containerSmall_over (fun _ h => by cases h) (by kernel_rfl) (fun _ h => by cases h) containerSmall_row_tie rfl ⟨rfl, rfl⟩ (by kernel_rfl) rfl
    (fun f fn hf hfn => by
      obtain rfl : f = 4 := Option.some.inj ((show Tryz.prog.funcNamed "isinglass/isinglasslaw07.ContainerSmall" = some 4 by kernel_rfl).symm.trans hf) |>.symm
      obtain rfl : fn = Tryz.f4 := (Option.some.inj (Tryz.func4.symm.trans hfn)).symm
      exact ⟨by kernel_rfl, fun j t ht => by
        rw [Tryz.params4] at ht
        have hm : t ∈ [22, 3] := by have := Array.mem_of_getElem? ht; simp at this ⊢; omega
        have hall : ([22, 3].all fun u => !Tryz.prog.wantsStandIn u) = true := by kernel_rfl
        exact (show Tryz.prog.wantsStandIn t = false by simpa using List.all_eq_true.1 hall t hm)⟩)
    (by kernel_rfl)
#print axioms containerSmall_holds
end Go.Proofs.YtfefmlnlicilbaaGreatDoor
