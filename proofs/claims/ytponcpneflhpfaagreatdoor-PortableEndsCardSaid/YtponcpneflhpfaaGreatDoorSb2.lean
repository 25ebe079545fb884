/- Walks: what a container of each kind does. -/
import Derived.Test.YtponcpneflhpfaaGreatDoorSb1
namespace Go.Proofs.YtponcpneflhpfaaGreatDoor
open Go.RowKit
set_option linter.unusedVariables false

theorem Gs.stp {α : Type} {k : Elem α} {w w' : World} {lo : Nat} {v : Value} {l : List α} (h : Gs k w lo w.heap.size v l) (b : Below w.heap.size w w') : Gs k w' lo w'.heap.size v l := (h.below b).more (Nat.le_refl _) b.size
theorem Gs2.stp {w w' : World} {lo : Nat} {v : Value} {l : List Rn} (h : Gs2 eR w lo w.heap.size v l) (b : Below w.heap.size w w') : Gs2 eR w' lo w'.heap.size v l := (h.below b).more (Nat.le_refl _) b.size

theorem arrayRunCount_c (p : Nat → Bool) (κ : Int) (A : Option Addr) (n c : Nat) (m : Nat) (lo : Nat) (w : World) (hm2 : ct (hm p) 65536 = m) (h : Gs e16 w lo w.heap.size (.slice A n c) (ls p 65536)) :
    Calls Tryz.prog 243 #[.agg #[.int .u8 κ, .slice A n c, .slice none 0 0, .slice none 0 0]] w fun e w' => e = .returned (.int .i64 m) ∧ Below w.heap.size w w' := by
  have H := Lib.hid h
  clear h
  go_enter Tryz.func243, Tryz.ntmps243
  go_wp2_with fail
  refine (sruns _ p m lo _ (H.out.stp (bx w _)) hm2).mono ?_
  rintro e w1 ⟨rfl, b1⟩
  have B1 := Lib.hid (below_both (bx w _) b1)
  clear b1
  go_wp2
  go_ret
  exact ⟨rfl, B1.out⟩

theorem arrayCopy_c (p : Nat → Bool) (κ : Int) (A : Option Addr) (n c : Nat) (m : Nat) (hm2 : ct p 65536 = m) (lo : Nat) (w : World) (h : Gs e16 w lo w.heap.size (.slice A n c) (ls p 65536)) :
    Calls Tryz.prog 157 #[.agg #[.int .u8 κ, .slice A n c, .slice none 0 0, .slice none 0 0]] w fun e w' => ∃ A' c', e = .returned (.slice A' m c') ∧ Gs e16 w' w.heap.size w'.heap.size (.slice A' m c') (ls p 65536) ∧ Below w.heap.size w w' := by
  have H := Lib.hid h
  clear h
  go_enter Tryz.func157, Tryz.ntmps157
  go_wp2_with fail
  refine (sclone16 _ p m lo _ (H.out.stp (bx w _)) hm2).mono ?_
  rintro e w1 ⟨A1, c1, rfl, g1, b1⟩
  have G1 := Lib.hid g1
  have B1 := Lib.hid (below_both (bx w _) b1)
  have hs : w.heap.size ≤ (w.alloc (.cells #[] 0)).heap.size := by simp
  clear g1 b1
  go_wp2
  go_ret
  exact ⟨_, _, rfl, G1.out.more (by simp) (Nat.le_refl _), B1.out⟩

theorem arrayToWords_c (p : Nat → Bool) (κ : Int) (A : Option Addr) (n c : Nat)  (lo : Nat) (w : World) (h : Gs e16 w lo w.heap.size (.slice A n c) (ls p 65536)) :
    Calls Tryz.prog 102 #[.agg #[.int .u8 κ, .slice A n c, .slice none 0 0, .slice none 0 0]] w fun e w' => ∃ A' c', e = .returned (.slice A' 1024 c') ∧ Gs e64 w' w.heap.size w'.heap.size (.slice A' 1024 c') (wm p) ∧ Below w.heap.size w w' := by
  have H := Lib.hid h
  clear h
  go_enter Tryz.func102, Tryz.ntmps102
  go_wp2_with fail
  refine (swof _ p lo _ (H.out.stp (bx w _))).mono ?_
  rintro e w1 ⟨A1, c1, rfl, g1, b1⟩
  have G1 := Lib.hid g1
  have B1 := Lib.hid (below_both (bx w _) b1)
  have hs : w.heap.size ≤ (w.alloc (.cells #[] 0)).heap.size := by simp
  clear g1 b1
  go_wp2
  go_ret
  exact ⟨_, _, rfl, G1.out.more (by simp) (Nat.le_refl _), B1.out⟩

theorem arrayToRuns_c (p : Nat → Bool) (κ : Int) (A : Option Addr) (n c : Nat) (m : Nat) (hm2 : ct (hm p) 65536 = m) (lo : Nat) (w : World) (h : Gs e16 w lo w.heap.size (.slice A n c) (ls p 65536)) :
    Calls Tryz.prog 108 #[.agg #[.int .u8 κ, .slice A n c, .slice none 0 0, .slice none 0 0]] w fun e w' => ∃ A' c', e = .returned (.slice A' m c') ∧ Gs2 eR w' w.heap.size w'.heap.size (.slice A' m c') (rs p 65536) ∧ Below w.heap.size w w' := by
  have H := Lib.hid h
  clear h
  go_enter Tryz.func108, Tryz.ntmps108
  go_wp2_with fail
  refine (srof _ p m lo _ (H.out.stp (bx w _)) hm2).mono ?_
  rintro e w1 ⟨A1, c1, rfl, g1, b1⟩
  have G1 := Lib.hid g1
  have B1 := Lib.hid (below_both (bx w _) b1)
  have hs : w.heap.size ≤ (w.alloc (.cells #[] 0)).heap.size := by simp
  clear g1 b1
  go_wp2
  go_ret
  exact ⟨_, _, rfl, G1.out.more (by simp) (Nat.le_refl _), B1.out⟩

theorem wordsLen_c (p : Nat → Bool) (A : Option Addr) (c : Nat) (m : Nat) (lo : Nat) (w : World) (hm2 : ct p 65536 = m) (h : Gs e64 w lo w.heap.size (.slice A 1024 c) (wm p)) :
    Calls Tryz.prog 177 #[.agg #[.int .u8 2, .slice none 0 0, .slice A 1024 c, .slice none 0 0]] w fun e w' => e = .returned (.int .i64 m) ∧ Below w.heap.size w w' := by
  have H := Lib.hid h
  clear h
  go_enter Tryz.func177, Tryz.ntmps177
  go_wp2_with fail
  refine (swlen _ p m lo _ (H.out.stp (bx w _)) hm2).mono ?_
  rintro e w1 ⟨rfl, b1⟩
  have B1 := Lib.hid (below_both (bx w _) b1)
  clear b1
  go_wp2
  go_ret
  exact ⟨rfl, B1.out⟩

theorem wordsRunCount_c (p : Nat → Bool) (A : Option Addr) (c : Nat) (m : Nat) (lo : Nat) (w : World) (hm2 : ct (hm p) 65536 = m) (h : Gs e64 w lo w.heap.size (.slice A 1024 c) (wm p)) :
    Calls Tryz.prog 244 #[.agg #[.int .u8 2, .slice none 0 0, .slice A 1024 c, .slice none 0 0]] w fun e w' => e = .returned (.int .i64 m) ∧ Below w.heap.size w w' := by
  have H := Lib.hid h
  clear h
  go_enter Tryz.func244, Tryz.ntmps244
  go_wp2_with fail
  refine (swruns _ p m lo _ (H.out.stp (bx w _)) hm2).mono ?_
  rintro e w1 ⟨rfl, b1⟩
  have B1 := Lib.hid (below_both (bx w _) b1)
  clear b1
  go_wp2
  go_ret
  exact ⟨rfl, B1.out⟩

theorem wordsToArray_c (p : Nat → Bool) (A : Option Addr) (c : Nat) (m : Nat) (hm2 : ct p 65536 = m) (lo : Nat) (w : World) (hT : Tb w) (h : Gs e64 w lo w.heap.size (.slice A 1024 c) (wm p)) :
    Calls Tryz.prog 158 #[.agg #[.int .u8 2, .slice none 0 0, .slice A 1024 c, .slice none 0 0]] w fun e w' => ∃ A' c', e = .returned (.slice A' m c') ∧ Gs e16 w' w.heap.size w'.heap.size (.slice A' m c') (ls p 65536) ∧ Below w.heap.size w w' := by
  have H := Lib.hid h
  have TT := Lib.hid hT
  clear h
  go_enter Tryz.func158, Tryz.ntmps158
  go_wp2_with fail
  refine (swlist _ p m lo _ (H.out.stp (bx w _)) (TT.out.step (bx w _)) hm2).mono ?_
  rintro e w1 ⟨A1, c1, rfl, g1, b1⟩
  have G1 := Lib.hid g1
  have B1 := Lib.hid (below_both (bx w _) b1)
  have hs : w.heap.size ≤ (w.alloc (.cells #[] 0)).heap.size := by simp
  clear g1 b1
  go_wp2
  go_ret
  exact ⟨_, _, rfl, G1.out.more (by simp) (Nat.le_refl _), B1.out⟩

theorem wordsCopy_c (p : Nat → Bool) (A : Option Addr) (c : Nat)  (lo : Nat) (w : World) (h : Gs e64 w lo w.heap.size (.slice A 1024 c) (wm p)) :
    Calls Tryz.prog 103 #[.agg #[.int .u8 2, .slice none 0 0, .slice A 1024 c, .slice none 0 0]] w fun e w' => ∃ A' c', e = .returned (.slice A' 1024 c') ∧ Gs e64 w' w.heap.size w'.heap.size (.slice A' 1024 c') (wm p) ∧ Below w.heap.size w w' := by
  have H := Lib.hid h
  clear h
  go_enter Tryz.func103, Tryz.ntmps103
  go_wp2_with fail
  refine (sclone64 _ p lo _ (H.out.stp (bx w _))).mono ?_
  rintro e w1 ⟨A1, c1, rfl, g1, b1⟩
  have G1 := Lib.hid g1
  have B1 := Lib.hid (below_both (bx w _) b1)
  have hs : w.heap.size ≤ (w.alloc (.cells #[] 0)).heap.size := by simp
  clear g1 b1
  go_wp2
  go_ret
  exact ⟨_, _, rfl, G1.out.more (by simp) (Nat.le_refl _), B1.out⟩

theorem wordsToRuns_c (p : Nat → Bool) (A : Option Addr) (c : Nat) (m : Nat) (hm2 : ct (hm p) 65536 = m) (lo : Nat) (w : World) (hT : Tb w) (h : Gs e64 w lo w.heap.size (.slice A 1024 c) (wm p)) :
    Calls Tryz.prog 109 #[.agg #[.int .u8 2, .slice none 0 0, .slice A 1024 c, .slice none 0 0]] w fun e w' => ∃ A' c', e = .returned (.slice A' m c') ∧ Gs2 eR w' w.heap.size w'.heap.size (.slice A' m c') (rs p 65536) ∧ Below w.heap.size w w' := by
  have H := Lib.hid h
  have TT := Lib.hid hT
  clear h
  go_enter Tryz.func109, Tryz.ntmps109
  go_wp2_with fail
  refine (swlist _ p (ct p 65536) lo _ (H.out.stp (bx w _)) (TT.out.step (bx w _)) rfl).mono ?_
  rintro e w1 ⟨A1, c1, rfl, g1, b1⟩
  have G1 := Lib.hid g1
  have B1 := Lib.hid (below_both (bx w _) b1)
  clear g1 b1
  go_wp2_with fail
  refine (srof _ p m _ _ G1.out hm2).mono ?_
  rintro e w2 ⟨A2, c2, rfl, g2, b2⟩
  have G2 := Lib.hid g2
  have B2 := Lib.hid (below_both B1.out b2)
  have hs := B1.out.size
  clear g2 b2
  go_wp2
  go_ret
  exact ⟨_, _, rfl, G2.out.more hs (Nat.le_refl _), B2.out⟩

theorem runsLen_c (p : Nat → Bool) (A : Option Addr) (n c : Nat) (m : Nat) (lo : Nat) (w : World) (hm2 : ct p 65536 = m) (h : Gs2 eR w lo w.heap.size (.slice A n c) (rs p 65536)) :
    Calls Tryz.prog 178 #[.agg #[.int .u8 3, .slice none 0 0, .slice none 0 0, .slice A n c]] w fun e w' => e = .returned (.int .i64 m) ∧ Below w.heap.size w w' := by
  have H := Lib.hid h
  clear h
  go_enter Tryz.func178, Tryz.ntmps178
  go_wp2_with fail
  refine (srlen _ p m lo _ (H.out.stp (bx w _)) hm2).mono ?_
  rintro e w1 ⟨rfl, b1⟩
  have B1 := Lib.hid (below_both (bx w _) b1)
  clear b1
  go_wp2
  go_ret
  exact ⟨rfl, B1.out⟩

theorem runsToArray_c (p : Nat → Bool) (A : Option Addr) (n c : Nat) (m : Nat) (hm2 : ct p 65536 = m) (lo : Nat) (w : World) (h : Gs2 eR w lo w.heap.size (.slice A n c) (rs p 65536)) :
    Calls Tryz.prog 159 #[.agg #[.int .u8 3, .slice none 0 0, .slice none 0 0, .slice A n c]] w fun e w' => ∃ A' c', e = .returned (.slice A' m c') ∧ Gs e16 w' w.heap.size w'.heap.size (.slice A' m c') (ls p 65536) ∧ Below w.heap.size w w' := by
  have H := Lib.hid h
  clear h
  go_enter Tryz.func159, Tryz.ntmps159
  go_wp2_with fail
  refine (srlist _ p m lo _ (H.out.stp (bx w _)) hm2).mono ?_
  rintro e w1 ⟨A1, c1, rfl, g1, b1⟩
  have G1 := Lib.hid g1
  have B1 := Lib.hid (below_both (bx w _) b1)
  have hs : w.heap.size ≤ (w.alloc (.cells #[] 0)).heap.size := by simp
  clear g1 b1
  go_wp2
  go_ret
  exact ⟨_, _, rfl, G1.out.more (by simp) (Nat.le_refl _), B1.out⟩

theorem runsToWords_c (p : Nat → Bool) (A : Option Addr) (n c : Nat)  (lo : Nat) (w : World) (h : Gs2 eR w lo w.heap.size (.slice A n c) (rs p 65536)) :
    Calls Tryz.prog 104 #[.agg #[.int .u8 3, .slice none 0 0, .slice none 0 0, .slice A n c]] w fun e w' => ∃ A' c', e = .returned (.slice A' 1024 c') ∧ Gs e64 w' w.heap.size w'.heap.size (.slice A' 1024 c') (wm p) ∧ Below w.heap.size w w' := by
  have H := Lib.hid h
  clear h
  go_enter Tryz.func104, Tryz.ntmps104
  go_wp2_with fail
  refine (srlist _ p (ct p 65536) lo _ (H.out.stp (bx w _)) rfl).mono ?_
  rintro e w1 ⟨A1, c1, rfl, g1, b1⟩
  have G1 := Lib.hid g1
  have B1 := Lib.hid (below_both (bx w _) b1)
  clear g1 b1
  go_wp2_with fail
  refine (swof _ p _ _ G1.out).mono ?_
  rintro e w2 ⟨A2, c2, rfl, g2, b2⟩
  have G2 := Lib.hid g2
  have B2 := Lib.hid (below_both B1.out b2)
  have hs := B1.out.size
  clear g2 b2
  go_wp2
  go_ret
  exact ⟨_, _, rfl, G2.out.more hs (Nat.le_refl _), B2.out⟩

theorem runsCopy_c (p : Nat → Bool) (A : Option Addr) (n c : Nat) (m : Nat) (hm2 : ct (hm p) 65536 = m) (lo : Nat) (w : World) (h : Gs2 eR w lo w.heap.size (.slice A n c) (rs p 65536)) :
    Calls Tryz.prog 110 #[.agg #[.int .u8 3, .slice none 0 0, .slice none 0 0, .slice A n c]] w fun e w' => ∃ A' c', e = .returned (.slice A' m c') ∧ Gs2 eR w' w.heap.size w'.heap.size (.slice A' m c') (rs p 65536) ∧ Below w.heap.size w w' := by
  have H := Lib.hid h
  clear h
  go_enter Tryz.func110, Tryz.ntmps110
  go_wp2_with fail
  refine (scloneR _ p m lo _ (H.out.stp (bx w _)) hm2).mono ?_
  rintro e w1 ⟨A1, c1, rfl, g1, b1⟩
  have G1 := Lib.hid g1
  have B1 := Lib.hid (below_both (bx w _) b1)
  have hs : w.heap.size ≤ (w.alloc (.cells #[] 0)).heap.size := by simp
  clear g1 b1
  go_wp2
  go_ret
  exact ⟨_, _, rfl, G1.out.more (by simp) (Nat.le_refl _), B1.out⟩

theorem runsRunCount_c (A : Option Addr) (n c : Nat) (w : World) :
    Calls Tryz.prog 245 #[.agg #[.int .u8 3, .slice none 0 0, .slice none 0 0, .slice A n c]] w fun e w' => e = .returned (.int .i64 n) ∧ Below w.heap.size w w' := by
  go_enter Tryz.func245, Tryz.ntmps245
  go_wp2
  go_ret
  exact ⟨rfl, bx w _⟩
end Go.Proofs.YtponcpneflhpfaaGreatDoor
