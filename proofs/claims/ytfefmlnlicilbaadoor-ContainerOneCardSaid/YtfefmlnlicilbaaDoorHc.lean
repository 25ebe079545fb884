/- Walks: what a container of each kind does. -/
import Derived.Test.YtfefmlnlicilbaaDoorHb
namespace Go.Proofs.YtfefmlnlicilbaaDoor
open Go.RowKit
set_option linter.unusedVariables false

theorem Gs.stp {α : Type} {k : Elem α} {w w' : World} {lo : Nat} {v : Value} {l : List α} (h : Gs k w lo w.heap.size v l) (b : Below w.heap.size w w') : Gs k w' lo w'.heap.size v l := (h.below b).more (Nat.le_refl _) b.size
theorem Gs2.stp {w w' : World} {lo : Nat} {v : Value} {l : List Rn} (h : Gs2 eR w lo w.heap.size v l) (b : Below w.heap.size w w') : Gs2 eR w' lo w'.heap.size v l := (h.below b).more (Nat.le_refl _) b.size

theorem arrayRunCount_c (p : Nat → Bool) (κ : Int) (A : Option Addr) (n c : Nat) (m : Nat) (lo : Nat) (w : World) (hm2 : ct (hm p) 65536 = m) (h : Gs e16 w lo w.heap.size (.slice A n c) (ls p 65536)) :
    Calls Tryd.prog 37 #[.agg #[.int .u8 κ, .slice A n c, .slice none 0 0, .slice none 0 0]] w fun e w' => e = .returned (.int .i64 m) ∧ Below w.heap.size w w' := by
  have H := Lib.hid h
  clear h
  go_enter Tryd.func37, Tryd.ntmps37
  go_wp2_with fail
  refine (sruns _ p m lo _ (H.out.stp (bx w _)) hm2).mono ?_
  rintro e w1 ⟨rfl, b1⟩
  have B1 := Lib.hid (below_both (bx w _) b1)
  clear b1
  go_wp2
  go_ret
  exact ⟨rfl, B1.out⟩

theorem arrayHas_c (p : Nat → Bool) (κ : Int) (A : Option Addr) (n c : Nat) (x : Nat) (lo : Nat) (w : World) (hx : x < 65536) (h : Gs e16 w lo w.heap.size (.slice A n c) (ls p 65536)) :
    Calls Tryd.prog 52 #[.agg #[.int .u8 κ, .slice A n c, .slice none 0 0, .slice none 0 0], .int .u16 x] w fun e w' => e = .returned (.bool (p x)) ∧ Below w.heap.size w w' := by
  have H := Lib.hid h
  clear h
  go_enter Tryd.func52, Tryd.ntmps52
  go_wp2_with fail
  refine (sfind _ p x lo _ (H.out.stp (bx w _)) hx).mono ?_
  rintro e w1 ⟨⟨_, rfl⟩, b1⟩
  have B1 := Lib.hid (below_both (bx w _) b1)
  clear b1
  go_wp2
  go_ret
  exact ⟨rfl, B1.out⟩

theorem arrayCopy_c (p : Nat → Bool) (κ : Int) (A : Option Addr) (n c : Nat) (m : Nat) (hm2 : ct p 65536 = m) (lo : Nat) (w : World) (h : Gs e16 w lo w.heap.size (.slice A n c) (ls p 65536)) :
    Calls Tryd.prog 26 #[.agg #[.int .u8 κ, .slice A n c, .slice none 0 0, .slice none 0 0]] w fun e w' => ∃ A' c', e = .returned (.slice A' m c') ∧ Gs e16 w' w.heap.size w'.heap.size (.slice A' m c') (ls p 65536) ∧ Below w.heap.size w w' := by
  have H := Lib.hid h
  clear h
  go_enter Tryd.func26, Tryd.ntmps26
  go_wp2_with fail
  refine (sclone16 _ p m lo _ (H.out.stp (bx w _)) hm2).mono ?_
  rintro e w1 ⟨A1, c1, rfl, g1, b1⟩
  have G1 := Lib.hid g1
  have B1 := Lib.hid (below_both (bx w _) b1)
  have hs : w.heap.size ≤ (w.alloc (.cells #[] 0)).heap.size := by simp
  clear g1 b1
  go_wp2
  go_ret
  exact ⟨_, _, rfl, G1.out.more (by simp) (Nat.le_refl _), B1.out⟩

theorem arrayToWords_c (p : Nat → Bool) (κ : Int) (A : Option Addr) (n c : Nat)  (lo : Nat) (w : World) (h : Gs e16 w lo w.heap.size (.slice A n c) (ls p 65536)) :
    Calls Tryd.prog 57 #[.agg #[.int .u8 κ, .slice A n c, .slice none 0 0, .slice none 0 0]] w fun e w' => ∃ A' c', e = .returned (.slice A' 1024 c') ∧ Gs e64 w' w.heap.size w'.heap.size (.slice A' 1024 c') (wm p) ∧ Below w.heap.size w w' := by
  have H := Lib.hid h
  clear h
  go_enter Tryd.func57, Tryd.ntmps57
  go_wp2_with fail
  refine (swof _ p lo _ (H.out.stp (bx w _))).mono ?_
  rintro e w1 ⟨A1, c1, rfl, g1, b1⟩
  have G1 := Lib.hid g1
  have B1 := Lib.hid (below_both (bx w _) b1)
  have hs : w.heap.size ≤ (w.alloc (.cells #[] 0)).heap.size := by simp
  clear g1 b1
  go_wp2
  go_ret
  exact ⟨_, _, rfl, G1.out.more (by simp) (Nat.le_refl _), B1.out⟩

theorem arrayToRuns_c (p : Nat → Bool) (κ : Int) (A : Option Addr) (n c : Nat) (m : Nat) (hm2 : ct (hm p) 65536 = m) (lo : Nat) (w : World) (h : Gs e16 w lo w.heap.size (.slice A n c) (ls p 65536)) :
    Calls Tryd.prog 60 #[.agg #[.int .u8 κ, .slice A n c, .slice none 0 0, .slice none 0 0]] w fun e w' => ∃ A' c', e = .returned (.slice A' m c') ∧ Gs2 eR w' w.heap.size w'.heap.size (.slice A' m c') (rs p 65536) ∧ Below w.heap.size w w' := by
  have H := Lib.hid h
  clear h
  go_enter Tryd.func60, Tryd.ntmps60
  go_wp2_with fail
  refine (srof _ p m lo _ (H.out.stp (bx w _)) hm2).mono ?_
  rintro e w1 ⟨A1, c1, rfl, g1, b1⟩
  have G1 := Lib.hid g1
  have B1 := Lib.hid (below_both (bx w _) b1)
  have hs : w.heap.size ≤ (w.alloc (.cells #[] 0)).heap.size := by simp
  clear g1 b1
  go_wp2
  go_ret
  exact ⟨_, _, rfl, G1.out.more (by simp) (Nat.le_refl _), B1.out⟩

theorem wordsLen_c (p : Nat → Bool) (A : Option Addr) (c : Nat) (m : Nat) (lo : Nat) (w : World) (hm2 : ct p 65536 = m) (h : Gs e64 w lo w.heap.size (.slice A 1024 c) (wm p)) :
    Calls Tryd.prog 33 #[.agg #[.int .u8 2, .slice none 0 0, .slice A 1024 c, .slice none 0 0]] w fun e w' => e = .returned (.int .i64 m) ∧ Below w.heap.size w w' := by
  have H := Lib.hid h
  clear h
  go_enter Tryd.func33, Tryd.ntmps33
  go_wp2_with fail
  refine (swlen _ p m lo _ (H.out.stp (bx w _)) hm2).mono ?_
  rintro e w1 ⟨rfl, b1⟩
  have B1 := Lib.hid (below_both (bx w _) b1)
  clear b1
  go_wp2
  go_ret
  exact ⟨rfl, B1.out⟩

theorem wordsRunCount_c (p : Nat → Bool) (A : Option Addr) (c : Nat) (m : Nat) (lo : Nat) (w : World) (hm2 : ct (hm p) 65536 = m) (h : Gs e64 w lo w.heap.size (.slice A 1024 c) (wm p)) :
    Calls Tryd.prog 38 #[.agg #[.int .u8 2, .slice none 0 0, .slice A 1024 c, .slice none 0 0]] w fun e w' => e = .returned (.int .i64 m) ∧ Below w.heap.size w w' := by
  have H := Lib.hid h
  clear h
  go_enter Tryd.func38, Tryd.ntmps38
  go_wp2_with fail
  refine (swruns _ p m lo _ (H.out.stp (bx w _)) hm2).mono ?_
  rintro e w1 ⟨rfl, b1⟩
  have B1 := Lib.hid (below_both (bx w _) b1)
  clear b1
  go_wp2
  go_ret
  exact ⟨rfl, B1.out⟩

theorem wordsHave_c (p : Nat → Bool) (A : Option Addr) (c : Nat) (x : Nat) (lo : Nat) (w : World) (hx : x < 65536) (h : Gs e64 w lo w.heap.size (.slice A 1024 c) (wm p)) :
    Calls Tryd.prog 53 #[.agg #[.int .u8 2, .slice none 0 0, .slice A 1024 c, .slice none 0 0], .int .u16 x] w fun e w' => e = .returned (.bool (p x)) ∧ Below w.heap.size w w' := by
  have H := Lib.hid h
  clear h
  go_enter Tryd.func53, Tryd.ntmps53
  go_wp2_with fail
  refine (swhas _ p x lo _ (H.out.stp (bx w _)) hx).mono ?_
  rintro e w1 ⟨rfl, b1⟩
  have B1 := Lib.hid (below_both (bx w _) b1)
  clear b1
  go_wp2
  go_ret
  exact ⟨rfl, B1.out⟩

theorem wordsToArray_c (p : Nat → Bool) (A : Option Addr) (c : Nat) (m : Nat) (hm2 : ct p 65536 = m) (lo : Nat) (w : World) (hT : Tb w) (h : Gs e64 w lo w.heap.size (.slice A 1024 c) (wm p)) :
    Calls Tryd.prog 27 #[.agg #[.int .u8 2, .slice none 0 0, .slice A 1024 c, .slice none 0 0]] w fun e w' => ∃ A' c', e = .returned (.slice A' m c') ∧ Gs e16 w' w.heap.size w'.heap.size (.slice A' m c') (ls p 65536) ∧ Below w.heap.size w w' := by
  have H := Lib.hid h
  have TT := Lib.hid hT
  clear h
  go_enter Tryd.func27, Tryd.ntmps27
  go_wp2_with fail
  refine (swlist _ p m lo _ (H.out.stp (bx w _)) (TT.out.step (bx w _)) hm2).mono ?_
  rintro e w1 ⟨A1, c1, rfl, g1, b1⟩
  have G1 := Lib.hid g1
  have B1 := Lib.hid (below_both (bx w _) b1)
  have hs : w.heap.size ≤ (w.alloc (.cells #[] 0)).heap.size := by simp
  clear g1 b1
  go_wp2
  go_ret
  exact ⟨_, _, rfl, G1.out.more (by simp) (Nat.le_refl _), B1.out⟩

theorem wordsCopy_c (p : Nat → Bool) (A : Option Addr) (c : Nat)  (lo : Nat) (w : World) (h : Gs e64 w lo w.heap.size (.slice A 1024 c) (wm p)) :
    Calls Tryd.prog 58 #[.agg #[.int .u8 2, .slice none 0 0, .slice A 1024 c, .slice none 0 0]] w fun e w' => ∃ A' c', e = .returned (.slice A' 1024 c') ∧ Gs e64 w' w.heap.size w'.heap.size (.slice A' 1024 c') (wm p) ∧ Below w.heap.size w w' := by
  have H := Lib.hid h
  clear h
  go_enter Tryd.func58, Tryd.ntmps58
  go_wp2_with fail
  refine (sclone64 _ p lo _ (H.out.stp (bx w _))).mono ?_
  rintro e w1 ⟨A1, c1, rfl, g1, b1⟩
  have G1 := Lib.hid g1
  have B1 := Lib.hid (below_both (bx w _) b1)
  have hs : w.heap.size ≤ (w.alloc (.cells #[] 0)).heap.size := by simp
  clear g1 b1
  go_wp2
  go_ret
  exact ⟨_, _, rfl, G1.out.more (by simp) (Nat.le_refl _), B1.out⟩

theorem wordsToRuns_c (p : Nat → Bool) (A : Option Addr) (c : Nat) (m : Nat) (hm2 : ct (hm p) 65536 = m) (lo : Nat) (w : World) (hT : Tb w) (h : Gs e64 w lo w.heap.size (.slice A 1024 c) (wm p)) :
    Calls Tryd.prog 61 #[.agg #[.int .u8 2, .slice none 0 0, .slice A 1024 c, .slice none 0 0]] w fun e w' => ∃ A' c', e = .returned (.slice A' m c') ∧ Gs2 eR w' w.heap.size w'.heap.size (.slice A' m c') (rs p 65536) ∧ Below w.heap.size w w' := by
  have H := Lib.hid h
  have TT := Lib.hid hT
  clear h
  go_enter Tryd.func61, Tryd.ntmps61
  go_wp2_with fail
  refine (swlist _ p (ct p 65536) lo _ (H.out.stp (bx w _)) (TT.out.step (bx w _)) rfl).mono ?_
  rintro e w1 ⟨A1, c1, rfl, g1, b1⟩
  have G1 := Lib.hid g1
  have B1 := Lib.hid (below_both (bx w _) b1)
  clear g1 b1
  go_wp2_with fail
  refine (srof _ p m _ _ G1.out hm2).mono ?_
  rintro e w2 ⟨A2, c2, rfl, g2, b2⟩
  have G2 := Lib.hid g2
  have B2 := Lib.hid (below_both B1.out b2)
  have hs := B1.out.size
  clear g2 b2
  go_wp2
  go_ret
  exact ⟨_, _, rfl, G2.out.more hs (Nat.le_refl _), B2.out⟩

theorem runsLen_c (p : Nat → Bool) (A : Option Addr) (n c : Nat) (m : Nat) (lo : Nat) (w : World) (hm2 : ct p 65536 = m) (h : Gs2 eR w lo w.heap.size (.slice A n c) (rs p 65536)) :
    Calls Tryd.prog 34 #[.agg #[.int .u8 3, .slice none 0 0, .slice none 0 0, .slice A n c]] w fun e w' => e = .returned (.int .i64 m) ∧ Below w.heap.size w w' := by
  have H := Lib.hid h
  clear h
  go_enter Tryd.func34, Tryd.ntmps34
  go_wp2_with fail
  refine (srlen _ p m lo _ (H.out.stp (bx w _)) hm2).mono ?_
  rintro e w1 ⟨rfl, b1⟩
  have B1 := Lib.hid (below_both (bx w _) b1)
  clear b1
  go_wp2
  go_ret
  exact ⟨rfl, B1.out⟩

theorem runsHave_c (p : Nat → Bool) (A : Option Addr) (n c : Nat) (x : Nat) (lo : Nat) (w : World) (hx : x < 65536) (h : Gs2 eR w lo w.heap.size (.slice A n c) (rs p 65536)) :
    Calls Tryd.prog 54 #[.agg #[.int .u8 3, .slice none 0 0, .slice none 0 0, .slice A n c], .int .u16 x] w fun e w' => e = .returned (.bool (p x)) ∧ Below w.heap.size w w' := by
  have H := Lib.hid h
  clear h
  go_enter Tryd.func54, Tryd.ntmps54
  go_wp2_with fail
  refine (srhas _ p x lo _ (H.out.stp (bx w _)) hx).mono ?_
  rintro e w1 ⟨rfl, b1⟩
  have B1 := Lib.hid (below_both (bx w _) b1)
  clear b1
  go_wp2
  go_ret
  exact ⟨rfl, B1.out⟩

theorem runsToArray_c (p : Nat → Bool) (A : Option Addr) (n c : Nat) (m : Nat) (hm2 : ct p 65536 = m) (lo : Nat) (w : World) (h : Gs2 eR w lo w.heap.size (.slice A n c) (rs p 65536)) :
    Calls Tryd.prog 28 #[.agg #[.int .u8 3, .slice none 0 0, .slice none 0 0, .slice A n c]] w fun e w' => ∃ A' c', e = .returned (.slice A' m c') ∧ Gs e16 w' w.heap.size w'.heap.size (.slice A' m c') (ls p 65536) ∧ Below w.heap.size w w' := by
  have H := Lib.hid h
  clear h
  go_enter Tryd.func28, Tryd.ntmps28
  go_wp2_with fail
  refine (srlist _ p m lo _ (H.out.stp (bx w _)) hm2).mono ?_
  rintro e w1 ⟨A1, c1, rfl, g1, b1⟩
  have G1 := Lib.hid g1
  have B1 := Lib.hid (below_both (bx w _) b1)
  have hs : w.heap.size ≤ (w.alloc (.cells #[] 0)).heap.size := by simp
  clear g1 b1
  go_wp2
  go_ret
  exact ⟨_, _, rfl, G1.out.more (by simp) (Nat.le_refl _), B1.out⟩

theorem runsToWords_c (p : Nat → Bool) (A : Option Addr) (n c : Nat)  (lo : Nat) (w : World) (h : Gs2 eR w lo w.heap.size (.slice A n c) (rs p 65536)) :
    Calls Tryd.prog 59 #[.agg #[.int .u8 3, .slice none 0 0, .slice none 0 0, .slice A n c]] w fun e w' => ∃ A' c', e = .returned (.slice A' 1024 c') ∧ Gs e64 w' w.heap.size w'.heap.size (.slice A' 1024 c') (wm p) ∧ Below w.heap.size w w' := by
  have H := Lib.hid h
  clear h
  go_enter Tryd.func59, Tryd.ntmps59
  go_wp2_with fail
  refine (srlist _ p (ct p 65536) lo _ (H.out.stp (bx w _)) rfl).mono ?_
  rintro e w1 ⟨A1, c1, rfl, g1, b1⟩
  have G1 := Lib.hid g1
  have B1 := Lib.hid (below_both (bx w _) b1)
  clear g1 b1
  go_wp2_with fail
  refine (swof _ p _ _ G1.out).mono ?_
  rintro e w2 ⟨A2, c2, rfl, g2, b2⟩
  have G2 := Lib.hid g2
  have B2 := Lib.hid (below_both B1.out b2)
  have hs := B1.out.size
  clear g2 b2
  go_wp2
  go_ret
  exact ⟨_, _, rfl, G2.out.more hs (Nat.le_refl _), B2.out⟩

theorem runsCopy_c (p : Nat → Bool) (A : Option Addr) (n c : Nat) (m : Nat) (hm2 : ct (hm p) 65536 = m) (lo : Nat) (w : World) (h : Gs2 eR w lo w.heap.size (.slice A n c) (rs p 65536)) :
    Calls Tryd.prog 62 #[.agg #[.int .u8 3, .slice none 0 0, .slice none 0 0, .slice A n c]] w fun e w' => ∃ A' c', e = .returned (.slice A' m c') ∧ Gs2 eR w' w.heap.size w'.heap.size (.slice A' m c') (rs p 65536) ∧ Below w.heap.size w w' := by
  have H := Lib.hid h
  clear h
  go_enter Tryd.func62, Tryd.ntmps62
  go_wp2_with fail
  refine (scloneR _ p m lo _ (H.out.stp (bx w _)) hm2).mono ?_
  rintro e w1 ⟨A1, c1, rfl, g1, b1⟩
  have G1 := Lib.hid g1
  have B1 := Lib.hid (below_both (bx w _) b1)
  have hs : w.heap.size ≤ (w.alloc (.cells #[] 0)).heap.size := by simp
  clear g1 b1
  go_wp2
  go_ret
  exact ⟨_, _, rfl, G1.out.more (by simp) (Nat.le_refl _), B1.out⟩

theorem runsRunCount_c (A : Option Addr) (n c : Nat) (w : World) :
    Calls Tryd.prog 39 #[.agg #[.int .u8 3, .slice none 0 0, .slice none 0 0, .slice A n c]] w fun e w' => e = .returned (.int .i64 n) ∧ Below w.heap.size w w' := by
  go_enter Tryd.func39, Tryd.ntmps39
  go_wp2
  go_ret
  exact ⟨rfl, bx w _⟩
end Go.Proofs.YtfefmlnlicilbaaDoor
