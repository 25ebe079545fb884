/- Walks: what is known. -/
import Derived.Test.YtigjkolhhhmdhaaTe
namespace Go.Proofs.Ytigjkolhhhmdhaa
open Go.RowKit
set_option linter.unusedVariables false

theorem kn_lo : loI [3, -1] = -1 := by decide +kernel
theorem kn_hi : hiI [3, -1] = 3 := by decide +kernel
set_option maxHeartbeats 2000000 in
set_option maxRecDepth 100000 in
theorem known13_any (w : World) : Calls Try.prog 8 #[] w fun e w' => e = .returned (.bool true) ∧ Below w.heap.size w w' := by
  have HO := Lib.hid (fun W h => of_any (some ⟨w.heap.size, 0, none⟩) 2 [3, -1] W h (by decide))
  have hby := fun g A c W h => bytes_c g A c [3, -1] W h
  have hbl : (cB [3, -1]).length = 36 := by rw [cB_len]; rfl
  generalize cB [3, -1] = bs at hby hbl
  have HB := Lib.hid hby
  have HBL := Lib.hid hbl
  have hle := fun p A c W (h : CxAt W p true A ([3, -1] : List Int).length c (loI [3, -1]) (hiI [3, -1])) => least_any p true A _ c _ _ W h
  have hge := fun p A c W (h : CxAt W p true A ([3, -1] : List Int).length c (loI [3, -1]) (hiI [3, -1])) => greatest_any p true A _ c _ _ W h
  simp only [kn_lo, kn_hi] at hle hge
  have HLE := Lib.hid hle
  have HGE := Lib.hid hge
  clear hby hle hge hbl
  have G := Lib.hid (Gw.lit (k := eL) w w.heap.size (Nat.le_refl _) [3, -1] #[.int .i64 3, .int .i64 (-1)] 2 (by rfl) rfl (by omega))
  go_enter Try.func8, Try.ntmps8
  go_wp2_with (go_at_call 9; refine (HO.out _ (G.out.sl.more (Nat.zero_le _) (Nat.le_refl _))).mono ?_; rintro e w1 ⟨g, A, c, rfl, hm, b1⟩; have B1 := Lib.hid (((Below.refl w.heap.size w).alloc (Nat.le_refl _) _).trans (b1.mono (by simp))); have M1 := Lib.hid hm.m; clear b1 hm; go_wp2_with (go_at_call 14; refine (get_out g A c [3, -1] 2 _ M1.out (.inr (by decide))).mono ?_; rintro e w2 ⟨rfl, b2⟩; have B2 := Lib.hid (B1.out.trans (b2.mono B1.out.size)); have M2 := Lib.hid (M1.out.step b2); clear b2; go_wp2_with (first
    | (go_at_call 14; refine (get_in g A c [3, -1] 1 (-1) _ M2.out rfl).mono ?_; rintro e w3 ⟨rfl, b3⟩; have B3 := Lib.hid (B2.out.trans (b3.mono B2.out.size)); have M3 := Lib.hid (M2.out.step b3); clear b3)
    | (go_at_call 17; refine (HLE.out _ A c _ M3.out.at_).mono ?_; rintro e w4 ⟨rfl, b4⟩; have B4 := Lib.hid (B3.out.trans (b4.mono B3.out.size)); have M4 := Lib.hid (M3.out.step b4); clear b4)
    | (go_at_call 18; refine (HGE.out _ A c _ M4.out.at_).mono ?_; rintro e w5 ⟨rfl, b5⟩; have B5 := Lib.hid (B4.out.trans (b5.mono B4.out.size)); have M5 := Lib.hid (M4.out.step b5); clear b5)
    | (go_at_call 19; refine (HB.out g A c _ M5.out).mono ?_; rintro e w6 ⟨v6, rfl, o6, b6⟩; have B6 := Lib.hid (B5.out.trans (b6.mono B5.out.size)); obtain ⟨A6, c6, hv6, -⟩ := o6.sl; rw [HBL.out] at hv6; subst hv6; clear b6 o6))))
  go_ret
  exact ⟨rfl, B6.out⟩
end Go.Proofs.Ytigjkolhhhmdhaa
