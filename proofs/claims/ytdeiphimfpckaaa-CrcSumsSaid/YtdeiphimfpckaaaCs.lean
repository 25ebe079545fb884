/- Walks: the law CrcSums. -/
import Derived.Test.YtdeiphimfpckaaaC8
import Derived.Test.YtdeiphimfpckaaaC9
import Derived.Deep.RegionWith
import Derived.BigRegion
namespace Go.Proofs.Ytdeiphimfpckaaa
open Go.RowKit
set_option linter.unusedVariables false

theorem sums_long (A : Option Addr) (n c : Nat) (w : World) (h : 3000 < n) (hn : n ≤ 9223372036854775807) :
    Calls Try.prog 3 #[.slice A n c] w fun e w' => e = .returned (.bool true) ∧ Below w.heap.size w w' := by
  go_enter Try.func3, Try.ntmps3
  go_wp2_with (go_at_call 8; refine (known_any _).mono ?_; rintro e w1 ⟨rfl, hb⟩)
  go_ret
  exact ⟨rfl, hb⟩

set_option maxHeartbeats 8000000 in
set_option maxRecDepth 100000 in
theorem sums_good (A : Option Addr) (c : Nat) (b : List UInt8) (w : World) (hb : Gs e8 w 0 w.heap.size (.slice A b.length c) b) (hn : b.length ≤ 3000) :
    Calls Try.prog 3 #[.slice A b.length c] w fun e w' => e = .returned (.bool true) ∧ Below w.heap.size w w' := by
  have HB := Lib.hid hb
  obtain ⟨n, hN⟩ : ∃ n : Nat, n = b.length := ⟨_, rfl⟩
  have HN := Lib.hid hN
  obtain ⟨S, hS⟩ : ∃ S : ByteArray, S = ⟨b.toArray⟩ := ⟨_, rfl⟩
  obtain ⟨F, hF⟩ : ∃ F : ByteArray, F = ⟨(fr b).toArray⟩ := ⟨_, rfl⟩
  obtain ⟨R, hR⟩ : ∃ R : Nat, R = crc b := ⟨_, rfl⟩
  have HS := Lib.hid hS
  have HF := Lib.hid hF
  have HR := Lib.hid hR
  rw [← hN] at hn ⊢
  clear hb hN hS hF hR
  go_enter Try.func3, Try.ntmps3
  go_wp2_with (at_builtin; refine wpList_gapp e8 _ rfl _ _ _ rfl w.heap.size sli8 inf8 _ [] rfl (Gw.empty_ _ _ (Nat.le_refl _)) 0 w.heap.size _ b rfl (by rw [HN.out]; exact HB.out.alloc (Nat.le_refl _) _) (by have := HN.out; simp; omega) (by simp) ?_; intro v1 w1 o1 g1 hh; clear hh; rw [List.nil_append] at o1; have O1 := Lib.hid o1; have B1 := Lib.hid (((Below.refl w.heap.size w).alloc (Nat.le_refl _) _).grown g1 (by simp) (fun i hi => by injection hi with hi; subst hi; exact Nat.le_refl _)); clear o1 g1)
  obtain ⟨A1, c1, rfl, -⟩ := O1.out.sl
  refine (frame_any _ b _ _ O1.out.sl (by have := HN.out; omega)).mono ?_
  rintro e w2 ⟨v2, rfl, o2, b2⟩
  obtain ⟨A2, c2, rfl, -⟩ := o2.sl
  have O2 := Lib.hid o2
  have HO1 := Lib.hid (O1.out.below b2 (Nat.le_refl _))
  have B2 := Lib.hid (B1.out.trans (b2.mono B1.out.size))
  clear o2 b2 B1 O1
  have cs : ∀ W, Below w2.heap.size w2 W → Calls Try.prog 10 #[.slice A1 b.length c1] W fun e w' => e = .returned (.int .u32 R) ∧ Below w2.heap.size w2 w' := fun W hW => by
    rw [HR.out]
    exact (sum_any _ b _ W ((HO1.out.sl.below hW).more (Nat.le_refl _) hW.size)).mono (fun e w' h => ⟨h.1, hW.trans (h.2.mono hW.size)⟩)
  have cr : ∀ W, Below w2.heap.size w2 W → Calls Try.prog 11 #[.slice A n c] W fun e w' => e = .returned (.int .u32 R) ∧ W = w' := fun W hW => by
    rw [HR.out]
    refine refSum_any _ b 0 W ?_
    rw [HN.out]
    exact (HB.out.below (B2.out.trans (hW.mono B2.out.size))).more (Nat.le_refl _) (Nat.le_trans B2.out.size hW.size)
  have cf : ∀ W, Below w2.heap.size w2 W → Calls Try.prog 12 #[.slice A n c] W fun e w' => ∃ A3 n3 c3, e = .returned (.slice A3 n3 c3) ∧ (convert 22 9 (.slice A3 n3 c3)).run Try.prog w' = .ok (.string F) w' ∧ Below w2.heap.size w2 w' := fun W hW => by
    refine (refFrame_any _ b 0 W (by rw [HN.out]; exact (HB.out.below (B2.out.trans (hW.mono B2.out.size))).more (Nat.le_refl _) (Nat.le_trans B2.out.size hW.size)) (by have := HN.out; omega)).mono ?_
    rintro e w' ⟨v3, rfl, o3, b3⟩
    obtain ⟨A3, c3, rfl, -⟩ := o3.sl
    exact ⟨A3, _, c3, rfl, by rw [HF.out]; exact str8 o3.sl, hW.trans (b3.mono hW.size)⟩
  have k1 : ∀ W, Below w2.heap.size w2 W → (convert 22 9 (.slice A2 (fr b).length c2)).run Try.prog W = .ok (.string F) W := fun W hW => by
    rw [HF.out]; exact str8 (O2.out.sl.below hW)
  have k2 : ∀ W, Below w2.heap.size w2 W → (convert 22 9 (.slice A1 b.length c1)).run Try.prog W = .ok (.string S) W := fun W hW => by
    rw [HS.out]; exact str8 (HO1.out.sl.below hW)
  have k3 : ∀ W, Below w2.heap.size w2 W → (convert 22 9 (.slice A n c)).run Try.prog W = .ok (.string S) W := fun W hW => by
    rw [HS.out, HN.out]; exact str8 (HB.out.below (B2.out.trans (hW.mono B2.out.size)))
  obtain ⟨n2, hn2⟩ : ∃ n2, n2 = (fr b).length := ⟨_, rfl⟩
  rw [← hn2] at k1 ⊢
  rw [← HN.out] at k2 cs ⊢
  have K1 := Lib.hid k1
  have K2 := Lib.hid k2
  have K3 := Lib.hid k3
  have CS := Lib.hid cs
  have CR := Lib.hid cr
  have CF := Lib.hid cf
  clear k1 k2 k3 cs cr cf hn2
  have BW := Lib.hid (Below.refl w2.heap.size w2).drew
  go_wp2_with fail
  go_region_with (first
    | (go_at_call 10; refine (CS.out _ BW.out).mono ?_; rintro e w3 ⟨rfl, b3⟩; have q1 := K1.out _ b3; clear BW CS; have BW := Lib.hid b3; clear b3)
    | (go_at_call 11; refine (CR.out _ BW.out).mono ?_; rintro e w4 ⟨rfl, rfl⟩; clear CR)
    | (go_at_call 12; clear q1; refine (CF.out _ BW.out).mono ?_; rintro e w5 ⟨A3, n3, c3, rfl, q4, b5⟩; have q1 := K1.out _ b5; have q2 := K2.out _ b5; have q3 := K3.out _ b5; clear BW CF; have BW := Lib.hid b5; clear b5)
    | (go_at_call 8; clear q1 q2 q3 q4; refine (known_any _).mono ?_; rintro e w7 ⟨rfl, b7⟩))
  all_goals
    go_wp2
    go_ret
    exact ⟨rfl, B2.out.trans ((BW.out.trans (b7.mono BW.out.size)).mono B2.out.size)⟩
end Go.Proofs.Ytdeiphimfpckaaa
