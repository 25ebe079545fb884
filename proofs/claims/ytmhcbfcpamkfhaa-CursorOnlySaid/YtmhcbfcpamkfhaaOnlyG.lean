/- Walks: the law CursorOnly, where a short number stands. -/
import Derived.Test.YtmhcbfcpamkfhaaOnly
namespace Go.Proofs.Ytmhcbfcpamkfhaa
open Go.ChangeShapes Go.WideShapes Go.ChangeAt Go.RowKit
set_option linter.unusedVariables false

/-- What both writers of a short number answer: a slice that reads as the string S, in whatever world keeps its bytes. -/
theorem appS (N : Int) (S : ByteArray) (hS : S = ⟨(short N.toNat).toArray⟩) (n0 : 0 ≤ N) (n1 : N ≤ 18446744073709551615) (w : World) : Calls Try.prog 12 #[.slice none 0 0, .int .u64 N] w fun e w' =>
    ∃ A n c, e = .returned (.slice A n c) ∧ (∀ W, Below w'.heap.size w' W → (convert 22 9 (.slice A n c)).run Try.prog W = .ok (.string S) W) ∧ Below w.heap.size w w' := by
  subst hS
  refine (appendUint_any (.slice none 0 0) [] 0 N w (Sl.nil_ _ _ _) n0 n1 (by simp)).mono ?_
  rintro e w' ⟨v', rfl, o, b⟩
  obtain ⟨A, n, c, rfl, h⟩ := str_own o
  exact ⟨A, n, c, rfl, fun W hW => h W (o.below hW (Nat.le_refl _)), b⟩
theorem refS (N : Int) (S : ByteArray) (hS : S = ⟨(short N.toNat).toArray⟩) (n0 : 0 ≤ N) (n1 : N ≤ 18446744073709551615) (w : World) : Calls Try.prog 14 #[.int .u64 N] w fun e w' =>
    ∃ A n c, e = .returned (.slice A n c) ∧ (∀ W, Below w'.heap.size w' W → (convert 22 9 (.slice A n c)).run Try.prog W = .ok (.string S) W) ∧ Below w.heap.size w w' := by
  subst hS
  refine (refShort_any N w n0 n1).mono ?_
  rintro e w' ⟨v', rfl, o, b⟩
  obtain ⟨A, n, c, rfl, h⟩ := str_own o
  exact ⟨A, n, c, rfl, fun W hW => h W (o.below hW (Nat.le_refl _)), b⟩

set_option maxHeartbeats 8000000 in
theorem only_good (A : Option Addr) (c : Nat) (l : List UInt8) (w : World) (hv : Sl w 0 w.heap.size (.slice A l.length c) l) (hn : l.length ≤ 100) (hb : (rdS l).2 ≠ 0) :
    Calls Try.prog 7 #[.slice A l.length c] w fun e w' => e = .returned (.bool true) ∧ Below w.heap.size w w' := by
  obtain ⟨N, hN⟩ : ∃ N : Int, N = ((rdS l).1 : Int) := ⟨_, rfl⟩
  obtain ⟨k, hk⟩ : ∃ k, k = (rdS l).2 := ⟨_, rfl⟩
  obtain ⟨g1, g2, g3⟩ := (rdS_form l).1 hb
  have e0 : rd l 0 false 0 = (N.toNat, k, false) := by
    have e1 : N.toNat = (rdS l).1 := by omega
    have e2 : ((rdS l).2 == 0) = false := by rw [beq_eq_false_iff_ne]; exact hb
    unfold rd
    simp [e1, hk, e2]
  have n0 : 0 ≤ N := by omega
  have n1 : N ≤ 18446744073709551615 := by omega
  have hkl : k ≤ l.length := by rw [hk]; exact rdS_le l
  have hNt : ((N.toNat : Nat) : Int) = N := by omega
  obtain ⟨S, hS⟩ : ∃ S : ByteArray, S = ⟨(short N.toNat).toArray⟩ := ⟨_, rfl⟩
  have hconv : ∀ W, Below w.heap.size w W → (convert 22 9 (.slice A k c)).run Try.prog W = .ok (.string S) W := by
    intro W hW
    have h := str_sl (sl_take (hv.below hW) hkl)
    rw [h, hS, hk, g3]
    have e1 : N.toNat = (rdS l).1 := by omega
    rw [e1]
  have hlc : k ≤ c := by obtain ⟨_, _, e, _, h1, _⟩ := hv; injection e with _ _ e; omega
  have hcm : c ≤ maxLen := by obtain ⟨_, _, e, _, _, h1, _⟩ := hv; injection e with _ _ e; omega
  unfold maxLen at hcm
  have HV := Lib.hid hv
  have HS := Lib.hid hS
  have HC := Lib.hid hconv
  have E0 := Lib.hid e0
  have HNT := Lib.hid hNt
  clear hv hb hS hconv e0 hN g1 g2 g3 hk hNt
  go_enter Try.func7, Try.ntmps7
  go_wp2_with fail
  refine (new_any _ l 0 _ HV.out (by omega)).mono ?_
  rintro e w1 ⟨g, v, rfl, r1, b1⟩
  go_wp2_with fail
  refine (Uint_spec E0.out _ r1).mono ?_
  rintro e w2 ⟨rfl, hR, gr2⟩
  have hg : w.heap.size ≤ g := r1.ge
  have hB : Below w.heap.size w w2 := b1.grown gr2 b1.size (fun k hk => by injection hk with hk; omega)
  clear r1 b1 gr2
  rw [HNT.out]
  go_wp2_with fail
  refine (Bad_any _ hR).mono ?_
  rintro e w3 ⟨rfl, rfl⟩
  have HB := Lib.hid hB
  have HR := Lib.hid hR
  clear hB hR
  go_wp2_with fail
  go_region_with (first
    | (go_at_call 12; refine (appS N S HS.out n0 n1 _).mono ?_; rintro e w4 ⟨A4, n4, c4, rfl, hc4, b4⟩; have hB4 := (HB.out.drew).trans (b4.mono HB.out.size); have hR4 := HR.out.below ((Below.refl _ w2).drew.trans b4) (Nat.le_refl _); have ca := hc4 w4 (Below.refl _ _); have cb := HC.out w4 hB4; clear hc4 b4 HB HR; have HB := Lib.hid hB4; have HR := Lib.hid hR4; clear hB4 hR4)
    | (go_at_call 14; refine (refS N S HS.out n0 n1 _).mono ?_; rintro e w5 ⟨A5, n5, c5, rfl, hc5, b5⟩; have hB5 := (HB.out).trans (b5.mono HB.out.size); have hR5 := HR.out.below b5 (Nat.le_refl _); have cc := hc5 w5 (Below.refl _ _); have cd := HC.out w5 hB5; clear hc5 b5 HB HR; have HB := Lib.hid hB5; have HR := Lib.hid hR5; clear hB5 hR5)
    | (go_at_call 26; refine (At_any _ HR.out).mono ?_; rintro e w6 ⟨rfl, rfl⟩)
    | (go_at_call 8; refine (known_any _).mono ?_; rintro e w7 ⟨rfl, b7⟩))
  all_goals
    go_wp2
    go_ret
    exact ⟨rfl, HB.out.trans (b7.mono HB.out.size)⟩
end Go.Proofs.Ytmhcbfcpamkfhaa
