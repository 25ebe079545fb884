/- Walks: what is known of runs. -/
import Derived.Test.YtgkelfhmpeakkaaDoorFE
namespace Go.Proofs.YtgkelfhmpeakkaaDoor
open Go.RowKit
set_option linter.unusedVariables false

theorem k_of : ofp [1, 2, 3, 7] ([1, 2, 3, 7] : List UInt16).length = [(1, 2), (7, 0)] := by decide
theorem k_flip : pd fXor [(1, 2)] (btw (clp 0) (clp 3)) = [(0, 0), (3, 0)] := by decide
theorem k_sel : selv [(1, 2), (7, 0)] 3 = .tuple #[.int .u16 7, .bool true] := by rfl
theorem k_rank : ct (mr [(1, 2), (7, 0)]) 3 = 2 := by decide
theorem k_may1 : mayr 0 [(1, 0), (2, 0)] = false := by decide
theorem k_may2 : mayr 0 [(65535, 0)] = true := by decide
theorem k_may3 : mayr 0 [(1, 2), (7, 0)] = true := by decide
set_option maxHeartbeats 4000000 in
set_option maxRecDepth 100000 in
theorem known_any (w : World) : Calls Tryd.prog 5 #[] w fun e w' => e = .returned (.bool true) ∧ Below w.heap.size w w' := by
  have B0 := Lib.hid (Below.refl w.heap.size w)
  go_enter Tryd.func5, Tryd.ntmps5
  go_wp2_with fail
  go_at_call 21
  refine (rof_any _ [1, 2, 3, 7] _ ((Gw.lit (k := e16) _ 0 (Nat.zero_le _) [1, 2, 3, 7] _ 4 (by rfl) rfl (by omega)).sl) (by simp)).mono ?_
  rintro e w1 ⟨v1, rfl, o1, b1⟩
  rw [k_of] at o1
  have B1 := Lib.hid (below_both ((Below.refl w.heap.size w).alloc (Nat.le_refl _) _) b1)
  have O1 := Lib.hid (o1.sl.more (Nat.zero_le _) (Nat.le_refl _))
  clear o1 b1
  go_wp2_with fail
  go_at_call 22
  refine (rflip_any _ [(1, 2)] 0 3 _ ((Gw2.lit (k := eR) _ 0 (Nat.zero_le _) [(1, 2)] _ 1 (by rfl) rfl (by omega)).sl) (by simp)).mono ?_
  rintro e w2 ⟨v2, rfl, o2, b2⟩
  rw [k_flip] at o2
  have B2 := Lib.hid (below_both ((Below.refl w1.heap.size w1).alloc (Nat.le_refl _) _) b2)
  have O2 := Lib.hid (o2.sl.more (Nat.zero_le _) (Nat.le_refl _))
  have P2 := Lib.hid (O1.out.step B2.out)
  clear o2 b2
  go_wp2_with fail
  go_at_call 23
  refine (rselect_any _ _ 3 _ P2.out k_may3 (by omega)).mono ?_
  rw [k_sel]
  rintro e w3 ⟨rfl, b3⟩
  have B3 := Lib.hid b3
  have P3 := Lib.hid (P2.out.step b3)
  have O3 := Lib.hid (O2.out.step b3)
  clear b3 O1 O2 P2
  have h1 := P3.out
  have h2 := O3.out
  obtain ⟨A1, c1, rfl, -⟩ := id h1
  obtain ⟨A2, c2, rfl, -⟩ := id h2
  obtain ⟨a1, x1, r1, rfl, -, -, -, hr1, p1, p2⟩ := gs2_at h1 (k := 0) (by simp)
  obtain ⟨a2, x2, r2, e2, -, -, -, hr2, p3, p4⟩ := gs2_at h1 (k := 1) (by simp)
  obtain ⟨a3, x3, r3, rfl, -, -, -, hr3, p5, p6⟩ := gs2_at h2 (k := 0) (by simp)
  obtain ⟨a4, x4, r4, e4, -, -, -, hr4, p7, p8⟩ := gs2_at h2 (k := 1) (by simp)
  obtain ⟨rfl, rfl, -⟩ := Addr.mk.inj (Option.some.inj e2)
  obtain ⟨rfl, rfl, -⟩ := Addr.mk.inj (Option.some.inj e4)
  obtain rfl := Option.some.inj hr1
  obtain rfl := Option.some.inj hr2
  obtain rfl := Option.some.inj hr3
  obtain rfl := Option.some.inj hr4
  have q1 : w3.cell? ⟨a1, x1, none⟩ = some (.int .u16 1) := p1
  have q2 : w3.cell? ⟨a1, x1 + 1, none⟩ = some (.int .u16 2) := p2
  have q3 : w3.cell? ⟨a1, x1 + 2, none⟩ = some (.int .u16 7) := p3
  have q4 : w3.cell? ⟨a1, x1 + 2 + 1, none⟩ = some (.int .u16 0) := p4
  have q5 : w3.cell? ⟨a3, x3, none⟩ = some (.int .u16 0) := p5
  have q6 : w3.cell? ⟨a3, x3 + 1, none⟩ = some (.int .u16 0) := p6
  have q7 : w3.cell? ⟨a3, x3 + 2, none⟩ = some (.int .u16 3) := p7
  have q8 : w3.cell? ⟨a3, x3 + 2 + 1, none⟩ = some (.int .u16 0) := p8
  clear p1 p2 p3 p4 p5 p6 p7 p8 hr1 hr2 hr3 hr4 h1 h2
  go_wp2_with fail
  go_at_call 24
  refine (rrank_any _ _ 3 2 _ P3.out k_may3 (by omega) k_rank).mono ?_
  rintro e w4 ⟨rfl, b4⟩
  have B4 := Lib.hid b4
  clear b4
  go_wp2_with fail
  go_at_call 25
  refine (rmay_any _ [(1, 0), (2, 0)] _ ((Gw2.lit (k := eR) _ 0 (Nat.zero_le _) [(1, 0), (2, 0)] _ 2 (by rfl) rfl (by omega)).sl)).mono ?_
  rw [k_may1]
  rintro e w5 ⟨rfl, b5⟩
  have B5 := Lib.hid (below_both ((Below.refl w4.heap.size w4).alloc (Nat.le_refl _) _) b5)
  clear b5
  go_wp2_with fail
  go_at_call 25
  refine (rmay_any _ [(65535, 0)] _ ((Gw2.lit (k := eR) _ 0 (Nat.zero_le _) [(65535, 0)] _ 1 (by rfl) rfl (by omega)).sl)).mono ?_
  rw [k_may2]
  rintro e w6 ⟨rfl, b6⟩
  have B6 := Lib.hid (below_both ((Below.refl w5.heap.size w5).alloc (Nat.le_refl _) _) b6)
  clear b6
  go_wp2_with fail
  go_ret
  exact ⟨rfl, below_both (below_both (below_both (below_both (below_both B1.out B2.out) B3.out) B4.out) B5.out) B6.out⟩
end Go.Proofs.YtgkelfhmpeakkaaDoor
