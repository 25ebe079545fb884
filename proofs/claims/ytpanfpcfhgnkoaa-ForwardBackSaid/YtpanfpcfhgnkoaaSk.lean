/- Walks: what is known; calls over an index in memory. -/
import Derived.Test.YtpanfpcfhgnkoaaSj
namespace Go.Proofs.Ytpanfpcfhgnkoaa
open Go.RowKit
set_option linter.unusedVariables false

/-- The ids that are known. -/
theorem kn_of : ofE [1, 0, 2] 3 = 0 := by decide +kernel
theorem kn_b : iB [1, 0, 2] 3 = [3, 0, 0, 0, 3, 0, 0, 0, 2, 33] := by decide +kernel
theorem kn_c : cnt [1, 0, 2] 0 3 = 1 := by decide +kernel
theorem kn_w : wdm 3 = 2 := by decide +kernel
theorem ix_count (g : Nat) (A : Option Addr) (c : Nat) (zs : List Int) (many id : Int) (w : World) (h : IxM w g A c zs many) :
    Calls Try.prog 20 #[.pointer (some ⟨g, 0, none⟩), .int .i64 id] w fun e w' => e = .returned (.int .i64 (cnt zs id zs.length : Nat)) ∧ Below w.heap.size w w' :=
  count_s _ _ _ _ A _ c zs id w h.at_ h.seqs h.small
set_option maxHeartbeats 2000000 in
set_option maxRecDepth 100000 in
theorem known12_any (w : World) : Calls Try.prog 8 #[] w fun e w' => e = .returned (.bool true) ∧ Below w.heap.size w w' := by
  have hof := fun W h => of_any (some ⟨w.heap.size, 0, none⟩) 3 [1, 0, 2] 3 W h (by decide)
  rw [kn_of] at hof
  have hby := fun g A c W h => bytes_c g A c [1, 0, 2] 3 W h
  rw [kn_b] at hby
  have hco := fun g A c W h => ix_count g A c [1, 0, 2] 3 0 W h
  simp only [List.length_cons, List.length_nil, Nat.reduceAdd, kn_c] at hco
  have hwi := fun p A n c W (h : IxAt W p (([1, 0, 2] : List Int).length : Nat) 3 (wdm 3 : Nat) A n c) => wid_any p _ _ _ A n c W h
  simp only [kn_w] at hwi
  have HO := Lib.hid hof
  have HB := Lib.hid hby
  have HC := Lib.hid hco
  have HW := Lib.hid hwi
  clear hof hby hco hwi
  have G := Lib.hid (Gw.lit (k := eI) w w.heap.size (Nat.le_refl _) [1, 0, 2] #[.int .i64 1, .int .i64 0, .int .i64 2] 3 (by rfl) rfl (by omega))
  go_enter Try.func8, Try.ntmps8
  go_wp2_with (first
    | (go_at_call 9; refine (HO.out _ (G.out.sl.more (Nat.zero_le _) (Nat.le_refl _))).mono ?_; rintro e w1 ⟨p, rfl, hd, -, b1⟩; have B1 := Lib.hid (((Below.refl w.heap.size w).alloc (Nat.le_refl _) _).trans (b1.mono (by simp))); obtain ⟨g, A, c, hp, hm⟩ := hd rfl; have M1 := Lib.hid hm.m; clear b1 hd hm; subst hp)
    | (go_at_call 16; refine (get_in g A c [1, 0, 2] 3 2 2 _ M1.out rfl).mono ?_; rintro e w2 ⟨rfl, b2⟩; have B2 := Lib.hid (B1.out.trans (b2.mono B1.out.size)); have M2 := Lib.hid (M1.out.step b2); clear b2)
    | (go_at_call 21; refine (HB.out g A c _ M2.out).mono ?_; rintro e w3 ⟨v3, rfl, o3, b3⟩; have B3 := Lib.hid (B2.out.trans (b3.mono B2.out.size)); have M3 := Lib.hid (M2.out.step b3); have cv := str8 o3.sl; clear b3 o3)
    | (go_at_call 20; refine (HC.out g A c _ M3.out).mono ?_; rintro e w4 ⟨rfl, b4⟩; have B4 := Lib.hid (B3.out.trans (b4.mono B3.out.size)); have M4 := Lib.hid (M3.out.step b4); clear b4)
    | (go_at_call 19; refine (HW.out _ _ _ _ _ M4.out.at_).mono ?_; rintro e w5 ⟨rfl, b5⟩; have B5 := Lib.hid (B4.out.trans (b5.mono B4.out.size)); clear b5))
  go_ret
  exact ⟨rfl, B5.out⟩
end Go.Proofs.Ytpanfpcfhgnkoaa
