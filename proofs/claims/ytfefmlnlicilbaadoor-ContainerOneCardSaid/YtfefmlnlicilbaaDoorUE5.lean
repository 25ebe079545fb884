/- Words: Flip (cut from stages 4 to 6) -/
import Derived.Test.YtfefmlnlicilbaaDoorUE4
import Derived.Test.YtfefmlnlicilbaaDoorUy
namespace Go.Proofs.YtfefmlnlicilbaaDoor
open Go.RowKit
set_option linter.unusedVariables false

theorem xor_lt {a b : Nat} (ha : a < 18446744073709551616) (hb : b < 18446744073709551616) : a ^^^ b < 18446744073709551616 := Nat.xor_lt_two_pow (n := 64) ha hb
/-- A set, but that each number from lo on, below hi, is there just if it was not. -/
def flp (p : Nat → Bool) (lo hi : Int) (x : Nat) : Bool := p x != (decide (lo ≤ (x : Int)) && decide ((x : Int) < hi))
theorem flip_bit (l : List UInt64) (lo hi : Int) (i a j : Nat) (hi1 : i < 1024) (ha : a = (l.getD i 0).toNat) (hj : j < 64) :
    (a ^^^ (bl2 (cl hi) i &&& (bl2 (cl hi) i ^^^ bl2 (cl lo) i))).testBit j = flp (wb l) lo hi (64 * i + j) := by
  rw [Nat.testBit_xor, Nat.testBit_and, Nat.testBit_xor, bl2_bit _ _ _ hj, bl2_bit _ _ _ hj, ha, wb_at _ _ _ hj]
  unfold flp cl
  have e1 : decide (64 * i + j < (min (max hi 0) 65536).toNat) = decide (((64 * i + j : Nat) : Int) < hi) := decide_eq_decide.2 (by omega)
  have e2 : decide (64 * i + j < (min (max lo 0) 65536).toNat) = !decide (lo ≤ ((64 * i + j : Nat) : Int)) := by
    rw [← decide_not]
    exact decide_eq_decide.2 (by omega)
  rw [e1, e2]
  cases wb l (64 * i + j) <;> cases decide (lo ≤ ((64 * i + j : Nat) : Int)) <;> cases decide (((64 * i + j : Nat) : Int) < hi) <;> rfl
set_option maxHeartbeats 4000000 in
set_option maxRecDepth 100000 in
theorem wflip_any (v : Value) (l : List UInt64) (blo : Nat) (lo hi : Int) (w : World) (hv : Gs e64 w blo w.heap.size v l) :
    Calls Tryd.prog 47 #[v, .int .i64 lo, .int .i64 hi] w fun e w' => ∃ v', e = .returned v' ∧ Gw e64 w' w.heap.size v' (wm (flp (wb l) lo hi)) ∧ Below w.heap.size w w' := by
  have HV := Lib.hid hv
  obtain ⟨A1, c1, rfl, -⟩ := hv
  obtain ⟨L, hL⟩ : ∃ L, L = cl lo := ⟨_, rfl⟩
  obtain ⟨H, hH⟩ : ∃ H, H = cl hi := ⟨_, rfl⟩
  have HL := Lib.hid hL
  have HH := Lib.hid hH
  clear hL hH
  go_enter Tryd.func47, Tryd.ntmps47
  go_wp2_with fail
  go_at_call 70
  refine (within_any lo _).mono ?_
  rw [← HL.out]
  rintro e w1 ⟨rfl, hz⟩
  have hz := hz.symm
  subst hz
  go_wp2_with fail
  go_at_call 70
  refine (within_any hi _).mono ?_
  rw [← HH.out]
  rintro e w1 ⟨rfl, hz⟩
  have hz := hz.symm
  subst hz
  go_wp2_with (at_make; refine wpList_gfull e64 _ rfl _ _ _ rfl sli64 inf64 _ _ _ _ 1024 rfl rfl rfl rfl (by omega) ?_; intro w1 o1 g1; have O1 := Lib.hid o1; have B1 := Lib.hid (below_of_grown g1 (fun k h => by cases h)); clear o1 g1)
  go_loopw [14] (fun i wr => ∃ k : Nat, k ≤ 1024 ∧ i = .int .i64 k ∧ Gw e64 wr w.heap.size (.slice (some ⟨w.heap.size, 0, none⟩) 1024 1024) (wm (pp (flp (wb l) lo hi) k)) ∧ Below w.heap.size w wr) (fun i _ => ((1024 : Int) - intOf i).toNat)
  case atStart => exact ⟨0, Nat.zero_le _, rfl, by have := O1.out; rw [show e64.zero = (0 : UInt64) from rfl, wm_none, pp_none (flp (wb l) lo hi)] at this; exact this, B1.out⟩
  case round =>
    obtain ⟨k, hk, rfl, ok, hbl⟩ := hrel
    have OK := Lib.hid ok
    have HB := Lib.hid hbl
    by_cases hlt : k < 1024
    · obtain ⟨a, ha⟩ : ∃ a, a = (l.getD k 0).toNat := ⟨_, rfl⟩
      have ha1 : a < 18446744073709551616 := by rw [ha]; exact u64_lt _
      obtain ⟨z, hz⟩ : ∃ z : Nat, z = ((wm (pp (flp (wb l) lo hi) k)).getD k 0).toNat := ⟨_, rfl⟩
      obtain ⟨k1, k2⟩ := wm_cell ok rfl k z hlt hz
      have hq := pp_step (flp (wb l) lo hi) k (a ^^^ (bl2 H k &&& (bl2 H k ^^^ bl2 L k))) (fun j hj => by rw [HH.out, HL.out]; exact flip_bit l lo hi k a j hlt ha hj)
      have hn1 := not_lt' (b := bl2 H k ^^^ bl2 L k) (bl2_lt H k)
      have hy1 := xor_lt ha1 hn1
      have HP0 : bits .xor .u64 (a : Int) (bits .andNot .u64 (bl2 H k : Int) (bl2 L k : Int)) = ((a ^^^ (bl2 H k &&& (bl2 H k ^^^ bl2 L k)) : Nat) : Int) := by
        rw [bits_andNot_u64 _ _ (bl2_lt H k) (bl2_lt L k)]
        exact bits_xor_u64 _ _ ha1 hn1
      have hki : (k : Int) < 1024 := by omega
      have HP := Lib.hid HP0
      have HQ := Lib.hid hq
      have HY := Lib.hid hy1
      have HA := Lib.hid ha
      have HI := Lib.hid hlt
      have HI1 := Lib.hid (show k ≤ 1023 by omega)
      have HL1 : L ≤ 65536 := by rw [HL.out]; exact cl_le _
      have HH1 : H ≤ 65536 := by rw [HH.out]; exact cl_le _
      have HL2 := Lib.hid HL1
      have HH2 := Lib.hid HH1
      clear ha ha1 hz hq hn1 hy1 HP0 ok hbl hlt hk HL1 HH1
      go_wp2_with fail
      go_at_call 63
      refine (at_of (.slice A1 l.length c1) l blo w.heap.size k k a rfl HA.out _ (HV.out.below HB.out)).mono ?_
      rintro e w1 ⟨rfl, hz⟩
      have hz := hz.symm
      subst hz
      go_wp2_with fail
      go_at_call 71
      refine (below_any H k _ HH2.out HI1.out).mono ?_
      rintro e w1 ⟨rfl, hz⟩
      have hz := hz.symm
      subst hz
      go_wp2_with fail
      go_at_call 71
      refine (below_any L k _ HL2.out HI1.out).mono ?_
      rintro e w1 ⟨rfl, hz⟩
      have hz := hz.symm
      subst hz
      go_wp2
      rw [HP.out]
      refine ⟨⟨k + 1, HI.out, by go_num, wm_stored OK.out k _ HY.out HI.out HQ.out, HB.out.grown (grown_set _ _ _ _) HB.out.size (fun j h => by injection h with h; subst h; exact Nat.le_refl _)⟩, by simp [intOf]; omega⟩
    · obtain rfl : k = 1024 := by omega
      rw [pp_all] at ok
      have OK := Lib.hid ok
      clear ok hbl
      go_wp2
      go_ret
      exact ⟨_, rfl, OK.out, HB.out⟩
end Go.Proofs.YtfefmlnlicilbaaDoor
