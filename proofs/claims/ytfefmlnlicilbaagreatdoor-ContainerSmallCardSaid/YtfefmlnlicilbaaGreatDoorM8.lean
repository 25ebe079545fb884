/- Runs, two at a time, in the form of laws (cut from stages 4 to 6) -/
import Derived.Test.YtfefmlnlicilbaaGreatDoorM4
import Derived.Test.YtfefmlnlicilbaaGreatDoorM7
import Derived.Test.YtfefmlnlicilbaaGreatDoorM5
import Derived.Test.YtfefmlnlicilbaaGreatDoorM6
/- Words: And, Or, AndNot, Xor (cut from stages 4 to 6) -/
namespace Go.Proofs.YtfefmlnlicilbaaGreatDoor
open Go.RowKit
set_option linter.unusedVariables false

set_option maxHeartbeats 4000000 in
set_option maxRecDepth 100000 in
theorem paired_any (fn : FuncId) (hE : Enters Tryz.prog fn) (F : Nat → Nat → Nat) (f : Bool → Bool → Bool) (hF : ∀ a b, a < 18446744073709551616 → b < 18446744073709551616 → F a b < 18446744073709551616) (hb : ∀ a b j, j < 64 → (F a b).testBit j = f (a.testBit j) (b.testBit j))
    (hf : ∀ (a b : Nat) (W : World), a < 18446744073709551616 → b < 18446744073709551616 → Calls Tryz.prog fn #[.int .u64 a, .int .u64 b] W fun e w' => e = .returned (.int .u64 (F a b)) ∧ w' = W)
    (v u : Value) (l m : List UInt64) (lo : Nat) (w : World) (hv : Gs e64 w lo w.heap.size v l) (hu : Gs e64 w lo w.heap.size u m) :
    Calls Tryz.prog 81 #[v, u, .func (.func fn) #[] #[]] w fun e w' => ∃ v', e = .returned v' ∧ Gw e64 w' w.heap.size v' (wm fun x => f (wb l x) (wb m x)) ∧ Below w.heap.size w w' := by
  have HE := hE
  unfold Enters at HE
  have HV := Lib.hid hv
  have HU := Lib.hid hu
  obtain ⟨A1, c1, rfl, -⟩ := hv
  obtain ⟨A2, c2, rfl, -⟩ := hu
  clear hE
  go_enter Tryz.func81, Tryz.ntmps81
  go_wp2_with (at_make; refine wpList_gfull e64 _ rfl _ _ _ rfl sli64 inf64 _ _ _ _ 1024 rfl rfl rfl rfl (by omega) ?_; intro w1 o1 g1; have O1 := Lib.hid o1; have B1 := Lib.hid (below_of_grown g1 (fun k h => by cases h)); clear o1 g1)
  go_loopw [10] (fun i wr => ∃ k : Nat, k ≤ 1024 ∧ i = .int .i64 k ∧ Gw e64 wr w.heap.size (.slice (some ⟨w.heap.size, 0, none⟩) 1024 1024) (wm (pp (fun x => f (wb l x) (wb m x)) k)) ∧ Below w.heap.size w wr) (fun i _ => ((1024 : Int) - intOf i).toNat)
  case atStart => exact ⟨0, Nat.zero_le _, rfl, by have := O1.out; rw [show e64.zero = (0 : UInt64) from rfl, wm_none, pp_none (fun x => f (wb l x) (wb m x))] at this; exact this, B1.out⟩
  case round =>
    obtain ⟨k, hk, rfl, ok, hbl⟩ := hrel
    have OK := Lib.hid ok
    have HB := Lib.hid hbl
    by_cases hlt : k < 1024
    · obtain ⟨a, ha⟩ : ∃ a, a = (l.getD k 0).toNat := ⟨_, rfl⟩
      obtain ⟨b, hb'⟩ : ∃ b, b = (m.getD k 0).toNat := ⟨_, rfl⟩
      have ha1 : a < 18446744073709551616 := by rw [ha]; exact u64_lt _
      have hb1 : b < 18446744073709551616 := by rw [hb']; exact u64_lt _
      obtain ⟨z, hz⟩ : ∃ z : Nat, z = ((wm (pp (fun x => f (wb l x) (wb m x)) k)).getD k 0).toNat := ⟨_, rfl⟩
      obtain ⟨k1, k2⟩ := wm_cell ok rfl k z hlt hz
      have hq := pp_step (fun x => f (wb l x) (wb m x)) k (F a b) (fun j hj => by rw [hb a b j hj, ha, hb', wb_at _ _ _ hj, wb_at _ _ _ hj])
      have hy1 := hF a b ha1 hb1
      have hki : (k : Int) < 1024 := by omega
      obtain ⟨y, hy⟩ : ∃ y, y = F a b := ⟨_, rfl⟩
      rw [← hy] at hq hy1
      have HQ := Lib.hid hq
      have HY := Lib.hid hy1
      have HYE := Lib.hid hy
      have HA := Lib.hid ha
      have HBB := Lib.hid hb'
      have HA1 := Lib.hid ha1
      have HB1 := Lib.hid hb1
      have HI := Lib.hid hlt
      clear ha hb' ha1 hb1 hz hq hy1 hy ok hbl hlt hk
      go_wp2_with fail
      go_at_call 109
      refine (at_of (.slice A1 l.length c1) l lo w.heap.size k k a rfl HA.out _ (HV.out.below HB.out)).mono ?_
      rintro e w1 ⟨rfl, hz⟩
      have hz := hz.symm
      subst hz
      go_wp2_with fail
      go_at_call 109
      refine (at_of (.slice A2 m.length c2) m lo w.heap.size k k b rfl HBB.out _ (HU.out.below HB.out)).mono ?_
      rintro e w1 ⟨rfl, hz⟩
      have hz := hz.symm
      subst hz
      go_wp2_with fail
      refine (hf a b _ HA1.out HB1.out).mono ?_
      rw [← HYE.out]
      rintro e w1 ⟨rfl, hz⟩
      have hz := hz.symm
      subst hz
      go_wp2
      refine ⟨⟨k + 1, HI.out, by go_num, wm_stored OK.out k _ HY.out HI.out HQ.out, HB.out.grown (grown_set _ _ _ _) HB.out.size (fun j h => by injection h with h; subst h; exact Nat.le_refl _)⟩, by simp [intOf]; omega⟩
    · obtain rfl : k = 1024 := by omega
      rw [pp_all] at ok
      have OK := Lib.hid ok
      clear ok hbl
      go_wp2
      go_ret
      exact ⟨_, rfl, OK.out, HB.out⟩
theorem wand_says (a b : Nat) (W : World) (ha : a < 18446744073709551616) (hb : b < 18446744073709551616) : Calls Tryz.prog 82 #[.int .u64 a, .int .u64 b] W fun e w' => e = .returned (.int .u64 ((a &&& b : Nat) : Int)) ∧ w' = W := by
  have HA := Lib.hid ha
  have HB := Lib.hid hb
  clear ha hb
  go_enter Tryz.func82, Tryz.ntmps82
  go_wp2
  go_ret
  have ha := HA.out
  have hb := HB.out
  exact ⟨congrArg Ending.returned (congrArg (Value.int IntKind.u64) (bits_and_u64_nat a b ha hb)), rfl⟩
set_option maxHeartbeats 400000 in
theorem wand_any (v u : Value) (l m : List UInt64) (lo : Nat) (w : World) (hv : Gs e64 w lo w.heap.size v l) (hu : Gs e64 w lo w.heap.size u m) :
    Calls Tryz.prog 36 #[v, u] w fun e w' => ∃ v', e = .returned v' ∧ Gw e64 w' w.heap.size v' (wm fun x => fAnd (wb l x) (wb m x)) ∧ Below w.heap.size w w' := by
  have T := Lib.hid (paired_any 82 (enters_of Tryz.func82 (by kernel_rfl) rfl) (fun a b => a &&& b) fAnd (fun a b ha hb => not_lt' ha) (fun a b j hj => by rw [Nat.testBit_and]; rfl) wand_says v u l m lo w hv hu)
  clear hv hu
  go_enter Tryz.func36, Tryz.ntmps36
  go_wp2_with (go_at_call 81; refine T.out.mono ?_; rintro e w1 ⟨v1, rfl, o1, b1⟩; have O1 := Lib.hid o1; have B1 := Lib.hid b1; clear o1 b1)
  go_ret
  exact ⟨_, rfl, O1.out, B1.out⟩
theorem wor_says (a b : Nat) (W : World) (ha : a < 18446744073709551616) (hb : b < 18446744073709551616) : Calls Tryz.prog 87 #[.int .u64 a, .int .u64 b] W fun e w' => e = .returned (.int .u64 ((a ||| b : Nat) : Int)) ∧ w' = W := by
  have HA := Lib.hid ha
  have HB := Lib.hid hb
  clear ha hb
  go_enter Tryz.func87, Tryz.ntmps87
  go_wp2
  go_ret
  have ha := HA.out
  have hb := HB.out
  exact ⟨congrArg Ending.returned (congrArg (Value.int IntKind.u64) (bits_or_u64_nat a b ha hb)), rfl⟩
set_option maxHeartbeats 400000 in
theorem wor_any (v u : Value) (l m : List UInt64) (lo : Nat) (w : World) (hv : Gs e64 w lo w.heap.size v l) (hu : Gs e64 w lo w.heap.size u m) :
    Calls Tryz.prog 40 #[v, u] w fun e w' => ∃ v', e = .returned v' ∧ Gw e64 w' w.heap.size v' (wm fun x => fOr (wb l x) (wb m x)) ∧ Below w.heap.size w w' := by
  have T := Lib.hid (paired_any 87 (enters_of Tryz.func87 (by kernel_rfl) rfl) (fun a b => a ||| b) fOr (fun a b ha hb => or_lt ha hb) (fun a b j hj => by rw [Nat.testBit_or]; rfl) wor_says v u l m lo w hv hu)
  clear hv hu
  go_enter Tryz.func40, Tryz.ntmps40
  go_wp2_with (go_at_call 81; refine T.out.mono ?_; rintro e w1 ⟨v1, rfl, o1, b1⟩; have O1 := Lib.hid o1; have B1 := Lib.hid b1; clear o1 b1)
  go_ret
  exact ⟨_, rfl, O1.out, B1.out⟩
theorem wnot_says (a b : Nat) (W : World) (ha : a < 18446744073709551616) (hb : b < 18446744073709551616) : Calls Tryz.prog 90 #[.int .u64 a, .int .u64 b] W fun e w' => e = .returned (.int .u64 ((a &&& (a ^^^ b) : Nat) : Int)) ∧ w' = W := by
  have HA := Lib.hid ha
  have HB := Lib.hid hb
  clear ha hb
  go_enter Tryz.func90, Tryz.ntmps90
  go_wp2
  go_ret
  have ha := HA.out
  have hb := HB.out
  exact ⟨congrArg Ending.returned (congrArg (Value.int IntKind.u64) (bits_andNot_u64 a b ha hb)), rfl⟩
set_option maxHeartbeats 400000 in
theorem wnot_any (v u : Value) (l m : List UInt64) (lo : Nat) (w : World) (hv : Gs e64 w lo w.heap.size v l) (hu : Gs e64 w lo w.heap.size u m) :
    Calls Tryz.prog 43 #[v, u] w fun e w' => ∃ v', e = .returned v' ∧ Gw e64 w' w.heap.size v' (wm fun x => fNot (wb l x) (wb m x)) ∧ Below w.heap.size w w' := by
  have T := Lib.hid (paired_any 90 (enters_of Tryz.func90 (by kernel_rfl) rfl) (fun a b => a &&& (a ^^^ b)) fNot (fun a b ha hb => not_lt' ha) (fun a b j hj => by rw [Nat.testBit_and, Nat.testBit_xor]; cases a.testBit j <;> cases b.testBit j <;> rfl) wnot_says v u l m lo w hv hu)
  clear hv hu
  go_enter Tryz.func43, Tryz.ntmps43
  go_wp2_with (go_at_call 81; refine T.out.mono ?_; rintro e w1 ⟨v1, rfl, o1, b1⟩; have O1 := Lib.hid o1; have B1 := Lib.hid b1; clear o1 b1)
  go_ret
  exact ⟨_, rfl, O1.out, B1.out⟩
theorem wxor_says (a b : Nat) (W : World) (ha : a < 18446744073709551616) (hb : b < 18446744073709551616) : Calls Tryz.prog 93 #[.int .u64 a, .int .u64 b] W fun e w' => e = .returned (.int .u64 ((a ^^^ b : Nat) : Int)) ∧ w' = W := by
  have HA := Lib.hid ha
  have HB := Lib.hid hb
  clear ha hb
  go_enter Tryz.func93, Tryz.ntmps93
  go_wp2
  go_ret
  have ha := HA.out
  have hb := HB.out
  exact ⟨congrArg Ending.returned (congrArg (Value.int IntKind.u64) (bits_xor_u64 a b ha hb)), rfl⟩
set_option maxHeartbeats 400000 in
theorem wxor_any (v u : Value) (l m : List UInt64) (lo : Nat) (w : World) (hv : Gs e64 w lo w.heap.size v l) (hu : Gs e64 w lo w.heap.size u m) :
    Calls Tryz.prog 46 #[v, u] w fun e w' => ∃ v', e = .returned v' ∧ Gw e64 w' w.heap.size v' (wm fun x => fXor (wb l x) (wb m x)) ∧ Below w.heap.size w w' := by
  have T := Lib.hid (paired_any 93 (enters_of Tryz.func93 (by kernel_rfl) rfl) (fun a b => a ^^^ b) fXor (fun a b ha hb => xor_lt ha hb) (fun a b j hj => by rw [Nat.testBit_xor]; cases a.testBit j <;> cases b.testBit j <;> rfl) wxor_says v u l m lo w hv hu)
  clear hv hu
  go_enter Tryz.func46, Tryz.ntmps46
  go_wp2_with (go_at_call 81; refine T.out.mono ?_; rintro e w1 ⟨v1, rfl, o1, b1⟩; have O1 := Lib.hid o1; have B1 := Lib.hid b1; clear o1 b1)
  go_ret
  exact ⟨_, rfl, O1.out, B1.out⟩
end Go.Proofs.YtfefmlnlicilbaaGreatDoor
/- The document's words of marks, marks flipped; whether two rows of words are the same (cut from stages 4 to 6) -/
namespace Go.Proofs.YtfefmlnlicilbaaGreatDoor
open Go.RowKit
set_option linter.unusedVariables false

theorem add_or (z s : Nat) (hz : z < 2 ^ s) : z + 2 ^ s = z ||| 2 ^ s := by
  apply Nat.eq_of_testBit_eq
  intro t
  have e : z + 2 ^ s = 2 ^ s * 1 + z := by omega
  rw [e, Nat.testBit_two_pow_mul_add _ hz, Nat.testBit_or, Nat.testBit_two_pow]
  by_cases h : t < s
  · have : ¬ s = t := by omega
    simp [h, this]
  · have hp : 2 ^ s ≤ 2 ^ t := Nat.pow_le_pow_right (by omega) (by omega)
    rw [if_neg h, Nat.testBit_lt_two_pow (Nat.lt_of_lt_of_le hz hp), Bool.false_or]
    show (2 ^ 0).testBit (t - s) = _
    rw [Nat.testBit_two_pow]
    exact decide_eq_decide.2 (by omega)
theorem lt_bits {z s : Nat} (h : ∀ j, s ≤ j → z.testBit j = false) : z < 2 ^ s := Nat.lt_pow_two_of_testBit z h
/-- The marks below k. -/
def pq (p : Nat → Bool) (k x : Nat) : Bool := decide (x < k) && p x
theorem pq_none (p : Nat → Bool) : wm (fun _ => false) = wm (pq p 0) := wm_ext fun x hx => by simp [pq]
theorem pq_all (p : Nat → Bool) : wm (pq p 65536) = wm p := wm_ext fun x hx => by unfold pq; rw [decide_eq_true hx, Bool.true_and]
theorem pq_skip {p : Nat → Bool} {k : Nat} (h : p k = false) : wm (pq p (k + 1)) = wm (pq p k) := wm_ext fun x hx => by
  unfold pq
  by_cases he : x = k
  · subst he; rw [h]; simp
  · congr 1
    exact decide_eq_decide.2 (by omega)
theorem word_add (p : Nat → Bool) (k z : Nat) (hk : k < 65536) (h : p k = true) (hz : z = ((wm (pq p k)).getD (k / 64) 0).toNat) :
    IntKind.u64.wrap ((z : Int) + IntKind.u64.wrap (2 ^ (k % 64))) = ((z + 2 ^ (k % 64) : Nat) : Int) ∧ z + 2 ^ (k % 64) < 18446744073709551616 ∧
    ∀ x, x < 65536 → pq p (k + 1) x = if x / 64 = k / 64 then (z + 2 ^ (k % 64)).testBit (x % 64) else pq p k x := by
  have hb : ∀ j, z.testBit j = (decide (j < 64) && pq p k (64 * (k / 64) + j)) := by
    intro j
    rw [hz, wm_word _ _ (by omega), wn_bit]
  have hlt : z < 2 ^ (k % 64) := lt_bits fun j hj => by
    rw [hb j]
    unfold pq
    rw [decide_eq_false (show ¬ 64 * (k / 64) + j < k by omega), Bool.false_and, Bool.and_false]
  have h1 : 2 ^ (k % 64) ≤ 2 ^ 63 := Nat.pow_le_pow_right (by omega) (by omega)
  have hs : z + 2 ^ (k % 64) < 18446744073709551616 := by omega
  refine ⟨?_, hs, fun x hx => ?_⟩
  · have e : ((2 : Int) ^ (k % 64)) = ((2 ^ (k % 64) : Nat) : Int) := by push_cast; rfl
    rw [e, wrap_nat _ (two_lt _ (by omega)), ← Int.natCast_add]
    exact wrap_nat _ hs
  · by_cases he : x / 64 = k / 64
    · have e1 : 64 * (k / 64) + x % 64 = x := by omega
      rw [if_pos he, add_or _ _ hlt, Nat.testBit_or, hb, decide_eq_true (show x % 64 < 64 by omega), Bool.true_and, e1, Nat.testBit_two_pow]
      unfold pq
      by_cases hxk : x = k
      · subst hxk; rw [h]; simp
      · have h2 : ¬ k % 64 = x % 64 := by omega
        have h3 : x < k + 1 ↔ x < k := by omega
        simp [h2, h3]
    · rw [if_neg he]
      unfold pq
      congr 1
      exact decide_eq_decide.2 (by omega)
set_option maxHeartbeats 1000000 in
set_option maxRecDepth 100000 in
theorem refWords_any (g : Nat) (p : Nat → Bool) (w : World) (h : Row w g 65 (mA 65536 p)) :
    Calls Tryz.prog 22 #[.pointer (some ⟨g, 0, none⟩)] w fun e w' => ∃ v', e = .returned v' ∧ Gw e64 w' w.heap.size v' (wm p) ∧ Below w.heap.size w w' := by
  have HA := Lib.hid h
  have hg := h.lt
  have HG := Lib.hid hg
  clear h hg
  go_enter Tryz.func22, Tryz.ntmps22
  go_wp2_with (at_make; refine wpList_gfull e64 _ rfl _ _ _ rfl sli64 inf64 _ _ _ _ 1024 rfl rfl rfl rfl (by omega) ?_; intro w1 o1 g1; have O1 := Lib.hid o1; have B1 := Lib.hid (below_of_grown g1 (fun k h => by cases h)); clear o1 g1)
  go_loopw [4] (fun i wr => ∃ k : Nat, k ≤ 65536 ∧ i = .int .i64 k ∧ Gw e64 wr w.heap.size (.slice (some ⟨w.heap.size, 0, none⟩) 1024 1024) (wm (pq p k)) ∧ Below w.heap.size w wr) (fun i _ => ((65536 : Int) - intOf i).toNat)
  case atStart => exact ⟨0, Nat.zero_le _, rfl, by have := O1.out; rw [show e64.zero = (0 : UInt64) from rfl, wm_none, pq_none p] at this; exact this, B1.out⟩
  case round =>
    obtain ⟨k, hk, rfl, ok, hbl⟩ := hrel
    have OK := Lib.hid ok
    have HB := Lib.hid hbl
    by_cases hlt : k < 65536
    · have HI := Lib.hid hlt
      have hki : (k : Int) < 65536 := by omega
      have c3 := (HA.out.below hbl HG.out).cell k
      rw [mA_at _ _ _ hlt] at c3
      cases hp : p k
      · rw [hp] at c3
        have HS := Lib.hid (pq_skip hp)
        clear hp hlt hk ok hbl
        go_wp2
        go_roundw
        case rel => exact ⟨k + 1, HI.out, by go_num, by rw [HS.out]; exact OK.out, HB.out⟩
        case measure => simp [intOf]; omega
      · rw [hp] at c3
        obtain ⟨z, hz⟩ : ∃ z : Nat, z = ((wm (pq p k)).getD (k / 64) 0).toNat := ⟨_, rfl⟩
        obtain ⟨k1, k2⟩ := wm_cell ok rfl (k / 64) z (by omega) hz
        obtain ⟨n1, n2, n3⟩ := word_add p k z hlt hp hz
        have N1 := Lib.hid n1
        have N2 := Lib.hid n2
        have N3 := Lib.hid n3
        have hk6 : (k : Int) / 64 < 1024 := by omega
        clear hz n1 n2 n3 hp hlt hk ok hbl
        go_wp2
        rw [N1.out]
        refine ⟨⟨k + 1, HI.out, by go_num, wm_stored OK.out (k / 64) _ N2.out (by have := HI.out; omega) N3.out, below_set HB.out HB.out.size (Nat.le_refl _)⟩, by simp [intOf]; omega⟩
    · obtain rfl : k = 65536 := by omega
      rw [pq_all] at ok
      have OK := Lib.hid ok
      clear ok hbl
      go_wp2
      go_ret
      exact ⟨_, rfl, OK.out, HB.out⟩
/-- Where marks are flipped. -/
def qf (lo hi : Int) (x : Nat) : Bool := decide (lo ≤ (x : Int)) && decide ((x : Int) < hi)
set_option maxHeartbeats 1000000 in
set_option maxRecDepth 100000 in
theorem refFlip_any (g : Nat) (p : Nat → Bool) (lo hi : Int) (w : World) (h : Row w g 65 (mA 65536 p)) :
    Calls Tryz.prog 20 #[.pointer (some ⟨g, 0, none⟩), .int .i64 lo, .int .i64 hi] w fun e w' => e = .returned (.pointer (some ⟨w.heap.size, 0, none⟩)) ∧ Row w' w.heap.size 65 (mA 65536 (flp p lo hi)) ∧ Below w.heap.size w w' := by
  have HA := Lib.hid h
  have hg := h.lt
  clear h
  have hz := (zero_of_info zeroM).1
  generalize hZ : mA 65536 (fun _ => false) = Z at hz
  go_enter Tryz.func20, Tryz.ntmps20
  go_wp2
  subst hZ
  go_loopw [8] (fun i wr => ∃ k : Nat, k ≤ 65536 ∧ i = .int .i64 k ∧ Row wr w.heap.size 65 (mA 65536 (up fXor p (qf lo hi) k)) ∧ Below w.heap.size w wr) (fun i _ => ((65536 : Int) - intOf i).toNat)
  case atStart => exact ⟨0, Nat.zero_le _, rfl, by rw [up_zero]; exact Row.new _ _ _, (Below.refl _ _).alloc (Nat.le_refl _) _⟩
  case round =>
    obtain ⟨k, hk, rfl, hr, hbl⟩ := hrel
    have HR := Lib.hid hr
    have HB := Lib.hid hbl
    by_cases hlt : k < 65536
    · have hki : (k : Int) < 65536 := by omega
      have HL := Lib.hid hlt
      have c1 := hr.cell k
      rw [mA_at _ _ _ hlt] at c1
      have c2 := hr.frozen k
      have c3 := (HA.out.below hbl hg).cell k
      rw [mA_at _ _ _ hlt] at c3
      clear hr hbl
      by_cases h1 : lo ≤ (k : Int)
      · by_cases h2 : (k : Int) < hi
        · cases hp : p k
          · rw [hp] at c3
            have HS := Lib.hid (up_succ 65536 fXor p (qf lo hi) k true (by unfold qf; rw [hp, decide_eq_true h1, decide_eq_true h2]; rfl))
            clear hp hlt
            go_wp2_with fail
            go_region
            go_wp2
            go_roundw
            case rel => exact ⟨k + 1, HL.out, by go_num, by rw [HS.out]; exact Row.set_ HR.out k _, below_set HB.out.drew HB.out.size (Nat.le_refl _)⟩
            case measure => simp [intOf]; omega
          · rw [hp] at c3
            have HS := Lib.hid (up_succ 65536 fXor p (qf lo hi) k false (by unfold qf; rw [hp, decide_eq_true h1, decide_eq_true h2]; rfl))
            clear hp hlt
            go_wp2_with fail
            go_region
            go_wp2
            go_roundw
            case rel => exact ⟨k + 1, HL.out, by go_num, by rw [HS.out]; exact Row.set_ HR.out k _, below_set HB.out.drew HB.out.size (Nat.le_refl _)⟩
            case measure => simp [intOf]; omega
        · have q2 : decide ((k : Int) < hi) = false := decide_eq_false h2
          cases hp : p k
          · rw [hp] at c3
            have HS := Lib.hid (up_succ 65536 fXor p (qf lo hi) k false (by unfold qf; rw [hp, decide_eq_true h1, decide_eq_false h2]; rfl))
            clear hp hlt
            go_wp2_with fail
            go_region
            go_wp2
            go_roundw
            case rel => exact ⟨k + 1, HL.out, by go_num, by rw [HS.out]; exact Row.set_ HR.out k _, below_set HB.out.drew HB.out.size (Nat.le_refl _)⟩
            case measure => simp [intOf]; omega
          · rw [hp] at c3
            have HS := Lib.hid (up_succ 65536 fXor p (qf lo hi) k true (by unfold qf; rw [hp, decide_eq_true h1, decide_eq_false h2]; rfl))
            clear hp hlt
            go_wp2_with fail
            go_region
            go_wp2
            go_roundw
            case rel => exact ⟨k + 1, HL.out, by go_num, by rw [HS.out]; exact Row.set_ HR.out k _, below_set HB.out.drew HB.out.size (Nat.le_refl _)⟩
            case measure => simp [intOf]; omega
      · have q1 : decide (lo ≤ (k : Int)) = false := decide_eq_false h1
        cases hp : p k
        · rw [hp] at c3
          have HS := Lib.hid (up_succ 65536 fXor p (qf lo hi) k false (by unfold qf; rw [hp, decide_eq_false h1]; rfl))
          clear hp hlt
          go_wp2_with fail
          go_region
          go_wp2
          go_roundw
          case rel => exact ⟨k + 1, HL.out, by go_num, by rw [HS.out]; exact Row.set_ HR.out k _, below_set HB.out.drew HB.out.size (Nat.le_refl _)⟩
          case measure => simp [intOf]; omega
        · rw [hp] at c3
          have HS := Lib.hid (up_succ 65536 fXor p (qf lo hi) k true (by unfold qf; rw [hp, decide_eq_false h1]; rfl))
          clear hp hlt
          go_wp2_with fail
          go_region
          go_wp2
          go_roundw
          case rel => exact ⟨k + 1, HL.out, by go_num, by rw [HS.out]; exact Row.set_ HR.out k _, below_set HB.out.drew HB.out.size (Nat.le_refl _)⟩
          case measure => simp [intOf]; omega
    · obtain rfl : k = 65536 := by omega
      rw [up_full] at hr
      have HR := Lib.hid hr
      clear hr hbl
      go_wp2
      go_ret
      exact ⟨rfl, HR.out, HB.out⟩
/-- The word at a place. -/
def at64 (l : List UInt64) (k : Nat) : UInt64 := l.getD k 0
theorem at64_get {l : List UInt64} {k : Nat} (h : k < l.length) : l[k]? = some (at64 l k) := by rw [List.getElem?_eq_getElem h]; simp [at64, List.getD, h]
theorem take_succ64 {l m : List UInt64} {k : Nat} (hl : k < l.length) (hm : k < m.length) (h : l.take k = m.take k) (he : at64 l k = at64 m k) : l.take (k + 1) = m.take (k + 1) := by
  rw [List.take_add_one, List.take_add_one, h, at64_get hl, at64_get hm, he]
set_option maxHeartbeats 1000000 in
theorem same64_any (v u : Value) (l m : List UInt64) (lo hi lo' hi' : Nat) (W : World) (hv : Gs e64 W lo hi v l) (hu : Gs e64 W lo' hi' u m) :
    Calls Tryz.prog 28 #[v, u] W fun e w' => e = .returned (.bool (decide (l = m))) ∧ ∃ n, w' = W.drewN n := by
  have hlen := hv.len
  have hv0 := hv
  have hu0 := hu
  obtain ⟨A, c, rfl, -⟩ := hv
  obtain ⟨B, d, rfl, -⟩ := hu
  have HV := Lib.hid hv0
  have HU := Lib.hid hu0
  clear hv0 hu0
  by_cases hlm : l.length = m.length
  · obtain ⟨n, hn⟩ : ∃ n, n = l.length := ⟨_, rfl⟩
    have HN := Lib.hid hn
    have HM := Lib.hid (hn.trans hlm)
    rw [← hlm, ← hn]
    rw [← hn] at hlen
    clear hn hlm
    go_enter Tryz.func28, Tryz.ntmps28
    go_wp2
    go_loopw [5] (fun i wr => ∃ k q : Nat, k ≤ n ∧ i = .int .i64 k ∧ wr = W.drewN q ∧ l.take k = m.take k) (fun i _ => n - (intOf i).toNat)
    case atStart => exact ⟨0, 0, Nat.zero_le _, rfl, rfl, rfl⟩
    case round =>
      obtain ⟨k, q, hk, rfl, rfl, ht⟩ := hrel
      by_cases hlt : k < n
      · have hkl : k < l.length := by have := HN.out; omega
        have hkm : k < m.length := by have := HM.out; omega
        obtain ⟨b1, o1, c1, e1, -, -, -, -, hc1⟩ := HV.out.form (by rintro rfl; simp at hkl)
        rw [← HN.out] at e1
        injection e1 with e1 _ e2
        subst e1 e2
        obtain ⟨b2, o2, c2, e1, -, -, -, -, hc2⟩ := HU.out.form (by rintro rfl; simp at hkm)
        rw [← HM.out] at e1
        injection e1 with e1 _ e2
        subst e1 e2
        have k1 := hc1 k _ (at64_get hkl)
        have k2 := hc2 k _ (at64_get hkm)
        simp only [e64, b64] at k1 k2
        obtain ⟨x, hx⟩ : ∃ x : Int, x = ((at64 l k).toNat : Int) := ⟨_, rfl⟩
        obtain ⟨y, hy⟩ : ∃ y : Int, y = ((at64 m k).toNat : Int) := ⟨_, rfl⟩
        have hxy : x = y ↔ at64 l k = at64 m k := by rw [hx, hy, ← UInt64.toNat_inj]; omega
        rw [← hx] at k1
        rw [← hy] at k2
        clear hc1 hc2 hx hy
        by_cases he : x = y
        · have HT := Lib.hid (take_succ64 hkl hkm ht (hxy.1 he))
          subst he
          clear ht hxy hkl hkm
          go_wp2
          go_quiet (fail)
          go_wp2
          go_roundw
          case rel => exact ⟨k + 1, _, hlt, by go_num, rfl, HT.out⟩
          case measure => simp [intOf]; omega
        · have hF : decide (l = m) = false := decide_eq_false (by rintro rfl; exact he (hxy.2 rfl))
          have HF := Lib.hid hF
          clear ht hxy hF hkl hkm
          go_wp2
          go_quiet (fail)
          go_wp2
          go_ret
          exact ⟨by rw [HF.out]; rfl, _, World.drewN_drewN ..⟩
      · obtain rfl : k = n := by omega
        have hT : decide (l = m) = true := decide_eq_true (by have := HN.out; have := HM.out; rwa [List.take_of_length_le (by omega), List.take_of_length_le (by omega)] at ht)
        have HT := Lib.hid hT
        clear hT ht
        go_wp2
        go_ret
        exact ⟨by rw [HT.out]; rfl, _, rfl⟩
  · have hF : decide (l = m) = false := decide_eq_false (by rintro rfl; exact hlm rfl)
    have HF := Lib.hid hF
    have hlm2 := HU.out.len
    have hlmi : ¬ (l.length : Int) = m.length := by omega
    have q1 : decide ((l.length : Int) = m.length) = false := decide_eq_false hlmi
    have q2 : ((l.length : Int) == m.length) = false := beq_false_of_ne hlmi
    have q3 : ((l.length : Int) != m.length) = true := by simp [bne, q2]
    clear hF
    go_enter Tryz.func28, Tryz.ntmps28
    go_wp2
    go_ret
    exact ⟨by rw [HF.out]; rfl, 0, rfl⟩
theorem same64_b (v u : Value) (l m : List UInt64) (lo hi lo' hi' : Nat) (W : World) (hv : Gs e64 W lo hi v l) (hu : Gs e64 W lo' hi' u m) :
    Calls Tryz.prog 28 #[v, u] W fun e w' => e = .returned (.bool (decide (l = m))) ∧ Below W.heap.size W w' :=
  (same64_any v u l m lo hi lo' hi' W hv hu).mono fun e w' ⟨h1, n, h2⟩ => ⟨h1, h2 ▸ below_drew n⟩
end Go.Proofs.YtfefmlnlicilbaaGreatDoor
/- Words and arrays, two at a time, in the form of laws (cut from stages 4 to 6) -/
namespace Go.Proofs.YtfefmlnlicilbaaGreatDoor
open Go.RowKit
set_option linter.unusedVariables false

theorem wand_p (v u : Value) (p q : Nat → Bool) (w : World) (hv : Gs e64 w 0 w.heap.size v (wm p)) (hu : Gs e64 w 0 w.heap.size u (wm q)) :
    Calls Tryz.prog 36 #[v, u] w fun e w' => ∃ A c, e = .returned (.slice A 1024 c) ∧ Gs e64 w' 0 w'.heap.size (.slice A 1024 c) (wm fun x => fAnd (p x) (q x)) ∧ Below w.heap.size w w' := by
  refine (wand_any v u _ _ 0 w hv hu).mono ?_
  rintro e w' ⟨v', rfl, o, b⟩
  rw [mix_wb fAnd p q] at o
  obtain ⟨A, c, rfl⟩ := gw_wm o
  exact ⟨A, c, rfl, o.sl.more (Nat.zero_le _) (Nat.le_refl _), b⟩
theorem wor_p (v u : Value) (p q : Nat → Bool) (w : World) (hv : Gs e64 w 0 w.heap.size v (wm p)) (hu : Gs e64 w 0 w.heap.size u (wm q)) :
    Calls Tryz.prog 40 #[v, u] w fun e w' => ∃ A c, e = .returned (.slice A 1024 c) ∧ Gs e64 w' 0 w'.heap.size (.slice A 1024 c) (wm fun x => fOr (p x) (q x)) ∧ Below w.heap.size w w' := by
  refine (wor_any v u _ _ 0 w hv hu).mono ?_
  rintro e w' ⟨v', rfl, o, b⟩
  rw [mix_wb fOr p q] at o
  obtain ⟨A, c, rfl⟩ := gw_wm o
  exact ⟨A, c, rfl, o.sl.more (Nat.zero_le _) (Nat.le_refl _), b⟩
theorem wnot_p (v u : Value) (p q : Nat → Bool) (w : World) (hv : Gs e64 w 0 w.heap.size v (wm p)) (hu : Gs e64 w 0 w.heap.size u (wm q)) :
    Calls Tryz.prog 43 #[v, u] w fun e w' => ∃ A c, e = .returned (.slice A 1024 c) ∧ Gs e64 w' 0 w'.heap.size (.slice A 1024 c) (wm fun x => fNot (p x) (q x)) ∧ Below w.heap.size w w' := by
  refine (wnot_any v u _ _ 0 w hv hu).mono ?_
  rintro e w' ⟨v', rfl, o, b⟩
  rw [mix_wb fNot p q] at o
  obtain ⟨A, c, rfl⟩ := gw_wm o
  exact ⟨A, c, rfl, o.sl.more (Nat.zero_le _) (Nat.le_refl _), b⟩
theorem wxor_p (v u : Value) (p q : Nat → Bool) (w : World) (hv : Gs e64 w 0 w.heap.size v (wm p)) (hu : Gs e64 w 0 w.heap.size u (wm q)) :
    Calls Tryz.prog 46 #[v, u] w fun e w' => ∃ A c, e = .returned (.slice A 1024 c) ∧ Gs e64 w' 0 w'.heap.size (.slice A 1024 c) (wm fun x => fXor (p x) (q x)) ∧ Below w.heap.size w w' := by
  refine (wxor_any v u _ _ 0 w hv hu).mono ?_
  rintro e w' ⟨v', rfl, o, b⟩
  rw [mix_wb fXor p q] at o
  obtain ⟨A, c, rfl⟩ := gw_wm o
  exact ⟨A, c, rfl, o.sl.more (Nat.zero_le _) (Nat.le_refl _), b⟩
theorem same64_p (v u : Value) (l m : List UInt64) (W : World) (hv : Gs e64 W 0 W.heap.size v l) (hu : Gs e64 W 0 W.heap.size u m) (h : l = m) :
    Calls Tryz.prog 28 #[v, u] W fun e w' => e = .returned (.bool true) ∧ Below W.heap.size W w' :=
  (same64_b v u l m 0 _ 0 _ W hv hu).mono fun e w' ⟨h1, h2⟩ => ⟨by rw [h1, decide_eq_true h], h2⟩
theorem aand_p (v u : Value) (p q : Nat → Bool) (n : Nat) (w : World) (hv : Gs e16 w 0 w.heap.size v (ls p 65536)) (hu : Gs e16 w 0 w.heap.size u (ls q 65536)) (hn : ct (fun x => fAnd (p x) (q x)) 65536 = n) :
    Calls Tryz.prog 35 #[v, u] w fun e w' => ∃ A c, e = .returned (.slice A n c) ∧ Gs e16 w' 0 w'.heap.size (.slice A n c) (ls (fun x => fAnd (p x) (q x)) 65536) ∧ Below w.heap.size w w' := by
  refine (and_any v u _ _ 0 w hv hu (Nat.le_trans (ls_len p 65536) (by omega)) (Nat.le_trans (ls_len q 65536) (by omega))).mono ?_
  rintro e w' ⟨v', rfl, o, b⟩
  rw [ls_mg fAnd rfl (ris_ls p 65536 (Nat.le_refl _)) (ris_ls q 65536 (Nat.le_refl _))] at o
  have e1 : ls (fun i => fAnd (mk (ls p 65536) i) (mk (ls q 65536) i)) 65536 = ls (fun x => fAnd (p x) (q x)) 65536 := ls_ext fun j hj => by rw [mk_ls p hj, mk_ls q hj]
  rw [e1] at o
  have s := o.sl.more (Nat.zero_le _) (Nat.le_refl _)
  obtain ⟨A, c, rfl, -⟩ := o.sl
  rw [ls_ct, hn] at s ⊢
  exact ⟨A, c, rfl, s, b⟩
theorem aor_p (v u : Value) (p q : Nat → Bool) (n : Nat) (w : World) (hv : Gs e16 w 0 w.heap.size v (ls p 65536)) (hu : Gs e16 w 0 w.heap.size u (ls q 65536)) (hn : ct (fun x => fOr (p x) (q x)) 65536 = n) :
    Calls Tryz.prog 39 #[v, u] w fun e w' => ∃ A c, e = .returned (.slice A n c) ∧ Gs e16 w' 0 w'.heap.size (.slice A n c) (ls (fun x => fOr (p x) (q x)) 65536) ∧ Below w.heap.size w w' := by
  refine (or_any v u _ _ 0 w hv hu (Nat.le_trans (ls_len p 65536) (by omega)) (Nat.le_trans (ls_len q 65536) (by omega))).mono ?_
  rintro e w' ⟨v', rfl, o, b⟩
  rw [ls_mg fOr rfl (ris_ls p 65536 (Nat.le_refl _)) (ris_ls q 65536 (Nat.le_refl _))] at o
  have e1 : ls (fun i => fOr (mk (ls p 65536) i) (mk (ls q 65536) i)) 65536 = ls (fun x => fOr (p x) (q x)) 65536 := ls_ext fun j hj => by rw [mk_ls p hj, mk_ls q hj]
  rw [e1] at o
  have s := o.sl.more (Nat.zero_le _) (Nat.le_refl _)
  obtain ⟨A, c, rfl, -⟩ := o.sl
  rw [ls_ct, hn] at s ⊢
  exact ⟨A, c, rfl, s, b⟩
theorem anot_p (v u : Value) (p q : Nat → Bool) (n : Nat) (w : World) (hv : Gs e16 w 0 w.heap.size v (ls p 65536)) (hu : Gs e16 w 0 w.heap.size u (ls q 65536)) (hn : ct (fun x => fNot (p x) (q x)) 65536 = n) :
    Calls Tryz.prog 42 #[v, u] w fun e w' => ∃ A c, e = .returned (.slice A n c) ∧ Gs e16 w' 0 w'.heap.size (.slice A n c) (ls (fun x => fNot (p x) (q x)) 65536) ∧ Below w.heap.size w w' := by
  refine (not_any v u _ _ 0 w hv hu (Nat.le_trans (ls_len p 65536) (by omega)) (Nat.le_trans (ls_len q 65536) (by omega))).mono ?_
  rintro e w' ⟨v', rfl, o, b⟩
  rw [ls_mg fNot rfl (ris_ls p 65536 (Nat.le_refl _)) (ris_ls q 65536 (Nat.le_refl _))] at o
  have e1 : ls (fun i => fNot (mk (ls p 65536) i) (mk (ls q 65536) i)) 65536 = ls (fun x => fNot (p x) (q x)) 65536 := ls_ext fun j hj => by rw [mk_ls p hj, mk_ls q hj]
  rw [e1] at o
  have s := o.sl.more (Nat.zero_le _) (Nat.le_refl _)
  obtain ⟨A, c, rfl, -⟩ := o.sl
  rw [ls_ct, hn] at s ⊢
  exact ⟨A, c, rfl, s, b⟩
theorem axor_p (v u : Value) (p q : Nat → Bool) (n : Nat) (w : World) (hv : Gs e16 w 0 w.heap.size v (ls p 65536)) (hu : Gs e16 w 0 w.heap.size u (ls q 65536)) (hn : ct (fun x => fXor (p x) (q x)) 65536 = n) :
    Calls Tryz.prog 45 #[v, u] w fun e w' => ∃ A c, e = .returned (.slice A n c) ∧ Gs e16 w' 0 w'.heap.size (.slice A n c) (ls (fun x => fXor (p x) (q x)) 65536) ∧ Below w.heap.size w w' := by
  refine (xor_any v u _ _ 0 w hv hu (Nat.le_trans (ls_len p 65536) (by omega)) (Nat.le_trans (ls_len q 65536) (by omega))).mono ?_
  rintro e w' ⟨v', rfl, o, b⟩
  rw [ls_mg fXor rfl (ris_ls p 65536 (Nat.le_refl _)) (ris_ls q 65536 (Nat.le_refl _))] at o
  have e1 : ls (fun i => fXor (mk (ls p 65536) i) (mk (ls q 65536) i)) 65536 = ls (fun x => fXor (p x) (q x)) 65536 := ls_ext fun j hj => by rw [mk_ls p hj, mk_ls q hj]
  rw [e1] at o
  have s := o.sl.more (Nat.zero_le _) (Nat.le_refl _)
  obtain ⟨A, c, rfl, -⟩ := o.sl
  rw [ls_ct, hn] at s ⊢
  exact ⟨A, c, rfl, s, b⟩
end Go.Proofs.YtfefmlnlicilbaaGreatDoor
/- Runs: And, Or, AndNot (cut from stages 4 to 6) -/
namespace Go.Proofs.YtfefmlnlicilbaaGreatDoor
open Go.RowKit
set_option linter.unusedVariables false

theorem rand_says (x y : Bool) (W : World) : Calls Tryz.prog 84 #[.bool x, .bool y] W fun e w' => e = .returned (.bool (fAnd x y)) ∧ w' = W := by
  cases x <;> cases y <;>
    (go_enter Tryz.func84, Tryz.ntmps84
     go_wp2
     go_ret
     exact ⟨rfl, rfl⟩)
set_option maxHeartbeats 400000 in
theorem rand_any (v u : Value) (A B : List Rn) (w : World) (hv : Gs2 eR w 0 w.heap.size v A) (hu : Gs2 eR w 0 w.heap.size u B) (hA : A.length ≤ 100000) (hB : B.length ≤ 100000) :
    Calls Tryz.prog 37 #[v, u] w fun e w' => ∃ v', e = .returned v' ∧ Gw2 eR w' w.heap.size v' (pd fAnd A B) ∧ Below w.heap.size w w' := by
  have T := Lib.hid (rpaired_any 84 (enters_of Tryz.func84 (by kernel_rfl) rfl) fAnd rand_says v u A B w hv hu hA hB)
  clear hv hu hA hB
  go_enter Tryz.func37, Tryz.ntmps37
  go_wp2_with (go_at_call 83; refine T.out.mono ?_; rintro e w1 ⟨v1, rfl, o1, b1⟩; have O1 := Lib.hid o1; have B1 := Lib.hid b1; clear o1 b1)
  go_ret
  exact ⟨_, rfl, O1.out, B1.out⟩
theorem ror_says (x y : Bool) (W : World) : Calls Tryz.prog 88 #[.bool x, .bool y] W fun e w' => e = .returned (.bool (fOr x y)) ∧ w' = W := by
  cases x <;> cases y <;>
    (go_enter Tryz.func88, Tryz.ntmps88
     go_wp2
     go_ret
     exact ⟨rfl, rfl⟩)
set_option maxHeartbeats 400000 in
theorem ror_any (v u : Value) (A B : List Rn) (w : World) (hv : Gs2 eR w 0 w.heap.size v A) (hu : Gs2 eR w 0 w.heap.size u B) (hA : A.length ≤ 100000) (hB : B.length ≤ 100000) :
    Calls Tryz.prog 41 #[v, u] w fun e w' => ∃ v', e = .returned v' ∧ Gw2 eR w' w.heap.size v' (pd fOr A B) ∧ Below w.heap.size w w' := by
  have T := Lib.hid (rpaired_any 88 (enters_of Tryz.func88 (by kernel_rfl) rfl) fOr ror_says v u A B w hv hu hA hB)
  clear hv hu hA hB
  go_enter Tryz.func41, Tryz.ntmps41
  go_wp2_with (go_at_call 83; refine T.out.mono ?_; rintro e w1 ⟨v1, rfl, o1, b1⟩; have O1 := Lib.hid o1; have B1 := Lib.hid b1; clear o1 b1)
  go_ret
  exact ⟨_, rfl, O1.out, B1.out⟩
theorem rnot_says (x y : Bool) (W : World) : Calls Tryz.prog 91 #[.bool x, .bool y] W fun e w' => e = .returned (.bool (fNot x y)) ∧ w' = W := by
  cases x <;> cases y <;>
    (go_enter Tryz.func91, Tryz.ntmps91
     go_wp2
     go_ret
     exact ⟨rfl, rfl⟩)
set_option maxHeartbeats 400000 in
theorem rnot_any (v u : Value) (A B : List Rn) (w : World) (hv : Gs2 eR w 0 w.heap.size v A) (hu : Gs2 eR w 0 w.heap.size u B) (hA : A.length ≤ 100000) (hB : B.length ≤ 100000) :
    Calls Tryz.prog 44 #[v, u] w fun e w' => ∃ v', e = .returned v' ∧ Gw2 eR w' w.heap.size v' (pd fNot A B) ∧ Below w.heap.size w w' := by
  have T := Lib.hid (rpaired_any 91 (enters_of Tryz.func91 (by kernel_rfl) rfl) fNot rnot_says v u A B w hv hu hA hB)
  clear hv hu hA hB
  go_enter Tryz.func44, Tryz.ntmps44
  go_wp2_with (go_at_call 83; refine T.out.mono ?_; rintro e w1 ⟨v1, rfl, o1, b1⟩; have O1 := Lib.hid o1; have B1 := Lib.hid b1; clear o1 b1)
  go_ret
  exact ⟨_, rfl, O1.out, B1.out⟩
end Go.Proofs.YtfefmlnlicilbaaGreatDoor
/- Runs: May (cut from stages 4 to 6) -/
namespace Go.Proofs.YtfefmlnlicilbaaGreatDoor
open Go.RowKit
set_option linter.unusedVariables false

set_option maxHeartbeats 1000000 in
theorem rmay_any (v : Value) (A : List Rn) (w : World) (hv : Gs2 eR w 0 w.heap.size v A) :
    Calls Tryz.prog 76 #[v] w fun e w' => e = .returned (.bool (mayr 0 A)) ∧ Below w.heap.size w w' := by
  have hlen := hv.len
  have HV := Lib.hid hv
  obtain ⟨A1, c1, rfl, -⟩ := hv
  obtain ⟨R, hR⟩ : ∃ R, R = mayr 0 A := ⟨_, rfl⟩
  rw [← hR]
  have HR := Lib.hid hR
  clear hR
  go_enter Tryz.func76, Tryz.ntmps76
  go_wp2
  go_loopw [3, 8] (fun n i wr => ∃ k m : Nat, k ≤ A.length ∧ m ≤ 65538 ∧ n = .int .i64 m ∧ i = .int .i64 k ∧ Hid (mayr m (A.drop k) = R) ∧ Below w.heap.size w wr) (fun _ i _ => A.length - (intOf i).toNat)
  case atStart => exact ⟨0, 0, Nat.zero_le _, by omega, rfl, rfl, HR.out.symm, Below.refl _ _⟩
  case round =>
    obtain ⟨k, m, hk, hmb, rfl, rfl, hmr, hbl⟩ := hrel
    have HB := Lib.hid hbl
    by_cases hlt : k < A.length
    · obtain ⟨b, off, r, e1, -, hb, hdr, hg, c0, c2⟩ := gs2_at HV.out hlt
      subst e1
      rw [← hbl.cell (p := ⟨b, off + k * 2, none⟩) hb] at c0
      rw [← hbl.cell (p := ⟨b, off + k * 2 + 1, none⟩) hb] at c2
      have hmr2 := hmr.out
      rw [hdr] at hmr2
      have hf := u16_lt r.1
      have hm := u16_lt r.2
      obtain ⟨f, hfe⟩ : ∃ f, f = r.1.toNat := ⟨_, rfl⟩
      obtain ⟨q, hqe⟩ : ∃ q, q = r.2.toNat := ⟨_, rfl⟩
      rw [← hfe] at c0 hf
      rw [← hqe] at c2 hm
      have HF := Lib.hid hf
      have HQ := Lib.hid hm
      have hlr : lst r = f + q := by unfold lst; rw [← hfe, ← hqe]
      have hbw : Below w.heap.size w (wr.alloc (.cells #[.int .u16 (f : Int), .int .u16 (q : Int)] 92)) := hbl.alloc hbl.size _
      have HBW := Lib.hid hbw
      have hsz := hbl.size
      by_cases h1 : f < m
      · have hR : R = false := by
          rw [← hmr2]
          unfold mayr
          rw [decide_eq_false (by rw [← hfe]; omega), Bool.false_and]
        have HRF := Lib.hid hR
        have h1' : (f : Int) < m := by omega
        clear hbl hmr hdr hg hmr2 hR hfe hqe hlr hbw h1
        go_wp2
        go_ret
        exact ⟨by rw [HRF.out]; rfl, HBW.out⟩
      · have h1' : decide ((f : Int) < m) = false := decide_eq_false (by omega)
        have h1n : ¬ ((f : Int) < m) := by omega
        by_cases h2 : 65536 < f + (q + 1)
        · have hR : R = false := by
            rw [← hmr2]
            unfold mayr
            rw [decide_eq_false (p := lst r ≤ 65535) (by omega), Bool.false_and, Bool.and_false]
          have HRF := Lib.hid hR
          have h2' : (65536 : Int) < (f : Int) + ((q : Int) + 1) := by omega
          clear hbl hmr hdr hg hmr2 hR hfe hqe hlr hbw h1 h2
          go_wp2_with (go_at_call 108; refine (end_any f q HF.out HQ.out _).mono ?_; rintro e w9 ⟨rfl, b9⟩; have k0 := (b9.cell (p := ⟨wr.heap.size, 0, none⟩) (by simp)).trans (show _ = some (.int .u16 (f : Int)) by simp); have k1 := (b9.cell (p := ⟨wr.heap.size, 1, none⟩) (by simp)).trans (show _ = some (.int .u16 (q : Int)) by simp); have B9 := Lib.hid b9; clear b9)
          go_ret
          exact ⟨by rw [HRF.out]; rfl, below_both HBW.out B9.out⟩
        · have hR : mayr (f + q + 2) (A.drop (k + 1)) = R := by
            rw [← hmr2, ← hlr]
            rw [mayr_eq, decide_eq_true (p := m ≤ r.1.toNat) (by rw [← hfe]; omega), decide_eq_true (p := lst r ≤ 65535) (by omega), Bool.true_and, Bool.true_and]
          have HRF := Lib.hid hR
          have h2' : decide ((65536 : Int) < (f : Int) + ((q : Int) + 1)) = false := decide_eq_false (by omega)
          have h2i : (f : Int) + ((q : Int) + 1) ≤ 65536 := by omega
          have h2n : ¬ ((65536 : Int) < (f : Int) + ((q : Int) + 1)) := by omega
          clear hbl hmr hdr hg hmr2 hR hfe hqe hlr hbw h1 h2
          go_wp2_with fail
          go_at_call 108
          refine (end_any f q HF.out HQ.out _).mono ?_
          rintro e w9 ⟨rfl, b9⟩
          have k0 := (b9.cell (p := ⟨wr.heap.size, 0, none⟩) (by simp)).trans (show _ = some (.int .u16 (f : Int)) by simp)
          have k1 := (b9.cell (p := ⟨wr.heap.size, 1, none⟩) (by simp)).trans (show _ = some (.int .u16 (q : Int)) by simp)
          have B9 := Lib.hid b9
          clear b9
          go_wp2_with fail
          go_at_call 108
          refine (end_any f q HF.out HQ.out _).mono ?_
          rintro e w8 ⟨rfl, b8⟩
          have B8 := Lib.hid b8
          clear b8
          go_wp2
          refine ⟨⟨k + 1, f + q + 2, by omega, by omega, by go_num, by go_num, HRF.out, below_both (below_both HBW.out B9.out) B8.out⟩, by simp [intOf]; omega⟩
    · obtain rfl : k = A.length := by omega
      have hR := hmr.out
      rw [List.drop_length] at hR
      have HRF := Lib.hid (show R = true from hR.symm)
      clear hbl hmr hR
      go_wp2
      go_ret
      exact ⟨by rw [HRF.out]; rfl, HB.out⟩
end Go.Proofs.YtfefmlnlicilbaaGreatDoor
/- The document's runs of marks (cut from stages 4 to 6) -/
namespace Go.Proofs.YtfefmlnlicilbaaGreatDoor
open Go.RowKit
set_option linter.unusedVariables false

theorem rs_succ (p : Nat → Bool) (n : Nat) : rs p (n + 1) = if p n = true then (if (decide (0 < n) && p (n - 1)) = true then bump (rs p n) else rs p n ++ [(UInt16.ofNat n, 0)]) else rs p n := rfl
theorem rs_len_le (p : Nat → Bool) (n : Nat) (h : n ≤ 65536) : (rs p n).length ≤ n := by
  rw [(rs_inv p n h).2.2.2]
  exact ct_le' _ _
theorem rs_last (p : Nat → Bool) (n : Nat) (h : n ≤ 65536) (h0 : 0 < n) (hp : p (n - 1) = true) : ∃ L r, rs p n = L ++ [r] := by
  obtain ⟨L, r, e, -⟩ := (rs_inv p n h).2.2.1 (by rw [decide_eq_true h0, hp]; rfl)
  exact ⟨L, r, e⟩
set_option maxHeartbeats 8000000 in
set_option maxRecDepth 100000 in
theorem refruns_any (g : Nat) (p : Nat → Bool) (w : World) (h : Row w g 65 (mA 65536 p)) :
    Calls Tryz.prog 34 #[.pointer (some ⟨g, 0, none⟩)] w fun e w' => ∃ v', e = .returned v' ∧ Gw2 eR w' w.heap.size v' (rs p 65536) ∧ Below w.heap.size w w' := by
  have HH := Lib.hid h
  have hg := h.lt
  obtain ⟨R, hR⟩ : ∃ R, R = rs p 65536 := ⟨_, rfl⟩
  rw [← hR]
  have HR := Lib.hid hR
  clear h hR
  go_enter Tryz.func34, Tryz.ntmps34
  go_wp2
  go_loopw [3, 4] (fun s i wr => ∃ k : Nat, k ≤ 65536 ∧ i = .int .i64 k ∧ Gw2 eR wr w.heap.size s (rs p k) ∧ Below w.heap.size w wr) (fun _ i _ => ((65536 : Int) - intOf i).toNat)
  case atStart => exact ⟨0, Nat.zero_le _, rfl, Gw2.nil_ _ _, Below.refl _ _⟩
  case round =>
    obtain ⟨k, hk, rfl, own, hbl⟩ := hrel
    have HO := Lib.hid own
    have HB := Lib.hid hbl
    by_cases hlt : k < 65536
    · have hki : (k : Int) < 65536 := by omega
      have c0 : wr.cell? ⟨g, k, none⟩ = some (.bool (p k)) := by rw [(HH.out.below hbl hg).cell, mA_at _ _ _ hlt]
      have HLN := Lib.hid (rs_len_le p k hk)
      cases hp : p k with
      | false =>
        have HN := Lib.hid (show rs p (k + 1) = rs p k by rw [rs_succ, hp]; rfl)
        rw [hp] at c0
        have hk65 := Lib.hid hlt
        clear own hbl hp hlt hk
        go_wp2
        refine ⟨⟨k + 1, hk65.out, by go_num, by rw [HN.out]; exact HO.out, HB.out⟩, by have := hk65.out; simp [intOf]; omega⟩
      | true =>
        rw [hp] at c0
        have hk65 := Lib.hid hlt
        by_cases hb : 0 < k ∧ p (k - 1) = true
        · obtain ⟨m, rfl⟩ : ∃ m, k = m + 1 := ⟨k - 1, by omega⟩
          have hpm : p m = true := hb.2
          obtain ⟨L, r, hLr⟩ := rs_last p (m + 1) hk (by omega) hpm
          have hn : rs p (m + 1 + 1) = bump (L ++ [r]) := by rw [rs_succ, hp, decide_eq_true (p := 0 < m + 1) (by omega), Nat.add_sub_cancel, hpm, hLr]; rfl
          have c1 : wr.cell? ⟨g, m, none⟩ = some (.bool true) := by rw [(HH.out.below hbl hg).cell, mA_at _ _ _ (by omega), hpm]
          rw [hLr] at own HLN
          obtain ⟨bb, c3, rfl, -, -, hge, -, hcell, hfr⟩ := own.form (by simp)
          have hL : (L ++ [r]).length = L.length + 1 := by simp
          have q2 := (hcell L.length r (by simp)).2
          have q3 := hfr (L.length * 2 + 1)
          rw [Nat.mul_comm 2] at q2
          rw [hL] at own HLN
          simp only [hL] at HO ⊢
          have HN := Lib.hid hn
          have OW := Lib.hid own
          have HGE := Lib.hid hge
          have WM := Lib.hid (wrap_more r.2)
          simp only [eR] at q2
          have hLi : (L.length : Int) ≤ 65536 := by have := HLN.out; omega
          have w1 : IntKind.i64.wrap ((m : Int) + 1 - 1) = (m : Int) := by rw [IntKind.wrap_i64]; omega
          have q3 : decide ((m : Int) + 1 < 65536) = true := decide_eq_true (by omega)
          have hk3 : (m : Int) ≤ 65534 := by omega
          have w3 : IntKind.i64.wrap (((L.length + 1 : Nat) : Int) - 1) = (L.length : Int) := by simp [IntKind.wrap, IntKind.bits, IntKind.signed]; omega
          clear HO own hbl hn hLr hL hcell hfr hge hp hpm hb hlt hk hki
          go_wp2
          rw [WM.out]
          refine ⟨⟨m + 1 + 1, hk65.out, by go_num, by rw [HN.out]; exact bumped OW.out rfl _ rfl, HB.out.grown (grown_set _ _ _ _) HB.out.size (fun j hj => by injection hj with hj; subst hj; exact HGE.out)⟩, by have := hk65.out; simp [intOf]; omega⟩
        · have hn : rs p (k + 1) = rs p k ++ [(UInt16.ofNat k, 0)] := by
            rw [rs_succ, hp, if_pos rfl, if_neg]
            intro hc
            rw [Bool.and_eq_true, decide_eq_true_eq] at hc
            exact hb hc
          have HN := Lib.hid hn
          have HX := Lib.hid (show IntKind.u16.wrap (k : Int) = ((UInt16.ofNat k).toNat : Int) by rw [u16_of k hlt]; simp [IntKind.wrap, IntKind.bits, IntKind.signed]; omega)
          by_cases h0 : k = 0
          · subst h0
            clear own hbl hp hn hb hlt hk hki
            go_wp2_with (at_builtin; refine wpList_gapp2_one eR _ rfl _ _ _ rfl w.heap.size sliR infR _ _ rfl HO.out _ _ (UInt16.ofNat 0, 0) rfl rfl rfl (by have := HLN.out; omega) HB.out.size ?_; intro v2 w2 o2 g2 _; have O2 := Lib.hid o2; have G2 := Lib.hid g2; clear o2 g2)
            refine ⟨⟨1, by omega, by first | rfl | go_num, by rw [HN.out]; exact O2.out, HB.out.grown G2.out HB.out.size (fun j hj => (HO.out.lt j hj).1)⟩, by simp [intOf]; try omega⟩
          · obtain ⟨m, rfl⟩ : ∃ m, k = m + 1 := ⟨k - 1, by omega⟩
            have hpm : p m = false := by
              rw [Bool.eq_false_iff]
              intro hc
              exact hb ⟨by omega, hc⟩
            have c1 : wr.cell? ⟨g, m, none⟩ = some (.bool false) := by rw [(HH.out.below hbl hg).cell, mA_at _ _ _ (by omega), hpm]
            have w1 : IntKind.i64.wrap ((m : Int) + 1 - 1) = (m : Int) := by rw [IntKind.wrap_i64]; omega
            have q3 : decide ((m : Int) + 1 < 65536) = true := decide_eq_true (by omega)
            have hk3 : (m : Int) ≤ 65534 := by omega
            have HX2 := Lib.hid (show (m : Int) + 1 = ((UInt16.ofNat (m + 1)).toNat : Int) by rw [u16_of (m + 1) hlt]; push_cast; rfl)
            have w5 : IntKind.u16.wrap ((m : Int) + 1) = (m : Int) + 1 := by simp [IntKind.wrap, IntKind.bits, IntKind.signed]; omega
            clear own hbl hp hn hb h0 hlt hk hpm hki
            go_wp2_with (at_builtin; refine wpList_gapp2_one eR _ rfl _ _ _ rfl w.heap.size sliR infR _ _ rfl HO.out _ _ (UInt16.ofNat (m + 1), 0) (by exact congrArg (Value.int IntKind.u16) HX2.out) rfl rfl (by have := HLN.out; have := hk65.out; omega) HB.out.size ?_; intro v2 w2 o2 g2 _; have O2 := Lib.hid o2; have G2 := Lib.hid g2; clear o2 g2)
            refine ⟨⟨m + 1 + 1, hk65.out, by go_num, by rw [HN.out]; exact O2.out, HB.out.grown G2.out HB.out.size (fun j hj => (HO.out.lt j hj).1)⟩, by have := hk65.out; simp [intOf]; omega⟩
    · obtain rfl : k = 65536 := by omega
      rw [← HR.out] at own
      have HO := Lib.hid own
      clear own hbl
      go_wp2
      go_ret
      exact ⟨_, rfl, HO.out, HB.out⟩
end Go.Proofs.YtfefmlnlicilbaaGreatDoor
namespace Go.Proofs.YtfefmlnlicilbaaGreatDoor
open Go.RowKit
set_option linter.unusedVariables false

theorem land (v u : Value) (A B R : List Rn) (w : World) (hv : Gs2 eR w 0 w.heap.size v A) (hu : Gs2 eR w 0 w.heap.size u B) (hA : mayr 0 A = true) (hB : mayr 0 B = true) (hR : pd fAnd A B = R) :
    Calls Tryz.prog 37 #[v, u] w fun e w' => ∃ A' c, e = .returned (.slice A' R.length c) ∧ Gs2 eR w' 0 w'.heap.size (.slice A' R.length c) R ∧ Below w.heap.size w w' := by
  refine (rand_any v u A B w hv hu (Nat.le_trans (mayr_len hA) (by omega)) (Nat.le_trans (mayr_len hB) (by omega))).mono ?_
  rintro e w' ⟨v', rfl, o, b⟩
  rw [hR] at o
  have s := o.sl.more (Nat.zero_le _) (Nat.le_refl _)
  obtain ⟨A', c, rfl, -⟩ := o.sl
  exact ⟨A', c, rfl, s, b⟩
theorem lor (v u : Value) (A B R : List Rn) (w : World) (hv : Gs2 eR w 0 w.heap.size v A) (hu : Gs2 eR w 0 w.heap.size u B) (hA : mayr 0 A = true) (hB : mayr 0 B = true) (hR : pd fOr A B = R) :
    Calls Tryz.prog 41 #[v, u] w fun e w' => ∃ A' c, e = .returned (.slice A' R.length c) ∧ Gs2 eR w' 0 w'.heap.size (.slice A' R.length c) R ∧ Below w.heap.size w w' := by
  refine (ror_any v u A B w hv hu (Nat.le_trans (mayr_len hA) (by omega)) (Nat.le_trans (mayr_len hB) (by omega))).mono ?_
  rintro e w' ⟨v', rfl, o, b⟩
  rw [hR] at o
  have s := o.sl.more (Nat.zero_le _) (Nat.le_refl _)
  obtain ⟨A', c, rfl, -⟩ := o.sl
  exact ⟨A', c, rfl, s, b⟩
theorem lnot (v u : Value) (A B R : List Rn) (w : World) (hv : Gs2 eR w 0 w.heap.size v A) (hu : Gs2 eR w 0 w.heap.size u B) (hA : mayr 0 A = true) (hB : mayr 0 B = true) (hR : pd fNot A B = R) :
    Calls Tryz.prog 44 #[v, u] w fun e w' => ∃ A' c, e = .returned (.slice A' R.length c) ∧ Gs2 eR w' 0 w'.heap.size (.slice A' R.length c) R ∧ Below w.heap.size w w' := by
  refine (rnot_any v u A B w hv hu (Nat.le_trans (mayr_len hA) (by omega)) (Nat.le_trans (mayr_len hB) (by omega))).mono ?_
  rintro e w' ⟨v', rfl, o, b⟩
  rw [hR] at o
  have s := o.sl.more (Nat.zero_le _) (Nat.le_refl _)
  obtain ⟨A', c, rfl, -⟩ := o.sl
  exact ⟨A', c, rfl, s, b⟩
theorem lxor (v u : Value) (A B R : List Rn) (w : World) (hv : Gs2 eR w 0 w.heap.size v A) (hu : Gs2 eR w 0 w.heap.size u B) (hA : mayr 0 A = true) (hB : mayr 0 B = true) (hR : pd fXor A B = R) :
    Calls Tryz.prog 47 #[v, u] w fun e w' => ∃ A' c, e = .returned (.slice A' R.length c) ∧ Gs2 eR w' 0 w'.heap.size (.slice A' R.length c) R ∧ Below w.heap.size w w' := by
  refine (rxor_any v u A B w hv hu (Nat.le_trans (mayr_len hA) (by omega)) (Nat.le_trans (mayr_len hB) (by omega))).mono ?_
  rintro e w' ⟨v', rfl, o, b⟩
  rw [hR] at o
  have s := o.sl.more (Nat.zero_le _) (Nat.le_refl _)
  obtain ⟨A', c, rfl, -⟩ := o.sl
  exact ⟨A', c, rfl, s, b⟩
theorem lmay (v : Value) (A : List Rn) (w : World) (hv : Gs2 eR w 0 w.heap.size v A) (b : Bool) (h : mayr 0 A = b) :
    Calls Tryz.prog 76 #[v] w fun e w' => e = .returned (.bool b) ∧ Below w.heap.size w w' := by
  rw [← h]
  exact rmay_any v A w hv
end Go.Proofs.YtfefmlnlicilbaaGreatDoor
