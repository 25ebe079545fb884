/- Words: Of (cut from stages 4 to 6) -/
import Derived.Test.YtfefmlnlicilbaaDoorUE3
import Derived.BigRegion
import Derived.Shelf.Abstract
namespace Go.Proofs.YtfefmlnlicilbaaDoor
open Go.RowKit
set_option linter.unusedVariables false

theorem b64_of (n : Nat) (h : n < 18446744073709551616) : e64.val (UInt64.ofNat n) = .int .u64 (n : Int) := by
  simp only [e64, b64]
  rw [u64_of n h]
theorem wm_cell {w : World} {base b : Nat} {v : Value} {p : Nat → Bool} (h : Gw e64 w base v (wm p)) (hv : v = .slice (some ⟨b, 0, none⟩) 1024 1024) (i z : Nat) (hi : i < 1024) (hz : z = ((wm p).getD i 0).toNat) :
    w.cell? ⟨b, i, none⟩ = some (.int .u64 z) ∧ w.frozen? ⟨b, i, none⟩ = false := by
  subst hv
  have hne : wm p ≠ [] := by
    intro e
    have h2 := congrArg List.length e
    rw [wm_length, List.length_nil] at h2
    omega
  obtain ⟨b', cp', e', -, -, -, -, hcl, hfr⟩ := h.form hne
  have e1 : b = b' := by have := Option.some.inj (Value.slice.inj e').1; exact (Addr.mk.inj this).1
  subst e1
  refine ⟨?_, hfr i⟩
  have h3 := hcl i _ (wm_get p i hi)
  rw [h3, ← wm_getD p i hi, hz]
  rfl
theorem wm_stored {w : World} {base b : Nat} {p q : Nat → Bool} (h : Gw e64 w base (.slice (some ⟨b, 0, none⟩) 1024 1024) (wm p)) (i y : Nat) (hy : y < 18446744073709551616) (hi : i < 1024)
    (hq : ∀ x, x < 65536 → q x = if x / 64 = i then y.testBit (x % 64) else p x) : Gw e64 (w.setCell ⟨b, i, none⟩ (.int .u64 (y : Int))) base (.slice (some ⟨b, 0, none⟩) 1024 1024) (wm q) := by
  have h1 := h.stored i (UInt64.ofNat y)
  rw [b64_of y hy] at h1
  have e : (wm p).set i (UInt64.ofNat y) = wm q := by
    refine wm_of (by rw [List.length_set, wm_length]) fun x hx => ?_
    rw [wb_set _ _ _ (by rw [wm_length]; exact hi), hq x hx, u64_of y hy, wb_wm p x hx]
  rw [e] at h1
  exact h1
theorem two_lt (s : Nat) (hs : s < 64) : 2 ^ s < 18446744073709551616 := by
  have h1 : 2 ^ s ≤ 2 ^ 63 := Nat.pow_le_pow_right (by omega) (by omega)
  omega
theorem put_bit (z s : Nat) (hz : z < 18446744073709551616) (hs : s < 64) : bits .or .u64 (z : Int) (IntKind.u64.wrap (2 ^ s)) = ((z ||| 2 ^ s : Nat) : Int) := by
  have e : ((2 : Int) ^ s) = ((2 ^ s : Nat) : Int) := by push_cast; rfl
  rw [e, wrap_nat _ (two_lt s hs)]
  exact bits_or_u64_nat z (2 ^ s) hz (two_lt s hs)
theorem mk_take (l : List UInt16) (k : Nat) (h : k < l.length) (i : Nat) : mk (l.take (k + 1)) i = (mk (l.take k) i || decide ((at16 l k).toNat = i)) := by
  rw [List.take_add_one, at16_get h]
  simp [mk, List.any_append]
set_option maxHeartbeats 1000000 in
set_option maxRecDepth 100000 in
theorem wof_any (v : Value) (l : List UInt16) (lo : Nat) (w : World) (hv : Gs e16 w lo w.heap.size v l) :
    Calls Tryd.prog 79 #[v] w fun e w' => ∃ v', e = .returned v' ∧ Gw e64 w' w.heap.size v' (wm (mk l)) ∧ Below w.heap.size w w' := by
  have hlen := hv.len
  have HV := Lib.hid hv
  obtain ⟨A, c, rfl, -⟩ := hv
  go_enter Tryd.func79, Tryd.ntmps79
  go_wp2_with (at_make; refine wpList_gfull e64 _ rfl _ _ _ rfl sli64 inf64 _ _ _ _ 1024 rfl rfl rfl rfl (by omega) ?_; intro w1 o1 g1; have O1 := Lib.hid o1; have B1 := Lib.hid (below_of_grown g1 (fun k h => by cases h)); clear o1 g1)
  go_loopw [9] (fun i wr => ∃ k : Nat, k ≤ l.length ∧ i = .int .i64 k ∧ Gw e64 wr w.heap.size (.slice (some ⟨w.heap.size, 0, none⟩) 1024 1024) (wm (mk (l.take k))) ∧ Below w.heap.size w wr) (fun i _ => l.length - (intOf i).toNat)
  case atStart => exact ⟨0, Nat.zero_le _, rfl, by have := O1.out; rw [show e64.zero = (0 : UInt64) from rfl, wm_none] at this; exact this, B1.out⟩
  case round =>
    obtain ⟨k, hk, rfl, ok, hbl⟩ := hrel
    have OK := Lib.hid ok
    have HB := Lib.hid hbl
    by_cases hlt : k < l.length
    · obtain ⟨b, o, c, e1, -, -, -, hbk, hc⟩ := HV.out.form (by rintro rfl; simp at hlt)
      injection e1 with e1 _ e2
      subst e1 e2
      have k1 := hc k _ (at16_get hlt)
      simp only [e16, b16] at k1
      rw [← hbl.cell (p := ⟨b, o + k, none⟩) hbk] at k1
      have hx := u16_lt (at16 l k)
      obtain ⟨x, hxe⟩ : ∃ x : Nat, x = (at16 l k).toNat := ⟨_, rfl⟩
      rw [← hxe] at k1 hx
      obtain ⟨i, hi⟩ : ∃ i : Nat, i = x / 64 := ⟨_, rfl⟩
      have hi1 : i < 1024 := by omega
      have hs1 : x % 64 < 64 := by omega
      obtain ⟨z, hz⟩ : ∃ z : Nat, z = ((wm (mk (l.take k))).getD i 0).toNat := ⟨_, rfl⟩
      obtain ⟨c1, c2⟩ := wm_cell ok rfl i z hi1 hz
      have hz1 : z < 18446744073709551616 := by rw [hz]; exact u64_lt _
      have hput := put_bit z (x % 64) hz1 hs1
      have hy1 := or_lt hz1 (two_lt (x % 64) hs1)
      have hq : ∀ x', x' < 65536 → mk (l.take (k + 1)) x' = if x' / 64 = i then (z ||| 2 ^ (x % 64)).testBit (x' % 64) else mk (l.take k) x' := by
        intro x' hx'
        rw [mk_take l k hlt, ← hxe]
        by_cases he : x' / 64 = i
        · rw [if_pos he, Nat.testBit_or, hz, wm_word _ i hi1, wn_bit, Nat.testBit_two_pow, decide_eq_true (show x' % 64 < 64 by omega), Bool.true_and]
          have e1 : 64 * i + x' % 64 = x' := by omega
          rw [e1]
          congr 1
          exact decide_eq_decide.2 (by omega)
        · rw [if_neg he, decide_eq_false (by omega), Bool.or_false]
      have d1 : IntKind.u16.wrap ((x : Int) / 64) = (i : Int) := by simp [IntKind.wrap, IntKind.bits, IntKind.signed]; omega
      have hii : (i : Int) < 1024 := by omega
      have HP := Lib.hid hput
      have HY := Lib.hid hy1
      have HQ := Lib.hid hq
      have HI := Lib.hid hi1
      clear hc hxe hx hi hz hz1 hput hy1 hq ok hbl hi1 hbk hs1
      go_wp2
      rw [HP.out]
      refine ⟨⟨k + 1, hlt, by go_num, wm_stored OK.out i _ HY.out HI.out HQ.out, HB.out.grown (grown_set _ _ _ _) HB.out.size (fun j h => by injection h with h; subst h; exact Nat.le_refl _)⟩, by simp [intOf]; omega⟩
    · obtain rfl : k = l.length := by omega
      rw [List.take_length] at ok
      have OK := Lib.hid ok
      clear ok hbl
      go_wp2
      go_ret
      exact ⟨_, rfl, OK.out, HB.out⟩
def pp (f : Nat → Bool) (k x : Nat) : Bool := decide (x < 64 * k) && f x
theorem pp_step (f : Nat → Bool) (k y : Nat) (hy : ∀ j, j < 64 → y.testBit j = f (64 * k + j)) : ∀ x, x < 65536 → pp f (k + 1) x = if x / 64 = k then y.testBit (x % 64) else pp f k x := by
  intro x hx
  unfold pp
  by_cases h : x / 64 = k
  · have e1 : 64 * k + x % 64 = x := by omega
    rw [if_pos h, hy _ (by omega), e1, decide_eq_true (by omega), Bool.true_and]
  · rw [if_neg h]
    congr 1
    exact decide_eq_decide.2 (by omega)
theorem pp_all (f : Nat → Bool) : wm (pp f 1024) = wm f := wm_ext fun x hx => by
  unfold pp
  rw [decide_eq_true (by omega), Bool.true_and]
theorem pp_none (f : Nat → Bool) : wm (fun _ => false) = wm (pp f 0) := wm_ext fun x hx => by
  unfold pp
  rw [decide_eq_false (by omega), Bool.false_and]
end Go.Proofs.YtfefmlnlicilbaaDoor
