/- Runs in the form of laws (cut from stages 4 to 6) -/
import Derived.Test.YtponcpneflhpfaaGreatDoorSa9
import Derived.BigRegion
import Derived.Shelf.Abstract
import Derived.Test.YtponcpneflhpfaaGreatDoorSa7
import Derived.Lib.AppendZeros
import Derived.Deep.RegionWith
import Derived.Test.YtponcpneflhpfaaGreatDoorProg
import Derived.Deep.WholeRow
import Derived.Deep.MidRow
import Derived.Deep.LoopGhost
namespace Go.Proofs.YtponcpneflhpfaaGreatDoor
open Go.RowKit
set_option linter.unusedVariables false

theorem b64_of (n : Nat) (h : n < 18446744073709551616) : e64.val (UInt64.ofNat n) = .int .u64 (n : Int) := by
  simp only [e64, b64]
  rw [u64_of n h]
theorem wm_cell {w : World} {base b : Nat} {v : Value} {p : Nat → Bool} (h : Gw e64 w base v (wm p)) (hv : v = .slice (some ⟨b, 0, none⟩) 1024 1024) (i z : Nat) (hi : i < 1024) (hz : z = ((wm p).getD i 0).toNat) :
    w.cell? ⟨b, i, none⟩ = some (.int .u64 z) ∧ w.frozen? ⟨b, i, none⟩ = false := by
  subst hv
  have hne : wm p ≠ [] := by
    intro e
    have h2 := congrArg List.length e
    rw [wm_length, List.length_nil] at h2
    omega
  obtain ⟨b', cp', e', -, -, -, -, hcl, hfr⟩ := h.form hne
  have e1 : b = b' := by have := Option.some.inj (Value.slice.inj e').1; exact (Addr.mk.inj this).1
  subst e1
  refine ⟨?_, hfr i⟩
  have h3 := hcl i _ (wm_get p i hi)
  rw [h3, ← wm_getD p i hi, hz]
  rfl
theorem wm_stored {w : World} {base b : Nat} {p q : Nat → Bool} (h : Gw e64 w base (.slice (some ⟨b, 0, none⟩) 1024 1024) (wm p)) (i y : Nat) (hy : y < 18446744073709551616) (hi : i < 1024)
    (hq : ∀ x, x < 65536 → q x = if x / 64 = i then y.testBit (x % 64) else p x) : Gw e64 (w.setCell ⟨b, i, none⟩ (.int .u64 (y : Int))) base (.slice (some ⟨b, 0, none⟩) 1024 1024) (wm q) := by
  have h1 := h.stored i (UInt64.ofNat y)
  rw [b64_of y hy] at h1
  have e : (wm p).set i (UInt64.ofNat y) = wm q := by
    refine wm_of (by rw [List.length_set, wm_length]) fun x hx => ?_
    rw [wb_set _ _ _ (by rw [wm_length]; exact hi), hq x hx, u64_of y hy, wb_wm p x hx]
  rw [e] at h1
  exact h1
theorem two_lt (s : Nat) (hs : s < 64) : 2 ^ s < 18446744073709551616 := by
  have h1 : 2 ^ s ≤ 2 ^ 63 := Nat.pow_le_pow_right (by omega) (by omega)
  omega
theorem put_bit (z s : Nat) (hz : z < 18446744073709551616) (hs : s < 64) : bits .or .u64 (z : Int) (IntKind.u64.wrap (2 ^ s)) = ((z ||| 2 ^ s : Nat) : Int) := by
  have e : ((2 : Int) ^ s) = ((2 ^ s : Nat) : Int) := by push_cast; rfl
  rw [e, wrap_nat _ (two_lt s hs)]
  exact bits_or_u64_nat z (2 ^ s) hz (two_lt s hs)
theorem mk_take (l : List UInt16) (k : Nat) (h : k < l.length) (i : Nat) : mk (l.take (k + 1)) i = (mk (l.take k) i || decide ((at16 l k).toNat = i)) := by
  rw [List.take_add_one, at16_get h]
  simp [mk, List.any_append]
set_option maxHeartbeats 1000000 in
set_option maxRecDepth 100000 in
theorem wof_any (v : Value) (l : List UInt16) (lo : Nat) (w : World) (hv : Gs e16 w lo w.heap.size v l) :
    Calls Tryz.prog 171 #[v] w fun e w' => ∃ v', e = .returned v' ∧ Gw e64 w' w.heap.size v' (wm (mk l)) ∧ Below w.heap.size w w' := by
  have hlen := hv.len
  have HV := Lib.hid hv
  obtain ⟨A, c, rfl, -⟩ := hv
  go_enter Tryz.func171, Tryz.ntmps171
  go_wp2_with (at_make; refine wpList_gfull e64 _ rfl _ _ _ rfl sli64 inf64 _ _ _ _ 1024 rfl rfl rfl rfl (by omega) ?_; intro w1 o1 g1; have O1 := Lib.hid o1; have B1 := Lib.hid (below_of_grown g1 (fun k h => by cases h)); clear o1 g1)
  go_loopw [9] (fun i wr => ∃ k : Nat, k ≤ l.length ∧ i = .int .i64 k ∧ Gw e64 wr w.heap.size (.slice (some ⟨w.heap.size, 0, none⟩) 1024 1024) (wm (mk (l.take k))) ∧ Below w.heap.size w wr) (fun i _ => l.length - (intOf i).toNat)
  case atStart => exact ⟨0, Nat.zero_le _, rfl, by have := O1.out; rw [show e64.zero = (0 : UInt64) from rfl, wm_none] at this; exact this, B1.out⟩
  case round =>
    obtain ⟨k, hk, rfl, ok, hbl⟩ := hrel
    have OK := Lib.hid ok
    have HB := Lib.hid hbl
    by_cases hlt : k < l.length
    · obtain ⟨b, o, c, e1, -, -, -, hbk, hc⟩ := HV.out.form (by rintro rfl; simp at hlt)
      injection e1 with e1 _ e2
      subst e1 e2
      have k1 := hc k _ (at16_get hlt)
      simp only [e16, b16] at k1
      rw [← hbl.cell (p := ⟨b, o + k, none⟩) hbk] at k1
      have hx := u16_lt (at16 l k)
      obtain ⟨x, hxe⟩ : ∃ x : Nat, x = (at16 l k).toNat := ⟨_, rfl⟩
      rw [← hxe] at k1 hx
      obtain ⟨i, hi⟩ : ∃ i : Nat, i = x / 64 := ⟨_, rfl⟩
      have hi1 : i < 1024 := by omega
      have hs1 : x % 64 < 64 := by omega
      obtain ⟨z, hz⟩ : ∃ z : Nat, z = ((wm (mk (l.take k))).getD i 0).toNat := ⟨_, rfl⟩
      obtain ⟨c1, c2⟩ := wm_cell ok rfl i z hi1 hz
      have hz1 : z < 18446744073709551616 := by rw [hz]; exact u64_lt _
      have hput := put_bit z (x % 64) hz1 hs1
      have hy1 := or_lt hz1 (two_lt (x % 64) hs1)
      have hq : ∀ x', x' < 65536 → mk (l.take (k + 1)) x' = if x' / 64 = i then (z ||| 2 ^ (x % 64)).testBit (x' % 64) else mk (l.take k) x' := by
        intro x' hx'
        rw [mk_take l k hlt, ← hxe]
        by_cases he : x' / 64 = i
        · rw [if_pos he, Nat.testBit_or, hz, wm_word _ i hi1, wn_bit, Nat.testBit_two_pow, decide_eq_true (show x' % 64 < 64 by omega), Bool.true_and]
          have e1 : 64 * i + x' % 64 = x' := by omega
          rw [e1]
          congr 1
          exact decide_eq_decide.2 (by omega)
        · rw [if_neg he, decide_eq_false (by omega), Bool.or_false]
      have d1 : IntKind.u16.wrap ((x : Int) / 64) = (i : Int) := by simp [IntKind.wrap, IntKind.bits, IntKind.signed]; omega
      have hii : (i : Int) < 1024 := by omega
      have HP := Lib.hid hput
      have HY := Lib.hid hy1
      have HQ := Lib.hid hq
      have HI := Lib.hid hi1
      clear hc hxe hx hi hz hz1 hput hy1 hq ok hbl hi1 hbk hs1
      go_wp2
      rw [HP.out]
      refine ⟨⟨k + 1, hlt, by go_num, wm_stored OK.out i _ HY.out HI.out HQ.out, HB.out.grown (grown_set _ _ _ _) HB.out.size (fun j h => by injection h with h; subst h; exact Nat.le_refl _)⟩, by simp [intOf]; omega⟩
    · obtain rfl : k = l.length := by omega
      rw [List.take_length] at ok
      have OK := Lib.hid ok
      clear ok hbl
      go_wp2
      go_ret
      exact ⟨_, rfl, OK.out, HB.out⟩
def pp (f : Nat → Bool) (k x : Nat) : Bool := decide (x < 64 * k) && f x
theorem pp_step (f : Nat → Bool) (k y : Nat) (hy : ∀ j, j < 64 → y.testBit j = f (64 * k + j)) : ∀ x, x < 65536 → pp f (k + 1) x = if x / 64 = k then y.testBit (x % 64) else pp f k x := by
  intro x hx
  unfold pp
  by_cases h : x / 64 = k
  · have e1 : 64 * k + x % 64 = x := by omega
    rw [if_pos h, hy _ (by omega), e1, decide_eq_true (by omega), Bool.true_and]
  · rw [if_neg h]
    congr 1
    exact decide_eq_decide.2 (by omega)
theorem pp_all (f : Nat → Bool) : wm (pp f 1024) = wm f := wm_ext fun x hx => by
  unfold pp
  rw [decide_eq_true (by omega), Bool.true_and]
theorem pp_none (f : Nat → Bool) : wm (fun _ => false) = wm (pp f 0) := wm_ext fun x hx => by
  unfold pp
  rw [decide_eq_false (by omega), Bool.false_and]
end Go.Proofs.YtponcpneflhpfaaGreatDoor
namespace Go.Proofs.YtponcpneflhpfaaGreatDoor
open Go.RowKit
set_option linter.unusedVariables false

theorem ris_short {l : List UInt16} (h : l.length ≤ 1) : ris l = true := by
  match l, h with
  | [], _ => rfl
  | [_], _ => rfl
  | _ :: _ :: _, h => simp at h
theorem ris_drop {l : List UInt16} {k : Nat} (h : k + 1 < l.length) : ris (l.drop k) = (decide ((at16 l k).toNat < (at16 l (k + 1)).toNat) && ris (l.drop (k + 1))) := by
  rw [drop_at (Nat.lt_of_succ_lt h), drop_at h, ris]
set_option maxHeartbeats 400000 in
theorem may_any (v : Value) (l : List UInt16) (lo hi : Nat) (W : World) (hv : Gs e16 W lo hi v l) :
    Calls Tryz.prog 97 #[v] W fun e w' => e = .returned (.bool (ris l)) ∧ ∃ n, w' = W.drewN n := by
  have hlen := hv.len
  have hv0 := hv
  obtain ⟨A, c, rfl, -⟩ := hv
  have HV := Lib.hid hv0
  clear hv0
  go_enter Tryz.func97, Tryz.ntmps97
  go_wp2
  go_loopw [3] (fun i wr => ∃ k m : Nat, (k + 1 ≤ l.length ∨ k = 0) ∧ i = .int .i64 ((k : Int) + 1) ∧ wr = W.drewN m ∧ ris l = ris (l.drop k)) (fun i _ => l.length + 1 - (intOf i).toNat)
  case atStart => exact ⟨0, 0, .inr rfl, rfl, rfl, rfl⟩
  case round =>
    obtain ⟨k, m, hk, rfl, rfl, hr⟩ := hrel
    by_cases hlt : k + 1 < l.length
    · obtain ⟨b, o, c, e1, -, -, -, -, hc⟩ := HV.out.form (by rintro rfl; simp at hlt)
      injection e1 with e1 _ e2
      subst e1 e2
      have k1 := hc k _ (at16_get (by omega))
      have k2 := hc (k + 1) _ (at16_get hlt)
      have hd := ris_drop hlt
      simp only [e16, b16] at k1 k2
      obtain ⟨x, hx⟩ : ∃ x : Int, x = ((at16 l k).toNat : Int) := ⟨_, rfl⟩
      obtain ⟨y, hy⟩ : ∃ y : Int, y = ((at16 l (k + 1)).toNat : Int) := ⟨_, rfl⟩
      have hxy : ((at16 l k).toNat < (at16 l (k + 1)).toNat) ↔ x < y := by omega
      rw [← hx] at k1
      rw [← hy] at k2
      clear hc hx hy
      have w1 : IntKind.i64.wrap ((k : Int) + 1 - 1) = (k : Int) := by rw [IntKind.wrap_i64]; omega
      have hlti : (k : Int) + 1 < (l.length : Int) := by omega
      by_cases hle : y ≤ x
      · have hF : ris l = false := by
          rw [hr, hd, decide_eq_false (by rw [hxy]; omega), Bool.false_and]
        have HF := Lib.hid hF
        clear hF hd hxy hr hk
        go_wp2
        go_quiet (fail)
        go_wp2
        go_ret
        exact ⟨by rw [HF.out]; rfl, _, World.drewN_drewN ..⟩
      · have hT : ris l = ris (l.drop (k + 1)) := by
          rw [hr, hd, decide_eq_true (by rw [hxy]; omega), Bool.true_and]
        have HT := Lib.hid hT
        clear hT hd hxy hr hk
        go_wp2
        go_quiet (fail)
        go_wp2
        go_roundw
        case rel => exact ⟨k + 1, _, .inl (by omega), by go_num, rfl, HT.out⟩
        case measure => simp [intOf]; omega
    · have hT : ris l = true := by
        rw [hr]
        exact ris_short (by simp; omega)
      have HT := Lib.hid hT
      have hge : decide ((k : Int) + 1 < (l.length : Int)) = false := decide_eq_false (by omega)
      clear hT hr hk
      go_wp2
      go_ret
      exact ⟨by rw [HT.out]; rfl, _, rfl⟩
end Go.Proofs.YtponcpneflhpfaaGreatDoor
namespace Go.Proofs.YtponcpneflhpfaaGreatDoor
open Go.RowKit
set_option linter.unusedVariables false

set_option maxHeartbeats 400000 in
theorem less_any (x y : Int) (w : World) :
    Calls Tryz.prog 321 #[.int .u16 x, .int .u16 y] w fun e w' => e = .returned (.bool (decide (x < y))) ∧ w' = w := by
  go_enter Tryz.func321, Tryz.ntmps321
  go_wp2_with (go_in)
  go_ret
  exact ⟨rfl, rfl⟩
theorem bsr_stop (l : List UInt16) (x : UInt16) (f i j : Nat) (h : ¬ i < j) : bsr l x f i j = i := by
  cases f with
  | zero => rfl
  | succ f => rw [bsr, if_neg h]
set_option maxHeartbeats 1000000 in
theorem bsearch_any (v : Value) (l : List UInt16) (lo hi : Nat) (X : Int) (x : UInt16) (hx : X = x.toNat) (W : World) (hv : Gs e16 W lo hi v l) (hb : l.length ≤ 100000000) :
    Calls Tryz.prog 288 #[v, .int .u16 X] W fun e w' => e = .returned (.tuple #[.int .i64 (bs l x), .bool (fd l x)]) ∧ w' = W := by
  have hv0 := hv
  obtain ⟨A, c, rfl, -⟩ := hv
  have HV := Lib.hid hv0
  clear hv0
  go_enter Tryz.func288, Tryz.ntmps288
  go_wp2
  go_loop [7, 8] (fun s7 s8 => ∃ i j f : Nat, i ≤ j ∧ j ≤ l.length ∧ j - i ≤ f ∧ s7 = .int .i64 i ∧ s8 = .int .i64 j ∧ bs l x = bsr l x f i j) (fun s7 s8 => (intOf s8).toNat - (intOf s7).toNat)
  case atStart => exact ⟨0, l.length, l.length, Nat.zero_le _, Nat.le_refl _, by omega, rfl, rfl, rfl⟩
  case round =>
    obtain ⟨i, j, f, hij, hj, hf, rfl, rfl, hr⟩ := hrel
    by_cases hlt : i < j
    · obtain ⟨f, rfl⟩ : ∃ g, f = g + 1 := ⟨f - 1, by omega⟩
      obtain ⟨b, o, c, e1, -, -, -, -, hc⟩ := HV.out.form (by rintro rfl; simp at hj; omega)
      injection e1 with e1 _ e2
      subst e1 e2
      obtain ⟨m, hm⟩ : ∃ m, m = (i + j) / 2 := ⟨_, rfl⟩
      have hml : m < l.length := by omega
      have k1 := hc m _ (at16_get hml)
      simp only [e16, b16] at k1
      rw [bsr, if_pos hlt, ← hm] at hr
      obtain ⟨y, hy⟩ : ∃ y : Int, y = ((at16 l m).toNat : Int) := ⟨_, rfl⟩
      rw [← hy] at k1
      have hyx : ((at16 l m).toNat < x.toNat) ↔ y < X := by omega
      have hm1 : ((i : Int) + j) / 2 = m := by omega
      have hi1 : m < j := by omega
      have hi2 : i ≤ m := by omega
      clear hc hy hm
      clear hx
      have w0 : IntKind.i64.wrap ((i : Int) + j) = (i : Int) + j := by rw [IntKind.wrap_i64]; omega
      have w1 : IntKind.u64.wrap ((i : Int) + j) = (i : Int) + j := by rw [IntKind.wrap_u64]; omega
      have w2 : IntKind.i64.wrap (m : Int) = m := by rw [IntKind.wrap_i64]; omega
      have hlti : (i : Int) < j := by omega
      have hmli : (m : Int) < l.length := by omega
      by_cases hyc : y < X
      · have hr' : bs l x = bsr l x f (m + 1) j := by rw [hr, if_pos (hyx.2 hyc)]
        have HR := Lib.hid hr'
        clear hr hr' hyx
        go_wp2_with (go_at_call 321; refine (less_any y X _).mono ?_; rintro e w1 ⟨rfl, rfl⟩)
        go_round
        case rel => exact ⟨m + 1, j, f, by omega, hj, by omega, by go_num, rfl, HR.out⟩
        case measure => simp [intOf]; omega
      · have hr' : bs l x = bsr l x f i m := by rw [hr, if_neg (fun h => hyc (hyx.1 h))]
        have HR := Lib.hid hr'
        clear hr hr' hyx
        go_wp2_with (go_at_call 321; refine (less_any y X _).mono ?_; rintro e w1 ⟨rfl, rfl⟩)
        go_round
        case rel => exact ⟨i, m, f, by omega, by omega, by omega, rfl, by go_num, HR.out⟩
        case measure => simp [intOf]; omega
    · have hs : bs l x = i := by rw [hr, bsr_stop _ _ _ _ _ hlt]
      clear hr
      by_cases hi : i < l.length
      · obtain ⟨b, o, c, e1, -, -, -, -, hc⟩ := HV.out.form (by rintro rfl; simp at hi)
        injection e1 with e1 _ e2
        subst e1 e2
        have k1 := hc i _ (at16_get hi)
        simp only [e16, b16] at k1
        obtain ⟨y, hy⟩ : ∃ y : Int, y = ((at16 l i).toNat : Int) := ⟨_, rfl⟩
        rw [← hy] at k1
        have hF : fd l x = decide (y = X) := by
          unfold fd
          rw [hs, decide_eq_true hi, Bool.true_and, Bool.eq_iff_iff, decide_eq_true_eq, decide_eq_true_eq]
          omega
        clear hx
        have HF := Lib.hid hF
        have HS := Lib.hid hs
        have hii : (i : Int) < l.length := by omega
        clear hc hy hF hs
        by_cases hyx : y = X
        · go_wp2_with (go_in)
          go_ret2
          exact ⟨by rw [HF.out, HS.out]; simp [hyx], rfl⟩
        · go_wp2_with (go_in)
          go_ret2
          exact ⟨by rw [HF.out, HS.out]; simp [hyx], rfl⟩
      · have hF : fd l x = false := by
          unfold fd
          rw [hs, decide_eq_false hi, Bool.false_and]
        have HF := Lib.hid hF
        have HS := Lib.hid hs
        have hq : decide ((i : Int) < (l.length : Int)) = false := decide_eq_false (by omega)
        clear hF hs
        go_wp2
        go_ret2
        exact ⟨by rw [HF.out, HS.out]; rfl, rfl⟩
set_option maxHeartbeats 400000 in
theorem find_any (v : Value) (l : List UInt16) (lo hi : Nat) (X : Int) (x : UInt16) (hx : X = x.toNat) (W : World) (hv : Gs e16 W lo hi v l) (hb : l.length ≤ 100000000) :
    Calls Tryz.prog 232 #[v, .int .u16 X] W fun e w' => e = .returned (.tuple #[.int .i64 (bs l x), .bool (fd l x)]) ∧ w' = W := by
  have HX := Lib.hid hx
  clear hx
  go_enter Tryz.func232, Tryz.ntmps232
  go_wp2_with (go_at_call 288; refine (bsearch_any v l lo hi X x HX.out _ hv hb).mono ?_; rintro e w1 ⟨rfl, rfl⟩)
  go_ret2
  exact ⟨rfl, rfl⟩
end Go.Proofs.YtponcpneflhpfaaGreatDoor
namespace Go.Proofs.YtponcpneflhpfaaGreatDoor
open Go.RowKit
set_option linter.unusedVariables false

set_option maxHeartbeats 400000 in
theorem clone16_any (v : Value) (l : List UInt16) (lo : Nat) (w : World) (hv : Gs e16 w lo w.heap.size v l) (hb : l.length ≤ 100000000) :
    Calls Tryz.prog 99 #[v] w fun e w' => ∃ v', e = .returned v' ∧ Gw e16 w' w.heap.size v' l ∧ Below w.heap.size w w' := by
  have hv0 := hv
  obtain ⟨A, c, rfl, hc0, -, -, hbt⟩ := hv
  cases A with
  | none =>
    obtain rfl := hc0 rfl
    have hl : l = [] := by
      by_cases h : l = []
      · exact h
      · obtain ⟨b, off, e, _⟩ := hbt h
        cases e
    subst hl
    clear hc0 hbt hv0
    have hq := fun W n c => Lib.run_eql_slice_nil (P := Tryz.prog) W 58 72 none n c 0 0 Tryz.underlying58
    simp only [Option.isNone_none] at hq
    go_enter Tryz.func99, Tryz.ntmps99
    go_wp2
    go_ret
    exact ⟨_, rfl, Gw.nil_ _ _, Below.refl _ _⟩
  | some ad =>
    clear hc0 hbt
    have hq := fun W n c => Lib.run_eql_slice_nil (P := Tryz.prog) W 58 72 (some ad) n c 0 0 Tryz.underlying58
    simp only [Option.isNone_some] at hq
    go_enter Tryz.func99, Tryz.ntmps99
    go_wp2_with (at_builtin; refine wpList_gapp e16 _ rfl _ _ _ rfl w.heap.size sli16 inf16 _ [] rfl (Gw.empty_ _ _ (Nat.le_refl _)) lo w.heap.size _ l rfl (hv0.alloc (Nat.le_refl _) _) (by simp; omega) (by simp) ?_; intro v2 w2 o2 g2 _)
    go_ret
    exact ⟨v2, rfl, by simpa using o2, ((Below.refl _ _).alloc (Nat.le_refl _) _).grown g2 (by simp) (fun k h => by injection h with h; subst h; exact Nat.le_refl _)⟩
/-- How many the first k rows have. -/
def fl (ls : List (List UInt16)) (k : Nat) : Nat := (ls.take k).flatten.length
end Go.Proofs.YtponcpneflhpfaaGreatDoor
namespace Go.Proofs.YtponcpneflhpfaaGreatDoor
open Go.RowKit
set_option linter.unusedVariables false

end Go.Proofs.YtponcpneflhpfaaGreatDoor
namespace Go.Proofs.YtponcpneflhpfaaGreatDoor
open Go.RowKit
set_option linter.unusedVariables false

theorem rn_some_drop {l : List UInt16} {k : Nat} (h : k + 1 < l.length) : rn (some (at16 l k)) (l.drop (k + 1)) = (if (at16 l (k + 1) - at16 l k).toNat = 1 then 0 else 1) + rn (some (at16 l (k + 1))) (l.drop (k + 1 + 1)) := by
  rw [drop_at h, rn]
theorem sub16 (x p : UInt16) : (((x - p).toNat : Nat) : Int) = IntKind.u16.wrap ((x.toNat : Int) - (p.toNat : Int)) := by
  have := x.toNat_lt
  have := p.toNat_lt
  rw [UInt16.toNat_sub]
  simp [IntKind.wrap, IntKind.bits, IntKind.signed]
  omega
set_option maxHeartbeats 1000000 in
theorem runs_any (v : Value) (l : List UInt16) (lo hi : Nat) (W : World) (hv : Gs e16 W lo hi v l) (hb : l.length ≤ 100000000) :
    Calls Tryz.prog 295 #[v] W fun e w' => e = .returned (.int .i64 (rn none l)) ∧ ∃ n, w' = W.drewN n := by
  have hv0 := hv
  obtain ⟨A, c, rfl, -⟩ := hv
  have HV := Lib.hid hv0
  clear hv0
  go_enter Tryz.func295, Tryz.ntmps295
  go_wp2
  go_loopw [3, 8] (fun s3 s8 wr => ∃ k n m : Nat, k ≤ l.length ∧ n ≤ k ∧ s8 = .int .i64 k ∧ s3 = .int .i64 n ∧ wr = W.drewN m ∧ n + rn (if k = 0 then none else some (at16 l (k - 1))) (l.drop k) = rn none l) (fun _ s8 _ => l.length - (intOf s8).toNat)
  case atStart => exact ⟨0, 0, 0, Nat.zero_le _, Nat.le_refl _, rfl, rfl, rfl, by simp⟩
  case round =>
    obtain ⟨k, n, m, hk, hnk, rfl, rfl, rfl, hr⟩ := hrel
    by_cases hlt : k < l.length
    · obtain ⟨b, o, c, e1, -, -, -, -, hc⟩ := HV.out.form (by rintro rfl; simp at hlt)
      injection e1 with e1 _ e2
      subst e1 e2
      have hn0 : (n : Int) ≤ 100000000 := by omega
      have k2 := hc k _ (at16_get hlt)
      simp only [e16, b16] at k2
      cases k with
      | zero =>
        have hr2 : n + 1 + rn (some (at16 l 0)) (l.drop 1) = rn none l := by rw [if_pos rfl, drop_at hlt, rn, Nat.zero_add] at hr; omega
        have HR := Lib.hid hr2
        obtain ⟨y, hy⟩ : ∃ y : Int, y = ((at16 l 0).toNat : Int) := ⟨_, rfl⟩
        rw [← hy] at k2
        rw [Nat.add_zero] at k2
        clear hc hr hr2 hy
        go_wp2
        go_roundw
        case rel => exact ⟨1, n + 1, _, hlt, by omega, by go_num, by go_num, rfl, by simpa using HR.out⟩
        case measure => simp [intOf]; omega
      | succ k =>
        have k1 := hc k _ (at16_get (by omega))
        simp only [e16, b16] at k1
        rw [if_neg (by omega), Nat.add_sub_cancel, rn_some_drop hlt] at hr
        have hs := sub16 (at16 l (k + 1)) (at16 l k)
        obtain ⟨y, hy⟩ : ∃ y : Int, y = ((at16 l (k + 1)).toNat : Int) := ⟨_, rfl⟩
        obtain ⟨x, hx⟩ : ∃ x : Int, x = ((at16 l k).toNat : Int) := ⟨_, rfl⟩
        rw [← hy] at k2
        rw [← hx] at k1
        rw [← hy, ← hx] at hs
        obtain ⟨z, hz⟩ : ∃ z : Int, z = IntKind.u16.wrap (y - x) := ⟨_, rfl⟩
        rw [← hz] at hs
        have q1 : (((k + 1 : Nat) : Int) == 0) = false := by simp; omega
        have q2 : (((k : Int) + 1) == 0) = false := by simp; omega
        have w1 : IntKind.i64.wrap ((k : Int) + 1 - 1) = (k : Int) := by rw [IntKind.wrap_i64]; omega
        have hz' := hz.symm
        clear hc hx hy hz
        by_cases h1 : z = 1
        · rw [if_pos (by omega)] at hr
          have HR := Lib.hid hr
          have q3 : (z == 1) = true := by simp [h1]
          have q4 : (z != 1) = false := by simp [h1]
          clear hr hs h1
          go_wp2
          go_roundw
          case rel => exact ⟨k + 1 + 1, n, _, hlt, by omega, by go_num, rfl, rfl, by have := HR.out; rw [if_neg (by omega), Nat.add_sub_cancel]; omega⟩
          case measure => simp [intOf]; omega
        · rw [if_neg (by omega)] at hr
          have HR := Lib.hid hr
          have q3 : (z == 1) = false := by simp [h1]
          have q4 : (z != 1) = true := by simp [h1]
          clear hr hs h1
          go_wp2
          go_roundw
          case rel => exact ⟨k + 1 + 1, n + 1, _, hlt, by omega, by go_num, by go_num, rfl, by have := HR.out; rw [if_neg (by omega), Nat.add_sub_cancel]; omega⟩
          case measure => simp [intOf]; omega
    · obtain rfl : k = l.length := by omega
      have hr2 : rn none l = n := by
        rw [List.drop_of_length_le (Nat.le_refl _)] at hr
        rw [← hr]
        cases (if l.length = 0 then none else some (at16 l (l.length - 1))) <;> rfl
      have HR := Lib.hid hr2
      clear hr hr2
      go_wp2
      go_ret
      exact ⟨by rw [HR.out]; rfl, _, rfl⟩
end Go.Proofs.YtponcpneflhpfaaGreatDoor
namespace Go.Proofs.YtponcpneflhpfaaGreatDoor
open Go.RowKit
set_option linter.unusedVariables false

end Go.Proofs.YtponcpneflhpfaaGreatDoor
namespace Go.Proofs.YtponcpneflhpfaaGreatDoor
open Go.RowKit
set_option linter.unusedVariables false

end Go.Proofs.YtponcpneflhpfaaGreatDoor
namespace Go.Proofs.YtponcpneflhpfaaGreatDoor
open Go.RowKit
set_option linter.unusedVariables false

theorem below_drew {W : World} (n : Nat) : Below W.heap.size W (W.drewN n) := below_drewN (Below.refl _ _) n
theorem runs_b (v : Value) (l : List UInt16) (lo hi : Nat) (W : World) (hv : Gs e16 W lo hi v l) (hb : l.length ≤ 100000000) :
    Calls Tryz.prog 295 #[v] W fun e w' => e = .returned (.int .i64 (rn none l)) ∧ Below W.heap.size W w' :=
  (runs_any v l lo hi W hv hb).mono fun e w' ⟨h1, n, h2⟩ => ⟨h1, h2 ▸ below_drew n⟩
end Go.Proofs.YtponcpneflhpfaaGreatDoor
namespace Go.Proofs.YtponcpneflhpfaaGreatDoor
open Go.RowKit
set_option linter.unusedVariables false

theorem xor_lt {a b : Nat} (ha : a < 18446744073709551616) (hb : b < 18446744073709551616) : a ^^^ b < 18446744073709551616 := Nat.xor_lt_two_pow (n := 64) ha hb
end Go.Proofs.YtponcpneflhpfaaGreatDoor
namespace Go.Proofs.YtponcpneflhpfaaGreatDoor
open Go.RowKit
set_option linter.unusedVariables false

theorem ls_wb (p : Nat → Bool) {n : Nat} (h : n ≤ 65536) : ls (wb (wm p)) n = ls p n := ls_ext fun j hj => wb_wm p j (by omega)
theorem ct_wb (p : Nat → Bool) {n : Nat} (h : n ≤ 65536) : ct (wb (wm p)) n = ct p n := ct_ext fun j hj => wb_wm p j (by omega)
theorem hm_wb (p : Nat → Bool) {n : Nat} (h : n ≤ 65536) : ct (hm (wb (wm p))) n = ct (hm p) n := ct_ext fun j hj => hm_ext (n := 65536) (fun i hi => wb_wm p i hi) j (by omega)
theorem mix_wb (f : Bool → Bool → Bool) (p q : Nat → Bool) : wm (fun x => f (wb (wm p) x) (wb (wm q) x)) = wm fun x => f (p x) (q x) := wm_ext fun x hx => by rw [wb_wm p x hx, wb_wm q x hx]
theorem gw_wm {w : World} {base : Nat} {v : Value} {p : Nat → Bool} (h : Gw e64 w base v (wm p)) : ∃ A c, v = .slice A 1024 c := by
  obtain ⟨A, c, e, -⟩ := h.sl
  exact ⟨A, c, by rw [e, wm_length]⟩
theorem Gs.step {α : Type} {k : Elem α} {w w' : World} {v : Value} {l : List α} (h : Gs k w 0 w.heap.size v l) (b : Below w.heap.size w w') : Gs k w' 0 w'.heap.size v l := (h.below b).more (Nat.le_refl _) b.size
theorem Tb.step {w w' : World} (h : Tb w) (b : Below w.heap.size w w') : Tb w' := h.below b (Nat.le_refl _)
theorem wlen_p (v : Value) (p : Nat → Bool) (n : Nat) (W : World) (hv : Gs e64 W 0 W.heap.size v (wm p)) (hn : ct p 65536 = n) :
    Calls Tryz.prog 239 #[v] W fun e w' => e = .returned (.int .i64 n) ∧ w' = W := by
  have h := wlen_any v _ 0 _ W hv
  rw [ct_wb p (Nat.le_refl _), hn] at h
  exact h
theorem wruns_p (v : Value) (p : Nat → Bool) (n : Nat) (W : World) (hv : Gs e64 W 0 W.heap.size v (wm p)) (hn : ct (hm p) 65536 = n) :
    Calls Tryz.prog 296 #[v] W fun e w' => e = .returned (.int .i64 n) ∧ w' = W := by
  have h := wruns_any v _ 0 _ W hv
  rw [hm_wb p (Nat.le_refl _), hn] at h
  exact h
theorem mk_ls (p : Nat → Bool) {x : Nat} (hx : x < 65536) : mk (ls p 65536) x = p x := by
  have e : x = (UInt16.ofNat x).toNat := (u16_of x hx).symm
  rw [e, Bool.eq_iff_iff, mk_iff, ls_mem p 65536 (Nat.le_refl _), u16_of x hx]
  exact ⟨fun h => h.2, fun h => ⟨hx, h⟩⟩
theorem aruns_p (v : Value) (p : Nat → Bool) (n : Nat) (W : World) (hv : Gs e16 W 0 W.heap.size v (ls p 65536)) (hn : ct (hm p) 65536 = n) :
    Calls Tryz.prog 295 #[v] W fun e w' => e = .returned (.int .i64 n) ∧ Below W.heap.size W w' := by
  refine (runs_b v _ 0 _ W hv (Nat.le_trans (ls_len p 65536) (by omega))).mono ?_
  rintro e w' ⟨h1, h2⟩
  refine ⟨?_, h2⟩
  have e1 : ct (hm (mk (ls p 65536))) 65536 = ct (hm p) 65536 := ct_ext fun j hj => hm_ext (n := 65536) (fun i hi => mk_ls p hi) j hj
  rw [h1, rn_ls (ris_ls p 65536 (Nat.le_refl _)), ls_ct, e1, hn]
end Go.Proofs.YtponcpneflhpfaaGreatDoor
namespace Go.Proofs.YtponcpneflhpfaaGreatDoor
open Go.RowKit
set_option linter.unusedVariables false

theorem ls_gap {A : List Rn} {k N : Nat} {r : Rn} (h1 : mayr N (A.drop k) = true) (hd : A.drop k = r :: A.drop (k + 1)) (h2 : ∀ x, N ≤ x → mr A x = mr (A.drop k) x) : N ≤ r.1.toNat ∧ ls (mr A) r.1.toNat = ls (mr A) N := by
  rw [hd] at h1 h2
  obtain ⟨a1, a2, a3⟩ := mayr_cons.1 h1
  refine ⟨a1, ls_skip (mr A) a1 fun j hj hj2 => ?_⟩
  cases hm : mr A j with
  | false => rfl
  | true =>
    rw [h2 j hj] at hm
    have := (mr_ge (mayr_cons.2 ⟨Nat.le_refl _, a2, a3⟩) hm).1
    omega
theorem ls_in {A : List Rn} {k N : Nat} {r : Rn} (h1 : mayr N (A.drop k) = true) (hd : A.drop k = r :: A.drop (k + 1)) (h2 : ∀ x, N ≤ x → mr A x = mr (A.drop k) x) {m : Nat} (ha : r.1.toNat ≤ m) (hb : m ≤ lst r) : ls (mr A) (m + 1) = ls (mr A) m ++ [UInt16.ofNat m] := by
  rw [hd] at h1 h2
  have a1 := (mayr_cons.1 h1).1
  refine ls_next (mr A) (Nat.le_refl m) (fun j h3 h4 => by omega) ?_
  rw [h2 m (by omega), mr_cons, (inr_iff r m).2 ⟨ha, hb⟩, Bool.true_or]
theorem ls_out {A : List Rn} {k N : Nat} {r : Rn} (h1 : mayr N (A.drop k) = true) (hd : A.drop k = r :: A.drop (k + 1)) (h2 : ∀ x, N ≤ x → mr A x = mr (A.drop k) x) : lst r ≤ 65535 ∧ mayr (lst r + 1) (A.drop (k + 1)) = true ∧ ∀ x, lst r + 1 ≤ x → mr A x = mr (A.drop (k + 1)) x := by
  rw [hd] at h1 h2
  obtain ⟨a1, a2, a3⟩ := mayr_cons.1 h1
  refine ⟨a2, mayr_mono (by omega) a3, fun x hx => ?_⟩
  have hf := fst_le r
  rw [h2 x (by omega), mr_cons]
  cases hi : inr r x with
  | false => rfl
  | true => have := ((inr_iff r x).1 hi).2; omega
theorem step_up {n k : Nat} {X : Int} (h : k < n) (hw : X = (k : Int) + 1) : ((n : Int) - intOf (.int .i64 X)).toNat < ((n : Int) - intOf (.int .i64 (k : Int))).toNat := by
  subst hw
  show ((n : Int) - ((k : Int) + 1)).toNat < ((n : Int) - (k : Int)).toNat
  omega
set_option maxHeartbeats 4000000 in
theorem rlist_any (v : Value) (A : List Rn) (w : World) (hv : Gs2 eR w 0 w.heap.size v A) (hA : mayr 0 A = true) :
    Calls Tryz.prog 172 #[v] w fun e w' => ∃ v', e = .returned v' ∧ Gw e16 w' w.heap.size v' (ls (mr A) 65536) ∧ Below w.heap.size w w' := by
  have hlen := hv.len
  have HV := Lib.hid hv
  obtain ⟨A1, c1, rfl, -⟩ := hv
  have HA := Lib.hid hA
  obtain ⟨X, hX⟩ : ∃ X, ct (mr A) 65536 = X := ⟨_, rfl⟩
  have HX := Lib.hid hX
  have HX1 := Lib.hid (show X ≤ 65536 by rw [← hX]; exact ct_le' _ _)
  have hx1 : (X : Int) ≤ 65536 := by have := HX1.out; omega
  have hx2 : ¬ (65536 : Int) < (X : Int) := by omega
  clear hA hX
  go_enter Tryz.func172, Tryz.ntmps172
  go_wp2_with (first
    | (go_at_call 237; refine (rlen_any _ A X _ HV.out HA.out HX.out).mono ?_; rintro e w1 ⟨rfl, b0⟩; have B0 := Lib.hid b0; clear b0)
    | (at_make; refine wpList_gmk e16 _ rfl _ _ _ rfl sli16 inf16 _ _ _ X rfl rfl rfl (by have := HX1.out; omega) ?_; intro w2 o1 g1; have O1 := Lib.hid (o1.more B0.out.size); have B1 := Lib.hid (B0.out.trans ((below_of_grown g1 (fun k h => by cases h)).mono B0.out.size)); clear o1 g1))
  go_loopw [3, 4, 13] (fun u s4 s13 wr => ∃ k N : Nat, k ≤ A.length ∧ s4 = .int .i64 N ∧ s13 = .int .i64 k ∧ Hid (mayr N (A.drop k) = true) ∧ Hid (∀ x, N ≤ x → mr A x = mr (A.drop k) x) ∧ Hid (N ≤ 65536) ∧ Gw e16 wr w.heap.size u (ls (mr A) N) ∧ Below w.heap.size w wr) (fun _ _ i _ => ((A.length : Int) - intOf i).toNat)
  case atStart => exact ⟨0, 0, Nat.zero_le _, rfl, rfl, HA, Lib.hid fun x _ => rfl, Lib.hid (Nat.zero_le _), O1.out, B1.out⟩
  case round =>
    obtain ⟨k, N, hk, rfl, rfl, hmr, hsm, hN, ho, hbl⟩ := hrel
    have OR := Lib.hid ho
    have HB := Lib.hid hbl
    obtain ⟨A5, c5, rfl, -⟩ := ho.sl
    by_cases hlt : k < A.length
    · obtain ⟨b, off, r, e1, -, hb, hdr, hg, c0, c2⟩ := gs2_at HV.out hlt
      subst e1
      rw [← hbl.cell (p := ⟨b, off + k * 2, none⟩) hb] at c0
      rw [← hbl.cell (p := ⟨b, off + k * 2 + 1, none⟩) hb] at c2
      have hf := u16_lt r.1
      have hm := u16_lt r.2
      obtain ⟨f, hfe⟩ : ∃ f, f = r.1.toNat := ⟨_, rfl⟩
      obtain ⟨q, hqe⟩ : ∃ q, q = r.2.toNat := ⟨_, rfl⟩
      rw [← hfe] at c0 hf
      rw [← hqe] at c2 hm
      have HF := Lib.hid hf
      have HQ := Lib.hid hm
      have hlr : lst r = f + q := by unfold lst; rw [← hfe, ← hqe]
      have hgap := ls_gap hmr.out hdr hsm.out
      rw [← hfe] at hgap
      have hin : ∀ m, f ≤ m → m ≤ f + q → ls (mr A) (m + 1) = ls (mr A) m ++ [UInt16.ofNat m] := fun m h1 h2 => ls_in hmr.out hdr hsm.out (by omega) (by omega)
      have hout := ls_out hmr.out hdr hsm.out
      rw [hlr] at hout
      have GAP := Lib.hid hgap
      have IN := Lib.hid hin
      have OUT := Lib.hid hout
      have HK := Lib.hid hlt
      have w1 : IntKind.i64.wrap (f : Int) = f := by simp [IntKind.wrap, IntKind.bits, IntKind.signed]; omega
      have wk1 : IntKind.i64.wrap ((k : Int) + 1) = (k : Int) + 1 := by rw [IntKind.wrap_i64]; omega
      have wk2 : wrap64 ((k : Int) + 1) = (k : Int) + 1 := by unfold wrap64; omega
      have WK := Lib.hid wk2
      have OA := Lib.hid (OR.out.alloc (.cells #[.int .u16 (f : Int), .int .u16 (q : Int)] 130))
      have RA := Lib.hid (Row.new wr 130 #[.int .u16 (f : Int), .int .u16 (q : Int)])
      have BA := Lib.hid (hbl.alloc hbl.size (.cells #[.int .u16 (f : Int), .int .u16 (q : Int)] 130))
      have NE := Lib.hid (fun j (hj : (Value.slice A5 (ls (mr A) N).length c5).ownBlock = some j) => (OR.out.lt j hj).2)
      clear hbl hmr hsm hN hdr hg hfe hqe hlr hgap hin hout ho hk hb hlt
      by_cases hNf : f = N
      · subst hNf
        go_wp2_with fail
        go_loopw [3, 4] (fun u s4 ws => ∃ m : Nat, Hid (f ≤ m) ∧ m ≤ f + q + 1 ∧ s4 = .int .i64 m ∧ Gw e16 ws w.heap.size u (ls (mr A) m) ∧ Row ws wr.heap.size 130 #[.int .u16 (f : Int), .int .u16 (q : Int)] ∧ (∀ j, u.ownBlock = some j → j ≠ wr.heap.size) ∧ Below w.heap.size w ws) (fun _ i _ => (((f + q + 1 : Nat) : Int) - intOf i).toNat)
        case atStart => exact ⟨f, Lib.hid (Nat.le_refl _), by omega, rfl, by first | exact OA.out | (rw [GAP.out.2]; exact OA.out), RA.out, fun j hj => by have := NE.out j hj; omega, BA.out⟩
        case round =>
          obtain ⟨m, hfm, hm, rfl, ho, hrw, hne, hb⟩ := hrel
          obtain ⟨A6, c6, rfl, -⟩ := ho.sl
          have OS := Lib.hid ho
          have RS := Lib.hid hrw
          have NS := Lib.hid hne
          have BS := Lib.hid hb
          have k0 := hrw.cell 0
          have k1 := hrw.cell 1
          simp at k0 k1
          by_cases hml : m < f + q + 1
          · have hmi : (m : Int) < (f : Int) + ((q : Int) + 1) := by omega
            have hmd : decide ((m : Int) < (f : Int) + ((q : Int) + 1)) = true := decide_eq_true hmi
            have HM := Lib.hid hml
            have hm65 : m < 65536 := by have := OUT.out.1; omega
            have wu : IntKind.u16.wrap (m : Int) = m := by simp [IntKind.wrap, IntKind.bits, IntKind.signed]; omega
            have hy : ((UInt16.ofNat m).toNat : Int) = m := by rw [u16_of m hm65]
            have HY := Lib.hid hy
            have hap := IN.out m hfm.out (by omega)
            have AP := Lib.hid hap
            have HL := Lib.hid (show (ls (mr A) m).length ≤ 65536 by have := ls_len (mr A) m; omega)
            have wm1 : IntKind.i64.wrap ((m : Int) + 1) = (m : Int) + 1 := by rw [IntKind.wrap_i64]; omega
            have wm2 : wrap64 ((m : Int) + 1) = (m : Int) + 1 := by unfold wrap64; omega
            clear ho hrw hne hb hm hml hm65 hy hap
            go_wp2_with (first
              | (go_at_call 173; refine (end_any f q HF.out HQ.out _).mono ?_; rintro e wx ⟨rfl, bx⟩; have OX := Lib.hid (OS.out.below bx (Nat.le_refl _)); have RX := Lib.hid (RS.out.below bx RS.out.lt); have BX := Lib.hid (BS.out.trans (bx.mono BS.out.size)); clear bx)
              | (at_builtin; refine wpList_gapp1 (P := Tryz.prog) e16 _ rfl _ _ _ rfl w.heap.size sli16 inf16 _ (ls (mr A) m) rfl OX.out _ (UInt16.ofNat m) (by simp only [e16, b16]; rw [HY.out]) rfl (by have := HL.out; omega) BX.out.size ?_; intro v2 w2 o2 g2 hj; have O2 := Lib.hid o2; have G2 := Lib.hid g2; have J2 := Lib.hid hj; clear o2 g2 hj))
            refine ⟨⟨m + 1, Lib.hid (Nat.le_succ_of_le hfm.out), HM.out, by go_num, by rw [AP.out]; exact O2.out, RX.out.grown G2.out (fun e => NS.out _ e rfl), fun j hj2 => ?_, BX.out.grown G2.out BX.out.size (fun j h => (OX.out.lt j h).1)⟩, step_up HM.out rfl⟩
            rcases J2.out with e | e
            · rw [e] at hj2
              exact NS.out j hj2
            · rw [e] at hj2
              injection hj2 with h
              have := RX.out.lt
              omega
          · obtain rfl : m = f + q + 1 := by omega
            clear ho hrw hne hb hm hml
            go_wp2_with (go_at_call 173; refine (end_any f q HF.out HQ.out _).mono ?_; rintro e wx ⟨rfl, bx⟩; have OX := Lib.hid (OS.out.below bx (Nat.le_refl _)); have BX := Lib.hid (BS.out.trans (bx.mono BS.out.size)); clear bx)
            refine ⟨⟨k + 1, f + q + 1, HK.out, rfl, by go_num, Lib.hid OUT.out.2.1, Lib.hid OUT.out.2.2, Lib.hid (by have := OUT.out.1; omega), OX.out, BX.out⟩, step_up HK.out (by first | rfl | exact WK.out)⟩
      · have hmx : (N : Int) < (f : Int) := by have := GAP.out.1; omega
        clear hNf
        go_wp2_with fail
        simp only [HK.out, decide_true]
        go_loopw [3, 4] (fun u s4 ws => ∃ m : Nat, Hid (f ≤ m) ∧ m ≤ f + q + 1 ∧ s4 = .int .i64 m ∧ Gw e16 ws w.heap.size u (ls (mr A) m) ∧ Row ws wr.heap.size 130 #[.int .u16 (f : Int), .int .u16 (q : Int)] ∧ (∀ j, u.ownBlock = some j → j ≠ wr.heap.size) ∧ Below w.heap.size w ws) (fun _ i _ => (((f + q + 1 : Nat) : Int) - intOf i).toNat)
        case atStart => exact ⟨f, Lib.hid (Nat.le_refl _), by omega, rfl, by first | exact OA.out | (rw [GAP.out.2]; exact OA.out), RA.out, fun j hj => by have := NE.out j hj; omega, BA.out⟩
        case round =>
          obtain ⟨m, hfm, hm, rfl, ho, hrw, hne, hb⟩ := hrel
          obtain ⟨A6, c6, rfl, -⟩ := ho.sl
          have OS := Lib.hid ho
          have RS := Lib.hid hrw
          have NS := Lib.hid hne
          have BS := Lib.hid hb
          have k0 := hrw.cell 0
          have k1 := hrw.cell 1
          simp at k0 k1
          by_cases hml : m < f + q + 1
          · have hmi : (m : Int) < (f : Int) + ((q : Int) + 1) := by omega
            have hmd : decide ((m : Int) < (f : Int) + ((q : Int) + 1)) = true := decide_eq_true hmi
            have HM := Lib.hid hml
            have hm65 : m < 65536 := by have := OUT.out.1; omega
            have wu : IntKind.u16.wrap (m : Int) = m := by simp [IntKind.wrap, IntKind.bits, IntKind.signed]; omega
            have hy : ((UInt16.ofNat m).toNat : Int) = m := by rw [u16_of m hm65]
            have HY := Lib.hid hy
            have hap := IN.out m hfm.out (by omega)
            have AP := Lib.hid hap
            have HL := Lib.hid (show (ls (mr A) m).length ≤ 65536 by have := ls_len (mr A) m; omega)
            have wm1 : IntKind.i64.wrap ((m : Int) + 1) = (m : Int) + 1 := by rw [IntKind.wrap_i64]; omega
            have wm2 : wrap64 ((m : Int) + 1) = (m : Int) + 1 := by unfold wrap64; omega
            clear ho hrw hne hb hm hml hm65 hy hap
            go_wp2_with (first
              | (go_at_call 173; refine (end_any f q HF.out HQ.out _).mono ?_; rintro e wx ⟨rfl, bx⟩; have OX := Lib.hid (OS.out.below bx (Nat.le_refl _)); have RX := Lib.hid (RS.out.below bx RS.out.lt); have BX := Lib.hid (BS.out.trans (bx.mono BS.out.size)); clear bx)
              | (at_builtin; refine wpList_gapp1 (P := Tryz.prog) e16 _ rfl _ _ _ rfl w.heap.size sli16 inf16 _ (ls (mr A) m) rfl OX.out _ (UInt16.ofNat m) (by simp only [e16, b16]; rw [HY.out]) rfl (by have := HL.out; omega) BX.out.size ?_; intro v2 w2 o2 g2 hj; have O2 := Lib.hid o2; have G2 := Lib.hid g2; have J2 := Lib.hid hj; clear o2 g2 hj))
            refine ⟨⟨m + 1, Lib.hid (Nat.le_succ_of_le hfm.out), HM.out, by go_num, by rw [AP.out]; exact O2.out, RX.out.grown G2.out (fun e => NS.out _ e rfl), fun j hj2 => ?_, BX.out.grown G2.out BX.out.size (fun j h => (OX.out.lt j h).1)⟩, step_up HM.out rfl⟩
            rcases J2.out with e | e
            · rw [e] at hj2
              exact NS.out j hj2
            · rw [e] at hj2
              injection hj2 with h
              have := RX.out.lt
              omega
          · obtain rfl : m = f + q + 1 := by omega
            clear ho hrw hne hb hm hml
            go_wp2_with (go_at_call 173; refine (end_any f q HF.out HQ.out _).mono ?_; rintro e wx ⟨rfl, bx⟩; have OX := Lib.hid (OS.out.below bx (Nat.le_refl _)); have BX := Lib.hid (BS.out.trans (bx.mono BS.out.size)); clear bx)
            refine ⟨⟨k + 1, f + q + 1, HK.out, rfl, by go_num, Lib.hid OUT.out.2.1, Lib.hid OUT.out.2.2, Lib.hid (by have := OUT.out.1; omega), OX.out, BX.out⟩, step_up HK.out (by first | rfl | exact WK.out)⟩
    · obtain rfl : k = A.length := by omega
      have hfin : ls (mr A) 65536 = ls (mr A) N := by
        refine ls_skip (mr A) hN.out fun j h1 h2 => ?_
        rw [hsm.out j h1, List.drop_length]
        rfl
      have FIN := Lib.hid hfin
      clear hbl hmr hsm hN hfin ho hk hlt
      go_wp2
      go_ret
      exact ⟨_, rfl, by rw [FIN.out]; exact OR.out, HB.out⟩
end Go.Proofs.YtponcpneflhpfaaGreatDoor
namespace Go.Proofs.YtponcpneflhpfaaGreatDoor
open Go.RowKit
set_option linter.unusedVariables false

theorem mayr_len {d : Nat} {A : List Rn} (h : mayr d A = true) : A.length ≤ 65536 := by
  have key : ∀ {d : Nat} {A : List Rn}, mayr d A = true → A = [] ∨ 2 * A.length + d ≤ 65537 := by
    intro d A h
    induction A generalizing d with
    | nil => exact .inl rfl
    | cons r l ih =>
      obtain ⟨h1, h2, h3⟩ := mayr_cons.1 h
      have := fst_le r
      right
      rcases ih h3 with e | e
      · subst e; simp; omega
      · simp only [List.length_cons]; omega
  rcases key h with e | e
  · subst e; simp
  · omega
theorem Row.step {w w' : World} {g : Nat} {t : TypeId} {cs : Array Value} (h : Row w g t cs) (b : Below w.heap.size w w') : Row w' g t cs := h.below b h.lt
end Go.Proofs.YtponcpneflhpfaaGreatDoor
