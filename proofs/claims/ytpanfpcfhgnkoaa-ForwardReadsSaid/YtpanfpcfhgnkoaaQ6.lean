/- Walks: the document's answer: numbers are unpacked, packed. -/
import Derived.Test.YtpanfpcfhgnkoaaQ5
namespace Go.Proofs.Ytpanfpcfhgnkoaa
open Go.RowKit
set_option linter.unusedVariables false

theorem refUnpack_noArg (v : Value) (n wI : Int) (W : World) (h : n < 0 ∨ 1099511627776 < n ∨ wI < 1 ∨ 64 < wI) :
    Calls Try.prog 39 #[v, .int .i64 n, .int .i64 wI] W fun e w' => e = .returned (.tuple #[.slice none 0 0, .int .i64 2]) ∧ W = w' := by
  go_enter Try.func39, Try.ntmps39
  go_wp2_with (go_at_call 58; refine (may_no _ _ _ h).mono ?_; rintro e w1 ⟨rfl, rfl⟩)
  go_ret2
  exact ⟨rfl, rfl⟩
set_option maxHeartbeats 400000 in
theorem refUnpack_short (v : Value) (b : List UInt8) (lo hi n w : Nat) (W : World) (hv : Gs e8 W lo hi v b) (hn : n ≤ 1099511627776) (h1 : 1 ≤ w) (h2 : w ≤ 64) (hs : b.length < sz n w) :
    Calls Try.prog 39 #[v, .int .i64 n, .int .i64 w] W fun e w' => e = .returned (.tuple #[.slice none 0 0, .int .i64 4]) ∧ W = w' := by
  have hlen := hv.len
  obtain ⟨A, c, rfl, -, -, -, -⟩ := hv
  have hd : decide (b.length < sz n w) = true := by simpa using hs
  go_enter Try.func39, Try.ntmps39
  go_wp2_with (first
    | (go_at_call 58; refine (may_yes _ _ _ (by omega) (by omega) (by omega) (by omega)).mono ?_; rintro e w1 ⟨rfl, rfl⟩)
    | (go_at_call 38; refine (refSize_yes n w _ hn h1 h2).mono ?_; rintro e w1 ⟨rfl, rfl⟩))
  go_ret2
  exact ⟨rfl, rfl⟩
set_option maxHeartbeats 400000 in
theorem refUnpack_long (v : Value) (b : List UInt8) (lo hi n w : Nat) (W : World) (hv : Gs e8 W lo hi v b) (hn : n ≤ 1099511627776) (h1 : 1 ≤ w) (h2 : w ≤ 64) (hs : sz n w < b.length) :
    Calls Try.prog 39 #[v, .int .i64 n, .int .i64 w] W fun e w' => e = .returned (.tuple #[.slice none 0 0, .int .i64 5]) ∧ W = w' := by
  have hlen := hv.len
  obtain ⟨A, c, rfl, -, -, -, -⟩ := hv
  have hd : decide (b.length < sz n w) = false := by simp; omega
  have hd2 : decide (sz n w < b.length) = true := by simpa using hs
  go_enter Try.func39, Try.ntmps39
  go_wp2_with (first
    | (go_at_call 58; refine (may_yes _ _ _ (by omega) (by omega) (by omega) (by omega)).mono ?_; rintro e w1 ⟨rfl, rfl⟩)
    | (go_at_call 38; refine (refSize_yes n w _ hn h1 h2).mono ?_; rintro e w1 ⟨rfl, rfl⟩))
  go_ret2
  exact ⟨rfl, rfl⟩
set_option maxHeartbeats 1000000 in
theorem refUnpack_rest (v : Value) (b : List UInt8) (lo hi n w : Nat) (W : World) (hv : Gs e8 W lo hi v b) (hn : n ≤ 1099511627776) (h1 : 1 ≤ w) (h2 : w ≤ 64) (hs : b.length = sz n w) (hz : tk b (n * w) (8 * b.length - n * w) ≠ 0) (hb : b.length ≤ 1000000) :
    Calls Try.prog 39 #[v, .int .i64 n, .int .i64 w] W fun e w' => e = .returned (.tuple #[.slice none 0 0, .int .i64 5]) ∧ W = w' := by
  have hm := mul_bound n w _ hn h2
  have hv0 := hv
  obtain ⟨A, c, rfl, -, -, -, -⟩ := hv
  have HV := Lib.hid hv0
  clear hv0
  have hsz := sz_le n w
  rw [← hs] at hsz
  have HS := Lib.hid hs.symm
  have HZ := Lib.hid hz
  clear hz hs
  go_enter Try.func39, Try.ntmps39
  go_wp2_with (first
    | (go_at_call 58; refine (may_yes _ _ _ (by omega) (by omega) (by omega) (by omega)).mono ?_; rintro e w1 ⟨rfl, rfl⟩)
    | (go_at_call 38; refine (refSize_yes n w _ hn h1 h2).mono ?_; rintro e w1 ⟨rfl, rfl⟩; rw [HS.out]))
  go_loop [8] (fun i => ∃ k : Nat, n * w ≤ k ∧ k ≤ 8 * b.length ∧ i = .int .i64 k ∧ ∀ j, n * w ≤ j → j < k → bb b j = false) (fun i => 8 * b.length - (intOf i).toNat)
  case atStart => exact ⟨n * w, Nat.le_refl _, by omega, by push_cast; rfl, fun j h1 h2 => absurd h1 (by omega)⟩
  case round =>
    obtain ⟨k, hk0, hk, rfl, hall⟩ := hrel
    have HA := Lib.hid hall
    clear hall
    by_cases hlt : k < 8 * b.length
    · obtain ⟨y, hy⟩ : ∃ y, y = bb b k := ⟨_, rfl⟩
      have HY := Lib.hid hy.symm
      clear hy
      have hlt' : (k : Int) < 8 * b.length := by omega
      cases y with
      | true =>
        go_wp2_with (go_at_call 59; refine (refBit_any _ b lo _ _ k rfl _ HV.out (by omega) (by omega)).mono ?_; rintro e w1 ⟨rfl, rfl⟩; rw [HY.out])
        go_ret2
        exact ⟨rfl, rfl⟩
      | false =>
        go_wp2_with (go_at_call 59; refine (refBit_any _ b lo _ _ k rfl _ HV.out (by omega) (by omega)).mono ?_; rintro e w1 ⟨rfl, rfl⟩; rw [HY.out])
        go_round
        case rel =>
          refine ⟨k + 1, by omega, by omega, by go_num, fun j h1 h2 => ?_⟩
          rcases Nat.lt_or_ge j k with h | h
          · exact HA.out j h1 h
          · obtain rfl : j = k := by omega
            exact HY.out
        case measure => simp [intOf]; omega
    · exfalso
      exact HZ.out (tk_zero_of fun j hj => HA.out _ (Nat.le_add_right _ _) (by omega))

set_option maxHeartbeats 1000000 in
theorem refUnpack_yes (v : Value) (b : List UInt8) (lo n w : Nat) (W : World) (hv : Gs e8 W lo W.heap.size v b) (h1 : 1 ≤ w) (h2 : w ≤ 64) (hs : b.length = sz n w) (hz : tk b (n * w) (8 * b.length - n * w) = 0) (hb : b.length ≤ 100000) :
    Calls Try.prog 39 #[v, .int .i64 n, .int .i64 w] W fun e w' => ∃ v', e = .returned (.tuple #[v', .int .i64 0]) ∧ Gw e64 w' W.heap.size v' (up b n w) ∧ Below W.heap.size W w' := by
  have hsz := sz_le n w
  rw [← hs] at hsz
  have hnw : n ≤ n * w := Nat.le_mul_of_pos_right n h1
  have hn : n ≤ 800000 := by omega
  have hm := mul_bound n w _ hn h2
  have hv0 := hv
  obtain ⟨A, c, rfl, -, -, -, -⟩ := hv
  have HV := Lib.hid hv0
  clear hv0
  have HT := Lib.hid (tk_zero hz)
  have HS := Lib.hid hs.symm
  clear hz hs
  go_enter Try.func39, Try.ntmps39
  go_wp2_with (first
    | (go_at_call 58; refine (may_yes _ _ _ (by omega) (by omega) (by omega) (by omega)).mono ?_; rintro e w1 ⟨rfl, rfl⟩)
    | (go_at_call 38; refine (refSize_yes n w _ (by omega) h1 h2).mono ?_; rintro e w1 ⟨rfl, rfl⟩; rw [HS.out]))
  go_loop [8] (fun i => ∃ k : Nat, n * w ≤ k ∧ k ≤ 8 * b.length ∧ i = .int .i64 k) (fun i => 8 * b.length - (intOf i).toNat)
  case atStart => exact ⟨n * w, Nat.le_refl _, by omega, by push_cast; rfl⟩
  case round =>
    obtain ⟨k, hk0, hk, rfl⟩ := hrel
    by_cases hlt : k < 8 * b.length
    · have hy : bb b k = false := by
        have := HT.out (k - n * w) (by omega)
        rwa [show n * w + (k - n * w) = k from by omega] at this
      have HY := Lib.hid hy
      clear hy
      have hlt' : (k : Int) < 8 * b.length := by omega
      go_wp2_with (go_at_call 59; refine (refBit_any _ b lo _ _ k rfl _ HV.out (by omega) (by omega)).mono ?_; rintro e w1 ⟨rfl, rfl⟩; rw [HY.out])
      go_round
      case rel => exact ⟨k + 1, by omega, by omega, by go_num⟩
      case measure => simp [intOf]; omega
    · have hge : (8 : Int) * b.length ≤ k := by omega
      go_wp2
      go_loopw [9, 10] (fun u i wr => ∃ j : Nat, j ≤ n ∧ i = .int .i64 j ∧ Gw e64 wr W.heap.size u (up b j w) ∧ Below W.heap.size W wr) (fun _ i _ => n - (intOf i).toNat)
      case atStart => exact ⟨0, Nat.zero_le _, rfl, Gw.nil_ _ _, Below.refl _ _⟩
      case round =>
        obtain ⟨j, hj, rfl, ok, bk⟩ := hrel
        by_cases hl : j < n
        · have OK := Lib.hid ok
          have BK := Lib.hid bk
          clear ok bk
          go_wp2_with (first
            | (go_at_call 60; refine (refGet_yes _ b lo _ j w _ (HV.out.below BK.out) (by omega) h1 h2 (by omega)).mono ?_; rintro e w1 ⟨rfl, rfl⟩)
            | (at_builtin; refine wpList_gapp1 e64 _ rfl _ _ _ rfl W.heap.size sli64 inf64 u9 (up b j w) rfl OK.out _ (UInt64.ofNat (tk b (j * w) w)) (u64_of b _ _ h2).symm rfl (by rw [up_length]; omega) BK.out.size ?_; intro v2 w2 o2 g2 hh; clear hh))
          have b2 : Below W.heap.size W w2 := BK.out.grown g2 BK.out.size (fun i hi => (OK.out.lt i hi).1)
          go_roundw
          case rel => exact ⟨j + 1, hl, by go_num, by rw [up_snoc]; exact o2, b2⟩
          case measure => simp [intOf]; omega
        · obtain rfl : j = n := by omega
          go_wp2
          go_ret2
          exact ⟨_, rfl, ok, bk⟩

theorem refPack_noWidth (v : Value) (wI : Int) (W : World) (h : wI < 1 ∨ 64 < wI) :
    Calls Try.prog 50 #[v, .int .i64 wI] W fun e w' => e = .returned (.tuple #[.slice none 0 0, .int .i64 2]) ∧ W = w' := by
  by_cases h1 : wI < 1
  · clear h
    go_enter Try.func50, Try.ntmps50
    go_wp2
    go_ret2
    exact ⟨rfl, rfl⟩
  · have h2 : decide (wI < 1) = false := by simpa using h1
    have h3 : 64 < wI := by omega
    clear h h1
    go_enter Try.func50, Try.ntmps50
    go_wp2
    go_ret2
    exact ⟨rfl, rfl⟩
end Go.Proofs.Ytpanfpcfhgnkoaa
