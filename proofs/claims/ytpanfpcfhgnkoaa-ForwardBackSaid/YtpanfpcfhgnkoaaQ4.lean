/- Walks: numbers are unpacked; one is got. -/
import Derived.Test.YtpanfpcfhgnkoaaQ3
namespace Go.Proofs.Ytpanfpcfhgnkoaa
open Go.RowKit
set_option linter.unusedVariables false

theorem unpack_noArg (v : Value) (n wI : Int) (W : World) (h : n < 0 ∨ 1099511627776 < n ∨ wI < 1 ∨ 64 < wI) :
    Calls Try.prog 55 #[v, .int .i64 n, .int .i64 wI] W fun e w' => e = .returned (.tuple #[.slice none 0 0, .int .i64 2]) ∧ W = w' := by
  by_cases hn : n < 0 ∨ 1099511627776 < n
  · clear h
    go_enter Try.func55, Try.ntmps55
    go_wp2_with (go_at_call 63; refine (isCount_no _ _ hn).mono ?_; rintro e w1 ⟨rfl, rfl⟩)
    go_ret2
    exact ⟨rfl, rfl⟩
  · have h0 : 0 ≤ n := by omega
    have h1 : n ≤ 1099511627776 := by omega
    have hw : wI < 1 ∨ 64 < wI := by omega
    clear h hn
    go_enter Try.func55, Try.ntmps55
    go_wp2_with (first | (go_at_call 63; refine (isCount_yes _ _ h0 h1).mono ?_; rintro e w1 ⟨rfl, rfl⟩) | (go_at_call 44; refine (isWidth_no _ _ hw).mono ?_; rintro e w1 ⟨rfl, rfl⟩))
    go_ret2
    exact ⟨rfl, rfl⟩
set_option maxHeartbeats 400000 in
theorem unpack_short (v : Value) (b : List UInt8) (lo hi n w : Nat) (W : World) (hv : Gs e8 W lo hi v b) (hn : n ≤ 1099511627776) (h1 : 1 ≤ w) (h2 : w ≤ 64) (hs : b.length < sz n w) :
    Calls Try.prog 55 #[v, .int .i64 n, .int .i64 w] W fun e w' => e = .returned (.tuple #[.slice none 0 0, .int .i64 4]) ∧ W = w' := by
  have hm := mul_bound n w _ hn h2
  have hlen := hv.len
  obtain ⟨A, c, rfl, -, -, -, -⟩ := hv
  have hd : decide (b.length < sz n w) = true := by simpa using hs
  go_enter Try.func55, Try.ntmps55
  go_wp2_with (first
    | (go_at_call 63; refine (isCount_yes _ _ (by omega) (by omega)).mono ?_; rintro e w1 ⟨rfl, rfl⟩)
    | (go_at_call 44; refine (isWidth_yes _ _ (by omega) (by omega)).mono ?_; rintro e w1 ⟨rfl, rfl⟩)
    | (go_at_call 46; refine (size_yes n w _ hn h1 h2).mono ?_; rintro e w1 ⟨rfl, rfl⟩))
  go_ret2
  exact ⟨rfl, rfl⟩
set_option maxHeartbeats 400000 in
theorem unpack_long (v : Value) (b : List UInt8) (lo hi n w : Nat) (W : World) (hv : Gs e8 W lo hi v b) (hn : n ≤ 1099511627776) (h1 : 1 ≤ w) (h2 : w ≤ 64) (hs : sz n w < b.length) :
    Calls Try.prog 55 #[v, .int .i64 n, .int .i64 w] W fun e w' => e = .returned (.tuple #[.slice none 0 0, .int .i64 5]) ∧ W = w' := by
  have hm := mul_bound n w _ hn h2
  have hlen := hv.len
  obtain ⟨A, c, rfl, -, -, -, -⟩ := hv
  have hd : decide (b.length < sz n w) = false := by simp; omega
  have hd2 : decide (sz n w < b.length) = true := by simpa using hs
  go_enter Try.func55, Try.ntmps55
  go_wp2_with (first
    | (go_at_call 63; refine (isCount_yes _ _ (by omega) (by omega)).mono ?_; rintro e w1 ⟨rfl, rfl⟩)
    | (go_at_call 44; refine (isWidth_yes _ _ (by omega) (by omega)).mono ?_; rintro e w1 ⟨rfl, rfl⟩)
    | (go_at_call 46; refine (size_yes n w _ hn h1 h2).mono ?_; rintro e w1 ⟨rfl, rfl⟩))
  go_ret2
  exact ⟨rfl, rfl⟩
set_option maxHeartbeats 400000 in
theorem unpack_rest (v : Value) (b : List UInt8) (lo hi n w : Nat) (W : World) (hv : Gs e8 W lo hi v b) (hn : n ≤ 1099511627776) (h1 : 1 ≤ w) (h2 : w ≤ 64) (hs : b.length = sz n w) (hz : tk b (n * w) (8 * b.length - n * w) ≠ 0) (hb : b.length ≤ 1000000) :
    Calls Try.prog 55 #[v, .int .i64 n, .int .i64 w] W fun e w' => e = .returned (.tuple #[.slice none 0 0, .int .i64 5]) ∧ W = w' := by
  have hm := mul_bound n w _ hn h2
  have hv0 := hv
  obtain ⟨A, c, rfl, -, -, -, -⟩ := hv
  have HV := Lib.hid hv0
  clear hv0
  have hsz := sz_le n w
  rw [← hs] at hsz
  obtain ⟨T, hT⟩ : ∃ T : Nat, T = tk b (n * w) (8 * b.length - n * w) := ⟨_, rfl⟩
  rw [← hT] at hz
  have hz' : ((T : Int) == 0) = false := by simpa using hz
  have hz'' : ((T : Int) != 0) = true := by simpa using hz
  have HT := Lib.hid hT.symm
  have HS := Lib.hid hs.symm
  clear hT hs
  go_enter Try.func55, Try.ntmps55
  go_wp2_with (first
    | (go_at_call 63; refine (isCount_yes _ _ (by omega) (by omega)).mono ?_; rintro e w1 ⟨rfl, rfl⟩)
    | (go_at_call 44; refine (isWidth_yes _ _ (by omega) (by omega)).mono ?_; rintro e w1 ⟨rfl, rfl⟩)
    | (go_at_call 46; refine (size_yes n w _ hn h1 h2).mono ?_; rintro e w1 ⟨rfl, rfl⟩; rw [HS.out])
    | (go_at_call 64; refine (take_int _ b lo hi _ _ (n * w) (8 * b.length - n * w) (by push_cast; rfl) (by push_cast; omega) _ HV.out (by omega) (by omega) (by omega)).mono ?_; rintro e w1 ⟨rfl, rfl⟩; rw [HT.out]))
  go_ret2
  exact ⟨rfl, rfl⟩

/-- The numbers unpacked so far, and nought behind. -/
def ups (b : List UInt8) (n w k : Nat) : List UInt64 := up b k w ++ List.replicate (n - k) 0
theorem ups_zero (b : List UInt8) (n w : Nat) : ups b n w 0 = List.replicate n 0 := by simp [ups, up]
theorem ups_all (b : List UInt8) (n w : Nat) : ups b n w n = up b n w := by simp [ups]
theorem ups_step (b : List UInt8) (n w k : Nat) (hk : k < n) : (ups b n w k).set k (UInt64.ofNat (tk b (k * w) w)) = ups b n w (k + 1) := by
  unfold ups
  obtain ⟨m, hm⟩ : ∃ m, n - k = m + 1 := ⟨n - k - 1, by omega⟩
  have hm' : n - (k + 1) = m := by omega
  rw [hm, hm', up_snoc, List.replicate_succ, List.set_append_right _ _ (by rw [up_length]; exact Nat.le_refl _), up_length, Nat.sub_self, List.set_cons_zero, List.append_assoc]
  rfl
theorem u64_of (b : List UInt8) (a w : Nat) (hw : w ≤ 64) : b64 (UInt64.ofNat (tk b a w)) = .int .u64 (tk b a w : Nat) := by
  have hlt := tk_lt b a w
  have hp : 2 ^ w ≤ 2 ^ 64 := Nat.pow_le_pow_right (n := 2) (by omega) hw
  unfold b64
  congr 1
  simp
  omega
set_option maxHeartbeats 1000000 in
theorem unpack_yes (v : Value) (b : List UInt8) (lo n w : Nat) (W : World) (hv : Gs e8 W lo W.heap.size v b) (h1 : 1 ≤ w) (h2 : w ≤ 64) (hs : b.length = sz n w) (hz : tk b (n * w) (8 * b.length - n * w) = 0) (hb : b.length ≤ 100000) :
    Calls Try.prog 55 #[v, .int .i64 n, .int .i64 w] W fun e w' => ∃ v', e = .returned (.tuple #[v', .int .i64 0]) ∧ Gw e64 w' W.heap.size v' (up b n w) ∧ Below W.heap.size W w' := by
  have hsz := sz_le n w
  rw [← hs] at hsz
  have hnw : n ≤ n * w := Nat.le_mul_of_pos_right n h1
  have hn : n ≤ 800000 := by omega
  have hm := mul_bound n w _ hn h2
  have hv0 := hv
  obtain ⟨A, c, rfl, -, -, -, -⟩ := hv
  have HV := Lib.hid hv0
  clear hv0
  have HT := Lib.hid hz
  have HS := Lib.hid hs.symm
  clear hz hs
  go_enter Try.func55, Try.ntmps55
  go_wp2_with (first
    | (go_at_call 63; refine (isCount_yes _ _ (by omega) (by omega)).mono ?_; rintro e w1 ⟨rfl, rfl⟩)
    | (go_at_call 44; refine (isWidth_yes _ _ (by omega) (by omega)).mono ?_; rintro e w1 ⟨rfl, rfl⟩)
    | (go_at_call 46; refine (size_yes n w _ (by omega) h1 h2).mono ?_; rintro e w1 ⟨rfl, rfl⟩; rw [HS.out])
    | (go_at_call 64; refine (take_int _ b lo W.heap.size _ _ (n * w) (8 * b.length - n * w) (by push_cast; rfl) (by push_cast; omega) _ HV.out (by omega) (by omega) (by omega)).mono ?_; rintro e w1 ⟨rfl, rfl⟩; rw [HT.out])
    | (at_make; refine wpList_gfull e64 _ rfl _ _ _ rfl sli64 inf64 _ _ _ _ n rfl rfl rfl rfl (by omega) ?_; intro w1 o1 g1))
  have hb1 : Below W.heap.size W w1 := below_of_grown g1 (fun k h => by cases h)
  obtain ⟨g, hg⟩ : ∃ g, g = W.heap.size := ⟨_, rfl⟩
  have o2 : Gw e64 w1 W.heap.size (.slice (some ⟨g, 0, none⟩) n n) (ups b n w 0) := by rw [hg, ups_zero]; exact o1
  rw [← hg]
  clear hg o1 g1
  go_loopw [48] (fun i wr => ∃ k : Nat, k ≤ n ∧ i = .int .i64 k ∧ Gw e64 wr W.heap.size (.slice (some ⟨g, 0, none⟩) n n) (ups b n w k) ∧ Below W.heap.size W wr) (fun i _ => n - (intOf i).toNat)
  case atStart => exact ⟨0, Nat.zero_le _, rfl, o2, hb1⟩
  case round =>
    obtain ⟨k, hk, rfl, ok, bk⟩ := hrel
    by_cases hlt : k < n
    · have hkm := mul_le k n w hlt
      obtain ⟨b', c', e', -, -, hge, hltb, hcl, hfr⟩ := ok.form (by intro h; have h2 := congrArg List.length h; simp [ups, up_length] at h2; omega)
      injection e' with e1 e2 e3
      injection e1 with e1
      injection e1 with e1
      subst e1
      have hfz := hfr k
      obtain ⟨y, hy⟩ : ∃ y, (ups b n w k)[k]? = some y := ⟨_, List.getElem?_eq_getElem (by simp [ups, up_length]; omega)⟩
      have hck := hcl k y hy
      have hst := ok.stored k (UInt64.ofNat (tk b (k * w) w))
      rw [ups_step b n w k hlt] at hst
      have e8 : e64.val (UInt64.ofNat (tk b (k * w) w)) = .int .u64 (tk b (k * w) w : Nat) := u64_of b _ _ h2
      rw [e8] at hst
      have HST := Lib.hid hst
      have BK := Lib.hid bk
      clear hcl hfr e2 e3 hy hst e8 ok bk
      go_wp2_with (go_at_call 64; refine (take_int _ b lo W.heap.size _ _ (k * w) w (by push_cast; rfl) rfl _ (HV.out.below BK.out) (by omega) (by omega) (by omega)).mono ?_; rintro e w2 ⟨rfl, rfl⟩)
      go_roundw
      case rel => exact ⟨k + 1, hlt, by go_num, HST.out, BK.out.setCell (by simpa using hge) _⟩
      case measure => simp [intOf]; omega
    · obtain rfl : k = n := by omega
      have e9 := ups_all b k w
      rw [e9] at ok
      clear e9
      go_wp2
      go_ret2
      exact ⟨_, rfl, ok, bk⟩

theorem get_no (v : Value) (i wI : Int) (W : World) (h : i < 0 ∨ 1099511627776 < i ∨ wI < 1 ∨ 64 < wI) :
    Calls Try.prog 48 #[v, .int .i64 i, .int .i64 wI] W fun e w' => e = .returned (.int .u64 0) ∧ W = w' := by
  by_cases hn : i < 0 ∨ 1099511627776 < i
  · clear h
    go_enter Try.func48, Try.ntmps48
    go_wp2_with (go_at_call 63; refine (isCount_no _ _ hn).mono ?_; rintro e w1 ⟨rfl, rfl⟩)
    go_ret
    exact ⟨rfl, rfl⟩
  · have h0 : 0 ≤ i := by omega
    have h1 : i ≤ 1099511627776 := by omega
    have hw : wI < 1 ∨ 64 < wI := by omega
    clear h hn
    go_enter Try.func48, Try.ntmps48
    go_wp2_with (first | (go_at_call 63; refine (isCount_yes _ _ h0 h1).mono ?_; rintro e w1 ⟨rfl, rfl⟩) | (go_at_call 44; refine (isWidth_no _ _ hw).mono ?_; rintro e w1 ⟨rfl, rfl⟩))
    go_ret
    exact ⟨rfl, rfl⟩
set_option maxHeartbeats 400000 in
theorem get_yes (v : Value) (b : List UInt8) (lo hi i w : Nat) (W : World) (hv : Gs e8 W lo hi v b) (hi : i ≤ 1099511627776) (h1 : 1 ≤ w) (h2 : w ≤ 64) (hb : b.length ≤ 1000000000) :
    Calls Try.prog 48 #[v, .int .i64 i, .int .i64 w] W fun e w' => e = .returned (.int .u64 (tk b (i * w) w)) ∧ W = w' := by
  have hm := mul_bound i w _ hi h2
  go_enter Try.func48, Try.ntmps48
  go_wp2_with (first
    | (go_at_call 63; refine (isCount_yes _ _ (by omega) (by omega)).mono ?_; rintro e w1 ⟨rfl, rfl⟩)
    | (go_at_call 44; refine (isWidth_yes _ _ (by omega) (by omega)).mono ?_; rintro e w1 ⟨rfl, rfl⟩)
    | (go_at_call 64; refine (take_int _ b lo _ _ _ (i * w) w (by push_cast; rfl) rfl _ hv (by omega) (by omega) hb).mono ?_; rintro e w1 ⟨rfl, rfl⟩))
  go_ret
  exact ⟨rfl, rfl⟩
end Go.Proofs.Ytpanfpcfhgnkoaa
