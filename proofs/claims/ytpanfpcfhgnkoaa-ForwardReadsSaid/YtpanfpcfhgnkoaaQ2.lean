/- Walks: whether numbers are of a width; bits are taken, and put. -/
import Derived.Test.YtpanfpcfhgnkoaaQ1
import Derived.BigRegion
namespace Go.Proofs.Ytpanfpcfhgnkoaa
open Go.RowKit
set_option linter.unusedVariables false

def fitB (l : List UInt64) (w : Nat) : Bool := decide (∀ i, i < l.length → (l.getD i 0).toNat < 2 ^ w)
theorem fitB_iff (l : List UInt64) (w : Nat) : fitB l w = true ↔ fits l w := by unfold fitB fits; simp
set_option maxHeartbeats 400000 in
theorem fit_any (v : Value) (l : List UInt64) (lo hi : Nat) (wI : Int) (W : World) (hv : Gs e64 W lo hi v l) (h1 : 1 ≤ wI) (h2 : wI ≤ 64) :
    Calls Try.prog 45 #[v, .int .i64 wI] W fun e w' => e = .returned (.bool (fitB l wI.toNat)) ∧ W = w' := by
  have hlen := hv.len
  obtain ⟨A, c, rfl, -, -, -, hcell⟩ := hv
  have HC := Lib.hid hcell
  clear hcell
  go_enter Try.func45, Try.ntmps45
  go_wp2
  go_loop [9] (fun i => ∃ k : Nat, k ≤ l.length ∧ i = .int .i64 k ∧ ∀ j, j < k → (l.getD j 0).toNat < 2 ^ wI.toNat) (fun i => l.length - (intOf i).toNat)
  case atStart => exact ⟨0, Nat.zero_le _, rfl, fun j hj => absurd hj (Nat.not_lt_zero _)⟩
  case round =>
    obtain ⟨k, hk, rfl, hall⟩ := hrel
    have HALL := Lib.hid hall
    clear hall
    by_cases hlt : k < l.length
    · obtain ⟨b, off, rfl, -, -, hc⟩ := HC.out (by rintro rfl; simp at hlt)
      have hck := hc k l[k] (List.getElem?_eq_getElem hlt)
      simp only [e64, b64] at hck
      obtain ⟨z, hz⟩ : ∃ z : Int, z = (l[k].toNat : Int) := ⟨_, rfl⟩
      rw [← hz] at hck
      have z0 : 0 ≤ z := by omega
      have z1 : z ≤ 18446744073709551615 := by have := l[k].toNat_lt; omega
      have hw := wd_fit z.toNat wI.toNat (by omega)
      have hzk : z.toNat = (l.getD k 0).toNat := by rw [List.getD_eq_getElem?_getD, List.getElem?_eq_getElem hlt, Option.getD_some]; omega
      have HW := Lib.hid hw
      have HZ := Lib.hid hzk
      clear hc hz hw hzk
      by_cases hf : (wI.toNat : Int) < (wd z.toNat : Nat)
      · have hf' : wI < (wd z.toNat : Nat) := by omega
        have HF : fitB l wI.toNat = false := by
          rw [← Bool.not_eq_true, fitB_iff]
          intro h
          have h3 := h k hlt
          rw [← HZ.out, ← HW.out] at h3
          omega
        go_wp2_with (go_at_call 43; refine (width_any _ _ z0 z1).mono ?_; rintro e w1 ⟨rfl, rfl⟩)
        go_ret
        first | exact ⟨rfl, rfl⟩ | exact ⟨by rw [HF]; rfl, rfl⟩
      · have hf' : ¬ wI < (wd z.toNat : Nat) := by omega
        go_wp2_with (go_at_call 43; refine (width_any _ _ z0 z1).mono ?_; rintro e w1 ⟨rfl, rfl⟩)
        go_round
        case rel =>
          refine ⟨k + 1, hlt, by go_num, fun j hj => ?_⟩
          rcases Nat.lt_or_ge j k with h | h
          · exact HALL.out j h
          · obtain rfl : j = k := by omega
            rw [← HZ.out, ← HW.out]
            omega
        case measure => simp [intOf]; omega
    · obtain rfl : k = l.length := by omega
      have HF : fitB l wI.toNat = true := (fitB_iff _ _).2 HALL.out
      go_wp2
      go_ret
      first | exact ⟨rfl, rfl⟩ | exact ⟨by rw [HF]; rfl, rfl⟩

theorem bit_take : ∀ (x : Fin 256) (s : Fin 8), IntKind.u64.wrap (bits BinOp.and IntKind.u8 ((x.val : Int) / 2 ^ s.val) 1) = ((x.val.testBit s.val).toNat : Int) := by decide +kernel
theorem take_step (b : List UInt8) (a k : Nat) (hk : k < 64) :
    bits BinOp.or IntKind.u64 (tk b a k : Nat) (IntKind.u64.wrap (IntKind.u64.wrap (bits BinOp.and IntKind.u8 (((b[(a + k) / 8]?.getD 0).toNat : Int) / 2 ^ ((a + k) % 8)) 1) * 2 ^ k)) = (tk b a (k + 1) : Nat) := by
  have h := bit_take ⟨(b[(a + k) / 8]?.getD 0).toNat, UInt8.toNat_lt _⟩ ⟨(a + k) % 8, by omega⟩
  simp only at h
  have e : (b[(a + k) / 8]?.getD 0).toNat.testBit ((a + k) % 8) = bb b (a + k) := by unfold bb; rw [List.getD_eq_getElem?_getD]
  rw [h, e]
  have hlt := tk_lt b a k
  have hp : 2 ^ k ≤ 2 ^ 63 := Nat.pow_le_pow_right (n := 2) (by omega) (by omega)
  have hz : (bb b (a + k)).toNat * 2 ^ k < 18446744073709551616 := by cases bb b (a + k) <;> simp <;> omega
  rw [or_high _ _ _ hlt hz (by omega), tk]

set_option maxHeartbeats 1000000 in
theorem take_any (v : Value) (l : List UInt8) (lo hi : Nat) (a c : Nat) (W : World) (hv : Gs e8 W lo hi v l) (ha : a ≤ 100000000000000) (hc : c ≤ 64) (hl : l.length ≤ 1000000000) :
    Calls Try.prog 64 #[v, .int .i64 a, .int .i64 c] W fun e w' => e = .returned (.int .u64 (tk l a c)) ∧ W = w' := by
  obtain ⟨A, cp, rfl, -, -, -, hcell⟩ := hv
  have HC := Lib.hid hcell
  clear hcell
  by_cases hp : 8 * l.length < a
  · have ht := tk_past l a c (by omega)
    have HT := Lib.hid ht
    clear ht
    go_enter Try.func64, Try.ntmps64
    go_wp2
    refine wp_loop_rounds 1 ?_
    rw [rounds_succ]
    go_wp2
    go_ret
    exact ⟨by rw [HT.out]; rfl, rfl⟩
  · obtain ⟨m, hm'⟩ : ∃ m : Nat, m = min c (8 * l.length - a) := ⟨_, rfl⟩
    have ht := tk_min l a c (by omega)
    rw [← hm'] at ht
    have hmc : m ≤ c := by omega
    have hml : a + m ≤ 8 * l.length := by omega
    have hor : (c : Int) ≤ 8 * l.length - a ∧ c ≤ m ∨ ¬ (c : Int) ≤ 8 * l.length - a ∧ 8 * (l.length : Int) - a ≤ m := by omega
    have HT := Lib.hid ht
    clear ht hm'
    rcases hor with ⟨o1, o2⟩ | ⟨o1, o2⟩
    all_goals
      go_enter Try.func64, Try.ntmps64
      go_wp2
      go_loop [7, 16] (fun n i => ∃ k : Nat, k ≤ m ∧ i = .int .i64 k ∧ n = .int .u64 (tk l a k)) (fun _ i => m - (intOf i).toNat)
      case atStart => exact ⟨0, Nat.zero_le _, rfl, rfl⟩
      case round =>
        obtain ⟨k, hk, rfl, rfl⟩ := hrel
        by_cases hlt : k < m
        · obtain ⟨b, off, rfl, -, -, hcl⟩ := HC.out (by rintro rfl; simp at hml; omega)
          have hck := hcl ((a + k) / 8) (l.getD ((a + k) / 8) 0) (by rw [List.getD_eq_getElem?_getD, List.getElem?_eq_getElem (by omega), Option.getD_some])
          simp only [e8, b8] at hck
          clear hcl
          go_wp2
          go_round
          case rel => exact ⟨k + 1, by omega, by go_num, congrArg (Value.int IntKind.u64) (take_step l a k (by omega))⟩
          case measure => simp [intOf]; omega
        · obtain rfl : k = m := by omega
          go_wp2
          go_ret
          exact ⟨by rw [HT.out]; rfl, rfl⟩

theorem and_one (X : Nat) (h : X < 18446744073709551616) : bits BinOp.and IntKind.u64 (X : Int) 1 = ((X % 2 : Nat) : Int) := by
  have := u64_and_nat X 1 h (by omega)
  rw [Nat.and_one_is_mod] at this
  exact this
theorem or_u8 : ∀ (x : Fin 256) (s : Fin 8) (e : Bool), bits BinOp.or IntKind.u8 (x.val : Int) ((e.toNat : Int) % 256 * 2 ^ s.val % 256) = ((UInt8.ofNat x.val ||| UInt8.ofNat (e.toNat * 2 ^ s.val)).toNat : Int) := by decide +kernel
theorem put_val (z : UInt8) (N : Int) (n k s : Nat) (hN : N = n) (hn : n < 18446744073709551616) (hs : s < 8) :
    bits BinOp.or IntKind.u8 (z.toNat : Int) (bits BinOp.and IntKind.u64 (N / 2 ^ k) 1 % 256 * 2 ^ s % 256) = ((z ||| UInt8.ofNat (n / 2 ^ k % 2 * 2 ^ s)).toNat : Int) := by
  subst hN
  have e1 : ((n : Int) / 2 ^ k) = ((n / 2 ^ k : Nat) : Int) := by rw [Int.natCast_ediv, Int.natCast_pow]; rfl
  have hle : n / 2 ^ k ≤ n := Nat.div_le_self _ _
  rw [e1, and_one _ (by omega), mod_two]
  have := or_u8 ⟨z.toNat, z.toNat_lt⟩ ⟨s, hs⟩ (n.testBit k)
  simp only [UInt8.ofNat_toNat] at this
  exact this

set_option maxHeartbeats 1000000 in
theorem put_any (v : Value) (l : List UInt8) (base : Nat) (a n c : Nat) (W : World) (hv : Gw e8 W base v l) (hc0 : 1 ≤ c) (hc : c ≤ 64) (ha : a + c ≤ 8 * l.length) (hn : n < 18446744073709551616) (hl : l.length ≤ 1000000000) :
    Calls Try.prog 47 #[v, .int .i64 a, .int .u64 n, .int .i64 c] W fun e w' => e = .returned (.tuple #[]) ∧ Gw e8 w' base v (pt l a n c) ∧ W.grownBy w' v.ownBlock := by
  obtain ⟨b, cp, rfl, hlc, hcm, -, -, -, -⟩ := hv.form (by rintro rfl; simp at ha; omega)
  obtain ⟨N, hN⟩ : ∃ N : Int, N = n := ⟨_, rfl⟩
  have n0 : 0 ≤ N := by omega
  have n1 : N ≤ 18446744073709551615 := by omega
  rw [← hN]
  have HN := Lib.hid hN
  clear hN hn
  unfold maxLen at hcm
  go_enter Try.func47, Try.ntmps47
  go_wp2
  go_loopw [10] (fun i wr => ∃ k : Nat, k ≤ c ∧ i = .int .i64 k ∧ Gw e8 wr base (.slice (some ⟨b, 0, none⟩) l.length cp) (pt l a n k) ∧ W.grownBy wr (some b)) (fun i _ => c - (intOf i).toNat)
  case atStart => exact ⟨0, Nat.zero_le _, rfl, hv, World.grownBy.refl _ _⟩
  case round =>
    obtain ⟨k, hk, rfl, ok, gk⟩ := hrel
    by_cases hlt : k < c
    · have hne : pt l a n k ≠ [] := by
        intro h
        have h2 := congrArg List.length h
        rw [pt_length, List.length_nil] at h2
        omega
      obtain ⟨b', cp', e', -, -, -, -, hcl, hfr⟩ := ok.form hne
      rw [pt_length] at e'
      injection e' with e1 e2 e3
      injection e1 with e1
      injection e1 with e1
      subst e1 e3
      have hck := hcl ((a + k) / 8) ((pt l a n k).getD ((a + k) / 8) 0) (by rw [List.getD_eq_getElem?_getD, List.getElem?_eq_getElem (by rw [pt_length]; omega), Option.getD_some])
      simp only [e8, b8] at hck
      have hfz := hfr ((a + k) / 8)
      obtain ⟨z, hz⟩ : ∃ z : UInt8, z = (pt l a n k).getD ((a + k) / 8) 0 := ⟨_, rfl⟩
      rw [← hz] at hck
      have HZ := Lib.hid hz
      clear hcl hfr e2 hz
      have OK := Lib.hid ok
      have GK := Lib.hid gk
      clear ok gk
      go_wp2
      go_region
      go_wp2
      have hst := OK.out.stored ((a + k) / 8) (z ||| UInt8.ofNat (n / 2 ^ k % 2 * 2 ^ ((a + k) % 8)))
      have hval := put_val z N n k ((a + k) % 8) HN.out (by have := HN.out; omega) (by omega)
      simp only [e8, b8] at hst
      rw [hval]
      rw [HZ.out] at hst ⊢
      go_roundw
      case rel => exact ⟨k + 1, by omega, by go_num, hst, (show W.grownBy _ (some b) from grown_drewN (GK.out.trans (grown_set _ _ _ _)) 1)⟩
      case measure => simp [intOf]; omega
    · obtain rfl : k = c := by omega
      go_wp2
      go_end0
      exact ⟨rfl, ok, gk⟩
end Go.Proofs.Ytpanfpcfhgnkoaa
