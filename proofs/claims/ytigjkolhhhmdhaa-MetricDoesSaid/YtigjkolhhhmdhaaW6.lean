/- Walks: a whole number is read. -/
import Derived.Test.YtigjkolhhhmdhaaW5
namespace Go.Proofs.Ytigjkolhhhmdhaa
open Go.RowKit
set_option linter.unusedVariables false

theorem Ow.form_ {w : World} {base : Nat} {v : Value} {l : List UInt8} (h : Ow w base v l) (hl : l ≠ []) :
    ∃ b c, v = .slice (some ⟨b, 0, none⟩) l.length c ∧ l.length ≤ c ∧ c ≤ maxLen ∧ base ≤ b ∧ b < w.heap.size ∧ ∀ j x, l[j]? = some x → w.cell? ⟨b, j, none⟩ = some (b8 x) := by
  rcases h.2 with ⟨rfl, hn⟩ | ⟨g, cap, cur, rfl, hb, hg, hn, hm, hs, ht⟩
  · exact absurd (List.eq_nil_of_length_eq_zero hn) hl
  · refine ⟨g, cap, rfl, hn, hm, hb, (Array.getElem?_eq_some_iff.1 hg).1, fun j x hx => ?_⟩
    have h1 := World.ownsRow.cells h (g := g) rfl j (b8 x) (by rw [List.getElem?_map, hx]; rfl)
    have h2 : (⟨g, 0, none⟩ : Addr).add j = ⟨g, j, none⟩ := by unfold Addr.add; split <;> simp_all
    rw [← h2]; exact h1

/-- One round of a whole number. -/
theorem whole_step (l : List UInt8) (p k : Nat) (y : UInt8) (z D : Int) (h : l[p + k]? = some y) (hz : z = (y.toNat : Int)) (hD : D = (leVal ((l.drop p).take k) : Nat)) (hk : k ≤ 7) :
    bits BinOp.or IntKind.u64 D (IntKind.u64.wrap (z * 2 ^ (8 * k))) = (leVal ((l.drop p).take (k + 1)) : Nat) ∧ leVal ((l.drop p).take (k + 1)) < 18446744073709551616 := by
  subst hz hD
  have hpk : p + k < l.length := by
    rcases Nat.lt_or_ge (p + k) l.length with h1 | h1
    · exact h1
    · rw [List.getElem?_eq_none h1] at h; cases h
  have hlen : ((l.drop p).take k).length = k := by simp; omega
  have hb := leVal_lt ((l.drop p).take k)
  rw [hlen] at hb
  have hn := take_next (l.drop p) k y (by rw [List.getElem?_drop]; exact h)
  have hlt := leVal_lt ((l.drop p).take (k + 1))
  have hlen1 : ((l.drop p).take (k + 1)).length = k + 1 := by simp; omega
  rw [hlen1] at hlt
  have h64 : 2 ^ (8 * (k + 1)) ≤ 18446744073709551616 := Nat.pow_le_pow_right (n := 2) (by omega) (show 8 * (k + 1) ≤ 64 by omega)
  have hv : leVal ((l.drop p).take (k + 1)) = leVal ((l.drop p).take k) + y.toNat * 2 ^ (8 * k) := by rw [hn, leVal_snoc, hlen]
  refine ⟨?_, by omega⟩
  rw [hv] at hlt ⊢
  exact or_high _ _ _ hb (by omega) (by omega)

theorem ret2_u64 {a a' b b' : Int} (h : a = a') (h' : b = b') : Ending.returned (.tuple #[.int .u64 a, .int .i64 b]) = .returned (.tuple #[.int .u64 a', .int .i64 b']) := by rw [h, h']

set_option maxHeartbeats 400000 in
theorem lookWhole_no {base g : Nat} {v : Value} {l : List UInt8} {p : Nat} (s : Int) (w : World) (h : Rd w base g v l p false) (hs : (l.length : Int) - p < s) :
    Calls Try.prog 41 #[.pointer (some ⟨g, 0, none⟩), .int .i64 s] w fun e w' => e = .returned (.tuple #[.int .u64 0, .int .i64 0]) ∧ ∃ k, w' = w.drewN k := by
  obtain ⟨A, c, rfl, -⟩ := h.own.sl
  have h0 := h.c0
  have h1 := h.c1
  have h2 := h.c2
  have hle := h.le
  have hsm := h.small
  have hs' : ((l.length - p : Nat) : Int) < s := by omega
  clear h
  go_enter Try.func41, Try.ntmps41
  go_wp2_with (go_at_call 43; refine (left_good g A _ c p _ h0 h1 h2 hle (by omega)).mono ?_; rintro e w1 ⟨rfl, k1, rfl⟩)
  go_ret2
  exact ⟨rfl, k1, rfl⟩

set_option maxHeartbeats 400000 in
theorem lookWhole_yes {base g : Nat} {v : Value} {l : List UInt8} {p : Nat} (s : Nat) (w : World) (h : Rd w base g v l p false) (hs : p + s ≤ l.length) (hs1 : 1 ≤ s) (hs8 : s ≤ 8) :
    Calls Try.prog 41 #[.pointer (some ⟨g, 0, none⟩), .int .i64 s] w fun e w' => e = .returned (.tuple #[.int .u64 (leVal ((l.drop p).take s)), .int .i64 s]) ∧ ∃ k, w' = w.drewN k := by
  obtain ⟨b, c, rfl, hlc, hcm, -, -, hcell⟩ := h.own.form_ (by rintro rfl; simp at hs; omega)
  have h0 := h.c0
  have h1 := h.c1
  have h2 := h.c2
  have hle := h.le
  have hsm := h.small
  have hs' : decide (l.length - p < s) = false := by simp; omega
  unfold maxLen at hcm
  have hpc : (p : Int) + s ≤ c := by omega
  have hne : c ≠ p := by omega
  have HC := Lib.hid hcell
  clear h hcell
  go_enter Try.func41, Try.ntmps41
  go_wp2_with (go_at_call 43; refine (left_good g _ _ c p _ h0 h1 h2 hle (by omega)).mono ?_; rintro e w1 ⟨rfl, k1, rfl⟩)
  go_quiet (fail)
  go_wp2
  go_loop [4, 28] (fun n i => ∃ (k : Nat) (D : Int), k ≤ s ∧ i = .int .i64 k ∧ n = .int .u64 D ∧ 0 ≤ D ∧ D ≤ 18446744073709551615 ∧ D = (leVal ((l.drop p).take k) : Nat)) (fun _ i => s - (intOf i).toNat)
  case atStart => exact ⟨0, 0, by omega, rfl, rfl, by omega, by omega, by simp [leVal]⟩
  case round =>
    obtain ⟨k, D, hk, rfl, rfl, d0, d1, hD⟩ := hrel
    have HD := Lib.hid hD
    clear hD
    by_cases hlt : k < s
    · obtain ⟨y, hy⟩ : ∃ y, l[p + k]? = some y := ⟨_, List.getElem?_eq_getElem (by omega)⟩
      have hc := HC.out (p + k) y hy
      unfold b8 at hc
      have HY := Lib.hid hy
      clear hy
      obtain ⟨z, hz⟩ : ∃ z : Int, z = (y.toNat : Int) := ⟨_, rfl⟩
      rw [← hz] at hc
      have z0 : 0 ≤ z := by omega
      have z1 : z ≤ 255 := by have := y.toNat_lt; omega
      have HZ := Lib.hid hz
      clear hz
      go_wp2
      have hst := whole_step l p k y z D HY.out HZ.out HD.out (by omega)
      go_round
      case rel => exact ⟨_, _, _, _, ⟨k + 1, by omega, rfl, _, rfl, by rw [hst.1]; omega, by rw [hst.1]; omega, hst.1⟩, rfl, rfl, rfl, by go_num⟩
      case measure => simp [intOf]; omega
    · have hge : s ≤ k := by omega
      have hks : List.take k (l.drop p) = (l.drop p).take s := by rw [show k = s from by omega]
      have HK := Lib.hid hks
      clear hks
      go_wp2
      go_ret2
      exact ⟨ret2_u64 (by rw [HD.out, HK.out]) rfl, _, rfl⟩
end Go.Proofs.Ytigjkolhhhmdhaa
