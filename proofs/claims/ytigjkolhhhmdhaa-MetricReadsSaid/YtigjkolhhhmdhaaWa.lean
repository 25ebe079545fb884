/- Walks: the readers of numbers, of bytes, of what is left. -/
import Derived.Test.YtigjkolhhhmdhaaW9
namespace Go.Proofs.Ytigjkolhhhmdhaa
open Go.RowKit
set_option linter.unusedVariables false

theorem rd_lt (l : List UInt8) (p : Nat) (x : Bool) (s : Nat) (hs : 1 ≤ s) : (rd l p x s).1 < 2 ^ (8 * s) := by
  have hp : 0 < 2 ^ (8 * s) := Nat.two_pow_pos _
  unfold rd
  cases x with
  | true => simpa using hp
  | false =>
    rw [if_neg (by simp)]
    simp only [if_neg (show s ≠ 0 by omega)]
    unfold rdW
    split
    · exact hp
    · rename_i h
      have h1 := leVal_lt ((l.drop p).take s)
      have h2 : ((l.drop p).take s).length = s := by simp at h ⊢; omega
      rw [h2] at h1
      exact h1
theorem number_at {base g : Nat} {v : Value} {l : List UInt8} {p : Nat} {x : Bool} (S : Int) (s : Nat) (hS : S = (s : Int)) (w : World) (h : Rd w base g v l p x) (hs8 : s ≤ 8) :
    Calls Try.prog 35 #[.pointer (some ⟨g, 0, none⟩), .int .i64 S] w fun e w' => e = .returned (.int .u64 (rd l p x s).1) ∧
      Rd w' base g v l (rd l p x s).2.1 (rd l p x s).2.2 ∧ w.grownBy w' (some g) := by
  subst hS
  exact number_any s w h hs8

set_option maxHeartbeats 400000 in
theorem U32_any {base g : Nat} {v : Value} {l : List UInt8} {p : Nat} {x : Bool} (w : World) (h : Rd w base g v l p x) :
    Calls Try.prog 25 #[.pointer (some ⟨g, 0, none⟩)] w fun e w' => e = .returned (.int .u32 (rd l p x 4).1) ∧ Rd w' base g v l (rd l p x 4).2.1 (rd l p x 4).2.2 ∧ w.grownBy w' (some g) := by
  have hlt := rd_lt l p x 4 (by omega)
  have hc := number_at 4 4 rfl w h (by omega)
  generalize rd l p x 4 = r at *
  obtain ⟨n, q, y⟩ := r
  simp only at hc hlt ⊢
  have HC := Lib.hid hc
  have n1 : (n : Int) < 4294967296 := by omega
  clear hc h hlt
  go_enter Try.func25, Try.ntmps25
  go_wp2_with (go_at_call 35; refine HC.out.mono ?_; rintro e w1 ⟨rfl, hr, hg⟩)
  go_ret
  exact ⟨rfl, hr, hg⟩
set_option maxHeartbeats 400000 in
theorem U32_nil (w : World) : Calls Try.prog 25 #[.pointer none] w fun e w' => e = .returned (.int .u32 0) ∧ w = w' := by
  go_enter Try.func25, Try.ntmps25
  go_wp2_with (go_at_call 35; refine (number_nil _ _).mono ?_; rintro e w1 ⟨rfl, rfl⟩)
  go_ret
  exact ⟨rfl, rfl⟩

set_option maxHeartbeats 400000 in
theorem U64_any {base g : Nat} {v : Value} {l : List UInt8} {p : Nat} {x : Bool} (w : World) (h : Rd w base g v l p x) :
    Calls Try.prog 36 #[.pointer (some ⟨g, 0, none⟩)] w fun e w' => e = .returned (.int .u64 (rd l p x 8).1) ∧ Rd w' base g v l (rd l p x 8).2.1 (rd l p x 8).2.2 ∧ w.grownBy w' (some g) := by
  have hc := number_at 8 8 rfl w h (by omega)
  generalize rd l p x 8 = r at *
  obtain ⟨n, q, y⟩ := r
  simp only at hc ⊢
  have HC := Lib.hid hc
  clear hc h
  go_enter Try.func36, Try.ntmps36
  go_wp2_with (go_at_call 35; refine HC.out.mono ?_; rintro e w1 ⟨rfl, hr, hg⟩)
  go_ret
  exact ⟨rfl, hr, hg⟩
set_option maxHeartbeats 400000 in
theorem U64_nil (w : World) : Calls Try.prog 36 #[.pointer none] w fun e w' => e = .returned (.int .u64 0) ∧ w = w' := by
  go_enter Try.func36, Try.ntmps36
  go_wp2_with (go_at_call 35; refine (number_nil _ _).mono ?_; rintro e w1 ⟨rfl, rfl⟩)
  go_ret
  exact ⟨rfl, rfl⟩

theorem Bad_any {base g : Nat} {v : Value} {l : List UInt8} {p : Nat} {x : Bool} (w : World) (h : Rd w base g v l p x) :
    Calls Try.prog 39 #[.pointer (some ⟨g, 0, none⟩)] w fun e w' => e = .returned (.bool x) ∧ w = w' := bad_at g x w h.c2
/-- How many bytes are left. -/
def lf (l : List UInt8) (p : Nat) (x : Bool) : Nat := if x then 0 else l.length - p
theorem Left_any {base g : Nat} {v : Value} {l : List UInt8} {p : Nat} {x : Bool} (w : World) (h : Rd w base g v l p x) :
    Calls Try.prog 43 #[.pointer (some ⟨g, 0, none⟩)] w fun e w' => e = .returned (.int .i64 (lf l p x)) ∧ ∃ k, w' = w.drewN k := by
  cases x with
  | true =>
    refine (left_bad g w h.c2).mono ?_
    rintro e w' ⟨rfl, rfl⟩
    exact ⟨rfl, 0, rfl⟩
  | false =>
    have hle := h.le
    have hsm := h.small
    obtain ⟨A, c, rfl, -⟩ := h.own.sl
    exact left_good g A _ c p w h.c0 h.c1 h.c2 hle (by omega)
set_option maxHeartbeats 400000 in
theorem Left_nil (w : World) : Calls Try.prog 43 #[.pointer none] w fun e w' => e = .returned (.int .i64 0) ∧ w = w' := by
  go_enter Try.func43, Try.ntmps43
  go_wp2_with (go_at_call 39; refine (bad_nil _).mono ?_; rintro e w1 ⟨rfl, rfl⟩)
  go_ret
  exact ⟨rfl, rfl⟩
end Go.Proofs.Ytigjkolhhhmdhaa
