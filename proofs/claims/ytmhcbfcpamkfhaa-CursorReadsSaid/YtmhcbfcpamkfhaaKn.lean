/- Walks: 'known' answers true, and writes nothing that was there. -/
import Derived.Test.YtmhcbfcpamkfhaaWa
namespace Go.Proofs.Ytmhcbfcpamkfhaa
open Go.RowKit
set_option linter.unusedVariables false

theorem sl_lit (w : World) (l : List UInt8) (cs : Array Value) (n : Nat) (h : cs = (l.map b8).toArray) (hn : l.length = n) (hs : n ≤ 1000) :
    Sl (w.alloc (.cells cs 5)) w.heap.size (w.alloc (.cells cs 5)).heap.size (.slice (some ⟨w.heap.size, 0, none⟩) n n) l := by
  subst h hn
  refine ⟨_, _, rfl, fun e => (by cases e), Nat.le_refl _, by unfold maxLen; omega, fun _ => ⟨w.heap.size, 0, rfl, Nat.le_refl _, by simp, fun j x hx => ?_⟩⟩
  rw [(Row.new w 5 (l.map b8).toArray).cell]
  simp [hx]

theorem Uint_spec {base g : Nat} {v : Value} {l : List UInt8} {p : Nat} {x : Bool} {n q : Nat} {y : Bool} (h : rd l p x 0 = (n, q, y)) (w : World) (hr : Rd w base g v l p x) :
    Calls Try.prog 21 #[.pointer (some ⟨g, 0, none⟩)] w fun e w' => e = .returned (.int .u64 n) ∧ Rd w' base g v l q y ∧ w.grownBy w' (some g) := by
  have hc := Uint_any w hr
  rw [h] at hc
  exact hc
theorem U16_spec {base g : Nat} {v : Value} {l : List UInt8} {p : Nat} {x : Bool} {n q : Nat} {y : Bool} (h : rd l p x 2 = (n, q, y)) (w : World) (hr : Rd w base g v l p x) :
    Calls Try.prog 18 #[.pointer (some ⟨g, 0, none⟩)] w fun e w' => e = .returned (.int .u16 n) ∧ Rd w' base g v l q y ∧ w.grownBy w' (some g) := by
  have hc := U16_any w hr
  rw [h] at hc
  exact hc
theorem U8_spec {base g : Nat} {v : Value} {l : List UInt8} {p : Nat} {x : Bool} {n q : Nat} {y : Bool} (h : rd l p x 1 = (n, q, y)) (w : World) (hr : Rd w base g v l p x) :
    Calls Try.prog 16 #[.pointer (some ⟨g, 0, none⟩)] w fun e w' => e = .returned (.int .u8 n) ∧ Rd w' base g v l q y ∧ w.grownBy w' (some g) := by
  have hc := U8_any w hr
  rw [h] at hc
  exact hc
theorem rd_128_0 : rd [128, 0] 0 false 0 = (0, 0, true) := by decide +kernel
theorem rd_123a : rd [1, 2, 3] 0 false 2 = (513, 2, false) := by decide +kernel
theorem rd_123b : rd [1, 2, 3] 2 false 1 = (3, 3, false) := by decide +kernel
theorem le_258 : ([] : List UInt8) ++ le 4 258 = [2, 1, 0, 0] := by decide +kernel
theorem short_300 : ([] : List UInt8) ++ short (300 : Int).toNat = [172, 2] := by decide +kernel

theorem str_own {w : World} {base : Nat} {v : Value} {l : List UInt8} (h : Ow w base v l) : ∃ A n c, v = .slice A n c ∧ ∀ (W : World), Ow W base v l → (convert 22 9 (.slice A n c)).run Try.prog W = .ok (.string ⟨l.toArray⟩) W := by
  obtain ⟨A, c, e, -⟩ := h.sl
  refine ⟨A, _, c, e, fun W hW => ?_⟩
  rw [← e]
  obtain ⟨A', c', e', h1, h2, h3, h4⟩ := hW.sl
  rw [e'] at hW ⊢
  exact run_str W 22 9 5 Try.underlying22 Try.underlying5 Try.underlying9 hW.sl

theorem u32_258 (w : World) : Calls Try.prog 10 #[.slice none 0 0, .int .u32 258] w fun e w' =>
    ∃ A n c, e = .returned (.slice A n c) ∧ (convert 22 9 (.slice A n c)).run Try.prog w' = .ok (.string ⟨#[2, 1, 0, 0]⟩) w' ∧ Below w.heap.size w w' := by
  refine (appendU32_any (.slice none 0 0) [] 0 258 w (Sl.nil_ _ _ _) (by omega) (by simp)).mono ?_
  rintro e w' ⟨v', rfl, o, b⟩
  rw [le_258] at o
  obtain ⟨A, n, c, rfl, h⟩ := str_own o
  exact ⟨A, n, c, rfl, h w' o, b⟩
theorem uint_300 (w : World) : Calls Try.prog 12 #[.slice none 0 0, .int .u64 300] w fun e w' =>
    ∃ A n c, e = .returned (.slice A n c) ∧ (convert 22 9 (.slice A n c)).run Try.prog w' = .ok (.string ⟨#[172, 2]⟩) w' ∧ Below w.heap.size w w' := by
  refine (appendUint_any (.slice none 0 0) [] 0 300 w (Sl.nil_ _ _ _) (by omega) (by omega) (by simp)).mono ?_
  rintro e w' ⟨v', rfl, o, b⟩
  rw [short_300] at o
  obtain ⟨A, n, c, rfl, h⟩ := str_own o
  exact ⟨A, n, c, rfl, h w' o, b⟩

set_option maxHeartbeats 1000000 in
theorem known_any (w : World) : Calls Try.prog 8 #[] w fun e w' => e = .returned (.bool true) ∧ Below w.heap.size w w' := by
  go_enter Try.func8, Try.ntmps8
  go_wp2_with fail
  refine (new_any _ [1, 2, 3] w.heap.size _ (sl_lit w [1, 2, 3] _ 3 rfl rfl (by omega)) (by simp)).mono ?_
  rintro e w1 ⟨g1, v1, rfl, r1, b1⟩
  have B1 : Below w.heap.size w w1 := ((Below.refl _ _).alloc (Nat.le_refl _) _).trans (b1.mono (by simp))
  clear b1
  go_wp2_with fail
  refine (new_any _ [128, 0] w1.heap.size _ (sl_lit w1 [128, 0] _ 2 rfl rfl (by omega)) (by simp)).mono ?_
  rintro e w2 ⟨g2, v2, rfl, r2, b2⟩
  have B2 : Below w1.heap.size w1 w2 := ((Below.refl _ _).alloc (Nat.le_refl _) _).trans (b2.mono (by simp))
  have hg2 : w1.heap.size ≤ g2 := by have := r2.ge; simp at this; omega
  clear b2
  go_wp2_with fail
  refine (Uint_spec rd_128_0 _ r2).mono ?_
  rintro e w3 ⟨rfl, r3, gr3⟩
  have B3 : Below w1.heap.size w1 w3 := B2.grown gr3 B2.size (fun k hk => by injection hk with hk; omega)
  clear B2 gr3 r2
  go_wp2_with fail
  refine (Bad_any _ r3).mono ?_
  rintro e w4 ⟨rfl, rfl⟩
  clear r3
  go_wp2_with fail
  refine (u32_258 _).mono ?_
  rintro e w5 ⟨A5, n5, c5, rfl, hc5, b5⟩
  have B5 : Below w1.heap.size w1 w5 := B3.trans (b5.mono B3.size)
  clear B3 b5
  go_wp2_with fail
  clear hc5
  refine (uint_300 _).mono ?_
  rintro e w6 ⟨A6, n6, c6, rfl, hc6, b6⟩
  have B6 : Below w1.heap.size w1 w6 := B5.trans (b6.mono B5.size)
  have r6 := r1.below B6 (Nat.le_refl _)
  clear B5 b6 r1
  go_wp2_with fail
  clear hc6
  refine (U16_spec rd_123a _ r6).mono ?_
  rintro e w7 ⟨rfl, r7, gr7⟩
  have hg1 : w.heap.size ≤ g1 := by have := r7.ge; simp at this; omega
  have B7 : Below w.heap.size w w7 := (B1.trans (B6.mono B1.size)).grown gr7 (Nat.le_trans B1.size B6.size) (fun k hk => by injection hk with hk; omega)
  have hs7 : w.heap.size ≤ w7.heap.size := B7.size
  clear B1 B6 gr7 r6
  go_wp2_with fail
  refine (U8_spec rd_123b _ r7).mono ?_
  rintro e w8 ⟨rfl, r8, gr8⟩
  have B8 : Below w.heap.size w w8 := B7.grown gr8 hs7 (fun k hk => by injection hk with hk; omega)
  clear B7 gr8 r7
  go_wp2_with fail
  refine (Left_any _ r8).mono ?_
  rintro e w9 ⟨rfl, k9, rfl⟩
  have e9 : ((lf [1, 2, 3] 3 false : Nat) : Int) = 0 := by decide
  rw [e9]
  clear e9
  have r9 := r8.drewN k9
  have B9 : Below w.heap.size w (w8.drewN k9) := ⟨B8.os, B8.tape, B8.output, B8.size, B8.block⟩
  clear r8 B8
  go_wp2_with fail
  refine (Bad_any _ r9).mono ?_
  rintro e w10 ⟨rfl, rfl⟩
  go_wp2
  go_ret
  exact ⟨rfl, B9⟩
end Go.Proofs.Ytmhcbfcpamkfhaa
