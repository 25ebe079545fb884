/- Walks: the law CrcReads. -/
import Derived.Test.YtdeiphimfpckaaaCr
import Derived.Test.YtdeiphimfpckaaaC9
namespace Go.Proofs.Ytdeiphimfpckaaa
open Go.RowKit
set_option linter.unusedVariables false

theorem rUnframe_any (v : Value) (l : List UInt8) (lo : Nat) (a : Int) (w : World) (hv : Gs e8 w lo w.heap.size v l) (hl : l.length ≤ 100000) :
    Calls Try.prog 14 #[v, .int .i64 a] w fun e w' => ∃ A c, e = .returned (.tuple #[.slice A (unX l a).length c, .int .i64 (unN l a), .int .i64 (unE l a)]) ∧ Gw e8 w' w.heap.size (.slice A (unX l a).length c) (unX l a) ∧ Below w.heap.size w w' := by
  have fail_ : ∀ E : Nat, unE l a = E → E ≠ 0 → ∀ e w', e = Ending.returned (.tuple #[.slice none 0 0, .int .i64 0, .int .i64 E]) → Below w.heap.size w w' →
      ∃ A c, e = .returned (.tuple #[.slice A (unX l a).length c, .int .i64 (unN l a), .int .i64 (unE l a)]) ∧ Gw e8 w' w.heap.size (.slice A (unX l a).length c) (unX l a) ∧ Below w.heap.size w w' := by
    intro E hE h0 e w' he b
    have h1 : unX l a = [] := by unfold unX; rw [hE, if_neg h0]
    have h2 : unN l a = 0 := by unfold unN; rw [hE, if_neg h0]
    rw [h1, h2, hE]
    exact ⟨none, 0, he, Gw.nil_ _ _, b⟩
  by_cases ha : a < 0 ∨ (l.length : Int) < a
  · refine (rUnframe_arg v l lo a w hv ha).mono ?_
    rintro e w' ⟨he, b⟩
    exact fail_ 2 (by unfold unE; rw [if_pos ha]) (by omega) e w' he b
  · obtain ⟨p, rfl⟩ := Int.eq_ofNat_of_zero_le (by omega : 0 ≤ a)
    have hp : p ≤ l.length := by omega
    have e0 : unE l p = if szE (l.drop p) ≠ 0 then szE (l.drop p) else if fn (l.drop (p + 4 + szN (l.drop p))) ≠ crc ((l.drop (p + 4)).take (szN (l.drop p))) then 6 else 0 := by
      unfold unE; rw [if_neg ha]; rfl
    by_cases h4 : l.length < p + 4
    · have hs : szE (l.drop p) = 4 := by unfold szE; rw [if_pos (show (l.drop p).length < 4 by rw [List.length_drop]; omega)]
      rw [hs, if_pos (by omega)] at e0
      refine (rUnframe_few v l lo p w hv hp (by omega)).mono ?_
      rintro e w' ⟨he, b⟩
      exact fail_ 4 e0 (by omega) e w' he b
    · obtain ⟨N, hN⟩ : ∃ N, N = leVal ((l.drop p).take 4) := ⟨_, rfl⟩
      have hsE : szE (l.drop p) = if 1073741824 < N then 3 else if l.length < p + N + 8 then 4 else 0 := by
        unfold szE
        rw [if_neg (show ¬ (l.drop p).length < 4 by rw [List.length_drop]; omega), ← hN, List.length_drop]
        split
        · rfl
        · by_cases h : l.length < p + N + 8
          · rw [if_pos h, if_pos (by omega)]
          · rw [if_neg h, if_neg (by omega)]
      have hsN : szN (l.drop p) = if 1073741824 < N then 0 else if l.length < p + N + 8 then 0 else N := by
        unfold szN
        rw [if_neg (show ¬ (l.drop p).length < 4 by rw [List.length_drop]; omega), ← hN, List.length_drop]
        split
        · rfl
        · by_cases h : l.length < p + N + 8
          · rw [if_pos h, if_pos (by omega)]
          · rw [if_neg h, if_neg (by omega)]
      refine (rUnframe_four v l lo p w hv (by omega) hl N hN).mono ?_
      rintro e w' ⟨A, n, c, M, E, he, b, h⟩
      rcases h with ⟨h1, rfl, rfl, rfl, rfl, rfl⟩ | ⟨h1, h2, rfl, rfl, rfl, rfl, rfl⟩ | ⟨h1, h2, h3, rfl, rfl, rfl, rfl, rfl⟩ | ⟨h1, h2, h3, rfl, rfl, o⟩
      · rw [if_pos h1] at hsE
        rw [hsE, if_pos (by omega)] at e0
        exact fail_ 3 e0 (by omega) e w' he b
      · rw [if_neg (by omega), if_pos h2] at hsE
        rw [hsE, if_pos (by omega)] at e0
        exact fail_ 4 e0 (by omega) e w' he b
      · rw [if_neg (by omega), if_neg (by omega)] at hsE hsN
        rw [hsE, if_neg (by omega), hsN, if_pos h3] at e0
        exact fail_ 6 e0 (by omega) e w' he b
      · rw [if_neg (by omega), if_neg (by omega)] at hsE hsN
        rw [hsE, if_neg (by omega), hsN, if_neg (by simpa using h3)] at e0
        have e1 : unX l p = (l.drop (p + 4)).take N := by unfold unX; rw [if_pos e0, Int.toNat_natCast, hsN]
        have e2 : unN l p = p + 4 + N + 4 := by unfold unN; rw [if_pos e0, Int.toNat_natCast, hsN]
        have e3 : ((l.drop (p + 4)).take N).length = N := by simp; omega
        have hn : n = N := by
          obtain ⟨A', c', e', -⟩ := o.sl
          injection e' with _ e2' _
          rw [e2', e3]
        subst hn
        rw [e0, e1, e2, e3]
        refine ⟨A, c, ?_, o, b⟩
        rw [he, show (p : Int) + n + 8 = p + 4 + n + 4 by omega]
        rfl
end Go.Proofs.Ytdeiphimfpckaaa
