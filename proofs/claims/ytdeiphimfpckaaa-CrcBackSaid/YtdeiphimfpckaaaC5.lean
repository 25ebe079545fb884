/- Walks: what is framed; the number that bytes begin with; how many bytes a frame has. -/
import Derived.Test.YtdeiphimfpckaaaC3
import Derived.Test.YtdeiphimfpckaaaC4
namespace Go.Proofs.Ytdeiphimfpckaaa
open Go.RowKit
set_option linter.unusedVariables false

/-- The bytes l, framed. -/
def fr (l : List UInt8) : List UInt8 := le 4 l.length ++ l ++ le 4 (crc l)
theorem fr_length (l : List UInt8) : (fr l).length = l.length + 8 := by unfold fr; simp [le_length]; omega
theorem fr_flat (l : List UInt8) : fr l = [le 4 l.length, l, le 4 (crc l)].flatten := by unfold fr; simp

theorem appendU32_nil (a : Int) (N : Nat) (ha : a = (N : Int)) (w : World) (hN : N < 4294967296) :
    Calls Try.prog 16 #[.slice none 0 0, .int .u32 a] w fun e w' => ∃ A n c, e = .returned (.slice A n c) ∧ Gw e8 w' w.heap.size (.slice A n c) (le 4 N) ∧ Below w.heap.size w w' := by
  subst ha
  refine (appendU32_any (.slice none 0 0) [] 0 N w (Gs.nil_ _ _ _) hN (by simp)).mono ?_
  rintro e w' ⟨v', rfl, o, b⟩
  obtain ⟨A, c, rfl, -⟩ := o.sl
  exact ⟨A, _, c, rfl, by simpa using o, b⟩

set_option maxHeartbeats 1000000 in
theorem frame_any (v : Value) (l : List UInt8) (lo : Nat) (w : World) (hv : Gs e8 w lo w.heap.size v l) (hb : l.length ≤ 1000000) :
    Calls Try.prog 9 #[v] w fun e w' => ∃ v', e = .returned v' ∧ Gw e8 w' w.heap.size v' (fr l) ∧ Below w.heap.size w w' := by
  have HV := Lib.hid hv
  obtain ⟨A, c, rfl, -, -, -, -⟩ := hv
  have hcl := crc_lt l
  have hn : (l.length : Int) ≤ 1000000 := by omega
  have hw : IntKind.u32.wrap (l.length : Int) = l.length := by rw [wrap_u32]; omega
  go_enter Try.func9, Try.ntmps9
  go_wp2_with fail
  refine (appendU32_nil _ l.length rfl _ (by omega)).mono ?_
  rintro e w1 ⟨A1, n1, c1, rfl, o1, b1⟩
  have O1 := Lib.hid o1
  have B1 := Lib.hid b1
  clear o1 b1
  go_wp2_with fail
  refine (sum_any _ l lo _ (by exact (HV.out.below B1.out).more (Nat.le_refl _) B1.out.size)).mono ?_
  rintro e w2 ⟨rfl, b2⟩
  have O2 := Lib.hid (O1.out.below b2 (Nat.le_refl _))
  have B2 := Lib.hid (B1.out.trans (b2.mono B1.out.size))
  clear b2 O1 B1
  go_wp2_with fail
  refine (appendU32_nil _ (crc l) rfl _ hcl).mono ?_
  rintro e w3 ⟨A3, n3, c3, rfl, o3, b3⟩
  have O4 := Lib.hid (O2.out.below b3 (Nat.le_refl _))
  have O3 := Lib.hid o3
  have B3 := Lib.hid (B2.out.trans (b3.mono B2.out.size))
  clear o3 b3 O2 B2
  go_wp2_with fail
  have X1 := O4.out.sl.alloc (Nat.le_refl _) (.cells #[.slice A1 n1 c1, .slice A l.length c, .slice A3 n3 c3] 22)
  have X2 := ((HV.out.below B3.out).more (Nat.le_refl lo) B3.out.size).alloc (Nat.le_refl _) (.cells #[.slice A1 n1 c1, .slice A l.length c, .slice A3 n3 c3] 22)
  have X3 := O3.out.sl.alloc (Nat.le_refl _) (.cells #[.slice A1 n1 c1, .slice A l.length c, .slice A3 n3 c3] 22)
  have B4 := Lib.hid (B3.out.alloc B3.out.size (.cells #[.slice A1 n1 c1, .slice A l.length c, .slice A3 n3 c3] 22))
  have G := (Gw.lit (k := eS) w3 w3.heap.size (Nat.le_refl _) [(A1, n1, c1), (A, l.length, c), (A3, n3, c3)] #[.slice A1 n1 c1, .slice A l.length c, .slice A3 n3 c3] 3 (by rfl) rfl (by omega)).sl
  refine (concat_any _ [(A1, n1, c1), (A, l.length, c), (A3, n3, c3)] [le 4 l.length, l, le 4 (crc l)] _ _ (by exact G) rfl ?_ (by rw [← fr_flat, fr_length]; omega)).mono ?_
  · intro i t m h1 h2
    match i with
    | 0 => simp only [List.getElem?_cons_zero, Option.some.injEq] at h1 h2; subst h1 h2; exact X1.more (Nat.zero_le _) (by simp)
    | 1 => simp only [List.getElem?_cons_zero, List.getElem?_cons_succ, Option.some.injEq] at h1 h2; subst h1 h2; exact X2.more (Nat.zero_le _) (by simp)
    | 2 => simp only [List.getElem?_cons_zero, List.getElem?_cons_succ, Option.some.injEq] at h1 h2; subst h1 h2; exact X3.more (Nat.zero_le _) (by simp)
    | j + 3 => simp at h1
  rintro e w4 ⟨v4, rfl, o4, b4⟩
  rw [← fr_flat] at o4
  have O5 := Lib.hid (o4.more (base' := w.heap.size) (Nat.le_trans B3.out.size (by simp)))
  have B5 := Lib.hid (B4.out.trans (b4.mono (Nat.le_trans B3.out.size (by simp))))
  clear o4 b4 X1 X2 X3 G
  obtain ⟨A5, c5, rfl, -⟩ := O5.out.sl
  go_wp2
  go_ret
  exact ⟨_, rfl, O5.out, B5.out⟩
end Go.Proofs.Ytdeiphimfpckaaa
