/- Walks: the document's short numbers and whole numbers are written. -/
import Derived.Test.YtigngijpbchlaaaWa
namespace Go.Proofs.Ytigngijpbchlaaa
open Go.RowKit
set_option linter.unusedVariables false

set_option maxHeartbeats 400000 in
theorem refShort_any (x : Int) (w : World) (h0 : 0 ≤ x) (h1 : x ≤ 18446744073709551615) :
    Calls Try.prog 30 #[.int .u64 x] w fun e w' => ∃ v', e = .returned v' ∧ Ow w' w.heap.size v' (short x.toNat) ∧ Below w.heap.size w w' := by
  have hsl := short_length_le x.toNat (by omega)
  go_enter Try.func30, Try.ntmps30
  go_wp2
  go_loopw [0, 3] (fun n u wr => ∃ (D : Int) (p : List UInt8), 0 ≤ D ∧ D ≤ 18446744073709551615 ∧ short x.toNat = p ++ short D.toNat ∧ n = .int .u64 D ∧ Ow wr w.heap.size u p ∧ Below w.heap.size w wr) (fun n _ _ => (intOf n).toNat)
  case atStart => exact ⟨x, [], h0, h1, rfl, rfl, Ow.nil_ _ _, Below.refl _ _⟩
  case round =>
    obtain ⟨D, p, d0, d1, hp, rfl, ok, bk⟩ := hrel
    have hpl : p.length ≤ 10 := by have := congrArg List.length hp; simp at this; omega
    have HP := Lib.hid hp
    clear hp
    by_cases hlt : 128 ≤ D
    · go_wp2_with (at_builtin; refine wpList_app1 _ rfl _ _ _ rfl w.heap.size Try.underlying30 info8 u3 p rfl ok _ (UInt8.ofNat (D.toNat % 128 + 128)) (by rw [u8_mod]; omega) rfl (by omega) bk.size ?_; intro v2 w2 o2 g2 _)
      have b2 : Below w.heap.size w w2 := bk.grown g2 bk.size (fun j hj => (ok.lt j hj).1)
      go_roundw
      case rel => exact ⟨D / 128, p ++ [UInt8.ofNat (D.toNat % 128 + 128)], by omega, by omega, by rw [HP.out, short_ge (by omega), show (D / 128).toNat = D.toNat / 128 from by omega]; simp, rfl, o2, b2⟩
      case measure => simp [intOf]; omega
    · go_wp2_with (at_builtin; refine wpList_app1 _ rfl _ _ _ rfl w.heap.size Try.underlying30 info8 u3 p rfl ok _ (UInt8.ofNat D.toNat) (by rw [u8_mod]; omega) rfl (by omega) bk.size ?_; intro v2 w2 o2 g2 _)
      have b2 : Below w.heap.size w w2 := bk.grown g2 bk.size (fun j hj => (ok.lt j hj).1)
      go_ret
      exact ⟨v2, rfl, by rw [HP.out, short_lt (by omega)]; exact o2, b2⟩

theorem sl_take {w : World} {lo hi : Nat} {A : Option Addr} {n c p : Nat} {l : List UInt8} (h : Sl w lo hi (.slice A n c) l) (hp : p ≤ l.length) : Sl w lo hi (.slice A p c) (l.take p) := by
  obtain ⟨A', c', e, h0, h1, h2, hb⟩ := h
  injection e with e1 e2 e3
  subst e1 e2 e3
  have hl : (l.take p).length = p := by simp; omega
  refine ⟨A, c, by rw [hl], h0, by omega, h2, fun hne => ?_⟩
  obtain ⟨b, off, rfl, g1, g2, hc⟩ := hb (by rintro rfl; simp at hne)
  refine ⟨b, off, rfl, g1, g2, fun j x hx => hc j x ?_⟩
  rw [List.getElem?_take] at hx
  split at hx
  · exact hx
  · cases hx
theorem str_sl {w : World} {lo hi : Nat} {A : Option Addr} {n c : Nat} {l : List UInt8} (h : Sl w lo hi (.slice A n c) l) : (convert 30 9 (.slice A n c)).run Try.prog w = .ok (.string ⟨l.toArray⟩) w :=
  run_str w 30 9 5 Try.underlying30 Try.underlying5 Try.underlying9 h
end Go.Proofs.Ytigngijpbchlaaa
