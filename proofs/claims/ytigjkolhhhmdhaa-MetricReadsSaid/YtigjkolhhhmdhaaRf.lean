/- Walks: the document's short numbers and whole numbers are written. -/
import Derived.Test.YtigjkolhhhmdhaaWa
namespace Go.Proofs.Ytigjkolhhhmdhaa
open Go.RowKit
set_option linter.unusedVariables false

theorem sl_take {w : World} {lo hi : Nat} {A : Option Addr} {n c p : Nat} {l : List UInt8} (h : Sl w lo hi (.slice A n c) l) (hp : p ≤ l.length) : Sl w lo hi (.slice A p c) (l.take p) := by
  obtain ⟨A', c', e, h0, h1, h2, hb⟩ := h
  injection e with e1 e2 e3
  subst e1 e2 e3
  have hl : (l.take p).length = p := by simp; omega
  refine ⟨A, c, by rw [hl], h0, by omega, h2, fun hne => ?_⟩
  obtain ⟨b, off, rfl, g1, g2, hc⟩ := hb (by rintro rfl; simp at hne)
  refine ⟨b, off, rfl, g1, g2, fun j x hx => hc j x ?_⟩
  rw [List.getElem?_take] at hx
  split at hx
  · exact hx
  · cases hx
theorem str_sl {w : World} {lo hi : Nat} {A : Option Addr} {n c : Nat} {l : List UInt8} (h : Sl w lo hi (.slice A n c) l) : (convert 31 9 (.slice A n c)).run Try.prog w = .ok (.string ⟨l.toArray⟩) w :=
  run_str w 31 9 5 Try.underlying31 Try.underlying5 Try.underlying9 h
end Go.Proofs.Ytigjkolhhhmdhaa
