/- Slices that are cut, a row's first number: general lemmas. -/
import Derived.Test.YtfefmlnlicilbaaDoorD1
import Derived.Test.YtfefmlnlicilbaaDoorGm
import Derived.BigQuiet
import Derived.BigRegion
import Derived.Deep.QuietTactic
import Derived.Deep.RegionWith
namespace Go.Proofs.YtfefmlnlicilbaaDoor
open Go.RowKit
set_option linter.unusedVariables false

theorem drop_at {l : List UInt16} {k : Nat} (h : k < l.length) : l.drop k = at16 l k :: l.drop (k + 1) := by
  rw [List.drop_eq_getElem_cons h]
  simp [at16, List.getD, h]

section
variable {α : Type} {k : Elem α} {w : World} {lo hi : Nat} {A : Option Addr} {c : Nat} {l : List α}
/-- A cut on both sides that keeps its room. -/
theorem Gs.mid (h : Gs k w lo hi (.slice A l.length c) l) {p m : Nat} (hm : p + m ≤ l.length) (hc : c ≠ p) : Gs k w lo hi (.slice (A.map fun x => x.add p) m (c - p)) ((l.drop p).take m) := by
  obtain ⟨A', c', e, h0, h1, h2, hb⟩ := h
  injection e with e1 e2 e3
  subst e1 e3
  have hl : ((l.drop p).take m).length = m := by simp; omega
  have hz : m = 0 → (l.drop p).take m = [] := by rintro rfl; simp
  refine ⟨_, _, by rw [hl], fun e => ?_, by omega, by omega, fun hn => ?_⟩
  · cases A with
    | none => have := h0 rfl; omega
    | some a => cases e
  · obtain ⟨b, off, e, x1, x2, hcell⟩ := hb (by rintro rfl; simp at hn)
    subst e
    refine ⟨b, off + p, by simp [Addr.add], x1, x2, fun j x hx => ?_⟩
    rw [List.getElem?_take] at hx
    split at hx
    · rw [List.getElem?_drop] at hx
      have := hcell _ x hx
      rwa [← Nat.add_assoc] at this
    · cases hx
/-- Cut ahead, up to the end. -/
theorem Gs.tail (h : Gs k w lo hi (.slice A l.length c) l) {p : Nat} (hp : p ≤ l.length) (hc : c ≠ p) : Gs k w lo hi (.slice (A.map fun x => x.add p) (l.length - p) (c - p)) (l.drop p) := by
  have := h.mid (p := p) (m := l.length - p) (by omega) hc
  rwa [List.take_of_length_le (by simp)] at this
/-- Nothing is left. -/
theorem Gs.gone (h : Gs k w lo hi (.slice A l.length c) l) {p : Nat} (hp : p ≤ l.length) (hc : c = p) : Gs k w lo hi (.slice A (l.length - p) 0) (l.drop p) := by
  obtain ⟨A', c', e, h0, h1, h2, hb⟩ := h
  injection e with e1 e2 e3
  subst e1 e3
  have hl : l.drop p = [] := by rw [List.drop_eq_nil_iff]; omega
  rw [hl]
  have : l.length - p = 0 := by omega
  rw [this]
  exact ⟨A, 0, rfl, fun _ => rfl, Nat.le_refl _, Nat.zero_le _, fun h => absurd rfl h⟩
theorem Gs.cap_le (h : Gs k w lo hi (.slice A l.length c) l) : l.length ≤ c ∧ c ≤ 9223372036854775807 := by
  obtain ⟨A', c', e, h0, h1, h2, hb⟩ := h
  injection e with e1 e2 e3
  subst e1 e3
  exact ⟨h1, h2⟩
end
end Go.Proofs.YtfefmlnlicilbaaDoor
