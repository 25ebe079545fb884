/- Runs: how a run lies (cut from stages 4 to 6) -/
import Derived.Test.YtfefmlnlicilbaaDoorUF7
namespace Go.Proofs.YtfefmlnlicilbaaDoor
open Go.RowKit
set_option linter.unusedVariables false

/-- The k-th run's two cells. -/
theorem gs2_at {w : World} {lo hi : Nat} {A : Option Addr} {n c : Nat} {l : List Rn} (h : Gs2 eR w lo hi (.slice A n c) l) {k : Nat} (hk : k < l.length) :
    ∃ b off r, A = some ⟨b, off, none⟩ ∧ n = l.length ∧ b < hi ∧ l.drop k = r :: l.drop (k + 1) ∧ l[k]? = some r ∧ w.cell? ⟨b, off + k * 2, none⟩ = some (.int .u16 r.1.toNat) ∧ w.cell? ⟨b, off + k * 2 + 1, none⟩ = some (.int .u16 r.2.toNat) := by
  obtain ⟨b, off, c', e, -, -, -, hb, hc⟩ := h.form (by rintro rfl; simp at hk)
  injection e with e1 e2 e3
  have h1 := List.getElem?_eq_getElem hk
  have := hc k _ h1
  rw [Nat.mul_comm 2 k] at this
  exact ⟨b, off, _, e1, e2, hb, List.drop_eq_getElem_cons hk, h1, this.1, this.2⟩
theorem mayr_eq (m : Nat) (r : Rn) (l : List Rn) : mayr m (r :: l) = (decide (m ≤ r.1.toNat) && (decide (lst r ≤ 65535) && mayr (lst r + 2) l)) := rfl
end Go.Proofs.YtfefmlnlicilbaaDoor
