/- Arguments: values. -/
import Derived.Test.YtigngijpbchlaaaLh
import Derived.Test.YtigngijpbchlaaaGv
import Derived.Deep.SlicePairs
namespace Go.Proofs.Ytigngijpbchlaaa
open Go.ChangeShapes Go.WideShapes Go.ChangeAt Go.RowKit Go.Deep
set_option linter.unusedVariables false

/-- A value: kind, number, text. -/
structure VV where
  k : Int
  n : Int
  s : ByteArray
def VV.ok (x : VV) : Prop := (Lit.int .u8 x.k).wf = true ∧ (Lit.int .i64 x.n).wf = true ∧ x.s.size ≤ maxLen
instance : Inhabited VV := ⟨⟨0, 0, ⟨#[]⟩⟩⟩
def eV : ElemV VV := ⟨23, 3, fun x => [.int .u8 x.k, .int .i64 x.n, .string x.s], ⟨0, 0, ⟨#[]⟩⟩, 32, fun _ => rfl, by omega, fun x u hu => by
  simp at hu
  rcases hu with rfl | rfl | rfl <;> rfl, by omega⟩
theorem vals_arg {H : Type} {enc : TypeId × Value → H} {w : World} {a : Option Addr} {len cap : Nat} {d : DataW H} {ps : List MemPlace}
    (h : DataW.Trod enc Try.prog w 0 (fun _ => true) true 44 (.slice a len cap) d ps) : ∃ l : List VV, l.length = len ∧ GsV eV w 0 w.heap.size (.slice a len cap) l ∧ ∀ x ∈ l, x.ok := by
  obtain ⟨fuel, hf⟩ := h
  have c3 : Try.prog.cellsOf 23 = 3 := by kernel_rfl
  rcases open_slice Try.underlying44 hf with ⟨hcs, _⟩ | ⟨ad, l, c, m, n, D, Pl, hcs, _, hl, hm, hmm, _, hx⟩
  · simp [Value.cells] at hcs
    obtain ⟨rfl, rfl, rfl⟩ := hcs
    exact ⟨[], rfl, GsV.nil_ _ _ _, by simp⟩
  · simp [Value.cells] at hcs
    obtain ⟨rfl, rfl, rfl⟩ := hcs
    simp only [if_true] at hmm
    subst hmm
    have each : ∀ i, i < len → ∃ r : VV, r.ok ∧ w.cell? (ad.add (i * 3)) = some (.int .u8 r.k) ∧ w.cell? (ad.add (i * 3 + 1)) = some (.int .i64 r.n) ∧ w.cell? (ad.add (i * 3 + 2)) = some (.string r.s) := by
      intro i hi
      obtain ⟨cs', h1, h2⟩ := hx i (by omega)
      rw [c3] at h1
      obtain ⟨_, hlen, hcell⟩ := World.cells?_some h1
      obtain ⟨k, n, s, rfl, wk, wn, ws⟩ := val_cells h2
      have e0 := hcell 0 (by omega)
      have e1 := hcell 1 (by omega)
      have e2 := hcell 2 (by omega)
      rw [add_add] at e0 e1 e2
      exact ⟨⟨k, n, s⟩, ⟨wk, wn, ws⟩, by simpa using e0, by simpa using e1, by simpa using e2⟩
    obtain ⟨g, hg⟩ : ∃ g : Nat → VV, ∀ i, i < len → (g i).ok ∧ w.cell? (ad.add (i * 3)) = some (.int .u8 (g i).k) ∧ w.cell? (ad.add (i * 3 + 1)) = some (.int .i64 (g i).n) ∧ w.cell? (ad.add (i * 3 + 2)) = some (.string (g i).s) :=
      ⟨fun i => if h : i < len then Classical.choose (each i h) else default, fun i h => by simp only [dif_pos h]; exact Classical.choose_spec (each i h)⟩
    have hlen : ((List.range len).map g).length = len := by simp
    refine ⟨(List.range len).map g, hlen, ⟨some ad, _, by rw [hlen], fun e => (by cases e), by rw [hlen]; exact hl, hm, fun hne => ?_⟩, ?_⟩
    · have h0 : 0 < len := by
        rcases Nat.eq_zero_or_pos len with h | h
        · subst h; simp at hne
        · exact h
      obtain ⟨b, off, spot⟩ := ad
      have hc0 := (hg 0 h0).2.1
      have hspot : spot = none := by simpa [Addr.add] using World.cell?_spot hc0
      subst hspot
      have hb : b < w.heap.size := by
        have := World.block_lt_of_cell? w _ hc0
        simpa [Addr.add] using this
      refine ⟨b, off, rfl, Nat.zero_le _, hb, fun j y hy i u hu => ?_⟩
      have hj : j < len := by
        have := (List.getElem?_eq_some_iff.1 hy).1
        simpa using this
      obtain ⟨-, q0, q1, q2⟩ := hg j hj
      rw [addr_addv] at q0 q1 q2
      rw [List.getElem?_map, List.getElem?_range hj] at hy
      simp at hy
      subst hy
      show w.cell? ⟨b, off + (3 * j + i), none⟩ = some u
      rw [Nat.mul_comm 3 j]
      match i, hu with
      | 0, hu => simp [eV] at hu; subst hu; exact q0
      | 1, hu => simp [eV] at hu; subst hu; rw [← Nat.add_assoc] at q1 ⊢; exact q1
      | 2, hu => simp [eV] at hu; subst hu; rw [← Nat.add_assoc] at q2 ⊢; exact q2
      | i + 3, hu => simp [eV] at hu
    · intro x hx
      obtain ⟨i, hi, rfl⟩ := List.mem_map.1 hx
      exact (hg i (List.mem_range.1 hi)).1
end Go.Proofs.Ytigngijpbchlaaa
