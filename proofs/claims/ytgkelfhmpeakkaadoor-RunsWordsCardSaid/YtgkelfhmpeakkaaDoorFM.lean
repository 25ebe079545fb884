/- An argument that is a slice of runs, as a list. -/
import Derived.Test.YtgkelfhmpeakkaaDoorFE
import Derived.Test.YtgkelfhmpeakkaaDoorGa
import Derived.Deep.SlicePairs
namespace Go.Proofs.YtgkelfhmpeakkaaDoor
open Go.ChangeShapes Go.WideShapes Go.ChangeAt Go.RowKit Go.Deep
set_option linter.unusedVariables false

theorem u16_lit {V : Value} {n : Int} (h : V = .int .u16 n) (hw : (Lit.int .u16 n).wf = true) : ∃ u : UInt16, V = .int .u16 u.toNat := by
  simp [Lit.wf, IntKind.min, IntKind.max, IntKind.bits, IntKind.signed] at hw
  refine ⟨UInt16.ofNat n.toNat, ?_⟩
  rw [h, u16_of n.toNat (by omega)]
  congr 1
  omega
theorem runs_row {H : Type} {enc : TypeId × Value → H} {w : World} {fuel : Nat} {a : Option Addr} {len cap : Nat} {x : DataW H × List MemPlace}
    (h : DataW.trod enc Tryd.prog w 0 (fun _ => true) true fuel 22 [.slice a len cap] = some x) : ∃ l : List Rn, l.length = len ∧ Gs2 eR w 0 w.heap.size (.slice a len cap) l := by
  rcases open_slice_pairs Tryd.underlying22 Tryd.underlying40 (by kernel_rfl) rfl rfl (by kernel_rfl) (by kernel_rfl) h with ⟨hcs, _⟩ | ⟨ad, l, c, m, n, V0, V1, D0, D1, P0, P1, hcs, _, hl, hm, hmm, _, hx⟩
  · simp at hcs
    obtain ⟨rfl, rfl, rfl⟩ := hcs
    exact ⟨[], rfl, Gs2.nil_ _ _ _⟩
  · simp at hcs
    obtain ⟨rfl, rfl, rfl⟩ := hcs
    simp only [if_true] at hmm
    subst hmm
    have each : ∀ i, i < len → ∃ r : Rn, w.cell? (ad.add (i * 2)) = some (.int .u16 r.1.toNat) ∧ w.cell? (ad.add (i * 2 + 1)) = some (.int .u16 r.2.toNat) := by
      intro i hi
      obtain ⟨h1, h2, h3, h4⟩ := hx i (by omega)
      obtain ⟨n0, e0, -, w0⟩ := DataW.trod_int Tryd.underlying38 h3
      obtain ⟨n1, e1, -, w1⟩ := DataW.trod_int Tryd.underlying38 h4
      obtain ⟨u0, hu0⟩ := u16_lit (by simpa using e0) w0
      obtain ⟨u1, hu1⟩ := u16_lit (by simpa using e1) w1
      exact ⟨(u0, u1), by rw [h1, hu0], by rw [h2, hu1]⟩
    obtain ⟨g, hg⟩ : ∃ g : Nat → Rn, ∀ i, i < len → w.cell? (ad.add (i * 2)) = some (.int .u16 (g i).1.toNat) ∧ w.cell? (ad.add (i * 2 + 1)) = some (.int .u16 (g i).2.toNat) :=
      ⟨fun i => if h : i < len then Classical.choose (each i h) else (0, 0), fun i h => by simp only [dif_pos h]; exact Classical.choose_spec (each i h)⟩
    have hlen : ((List.range len).map g).length = len := by simp
    refine ⟨(List.range len).map g, hlen, some ad, _, by rw [hlen], fun e => (by cases e), by rw [hlen]; exact hl, hm, fun hne => ?_⟩
    have h0 : 0 < len := by
      rcases Nat.eq_zero_or_pos len with h | h
      · subst h; simp at hne
      · exact h
    obtain ⟨b, off, spot⟩ := ad
    have hc0 := (hg 0 h0).1
    have hspot : spot = none := by simpa [Addr.add] using World.cell?_spot hc0
    subst hspot
    have hb : b < w.heap.size := by
      have := World.block_lt_of_cell? w _ hc0
      simpa [Addr.add] using this
    refine ⟨b, off, rfl, Nat.zero_le _, hb, fun j y hy => ?_⟩
    have hj : j < len := by
      have := (List.getElem?_eq_some_iff.1 hy).1
      simpa using this
    obtain ⟨c0, c1⟩ := hg j hj
    rw [addr_add] at c0 c1
    rw [List.getElem?_map, List.getElem?_range hj] at hy
    simp at hy
    subst hy
    rw [Nat.mul_comm 2 j]
    exact ⟨c0, by rw [Nat.add_assoc]; exact c1⟩
end Go.Proofs.YtgkelfhmpeakkaaDoor
