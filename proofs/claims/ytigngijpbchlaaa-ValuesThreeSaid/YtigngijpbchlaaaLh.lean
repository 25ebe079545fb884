/- Arguments: a value, bytes, values. -/
import Derived.Test.YtigngijpbchlaaaLb
import Derived.Test.YtigngijpbchlaaaGa
namespace Go.Proofs.Ytigngijpbchlaaa
open Go.ChangeShapes Go.WideShapes Go.ChangeAt Go.RowKit
open Go.ChangeMaps (open_string shut_string)
set_option linter.unusedVariables false

theorem val_cells {H : Type} {enc : TypeId × Value → H} {w : World} {fuel : Nat} {cs : List Value} {x : DataW H × List MemPlace} {hh : Bool}
    (h : DataW.trod enc Try.prog w 0 (fun _ => true) hh fuel 23 cs = some x) :
    ∃ (k n : Int) (s : ByteArray), cs = [.int .u8 k, .int .i64 n, .string s] ∧ (Lit.int .u8 k).wf = true ∧ (Lit.int .i64 n).wf = true ∧ s.size ≤ maxLen := by
  obtain ⟨xs, m, rfl, rfl, hl, hlen, hf⟩ := DataW.trod_struct Try.underlying23 h
  have hl3 : cs.length = 3 := by rw [hl]; kernel_rfl
  match cs, hl3 with
  | [c0, c1, c2], _ =>
    match xs, hlen with
    | [x0, x1, x2], _ =>
      have h0 : DataW.trod enc Try.prog w 0 (fun _ => true) hh m 5 (([c0, c1, c2].drop 0).take (Try.prog.cellsOf 5)) = some x0 := hf 0 _ rfl
      have h1 : DataW.trod enc Try.prog w 0 (fun _ => true) hh m 2 (([c0, c1, c2].drop 1).take (Try.prog.cellsOf 2)) = some x1 := hf 1 _ rfl
      have h2 : DataW.trod enc Try.prog w 0 (fun _ => true) hh m 9 (([c0, c1, c2].drop 2).take (Try.prog.cellsOf 9)) = some x2 := hf 2 _ rfl
      have e8 : Try.prog.cellsOf 5 = 1 := by kernel_rfl
      have e64 : Try.prog.cellsOf 2 = 1 := by kernel_rfl
      have eS : Try.prog.cellsOf 9 = 1 := by kernel_rfl
      rw [e8] at h0
      rw [e64] at h1
      rw [eS] at h2
      obtain ⟨k, ek, -, wk⟩ := DataW.trod_int Try.underlying5 h0
      obtain ⟨n, en, -, wn⟩ := DataW.trod_int Try.underlying2 h1
      obtain ⟨s, es, -, ws⟩ := DataW.trod_string Try.underlying9 h2
      simp at ek en es
      exact ⟨k, n, s, by rw [ek, en, es], wk, wn, ws⟩
theorem open_val {H : Type} {enc : TypeId × Value → H} {w : World} {r : Reach} {b0 : Nat} {v : Value} {d : DataW H} {ps : List MemPlace} {hh : Bool} (hval : Value.okWide Try.prog w r b0 23 v)
    (h : DataW.Trod enc Try.prog w 0 (fun _ => true) hh 23 v d ps) :
    ∃ (k n : Int) (s : ByteArray), v = vV k n s ∧ (Lit.int .u8 k).wf = true ∧ (Lit.int .i64 n).wf = true ∧ s.size ≤ maxLen := by
  obtain ⟨cs, rfl, hsz⟩ := okWide_struct Try.underlying23 hval
  obtain ⟨fuel, hf⟩ := h
  obtain ⟨k, n, s, e, wk, wn, ws⟩ := val_cells hf
  simp [Value.cells] at e
  refine ⟨k, n, s, ?_, wk, wn, ws⟩
  unfold vV
  congr 1
  apply Array.toList_inj.1
  rw [e]
theorem bytes_arg {H : Type} {enc : TypeId × Value → H} {w : World} {a : Option Addr} {len cap : Nat} {d : DataW H} {ps : List MemPlace}
    (h : DataW.Trod enc Try.prog w 0 (fun _ => true) true 30 (.slice a len cap) d ps) : ∃ l : List UInt8, l.length = len ∧ Gs e8 w 0 w.heap.size (.slice a len cap) l := by
  obtain ⟨fuel, hf⟩ := h
  have key : ∃ zs, IsRow .u8 w a len cap zs := by
    rcases open_ints Try.underlying30 Try.underlying5 (by kernel_rfl) hf with ⟨hcs, _⟩ | ⟨x, l, c, zs, hcs, _, hl, hm, hz, _, hcell, hwz⟩
    · simp [Value.cells] at hcs
      obtain ⟨rfl, rfl, rfl⟩ := hcs
      exact ⟨[], .inl ⟨rfl, rfl, rfl, rfl⟩⟩
    · simp [Value.cells] at hcs
      obtain ⟨rfl, rfl, rfl⟩ := hcs
      exact ⟨zs, .inr ⟨_, rfl, hl, hm, by simpa using hz, hcell, hwz⟩⟩
  obtain ⟨zs, hz⟩ := key
  exact gs8_of_row hz
end Go.Proofs.Ytigngijpbchlaaa
