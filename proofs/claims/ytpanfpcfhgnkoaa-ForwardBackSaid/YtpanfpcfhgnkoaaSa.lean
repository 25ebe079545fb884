/- Words: slices of whole numbers; mathematics of a forward index. -/
import Derived.Test.YtpanfpcfhgnkoaaQ9
import Derived.Test.YtpanfpcfhgnkoaaLi
import Derived.Test.YtpanfpcfhgnkoaaGa
namespace Go.Proofs.Ytpanfpcfhgnkoaa
open Go.ChangeShapes Go.WideShapes Go.ChangeAt Go.RowKit
set_option linter.unusedVariables false

def eI : Elem Int := ⟨3, fun n => .int .i64 n, 0, 8, fun _ => rfl, fun _ => rfl, by omega⟩
theorem infI : (Try.prog.info? eI.E).map (fun i => (i.zero, i.size, i.bytes)) = some (some (eI.val eI.zero), 1, eI.bytes) := by kernel_rfl
theorem sliI : Try.prog.underlying 22 = some (.slice eI.E) := Try.underlying22
theorem ints_arg {H : Type} {enc : TypeId × Value → H} {w : World} {a : Option Addr} {len cap : Nat} {d : DataW H} {ps : List MemPlace}
    (h : DataW.Trod enc Try.prog w 0 (fun _ => true) true 22 (.slice a len cap) d ps) : ∃ l : List Int, l.length = len ∧ Gs eI w 0 w.heap.size (.slice a len cap) l := by
  obtain ⟨fuel, hf⟩ := h
  have key : ∃ zs, IsRow .i64 w a len cap zs := by
    rcases open_ints Try.underlying22 Try.underlying3 (by kernel_rfl) hf with ⟨hcs, _⟩ | ⟨x, l, c, zs, hcs, _, hl, hm, hz, _, hcell, hwz⟩
    · simp [Value.cells] at hcs
      obtain ⟨rfl, rfl, rfl⟩ := hcs
      exact ⟨[], .inl ⟨rfl, rfl, rfl, rfl⟩⟩
    · simp [Value.cells] at hcs
      obtain ⟨rfl, rfl, rfl⟩ := hcs
      exact ⟨zs, .inr ⟨_, rfl, hl, hm, by simpa using hz, hcell, hwz⟩⟩
  obtain ⟨zs, hz⟩ := key
  exact gs_of_row eI .i64 (fun n => n) (fun n _ => rfl) hz
theorem bytes_arg {H : Type} {enc : TypeId × Value → H} {w : World} {a : Option Addr} {len cap : Nat} {d : DataW H} {ps : List MemPlace}
    (h : DataW.Trod enc Try.prog w 0 (fun _ => true) true 35 (.slice a len cap) d ps) : ∃ l : List UInt8, l.length = len ∧ Gs e8 w 0 w.heap.size (.slice a len cap) l := by
  obtain ⟨fuel, hf⟩ := h
  have key : ∃ zs, IsRow .u8 w a len cap zs := by
    rcases open_ints Try.underlying35 Try.underlying5 (by kernel_rfl) hf with ⟨hcs, _⟩ | ⟨x, l, c, zs, hcs, _, hl, hm, hz, _, hcell, hwz⟩
    · simp [Value.cells] at hcs
      obtain ⟨rfl, rfl, rfl⟩ := hcs
      exact ⟨[], .inl ⟨rfl, rfl, rfl, rfl⟩⟩
    · simp [Value.cells] at hcs
      obtain ⟨rfl, rfl, rfl⟩ := hcs
      exact ⟨zs, .inr ⟨_, rfl, hl, hm, by simpa using hz, hcell, hwz⟩⟩
  obtain ⟨zs, hz⟩ := key
  exact gs8_of_row hz

theorem Gs.step {α : Type} {k : Elem α} {w w' : World} {v : Value} {l : List α} (h : Gs k w 0 w.heap.size v l) (b : Below w.heap.size w w') : Gs k w' 0 w'.heap.size v l := (h.below b).more (Nat.le_refl _) b.size

/-- May many be, for so many rows? -/
def mayM (rows many : Int) : Bool := decide (1 ≤ many ∧ many ≤ 16777216) || (decide (many = 0) && decide (rows = 0))
/-- The width of ids below many. -/
def wdm (many : Int) : Nat := wd (max many 1 - 1).toNat
def inr (many z : Int) : Bool := decide (0 ≤ z ∧ z < many)
def ofE (zs : List Int) (many : Int) : Int := if mayM zs.length many = true ∧ zs.all (inr many) = true then 0 else 2
def nums (zs : List Int) : List UInt64 := zs.map fun z => UInt64.ofNat z.toNat
def iP (zs : List Int) (many : Int) : List UInt8 := pk (nums zs) (wdm many)
/-- The bytes of an index. -/
def iB (zs : List Int) (many : Int) : List UInt8 := ((le 4 zs.length ++ le 4 many.toNat) ++ [UInt8.ofNat (wdm many)]) ++ iP zs many
theorem mayM_iff {rows many : Int} : mayM rows many = true ↔ (1 ≤ many ∧ many ≤ 16777216) ∨ (many = 0 ∧ rows = 0) := by
  unfold mayM
  rw [Bool.or_eq_true, Bool.and_eq_true, decide_eq_true_eq, decide_eq_true_eq, decide_eq_true_eq]
theorem nq_len (zs : List Int) : (nums zs).length = zs.length := by simp [nums]
theorem wd_pos (x : Nat) : 1 ≤ wd x := by unfold wd; omega
theorem wdm_pos (many : Int) : 1 ≤ wdm many := wd_pos _
theorem wdm_le {many : Int} (h : many ≤ 16777216) : wdm many ≤ 24 := (wd_fit _ 24 (by omega)).2 (by
  have : (2 : Nat) ^ 24 = 16777216 := by decide
  omega)
theorem lt_wd (x : Nat) : x < 2 ^ wd x := (wd_fit x (wd x) (by have := wd_pos x; omega)).1 (Nat.le_refl _)
theorem all_inr {zs : List Int} {many : Int} (h : zs.all (inr many) = true) : ∀ z ∈ zs, 0 ≤ z ∧ z < many := fun z hz => by
  have := List.all_eq_true.1 h z hz
  unfold inr at this
  exact of_decide_eq_true this
theorem fits_nq {zs : List Int} {many : Int} (hm : many ≤ 16777216) (h : zs.all (inr many) = true) : fits (nums zs) (wdm many) := by
  intro i hi
  rw [nq_len] at hi
  have hz := all_inr h zs[i] (List.getElem_mem hi)
  have e : (nums zs).getD i 0 = UInt64.ofNat (zs[i]).toNat := by simp [nums, List.getD_eq_getElem?_getD, List.getElem?_map, List.getElem?_eq_getElem hi]
  rw [e, UInt64.toNat_ofNat']
  have h1 := lt_wd (max many 1 - 1).toNat
  have h2 : (zs[i]).toNat % 2 ^ 64 ≤ (zs[i]).toNat := Nat.mod_le _ _
  unfold wdm
  refine Nat.lt_of_le_of_lt ?_ h1
  omega
theorem nq_at {zs : List Int} {many : Int} (hm : many ≤ 16777216) (h : zs.all (inr many) = true) {i : Nat} {z : Int} (hi : zs[i]? = some z) : (((nums zs).getD i 0).toNat : Int) = z := by
  have hz := all_inr h z (List.mem_of_getElem? hi)
  have e : (nums zs).getD i 0 = UInt64.ofNat z.toNat := by simp [nums, List.getD_eq_getElem?_getD, List.getElem?_map, hi]
  rw [e, UInt64.toNat_ofNat', Nat.mod_eq_of_lt (by omega)]
  omega
/-- The i-th id, out of the packed bytes. -/
theorem tk_at {zs : List Int} {many : Int} (hm : many ≤ 16777216) (h : zs.all (inr many) = true) {i : Nat} {z : Int} (hi : zs[i]? = some z) : (tk (iP zs many) (i * wdm many) (wdm many) : Int) = z := by
  have hl : i < zs.length := (List.getElem?_eq_some_iff.1 hi).1
  unfold iP
  rw [tk_pk _ _ (fits_nq hm h) i (by rw [nq_len]; exact hl)]
  exact nq_at hm h hi
theorem iP_len (zs : List Int) (many : Int) : (iP zs many).length = sz zs.length (wdm many) := by unfold iP; rw [pk_length, nq_len]
theorem iP_small {zs : List Int} {many : Int} (hm : many ≤ 16777216) : (iP zs many).length ≤ 3 * zs.length + 1 := by
  rw [iP_len]
  unfold sz
  have h1 := wdm_le hm
  have h2 : zs.length * wdm many ≤ zs.length * 24 := Nat.mul_le_mul_left _ h1
  omega
theorem iB_len (zs : List Int) (many : Int) : (iB zs many).length = 9 + (iP zs many).length := by unfold iB; simp [le_length]; omega
/-- How many of the first k are this id. -/
def cnt (zs : List Int) (id : Int) (k : Nat) : Nat := ((zs.take k).filter fun z => z == id).length
theorem cnt_zero (zs : List Int) (id : Int) : cnt zs id 0 = 0 := by simp [cnt]
theorem cnt_succ {zs : List Int} {k : Nat} {z : Int} (h : zs[k]? = some z) (id : Int) : cnt zs id (k + 1) = cnt zs id k + (if z = id then 1 else 0) := by
  unfold cnt
  rw [List.take_add_one, h, List.filter_append, List.length_append]
  by_cases e : z = id <;> simp [e]
theorem cnt_le (zs : List Int) (id : Int) (k : Nat) : cnt zs id k ≤ k := by
  unfold cnt
  refine Nat.le_trans (List.length_filter_le _ _) ?_
  simp
  omega
theorem of_ok {zs : List Int} {many : Int} (h : ofE zs many = 0) : mayM zs.length many = true ∧ zs.all (inr many) = true := by
  unfold ofE at h
  split at h
  · assumption
  · omega
end Go.Proofs.Ytpanfpcfhgnkoaa
