/- Words: slices of whole numbers (int64); mathematics of a column. -/
import Derived.Test.YtigjkolhhhmdhaaLi
import Derived.Test.YtigjkolhhhmdhaaRr
import Derived.Test.YtigjkolhhhmdhaaGa
namespace Go.Proofs.Ytigjkolhhhmdhaa
open Go.ChangeShapes Go.WideShapes Go.ChangeAt Go.RowKit
set_option linter.unusedVariables false

def eL : Elem Int := ⟨2, fun n => .int .i64 n, 0, 8, fun _ => rfl, fun _ => rfl, by omega⟩
theorem infL : (Try.prog.info? eL.E).map (fun i => (i.zero, i.size, i.bytes)) = some (some (eL.val eL.zero), 1, eL.bytes) := by kernel_rfl
theorem sliL : Try.prog.underlying 22 = some (.slice eL.E) := Try.underlying22
/-- Numbers of 64 bits. -/
def R64 (zs : List Int) : Prop := ∀ z ∈ zs, -9223372036854775808 ≤ z ∧ z ≤ 9223372036854775807
theorem longs_arg {H : Type} {enc : TypeId × Value → H} {w : World} {a : Option Addr} {len cap : Nat} {d : DataW H} {ps : List MemPlace}
    (h : DataW.Trod enc Try.prog w 0 (fun _ => true) true 22 (.slice a len cap) d ps) : ∃ l : List Int, l.length = len ∧ Gs eL w 0 w.heap.size (.slice a len cap) l ∧ R64 l := by
  obtain ⟨fuel, hf⟩ := h
  have key : ∃ zs, IsRow .i64 w a len cap zs := by
    rcases open_ints Try.underlying22 Try.underlying2 (by kernel_rfl) hf with ⟨hcs, _⟩ | ⟨x, l, c, zs, hcs, _, hl, hm, hz, _, hcell, hwz⟩
    · simp [Value.cells] at hcs
      obtain ⟨rfl, rfl, rfl⟩ := hcs
      exact ⟨[], .inl ⟨rfl, rfl, rfl, rfl⟩⟩
    · simp [Value.cells] at hcs
      obtain ⟨rfl, rfl, rfl⟩ := hcs
      exact ⟨zs, .inr ⟨_, rfl, hl, hm, by simpa using hz, hcell, hwz⟩⟩
  obtain ⟨zs, hz⟩ := key
  obtain ⟨l, hl, hg⟩ := gs_of_row eL .i64 (fun n => n) (fun n _ => rfl) hz
  refine ⟨l, hl, hg, fun z hzm => ?_⟩
  obtain ⟨i, hi, rfl⟩ := List.getElem_of_mem hzm
  rcases hz with ⟨_, rfl, _⟩ | ⟨x, rfl, hlc, hm, hzl, hc, hw⟩
  · omega
  · obtain ⟨b, off, c, e, _, _, _, _, hcell⟩ := hg.form (by rintro rfl; simp at hi)
    injection e with e1
    injection e1 with e1
    subst e1
    have h1 := hcell i l[i] (List.getElem?_eq_getElem hi)
    have h2 := hc i (by omega)
    have e3 : ((⟨b, off, none⟩ : Addr).add i) = ⟨b, off + i, none⟩ := by simp [Addr.add]
    rw [e3, h1] at h2
    simp only [eL, Option.some.injEq, Value.int.injEq, true_and] at h2
    have hwf := hw (zs.getD i 0) (by
      have hi2 : i < zs.length := by omega
      have : zs.getD i 0 = zs[i] := by simp [List.getD_eq_getElem?_getD, List.getElem?_eq_getElem hi2]
      rw [this]
      exact List.getElem_mem hi2)
    rw [← h2] at hwf
    simp [Lit.wf, IntKind.min, IntKind.max, IntKind.bits, IntKind.signed] at hwf
    omega
theorem bytes_arg {H : Type} {enc : TypeId × Value → H} {w : World} {a : Option Addr} {len cap : Nat} {d : DataW H} {ps : List MemPlace}
    (h : DataW.Trod enc Try.prog w 0 (fun _ => true) true 31 (.slice a len cap) d ps) : ∃ l : List UInt8, l.length = len ∧ Gs e8 w 0 w.heap.size (.slice a len cap) l := by
  obtain ⟨fuel, hf⟩ := h
  have key : ∃ zs, IsRow .u8 w a len cap zs := by
    rcases open_ints Try.underlying31 Try.underlying5 (by kernel_rfl) hf with ⟨hcs, _⟩ | ⟨x, l, c, zs, hcs, _, hl, hm, hz, _, hcell, hwz⟩
    · simp [Value.cells] at hcs
      obtain ⟨rfl, rfl, rfl⟩ := hcs
      exact ⟨[], .inl ⟨rfl, rfl, rfl, rfl⟩⟩
    · simp [Value.cells] at hcs
      obtain ⟨rfl, rfl, rfl⟩ := hcs
      exact ⟨zs, .inr ⟨_, rfl, hl, hm, by simpa using hz, hcell, hwz⟩⟩
  obtain ⟨zs, hz⟩ := key
  exact gs8_of_row hz
theorem Gs.step {α : Type} {k : Elem α} {w w' : World} {v : Value} {l : List α} (h : Gs k w 0 w.heap.size v l) (b : Below w.heap.size w w') : Gs k w' 0 w'.heap.size v l := (h.below b).more (Nat.le_refl _) b.size
/-- A part of a slice. -/
theorem Gs.part {α : Type} {k : Elem α} {w : World} {lo hi : Nat} {A : Option Addr} {n c : Nat} {l : List α} (h : Gs k w lo hi (.slice A n c) l) {p q : Nat} (hp : p ≤ q) (hq : q ≤ l.length) :
    ∃ A', (A' = if c = p then A else A.map fun x => x.add p) ∧ Gs k w lo hi (.slice A' (q - p) (c - p)) ((l.take q).drop p) := by
  obtain ⟨A0, c0, e, h0, h1, h2, hb⟩ := h
  injection e with e1 e2 e3
  subst e1 e2 e3
  have hl : ((l.take q).drop p).length = q - p := by simp; omega
  refine ⟨_, rfl, _, c - p, by rw [hl], ?_, by rw [hl]; omega, by omega, fun hne => ?_⟩
  · intro e
    split at e
    · omega
    · have : A = none := by cases A <;> simp_all
      have := h0 this
      omega
  · have hlt : p < q := by
      rcases Nat.lt_or_ge p q with h | h
      · exact h
      · exact absurd (List.eq_nil_of_length_eq_zero (by rw [hl]; omega)) hne
    obtain ⟨b, off, rfl, g1, g2, hc⟩ := hb (by rintro rfl; simp at hq; omega)
    rw [if_neg (by omega)]
    refine ⟨b, off + p, by simp [Addr.add], g1, g2, fun j x hx => ?_⟩
    rw [List.getElem?_drop, List.getElem?_take] at hx
    split at hx
    · have := hc (p + j) x hx
      rwa [← Nat.add_assoc] at this
    · cases hx

/-- The least number: of none the greatest there is. -/
def loI (zs : List Int) : Int := zs.foldl (fun a z => min a z) 9223372036854775807
def hiI (zs : List Int) : Int := zs.foldl (fun a z => max a z) (-9223372036854775808)
theorem lo_nil : loI [] = 9223372036854775807 := rfl
theorem hi_nil : hiI [] = -9223372036854775808 := rfl
theorem lo_snoc {zs : List Int} {k : Nat} {z : Int} (h : zs[k]? = some z) : loI (zs.take (k + 1)) = min (loI (zs.take k)) z := by
  unfold loI
  rw [List.take_add_one, h, List.foldl_append]
  rfl
theorem hi_snoc {zs : List Int} {k : Nat} {z : Int} (h : zs[k]? = some z) : hiI (zs.take (k + 1)) = max (hiI (zs.take k)) z := by
  unfold hiI
  rw [List.take_add_one, h, List.foldl_append]
  rfl
theorem fold_min_le (zs : List Int) (a : Int) : zs.foldl (fun a z => min a z) a ≤ a ∧ ∀ z ∈ zs, zs.foldl (fun a z => min a z) a ≤ z := by
  induction zs generalizing a with
  | nil => exact ⟨Int.le_refl _, fun z h => by cases h⟩
  | cons x r ih =>
    have h := ih (min a x)
    rw [List.foldl_cons]
    refine ⟨by omega, fun z hz => ?_⟩
    rcases List.mem_cons.1 hz with rfl | hz
    · omega
    · exact h.2 z hz
theorem fold_max_ge (zs : List Int) (a : Int) : a ≤ zs.foldl (fun a z => max a z) a ∧ ∀ z ∈ zs, z ≤ zs.foldl (fun a z => max a z) a := by
  induction zs generalizing a with
  | nil => exact ⟨Int.le_refl _, fun z h => by cases h⟩
  | cons x r ih =>
    have h := ih (max a x)
    rw [List.foldl_cons]
    refine ⟨by omega, fun z hz => ?_⟩
    rcases List.mem_cons.1 hz with rfl | hz
    · omega
    · exact h.2 z hz
theorem lo_le {zs : List Int} {z : Int} (h : z ∈ zs) : loI zs ≤ z := (fold_min_le zs _).2 z h
theorem le_hi {zs : List Int} {z : Int} (h : z ∈ zs) : z ≤ hiI zs := (fold_max_ge zs _).2 z h
theorem fold_min_in (zs : List Int) (a : Int) : zs.foldl (fun a z => min a z) a = a ∨ zs.foldl (fun a z => min a z) a ∈ zs := by
  induction zs generalizing a with
  | nil => exact .inl rfl
  | cons x r ih =>
    rw [List.foldl_cons]
    rcases ih (min a x) with h | h
    · rw [h]
      by_cases hx : a ≤ x
      · exact .inl (by omega)
      · exact .inr (List.mem_cons.2 (.inl (by omega)))
    · exact .inr (List.mem_cons_of_mem _ h)
theorem fold_max_in (zs : List Int) (a : Int) : zs.foldl (fun a z => max a z) a = a ∨ zs.foldl (fun a z => max a z) a ∈ zs := by
  induction zs generalizing a with
  | nil => exact .inl rfl
  | cons x r ih =>
    rw [List.foldl_cons]
    rcases ih (max a x) with h | h
    · rw [h]
      by_cases hx : x ≤ a
      · exact .inl (by omega)
      · exact .inr (List.mem_cons.2 (.inl (by omega)))
    · exact .inr (List.mem_cons_of_mem _ h)
/-- The least number is one of them. -/
theorem lo_in {zs : List Int} (h : zs ≠ []) (hr : R64 zs) : loI zs ∈ zs := by
  rcases fold_min_in zs 9223372036854775807 with e | e
  · cases zs with
    | nil => exact absurd rfl h
    | cons x r =>
      have h1 := lo_le (List.mem_cons_self (a := x) (l := r))
      have h2 := hr x List.mem_cons_self
      have e' : loI (x :: r) = 9223372036854775807 := e
      rw [e'] at h1
      have : x = loI (x :: r) := by omega
      rw [← this]
      exact List.mem_cons_self
  · exact e
theorem hi_in {zs : List Int} (h : zs ≠ []) (hr : R64 zs) : hiI zs ∈ zs := by
  rcases fold_max_in zs (-9223372036854775808) with e | e
  · cases zs with
    | nil => exact absurd rfl h
    | cons x r =>
      have h1 := le_hi (List.mem_cons_self (a := x) (l := r))
      have h2 := hr x List.mem_cons_self
      have e' : hiI (x :: r) = -9223372036854775808 := e
      rw [e'] at h1
      have : x = hiI (x :: r) := by omega
      rw [← this]
      exact List.mem_cons_self
  · exact e
theorem fold_min_min (zs : List Int) (a b : Int) : zs.foldl (fun a z => min a z) (min a b) = min a (zs.foldl (fun a z => min a z) b) := by
  induction zs generalizing b with
  | nil => rfl
  | cons x r ih => rw [List.foldl_cons, List.foldl_cons, show min (min a b) x = min a (min b x) by omega, ih]
theorem fold_max_max (zs : List Int) (a b : Int) : zs.foldl (fun a z => max a z) (max a b) = max a (zs.foldl (fun a z => max a z) b) := by
  induction zs generalizing b with
  | nil => rfl
  | cons x r ih => rw [List.foldl_cons, List.foldl_cons, show max (max a b) x = max a (max b x) by omega, ih]
theorem lo_top (zs : List Int) : loI zs ≤ 9223372036854775807 := (fold_min_le zs _).1
theorem hi_bot (zs : List Int) : -9223372036854775808 ≤ hiI zs := (fold_max_ge zs _).1
theorem lo_app (l m : List Int) : loI (l ++ m) = min (loI l) (loI m) := by
  have h := fold_min_min m (loI l) 9223372036854775807
  have h2 := lo_top l
  rw [show min (loI l) 9223372036854775807 = loI l by omega] at h
  unfold loI at h ⊢
  rw [List.foldl_append]
  exact h
theorem hi_app (l m : List Int) : hiI (l ++ m) = max (hiI l) (hiI m) := by
  have h := fold_max_max m (hiI l) (-9223372036854775808)
  have h2 := hi_bot l
  rw [show max (hiI l) (-9223372036854775808) = hiI l by omega] at h
  unfold hiI at h ⊢
  rw [List.foldl_append]
  exact h
theorem lo_r64 {zs : List Int} (hr : R64 zs) : -9223372036854775808 ≤ loI zs := by
  cases zs with
  | nil => decide
  | cons x r => exact (hr _ (lo_in (by simp) hr)).1
theorem hi_r64 {zs : List Int} (hr : R64 zs) : hiI zs ≤ 9223372036854775807 := by
  cases zs with
  | nil => decide
  | cons x r => exact (hr _ (hi_in (by simp) hr)).2
/-- A number as the natural number of its bits, and back. -/
def n8 (z : Int) : Nat := (z % 18446744073709551616).toNat
theorem n8_lt (z : Int) : n8 z < 18446744073709551616 := by unfold n8; omega
theorem n8_wrap (z : Int) : IntKind.u64.wrap z = (n8 z : Int) := by rw [IntKind.wrap_u64]; unfold n8; omega
theorem n8_back {z : Int} (h : -9223372036854775808 ≤ z ∧ z ≤ 9223372036854775807) : IntKind.i64.wrap (n8 z : Int) = z := by rw [IntKind.wrap_i64]; unfold n8; omega
theorem back_n8 {n : Nat} (h : n < 18446744073709551616) : n8 (IntKind.i64.wrap (n : Int)) = n := by rw [IntKind.wrap_i64]; unfold n8; omega
theorem n8_inj {a b : Int} (ha : -9223372036854775808 ≤ a ∧ a ≤ 9223372036854775807) (hb : -9223372036854775808 ≤ b ∧ b ≤ 9223372036854775807) (h : n8 a = n8 b) : a = b := by rw [← n8_back ha, ← n8_back hb, h]
/-- The bytes of the numbers. -/
def cN (zs : List Int) : List UInt8 := (zs.map fun z => le 8 (n8 z)).flatten
theorem cN_snoc {zs : List Int} {k : Nat} {z : Int} (h : zs[k]? = some z) : cN (zs.take (k + 1)) = cN (zs.take k) ++ le 8 (n8 z) := by
  unfold cN
  rw [List.take_add_one, h]
  simp
theorem cN_len (zs : List Int) : (cN zs).length = 8 * zs.length := by
  induction zs with
  | nil => rfl
  | cons x r ih =>
    unfold cN at ih ⊢
    rw [List.map_cons, List.flatten_cons, List.length_append, ih, le_length, List.length_cons]
    omega
theorem cN_cons (x : Int) (r : List Int) : cN (x :: r) = le 8 (n8 x) ++ cN r := by simp [cN]
/-- The bytes of a column. -/
def cB (zs : List Int) : List UInt8 := (le 4 zs.length ++ le 8 (n8 (loI zs)) ++ le 8 (n8 (hiI zs))) ++ cN zs
theorem cB_len (zs : List Int) : (cB zs).length = 20 + 8 * zs.length := by unfold cB; simp [le_length, cN_len]; omega
end Go.Proofs.Ytigjkolhhhmdhaa
