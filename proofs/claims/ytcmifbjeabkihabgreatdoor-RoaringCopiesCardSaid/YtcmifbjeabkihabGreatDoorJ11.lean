/- Walks: slices.Insert of one entry. -/
import Derived.Test.YtcmifbjeabkihabGreatDoorJ8
import Derived.Lib.Overlaps
import Derived.Lib.AppendZerosOnto
import Derived.Laws.CopyRow
import Derived.Laws.Externs
namespace Go.Proofs.YtcmifbjeabkihabGreatDoor
open Go.RowKit
set_option linter.unusedVariables false

/-- copy into a plain row, whatever the elements' size. -/
theorem run_copy_rown {P : Program} (w : World) (dT sT ty elem : TypeId) (z g o dLen dCap : Nat) (a : Addr) (sLen sCap : Nat) (cur : Array Value) (t : TypeId) (cs : List Value)
    (hu : P.underlying dT = some (.slice elem)) (hs : (P.info? elem).map (·.size) = some z)
    (hg : w.heap[g]? = some (.cells cur t (0, 0))) (hn : cs.length = Nat.min sLen dLen * z)
    (hsrc : ∀ j v, cs[j]? = some v → w.cell? (a.add j) = some v) (hfit : o + cs.length ≤ cur.size) (h1 : ∀ v ∈ cs, v.oneCell' = true) :
    (Builtin.copy_ #[dT, sT] ty #[.slice (some ⟨g, o, none⟩) dLen dCap, .slice (some a) sLen sCap]).run P w =
      .ok (goInt (Nat.min sLen dLen)) (w.setRow g (cur.toList.take o ++ cs ++ cur.toList.drop (o + cs.length)).toArray) := by
  have hl := run_loadCells_list (P := P) w a cs hsrc
  have hst := run_storeCells_at P g o t cs 0 cur w hg (by simpa using hfit) h1
  cases hq : P.info? elem with
  | none => simp [hq] at hs
  | some i =>
    have hi : i.size = z := by simpa [hq] using hs
    rw [hn] at hl
    simp [Builtin.copy_, run_underlying hu, Builtin.lenOf, Builtin.firstCells, sizeOf, typeInfo, hq, hi, hl, hst]
theorem wpList_copy_run5 {P : Program} (w : World) {ops : Array Oper} {rest : List Oper} {o : Oper} {a : Act} {Q : Exit → Act → World → Prop} (hgd : o.guard = none) (d s : Operand) (t t' : TypeId)
    (ho : o.op = .call { callee := .builtin .copy, args := #[d, s], argTypes := #[t, t'] }) (v u : Value) (hd : a.eval d = v) (hs : a.eval s = u) {v' : Value} {w' : World}
    (hr : (Builtin.copy_ #[t, t'] o.type #[v, u]).run P w = .ok v' w') (h : wpList P ops Q rest (a.put o.dst v') w') : wpList P ops Q (o :: rest) a w :=
  wpList_plain hgd fun K hK => by
    unfold Oper.wp execOp
    simp only [ho, resolve, invoke, builtin, Sem.run_bind, Sem.run_pure, Result.andThen_ok, List.map_toArray, List.map_cons, List.map_nil, hd, hs, hr]
    exact hK _ _ h
theorem wp_copy_run5 {P : Program} (w : World) {o : Oper} {a : Act} {K : Act → World → Prop} {Q : Exit → Act → World → Prop} (d s : Operand) (t t' : TypeId)
    (ho : o.op = .call { callee := .builtin .copy, args := #[d, s], argTypes := #[t, t'] }) (v u : Value) (hd : a.eval d = v) (hs : a.eval s = u) {v' : Value} {w' : World}
    (hr : (Builtin.copy_ #[t, t'] o.type #[v, u]).run P w = .ok v' w') (h : K (a.put o.dst v') w') : o.wp P a w K Q := by
  unfold Oper.wp execOp
  simp only [ho, resolve, invoke, builtin, Sem.run_bind, Sem.run_pure, Result.andThen_ok, List.map_toArray, List.map_cons, List.map_nil, hd, hs, hr]
  exact h

section
variable {α : Type}
/-- Written over in the middle. -/
def over (R : List α) (o : Nat) (cs : List α) : List α := R.take o ++ cs ++ R.drop (o + cs.length)
theorem over_len (R : List α) (o : Nat) (cs : List α) (h : o + cs.length ≤ R.length) : (over R o cs).length = R.length := by unfold over; simp; omega
theorem over_take (R : List α) (o : Nat) (cs : List α) (h : o ≤ R.length) {m : Nat} (hm : m ≤ o) : (over R o cs).take m = R.take m := by
  unfold over
  rw [List.append_assoc, List.take_append_of_le_length (by simp; omega), List.take_take, Nat.min_eq_left hm]
theorem over_take2 (R : List α) (o : Nat) (cs : List α) (h : o ≤ R.length) : (over R o cs).take (o + cs.length) = R.take o ++ cs := by
  unfold over
  rw [List.take_append_of_le_length (by simp; omega), List.take_of_length_le (by simp; omega)]
end
theorem row_take (es : List En) (i : Nat) : (eN.row es).take (i * 5) = eN.row (es.take i) := by
  induction es generalizing i with
  | nil => simp [ElemV.row]
  | cons e es ih =>
    cases i with
    | zero => simp [ElemV.row]
    | succ i =>
      show (eN.cs e ++ eN.row es).take ((i + 1) * 5) = eN.cs e ++ eN.row (es.take i)
      rw [show (i + 1) * 5 = (eN.cs e).length + i * 5 by show _ = 5 + i * 5; omega, List.take_length_add_append, ih]
theorem row_drop (es : List En) (i : Nat) : (eN.row es).drop (i * 5) = eN.row (es.drop i) := by
  induction es generalizing i with
  | nil => simp [ElemV.row]
  | cons e es ih =>
    cases i with
    | zero => simp [ElemV.row]
    | succ i =>
      show (eN.cs e ++ eN.row es).drop ((i + 1) * 5) = eN.row (es.drop i)
      rw [show (i + 1) * 5 = (eN.cs e).length + i * 5 by show _ = 5 + i * 5; omega, List.drop_length_add_append, ih]
/-- The row with one entry more: what stands behind it first, then the entry. -/
theorem ins_in (R : List Value) (es : List En) (i n : Nat) (e : En) (hn : es.length = n) (hi : i < n) (hR : (n + 1) * 5 ≤ R.length) (h : R.take (n * 5) = eN.row es) :
    (over (over R ((i + 1) * 5) (eN.row (es.drop i))) (i * 5) (eN.cs e)).take ((n + 1) * 5) = eN.row (es.take i ++ [e] ++ es.drop i) := by
  have hl : (eN.row (es.drop i)).length = (n - i) * 5 := by rw [rowv_len, List.length_drop, hn]; rfl
  have he : (eN.cs e).length = 5 := rfl
  have hT : (eN.row (es.take i)).length = i * 5 := by rw [rowv_len, List.length_take, Nat.min_eq_left (by omega)]; rfl
  have h1 : R.take (i * 5) = eN.row (es.take i) := by
    rw [← row_take, ← h, List.take_take, Nat.min_eq_left (by omega)]
  obtain ⟨A, hA⟩ : ∃ A, A = over R ((i + 1) * 5) (eN.row (es.drop i)) := ⟨_, rfl⟩
  have hAl : A.length = R.length := by rw [hA]; exact over_len _ _ _ (by rw [hl]; omega)
  have hA1 : A.take (i * 5) = eN.row (es.take i) := by rw [hA, over_take _ _ _ (by omega) (by omega), h1]
  have hA2 : A.drop ((i + 1) * 5) = eN.row (es.drop i) ++ R.drop ((i + 1) * 5 + (eN.row (es.drop i)).length) := by
    rw [hA]; unfold over
    rw [List.append_assoc, List.drop_left' (by simp; omega)]
  rw [← hA]
  unfold over
  rw [he, hA1, show i * 5 + 5 = (i + 1) * 5 by omega, hA2]
  rw [← List.append_assoc, List.take_append_of_le_length (by simp only [List.length_append, hT, hl, he]; omega), List.take_of_length_le (by simp only [List.length_append, hT, hl, he]; omega)]
  rw [rowv_app, rowv_app]
  congr 2
theorem ins_out (R : List Value) (es : List En) (i n : Nat) (e : En) (hn : es.length = n) (hi : i < n) (hR : (n + 1) * 5 ≤ R.length) (h : R.take (i * 5) = eN.row (es.take i)) :
    (over (over R (i * 5) (eN.cs e)) ((i + 1) * 5) (eN.row (es.drop i))).take ((n + 1) * 5) = eN.row (es.take i ++ [e] ++ es.drop i) := by
  have hl : (eN.row (es.drop i)).length = (n - i) * 5 := by rw [rowv_len, List.length_drop, hn]; rfl
  have he : (eN.cs e).length = 5 := rfl
  rw [show (n + 1) * 5 = (i + 1) * 5 + (eN.row (es.drop i)).length by rw [hl]; omega, over_take2 _ _ _ (by rw [over_len _ _ _ (by rw [he]; omega)]; omega)]
  rw [show (i + 1) * 5 = i * 5 + (eN.cs e).length by rw [he]; omega, over_take2 _ _ _ (by omega), h, rowv_app, rowv_app]
  congr 2
end Go.Proofs.YtcmifbjeabkihabGreatDoor
