/- Walks: Clone of whole numbers; a column at a pointer; told, Len, Least, Greatest, size, keep, Of. -/
import Derived.Test.YtigjkolhhhmdhaaTa
import Derived.Lib.MinMax
import Derived.Deep.QuietTactic
import Derived.BigQuiet
import Derived.Laws.ResultCell
namespace Go.Proofs.Ytigjkolhhhmdhaa
open Go.RowKit
set_option linter.unusedVariables false

set_option maxHeartbeats 400000 in
theorem cloneL_any (v : Value) (l : List Int) (lo : Nat) (w : World) (hv : Gs eL w lo w.heap.size v l) (hb : l.length ≤ 100000000) :
    Calls Try.prog 21 #[v] w fun e w' => ∃ v', e = .returned v' ∧ Gw eL w' w.heap.size v' l ∧ Below w.heap.size w w' := by
  have hv0 := hv
  obtain ⟨A, c, rfl, hc0, -, -, hbt⟩ := hv
  cases A with
  | none =>
    obtain rfl := hc0 rfl
    have hl : l = [] := by
      by_cases h : l = []
      · exact h
      · obtain ⟨b, off, e, _⟩ := hbt h
        cases e
    subst hl
    clear hc0 hbt hv0
    have hq := fun W n c => Lib.run_eql_slice_nil (P := Try.prog) W 22 2 none n c 0 0 Try.underlying22
    simp only [Option.isNone_none] at hq
    go_enter Try.func21, Try.ntmps21
    go_wp2
    go_ret
    exact ⟨_, rfl, Gw.nil_ _ _, Below.refl _ _⟩
  | some ad =>
    clear hc0 hbt
    have hq := fun W n c => Lib.run_eql_slice_nil (P := Try.prog) W 22 2 (some ad) n c 0 0 Try.underlying22
    simp only [Option.isNone_some] at hq
    go_enter Try.func21, Try.ntmps21
    go_wp2_with (at_builtin; refine wpList_gapp eL _ rfl _ _ _ rfl w.heap.size sliL infL _ [] rfl (Gw.empty_ _ _ (Nat.le_refl _)) lo w.heap.size _ l rfl (hv0.alloc (Nat.le_refl _) _) (by simp; omega) (by simp) ?_; intro v2 w2 o2 g2 _)
    go_ret
    exact ⟨v2, rfl, by simpa using o2, ((Below.refl _ _).alloc (Nat.le_refl _) _).grown g2 (by simp) (fun k h => by injection h with h; subst h; exact Nat.le_refl _)⟩

/-- A column at a pointer: none, or a block with what it has. -/
def CxAt (W : World) (p : Value) (m : Bool) (A : Option Addr) (n c : Nat) (a z : Int) : Prop :=
  (p = .pointer none ∧ m = false ∧ A = none ∧ n = 0 ∧ c = 0 ∧ a = 0 ∧ z = 0) ∨ ∃ g, p = .pointer (some ⟨g, 0, none⟩) ∧ Row W g 37 #[.bool m, .slice A n c, .int .i64 a, .int .i64 z]
theorem CxAt.step {W W' : World} {p : Value} {m : Bool} {A : Option Addr} {n c : Nat} {a z : Int} (h : CxAt W p m A n c a z) (b : Below W.heap.size W W') : CxAt W' p m A n c a z := by
  rcases h with h | ⟨g, e, q⟩
  · exact .inl h
  · exact .inr ⟨g, e, q.below b q.lt⟩
/-- The value of a column. -/
abbrev cV (m : Bool) (A : Option Addr) (n c : Nat) (a z : Int) : Value := .agg #[.bool m, .slice A n c, .int .i64 a, .int .i64 z]
theorem res_one {fn : Func} {p : Tmp} {ty : TypeId} (h : fn.results = #[.cell p ty]) (tmps : Array Value) (w : World) (g : Nat) (t : TypeId) (cs : Array Value) (fs : Array Field) (hp : tmps.getD p undef = .pointer (some ⟨g, 0, none⟩)) (hg : Row w g t cs)
    (hu : Try.prog.underlying ty = some (.struct fs)) (hi : (Try.prog.info? ty).map (·.size) = some cs.size) : (results fn tmps).run Try.prog w = .ok (.agg cs) w :=
  results_cell_row h tmps w g t cs (0, 0) _ hp hg hu rfl hi
theorem szC4 : (Try.prog.info? 37).map (·.size) = some 4 := by kernel_rfl
theorem cxf0 (w : World) (m : Bool) (A : Option Addr) (n c : Nat) (a z : Int) : (Instr.field 37 (.agg #[.bool m, .slice A n c, .int .i64 a, .int .i64 z]) 0).run Try.prog w = .ok (.bool m) w := by kernel_rfl
theorem cxf1 (w : World) (m : Bool) (A : Option Addr) (n c : Nat) (a z : Int) : (Instr.field 37 (.agg #[.bool m, .slice A n c, .int .i64 a, .int .i64 z]) 1).run Try.prog w = .ok (.slice A n c) w := by kernel_rfl
theorem cxf2 (w : World) (m : Bool) (A : Option Addr) (n c : Nat) (a z : Int) : (Instr.field 37 (.agg #[.bool m, .slice A n c, .int .i64 a, .int .i64 z]) 2).run Try.prog w = .ok (.int .i64 a) w := by kernel_rfl
theorem cxf3 (w : World) (m : Bool) (A : Option Addr) (n c : Nat) (a z : Int) : (Instr.field 37 (.agg #[.bool m, .slice A n c, .int .i64 a, .int .i64 z]) 3).run Try.prog w = .ok (.int .i64 z) w := by kernel_rfl
set_option maxHeartbeats 1000000 in
theorem told_any (p : Value) (m : Bool) (A : Option Addr) (n c : Nat) (a z : Int) (w : World) (h : CxAt w p m A n c a z) :
    Calls Try.prog 30 #[p] w fun e w' => e = .returned (.agg #[.bool m, .slice A n c, .int .i64 a, .int .i64 z]) ∧ Below w.heap.size w w' := by
  have B1 := Lib.hid ((Below.refl w.heap.size w).alloc (Nat.le_refl _) (.cells #[.bool m, .slice A n c, .int .i64 a, .int .i64 z] 37))
  have R1 := Lib.hid (Row.new w 37 #[.bool m, .slice A n c, .int .i64 a, .int .i64 z])
  rcases h with ⟨rfl, rfl, rfl, rfl, rfl, rfl, rfl⟩ | ⟨g, rfl, q⟩
  · go_enter Try.func30, Try.ntmps30
    go_wp2
    refine bodyPost_ret (v := cV false none 0 0 0 0) ?_ rfl ⟨rfl, B1.out⟩
    exact res_one rfl _ _ _ _ _ _ (by rfl) R1.out Try.underlying37 szC4
  · have hq := q.alloc (.cells #[.bool false, .slice none 0 0, .int .i64 0, .int .i64 0] 37)
    have c0 := hq.cell 0
    have c1 := hq.cell 1
    have c2 := hq.cell 2
    have c3 := hq.cell 3
    clear q hq
    go_enter Try.func30, Try.ntmps30
    go_wp2
    refine bodyPost_ret (v := cV m A n c a z) ?_ rfl ⟨rfl, B1.out⟩
    exact res_one rfl _ _ _ _ _ _ (by rfl) R1.out Try.underlying37 szC4
set_option maxHeartbeats 400000 in
theorem len_any (p : Value) (m : Bool) (A : Option Addr) (n c : Nat) (a z : Int) (w : World) (h : CxAt w p m A n c a z) : Calls Try.prog 16 #[p] w fun e w' => e = .returned (.int .i64 (n : Int)) ∧ Below w.heap.size w w' := by
  have HC := Lib.hid (told_any p m A n c a z w h)
  clear h
  have hfd := fun W => cxf1 W m A n c a z
  go_enter Try.func16, Try.ntmps16
  go_wp2_with (go_at_call 30; refine HC.out.mono ?_; rintro e w1 ⟨rfl, b1⟩; have B1 := Lib.hid b1; clear b1)
  go_ret
  exact ⟨rfl, B1.out⟩
set_option maxHeartbeats 400000 in
theorem least_any (p : Value) (m : Bool) (A : Option Addr) (n c : Nat) (a z : Int) (w : World) (h : CxAt w p m A n c a z) : Calls Try.prog 17 #[p] w fun e w' => e = .returned (.int .i64 a) ∧ Below w.heap.size w w' := by
  have HC := Lib.hid (told_any p m A n c a z w h)
  clear h
  have hfd := fun W => cxf2 W m A n c a z
  go_enter Try.func17, Try.ntmps17
  go_wp2_with (go_at_call 30; refine HC.out.mono ?_; rintro e w1 ⟨rfl, b1⟩; have B1 := Lib.hid b1; clear b1)
  go_ret
  exact ⟨rfl, B1.out⟩
set_option maxHeartbeats 400000 in
theorem greatest_any (p : Value) (m : Bool) (A : Option Addr) (n c : Nat) (a z : Int) (w : World) (h : CxAt w p m A n c a z) : Calls Try.prog 18 #[p] w fun e w' => e = .returned (.int .i64 z) ∧ Below w.heap.size w w' := by
  have HC := Lib.hid (told_any p m A n c a z w h)
  clear h
  have hfd := fun W => cxf3 W m A n c a z
  go_enter Try.func18, Try.ntmps18
  go_wp2_with (go_at_call 30; refine HC.out.mono ?_; rintro e w1 ⟨rfl, b1⟩; have B1 := Lib.hid b1; clear b1)
  go_ret
  exact ⟨rfl, B1.out⟩
set_option maxHeartbeats 400000 in
theorem size_any (n : Nat) (w : World) (h : n < 4294967296) : Calls Try.prog 26 #[.int .i64 (n : Int)] w fun e w' => e = .returned (.int .i64 ((20 + 8 * n : Nat) : Int)) ∧ w' = w := by
  have w1 : wrap64 (2 + (n : Int)) = 2 + n := by unfold wrap64; omega
  have w2 : wrap64 (8 * (2 + (n : Int))) = 8 * (2 + n) := by unfold wrap64; omega
  have w3 : wrap64 (4 + 8 * (2 + (n : Int))) = 4 + 8 * (2 + n) := by unfold wrap64; omega
  have HE := Lib.hid (show ((20 + 8 * n : Nat) : Int) = 4 + 8 * (2 + (n : Int)) by omega)
  rw [HE.out]
  clear h
  go_enter Try.func26, Try.ntmps26
  go_wp2
  go_ret
  refine ⟨?_, rfl⟩
  show Ending.returned (Value.int IntKind.i64 (wrap64 (4 + 8 * (2 + (n : Int))))) = _
  rw [w3]
set_option maxHeartbeats 2000000 in
set_option maxRecDepth 100000 in
theorem keep_any (A : Option Addr) (c : Nat) (zs : List Int) (w : World) (hi : Nat) (hh : hi ≤ w.heap.size) (hG : Gs eL w 0 hi (.slice A zs.length c) zs) (hl : zs.length ≤ 100000) :
    Calls Try.prog 20 #[.slice A zs.length c] w fun e w' => e = .returned (.pointer (some ⟨w.heap.size, 0, none⟩)) ∧ Row w' w.heap.size 37 #[.bool true, .slice A zs.length c, .int .i64 (loI zs), .int .i64 (hiI zs)] ∧ Below w.heap.size w w' := by
  have HG := Lib.hid hG
  have HH := Lib.hid hh
  clear hG hh
  obtain ⟨n, hn⟩ : ∃ n, zs.length = n := ⟨_, rfl⟩
  have HNN := Lib.hid hn
  rw [hn] at hl ⊢
  clear hn
  obtain ⟨W0, hW0⟩ : ∃ W0, W0 = w.alloc (.cells #[.bool true, .slice A n c, .int .i64 9223372036854775807, .int .i64 (-9223372036854775808)] 37) := ⟨_, rfl⟩
  have R0 := Lib.hid (show Row W0 w.heap.size 37 #[.bool true, .slice A n c, .int .i64 9223372036854775807, .int .i64 (-9223372036854775808)] by rw [hW0]; exact Row.new _ _ _)
  have B0 := Lib.hid (show Below w.heap.size w W0 by rw [hW0]; exact (Below.refl _ _).alloc (Nat.le_refl _) _)
  go_enter Try.func20, Try.ntmps20
  go_wp2_with fail
  rw [← hW0]
  clear hW0
  go_loopw [10] (fun i wr => ∃ (k : Nat) (a z : Int), k ≤ n ∧ i = .int .i64 k ∧ Hid (a = loI (zs.take k) ∧ z = hiI (zs.take k)) ∧ Row wr w.heap.size 37 #[.bool true, .slice A n c, .int .i64 a, .int .i64 z] ∧ Below w.heap.size w wr) (fun i _ => n - (intOf i).toNat)
  case atStart => exact ⟨0, _, _, Nat.zero_le _, rfl, Lib.hid ⟨rfl, rfl⟩, R0.out, B0.out⟩
  case round =>
    obtain ⟨k, a, z, hk, rfl, hE, hr, hb⟩ := hrel
    have HE := Lib.hid hE.out
    have HR := Lib.hid hr
    have HB := Lib.hid hb
    clear hE
    by_cases hlt : k < n
    · obtain ⟨y, hy⟩ : ∃ y, zs[k]? = some y := ⟨_, List.getElem?_eq_getElem (by rw [HNN.out]; omega)⟩
      have c2 := hr.cell 2
      have c3 := hr.cell 3
      have f2 := hr.frozen 2
      have f3 := hr.frozen 3
      have HS := Lib.hid (show min a y = loI (zs.take (k + 1)) ∧ max z y = hiI (zs.take (k + 1)) from ⟨by rw [lo_snoc hy, HE.out.1], by rw [hi_snoc hy, HE.out.2]⟩)
      have HT := Lib.hid (show Row ((wr.setCell ⟨w.heap.size, 2, none⟩ (.int .i64 (min a y))).setCell ⟨w.heap.size, 3, none⟩ (.int .i64 (max z y))) w.heap.size 37 #[.bool true, .slice A n c, .int .i64 (min a y), .int .i64 (max z y)] by simpa using (hr.set_ 2 (.int .i64 (min a y))).set_ 3 (.int .i64 (max z y)))
      have HU := Lib.hid (show Below w.heap.size w ((wr.setCell ⟨w.heap.size, 2, none⟩ (.int .i64 (min a y))).setCell ⟨w.heap.size, 3, none⟩ (.int .i64 (max z y))) from (hb.setCell (p := ⟨w.heap.size, 2, none⟩) (Nat.le_refl _) _).setCell (p := ⟨w.heap.size, 3, none⟩) (Nat.le_refl _) _)
      have hG := HG.out.below (hb.mono HH.out)
      obtain ⟨b, boff, bc', e, -, -, -, bw, hc⟩ := hG.form (fun e => by have h := congrArg List.length e; have := HNN.out; simp only [List.length_nil] at h; omega)
      injection e with e4 e5 e6
      subst e4 e6
      have q0 := hc k y hy
      simp only [eL] at q0
      clear hG hc hy hr hb e5
      go_wp2
      go_roundw
      case rel => exact ⟨k + 1, _, _, hlt, by go_num, Lib.hid HS.out, HT.out, HU.out⟩
      case measure => simp [intOf]; omega
    · obtain rfl : k = n := by omega
      have e9 : zs.take k = zs := by rw [← HNN.out, List.take_length]
      have hE := HE.out
      rw [e9] at hE
      have HE9 := Lib.hid hE
      clear e9 hE hr hb
      go_wp2
      go_ret
      exact ⟨rfl, by rw [← HE9.out.1, ← HE9.out.2]; exact HR.out, HB.out⟩
end Go.Proofs.Ytigjkolhhhmdhaa
