/- Walks: the sums of single bytes, in an array. -/
import Derived.Test.YtdeiphimfpckaaaC1
import Derived.Deep.LoopGhost
import Derived.Deep.MidRow
namespace Go.Proofs.Ytdeiphimfpckaaa
open Go.RowKit
set_option linter.unusedVariables false

section
variable {P : Program}
/-- A whole array, or struct, out of its block. -/
theorem wp_load_row {op : Oper} {a : Act} {w : World} {K : Act → World → Prop} {Q : Exit → Act → World → Prop} (ty : TypeId) (x : Operand) (ho : op.op = .load ty x)
    (g : Nat) (hx : a.eval x = .pointer (some ⟨g, 0, none⟩)) (t : TypeId) (cs : Array Value) (d : TypeDesc) (hr : Row w g t cs)
    (hu : P.underlying ty = some d) (hd : d.isRow = true) (hi : (P.info? ty).map (·.size) = some cs.size)
    (h : K (a.put op.dst (.agg cs)) w) : op.wp P a w K Q := by
  unfold Oper.wp execOp
  simp only [ho, hx, Instr.loadAt, Instr.sureAddr, Sem.run_bind, Sem.run_pure, Result.andThen_ok, run_loadVar_row w g t ty cs (0, 0) d hr hu (by cases d <;> first | rfl | cases hd) hi]
  exact h
/-- A whole array, or struct, into its block. -/
theorem wp_store_row {op : Oper} {a : Act} {w : World} {K : Act → World → Prop} {Q : Exit → Act → World → Prop} (ty : TypeId) (x y : Operand) (ho : op.op = .store ty x y)
    (g : Nat) (cells : Array Value) (hx : a.eval x = .pointer (some ⟨g, 0, none⟩)) (hy : a.eval y = .agg cells) (t : TypeId) (cs : Array Value) (hr : Row w g t cs) (hs : cs.size = cells.size)
    (hi : (P.info? ty).map (·.size) = some cells.size) (h1 : cells.all (·.oneCell') = true)
    (h : ∀ w', Row w' g t cells → w.grownBy w' (some g) → K (a.put op.dst undef) w') : op.wp P a w K Q := by
  unfold Oper.wp execOp
  simp only [ho, hx, hy, Instr.storeAt, Instr.sureAddr, Sem.run_bind, Sem.run_pure, Result.andThen_ok, run_storeVar_row w g t ty cs cells hr hi hs h1]
  refine h _ (setRow_heap w g cs cells t (0, 0) hr) ⟨rfl, rfl, rfl, by simp [World.setRow], fun k hk hne => ?_⟩
  have hne' : ¬ g = k := fun e => hne (by rw [e])
  simp [World.setRow, Array.getElem?_modify, hne']
theorem wpList_load_row {ops : Array Oper} {rest : List Oper} {op : Oper} {a : Act} {w : World} {Q : Exit → Act → World → Prop} (hgd : op.guard = none) (ty : TypeId) (x : Operand) (ho : op.op = .load ty x)
    (g : Nat) (hx : a.eval x = .pointer (some ⟨g, 0, none⟩)) (t : TypeId) (cs : Array Value) (d : TypeDesc) (hr : Row w g t cs)
    (hu : P.underlying ty = some d) (hd : d.isRow = true) (hi : (P.info? ty).map (·.size) = some cs.size)
    (h : wpList P ops Q rest (a.put op.dst (.agg cs)) w) : wpList P ops Q (op :: rest) a w :=
  wpList_plain hgd fun _ hK => wp_load_row ty x ho g hx t cs d hr hu hd hi (hK _ _ h)
theorem wpList_store_row {ops : Array Oper} {rest : List Oper} {op : Oper} {a : Act} {w : World} {Q : Exit → Act → World → Prop} (hgd : op.guard = none) (ty : TypeId) (x y : Operand) (ho : op.op = .store ty x y)
    (g : Nat) (cells : Array Value) (hx : a.eval x = .pointer (some ⟨g, 0, none⟩)) (hy : a.eval y = .agg cells) (t : TypeId) (cs : Array Value) (hr : Row w g t cs) (hs : cs.size = cells.size)
    (hi : (P.info? ty).map (·.size) = some cells.size) (h1 : cells.all (·.oneCell') = true)
    (h : ∀ w', Row w' g t cells → w.grownBy w' (some g) → wpList P ops Q rest (a.put op.dst undef) w') : wpList P ops Q (op :: rest) a w :=
  wpList_plain hgd fun _ hK => wp_store_row ty x y ho g cells hx hy t cs hr hs hi h1 fun w' r b => hK _ _ (h w' r b)
end

/-- The array when k bytes have their sums. -/
def tb (k : Nat) : Array Value := Array.ofFn (n := 256) fun j => Value.int .u32 (if j.val < k then ((c8 j.val : Nat) : Int) else 0)
theorem tb_size (k : Nat) : (tb k).size = 256 := by simp [tb]
theorem tb_zero : tb 0 = Array.replicate 256 (.int .u32 0) := by
  apply Array.ext
  · simp [tb]
  · intro i h1 h2
    simp [tb]
theorem tb_succ (k : Nat) : (tb k).setIfInBounds k (.int .u32 (c8 k : Nat)) = tb (k + 1) := by
  apply Array.ext
  · simp [tb]
  · intro i h1 h2
    rw [Array.getElem_setIfInBounds (by simpa using h1)]
    simp only [tb, Array.getElem_ofFn]
    by_cases h : k = i
    · subst h
      simp
    · rw [if_neg h]
      have : (i < k ↔ i < k + 1) := by omega
      simp only [this]
theorem tb_one (k : Nat) : (tb k).all (·.oneCell') = true := by
  rw [Array.all_eq_true]
  intro i h
  simp [tb, Value.oneCell']
theorem tb_at (k : Nat) (x : Nat) (h : x < 256) (hk : x < k) : (tb k)[x]? = some (.int .u32 (c8 x : Nat)) := by
  rw [Array.getElem?_eq_getElem (by simpa [tb] using h)]
  simp [tb, hk]
theorem zero37 : (Try.prog.info? 37).map (fun i => (i.zero, i.size)) = some (some (.agg (Array.replicate 256 (.int .u32 0))), 256) := by kernel_rfl

set_option maxHeartbeats 4000000 in
set_option maxRecDepth 1000000 in
theorem sums_any (w : World) :
    Calls Try.prog 17 #[] w fun e w' => e = .returned (.agg (tb 256)) ∧ Below w.heap.size w w' := by
  have hz := (zero_of_info zero37).1
  go_enter Try.func17, Try.ntmps17
  go_wp2
  rw [← tb_zero]
  go_loopg [3] 256 (fun g s3 wx => ∃ k : Nat, k + g = 256 ∧ s3 = .int .u32 k ∧ wx = (w.alloc (.cells (tb 0) 37)).alloc (.cells (tb k) 37))
  case atStart => exact ⟨0, by omega, rfl, rfl⟩
  case round =>
    obtain ⟨k, hkg, rfl, rfl⟩ := hrel
    cases gk with
    | zero =>
      obtain rfl : k = 256 := by omega
      have r1 : Row ((w.alloc (.cells (tb 0) 37)).alloc (.cells (tb 256) 37)) (w.heap.size + 1) 37 (tb 256) := by simpa using Row.new (w.alloc (.cells (tb 0) 37)) 37 (tb 256)
      have r0 : Row ((w.alloc (.cells (tb 0) 37)).alloc (.cells (tb 256) 37)) w.heap.size 37 (tb 0) := (Row.new w 37 (tb 0)).alloc _
      have b : Below w.heap.size w ((w.alloc (.cells (tb 0) 37)).alloc (.cells (tb 256) 37)) := ((Below.refl _ _).alloc (Nat.le_refl _) _).alloc (by simp) _
      have R0 := Lib.hid r0
      have R1 := Lib.hid r1
      have B := Lib.hid b
      clear r0 r1 b
      have I := Lib.hid (zero_of_info zero37).2
      clear hkg
      generalize hW : (w.alloc (.cells (tb 0) 37)).alloc (.cells (tb 256) 37) = W at *
      clear hW
      go_wp2_with (first | (refine wpList_load_row rfl _ _ rfl (w.heap.size + 1) rfl _ (tb 256) _ R1.out Try.underlying37 rfl (by rw [tb_size]; exact I.out) ?_) | (refine wpList_store_row rfl _ _ _ rfl w.heap.size (tb 256) rfl rfl _ (tb 0) R0.out (by rw [tb_size, tb_size]) (by rw [tb_size]; exact I.out) (tb_one _) ?_; intro w2 r2 g2; have B2 := Lib.hid (B.out.grown g2 B.out.size (fun k h => by injection h with h; subst h; exact Nat.le_refl _)); have R2 := Lib.hid r2; clear r2 g2))
      refine bodyPost_ret (v := .agg (tb 256)) ?_ rfl ⟨rfl, B2.out⟩
      exact results_cell_row rfl _ _ w.heap.size _ _ (0, 0) _ rfl R2.out Try.underlying37 rfl (by rw [tb_size]; exact I.out)
    | succ g =>
      have hk : k < 256 := by omega
      have hki : (k : Int) < 256 := by omega
      have hsz : (tb k).size = 256 := tb_size k
      have hc : c8 (k : Int).toNat = c8 k := by rw [Int.toNat_natCast]
      have HC := Lib.hid hc
      clear hc
      go_wp2_with (go_at_call 24; refine (shiftOut_any k _ (by omega) (by omega)).mono ?_; rintro e w1 ⟨rfl, rfl⟩; rw [HC.out])
      go_roundg g
      case measure => omega
      case rel => exact ⟨k + 1, by omega, by go_num, by rw [← tb_succ]⟩
end Go.Proofs.Ytdeiphimfpckaaa
