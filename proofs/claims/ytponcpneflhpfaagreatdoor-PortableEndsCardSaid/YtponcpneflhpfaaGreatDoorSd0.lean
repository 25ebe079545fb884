/- Walks: the sizes of an image's parts, of how many containers there are and whether some are told as runs. -/
import Derived.Test.YtponcpneflhpfaaGreatDoorSc9
import Derived.Test.YtponcpneflhpfaaGreatDoorSa6
import Derived.BigQuiet
import Derived.Deep.QuietTactic
import Derived.Laws.EntriesVeiled
namespace Go.Proofs.YtponcpneflhpfaaGreatDoor
open Go.RowKit
set_option linter.unusedVariables false

def clN (n : Nat) (r : Bool) : Nat := if r then 4 + (n + 7) / 8 else 8
def osN (n : Nat) (r : Bool) : Nat := if !r || decide (4 ≤ n) then 4 * n else 0
def ahN (n : Nat) (r : Bool) : Nat := clN n r + 4 * n + osN n r
theorem ofsl_N (cs : List Ct) : ofsl cs = osN cs.length (anyr cs) := rfl
theorem ahed_N (cs : List Ct) : ahed cs = ahN cs.length (anyr cs) := rfl
theorem clN_le (n : Nat) (r : Bool) (hn : n ≤ 65536) : clN n r ≤ 10000 := by unfold clN; split <;> omega
theorem osN_le (n : Nat) (r : Bool) (hn : n ≤ 65536) : osN n r ≤ 262144 := by unfold osN; split <;> omega
theorem ret_i64 {a b : Int} (h : a = b) : Ending.returned (.int .i64 a) = .returned (.int .i64 b) := by rw [h]
theorem bxr (w : World) (t : TypeId) (cs : Array Value) : Below w.heap.size w (w.alloc (.cells cs t)) := (Below.refl _ _).alloc (Nat.le_refl _) _
set_option maxHeartbeats 400000 in
theorem shflags_c (n : Nat) (r : Bool) (w : World) (hn : n ≤ 65536) :
    Calls Tryz.prog 188 #[.agg #[.int .i64 n, .bool r]] w fun e w' => e = .returned (.int .i64 ((n + 7) / 8 : Nat)) ∧ Below w.heap.size w w' := by
  go_enter Tryz.func188, Tryz.ntmps188
  go_wp2
  go_ret
  exact ⟨ret_i64 (by omega), bxr _ _ _⟩
set_option maxHeartbeats 400000 in
theorem shheader_c (n : Nat) (r : Bool) (w : World) (hn : n ≤ 65536) :
    Calls Tryz.prog 194 #[.agg #[.int .i64 n, .bool r]] w fun e w' => e = .returned (.int .i64 (4 * n : Nat)) ∧ Below w.heap.size w w' := by
  go_enter Tryz.func194, Tryz.ntmps194
  go_wp2
  go_ret
  exact ⟨ret_i64 (by omega), bxr _ _ _⟩
set_option maxHeartbeats 400000 in
theorem shcookie_c (n : Nat) (r : Bool) (w : World) (hn : n ≤ 65536) :
    Calls Tryz.prog 193 #[.agg #[.int .i64 n, .bool r]] w fun e w' => e = .returned (.int .i64 (clN n r : Nat)) ∧ Below w.heap.size w w' := by
  cases r with
  | false =>
    go_enter Tryz.func193, Tryz.ntmps193
    go_wp2
    go_ret
    exact ⟨rfl, bxr _ _ _⟩
  | true =>
    have bz := bxr w 153 #[.int .i64 n, .bool true]
    have hF := fun W => shflags_c n true W hn
    obtain ⟨m, hm⟩ : ∃ m, m = (n + 7) / 8 := ⟨_, rfl⟩
    have hc : clN n true = 4 + m := by rw [hm]; rfl
    rw [← hm] at hF
    have hm2 : m ≤ 10000 := by omega
    rw [hc]
    have HF := Lib.hid hF
    clear hF hc hm
    go_enter Tryz.func193, Tryz.ntmps193
    go_wp2_with fail
    refine (HF.out _).mono ?_
    rintro e w1 ⟨rfl, b1⟩
    have B1 := Lib.hid (below_both bz b1)
    clear bz b1
    go_wp2
    go_ret
    exact ⟨ret_i64 (by omega), B1.out⟩
set_option maxHeartbeats 400000 in
theorem shoffsets_c (n : Nat) (r : Bool) (w : World) (hn : n ≤ 65536) :
    Calls Tryz.prog 189 #[.agg #[.int .i64 n, .bool r]] w fun e w' => e = .returned (.int .i64 (osN n r : Nat)) ∧ Below w.heap.size w w' := by
  cases r with
  | false =>
    go_enter Tryz.func189, Tryz.ntmps189
    go_wp2
    go_ret
    exact ⟨ret_i64 (by show _ = ((4 * n : Nat) : Int); omega), bxr _ _ _⟩
  | true =>
    by_cases h : n < 4
    · have g1 : decide ((n : Int) < 4) = true := decide_eq_true (by omega)
      have hc : osN n true = 0 := by unfold osN; rw [if_neg]; simp; omega
      rw [hc]
      go_enter Tryz.func189, Tryz.ntmps189
      go_wp2
      go_ret
      exact ⟨rfl, bxr _ _ _⟩
    · have g1 : decide ((n : Int) < 4) = false := decide_eq_false (by omega)
      have hc : osN n true = 4 * n := by unfold osN; rw [if_pos]; simp; omega
      rw [hc]
      go_enter Tryz.func189, Tryz.ntmps189
      go_wp2
      go_ret
      exact ⟨ret_i64 (by omega), bxr _ _ _⟩
set_option maxHeartbeats 2000000 in
theorem shahead_c (n : Nat) (r : Bool) (w : World) (hn : n ≤ 65536) :
    Calls Tryz.prog 119 #[.agg #[.int .i64 n, .bool r]] w fun e w' => e = .returned (.int .i64 (ahN n r : Nat)) ∧ Below w.heap.size w w' := by
  have hA := fun W => shcookie_c n r W hn
  have hO := fun W => shoffsets_c n r W hn
  have ha := clN_le n r hn
  have ho := osN_le n r hn
  unfold ahN
  generalize clN n r = a at *
  generalize osN n r = o at *
  have CA := Lib.hid hA
  have CO := Lib.hid hO
  clear hA hO
  go_enter Tryz.func119, Tryz.ntmps119
  go_wp2_with fail
  have bz := bxr w 153 #[.int .i64 n, .bool r]
  have R0 := Row.new w 153 #[.int .i64 n, .bool r]
  generalize w.alloc (.cells #[.int .i64 n, .bool r] 153) = W0 at *
  have hSc := (show (fun W => Below w.heap.size w W ∧ Row W w.heap.size 153 #[.int .i64 n, .bool r]) W0.drew from ⟨bz.drew, R0⟩)
  refine wp_region_held_drew (S := fun W => Below w.heap.size w W ∧ Row W w.heap.size 153 #[.int .i64 n, .bool r]) (by kernel_rfl) hSc (fun _ => ?_)
  refine held_take 0 ?_ rfl (by kernel_rfl) (by kernel_rfl) (by kernel_rfl) (fun _ _ _ h => h) (by rfl) ?_ hSc ?_
  rotate_left
  · (intro W hSW; have k0 := hSW.2.cell 0; have k1 := hSW.2.cell 1; go_simp; try rfl)
  try simp only [Act.put, List.setIfInBounds_toArray, List.set_cons_zero, List.set_cons_succ]
  refine held_take 2 ?_ rfl (by kernel_rfl) (by kernel_rfl) (by kernel_rfl) (fun _ _ _ h => h) (by rfl) ?_ hSc ?_
  rotate_left
  · (intro W hSW; have k0 := hSW.2.cell 0; have k1 := hSW.2.cell 1; go_simp; try rfl)
  try simp only [Act.put, List.setIfInBounds_toArray, List.set_cons_zero, List.set_cons_succ]
  refine held_take 5 ?_ rfl (by kernel_rfl) (by kernel_rfl) (by kernel_rfl) (fun _ _ _ h => h) (by rfl) ?_ hSc ?_
  rotate_left
  · (intro W hSW; have k0 := hSW.2.cell 0; have k1 := hSW.2.cell 1; go_simp; try rfl)
  try simp only [Act.put, List.setIfInBounds_toArray, List.set_cons_zero, List.set_cons_succ]
  refine held_next 1 rfl (by kernel_rfl) (by rfl) ?_
  go_simp
  refine (CA.out _).mono ?_
  rintro e wq1 ⟨rfl, bq⟩
  have hSd : (fun W => Below w.heap.size w W ∧ Row W w.heap.size 153 #[.int .i64 n, .bool r]) wq1 := ⟨below_both hSc.1 bq, hSc.2.below bq hSc.2.lt⟩
  refine ⟨fun W => Below w.heap.size w W ∧ Row W w.heap.size 153 #[.int .i64 n, .bool r], fun W hW => hW, hSd, ?_⟩
  clear hSc bq
  have hSc := hSd
  clear hSd
  try simp only [Act.put, List.setIfInBounds_toArray, List.set_cons_zero, List.set_cons_succ]
  refine held_next 3 rfl (by kernel_rfl) (by rfl) ?_
  go_simp
  refine (shheader_c n r _ hn).mono ?_
  rintro e wq2 ⟨rfl, bq⟩
  rw [show ((4 * n : Nat) : Int) = 4 * (n : Int) by omega]
  have hSd : (fun W => Below w.heap.size w W ∧ Row W w.heap.size 153 #[.int .i64 n, .bool r]) wq2 := ⟨below_both hSc.1 bq, hSc.2.below bq hSc.2.lt⟩
  refine ⟨fun W => Below w.heap.size w W ∧ Row W w.heap.size 153 #[.int .i64 n, .bool r], fun W hW => hW, hSd, ?_⟩
  clear hSc bq
  have hSc := hSd
  clear hSd
  try simp only [Act.put, List.setIfInBounds_toArray, List.set_cons_zero, List.set_cons_succ]
  refine held_take 4 ?_ rfl (by kernel_rfl) (by kernel_rfl) (by kernel_rfl) (fun _ _ _ h => h) (by rfl) ?_ hSc ?_
  rotate_left
  · (intro W hSW; go_simp; try rfl)
  try simp only [Act.put, List.setIfInBounds_toArray, List.set_cons_zero, List.set_cons_succ]
  refine held_next 6 rfl (by kernel_rfl) (by rfl) ?_
  go_simp
  refine (CO.out _).mono ?_
  rintro e wq3 ⟨rfl, bq⟩
  have hSd : (fun W => Below w.heap.size w W ∧ Row W w.heap.size 153 #[.int .i64 n, .bool r]) wq3 := ⟨below_both hSc.1 bq, hSc.2.below bq hSc.2.lt⟩
  refine ⟨fun W => Below w.heap.size w W ∧ Row W w.heap.size 153 #[.int .i64 n, .bool r], fun W hW => hW, hSd, ?_⟩
  clear hSc bq
  have hSc := hSd
  clear hSd
  try simp only [Act.put, List.setIfInBounds_toArray, List.set_cons_zero, List.set_cons_succ]
  refine held_take 7 ?_ rfl (by kernel_rfl) (by kernel_rfl) (by kernel_rfl) (fun _ _ _ h => h) (by rfl) ?_ hSc ?_
  rotate_left
  · (intro W hSW; go_simp; try rfl)
  try simp only [Act.put, List.setIfInBounds_toArray, List.set_cons_zero, List.set_cons_succ]
  refine held_next 8 rfl (by kernel_rfl) (by rfl) ?_
  go_simp
  refine ⟨fun W => Below w.heap.size w W ∧ Row W w.heap.size 153 #[.int .i64 n, .bool r], fun W hW => hW, hSc, ?_⟩
  refine wpAnyH_done (by kernel_rfl) ?_ _
  go_wp2
  go_ret
  have v1 : IntKind.i64.wrap ((a : Int) + 4 * (n : Int)) = (a : Int) + 4 * (n : Int) := by rw [IntKind.wrap_i64]; omega
  have v2 : IntKind.i64.wrap ((a : Int) + 4 * (n : Int) + (o : Int)) = (a : Int) + 4 * (n : Int) + (o : Int) := by rw [IntKind.wrap_i64]; omega
  exact ⟨ret_i64 (by rw [v1, v2]), hSc.1⟩
end Go.Proofs.YtponcpneflhpfaaGreatDoor
