/- Walks: the small functions of runs: size, end, within, between; a row's next edge. -/
import Derived.Test.YtfefmlnlicilbaaDoorGn
import Derived.Test.YtfefmlnlicilbaaDoorF1
import Derived.Test.YtfefmlnlicilbaaDoorDz
namespace Go.Proofs.YtfefmlnlicilbaaDoor
open Go.RowKit
set_option linter.unusedVariables false

/-- Runs as elements. -/
def eR : Elem2 Rn := { E := 85, fst := fun x => .int .u16 x.1.toNat, snd := fun x => .int .u16 x.2.toNat, zero := (0, 0), bytes := 4, one1 := fun _ => rfl, one2 := fun _ => rfl, small := by omega }
theorem infR : (Tryd.prog.info? eR.E).map (fun i => (i.zero, i.size, i.bytes)) = some (some (eR.val eR.zero), 2, eR.bytes) := by kernel_rfl
theorem sliR : Tryd.prog.underlying 25 = some (.slice eR.E) := Tryd.underlying25

set_option maxHeartbeats 400000 in
theorem size_any (f m : Nat) (hm : m < 65536) (w : World) :
    Calls Tryd.prog 84 #[.agg #[.int .u16 f, .int .u16 m]] w fun e w' => e = .returned (.int .i64 ((m : Int) + 1)) ∧ Below w.heap.size w w' := by
  go_enter Tryd.func84, Tryd.ntmps84
  go_wp2
  go_ret
  exact ⟨rfl, below_of_grown (World.grownBy_alloc w _ none) (by intro k h; cases h)⟩
set_option maxHeartbeats 400000 in
theorem end_any (f m : Nat) (hf : f < 65536) (hm : m < 65536) (w : World) :
    Calls Tryd.prog 66 #[.agg #[.int .u16 f, .int .u16 m]] w fun e w' => e = .returned (.int .i64 ((f : Int) + ((m : Int) + 1))) ∧ Below w.heap.size w w' := by
  have hw : IntKind.i64.wrap (f : Int) = (f : Int) := by simp [IntKind.wrap, IntKind.bits, IntKind.signed]; omega
  have hs : IntKind.i64.wrap ((f : Int) + ((m : Int) + 1)) = (f : Int) + ((m : Int) + 1) := by simp [IntKind.wrap, IntKind.bits, IntKind.signed]; omega
  go_enter Tryd.func66, Tryd.ntmps66
  go_wp2
  go_region_with (first | (go_at_call 84; refine (size_any f m hm _).mono ?_; rintro e w9 ⟨rfl, b9⟩; have c0 := (b9.cell (p := ⟨w.heap.size, 0, none⟩) (by simp)).trans (show _ = some (.int .u16 (f : Int)) by simp); have c1 := (b9.cell (p := ⟨w.heap.size, 1, none⟩) (by simp)).trans (show _ = some (.int .u16 (m : Int)) by simp); have B9 := Lib.hid b9; clear b9))
  all_goals
    go_wp2
    go_ret
    exact ⟨rfl, (((Below.refl w.heap.size w).alloc (Nat.le_refl _) _).drew).trans (B9.out.mono (by simp))⟩
/-- A place, or the one of 0 to 65536 that is next to it. -/
def clp (x : Int) : Int := if x < 0 then 0 else if 65536 < x then 65536 else x
theorem clp_le (x : Int) : 0 ≤ clp x ∧ clp x ≤ 65536 := by unfold clp; split <;> (try split) <;> omega
set_option maxHeartbeats 400000 in
theorem rwithin_any (x : Int) (w : World) :
    Calls Tryd.prog 69 #[.int .i64 x] w fun e w' => e = .returned (.int .i64 (clp x)) ∧ w' = w := by
  rcases Int.lt_or_le x 0 with h | h
  · have e : clp x = 0 := by unfold clp; rw [if_pos h]
    rw [e]
    go_enter Tryd.func69, Tryd.ntmps69
    go_wp2
    go_ret
    exact ⟨rfl, rfl⟩
  · rcases Int.lt_or_le 65536 x with h2 | h2
    · have e : clp x = 65536 := by unfold clp; rw [if_neg (by omega), if_pos h2]
      rw [e]
      go_enter Tryd.func69, Tryd.ntmps69
      go_wp2
      go_ret
      exact ⟨rfl, rfl⟩
    · have e : clp x = x := by unfold clp; rw [if_neg (by omega), if_neg (by omega)]
      rw [e]
      go_enter Tryd.func69, Tryd.ntmps69
      go_wp2
      go_ret
      exact ⟨rfl, rfl⟩
end Go.Proofs.YtfefmlnlicilbaaDoor
