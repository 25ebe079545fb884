/- The table of lowest bits, as the program's text lays it: what a row's condition gives. -/
import Derived.Test.YtfefmlnlicilbaaDoorUE7
import Derived.Test.YtfefmlnlicilbaaDoorGa
import Derived.Test.YtfefmlnlicilbaaDoorTie
import Derived.Test.YtfefmlnlicilbaaDoorCards
import Derived.Lib.LaidTab
import Derived.LaidMore
import Derived.ProofKit
import Derived.SevenTiedAt
namespace Go.Proofs.YtfefmlnlicilbaaDoor
open Go.ChangeShapes Go.WideShapes Go.ChangeAt Go.RowKit
set_option linter.unusedVariables false

theorem g_tab : Tryd.prog.globalNamed "math/bits.deBruijn64tab" = some 0 := by kernel_rfl
theorem t_tab : (Tryd.prog.globals[0]?).map (·.type) = some 109 := by kernel_rfl
theorem c_tab : Tryd.prog.cellsOf 109 = 64 := by kernel_rfl
theorem c_tab8 : Tryd.prog.cellsOf 5 = 1 := by kernel_rfl
def tabZ : List Int := Lib.deBruijn64tab.map Int.ofNat
theorem tab_data : (Rows.laid_math_bits_deBruijn64tab : DataW Unit) = Lib.tabData .u8 tabZ := rfl
theorem tabZ_len : tabZ.length = 64 := by decide +kernel
theorem tabZ_at : ∀ i : Fin 64, tabZ.getD i.val 0 = ((Lib.deBruijn64tab.getD i.val 0 : Nat) : Int) := by decide +kernel
def laidAll : List (String × DataW Unit) := [("math/bits.deBruijn64tab", Rows.laid_math_bits_deBruijn64tab)]
theorem tb_of_laid {W : World} (h : laidMetH Tryd.prog laidAll W) : Tb W := by
  rw [MakeChecks.laidMetH_plain _ _ _ (by kernel_rfl)] at h
  unfold laidAll at h
  rw [tab_data] at h
  have hT := Lib.tabIs_of_head g_tab t_tab Tryd.underlying109 Tryd.underlying5 c_tab8 c_tab h
  have hc : ∀ j, j < 64 → W.cell? ⟨0, j, none⟩ = some (.int .u8 ((Lib.deBruijn64tab.getD j 0 : Nat) : Int)) := fun j hj => by
    rw [← tabZ_at ⟨j, hj⟩]
    exact hT.cell g_tab j (by rw [tabZ_len]; exact hj)
  exact ⟨World.block_lt_of_cell? W _ (hc 0 (by omega)), hc⟩
theorem door_met (os : Os) (args : Array Value) : laidMetH Tryd.prog laidAll ((World.doorLaid Tryd.prog 14 os).forCall (fun _ _ => 0) ⟨#[], args, []⟩).memory :=
  laidMetH_of_parts3 (fuel := 8) (laidMet_of_run' 8 (by kernel_rfl) (by kernel_rfl)) (by kernel_rfl) (by kernel_rfl)
end Go.Proofs.YtfefmlnlicilbaaDoor
