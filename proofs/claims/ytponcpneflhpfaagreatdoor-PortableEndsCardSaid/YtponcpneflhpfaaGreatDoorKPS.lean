/- Of the program: what the kernel reckons once for all its rows. -/
import Derived.Test.YtponcpneflhpfaaGreatDoorRows
import Derived.JoinedOf
import Derived.ProofKit
import Derived.SevenTiedAt
namespace Go.Proofs.YtponcpneflhpfaaGreatDoor
open Go
set_option maxRecDepth 100000
theorem pg_laid : laidOutB Tryz.prog = true := by kernel_rfl
theorem pg_maps : mapsRowed Tryz.prog = true := by kernel_rfl
theorem pg_heard : Tryz.prog.stopsHeard = true := by kernel_rfl
theorem pg_enter : Tryz.prog.mayEnter = true := by kernel_rfl
theorem pg_looks : false = Tryz.prog.looks [] := by kernel_rfl
end Go.Proofs.YtponcpneflhpfaaGreatDoor
