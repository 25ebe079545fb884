/- Of the row of PortableEnds: what the kernel reckons. -/
import Derived.Test.YtponcpneflhpfaaGreatDoorRows
import Derived.JoinedOf
import Derived.ProofKit
import Derived.SevenTiedAt
namespace Go.Proofs.YtponcpneflhpfaaGreatDoor
open Go
set_option maxRecDepth 100000
set_option linter.unusedSimpArgs false
theorem portableEnds_goes : false = Rows.portableEndsRow.goesBy Tryz.prog := by kernel_rfl
theorem portableEnds_fn : Tryz.prog.funcNamed "isinglass/isinglasslaw09.PortableEnds" = some 8 := by kernel_rfl
end Go.Proofs.YtponcpneflhpfaaGreatDoor
