/- Of the row of PortableSmall: what the kernel reckons. -/
import Derived.Test.YtponcpneflhpfaaGreatDoorRows
import Derived.JoinedOf
import Derived.ProofKit
import Derived.SevenTiedAt
namespace Go.Proofs.YtponcpneflhpfaaGreatDoor
open Go
set_option maxRecDepth 100000
set_option linter.unusedSimpArgs false
theorem portableSmall_goes : false = Rows.portableSmallRow.goesBy Tryz.prog := by kernel_rfl
theorem portableSmall_fn : Tryz.prog.funcNamed "isinglass/isinglasslaw09.PortableSmall" = some 7 := by kernel_rfl
end Go.Proofs.YtponcpneflhpfaaGreatDoor
