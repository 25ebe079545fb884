/- Of the row of PortableEnds: what the kernel reckons. -/
import Derived.Test.YtponcpneflhpfaaGreatDoorRows
import Derived.JoinedOf
import Derived.ProofKit
import Derived.SevenTiedAt
namespace Go.Proofs.YtponcpneflhpfaaGreatDoor
open Go
set_option maxRecDepth 100000
set_option linter.unusedSimpArgs false
theorem portableEnds_named : (Rows.portableEndsRow.named == Tryz.prog.varsNamed 8) = true := by kernel_rfl
theorem portableEnds_recurses : (Rows.portableEndsRow.recurses == Tryz.prog.recurses 8) = true := by kernel_rfl
theorem portableEnds_lifted_ : (Rows.portableEndsRow.lifted == Tryz.prog.liftsFinal) = true := by kernel_rfl
end Go.Proofs.YtponcpneflhpfaaGreatDoor
