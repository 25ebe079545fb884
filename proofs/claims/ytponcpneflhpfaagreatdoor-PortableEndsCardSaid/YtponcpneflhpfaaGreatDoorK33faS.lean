/- Of the row of PortableSmall: what the kernel reckons. -/
import Derived.Test.YtponcpneflhpfaaGreatDoorRows
import Derived.JoinedOf
import Derived.ProofKit
import Derived.SevenTiedAt
namespace Go.Proofs.YtponcpneflhpfaaGreatDoor
open Go
set_option maxRecDepth 100000
set_option linter.unusedSimpArgs false
theorem portableSmall_named : (Rows.portableSmallRow.named == Tryz.prog.varsNamed 7) = true := by kernel_rfl
theorem portableSmall_recurses : (Rows.portableSmallRow.recurses == Tryz.prog.recurses 7) = true := by kernel_rfl
theorem portableSmall_lifted_ : (Rows.portableSmallRow.lifted == Tryz.prog.liftsFinal) = true := by kernel_rfl
end Go.Proofs.YtponcpneflhpfaaGreatDoor
