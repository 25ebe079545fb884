/- Of the row of PortableEnds: what the kernel reckons. -/
import Derived.Test.YtponcpneflhpfaaGreatDoorRows
import Derived.JoinedOf
import Derived.ProofKit
import Derived.SevenTiedAt
namespace Go.Proofs.YtponcpneflhpfaaGreatDoor
open Go
set_option maxRecDepth 100000
set_option linter.unusedSimpArgs false
theorem portableEnds_inPlace : (Rows.portableEndsRow.inPlace == Tryz.prog.inPlace 8) = true := by kernel_rfl
theorem portableEnds_unfollowed : (Rows.portableEndsRow.unfollowed == Tryz.prog.unfollowed 8) = true := by kernel_rfl
end Go.Proofs.YtponcpneflhpfaaGreatDoor
