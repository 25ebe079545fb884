/- Of the row of PortableSmall: what the kernel reckons. -/
import Derived.Test.YtponcpneflhpfaaGreatDoorRows
import Derived.JoinedOf
import Derived.ProofKit
import Derived.SevenTiedAt
namespace Go.Proofs.YtponcpneflhpfaaGreatDoor
open Go
set_option maxRecDepth 100000
set_option linter.unusedSimpArgs false
theorem portableSmall_inPlace : (Rows.portableSmallRow.inPlace == Tryz.prog.inPlace 7) = true := by kernel_rfl
theorem portableSmall_unfollowed : (Rows.portableSmallRow.unfollowed == Tryz.prog.unfollowed 7) = true := by kernel_rfl
end Go.Proofs.YtponcpneflhpfaaGreatDoor
