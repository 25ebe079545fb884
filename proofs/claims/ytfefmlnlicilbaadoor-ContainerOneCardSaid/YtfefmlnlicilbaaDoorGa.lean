/- What each row's proof asks of the program. -/
import Derived.Test.YtfefmlnlicilbaaDoorGm
import Derived.ProofKit
import Derived.OpenShut
import Derived.ShutString
import Derived.ChangeOld
import Derived.Below
namespace Go.Proofs.YtfefmlnlicilbaaDoor
theorem own_knob : ownKnob Tryd.prog.godebug = none := by kernel_rfl
theorem laid_out : laidOutB Tryd.prog = true := by kernel_rfl
end Go.Proofs.YtfefmlnlicilbaaDoor
