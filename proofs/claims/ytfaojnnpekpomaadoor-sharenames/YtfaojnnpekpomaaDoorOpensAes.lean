/- What a reading of the arguments gives the walks of the cipher. -/
import Derived.Test.YtfaojnnpekpomaaDoorRows
import Derived.Test.YtfaojnnpekpomaaDoorBase
import Derived.ProofKit
import Derived.OpenShut
import Derived.ShutString
import Derived.ChangeOld
import Derived.Deep.Slices
import Derived.JoinedCond
import Derived.SizedLaws
namespace Go.Proofs.YtfaojnnpekpomaaDoor
open Go.ChangeShapes Go.WideShapes Go.ChangeAt Go.RowKit

theorem Opn.own : ownKnob Tryd.prog.godebug = none := by kernel_rfl
theorem Opn.laidOut : laidOutB Tryd.prog = true := by kernel_rfl
end Go.Proofs.YtfaojnnpekpomaaDoor
