/- What a reading of the arguments gives the walks of the cipher. -/
import Derived.Test.YtlmidjgjijmiiaaRows
import Derived.Test.YtlmidjgjijmiiaaBase
import Derived.ProofKit
import Derived.OpenShut
import Derived.ShutString
import Derived.ChangeOld
import Derived.Deep.Slices
import Derived.JoinedCond
import Derived.SizedLaws
namespace Go.Proofs.Ytlmidjgjijmiiaa
open Go.ChangeShapes Go.WideShapes Go.ChangeAt Go.RowKit

theorem Opn.own : ownKnob Try.prog.godebug = none := by kernel_rfl
theorem Opn.laidOut : laidOutB Try.prog = true := by kernel_rfl
end Go.Proofs.Ytlmidjgjijmiiaa
