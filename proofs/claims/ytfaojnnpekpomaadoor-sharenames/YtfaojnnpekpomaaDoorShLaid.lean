/- The listed variables of the laws of share that reach no sha: what the rows' condition says of them. -/
import Derived.Test.YtfaojnnpekpomaaDoorRows
import Derived.Test.YtfaojnnpekpomaaDoorBsNum
import Derived.ProofKit
import Derived.OpenShut
import Derived.LaidLaws
import Derived.Lay
import Derived.MakeChecks
import Derived.Stop.LaidErr
import Derived.Lib.LaidTab
namespace Go.Proofs.YtfaojnnpekpomaaDoor
open Go Go.RowKit Go.ChangeShapes Go.WideShapes Go.ChangeAt

def shpLaid : List (String × DataW Unit) := [("math/bits.deBruijn32tab", Rows.laid_math_bits_deBruijn32tab), ("math/bits.deBruijn64tab", Rows.laid_math_bits_deBruijn64tab), ("internal/strconv.uint64pow10", Rows.laid_internal_strconv_uint64pow10)]
theorem gP10 : Tryd.prog.globalNamed "internal/strconv.uint64pow10" = some 0 := by kernel_rfl
theorem tP10 : (Tryd.prog.globals[0]?).map (·.type) = some 89 := by kernel_rfl
theorem kp_of_laid {W : World} (h : laidMetH Tryd.prog shpLaid W) : KP W := by
  rw [MakeChecks.laidMetH_plain _ _ _ (by kernel_rfl)] at h
  have h3 : laidMet Tryd.prog (("internal/strconv.uint64pow10", Lib.tabData .u64 Lib.pow10Tab) :: []) W := h.tail.tail
  exact Lib.tabIs_of_head gP10 tP10 Tryd.underlying89 Tryd.underlying82 (by kernel_rfl) (by kernel_rfl) h3
end Go.Proofs.YtfaojnnpekpomaaDoor
