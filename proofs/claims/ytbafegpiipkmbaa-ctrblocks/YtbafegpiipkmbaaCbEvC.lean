/- CtrBlocks, by the evaluator: some of the ways. -/
import Derived.Test.YtbafegpiipkmbaaCtrBlocksEv
set_option linter.unusedVariables false
namespace Go.Proofs.Ytbafegpiipkmbaa
open Go Go.RowKit Ev

theorem cb_3_tf : (evCb 3 true false).map (·.1) = some (.tv (.sc (.bool true))) := by kernel_rfl
theorem cb_3_tt : (evCb 3 true true).map (·.1) = some (.tv (.sc (.bool true))) := by kernel_rfl
theorem cb_5_ft : (evCb 5 false true).map (·.1) = some (.tv (.sc (.bool true))) := by kernel_rfl
theorem cb_6_ft : (evCb 6 false true).map (·.1) = some (.tv (.sc (.bool true))) := by kernel_rfl
theorem cb_8_ft : (evCb 8 false true).map (·.1) = some (.tv (.sc (.bool true))) := by kernel_rfl
theorem cb_8_tt : (evCb 8 true true).map (·.1) = some (.tv (.sc (.bool true))) := by kernel_rfl
theorem cb_11_tf : (evCb 11 true false).map (·.1) = some (.tv (.sc (.bool true))) := by kernel_rfl
theorem cb_11_tt : (evCb 11 true true).map (·.1) = some (.tv (.sc (.bool true))) := by kernel_rfl
theorem cb_13_ft : (evCb 13 false true).map (·.1) = some (.tv (.sc (.bool true))) := by kernel_rfl
theorem cb_14_ft : (evCb 14 false true).map (·.1) = some (.tv (.sc (.bool true))) := by kernel_rfl
theorem cb_16_ft : (evCb 16 false true).map (·.1) = some (.tv (.sc (.bool true))) := by kernel_rfl
theorem cb_16_tt : (evCb 16 true true).map (·.1) = some (.tv (.sc (.bool true))) := by kernel_rfl
theorem cb_19_tf : (evCb 19 true false).map (·.1) = some (.tv (.sc (.bool true))) := by kernel_rfl
theorem cb_19_tt : (evCb 19 true true).map (·.1) = some (.tv (.sc (.bool true))) := by kernel_rfl
end Go.Proofs.Ytbafegpiipkmbaa
