/- CtrBlocks, by the evaluator: some of the ways. -/
import Derived.Test.YtbafegpiipkmbaaCtrBlocksEv
set_option linter.unusedVariables false
namespace Go.Proofs.Ytbafegpiipkmbaa
open Go Go.RowKit Ev

theorem cb_1_ft : (evCb 1 false true).map (·.1) = some (.tv (.sc (.bool true))) := by kernel_rfl
theorem cb_2_ft : (evCb 2 false true).map (·.1) = some (.tv (.sc (.bool true))) := by kernel_rfl
theorem cb_4_ft : (evCb 4 false true).map (·.1) = some (.tv (.sc (.bool true))) := by kernel_rfl
theorem cb_4_tt : (evCb 4 true true).map (·.1) = some (.tv (.sc (.bool true))) := by kernel_rfl
theorem cb_7_tf : (evCb 7 true false).map (·.1) = some (.tv (.sc (.bool true))) := by kernel_rfl
theorem cb_7_tt : (evCb 7 true true).map (·.1) = some (.tv (.sc (.bool true))) := by kernel_rfl
theorem cb_9_ft : (evCb 9 false true).map (·.1) = some (.tv (.sc (.bool true))) := by kernel_rfl
theorem cb_10_ft : (evCb 10 false true).map (·.1) = some (.tv (.sc (.bool true))) := by kernel_rfl
theorem cb_12_ft : (evCb 12 false true).map (·.1) = some (.tv (.sc (.bool true))) := by kernel_rfl
theorem cb_12_tt : (evCb 12 true true).map (·.1) = some (.tv (.sc (.bool true))) := by kernel_rfl
theorem cb_15_tf : (evCb 15 true false).map (·.1) = some (.tv (.sc (.bool true))) := by kernel_rfl
theorem cb_15_tt : (evCb 15 true true).map (·.1) = some (.tv (.sc (.bool true))) := by kernel_rfl
theorem cb_17_ft : (evCb 17 false true).map (·.1) = some (.tv (.sc (.bool true))) := by kernel_rfl
theorem cb_18_ft : (evCb 18 false true).map (·.1) = some (.tv (.sc (.bool true))) := by kernel_rfl
theorem cb_20_tt : (evCb 20 true true).map (·.1) = some (.tv (.sc (.bool true))) := by kernel_rfl
end Go.Proofs.Ytbafegpiipkmbaa
