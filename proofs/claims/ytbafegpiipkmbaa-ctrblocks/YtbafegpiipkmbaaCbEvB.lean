/- CtrBlocks, by the evaluator: some of the ways. -/
import Derived.Test.YtbafegpiipkmbaaCtrBlocksEv
set_option linter.unusedVariables false
namespace Go.Proofs.Ytbafegpiipkmbaa
open Go Go.RowKit Ev

theorem cb_1_tf : (evCb 1 true false).map (·.1) = some (.tv (.sc (.bool true))) := by kernel_rfl
theorem cb_2_tf : (evCb 2 true false).map (·.1) = some (.tv (.sc (.bool true))) := by kernel_rfl
theorem cb_4_tf : (evCb 4 true false).map (·.1) = some (.tv (.sc (.bool true))) := by kernel_rfl
theorem cb_5_tt : (evCb 5 true true).map (·.1) = some (.tv (.sc (.bool true))) := by kernel_rfl
theorem cb_6_tt : (evCb 6 true true).map (·.1) = some (.tv (.sc (.bool true))) := by kernel_rfl
theorem cb_7_ft : (evCb 7 false true).map (·.1) = some (.tv (.sc (.bool true))) := by kernel_rfl
theorem cb_9_tf : (evCb 9 true false).map (·.1) = some (.tv (.sc (.bool true))) := by kernel_rfl
theorem cb_10_tf : (evCb 10 true false).map (·.1) = some (.tv (.sc (.bool true))) := by kernel_rfl
theorem cb_12_tf : (evCb 12 true false).map (·.1) = some (.tv (.sc (.bool true))) := by kernel_rfl
theorem cb_13_tt : (evCb 13 true true).map (·.1) = some (.tv (.sc (.bool true))) := by kernel_rfl
theorem cb_14_tt : (evCb 14 true true).map (·.1) = some (.tv (.sc (.bool true))) := by kernel_rfl
theorem cb_15_ft : (evCb 15 false true).map (·.1) = some (.tv (.sc (.bool true))) := by kernel_rfl
theorem cb_17_tf : (evCb 17 true false).map (·.1) = some (.tv (.sc (.bool true))) := by kernel_rfl
theorem cb_18_tf : (evCb 18 true false).map (·.1) = some (.tv (.sc (.bool true))) := by kernel_rfl
theorem cb_20_ft : (evCb 20 false true).map (·.1) = some (.tv (.sc (.bool true))) := by kernel_rfl
end Go.Proofs.Ytbafegpiipkmbaa
