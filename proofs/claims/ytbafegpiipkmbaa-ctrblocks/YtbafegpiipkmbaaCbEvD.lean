/- CtrBlocks, by the evaluator: some of the ways. -/
import Derived.Test.YtbafegpiipkmbaaCtrBlocksEv
set_option linter.unusedVariables false
namespace Go.Proofs.Ytbafegpiipkmbaa
open Go Go.RowKit Ev

theorem cb_1_tt : (evCb 1 true true).map (·.1) = some (.tv (.sc (.bool true))) := by kernel_rfl
theorem cb_2_tt : (evCb 2 true true).map (·.1) = some (.tv (.sc (.bool true))) := by kernel_rfl
theorem cb_3_ft : (evCb 3 false true).map (·.1) = some (.tv (.sc (.bool true))) := by kernel_rfl
theorem cb_5_tf : (evCb 5 true false).map (·.1) = some (.tv (.sc (.bool true))) := by kernel_rfl
theorem cb_6_tf : (evCb 6 true false).map (·.1) = some (.tv (.sc (.bool true))) := by kernel_rfl
theorem cb_8_tf : (evCb 8 true false).map (·.1) = some (.tv (.sc (.bool true))) := by kernel_rfl
theorem cb_9_tt : (evCb 9 true true).map (·.1) = some (.tv (.sc (.bool true))) := by kernel_rfl
theorem cb_10_tt : (evCb 10 true true).map (·.1) = some (.tv (.sc (.bool true))) := by kernel_rfl
theorem cb_11_ft : (evCb 11 false true).map (·.1) = some (.tv (.sc (.bool true))) := by kernel_rfl
theorem cb_13_tf : (evCb 13 true false).map (·.1) = some (.tv (.sc (.bool true))) := by kernel_rfl
theorem cb_14_tf : (evCb 14 true false).map (·.1) = some (.tv (.sc (.bool true))) := by kernel_rfl
theorem cb_16_tf : (evCb 16 true false).map (·.1) = some (.tv (.sc (.bool true))) := by kernel_rfl
theorem cb_17_tt : (evCb 17 true true).map (·.1) = some (.tv (.sc (.bool true))) := by kernel_rfl
theorem cb_18_tt : (evCb 18 true true).map (·.1) = some (.tv (.sc (.bool true))) := by kernel_rfl
theorem cb_19_ft : (evCb 19 false true).map (·.1) = some (.tv (.sc (.bool true))) := by kernel_rfl
end Go.Proofs.Ytbafegpiipkmbaa
