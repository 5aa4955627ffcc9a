/- AesLinear evaluated, the row 1. -/
import Derived.Test.YtehdglalfejpjabAesLinDefs
namespace Go.Proofs.Ytehdglalfejpjab
open Go Go.RowKit Ev
theorem lin_ev_1_0 : evCall Try.prog (linLore 1 0) (tabCon (linTab 1 0)) 100 7 [R 0, R 1, B8 0] [] = some (.tv (.sc (.bool true)), []) := by kernel_rfl
theorem lin_ev_1_1 : evCall Try.prog (linLore 1 1) (tabCon (linTab 1 1)) 100 7 [R 0, R 1, B8 0] [] = some (.tv (.sc (.bool true)), []) := by kernel_rfl
theorem lin_ev_1_2 : evCall Try.prog (linLore 1 2) (tabCon (linTab 1 2)) 100 7 [R 0, R 1, B8 0] [] = some (.tv (.sc (.bool true)), []) := by kernel_rfl
theorem lin_ev_1_3 : evCall Try.prog (linLore 1 3) (tabCon (linTab 1 3)) 100 7 [R 0, R 1, B8 0] [] = some (.tv (.sc (.bool true)), []) := by kernel_rfl
end Go.Proofs.Ytehdglalfejpjab
