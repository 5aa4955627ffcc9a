/- AesLinear evaluated, the row 0. -/
import Derived.Test.YtehdglalfejpjabAesLinDefs
namespace Go.Proofs.Ytehdglalfejpjab
open Go Go.RowKit Ev
theorem lin_ev_0_0 : evCall Try.prog (linLore 0 0) (tabCon (linTab 0 0)) 100 7 [R 0, R 1, B8 0] [] = some (.tv (.sc (.bool true)), []) := by kernel_rfl
theorem lin_ev_0_1 : evCall Try.prog (linLore 0 1) (tabCon (linTab 0 1)) 100 7 [R 0, R 1, B8 0] [] = some (.tv (.sc (.bool true)), []) := by kernel_rfl
theorem lin_ev_0_2 : evCall Try.prog (linLore 0 2) (tabCon (linTab 0 2)) 100 7 [R 0, R 1, B8 0] [] = some (.tv (.sc (.bool true)), []) := by kernel_rfl
theorem lin_ev_0_3 : evCall Try.prog (linLore 0 3) (tabCon (linTab 0 3)) 100 7 [R 0, R 1, B8 0] [] = some (.tv (.sc (.bool true)), []) := by kernel_rfl
end Go.Proofs.Ytehdglalfejpjab
