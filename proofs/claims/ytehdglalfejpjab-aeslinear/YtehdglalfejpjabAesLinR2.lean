/- AesLinear evaluated, the row 2. -/
import Derived.Test.YtehdglalfejpjabAesLinDefs
namespace Go.Proofs.Ytehdglalfejpjab
open Go Go.RowKit Ev
theorem lin_ev_2_0 : evCall Try.prog (linLore 2 0) (tabCon (linTab 2 0)) 100 7 [R 0, R 1, B8 0] [] = some (.tv (.sc (.bool true)), []) := by kernel_rfl
theorem lin_ev_2_1 : evCall Try.prog (linLore 2 1) (tabCon (linTab 2 1)) 100 7 [R 0, R 1, B8 0] [] = some (.tv (.sc (.bool true)), []) := by kernel_rfl
theorem lin_ev_2_2 : evCall Try.prog (linLore 2 2) (tabCon (linTab 2 2)) 100 7 [R 0, R 1, B8 0] [] = some (.tv (.sc (.bool true)), []) := by kernel_rfl
theorem lin_ev_2_3 : evCall Try.prog (linLore 2 3) (tabCon (linTab 2 3)) 100 7 [R 0, R 1, B8 0] [] = some (.tv (.sc (.bool true)), []) := by kernel_rfl
end Go.Proofs.Ytehdglalfejpjab
