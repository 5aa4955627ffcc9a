/- AesLinear evaluated, the row 3. -/
import Derived.Test.YtehdglalfejpjabAesLinDefs
namespace Go.Proofs.Ytehdglalfejpjab
open Go Go.RowKit Ev
theorem lin_ev_3_0 : evCall Try.prog (linLore 3 0) (tabCon (linTab 3 0)) 100 7 [R 0, R 1, B8 0] [] = some (.tv (.sc (.bool true)), []) := by kernel_rfl
theorem lin_ev_3_1 : evCall Try.prog (linLore 3 1) (tabCon (linTab 3 1)) 100 7 [R 0, R 1, B8 0] [] = some (.tv (.sc (.bool true)), []) := by kernel_rfl
theorem lin_ev_3_2 : evCall Try.prog (linLore 3 2) (tabCon (linTab 3 2)) 100 7 [R 0, R 1, B8 0] [] = some (.tv (.sc (.bool true)), []) := by kernel_rfl
theorem lin_ev_3_3 : evCall Try.prog (linLore 3 3) (tabCon (linTab 3 3)) 100 7 [R 0, R 1, B8 0] [] = some (.tv (.sc (.bool true)), []) := by kernel_rfl
end Go.Proofs.Ytehdglalfejpjab
