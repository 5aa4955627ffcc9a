/- Of the road to wireCallsUpto_holds: WrRRep. -/
import Derived.Test.YtgjadpidoaianaaG21
import Derived.Test.YtgjadpidoaianaaG22
import Derived.Test.YtgjadpidoaianaaG23
set_option linter.unusedVariables false
set_option linter.unusedSimpArgs false
namespace Go.Proofs.Ytgjadpidoaianaa
open Go Go.RowKit
theorem rrep_any (w : World) (v : Value) (l : List Int) (h : HB w v l) (hbig : l.length ≤ 140737488355328) :
    Calls Try.prog 27 #[v] w fun e w' => DocP w l e w' ∧ Below w.heap.size w w' := by
  by_cases h0 : l.length = 0
  · exact rrep_e w v l h h0
  by_cases h1 : l.getD 0 0 < 1
  · exact rrep_n0 w v l h (by omega) h1
  by_cases h7 : 7 < l.getD 0 0
  · exact rrep_n8 w v l h (by omega) h7
  rcases (by omega : l.getD 0 0 = 1 ∨ l.getD 0 0 = 2 ∨ l.getD 0 0 = 3 ∨ l.getD 0 0 = 4 ∨ l.getD 0 0 = 5 ∨ l.getD 0 0 = 6 ∨ l.getD 0 0 = 7) with e | e | e | e | e | e | e
  · by_cases hs : l.length < 2
    · exact rrep_1s w v l h (by omega) e hs
    · exact rrep_1 w v l h hbig e (by omega)
  · exact rrep_2 w v l h (by omega) hbig e
  · exact rrep_3 w v l h (by omega) hbig e
  · exact rrep_4 w v l h (by omega) hbig e
  · by_cases hs : l.length < 5
    · exact rrep_5s w v l h (by omega) e hs
    · exact rrep_5 w v l h hbig e (by omega)
  · exact rrep_6 w v l h (by omega) hbig e
  · exact rrep_7 w v l h (by omega) hbig e
end Go.Proofs.Ytgjadpidoaianaa
