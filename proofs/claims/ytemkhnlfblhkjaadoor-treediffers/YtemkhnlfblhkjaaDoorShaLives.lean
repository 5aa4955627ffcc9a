/- The law's own look whether the program lives: the digest of three bytes. -/
import Derived.Test.YtemkhnlfblhkjaaDoorEvSha
import Derived.Test.YtemkhnlfblhkjaaDoorGrEvB
import Derived.Test.YtemkhnlfblhkjaaDoorChecked
namespace Go.Proofs.YtemkhnlfblhkjaaDoor
open Go Go.RowKit Ev

theorem mixedOrders : Tryd.prog.follows .mixedOrders = true := by kernel_rfl
def noEnv : Env := ⟨fun _ => 0, fun _ => .tuple #[], fun _ _ _ => 0⟩
end Go.Proofs.YtemkhnlfblhkjaaDoor
