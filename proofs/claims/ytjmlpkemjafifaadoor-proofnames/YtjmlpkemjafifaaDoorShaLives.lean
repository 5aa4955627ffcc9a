/- The law's own look whether the program lives: the digest of three bytes. -/
import Derived.Test.YtjmlpkemjafifaaDoorEvSha
import Derived.Test.YtjmlpkemjafifaaDoorGrEvB
import Derived.Test.YtjmlpkemjafifaaDoorChecked
namespace Go.Proofs.YtjmlpkemjafifaaDoor
open Go Go.RowKit Ev

theorem mixedOrders : Tryd.prog.follows .mixedOrders = true := by kernel_rfl
def noEnv : Env := ⟨fun _ => 0, fun _ => .tuple #[], fun _ _ _ => 0⟩
end Go.Proofs.YtjmlpkemjafifaaDoor
