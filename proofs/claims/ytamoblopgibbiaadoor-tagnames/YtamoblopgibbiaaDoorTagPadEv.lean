/- The document's digest of a pad's bytes: its block, its words, and what it is mixed into, as the evaluator finds them. -/
import Derived.Test.YtamoblopgibbiaaDoorEvSha
import Derived.Test.YtamoblopgibbiaaDoorEvLit
import Derived.Test.YtamoblopgibbiaaDoorChecked
namespace Go.Proofs.YtamoblopgibbiaaDoor
open Go Go.RowKit Ev

theorem mixedOrders : Tryd.prog.follows .mixedOrders = true := by kernel_rfl
def padBlock : List Nat := [0, 0, 0, 0, 0, 0, 0, 14, 115, 116, 114, 111, 110, 103, 114, 111, 111, 109, 32, 112, 97, 100, 0, 0, 0, 0, 0, 0, 0, 4, 0, 0, 0, 7, 128, 0, 0, 0, 0, 0, 0, 0, 0, 0, 0, 0, 0, 0, 0, 0, 0, 0, 0, 0, 0, 0, 0, 0, 0, 0, 0, 0, 1, 16]
def padWords : List Nat := [0, 14, 1937011311, 1852273263, 1869422704, 1633943552, 0, 262144, 491520, 0, 0, 0, 0, 0, 0, 272, 469991425, 3434986114, 856169216, 2109270187, 2336771756, 3401826129, 782340079, 2759388120, 3267827049, 2613474185, 3856814505, 2195414451, 765228586, 4092630992, 2056790104, 4256031260, 1051854507, 14267866, 1557758059, 4085289097, 3296877623, 1480048775, 825061891, 167205286, 2006689177, 463709173, 536318916, 960675205, 1541371835, 3863650278, 949322803, 1635889268, 2790493887, 3426122357, 1987272896, 565975141, 2093606632, 2093668760, 4255755765, 3181709773, 688636137, 657923963, 2085829656, 3263850006, 1228338704, 1683799827, 620829454, 3676928581]
def padMixed : List Nat := [1687037637, 3791585302, 729886610, 2454548114, 3674386445, 2553926959, 2079459574, 3602981539]
def ivW : List Nat := [1779033703, 3144134277, 1013904242, 2773480762, 1359893119, 2600822924, 528734635, 1541459225]
theorem words_ev : evCall Tryd.prog noLore noCon 100 69 [.tv (.agg (litB padBlock))] H0 = some (.tv (.agg (litW padWords)), H0) := by kernel_rfl
def conWords : ConF := con1 69 [.tv (.agg (litB padBlock))] (.tv (.agg (litW padWords)))
theorem conWords_ok (ρ : Env) : ConOk Tryd.prog ρ conWords := con1_ok (noCon_ok _ _) mixedOrders words_ev (by kernel_rfl) (by kernel_rfl)
theorem refMix_ev : evCall Tryd.prog noLore conWords 100 39 [.tv (.agg (litW ivW)), .tv (.agg (litB padBlock))] H0 = some (.tv (.agg (litW padMixed)), H0) := by kernel_rfl
def conRefMix : ConF := con1 39 [.tv (.agg (litW ivW)), .tv (.agg (litB padBlock))] (.tv (.agg (litW padMixed)))
theorem conRefMix_ok (ρ : Env) : ConOk Tryd.prog ρ conRefMix := con1_ok (conWords_ok ρ) mixedOrders refMix_ev (by kernel_rfl) (by kernel_rfl)
def conTag : ConF := conOr conMix conRefMix
theorem conTag_ok (ρ : Env) : ConOk Tryd.prog ρ conTag := conOr_ok (conMix_ok ρ) (conRefMix_ok ρ)
end Go.Proofs.YtamoblopgibbiaaDoor
