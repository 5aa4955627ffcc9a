/- The library's variables that the rows list: what the rows' condition says of them. -/
import Derived.Test.YthcdefidoibopabDoorRows
import Derived.Test.YthcdefidoibopabDoorBsNum
import Derived.ProofKit
import Derived.OpenShut
import Derived.LaidLaws
import Derived.Lay
import Derived.MakeChecks
import Derived.Stop.LaidErr
import Derived.Lib.LaidTab
namespace Go.Proofs.YthcdefidoibopabDoor
open Go Go.RowKit Go.ChangeShapes Go.WideShapes Go.ChangeAt

def baseLaid : List (String × DataW Unit) := [("math/bits.deBruijn32tab", Rows.laid_math_bits_deBruijn32tab), ("math/bits.deBruijn64tab", Rows.laid_math_bits_deBruijn64tab), ("internal/strconv.uint64pow10", Rows.laid_internal_strconv_uint64pow10), ("strconv.ErrRange", Rows.laid_strconv_ErrRange), ("strconv.ErrSyntax", Rows.laid_strconv_ErrSyntax)]
theorem gP10 : Tryd.prog.globalNamed "internal/strconv.uint64pow10" = some 3 := by kernel_rfl
theorem tP10 : (Tryd.prog.globals[3]?).map (·.type) = some 107 := by kernel_rfl
theorem gER : Tryd.prog.globalNamed "strconv.ErrRange" = some 2 := by kernel_rfl
theorem tER : (Tryd.prog.globals[2]?).map (·.type) = some 74 := by kernel_rfl
theorem gES : Tryd.prog.globalNamed "strconv.ErrSyntax" = some 1 := by kernel_rfl
theorem tES : (Tryd.prog.globals[1]?).map (·.type) = some 74 := by kernel_rfl
theorem cells_es : Tryd.prog.cellsOf 116 = 1 := by kernel_rfl
theorem cells_str : Tryd.prog.cellsOf 9 = 1 := by kernel_rfl
theorem star_es : "*" ++ "errors.errorString" = "*errors.errorString" := by decide
theorem row_es (u : TypeId) (h : Tryd.prog.typeName? 3 u = some "*errors.errorString") : u = 114 :=
  typeName_ptr_named (nm := "errors.errorString") (by rw [star_es]; kernel_rfl) (by kernel_rfl) (by decide) u (by rw [star_es]; exact h)
theorem kd_of_laid {W : World} (h : laidMetH Tryd.prog baseLaid W) : KD W := by
  rw [MakeChecks.laidMetH_plain _ _ _ (by kernel_rfl)] at h
  have h3 : laidMet Tryd.prog (("internal/strconv.uint64pow10", Lib.tabData .u64 Lib.pow10Tab) :: [("strconv.ErrRange", Rows.laid_strconv_ErrRange), ("strconv.ErrSyntax", Rows.laid_strconv_ErrSyntax)]) W := h.tail.tail
  have h4 := h3.tail
  obtain ⟨a0, s0, hv0, -, -, -⟩ := laid_sentinel h4 gER tER Tryd.underlying74 row_es Tryd.underlying114 Tryd.underlying116 rfl rfl Tryd.underlying9 cells_es cells_str
  obtain ⟨a1, s1, hv1, -, -, -⟩ := laid_sentinel h4.tail gES tES Tryd.underlying74 row_es Tryd.underlying114 Tryd.underlying116 rfl rfl Tryd.underlying9 cells_es cells_str
  have k1 : W.cell? ⟨1, 0, none⟩ = some (.iface 114 (.pointer (some a1))) := by
    have h0 := World.var?_cell gES hv1 0
    simpa using h0
  have k2 : W.cell? ⟨2, 0, none⟩ = some (.iface 114 (.pointer (some a0))) := by
    have h0 := World.var?_cell gER hv0 0
    simpa using h0
  exact ⟨Lib.tabIs_of_head gP10 tP10 Tryd.underlying107 Tryd.underlying94 (by kernel_rfl) (by kernel_rfl) h3, ⟨_, _, k1⟩, _, _, k2⟩
end Go.Proofs.YthcdefidoibopabDoor
