/- What a row's condition gives: the table stands. -/
import Derived.Test.YtjjahcidncnogaaDoorRows
import Derived.Test.YtjjahcidncnogaaDoorCards
import Derived.Test.YtjjahcidncnogaaDoorTie
import Derived.Test.YtjjahcidncnogaaDoorShaPadC
import Derived.Lib.LaidTab
import Derived.MakeChecks
import Derived.Deep.DeepHandedRow
import Derived.OpenShut
namespace Go.Proofs.YtjjahcidncnogaaDoor
open Go.ChangeShapes Go.WideShapes Go.ChangeAt Go.RowKit Go.Lib

theorem tab_of_laid {W : World} (h : laidMetH Tryd.prog [("affidavit/sha.constants", Rows.laid_affidavit_sha_constants)] W) : Tab W := by
  rw [MakeChecks.laidMetH_plain _ _ _ (by kernel_rfl)] at h
  have hg : Tryd.prog.globalNamed "affidavit/sha.constants" = some 0 := by kernel_rfl
  have ht := tabIs_of_head (k := .u32) (zs := kI) hg (t := 141) (by kernel_rfl) Tryd.underlying141 Tryd.underlying25 (by kernel_rfl) (by kernel_rfl) h
  intro i hi
  exact ht.cell hg i hi
/-- A block of cells, holding others. -/
def held (c : Array Value) : Obj → Obj
  | .cells _ t frozen => .cells c t frozen
  | o => o
def tabK : Array Value := cells32 kI
end Go.Proofs.YtjjahcidncnogaaDoor
