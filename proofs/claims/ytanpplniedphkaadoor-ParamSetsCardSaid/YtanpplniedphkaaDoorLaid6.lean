/-
  WHAT THE ROW's LIST GIVES THE WALKS: the table of powers; a world that holds the listed variables as the program's text lays them.
-/
import Derived.Test.YtanpplniedphkaaDoorCards
import Derived.Test.YtanpplniedphkaaDoorTie
import Derived.Test.YtanpplniedphkaaDoorLaw
import Derived.Deep.DeepHandedRow
import Derived.Deep.DeepWitnessRowRef
import Derived.Lib.LaidTab
import Derived.LaidMore
import Derived.Stop.LaidErr
import Derived.Lib.AppendIntMem
namespace Go.Proofs.YtanpplniedphkaaDoor
open Go.ChangeShapes Go.WideShapes Go.ChangeAt Go.RowKit
set_option maxRecDepth 100000

/-- The table of powers reads as the program's text lays it. -/
def Pow (w : World) : Prop := Lib.TabIs Tryd.prog w "internal/strconv.uint64pow10" .u64 Lib.pow10Tab
/-- The list of the rows. -/
def laidAll : List (String × DataW Unit) := [("math/bits.deBruijn32tab", Rows.laid_math_bits_deBruijn32tab), ("math/bits.deBruijn64tab", Rows.laid_math_bits_deBruijn64tab), ("internal/strconv.uint64pow10", Rows.laid_internal_strconv_uint64pow10)]
theorem cells_arr : Tryd.prog.cellsOf 166 = 20 := by kernel_rfl
theorem cells_u64 : Tryd.prog.cellsOf 131 = 1 := by kernel_rfl
theorem pow_data : (Rows.laid_internal_strconv_uint64pow10 : DataW Unit) = Lib.tabData .u64 Lib.pow10Tab := by kernel_rfl

theorem vars_of_laid {W : World} (h0 : laidMetH Tryd.prog laidAll W) : Pow W := by
  have h : laidMet Tryd.prog laidAll W := by rwa [MakeChecks.laidMetH_plain _ _ _ (by kernel_rfl)] at h0
  have h3 := h.tail.tail
  rw [pow_data] at h3
  exact Lib.tabIs_of_head (g := 0) (by kernel_rfl) (by kernel_rfl) Tryd.underlying166 Tryd.underlying131 cells_u64 cells_arr h3

/-- A WORLD FOR THE WITNESS: the heap that the program's own initialisers leave. -/
noncomputable def laidWorld (os : Os) : World := World.doorLaid Tryd.prog 29 os
theorem laid_met (os : Os) (args : Array Value) : laidMet Tryd.prog laidAll ((laidWorld os).forCall (fun _ _ => 0) ⟨#[], args, []⟩).memory :=
  laidMet_of_run' 8 (by kernel_rfl) (by kernel_rfl)
end Go.Proofs.YtanpplniedphkaaDoor
