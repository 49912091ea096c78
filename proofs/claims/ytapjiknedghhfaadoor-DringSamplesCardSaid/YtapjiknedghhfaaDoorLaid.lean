/-
  WHAT THE ROW's LIST GIVES THE WALKS: the table of constants; a world that holds the listed variable as the program's text lays it.
-/
import Derived.Test.YtapjiknedghhfaaDoorCards
import Derived.Test.YtapjiknedghhfaaDoorTie
import Derived.Test.YtapjiknedghhfaaDoorLaw
import Derived.Test.YtapjiknedghhfaaDoorKPerm
import Derived.Deep.DeepHandedRow
import Derived.Deep.DeepWitnessRowRef
import Derived.Lib.LaidTab
import Derived.LaidMore
namespace Go.Proofs.YtapjiknedghhfaaDoor
open Go.ChangeShapes Go.WideShapes Go.ChangeAt Go.RowKit

/-- The list of both rows. -/
def laidAll : List (String × DataW Unit) := [("livery/keccak.constants", Rows.laid_livery_keccak_constants)]
theorem cells_arr : Tryd.prog.cellsOf 78 = 24 := by kernel_rfl
theorem cells_u64 : Tryd.prog.cellsOf 56 = 1 := by kernel_rfl
theorem tab_data : (Rows.laid_livery_keccak_constants : DataW Unit) = Lib.tabData .u64 (kC.map fun x => (x.toNat : Int)) := by kernel_rfl

theorem vars_of_laid {W : World} (h0 : laidMetH Tryd.prog laidAll W) : KVars W := by
  have h : laidMet Tryd.prog laidAll W := by rwa [MakeChecks.laidMetH_plain _ _ _ (by kernel_rfl)] at h0
  unfold laidAll at h
  rw [tab_data] at h
  have ht : Lib.TabIs Tryd.prog W "livery/keccak.constants" .u64 (kC.map fun x => (x.toNat : Int)) := Lib.tabIs_of_head (g := 0) (by kernel_rfl) (by kernel_rfl) Tryd.underlying78 Tryd.underlying56 cells_u64 cells_arr h
  intro k hk
  have := World.var?_cell (g := 0) (by kernel_rfl) ht k
  rw [this]
  simp [lane, List.getD, List.getElem?_eq_getElem (show k < kC.length from hk)]

/-- A WORLD FOR THE WITNESS: the heap that the program's own initialisers leave. -/
noncomputable def laidWorld (os : Os) : World := World.doorLaid Tryd.prog 14 os
theorem laid_met (os : Os) (args : Array Value) : laidMet Tryd.prog laidAll ((laidWorld os).forCall (fun _ _ => 0) ⟨#[], args, []⟩).memory :=
  laidMet_of_run' 8 (by kernel_rfl) (by kernel_rfl)
end Go.Proofs.YtapjiknedghhfaaDoor
