import Derived.Test.YtdakbipiifkmfaaGreatDoorCards
import Derived.Test.YtdakbipiifkmfaaGreatDoorTie
import Derived.Test.YtdakbipiifkmfaaGreatDoorHA
import Derived.Test.YtdakbipiifkmfaaGreatDoorHI
import Derived.Deep.DeepHandedRow
import Derived.Deep.DeepWitnessRowRef
import Derived.Lib.LaidTab
import Derived.LaidMore
import Derived.Stop.LaidErr
/-
 WHAT THE ROW's LIST GIVES THE WALKS: both tables of constants; a world that holds the listed variables as the program's text lays them.
-/
namespace Go.Proofs.YtdakbipiifkmfaaGreatDoor
open Go.ChangeShapes Go.WideShapes Go.ChangeAt Go.RowKit
set_option maxRecDepth 100000

/-- The list of the rows. -/
def laidAll : List (String × DataW Unit) := [("livery/keccak.constants", Rows.laid_livery_keccak_constants), ("livery/sha2.constants", Rows.laid_livery_sha2_constants)]
theorem kcells_arr : Tryz.prog.cellsOf 181 = 24 := by kernel_rfl
theorem kcells_u64 : Tryz.prog.cellsOf 74 = 1 := by kernel_rfl
theorem ktab_data : (Rows.laid_livery_keccak_constants : DataW Unit) = Lib.tabData .u64 (kC.map fun x => (x.toNat : Int)) := by kernel_rfl
theorem scells_arr : Tryz.prog.cellsOf 167 = 64 := by kernel_rfl
theorem scells_u32 : Tryz.prog.cellsOf 22 = 1 := by kernel_rfl
theorem stab_data : (Rows.laid_livery_sha2_constants : DataW Unit) = Lib.tabData .u32 (cK.map fun x => (x.toNat : Int)) := by kernel_rfl

theorem tabs_of_laid {W : World} (h0 : laidMetH Tryz.prog laidAll W) : Tabs W := by
 have h : laidMet Tryz.prog laidAll W := by rwa [MakeChecks.laidMetH_plain _ _ _ (by kernel_rfl)] at h0
 have h2 := h.tail
 unfold laidAll at h
 rw [ktab_data] at h
 rw [stab_data] at h2
 have hk : Lib.TabIs Tryz.prog W "livery/keccak.constants" .u64 (kC.map fun x => (x.toNat : Int)) := Lib.tabIs_of_head (g := 1) (by kernel_rfl) (by kernel_rfl) Tryz.underlying181 Tryz.underlying74 kcells_u64 kcells_arr h
 have hs : Lib.TabIs Tryz.prog W "livery/sha2.constants" .u32 (cK.map fun x => (x.toNat : Int)) := Lib.tabIs_of_head (g := 0) (by kernel_rfl) (by kernel_rfl) Tryz.underlying167 Tryz.underlying22 scells_u32 scells_arr h2
 refine ⟨fun k hk' => ?_, fun k hk' => ?_⟩
 ·have := World.var?_cell (g := 0) (by kernel_rfl) hs k
  rw [this]
  simp [List.getD, List.getElem?_eq_getElem (show k < cK.length by rw [cK_length]; exact hk')]
 ·have := World.var?_cell (g := 1) (by kernel_rfl) hk k
  rw [this]
  simp [lane, List.getD, List.getElem?_eq_getElem (show k < kC.length from hk')]

/-- A WORLD FOR THE WITNESS: the heap that the program's own initialisers leave. -/
noncomputable def laidWorld (os : Os) : World := World.doorLaid Tryz.prog 19 os
theorem laid_met (os : Os) (args : Array Value) : laidMet Tryz.prog laidAll ((laidWorld os).forCall (fun _ _ => 0) ⟨#[], args, []⟩).memory :=
 laidMet_of_run' 8 (by kernel_rfl) (by kernel_rfl)
end Go.Proofs.YtdakbipiifkmfaaGreatDoor
