import Derived.Laws.Cover3
import Derived.BigQuiet
import Derived.StillTailTactics
import Derived.Test.YtdakbipiifkmfaaGreatDoorCards
import Derived.Test.YtdakbipiifkmfaaGreatDoorTie
import Derived.Deep.DeepHandedRow
import Derived.Deep.DeepWitnessRowRef
import Derived.Lib.LaidTab
import Derived.LaidMore
import Derived.Stop.LaidErr
import Derived.BigRegion
import Derived.Deep.RegionWith
import Derived.Deep.RegionHeld
import Derived.Deep.MidRow
import Derived.Deep.WholeRow
import Derived.Deep.RegionHeld3
import Derived.Deep.QuietTactic
import Derived.Test.YtdakbipiifkmfaaGreatDoorRows
import Derived.ProofKit
import Derived.OpenShut
import Derived.JoinedCond
import Derived.SizedLaws
import Derived.Carry
import Derived.Deep.Grids
import Derived.Lib.ConvBytes
import Derived.Lib.AtoiErrMem
import Derived.Laws.AppendOwn
import Derived.RegionTactic
import Derived.Deep.RegionLaw
import Derived.Laws.CopyOwn
import Derived.DeepKeys
import Derived.Lib.SmallJoins
import Derived.WalkKit
import Derived.Test.YtdakbipiifkmfaaGreatDoorProg
import Derived.WalkSpells
import Derived.WalkLawsBesides
import Derived.Lib.UnsafeStr
import Derived.Lib.Hide
import Derived.Laws.BytesArg
import Derived.Deep.Draws
import Derived.ChangeAlike
import Derived.Laws.AppendOwnNone
import Derived.Test.YtdakbipiifkmfaaGreatDoorHI
namespace Go.Proofs.YtdakbipiifkmfaaGreatDoor
open Go.ChangeShapes Go.WideShapes Go.ChangeAt Go.RowKit
set_option maxRecDepth 100000
def laidAll : List (String × DataW Unit) := [("livery/keccak.constants", Rows.laid_livery_keccak_constants), ("livery/sha2.constants", Rows.laid_livery_sha2_constants)]
theorem kcells_arr : Tryz.prog.cellsOf 181 = 24 := by kernel_rfl
theorem kcells_u64 : Tryz.prog.cellsOf 74 = 1 := by kernel_rfl
theorem ktab_data : (Rows.laid_livery_keccak_constants : DataW Unit) = Lib.tabData .u64 (kC.map fun x => (x.toNat : Int)) := by kernel_rfl
theorem scells_arr : Tryz.prog.cellsOf 167 = 64 := by kernel_rfl
theorem scells_u32 : Tryz.prog.cellsOf 22 = 1 := by kernel_rfl
theorem stab_data : (Rows.laid_livery_sha2_constants : DataW Unit) = Lib.tabData .u32 (cK.map fun x => (x.toNat : Int)) := by kernel_rfl
theorem tabs_of_laid {W : World} (h0 : laidMetH Tryz.prog laidAll W) : Tabs W := by
 have h : laidMet Tryz.prog laidAll W := by rwa [MakeChecks.laidMetH_plain _ _ _ (by kernel_rfl)] at h0
 have h2 := h.tail;unfold laidAll at h;rw [ktab_data] at h;rw [stab_data] at h2;have hk : Lib.TabIs Tryz.prog W "livery/keccak.constants" .u64 (kC.map fun x => (x.toNat : Int)) := Lib.tabIs_of_head (g := 1) (by kernel_rfl) (by kernel_rfl) Tryz.underlying181 Tryz.underlying74 kcells_u64 kcells_arr h;have hs : Lib.TabIs Tryz.prog W "livery/sha2.constants" .u32 (cK.map fun x => (x.toNat : Int)) := Lib.tabIs_of_head (g := 0) (by kernel_rfl) (by kernel_rfl) Tryz.underlying167 Tryz.underlying22 scells_u32 scells_arr h2;refine ⟨fun k hk' => ?_, fun k hk' => ?_⟩
 ·have := World.var?_cell (g := 0) (by kernel_rfl) hs k;rw [this];simp [List.getD, List.getElem?_eq_getElem (show k < cK.length by rw [cK_length]; exact hk')]
 ·have := World.var?_cell (g := 1) (by kernel_rfl) hk k;rw [this];simp [lane, List.getD, List.getElem?_eq_getElem (show k < kC.length from hk')]
noncomputable def laidWorld (os : Os) : World := World.doorLaid Tryz.prog 19 os
theorem laid_met (os : Os) (args : Array Value) : laidMet Tryz.prog laidAll ((laidWorld os).forCall (fun _ _ => 0) ⟨#[], args, []⟩).memory :=
 laidMet_of_run' 8 (by kernel_rfl) (by kernel_rfl)
end Go.Proofs.YtdakbipiifkmfaaGreatDoor
