import Derived.BigRegion
import Derived.Deep.RegionWith
import Derived.Deep.RegionHeld
import Derived.BigQuiet
import Derived.Deep.QuietTactic
import Derived.StillTailTactics
import Derived.WalkKit
import Derived.Test.YtdakbipiifkmfaaGreatDoorProg
import Derived.WalkSpells
import Derived.WalkLawsBesides
import Derived.Lib.UnsafeStr
import Derived.Lib.Hide
import Derived.Laws.BytesArg
import Derived.Deep.Draws
import Derived.RegionTactic
import Derived.ChangeAlike
import Derived.Laws.AppendOwnNone
import Derived.Laws.Cover3
import Derived.Deep.MidRow
import Derived.Deep.WholeRow
import Derived.Deep.RegionHeld3
import Derived.Test.YtdakbipiifkmfaaGreatDoorRows
import Derived.ProofKit
import Derived.OpenShut
import Derived.JoinedCond
import Derived.SizedLaws
import Derived.Carry
import Derived.Deep.Grids
import Derived.Lib.ConvBytes
import Derived.Lib.AtoiErrMem
import Derived.Laws.AppendOwn
import Derived.Deep.RegionLaw
import Derived.Laws.CopyOwn
import Derived.DeepKeys
import Derived.Lib.SmallJoins
import Derived.Test.YtdakbipiifkmfaaGreatDoorHZ
namespace Go.Proofs.YtdakbipiifkmfaaGreatDoor
open Go.RowKit
set_option maxRecDepth 100000
section
variable {a : Act} {x y : Operand} {op : Oper} {w : World}
theorem neq_same {k : Int} (ho : op.op = .binOp .neq 3 x y 3) (hx : a.eval x = .int .i64 k) (hy : a.eval y = .int .i64 k) : (execOp a.eval op).run Tryz.prog w = .ok (.value (.bool false)) w := by
 unfold execOp;simp only [ho, hx, hy]
 go_simp
end
end Go.Proofs.YtdakbipiifkmfaaGreatDoor
