import Derived.WalkKit
import Derived.Test.YtdakbipiifkmfaaGreatDoorProg
import Derived.WalkSpells
import Derived.WalkLawsBesides
import Derived.Lib.UnsafeStr
import Derived.Lib.Hide
import Derived.Laws.BytesArg
import Derived.Deep.Draws
import Derived.RegionTactic
import Derived.ChangeAlike
import Derived.Laws.AppendOwnNone
import Derived.BigQuiet
import Derived.Deep.QuietTactic
import Derived.Lib.ConvBytes
import Derived.Lib.AtoiErrMem
import Derived.Laws.AppendOwn
import Derived.RangeFuncNested
import Derived.RangeFuncBound
import Derived.RangeFuncCalls
import Derived.RangeFuncLeaves
import Derived.OwnWalkIn
import Derived.TacticsInMore
import Derived.LoopNIn
import Derived.LoopIn
import Derived.RangeFuncBox
import Derived.RangeFuncWrites
import Derived.Maps.AppendAt
import Derived.Test.YtdakbipiifkmfaaGreatDoorRows
import Derived.ProofKit
import Derived.OpenShut
import Derived.JoinedCond
import Derived.SizedLaws
import Derived.Carry
import Derived.Deep.Grids
import Derived.Deep.RegionHeld3
import Derived.Laws.CopyOwn
import Derived.Deep.RegionLaw
import Derived.DeepKeys
import Derived.Lib.SmallJoins
import Derived.Laws.EntriesVeiled
import Derived.StillTailTactics
import Derived.BigRegion
import Derived.Deep.RegionWith
import Derived.Deep.RegionHeld
import Derived.Laws.Cover3
import Derived.Deep.MidRow
import Derived.Deep.WholeRow
import Derived.Test.YtdakbipiifkmfaaGreatDoorGP7
namespace Go.Proofs.YtdakbipiifkmfaaGreatDoor
open Go.RowKit
set_option maxRecDepth 100000
theorem otsAdrs_any (i : Nat) (hi : i < 4294967296) (w : World) : Calls Tryz.prog 62 #[.int .u32 (i : Int)] w (OldIs (adrV (adr11 0 i 0 0)) w) := by
 unfold OldIs
 have HE : Shh (adrV (adr11 0 i 0 0) = .agg ([.int .u32 0, .int .u32 0, .int .u32 0, .int .u32 0, .int .u32 (i : Int), .int .u32 0, .int .u32 0, .int .u32 0] : List Value).toArray) := ⟨by
  rw [ofNat_cell hi]
  rfl⟩
 rw [HE.out];clear HE hi;go_enter Tryz.func62, Tryz.ntmps62;go_wp2;exact ret_row (T := 64) (cs := [.int .u32 0, .int .u32 0, .int .u32 0, .int .u32 0, .int .u32 (i : Int), .int .u32 0, .int .u32 0, .int .u32 0]) Tryz.results62 rfl rfl (Row.new_ rfl rfl) Tryz.underlying64 rfl info_adr ⟨rfl, below1 _ _⟩
theorem leaves_any (x : S5) (h : Nat) (hh : x.h = (h : Int)) (h20 : h <= 20) (w : World) : Calls Tryz.prog 69 #[x.v] w (OldIs (.int .u32 ((2 ^ h : Nat) : Int)) w) := by
 unfold OldIs;obtain ⟨p, hp⟩ : ∃ p, p = 2 ^ h := ⟨_, rfl⟩;have h1 : 2 ^ h <= 2 ^ 20 := Nat.pow_le_pow_right (by decide) h20;have HP : Shh (p = 1 * 2 ^ h /\ p < 4294967296 /\ h <= 32) := ⟨by omega, by rw [hp]; exact Nat.lt_of_le_of_lt h1 (by decide), by omega⟩;rw [<- hp];clear hp h1;have HB : Shh (Below w.heap.size w (w.alloc (.cells #[.int .u32 x.c, .bool x.s, .int .i64 x.n, .int .i64 x.h, .int .i64 x.l] 27))) := ⟨below1 _ _⟩;unfold S5.v;generalize x.c = xc at *;generalize x.s = xs at *;generalize x.n = xn at *;generalize x.h = xh at *;generalize x.l = xl at *;subst hh;go_enter Tryz.func69, Tryz.ntmps69
 go_wp2_with (refine wl_value (.int .u32 (p : Int)) rfl (shl_32 HP.out.1 HP.out.2.2 HP.out.2.1 rfl rfl rfl) ?_)
 go_ret;exact ⟨rfl, HB.out⟩
def srcL (x : S5) (vs vp vb : Value) : List Value := [.int .u32 x.c, .bool x.s, .int .i64 x.n, .int .i64 x.h, .int .i64 x.l, vs, vp, vb]
end Go.Proofs.YtdakbipiifkmfaaGreatDoor
