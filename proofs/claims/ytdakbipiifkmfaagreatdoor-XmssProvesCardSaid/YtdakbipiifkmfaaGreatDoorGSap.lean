import Derived.WalkKit
import Derived.Test.YtdakbipiifkmfaaGreatDoorProg
import Derived.WalkSpells
import Derived.WalkLawsBesides
import Derived.Lib.UnsafeStr
import Derived.Lib.Hide
import Derived.Laws.BytesArg
import Derived.Deep.Draws
import Derived.RegionTactic
import Derived.ChangeAlike
import Derived.Laws.AppendOwnNone
import Derived.BigQuiet
import Derived.Deep.QuietTactic
import Derived.Lib.ConvBytes
import Derived.Lib.AtoiErrMem
import Derived.Laws.AppendOwn
import Derived.Test.YtdakbipiifkmfaaGreatDoorRows
import Derived.ProofKit
import Derived.OpenShut
import Derived.JoinedCond
import Derived.SizedLaws
import Derived.Carry
import Derived.Deep.Grids
import Derived.Deep.RegionHeld3
import Derived.Laws.CopyOwn
import Derived.Deep.RegionLaw
import Derived.DeepKeys
import Derived.Lib.SmallJoins
import Derived.Laws.EntriesVeiled
import Derived.StillTailTactics
import Derived.BigRegion
import Derived.Deep.RegionWith
import Derived.Deep.RegionHeld
import Derived.Laws.Cover3
import Derived.Deep.MidRow
import Derived.Deep.WholeRow
import Derived.Test.YtdakbipiifkmfaaGreatDoorGP1
import Derived.Test.YtdakbipiifkmfaaGreatDoorGSax
namespace Go.Proofs.YtdakbipiifkmfaaGreatDoor
open Go.RowKit
set_option maxRecDepth 100000
theorem HMsgN_any (x : S5) (hw : x.wf) (vk vm : Value) (key m : List UInt8) (w : World) (hkey : Sl w w.heap.size vk key) (hm : Sl w w.heap.size vm m) (ht : Tabs w) (hl1 : key.length <= 100000) (hl2 : m.length <= 100000) :
  Calls Tryz.prog 98 #[x.v, vk, vm] w (NewSl w (sumK x 2 key m)) := by
 unfold NewSl;have HK : Shh (∀ W, Sl W W.heap.size vk key -> Sl W W.heap.size vm m -> Tabs W -> Calls Tryz.prog 94 #[x.v, .int .u8 (2 : Int), vk, vm] W (NewSl W (sumK x 2 key m))) := ⟨fun W h1 h2 h3 => ksumN_any x hw 2 (by decide) vk vm key m W h1 h2 h3 hl1 hl2⟩;obtain ⟨A1, c1, rfl, _, _⟩ := hkey.form;obtain ⟨A2, c2, rfl, _, _⟩ := hm.form;obtain ⟨W, hW⟩ : ∃ W, W = w.alloc (.cells #[.int .u32 x.c, .bool x.s, .int .i64 x.n, .int .i64 x.h, .int .i64 x.l] 27) := ⟨_, rfl⟩;have HW : Shh (Row W w.heap.size 27 [.int .u32 x.c, .bool x.s, .int .i64 x.n, .int .i64 x.h, .int .i64 x.l] /\ Sl W W.heap.size (.slice A1 key.length c1) key /\ Sl W W.heap.size (.slice A2 m.length c2) m /\ Tabs W /\ Below w.heap.size w W) := by
  rw [hW];exact ⟨Row.new_ rfl rfl, hkey.go (below1 _ _), hm.go (below1 _ _), ht.go (below1 _ _), below1 _ _⟩
 clear hkey hm ht;unfold S5.v at HK ⊢;generalize sumK x 2 key m = out at HK ⊢;clear hw;generalize x.c = xc at *;generalize x.s = xs at *;generalize x.n = xn at *;generalize x.h = xh at *;generalize x.l = xl at *;go_enter Tryz.func98, Tryz.ntmps98
 go_wp2_with (first | (rw [<- hW]; refine wpList_load_any rfl 27 (.tmp 3) rfl w.heap.size rfl 27 [.int .u32 xc, .bool xs, .int .i64 xn, .int .i64 xh, .int .i64 xl] _ HW.out.1 Tryz.underlying27 rfl info_xms ?_) | (go_at_call 94; rw [<- hW]; refine (HK.out _ HW.out.2.1 HW.out.2.2.1 HW.out.2.2.2.1).mono ?_))
 clear hW;unfold NewSl;rintro e w2 ⟨v, rfl, s2, b2, o2⟩;have HR : Shh (Sl w2 w2.heap.size v out /\ Below w.heap.size w w2 /\ ∀ g, g < w.heap.size -> Off g v) := ⟨s2, Below.chain HW.out.2.2.2.2 b2, fun g hg => o2 g (Nat.lt_of_lt_of_le hg HW.out.2.2.2.2.size)⟩;clear HW s2 b2 o2 HK;go_wp2;go_ret;exact ⟨_, rfl, HR.out⟩
end Go.Proofs.YtdakbipiifkmfaaGreatDoor
