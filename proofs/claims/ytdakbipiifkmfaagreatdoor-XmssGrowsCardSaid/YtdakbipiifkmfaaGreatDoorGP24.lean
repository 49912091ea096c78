import Derived.WalkKit
import Derived.Test.YtdakbipiifkmfaaGreatDoorProg
import Derived.WalkSpells
import Derived.WalkLawsBesides
import Derived.Lib.UnsafeStr
import Derived.Lib.Hide
import Derived.Laws.BytesArg
import Derived.Deep.Draws
import Derived.RegionTactic
import Derived.ChangeAlike
import Derived.Laws.AppendOwnNone
import Derived.BigQuiet
import Derived.Deep.QuietTactic
import Derived.Maps.AppendAt
import Derived.Test.YtdakbipiifkmfaaGreatDoorRows
import Derived.ProofKit
import Derived.OpenShut
import Derived.JoinedCond
import Derived.SizedLaws
import Derived.Carry
import Derived.Deep.Grids
import Derived.Deep.RegionHeld3
import Derived.Laws.EntriesVeiled
import Derived.StillTailTactics
import Derived.Lib.SliceRun
import Derived.Lib.ConvBytes
import Derived.Lib.AtoiErrMem
import Derived.Laws.AppendOwn
import Derived.RangeFuncNested
import Derived.RangeFuncBound
import Derived.RangeFuncCalls
import Derived.RangeFuncLeaves
import Derived.OwnWalkIn
import Derived.TacticsInMore
import Derived.LoopNIn
import Derived.LoopIn
import Derived.RangeFuncBox
import Derived.RangeFuncWrites
import Derived.Laws.CopyOwn
import Derived.Deep.RegionLaw
import Derived.DeepKeys
import Derived.Lib.SmallJoins
import Derived.BigRegion
import Derived.Deep.RegionWith
import Derived.Deep.RegionHeld
import Derived.Laws.Cover3
import Derived.Deep.MidRow
import Derived.Deep.WholeRow
import Derived.Test.YtdakbipiifkmfaaGreatDoorGP13
import Derived.Test.YtdakbipiifkmfaaGreatDoorGX31
namespace Go.Proofs.YtdakbipiifkmfaaGreatDoor
open Go.RowKit
set_option maxRecDepth 100000
def TreeAt (x : S5) (sd pf pb : List UInt8) (B : Nat) (W : World) (v : Value) (n : Nat) : Prop := ∃ (g : Nat) (vs vp vb : Value) (r : Option Nat) (w0 : World), v = .pointer (some ⟨g, 0, none⟩) /\ x.wf /\ badE x [sd, pf, pb] = 0 /\ B <= w0.heap.size /\ w0.heap.size <= g /\ Below w0.heap.size w0 W /\ Sl w0 w0.heap.size vs sd /\ Sl w0 w0.heap.size vp pf /\ Sl w0 w0.heap.size vb pb /\ Tabs w0 /\ n <= 2 ^ x.h.toNat /\
  StkAt W (g + 1) g 106 (srcL x vs vp vb ++ [.int .u32 (n : Int)]) r (stkA x.s x.n x.l.toNat sd pb x.h.toNat 0 n)
theorem TreeAt.go {x : S5} {sd pf pb : List UInt8} {B : Nat} {W W' : World} {v : Value} {n : Nat} (h : TreeAt x sd pf pb B W v n) (b : Below W.heap.size W W') : TreeAt x sd pf pb B W' v n := by
 obtain ⟨g, vs, vp, vb, r, w0, h1, h2, h3, h4, h5, h6, h7, h8, h9, h10, h11, h12⟩ := h;exact ⟨g, vs, vp, vb, r, w0, h1, h2, h3, h4, h5, h6.trans (b.mono h6.size), h7, h8, h9, h10, h11, h12.go b⟩
theorem TreeAt.cells {x : S5} {sd pf pb : List UInt8} {B : Nat} {W : World} {v : Value} {n : Nat} (h : TreeAt x sd pf pb B W v n) : ∃ (g : Nat) (A : Option Addr) (c hh : Nat) (vs vp vb : Value), v = .pointer (some ⟨g, 0, none⟩) /\ x.h = (hh : Int) /\ 0 < hh /\ hh <= 20 /\ n <= 2 ^ hh /\ Row W g 106 ([.int .u32 x.c, .bool x.s, .int .i64 x.n, .int .i64 x.h, .int .i64 x.l, vs, vp, vb, .int .u32 (n : Int), .slice A (bitN n) c]) := by
 obtain ⟨g, vs, vp, vb, r, w0, h1, h2, h3, h4, h5, h6, h7, h8, h9, h10, h11, h12⟩ := h;have hok := (badE_ok h3).1;obtain ⟨hh, hx, h20⟩ := ok_h hok;have hpos : 0 < hh := by
  obtain ⟨q0, _, _, _, q4, _⟩ := of_decide_eq_true hok;have q1 : xH x.c.toNat ≠ 0 := fun e => by
   unfold xE at q0;rw [if_pos e] at q0;exact absurd q0 (by decide)
  omega
 have hl := stk_bits x.s x.n x.l.toNat sd pb x.h.toNat 0 n h11;have ht : x.h.toNat = hh := by omega
 rw [ht] at h11
 rcases h12.form with ⟨he, A, c, hr⟩ | ⟨rb, cap, _, _, hr⟩
 ·rw [he] at hl;refine ⟨g, A, c, hh, vs, vp, vb, h1, hx, hpos, h20, h11, ?_⟩;rw [<- hl];exact hr
 ·refine ⟨g, some ⟨rb, 0, none⟩, cap, hh, vs, vp, vb, h1, hx, hpos, h20, h11, ?_⟩;rw [<- hl];exact hr
end Go.Proofs.YtdakbipiifkmfaaGreatDoor
