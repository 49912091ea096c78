import Derived.BigQuiet
import Derived.Deep.QuietTactic
import Derived.StillTailTactics
import Derived.WalkKit
import Derived.Test.YtdakbipiifkmfaaGreatDoorProg
import Derived.WalkSpells
import Derived.WalkLawsBesides
import Derived.Lib.UnsafeStr
import Derived.Lib.Hide
import Derived.Laws.BytesArg
import Derived.Deep.Draws
import Derived.RegionTactic
import Derived.ChangeAlike
import Derived.Laws.AppendOwnNone
import Derived.Deep.MidRow
import Derived.Deep.WholeRow
import Derived.BigRegion
import Derived.Deep.RegionHeld3
import Derived.Lib.ConvBytes
import Derived.Lib.AtoiErrMem
import Derived.Laws.AppendOwn
import Derived.Deep.RegionLaw
import Derived.Laws.EntriesVeiled
import Derived.Deep.RegionWith
import Derived.Deep.RegionHeld
import Derived.Laws.Cover3
import Derived.RangeFuncNested
import Derived.RangeFuncBound
import Derived.RangeFuncCalls
import Derived.RangeFuncLeaves
import Derived.OwnWalkIn
import Derived.TacticsInMore
import Derived.LoopNIn
import Derived.LoopIn
import Derived.RangeFuncBox
import Derived.RangeFuncWrites
import Derived.Maps.AppendAt
import Derived.Test.YtdakbipiifkmfaaGreatDoorRows
import Derived.ProofKit
import Derived.OpenShut
import Derived.JoinedCond
import Derived.SizedLaws
import Derived.Carry
import Derived.Deep.Grids
import Derived.Laws.CopyOwn
import Derived.DeepKeys
import Derived.Lib.SmallJoins
import Derived.Test.YtdakbipiifkmfaaGreatDoorHP10
import Derived.Test.YtdakbipiifkmfaaGreatDoorHP8
namespace Go.Proofs.YtdakbipiifkmfaaGreatDoor
open Go.RowKit
set_option maxRecDepth 100000
set_option maxHeartbeats 4000000 in
theorem sourceFor_any (x : S5) (vs vp vb : Value) (sd pf pb : List UInt8) (i : Nat) (_hi : i < 4294967296) (w : World) (hw : x.wf) (hs : Sl w w.heap.size vs sd) (hp : Sl w w.heap.size vp pf) (hb : Sl w w.heap.size vb pb) :
  Calls Tryz.prog 43 #[x.v, keyV vs vp vb, .int .u32 (i : Int)] w (OldIs (.tuple #[.agg (if leafE x sd pf pb i = 0 then srcL x vs vp vb else srcZ).toArray, .int .i64 (leafE x sd pf pb i)]) w) := by
 unfold OldIs;obtain ⟨As, cs, rfl, _, _⟩ := hs.form;obtain ⟨Ap, cp, rfl, _, _⟩ := hp.form;obtain ⟨Ab, cb, rfl, _, _⟩ := hb.form;have HSO : Shh ((badE x [sd, pf, pb] = 0 -> ∀ W, Sl W W.heap.size (.slice As sd.length cs) sd -> Sl W W.heap.size (.slice Ap pf.length cp) pf -> Sl W W.heap.size (.slice Ab pb.length cb) pb -> Calls Tryz.prog 49 #[x.v, .agg #[.slice As sd.length cs, .slice Ap pf.length cp, .slice Ab pb.length cb]] W (OldIs (.tuple #[.agg #[.int .u32 x.c, .bool x.s, .int .i64 x.n, .int .i64 x.h, .int .i64 x.l, .slice As sd.length cs, .slice Ap pf.length cp, .slice Ab pb.length cb], .int .i64 0]) W)) /\ (¬ badE x [sd, pf, pb] = 0 -> ∀ W, Sl W W.heap.size (.slice As sd.length cs) sd -> Sl W W.heap.size (.slice Ap pf.length cp) pf -> Sl W W.heap.size (.slice Ab pb.length cb) pb -> Calls Tryz.prog 49 #[x.v, .agg #[.slice As sd.length cs, .slice Ap pf.length cp, .slice Ab pb.length cb]] W (OldIs (.tuple #[.agg #[.int .u32 0, .bool false, .int .i64 0, .int .i64 0, .int .i64 0, .slice none 0 0, .slice none 0 0, .slice none 0 0], .int .i64 (badE x [sd, pf, pb])]) W))) := by
  refine ⟨fun h0 W h1 h2 h3 => ?_, fun h0 W h1 h2 h3 => ?_⟩
  ·have h := sourceOf_any x _ _ _ sd pf pb W hw h1 h2 h3;rw [if_pos h0, h0] at h;exact h
  ·have h := sourceOf_any x _ _ _ sd pf pb W hw h1 h2 h3;rw [if_neg h0] at h;exact h
 obtain ⟨SV, hSV⟩ : ∃ SV : List Value, SV = if leafE x sd pf pb i = 0 then srcL x (.slice As sd.length cs) (.slice Ap pf.length cp) (.slice Ab pb.length cb) else srcZ := ⟨_, rfl⟩;obtain ⟨LE, hLE⟩ : ∃ LE, LE = leafE x sd pf pb i := ⟨_, rfl⟩;rw [<- hSV, <- hLE];have HSV : Shh ((badE x [sd, pf, pb] = 0 -> ∃ h : Nat, x.h = (h : Int) /\ h <= 20 /\ (i < 2 ^ h -> SV = [.int .u32 x.c, .bool x.s, .int .i64 x.n, .int .i64 x.h, .int .i64 x.l, .slice As sd.length cs, .slice Ap pf.length cp, .slice Ab pb.length cb] /\ LE = 0) /\ (¬ i < 2 ^ h -> SV = [.int .u32 0, .bool false, .int .i64 0, .int .i64 0, .int .i64 0, .slice none 0 0, .slice none 0 0, .slice none 0 0] /\ LE = 1)) /\ (¬ badE x [sd, pf, pb] = 0 -> SV = [.int .u32 0, .bool false, .int .i64 0, .int .i64 0, .int .i64 0, .slice none 0 0, .slice none 0 0, .slice none 0 0] /\ LE = badE x [sd, pf, pb])) := by
  rw [hSV, hLE];refine ⟨fun h0 => ?_, fun h0 => ?_⟩
  ·obtain ⟨h, h1, h2⟩ := ok_h (badE_ok h0).1;have ht : x.h.toNat = h := by omega
   refine ⟨h, h1, h2, fun h3 => ?_, fun h3 => ?_⟩
   ·have e : leafE x sd pf pb i = 0 := by unfold leafE; rw [if_pos h0, ht, if_pos h3]
    rw [e, if_pos rfl];exact ⟨rfl, rfl⟩
   ·have e : leafE x sd pf pb i = 1 := by unfold leafE; rw [if_pos h0, ht, if_neg h3]
    rw [e, if_neg (by decide)];exact ⟨rfl, rfl⟩
  ·have e : leafE x sd pf pb i = badE x [sd, pf, pb] := by unfold leafE; rw [if_neg h0]
   rw [e, if_neg h0];exact ⟨rfl, rfl⟩
 have HLV : Shh (∀ h : Nat, x.h = (h : Int) -> h <= 20 -> ∀ W, Calls Tryz.prog 69 #[x.v] W (OldIs (.int .u32 ((2 ^ h : Nat) : Int)) W)) := ⟨fun h h1 h2 W => leaves_any x h h1 h2 W⟩;clear hSV hLE;generalize badE x [sd, pf, pb] = er at HSO HSV ⊢;obtain ⟨W, hW⟩ : ∃ W, W = ((w.alloc (.cells #[.int .u32 x.c, .bool x.s, .int .i64 x.n, .int .i64 x.h, .int .i64 x.l] 27)).alloc (.cells #[.slice As sd.length cs, .slice Ap pf.length cp, .slice Ab pb.length cb] 25)).alloc (.cells #[.int .u32 0, .bool false, .int .i64 0, .int .i64 0, .int .i64 0, .slice none 0 0, .slice none 0 0, .slice none 0 0] 70) := ⟨_, rfl⟩;have HW : Shh (Row W w.heap.size 27 [.int .u32 x.c, .bool x.s, .int .i64 x.n, .int .i64 x.h, .int .i64 x.l] /\ Row W (w.heap.size + 2) 70 [.int .u32 0, .bool false, .int .i64 0, .int .i64 0, .int .i64 0, .slice none 0 0, .slice none 0 0, .slice none 0 0] /\ Sl W W.heap.size (.slice As sd.length cs) sd /\ Sl W W.heap.size (.slice Ap pf.length cp) pf /\ Sl W W.heap.size (.slice Ab pb.length cb) pb /\ Below w.heap.size w W /\ W.heap.size = w.heap.size + 3) := by
  have b0 : Below w.heap.size w W := by rw [hW]; exact Below.chain (Below.chain (below1 _ _) (below1 _ _)) (below1 _ _)
  refine ⟨by rw [hW]; exact ((Row.new_ rfl rfl).alloc _).alloc _, by rw [hW]; exact Row.new_ (by rw [asz, asz]) rfl, hs.go b0, hp.go b0, hb.go b0, b0, by rw [hW, asz, asz, asz]⟩
 clear hs hp hb hw;unfold keyV;unfold S5.v at HSO HLV ⊢;generalize x.c = xc at *;generalize x.s = xs at *;generalize x.n = xn at *;generalize x.h = xh at *;generalize x.l = xl at *;go_enter Tryz.func43, Tryz.ntmps43;obtain ⟨R0, hR0⟩ : ∃ R0, Shh (R0 = w.heap.size + 2) := ⟨_, ⟨rfl⟩⟩
 by_cases her : er = 0
 ·have HS := Shh.mk (HSO.out.1 her);obtain ⟨h, rfl, h20, hq1, hq2⟩ := HSV.out.1 her;have HL := Shh.mk (HLV.out h rfl h20);have HQ := Shh.mk (And.intro hq1 hq2);subst her;clear HSO HSV HLV h20 hq1 hq2;obtain ⟨p, hp⟩ : ∃ p, p = 2 ^ h := ⟨_, rfl⟩;rw [<- hp] at HL HQ;clear hp
  go_wp2_with (go_at_call 49; rw [<- hW]; refine (HS.out _ HW.out.2.2.1 HW.out.2.2.2.1 HW.out.2.2.2.2.1).mono ?_)
  unfold OldIs;rintro e w2 ⟨rfl, b2⟩;obtain ⟨M, hM⟩ : ∃ M, Shh (M = w2.heap.size) := ⟨_, ⟨rfl⟩⟩;rw [show w.heap.size + 1 + 1 = R0 from hR0.out.symm]
  go_wp2_with (refine wpList_store_any rfl 70 (.tmp 8) (.tmp 14) rfl M (by rw [hM.out]; rfl) [.int .u32 xc, .bool xs, .int .i64 xn, .int .i64 (h : Int), .int .i64 xl, .slice As sd.length cs, .slice Ap pf.length cp, .slice Ab pb.length cb] rfl 70 [.int .u32 0, .bool false, .int .i64 0, .int .i64 0, .int .i64 0, .slice none 0 0, .slice none 0 0, .slice none 0 0] (Row.new_ hM.out rfl) info_src rfl oneSrc ?_)
  intro Z hr bt hsz;have H3 : Shh (Row Z M 70 [.int .u32 xc, .bool xs, .int .i64 xn, .int .i64 (h : Int), .int .i64 xl, .slice As sd.length cs, .slice Ap pf.length cp, .slice Ab pb.length cb] /\ Row Z w.heap.size 27 [.int .u32 xc, .bool xs, .int .i64 xn, .int .i64 (h : Int), .int .i64 xl] /\ Row Z R0 70 [.int .u32 0, .bool false, .int .i64 0, .int .i64 0, .int .i64 0, .slice none 0 0, .slice none 0 0, .slice none 0 0] /\ Below w.heap.size w Z /\ R0 < M /\ w.heap.size <= R0) := by
   have hm := hM.out;have hq := b2.size;have bb : Below W.heap.size W Z := Below.chain b2 ((below1 _ _).trans (bt.under (by first | omega | (rw [asz]; omega)) (by omega)));exact ⟨hr, HW.out.1.go bb, by rw [hR0.out]; exact HW.out.2.1.go bb, Below.chain HW.out.2.2.2.2.2.1 bb, by have := HW.out.2.2.2.2.2.2; have := hR0.out; omega, by have := hR0.out; omega⟩
  rw [<- hM.out];clear hr bt hsz b2 HW hW hM HS
  go_wp2_with (first | refine wpList_load_any rfl 27 (.tmp 3) rfl w.heap.size rfl 27 [.int .u32 xc, .bool xs, .int .i64 xn, .int .i64 (h : Int), .int .i64 xl] _ H3.out.2.1 Tryz.underlying27 rfl info_xms ?_ | (go_at_call 69; refine (HL.out _).mono ?_))
  unfold OldIs;rintro e w4 ⟨rfl, b4⟩;replace H3 : Shh (Row w4 M 70 [.int .u32 xc, .bool xs, .int .i64 xn, .int .i64 (h : Int), .int .i64 xl, .slice As sd.length cs, .slice Ap pf.length cp, .slice Ab pb.length cb] /\ Row w4 w.heap.size 27 [.int .u32 xc, .bool xs, .int .i64 xn, .int .i64 (h : Int), .int .i64 xl] /\ Row w4 R0 70 [.int .u32 0, .bool false, .int .i64 0, .int .i64 0, .int .i64 0, .slice none 0 0, .slice none 0 0, .slice none 0 0] /\ Below w.heap.size w w4 /\ R0 < M /\ w.heap.size <= R0) := ⟨H3.out.1.go b4, H3.out.2.1.go b4, H3.out.2.2.1.go b4, Below.chain H3.out.2.2.2.1 b4, H3.out.2.2.2.2⟩;clear b4 HL
  by_cases hlt : i < p
  ·have hc : ¬ (p : Int) <= (i : Int) := by omega
   have HX := Shh.mk (HQ.out.1 hlt);clear HQ hlt
   go_wp2_with (first | refine wpList_load_any rfl 70 (.tmp 8) rfl M rfl 70 [.int .u32 xc, .bool xs, .int .i64 xn, .int .i64 (h : Int), .int .i64 xl, .slice As sd.length cs, .slice Ap pf.length cp, .slice Ab pb.length cb] _ H3.out.1 Tryz.underlying70 rfl info_src ?_ | refine wpList_store_any rfl 70 (.tmp 6) (.tmp 25) rfl R0 rfl [.int .u32 xc, .bool xs, .int .i64 xn, .int .i64 (h : Int), .int .i64 xl, .slice As sd.length cs, .slice Ap pf.length cp, .slice Ab pb.length cb] rfl 70 [.int .u32 0, .bool false, .int .i64 0, .int .i64 0, .int .i64 0, .slice none 0 0, .slice none 0 0, .slice none 0 0] H3.out.2.2.1 info_src rfl oneSrc ?_)
   intro Z2 hr bt hsz;have HR : Shh (Row Z2 R0 70 [.int .u32 xc, .bool xs, .int .i64 xn, .int .i64 (h : Int), .int .i64 xl, .slice As sd.length cs, .slice Ap pf.length cp, .slice Ab pb.length cb] /\ Below w.heap.size w Z2) := ⟨hr, H3.out.2.2.2.1.trans (bt.under (by have := H3.out.2.2.2.1.size; omega) H3.out.2.2.2.2.2)⟩;clear hr bt hsz H3 hR0;go_wp2;exact ret_rs Tryz.results43 rfl rfl rfl HR.out.1 Tryz.underlying70 rfl info_src ⟨by rw [HX.out.1, HX.out.2]; rfl, HR.out.2⟩
  ·have hc : (p : Int) <= (i : Int) := by omega
   have HX := Shh.mk (HQ.out.2 hlt);clear HQ hlt
   go_wp2_with (refine wpList_store_any rfl 70 (.tmp 6) (.tmp 24) rfl R0 rfl [.int .u32 0, .bool false, .int .i64 0, .int .i64 0, .int .i64 0, .slice none 0 0, .slice none 0 0, .slice none 0 0] rfl 70 [.int .u32 0, .bool false, .int .i64 0, .int .i64 0, .int .i64 0, .slice none 0 0, .slice none 0 0, .slice none 0 0] H3.out.2.2.1 info_src rfl oneSrc ?_)
   intro Z2 hr bt hsz;have HR : Shh (Row Z2 R0 70 [.int .u32 0, .bool false, .int .i64 0, .int .i64 0, .int .i64 0, .slice none 0 0, .slice none 0 0, .slice none 0 0] /\ Below w.heap.size w Z2) := ⟨hr, H3.out.2.2.2.1.trans (bt.under (by have := H3.out.2.2.2.1.size; omega) H3.out.2.2.2.2.2)⟩;clear hr bt hsz H3 hR0;go_wp2;exact ret_rs Tryz.results43 rfl rfl rfl HR.out.1 Tryz.underlying70 rfl info_src ⟨by rw [HX.out.1, HX.out.2]; rfl, HR.out.2⟩
 ·have HS := Shh.mk (HSO.out.2 her);have HX := Shh.mk (HSV.out.2 her);have hne : (er != 0) = true := by simp [her]
  clear HSO HSV HLV her
  go_wp2_with (go_at_call 49; rw [<- hW]; refine (HS.out _ HW.out.2.2.1 HW.out.2.2.2.1 HW.out.2.2.2.2.1).mono ?_)
  unfold OldIs;rintro e w2 ⟨rfl, b2⟩;obtain ⟨M, hM⟩ : ∃ M, Shh (M = w2.heap.size) := ⟨_, ⟨rfl⟩⟩;rw [show w.heap.size + 1 + 1 = R0 from hR0.out.symm]
  go_wp2_with (refine wpList_store_any rfl 70 (.tmp 8) (.tmp 14) rfl M (by rw [hM.out]; rfl) [.int .u32 0, .bool false, .int .i64 0, .int .i64 0, .int .i64 0, .slice none 0 0, .slice none 0 0, .slice none 0 0] rfl 70 [.int .u32 0, .bool false, .int .i64 0, .int .i64 0, .int .i64 0, .slice none 0 0, .slice none 0 0, .slice none 0 0] (Row.new_ hM.out rfl) info_src rfl oneSrc ?_)
  intro Z hr bt hsz;have H3 : Shh (Row Z M 70 [.int .u32 0, .bool false, .int .i64 0, .int .i64 0, .int .i64 0, .slice none 0 0, .slice none 0 0, .slice none 0 0] /\ Row Z w.heap.size 27 [.int .u32 xc, .bool xs, .int .i64 xn, .int .i64 xh, .int .i64 xl] /\ Row Z R0 70 [.int .u32 0, .bool false, .int .i64 0, .int .i64 0, .int .i64 0, .slice none 0 0, .slice none 0 0, .slice none 0 0] /\ Below w.heap.size w Z /\ R0 < M /\ w.heap.size <= R0) := by
   have hm := hM.out;have hq := b2.size;have bb : Below W.heap.size W Z := Below.chain b2 ((below1 _ _).trans (bt.under (by first | omega | (rw [asz]; omega)) (by omega)));exact ⟨hr, HW.out.1.go bb, by rw [hR0.out]; exact HW.out.2.1.go bb, Below.chain HW.out.2.2.2.2.2.1 bb, by have := HW.out.2.2.2.2.2.2; have := hR0.out; omega, by have := hR0.out; omega⟩
  rw [<- hM.out];clear hr bt hsz b2 HW hW hM HS
  go_wp2_with (refine wpList_store_any rfl 70 (.tmp 6) (.tmp 18) rfl R0 rfl [.int .u32 0, .bool false, .int .i64 0, .int .i64 0, .int .i64 0, .slice none 0 0, .slice none 0 0, .slice none 0 0] rfl 70 [.int .u32 0, .bool false, .int .i64 0, .int .i64 0, .int .i64 0, .slice none 0 0, .slice none 0 0, .slice none 0 0] H3.out.2.2.1 info_src rfl oneSrc ?_)
  intro Z2 hr bt hsz;have HR : Shh (Row Z2 R0 70 [.int .u32 0, .bool false, .int .i64 0, .int .i64 0, .int .i64 0, .slice none 0 0, .slice none 0 0, .slice none 0 0] /\ Below w.heap.size w Z2) := ⟨hr, H3.out.2.2.2.1.trans (bt.under (by have := H3.out.2.2.2.1.size; omega) H3.out.2.2.2.2.2)⟩;clear hr bt hsz H3 hR0;go_wp2;exact ret_rs Tryz.results43 rfl rfl rfl HR.out.1 Tryz.underlying70 rfl info_src ⟨by rw [HX.out.1, HX.out.2]; rfl, HR.out.2⟩
end Go.Proofs.YtdakbipiifkmfaaGreatDoor
