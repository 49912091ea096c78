import Derived.BigQuiet
import Derived.Deep.QuietTactic
import Derived.StillTailTactics
import Derived.WalkKit
import Derived.Test.YtdakbipiifkmfaaGreatDoorProg
import Derived.WalkSpells
import Derived.WalkLawsBesides
import Derived.Lib.UnsafeStr
import Derived.Lib.Hide
import Derived.Laws.BytesArg
import Derived.Deep.Draws
import Derived.RegionTactic
import Derived.ChangeAlike
import Derived.Laws.AppendOwnNone
import Derived.Deep.MidRow
import Derived.Deep.WholeRow
import Derived.BigRegion
import Derived.Deep.RegionHeld3
import Derived.Lib.SliceRun
import Derived.Lib.ConvBytes
import Derived.Lib.AtoiErrMem
import Derived.Laws.AppendOwn
import Derived.Deep.RegionLaw
import Derived.Laws.EntriesVeiled
import Derived.Deep.RegionWith
import Derived.Deep.RegionHeld
import Derived.Maps.AppendAt
import Derived.Laws.Cover3
import Derived.RangeFuncNested
import Derived.RangeFuncBound
import Derived.RangeFuncCalls
import Derived.RangeFuncLeaves
import Derived.OwnWalkIn
import Derived.TacticsInMore
import Derived.LoopNIn
import Derived.LoopIn
import Derived.RangeFuncBox
import Derived.RangeFuncWrites
import Derived.Test.YtdakbipiifkmfaaGreatDoorRows
import Derived.ProofKit
import Derived.OpenShut
import Derived.JoinedCond
import Derived.SizedLaws
import Derived.Carry
import Derived.Deep.Grids
import Derived.Laws.CopyOwn
import Derived.DeepKeys
import Derived.Lib.SmallJoins
import Derived.Test.YtdakbipiifkmfaaGreatDoorHP14
import Derived.Test.YtdakbipiifkmfaaGreatDoorHSax
namespace Go.Proofs.YtdakbipiifkmfaaGreatDoor
open Go.RowKit
set_option maxRecDepth 100000
set_option maxHeartbeats 2000000 in
theorem Root_any (x : S5) (vs vp vb : Value) (sd pf pb : List UInt8) (w : World) (hw : x.wf) (ht : Tabs w) (hs : Sl w w.heap.size vs sd) (hp : Sl w w.heap.size vp pf) (hb : Sl w w.heap.size vb pb) :
  Calls Tryz.prog 18 #[x.v, keyV vs vp vb] w (ResIs w (badE x [sd, pf, pb]) (rootR x sd pf pb)) := by
 unfold ResIs;obtain ⟨As, cs, rfl, _, _⟩ := hs.form;obtain ⟨Ap, cp, rfl, _, _⟩ := hp.form;obtain ⟨Ab, cb, rfl, _, _⟩ := hb.form;have HSO : Shh ((badE x [sd, pf, pb] = 0 -> ∀ W, Sl W W.heap.size (.slice As sd.length cs) sd -> Sl W W.heap.size (.slice Ap pf.length cp) pf -> Sl W W.heap.size (.slice Ab pb.length cb) pb -> Calls Tryz.prog 49 #[x.v, .agg #[.slice As sd.length cs, .slice Ap pf.length cp, .slice Ab pb.length cb]] W (OldIs (.tuple #[.agg #[.int .u32 x.c, .bool x.s, .int .i64 x.n, .int .i64 x.h, .int .i64 x.l, .slice As sd.length cs, .slice Ap pf.length cp, .slice Ab pb.length cb], .int .i64 0]) W)) /\ (¬ badE x [sd, pf, pb] = 0 -> ∀ W, Sl W W.heap.size (.slice As sd.length cs) sd -> Sl W W.heap.size (.slice Ap pf.length cp) pf -> Sl W W.heap.size (.slice Ab pb.length cb) pb -> Calls Tryz.prog 49 #[x.v, .agg #[.slice As sd.length cs, .slice Ap pf.length cp, .slice Ab pb.length cb]] W (OldIs (.tuple #[.agg #[.int .u32 0, .bool false, .int .i64 0, .int .i64 0, .int .i64 0, .slice none 0 0, .slice none 0 0, .slice none 0 0], .int .i64 (badE x [sd, pf, pb])]) W))) := by
  refine ⟨fun h0 W h1 h2 h3 => ?_, fun h0 W h1 h2 h3 => ?_⟩
  ·have h := sourceOf_any x _ _ _ sd pf pb W hw h1 h2 h3;rw [if_pos h0, h0] at h;exact h
  ·have h := sourceOf_any x _ _ _ sd pf pb W hw h1 h2 h3;rw [if_neg h0] at h;exact h
 have HG : Shh (badE x [sd, pf, pb] = 0 -> ∀ W, Sl W W.heap.size (.slice As sd.length cs) sd -> Sl W W.heap.size (.slice Ap pf.length cp) pf -> Sl W W.heap.size (.slice Ab pb.length cb) pb -> Tabs W -> Calls Tryz.prog 50 #[.agg #[.int .u32 x.c, .bool x.s, .int .i64 x.n, .int .i64 x.h, .int .i64 x.l, .slice As sd.length cs, .slice Ap pf.length cp, .slice Ab pb.length cb], .int .i64 x.h, .int .u32 0] W (SlIs W (rootR x sd pf pb))) := ⟨fun h0 => by
  have hb0 := h0;have hk := badE_ok hb0;obtain ⟨H, hxh, h20⟩ := ok_h hk.1;have htn : x.h.toNat = H := by omega
  have e : rootR x sd pf pb = nodeV x.s x.n x.l.toNat sd pb H 0 := by unfold rootR; rw [if_pos h0, htn, rootB_node]
  rw [e];intro W h1 h2 h3 h4;have h5 := value_any x hw hk.1 _ _ _ sd pf pb H 0 (by omega) (by rw [Nat.zero_add, Nat.one_mul]; exact Nat.le_trans (Nat.pow_le_pow_right (by decide) h20) (by decide)) W h1 h2 h3 (hk.2 sd (by simp)) (hk.2 pb (by simp)) h4;rw [<- hxh] at h5
  exact h5⟩
 have HN : Shh (¬ badE x [sd, pf, pb] = 0 -> rootR x sd pf pb = []) := ⟨fun h => by unfold rootR; rw [if_neg h]⟩;generalize badE x [sd, pf, pb] = er at HSO HG HN ⊢;generalize rootR x sd pf pb = out at HG HN ⊢;obtain ⟨W, hW⟩ : ∃ W, W = (w.alloc (.cells #[.int .u32 x.c, .bool x.s, .int .i64 x.n, .int .i64 x.h, .int .i64 x.l] 27)).alloc (.cells #[.slice As sd.length cs, .slice Ap pf.length cp, .slice Ab pb.length cb] 25) := ⟨_, rfl⟩;have HW : Shh (Row W w.heap.size 27 [.int .u32 x.c, .bool x.s, .int .i64 x.n, .int .i64 x.h, .int .i64 x.l] /\ Row W (w.heap.size + 1) 25 [.slice As sd.length cs, .slice Ap pf.length cp, .slice Ab pb.length cb] /\ Sl W W.heap.size (.slice As sd.length cs) sd /\ Sl W W.heap.size (.slice Ap pf.length cp) pf /\ Sl W W.heap.size (.slice Ab pb.length cb) pb /\ Tabs W /\ Below w.heap.size w W /\ w.heap.size + 2 <= W.heap.size) := by
  have b0 : Below w.heap.size w W := by rw [hW]; exact Below.chain (below1 _ _) (below1 _ _)
  refine ⟨by rw [hW]; exact (Row.new_ rfl rfl).alloc _, by rw [hW]; exact Row.new_ (by rw [asz]) rfl, hs.go b0, hp.go b0, hb.go b0, ht.go b0, b0, by rw [hW, asz, asz]; omega⟩
 clear hs hp hb ht hw;unfold keyV;unfold S5.v at HSO ⊢
 try unfold S5.v at HG
 generalize x.c = xc at *;generalize x.s = xs at *;generalize x.n = xn at *;generalize x.h = xh at *;generalize x.l = xl at *;go_enter Tryz.func18, Tryz.ntmps18
 by_cases her : er = 0
 ·have HS := Shh.mk (HSO.out.1 her);have HG2 := Shh.mk (HG.out her);subst her;clear HSO HG HN
  go_wp2_with (go_at_call 49; rw [<- hW]; refine (HS.out _ HW.out.2.2.1 HW.out.2.2.2.1 HW.out.2.2.2.2.1).mono ?_)
  unfold OldIs;rintro e w2 ⟨rfl, b2⟩;obtain ⟨M, hM⟩ : ∃ M, Shh (M = w2.heap.size) := ⟨_, ⟨rfl⟩⟩
  go_wp2_with (refine wpList_store_any rfl 70 (.tmp 6) (.tmp 12) rfl M (by rw [hM.out]; rfl) [.int .u32 xc, .bool xs, .int .i64 xn, .int .i64 xh, .int .i64 xl, .slice As sd.length cs, .slice Ap pf.length cp, .slice Ab pb.length cb] rfl 70 [.int .u32 0, .bool false, .int .i64 0, .int .i64 0, .int .i64 0, .slice none 0 0, .slice none 0 0, .slice none 0 0] (Row.new_ hM.out rfl) info_src rfl oneSrc ?_)
  intro Z hr bt hsz;have H3 : Shh (Row Z M 70 [.int .u32 xc, .bool xs, .int .i64 xn, .int .i64 xh, .int .i64 xl, .slice As sd.length cs, .slice Ap pf.length cp, .slice Ab pb.length cb] /\ Row Z w.heap.size 27 [.int .u32 xc, .bool xs, .int .i64 xn, .int .i64 xh, .int .i64 xl] /\ Row Z (w.heap.size + 1) 25 [.slice As sd.length cs, .slice Ap pf.length cp, .slice Ab pb.length cb] /\ Sl Z Z.heap.size (.slice As sd.length cs) sd /\ Sl Z Z.heap.size (.slice Ap pf.length cp) pf /\ Sl Z Z.heap.size (.slice Ab pb.length cb) pb /\ Tabs Z /\ Below w.heap.size w Z /\ M < Z.heap.size /\ w.heap.size + 2 <= M) := by
   have hm := hM.out;have hq := b2.size;have bb : Below W.heap.size W Z := Below.chain b2 ((below1 _ _).trans (bt.under (by first | omega | (rw [asz]; omega)) (by omega)));exact ⟨hr, HW.out.1.go bb, HW.out.2.1.go bb, HW.out.2.2.1.go bb, HW.out.2.2.2.1.go bb, HW.out.2.2.2.2.1.go bb, HW.out.2.2.2.2.2.1.go bb, Below.chain HW.out.2.2.2.2.2.2.1 bb, hr.lt, by have := HW.out.2.2.2.2.2.2.2; omega⟩
  rw [<- hM.out];clear hr bt hsz b2 HW hW hM HS;have e3 := H3.out.2.1.cell 3;simp only [List.getElem?_cons_succ, List.getElem?_cons_zero] at e3
  go_wp2_with (first | refine wpList_load_any rfl 70 (.tmp 6) rfl M rfl 70 [.int .u32 xc, .bool xs, .int .i64 xn, .int .i64 xh, .int .i64 xl, .slice As sd.length cs, .slice Ap pf.length cp, .slice Ab pb.length cb] _ H3.out.1 Tryz.underlying70 rfl info_src ?_ | (go_at_call 50; refine (HG2.out _ H3.out.2.2.2.1 H3.out.2.2.2.2.1 H3.out.2.2.2.2.2.1 H3.out.2.2.2.2.2.2.1).mono ?_))
  unfold SlIs;rintro e w4 ⟨v4, rfl, s4, b4⟩;have HR : Shh (Sl w4 w4.heap.size v4 out /\ Below w.heap.size w w4) := ⟨s4, Below.chain H3.out.2.2.2.2.2.2.2.1 b4⟩;clear H3 s4 b4 HG2;go_wp2;go_ret2;exact ⟨_, rfl, HR.out⟩
 ·have HS := Shh.mk (HSO.out.2 her);have HN2 := Shh.mk (HN.out her);have hne : (er != 0) = true := by simp [her]
  clear HSO HG HN her
  go_wp2_with (go_at_call 49; rw [<- hW]; refine (HS.out _ HW.out.2.2.1 HW.out.2.2.2.1 HW.out.2.2.2.2.1).mono ?_)
  unfold OldIs;rintro e w2 ⟨rfl, b2⟩;obtain ⟨M, hM⟩ : ∃ M, Shh (M = w2.heap.size) := ⟨_, ⟨rfl⟩⟩
  go_wp2_with (refine wpList_store_any rfl 70 (.tmp 6) (.tmp 12) rfl M (by rw [hM.out]; rfl) [.int .u32 0, .bool false, .int .i64 0, .int .i64 0, .int .i64 0, .slice none 0 0, .slice none 0 0, .slice none 0 0] rfl 70 [.int .u32 0, .bool false, .int .i64 0, .int .i64 0, .int .i64 0, .slice none 0 0, .slice none 0 0, .slice none 0 0] (Row.new_ hM.out rfl) info_src rfl oneSrc ?_)
  intro Z hr bt hsz;have HR : Shh (Below w.heap.size w Z) := by
   have hm := hM.out;have hq := b2.size;have bb : Below W.heap.size W Z := Below.chain b2 ((below1 _ _).trans (bt.under (by first | omega | (rw [asz]; omega)) (by omega)));exact ⟨Below.chain HW.out.2.2.2.2.2.2.1 bb⟩
  clear hr bt hsz b2 HW hW hM HS;go_wp2;go_ret2;exact ⟨_, rfl, by rw [HN2.out]; exact Sl.nil_, HR.out⟩
set_option maxHeartbeats 2000000 in
theorem Public11_any (x : S5) (vs vp vb : Value) (sd pf pb : List UInt8) (w : World) (hw : x.wf) (ht : Tabs w) (hs : Sl w w.heap.size vs sd) (hp : Sl w w.heap.size vp pf) (hb : Sl w w.heap.size vb pb) :
  Calls Tryz.prog 20 #[x.v, keyV vs vp vb] w (ResIs w (badE x [sd, pf, pb]) (pubR x sd pf pb)) := by
 unfold ResIs;obtain ⟨As, cs, rfl, _, _⟩ := hs.form;obtain ⟨Ap, cp, rfl, _, _⟩ := hp.form;obtain ⟨Ab, cb, rfl, _, _⟩ := hb.form;have hcn := c5_nat hw;obtain ⟨cn, hcn2⟩ : ∃ cn, cn = x.c.toNat := ⟨_, rfl⟩;rw [<- hcn2] at hcn;obtain ⟨bi, hbi⟩ : ∃ bi, bi = bigB cn 4 := ⟨_, rfl⟩;obtain ⟨root, hroot⟩ : ∃ root, root = rootR x sd pf pb := ⟨_, rfl⟩;obtain ⟨out, hout⟩ : ∃ out, out = pubR x sd pf pb := ⟨_, rfl⟩
 have HRT : Shh (∀ W, Sl W W.heap.size (.slice As sd.length cs) sd -> Sl W W.heap.size (.slice Ap pf.length cp) pf -> Sl W W.heap.size (.slice Ab pb.length cb) pb -> Tabs W -> Calls Tryz.prog 18 #[x.v, .agg #[.slice As sd.length cs, .slice Ap pf.length cp, .slice Ab pb.length cb]] W (ResIs W (badE x [sd, pf, pb]) root)) := ⟨fun W h1 h2 h3 h4 => by
  rw [hroot]
  exact Root_any x _ _ _ sd pf pb W hw h4 h1 h2 h3⟩
 have HQ : Shh (bi = bigB cn 4 /\ cn < 4294967296 /\ (badE x [sd, pf, pb] = 0 -> [bi, root, pb].flatten = out /\ out.length <= 3000) /\ (¬ badE x [sd, pf, pb] = 0 -> out = [])) := by
  refine ⟨hbi, hcn.2, fun h0 => ?_, fun h0 => ?_⟩
  ·have hk := badE_ok h0;have hn := S5.ok_is hk.1;have hpl := hk.2 pb (by simp);obtain ⟨H, hxh, h20⟩ := ok_h hk.1;have e : root = nodeV x.s x.n x.l.toNat sd pb H 0 := by rw [hroot]; unfold rootR; rw [if_pos h0, show x.h.toNat = H by omega, rootB_node]
   have hrl : root.length = x.n.toNat := by rw [e, nodeV_length hk.1]
   have e2 : [bi, root, pb].flatten = out := by
    rw [hout, three_flat10, hbi, hcn2];unfold pubR;rw [if_pos h0, hroot];unfold rootR;rw [if_pos h0];rfl
   refine ⟨e2, ?_⟩;have hb4 : bi.length = 4 := by rw [hbi]; exact bigB_length _ _
   rw [<- e2];simp;omega
  ·rw [hout];unfold pubR;rw [if_neg h0]
 rw [<- hout];generalize badE x [sd, pf, pb] = er at HRT HQ ⊢;clear hbi hroot hout hcn2;unfold S5.v at HRT ⊢;unfold keyV;rw [<- hcn.1] at HRT ⊢;obtain ⟨W, hW⟩ : ∃ W, W = (w.alloc (.cells #[.int .u32 (cn : Int), .bool x.s, .int .i64 x.n, .int .i64 x.h, .int .i64 x.l] 27)).alloc (.cells #[.slice As sd.length cs, .slice Ap pf.length cp, .slice Ab pb.length cb] 25) := ⟨_, rfl⟩;have HW : Shh (Row W w.heap.size 27 [.int .u32 (cn : Int), .bool x.s, .int .i64 x.n, .int .i64 x.h, .int .i64 x.l] /\ Row W (w.heap.size + 1) 25 [.slice As sd.length cs, .slice Ap pf.length cp, .slice Ab pb.length cb] /\ Sl W W.heap.size (.slice As sd.length cs) sd /\ Sl W W.heap.size (.slice Ap pf.length cp) pf /\ Sl W W.heap.size (.slice Ab pb.length cb) pb /\ Tabs W /\ Below w.heap.size w W) := by
  have b0 : Below w.heap.size w W := by rw [hW]; exact Below.chain (below1 _ _) (below1 _ _)
  exact ⟨by rw [hW]; exact (Row.new_ rfl rfl).alloc _, by rw [hW]; exact Row.new_ (by rw [asz]) rfl, hs.go b0, hp.go b0, hb.go b0, ht.go b0, b0⟩
 clear hs hp hb ht hw hcn;generalize x.s = xs at *;generalize x.n = xn at *;generalize x.h = xh at *;generalize x.l = xl at *;go_enter Tryz.func20, Tryz.ntmps20
 go_wp2_with (go_at_call 18; rw [<- hW]; refine (HRT.out _ HW.out.2.2.1 HW.out.2.2.2.1 HW.out.2.2.2.2.1 HW.out.2.2.2.2.2.1).mono ?_)
 unfold ResIs;rintro e w2 ⟨v2, rfl, s2, b2⟩;obtain ⟨Ar, cr, rfl, _, _⟩ := s2.form
 by_cases her : er = 0
 ·have HQ2 := Shh.mk (HQ.out.2.2.1 her);have HI := Shh.mk HQ.out.2.1;have HB := Shh.mk HQ.out.1;subst her;have H2 : Shh (Row w2 w.heap.size 27 [.int .u32 (cn : Int), .bool xs, .int .i64 xn, .int .i64 xh, .int .i64 xl] /\ Row w2 (w.heap.size + 1) 25 [.slice As sd.length cs, .slice Ap pf.length cp, .slice Ab pb.length cb] /\ Sl w2 w2.heap.size (.slice Ar root.length cr) root /\ Sl w2 w2.heap.size (.slice Ab pb.length cb) pb /\ Below w.heap.size w w2) := ⟨HW.out.1.go b2, HW.out.2.1.go b2, s2, HW.out.2.2.2.2.1.go b2, Below.chain HW.out.2.2.2.2.2.2 b2⟩;clear HQ HW hW s2 b2 HRT;go_wp2;refine wp_region_held_drew (S := fun w' => Row w' w.heap.size 27 [.int .u32 (cn : Int), .bool xs, .int .i64 xn, .int .i64 xh, .int .i64 xl] /\ Row w' (w.heap.size + 1) 25 [.slice As sd.length cs, .slice Ap pf.length cp, .slice Ab pb.length cb]) (by kernel_rfl) ⟨H2.out.1.drew, H2.out.2.1.drew⟩ (fun hS => ?_);clear hS;obtain ⟨V, hV⟩ : ∃ V, V = World.drew w2 := ⟨_, rfl⟩;rw [<- hV];have bV : Below w2.heap.size w2 V := by rw [hV]; exact (Below.refl _ _).drew
  have rX : Row V w.heap.size 27 [.int .u32 (cn : Int), .bool xs, .int .i64 xn, .int .i64 xh, .int .i64 xl] := H2.out.1.go bV;have rK : Row V (w.heap.size + 1) 25 [.slice As sd.length cs, .slice Ap pf.length cp, .slice Ab pb.length cb] := H2.out.2.1.go bV;have sT : Sl V V.heap.size (.slice Ar root.length cr) root := H2.out.2.2.1.go bV;have sB : Sl V V.heap.size (.slice Ab pb.length cb) pb := H2.out.2.2.2.1.go bV;have HBV : Below w.heap.size w V := Below.chain H2.out.2.2.2.2 bV;clear hV H2 bV;refine hdv0 0 17 (.pointer (some ⟨w.heap.size, 0, none⟩)) (by rfl) (⟨rX, rK⟩) ?_;refine hdv 1 18 (.int .u32 (cn : Int)) (by rfl) (fun w hS => load_u rfl (hS.1.cell 0) (by kernel_rfl)) (⟨rX, rK⟩) ?_;refine hdv0 3 20 (.slice Ar root.length cr) (by rfl) (⟨rX, rK⟩) ?_;refine hdv0 4 21 (.pointer (some ⟨w.heap.size + 1, 2, none⟩)) (by rfl) (⟨rX, rK⟩) ?_;refine hdv 5 22 (.slice Ab pb.length cb) (by rfl) (fun w hS => load_p rfl (hS.2.cell 2) (by kernel_rfl)) (⟨rX, rK⟩) ?_;refine held_one 2 (by kernel_rfl) ?_;refine step_call 2 _ _ (some 19) 53 #[.int .u32 (cn : Int)] (by rfl) (by kernel_rfl) (by first | kernel_rfl | go_simp) ?_;refine (u32_any cn V HI.out).mono ?_;rintro e Y1 ⟨v, rfl, gv⟩;have bx : Below V.heap.size V Y1 := gv.2;rw [<- HB.out] at gv;obtain ⟨Ai, ci, vEq⟩ := own_form gv.1;subst vEq;have sI : Sl Y1 Y1.heap.size (.slice Ai bi.length ci) bi := gives_sl gv;clear gv;have b_V := bx;have m_Y1 : V.heap.size <= Y1.heap.size := bx.size;clear bx;refine ⟨_, rfl, ⟨(rX.go b_V), (rK.go b_V)⟩, ?_⟩;simp only [Act.put, arr9, hd9, tl9];refine held_one 6 (by kernel_rfl) ?_;refine step_value 6 _ _ (some 23) (.slice (some ⟨Y1.heap.size, 0, none⟩) 3 3) (Y1.alloc (.cells #[.slice Ai bi.length ci, .slice Ar root.length cr, .slice Ab pb.length cb] 23)) (by rfl) (by kernel_rfl) (by first | kernel_rfl | go_simp) (⟨((rX.go b_V)).alloc _, ((rK.go b_V)).alloc _⟩) ?_;simp only [Act.put, arr9, hd9, tl9];have bx : Below Y1.heap.size Y1 (Y1.alloc (.cells #[.slice Ai bi.length ci, .slice Ar root.length cr, .slice Ab pb.length cb] 23)) := Below.alloc (Below.refl _ _) (Nat.le_refl _) _;have rB : Row (Y1.alloc (.cells #[.slice Ai bi.length ci, .slice Ar root.length cr, .slice Ab pb.length cb] 23)) Y1.heap.size 23 [.slice Ai bi.length ci, .slice Ar root.length cr, .slice Ab pb.length cb] := Row.new_ rfl rfl;have z_rB := asz Y1 (.cells #[.slice Ai bi.length ci, .slice Ar root.length cr, .slice Ab pb.length cb] 23);generalize Y1.alloc (.cells #[.slice Ai bi.length ci, .slice Ar root.length cr, .slice Ab pb.length cb] 23) = Y2 at *;replace b_V := Below.chain b_V bx;have b_Y1 := bx;have m_Y2 : Y1.heap.size <= Y2.heap.size := bx.size;clear bx;refine held_one 7 (by kernel_rfl) ?_;refine step_call 7 _ _ (some 24) 52 #[.slice (some ⟨Y1.heap.size, 0, none⟩) 3 3] (by rfl) (by kernel_rfl) (by first | kernel_rfl | go_simp) ?_;refine (join_any Y2.heap.size Y2.heap.size (.slice (some ⟨Y1.heap.size, 0, none⟩) 3 3) [bi, root, pb] Y2 (PartsO.three (rB).lt (Nat.ne_of_lt (rB).lt) (rB) ((sI.go b_Y1)) (((sI.go b_Y1)).off (Nat.le_refl _)) ((sT.go b_V)) (((sT.go b_V)).off (Nat.le_refl _)) ((sB.go b_V)) (((sB.go b_V)).off (Nat.le_refl _))) (Nat.le_refl _) (by rw [HQ2.out.1]; have := HQ2.out.2; omega) (by simp)).mono ?_;rintro e Y3 ⟨v, rfl, gv⟩;have bx : Below Y2.heap.size Y2 Y3 := gv.2;rw [HQ2.out.1] at gv;obtain ⟨Aj, cj, vEq⟩ := own_form gv.1;subst vEq;have sJ : Sl Y3 Y3.heap.size (.slice Aj out.length cj) out := gives_sl gv;clear gv;replace b_V := Below.chain b_V bx;replace b_Y1 := Below.chain b_Y1 bx;have b_Y2 := bx;have m_Y3 : Y2.heap.size <= Y3.heap.size := bx.size;clear bx;refine ⟨_, rfl, ⟨(rX.go b_V), (rK.go b_V)⟩, ?_⟩;simp only [Act.put, arr9, hd9, tl9];refine hdv0 8 4 (.slice Aj out.length cj) (by rfl) (⟨(rX.go b_V), (rK.go b_V)⟩) ?_;refine hdv0 9 5 (.int .i64 0) (by rfl) (⟨(rX.go b_V), (rK.go b_V)⟩) ?_;refine wpAnyH_done (by kernel_rfl) ?_ _;have HR : Shh (Sl Y3 Y3.heap.size (.slice Aj out.length cj) out /\ Below w.heap.size w Y3) := ⟨sJ, Below.chain HBV b_V⟩;clear m_Y3 b_Y2 sJ m_Y2 b_Y1 z_rB rB m_Y1 b_V sI HBV rX rK sB sT;go_wp2;go_ret2;exact ⟨_, rfl, HR.out⟩
 ·have HQ2 := Shh.mk (HQ.out.2.2.2 her);have hne : (er != 0) = true := by simp [her]
  have HR : Shh (Below w.heap.size w w2) := ⟨Below.chain HW.out.2.2.2.2.2.2 b2⟩;clear HQ HW hW s2 b2 HRT her;go_wp2;go_ret2;exact ⟨_, rfl, by rw [HQ2.out]; exact Sl.nil_, HR.out⟩
end Go.Proofs.YtdakbipiifkmfaaGreatDoor
