import Derived.Test.YtdakbipiifkmfaaGreatDoorGP14
import Derived.Test.YtdakbipiifkmfaaGreatDoorGY
import Derived.Test.YtdakbipiifkmfaaGreatDoorGX30
/-
 THE PROGRAM'S OWN Root, Path, Public.
-/
namespace Go.Proofs.YtdakbipiifkmfaaGreatDoor
open Go.RowKit
set_option maxRecDepth 100000
set_option maxHeartbeats 2000000 in
theorem Root_any (x : S5) (vs vp vb : Value) (sd pf pb : List UInt8) (w : World) (hw : x.wf) (ht : Tabs w) (hs : Sl w w.heap.size vs sd) (hp : Sl w w.heap.size vp pf) (hb : Sl w w.heap.size vb pb) :
  Calls Tryz.prog 18 #[x.v, keyV vs vp vb] w (ResIs w (badE x [sd, pf, pb]) (rootR x sd pf pb)) := by
 unfold ResIs
 obtain ⟨As, cs, rfl, _, _⟩ := hs.form
 obtain ⟨Ap, cp, rfl, _, _⟩ := hp.form
 obtain ⟨Ab, cb, rfl, _, _⟩ := hb.form
 have HSO : Shh ((badE x [sd, pf, pb] = 0 → ∀ W, Sl W W.heap.size (.slice As sd.length cs) sd → Sl W W.heap.size (.slice Ap pf.length cp) pf → Sl W W.heap.size (.slice Ab pb.length cb) pb → Calls Tryz.prog 49 #[x.v, .agg #[.slice As sd.length cs, .slice Ap pf.length cp, .slice Ab pb.length cb]] W (OldIs (.tuple #[.agg #[.int .u32 x.c, .bool x.s, .int .i64 x.n, .int .i64 x.h, .int .i64 x.l, .slice As sd.length cs, .slice Ap pf.length cp, .slice Ab pb.length cb], .int .i64 0]) W)) ∧ (¬ badE x [sd, pf, pb] = 0 → ∀ W, Sl W W.heap.size (.slice As sd.length cs) sd → Sl W W.heap.size (.slice Ap pf.length cp) pf → Sl W W.heap.size (.slice Ab pb.length cb) pb → Calls Tryz.prog 49 #[x.v, .agg #[.slice As sd.length cs, .slice Ap pf.length cp, .slice Ab pb.length cb]] W (OldIs (.tuple #[.agg #[.int .u32 0, .bool false, .int .i64 0, .int .i64 0, .int .i64 0, .slice none 0 0, .slice none 0 0, .slice none 0 0], .int .i64 (badE x [sd, pf, pb])]) W))) := by
  refine ⟨fun h0 W h1 h2 h3 => ?_, fun h0 W h1 h2 h3 => ?_⟩
  ·have h := sourceOf_any x _ _ _ sd pf pb W hw h1 h2 h3
   rw [if_pos h0, h0] at h
   exact h
  ·have h := sourceOf_any x _ _ _ sd pf pb W hw h1 h2 h3
   rw [if_neg h0] at h
   exact h
 have HG : Shh (badE x [sd, pf, pb] = 0 → ∀ W, Sl W W.heap.size (.slice As sd.length cs) sd → Sl W W.heap.size (.slice Ap pf.length cp) pf → Sl W W.heap.size (.slice Ab pb.length cb) pb → Tabs W → Calls Tryz.prog 50 #[.agg #[.int .u32 x.c, .bool x.s, .int .i64 x.n, .int .i64 x.h, .int .i64 x.l, .slice As sd.length cs, .slice Ap pf.length cp, .slice Ab pb.length cb], .int .i64 x.h, .int .u32 0] W (SlIs W (rootR x sd pf pb))) := ⟨fun h0 => by
  have hb0 := h0
  have hk := badE_ok hb0
  obtain ⟨H, hxh, h20⟩ := ok_h hk.1
  have htn : x.h.toNat = H := by omega
  have e : rootR x sd pf pb = nodeV x.s x.n x.l.toNat sd pb H 0 := by unfold rootR; rw [if_pos h0, htn, rootB_node]
  rw [e]
  intro W h1 h2 h3 h4
  have h5 := value_any x hw hk.1 _ _ _ sd pf pb H 0 (by omega) (by rw [Nat.zero_add, Nat.one_mul]; exact Nat.le_trans (Nat.pow_le_pow_right (by decide) h20) (by decide)) W h1 h2 h3 (hk.2 sd (by simp)) (hk.2 pb (by simp)) h4
  rw [← hxh] at h5
  exact h5⟩
 have HN : Shh (¬ badE x [sd, pf, pb] = 0 → rootR x sd pf pb = []) := ⟨fun h => by unfold rootR; rw [if_neg h]⟩
 generalize badE x [sd, pf, pb] = er at HSO HG HN ⊢
 generalize rootR x sd pf pb = out at HG HN ⊢
 obtain ⟨W, hW⟩ : ∃ W, W = (w.alloc (.cells #[.int .u32 x.c, .bool x.s, .int .i64 x.n, .int .i64 x.h, .int .i64 x.l] 27)).alloc (.cells #[.slice As sd.length cs, .slice Ap pf.length cp, .slice Ab pb.length cb] 25) := ⟨_, rfl⟩
 have HW : Shh (Row W w.heap.size 27 [.int .u32 x.c, .bool x.s, .int .i64 x.n, .int .i64 x.h, .int .i64 x.l] ∧ Row W (w.heap.size + 1) 25 [.slice As sd.length cs, .slice Ap pf.length cp, .slice Ab pb.length cb] ∧ Sl W W.heap.size (.slice As sd.length cs) sd ∧ Sl W W.heap.size (.slice Ap pf.length cp) pf ∧ Sl W W.heap.size (.slice Ab pb.length cb) pb ∧ Tabs W ∧ Below w.heap.size w W ∧ w.heap.size + 2 ≤ W.heap.size) := by
  have b0 : Below w.heap.size w W := by rw [hW]; exact Below.chain (below1 _ _) (below1 _ _)
  refine ⟨by rw [hW]; exact (Row.new_ rfl rfl).alloc _, by rw [hW]; exact Row.new_ (by rw [asz]) rfl, hs.go b0, hp.go b0, hb.go b0, ht.go b0, b0, by rw [hW, asz, asz]; omega⟩
 clear hs hp hb ht hw
 unfold keyV
 unfold S5.v at HSO ⊢
 try unfold S5.v at HG
 generalize x.c = xc at *
 generalize x.s = xs at *
 generalize x.n = xn at *
 generalize x.h = xh at *
 generalize x.l = xl at *
 go_enter Tryz.func18, Tryz.ntmps18
 by_cases her : er = 0
 ·have HS := Shh.mk (HSO.out.1 her)
  have HG2 := Shh.mk (HG.out her)
  subst her
  clear HSO HG HN
  go_wp2_with (go_at_call 49; rw [← hW]; refine (HS.out _ HW.out.2.2.1 HW.out.2.2.2.1 HW.out.2.2.2.2.1).mono ?_)
  unfold OldIs
  rintro e w2 ⟨rfl, b2⟩
  obtain ⟨M, hM⟩ : ∃ M, Shh (M = w2.heap.size) := ⟨_, ⟨rfl⟩⟩
  go_wp2_with (refine wpList_store_any rfl 70 (.tmp 6) (.tmp 12) rfl M (by rw [hM.out]; rfl) [.int .u32 xc, .bool xs, .int .i64 xn, .int .i64 xh, .int .i64 xl, .slice As sd.length cs, .slice Ap pf.length cp, .slice Ab pb.length cb] rfl 70 [.int .u32 0, .bool false, .int .i64 0, .int .i64 0, .int .i64 0, .slice none 0 0, .slice none 0 0, .slice none 0 0] (Row.new_ hM.out rfl) info_src rfl oneSrc ?_)
  intro Z hr bt hsz
  have H3 : Shh (Row Z M 70 [.int .u32 xc, .bool xs, .int .i64 xn, .int .i64 xh, .int .i64 xl, .slice As sd.length cs, .slice Ap pf.length cp, .slice Ab pb.length cb] ∧ Row Z w.heap.size 27 [.int .u32 xc, .bool xs, .int .i64 xn, .int .i64 xh, .int .i64 xl] ∧ Row Z (w.heap.size + 1) 25 [.slice As sd.length cs, .slice Ap pf.length cp, .slice Ab pb.length cb] ∧ Sl Z Z.heap.size (.slice As sd.length cs) sd ∧ Sl Z Z.heap.size (.slice Ap pf.length cp) pf ∧ Sl Z Z.heap.size (.slice Ab pb.length cb) pb ∧ Tabs Z ∧ Below w.heap.size w Z ∧ M < Z.heap.size ∧ w.heap.size + 2 ≤ M) := by
   have hm := hM.out
   have hq := b2.size
   have bb : Below W.heap.size W Z := Below.chain b2 ((below1 _ _).trans (bt.under (by first | omega | (rw [asz]; omega)) (by omega)))
   exact ⟨hr, HW.out.1.go bb, HW.out.2.1.go bb, HW.out.2.2.1.go bb, HW.out.2.2.2.1.go bb, HW.out.2.2.2.2.1.go bb, HW.out.2.2.2.2.2.1.go bb, Below.chain HW.out.2.2.2.2.2.2.1 bb, hr.lt, by have := HW.out.2.2.2.2.2.2.2; omega⟩
  rw [← hM.out]
  clear hr bt hsz b2 HW hW hM HS
  have e3 := H3.out.2.1.cell 3
  simp only [List.getElem?_cons_succ, List.getElem?_cons_zero] at e3
  go_wp2_with (first | refine wpList_load_any rfl 70 (.tmp 6) rfl M rfl 70 [.int .u32 xc, .bool xs, .int .i64 xn, .int .i64 xh, .int .i64 xl, .slice As sd.length cs, .slice Ap pf.length cp, .slice Ab pb.length cb] _ H3.out.1 Tryz.underlying70 rfl info_src ?_ | (go_at_call 50; refine (HG2.out _ H3.out.2.2.2.1 H3.out.2.2.2.2.1 H3.out.2.2.2.2.2.1 H3.out.2.2.2.2.2.2.1).mono ?_))
  unfold SlIs
  rintro e w4 ⟨v4, rfl, s4, b4⟩
  have HR : Shh (Sl w4 w4.heap.size v4 out ∧ Below w.heap.size w w4) := ⟨s4, Below.chain H3.out.2.2.2.2.2.2.2.1 b4⟩
  clear H3 s4 b4 HG2
  go_wp2
  go_ret2
  exact ⟨_, rfl, HR.out⟩
 ·have HS := Shh.mk (HSO.out.2 her)
  have HN2 := Shh.mk (HN.out her)
  have hne : (er != 0) = true := by simp [her]
  clear HSO HG HN her
  go_wp2_with (go_at_call 49; rw [← hW]; refine (HS.out _ HW.out.2.2.1 HW.out.2.2.2.1 HW.out.2.2.2.2.1).mono ?_)
  unfold OldIs
  rintro e w2 ⟨rfl, b2⟩
  obtain ⟨M, hM⟩ : ∃ M, Shh (M = w2.heap.size) := ⟨_, ⟨rfl⟩⟩
  go_wp2_with (refine wpList_store_any rfl 70 (.tmp 6) (.tmp 12) rfl M (by rw [hM.out]; rfl) [.int .u32 0, .bool false, .int .i64 0, .int .i64 0, .int .i64 0, .slice none 0 0, .slice none 0 0, .slice none 0 0] rfl 70 [.int .u32 0, .bool false, .int .i64 0, .int .i64 0, .int .i64 0, .slice none 0 0, .slice none 0 0, .slice none 0 0] (Row.new_ hM.out rfl) info_src rfl oneSrc ?_)
  intro Z hr bt hsz
  have HR : Shh (Below w.heap.size w Z) := by
   have hm := hM.out
   have hq := b2.size
   have bb : Below W.heap.size W Z := Below.chain b2 ((below1 _ _).trans (bt.under (by first | omega | (rw [asz]; omega)) (by omega)))
   exact ⟨Below.chain HW.out.2.2.2.2.2.2.1 bb⟩
  clear hr bt hsz b2 HW hW hM HS
  go_wp2
  go_ret2
  exact ⟨_, rfl, by rw [HN2.out]; exact Sl.nil_, HR.out⟩
set_option maxHeartbeats 2000000 in
theorem Path_any (x : S5) (vs vp vb : Value) (sd pf pb : List UInt8) (i : Nat) (w : World) (hw : x.wf) (hi : i < 4294967296) (ht : Tabs w) (hs : Sl w w.heap.size vs sd) (hp : Sl w w.heap.size vp pf) (hb : Sl w w.heap.size vb pb) :
  Calls Tryz.prog 19 #[x.v, keyV vs vp vb, .int .u32 (i : Int)] w (ResIs w (leafE x sd pf pb i) (pathRR x sd pf pb i)) := by
 unfold ResIs
 obtain ⟨As, cs, rfl, _, _⟩ := hs.form
 obtain ⟨Ap, cp, rfl, _, _⟩ := hp.form
 obtain ⟨Ab, cb, rfl, _, _⟩ := hb.form
 have HSO : Shh ((leafE x sd pf pb i = 0 → ∀ W, Sl W W.heap.size (.slice As sd.length cs) sd → Sl W W.heap.size (.slice Ap pf.length cp) pf → Sl W W.heap.size (.slice Ab pb.length cb) pb → Calls Tryz.prog 43 #[x.v, .agg #[.slice As sd.length cs, .slice Ap pf.length cp, .slice Ab pb.length cb], .int .u32 (i : Int)] W (OldIs (.tuple #[.agg #[.int .u32 x.c, .bool x.s, .int .i64 x.n, .int .i64 x.h, .int .i64 x.l, .slice As sd.length cs, .slice Ap pf.length cp, .slice Ab pb.length cb], .int .i64 0]) W)) ∧ (¬ leafE x sd pf pb i = 0 → ∀ W, Sl W W.heap.size (.slice As sd.length cs) sd → Sl W W.heap.size (.slice Ap pf.length cp) pf → Sl W W.heap.size (.slice Ab pb.length cb) pb → Calls Tryz.prog 43 #[x.v, .agg #[.slice As sd.length cs, .slice Ap pf.length cp, .slice Ab pb.length cb], .int .u32 (i : Int)] W (OldIs (.tuple #[.agg #[.int .u32 0, .bool false, .int .i64 0, .int .i64 0, .int .i64 0, .slice none 0 0, .slice none 0 0, .slice none 0 0], .int .i64 (leafE x sd pf pb i)]) W))) := by
  refine ⟨fun h0 W h1 h2 h3 => ?_, fun h0 W h1 h2 h3 => ?_⟩
  ·have h := sourceFor_any x _ _ _ sd pf pb i hi W hw h1 h2 h3
   rw [if_pos h0, h0] at h
   exact h
  ·have h := sourceFor_any x _ _ _ sd pf pb i hi W hw h1 h2 h3
   rw [if_neg h0] at h
   exact h
 have HG : Shh (leafE x sd pf pb i = 0 → ∀ W, Sl W W.heap.size (.slice As sd.length cs) sd → Sl W W.heap.size (.slice Ap pf.length cp) pf → Sl W W.heap.size (.slice Ab pb.length cb) pb → Tabs W → Calls Tryz.prog 51 #[.agg #[.int .u32 x.c, .bool x.s, .int .i64 x.n, .int .i64 x.h, .int .i64 x.l, .slice As sd.length cs, .slice Ap pf.length cp, .slice Ab pb.length cb], .int .u32 (i : Int)] W (SlIs W (pathRR x sd pf pb i))) := ⟨fun h0 => by
  have hb0 : badE x [sd, pf, pb] = 0 := by
   unfold leafE at h0
   split at h0 <;> assumption
  have hk := badE_ok hb0
  obtain ⟨H, hxh, h20⟩ := ok_h hk.1
  have htn : x.h.toNat = H := by omega
  have hlt : i < 2 ^ H := by
   unfold leafE at h0
   rw [if_pos hb0, htn] at h0
   refine Classical.byContradiction fun hh => ?_
   rw [if_neg hh] at h0
   exact absurd h0 (by decide)
  have e : pathRR x sd pf pb i = pathB x.s x.n x.l.toNat H sd pb i H := by unfold pathRR; rw [if_pos h0, htn]
  rw [e]
  exact fun W h1 h2 h3 h4 => path_any x hw hk.1 _ _ _ sd pf pb i H hxh (by omega) hlt W h1 h2 h3 (hk.2 sd (by simp)) (hk.2 pb (by simp)) h4⟩
 have HN : Shh (¬ leafE x sd pf pb i = 0 → pathRR x sd pf pb i = []) := ⟨fun h => by unfold pathRR; rw [if_neg h]⟩
 generalize leafE x sd pf pb i = er at HSO HG HN ⊢
 generalize pathRR x sd pf pb i = out at HG HN ⊢
 obtain ⟨W, hW⟩ : ∃ W, W = (w.alloc (.cells #[.int .u32 x.c, .bool x.s, .int .i64 x.n, .int .i64 x.h, .int .i64 x.l] 27)).alloc (.cells #[.slice As sd.length cs, .slice Ap pf.length cp, .slice Ab pb.length cb] 25) := ⟨_, rfl⟩
 have HW : Shh (Row W w.heap.size 27 [.int .u32 x.c, .bool x.s, .int .i64 x.n, .int .i64 x.h, .int .i64 x.l] ∧ Row W (w.heap.size + 1) 25 [.slice As sd.length cs, .slice Ap pf.length cp, .slice Ab pb.length cb] ∧ Sl W W.heap.size (.slice As sd.length cs) sd ∧ Sl W W.heap.size (.slice Ap pf.length cp) pf ∧ Sl W W.heap.size (.slice Ab pb.length cb) pb ∧ Tabs W ∧ Below w.heap.size w W ∧ w.heap.size + 2 ≤ W.heap.size) := by
  have b0 : Below w.heap.size w W := by rw [hW]; exact Below.chain (below1 _ _) (below1 _ _)
  refine ⟨by rw [hW]; exact (Row.new_ rfl rfl).alloc _, by rw [hW]; exact Row.new_ (by rw [asz]) rfl, hs.go b0, hp.go b0, hb.go b0, ht.go b0, b0, by rw [hW, asz, asz]; omega⟩
 clear hs hp hb ht hw
 unfold keyV
 unfold S5.v at HSO ⊢
 try unfold S5.v at HG
 generalize x.c = xc at *
 generalize x.s = xs at *
 generalize x.n = xn at *
 generalize x.h = xh at *
 generalize x.l = xl at *
 go_enter Tryz.func19, Tryz.ntmps19
 by_cases her : er = 0
 ·have HS := Shh.mk (HSO.out.1 her)
  have HG2 := Shh.mk (HG.out her)
  subst her
  clear HSO HG HN
  go_wp2_with (go_at_call 43; rw [← hW]; refine (HS.out _ HW.out.2.2.1 HW.out.2.2.2.1 HW.out.2.2.2.2.1).mono ?_)
  unfold OldIs
  rintro e w2 ⟨rfl, b2⟩
  obtain ⟨M, hM⟩ : ∃ M, Shh (M = w2.heap.size) := ⟨_, ⟨rfl⟩⟩
  go_wp2_with (refine wpList_store_any rfl 70 (.tmp 8) (.tmp 15) rfl M (by rw [hM.out]; rfl) [.int .u32 xc, .bool xs, .int .i64 xn, .int .i64 xh, .int .i64 xl, .slice As sd.length cs, .slice Ap pf.length cp, .slice Ab pb.length cb] rfl 70 [.int .u32 0, .bool false, .int .i64 0, .int .i64 0, .int .i64 0, .slice none 0 0, .slice none 0 0, .slice none 0 0] (Row.new_ hM.out rfl) info_src rfl oneSrc ?_)
  intro Z hr bt hsz
  have H3 : Shh (Row Z M 70 [.int .u32 xc, .bool xs, .int .i64 xn, .int .i64 xh, .int .i64 xl, .slice As sd.length cs, .slice Ap pf.length cp, .slice Ab pb.length cb] ∧ Row Z w.heap.size 27 [.int .u32 xc, .bool xs, .int .i64 xn, .int .i64 xh, .int .i64 xl] ∧ Row Z (w.heap.size + 1) 25 [.slice As sd.length cs, .slice Ap pf.length cp, .slice Ab pb.length cb] ∧ Sl Z Z.heap.size (.slice As sd.length cs) sd ∧ Sl Z Z.heap.size (.slice Ap pf.length cp) pf ∧ Sl Z Z.heap.size (.slice Ab pb.length cb) pb ∧ Tabs Z ∧ Below w.heap.size w Z ∧ M < Z.heap.size ∧ w.heap.size + 2 ≤ M) := by
   have hm := hM.out
   have hq := b2.size
   have bb : Below W.heap.size W Z := Below.chain b2 ((below1 _ _).trans (bt.under (by first | omega | (rw [asz]; omega)) (by omega)))
   exact ⟨hr, HW.out.1.go bb, HW.out.2.1.go bb, HW.out.2.2.1.go bb, HW.out.2.2.2.1.go bb, HW.out.2.2.2.2.1.go bb, HW.out.2.2.2.2.2.1.go bb, Below.chain HW.out.2.2.2.2.2.2.1 bb, hr.lt, by have := HW.out.2.2.2.2.2.2.2; omega⟩
  rw [← hM.out]
  clear hr bt hsz b2 HW hW hM HS
  have e3 := H3.out.2.1.cell 3
  simp only [List.getElem?_cons_succ, List.getElem?_cons_zero] at e3
  go_wp2_with (first | refine wpList_load_any rfl 70 (.tmp 8) rfl M rfl 70 [.int .u32 xc, .bool xs, .int .i64 xn, .int .i64 xh, .int .i64 xl, .slice As sd.length cs, .slice Ap pf.length cp, .slice Ab pb.length cb] _ H3.out.1 Tryz.underlying70 rfl info_src ?_ | (go_at_call 51; refine (HG2.out _ H3.out.2.2.2.1 H3.out.2.2.2.2.1 H3.out.2.2.2.2.2.1 H3.out.2.2.2.2.2.2.1).mono ?_))
  unfold SlIs
  rintro e w4 ⟨v4, rfl, s4, b4⟩
  have HR : Shh (Sl w4 w4.heap.size v4 out ∧ Below w.heap.size w w4) := ⟨s4, Below.chain H3.out.2.2.2.2.2.2.2.1 b4⟩
  clear H3 s4 b4 HG2
  go_wp2
  go_ret2
  exact ⟨_, rfl, HR.out⟩
 ·have HS := Shh.mk (HSO.out.2 her)
  have HN2 := Shh.mk (HN.out her)
  have hne : (er != 0) = true := by simp [her]
  clear HSO HG HN her
  go_wp2_with (go_at_call 43; rw [← hW]; refine (HS.out _ HW.out.2.2.1 HW.out.2.2.2.1 HW.out.2.2.2.2.1).mono ?_)
  unfold OldIs
  rintro e w2 ⟨rfl, b2⟩
  obtain ⟨M, hM⟩ : ∃ M, Shh (M = w2.heap.size) := ⟨_, ⟨rfl⟩⟩
  go_wp2_with (refine wpList_store_any rfl 70 (.tmp 8) (.tmp 15) rfl M (by rw [hM.out]; rfl) [.int .u32 0, .bool false, .int .i64 0, .int .i64 0, .int .i64 0, .slice none 0 0, .slice none 0 0, .slice none 0 0] rfl 70 [.int .u32 0, .bool false, .int .i64 0, .int .i64 0, .int .i64 0, .slice none 0 0, .slice none 0 0, .slice none 0 0] (Row.new_ hM.out rfl) info_src rfl oneSrc ?_)
  intro Z hr bt hsz
  have HR : Shh (Below w.heap.size w Z) := by
   have hm := hM.out
   have hq := b2.size
   have bb : Below W.heap.size W Z := Below.chain b2 ((below1 _ _).trans (bt.under (by first | omega | (rw [asz]; omega)) (by omega)))
   exact ⟨Below.chain HW.out.2.2.2.2.2.2.1 bb⟩
  clear hr bt hsz b2 HW hW hM HS
  go_wp2
  go_ret2
  exact ⟨_, rfl, by rw [HN2.out]; exact Sl.nil_, HR.out⟩
theorem up_law (c : Nat) (hc : c < 4294967296) (vs vp vb : Value) (sd pf pb : List UInt8) (i : Nat) (hi : i < 4294967296) (w : World) (hs : Sl w w.heap.size vs sd) (hp : Sl w w.heap.size vp pf) (hb : Sl w w.heap.size vb pb) (ht : Tabs w) :
  Calls Tryz.prog 9 #[.int .u32 (c : Int), keyV vs vp vb, .int .u32 (i : Int)] w (TrueIs w) :=
 xmssUp_of (Tb := Tabs) c hc vs vp vb sd pf pb i hi w hs hp hb ht (fun _ _ h b => h.go b) live11_any (fun x vs vl vr seed l r a W h1 h2 h3 h4 h5 h6 => Node_any x vs vl vr seed l r a W h1 h2 h3 h4 h5 h6) (fun x vs vp vb sd pf pb i W h1 h2 h3 h4 h5 h6 => Leaf_any x vs vp vb sd pf pb i W h1 h2 h3 h4 h5 h6) (fun x vs vp vb sd pf pb W h1 _ h3 h4 h5 h6 => Root_any x vs vp vb sd pf pb W h1 h3 h4 h5 h6) (fun x vs vp vb sd pf pb i W h1 _ h2 h3 h4 h5 h6 => Path_any x vs vp vb sd pf pb i W h1 h2 h3 h4 h5 h6)
end Go.Proofs.YtdakbipiifkmfaaGreatDoor
