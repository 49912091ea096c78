import Derived.WalkKit
import Derived.Test.YtdakbipiifkmfaaGreatDoorProg
import Derived.WalkSpells
import Derived.WalkLawsBesides
import Derived.Lib.UnsafeStr
import Derived.Lib.Hide
import Derived.Laws.BytesArg
import Derived.Deep.Draws
import Derived.RegionTactic
import Derived.ChangeAlike
import Derived.Laws.AppendOwnNone
import Derived.BigQuiet
import Derived.Deep.QuietTactic
import Derived.Maps.AppendAt
import Derived.Test.YtdakbipiifkmfaaGreatDoorRows
import Derived.ProofKit
import Derived.OpenShut
import Derived.JoinedCond
import Derived.SizedLaws
import Derived.Carry
import Derived.Deep.Grids
import Derived.Deep.RegionHeld3
import Derived.Laws.EntriesVeiled
import Derived.StillTailTactics
import Derived.Lib.SliceRun
import Derived.Lib.ConvBytes
import Derived.Lib.AtoiErrMem
import Derived.Laws.AppendOwn
import Derived.RangeFuncNested
import Derived.RangeFuncBound
import Derived.RangeFuncCalls
import Derived.RangeFuncLeaves
import Derived.OwnWalkIn
import Derived.TacticsInMore
import Derived.LoopNIn
import Derived.LoopIn
import Derived.RangeFuncBox
import Derived.RangeFuncWrites
import Derived.Laws.CopyOwn
import Derived.Deep.RegionLaw
import Derived.DeepKeys
import Derived.Lib.SmallJoins
import Derived.BigRegion
import Derived.Deep.RegionWith
import Derived.Deep.RegionHeld
import Derived.Laws.Cover3
import Derived.Deep.MidRow
import Derived.Deep.WholeRow
import Derived.Test.YtdakbipiifkmfaaGreatDoorGP25
import Derived.Test.YtdakbipiifkmfaaGreatDoorGSbp
import Derived.Test.YtdakbipiifkmfaaGreatDoorGSbq
/-
 THE PROGRAM'S OWN New; the tree's law.
-/
namespace Go.Proofs.YtdakbipiifkmfaaGreatDoor
open Go.RowKit
set_option maxRecDepth 100000
section
variable {P : Program} {md : Region.Mode} {ops : Array Oper} {Q : Exit → Act → World → Prop} {S : World → Prop} {fuel : Nat} {listed : Array Bool} {a : Act} {w : World}
theorem step_storeAt (i : Nat) (ty : TypeId) (x y : Operand) (hop : (ops[i]?).map (fun o => (o.op, o.dst)) = some (.store ty x y, none)) (hw : (ops[i]?).map (fun o => Region.wanted o (yielded ops a.tmps)) = some true)
 (b o : Nat) (hx : a.eval x = .pointer (some ⟨b, o, none⟩)) (ds : List Value) (hy : a.eval y = .agg ds.toArray) (T : TypeId) (s : List Value) (hr : Row w b T s) (ho : o + ds.length ≤ s.length) (hi : (P.info? ty).map (·.size) = some ds.length) (h1 : ∀ u ∈ ds, u.oneCell' = true)
 (h : ∀ w2, Row w2 b T (s.take o ++ ds ++ s.drop (o + ds.length)) → But w.heap.size b w w2 → w2.heap.size = w.heap.size → S w2 ∧ wpAnyH P md ops Q S fuel (listed.setIfInBounds i true) a w2) : HStep P md ops Q S fuel listed a w i := by
 unfold HStep
 cases hoi : ops[i]? with
 | none => rw [hoi] at hop; cases hop
 | some op =>
  rw [hoi] at hop hw
  simp only [Option.map_some, Option.some.injEq, Prod.mk.injEq] at hop hw
  refine wpOp_step hoi fun K' hK => ?_
  rw [if_pos hw]
  refine wp_store_mid ty x y hop.1 b o ds.toArray hx hy (by simpa using hr.there o ds.length ho) (by simpa using hi) (all_oneCell_toArray h1) (hK _ _ ?_)
  rw [hop.2]
  have h2 := hr.setCells ds o
  rw [over_eq _ _ _ ho] at h2
  exact h _ h2 (But.setCells _ o (But.refl _ _ _)) (size_setCells _ _ _)
end
theorem info_key : (Tryz.prog.info? 25).map (·.size) = some 3 := by kernel_rfl
theorem oneKey {A B C : Option Addr} {k l m n o p : Nat} : ∀ u ∈ [Value.slice A k l, .slice B m n, .slice C o p], u.oneCell' = true := by
 intro u hu
 simp only [List.mem_cons, List.not_mem_nil, or_false] at hu
 rcases hu with rfl | rfl | rfl <;> rfl
set_option maxHeartbeats 2000000 in
theorem New_any (x : S5) (vs vp vb : Value) (sd pf pb : List UInt8) (w : World) (hw : x.wf) (ht : Tabs w) (hs : Sl w w.heap.size vs sd) (hp : Sl w w.heap.size vp pf) (hb : Sl w w.heap.size vb pb) :
  Calls Tryz.prog 34 #[x.v, keyV vs vp vb] w (MadeTree x sd pf pb w (badE x [sd, pf, pb])) := by
 unfold MadeTree
 obtain ⟨As, cs, rfl, _, _⟩ := hs.form
 obtain ⟨Ap, cp, rfl, _, _⟩ := hp.form
 obtain ⟨Ab, cb, rfl, _, _⟩ := hb.form
 have HT0 := Shh.mk ht
 have HSO : Shh ((badE x [sd, pf, pb] = 0 → ∀ W, Sl W W.heap.size (.slice As sd.length cs) sd → Sl W W.heap.size (.slice Ap pf.length cp) pf → Sl W W.heap.size (.slice Ab pb.length cb) pb → Calls Tryz.prog 49 #[x.v, .agg #[.slice As sd.length cs, .slice Ap pf.length cp, .slice Ab pb.length cb]] W (OldIs (.tuple #[.agg #[.int .u32 x.c, .bool x.s, .int .i64 x.n, .int .i64 x.h, .int .i64 x.l, .slice As sd.length cs, .slice Ap pf.length cp, .slice Ab pb.length cb], .int .i64 0]) W)) ∧ (¬ badE x [sd, pf, pb] = 0 → ∀ W, Sl W W.heap.size (.slice As sd.length cs) sd → Sl W W.heap.size (.slice Ap pf.length cp) pf → Sl W W.heap.size (.slice Ab pb.length cb) pb → Calls Tryz.prog 49 #[x.v, .agg #[.slice As sd.length cs, .slice Ap pf.length cp, .slice Ab pb.length cb]] W (OldIs (.tuple #[.agg #[.int .u32 0, .bool false, .int .i64 0, .int .i64 0, .int .i64 0, .slice none 0 0, .slice none 0 0, .slice none 0 0], .int .i64 (badE x [sd, pf, pb])]) W))) := by
  refine ⟨fun h0 W h1 h2 h3 => ?_, fun h0 W h1 h2 h3 => ?_⟩
  ·have h := sourceOf_any x _ _ _ sd pf pb W hw h1 h2 h3
   rw [if_pos h0, h0] at h
   exact h
  ·have h := sourceOf_any x _ _ _ sd pf pb W hw h1 h2 h3
   rw [if_neg h0] at h
   exact h
 have HG : Shh (badE x [sd, pf, pb] = 0 → (0 < sd.length ∧ sd.length ≤ 100000) ∧ (0 < pf.length ∧ pf.length ≤ 100000) ∧ (0 < pb.length ∧ pb.length ≤ 100000) ∧ ∀ (W' w0 : World) (g : Nat) (us up ub : Value), w.heap.size ≤ w0.heap.size → w0.heap.size ≤ g → g + 1 ≤ W'.heap.size → Below w0.heap.size w0 W' → Sl w0 w0.heap.size us sd → Sl w0 w0.heap.size up pf → Sl w0 w0.heap.size ub pb → Tabs w0 → Row W' g 106 [.int .u32 x.c, .bool x.s, .int .i64 x.n, .int .i64 x.h, .int .i64 x.l, us, up, ub, .int .u32 0, .slice none 0 0] → TreeAt x sd pf pb w.heap.size W' (.pointer (some ⟨g, 0, none⟩)) 0) := ⟨fun h0 => by
  have hk := badE_ok h0
  have hn := S5.ok_is hk.1
  have hl1 := hk.2 sd (by simp)
  have hl2 := hk.2 pf (by simp)
  have hl3 := hk.2 pb (by simp)
  refine ⟨⟨by omega, by omega⟩, ⟨by omega, by omega⟩, ⟨by omega, by omega⟩, fun W' w0 g us up ub h1 h2 h3 h4 h5 h6 h7 h8 hr => ⟨g, us, up, ub, none, w0, rfl, hw, h0, h1, h2, h4, h5, h6, h7, h8, Nat.zero_le _, ?_⟩⟩
  rw [stk_start]
  exact ⟨.slice none 0 0, [], hr, rfl, rfl, by omega, h3, World.ownsRow_nil _ _ _ _, fun e he => by cases he⟩⟩
 generalize badE x [sd, pf, pb] = er at HSO HG ⊢
 obtain ⟨W, hW⟩ : ∃ W, W = (w.alloc (.cells #[.int .u32 x.c, .bool x.s, .int .i64 x.n, .int .i64 x.h, .int .i64 x.l] 27)).alloc (.cells #[.slice As sd.length cs, .slice Ap pf.length cp, .slice Ab pb.length cb] 25) := ⟨_, rfl⟩
 have HW : Shh (Row W w.heap.size 27 [.int .u32 x.c, .bool x.s, .int .i64 x.n, .int .i64 x.h, .int .i64 x.l] ∧ Row W (w.heap.size + 1) 25 [.slice As sd.length cs, .slice Ap pf.length cp, .slice Ab pb.length cb] ∧ Sl W W.heap.size (.slice As sd.length cs) sd ∧ Sl W W.heap.size (.slice Ap pf.length cp) pf ∧ Sl W W.heap.size (.slice Ab pb.length cb) pb ∧ Tabs W ∧ Below w.heap.size w W ∧ w.heap.size + 2 ≤ W.heap.size) := by
  have b0 : Below w.heap.size w W := by rw [hW]; exact Below.chain (below1 _ _) (below1 _ _)
  refine ⟨by rw [hW]; exact (Row.new_ rfl rfl).alloc _, by rw [hW]; exact Row.new_ (by rw [asz]) rfl, hs.go b0, hp.go b0, hb.go b0, ht.go b0, b0, by rw [hW, asz, asz]; omega⟩
 clear hs hp hb ht hw
 unfold keyV
 unfold S5.v at HSO ⊢
 try unfold S5.v at HG
 generalize x.c = xc at *
 generalize x.s = xs at *
 generalize x.n = xn at *
 generalize x.h = xh at *
 generalize x.l = xl at *
 go_enter Tryz.func34, Tryz.ntmps34
 by_cases her : er = 0
 ·have HS := Shh.mk (HSO.out.1 her)
  have HG2 := Shh.mk (HG.out her)
  subst her
  clear HSO HG
  go_wp2_with (go_at_call 49; rw [← hW]; refine (HS.out _ HW.out.2.2.1 HW.out.2.2.2.1 HW.out.2.2.2.2.1).mono ?_)
  unfold OldIs
  rintro e w2 ⟨rfl, b2⟩
  obtain ⟨M, hM⟩ : ∃ M, Shh (M = w2.heap.size) := ⟨_, ⟨rfl⟩⟩
  go_wp2_with (refine wpList_store_any rfl 70 (.tmp 6) (.tmp 12) rfl M (by rw [hM.out]; rfl) [.int .u32 xc, .bool xs, .int .i64 xn, .int .i64 xh, .int .i64 xl, .slice As sd.length cs, .slice Ap pf.length cp, .slice Ab pb.length cb] rfl 70 [.int .u32 0, .bool false, .int .i64 0, .int .i64 0, .int .i64 0, .slice none 0 0, .slice none 0 0, .slice none 0 0] (Row.new_ hM.out rfl) info_src rfl oneSrc ?_)
  intro Z hr bt hsz
  have H3 : Shh (Row Z M 70 [.int .u32 xc, .bool xs, .int .i64 xn, .int .i64 xh, .int .i64 xl, .slice As sd.length cs, .slice Ap pf.length cp, .slice Ab pb.length cb] ∧ Row Z w.heap.size 27 [.int .u32 xc, .bool xs, .int .i64 xn, .int .i64 xh, .int .i64 xl] ∧ Row Z (w.heap.size + 1) 25 [.slice As sd.length cs, .slice Ap pf.length cp, .slice Ab pb.length cb] ∧ Sl Z Z.heap.size (.slice As sd.length cs) sd ∧ Sl Z Z.heap.size (.slice Ap pf.length cp) pf ∧ Sl Z Z.heap.size (.slice Ab pb.length cb) pb ∧ Tabs Z ∧ Below w.heap.size w Z ∧ M < Z.heap.size ∧ w.heap.size + 2 ≤ M) := by
   have hm := hM.out
   have hq := b2.size
   have bb : Below W.heap.size W Z := Below.chain b2 ((below1 _ _).trans (bt.under (by first | omega | (rw [asz]; omega)) (by omega)))
   exact ⟨hr, HW.out.1.go bb, HW.out.2.1.go bb, HW.out.2.2.1.go bb, HW.out.2.2.2.1.go bb, HW.out.2.2.2.2.1.go bb, HW.out.2.2.2.2.2.1.go bb, Below.chain HW.out.2.2.2.2.2.2.1 bb, hr.lt, by have := HW.out.2.2.2.2.2.2.2; omega⟩
  rw [← hM.out]
  clear hr bt hsz b2 HW hW hM HS
  go_wp2
  refine wp_region_held_drew (S := fun w' => Row w' (w.heap.size + 1) 25 [.slice As sd.length cs, .slice Ap pf.length cp, .slice Ab pb.length cb]) (by kernel_rfl) H3.out.2.2.1.drew (fun hS => ?_)
  clear hS
  obtain ⟨V, hV⟩ : ∃ V, V = World.drew Z := ⟨_, rfl⟩
  rw [← hV]
  have bV : Below Z.heap.size Z V := by rw [hV]; exact (Below.refl _ _).drew
  have rM : Row V M 70 [.int .u32 xc, .bool xs, .int .i64 xn, .int .i64 xh, .int .i64 xl, .slice As sd.length cs, .slice Ap pf.length cp, .slice Ab pb.length cb] := H3.out.1.go bV
  have rK : Row V (w.heap.size + 1) 25 [.slice As sd.length cs, .slice Ap pf.length cp, .slice Ab pb.length cb] := H3.out.2.2.1.go bV
  have s1 : Sl V V.heap.size (.slice As sd.length cs) sd := H3.out.2.2.2.1.go bV
  have s2 : Sl V V.heap.size (.slice Ap pf.length cp) pf := H3.out.2.2.2.2.1.go bV
  have s3 : Sl V V.heap.size (.slice Ab pb.length cb) pb := H3.out.2.2.2.2.2.1.go bV
  have HBV : Below w.heap.size w V := Below.chain H3.out.2.2.2.2.2.2.2.1 bV
  have HMw : Shh (w.heap.size + 2 ≤ M) := ⟨H3.out.2.2.2.2.2.2.2.2.2⟩
  clear hV H3 bV
  refine hdv0 0 17 (.pointer (some ⟨w.heap.size + 1, 0, none⟩)) (by rfl) (rK) ?_
  refine hdv 1 18 (.slice As sd.length cs) (by rfl) (fun w hS => load_p rfl (hS.cell 0) (by kernel_rfl)) (rK) ?_
  refine hdv0 3 20 (.pointer (some ⟨w.heap.size + 1, 1, none⟩)) (by rfl) (rK) ?_
  refine hdv 4 21 (.slice Ap pf.length cp) (by rfl) (fun w hS => load_p rfl (hS.cell 1) (by kernel_rfl)) (rK) ?_
  refine hdv0 6 23 (.pointer (some ⟨w.heap.size + 1, 2, none⟩)) (by rfl) (rK) ?_
  refine hdv 7 24 (.slice Ab pb.length cb) (by rfl) (fun w hS => load_p rfl (hS.cell 2) (by kernel_rfl)) (rK) ?_
  refine held_one 2 (by kernel_rfl) ?_
  refine step_call 2 _ _ (some 19) 77 #[.slice As sd.length cs] (by rfl) (by kernel_rfl) (by first | kernel_rfl | go_simp) ?_
  refine (clone8_any _ sd V (s1) HG2.out.1.1 HG2.out.1.2).mono ?_
  unfold NewSl; rintro e Y1 ⟨v1, rfl, n1, bn, o1⟩
  have bx : Below V.heap.size V Y1 := bn
  obtain ⟨A1, c1, rfl, _, _⟩ := n1.form
  have of1 : Off M (.slice A1 sd.length c1) := o1 M (Nat.lt_of_lt_of_le rM.lt (Below.size (B := V.heap.size) (Below.refl _ _)))
  clear bn o1
  have b_V := bx
  have m_Y1 : V.heap.size ≤ Y1.heap.size := bx.size
  clear bx
  refine ⟨_, rfl, (rK.go b_V), ?_⟩
  simp only [Act.put, arr9, hd9, tl9]
  refine held_one 5 (by kernel_rfl) ?_
  refine step_call 5 _ _ (some 22) 77 #[.slice Ap pf.length cp] (by rfl) (by kernel_rfl) (by first | kernel_rfl | go_simp) ?_
  refine (clone8_any _ pf Y1 ((s2.go b_V)) HG2.out.2.1.1 HG2.out.2.1.2).mono ?_
  unfold NewSl; rintro e Y2 ⟨v2, rfl, n2, bn, o2⟩
  have bx : Below Y1.heap.size Y1 Y2 := bn
  obtain ⟨A2, c2, rfl, _, _⟩ := n2.form
  have of2 : Off M (.slice A2 pf.length c2) := o2 M (Nat.lt_of_lt_of_le rM.lt (Below.size (B := V.heap.size) b_V))
  clear bn o2
  replace b_V := Below.chain b_V bx
  have b_Y1 := bx
  have m_Y2 : Y1.heap.size ≤ Y2.heap.size := bx.size
  clear bx
  refine ⟨_, rfl, (rK.go b_V), ?_⟩
  simp only [Act.put, arr9, hd9, tl9]
  refine held_one 8 (by kernel_rfl) ?_
  refine step_call 8 _ _ (some 25) 77 #[.slice Ab pb.length cb] (by rfl) (by kernel_rfl) (by first | kernel_rfl | go_simp) ?_
  refine (clone8_any _ pb Y2 ((s3.go b_V)) HG2.out.2.2.1.1 HG2.out.2.2.1.2).mono ?_
  unfold NewSl; rintro e Y3 ⟨v3, rfl, n3, bn, o3⟩
  have bx : Below Y2.heap.size Y2 Y3 := bn
  obtain ⟨A3, c3, rfl, _, _⟩ := n3.form
  have of3 : Off M (.slice A3 pb.length c3) := o3 M (Nat.lt_of_lt_of_le rM.lt (Below.size (B := V.heap.size) b_V))
  clear bn o3
  replace b_V := Below.chain b_V bx
  replace b_Y1 := Below.chain b_Y1 bx
  have b_Y2 := bx
  have m_Y3 : Y2.heap.size ≤ Y3.heap.size := bx.size
  clear bx
  refine ⟨_, rfl, (rK.go b_V), ?_⟩
  simp only [Act.put, arr9, hd9, tl9]
  refine hdv0 9 26 (.agg #[.slice A1 sd.length c1, .slice A2 pf.length c2, .slice A3 pb.length c3]) (by rfl) ((rK.go b_V)) ?_
  refine hdv0 10 27 (.pointer (some ⟨M, 5, none⟩)) (by rfl) ((rK.go b_V)) ?_
  refine held_one 11 (by kernel_rfl) ?_
  refine step_storeAt 11 25 (.tmp 27) (.tmp 26) (by rfl) (by kernel_rfl) M 5 rfl [.slice A1 sd.length c1, .slice A2 pf.length c2, .slice A3 pb.length c3] rfl 70 [.int .u32 xc, .bool xs, .int .i64 xn, .int .i64 xh, .int .i64 xl, .slice As sd.length cs, .slice Ap pf.length cp, .slice Ab pb.length cb] ((rM.go b_V)) (Nat.le_refl 8) info_key oneKey ?_
  intro Y4 rN bt zt
  have HR : Shh (Row Y4 M 70 [.int .u32 xc, .bool xs, .int .i64 xn, .int .i64 xh, .int .i64 xl, .slice A1 sd.length c1, .slice A2 pf.length c2, .slice A3 pb.length c3] ∧ Sl Y4 Y4.heap.size (.slice A1 sd.length c1) sd ∧ Sl Y4 Y4.heap.size (.slice A2 pf.length c2) pf ∧ Sl Y4 Y4.heap.size (.slice A3 pb.length c3) pb ∧ Below w.heap.size w Y4) := ⟨rN, (((n1.go b_Y1)).but of1 bt).more bt.size, (((n2.go b_Y2)).but of2 bt).more bt.size, ((n3).but of3 bt).more bt.size, (Below.chain HBV b_V).trans (bt.under (Below.size (B := w.heap.size) (Below.chain HBV b_V)) (by have := HMw.out; omega))⟩
  have rK2 := bt.row ((rK.go b_V)) ((rK.go b_V)).lt (by have := HMw.out; omega)
  clear rN bt zt of1 of2 of3 n1 n2 n3 HBV
  refine ⟨rK2, ?_⟩
  refine wpAnyH_done (by kernel_rfl) ?_ _
  have HR9 := HR
  clear rK2 HR m_Y3 b_Y2 m_Y2 b_Y1 m_Y1 b_V rM rK s1 s2 s3
  go_wp2_with (refine wpList_load_any rfl 70 (.tmp 6) rfl M rfl 70 [.int .u32 xc, .bool xs, .int .i64 xn, .int .i64 xh, .int .i64 xl, .slice A1 sd.length c1, .slice A2 pf.length c2, .slice A3 pb.length c3] _ HR9.out.1 Tryz.underlying70 rfl info_src ?_)
  go_wp2
  go_ret2
  exact ⟨_, rfl, Below.chain HR9.out.2.2.2.2 (below1 _ _), ⟨_, rfl⟩, HG2.out.2.2.2 _ _ _ _ _ _ HR9.out.2.2.2.2.size (Nat.le_refl _) (by rw [asz]; omega) (below1 _ _) HR9.out.2.1 HR9.out.2.2.1 HR9.out.2.2.2.1 (HT0.out.go HR9.out.2.2.2.2) (Row.new_ rfl rfl)⟩
 ·have HS := Shh.mk (HSO.out.2 her)
  have hne : (er != 0) = true := by simp [her]
  clear HSO HG HT0
  go_wp2_with (go_at_call 49; rw [← hW]; refine (HS.out _ HW.out.2.2.1 HW.out.2.2.2.1 HW.out.2.2.2.2.1).mono ?_)
  unfold OldIs
  rintro e w2 ⟨rfl, b2⟩
  obtain ⟨M, hM⟩ : ∃ M, Shh (M = w2.heap.size) := ⟨_, ⟨rfl⟩⟩
  go_wp2_with (refine wpList_store_any rfl 70 (.tmp 6) (.tmp 12) rfl M (by rw [hM.out]; rfl) [.int .u32 0, .bool false, .int .i64 0, .int .i64 0, .int .i64 0, .slice none 0 0, .slice none 0 0, .slice none 0 0] rfl 70 [.int .u32 0, .bool false, .int .i64 0, .int .i64 0, .int .i64 0, .slice none 0 0, .slice none 0 0, .slice none 0 0] (Row.new_ hM.out rfl) info_src rfl oneSrc ?_)
  intro Z hr bt hsz
  have HR : Shh (Below w.heap.size w Z) := by
   have hm := hM.out
   have hq := b2.size
   have bb : Below W.heap.size W Z := Below.chain b2 ((below1 _ _).trans (bt.under (by first | omega | (rw [asz]; omega)) (by omega)))
   exact ⟨Below.chain HW.out.2.2.2.2.2.2.1 bb⟩
  clear hr bt hsz b2 HW hW hM HS
  go_wp2
  go_ret2
  exact ⟨_, rfl, HR.out, fun _ => rfl, fun h => absurd h her⟩
theorem grows_law (c : Nat) (hc : c < 4294967296) (vs vp vb : Value) (sd pf pb : List UInt8) (w : World) (hs : Sl w w.heap.size vs sd) (hp : Sl w w.heap.size vp pf) (hb : Sl w w.heap.size vb pb) (ht : Tabs w) :
  Calls Tryz.prog 8 #[.int .u32 (c : Int), keyV vs vp vb] w (TrueIs w) :=
 xmssGrows_of (T := TreeAt) (Tb := Tabs) c hc vs vp vb sd pf pb w hs hp hb ht (fun _ _ h b => h.go b) live11_any (fun _ _ _ _ _ _ _ _ _ h b => h.go b) (fun x vs vp vb sd pf pb W h1 _ h3 h4 h5 h6 => New_any x vs vp vb sd pf pb W h1 h3 h4 h5 h6) (fun _ _ _ _ _ _ _ _ _ h _ _ => TRoot_any h) (fun _ _ _ _ _ _ _ _ h => TLeaves_any h) (fun _ _ _ _ _ _ _ _ h _ => THeld_any h) (fun _ _ _ _ _ _ _ _ _ h _ _ => TAdd_any h) (fun x vs vp vb sd pf pb W h1 _ h3 h4 h5 h6 => Root_any x vs vp vb sd pf pb W h1 h3 h4 h5 h6)
end Go.Proofs.YtdakbipiifkmfaaGreatDoor
