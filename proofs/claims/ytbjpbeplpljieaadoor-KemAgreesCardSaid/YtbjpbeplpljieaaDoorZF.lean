import Derived.Test.YtbjpbeplpljieaaDoorZE
import Derived.Test.YtbjpbeplpljieaaDoorZB
import Derived.Test.YtbjpbeplpljieaaDoorZA
import Derived.Laws.Cover3
import Derived.Test.YtbjpbeplpljieaaDoorZD
import Derived.Deep.LoopGhost
/-
 WALK: keccak.mix.
-/
namespace Go.Proofs.YtbjpbeplpljieaaDoor
open Go.RowKit
set_option maxRecDepth 100000

set_option maxHeartbeats 2000000 in
theorem mix_any (l : List UInt64) (w : World) (hl : l.length = 25) :
  Calls Tryd.prog 94 #[.agg (laneCells l).toArray] w (LanesIs w (mixL l)) := by
 unfold LanesIs
 generalize hn0 : w.heap.size = n0 at *
 have hr0 : ∀ o, Row ((w.alloc (.cells (laneCells l).toArray 71)).alloc o) n0 71 (laneCells l) := fun o => (Row.new_ hn0.symm rfl).alloc _
 have hr1 : ∀ o, Row ((w.alloc o).alloc (.cells (laneCells (List.replicate 25 0)).toArray 71)) (n0 + 1) 71 (laneCells (List.replicate 25 0)) := fun o => Row.new_ (by rw [asz, hn0]) rfl
 have hb2 : ∀ o o2, Below n0 w ((w.alloc o).alloc o2) := fun o o2 => ((Below.refl n0 w).alloc (by omega) o).alloc (by rw [asz]; omega) o2
 go_enter Tryd.func94, Tryd.ntmps94
 refine wp_seq_k (fun K hK => ?_)
 refine wp_region_list ?_
 refine wl_valueW (.pointer (some ⟨w.heap.size, 0, none⟩)) (w.alloc (.cells (laneCells l).toArray 71)) rfl (by kernel_rfl) ?_
 refine wl_valueW (.pointer (some ⟨(w.alloc (.cells (laneCells l).toArray 71)).heap.size, 0, none⟩)) ((w.alloc (.cells (laneCells l).toArray 71)).alloc (.cells (laneCells (List.replicate 25 0)).toArray 71)) rfl (by kernel_rfl) ?_
 refine wpList_nil (hK _ _ ?_)
 clear hK K
 simp only [Act.put, arr9, hd9, tl9]
 rw [asz, hn0]
 have hrA := hr0 (.cells (laneCells (List.replicate 25 0)).toArray 71)
 have hrB := hr1 (.cells (laneCells l).toArray 71)
 have hbB := hb2 (.cells (laneCells l).toArray 71) (.cells (laneCells (List.replicate 25 0)).toArray 71)
 generalize (w.alloc (.cells (laneCells l).toArray 71)).alloc (.cells (laneCells (List.replicate 25 0)).toArray 71) = W at *
 clear hr0 hr1 hb2
 have hc0 := fun k (h : k < 25) => ((hrA.cell k).trans (laneCells_lane l k (by omega)))
 have c0 := hc0 0 (by decide)
 have c1 := hc0 1 (by decide)
 have c2 := hc0 2 (by decide)
 have c3 := hc0 3 (by decide)
 have c4 := hc0 4 (by decide)
 have c5 := hc0 5 (by decide)
 have c6 := hc0 6 (by decide)
 have c7 := hc0 7 (by decide)
 have c8 := hc0 8 (by decide)
 have c9 := hc0 9 (by decide)
 have c10 := hc0 10 (by decide)
 have c11 := hc0 11 (by decide)
 have c12 := hc0 12 (by decide)
 have c13 := hc0 13 (by decide)
 have c14 := hc0 14 (by decide)
 have c15 := hc0 15 (by decide)
 have c16 := hc0 16 (by decide)
 have c17 := hc0 17 (by decide)
 have c18 := hc0 18 (by decide)
 have c19 := hc0 19 (by decide)
 have c20 := hc0 20 (by decide)
 have c21 := hc0 21 (by decide)
 have c22 := hc0 22 (by decide)
 have c23 := hc0 23 (by decide)
 have c24 := hc0 24 (by decide)
 clear hc0
 refine wp_seq_k (fun K hK => ?_)
 refine wp_region_list ?_
 refine wl_value (.pointer (some ⟨n0, 0, none⟩)) rfl (by kernel_rfl) ?_
 refine wl_value (.int .u64 ((lane l 0).toNat : Int)) rfl (run_load1 rfl Tryd.underlying70 (by kernel_rfl) c0) ?_
 refine wl_value (.pointer (some ⟨n0, 5, none⟩)) rfl (by kernel_rfl) ?_
 refine wl_value (.int .u64 ((lane l 5).toNat : Int)) rfl (run_load1 rfl Tryd.underlying70 (by kernel_rfl) c5) ?_
 refine wl_value (.int .u64 ((lane l 0 ^^^ lane l 5).toNat : Int)) rfl (run_xorL (p := lane l 0) (q := lane l 5) rfl (by kernel_rfl) (by kernel_rfl)) ?_
 refine wl_value (.pointer (some ⟨n0, 10, none⟩)) rfl (by kernel_rfl) ?_
 refine wl_value (.int .u64 ((lane l 10).toNat : Int)) rfl (run_load1 rfl Tryd.underlying70 (by kernel_rfl) c10) ?_
 refine wl_value (.int .u64 ((lane l 0 ^^^ lane l 5 ^^^ lane l 10).toNat : Int)) rfl (run_xorL (p := lane l 0 ^^^ lane l 5) (q := lane l 10) rfl (by kernel_rfl) (by kernel_rfl)) ?_
 refine wl_value (.pointer (some ⟨n0, 15, none⟩)) rfl (by kernel_rfl) ?_
 refine wl_value (.int .u64 ((lane l 15).toNat : Int)) rfl (run_load1 rfl Tryd.underlying70 (by kernel_rfl) c15) ?_
 refine wl_value (.int .u64 ((lane l 0 ^^^ lane l 5 ^^^ lane l 10 ^^^ lane l 15).toNat : Int)) rfl (run_xorL (p := lane l 0 ^^^ lane l 5 ^^^ lane l 10) (q := lane l 15) rfl (by kernel_rfl) (by kernel_rfl)) ?_
 refine wl_value (.pointer (some ⟨n0, 20, none⟩)) rfl (by kernel_rfl) ?_
 refine wl_value (.int .u64 ((lane l 20).toNat : Int)) rfl (run_load1 rfl Tryd.underlying70 (by kernel_rfl) c20) ?_
 refine wl_value (.int .u64 ((lane l 0 ^^^ lane l 5 ^^^ lane l 10 ^^^ lane l 15 ^^^ lane l 20).toNat : Int)) rfl (run_xorL (p := lane l 0 ^^^ lane l 5 ^^^ lane l 10 ^^^ lane l 15) (q := lane l 20) rfl (by kernel_rfl) (by kernel_rfl)) ?_
 refine wl_value (.int .u64 ((colX l 0).toNat : Int)) rfl (by kernel_rfl) ?_
 refine wpList_nil (hK _ _ ?_)
 clear hK K
 simp only [Act.put, arr9, hd9, tl9]
 refine wp_seq_k (fun K hK => ?_)
 refine wp_region_list ?_
 refine wl_value (.pointer (some ⟨n0, 1, none⟩)) rfl (by kernel_rfl) ?_
 refine wl_value (.int .u64 ((lane l 1).toNat : Int)) rfl (run_load1 rfl Tryd.underlying70 (by kernel_rfl) c1) ?_
 refine wl_value (.pointer (some ⟨n0, 6, none⟩)) rfl (by kernel_rfl) ?_
 refine wl_value (.int .u64 ((lane l 6).toNat : Int)) rfl (run_load1 rfl Tryd.underlying70 (by kernel_rfl) c6) ?_
 refine wl_value (.int .u64 ((lane l 1 ^^^ lane l 6).toNat : Int)) rfl (run_xorL (p := lane l 1) (q := lane l 6) rfl (by kernel_rfl) (by kernel_rfl)) ?_
 refine wl_value (.pointer (some ⟨n0, 11, none⟩)) rfl (by kernel_rfl) ?_
 refine wl_value (.int .u64 ((lane l 11).toNat : Int)) rfl (run_load1 rfl Tryd.underlying70 (by kernel_rfl) c11) ?_
 refine wl_value (.int .u64 ((lane l 1 ^^^ lane l 6 ^^^ lane l 11).toNat : Int)) rfl (run_xorL (p := lane l 1 ^^^ lane l 6) (q := lane l 11) rfl (by kernel_rfl) (by kernel_rfl)) ?_
 refine wl_value (.pointer (some ⟨n0, 16, none⟩)) rfl (by kernel_rfl) ?_
 refine wl_value (.int .u64 ((lane l 16).toNat : Int)) rfl (run_load1 rfl Tryd.underlying70 (by kernel_rfl) c16) ?_
 refine wl_value (.int .u64 ((lane l 1 ^^^ lane l 6 ^^^ lane l 11 ^^^ lane l 16).toNat : Int)) rfl (run_xorL (p := lane l 1 ^^^ lane l 6 ^^^ lane l 11) (q := lane l 16) rfl (by kernel_rfl) (by kernel_rfl)) ?_
 refine wl_value (.pointer (some ⟨n0, 21, none⟩)) rfl (by kernel_rfl) ?_
 refine wl_value (.int .u64 ((lane l 21).toNat : Int)) rfl (run_load1 rfl Tryd.underlying70 (by kernel_rfl) c21) ?_
 refine wl_value (.int .u64 ((lane l 1 ^^^ lane l 6 ^^^ lane l 11 ^^^ lane l 16 ^^^ lane l 21).toNat : Int)) rfl (run_xorL (p := lane l 1 ^^^ lane l 6 ^^^ lane l 11 ^^^ lane l 16) (q := lane l 21) rfl (by kernel_rfl) (by kernel_rfl)) ?_
 refine wl_value (.int .u64 ((colX l 1).toNat : Int)) rfl (by kernel_rfl) ?_
 refine wpList_nil (hK _ _ ?_)
 clear hK K
 simp only [Act.put, arr9, hd9, tl9]
 refine wp_seq_k (fun K hK => ?_)
 refine wp_region_list ?_
 refine wl_value (.pointer (some ⟨n0, 2, none⟩)) rfl (by kernel_rfl) ?_
 refine wl_value (.int .u64 ((lane l 2).toNat : Int)) rfl (run_load1 rfl Tryd.underlying70 (by kernel_rfl) c2) ?_
 refine wl_value (.pointer (some ⟨n0, 7, none⟩)) rfl (by kernel_rfl) ?_
 refine wl_value (.int .u64 ((lane l 7).toNat : Int)) rfl (run_load1 rfl Tryd.underlying70 (by kernel_rfl) c7) ?_
 refine wl_value (.int .u64 ((lane l 2 ^^^ lane l 7).toNat : Int)) rfl (run_xorL (p := lane l 2) (q := lane l 7) rfl (by kernel_rfl) (by kernel_rfl)) ?_
 refine wl_value (.pointer (some ⟨n0, 12, none⟩)) rfl (by kernel_rfl) ?_
 refine wl_value (.int .u64 ((lane l 12).toNat : Int)) rfl (run_load1 rfl Tryd.underlying70 (by kernel_rfl) c12) ?_
 refine wl_value (.int .u64 ((lane l 2 ^^^ lane l 7 ^^^ lane l 12).toNat : Int)) rfl (run_xorL (p := lane l 2 ^^^ lane l 7) (q := lane l 12) rfl (by kernel_rfl) (by kernel_rfl)) ?_
 refine wl_value (.pointer (some ⟨n0, 17, none⟩)) rfl (by kernel_rfl) ?_
 refine wl_value (.int .u64 ((lane l 17).toNat : Int)) rfl (run_load1 rfl Tryd.underlying70 (by kernel_rfl) c17) ?_
 refine wl_value (.int .u64 ((lane l 2 ^^^ lane l 7 ^^^ lane l 12 ^^^ lane l 17).toNat : Int)) rfl (run_xorL (p := lane l 2 ^^^ lane l 7 ^^^ lane l 12) (q := lane l 17) rfl (by kernel_rfl) (by kernel_rfl)) ?_
 refine wl_value (.pointer (some ⟨n0, 22, none⟩)) rfl (by kernel_rfl) ?_
 refine wl_value (.int .u64 ((lane l 22).toNat : Int)) rfl (run_load1 rfl Tryd.underlying70 (by kernel_rfl) c22) ?_
 refine wl_value (.int .u64 ((lane l 2 ^^^ lane l 7 ^^^ lane l 12 ^^^ lane l 17 ^^^ lane l 22).toNat : Int)) rfl (run_xorL (p := lane l 2 ^^^ lane l 7 ^^^ lane l 12 ^^^ lane l 17) (q := lane l 22) rfl (by kernel_rfl) (by kernel_rfl)) ?_
 refine wl_value (.int .u64 ((colX l 2).toNat : Int)) rfl (by kernel_rfl) ?_
 refine wpList_nil (hK _ _ ?_)
 clear hK K
 simp only [Act.put, arr9, hd9, tl9]
 refine wp_seq_k (fun K hK => ?_)
 refine wp_region_list ?_
 refine wl_value (.pointer (some ⟨n0, 3, none⟩)) rfl (by kernel_rfl) ?_
 refine wl_value (.int .u64 ((lane l 3).toNat : Int)) rfl (run_load1 rfl Tryd.underlying70 (by kernel_rfl) c3) ?_
 refine wl_value (.pointer (some ⟨n0, 8, none⟩)) rfl (by kernel_rfl) ?_
 refine wl_value (.int .u64 ((lane l 8).toNat : Int)) rfl (run_load1 rfl Tryd.underlying70 (by kernel_rfl) c8) ?_
 refine wl_value (.int .u64 ((lane l 3 ^^^ lane l 8).toNat : Int)) rfl (run_xorL (p := lane l 3) (q := lane l 8) rfl (by kernel_rfl) (by kernel_rfl)) ?_
 refine wl_value (.pointer (some ⟨n0, 13, none⟩)) rfl (by kernel_rfl) ?_
 refine wl_value (.int .u64 ((lane l 13).toNat : Int)) rfl (run_load1 rfl Tryd.underlying70 (by kernel_rfl) c13) ?_
 refine wl_value (.int .u64 ((lane l 3 ^^^ lane l 8 ^^^ lane l 13).toNat : Int)) rfl (run_xorL (p := lane l 3 ^^^ lane l 8) (q := lane l 13) rfl (by kernel_rfl) (by kernel_rfl)) ?_
 refine wl_value (.pointer (some ⟨n0, 18, none⟩)) rfl (by kernel_rfl) ?_
 refine wl_value (.int .u64 ((lane l 18).toNat : Int)) rfl (run_load1 rfl Tryd.underlying70 (by kernel_rfl) c18) ?_
 refine wl_value (.int .u64 ((lane l 3 ^^^ lane l 8 ^^^ lane l 13 ^^^ lane l 18).toNat : Int)) rfl (run_xorL (p := lane l 3 ^^^ lane l 8 ^^^ lane l 13) (q := lane l 18) rfl (by kernel_rfl) (by kernel_rfl)) ?_
 refine wl_value (.pointer (some ⟨n0, 23, none⟩)) rfl (by kernel_rfl) ?_
 refine wl_value (.int .u64 ((lane l 23).toNat : Int)) rfl (run_load1 rfl Tryd.underlying70 (by kernel_rfl) c23) ?_
 refine wl_value (.int .u64 ((lane l 3 ^^^ lane l 8 ^^^ lane l 13 ^^^ lane l 18 ^^^ lane l 23).toNat : Int)) rfl (run_xorL (p := lane l 3 ^^^ lane l 8 ^^^ lane l 13 ^^^ lane l 18) (q := lane l 23) rfl (by kernel_rfl) (by kernel_rfl)) ?_
 refine wl_value (.int .u64 ((colX l 3).toNat : Int)) rfl (by kernel_rfl) ?_
 refine wpList_nil (hK _ _ ?_)
 clear hK K
 simp only [Act.put, arr9, hd9, tl9]
 refine wp_seq_k (fun K hK => ?_)
 refine wp_region_list ?_
 refine wl_value (.pointer (some ⟨n0, 4, none⟩)) rfl (by kernel_rfl) ?_
 refine wl_value (.int .u64 ((lane l 4).toNat : Int)) rfl (run_load1 rfl Tryd.underlying70 (by kernel_rfl) c4) ?_
 refine wl_value (.pointer (some ⟨n0, 9, none⟩)) rfl (by kernel_rfl) ?_
 refine wl_value (.int .u64 ((lane l 9).toNat : Int)) rfl (run_load1 rfl Tryd.underlying70 (by kernel_rfl) c9) ?_
 refine wl_value (.int .u64 ((lane l 4 ^^^ lane l 9).toNat : Int)) rfl (run_xorL (p := lane l 4) (q := lane l 9) rfl (by kernel_rfl) (by kernel_rfl)) ?_
 refine wl_value (.pointer (some ⟨n0, 14, none⟩)) rfl (by kernel_rfl) ?_
 refine wl_value (.int .u64 ((lane l 14).toNat : Int)) rfl (run_load1 rfl Tryd.underlying70 (by kernel_rfl) c14) ?_
 refine wl_value (.int .u64 ((lane l 4 ^^^ lane l 9 ^^^ lane l 14).toNat : Int)) rfl (run_xorL (p := lane l 4 ^^^ lane l 9) (q := lane l 14) rfl (by kernel_rfl) (by kernel_rfl)) ?_
 refine wl_value (.pointer (some ⟨n0, 19, none⟩)) rfl (by kernel_rfl) ?_
 refine wl_value (.int .u64 ((lane l 19).toNat : Int)) rfl (run_load1 rfl Tryd.underlying70 (by kernel_rfl) c19) ?_
 refine wl_value (.int .u64 ((lane l 4 ^^^ lane l 9 ^^^ lane l 14 ^^^ lane l 19).toNat : Int)) rfl (run_xorL (p := lane l 4 ^^^ lane l 9 ^^^ lane l 14) (q := lane l 19) rfl (by kernel_rfl) (by kernel_rfl)) ?_
 refine wl_value (.pointer (some ⟨n0, 24, none⟩)) rfl (by kernel_rfl) ?_
 refine wl_value (.int .u64 ((lane l 24).toNat : Int)) rfl (run_load1 rfl Tryd.underlying70 (by kernel_rfl) c24) ?_
 refine wl_value (.int .u64 ((lane l 4 ^^^ lane l 9 ^^^ lane l 14 ^^^ lane l 19 ^^^ lane l 24).toNat : Int)) rfl (run_xorL (p := lane l 4 ^^^ lane l 9 ^^^ lane l 14 ^^^ lane l 19) (q := lane l 24) rfl (by kernel_rfl) (by kernel_rfl)) ?_
 refine wl_value (.int .u64 ((colX l 4).toNat : Int)) rfl (by kernel_rfl) ?_
 refine wpList_nil (hK _ _ ?_)
 clear hK K
 simp only [Act.put, arr9, hd9, tl9]
 refine wp_seq_k (fun K hK => ?_)
 refine wp_region_list ?_
 refine wl_value (.int .u64 ((colX l 4).toNat : Int)) rfl (by kernel_rfl) ?_
 refine wl_value (.int .u64 ((colX l 1).toNat : Int)) rfl (by kernel_rfl) ?_
 refine wl_call 98 #[.int .u64 ((colX l 1).toNat : Int), .int .i64 1] (.int .u64 ((rotl (colX l 1) 1).toNat : Int)) rfl (by kernel_rfl) (left_any (colX l 1) 1 (by decide) _) ?_
 refine wl_value (.int .u64 ((colX l 4 ^^^ rotl (colX l 1) 1).toNat : Int)) rfl (run_xorL (p := colX l 4) (q := rotl (colX l 1) 1) rfl (by kernel_rfl) (by kernel_rfl)) ?_
 refine wl_value (.int .u64 ((d0L l).toNat : Int)) rfl (by kernel_rfl) ?_
 refine wpList_nil (hK _ _ ?_)
 clear hK K
 simp only [Act.put, arr9, hd9, tl9]
 refine wp_seq_k (fun K hK => ?_)
 refine wp_region_list ?_
 refine wl_value (.int .u64 ((colX l 0).toNat : Int)) rfl (by kernel_rfl) ?_
 refine wl_value (.int .u64 ((colX l 2).toNat : Int)) rfl (by kernel_rfl) ?_
 refine wl_call 98 #[.int .u64 ((colX l 2).toNat : Int), .int .i64 1] (.int .u64 ((rotl (colX l 2) 1).toNat : Int)) rfl (by kernel_rfl) (left_any (colX l 2) 1 (by decide) _) ?_
 refine wl_value (.int .u64 ((colX l 0 ^^^ rotl (colX l 2) 1).toNat : Int)) rfl (run_xorL (p := colX l 0) (q := rotl (colX l 2) 1) rfl (by kernel_rfl) (by kernel_rfl)) ?_
 refine wl_value (.int .u64 ((d1L l).toNat : Int)) rfl (by kernel_rfl) ?_
 refine wpList_nil (hK _ _ ?_)
 clear hK K
 simp only [Act.put, arr9, hd9, tl9]
 refine wp_seq_k (fun K hK => ?_)
 refine wp_region_list ?_
 refine wl_value (.int .u64 ((colX l 1).toNat : Int)) rfl (by kernel_rfl) ?_
 refine wl_value (.int .u64 ((colX l 3).toNat : Int)) rfl (by kernel_rfl) ?_
 refine wl_call 98 #[.int .u64 ((colX l 3).toNat : Int), .int .i64 1] (.int .u64 ((rotl (colX l 3) 1).toNat : Int)) rfl (by kernel_rfl) (left_any (colX l 3) 1 (by decide) _) ?_
 refine wl_value (.int .u64 ((colX l 1 ^^^ rotl (colX l 3) 1).toNat : Int)) rfl (run_xorL (p := colX l 1) (q := rotl (colX l 3) 1) rfl (by kernel_rfl) (by kernel_rfl)) ?_
 refine wl_value (.int .u64 ((d2L l).toNat : Int)) rfl (by kernel_rfl) ?_
 refine wpList_nil (hK _ _ ?_)
 clear hK K
 simp only [Act.put, arr9, hd9, tl9]
 refine wp_seq_k (fun K hK => ?_)
 refine wp_region_list ?_
 refine wl_value (.int .u64 ((colX l 2).toNat : Int)) rfl (by kernel_rfl) ?_
 refine wl_value (.int .u64 ((colX l 4).toNat : Int)) rfl (by kernel_rfl) ?_
 refine wl_call 98 #[.int .u64 ((colX l 4).toNat : Int), .int .i64 1] (.int .u64 ((rotl (colX l 4) 1).toNat : Int)) rfl (by kernel_rfl) (left_any (colX l 4) 1 (by decide) _) ?_
 refine wl_value (.int .u64 ((colX l 2 ^^^ rotl (colX l 4) 1).toNat : Int)) rfl (run_xorL (p := colX l 2) (q := rotl (colX l 4) 1) rfl (by kernel_rfl) (by kernel_rfl)) ?_
 refine wl_value (.int .u64 ((d3L l).toNat : Int)) rfl (by kernel_rfl) ?_
 refine wpList_nil (hK _ _ ?_)
 clear hK K
 simp only [Act.put, arr9, hd9, tl9]
 refine wp_seq_k (fun K hK => ?_)
 refine wp_region_list ?_
 refine wl_value (.int .u64 ((colX l 3).toNat : Int)) rfl (by kernel_rfl) ?_
 refine wl_value (.int .u64 ((colX l 0).toNat : Int)) rfl (by kernel_rfl) ?_
 refine wl_call 98 #[.int .u64 ((colX l 0).toNat : Int), .int .i64 1] (.int .u64 ((rotl (colX l 0) 1).toNat : Int)) rfl (by kernel_rfl) (left_any (colX l 0) 1 (by decide) _) ?_
 refine wl_value (.int .u64 ((colX l 3 ^^^ rotl (colX l 0) 1).toNat : Int)) rfl (run_xorL (p := colX l 3) (q := rotl (colX l 0) 1) rfl (by kernel_rfl) (by kernel_rfl)) ?_
 refine wl_value (.int .u64 ((d4L l).toNat : Int)) rfl (by kernel_rfl) ?_
 refine wpList_nil (hK _ _ ?_)
 clear hK K
 simp only [Act.put, arr9, hd9, tl9]
 refine wp_seq_k (fun K hK => ?_)
 have hrD := hrB.drew
 have hbD := hbB.drew
 replace hrA := hrA.drew
 have hX := hrA.range
 clear hrB hbB c0 c1 c2 c3 c4 c5 c6 c7 c8 c9 c10 c11 c12 c13 c14 c15 c16 c17 c18 c19 c20 c21 c22 c23 c24
 refine wp_region_held_drew (S := fun w' => w'.rangeAt n0 0 (laneCells l)) (by kernel_rfl) hX (fun _ => ?_)
 generalize W.drew = X at *
 refine mixC0 l hl n0 X _ (fun _ _ d _ _ h => by cases d <;> exact h) hX ?_
 refine mixC1 l hl n0 X _ (fun _ _ d _ _ h => by cases d <;> exact h) hX ?_
 refine mixC2 l hl n0 X _ (fun _ _ d _ _ h => by cases d <;> exact h) hX ?_
 refine mixC3 l hl n0 X _ (fun _ _ d _ _ h => by cases d <;> exact h) hX ?_
 refine mixC4 l hl n0 X _ (fun _ _ d _ _ h => by cases d <;> exact h) hX ?_
 refine mixC5 l hl n0 X _ (fun _ _ d _ _ h => by cases d <;> exact h) hX ?_
 refine mixC6 l hl n0 X _ (fun _ _ d _ _ h => by cases d <;> exact h) hX ?_
 refine mixC7 l hl n0 X _ (fun _ _ d _ _ h => by cases d <;> exact h) hX ?_
 unfold mixS8
 simp only [mixP, R6, R6.go, List.replicate, List.cons_append, List.nil_append]
 refine held_one 125 (by kernel_rfl) ?_
 refine step_storeRow 125 71 (.tmp 2) (.tmp 227) (by kernel_rfl) (by kernel_rfl) (n0 + 1) (by kernel_rfl) (laneCells (mixL l)) (by kernel_rfl) _ _ hrD (info_l25.trans (size_lanes _ _ rfl)) rfl (cell_oneLane _) ?_
 intro Y hrC bY _
 refine ⟨(bY.row hrA (by have := hrA.lt; omega) (by omega)).range, ?_⟩
 have hbC : Below n0 w Y := hbD.trans (bY.under (Nat.le_of_lt (Nat.lt_trans (Nat.lt_succ_self n0) hrD.lt)) (by omega))
 refine wpAnyH_done (by kernel_rfl) (hK _ _ ?_) _
 clear hK K
 go_wp2
 exact ret_row Tryd.results94 rfl rfl hrC Tryd.underlying71 rfl (info_l25.trans (size_lanes _ _ rfl)) ⟨rfl, hbC⟩
end Go.Proofs.YtbjpbeplpljieaaDoor


/-
 THE SPONGE IN MEMORY: 27 cells from place o of a block on: lanes, rate, place.
-/
namespace Go.Proofs.YtbjpbeplpljieaaDoor
open Go.RowKit
set_option maxRecDepth 100000

def spCells (pre : List Value) (s : Sp) (rate : Nat) (post : List Value) : List Value := pre ++ (laneCells s.l ++ (.int .i64 (rate : Int) :: .int .i64 (s.at_ : Int) :: post))
/-- block g holds just: o cells pre, the sponge s with that rate, the cells post -/
structure SpAt (w : World) (g o : Nat) (T : TypeId) (pre : List Value) (s : Sp) (rate : Nat) (post : List Value) : Prop where
 row : Row w g T (spCells pre s rate post)
 pre : pre.length = o
 len : s.l.length = 25
section
variable {w w' : World} {g o : Nat} {T : TypeId} {pre post : List Value} {s : Sp} {rate : Nat}
theorem spCells_lane (hp : pre.length = o) (hl : s.l.length = 25) (k : Nat) (hk : k < 25) : (spCells pre s rate post)[o + k]? = some (.int .u64 ((lane s.l k).toNat : Int)) := by
 unfold spCells
 rw [List.getElem?_append_right (by omega), show o + k - pre.length = k by omega, List.getElem?_append_left (by rw [laneCells_length]; omega), laneCells_lane _ _ (by omega)]
theorem spCells_rate (hp : pre.length = o) (hl : s.l.length = 25) : (spCells pre s rate post)[o + 25]? = some (.int .i64 (rate : Int)) := by
 unfold spCells
 rw [List.getElem?_append_right (by omega), show o + 25 - pre.length = 25 by omega, List.getElem?_append_right (by rw [laneCells_length]; omega), laneCells_length, hl]
 rfl
theorem spCells_at (hp : pre.length = o) (hl : s.l.length = 25) : (spCells pre s rate post)[o + 26]? = some (.int .i64 (s.at_ : Int)) := by
 unfold spCells
 rw [List.getElem?_append_right (by omega), show o + 26 - pre.length = 26 by omega, List.getElem?_append_right (by rw [laneCells_length]; omega), laneCells_length, hl]
 rfl
theorem spCells_setLane (hp : pre.length = o) (hl : s.l.length = 25) (k : Nat) (hk : k < 25) (x : UInt64) : (spCells pre s rate post).set (o + k) (.int .u64 (x.toNat : Int)) = spCells pre ⟨s.l.set k x, s.at_⟩ rate post := by
 unfold spCells
 rw [List.set_append_right _ _ (by omega), show o + k - pre.length = k by omega, List.set_append_left _ _ (by rw [laneCells_length]; omega), laneCells_set]
theorem spCells_setAt (hp : pre.length = o) (hl : s.l.length = 25) (n : Nat) : (spCells pre s rate post).set (o + 26) (.int .i64 (n : Int)) = spCells pre ⟨s.l, n⟩ rate post := by
 unfold spCells
 rw [List.set_append_right _ _ (by omega), show o + 26 - pre.length = 26 by omega, List.set_append_right _ _ (by rw [laneCells_length]; omega), laneCells_length, hl]
 rfl
theorem spCells_length : (spCells pre s rate post).length = pre.length + (s.l.length + (2 + post.length)) := by
 simp only [spCells, List.length_append, laneCells_length, List.length_cons]
 omega
theorem spCells_over (hp : pre.length = o) (hl : s.l.length = 25) (l : List UInt64) (h : l.length = 25) : over (spCells pre s rate post) o (laneCells l) = spCells pre ⟨l, s.at_⟩ rate post := by
 rw [over_eq _ _ _ (by rw [spCells_length, laneCells_length]; omega), laneCells_length, h]
 unfold spCells
 rw [List.take_left' hp, List.append_assoc, ← List.drop_drop, List.drop_left' hp, List.drop_left' (by rw [laneCells_length, hl])]
theorem SpAt.lane_cell (h : SpAt w g o T pre s rate post) (k : Nat) (hk : k < 25) : w.cell? ⟨g, o + k, none⟩ = some (.int .u64 ((lane s.l k).toNat : Int)) := (h.row.cell _).trans (spCells_lane h.pre h.len k hk)
theorem SpAt.rate_cell (h : SpAt w g o T pre s rate post) : w.cell? ⟨g, o + 25, none⟩ = some (.int .i64 (rate : Int)) := (h.row.cell _).trans (spCells_rate h.pre h.len)
theorem SpAt.at_cell (h : SpAt w g o T pre s rate post) : w.cell? ⟨g, o + 26, none⟩ = some (.int .i64 (s.at_ : Int)) := (h.row.cell _).trans (spCells_at h.pre h.len)
theorem SpAt.free (h : SpAt w g o T pre s rate post) (k : Nat) : w.frozen? ⟨g, k, none⟩ = false := h.row.free k
theorem SpAt.lt (h : SpAt w g o T pre s rate post) : g < w.heap.size := h.row.lt
theorem SpAt.lanes (h : SpAt w g o T pre s rate post) : w.rangeAt g o (laneCells s.l) := fun j v hv => by
 have hj : j < 25 := by
  rcases Nat.lt_or_ge j 25 with hj | hj
  ·exact hj
  ·rw [List.getElem?_eq_none (by rw [laneCells_length, h.len]; exact hj)] at hv; cases hv
 rw [laneCells_lane _ _ (by rw [h.len]; exact hj)] at hv
 rw [h.lane_cell j hj, hv]
theorem SpAt.there (h : SpAt w g o T pre s rate post) (n : Nat) (hn : n = 25) : w.there g o n := h.row.there o n (by rw [spCells_length, h.pre, h.len]; omega)
theorem SpAt.setAt (h : SpAt w g o T pre s rate post) (n : Nat) : SpAt (w.setCell ⟨g, o + 26, none⟩ (.int .i64 (n : Int))) g o T pre ⟨s.l, n⟩ rate post :=
 ⟨(congrArg (Row _ g T) (spCells_setAt h.pre h.len n)).mp (h.row.set_ _ _), h.pre, h.len⟩
theorem SpAt.setLane (h : SpAt w g o T pre s rate post) (k : Nat) (hk : k < 25) (x : UInt64) : SpAt (w.setCell ⟨g, o + k, none⟩ (.int .u64 (x.toNat : Int))) g o T pre ⟨s.l.set k x, s.at_⟩ rate post :=
 ⟨(congrArg (Row _ g T) (spCells_setLane h.pre h.len k hk x)).mp (h.row.set_ _ _), h.pre, (List.length_set).trans h.len⟩
theorem SpAt.setLanes (h : SpAt w g o T pre s rate post) (l : List UInt64) (hl : l.length = 25) : SpAt (w.setCells g o (laneCells l)) g o T pre ⟨l, s.at_⟩ rate post :=
 ⟨(congrArg (Row _ g T) (spCells_over h.pre h.len l hl)).mp (h.row.setCells (laneCells l) o), h.pre, hl⟩
theorem SpAt.below (h : SpAt w g o T pre s rate post) (hb : Below w.heap.size w w') : SpAt w' g o T pre s rate post := ⟨h.row.below hb h.lt, h.pre, h.len⟩
theorem SpAt.drew (h : SpAt w g o T pre s rate post) : SpAt w.drew g o T pre s rate post := ⟨h.row, h.pre, h.len⟩
theorem KVars.butG (h : KVars w) (hb : But w.heap.size g w w') (hg : 0 ≠ g) : KVars w' := fun k hk => (hb.cell (p := ⟨0, k, none⟩) h.pos hg).trans (h k hk)
end
/-- the place of the next byte is handed back; the sponge has gone on; nothing else has turned -/
def NextIs (w : World) (g o : Nat) (T : TypeId) (pre : List Value) (s : Sp) (rate : Nat) (post : List Value) (e : Ending) (w' : World) : Prop :=
 e = .returned (.int .i64 (((s.next rate).at_ - 1 : Nat) : Int)) ∧ SpAt w' g o T pre (s.next rate) rate post ∧ But w.heap.size g w w'
/-- nothing is handed back; the sponge has become s; nothing else has turned -/
def SpIs (w : World) (g o : Nat) (T : TypeId) (pre : List Value) (s : Sp) (rate : Nat) (post : List Value) (e : Ending) (w' : World) : Prop :=
 e = .returned (.tuple #[]) ∧ SpAt w' g o T pre s rate post ∧ But w.heap.size g w w'
theorem Sp.next_full (s : Sp) (rate : Nat) (h : s.at_ = rate) : s.next rate = ⟨permL s.l, 1⟩ := if_pos h
theorem Sp.next_more (s : Sp) (rate : Nat) (h : ¬ s.at_ = rate) : s.next rate = ⟨s.l, s.at_ + 1⟩ := if_neg h
end Go.Proofs.YtbjpbeplpljieaaDoor

/-
 WALK: (*keccak.sponge).next.
-/
namespace Go.Proofs.YtbjpbeplpljieaaDoor
open Go.RowKit
set_option maxRecDepth 100000

theorem But.setCells_ {a b : World} {B g : Nat} (vs : List Value) (o : Nat) (h : But B g a b) : But B g a (b.setCells g o vs) := h.setCells vs o
theorem size_setCells (g : Nat) : ∀ (vs : List Value) (o : Nat) {w : World}, (w.setCells g o vs).heap.size = w.heap.size
 | [], _, _ => rfl
 | v :: r, o, w => (size_setCells g r (o + 1) (w := w.setCell ⟨g, o, none⟩ v)).trans (by simp [World.setCell])
section
variable {P : Program} {ops : Array Oper} {rest : List Oper} {a : Act} {w : World} {Q : Exit → Act → World → Prop} {T : TypeId} {pre post : List Value} {s : Sp} {rate : Nat} {op : Oper}
theorem wpList_store_sp (hgd : op.guard = none) (ty : TypeId) (x y : Operand) (ho : op.op = .store ty x y) (g o : Nat) (hx : a.eval x = .pointer (some ⟨g, o, none⟩)) (l : List UInt64) (hy : a.eval y = .agg (laneCells l).toArray)
  (hs : SpAt w g o T pre s rate post) (hl : l.length = 25) (hi : (P.info? ty).map (·.size) = some 25)
  (h : ∀ w2, SpAt w2 g o T pre ⟨l, s.at_⟩ rate post → But w.heap.size g w w2 → w2.heap.size = w.heap.size → wpList P ops Q rest (a.put op.dst undef) w2) : wpList P ops Q (op :: rest) a w := by
 have hz : (laneCells l).toArray.size = 25 := by rw [List.size_toArray, laneCells_length, hl]
 refine wpList_store_mid hgd ty x y ho g o (laneCells l).toArray hx hy (hs.there _ hz) (hi.trans (congrArg some hz.symm)) (all_oneCell_toArray (cell_oneLane l)) ?_
 exact h _ (hs.setLanes l hl) ((But.refl _ g w).setCells _ _) (size_setCells _ _ _)
end
/-- Permute keeps its contract -/
def PermOk : Prop := ∀ (s : List UInt64) (w : World), s.length = 25 → KVars w → Calls Tryd.prog 87 #[.agg (laneCells s).toArray] w (LanesIs w (permL s))
theorem next_of (hP : PermOk) {w : World} {g o : Nat} {T : TypeId} {pre post : List Value} {s : Sp} {rate : Nat} (h : SpAt w g o T pre s rate post) (hv : KVars w) (ha : s.at_ ≤ rate) (hr2 : rate ≤ 200) :
  Calls Tryd.prog 70 #[.pointer (some ⟨g, o, none⟩)] w (NextIs w g o T pre s rate post) := by
 unfold NextIs
 have hlt := h.lt
 have hca := h.at_cell
 have hcr := h.rate_cell
 by_cases hc : s.at_ = rate
 ·obtain ⟨l, a⟩ := s
  rw [Sp.next_full _ _ hc]
  simp only at hc hca ha ⊢
  subst hc
  have hll : l.length = 25 := h.len
  have hpl := permL_length l hll
  go_enter Tryd.func70, Tryd.ntmps70
  go_wp2
  go_region
  go_wp2_with (first
   | refine wpList_load_mid rfl 71 (.tmp 15) rfl g o rfl (laneCells l) (.array 25 70) h.drew.lanes Tryd.underlying71 rfl (info_l25.trans (size_lanes _ _ hll)) ?_
   | (go_at_call 87; refine (hP l _ hll hv.drew).mono ?_))
  rintro e w1 ⟨rfl, hb⟩
  have h1 := h.drew.below hb
  have hb1 : But w.heap.size g w w1 := ((But.refl w.heap.size g w).drew).trans (show But w.heap.size g w.drew w1 from But.of hb g)
  clear h hca hcr hv hb
  go_wp2_with (refine wpList_store_sp rfl 71 (.tmp 19) (.tmp 17) rfl g o rfl (permL l) rfl h1 hpl info_l25 ?_)
  intro w2 h2 hb2 hz2
  have hb2 := hb1.trans (hb2.mono hb1.size)
  clear hb1 h1 hz2
  have hca := h2.at_cell
  have hfa := h2.free (o + 26)
  go_wp2
  go_ret
  exact ⟨rfl, (h2.setAt 0).setAt 1, (hb2.setCell _ _).setCell _ _⟩
 ·obtain ⟨l, a⟩ := s
  rw [Sp.next_more _ _ hc]
  simp only at hc hca ha ⊢
  have hfa := h.free (o + 26)
  go_enter Tryd.func70, Tryd.ntmps70
  go_wp2
  go_region
  go_wp2
  go_ret
  exact ⟨by simp, h.drew.setAt (a + 1), ((But.refl _ g w).drew).setCell _ _⟩
end Go.Proofs.YtbjpbeplpljieaaDoor

/-
 WALK: (*keccak.sponge).mask.
-/
namespace Go.Proofs.YtbjpbeplpljieaaDoor
open Go.RowKit
set_option maxRecDepth 100000

theorem run_index25o {a : Act} {x y : Operand} {op : Oper} (b o k : Nat) (hk : k < 25) (ho : op.op = .indexAddr 71 x y) (hx : a.eval x = .pointer (some ⟨b, o, none⟩)) (hy : a.eval y = .int .i64 (k : Int)) (w : World) :
  (execOp a.eval op).run Tryd.prog w = .ok (.value (.pointer (some ⟨b, o + k, none⟩))) w := by
 have h0 : (0 : Int) ≤ (k : Int) := by omega
 have h1 : (k : Int) < 25 := by omega
 unfold execOp
 simp only [ho, hx, hy]
 go_simp
theorem run_shlB {a : Act} {x y : Operand} {op : Oper} {t u : TypeId} (b : UInt8) (r : Nat) (hr : r < 64) (ho : op.op = .binOp .shl t x y u) (hx : a.eval x = .int .u64 (b.toNat : Int)) (hy : a.eval y = .int .i64 (r : Int)) (w : World) :
  (execOp a.eval op).run Tryd.prog w = .ok (.value (.int .u64 ((UInt64.ofNat (b.toNat * 2 ^ r)).toNat : Int))) w := by
 have h0 : (0 : Int) ≤ (r : Int) := by omega
 have h1 : (r : Int) < 64 := by omega
 have hn : ((r : Int)).toNat = r := by omega
 unfold execOp
 simp only [ho, hx, hy]
 clear hx hy ho
 generalize hq : (2 : Nat) ^ r = q
 simp [go_sem, hn]
 all_goals
  rw [IntKind.wrap_u64, ← hq]
  simp
theorem mask_any {w : World} {g o : Nat} {T : TypeId} {pre post : List Value} {s : Sp} {rate : Nat} (h : SpAt w g o T pre s rate post) (p : Nat) (hp : p < 200) (b : UInt8) :
  Calls Tryd.prog 69 #[.pointer (some ⟨g, o, none⟩), .int .i64 (p : Int), .int .u8 (b.toNat : Int)] w (SpIs w g o T pre ⟨maskL s.l p b, s.at_⟩ rate post) := by
 unfold SpIs
 have hsh : ∀ v, Calls Tryd.prog 71 #[.int .i64 (p : Int)] v fun e w' => e = .returned (.int .i64 ((8 * (p % 8) : Nat) : Int)) ∧ w' = v := shift_any p
 have q1 : (p : Int).tdiv 8 = ((p / 8 : Nat) : Int) := rfl
 have q2 : (p : Int) / 8 = ((p / 8 : Nat) : Int) := rfl
 have hk : p / 8 < 25 := by omega
 have hmk : maskL s.l p b = s.l.set (p / 8) (lane s.l (p / 8) ^^^ UInt64.ofNat (b.toNat * 2 ^ (8 * (p % 8)))) := rfl
 have hr64 : 8 * (p % 8) < 64 := by omega
 have hb8 : b.toNat < 256 := b.toNat_lt
 have hwk : IntKind.i64.wrap (((p / 8 : Nat)) : Int) = ((p / 8 : Nat) : Int) := by rw [IntKind.wrap_i64]; omega
 have hw8 := wraps_u64 (b.toNat : Int) (by omega) (by omega)
 obtain ⟨k, hkk⟩ : ∃ k, Hid (k = p / 8) := ⟨_, Lib.hid rfl⟩
 obtain ⟨r, hrr⟩ : ∃ r, Hid (r = 8 * (p % 8)) := ⟨_, Lib.hid rfl⟩
 rw [← hkk.out] at q1 q2 hk hmk hwk
 rw [← hrr.out] at hsh hr64 hmk
 clear hkk hrr
 obtain ⟨z, hz⟩ : ∃ z, Hid (z = UInt64.ofNat (b.toNat * 2 ^ r)) := ⟨_, Lib.hid rfl⟩
 rw [← hz.out] at hmk
 rw [hmk]
 clear hmk
 replace h := h.drew
 have hX : But w.heap.size g w w.drew := (But.refl _ g w).drew
 go_enter Tryd.func69, Tryd.ntmps69
 go_wp2
 refine wp_region_held_drew (S := fun _ => True) (by kernel_rfl) trivial (fun _ => ?_)
 generalize w.drew = X at *
 refine hdv0 0 6 (.pointer (some ⟨g, o, none⟩)) (by rfl) trivial ?_
 refine hdv0 1 7 (.int .i64 (p : Int)) (by rfl) trivial ?_
 refine hdv 2 8 (.int .i64 (k : Int)) (by rfl) (fun w _ => by go_simp) trivial ?_
 refine hdv0 3 9 (.pointer (some ⟨g, o, none⟩)) (by rfl) trivial ?_
 refine hdv0 4 10 (.pointer (some ⟨g, o, none⟩)) (by rfl) trivial ?_
 refine hdv 5 11 (.pointer (some ⟨g, o + k, none⟩)) (by rfl) (fun w _ => run_index25o g o k hk rfl (by kernel_rfl) (by kernel_rfl) w) trivial ?_
 refine hdv0 7 13 (.int .u8 (b.toNat : Int)) (by rfl) trivial ?_
 refine hdv 8 14 (.int .u64 (b.toNat : Int)) (by rfl) (fun w _ => by go_simp) trivial ?_
 refine hdv0 9 15 (.int .i64 (p : Int)) (by rfl) trivial ?_
 refine hdv0 13 19 (.pointer (some ⟨g, o, none⟩)) (by rfl) trivial ?_
 refine hdv0 14 20 (.pointer (some ⟨g, o, none⟩)) (by rfl) trivial ?_
 refine held_two 6 10 (by kernel_rfl) ?_ ?_
 ·refine step_value 6 (Op.load 70 (Operand.tmp 11)) 70 (some 12) (.int .u64 ((lane s.l k).toNat : Int)) _ (by kernel_rfl) (by kernel_rfl) (run_load1 rfl Tryd.underlying70 (by kernel_rfl) (h.lane_cell k hk)) trivial ?_
  simp only [Act.put, arr9, hd9, tl9]
  refine held_call 10 (Op.call { callee := Callee.value (Operand.func 71), args := #[Operand.tmp 15], argTypes := #[3] }) 3 (some 16) 71 #[.int .i64 (p : Int)] (by kernel_rfl) (by kernel_rfl) (by kernel_rfl) (by kernel_rfl) ?_
  refine (hsh _).mono ?_
  rintro e w' ⟨rfl, hw'⟩
  obtain rfl : X = w' := hw'.symm
  refine ⟨_, rfl, trivial, ?_⟩
  simp only [Act.put, arr9, hd9, tl9]
  refine hdv 11 17 (.int .u64 (z.toNat : Int)) (by rfl) (fun w _ => by rw [hz.out]; exact run_shlB b r hr64 rfl (by kernel_rfl) (by kernel_rfl) w) trivial ?_
  refine hdv 12 18 (.int .u64 ((lane s.l k ^^^ z).toNat : Int)) (by rfl) (fun w _ => run_xorL (p := lane s.l k) (q := z) rfl (by kernel_rfl) (by kernel_rfl)) trivial ?_
  refine hdv 15 21 (.pointer (some ⟨g, o + k, none⟩)) (by rfl) (fun w _ => run_index25o g o k hk rfl (by kernel_rfl) (by kernel_rfl) w) trivial ?_
  refine held_one 16 (by kernel_rfl) ?_
  refine step_store1 16 (Op.store 70 (Operand.tmp 21) (Operand.tmp 18)) (by kernel_rfl) (by kernel_rfl) (X.setCell ⟨g, o + k, none⟩ (.int .u64 ((lane s.l k ^^^ z).toNat : Int))) (run_store64 (lane s.l k ^^^ z) g (o + k) rfl (by kernel_rfl) (by kernel_rfl) (h.lane_cell k hk) (h.free _)) ⟨trivial, ?_⟩
  refine wpAnyH_done (by kernel_rfl) ?_ _
  have hfin := h.setLane k hk (lane s.l k ^^^ z)
  have hbf := hX.setCell (o + k) (.int .u64 ((lane s.l k ^^^ z).toNat : Int))
  generalize X.setCell ⟨g, o + k, none⟩ (.int .u64 ((lane s.l k ^^^ z).toNat : Int)) = Y at *
  go_wp2
  go_end0
  exact ⟨rfl, hfin, hbf⟩
 ·refine step_call 10 (Op.call { callee := Callee.value (Operand.func 71), args := #[Operand.tmp 15], argTypes := #[3] }) 3 (some 16) 71 #[.int .i64 (p : Int)] (by kernel_rfl) (by kernel_rfl) (by kernel_rfl) ?_
  refine (hsh _).mono ?_
  rintro e w' ⟨rfl, hw'⟩
  obtain rfl : X = w' := hw'.symm
  refine ⟨_, rfl, trivial, ?_⟩
  simp only [Act.put, arr9, hd9, tl9]
  refine hdv 11 17 (.int .u64 (z.toNat : Int)) (by rfl) (fun w _ => by rw [hz.out]; exact run_shlB b r hr64 rfl (by kernel_rfl) (by kernel_rfl) w) trivial ?_
  refine held_one 6 (by kernel_rfl) ?_
  refine step_value 6 (Op.load 70 (Operand.tmp 11)) 70 (some 12) (.int .u64 ((lane s.l k).toNat : Int)) _ (by kernel_rfl) (by kernel_rfl) (run_load1 rfl Tryd.underlying70 (by kernel_rfl) (h.lane_cell k hk)) trivial ?_
  simp only [Act.put, arr9, hd9, tl9]
  refine hdv 12 18 (.int .u64 ((lane s.l k ^^^ z).toNat : Int)) (by rfl) (fun w _ => run_xorL (p := lane s.l k) (q := z) rfl (by kernel_rfl) (by kernel_rfl)) trivial ?_
  refine hdv 15 21 (.pointer (some ⟨g, o + k, none⟩)) (by rfl) (fun w _ => run_index25o g o k hk rfl (by kernel_rfl) (by kernel_rfl) w) trivial ?_
  refine held_one 16 (by kernel_rfl) ?_
  refine step_store1 16 (Op.store 70 (Operand.tmp 21) (Operand.tmp 18)) (by kernel_rfl) (by kernel_rfl) (X.setCell ⟨g, o + k, none⟩ (.int .u64 ((lane s.l k ^^^ z).toNat : Int))) (run_store64 (lane s.l k ^^^ z) g (o + k) rfl (by kernel_rfl) (by kernel_rfl) (h.lane_cell k hk) (h.free _)) ⟨trivial, ?_⟩
  refine wpAnyH_done (by kernel_rfl) ?_ _
  have hfin := h.setLane k hk (lane s.l k ^^^ z)
  have hbf := hX.setCell (o + k) (.int .u64 ((lane s.l k ^^^ z).toNat : Int))
  generalize X.setCell ⟨g, o + k, none⟩ (.int .u64 ((lane s.l k ^^^ z).toNat : Int)) = Y at *
  go_wp2
  go_end0
  exact ⟨rfl, hfin, hbf⟩
end Go.Proofs.YtbjpbeplpljieaaDoor

/-
 WALK: (*keccak.sponge).absorb.
-/
namespace Go.Proofs.YtbjpbeplpljieaaDoor
open Go.RowKit
set_option maxRecDepth 100000

theorem permOk : PermOk := fun s w hs hv => permute_of (fun l w h => mix_any l w h) s hs w hv
theorem next_any {w : World} {g o : Nat} {T : TypeId} {pre post : List Value} {s : Sp} {rate : Nat} (h : SpAt w g o T pre s rate post) (hv : KVars w) (ha : s.at_ ≤ rate) (hr2 : rate ≤ 200) :
  Calls Tryd.prog 70 #[.pointer (some ⟨g, o, none⟩)] w (NextIs w g o T pre s rate post) := next_of permOk h hv ha hr2

theorem Sp.next_at (s : Sp) (rate : Nat) (ha : s.at_ ≤ rate) (hr : 0 < rate) : 0 < (s.next rate).at_ ∧ (s.next rate).at_ ≤ rate := by
 by_cases hc : s.at_ = rate
 ·rw [Sp.next_full _ _ hc]; exact ⟨Nat.one_pos, hr⟩
 ·rw [Sp.next_more _ _ hc]; show 0 < s.at_ + 1 ∧ s.at_ + 1 ≤ rate; omega
theorem Sp.puts_at (rate : Nat) (hr : 0 < rate) (l : List UInt8) : ∀ s : Sp, s.at_ ≤ rate → (s.puts rate l).at_ ≤ rate := by
 induction l with
 | nil => intro s h; exact h
 | cons b r ih => intro s h; exact ih _ (s.next_at rate h hr).2
theorem Sp.puts_append (rate : Nat) (l m : List UInt8) : ∀ s : Sp, s.puts rate (l ++ m) = (s.puts rate l).puts rate m := by
 induction l with
 | nil => intro s; rfl
 | cons b r ih => intro s; exact ih _
theorem Sp.puts_take (rate : Nat) (s : Sp) (bs : List UInt8) (k : Nat) (h : k < bs.length) : s.puts rate (bs.take (k + 1)) = (s.puts rate (bs.take k)).put rate bs[k] := by
 rw [List.take_succ_eq_append_getElem h, Sp.puts_append]
 rfl

set_option maxHeartbeats 1000000 in
theorem absorb_any {w : World} {g o : Nat} {T : TypeId} {pre post : List Value} {s : Sp} {rate : Nat} (h : SpAt w g o T pre s rate post) (hv : KVars w) (hg : 0 ≠ g) (ha : s.at_ ≤ rate) (hr : 0 < rate) (hr2 : rate ≤ 200) (bs : List UInt8) (B : Nat) (v : Value) (hs : Sl w B v bs) (hB : B ≤ w.heap.size) (hof : Off g v) :
  Calls Tryd.prog 68 #[.pointer (some ⟨g, o, none⟩), v] w (SpIs w g o T pre (s.puts rate bs) rate post) := by
 unfold SpIs
 obtain ⟨A, c, hA, hc1, hc2, -⟩ := id hs
 have hmx := Nat.le_trans hc1 hc2
 unfold maxLen at hmx
 subst hA
 go_enter Tryd.func68, Tryd.ntmps68
 go_wp2
 go_loopw [5, 8] (fun _ i wr => ∃ k : Nat, k ≤ bs.length ∧ i = .int .i64 k ∧ SpAt wr g o T pre (s.puts rate (bs.take k)) rate post ∧ KVars wr ∧ But w.heap.size g w wr) (fun _ i _ => bs.length - (intOf i).toNat)
 case atStart => exact ⟨0, Nat.zero_le _, rfl, h, hv, But.refl _ _ _⟩
 case round =>
  clear h hv
  obtain ⟨k, hk, rfl, hh, hv, hbut⟩ := hrel
  by_cases hlt : k < bs.length
  ·have hsr := hs.but hof (hbut.mono hB)
   obtain ⟨A', c', hA', -, -, hc⟩ := hsr
   cases hA'
   obtain ⟨b, off, rfl, hbB, hcc⟩ := hc (by omega)
   have hcell := hcc k hlt
   have HF := Lib.hid (Sp.puts_take rate s bs k hlt)
   have hat := Sp.puts_at rate hr (bs.take k) s ha
   clear hc hcc hs
   generalize bs[k] = bk at *
   generalize s.puts rate (bs.take k) = sk at *
   have hna := sk.next_at rate hat hr
   go_wp2_with (go_at_call 70; refine (next_any hh hv hat hr2).mono ?_)
   rintro e w1 ⟨rfl, hh1, hb1⟩
   go_wp2_with (go_at_call 69; refine (mask_any hh1 ((sk.next rate).at_ - 1) (by omega) bk).mono ?_)
   rintro e w2 ⟨rfl, hh2, hb2⟩
   go_wp2
   go_roundw
   case rel => exact ⟨k + 1, by omega, by go_num, by rw [HF.out]; exact hh2, (hv.but hb1 hg).but hb2 hg, (hbut.chain hb1).chain hb2⟩
   case measure => simp [intOf]; omega
  ·obtain rfl : k = bs.length := by omega
   rw [List.take_length] at hh
   go_wp2
   go_end0
   exact ⟨rfl, hh, hbut⟩
end Go.Proofs.YtbjpbeplpljieaaDoor

/-
 WALK: keccak.absorbed.
-/
namespace Go.Proofs.YtbjpbeplpljieaaDoor
open Go.RowKit
set_option maxRecDepth 100000

theorem info_sp : (Tryd.prog.info? 73).map (·.size) = some 27 := by kernel_rfl
/-- a sponge is handed back; nothing that was there has turned -/
def SpongeIs (w : World) (s : Sp) (rate : Nat) (e : Ending) (w' : World) : Prop := e = .returned (.agg (spCells [] s rate []).toArray) ∧ Below w.heap.size w w'
theorem sp_oneCell (s : Sp) (rate : Nat) : ∀ u ∈ spCells [] s rate [], u.oneCell' = true := by
 intro u hu
 simp only [spCells, List.nil_append, List.mem_append, List.mem_cons, List.not_mem_nil, or_false] at hu
 rcases hu with hu | rfl | rfl
 ·exact cell_oneLane _ u hu
 ·rfl
 ·rfl
theorem zero27 : (#[.int .u64 0, .int .u64 0, .int .u64 0, .int .u64 0, .int .u64 0, .int .u64 0, .int .u64 0, .int .u64 0, .int .u64 0, .int .u64 0, .int .u64 0, .int .u64 0, .int .u64 0, .int .u64 0, .int .u64 0, .int .u64 0, .int .u64 0, .int .u64 0, .int .u64 0, .int .u64 0, .int .u64 0, .int .u64 0, .int .u64 0, .int .u64 0, .int .u64 0, .int .i64 0, .int .i64 0] : Array Value) = (spCells [] ⟨zeroL, 0⟩ 0 []).toArray := by rfl
theorem zero_len : zeroL.length = 25 := rfl

theorem SpAt.of_row {w : World} {g : Nat} {T : TypeId} {s : Sp} {rate : Nat} (h : Row w g T (spCells [] s rate [])) (hl : s.l.length = 25) : SpAt w g 0 T [] s rate [] := ⟨h, rfl, hl⟩
theorem Sp.puts_flat (rate : Nat) (s : Sp) (bss : List (List UInt8)) (k : Nat) (h : k < bss.length) : s.puts rate (bss.take (k + 1)).flatten = (s.puts rate (bss.take k).flatten).puts rate bss[k] := by
 rw [List.take_succ_eq_append_getElem h, List.flatten_append, Sp.puts_append]
 simp only [List.flatten_cons, List.flatten_nil, List.append_nil]
theorem spCells_size (s : Sp) (rate : Nat) (h : s.l.length = 25) : some 27 = some (spCells [] s rate []).length := by rw [spCells_length, h]; rfl
theorem absorbL_eq (rate : Nat) (suf : UInt8) (m : List UInt8) (s : Sp) (h : s = ((Sp.mk zeroL 0).puts rate m).puts rate [suf]) : absorbL rate suf m = ⟨maskL s.l (rate - 1) 128, rate⟩ := by rw [h, ← Sp.puts_append]; rfl

set_option maxHeartbeats 1000000 in
theorem absorbed_any (rate : Nat) (hr : 0 < rate) (hr2 : rate ≤ 200) (suf : UInt8) (bss : List (List UInt8)) (hbl : bss.length ≤ 1000000) (B : Nat) (v : Value) (w : World) (hp : PartsO w B B v bss) (hB : B ≤ w.heap.size) (hv : KVars w) :
  Calls Tryd.prog 46 #[.int .i64 (rate : Int), .int .u8 (suf.toNat : Int), v] w (SpongeIs w (absorbL rate suf bss.flatten) rate) := by
 unfold SpongeIs
 obtain ⟨A, c, rfl⟩ := hp.form
 have hpos := hv.pos
 generalize hn0 : w.heap.size = n0 at *
 go_enter Tryd.func46, Tryd.ntmps46
 go_wp2_with (first
  | refine wpList_build_eq rfl 73 _ rfl (spCells [] ⟨zeroL, 0⟩ rate []).toArray (by kernel_rfl) ?_
  | refine wpList_store_any rfl 73 (.tmp 7) (.tmp 11) rfl (n0 + 1) rfl (spCells [] ⟨zeroL, 0⟩ rate []) rfl 73 (spCells [] ⟨zeroL, 0⟩ 0 []) (Row.new_ (by rw [asz, hn0]) zero27) (info_sp.trans (spCells_size _ _ rfl)) rfl (sp_oneCell _ _) ?_)
 intro w2 hr4 bt hs2
 have h4 := SpAt.of_row hr4 zero_len
 have hrA : Row w2 n0 73 (spCells [] ⟨zeroL, 0⟩ 0 []) := bt.row ((Row.new_ hn0.symm zero27).alloc _) (by omega) (by omega)
 have hbel : Below n0 w w2 := (((Below.refl n0 w).alloc (by omega) _).alloc (by rw [asz]; omega) _).trans (bt.under (by omega) (by omega))
 have hv2 : KVars w2 := hv.under hbel hpos
 clear hr4 bt hs2
 go_wp2
 go_loopw [9, 14] (fun _ i wr => ∃ k : Nat, k ≤ bss.length ∧ i = .int .i64 k ∧ SpAt wr (n0 + 1) 0 73 [] ((Sp.mk zeroL 0).puts rate (bss.take k).flatten) rate [] ∧ Row wr n0 73 (spCells [] ⟨zeroL, 0⟩ 0 []) ∧ KVars wr ∧ Below n0 w wr) (fun _ i _ => bss.length - (intOf i).toNat)
 case atStart => exact ⟨0, Nat.zero_le _, rfl, h4, hrA, hv2, hbel⟩
 case round =>
  clear h4 hrA hv2 hbel
  obtain ⟨k, hk, rfl, hh, hrA, hv2, hbel⟩ := hrel
  have hlr := hh.lt
  by_cases hlt : k < bss.length
  ·have hpr := hp.below (hbel.mono hB)
   obtain ⟨q, off, rfl, hq, hqg, hc⟩ := hpr.at_ (by omega)
   obtain ⟨u, hu, hs, ho⟩ := hc k hlt
   have HF := Lib.hid (Sp.puts_flat rate (Sp.mk zeroL 0) bss k hlt)
   have hat := Sp.puts_at rate hr (bss.take k).flatten (Sp.mk zeroL 0) (Nat.zero_le _)
   clear hpr hc
   generalize bss[k] = bk at *
   generalize (Sp.mk zeroL 0).puts rate (bss.take k).flatten = sk at *
   go_wp2_with (go_at_call 68; refine (absorb_any hh hv2 (by omega) hat hr hr2 bk B u hs (by omega) (hs.off (by omega))).mono ?_)
   rintro e w3 ⟨rfl, hh2, hb2⟩
   rw [← HF.out] at hh2
   go_wp2
   go_roundw
   case rel => exact ⟨k + 1, by omega, by go_num, hh2, hb2.row hrA (by omega) (by omega), hv2.but hb2 (by omega), hbel.trans (hb2.under (by omega) (by omega))⟩
   case measure => simp [intOf]; omega
  ·obtain rfl : k = bss.length := by omega
   rw [List.take_length] at hh
   have hat := Sp.puts_at rate hr bss.flatten (Sp.mk zeroL 0) (Nat.zero_le _)
   have HA := Lib.hid (absorbL_eq rate suf bss.flatten _ rfl)
   generalize (Sp.mk zeroL 0).puts rate bss.flatten = sk at *
   have hbA : Below wr.heap.size wr (wr.alloc (.cells #[.int .u8 (suf.toNat : Int)] 5)) := (Below.refl _ _).alloc (Nat.le_refl _) _
   have hhA := hh.below hbA
   have hvA := hv2.step hbA
   have hbelA := hbel.trans (hbA.mono (Nat.le_of_lt (Nat.lt_trans (Nat.lt_succ_self n0) hlr)))
   have hrB := hrA.alloc (.cells #[.int .u8 (suf.toNat : Int)] 5)
   have hsl : Sl (wr.alloc (.cells #[.int .u8 (suf.toNat : Int)] 5)) (wr.heap.size + 1) (.slice (some ⟨wr.heap.size, 0, none⟩) 1 1) [suf] := Sl.of_bytes (T := 5) (Row.new_ rfl rfl) (by omega) rfl (by omega)
   have hq1 : (rate : Int) - 1 = ((rate - 1 : Nat) : Int) := by omega
   clear hh hv2 hbel hrA hbA
   go_wp2_with (go_at_call 68; refine (absorb_any hhA hvA (by omega) hat hr hr2 [suf] (wr.heap.size + 1) _ hsl (by rw [asz]; omega) (Off.at_ (by omega))).mono ?_)
   rintro e w3 ⟨rfl, hh3, hb3⟩
   rw [asz] at hb3
   have hrC := hb3.row hrB (by omega) (by omega)
   have hbel3 := hbelA.trans (hb3.under (by omega) (by omega))
   have hlr3 := hh3.lt
   clear hhA hvA hbelA hrB hsl hb3
   go_wp2_with (go_at_call 69; refine (mask_any hh3 (rate - 1) (by omega) 128).mono ?_)
   rintro e w4 ⟨rfl, hh4, hb4⟩
   have hrD := hb4.row hrC (by omega) (by omega)
   have hbel4 := hbel3.trans (hb4.under (by omega) (by omega))
   have hca : w4.cell? ⟨n0 + 1, 26, none⟩ = _ := hh4.at_cell
   have hfa := hh4.free 26
   have hlr4 := hh4.lt
   have h5 := hh4.setAt rate
   have hrE := hrD.other ⟨n0 + 1, 26, none⟩ (.int .i64 (rate : Int)) (by show n0 ≠ n0 + 1; omega)
   have hbel5 := hbel4.setCell (p := ⟨n0 + 1, 26, none⟩) (Nat.le_succ n0) (.int .i64 (rate : Int))
   clear hh3 hh4 hb4 hbel3 hbel4 hrC hrD
   go_wp2_with (first
    | refine wpList_load_any rfl 73 (.tmp 7) rfl (n0 + 1) rfl 73 (spCells [] _ rate []) _ h5.row Tryd.underlying73 rfl (info_sp.trans (spCells_size _ _ h5.len)) ?_
    | refine wpList_store_any rfl 73 (.tmp 6) (.tmp 29) rfl n0 rfl (spCells [] _ rate []) rfl 73 _ hrE (info_sp.trans (spCells_size _ _ h5.len)) ((Option.some.inj ((spCells_size _ _ zero_len).symm.trans (spCells_size _ _ h5.len)))) (sp_oneCell _ _) ?_)
   intro w9 hr9 b9 _
   have hb9 := hbel5.trans (b9.under (by omega) (Nat.le_refl _))
   go_wp2
   exact ret_row Tryd.results46 rfl rfl hr9 Tryd.underlying73 rfl (info_sp.trans (spCells_size _ _ h5.len)) ⟨by rw [HA.out], hb9⟩
end Go.Proofs.YtbjpbeplpljieaaDoor

/-
 WALK: (*keccak.sponge).squeezed.
-/
namespace Go.Proofs.YtbjpbeplpljieaaDoor
open Go.RowKit
set_option maxRecDepth 100000

theorem run_shrB {a : Act} {x y : Operand} {op : Oper} {t u : TypeId} (b : UInt64) (r : Nat) (hr : r < 64) (ho : op.op = .binOp .shr t x y u) (hx : a.eval x = .int .u64 (b.toNat : Int)) (hy : a.eval y = .int .i64 (r : Int)) (w : World) :
  (execOp a.eval op).run Tryd.prog w = .ok (.value (.int .u64 ((b.toNat / 2 ^ r : Nat) : Int))) w := by
 have h0 : (0 : Int) ≤ (r : Int) := by omega
 have h1 : (r : Int) < 64 := by omega
 have hn : ((r : Int)).toNat = r := by omega
 generalize hq : (2 : Nat) ^ r = q
 unfold execOp
 simp only [ho, hx, hy]
 clear hx hy ho
 simp [go_sem, hn]
 rw [← hq]
 simp
theorem run_convB {a : Act} {x : Operand} {op : Oper} (m : Nat) (ho : op.op = .convert 70 5 x) (hx : a.eval x = .int .u64 (m : Int)) (w : World) :
  (execOp a.eval op).run Tryd.prog w = .ok (.value (.int .u8 ((UInt8.ofNat m).toNat : Int))) w := by
 have hw : IntKind.u8.wrap (m : Int) = ((UInt8.ofNat m).toNat : Int) := by rw [IntKind.wrap_u8]; simp
 generalize (UInt8.ofNat m).toNat = q at *
 unfold execOp
 simp only [ho, hx]
 go_simp
theorem run_indexS {a : Act} {x y : Operand} {op : Oper} (b k n : Nat) (hk : k < n) (ho : op.op = .indexAddr 23 x y) (hx : a.eval x = .slice (some ⟨b, 0, none⟩) n n) (hy : a.eval y = .int .i64 (k : Int)) (w : World) :
  (execOp a.eval op).run Tryd.prog w = .ok (.value (.pointer (some ⟨b, k, none⟩))) w := by
 have h0 : (0 : Int) ≤ (k : Int) := by omega
 have h1 : (k : Int) < (n : Int) := by omega
 unfold execOp
 simp only [ho, hx, hy]
 go_simp
theorem run_store8 {a : Act} {w : World} {o : Oper} {x y : Operand} {u : Value} (z : UInt8) (b p : Nat) (ho : o.op = .store 5 x y) (hx : a.eval x = .pointer (some ⟨b, p, none⟩)) (hy : a.eval y = .int .u8 (z.toNat : Int)) (hc : w.cell? ⟨b, p, none⟩ = some u) (hf : w.frozen? ⟨b, p, none⟩ = false) :
  (execOp a.eval o).run Tryd.prog w = .ok .skip (w.setCell ⟨b, p, none⟩ (.int .u8 (z.toNat : Int))) := by
 unfold execOp
 simp only [ho, hx, hy]
 go_simp
theorem SpAt.other {w : World} {g o : Nat} {T : TypeId} {pre post : List Value} {s : Sp} {rate : Nat} (h : SpAt w g o T pre s rate post) (a : Addr) (v : Value) (hne : g ≠ a.block) : SpAt (w.setCell a v) g o T pre s rate post := ⟨h.row.other a v hne, h.pre, h.len⟩
theorem But.setBeyond {a b : World} {B g q o : Nat} (h : But B g a b) (v : Value) (hq : B ≤ q) : But B g a (b.setCell ⟨q, o, none⟩ v) :=
 ⟨h.os, h.tape, h.output, Nat.le_trans h.size (by simp [World.setCell]), fun i hi hg => (heap_setCell_other b ⟨q, o, none⟩ i v (by show i ≠ q; omega)).trans (h.block i hi hg)⟩
theorem KVars.setBeyond {w : World} {q o : Nat} (h : KVars w) (v : Value) (hq : 0 ≠ q) : KVars (w.setCell ⟨q, o, none⟩ v) := fun k hk => (World.cell?_setCell_other w ⟨q, o, none⟩ ⟨0, k, none⟩ v (by intro e; cases e; exact hq rfl)).trans (h k hk)

theorem Sp.outs_length (rate : Nat) : ∀ (n : Nat) (s : Sp), (s.outs rate n).length = n
 | 0, _ => rfl
 | n + 1, s => congrArg (· + 1) (Sp.outs_length rate n (s.next rate))
theorem Sp.behind_succ (rate : Nat) : ∀ (n : Nat) (s : Sp), s.behind rate (n + 1) = (s.behind rate n).next rate
 | 0, _ => rfl
 | n + 1, s => Sp.behind_succ rate n (s.next rate)
theorem Sp.outs_succ (rate : Nat) : ∀ (n : Nat) (s : Sp), s.outs rate (n + 1) = s.outs rate n ++ [byteL ((s.behind rate n).next rate).l (((s.behind rate n).next rate).at_ - 1)]
 | 0, _ => rfl
 | n + 1, s => congrArg (byteL (s.next rate).l ((s.next rate).at_ - 1) :: ·) (Sp.outs_succ rate n (s.next rate))
theorem Sp.behind_at (rate : Nat) (hr : 0 < rate) : ∀ (n : Nat) (s : Sp), s.at_ ≤ rate → (s.behind rate n).at_ ≤ rate
 | 0, _, h => h
 | n + 1, s, h => Sp.behind_at rate hr n (s.next rate) (s.next_at rate h hr).2
/-- the row of bytes, k of them drawn -/
def sqRow (s : Sp) (rate n k : Nat) : List UInt8 := s.outs rate k ++ List.replicate (n - k) 0
theorem sqRow_succ (s : Sp) (rate n k : Nat) (hk : k < n) : sqRow s rate n (k + 1) = (sqRow s rate n k).set k (byteL ((s.behind rate k).next rate).l (((s.behind rate k).next rate).at_ - 1)) := by
 unfold sqRow
 rw [Sp.outs_succ, List.set_append_right _ _ (by rw [Sp.outs_length]; exact Nat.le_refl _), Sp.outs_length, Nat.sub_self, show n - k = (n - (k + 1)) + 1 by omega, List.replicate_succ, List.set_cons_zero]
 simp
theorem sqRow_all (s : Sp) (rate n : Nat) : sqRow s rate n n = s.outs rate n := by simp [sqRow]
theorem sqRow_length (s : Sp) (rate n k : Nat) (h : k ≤ n) : (sqRow s rate n k).length = n := by simp only [sqRow, List.length_append, Sp.outs_length, List.length_replicate]; omega
theorem byteCells_set (l : List UInt8) (k : Nat) (x : UInt8) : (Lib.byteCells l).set k (.int .u8 (x.toNat : Int)) = Lib.byteCells (l.set k x) := by simp [Lib.byteCells, List.map_set]

/-- n bytes of the output are handed back in a block of their own; the sponge has gone on; nothing else has turned -/
def SqIs (w : World) (g o : Nat) (T : TypeId) (pre : List Value) (s : Sp) (rate : Nat) (post : List Value) (n : Nat) (e : Ending) (w' : World) : Prop :=
 e = .returned (.slice (some ⟨w.heap.size, 0, none⟩) n n) ∧ Row w' w.heap.size 5 (Lib.byteCells (s.outs rate n)) ∧ SpAt w' g o T pre (s.behind rate n) rate post ∧ But w.heap.size g w w'

set_option maxHeartbeats 1000000 in
theorem squeezed_any {w : World} {g o : Nat} {T : TypeId} {pre post : List Value} {s : Sp} {rate : Nat} (h : SpAt w g o T pre s rate post) (hv : KVars w) (hg : 0 ≠ g) (ha : s.at_ ≤ rate) (hr : 0 < rate) (hr2 : rate ≤ 200) (n : Nat) (hn : n ≤ 1048576) :
  Calls Tryd.prog 47 #[.pointer (some ⟨g, o, none⟩), .int .i64 (n : Int)] w (SqIs w g o T pre s rate post n) := by
 unfold SqIs
 have hpos := hv.pos
 have hglt := h.lt
 have hmk := make_run n (by omega) w
 have hal : Below w.heap.size w (w.alloc (.cells (Lib.byteCells (List.replicate n 0)).toArray 5)) := (Below.refl _ _).alloc (Nat.le_refl _) _
 have h0 := h.below hal
 have hr0 : Row (w.alloc (.cells (Lib.byteCells (List.replicate n 0)).toArray 5)) w.heap.size 5 (Lib.byteCells (sqRow s rate n 0)) := Row.new_ rfl (by simp [sqRow, Sp.outs])
 have hv0 := hv.step hal
 have hb0 := But.of hal g
 generalize hW : w.alloc (.cells (Lib.byteCells (List.replicate n 0)).toArray 5) = W at *
 generalize hn0' : w.heap.size = n0 at *
 clear h hv hal
 go_enter Tryd.func47, Tryd.ntmps47
 go_wp2
 go_loopw [6, 7, 12] (fun _ _ i wr => ∃ k : Nat, k ≤ n ∧ i = .int .i64 k ∧ SpAt wr g o T pre (s.behind rate k) rate post ∧ Row wr n0 5 (Lib.byteCells (sqRow s rate n k)) ∧ KVars wr ∧ But n0 g w wr) (fun _ _ i _ => n - (intOf i).toNat)
 case atStart => exact ⟨0, Nat.zero_le _, rfl, h0, hr0, hv0, hb0⟩
 case round =>
  clear h0 hr0 hv0 hb0 hW
  obtain ⟨k, hk, rfl, hh, hrow, hv, hbut⟩ := hrel
  by_cases hlt : k < n
  ·have HB := Lib.hid (Sp.behind_succ rate k s)
   have HO := Lib.hid (sqRow_succ s rate n k hlt)
   have hat := Sp.behind_at rate hr k s ha
   obtain ⟨u0, hku⟩ : ∃ u, (Lib.byteCells (sqRow s rate n k))[k]? = some u := ⟨_, List.getElem?_eq_getElem (by rw [Lib.byteCells_length, sqRow_length _ _ _ _ hk]; exact hlt)⟩
   generalize sqRow s rate n k = row at *
   generalize s.behind rate k = sk at *
   have hna := sk.next_at rate hat hr
   go_wp2_with (go_at_call 70; refine (next_any hh hv hat hr2).mono ?_)
   rintro e w1 ⟨rfl, h1, hb1⟩
   have hsz := hbut.size
   have hv1 := hv.but hb1 hg
   have hrow := hb1.row hrow (hrow.lt) (by omega)
   have hb1 := hbut.trans (hb1.mono (by omega))
   clear hh hv hbut
   generalize sk.next rate = s1 at *
   obtain ⟨p, hp⟩ : ∃ p, Hid (p = s1.at_ - 1) := ⟨_, Lib.hid rfl⟩
   rw [← hp.out] at HO
   rw [← hp.out]
   have hp2 : p < 200 := by have := hp.out; omega
   have hsh : ∀ v, Calls Tryd.prog 71 #[.int .i64 (p : Int)] v fun e w' => e = .returned (.int .i64 ((8 * (p % 8) : Nat) : Int)) ∧ w' = v := shift_any p
   have q1 : (p : Int).tdiv 8 = ((p / 8 : Nat) : Int) := rfl
   have q2 : (p : Int) / 8 = ((p / 8 : Nat) : Int) := rfl
   have hkk : p / 8 < 25 := by omega
   have hr64 : 8 * (p % 8) < 64 := by omega
   have hwk : IntKind.i64.wrap (((p / 8 : Nat)) : Int) = ((p / 8 : Nat) : Int) := by rw [IntKind.wrap_i64]; omega
   obtain ⟨z, hz⟩ : ∃ z, Hid (z = byteL s1.l p) := ⟨_, Lib.hid rfl⟩
   rw [← hz.out] at HO
   unfold byteL at hz
   have hcell := h1.drew.lane_cell _ hkk
   generalize lane s1.l (p / 8) = x at *
   obtain ⟨kk, hkk'⟩ : ∃ kk, Hid (kk = p / 8) := ⟨_, Lib.hid rfl⟩
   obtain ⟨r, hrr⟩ : ∃ r, Hid (r = 8 * (p % 8)) := ⟨_, Lib.hid rfl⟩
   rw [← hkk'.out] at q1 q2 hkk hwk hcell
   rw [← hrr.out] at hsh hr64 hz
   clear hkk' hrr hp hna
   replace h1 := h1.drew
   replace hrow := hrow.drew
   replace hv1 := hv1.drew
   replace hb1 := hb1.drew
   go_wp2
   refine wp_region_held_drew (S := fun _ => True) (by kernel_rfl) trivial (fun _ => ?_)
   generalize w1.drew = X at *
   refine hdv0 0 17 (.slice (some ⟨n0, 0, none⟩) n n) (by rfl) trivial ?_
   refine hdv0 1 18 (.int .i64 (k : Int)) (by rfl) trivial ?_
   refine hdv0 2 19 (.pointer (some ⟨g, o, none⟩)) (by rfl) trivial ?_
   refine hdv0 3 20 (.int .i64 (p : Int)) (by rfl) trivial ?_
   refine hdv 4 21 (.int .i64 (kk : Int)) (by rfl) (fun w _ => by go_simp) trivial ?_
   refine hdv0 5 22 (.pointer (some ⟨g, o, none⟩)) (by rfl) trivial ?_
   refine hdv0 6 23 (.pointer (some ⟨g, o, none⟩)) (by rfl) trivial ?_
   refine hdv 7 24 (.pointer (some ⟨g, o + kk, none⟩)) (by rfl) (fun w _ => run_index25o g o kk hkk rfl (by kernel_rfl) (by kernel_rfl) w) trivial ?_
   refine hdv0 9 26 (.int .i64 (p : Int)) (by rfl) trivial ?_
   refine held_two 8 10 (by kernel_rfl) ?_ ?_
   ·refine step_value 8 (Op.load 70 (Operand.tmp 24)) 70 (some 25) (.int .u64 (x.toNat : Int)) _ (by kernel_rfl) (by kernel_rfl) (run_load1 rfl Tryd.underlying70 (by kernel_rfl) hcell) trivial ?_
    simp only [Act.put, arr9, hd9, tl9]
    refine held_call 10 (Op.call { callee := Callee.value (Operand.func 71), args := #[Operand.tmp 26], argTypes := #[3] }) 3 (some 27) 71 #[.int .i64 (p : Int)] (by kernel_rfl) (by kernel_rfl) (by kernel_rfl) (by kernel_rfl) ?_
    refine (hsh _).mono ?_
    rintro e w' ⟨rfl, hw'⟩
    obtain rfl : X = w' := hw'.symm
    refine ⟨_, rfl, trivial, ?_⟩
    simp only [Act.put, arr9, hd9, tl9]
    refine hdv 11 28 (.int .u64 ((x.toNat / 2 ^ r : Nat) : Int)) (by rfl) (fun w _ => run_shrB x r hr64 rfl (by kernel_rfl) (by kernel_rfl) w) trivial ?_
    refine hdv 12 29 (.int .u8 (z.toNat : Int)) (by rfl) (fun w _ => by rw [hz.out]; exact run_convB (x.toNat / 2 ^ r) rfl (by kernel_rfl) w) trivial ?_
    refine hdv 13 30 (.pointer (some ⟨n0, k, none⟩)) (by rfl) (fun w _ => run_indexS n0 k n hlt rfl (by kernel_rfl) (by kernel_rfl) w) trivial ?_
    refine held_one 14 (by kernel_rfl) ?_
    refine step_store1 14 (Op.store 5 (Operand.tmp 30) (Operand.tmp 29)) (by kernel_rfl) (by kernel_rfl) (X.setCell ⟨n0, k, none⟩ (.int .u8 (z.toNat : Int))) (run_store8 z n0 k rfl (by kernel_rfl) (by kernel_rfl) (hrow.cell k |>.trans hku) (hrow.free _)) ⟨trivial, ?_⟩
    refine wpAnyH_done (by kernel_rfl) ?_ _
    have hfin := h1.other ⟨n0, k, none⟩ (.int .u8 (z.toNat : Int)) (by show g ≠ n0; omega)
    have hbf := hb1.setBeyond (o := k) (.int .u8 (z.toNat : Int)) (Nat.le_refl n0)
    have hrf := hrow.set_ k (.int .u8 (z.toNat : Int))
    have hvf := hv1.setBeyond (q := n0) (o := k) (.int .u8 (z.toNat : Int)) (by omega)
    generalize X.setCell ⟨n0, k, none⟩ (.int .u8 (z.toNat : Int)) = Y at *
    go_wp2
    go_roundw
    case rel => exact ⟨k + 1, by omega, by go_num, by rw [HB.out]; exact hfin, by rw [HO.out, ← byteCells_set]; exact hrf, hvf, hbf⟩
    case measure => simp [intOf]; omega
   ·refine step_call 10 (Op.call { callee := Callee.value (Operand.func 71), args := #[Operand.tmp 26], argTypes := #[3] }) 3 (some 27) 71 #[.int .i64 (p : Int)] (by kernel_rfl) (by kernel_rfl) (by kernel_rfl) ?_
    refine (hsh _).mono ?_
    rintro e w' ⟨rfl, hw'⟩
    obtain rfl : X = w' := hw'.symm
    refine ⟨_, rfl, trivial, ?_⟩
    simp only [Act.put, arr9, hd9, tl9]
    refine held_one 8 (by kernel_rfl) ?_
    refine step_value 8 (Op.load 70 (Operand.tmp 24)) 70 (some 25) (.int .u64 (x.toNat : Int)) _ (by kernel_rfl) (by kernel_rfl) (run_load1 rfl Tryd.underlying70 (by kernel_rfl) hcell) trivial ?_
    simp only [Act.put, arr9, hd9, tl9]
    refine hdv 11 28 (.int .u64 ((x.toNat / 2 ^ r : Nat) : Int)) (by rfl) (fun w _ => run_shrB x r hr64 rfl (by kernel_rfl) (by kernel_rfl) w) trivial ?_
    refine hdv 12 29 (.int .u8 (z.toNat : Int)) (by rfl) (fun w _ => by rw [hz.out]; exact run_convB (x.toNat / 2 ^ r) rfl (by kernel_rfl) w) trivial ?_
    refine hdv 13 30 (.pointer (some ⟨n0, k, none⟩)) (by rfl) (fun w _ => run_indexS n0 k n hlt rfl (by kernel_rfl) (by kernel_rfl) w) trivial ?_
    refine held_one 14 (by kernel_rfl) ?_
    refine step_store1 14 (Op.store 5 (Operand.tmp 30) (Operand.tmp 29)) (by kernel_rfl) (by kernel_rfl) (X.setCell ⟨n0, k, none⟩ (.int .u8 (z.toNat : Int))) (run_store8 z n0 k rfl (by kernel_rfl) (by kernel_rfl) (hrow.cell k |>.trans hku) (hrow.free _)) ⟨trivial, ?_⟩
    refine wpAnyH_done (by kernel_rfl) ?_ _
    have hfin := h1.other ⟨n0, k, none⟩ (.int .u8 (z.toNat : Int)) (by show g ≠ n0; omega)
    have hbf := hb1.setBeyond (o := k) (.int .u8 (z.toNat : Int)) (Nat.le_refl n0)
    have hrf := hrow.set_ k (.int .u8 (z.toNat : Int))
    have hvf := hv1.setBeyond (q := n0) (o := k) (.int .u8 (z.toNat : Int)) (by omega)
    generalize X.setCell ⟨n0, k, none⟩ (.int .u8 (z.toNat : Int)) = Y at *
    go_wp2
    go_roundw
    case rel => exact ⟨k + 1, by omega, by go_num, by rw [HB.out]; exact hfin, by rw [HO.out, ← byteCells_set]; exact hrf, hvf, hbf⟩
    case measure => simp [intOf]; omega
  ·obtain rfl : k = n := by omega
   rw [sqRow_all] at hrow
   go_wp2
   go_ret
   exact ⟨rfl, hrow, hh, hbut⟩
end Go.Proofs.YtbjpbeplpljieaaDoor

/-
 WALKS: keccak.Sha3256, keccak.Sha3512.
-/
namespace Go.Proofs.YtbjpbeplpljieaaDoor
open Go.RowKit
set_option maxRecDepth 100000

theorem Sp.next_len (s : Sp) (rate : Nat) (h : s.l.length = 25) : (s.next rate).l.length = 25 := by
 by_cases hc : s.at_ = rate
 ·rw [Sp.next_full _ _ hc]; exact permL_length _ h
 ·rw [Sp.next_more _ _ hc]; exact h
theorem Sp.puts_len (rate : Nat) (l : List UInt8) : ∀ s : Sp, s.l.length = 25 → (s.puts rate l).l.length = 25 := by
 induction l with
 | nil => intro s h; exact h
 | cons b r ih => intro s h; exact ih _ ((List.length_set).trans (s.next_len rate h))
theorem absorbL_len (rate : Nat) (suf : UInt8) (m : List UInt8) : (absorbL rate suf m).l.length = 25 := (List.length_set).trans (Sp.puts_len rate _ _ zero_len)

set_option maxHeartbeats 1000000 in
theorem sha3256_any (bss : List (List UInt8)) (hbl : bss.length ≤ 1000000) (B : Nat) (v : Value) (w : World) (hp : PartsO w B B v bss) (hB : B ≤ w.heap.size) (hv : KVars w) :
  Calls Tryd.prog 21 #[v] w (SumIs w (spongeL 136 6 bss.flatten 32)) := by
 unfold SumIs spongeL
 have hpos := hv.pos
 have hpA : ∀ o, PartsO (w.alloc o) B B v bss := fun o => hp.below ((Below.refl _ w).alloc hB o)
 have hvA : ∀ o, KVars (w.alloc o) := fun o => hv.step ((Below.refl _ w).alloc (Nat.le_refl _) o)
 have hSl := absorbL_len 136 6 bss.flatten
 have hSa : (absorbL 136 6 bss.flatten).at_ ≤ 136 := Nat.le_refl _
 have hSo := Sp.outs_length 136 32 (absorbL 136 6 bss.flatten)
 generalize hn0 : w.heap.size = n0 at *
 have hrA : Row (w.alloc (.cells (Lib.byteCells (List.replicate 32 0)).toArray 22)) n0 22 (Lib.byteCells (List.replicate 32 0)) := Row.new_ hn0.symm rfl
 have hbA : Below n0 w (w.alloc (.cells (Lib.byteCells (List.replicate 32 0)).toArray 22)) := (Below.refl n0 w).alloc (by omega) _
 go_enter Tryd.func21, Tryd.ntmps21
 go_wp2_with (go_at_call 46; refine (absorbed_any 136 (by decide) (by decide) 6 bss hbl B v _ (hpA _) (by rw [asz]; omega) (hvA _)).mono ?_)
 rintro e w1 ⟨rfl, b1⟩
 rw [asz, hn0] at b1
 have hr1 := hrA.below b1 (by omega)
 have hbel1 := hbA.trans (b1.mono (by omega))
 have hv1 := hv.under hbel1 hpos
 have hs1 := b1.size
 rw [asz, hn0] at hs1
 generalize hS : absorbL 136 6 bss.flatten = S at *
 have HS := Lib.hid hS
 clear hS
 clear hpA hvA hrA hbA b1 hp hv
 go_wp2_with (refine wpList_store_any rfl 73 (.tmp 3) (.tmp 5) rfl w1.heap.size rfl (spCells [] S 136 []) rfl 73 (spCells [] ⟨zeroL, 0⟩ 0 []) (Row.new_ rfl zero27) (info_sp.trans (spCells_size _ _ hSl)) (Option.some.inj ((spCells_size _ _ zero_len).symm.trans (spCells_size _ _ hSl))) (sp_oneCell _ _) ?_)
 intro w2 hr2 b2 hz2
 clear hz2
 have hs2 := hr2.lt
 have hsp := SpAt.of_row hr2 hSl
 have hrB := b2.row (hr1.alloc _) (by omega) (by omega)
 have hbel2 := (hbel1.alloc (by omega) _).trans (b2.under (by omega) (by omega))
 have hv2 := hv1.under ((Below.refl _ w1).alloc (Nat.le_refl _) _ |>.trans (b2.under (Nat.le_succ _) (Nat.le_refl _))) (by omega)
 clear hr1 hbel1 hv1 b2 hr2
 go_wp2_with (go_at_call 47; refine (squeezed_any hsp hv2 (by omega) hSa (by decide) (by decide) 32 (by decide)).mono ?_)
 rintro e w3 ⟨rfl, hr3, -, b3⟩
 have hrC := b3.row hrB (by omega) (by omega)
 have hbel3 := hbel2.trans (b3.under (by omega) (by omega))
 have hw3 := b3.size
 have harr := run_arrayAt (P := Tryd.prog) w3 22 5 32 (some ⟨w2.heap.size, 0, none⟩) 32 32 Tryd.underlying22 (Nat.le_refl _)
 clear hsp hv2 b3 hrB hbel2
 go_wp2_with (first
  | refine wpList_load_any rfl 22 (.tmp 7) rfl w2.heap.size rfl 5 (Lib.byteCells (S.outs 136 32)) _ hr3 Tryd.underlying22 rfl (info_b32.trans (size_bytes _ _ hSo)) ?_
  | refine wpList_store_any rfl 22 (.tmp 2) (.tmp 8) rfl n0 rfl (Lib.byteCells (S.outs 136 32)) rfl 22 _ hrC (info_b32.trans (size_bytes _ _ hSo)) (by rw [Lib.byteCells_length, Lib.byteCells_length, hSo, List.length_replicate]) (cell_oneCell _) ?_)
 intro w9 hr9 b9 _
 have hb9 := hbel3.trans (b9.under (by omega) (Nat.le_refl _))
 go_wp2
 exact ret_row Tryd.results21 rfl rfl hr9 Tryd.underlying22 rfl (info_b32.trans (size_bytes _ _ hSo)) ⟨by rw [HS.out], hb9⟩

set_option maxHeartbeats 1000000 in
theorem sha3512_any (bss : List (List UInt8)) (hbl : bss.length ≤ 1000000) (B : Nat) (v : Value) (w : World) (hp : PartsO w B B v bss) (hB : B ≤ w.heap.size) (hv : KVars w) :
  Calls Tryd.prog 39 #[v] w (SumIs w (spongeL 72 6 bss.flatten 64)) := by
 unfold SumIs spongeL
 have hpos := hv.pos
 have hpA : ∀ o, PartsO (w.alloc o) B B v bss := fun o => hp.below ((Below.refl _ w).alloc hB o)
 have hvA : ∀ o, KVars (w.alloc o) := fun o => hv.step ((Below.refl _ w).alloc (Nat.le_refl _) o)
 have hSl := absorbL_len 72 6 bss.flatten
 have hSa : (absorbL 72 6 bss.flatten).at_ ≤ 72 := Nat.le_refl _
 have hSo := Sp.outs_length 72 64 (absorbL 72 6 bss.flatten)
 generalize hn0 : w.heap.size = n0 at *
 have hrA : Row (w.alloc (.cells (Lib.byteCells (List.replicate 64 0)).toArray 59)) n0 59 (Lib.byteCells (List.replicate 64 0)) := Row.new_ hn0.symm rfl
 have hbA : Below n0 w (w.alloc (.cells (Lib.byteCells (List.replicate 64 0)).toArray 59)) := (Below.refl n0 w).alloc (by omega) _
 go_enter Tryd.func39, Tryd.ntmps39
 go_wp2_with (go_at_call 46; refine (absorbed_any 72 (by decide) (by decide) 6 bss hbl B v _ (hpA _) (by rw [asz]; omega) (hvA _)).mono ?_)
 rintro e w1 ⟨rfl, b1⟩
 rw [asz, hn0] at b1
 have hr1 := hrA.below b1 (by omega)
 have hbel1 := hbA.trans (b1.mono (by omega))
 have hv1 := hv.under hbel1 hpos
 have hs1 := b1.size
 rw [asz, hn0] at hs1
 generalize hS : absorbL 72 6 bss.flatten = S at *
 have HS := Lib.hid hS
 clear hS
 clear hpA hvA hrA hbA b1 hp hv
 go_wp2_with (refine wpList_store_any rfl 73 (.tmp 3) (.tmp 5) rfl w1.heap.size rfl (spCells [] S 72 []) rfl 73 (spCells [] ⟨zeroL, 0⟩ 0 []) (Row.new_ rfl zero27) (info_sp.trans (spCells_size _ _ hSl)) (Option.some.inj ((spCells_size _ _ zero_len).symm.trans (spCells_size _ _ hSl))) (sp_oneCell _ _) ?_)
 intro w2 hr2 b2 hz2
 clear hz2
 have hs2 := hr2.lt
 have hsp := SpAt.of_row hr2 hSl
 have hrB := b2.row (hr1.alloc _) (by omega) (by omega)
 have hbel2 := (hbel1.alloc (by omega) _).trans (b2.under (by omega) (by omega))
 have hv2 := hv1.under ((Below.refl _ w1).alloc (Nat.le_refl _) _ |>.trans (b2.under (Nat.le_succ _) (Nat.le_refl _))) (by omega)
 clear hr1 hbel1 hv1 b2 hr2
 go_wp2_with (go_at_call 47; refine (squeezed_any hsp hv2 (by omega) hSa (by decide) (by decide) 64 (by decide)).mono ?_)
 rintro e w3 ⟨rfl, hr3, -, b3⟩
 have hrC := b3.row hrB (by omega) (by omega)
 have hbel3 := hbel2.trans (b3.under (by omega) (by omega))
 have hw3 := b3.size
 have harr := run_arrayAt (P := Tryd.prog) w3 59 5 64 (some ⟨w2.heap.size, 0, none⟩) 64 64 Tryd.underlying59 (Nat.le_refl _)
 clear hsp hv2 b3 hrB hbel2
 go_wp2_with (first
  | refine wpList_load_any rfl 59 (.tmp 7) rfl w2.heap.size rfl 5 (Lib.byteCells (S.outs 72 64)) _ hr3 Tryd.underlying59 rfl (info_b64.trans (size_bytes _ _ hSo)) ?_
  | refine wpList_store_any rfl 59 (.tmp 2) (.tmp 8) rfl n0 rfl (Lib.byteCells (S.outs 72 64)) rfl 59 _ hrC (info_b64.trans (size_bytes _ _ hSo)) (by rw [Lib.byteCells_length, Lib.byteCells_length, hSo, List.length_replicate]) (cell_oneCell _) ?_)
 intro w9 hr9 b9 _
 have hb9 := hbel3.trans (b9.under (by omega) (Nat.le_refl _))
 go_wp2
 exact ret_row Tryd.results39 rfl rfl hr9 Tryd.underlying59 rfl (info_b64.trans (size_bytes _ _ hSo)) ⟨by rw [HS.out], hb9⟩
end Go.Proofs.YtbjpbeplpljieaaDoor


/-
 WALKS: keccak.Xof: Shake128, Shake256, Read, Count, Clone, isMade.
-/
namespace Go.Proofs.YtbjpbeplpljieaaDoor
open Go.RowKit
set_option maxRecDepth 100000

theorem list25 (l : List UInt64) (h : l.length = 25) : ∃ a0 a1 a2 a3 a4 a5 a6 a7 a8 a9 a10 a11 a12 a13 a14 a15 a16 a17 a18 a19 a20 a21 a22 a23 a24 : UInt64, l = [a0, a1, a2, a3, a4, a5, a6, a7, a8, a9, a10, a11, a12, a13, a14, a15, a16, a17, a18, a19, a20, a21, a22, a23, a24] := by
 rcases l with _ | ⟨a0, l⟩
 ·simp at h
 rcases l with _ | ⟨a1, l⟩
 ·simp at h
 rcases l with _ | ⟨a2, l⟩
 ·simp at h
 rcases l with _ | ⟨a3, l⟩
 ·simp at h
 rcases l with _ | ⟨a4, l⟩
 ·simp at h
 rcases l with _ | ⟨a5, l⟩
 ·simp at h
 rcases l with _ | ⟨a6, l⟩
 ·simp at h
 rcases l with _ | ⟨a7, l⟩
 ·simp at h
 rcases l with _ | ⟨a8, l⟩
 ·simp at h
 rcases l with _ | ⟨a9, l⟩
 ·simp at h
 rcases l with _ | ⟨a10, l⟩
 ·simp at h
 rcases l with _ | ⟨a11, l⟩
 ·simp at h
 rcases l with _ | ⟨a12, l⟩
 ·simp at h
 rcases l with _ | ⟨a13, l⟩
 ·simp at h
 rcases l with _ | ⟨a14, l⟩
 ·simp at h
 rcases l with _ | ⟨a15, l⟩
 ·simp at h
 rcases l with _ | ⟨a16, l⟩
 ·simp at h
 rcases l with _ | ⟨a17, l⟩
 ·simp at h
 rcases l with _ | ⟨a18, l⟩
 ·simp at h
 rcases l with _ | ⟨a19, l⟩
 ·simp at h
 rcases l with _ | ⟨a20, l⟩
 ·simp at h
 rcases l with _ | ⟨a21, l⟩
 ·simp at h
 rcases l with _ | ⟨a22, l⟩
 ·simp at h
 rcases l with _ | ⟨a23, l⟩
 ·simp at h
 rcases l with _ | ⟨a24, l⟩
 ·simp at h
 have hl : l = [] := by
  cases l with
  | nil => rfl
  | cons b r => simp at h
 subst hl
 exact ⟨a0, a1, a2, a3, a4, a5, a6, a7, a8, a9, a10, a11, a12, a13, a14, a15, a16, a17, a18, a19, a20, a21, a22, a23, a24, rfl⟩
theorem built_xof (s : Sp) (rate : Nat) (h : s.l.length = 25) : Tryd.prog.built 103 [(0, .bool true), (1, .agg (spCells [] s rate []).toArray)] = some (spCells [.bool true] s rate [.int .i64 0]).toArray := by
 obtain ⟨l, a⟩ := s
 obtain ⟨a0, a1, a2, a3, a4, a5, a6, a7, a8, a9, a10, a11, a12, a13, a14, a15, a16, a17, a18, a19, a20, a21, a22, a23, a24, hl⟩ := list25 l h
 subst hl
 kernel_rfl
/-- block g is a reader: the sponge s, so many bytes read -/
def XofAt (w : World) (g : Nat) (s : Sp) (rate cnt : Nat) : Prop := SpAt w g 1 103 [.bool true] s rate [.int .i64 (cnt : Int)]
/-- a new reader is handed back; nothing that was there has turned -/
def KNewIs (w : World) (s : Sp) (rate : Nat) (e : Ending) (w' : World) : Prop := ∃ g, e = .returned (.pointer (some ⟨g, 0, none⟩)) ∧ w.heap.size ≤ g ∧ XofAt w' g s rate 0 ∧ Below w.heap.size w w'

theorem shake128_any (bss : List (List UInt8)) (hbl : bss.length ≤ 1000000) (B : Nat) (v : Value) (w : World) (hp : PartsO w B B v bss) (hB : B ≤ w.heap.size) (hv : KVars w) :
  Calls Tryd.prog 57 #[v] w (KNewIs w (absorbL 168 31 bss.flatten) 168) := by
 unfold KNewIs
 have hSl := absorbL_len 168 31 bss.flatten
 go_enter Tryd.func57, Tryd.ntmps57
 go_wp2_with (go_at_call 46; refine (absorbed_any 168 (by decide) (by decide) 31 bss hbl B v _ hp hB hv).mono ?_)
 rintro e w1 ⟨rfl, b1⟩
 generalize hS : absorbL 168 31 bss.flatten = S at *
 have HS := Lib.hid hS
 clear hS
 go_wp2_with (refine wpList_build_eq rfl 103 _ rfl (spCells [.bool true] S 168 [.int .i64 0]).toArray (by exact (congrArg (Tryd.prog.built 103) (by kernel_rfl : _ = [(0, .bool true), (1, .agg (spCells [] S 168 []).toArray)])).trans (built_xof S 168 hSl)) ?_)
 go_ret
 exact ⟨w1.heap.size, rfl, b1.size, by rw [HS.out]; exact ⟨Row.new_ rfl rfl, rfl, hSl⟩, b1.alloc b1.size _⟩

theorem shake256_any (bss : List (List UInt8)) (hbl : bss.length ≤ 1000000) (B : Nat) (v : Value) (w : World) (hp : PartsO w B B v bss) (hB : B ≤ w.heap.size) (hv : KVars w) :
  Calls Tryd.prog 59 #[v] w (KNewIs w (absorbL 136 31 bss.flatten) 136) := by
 unfold KNewIs
 have hSl := absorbL_len 136 31 bss.flatten
 go_enter Tryd.func59, Tryd.ntmps59
 go_wp2_with (go_at_call 46; refine (absorbed_any 136 (by decide) (by decide) 31 bss hbl B v _ hp hB hv).mono ?_)
 rintro e w1 ⟨rfl, b1⟩
 generalize hS : absorbL 136 31 bss.flatten = S at *
 have HS := Lib.hid hS
 clear hS
 go_wp2_with (refine wpList_build_eq rfl 103 _ rfl (spCells [.bool true] S 136 [.int .i64 0]).toArray (by exact (congrArg (Tryd.prog.built 103) (by kernel_rfl : _ = [(0, .bool true), (1, .agg (spCells [] S 136 []).toArray)])).trans (built_xof S 136 hSl)) ?_)
 go_ret
 exact ⟨w1.heap.size, rfl, b1.size, by rw [HS.out]; exact ⟨Row.new_ rfl rfl, rfl, hSl⟩, b1.alloc b1.size _⟩

section
variable {w w' : World} {g : Nat} {s : Sp} {rate cnt : Nat}
theorem XofAt.made_cell (h : XofAt w g s rate cnt) : w.cell? ⟨g, 0, none⟩ = some (.bool true) := (SpAt.row h).cell 0
theorem spCells_end (hl : s.l.length = 25) : (spCells [.bool true] s rate [.int .i64 (cnt : Int)])[28]? = some (.int .i64 (cnt : Int)) := by
 unfold spCells
 rw [List.getElem?_append_right (by simp), List.getElem?_append_right (by rw [laneCells_length, hl]; simp), laneCells_length, hl]
 rfl
theorem spCells_setEnd (hl : s.l.length = 25) (n : Nat) : (spCells [.bool true] s rate [.int .i64 (cnt : Int)]).set 28 (.int .i64 (n : Int)) = spCells [.bool true] s rate [.int .i64 (n : Int)] := by
 unfold spCells
 rw [List.set_append_right _ _ (by simp), List.set_append_right _ _ (by rw [laneCells_length, hl]; simp), laneCells_length, hl]
 rfl
theorem XofAt.count_cell (h : XofAt w g s rate cnt) : w.cell? ⟨g, 28, none⟩ = some (.int .i64 (cnt : Int)) := ((SpAt.row h).cell 28).trans (spCells_end (SpAt.len h))
theorem XofAt.setCount (h : XofAt w g s rate cnt) (n : Nat) : XofAt (w.setCell ⟨g, 28, none⟩ (.int .i64 (n : Int))) g s rate n :=
 ⟨(congrArg (Row _ g _) (spCells_setEnd (SpAt.len h) n)).mp ((SpAt.row h).set_ _ _), rfl, SpAt.len h⟩
theorem kisMade_yes (h : XofAt w g s rate cnt) : Calls Tryd.prog 82 #[.pointer (some ⟨g, 0, none⟩)] w fun e w' => e = .returned (.bool true) ∧ w' = w := by
 have hc := h.made_cell
 go_enter Tryd.func82, Tryd.ntmps82
 go_wp2
 go_ret
 exact ⟨rfl, rfl⟩
theorem kisMade_nil (w : World) : Calls Tryd.prog 82 #[.pointer none] w fun e w' => e = .returned (.bool false) ∧ w' = w := by
 go_enter Tryd.func82, Tryd.ntmps82
 go_wp2
 go_ret
 exact ⟨rfl, rfl⟩
theorem read_nil (n : Int) (w : World) : Calls Tryd.prog 58 #[.pointer none, .int .i64 n] w fun e w' => e = .returned (.tuple #[.slice none 0 0, .int .i64 2]) ∧ w' = w := by
 go_enter Tryd.func58, Tryd.ntmps58
 go_wp2_with (go_at_call 82; refine (kisMade_nil _).mono ?_)
 rintro e wK ⟨rfl, rfl⟩
 go_wp2
 go_ret2
 exact ⟨rfl, rfl⟩
theorem read_neg (h : XofAt w g s rate cnt) (n : Int) (hn : n < 0) : Calls Tryd.prog 58 #[.pointer (some ⟨g, 0, none⟩), .int .i64 n] w fun e w' => e = .returned (.tuple #[.slice none 0 0, .int .i64 1]) ∧ w' = w := by
 go_enter Tryd.func58, Tryd.ntmps58
 go_wp2_with (go_at_call 82; refine (kisMade_yes h).mono ?_)
 rintro e wK ⟨rfl, rfl⟩
 go_wp2
 go_ret2
 exact ⟨rfl, rfl⟩
theorem read_much (h : XofAt w g s rate cnt) (n : Int) (hn : 1048576 < n) : Calls Tryd.prog 58 #[.pointer (some ⟨g, 0, none⟩), .int .i64 n] w fun e w' => e = .returned (.tuple #[.slice none 0 0, .int .i64 3]) ∧ w' = w := by
 have h0 : decide (n < 0) = false := by simp; omega
 go_enter Tryd.func58, Tryd.ntmps58
 go_wp2_with (go_at_call 82; refine (kisMade_yes h).mono ?_)
 rintro e wK ⟨rfl, rfl⟩
 go_wp2
 go_ret2
 exact ⟨rfl, rfl⟩
/-- n bytes of the output are handed back in a block of their own, and no error; the reader has gone on; nothing else has turned -/
def ReadIs (w : World) (g : Nat) (s : Sp) (rate cnt n : Nat) (e : Ending) (w' : World) : Prop :=
 e = .returned (.tuple #[.slice (some ⟨w.heap.size, 0, none⟩) n n, .int .i64 0]) ∧ Row w' w.heap.size 5 (Lib.byteCells (s.outs rate n)) ∧ XofAt w' g (s.behind rate n) rate (cnt + n) ∧ But w.heap.size g w w'
set_option maxHeartbeats 1000000 in
theorem read_any (h : XofAt w g s rate cnt) (hv : KVars w) (hg : 0 ≠ g) (ha : s.at_ ≤ rate) (hr : 0 < rate) (hr2 : rate ≤ 200) (n : Nat) (hn : n ≤ 1048576) (hc : cnt ≤ 1000000000) :
  Calls Tryd.prog 58 #[.pointer (some ⟨g, 0, none⟩), .int .i64 (n : Int)] w (ReadIs w g s rate cnt n) := by
 unfold ReadIs
 have h0 : decide ((n : Int) < 0) = false := by simp
 have h1 : decide ((1048576 : Int) < (n : Int)) = false := by simp; omega
 have hcc := h.count_cell
 have hcf := SpAt.free h 28
 have h2 := h.setCount (cnt + n)
 have hb2 := (But.refl w.heap.size g w).setCell 28 (.int .i64 ((cnt + n : Nat) : Int))
 have hz : (w.setCell ⟨g, 28, none⟩ (.int .i64 ((cnt + n : Nat) : Int))).heap.size = w.heap.size := by simp [World.setCell]
 have hv2 : KVars (w.setCell ⟨g, 28, none⟩ (.int .i64 ((cnt + n : Nat) : Int))) := hv.setBeyond _ hg
 have hq : ((cnt + n : Nat) : Int) = (cnt : Int) + (n : Int) := by omega
 rw [hq] at h2 hb2 hv2 hz
 have HZ := Lib.hid hz
 clear hz hq
 go_enter Tryd.func58, Tryd.ntmps58
 go_wp2_with (go_at_call 82; refine (kisMade_yes h).mono ?_)
 rintro e wK ⟨rfl, rfl⟩
 go_wp2_with (go_at_call 47; refine (squeezed_any h2 hv2 hg ha hr hr2 n hn).mono ?_)
 rintro e w2 ⟨rfl, hr3, h3, b3⟩
 rw [HZ.out] at hr3 b3 ⊢
 go_wp2
 go_ret2
 exact ⟨rfl, hr3, h3, hb2.trans b3⟩
end
end Go.Proofs.YtbjpbeplpljieaaDoor

/-
 WALKS: keccak.Shake, Clone.
-/
namespace Go.Proofs.YtbjpbeplpljieaaDoor
open Go.RowKit
set_option maxRecDepth 100000

/-- n bytes are handed back in a block of their own, and no error; nothing that was there has turned -/
def ShakeIs (w : World) (n : Nat) (bs : List UInt8) (e : Ending) (w' : World) : Prop :=
 ∃ q, e = .returned (.tuple #[.slice (some ⟨q, 0, none⟩) n n, .int .i64 0]) ∧ w.heap.size ≤ q ∧ Row w' q 5 (Lib.byteCells bs) ∧ Below w.heap.size w w'
/-- no bytes are handed back, and an error -/
def NoShakeIs (w : World) (c : Int) (e : Ending) (w' : World) : Prop := e = .returned (.tuple #[.slice none 0 0, .int .i64 c]) ∧ Below w.heap.size w w'

theorem shake_ok128 (n : Nat) (hn : n ≤ 1048576) (bss : List (List UInt8)) (hbl : bss.length ≤ 1000000) (B : Nat) (v : Value) (w : World) (hp : PartsO w B B v bss) (hB : B ≤ w.heap.size) (hv : KVars w) :
  Calls Tryd.prog 32 #[.int .i64 128, .int .i64 (n : Int), v] w (ShakeIs w n (spongeL 168 31 bss.flatten n)) := by
 unfold ShakeIs spongeL
 have hpos := hv.pos
 have hSa : (absorbL 168 31 bss.flatten).at_ ≤ 168 := Nat.le_refl _
 go_enter Tryd.func32, Tryd.ntmps32
 go_wp2_with (go_at_call 57; refine (shake128_any bss hbl B v _ hp hB hv).mono ?_)
 rintro e w1 ⟨g, rfl, hg, hx, b1⟩
 have hv1 := hv.step b1
 generalize hS : absorbL 168 31 bss.flatten = S at *
 have HS := Lib.hid hS
 clear hS
 go_wp2_with (go_at_call 58; refine (read_any hx hv1 (by omega) hSa (by decide) (by decide) n hn (by decide)).mono ?_)
 rintro e w2 ⟨rfl, hr2, -, b2⟩
 have hb := b1.trans (b2.under b1.size hg)
 have hs1 := b1.size
 clear hx hv1 b1 b2
 go_wp2
 go_ret2
 exact ⟨w1.heap.size, rfl, hs1, by rw [HS.out]; exact hr2, hb⟩
theorem shake_ok256 (n : Nat) (hn : n ≤ 1048576) (bss : List (List UInt8)) (hbl : bss.length ≤ 1000000) (B : Nat) (v : Value) (w : World) (hp : PartsO w B B v bss) (hB : B ≤ w.heap.size) (hv : KVars w) :
  Calls Tryd.prog 32 #[.int .i64 256, .int .i64 (n : Int), v] w (ShakeIs w n (spongeL 136 31 bss.flatten n)) := by
 unfold ShakeIs spongeL
 have hpos := hv.pos
 have hSa : (absorbL 136 31 bss.flatten).at_ ≤ 136 := Nat.le_refl _
 go_enter Tryd.func32, Tryd.ntmps32
 go_wp2_with (go_at_call 59; refine (shake256_any bss hbl B v _ hp hB hv).mono ?_)
 rintro e w1 ⟨g, rfl, hg, hx, b1⟩
 have hv1 := hv.step b1
 generalize hS : absorbL 136 31 bss.flatten = S at *
 have HS := Lib.hid hS
 clear hS
 go_wp2_with (go_at_call 58; refine (read_any hx hv1 (by omega) hSa (by decide) (by decide) n hn (by decide)).mono ?_)
 rintro e w2 ⟨rfl, hr2, -, b2⟩
 have hb := b1.trans (b2.under b1.size hg)
 have hs1 := b1.size
 clear hx hv1 b1 b2
 go_wp2
 go_ret2
 exact ⟨w1.heap.size, rfl, hs1, by rw [HS.out]; exact hr2, hb⟩
end Go.Proofs.YtbjpbeplpljieaaDoor

/-
 WORDS for SampleNtt.
-/
namespace Go.Proofs.YtbjpbeplpljieaaDoor
open Go.RowKit
set_option maxRecDepth 100000
section
variable {ops : Array Oper} {rest : List Oper} {o1 : Oper} {a : Act} {w : World} {Q : Exit → Act → World → Prop}
/-- a new polynomial of zeros -/
theorem wl_allocS (d : Nat) (hg1 : o1.guard = none) (hd : o1.dst = some d) (h1 : o1.op = .alloc 62)
 (h : ∀ g w2, Shh (g = w.heap.size) → Row w2 g 62 (pc fun _ => 0) → Below w.heap.size w w2 → wpList Tryd.prog ops Q rest (a.put (some d) (.pointer (some ⟨g, 0, none⟩))) w2) : wpList Tryd.prog ops Q (o1 :: rest) a w := by
 refine wl_allocP hg1 h1 ?_
 rw [hd]
 exact h _ _ ⟨rfl⟩ (Row.new_ rfl rfl) (bel1 w _)
end
section
variable {a : Act} {x y : Operand} {op : Oper} {w : World}
theorem load_u8x {q : Addr} {n : Nat} (ho : op.op = .load 5 x) (hc : w.cell? q = some (.int .u8 (n : Int))) (hx : a.eval x = .pointer (some q)) : (execOp a.eval op).run Tryd.prog w = .ok (.value (.int .u8 (n : Int))) w := by
 unfold execOp
 simp only [ho, hx]
 go_simp
theorem conv_816 {n : Nat} (hn : n < 256) (ho : op.op = .convert 5 39 x) (hx : a.eval x = .int .u8 (n : Int)) : (execOp a.eval op).run Tryd.prog w = .ok (.value (.int .u16 (n : Int))) w := by
 have hw : IntKind.u16.wrap (n : Int) = (n : Int) := by rw [IntKind.wrap_u16]; omega
 have hm : (n : Int) % 65536 = (n : Int) := by omega
 unfold execOp
 simp only [ho, hx]
 go_simp
theorem conv_8i {n : Nat} (hn : n < 256) (ho : op.op = .convert 5 3 x) (hx : a.eval x = .int .u8 (n : Int)) : (execOp a.eval op).run Tryd.prog w = .ok (.value (.int .i64 (n : Int))) w := by
 have hw : IntKind.i64.wrap (n : Int) = (n : Int) := by rw [IntKind.wrap_i64]; omega
 unfold execOp
 simp only [ho, hx]
 go_simp
theorem rem_16u {n r : Nat} (h : r = n % 16) (hn : n < 65536) (ho : op.op = .binOp .rem 39 x (.const (.int .u16 16)) 39) (hx : a.eval x = .int .u16 (n : Int)) : (execOp a.eval op).run Tryd.prog w = .ok (.value (.int .u16 (r : Int))) w := by
 have hc : a.eval (.const (.int .u16 16)) = .int .u16 16 := rfl
 have e : (n : Int).tmod 16 = (r : Int) := by rw [Int.tmod_eq_emod_of_nonneg (by omega)]; omega
 have e2 : (n : Int) % 16 = (r : Int) := by omega
 have hw : IntKind.u16.wrap (r : Int) = (r : Int) := by rw [IntKind.wrap_u16]; omega
 have hm : (r : Int) % 65536 = (r : Int) := by omega
 clear h
 unfold execOp
 simp only [ho, hx, hc]
 go_simp
theorem quo_16u {n r : Nat} (h : r = n / 16) (hn : n < 65536) (ho : op.op = .binOp .quo 39 x (.const (.int .u16 16)) 39) (hx : a.eval x = .int .u16 (n : Int)) : (execOp a.eval op).run Tryd.prog w = .ok (.value (.int .u16 (r : Int))) w := by
 have hc : a.eval (.const (.int .u16 16)) = .int .u16 16 := rfl
 have e : (n : Int).tdiv 16 = (r : Int) := by rw [Int.tdiv_eq_ediv_of_nonneg (by omega)]; omega
 have e2 : (n : Int) / 16 = (r : Int) := by omega
 have hw : IntKind.u16.wrap (r : Int) = (r : Int) := by rw [IntKind.wrap_u16]; omega
 have hm : (r : Int) % 65536 = (r : Int) := by omega
 clear h
 unfold execOp
 simp only [ho, hx, hc]
 go_simp
theorem mul_uu {i j k : Nat} (h : k = i * j) (hk : k < 65536) (ho : op.op = .binOp .mul 39 x y 39) (hx : a.eval x = .int .u16 (i : Int)) (hy : a.eval y = .int .u16 (j : Int)) : (execOp a.eval op).run Tryd.prog w = .ok (.value (.int .u16 (k : Int))) w := by
 have he : (i : Int) * (j : Int) = (k : Int) := by rw [h, Int.natCast_mul]
 have hw : IntKind.u16.wrap (k : Int) = (k : Int) := by rw [IntKind.wrap_u16]; omega
 have hm : (k : Int) % 65536 = (k : Int) := by omega
 clear h
 unfold execOp
 simp only [ho, hx, hy]
 go_simp
theorem rem_16i {n r : Nat} (h : r = n % 16) (hn : n < 65536) (ho : op.op = .binOp .rem 3 x (.const (.int .i64 16)) 3) (hx : a.eval x = .int .i64 (n : Int)) : (execOp a.eval op).run Tryd.prog w = .ok (.value (.int .i64 (r : Int))) w := by
 have hc : a.eval (.const (.int .i64 16)) = .int .i64 16 := rfl
 have e : (n : Int).tmod 16 = (r : Int) := by rw [Int.tmod_eq_emod_of_nonneg (by omega)]; omega
 have e2 : (n : Int) % 16 = (r : Int) := by omega
 have hw : IntKind.i64.wrap (r : Int) = (r : Int) := by rw [IntKind.wrap_i64]; omega
 clear h
 unfold execOp
 simp only [ho, hx, hc]
 go_simp
theorem quo_16i {n r : Nat} (h : r = n / 16) (hn : n < 65536) (ho : op.op = .binOp .quo 3 x (.const (.int .i64 16)) 3) (hx : a.eval x = .int .i64 (n : Int)) : (execOp a.eval op).run Tryd.prog w = .ok (.value (.int .i64 (r : Int))) w := by
 have hc : a.eval (.const (.int .i64 16)) = .int .i64 16 := rfl
 have e : (n : Int).tdiv 16 = (r : Int) := by rw [Int.tdiv_eq_ediv_of_nonneg (by omega)]; omega
 have e2 : (n : Int) / 16 = (r : Int) := by omega
 have hw : IntKind.i64.wrap (r : Int) = (r : Int) := by rw [IntKind.wrap_i64]; omega
 clear h
 unfold execOp
 simp only [ho, hx, hc]
 go_simp
theorem idx_two {k : Nat} {l : List Value} {v : Value} (hk : k < 2) (h : l[k]? = some v) (ho : op.op = .index 118 x y) (hx : a.eval x = .agg l.toArray) (hy : a.eval y = .int .i64 (k : Int)) : (execOp a.eval op).run Tryd.prog w = .ok (.value v) w := by
 have h1 := run_idx 118 2 Tryd.underlying118 w l k v hk h
 unfold execOp
 simp only [ho, hx, hy]
 go_simp
end
theorem built_two (x y : Int) : Tryd.prog.built 118 [(0, .int .u16 x), (1, .int .u16 y)] = some [.int .u16 x, .int .u16 y].toArray := by kernel_rfl
/-- the answer is a polynomial and a code; block g alone has turned -/
def SampIs (w : World) (g : Nat) (xs : Nat → Nat) (e : Ending) (w' : World) : Prop := e = .returned (.tuple #[polyV (smpF xs), .int .i64 (smpE xs)]) ∧ But w.heap.size g w w'
end Go.Proofs.YtbjpbeplpljieaaDoor

/-
 THE PROGRAM'S OWN sampled.
-/
namespace Go.Proofs.YtbjpbeplpljieaaDoor
open Go.RowKit
set_option maxRecDepth 100000
set_option maxHeartbeats 4000000 in
theorem sampled_any (g : Nat) (S : Sp) (w : World) (hx : XofAt w g S 168 0) (hv : KVars w) (hg : 0 ≠ g) (ha : S.at_ ≤ 168) (hgl : g < w.heap.size) (xs : Nat → Nat) (hxs : xs = grp (nb (S.outs 168 3072))) : Calls Tryd.prog 93 #[.func (.func 58) #[.pointer (some ⟨g, 0, none⟩)] #[]] w (SampIs w g xs) := by
 unfold SampIs polyV
 generalize hN : w.heap.size = N at *
 have HX : Shh (∀ t, t < 1024 → xs (2 * t) = nb ((S.behind 168 (3 * t)).outs 168 3) 0 + 256 * (nb ((S.behind 168 (3 * t)).outs 168 3) 1 % 16) ∧ xs (2 * t + 1) = nb ((S.behind 168 (3 * t)).outs 168 3) 1 / 16 + 16 * nb ((S.behind 168 (3 * t)).outs 168 3) 2) := ⟨fun t ht => by
  rw [group_bytes 168 S 3072 t 0 (by omega) (by decide), group_bytes 168 S 3072 t 1 (by omega) (by decide), group_bytes 168 S 3072 t 2 (by omega) (by decide), hxs, grp_one, grp_two]
  exact ⟨rfl, rfl⟩⟩
 have HA : Shh (∀ t, (S.behind 168 (3 * t)).at_ ≤ 168 ∧ (S.behind 168 (3 * t)).behind 168 3 = S.behind 168 (3 * (t + 1)) ∧ ((S.behind 168 (3 * t)).outs 168 3).length = 3) := ⟨fun t => ⟨Sp.behind_at 168 (by decide) _ S ha, by rw [← behind_add13]; rfl, Sp.outs_length _ _ _⟩⟩
 have HG0 : Shh (0 ≠ g) := ⟨hg⟩
 have HI0 : Shh (XofAt w g S 168 0 ∧ KVars w ∧ g < N ∧ StA xs 0 0 (fun _ => 0) ∧ w.heap.size = N) := ⟨hx, hv, hgl, StA.start xs, hN⟩
 clear hx hv hg ha hgl hxs hN
 obtain ⟨FF, hFF⟩ : ∃ F, F = smpF xs := ⟨_, rfl⟩
 obtain ⟨ee, hee⟩ : ∃ F, F = smpE xs := ⟨_, rfl⟩
 have HF : Shh ((∀ n f, StA xs 2048 n f → n < 256 → ee = 130 ∧ FF = fun _ => 0) ∧ ∀ k f, k ≤ 2048 → StA xs k 256 f → ee = 0 ∧ FF = f) := ⟨by
  rw [hFF, hee]
  exact ⟨fun n f h hn => h.short hn, fun k f hk h => (h.full hk).whole⟩⟩
 rw [← hFF, ← hee]
 clear hFF hee
 go_enter Tryd.func93, Tryd.ntmps93
 go_wp2_with (refine wl_allocS 2 rfl rfl rfl ?_)
 intro N1 w2 hN1 r2 b2
 simp only [Act.put, arr9, hd9, tl9]
 obtain rfl : N = N1 := HI0.out.2.2.2.2.symm.trans hN1.out.symm
 have HI1 : Shh (XofAt w2 g S 168 0 ∧ KVars w2 ∧ g < N ∧ StA xs 0 0 (fun _ => 0) ∧ Row w2 N 62 (pc fun _ => 0) ∧ Below N w w2) := by
  obtain ⟨h1, h2, h3, h4, h5⟩ := HI0.out
  rw [h5] at b2
  exact ⟨⟨SpAt.below h1 (h5.symm ▸ b2), h2.step (h5.symm ▸ b2), h3, h4, r2, b2⟩⟩
 clear r2 b2 hN1 HI0
 go_wp2
 go_step3
 go_wp2_with (refine wl_allocS 4 rfl rfl rfl ?_)
 intro G w3 hG r3 b3
 simp only [Act.put, arr9, hd9, tl9]
 have HJ : Shh (StA xs (2 * 0) 0 (fun _ => 0) ∧ Row w3 N 62 (pc fun _ => 0) ∧ Row w3 G 62 (pc (fun _ => 0)) ∧ XofAt w3 g (S.behind 168 (3 * 0)) 168 (3 * 0) ∧ KVars w3 ∧ But N g w w3 ∧ g < N ∧ N < G) := by
  obtain ⟨h1, h2, h3, h4, h5, h6⟩ := HI1.out
  exact ⟨⟨h4, h5.go b3, r3, SpAt.below h1 b3, h2.step b3, But.of (h6.trans (b3.mono (Nat.le_of_lt h5.lt))) g, h3, by rw [hG.out]; exact h5.lt⟩⟩
 clear r3 b3 HI1 hG
 go_wp2
 go_step3
 go_wp2
 go_loopg [5, 13] 1024 (fun gk s5 s13 wr => ∃ (t n : Nat) (f : Nat → Nat), t + gk = 1024 ∧ s13 = .int .i64 (t : Int) ∧ s5 = .int .i64 (n : Int) ∧ n < 256 ∧ Shh (StA xs (2 * t) n f ∧ Row wr N 62 (pc fun _ => 0) ∧ Row wr G 62 (pc f) ∧ XofAt wr g (S.behind 168 (3 * t)) 168 (3 * t) ∧ KVars wr ∧ But N g w wr ∧ g < N ∧ N < G))
 case atStart => exact ⟨0, 0, fun _ => 0, rfl, rfl, rfl, by decide, HJ⟩
 case round =>
  clear HJ
  obtain ⟨t, n, f, htk, rfl, rfl, hn, HI⟩ := hrel
  cases gk with
  | zero =>
   have ht : ¬ (t : Int) < 1024 := by omega
   have hn2 : (n : Int) < 256 := by omega
   have h1 := HI.out.1
   rw [show 2 * t = 2048 by omega] at h1
   obtain ⟨rfl, rfl⟩ := HF.out.1 n f h1 hn
   clear h1 HF HX HA
   go_wp2_with (first | refine wl_at 63 rfl (.agg (pc fun _ => 0).toArray) rfl (build_poly rfl) ?_ | refine wpList_store_any rfl 62 (.tmp 2) (.tmp 63) rfl N rfl (pc fun _ => 0) rfl 62 _ HI.out.2.1 (info_poly.trans (size_poly _)) rfl (pc_one _) ?_)
   intro w9 hr9 b9 _
   have hb9 : But N g w w9 := HI.out.2.2.2.2.2.1.trans (But.of (b9.under (Nat.le_of_lt HI.out.2.1.lt) (Nat.le_refl _)) g)
   go_wp2
   try rw [Exit.noGoto_ret]
   exact ret_rs7 Tryd.results93 rfl rfl rfl hr9 Tryd.underlying62 rfl (info_poly.trans (size_poly _)) ⟨rfl, hb9⟩
  | succ g' =>
   have ht : (t : Int) < 1024 := by omega
   have hax := HA.out t
   have hxx := HX.out t (by omega)
   have CR : Shh (Calls Tryd.prog 58 #[.pointer (some ⟨g, 0, none⟩), .int .i64 3] wr (ReadIs wr g (S.behind 168 (3 * t)) 168 (3 * t) 3)) := ⟨read_any HI.out.2.2.2.1 HI.out.2.2.2.2.1 HG0.out hax.1 (by decide) (by decide) 3 (by decide) (by omega)⟩
   have HB : Shh (((S.behind 168 (3 * t)).behind 168 3 = S.behind 168 (3 * (t + 1))) ∧ Lib.byteCells ((S.behind 168 (3 * t)).outs 168 3) = [.int .u8 (nb ((S.behind 168 (3 * t)).outs 168 3) 0 : Int), .int .u8 (nb ((S.behind 168 (3 * t)).outs 168 3) 1 : Int), .int .u8 (nb ((S.behind 168 (3 * t)).outs 168 3) 2 : Int)]) := ⟨hax.2.1, three_list _ hax.2.2⟩
   obtain ⟨a0, Ha0⟩ : ∃ b, Shh (b = nb ((S.behind 168 (3 * t)).outs 168 3) 0 ∧ b < 256) := ⟨_, ⟨rfl, nb_lt _ _⟩⟩
   obtain ⟨a1, Ha1⟩ : ∃ b, Shh (b = nb ((S.behind 168 (3 * t)).outs 168 3) 1 ∧ b < 256) := ⟨_, ⟨rfl, nb_lt _ _⟩⟩
   obtain ⟨a2, Ha2⟩ : ∃ b, Shh (b = nb ((S.behind 168 (3 * t)).outs 168 3) 2 ∧ b < 256) := ⟨_, ⟨rfl, nb_lt _ _⟩⟩
   rw [← Ha0.out.1, ← Ha1.out.1, ← Ha2.out.1] at HB
   rw [← Ha0.out.1, ← Ha1.out.1, ← Ha2.out.1] at hxx
   clear hax
   obtain ⟨m1, Hm1⟩ : ∃ b, Shh (b = a1 % 16) := ⟨_, ⟨rfl⟩⟩
   obtain ⟨m2, Hm2⟩ : ∃ b, Shh (b = 256 * m1) := ⟨_, ⟨rfl⟩⟩
   obtain ⟨d1, Hd1⟩ : ∃ b, Shh (b = a1 / 16) := ⟨_, ⟨rfl⟩⟩
   obtain ⟨d2, Hd2⟩ : ∃ b, Shh (b = 16 * a2) := ⟨_, ⟨rfl⟩⟩
   have HL : Shh (m1 < 16 ∧ m2 < 65536 ∧ d1 < 16 ∧ d2 < 65536 ∧ a0 + m2 < 65536 ∧ d1 + d2 < 65536) := ⟨by
    have := Ha0.out.2; have := Ha1.out.2; have := Ha2.out.2; have := Hm1.out; have := Hm2.out; have := Hd1.out; have := Hd2.out
    omega⟩
   have HE : Shh (xs (2 * t) = a0 + m2 ∧ xs (2 * t + 1) = d1 + d2) := ⟨by rw [hxx.1, hxx.2, Hm2.out, Hm1.out, Hd1.out, Hd2.out]; exact ⟨rfl, rfl⟩⟩
   clear hxx
   go_wp2_with (go_at_call 58; refine (CR.out).mono ?_)
   rintro e w4 ⟨rfl, r4, x4, b4⟩
   rw [HB.out.2] at r4
   rw [HB.out.1] at x4
   have HJ : Shh (StA xs (2 * t) n f ∧ Row w4 N 62 (pc fun _ => 0) ∧ Row w4 G 62 (pc f) ∧ XofAt w4 g (S.behind 168 (3 * (t + 1))) 168 (3 * (t + 1)) ∧ KVars w4 ∧ But N g w w4 ∧ g < N ∧ N < G) := by
    obtain ⟨h1, h2, h3, h4, h5, h6, h7, h8⟩ := HI.out
    exact ⟨⟨h1, b4.row h2 h2.lt (by omega), b4.row h3 h3.lt (by omega), x4, h5.but b4 HG0.out, h6.trans (b4.mono (Nat.le_of_lt h2.lt)), h7, h8⟩⟩
   have c0 := r4.cell 0
   have c1 := r4.cell 1
   have c2 := r4.cell 2
   simp only [List.getElem?_cons_zero, List.getElem?_cons_succ] at c0 c1 c2
   generalize wr.heap.size = q at *
   clear r4 x4 b4 HI CR HB
   go_wp2
   have HK : Shh (StA xs (2 * t) n f ∧ Row w4.drew N 62 (pc fun _ => 0) ∧ Row w4.drew G 62 (pc f) ∧ XofAt w4.drew g (S.behind 168 (3 * (t + 1))) 168 (3 * (t + 1)) ∧ KVars w4.drew ∧ But N g w w4.drew ∧ g < N ∧ N < G) := by
    obtain ⟨h1, h2, h3, h4, h5, h6, h7, h8⟩ := HJ.out
    exact ⟨⟨h1, h2.drew, h3.drew, SpAt.drew h4, h5.drew, h6.drew, h7, h8⟩⟩
   clear HJ
   refine wp_region_held_drew (S := fun W => W.cell? ⟨q, 0, none⟩ = some (.int .u8 (a0 : Int)) ∧ W.cell? ⟨q, 1, none⟩ = some (.int .u8 (a1 : Int)) ∧ W.cell? ⟨q, 2, none⟩ = some (.int .u8 (a2 : Int))) (by kernel_rfl) ⟨c0, c1, c2⟩ (fun hS => ?_)
   clear c0 c1 c2
   obtain ⟨U, hU⟩ : ∃ V, V = World.drew w4 := ⟨_, rfl⟩
   rw [← hU] at HK hS ⊢
   clear hU
   refine hdv0 0 24 (.slice (some ⟨q, 0, none⟩) 3 3) (by rfl) (hS) ?_
   refine hdv0 1 25 (.pointer (some ⟨q, 0, none⟩)) (by rfl) (hS) ?_
   refine hdv 2 26 (.int .u8 (a0 : Int)) (by rfl) (fun w hS => load_u8x (n := a0) rfl hS.1 (by kernel_rfl)) (hS) ?_
   refine hdv 3 27 (.int .u16 (a0 : Int)) (by rfl) (fun w hS => conv_816 (n := a0) Ha0.out.2 rfl (by kernel_rfl)) (hS) ?_
   refine hdv0 4 28 (.slice (some ⟨q, 0, none⟩) 3 3) (by rfl) (hS) ?_
   refine hdv0 5 29 (.pointer (some ⟨q, 1, none⟩)) (by rfl) (hS) ?_
   refine hdv 6 30 (.int .u8 (a1 : Int)) (by rfl) (fun w hS => load_u8x (n := a1) rfl hS.2.1 (by kernel_rfl)) (hS) ?_
   refine hdv 7 31 (.int .u16 (a1 : Int)) (by rfl) (fun w hS => conv_816 (n := a1) Ha1.out.2 rfl (by kernel_rfl)) (hS) ?_
   refine hdv0 8 32 (.slice (some ⟨q, 0, none⟩) 3 3) (by rfl) (hS) ?_
   refine hdv0 9 33 (.pointer (some ⟨q, 2, none⟩)) (by rfl) (hS) ?_
   refine hdv 10 34 (.int .u8 (a2 : Int)) (by rfl) (fun w hS => load_u8x (n := a2) rfl hS.2.2 (by kernel_rfl)) (hS) ?_
   refine hdv 11 35 (.int .u16 (a2 : Int)) (by rfl) (fun w hS => conv_816 (n := a2) Ha2.out.2 rfl (by kernel_rfl)) (hS) ?_
   refine hdv0 12 8 (.int .u16 (a0 : Int)) (by rfl) (hS) ?_
   refine hdv0 13 9 (.int .u16 (a1 : Int)) (by rfl) (hS) ?_
   refine hdv0 14 10 (.int .u16 (a2 : Int)) (by rfl) (hS) ?_
   refine wpAnyH_done (by kernel_rfl) ?_ _
   clear hS
   go_wp2_with (first | refine wl_at 38 rfl (.int .u16 (m1 : Int)) rfl (rem_16u (n := a1) Hm1.out (by have := Ha1.out.2; omega) rfl rfl) ?_ | refine wl_at 39 rfl (.int .u16 (m2 : Int)) rfl (mul_uu (i := 256) (j := m1) Hm2.out HL.out.2.1 rfl rfl rfl) ?_ | refine wl_at 40 rfl (.int .u16 ((a0 + m2 : Nat) : Int)) rfl (add_uu (i := a0) (j := m2) ⟨rfl, HL.out.2.2.2.2.1⟩ rfl rfl rfl) ?_ | refine wl_at 42 rfl (.int .u16 (d1 : Int)) rfl (quo_16u (n := a1) Hd1.out (by have := Ha1.out.2; omega) rfl rfl) ?_ | refine wl_at 44 rfl (.int .u16 (d2 : Int)) rfl (mul_uu (i := 16) (j := a2) Hd2.out HL.out.2.2.2.1 rfl rfl rfl) ?_ | refine wl_at 45 rfl (.int .u16 ((d1 + d2 : Nat) : Int)) rfl (add_uu (i := d1) (j := d2) ⟨rfl, HL.out.2.2.2.2.2⟩ rfl rfl rfl) ?_ | refine wpList_build_eq rfl 118 _ rfl [.int .u16 ((a0 + m2 : Nat) : Int), .int .u16 ((d1 + d2 : Nat) : Int)].toArray (built_two _ _) ?_)
   have HT : Shh (∀ j, j < 2 → [Value.int .u16 ((a0 + m2 : Nat) : Int), Value.int .u16 ((d1 + d2 : Nat) : Int)][j]? = some (.int .u16 (xs (2 * t + j) : Int)) ∧ xs (2 * t + j) < 65536) := ⟨fun j hj => by
    have := HL.out
    match j, hj with
    | 0, _ => exact ⟨by rw [show xs (2 * t + 0) = a0 + m2 from HE.out.1]; rfl, by rw [show xs (2 * t + 0) = a0 + m2 from HE.out.1]; omega⟩
    | 1, _ => exact ⟨by rw [HE.out.2]; rfl, by rw [HE.out.2]; omega⟩⟩
   clear HE HL Hm1 Hm2 Hd1 Hd2 Ha0 Ha1 Ha2
   go_loopg [5, 47] 2 (fun gj s5 s47 wq => ∃ (j n2 : Nat) (f2 : Nat → Nat), j + gj = 2 ∧ s47 = .int .i64 (j : Int) ∧ s5 = .int .i64 (n2 : Int) ∧ n2 < 256 ∧ Shh (StA xs (2 * t + j) n2 f2 ∧ Row wq N 62 (pc fun _ => 0) ∧ Row wq G 62 (pc f2) ∧ XofAt wq g (S.behind 168 (3 * (t + 1))) 168 (3 * (t + 1)) ∧ KVars wq ∧ But N g w wq ∧ g < N ∧ N < G))
   case atStart => exact ⟨0, n, f, rfl, rfl, rfl, hn, HK⟩
   case round =>
    clear HK
    obtain ⟨j, n2, f2, hjk, rfl, rfl, hn2, HK⟩ := hrel
    cases gk with
    | zero =>
     have hj : ¬ (j : Int) < 2 := by omega
     obtain rfl : j = 2 := by omega
     have HK2 : Shh (StA xs (2 * (t + 1)) n2 f2 ∧ Row wr N 62 (pc fun _ => 0) ∧ Row wr G 62 (pc f2) ∧ XofAt wr g (S.behind 168 (3 * (t + 1))) 168 (3 * (t + 1)) ∧ KVars wr ∧ But N g w wr ∧ g < N ∧ N < G) := HK
     clear HK HT
     go_wp2
     go_roundg g'
     case measure => omega
     case rel => exact ⟨t + 1, n2, f2, by omega, by go_num, rfl, hn2, HK2⟩
    | succ h' =>
     have hj : (j : Int) < 2 := by omega
     have hj2 : j < 2 := by omega
     obtain ⟨ht1, ht2⟩ := HT.out j hj2
     have HZ := Shh.mk ht1
     have HS1 : Shh (xs (2 * t + j) < 3329 → StA xs (2 * t + (j + 1)) (n2 + 1) (upd f2 n2 (xs (2 * t + j)))) := ⟨fun h => HK.out.1.take h hn2⟩
     have HS2 : Shh (¬ xs (2 * t + j) < 3329 → StA xs (2 * t + (j + 1)) n2 f2) := ⟨fun h => HK.out.1.skip h⟩
     clear ht1 HT
     obtain ⟨x, hxe⟩ : ∃ x, x = xs (2 * t + j) := ⟨_, rfl⟩
     rw [← hxe] at HZ HS1 HS2 ht2
     clear hxe
     by_cases hx : x < 3329
     ·have hx2 : ¬ (3329 : Int) ≤ (x : Int) := by omega
      have HS3 := Shh.mk (HS1.out hx)
      clear HS1 HS2 ht2
      by_cases hf : n2 = 255
      ·subst hf
       go_wp2_with (first | refine wl_at 49 rfl (.int .u16 (x : Int)) rfl (idx_two hj2 HZ.out rfl rfl rfl) ?_ | refine wl_at 54 rfl (.pointer (some ⟨G, 255, none⟩)) rfl (at_poly (by decide) rfl rfl rfl) ?_ | refine wl_storeP rfl (k := 255) (by decide) rfl rfl rfl HK.out.2.2.1 ?_)
       intro w5 r5 b5 z5
       obtain ⟨rfl, rfl⟩ := HF.out.2 _ _ (by omega) HS3.out
       have HO : Shh (Row w5 N 62 (pc fun _ => 0) ∧ Row w5 G 62 (pc (upd f2 255 x)) ∧ But N g w w5) := by
        obtain ⟨h1, h2, h3, h4, h5, h6, h7, h8⟩ := HK.out
        exact ⟨⟨b5.row h2 h2.lt (by omega), r5, h6.trans (But.of (b5.under (Nat.le_of_lt h2.lt) (Nat.le_of_lt h8)) g)⟩⟩
       clear r5 b5 z5 HK HF
       go_wp2_with (first
        | refine wpList_load_any rfl 62 (.tmp 4) rfl G rfl 62 (pc (upd f2 255 x)) (.array 256 39) HO.out.2.1 Tryd.underlying62 rfl (info_poly.trans (size_poly _)) ?_
        | refine wpList_store_any rfl 62 (.tmp 2) (.tmp 64) rfl N rfl (pc (upd f2 255 x)) rfl 62 _ HO.out.1 (info_poly.trans (size_poly _)) (by rw [pc_length, pc_length]) (pc_one _) ?_)
       intro w9 hr9 b9 _
       have hb9 : But N g w w9 := HO.out.2.2.trans (But.of (b9.under (Nat.le_of_lt HO.out.1.lt) (Nat.le_refl _)) g)
       go_wp2
       try rw [Exit.noGoto_ret]
       exact ret_rs7 Tryd.results93 rfl rfl rfl hr9 Tryd.underlying62 rfl (info_poly.trans (size_poly _)) ⟨rfl, hb9⟩
      ·have hn3 : n2 + 1 < 256 := by omega
       have hf2 : ¬ (n2 : Int) + 1 = 256 := by omega
       go_wp2_with (first | refine wl_at 49 rfl (.int .u16 (x : Int)) rfl (idx_two hj2 HZ.out rfl rfl rfl) ?_ | refine wl_at 54 rfl (.pointer (some ⟨G, n2, none⟩)) rfl (at_poly hn2 rfl rfl rfl) ?_ | refine wl_storeP rfl hn2 rfl rfl rfl HK.out.2.2.1 ?_)
       intro w5 r5 b5 z5
       have HO : Shh (StA xs (2 * t + (j + 1)) (n2 + 1) (upd f2 n2 x) ∧ Row w5 N 62 (pc fun _ => 0) ∧ Row w5 G 62 (pc (upd f2 n2 x)) ∧ XofAt w5 g (S.behind 168 (3 * (t + 1))) 168 (3 * (t + 1)) ∧ KVars w5 ∧ But N g w w5 ∧ g < N ∧ N < G) := by
        obtain ⟨h1, h2, h3, h4, h5, h6, h7, h8⟩ := HK.out
        have hB := b5.under (Nat.le_of_lt h2.lt) (Nat.le_of_lt h8)
        have hgw : g < wr.heap.size := Nat.lt_trans h7 h2.lt
        have hB2 : Below G wr w5 := b5.under (Nat.le_of_lt h3.lt) (Nat.le_refl _)
        exact ⟨⟨HS3.out, b5.row h2 h2.lt (by omega), r5, ⟨b5.row h4.row hgw (by omega), rfl, h4.len⟩, h5.under hB2 (by have := h5.pos; omega), h6.trans (But.of hB g), h7, h8⟩⟩
       clear r5 b5 z5 HK HS3
       go_wp2
       go_roundg h'
       case measure => omega
       case rel => exact ⟨j + 1, n2 + 1, _, by omega, by go_num, by go_num, hn3, HO⟩
     ·have hx2 : (3329 : Int) ≤ (x : Int) := by omega
      have HO : Shh (StA xs (2 * t + (j + 1)) n2 f2 ∧ Row wr N 62 (pc fun _ => 0) ∧ Row wr G 62 (pc f2) ∧ XofAt wr g (S.behind 168 (3 * (t + 1))) 168 (3 * (t + 1)) ∧ KVars wr ∧ But N g w wr ∧ g < N ∧ N < G) := ⟨⟨HS2.out hx, HK.out.2⟩⟩
      clear HS1 HS2 ht2 HK
      go_wp2_with (refine wl_at 49 rfl (.int .u16 (x : Int)) rfl (idx_two hj2 HZ.out rfl rfl rfl) ?_)
      go_roundg h'
      case measure => omega
      case rel => exact ⟨j + 1, n2, f2, by omega, by go_num, rfl, hn2, HO⟩
end Go.Proofs.YtbjpbeplpljieaaDoor

/-
 THE PROGRAM'S OWN SampleNtt.
-/
namespace Go.Proofs.YtbjpbeplpljieaaDoor
open Go.RowKit
set_option maxRecDepth 100000
set_option maxHeartbeats 2000000 in
theorem SampleNtt_any (B : Nat) (v : Value) (m : List UInt8) (hl : m.length = 34) (w : World) (hs : Sl w B v m) (hB : B ≤ w.heap.size) (hv : KVars w) (xs : Nat → Nat) (hxs : xs = grp (nb (spongeL 168 31 m 3072))) : Calls Tryd.prog 85 #[v] w (CodeIs w (smpF xs) (smpE xs)) := by
 unfold CodeIs polyV
 have hpos := hv.pos
 have i3 : (m.length : Int) ≤ 34 := by omega
 have i4 : (34 : Int) ≤ (m.length : Int) := by omega
 generalize hN : w.heap.size = N at *
 obtain ⟨FF, hFF⟩ : ∃ F, F = smpF xs := ⟨_, rfl⟩
 obtain ⟨ee, hee⟩ : ∃ F, F = smpE xs := ⟨_, rfl⟩
 have HC : Shh (∀ g W, XofAt W g (absorbL 168 31 [m].flatten) 168 0 → KVars W → 0 ≠ g → g < W.heap.size → Calls Tryd.prog 93 #[.func (.func 58) #[.pointer (some ⟨g, 0, none⟩)] #[]] W (fun e w' => e = .returned (.tuple #[.agg (pc FF).toArray, .int .i64 ee]) ∧ But W.heap.size g W w')) := ⟨fun g W hx hv hg hgl => by
  rw [hFF, hee]
  refine sampled_any g (absorbL 168 31 [m].flatten) W hx hv hg (Nat.le_refl _) hgl xs ?_
  rw [hxs, show [m].flatten = m by simp]
  rfl⟩
 rw [← hFF, ← hee]
 clear hFF hee hxs hl
 obtain ⟨A, c, rfl, _, _⟩ := hs.form
 have HS0 : Shh (Sl w B (.slice A m.length c) m ∧ B ≤ N ∧ KVars w ∧ w.heap.size = N ∧ 0 < N) := ⟨hs, hB, hv, hN, hpos⟩
 clear hs hB hv hN hpos
 generalize m.length = ln at *
 go_enter Tryd.func85, Tryd.ntmps85
 go_wp2_with (refine wl_allocS 2 rfl rfl rfl ?_)
 intro N1 w2 hN1 r2 b2
 simp only [Act.put, arr9, hd9, tl9]
 obtain rfl : N = N1 := HS0.out.2.2.2.1.symm.trans hN1.out.symm
 have HI : Shh (Sl w2 B (.slice A ln c) m ∧ KVars w2 ∧ Row w2 N 62 (pc fun _ => 0) ∧ Below N w w2 ∧ B ≤ N ∧ N < w2.heap.size ∧ 0 < N) := by
  obtain ⟨h1, h2, h3, h4, h5⟩ := HS0.out
  rw [h4] at b2
  exact ⟨⟨h1.below (b2.mono h2), h3.step (h4.symm ▸ b2), r2, b2, h2, r2.lt, h5⟩⟩
 clear r2 b2 hN1 HS0
 go_wp2_with (go_at_call 57; refine (shake128_any [m] (by simp) (w2.heap.size + 1) _ _ (PartsO.solo (Row.new_ rfl rfl) (Nat.lt_succ_self _) (by omega) ((HI.out.1.below ((bel1 _ _).mono (by have := HI.out; omega))).more (by have := HI.out; omega)) (HI.out.1.off (by have := HI.out; omega))) (by rw [asz]; exact Nat.le_refl _) (HI.out.2.1.step (bel1 _ _))).mono ?_)
 rintro e w4 ⟨gx, rfl, hgx, hx, b4⟩
 have HJ : Shh (XofAt w4 gx (absorbL 168 31 [m].flatten) 168 0 ∧ KVars w4 ∧ Row w4 N 62 (pc fun _ => 0) ∧ Below N w w4 ∧ N < gx ∧ 0 ≠ gx ∧ N < w4.heap.size) := by
  obtain ⟨h1, h2, h3, h4, h5, h6, h7⟩ := HI.out
  rw [asz] at hgx
  have b5 := Below.chain (bel1 w2 _) b4
  exact ⟨⟨hx, h2.step b5, h3.go b5, h4.trans (b5.mono (Nat.le_of_lt h6)), by omega, by omega, Nat.lt_of_lt_of_le h6 b5.size⟩⟩
 clear hgx hx b4 HI
 go_wp2_with (go_at_call 93; refine (HC.out gx w4 HJ.out.1 HJ.out.2.1 HJ.out.2.2.2.2.2.1 (SpAt.lt HJ.out.1)).mono ?_)
 rintro e w5 ⟨rfl, b5⟩
 have HK : Shh (Row w5 N 62 (pc fun _ => 0) ∧ Below N w w5) := by
  obtain ⟨h1, h2, h3, h4, h5, h6, h7⟩ := HJ.out
  exact ⟨⟨b5.row h3 h7 (by omega), h4.trans (b5.under (Nat.le_of_lt h7) (Nat.le_of_lt h5))⟩⟩
 clear b5 HJ HC
 go_wp2_with (refine wpList_store_any rfl 62 (.tmp 2) (.tmp 13) rfl N rfl (pc FF) rfl 62 _ HK.out.1 (info_poly.trans (size_poly _)) (by rw [pc_length, pc_length]) (pc_one _) ?_)
 intro w9 hr9 b9 _
 have hb9 : Below N w w9 := HK.out.2.trans (b9.under (Nat.le_of_lt HK.out.1.lt) (Nat.le_refl _))
 go_wp2
 exact ret_rs7 Tryd.results85 rfl rfl rfl hr9 Tryd.underlying62 rfl (info_poly.trans (size_poly _)) ⟨rfl, hb9⟩
set_option maxHeartbeats 1000000 in
theorem SampleNtt_bad (B : Nat) (v : Value) (m : List UInt8) (hl : ¬ m.length = 34) (w : World) (hs : Sl w B v m) : Calls Tryd.prog 85 #[v] w (CodeIs w (fun _ => 0) 1) := by
 unfold CodeIs polyV
 obtain ⟨A, c, rfl, _, _⟩ := hs.form
 have h3 : ¬ (m.length : Int) = 34 := by omega
 generalize hN : w.heap.size = N at *
 clear hs hl
 generalize m.length = ln at *
 have HL1 : Shh (Row (w.alloc (.cells (pc fun _ => 0).toArray 62)) N 62 (pc fun _ => 0) ∧ Below N w (w.alloc (.cells (pc fun _ => 0).toArray 62))) := by
  refine ⟨Row.new_ hN.symm rfl, ?_⟩
  rw [← hN]
  exact bel1 _ _
 go_enter Tryd.func85, Tryd.ntmps85
 go_wp2_with (first | refine wl_allocP rfl rfl ?_ | refine wl_at 7 rfl (.agg (pc fun _ => 0).toArray) rfl (build_poly rfl) ?_ | refine wpList_store_any rfl 62 (.tmp 2) (.tmp 7) rfl N rfl (pc fun _ => 0) rfl 62 _ HL1.out.1 (info_poly.trans (size_poly _)) rfl (pc_one _) ?_)
 intro w9 hr9 b9 _
 have hb9 := HL1.out.2.trans (b9.under (by omega) (by omega))
 go_wp2
 exact ret_rs7 Tryd.results85 rfl rfl rfl hr9 Tryd.underlying62 rfl (info_poly.trans (size_poly _)) ⟨rfl, hb9⟩
end Go.Proofs.YtbjpbeplpljieaaDoor

/-
 THE WALK of octet.Join: parts wherever they lie.
-/
namespace Go.Proofs.YtbjpbeplpljieaaDoor
open Go.RowKit
set_option maxRecDepth 100000

set_option maxHeartbeats 1000000 in
theorem join_any (B g : Nat) (v : Value) (bss : List (List UInt8)) (w : World) (hp : PartsO w B g v bss) (hB : B ≤ w.heap.size) (hl : bss.flatten.length ≤ 1099511627776) (hn : bss.length ≤ 1000) :
  Calls Tryd.prog 22 #[v] w (OwnIs w bss.flatten) := by
 obtain ⟨i0, hi, hz0, hz1, hz2⟩ := info_parts info_u8
 obtain ⟨A, c, rfl⟩ := hp.form
 have hmk := make0_run bss.flatten.length (by omega)
 obtain ⟨N, hN⟩ : ∃ N, N = bss.flatten.length := ⟨_, rfl⟩
 rw [← hN] at hmk hl
 have HN := Lib.hid hN
 clear hN
 go_enter Tryd.func22, Tryd.ntmps22
 go_wp2
 go_loop [3, 5, 11] (fun s _ i => ∃ k : Nat, k ≤ bss.length ∧ i = .int .i64 k ∧ s = .int .i64 (((bss.take k).flatten.length : Nat) : Int)) (fun _ _ i => bss.length - (intOf i).toNat)
 case atStart => exact ⟨0, Nat.zero_le _, rfl, rfl⟩
 case round =>
  obtain ⟨k, hk, rfl, rfl⟩ := hrel
  by_cases hlt : k < bss.length
  ·obtain ⟨q, off, rfl, hq, hqg, hcc⟩ := hp.at_ (by omega)
   obtain ⟨u, hu, hs, ho⟩ := hcc k hlt
   obtain ⟨A2, c2, rfl, _, _⟩ := hs.form
   have hfl := flat_le bss (k + 1)
   rw [flat_snoc bss k hlt, List.length_append, ← HN.out] at hfl
   have HF : Hid ((bss.take (k + 1)).flatten.length = (bss.take k).flatten.length + bss[k].length) := by
    rw [flat_snoc bss k hlt, List.length_append]; exact Lib.hid rfl
   clear hs ho hcc
   generalize bss[k].length = m at *
   generalize (bss.take k).flatten.length = f0 at *
   go_wp2
   go_round
   case rel => exact ⟨k + 1, by omega, by go_num, by rw [HF.out]; go_num⟩
   case measure => simp [intOf]; omega
  ·obtain rfl : k = bss.length := by omega
   rw [List.take_of_length_le (Nat.le_refl _), ← HN.out]
   go_wp2
   go_loopw [6, 8, 24] (fun o _ i wr => ∃ k : Nat, k ≤ bss.length ∧ i = .int .i64 k ∧ wr.ownsRow w.heap.size 5 1 o (bss.take k).flatten.length (Lib.byteCells (bss.take k).flatten) ∧ Below w.heap.size w wr) (fun _ _ i _ => bss.length - (intOf i).toNat)
   case atStart =>
    exact ⟨0, Nat.zero_le _, rfl, World.ownsRow_made w _ N (Nat.le_refl _) (by unfold maxLen; omega) (by simp [Lib.byteCells]), (Below.refl _ _).alloc (Nat.le_refl _) _⟩
   case round =>
    obtain ⟨k, hk, rfl, hown, hbel⟩ := hrel
    have hpr := hp.below (hbel.mono hB)
    have hsz := hbel.size
    by_cases hlt : k < bss.length
    ·obtain ⟨q, off, rfl, hq, hqg, hcc⟩ := hpr.at_ (by omega)
     obtain ⟨u, hu, hs, ho⟩ := hcc k hlt
     have hfs := flat_snoc bss k hlt
     have hfl := flat_le bss (k + 1)
     rw [hfs, List.length_append, ← HN.out] at hfl
     have HF := Lib.hid hfs
     clear hfs hpr hcc
     generalize bss[k] = cs at *
     generalize (bss.take k).flatten = f0 at *
     go_wp2_with (at_builtin; refine wp_appendSl _ 23 5 i0 Tryd.underlying23 hi hz0 hz1 hz2 rfl _ _ rfl hown hs rfl rfl (by omega) hsz ?_)
     intro v' w1 hown1 _ hb1
     rw [← HF.out] at hown1
     have HO := Lib.hid (own_len hown1 (show f0.length + cs.length = (bss.take (k + 1)).flatten.length by rw [HF.out, List.length_append]))
     clear hown1
     go_wp2
     go_roundw
     case rel => exact ⟨k + 1, by omega, by go_num, HO.out, hbel.trans (hb1 _ (Nat.le_refl _))⟩
     case measure => simp [intOf]; omega
    ·obtain rfl : k = bss.length := by omega
     rw [List.take_of_length_le (Nat.le_refl _)] at hown
     have HO := Lib.hid hown
     clear hown
     go_wp2
     go_ret
     exact ⟨_, rfl, HO.out, hbel⟩
end Go.Proofs.YtbjpbeplpljieaaDoor
