/-
 WALK: keccak.mix.
-/
import Derived.Test.YtapjiknedghhfaaDoorKMixA
import Derived.Test.YtapjiknedghhfaaDoorKMixB
namespace Go.Proofs.YtapjiknedghhfaaDoor
open Go.RowKit
set_option maxRecDepth 100000

set_option maxHeartbeats 2000000 in
theorem mix_any (l : List UInt64) (w : World) (hl : l.length = 25) :
  Calls Tryd.prog 53 #[.agg (laneCells l).toArray] w (LanesIs w (mixL l)) := by
 unfold LanesIs
 generalize hn0 : w.heap.size = n0 at *
 have hr0 : ∀ o, Row ((w.alloc (.cells (laneCells l).toArray 57)).alloc o) n0 57 (laneCells l) := fun o => (Row.new_ hn0.symm rfl).alloc _
 have hr1 : ∀ o, Row ((w.alloc o).alloc (.cells (laneCells (List.replicate 25 0)).toArray 57)) (n0 + 1) 57 (laneCells (List.replicate 25 0)) := fun o => Row.new_ (by rw [asz, hn0]) rfl
 have hb2 : ∀ o o2, Below n0 w ((w.alloc o).alloc o2) := fun o o2 => ((Below.refl n0 w).alloc (by omega) o).alloc (by rw [asz]; omega) o2
 go_enter Tryd.func53, Tryd.ntmps53
 refine wp_seq_k (fun K hK => ?_)
 refine wp_region_list ?_
 refine wl_valueW (.pointer (some ⟨w.heap.size, 0, none⟩)) (w.alloc (.cells (laneCells l).toArray 57)) rfl (by kernel_rfl) ?_
 refine wl_valueW (.pointer (some ⟨(w.alloc (.cells (laneCells l).toArray 57)).heap.size, 0, none⟩)) ((w.alloc (.cells (laneCells l).toArray 57)).alloc (.cells (laneCells (List.replicate 25 0)).toArray 57)) rfl (by kernel_rfl) ?_
 refine wpList_nil (hK _ _ ?_)
 clear hK K
 simp only [Act.put, arr9, hd9, tl9]
 rw [asz, hn0]
 have hrA := hr0 (.cells (laneCells (List.replicate 25 0)).toArray 57)
 have hrB := hr1 (.cells (laneCells l).toArray 57)
 have hbB := hb2 (.cells (laneCells l).toArray 57) (.cells (laneCells (List.replicate 25 0)).toArray 57)
 generalize (w.alloc (.cells (laneCells l).toArray 57)).alloc (.cells (laneCells (List.replicate 25 0)).toArray 57) = W at *
 clear hr0 hr1 hb2
 have hc0 := fun k (h : k < 25) => ((hrA.cell k).trans (laneCells_lane l k (by omega)))
 have c0 := hc0 0 (by decide)
 have c1 := hc0 1 (by decide)
 have c2 := hc0 2 (by decide)
 have c3 := hc0 3 (by decide)
 have c4 := hc0 4 (by decide)
 have c5 := hc0 5 (by decide)
 have c6 := hc0 6 (by decide)
 have c7 := hc0 7 (by decide)
 have c8 := hc0 8 (by decide)
 have c9 := hc0 9 (by decide)
 have c10 := hc0 10 (by decide)
 have c11 := hc0 11 (by decide)
 have c12 := hc0 12 (by decide)
 have c13 := hc0 13 (by decide)
 have c14 := hc0 14 (by decide)
 have c15 := hc0 15 (by decide)
 have c16 := hc0 16 (by decide)
 have c17 := hc0 17 (by decide)
 have c18 := hc0 18 (by decide)
 have c19 := hc0 19 (by decide)
 have c20 := hc0 20 (by decide)
 have c21 := hc0 21 (by decide)
 have c22 := hc0 22 (by decide)
 have c23 := hc0 23 (by decide)
 have c24 := hc0 24 (by decide)
 clear hc0
 refine wp_seq_k (fun K hK => ?_)
 refine wp_region_list ?_
 refine wl_value (.pointer (some ⟨n0, 0, none⟩)) rfl (by kernel_rfl) ?_
 refine wl_value (.int .u64 ((lane l 0).toNat : Int)) rfl (run_load1 rfl Tryd.underlying56 (by kernel_rfl) c0) ?_
 refine wl_value (.pointer (some ⟨n0, 5, none⟩)) rfl (by kernel_rfl) ?_
 refine wl_value (.int .u64 ((lane l 5).toNat : Int)) rfl (run_load1 rfl Tryd.underlying56 (by kernel_rfl) c5) ?_
 refine wl_value (.int .u64 ((lane l 0 ^^^ lane l 5).toNat : Int)) rfl (run_xorL (p := lane l 0) (q := lane l 5) rfl (by kernel_rfl) (by kernel_rfl)) ?_
 refine wl_value (.pointer (some ⟨n0, 10, none⟩)) rfl (by kernel_rfl) ?_
 refine wl_value (.int .u64 ((lane l 10).toNat : Int)) rfl (run_load1 rfl Tryd.underlying56 (by kernel_rfl) c10) ?_
 refine wl_value (.int .u64 ((lane l 0 ^^^ lane l 5 ^^^ lane l 10).toNat : Int)) rfl (run_xorL (p := lane l 0 ^^^ lane l 5) (q := lane l 10) rfl (by kernel_rfl) (by kernel_rfl)) ?_
 refine wl_value (.pointer (some ⟨n0, 15, none⟩)) rfl (by kernel_rfl) ?_
 refine wl_value (.int .u64 ((lane l 15).toNat : Int)) rfl (run_load1 rfl Tryd.underlying56 (by kernel_rfl) c15) ?_
 refine wl_value (.int .u64 ((lane l 0 ^^^ lane l 5 ^^^ lane l 10 ^^^ lane l 15).toNat : Int)) rfl (run_xorL (p := lane l 0 ^^^ lane l 5 ^^^ lane l 10) (q := lane l 15) rfl (by kernel_rfl) (by kernel_rfl)) ?_
 refine wl_value (.pointer (some ⟨n0, 20, none⟩)) rfl (by kernel_rfl) ?_
 refine wl_value (.int .u64 ((lane l 20).toNat : Int)) rfl (run_load1 rfl Tryd.underlying56 (by kernel_rfl) c20) ?_
 refine wl_value (.int .u64 ((lane l 0 ^^^ lane l 5 ^^^ lane l 10 ^^^ lane l 15 ^^^ lane l 20).toNat : Int)) rfl (run_xorL (p := lane l 0 ^^^ lane l 5 ^^^ lane l 10 ^^^ lane l 15) (q := lane l 20) rfl (by kernel_rfl) (by kernel_rfl)) ?_
 refine wl_value (.int .u64 ((colX l 0).toNat : Int)) rfl (by kernel_rfl) ?_
 refine wpList_nil (hK _ _ ?_)
 clear hK K
 simp only [Act.put, arr9, hd9, tl9]
 refine wp_seq_k (fun K hK => ?_)
 refine wp_region_list ?_
 refine wl_value (.pointer (some ⟨n0, 1, none⟩)) rfl (by kernel_rfl) ?_
 refine wl_value (.int .u64 ((lane l 1).toNat : Int)) rfl (run_load1 rfl Tryd.underlying56 (by kernel_rfl) c1) ?_
 refine wl_value (.pointer (some ⟨n0, 6, none⟩)) rfl (by kernel_rfl) ?_
 refine wl_value (.int .u64 ((lane l 6).toNat : Int)) rfl (run_load1 rfl Tryd.underlying56 (by kernel_rfl) c6) ?_
 refine wl_value (.int .u64 ((lane l 1 ^^^ lane l 6).toNat : Int)) rfl (run_xorL (p := lane l 1) (q := lane l 6) rfl (by kernel_rfl) (by kernel_rfl)) ?_
 refine wl_value (.pointer (some ⟨n0, 11, none⟩)) rfl (by kernel_rfl) ?_
 refine wl_value (.int .u64 ((lane l 11).toNat : Int)) rfl (run_load1 rfl Tryd.underlying56 (by kernel_rfl) c11) ?_
 refine wl_value (.int .u64 ((lane l 1 ^^^ lane l 6 ^^^ lane l 11).toNat : Int)) rfl (run_xorL (p := lane l 1 ^^^ lane l 6) (q := lane l 11) rfl (by kernel_rfl) (by kernel_rfl)) ?_
 refine wl_value (.pointer (some ⟨n0, 16, none⟩)) rfl (by kernel_rfl) ?_
 refine wl_value (.int .u64 ((lane l 16).toNat : Int)) rfl (run_load1 rfl Tryd.underlying56 (by kernel_rfl) c16) ?_
 refine wl_value (.int .u64 ((lane l 1 ^^^ lane l 6 ^^^ lane l 11 ^^^ lane l 16).toNat : Int)) rfl (run_xorL (p := lane l 1 ^^^ lane l 6 ^^^ lane l 11) (q := lane l 16) rfl (by kernel_rfl) (by kernel_rfl)) ?_
 refine wl_value (.pointer (some ⟨n0, 21, none⟩)) rfl (by kernel_rfl) ?_
 refine wl_value (.int .u64 ((lane l 21).toNat : Int)) rfl (run_load1 rfl Tryd.underlying56 (by kernel_rfl) c21) ?_
 refine wl_value (.int .u64 ((lane l 1 ^^^ lane l 6 ^^^ lane l 11 ^^^ lane l 16 ^^^ lane l 21).toNat : Int)) rfl (run_xorL (p := lane l 1 ^^^ lane l 6 ^^^ lane l 11 ^^^ lane l 16) (q := lane l 21) rfl (by kernel_rfl) (by kernel_rfl)) ?_
 refine wl_value (.int .u64 ((colX l 1).toNat : Int)) rfl (by kernel_rfl) ?_
 refine wpList_nil (hK _ _ ?_)
 clear hK K
 simp only [Act.put, arr9, hd9, tl9]
 refine wp_seq_k (fun K hK => ?_)
 refine wp_region_list ?_
 refine wl_value (.pointer (some ⟨n0, 2, none⟩)) rfl (by kernel_rfl) ?_
 refine wl_value (.int .u64 ((lane l 2).toNat : Int)) rfl (run_load1 rfl Tryd.underlying56 (by kernel_rfl) c2) ?_
 refine wl_value (.pointer (some ⟨n0, 7, none⟩)) rfl (by kernel_rfl) ?_
 refine wl_value (.int .u64 ((lane l 7).toNat : Int)) rfl (run_load1 rfl Tryd.underlying56 (by kernel_rfl) c7) ?_
 refine wl_value (.int .u64 ((lane l 2 ^^^ lane l 7).toNat : Int)) rfl (run_xorL (p := lane l 2) (q := lane l 7) rfl (by kernel_rfl) (by kernel_rfl)) ?_
 refine wl_value (.pointer (some ⟨n0, 12, none⟩)) rfl (by kernel_rfl) ?_
 refine wl_value (.int .u64 ((lane l 12).toNat : Int)) rfl (run_load1 rfl Tryd.underlying56 (by kernel_rfl) c12) ?_
 refine wl_value (.int .u64 ((lane l 2 ^^^ lane l 7 ^^^ lane l 12).toNat : Int)) rfl (run_xorL (p := lane l 2 ^^^ lane l 7) (q := lane l 12) rfl (by kernel_rfl) (by kernel_rfl)) ?_
 refine wl_value (.pointer (some ⟨n0, 17, none⟩)) rfl (by kernel_rfl) ?_
 refine wl_value (.int .u64 ((lane l 17).toNat : Int)) rfl (run_load1 rfl Tryd.underlying56 (by kernel_rfl) c17) ?_
 refine wl_value (.int .u64 ((lane l 2 ^^^ lane l 7 ^^^ lane l 12 ^^^ lane l 17).toNat : Int)) rfl (run_xorL (p := lane l 2 ^^^ lane l 7 ^^^ lane l 12) (q := lane l 17) rfl (by kernel_rfl) (by kernel_rfl)) ?_
 refine wl_value (.pointer (some ⟨n0, 22, none⟩)) rfl (by kernel_rfl) ?_
 refine wl_value (.int .u64 ((lane l 22).toNat : Int)) rfl (run_load1 rfl Tryd.underlying56 (by kernel_rfl) c22) ?_
 refine wl_value (.int .u64 ((lane l 2 ^^^ lane l 7 ^^^ lane l 12 ^^^ lane l 17 ^^^ lane l 22).toNat : Int)) rfl (run_xorL (p := lane l 2 ^^^ lane l 7 ^^^ lane l 12 ^^^ lane l 17) (q := lane l 22) rfl (by kernel_rfl) (by kernel_rfl)) ?_
 refine wl_value (.int .u64 ((colX l 2).toNat : Int)) rfl (by kernel_rfl) ?_
 refine wpList_nil (hK _ _ ?_)
 clear hK K
 simp only [Act.put, arr9, hd9, tl9]
 refine wp_seq_k (fun K hK => ?_)
 refine wp_region_list ?_
 refine wl_value (.pointer (some ⟨n0, 3, none⟩)) rfl (by kernel_rfl) ?_
 refine wl_value (.int .u64 ((lane l 3).toNat : Int)) rfl (run_load1 rfl Tryd.underlying56 (by kernel_rfl) c3) ?_
 refine wl_value (.pointer (some ⟨n0, 8, none⟩)) rfl (by kernel_rfl) ?_
 refine wl_value (.int .u64 ((lane l 8).toNat : Int)) rfl (run_load1 rfl Tryd.underlying56 (by kernel_rfl) c8) ?_
 refine wl_value (.int .u64 ((lane l 3 ^^^ lane l 8).toNat : Int)) rfl (run_xorL (p := lane l 3) (q := lane l 8) rfl (by kernel_rfl) (by kernel_rfl)) ?_
 refine wl_value (.pointer (some ⟨n0, 13, none⟩)) rfl (by kernel_rfl) ?_
 refine wl_value (.int .u64 ((lane l 13).toNat : Int)) rfl (run_load1 rfl Tryd.underlying56 (by kernel_rfl) c13) ?_
 refine wl_value (.int .u64 ((lane l 3 ^^^ lane l 8 ^^^ lane l 13).toNat : Int)) rfl (run_xorL (p := lane l 3 ^^^ lane l 8) (q := lane l 13) rfl (by kernel_rfl) (by kernel_rfl)) ?_
 refine wl_value (.pointer (some ⟨n0, 18, none⟩)) rfl (by kernel_rfl) ?_
 refine wl_value (.int .u64 ((lane l 18).toNat : Int)) rfl (run_load1 rfl Tryd.underlying56 (by kernel_rfl) c18) ?_
 refine wl_value (.int .u64 ((lane l 3 ^^^ lane l 8 ^^^ lane l 13 ^^^ lane l 18).toNat : Int)) rfl (run_xorL (p := lane l 3 ^^^ lane l 8 ^^^ lane l 13) (q := lane l 18) rfl (by kernel_rfl) (by kernel_rfl)) ?_
 refine wl_value (.pointer (some ⟨n0, 23, none⟩)) rfl (by kernel_rfl) ?_
 refine wl_value (.int .u64 ((lane l 23).toNat : Int)) rfl (run_load1 rfl Tryd.underlying56 (by kernel_rfl) c23) ?_
 refine wl_value (.int .u64 ((lane l 3 ^^^ lane l 8 ^^^ lane l 13 ^^^ lane l 18 ^^^ lane l 23).toNat : Int)) rfl (run_xorL (p := lane l 3 ^^^ lane l 8 ^^^ lane l 13 ^^^ lane l 18) (q := lane l 23) rfl (by kernel_rfl) (by kernel_rfl)) ?_
 refine wl_value (.int .u64 ((colX l 3).toNat : Int)) rfl (by kernel_rfl) ?_
 refine wpList_nil (hK _ _ ?_)
 clear hK K
 simp only [Act.put, arr9, hd9, tl9]
 refine wp_seq_k (fun K hK => ?_)
 refine wp_region_list ?_
 refine wl_value (.pointer (some ⟨n0, 4, none⟩)) rfl (by kernel_rfl) ?_
 refine wl_value (.int .u64 ((lane l 4).toNat : Int)) rfl (run_load1 rfl Tryd.underlying56 (by kernel_rfl) c4) ?_
 refine wl_value (.pointer (some ⟨n0, 9, none⟩)) rfl (by kernel_rfl) ?_
 refine wl_value (.int .u64 ((lane l 9).toNat : Int)) rfl (run_load1 rfl Tryd.underlying56 (by kernel_rfl) c9) ?_
 refine wl_value (.int .u64 ((lane l 4 ^^^ lane l 9).toNat : Int)) rfl (run_xorL (p := lane l 4) (q := lane l 9) rfl (by kernel_rfl) (by kernel_rfl)) ?_
 refine wl_value (.pointer (some ⟨n0, 14, none⟩)) rfl (by kernel_rfl) ?_
 refine wl_value (.int .u64 ((lane l 14).toNat : Int)) rfl (run_load1 rfl Tryd.underlying56 (by kernel_rfl) c14) ?_
 refine wl_value (.int .u64 ((lane l 4 ^^^ lane l 9 ^^^ lane l 14).toNat : Int)) rfl (run_xorL (p := lane l 4 ^^^ lane l 9) (q := lane l 14) rfl (by kernel_rfl) (by kernel_rfl)) ?_
 refine wl_value (.pointer (some ⟨n0, 19, none⟩)) rfl (by kernel_rfl) ?_
 refine wl_value (.int .u64 ((lane l 19).toNat : Int)) rfl (run_load1 rfl Tryd.underlying56 (by kernel_rfl) c19) ?_
 refine wl_value (.int .u64 ((lane l 4 ^^^ lane l 9 ^^^ lane l 14 ^^^ lane l 19).toNat : Int)) rfl (run_xorL (p := lane l 4 ^^^ lane l 9 ^^^ lane l 14) (q := lane l 19) rfl (by kernel_rfl) (by kernel_rfl)) ?_
 refine wl_value (.pointer (some ⟨n0, 24, none⟩)) rfl (by kernel_rfl) ?_
 refine wl_value (.int .u64 ((lane l 24).toNat : Int)) rfl (run_load1 rfl Tryd.underlying56 (by kernel_rfl) c24) ?_
 refine wl_value (.int .u64 ((lane l 4 ^^^ lane l 9 ^^^ lane l 14 ^^^ lane l 19 ^^^ lane l 24).toNat : Int)) rfl (run_xorL (p := lane l 4 ^^^ lane l 9 ^^^ lane l 14 ^^^ lane l 19) (q := lane l 24) rfl (by kernel_rfl) (by kernel_rfl)) ?_
 refine wl_value (.int .u64 ((colX l 4).toNat : Int)) rfl (by kernel_rfl) ?_
 refine wpList_nil (hK _ _ ?_)
 clear hK K
 simp only [Act.put, arr9, hd9, tl9]
 refine wp_seq_k (fun K hK => ?_)
 refine wp_region_list ?_
 refine wl_value (.int .u64 ((colX l 4).toNat : Int)) rfl (by kernel_rfl) ?_
 refine wl_value (.int .u64 ((colX l 1).toNat : Int)) rfl (by kernel_rfl) ?_
 refine wl_call 56 #[.int .u64 ((colX l 1).toNat : Int), .int .i64 1] (.int .u64 ((rotl (colX l 1) 1).toNat : Int)) rfl (by kernel_rfl) (left_any (colX l 1) 1 (by decide) _) ?_
 refine wl_value (.int .u64 ((colX l 4 ^^^ rotl (colX l 1) 1).toNat : Int)) rfl (run_xorL (p := colX l 4) (q := rotl (colX l 1) 1) rfl (by kernel_rfl) (by kernel_rfl)) ?_
 refine wl_value (.int .u64 ((d0L l).toNat : Int)) rfl (by kernel_rfl) ?_
 refine wpList_nil (hK _ _ ?_)
 clear hK K
 simp only [Act.put, arr9, hd9, tl9]
 refine wp_seq_k (fun K hK => ?_)
 refine wp_region_list ?_
 refine wl_value (.int .u64 ((colX l 0).toNat : Int)) rfl (by kernel_rfl) ?_
 refine wl_value (.int .u64 ((colX l 2).toNat : Int)) rfl (by kernel_rfl) ?_
 refine wl_call 56 #[.int .u64 ((colX l 2).toNat : Int), .int .i64 1] (.int .u64 ((rotl (colX l 2) 1).toNat : Int)) rfl (by kernel_rfl) (left_any (colX l 2) 1 (by decide) _) ?_
 refine wl_value (.int .u64 ((colX l 0 ^^^ rotl (colX l 2) 1).toNat : Int)) rfl (run_xorL (p := colX l 0) (q := rotl (colX l 2) 1) rfl (by kernel_rfl) (by kernel_rfl)) ?_
 refine wl_value (.int .u64 ((d1L l).toNat : Int)) rfl (by kernel_rfl) ?_
 refine wpList_nil (hK _ _ ?_)
 clear hK K
 simp only [Act.put, arr9, hd9, tl9]
 refine wp_seq_k (fun K hK => ?_)
 refine wp_region_list ?_
 refine wl_value (.int .u64 ((colX l 1).toNat : Int)) rfl (by kernel_rfl) ?_
 refine wl_value (.int .u64 ((colX l 3).toNat : Int)) rfl (by kernel_rfl) ?_
 refine wl_call 56 #[.int .u64 ((colX l 3).toNat : Int), .int .i64 1] (.int .u64 ((rotl (colX l 3) 1).toNat : Int)) rfl (by kernel_rfl) (left_any (colX l 3) 1 (by decide) _) ?_
 refine wl_value (.int .u64 ((colX l 1 ^^^ rotl (colX l 3) 1).toNat : Int)) rfl (run_xorL (p := colX l 1) (q := rotl (colX l 3) 1) rfl (by kernel_rfl) (by kernel_rfl)) ?_
 refine wl_value (.int .u64 ((d2L l).toNat : Int)) rfl (by kernel_rfl) ?_
 refine wpList_nil (hK _ _ ?_)
 clear hK K
 simp only [Act.put, arr9, hd9, tl9]
 refine wp_seq_k (fun K hK => ?_)
 refine wp_region_list ?_
 refine wl_value (.int .u64 ((colX l 2).toNat : Int)) rfl (by kernel_rfl) ?_
 refine wl_value (.int .u64 ((colX l 4).toNat : Int)) rfl (by kernel_rfl) ?_
 refine wl_call 56 #[.int .u64 ((colX l 4).toNat : Int), .int .i64 1] (.int .u64 ((rotl (colX l 4) 1).toNat : Int)) rfl (by kernel_rfl) (left_any (colX l 4) 1 (by decide) _) ?_
 refine wl_value (.int .u64 ((colX l 2 ^^^ rotl (colX l 4) 1).toNat : Int)) rfl (run_xorL (p := colX l 2) (q := rotl (colX l 4) 1) rfl (by kernel_rfl) (by kernel_rfl)) ?_
 refine wl_value (.int .u64 ((d3L l).toNat : Int)) rfl (by kernel_rfl) ?_
 refine wpList_nil (hK _ _ ?_)
 clear hK K
 simp only [Act.put, arr9, hd9, tl9]
 refine wp_seq_k (fun K hK => ?_)
 refine wp_region_list ?_
 refine wl_value (.int .u64 ((colX l 3).toNat : Int)) rfl (by kernel_rfl) ?_
 refine wl_value (.int .u64 ((colX l 0).toNat : Int)) rfl (by kernel_rfl) ?_
 refine wl_call 56 #[.int .u64 ((colX l 0).toNat : Int), .int .i64 1] (.int .u64 ((rotl (colX l 0) 1).toNat : Int)) rfl (by kernel_rfl) (left_any (colX l 0) 1 (by decide) _) ?_
 refine wl_value (.int .u64 ((colX l 3 ^^^ rotl (colX l 0) 1).toNat : Int)) rfl (run_xorL (p := colX l 3) (q := rotl (colX l 0) 1) rfl (by kernel_rfl) (by kernel_rfl)) ?_
 refine wl_value (.int .u64 ((d4L l).toNat : Int)) rfl (by kernel_rfl) ?_
 refine wpList_nil (hK _ _ ?_)
 clear hK K
 simp only [Act.put, arr9, hd9, tl9]
 refine wp_seq_k (fun K hK => ?_)
 have hrD := hrB.drew
 have hbD := hbB.drew
 replace hrA := hrA.drew
 have hX := hrA.range
 clear hrB hbB c0 c1 c2 c3 c4 c5 c6 c7 c8 c9 c10 c11 c12 c13 c14 c15 c16 c17 c18 c19 c20 c21 c22 c23 c24
 refine wp_region_held_drew (S := fun w' => w'.rangeAt n0 0 (laneCells l)) (by kernel_rfl) hX (fun _ => ?_)
 generalize W.drew = X at *
 refine mixC0 l hl n0 X _ (fun _ _ d _ _ h => by cases d <;> exact h) hX ?_
 refine mixC1 l hl n0 X _ (fun _ _ d _ _ h => by cases d <;> exact h) hX ?_
 refine mixC2 l hl n0 X _ (fun _ _ d _ _ h => by cases d <;> exact h) hX ?_
 refine mixC3 l hl n0 X _ (fun _ _ d _ _ h => by cases d <;> exact h) hX ?_
 refine mixC4 l hl n0 X _ (fun _ _ d _ _ h => by cases d <;> exact h) hX ?_
 refine mixC5 l hl n0 X _ (fun _ _ d _ _ h => by cases d <;> exact h) hX ?_
 refine mixC6 l hl n0 X _ (fun _ _ d _ _ h => by cases d <;> exact h) hX ?_
 refine mixC7 l hl n0 X _ (fun _ _ d _ _ h => by cases d <;> exact h) hX ?_
 unfold mixS8
 simp only [mixP, R6, R6.go, List.replicate, List.cons_append, List.nil_append]
 refine held_one 125 (by kernel_rfl) ?_
 refine step_storeRow 125 57 (.tmp 2) (.tmp 227) (by kernel_rfl) (by kernel_rfl) (n0 + 1) (by kernel_rfl) (laneCells (mixL l)) (by kernel_rfl) _ _ hrD (info_l25.trans (size_lanes _ _ rfl)) rfl (cell_oneLane _) ?_
 intro Y hrC bY _
 refine ⟨(bY.row hrA (by have := hrA.lt; omega) (by omega)).range, ?_⟩
 have hbC : Below n0 w Y := hbD.trans (bY.under (Nat.le_of_lt (Nat.lt_trans (Nat.lt_succ_self n0) hrD.lt)) (by omega))
 refine wpAnyH_done (by kernel_rfl) (hK _ _ ?_) _
 clear hK K
 go_wp2
 exact ret_row Tryd.results53 rfl rfl hrC Tryd.underlying57 rfl (info_l25.trans (size_lanes _ _ rfl)) ⟨rfl, hbC⟩
end Go.Proofs.YtapjiknedghhfaaDoor
