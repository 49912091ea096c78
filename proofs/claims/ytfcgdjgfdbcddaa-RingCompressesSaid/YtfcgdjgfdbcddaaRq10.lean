/-
 Compress, Decompress for other numbers of bits: the program's own and the document's.
-/
import Derived.Test.YtfcgdjgfdbcddaaRp8
namespace Go.Proofs.Ytfcgdjgfdbcddaa
open Go.RowKit
set_option maxRecDepth 100000
set_option maxHeartbeats 1000000 in
theorem Compress_bad (n : Int) (hn : n < 1 ∨ 11 < n) (p : Nat → Nat) (w : World) : Calls Try.prog 28 #[.int .i64 n, polyV p] w (CodeIs w (fun _ => 0) 1) := by
 unfold CodeIs polyV
 generalize hN : w.heap.size = N at *
 have HL1 : Shh (Row ((w.alloc (.cells (pc p).toArray 24)).alloc (.cells (pc fun _ => 0).toArray 24)) (N + 1) 24 (pc fun _ => 0) ∧ Below N w ((w.alloc (.cells (pc p).toArray 24)).alloc (.cells (pc fun _ => 0).toArray 24))) := by
  refine ⟨Row.new_ (by rw [asz, hN]) rfl, ?_⟩
  rw [← hN]
  exact Below.chain (bel1 _ _) (bel1 _ _)
 go_enter Try.func28, Try.ntmps28
 by_cases h1 : n < 1
 ·clear hn
  go_wp2_with (first | refine wl_allocP rfl rfl ?_ | refine wl_at 14 rfl (.agg (pc fun _ => 0).toArray) rfl (build_poly rfl) ?_ | refine wpList_store_any rfl 24 (.tmp 4) (.tmp 14) rfl (N + 1) rfl (pc fun _ => 0) rfl 24 _ HL1.out.1 (info_poly.trans (size_poly _)) rfl (pc_one _) ?_)
  intro w9 hr9 b9 _
  have hb9 := HL1.out.2.trans (b9.under (by omega) (by omega))
  go_wp2
  exact ret_rs7 Try.results28 rfl rfl rfl hr9 Try.underlying24 rfl (info_poly.trans (size_poly _)) ⟨rfl, hb9⟩
 ·have h2 : 12 ≤ n := by omega
  clear hn
  go_wp2_with (first | refine wl_allocP rfl rfl ?_ | refine wl_at 14 rfl (.agg (pc fun _ => 0).toArray) rfl (build_poly rfl) ?_ | refine wpList_store_any rfl 24 (.tmp 4) (.tmp 14) rfl (N + 1) rfl (pc fun _ => 0) rfl 24 _ HL1.out.1 (info_poly.trans (size_poly _)) rfl (pc_one _) ?_)
  intro w9 hr9 b9 _
  have hb9 := HL1.out.2.trans (b9.under (by omega) (by omega))
  go_wp2
  exact ret_rs7 Try.results28 rfl rfl rfl hr9 Try.underlying24 rfl (info_poly.trans (size_poly _)) ⟨rfl, hb9⟩
set_option maxHeartbeats 1000000 in
theorem Decompress_bad (n : Int) (hn : n < 1 ∨ 11 < n) (p : Nat → Nat) (w : World) : Calls Try.prog 30 #[.int .i64 n, polyV p] w (CodeIs w (fun _ => 0) 1) := by
 unfold CodeIs polyV
 generalize hN : w.heap.size = N at *
 have HL1 : Shh (Row ((w.alloc (.cells (pc p).toArray 24)).alloc (.cells (pc fun _ => 0).toArray 24)) (N + 1) 24 (pc fun _ => 0) ∧ Below N w ((w.alloc (.cells (pc p).toArray 24)).alloc (.cells (pc fun _ => 0).toArray 24))) := by
  refine ⟨Row.new_ (by rw [asz, hN]) rfl, ?_⟩
  rw [← hN]
  exact Below.chain (bel1 _ _) (bel1 _ _)
 go_enter Try.func30, Try.ntmps30
 by_cases h1 : n < 1
 ·clear hn
  go_wp2_with (first | refine wl_allocP rfl rfl ?_ | refine wl_at 15 rfl (.agg (pc fun _ => 0).toArray) rfl (build_poly rfl) ?_ | refine wpList_store_any rfl 24 (.tmp 4) (.tmp 15) rfl (N + 1) rfl (pc fun _ => 0) rfl 24 _ HL1.out.1 (info_poly.trans (size_poly _)) rfl (pc_one _) ?_)
  intro w9 hr9 b9 _
  have hb9 := HL1.out.2.trans (b9.under (by omega) (by omega))
  go_wp2
  exact ret_rs7 Try.results30 rfl rfl rfl hr9 Try.underlying24 rfl (info_poly.trans (size_poly _)) ⟨rfl, hb9⟩
 ·have h2 : 12 ≤ n := by omega
  clear hn
  go_wp2_with (first | refine wl_allocP rfl rfl ?_ | refine wl_at 15 rfl (.agg (pc fun _ => 0).toArray) rfl (build_poly rfl) ?_ | refine wpList_store_any rfl 24 (.tmp 4) (.tmp 15) rfl (N + 1) rfl (pc fun _ => 0) rfl 24 _ HL1.out.1 (info_poly.trans (size_poly _)) rfl (pc_one _) ?_)
  intro w9 hr9 b9 _
  have hb9 := HL1.out.2.trans (b9.under (by omega) (by omega))
  go_wp2
  exact ret_rs7 Try.results30 rfl rfl rfl hr9 Try.underlying24 rfl (info_poly.trans (size_poly _)) ⟨rfl, hb9⟩
set_option maxHeartbeats 1000000 in
theorem refCompress_bad (n : Int) (hn : n < 1 ∨ 11 < n) (p : Nat → Nat) (w : World) : Calls Try.prog 29 #[.int .i64 n, polyV p] w (CodeIs w (fun _ => 0) 1) := by
 unfold CodeIs polyV
 generalize hN : w.heap.size = N at *
 have HL1 : Shh (Row ((w.alloc (.cells (pc p).toArray 24)).alloc (.cells (pc fun _ => 0).toArray 24)) (N + 1) 24 (pc fun _ => 0) ∧ Below N w ((w.alloc (.cells (pc p).toArray 24)).alloc (.cells (pc fun _ => 0).toArray 24))) := by
  refine ⟨Row.new_ (by rw [asz, hN]) rfl, ?_⟩
  rw [← hN]
  exact Below.chain (bel1 _ _) (bel1 _ _)
 go_enter Try.func29, Try.ntmps29
 by_cases h1 : n < 1
 ·clear hn
  go_wp2_with (first | refine wl_allocP rfl rfl ?_ | refine wl_at 13 rfl (.agg (pc fun _ => 0).toArray) rfl (build_poly rfl) ?_ | refine wpList_store_any rfl 24 (.tmp 4) (.tmp 13) rfl (N + 1) rfl (pc fun _ => 0) rfl 24 _ HL1.out.1 (info_poly.trans (size_poly _)) rfl (pc_one _) ?_)
  intro w9 hr9 b9 _
  have hb9 := HL1.out.2.trans (b9.under (by omega) (by omega))
  go_wp2
  exact ret_rs7 Try.results29 rfl rfl rfl hr9 Try.underlying24 rfl (info_poly.trans (size_poly _)) ⟨rfl, hb9⟩
 ·have h2 : 11 < n := by omega
  clear hn
  go_wp2_with (first | refine wl_allocP rfl rfl ?_ | refine wl_at 13 rfl (.agg (pc fun _ => 0).toArray) rfl (build_poly rfl) ?_ | refine wpList_store_any rfl 24 (.tmp 4) (.tmp 13) rfl (N + 1) rfl (pc fun _ => 0) rfl 24 _ HL1.out.1 (info_poly.trans (size_poly _)) rfl (pc_one _) ?_)
  intro w9 hr9 b9 _
  have hb9 := HL1.out.2.trans (b9.under (by omega) (by omega))
  go_wp2
  exact ret_rs7 Try.results29 rfl rfl rfl hr9 Try.underlying24 rfl (info_poly.trans (size_poly _)) ⟨rfl, hb9⟩
set_option maxHeartbeats 1000000 in
theorem refDecompress_bad (n : Int) (hn : n < 1 ∨ 11 < n) (p : Nat → Nat) (w : World) : Calls Try.prog 31 #[.int .i64 n, polyV p] w (CodeIs w (fun _ => 0) 1) := by
 unfold CodeIs polyV
 generalize hN : w.heap.size = N at *
 have HL1 : Shh (Row ((w.alloc (.cells (pc p).toArray 24)).alloc (.cells (pc fun _ => 0).toArray 24)) (N + 1) 24 (pc fun _ => 0) ∧ Below N w ((w.alloc (.cells (pc p).toArray 24)).alloc (.cells (pc fun _ => 0).toArray 24))) := by
  refine ⟨Row.new_ (by rw [asz, hN]) rfl, ?_⟩
  rw [← hN]
  exact Below.chain (bel1 _ _) (bel1 _ _)
 go_enter Try.func31, Try.ntmps31
 by_cases h1 : n < 1
 ·clear hn
  go_wp2_with (first | refine wl_allocP rfl rfl ?_ | refine wl_at 13 rfl (.agg (pc fun _ => 0).toArray) rfl (build_poly rfl) ?_ | refine wpList_store_any rfl 24 (.tmp 4) (.tmp 13) rfl (N + 1) rfl (pc fun _ => 0) rfl 24 _ HL1.out.1 (info_poly.trans (size_poly _)) rfl (pc_one _) ?_)
  intro w9 hr9 b9 _
  have hb9 := HL1.out.2.trans (b9.under (by omega) (by omega))
  go_wp2
  exact ret_rs7 Try.results31 rfl rfl rfl hr9 Try.underlying24 rfl (info_poly.trans (size_poly _)) ⟨rfl, hb9⟩
 ·have h2 : 11 < n := by omega
  clear hn
  go_wp2_with (first | refine wl_allocP rfl rfl ?_ | refine wl_at 13 rfl (.agg (pc fun _ => 0).toArray) rfl (build_poly rfl) ?_ | refine wpList_store_any rfl 24 (.tmp 4) (.tmp 13) rfl (N + 1) rfl (pc fun _ => 0) rfl 24 _ HL1.out.1 (info_poly.trans (size_poly _)) rfl (pc_one _) ?_)
  intro w9 hr9 b9 _
  have hb9 := HL1.out.2.trans (b9.under (by omega) (by omega))
  go_wp2
  exact ret_rs7 Try.results31 rfl rfl rfl hr9 Try.underlying24 rfl (info_poly.trans (size_poly _)) ⟨rfl, hb9⟩
end Go.Proofs.Ytfcgdjgfdbcddaa
