/-
  WALK: the law Sha2Blocks.
-/
import Derived.Test.YthafhghnciofaaaDoorRefC
import Derived.Test.YthafhghnciofaaaDoorHand
namespace Go.Proofs.YthafhghnciofaaaDoor
open Go.RowKit
set_option maxRecDepth 100000

set_option maxHeartbeats 1000000 in
theorem blocks_walk (s : St) (b : List UInt8) (hb : b.length = 64) (w : World) (hv : Vars w) :
    Calls Tryd.prog 3 #[.agg (wordCells s.list).toArray, .agg (Lib.byteCells b).toArray] w (TrueIs w) := by
  unfold TrueIs
  generalize hn0 : w.heap.size = n0 at *
  have hr0 : Row ((w.alloc (.cells (wordCells s.list).toArray 23)).alloc (.cells (Lib.byteCells b).toArray 24)) n0 23 (wordCells s.list) := (Row.new_ hn0.symm rfl).alloc _
  have hr1 : Row ((w.alloc (.cells (wordCells s.list).toArray 23)).alloc (.cells (Lib.byteCells b).toArray 24)) (n0 + 1) 24 (Lib.byteCells b) := Row.new_ (by rw [asz, hn0]) rfl
  have hb2 : Below n0 w ((w.alloc (.cells (wordCells s.list).toArray 23)).alloc (.cells (Lib.byteCells b).toArray 24)) := ((Below.refl n0 w).alloc (by omega) _).alloc (by rw [asz]; omega) _
  have hv2 := hv.step (by rw [hn0]; exact hb2)
  have heq := eq8 (comp s b).list (comp s b).list rfl rfl
  have hbb : ((comp s b).list == (comp s b).list) = true := by simp
  rw [hbb] at heq
  have hi24 : (Tryd.prog.info? 24).map (·.size) = some (Lib.byteCells b).length := info_b64.trans (size_bytes 64 b hb)
  have hi23 : (Tryd.prog.info? 23).map (·.size) = some (wordCells s.list).length := info_w8.trans (size_words _ _ rfl)
  clear hbb hv
  obtain ⟨c, HC⟩ : ∃ c, Hid (c = comp s b) := ⟨_, Lib.hid rfl⟩
  rw [← HC.out] at heq
  go_enter Tryd.func3, Tryd.ntmps3
  go_wp2
  generalize (w.alloc (.cells (wordCells s.list).toArray 23)).alloc (.cells (Lib.byteCells b).toArray 24) = w2 at *
  refine wp_region_held_drew (S := fun w' => w'.rangeAt n0 0 (wordCells s.list) ∧ w'.rangeAt (n0 + 1) 0 (Lib.byteCells b)) (by kernel_rfl) ⟨hr0.drew.range, hr1.drew.range⟩ (fun hS => ?_)
  refine held_call 0 _ _ (some 5) 11 #[] (by kernel_rfl) (by rfl) (by kernel_rfl) (by first | kernel_rfl | go_simp) ((live_any _ hv2.drew).mono ?_)
  rintro e w6 ⟨rfl, b6⟩
  have r60 := hr0.drew.below b6 hr0.lt
  have r61 := hr1.drew.below b6 hr1.lt
  have hv6 := hv2.drew.step b6
  refine ⟨_, rfl, ⟨r60.range, r61.range⟩, ?_⟩
  simp only [Act.put, List.setIfInBounds_toArray, List.set_cons_zero, List.set_cons_succ]
  refine held_value 1 _ _ (some 6) (.bool true) (by kernel_rfl) (by rfl) (by kernel_rfl) (fun w _ => by kernel_rfl) (fun _ _ _ _ h => h) ⟨r60.range, r61.range⟩ ?_
  refine held_load 2 23 (.tmp 2) (some 7) (by kernel_rfl) (by kernel_rfl) (by kernel_rfl) n0 0 (by kernel_rfl) (wordCells s.list) (.array 8 22) (fun w h => h.1) Tryd.underlying23 rfl hi23 (fun _ _ _ _ h => h) ⟨r60.range, r61.range⟩ ?_
  refine held_load 3 24 (.tmp 3) (some 8) (by kernel_rfl) (by kernel_rfl) (by kernel_rfl) (n0 + 1) 0 (by kernel_rfl) (Lib.byteCells b) (.array 64 5) (fun w h => h.2) Tryd.underlying24 rfl hi24 (fun _ _ _ _ h => h) ⟨r60.range, r61.range⟩ ?_
  refine held_load 5 23 (.tmp 2) (some 10) (by kernel_rfl) (by kernel_rfl) (by kernel_rfl) n0 0 (by kernel_rfl) (wordCells s.list) (.array 8 22) (fun w h => h.1) Tryd.underlying23 rfl hi23 (fun _ _ _ _ h => h) ⟨r60.range, r61.range⟩ ?_
  refine held_load 6 24 (.tmp 3) (some 11) (by kernel_rfl) (by kernel_rfl) (by kernel_rfl) (n0 + 1) 0 (by kernel_rfl) (Lib.byteCells b) (.array 64 5) (fun w h => h.2) Tryd.underlying24 rfl hi24 (fun _ _ _ _ h => h) ⟨r60.range, r61.range⟩ ?_
  simp only [Act.put, List.setIfInBounds_toArray, List.set_cons_zero, List.set_cons_succ]
  refine held_call 4 _ _ (some 9) 12 #[.agg (wordCells s.list).toArray, .agg (Lib.byteCells b).toArray] (by kernel_rfl) (by rfl) (by kernel_rfl) (by first | kernel_rfl | go_simp) ((compress_any s b hb _ hv6).mono ?_)
  rintro e w7 ⟨rfl, b7⟩
  rw [← HC.out]
  have r70 := r60.below b7 r60.lt
  have r71 := r61.below b7 r61.lt
  refine ⟨_, rfl, ⟨r70.range, r71.range⟩, ?_⟩
  refine held_call 7 _ _ (some 12) 13 #[.agg (wordCells s.list).toArray, .agg (Lib.byteCells b).toArray] (by kernel_rfl) (by rfl) (by kernel_rfl) (by first | kernel_rfl | go_simp) ((refCompress_any s b hb _).mono ?_)
  rintro e w8 ⟨rfl, b8⟩
  rw [← HC.out]
  have r80 := r70.below b8 r70.lt
  have r81 := r71.below b8 r71.lt
  refine ⟨_, rfl, ⟨r80.range, r81.range⟩, ?_⟩
  simp only [Act.put, List.setIfInBounds_toArray, List.set_cons_zero, List.set_cons_succ]
  refine held_value 8 (.binOp .eql 23 (.tmp 9) (.tmp 12) 23) 4 (some 13) (.bool true) (by kernel_rfl) (by rfl) (by kernel_rfl) (fun w _ => run_eql_agg (P := Tryd.prog) (p := (wordCells c.list).toArray) (q := (wordCells c.list).toArray) (by kernel_rfl) (heq w) (by kernel_rfl) (by kernel_rfl)) (fun _ _ _ _ h => h) ⟨r80.range, r81.range⟩ ?_
  simp only [Act.put, List.setIfInBounds_toArray, List.set_cons_zero, List.set_cons_succ]
  refine held_value 9 _ _ (some 14) (.bool true) (by kernel_rfl) (by rfl) (by kernel_rfl) (fun w _ => by kernel_rfl) (fun _ _ _ _ h => h) ⟨r80.range, r81.range⟩ ?_
  simp only [Act.put, List.setIfInBounds_toArray, List.set_cons_zero, List.set_cons_succ]
  refine held_value 10 _ _ (some 4) (.bool true) (by kernel_rfl) (by rfl) (by kernel_rfl) (fun w _ => by kernel_rfl) (fun _ _ _ _ h => h) ⟨r80.range, r81.range⟩ ?_
  refine wpAnyH_done (by kernel_rfl) ?_ _
  simp only [Act.put, List.setIfInBounds_toArray, List.set_cons_zero, List.set_cons_succ]
  go_wp2
  go_ret
  exact ⟨rfl, ((hb2.drew.trans (b6.mono (by have := hr0.lt; show n0 ≤ w2.heap.size; omega))).trans (b7.mono (by have := r60.lt; omega))).trans (b8.mono (by have := r70.lt; omega))⟩
end Go.Proofs.YthafhghnciofaaaDoor
