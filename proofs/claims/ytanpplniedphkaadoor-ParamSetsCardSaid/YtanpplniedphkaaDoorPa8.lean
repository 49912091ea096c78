/-
  WALKS: the document's own sets of XMSS.
-/
import Derived.Test.YtanpplniedphkaaDoorPa7
namespace Go.Proofs.YtanpplniedphkaaDoor
open Go.RowKit
set_option maxRecDepth 100000
theorem xL_eq (f : Nat) (_hf : f ≤ 3) : (if hN f = 24 then (51 : Int) else 67) = 2 * hN f + 3 := by
  unfold hN
  by_cases h : f = 1 ∨ f = 3
  · rw [if_pos h]; rfl
  · rw [if_neg h]; rfl
theorem below1P (w : World) (o : Obj) : Below w.heap.size w (w.alloc o) := Below.alloc (Below.refl _ _) (Nat.le_refl _) _
theorem refXmss_1 (w : World) : Calls Tryd.prog 23 #[.int .u32 1] w (OldIs (.tuple #[.agg #[.int .u32 1, .bool false, .int .i64 32, .int .i64 10, .int .i64 67], .int .i64 0]) w) := by
  unfold OldIs
  have hown : ∀ W, Calls Tryd.prog 69 #[.int .u32 1, .int .u32 4043309056] W (StayIs (.tuple #[.int .i64 (rF 1 xB : Int), .int .i64 (rH 1 xB : Int), .bool (rOk 1 xB)]) W) := fun W => refOwn_any 1 4043309056 (by omega) (by omega) W
  have hbytes : ∀ W, Calls Tryd.prog 65 #[.int .i64 0] W (StayIs (.int .i64 32) W) := fun W => bytes6_any 0 (by omega) W
  obtain ⟨ok, hok⟩ : ∃ ok, ok = rOk 1 xB := ⟨_, rfl⟩
  obtain ⟨o1, ho1⟩ : ∃ o, o = rF 1 xB := ⟨_, rfl⟩
  obtain ⟨o2, ho2⟩ : ∃ o, o = rH 1 xB := ⟨_, rfl⟩
  rw [← hok, ← ho1, ← ho2] at hown
  clear hok ho1 ho2
  obtain ⟨W, hW⟩ : ∃ W, W = (w.alloc (.cells #[.int .u32 0, .bool false, .int .i64 0, .int .i64 0, .int .i64 0] 54)).alloc (.cells #[.int .i64 10, .int .i64 16, .int .i64 20] 3) := ⟨_, rfl⟩
  obtain ⟨N, hNN⟩ : ∃ N, w.heap.size = N := ⟨_, rfl⟩
  have HW : Shh (Row W N 54 [.int .u32 0, .bool false, .int .i64 0, .int .i64 0, .int .i64 0] ∧ Row W (N + 1) 3 [.int .i64 10, .int .i64 16, .int .i64 20] ∧ Below w.heap.size w W) := by
    have b1 : Below w.heap.size w (w.alloc (.cells #[.int .u32 0, .bool false, .int .i64 0, .int .i64 0, .int .i64 0] 54)) := below1P _ _
    have b2 : Below (w.alloc (.cells #[.int .u32 0, .bool false, .int .i64 0, .int .i64 0, .int .i64 0] 54)).heap.size (w.alloc (.cells #[.int .u32 0, .bool false, .int .i64 0, .int .i64 0, .int .i64 0] 54)) W := by rw [hW]; exact below1P _ _
    exact ⟨by rw [hW]; exact (Row.new_ hNN.symm rfl).alloc _, by rw [hW]; exact Row.new_ (by rw [asz, hNN]) rfl, Below.chain b1 b2⟩
  rw [hW] at HW
  clear hW
  go_enter Tryd.func23, Tryd.ntmps23
  go_wp2_with (go_at_call 69; refine (hown _).mono ?_)
  unfold StayIs
  rintro e w2 ⟨rfl, rfl⟩
  go_wp2
  have HV : Shh (Row ((w.alloc (.cells #[.int .u32 0, .bool false, .int .i64 0, .int .i64 0, .int .i64 0] 54)).alloc (.cells #[.int .i64 10, .int .i64 16, .int .i64 20] 3)).drew N 54 [.int .u32 0, .bool false, .int .i64 0, .int .i64 0, .int .i64 0] ∧ Row ((w.alloc (.cells #[.int .u32 0, .bool false, .int .i64 0, .int .i64 0, .int .i64 0] 54)).alloc (.cells #[.int .i64 10, .int .i64 16, .int .i64 20] 3)).drew (N + 1) 3 [.int .i64 10, .int .i64 16, .int .i64 20] ∧ Below w.heap.size w ((w.alloc (.cells #[.int .u32 0, .bool false, .int .i64 0, .int .i64 0, .int .i64 0] 54)).alloc (.cells #[.int .i64 10, .int .i64 16, .int .i64 20] 3)).drew) := ⟨HW.out.1.drew, HW.out.2.1.drew, HW.out.2.2.drew⟩
  clear HW
  refine wp_region_held_drew (S := fun w' => Row w' (N + 1) 3 [.int .i64 10, .int .i64 16, .int .i64 20]) (by kernel_rfl) HV.out.2.1 (fun hS => ?_)
  clear hS
  generalize World.drew _ = V at HV ⊢
  have rW := HV.out.2.1
  refine held_value 0 _ _ (some 22) (.slice (some ⟨N + 1, 0, none⟩) 3 3) (by kernel_rfl) (by rfl) (by kernel_rfl) (fun w hS => by first | kernel_rfl | go_simp) (fun _ _ _ _ h => h) (rW) ?_
  simp only [Act.put, List.setIfInBounds_toArray, List.set_cons_zero, List.set_cons_succ]
  refine held_value 1 _ _ (some 23) (.int .u32 1) (by kernel_rfl) (by rfl) (by kernel_rfl) (fun w hS => by first | kernel_rfl | go_simp) (fun _ _ _ _ h => h) (rW) ?_
  simp only [Act.put, List.setIfInBounds_toArray, List.set_cons_zero, List.set_cons_succ]
  refine held_value 2 _ _ (some 24) (.int .u32 0) (by kernel_rfl) (by rfl) (by kernel_rfl) (fun w hS => by kernel_rfl) (fun _ _ _ _ h => h) (rW) ?_
  simp only [Act.put, List.setIfInBounds_toArray, List.set_cons_zero, List.set_cons_succ]
  refine held_value 3 _ _ (some 25) (.pointer (some ⟨N + 1, 0, none⟩)) (by kernel_rfl) (by rfl) (by kernel_rfl) (fun w hS => by first | kernel_rfl | go_simp) (fun _ _ _ _ h => h) (rW) ?_
  simp only [Act.put, List.setIfInBounds_toArray, List.set_cons_zero, List.set_cons_succ]
  refine held_value 4 _ _ (some 26) (.int .i64 10) (by kernel_rfl) (by rfl) (by kernel_rfl) (fun w hS => by have h2 : w.cell? ⟨N + 1, 0, none⟩ = some (.int .i64 10) := hS.cell 0; go_simp) (fun _ _ _ _ h => h) (rW) ?_
  simp only [Act.put, List.setIfInBounds_toArray, List.set_cons_zero, List.set_cons_succ]
  refine held_value 5 _ _ (some 4) (.int .i64 0) (by kernel_rfl) (by rfl) (by kernel_rfl) (fun w hS => by first | kernel_rfl | go_simp) (fun _ _ _ _ h => h) (rW) ?_
  simp only [Act.put, List.setIfInBounds_toArray, List.set_cons_zero, List.set_cons_succ]
  refine held_value 6 _ _ (some 5) (.int .i64 10) (by kernel_rfl) (by rfl) (by kernel_rfl) (fun w hS => by first | kernel_rfl | go_simp) (fun _ _ _ _ h => h) (rW) ?_
  simp only [Act.put, List.setIfInBounds_toArray, List.set_cons_zero, List.set_cons_succ]
  refine held_value 7 _ _ (some 6) (.bool true) (by kernel_rfl) (by rfl) (by kernel_rfl) (fun w hS => by first | kernel_rfl | go_simp) (fun _ _ _ _ h => h) (rW) ?_
  simp only [Act.put, List.setIfInBounds_toArray, List.set_cons_zero, List.set_cons_succ]
  refine wpAnyH_done (by kernel_rfl) ?_ _
  go_wp2_with (go_at_call 65; refine (hbytes _).mono ?_)
  unfold StayIs
  rintro e w3 ⟨rfl, rfl⟩
  go_wp2_with (refine wpList_store_any rfl 54 (.tmp 2) (.tmp 57) rfl N rfl [.int .u32 1, .bool false, .int .i64 32, .int .i64 10, .int .i64 67] rfl 54 _ HV.out.1 info_xms rfl oneCell5 ?_)
  intro Z hr bt _
  have F : Shh (Row Z N 54 [.int .u32 1, .bool false, .int .i64 32, .int .i64 10, .int .i64 67] ∧ Below w.heap.size w Z) := ⟨hr, HV.out.2.2.trans (bt.under (by have := HV.out.2.2.size; omega) (by omega))⟩
  clear hr bt HV
  go_wp2
  exact ret_rs Tryd.results23 rfl rfl rfl F.out.1 Tryd.underlying54 rfl info_xms ⟨rfl, F.out.2⟩
theorem refXmss_2 (w : World) : Calls Tryd.prog 23 #[.int .u32 2] w (OldIs (.tuple #[.agg #[.int .u32 2, .bool false, .int .i64 32, .int .i64 16, .int .i64 67], .int .i64 0]) w) := by
  unfold OldIs
  have hown : ∀ W, Calls Tryd.prog 69 #[.int .u32 2, .int .u32 4043309056] W (StayIs (.tuple #[.int .i64 (rF 2 xB : Int), .int .i64 (rH 2 xB : Int), .bool (rOk 2 xB)]) W) := fun W => refOwn_any 2 4043309056 (by omega) (by omega) W
  have hbytes : ∀ W, Calls Tryd.prog 65 #[.int .i64 0] W (StayIs (.int .i64 32) W) := fun W => bytes6_any 0 (by omega) W
  obtain ⟨ok, hok⟩ : ∃ ok, ok = rOk 2 xB := ⟨_, rfl⟩
  obtain ⟨o1, ho1⟩ : ∃ o, o = rF 2 xB := ⟨_, rfl⟩
  obtain ⟨o2, ho2⟩ : ∃ o, o = rH 2 xB := ⟨_, rfl⟩
  rw [← hok, ← ho1, ← ho2] at hown
  clear hok ho1 ho2
  obtain ⟨W, hW⟩ : ∃ W, W = (w.alloc (.cells #[.int .u32 0, .bool false, .int .i64 0, .int .i64 0, .int .i64 0] 54)).alloc (.cells #[.int .i64 10, .int .i64 16, .int .i64 20] 3) := ⟨_, rfl⟩
  obtain ⟨N, hNN⟩ : ∃ N, w.heap.size = N := ⟨_, rfl⟩
  have HW : Shh (Row W N 54 [.int .u32 0, .bool false, .int .i64 0, .int .i64 0, .int .i64 0] ∧ Row W (N + 1) 3 [.int .i64 10, .int .i64 16, .int .i64 20] ∧ Below w.heap.size w W) := by
    have b1 : Below w.heap.size w (w.alloc (.cells #[.int .u32 0, .bool false, .int .i64 0, .int .i64 0, .int .i64 0] 54)) := below1P _ _
    have b2 : Below (w.alloc (.cells #[.int .u32 0, .bool false, .int .i64 0, .int .i64 0, .int .i64 0] 54)).heap.size (w.alloc (.cells #[.int .u32 0, .bool false, .int .i64 0, .int .i64 0, .int .i64 0] 54)) W := by rw [hW]; exact below1P _ _
    exact ⟨by rw [hW]; exact (Row.new_ hNN.symm rfl).alloc _, by rw [hW]; exact Row.new_ (by rw [asz, hNN]) rfl, Below.chain b1 b2⟩
  rw [hW] at HW
  clear hW
  go_enter Tryd.func23, Tryd.ntmps23
  go_wp2_with (go_at_call 69; refine (hown _).mono ?_)
  unfold StayIs
  rintro e w2 ⟨rfl, rfl⟩
  go_wp2
  have HV : Shh (Row ((w.alloc (.cells #[.int .u32 0, .bool false, .int .i64 0, .int .i64 0, .int .i64 0] 54)).alloc (.cells #[.int .i64 10, .int .i64 16, .int .i64 20] 3)).drew N 54 [.int .u32 0, .bool false, .int .i64 0, .int .i64 0, .int .i64 0] ∧ Row ((w.alloc (.cells #[.int .u32 0, .bool false, .int .i64 0, .int .i64 0, .int .i64 0] 54)).alloc (.cells #[.int .i64 10, .int .i64 16, .int .i64 20] 3)).drew (N + 1) 3 [.int .i64 10, .int .i64 16, .int .i64 20] ∧ Below w.heap.size w ((w.alloc (.cells #[.int .u32 0, .bool false, .int .i64 0, .int .i64 0, .int .i64 0] 54)).alloc (.cells #[.int .i64 10, .int .i64 16, .int .i64 20] 3)).drew) := ⟨HW.out.1.drew, HW.out.2.1.drew, HW.out.2.2.drew⟩
  clear HW
  refine wp_region_held_drew (S := fun w' => Row w' (N + 1) 3 [.int .i64 10, .int .i64 16, .int .i64 20]) (by kernel_rfl) HV.out.2.1 (fun hS => ?_)
  clear hS
  generalize World.drew _ = V at HV ⊢
  have rW := HV.out.2.1
  refine held_value 0 _ _ (some 22) (.slice (some ⟨N + 1, 0, none⟩) 3 3) (by kernel_rfl) (by rfl) (by kernel_rfl) (fun w hS => by first | kernel_rfl | go_simp) (fun _ _ _ _ h => h) (rW) ?_
  simp only [Act.put, List.setIfInBounds_toArray, List.set_cons_zero, List.set_cons_succ]
  refine held_value 1 _ _ (some 23) (.int .u32 2) (by kernel_rfl) (by rfl) (by kernel_rfl) (fun w hS => by first | kernel_rfl | go_simp) (fun _ _ _ _ h => h) (rW) ?_
  simp only [Act.put, List.setIfInBounds_toArray, List.set_cons_zero, List.set_cons_succ]
  refine held_value 2 _ _ (some 24) (.int .u32 1) (by kernel_rfl) (by rfl) (by kernel_rfl) (fun w hS => by kernel_rfl) (fun _ _ _ _ h => h) (rW) ?_
  simp only [Act.put, List.setIfInBounds_toArray, List.set_cons_zero, List.set_cons_succ]
  refine held_value 3 _ _ (some 25) (.pointer (some ⟨N + 1, 1, none⟩)) (by kernel_rfl) (by rfl) (by kernel_rfl) (fun w hS => by first | kernel_rfl | go_simp) (fun _ _ _ _ h => h) (rW) ?_
  simp only [Act.put, List.setIfInBounds_toArray, List.set_cons_zero, List.set_cons_succ]
  refine held_value 4 _ _ (some 26) (.int .i64 16) (by kernel_rfl) (by rfl) (by kernel_rfl) (fun w hS => by have h2 : w.cell? ⟨N + 1, 1, none⟩ = some (.int .i64 16) := hS.cell 1; go_simp) (fun _ _ _ _ h => h) (rW) ?_
  simp only [Act.put, List.setIfInBounds_toArray, List.set_cons_zero, List.set_cons_succ]
  refine held_value 5 _ _ (some 4) (.int .i64 0) (by kernel_rfl) (by rfl) (by kernel_rfl) (fun w hS => by first | kernel_rfl | go_simp) (fun _ _ _ _ h => h) (rW) ?_
  simp only [Act.put, List.setIfInBounds_toArray, List.set_cons_zero, List.set_cons_succ]
  refine held_value 6 _ _ (some 5) (.int .i64 16) (by kernel_rfl) (by rfl) (by kernel_rfl) (fun w hS => by first | kernel_rfl | go_simp) (fun _ _ _ _ h => h) (rW) ?_
  simp only [Act.put, List.setIfInBounds_toArray, List.set_cons_zero, List.set_cons_succ]
  refine held_value 7 _ _ (some 6) (.bool true) (by kernel_rfl) (by rfl) (by kernel_rfl) (fun w hS => by first | kernel_rfl | go_simp) (fun _ _ _ _ h => h) (rW) ?_
  simp only [Act.put, List.setIfInBounds_toArray, List.set_cons_zero, List.set_cons_succ]
  refine wpAnyH_done (by kernel_rfl) ?_ _
  go_wp2_with (go_at_call 65; refine (hbytes _).mono ?_)
  unfold StayIs
  rintro e w3 ⟨rfl, rfl⟩
  go_wp2_with (refine wpList_store_any rfl 54 (.tmp 2) (.tmp 57) rfl N rfl [.int .u32 2, .bool false, .int .i64 32, .int .i64 16, .int .i64 67] rfl 54 _ HV.out.1 info_xms rfl oneCell5 ?_)
  intro Z hr bt _
  have F : Shh (Row Z N 54 [.int .u32 2, .bool false, .int .i64 32, .int .i64 16, .int .i64 67] ∧ Below w.heap.size w Z) := ⟨hr, HV.out.2.2.trans (bt.under (by have := HV.out.2.2.size; omega) (by omega))⟩
  clear hr bt HV
  go_wp2
  exact ret_rs Tryd.results23 rfl rfl rfl F.out.1 Tryd.underlying54 rfl info_xms ⟨rfl, F.out.2⟩
theorem refXmss_3 (w : World) : Calls Tryd.prog 23 #[.int .u32 3] w (OldIs (.tuple #[.agg #[.int .u32 3, .bool false, .int .i64 32, .int .i64 20, .int .i64 67], .int .i64 0]) w) := by
  unfold OldIs
  have hown : ∀ W, Calls Tryd.prog 69 #[.int .u32 3, .int .u32 4043309056] W (StayIs (.tuple #[.int .i64 (rF 3 xB : Int), .int .i64 (rH 3 xB : Int), .bool (rOk 3 xB)]) W) := fun W => refOwn_any 3 4043309056 (by omega) (by omega) W
  have hbytes : ∀ W, Calls Tryd.prog 65 #[.int .i64 0] W (StayIs (.int .i64 32) W) := fun W => bytes6_any 0 (by omega) W
  obtain ⟨ok, hok⟩ : ∃ ok, ok = rOk 3 xB := ⟨_, rfl⟩
  obtain ⟨o1, ho1⟩ : ∃ o, o = rF 3 xB := ⟨_, rfl⟩
  obtain ⟨o2, ho2⟩ : ∃ o, o = rH 3 xB := ⟨_, rfl⟩
  rw [← hok, ← ho1, ← ho2] at hown
  clear hok ho1 ho2
  obtain ⟨W, hW⟩ : ∃ W, W = (w.alloc (.cells #[.int .u32 0, .bool false, .int .i64 0, .int .i64 0, .int .i64 0] 54)).alloc (.cells #[.int .i64 10, .int .i64 16, .int .i64 20] 3) := ⟨_, rfl⟩
  obtain ⟨N, hNN⟩ : ∃ N, w.heap.size = N := ⟨_, rfl⟩
  have HW : Shh (Row W N 54 [.int .u32 0, .bool false, .int .i64 0, .int .i64 0, .int .i64 0] ∧ Row W (N + 1) 3 [.int .i64 10, .int .i64 16, .int .i64 20] ∧ Below w.heap.size w W) := by
    have b1 : Below w.heap.size w (w.alloc (.cells #[.int .u32 0, .bool false, .int .i64 0, .int .i64 0, .int .i64 0] 54)) := below1P _ _
    have b2 : Below (w.alloc (.cells #[.int .u32 0, .bool false, .int .i64 0, .int .i64 0, .int .i64 0] 54)).heap.size (w.alloc (.cells #[.int .u32 0, .bool false, .int .i64 0, .int .i64 0, .int .i64 0] 54)) W := by rw [hW]; exact below1P _ _
    exact ⟨by rw [hW]; exact (Row.new_ hNN.symm rfl).alloc _, by rw [hW]; exact Row.new_ (by rw [asz, hNN]) rfl, Below.chain b1 b2⟩
  rw [hW] at HW
  clear hW
  go_enter Tryd.func23, Tryd.ntmps23
  go_wp2_with (go_at_call 69; refine (hown _).mono ?_)
  unfold StayIs
  rintro e w2 ⟨rfl, rfl⟩
  go_wp2
  have HV : Shh (Row ((w.alloc (.cells #[.int .u32 0, .bool false, .int .i64 0, .int .i64 0, .int .i64 0] 54)).alloc (.cells #[.int .i64 10, .int .i64 16, .int .i64 20] 3)).drew N 54 [.int .u32 0, .bool false, .int .i64 0, .int .i64 0, .int .i64 0] ∧ Row ((w.alloc (.cells #[.int .u32 0, .bool false, .int .i64 0, .int .i64 0, .int .i64 0] 54)).alloc (.cells #[.int .i64 10, .int .i64 16, .int .i64 20] 3)).drew (N + 1) 3 [.int .i64 10, .int .i64 16, .int .i64 20] ∧ Below w.heap.size w ((w.alloc (.cells #[.int .u32 0, .bool false, .int .i64 0, .int .i64 0, .int .i64 0] 54)).alloc (.cells #[.int .i64 10, .int .i64 16, .int .i64 20] 3)).drew) := ⟨HW.out.1.drew, HW.out.2.1.drew, HW.out.2.2.drew⟩
  clear HW
  refine wp_region_held_drew (S := fun w' => Row w' (N + 1) 3 [.int .i64 10, .int .i64 16, .int .i64 20]) (by kernel_rfl) HV.out.2.1 (fun hS => ?_)
  clear hS
  generalize World.drew _ = V at HV ⊢
  have rW := HV.out.2.1
  refine held_value 0 _ _ (some 22) (.slice (some ⟨N + 1, 0, none⟩) 3 3) (by kernel_rfl) (by rfl) (by kernel_rfl) (fun w hS => by first | kernel_rfl | go_simp) (fun _ _ _ _ h => h) (rW) ?_
  simp only [Act.put, List.setIfInBounds_toArray, List.set_cons_zero, List.set_cons_succ]
  refine held_value 1 _ _ (some 23) (.int .u32 3) (by kernel_rfl) (by rfl) (by kernel_rfl) (fun w hS => by first | kernel_rfl | go_simp) (fun _ _ _ _ h => h) (rW) ?_
  simp only [Act.put, List.setIfInBounds_toArray, List.set_cons_zero, List.set_cons_succ]
  refine held_value 2 _ _ (some 24) (.int .u32 2) (by kernel_rfl) (by rfl) (by kernel_rfl) (fun w hS => by kernel_rfl) (fun _ _ _ _ h => h) (rW) ?_
  simp only [Act.put, List.setIfInBounds_toArray, List.set_cons_zero, List.set_cons_succ]
  refine held_value 3 _ _ (some 25) (.pointer (some ⟨N + 1, 2, none⟩)) (by kernel_rfl) (by rfl) (by kernel_rfl) (fun w hS => by first | kernel_rfl | go_simp) (fun _ _ _ _ h => h) (rW) ?_
  simp only [Act.put, List.setIfInBounds_toArray, List.set_cons_zero, List.set_cons_succ]
  refine held_value 4 _ _ (some 26) (.int .i64 20) (by kernel_rfl) (by rfl) (by kernel_rfl) (fun w hS => by have h2 : w.cell? ⟨N + 1, 2, none⟩ = some (.int .i64 20) := hS.cell 2; go_simp) (fun _ _ _ _ h => h) (rW) ?_
  simp only [Act.put, List.setIfInBounds_toArray, List.set_cons_zero, List.set_cons_succ]
  refine held_value 5 _ _ (some 4) (.int .i64 0) (by kernel_rfl) (by rfl) (by kernel_rfl) (fun w hS => by first | kernel_rfl | go_simp) (fun _ _ _ _ h => h) (rW) ?_
  simp only [Act.put, List.setIfInBounds_toArray, List.set_cons_zero, List.set_cons_succ]
  refine held_value 6 _ _ (some 5) (.int .i64 20) (by kernel_rfl) (by rfl) (by kernel_rfl) (fun w hS => by first | kernel_rfl | go_simp) (fun _ _ _ _ h => h) (rW) ?_
  simp only [Act.put, List.setIfInBounds_toArray, List.set_cons_zero, List.set_cons_succ]
  refine held_value 7 _ _ (some 6) (.bool true) (by kernel_rfl) (by rfl) (by kernel_rfl) (fun w hS => by first | kernel_rfl | go_simp) (fun _ _ _ _ h => h) (rW) ?_
  simp only [Act.put, List.setIfInBounds_toArray, List.set_cons_zero, List.set_cons_succ]
  refine wpAnyH_done (by kernel_rfl) ?_ _
  go_wp2_with (go_at_call 65; refine (hbytes _).mono ?_)
  unfold StayIs
  rintro e w3 ⟨rfl, rfl⟩
  go_wp2_with (refine wpList_store_any rfl 54 (.tmp 2) (.tmp 57) rfl N rfl [.int .u32 3, .bool false, .int .i64 32, .int .i64 20, .int .i64 67] rfl 54 _ HV.out.1 info_xms rfl oneCell5 ?_)
  intro Z hr bt _
  have F : Shh (Row Z N 54 [.int .u32 3, .bool false, .int .i64 32, .int .i64 20, .int .i64 67] ∧ Below w.heap.size w Z) := ⟨hr, HV.out.2.2.trans (bt.under (by have := HV.out.2.2.size; omega) (by omega))⟩
  clear hr bt HV
  go_wp2
  exact ret_rs Tryd.results23 rfl rfl rfl F.out.1 Tryd.underlying54 rfl info_xms ⟨rfl, F.out.2⟩
theorem refXmss_13 (w : World) : Calls Tryd.prog 23 #[.int .u32 13] w (OldIs (.tuple #[.agg #[.int .u32 13, .bool false, .int .i64 24, .int .i64 10, .int .i64 51], .int .i64 0]) w) := by
  unfold OldIs
  have hown : ∀ W, Calls Tryd.prog 69 #[.int .u32 13, .int .u32 4043309056] W (StayIs (.tuple #[.int .i64 (rF 13 xB : Int), .int .i64 (rH 13 xB : Int), .bool (rOk 13 xB)]) W) := fun W => refOwn_any 13 4043309056 (by omega) (by omega) W
  have hbytes : ∀ W, Calls Tryd.prog 65 #[.int .i64 1] W (StayIs (.int .i64 24) W) := fun W => bytes6_any 1 (by omega) W
  obtain ⟨ok, hok⟩ : ∃ ok, ok = rOk 13 xB := ⟨_, rfl⟩
  obtain ⟨o1, ho1⟩ : ∃ o, o = rF 13 xB := ⟨_, rfl⟩
  obtain ⟨o2, ho2⟩ : ∃ o, o = rH 13 xB := ⟨_, rfl⟩
  rw [← hok, ← ho1, ← ho2] at hown
  clear hok ho1 ho2
  obtain ⟨W, hW⟩ : ∃ W, W = (w.alloc (.cells #[.int .u32 0, .bool false, .int .i64 0, .int .i64 0, .int .i64 0] 54)).alloc (.cells #[.int .i64 10, .int .i64 16, .int .i64 20] 3) := ⟨_, rfl⟩
  obtain ⟨N, hNN⟩ : ∃ N, w.heap.size = N := ⟨_, rfl⟩
  have HW : Shh (Row W N 54 [.int .u32 0, .bool false, .int .i64 0, .int .i64 0, .int .i64 0] ∧ Row W (N + 1) 3 [.int .i64 10, .int .i64 16, .int .i64 20] ∧ Below w.heap.size w W) := by
    have b1 : Below w.heap.size w (w.alloc (.cells #[.int .u32 0, .bool false, .int .i64 0, .int .i64 0, .int .i64 0] 54)) := below1P _ _
    have b2 : Below (w.alloc (.cells #[.int .u32 0, .bool false, .int .i64 0, .int .i64 0, .int .i64 0] 54)).heap.size (w.alloc (.cells #[.int .u32 0, .bool false, .int .i64 0, .int .i64 0, .int .i64 0] 54)) W := by rw [hW]; exact below1P _ _
    exact ⟨by rw [hW]; exact (Row.new_ hNN.symm rfl).alloc _, by rw [hW]; exact Row.new_ (by rw [asz, hNN]) rfl, Below.chain b1 b2⟩
  rw [hW] at HW
  clear hW
  go_enter Tryd.func23, Tryd.ntmps23
  go_wp2_with (go_at_call 69; refine (hown _).mono ?_)
  unfold StayIs
  rintro e w2 ⟨rfl, rfl⟩
  go_wp2
  have HV : Shh (Row ((w.alloc (.cells #[.int .u32 0, .bool false, .int .i64 0, .int .i64 0, .int .i64 0] 54)).alloc (.cells #[.int .i64 10, .int .i64 16, .int .i64 20] 3)).drew N 54 [.int .u32 0, .bool false, .int .i64 0, .int .i64 0, .int .i64 0] ∧ Row ((w.alloc (.cells #[.int .u32 0, .bool false, .int .i64 0, .int .i64 0, .int .i64 0] 54)).alloc (.cells #[.int .i64 10, .int .i64 16, .int .i64 20] 3)).drew (N + 1) 3 [.int .i64 10, .int .i64 16, .int .i64 20] ∧ Below w.heap.size w ((w.alloc (.cells #[.int .u32 0, .bool false, .int .i64 0, .int .i64 0, .int .i64 0] 54)).alloc (.cells #[.int .i64 10, .int .i64 16, .int .i64 20] 3)).drew) := ⟨HW.out.1.drew, HW.out.2.1.drew, HW.out.2.2.drew⟩
  clear HW
  refine wp_region_held_drew (S := fun w' => Row w' (N + 1) 3 [.int .i64 10, .int .i64 16, .int .i64 20]) (by kernel_rfl) HV.out.2.1 (fun hS => ?_)
  clear hS
  generalize World.drew _ = V at HV ⊢
  have rW := HV.out.2.1
  refine held_value 0 _ _ (some 33) (.int .u32 13) (by kernel_rfl) (by rfl) (by kernel_rfl) (fun w hS => by first | kernel_rfl | go_simp) (fun _ _ _ _ h => h) (rW) ?_
  simp only [Act.put, List.setIfInBounds_toArray, List.set_cons_zero, List.set_cons_succ]
  refine held_value 1 _ _ (some 34) (.int .u32 0) (by kernel_rfl) (by rfl) (by kernel_rfl) (fun w hS => by kernel_rfl) (fun _ _ _ _ h => h) (rW) ?_
  simp only [Act.put, List.setIfInBounds_toArray, List.set_cons_zero, List.set_cons_succ]
  refine held_value 2 _ _ (some 35) (.int .i64 0) (by kernel_rfl) (by rfl) (by kernel_rfl) (fun w hS => by kernel_rfl) (fun _ _ _ _ h => h) (rW) ?_
  simp only [Act.put, List.setIfInBounds_toArray, List.set_cons_zero, List.set_cons_succ]
  refine held_value 3 _ _ (some 36) (.int .i64 0) (by kernel_rfl) (by rfl) (by kernel_rfl) (fun w hS => by kernel_rfl) (fun _ _ _ _ h => h) (rW) ?_
  simp only [Act.put, List.setIfInBounds_toArray, List.set_cons_zero, List.set_cons_succ]
  refine held_value 4 _ _ (some 37) (.int .i64 1) (by kernel_rfl) (by rfl) (by kernel_rfl) (fun w hS => by kernel_rfl) (fun _ _ _ _ h => h) (rW) ?_
  simp only [Act.put, List.setIfInBounds_toArray, List.set_cons_zero, List.set_cons_succ]
  refine held_value 5 _ _ (some 38) (.slice (some ⟨N + 1, 0, none⟩) 3 3) (by kernel_rfl) (by rfl) (by kernel_rfl) (fun w hS => by first | kernel_rfl | go_simp) (fun _ _ _ _ h => h) (rW) ?_
  simp only [Act.put, List.setIfInBounds_toArray, List.set_cons_zero, List.set_cons_succ]
  refine held_value 6 _ _ (some 39) (.int .u32 13) (by kernel_rfl) (by rfl) (by kernel_rfl) (fun w hS => by first | kernel_rfl | go_simp) (fun _ _ _ _ h => h) (rW) ?_
  simp only [Act.put, List.setIfInBounds_toArray, List.set_cons_zero, List.set_cons_succ]
  refine held_value 7 _ _ (some 40) (.int .u32 0) (by kernel_rfl) (by rfl) (by kernel_rfl) (fun w hS => by kernel_rfl) (fun _ _ _ _ h => h) (rW) ?_
  simp only [Act.put, List.setIfInBounds_toArray, List.set_cons_zero, List.set_cons_succ]
  refine held_value 8 _ _ (some 41) (.int .u32 0) (by kernel_rfl) (by rfl) (by kernel_rfl) (fun w hS => by kernel_rfl) (fun _ _ _ _ h => h) (rW) ?_
  simp only [Act.put, List.setIfInBounds_toArray, List.set_cons_zero, List.set_cons_succ]
  refine held_value 9 _ _ (some 42) (.pointer (some ⟨N + 1, 0, none⟩)) (by kernel_rfl) (by rfl) (by kernel_rfl) (fun w hS => by first | kernel_rfl | go_simp) (fun _ _ _ _ h => h) (rW) ?_
  simp only [Act.put, List.setIfInBounds_toArray, List.set_cons_zero, List.set_cons_succ]
  refine held_value 10 _ _ (some 43) (.int .i64 10) (by kernel_rfl) (by rfl) (by kernel_rfl) (fun w hS => by have h2 : w.cell? ⟨N + 1, 0, none⟩ = some (.int .i64 10) := hS.cell 0; go_simp) (fun _ _ _ _ h => h) (rW) ?_
  simp only [Act.put, List.setIfInBounds_toArray, List.set_cons_zero, List.set_cons_succ]
  refine held_value 11 _ _ (some 4) (.int .i64 1) (by kernel_rfl) (by rfl) (by kernel_rfl) (fun w hS => by first | kernel_rfl | go_simp) (fun _ _ _ _ h => h) (rW) ?_
  simp only [Act.put, List.setIfInBounds_toArray, List.set_cons_zero, List.set_cons_succ]
  refine held_value 12 _ _ (some 5) (.int .i64 10) (by kernel_rfl) (by rfl) (by kernel_rfl) (fun w hS => by first | kernel_rfl | go_simp) (fun _ _ _ _ h => h) (rW) ?_
  simp only [Act.put, List.setIfInBounds_toArray, List.set_cons_zero, List.set_cons_succ]
  refine held_value 13 _ _ (some 6) (.bool true) (by kernel_rfl) (by rfl) (by kernel_rfl) (fun w hS => by first | kernel_rfl | go_simp) (fun _ _ _ _ h => h) (rW) ?_
  simp only [Act.put, List.setIfInBounds_toArray, List.set_cons_zero, List.set_cons_succ]
  refine wpAnyH_done (by kernel_rfl) ?_ _
  go_wp2_with (go_at_call 65; refine (hbytes _).mono ?_)
  unfold StayIs
  rintro e w3 ⟨rfl, rfl⟩
  go_wp2_with (refine wpList_store_any rfl 54 (.tmp 2) (.tmp 57) rfl N rfl [.int .u32 13, .bool false, .int .i64 24, .int .i64 10, .int .i64 51] rfl 54 _ HV.out.1 info_xms rfl oneCell5 ?_)
  intro Z hr bt _
  have F : Shh (Row Z N 54 [.int .u32 13, .bool false, .int .i64 24, .int .i64 10, .int .i64 51] ∧ Below w.heap.size w Z) := ⟨hr, HV.out.2.2.trans (bt.under (by have := HV.out.2.2.size; omega) (by omega))⟩
  clear hr bt HV
  go_wp2
  exact ret_rs Tryd.results23 rfl rfl rfl F.out.1 Tryd.underlying54 rfl info_xms ⟨rfl, F.out.2⟩
theorem refXmss_14 (w : World) : Calls Tryd.prog 23 #[.int .u32 14] w (OldIs (.tuple #[.agg #[.int .u32 14, .bool false, .int .i64 24, .int .i64 16, .int .i64 51], .int .i64 0]) w) := by
  unfold OldIs
  have hown : ∀ W, Calls Tryd.prog 69 #[.int .u32 14, .int .u32 4043309056] W (StayIs (.tuple #[.int .i64 (rF 14 xB : Int), .int .i64 (rH 14 xB : Int), .bool (rOk 14 xB)]) W) := fun W => refOwn_any 14 4043309056 (by omega) (by omega) W
  have hbytes : ∀ W, Calls Tryd.prog 65 #[.int .i64 1] W (StayIs (.int .i64 24) W) := fun W => bytes6_any 1 (by omega) W
  obtain ⟨ok, hok⟩ : ∃ ok, ok = rOk 14 xB := ⟨_, rfl⟩
  obtain ⟨o1, ho1⟩ : ∃ o, o = rF 14 xB := ⟨_, rfl⟩
  obtain ⟨o2, ho2⟩ : ∃ o, o = rH 14 xB := ⟨_, rfl⟩
  rw [← hok, ← ho1, ← ho2] at hown
  clear hok ho1 ho2
  obtain ⟨W, hW⟩ : ∃ W, W = (w.alloc (.cells #[.int .u32 0, .bool false, .int .i64 0, .int .i64 0, .int .i64 0] 54)).alloc (.cells #[.int .i64 10, .int .i64 16, .int .i64 20] 3) := ⟨_, rfl⟩
  obtain ⟨N, hNN⟩ : ∃ N, w.heap.size = N := ⟨_, rfl⟩
  have HW : Shh (Row W N 54 [.int .u32 0, .bool false, .int .i64 0, .int .i64 0, .int .i64 0] ∧ Row W (N + 1) 3 [.int .i64 10, .int .i64 16, .int .i64 20] ∧ Below w.heap.size w W) := by
    have b1 : Below w.heap.size w (w.alloc (.cells #[.int .u32 0, .bool false, .int .i64 0, .int .i64 0, .int .i64 0] 54)) := below1P _ _
    have b2 : Below (w.alloc (.cells #[.int .u32 0, .bool false, .int .i64 0, .int .i64 0, .int .i64 0] 54)).heap.size (w.alloc (.cells #[.int .u32 0, .bool false, .int .i64 0, .int .i64 0, .int .i64 0] 54)) W := by rw [hW]; exact below1P _ _
    exact ⟨by rw [hW]; exact (Row.new_ hNN.symm rfl).alloc _, by rw [hW]; exact Row.new_ (by rw [asz, hNN]) rfl, Below.chain b1 b2⟩
  rw [hW] at HW
  clear hW
  go_enter Tryd.func23, Tryd.ntmps23
  go_wp2_with (go_at_call 69; refine (hown _).mono ?_)
  unfold StayIs
  rintro e w2 ⟨rfl, rfl⟩
  go_wp2
  have HV : Shh (Row ((w.alloc (.cells #[.int .u32 0, .bool false, .int .i64 0, .int .i64 0, .int .i64 0] 54)).alloc (.cells #[.int .i64 10, .int .i64 16, .int .i64 20] 3)).drew N 54 [.int .u32 0, .bool false, .int .i64 0, .int .i64 0, .int .i64 0] ∧ Row ((w.alloc (.cells #[.int .u32 0, .bool false, .int .i64 0, .int .i64 0, .int .i64 0] 54)).alloc (.cells #[.int .i64 10, .int .i64 16, .int .i64 20] 3)).drew (N + 1) 3 [.int .i64 10, .int .i64 16, .int .i64 20] ∧ Below w.heap.size w ((w.alloc (.cells #[.int .u32 0, .bool false, .int .i64 0, .int .i64 0, .int .i64 0] 54)).alloc (.cells #[.int .i64 10, .int .i64 16, .int .i64 20] 3)).drew) := ⟨HW.out.1.drew, HW.out.2.1.drew, HW.out.2.2.drew⟩
  clear HW
  refine wp_region_held_drew (S := fun w' => Row w' (N + 1) 3 [.int .i64 10, .int .i64 16, .int .i64 20]) (by kernel_rfl) HV.out.2.1 (fun hS => ?_)
  clear hS
  generalize World.drew _ = V at HV ⊢
  have rW := HV.out.2.1
  refine held_value 0 _ _ (some 33) (.int .u32 14) (by kernel_rfl) (by rfl) (by kernel_rfl) (fun w hS => by first | kernel_rfl | go_simp) (fun _ _ _ _ h => h) (rW) ?_
  simp only [Act.put, List.setIfInBounds_toArray, List.set_cons_zero, List.set_cons_succ]
  refine held_value 1 _ _ (some 34) (.int .u32 1) (by kernel_rfl) (by rfl) (by kernel_rfl) (fun w hS => by kernel_rfl) (fun _ _ _ _ h => h) (rW) ?_
  simp only [Act.put, List.setIfInBounds_toArray, List.set_cons_zero, List.set_cons_succ]
  refine held_value 2 _ _ (some 35) (.int .i64 1) (by kernel_rfl) (by rfl) (by kernel_rfl) (fun w hS => by kernel_rfl) (fun _ _ _ _ h => h) (rW) ?_
  simp only [Act.put, List.setIfInBounds_toArray, List.set_cons_zero, List.set_cons_succ]
  refine held_value 3 _ _ (some 36) (.int .i64 0) (by kernel_rfl) (by rfl) (by kernel_rfl) (fun w hS => by kernel_rfl) (fun _ _ _ _ h => h) (rW) ?_
  simp only [Act.put, List.setIfInBounds_toArray, List.set_cons_zero, List.set_cons_succ]
  refine held_value 4 _ _ (some 37) (.int .i64 1) (by kernel_rfl) (by rfl) (by kernel_rfl) (fun w hS => by kernel_rfl) (fun _ _ _ _ h => h) (rW) ?_
  simp only [Act.put, List.setIfInBounds_toArray, List.set_cons_zero, List.set_cons_succ]
  refine held_value 5 _ _ (some 38) (.slice (some ⟨N + 1, 0, none⟩) 3 3) (by kernel_rfl) (by rfl) (by kernel_rfl) (fun w hS => by first | kernel_rfl | go_simp) (fun _ _ _ _ h => h) (rW) ?_
  simp only [Act.put, List.setIfInBounds_toArray, List.set_cons_zero, List.set_cons_succ]
  refine held_value 6 _ _ (some 39) (.int .u32 14) (by kernel_rfl) (by rfl) (by kernel_rfl) (fun w hS => by first | kernel_rfl | go_simp) (fun _ _ _ _ h => h) (rW) ?_
  simp only [Act.put, List.setIfInBounds_toArray, List.set_cons_zero, List.set_cons_succ]
  refine held_value 7 _ _ (some 40) (.int .u32 1) (by kernel_rfl) (by rfl) (by kernel_rfl) (fun w hS => by kernel_rfl) (fun _ _ _ _ h => h) (rW) ?_
  simp only [Act.put, List.setIfInBounds_toArray, List.set_cons_zero, List.set_cons_succ]
  refine held_value 8 _ _ (some 41) (.int .u32 1) (by kernel_rfl) (by rfl) (by kernel_rfl) (fun w hS => by kernel_rfl) (fun _ _ _ _ h => h) (rW) ?_
  simp only [Act.put, List.setIfInBounds_toArray, List.set_cons_zero, List.set_cons_succ]
  refine held_value 9 _ _ (some 42) (.pointer (some ⟨N + 1, 1, none⟩)) (by kernel_rfl) (by rfl) (by kernel_rfl) (fun w hS => by first | kernel_rfl | go_simp) (fun _ _ _ _ h => h) (rW) ?_
  simp only [Act.put, List.setIfInBounds_toArray, List.set_cons_zero, List.set_cons_succ]
  refine held_value 10 _ _ (some 43) (.int .i64 16) (by kernel_rfl) (by rfl) (by kernel_rfl) (fun w hS => by have h2 : w.cell? ⟨N + 1, 1, none⟩ = some (.int .i64 16) := hS.cell 1; go_simp) (fun _ _ _ _ h => h) (rW) ?_
  simp only [Act.put, List.setIfInBounds_toArray, List.set_cons_zero, List.set_cons_succ]
  refine held_value 11 _ _ (some 4) (.int .i64 1) (by kernel_rfl) (by rfl) (by kernel_rfl) (fun w hS => by first | kernel_rfl | go_simp) (fun _ _ _ _ h => h) (rW) ?_
  simp only [Act.put, List.setIfInBounds_toArray, List.set_cons_zero, List.set_cons_succ]
  refine held_value 12 _ _ (some 5) (.int .i64 16) (by kernel_rfl) (by rfl) (by kernel_rfl) (fun w hS => by first | kernel_rfl | go_simp) (fun _ _ _ _ h => h) (rW) ?_
  simp only [Act.put, List.setIfInBounds_toArray, List.set_cons_zero, List.set_cons_succ]
  refine held_value 13 _ _ (some 6) (.bool true) (by kernel_rfl) (by rfl) (by kernel_rfl) (fun w hS => by first | kernel_rfl | go_simp) (fun _ _ _ _ h => h) (rW) ?_
  simp only [Act.put, List.setIfInBounds_toArray, List.set_cons_zero, List.set_cons_succ]
  refine wpAnyH_done (by kernel_rfl) ?_ _
  go_wp2_with (go_at_call 65; refine (hbytes _).mono ?_)
  unfold StayIs
  rintro e w3 ⟨rfl, rfl⟩
  go_wp2_with (refine wpList_store_any rfl 54 (.tmp 2) (.tmp 57) rfl N rfl [.int .u32 14, .bool false, .int .i64 24, .int .i64 16, .int .i64 51] rfl 54 _ HV.out.1 info_xms rfl oneCell5 ?_)
  intro Z hr bt _
  have F : Shh (Row Z N 54 [.int .u32 14, .bool false, .int .i64 24, .int .i64 16, .int .i64 51] ∧ Below w.heap.size w Z) := ⟨hr, HV.out.2.2.trans (bt.under (by have := HV.out.2.2.size; omega) (by omega))⟩
  clear hr bt HV
  go_wp2
  exact ret_rs Tryd.results23 rfl rfl rfl F.out.1 Tryd.underlying54 rfl info_xms ⟨rfl, F.out.2⟩
theorem refXmss_15 (w : World) : Calls Tryd.prog 23 #[.int .u32 15] w (OldIs (.tuple #[.agg #[.int .u32 15, .bool false, .int .i64 24, .int .i64 20, .int .i64 51], .int .i64 0]) w) := by
  unfold OldIs
  have hown : ∀ W, Calls Tryd.prog 69 #[.int .u32 15, .int .u32 4043309056] W (StayIs (.tuple #[.int .i64 (rF 15 xB : Int), .int .i64 (rH 15 xB : Int), .bool (rOk 15 xB)]) W) := fun W => refOwn_any 15 4043309056 (by omega) (by omega) W
  have hbytes : ∀ W, Calls Tryd.prog 65 #[.int .i64 1] W (StayIs (.int .i64 24) W) := fun W => bytes6_any 1 (by omega) W
  obtain ⟨ok, hok⟩ : ∃ ok, ok = rOk 15 xB := ⟨_, rfl⟩
  obtain ⟨o1, ho1⟩ : ∃ o, o = rF 15 xB := ⟨_, rfl⟩
  obtain ⟨o2, ho2⟩ : ∃ o, o = rH 15 xB := ⟨_, rfl⟩
  rw [← hok, ← ho1, ← ho2] at hown
  clear hok ho1 ho2
  obtain ⟨W, hW⟩ : ∃ W, W = (w.alloc (.cells #[.int .u32 0, .bool false, .int .i64 0, .int .i64 0, .int .i64 0] 54)).alloc (.cells #[.int .i64 10, .int .i64 16, .int .i64 20] 3) := ⟨_, rfl⟩
  obtain ⟨N, hNN⟩ : ∃ N, w.heap.size = N := ⟨_, rfl⟩
  have HW : Shh (Row W N 54 [.int .u32 0, .bool false, .int .i64 0, .int .i64 0, .int .i64 0] ∧ Row W (N + 1) 3 [.int .i64 10, .int .i64 16, .int .i64 20] ∧ Below w.heap.size w W) := by
    have b1 : Below w.heap.size w (w.alloc (.cells #[.int .u32 0, .bool false, .int .i64 0, .int .i64 0, .int .i64 0] 54)) := below1P _ _
    have b2 : Below (w.alloc (.cells #[.int .u32 0, .bool false, .int .i64 0, .int .i64 0, .int .i64 0] 54)).heap.size (w.alloc (.cells #[.int .u32 0, .bool false, .int .i64 0, .int .i64 0, .int .i64 0] 54)) W := by rw [hW]; exact below1P _ _
    exact ⟨by rw [hW]; exact (Row.new_ hNN.symm rfl).alloc _, by rw [hW]; exact Row.new_ (by rw [asz, hNN]) rfl, Below.chain b1 b2⟩
  rw [hW] at HW
  clear hW
  go_enter Tryd.func23, Tryd.ntmps23
  go_wp2_with (go_at_call 69; refine (hown _).mono ?_)
  unfold StayIs
  rintro e w2 ⟨rfl, rfl⟩
  go_wp2
  have HV : Shh (Row ((w.alloc (.cells #[.int .u32 0, .bool false, .int .i64 0, .int .i64 0, .int .i64 0] 54)).alloc (.cells #[.int .i64 10, .int .i64 16, .int .i64 20] 3)).drew N 54 [.int .u32 0, .bool false, .int .i64 0, .int .i64 0, .int .i64 0] ∧ Row ((w.alloc (.cells #[.int .u32 0, .bool false, .int .i64 0, .int .i64 0, .int .i64 0] 54)).alloc (.cells #[.int .i64 10, .int .i64 16, .int .i64 20] 3)).drew (N + 1) 3 [.int .i64 10, .int .i64 16, .int .i64 20] ∧ Below w.heap.size w ((w.alloc (.cells #[.int .u32 0, .bool false, .int .i64 0, .int .i64 0, .int .i64 0] 54)).alloc (.cells #[.int .i64 10, .int .i64 16, .int .i64 20] 3)).drew) := ⟨HW.out.1.drew, HW.out.2.1.drew, HW.out.2.2.drew⟩
  clear HW
  refine wp_region_held_drew (S := fun w' => Row w' (N + 1) 3 [.int .i64 10, .int .i64 16, .int .i64 20]) (by kernel_rfl) HV.out.2.1 (fun hS => ?_)
  clear hS
  generalize World.drew _ = V at HV ⊢
  have rW := HV.out.2.1
  refine held_value 0 _ _ (some 33) (.int .u32 15) (by kernel_rfl) (by rfl) (by kernel_rfl) (fun w hS => by first | kernel_rfl | go_simp) (fun _ _ _ _ h => h) (rW) ?_
  simp only [Act.put, List.setIfInBounds_toArray, List.set_cons_zero, List.set_cons_succ]
  refine held_value 1 _ _ (some 34) (.int .u32 2) (by kernel_rfl) (by rfl) (by kernel_rfl) (fun w hS => by kernel_rfl) (fun _ _ _ _ h => h) (rW) ?_
  simp only [Act.put, List.setIfInBounds_toArray, List.set_cons_zero, List.set_cons_succ]
  refine held_value 2 _ _ (some 35) (.int .i64 2) (by kernel_rfl) (by rfl) (by kernel_rfl) (fun w hS => by kernel_rfl) (fun _ _ _ _ h => h) (rW) ?_
  simp only [Act.put, List.setIfInBounds_toArray, List.set_cons_zero, List.set_cons_succ]
  refine held_value 3 _ _ (some 36) (.int .i64 0) (by kernel_rfl) (by rfl) (by kernel_rfl) (fun w hS => by kernel_rfl) (fun _ _ _ _ h => h) (rW) ?_
  simp only [Act.put, List.setIfInBounds_toArray, List.set_cons_zero, List.set_cons_succ]
  refine held_value 4 _ _ (some 37) (.int .i64 1) (by kernel_rfl) (by rfl) (by kernel_rfl) (fun w hS => by kernel_rfl) (fun _ _ _ _ h => h) (rW) ?_
  simp only [Act.put, List.setIfInBounds_toArray, List.set_cons_zero, List.set_cons_succ]
  refine held_value 5 _ _ (some 38) (.slice (some ⟨N + 1, 0, none⟩) 3 3) (by kernel_rfl) (by rfl) (by kernel_rfl) (fun w hS => by first | kernel_rfl | go_simp) (fun _ _ _ _ h => h) (rW) ?_
  simp only [Act.put, List.setIfInBounds_toArray, List.set_cons_zero, List.set_cons_succ]
  refine held_value 6 _ _ (some 39) (.int .u32 15) (by kernel_rfl) (by rfl) (by kernel_rfl) (fun w hS => by first | kernel_rfl | go_simp) (fun _ _ _ _ h => h) (rW) ?_
  simp only [Act.put, List.setIfInBounds_toArray, List.set_cons_zero, List.set_cons_succ]
  refine held_value 7 _ _ (some 40) (.int .u32 2) (by kernel_rfl) (by rfl) (by kernel_rfl) (fun w hS => by kernel_rfl) (fun _ _ _ _ h => h) (rW) ?_
  simp only [Act.put, List.setIfInBounds_toArray, List.set_cons_zero, List.set_cons_succ]
  refine held_value 8 _ _ (some 41) (.int .u32 2) (by kernel_rfl) (by rfl) (by kernel_rfl) (fun w hS => by kernel_rfl) (fun _ _ _ _ h => h) (rW) ?_
  simp only [Act.put, List.setIfInBounds_toArray, List.set_cons_zero, List.set_cons_succ]
  refine held_value 9 _ _ (some 42) (.pointer (some ⟨N + 1, 2, none⟩)) (by kernel_rfl) (by rfl) (by kernel_rfl) (fun w hS => by first | kernel_rfl | go_simp) (fun _ _ _ _ h => h) (rW) ?_
  simp only [Act.put, List.setIfInBounds_toArray, List.set_cons_zero, List.set_cons_succ]
  refine held_value 10 _ _ (some 43) (.int .i64 20) (by kernel_rfl) (by rfl) (by kernel_rfl) (fun w hS => by have h2 : w.cell? ⟨N + 1, 2, none⟩ = some (.int .i64 20) := hS.cell 2; go_simp) (fun _ _ _ _ h => h) (rW) ?_
  simp only [Act.put, List.setIfInBounds_toArray, List.set_cons_zero, List.set_cons_succ]
  refine held_value 11 _ _ (some 4) (.int .i64 1) (by kernel_rfl) (by rfl) (by kernel_rfl) (fun w hS => by first | kernel_rfl | go_simp) (fun _ _ _ _ h => h) (rW) ?_
  simp only [Act.put, List.setIfInBounds_toArray, List.set_cons_zero, List.set_cons_succ]
  refine held_value 12 _ _ (some 5) (.int .i64 20) (by kernel_rfl) (by rfl) (by kernel_rfl) (fun w hS => by first | kernel_rfl | go_simp) (fun _ _ _ _ h => h) (rW) ?_
  simp only [Act.put, List.setIfInBounds_toArray, List.set_cons_zero, List.set_cons_succ]
  refine held_value 13 _ _ (some 6) (.bool true) (by kernel_rfl) (by rfl) (by kernel_rfl) (fun w hS => by first | kernel_rfl | go_simp) (fun _ _ _ _ h => h) (rW) ?_
  simp only [Act.put, List.setIfInBounds_toArray, List.set_cons_zero, List.set_cons_succ]
  refine wpAnyH_done (by kernel_rfl) ?_ _
  go_wp2_with (go_at_call 65; refine (hbytes _).mono ?_)
  unfold StayIs
  rintro e w3 ⟨rfl, rfl⟩
  go_wp2_with (refine wpList_store_any rfl 54 (.tmp 2) (.tmp 57) rfl N rfl [.int .u32 15, .bool false, .int .i64 24, .int .i64 20, .int .i64 51] rfl 54 _ HV.out.1 info_xms rfl oneCell5 ?_)
  intro Z hr bt _
  have F : Shh (Row Z N 54 [.int .u32 15, .bool false, .int .i64 24, .int .i64 20, .int .i64 51] ∧ Below w.heap.size w Z) := ⟨hr, HV.out.2.2.trans (bt.under (by have := HV.out.2.2.size; omega) (by omega))⟩
  clear hr bt HV
  go_wp2
  exact ret_rs Tryd.results23 rfl rfl rfl F.out.1 Tryd.underlying54 rfl info_xms ⟨rfl, F.out.2⟩
theorem refXmss_16 (w : World) : Calls Tryd.prog 23 #[.int .u32 16] w (OldIs (.tuple #[.agg #[.int .u32 16, .bool true, .int .i64 32, .int .i64 10, .int .i64 67], .int .i64 0]) w) := by
  unfold OldIs
  have hown : ∀ W, Calls Tryd.prog 69 #[.int .u32 16, .int .u32 4043309056] W (StayIs (.tuple #[.int .i64 (rF 16 xB : Int), .int .i64 (rH 16 xB : Int), .bool (rOk 16 xB)]) W) := fun W => refOwn_any 16 4043309056 (by omega) (by omega) W
  have hbytes : ∀ W, Calls Tryd.prog 65 #[.int .i64 2] W (StayIs (.int .i64 32) W) := fun W => bytes6_any 2 (by omega) W
  obtain ⟨ok, hok⟩ : ∃ ok, ok = rOk 16 xB := ⟨_, rfl⟩
  obtain ⟨o1, ho1⟩ : ∃ o, o = rF 16 xB := ⟨_, rfl⟩
  obtain ⟨o2, ho2⟩ : ∃ o, o = rH 16 xB := ⟨_, rfl⟩
  rw [← hok, ← ho1, ← ho2] at hown
  clear hok ho1 ho2
  obtain ⟨W, hW⟩ : ∃ W, W = (w.alloc (.cells #[.int .u32 0, .bool false, .int .i64 0, .int .i64 0, .int .i64 0] 54)).alloc (.cells #[.int .i64 10, .int .i64 16, .int .i64 20] 3) := ⟨_, rfl⟩
  obtain ⟨N, hNN⟩ : ∃ N, w.heap.size = N := ⟨_, rfl⟩
  have HW : Shh (Row W N 54 [.int .u32 0, .bool false, .int .i64 0, .int .i64 0, .int .i64 0] ∧ Row W (N + 1) 3 [.int .i64 10, .int .i64 16, .int .i64 20] ∧ Below w.heap.size w W) := by
    have b1 : Below w.heap.size w (w.alloc (.cells #[.int .u32 0, .bool false, .int .i64 0, .int .i64 0, .int .i64 0] 54)) := below1P _ _
    have b2 : Below (w.alloc (.cells #[.int .u32 0, .bool false, .int .i64 0, .int .i64 0, .int .i64 0] 54)).heap.size (w.alloc (.cells #[.int .u32 0, .bool false, .int .i64 0, .int .i64 0, .int .i64 0] 54)) W := by rw [hW]; exact below1P _ _
    exact ⟨by rw [hW]; exact (Row.new_ hNN.symm rfl).alloc _, by rw [hW]; exact Row.new_ (by rw [asz, hNN]) rfl, Below.chain b1 b2⟩
  rw [hW] at HW
  clear hW
  go_enter Tryd.func23, Tryd.ntmps23
  go_wp2_with (go_at_call 69; refine (hown _).mono ?_)
  unfold StayIs
  rintro e w2 ⟨rfl, rfl⟩
  go_wp2
  have HV : Shh (Row ((w.alloc (.cells #[.int .u32 0, .bool false, .int .i64 0, .int .i64 0, .int .i64 0] 54)).alloc (.cells #[.int .i64 10, .int .i64 16, .int .i64 20] 3)).drew N 54 [.int .u32 0, .bool false, .int .i64 0, .int .i64 0, .int .i64 0] ∧ Row ((w.alloc (.cells #[.int .u32 0, .bool false, .int .i64 0, .int .i64 0, .int .i64 0] 54)).alloc (.cells #[.int .i64 10, .int .i64 16, .int .i64 20] 3)).drew (N + 1) 3 [.int .i64 10, .int .i64 16, .int .i64 20] ∧ Below w.heap.size w ((w.alloc (.cells #[.int .u32 0, .bool false, .int .i64 0, .int .i64 0, .int .i64 0] 54)).alloc (.cells #[.int .i64 10, .int .i64 16, .int .i64 20] 3)).drew) := ⟨HW.out.1.drew, HW.out.2.1.drew, HW.out.2.2.drew⟩
  clear HW
  refine wp_region_held_drew (S := fun w' => Row w' (N + 1) 3 [.int .i64 10, .int .i64 16, .int .i64 20]) (by kernel_rfl) HV.out.2.1 (fun hS => ?_)
  clear hS
  generalize World.drew _ = V at HV ⊢
  have rW := HV.out.2.1
  refine held_value 0 _ _ (some 33) (.int .u32 16) (by kernel_rfl) (by rfl) (by kernel_rfl) (fun w hS => by first | kernel_rfl | go_simp) (fun _ _ _ _ h => h) (rW) ?_
  simp only [Act.put, List.setIfInBounds_toArray, List.set_cons_zero, List.set_cons_succ]
  refine held_value 1 _ _ (some 34) (.int .u32 3) (by kernel_rfl) (by rfl) (by kernel_rfl) (fun w hS => by kernel_rfl) (fun _ _ _ _ h => h) (rW) ?_
  simp only [Act.put, List.setIfInBounds_toArray, List.set_cons_zero, List.set_cons_succ]
  refine held_value 2 _ _ (some 35) (.int .i64 3) (by kernel_rfl) (by rfl) (by kernel_rfl) (fun w hS => by kernel_rfl) (fun _ _ _ _ h => h) (rW) ?_
  simp only [Act.put, List.setIfInBounds_toArray, List.set_cons_zero, List.set_cons_succ]
  refine held_value 3 _ _ (some 36) (.int .i64 1) (by kernel_rfl) (by rfl) (by kernel_rfl) (fun w hS => by kernel_rfl) (fun _ _ _ _ h => h) (rW) ?_
  simp only [Act.put, List.setIfInBounds_toArray, List.set_cons_zero, List.set_cons_succ]
  refine held_value 4 _ _ (some 37) (.int .i64 2) (by kernel_rfl) (by rfl) (by kernel_rfl) (fun w hS => by kernel_rfl) (fun _ _ _ _ h => h) (rW) ?_
  simp only [Act.put, List.setIfInBounds_toArray, List.set_cons_zero, List.set_cons_succ]
  refine held_value 5 _ _ (some 38) (.slice (some ⟨N + 1, 0, none⟩) 3 3) (by kernel_rfl) (by rfl) (by kernel_rfl) (fun w hS => by first | kernel_rfl | go_simp) (fun _ _ _ _ h => h) (rW) ?_
  simp only [Act.put, List.setIfInBounds_toArray, List.set_cons_zero, List.set_cons_succ]
  refine held_value 6 _ _ (some 39) (.int .u32 16) (by kernel_rfl) (by rfl) (by kernel_rfl) (fun w hS => by first | kernel_rfl | go_simp) (fun _ _ _ _ h => h) (rW) ?_
  simp only [Act.put, List.setIfInBounds_toArray, List.set_cons_zero, List.set_cons_succ]
  refine held_value 7 _ _ (some 40) (.int .u32 3) (by kernel_rfl) (by rfl) (by kernel_rfl) (fun w hS => by kernel_rfl) (fun _ _ _ _ h => h) (rW) ?_
  simp only [Act.put, List.setIfInBounds_toArray, List.set_cons_zero, List.set_cons_succ]
  refine held_value 8 _ _ (some 41) (.int .u32 0) (by kernel_rfl) (by rfl) (by kernel_rfl) (fun w hS => by kernel_rfl) (fun _ _ _ _ h => h) (rW) ?_
  simp only [Act.put, List.setIfInBounds_toArray, List.set_cons_zero, List.set_cons_succ]
  refine held_value 9 _ _ (some 42) (.pointer (some ⟨N + 1, 0, none⟩)) (by kernel_rfl) (by rfl) (by kernel_rfl) (fun w hS => by first | kernel_rfl | go_simp) (fun _ _ _ _ h => h) (rW) ?_
  simp only [Act.put, List.setIfInBounds_toArray, List.set_cons_zero, List.set_cons_succ]
  refine held_value 10 _ _ (some 43) (.int .i64 10) (by kernel_rfl) (by rfl) (by kernel_rfl) (fun w hS => by have h2 : w.cell? ⟨N + 1, 0, none⟩ = some (.int .i64 10) := hS.cell 0; go_simp) (fun _ _ _ _ h => h) (rW) ?_
  simp only [Act.put, List.setIfInBounds_toArray, List.set_cons_zero, List.set_cons_succ]
  refine held_value 11 _ _ (some 4) (.int .i64 2) (by kernel_rfl) (by rfl) (by kernel_rfl) (fun w hS => by first | kernel_rfl | go_simp) (fun _ _ _ _ h => h) (rW) ?_
  simp only [Act.put, List.setIfInBounds_toArray, List.set_cons_zero, List.set_cons_succ]
  refine held_value 12 _ _ (some 5) (.int .i64 10) (by kernel_rfl) (by rfl) (by kernel_rfl) (fun w hS => by first | kernel_rfl | go_simp) (fun _ _ _ _ h => h) (rW) ?_
  simp only [Act.put, List.setIfInBounds_toArray, List.set_cons_zero, List.set_cons_succ]
  refine held_value 13 _ _ (some 6) (.bool true) (by kernel_rfl) (by rfl) (by kernel_rfl) (fun w hS => by first | kernel_rfl | go_simp) (fun _ _ _ _ h => h) (rW) ?_
  simp only [Act.put, List.setIfInBounds_toArray, List.set_cons_zero, List.set_cons_succ]
  refine wpAnyH_done (by kernel_rfl) ?_ _
  go_wp2_with (go_at_call 65; refine (hbytes _).mono ?_)
  unfold StayIs
  rintro e w3 ⟨rfl, rfl⟩
  go_wp2_with (refine wpList_store_any rfl 54 (.tmp 2) (.tmp 57) rfl N rfl [.int .u32 16, .bool true, .int .i64 32, .int .i64 10, .int .i64 67] rfl 54 _ HV.out.1 info_xms rfl oneCell5 ?_)
  intro Z hr bt _
  have F : Shh (Row Z N 54 [.int .u32 16, .bool true, .int .i64 32, .int .i64 10, .int .i64 67] ∧ Below w.heap.size w Z) := ⟨hr, HV.out.2.2.trans (bt.under (by have := HV.out.2.2.size; omega) (by omega))⟩
  clear hr bt HV
  go_wp2
  exact ret_rs Tryd.results23 rfl rfl rfl F.out.1 Tryd.underlying54 rfl info_xms ⟨rfl, F.out.2⟩
theorem refXmss_17 (w : World) : Calls Tryd.prog 23 #[.int .u32 17] w (OldIs (.tuple #[.agg #[.int .u32 17, .bool true, .int .i64 32, .int .i64 16, .int .i64 67], .int .i64 0]) w) := by
  unfold OldIs
  have hown : ∀ W, Calls Tryd.prog 69 #[.int .u32 17, .int .u32 4043309056] W (StayIs (.tuple #[.int .i64 (rF 17 xB : Int), .int .i64 (rH 17 xB : Int), .bool (rOk 17 xB)]) W) := fun W => refOwn_any 17 4043309056 (by omega) (by omega) W
  have hbytes : ∀ W, Calls Tryd.prog 65 #[.int .i64 2] W (StayIs (.int .i64 32) W) := fun W => bytes6_any 2 (by omega) W
  obtain ⟨ok, hok⟩ : ∃ ok, ok = rOk 17 xB := ⟨_, rfl⟩
  obtain ⟨o1, ho1⟩ : ∃ o, o = rF 17 xB := ⟨_, rfl⟩
  obtain ⟨o2, ho2⟩ : ∃ o, o = rH 17 xB := ⟨_, rfl⟩
  rw [← hok, ← ho1, ← ho2] at hown
  clear hok ho1 ho2
  obtain ⟨W, hW⟩ : ∃ W, W = (w.alloc (.cells #[.int .u32 0, .bool false, .int .i64 0, .int .i64 0, .int .i64 0] 54)).alloc (.cells #[.int .i64 10, .int .i64 16, .int .i64 20] 3) := ⟨_, rfl⟩
  obtain ⟨N, hNN⟩ : ∃ N, w.heap.size = N := ⟨_, rfl⟩
  have HW : Shh (Row W N 54 [.int .u32 0, .bool false, .int .i64 0, .int .i64 0, .int .i64 0] ∧ Row W (N + 1) 3 [.int .i64 10, .int .i64 16, .int .i64 20] ∧ Below w.heap.size w W) := by
    have b1 : Below w.heap.size w (w.alloc (.cells #[.int .u32 0, .bool false, .int .i64 0, .int .i64 0, .int .i64 0] 54)) := below1P _ _
    have b2 : Below (w.alloc (.cells #[.int .u32 0, .bool false, .int .i64 0, .int .i64 0, .int .i64 0] 54)).heap.size (w.alloc (.cells #[.int .u32 0, .bool false, .int .i64 0, .int .i64 0, .int .i64 0] 54)) W := by rw [hW]; exact below1P _ _
    exact ⟨by rw [hW]; exact (Row.new_ hNN.symm rfl).alloc _, by rw [hW]; exact Row.new_ (by rw [asz, hNN]) rfl, Below.chain b1 b2⟩
  rw [hW] at HW
  clear hW
  go_enter Tryd.func23, Tryd.ntmps23
  go_wp2_with (go_at_call 69; refine (hown _).mono ?_)
  unfold StayIs
  rintro e w2 ⟨rfl, rfl⟩
  go_wp2
  have HV : Shh (Row ((w.alloc (.cells #[.int .u32 0, .bool false, .int .i64 0, .int .i64 0, .int .i64 0] 54)).alloc (.cells #[.int .i64 10, .int .i64 16, .int .i64 20] 3)).drew N 54 [.int .u32 0, .bool false, .int .i64 0, .int .i64 0, .int .i64 0] ∧ Row ((w.alloc (.cells #[.int .u32 0, .bool false, .int .i64 0, .int .i64 0, .int .i64 0] 54)).alloc (.cells #[.int .i64 10, .int .i64 16, .int .i64 20] 3)).drew (N + 1) 3 [.int .i64 10, .int .i64 16, .int .i64 20] ∧ Below w.heap.size w ((w.alloc (.cells #[.int .u32 0, .bool false, .int .i64 0, .int .i64 0, .int .i64 0] 54)).alloc (.cells #[.int .i64 10, .int .i64 16, .int .i64 20] 3)).drew) := ⟨HW.out.1.drew, HW.out.2.1.drew, HW.out.2.2.drew⟩
  clear HW
  refine wp_region_held_drew (S := fun w' => Row w' (N + 1) 3 [.int .i64 10, .int .i64 16, .int .i64 20]) (by kernel_rfl) HV.out.2.1 (fun hS => ?_)
  clear hS
  generalize World.drew _ = V at HV ⊢
  have rW := HV.out.2.1
  refine held_value 0 _ _ (some 33) (.int .u32 17) (by kernel_rfl) (by rfl) (by kernel_rfl) (fun w hS => by first | kernel_rfl | go_simp) (fun _ _ _ _ h => h) (rW) ?_
  simp only [Act.put, List.setIfInBounds_toArray, List.set_cons_zero, List.set_cons_succ]
  refine held_value 1 _ _ (some 34) (.int .u32 4) (by kernel_rfl) (by rfl) (by kernel_rfl) (fun w hS => by kernel_rfl) (fun _ _ _ _ h => h) (rW) ?_
  simp only [Act.put, List.setIfInBounds_toArray, List.set_cons_zero, List.set_cons_succ]
  refine held_value 2 _ _ (some 35) (.int .i64 4) (by kernel_rfl) (by rfl) (by kernel_rfl) (fun w hS => by kernel_rfl) (fun _ _ _ _ h => h) (rW) ?_
  simp only [Act.put, List.setIfInBounds_toArray, List.set_cons_zero, List.set_cons_succ]
  refine held_value 3 _ _ (some 36) (.int .i64 1) (by kernel_rfl) (by rfl) (by kernel_rfl) (fun w hS => by kernel_rfl) (fun _ _ _ _ h => h) (rW) ?_
  simp only [Act.put, List.setIfInBounds_toArray, List.set_cons_zero, List.set_cons_succ]
  refine held_value 4 _ _ (some 37) (.int .i64 2) (by kernel_rfl) (by rfl) (by kernel_rfl) (fun w hS => by kernel_rfl) (fun _ _ _ _ h => h) (rW) ?_
  simp only [Act.put, List.setIfInBounds_toArray, List.set_cons_zero, List.set_cons_succ]
  refine held_value 5 _ _ (some 38) (.slice (some ⟨N + 1, 0, none⟩) 3 3) (by kernel_rfl) (by rfl) (by kernel_rfl) (fun w hS => by first | kernel_rfl | go_simp) (fun _ _ _ _ h => h) (rW) ?_
  simp only [Act.put, List.setIfInBounds_toArray, List.set_cons_zero, List.set_cons_succ]
  refine held_value 6 _ _ (some 39) (.int .u32 17) (by kernel_rfl) (by rfl) (by kernel_rfl) (fun w hS => by first | kernel_rfl | go_simp) (fun _ _ _ _ h => h) (rW) ?_
  simp only [Act.put, List.setIfInBounds_toArray, List.set_cons_zero, List.set_cons_succ]
  refine held_value 7 _ _ (some 40) (.int .u32 4) (by kernel_rfl) (by rfl) (by kernel_rfl) (fun w hS => by kernel_rfl) (fun _ _ _ _ h => h) (rW) ?_
  simp only [Act.put, List.setIfInBounds_toArray, List.set_cons_zero, List.set_cons_succ]
  refine held_value 8 _ _ (some 41) (.int .u32 1) (by kernel_rfl) (by rfl) (by kernel_rfl) (fun w hS => by kernel_rfl) (fun _ _ _ _ h => h) (rW) ?_
  simp only [Act.put, List.setIfInBounds_toArray, List.set_cons_zero, List.set_cons_succ]
  refine held_value 9 _ _ (some 42) (.pointer (some ⟨N + 1, 1, none⟩)) (by kernel_rfl) (by rfl) (by kernel_rfl) (fun w hS => by first | kernel_rfl | go_simp) (fun _ _ _ _ h => h) (rW) ?_
  simp only [Act.put, List.setIfInBounds_toArray, List.set_cons_zero, List.set_cons_succ]
  refine held_value 10 _ _ (some 43) (.int .i64 16) (by kernel_rfl) (by rfl) (by kernel_rfl) (fun w hS => by have h2 : w.cell? ⟨N + 1, 1, none⟩ = some (.int .i64 16) := hS.cell 1; go_simp) (fun _ _ _ _ h => h) (rW) ?_
  simp only [Act.put, List.setIfInBounds_toArray, List.set_cons_zero, List.set_cons_succ]
  refine held_value 11 _ _ (some 4) (.int .i64 2) (by kernel_rfl) (by rfl) (by kernel_rfl) (fun w hS => by first | kernel_rfl | go_simp) (fun _ _ _ _ h => h) (rW) ?_
  simp only [Act.put, List.setIfInBounds_toArray, List.set_cons_zero, List.set_cons_succ]
  refine held_value 12 _ _ (some 5) (.int .i64 16) (by kernel_rfl) (by rfl) (by kernel_rfl) (fun w hS => by first | kernel_rfl | go_simp) (fun _ _ _ _ h => h) (rW) ?_
  simp only [Act.put, List.setIfInBounds_toArray, List.set_cons_zero, List.set_cons_succ]
  refine held_value 13 _ _ (some 6) (.bool true) (by kernel_rfl) (by rfl) (by kernel_rfl) (fun w hS => by first | kernel_rfl | go_simp) (fun _ _ _ _ h => h) (rW) ?_
  simp only [Act.put, List.setIfInBounds_toArray, List.set_cons_zero, List.set_cons_succ]
  refine wpAnyH_done (by kernel_rfl) ?_ _
  go_wp2_with (go_at_call 65; refine (hbytes _).mono ?_)
  unfold StayIs
  rintro e w3 ⟨rfl, rfl⟩
  go_wp2_with (refine wpList_store_any rfl 54 (.tmp 2) (.tmp 57) rfl N rfl [.int .u32 17, .bool true, .int .i64 32, .int .i64 16, .int .i64 67] rfl 54 _ HV.out.1 info_xms rfl oneCell5 ?_)
  intro Z hr bt _
  have F : Shh (Row Z N 54 [.int .u32 17, .bool true, .int .i64 32, .int .i64 16, .int .i64 67] ∧ Below w.heap.size w Z) := ⟨hr, HV.out.2.2.trans (bt.under (by have := HV.out.2.2.size; omega) (by omega))⟩
  clear hr bt HV
  go_wp2
  exact ret_rs Tryd.results23 rfl rfl rfl F.out.1 Tryd.underlying54 rfl info_xms ⟨rfl, F.out.2⟩
theorem refXmss_18 (w : World) : Calls Tryd.prog 23 #[.int .u32 18] w (OldIs (.tuple #[.agg #[.int .u32 18, .bool true, .int .i64 32, .int .i64 20, .int .i64 67], .int .i64 0]) w) := by
  unfold OldIs
  have hown : ∀ W, Calls Tryd.prog 69 #[.int .u32 18, .int .u32 4043309056] W (StayIs (.tuple #[.int .i64 (rF 18 xB : Int), .int .i64 (rH 18 xB : Int), .bool (rOk 18 xB)]) W) := fun W => refOwn_any 18 4043309056 (by omega) (by omega) W
  have hbytes : ∀ W, Calls Tryd.prog 65 #[.int .i64 2] W (StayIs (.int .i64 32) W) := fun W => bytes6_any 2 (by omega) W
  obtain ⟨ok, hok⟩ : ∃ ok, ok = rOk 18 xB := ⟨_, rfl⟩
  obtain ⟨o1, ho1⟩ : ∃ o, o = rF 18 xB := ⟨_, rfl⟩
  obtain ⟨o2, ho2⟩ : ∃ o, o = rH 18 xB := ⟨_, rfl⟩
  rw [← hok, ← ho1, ← ho2] at hown
  clear hok ho1 ho2
  obtain ⟨W, hW⟩ : ∃ W, W = (w.alloc (.cells #[.int .u32 0, .bool false, .int .i64 0, .int .i64 0, .int .i64 0] 54)).alloc (.cells #[.int .i64 10, .int .i64 16, .int .i64 20] 3) := ⟨_, rfl⟩
  obtain ⟨N, hNN⟩ : ∃ N, w.heap.size = N := ⟨_, rfl⟩
  have HW : Shh (Row W N 54 [.int .u32 0, .bool false, .int .i64 0, .int .i64 0, .int .i64 0] ∧ Row W (N + 1) 3 [.int .i64 10, .int .i64 16, .int .i64 20] ∧ Below w.heap.size w W) := by
    have b1 : Below w.heap.size w (w.alloc (.cells #[.int .u32 0, .bool false, .int .i64 0, .int .i64 0, .int .i64 0] 54)) := below1P _ _
    have b2 : Below (w.alloc (.cells #[.int .u32 0, .bool false, .int .i64 0, .int .i64 0, .int .i64 0] 54)).heap.size (w.alloc (.cells #[.int .u32 0, .bool false, .int .i64 0, .int .i64 0, .int .i64 0] 54)) W := by rw [hW]; exact below1P _ _
    exact ⟨by rw [hW]; exact (Row.new_ hNN.symm rfl).alloc _, by rw [hW]; exact Row.new_ (by rw [asz, hNN]) rfl, Below.chain b1 b2⟩
  rw [hW] at HW
  clear hW
  go_enter Tryd.func23, Tryd.ntmps23
  go_wp2_with (go_at_call 69; refine (hown _).mono ?_)
  unfold StayIs
  rintro e w2 ⟨rfl, rfl⟩
  go_wp2
  have HV : Shh (Row ((w.alloc (.cells #[.int .u32 0, .bool false, .int .i64 0, .int .i64 0, .int .i64 0] 54)).alloc (.cells #[.int .i64 10, .int .i64 16, .int .i64 20] 3)).drew N 54 [.int .u32 0, .bool false, .int .i64 0, .int .i64 0, .int .i64 0] ∧ Row ((w.alloc (.cells #[.int .u32 0, .bool false, .int .i64 0, .int .i64 0, .int .i64 0] 54)).alloc (.cells #[.int .i64 10, .int .i64 16, .int .i64 20] 3)).drew (N + 1) 3 [.int .i64 10, .int .i64 16, .int .i64 20] ∧ Below w.heap.size w ((w.alloc (.cells #[.int .u32 0, .bool false, .int .i64 0, .int .i64 0, .int .i64 0] 54)).alloc (.cells #[.int .i64 10, .int .i64 16, .int .i64 20] 3)).drew) := ⟨HW.out.1.drew, HW.out.2.1.drew, HW.out.2.2.drew⟩
  clear HW
  refine wp_region_held_drew (S := fun w' => Row w' (N + 1) 3 [.int .i64 10, .int .i64 16, .int .i64 20]) (by kernel_rfl) HV.out.2.1 (fun hS => ?_)
  clear hS
  generalize World.drew _ = V at HV ⊢
  have rW := HV.out.2.1
  refine held_value 0 _ _ (some 33) (.int .u32 18) (by kernel_rfl) (by rfl) (by kernel_rfl) (fun w hS => by first | kernel_rfl | go_simp) (fun _ _ _ _ h => h) (rW) ?_
  simp only [Act.put, List.setIfInBounds_toArray, List.set_cons_zero, List.set_cons_succ]
  refine held_value 1 _ _ (some 34) (.int .u32 5) (by kernel_rfl) (by rfl) (by kernel_rfl) (fun w hS => by kernel_rfl) (fun _ _ _ _ h => h) (rW) ?_
  simp only [Act.put, List.setIfInBounds_toArray, List.set_cons_zero, List.set_cons_succ]
  refine held_value 2 _ _ (some 35) (.int .i64 5) (by kernel_rfl) (by rfl) (by kernel_rfl) (fun w hS => by kernel_rfl) (fun _ _ _ _ h => h) (rW) ?_
  simp only [Act.put, List.setIfInBounds_toArray, List.set_cons_zero, List.set_cons_succ]
  refine held_value 3 _ _ (some 36) (.int .i64 1) (by kernel_rfl) (by rfl) (by kernel_rfl) (fun w hS => by kernel_rfl) (fun _ _ _ _ h => h) (rW) ?_
  simp only [Act.put, List.setIfInBounds_toArray, List.set_cons_zero, List.set_cons_succ]
  refine held_value 4 _ _ (some 37) (.int .i64 2) (by kernel_rfl) (by rfl) (by kernel_rfl) (fun w hS => by kernel_rfl) (fun _ _ _ _ h => h) (rW) ?_
  simp only [Act.put, List.setIfInBounds_toArray, List.set_cons_zero, List.set_cons_succ]
  refine held_value 5 _ _ (some 38) (.slice (some ⟨N + 1, 0, none⟩) 3 3) (by kernel_rfl) (by rfl) (by kernel_rfl) (fun w hS => by first | kernel_rfl | go_simp) (fun _ _ _ _ h => h) (rW) ?_
  simp only [Act.put, List.setIfInBounds_toArray, List.set_cons_zero, List.set_cons_succ]
  refine held_value 6 _ _ (some 39) (.int .u32 18) (by kernel_rfl) (by rfl) (by kernel_rfl) (fun w hS => by first | kernel_rfl | go_simp) (fun _ _ _ _ h => h) (rW) ?_
  simp only [Act.put, List.setIfInBounds_toArray, List.set_cons_zero, List.set_cons_succ]
  refine held_value 7 _ _ (some 40) (.int .u32 5) (by kernel_rfl) (by rfl) (by kernel_rfl) (fun w hS => by kernel_rfl) (fun _ _ _ _ h => h) (rW) ?_
  simp only [Act.put, List.setIfInBounds_toArray, List.set_cons_zero, List.set_cons_succ]
  refine held_value 8 _ _ (some 41) (.int .u32 2) (by kernel_rfl) (by rfl) (by kernel_rfl) (fun w hS => by kernel_rfl) (fun _ _ _ _ h => h) (rW) ?_
  simp only [Act.put, List.setIfInBounds_toArray, List.set_cons_zero, List.set_cons_succ]
  refine held_value 9 _ _ (some 42) (.pointer (some ⟨N + 1, 2, none⟩)) (by kernel_rfl) (by rfl) (by kernel_rfl) (fun w hS => by first | kernel_rfl | go_simp) (fun _ _ _ _ h => h) (rW) ?_
  simp only [Act.put, List.setIfInBounds_toArray, List.set_cons_zero, List.set_cons_succ]
  refine held_value 10 _ _ (some 43) (.int .i64 20) (by kernel_rfl) (by rfl) (by kernel_rfl) (fun w hS => by have h2 : w.cell? ⟨N + 1, 2, none⟩ = some (.int .i64 20) := hS.cell 2; go_simp) (fun _ _ _ _ h => h) (rW) ?_
  simp only [Act.put, List.setIfInBounds_toArray, List.set_cons_zero, List.set_cons_succ]
  refine held_value 11 _ _ (some 4) (.int .i64 2) (by kernel_rfl) (by rfl) (by kernel_rfl) (fun w hS => by first | kernel_rfl | go_simp) (fun _ _ _ _ h => h) (rW) ?_
  simp only [Act.put, List.setIfInBounds_toArray, List.set_cons_zero, List.set_cons_succ]
  refine held_value 12 _ _ (some 5) (.int .i64 20) (by kernel_rfl) (by rfl) (by kernel_rfl) (fun w hS => by first | kernel_rfl | go_simp) (fun _ _ _ _ h => h) (rW) ?_
  simp only [Act.put, List.setIfInBounds_toArray, List.set_cons_zero, List.set_cons_succ]
  refine held_value 13 _ _ (some 6) (.bool true) (by kernel_rfl) (by rfl) (by kernel_rfl) (fun w hS => by first | kernel_rfl | go_simp) (fun _ _ _ _ h => h) (rW) ?_
  simp only [Act.put, List.setIfInBounds_toArray, List.set_cons_zero, List.set_cons_succ]
  refine wpAnyH_done (by kernel_rfl) ?_ _
  go_wp2_with (go_at_call 65; refine (hbytes _).mono ?_)
  unfold StayIs
  rintro e w3 ⟨rfl, rfl⟩
  go_wp2_with (refine wpList_store_any rfl 54 (.tmp 2) (.tmp 57) rfl N rfl [.int .u32 18, .bool true, .int .i64 32, .int .i64 20, .int .i64 67] rfl 54 _ HV.out.1 info_xms rfl oneCell5 ?_)
  intro Z hr bt _
  have F : Shh (Row Z N 54 [.int .u32 18, .bool true, .int .i64 32, .int .i64 20, .int .i64 67] ∧ Below w.heap.size w Z) := ⟨hr, HV.out.2.2.trans (bt.under (by have := HV.out.2.2.size; omega) (by omega))⟩
  clear hr bt HV
  go_wp2
  exact ret_rs Tryd.results23 rfl rfl rfl F.out.1 Tryd.underlying54 rfl info_xms ⟨rfl, F.out.2⟩
theorem refXmss_19 (w : World) : Calls Tryd.prog 23 #[.int .u32 19] w (OldIs (.tuple #[.agg #[.int .u32 19, .bool true, .int .i64 24, .int .i64 10, .int .i64 51], .int .i64 0]) w) := by
  unfold OldIs
  have hown : ∀ W, Calls Tryd.prog 69 #[.int .u32 19, .int .u32 4043309056] W (StayIs (.tuple #[.int .i64 (rF 19 xB : Int), .int .i64 (rH 19 xB : Int), .bool (rOk 19 xB)]) W) := fun W => refOwn_any 19 4043309056 (by omega) (by omega) W
  have hbytes : ∀ W, Calls Tryd.prog 65 #[.int .i64 3] W (StayIs (.int .i64 24) W) := fun W => bytes6_any 3 (by omega) W
  obtain ⟨ok, hok⟩ : ∃ ok, ok = rOk 19 xB := ⟨_, rfl⟩
  obtain ⟨o1, ho1⟩ : ∃ o, o = rF 19 xB := ⟨_, rfl⟩
  obtain ⟨o2, ho2⟩ : ∃ o, o = rH 19 xB := ⟨_, rfl⟩
  rw [← hok, ← ho1, ← ho2] at hown
  clear hok ho1 ho2
  obtain ⟨W, hW⟩ : ∃ W, W = (w.alloc (.cells #[.int .u32 0, .bool false, .int .i64 0, .int .i64 0, .int .i64 0] 54)).alloc (.cells #[.int .i64 10, .int .i64 16, .int .i64 20] 3) := ⟨_, rfl⟩
  obtain ⟨N, hNN⟩ : ∃ N, w.heap.size = N := ⟨_, rfl⟩
  have HW : Shh (Row W N 54 [.int .u32 0, .bool false, .int .i64 0, .int .i64 0, .int .i64 0] ∧ Row W (N + 1) 3 [.int .i64 10, .int .i64 16, .int .i64 20] ∧ Below w.heap.size w W) := by
    have b1 : Below w.heap.size w (w.alloc (.cells #[.int .u32 0, .bool false, .int .i64 0, .int .i64 0, .int .i64 0] 54)) := below1P _ _
    have b2 : Below (w.alloc (.cells #[.int .u32 0, .bool false, .int .i64 0, .int .i64 0, .int .i64 0] 54)).heap.size (w.alloc (.cells #[.int .u32 0, .bool false, .int .i64 0, .int .i64 0, .int .i64 0] 54)) W := by rw [hW]; exact below1P _ _
    exact ⟨by rw [hW]; exact (Row.new_ hNN.symm rfl).alloc _, by rw [hW]; exact Row.new_ (by rw [asz, hNN]) rfl, Below.chain b1 b2⟩
  rw [hW] at HW
  clear hW
  go_enter Tryd.func23, Tryd.ntmps23
  go_wp2_with (go_at_call 69; refine (hown _).mono ?_)
  unfold StayIs
  rintro e w2 ⟨rfl, rfl⟩
  go_wp2
  have HV : Shh (Row ((w.alloc (.cells #[.int .u32 0, .bool false, .int .i64 0, .int .i64 0, .int .i64 0] 54)).alloc (.cells #[.int .i64 10, .int .i64 16, .int .i64 20] 3)).drew N 54 [.int .u32 0, .bool false, .int .i64 0, .int .i64 0, .int .i64 0] ∧ Row ((w.alloc (.cells #[.int .u32 0, .bool false, .int .i64 0, .int .i64 0, .int .i64 0] 54)).alloc (.cells #[.int .i64 10, .int .i64 16, .int .i64 20] 3)).drew (N + 1) 3 [.int .i64 10, .int .i64 16, .int .i64 20] ∧ Below w.heap.size w ((w.alloc (.cells #[.int .u32 0, .bool false, .int .i64 0, .int .i64 0, .int .i64 0] 54)).alloc (.cells #[.int .i64 10, .int .i64 16, .int .i64 20] 3)).drew) := ⟨HW.out.1.drew, HW.out.2.1.drew, HW.out.2.2.drew⟩
  clear HW
  refine wp_region_held_drew (S := fun w' => Row w' (N + 1) 3 [.int .i64 10, .int .i64 16, .int .i64 20]) (by kernel_rfl) HV.out.2.1 (fun hS => ?_)
  clear hS
  generalize World.drew _ = V at HV ⊢
  have rW := HV.out.2.1
  refine held_value 0 _ _ (some 33) (.int .u32 19) (by kernel_rfl) (by rfl) (by kernel_rfl) (fun w hS => by first | kernel_rfl | go_simp) (fun _ _ _ _ h => h) (rW) ?_
  simp only [Act.put, List.setIfInBounds_toArray, List.set_cons_zero, List.set_cons_succ]
  refine held_value 1 _ _ (some 34) (.int .u32 6) (by kernel_rfl) (by rfl) (by kernel_rfl) (fun w hS => by kernel_rfl) (fun _ _ _ _ h => h) (rW) ?_
  simp only [Act.put, List.setIfInBounds_toArray, List.set_cons_zero, List.set_cons_succ]
  refine held_value 2 _ _ (some 35) (.int .i64 6) (by kernel_rfl) (by rfl) (by kernel_rfl) (fun w hS => by kernel_rfl) (fun _ _ _ _ h => h) (rW) ?_
  simp only [Act.put, List.setIfInBounds_toArray, List.set_cons_zero, List.set_cons_succ]
  refine held_value 3 _ _ (some 36) (.int .i64 2) (by kernel_rfl) (by rfl) (by kernel_rfl) (fun w hS => by kernel_rfl) (fun _ _ _ _ h => h) (rW) ?_
  simp only [Act.put, List.setIfInBounds_toArray, List.set_cons_zero, List.set_cons_succ]
  refine held_value 4 _ _ (some 37) (.int .i64 3) (by kernel_rfl) (by rfl) (by kernel_rfl) (fun w hS => by kernel_rfl) (fun _ _ _ _ h => h) (rW) ?_
  simp only [Act.put, List.setIfInBounds_toArray, List.set_cons_zero, List.set_cons_succ]
  refine held_value 5 _ _ (some 38) (.slice (some ⟨N + 1, 0, none⟩) 3 3) (by kernel_rfl) (by rfl) (by kernel_rfl) (fun w hS => by first | kernel_rfl | go_simp) (fun _ _ _ _ h => h) (rW) ?_
  simp only [Act.put, List.setIfInBounds_toArray, List.set_cons_zero, List.set_cons_succ]
  refine held_value 6 _ _ (some 39) (.int .u32 19) (by kernel_rfl) (by rfl) (by kernel_rfl) (fun w hS => by first | kernel_rfl | go_simp) (fun _ _ _ _ h => h) (rW) ?_
  simp only [Act.put, List.setIfInBounds_toArray, List.set_cons_zero, List.set_cons_succ]
  refine held_value 7 _ _ (some 40) (.int .u32 6) (by kernel_rfl) (by rfl) (by kernel_rfl) (fun w hS => by kernel_rfl) (fun _ _ _ _ h => h) (rW) ?_
  simp only [Act.put, List.setIfInBounds_toArray, List.set_cons_zero, List.set_cons_succ]
  refine held_value 8 _ _ (some 41) (.int .u32 0) (by kernel_rfl) (by rfl) (by kernel_rfl) (fun w hS => by kernel_rfl) (fun _ _ _ _ h => h) (rW) ?_
  simp only [Act.put, List.setIfInBounds_toArray, List.set_cons_zero, List.set_cons_succ]
  refine held_value 9 _ _ (some 42) (.pointer (some ⟨N + 1, 0, none⟩)) (by kernel_rfl) (by rfl) (by kernel_rfl) (fun w hS => by first | kernel_rfl | go_simp) (fun _ _ _ _ h => h) (rW) ?_
  simp only [Act.put, List.setIfInBounds_toArray, List.set_cons_zero, List.set_cons_succ]
  refine held_value 10 _ _ (some 43) (.int .i64 10) (by kernel_rfl) (by rfl) (by kernel_rfl) (fun w hS => by have h2 : w.cell? ⟨N + 1, 0, none⟩ = some (.int .i64 10) := hS.cell 0; go_simp) (fun _ _ _ _ h => h) (rW) ?_
  simp only [Act.put, List.setIfInBounds_toArray, List.set_cons_zero, List.set_cons_succ]
  refine held_value 11 _ _ (some 4) (.int .i64 3) (by kernel_rfl) (by rfl) (by kernel_rfl) (fun w hS => by first | kernel_rfl | go_simp) (fun _ _ _ _ h => h) (rW) ?_
  simp only [Act.put, List.setIfInBounds_toArray, List.set_cons_zero, List.set_cons_succ]
  refine held_value 12 _ _ (some 5) (.int .i64 10) (by kernel_rfl) (by rfl) (by kernel_rfl) (fun w hS => by first | kernel_rfl | go_simp) (fun _ _ _ _ h => h) (rW) ?_
  simp only [Act.put, List.setIfInBounds_toArray, List.set_cons_zero, List.set_cons_succ]
  refine held_value 13 _ _ (some 6) (.bool true) (by kernel_rfl) (by rfl) (by kernel_rfl) (fun w hS => by first | kernel_rfl | go_simp) (fun _ _ _ _ h => h) (rW) ?_
  simp only [Act.put, List.setIfInBounds_toArray, List.set_cons_zero, List.set_cons_succ]
  refine wpAnyH_done (by kernel_rfl) ?_ _
  go_wp2_with (go_at_call 65; refine (hbytes _).mono ?_)
  unfold StayIs
  rintro e w3 ⟨rfl, rfl⟩
  go_wp2_with (refine wpList_store_any rfl 54 (.tmp 2) (.tmp 57) rfl N rfl [.int .u32 19, .bool true, .int .i64 24, .int .i64 10, .int .i64 51] rfl 54 _ HV.out.1 info_xms rfl oneCell5 ?_)
  intro Z hr bt _
  have F : Shh (Row Z N 54 [.int .u32 19, .bool true, .int .i64 24, .int .i64 10, .int .i64 51] ∧ Below w.heap.size w Z) := ⟨hr, HV.out.2.2.trans (bt.under (by have := HV.out.2.2.size; omega) (by omega))⟩
  clear hr bt HV
  go_wp2
  exact ret_rs Tryd.results23 rfl rfl rfl F.out.1 Tryd.underlying54 rfl info_xms ⟨rfl, F.out.2⟩
theorem refXmss_20 (w : World) : Calls Tryd.prog 23 #[.int .u32 20] w (OldIs (.tuple #[.agg #[.int .u32 20, .bool true, .int .i64 24, .int .i64 16, .int .i64 51], .int .i64 0]) w) := by
  unfold OldIs
  have hown : ∀ W, Calls Tryd.prog 69 #[.int .u32 20, .int .u32 4043309056] W (StayIs (.tuple #[.int .i64 (rF 20 xB : Int), .int .i64 (rH 20 xB : Int), .bool (rOk 20 xB)]) W) := fun W => refOwn_any 20 4043309056 (by omega) (by omega) W
  have hbytes : ∀ W, Calls Tryd.prog 65 #[.int .i64 3] W (StayIs (.int .i64 24) W) := fun W => bytes6_any 3 (by omega) W
  obtain ⟨ok, hok⟩ : ∃ ok, ok = rOk 20 xB := ⟨_, rfl⟩
  obtain ⟨o1, ho1⟩ : ∃ o, o = rF 20 xB := ⟨_, rfl⟩
  obtain ⟨o2, ho2⟩ : ∃ o, o = rH 20 xB := ⟨_, rfl⟩
  rw [← hok, ← ho1, ← ho2] at hown
  clear hok ho1 ho2
  obtain ⟨W, hW⟩ : ∃ W, W = (w.alloc (.cells #[.int .u32 0, .bool false, .int .i64 0, .int .i64 0, .int .i64 0] 54)).alloc (.cells #[.int .i64 10, .int .i64 16, .int .i64 20] 3) := ⟨_, rfl⟩
  obtain ⟨N, hNN⟩ : ∃ N, w.heap.size = N := ⟨_, rfl⟩
  have HW : Shh (Row W N 54 [.int .u32 0, .bool false, .int .i64 0, .int .i64 0, .int .i64 0] ∧ Row W (N + 1) 3 [.int .i64 10, .int .i64 16, .int .i64 20] ∧ Below w.heap.size w W) := by
    have b1 : Below w.heap.size w (w.alloc (.cells #[.int .u32 0, .bool false, .int .i64 0, .int .i64 0, .int .i64 0] 54)) := below1P _ _
    have b2 : Below (w.alloc (.cells #[.int .u32 0, .bool false, .int .i64 0, .int .i64 0, .int .i64 0] 54)).heap.size (w.alloc (.cells #[.int .u32 0, .bool false, .int .i64 0, .int .i64 0, .int .i64 0] 54)) W := by rw [hW]; exact below1P _ _
    exact ⟨by rw [hW]; exact (Row.new_ hNN.symm rfl).alloc _, by rw [hW]; exact Row.new_ (by rw [asz, hNN]) rfl, Below.chain b1 b2⟩
  rw [hW] at HW
  clear hW
  go_enter Tryd.func23, Tryd.ntmps23
  go_wp2_with (go_at_call 69; refine (hown _).mono ?_)
  unfold StayIs
  rintro e w2 ⟨rfl, rfl⟩
  go_wp2
  have HV : Shh (Row ((w.alloc (.cells #[.int .u32 0, .bool false, .int .i64 0, .int .i64 0, .int .i64 0] 54)).alloc (.cells #[.int .i64 10, .int .i64 16, .int .i64 20] 3)).drew N 54 [.int .u32 0, .bool false, .int .i64 0, .int .i64 0, .int .i64 0] ∧ Row ((w.alloc (.cells #[.int .u32 0, .bool false, .int .i64 0, .int .i64 0, .int .i64 0] 54)).alloc (.cells #[.int .i64 10, .int .i64 16, .int .i64 20] 3)).drew (N + 1) 3 [.int .i64 10, .int .i64 16, .int .i64 20] ∧ Below w.heap.size w ((w.alloc (.cells #[.int .u32 0, .bool false, .int .i64 0, .int .i64 0, .int .i64 0] 54)).alloc (.cells #[.int .i64 10, .int .i64 16, .int .i64 20] 3)).drew) := ⟨HW.out.1.drew, HW.out.2.1.drew, HW.out.2.2.drew⟩
  clear HW
  refine wp_region_held_drew (S := fun w' => Row w' (N + 1) 3 [.int .i64 10, .int .i64 16, .int .i64 20]) (by kernel_rfl) HV.out.2.1 (fun hS => ?_)
  clear hS
  generalize World.drew _ = V at HV ⊢
  have rW := HV.out.2.1
  refine held_value 0 _ _ (some 33) (.int .u32 20) (by kernel_rfl) (by rfl) (by kernel_rfl) (fun w hS => by first | kernel_rfl | go_simp) (fun _ _ _ _ h => h) (rW) ?_
  simp only [Act.put, List.setIfInBounds_toArray, List.set_cons_zero, List.set_cons_succ]
  refine held_value 1 _ _ (some 34) (.int .u32 7) (by kernel_rfl) (by rfl) (by kernel_rfl) (fun w hS => by kernel_rfl) (fun _ _ _ _ h => h) (rW) ?_
  simp only [Act.put, List.setIfInBounds_toArray, List.set_cons_zero, List.set_cons_succ]
  refine held_value 2 _ _ (some 35) (.int .i64 7) (by kernel_rfl) (by rfl) (by kernel_rfl) (fun w hS => by kernel_rfl) (fun _ _ _ _ h => h) (rW) ?_
  simp only [Act.put, List.setIfInBounds_toArray, List.set_cons_zero, List.set_cons_succ]
  refine held_value 3 _ _ (some 36) (.int .i64 2) (by kernel_rfl) (by rfl) (by kernel_rfl) (fun w hS => by kernel_rfl) (fun _ _ _ _ h => h) (rW) ?_
  simp only [Act.put, List.setIfInBounds_toArray, List.set_cons_zero, List.set_cons_succ]
  refine held_value 4 _ _ (some 37) (.int .i64 3) (by kernel_rfl) (by rfl) (by kernel_rfl) (fun w hS => by kernel_rfl) (fun _ _ _ _ h => h) (rW) ?_
  simp only [Act.put, List.setIfInBounds_toArray, List.set_cons_zero, List.set_cons_succ]
  refine held_value 5 _ _ (some 38) (.slice (some ⟨N + 1, 0, none⟩) 3 3) (by kernel_rfl) (by rfl) (by kernel_rfl) (fun w hS => by first | kernel_rfl | go_simp) (fun _ _ _ _ h => h) (rW) ?_
  simp only [Act.put, List.setIfInBounds_toArray, List.set_cons_zero, List.set_cons_succ]
  refine held_value 6 _ _ (some 39) (.int .u32 20) (by kernel_rfl) (by rfl) (by kernel_rfl) (fun w hS => by first | kernel_rfl | go_simp) (fun _ _ _ _ h => h) (rW) ?_
  simp only [Act.put, List.setIfInBounds_toArray, List.set_cons_zero, List.set_cons_succ]
  refine held_value 7 _ _ (some 40) (.int .u32 7) (by kernel_rfl) (by rfl) (by kernel_rfl) (fun w hS => by kernel_rfl) (fun _ _ _ _ h => h) (rW) ?_
  simp only [Act.put, List.setIfInBounds_toArray, List.set_cons_zero, List.set_cons_succ]
  refine held_value 8 _ _ (some 41) (.int .u32 1) (by kernel_rfl) (by rfl) (by kernel_rfl) (fun w hS => by kernel_rfl) (fun _ _ _ _ h => h) (rW) ?_
  simp only [Act.put, List.setIfInBounds_toArray, List.set_cons_zero, List.set_cons_succ]
  refine held_value 9 _ _ (some 42) (.pointer (some ⟨N + 1, 1, none⟩)) (by kernel_rfl) (by rfl) (by kernel_rfl) (fun w hS => by first | kernel_rfl | go_simp) (fun _ _ _ _ h => h) (rW) ?_
  simp only [Act.put, List.setIfInBounds_toArray, List.set_cons_zero, List.set_cons_succ]
  refine held_value 10 _ _ (some 43) (.int .i64 16) (by kernel_rfl) (by rfl) (by kernel_rfl) (fun w hS => by have h2 : w.cell? ⟨N + 1, 1, none⟩ = some (.int .i64 16) := hS.cell 1; go_simp) (fun _ _ _ _ h => h) (rW) ?_
  simp only [Act.put, List.setIfInBounds_toArray, List.set_cons_zero, List.set_cons_succ]
  refine held_value 11 _ _ (some 4) (.int .i64 3) (by kernel_rfl) (by rfl) (by kernel_rfl) (fun w hS => by first | kernel_rfl | go_simp) (fun _ _ _ _ h => h) (rW) ?_
  simp only [Act.put, List.setIfInBounds_toArray, List.set_cons_zero, List.set_cons_succ]
  refine held_value 12 _ _ (some 5) (.int .i64 16) (by kernel_rfl) (by rfl) (by kernel_rfl) (fun w hS => by first | kernel_rfl | go_simp) (fun _ _ _ _ h => h) (rW) ?_
  simp only [Act.put, List.setIfInBounds_toArray, List.set_cons_zero, List.set_cons_succ]
  refine held_value 13 _ _ (some 6) (.bool true) (by kernel_rfl) (by rfl) (by kernel_rfl) (fun w hS => by first | kernel_rfl | go_simp) (fun _ _ _ _ h => h) (rW) ?_
  simp only [Act.put, List.setIfInBounds_toArray, List.set_cons_zero, List.set_cons_succ]
  refine wpAnyH_done (by kernel_rfl) ?_ _
  go_wp2_with (go_at_call 65; refine (hbytes _).mono ?_)
  unfold StayIs
  rintro e w3 ⟨rfl, rfl⟩
  go_wp2_with (refine wpList_store_any rfl 54 (.tmp 2) (.tmp 57) rfl N rfl [.int .u32 20, .bool true, .int .i64 24, .int .i64 16, .int .i64 51] rfl 54 _ HV.out.1 info_xms rfl oneCell5 ?_)
  intro Z hr bt _
  have F : Shh (Row Z N 54 [.int .u32 20, .bool true, .int .i64 24, .int .i64 16, .int .i64 51] ∧ Below w.heap.size w Z) := ⟨hr, HV.out.2.2.trans (bt.under (by have := HV.out.2.2.size; omega) (by omega))⟩
  clear hr bt HV
  go_wp2
  exact ret_rs Tryd.results23 rfl rfl rfl F.out.1 Tryd.underlying54 rfl info_xms ⟨rfl, F.out.2⟩
theorem refXmss_21 (w : World) : Calls Tryd.prog 23 #[.int .u32 21] w (OldIs (.tuple #[.agg #[.int .u32 21, .bool true, .int .i64 24, .int .i64 20, .int .i64 51], .int .i64 0]) w) := by
  unfold OldIs
  have hown : ∀ W, Calls Tryd.prog 69 #[.int .u32 21, .int .u32 4043309056] W (StayIs (.tuple #[.int .i64 (rF 21 xB : Int), .int .i64 (rH 21 xB : Int), .bool (rOk 21 xB)]) W) := fun W => refOwn_any 21 4043309056 (by omega) (by omega) W
  have hbytes : ∀ W, Calls Tryd.prog 65 #[.int .i64 3] W (StayIs (.int .i64 24) W) := fun W => bytes6_any 3 (by omega) W
  obtain ⟨ok, hok⟩ : ∃ ok, ok = rOk 21 xB := ⟨_, rfl⟩
  obtain ⟨o1, ho1⟩ : ∃ o, o = rF 21 xB := ⟨_, rfl⟩
  obtain ⟨o2, ho2⟩ : ∃ o, o = rH 21 xB := ⟨_, rfl⟩
  rw [← hok, ← ho1, ← ho2] at hown
  clear hok ho1 ho2
  obtain ⟨W, hW⟩ : ∃ W, W = (w.alloc (.cells #[.int .u32 0, .bool false, .int .i64 0, .int .i64 0, .int .i64 0] 54)).alloc (.cells #[.int .i64 10, .int .i64 16, .int .i64 20] 3) := ⟨_, rfl⟩
  obtain ⟨N, hNN⟩ : ∃ N, w.heap.size = N := ⟨_, rfl⟩
  have HW : Shh (Row W N 54 [.int .u32 0, .bool false, .int .i64 0, .int .i64 0, .int .i64 0] ∧ Row W (N + 1) 3 [.int .i64 10, .int .i64 16, .int .i64 20] ∧ Below w.heap.size w W) := by
    have b1 : Below w.heap.size w (w.alloc (.cells #[.int .u32 0, .bool false, .int .i64 0, .int .i64 0, .int .i64 0] 54)) := below1P _ _
    have b2 : Below (w.alloc (.cells #[.int .u32 0, .bool false, .int .i64 0, .int .i64 0, .int .i64 0] 54)).heap.size (w.alloc (.cells #[.int .u32 0, .bool false, .int .i64 0, .int .i64 0, .int .i64 0] 54)) W := by rw [hW]; exact below1P _ _
    exact ⟨by rw [hW]; exact (Row.new_ hNN.symm rfl).alloc _, by rw [hW]; exact Row.new_ (by rw [asz, hNN]) rfl, Below.chain b1 b2⟩
  rw [hW] at HW
  clear hW
  go_enter Tryd.func23, Tryd.ntmps23
  go_wp2_with (go_at_call 69; refine (hown _).mono ?_)
  unfold StayIs
  rintro e w2 ⟨rfl, rfl⟩
  go_wp2
  have HV : Shh (Row ((w.alloc (.cells #[.int .u32 0, .bool false, .int .i64 0, .int .i64 0, .int .i64 0] 54)).alloc (.cells #[.int .i64 10, .int .i64 16, .int .i64 20] 3)).drew N 54 [.int .u32 0, .bool false, .int .i64 0, .int .i64 0, .int .i64 0] ∧ Row ((w.alloc (.cells #[.int .u32 0, .bool false, .int .i64 0, .int .i64 0, .int .i64 0] 54)).alloc (.cells #[.int .i64 10, .int .i64 16, .int .i64 20] 3)).drew (N + 1) 3 [.int .i64 10, .int .i64 16, .int .i64 20] ∧ Below w.heap.size w ((w.alloc (.cells #[.int .u32 0, .bool false, .int .i64 0, .int .i64 0, .int .i64 0] 54)).alloc (.cells #[.int .i64 10, .int .i64 16, .int .i64 20] 3)).drew) := ⟨HW.out.1.drew, HW.out.2.1.drew, HW.out.2.2.drew⟩
  clear HW
  refine wp_region_held_drew (S := fun w' => Row w' (N + 1) 3 [.int .i64 10, .int .i64 16, .int .i64 20]) (by kernel_rfl) HV.out.2.1 (fun hS => ?_)
  clear hS
  generalize World.drew _ = V at HV ⊢
  have rW := HV.out.2.1
  refine held_value 0 _ _ (some 33) (.int .u32 21) (by kernel_rfl) (by rfl) (by kernel_rfl) (fun w hS => by first | kernel_rfl | go_simp) (fun _ _ _ _ h => h) (rW) ?_
  simp only [Act.put, List.setIfInBounds_toArray, List.set_cons_zero, List.set_cons_succ]
  refine held_value 1 _ _ (some 34) (.int .u32 8) (by kernel_rfl) (by rfl) (by kernel_rfl) (fun w hS => by kernel_rfl) (fun _ _ _ _ h => h) (rW) ?_
  simp only [Act.put, List.setIfInBounds_toArray, List.set_cons_zero, List.set_cons_succ]
  refine held_value 2 _ _ (some 35) (.int .i64 8) (by kernel_rfl) (by rfl) (by kernel_rfl) (fun w hS => by kernel_rfl) (fun _ _ _ _ h => h) (rW) ?_
  simp only [Act.put, List.setIfInBounds_toArray, List.set_cons_zero, List.set_cons_succ]
  refine held_value 3 _ _ (some 36) (.int .i64 2) (by kernel_rfl) (by rfl) (by kernel_rfl) (fun w hS => by kernel_rfl) (fun _ _ _ _ h => h) (rW) ?_
  simp only [Act.put, List.setIfInBounds_toArray, List.set_cons_zero, List.set_cons_succ]
  refine held_value 4 _ _ (some 37) (.int .i64 3) (by kernel_rfl) (by rfl) (by kernel_rfl) (fun w hS => by kernel_rfl) (fun _ _ _ _ h => h) (rW) ?_
  simp only [Act.put, List.setIfInBounds_toArray, List.set_cons_zero, List.set_cons_succ]
  refine held_value 5 _ _ (some 38) (.slice (some ⟨N + 1, 0, none⟩) 3 3) (by kernel_rfl) (by rfl) (by kernel_rfl) (fun w hS => by first | kernel_rfl | go_simp) (fun _ _ _ _ h => h) (rW) ?_
  simp only [Act.put, List.setIfInBounds_toArray, List.set_cons_zero, List.set_cons_succ]
  refine held_value 6 _ _ (some 39) (.int .u32 21) (by kernel_rfl) (by rfl) (by kernel_rfl) (fun w hS => by first | kernel_rfl | go_simp) (fun _ _ _ _ h => h) (rW) ?_
  simp only [Act.put, List.setIfInBounds_toArray, List.set_cons_zero, List.set_cons_succ]
  refine held_value 7 _ _ (some 40) (.int .u32 8) (by kernel_rfl) (by rfl) (by kernel_rfl) (fun w hS => by kernel_rfl) (fun _ _ _ _ h => h) (rW) ?_
  simp only [Act.put, List.setIfInBounds_toArray, List.set_cons_zero, List.set_cons_succ]
  refine held_value 8 _ _ (some 41) (.int .u32 2) (by kernel_rfl) (by rfl) (by kernel_rfl) (fun w hS => by kernel_rfl) (fun _ _ _ _ h => h) (rW) ?_
  simp only [Act.put, List.setIfInBounds_toArray, List.set_cons_zero, List.set_cons_succ]
  refine held_value 9 _ _ (some 42) (.pointer (some ⟨N + 1, 2, none⟩)) (by kernel_rfl) (by rfl) (by kernel_rfl) (fun w hS => by first | kernel_rfl | go_simp) (fun _ _ _ _ h => h) (rW) ?_
  simp only [Act.put, List.setIfInBounds_toArray, List.set_cons_zero, List.set_cons_succ]
  refine held_value 10 _ _ (some 43) (.int .i64 20) (by kernel_rfl) (by rfl) (by kernel_rfl) (fun w hS => by have h2 : w.cell? ⟨N + 1, 2, none⟩ = some (.int .i64 20) := hS.cell 2; go_simp) (fun _ _ _ _ h => h) (rW) ?_
  simp only [Act.put, List.setIfInBounds_toArray, List.set_cons_zero, List.set_cons_succ]
  refine held_value 11 _ _ (some 4) (.int .i64 3) (by kernel_rfl) (by rfl) (by kernel_rfl) (fun w hS => by first | kernel_rfl | go_simp) (fun _ _ _ _ h => h) (rW) ?_
  simp only [Act.put, List.setIfInBounds_toArray, List.set_cons_zero, List.set_cons_succ]
  refine held_value 12 _ _ (some 5) (.int .i64 20) (by kernel_rfl) (by rfl) (by kernel_rfl) (fun w hS => by first | kernel_rfl | go_simp) (fun _ _ _ _ h => h) (rW) ?_
  simp only [Act.put, List.setIfInBounds_toArray, List.set_cons_zero, List.set_cons_succ]
  refine held_value 13 _ _ (some 6) (.bool true) (by kernel_rfl) (by rfl) (by kernel_rfl) (fun w hS => by first | kernel_rfl | go_simp) (fun _ _ _ _ h => h) (rW) ?_
  simp only [Act.put, List.setIfInBounds_toArray, List.set_cons_zero, List.set_cons_succ]
  refine wpAnyH_done (by kernel_rfl) ?_ _
  go_wp2_with (go_at_call 65; refine (hbytes _).mono ?_)
  unfold StayIs
  rintro e w3 ⟨rfl, rfl⟩
  go_wp2_with (refine wpList_store_any rfl 54 (.tmp 2) (.tmp 57) rfl N rfl [.int .u32 21, .bool true, .int .i64 24, .int .i64 20, .int .i64 51] rfl 54 _ HV.out.1 info_xms rfl oneCell5 ?_)
  intro Z hr bt _
  have F : Shh (Row Z N 54 [.int .u32 21, .bool true, .int .i64 24, .int .i64 20, .int .i64 51] ∧ Below w.heap.size w Z) := ⟨hr, HV.out.2.2.trans (bt.under (by have := HV.out.2.2.size; omega) (by omega))⟩
  clear hr bt HV
  go_wp2
  exact ret_rs Tryd.results23 rfl rfl rfl F.out.1 Tryd.underlying54 rfl info_xms ⟨rfl, F.out.2⟩
set_option maxHeartbeats 4000000 in
theorem refXmss_any (c : Nat) (hc : c < 4294967296) (w : World) : Calls Tryd.prog 23 #[.int .u32 (c : Int)] w (OldIs (.tuple #[xmsV c, .int .i64 (xE c)]) w) := by
  by_cases hi : 1 ≤ c ∧ c ≤ 3
  · have : c = 1 ∨ c = 2 ∨ c = 3 := by omega
    rcases this with rfl | rfl | rfl
    · exact refXmss_1 w
    · exact refXmss_2 w
    · exact refXmss_3 w
  by_cases hi2 : 13 ≤ c ∧ c ≤ 21
  · have : c = 13 ∨ c = 14 ∨ c = 15 ∨ c = 16 ∨ c = 17 ∨ c = 18 ∨ c = 19 ∨ c = 20 ∨ c = 21 := by omega
    rcases this with rfl | rfl | rfl | rfl | rfl | rfl | rfl | rfl | rfl
    · exact refXmss_13 w
    · exact refXmss_14 w
    · exact refXmss_15 w
    · exact refXmss_16 w
    · exact refXmss_17 w
    · exact refXmss_18 w
    · exact refXmss_19 w
    · exact refXmss_20 w
    · exact refXmss_21 w
  unfold OldIs xmsV
  obtain ⟨W, hW⟩ : ∃ W, W = (w.alloc (.cells #[.int .u32 0, .bool false, .int .i64 0, .int .i64 0, .int .i64 0] 54)).alloc (.cells #[.int .i64 10, .int .i64 16, .int .i64 20] 3) := ⟨_, rfl⟩
  obtain ⟨N, hNN⟩ : ∃ N, w.heap.size = N := ⟨_, rfl⟩
  have HW : Shh (Row W N 54 [.int .u32 0, .bool false, .int .i64 0, .int .i64 0, .int .i64 0] ∧ Row W (N + 1) 3 [.int .i64 10, .int .i64 16, .int .i64 20] ∧ Below w.heap.size w W) := by
    have b1 : Below w.heap.size w (w.alloc (.cells #[.int .u32 0, .bool false, .int .i64 0, .int .i64 0, .int .i64 0] 54)) := below1P _ _
    have b2 : Below (w.alloc (.cells #[.int .u32 0, .bool false, .int .i64 0, .int .i64 0, .int .i64 0] 54)).heap.size (w.alloc (.cells #[.int .u32 0, .bool false, .int .i64 0, .int .i64 0, .int .i64 0] 54)) W := by rw [hW]; exact below1P _ _
    exact ⟨by rw [hW]; exact (Row.new_ hNN.symm rfl).alloc _, by rw [hW]; exact Row.new_ (by rw [asz, hNN]) rfl, Below.chain b1 b2⟩
  rw [hW] at HW
  clear hW
  have hown : ∀ W, Calls Tryd.prog 69 #[.int .u32 (c : Int), .int .u32 4043309056] W (StayIs (.tuple #[.int .i64 (rF c xB : Int), .int .i64 (rH c xB : Int), .bool (rOk c xB)]) W) := fun W => refOwn_any c 4043309056 hc (by omega) W
  have hy := rOk_yes (c := c) (b := xB)
  have hn := rOk_no (c := c) (b := xB)
  obtain ⟨ok, hok⟩ : ∃ ok, ok = rOk c xB := ⟨_, rfl⟩
  rw [← hok] at hown hy hn
  clear hok
  obtain ⟨h, hh⟩ : ∃ h, h = xH c := ⟨_, rfl⟩
  obtain ⟨f, hf⟩ : ∃ f, f = xF c := ⟨_, rfl⟩
  have hfl : f ≤ 3 := by rw [hf]; exact xF_le c
  have hhl : h ≤ 20 := by rw [hh]; exact xH_le c
  have eF : f = ownF c xB := by rw [hf]; unfold xF; rw [if_neg hi, if_neg hi2]
  have eH : h = ownH c xB := by rw [hh]; unfold xH; rw [if_neg hi, if_neg hi2]
  cases ok with
  | true =>
    obtain ⟨y1, y2, y3⟩ := hy rfl
    rw [y1, y2, ← eF, ← eH] at hown
    have e1 : xC c = (c : Int) := by unfold xC; rw [if_neg (by omega)]
    have e2 : xSh c = hS f := by unfold xSh; rw [if_neg (by omega), hf]
    have e3 : xN c = hN f := by unfold xN; rw [if_neg (by omega), hf]
    have e4 : xE c = 0 := by unfold xE; rw [if_neg (by omega)]
    have e5 : xL c = 2 * hN f + 3 := by unfold xL; rw [if_neg (by omega), ← hf, xL_eq f hfl]
    rw [e1, e2, e3, e4, e5, ← hh, hS_dec hfl]
    clear hh hf e1 e2 e3 e4 e5 hy hn y1 y2 y3 eF eH
    have hnl : 0 ≤ hN f ∧ hN f ≤ 32 := by unfold hN; split <;> omega
    have hbytes : ∀ W, Calls Tryd.prog 65 #[.int .i64 (f : Int)] W (StayIs (.int .i64 (hN f)) W) := fun W => bytes6_any f hfl W
    obtain ⟨nn, hnn⟩ : ∃ nn, nn = hN f := ⟨_, rfl⟩
    rw [← hnn] at hbytes hnl ⊢
    clear hnn
    have w1 : IntKind.i64.wrap (2 * nn) = 2 * nn := by rw [IntKind.wrap_i64]; omega
    have w2 : IntKind.i64.wrap (2 * nn + 3) = 2 * nn + 3 := by rw [IntKind.wrap_i64]; omega
    by_cases hq : c < 1
    · skip
      have i0 : ¬ (1 : Int) ≤ (c : Int) := by omega
      have i1 : ¬ (13 : Int) ≤ (c : Int) := by omega
      clear hi hi2
      go_enter Tryd.func23, Tryd.ntmps23
      go_wp2_with (go_at_call 69; refine (hown _).mono ?_)
      unfold StayIs
      rintro e w2 ⟨rfl, rfl⟩
      go_wp2_with (go_at_call 65; refine (hbytes _).mono ?_)
      unfold StayIs
      rintro e w3 ⟨rfl, rfl⟩
      go_wp2_with (refine wpList_store_any rfl 54 (.tmp 2) (.tmp 57) rfl N rfl [.int .u32 (c : Int), .bool (decide ((2 : Int) ≤ (f : Int))), .int .i64 nn, .int .i64 (h : Int), .int .i64 (2 * nn + 3)] rfl 54 _ HW.out.1 info_xms rfl oneCell5 ?_)
      intro Z hr bt _
      have F : Shh (Row Z N 54 [.int .u32 (c : Int), .bool (decide ((2 : Int) ≤ (f : Int))), .int .i64 nn, .int .i64 (h : Int), .int .i64 (2 * nn + 3)] ∧ Below w.heap.size w Z) := ⟨hr, HW.out.2.2.trans (bt.under (by omega) (by omega))⟩
      clear hr bt HW
      go_wp2
      exact ret_rs Tryd.results23 rfl rfl rfl F.out.1 Tryd.underlying54 rfl info_xms ⟨rfl, F.out.2⟩
    by_cases hq : c < 13
    · skip
      have i0 : (1 : Int) ≤ (c : Int) := by omega
      have i1 : ¬ (c : Int) ≤ 3 := by omega
      have i2 : ¬ (13 : Int) ≤ (c : Int) := by omega
      clear hi hi2
      go_enter Tryd.func23, Tryd.ntmps23
      go_wp2_with (go_at_call 69; refine (hown _).mono ?_)
      unfold StayIs
      rintro e w2 ⟨rfl, rfl⟩
      go_wp2_with (go_at_call 65; refine (hbytes _).mono ?_)
      unfold StayIs
      rintro e w3 ⟨rfl, rfl⟩
      go_wp2_with (refine wpList_store_any rfl 54 (.tmp 2) (.tmp 57) rfl N rfl [.int .u32 (c : Int), .bool (decide ((2 : Int) ≤ (f : Int))), .int .i64 nn, .int .i64 (h : Int), .int .i64 (2 * nn + 3)] rfl 54 _ HW.out.1 info_xms rfl oneCell5 ?_)
      intro Z hr bt _
      have F : Shh (Row Z N 54 [.int .u32 (c : Int), .bool (decide ((2 : Int) ≤ (f : Int))), .int .i64 nn, .int .i64 (h : Int), .int .i64 (2 * nn + 3)] ∧ Below w.heap.size w Z) := ⟨hr, HW.out.2.2.trans (bt.under (by omega) (by omega))⟩
      clear hr bt HW
      go_wp2
      exact ret_rs Tryd.results23 rfl rfl rfl F.out.1 Tryd.underlying54 rfl info_xms ⟨rfl, F.out.2⟩
    have i0 : (1 : Int) ≤ (c : Int) := by omega
    have i1 : ¬ (c : Int) ≤ 3 := by omega
    have i2 : (13 : Int) ≤ (c : Int) := by omega
    have i3 : ¬ (c : Int) ≤ 21 := by omega
    clear hi hi2
    go_enter Tryd.func23, Tryd.ntmps23
    go_wp2_with (go_at_call 69; refine (hown _).mono ?_)
    unfold StayIs
    rintro e w2 ⟨rfl, rfl⟩
    go_wp2_with (go_at_call 65; refine (hbytes _).mono ?_)
    unfold StayIs
    rintro e w3 ⟨rfl, rfl⟩
    go_wp2_with (refine wpList_store_any rfl 54 (.tmp 2) (.tmp 57) rfl N rfl [.int .u32 (c : Int), .bool (decide ((2 : Int) ≤ (f : Int))), .int .i64 nn, .int .i64 (h : Int), .int .i64 (2 * nn + 3)] rfl 54 _ HW.out.1 info_xms rfl oneCell5 ?_)
    intro Z hr bt _
    have F : Shh (Row Z N 54 [.int .u32 (c : Int), .bool (decide ((2 : Int) ≤ (f : Int))), .int .i64 nn, .int .i64 (h : Int), .int .i64 (2 * nn + 3)] ∧ Below w.heap.size w Z) := ⟨hr, HW.out.2.2.trans (bt.under (by omega) (by omega))⟩
    clear hr bt HW
    go_wp2
    exact ret_rs Tryd.results23 rfl rfl rfl F.out.1 Tryd.underlying54 rfl info_xms ⟨rfl, F.out.2⟩
  | false =>
    have y3 := hn rfl
    have e1 : xC c = 0 := by unfold xC; rw [if_pos (by omega)]
    have e2 : xSh c = false := by unfold xSh; rw [if_pos (by omega)]
    have e3 : xN c = 0 := by unfold xN; rw [if_pos (by omega)]
    have e4 : xE c = 60 := by unfold xE; rw [if_pos (by omega)]
    have e6 : xL c = 0 := by unfold xL; rw [if_pos (by omega)]
    have e5 : xH c = 0 := by omega
    rw [e1, e2, e3, e4, e5, e6]
    clear hh hf e1 e2 e3 e4 e5 e6 hy hn y3 eF eH
    by_cases hq : c < 1
    · skip
      have i0 : ¬ (1 : Int) ≤ (c : Int) := by omega
      have i1 : ¬ (13 : Int) ≤ (c : Int) := by omega
      clear hi hi2
      go_enter Tryd.func23, Tryd.ntmps23
      go_wp2_with (go_at_call 69; refine (hown _).mono ?_)
      unfold StayIs
      rintro e w2 ⟨rfl, rfl⟩
      go_wp2_with (refine wpList_store_any rfl 54 (.tmp 2) (.tmp 46) rfl N rfl [.int .u32 0, .bool false, .int .i64 0, .int .i64 0, .int .i64 0] rfl 54 _ HW.out.1 info_xms rfl oneCell5 ?_)
      intro Z hr bt _
      have F : Shh (Row Z N 54 [.int .u32 0, .bool false, .int .i64 0, .int .i64 0, .int .i64 0] ∧ Below w.heap.size w Z) := ⟨hr, HW.out.2.2.trans (bt.under (by omega) (by omega))⟩
      clear hr bt HW
      go_wp2
      exact ret_rs Tryd.results23 rfl rfl rfl F.out.1 Tryd.underlying54 rfl info_xms ⟨rfl, F.out.2⟩
    by_cases hq : c < 13
    · skip
      have i0 : (1 : Int) ≤ (c : Int) := by omega
      have i1 : ¬ (c : Int) ≤ 3 := by omega
      have i2 : ¬ (13 : Int) ≤ (c : Int) := by omega
      clear hi hi2
      go_enter Tryd.func23, Tryd.ntmps23
      go_wp2_with (go_at_call 69; refine (hown _).mono ?_)
      unfold StayIs
      rintro e w2 ⟨rfl, rfl⟩
      go_wp2_with (refine wpList_store_any rfl 54 (.tmp 2) (.tmp 46) rfl N rfl [.int .u32 0, .bool false, .int .i64 0, .int .i64 0, .int .i64 0] rfl 54 _ HW.out.1 info_xms rfl oneCell5 ?_)
      intro Z hr bt _
      have F : Shh (Row Z N 54 [.int .u32 0, .bool false, .int .i64 0, .int .i64 0, .int .i64 0] ∧ Below w.heap.size w Z) := ⟨hr, HW.out.2.2.trans (bt.under (by omega) (by omega))⟩
      clear hr bt HW
      go_wp2
      exact ret_rs Tryd.results23 rfl rfl rfl F.out.1 Tryd.underlying54 rfl info_xms ⟨rfl, F.out.2⟩
    have i0 : (1 : Int) ≤ (c : Int) := by omega
    have i1 : ¬ (c : Int) ≤ 3 := by omega
    have i2 : (13 : Int) ≤ (c : Int) := by omega
    have i3 : ¬ (c : Int) ≤ 21 := by omega
    clear hi hi2
    go_enter Tryd.func23, Tryd.ntmps23
    go_wp2_with (go_at_call 69; refine (hown _).mono ?_)
    unfold StayIs
    rintro e w2 ⟨rfl, rfl⟩
    go_wp2_with (refine wpList_store_any rfl 54 (.tmp 2) (.tmp 46) rfl N rfl [.int .u32 0, .bool false, .int .i64 0, .int .i64 0, .int .i64 0] rfl 54 _ HW.out.1 info_xms rfl oneCell5 ?_)
    intro Z hr bt _
    have F : Shh (Row Z N 54 [.int .u32 0, .bool false, .int .i64 0, .int .i64 0, .int .i64 0] ∧ Below w.heap.size w Z) := ⟨hr, HW.out.2.2.trans (bt.under (by omega) (by omega))⟩
    clear hr bt HW
    go_wp2
    exact ret_rs Tryd.results23 rfl rfl rfl F.out.1 Tryd.underlying54 rfl info_xms ⟨rfl, F.out.2⟩
end Go.Proofs.YtanpplniedphkaaDoor
