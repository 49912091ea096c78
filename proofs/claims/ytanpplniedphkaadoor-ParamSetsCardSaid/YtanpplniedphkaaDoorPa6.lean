/-
  WALKS: the sets of XMSS: what the program answers for each code.
-/
import Derived.Test.YtanpplniedphkaaDoorPa5
namespace Go.Proofs.YtanpplniedphkaaDoor
open Go.RowKit
set_option maxRecDepth 100000
def hts (i : Nat) : Nat := if i = 0 then 10 else if i = 1 then 16 else 20
def xF (c : Nat) : Nat := if 1 ≤ c ∧ c ≤ 3 then 0 else if 13 ≤ c ∧ c ≤ 21 then 1 + (c - 13) / 3 else ownF c xB
def xH (c : Nat) : Nat := if 1 ≤ c ∧ c ≤ 3 then hts (c - 1) else if 13 ≤ c ∧ c ≤ 21 then hts ((c - 13) % 3) else ownH c xB
theorem hts_le (i : Nat) : hts i ≤ 20 := by
  unfold hts
  split
  · omega
  · split <;> omega
theorem xF_le (c : Nat) : xF c ≤ 3 := by
  unfold xF
  split
  · omega
  · split
    · omega
    · exact ownF_le c xB
theorem xH_le (c : Nat) : xH c ≤ 20 := by
  unfold xH
  split
  · exact hts_le _
  · split
    · exact hts_le _
    · have := ownH_le c xB; omega
theorem xmssTree_1 (w : World) : Calls Tryd.prog 64 #[.int .u32 1] w (OldIs (.tuple #[.int .u32 0, .int .u32 10]) w) := by
  unfold OldIs
  have HW : Shh (Row (w.alloc (.cells #[.int .u32 10, .int .u32 16, .int .u32 20] 126)).drew w.heap.size 126 [.int .u32 10, .int .u32 16, .int .u32 20] ∧ Below w.heap.size w (w.alloc (.cells #[.int .u32 10, .int .u32 16, .int .u32 20] 126)).drew) := ⟨(Row.new_ rfl rfl).drew, (Below.alloc (Below.refl _ _) (Nat.le_refl _) _).drew⟩
  obtain ⟨N, hN⟩ : ∃ N, w.heap.size = N := ⟨_, rfl⟩
  go_enter Tryd.func64, Tryd.ntmps64
  go_wp2
  refine wp_region_held_drew (S := fun w' => Row w' N 126 [.int .u32 10, .int .u32 16, .int .u32 20]) (by kernel_rfl) (by rw [← hN]; exact HW.out.1) (fun hS => ?_)
  clear hS
  rw [hN] at HW
  generalize World.drew _ = V at HW ⊢
  have rW := HW.out.1
  have hb := HW.out.2
  clear HW
  refine held_value 0 _ _ (some 13) (.int .u32 1) (by kernel_rfl) (by rfl) (by kernel_rfl) (fun w hS => by first | kernel_rfl | go_simp) (fun _ _ _ _ h => h) (rW) ?_
  simp only [Act.put, List.setIfInBounds_toArray, List.set_cons_zero, List.set_cons_succ]
  refine held_value 1 _ _ (some 14) (.int .u32 0) (by kernel_rfl) (by rfl) (by kernel_rfl) (fun w hS => by kernel_rfl) (fun _ _ _ _ h => h) (rW) ?_
  simp only [Act.put, List.setIfInBounds_toArray, List.set_cons_zero, List.set_cons_succ]
  refine held_value 2 _ _ (some 15) (.pointer (some ⟨N, 0, none⟩)) (by kernel_rfl) (by rfl) (by kernel_rfl) (fun w hS => by kernel_rfl) (fun _ _ _ _ h => h) (rW) ?_
  simp only [Act.put, List.setIfInBounds_toArray, List.set_cons_zero, List.set_cons_succ]
  refine held_value 3 _ _ (some 16) (.int .u32 10) (by kernel_rfl) (by rfl) (by kernel_rfl) (fun w hS => by have h2 : w.cell? ⟨N, 0, none⟩ = some (.int .u32 10) := hS.cell 0; go_simp) (fun _ _ _ _ h => h) (rW) ?_
  simp only [Act.put, List.setIfInBounds_toArray, List.set_cons_zero, List.set_cons_succ]
  refine held_value 4 _ _ (some 2) (.int .u32 0) (by kernel_rfl) (by rfl) (by kernel_rfl) (fun w hS => by first | kernel_rfl | go_simp) (fun _ _ _ _ h => h) (rW) ?_
  simp only [Act.put, List.setIfInBounds_toArray, List.set_cons_zero, List.set_cons_succ]
  refine held_value 5 _ _ (some 3) (.int .u32 10) (by kernel_rfl) (by rfl) (by kernel_rfl) (fun w hS => by first | kernel_rfl | go_simp) (fun _ _ _ _ h => h) (rW) ?_
  simp only [Act.put, List.setIfInBounds_toArray, List.set_cons_zero, List.set_cons_succ]
  refine wpAnyH_done (by kernel_rfl) ?_ _
  go_wp2
  go_ret2
  exact ⟨rfl, by rw [hN]; exact hb⟩
theorem xmssTree_2 (w : World) : Calls Tryd.prog 64 #[.int .u32 2] w (OldIs (.tuple #[.int .u32 0, .int .u32 16]) w) := by
  unfold OldIs
  have HW : Shh (Row (w.alloc (.cells #[.int .u32 10, .int .u32 16, .int .u32 20] 126)).drew w.heap.size 126 [.int .u32 10, .int .u32 16, .int .u32 20] ∧ Below w.heap.size w (w.alloc (.cells #[.int .u32 10, .int .u32 16, .int .u32 20] 126)).drew) := ⟨(Row.new_ rfl rfl).drew, (Below.alloc (Below.refl _ _) (Nat.le_refl _) _).drew⟩
  obtain ⟨N, hN⟩ : ∃ N, w.heap.size = N := ⟨_, rfl⟩
  go_enter Tryd.func64, Tryd.ntmps64
  go_wp2
  refine wp_region_held_drew (S := fun w' => Row w' N 126 [.int .u32 10, .int .u32 16, .int .u32 20]) (by kernel_rfl) (by rw [← hN]; exact HW.out.1) (fun hS => ?_)
  clear hS
  rw [hN] at HW
  generalize World.drew _ = V at HW ⊢
  have rW := HW.out.1
  have hb := HW.out.2
  clear HW
  refine held_value 0 _ _ (some 13) (.int .u32 2) (by kernel_rfl) (by rfl) (by kernel_rfl) (fun w hS => by first | kernel_rfl | go_simp) (fun _ _ _ _ h => h) (rW) ?_
  simp only [Act.put, List.setIfInBounds_toArray, List.set_cons_zero, List.set_cons_succ]
  refine held_value 1 _ _ (some 14) (.int .u32 1) (by kernel_rfl) (by rfl) (by kernel_rfl) (fun w hS => by kernel_rfl) (fun _ _ _ _ h => h) (rW) ?_
  simp only [Act.put, List.setIfInBounds_toArray, List.set_cons_zero, List.set_cons_succ]
  refine held_value 2 _ _ (some 15) (.pointer (some ⟨N, 1, none⟩)) (by kernel_rfl) (by rfl) (by kernel_rfl) (fun w hS => by kernel_rfl) (fun _ _ _ _ h => h) (rW) ?_
  simp only [Act.put, List.setIfInBounds_toArray, List.set_cons_zero, List.set_cons_succ]
  refine held_value 3 _ _ (some 16) (.int .u32 16) (by kernel_rfl) (by rfl) (by kernel_rfl) (fun w hS => by have h2 : w.cell? ⟨N, 1, none⟩ = some (.int .u32 16) := hS.cell 1; go_simp) (fun _ _ _ _ h => h) (rW) ?_
  simp only [Act.put, List.setIfInBounds_toArray, List.set_cons_zero, List.set_cons_succ]
  refine held_value 4 _ _ (some 2) (.int .u32 0) (by kernel_rfl) (by rfl) (by kernel_rfl) (fun w hS => by first | kernel_rfl | go_simp) (fun _ _ _ _ h => h) (rW) ?_
  simp only [Act.put, List.setIfInBounds_toArray, List.set_cons_zero, List.set_cons_succ]
  refine held_value 5 _ _ (some 3) (.int .u32 16) (by kernel_rfl) (by rfl) (by kernel_rfl) (fun w hS => by first | kernel_rfl | go_simp) (fun _ _ _ _ h => h) (rW) ?_
  simp only [Act.put, List.setIfInBounds_toArray, List.set_cons_zero, List.set_cons_succ]
  refine wpAnyH_done (by kernel_rfl) ?_ _
  go_wp2
  go_ret2
  exact ⟨rfl, by rw [hN]; exact hb⟩
theorem xmssTree_3 (w : World) : Calls Tryd.prog 64 #[.int .u32 3] w (OldIs (.tuple #[.int .u32 0, .int .u32 20]) w) := by
  unfold OldIs
  have HW : Shh (Row (w.alloc (.cells #[.int .u32 10, .int .u32 16, .int .u32 20] 126)).drew w.heap.size 126 [.int .u32 10, .int .u32 16, .int .u32 20] ∧ Below w.heap.size w (w.alloc (.cells #[.int .u32 10, .int .u32 16, .int .u32 20] 126)).drew) := ⟨(Row.new_ rfl rfl).drew, (Below.alloc (Below.refl _ _) (Nat.le_refl _) _).drew⟩
  obtain ⟨N, hN⟩ : ∃ N, w.heap.size = N := ⟨_, rfl⟩
  go_enter Tryd.func64, Tryd.ntmps64
  go_wp2
  refine wp_region_held_drew (S := fun w' => Row w' N 126 [.int .u32 10, .int .u32 16, .int .u32 20]) (by kernel_rfl) (by rw [← hN]; exact HW.out.1) (fun hS => ?_)
  clear hS
  rw [hN] at HW
  generalize World.drew _ = V at HW ⊢
  have rW := HW.out.1
  have hb := HW.out.2
  clear HW
  refine held_value 0 _ _ (some 13) (.int .u32 3) (by kernel_rfl) (by rfl) (by kernel_rfl) (fun w hS => by first | kernel_rfl | go_simp) (fun _ _ _ _ h => h) (rW) ?_
  simp only [Act.put, List.setIfInBounds_toArray, List.set_cons_zero, List.set_cons_succ]
  refine held_value 1 _ _ (some 14) (.int .u32 2) (by kernel_rfl) (by rfl) (by kernel_rfl) (fun w hS => by kernel_rfl) (fun _ _ _ _ h => h) (rW) ?_
  simp only [Act.put, List.setIfInBounds_toArray, List.set_cons_zero, List.set_cons_succ]
  refine held_value 2 _ _ (some 15) (.pointer (some ⟨N, 2, none⟩)) (by kernel_rfl) (by rfl) (by kernel_rfl) (fun w hS => by kernel_rfl) (fun _ _ _ _ h => h) (rW) ?_
  simp only [Act.put, List.setIfInBounds_toArray, List.set_cons_zero, List.set_cons_succ]
  refine held_value 3 _ _ (some 16) (.int .u32 20) (by kernel_rfl) (by rfl) (by kernel_rfl) (fun w hS => by have h2 : w.cell? ⟨N, 2, none⟩ = some (.int .u32 20) := hS.cell 2; go_simp) (fun _ _ _ _ h => h) (rW) ?_
  simp only [Act.put, List.setIfInBounds_toArray, List.set_cons_zero, List.set_cons_succ]
  refine held_value 4 _ _ (some 2) (.int .u32 0) (by kernel_rfl) (by rfl) (by kernel_rfl) (fun w hS => by first | kernel_rfl | go_simp) (fun _ _ _ _ h => h) (rW) ?_
  simp only [Act.put, List.setIfInBounds_toArray, List.set_cons_zero, List.set_cons_succ]
  refine held_value 5 _ _ (some 3) (.int .u32 20) (by kernel_rfl) (by rfl) (by kernel_rfl) (fun w hS => by first | kernel_rfl | go_simp) (fun _ _ _ _ h => h) (rW) ?_
  simp only [Act.put, List.setIfInBounds_toArray, List.set_cons_zero, List.set_cons_succ]
  refine wpAnyH_done (by kernel_rfl) ?_ _
  go_wp2
  go_ret2
  exact ⟨rfl, by rw [hN]; exact hb⟩
theorem xmssTree_13 (w : World) : Calls Tryd.prog 64 #[.int .u32 13] w (OldIs (.tuple #[.int .u32 1, .int .u32 10]) w) := by
  unfold OldIs
  have HW : Shh (Row (w.alloc (.cells #[.int .u32 10, .int .u32 16, .int .u32 20] 126)).drew w.heap.size 126 [.int .u32 10, .int .u32 16, .int .u32 20] ∧ Below w.heap.size w (w.alloc (.cells #[.int .u32 10, .int .u32 16, .int .u32 20] 126)).drew) := ⟨(Row.new_ rfl rfl).drew, (Below.alloc (Below.refl _ _) (Nat.le_refl _) _).drew⟩
  obtain ⟨N, hN⟩ : ∃ N, w.heap.size = N := ⟨_, rfl⟩
  go_enter Tryd.func64, Tryd.ntmps64
  go_wp2
  refine wp_region_held_drew (S := fun w' => Row w' N 126 [.int .u32 10, .int .u32 16, .int .u32 20]) (by kernel_rfl) (by rw [← hN]; exact HW.out.1) (fun hS => ?_)
  clear hS
  rw [hN] at HW
  generalize World.drew _ = V at HW ⊢
  have rW := HW.out.1
  have hb := HW.out.2
  clear HW
  refine held_value 0 _ _ (some 24) (.int .u32 13) (by kernel_rfl) (by rfl) (by kernel_rfl) (fun w hS => by first | kernel_rfl | go_simp) (fun _ _ _ _ h => h) (rW) ?_
  simp only [Act.put, List.setIfInBounds_toArray, List.set_cons_zero, List.set_cons_succ]
  refine held_value 1 _ _ (some 25) (.int .u32 0) (by kernel_rfl) (by rfl) (by kernel_rfl) (fun w hS => by kernel_rfl) (fun _ _ _ _ h => h) (rW) ?_
  simp only [Act.put, List.setIfInBounds_toArray, List.set_cons_zero, List.set_cons_succ]
  refine held_value 2 _ _ (some 26) (.int .u32 0) (by kernel_rfl) (by rfl) (by kernel_rfl) (fun w hS => by kernel_rfl) (fun _ _ _ _ h => h) (rW) ?_
  simp only [Act.put, List.setIfInBounds_toArray, List.set_cons_zero, List.set_cons_succ]
  refine held_value 3 _ _ (some 27) (.int .u32 1) (by kernel_rfl) (by rfl) (by kernel_rfl) (fun w hS => by kernel_rfl) (fun _ _ _ _ h => h) (rW) ?_
  simp only [Act.put, List.setIfInBounds_toArray, List.set_cons_zero, List.set_cons_succ]
  refine held_value 4 _ _ (some 28) (.int .u32 13) (by kernel_rfl) (by rfl) (by kernel_rfl) (fun w hS => by first | kernel_rfl | go_simp) (fun _ _ _ _ h => h) (rW) ?_
  simp only [Act.put, List.setIfInBounds_toArray, List.set_cons_zero, List.set_cons_succ]
  refine held_value 5 _ _ (some 29) (.int .u32 0) (by kernel_rfl) (by rfl) (by kernel_rfl) (fun w hS => by kernel_rfl) (fun _ _ _ _ h => h) (rW) ?_
  simp only [Act.put, List.setIfInBounds_toArray, List.set_cons_zero, List.set_cons_succ]
  refine held_value 6 _ _ (some 30) (.int .u32 0) (by kernel_rfl) (by rfl) (by kernel_rfl) (fun w hS => by kernel_rfl) (fun _ _ _ _ h => h) (rW) ?_
  simp only [Act.put, List.setIfInBounds_toArray, List.set_cons_zero, List.set_cons_succ]
  refine held_value 7 _ _ (some 31) (.pointer (some ⟨N, 0, none⟩)) (by kernel_rfl) (by rfl) (by kernel_rfl) (fun w hS => by kernel_rfl) (fun _ _ _ _ h => h) (rW) ?_
  simp only [Act.put, List.setIfInBounds_toArray, List.set_cons_zero, List.set_cons_succ]
  refine held_value 8 _ _ (some 32) (.int .u32 10) (by kernel_rfl) (by rfl) (by kernel_rfl) (fun w hS => by have h2 : w.cell? ⟨N, 0, none⟩ = some (.int .u32 10) := hS.cell 0; go_simp) (fun _ _ _ _ h => h) (rW) ?_
  simp only [Act.put, List.setIfInBounds_toArray, List.set_cons_zero, List.set_cons_succ]
  refine held_value 9 _ _ (some 2) (.int .u32 1) (by kernel_rfl) (by rfl) (by kernel_rfl) (fun w hS => by first | kernel_rfl | go_simp) (fun _ _ _ _ h => h) (rW) ?_
  simp only [Act.put, List.setIfInBounds_toArray, List.set_cons_zero, List.set_cons_succ]
  refine held_value 10 _ _ (some 3) (.int .u32 10) (by kernel_rfl) (by rfl) (by kernel_rfl) (fun w hS => by first | kernel_rfl | go_simp) (fun _ _ _ _ h => h) (rW) ?_
  simp only [Act.put, List.setIfInBounds_toArray, List.set_cons_zero, List.set_cons_succ]
  refine wpAnyH_done (by kernel_rfl) ?_ _
  go_wp2
  go_ret2
  exact ⟨rfl, by rw [hN]; exact hb⟩
theorem xmssTree_14 (w : World) : Calls Tryd.prog 64 #[.int .u32 14] w (OldIs (.tuple #[.int .u32 1, .int .u32 16]) w) := by
  unfold OldIs
  have HW : Shh (Row (w.alloc (.cells #[.int .u32 10, .int .u32 16, .int .u32 20] 126)).drew w.heap.size 126 [.int .u32 10, .int .u32 16, .int .u32 20] ∧ Below w.heap.size w (w.alloc (.cells #[.int .u32 10, .int .u32 16, .int .u32 20] 126)).drew) := ⟨(Row.new_ rfl rfl).drew, (Below.alloc (Below.refl _ _) (Nat.le_refl _) _).drew⟩
  obtain ⟨N, hN⟩ : ∃ N, w.heap.size = N := ⟨_, rfl⟩
  go_enter Tryd.func64, Tryd.ntmps64
  go_wp2
  refine wp_region_held_drew (S := fun w' => Row w' N 126 [.int .u32 10, .int .u32 16, .int .u32 20]) (by kernel_rfl) (by rw [← hN]; exact HW.out.1) (fun hS => ?_)
  clear hS
  rw [hN] at HW
  generalize World.drew _ = V at HW ⊢
  have rW := HW.out.1
  have hb := HW.out.2
  clear HW
  refine held_value 0 _ _ (some 24) (.int .u32 14) (by kernel_rfl) (by rfl) (by kernel_rfl) (fun w hS => by first | kernel_rfl | go_simp) (fun _ _ _ _ h => h) (rW) ?_
  simp only [Act.put, List.setIfInBounds_toArray, List.set_cons_zero, List.set_cons_succ]
  refine held_value 1 _ _ (some 25) (.int .u32 1) (by kernel_rfl) (by rfl) (by kernel_rfl) (fun w hS => by kernel_rfl) (fun _ _ _ _ h => h) (rW) ?_
  simp only [Act.put, List.setIfInBounds_toArray, List.set_cons_zero, List.set_cons_succ]
  refine held_value 2 _ _ (some 26) (.int .u32 0) (by kernel_rfl) (by rfl) (by kernel_rfl) (fun w hS => by kernel_rfl) (fun _ _ _ _ h => h) (rW) ?_
  simp only [Act.put, List.setIfInBounds_toArray, List.set_cons_zero, List.set_cons_succ]
  refine held_value 3 _ _ (some 27) (.int .u32 1) (by kernel_rfl) (by rfl) (by kernel_rfl) (fun w hS => by kernel_rfl) (fun _ _ _ _ h => h) (rW) ?_
  simp only [Act.put, List.setIfInBounds_toArray, List.set_cons_zero, List.set_cons_succ]
  refine held_value 4 _ _ (some 28) (.int .u32 14) (by kernel_rfl) (by rfl) (by kernel_rfl) (fun w hS => by first | kernel_rfl | go_simp) (fun _ _ _ _ h => h) (rW) ?_
  simp only [Act.put, List.setIfInBounds_toArray, List.set_cons_zero, List.set_cons_succ]
  refine held_value 5 _ _ (some 29) (.int .u32 1) (by kernel_rfl) (by rfl) (by kernel_rfl) (fun w hS => by kernel_rfl) (fun _ _ _ _ h => h) (rW) ?_
  simp only [Act.put, List.setIfInBounds_toArray, List.set_cons_zero, List.set_cons_succ]
  refine held_value 6 _ _ (some 30) (.int .u32 1) (by kernel_rfl) (by rfl) (by kernel_rfl) (fun w hS => by kernel_rfl) (fun _ _ _ _ h => h) (rW) ?_
  simp only [Act.put, List.setIfInBounds_toArray, List.set_cons_zero, List.set_cons_succ]
  refine held_value 7 _ _ (some 31) (.pointer (some ⟨N, 1, none⟩)) (by kernel_rfl) (by rfl) (by kernel_rfl) (fun w hS => by kernel_rfl) (fun _ _ _ _ h => h) (rW) ?_
  simp only [Act.put, List.setIfInBounds_toArray, List.set_cons_zero, List.set_cons_succ]
  refine held_value 8 _ _ (some 32) (.int .u32 16) (by kernel_rfl) (by rfl) (by kernel_rfl) (fun w hS => by have h2 : w.cell? ⟨N, 1, none⟩ = some (.int .u32 16) := hS.cell 1; go_simp) (fun _ _ _ _ h => h) (rW) ?_
  simp only [Act.put, List.setIfInBounds_toArray, List.set_cons_zero, List.set_cons_succ]
  refine held_value 9 _ _ (some 2) (.int .u32 1) (by kernel_rfl) (by rfl) (by kernel_rfl) (fun w hS => by first | kernel_rfl | go_simp) (fun _ _ _ _ h => h) (rW) ?_
  simp only [Act.put, List.setIfInBounds_toArray, List.set_cons_zero, List.set_cons_succ]
  refine held_value 10 _ _ (some 3) (.int .u32 16) (by kernel_rfl) (by rfl) (by kernel_rfl) (fun w hS => by first | kernel_rfl | go_simp) (fun _ _ _ _ h => h) (rW) ?_
  simp only [Act.put, List.setIfInBounds_toArray, List.set_cons_zero, List.set_cons_succ]
  refine wpAnyH_done (by kernel_rfl) ?_ _
  go_wp2
  go_ret2
  exact ⟨rfl, by rw [hN]; exact hb⟩
theorem xmssTree_15 (w : World) : Calls Tryd.prog 64 #[.int .u32 15] w (OldIs (.tuple #[.int .u32 1, .int .u32 20]) w) := by
  unfold OldIs
  have HW : Shh (Row (w.alloc (.cells #[.int .u32 10, .int .u32 16, .int .u32 20] 126)).drew w.heap.size 126 [.int .u32 10, .int .u32 16, .int .u32 20] ∧ Below w.heap.size w (w.alloc (.cells #[.int .u32 10, .int .u32 16, .int .u32 20] 126)).drew) := ⟨(Row.new_ rfl rfl).drew, (Below.alloc (Below.refl _ _) (Nat.le_refl _) _).drew⟩
  obtain ⟨N, hN⟩ : ∃ N, w.heap.size = N := ⟨_, rfl⟩
  go_enter Tryd.func64, Tryd.ntmps64
  go_wp2
  refine wp_region_held_drew (S := fun w' => Row w' N 126 [.int .u32 10, .int .u32 16, .int .u32 20]) (by kernel_rfl) (by rw [← hN]; exact HW.out.1) (fun hS => ?_)
  clear hS
  rw [hN] at HW
  generalize World.drew _ = V at HW ⊢
  have rW := HW.out.1
  have hb := HW.out.2
  clear HW
  refine held_value 0 _ _ (some 24) (.int .u32 15) (by kernel_rfl) (by rfl) (by kernel_rfl) (fun w hS => by first | kernel_rfl | go_simp) (fun _ _ _ _ h => h) (rW) ?_
  simp only [Act.put, List.setIfInBounds_toArray, List.set_cons_zero, List.set_cons_succ]
  refine held_value 1 _ _ (some 25) (.int .u32 2) (by kernel_rfl) (by rfl) (by kernel_rfl) (fun w hS => by kernel_rfl) (fun _ _ _ _ h => h) (rW) ?_
  simp only [Act.put, List.setIfInBounds_toArray, List.set_cons_zero, List.set_cons_succ]
  refine held_value 2 _ _ (some 26) (.int .u32 0) (by kernel_rfl) (by rfl) (by kernel_rfl) (fun w hS => by kernel_rfl) (fun _ _ _ _ h => h) (rW) ?_
  simp only [Act.put, List.setIfInBounds_toArray, List.set_cons_zero, List.set_cons_succ]
  refine held_value 3 _ _ (some 27) (.int .u32 1) (by kernel_rfl) (by rfl) (by kernel_rfl) (fun w hS => by kernel_rfl) (fun _ _ _ _ h => h) (rW) ?_
  simp only [Act.put, List.setIfInBounds_toArray, List.set_cons_zero, List.set_cons_succ]
  refine held_value 4 _ _ (some 28) (.int .u32 15) (by kernel_rfl) (by rfl) (by kernel_rfl) (fun w hS => by first | kernel_rfl | go_simp) (fun _ _ _ _ h => h) (rW) ?_
  simp only [Act.put, List.setIfInBounds_toArray, List.set_cons_zero, List.set_cons_succ]
  refine held_value 5 _ _ (some 29) (.int .u32 2) (by kernel_rfl) (by rfl) (by kernel_rfl) (fun w hS => by kernel_rfl) (fun _ _ _ _ h => h) (rW) ?_
  simp only [Act.put, List.setIfInBounds_toArray, List.set_cons_zero, List.set_cons_succ]
  refine held_value 6 _ _ (some 30) (.int .u32 2) (by kernel_rfl) (by rfl) (by kernel_rfl) (fun w hS => by kernel_rfl) (fun _ _ _ _ h => h) (rW) ?_
  simp only [Act.put, List.setIfInBounds_toArray, List.set_cons_zero, List.set_cons_succ]
  refine held_value 7 _ _ (some 31) (.pointer (some ⟨N, 2, none⟩)) (by kernel_rfl) (by rfl) (by kernel_rfl) (fun w hS => by kernel_rfl) (fun _ _ _ _ h => h) (rW) ?_
  simp only [Act.put, List.setIfInBounds_toArray, List.set_cons_zero, List.set_cons_succ]
  refine held_value 8 _ _ (some 32) (.int .u32 20) (by kernel_rfl) (by rfl) (by kernel_rfl) (fun w hS => by have h2 : w.cell? ⟨N, 2, none⟩ = some (.int .u32 20) := hS.cell 2; go_simp) (fun _ _ _ _ h => h) (rW) ?_
  simp only [Act.put, List.setIfInBounds_toArray, List.set_cons_zero, List.set_cons_succ]
  refine held_value 9 _ _ (some 2) (.int .u32 1) (by kernel_rfl) (by rfl) (by kernel_rfl) (fun w hS => by first | kernel_rfl | go_simp) (fun _ _ _ _ h => h) (rW) ?_
  simp only [Act.put, List.setIfInBounds_toArray, List.set_cons_zero, List.set_cons_succ]
  refine held_value 10 _ _ (some 3) (.int .u32 20) (by kernel_rfl) (by rfl) (by kernel_rfl) (fun w hS => by first | kernel_rfl | go_simp) (fun _ _ _ _ h => h) (rW) ?_
  simp only [Act.put, List.setIfInBounds_toArray, List.set_cons_zero, List.set_cons_succ]
  refine wpAnyH_done (by kernel_rfl) ?_ _
  go_wp2
  go_ret2
  exact ⟨rfl, by rw [hN]; exact hb⟩
theorem xmssTree_16 (w : World) : Calls Tryd.prog 64 #[.int .u32 16] w (OldIs (.tuple #[.int .u32 2, .int .u32 10]) w) := by
  unfold OldIs
  have HW : Shh (Row (w.alloc (.cells #[.int .u32 10, .int .u32 16, .int .u32 20] 126)).drew w.heap.size 126 [.int .u32 10, .int .u32 16, .int .u32 20] ∧ Below w.heap.size w (w.alloc (.cells #[.int .u32 10, .int .u32 16, .int .u32 20] 126)).drew) := ⟨(Row.new_ rfl rfl).drew, (Below.alloc (Below.refl _ _) (Nat.le_refl _) _).drew⟩
  obtain ⟨N, hN⟩ : ∃ N, w.heap.size = N := ⟨_, rfl⟩
  go_enter Tryd.func64, Tryd.ntmps64
  go_wp2
  refine wp_region_held_drew (S := fun w' => Row w' N 126 [.int .u32 10, .int .u32 16, .int .u32 20]) (by kernel_rfl) (by rw [← hN]; exact HW.out.1) (fun hS => ?_)
  clear hS
  rw [hN] at HW
  generalize World.drew _ = V at HW ⊢
  have rW := HW.out.1
  have hb := HW.out.2
  clear HW
  refine held_value 0 _ _ (some 24) (.int .u32 16) (by kernel_rfl) (by rfl) (by kernel_rfl) (fun w hS => by first | kernel_rfl | go_simp) (fun _ _ _ _ h => h) (rW) ?_
  simp only [Act.put, List.setIfInBounds_toArray, List.set_cons_zero, List.set_cons_succ]
  refine held_value 1 _ _ (some 25) (.int .u32 3) (by kernel_rfl) (by rfl) (by kernel_rfl) (fun w hS => by kernel_rfl) (fun _ _ _ _ h => h) (rW) ?_
  simp only [Act.put, List.setIfInBounds_toArray, List.set_cons_zero, List.set_cons_succ]
  refine held_value 2 _ _ (some 26) (.int .u32 1) (by kernel_rfl) (by rfl) (by kernel_rfl) (fun w hS => by kernel_rfl) (fun _ _ _ _ h => h) (rW) ?_
  simp only [Act.put, List.setIfInBounds_toArray, List.set_cons_zero, List.set_cons_succ]
  refine held_value 3 _ _ (some 27) (.int .u32 2) (by kernel_rfl) (by rfl) (by kernel_rfl) (fun w hS => by kernel_rfl) (fun _ _ _ _ h => h) (rW) ?_
  simp only [Act.put, List.setIfInBounds_toArray, List.set_cons_zero, List.set_cons_succ]
  refine held_value 4 _ _ (some 28) (.int .u32 16) (by kernel_rfl) (by rfl) (by kernel_rfl) (fun w hS => by first | kernel_rfl | go_simp) (fun _ _ _ _ h => h) (rW) ?_
  simp only [Act.put, List.setIfInBounds_toArray, List.set_cons_zero, List.set_cons_succ]
  refine held_value 5 _ _ (some 29) (.int .u32 3) (by kernel_rfl) (by rfl) (by kernel_rfl) (fun w hS => by kernel_rfl) (fun _ _ _ _ h => h) (rW) ?_
  simp only [Act.put, List.setIfInBounds_toArray, List.set_cons_zero, List.set_cons_succ]
  refine held_value 6 _ _ (some 30) (.int .u32 0) (by kernel_rfl) (by rfl) (by kernel_rfl) (fun w hS => by kernel_rfl) (fun _ _ _ _ h => h) (rW) ?_
  simp only [Act.put, List.setIfInBounds_toArray, List.set_cons_zero, List.set_cons_succ]
  refine held_value 7 _ _ (some 31) (.pointer (some ⟨N, 0, none⟩)) (by kernel_rfl) (by rfl) (by kernel_rfl) (fun w hS => by kernel_rfl) (fun _ _ _ _ h => h) (rW) ?_
  simp only [Act.put, List.setIfInBounds_toArray, List.set_cons_zero, List.set_cons_succ]
  refine held_value 8 _ _ (some 32) (.int .u32 10) (by kernel_rfl) (by rfl) (by kernel_rfl) (fun w hS => by have h2 : w.cell? ⟨N, 0, none⟩ = some (.int .u32 10) := hS.cell 0; go_simp) (fun _ _ _ _ h => h) (rW) ?_
  simp only [Act.put, List.setIfInBounds_toArray, List.set_cons_zero, List.set_cons_succ]
  refine held_value 9 _ _ (some 2) (.int .u32 2) (by kernel_rfl) (by rfl) (by kernel_rfl) (fun w hS => by first | kernel_rfl | go_simp) (fun _ _ _ _ h => h) (rW) ?_
  simp only [Act.put, List.setIfInBounds_toArray, List.set_cons_zero, List.set_cons_succ]
  refine held_value 10 _ _ (some 3) (.int .u32 10) (by kernel_rfl) (by rfl) (by kernel_rfl) (fun w hS => by first | kernel_rfl | go_simp) (fun _ _ _ _ h => h) (rW) ?_
  simp only [Act.put, List.setIfInBounds_toArray, List.set_cons_zero, List.set_cons_succ]
  refine wpAnyH_done (by kernel_rfl) ?_ _
  go_wp2
  go_ret2
  exact ⟨rfl, by rw [hN]; exact hb⟩
theorem xmssTree_17 (w : World) : Calls Tryd.prog 64 #[.int .u32 17] w (OldIs (.tuple #[.int .u32 2, .int .u32 16]) w) := by
  unfold OldIs
  have HW : Shh (Row (w.alloc (.cells #[.int .u32 10, .int .u32 16, .int .u32 20] 126)).drew w.heap.size 126 [.int .u32 10, .int .u32 16, .int .u32 20] ∧ Below w.heap.size w (w.alloc (.cells #[.int .u32 10, .int .u32 16, .int .u32 20] 126)).drew) := ⟨(Row.new_ rfl rfl).drew, (Below.alloc (Below.refl _ _) (Nat.le_refl _) _).drew⟩
  obtain ⟨N, hN⟩ : ∃ N, w.heap.size = N := ⟨_, rfl⟩
  go_enter Tryd.func64, Tryd.ntmps64
  go_wp2
  refine wp_region_held_drew (S := fun w' => Row w' N 126 [.int .u32 10, .int .u32 16, .int .u32 20]) (by kernel_rfl) (by rw [← hN]; exact HW.out.1) (fun hS => ?_)
  clear hS
  rw [hN] at HW
  generalize World.drew _ = V at HW ⊢
  have rW := HW.out.1
  have hb := HW.out.2
  clear HW
  refine held_value 0 _ _ (some 24) (.int .u32 17) (by kernel_rfl) (by rfl) (by kernel_rfl) (fun w hS => by first | kernel_rfl | go_simp) (fun _ _ _ _ h => h) (rW) ?_
  simp only [Act.put, List.setIfInBounds_toArray, List.set_cons_zero, List.set_cons_succ]
  refine held_value 1 _ _ (some 25) (.int .u32 4) (by kernel_rfl) (by rfl) (by kernel_rfl) (fun w hS => by kernel_rfl) (fun _ _ _ _ h => h) (rW) ?_
  simp only [Act.put, List.setIfInBounds_toArray, List.set_cons_zero, List.set_cons_succ]
  refine held_value 2 _ _ (some 26) (.int .u32 1) (by kernel_rfl) (by rfl) (by kernel_rfl) (fun w hS => by kernel_rfl) (fun _ _ _ _ h => h) (rW) ?_
  simp only [Act.put, List.setIfInBounds_toArray, List.set_cons_zero, List.set_cons_succ]
  refine held_value 3 _ _ (some 27) (.int .u32 2) (by kernel_rfl) (by rfl) (by kernel_rfl) (fun w hS => by kernel_rfl) (fun _ _ _ _ h => h) (rW) ?_
  simp only [Act.put, List.setIfInBounds_toArray, List.set_cons_zero, List.set_cons_succ]
  refine held_value 4 _ _ (some 28) (.int .u32 17) (by kernel_rfl) (by rfl) (by kernel_rfl) (fun w hS => by first | kernel_rfl | go_simp) (fun _ _ _ _ h => h) (rW) ?_
  simp only [Act.put, List.setIfInBounds_toArray, List.set_cons_zero, List.set_cons_succ]
  refine held_value 5 _ _ (some 29) (.int .u32 4) (by kernel_rfl) (by rfl) (by kernel_rfl) (fun w hS => by kernel_rfl) (fun _ _ _ _ h => h) (rW) ?_
  simp only [Act.put, List.setIfInBounds_toArray, List.set_cons_zero, List.set_cons_succ]
  refine held_value 6 _ _ (some 30) (.int .u32 1) (by kernel_rfl) (by rfl) (by kernel_rfl) (fun w hS => by kernel_rfl) (fun _ _ _ _ h => h) (rW) ?_
  simp only [Act.put, List.setIfInBounds_toArray, List.set_cons_zero, List.set_cons_succ]
  refine held_value 7 _ _ (some 31) (.pointer (some ⟨N, 1, none⟩)) (by kernel_rfl) (by rfl) (by kernel_rfl) (fun w hS => by kernel_rfl) (fun _ _ _ _ h => h) (rW) ?_
  simp only [Act.put, List.setIfInBounds_toArray, List.set_cons_zero, List.set_cons_succ]
  refine held_value 8 _ _ (some 32) (.int .u32 16) (by kernel_rfl) (by rfl) (by kernel_rfl) (fun w hS => by have h2 : w.cell? ⟨N, 1, none⟩ = some (.int .u32 16) := hS.cell 1; go_simp) (fun _ _ _ _ h => h) (rW) ?_
  simp only [Act.put, List.setIfInBounds_toArray, List.set_cons_zero, List.set_cons_succ]
  refine held_value 9 _ _ (some 2) (.int .u32 2) (by kernel_rfl) (by rfl) (by kernel_rfl) (fun w hS => by first | kernel_rfl | go_simp) (fun _ _ _ _ h => h) (rW) ?_
  simp only [Act.put, List.setIfInBounds_toArray, List.set_cons_zero, List.set_cons_succ]
  refine held_value 10 _ _ (some 3) (.int .u32 16) (by kernel_rfl) (by rfl) (by kernel_rfl) (fun w hS => by first | kernel_rfl | go_simp) (fun _ _ _ _ h => h) (rW) ?_
  simp only [Act.put, List.setIfInBounds_toArray, List.set_cons_zero, List.set_cons_succ]
  refine wpAnyH_done (by kernel_rfl) ?_ _
  go_wp2
  go_ret2
  exact ⟨rfl, by rw [hN]; exact hb⟩
theorem xmssTree_18 (w : World) : Calls Tryd.prog 64 #[.int .u32 18] w (OldIs (.tuple #[.int .u32 2, .int .u32 20]) w) := by
  unfold OldIs
  have HW : Shh (Row (w.alloc (.cells #[.int .u32 10, .int .u32 16, .int .u32 20] 126)).drew w.heap.size 126 [.int .u32 10, .int .u32 16, .int .u32 20] ∧ Below w.heap.size w (w.alloc (.cells #[.int .u32 10, .int .u32 16, .int .u32 20] 126)).drew) := ⟨(Row.new_ rfl rfl).drew, (Below.alloc (Below.refl _ _) (Nat.le_refl _) _).drew⟩
  obtain ⟨N, hN⟩ : ∃ N, w.heap.size = N := ⟨_, rfl⟩
  go_enter Tryd.func64, Tryd.ntmps64
  go_wp2
  refine wp_region_held_drew (S := fun w' => Row w' N 126 [.int .u32 10, .int .u32 16, .int .u32 20]) (by kernel_rfl) (by rw [← hN]; exact HW.out.1) (fun hS => ?_)
  clear hS
  rw [hN] at HW
  generalize World.drew _ = V at HW ⊢
  have rW := HW.out.1
  have hb := HW.out.2
  clear HW
  refine held_value 0 _ _ (some 24) (.int .u32 18) (by kernel_rfl) (by rfl) (by kernel_rfl) (fun w hS => by first | kernel_rfl | go_simp) (fun _ _ _ _ h => h) (rW) ?_
  simp only [Act.put, List.setIfInBounds_toArray, List.set_cons_zero, List.set_cons_succ]
  refine held_value 1 _ _ (some 25) (.int .u32 5) (by kernel_rfl) (by rfl) (by kernel_rfl) (fun w hS => by kernel_rfl) (fun _ _ _ _ h => h) (rW) ?_
  simp only [Act.put, List.setIfInBounds_toArray, List.set_cons_zero, List.set_cons_succ]
  refine held_value 2 _ _ (some 26) (.int .u32 1) (by kernel_rfl) (by rfl) (by kernel_rfl) (fun w hS => by kernel_rfl) (fun _ _ _ _ h => h) (rW) ?_
  simp only [Act.put, List.setIfInBounds_toArray, List.set_cons_zero, List.set_cons_succ]
  refine held_value 3 _ _ (some 27) (.int .u32 2) (by kernel_rfl) (by rfl) (by kernel_rfl) (fun w hS => by kernel_rfl) (fun _ _ _ _ h => h) (rW) ?_
  simp only [Act.put, List.setIfInBounds_toArray, List.set_cons_zero, List.set_cons_succ]
  refine held_value 4 _ _ (some 28) (.int .u32 18) (by kernel_rfl) (by rfl) (by kernel_rfl) (fun w hS => by first | kernel_rfl | go_simp) (fun _ _ _ _ h => h) (rW) ?_
  simp only [Act.put, List.setIfInBounds_toArray, List.set_cons_zero, List.set_cons_succ]
  refine held_value 5 _ _ (some 29) (.int .u32 5) (by kernel_rfl) (by rfl) (by kernel_rfl) (fun w hS => by kernel_rfl) (fun _ _ _ _ h => h) (rW) ?_
  simp only [Act.put, List.setIfInBounds_toArray, List.set_cons_zero, List.set_cons_succ]
  refine held_value 6 _ _ (some 30) (.int .u32 2) (by kernel_rfl) (by rfl) (by kernel_rfl) (fun w hS => by kernel_rfl) (fun _ _ _ _ h => h) (rW) ?_
  simp only [Act.put, List.setIfInBounds_toArray, List.set_cons_zero, List.set_cons_succ]
  refine held_value 7 _ _ (some 31) (.pointer (some ⟨N, 2, none⟩)) (by kernel_rfl) (by rfl) (by kernel_rfl) (fun w hS => by kernel_rfl) (fun _ _ _ _ h => h) (rW) ?_
  simp only [Act.put, List.setIfInBounds_toArray, List.set_cons_zero, List.set_cons_succ]
  refine held_value 8 _ _ (some 32) (.int .u32 20) (by kernel_rfl) (by rfl) (by kernel_rfl) (fun w hS => by have h2 : w.cell? ⟨N, 2, none⟩ = some (.int .u32 20) := hS.cell 2; go_simp) (fun _ _ _ _ h => h) (rW) ?_
  simp only [Act.put, List.setIfInBounds_toArray, List.set_cons_zero, List.set_cons_succ]
  refine held_value 9 _ _ (some 2) (.int .u32 2) (by kernel_rfl) (by rfl) (by kernel_rfl) (fun w hS => by first | kernel_rfl | go_simp) (fun _ _ _ _ h => h) (rW) ?_
  simp only [Act.put, List.setIfInBounds_toArray, List.set_cons_zero, List.set_cons_succ]
  refine held_value 10 _ _ (some 3) (.int .u32 20) (by kernel_rfl) (by rfl) (by kernel_rfl) (fun w hS => by first | kernel_rfl | go_simp) (fun _ _ _ _ h => h) (rW) ?_
  simp only [Act.put, List.setIfInBounds_toArray, List.set_cons_zero, List.set_cons_succ]
  refine wpAnyH_done (by kernel_rfl) ?_ _
  go_wp2
  go_ret2
  exact ⟨rfl, by rw [hN]; exact hb⟩
theorem xmssTree_19 (w : World) : Calls Tryd.prog 64 #[.int .u32 19] w (OldIs (.tuple #[.int .u32 3, .int .u32 10]) w) := by
  unfold OldIs
  have HW : Shh (Row (w.alloc (.cells #[.int .u32 10, .int .u32 16, .int .u32 20] 126)).drew w.heap.size 126 [.int .u32 10, .int .u32 16, .int .u32 20] ∧ Below w.heap.size w (w.alloc (.cells #[.int .u32 10, .int .u32 16, .int .u32 20] 126)).drew) := ⟨(Row.new_ rfl rfl).drew, (Below.alloc (Below.refl _ _) (Nat.le_refl _) _).drew⟩
  obtain ⟨N, hN⟩ : ∃ N, w.heap.size = N := ⟨_, rfl⟩
  go_enter Tryd.func64, Tryd.ntmps64
  go_wp2
  refine wp_region_held_drew (S := fun w' => Row w' N 126 [.int .u32 10, .int .u32 16, .int .u32 20]) (by kernel_rfl) (by rw [← hN]; exact HW.out.1) (fun hS => ?_)
  clear hS
  rw [hN] at HW
  generalize World.drew _ = V at HW ⊢
  have rW := HW.out.1
  have hb := HW.out.2
  clear HW
  refine held_value 0 _ _ (some 24) (.int .u32 19) (by kernel_rfl) (by rfl) (by kernel_rfl) (fun w hS => by first | kernel_rfl | go_simp) (fun _ _ _ _ h => h) (rW) ?_
  simp only [Act.put, List.setIfInBounds_toArray, List.set_cons_zero, List.set_cons_succ]
  refine held_value 1 _ _ (some 25) (.int .u32 6) (by kernel_rfl) (by rfl) (by kernel_rfl) (fun w hS => by kernel_rfl) (fun _ _ _ _ h => h) (rW) ?_
  simp only [Act.put, List.setIfInBounds_toArray, List.set_cons_zero, List.set_cons_succ]
  refine held_value 2 _ _ (some 26) (.int .u32 2) (by kernel_rfl) (by rfl) (by kernel_rfl) (fun w hS => by kernel_rfl) (fun _ _ _ _ h => h) (rW) ?_
  simp only [Act.put, List.setIfInBounds_toArray, List.set_cons_zero, List.set_cons_succ]
  refine held_value 3 _ _ (some 27) (.int .u32 3) (by kernel_rfl) (by rfl) (by kernel_rfl) (fun w hS => by kernel_rfl) (fun _ _ _ _ h => h) (rW) ?_
  simp only [Act.put, List.setIfInBounds_toArray, List.set_cons_zero, List.set_cons_succ]
  refine held_value 4 _ _ (some 28) (.int .u32 19) (by kernel_rfl) (by rfl) (by kernel_rfl) (fun w hS => by first | kernel_rfl | go_simp) (fun _ _ _ _ h => h) (rW) ?_
  simp only [Act.put, List.setIfInBounds_toArray, List.set_cons_zero, List.set_cons_succ]
  refine held_value 5 _ _ (some 29) (.int .u32 6) (by kernel_rfl) (by rfl) (by kernel_rfl) (fun w hS => by kernel_rfl) (fun _ _ _ _ h => h) (rW) ?_
  simp only [Act.put, List.setIfInBounds_toArray, List.set_cons_zero, List.set_cons_succ]
  refine held_value 6 _ _ (some 30) (.int .u32 0) (by kernel_rfl) (by rfl) (by kernel_rfl) (fun w hS => by kernel_rfl) (fun _ _ _ _ h => h) (rW) ?_
  simp only [Act.put, List.setIfInBounds_toArray, List.set_cons_zero, List.set_cons_succ]
  refine held_value 7 _ _ (some 31) (.pointer (some ⟨N, 0, none⟩)) (by kernel_rfl) (by rfl) (by kernel_rfl) (fun w hS => by kernel_rfl) (fun _ _ _ _ h => h) (rW) ?_
  simp only [Act.put, List.setIfInBounds_toArray, List.set_cons_zero, List.set_cons_succ]
  refine held_value 8 _ _ (some 32) (.int .u32 10) (by kernel_rfl) (by rfl) (by kernel_rfl) (fun w hS => by have h2 : w.cell? ⟨N, 0, none⟩ = some (.int .u32 10) := hS.cell 0; go_simp) (fun _ _ _ _ h => h) (rW) ?_
  simp only [Act.put, List.setIfInBounds_toArray, List.set_cons_zero, List.set_cons_succ]
  refine held_value 9 _ _ (some 2) (.int .u32 3) (by kernel_rfl) (by rfl) (by kernel_rfl) (fun w hS => by first | kernel_rfl | go_simp) (fun _ _ _ _ h => h) (rW) ?_
  simp only [Act.put, List.setIfInBounds_toArray, List.set_cons_zero, List.set_cons_succ]
  refine held_value 10 _ _ (some 3) (.int .u32 10) (by kernel_rfl) (by rfl) (by kernel_rfl) (fun w hS => by first | kernel_rfl | go_simp) (fun _ _ _ _ h => h) (rW) ?_
  simp only [Act.put, List.setIfInBounds_toArray, List.set_cons_zero, List.set_cons_succ]
  refine wpAnyH_done (by kernel_rfl) ?_ _
  go_wp2
  go_ret2
  exact ⟨rfl, by rw [hN]; exact hb⟩
theorem xmssTree_20 (w : World) : Calls Tryd.prog 64 #[.int .u32 20] w (OldIs (.tuple #[.int .u32 3, .int .u32 16]) w) := by
  unfold OldIs
  have HW : Shh (Row (w.alloc (.cells #[.int .u32 10, .int .u32 16, .int .u32 20] 126)).drew w.heap.size 126 [.int .u32 10, .int .u32 16, .int .u32 20] ∧ Below w.heap.size w (w.alloc (.cells #[.int .u32 10, .int .u32 16, .int .u32 20] 126)).drew) := ⟨(Row.new_ rfl rfl).drew, (Below.alloc (Below.refl _ _) (Nat.le_refl _) _).drew⟩
  obtain ⟨N, hN⟩ : ∃ N, w.heap.size = N := ⟨_, rfl⟩
  go_enter Tryd.func64, Tryd.ntmps64
  go_wp2
  refine wp_region_held_drew (S := fun w' => Row w' N 126 [.int .u32 10, .int .u32 16, .int .u32 20]) (by kernel_rfl) (by rw [← hN]; exact HW.out.1) (fun hS => ?_)
  clear hS
  rw [hN] at HW
  generalize World.drew _ = V at HW ⊢
  have rW := HW.out.1
  have hb := HW.out.2
  clear HW
  refine held_value 0 _ _ (some 24) (.int .u32 20) (by kernel_rfl) (by rfl) (by kernel_rfl) (fun w hS => by first | kernel_rfl | go_simp) (fun _ _ _ _ h => h) (rW) ?_
  simp only [Act.put, List.setIfInBounds_toArray, List.set_cons_zero, List.set_cons_succ]
  refine held_value 1 _ _ (some 25) (.int .u32 7) (by kernel_rfl) (by rfl) (by kernel_rfl) (fun w hS => by kernel_rfl) (fun _ _ _ _ h => h) (rW) ?_
  simp only [Act.put, List.setIfInBounds_toArray, List.set_cons_zero, List.set_cons_succ]
  refine held_value 2 _ _ (some 26) (.int .u32 2) (by kernel_rfl) (by rfl) (by kernel_rfl) (fun w hS => by kernel_rfl) (fun _ _ _ _ h => h) (rW) ?_
  simp only [Act.put, List.setIfInBounds_toArray, List.set_cons_zero, List.set_cons_succ]
  refine held_value 3 _ _ (some 27) (.int .u32 3) (by kernel_rfl) (by rfl) (by kernel_rfl) (fun w hS => by kernel_rfl) (fun _ _ _ _ h => h) (rW) ?_
  simp only [Act.put, List.setIfInBounds_toArray, List.set_cons_zero, List.set_cons_succ]
  refine held_value 4 _ _ (some 28) (.int .u32 20) (by kernel_rfl) (by rfl) (by kernel_rfl) (fun w hS => by first | kernel_rfl | go_simp) (fun _ _ _ _ h => h) (rW) ?_
  simp only [Act.put, List.setIfInBounds_toArray, List.set_cons_zero, List.set_cons_succ]
  refine held_value 5 _ _ (some 29) (.int .u32 7) (by kernel_rfl) (by rfl) (by kernel_rfl) (fun w hS => by kernel_rfl) (fun _ _ _ _ h => h) (rW) ?_
  simp only [Act.put, List.setIfInBounds_toArray, List.set_cons_zero, List.set_cons_succ]
  refine held_value 6 _ _ (some 30) (.int .u32 1) (by kernel_rfl) (by rfl) (by kernel_rfl) (fun w hS => by kernel_rfl) (fun _ _ _ _ h => h) (rW) ?_
  simp only [Act.put, List.setIfInBounds_toArray, List.set_cons_zero, List.set_cons_succ]
  refine held_value 7 _ _ (some 31) (.pointer (some ⟨N, 1, none⟩)) (by kernel_rfl) (by rfl) (by kernel_rfl) (fun w hS => by kernel_rfl) (fun _ _ _ _ h => h) (rW) ?_
  simp only [Act.put, List.setIfInBounds_toArray, List.set_cons_zero, List.set_cons_succ]
  refine held_value 8 _ _ (some 32) (.int .u32 16) (by kernel_rfl) (by rfl) (by kernel_rfl) (fun w hS => by have h2 : w.cell? ⟨N, 1, none⟩ = some (.int .u32 16) := hS.cell 1; go_simp) (fun _ _ _ _ h => h) (rW) ?_
  simp only [Act.put, List.setIfInBounds_toArray, List.set_cons_zero, List.set_cons_succ]
  refine held_value 9 _ _ (some 2) (.int .u32 3) (by kernel_rfl) (by rfl) (by kernel_rfl) (fun w hS => by first | kernel_rfl | go_simp) (fun _ _ _ _ h => h) (rW) ?_
  simp only [Act.put, List.setIfInBounds_toArray, List.set_cons_zero, List.set_cons_succ]
  refine held_value 10 _ _ (some 3) (.int .u32 16) (by kernel_rfl) (by rfl) (by kernel_rfl) (fun w hS => by first | kernel_rfl | go_simp) (fun _ _ _ _ h => h) (rW) ?_
  simp only [Act.put, List.setIfInBounds_toArray, List.set_cons_zero, List.set_cons_succ]
  refine wpAnyH_done (by kernel_rfl) ?_ _
  go_wp2
  go_ret2
  exact ⟨rfl, by rw [hN]; exact hb⟩
theorem xmssTree_21 (w : World) : Calls Tryd.prog 64 #[.int .u32 21] w (OldIs (.tuple #[.int .u32 3, .int .u32 20]) w) := by
  unfold OldIs
  have HW : Shh (Row (w.alloc (.cells #[.int .u32 10, .int .u32 16, .int .u32 20] 126)).drew w.heap.size 126 [.int .u32 10, .int .u32 16, .int .u32 20] ∧ Below w.heap.size w (w.alloc (.cells #[.int .u32 10, .int .u32 16, .int .u32 20] 126)).drew) := ⟨(Row.new_ rfl rfl).drew, (Below.alloc (Below.refl _ _) (Nat.le_refl _) _).drew⟩
  obtain ⟨N, hN⟩ : ∃ N, w.heap.size = N := ⟨_, rfl⟩
  go_enter Tryd.func64, Tryd.ntmps64
  go_wp2
  refine wp_region_held_drew (S := fun w' => Row w' N 126 [.int .u32 10, .int .u32 16, .int .u32 20]) (by kernel_rfl) (by rw [← hN]; exact HW.out.1) (fun hS => ?_)
  clear hS
  rw [hN] at HW
  generalize World.drew _ = V at HW ⊢
  have rW := HW.out.1
  have hb := HW.out.2
  clear HW
  refine held_value 0 _ _ (some 24) (.int .u32 21) (by kernel_rfl) (by rfl) (by kernel_rfl) (fun w hS => by first | kernel_rfl | go_simp) (fun _ _ _ _ h => h) (rW) ?_
  simp only [Act.put, List.setIfInBounds_toArray, List.set_cons_zero, List.set_cons_succ]
  refine held_value 1 _ _ (some 25) (.int .u32 8) (by kernel_rfl) (by rfl) (by kernel_rfl) (fun w hS => by kernel_rfl) (fun _ _ _ _ h => h) (rW) ?_
  simp only [Act.put, List.setIfInBounds_toArray, List.set_cons_zero, List.set_cons_succ]
  refine held_value 2 _ _ (some 26) (.int .u32 2) (by kernel_rfl) (by rfl) (by kernel_rfl) (fun w hS => by kernel_rfl) (fun _ _ _ _ h => h) (rW) ?_
  simp only [Act.put, List.setIfInBounds_toArray, List.set_cons_zero, List.set_cons_succ]
  refine held_value 3 _ _ (some 27) (.int .u32 3) (by kernel_rfl) (by rfl) (by kernel_rfl) (fun w hS => by kernel_rfl) (fun _ _ _ _ h => h) (rW) ?_
  simp only [Act.put, List.setIfInBounds_toArray, List.set_cons_zero, List.set_cons_succ]
  refine held_value 4 _ _ (some 28) (.int .u32 21) (by kernel_rfl) (by rfl) (by kernel_rfl) (fun w hS => by first | kernel_rfl | go_simp) (fun _ _ _ _ h => h) (rW) ?_
  simp only [Act.put, List.setIfInBounds_toArray, List.set_cons_zero, List.set_cons_succ]
  refine held_value 5 _ _ (some 29) (.int .u32 8) (by kernel_rfl) (by rfl) (by kernel_rfl) (fun w hS => by kernel_rfl) (fun _ _ _ _ h => h) (rW) ?_
  simp only [Act.put, List.setIfInBounds_toArray, List.set_cons_zero, List.set_cons_succ]
  refine held_value 6 _ _ (some 30) (.int .u32 2) (by kernel_rfl) (by rfl) (by kernel_rfl) (fun w hS => by kernel_rfl) (fun _ _ _ _ h => h) (rW) ?_
  simp only [Act.put, List.setIfInBounds_toArray, List.set_cons_zero, List.set_cons_succ]
  refine held_value 7 _ _ (some 31) (.pointer (some ⟨N, 2, none⟩)) (by kernel_rfl) (by rfl) (by kernel_rfl) (fun w hS => by kernel_rfl) (fun _ _ _ _ h => h) (rW) ?_
  simp only [Act.put, List.setIfInBounds_toArray, List.set_cons_zero, List.set_cons_succ]
  refine held_value 8 _ _ (some 32) (.int .u32 20) (by kernel_rfl) (by rfl) (by kernel_rfl) (fun w hS => by have h2 : w.cell? ⟨N, 2, none⟩ = some (.int .u32 20) := hS.cell 2; go_simp) (fun _ _ _ _ h => h) (rW) ?_
  simp only [Act.put, List.setIfInBounds_toArray, List.set_cons_zero, List.set_cons_succ]
  refine held_value 9 _ _ (some 2) (.int .u32 3) (by kernel_rfl) (by rfl) (by kernel_rfl) (fun w hS => by first | kernel_rfl | go_simp) (fun _ _ _ _ h => h) (rW) ?_
  simp only [Act.put, List.setIfInBounds_toArray, List.set_cons_zero, List.set_cons_succ]
  refine held_value 10 _ _ (some 3) (.int .u32 20) (by kernel_rfl) (by rfl) (by kernel_rfl) (fun w hS => by first | kernel_rfl | go_simp) (fun _ _ _ _ h => h) (rW) ?_
  simp only [Act.put, List.setIfInBounds_toArray, List.set_cons_zero, List.set_cons_succ]
  refine wpAnyH_done (by kernel_rfl) ?_ _
  go_wp2
  go_ret2
  exact ⟨rfl, by rw [hN]; exact hb⟩
theorem xmssTree_own (c : Nat) (hc : c < 4294967296) (h : ¬ (1 ≤ c ∧ c ≤ 3)) (h2 : ¬ (13 ≤ c ∧ c ≤ 21)) (w : World) : Calls Tryd.prog 64 #[.int .u32 (c : Int)] w (OldIs (.tuple #[.int .u32 (ownF c xB : Int), .int .u32 (ownH c xB : Int)]) w) := by
  unfold OldIs
  have hown : ∀ W, Calls Tryd.prog 96 #[.int .u32 (c : Int), .int .u32 4043309056] W (StayIs (.tuple #[.int .u32 (ownF c xB : Int), .int .u32 (ownH c xB : Int)]) W) := fun W => ownTree_any c 4043309056 hc (by omega) W
  have hb : Shh (Below w.heap.size w (w.alloc (.cells #[.int .u32 10, .int .u32 16, .int .u32 20] 126))) := ⟨Below.alloc (Below.refl _ _) (Nat.le_refl _) _⟩
  by_cases hq : c < 1
  · skip
    have i0 : ¬ (1 : Int) ≤ (c : Int) := by omega
    have i1 : ¬ (13 : Int) ≤ (c : Int) := by omega
    clear h h2
    go_enter Tryd.func64, Tryd.ntmps64
    go_wp2_with (go_at_call 96; refine (hown _).mono ?_)
    unfold StayIs
    rintro e w2 ⟨rfl, rfl⟩
    go_wp2
    go_ret2
    exact ⟨rfl, hb.out⟩
  by_cases hq : c < 13
  · skip
    have i0 : (1 : Int) ≤ (c : Int) := by omega
    have i1 : ¬ (c : Int) ≤ 3 := by omega
    have i2 : ¬ (13 : Int) ≤ (c : Int) := by omega
    clear h h2
    go_enter Tryd.func64, Tryd.ntmps64
    go_wp2_with (go_at_call 96; refine (hown _).mono ?_)
    unfold StayIs
    rintro e w2 ⟨rfl, rfl⟩
    go_wp2
    go_ret2
    exact ⟨rfl, hb.out⟩
  have i0 : (1 : Int) ≤ (c : Int) := by omega
  have i1 : ¬ (c : Int) ≤ 3 := by omega
  have i2 : (13 : Int) ≤ (c : Int) := by omega
  have i3 : ¬ (c : Int) ≤ 21 := by omega
  clear h h2
  go_enter Tryd.func64, Tryd.ntmps64
  go_wp2_with (go_at_call 96; refine (hown _).mono ?_)
  unfold StayIs
  rintro e w2 ⟨rfl, rfl⟩
  go_wp2
  go_ret2
  exact ⟨rfl, hb.out⟩
theorem xmssTree_any (c : Nat) (hc : c < 4294967296) (w : World) : Calls Tryd.prog 64 #[.int .u32 (c : Int)] w (OldIs (.tuple #[.int .u32 (xF c : Int), .int .u32 (xH c : Int)]) w) := by
  by_cases h : 1 ≤ c ∧ c ≤ 3
  · have : c = 1 ∨ c = 2 ∨ c = 3 := by omega
    rcases this with rfl | rfl | rfl
    · exact xmssTree_1 w
    · exact xmssTree_2 w
    · exact xmssTree_3 w
  by_cases h2 : 13 ≤ c ∧ c ≤ 21
  · have : c = 13 ∨ c = 14 ∨ c = 15 ∨ c = 16 ∨ c = 17 ∨ c = 18 ∨ c = 19 ∨ c = 20 ∨ c = 21 := by omega
    rcases this with rfl | rfl | rfl | rfl | rfl | rfl | rfl | rfl | rfl
    · exact xmssTree_13 w
    · exact xmssTree_14 w
    · exact xmssTree_15 w
    · exact xmssTree_16 w
    · exact xmssTree_17 w
    · exact xmssTree_18 w
    · exact xmssTree_19 w
    · exact xmssTree_20 w
    · exact xmssTree_21 w
  have e1 : xF c = ownF c xB := by unfold xF; rw [if_neg h, if_neg h2]
  have e2 : xH c = ownH c xB := by unfold xH; rw [if_neg h, if_neg h2]
  rw [e1, e2]
  exact xmssTree_own c hc h h2 w
def xC (c : Nat) : Int := if xH c = 0 then 0 else (c : Int)
def xSh (c : Nat) : Bool := if xH c = 0 then false else hS (xF c)
def xN (c : Nat) : Int := if xH c = 0 then 0 else hN (xF c)
def xL (c : Nat) : Int := if xH c = 0 then 0 else if hN (xF c) = 24 then 51 else 67
def xE (c : Nat) : Int := if xH c = 0 then 60 else 0
def xmsV (c : Nat) : Value := .agg #[.int .u32 (xC c), .bool (xSh c), .int .i64 (xN c), .int .i64 (xH c : Int), .int .i64 (xL c)]
theorem info_xms : (Tryd.prog.info? 54).map (·.size) = some 5 := by kernel_rfl
theorem oneCell5 {a : Int} {b : Bool} {c d e : Int} : ∀ u ∈ [Value.int .u32 a, .bool b, .int .i64 c, .int .i64 d, .int .i64 e], u.oneCell' = true := by
  intro u hu
  simp only [List.mem_cons, List.not_mem_nil, or_false] at hu
  rcases hu with rfl | rfl | rfl | rfl | rfl <;> rfl
theorem xmss_any (c : Nat) (hc : c < 4294967296) (w : World) : Calls Tryd.prog 20 #[.int .u32 (c : Int)] w (OldIs (.tuple #[xmsV c, .int .i64 (xE c)]) w) := by
  unfold OldIs xmsV
  obtain ⟨W, hW⟩ : ∃ W, W = w.alloc (.cells #[.int .u32 0, .bool false, .int .i64 0, .int .i64 0, .int .i64 0] 54) := ⟨_, rfl⟩
  have HW : Shh (Row W w.heap.size 54 [.int .u32 0, .bool false, .int .i64 0, .int .i64 0, .int .i64 0] ∧ Below w.heap.size w W) := ⟨by rw [hW]; exact Row.new_ rfl rfl, by rw [hW]; exact Below.alloc (Below.refl _ _) (Nat.le_refl _) _⟩
  rw [hW] at HW
  clear hW
  have hle := xH_le c
  have hht : ∀ W, Calls Tryd.prog 64 #[.int .u32 (c : Int)] W (OldIs (.tuple #[.int .u32 (xF c : Int), .int .u32 (xH c : Int)]) W) := fun W => xmssTree_any c hc W
  obtain ⟨h, hh⟩ : ∃ h, h = xH c := ⟨_, rfl⟩
  obtain ⟨f, hf⟩ : ∃ f, f = xF c := ⟨_, rfl⟩
  rw [← hh, ← hf] at hht
  by_cases h0 : h = 0
  · have e1 : xC c = 0 := by unfold xC; rw [if_pos (by omega)]
    have e2 : xSh c = false := by unfold xSh; rw [if_pos (by omega)]
    have e3 : xN c = 0 := by unfold xN; rw [if_pos (by omega)]
    have e4 : xE c = 60 := by unfold xE; rw [if_pos (by omega)]
    have e5 : xL c = 0 := by unfold xL; rw [if_pos (by omega)]
    rw [e1, e2, e3, e4, e5, ← hh]
    subst h0
    clear hh hf e1 e2 e3 e4 e5
    go_enter Tryd.func20, Tryd.ntmps20
    go_wp2_with (go_at_call 64; refine (hht _).mono ?_)
    unfold OldIs
    rintro e w2 ⟨rfl, bV⟩
    have HV : Shh (Row w2 w.heap.size 54 [.int .u32 0, .bool false, .int .i64 0, .int .i64 0, .int .i64 0] ∧ Below w.heap.size w w2) := ⟨HW.out.1.go bV, Below.chain HW.out.2 bV⟩
    clear HW bV hht
    go_wp2_with (refine wpList_store_any rfl 54 (.tmp 2) (.tmp 16) rfl w.heap.size rfl [.int .u32 0, .bool false, .int .i64 0, .int .i64 0, .int .i64 0] rfl 54 _ HV.out.1 info_xms rfl oneCell5 ?_)
    intro Z hr bt _
    have F : Shh (Row Z w.heap.size 54 [.int .u32 0, .bool false, .int .i64 0, .int .i64 0, .int .i64 0] ∧ Below w.heap.size w Z) := ⟨hr, HV.out.2.trans (bt.under HV.out.2.size (Nat.le_refl _))⟩
    clear hr bt HV
    go_wp2
    exact ret_rs Tryd.results20 rfl rfl rfl F.out.1 Tryd.underlying54 rfl info_xms ⟨rfl, F.out.2⟩
  by_cases hk : hN f = 24
  · skip
    have e1 : xC c = (c : Int) := by unfold xC; rw [if_neg (by omega)]
    have e2 : xSh c = hS f := by unfold xSh; rw [if_neg (by omega), hf]
    have e3 : xN c = hN f := by unfold xN; rw [if_neg (by omega), hf]
    have e4 : xE c = 0 := by unfold xE; rw [if_neg (by omega)]
    have e5 : xL c = 51 := by unfold xL; rw [if_neg (by omega), ← hf, if_pos hk]
    rw [e1, e2, e3, e4, e5, ← hh]
    have hz : ¬ (h : Int) = 0 := by omega
    have hhw : IntKind.i64.wrap (h : Int) = (h : Int) := by rw [IntKind.wrap_i64]; omega
    clear hh hf e1 e2 e3 e4 e5
    obtain ⟨nn, hnn⟩ : ∃ nn, nn = hN f := ⟨_, rfl⟩
    have hhash : ∀ W, Calls Tryd.prog 61 #[.int .u32 (f : Int)] W (StayIs (.tuple #[.bool (hS f), .int .i64 nn]) W) := fun W => by rw [hnn]; exact hashOf_any f W
    rw [← hnn] at hk ⊢
    clear hnn
    subst hk
    go_enter Tryd.func20, Tryd.ntmps20
    go_wp2_with (go_at_call 64; refine (hht _).mono ?_)
    unfold OldIs
    rintro e w2 ⟨rfl, bV⟩
    have HV : Shh (Row w2 w.heap.size 54 [.int .u32 0, .bool false, .int .i64 0, .int .i64 0, .int .i64 0] ∧ Below w.heap.size w w2) := ⟨HW.out.1.go bV, Below.chain HW.out.2 bV⟩
    clear HW bV hht
    go_wp2_with (go_at_call 61; refine (hhash _).mono ?_)
    unfold StayIs
    rintro e w3 ⟨rfl, rfl⟩
    go_wp2_with (refine wpList_store_any rfl 54 (.tmp 2) (.tmp 30) rfl w.heap.size rfl [.int .u32 (c : Int), .bool (hS f), .int .i64 24, .int .i64 (h : Int), .int .i64 51] rfl 54 _ HV.out.1 info_xms rfl oneCell5 ?_)
    intro Z hr bt _
    have F : Shh (Row Z w.heap.size 54 [.int .u32 (c : Int), .bool (hS f), .int .i64 24, .int .i64 (h : Int), .int .i64 51] ∧ Below w.heap.size w Z) := ⟨hr, HV.out.2.trans (bt.under HV.out.2.size (Nat.le_refl _))⟩
    clear hr bt HV
    go_wp2
    exact ret_rs Tryd.results20 rfl rfl rfl F.out.1 Tryd.underlying54 rfl info_xms ⟨rfl, F.out.2⟩
  · skip
    have e1 : xC c = (c : Int) := by unfold xC; rw [if_neg (by omega)]
    have e2 : xSh c = hS f := by unfold xSh; rw [if_neg (by omega), hf]
    have e3 : xN c = hN f := by unfold xN; rw [if_neg (by omega), hf]
    have e4 : xE c = 0 := by unfold xE; rw [if_neg (by omega)]
    have e5 : xL c = 67 := by unfold xL; rw [if_neg (by omega), ← hf, if_neg hk]
    rw [e1, e2, e3, e4, e5, ← hh]
    have hz : ¬ (h : Int) = 0 := by omega
    have hhw : IntKind.i64.wrap (h : Int) = (h : Int) := by rw [IntKind.wrap_i64]; omega
    clear hh hf e1 e2 e3 e4 e5
    obtain ⟨nn, hnn⟩ : ∃ nn, nn = hN f := ⟨_, rfl⟩
    have hhash : ∀ W, Calls Tryd.prog 61 #[.int .u32 (f : Int)] W (StayIs (.tuple #[.bool (hS f), .int .i64 nn]) W) := fun W => by rw [hnn]; exact hashOf_any f W
    rw [← hnn] at hk ⊢
    clear hnn
    go_enter Tryd.func20, Tryd.ntmps20
    go_wp2_with (go_at_call 64; refine (hht _).mono ?_)
    unfold OldIs
    rintro e w2 ⟨rfl, bV⟩
    have HV : Shh (Row w2 w.heap.size 54 [.int .u32 0, .bool false, .int .i64 0, .int .i64 0, .int .i64 0] ∧ Below w.heap.size w w2) := ⟨HW.out.1.go bV, Below.chain HW.out.2 bV⟩
    clear HW bV hht
    go_wp2_with (go_at_call 61; refine (hhash _).mono ?_)
    unfold StayIs
    rintro e w3 ⟨rfl, rfl⟩
    go_wp2_with (refine wpList_store_any rfl 54 (.tmp 2) (.tmp 30) rfl w.heap.size rfl [.int .u32 (c : Int), .bool (hS f), .int .i64 nn, .int .i64 (h : Int), .int .i64 67] rfl 54 _ HV.out.1 info_xms rfl oneCell5 ?_)
    intro Z hr bt _
    have F : Shh (Row Z w.heap.size 54 [.int .u32 (c : Int), .bool (hS f), .int .i64 nn, .int .i64 (h : Int), .int .i64 67] ∧ Below w.heap.size w Z) := ⟨hr, HV.out.2.trans (bt.under HV.out.2.size (Nat.le_refl _))⟩
    clear hr bt HV
    go_wp2
    exact ret_rs Tryd.results20 rfl rfl rfl F.out.1 Tryd.underlying54 rfl info_xms ⟨rfl, F.out.2⟩
end Go.Proofs.YtanpplniedphkaaDoor
