/-
  WALK: ParamRoom: at every code.
-/
import Derived.Test.YtanpplniedphkaaDoorPb5
namespace Go.Proofs.YtanpplniedphkaaDoor
open Go.RowKit
set_option maxRecDepth 100000
set_option maxHeartbeats 1000000 in
theorem room_0 (c : Int) (s : Bool) (w : World) (hset : ∀ W, Calls Tryd.prog 18 #[.int .u32 c] W (OldIs (.tuple #[.agg #[.int .u32 c, .bool s, .int .i64 32, .int .i64 1, .int .i64 265, .int .i64 7], .int .i64 0]) W)) :
    Calls Tryd.prog 8 #[.int .u32 c] w (TrueIs w) := by
  unfold TrueIs
  go_enter Tryd.func8, Tryd.ntmps8
  go_wp2_with (go_at_call 18; refine (hset _).mono ?_)
  unfold OldIs
  rintro e w2 ⟨rfl, b2⟩
  obtain ⟨G, hG⟩ : ∃ G, Shh (G = w2.heap.size) := ⟨_, ⟨rfl⟩⟩
  go_wp2_with (first | refine wpList_store_any rfl 46 (.tmp 3) (.tmp 11) rfl G (by rw [hG.out]; rfl) [.int .u32 c, .bool s, .int .i64 32, .int .i64 1, .int .i64 265, .int .i64 7] rfl 46 _ (Row.new_ hG.out rfl) info_ots rfl oneCell6 ?_)
  intro Z hr bt _
  have F0 : Shh (Row Z G 46 [.int .u32 c, .bool s, .int .i64 32, .int .i64 1, .int .i64 265, .int .i64 7] ∧ Below w.heap.size w Z) := ⟨hr, Below.chain b2 ((Below.alloc (Below.refl _ _) (Nat.le_refl _) _).trans (bt.under (by have := hG.out; first | omega | (simp only [asz]; omega)) (by have := hG.out; omega)))⟩
  rw [← hG.out]
  clear hr bt b2 hG hset
  have c2 : Z.cell? ⟨G, 2, none⟩ = some (.int .i64 32) := F0.out.1.cell 2
  have c3 : Z.cell? ⟨G, 3, none⟩ = some (.int .i64 1) := F0.out.1.cell 3
  have c5 : Z.cell? ⟨G, 5, none⟩ = some (.int .i64 7) := F0.out.1.cell 5
  go_wp2
  refine wp_region_held_drew (S := fun w' => Row w' G 46 [.int .u32 c, .bool s, .int .i64 32, .int .i64 1, .int .i64 265, .int .i64 7]) (by kernel_rfl) F0.out.1.drew (fun hS => ?_)
  clear hS c2 c3 c5
  generalize hV : World.drew _ = V
  have rW : Row V G 46 [.int .u32 c, .bool s, .int .i64 32, .int .i64 1, .int .i64 265, .int .i64 7] := by rw [← hV]; exact F0.out.1.drew
  have F : Shh (Below w.heap.size w V) := ⟨by rw [← hV]; exact F0.out.2.drew⟩
  clear hV F0
  refine held_value 0 _ _ (some 55) (.pointer (some ⟨G, 3, none⟩)) (by kernel_rfl) (by rfl) (by kernel_rfl) (fun u hS => by first | kernel_rfl | go_simp) (fun _ _ _ _ h => h) (rW) ?_
  simp only [Act.put, List.setIfInBounds_toArray, List.set_cons_zero, List.set_cons_succ]
  refine held_value 1 _ _ (some 56) (.int .i64 1) (by kernel_rfl) (by rfl) (by kernel_rfl) (fun u hS => by have h2 : u.cell? ⟨G, 3, none⟩ = some (.int .i64 1) := hS.cell 3; go_simp) (fun _ _ _ _ h => h) (rW) ?_
  simp only [Act.put, List.setIfInBounds_toArray, List.set_cons_zero, List.set_cons_succ]
  refine held_value 2 _ _ (some 57) (.int .i64 2) (by kernel_rfl) (by rfl) (by kernel_rfl) (fun u hS => by kernel_rfl) (fun _ _ _ _ h => h) (rW) ?_
  simp only [Act.put, List.setIfInBounds_toArray, List.set_cons_zero, List.set_cons_succ]
  refine held_value 3 _ _ (some 58) (.int .i64 1) (by kernel_rfl) (by rfl) (by kernel_rfl) (fun u hS => by kernel_rfl) (fun _ _ _ _ h => h) (rW) ?_
  simp only [Act.put, List.setIfInBounds_toArray, List.set_cons_zero, List.set_cons_succ]
  refine held_value 4 _ _ (some 59) (.int .i64 256) (by kernel_rfl) (by rfl) (by kernel_rfl) (fun u hS => by first | kernel_rfl | go_simp) (fun _ _ _ _ h => h) (rW) ?_
  simp only [Act.put, List.setIfInBounds_toArray, List.set_cons_zero, List.set_cons_succ]
  refine held_value 5 _ _ (some 60) (.int .i64 256) (by kernel_rfl) (by rfl) (by kernel_rfl) (fun u hS => by kernel_rfl) (fun _ _ _ _ h => h) (rW) ?_
  simp only [Act.put, List.setIfInBounds_toArray, List.set_cons_zero, List.set_cons_succ]
  refine held_value 6 _ _ (some 61) (.pointer (some ⟨G, 5, none⟩)) (by kernel_rfl) (by rfl) (by kernel_rfl) (fun u hS => by first | kernel_rfl | go_simp) (fun _ _ _ _ h => h) (rW) ?_
  simp only [Act.put, List.setIfInBounds_toArray, List.set_cons_zero, List.set_cons_succ]
  refine held_value 7 _ _ (some 62) (.int .i64 7) (by kernel_rfl) (by rfl) (by kernel_rfl) (fun u hS => by have h2 : u.cell? ⟨G, 5, none⟩ = some (.int .i64 7) := hS.cell 5; go_simp) (fun _ _ _ _ h => h) (rW) ?_
  simp only [Act.put, List.setIfInBounds_toArray, List.set_cons_zero, List.set_cons_succ]
  refine held_value 8 _ _ (some 63) (.int .i64 32768) (by kernel_rfl) (by rfl) (by kernel_rfl) (fun u hS => by kernel_rfl) (fun _ _ _ _ h => h) (rW) ?_
  simp only [Act.put, List.setIfInBounds_toArray, List.set_cons_zero, List.set_cons_succ]
  refine held_value 9 _ _ (some 6) (.int .i64 32768) (by kernel_rfl) (by rfl) (by kernel_rfl) (fun u hS => by first | kernel_rfl | go_simp) (fun _ _ _ _ h => h) (rW) ?_
  simp only [Act.put, List.setIfInBounds_toArray, List.set_cons_zero, List.set_cons_succ]
  refine wpAnyH_done (by kernel_rfl) ?_ _
  have c4 : V.cell? ⟨G, 4, none⟩ = some (.int .i64 265) := rW.cell 4
  have hP : Shh (Row V G 46 [.int .u32 c, .bool s, .int .i64 32, .int .i64 1, .int .i64 265, .int .i64 7]) := ⟨rW⟩
  clear rW
  go_wp2
  refine wp_region_held_drew (S := fun w' => Row w' G 46 [.int .u32 c, .bool s, .int .i64 32, .int .i64 1, .int .i64 265, .int .i64 7]) (by kernel_rfl) hP.out.drew (fun hS => ?_)
  clear hS c4
  generalize hU : World.drew _ = U
  have rU : Row U G 46 [.int .u32 c, .bool s, .int .i64 32, .int .i64 1, .int .i64 265, .int .i64 7] := by rw [← hU]; exact hP.out.drew
  have F2 : Shh (Below w.heap.size w U) := ⟨by rw [← hU]; exact F.out.drew⟩
  clear hU hP F
  refine held_value 0 _ _ (some 68) (.int .i64 32768) (by kernel_rfl) (by rfl) (by kernel_rfl) (fun u hS => by first | kernel_rfl | go_simp) (fun _ _ _ _ h => h) (rU) ?_
  simp only [Act.put, List.setIfInBounds_toArray, List.set_cons_zero, List.set_cons_succ]
  refine held_value 1 _ _ (some 69) (.bool true) (by kernel_rfl) (by rfl) (by kernel_rfl) (fun u hS => by kernel_rfl) (fun _ _ _ _ h => h) (rU) ?_
  simp only [Act.put, List.setIfInBounds_toArray, List.set_cons_zero, List.set_cons_succ]
  refine held_value 2 _ _ (some 70) (.bool true) (by kernel_rfl) (by rfl) (by kernel_rfl) (fun u hS => by first | kernel_rfl | go_simp) (fun _ _ _ _ h => h) (rU) ?_
  simp only [Act.put, List.setIfInBounds_toArray, List.set_cons_zero, List.set_cons_succ]
  refine held_value 3 _ _ (some 71) (.int .i64 9) (by kernel_rfl) (by rfl) (by kernel_rfl) (fun u hS => by first | kernel_rfl | go_simp) (fun _ _ _ _ h => h) (rU) ?_
  simp only [Act.put, List.setIfInBounds_toArray, List.set_cons_zero, List.set_cons_succ]
  refine held_value 4 _ _ (some 72) (.bool true) (by kernel_rfl) (by rfl) (by kernel_rfl) (fun u hS => by kernel_rfl) (fun _ _ _ _ h => h) (rU) ?_
  simp only [Act.put, List.setIfInBounds_toArray, List.set_cons_zero, List.set_cons_succ]
  refine held_value 5 _ _ (some 73) (.bool true) (by kernel_rfl) (by rfl) (by kernel_rfl) (fun u hS => by kernel_rfl) (fun _ _ _ _ h => h) (rU) ?_
  simp only [Act.put, List.setIfInBounds_toArray, List.set_cons_zero, List.set_cons_succ]
  refine held_value 6 _ _ (some 74) (.bool true) (by kernel_rfl) (by rfl) (by kernel_rfl) (fun u hS => by first | kernel_rfl | go_simp) (fun _ _ _ _ h => h) (rU) ?_
  simp only [Act.put, List.setIfInBounds_toArray, List.set_cons_zero, List.set_cons_succ]
  refine held_value 7 _ _ (some 75) (.int .i64 9) (by kernel_rfl) (by rfl) (by kernel_rfl) (fun u hS => by first | kernel_rfl | go_simp) (fun _ _ _ _ h => h) (rU) ?_
  simp only [Act.put, List.setIfInBounds_toArray, List.set_cons_zero, List.set_cons_succ]
  refine held_value 8 _ _ (some 76) (.pointer (some ⟨G, 3, none⟩)) (by kernel_rfl) (by rfl) (by kernel_rfl) (fun u hS => by first | kernel_rfl | go_simp) (fun _ _ _ _ h => h) (rU) ?_
  simp only [Act.put, List.setIfInBounds_toArray, List.set_cons_zero, List.set_cons_succ]
  refine held_value 9 _ _ (some 77) (.int .i64 1) (by kernel_rfl) (by rfl) (by kernel_rfl) (fun u hS => by have h2 : u.cell? ⟨G, 3, none⟩ = some (.int .i64 1) := hS.cell 3; go_simp) (fun _ _ _ _ h => h) (rU) ?_
  simp only [Act.put, List.setIfInBounds_toArray, List.set_cons_zero, List.set_cons_succ]
  refine held_value 10 _ _ (some 78) (.int .i64 9) (by kernel_rfl) (by rfl) (by kernel_rfl) (fun u hS => by kernel_rfl) (fun _ _ _ _ h => h) (rU) ?_
  simp only [Act.put, List.setIfInBounds_toArray, List.set_cons_zero, List.set_cons_succ]
  refine held_value 11 _ _ (some 79) (.pointer (some ⟨G, 5, none⟩)) (by kernel_rfl) (by rfl) (by kernel_rfl) (fun u hS => by first | kernel_rfl | go_simp) (fun _ _ _ _ h => h) (rU) ?_
  simp only [Act.put, List.setIfInBounds_toArray, List.set_cons_zero, List.set_cons_succ]
  refine held_value 12 _ _ (some 80) (.int .i64 7) (by kernel_rfl) (by rfl) (by kernel_rfl) (fun u hS => by have h2 : u.cell? ⟨G, 5, none⟩ = some (.int .i64 7) := hS.cell 5; go_simp) (fun _ _ _ _ h => h) (rU) ?_
  simp only [Act.put, List.setIfInBounds_toArray, List.set_cons_zero, List.set_cons_succ]
  refine held_value 13 _ _ (some 81) (.int .i64 16) (by kernel_rfl) (by rfl) (by kernel_rfl) (fun u hS => by kernel_rfl) (fun _ _ _ _ h => h) (rU) ?_
  simp only [Act.put, List.setIfInBounds_toArray, List.set_cons_zero, List.set_cons_succ]
  refine held_value 14 _ _ (some 82) (.bool true) (by kernel_rfl) (by rfl) (by kernel_rfl) (fun u hS => by kernel_rfl) (fun _ _ _ _ h => h) (rU) ?_
  simp only [Act.put, List.setIfInBounds_toArray, List.set_cons_zero, List.set_cons_succ]
  refine held_value 15 _ _ (some 83) (.bool true) (by kernel_rfl) (by rfl) (by kernel_rfl) (fun u hS => by kernel_rfl) (fun _ _ _ _ h => h) (rU) ?_
  simp only [Act.put, List.setIfInBounds_toArray, List.set_cons_zero, List.set_cons_succ]
  refine held_value 16 _ _ (some 84) (.bool true) (by kernel_rfl) (by rfl) (by kernel_rfl) (fun u hS => by first | kernel_rfl | go_simp) (fun _ _ _ _ h => h) (rU) ?_
  simp only [Act.put, List.setIfInBounds_toArray, List.set_cons_zero, List.set_cons_succ]
  refine held_value 17 _ _ (some 85) (.pointer (some ⟨G, 3, none⟩)) (by kernel_rfl) (by rfl) (by kernel_rfl) (fun u hS => by first | kernel_rfl | go_simp) (fun _ _ _ _ h => h) (rU) ?_
  simp only [Act.put, List.setIfInBounds_toArray, List.set_cons_zero, List.set_cons_succ]
  refine held_value 18 _ _ (some 86) (.int .i64 1) (by kernel_rfl) (by rfl) (by kernel_rfl) (fun u hS => by have h2 : u.cell? ⟨G, 3, none⟩ = some (.int .i64 1) := hS.cell 3; go_simp) (fun _ _ _ _ h => h) (rU) ?_
  simp only [Act.put, List.setIfInBounds_toArray, List.set_cons_zero, List.set_cons_succ]
  refine held_value 19 _ _ (some 87) (.int .i64 2) (by kernel_rfl) (by rfl) (by kernel_rfl) (fun u hS => by kernel_rfl) (fun _ _ _ _ h => h) (rU) ?_
  simp only [Act.put, List.setIfInBounds_toArray, List.set_cons_zero, List.set_cons_succ]
  refine held_value 20 _ _ (some 88) (.int .i64 1) (by kernel_rfl) (by rfl) (by kernel_rfl) (fun u hS => by kernel_rfl) (fun _ _ _ _ h => h) (rU) ?_
  simp only [Act.put, List.setIfInBounds_toArray, List.set_cons_zero, List.set_cons_succ]
  refine held_value 21 _ _ (some 89) (.int .i64 256) (by kernel_rfl) (by rfl) (by kernel_rfl) (fun u hS => by first | kernel_rfl | go_simp) (fun _ _ _ _ h => h) (rU) ?_
  simp only [Act.put, List.setIfInBounds_toArray, List.set_cons_zero, List.set_cons_succ]
  refine held_value 22 _ _ (some 90) (.int .i64 256) (by kernel_rfl) (by rfl) (by kernel_rfl) (fun u hS => by kernel_rfl) (fun _ _ _ _ h => h) (rU) ?_
  simp only [Act.put, List.setIfInBounds_toArray, List.set_cons_zero, List.set_cons_succ]
  refine held_value 23 _ _ (some 91) (.int .i64 9) (by kernel_rfl) (by rfl) (by kernel_rfl) (fun u hS => by first | kernel_rfl | go_simp) (fun _ _ _ _ h => h) (rU) ?_
  simp only [Act.put, List.setIfInBounds_toArray, List.set_cons_zero, List.set_cons_succ]
  refine held_value 24 _ _ (some 92) (.int .i64 8) (by kernel_rfl) (by rfl) (by kernel_rfl) (fun u hS => by kernel_rfl) (fun _ _ _ _ h => h) (rU) ?_
  simp only [Act.put, List.setIfInBounds_toArray, List.set_cons_zero, List.set_cons_succ]
  refine held_value 25 _ _ (some 93) (.pointer (some ⟨G, 3, none⟩)) (by kernel_rfl) (by rfl) (by kernel_rfl) (fun u hS => by first | kernel_rfl | go_simp) (fun _ _ _ _ h => h) (rU) ?_
  simp only [Act.put, List.setIfInBounds_toArray, List.set_cons_zero, List.set_cons_succ]
  refine held_value 26 _ _ (some 94) (.int .i64 1) (by kernel_rfl) (by rfl) (by kernel_rfl) (fun u hS => by have h2 : u.cell? ⟨G, 3, none⟩ = some (.int .i64 1) := hS.cell 3; go_simp) (fun _ _ _ _ h => h) (rU) ?_
  simp only [Act.put, List.setIfInBounds_toArray, List.set_cons_zero, List.set_cons_succ]
  refine held_value 27 _ _ (some 95) (.int .i64 8) (by kernel_rfl) (by rfl) (by kernel_rfl) (fun u hS => by kernel_rfl) (fun _ _ _ _ h => h) (rU) ?_
  simp only [Act.put, List.setIfInBounds_toArray, List.set_cons_zero, List.set_cons_succ]
  refine held_value 28 _ _ (some 96) (.int .i64 256) (by kernel_rfl) (by rfl) (by kernel_rfl) (fun u hS => by kernel_rfl) (fun _ _ _ _ h => h) (rU) ?_
  simp only [Act.put, List.setIfInBounds_toArray, List.set_cons_zero, List.set_cons_succ]
  refine held_value 29 _ _ (some 97) (.bool true) (by kernel_rfl) (by rfl) (by kernel_rfl) (fun u hS => by kernel_rfl) (fun _ _ _ _ h => h) (rU) ?_
  simp only [Act.put, List.setIfInBounds_toArray, List.set_cons_zero, List.set_cons_succ]
  refine held_value 30 _ _ (some 98) (.bool true) (by kernel_rfl) (by rfl) (by kernel_rfl) (fun u hS => by kernel_rfl) (fun _ _ _ _ h => h) (rU) ?_
  simp only [Act.put, List.setIfInBounds_toArray, List.set_cons_zero, List.set_cons_succ]
  refine held_value 31 _ _ (some 2) (.bool true) (by kernel_rfl) (by rfl) (by kernel_rfl) (fun u hS => by first | kernel_rfl | go_simp) (fun _ _ _ _ h => h) (rU) ?_
  simp only [Act.put, List.setIfInBounds_toArray, List.set_cons_zero, List.set_cons_succ]
  refine wpAnyH_done (by kernel_rfl) ?_ _
  go_wp2
  go_ret
  exact ⟨rfl, F2.out⟩
set_option maxHeartbeats 1000000 in
theorem room_1 (c : Int) (s : Bool) (w : World) (hset : ∀ W, Calls Tryd.prog 18 #[.int .u32 c] W (OldIs (.tuple #[.agg #[.int .u32 c, .bool s, .int .i64 32, .int .i64 2, .int .i64 133, .int .i64 6], .int .i64 0]) W)) :
    Calls Tryd.prog 8 #[.int .u32 c] w (TrueIs w) := by
  unfold TrueIs
  go_enter Tryd.func8, Tryd.ntmps8
  go_wp2_with (go_at_call 18; refine (hset _).mono ?_)
  unfold OldIs
  rintro e w2 ⟨rfl, b2⟩
  obtain ⟨G, hG⟩ : ∃ G, Shh (G = w2.heap.size) := ⟨_, ⟨rfl⟩⟩
  go_wp2_with (first | refine wpList_store_any rfl 46 (.tmp 3) (.tmp 11) rfl G (by rw [hG.out]; rfl) [.int .u32 c, .bool s, .int .i64 32, .int .i64 2, .int .i64 133, .int .i64 6] rfl 46 _ (Row.new_ hG.out rfl) info_ots rfl oneCell6 ?_)
  intro Z hr bt _
  have F0 : Shh (Row Z G 46 [.int .u32 c, .bool s, .int .i64 32, .int .i64 2, .int .i64 133, .int .i64 6] ∧ Below w.heap.size w Z) := ⟨hr, Below.chain b2 ((Below.alloc (Below.refl _ _) (Nat.le_refl _) _).trans (bt.under (by have := hG.out; first | omega | (simp only [asz]; omega)) (by have := hG.out; omega)))⟩
  rw [← hG.out]
  clear hr bt b2 hG hset
  have c2 : Z.cell? ⟨G, 2, none⟩ = some (.int .i64 32) := F0.out.1.cell 2
  have c3 : Z.cell? ⟨G, 3, none⟩ = some (.int .i64 2) := F0.out.1.cell 3
  have c5 : Z.cell? ⟨G, 5, none⟩ = some (.int .i64 6) := F0.out.1.cell 5
  go_wp2
  refine wp_region_held_drew (S := fun w' => Row w' G 46 [.int .u32 c, .bool s, .int .i64 32, .int .i64 2, .int .i64 133, .int .i64 6]) (by kernel_rfl) F0.out.1.drew (fun hS => ?_)
  clear hS c2 c3 c5
  generalize hV : World.drew _ = V
  have rW : Row V G 46 [.int .u32 c, .bool s, .int .i64 32, .int .i64 2, .int .i64 133, .int .i64 6] := by rw [← hV]; exact F0.out.1.drew
  have F : Shh (Below w.heap.size w V) := ⟨by rw [← hV]; exact F0.out.2.drew⟩
  clear hV F0
  refine held_value 0 _ _ (some 55) (.pointer (some ⟨G, 3, none⟩)) (by kernel_rfl) (by rfl) (by kernel_rfl) (fun u hS => by first | kernel_rfl | go_simp) (fun _ _ _ _ h => h) (rW) ?_
  simp only [Act.put, List.setIfInBounds_toArray, List.set_cons_zero, List.set_cons_succ]
  refine held_value 1 _ _ (some 56) (.int .i64 2) (by kernel_rfl) (by rfl) (by kernel_rfl) (fun u hS => by have h2 : u.cell? ⟨G, 3, none⟩ = some (.int .i64 2) := hS.cell 3; go_simp) (fun _ _ _ _ h => h) (rW) ?_
  simp only [Act.put, List.setIfInBounds_toArray, List.set_cons_zero, List.set_cons_succ]
  refine held_value 2 _ _ (some 57) (.int .i64 4) (by kernel_rfl) (by rfl) (by kernel_rfl) (fun u hS => by kernel_rfl) (fun _ _ _ _ h => h) (rW) ?_
  simp only [Act.put, List.setIfInBounds_toArray, List.set_cons_zero, List.set_cons_succ]
  refine held_value 3 _ _ (some 58) (.int .i64 3) (by kernel_rfl) (by rfl) (by kernel_rfl) (fun u hS => by kernel_rfl) (fun _ _ _ _ h => h) (rW) ?_
  simp only [Act.put, List.setIfInBounds_toArray, List.set_cons_zero, List.set_cons_succ]
  refine held_value 4 _ _ (some 59) (.int .i64 128) (by kernel_rfl) (by rfl) (by kernel_rfl) (fun u hS => by first | kernel_rfl | go_simp) (fun _ _ _ _ h => h) (rW) ?_
  simp only [Act.put, List.setIfInBounds_toArray, List.set_cons_zero, List.set_cons_succ]
  refine held_value 5 _ _ (some 60) (.int .i64 384) (by kernel_rfl) (by rfl) (by kernel_rfl) (fun u hS => by kernel_rfl) (fun _ _ _ _ h => h) (rW) ?_
  simp only [Act.put, List.setIfInBounds_toArray, List.set_cons_zero, List.set_cons_succ]
  refine held_value 6 _ _ (some 61) (.pointer (some ⟨G, 5, none⟩)) (by kernel_rfl) (by rfl) (by kernel_rfl) (fun u hS => by first | kernel_rfl | go_simp) (fun _ _ _ _ h => h) (rW) ?_
  simp only [Act.put, List.setIfInBounds_toArray, List.set_cons_zero, List.set_cons_succ]
  refine held_value 7 _ _ (some 62) (.int .i64 6) (by kernel_rfl) (by rfl) (by kernel_rfl) (fun u hS => by have h2 : u.cell? ⟨G, 5, none⟩ = some (.int .i64 6) := hS.cell 5; go_simp) (fun _ _ _ _ h => h) (rW) ?_
  simp only [Act.put, List.setIfInBounds_toArray, List.set_cons_zero, List.set_cons_succ]
  refine held_value 8 _ _ (some 63) (.int .i64 24576) (by kernel_rfl) (by rfl) (by kernel_rfl) (fun u hS => by kernel_rfl) (fun _ _ _ _ h => h) (rW) ?_
  simp only [Act.put, List.setIfInBounds_toArray, List.set_cons_zero, List.set_cons_succ]
  refine held_value 9 _ _ (some 6) (.int .i64 24576) (by kernel_rfl) (by rfl) (by kernel_rfl) (fun u hS => by first | kernel_rfl | go_simp) (fun _ _ _ _ h => h) (rW) ?_
  simp only [Act.put, List.setIfInBounds_toArray, List.set_cons_zero, List.set_cons_succ]
  refine wpAnyH_done (by kernel_rfl) ?_ _
  have c4 : V.cell? ⟨G, 4, none⟩ = some (.int .i64 133) := rW.cell 4
  have hP : Shh (Row V G 46 [.int .u32 c, .bool s, .int .i64 32, .int .i64 2, .int .i64 133, .int .i64 6]) := ⟨rW⟩
  clear rW
  go_wp2
  refine wp_region_held_drew (S := fun w' => Row w' G 46 [.int .u32 c, .bool s, .int .i64 32, .int .i64 2, .int .i64 133, .int .i64 6]) (by kernel_rfl) hP.out.drew (fun hS => ?_)
  clear hS c4
  generalize hU : World.drew _ = U
  have rU : Row U G 46 [.int .u32 c, .bool s, .int .i64 32, .int .i64 2, .int .i64 133, .int .i64 6] := by rw [← hU]; exact hP.out.drew
  have F2 : Shh (Below w.heap.size w U) := ⟨by rw [← hU]; exact F.out.drew⟩
  clear hU hP F
  refine held_value 0 _ _ (some 68) (.int .i64 24576) (by kernel_rfl) (by rfl) (by kernel_rfl) (fun u hS => by first | kernel_rfl | go_simp) (fun _ _ _ _ h => h) (rU) ?_
  simp only [Act.put, List.setIfInBounds_toArray, List.set_cons_zero, List.set_cons_succ]
  refine held_value 1 _ _ (some 69) (.bool true) (by kernel_rfl) (by rfl) (by kernel_rfl) (fun u hS => by kernel_rfl) (fun _ _ _ _ h => h) (rU) ?_
  simp only [Act.put, List.setIfInBounds_toArray, List.set_cons_zero, List.set_cons_succ]
  refine held_value 2 _ _ (some 70) (.bool true) (by kernel_rfl) (by rfl) (by kernel_rfl) (fun u hS => by first | kernel_rfl | go_simp) (fun _ _ _ _ h => h) (rU) ?_
  simp only [Act.put, List.setIfInBounds_toArray, List.set_cons_zero, List.set_cons_succ]
  refine held_value 3 _ _ (some 71) (.int .i64 5) (by kernel_rfl) (by rfl) (by kernel_rfl) (fun u hS => by first | kernel_rfl | go_simp) (fun _ _ _ _ h => h) (rU) ?_
  simp only [Act.put, List.setIfInBounds_toArray, List.set_cons_zero, List.set_cons_succ]
  refine held_value 4 _ _ (some 72) (.bool true) (by kernel_rfl) (by rfl) (by kernel_rfl) (fun u hS => by kernel_rfl) (fun _ _ _ _ h => h) (rU) ?_
  simp only [Act.put, List.setIfInBounds_toArray, List.set_cons_zero, List.set_cons_succ]
  refine held_value 5 _ _ (some 73) (.bool true) (by kernel_rfl) (by rfl) (by kernel_rfl) (fun u hS => by kernel_rfl) (fun _ _ _ _ h => h) (rU) ?_
  simp only [Act.put, List.setIfInBounds_toArray, List.set_cons_zero, List.set_cons_succ]
  refine held_value 6 _ _ (some 74) (.bool true) (by kernel_rfl) (by rfl) (by kernel_rfl) (fun u hS => by first | kernel_rfl | go_simp) (fun _ _ _ _ h => h) (rU) ?_
  simp only [Act.put, List.setIfInBounds_toArray, List.set_cons_zero, List.set_cons_succ]
  refine held_value 7 _ _ (some 75) (.int .i64 5) (by kernel_rfl) (by rfl) (by kernel_rfl) (fun u hS => by first | kernel_rfl | go_simp) (fun _ _ _ _ h => h) (rU) ?_
  simp only [Act.put, List.setIfInBounds_toArray, List.set_cons_zero, List.set_cons_succ]
  refine held_value 8 _ _ (some 76) (.pointer (some ⟨G, 3, none⟩)) (by kernel_rfl) (by rfl) (by kernel_rfl) (fun u hS => by first | kernel_rfl | go_simp) (fun _ _ _ _ h => h) (rU) ?_
  simp only [Act.put, List.setIfInBounds_toArray, List.set_cons_zero, List.set_cons_succ]
  refine held_value 9 _ _ (some 77) (.int .i64 2) (by kernel_rfl) (by rfl) (by kernel_rfl) (fun u hS => by have h2 : u.cell? ⟨G, 3, none⟩ = some (.int .i64 2) := hS.cell 3; go_simp) (fun _ _ _ _ h => h) (rU) ?_
  simp only [Act.put, List.setIfInBounds_toArray, List.set_cons_zero, List.set_cons_succ]
  refine held_value 10 _ _ (some 78) (.int .i64 10) (by kernel_rfl) (by rfl) (by kernel_rfl) (fun u hS => by kernel_rfl) (fun _ _ _ _ h => h) (rU) ?_
  simp only [Act.put, List.setIfInBounds_toArray, List.set_cons_zero, List.set_cons_succ]
  refine held_value 11 _ _ (some 79) (.pointer (some ⟨G, 5, none⟩)) (by kernel_rfl) (by rfl) (by kernel_rfl) (fun u hS => by first | kernel_rfl | go_simp) (fun _ _ _ _ h => h) (rU) ?_
  simp only [Act.put, List.setIfInBounds_toArray, List.set_cons_zero, List.set_cons_succ]
  refine held_value 12 _ _ (some 80) (.int .i64 6) (by kernel_rfl) (by rfl) (by kernel_rfl) (fun u hS => by have h2 : u.cell? ⟨G, 5, none⟩ = some (.int .i64 6) := hS.cell 5; go_simp) (fun _ _ _ _ h => h) (rU) ?_
  simp only [Act.put, List.setIfInBounds_toArray, List.set_cons_zero, List.set_cons_succ]
  refine held_value 13 _ _ (some 81) (.int .i64 16) (by kernel_rfl) (by rfl) (by kernel_rfl) (fun u hS => by kernel_rfl) (fun _ _ _ _ h => h) (rU) ?_
  simp only [Act.put, List.setIfInBounds_toArray, List.set_cons_zero, List.set_cons_succ]
  refine held_value 14 _ _ (some 82) (.bool true) (by kernel_rfl) (by rfl) (by kernel_rfl) (fun u hS => by kernel_rfl) (fun _ _ _ _ h => h) (rU) ?_
  simp only [Act.put, List.setIfInBounds_toArray, List.set_cons_zero, List.set_cons_succ]
  refine held_value 15 _ _ (some 83) (.bool true) (by kernel_rfl) (by rfl) (by kernel_rfl) (fun u hS => by kernel_rfl) (fun _ _ _ _ h => h) (rU) ?_
  simp only [Act.put, List.setIfInBounds_toArray, List.set_cons_zero, List.set_cons_succ]
  refine held_value 16 _ _ (some 84) (.bool true) (by kernel_rfl) (by rfl) (by kernel_rfl) (fun u hS => by first | kernel_rfl | go_simp) (fun _ _ _ _ h => h) (rU) ?_
  simp only [Act.put, List.setIfInBounds_toArray, List.set_cons_zero, List.set_cons_succ]
  refine held_value 17 _ _ (some 85) (.pointer (some ⟨G, 3, none⟩)) (by kernel_rfl) (by rfl) (by kernel_rfl) (fun u hS => by first | kernel_rfl | go_simp) (fun _ _ _ _ h => h) (rU) ?_
  simp only [Act.put, List.setIfInBounds_toArray, List.set_cons_zero, List.set_cons_succ]
  refine held_value 18 _ _ (some 86) (.int .i64 2) (by kernel_rfl) (by rfl) (by kernel_rfl) (fun u hS => by have h2 : u.cell? ⟨G, 3, none⟩ = some (.int .i64 2) := hS.cell 3; go_simp) (fun _ _ _ _ h => h) (rU) ?_
  simp only [Act.put, List.setIfInBounds_toArray, List.set_cons_zero, List.set_cons_succ]
  refine held_value 19 _ _ (some 87) (.int .i64 4) (by kernel_rfl) (by rfl) (by kernel_rfl) (fun u hS => by kernel_rfl) (fun _ _ _ _ h => h) (rU) ?_
  simp only [Act.put, List.setIfInBounds_toArray, List.set_cons_zero, List.set_cons_succ]
  refine held_value 20 _ _ (some 88) (.int .i64 3) (by kernel_rfl) (by rfl) (by kernel_rfl) (fun u hS => by kernel_rfl) (fun _ _ _ _ h => h) (rU) ?_
  simp only [Act.put, List.setIfInBounds_toArray, List.set_cons_zero, List.set_cons_succ]
  refine held_value 21 _ _ (some 89) (.int .i64 128) (by kernel_rfl) (by rfl) (by kernel_rfl) (fun u hS => by first | kernel_rfl | go_simp) (fun _ _ _ _ h => h) (rU) ?_
  simp only [Act.put, List.setIfInBounds_toArray, List.set_cons_zero, List.set_cons_succ]
  refine held_value 22 _ _ (some 90) (.int .i64 384) (by kernel_rfl) (by rfl) (by kernel_rfl) (fun u hS => by kernel_rfl) (fun _ _ _ _ h => h) (rU) ?_
  simp only [Act.put, List.setIfInBounds_toArray, List.set_cons_zero, List.set_cons_succ]
  refine held_value 23 _ _ (some 91) (.int .i64 5) (by kernel_rfl) (by rfl) (by kernel_rfl) (fun u hS => by first | kernel_rfl | go_simp) (fun _ _ _ _ h => h) (rU) ?_
  simp only [Act.put, List.setIfInBounds_toArray, List.set_cons_zero, List.set_cons_succ]
  refine held_value 24 _ _ (some 92) (.int .i64 4) (by kernel_rfl) (by rfl) (by kernel_rfl) (fun u hS => by kernel_rfl) (fun _ _ _ _ h => h) (rU) ?_
  simp only [Act.put, List.setIfInBounds_toArray, List.set_cons_zero, List.set_cons_succ]
  refine held_value 25 _ _ (some 93) (.pointer (some ⟨G, 3, none⟩)) (by kernel_rfl) (by rfl) (by kernel_rfl) (fun u hS => by first | kernel_rfl | go_simp) (fun _ _ _ _ h => h) (rU) ?_
  simp only [Act.put, List.setIfInBounds_toArray, List.set_cons_zero, List.set_cons_succ]
  refine held_value 26 _ _ (some 94) (.int .i64 2) (by kernel_rfl) (by rfl) (by kernel_rfl) (fun u hS => by have h2 : u.cell? ⟨G, 3, none⟩ = some (.int .i64 2) := hS.cell 3; go_simp) (fun _ _ _ _ h => h) (rU) ?_
  simp only [Act.put, List.setIfInBounds_toArray, List.set_cons_zero, List.set_cons_succ]
  refine held_value 27 _ _ (some 95) (.int .i64 8) (by kernel_rfl) (by rfl) (by kernel_rfl) (fun u hS => by kernel_rfl) (fun _ _ _ _ h => h) (rU) ?_
  simp only [Act.put, List.setIfInBounds_toArray, List.set_cons_zero, List.set_cons_succ]
  refine held_value 28 _ _ (some 96) (.int .i64 256) (by kernel_rfl) (by rfl) (by kernel_rfl) (fun u hS => by kernel_rfl) (fun _ _ _ _ h => h) (rU) ?_
  simp only [Act.put, List.setIfInBounds_toArray, List.set_cons_zero, List.set_cons_succ]
  refine held_value 29 _ _ (some 97) (.bool true) (by kernel_rfl) (by rfl) (by kernel_rfl) (fun u hS => by kernel_rfl) (fun _ _ _ _ h => h) (rU) ?_
  simp only [Act.put, List.setIfInBounds_toArray, List.set_cons_zero, List.set_cons_succ]
  refine held_value 30 _ _ (some 98) (.bool true) (by kernel_rfl) (by rfl) (by kernel_rfl) (fun u hS => by kernel_rfl) (fun _ _ _ _ h => h) (rU) ?_
  simp only [Act.put, List.setIfInBounds_toArray, List.set_cons_zero, List.set_cons_succ]
  refine held_value 31 _ _ (some 2) (.bool true) (by kernel_rfl) (by rfl) (by kernel_rfl) (fun u hS => by first | kernel_rfl | go_simp) (fun _ _ _ _ h => h) (rU) ?_
  simp only [Act.put, List.setIfInBounds_toArray, List.set_cons_zero, List.set_cons_succ]
  refine wpAnyH_done (by kernel_rfl) ?_ _
  go_wp2
  go_ret
  exact ⟨rfl, F2.out⟩
set_option maxHeartbeats 1000000 in
theorem room_2 (c : Int) (s : Bool) (w : World) (hset : ∀ W, Calls Tryd.prog 18 #[.int .u32 c] W (OldIs (.tuple #[.agg #[.int .u32 c, .bool s, .int .i64 32, .int .i64 4, .int .i64 67, .int .i64 4], .int .i64 0]) W)) :
    Calls Tryd.prog 8 #[.int .u32 c] w (TrueIs w) := by
  unfold TrueIs
  go_enter Tryd.func8, Tryd.ntmps8
  go_wp2_with (go_at_call 18; refine (hset _).mono ?_)
  unfold OldIs
  rintro e w2 ⟨rfl, b2⟩
  obtain ⟨G, hG⟩ : ∃ G, Shh (G = w2.heap.size) := ⟨_, ⟨rfl⟩⟩
  go_wp2_with (first | refine wpList_store_any rfl 46 (.tmp 3) (.tmp 11) rfl G (by rw [hG.out]; rfl) [.int .u32 c, .bool s, .int .i64 32, .int .i64 4, .int .i64 67, .int .i64 4] rfl 46 _ (Row.new_ hG.out rfl) info_ots rfl oneCell6 ?_)
  intro Z hr bt _
  have F0 : Shh (Row Z G 46 [.int .u32 c, .bool s, .int .i64 32, .int .i64 4, .int .i64 67, .int .i64 4] ∧ Below w.heap.size w Z) := ⟨hr, Below.chain b2 ((Below.alloc (Below.refl _ _) (Nat.le_refl _) _).trans (bt.under (by have := hG.out; first | omega | (simp only [asz]; omega)) (by have := hG.out; omega)))⟩
  rw [← hG.out]
  clear hr bt b2 hG hset
  have c2 : Z.cell? ⟨G, 2, none⟩ = some (.int .i64 32) := F0.out.1.cell 2
  have c3 : Z.cell? ⟨G, 3, none⟩ = some (.int .i64 4) := F0.out.1.cell 3
  have c5 : Z.cell? ⟨G, 5, none⟩ = some (.int .i64 4) := F0.out.1.cell 5
  go_wp2
  refine wp_region_held_drew (S := fun w' => Row w' G 46 [.int .u32 c, .bool s, .int .i64 32, .int .i64 4, .int .i64 67, .int .i64 4]) (by kernel_rfl) F0.out.1.drew (fun hS => ?_)
  clear hS c2 c3 c5
  generalize hV : World.drew _ = V
  have rW : Row V G 46 [.int .u32 c, .bool s, .int .i64 32, .int .i64 4, .int .i64 67, .int .i64 4] := by rw [← hV]; exact F0.out.1.drew
  have F : Shh (Below w.heap.size w V) := ⟨by rw [← hV]; exact F0.out.2.drew⟩
  clear hV F0
  refine held_value 0 _ _ (some 55) (.pointer (some ⟨G, 3, none⟩)) (by kernel_rfl) (by rfl) (by kernel_rfl) (fun u hS => by first | kernel_rfl | go_simp) (fun _ _ _ _ h => h) (rW) ?_
  simp only [Act.put, List.setIfInBounds_toArray, List.set_cons_zero, List.set_cons_succ]
  refine held_value 1 _ _ (some 56) (.int .i64 4) (by kernel_rfl) (by rfl) (by kernel_rfl) (fun u hS => by have h2 : u.cell? ⟨G, 3, none⟩ = some (.int .i64 4) := hS.cell 3; go_simp) (fun _ _ _ _ h => h) (rW) ?_
  simp only [Act.put, List.setIfInBounds_toArray, List.set_cons_zero, List.set_cons_succ]
  refine held_value 2 _ _ (some 57) (.int .i64 16) (by kernel_rfl) (by rfl) (by kernel_rfl) (fun u hS => by kernel_rfl) (fun _ _ _ _ h => h) (rW) ?_
  simp only [Act.put, List.setIfInBounds_toArray, List.set_cons_zero, List.set_cons_succ]
  refine held_value 3 _ _ (some 58) (.int .i64 15) (by kernel_rfl) (by rfl) (by kernel_rfl) (fun u hS => by kernel_rfl) (fun _ _ _ _ h => h) (rW) ?_
  simp only [Act.put, List.setIfInBounds_toArray, List.set_cons_zero, List.set_cons_succ]
  refine held_value 4 _ _ (some 59) (.int .i64 64) (by kernel_rfl) (by rfl) (by kernel_rfl) (fun u hS => by first | kernel_rfl | go_simp) (fun _ _ _ _ h => h) (rW) ?_
  simp only [Act.put, List.setIfInBounds_toArray, List.set_cons_zero, List.set_cons_succ]
  refine held_value 5 _ _ (some 60) (.int .i64 960) (by kernel_rfl) (by rfl) (by kernel_rfl) (fun u hS => by kernel_rfl) (fun _ _ _ _ h => h) (rW) ?_
  simp only [Act.put, List.setIfInBounds_toArray, List.set_cons_zero, List.set_cons_succ]
  refine held_value 6 _ _ (some 61) (.pointer (some ⟨G, 5, none⟩)) (by kernel_rfl) (by rfl) (by kernel_rfl) (fun u hS => by first | kernel_rfl | go_simp) (fun _ _ _ _ h => h) (rW) ?_
  simp only [Act.put, List.setIfInBounds_toArray, List.set_cons_zero, List.set_cons_succ]
  refine held_value 7 _ _ (some 62) (.int .i64 4) (by kernel_rfl) (by rfl) (by kernel_rfl) (fun u hS => by have h2 : u.cell? ⟨G, 5, none⟩ = some (.int .i64 4) := hS.cell 5; go_simp) (fun _ _ _ _ h => h) (rW) ?_
  simp only [Act.put, List.setIfInBounds_toArray, List.set_cons_zero, List.set_cons_succ]
  refine held_value 8 _ _ (some 63) (.int .i64 15360) (by kernel_rfl) (by rfl) (by kernel_rfl) (fun u hS => by kernel_rfl) (fun _ _ _ _ h => h) (rW) ?_
  simp only [Act.put, List.setIfInBounds_toArray, List.set_cons_zero, List.set_cons_succ]
  refine held_value 9 _ _ (some 6) (.int .i64 15360) (by kernel_rfl) (by rfl) (by kernel_rfl) (fun u hS => by first | kernel_rfl | go_simp) (fun _ _ _ _ h => h) (rW) ?_
  simp only [Act.put, List.setIfInBounds_toArray, List.set_cons_zero, List.set_cons_succ]
  refine wpAnyH_done (by kernel_rfl) ?_ _
  have c4 : V.cell? ⟨G, 4, none⟩ = some (.int .i64 67) := rW.cell 4
  have hP : Shh (Row V G 46 [.int .u32 c, .bool s, .int .i64 32, .int .i64 4, .int .i64 67, .int .i64 4]) := ⟨rW⟩
  clear rW
  go_wp2
  refine wp_region_held_drew (S := fun w' => Row w' G 46 [.int .u32 c, .bool s, .int .i64 32, .int .i64 4, .int .i64 67, .int .i64 4]) (by kernel_rfl) hP.out.drew (fun hS => ?_)
  clear hS c4
  generalize hU : World.drew _ = U
  have rU : Row U G 46 [.int .u32 c, .bool s, .int .i64 32, .int .i64 4, .int .i64 67, .int .i64 4] := by rw [← hU]; exact hP.out.drew
  have F2 : Shh (Below w.heap.size w U) := ⟨by rw [← hU]; exact F.out.drew⟩
  clear hU hP F
  refine held_value 0 _ _ (some 68) (.int .i64 15360) (by kernel_rfl) (by rfl) (by kernel_rfl) (fun u hS => by first | kernel_rfl | go_simp) (fun _ _ _ _ h => h) (rU) ?_
  simp only [Act.put, List.setIfInBounds_toArray, List.set_cons_zero, List.set_cons_succ]
  refine held_value 1 _ _ (some 69) (.bool true) (by kernel_rfl) (by rfl) (by kernel_rfl) (fun u hS => by kernel_rfl) (fun _ _ _ _ h => h) (rU) ?_
  simp only [Act.put, List.setIfInBounds_toArray, List.set_cons_zero, List.set_cons_succ]
  refine held_value 2 _ _ (some 70) (.bool true) (by kernel_rfl) (by rfl) (by kernel_rfl) (fun u hS => by first | kernel_rfl | go_simp) (fun _ _ _ _ h => h) (rU) ?_
  simp only [Act.put, List.setIfInBounds_toArray, List.set_cons_zero, List.set_cons_succ]
  refine held_value 3 _ _ (some 71) (.int .i64 3) (by kernel_rfl) (by rfl) (by kernel_rfl) (fun u hS => by first | kernel_rfl | go_simp) (fun _ _ _ _ h => h) (rU) ?_
  simp only [Act.put, List.setIfInBounds_toArray, List.set_cons_zero, List.set_cons_succ]
  refine held_value 4 _ _ (some 72) (.bool true) (by kernel_rfl) (by rfl) (by kernel_rfl) (fun u hS => by kernel_rfl) (fun _ _ _ _ h => h) (rU) ?_
  simp only [Act.put, List.setIfInBounds_toArray, List.set_cons_zero, List.set_cons_succ]
  refine held_value 5 _ _ (some 73) (.bool true) (by kernel_rfl) (by rfl) (by kernel_rfl) (fun u hS => by kernel_rfl) (fun _ _ _ _ h => h) (rU) ?_
  simp only [Act.put, List.setIfInBounds_toArray, List.set_cons_zero, List.set_cons_succ]
  refine held_value 6 _ _ (some 74) (.bool true) (by kernel_rfl) (by rfl) (by kernel_rfl) (fun u hS => by first | kernel_rfl | go_simp) (fun _ _ _ _ h => h) (rU) ?_
  simp only [Act.put, List.setIfInBounds_toArray, List.set_cons_zero, List.set_cons_succ]
  refine held_value 7 _ _ (some 75) (.int .i64 3) (by kernel_rfl) (by rfl) (by kernel_rfl) (fun u hS => by first | kernel_rfl | go_simp) (fun _ _ _ _ h => h) (rU) ?_
  simp only [Act.put, List.setIfInBounds_toArray, List.set_cons_zero, List.set_cons_succ]
  refine held_value 8 _ _ (some 76) (.pointer (some ⟨G, 3, none⟩)) (by kernel_rfl) (by rfl) (by kernel_rfl) (fun u hS => by first | kernel_rfl | go_simp) (fun _ _ _ _ h => h) (rU) ?_
  simp only [Act.put, List.setIfInBounds_toArray, List.set_cons_zero, List.set_cons_succ]
  refine held_value 9 _ _ (some 77) (.int .i64 4) (by kernel_rfl) (by rfl) (by kernel_rfl) (fun u hS => by have h2 : u.cell? ⟨G, 3, none⟩ = some (.int .i64 4) := hS.cell 3; go_simp) (fun _ _ _ _ h => h) (rU) ?_
  simp only [Act.put, List.setIfInBounds_toArray, List.set_cons_zero, List.set_cons_succ]
  refine held_value 10 _ _ (some 78) (.int .i64 12) (by kernel_rfl) (by rfl) (by kernel_rfl) (fun u hS => by kernel_rfl) (fun _ _ _ _ h => h) (rU) ?_
  simp only [Act.put, List.setIfInBounds_toArray, List.set_cons_zero, List.set_cons_succ]
  refine held_value 11 _ _ (some 79) (.pointer (some ⟨G, 5, none⟩)) (by kernel_rfl) (by rfl) (by kernel_rfl) (fun u hS => by first | kernel_rfl | go_simp) (fun _ _ _ _ h => h) (rU) ?_
  simp only [Act.put, List.setIfInBounds_toArray, List.set_cons_zero, List.set_cons_succ]
  refine held_value 12 _ _ (some 80) (.int .i64 4) (by kernel_rfl) (by rfl) (by kernel_rfl) (fun u hS => by have h2 : u.cell? ⟨G, 5, none⟩ = some (.int .i64 4) := hS.cell 5; go_simp) (fun _ _ _ _ h => h) (rU) ?_
  simp only [Act.put, List.setIfInBounds_toArray, List.set_cons_zero, List.set_cons_succ]
  refine held_value 13 _ _ (some 81) (.int .i64 16) (by kernel_rfl) (by rfl) (by kernel_rfl) (fun u hS => by kernel_rfl) (fun _ _ _ _ h => h) (rU) ?_
  simp only [Act.put, List.setIfInBounds_toArray, List.set_cons_zero, List.set_cons_succ]
  refine held_value 14 _ _ (some 82) (.bool true) (by kernel_rfl) (by rfl) (by kernel_rfl) (fun u hS => by kernel_rfl) (fun _ _ _ _ h => h) (rU) ?_
  simp only [Act.put, List.setIfInBounds_toArray, List.set_cons_zero, List.set_cons_succ]
  refine held_value 15 _ _ (some 83) (.bool true) (by kernel_rfl) (by rfl) (by kernel_rfl) (fun u hS => by kernel_rfl) (fun _ _ _ _ h => h) (rU) ?_
  simp only [Act.put, List.setIfInBounds_toArray, List.set_cons_zero, List.set_cons_succ]
  refine held_value 16 _ _ (some 84) (.bool true) (by kernel_rfl) (by rfl) (by kernel_rfl) (fun u hS => by first | kernel_rfl | go_simp) (fun _ _ _ _ h => h) (rU) ?_
  simp only [Act.put, List.setIfInBounds_toArray, List.set_cons_zero, List.set_cons_succ]
  refine held_value 17 _ _ (some 85) (.pointer (some ⟨G, 3, none⟩)) (by kernel_rfl) (by rfl) (by kernel_rfl) (fun u hS => by first | kernel_rfl | go_simp) (fun _ _ _ _ h => h) (rU) ?_
  simp only [Act.put, List.setIfInBounds_toArray, List.set_cons_zero, List.set_cons_succ]
  refine held_value 18 _ _ (some 86) (.int .i64 4) (by kernel_rfl) (by rfl) (by kernel_rfl) (fun u hS => by have h2 : u.cell? ⟨G, 3, none⟩ = some (.int .i64 4) := hS.cell 3; go_simp) (fun _ _ _ _ h => h) (rU) ?_
  simp only [Act.put, List.setIfInBounds_toArray, List.set_cons_zero, List.set_cons_succ]
  refine held_value 19 _ _ (some 87) (.int .i64 16) (by kernel_rfl) (by rfl) (by kernel_rfl) (fun u hS => by kernel_rfl) (fun _ _ _ _ h => h) (rU) ?_
  simp only [Act.put, List.setIfInBounds_toArray, List.set_cons_zero, List.set_cons_succ]
  refine held_value 20 _ _ (some 88) (.int .i64 15) (by kernel_rfl) (by rfl) (by kernel_rfl) (fun u hS => by kernel_rfl) (fun _ _ _ _ h => h) (rU) ?_
  simp only [Act.put, List.setIfInBounds_toArray, List.set_cons_zero, List.set_cons_succ]
  refine held_value 21 _ _ (some 89) (.int .i64 64) (by kernel_rfl) (by rfl) (by kernel_rfl) (fun u hS => by first | kernel_rfl | go_simp) (fun _ _ _ _ h => h) (rU) ?_
  simp only [Act.put, List.setIfInBounds_toArray, List.set_cons_zero, List.set_cons_succ]
  refine held_value 22 _ _ (some 90) (.int .i64 960) (by kernel_rfl) (by rfl) (by kernel_rfl) (fun u hS => by kernel_rfl) (fun _ _ _ _ h => h) (rU) ?_
  simp only [Act.put, List.setIfInBounds_toArray, List.set_cons_zero, List.set_cons_succ]
  refine held_value 23 _ _ (some 91) (.int .i64 3) (by kernel_rfl) (by rfl) (by kernel_rfl) (fun u hS => by first | kernel_rfl | go_simp) (fun _ _ _ _ h => h) (rU) ?_
  simp only [Act.put, List.setIfInBounds_toArray, List.set_cons_zero, List.set_cons_succ]
  refine held_value 24 _ _ (some 92) (.int .i64 2) (by kernel_rfl) (by rfl) (by kernel_rfl) (fun u hS => by kernel_rfl) (fun _ _ _ _ h => h) (rU) ?_
  simp only [Act.put, List.setIfInBounds_toArray, List.set_cons_zero, List.set_cons_succ]
  refine held_value 25 _ _ (some 93) (.pointer (some ⟨G, 3, none⟩)) (by kernel_rfl) (by rfl) (by kernel_rfl) (fun u hS => by first | kernel_rfl | go_simp) (fun _ _ _ _ h => h) (rU) ?_
  simp only [Act.put, List.setIfInBounds_toArray, List.set_cons_zero, List.set_cons_succ]
  refine held_value 26 _ _ (some 94) (.int .i64 4) (by kernel_rfl) (by rfl) (by kernel_rfl) (fun u hS => by have h2 : u.cell? ⟨G, 3, none⟩ = some (.int .i64 4) := hS.cell 3; go_simp) (fun _ _ _ _ h => h) (rU) ?_
  simp only [Act.put, List.setIfInBounds_toArray, List.set_cons_zero, List.set_cons_succ]
  refine held_value 27 _ _ (some 95) (.int .i64 8) (by kernel_rfl) (by rfl) (by kernel_rfl) (fun u hS => by kernel_rfl) (fun _ _ _ _ h => h) (rU) ?_
  simp only [Act.put, List.setIfInBounds_toArray, List.set_cons_zero, List.set_cons_succ]
  refine held_value 28 _ _ (some 96) (.int .i64 256) (by kernel_rfl) (by rfl) (by kernel_rfl) (fun u hS => by kernel_rfl) (fun _ _ _ _ h => h) (rU) ?_
  simp only [Act.put, List.setIfInBounds_toArray, List.set_cons_zero, List.set_cons_succ]
  refine held_value 29 _ _ (some 97) (.bool true) (by kernel_rfl) (by rfl) (by kernel_rfl) (fun u hS => by kernel_rfl) (fun _ _ _ _ h => h) (rU) ?_
  simp only [Act.put, List.setIfInBounds_toArray, List.set_cons_zero, List.set_cons_succ]
  refine held_value 30 _ _ (some 98) (.bool true) (by kernel_rfl) (by rfl) (by kernel_rfl) (fun u hS => by kernel_rfl) (fun _ _ _ _ h => h) (rU) ?_
  simp only [Act.put, List.setIfInBounds_toArray, List.set_cons_zero, List.set_cons_succ]
  refine held_value 31 _ _ (some 2) (.bool true) (by kernel_rfl) (by rfl) (by kernel_rfl) (fun u hS => by first | kernel_rfl | go_simp) (fun _ _ _ _ h => h) (rU) ?_
  simp only [Act.put, List.setIfInBounds_toArray, List.set_cons_zero, List.set_cons_succ]
  refine wpAnyH_done (by kernel_rfl) ?_ _
  go_wp2
  go_ret
  exact ⟨rfl, F2.out⟩
set_option maxHeartbeats 1000000 in
theorem room_3 (c : Int) (s : Bool) (w : World) (hset : ∀ W, Calls Tryd.prog 18 #[.int .u32 c] W (OldIs (.tuple #[.agg #[.int .u32 c, .bool s, .int .i64 32, .int .i64 8, .int .i64 34, .int .i64 0], .int .i64 0]) W)) :
    Calls Tryd.prog 8 #[.int .u32 c] w (TrueIs w) := by
  unfold TrueIs
  go_enter Tryd.func8, Tryd.ntmps8
  go_wp2_with (go_at_call 18; refine (hset _).mono ?_)
  unfold OldIs
  rintro e w2 ⟨rfl, b2⟩
  obtain ⟨G, hG⟩ : ∃ G, Shh (G = w2.heap.size) := ⟨_, ⟨rfl⟩⟩
  go_wp2_with (first | refine wpList_store_any rfl 46 (.tmp 3) (.tmp 11) rfl G (by rw [hG.out]; rfl) [.int .u32 c, .bool s, .int .i64 32, .int .i64 8, .int .i64 34, .int .i64 0] rfl 46 _ (Row.new_ hG.out rfl) info_ots rfl oneCell6 ?_)
  intro Z hr bt _
  have F0 : Shh (Row Z G 46 [.int .u32 c, .bool s, .int .i64 32, .int .i64 8, .int .i64 34, .int .i64 0] ∧ Below w.heap.size w Z) := ⟨hr, Below.chain b2 ((Below.alloc (Below.refl _ _) (Nat.le_refl _) _).trans (bt.under (by have := hG.out; first | omega | (simp only [asz]; omega)) (by have := hG.out; omega)))⟩
  rw [← hG.out]
  clear hr bt b2 hG hset
  have c2 : Z.cell? ⟨G, 2, none⟩ = some (.int .i64 32) := F0.out.1.cell 2
  have c3 : Z.cell? ⟨G, 3, none⟩ = some (.int .i64 8) := F0.out.1.cell 3
  have c5 : Z.cell? ⟨G, 5, none⟩ = some (.int .i64 0) := F0.out.1.cell 5
  go_wp2
  refine wp_region_held_drew (S := fun w' => Row w' G 46 [.int .u32 c, .bool s, .int .i64 32, .int .i64 8, .int .i64 34, .int .i64 0]) (by kernel_rfl) F0.out.1.drew (fun hS => ?_)
  clear hS c2 c3 c5
  generalize hV : World.drew _ = V
  have rW : Row V G 46 [.int .u32 c, .bool s, .int .i64 32, .int .i64 8, .int .i64 34, .int .i64 0] := by rw [← hV]; exact F0.out.1.drew
  have F : Shh (Below w.heap.size w V) := ⟨by rw [← hV]; exact F0.out.2.drew⟩
  clear hV F0
  refine held_value 0 _ _ (some 55) (.pointer (some ⟨G, 3, none⟩)) (by kernel_rfl) (by rfl) (by kernel_rfl) (fun u hS => by first | kernel_rfl | go_simp) (fun _ _ _ _ h => h) (rW) ?_
  simp only [Act.put, List.setIfInBounds_toArray, List.set_cons_zero, List.set_cons_succ]
  refine held_value 1 _ _ (some 56) (.int .i64 8) (by kernel_rfl) (by rfl) (by kernel_rfl) (fun u hS => by have h2 : u.cell? ⟨G, 3, none⟩ = some (.int .i64 8) := hS.cell 3; go_simp) (fun _ _ _ _ h => h) (rW) ?_
  simp only [Act.put, List.setIfInBounds_toArray, List.set_cons_zero, List.set_cons_succ]
  refine held_value 2 _ _ (some 57) (.int .i64 256) (by kernel_rfl) (by rfl) (by kernel_rfl) (fun u hS => by kernel_rfl) (fun _ _ _ _ h => h) (rW) ?_
  simp only [Act.put, List.setIfInBounds_toArray, List.set_cons_zero, List.set_cons_succ]
  refine held_value 3 _ _ (some 58) (.int .i64 255) (by kernel_rfl) (by rfl) (by kernel_rfl) (fun u hS => by kernel_rfl) (fun _ _ _ _ h => h) (rW) ?_
  simp only [Act.put, List.setIfInBounds_toArray, List.set_cons_zero, List.set_cons_succ]
  refine held_value 4 _ _ (some 59) (.int .i64 32) (by kernel_rfl) (by rfl) (by kernel_rfl) (fun u hS => by first | kernel_rfl | go_simp) (fun _ _ _ _ h => h) (rW) ?_
  simp only [Act.put, List.setIfInBounds_toArray, List.set_cons_zero, List.set_cons_succ]
  refine held_value 5 _ _ (some 60) (.int .i64 8160) (by kernel_rfl) (by rfl) (by kernel_rfl) (fun u hS => by kernel_rfl) (fun _ _ _ _ h => h) (rW) ?_
  simp only [Act.put, List.setIfInBounds_toArray, List.set_cons_zero, List.set_cons_succ]
  refine held_value 6 _ _ (some 61) (.pointer (some ⟨G, 5, none⟩)) (by kernel_rfl) (by rfl) (by kernel_rfl) (fun u hS => by first | kernel_rfl | go_simp) (fun _ _ _ _ h => h) (rW) ?_
  simp only [Act.put, List.setIfInBounds_toArray, List.set_cons_zero, List.set_cons_succ]
  refine held_value 7 _ _ (some 62) (.int .i64 0) (by kernel_rfl) (by rfl) (by kernel_rfl) (fun u hS => by have h2 : u.cell? ⟨G, 5, none⟩ = some (.int .i64 0) := hS.cell 5; go_simp) (fun _ _ _ _ h => h) (rW) ?_
  simp only [Act.put, List.setIfInBounds_toArray, List.set_cons_zero, List.set_cons_succ]
  refine held_value 8 _ _ (some 63) (.int .i64 8160) (by kernel_rfl) (by rfl) (by kernel_rfl) (fun u hS => by kernel_rfl) (fun _ _ _ _ h => h) (rW) ?_
  simp only [Act.put, List.setIfInBounds_toArray, List.set_cons_zero, List.set_cons_succ]
  refine held_value 9 _ _ (some 6) (.int .i64 8160) (by kernel_rfl) (by rfl) (by kernel_rfl) (fun u hS => by first | kernel_rfl | go_simp) (fun _ _ _ _ h => h) (rW) ?_
  simp only [Act.put, List.setIfInBounds_toArray, List.set_cons_zero, List.set_cons_succ]
  refine wpAnyH_done (by kernel_rfl) ?_ _
  have c4 : V.cell? ⟨G, 4, none⟩ = some (.int .i64 34) := rW.cell 4
  have hP : Shh (Row V G 46 [.int .u32 c, .bool s, .int .i64 32, .int .i64 8, .int .i64 34, .int .i64 0]) := ⟨rW⟩
  clear rW
  go_wp2
  refine wp_region_held_drew (S := fun w' => Row w' G 46 [.int .u32 c, .bool s, .int .i64 32, .int .i64 8, .int .i64 34, .int .i64 0]) (by kernel_rfl) hP.out.drew (fun hS => ?_)
  clear hS c4
  generalize hU : World.drew _ = U
  have rU : Row U G 46 [.int .u32 c, .bool s, .int .i64 32, .int .i64 8, .int .i64 34, .int .i64 0] := by rw [← hU]; exact hP.out.drew
  have F2 : Shh (Below w.heap.size w U) := ⟨by rw [← hU]; exact F.out.drew⟩
  clear hU hP F
  refine held_value 0 _ _ (some 68) (.int .i64 8160) (by kernel_rfl) (by rfl) (by kernel_rfl) (fun u hS => by first | kernel_rfl | go_simp) (fun _ _ _ _ h => h) (rU) ?_
  simp only [Act.put, List.setIfInBounds_toArray, List.set_cons_zero, List.set_cons_succ]
  refine held_value 1 _ _ (some 69) (.bool true) (by kernel_rfl) (by rfl) (by kernel_rfl) (fun u hS => by kernel_rfl) (fun _ _ _ _ h => h) (rU) ?_
  simp only [Act.put, List.setIfInBounds_toArray, List.set_cons_zero, List.set_cons_succ]
  refine held_value 2 _ _ (some 70) (.bool true) (by kernel_rfl) (by rfl) (by kernel_rfl) (fun u hS => by first | kernel_rfl | go_simp) (fun _ _ _ _ h => h) (rU) ?_
  simp only [Act.put, List.setIfInBounds_toArray, List.set_cons_zero, List.set_cons_succ]
  refine held_value 3 _ _ (some 71) (.int .i64 2) (by kernel_rfl) (by rfl) (by kernel_rfl) (fun u hS => by first | kernel_rfl | go_simp) (fun _ _ _ _ h => h) (rU) ?_
  simp only [Act.put, List.setIfInBounds_toArray, List.set_cons_zero, List.set_cons_succ]
  refine held_value 4 _ _ (some 72) (.bool true) (by kernel_rfl) (by rfl) (by kernel_rfl) (fun u hS => by kernel_rfl) (fun _ _ _ _ h => h) (rU) ?_
  simp only [Act.put, List.setIfInBounds_toArray, List.set_cons_zero, List.set_cons_succ]
  refine held_value 5 _ _ (some 73) (.bool true) (by kernel_rfl) (by rfl) (by kernel_rfl) (fun u hS => by kernel_rfl) (fun _ _ _ _ h => h) (rU) ?_
  simp only [Act.put, List.setIfInBounds_toArray, List.set_cons_zero, List.set_cons_succ]
  refine held_value 6 _ _ (some 74) (.bool true) (by kernel_rfl) (by rfl) (by kernel_rfl) (fun u hS => by first | kernel_rfl | go_simp) (fun _ _ _ _ h => h) (rU) ?_
  simp only [Act.put, List.setIfInBounds_toArray, List.set_cons_zero, List.set_cons_succ]
  refine held_value 7 _ _ (some 75) (.int .i64 2) (by kernel_rfl) (by rfl) (by kernel_rfl) (fun u hS => by first | kernel_rfl | go_simp) (fun _ _ _ _ h => h) (rU) ?_
  simp only [Act.put, List.setIfInBounds_toArray, List.set_cons_zero, List.set_cons_succ]
  refine held_value 8 _ _ (some 76) (.pointer (some ⟨G, 3, none⟩)) (by kernel_rfl) (by rfl) (by kernel_rfl) (fun u hS => by first | kernel_rfl | go_simp) (fun _ _ _ _ h => h) (rU) ?_
  simp only [Act.put, List.setIfInBounds_toArray, List.set_cons_zero, List.set_cons_succ]
  refine held_value 9 _ _ (some 77) (.int .i64 8) (by kernel_rfl) (by rfl) (by kernel_rfl) (fun u hS => by have h2 : u.cell? ⟨G, 3, none⟩ = some (.int .i64 8) := hS.cell 3; go_simp) (fun _ _ _ _ h => h) (rU) ?_
  simp only [Act.put, List.setIfInBounds_toArray, List.set_cons_zero, List.set_cons_succ]
  refine held_value 10 _ _ (some 78) (.int .i64 16) (by kernel_rfl) (by rfl) (by kernel_rfl) (fun u hS => by kernel_rfl) (fun _ _ _ _ h => h) (rU) ?_
  simp only [Act.put, List.setIfInBounds_toArray, List.set_cons_zero, List.set_cons_succ]
  refine held_value 11 _ _ (some 79) (.pointer (some ⟨G, 5, none⟩)) (by kernel_rfl) (by rfl) (by kernel_rfl) (fun u hS => by first | kernel_rfl | go_simp) (fun _ _ _ _ h => h) (rU) ?_
  simp only [Act.put, List.setIfInBounds_toArray, List.set_cons_zero, List.set_cons_succ]
  refine held_value 12 _ _ (some 80) (.int .i64 0) (by kernel_rfl) (by rfl) (by kernel_rfl) (fun u hS => by have h2 : u.cell? ⟨G, 5, none⟩ = some (.int .i64 0) := hS.cell 5; go_simp) (fun _ _ _ _ h => h) (rU) ?_
  simp only [Act.put, List.setIfInBounds_toArray, List.set_cons_zero, List.set_cons_succ]
  refine held_value 13 _ _ (some 81) (.int .i64 16) (by kernel_rfl) (by rfl) (by kernel_rfl) (fun u hS => by kernel_rfl) (fun _ _ _ _ h => h) (rU) ?_
  simp only [Act.put, List.setIfInBounds_toArray, List.set_cons_zero, List.set_cons_succ]
  refine held_value 14 _ _ (some 82) (.bool true) (by kernel_rfl) (by rfl) (by kernel_rfl) (fun u hS => by kernel_rfl) (fun _ _ _ _ h => h) (rU) ?_
  simp only [Act.put, List.setIfInBounds_toArray, List.set_cons_zero, List.set_cons_succ]
  refine held_value 15 _ _ (some 83) (.bool true) (by kernel_rfl) (by rfl) (by kernel_rfl) (fun u hS => by kernel_rfl) (fun _ _ _ _ h => h) (rU) ?_
  simp only [Act.put, List.setIfInBounds_toArray, List.set_cons_zero, List.set_cons_succ]
  refine held_value 16 _ _ (some 84) (.bool true) (by kernel_rfl) (by rfl) (by kernel_rfl) (fun u hS => by first | kernel_rfl | go_simp) (fun _ _ _ _ h => h) (rU) ?_
  simp only [Act.put, List.setIfInBounds_toArray, List.set_cons_zero, List.set_cons_succ]
  refine held_value 17 _ _ (some 85) (.pointer (some ⟨G, 3, none⟩)) (by kernel_rfl) (by rfl) (by kernel_rfl) (fun u hS => by first | kernel_rfl | go_simp) (fun _ _ _ _ h => h) (rU) ?_
  simp only [Act.put, List.setIfInBounds_toArray, List.set_cons_zero, List.set_cons_succ]
  refine held_value 18 _ _ (some 86) (.int .i64 8) (by kernel_rfl) (by rfl) (by kernel_rfl) (fun u hS => by have h2 : u.cell? ⟨G, 3, none⟩ = some (.int .i64 8) := hS.cell 3; go_simp) (fun _ _ _ _ h => h) (rU) ?_
  simp only [Act.put, List.setIfInBounds_toArray, List.set_cons_zero, List.set_cons_succ]
  refine held_value 19 _ _ (some 87) (.int .i64 256) (by kernel_rfl) (by rfl) (by kernel_rfl) (fun u hS => by kernel_rfl) (fun _ _ _ _ h => h) (rU) ?_
  simp only [Act.put, List.setIfInBounds_toArray, List.set_cons_zero, List.set_cons_succ]
  refine held_value 20 _ _ (some 88) (.int .i64 255) (by kernel_rfl) (by rfl) (by kernel_rfl) (fun u hS => by kernel_rfl) (fun _ _ _ _ h => h) (rU) ?_
  simp only [Act.put, List.setIfInBounds_toArray, List.set_cons_zero, List.set_cons_succ]
  refine held_value 21 _ _ (some 89) (.int .i64 32) (by kernel_rfl) (by rfl) (by kernel_rfl) (fun u hS => by first | kernel_rfl | go_simp) (fun _ _ _ _ h => h) (rU) ?_
  simp only [Act.put, List.setIfInBounds_toArray, List.set_cons_zero, List.set_cons_succ]
  refine held_value 22 _ _ (some 90) (.int .i64 8160) (by kernel_rfl) (by rfl) (by kernel_rfl) (fun u hS => by kernel_rfl) (fun _ _ _ _ h => h) (rU) ?_
  simp only [Act.put, List.setIfInBounds_toArray, List.set_cons_zero, List.set_cons_succ]
  refine held_value 23 _ _ (some 91) (.int .i64 2) (by kernel_rfl) (by rfl) (by kernel_rfl) (fun u hS => by first | kernel_rfl | go_simp) (fun _ _ _ _ h => h) (rU) ?_
  simp only [Act.put, List.setIfInBounds_toArray, List.set_cons_zero, List.set_cons_succ]
  refine held_value 24 _ _ (some 92) (.int .i64 1) (by kernel_rfl) (by rfl) (by kernel_rfl) (fun u hS => by kernel_rfl) (fun _ _ _ _ h => h) (rU) ?_
  simp only [Act.put, List.setIfInBounds_toArray, List.set_cons_zero, List.set_cons_succ]
  refine held_value 25 _ _ (some 93) (.pointer (some ⟨G, 3, none⟩)) (by kernel_rfl) (by rfl) (by kernel_rfl) (fun u hS => by first | kernel_rfl | go_simp) (fun _ _ _ _ h => h) (rU) ?_
  simp only [Act.put, List.setIfInBounds_toArray, List.set_cons_zero, List.set_cons_succ]
  refine held_value 26 _ _ (some 94) (.int .i64 8) (by kernel_rfl) (by rfl) (by kernel_rfl) (fun u hS => by have h2 : u.cell? ⟨G, 3, none⟩ = some (.int .i64 8) := hS.cell 3; go_simp) (fun _ _ _ _ h => h) (rU) ?_
  simp only [Act.put, List.setIfInBounds_toArray, List.set_cons_zero, List.set_cons_succ]
  refine held_value 27 _ _ (some 95) (.int .i64 8) (by kernel_rfl) (by rfl) (by kernel_rfl) (fun u hS => by kernel_rfl) (fun _ _ _ _ h => h) (rU) ?_
  simp only [Act.put, List.setIfInBounds_toArray, List.set_cons_zero, List.set_cons_succ]
  refine held_value 28 _ _ (some 96) (.int .i64 256) (by kernel_rfl) (by rfl) (by kernel_rfl) (fun u hS => by kernel_rfl) (fun _ _ _ _ h => h) (rU) ?_
  simp only [Act.put, List.setIfInBounds_toArray, List.set_cons_zero, List.set_cons_succ]
  refine held_value 29 _ _ (some 97) (.bool true) (by kernel_rfl) (by rfl) (by kernel_rfl) (fun u hS => by kernel_rfl) (fun _ _ _ _ h => h) (rU) ?_
  simp only [Act.put, List.setIfInBounds_toArray, List.set_cons_zero, List.set_cons_succ]
  refine held_value 30 _ _ (some 98) (.bool true) (by kernel_rfl) (by rfl) (by kernel_rfl) (fun u hS => by kernel_rfl) (fun _ _ _ _ h => h) (rU) ?_
  simp only [Act.put, List.setIfInBounds_toArray, List.set_cons_zero, List.set_cons_succ]
  refine held_value 31 _ _ (some 2) (.bool true) (by kernel_rfl) (by rfl) (by kernel_rfl) (fun u hS => by first | kernel_rfl | go_simp) (fun _ _ _ _ h => h) (rU) ?_
  simp only [Act.put, List.setIfInBounds_toArray, List.set_cons_zero, List.set_cons_succ]
  refine wpAnyH_done (by kernel_rfl) ?_ _
  go_wp2
  go_ret
  exact ⟨rfl, F2.out⟩
set_option maxHeartbeats 1000000 in
theorem room_4 (c : Int) (s : Bool) (w : World) (hset : ∀ W, Calls Tryd.prog 18 #[.int .u32 c] W (OldIs (.tuple #[.agg #[.int .u32 c, .bool s, .int .i64 24, .int .i64 1, .int .i64 200, .int .i64 8], .int .i64 0]) W)) :
    Calls Tryd.prog 8 #[.int .u32 c] w (TrueIs w) := by
  unfold TrueIs
  go_enter Tryd.func8, Tryd.ntmps8
  go_wp2_with (go_at_call 18; refine (hset _).mono ?_)
  unfold OldIs
  rintro e w2 ⟨rfl, b2⟩
  obtain ⟨G, hG⟩ : ∃ G, Shh (G = w2.heap.size) := ⟨_, ⟨rfl⟩⟩
  go_wp2_with (first | refine wpList_store_any rfl 46 (.tmp 3) (.tmp 11) rfl G (by rw [hG.out]; rfl) [.int .u32 c, .bool s, .int .i64 24, .int .i64 1, .int .i64 200, .int .i64 8] rfl 46 _ (Row.new_ hG.out rfl) info_ots rfl oneCell6 ?_)
  intro Z hr bt _
  have F0 : Shh (Row Z G 46 [.int .u32 c, .bool s, .int .i64 24, .int .i64 1, .int .i64 200, .int .i64 8] ∧ Below w.heap.size w Z) := ⟨hr, Below.chain b2 ((Below.alloc (Below.refl _ _) (Nat.le_refl _) _).trans (bt.under (by have := hG.out; first | omega | (simp only [asz]; omega)) (by have := hG.out; omega)))⟩
  rw [← hG.out]
  clear hr bt b2 hG hset
  have c2 : Z.cell? ⟨G, 2, none⟩ = some (.int .i64 24) := F0.out.1.cell 2
  have c3 : Z.cell? ⟨G, 3, none⟩ = some (.int .i64 1) := F0.out.1.cell 3
  have c5 : Z.cell? ⟨G, 5, none⟩ = some (.int .i64 8) := F0.out.1.cell 5
  go_wp2
  refine wp_region_held_drew (S := fun w' => Row w' G 46 [.int .u32 c, .bool s, .int .i64 24, .int .i64 1, .int .i64 200, .int .i64 8]) (by kernel_rfl) F0.out.1.drew (fun hS => ?_)
  clear hS c2 c3 c5
  generalize hV : World.drew _ = V
  have rW : Row V G 46 [.int .u32 c, .bool s, .int .i64 24, .int .i64 1, .int .i64 200, .int .i64 8] := by rw [← hV]; exact F0.out.1.drew
  have F : Shh (Below w.heap.size w V) := ⟨by rw [← hV]; exact F0.out.2.drew⟩
  clear hV F0
  refine held_value 0 _ _ (some 55) (.pointer (some ⟨G, 3, none⟩)) (by kernel_rfl) (by rfl) (by kernel_rfl) (fun u hS => by first | kernel_rfl | go_simp) (fun _ _ _ _ h => h) (rW) ?_
  simp only [Act.put, List.setIfInBounds_toArray, List.set_cons_zero, List.set_cons_succ]
  refine held_value 1 _ _ (some 56) (.int .i64 1) (by kernel_rfl) (by rfl) (by kernel_rfl) (fun u hS => by have h2 : u.cell? ⟨G, 3, none⟩ = some (.int .i64 1) := hS.cell 3; go_simp) (fun _ _ _ _ h => h) (rW) ?_
  simp only [Act.put, List.setIfInBounds_toArray, List.set_cons_zero, List.set_cons_succ]
  refine held_value 2 _ _ (some 57) (.int .i64 2) (by kernel_rfl) (by rfl) (by kernel_rfl) (fun u hS => by kernel_rfl) (fun _ _ _ _ h => h) (rW) ?_
  simp only [Act.put, List.setIfInBounds_toArray, List.set_cons_zero, List.set_cons_succ]
  refine held_value 3 _ _ (some 58) (.int .i64 1) (by kernel_rfl) (by rfl) (by kernel_rfl) (fun u hS => by kernel_rfl) (fun _ _ _ _ h => h) (rW) ?_
  simp only [Act.put, List.setIfInBounds_toArray, List.set_cons_zero, List.set_cons_succ]
  refine held_value 4 _ _ (some 59) (.int .i64 192) (by kernel_rfl) (by rfl) (by kernel_rfl) (fun u hS => by first | kernel_rfl | go_simp) (fun _ _ _ _ h => h) (rW) ?_
  simp only [Act.put, List.setIfInBounds_toArray, List.set_cons_zero, List.set_cons_succ]
  refine held_value 5 _ _ (some 60) (.int .i64 192) (by kernel_rfl) (by rfl) (by kernel_rfl) (fun u hS => by kernel_rfl) (fun _ _ _ _ h => h) (rW) ?_
  simp only [Act.put, List.setIfInBounds_toArray, List.set_cons_zero, List.set_cons_succ]
  refine held_value 6 _ _ (some 61) (.pointer (some ⟨G, 5, none⟩)) (by kernel_rfl) (by rfl) (by kernel_rfl) (fun u hS => by first | kernel_rfl | go_simp) (fun _ _ _ _ h => h) (rW) ?_
  simp only [Act.put, List.setIfInBounds_toArray, List.set_cons_zero, List.set_cons_succ]
  refine held_value 7 _ _ (some 62) (.int .i64 8) (by kernel_rfl) (by rfl) (by kernel_rfl) (fun u hS => by have h2 : u.cell? ⟨G, 5, none⟩ = some (.int .i64 8) := hS.cell 5; go_simp) (fun _ _ _ _ h => h) (rW) ?_
  simp only [Act.put, List.setIfInBounds_toArray, List.set_cons_zero, List.set_cons_succ]
  refine held_value 8 _ _ (some 63) (.int .i64 49152) (by kernel_rfl) (by rfl) (by kernel_rfl) (fun u hS => by kernel_rfl) (fun _ _ _ _ h => h) (rW) ?_
  simp only [Act.put, List.setIfInBounds_toArray, List.set_cons_zero, List.set_cons_succ]
  refine held_value 9 _ _ (some 6) (.int .i64 49152) (by kernel_rfl) (by rfl) (by kernel_rfl) (fun u hS => by first | kernel_rfl | go_simp) (fun _ _ _ _ h => h) (rW) ?_
  simp only [Act.put, List.setIfInBounds_toArray, List.set_cons_zero, List.set_cons_succ]
  refine wpAnyH_done (by kernel_rfl) ?_ _
  have c4 : V.cell? ⟨G, 4, none⟩ = some (.int .i64 200) := rW.cell 4
  have hP : Shh (Row V G 46 [.int .u32 c, .bool s, .int .i64 24, .int .i64 1, .int .i64 200, .int .i64 8]) := ⟨rW⟩
  clear rW
  go_wp2
  refine wp_region_held_drew (S := fun w' => Row w' G 46 [.int .u32 c, .bool s, .int .i64 24, .int .i64 1, .int .i64 200, .int .i64 8]) (by kernel_rfl) hP.out.drew (fun hS => ?_)
  clear hS c4
  generalize hU : World.drew _ = U
  have rU : Row U G 46 [.int .u32 c, .bool s, .int .i64 24, .int .i64 1, .int .i64 200, .int .i64 8] := by rw [← hU]; exact hP.out.drew
  have F2 : Shh (Below w.heap.size w U) := ⟨by rw [← hU]; exact F.out.drew⟩
  clear hU hP F
  refine held_value 0 _ _ (some 68) (.int .i64 49152) (by kernel_rfl) (by rfl) (by kernel_rfl) (fun u hS => by first | kernel_rfl | go_simp) (fun _ _ _ _ h => h) (rU) ?_
  simp only [Act.put, List.setIfInBounds_toArray, List.set_cons_zero, List.set_cons_succ]
  refine held_value 1 _ _ (some 69) (.bool true) (by kernel_rfl) (by rfl) (by kernel_rfl) (fun u hS => by kernel_rfl) (fun _ _ _ _ h => h) (rU) ?_
  simp only [Act.put, List.setIfInBounds_toArray, List.set_cons_zero, List.set_cons_succ]
  refine held_value 2 _ _ (some 70) (.bool true) (by kernel_rfl) (by rfl) (by kernel_rfl) (fun u hS => by first | kernel_rfl | go_simp) (fun _ _ _ _ h => h) (rU) ?_
  simp only [Act.put, List.setIfInBounds_toArray, List.set_cons_zero, List.set_cons_succ]
  refine held_value 3 _ _ (some 71) (.int .i64 8) (by kernel_rfl) (by rfl) (by kernel_rfl) (fun u hS => by first | kernel_rfl | go_simp) (fun _ _ _ _ h => h) (rU) ?_
  simp only [Act.put, List.setIfInBounds_toArray, List.set_cons_zero, List.set_cons_succ]
  refine held_value 4 _ _ (some 72) (.bool true) (by kernel_rfl) (by rfl) (by kernel_rfl) (fun u hS => by kernel_rfl) (fun _ _ _ _ h => h) (rU) ?_
  simp only [Act.put, List.setIfInBounds_toArray, List.set_cons_zero, List.set_cons_succ]
  refine held_value 5 _ _ (some 73) (.bool true) (by kernel_rfl) (by rfl) (by kernel_rfl) (fun u hS => by kernel_rfl) (fun _ _ _ _ h => h) (rU) ?_
  simp only [Act.put, List.setIfInBounds_toArray, List.set_cons_zero, List.set_cons_succ]
  refine held_value 6 _ _ (some 74) (.bool true) (by kernel_rfl) (by rfl) (by kernel_rfl) (fun u hS => by first | kernel_rfl | go_simp) (fun _ _ _ _ h => h) (rU) ?_
  simp only [Act.put, List.setIfInBounds_toArray, List.set_cons_zero, List.set_cons_succ]
  refine held_value 7 _ _ (some 75) (.int .i64 8) (by kernel_rfl) (by rfl) (by kernel_rfl) (fun u hS => by first | kernel_rfl | go_simp) (fun _ _ _ _ h => h) (rU) ?_
  simp only [Act.put, List.setIfInBounds_toArray, List.set_cons_zero, List.set_cons_succ]
  refine held_value 8 _ _ (some 76) (.pointer (some ⟨G, 3, none⟩)) (by kernel_rfl) (by rfl) (by kernel_rfl) (fun u hS => by first | kernel_rfl | go_simp) (fun _ _ _ _ h => h) (rU) ?_
  simp only [Act.put, List.setIfInBounds_toArray, List.set_cons_zero, List.set_cons_succ]
  refine held_value 9 _ _ (some 77) (.int .i64 1) (by kernel_rfl) (by rfl) (by kernel_rfl) (fun u hS => by have h2 : u.cell? ⟨G, 3, none⟩ = some (.int .i64 1) := hS.cell 3; go_simp) (fun _ _ _ _ h => h) (rU) ?_
  simp only [Act.put, List.setIfInBounds_toArray, List.set_cons_zero, List.set_cons_succ]
  refine held_value 10 _ _ (some 78) (.int .i64 8) (by kernel_rfl) (by rfl) (by kernel_rfl) (fun u hS => by kernel_rfl) (fun _ _ _ _ h => h) (rU) ?_
  simp only [Act.put, List.setIfInBounds_toArray, List.set_cons_zero, List.set_cons_succ]
  refine held_value 11 _ _ (some 79) (.pointer (some ⟨G, 5, none⟩)) (by kernel_rfl) (by rfl) (by kernel_rfl) (fun u hS => by first | kernel_rfl | go_simp) (fun _ _ _ _ h => h) (rU) ?_
  simp only [Act.put, List.setIfInBounds_toArray, List.set_cons_zero, List.set_cons_succ]
  refine held_value 12 _ _ (some 80) (.int .i64 8) (by kernel_rfl) (by rfl) (by kernel_rfl) (fun u hS => by have h2 : u.cell? ⟨G, 5, none⟩ = some (.int .i64 8) := hS.cell 5; go_simp) (fun _ _ _ _ h => h) (rU) ?_
  simp only [Act.put, List.setIfInBounds_toArray, List.set_cons_zero, List.set_cons_succ]
  refine held_value 13 _ _ (some 81) (.int .i64 16) (by kernel_rfl) (by rfl) (by kernel_rfl) (fun u hS => by kernel_rfl) (fun _ _ _ _ h => h) (rU) ?_
  simp only [Act.put, List.setIfInBounds_toArray, List.set_cons_zero, List.set_cons_succ]
  refine held_value 14 _ _ (some 82) (.bool true) (by kernel_rfl) (by rfl) (by kernel_rfl) (fun u hS => by kernel_rfl) (fun _ _ _ _ h => h) (rU) ?_
  simp only [Act.put, List.setIfInBounds_toArray, List.set_cons_zero, List.set_cons_succ]
  refine held_value 15 _ _ (some 83) (.bool true) (by kernel_rfl) (by rfl) (by kernel_rfl) (fun u hS => by kernel_rfl) (fun _ _ _ _ h => h) (rU) ?_
  simp only [Act.put, List.setIfInBounds_toArray, List.set_cons_zero, List.set_cons_succ]
  refine held_value 16 _ _ (some 84) (.bool true) (by kernel_rfl) (by rfl) (by kernel_rfl) (fun u hS => by first | kernel_rfl | go_simp) (fun _ _ _ _ h => h) (rU) ?_
  simp only [Act.put, List.setIfInBounds_toArray, List.set_cons_zero, List.set_cons_succ]
  refine held_value 17 _ _ (some 85) (.pointer (some ⟨G, 3, none⟩)) (by kernel_rfl) (by rfl) (by kernel_rfl) (fun u hS => by first | kernel_rfl | go_simp) (fun _ _ _ _ h => h) (rU) ?_
  simp only [Act.put, List.setIfInBounds_toArray, List.set_cons_zero, List.set_cons_succ]
  refine held_value 18 _ _ (some 86) (.int .i64 1) (by kernel_rfl) (by rfl) (by kernel_rfl) (fun u hS => by have h2 : u.cell? ⟨G, 3, none⟩ = some (.int .i64 1) := hS.cell 3; go_simp) (fun _ _ _ _ h => h) (rU) ?_
  simp only [Act.put, List.setIfInBounds_toArray, List.set_cons_zero, List.set_cons_succ]
  refine held_value 19 _ _ (some 87) (.int .i64 2) (by kernel_rfl) (by rfl) (by kernel_rfl) (fun u hS => by kernel_rfl) (fun _ _ _ _ h => h) (rU) ?_
  simp only [Act.put, List.setIfInBounds_toArray, List.set_cons_zero, List.set_cons_succ]
  refine held_value 20 _ _ (some 88) (.int .i64 1) (by kernel_rfl) (by rfl) (by kernel_rfl) (fun u hS => by kernel_rfl) (fun _ _ _ _ h => h) (rU) ?_
  simp only [Act.put, List.setIfInBounds_toArray, List.set_cons_zero, List.set_cons_succ]
  refine held_value 21 _ _ (some 89) (.int .i64 192) (by kernel_rfl) (by rfl) (by kernel_rfl) (fun u hS => by first | kernel_rfl | go_simp) (fun _ _ _ _ h => h) (rU) ?_
  simp only [Act.put, List.setIfInBounds_toArray, List.set_cons_zero, List.set_cons_succ]
  refine held_value 22 _ _ (some 90) (.int .i64 192) (by kernel_rfl) (by rfl) (by kernel_rfl) (fun u hS => by kernel_rfl) (fun _ _ _ _ h => h) (rU) ?_
  simp only [Act.put, List.setIfInBounds_toArray, List.set_cons_zero, List.set_cons_succ]
  refine held_value 23 _ _ (some 91) (.int .i64 8) (by kernel_rfl) (by rfl) (by kernel_rfl) (fun u hS => by first | kernel_rfl | go_simp) (fun _ _ _ _ h => h) (rU) ?_
  simp only [Act.put, List.setIfInBounds_toArray, List.set_cons_zero, List.set_cons_succ]
  refine held_value 24 _ _ (some 92) (.int .i64 7) (by kernel_rfl) (by rfl) (by kernel_rfl) (fun u hS => by kernel_rfl) (fun _ _ _ _ h => h) (rU) ?_
  simp only [Act.put, List.setIfInBounds_toArray, List.set_cons_zero, List.set_cons_succ]
  refine held_value 25 _ _ (some 93) (.pointer (some ⟨G, 3, none⟩)) (by kernel_rfl) (by rfl) (by kernel_rfl) (fun u hS => by first | kernel_rfl | go_simp) (fun _ _ _ _ h => h) (rU) ?_
  simp only [Act.put, List.setIfInBounds_toArray, List.set_cons_zero, List.set_cons_succ]
  refine held_value 26 _ _ (some 94) (.int .i64 1) (by kernel_rfl) (by rfl) (by kernel_rfl) (fun u hS => by have h2 : u.cell? ⟨G, 3, none⟩ = some (.int .i64 1) := hS.cell 3; go_simp) (fun _ _ _ _ h => h) (rU) ?_
  simp only [Act.put, List.setIfInBounds_toArray, List.set_cons_zero, List.set_cons_succ]
  refine held_value 27 _ _ (some 95) (.int .i64 7) (by kernel_rfl) (by rfl) (by kernel_rfl) (fun u hS => by kernel_rfl) (fun _ _ _ _ h => h) (rU) ?_
  simp only [Act.put, List.setIfInBounds_toArray, List.set_cons_zero, List.set_cons_succ]
  refine held_value 28 _ _ (some 96) (.int .i64 128) (by kernel_rfl) (by rfl) (by kernel_rfl) (fun u hS => by kernel_rfl) (fun _ _ _ _ h => h) (rU) ?_
  simp only [Act.put, List.setIfInBounds_toArray, List.set_cons_zero, List.set_cons_succ]
  refine held_value 29 _ _ (some 97) (.bool true) (by kernel_rfl) (by rfl) (by kernel_rfl) (fun u hS => by kernel_rfl) (fun _ _ _ _ h => h) (rU) ?_
  simp only [Act.put, List.setIfInBounds_toArray, List.set_cons_zero, List.set_cons_succ]
  refine held_value 30 _ _ (some 98) (.bool true) (by kernel_rfl) (by rfl) (by kernel_rfl) (fun u hS => by kernel_rfl) (fun _ _ _ _ h => h) (rU) ?_
  simp only [Act.put, List.setIfInBounds_toArray, List.set_cons_zero, List.set_cons_succ]
  refine held_value 31 _ _ (some 2) (.bool true) (by kernel_rfl) (by rfl) (by kernel_rfl) (fun u hS => by first | kernel_rfl | go_simp) (fun _ _ _ _ h => h) (rU) ?_
  simp only [Act.put, List.setIfInBounds_toArray, List.set_cons_zero, List.set_cons_succ]
  refine wpAnyH_done (by kernel_rfl) ?_ _
  go_wp2
  go_ret
  exact ⟨rfl, F2.out⟩
set_option maxHeartbeats 1000000 in
theorem room_5 (c : Int) (s : Bool) (w : World) (hset : ∀ W, Calls Tryd.prog 18 #[.int .u32 c] W (OldIs (.tuple #[.agg #[.int .u32 c, .bool s, .int .i64 24, .int .i64 2, .int .i64 101, .int .i64 6], .int .i64 0]) W)) :
    Calls Tryd.prog 8 #[.int .u32 c] w (TrueIs w) := by
  unfold TrueIs
  go_enter Tryd.func8, Tryd.ntmps8
  go_wp2_with (go_at_call 18; refine (hset _).mono ?_)
  unfold OldIs
  rintro e w2 ⟨rfl, b2⟩
  obtain ⟨G, hG⟩ : ∃ G, Shh (G = w2.heap.size) := ⟨_, ⟨rfl⟩⟩
  go_wp2_with (first | refine wpList_store_any rfl 46 (.tmp 3) (.tmp 11) rfl G (by rw [hG.out]; rfl) [.int .u32 c, .bool s, .int .i64 24, .int .i64 2, .int .i64 101, .int .i64 6] rfl 46 _ (Row.new_ hG.out rfl) info_ots rfl oneCell6 ?_)
  intro Z hr bt _
  have F0 : Shh (Row Z G 46 [.int .u32 c, .bool s, .int .i64 24, .int .i64 2, .int .i64 101, .int .i64 6] ∧ Below w.heap.size w Z) := ⟨hr, Below.chain b2 ((Below.alloc (Below.refl _ _) (Nat.le_refl _) _).trans (bt.under (by have := hG.out; first | omega | (simp only [asz]; omega)) (by have := hG.out; omega)))⟩
  rw [← hG.out]
  clear hr bt b2 hG hset
  have c2 : Z.cell? ⟨G, 2, none⟩ = some (.int .i64 24) := F0.out.1.cell 2
  have c3 : Z.cell? ⟨G, 3, none⟩ = some (.int .i64 2) := F0.out.1.cell 3
  have c5 : Z.cell? ⟨G, 5, none⟩ = some (.int .i64 6) := F0.out.1.cell 5
  go_wp2
  refine wp_region_held_drew (S := fun w' => Row w' G 46 [.int .u32 c, .bool s, .int .i64 24, .int .i64 2, .int .i64 101, .int .i64 6]) (by kernel_rfl) F0.out.1.drew (fun hS => ?_)
  clear hS c2 c3 c5
  generalize hV : World.drew _ = V
  have rW : Row V G 46 [.int .u32 c, .bool s, .int .i64 24, .int .i64 2, .int .i64 101, .int .i64 6] := by rw [← hV]; exact F0.out.1.drew
  have F : Shh (Below w.heap.size w V) := ⟨by rw [← hV]; exact F0.out.2.drew⟩
  clear hV F0
  refine held_value 0 _ _ (some 55) (.pointer (some ⟨G, 3, none⟩)) (by kernel_rfl) (by rfl) (by kernel_rfl) (fun u hS => by first | kernel_rfl | go_simp) (fun _ _ _ _ h => h) (rW) ?_
  simp only [Act.put, List.setIfInBounds_toArray, List.set_cons_zero, List.set_cons_succ]
  refine held_value 1 _ _ (some 56) (.int .i64 2) (by kernel_rfl) (by rfl) (by kernel_rfl) (fun u hS => by have h2 : u.cell? ⟨G, 3, none⟩ = some (.int .i64 2) := hS.cell 3; go_simp) (fun _ _ _ _ h => h) (rW) ?_
  simp only [Act.put, List.setIfInBounds_toArray, List.set_cons_zero, List.set_cons_succ]
  refine held_value 2 _ _ (some 57) (.int .i64 4) (by kernel_rfl) (by rfl) (by kernel_rfl) (fun u hS => by kernel_rfl) (fun _ _ _ _ h => h) (rW) ?_
  simp only [Act.put, List.setIfInBounds_toArray, List.set_cons_zero, List.set_cons_succ]
  refine held_value 3 _ _ (some 58) (.int .i64 3) (by kernel_rfl) (by rfl) (by kernel_rfl) (fun u hS => by kernel_rfl) (fun _ _ _ _ h => h) (rW) ?_
  simp only [Act.put, List.setIfInBounds_toArray, List.set_cons_zero, List.set_cons_succ]
  refine held_value 4 _ _ (some 59) (.int .i64 96) (by kernel_rfl) (by rfl) (by kernel_rfl) (fun u hS => by first | kernel_rfl | go_simp) (fun _ _ _ _ h => h) (rW) ?_
  simp only [Act.put, List.setIfInBounds_toArray, List.set_cons_zero, List.set_cons_succ]
  refine held_value 5 _ _ (some 60) (.int .i64 288) (by kernel_rfl) (by rfl) (by kernel_rfl) (fun u hS => by kernel_rfl) (fun _ _ _ _ h => h) (rW) ?_
  simp only [Act.put, List.setIfInBounds_toArray, List.set_cons_zero, List.set_cons_succ]
  refine held_value 6 _ _ (some 61) (.pointer (some ⟨G, 5, none⟩)) (by kernel_rfl) (by rfl) (by kernel_rfl) (fun u hS => by first | kernel_rfl | go_simp) (fun _ _ _ _ h => h) (rW) ?_
  simp only [Act.put, List.setIfInBounds_toArray, List.set_cons_zero, List.set_cons_succ]
  refine held_value 7 _ _ (some 62) (.int .i64 6) (by kernel_rfl) (by rfl) (by kernel_rfl) (fun u hS => by have h2 : u.cell? ⟨G, 5, none⟩ = some (.int .i64 6) := hS.cell 5; go_simp) (fun _ _ _ _ h => h) (rW) ?_
  simp only [Act.put, List.setIfInBounds_toArray, List.set_cons_zero, List.set_cons_succ]
  refine held_value 8 _ _ (some 63) (.int .i64 18432) (by kernel_rfl) (by rfl) (by kernel_rfl) (fun u hS => by kernel_rfl) (fun _ _ _ _ h => h) (rW) ?_
  simp only [Act.put, List.setIfInBounds_toArray, List.set_cons_zero, List.set_cons_succ]
  refine held_value 9 _ _ (some 6) (.int .i64 18432) (by kernel_rfl) (by rfl) (by kernel_rfl) (fun u hS => by first | kernel_rfl | go_simp) (fun _ _ _ _ h => h) (rW) ?_
  simp only [Act.put, List.setIfInBounds_toArray, List.set_cons_zero, List.set_cons_succ]
  refine wpAnyH_done (by kernel_rfl) ?_ _
  have c4 : V.cell? ⟨G, 4, none⟩ = some (.int .i64 101) := rW.cell 4
  have hP : Shh (Row V G 46 [.int .u32 c, .bool s, .int .i64 24, .int .i64 2, .int .i64 101, .int .i64 6]) := ⟨rW⟩
  clear rW
  go_wp2
  refine wp_region_held_drew (S := fun w' => Row w' G 46 [.int .u32 c, .bool s, .int .i64 24, .int .i64 2, .int .i64 101, .int .i64 6]) (by kernel_rfl) hP.out.drew (fun hS => ?_)
  clear hS c4
  generalize hU : World.drew _ = U
  have rU : Row U G 46 [.int .u32 c, .bool s, .int .i64 24, .int .i64 2, .int .i64 101, .int .i64 6] := by rw [← hU]; exact hP.out.drew
  have F2 : Shh (Below w.heap.size w U) := ⟨by rw [← hU]; exact F.out.drew⟩
  clear hU hP F
  refine held_value 0 _ _ (some 68) (.int .i64 18432) (by kernel_rfl) (by rfl) (by kernel_rfl) (fun u hS => by first | kernel_rfl | go_simp) (fun _ _ _ _ h => h) (rU) ?_
  simp only [Act.put, List.setIfInBounds_toArray, List.set_cons_zero, List.set_cons_succ]
  refine held_value 1 _ _ (some 69) (.bool true) (by kernel_rfl) (by rfl) (by kernel_rfl) (fun u hS => by kernel_rfl) (fun _ _ _ _ h => h) (rU) ?_
  simp only [Act.put, List.setIfInBounds_toArray, List.set_cons_zero, List.set_cons_succ]
  refine held_value 2 _ _ (some 70) (.bool true) (by kernel_rfl) (by rfl) (by kernel_rfl) (fun u hS => by first | kernel_rfl | go_simp) (fun _ _ _ _ h => h) (rU) ?_
  simp only [Act.put, List.setIfInBounds_toArray, List.set_cons_zero, List.set_cons_succ]
  refine held_value 3 _ _ (some 71) (.int .i64 5) (by kernel_rfl) (by rfl) (by kernel_rfl) (fun u hS => by first | kernel_rfl | go_simp) (fun _ _ _ _ h => h) (rU) ?_
  simp only [Act.put, List.setIfInBounds_toArray, List.set_cons_zero, List.set_cons_succ]
  refine held_value 4 _ _ (some 72) (.bool true) (by kernel_rfl) (by rfl) (by kernel_rfl) (fun u hS => by kernel_rfl) (fun _ _ _ _ h => h) (rU) ?_
  simp only [Act.put, List.setIfInBounds_toArray, List.set_cons_zero, List.set_cons_succ]
  refine held_value 5 _ _ (some 73) (.bool true) (by kernel_rfl) (by rfl) (by kernel_rfl) (fun u hS => by kernel_rfl) (fun _ _ _ _ h => h) (rU) ?_
  simp only [Act.put, List.setIfInBounds_toArray, List.set_cons_zero, List.set_cons_succ]
  refine held_value 6 _ _ (some 74) (.bool true) (by kernel_rfl) (by rfl) (by kernel_rfl) (fun u hS => by first | kernel_rfl | go_simp) (fun _ _ _ _ h => h) (rU) ?_
  simp only [Act.put, List.setIfInBounds_toArray, List.set_cons_zero, List.set_cons_succ]
  refine held_value 7 _ _ (some 75) (.int .i64 5) (by kernel_rfl) (by rfl) (by kernel_rfl) (fun u hS => by first | kernel_rfl | go_simp) (fun _ _ _ _ h => h) (rU) ?_
  simp only [Act.put, List.setIfInBounds_toArray, List.set_cons_zero, List.set_cons_succ]
  refine held_value 8 _ _ (some 76) (.pointer (some ⟨G, 3, none⟩)) (by kernel_rfl) (by rfl) (by kernel_rfl) (fun u hS => by first | kernel_rfl | go_simp) (fun _ _ _ _ h => h) (rU) ?_
  simp only [Act.put, List.setIfInBounds_toArray, List.set_cons_zero, List.set_cons_succ]
  refine held_value 9 _ _ (some 77) (.int .i64 2) (by kernel_rfl) (by rfl) (by kernel_rfl) (fun u hS => by have h2 : u.cell? ⟨G, 3, none⟩ = some (.int .i64 2) := hS.cell 3; go_simp) (fun _ _ _ _ h => h) (rU) ?_
  simp only [Act.put, List.setIfInBounds_toArray, List.set_cons_zero, List.set_cons_succ]
  refine held_value 10 _ _ (some 78) (.int .i64 10) (by kernel_rfl) (by rfl) (by kernel_rfl) (fun u hS => by kernel_rfl) (fun _ _ _ _ h => h) (rU) ?_
  simp only [Act.put, List.setIfInBounds_toArray, List.set_cons_zero, List.set_cons_succ]
  refine held_value 11 _ _ (some 79) (.pointer (some ⟨G, 5, none⟩)) (by kernel_rfl) (by rfl) (by kernel_rfl) (fun u hS => by first | kernel_rfl | go_simp) (fun _ _ _ _ h => h) (rU) ?_
  simp only [Act.put, List.setIfInBounds_toArray, List.set_cons_zero, List.set_cons_succ]
  refine held_value 12 _ _ (some 80) (.int .i64 6) (by kernel_rfl) (by rfl) (by kernel_rfl) (fun u hS => by have h2 : u.cell? ⟨G, 5, none⟩ = some (.int .i64 6) := hS.cell 5; go_simp) (fun _ _ _ _ h => h) (rU) ?_
  simp only [Act.put, List.setIfInBounds_toArray, List.set_cons_zero, List.set_cons_succ]
  refine held_value 13 _ _ (some 81) (.int .i64 16) (by kernel_rfl) (by rfl) (by kernel_rfl) (fun u hS => by kernel_rfl) (fun _ _ _ _ h => h) (rU) ?_
  simp only [Act.put, List.setIfInBounds_toArray, List.set_cons_zero, List.set_cons_succ]
  refine held_value 14 _ _ (some 82) (.bool true) (by kernel_rfl) (by rfl) (by kernel_rfl) (fun u hS => by kernel_rfl) (fun _ _ _ _ h => h) (rU) ?_
  simp only [Act.put, List.setIfInBounds_toArray, List.set_cons_zero, List.set_cons_succ]
  refine held_value 15 _ _ (some 83) (.bool true) (by kernel_rfl) (by rfl) (by kernel_rfl) (fun u hS => by kernel_rfl) (fun _ _ _ _ h => h) (rU) ?_
  simp only [Act.put, List.setIfInBounds_toArray, List.set_cons_zero, List.set_cons_succ]
  refine held_value 16 _ _ (some 84) (.bool true) (by kernel_rfl) (by rfl) (by kernel_rfl) (fun u hS => by first | kernel_rfl | go_simp) (fun _ _ _ _ h => h) (rU) ?_
  simp only [Act.put, List.setIfInBounds_toArray, List.set_cons_zero, List.set_cons_succ]
  refine held_value 17 _ _ (some 85) (.pointer (some ⟨G, 3, none⟩)) (by kernel_rfl) (by rfl) (by kernel_rfl) (fun u hS => by first | kernel_rfl | go_simp) (fun _ _ _ _ h => h) (rU) ?_
  simp only [Act.put, List.setIfInBounds_toArray, List.set_cons_zero, List.set_cons_succ]
  refine held_value 18 _ _ (some 86) (.int .i64 2) (by kernel_rfl) (by rfl) (by kernel_rfl) (fun u hS => by have h2 : u.cell? ⟨G, 3, none⟩ = some (.int .i64 2) := hS.cell 3; go_simp) (fun _ _ _ _ h => h) (rU) ?_
  simp only [Act.put, List.setIfInBounds_toArray, List.set_cons_zero, List.set_cons_succ]
  refine held_value 19 _ _ (some 87) (.int .i64 4) (by kernel_rfl) (by rfl) (by kernel_rfl) (fun u hS => by kernel_rfl) (fun _ _ _ _ h => h) (rU) ?_
  simp only [Act.put, List.setIfInBounds_toArray, List.set_cons_zero, List.set_cons_succ]
  refine held_value 20 _ _ (some 88) (.int .i64 3) (by kernel_rfl) (by rfl) (by kernel_rfl) (fun u hS => by kernel_rfl) (fun _ _ _ _ h => h) (rU) ?_
  simp only [Act.put, List.setIfInBounds_toArray, List.set_cons_zero, List.set_cons_succ]
  refine held_value 21 _ _ (some 89) (.int .i64 96) (by kernel_rfl) (by rfl) (by kernel_rfl) (fun u hS => by first | kernel_rfl | go_simp) (fun _ _ _ _ h => h) (rU) ?_
  simp only [Act.put, List.setIfInBounds_toArray, List.set_cons_zero, List.set_cons_succ]
  refine held_value 22 _ _ (some 90) (.int .i64 288) (by kernel_rfl) (by rfl) (by kernel_rfl) (fun u hS => by kernel_rfl) (fun _ _ _ _ h => h) (rU) ?_
  simp only [Act.put, List.setIfInBounds_toArray, List.set_cons_zero, List.set_cons_succ]
  refine held_value 23 _ _ (some 91) (.int .i64 5) (by kernel_rfl) (by rfl) (by kernel_rfl) (fun u hS => by first | kernel_rfl | go_simp) (fun _ _ _ _ h => h) (rU) ?_
  simp only [Act.put, List.setIfInBounds_toArray, List.set_cons_zero, List.set_cons_succ]
  refine held_value 24 _ _ (some 92) (.int .i64 4) (by kernel_rfl) (by rfl) (by kernel_rfl) (fun u hS => by kernel_rfl) (fun _ _ _ _ h => h) (rU) ?_
  simp only [Act.put, List.setIfInBounds_toArray, List.set_cons_zero, List.set_cons_succ]
  refine held_value 25 _ _ (some 93) (.pointer (some ⟨G, 3, none⟩)) (by kernel_rfl) (by rfl) (by kernel_rfl) (fun u hS => by first | kernel_rfl | go_simp) (fun _ _ _ _ h => h) (rU) ?_
  simp only [Act.put, List.setIfInBounds_toArray, List.set_cons_zero, List.set_cons_succ]
  refine held_value 26 _ _ (some 94) (.int .i64 2) (by kernel_rfl) (by rfl) (by kernel_rfl) (fun u hS => by have h2 : u.cell? ⟨G, 3, none⟩ = some (.int .i64 2) := hS.cell 3; go_simp) (fun _ _ _ _ h => h) (rU) ?_
  simp only [Act.put, List.setIfInBounds_toArray, List.set_cons_zero, List.set_cons_succ]
  refine held_value 27 _ _ (some 95) (.int .i64 8) (by kernel_rfl) (by rfl) (by kernel_rfl) (fun u hS => by kernel_rfl) (fun _ _ _ _ h => h) (rU) ?_
  simp only [Act.put, List.setIfInBounds_toArray, List.set_cons_zero, List.set_cons_succ]
  refine held_value 28 _ _ (some 96) (.int .i64 256) (by kernel_rfl) (by rfl) (by kernel_rfl) (fun u hS => by kernel_rfl) (fun _ _ _ _ h => h) (rU) ?_
  simp only [Act.put, List.setIfInBounds_toArray, List.set_cons_zero, List.set_cons_succ]
  refine held_value 29 _ _ (some 97) (.bool true) (by kernel_rfl) (by rfl) (by kernel_rfl) (fun u hS => by kernel_rfl) (fun _ _ _ _ h => h) (rU) ?_
  simp only [Act.put, List.setIfInBounds_toArray, List.set_cons_zero, List.set_cons_succ]
  refine held_value 30 _ _ (some 98) (.bool true) (by kernel_rfl) (by rfl) (by kernel_rfl) (fun u hS => by kernel_rfl) (fun _ _ _ _ h => h) (rU) ?_
  simp only [Act.put, List.setIfInBounds_toArray, List.set_cons_zero, List.set_cons_succ]
  refine held_value 31 _ _ (some 2) (.bool true) (by kernel_rfl) (by rfl) (by kernel_rfl) (fun u hS => by first | kernel_rfl | go_simp) (fun _ _ _ _ h => h) (rU) ?_
  simp only [Act.put, List.setIfInBounds_toArray, List.set_cons_zero, List.set_cons_succ]
  refine wpAnyH_done (by kernel_rfl) ?_ _
  go_wp2
  go_ret
  exact ⟨rfl, F2.out⟩
set_option maxHeartbeats 1000000 in
theorem room_6 (c : Int) (s : Bool) (w : World) (hset : ∀ W, Calls Tryd.prog 18 #[.int .u32 c] W (OldIs (.tuple #[.agg #[.int .u32 c, .bool s, .int .i64 24, .int .i64 4, .int .i64 51, .int .i64 4], .int .i64 0]) W)) :
    Calls Tryd.prog 8 #[.int .u32 c] w (TrueIs w) := by
  unfold TrueIs
  go_enter Tryd.func8, Tryd.ntmps8
  go_wp2_with (go_at_call 18; refine (hset _).mono ?_)
  unfold OldIs
  rintro e w2 ⟨rfl, b2⟩
  obtain ⟨G, hG⟩ : ∃ G, Shh (G = w2.heap.size) := ⟨_, ⟨rfl⟩⟩
  go_wp2_with (first | refine wpList_store_any rfl 46 (.tmp 3) (.tmp 11) rfl G (by rw [hG.out]; rfl) [.int .u32 c, .bool s, .int .i64 24, .int .i64 4, .int .i64 51, .int .i64 4] rfl 46 _ (Row.new_ hG.out rfl) info_ots rfl oneCell6 ?_)
  intro Z hr bt _
  have F0 : Shh (Row Z G 46 [.int .u32 c, .bool s, .int .i64 24, .int .i64 4, .int .i64 51, .int .i64 4] ∧ Below w.heap.size w Z) := ⟨hr, Below.chain b2 ((Below.alloc (Below.refl _ _) (Nat.le_refl _) _).trans (bt.under (by have := hG.out; first | omega | (simp only [asz]; omega)) (by have := hG.out; omega)))⟩
  rw [← hG.out]
  clear hr bt b2 hG hset
  have c2 : Z.cell? ⟨G, 2, none⟩ = some (.int .i64 24) := F0.out.1.cell 2
  have c3 : Z.cell? ⟨G, 3, none⟩ = some (.int .i64 4) := F0.out.1.cell 3
  have c5 : Z.cell? ⟨G, 5, none⟩ = some (.int .i64 4) := F0.out.1.cell 5
  go_wp2
  refine wp_region_held_drew (S := fun w' => Row w' G 46 [.int .u32 c, .bool s, .int .i64 24, .int .i64 4, .int .i64 51, .int .i64 4]) (by kernel_rfl) F0.out.1.drew (fun hS => ?_)
  clear hS c2 c3 c5
  generalize hV : World.drew _ = V
  have rW : Row V G 46 [.int .u32 c, .bool s, .int .i64 24, .int .i64 4, .int .i64 51, .int .i64 4] := by rw [← hV]; exact F0.out.1.drew
  have F : Shh (Below w.heap.size w V) := ⟨by rw [← hV]; exact F0.out.2.drew⟩
  clear hV F0
  refine held_value 0 _ _ (some 55) (.pointer (some ⟨G, 3, none⟩)) (by kernel_rfl) (by rfl) (by kernel_rfl) (fun u hS => by first | kernel_rfl | go_simp) (fun _ _ _ _ h => h) (rW) ?_
  simp only [Act.put, List.setIfInBounds_toArray, List.set_cons_zero, List.set_cons_succ]
  refine held_value 1 _ _ (some 56) (.int .i64 4) (by kernel_rfl) (by rfl) (by kernel_rfl) (fun u hS => by have h2 : u.cell? ⟨G, 3, none⟩ = some (.int .i64 4) := hS.cell 3; go_simp) (fun _ _ _ _ h => h) (rW) ?_
  simp only [Act.put, List.setIfInBounds_toArray, List.set_cons_zero, List.set_cons_succ]
  refine held_value 2 _ _ (some 57) (.int .i64 16) (by kernel_rfl) (by rfl) (by kernel_rfl) (fun u hS => by kernel_rfl) (fun _ _ _ _ h => h) (rW) ?_
  simp only [Act.put, List.setIfInBounds_toArray, List.set_cons_zero, List.set_cons_succ]
  refine held_value 3 _ _ (some 58) (.int .i64 15) (by kernel_rfl) (by rfl) (by kernel_rfl) (fun u hS => by kernel_rfl) (fun _ _ _ _ h => h) (rW) ?_
  simp only [Act.put, List.setIfInBounds_toArray, List.set_cons_zero, List.set_cons_succ]
  refine held_value 4 _ _ (some 59) (.int .i64 48) (by kernel_rfl) (by rfl) (by kernel_rfl) (fun u hS => by first | kernel_rfl | go_simp) (fun _ _ _ _ h => h) (rW) ?_
  simp only [Act.put, List.setIfInBounds_toArray, List.set_cons_zero, List.set_cons_succ]
  refine held_value 5 _ _ (some 60) (.int .i64 720) (by kernel_rfl) (by rfl) (by kernel_rfl) (fun u hS => by kernel_rfl) (fun _ _ _ _ h => h) (rW) ?_
  simp only [Act.put, List.setIfInBounds_toArray, List.set_cons_zero, List.set_cons_succ]
  refine held_value 6 _ _ (some 61) (.pointer (some ⟨G, 5, none⟩)) (by kernel_rfl) (by rfl) (by kernel_rfl) (fun u hS => by first | kernel_rfl | go_simp) (fun _ _ _ _ h => h) (rW) ?_
  simp only [Act.put, List.setIfInBounds_toArray, List.set_cons_zero, List.set_cons_succ]
  refine held_value 7 _ _ (some 62) (.int .i64 4) (by kernel_rfl) (by rfl) (by kernel_rfl) (fun u hS => by have h2 : u.cell? ⟨G, 5, none⟩ = some (.int .i64 4) := hS.cell 5; go_simp) (fun _ _ _ _ h => h) (rW) ?_
  simp only [Act.put, List.setIfInBounds_toArray, List.set_cons_zero, List.set_cons_succ]
  refine held_value 8 _ _ (some 63) (.int .i64 11520) (by kernel_rfl) (by rfl) (by kernel_rfl) (fun u hS => by kernel_rfl) (fun _ _ _ _ h => h) (rW) ?_
  simp only [Act.put, List.setIfInBounds_toArray, List.set_cons_zero, List.set_cons_succ]
  refine held_value 9 _ _ (some 6) (.int .i64 11520) (by kernel_rfl) (by rfl) (by kernel_rfl) (fun u hS => by first | kernel_rfl | go_simp) (fun _ _ _ _ h => h) (rW) ?_
  simp only [Act.put, List.setIfInBounds_toArray, List.set_cons_zero, List.set_cons_succ]
  refine wpAnyH_done (by kernel_rfl) ?_ _
  have c4 : V.cell? ⟨G, 4, none⟩ = some (.int .i64 51) := rW.cell 4
  have hP : Shh (Row V G 46 [.int .u32 c, .bool s, .int .i64 24, .int .i64 4, .int .i64 51, .int .i64 4]) := ⟨rW⟩
  clear rW
  go_wp2
  refine wp_region_held_drew (S := fun w' => Row w' G 46 [.int .u32 c, .bool s, .int .i64 24, .int .i64 4, .int .i64 51, .int .i64 4]) (by kernel_rfl) hP.out.drew (fun hS => ?_)
  clear hS c4
  generalize hU : World.drew _ = U
  have rU : Row U G 46 [.int .u32 c, .bool s, .int .i64 24, .int .i64 4, .int .i64 51, .int .i64 4] := by rw [← hU]; exact hP.out.drew
  have F2 : Shh (Below w.heap.size w U) := ⟨by rw [← hU]; exact F.out.drew⟩
  clear hU hP F
  refine held_value 0 _ _ (some 68) (.int .i64 11520) (by kernel_rfl) (by rfl) (by kernel_rfl) (fun u hS => by first | kernel_rfl | go_simp) (fun _ _ _ _ h => h) (rU) ?_
  simp only [Act.put, List.setIfInBounds_toArray, List.set_cons_zero, List.set_cons_succ]
  refine held_value 1 _ _ (some 69) (.bool true) (by kernel_rfl) (by rfl) (by kernel_rfl) (fun u hS => by kernel_rfl) (fun _ _ _ _ h => h) (rU) ?_
  simp only [Act.put, List.setIfInBounds_toArray, List.set_cons_zero, List.set_cons_succ]
  refine held_value 2 _ _ (some 70) (.bool true) (by kernel_rfl) (by rfl) (by kernel_rfl) (fun u hS => by first | kernel_rfl | go_simp) (fun _ _ _ _ h => h) (rU) ?_
  simp only [Act.put, List.setIfInBounds_toArray, List.set_cons_zero, List.set_cons_succ]
  refine held_value 3 _ _ (some 71) (.int .i64 3) (by kernel_rfl) (by rfl) (by kernel_rfl) (fun u hS => by first | kernel_rfl | go_simp) (fun _ _ _ _ h => h) (rU) ?_
  simp only [Act.put, List.setIfInBounds_toArray, List.set_cons_zero, List.set_cons_succ]
  refine held_value 4 _ _ (some 72) (.bool true) (by kernel_rfl) (by rfl) (by kernel_rfl) (fun u hS => by kernel_rfl) (fun _ _ _ _ h => h) (rU) ?_
  simp only [Act.put, List.setIfInBounds_toArray, List.set_cons_zero, List.set_cons_succ]
  refine held_value 5 _ _ (some 73) (.bool true) (by kernel_rfl) (by rfl) (by kernel_rfl) (fun u hS => by kernel_rfl) (fun _ _ _ _ h => h) (rU) ?_
  simp only [Act.put, List.setIfInBounds_toArray, List.set_cons_zero, List.set_cons_succ]
  refine held_value 6 _ _ (some 74) (.bool true) (by kernel_rfl) (by rfl) (by kernel_rfl) (fun u hS => by first | kernel_rfl | go_simp) (fun _ _ _ _ h => h) (rU) ?_
  simp only [Act.put, List.setIfInBounds_toArray, List.set_cons_zero, List.set_cons_succ]
  refine held_value 7 _ _ (some 75) (.int .i64 3) (by kernel_rfl) (by rfl) (by kernel_rfl) (fun u hS => by first | kernel_rfl | go_simp) (fun _ _ _ _ h => h) (rU) ?_
  simp only [Act.put, List.setIfInBounds_toArray, List.set_cons_zero, List.set_cons_succ]
  refine held_value 8 _ _ (some 76) (.pointer (some ⟨G, 3, none⟩)) (by kernel_rfl) (by rfl) (by kernel_rfl) (fun u hS => by first | kernel_rfl | go_simp) (fun _ _ _ _ h => h) (rU) ?_
  simp only [Act.put, List.setIfInBounds_toArray, List.set_cons_zero, List.set_cons_succ]
  refine held_value 9 _ _ (some 77) (.int .i64 4) (by kernel_rfl) (by rfl) (by kernel_rfl) (fun u hS => by have h2 : u.cell? ⟨G, 3, none⟩ = some (.int .i64 4) := hS.cell 3; go_simp) (fun _ _ _ _ h => h) (rU) ?_
  simp only [Act.put, List.setIfInBounds_toArray, List.set_cons_zero, List.set_cons_succ]
  refine held_value 10 _ _ (some 78) (.int .i64 12) (by kernel_rfl) (by rfl) (by kernel_rfl) (fun u hS => by kernel_rfl) (fun _ _ _ _ h => h) (rU) ?_
  simp only [Act.put, List.setIfInBounds_toArray, List.set_cons_zero, List.set_cons_succ]
  refine held_value 11 _ _ (some 79) (.pointer (some ⟨G, 5, none⟩)) (by kernel_rfl) (by rfl) (by kernel_rfl) (fun u hS => by first | kernel_rfl | go_simp) (fun _ _ _ _ h => h) (rU) ?_
  simp only [Act.put, List.setIfInBounds_toArray, List.set_cons_zero, List.set_cons_succ]
  refine held_value 12 _ _ (some 80) (.int .i64 4) (by kernel_rfl) (by rfl) (by kernel_rfl) (fun u hS => by have h2 : u.cell? ⟨G, 5, none⟩ = some (.int .i64 4) := hS.cell 5; go_simp) (fun _ _ _ _ h => h) (rU) ?_
  simp only [Act.put, List.setIfInBounds_toArray, List.set_cons_zero, List.set_cons_succ]
  refine held_value 13 _ _ (some 81) (.int .i64 16) (by kernel_rfl) (by rfl) (by kernel_rfl) (fun u hS => by kernel_rfl) (fun _ _ _ _ h => h) (rU) ?_
  simp only [Act.put, List.setIfInBounds_toArray, List.set_cons_zero, List.set_cons_succ]
  refine held_value 14 _ _ (some 82) (.bool true) (by kernel_rfl) (by rfl) (by kernel_rfl) (fun u hS => by kernel_rfl) (fun _ _ _ _ h => h) (rU) ?_
  simp only [Act.put, List.setIfInBounds_toArray, List.set_cons_zero, List.set_cons_succ]
  refine held_value 15 _ _ (some 83) (.bool true) (by kernel_rfl) (by rfl) (by kernel_rfl) (fun u hS => by kernel_rfl) (fun _ _ _ _ h => h) (rU) ?_
  simp only [Act.put, List.setIfInBounds_toArray, List.set_cons_zero, List.set_cons_succ]
  refine held_value 16 _ _ (some 84) (.bool true) (by kernel_rfl) (by rfl) (by kernel_rfl) (fun u hS => by first | kernel_rfl | go_simp) (fun _ _ _ _ h => h) (rU) ?_
  simp only [Act.put, List.setIfInBounds_toArray, List.set_cons_zero, List.set_cons_succ]
  refine held_value 17 _ _ (some 85) (.pointer (some ⟨G, 3, none⟩)) (by kernel_rfl) (by rfl) (by kernel_rfl) (fun u hS => by first | kernel_rfl | go_simp) (fun _ _ _ _ h => h) (rU) ?_
  simp only [Act.put, List.setIfInBounds_toArray, List.set_cons_zero, List.set_cons_succ]
  refine held_value 18 _ _ (some 86) (.int .i64 4) (by kernel_rfl) (by rfl) (by kernel_rfl) (fun u hS => by have h2 : u.cell? ⟨G, 3, none⟩ = some (.int .i64 4) := hS.cell 3; go_simp) (fun _ _ _ _ h => h) (rU) ?_
  simp only [Act.put, List.setIfInBounds_toArray, List.set_cons_zero, List.set_cons_succ]
  refine held_value 19 _ _ (some 87) (.int .i64 16) (by kernel_rfl) (by rfl) (by kernel_rfl) (fun u hS => by kernel_rfl) (fun _ _ _ _ h => h) (rU) ?_
  simp only [Act.put, List.setIfInBounds_toArray, List.set_cons_zero, List.set_cons_succ]
  refine held_value 20 _ _ (some 88) (.int .i64 15) (by kernel_rfl) (by rfl) (by kernel_rfl) (fun u hS => by kernel_rfl) (fun _ _ _ _ h => h) (rU) ?_
  simp only [Act.put, List.setIfInBounds_toArray, List.set_cons_zero, List.set_cons_succ]
  refine held_value 21 _ _ (some 89) (.int .i64 48) (by kernel_rfl) (by rfl) (by kernel_rfl) (fun u hS => by first | kernel_rfl | go_simp) (fun _ _ _ _ h => h) (rU) ?_
  simp only [Act.put, List.setIfInBounds_toArray, List.set_cons_zero, List.set_cons_succ]
  refine held_value 22 _ _ (some 90) (.int .i64 720) (by kernel_rfl) (by rfl) (by kernel_rfl) (fun u hS => by kernel_rfl) (fun _ _ _ _ h => h) (rU) ?_
  simp only [Act.put, List.setIfInBounds_toArray, List.set_cons_zero, List.set_cons_succ]
  refine held_value 23 _ _ (some 91) (.int .i64 3) (by kernel_rfl) (by rfl) (by kernel_rfl) (fun u hS => by first | kernel_rfl | go_simp) (fun _ _ _ _ h => h) (rU) ?_
  simp only [Act.put, List.setIfInBounds_toArray, List.set_cons_zero, List.set_cons_succ]
  refine held_value 24 _ _ (some 92) (.int .i64 2) (by kernel_rfl) (by rfl) (by kernel_rfl) (fun u hS => by kernel_rfl) (fun _ _ _ _ h => h) (rU) ?_
  simp only [Act.put, List.setIfInBounds_toArray, List.set_cons_zero, List.set_cons_succ]
  refine held_value 25 _ _ (some 93) (.pointer (some ⟨G, 3, none⟩)) (by kernel_rfl) (by rfl) (by kernel_rfl) (fun u hS => by first | kernel_rfl | go_simp) (fun _ _ _ _ h => h) (rU) ?_
  simp only [Act.put, List.setIfInBounds_toArray, List.set_cons_zero, List.set_cons_succ]
  refine held_value 26 _ _ (some 94) (.int .i64 4) (by kernel_rfl) (by rfl) (by kernel_rfl) (fun u hS => by have h2 : u.cell? ⟨G, 3, none⟩ = some (.int .i64 4) := hS.cell 3; go_simp) (fun _ _ _ _ h => h) (rU) ?_
  simp only [Act.put, List.setIfInBounds_toArray, List.set_cons_zero, List.set_cons_succ]
  refine held_value 27 _ _ (some 95) (.int .i64 8) (by kernel_rfl) (by rfl) (by kernel_rfl) (fun u hS => by kernel_rfl) (fun _ _ _ _ h => h) (rU) ?_
  simp only [Act.put, List.setIfInBounds_toArray, List.set_cons_zero, List.set_cons_succ]
  refine held_value 28 _ _ (some 96) (.int .i64 256) (by kernel_rfl) (by rfl) (by kernel_rfl) (fun u hS => by kernel_rfl) (fun _ _ _ _ h => h) (rU) ?_
  simp only [Act.put, List.setIfInBounds_toArray, List.set_cons_zero, List.set_cons_succ]
  refine held_value 29 _ _ (some 97) (.bool true) (by kernel_rfl) (by rfl) (by kernel_rfl) (fun u hS => by kernel_rfl) (fun _ _ _ _ h => h) (rU) ?_
  simp only [Act.put, List.setIfInBounds_toArray, List.set_cons_zero, List.set_cons_succ]
  refine held_value 30 _ _ (some 98) (.bool true) (by kernel_rfl) (by rfl) (by kernel_rfl) (fun u hS => by kernel_rfl) (fun _ _ _ _ h => h) (rU) ?_
  simp only [Act.put, List.setIfInBounds_toArray, List.set_cons_zero, List.set_cons_succ]
  refine held_value 31 _ _ (some 2) (.bool true) (by kernel_rfl) (by rfl) (by kernel_rfl) (fun u hS => by first | kernel_rfl | go_simp) (fun _ _ _ _ h => h) (rU) ?_
  simp only [Act.put, List.setIfInBounds_toArray, List.set_cons_zero, List.set_cons_succ]
  refine wpAnyH_done (by kernel_rfl) ?_ _
  go_wp2
  go_ret
  exact ⟨rfl, F2.out⟩
set_option maxHeartbeats 1000000 in
theorem room_7 (c : Int) (s : Bool) (w : World) (hset : ∀ W, Calls Tryd.prog 18 #[.int .u32 c] W (OldIs (.tuple #[.agg #[.int .u32 c, .bool s, .int .i64 24, .int .i64 8, .int .i64 26, .int .i64 0], .int .i64 0]) W)) :
    Calls Tryd.prog 8 #[.int .u32 c] w (TrueIs w) := by
  unfold TrueIs
  go_enter Tryd.func8, Tryd.ntmps8
  go_wp2_with (go_at_call 18; refine (hset _).mono ?_)
  unfold OldIs
  rintro e w2 ⟨rfl, b2⟩
  obtain ⟨G, hG⟩ : ∃ G, Shh (G = w2.heap.size) := ⟨_, ⟨rfl⟩⟩
  go_wp2_with (first | refine wpList_store_any rfl 46 (.tmp 3) (.tmp 11) rfl G (by rw [hG.out]; rfl) [.int .u32 c, .bool s, .int .i64 24, .int .i64 8, .int .i64 26, .int .i64 0] rfl 46 _ (Row.new_ hG.out rfl) info_ots rfl oneCell6 ?_)
  intro Z hr bt _
  have F0 : Shh (Row Z G 46 [.int .u32 c, .bool s, .int .i64 24, .int .i64 8, .int .i64 26, .int .i64 0] ∧ Below w.heap.size w Z) := ⟨hr, Below.chain b2 ((Below.alloc (Below.refl _ _) (Nat.le_refl _) _).trans (bt.under (by have := hG.out; first | omega | (simp only [asz]; omega)) (by have := hG.out; omega)))⟩
  rw [← hG.out]
  clear hr bt b2 hG hset
  have c2 : Z.cell? ⟨G, 2, none⟩ = some (.int .i64 24) := F0.out.1.cell 2
  have c3 : Z.cell? ⟨G, 3, none⟩ = some (.int .i64 8) := F0.out.1.cell 3
  have c5 : Z.cell? ⟨G, 5, none⟩ = some (.int .i64 0) := F0.out.1.cell 5
  go_wp2
  refine wp_region_held_drew (S := fun w' => Row w' G 46 [.int .u32 c, .bool s, .int .i64 24, .int .i64 8, .int .i64 26, .int .i64 0]) (by kernel_rfl) F0.out.1.drew (fun hS => ?_)
  clear hS c2 c3 c5
  generalize hV : World.drew _ = V
  have rW : Row V G 46 [.int .u32 c, .bool s, .int .i64 24, .int .i64 8, .int .i64 26, .int .i64 0] := by rw [← hV]; exact F0.out.1.drew
  have F : Shh (Below w.heap.size w V) := ⟨by rw [← hV]; exact F0.out.2.drew⟩
  clear hV F0
  refine held_value 0 _ _ (some 55) (.pointer (some ⟨G, 3, none⟩)) (by kernel_rfl) (by rfl) (by kernel_rfl) (fun u hS => by first | kernel_rfl | go_simp) (fun _ _ _ _ h => h) (rW) ?_
  simp only [Act.put, List.setIfInBounds_toArray, List.set_cons_zero, List.set_cons_succ]
  refine held_value 1 _ _ (some 56) (.int .i64 8) (by kernel_rfl) (by rfl) (by kernel_rfl) (fun u hS => by have h2 : u.cell? ⟨G, 3, none⟩ = some (.int .i64 8) := hS.cell 3; go_simp) (fun _ _ _ _ h => h) (rW) ?_
  simp only [Act.put, List.setIfInBounds_toArray, List.set_cons_zero, List.set_cons_succ]
  refine held_value 2 _ _ (some 57) (.int .i64 256) (by kernel_rfl) (by rfl) (by kernel_rfl) (fun u hS => by kernel_rfl) (fun _ _ _ _ h => h) (rW) ?_
  simp only [Act.put, List.setIfInBounds_toArray, List.set_cons_zero, List.set_cons_succ]
  refine held_value 3 _ _ (some 58) (.int .i64 255) (by kernel_rfl) (by rfl) (by kernel_rfl) (fun u hS => by kernel_rfl) (fun _ _ _ _ h => h) (rW) ?_
  simp only [Act.put, List.setIfInBounds_toArray, List.set_cons_zero, List.set_cons_succ]
  refine held_value 4 _ _ (some 59) (.int .i64 24) (by kernel_rfl) (by rfl) (by kernel_rfl) (fun u hS => by first | kernel_rfl | go_simp) (fun _ _ _ _ h => h) (rW) ?_
  simp only [Act.put, List.setIfInBounds_toArray, List.set_cons_zero, List.set_cons_succ]
  refine held_value 5 _ _ (some 60) (.int .i64 6120) (by kernel_rfl) (by rfl) (by kernel_rfl) (fun u hS => by kernel_rfl) (fun _ _ _ _ h => h) (rW) ?_
  simp only [Act.put, List.setIfInBounds_toArray, List.set_cons_zero, List.set_cons_succ]
  refine held_value 6 _ _ (some 61) (.pointer (some ⟨G, 5, none⟩)) (by kernel_rfl) (by rfl) (by kernel_rfl) (fun u hS => by first | kernel_rfl | go_simp) (fun _ _ _ _ h => h) (rW) ?_
  simp only [Act.put, List.setIfInBounds_toArray, List.set_cons_zero, List.set_cons_succ]
  refine held_value 7 _ _ (some 62) (.int .i64 0) (by kernel_rfl) (by rfl) (by kernel_rfl) (fun u hS => by have h2 : u.cell? ⟨G, 5, none⟩ = some (.int .i64 0) := hS.cell 5; go_simp) (fun _ _ _ _ h => h) (rW) ?_
  simp only [Act.put, List.setIfInBounds_toArray, List.set_cons_zero, List.set_cons_succ]
  refine held_value 8 _ _ (some 63) (.int .i64 6120) (by kernel_rfl) (by rfl) (by kernel_rfl) (fun u hS => by kernel_rfl) (fun _ _ _ _ h => h) (rW) ?_
  simp only [Act.put, List.setIfInBounds_toArray, List.set_cons_zero, List.set_cons_succ]
  refine held_value 9 _ _ (some 6) (.int .i64 6120) (by kernel_rfl) (by rfl) (by kernel_rfl) (fun u hS => by first | kernel_rfl | go_simp) (fun _ _ _ _ h => h) (rW) ?_
  simp only [Act.put, List.setIfInBounds_toArray, List.set_cons_zero, List.set_cons_succ]
  refine wpAnyH_done (by kernel_rfl) ?_ _
  have c4 : V.cell? ⟨G, 4, none⟩ = some (.int .i64 26) := rW.cell 4
  have hP : Shh (Row V G 46 [.int .u32 c, .bool s, .int .i64 24, .int .i64 8, .int .i64 26, .int .i64 0]) := ⟨rW⟩
  clear rW
  go_wp2
  refine wp_region_held_drew (S := fun w' => Row w' G 46 [.int .u32 c, .bool s, .int .i64 24, .int .i64 8, .int .i64 26, .int .i64 0]) (by kernel_rfl) hP.out.drew (fun hS => ?_)
  clear hS c4
  generalize hU : World.drew _ = U
  have rU : Row U G 46 [.int .u32 c, .bool s, .int .i64 24, .int .i64 8, .int .i64 26, .int .i64 0] := by rw [← hU]; exact hP.out.drew
  have F2 : Shh (Below w.heap.size w U) := ⟨by rw [← hU]; exact F.out.drew⟩
  clear hU hP F
  refine held_value 0 _ _ (some 68) (.int .i64 6120) (by kernel_rfl) (by rfl) (by kernel_rfl) (fun u hS => by first | kernel_rfl | go_simp) (fun _ _ _ _ h => h) (rU) ?_
  simp only [Act.put, List.setIfInBounds_toArray, List.set_cons_zero, List.set_cons_succ]
  refine held_value 1 _ _ (some 69) (.bool true) (by kernel_rfl) (by rfl) (by kernel_rfl) (fun u hS => by kernel_rfl) (fun _ _ _ _ h => h) (rU) ?_
  simp only [Act.put, List.setIfInBounds_toArray, List.set_cons_zero, List.set_cons_succ]
  refine held_value 2 _ _ (some 70) (.bool true) (by kernel_rfl) (by rfl) (by kernel_rfl) (fun u hS => by first | kernel_rfl | go_simp) (fun _ _ _ _ h => h) (rU) ?_
  simp only [Act.put, List.setIfInBounds_toArray, List.set_cons_zero, List.set_cons_succ]
  refine held_value 3 _ _ (some 71) (.int .i64 2) (by kernel_rfl) (by rfl) (by kernel_rfl) (fun u hS => by first | kernel_rfl | go_simp) (fun _ _ _ _ h => h) (rU) ?_
  simp only [Act.put, List.setIfInBounds_toArray, List.set_cons_zero, List.set_cons_succ]
  refine held_value 4 _ _ (some 72) (.bool true) (by kernel_rfl) (by rfl) (by kernel_rfl) (fun u hS => by kernel_rfl) (fun _ _ _ _ h => h) (rU) ?_
  simp only [Act.put, List.setIfInBounds_toArray, List.set_cons_zero, List.set_cons_succ]
  refine held_value 5 _ _ (some 73) (.bool true) (by kernel_rfl) (by rfl) (by kernel_rfl) (fun u hS => by kernel_rfl) (fun _ _ _ _ h => h) (rU) ?_
  simp only [Act.put, List.setIfInBounds_toArray, List.set_cons_zero, List.set_cons_succ]
  refine held_value 6 _ _ (some 74) (.bool true) (by kernel_rfl) (by rfl) (by kernel_rfl) (fun u hS => by first | kernel_rfl | go_simp) (fun _ _ _ _ h => h) (rU) ?_
  simp only [Act.put, List.setIfInBounds_toArray, List.set_cons_zero, List.set_cons_succ]
  refine held_value 7 _ _ (some 75) (.int .i64 2) (by kernel_rfl) (by rfl) (by kernel_rfl) (fun u hS => by first | kernel_rfl | go_simp) (fun _ _ _ _ h => h) (rU) ?_
  simp only [Act.put, List.setIfInBounds_toArray, List.set_cons_zero, List.set_cons_succ]
  refine held_value 8 _ _ (some 76) (.pointer (some ⟨G, 3, none⟩)) (by kernel_rfl) (by rfl) (by kernel_rfl) (fun u hS => by first | kernel_rfl | go_simp) (fun _ _ _ _ h => h) (rU) ?_
  simp only [Act.put, List.setIfInBounds_toArray, List.set_cons_zero, List.set_cons_succ]
  refine held_value 9 _ _ (some 77) (.int .i64 8) (by kernel_rfl) (by rfl) (by kernel_rfl) (fun u hS => by have h2 : u.cell? ⟨G, 3, none⟩ = some (.int .i64 8) := hS.cell 3; go_simp) (fun _ _ _ _ h => h) (rU) ?_
  simp only [Act.put, List.setIfInBounds_toArray, List.set_cons_zero, List.set_cons_succ]
  refine held_value 10 _ _ (some 78) (.int .i64 16) (by kernel_rfl) (by rfl) (by kernel_rfl) (fun u hS => by kernel_rfl) (fun _ _ _ _ h => h) (rU) ?_
  simp only [Act.put, List.setIfInBounds_toArray, List.set_cons_zero, List.set_cons_succ]
  refine held_value 11 _ _ (some 79) (.pointer (some ⟨G, 5, none⟩)) (by kernel_rfl) (by rfl) (by kernel_rfl) (fun u hS => by first | kernel_rfl | go_simp) (fun _ _ _ _ h => h) (rU) ?_
  simp only [Act.put, List.setIfInBounds_toArray, List.set_cons_zero, List.set_cons_succ]
  refine held_value 12 _ _ (some 80) (.int .i64 0) (by kernel_rfl) (by rfl) (by kernel_rfl) (fun u hS => by have h2 : u.cell? ⟨G, 5, none⟩ = some (.int .i64 0) := hS.cell 5; go_simp) (fun _ _ _ _ h => h) (rU) ?_
  simp only [Act.put, List.setIfInBounds_toArray, List.set_cons_zero, List.set_cons_succ]
  refine held_value 13 _ _ (some 81) (.int .i64 16) (by kernel_rfl) (by rfl) (by kernel_rfl) (fun u hS => by kernel_rfl) (fun _ _ _ _ h => h) (rU) ?_
  simp only [Act.put, List.setIfInBounds_toArray, List.set_cons_zero, List.set_cons_succ]
  refine held_value 14 _ _ (some 82) (.bool true) (by kernel_rfl) (by rfl) (by kernel_rfl) (fun u hS => by kernel_rfl) (fun _ _ _ _ h => h) (rU) ?_
  simp only [Act.put, List.setIfInBounds_toArray, List.set_cons_zero, List.set_cons_succ]
  refine held_value 15 _ _ (some 83) (.bool true) (by kernel_rfl) (by rfl) (by kernel_rfl) (fun u hS => by kernel_rfl) (fun _ _ _ _ h => h) (rU) ?_
  simp only [Act.put, List.setIfInBounds_toArray, List.set_cons_zero, List.set_cons_succ]
  refine held_value 16 _ _ (some 84) (.bool true) (by kernel_rfl) (by rfl) (by kernel_rfl) (fun u hS => by first | kernel_rfl | go_simp) (fun _ _ _ _ h => h) (rU) ?_
  simp only [Act.put, List.setIfInBounds_toArray, List.set_cons_zero, List.set_cons_succ]
  refine held_value 17 _ _ (some 85) (.pointer (some ⟨G, 3, none⟩)) (by kernel_rfl) (by rfl) (by kernel_rfl) (fun u hS => by first | kernel_rfl | go_simp) (fun _ _ _ _ h => h) (rU) ?_
  simp only [Act.put, List.setIfInBounds_toArray, List.set_cons_zero, List.set_cons_succ]
  refine held_value 18 _ _ (some 86) (.int .i64 8) (by kernel_rfl) (by rfl) (by kernel_rfl) (fun u hS => by have h2 : u.cell? ⟨G, 3, none⟩ = some (.int .i64 8) := hS.cell 3; go_simp) (fun _ _ _ _ h => h) (rU) ?_
  simp only [Act.put, List.setIfInBounds_toArray, List.set_cons_zero, List.set_cons_succ]
  refine held_value 19 _ _ (some 87) (.int .i64 256) (by kernel_rfl) (by rfl) (by kernel_rfl) (fun u hS => by kernel_rfl) (fun _ _ _ _ h => h) (rU) ?_
  simp only [Act.put, List.setIfInBounds_toArray, List.set_cons_zero, List.set_cons_succ]
  refine held_value 20 _ _ (some 88) (.int .i64 255) (by kernel_rfl) (by rfl) (by kernel_rfl) (fun u hS => by kernel_rfl) (fun _ _ _ _ h => h) (rU) ?_
  simp only [Act.put, List.setIfInBounds_toArray, List.set_cons_zero, List.set_cons_succ]
  refine held_value 21 _ _ (some 89) (.int .i64 24) (by kernel_rfl) (by rfl) (by kernel_rfl) (fun u hS => by first | kernel_rfl | go_simp) (fun _ _ _ _ h => h) (rU) ?_
  simp only [Act.put, List.setIfInBounds_toArray, List.set_cons_zero, List.set_cons_succ]
  refine held_value 22 _ _ (some 90) (.int .i64 6120) (by kernel_rfl) (by rfl) (by kernel_rfl) (fun u hS => by kernel_rfl) (fun _ _ _ _ h => h) (rU) ?_
  simp only [Act.put, List.setIfInBounds_toArray, List.set_cons_zero, List.set_cons_succ]
  refine held_value 23 _ _ (some 91) (.int .i64 2) (by kernel_rfl) (by rfl) (by kernel_rfl) (fun u hS => by first | kernel_rfl | go_simp) (fun _ _ _ _ h => h) (rU) ?_
  simp only [Act.put, List.setIfInBounds_toArray, List.set_cons_zero, List.set_cons_succ]
  refine held_value 24 _ _ (some 92) (.int .i64 1) (by kernel_rfl) (by rfl) (by kernel_rfl) (fun u hS => by kernel_rfl) (fun _ _ _ _ h => h) (rU) ?_
  simp only [Act.put, List.setIfInBounds_toArray, List.set_cons_zero, List.set_cons_succ]
  refine held_value 25 _ _ (some 93) (.pointer (some ⟨G, 3, none⟩)) (by kernel_rfl) (by rfl) (by kernel_rfl) (fun u hS => by first | kernel_rfl | go_simp) (fun _ _ _ _ h => h) (rU) ?_
  simp only [Act.put, List.setIfInBounds_toArray, List.set_cons_zero, List.set_cons_succ]
  refine held_value 26 _ _ (some 94) (.int .i64 8) (by kernel_rfl) (by rfl) (by kernel_rfl) (fun u hS => by have h2 : u.cell? ⟨G, 3, none⟩ = some (.int .i64 8) := hS.cell 3; go_simp) (fun _ _ _ _ h => h) (rU) ?_
  simp only [Act.put, List.setIfInBounds_toArray, List.set_cons_zero, List.set_cons_succ]
  refine held_value 27 _ _ (some 95) (.int .i64 8) (by kernel_rfl) (by rfl) (by kernel_rfl) (fun u hS => by kernel_rfl) (fun _ _ _ _ h => h) (rU) ?_
  simp only [Act.put, List.setIfInBounds_toArray, List.set_cons_zero, List.set_cons_succ]
  refine held_value 28 _ _ (some 96) (.int .i64 256) (by kernel_rfl) (by rfl) (by kernel_rfl) (fun u hS => by kernel_rfl) (fun _ _ _ _ h => h) (rU) ?_
  simp only [Act.put, List.setIfInBounds_toArray, List.set_cons_zero, List.set_cons_succ]
  refine held_value 29 _ _ (some 97) (.bool true) (by kernel_rfl) (by rfl) (by kernel_rfl) (fun u hS => by kernel_rfl) (fun _ _ _ _ h => h) (rU) ?_
  simp only [Act.put, List.setIfInBounds_toArray, List.set_cons_zero, List.set_cons_succ]
  refine held_value 30 _ _ (some 98) (.bool true) (by kernel_rfl) (by rfl) (by kernel_rfl) (fun u hS => by kernel_rfl) (fun _ _ _ _ h => h) (rU) ?_
  simp only [Act.put, List.setIfInBounds_toArray, List.set_cons_zero, List.set_cons_succ]
  refine held_value 31 _ _ (some 2) (.bool true) (by kernel_rfl) (by rfl) (by kernel_rfl) (fun u hS => by first | kernel_rfl | go_simp) (fun _ _ _ _ h => h) (rU) ?_
  simp only [Act.put, List.setIfInBounds_toArray, List.set_cons_zero, List.set_cons_succ]
  refine wpAnyH_done (by kernel_rfl) ?_ _
  go_wp2
  go_ret
  exact ⟨rfl, F2.out⟩
theorem room_any (c : Nat) (w : World) : Calls Tryd.prog 8 #[.int .u32 (c : Int)] w (TrueIs w) := by
  by_cases h : 1 ≤ c ∧ c ≤ 16
  · have : c = 1 ∨ c = 2 ∨ c = 3 ∨ c = 4 ∨ c = 5 ∨ c = 6 ∨ c = 7 ∨ c = 8 ∨ c = 9 ∨ c = 10 ∨ c = 11 ∨ c = 12 ∨ c = 13 ∨ c = 14 ∨ c = 15 ∨ c = 16 := by omega
    rcases this with rfl | rfl | rfl | rfl | rfl | rfl | rfl | rfl | rfl | rfl | rfl | rfl | rfl | rfl | rfl | rfl
    · exact room_0 1 false w (fun W => ots_1 W)
    · exact room_1 2 false w (fun W => ots_2 W)
    · exact room_2 3 false w (fun W => ots_3 W)
    · exact room_3 4 false w (fun W => ots_4 W)
    · exact room_4 5 false w (fun W => ots_5 W)
    · exact room_5 6 false w (fun W => ots_6 W)
    · exact room_6 7 false w (fun W => ots_7 W)
    · exact room_7 8 false w (fun W => ots_8 W)
    · exact room_0 9 true w (fun W => ots_9 W)
    · exact room_1 10 true w (fun W => ots_10 W)
    · exact room_2 11 true w (fun W => ots_11 W)
    · exact room_3 12 true w (fun W => ots_12 W)
    · exact room_4 13 true w (fun W => ots_13 W)
    · exact room_5 14 true w (fun W => ots_14 W)
    · exact room_6 15 true w (fun W => ots_15 W)
    · exact room_7 16 true w (fun W => ots_16 W)
  · obtain ⟨e1, e2, e3⟩ := oR_none (c := c) (by omega)
    have hset : ∀ W, Calls Tryd.prog 18 #[.int .u32 (c : Int)] W (OldIs (.tuple #[.agg #[.int .u32 0, .bool false, .int .i64 0, .int .i64 0, .int .i64 0, .int .i64 0], .int .i64 60]) W) := by
      intro W
      have h := ots_any c W
      unfold otsV at h
      rw [e1, e2, e3] at h
      exact h
    clear e1 e2 e3 h
    unfold TrueIs
    go_enter Tryd.func8, Tryd.ntmps8
    go_wp2_with (go_at_call 18; refine (hset _).mono ?_)
    unfold OldIs
    rintro e w2 ⟨rfl, b2⟩
    obtain ⟨G, hG⟩ : ∃ G, Shh (G = w2.heap.size) := ⟨_, ⟨rfl⟩⟩
    go_wp2_with (first | refine wpList_store_any rfl 46 (.tmp 3) (.tmp 11) rfl G (by rw [hG.out]; rfl) [.int .u32 0, .bool false, .int .i64 0, .int .i64 0, .int .i64 0, .int .i64 0] rfl 46 _ (Row.new_ hG.out rfl) info_ots rfl oneCell6 ?_)
    intro Z hr bt _
    have F0 : Shh (Row Z G 46 [.int .u32 0, .bool false, .int .i64 0, .int .i64 0, .int .i64 0, .int .i64 0] ∧ Below w.heap.size w Z) := ⟨hr, Below.chain b2 ((Below.alloc (Below.refl _ _) (Nat.le_refl _) _).trans (bt.under (by have := hG.out; first | omega | (simp only [asz]; omega)) (by have := hG.out; omega)))⟩
    rw [← hG.out]
    clear hr bt b2 hG hset
    go_wp2_with (go_at_call 24; refine (live6 _).mono ?_)
    unfold TrueIs
    rintro e w3 ⟨rfl, b3⟩
    have F : Shh (Row w3 G 46 [.int .u32 0, .bool false, .int .i64 0, .int .i64 0, .int .i64 0, .int .i64 0] ∧ Below w.heap.size w w3) := ⟨F0.out.1.go b3, Below.chain F0.out.2 b3⟩
    clear F0 b3
    go_wp2_with (first | refine wl_loadW 46 (.tmp 3) rfl G rfl 46 [.int .u32 0, .bool false, .int .i64 0, .int .i64 0, .int .i64 0, .int .i64 0] _ rfl F.out.1 Tryd.underlying46 rfl info_ots ?_ | refine wl_eqlW 46 46 (.tmp 17) (.tmp 18) rfl #[.int .u32 0, .bool false, .int .i64 0, .int .i64 0, .int .i64 0, .int .i64 0] #[.int .u32 0, .bool false, .int .i64 0, .int .i64 0, .int .i64 0, .int .i64 0] rfl rfl rfl (by kernel_rfl) true (eq_ots 0 false 0 0 0 0 0 false 0 0 0 0 rfl rfl rfl rfl rfl rfl rfl rfl rfl rfl _) ?_)
    go_ret
    exact ⟨rfl, F.out.2⟩
end Go.Proofs.YtanpplniedphkaaDoor
