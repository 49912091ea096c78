/-
  THE DOCUMENT's names, of each kind and code.
-/
import Derived.Test.YtanpplniedphkaaDoorPf6
namespace Go.Proofs.YtanpplniedphkaaDoor
open Go.RowKit Go.Shelf
set_option maxRecDepth 100000
theorem pickL (s : Bool) (w : World) : Calls Tryd.prog 80 #[.bool s, .string (⟨#[83, 72, 65, 75, 69]⟩ : ByteArray), .string (⟨#[83, 72, 65, 50, 53, 54]⟩ : ByteArray)] w (StayIs (.string (hshL s)) w) := pick6 s _ _ w
theorem pickX (s : Bool) (w : World) : Calls Tryd.prog 80 #[.bool s, .string (⟨#[83, 72, 65, 75, 69, 50, 53, 54]⟩ : ByteArray), .string (⟨#[83, 72, 65, 50]⟩ : ByteArray)] w (StayIs (.string (hshX s)) w) := pick6 s _ _ w
set_option maxHeartbeats 4000000 in
theorem rname1_of (c N H : Nat) (oc oP oS oe lc ln lh le xc xn xh xl xe : Int) (os ls xs : Bool) (hN : N < 1000) (hH : H < 1000)
    (hIs : ∀ W, Calls Tryd.prog 70 #[.int .i64 1, .int .u32 (c : Int)] W (OldIs (.bool true) W))
    (hO : ∀ W, Calls Tryd.prog 21 #[.int .u32 (c : Int)] W (OldIs (.tuple #[.agg #[.int .u32 oc, .bool os, .int .i64 (N : Int), .int .i64 (H : Int), .int .i64 oP, .int .i64 oS], .int .i64 oe]) W))
    (hL : ∀ W, Calls Tryd.prog 22 #[.int .u32 (c : Int)] W (OldIs (.tuple #[.agg #[.int .u32 lc, .bool ls, .int .i64 ln, .int .i64 lh], .int .i64 le]) W))
    (hX : ∀ W, Calls Tryd.prog 23 #[.int .u32 (c : Int)] W (OldIs (.tuple #[.agg #[.int .u32 xc, .bool xs, .int .i64 xn, .int .i64 xh, .int .i64 xl], .int .i64 xe]) W)) (w : World) :
    Calls Tryd.prog 31 #[.int .i64 1, .int .u32 (c : Int)] w (OldIs (.string (nmB (⟨#[76, 77, 79, 84, 83, 95]⟩ : ByteArray) (hshL os) (⟨#[95, 78]⟩ : ByteArray) (decB N) (⟨#[95, 87]⟩ : ByteArray) (decB H))) w) := by
  unfold OldIs
  go_enter Tryd.func31, Tryd.ntmps31
  go_wp2_with (go_at_call 70; refine (hIs _).mono ?_)
  unfold OldIs
  rintro e w0 ⟨rfl, b0⟩
  have F0 := Shh.mk b0
  clear b0 hIs
  go_wp2_with (go_at_call 21; refine (hO _).mono ?_)
  unfold OldIs
  rintro e w1 ⟨rfl, b1⟩
  obtain ⟨G1, hG1⟩ : ∃ G, Shh (G = w1.heap.size) := ⟨_, ⟨rfl⟩⟩
  go_wp2_with (refine wpList_store_any rfl 46 (.tmp 5) (.tmp 18) rfl G1 (by rw [hG1.out]; rfl) [.int .u32 oc, .bool os, .int .i64 (N : Int), .int .i64 (H : Int), .int .i64 oP, .int .i64 oS] rfl 46 _ (Row.new_ hG1.out rfl) info_ots rfl oneCell6 ?_)
  intro Z1 hr bt _
  have bb : Below w1.heap.size w1 Z1 := (Below.alloc (Below.refl _ _) (Nat.le_refl _) _).trans (bt.under (by have := hG1.out; first | omega | (simp only [asz]; omega)) (by have := hG1.out; omega))
  have F1 : Shh (Row Z1 G1 46 [.int .u32 oc, .bool os, .int .i64 (N : Int), .int .i64 (H : Int), .int .i64 oP, .int .i64 oS] ∧ Below w.heap.size w Z1) := ⟨⟨hr, Below.chain F0.out (Below.chain b1 bb)⟩⟩
  rw [← hG1.out]
  clear hr bt bb b1 hG1 hO F0
  go_wp2_with (go_at_call 22; refine (hL _).mono ?_)
  unfold OldIs
  rintro e w2 ⟨rfl, b2⟩
  obtain ⟨G2, hG2⟩ : ∃ G, Shh (G = w2.heap.size) := ⟨_, ⟨rfl⟩⟩
  go_wp2_with (refine wpList_store_any rfl 50 (.tmp 7) (.tmp 23) rfl G2 (by rw [hG2.out]; rfl) [.int .u32 lc, .bool ls, .int .i64 ln, .int .i64 lh] rfl 50 _ (Row.new_ hG2.out rfl) info_lms rfl oneCell4 ?_)
  intro Z2 hr bt _
  have bb : Below w2.heap.size w2 Z2 := (Below.alloc (Below.refl _ _) (Nat.le_refl _) _).trans (bt.under (by have := hG2.out; first | omega | (simp only [asz]; omega)) (by have := hG2.out; omega))
  have F2 : Shh (Row Z2 G1 46 [.int .u32 oc, .bool os, .int .i64 (N : Int), .int .i64 (H : Int), .int .i64 oP, .int .i64 oS] ∧ Below w.heap.size w Z2) := ⟨⟨F1.out.1.go (Below.chain b2 bb), Below.chain F1.out.2 (Below.chain b2 bb)⟩⟩
  rw [← hG2.out]
  clear hr bt bb b2 hG2 hL F1
  go_wp2_with (go_at_call 23; refine (hX _).mono ?_)
  unfold OldIs
  rintro e w3 ⟨rfl, b3⟩
  obtain ⟨G3, hG3⟩ : ∃ G, Shh (G = w3.heap.size) := ⟨_, ⟨rfl⟩⟩
  go_wp2_with (refine wpList_store_any rfl 54 (.tmp 9) (.tmp 28) rfl G3 (by rw [hG3.out]; rfl) [.int .u32 xc, .bool xs, .int .i64 xn, .int .i64 xh, .int .i64 xl] rfl 54 _ (Row.new_ hG3.out rfl) info_xms rfl oneCell5 ?_)
  intro Z3 hr bt _
  have bb : Below w3.heap.size w3 Z3 := (Below.alloc (Below.refl _ _) (Nat.le_refl _) _).trans (bt.under (by have := hG3.out; first | omega | (simp only [asz]; omega)) (by have := hG3.out; omega))
  have F3 : Shh (Row Z3 G1 46 [.int .u32 oc, .bool os, .int .i64 (N : Int), .int .i64 (H : Int), .int .i64 oP, .int .i64 oS] ∧ Below w.heap.size w Z3) := ⟨⟨F2.out.1.go (Below.chain b3 bb), Below.chain F2.out.2 (Below.chain b3 bb)⟩⟩
  rw [← hG3.out]
  clear hr bt bb b3 hG3 hX F2
  go_wp2
  refine wp_region_held_drew (S := fun w' => Row w' G1 46 [.int .u32 oc, .bool os, .int .i64 (N : Int), .int .i64 (H : Int), .int .i64 oP, .int .i64 oS]) (by kernel_rfl) F3.out.1.drew (fun hS => ?_)
  clear hS
  generalize hV : World.drew _ = V
  have rW : Row V G1 46 [.int .u32 oc, .bool os, .int .i64 (N : Int), .int .i64 (H : Int), .int .i64 oP, .int .i64 oS] := by rw [← hV]; exact F3.out.1.drew
  have F : Shh (True ∧ Below w.heap.size w V) := ⟨trivial, by rw [← hV]; exact F3.out.2.drew⟩
  clear F3 hV
  have z1 := hshL_le os
  have z2 := decB_le N
  have z3 := decB_le H

  refine held_value 0 _ _ (some 33) (.pointer (some ⟨G1, 1, none⟩)) (by kernel_rfl) (by rfl) (by kernel_rfl) (fun w hS => by first | kernel_rfl | go_simp) (fun _ _ _ _ h => h) (rW) ?_
  simp only [Act.put, List.setIfInBounds_toArray, List.set_cons_zero, List.set_cons_succ]
  refine held_value 1 _ _ (some 34) (.bool os) (by kernel_rfl) (by rfl) (by kernel_rfl) (fun w hS => by have h2 : w.cell? ⟨G1, 1, none⟩ = some (.bool os) := hS.cell 1; go_simp) (fun _ _ _ _ h => h) (rW) ?_
  simp only [Act.put, List.setIfInBounds_toArray, List.set_cons_zero, List.set_cons_succ]
  refine held_value 5 _ _ (some 38) (.pointer (some ⟨G1, 2, none⟩)) (by kernel_rfl) (by rfl) (by kernel_rfl) (fun w hS => by first | kernel_rfl | go_simp) (fun _ _ _ _ h => h) (rW) ?_
  simp only [Act.put, List.setIfInBounds_toArray, List.set_cons_zero, List.set_cons_succ]
  refine held_value 6 _ _ (some 39) (.int .i64 (N : Int)) (by kernel_rfl) (by rfl) (by kernel_rfl) (fun w hS => by have h2 : w.cell? ⟨G1, 2, none⟩ = some (.int .i64 (N : Int)) := hS.cell 2; go_simp) (fun _ _ _ _ h => h) (rW) ?_
  simp only [Act.put, List.setIfInBounds_toArray, List.set_cons_zero, List.set_cons_succ]
  refine held_value 10 _ _ (some 43) (.pointer (some ⟨G1, 3, none⟩)) (by kernel_rfl) (by rfl) (by kernel_rfl) (fun w hS => by first | kernel_rfl | go_simp) (fun _ _ _ _ h => h) (rW) ?_
  simp only [Act.put, List.setIfInBounds_toArray, List.set_cons_zero, List.set_cons_succ]
  refine held_value 11 _ _ (some 44) (.int .i64 (H : Int)) (by kernel_rfl) (by rfl) (by kernel_rfl) (fun w hS => by have h2 : w.cell? ⟨G1, 3, none⟩ = some (.int .i64 (H : Int)) := hS.cell 3; go_simp) (fun _ _ _ _ h => h) (rW) ?_
  simp only [Act.put, List.setIfInBounds_toArray, List.set_cons_zero, List.set_cons_succ]
  refine held_one 2 (by kernel_rfl) ?_
  refine step_call 2 _ _ (some 35) 80 #[.bool os, .string (⟨#[83, 72, 65, 75, 69]⟩ : ByteArray), .string (⟨#[83, 72, 65, 50, 53, 54]⟩ : ByteArray)] (by rfl) (by kernel_rfl) (by first | kernel_rfl | go_simp) ?_
  refine (pickL os _).mono ?_
  rintro e Y1 ⟨rfl, hq⟩
  obtain rfl : V = Y1 := hq
  refine ⟨_, rfl, rW, ?_⟩
  simp only [Act.put, List.setIfInBounds_toArray, List.set_cons_zero, List.set_cons_succ]
  refine held_value 3 _ _ (some 36) (.string ((⟨#[76, 77, 79, 84, 83, 95]⟩ : ByteArray) ++ hshL os)) (by kernel_rfl) (by rfl) (by kernel_rfl) (fun w hS => by go_simp <;> omega) (fun _ _ _ _ h => h) (rW) ?_
  simp only [Act.put, List.setIfInBounds_toArray, List.set_cons_zero, List.set_cons_succ]
  refine held_value 4 _ _ (some 37) (.string (((⟨#[76, 77, 79, 84, 83, 95]⟩ : ByteArray) ++ hshL os) ++ (⟨#[95, 78]⟩ : ByteArray))) (by kernel_rfl) (by rfl) (by kernel_rfl) (fun w hS => by go_simp <;> omega) (fun _ _ _ _ h => h) (rW) ?_
  simp only [Act.put, List.setIfInBounds_toArray, List.set_cons_zero, List.set_cons_succ]
  refine held_one 7 (by kernel_rfl) ?_
  refine step_call 7 _ _ (some 40) 81 #[.int .i64 (N : Int)] (by rfl) (by kernel_rfl) (by first | kernel_rfl | go_simp) ?_
  refine (refdec6 N hN _).mono ?_
  rintro e Y2 ⟨rfl, hq⟩
  obtain rfl : V = Y2 := hq
  refine ⟨_, rfl, rW, ?_⟩
  simp only [Act.put, List.setIfInBounds_toArray, List.set_cons_zero, List.set_cons_succ]
  refine held_value 8 _ _ (some 41) (.string ((((⟨#[76, 77, 79, 84, 83, 95]⟩ : ByteArray) ++ hshL os) ++ (⟨#[95, 78]⟩ : ByteArray)) ++ decB N)) (by kernel_rfl) (by rfl) (by kernel_rfl) (fun w hS => by go_simp <;> omega) (fun _ _ _ _ h => h) (rW) ?_
  simp only [Act.put, List.setIfInBounds_toArray, List.set_cons_zero, List.set_cons_succ]
  refine held_value 9 _ _ (some 42) (.string (((((⟨#[76, 77, 79, 84, 83, 95]⟩ : ByteArray) ++ hshL os) ++ (⟨#[95, 78]⟩ : ByteArray)) ++ decB N) ++ (⟨#[95, 87]⟩ : ByteArray))) (by kernel_rfl) (by rfl) (by kernel_rfl) (fun w hS => by go_simp <;> omega) (fun _ _ _ _ h => h) (rW) ?_
  simp only [Act.put, List.setIfInBounds_toArray, List.set_cons_zero, List.set_cons_succ]
  refine held_one 12 (by kernel_rfl) ?_
  refine step_call 12 _ _ (some 45) 81 #[.int .i64 (H : Int)] (by rfl) (by kernel_rfl) (by first | kernel_rfl | go_simp) ?_
  refine (refdec6 H hH _).mono ?_
  rintro e Y3 ⟨rfl, hq⟩
  obtain rfl : V = Y3 := hq
  refine ⟨_, rfl, rW, ?_⟩
  simp only [Act.put, List.setIfInBounds_toArray, List.set_cons_zero, List.set_cons_succ]
  refine held_value 13 _ _ (some 46) (.string ((((((⟨#[76, 77, 79, 84, 83, 95]⟩ : ByteArray) ++ hshL os) ++ (⟨#[95, 78]⟩ : ByteArray)) ++ decB N) ++ (⟨#[95, 87]⟩ : ByteArray)) ++ decB H)) (by kernel_rfl) (by rfl) (by kernel_rfl) (fun w hS => by go_simp <;> omega) (fun _ _ _ _ h => h) (rW) ?_
  simp only [Act.put, List.setIfInBounds_toArray, List.set_cons_zero, List.set_cons_succ]
  refine held_value 14 _ _ (some 4) (.string ((((((⟨#[76, 77, 79, 84, 83, 95]⟩ : ByteArray) ++ hshL os) ++ (⟨#[95, 78]⟩ : ByteArray)) ++ decB N) ++ (⟨#[95, 87]⟩ : ByteArray)) ++ decB H)) (by kernel_rfl) (by rfl) (by kernel_rfl) (fun w hS => by first | kernel_rfl | go_simp) (fun _ _ _ _ h => h) (rW) ?_
  simp only [Act.put, List.setIfInBounds_toArray, List.set_cons_zero, List.set_cons_succ]
  refine wpAnyH_done (by kernel_rfl) ?_ _
  go_wp2
  go_ret
  exact ⟨rfl, F.out.2⟩
set_option maxHeartbeats 4000000 in
theorem rname2_of (c N H : Nat) (oc oN oW oP oS oe lc le xc xn xh xl xe : Int) (os ls xs : Bool) (hN : N < 1000) (hH : H < 1000)
    (hIs : ∀ W, Calls Tryd.prog 70 #[.int .i64 2, .int .u32 (c : Int)] W (OldIs (.bool true) W))
    (hO : ∀ W, Calls Tryd.prog 21 #[.int .u32 (c : Int)] W (OldIs (.tuple #[.agg #[.int .u32 oc, .bool os, .int .i64 oN, .int .i64 oW, .int .i64 oP, .int .i64 oS], .int .i64 oe]) W))
    (hL : ∀ W, Calls Tryd.prog 22 #[.int .u32 (c : Int)] W (OldIs (.tuple #[.agg #[.int .u32 lc, .bool ls, .int .i64 (N : Int), .int .i64 (H : Int)], .int .i64 le]) W))
    (hX : ∀ W, Calls Tryd.prog 23 #[.int .u32 (c : Int)] W (OldIs (.tuple #[.agg #[.int .u32 xc, .bool xs, .int .i64 xn, .int .i64 xh, .int .i64 xl], .int .i64 xe]) W)) (w : World) :
    Calls Tryd.prog 31 #[.int .i64 2, .int .u32 (c : Int)] w (OldIs (.string (nmB (⟨#[76, 77, 83, 95]⟩ : ByteArray) (hshL ls) (⟨#[95, 77]⟩ : ByteArray) (decB N) (⟨#[95, 72]⟩ : ByteArray) (decB H))) w) := by
  unfold OldIs
  go_enter Tryd.func31, Tryd.ntmps31
  go_wp2_with (go_at_call 70; refine (hIs _).mono ?_)
  unfold OldIs
  rintro e w0 ⟨rfl, b0⟩
  have F0 := Shh.mk b0
  clear b0 hIs
  go_wp2_with (go_at_call 21; refine (hO _).mono ?_)
  unfold OldIs
  rintro e w1 ⟨rfl, b1⟩
  obtain ⟨G1, hG1⟩ : ∃ G, Shh (G = w1.heap.size) := ⟨_, ⟨rfl⟩⟩
  go_wp2_with (refine wpList_store_any rfl 46 (.tmp 5) (.tmp 18) rfl G1 (by rw [hG1.out]; rfl) [.int .u32 oc, .bool os, .int .i64 oN, .int .i64 oW, .int .i64 oP, .int .i64 oS] rfl 46 _ (Row.new_ hG1.out rfl) info_ots rfl oneCell6 ?_)
  intro Z1 hr bt _
  have bb : Below w1.heap.size w1 Z1 := (Below.alloc (Below.refl _ _) (Nat.le_refl _) _).trans (bt.under (by have := hG1.out; first | omega | (simp only [asz]; omega)) (by have := hG1.out; omega))
  have F1 : Shh (Below w.heap.size w Z1) := ⟨Below.chain F0.out (Below.chain b1 bb)⟩
  rw [← hG1.out]
  clear hr bt bb b1 hG1 hO F0
  go_wp2_with (go_at_call 22; refine (hL _).mono ?_)
  unfold OldIs
  rintro e w2 ⟨rfl, b2⟩
  obtain ⟨G2, hG2⟩ : ∃ G, Shh (G = w2.heap.size) := ⟨_, ⟨rfl⟩⟩
  go_wp2_with (refine wpList_store_any rfl 50 (.tmp 7) (.tmp 23) rfl G2 (by rw [hG2.out]; rfl) [.int .u32 lc, .bool ls, .int .i64 (N : Int), .int .i64 (H : Int)] rfl 50 _ (Row.new_ hG2.out rfl) info_lms rfl oneCell4 ?_)
  intro Z2 hr bt _
  have bb : Below w2.heap.size w2 Z2 := (Below.alloc (Below.refl _ _) (Nat.le_refl _) _).trans (bt.under (by have := hG2.out; first | omega | (simp only [asz]; omega)) (by have := hG2.out; omega))
  have F2 : Shh (Row Z2 G2 50 [.int .u32 lc, .bool ls, .int .i64 (N : Int), .int .i64 (H : Int)] ∧ Below w.heap.size w Z2) := ⟨⟨hr, Below.chain F1.out (Below.chain b2 bb)⟩⟩
  rw [← hG2.out]
  clear hr bt bb b2 hG2 hL F1
  go_wp2_with (go_at_call 23; refine (hX _).mono ?_)
  unfold OldIs
  rintro e w3 ⟨rfl, b3⟩
  obtain ⟨G3, hG3⟩ : ∃ G, Shh (G = w3.heap.size) := ⟨_, ⟨rfl⟩⟩
  go_wp2_with (refine wpList_store_any rfl 54 (.tmp 9) (.tmp 28) rfl G3 (by rw [hG3.out]; rfl) [.int .u32 xc, .bool xs, .int .i64 xn, .int .i64 xh, .int .i64 xl] rfl 54 _ (Row.new_ hG3.out rfl) info_xms rfl oneCell5 ?_)
  intro Z3 hr bt _
  have bb : Below w3.heap.size w3 Z3 := (Below.alloc (Below.refl _ _) (Nat.le_refl _) _).trans (bt.under (by have := hG3.out; first | omega | (simp only [asz]; omega)) (by have := hG3.out; omega))
  have F3 : Shh (Row Z3 G2 50 [.int .u32 lc, .bool ls, .int .i64 (N : Int), .int .i64 (H : Int)] ∧ Below w.heap.size w Z3) := ⟨⟨F2.out.1.go (Below.chain b3 bb), Below.chain F2.out.2 (Below.chain b3 bb)⟩⟩
  rw [← hG3.out]
  clear hr bt bb b3 hG3 hX F2
  go_wp2
  refine wp_region_held_drew (S := fun w' => Row w' G2 50 [.int .u32 lc, .bool ls, .int .i64 (N : Int), .int .i64 (H : Int)]) (by kernel_rfl) F3.out.1.drew (fun hS => ?_)
  clear hS
  generalize hV : World.drew _ = V
  have rW : Row V G2 50 [.int .u32 lc, .bool ls, .int .i64 (N : Int), .int .i64 (H : Int)] := by rw [← hV]; exact F3.out.1.drew
  have F : Shh (True ∧ Below w.heap.size w V) := ⟨trivial, by rw [← hV]; exact F3.out.2.drew⟩
  clear F3 hV
  have z1 := hshL_le ls
  have z2 := decB_le N
  have z3 := decB_le H

  refine held_value 0 _ _ (some 49) (.pointer (some ⟨G2, 1, none⟩)) (by kernel_rfl) (by rfl) (by kernel_rfl) (fun w hS => by first | kernel_rfl | go_simp) (fun _ _ _ _ h => h) (rW) ?_
  simp only [Act.put, List.setIfInBounds_toArray, List.set_cons_zero, List.set_cons_succ]
  refine held_value 1 _ _ (some 50) (.bool ls) (by kernel_rfl) (by rfl) (by kernel_rfl) (fun w hS => by have h2 : w.cell? ⟨G2, 1, none⟩ = some (.bool ls) := hS.cell 1; go_simp) (fun _ _ _ _ h => h) (rW) ?_
  simp only [Act.put, List.setIfInBounds_toArray, List.set_cons_zero, List.set_cons_succ]
  refine held_value 5 _ _ (some 54) (.pointer (some ⟨G2, 2, none⟩)) (by kernel_rfl) (by rfl) (by kernel_rfl) (fun w hS => by first | kernel_rfl | go_simp) (fun _ _ _ _ h => h) (rW) ?_
  simp only [Act.put, List.setIfInBounds_toArray, List.set_cons_zero, List.set_cons_succ]
  refine held_value 6 _ _ (some 55) (.int .i64 (N : Int)) (by kernel_rfl) (by rfl) (by kernel_rfl) (fun w hS => by have h2 : w.cell? ⟨G2, 2, none⟩ = some (.int .i64 (N : Int)) := hS.cell 2; go_simp) (fun _ _ _ _ h => h) (rW) ?_
  simp only [Act.put, List.setIfInBounds_toArray, List.set_cons_zero, List.set_cons_succ]
  refine held_value 10 _ _ (some 59) (.pointer (some ⟨G2, 3, none⟩)) (by kernel_rfl) (by rfl) (by kernel_rfl) (fun w hS => by first | kernel_rfl | go_simp) (fun _ _ _ _ h => h) (rW) ?_
  simp only [Act.put, List.setIfInBounds_toArray, List.set_cons_zero, List.set_cons_succ]
  refine held_value 11 _ _ (some 60) (.int .i64 (H : Int)) (by kernel_rfl) (by rfl) (by kernel_rfl) (fun w hS => by have h2 : w.cell? ⟨G2, 3, none⟩ = some (.int .i64 (H : Int)) := hS.cell 3; go_simp) (fun _ _ _ _ h => h) (rW) ?_
  simp only [Act.put, List.setIfInBounds_toArray, List.set_cons_zero, List.set_cons_succ]
  refine held_one 2 (by kernel_rfl) ?_
  refine step_call 2 _ _ (some 51) 80 #[.bool ls, .string (⟨#[83, 72, 65, 75, 69]⟩ : ByteArray), .string (⟨#[83, 72, 65, 50, 53, 54]⟩ : ByteArray)] (by rfl) (by kernel_rfl) (by first | kernel_rfl | go_simp) ?_
  refine (pickL ls _).mono ?_
  rintro e Y1 ⟨rfl, hq⟩
  obtain rfl : V = Y1 := hq
  refine ⟨_, rfl, rW, ?_⟩
  simp only [Act.put, List.setIfInBounds_toArray, List.set_cons_zero, List.set_cons_succ]
  refine held_value 3 _ _ (some 52) (.string ((⟨#[76, 77, 83, 95]⟩ : ByteArray) ++ hshL ls)) (by kernel_rfl) (by rfl) (by kernel_rfl) (fun w hS => by go_simp <;> omega) (fun _ _ _ _ h => h) (rW) ?_
  simp only [Act.put, List.setIfInBounds_toArray, List.set_cons_zero, List.set_cons_succ]
  refine held_value 4 _ _ (some 53) (.string (((⟨#[76, 77, 83, 95]⟩ : ByteArray) ++ hshL ls) ++ (⟨#[95, 77]⟩ : ByteArray))) (by kernel_rfl) (by rfl) (by kernel_rfl) (fun w hS => by go_simp <;> omega) (fun _ _ _ _ h => h) (rW) ?_
  simp only [Act.put, List.setIfInBounds_toArray, List.set_cons_zero, List.set_cons_succ]
  refine held_one 7 (by kernel_rfl) ?_
  refine step_call 7 _ _ (some 56) 81 #[.int .i64 (N : Int)] (by rfl) (by kernel_rfl) (by first | kernel_rfl | go_simp) ?_
  refine (refdec6 N hN _).mono ?_
  rintro e Y2 ⟨rfl, hq⟩
  obtain rfl : V = Y2 := hq
  refine ⟨_, rfl, rW, ?_⟩
  simp only [Act.put, List.setIfInBounds_toArray, List.set_cons_zero, List.set_cons_succ]
  refine held_value 8 _ _ (some 57) (.string ((((⟨#[76, 77, 83, 95]⟩ : ByteArray) ++ hshL ls) ++ (⟨#[95, 77]⟩ : ByteArray)) ++ decB N)) (by kernel_rfl) (by rfl) (by kernel_rfl) (fun w hS => by go_simp <;> omega) (fun _ _ _ _ h => h) (rW) ?_
  simp only [Act.put, List.setIfInBounds_toArray, List.set_cons_zero, List.set_cons_succ]
  refine held_value 9 _ _ (some 58) (.string (((((⟨#[76, 77, 83, 95]⟩ : ByteArray) ++ hshL ls) ++ (⟨#[95, 77]⟩ : ByteArray)) ++ decB N) ++ (⟨#[95, 72]⟩ : ByteArray))) (by kernel_rfl) (by rfl) (by kernel_rfl) (fun w hS => by go_simp <;> omega) (fun _ _ _ _ h => h) (rW) ?_
  simp only [Act.put, List.setIfInBounds_toArray, List.set_cons_zero, List.set_cons_succ]
  refine held_one 12 (by kernel_rfl) ?_
  refine step_call 12 _ _ (some 61) 81 #[.int .i64 (H : Int)] (by rfl) (by kernel_rfl) (by first | kernel_rfl | go_simp) ?_
  refine (refdec6 H hH _).mono ?_
  rintro e Y3 ⟨rfl, hq⟩
  obtain rfl : V = Y3 := hq
  refine ⟨_, rfl, rW, ?_⟩
  simp only [Act.put, List.setIfInBounds_toArray, List.set_cons_zero, List.set_cons_succ]
  refine held_value 13 _ _ (some 62) (.string ((((((⟨#[76, 77, 83, 95]⟩ : ByteArray) ++ hshL ls) ++ (⟨#[95, 77]⟩ : ByteArray)) ++ decB N) ++ (⟨#[95, 72]⟩ : ByteArray)) ++ decB H)) (by kernel_rfl) (by rfl) (by kernel_rfl) (fun w hS => by go_simp <;> omega) (fun _ _ _ _ h => h) (rW) ?_
  simp only [Act.put, List.setIfInBounds_toArray, List.set_cons_zero, List.set_cons_succ]
  refine held_value 14 _ _ (some 4) (.string ((((((⟨#[76, 77, 83, 95]⟩ : ByteArray) ++ hshL ls) ++ (⟨#[95, 77]⟩ : ByteArray)) ++ decB N) ++ (⟨#[95, 72]⟩ : ByteArray)) ++ decB H)) (by kernel_rfl) (by rfl) (by kernel_rfl) (fun w hS => by first | kernel_rfl | go_simp) (fun _ _ _ _ h => h) (rW) ?_
  simp only [Act.put, List.setIfInBounds_toArray, List.set_cons_zero, List.set_cons_succ]
  refine wpAnyH_done (by kernel_rfl) ?_ _
  go_wp2
  go_ret
  exact ⟨rfl, F.out.2⟩
set_option maxHeartbeats 4000000 in
theorem rname3_of (c N H M : Nat) (oc oN oW oP oS oe lc ln lh le xc xl xe : Int) (os ls xs : Bool) (hN : N < 1000) (hH : H < 1000) (hN8 : M < 1000) (h8 : Shh ((8 : Int) * (N : Int) = (M : Int)))
    (hIs : ∀ W, Calls Tryd.prog 70 #[.int .i64 3, .int .u32 (c : Int)] W (OldIs (.bool true) W))
    (hO : ∀ W, Calls Tryd.prog 21 #[.int .u32 (c : Int)] W (OldIs (.tuple #[.agg #[.int .u32 oc, .bool os, .int .i64 oN, .int .i64 oW, .int .i64 oP, .int .i64 oS], .int .i64 oe]) W))
    (hL : ∀ W, Calls Tryd.prog 22 #[.int .u32 (c : Int)] W (OldIs (.tuple #[.agg #[.int .u32 lc, .bool ls, .int .i64 ln, .int .i64 lh], .int .i64 le]) W))
    (hX : ∀ W, Calls Tryd.prog 23 #[.int .u32 (c : Int)] W (OldIs (.tuple #[.agg #[.int .u32 xc, .bool xs, .int .i64 (N : Int), .int .i64 (H : Int), .int .i64 xl], .int .i64 xe]) W)) (w : World) :
    Calls Tryd.prog 31 #[.int .i64 3, .int .u32 (c : Int)] w (OldIs (.string (nmB (⟨#[88, 77, 83, 83, 45]⟩ : ByteArray) (hshX xs) (⟨#[95]⟩ : ByteArray) (decB H) (⟨#[95]⟩ : ByteArray) (decB M))) w) := by
  unfold OldIs
  go_enter Tryd.func31, Tryd.ntmps31
  go_wp2_with (go_at_call 70; refine (hIs _).mono ?_)
  unfold OldIs
  rintro e w0 ⟨rfl, b0⟩
  have F0 := Shh.mk b0
  clear b0 hIs
  go_wp2_with (go_at_call 21; refine (hO _).mono ?_)
  unfold OldIs
  rintro e w1 ⟨rfl, b1⟩
  obtain ⟨G1, hG1⟩ : ∃ G, Shh (G = w1.heap.size) := ⟨_, ⟨rfl⟩⟩
  go_wp2_with (refine wpList_store_any rfl 46 (.tmp 5) (.tmp 18) rfl G1 (by rw [hG1.out]; rfl) [.int .u32 oc, .bool os, .int .i64 oN, .int .i64 oW, .int .i64 oP, .int .i64 oS] rfl 46 _ (Row.new_ hG1.out rfl) info_ots rfl oneCell6 ?_)
  intro Z1 hr bt _
  have bb : Below w1.heap.size w1 Z1 := (Below.alloc (Below.refl _ _) (Nat.le_refl _) _).trans (bt.under (by have := hG1.out; first | omega | (simp only [asz]; omega)) (by have := hG1.out; omega))
  have F1 : Shh (Below w.heap.size w Z1) := ⟨Below.chain F0.out (Below.chain b1 bb)⟩
  rw [← hG1.out]
  clear hr bt bb b1 hG1 hO F0
  go_wp2_with (go_at_call 22; refine (hL _).mono ?_)
  unfold OldIs
  rintro e w2 ⟨rfl, b2⟩
  obtain ⟨G2, hG2⟩ : ∃ G, Shh (G = w2.heap.size) := ⟨_, ⟨rfl⟩⟩
  go_wp2_with (refine wpList_store_any rfl 50 (.tmp 7) (.tmp 23) rfl G2 (by rw [hG2.out]; rfl) [.int .u32 lc, .bool ls, .int .i64 ln, .int .i64 lh] rfl 50 _ (Row.new_ hG2.out rfl) info_lms rfl oneCell4 ?_)
  intro Z2 hr bt _
  have bb : Below w2.heap.size w2 Z2 := (Below.alloc (Below.refl _ _) (Nat.le_refl _) _).trans (bt.under (by have := hG2.out; first | omega | (simp only [asz]; omega)) (by have := hG2.out; omega))
  have F2 : Shh (Below w.heap.size w Z2) := ⟨Below.chain F1.out (Below.chain b2 bb)⟩
  rw [← hG2.out]
  clear hr bt bb b2 hG2 hL F1
  go_wp2_with (go_at_call 23; refine (hX _).mono ?_)
  unfold OldIs
  rintro e w3 ⟨rfl, b3⟩
  obtain ⟨G3, hG3⟩ : ∃ G, Shh (G = w3.heap.size) := ⟨_, ⟨rfl⟩⟩
  go_wp2_with (refine wpList_store_any rfl 54 (.tmp 9) (.tmp 28) rfl G3 (by rw [hG3.out]; rfl) [.int .u32 xc, .bool xs, .int .i64 (N : Int), .int .i64 (H : Int), .int .i64 xl] rfl 54 _ (Row.new_ hG3.out rfl) info_xms rfl oneCell5 ?_)
  intro Z3 hr bt _
  have bb : Below w3.heap.size w3 Z3 := (Below.alloc (Below.refl _ _) (Nat.le_refl _) _).trans (bt.under (by have := hG3.out; first | omega | (simp only [asz]; omega)) (by have := hG3.out; omega))
  have F3 : Shh (Row Z3 G3 54 [.int .u32 xc, .bool xs, .int .i64 (N : Int), .int .i64 (H : Int), .int .i64 xl] ∧ Below w.heap.size w Z3) := ⟨⟨hr, Below.chain F2.out (Below.chain b3 bb)⟩⟩
  rw [← hG3.out]
  clear hr bt bb b3 hG3 hX F2
  go_wp2
  refine wp_region_held_drew (S := fun w' => Row w' G3 54 [.int .u32 xc, .bool xs, .int .i64 (N : Int), .int .i64 (H : Int), .int .i64 xl]) (by kernel_rfl) F3.out.1.drew (fun hS => ?_)
  clear hS
  generalize hV : World.drew _ = V
  have rW : Row V G3 54 [.int .u32 xc, .bool xs, .int .i64 (N : Int), .int .i64 (H : Int), .int .i64 xl] := by rw [← hV]; exact F3.out.1.drew
  have F : Shh (True ∧ Below w.heap.size w V) := ⟨trivial, by rw [← hV]; exact F3.out.2.drew⟩
  clear F3 hV
  have z1 := hshX_le xs
  have z2 := decB_le N
  have z3 := decB_le H
  have z4 := decB_le M
  refine held_value 0 _ _ (some 63) (.pointer (some ⟨G3, 1, none⟩)) (by kernel_rfl) (by rfl) (by kernel_rfl) (fun w hS => by first | kernel_rfl | go_simp) (fun _ _ _ _ h => h) (rW) ?_
  simp only [Act.put, List.setIfInBounds_toArray, List.set_cons_zero, List.set_cons_succ]
  refine held_value 1 _ _ (some 64) (.bool xs) (by kernel_rfl) (by rfl) (by kernel_rfl) (fun w hS => by have h2 : w.cell? ⟨G3, 1, none⟩ = some (.bool xs) := hS.cell 1; go_simp) (fun _ _ _ _ h => h) (rW) ?_
  simp only [Act.put, List.setIfInBounds_toArray, List.set_cons_zero, List.set_cons_succ]
  refine held_value 5 _ _ (some 68) (.pointer (some ⟨G3, 3, none⟩)) (by kernel_rfl) (by rfl) (by kernel_rfl) (fun w hS => by first | kernel_rfl | go_simp) (fun _ _ _ _ h => h) (rW) ?_
  simp only [Act.put, List.setIfInBounds_toArray, List.set_cons_zero, List.set_cons_succ]
  refine held_value 6 _ _ (some 69) (.int .i64 (H : Int)) (by kernel_rfl) (by rfl) (by kernel_rfl) (fun w hS => by have h2 : w.cell? ⟨G3, 3, none⟩ = some (.int .i64 (H : Int)) := hS.cell 3; go_simp) (fun _ _ _ _ h => h) (rW) ?_
  simp only [Act.put, List.setIfInBounds_toArray, List.set_cons_zero, List.set_cons_succ]
  refine held_value 10 _ _ (some 73) (.pointer (some ⟨G3, 2, none⟩)) (by kernel_rfl) (by rfl) (by kernel_rfl) (fun w hS => by first | kernel_rfl | go_simp) (fun _ _ _ _ h => h) (rW) ?_
  simp only [Act.put, List.setIfInBounds_toArray, List.set_cons_zero, List.set_cons_succ]
  refine held_value 11 _ _ (some 74) (.int .i64 (N : Int)) (by kernel_rfl) (by rfl) (by kernel_rfl) (fun w hS => by have h2 : w.cell? ⟨G3, 2, none⟩ = some (.int .i64 (N : Int)) := hS.cell 2; go_simp) (fun _ _ _ _ h => h) (rW) ?_
  simp only [Act.put, List.setIfInBounds_toArray, List.set_cons_zero, List.set_cons_succ]
  refine held_value 12 _ _ (some 75) (.int .i64 (M : Int)) (by kernel_rfl) (by rfl) (by kernel_rfl) (fun w hS => by rw [← h8.out]; go_simp; rw [IntKind.wrap_i64]; omega) (fun _ _ _ _ h => h) (rW) ?_
  simp only [Act.put, List.setIfInBounds_toArray, List.set_cons_zero, List.set_cons_succ]
  refine held_one 2 (by kernel_rfl) ?_
  refine step_call 2 _ _ (some 65) 80 #[.bool xs, .string (⟨#[83, 72, 65, 75, 69, 50, 53, 54]⟩ : ByteArray), .string (⟨#[83, 72, 65, 50]⟩ : ByteArray)] (by rfl) (by kernel_rfl) (by first | kernel_rfl | go_simp) ?_
  refine (pickX xs _).mono ?_
  rintro e Y1 ⟨rfl, hq⟩
  obtain rfl : V = Y1 := hq
  refine ⟨_, rfl, rW, ?_⟩
  simp only [Act.put, List.setIfInBounds_toArray, List.set_cons_zero, List.set_cons_succ]
  refine held_value 3 _ _ (some 66) (.string ((⟨#[88, 77, 83, 83, 45]⟩ : ByteArray) ++ hshX xs)) (by kernel_rfl) (by rfl) (by kernel_rfl) (fun w hS => by go_simp <;> omega) (fun _ _ _ _ h => h) (rW) ?_
  simp only [Act.put, List.setIfInBounds_toArray, List.set_cons_zero, List.set_cons_succ]
  refine held_value 4 _ _ (some 67) (.string (((⟨#[88, 77, 83, 83, 45]⟩ : ByteArray) ++ hshX xs) ++ (⟨#[95]⟩ : ByteArray))) (by kernel_rfl) (by rfl) (by kernel_rfl) (fun w hS => by go_simp <;> omega) (fun _ _ _ _ h => h) (rW) ?_
  simp only [Act.put, List.setIfInBounds_toArray, List.set_cons_zero, List.set_cons_succ]
  refine held_one 7 (by kernel_rfl) ?_
  refine step_call 7 _ _ (some 70) 81 #[.int .i64 (H : Int)] (by rfl) (by kernel_rfl) (by first | kernel_rfl | go_simp) ?_
  refine (refdec6 H hH _).mono ?_
  rintro e Y2 ⟨rfl, hq⟩
  obtain rfl : V = Y2 := hq
  refine ⟨_, rfl, rW, ?_⟩
  simp only [Act.put, List.setIfInBounds_toArray, List.set_cons_zero, List.set_cons_succ]
  refine held_value 8 _ _ (some 71) (.string ((((⟨#[88, 77, 83, 83, 45]⟩ : ByteArray) ++ hshX xs) ++ (⟨#[95]⟩ : ByteArray)) ++ decB H)) (by kernel_rfl) (by rfl) (by kernel_rfl) (fun w hS => by go_simp <;> omega) (fun _ _ _ _ h => h) (rW) ?_
  simp only [Act.put, List.setIfInBounds_toArray, List.set_cons_zero, List.set_cons_succ]
  refine held_value 9 _ _ (some 72) (.string (((((⟨#[88, 77, 83, 83, 45]⟩ : ByteArray) ++ hshX xs) ++ (⟨#[95]⟩ : ByteArray)) ++ decB H) ++ (⟨#[95]⟩ : ByteArray))) (by kernel_rfl) (by rfl) (by kernel_rfl) (fun w hS => by go_simp <;> omega) (fun _ _ _ _ h => h) (rW) ?_
  simp only [Act.put, List.setIfInBounds_toArray, List.set_cons_zero, List.set_cons_succ]
  refine held_one 13 (by kernel_rfl) ?_
  refine step_call 13 _ _ (some 76) 81 #[.int .i64 (M : Int)] (by rfl) (by kernel_rfl) (by first | kernel_rfl | go_simp) ?_
  refine (refdec6 M hN8 _).mono ?_
  rintro e Y3 ⟨rfl, hq⟩
  obtain rfl : V = Y3 := hq
  refine ⟨_, rfl, rW, ?_⟩
  simp only [Act.put, List.setIfInBounds_toArray, List.set_cons_zero, List.set_cons_succ]
  refine held_value 14 _ _ (some 77) (.string ((((((⟨#[88, 77, 83, 83, 45]⟩ : ByteArray) ++ hshX xs) ++ (⟨#[95]⟩ : ByteArray)) ++ decB H) ++ (⟨#[95]⟩ : ByteArray)) ++ decB M)) (by kernel_rfl) (by rfl) (by kernel_rfl) (fun w hS => by go_simp <;> omega) (fun _ _ _ _ h => h) (rW) ?_
  simp only [Act.put, List.setIfInBounds_toArray, List.set_cons_zero, List.set_cons_succ]
  refine held_value 15 _ _ (some 4) (.string ((((((⟨#[88, 77, 83, 83, 45]⟩ : ByteArray) ++ hshX xs) ++ (⟨#[95]⟩ : ByteArray)) ++ decB H) ++ (⟨#[95]⟩ : ByteArray)) ++ decB M)) (by kernel_rfl) (by rfl) (by kernel_rfl) (fun w hS => by first | kernel_rfl | go_simp) (fun _ _ _ _ h => h) (rW) ?_
  simp only [Act.put, List.setIfInBounds_toArray, List.set_cons_zero, List.set_cons_succ]
  refine wpAnyH_done (by kernel_rfl) ?_ _
  go_wp2
  go_ret
  exact ⟨rfl, F.out.2⟩
theorem rname_no (kind : Int) (c : Nat) (hIs : ∀ W, Calls Tryd.prog 70 #[.int .i64 kind, .int .u32 (c : Int)] W (OldIs (.bool false) W)) (w : World) :
    Calls Tryd.prog 31 #[.int .i64 kind, .int .u32 (c : Int)] w (OldIs (.string ⟨#[]⟩) w) := by
  unfold OldIs
  go_enter Tryd.func31, Tryd.ntmps31
  go_wp2_with (go_at_call 70; refine (hIs _).mono ?_)
  unfold OldIs
  rintro e w0 ⟨rfl, b0⟩
  have F0 := Shh.mk b0
  clear b0 hIs
  go_wp2
  go_ret
  exact ⟨rfl, F0.out⟩
theorem hN_nat8 (f : Nat) : hN f = ((hN f).toNat : Int) ∧ (hN f).toNat ≤ 32 := by have := hN_nat f; omega
theorem lN_nat (c : Nat) : lN c = ((lN c).toNat : Int) ∧ (lN c).toNat ≤ 32 := by
  unfold lN
  split
  · exact ⟨rfl, by decide⟩
  · exact hN_nat8 _
theorem xN_nat (c : Nat) : xN c = ((xN c).toNat : Int) ∧ (xN c).toNat ≤ 32 := by
  unfold xN
  split
  · exact ⟨rfl, by decide⟩
  · exact hN_nat8 _
theorem rname_any (kind : Int) (c : Nat) (hc : c < 4294967296) (w : World) : Calls Tryd.prog 31 #[.int .i64 kind, .int .u32 (c : Int)] w (OldIs (.string (nmOf kind c)) w) := by
  have hIs := fun W => is_any kind c hc W
  have hO := fun W => refOts_any c W
  have hL := fun W => refLms_any c hc W
  have hX := fun W => refXmss_any c hc W
  unfold otsV at hO
  unfold lmsV at hL
  unfold xmsV at hX
  obtain ⟨⟨a1, a2⟩, a3, a4⟩ := oR_lt c
  obtain ⟨b1, b2⟩ := lN_nat c
  obtain ⟨d1, d2⟩ := xN_nat c
  have hH := lH_le c
  have hXH := xH_le c
  cases hk : okK kind c with
  | false =>
    rw [hk] at hIs
    have e : nmOf kind c = ⟨#[]⟩ := by
      unfold okK at hk
      unfold nmOf nm1 nm2 nm3
      split at hk
      · rename_i h; rw [if_pos h, hk]; rfl
      · rename_i h; rw [if_neg h]
        split at hk
        · rename_i h; rw [if_pos h, hk]; rfl
        · rename_i h; rw [if_neg h]
          split at hk
          · rename_i h; rw [if_pos h, hk]; rfl
          · rename_i h; rw [if_neg h]
    rw [e]
    exact rname_no kind c hIs w
  | true =>
    rw [hk] at hIs
    unfold okK at hk
    unfold nmOf nm1 nm2 nm3
    split at hk
    · rename_i h
      subst h
      rw [if_pos rfl, hk, if_pos rfl]
      rw [← a3, ← a4] at hO
      exact rname1_of c (oR c).2.1.toNat (oR c).2.2.1.toNat _ _ _ _ _ _ _ _ _ _ _ _ _ _ _ _ (by omega) (by omega) hIs hO hL hX w
    · rename_i h
      rw [if_neg h]
      split at hk
      · rename_i h2
        subst h2
        rw [if_pos rfl, hk, if_pos rfl]
        rw [b1] at hL
        exact rname2_of c (lN c).toNat (lH c) _ _ _ _ _ _ _ _ _ _ _ _ _ _ _ _ (by omega) (by omega) hIs hO hL hX w
      · rename_i h2
        rw [if_neg h2]
        split at hk
        · rename_i h3
          subst h3
          rw [if_pos rfl, hk, if_pos rfl]
          rw [d1] at hX
          exact rname3_of c (xN c).toNat (xH c) (8 * (xN c).toNat) _ _ _ _ _ _ _ _ _ _ _ _ _ _ _ _ (by omega) (by omega) (by omega) ⟨by omega⟩ hIs hO hL hX w
        · cases hk
end Go.Proofs.YtanpplniedphkaaDoor
