/-
  WALKS: names: of XMSS; of every kind and code.
-/
import Derived.Test.YtanpplniedphkaaDoorLaid6
import Derived.Test.YtanpplniedphkaaDoorPb1
import Derived.Test.YtanpplniedphkaaDoorPf1
namespace Go.Proofs.YtanpplniedphkaaDoor
open Go.Shelf Go.RowKit Go.Sort
set_option maxRecDepth 100000
theorem Pow.go {w w' : World} (h : Pow w) (b : Below w.heap.size w w') : Pow w' := Lib.tabBelow_of_tabIs h w' b
set_option maxHeartbeats 4000000 in
theorem fmt120_big (u : Nat) (h100 : 100 ≤ u) (hu3 : u < 1000) (w : World) (htab : Pow w) :
    Calls Tryd.prog 120 #[.int .u64 u, .int .i64 10] w (OldIs (.string (decB u)) w) := by
  unfold OldIs
  rw [show decB u = ⟨(Lib.decDigits u).toArray⟩ by rw [dec_eq u hu3]; rfl]
  have hu64 : u < 18446744073709551616 := by omega
  have hu1 : 1 ≤ u := by omega
  have iu : ¬ (u : Int) < 100 := by omega
  have hnd20 : Lib.nDigits u ≤ 20 := by have := Lib.numDigits_eq u hu1 hu64; split at this <;> omega
  have hal : Tryd.prog.arrayLen 159 = 24 := by simp [Program.arrayLen, Tryd.underlying159]
  have hsl : ∀ W, (Instr.sliceAt 159 (.pointer (some ⟨w.heap.size, 0, none⟩)) none (some (.int .i64 (Lib.nDigits u : Int))) none).run Tryd.prog W = .ok (.slice (some ⟨w.heap.size, 0, none⟩) (Lib.nDigits u) 24) W := fun W => by
    rw [run_sliceAt_array_h W 159 ⟨w.heap.size, 0, none⟩ (by simp [Program.arrayLen, Program.elem, Tryd.underlying159]) .i64 (Lib.nDigits u : Int) (by omega) (by rw [hal]; omega)]
    go_simp
  have hH0 := Lib.holds_zero0 w 159 (Lib.nDigits u) (by omega)
  have hfmt := Tryd.internal_strconv_formatBase10 w.heap.size 0 24 u (Array.replicate (Lib.nDigits u) 0) (w.alloc (.cells Lib.zeros24 159)) hH0 (by rw [Array.size_replicate]; exact Lib.lt_pow_nDigits u) hu64 (by rw [Array.size_replicate]; omega)
  rw [Array.size_replicate] at hfmt
  have HH0 := Lib.hid hH0
  clear hH0 hal hu3 h100
  go_enter Tryd.func120, Tryd.ntmps120
  go_wp2_with (go_at_call 130; refine (Tryd.internal_strconv_numDigits u hu1 hu64 _ (Lib.tabIs_alloc htab _)).mono ?_; rintro e w' ⟨rfl, rfl⟩)
  go_at_call 131
  refine hfmt.mono ?_
  rintro e w' ⟨rfl, k, v', dk, rfl, hF⟩
  have hcv : (convert 22 9 (.slice (some ⟨w.heap.size, 0, none⟩) (Lib.nDigits u) 24)).run Tryd.prog ((putRow (fun (b : UInt8) => Value.int .u8 (b.toNat : Int)) (w.alloc (.cells Lib.zeros24 159)) w.heap.size 0 dk).drewN k) = .ok (.string ⟨(Lib.decDigits u).toArray⟩) ((putRow (fun (b : UInt8) => Value.int .u8 (b.toNat : Int)) (w.alloc (.cells Lib.zeros24 159)) w.heap.size 0 dk).drewN k) := by
    have h := run_convert_bytes_back (P := Tryd.prog) ((putRow (fun (b : UInt8) => Value.int .u8 (b.toNat : Int)) (w.alloc (.cells Lib.zeros24 159)) w.heap.size 0 dk).drewN k) 22 9 5 ⟨w.heap.size, 0, none⟩ 24 (Lib.decDigits u) Tryd.underlying22 Tryd.underlying5 Tryd.underlying9 (fun j hj => by
      rw [Lib.row_is_numeral hF j hj, Lib.add_plain, World.cell?_drewN]
      exact cell?_putRow (fun (b : UInt8) => Value.int .u8 (b.toNat : Int)) _ w.heap.size 0 _ dk HH0.out (by rw [hF.size, Array.size_replicate]) j (by rw [hF.size]; rw [Lib.decDigits_length] at hj; exact hj))
    rw [Lib.decDigits_length] at h
    exact h
  obtain ⟨os, eo⟩ := Lib.fin_at w (.cells Lib.zeros24 159) dk k 0
  have hb : Below w.heap.size w ((putRow (fun (b : UInt8) => Value.int .u8 (b.toNat : Int)) (w.alloc (.cells Lib.zeros24 159)) w.heap.size 0 dk).drewN k) := by rw [eo]; exact Lib.below_grow _ w (Nat.le_refl _) k os
  clear eo HH0 hfmt
  go_wp2
  go_ret
  exact ⟨rfl, hb⟩
theorem pdec_big (u : Nat) (h100 : 100 ≤ u) (hu3 : u < 1000) (w : World) (htab : Pow w) : Calls Tryd.prog 78 #[.int .i64 (u : Int)] w (OldIs (.string (decB u)) w) := by
  have h112 : ∀ W, Pow W → Calls Tryd.prog 112 #[.int .u64 u, .int .i64 10] W (OldIs (.string (decB u)) W) := by
    intro W hW
    unfold OldIs
    go_enter Tryd.func112, Tryd.ntmps112
    go_wp2_with (go_at_call 120; refine (fmt120_big u h100 hu3 _ hW).mono ?_)
    unfold OldIs
    rintro e w' ⟨rfl, hb⟩
    go_wp2
    go_ret
    exact ⟨rfl, hb⟩
  have h100' : ∀ W, Pow W → Calls Tryd.prog 100 #[.int .u64 u] W (OldIs (.string (decB u)) W) := by
    intro W hW
    unfold OldIs
    go_enter Tryd.func100, Tryd.ntmps100
    go_wp2_with (go_at_call 112; refine (h112 _ hW).mono ?_)
    unfold OldIs
    rintro e w' ⟨rfl, hb⟩
    go_wp2
    go_ret
    exact ⟨rfl, hb⟩
  unfold OldIs
  have w1 : IntKind.u64.wrap (u : Int) = (u : Int) := by rw [IntKind.wrap_u64]; omega
  clear h112
  go_enter Tryd.func78, Tryd.ntmps78
  go_wp2_with (go_at_call 100; refine (h100' _ htab).mono ?_)
  unfold OldIs
  rintro e w' ⟨rfl, hb⟩
  go_wp2
  go_ret
  exact ⟨rfl, hb⟩
set_option maxHeartbeats 2000000 in
theorem name3_32 (c cc H : Nat) (s : Bool) (L : Int) (hH : H < 100) (hset : ∀ W, Calls Tryd.prog 20 #[.int .u32 (c : Int)] W (OldIs (.tuple #[.agg #[.int .u32 (cc : Int), .bool s, .int .i64 32, .int .i64 (H : Int), .int .i64 L], .int .i64 0]) W)) (w : World) (hp : Pow w) :
    Calls Tryd.prog 30 #[.int .i64 3, .int .u32 (c : Int)] w (OldIs (.string (nmB (⟨#[88, 77, 83, 83, 45]⟩ : ByteArray) (hshX s) (⟨#[95]⟩ : ByteArray) (decB H) (⟨#[95]⟩ : ByteArray) (decB 256))) w) := by
  unfold OldIs
  have HP := Shh.mk hp
  clear hp
  go_enter Tryd.func30, Tryd.ntmps30
  go_wp2_with (go_at_call 20; refine (hset _).mono ?_)
  unfold OldIs
  rintro e w2 ⟨rfl, b2⟩
  obtain ⟨G, hG⟩ : ∃ G, Shh (G = w2.heap.size) := ⟨_, ⟨rfl⟩⟩
  go_wp2_with (refine wpList_store_any rfl 54 (.tmp 9) (.tmp 63) rfl G (by rw [hG.out]; rfl) [.int .u32 (cc : Int), .bool s, .int .i64 32, .int .i64 (H : Int), .int .i64 L] rfl 54 _ (Row.new_ hG.out rfl) info_xms rfl oneCell5 ?_)
  intro Z hr bt _
  have F : Shh (Row Z G 54 [.int .u32 (cc : Int), .bool s, .int .i64 32, .int .i64 (H : Int), .int .i64 L] ∧ Below w.heap.size w Z) := ⟨hr, Below.chain b2 ((Below.alloc (Below.refl _ _) (Nat.le_refl _) _).trans (bt.under (by have := hG.out; first | omega | (simp only [asz]; omega)) (by have := hG.out; omega)))⟩
  rw [← hG.out]
  clear hr bt b2 hG hset
  go_wp2
  refine wp_region_held_drew (S := fun w' => Row w' G 54 [.int .u32 (cc : Int), .bool s, .int .i64 32, .int .i64 (H : Int), .int .i64 L]) (by kernel_rfl) F.out.1.drew (fun hS => ?_)
  clear hS
  generalize hV : World.drew _ = V
  have rW : Row V G 54 [.int .u32 (cc : Int), .bool s, .int .i64 32, .int .i64 (H : Int), .int .i64 L] := by rw [← hV]; exact F.out.1.drew
  have F2 : Shh (True ∧ Below w.heap.size w V) := ⟨trivial, by rw [← hV]; exact F.out.2.drew⟩
  clear F hV
  have F := F2
  clear F2
  have hp : Pow V := HP.out.go F.out.2
  clear HP
  have z1 := hshX_le s
  have z2 := decB_le H
  have z3 := decB_le 256
  refine held_value 0 _ _ (some 67) (.pointer (some ⟨G, 1, none⟩)) (by kernel_rfl) (by rfl) (by kernel_rfl) (fun w hS => by first | kernel_rfl | go_simp) (fun _ _ _ _ h => h) (rW) ?_
  simp only [Act.put, List.setIfInBounds_toArray, List.set_cons_zero, List.set_cons_succ]
  refine held_value 1 _ _ (some 68) (.bool s) (by kernel_rfl) (by rfl) (by kernel_rfl) (fun w hS => by have h2 : w.cell? ⟨G, 1, none⟩ = some (.bool s) := hS.cell 1; go_simp) (fun _ _ _ _ h => h) (rW) ?_
  simp only [Act.put, List.setIfInBounds_toArray, List.set_cons_zero, List.set_cons_succ]
  refine held_value 5 _ _ (some 72) (.pointer (some ⟨G, 3, none⟩)) (by kernel_rfl) (by rfl) (by kernel_rfl) (fun w hS => by first | kernel_rfl | go_simp) (fun _ _ _ _ h => h) (rW) ?_
  simp only [Act.put, List.setIfInBounds_toArray, List.set_cons_zero, List.set_cons_succ]
  refine held_value 6 _ _ (some 73) (.int .i64 (H : Int)) (by kernel_rfl) (by rfl) (by kernel_rfl) (fun w hS => by have h2 : w.cell? ⟨G, 3, none⟩ = some (.int .i64 (H : Int)) := hS.cell 3; go_simp) (fun _ _ _ _ h => h) (rW) ?_
  simp only [Act.put, List.setIfInBounds_toArray, List.set_cons_zero, List.set_cons_succ]
  refine held_value 10 _ _ (some 77) (.pointer (some ⟨G, 2, none⟩)) (by kernel_rfl) (by rfl) (by kernel_rfl) (fun w hS => by first | kernel_rfl | go_simp) (fun _ _ _ _ h => h) (rW) ?_
  simp only [Act.put, List.setIfInBounds_toArray, List.set_cons_zero, List.set_cons_succ]
  refine held_value 11 _ _ (some 78) (.int .i64 32) (by kernel_rfl) (by rfl) (by kernel_rfl) (fun w hS => by have h2 : w.cell? ⟨G, 2, none⟩ = some (.int .i64 32) := hS.cell 2; go_simp) (fun _ _ _ _ h => h) (rW) ?_
  simp only [Act.put, List.setIfInBounds_toArray, List.set_cons_zero, List.set_cons_succ]
  refine held_value 12 _ _ (some 79) (.int .i64 256) (by kernel_rfl) (by rfl) (by kernel_rfl) (fun w hS => by kernel_rfl) (fun _ _ _ _ h => h) (rW) ?_
  simp only [Act.put, List.setIfInBounds_toArray, List.set_cons_zero, List.set_cons_succ]
  refine held_one 2 (by kernel_rfl) ?_
  refine step_call 2 _ _ (some 69) 79 #[.bool s] (by rfl) (by kernel_rfl) (by first | kernel_rfl | go_simp) ?_
  refine (xmssHash_any s _).mono ?_
  rintro e Y1 ⟨rfl, hq⟩
  obtain rfl : V = Y1 := hq
  refine ⟨_, rfl, rW, ?_⟩
  simp only [Act.put, List.setIfInBounds_toArray, List.set_cons_zero, List.set_cons_succ]
  refine held_value 3 _ _ (some 70) (.string ((⟨#[88, 77, 83, 83, 45]⟩ : ByteArray) ++ hshX s)) (by kernel_rfl) (by rfl) (by kernel_rfl) (fun w hS => by go_simp <;> omega) (fun _ _ _ _ h => h) (rW) ?_
  simp only [Act.put, List.setIfInBounds_toArray, List.set_cons_zero, List.set_cons_succ]
  refine held_value 4 _ _ (some 71) (.string (((⟨#[88, 77, 83, 83, 45]⟩ : ByteArray) ++ hshX s) ++ (⟨#[95]⟩ : ByteArray))) (by kernel_rfl) (by rfl) (by kernel_rfl) (fun w hS => by go_simp <;> omega) (fun _ _ _ _ h => h) (rW) ?_
  simp only [Act.put, List.setIfInBounds_toArray, List.set_cons_zero, List.set_cons_succ]
  refine held_one 7 (by kernel_rfl) ?_
  refine step_call 7 _ _ (some 74) 78 #[.int .i64 (H : Int)] (by rfl) (by kernel_rfl) (by first | kernel_rfl | go_simp) ?_
  refine (pdec_small H hH _).mono ?_
  rintro e Y2 ⟨rfl, hq⟩
  obtain rfl : V = Y2 := hq
  refine ⟨_, rfl, rW, ?_⟩
  simp only [Act.put, List.setIfInBounds_toArray, List.set_cons_zero, List.set_cons_succ]
  refine held_value 8 _ _ (some 75) (.string ((((⟨#[88, 77, 83, 83, 45]⟩ : ByteArray) ++ hshX s) ++ (⟨#[95]⟩ : ByteArray)) ++ decB H)) (by kernel_rfl) (by rfl) (by kernel_rfl) (fun w hS => by go_simp <;> omega) (fun _ _ _ _ h => h) (rW) ?_
  simp only [Act.put, List.setIfInBounds_toArray, List.set_cons_zero, List.set_cons_succ]
  refine held_value 9 _ _ (some 76) (.string (((((⟨#[88, 77, 83, 83, 45]⟩ : ByteArray) ++ hshX s) ++ (⟨#[95]⟩ : ByteArray)) ++ decB H) ++ (⟨#[95]⟩ : ByteArray))) (by kernel_rfl) (by rfl) (by kernel_rfl) (fun w hS => by go_simp <;> omega) (fun _ _ _ _ h => h) (rW) ?_
  simp only [Act.put, List.setIfInBounds_toArray, List.set_cons_zero, List.set_cons_succ]
  refine held_one 13 (by kernel_rfl) ?_
  refine step_call 13 _ _ (some 80) 78 #[.int .i64 256] (by rfl) (by kernel_rfl) (by first | kernel_rfl | go_simp) ?_
  refine (pdec_big 256 (by omega) (by omega) _ hp).mono ?_
  unfold OldIs
  rintro e Y3 ⟨rfl, byy⟩
  have bx : Below V.heap.size V Y3 := byy
  have b_V := bx
  have m_Y3 : V.heap.size ≤ Y3.heap.size := bx.size
  clear bx
  refine ⟨_, rfl, (rW.go b_V), ?_⟩
  simp only [Act.put, List.setIfInBounds_toArray, List.set_cons_zero, List.set_cons_succ]
  refine held_value 14 _ _ (some 81) (.string ((((((⟨#[88, 77, 83, 83, 45]⟩ : ByteArray) ++ hshX s) ++ (⟨#[95]⟩ : ByteArray)) ++ decB H) ++ (⟨#[95]⟩ : ByteArray)) ++ decB 256)) (by kernel_rfl) (by rfl) (by kernel_rfl) (fun w hS => by go_simp <;> omega) (fun _ _ _ _ h => h) ((rW.go b_V)) ?_
  simp only [Act.put, List.setIfInBounds_toArray, List.set_cons_zero, List.set_cons_succ]
  refine held_value 15 _ _ (some 4) (.string ((((((⟨#[88, 77, 83, 83, 45]⟩ : ByteArray) ++ hshX s) ++ (⟨#[95]⟩ : ByteArray)) ++ decB H) ++ (⟨#[95]⟩ : ByteArray)) ++ decB 256)) (by kernel_rfl) (by rfl) (by kernel_rfl) (fun w hS => by first | kernel_rfl | go_simp) (fun _ _ _ _ h => h) ((rW.go b_V)) ?_
  simp only [Act.put, List.setIfInBounds_toArray, List.set_cons_zero, List.set_cons_succ]
  refine wpAnyH_done (by kernel_rfl) ?_ _
  go_wp2
  go_ret
  exact ⟨rfl, Below.chain F.out.2 b_V⟩
set_option maxHeartbeats 2000000 in
theorem name3_24 (c cc H : Nat) (s : Bool) (L : Int) (hH : H < 100) (hset : ∀ W, Calls Tryd.prog 20 #[.int .u32 (c : Int)] W (OldIs (.tuple #[.agg #[.int .u32 (cc : Int), .bool s, .int .i64 24, .int .i64 (H : Int), .int .i64 L], .int .i64 0]) W)) (w : World) (hp : Pow w) :
    Calls Tryd.prog 30 #[.int .i64 3, .int .u32 (c : Int)] w (OldIs (.string (nmB (⟨#[88, 77, 83, 83, 45]⟩ : ByteArray) (hshX s) (⟨#[95]⟩ : ByteArray) (decB H) (⟨#[95]⟩ : ByteArray) (decB 192))) w) := by
  unfold OldIs
  have HP := Shh.mk hp
  clear hp
  go_enter Tryd.func30, Tryd.ntmps30
  go_wp2_with (go_at_call 20; refine (hset _).mono ?_)
  unfold OldIs
  rintro e w2 ⟨rfl, b2⟩
  obtain ⟨G, hG⟩ : ∃ G, Shh (G = w2.heap.size) := ⟨_, ⟨rfl⟩⟩
  go_wp2_with (refine wpList_store_any rfl 54 (.tmp 9) (.tmp 63) rfl G (by rw [hG.out]; rfl) [.int .u32 (cc : Int), .bool s, .int .i64 24, .int .i64 (H : Int), .int .i64 L] rfl 54 _ (Row.new_ hG.out rfl) info_xms rfl oneCell5 ?_)
  intro Z hr bt _
  have F : Shh (Row Z G 54 [.int .u32 (cc : Int), .bool s, .int .i64 24, .int .i64 (H : Int), .int .i64 L] ∧ Below w.heap.size w Z) := ⟨hr, Below.chain b2 ((Below.alloc (Below.refl _ _) (Nat.le_refl _) _).trans (bt.under (by have := hG.out; first | omega | (simp only [asz]; omega)) (by have := hG.out; omega)))⟩
  rw [← hG.out]
  clear hr bt b2 hG hset
  go_wp2
  refine wp_region_held_drew (S := fun w' => Row w' G 54 [.int .u32 (cc : Int), .bool s, .int .i64 24, .int .i64 (H : Int), .int .i64 L]) (by kernel_rfl) F.out.1.drew (fun hS => ?_)
  clear hS
  generalize hV : World.drew _ = V
  have rW : Row V G 54 [.int .u32 (cc : Int), .bool s, .int .i64 24, .int .i64 (H : Int), .int .i64 L] := by rw [← hV]; exact F.out.1.drew
  have F2 : Shh (True ∧ Below w.heap.size w V) := ⟨trivial, by rw [← hV]; exact F.out.2.drew⟩
  clear F hV
  have F := F2
  clear F2
  have hp : Pow V := HP.out.go F.out.2
  clear HP
  have z1 := hshX_le s
  have z2 := decB_le H
  have z3 := decB_le 192
  refine held_value 0 _ _ (some 67) (.pointer (some ⟨G, 1, none⟩)) (by kernel_rfl) (by rfl) (by kernel_rfl) (fun w hS => by first | kernel_rfl | go_simp) (fun _ _ _ _ h => h) (rW) ?_
  simp only [Act.put, List.setIfInBounds_toArray, List.set_cons_zero, List.set_cons_succ]
  refine held_value 1 _ _ (some 68) (.bool s) (by kernel_rfl) (by rfl) (by kernel_rfl) (fun w hS => by have h2 : w.cell? ⟨G, 1, none⟩ = some (.bool s) := hS.cell 1; go_simp) (fun _ _ _ _ h => h) (rW) ?_
  simp only [Act.put, List.setIfInBounds_toArray, List.set_cons_zero, List.set_cons_succ]
  refine held_value 5 _ _ (some 72) (.pointer (some ⟨G, 3, none⟩)) (by kernel_rfl) (by rfl) (by kernel_rfl) (fun w hS => by first | kernel_rfl | go_simp) (fun _ _ _ _ h => h) (rW) ?_
  simp only [Act.put, List.setIfInBounds_toArray, List.set_cons_zero, List.set_cons_succ]
  refine held_value 6 _ _ (some 73) (.int .i64 (H : Int)) (by kernel_rfl) (by rfl) (by kernel_rfl) (fun w hS => by have h2 : w.cell? ⟨G, 3, none⟩ = some (.int .i64 (H : Int)) := hS.cell 3; go_simp) (fun _ _ _ _ h => h) (rW) ?_
  simp only [Act.put, List.setIfInBounds_toArray, List.set_cons_zero, List.set_cons_succ]
  refine held_value 10 _ _ (some 77) (.pointer (some ⟨G, 2, none⟩)) (by kernel_rfl) (by rfl) (by kernel_rfl) (fun w hS => by first | kernel_rfl | go_simp) (fun _ _ _ _ h => h) (rW) ?_
  simp only [Act.put, List.setIfInBounds_toArray, List.set_cons_zero, List.set_cons_succ]
  refine held_value 11 _ _ (some 78) (.int .i64 24) (by kernel_rfl) (by rfl) (by kernel_rfl) (fun w hS => by have h2 : w.cell? ⟨G, 2, none⟩ = some (.int .i64 24) := hS.cell 2; go_simp) (fun _ _ _ _ h => h) (rW) ?_
  simp only [Act.put, List.setIfInBounds_toArray, List.set_cons_zero, List.set_cons_succ]
  refine held_value 12 _ _ (some 79) (.int .i64 192) (by kernel_rfl) (by rfl) (by kernel_rfl) (fun w hS => by kernel_rfl) (fun _ _ _ _ h => h) (rW) ?_
  simp only [Act.put, List.setIfInBounds_toArray, List.set_cons_zero, List.set_cons_succ]
  refine held_one 2 (by kernel_rfl) ?_
  refine step_call 2 _ _ (some 69) 79 #[.bool s] (by rfl) (by kernel_rfl) (by first | kernel_rfl | go_simp) ?_
  refine (xmssHash_any s _).mono ?_
  rintro e Y1 ⟨rfl, hq⟩
  obtain rfl : V = Y1 := hq
  refine ⟨_, rfl, rW, ?_⟩
  simp only [Act.put, List.setIfInBounds_toArray, List.set_cons_zero, List.set_cons_succ]
  refine held_value 3 _ _ (some 70) (.string ((⟨#[88, 77, 83, 83, 45]⟩ : ByteArray) ++ hshX s)) (by kernel_rfl) (by rfl) (by kernel_rfl) (fun w hS => by go_simp <;> omega) (fun _ _ _ _ h => h) (rW) ?_
  simp only [Act.put, List.setIfInBounds_toArray, List.set_cons_zero, List.set_cons_succ]
  refine held_value 4 _ _ (some 71) (.string (((⟨#[88, 77, 83, 83, 45]⟩ : ByteArray) ++ hshX s) ++ (⟨#[95]⟩ : ByteArray))) (by kernel_rfl) (by rfl) (by kernel_rfl) (fun w hS => by go_simp <;> omega) (fun _ _ _ _ h => h) (rW) ?_
  simp only [Act.put, List.setIfInBounds_toArray, List.set_cons_zero, List.set_cons_succ]
  refine held_one 7 (by kernel_rfl) ?_
  refine step_call 7 _ _ (some 74) 78 #[.int .i64 (H : Int)] (by rfl) (by kernel_rfl) (by first | kernel_rfl | go_simp) ?_
  refine (pdec_small H hH _).mono ?_
  rintro e Y2 ⟨rfl, hq⟩
  obtain rfl : V = Y2 := hq
  refine ⟨_, rfl, rW, ?_⟩
  simp only [Act.put, List.setIfInBounds_toArray, List.set_cons_zero, List.set_cons_succ]
  refine held_value 8 _ _ (some 75) (.string ((((⟨#[88, 77, 83, 83, 45]⟩ : ByteArray) ++ hshX s) ++ (⟨#[95]⟩ : ByteArray)) ++ decB H)) (by kernel_rfl) (by rfl) (by kernel_rfl) (fun w hS => by go_simp <;> omega) (fun _ _ _ _ h => h) (rW) ?_
  simp only [Act.put, List.setIfInBounds_toArray, List.set_cons_zero, List.set_cons_succ]
  refine held_value 9 _ _ (some 76) (.string (((((⟨#[88, 77, 83, 83, 45]⟩ : ByteArray) ++ hshX s) ++ (⟨#[95]⟩ : ByteArray)) ++ decB H) ++ (⟨#[95]⟩ : ByteArray))) (by kernel_rfl) (by rfl) (by kernel_rfl) (fun w hS => by go_simp <;> omega) (fun _ _ _ _ h => h) (rW) ?_
  simp only [Act.put, List.setIfInBounds_toArray, List.set_cons_zero, List.set_cons_succ]
  refine held_one 13 (by kernel_rfl) ?_
  refine step_call 13 _ _ (some 80) 78 #[.int .i64 192] (by rfl) (by kernel_rfl) (by first | kernel_rfl | go_simp) ?_
  refine (pdec_big 192 (by omega) (by omega) _ hp).mono ?_
  unfold OldIs
  rintro e Y3 ⟨rfl, byy⟩
  have bx : Below V.heap.size V Y3 := byy
  have b_V := bx
  have m_Y3 : V.heap.size ≤ Y3.heap.size := bx.size
  clear bx
  refine ⟨_, rfl, (rW.go b_V), ?_⟩
  simp only [Act.put, List.setIfInBounds_toArray, List.set_cons_zero, List.set_cons_succ]
  refine held_value 14 _ _ (some 81) (.string ((((((⟨#[88, 77, 83, 83, 45]⟩ : ByteArray) ++ hshX s) ++ (⟨#[95]⟩ : ByteArray)) ++ decB H) ++ (⟨#[95]⟩ : ByteArray)) ++ decB 192)) (by kernel_rfl) (by rfl) (by kernel_rfl) (fun w hS => by go_simp <;> omega) (fun _ _ _ _ h => h) ((rW.go b_V)) ?_
  simp only [Act.put, List.setIfInBounds_toArray, List.set_cons_zero, List.set_cons_succ]
  refine held_value 15 _ _ (some 4) (.string ((((((⟨#[88, 77, 83, 83, 45]⟩ : ByteArray) ++ hshX s) ++ (⟨#[95]⟩ : ByteArray)) ++ decB H) ++ (⟨#[95]⟩ : ByteArray)) ++ decB 192)) (by kernel_rfl) (by rfl) (by kernel_rfl) (fun w hS => by first | kernel_rfl | go_simp) (fun _ _ _ _ h => h) ((rW.go b_V)) ?_
  simp only [Act.put, List.setIfInBounds_toArray, List.set_cons_zero, List.set_cons_succ]
  refine wpAnyH_done (by kernel_rfl) ?_ _
  go_wp2
  go_ret
  exact ⟨rfl, Below.chain F.out.2 b_V⟩
end Go.Proofs.YtanpplniedphkaaDoor
