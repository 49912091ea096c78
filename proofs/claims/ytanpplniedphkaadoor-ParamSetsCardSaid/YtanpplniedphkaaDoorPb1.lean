/-
  WALKS: names of LM-OTS and LMS: the program's; the chapter's examples (live).
-/
import Derived.Test.YtanpplniedphkaaDoorPa5
import Derived.Test.YtanpplniedphkaaDoorShelf
namespace Go.Proofs.YtanpplniedphkaaDoor
open Go.RowKit
set_option maxRecDepth 100000
theorem run_loadRow6 {P : Program} {a : Act} {w : World} {dst : Option Tmp} {ty T ty2 : TypeId} {x : Operand} {g : Nat} {cs : List Value} {d : TypeDesc} (hx : a.eval x = .pointer (some ⟨g, 0, none⟩)) (hr : Row w g T cs)
    (hu : P.underlying ty = some d) (hd : (match d with | .struct _ | .array _ _ => true | _ => false) = true) (hi : (P.info? ty).map (·.size) = some cs.length) : (execOp a.eval ⟨dst, .load ty x, ty2, "", #[], none⟩).run P w = .ok (.value (.agg cs.toArray)) w := by
  unfold execOp
  simp only [hx, Instr.loadAt, Instr.sureAddr, Sem.run_bind, Sem.run_pure, Result.andThen_ok, run_loadVar_row w g T ty cs.toArray (0, 0) d hr hu hd (by simpa using hi)]
/-! decimal digits below 1000 -/
def decT (n : Nat) : List UInt8 := if n < 10 then [UInt8.ofNat (48 + n)] else if n < 100 then [UInt8.ofNat (48 + n / 10), UInt8.ofNat (48 + n % 10)] else [UInt8.ofNat (48 + n / 100), UInt8.ofNat (48 + n / 10 % 10), UInt8.ofNat (48 + n % 10)]
def decB (n : Nat) : ByteArray := ⟨(decT n).toArray⟩
theorem dec_eq (n : Nat) (h : n < 1000) : Lib.decDigits n = decT n := by
  unfold decT
  by_cases h1 : n < 10
  · rw [if_pos h1, Lib.decDigits, dif_pos h1]
  · rw [if_neg h1, Lib.decDigits, dif_neg h1]
    by_cases h2 : n < 100
    · rw [if_pos h2, Lib.decDigits, dif_pos (by omega)]
      rfl
    · rw [if_neg h2, Lib.decDigits, dif_neg (by omega), Lib.decDigits, dif_pos (by omega), Nat.div_div_eq_div_mul]
      rfl
theorem small_any (n : Nat) (h : n < 100) (w : World) : Calls Tryd.prog 129 #[.int .i64 (n : Int)] w (StayIs (.string (decB n)) w) := by
  refine (Tryd.internal_strconv_small n h w).mono ?_
  rintro e w' ⟨rfl, rfl⟩
  exact ⟨by rw [dec_eq n (by omega)]; rfl, rfl⟩
theorem fmt120_small (n : Nat) (h : n < 100) (w : World) : Calls Tryd.prog 120 #[.int .u64 (n : Int), .int .i64 10] w (StayIs (.string (decB n)) w) := by
  unfold StayIs
  have i1 : (n : Int) < 100 := by omega
  have w1 : IntKind.i64.wrap (n : Int) = (n : Int) := by rw [IntKind.wrap_i64]; omega
  go_enter Tryd.func120, Tryd.ntmps120
  go_wp2_with (go_at_call 129; refine (small_any n h _).mono ?_)
  unfold StayIs
  rintro e w' ⟨rfl, rfl⟩
  go_wp2
  go_ret
  exact ⟨rfl, rfl⟩
theorem fmt112_small (n : Nat) (h : n < 100) (w : World) : Calls Tryd.prog 112 #[.int .u64 (n : Int), .int .i64 10] w (StayIs (.string (decB n)) w) := by
  unfold StayIs
  go_enter Tryd.func112, Tryd.ntmps112
  go_wp2_with (go_at_call 120; refine (fmt120_small n h _).mono ?_)
  unfold StayIs
  rintro e w' ⟨rfl, rfl⟩
  go_wp2
  go_ret
  exact ⟨rfl, rfl⟩
theorem odec_small (n : Nat) (h : n < 100) (w : World) : Calls Tryd.prog 100 #[.int .u64 (n : Int)] w (StayIs (.string (decB n)) w) := by
  unfold StayIs
  go_enter Tryd.func100, Tryd.ntmps100
  go_wp2_with (go_at_call 112; refine (fmt112_small n h _).mono ?_)
  unfold StayIs
  rintro e w' ⟨rfl, rfl⟩
  go_wp2
  go_ret
  exact ⟨rfl, rfl⟩
theorem pdec_small (n : Nat) (h : n < 100) (w : World) : Calls Tryd.prog 78 #[.int .i64 (n : Int)] w (StayIs (.string (decB n)) w) := by
  unfold StayIs
  have w1 : IntKind.u64.wrap (n : Int) = (n : Int) := by rw [IntKind.wrap_u64]; omega
  go_enter Tryd.func78, Tryd.ntmps78
  go_wp2_with (go_at_call 100; refine (odec_small n h _).mono ?_)
  unfold StayIs
  rintro e w' ⟨rfl, rfl⟩
  go_wp2
  go_ret
  exact ⟨rfl, rfl⟩
/-! how a hash is named -/
def hshL (s : Bool) : ByteArray := if s then (⟨#[83, 72, 65, 75, 69]⟩ : ByteArray) else (⟨#[83, 72, 65, 50, 53, 54]⟩ : ByteArray)
def hshX (s : Bool) : ByteArray := if s then (⟨#[83, 72, 65, 75, 69, 50, 53, 54]⟩ : ByteArray) else (⟨#[83, 72, 65, 50]⟩ : ByteArray)
theorem lmsHash_any (s : Bool) (w : World) : Calls Tryd.prog 77 #[.bool s] w (StayIs (.string (hshL s)) w) := by
  unfold StayIs
  cases s
  all_goals
    go_enter Tryd.func77, Tryd.ntmps77
    go_wp2
    go_ret
    exact ⟨rfl, rfl⟩
theorem xmssHash_any (s : Bool) (w : World) : Calls Tryd.prog 79 #[.bool s] w (StayIs (.string (hshX s)) w) := by
  unfold StayIs
  cases s
  all_goals
    go_enter Tryd.func79, Tryd.ntmps79
    go_wp2
    go_ret
    exact ⟨rfl, rfl⟩
theorem hshL_le (s : Bool) : (hshL s).size ≤ 10 := by cases s <;> decide
theorem hshX_le (s : Bool) : (hshX s).size ≤ 10 := by cases s <;> decide
theorem decB_le (n : Nat) : (decB n).size ≤ 3 := by
  unfold decB decT
  split
  · exact (by decide : 1 ≤ 3)
  · split
    · exact (by decide : 2 ≤ 3)
    · exact (by decide : 3 ≤ 3)
/-- how a name is put together -/
def nmB (head hash m1 n m2 h : ByteArray) : ByteArray := ((((head ++ hash) ++ m1) ++ n) ++ m2) ++ h
set_option maxHeartbeats 2000000 in
theorem name1_of (c cc N H : Nat) (s : Bool) (P L : Int) (hN : N < 100) (hH : H < 100) (hset : ∀ W, Calls Tryd.prog 18 #[.int .u32 (c : Int)] W (OldIs (.tuple #[.agg #[.int .u32 (cc : Int), .bool s, .int .i64 (N : Int), .int .i64 (H : Int), .int .i64 P, .int .i64 L], .int .i64 0]) W)) (w : World) :
    Calls Tryd.prog 30 #[.int .i64 1, .int .u32 (c : Int)] w (OldIs (.string (nmB (⟨#[76, 77, 79, 84, 83, 95]⟩ : ByteArray) (hshL s) (⟨#[95, 78]⟩ : ByteArray) (decB N) (⟨#[95, 87]⟩ : ByteArray) (decB H))) w) := by
  unfold OldIs
  go_enter Tryd.func30, Tryd.ntmps30
  go_wp2_with (go_at_call 18; refine (hset _).mono ?_)
  unfold OldIs
  rintro e w2 ⟨rfl, b2⟩
  go_wp2_with (refine wpList_store_any rfl 46 (.tmp 5) (.tmp 17) rfl w2.heap.size rfl [.int .u32 (cc : Int), .bool s, .int .i64 (N : Int), .int .i64 (H : Int), .int .i64 P, .int .i64 L] rfl 46 _ (Row.new_ rfl rfl) info_ots rfl oneCell6 ?_)
  intro Z hr bt _
  have b3 : Below w2.heap.size w2 Z := (Below.alloc (Below.refl _ _) (Nat.le_refl _) _).trans (bt.under (by first | omega | (simp only [asz]; omega)) (Nat.le_refl _))
  obtain ⟨G, hG⟩ : ∃ G, w2.heap.size = G := ⟨_, rfl⟩
  have F : Shh (Row Z G 46 [.int .u32 (cc : Int), .bool s, .int .i64 (N : Int), .int .i64 (H : Int), .int .i64 P, .int .i64 L] ∧ Below w.heap.size w Z) := ⟨hG ▸ hr, Below.chain b2 b3⟩
  rw [hG]
  clear hr bt b3 b2 hG hset
  go_wp2
  refine wp_region_held_drew (S := fun w' => Row w' G 46 [.int .u32 (cc : Int), .bool s, .int .i64 (N : Int), .int .i64 (H : Int), .int .i64 P, .int .i64 L]) (by kernel_rfl) F.out.1.drew (fun hS => ?_)
  clear hS
  generalize hV : World.drew _ = V
  have rW : Row V G 46 [.int .u32 (cc : Int), .bool s, .int .i64 (N : Int), .int .i64 (H : Int), .int .i64 P, .int .i64 L] := by rw [← hV]; exact F.out.1.drew
  have F2 : Shh (True ∧ Below w.heap.size w V) := ⟨trivial, by rw [← hV]; exact F.out.2.drew⟩
  clear F hV
  have F := F2
  clear F2
  have z1 := hshL_le s
  have z2 := decB_le N
  have z3 := decB_le H
  refine held_value 0 _ _ (some 21) (.pointer (some ⟨G, 1, none⟩)) (by kernel_rfl) (by rfl) (by kernel_rfl) (fun w hS => by first | kernel_rfl | go_simp) (fun _ _ _ _ h => h) (rW) ?_
  simp only [Act.put, List.setIfInBounds_toArray, List.set_cons_zero, List.set_cons_succ]
  refine held_value 1 _ _ (some 22) (.bool s) (by kernel_rfl) (by rfl) (by kernel_rfl) (fun w hS => by have h2 : w.cell? ⟨G, 1, none⟩ = some (.bool s) := hS.cell 1; go_simp) (fun _ _ _ _ h => h) (rW) ?_
  simp only [Act.put, List.setIfInBounds_toArray, List.set_cons_zero, List.set_cons_succ]
  refine held_value 5 _ _ (some 26) (.pointer (some ⟨G, 2, none⟩)) (by kernel_rfl) (by rfl) (by kernel_rfl) (fun w hS => by first | kernel_rfl | go_simp) (fun _ _ _ _ h => h) (rW) ?_
  simp only [Act.put, List.setIfInBounds_toArray, List.set_cons_zero, List.set_cons_succ]
  refine held_value 6 _ _ (some 27) (.int .i64 (N : Int)) (by kernel_rfl) (by rfl) (by kernel_rfl) (fun w hS => by have h2 : w.cell? ⟨G, 2, none⟩ = some (.int .i64 (N : Int)) := hS.cell 2; go_simp) (fun _ _ _ _ h => h) (rW) ?_
  simp only [Act.put, List.setIfInBounds_toArray, List.set_cons_zero, List.set_cons_succ]
  refine held_value 10 _ _ (some 31) (.pointer (some ⟨G, 3, none⟩)) (by kernel_rfl) (by rfl) (by kernel_rfl) (fun w hS => by first | kernel_rfl | go_simp) (fun _ _ _ _ h => h) (rW) ?_
  simp only [Act.put, List.setIfInBounds_toArray, List.set_cons_zero, List.set_cons_succ]
  refine held_value 11 _ _ (some 32) (.int .i64 (H : Int)) (by kernel_rfl) (by rfl) (by kernel_rfl) (fun w hS => by have h2 : w.cell? ⟨G, 3, none⟩ = some (.int .i64 (H : Int)) := hS.cell 3; go_simp) (fun _ _ _ _ h => h) (rW) ?_
  simp only [Act.put, List.setIfInBounds_toArray, List.set_cons_zero, List.set_cons_succ]
  refine held_one 2 (by kernel_rfl) ?_
  refine step_call 2 _ _ (some 23) 77 #[.bool s] (by rfl) (by kernel_rfl) (by first | kernel_rfl | go_simp) ?_
  refine (lmsHash_any s _).mono ?_
  rintro e Y1 ⟨rfl, hq⟩
  obtain rfl : V = Y1 := hq
  refine ⟨_, rfl, rW, ?_⟩
  simp only [Act.put, List.setIfInBounds_toArray, List.set_cons_zero, List.set_cons_succ]
  refine held_value 3 _ _ (some 24) (.string ((⟨#[76, 77, 79, 84, 83, 95]⟩ : ByteArray) ++ hshL s)) (by kernel_rfl) (by rfl) (by kernel_rfl) (fun w hS => by go_simp <;> omega) (fun _ _ _ _ h => h) (rW) ?_
  simp only [Act.put, List.setIfInBounds_toArray, List.set_cons_zero, List.set_cons_succ]
  refine held_value 4 _ _ (some 25) (.string (((⟨#[76, 77, 79, 84, 83, 95]⟩ : ByteArray) ++ hshL s) ++ (⟨#[95, 78]⟩ : ByteArray))) (by kernel_rfl) (by rfl) (by kernel_rfl) (fun w hS => by go_simp <;> omega) (fun _ _ _ _ h => h) (rW) ?_
  simp only [Act.put, List.setIfInBounds_toArray, List.set_cons_zero, List.set_cons_succ]
  refine held_one 7 (by kernel_rfl) ?_
  refine step_call 7 _ _ (some 28) 78 #[.int .i64 (N : Int)] (by rfl) (by kernel_rfl) (by first | kernel_rfl | go_simp) ?_
  refine (pdec_small N hN _).mono ?_
  rintro e Y2 ⟨rfl, hq⟩
  obtain rfl : V = Y2 := hq
  refine ⟨_, rfl, rW, ?_⟩
  simp only [Act.put, List.setIfInBounds_toArray, List.set_cons_zero, List.set_cons_succ]
  refine held_value 8 _ _ (some 29) (.string ((((⟨#[76, 77, 79, 84, 83, 95]⟩ : ByteArray) ++ hshL s) ++ (⟨#[95, 78]⟩ : ByteArray)) ++ decB N)) (by kernel_rfl) (by rfl) (by kernel_rfl) (fun w hS => by go_simp <;> omega) (fun _ _ _ _ h => h) (rW) ?_
  simp only [Act.put, List.setIfInBounds_toArray, List.set_cons_zero, List.set_cons_succ]
  refine held_value 9 _ _ (some 30) (.string (((((⟨#[76, 77, 79, 84, 83, 95]⟩ : ByteArray) ++ hshL s) ++ (⟨#[95, 78]⟩ : ByteArray)) ++ decB N) ++ (⟨#[95, 87]⟩ : ByteArray))) (by kernel_rfl) (by rfl) (by kernel_rfl) (fun w hS => by go_simp <;> omega) (fun _ _ _ _ h => h) (rW) ?_
  simp only [Act.put, List.setIfInBounds_toArray, List.set_cons_zero, List.set_cons_succ]
  refine held_one 12 (by kernel_rfl) ?_
  refine step_call 12 _ _ (some 33) 78 #[.int .i64 (H : Int)] (by rfl) (by kernel_rfl) (by first | kernel_rfl | go_simp) ?_
  refine (pdec_small H hH _).mono ?_
  rintro e Y3 ⟨rfl, hq⟩
  obtain rfl : V = Y3 := hq
  refine ⟨_, rfl, rW, ?_⟩
  simp only [Act.put, List.setIfInBounds_toArray, List.set_cons_zero, List.set_cons_succ]
  refine held_value 13 _ _ (some 34) (.string ((((((⟨#[76, 77, 79, 84, 83, 95]⟩ : ByteArray) ++ hshL s) ++ (⟨#[95, 78]⟩ : ByteArray)) ++ decB N) ++ (⟨#[95, 87]⟩ : ByteArray)) ++ decB H)) (by kernel_rfl) (by rfl) (by kernel_rfl) (fun w hS => by go_simp <;> omega) (fun _ _ _ _ h => h) (rW) ?_
  simp only [Act.put, List.setIfInBounds_toArray, List.set_cons_zero, List.set_cons_succ]
  refine held_value 14 _ _ (some 4) (.string ((((((⟨#[76, 77, 79, 84, 83, 95]⟩ : ByteArray) ++ hshL s) ++ (⟨#[95, 78]⟩ : ByteArray)) ++ decB N) ++ (⟨#[95, 87]⟩ : ByteArray)) ++ decB H)) (by kernel_rfl) (by rfl) (by kernel_rfl) (fun w hS => by first | kernel_rfl | go_simp) (fun _ _ _ _ h => h) (rW) ?_
  simp only [Act.put, List.setIfInBounds_toArray, List.set_cons_zero, List.set_cons_succ]
  refine wpAnyH_done (by kernel_rfl) ?_ _
  go_wp2
  go_ret
  exact ⟨rfl, F.out.2⟩
set_option maxHeartbeats 2000000 in
theorem name2_of (c cc N H : Nat) (s : Bool) (hN : N < 100) (hH : H < 100) (hset : ∀ W, Calls Tryd.prog 19 #[.int .u32 (c : Int)] W (OldIs (.tuple #[.agg #[.int .u32 (cc : Int), .bool s, .int .i64 (N : Int), .int .i64 (H : Int)], .int .i64 0]) W)) (w : World) :
    Calls Tryd.prog 30 #[.int .i64 2, .int .u32 (c : Int)] w (OldIs (.string (nmB (⟨#[76, 77, 83, 95]⟩ : ByteArray) (hshL s) (⟨#[95, 77]⟩ : ByteArray) (decB N) (⟨#[95, 72]⟩ : ByteArray) (decB H))) w) := by
  unfold OldIs
  go_enter Tryd.func30, Tryd.ntmps30
  go_wp2_with (go_at_call 19; refine (hset _).mono ?_)
  unfold OldIs
  rintro e w2 ⟨rfl, b2⟩
  go_wp2_with (refine wpList_store_any rfl 50 (.tmp 7) (.tmp 40) rfl w2.heap.size rfl [.int .u32 (cc : Int), .bool s, .int .i64 (N : Int), .int .i64 (H : Int)] rfl 50 _ (Row.new_ rfl rfl) info_lms rfl oneCell4 ?_)
  intro Z hr bt _
  have b3 : Below w2.heap.size w2 Z := (Below.alloc (Below.refl _ _) (Nat.le_refl _) _).trans (bt.under (by first | omega | (simp only [asz]; omega)) (Nat.le_refl _))
  obtain ⟨G, hG⟩ : ∃ G, w2.heap.size = G := ⟨_, rfl⟩
  have F : Shh (Row Z G 50 [.int .u32 (cc : Int), .bool s, .int .i64 (N : Int), .int .i64 (H : Int)] ∧ Below w.heap.size w Z) := ⟨hG ▸ hr, Below.chain b2 b3⟩
  rw [hG]
  clear hr bt b3 b2 hG hset
  go_wp2
  refine wp_region_held_drew (S := fun w' => Row w' G 50 [.int .u32 (cc : Int), .bool s, .int .i64 (N : Int), .int .i64 (H : Int)]) (by kernel_rfl) F.out.1.drew (fun hS => ?_)
  clear hS
  generalize hV : World.drew _ = V
  have rW : Row V G 50 [.int .u32 (cc : Int), .bool s, .int .i64 (N : Int), .int .i64 (H : Int)] := by rw [← hV]; exact F.out.1.drew
  have F2 : Shh (True ∧ Below w.heap.size w V) := ⟨trivial, by rw [← hV]; exact F.out.2.drew⟩
  clear F hV
  have F := F2
  clear F2
  have z1 := hshL_le s
  have z2 := decB_le N
  have z3 := decB_le H
  refine held_value 0 _ _ (some 44) (.pointer (some ⟨G, 1, none⟩)) (by kernel_rfl) (by rfl) (by kernel_rfl) (fun w hS => by first | kernel_rfl | go_simp) (fun _ _ _ _ h => h) (rW) ?_
  simp only [Act.put, List.setIfInBounds_toArray, List.set_cons_zero, List.set_cons_succ]
  refine held_value 1 _ _ (some 45) (.bool s) (by kernel_rfl) (by rfl) (by kernel_rfl) (fun w hS => by have h2 : w.cell? ⟨G, 1, none⟩ = some (.bool s) := hS.cell 1; go_simp) (fun _ _ _ _ h => h) (rW) ?_
  simp only [Act.put, List.setIfInBounds_toArray, List.set_cons_zero, List.set_cons_succ]
  refine held_value 5 _ _ (some 49) (.pointer (some ⟨G, 2, none⟩)) (by kernel_rfl) (by rfl) (by kernel_rfl) (fun w hS => by first | kernel_rfl | go_simp) (fun _ _ _ _ h => h) (rW) ?_
  simp only [Act.put, List.setIfInBounds_toArray, List.set_cons_zero, List.set_cons_succ]
  refine held_value 6 _ _ (some 50) (.int .i64 (N : Int)) (by kernel_rfl) (by rfl) (by kernel_rfl) (fun w hS => by have h2 : w.cell? ⟨G, 2, none⟩ = some (.int .i64 (N : Int)) := hS.cell 2; go_simp) (fun _ _ _ _ h => h) (rW) ?_
  simp only [Act.put, List.setIfInBounds_toArray, List.set_cons_zero, List.set_cons_succ]
  refine held_value 10 _ _ (some 54) (.pointer (some ⟨G, 3, none⟩)) (by kernel_rfl) (by rfl) (by kernel_rfl) (fun w hS => by first | kernel_rfl | go_simp) (fun _ _ _ _ h => h) (rW) ?_
  simp only [Act.put, List.setIfInBounds_toArray, List.set_cons_zero, List.set_cons_succ]
  refine held_value 11 _ _ (some 55) (.int .i64 (H : Int)) (by kernel_rfl) (by rfl) (by kernel_rfl) (fun w hS => by have h2 : w.cell? ⟨G, 3, none⟩ = some (.int .i64 (H : Int)) := hS.cell 3; go_simp) (fun _ _ _ _ h => h) (rW) ?_
  simp only [Act.put, List.setIfInBounds_toArray, List.set_cons_zero, List.set_cons_succ]
  refine held_one 2 (by kernel_rfl) ?_
  refine step_call 2 _ _ (some 46) 77 #[.bool s] (by rfl) (by kernel_rfl) (by first | kernel_rfl | go_simp) ?_
  refine (lmsHash_any s _).mono ?_
  rintro e Y1 ⟨rfl, hq⟩
  obtain rfl : V = Y1 := hq
  refine ⟨_, rfl, rW, ?_⟩
  simp only [Act.put, List.setIfInBounds_toArray, List.set_cons_zero, List.set_cons_succ]
  refine held_value 3 _ _ (some 47) (.string ((⟨#[76, 77, 83, 95]⟩ : ByteArray) ++ hshL s)) (by kernel_rfl) (by rfl) (by kernel_rfl) (fun w hS => by go_simp <;> omega) (fun _ _ _ _ h => h) (rW) ?_
  simp only [Act.put, List.setIfInBounds_toArray, List.set_cons_zero, List.set_cons_succ]
  refine held_value 4 _ _ (some 48) (.string (((⟨#[76, 77, 83, 95]⟩ : ByteArray) ++ hshL s) ++ (⟨#[95, 77]⟩ : ByteArray))) (by kernel_rfl) (by rfl) (by kernel_rfl) (fun w hS => by go_simp <;> omega) (fun _ _ _ _ h => h) (rW) ?_
  simp only [Act.put, List.setIfInBounds_toArray, List.set_cons_zero, List.set_cons_succ]
  refine held_one 7 (by kernel_rfl) ?_
  refine step_call 7 _ _ (some 51) 78 #[.int .i64 (N : Int)] (by rfl) (by kernel_rfl) (by first | kernel_rfl | go_simp) ?_
  refine (pdec_small N hN _).mono ?_
  rintro e Y2 ⟨rfl, hq⟩
  obtain rfl : V = Y2 := hq
  refine ⟨_, rfl, rW, ?_⟩
  simp only [Act.put, List.setIfInBounds_toArray, List.set_cons_zero, List.set_cons_succ]
  refine held_value 8 _ _ (some 52) (.string ((((⟨#[76, 77, 83, 95]⟩ : ByteArray) ++ hshL s) ++ (⟨#[95, 77]⟩ : ByteArray)) ++ decB N)) (by kernel_rfl) (by rfl) (by kernel_rfl) (fun w hS => by go_simp <;> omega) (fun _ _ _ _ h => h) (rW) ?_
  simp only [Act.put, List.setIfInBounds_toArray, List.set_cons_zero, List.set_cons_succ]
  refine held_value 9 _ _ (some 53) (.string (((((⟨#[76, 77, 83, 95]⟩ : ByteArray) ++ hshL s) ++ (⟨#[95, 77]⟩ : ByteArray)) ++ decB N) ++ (⟨#[95, 72]⟩ : ByteArray))) (by kernel_rfl) (by rfl) (by kernel_rfl) (fun w hS => by go_simp <;> omega) (fun _ _ _ _ h => h) (rW) ?_
  simp only [Act.put, List.setIfInBounds_toArray, List.set_cons_zero, List.set_cons_succ]
  refine held_one 12 (by kernel_rfl) ?_
  refine step_call 12 _ _ (some 56) 78 #[.int .i64 (H : Int)] (by rfl) (by kernel_rfl) (by first | kernel_rfl | go_simp) ?_
  refine (pdec_small H hH _).mono ?_
  rintro e Y3 ⟨rfl, hq⟩
  obtain rfl : V = Y3 := hq
  refine ⟨_, rfl, rW, ?_⟩
  simp only [Act.put, List.setIfInBounds_toArray, List.set_cons_zero, List.set_cons_succ]
  refine held_value 13 _ _ (some 57) (.string ((((((⟨#[76, 77, 83, 95]⟩ : ByteArray) ++ hshL s) ++ (⟨#[95, 77]⟩ : ByteArray)) ++ decB N) ++ (⟨#[95, 72]⟩ : ByteArray)) ++ decB H)) (by kernel_rfl) (by rfl) (by kernel_rfl) (fun w hS => by go_simp <;> omega) (fun _ _ _ _ h => h) (rW) ?_
  simp only [Act.put, List.setIfInBounds_toArray, List.set_cons_zero, List.set_cons_succ]
  refine held_value 14 _ _ (some 4) (.string ((((((⟨#[76, 77, 83, 95]⟩ : ByteArray) ++ hshL s) ++ (⟨#[95, 77]⟩ : ByteArray)) ++ decB N) ++ (⟨#[95, 72]⟩ : ByteArray)) ++ decB H)) (by kernel_rfl) (by rfl) (by kernel_rfl) (fun w hS => by first | kernel_rfl | go_simp) (fun _ _ _ _ h => h) (rW) ?_
  simp only [Act.put, List.setIfInBounds_toArray, List.set_cons_zero, List.set_cons_succ]
  refine wpAnyH_done (by kernel_rfl) ?_ _
  go_wp2
  go_ret
  exact ⟨rfl, F.out.2⟩
end Go.Proofs.YtanpplniedphkaaDoor
