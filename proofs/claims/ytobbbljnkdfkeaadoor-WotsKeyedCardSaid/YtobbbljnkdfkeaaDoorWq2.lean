/-
  THE PROGRAM'S OWN Bytes: an address in an array.
-/
import Derived.Test.YtobbbljnkdfkeaaDoorWq1
namespace Go.Proofs.YtobbbljnkdfkeaaDoor
open Go.RowKit
set_option maxRecDepth 100000
theorem index_adr (l : List UInt32) (hl : l.length = 8) (j : Nat) (hj : j < 8) (w : World) : (Instr.index 27 (.agg (wordCells l).toArray) (.int .i64 (j : Int))).run Tryd.prog w = .ok (.int .u32 ((l[j]'(by omega)).toNat : Int)) w := by
  have hg := wordCells_arr_get l j (by omega)
  generalize (wordCells l).toArray = arr at *
  simp [Instr.index, asIntOf, go_sem, hj, hg]
theorem arr32b : Tryd.prog.underlying 30 = some (.array (Tryd.prog.arrayLen 30) (Tryd.prog.elem 30)) := by kernel_rfl
theorem elem32b : Tryd.prog.elem 30 = 5 := by kernel_rfl
theorem len32b : Tryd.prog.arrayLen 30 = 32 := by kernel_rfl
theorem run_arr32_l (g r : Nat) (h : r ≤ 32) (w : World) : (Instr.sliceAt 30 (.pointer (some ⟨g, 0, none⟩)) (some (.int .i64 (r : Int))) none none).run Tryd.prog w = .ok (if r = 32 then .slice (some ⟨g, 0, none⟩) 0 0 else .slice (some ⟨g, r, none⟩) (32 - r) (32 - r)) w := by
  rw [run_sliceAt_array_l w 30 ⟨g, 0, none⟩ arr32b .i64 (r : Int) (by omega) (by rw [len32b]; omega), elem32b, run_sizeOf_u8, Result.andThen_ok, Int.toNat_natCast, len32b]
  unfold slicedAt
  by_cases e : r = 32
  · subst e
    simp
  · rw [if_neg (by omega), if_neg e, addr_add, Nat.mul_one, Nat.zero_add]
theorem run_arr32_lt (g r : Nat) (h : r < 32) (w : World) : (Instr.sliceAt 30 (.pointer (some ⟨g, 0, none⟩)) (some (.int .i64 (r : Int))) none none).run Tryd.prog w = .ok (.slice (some ⟨g, r, none⟩) (32 - r) (32 - r)) w := by
  rw [run_sliceAt_array_l w 30 ⟨g, 0, none⟩ arr32b .i64 (r : Int) (by omega) (by rw [len32b]; omega), elem32b, run_sizeOf_u8, Result.andThen_ok, Int.toNat_natCast, len32b]
  unfold slicedAt
  rw [if_neg (by omega), addr_add, Nat.mul_one, Nat.zero_add]
theorem splice_bytes (a b c d : List UInt8) (k : Nat) (hk : a.length = k) (h : b.length = c.length) : splice (Lib.byteCells (a ++ (b ++ d))) k (Lib.byteCells c) = Lib.byteCells (a ++ (c ++ d)) := by
  subst hk
  have e : Lib.byteCells (a ++ (b ++ d)) = Lib.byteCells a ++ (Lib.byteCells b ++ Lib.byteCells d) := by simp [Lib.byteCells]
  have e2 : Lib.byteCells (a ++ (c ++ d)) = Lib.byteCells a ++ (Lib.byteCells c ++ Lib.byteCells d) := by simp [Lib.byteCells]
  have l1 : (Lib.byteCells a).length = a.length := Lib.byteCells_length a
  have l2 : (Lib.byteCells b).length = (Lib.byteCells c).length := by rw [Lib.byteCells_length, Lib.byteCells_length, h]
  rw [e, e2]
  generalize Lib.byteCells a = A at *
  generalize Lib.byteCells b = B at *
  generalize Lib.byteCells c = C at *
  generalize Lib.byteCells d = D at *
  unfold splice
  rw [← l1, List.take_left' rfl, ← List.drop_drop, List.drop_left' rfl, List.drop_left' l2]
/-- an address' first words, and noughts -/
def adrZ (a : List UInt32) (k : Nat) : List UInt8 := adrB (a.take k) ++ List.replicate (32 - 4 * k) 0
theorem adrZ_step (a : List UInt32) (ha : a.length = 8) (k : Nat) (hk : k < 8) : splice (Lib.byteCells (adrZ a k)) (4 * k) (Lib.byteCells (bigB (a[k]'(by omega)).toNat 4)) = Lib.byteCells (adrZ a (k + 1)) := by
  unfold adrZ
  rw [adrB_take a k (by omega), show 32 - 4 * k = 4 + (32 - 4 * (k + 1)) by omega, ← List.replicate_append_replicate, splice_bytes _ _ _ _ _ (by rw [adrB_length, List.length_take]; omega) (by rw [bigB_length]; simp), List.append_assoc]
theorem adrZ_length (a : List UInt32) (ha : a.length = 8) (k : Nat) (hk : k ≤ 8) : (adrZ a k).length = 32 := by
  unfold adrZ
  rw [List.length_append, adrB_length, List.length_take, List.length_replicate]
  omega
theorem adrZ_all (a : List UInt32) (ha : a.length = 8) : adrZ a 8 = adrB a := by
  unfold adrZ
  rw [List.take_of_length_le (by omega)]
  simp
set_option maxHeartbeats 2000000 in
theorem bytes_any (a : List UInt32) (ha : a.length = 8) (w : World) : Calls Tryd.prog 11 #[adrV a] w (SumIs w (adrB a)) := by
  unfold SumIs adrV
  obtain ⟨zl, HZL0⟩ : ∃ zl : List UInt8, Shh (zl = List.replicate 32 0) := ⟨_, ⟨rfl⟩⟩
  have hz0 : ∀ w : World, (zeroValue 30).run Tryd.prog w = .ok (.agg (Lib.byteCells zl).toArray) w := fun w => by rw [HZL0.out]; exact (zero_of_info (t := 30) (v := .agg (Lib.byteCells (List.replicate 32 0)).toArray) (n := 32) (by kernel_rfl)).1 w
  obtain ⟨W, hW⟩ : ∃ W, W = ((w.alloc (.cells (wordCells a).toArray 27)).alloc (.cells (Lib.byteCells zl).toArray 30)).alloc (.cells (Lib.byteCells zl).toArray 30) := ⟨_, rfl⟩
  have HW : Shh (Row W w.heap.size 27 (wordCells a) ∧ Row W (w.heap.size + 1) 30 (Lib.byteCells zl) ∧ Row W (w.heap.size + 2) 30 (Lib.byteCells (adrZ a 0)) ∧ Below w.heap.size w W) := by
    rw [hW]
    exact ⟨((Row.new_ rfl rfl).alloc _).alloc _, (Row.new_ (by rw [asz]) rfl).alloc _, Row.new_ (by rw [asz, asz]) (by rw [HZL0.out]; simp [adrZ, adrB]), Below.chain (Below.chain (below1 _ _) (below1 _ _)) (below1 _ _)⟩
  have HA : Shh ((wordCells a).length = 8) := ⟨by rw [wordCells_length]; exact ha⟩
  have HIX : Shh (∀ (j : Nat) (hj : j < 8) (w : World), (Instr.index 27 (.agg (wordCells a).toArray) (.int .i64 (j : Int))).run Tryd.prog w = .ok (.int .u32 ((a[j]'(by omega)).toNat : Int)) w) := ⟨index_adr a ha⟩
  have HST : Shh (∀ k (hk : k < 8), splice (Lib.byteCells (adrZ a k)) (4 * k) (Lib.byteCells (bigB (a[k]'(by omega)).toNat 4)) = Lib.byteCells (adrZ a (k + 1))) := ⟨adrZ_step a ha⟩
  have HZL : Shh (∀ k, k ≤ 8 → (adrZ a k).length = 32) := ⟨adrZ_length a ha⟩
  have HZA : Shh (adrZ a 8 = adrB a ∧ (adrB a).length = 32) := ⟨adrZ_all a ha, by rw [adrB_length, ha]⟩
  generalize wordCells a = L at HW hW HA HIX ⊢
  go_enter Tryd.func11, Tryd.ntmps11
  go_wp2_with (first | refine wpList_alloc_any rfl 30 rfl (Lib.byteCells zl).toArray hz0 ?_ | (rw [← hW]; refine wpList_load_any rfl 27 (.tmp 1) rfl w.heap.size rfl 27 L _ HW.out.1 Tryd.underlying27 rfl (info_adr10 HA.out) ?_))
  rw [← hW]
  clear hW hz0
  go_loopw [7] (fun i wr => ∃ k : Nat, k ≤ 8 ∧ i = .int .i64 (k : Int) ∧ Shh (Row wr (w.heap.size + 1) 30 (Lib.byteCells zl) ∧ Row wr (w.heap.size + 2) 30 (Lib.byteCells (adrZ a k)) ∧ Below w.heap.size w wr)) (fun i _ => 8 - (intOf i).toNat)
  case atStart => exact ⟨0, Nat.zero_le _, rfl, ⟨HW.out.2⟩⟩
  case round =>
    clear HW
    obtain ⟨k, hk, rfl, HL⟩ := hrel
    by_cases hlt : k < 8
    · have hix := HIX.out k hlt
      have HS := Shh.mk (HST.out k hlt)
      generalize a[k]'(by omega) = x at hix HS
      have hxl := x.toNat_lt
      have HZ : Shh ((adrZ a k).length = 32) := ⟨HZL.out k hk⟩
      have HZ2 : Shh ((adrZ a (k + 1)).length = 32) := ⟨HZL.out (k + 1) (by omega)⟩
      have hm4 : IntKind.i64.wrap ((4 : Int) * (k : Int)) = ((4 * k : Nat) : Int) := by rw [IntKind.wrap_i64]; omega
      go_wp2_with fail
      refine wp_region_held_drew (S := fun _ => True) (by kernel_rfl) trivial (fun hS => ?_)
      clear hS
      obtain ⟨V, hV⟩ : ∃ V, V = World.drew wr := ⟨_, rfl⟩
      rw [← hV]
      have rZ : Row V (w.heap.size + 1) 30 (Lib.byteCells zl) := by rw [hV]; exact HL.out.1.drew
      have rA : Row V (w.heap.size + 2) 30 (Lib.byteCells (adrZ a k)) := by rw [hV]; exact HL.out.2.1.drew
      have HBV : Below w.heap.size w V := by rw [hV]; exact HL.out.2.2.drew
      clear hV HL hix
      have runS : ∀ u, (Instr.sliceAt 30 (.pointer (some ⟨w.heap.size + 2, 0, none⟩)) (some (.int .i64 ((4 * k : Nat) : Int))) none none).run Tryd.prog u = .ok (.slice (some ⟨w.heap.size + 2, 4 * k, none⟩) (32 - 4 * k) (32 - 4 * k)) u := fun u => run_arr32_lt (w.heap.size + 2) (4 * k) (by omega) u
      refine held_value 0 _ _ (some 11) (.int .i64 (k : Int)) (by kernel_rfl) (by rfl) (by kernel_rfl) (fun w hS => by first | kernel_rfl | go_simp) (fun _ _ _ _ h => h) (trivial) ?_
      simp only [Act.put, List.setIfInBounds_toArray, List.set_cons_zero, List.set_cons_succ]
      refine held_value 1 _ _ (some 12) (.int .i64 ((4 * k : Nat) : Int)) (by kernel_rfl) (by rfl) (by kernel_rfl) (fun w hS => by go_simp) (fun _ _ _ _ h => h) (trivial) ?_
      simp only [Act.put, List.setIfInBounds_toArray, List.set_cons_zero, List.set_cons_succ]
      refine held_value 2 _ _ (some 13) (.slice (some ⟨w.heap.size + 2, 4 * k, none⟩) (32 - 4 * k) (32 - 4 * k)) (by kernel_rfl) (by rfl) (by kernel_rfl) (fun w hS => run_slice_op_lo ⟨rfl, rfl⟩ (runS w)) (fun _ _ _ _ h => h) (trivial) ?_
      simp only [Act.put, List.setIfInBounds_toArray, List.set_cons_zero, List.set_cons_succ]
      refine held_value 3 _ _ (some 14) (.int .u32 (x.toNat : Int)) (by kernel_rfl) (by rfl) (by kernel_rfl) (fun w hS => by first | kernel_rfl | go_simp) (fun _ _ _ _ h => h) (trivial) ?_
      simp only [Act.put, List.setIfInBounds_toArray, List.set_cons_zero, List.set_cons_succ]
      refine held_one 4 (by kernel_rfl) ?_
      refine step_call 4 _ _ (some 15) 29 #[.int .u32 (x.toNat : Int)] (by rfl) (by kernel_rfl) (by first | kernel_rfl | go_simp) ?_
      refine (u32_any x.toNat V (by omega)).mono ?_
      rintro e Y1 ⟨v, rfl, gv⟩
      have bx : Below V.heap.size V Y1 := gv.2
      obtain ⟨Au, cu, vEq⟩ := own_form gv.1
      subst vEq
      have sU : Sl Y1 Y1.heap.size (.slice Au (bigB x.toNat 4).length cu) (bigB x.toNat 4) := gives_sl gv
      clear gv
      have b_V := bx
      have m_Y1 : V.heap.size ≤ Y1.heap.size := bx.size
      clear bx
      refine ⟨_, rfl, trivial, ?_⟩
      simp only [Act.put, List.setIfInBounds_toArray, List.set_cons_zero, List.set_cons_succ]
      refine held_one 5 (by kernel_rfl) ?_
      have h4 : Shh ((bigB x.toNat 4).length = 4) := ⟨bigB_length _ _⟩
      obtain ⟨gu, ou, hAu, _, hcu⟩ := (sU).at_ (by rw [h4.out]; decide)
      subst hAu
      refine step_copyS Y1 5 _ (some 16) (.tmp 13) (.tmp 15) 25 25 (by rfl) (by kernel_rfl) 5 Tryd.underlying25 info_u8s (32 - 4 * k) (32 - 4 * k) (bigB x.toNat 4).length cu ⟨gu, ou, none⟩ (w.heap.size + 2) (4 * k) rfl rfl _ 30 ((rA.go b_V)) (Lib.byteCells (bigB x.toNat 4)) (by rw [Lib.byteCells_length, h4.out]; exact (Nat.min_eq_left (by omega)).symm) (fun j v hj => by obtain ⟨hjl, rfl⟩ := byteCells_at _ _ _ hj; rw [addr_add]; exact hcu j hjl) (by rw [Lib.byteCells_length, Lib.byteCells_length, h4.out, HZ.out]; omega) (cell_oneCell _) (fun Y9 r9 t9 z9 => ⟨trivial, ?_⟩)
      rw [HS.out] at r9
      have q0 : Row Y9 (w.heap.size + 1) 30 (Lib.byteCells zl) := t9.row ((rZ.go b_V)) ((rZ.go b_V)).lt (by omega)
      have q1 : Below w.heap.size w Y9 := (Below.chain HBV b_V).trans (t9.under (by have := HBV.size; have := (b_V).size; omega) (by omega))
      simp only [Act.put, List.setIfInBounds_toArray, List.set_cons_zero, List.set_cons_succ]
      refine wpAnyH_done (by kernel_rfl) ?_ _
      have H9 : Shh (Row Y9 (w.heap.size + 1) 30 (Lib.byteCells zl) ∧ Row Y9 (w.heap.size + 2) 30 (Lib.byteCells (adrZ a (k + 1))) ∧ Below w.heap.size w Y9) := ⟨q0, r9, q1⟩
      clear q0 q1 r9 t9 z9 HBV rZ rA HS HZ HZ2 hm4
      go_wp2
      go_roundw
      case rel => exact ⟨k + 1, by omega, by go_num, H9⟩
      case measure => simp [intOf]; omega
    · obtain rfl : k = 8 := by omega
      rw [HZA.out.1] at HL
      have HL2 := HL
      clear HL HST HZL HIX
      go_wp2_with (first | refine wpList_load_any rfl 30 (.tmp 3) rfl (w.heap.size + 2) rfl 30 _ _ HL2.out.2.1 Tryd.underlying30 rfl (info_b32.trans (size_bytes _ _ HZA.out.2)) ?_ | refine wpList_store_any rfl 30 (.tmp 2) (.tmp 18) rfl (w.heap.size + 1) rfl (Lib.byteCells (adrB a)) rfl 30 _ HL2.out.1 (info_b32.trans (size_bytes _ _ HZA.out.2)) (by rw [Lib.byteCells_length, Lib.byteCells_length, HZA.out.2, HZL0.out]; rfl) (cell_oneCell _) ?_)
      intro w3 hr3 b3 z3
      have hb3 : Below w.heap.size w w3 := HL2.out.2.2.trans (b3.under HL2.out.2.2.size (by omega))
      clear z3 b3 HL2
      go_wp2
      exact ret_row Tryd.results11 rfl rfl hr3 Tryd.underlying30 rfl (info_b32.trans (size_bytes _ _ HZA.out.2)) ⟨rfl, hb3⟩
end Go.Proofs.YtobbbljnkdfkeaaDoor
