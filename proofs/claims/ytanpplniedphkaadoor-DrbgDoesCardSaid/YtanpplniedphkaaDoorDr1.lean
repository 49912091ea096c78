/-
  THE WALK of the generator's step.
-/
import Derived.Test.YtanpplniedphkaaDoorDr0
namespace Go.Proofs.YtanpplniedphkaaDoor
open Go.RowKit
set_option maxRecDepth 100000
set_option maxHeartbeats 2000000 in
theorem stepped_any (s : List UInt8) (w : World) (hs : s.length = 64) (hv : Vars w) :
    Calls Tryd.prog 94 #[.agg (Lib.byteCells s).toArray] w (SumIs w (stepL s)) := by
  unfold SumIs
  have hpos := hv.pos
  generalize hN : w.heap.size = N at *
  have hsl := stepL_length s hs
  obtain ⟨mc, hmc⟩ : ∃ mc, mc = macB (keyL s) (valL s) := ⟨_, rfl⟩
  have hml : mc.length = 32 := by rw [hmc]; exact macB_length _ _
  have HMC : Shh (macB (keyL s) [valL s].flatten = mc) := ⟨by rw [hmc]; simp⟩
  have HST : Shh (stepL s = s.take 32 ++ mc ++ s.drop (32 + mc.length)) := ⟨by unfold stepL; rw [← hmc, hml]⟩
  clear hmc
  obtain ⟨W1, hW1⟩ : ∃ W1, W1 = (w.alloc (.cells (Lib.byteCells s).toArray 81)).alloc (.cells (Lib.byteCells (List.replicate 64 0)).toArray 81) := ⟨_, rfl⟩
  have hb1 : Below N w W1 := by rw [hW1]; exact ((Below.refl N w).alloc (by omega) _).alloc (by rw [asz]; omega) _
  have hzW : W1.heap.size = N + 2 := by rw [hW1, asz, asz, hN]
  have HD : Shh (Row W1.drew N 81 (Lib.byteCells s) ∧ Row W1.drew (N + 1) 81 (Lib.byteCells (List.replicate 64 0)) ∧ Vars W1.drew ∧ Below N w W1.drew ∧ W1.drew.heap.size = N + 2) :=
    ⟨by rw [hW1]; exact ((Row.new_ hN.symm rfl).alloc _).drew, by rw [hW1]; exact (Row.new_ (by rw [asz, hN]) rfl).drew, hv.step (by rw [hN]; exact hb1.drew), hb1.drew, hzW⟩
  clear hv hb1 hzW
  rw [hW1, ← zero64b] at HD
  clear hW1
  go_enter Tryd.func94, Tryd.ntmps94
  go_wp2
  refine wp_region_held_drew (S := fun _ => True) (by kernel_rfl) trivial (fun hS => ?_)
  generalize World.drew _ = W at HD ⊢
  obtain ⟨rB, rR, HVA, HBW, hzW⟩ := HD.out
  refine held_value 0 _ _ (some 3) (.pointer (some ⟨N, 0, none⟩)) (by kernel_rfl) (by rfl) (by kernel_rfl) (fun w hS => by first | kernel_rfl | go_simp) (fun _ _ _ _ h => h) (trivial) ?_
  simp only [Act.put, List.setIfInBounds_toArray, List.set_cons_zero, List.set_cons_succ]
  refine held_value 1 _ _ (some 4) (.slice (some ⟨N, 0, none⟩) 32 32) (by kernel_rfl) (by rfl) (by kernel_rfl) (fun w hS => by first | kernel_rfl | go_simp) (fun _ _ _ _ h => h) (trivial) ?_
  simp only [Act.put, List.setIfInBounds_toArray, List.set_cons_zero, List.set_cons_succ]
  refine held_value 2 _ _ (some 5) (.pointer (some ⟨N, 32, none⟩)) (by kernel_rfl) (by rfl) (by kernel_rfl) (fun w hS => by first | kernel_rfl | go_simp) (fun _ _ _ _ h => h) (trivial) ?_
  simp only [Act.put, List.setIfInBounds_toArray, List.set_cons_zero, List.set_cons_succ]
  refine held_value 3 _ _ (some 6) (.slice (some ⟨N, 32, none⟩) 32 32) (by kernel_rfl) (by rfl) (by kernel_rfl) (fun w hS => by first | kernel_rfl | go_simp) (fun _ _ _ _ h => h) (trivial) ?_
  simp only [Act.put, List.setIfInBounds_toArray, List.set_cons_zero, List.set_cons_succ]
  refine held_one 4 (by kernel_rfl) ?_
  refine step_value 4 _ _ (some 7) (.slice (some ⟨W.heap.size, 0, none⟩) 1 1) (W.alloc (.cells #[.slice (some ⟨N, 32, none⟩) 32 32] 22)) (by rfl) (by kernel_rfl) (by first | kernel_rfl | go_simp) (trivial) ?_
  simp only [Act.put, List.setIfInBounds_toArray, List.set_cons_zero, List.set_cons_succ]
  have bx : Below W.heap.size W (W.alloc (.cells #[.slice (some ⟨N, 32, none⟩) 32 32] 22)) := Below.alloc (Below.refl _ _) (Nat.le_refl _) _
  have rP : Row (W.alloc (.cells #[.slice (some ⟨N, 32, none⟩) 32 32] 22)) W.heap.size 22 [.slice (some ⟨N, 32, none⟩) 32 32] := Row.new_ rfl rfl
  have z_rP := asz W (.cells #[.slice (some ⟨N, 32, none⟩) 32 32] 22)
  generalize W.alloc (.cells #[.slice (some ⟨N, 32, none⟩) 32 32] 22) = Y1 at *
  have b_W := bx
  have m_Y1 : W.heap.size ≤ Y1.heap.size := bx.size
  clear bx
  refine held_one 5 (by kernel_rfl) ?_
  refine step_call 5 _ _ (some 8) 104 #[.slice (some ⟨N, 0, none⟩) 32 32, .slice (some ⟨W.heap.size, 0, none⟩) 1 1] (by rfl) (by kernel_rfl) (by first | kernel_rfl | go_simp) ?_
  refine (mac_any Y1.heap.size _ _ (keyL s) [valL s] Y1 ((rB.go b_W).sub 0 32 (by omega) (by omega)) (PartsO.solo rP rP.lt (Nat.ne_of_lt rP.lt) ((rB.go b_W).sub 32 32 (by omega) (by omega)) (((rB.go b_W).sub 32 32 (by omega) (by omega)).off (Nat.le_refl _))) (Nat.le_refl _) (HVA.go b_W) (by rw [keyL_length s hs]; omega) (by rw [flat_one, valL_length s hs]; omega) (by simp)).mono ?_
  rintro e Y2 ⟨rfl, bx⟩
  have bx : Below Y1.heap.size Y1 Y2 := bx
  rw [HMC.out]
  replace b_W := Below.chain b_W bx
  have b_Y1 := bx
  have m_Y2 : Y1.heap.size ≤ Y2.heap.size := bx.size
  clear bx
  refine ⟨_, rfl, trivial, ?_⟩
  simp only [Act.put, List.setIfInBounds_toArray, List.set_cons_zero, List.set_cons_succ]
  refine held_value 6 _ _ (some 9) (.pointer (some ⟨N, 32, none⟩)) (by kernel_rfl) (by rfl) (by kernel_rfl) (fun w hS => by first | kernel_rfl | go_simp) (fun _ _ _ _ h => h) (trivial) ?_
  simp only [Act.put, List.setIfInBounds_toArray, List.set_cons_zero, List.set_cons_succ]
  refine held_one 7 (by kernel_rfl) ?_
  refine step_storeMid 7 79 (.tmp 9) (.tmp 8) (by rfl) (by kernel_rfl) (N) (32) rfl (mc) rfl 81 (s) (rB.go b_W) (by omega) (info_b32.trans (size_bytes _ _ hml)) ?_
  intro Y3 rS bt zt
  refine ⟨trivial, ?_⟩
  refine wpAnyH_done (by kernel_rfl) ?_ _
  have F : Shh (Row Y3 N 81 (Lib.byteCells (stepL s)) ∧ Row Y3 (N + 1) 81 (Lib.byteCells (List.replicate 64 0)) ∧ Below N w Y3) := ⟨by rw [HST.out]; exact rS, bt.row (rR.go b_W) (by omega) (by omega), (HBW.trans (b_W.mono (by omega))).trans (bt.under (by omega) (by omega))⟩
  clear zt bt rS m_Y2 b_Y1 m_Y1 b_W z_rP rP
  go_wp2_with (first | refine wpList_load_any rfl 81 (.tmp 1) rfl N rfl 81 (Lib.byteCells (stepL s)) _ F.out.1 Tryd.underlying81 rfl (info_st.trans (size_bytes _ _ hsl)) ?_ | refine wpList_store_any rfl 81 (.tmp 2) (.tmp 10) rfl (N + 1) rfl (Lib.byteCells (stepL s)) rfl 81 (Lib.byteCells (List.replicate 64 0)) F.out.2.1 (info_st.trans (size_bytes _ _ hsl)) (by rw [Lib.byteCells_length, Lib.byteCells_length, hsl]; rfl) (cell_oneCell _) ?_)
  intro Z hr bt2 _
  have G : Shh (Row Z (N + 1) 81 (Lib.byteCells (stepL s)) ∧ Below N w Z) := ⟨hr, F.out.2.2.trans (bt2.under (by have := F.out.2.1.lt; omega) (by omega))⟩
  clear hr bt2 F
  go_wp2
  exact ret_row Tryd.results94 rfl rfl G.out.1 Tryd.underlying81 rfl (info_st.trans (size_bytes _ _ hsl)) ⟨rfl, G.out.2⟩
end Go.Proofs.YtanpplniedphkaaDoor
