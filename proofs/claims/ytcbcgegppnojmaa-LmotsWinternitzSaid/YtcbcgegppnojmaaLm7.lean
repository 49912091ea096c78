/-
  THE CHAPTER's EXAMPLES: live.
-/
import Derived.Test.YtcbcgegppnojmaaLm6
namespace Go.Proofs.Ytcbcgegppnojmaa
open Go.RowKit
set_option maxRecDepth 100000
theorem SI.get {w : World} {B g n c : Nat} {l : List Nat} (h : SI w B (.slice (some ⟨g, 0, none⟩) n c) l) {j x : Nat} (hj : l[j]? = some x) : w.cell? ⟨g, j, none⟩ = some (.int .i64 (x : Int)) := by
  obtain ⟨hl, rfl⟩ := List.getElem?_eq_some_iff.1 hj
  obtain ⟨g', e, _, _, hc⟩ := h.at_ (by omega)
  cases e
  exact hc j hl
theorem SI.addr {w : World} {B : Nat} {v : Value} {l : List Nat} (h : SI w B v l) (hl : 0 < l.length) : ∃ g c, v = .slice (some ⟨g, 0, none⟩) l.length c := by
  obtain ⟨a, c, rfl, _, _⟩ := h.form
  obtain ⟨g, rfl, _⟩ := h.at_ hl
  exact ⟨g, c, rfl⟩
def exL : List Nat := List.replicate 128 0 ++ [1, 2, 0, 0, 0]
theorem ex_digits : digY ⟨2, false, 32, 2, 133, 6⟩ (List.replicate 32 0) = exL ∧ chkE ⟨2, false, 32, 2, 133, 6⟩ (List.replicate 32 (0 : UInt8)).length = 0 := by decide +kernel
theorem ex_wf : S6.wf ⟨2, false, 32, 2, 133, 6⟩ := by unfold S6.wf; decide +kernel
set_option maxHeartbeats 4000000 in
theorem live_any (w : World) : Calls Try.prog 5 #[] w (TrueIs w) := by
  unfold TrueIs
  go_enter Try.func5, Try.ntmps5
  go_wp2_with (go_at_call 11; refine (refOts_2 _).mono ?_)
  unfold OldIs
  rintro e w2 ⟨rfl, b2⟩
  obtain ⟨G, hG⟩ : ∃ G, Shh (G = w2.heap.size) := ⟨_, ⟨rfl⟩⟩
  go_wp2_with (refine wpList_store_any rfl 24 (.tmp 1) (.tmp 7) rfl G (by rw [hG.out]; rfl) [.int .u32 2, .bool false, .int .i64 32, .int .i64 2, .int .i64 133, .int .i64 6] rfl 24 _ (Row.new_ hG.out rfl) info_ots rfl oneCell6 ?_)
  intro Z hr bt _
  have bb : Below w2.heap.size w2 Z := (Below.alloc (Below.refl _ _) (Nat.le_refl _) _).trans (bt.under (by have := hG.out; first | omega | (simp only [asz]; omega)) (by have := hG.out; omega))
  have F2 : Shh (Row Z G 24 [.int .u32 2, .bool false, .int .i64 32, .int .i64 2, .int .i64 133, .int .i64 6] ∧ Below w.heap.size w Z) := ⟨hr, Below.chain b2 bb⟩
  rw [← hG.out]
  clear hr bt bb b2 hG
  go_wp2
  refine wp_region_held_drew (S := fun w' => Row w' G 24 [.int .u32 2, .bool false, .int .i64 32, .int .i64 2, .int .i64 133, .int .i64 6]) (by kernel_rfl) (F2.out.1.drew) (fun hS => ?_)
  clear hS
  generalize hW : World.drew _ = W
  have F3 : Shh (Row W G 24 [.int .u32 2, .bool false, .int .i64 32, .int .i64 2, .int .i64 133, .int .i64 6] ∧ Below w.heap.size w W) := by
    rw [← hW]
    exact ⟨F2.out.1.drew, F2.out.2.drew⟩
  clear F2 hW
  have rW := F3.out.1
  have bw := F3.out.2
  clear F3
  refine held_load 0 24 (.tmp 1) (some 10) (by kernel_rfl) (by rfl) (by kernel_rfl) G 0 (by kernel_rfl) ([.int .u32 2, .bool false, .int .i64 32, .int .i64 2, .int .i64 133, .int .i64 6]) _ (fun w hS => Row.range hS) Try.underlying24 rfl (info_ots) (fun _ _ _ _ h => h) (rW) ?_
  simp only [Act.put, List.setIfInBounds_toArray, List.set_cons_zero, List.set_cons_succ]
  refine held_one 1 (by kernel_rfl) ?_
  refine step_value 1 _ _ (some 11) (.slice (some ⟨W.heap.size, 0, none⟩) 32 32) (W.alloc (.cells (Lib.byteCells (List.replicate 32 0)).toArray 5)) (by rfl) (by kernel_rfl) (run_makeSlice (make_run 32 (by omega) W)) (rW.alloc _) ?_
  simp only [Act.put, List.setIfInBounds_toArray, List.set_cons_zero, List.set_cons_succ]
  have bx : Below W.heap.size W (W.alloc (.cells (Lib.byteCells (List.replicate 32 0)).toArray 5)) := Below.alloc (Below.refl _ _) (Nat.le_refl _) _
  have rM : Row (W.alloc (.cells (Lib.byteCells (List.replicate 32 0)).toArray 5)) W.heap.size 5 (Lib.byteCells (List.replicate 32 0)) := Row.new_ rfl rfl
  have z_rM := asz W (.cells (Lib.byteCells (List.replicate 32 0)).toArray 5)
  generalize W.alloc (.cells (Lib.byteCells (List.replicate 32 0)).toArray 5) = Y1 at *
  have b_W := bx
  have m_Y1 : W.heap.size ≤ Y1.heap.size := bx.size
  clear bx
  refine held_one 2 (by kernel_rfl) ?_
  refine step_call 2 _ _ (some 12) 7 #[.agg ([.int .u32 2, .bool false, .int .i64 32, .int .i64 2, .int .i64 133, .int .i64 6]).toArray, .slice (some ⟨W.heap.size, 0, none⟩) 32 32] (by rfl) (by kernel_rfl) (by first | kernel_rfl | go_simp) ?_
  refine (Digits_any 2 false 32 2 133 6 ex_wf Y1.heap.size _ (List.replicate 32 0) Y1 (Row.sl rM (by rw [List.length_replicate]) (by omega)) (Nat.le_refl _)).mono ?_
  rintro e Y2 ⟨v9, rfl, s9, bx⟩
  have bx : Below Y1.heap.size Y1 Y2 := bx
  rw [ex_digits.1] at s9
  rw [ex_digits.2]
  replace b_W := Below.chain b_W bx
  have b_Y1 := bx
  have m_Y2 : Y1.heap.size ≤ Y2.heap.size := bx.size
  clear bx
  refine ⟨_, rfl, (rW.go b_W), ?_⟩
  simp only [Act.put, List.setIfInBounds_toArray, List.set_cons_zero, List.set_cons_succ]
  refine held_value 3 _ _ (some 9) (.tuple #[v9, .int .i64 0]) (by kernel_rfl) (by rfl) (by kernel_rfl) (fun w hS => by first | kernel_rfl | go_simp) (fun _ _ _ _ h => h) ((rW.go b_W)) ?_
  simp only [Act.put, List.setIfInBounds_toArray, List.set_cons_zero, List.set_cons_succ]
  refine held_value 4 _ _ (some 13) (v9) (by kernel_rfl) (by rfl) (by kernel_rfl) (fun w hS => by first | kernel_rfl | go_simp) (fun _ _ _ _ h => h) ((rW.go b_W)) ?_
  simp only [Act.put, List.setIfInBounds_toArray, List.set_cons_zero, List.set_cons_succ]
  refine held_value 5 _ _ (some 14) (.int .i64 0) (by kernel_rfl) (by rfl) (by kernel_rfl) (fun w hS => by first | kernel_rfl | go_simp) (fun _ _ _ _ h => h) ((rW.go b_W)) ?_
  simp only [Act.put, List.setIfInBounds_toArray, List.set_cons_zero, List.set_cons_succ]
  refine held_value 6 _ _ (some 3) (v9) (by kernel_rfl) (by rfl) (by kernel_rfl) (fun w hS => by first | kernel_rfl | go_simp) (fun _ _ _ _ h => h) ((rW.go b_W)) ?_
  simp only [Act.put, List.setIfInBounds_toArray, List.set_cons_zero, List.set_cons_succ]
  refine held_value 7 _ _ (some 4) (.int .i64 0) (by kernel_rfl) (by rfl) (by kernel_rfl) (fun w hS => by first | kernel_rfl | go_simp) (fun _ _ _ _ h => h) ((rW.go b_W)) ?_
  simp only [Act.put, List.setIfInBounds_toArray, List.set_cons_zero, List.set_cons_succ]
  refine wpAnyH_done (by kernel_rfl) ?_ _
  have F := Shh.mk (show SI Y2 Y2.heap.size v9 exL ∧ Below w.heap.size w Y2 from ⟨s9, Below.chain bw b_W⟩)
  clear m_Y2 b_Y1 s9 m_Y1 b_W z_rM rM rW bw
  obtain ⟨g, cp, hv⟩ := F.out.1.addr (by decide)
  rw [show exL.length = 133 from rfl] at hv
  subst hv
  have c127 := SI.get F.out.1 (show exL[127]? = some 0 from rfl)
  have c128 := SI.get F.out.1 (show exL[128]? = some 1 from rfl)
  have c129 := SI.get F.out.1 (show exL[129]? = some 2 from rfl)
  have c132 := SI.get F.out.1 (show exL[132]? = some 0 from rfl)
  have F' : Shh (Below w.heap.size w Y2) := ⟨F.out.2⟩
  clear F
  go_wp2
  go_ret
  exact ⟨rfl, F'.out⟩
end Go.Proofs.Ytcbcgegppnojmaa
