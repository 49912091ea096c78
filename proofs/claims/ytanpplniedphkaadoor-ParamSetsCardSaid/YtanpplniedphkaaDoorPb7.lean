/-
  WALK: ParamLens: at every three sets.
-/
import Derived.Test.YtanpplniedphkaaDoorPb4
import Derived.Test.YtanpplniedphkaaDoorPb5
namespace Go.Proofs.YtanpplniedphkaaDoor
open Go.RowKit
set_option maxRecDepth 100000
set_option maxHeartbeats 4000000 in
theorem lens_of (xc : Int) (xs : Bool) (xn xh : Int) (yc : Int) (ys : Bool) (yn ywd yp yl : Int) (zc : Int) (zs : Bool) (zn zh zl : Int) (r1 : Bool) (r2 r3 r4 r5 r6 : Int) (hF1 : ∀ W, Calls Tryd.prog 32 #[.agg #[.int .u32 xc, .bool xs, .int .i64 xn, .int .i64 xh], .agg #[.int .u32 yc, .bool ys, .int .i64 yn, .int .i64 ywd, .int .i64 yp, .int .i64 yl]] W (OldIs (.bool r1) W)) (hF2 : ∀ W, Calls Tryd.prog 33 #[.agg #[.int .u32 xc, .bool xs, .int .i64 xn, .int .i64 xh], .agg #[.int .u32 yc, .bool ys, .int .i64 yn, .int .i64 ywd, .int .i64 yp, .int .i64 yl]] W (OldIs (.bool r1) W)) (hO1 : ∀ W, Calls Tryd.prog 34 #[.agg #[.int .u32 yc, .bool ys, .int .i64 yn, .int .i64 ywd, .int .i64 yp, .int .i64 yl]] W (OldIs (.int .i64 r2) W)) (hO2 : ∀ W, Calls Tryd.prog 35 #[.agg #[.int .u32 yc, .bool ys, .int .i64 yn, .int .i64 ywd, .int .i64 yp, .int .i64 yl]] W (OldIs (.int .i64 r2) W)) (hL1 : ∀ W, Calls Tryd.prog 36 #[.agg #[.int .u32 xc, .bool xs, .int .i64 xn, .int .i64 xh], .agg #[.int .u32 yc, .bool ys, .int .i64 yn, .int .i64 ywd, .int .i64 yp, .int .i64 yl]] W (OldIs (.int .i64 r3) W)) (hL2 : ∀ W, Calls Tryd.prog 37 #[.agg #[.int .u32 xc, .bool xs, .int .i64 xn, .int .i64 xh], .agg #[.int .u32 yc, .bool ys, .int .i64 yn, .int .i64 ywd, .int .i64 yp, .int .i64 yl]] W (OldIs (.int .i64 r3) W)) (hX1 : ∀ W, Calls Tryd.prog 38 #[.agg #[.int .u32 zc, .bool zs, .int .i64 zn, .int .i64 zh, .int .i64 zl]] W (OldIs (.int .i64 r4) W)) (hX2 : ∀ W, Calls Tryd.prog 39 #[.agg #[.int .u32 zc, .bool zs, .int .i64 zn, .int .i64 zh, .int .i64 zl]] W (OldIs (.int .i64 r4) W)) (hP1 : ∀ W, Calls Tryd.prog 40 #[.agg #[.int .u32 xc, .bool xs, .int .i64 xn, .int .i64 xh]] W (OldIs (.int .i64 r5) W)) (hP2 : ∀ W, Calls Tryd.prog 41 #[.agg #[.int .u32 xc, .bool xs, .int .i64 xn, .int .i64 xh]] W (OldIs (.int .i64 r5) W)) (hQ1 : ∀ W, Calls Tryd.prog 42 #[.agg #[.int .u32 zc, .bool zs, .int .i64 zn, .int .i64 zh, .int .i64 zl]] W (OldIs (.int .i64 r6) W)) (hQ2 : ∀ W, Calls Tryd.prog 43 #[.agg #[.int .u32 zc, .bool zs, .int .i64 zn, .int .i64 zh, .int .i64 zl]] W (OldIs (.int .i64 r6) W)) (w : World) :
    Calls Tryd.prog 6 #[.agg #[.int .u32 yc, .bool ys, .int .i64 yn, .int .i64 ywd, .int .i64 yp, .int .i64 yl], .agg #[.int .u32 xc, .bool xs, .int .i64 xn, .int .i64 xh], .agg #[.int .u32 zc, .bool zs, .int .i64 zn, .int .i64 zh, .int .i64 zl]] w (TrueIs w) := by
  unfold TrueIs
  have hlive := live6
  unfold OldIs at hF1 hF2 hO1 hO2 hL1 hL2 hX1 hX2 hP1 hP2 hQ1 hQ2
  unfold TrueIs at hlive
  have HC := Shh.mk (And.intro hF1 (And.intro hF2 (And.intro hO1 (And.intro hO2 (And.intro hL1 (And.intro hL2 (And.intro hX1 (And.intro hX2 (And.intro hP1 (And.intro hP2 (And.intro hQ1 hQ2)))))))))))
  clear hF1 hF2 hO1 hO2 hL1 hL2 hX1 hX2 hP1 hP2 hQ1 hQ2
  obtain ⟨W, hW⟩ : ∃ W, W = ((w.alloc (.cells #[.int .u32 yc, .bool ys, .int .i64 yn, .int .i64 ywd, .int .i64 yp, .int .i64 yl] 46)).alloc (.cells #[.int .u32 xc, .bool xs, .int .i64 xn, .int .i64 xh] 50)).alloc (.cells #[.int .u32 zc, .bool zs, .int .i64 zn, .int .i64 zh, .int .i64 zl] 54) := ⟨_, rfl⟩
  have HW : Shh (Row W w.heap.size 46 [.int .u32 yc, .bool ys, .int .i64 yn, .int .i64 ywd, .int .i64 yp, .int .i64 yl] ∧ Row W (w.heap.size + 1) 50 [.int .u32 xc, .bool xs, .int .i64 xn, .int .i64 xh] ∧ Row W (w.heap.size + 2) 54 [.int .u32 zc, .bool zs, .int .i64 zn, .int .i64 zh, .int .i64 zl] ∧ Below w.heap.size w W) := by
    rw [hW]
    refine ⟨((Row.new_ rfl rfl).alloc _).alloc _, (Row.new_ (asz _ _).symm rfl).alloc _, Row.new_ (by simp only [asz]) rfl, ?_⟩
    exact ((Below.alloc (Below.refl _ _) (Nat.le_refl _) _).trans (Below.alloc (Below.refl _ _) (by simp only [asz]; omega) _)).trans (Below.alloc (Below.refl _ _) (by simp only [asz]; omega) _)
  rw [hW] at HW
  clear hW hlive
  go_enter Tryd.func6, Tryd.ntmps6
  go_wp2
  refine wp_region_held_drew (S := fun w' => Row w' w.heap.size 46 [.int .u32 yc, .bool ys, .int .i64 yn, .int .i64 ywd, .int .i64 yp, .int .i64 yl] ∧ Row w' (w.heap.size + 1) 50 [.int .u32 xc, .bool xs, .int .i64 xn, .int .i64 xh] ∧ Row w' (w.heap.size + 2) 54 [.int .u32 zc, .bool zs, .int .i64 zn, .int .i64 zh, .int .i64 zl]) (by kernel_rfl) ⟨HW.out.1.drew, HW.out.2.1.drew, HW.out.2.2.1.drew⟩ (fun hS => ?_)
  clear hS
  generalize hV : World.drew _ = V
  have rO : Row V w.heap.size 46 [.int .u32 yc, .bool ys, .int .i64 yn, .int .i64 ywd, .int .i64 yp, .int .i64 yl] := by rw [← hV]; exact HW.out.1.drew
  have rL : Row V (w.heap.size + 1) 50 [.int .u32 xc, .bool xs, .int .i64 xn, .int .i64 xh] := by rw [← hV]; exact HW.out.2.1.drew
  have rX : Row V (w.heap.size + 2) 54 [.int .u32 zc, .bool zs, .int .i64 zn, .int .i64 zh, .int .i64 zl] := by rw [← hV]; exact HW.out.2.2.1.drew
  have rX0 := rX
  have F3 : Shh (Below w.heap.size w V) := ⟨by rw [← hV]; exact HW.out.2.2.2.drew⟩
  clear HW hV
  have hlive := live6
  unfold TrueIs at hlive
  obtain ⟨hF1, hF2, hO1, hO2, hL1, hL2, hX1, hX2, hP1, hP2, hQ1, hQ2⟩ := HC.out
  refine held_one 0 (by kernel_rfl) ?_
  refine step_call 0 _ _ (some 7) 24 #[] (by rfl) (by kernel_rfl) (by first | kernel_rfl | go_simp) ?_
  refine (hlive _).mono ?_
  rintro e Y1 ⟨rfl, by1⟩
  have bx : Below V.heap.size V Y1 := by1
  have b_V := bx
  have m_Y1 : V.heap.size ≤ Y1.heap.size := bx.size
  clear bx
  refine ⟨_, rfl, ⟨(rO.go b_V), (rL.go b_V), (rX.go b_V)⟩, ?_⟩
  simp only [Act.put, List.setIfInBounds_toArray, List.set_cons_zero, List.set_cons_succ]
  refine held_value 1 _ _ (some 8) (.bool true) (by kernel_rfl) (by rfl) (by kernel_rfl) (fun u hS => by first | kernel_rfl | go_simp) (fun _ _ _ _ h => h) (⟨(rO.go b_V), (rL.go b_V), (rX.go b_V)⟩) ?_
  simp only [Act.put, List.setIfInBounds_toArray, List.set_cons_zero, List.set_cons_succ]
  refine held_load 2 50 (.tmp 4) (some 9) (by kernel_rfl) (by rfl) (by kernel_rfl) (w.heap.size + 1) 0 (by kernel_rfl) ([.int .u32 xc, .bool xs, .int .i64 xn, .int .i64 xh]) _ (fun _ h => h.2.1.range) Tryd.underlying50 rfl (info_lms) (fun _ _ _ _ h => h) (⟨(rO.go b_V), (rL.go b_V), (rX.go b_V)⟩) ?_
  simp only [Act.put, List.setIfInBounds_toArray, List.set_cons_zero, List.set_cons_succ]
  refine held_load 3 46 (.tmp 3) (some 10) (by kernel_rfl) (by rfl) (by kernel_rfl) (w.heap.size) 0 (by kernel_rfl) ([.int .u32 yc, .bool ys, .int .i64 yn, .int .i64 ywd, .int .i64 yp, .int .i64 yl]) _ (fun _ h => h.1.range) Tryd.underlying46 rfl (info_ots) (fun _ _ _ _ h => h) (⟨(rO.go b_V), (rL.go b_V), (rX.go b_V)⟩) ?_
  simp only [Act.put, List.setIfInBounds_toArray, List.set_cons_zero, List.set_cons_succ]
  refine held_load 5 50 (.tmp 4) (some 12) (by kernel_rfl) (by rfl) (by kernel_rfl) (w.heap.size + 1) 0 (by kernel_rfl) ([.int .u32 xc, .bool xs, .int .i64 xn, .int .i64 xh]) _ (fun _ h => h.2.1.range) Tryd.underlying50 rfl (info_lms) (fun _ _ _ _ h => h) (⟨(rO.go b_V), (rL.go b_V), (rX.go b_V)⟩) ?_
  simp only [Act.put, List.setIfInBounds_toArray, List.set_cons_zero, List.set_cons_succ]
  refine held_load 6 46 (.tmp 3) (some 13) (by kernel_rfl) (by rfl) (by kernel_rfl) (w.heap.size) 0 (by kernel_rfl) ([.int .u32 yc, .bool ys, .int .i64 yn, .int .i64 ywd, .int .i64 yp, .int .i64 yl]) _ (fun _ h => h.1.range) Tryd.underlying46 rfl (info_ots) (fun _ _ _ _ h => h) (⟨(rO.go b_V), (rL.go b_V), (rX.go b_V)⟩) ?_
  simp only [Act.put, List.setIfInBounds_toArray, List.set_cons_zero, List.set_cons_succ]
  refine held_one 4 (by kernel_rfl) ?_
  refine step_call 4 _ _ (some 11) 32 #[.agg #[.int .u32 xc, .bool xs, .int .i64 xn, .int .i64 xh], .agg #[.int .u32 yc, .bool ys, .int .i64 yn, .int .i64 ywd, .int .i64 yp, .int .i64 yl]] (by rfl) (by kernel_rfl) (by first | kernel_rfl | go_simp) ?_
  refine (hF1 _).mono ?_
  rintro e Y2 ⟨rfl, by2⟩
  have bx : Below Y1.heap.size Y1 Y2 := by2
  replace b_V := Below.chain b_V bx
  have b_Y1 := bx
  have m_Y2 : Y1.heap.size ≤ Y2.heap.size := bx.size
  clear bx
  refine ⟨_, rfl, ⟨(rO.go b_V), (rL.go b_V), (rX.go b_V)⟩, ?_⟩
  simp only [Act.put, List.setIfInBounds_toArray, List.set_cons_zero, List.set_cons_succ]
  refine held_one 7 (by kernel_rfl) ?_
  refine step_call 7 _ _ (some 14) 33 #[.agg #[.int .u32 xc, .bool xs, .int .i64 xn, .int .i64 xh], .agg #[.int .u32 yc, .bool ys, .int .i64 yn, .int .i64 ywd, .int .i64 yp, .int .i64 yl]] (by rfl) (by kernel_rfl) (by first | kernel_rfl | go_simp) ?_
  refine (hF2 _).mono ?_
  rintro e Y3 ⟨rfl, by3⟩
  have bx : Below Y2.heap.size Y2 Y3 := by3
  replace b_V := Below.chain b_V bx
  replace b_Y1 := Below.chain b_Y1 bx
  have b_Y2 := bx
  have m_Y3 : Y2.heap.size ≤ Y3.heap.size := bx.size
  clear bx
  refine ⟨_, rfl, ⟨(rO.go b_V), (rL.go b_V), (rX.go b_V)⟩, ?_⟩
  simp only [Act.put, List.setIfInBounds_toArray, List.set_cons_zero, List.set_cons_succ]
  refine held_value 8 _ _ (some 15) (.bool true) (by kernel_rfl) (by rfl) (by kernel_rfl) (fun u hS => by go_simp) (fun _ _ _ _ h => h) (⟨(rO.go b_V), (rL.go b_V), (rX.go b_V)⟩) ?_
  simp only [Act.put, List.setIfInBounds_toArray, List.set_cons_zero, List.set_cons_succ]
  refine held_value 9 _ _ (some 16) (.bool true) (by kernel_rfl) (by rfl) (by kernel_rfl) (fun u hS => by kernel_rfl) (fun _ _ _ _ h => h) (⟨(rO.go b_V), (rL.go b_V), (rX.go b_V)⟩) ?_
  simp only [Act.put, List.setIfInBounds_toArray, List.set_cons_zero, List.set_cons_succ]
  refine held_value 10 _ _ (some 17) (.bool true) (by kernel_rfl) (by rfl) (by kernel_rfl) (fun u hS => by first | kernel_rfl | go_simp) (fun _ _ _ _ h => h) (⟨(rO.go b_V), (rL.go b_V), (rX.go b_V)⟩) ?_
  simp only [Act.put, List.setIfInBounds_toArray, List.set_cons_zero, List.set_cons_succ]
  refine held_load 11 46 (.tmp 3) (some 18) (by kernel_rfl) (by rfl) (by kernel_rfl) (w.heap.size) 0 (by kernel_rfl) ([.int .u32 yc, .bool ys, .int .i64 yn, .int .i64 ywd, .int .i64 yp, .int .i64 yl]) _ (fun _ h => h.1.range) Tryd.underlying46 rfl (info_ots) (fun _ _ _ _ h => h) (⟨(rO.go b_V), (rL.go b_V), (rX.go b_V)⟩) ?_
  simp only [Act.put, List.setIfInBounds_toArray, List.set_cons_zero, List.set_cons_succ]
  refine held_load 13 46 (.tmp 3) (some 20) (by kernel_rfl) (by rfl) (by kernel_rfl) (w.heap.size) 0 (by kernel_rfl) ([.int .u32 yc, .bool ys, .int .i64 yn, .int .i64 ywd, .int .i64 yp, .int .i64 yl]) _ (fun _ h => h.1.range) Tryd.underlying46 rfl (info_ots) (fun _ _ _ _ h => h) (⟨(rO.go b_V), (rL.go b_V), (rX.go b_V)⟩) ?_
  simp only [Act.put, List.setIfInBounds_toArray, List.set_cons_zero, List.set_cons_succ]
  refine held_one 12 (by kernel_rfl) ?_
  refine step_call 12 _ _ (some 19) 34 #[.agg #[.int .u32 yc, .bool ys, .int .i64 yn, .int .i64 ywd, .int .i64 yp, .int .i64 yl]] (by rfl) (by kernel_rfl) (by first | kernel_rfl | go_simp) ?_
  refine (hO1 _).mono ?_
  rintro e Y4 ⟨rfl, by4⟩
  have bx : Below Y3.heap.size Y3 Y4 := by4
  replace b_V := Below.chain b_V bx
  replace b_Y1 := Below.chain b_Y1 bx
  replace b_Y2 := Below.chain b_Y2 bx
  have b_Y3 := bx
  have m_Y4 : Y3.heap.size ≤ Y4.heap.size := bx.size
  clear bx
  refine ⟨_, rfl, ⟨(rO.go b_V), (rL.go b_V), (rX.go b_V)⟩, ?_⟩
  simp only [Act.put, List.setIfInBounds_toArray, List.set_cons_zero, List.set_cons_succ]
  refine held_one 14 (by kernel_rfl) ?_
  refine step_call 14 _ _ (some 21) 35 #[.agg #[.int .u32 yc, .bool ys, .int .i64 yn, .int .i64 ywd, .int .i64 yp, .int .i64 yl]] (by rfl) (by kernel_rfl) (by first | kernel_rfl | go_simp) ?_
  refine (hO2 _).mono ?_
  rintro e Y5 ⟨rfl, by5⟩
  have bx : Below Y4.heap.size Y4 Y5 := by5
  replace b_V := Below.chain b_V bx
  replace b_Y1 := Below.chain b_Y1 bx
  replace b_Y2 := Below.chain b_Y2 bx
  replace b_Y3 := Below.chain b_Y3 bx
  have b_Y4 := bx
  have m_Y5 : Y4.heap.size ≤ Y5.heap.size := bx.size
  clear bx
  refine ⟨_, rfl, ⟨(rO.go b_V), (rL.go b_V), (rX.go b_V)⟩, ?_⟩
  simp only [Act.put, List.setIfInBounds_toArray, List.set_cons_zero, List.set_cons_succ]
  refine held_value 15 _ _ (some 22) (.bool true) (by kernel_rfl) (by rfl) (by kernel_rfl) (fun u hS => by go_simp) (fun _ _ _ _ h => h) (⟨(rO.go b_V), (rL.go b_V), (rX.go b_V)⟩) ?_
  simp only [Act.put, List.setIfInBounds_toArray, List.set_cons_zero, List.set_cons_succ]
  refine held_value 16 _ _ (some 23) (.bool true) (by kernel_rfl) (by rfl) (by kernel_rfl) (fun u hS => by kernel_rfl) (fun _ _ _ _ h => h) (⟨(rO.go b_V), (rL.go b_V), (rX.go b_V)⟩) ?_
  simp only [Act.put, List.setIfInBounds_toArray, List.set_cons_zero, List.set_cons_succ]
  refine held_value 17 _ _ (some 24) (.bool true) (by kernel_rfl) (by rfl) (by kernel_rfl) (fun u hS => by first | kernel_rfl | go_simp) (fun _ _ _ _ h => h) (⟨(rO.go b_V), (rL.go b_V), (rX.go b_V)⟩) ?_
  simp only [Act.put, List.setIfInBounds_toArray, List.set_cons_zero, List.set_cons_succ]
  refine held_load 18 50 (.tmp 4) (some 25) (by kernel_rfl) (by rfl) (by kernel_rfl) (w.heap.size + 1) 0 (by kernel_rfl) ([.int .u32 xc, .bool xs, .int .i64 xn, .int .i64 xh]) _ (fun _ h => h.2.1.range) Tryd.underlying50 rfl (info_lms) (fun _ _ _ _ h => h) (⟨(rO.go b_V), (rL.go b_V), (rX.go b_V)⟩) ?_
  simp only [Act.put, List.setIfInBounds_toArray, List.set_cons_zero, List.set_cons_succ]
  refine held_load 19 46 (.tmp 3) (some 26) (by kernel_rfl) (by rfl) (by kernel_rfl) (w.heap.size) 0 (by kernel_rfl) ([.int .u32 yc, .bool ys, .int .i64 yn, .int .i64 ywd, .int .i64 yp, .int .i64 yl]) _ (fun _ h => h.1.range) Tryd.underlying46 rfl (info_ots) (fun _ _ _ _ h => h) (⟨(rO.go b_V), (rL.go b_V), (rX.go b_V)⟩) ?_
  simp only [Act.put, List.setIfInBounds_toArray, List.set_cons_zero, List.set_cons_succ]
  refine held_load 21 50 (.tmp 4) (some 28) (by kernel_rfl) (by rfl) (by kernel_rfl) (w.heap.size + 1) 0 (by kernel_rfl) ([.int .u32 xc, .bool xs, .int .i64 xn, .int .i64 xh]) _ (fun _ h => h.2.1.range) Tryd.underlying50 rfl (info_lms) (fun _ _ _ _ h => h) (⟨(rO.go b_V), (rL.go b_V), (rX.go b_V)⟩) ?_
  simp only [Act.put, List.setIfInBounds_toArray, List.set_cons_zero, List.set_cons_succ]
  refine held_load 22 46 (.tmp 3) (some 29) (by kernel_rfl) (by rfl) (by kernel_rfl) (w.heap.size) 0 (by kernel_rfl) ([.int .u32 yc, .bool ys, .int .i64 yn, .int .i64 ywd, .int .i64 yp, .int .i64 yl]) _ (fun _ h => h.1.range) Tryd.underlying46 rfl (info_ots) (fun _ _ _ _ h => h) (⟨(rO.go b_V), (rL.go b_V), (rX.go b_V)⟩) ?_
  simp only [Act.put, List.setIfInBounds_toArray, List.set_cons_zero, List.set_cons_succ]
  refine held_one 20 (by kernel_rfl) ?_
  refine step_call 20 _ _ (some 27) 36 #[.agg #[.int .u32 xc, .bool xs, .int .i64 xn, .int .i64 xh], .agg #[.int .u32 yc, .bool ys, .int .i64 yn, .int .i64 ywd, .int .i64 yp, .int .i64 yl]] (by rfl) (by kernel_rfl) (by first | kernel_rfl | go_simp) ?_
  refine (hL1 _).mono ?_
  rintro e Y6 ⟨rfl, by6⟩
  have bx : Below Y5.heap.size Y5 Y6 := by6
  replace b_V := Below.chain b_V bx
  replace b_Y1 := Below.chain b_Y1 bx
  replace b_Y2 := Below.chain b_Y2 bx
  replace b_Y3 := Below.chain b_Y3 bx
  replace b_Y4 := Below.chain b_Y4 bx
  have b_Y5 := bx
  have m_Y6 : Y5.heap.size ≤ Y6.heap.size := bx.size
  clear bx
  refine ⟨_, rfl, ⟨(rO.go b_V), (rL.go b_V), (rX.go b_V)⟩, ?_⟩
  simp only [Act.put, List.setIfInBounds_toArray, List.set_cons_zero, List.set_cons_succ]
  refine held_one 23 (by kernel_rfl) ?_
  refine step_call 23 _ _ (some 30) 37 #[.agg #[.int .u32 xc, .bool xs, .int .i64 xn, .int .i64 xh], .agg #[.int .u32 yc, .bool ys, .int .i64 yn, .int .i64 ywd, .int .i64 yp, .int .i64 yl]] (by rfl) (by kernel_rfl) (by first | kernel_rfl | go_simp) ?_
  refine (hL2 _).mono ?_
  rintro e Y7 ⟨rfl, by7⟩
  have bx : Below Y6.heap.size Y6 Y7 := by7
  replace b_V := Below.chain b_V bx
  replace b_Y1 := Below.chain b_Y1 bx
  replace b_Y2 := Below.chain b_Y2 bx
  replace b_Y3 := Below.chain b_Y3 bx
  replace b_Y4 := Below.chain b_Y4 bx
  replace b_Y5 := Below.chain b_Y5 bx
  have b_Y6 := bx
  have m_Y7 : Y6.heap.size ≤ Y7.heap.size := bx.size
  clear bx
  refine ⟨_, rfl, ⟨(rO.go b_V), (rL.go b_V), (rX.go b_V)⟩, ?_⟩
  simp only [Act.put, List.setIfInBounds_toArray, List.set_cons_zero, List.set_cons_succ]
  refine held_value 24 _ _ (some 31) (.bool true) (by kernel_rfl) (by rfl) (by kernel_rfl) (fun u hS => by go_simp) (fun _ _ _ _ h => h) (⟨(rO.go b_V), (rL.go b_V), (rX.go b_V)⟩) ?_
  simp only [Act.put, List.setIfInBounds_toArray, List.set_cons_zero, List.set_cons_succ]
  refine held_value 25 _ _ (some 32) (.bool true) (by kernel_rfl) (by rfl) (by kernel_rfl) (fun u hS => by kernel_rfl) (fun _ _ _ _ h => h) (⟨(rO.go b_V), (rL.go b_V), (rX.go b_V)⟩) ?_
  simp only [Act.put, List.setIfInBounds_toArray, List.set_cons_zero, List.set_cons_succ]
  refine held_value 26 _ _ (some 33) (.bool true) (by kernel_rfl) (by rfl) (by kernel_rfl) (fun u hS => by first | kernel_rfl | go_simp) (fun _ _ _ _ h => h) (⟨(rO.go b_V), (rL.go b_V), (rX.go b_V)⟩) ?_
  simp only [Act.put, List.setIfInBounds_toArray, List.set_cons_zero, List.set_cons_succ]
  refine held_load 27 54 (.tmp 5) (some 34) (by kernel_rfl) (by rfl) (by kernel_rfl) (w.heap.size + 2) 0 (by kernel_rfl) ([.int .u32 zc, .bool zs, .int .i64 zn, .int .i64 zh, .int .i64 zl]) _ (fun _ h => h.2.2.range) Tryd.underlying54 rfl (info_xms) (fun _ _ _ _ h => h) (⟨(rO.go b_V), (rL.go b_V), (rX.go b_V)⟩) ?_
  simp only [Act.put, List.setIfInBounds_toArray, List.set_cons_zero, List.set_cons_succ]
  refine held_load 29 54 (.tmp 5) (some 36) (by kernel_rfl) (by rfl) (by kernel_rfl) (w.heap.size + 2) 0 (by kernel_rfl) ([.int .u32 zc, .bool zs, .int .i64 zn, .int .i64 zh, .int .i64 zl]) _ (fun _ h => h.2.2.range) Tryd.underlying54 rfl (info_xms) (fun _ _ _ _ h => h) (⟨(rO.go b_V), (rL.go b_V), (rX.go b_V)⟩) ?_
  simp only [Act.put, List.setIfInBounds_toArray, List.set_cons_zero, List.set_cons_succ]
  refine held_one 28 (by kernel_rfl) ?_
  refine step_call 28 _ _ (some 35) 38 #[.agg #[.int .u32 zc, .bool zs, .int .i64 zn, .int .i64 zh, .int .i64 zl]] (by rfl) (by kernel_rfl) (by first | kernel_rfl | go_simp) ?_
  refine (hX1 _).mono ?_
  rintro e Y8 ⟨rfl, by8⟩
  have bx : Below Y7.heap.size Y7 Y8 := by8
  replace b_V := Below.chain b_V bx
  replace b_Y1 := Below.chain b_Y1 bx
  replace b_Y2 := Below.chain b_Y2 bx
  replace b_Y3 := Below.chain b_Y3 bx
  replace b_Y4 := Below.chain b_Y4 bx
  replace b_Y5 := Below.chain b_Y5 bx
  replace b_Y6 := Below.chain b_Y6 bx
  have b_Y7 := bx
  have m_Y8 : Y7.heap.size ≤ Y8.heap.size := bx.size
  clear bx
  refine ⟨_, rfl, ⟨(rO.go b_V), (rL.go b_V), (rX.go b_V)⟩, ?_⟩
  simp only [Act.put, List.setIfInBounds_toArray, List.set_cons_zero, List.set_cons_succ]
  refine held_one 30 (by kernel_rfl) ?_
  refine step_call 30 _ _ (some 37) 39 #[.agg #[.int .u32 zc, .bool zs, .int .i64 zn, .int .i64 zh, .int .i64 zl]] (by rfl) (by kernel_rfl) (by first | kernel_rfl | go_simp) ?_
  refine (hX2 _).mono ?_
  rintro e Y9 ⟨rfl, by9⟩
  have bx : Below Y8.heap.size Y8 Y9 := by9
  replace b_V := Below.chain b_V bx
  replace b_Y1 := Below.chain b_Y1 bx
  replace b_Y2 := Below.chain b_Y2 bx
  replace b_Y3 := Below.chain b_Y3 bx
  replace b_Y4 := Below.chain b_Y4 bx
  replace b_Y5 := Below.chain b_Y5 bx
  replace b_Y6 := Below.chain b_Y6 bx
  replace b_Y7 := Below.chain b_Y7 bx
  have b_Y8 := bx
  have m_Y9 : Y8.heap.size ≤ Y9.heap.size := bx.size
  clear bx
  refine ⟨_, rfl, ⟨(rO.go b_V), (rL.go b_V), (rX.go b_V)⟩, ?_⟩
  simp only [Act.put, List.setIfInBounds_toArray, List.set_cons_zero, List.set_cons_succ]
  refine held_value 31 _ _ (some 38) (.bool true) (by kernel_rfl) (by rfl) (by kernel_rfl) (fun u hS => by go_simp) (fun _ _ _ _ h => h) (⟨(rO.go b_V), (rL.go b_V), (rX.go b_V)⟩) ?_
  simp only [Act.put, List.setIfInBounds_toArray, List.set_cons_zero, List.set_cons_succ]
  refine held_value 32 _ _ (some 39) (.bool true) (by kernel_rfl) (by rfl) (by kernel_rfl) (fun u hS => by kernel_rfl) (fun _ _ _ _ h => h) (⟨(rO.go b_V), (rL.go b_V), (rX.go b_V)⟩) ?_
  simp only [Act.put, List.setIfInBounds_toArray, List.set_cons_zero, List.set_cons_succ]
  refine held_value 33 _ _ (some 40) (.bool true) (by kernel_rfl) (by rfl) (by kernel_rfl) (fun u hS => by first | kernel_rfl | go_simp) (fun _ _ _ _ h => h) (⟨(rO.go b_V), (rL.go b_V), (rX.go b_V)⟩) ?_
  simp only [Act.put, List.setIfInBounds_toArray, List.set_cons_zero, List.set_cons_succ]
  refine held_load 34 50 (.tmp 4) (some 41) (by kernel_rfl) (by rfl) (by kernel_rfl) (w.heap.size + 1) 0 (by kernel_rfl) ([.int .u32 xc, .bool xs, .int .i64 xn, .int .i64 xh]) _ (fun _ h => h.2.1.range) Tryd.underlying50 rfl (info_lms) (fun _ _ _ _ h => h) (⟨(rO.go b_V), (rL.go b_V), (rX.go b_V)⟩) ?_
  simp only [Act.put, List.setIfInBounds_toArray, List.set_cons_zero, List.set_cons_succ]
  refine held_load 36 50 (.tmp 4) (some 43) (by kernel_rfl) (by rfl) (by kernel_rfl) (w.heap.size + 1) 0 (by kernel_rfl) ([.int .u32 xc, .bool xs, .int .i64 xn, .int .i64 xh]) _ (fun _ h => h.2.1.range) Tryd.underlying50 rfl (info_lms) (fun _ _ _ _ h => h) (⟨(rO.go b_V), (rL.go b_V), (rX.go b_V)⟩) ?_
  simp only [Act.put, List.setIfInBounds_toArray, List.set_cons_zero, List.set_cons_succ]
  refine held_one 35 (by kernel_rfl) ?_
  refine step_call 35 _ _ (some 42) 40 #[.agg #[.int .u32 xc, .bool xs, .int .i64 xn, .int .i64 xh]] (by rfl) (by kernel_rfl) (by first | kernel_rfl | go_simp) ?_
  refine (hP1 _).mono ?_
  rintro e Y10 ⟨rfl, by10⟩
  have bx : Below Y9.heap.size Y9 Y10 := by10
  replace b_V := Below.chain b_V bx
  replace b_Y1 := Below.chain b_Y1 bx
  replace b_Y2 := Below.chain b_Y2 bx
  replace b_Y3 := Below.chain b_Y3 bx
  replace b_Y4 := Below.chain b_Y4 bx
  replace b_Y5 := Below.chain b_Y5 bx
  replace b_Y6 := Below.chain b_Y6 bx
  replace b_Y7 := Below.chain b_Y7 bx
  replace b_Y8 := Below.chain b_Y8 bx
  have b_Y9 := bx
  have m_Y10 : Y9.heap.size ≤ Y10.heap.size := bx.size
  clear bx
  refine ⟨_, rfl, ⟨(rO.go b_V), (rL.go b_V), (rX.go b_V)⟩, ?_⟩
  simp only [Act.put, List.setIfInBounds_toArray, List.set_cons_zero, List.set_cons_succ]
  refine held_one 37 (by kernel_rfl) ?_
  refine step_call 37 _ _ (some 44) 41 #[.agg #[.int .u32 xc, .bool xs, .int .i64 xn, .int .i64 xh]] (by rfl) (by kernel_rfl) (by first | kernel_rfl | go_simp) ?_
  refine (hP2 _).mono ?_
  rintro e Y11 ⟨rfl, by11⟩
  have bx : Below Y10.heap.size Y10 Y11 := by11
  replace b_V := Below.chain b_V bx
  replace b_Y1 := Below.chain b_Y1 bx
  replace b_Y2 := Below.chain b_Y2 bx
  replace b_Y3 := Below.chain b_Y3 bx
  replace b_Y4 := Below.chain b_Y4 bx
  replace b_Y5 := Below.chain b_Y5 bx
  replace b_Y6 := Below.chain b_Y6 bx
  replace b_Y7 := Below.chain b_Y7 bx
  replace b_Y8 := Below.chain b_Y8 bx
  replace b_Y9 := Below.chain b_Y9 bx
  have b_Y10 := bx
  have m_Y11 : Y10.heap.size ≤ Y11.heap.size := bx.size
  clear bx
  refine ⟨_, rfl, ⟨(rO.go b_V), (rL.go b_V), (rX.go b_V)⟩, ?_⟩
  simp only [Act.put, List.setIfInBounds_toArray, List.set_cons_zero, List.set_cons_succ]
  refine held_value 38 _ _ (some 45) (.bool true) (by kernel_rfl) (by rfl) (by kernel_rfl) (fun u hS => by go_simp) (fun _ _ _ _ h => h) (⟨(rO.go b_V), (rL.go b_V), (rX.go b_V)⟩) ?_
  simp only [Act.put, List.setIfInBounds_toArray, List.set_cons_zero, List.set_cons_succ]
  refine held_value 39 _ _ (some 46) (.bool true) (by kernel_rfl) (by rfl) (by kernel_rfl) (fun u hS => by kernel_rfl) (fun _ _ _ _ h => h) (⟨(rO.go b_V), (rL.go b_V), (rX.go b_V)⟩) ?_
  simp only [Act.put, List.setIfInBounds_toArray, List.set_cons_zero, List.set_cons_succ]
  refine held_value 40 _ _ (some 47) (.bool true) (by kernel_rfl) (by rfl) (by kernel_rfl) (fun u hS => by first | kernel_rfl | go_simp) (fun _ _ _ _ h => h) (⟨(rO.go b_V), (rL.go b_V), (rX.go b_V)⟩) ?_
  simp only [Act.put, List.setIfInBounds_toArray, List.set_cons_zero, List.set_cons_succ]
  refine held_load 41 54 (.tmp 5) (some 48) (by kernel_rfl) (by rfl) (by kernel_rfl) (w.heap.size + 2) 0 (by kernel_rfl) ([.int .u32 zc, .bool zs, .int .i64 zn, .int .i64 zh, .int .i64 zl]) _ (fun _ h => h.2.2.range) Tryd.underlying54 rfl (info_xms) (fun _ _ _ _ h => h) (⟨(rO.go b_V), (rL.go b_V), (rX.go b_V)⟩) ?_
  simp only [Act.put, List.setIfInBounds_toArray, List.set_cons_zero, List.set_cons_succ]
  refine held_load 43 54 (.tmp 5) (some 50) (by kernel_rfl) (by rfl) (by kernel_rfl) (w.heap.size + 2) 0 (by kernel_rfl) ([.int .u32 zc, .bool zs, .int .i64 zn, .int .i64 zh, .int .i64 zl]) _ (fun _ h => h.2.2.range) Tryd.underlying54 rfl (info_xms) (fun _ _ _ _ h => h) (⟨(rO.go b_V), (rL.go b_V), (rX.go b_V)⟩) ?_
  simp only [Act.put, List.setIfInBounds_toArray, List.set_cons_zero, List.set_cons_succ]
  refine held_one 42 (by kernel_rfl) ?_
  refine step_call 42 _ _ (some 49) 42 #[.agg #[.int .u32 zc, .bool zs, .int .i64 zn, .int .i64 zh, .int .i64 zl]] (by rfl) (by kernel_rfl) (by first | kernel_rfl | go_simp) ?_
  refine (hQ1 _).mono ?_
  rintro e Y12 ⟨rfl, by12⟩
  have bx : Below Y11.heap.size Y11 Y12 := by12
  replace b_V := Below.chain b_V bx
  replace b_Y1 := Below.chain b_Y1 bx
  replace b_Y2 := Below.chain b_Y2 bx
  replace b_Y3 := Below.chain b_Y3 bx
  replace b_Y4 := Below.chain b_Y4 bx
  replace b_Y5 := Below.chain b_Y5 bx
  replace b_Y6 := Below.chain b_Y6 bx
  replace b_Y7 := Below.chain b_Y7 bx
  replace b_Y8 := Below.chain b_Y8 bx
  replace b_Y9 := Below.chain b_Y9 bx
  replace b_Y10 := Below.chain b_Y10 bx
  have b_Y11 := bx
  have m_Y12 : Y11.heap.size ≤ Y12.heap.size := bx.size
  clear bx
  refine ⟨_, rfl, ⟨(rO.go b_V), (rL.go b_V), (rX.go b_V)⟩, ?_⟩
  simp only [Act.put, List.setIfInBounds_toArray, List.set_cons_zero, List.set_cons_succ]
  refine held_one 44 (by kernel_rfl) ?_
  refine step_call 44 _ _ (some 51) 43 #[.agg #[.int .u32 zc, .bool zs, .int .i64 zn, .int .i64 zh, .int .i64 zl]] (by rfl) (by kernel_rfl) (by first | kernel_rfl | go_simp) ?_
  refine (hQ2 _).mono ?_
  rintro e Y13 ⟨rfl, by13⟩
  have bx : Below Y12.heap.size Y12 Y13 := by13
  replace b_V := Below.chain b_V bx
  replace b_Y1 := Below.chain b_Y1 bx
  replace b_Y2 := Below.chain b_Y2 bx
  replace b_Y3 := Below.chain b_Y3 bx
  replace b_Y4 := Below.chain b_Y4 bx
  replace b_Y5 := Below.chain b_Y5 bx
  replace b_Y6 := Below.chain b_Y6 bx
  replace b_Y7 := Below.chain b_Y7 bx
  replace b_Y8 := Below.chain b_Y8 bx
  replace b_Y9 := Below.chain b_Y9 bx
  replace b_Y10 := Below.chain b_Y10 bx
  replace b_Y11 := Below.chain b_Y11 bx
  have b_Y12 := bx
  have m_Y13 : Y12.heap.size ≤ Y13.heap.size := bx.size
  clear bx
  refine ⟨_, rfl, ⟨(rO.go b_V), (rL.go b_V), (rX.go b_V)⟩, ?_⟩
  simp only [Act.put, List.setIfInBounds_toArray, List.set_cons_zero, List.set_cons_succ]
  refine held_value 45 _ _ (some 52) (.bool true) (by kernel_rfl) (by rfl) (by kernel_rfl) (fun u hS => by go_simp) (fun _ _ _ _ h => h) (⟨(rO.go b_V), (rL.go b_V), (rX.go b_V)⟩) ?_
  simp only [Act.put, List.setIfInBounds_toArray, List.set_cons_zero, List.set_cons_succ]
  refine held_value 46 _ _ (some 53) (.bool true) (by kernel_rfl) (by rfl) (by kernel_rfl) (fun u hS => by kernel_rfl) (fun _ _ _ _ h => h) (⟨(rO.go b_V), (rL.go b_V), (rX.go b_V)⟩) ?_
  simp only [Act.put, List.setIfInBounds_toArray, List.set_cons_zero, List.set_cons_succ]
  refine held_value 47 _ _ (some 6) (.bool true) (by kernel_rfl) (by rfl) (by kernel_rfl) (fun u hS => by first | kernel_rfl | go_simp) (fun _ _ _ _ h => h) (⟨(rO.go b_V), (rL.go b_V), (rX.go b_V)⟩) ?_
  simp only [Act.put, List.setIfInBounds_toArray, List.set_cons_zero, List.set_cons_succ]
  refine wpAnyH_done (by kernel_rfl) ?_ _
  go_wp2
  go_ret
  exact ⟨rfl, F3.out.trans (b_V.mono (by have := rX0.lt; omega))⟩
end Go.Proofs.YtanpplniedphkaaDoor
