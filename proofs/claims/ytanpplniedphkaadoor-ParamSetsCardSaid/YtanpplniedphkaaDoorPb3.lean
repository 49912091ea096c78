/-
  WALKS: is a set what its code says: the program's and the document's.
-/
import Derived.Test.YtanpplniedphkaaDoorPb2
import Derived.Test.YtanpplniedphkaaDoorPa6
namespace Go.Proofs.YtanpplniedphkaaDoor
open Go.RowKit
set_option maxRecDepth 100000
theorem isLms_of (xc : Int) (xs : Bool) (xn xh : Int) (yc : Int) (ys : Bool) (yn yh : Int) (ee : Int) (hxc : (Lit.int .u32 xc).wf = true) (hxn : (Lit.int .i64 xn).wf = true) (hxh : (Lit.int .i64 xh).wf = true) (hyc : (Lit.int .u32 yc).wf = true) (hyn : (Lit.int .i64 yn).wf = true) (hyh : (Lit.int .i64 yh).wf = true) (hset : ∀ W, Calls Tryd.prog 19 #[.int .u32 xc] W (OldIs (.tuple #[.agg #[.int .u32 yc, .bool ys, .int .i64 yn, .int .i64 yh], .int .i64 ee]) W)) (w : World) :
    Calls Tryd.prog 82 #[.agg #[.int .u32 xc, .bool xs, .int .i64 xn, .int .i64 xh]] w (OldIs (.bool (decide (ee = 0 ∧ (xc = yc ∧ xs = ys ∧ xn = yn ∧ xh = yh)))) w) := by
  unfold OldIs
  have HW : Shh (Row (w.alloc (.cells #[.int .u32 xc, .bool xs, .int .i64 xn, .int .i64 xh] 50)) w.heap.size 50 [.int .u32 xc, .bool xs, .int .i64 xn, .int .i64 xh] ∧ Below w.heap.size w (w.alloc (.cells #[.int .u32 xc, .bool xs, .int .i64 xn, .int .i64 xh] 50))) := ⟨Row.new_ rfl rfl, Below.alloc (Below.refl _ _) (Nat.le_refl _) _⟩
  by_cases he : ee = 0
  · subst he
    have hres : decide ((0 : Int) = 0 ∧ (xc = yc ∧ xs = ys ∧ xn = yn ∧ xh = yh)) = decide (xc = yc ∧ xs = ys ∧ xn = yn ∧ xh = yh) := by
      refine decide_eq_decide.2 ⟨fun h => ?_, fun h => ?_⟩
      · obtain ⟨_, rfl, rfl, rfl, rfl⟩ := h
        exact ⟨rfl, rfl, rfl, rfl⟩
      · obtain ⟨rfl, rfl, rfl, rfl⟩ := h
        exact ⟨rfl, rfl, rfl, rfl, rfl⟩
    have heq := fun W : World => eq_lms xc xs xn xh yc ys yn yh hxc hxn hxh hyc hyn hyh W
    rw [hres]
    generalize decide (xc = yc ∧ xs = ys ∧ xn = yn ∧ xh = yh) = r at heq ⊢
    clear hres
    go_enter Tryd.func82, Tryd.ntmps82
    go_wp2_with (go_at_call 19; refine (hset _).mono ?_)
    unfold OldIs
    rintro e w2 ⟨rfl, b2⟩
    have F2 : Shh (Row w2 w.heap.size 50 [.int .u32 xc, .bool xs, .int .i64 xn, .int .i64 xh] ∧ Below w.heap.size w w2) := ⟨HW.out.1.go b2, Below.chain HW.out.2 b2⟩
    clear HW b2 hset
    obtain ⟨G, hG⟩ : ∃ G, Shh (G = w2.heap.size) := ⟨_, ⟨rfl⟩⟩
    go_wp2_with (refine wpList_store_any rfl 50 (.tmp 3) (.tmp 9) rfl G (by rw [hG.out]; rfl) [.int .u32 yc, .bool ys, .int .i64 yn, .int .i64 yh] rfl 50 _ (Row.new_ hG.out rfl) info_lms rfl oneCell4 ?_)
    intro Z hr bt _
    have F3 : Shh (Row Z w.heap.size 50 [.int .u32 xc, .bool xs, .int .i64 xn, .int .i64 xh] ∧ Row Z G 50 [.int .u32 yc, .bool ys, .int .i64 yn, .int .i64 yh] ∧ Below w.heap.size w Z) := by
      have hl := F2.out.1.lt
      refine ⟨bt.row (F2.out.1.alloc _) (by first | omega | (simp only [asz]; omega)) (by have := hG.out; omega), hr, Below.chain F2.out.2 ?_⟩
      exact (Below.alloc (Below.refl _ _) (Nat.le_refl _) _).trans (bt.under (by first | omega | (simp only [asz]; omega)) (by have := hG.out; omega))
    rw [← hG.out]
    clear hr bt F2 hG
    go_wp2_with (first | refine wl_loadW 50 (.tmp 1) rfl w.heap.size rfl 50 [.int .u32 xc, .bool xs, .int .i64 xn, .int .i64 xh] _ rfl F3.out.1 Tryd.underlying50 rfl info_lms ?_ | refine wl_loadW 50 (.tmp 3) rfl G rfl 50 [.int .u32 yc, .bool ys, .int .i64 yn, .int .i64 yh] _ rfl F3.out.2.1 Tryd.underlying50 rfl info_lms ?_ | refine wl_eqlW 50 50 (.tmp 14) (.tmp 15) rfl #[.int .u32 xc, .bool xs, .int .i64 xn, .int .i64 xh] #[.int .u32 yc, .bool ys, .int .i64 yn, .int .i64 yh] rfl rfl rfl (by kernel_rfl) r (heq _) ?_)
    go_ret
    exact ⟨rfl, F3.out.2.2⟩
  · have hres : (decide (ee = 0 ∧ (xc = yc ∧ xs = ys ∧ xn = yn ∧ xh = yh))) = false := decide_eq_false fun h => he h.1
    rw [hres]
    clear hres
    go_enter Tryd.func82, Tryd.ntmps82
    go_wp2_with (go_at_call 19; refine (hset _).mono ?_)
    unfold OldIs
    rintro e w2 ⟨rfl, b2⟩
    have F2 : Shh (Row w2 w.heap.size 50 [.int .u32 xc, .bool xs, .int .i64 xn, .int .i64 xh] ∧ Below w.heap.size w w2) := ⟨HW.out.1.go b2, Below.chain HW.out.2 b2⟩
    clear HW b2 hset
    obtain ⟨G, hG⟩ : ∃ G, Shh (G = w2.heap.size) := ⟨_, ⟨rfl⟩⟩
    go_wp2_with (refine wpList_store_any rfl 50 (.tmp 3) (.tmp 9) rfl G (by rw [hG.out]; rfl) [.int .u32 yc, .bool ys, .int .i64 yn, .int .i64 yh] rfl 50 _ (Row.new_ hG.out rfl) info_lms rfl oneCell4 ?_)
    intro Z hr bt _
    have F3 : Shh (True ∧ Below w.heap.size w Z) := by
      refine ⟨trivial, Below.chain F2.out.2 ?_⟩
      exact (Below.alloc (Below.refl _ _) (Nat.le_refl _) _).trans (bt.under (by first | omega | (simp only [asz]; omega)) (by have := hG.out; omega))
    clear hr bt F2 hG
    go_wp2
    go_ret
    exact ⟨rfl, F3.out.2⟩
theorem MayLms_of (xc : Int) (xs : Bool) (xn xh : Int) (yc : Int) (ys : Bool) (yn yh : Int) (ee : Int) (hxc : (Lit.int .u32 xc).wf = true) (hxn : (Lit.int .i64 xn).wf = true) (hxh : (Lit.int .i64 xh).wf = true) (hyc : (Lit.int .u32 yc).wf = true) (hyn : (Lit.int .i64 yn).wf = true) (hyh : (Lit.int .i64 yh).wf = true) (hset : ∀ W, Calls Tryd.prog 22 #[.int .u32 xc] W (OldIs (.tuple #[.agg #[.int .u32 yc, .bool ys, .int .i64 yn, .int .i64 yh], .int .i64 ee]) W)) (w : World) :
    Calls Tryd.prog 84 #[.agg #[.int .u32 xc, .bool xs, .int .i64 xn, .int .i64 xh]] w (OldIs (.bool (decide (ee = 0 ∧ (xc = yc ∧ xs = ys ∧ xn = yn ∧ xh = yh)))) w) := by
  unfold OldIs
  have HW : Shh (Row (w.alloc (.cells #[.int .u32 xc, .bool xs, .int .i64 xn, .int .i64 xh] 50)) w.heap.size 50 [.int .u32 xc, .bool xs, .int .i64 xn, .int .i64 xh] ∧ Below w.heap.size w (w.alloc (.cells #[.int .u32 xc, .bool xs, .int .i64 xn, .int .i64 xh] 50))) := ⟨Row.new_ rfl rfl, Below.alloc (Below.refl _ _) (Nat.le_refl _) _⟩
  by_cases he : ee = 0
  · subst he
    have hres : decide ((0 : Int) = 0 ∧ (xc = yc ∧ xs = ys ∧ xn = yn ∧ xh = yh)) = decide (yc = xc ∧ ys = xs ∧ yn = xn ∧ yh = xh) := by
      refine decide_eq_decide.2 ⟨fun h => ?_, fun h => ?_⟩
      · obtain ⟨_, rfl, rfl, rfl, rfl⟩ := h
        exact ⟨rfl, rfl, rfl, rfl⟩
      · obtain ⟨rfl, rfl, rfl, rfl⟩ := h
        exact ⟨rfl, rfl, rfl, rfl, rfl⟩
    have heq := fun W : World => eq_lms yc ys yn yh xc xs xn xh hyc hyn hyh hxc hxn hxh W
    rw [hres]
    generalize decide (yc = xc ∧ ys = xs ∧ yn = xn ∧ yh = xh) = r at heq ⊢
    clear hres
    go_enter Tryd.func84, Tryd.ntmps84
    go_wp2_with (go_at_call 22; refine (hset _).mono ?_)
    unfold OldIs
    rintro e w2 ⟨rfl, b2⟩
    have F2 : Shh (Row w2 w.heap.size 50 [.int .u32 xc, .bool xs, .int .i64 xn, .int .i64 xh] ∧ Below w.heap.size w w2) := ⟨HW.out.1.go b2, Below.chain HW.out.2 b2⟩
    clear HW b2 hset
    obtain ⟨G, hG⟩ : ∃ G, Shh (G = w2.heap.size) := ⟨_, ⟨rfl⟩⟩
    go_wp2_with (refine wpList_store_any rfl 50 (.tmp 3) (.tmp 9) rfl G (by rw [hG.out]; rfl) [.int .u32 yc, .bool ys, .int .i64 yn, .int .i64 yh] rfl 50 _ (Row.new_ hG.out rfl) info_lms rfl oneCell4 ?_)
    intro Z hr bt _
    have F3 : Shh (Row Z w.heap.size 50 [.int .u32 xc, .bool xs, .int .i64 xn, .int .i64 xh] ∧ Row Z G 50 [.int .u32 yc, .bool ys, .int .i64 yn, .int .i64 yh] ∧ Below w.heap.size w Z) := by
      have hl := F2.out.1.lt
      refine ⟨bt.row (F2.out.1.alloc _) (by first | omega | (simp only [asz]; omega)) (by have := hG.out; omega), hr, Below.chain F2.out.2 ?_⟩
      exact (Below.alloc (Below.refl _ _) (Nat.le_refl _) _).trans (bt.under (by first | omega | (simp only [asz]; omega)) (by have := hG.out; omega))
    rw [← hG.out]
    clear hr bt F2 hG
    go_wp2_with (first | refine wl_loadW 50 (.tmp 3) rfl G rfl 50 [.int .u32 yc, .bool ys, .int .i64 yn, .int .i64 yh] _ rfl F3.out.2.1 Tryd.underlying50 rfl info_lms ?_ | refine wl_loadW 50 (.tmp 1) rfl w.heap.size rfl 50 [.int .u32 xc, .bool xs, .int .i64 xn, .int .i64 xh] _ rfl F3.out.1 Tryd.underlying50 rfl info_lms ?_ | refine wl_eqlW 50 50 (.tmp 14) (.tmp 15) rfl #[.int .u32 yc, .bool ys, .int .i64 yn, .int .i64 yh] #[.int .u32 xc, .bool xs, .int .i64 xn, .int .i64 xh] rfl rfl rfl (by kernel_rfl) r (heq _) ?_)
    go_ret
    exact ⟨rfl, F3.out.2.2⟩
  · have hres : (decide (ee = 0 ∧ (xc = yc ∧ xs = ys ∧ xn = yn ∧ xh = yh))) = false := decide_eq_false fun h => he h.1
    rw [hres]
    clear hres
    go_enter Tryd.func84, Tryd.ntmps84
    go_wp2_with (go_at_call 22; refine (hset _).mono ?_)
    unfold OldIs
    rintro e w2 ⟨rfl, b2⟩
    have F2 : Shh (Row w2 w.heap.size 50 [.int .u32 xc, .bool xs, .int .i64 xn, .int .i64 xh] ∧ Below w.heap.size w w2) := ⟨HW.out.1.go b2, Below.chain HW.out.2 b2⟩
    clear HW b2 hset
    obtain ⟨G, hG⟩ : ∃ G, Shh (G = w2.heap.size) := ⟨_, ⟨rfl⟩⟩
    go_wp2_with (refine wpList_store_any rfl 50 (.tmp 3) (.tmp 9) rfl G (by rw [hG.out]; rfl) [.int .u32 yc, .bool ys, .int .i64 yn, .int .i64 yh] rfl 50 _ (Row.new_ hG.out rfl) info_lms rfl oneCell4 ?_)
    intro Z hr bt _
    have F3 : Shh (True ∧ Below w.heap.size w Z) := by
      refine ⟨trivial, Below.chain F2.out.2 ?_⟩
      exact (Below.alloc (Below.refl _ _) (Nat.le_refl _) _).trans (bt.under (by first | omega | (simp only [asz]; omega)) (by have := hG.out; omega))
    clear hr bt F2 hG
    go_wp2
    go_ret
    exact ⟨rfl, F3.out.2⟩
theorem isOts_of (xc : Int) (xs : Bool) (xn xwd xp xl : Int) (yc : Int) (ys : Bool) (yn ywd yp yl : Int) (ee : Int) (hxc : (Lit.int .u32 xc).wf = true) (hxn : (Lit.int .i64 xn).wf = true) (hxwd : (Lit.int .i64 xwd).wf = true) (hxp : (Lit.int .i64 xp).wf = true) (hxl : (Lit.int .i64 xl).wf = true) (hyc : (Lit.int .u32 yc).wf = true) (hyn : (Lit.int .i64 yn).wf = true) (hywd : (Lit.int .i64 ywd).wf = true) (hyp : (Lit.int .i64 yp).wf = true) (hyl : (Lit.int .i64 yl).wf = true) (hset : ∀ W, Calls Tryd.prog 18 #[.int .u32 xc] W (OldIs (.tuple #[.agg #[.int .u32 yc, .bool ys, .int .i64 yn, .int .i64 ywd, .int .i64 yp, .int .i64 yl], .int .i64 ee]) W)) (w : World) :
    Calls Tryd.prog 83 #[.agg #[.int .u32 xc, .bool xs, .int .i64 xn, .int .i64 xwd, .int .i64 xp, .int .i64 xl]] w (OldIs (.bool (decide (ee = 0 ∧ (xc = yc ∧ xs = ys ∧ xn = yn ∧ xwd = ywd ∧ xp = yp ∧ xl = yl)))) w) := by
  unfold OldIs
  have HW : Shh (Row (w.alloc (.cells #[.int .u32 xc, .bool xs, .int .i64 xn, .int .i64 xwd, .int .i64 xp, .int .i64 xl] 46)) w.heap.size 46 [.int .u32 xc, .bool xs, .int .i64 xn, .int .i64 xwd, .int .i64 xp, .int .i64 xl] ∧ Below w.heap.size w (w.alloc (.cells #[.int .u32 xc, .bool xs, .int .i64 xn, .int .i64 xwd, .int .i64 xp, .int .i64 xl] 46))) := ⟨Row.new_ rfl rfl, Below.alloc (Below.refl _ _) (Nat.le_refl _) _⟩
  by_cases he : ee = 0
  · subst he
    have hres : decide ((0 : Int) = 0 ∧ (xc = yc ∧ xs = ys ∧ xn = yn ∧ xwd = ywd ∧ xp = yp ∧ xl = yl)) = decide (xc = yc ∧ xs = ys ∧ xn = yn ∧ xwd = ywd ∧ xp = yp ∧ xl = yl) := by
      refine decide_eq_decide.2 ⟨fun h => ?_, fun h => ?_⟩
      · obtain ⟨_, rfl, rfl, rfl, rfl, rfl, rfl⟩ := h
        exact ⟨rfl, rfl, rfl, rfl, rfl, rfl⟩
      · obtain ⟨rfl, rfl, rfl, rfl, rfl, rfl⟩ := h
        exact ⟨rfl, rfl, rfl, rfl, rfl, rfl, rfl⟩
    have heq := fun W : World => eq_ots xc xs xn xwd xp xl yc ys yn ywd yp yl hxc hxn hxwd hxp hxl hyc hyn hywd hyp hyl W
    rw [hres]
    generalize decide (xc = yc ∧ xs = ys ∧ xn = yn ∧ xwd = ywd ∧ xp = yp ∧ xl = yl) = r at heq ⊢
    clear hres
    go_enter Tryd.func83, Tryd.ntmps83
    go_wp2_with (go_at_call 18; refine (hset _).mono ?_)
    unfold OldIs
    rintro e w2 ⟨rfl, b2⟩
    have F2 : Shh (Row w2 w.heap.size 46 [.int .u32 xc, .bool xs, .int .i64 xn, .int .i64 xwd, .int .i64 xp, .int .i64 xl] ∧ Below w.heap.size w w2) := ⟨HW.out.1.go b2, Below.chain HW.out.2 b2⟩
    clear HW b2 hset
    obtain ⟨G, hG⟩ : ∃ G, Shh (G = w2.heap.size) := ⟨_, ⟨rfl⟩⟩
    go_wp2_with (refine wpList_store_any rfl 46 (.tmp 3) (.tmp 9) rfl G (by rw [hG.out]; rfl) [.int .u32 yc, .bool ys, .int .i64 yn, .int .i64 ywd, .int .i64 yp, .int .i64 yl] rfl 46 _ (Row.new_ hG.out rfl) info_ots rfl oneCell6 ?_)
    intro Z hr bt _
    have F3 : Shh (Row Z w.heap.size 46 [.int .u32 xc, .bool xs, .int .i64 xn, .int .i64 xwd, .int .i64 xp, .int .i64 xl] ∧ Row Z G 46 [.int .u32 yc, .bool ys, .int .i64 yn, .int .i64 ywd, .int .i64 yp, .int .i64 yl] ∧ Below w.heap.size w Z) := by
      have hl := F2.out.1.lt
      refine ⟨bt.row (F2.out.1.alloc _) (by first | omega | (simp only [asz]; omega)) (by have := hG.out; omega), hr, Below.chain F2.out.2 ?_⟩
      exact (Below.alloc (Below.refl _ _) (Nat.le_refl _) _).trans (bt.under (by first | omega | (simp only [asz]; omega)) (by have := hG.out; omega))
    rw [← hG.out]
    clear hr bt F2 hG
    go_wp2_with (first | refine wl_loadW 46 (.tmp 1) rfl w.heap.size rfl 46 [.int .u32 xc, .bool xs, .int .i64 xn, .int .i64 xwd, .int .i64 xp, .int .i64 xl] _ rfl F3.out.1 Tryd.underlying46 rfl info_ots ?_ | refine wl_loadW 46 (.tmp 3) rfl G rfl 46 [.int .u32 yc, .bool ys, .int .i64 yn, .int .i64 ywd, .int .i64 yp, .int .i64 yl] _ rfl F3.out.2.1 Tryd.underlying46 rfl info_ots ?_ | refine wl_eqlW 46 46 (.tmp 14) (.tmp 15) rfl #[.int .u32 xc, .bool xs, .int .i64 xn, .int .i64 xwd, .int .i64 xp, .int .i64 xl] #[.int .u32 yc, .bool ys, .int .i64 yn, .int .i64 ywd, .int .i64 yp, .int .i64 yl] rfl rfl rfl (by kernel_rfl) r (heq _) ?_)
    go_ret
    exact ⟨rfl, F3.out.2.2⟩
  · have hres : (decide (ee = 0 ∧ (xc = yc ∧ xs = ys ∧ xn = yn ∧ xwd = ywd ∧ xp = yp ∧ xl = yl))) = false := decide_eq_false fun h => he h.1
    rw [hres]
    clear hres
    go_enter Tryd.func83, Tryd.ntmps83
    go_wp2_with (go_at_call 18; refine (hset _).mono ?_)
    unfold OldIs
    rintro e w2 ⟨rfl, b2⟩
    have F2 : Shh (Row w2 w.heap.size 46 [.int .u32 xc, .bool xs, .int .i64 xn, .int .i64 xwd, .int .i64 xp, .int .i64 xl] ∧ Below w.heap.size w w2) := ⟨HW.out.1.go b2, Below.chain HW.out.2 b2⟩
    clear HW b2 hset
    obtain ⟨G, hG⟩ : ∃ G, Shh (G = w2.heap.size) := ⟨_, ⟨rfl⟩⟩
    go_wp2_with (refine wpList_store_any rfl 46 (.tmp 3) (.tmp 9) rfl G (by rw [hG.out]; rfl) [.int .u32 yc, .bool ys, .int .i64 yn, .int .i64 ywd, .int .i64 yp, .int .i64 yl] rfl 46 _ (Row.new_ hG.out rfl) info_ots rfl oneCell6 ?_)
    intro Z hr bt _
    have F3 : Shh (True ∧ Below w.heap.size w Z) := by
      refine ⟨trivial, Below.chain F2.out.2 ?_⟩
      exact (Below.alloc (Below.refl _ _) (Nat.le_refl _) _).trans (bt.under (by first | omega | (simp only [asz]; omega)) (by have := hG.out; omega))
    clear hr bt F2 hG
    go_wp2
    go_ret
    exact ⟨rfl, F3.out.2⟩
theorem MayOts_of (xc : Int) (xs : Bool) (xn xwd xp xl : Int) (yc : Int) (ys : Bool) (yn ywd yp yl : Int) (ee : Int) (hxc : (Lit.int .u32 xc).wf = true) (hxn : (Lit.int .i64 xn).wf = true) (hxwd : (Lit.int .i64 xwd).wf = true) (hxp : (Lit.int .i64 xp).wf = true) (hxl : (Lit.int .i64 xl).wf = true) (hyc : (Lit.int .u32 yc).wf = true) (hyn : (Lit.int .i64 yn).wf = true) (hywd : (Lit.int .i64 ywd).wf = true) (hyp : (Lit.int .i64 yp).wf = true) (hyl : (Lit.int .i64 yl).wf = true) (hset : ∀ W, Calls Tryd.prog 21 #[.int .u32 xc] W (OldIs (.tuple #[.agg #[.int .u32 yc, .bool ys, .int .i64 yn, .int .i64 ywd, .int .i64 yp, .int .i64 yl], .int .i64 ee]) W)) (w : World) :
    Calls Tryd.prog 85 #[.agg #[.int .u32 xc, .bool xs, .int .i64 xn, .int .i64 xwd, .int .i64 xp, .int .i64 xl]] w (OldIs (.bool (decide (ee = 0 ∧ (xc = yc ∧ xs = ys ∧ xn = yn ∧ xwd = ywd ∧ xp = yp ∧ xl = yl)))) w) := by
  unfold OldIs
  have HW : Shh (Row (w.alloc (.cells #[.int .u32 xc, .bool xs, .int .i64 xn, .int .i64 xwd, .int .i64 xp, .int .i64 xl] 46)) w.heap.size 46 [.int .u32 xc, .bool xs, .int .i64 xn, .int .i64 xwd, .int .i64 xp, .int .i64 xl] ∧ Below w.heap.size w (w.alloc (.cells #[.int .u32 xc, .bool xs, .int .i64 xn, .int .i64 xwd, .int .i64 xp, .int .i64 xl] 46))) := ⟨Row.new_ rfl rfl, Below.alloc (Below.refl _ _) (Nat.le_refl _) _⟩
  by_cases he : ee = 0
  · subst he
    have hres : decide ((0 : Int) = 0 ∧ (xc = yc ∧ xs = ys ∧ xn = yn ∧ xwd = ywd ∧ xp = yp ∧ xl = yl)) = decide (yc = xc ∧ ys = xs ∧ yn = xn ∧ ywd = xwd ∧ yp = xp ∧ yl = xl) := by
      refine decide_eq_decide.2 ⟨fun h => ?_, fun h => ?_⟩
      · obtain ⟨_, rfl, rfl, rfl, rfl, rfl, rfl⟩ := h
        exact ⟨rfl, rfl, rfl, rfl, rfl, rfl⟩
      · obtain ⟨rfl, rfl, rfl, rfl, rfl, rfl⟩ := h
        exact ⟨rfl, rfl, rfl, rfl, rfl, rfl, rfl⟩
    have heq := fun W : World => eq_ots yc ys yn ywd yp yl xc xs xn xwd xp xl hyc hyn hywd hyp hyl hxc hxn hxwd hxp hxl W
    rw [hres]
    generalize decide (yc = xc ∧ ys = xs ∧ yn = xn ∧ ywd = xwd ∧ yp = xp ∧ yl = xl) = r at heq ⊢
    clear hres
    go_enter Tryd.func85, Tryd.ntmps85
    go_wp2_with (go_at_call 21; refine (hset _).mono ?_)
    unfold OldIs
    rintro e w2 ⟨rfl, b2⟩
    have F2 : Shh (Row w2 w.heap.size 46 [.int .u32 xc, .bool xs, .int .i64 xn, .int .i64 xwd, .int .i64 xp, .int .i64 xl] ∧ Below w.heap.size w w2) := ⟨HW.out.1.go b2, Below.chain HW.out.2 b2⟩
    clear HW b2 hset
    obtain ⟨G, hG⟩ : ∃ G, Shh (G = w2.heap.size) := ⟨_, ⟨rfl⟩⟩
    go_wp2_with (refine wpList_store_any rfl 46 (.tmp 3) (.tmp 9) rfl G (by rw [hG.out]; rfl) [.int .u32 yc, .bool ys, .int .i64 yn, .int .i64 ywd, .int .i64 yp, .int .i64 yl] rfl 46 _ (Row.new_ hG.out rfl) info_ots rfl oneCell6 ?_)
    intro Z hr bt _
    have F3 : Shh (Row Z w.heap.size 46 [.int .u32 xc, .bool xs, .int .i64 xn, .int .i64 xwd, .int .i64 xp, .int .i64 xl] ∧ Row Z G 46 [.int .u32 yc, .bool ys, .int .i64 yn, .int .i64 ywd, .int .i64 yp, .int .i64 yl] ∧ Below w.heap.size w Z) := by
      have hl := F2.out.1.lt
      refine ⟨bt.row (F2.out.1.alloc _) (by first | omega | (simp only [asz]; omega)) (by have := hG.out; omega), hr, Below.chain F2.out.2 ?_⟩
      exact (Below.alloc (Below.refl _ _) (Nat.le_refl _) _).trans (bt.under (by first | omega | (simp only [asz]; omega)) (by have := hG.out; omega))
    rw [← hG.out]
    clear hr bt F2 hG
    go_wp2_with (first | refine wl_loadW 46 (.tmp 3) rfl G rfl 46 [.int .u32 yc, .bool ys, .int .i64 yn, .int .i64 ywd, .int .i64 yp, .int .i64 yl] _ rfl F3.out.2.1 Tryd.underlying46 rfl info_ots ?_ | refine wl_loadW 46 (.tmp 1) rfl w.heap.size rfl 46 [.int .u32 xc, .bool xs, .int .i64 xn, .int .i64 xwd, .int .i64 xp, .int .i64 xl] _ rfl F3.out.1 Tryd.underlying46 rfl info_ots ?_ | refine wl_eqlW 46 46 (.tmp 14) (.tmp 15) rfl #[.int .u32 yc, .bool ys, .int .i64 yn, .int .i64 ywd, .int .i64 yp, .int .i64 yl] #[.int .u32 xc, .bool xs, .int .i64 xn, .int .i64 xwd, .int .i64 xp, .int .i64 xl] rfl rfl rfl (by kernel_rfl) r (heq _) ?_)
    go_ret
    exact ⟨rfl, F3.out.2.2⟩
  · have hres : (decide (ee = 0 ∧ (xc = yc ∧ xs = ys ∧ xn = yn ∧ xwd = ywd ∧ xp = yp ∧ xl = yl))) = false := decide_eq_false fun h => he h.1
    rw [hres]
    clear hres
    go_enter Tryd.func85, Tryd.ntmps85
    go_wp2_with (go_at_call 21; refine (hset _).mono ?_)
    unfold OldIs
    rintro e w2 ⟨rfl, b2⟩
    have F2 : Shh (Row w2 w.heap.size 46 [.int .u32 xc, .bool xs, .int .i64 xn, .int .i64 xwd, .int .i64 xp, .int .i64 xl] ∧ Below w.heap.size w w2) := ⟨HW.out.1.go b2, Below.chain HW.out.2 b2⟩
    clear HW b2 hset
    obtain ⟨G, hG⟩ : ∃ G, Shh (G = w2.heap.size) := ⟨_, ⟨rfl⟩⟩
    go_wp2_with (refine wpList_store_any rfl 46 (.tmp 3) (.tmp 9) rfl G (by rw [hG.out]; rfl) [.int .u32 yc, .bool ys, .int .i64 yn, .int .i64 ywd, .int .i64 yp, .int .i64 yl] rfl 46 _ (Row.new_ hG.out rfl) info_ots rfl oneCell6 ?_)
    intro Z hr bt _
    have F3 : Shh (True ∧ Below w.heap.size w Z) := by
      refine ⟨trivial, Below.chain F2.out.2 ?_⟩
      exact (Below.alloc (Below.refl _ _) (Nat.le_refl _) _).trans (bt.under (by first | omega | (simp only [asz]; omega)) (by have := hG.out; omega))
    clear hr bt F2 hG
    go_wp2
    go_ret
    exact ⟨rfl, F3.out.2⟩
theorem isXmss_of (xc : Int) (xs : Bool) (xn xh xl : Int) (yc : Int) (ys : Bool) (yn yh yl : Int) (ee : Int) (hxc : (Lit.int .u32 xc).wf = true) (hxn : (Lit.int .i64 xn).wf = true) (hxh : (Lit.int .i64 xh).wf = true) (hxl : (Lit.int .i64 xl).wf = true) (hyc : (Lit.int .u32 yc).wf = true) (hyn : (Lit.int .i64 yn).wf = true) (hyh : (Lit.int .i64 yh).wf = true) (hyl : (Lit.int .i64 yl).wf = true) (hset : ∀ W, Calls Tryd.prog 20 #[.int .u32 xc] W (OldIs (.tuple #[.agg #[.int .u32 yc, .bool ys, .int .i64 yn, .int .i64 yh, .int .i64 yl], .int .i64 ee]) W)) (w : World) :
    Calls Tryd.prog 86 #[.agg #[.int .u32 xc, .bool xs, .int .i64 xn, .int .i64 xh, .int .i64 xl]] w (OldIs (.bool (decide (ee = 0 ∧ (xc = yc ∧ xs = ys ∧ xn = yn ∧ xh = yh ∧ xl = yl)))) w) := by
  unfold OldIs
  have HW : Shh (Row (w.alloc (.cells #[.int .u32 xc, .bool xs, .int .i64 xn, .int .i64 xh, .int .i64 xl] 54)) w.heap.size 54 [.int .u32 xc, .bool xs, .int .i64 xn, .int .i64 xh, .int .i64 xl] ∧ Below w.heap.size w (w.alloc (.cells #[.int .u32 xc, .bool xs, .int .i64 xn, .int .i64 xh, .int .i64 xl] 54))) := ⟨Row.new_ rfl rfl, Below.alloc (Below.refl _ _) (Nat.le_refl _) _⟩
  by_cases he : ee = 0
  · subst he
    have hres : decide ((0 : Int) = 0 ∧ (xc = yc ∧ xs = ys ∧ xn = yn ∧ xh = yh ∧ xl = yl)) = decide (xc = yc ∧ xs = ys ∧ xn = yn ∧ xh = yh ∧ xl = yl) := by
      refine decide_eq_decide.2 ⟨fun h => ?_, fun h => ?_⟩
      · obtain ⟨_, rfl, rfl, rfl, rfl, rfl⟩ := h
        exact ⟨rfl, rfl, rfl, rfl, rfl⟩
      · obtain ⟨rfl, rfl, rfl, rfl, rfl⟩ := h
        exact ⟨rfl, rfl, rfl, rfl, rfl, rfl⟩
    have heq := fun W : World => eq_xms xc xs xn xh xl yc ys yn yh yl hxc hxn hxh hxl hyc hyn hyh hyl W
    rw [hres]
    generalize decide (xc = yc ∧ xs = ys ∧ xn = yn ∧ xh = yh ∧ xl = yl) = r at heq ⊢
    clear hres
    go_enter Tryd.func86, Tryd.ntmps86
    go_wp2_with (go_at_call 20; refine (hset _).mono ?_)
    unfold OldIs
    rintro e w2 ⟨rfl, b2⟩
    have F2 : Shh (Row w2 w.heap.size 54 [.int .u32 xc, .bool xs, .int .i64 xn, .int .i64 xh, .int .i64 xl] ∧ Below w.heap.size w w2) := ⟨HW.out.1.go b2, Below.chain HW.out.2 b2⟩
    clear HW b2 hset
    obtain ⟨G, hG⟩ : ∃ G, Shh (G = w2.heap.size) := ⟨_, ⟨rfl⟩⟩
    go_wp2_with (refine wpList_store_any rfl 54 (.tmp 3) (.tmp 9) rfl G (by rw [hG.out]; rfl) [.int .u32 yc, .bool ys, .int .i64 yn, .int .i64 yh, .int .i64 yl] rfl 54 _ (Row.new_ hG.out rfl) info_xms rfl oneCell5 ?_)
    intro Z hr bt _
    have F3 : Shh (Row Z w.heap.size 54 [.int .u32 xc, .bool xs, .int .i64 xn, .int .i64 xh, .int .i64 xl] ∧ Row Z G 54 [.int .u32 yc, .bool ys, .int .i64 yn, .int .i64 yh, .int .i64 yl] ∧ Below w.heap.size w Z) := by
      have hl := F2.out.1.lt
      refine ⟨bt.row (F2.out.1.alloc _) (by first | omega | (simp only [asz]; omega)) (by have := hG.out; omega), hr, Below.chain F2.out.2 ?_⟩
      exact (Below.alloc (Below.refl _ _) (Nat.le_refl _) _).trans (bt.under (by first | omega | (simp only [asz]; omega)) (by have := hG.out; omega))
    rw [← hG.out]
    clear hr bt F2 hG
    go_wp2_with (first | refine wl_loadW 54 (.tmp 1) rfl w.heap.size rfl 54 [.int .u32 xc, .bool xs, .int .i64 xn, .int .i64 xh, .int .i64 xl] _ rfl F3.out.1 Tryd.underlying54 rfl info_xms ?_ | refine wl_loadW 54 (.tmp 3) rfl G rfl 54 [.int .u32 yc, .bool ys, .int .i64 yn, .int .i64 yh, .int .i64 yl] _ rfl F3.out.2.1 Tryd.underlying54 rfl info_xms ?_ | refine wl_eqlW 54 54 (.tmp 14) (.tmp 15) rfl #[.int .u32 xc, .bool xs, .int .i64 xn, .int .i64 xh, .int .i64 xl] #[.int .u32 yc, .bool ys, .int .i64 yn, .int .i64 yh, .int .i64 yl] rfl rfl rfl (by kernel_rfl) r (heq _) ?_)
    go_ret
    exact ⟨rfl, F3.out.2.2⟩
  · have hres : (decide (ee = 0 ∧ (xc = yc ∧ xs = ys ∧ xn = yn ∧ xh = yh ∧ xl = yl))) = false := decide_eq_false fun h => he h.1
    rw [hres]
    clear hres
    go_enter Tryd.func86, Tryd.ntmps86
    go_wp2_with (go_at_call 20; refine (hset _).mono ?_)
    unfold OldIs
    rintro e w2 ⟨rfl, b2⟩
    have F2 : Shh (Row w2 w.heap.size 54 [.int .u32 xc, .bool xs, .int .i64 xn, .int .i64 xh, .int .i64 xl] ∧ Below w.heap.size w w2) := ⟨HW.out.1.go b2, Below.chain HW.out.2 b2⟩
    clear HW b2 hset
    obtain ⟨G, hG⟩ : ∃ G, Shh (G = w2.heap.size) := ⟨_, ⟨rfl⟩⟩
    go_wp2_with (refine wpList_store_any rfl 54 (.tmp 3) (.tmp 9) rfl G (by rw [hG.out]; rfl) [.int .u32 yc, .bool ys, .int .i64 yn, .int .i64 yh, .int .i64 yl] rfl 54 _ (Row.new_ hG.out rfl) info_xms rfl oneCell5 ?_)
    intro Z hr bt _
    have F3 : Shh (True ∧ Below w.heap.size w Z) := by
      refine ⟨trivial, Below.chain F2.out.2 ?_⟩
      exact (Below.alloc (Below.refl _ _) (Nat.le_refl _) _).trans (bt.under (by first | omega | (simp only [asz]; omega)) (by have := hG.out; omega))
    clear hr bt F2 hG
    go_wp2
    go_ret
    exact ⟨rfl, F3.out.2⟩
theorem MayXmss_of (xc : Int) (xs : Bool) (xn xh xl : Int) (yc : Int) (ys : Bool) (yn yh yl : Int) (ee : Int) (hxc : (Lit.int .u32 xc).wf = true) (hxn : (Lit.int .i64 xn).wf = true) (hxh : (Lit.int .i64 xh).wf = true) (hxl : (Lit.int .i64 xl).wf = true) (hyc : (Lit.int .u32 yc).wf = true) (hyn : (Lit.int .i64 yn).wf = true) (hyh : (Lit.int .i64 yh).wf = true) (hyl : (Lit.int .i64 yl).wf = true) (hset : ∀ W, Calls Tryd.prog 23 #[.int .u32 xc] W (OldIs (.tuple #[.agg #[.int .u32 yc, .bool ys, .int .i64 yn, .int .i64 yh, .int .i64 yl], .int .i64 ee]) W)) (w : World) :
    Calls Tryd.prog 87 #[.agg #[.int .u32 xc, .bool xs, .int .i64 xn, .int .i64 xh, .int .i64 xl]] w (OldIs (.bool (decide (ee = 0 ∧ (xc = yc ∧ xs = ys ∧ xn = yn ∧ xh = yh ∧ xl = yl)))) w) := by
  unfold OldIs
  have HW : Shh (Row (w.alloc (.cells #[.int .u32 xc, .bool xs, .int .i64 xn, .int .i64 xh, .int .i64 xl] 54)) w.heap.size 54 [.int .u32 xc, .bool xs, .int .i64 xn, .int .i64 xh, .int .i64 xl] ∧ Below w.heap.size w (w.alloc (.cells #[.int .u32 xc, .bool xs, .int .i64 xn, .int .i64 xh, .int .i64 xl] 54))) := ⟨Row.new_ rfl rfl, Below.alloc (Below.refl _ _) (Nat.le_refl _) _⟩
  by_cases he : ee = 0
  · subst he
    have hres : decide ((0 : Int) = 0 ∧ (xc = yc ∧ xs = ys ∧ xn = yn ∧ xh = yh ∧ xl = yl)) = decide (xc = yc ∧ xs = ys ∧ xn = yn ∧ xh = yh ∧ xl = yl) := by
      refine decide_eq_decide.2 ⟨fun h => ?_, fun h => ?_⟩
      · obtain ⟨_, rfl, rfl, rfl, rfl, rfl⟩ := h
        exact ⟨rfl, rfl, rfl, rfl, rfl⟩
      · obtain ⟨rfl, rfl, rfl, rfl, rfl⟩ := h
        exact ⟨rfl, rfl, rfl, rfl, rfl, rfl⟩
    have heq := fun W : World => eq_xms xc xs xn xh xl yc ys yn yh yl hxc hxn hxh hxl hyc hyn hyh hyl W
    rw [hres]
    generalize decide (xc = yc ∧ xs = ys ∧ xn = yn ∧ xh = yh ∧ xl = yl) = r at heq ⊢
    clear hres
    go_enter Tryd.func87, Tryd.ntmps87
    go_wp2_with (go_at_call 23; refine (hset _).mono ?_)
    unfold OldIs
    rintro e w2 ⟨rfl, b2⟩
    have F2 : Shh (Row w2 w.heap.size 54 [.int .u32 xc, .bool xs, .int .i64 xn, .int .i64 xh, .int .i64 xl] ∧ Below w.heap.size w w2) := ⟨HW.out.1.go b2, Below.chain HW.out.2 b2⟩
    clear HW b2 hset
    obtain ⟨G, hG⟩ : ∃ G, Shh (G = w2.heap.size) := ⟨_, ⟨rfl⟩⟩
    go_wp2_with (refine wpList_store_any rfl 54 (.tmp 3) (.tmp 9) rfl G (by rw [hG.out]; rfl) [.int .u32 yc, .bool ys, .int .i64 yn, .int .i64 yh, .int .i64 yl] rfl 54 _ (Row.new_ hG.out rfl) info_xms rfl oneCell5 ?_)
    intro Z hr bt _
    have F3 : Shh (Row Z w.heap.size 54 [.int .u32 xc, .bool xs, .int .i64 xn, .int .i64 xh, .int .i64 xl] ∧ Row Z G 54 [.int .u32 yc, .bool ys, .int .i64 yn, .int .i64 yh, .int .i64 yl] ∧ Below w.heap.size w Z) := by
      have hl := F2.out.1.lt
      refine ⟨bt.row (F2.out.1.alloc _) (by first | omega | (simp only [asz]; omega)) (by have := hG.out; omega), hr, Below.chain F2.out.2 ?_⟩
      exact (Below.alloc (Below.refl _ _) (Nat.le_refl _) _).trans (bt.under (by first | omega | (simp only [asz]; omega)) (by have := hG.out; omega))
    rw [← hG.out]
    clear hr bt F2 hG
    go_wp2_with (first | refine wl_loadW 54 (.tmp 1) rfl w.heap.size rfl 54 [.int .u32 xc, .bool xs, .int .i64 xn, .int .i64 xh, .int .i64 xl] _ rfl F3.out.1 Tryd.underlying54 rfl info_xms ?_ | refine wl_loadW 54 (.tmp 3) rfl G rfl 54 [.int .u32 yc, .bool ys, .int .i64 yn, .int .i64 yh, .int .i64 yl] _ rfl F3.out.2.1 Tryd.underlying54 rfl info_xms ?_ | refine wl_eqlW 54 54 (.tmp 14) (.tmp 15) rfl #[.int .u32 xc, .bool xs, .int .i64 xn, .int .i64 xh, .int .i64 xl] #[.int .u32 yc, .bool ys, .int .i64 yn, .int .i64 yh, .int .i64 yl] rfl rfl rfl (by kernel_rfl) r (heq _) ?_)
    go_ret
    exact ⟨rfl, F3.out.2.2⟩
  · have hres : (decide (ee = 0 ∧ (xc = yc ∧ xs = ys ∧ xn = yn ∧ xh = yh ∧ xl = yl))) = false := decide_eq_false fun h => he h.1
    rw [hres]
    clear hres
    go_enter Tryd.func87, Tryd.ntmps87
    go_wp2_with (go_at_call 23; refine (hset _).mono ?_)
    unfold OldIs
    rintro e w2 ⟨rfl, b2⟩
    have F2 : Shh (Row w2 w.heap.size 54 [.int .u32 xc, .bool xs, .int .i64 xn, .int .i64 xh, .int .i64 xl] ∧ Below w.heap.size w w2) := ⟨HW.out.1.go b2, Below.chain HW.out.2 b2⟩
    clear HW b2 hset
    obtain ⟨G, hG⟩ : ∃ G, Shh (G = w2.heap.size) := ⟨_, ⟨rfl⟩⟩
    go_wp2_with (refine wpList_store_any rfl 54 (.tmp 3) (.tmp 9) rfl G (by rw [hG.out]; rfl) [.int .u32 yc, .bool ys, .int .i64 yn, .int .i64 yh, .int .i64 yl] rfl 54 _ (Row.new_ hG.out rfl) info_xms rfl oneCell5 ?_)
    intro Z hr bt _
    have F3 : Shh (True ∧ Below w.heap.size w Z) := by
      refine ⟨trivial, Below.chain F2.out.2 ?_⟩
      exact (Below.alloc (Below.refl _ _) (Nat.le_refl _) _).trans (bt.under (by first | omega | (simp only [asz]; omega)) (by have := hG.out; omega))
    clear hr bt F2 hG
    go_wp2
    go_ret
    exact ⟨rfl, F3.out.2⟩
end Go.Proofs.YtanpplniedphkaaDoor
