/-
  WALKS: is a set what its code says: the program's and the document's.
-/
import Derived.Test.YthahnckjmlcehaaPb2
import Derived.Test.YthahnckjmlcehaaPa6
namespace Go.Proofs.Ythahnckjmlcehaa
open Go.RowKit
set_option maxRecDepth 100000
theorem isLms_of (xc : Int) (xs : Bool) (xn xh : Int) (yc : Int) (ys : Bool) (yn yh : Int) (ee : Int) (hxc : (Lit.int .u32 xc).wf = true) (hxn : (Lit.int .i64 xn).wf = true) (hxh : (Lit.int .i64 xh).wf = true) (hyc : (Lit.int .u32 yc).wf = true) (hyn : (Lit.int .i64 yn).wf = true) (hyh : (Lit.int .i64 yh).wf = true) (hset : ∀ W, Calls Try.prog 42 #[.int .u32 xc] W (OldIs (.tuple #[.agg #[.int .u32 yc, .bool ys, .int .i64 yn, .int .i64 yh], .int .i64 ee]) W)) (w : World) :
    Calls Try.prog 29 #[.agg #[.int .u32 xc, .bool xs, .int .i64 xn, .int .i64 xh]] w (OldIs (.bool (decide (ee = 0 ∧ (xc = yc ∧ xs = ys ∧ xn = yn ∧ xh = yh)))) w) := by
  unfold OldIs
  have HW : Shh (Row (w.alloc (.cells #[.int .u32 xc, .bool xs, .int .i64 xn, .int .i64 xh] 37)) w.heap.size 37 [.int .u32 xc, .bool xs, .int .i64 xn, .int .i64 xh] ∧ Below w.heap.size w (w.alloc (.cells #[.int .u32 xc, .bool xs, .int .i64 xn, .int .i64 xh] 37))) := ⟨Row.new_ rfl rfl, Below.alloc (Below.refl _ _) (Nat.le_refl _) _⟩
  by_cases he : ee = 0
  · subst he
    have hres : decide ((0 : Int) = 0 ∧ (xc = yc ∧ xs = ys ∧ xn = yn ∧ xh = yh)) = decide (xc = yc ∧ xs = ys ∧ xn = yn ∧ xh = yh) := by
      refine decide_eq_decide.2 ⟨fun h => ?_, fun h => ?_⟩
      · obtain ⟨_, rfl, rfl, rfl, rfl⟩ := h
        exact ⟨rfl, rfl, rfl, rfl⟩
      · obtain ⟨rfl, rfl, rfl, rfl⟩ := h
        exact ⟨rfl, rfl, rfl, rfl, rfl⟩
    have heq := fun W : World => eq_lms xc xs xn xh yc ys yn yh hxc hxn hxh hyc hyn hyh W
    rw [hres]
    generalize decide (xc = yc ∧ xs = ys ∧ xn = yn ∧ xh = yh) = r at heq ⊢
    clear hres
    go_enter Try.func29, Try.ntmps29
    go_wp2_with (go_at_call 42; refine (hset _).mono ?_)
    unfold OldIs
    rintro e w2 ⟨rfl, b2⟩
    have F2 : Shh (Row w2 w.heap.size 37 [.int .u32 xc, .bool xs, .int .i64 xn, .int .i64 xh] ∧ Below w.heap.size w w2) := ⟨HW.out.1.go b2, Below.chain HW.out.2 b2⟩
    clear HW b2 hset
    obtain ⟨G, hG⟩ : ∃ G, Shh (G = w2.heap.size) := ⟨_, ⟨rfl⟩⟩
    go_wp2_with (refine wpList_store_any rfl 37 (.tmp 3) (.tmp 9) rfl G (by rw [hG.out]; rfl) [.int .u32 yc, .bool ys, .int .i64 yn, .int .i64 yh] rfl 37 _ (Row.new_ hG.out rfl) info_lms rfl oneCell4 ?_)
    intro Z hr bt _
    have F3 : Shh (Row Z w.heap.size 37 [.int .u32 xc, .bool xs, .int .i64 xn, .int .i64 xh] ∧ Row Z G 37 [.int .u32 yc, .bool ys, .int .i64 yn, .int .i64 yh] ∧ Below w.heap.size w Z) := by
      have hl := F2.out.1.lt
      refine ⟨bt.row (F2.out.1.alloc _) (by first | omega | (simp only [asz]; omega)) (by have := hG.out; omega), hr, Below.chain F2.out.2 ?_⟩
      exact (Below.alloc (Below.refl _ _) (Nat.le_refl _) _).trans (bt.under (by first | omega | (simp only [asz]; omega)) (by have := hG.out; omega))
    rw [← hG.out]
    clear hr bt F2 hG
    go_wp2_with (first | refine wl_loadW 37 (.tmp 1) rfl w.heap.size rfl 37 [.int .u32 xc, .bool xs, .int .i64 xn, .int .i64 xh] _ rfl F3.out.1 Try.underlying37 rfl info_lms ?_ | refine wl_loadW 37 (.tmp 3) rfl G rfl 37 [.int .u32 yc, .bool ys, .int .i64 yn, .int .i64 yh] _ rfl F3.out.2.1 Try.underlying37 rfl info_lms ?_ | refine wl_eqlW 37 37 (.tmp 14) (.tmp 15) rfl #[.int .u32 xc, .bool xs, .int .i64 xn, .int .i64 xh] #[.int .u32 yc, .bool ys, .int .i64 yn, .int .i64 yh] rfl rfl rfl (by kernel_rfl) r (heq _) ?_)
    go_ret
    exact ⟨rfl, F3.out.2.2⟩
  · have hres : (decide (ee = 0 ∧ (xc = yc ∧ xs = ys ∧ xn = yn ∧ xh = yh))) = false := decide_eq_false fun h => he h.1
    rw [hres]
    clear hres
    go_enter Try.func29, Try.ntmps29
    go_wp2_with (go_at_call 42; refine (hset _).mono ?_)
    unfold OldIs
    rintro e w2 ⟨rfl, b2⟩
    have F2 : Shh (Row w2 w.heap.size 37 [.int .u32 xc, .bool xs, .int .i64 xn, .int .i64 xh] ∧ Below w.heap.size w w2) := ⟨HW.out.1.go b2, Below.chain HW.out.2 b2⟩
    clear HW b2 hset
    obtain ⟨G, hG⟩ : ∃ G, Shh (G = w2.heap.size) := ⟨_, ⟨rfl⟩⟩
    go_wp2_with (refine wpList_store_any rfl 37 (.tmp 3) (.tmp 9) rfl G (by rw [hG.out]; rfl) [.int .u32 yc, .bool ys, .int .i64 yn, .int .i64 yh] rfl 37 _ (Row.new_ hG.out rfl) info_lms rfl oneCell4 ?_)
    intro Z hr bt _
    have F3 : Shh (True ∧ Below w.heap.size w Z) := by
      refine ⟨trivial, Below.chain F2.out.2 ?_⟩
      exact (Below.alloc (Below.refl _ _) (Nat.le_refl _) _).trans (bt.under (by first | omega | (simp only [asz]; omega)) (by have := hG.out; omega))
    clear hr bt F2 hG
    go_wp2
    go_ret
    exact ⟨rfl, F3.out.2⟩
theorem MayLms_of (xc : Int) (xs : Bool) (xn xh : Int) (yc : Int) (ys : Bool) (yn yh : Int) (ee : Int) (hxc : (Lit.int .u32 xc).wf = true) (hxn : (Lit.int .i64 xn).wf = true) (hxh : (Lit.int .i64 xh).wf = true) (hyc : (Lit.int .u32 yc).wf = true) (hyn : (Lit.int .i64 yn).wf = true) (hyh : (Lit.int .i64 yh).wf = true) (hset : ∀ W, Calls Try.prog 23 #[.int .u32 xc] W (OldIs (.tuple #[.agg #[.int .u32 yc, .bool ys, .int .i64 yn, .int .i64 yh], .int .i64 ee]) W)) (w : World) :
    Calls Try.prog 34 #[.agg #[.int .u32 xc, .bool xs, .int .i64 xn, .int .i64 xh]] w (OldIs (.bool (decide (ee = 0 ∧ (xc = yc ∧ xs = ys ∧ xn = yn ∧ xh = yh)))) w) := by
  unfold OldIs
  have HW : Shh (Row (w.alloc (.cells #[.int .u32 xc, .bool xs, .int .i64 xn, .int .i64 xh] 37)) w.heap.size 37 [.int .u32 xc, .bool xs, .int .i64 xn, .int .i64 xh] ∧ Below w.heap.size w (w.alloc (.cells #[.int .u32 xc, .bool xs, .int .i64 xn, .int .i64 xh] 37))) := ⟨Row.new_ rfl rfl, Below.alloc (Below.refl _ _) (Nat.le_refl _) _⟩
  by_cases he : ee = 0
  · subst he
    have hres : decide ((0 : Int) = 0 ∧ (xc = yc ∧ xs = ys ∧ xn = yn ∧ xh = yh)) = decide (yc = xc ∧ ys = xs ∧ yn = xn ∧ yh = xh) := by
      refine decide_eq_decide.2 ⟨fun h => ?_, fun h => ?_⟩
      · obtain ⟨_, rfl, rfl, rfl, rfl⟩ := h
        exact ⟨rfl, rfl, rfl, rfl⟩
      · obtain ⟨rfl, rfl, rfl, rfl⟩ := h
        exact ⟨rfl, rfl, rfl, rfl, rfl⟩
    have heq := fun W : World => eq_lms yc ys yn yh xc xs xn xh hyc hyn hyh hxc hxn hxh W
    rw [hres]
    generalize decide (yc = xc ∧ ys = xs ∧ yn = xn ∧ yh = xh) = r at heq ⊢
    clear hres
    go_enter Try.func34, Try.ntmps34
    go_wp2_with (go_at_call 23; refine (hset _).mono ?_)
    unfold OldIs
    rintro e w2 ⟨rfl, b2⟩
    have F2 : Shh (Row w2 w.heap.size 37 [.int .u32 xc, .bool xs, .int .i64 xn, .int .i64 xh] ∧ Below w.heap.size w w2) := ⟨HW.out.1.go b2, Below.chain HW.out.2 b2⟩
    clear HW b2 hset
    obtain ⟨G, hG⟩ : ∃ G, Shh (G = w2.heap.size) := ⟨_, ⟨rfl⟩⟩
    go_wp2_with (refine wpList_store_any rfl 37 (.tmp 3) (.tmp 9) rfl G (by rw [hG.out]; rfl) [.int .u32 yc, .bool ys, .int .i64 yn, .int .i64 yh] rfl 37 _ (Row.new_ hG.out rfl) info_lms rfl oneCell4 ?_)
    intro Z hr bt _
    have F3 : Shh (Row Z w.heap.size 37 [.int .u32 xc, .bool xs, .int .i64 xn, .int .i64 xh] ∧ Row Z G 37 [.int .u32 yc, .bool ys, .int .i64 yn, .int .i64 yh] ∧ Below w.heap.size w Z) := by
      have hl := F2.out.1.lt
      refine ⟨bt.row (F2.out.1.alloc _) (by first | omega | (simp only [asz]; omega)) (by have := hG.out; omega), hr, Below.chain F2.out.2 ?_⟩
      exact (Below.alloc (Below.refl _ _) (Nat.le_refl _) _).trans (bt.under (by first | omega | (simp only [asz]; omega)) (by have := hG.out; omega))
    rw [← hG.out]
    clear hr bt F2 hG
    go_wp2_with (first | refine wl_loadW 37 (.tmp 3) rfl G rfl 37 [.int .u32 yc, .bool ys, .int .i64 yn, .int .i64 yh] _ rfl F3.out.2.1 Try.underlying37 rfl info_lms ?_ | refine wl_loadW 37 (.tmp 1) rfl w.heap.size rfl 37 [.int .u32 xc, .bool xs, .int .i64 xn, .int .i64 xh] _ rfl F3.out.1 Try.underlying37 rfl info_lms ?_ | refine wl_eqlW 37 37 (.tmp 14) (.tmp 15) rfl #[.int .u32 yc, .bool ys, .int .i64 yn, .int .i64 yh] #[.int .u32 xc, .bool xs, .int .i64 xn, .int .i64 xh] rfl rfl rfl (by kernel_rfl) r (heq _) ?_)
    go_ret
    exact ⟨rfl, F3.out.2.2⟩
  · have hres : (decide (ee = 0 ∧ (xc = yc ∧ xs = ys ∧ xn = yn ∧ xh = yh))) = false := decide_eq_false fun h => he h.1
    rw [hres]
    clear hres
    go_enter Try.func34, Try.ntmps34
    go_wp2_with (go_at_call 23; refine (hset _).mono ?_)
    unfold OldIs
    rintro e w2 ⟨rfl, b2⟩
    have F2 : Shh (Row w2 w.heap.size 37 [.int .u32 xc, .bool xs, .int .i64 xn, .int .i64 xh] ∧ Below w.heap.size w w2) := ⟨HW.out.1.go b2, Below.chain HW.out.2 b2⟩
    clear HW b2 hset
    obtain ⟨G, hG⟩ : ∃ G, Shh (G = w2.heap.size) := ⟨_, ⟨rfl⟩⟩
    go_wp2_with (refine wpList_store_any rfl 37 (.tmp 3) (.tmp 9) rfl G (by rw [hG.out]; rfl) [.int .u32 yc, .bool ys, .int .i64 yn, .int .i64 yh] rfl 37 _ (Row.new_ hG.out rfl) info_lms rfl oneCell4 ?_)
    intro Z hr bt _
    have F3 : Shh (True ∧ Below w.heap.size w Z) := by
      refine ⟨trivial, Below.chain F2.out.2 ?_⟩
      exact (Below.alloc (Below.refl _ _) (Nat.le_refl _) _).trans (bt.under (by first | omega | (simp only [asz]; omega)) (by have := hG.out; omega))
    clear hr bt F2 hG
    go_wp2
    go_ret
    exact ⟨rfl, F3.out.2⟩
theorem isOts_of (xc : Int) (xs : Bool) (xn xwd xp xl : Int) (yc : Int) (ys : Bool) (yn ywd yp yl : Int) (ee : Int) (hxc : (Lit.int .u32 xc).wf = true) (hxn : (Lit.int .i64 xn).wf = true) (hxwd : (Lit.int .i64 xwd).wf = true) (hxp : (Lit.int .i64 xp).wf = true) (hxl : (Lit.int .i64 xl).wf = true) (hyc : (Lit.int .u32 yc).wf = true) (hyn : (Lit.int .i64 yn).wf = true) (hywd : (Lit.int .i64 ywd).wf = true) (hyp : (Lit.int .i64 yp).wf = true) (hyl : (Lit.int .i64 yl).wf = true) (hset : ∀ W, Calls Try.prog 43 #[.int .u32 xc] W (OldIs (.tuple #[.agg #[.int .u32 yc, .bool ys, .int .i64 yn, .int .i64 ywd, .int .i64 yp, .int .i64 yl], .int .i64 ee]) W)) (w : World) :
    Calls Try.prog 45 #[.agg #[.int .u32 xc, .bool xs, .int .i64 xn, .int .i64 xwd, .int .i64 xp, .int .i64 xl]] w (OldIs (.bool (decide (ee = 0 ∧ (xc = yc ∧ xs = ys ∧ xn = yn ∧ xwd = ywd ∧ xp = yp ∧ xl = yl)))) w) := by
  unfold OldIs
  have HW : Shh (Row (w.alloc (.cells #[.int .u32 xc, .bool xs, .int .i64 xn, .int .i64 xwd, .int .i64 xp, .int .i64 xl] 39)) w.heap.size 39 [.int .u32 xc, .bool xs, .int .i64 xn, .int .i64 xwd, .int .i64 xp, .int .i64 xl] ∧ Below w.heap.size w (w.alloc (.cells #[.int .u32 xc, .bool xs, .int .i64 xn, .int .i64 xwd, .int .i64 xp, .int .i64 xl] 39))) := ⟨Row.new_ rfl rfl, Below.alloc (Below.refl _ _) (Nat.le_refl _) _⟩
  by_cases he : ee = 0
  · subst he
    have hres : decide ((0 : Int) = 0 ∧ (xc = yc ∧ xs = ys ∧ xn = yn ∧ xwd = ywd ∧ xp = yp ∧ xl = yl)) = decide (xc = yc ∧ xs = ys ∧ xn = yn ∧ xwd = ywd ∧ xp = yp ∧ xl = yl) := by
      refine decide_eq_decide.2 ⟨fun h => ?_, fun h => ?_⟩
      · obtain ⟨_, rfl, rfl, rfl, rfl, rfl, rfl⟩ := h
        exact ⟨rfl, rfl, rfl, rfl, rfl, rfl⟩
      · obtain ⟨rfl, rfl, rfl, rfl, rfl, rfl⟩ := h
        exact ⟨rfl, rfl, rfl, rfl, rfl, rfl, rfl⟩
    have heq := fun W : World => eq_ots xc xs xn xwd xp xl yc ys yn ywd yp yl hxc hxn hxwd hxp hxl hyc hyn hywd hyp hyl W
    rw [hres]
    generalize decide (xc = yc ∧ xs = ys ∧ xn = yn ∧ xwd = ywd ∧ xp = yp ∧ xl = yl) = r at heq ⊢
    clear hres
    go_enter Try.func45, Try.ntmps45
    go_wp2_with (go_at_call 43; refine (hset _).mono ?_)
    unfold OldIs
    rintro e w2 ⟨rfl, b2⟩
    have F2 : Shh (Row w2 w.heap.size 39 [.int .u32 xc, .bool xs, .int .i64 xn, .int .i64 xwd, .int .i64 xp, .int .i64 xl] ∧ Below w.heap.size w w2) := ⟨HW.out.1.go b2, Below.chain HW.out.2 b2⟩
    clear HW b2 hset
    obtain ⟨G, hG⟩ : ∃ G, Shh (G = w2.heap.size) := ⟨_, ⟨rfl⟩⟩
    go_wp2_with (refine wpList_store_any rfl 39 (.tmp 3) (.tmp 9) rfl G (by rw [hG.out]; rfl) [.int .u32 yc, .bool ys, .int .i64 yn, .int .i64 ywd, .int .i64 yp, .int .i64 yl] rfl 39 _ (Row.new_ hG.out rfl) info_ots rfl oneCell6 ?_)
    intro Z hr bt _
    have F3 : Shh (Row Z w.heap.size 39 [.int .u32 xc, .bool xs, .int .i64 xn, .int .i64 xwd, .int .i64 xp, .int .i64 xl] ∧ Row Z G 39 [.int .u32 yc, .bool ys, .int .i64 yn, .int .i64 ywd, .int .i64 yp, .int .i64 yl] ∧ Below w.heap.size w Z) := by
      have hl := F2.out.1.lt
      refine ⟨bt.row (F2.out.1.alloc _) (by first | omega | (simp only [asz]; omega)) (by have := hG.out; omega), hr, Below.chain F2.out.2 ?_⟩
      exact (Below.alloc (Below.refl _ _) (Nat.le_refl _) _).trans (bt.under (by first | omega | (simp only [asz]; omega)) (by have := hG.out; omega))
    rw [← hG.out]
    clear hr bt F2 hG
    go_wp2_with (first | refine wl_loadW 39 (.tmp 1) rfl w.heap.size rfl 39 [.int .u32 xc, .bool xs, .int .i64 xn, .int .i64 xwd, .int .i64 xp, .int .i64 xl] _ rfl F3.out.1 Try.underlying39 rfl info_ots ?_ | refine wl_loadW 39 (.tmp 3) rfl G rfl 39 [.int .u32 yc, .bool ys, .int .i64 yn, .int .i64 ywd, .int .i64 yp, .int .i64 yl] _ rfl F3.out.2.1 Try.underlying39 rfl info_ots ?_ | refine wl_eqlW 39 39 (.tmp 14) (.tmp 15) rfl #[.int .u32 xc, .bool xs, .int .i64 xn, .int .i64 xwd, .int .i64 xp, .int .i64 xl] #[.int .u32 yc, .bool ys, .int .i64 yn, .int .i64 ywd, .int .i64 yp, .int .i64 yl] rfl rfl rfl (by kernel_rfl) r (heq _) ?_)
    go_ret
    exact ⟨rfl, F3.out.2.2⟩
  · have hres : (decide (ee = 0 ∧ (xc = yc ∧ xs = ys ∧ xn = yn ∧ xwd = ywd ∧ xp = yp ∧ xl = yl))) = false := decide_eq_false fun h => he h.1
    rw [hres]
    clear hres
    go_enter Try.func45, Try.ntmps45
    go_wp2_with (go_at_call 43; refine (hset _).mono ?_)
    unfold OldIs
    rintro e w2 ⟨rfl, b2⟩
    have F2 : Shh (Row w2 w.heap.size 39 [.int .u32 xc, .bool xs, .int .i64 xn, .int .i64 xwd, .int .i64 xp, .int .i64 xl] ∧ Below w.heap.size w w2) := ⟨HW.out.1.go b2, Below.chain HW.out.2 b2⟩
    clear HW b2 hset
    obtain ⟨G, hG⟩ : ∃ G, Shh (G = w2.heap.size) := ⟨_, ⟨rfl⟩⟩
    go_wp2_with (refine wpList_store_any rfl 39 (.tmp 3) (.tmp 9) rfl G (by rw [hG.out]; rfl) [.int .u32 yc, .bool ys, .int .i64 yn, .int .i64 ywd, .int .i64 yp, .int .i64 yl] rfl 39 _ (Row.new_ hG.out rfl) info_ots rfl oneCell6 ?_)
    intro Z hr bt _
    have F3 : Shh (True ∧ Below w.heap.size w Z) := by
      refine ⟨trivial, Below.chain F2.out.2 ?_⟩
      exact (Below.alloc (Below.refl _ _) (Nat.le_refl _) _).trans (bt.under (by first | omega | (simp only [asz]; omega)) (by have := hG.out; omega))
    clear hr bt F2 hG
    go_wp2
    go_ret
    exact ⟨rfl, F3.out.2⟩
theorem MayOts_of (xc : Int) (xs : Bool) (xn xwd xp xl : Int) (yc : Int) (ys : Bool) (yn ywd yp yl : Int) (ee : Int) (hxc : (Lit.int .u32 xc).wf = true) (hxn : (Lit.int .i64 xn).wf = true) (hxwd : (Lit.int .i64 xwd).wf = true) (hxp : (Lit.int .i64 xp).wf = true) (hxl : (Lit.int .i64 xl).wf = true) (hyc : (Lit.int .u32 yc).wf = true) (hyn : (Lit.int .i64 yn).wf = true) (hywd : (Lit.int .i64 ywd).wf = true) (hyp : (Lit.int .i64 yp).wf = true) (hyl : (Lit.int .i64 yl).wf = true) (hset : ∀ W, Calls Try.prog 24 #[.int .u32 xc] W (OldIs (.tuple #[.agg #[.int .u32 yc, .bool ys, .int .i64 yn, .int .i64 ywd, .int .i64 yp, .int .i64 yl], .int .i64 ee]) W)) (w : World) :
    Calls Try.prog 44 #[.agg #[.int .u32 xc, .bool xs, .int .i64 xn, .int .i64 xwd, .int .i64 xp, .int .i64 xl]] w (OldIs (.bool (decide (ee = 0 ∧ (xc = yc ∧ xs = ys ∧ xn = yn ∧ xwd = ywd ∧ xp = yp ∧ xl = yl)))) w) := by
  unfold OldIs
  have HW : Shh (Row (w.alloc (.cells #[.int .u32 xc, .bool xs, .int .i64 xn, .int .i64 xwd, .int .i64 xp, .int .i64 xl] 39)) w.heap.size 39 [.int .u32 xc, .bool xs, .int .i64 xn, .int .i64 xwd, .int .i64 xp, .int .i64 xl] ∧ Below w.heap.size w (w.alloc (.cells #[.int .u32 xc, .bool xs, .int .i64 xn, .int .i64 xwd, .int .i64 xp, .int .i64 xl] 39))) := ⟨Row.new_ rfl rfl, Below.alloc (Below.refl _ _) (Nat.le_refl _) _⟩
  by_cases he : ee = 0
  · subst he
    have hres : decide ((0 : Int) = 0 ∧ (xc = yc ∧ xs = ys ∧ xn = yn ∧ xwd = ywd ∧ xp = yp ∧ xl = yl)) = decide (yc = xc ∧ ys = xs ∧ yn = xn ∧ ywd = xwd ∧ yp = xp ∧ yl = xl) := by
      refine decide_eq_decide.2 ⟨fun h => ?_, fun h => ?_⟩
      · obtain ⟨_, rfl, rfl, rfl, rfl, rfl, rfl⟩ := h
        exact ⟨rfl, rfl, rfl, rfl, rfl, rfl⟩
      · obtain ⟨rfl, rfl, rfl, rfl, rfl, rfl⟩ := h
        exact ⟨rfl, rfl, rfl, rfl, rfl, rfl, rfl⟩
    have heq := fun W : World => eq_ots yc ys yn ywd yp yl xc xs xn xwd xp xl hyc hyn hywd hyp hyl hxc hxn hxwd hxp hxl W
    rw [hres]
    generalize decide (yc = xc ∧ ys = xs ∧ yn = xn ∧ ywd = xwd ∧ yp = xp ∧ yl = xl) = r at heq ⊢
    clear hres
    go_enter Try.func44, Try.ntmps44
    go_wp2_with (go_at_call 24; refine (hset _).mono ?_)
    unfold OldIs
    rintro e w2 ⟨rfl, b2⟩
    have F2 : Shh (Row w2 w.heap.size 39 [.int .u32 xc, .bool xs, .int .i64 xn, .int .i64 xwd, .int .i64 xp, .int .i64 xl] ∧ Below w.heap.size w w2) := ⟨HW.out.1.go b2, Below.chain HW.out.2 b2⟩
    clear HW b2 hset
    obtain ⟨G, hG⟩ : ∃ G, Shh (G = w2.heap.size) := ⟨_, ⟨rfl⟩⟩
    go_wp2_with (refine wpList_store_any rfl 39 (.tmp 3) (.tmp 9) rfl G (by rw [hG.out]; rfl) [.int .u32 yc, .bool ys, .int .i64 yn, .int .i64 ywd, .int .i64 yp, .int .i64 yl] rfl 39 _ (Row.new_ hG.out rfl) info_ots rfl oneCell6 ?_)
    intro Z hr bt _
    have F3 : Shh (Row Z w.heap.size 39 [.int .u32 xc, .bool xs, .int .i64 xn, .int .i64 xwd, .int .i64 xp, .int .i64 xl] ∧ Row Z G 39 [.int .u32 yc, .bool ys, .int .i64 yn, .int .i64 ywd, .int .i64 yp, .int .i64 yl] ∧ Below w.heap.size w Z) := by
      have hl := F2.out.1.lt
      refine ⟨bt.row (F2.out.1.alloc _) (by first | omega | (simp only [asz]; omega)) (by have := hG.out; omega), hr, Below.chain F2.out.2 ?_⟩
      exact (Below.alloc (Below.refl _ _) (Nat.le_refl _) _).trans (bt.under (by first | omega | (simp only [asz]; omega)) (by have := hG.out; omega))
    rw [← hG.out]
    clear hr bt F2 hG
    go_wp2_with (first | refine wl_loadW 39 (.tmp 3) rfl G rfl 39 [.int .u32 yc, .bool ys, .int .i64 yn, .int .i64 ywd, .int .i64 yp, .int .i64 yl] _ rfl F3.out.2.1 Try.underlying39 rfl info_ots ?_ | refine wl_loadW 39 (.tmp 1) rfl w.heap.size rfl 39 [.int .u32 xc, .bool xs, .int .i64 xn, .int .i64 xwd, .int .i64 xp, .int .i64 xl] _ rfl F3.out.1 Try.underlying39 rfl info_ots ?_ | refine wl_eqlW 39 39 (.tmp 14) (.tmp 15) rfl #[.int .u32 yc, .bool ys, .int .i64 yn, .int .i64 ywd, .int .i64 yp, .int .i64 yl] #[.int .u32 xc, .bool xs, .int .i64 xn, .int .i64 xwd, .int .i64 xp, .int .i64 xl] rfl rfl rfl (by kernel_rfl) r (heq _) ?_)
    go_ret
    exact ⟨rfl, F3.out.2.2⟩
  · have hres : (decide (ee = 0 ∧ (xc = yc ∧ xs = ys ∧ xn = yn ∧ xwd = ywd ∧ xp = yp ∧ xl = yl))) = false := decide_eq_false fun h => he h.1
    rw [hres]
    clear hres
    go_enter Try.func44, Try.ntmps44
    go_wp2_with (go_at_call 24; refine (hset _).mono ?_)
    unfold OldIs
    rintro e w2 ⟨rfl, b2⟩
    have F2 : Shh (Row w2 w.heap.size 39 [.int .u32 xc, .bool xs, .int .i64 xn, .int .i64 xwd, .int .i64 xp, .int .i64 xl] ∧ Below w.heap.size w w2) := ⟨HW.out.1.go b2, Below.chain HW.out.2 b2⟩
    clear HW b2 hset
    obtain ⟨G, hG⟩ : ∃ G, Shh (G = w2.heap.size) := ⟨_, ⟨rfl⟩⟩
    go_wp2_with (refine wpList_store_any rfl 39 (.tmp 3) (.tmp 9) rfl G (by rw [hG.out]; rfl) [.int .u32 yc, .bool ys, .int .i64 yn, .int .i64 ywd, .int .i64 yp, .int .i64 yl] rfl 39 _ (Row.new_ hG.out rfl) info_ots rfl oneCell6 ?_)
    intro Z hr bt _
    have F3 : Shh (True ∧ Below w.heap.size w Z) := by
      refine ⟨trivial, Below.chain F2.out.2 ?_⟩
      exact (Below.alloc (Below.refl _ _) (Nat.le_refl _) _).trans (bt.under (by first | omega | (simp only [asz]; omega)) (by have := hG.out; omega))
    clear hr bt F2 hG
    go_wp2
    go_ret
    exact ⟨rfl, F3.out.2⟩
end Go.Proofs.Ythahnckjmlcehaa
