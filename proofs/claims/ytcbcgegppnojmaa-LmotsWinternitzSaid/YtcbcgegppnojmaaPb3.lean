/-
  WALKS: is a set what its code says: the program's and the document's.
-/
import Derived.Test.YtcbcgegppnojmaaPb2
import Derived.Test.YtcbcgegppnojmaaPa4
namespace Go.Proofs.Ytcbcgegppnojmaa
open Go.RowKit
set_option maxRecDepth 100000
theorem MayOts_of (xc : Int) (xs : Bool) (xn xwd xp xl : Int) (yc : Int) (ys : Bool) (yn ywd yp yl : Int) (ee : Int) (hxc : (Lit.int .u32 xc).wf = true) (hxn : (Lit.int .i64 xn).wf = true) (hxwd : (Lit.int .i64 xwd).wf = true) (hxp : (Lit.int .i64 xp).wf = true) (hxl : (Lit.int .i64 xl).wf = true) (hyc : (Lit.int .u32 yc).wf = true) (hyn : (Lit.int .i64 yn).wf = true) (hywd : (Lit.int .i64 ywd).wf = true) (hyp : (Lit.int .i64 yp).wf = true) (hyl : (Lit.int .i64 yl).wf = true) (hset : ∀ W, Calls Try.prog 11 #[.int .u32 xc] W (OldIs (.tuple #[.agg #[.int .u32 yc, .bool ys, .int .i64 yn, .int .i64 ywd, .int .i64 yp, .int .i64 yl], .int .i64 ee]) W)) (w : World) :
    Calls Try.prog 14 #[.agg #[.int .u32 xc, .bool xs, .int .i64 xn, .int .i64 xwd, .int .i64 xp, .int .i64 xl]] w (OldIs (.bool (decide (ee = 0 ∧ (xc = yc ∧ xs = ys ∧ xn = yn ∧ xwd = ywd ∧ xp = yp ∧ xl = yl)))) w) := by
  unfold OldIs
  have HW : Shh (Row (w.alloc (.cells #[.int .u32 xc, .bool xs, .int .i64 xn, .int .i64 xwd, .int .i64 xp, .int .i64 xl] 24)) w.heap.size 24 [.int .u32 xc, .bool xs, .int .i64 xn, .int .i64 xwd, .int .i64 xp, .int .i64 xl] ∧ Below w.heap.size w (w.alloc (.cells #[.int .u32 xc, .bool xs, .int .i64 xn, .int .i64 xwd, .int .i64 xp, .int .i64 xl] 24))) := ⟨Row.new_ rfl rfl, Below.alloc (Below.refl _ _) (Nat.le_refl _) _⟩
  by_cases he : ee = 0
  · subst he
    have hres : decide ((0 : Int) = 0 ∧ (xc = yc ∧ xs = ys ∧ xn = yn ∧ xwd = ywd ∧ xp = yp ∧ xl = yl)) = decide (yc = xc ∧ ys = xs ∧ yn = xn ∧ ywd = xwd ∧ yp = xp ∧ yl = xl) := by
      refine decide_eq_decide.2 ⟨fun h => ?_, fun h => ?_⟩
      · obtain ⟨_, rfl, rfl, rfl, rfl, rfl, rfl⟩ := h
        exact ⟨rfl, rfl, rfl, rfl, rfl, rfl⟩
      · obtain ⟨rfl, rfl, rfl, rfl, rfl, rfl⟩ := h
        exact ⟨rfl, rfl, rfl, rfl, rfl, rfl, rfl⟩
    have heq := fun W : World => eq_ots yc ys yn ywd yp yl xc xs xn xwd xp xl hyc hyn hywd hyp hyl hxc hxn hxwd hxp hxl W
    rw [hres]
    generalize decide (yc = xc ∧ ys = xs ∧ yn = xn ∧ ywd = xwd ∧ yp = xp ∧ yl = xl) = r at heq ⊢
    clear hres
    go_enter Try.func14, Try.ntmps14
    go_wp2_with (go_at_call 11; refine (hset _).mono ?_)
    unfold OldIs
    rintro e w2 ⟨rfl, b2⟩
    have F2 : Shh (Row w2 w.heap.size 24 [.int .u32 xc, .bool xs, .int .i64 xn, .int .i64 xwd, .int .i64 xp, .int .i64 xl] ∧ Below w.heap.size w w2) := ⟨HW.out.1.go b2, Below.chain HW.out.2 b2⟩
    clear HW b2 hset
    obtain ⟨G, hG⟩ : ∃ G, Shh (G = w2.heap.size) := ⟨_, ⟨rfl⟩⟩
    go_wp2_with (refine wpList_store_any rfl 24 (.tmp 3) (.tmp 9) rfl G (by rw [hG.out]; rfl) [.int .u32 yc, .bool ys, .int .i64 yn, .int .i64 ywd, .int .i64 yp, .int .i64 yl] rfl 24 _ (Row.new_ hG.out rfl) info_ots rfl oneCell6 ?_)
    intro Z hr bt _
    have F3 : Shh (Row Z w.heap.size 24 [.int .u32 xc, .bool xs, .int .i64 xn, .int .i64 xwd, .int .i64 xp, .int .i64 xl] ∧ Row Z G 24 [.int .u32 yc, .bool ys, .int .i64 yn, .int .i64 ywd, .int .i64 yp, .int .i64 yl] ∧ Below w.heap.size w Z) := by
      have hl := F2.out.1.lt
      refine ⟨bt.row (F2.out.1.alloc _) (by first | omega | (simp only [asz]; omega)) (by have := hG.out; omega), hr, Below.chain F2.out.2 ?_⟩
      exact (Below.alloc (Below.refl _ _) (Nat.le_refl _) _).trans (bt.under (by first | omega | (simp only [asz]; omega)) (by have := hG.out; omega))
    rw [← hG.out]
    clear hr bt F2 hG
    go_wp2_with (first | refine wl_loadW 24 (.tmp 3) rfl G rfl 24 [.int .u32 yc, .bool ys, .int .i64 yn, .int .i64 ywd, .int .i64 yp, .int .i64 yl] _ rfl F3.out.2.1 Try.underlying24 rfl info_ots ?_ | refine wl_loadW 24 (.tmp 1) rfl w.heap.size rfl 24 [.int .u32 xc, .bool xs, .int .i64 xn, .int .i64 xwd, .int .i64 xp, .int .i64 xl] _ rfl F3.out.1 Try.underlying24 rfl info_ots ?_ | refine wl_eqlW 24 24 (.tmp 14) (.tmp 15) rfl #[.int .u32 yc, .bool ys, .int .i64 yn, .int .i64 ywd, .int .i64 yp, .int .i64 yl] #[.int .u32 xc, .bool xs, .int .i64 xn, .int .i64 xwd, .int .i64 xp, .int .i64 xl] rfl rfl rfl (by kernel_rfl) r (heq _) ?_)
    go_ret
    exact ⟨rfl, F3.out.2.2⟩
  · have hres : (decide (ee = 0 ∧ (xc = yc ∧ xs = ys ∧ xn = yn ∧ xwd = ywd ∧ xp = yp ∧ xl = yl))) = false := decide_eq_false fun h => he h.1
    rw [hres]
    clear hres
    go_enter Try.func14, Try.ntmps14
    go_wp2_with (go_at_call 11; refine (hset _).mono ?_)
    unfold OldIs
    rintro e w2 ⟨rfl, b2⟩
    have F2 : Shh (Row w2 w.heap.size 24 [.int .u32 xc, .bool xs, .int .i64 xn, .int .i64 xwd, .int .i64 xp, .int .i64 xl] ∧ Below w.heap.size w w2) := ⟨HW.out.1.go b2, Below.chain HW.out.2 b2⟩
    clear HW b2 hset
    obtain ⟨G, hG⟩ : ∃ G, Shh (G = w2.heap.size) := ⟨_, ⟨rfl⟩⟩
    go_wp2_with (refine wpList_store_any rfl 24 (.tmp 3) (.tmp 9) rfl G (by rw [hG.out]; rfl) [.int .u32 yc, .bool ys, .int .i64 yn, .int .i64 ywd, .int .i64 yp, .int .i64 yl] rfl 24 _ (Row.new_ hG.out rfl) info_ots rfl oneCell6 ?_)
    intro Z hr bt _
    have F3 : Shh (True ∧ Below w.heap.size w Z) := by
      refine ⟨trivial, Below.chain F2.out.2 ?_⟩
      exact (Below.alloc (Below.refl _ _) (Nat.le_refl _) _).trans (bt.under (by first | omega | (simp only [asz]; omega)) (by have := hG.out; omega))
    clear hr bt F2 hG
    go_wp2
    go_ret
    exact ⟨rfl, F3.out.2⟩
end Go.Proofs.Ytcbcgegppnojmaa
