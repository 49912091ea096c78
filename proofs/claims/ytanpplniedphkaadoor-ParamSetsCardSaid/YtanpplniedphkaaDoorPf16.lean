/-
  WALK: ParamSets: put together.
-/
import Derived.Test.YtanpplniedphkaaDoorPf15
import Derived.Test.YtanpplniedphkaaDoorPb9
namespace Go.Proofs.YtanpplniedphkaaDoor
open Go.RowKit Go.Shelf
set_option maxRecDepth 100000
theorem sets_any (c : Nat) (hc : c < 4294967296) (m : Nat) (hm : m < 256) (w : World) : Calls Tryd.prog 4 #[.int .u32 (c : Int), .int .u8 (m : Int)] w (TrueIs w) := by
  obtain ⟨a1, a2, a3, a4, a5⟩ := ots_wf c hc
  obtain ⟨b1, b2, b3⟩ := lms_wf c hc
  obtain ⟨d1, d2, d3, d4⟩ := xms_wf c hc
  refine sets_of c m hm _ _ _ _ _ _ _ _ _ _ _ _ _ _ _ _ _ _ w (fun W => ots_any c W) (fun W => lms_any c hc W) (fun W => xmss_any c hc W) (fun W => refOts_any c W) (fun W => refLms_any c hc W) (fun W => refXmss_any c hc W) (fun W => ?_) (fun W => ?_) (fun W => ?_)
  · have h := eq_ots (oC c) (oR c).1 (oR c).2.1 (oR c).2.2.1 (oR c).2.2.2.1 (oR c).2.2.2.2 (oC c) (oR c).1 (oR c).2.1 (oR c).2.2.1 (oR c).2.2.2.1 (oR c).2.2.2.2 a1 a2 a3 a4 a5 a1 a2 a3 a4 a5 W
    rw [decide_eq_true (by simp)] at h
    exact h
  · have h := eq_lms (lC c) (lSh c) (lN c) (lH c : Int) (lC c) (lSh c) (lN c) (lH c : Int) b1 b2 b3 b1 b2 b3 W
    rw [decide_eq_true (by simp)] at h
    exact h
  · have h := eq_xms (xC c) (xSh c) (xN c) (xH c : Int) (xL c) (xC c) (xSh c) (xN c) (xH c : Int) (xL c) d1 d2 d3 d4 d1 d2 d3 d4 W
    rw [decide_eq_true (by simp)] at h
    exact h
end Go.Proofs.YtanpplniedphkaaDoor
