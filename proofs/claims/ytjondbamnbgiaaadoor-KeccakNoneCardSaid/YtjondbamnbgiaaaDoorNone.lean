/-
  WALK: the law KeccakNone.
-/
import Derived.Test.YtjondbamnbgiaaaDoorLive
namespace Go.Proofs.YtjondbamnbgiaaaDoor
open Go.RowKit
set_option maxRecDepth 100000

theorem none_any (n : Int) (w : World) (hv : Vars w) : Calls Tryd.prog 10 #[.int .i64 n] w (TrueIs w) := by
  unfold TrueIs
  go_enter Tryd.func10, Tryd.ntmps10
  go_wp2_with (go_at_call 28; refine (read_nil n _).mono ?_)
  rintro e wK ⟨rfl, rfl⟩
  go_wp2_with (go_at_call 12; refine (live_any _ hv).mono ?_)
  rintro e w1 ⟨rfl, b1⟩
  go_wp2_with (go_at_call 29; refine (count_nil _).mono ?_)
  rintro e w2 ⟨rfl, rfl⟩
  go_wp2_with (go_at_call 27; refine (clone_nil _).mono ?_)
  rintro e w3 ⟨rfl, rfl⟩
  go_wp2
  go_ret
  exact ⟨rfl, b1⟩
end Go.Proofs.YtjondbamnbgiaaaDoor
