/-
  THE WALK of liverylaw01.OctetDecimals.
-/
import Derived.Test.YtijkhpiehaocpaaDoorRefNum
import Derived.Test.YtijkhpiehaocpaaDoorNumbersWalk
namespace Go.Proofs.YtijkhpiehaocpaaDoor
open Go.RowKit
set_option maxRecDepth 100000

set_option maxHeartbeats 2000000 in
set_option maxRecDepth 100000 in
theorem decimals_walk (n : Nat) (hn : n < 18446744073709551616) (s : ByteArray) (w : World) (hl : s.size ≤ 140737488355328) (hv : Vars w) :
    Calls Tryd.prog 3 #[.int .u64 n, .string s] w (TrueIs w) := by
  obtain ⟨x, er, hx⟩ := numOf_ex s.data.toList
  go_enter Tryd.func3, Tryd.ntmps3
  go_wp2_with (go_at_call 5; refine (number_any s (by omega) x er hx _ hv).mono ?_)
  rintro e w1 ⟨rfl, b1⟩
  go_wp2_with (go_at_call 6; refine (digits_any s (by omega) x er hx _).mono ?_)
  rintro e w2 ⟨rfl, b2⟩
  have b12 := Below.chain b1 b2
  clear b1 b2 hx
  go_wp2_with (go_at_call 7; refine (live_any _).mono ?_)
  rintro e w3 ⟨rfl, b3⟩
  have b13 := Below.chain b12 b3
  have hv3 := hv.step b13
  clear b3 b12
  go_wp2_with (go_at_call 8; refine (decimal_any n hn _ hv3.1).mono ?_)
  rintro e w4 ⟨rfl, b4⟩
  have b14 := Below.chain b13 b4
  clear b4 b13
  go_wp2_with (go_at_call 9; refine (refDecimal_any n hn _).mono ?_)
  rintro e w5 ⟨rfl, b5⟩
  have b15 := Below.chain b14 b5
  clear b5 b14
  generalize Lib.decDigits n = dn
  go_wp2
  go_ret
  exact ⟨rfl, b15⟩
end Go.Proofs.YtijkhpiehaocpaaDoor
