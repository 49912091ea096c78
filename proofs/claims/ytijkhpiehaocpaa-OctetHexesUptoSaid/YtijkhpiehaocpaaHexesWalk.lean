/-
  THE WALK of liverylaw01.OctetHexes.
-/
import Derived.Test.YtijkhpiehaocpaaRefUnhex
import Derived.Test.YtijkhpiehaocpaaLive
import Derived.Test.YtijkhpiehaocpaaNumbersWalk
namespace Go.Proofs.Ytijkhpiehaocpaa
open Go.RowKit

theorem unhex_is (s : ByteArray) (w : World) (hl : s.size ≤ 1099511627776) : Calls Try.prog 32 #[.string s] w (UnIs w (hexN s.data.toList) (unE s.data.toList) (unB s.data.toList)) := unhex_any s w hl
theorem refUnhex_is (s : ByteArray) (w : World) (hl : s.size ≤ 1099511627776) : Calls Try.prog 33 #[.string s] w (UnIs w (hexN s.data.toList) (unE s.data.toList) (unB s.data.toList)) := refUnhex_any s w hl

set_option maxHeartbeats 2000000 in
theorem hexes_walk (vb : Value) (bs : List UInt8) (s : ByteArray) (w : World) (hs : Sl w w.heap.size vb bs) (hl : bs.length ≤ 1048576) (hl2 : s.size ≤ 1048576) :
    Calls Try.prog 6 #[vb, .string s] w (TrueIs w) := by
  have hsl : s.size ≤ 1099511627776 := by omega
  go_enter Try.func6, Try.ntmps6
  go_wp2_with (go_at_call 32; refine (unhex_is s _ hsl).mono ?_)
  rintro e w1 ⟨v1, rfl, g1⟩
  go_wp2_with (go_at_call 33; refine (refUnhex_is s _ hsl).mono ?_)
  rintro e w2 ⟨v2, rfl, g2⟩
  have b12 := Below.chain g1.2 g2.2
  have x2 := (gives_sl g1).step g2.2
  have y2 := gives_sl g2
  have hs2 := hs.step b12
  clear g1 g2 hs
  generalize unB s.data.toList = ub at *
  generalize unE s.data.toList = ue at *
  generalize hexN s.data.toList = un at *
  go_wp2_with (go_at_call 16; refine (live_any _).mono ?_)
  rintro e w3 ⟨rfl, b3⟩
  have b13 := Below.chain b12 b3
  have x3 := x2.step b3
  have y3 := y2.step b3
  have hs3 := hs2.step b3
  clear x2 y2 hs2 b12 b3
  go_wp2_with (go_at_call 34; refine (hex_any _ _ bs _ hs3 (Nat.le_refl _) (by omega)).mono ?_)
  rintro e w4 ⟨rfl, b4⟩
  have b14 := Below.chain b13 b4
  have x4 := x3.step b4
  have y4 := y3.step b4
  have hs4 := hs3.step b4
  clear x3 y3 hs3 b13 b4
  go_wp2_with (go_at_call 35; refine (refHex_any _ _ bs _ hs4 (by omega)).mono ?_)
  rintro e w5 ⟨rfl, b5⟩
  have b15 := Below.chain b14 b5
  have x5 := x4.step b5
  have y5 := y4.step b5
  clear x4 y4 hs4 b14 b5
  generalize hexL bs = hx at *
  go_wp2_with (go_at_call 17; refine (refEqual_any _ _ _ _ ub ub _ x5 y5).mono ?_; rintro e w' ⟨rfl, rfl⟩)
  go_ret
  exact ⟨rfl, b15⟩
end Go.Proofs.Ytijkhpiehaocpaa
