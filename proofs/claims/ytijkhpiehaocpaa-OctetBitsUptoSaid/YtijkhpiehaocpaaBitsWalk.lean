/-
  THE WALK of liverylaw01.OctetBits.
-/
import Derived.Test.YtijkhpiehaocpaaFrom
namespace Go.Proofs.Ytijkhpiehaocpaa
open Go.RowKit

set_option maxHeartbeats 4000000 in
set_option maxRecDepth 100000 in
theorem bitslaw_walk (va vl : Value) (bs : List UInt8) (l : List Bool) (w : World) (ha : Sl w w.heap.size va bs) (hb : Slb w w.heap.size vl l) (hl : bs.length ≤ 1048576) (hl2 : l.length ≤ 1048576) :
    Calls Try.prog 4 #[va, vl] w (TrueIs w) := by
  go_enter Try.func4, Try.ntmps4
  go_wp2_with fail
  refine (bits_any _ _ bs _ ha (Nat.le_refl _) (by omega)).mono ?_
  rintro e w1 ⟨v1, rfl, o1, b1⟩
  have ha1 := ha.step b1
  have hb1 := hb.step b1
  have x1 := Slb.of_own o1
  clear ha hb o1
  go_wp2_with fail
  refine (refBits_any _ _ bs _ ha1 (Nat.le_refl _) (by omega)).mono ?_
  rintro e w2 ⟨v2, rfl, o2, b2⟩
  have hb2 := hb1.step b2
  have x2 := x1.step b2
  have y2 := Slb.of_own o2
  have b12 := Below.chain b1 b2
  clear ha1 hb1 x1 o2 b1 b2
  go_wp2_with fail
  refine (live_any _).mono ?_
  rintro e w3 ⟨rfl, b3⟩
  have hb3 := hb2.step b3
  have x3 := x2.step b3
  have y3 := y2.step b3
  have b13 := Below.chain b12 b3
  have hbl : (bitsL bs).length ≤ 8388608 := by rw [bitsL_length]; omega
  clear hb2 x2 y2 b12 b3
  generalize bitsL bs = m at *
  obtain ⟨A1, c1, rfl, _, _⟩ := x3.form
  obtain ⟨A2, c2, rfl, _, _⟩ := y3.form
  go_wp2
  go_loopw [7, 23] (fun _ i wr => ∃ k n : Nat, k ≤ m.length ∧ i = .int .i64 k ∧ wr = w3.drewN n) (fun _ i _ => m.length - (intOf i).toNat)
  case atStart => exact ⟨0, 0, Nat.zero_le _, rfl, rfl⟩
  case round =>
    obtain ⟨k, n, hk, rfl, rfl⟩ := hrel
    by_cases hlt : k < m.length
    · obtain ⟨g1, f1, rfl, _, hc1⟩ := x3.at_ (by omega)
      obtain ⟨g2, f2, rfl, _, hc2⟩ := y3.at_ (by omega)
      have d1 := hc1 k hlt
      have d2 := hc2 k hlt
      clear hc1 hc2
      generalize m[k] = bt at *
      go_wp2
      go_region
      go_wp2
      go_roundw
      case rel => exact ⟨k + 1, n + 1, by omega, by go_num, rfl⟩
      case measure => simp [intOf]; omega
    · have hb3' : Slb (w3.drewN n) w3.heap.size vl l := hb3
      have b13' : Below w.heap.size w (w3.drewN n) := ⟨b13.os, b13.tape, b13.output, b13.size, b13.block⟩
      have hsz : (w3.drewN n).heap.size = w3.heap.size := rfl
      go_wp2_with fail
      refine (fromBits_any _ _ l _ hb3' (by rw [hsz]; exact Nat.le_refl _) (by omega)).mono ?_
      rintro e w4 ⟨v4, rfl, g4⟩
      have hb4 := Slb.step (w := w3.drewN n) hb3' g4.2
      have p4 := gives_sl g4
      have b14 := Below.trans b13' (g4.2.mono (by rw [hsz]; exact b13.size))
      clear g4
      go_wp2_with fail
      refine (refFromBits_any _ _ l _ hb4 (Nat.le_refl _) (by omega)).mono ?_
      rintro e w5 ⟨v5, rfl, g5⟩
      have p5 := p4.step g5.2
      have q5 := gives_sl g5
      have b15 := Below.chain b14 g5.2
      clear g5 p4
      generalize fromBits l = fl at *
      go_wp2_with fail
      refine (refEqual_any _ _ _ _ fl fl _ p5 q5).mono ?_
      rintro e w' ⟨rfl, rfl⟩
      go_wp2_with fail
      go_ret
      exact ⟨by simp, b15⟩
end Go.Proofs.Ytijkhpiehaocpaa
