/-
  THE WALK of octet.Join: parts wherever they lie.
-/
import Derived.Test.YtanpplniedphkaaDoorME
import Derived.Test.YtanpplniedphkaaDoorMC
namespace Go.Proofs.YtanpplniedphkaaDoor
open Go.RowKit
set_option maxRecDepth 100000

set_option maxHeartbeats 1000000 in
theorem join_any (B g : Nat) (v : Value) (bss : List (List UInt8)) (w : World) (hp : PartsO w B g v bss) (hB : B ≤ w.heap.size) (hl : bss.flatten.length ≤ 1099511627776) (hn : bss.length ≤ 1000) :
    Calls Tryd.prog 91 #[v] w (OwnIs w bss.flatten) := by
  obtain ⟨i0, hi, hz0, hz1, hz2⟩ := info_parts info_u8
  obtain ⟨A, c, rfl⟩ := hp.form
  have hmk := make0_run bss.flatten.length (by omega)
  obtain ⟨N, hN⟩ : ∃ N, N = bss.flatten.length := ⟨_, rfl⟩
  rw [← hN] at hmk hl
  have HN := Lib.hid hN
  clear hN
  go_enter Tryd.func91, Tryd.ntmps91
  go_wp2
  go_loop [3, 5, 11] (fun s _ i => ∃ k : Nat, k ≤ bss.length ∧ i = .int .i64 k ∧ s = .int .i64 (((bss.take k).flatten.length : Nat) : Int)) (fun _ _ i => bss.length - (intOf i).toNat)
  case atStart => exact ⟨0, Nat.zero_le _, rfl, rfl⟩
  case round =>
    obtain ⟨k, hk, rfl, rfl⟩ := hrel
    by_cases hlt : k < bss.length
    · obtain ⟨q, off, rfl, hq, hqg, hcc⟩ := hp.at_ (by omega)
      obtain ⟨u, hu, hs, ho⟩ := hcc k hlt
      obtain ⟨A2, c2, rfl, _, _⟩ := hs.form
      have hfl := flat_le bss (k + 1)
      rw [flat_snoc bss k hlt, List.length_append, ← HN.out] at hfl
      have HF : Hid ((bss.take (k + 1)).flatten.length = (bss.take k).flatten.length + bss[k].length) := by
        rw [flat_snoc bss k hlt, List.length_append]; exact Lib.hid rfl
      clear hs ho hcc
      generalize bss[k].length = m at *
      generalize (bss.take k).flatten.length = f0 at *
      go_wp2
      go_round
      case rel => exact ⟨k + 1, by omega, by go_num, by rw [HF.out]; go_num⟩
      case measure => simp [intOf]; omega
    · obtain rfl : k = bss.length := by omega
      rw [List.take_of_length_le (Nat.le_refl _), ← HN.out]
      go_wp2
      go_loopw [6, 8, 24] (fun o _ i wr => ∃ k : Nat, k ≤ bss.length ∧ i = .int .i64 k ∧ wr.ownsRow w.heap.size 5 1 o (bss.take k).flatten.length (Lib.byteCells (bss.take k).flatten) ∧ Below w.heap.size w wr) (fun _ _ i _ => bss.length - (intOf i).toNat)
      case atStart =>
        exact ⟨0, Nat.zero_le _, rfl, World.ownsRow_made w _ N (Nat.le_refl _) (by unfold maxLen; omega) (by simp [Lib.byteCells]), (Below.refl _ _).alloc (Nat.le_refl _) _⟩
      case round =>
        obtain ⟨k, hk, rfl, hown, hbel⟩ := hrel
        have hpr := hp.below (hbel.mono hB)
        have hsz := hbel.size
        by_cases hlt : k < bss.length
        · obtain ⟨q, off, rfl, hq, hqg, hcc⟩ := hpr.at_ (by omega)
          obtain ⟨u, hu, hs, ho⟩ := hcc k hlt
          have hfs := flat_snoc bss k hlt
          have hfl := flat_le bss (k + 1)
          rw [hfs, List.length_append, ← HN.out] at hfl
          have HF := Lib.hid hfs
          clear hfs hpr hcc
          generalize bss[k] = cs at *
          generalize (bss.take k).flatten = f0 at *
          go_wp2_with (at_builtin; refine wp_appendSl _ 22 5 i0 Tryd.underlying22 hi hz0 hz1 hz2 rfl _ _ rfl hown hs rfl rfl (by omega) hsz ?_)
          intro v' w1 hown1 _ hb1
          rw [← HF.out] at hown1
          have HO := Lib.hid (own_len hown1 (show f0.length + cs.length = (bss.take (k + 1)).flatten.length by rw [HF.out, List.length_append]))
          clear hown1
          go_wp2
          go_roundw
          case rel => exact ⟨k + 1, by omega, by go_num, HO.out, hbel.trans (hb1 _ (Nat.le_refl _))⟩
          case measure => simp [intOf]; omega
        · obtain rfl : k = bss.length := by omega
          rw [List.take_of_length_le (Nat.le_refl _)] at hown
          have HO := Lib.hid hown
          clear hown
          go_wp2
          go_ret
          exact ⟨_, rfl, HO.out, hbel⟩
end Go.Proofs.YtanpplniedphkaaDoor
