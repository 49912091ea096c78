/-
  WALK: the document's own Join, parts wherever they lie.
-/
import Derived.Test.YtjondbamnbgiaaaDoorParts
import Derived.Test.YtjondbamnbgiaaaDoorApp
import Derived.Test.YtjondbamnbgiaaaDoorSlc
namespace Go.Proofs.YtjondbamnbgiaaaDoor
open Go.RowKit
set_option maxRecDepth 100000

set_option maxHeartbeats 1000000 in
theorem refJoin_any (B g : Nat) (v : Value) (bss : List (List UInt8)) (w : World) (hp : PartsO w B g v bss) (hB : B ≤ w.heap.size) (hl : bss.flatten.length ≤ 1099511627776) (hn : bss.length ≤ 1000000) :
    Calls Tryd.prog 16 #[v] w (OwnIs w bss.flatten) := by
  obtain ⟨i0, hi, hz0, hz1, hz2⟩ := info_parts info_u8
  obtain ⟨A, c, rfl⟩ := hp.form
  go_enter Tryd.func16, Tryd.ntmps16
  go_wp2
  go_loopw [3, 5, 9] (fun o _ i wr => ∃ k : Nat, k ≤ bss.length ∧ i = .int .i64 k ∧ wr.ownsRow w.heap.size 5 1 o (bss.take k).flatten.length (Lib.byteCells (bss.take k).flatten) ∧ Below w.heap.size w wr) (fun _ _ i _ => bss.length - (intOf i).toNat)
  case atStart =>
    exact ⟨0, Nat.zero_le _, rfl, World.ownsRow_made w #[] 0 (Nat.le_refl _) (Nat.zero_le _) rfl, (Below.refl _ _).alloc (Nat.le_refl _) _⟩
  case round =>
    obtain ⟨k, hk, rfl, hown, hbel⟩ := hrel
    have hsz := hbel.size
    by_cases hlt : k < bss.length
    · have hpr := hp.below (hbel.mono hB)
      obtain ⟨q, off, rfl, hq, hqg, hcc⟩ := hpr.at_ (by omega)
      obtain ⟨u, hu, hs, ho⟩ := hcc k hlt
      have hfs := flat_snoc bss k hlt
      have hfl := flat_le bss (k + 1)
      rw [hfs, List.length_append] at hfl
      have HF := Lib.hid hfs
      clear hfs hpr hcc
      generalize bss[k] = cs at *
      generalize (bss.take k).flatten = f0 at *
      go_wp2_with (at_builtin; refine wp_appendSl _ 29 5 i0 Tryd.underlying29 hi hz0 hz1 hz2 rfl _ _ rfl hown hs rfl rfl (by omega) hsz ?_)
      intro v' w1 hown1 _ hb1
      rw [← HF.out] at hown1
      have HO := Lib.hid (own_len hown1 (show f0.length + cs.length = (bss.take (k + 1)).flatten.length by rw [HF.out, List.length_append]))
      clear hown1
      go_wp2
      go_roundw
      case rel => exact ⟨k + 1, by omega, by go_num, HO.out, hbel.trans (hb1 _ (Nat.le_refl _))⟩
      case measure => simp [intOf]; omega
    · obtain rfl : k = bss.length := by omega
      rw [List.take_of_length_le (Nat.le_refl _)] at hown
      have HO := Lib.hid hown
      clear hown
      go_wp2
      go_ret
      exact ⟨_, rfl, HO.out, hbel⟩
end Go.Proofs.YtjondbamnbgiaaaDoor
