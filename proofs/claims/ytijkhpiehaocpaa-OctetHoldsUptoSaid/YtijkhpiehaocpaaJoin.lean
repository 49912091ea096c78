/-
  WALKS: octet.Join and the document's own Join: parts that lie side by side in one block.
-/
import Derived.Test.YtijkhpiehaocpaaBytes
import Derived.Test.YtijkhpiehaocpaaNumbersWalk
namespace Go.Proofs.Ytijkhpiehaocpaa
open Go.RowKit

def Parts (w : World) (B g : Nat) (bss : List (List UInt8)) : Prop :=
  g < B ∧ ∀ i bs, bss[i]? = some bs → ∃ v, w.cell? ⟨g, i, none⟩ = some v ∧ Sl w B v bs
section
variable {w w' : World} {B g : Nat} {bss : List (List UInt8)}
theorem Parts.below (h : Parts w B g bss) (hb : Below B w w') : Parts w' B g bss :=
  ⟨h.1, fun i bs hi => by
    obtain ⟨v, hc, hs⟩ := h.2 i bs hi
    exact ⟨v, (hb.cell (p := ⟨g, i, none⟩) h.1).trans hc, hs.below hb⟩⟩
end
theorem flat_snoc (bss : List (List UInt8)) (k : Nat) (h : k < bss.length) : (bss.take (k + 1)).flatten = (bss.take k).flatten ++ bss[k] := by
  rw [List.take_succ_eq_append_getElem h, List.flatten_append]
  simp only [List.flatten_cons, List.flatten_nil, List.append_nil]
theorem flat_le (bss : List (List UInt8)) (k : Nat) : (bss.take k).flatten.length ≤ bss.flatten.length := by
  conv => rhs; rw [← List.take_append_drop k bss, List.flatten_append, List.length_append]
  omega

set_option maxHeartbeats 1000000 in
theorem refJoin_any (B g : Nat) (bss : List (List UInt8)) (w : World) (hp : Parts w B g bss) (hB : B ≤ w.heap.size) (hl : bss.flatten.length ≤ 1099511627776) (hn : bss.length ≤ 1000) :
    Calls Try.prog 26 #[.slice (some ⟨g, 0, none⟩) bss.length bss.length] w (OwnIs w bss.flatten) := by
  obtain ⟨i0, hi, hz0, hz1, hz2⟩ := info_parts info_u8
  go_enter Try.func26, Try.ntmps26
  go_wp2
  go_loopw [3, 5, 9] (fun o _ i wr => ∃ k : Nat, k ≤ bss.length ∧ i = .int .i64 k ∧ wr.ownsRow w.heap.size 5 1 o (bss.take k).flatten.length (Lib.byteCells (bss.take k).flatten) ∧ Below w.heap.size w wr) (fun _ _ i _ => bss.length - (intOf i).toNat)
  case atStart =>
    exact ⟨0, Nat.zero_le _, rfl, World.ownsRow_made w #[] 0 (Nat.le_refl _) (Nat.zero_le _) rfl, (Below.refl _ _).alloc (Nat.le_refl _) _⟩
  case round =>
    obtain ⟨k, hk, rfl, hown, hbel⟩ := hrel
    have hpr := hp.below (hbel.mono hB)
    have hsz := hbel.size
    by_cases hlt : k < bss.length
    · obtain ⟨v, hc, hs⟩ := hpr.2 k bss[k] (List.getElem?_eq_getElem hlt)
      have hfs := flat_snoc bss k hlt
      have hfl := flat_le bss (k + 1)
      rw [hfs, List.length_append] at hfl
      have HF := Lib.hid hfs
      clear hfs hpr
      generalize bss[k] = cs at *
      generalize (bss.take k).flatten = f0 at *
      go_wp2_with (at_builtin; refine wp_appendSl _ 23 5 i0 Try.underlying23 hi hz0 hz1 hz2 rfl _ _ rfl hown hs rfl rfl (by omega) hsz ?_)
      intro v' w1 hown1 _ hb1
      rw [← HF.out] at hown1
      have HO := Lib.hid (own_len hown1 (show f0.length + cs.length = (bss.take (k + 1)).flatten.length by rw [HF.out, List.length_append]))
      clear hown1
      go_wp2
      go_roundw
      case rel => exact ⟨k + 1, by omega, by go_num, HO.out, hbel.trans (hb1 _ (Nat.le_refl _))⟩
      case measure => simp [intOf]; omega
    · obtain rfl : k = bss.length := by omega
      rw [List.take_of_length_le (Nat.le_refl _)] at hown
      have HO := Lib.hid hown
      clear hown
      go_wp2
      go_ret
      exact ⟨_, rfl, HO.out, hbel⟩

set_option maxHeartbeats 1000000 in
theorem join_any (B g : Nat) (bss : List (List UInt8)) (w : World) (hp : Parts w B g bss) (hB : B ≤ w.heap.size) (hl : bss.flatten.length ≤ 1099511627776) (hn : bss.length ≤ 1000) :
    Calls Try.prog 27 #[.slice (some ⟨g, 0, none⟩) bss.length bss.length] w (OwnIs w bss.flatten) := by
  obtain ⟨i0, hi, hz0, hz1, hz2⟩ := info_parts info_u8
  have hmk := make0_run bss.flatten.length (by omega)
  obtain ⟨N, hN⟩ : ∃ N, N = bss.flatten.length := ⟨_, rfl⟩
  rw [← hN] at hmk hl
  have HN := Lib.hid hN
  clear hN
  go_enter Try.func27, Try.ntmps27
  go_wp2
  go_loop [3, 5, 11] (fun s _ i => ∃ k : Nat, k ≤ bss.length ∧ i = .int .i64 k ∧ s = .int .i64 (((bss.take k).flatten.length : Nat) : Int)) (fun _ _ i => bss.length - (intOf i).toNat)
  case atStart => exact ⟨0, Nat.zero_le _, rfl, rfl⟩
  case round =>
    obtain ⟨k, hk, rfl, rfl⟩ := hrel
    by_cases hlt : k < bss.length
    · obtain ⟨v, hc, hs⟩ := hp.2 k bss[k] (List.getElem?_eq_getElem hlt)
      obtain ⟨A, c, rfl, _, _⟩ := hs.form
      have hfl := flat_le bss (k + 1)
      rw [flat_snoc bss k hlt, List.length_append, ← HN.out] at hfl
      have HF : Hid ((bss.take (k + 1)).flatten.length = (bss.take k).flatten.length + bss[k].length) := by
        rw [flat_snoc bss k hlt, List.length_append]; exact Lib.hid rfl
      clear hs
      generalize bss[k].length = m at *
      generalize (bss.take k).flatten.length = f0 at *
      go_wp2
      go_round
      case rel => exact ⟨k + 1, by omega, by go_num, by rw [HF.out]; go_num⟩
      case measure => simp [intOf]; omega
    · obtain rfl : k = bss.length := by omega
      rw [List.take_of_length_le (Nat.le_refl _), ← HN.out]
      go_wp2
      go_loopw [6, 8, 24] (fun o _ i wr => ∃ k : Nat, k ≤ bss.length ∧ i = .int .i64 k ∧ wr.ownsRow w.heap.size 5 1 o (bss.take k).flatten.length (Lib.byteCells (bss.take k).flatten) ∧ Below w.heap.size w wr) (fun _ _ i _ => bss.length - (intOf i).toNat)
      case atStart =>
        exact ⟨0, Nat.zero_le _, rfl, World.ownsRow_made w _ N (Nat.le_refl _) (by unfold maxLen; omega) (by simp [Lib.byteCells]), (Below.refl _ _).alloc (Nat.le_refl _) _⟩
      case round =>
        obtain ⟨k, hk, rfl, hown, hbel⟩ := hrel
        have hpr := hp.below (hbel.mono hB)
        have hsz := hbel.size
        by_cases hlt : k < bss.length
        · obtain ⟨v, hc, hs⟩ := hpr.2 k bss[k] (List.getElem?_eq_getElem hlt)
          have hfs := flat_snoc bss k hlt
          have hfl := flat_le bss (k + 1)
          rw [hfs, List.length_append, ← HN.out] at hfl
          have HF := Lib.hid hfs
          clear hfs hpr
          generalize bss[k] = cs at *
          generalize (bss.take k).flatten = f0 at *
          go_wp2_with (at_builtin; refine wp_appendSl _ 23 5 i0 Try.underlying23 hi hz0 hz1 hz2 rfl _ _ rfl hown hs rfl rfl (by omega) hsz ?_)
          intro v' w1 hown1 _ hb1
          rw [← HF.out] at hown1
          have HO := Lib.hid (own_len hown1 (show f0.length + cs.length = (bss.take (k + 1)).flatten.length by rw [HF.out, List.length_append]))
          clear hown1
          go_wp2
          go_roundw
          case rel => exact ⟨k + 1, by omega, by go_num, HO.out, hbel.trans (hb1 _ (Nat.le_refl _))⟩
          case measure => simp [intOf]; omega
        · obtain rfl : k = bss.length := by omega
          rw [List.take_of_length_le (Nat.le_refl _)] at hown
          have HO := Lib.hid hown
          clear hown
          go_wp2
          go_ret
          exact ⟨_, rfl, HO.out, hbel⟩
end Go.Proofs.Ytijkhpiehaocpaa
