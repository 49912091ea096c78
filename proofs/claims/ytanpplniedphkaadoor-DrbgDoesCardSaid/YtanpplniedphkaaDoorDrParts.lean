/-
  WALK: the law DrbgParts.
-/
import Derived.Test.YtanpplniedphkaaDoorDrFull
import Derived.Test.YtanpplniedphkaaDoorME
namespace Go.Proofs.YtanpplniedphkaaDoor
open Go.RowKit
set_option maxRecDepth 100000
theorem refEqual_yes5 (B B' : Nat) (v v' : Value) (bs : List UInt8) (w : World) (h1 : Sl w B v bs) (h2 : Sl w B' v' bs) :
    Calls Tryd.prog 60 #[v, v'] w (KeepIs (.bool true) w) := by
  have h := refEqual_any B B' v v' bs bs w h1 h2
  have e : (bs == bs) = true := by simp
  rw [e] at h
  exact h
theorem slice_to5 {w : World} {B n c : Nat} {A : Option Addr} {bs : List UInt8} (h : Sl w B (.slice A n c) bs) (j : Nat) (hj : j ≤ n) (hn : n ≤ c) :
    ∃ A' c', (∀ u, (Instr.sliceAt 22 (.slice A n c) none (some (.int .i64 (j : Int))) none).run Tryd.prog u = .ok (.slice A' (bs.take j).length c') u) ∧ Sl w B (.slice A' (bs.take j).length c') (bs.take j) := by
  have hcut := h.cut 0 j (Nat.zero_le _) hj (by omega)
  rw [List.drop_zero] at hcut
  obtain ⟨A', c', hv, _⟩ := hcut.form
  refine ⟨A', c', fun u => ?_, by rw [← hv]; exact hcut⟩
  rw [run_sliceAt_slice _ _ _ _ _ _ slice30, run_slice_h u 22 A n c slice30 .i64 (j : Int) (by omega) (by omega), elem30, run_sizeOf_u8, Result.andThen_ok, Int.toNat_natCast, hv]
theorem slice_from5 {w : World} {B n c : Nat} {A : Option Addr} {bs : List UInt8} (h : Sl w B (.slice A n c) bs) (j : Nat) (hj : j ≤ n) (hn : n ≤ c) :
    ∃ A' c', (∀ u, (Instr.sliceAt 22 (.slice A n c) (some (.int .i64 (j : Int))) none none).run Tryd.prog u = .ok (.slice A' (bs.drop j).length c') u) ∧ Sl w B (.slice A' (bs.drop j).length c') (bs.drop j) := by
  have hcut := h.cut j n hj (Nat.le_refl _) hn
  have hl := h.len
  rw [List.take_of_length_le (by omega)] at hcut
  obtain ⟨A', c', hv, _⟩ := hcut.form
  refine ⟨A', c', fun u => ?_, by rw [← hv]; exact hcut⟩
  rw [run_sliceAt_slice _ _ _ _ _ _ slice30, run_slice_l u 22 A n c slice30 .i64 (j : Int) (by omega) (by omega), elem30, run_sizeOf_u8, Result.andThen_ok, Int.toNat_natCast, hv]
theorem DAt.other {w w' : World} {g g2 c : Nat} {s : List UInt8} (h : DAt w g s c) (hb : But w.heap.size g2 w w') (hg : g ≠ g2) : DAt w' g s c := ⟨hb.row h.row h.lt hg, h.len⟩
end Go.Proofs.YtanpplniedphkaaDoor
