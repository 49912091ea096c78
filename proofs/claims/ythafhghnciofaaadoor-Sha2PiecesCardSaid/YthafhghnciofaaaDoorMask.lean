/-
  WALK: sha2.masked.
-/
import Derived.Test.YthafhghnciofaaaDoorLive
namespace Go.Proofs.YthafhghnciofaaaDoor
open Go.RowKit
set_option maxRecDepth 100000

theorem xorB_length (k : List UInt8) (c : UInt8) : (xorB k c).length = k.length := by simp [xorB]
/-- a new Hash to which m has been written -/
def MadeIs (w : World) (m : List UInt8) (e : Ending) (w' : World) : Prop := ∃ g, e = .returned (.pointer (some ⟨g, 0, none⟩)) ∧ w.heap.size ≤ g ∧ HashAt w' g m ∧ Below w.heap.size w w'

set_option maxHeartbeats 1000000 in
theorem masked_any (b : List UInt8) (c : UInt8) (w : World) (hb : b.length = 64) (hv : Vars w) :
    Calls Tryd.prog 45 #[.agg (Lib.byteCells b).toArray, .int .u8 (c.toNat : Int)] w (MadeIs w (xorB b c)) := by
  unfold MadeIs
  generalize hn0 : w.heap.size = n0 at *
  have hxl := xorB_length b c
  go_enter Tryd.func45, Tryd.ntmps45
  go_wp2
  go_loopw [5, 7] (fun _ i wr => ∃ k : Nat, k ≤ 64 ∧ i = .int .i64 k ∧ Row wr n0 24 (Lib.byteCells ((xorB b c).take k ++ b.drop k)) ∧ Below n0 w wr) (fun _ i _ => 64 - (intOf i).toNat)
  case atStart => exact ⟨0, by omega, rfl, by simpa using Row.new_ hn0.symm rfl, (Below.refl n0 w).alloc (by omega) _⟩
  case round =>
    obtain ⟨k, hk, rfl, hr, hbel⟩ := hrel
    by_cases hlt : k < 64
    · have hc := hr.cell k
      have hg : ((xorB b c).take k ++ b.drop k)[k]? = some (b[k]'(by omega)) := by
        rw [List.getElem?_append_right (by simp; omega)]
        simp [hxl, hb, Nat.min_eq_left (Nat.le_of_lt hlt)]
      have hll : k < ((xorB b c).take k ++ b.drop k).length := by simp; omega
      rw [byteCells_get _ _ hll, (List.getElem_eq_iff hll).2 hg] at hc
      have hf := hr.free k
      obtain ⟨x, hx⟩ : ∃ x, x = b[k]'(by omega) := ⟨_, rfl⟩
      have hset := hr.set_ k (.int .u8 ((x ^^^ c).toNat : Int))
      have he : (Lib.byteCells ((xorB b c).take k ++ b.drop k)).set k (.int .u8 ((x ^^^ c).toNat : Int)) = Lib.byteCells ((xorB b c).take (k + 1) ++ b.drop (k + 1)) := by
        have e1 : ((xorB b c).take k ++ b.drop k).set k (x ^^^ c) = (xorB b c).take (k + 1) ++ b.drop (k + 1) := by
          rw [List.set_append_right _ _ (by simp; omega), List.take_succ_eq_append_getElem (by omega), List.drop_eq_getElem_cons (show k < b.length by omega)]
          have : (xorB b c)[k]'(by omega) = x ^^^ c := by rw [hx]; simp [xorB]
          rw [this]
          have : k - (List.take k (xorB b c)).length = 0 := by simp; omega
          rw [this, List.set_cons_zero, List.append_assoc]
          rfl
        rw [← e1]
        simp [Lib.byteCells, List.map_set]
      rw [he] at hset
      rw [← hx] at hc
      have HX := Lib.hid (u8_xor x c)
      have HSET := Lib.hid hset
      clear hg hset he hx
      go_wp2
      go_roundw
      case rel =>
        refine ⟨k + 1, by omega, by go_num, ?_, hbel.setCell (p := ⟨n0, k, none⟩) (Nat.le_refl _) _⟩
        rw [HX.out]
        exact HSET.out
      case measure => simp [intOf]; omega
    · obtain rfl : k = 64 := by omega
      rw [List.take_of_length_le (by omega), List.drop_of_length_le (by omega), List.append_nil] at hr
      have hv2 := hv.step (by rw [hn0]; exact hbel)
      have hlt0 := hr.lt
      go_wp2_with (go_at_call 20; refine (new_any _ hv2).mono ?_)
      rintro e w1 ⟨g, rfl, hg, hh, b1⟩
      have hr1 := hr.below b1 hr.lt
      have hv3 := hv2.step b1
      have hs1 := b1.size
      have hgl := hh.lt
      have hbel1 := hbel.trans (b1.mono (by omega))
      have hgn : n0 < g := by omega
      clear hg hr hbel hv2 b1 hv
      have bA : Below w1.heap.size w1 (w1.alloc (.cells #[.slice (some ⟨n0, 0, none⟩) 64 64] 30)) := Below.alloc (Below.refl _ _) (Nat.le_refl _) _
      have hpA : PartsO (w1.alloc (.cells #[.slice (some ⟨n0, 0, none⟩) 64 64] 30)) (w1.heap.size + 1) g (.slice (some ⟨w1.heap.size, 0, none⟩) 1 1) [xorB b c] :=
        PartsO.solo (Row.new_ rfl rfl) (Nat.lt_succ_self _) (by omega) (Sl.of_bytes (hr1.alloc _) (by omega) (by omega) (by decide)) (Off.at_ (by omega))
      go_wp2_with (go_at_call 21; (refine (write_any g [] [xorB b c] (w1.heap.size + 1) _ _ (hh.step bA) hpA (by rw [asz]; exact Nat.le_refl _) (hv3.step bA) (by simp [hxl, hb]) (by simp)).mono ?_))
      rintro e w2 ⟨rfl, hh2, b2⟩
      have e2 : ([] : List UInt8) ++ [xorB b c].flatten = xorB b c := by simp
      rw [e2] at hh2
      have hbel2 : Below n0 w w2 := (hbel1.trans (bA.mono (by omega))).trans (b2.under (by rw [asz]; omega) (by omega))
      go_wp2
      go_ret
      exact ⟨g, rfl, by omega, hh2, hbel2⟩
end Go.Proofs.YthafhghnciofaaaDoor
