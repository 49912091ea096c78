/-
  WALK: sha2.schedule.
-/
import Derived.Test.YthafhghnciofaaaDoorRow
import Derived.BigRegion
import Derived.BigQuiet
import Derived.Deep.RegionHeld3
import Derived.Deep.QuietTactic
namespace Go.Proofs.YthafhghnciofaaaDoor
open Go.RowKit
set_option maxRecDepth 100000

theorem info_w64 : (Tryd.prog.info? 63).map (·.size) = some 64 := by kernel_rfl
theorem zeros64 : (#[.int .u32 0, .int .u32 0, .int .u32 0, .int .u32 0] : Array Value) = (wordCells (List.replicate 4 0)).toArray := by rfl

set_option maxHeartbeats 1000000 in
theorem schedule_any (b : List UInt8) (hb : b.length = 64) (w : World) :
    Calls Tryd.prog 31 #[.agg (Lib.byteCells b).toArray] w (fun e w' => e = .returned (.agg (wordCells (sched b 64)).toArray) ∧ Below w.heap.size w w') := by
  go_enter Tryd.func31, Tryd.ntmps31
  go_wp2
  go_loopw [4, 6] (fun _ i wr => ∃ k : Nat, k ≤ 16 ∧ i = .int .i64 k ∧ Row wr w.heap.size 24 (Lib.byteCells b) ∧ Row wr (w.heap.size + 1) 63 (wordCells (List.replicate 64 0)) ∧ Row wr (w.heap.size + 2) 63 (wordCells (sched b k ++ List.replicate (64 - k) 0)) ∧ Below w.heap.size w wr ∧ wr.heap.size = w.heap.size + 3) (fun _ i _ => 16 - (intOf i).toNat)
  case atStart =>
    refine ⟨0, Nat.zero_le _, rfl, ((Row.new _ _ _).alloc _).alloc _, (Row.new_ (by rw [asz]) zero64w).alloc _, Row.new_ (by rw [asz, asz]) zero64w, (((Below.refl _ _).alloc (Nat.le_refl _) _).alloc (by rw [asz]; omega) _).alloc (by rw [asz, asz]; omega) _, by rw [asz, asz, asz]⟩
  case round =>
    obtain ⟨k, hk, rfl, hr0, hr1, hr2, hbel, hsz⟩ := hrel
    by_cases hlt : k < 16
    · have hc0 := hr0.cell (4 * k)
      have hc1 := hr0.cell (4 * k + 1)
      have hc2 := hr0.cell (4 * k + 2)
      have hc3 := hr0.cell (4 * k + 3)
      rw [byteCells_get b _ (by omega)] at hc0 hc1 hc2 hc3
      have hcx := hr2.cell k
      rw [wordCells_get _ _ (by simp [sched_length]; omega)] at hcx
      have hf := hr2.free k
      generalize w.heap.size = n0 at *
      go_wp2
      go_region
      go_wp2
      go_roundw
      case rel =>
        refine ⟨k + 1, by omega, by go_num, hr0.beside (by omega), hr1.beside (by omega), ?_, below_set2 hbel (by omega), size_set2.trans hsz⟩
        have hx : ((nextW b (sched b k)).toNat : Int) = _ := (congrArg (fun x : UInt32 => (x.toNat : Int)) (nextW_lo b k hlt)).trans ((wordB_of b k (by omega)).trans (word_or _ _ _ _).symm)
        have hs := hr2.set_ k (.int .u32 ((nextW b (sched b k)).toNat : Int))
        rw [wordCells_set, sched_set b k 64 _ (by omega) rfl, hx] at hs
        exact hs
      case measure => simp [intOf]; omega
    · rw [show k = 16 by omega] at hr2
      generalize hn0 : w.heap.size = n0 at *
      go_wp2
      go_loopw [5] (fun i wr => ∃ k : Nat, 16 ≤ k ∧ k ≤ 64 ∧ i = .int .i64 k ∧ Row wr (n0 + 1) 63 (wordCells (List.replicate 64 0)) ∧ Row wr (n0 + 2) 63 (wordCells (sched b k ++ List.replicate (64 - k) 0)) ∧ Below n0 w wr ∧ wr.heap.size = n0 + 3) (fun i _ => 64 - (intOf i).toNat)
      case atStart => exact ⟨16, Nat.le_refl _, by omega, rfl, hr1, hr2, hbel, hsz⟩
      case round =>
        clear hr0 hr1 hr2 hbel hsz
        obtain ⟨k, hk1, hk, rfl, hr1, hr2, hbel, hsz⟩ := hrel
        by_cases hlt : k < 64
        · have hw : ∀ d (h1 : 1 ≤ d) (h2 : d ≤ 16), ∃ (j : Nat) (x : UInt32), (j + d = k ∧ x = (sched b k).getD (k - d) 0) ∧ wr.cell? ⟨n0 + 2, j, none⟩ = some (.int .u32 (x.toNat : Int)) ∧ IntKind.i64.wrap ((k : Int) - (d : Int)) = (j : Int) ∧ (j : Int) < 64 ∧ ¬ j = k := fun d h1 h2 => by
            refine ⟨k - d, _, ⟨by omega, rfl⟩, ?_, by rw [IntKind.wrap_i64]; omega, by omega, by omega⟩
            rw [hr2.cell (k - d), wordCells_get _ _ (by simp [sched_length]; omega), List.getElem_append_left (by rw [sched_length]; omega)]
            simp [List.getD, sched_length, show k - d < k by omega]
          have hcx := hr2.cell k
          rw [wordCells_get _ _ (by simp [sched_length]; omega)] at hcx
          have hf := hr2.free k
          obtain ⟨j2, x2, hx2, hc2, q2, b2, e2⟩ := hw 2 (by omega) (by omega)
          obtain ⟨j7, x7, hx7, hc7, q7, b7, e7⟩ := hw 7 (by omega) (by omega)
          obtain ⟨j15, x15, hx15, hc15, q15, b15, e15⟩ := hw 15 (by omega) (by omega)
          obtain ⟨j16, x16, hx16, hc16, q16, b16, e16⟩ := hw 16 (by omega) (by omega)
          replace q2 : IntKind.i64.wrap ((k : Int) - 2) = (j2 : Int) := q2
          replace q7 : IntKind.i64.wrap ((k : Int) - 7) = (j7 : Int) := q7
          replace q15 : IntKind.i64.wrap ((k : Int) - 15) = (j15 : Int) := q15
          replace q16 : IntKind.i64.wrap ((k : Int) - 16) = (j16 : Int) := q16
          have HX := Lib.hid (And.intro hx2 (And.intro hx7 (And.intro hx15 hx16)))
          clear hw hx2 hx7 hx15 hx16
          go_wp2
          go_region_held3 (fun w' => w'.cell? ⟨n0 + 2, j2, none⟩ = some (.int .u32 (x2.toNat : Int)) ∧ w'.cell? ⟨n0 + 2, j7, none⟩ = some (.int .u32 (x7.toNat : Int)) ∧ w'.cell? ⟨n0 + 2, j15, none⟩ = some (.int .u32 (x15.toNat : Int)) ∧ w'.cell? ⟨n0 + 2, j16, none⟩ = some (.int .u32 (x16.toNat : Int))) (first | exact ⟨cell_set_other hc2 e2, cell_set_other hc7 e7, cell_set_other hc15 e15, cell_set_other hc16 e16⟩ | exact ⟨hc2, hc7, hc15, hc16⟩) (first | (go_at_call 48; refine (small1_any _ _).mono ?_; rintro e w' ⟨rfl, rfl⟩) | (go_at_call 49; refine (small0_any _ _).mono ?_; rintro e w' ⟨rfl, rfl⟩))
          go_wp2
          go_roundw
          case rel =>
            refine ⟨k + 1, by omega, by omega, by go_num, hr1.beside (by omega), ?_, below_set2 hbel (by omega), size_set2.trans hsz⟩
            have hs := hr2.set_ k (.int .u32 ((nextW b (sched b k)).toNat : Int))
            obtain ⟨⟨_, y2⟩, ⟨_, y7⟩, ⟨_, y15⟩, ⟨_, y16⟩⟩ := HX.out
            rw [wordCells_set, sched_set b k 64 _ (by omega) rfl, nextW_hi b k hk1, ← y2, ← y7, ← y15, ← y16] at hs
            simp only [u32_add]
            exact hs
          case measure => simp [intOf]; omega
        · obtain rfl : k = 64 := by omega
          rw [Nat.sub_self, List.replicate_zero, List.append_nil] at hr2
          go_wp2_with (first | refine wpList_load_row rfl 63 (.tmp 3) rfl (n0 + 2) rfl 63 _ (0, 0) _ hr2 Tryd.underlying63 rfl (by rw [info_w64]; simp [wordCells_length, sched_length]) ?_ | refine wpList_store_row rfl 63 (.tmp 2) (.tmp 68) rfl (n0 + 1) _ rfl rfl 63 _ hr1 (by rw [info_w64]; simp [wordCells_length, sched_length]) (by simp [wordCells_length, sched_length]) (all_oneCell_toArray (cell_oneWord _)) ?_)
          exact ret_row Tryd.results31 rfl rfl (hr1.setRow (wordCells (sched b 64))) Tryd.underlying63 rfl (by rw [info_w64]; simp [wordCells_length, sched_length]) ⟨rfl, by rw [hn0]; exact below_setRow hbel (by omega)⟩
end Go.Proofs.YthafhghnciofaaaDoor
