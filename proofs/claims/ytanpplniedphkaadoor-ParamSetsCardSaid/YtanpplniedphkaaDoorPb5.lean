/-
  WALKS: the laws' own check 'live': the chapter's examples; ParamRoom.
-/
import Derived.Test.YtanpplniedphkaaDoorPb1
import Derived.Test.YtanpplniedphkaaDoorPb2
namespace Go.Proofs.YtanpplniedphkaaDoor
open Go.RowKit
set_option maxRecDepth 100000
theorem lms_ex (w : World) : Calls Tryd.prog 19 #[.int .u32 4026531858] w (OldIs (.tuple #[.agg #[.int .u32 4026531858, .bool false, .int .i64 24, .int .i64 2], .int .i64 0]) w) := by
  have h := lms_any 4026531858 (by omega) w
  have e1 : lC 4026531858 = 4026531858 := by decide +kernel
  have e2 : lSh 4026531858 = false := by decide +kernel
  have e3 : lN 4026531858 = 24 := by decide +kernel
  have e4 : lH 4026531858 = 2 := by decide +kernel
  have e5 : lE 4026531858 = 0 := by decide +kernel
  unfold lmsV at h
  rw [e1, e2, e3, e4, e5] at h
  exact h
theorem name5 (w : World) : Calls Tryd.prog 30 #[.int .i64 1, .int .u32 5] w (OldIs (.string ⟨#[76, 77, 79, 84, 83, 95, 83, 72, 65, 50, 53, 54, 95, 78, 50, 52, 95, 87, 49]⟩) w) := by
  have h := name1_of 5 5 24 1 false 200 8 (by omega) (by omega) (fun W => ots_5 W) w
  have e : nmB (⟨#[76, 77, 79, 84, 83, 95]⟩ : ByteArray) (hshL false) (⟨#[95, 78]⟩ : ByteArray) (decB 24) (⟨#[95, 87]⟩ : ByteArray) (decB 1) = ⟨#[76, 77, 79, 84, 83, 95, 83, 72, 65, 50, 53, 54, 95, 78, 50, 52, 95, 87, 49]⟩ := by decide +kernel
  rw [e] at h
  exact h
set_option maxHeartbeats 1000000 in
theorem live6 (w : World) : Calls Tryd.prog 24 #[] w (TrueIs w) := by
  unfold TrueIs
  go_enter Tryd.func24, Tryd.ntmps24
  go_wp2_with (go_at_call 18; refine (ots_4 _).mono ?_)
  unfold OldIs
  rintro e w2 ⟨rfl, b2⟩
  obtain ⟨G, hG⟩ : ∃ G, Shh (G = w2.heap.size) := ⟨_, ⟨rfl⟩⟩
  go_wp2_with (first | refine wpList_store_any rfl 46 (.tmp 1) (.tmp 7) rfl G (by rw [hG.out]; rfl) [.int .u32 4, .bool false, .int .i64 32, .int .i64 8, .int .i64 34, .int .i64 0] rfl 46 _ (Row.new_ hG.out rfl) info_ots rfl oneCell6 ?_)
  intro Z hr bt _
  have F : Shh (Row Z G 46 [.int .u32 4, .bool false, .int .i64 32, .int .i64 8, .int .i64 34, .int .i64 0] ∧ Below w.heap.size w Z) := ⟨hr, Below.chain b2 ((Below.alloc (Below.refl _ _) (Nat.le_refl _) _).trans (bt.under (by have := hG.out; first | omega | (simp only [asz]; omega)) (by have := hG.out; omega)))⟩
  rw [← hG.out]
  clear hr bt b2 hG
  go_wp2_with (go_at_call 19; refine (lms_ex _).mono ?_)
  unfold OldIs
  rintro e w3 ⟨rfl, b3⟩
  have F2 : Shh (Row w3 G 46 [.int .u32 4, .bool false, .int .i64 32, .int .i64 8, .int .i64 34, .int .i64 0] ∧ Below w.heap.size w w3) := ⟨F.out.1.go b3, Below.chain F.out.2 b3⟩
  clear F b3
  obtain ⟨H, hH⟩ : ∃ H, Shh (H = w3.heap.size) := ⟨_, ⟨rfl⟩⟩
  go_wp2_with (first | refine wpList_store_any rfl 50 (.tmp 3) (.tmp 11) rfl H (by rw [hH.out]; rfl) [.int .u32 4026531858, .bool false, .int .i64 24, .int .i64 2] rfl 50 _ (Row.new_ hH.out rfl) info_lms rfl oneCell4 ?_)
  intro Y hr bt _
  have F : Shh (Row Y G 46 [.int .u32 4, .bool false, .int .i64 32, .int .i64 8, .int .i64 34, .int .i64 0] ∧ Row Y H 50 [.int .u32 4026531858, .bool false, .int .i64 24, .int .i64 2] ∧ Below w.heap.size w Y) := by
    have hl := F2.out.1.lt
    have hh := hH.out
    refine ⟨bt.row (F2.out.1.alloc _) (by first | omega | (simp only [asz]; omega)) (by omega), hr, Below.chain F2.out.2 ?_⟩
    exact (Below.alloc (Below.refl _ _) (Nat.le_refl _) _).trans (bt.under (by first | omega | (simp only [asz]; omega)) (by omega))
  rw [← hH.out]
  clear hr bt F2 hH
  go_wp2_with (first | refine wl_loadW 46 (.tmp 1) rfl G rfl 46 [.int .u32 4, .bool false, .int .i64 32, .int .i64 8, .int .i64 34, .int .i64 0] _ rfl F.out.1 Tryd.underlying46 rfl info_ots ?_ | refine wl_loadW 50 (.tmp 3) rfl H rfl 50 [.int .u32 4026531858, .bool false, .int .i64 24, .int .i64 2] _ rfl F.out.2.1 Tryd.underlying50 rfl info_lms ?_ | refine wl_eqlW 46 46 (.tmp 20) (.tmp 21) rfl #[.int .u32 4, .bool false, .int .i64 32, .int .i64 8, .int .i64 34, .int .i64 0] #[.int .u32 4, .bool false, .int .i64 32, .int .i64 8, .int .i64 34, .int .i64 0] rfl rfl rfl (by kernel_rfl) true (eq_ots 4 false 32 8 34 0 4 false 32 8 34 0 rfl rfl rfl rfl rfl rfl rfl rfl rfl rfl _) ?_ | refine wl_eqlW 50 50 (.tmp 25) (.tmp 26) rfl #[.int .u32 4026531858, .bool false, .int .i64 24, .int .i64 2] #[.int .u32 4026531858, .bool false, .int .i64 24, .int .i64 2] rfl rfl rfl (by kernel_rfl) true (eq_lms 4026531858 false 24 2 4026531858 false 24 2 rfl rfl rfl rfl rfl rfl _) ?_ | (go_at_call 30; refine (name5 _).mono ?_))
  unfold OldIs
  rintro e w4 ⟨rfl, b4⟩
  have F2 : Shh (Below w.heap.size w w4) := ⟨Below.chain F.out.2.2 b4⟩
  clear F b4
  go_wp2
  go_ret
  exact ⟨rfl, F2.out⟩
end Go.Proofs.YtanpplniedphkaaDoor
