/-
  WALKS: a Hash that no call made: Write, Sum, Len, Clone; the law Sha2None.
-/
import Derived.Test.YthafhghnciofaaaDoorLive
namespace Go.Proofs.YthafhghnciofaaaDoor
open Go.RowKit
set_option maxRecDepth 100000

/-- nil, or a Hash that no call made -/
def Bad (w : World) (v : Value) : Prop := v = .pointer none ∨ ∃ g, v = .pointer (some ⟨g, 0, none⟩) ∧ g < w.heap.size ∧ w.cell? ⟨g, 0, none⟩ = some (.bool false)
theorem Bad.step {w w' : World} {v : Value} (h : Bad w v) (hb : Below w.heap.size w w') : Bad w' v := by
  rcases h with h | ⟨g, h1, h2, h3⟩
  · exact .inl h
  · exact .inr ⟨g, h1, Nat.lt_of_lt_of_le h2 hb.size, (hb.cell (p := ⟨g, 0, none⟩) h2).trans h3⟩
theorem isMade_bad (v : Value) (w : World) (h : Bad w v) : Calls Tryd.prog 41 #[v] w fun e w' => e = .returned (.bool false) ∧ w' = w := by
  rcases h with rfl | ⟨g, rfl, _, h3⟩
  · exact isMade_nil w
  · exact isMade_no g w h3
theorem write_bad (v p : Value) (w : World) (h : Bad w v) : Calls Tryd.prog 21 #[v, p] w fun e w' => e = .returned (.int .i64 2) ∧ w' = w := by
  go_enter Tryd.func21, Tryd.ntmps21
  go_wp2_with (go_at_call 41; refine (isMade_bad v _ h).mono ?_)
  rintro e wK ⟨rfl, rfl⟩
  go_wp2
  go_ret
  exact ⟨rfl, rfl⟩
theorem len_bad (v : Value) (w : World) (h : Bad w v) : Calls Tryd.prog 24 #[v] w fun e w' => e = .returned (.int .i64 0) ∧ w' = w := by
  go_enter Tryd.func24, Tryd.ntmps24
  go_wp2_with (go_at_call 41; refine (isMade_bad v _ h).mono ?_)
  rintro e wK ⟨rfl, rfl⟩
  go_wp2
  go_ret
  exact ⟨rfl, rfl⟩
theorem clone_bad (v : Value) (w : World) (h : Bad w v) : Calls Tryd.prog 22 #[v] w fun e w' => e = .returned (.pointer none) ∧ w' = w := by
  go_enter Tryd.func22, Tryd.ntmps22
  go_wp2_with (go_at_call 41; refine (isMade_bad v _ h).mono ?_)
  rintro e wK ⟨rfl, rfl⟩
  go_wp2
  go_ret
  exact ⟨rfl, rfl⟩
theorem sum_bad (v : Value) (w : World) (h : Bad w v) : Calls Tryd.prog 23 #[v] w (SumIs w (List.replicate 32 0)) := by
  unfold SumIs
  go_enter Tryd.func23, Tryd.ntmps23
  go_wp2_with (go_at_call 41; refine (isMade_bad v _ (h.step (Below.alloc (Below.refl _ _) (Nat.le_refl _) _))).mono ?_)
  rintro e w1 ⟨rfl, hw1⟩
  have hr1 : Row w1 w.heap.size 33 (Lib.byteCells (List.replicate 32 0)) := by rw [hw1]; exact Row.new_ rfl zero32b
  have hb1 : Below w.heap.size w w1 := by rw [hw1]; exact Below.alloc (Below.refl _ _) (Nat.le_refl _) _
  clear hw1 h
  go_wp2_with (first | refine wpList_build_eq rfl 33 _ rfl (Lib.byteCells (List.replicate 32 0)).toArray (by kernel_rfl) ?_ | refine wpList_store_any rfl 33 (.tmp 2) (.tmp 6) rfl w.heap.size rfl (Lib.byteCells (List.replicate 32 0)) rfl 33 _ hr1 (info_b32.trans rfl) rfl (cell_oneCell _) ?_)
  intro w3 hr3 b3 _
  have hb3 : Below w.heap.size w w3 := hb1.trans (b3.under (Nat.le_of_lt hr1.lt) (Nat.le_refl _))
  go_wp2
  exact ret_row Tryd.results23 rfl rfl hr3 Tryd.underlying33 rfl (info_b32.trans rfl) ⟨rfl, hb3⟩

set_option maxHeartbeats 1000000 in
theorem none_walk (v : Value) (bs : List UInt8) (w : World) (hs : Sl w w.heap.size v bs) (hv : Vars w) : Calls Tryd.prog 10 #[v] w (TrueIs w) := by
  unfold TrueIs
  obtain ⟨A, c, rfl, _, _⟩ := hs.form
  clear hs
  generalize hn0 : w.heap.size = n0 at *
  have heq := eq32 (List.replicate 32 0) (List.replicate 32 0) rfl rfl
  have hbb : ((List.replicate 32 (0 : UInt8)) == List.replicate 32 0) = true := by simp
  rw [hbb, ← zero32b] at heq
  clear hbb
  have hzl := hashZero_length
  have hz0 : hashZero[0]? = some (.bool false) := rfl
  have hbuilt : Tryd.prog.built 59 [] = some hashZero.toArray := by kernel_rfl
  generalize hashZero = zs at *
  go_enter Tryd.func10, Tryd.ntmps10
  go_wp2_with (refine wpList_build_eq rfl 59 _ rfl zs.toArray (by first | exact hbuilt | (simpa using hbuilt)) ?_)

  go_loopw [4, 9] (fun _ i wr => ∃ k : Nat, k ≤ 2 ∧ i = .int .i64 k ∧ Row wr n0 59 zs ∧ Row wr (n0 + 1) 40 [.pointer none, .pointer (some ⟨n0, 0, none⟩)] ∧ Below n0 w wr) (fun _ i _ => 2 - (intOf i).toNat)
  case atStart => exact ⟨0, by omega, rfl, (Row.new_ hn0.symm rfl).alloc _, Row.new_ (by rw [asz, hn0]) rfl, ((Below.refl n0 w).alloc (by omega) _).alloc (by rw [asz]; omega) _⟩
  case round =>
    obtain ⟨k, hk, rfl, hr0, hr1, hbel⟩ := hrel
    by_cases hlt : k < 2
    · obtain ⟨u, hu, hbad⟩ : ∃ u, wr.cell? ⟨n0 + 1, k, none⟩ = some u ∧ Bad wr u := by
        match k, hlt with
        | 0, _ => exact ⟨_, hr1.cell 0, .inl rfl⟩
        | 1, _ => exact ⟨_, hr1.cell 1, .inr ⟨n0, rfl, hr0.lt, (hr0.cell 0).trans hz0⟩⟩
      have hbad2 : Bad (wr.alloc (.cells #[.slice A bs.length c] 30)) u := hbad.step (Below.alloc (Below.refl _ _) (Nat.le_refl _) _)
      go_wp2_with (first
        | refine wpList_build_eq rfl 33 _ rfl (Lib.byteCells (List.replicate 32 0)).toArray (by kernel_rfl) ?_
        | (go_at_call 21; refine (write_bad u _ _ hbad2).mono ?_; rintro e w' ⟨rfl, rfl⟩)
        | (go_at_call 23; refine (sum_bad u _ hbad2).mono ?_))
      rintro e w5 ⟨rfl, b5⟩
      rw [← zero32b]
      have hbad5 := hbad2.step b5
      have bb : Below wr.heap.size wr w5 := Below.chain (Below.alloc (Below.refl _ _) (Nat.le_refl _) _) b5
      have hr05 := hr0.below bb hr0.lt
      have hr15 := hr1.below bb hr1.lt
      have hbel5 := hbel.trans (bb.mono (Nat.le_of_lt hr0.lt))
      clear bb b5 hbad hbad2 hr0 hr1 hbel hu
      go_wp2_with (first
        | refine wpList_build_eq rfl 33 _ rfl (Lib.byteCells (List.replicate 32 0)).toArray (by kernel_rfl) ?_
        | (go_at_call 24; refine (len_bad u _ hbad5).mono ?_; rintro e w' ⟨rfl, rfl⟩)
        | (go_at_call 22; refine (clone_bad u _ hbad5).mono ?_; rintro e w' ⟨rfl, rfl⟩))
      go_wp2
      go_roundw
      case rel => exact ⟨k + 1, by omega, by go_num, hr05, hr15, hbel5⟩
      case measure => simp [intOf]; omega
    · have hv2 := hv.step (by rw [hn0]; exact hbel)
      have hsz := hbel.size
      go_wp2_with (go_at_call 11; refine (live_any _ hv2).mono ?_)
      rintro e w6 ⟨rfl, b6⟩
      go_wp2
      go_ret
      exact ⟨rfl, hbel.trans (b6.mono (by omega))⟩
end Go.Proofs.YthafhghnciofaaaDoor
