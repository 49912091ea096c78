/-
  WALK: the law KeccakPermutes.
-/
import Derived.Test.YtjondbamnbgiaaaDoorSlow
import Derived.Test.YtjondbamnbgiaaaDoorLive
import Derived.Test.YtjondbamnbgiaaaDoorEq
namespace Go.Proofs.YtjondbamnbgiaaaDoor
open Go.RowKit
set_option maxRecDepth 100000

theorem lanes_beq (xs : List UInt64) : ((xs.map fun b => (b.toNat : Int)) == (xs.map fun b => (b.toNat : Int))) = true := by simp
theorem lanes_ints (l : List UInt64) : laneCells l = (l.map fun b => (b.toNat : Int)).map (Value.int .u64) := by simp [laneCells]
theorem eq25 (xs : List UInt64) (hx : xs.length = 25) (w : World) :
    (Op.equalIn 10000 23 (.agg (laneCells xs).toArray) (.agg (laneCells xs).toArray)).run Tryd.prog w = .ok true w := by
  have hwf : ∀ x ∈ (xs.map fun b => (b.toNat : Int)), (Lit.int .u64 x).wf = true := by
    intro x hx
    simp only [List.mem_map] at hx
    obtain ⟨b, _, rfl⟩ := hx
    have := b.toNat_lt
    simp [Lit.wf, IntKind.min, IntKind.max, IntKind.signed, IntKind.bits]
    omega
  rw [lanes_ints, eq_arr (k := .u64) (n := 25) (e := 22) (by kernel_rfl) Tryd.underlying23 Tryd.underlying22 (by kernel_rfl) (by kernel_rfl) _ _ (by simpa using hx) (by simpa using hx) hwf hwf, lanes_beq]

set_option maxHeartbeats 1000000 in
theorem permutes_walk (l : List UInt64) (hl : l.length = 25) (w : World) (hv : Vars w) :
    Calls Tryd.prog 3 #[.agg (laneCells l).toArray] w (TrueIs w) := by
  unfold TrueIs
  have hpos := hv.pos
  generalize hN : w.heap.size = N at *
  have hrA : Row (w.alloc (.cells (laneCells l).toArray 23)) N 23 (laneCells l) := Row.new_ hN.symm rfl
  have hbA : Below N w (w.alloc (.cells (laneCells l).toArray 23)) := (Below.refl N w).alloc (by omega) _
  have hpl := permL_length l hl
  have hSl := slow_any l hl
  have hPr := refPermute_any l hl
  have hPp := fun u hv => permOk l u hl hv
  obtain ⟨px, HPX⟩ : ∃ x, Shh (x = permL l) := ⟨_, Shh.mk rfl⟩
  rw [← HPX.out] at hpl hSl hPr hPp
  have HEQ := Shh.mk (fun u => eq25 px hpl u)
  go_enter Tryd.func3, Tryd.ntmps3
  go_wp2_with (first
    | refine wpList_load_any rfl 23 (.tmp 1) rfl N rfl 23 (laneCells l) (.array 25 22) hrA Tryd.underlying23 rfl (info_l25.trans (size_lanes _ _ hl)) ?_
    | (go_at_call 11; refine (hSl _).mono ?_))
  rintro e w1 ⟨rfl, b1⟩
  rw [asz, hN] at b1
  replace hrA := hrA.below b1 (by omega)
  replace hbA := hbA.trans (b1.mono (by omega))
  have hv1 := hv.under hbA hpos
  have hNl := hrA.lt
  clear b1 hv
  obtain ⟨nB, hnB⟩ : ∃ n, w1.heap.size = n := ⟨_, rfl⟩
  rw [hnB] at hNl
  have hrB0 : Row (w1.alloc (.cells (laneCells (List.replicate 25 0)).toArray 23)) nB 23 (laneCells (List.replicate 25 0)) := Row.new_ hnB.symm rfl
  go_wp2_with (refine wpList_store_any rfl 23 (.tmp 3) (.tmp 5) rfl nB rfl (laneCells px) rfl 23 _ hrB0 (info_l25.trans (size_lanes _ _ hpl)) (by rw [laneCells_length, laneCells_length, hpl]; rfl) (cell_oneLane _) ?_)
  intro w2 hrB b2 z2
  try simp only [asz] at b2 z2
  replace hrA := b2.row (hrA.alloc _) (by omega) (by omega)
  have hb2 := (hbA.alloc (by omega) _).trans (b2.under (by omega) (by omega))
  have hv2 := (hv1.step ((Below.refl _ w1).alloc (Nat.le_refl _) (.cells (laneCells (List.replicate 25 0)).toArray 23))).under (b2.under (B' := nB) (by omega) (Nat.le_refl _)) (by omega)
  have hBl := hrB.lt
  clear b2 z2 hrB0 hbA hv1 hnB
  replace hrA := hrA.drew
  replace hrB := hrB.drew
  replace hb2 := hb2.drew
  replace hv2 := hv2.drew
  have hz : N ≤ w2.drew.heap.size := by show N ≤ w2.heap.size; omega
  go_wp2
  refine wp_region_held_drew (S := fun w' => w'.rangeAt N 0 (laneCells l) ∧ w'.rangeAt nB 0 (laneCells px)) (by kernel_rfl) ⟨hrA.range, hrB.range⟩ (fun hS => ?_)
  generalize w2.drew = X at *
  refine held_call 0 _ _ (some 6) 12 #[] (by kernel_rfl) (by rfl) (by kernel_rfl) (by first | kernel_rfl | go_simp) ((live_any _ hv2).mono ?_)
  rintro e w3 ⟨rfl, b3⟩
  replace hrA := hrA.below b3 hrA.lt
  replace hrB := hrB.below b3 hrB.lt
  have hb3 := hb2.trans (b3.mono hz)
  have hv3 := hv2.step b3
  have hz3 : N ≤ w3.heap.size := by have := b3.size; omega
  clear b3 hv2 hb2
  have hS3 : w3.rangeAt N 0 (laneCells l) ∧ w3.rangeAt nB 0 (laneCells px) := ⟨hrA.range, hrB.range⟩
  refine ⟨_, rfl, hS3, ?_⟩
  refine held_value 1 _ _ (some 7) (.bool true) (by kernel_rfl) (by rfl) (by kernel_rfl) (fun w _ => by first | kernel_rfl | go_simp) (fun _ _ _ _ h => h) hS3 ?_
  refine held_load 2 23 (.tmp 1) (some 8) (by kernel_rfl) (by kernel_rfl) (by kernel_rfl) N 0 (by kernel_rfl) (laneCells l) (.array 25 22) (fun w h => h.1) Tryd.underlying23 rfl (info_l25.trans (size_lanes _ _ hl)) (fun _ _ _ _ h => h) hS3 ?_
  refine held_load 4 23 (.tmp 3) (some 10) (by kernel_rfl) (by kernel_rfl) (by kernel_rfl) nB 0 (by kernel_rfl) (laneCells px) (.array 25 22) (fun w h => h.2) Tryd.underlying23 rfl (info_l25.trans (size_lanes _ _ hpl)) (fun _ _ _ _ h => h) hS3 ?_
  refine held_call 3 _ _ (some 9) 13 #[.agg (laneCells l).toArray] (by kernel_rfl) (by rfl) (by kernel_rfl) (by first | kernel_rfl | go_simp) ((hPp _ hv3).mono ?_)
  rintro e w4 ⟨rfl, b4⟩
  replace hrA := hrA.below b4 hrA.lt
  replace hrB := hrB.below b4 hrB.lt
  have hb4 := hb3.trans (b4.mono hz3)
  have hz4 : N ≤ w4.heap.size := by have := b4.size; omega
  clear b4 hv3 hb3 hS3
  have hS4 : w4.rangeAt N 0 (laneCells l) ∧ w4.rangeAt nB 0 (laneCells px) := ⟨hrA.range, hrB.range⟩
  refine ⟨_, rfl, hS4, ?_⟩
  refine held_value 5 (.binOp .eql 23 (.tmp 9) (.tmp 10) 23) 4 (some 11) (.bool true) (by kernel_rfl) (by rfl) (by kernel_rfl) (fun w _ => run_eql_agg (P := Tryd.prog) (p := (laneCells px).toArray) (q := (laneCells px).toArray) (by kernel_rfl) (HEQ.out w) (by kernel_rfl) (by kernel_rfl)) (fun _ _ _ _ h => h) hS4 ?_
  refine held_value 6 _ _ (some 12) (.bool true) (by kernel_rfl) (by rfl) (by kernel_rfl) (fun w _ => by first | kernel_rfl | go_simp) (fun _ _ _ _ h => h) hS4 ?_
  refine held_value 7 _ _ (some 13) (.bool true) (by kernel_rfl) (by rfl) (by kernel_rfl) (fun w _ => by first | kernel_rfl | go_simp) (fun _ _ _ _ h => h) hS4 ?_
  refine held_load 8 23 (.tmp 1) (some 14) (by kernel_rfl) (by kernel_rfl) (by kernel_rfl) N 0 (by kernel_rfl) (laneCells l) (.array 25 22) (fun w h => h.1) Tryd.underlying23 rfl (info_l25.trans (size_lanes _ _ hl)) (fun _ _ _ _ h => h) hS4 ?_
  refine held_load 10 23 (.tmp 3) (some 16) (by kernel_rfl) (by kernel_rfl) (by kernel_rfl) nB 0 (by kernel_rfl) (laneCells px) (.array 25 22) (fun w h => h.2) Tryd.underlying23 rfl (info_l25.trans (size_lanes _ _ hpl)) (fun _ _ _ _ h => h) hS4 ?_
  refine held_call 9 _ _ (some 15) 14 #[.agg (laneCells l).toArray] (by kernel_rfl) (by rfl) (by kernel_rfl) (by first | kernel_rfl | go_simp) ((hPr _).mono ?_)
  rintro e w5 ⟨rfl, b5⟩
  replace hrA := hrA.below b5 hrA.lt
  replace hrB := hrB.below b5 hrB.lt
  have hb5 := hb4.trans (b5.mono hz4)
  clear b5 hb4 hS4
  have hS5 : w5.rangeAt N 0 (laneCells l) ∧ w5.rangeAt nB 0 (laneCells px) := ⟨hrA.range, hrB.range⟩
  refine ⟨_, rfl, hS5, ?_⟩
  refine held_value 11 (.binOp .eql 23 (.tmp 15) (.tmp 16) 23) 4 (some 17) (.bool true) (by kernel_rfl) (by rfl) (by kernel_rfl) (fun w _ => run_eql_agg (P := Tryd.prog) (p := (laneCells px).toArray) (q := (laneCells px).toArray) (by kernel_rfl) (HEQ.out w) (by kernel_rfl) (by kernel_rfl)) (fun _ _ _ _ h => h) hS5 ?_
  refine held_value 12 _ _ (some 18) (.bool true) (by kernel_rfl) (by rfl) (by kernel_rfl) (fun w _ => by first | kernel_rfl | go_simp) (fun _ _ _ _ h => h) hS5 ?_
  refine held_value 13 _ _ (some 2) (.bool true) (by kernel_rfl) (by rfl) (by kernel_rfl) (fun w _ => by first | kernel_rfl | go_simp) (fun _ _ _ _ h => h) hS5 ?_
  refine wpAnyH_done (by kernel_rfl) ?_ _
  simp only [Act.put, List.setIfInBounds_toArray, List.set_cons_zero, List.set_cons_succ]
  go_wp2
  go_ret
  exact ⟨rfl, hb5⟩
end Go.Proofs.YtjondbamnbgiaaaDoor
