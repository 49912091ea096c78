/-
 THE DOCUMENT'S PRODUCT, number by number.
-/
import Derived.Test.YtapjiknedghhfaaDq5
import Derived.Test.YtapjiknedghhfaaDd5
namespace Go.Proofs.Ytapjiknedghhfaa
open Go.RowKit
set_option maxRecDepth 100000
theorem smD_32 (a b : Nat → Int) (i k m : Nat) : -9223372036854775808 ≤ smD a b i k m ∧ smD a b i k m ≤ 9223372036854775807 := by have := smD_lt a b i k m; omega
set_option maxHeartbeats 8000000 in
theorem refMul_any (p p2 : Nat → Int) (hp : ∀ i, i < 256 → i32 (p i)) (hp2 : ∀ i, i < 256 → i32 (p2 i)) (w : World) : Calls Try.prog 23 #[polyD p, polyD p2] w (DPolyIs w (mulD p p2)) := by
 unfold DPolyIs polyD
 have HR1 : Shh (∀ W, Calls Try.prog 13 #[.agg (dc p).toArray] W (DPolyIs W (redD p))) := ⟨fun W => refReduce_any p hp W⟩
 have HR2 : Shh (∀ W, Calls Try.prog 13 #[.agg (dc p2).toArray] W (DPolyIs W (redD p2))) := ⟨fun W => refReduce_any p2 hp2 W⟩
 have HFN : Shh (∀ k, mulD p p2 k = qd (smD (redD p) (redD p2) 256 0 k - smD (redD p) (redD p2) 256 0 (k + 256)) ∧ i32 (mulD p p2 k)) := ⟨fun k => ⟨mul_sums p p2 k, qd_32 _⟩⟩
 have HR : Shh (∀ k, (0 ≤ redD p k ∧ redD p k < 8380417) ∧ 0 ≤ redD p2 k ∧ redD p2 k < 8380417) := ⟨fun k => ⟨qd_lt _, qd_lt _⟩⟩
 clear hp hp2
 generalize mulD p p2 = fin at *
 generalize redD p = r1 at *
 generalize redD p2 = r2 at *
 generalize hN : w.heap.size = N at *
 have FA : Shh (Row (((w.alloc (.cells (dc p).toArray 23)).alloc (.cells (dc p2).toArray 23)).alloc (.cells (dc fun _ => 0).toArray 23)) N 23 (dc p) ∧ Row (((w.alloc (.cells (dc p).toArray 23)).alloc (.cells (dc p2).toArray 23)).alloc (.cells (dc fun _ => 0).toArray 23)) (N + 1) 23 (dc p2) ∧ Row (((w.alloc (.cells (dc p).toArray 23)).alloc (.cells (dc p2).toArray 23)).alloc (.cells (dc fun _ => 0).toArray 23)) (N + 2) 23 (dc fun _ => 0) ∧ Below N w (((w.alloc (.cells (dc p).toArray 23)).alloc (.cells (dc p2).toArray 23)).alloc (.cells (dc fun _ => 0).toArray 23))) := by
  refine ⟨(((Row.new_ hN.symm rfl).alloc _).alloc _), ((Row.new_ (by rw [asz, hN]) rfl).alloc _), (Row.new_ (by rw [asz, asz, hN]) rfl), ?_⟩
  rw [← hN]
  exact Below.chain (Below.chain (belA _ _) (belA _ _)) (belA _ _)
 go_enter Try.func23, Try.ntmps23
 obtain ⟨W, hW⟩ : ∃ W, W = (((w.alloc (.cells (dc p).toArray 23)).alloc (.cells (dc p2).toArray 23)).alloc (.cells (dc fun _ => 0).toArray 23)) := ⟨_, rfl⟩
 have FB : Shh (Row W N 23 (dc p) ∧ Row W (N + 1) 23 (dc p2) ∧ Row W (N + 2) 23 (dc fun _ => 0) ∧ Below N w W) := by rw [hW]; exact FA
 clear FA
 go_wp2_with (refine wl_allocD rfl rfl ?_)
 try simp only [asz, hN]
 rw [← hW]
 clear hW
 try simp only [Act.put, arr9, hd9, tl9]
 refine wp_region_held_drew (S := fun w' => True) (by kernel_rfl) trivial (fun hS => ?_)
 clear hS
 obtain ⟨X1, hX1⟩ : ∃ V, V = World.drew W := ⟨_, rfl⟩
 rw [← hX1]
 have FC : Shh (Row X1 N 23 (dc p) ∧ Row X1 (N + 1) 23 (dc p2) ∧ Row X1 (N + 2) 23 (dc fun _ => 0) ∧ Below N w X1) := by
  obtain ⟨h0, h1, h2, h3⟩ := FB.out
  rw [hX1]
  exact ⟨h0.drew, h1.drew, h2.drew, h3.drew⟩
 clear hX1 FB
 refine share (T := ?T2) (fun hT => ?gg2) ?tt2
 case gg2 =>
  have FY := FC
  refine held_two 0 2 (by kernel_rfl) ?_ ?_
  ·refine step_value 0 _ _ (some 10) (.agg (dc p).toArray) X1 (by rfl) (by kernel_rfl) (run_loadRowD (g := N) (by kernel_rfl) FY.out.1 Try.underlying23 rfl (info_dD.trans (size_dc _))) trivial ?_
   simp only [Act.put, arr9, hd9, tl9]
   refine held_two 1 2 (by kernel_rfl) ?_ ?_
   ·refine step_call 1 _ _ (some 11) 13 #[.agg (dc p).toArray] (by rfl) (by kernel_rfl) (by first | kernel_rfl | go_simp) ?_
    refine (HR1.out X1).mono ?_
    rintro e w4 ⟨rfl, b3⟩
    have FZ : Shh (Row w4 N 23 (dc p) ∧ Row w4 (N + 1) 23 (dc p2) ∧ Row w4 (N + 2) 23 (dc fun _ => 0) ∧ Below N w w4) := by
     obtain ⟨h0, h1, h2, h3⟩ := FY.out
     have := h0.lt
     have := h1.lt
     have := h2.lt
     have := b3.size
     exact ⟨h0.go b3, h1.go b3, h2.go b3, h3.trans (b3.mono (by omega))⟩
    clear b3 FY
    refine ⟨_, rfl, trivial, ?_⟩
    simp only [Act.put, arr9, hd9, tl9]
    refine held_one 2 (by kernel_rfl) ?_
    refine step_value 2 _ _ (some 12) (.agg (dc p2).toArray) w4 (by rfl) (by kernel_rfl) (run_loadRowD (g := (N + 1)) (by kernel_rfl) FZ.out.2.1 Try.underlying23 rfl (info_dD.trans (size_dc _))) trivial ?_
    simp only [Act.put, arr9, hd9, tl9]
    refine held_one 3 (by kernel_rfl) ?_
    refine step_call 3 _ _ (some 13) 13 #[.agg (dc p2).toArray] (by rfl) (by kernel_rfl) (by first | kernel_rfl | go_simp) ?_
    refine (HR2.out w4).mono ?_
    rintro e w6 ⟨rfl, b5⟩
    have FA : Shh (Row w6 N 23 (dc p) ∧ Row w6 (N + 1) 23 (dc p2) ∧ Row w6 (N + 2) 23 (dc fun _ => 0) ∧ Below N w w6) := by
     obtain ⟨h0, h1, h2, h3⟩ := FZ.out
     have := h0.lt
     have := h1.lt
     have := h2.lt
     have := b5.size
     exact ⟨h0.go b5, h1.go b5, h2.go b5, h3.trans (b5.mono (by omega))⟩
    clear b5 FZ
    refine ⟨_, rfl, trivial, ?_⟩
    simp only [Act.put, arr9, hd9, tl9]
    refine held_one 4 (by kernel_rfl) ?_
    refine step_storeRow 4 23 (.tmp 2) (.tmp 11) (by rfl) (by kernel_rfl) N (by kernel_rfl) (dc r1) (by kernel_rfl) 23 _ FA.out.1 (info_dD.trans (size_dc _)) (same_dc _ _) (dc_one _) ?_
    intro w8 r9 bt7 zbt7
    have FB : Shh (Row w8 N 23 (dc r1) ∧ Row w8 (N + 1) 23 (dc p2) ∧ Row w8 (N + 2) 23 (dc fun _ => 0) ∧ Below N w w8) := by
     obtain ⟨h0, h1, h2, h3⟩ := FA.out
     have := h0.lt
     have := h1.lt
     have := h2.lt
     have hb := bt7.under (Nat.le_of_lt h0.lt) (Nat.le_refl _)
     have := hb.size
     exact ⟨r9, bt7.row h1 h1.lt (by omega), bt7.row h2 h2.lt (by omega), h3.trans (hb.mono (by omega))⟩
    clear bt7 FA r9 zbt7
    refine ⟨trivial, ?_⟩
    refine held_one 5 (by kernel_rfl) ?_
    refine step_storeRow 5 23 (.tmp 3) (.tmp 13) (by rfl) (by kernel_rfl) (N + 1) (by kernel_rfl) (dc r2) (by kernel_rfl) 23 _ FB.out.2.1 (info_dD.trans (size_dc _)) (same_dc _ _) (dc_one _) ?_
    intro w11 r12 bt10 zbt10
    have FC : Shh (Row w11 N 23 (dc r1) ∧ Row w11 (N + 1) 23 (dc r2) ∧ Row w11 (N + 2) 23 (dc fun _ => 0) ∧ Below N w w11) := by
     obtain ⟨h0, h1, h2, h3⟩ := FB.out
     have := h0.lt
     have := h1.lt
     have := h2.lt
     have hb := bt10.under (Nat.le_of_lt h1.lt) (Nat.le_refl _)
     have := hb.size
     exact ⟨bt10.row h0 h0.lt (by omega), r12, bt10.row h2 h2.lt (by omega), h3.trans (hb.mono (by omega))⟩
    clear bt10 FB r12 zbt10
    refine ⟨trivial, ?_⟩
    refine wpAnyH_done (by kernel_rfl) ?_ _
    have HZ := FC
    clear FC
    revert HZ
    revert w11
    exact hT.out
   ·refine step_value 2 _ _ (some 12) (.agg (dc p2).toArray) X1 (by rfl) (by kernel_rfl) (run_loadRowD (g := (N + 1)) (by kernel_rfl) FY.out.2.1 Try.underlying23 rfl (info_dD.trans (size_dc _))) trivial ?_
    simp only [Act.put, arr9, hd9, tl9]
    refine held_one 1 (by kernel_rfl) ?_
    refine step_call 1 _ _ (some 11) 13 #[.agg (dc p).toArray] (by rfl) (by kernel_rfl) (by first | kernel_rfl | go_simp) ?_
    refine (HR1.out X1).mono ?_
    rintro e w4 ⟨rfl, b3⟩
    have FZ : Shh (Row w4 N 23 (dc p) ∧ Row w4 (N + 1) 23 (dc p2) ∧ Row w4 (N + 2) 23 (dc fun _ => 0) ∧ Below N w w4) := by
     obtain ⟨h0, h1, h2, h3⟩ := FY.out
     have := h0.lt
     have := h1.lt
     have := h2.lt
     have := b3.size
     exact ⟨h0.go b3, h1.go b3, h2.go b3, h3.trans (b3.mono (by omega))⟩
    clear b3 FY
    refine ⟨_, rfl, trivial, ?_⟩
    simp only [Act.put, arr9, hd9, tl9]
    refine held_one 3 (by kernel_rfl) ?_
    refine step_call 3 _ _ (some 13) 13 #[.agg (dc p2).toArray] (by rfl) (by kernel_rfl) (by first | kernel_rfl | go_simp) ?_
    refine (HR2.out w4).mono ?_
    rintro e w6 ⟨rfl, b5⟩
    have FA : Shh (Row w6 N 23 (dc p) ∧ Row w6 (N + 1) 23 (dc p2) ∧ Row w6 (N + 2) 23 (dc fun _ => 0) ∧ Below N w w6) := by
     obtain ⟨h0, h1, h2, h3⟩ := FZ.out
     have := h0.lt
     have := h1.lt
     have := h2.lt
     have := b5.size
     exact ⟨h0.go b5, h1.go b5, h2.go b5, h3.trans (b5.mono (by omega))⟩
    clear b5 FZ
    refine ⟨_, rfl, trivial, ?_⟩
    simp only [Act.put, arr9, hd9, tl9]
    refine held_one 4 (by kernel_rfl) ?_
    refine step_storeRow 4 23 (.tmp 2) (.tmp 11) (by rfl) (by kernel_rfl) N (by kernel_rfl) (dc r1) (by kernel_rfl) 23 _ FA.out.1 (info_dD.trans (size_dc _)) (same_dc _ _) (dc_one _) ?_
    intro w8 r9 bt7 zbt7
    have FB : Shh (Row w8 N 23 (dc r1) ∧ Row w8 (N + 1) 23 (dc p2) ∧ Row w8 (N + 2) 23 (dc fun _ => 0) ∧ Below N w w8) := by
     obtain ⟨h0, h1, h2, h3⟩ := FA.out
     have := h0.lt
     have := h1.lt
     have := h2.lt
     have hb := bt7.under (Nat.le_of_lt h0.lt) (Nat.le_refl _)
     have := hb.size
     exact ⟨r9, bt7.row h1 h1.lt (by omega), bt7.row h2 h2.lt (by omega), h3.trans (hb.mono (by omega))⟩
    clear bt7 FA r9 zbt7
    refine ⟨trivial, ?_⟩
    refine held_one 5 (by kernel_rfl) ?_
    refine step_storeRow 5 23 (.tmp 3) (.tmp 13) (by rfl) (by kernel_rfl) (N + 1) (by kernel_rfl) (dc r2) (by kernel_rfl) 23 _ FB.out.2.1 (info_dD.trans (size_dc _)) (same_dc _ _) (dc_one _) ?_
    intro w11 r12 bt10 zbt10
    have FC : Shh (Row w11 N 23 (dc r1) ∧ Row w11 (N + 1) 23 (dc r2) ∧ Row w11 (N + 2) 23 (dc fun _ => 0) ∧ Below N w w11) := by
     obtain ⟨h0, h1, h2, h3⟩ := FB.out
     have := h0.lt
     have := h1.lt
     have := h2.lt
     have hb := bt10.under (Nat.le_of_lt h1.lt) (Nat.le_refl _)
     have := hb.size
     exact ⟨bt10.row h0 h0.lt (by omega), r12, bt10.row h2 h2.lt (by omega), h3.trans (hb.mono (by omega))⟩
    clear bt10 FB r12 zbt10
    refine ⟨trivial, ?_⟩
    refine wpAnyH_done (by kernel_rfl) ?_ _
    have HZ := FC
    clear FC
    revert HZ
    revert w11
    exact hT.out
  ·refine step_value 2 _ _ (some 12) (.agg (dc p2).toArray) X1 (by rfl) (by kernel_rfl) (run_loadRowD (g := (N + 1)) (by kernel_rfl) FY.out.2.1 Try.underlying23 rfl (info_dD.trans (size_dc _))) trivial ?_
   simp only [Act.put, arr9, hd9, tl9]
   refine held_one 0 (by kernel_rfl) ?_
   refine step_value 0 _ _ (some 10) (.agg (dc p).toArray) X1 (by rfl) (by kernel_rfl) (run_loadRowD (g := N) (by kernel_rfl) FY.out.1 Try.underlying23 rfl (info_dD.trans (size_dc _))) trivial ?_
   simp only [Act.put, arr9, hd9, tl9]
   refine held_one 1 (by kernel_rfl) ?_
   refine step_call 1 _ _ (some 11) 13 #[.agg (dc p).toArray] (by rfl) (by kernel_rfl) (by first | kernel_rfl | go_simp) ?_
   refine (HR1.out X1).mono ?_
   rintro e w4 ⟨rfl, b3⟩
   have FZ : Shh (Row w4 N 23 (dc p) ∧ Row w4 (N + 1) 23 (dc p2) ∧ Row w4 (N + 2) 23 (dc fun _ => 0) ∧ Below N w w4) := by
    obtain ⟨h0, h1, h2, h3⟩ := FY.out
    have := h0.lt
    have := h1.lt
    have := h2.lt
    have := b3.size
    exact ⟨h0.go b3, h1.go b3, h2.go b3, h3.trans (b3.mono (by omega))⟩
   clear b3 FY
   refine ⟨_, rfl, trivial, ?_⟩
   simp only [Act.put, arr9, hd9, tl9]
   refine held_one 3 (by kernel_rfl) ?_
   refine step_call 3 _ _ (some 13) 13 #[.agg (dc p2).toArray] (by rfl) (by kernel_rfl) (by first | kernel_rfl | go_simp) ?_
   refine (HR2.out w4).mono ?_
   rintro e w6 ⟨rfl, b5⟩
   have FA : Shh (Row w6 N 23 (dc p) ∧ Row w6 (N + 1) 23 (dc p2) ∧ Row w6 (N + 2) 23 (dc fun _ => 0) ∧ Below N w w6) := by
    obtain ⟨h0, h1, h2, h3⟩ := FZ.out
    have := h0.lt
    have := h1.lt
    have := h2.lt
    have := b5.size
    exact ⟨h0.go b5, h1.go b5, h2.go b5, h3.trans (b5.mono (by omega))⟩
   clear b5 FZ
   refine ⟨_, rfl, trivial, ?_⟩
   simp only [Act.put, arr9, hd9, tl9]
   refine held_one 4 (by kernel_rfl) ?_
   refine step_storeRow 4 23 (.tmp 2) (.tmp 11) (by rfl) (by kernel_rfl) N (by kernel_rfl) (dc r1) (by kernel_rfl) 23 _ FA.out.1 (info_dD.trans (size_dc _)) (same_dc _ _) (dc_one _) ?_
   intro w8 r9 bt7 zbt7
   have FB : Shh (Row w8 N 23 (dc r1) ∧ Row w8 (N + 1) 23 (dc p2) ∧ Row w8 (N + 2) 23 (dc fun _ => 0) ∧ Below N w w8) := by
    obtain ⟨h0, h1, h2, h3⟩ := FA.out
    have := h0.lt
    have := h1.lt
    have := h2.lt
    have hb := bt7.under (Nat.le_of_lt h0.lt) (Nat.le_refl _)
    have := hb.size
    exact ⟨r9, bt7.row h1 h1.lt (by omega), bt7.row h2 h2.lt (by omega), h3.trans (hb.mono (by omega))⟩
   clear bt7 FA r9 zbt7
   refine ⟨trivial, ?_⟩
   refine held_one 5 (by kernel_rfl) ?_
   refine step_storeRow 5 23 (.tmp 3) (.tmp 13) (by rfl) (by kernel_rfl) (N + 1) (by kernel_rfl) (dc r2) (by kernel_rfl) 23 _ FB.out.2.1 (info_dD.trans (size_dc _)) (same_dc _ _) (dc_one _) ?_
   intro w11 r12 bt10 zbt10
   have FC : Shh (Row w11 N 23 (dc r1) ∧ Row w11 (N + 1) 23 (dc r2) ∧ Row w11 (N + 2) 23 (dc fun _ => 0) ∧ Below N w w11) := by
    obtain ⟨h0, h1, h2, h3⟩ := FB.out
    have := h0.lt
    have := h1.lt
    have := h2.lt
    have hb := bt10.under (Nat.le_of_lt h1.lt) (Nat.le_refl _)
    have := hb.size
    exact ⟨bt10.row h0 h0.lt (by omega), r12, bt10.row h2 h2.lt (by omega), h3.trans (hb.mono (by omega))⟩
   clear bt10 FB r12 zbt10
   refine ⟨trivial, ?_⟩
   refine wpAnyH_done (by kernel_rfl) ?_ _
   have HZ := FC
   clear FC
   revert HZ
   revert w11
   exact hT.out
 case tt2 =>
  clear FC
  intro Z HZ
  clear HR1 HR2
  go_wp2_with (refine wl_newzL 5 rfl rfl rfl ?_)
  intro G5 w4 hG5 r5 b3
  try simp only [Act.put, arr9, hd9, tl9]
  have HA : Shh (Row w4 N 23 (dc r1) ∧ Row w4 (N + 1) 23 (dc r2) ∧ Row w4 (N + 2) 23 (dc fun _ => 0) ∧ Below N w w4 ∧ Row w4 G5 51 (lc fun _ => 0) ∧ N + 2 < G5) := by
   obtain ⟨h0, h1, h2, h3⟩ := HZ.out
   have := h0.lt
   have := h1.lt
   have := h2.lt
   have := b3.size
   have := hG5.out
   exact ⟨h0.go b3, h1.go b3, h2.go b3, h3.trans (b3.mono (by omega)), r5, (by omega)⟩
  clear b3 HZ r5 hG5
  go_wp2
  go_loopw [14] (fun i wr => ∃ k : Nat, k ≤ 256 ∧ i = .int .i64 (k : Int) ∧ Shh (Row wr N 23 (dc r1) ∧ Row wr (N + 1) 23 (dc r2) ∧ Row wr (N + 2) 23 (dc fun _ => 0) ∧ Below N w wr ∧ Row wr G5 51 (lc (smD r1 r2 k 0)) ∧ N + 2 < G5)) (fun i _ => 256 - (intOf i).toNat)
  case atStart => exact ⟨0, Nat.zero_le _, rfl, ⟨by rw [smD_zero]; exact HA.out⟩⟩
  case round =>
   clear HA
   obtain ⟨i, hi, rfl, HI⟩ := hrel
   by_cases hit : i < 256
   ·have hit2 : (i : Int) < 256 := by omega
    have HG1 := Shh.mk (dc_get r1 hit)
    have HSK := Shh.mk (smD_skip r1 r2 i)
    have HRI := (HR.out i).1
    have HSR := Shh.mk (smD_row r1 r2 i)
    have HNX := Shh.mk (fun k => smD_next r1 r2 i k)
    generalize r1 i = x at *
    have HL := Shh.mk ((HI.out.1.cell i).trans HG1.out)
    by_cases hz : x = 0
    ·have HX := Shh.mk (HSK.out hz)
     have HEQ : Shh ((x == 0) = true) := ⟨by simpa using hz⟩
     clear hz HSK HNX HSR HRI
     go_wp2_with (first | refine wl_at 18 rfl (.pointer (some ⟨N, i, none⟩)) rfl (at_dD hit rfl rfl rfl) ?_ | refine wl_at 19 rfl (.int .i32 x) rfl (load_d rfl HL.out rfl) ?_ | refine wl_at 20 rfl (.bool true) rfl (eql_d true HEQ.out rfl rfl rfl) ?_)
     have HJ : Shh (Row wr N 23 (dc r1) ∧ Row wr (N + 1) 23 (dc r2) ∧ Row wr (N + 2) 23 (dc fun _ => 0) ∧ Below N w wr ∧ Row wr G5 51 (lc (smD r1 r2 (i + 1) 0)) ∧ N + 2 < G5) := by
      have h := HI.out
      rw [HX.out] at h
      exact ⟨h⟩
     clear HI
     clear HL
     go_roundw
     case rel => exact ⟨i + 1, by omega, by go_num, HJ⟩
     case measure => simp [intOf]; omega
    ·have HEQ : Shh ((x == 0) = false) := ⟨by simpa using hz⟩
     clear hz HSK
     go_wp2_with (first | refine wl_at 18 rfl (.pointer (some ⟨N, i, none⟩)) rfl (at_dD hit rfl rfl rfl) ?_ | refine wl_at 19 rfl (.int .i32 x) rfl (load_d rfl HL.out rfl) ?_ | refine wl_at 20 rfl (.bool false) rfl (eql_d false HEQ.out rfl rfl rfl) ?_)
     clear HL
     go_loopw [21] (fun c wr => ∃ k : Nat, k ≤ 256 ∧ c = .int .i64 (k : Int) ∧ Shh (Row wr N 23 (dc r1) ∧ Row wr (N + 1) 23 (dc r2) ∧ Row wr (N + 2) 23 (dc fun _ => 0) ∧ Below N w wr ∧ Row wr G5 51 (lc (smD r1 r2 i k)) ∧ N + 2 < G5)) (fun c _ => 256 - (intOf c).toNat)
     case atStart => exact ⟨0, Nat.zero_le _, rfl, HI⟩
     case round =>
      clear HI
      obtain ⟨k, hk, rfl, HI⟩ := hrel
      by_cases hkt : k < 256
      ·have hkt2 : (k : Int) < 256 := by omega
       have HG2 := Shh.mk (dc_get r2 hkt)
       obtain ⟨m, hm, Hm⟩ : ∃ m : Nat, m = i + k ∧ Shh ((m : Int) = (i : Int) + (k : Int) ∧ -9223372036854775808 ≤ (m : Int) ∧ (m : Int) ≤ 9223372036854775807) := ⟨_, rfl, ⟨by omega, by omega, by omega⟩⟩
       have hm2 : m < 512 := by omega
       have HN1 := Shh.mk (HNX.out k)
       have HGS := Shh.mk (lc_get (smD r1 r2 i k) hm2)
       have hs := smD_lt r1 r2 i k m
       have HY := (HR.out k).2
       rw [← hm] at HN1
       clear hm
       generalize smD r1 r2 i k m = sv at *
       generalize r2 k = y at *
       obtain ⟨pr, Hpr⟩ : ∃ v, Shh (v = x * y ∧ -9223372036854775808 ≤ v ∧ v ≤ 9223372036854775807) := ⟨_, ⟨rfl, by have := Int.mul_nonneg HRI.1 HY.1; omega, by have : x * y ≤ 8380417 * 8380417 := Int.mul_le_mul (by omega) (by omega) HY.1 (by decide); omega⟩⟩
       have hpr : 0 ≤ pr ∧ pr ≤ 70231389093889 := by rw [Hpr.out.1]; exact ⟨Int.mul_nonneg HRI.1 HY.1, by have h : x * y ≤ 8380417 * 8380417 := Int.mul_le_mul (by omega) (by omega) HY.1 (by decide); omega⟩
       obtain ⟨ad, Had⟩ : ∃ v, Shh (v = sv + pr ∧ -9223372036854775808 ≤ v ∧ v ≤ 9223372036854775807) := ⟨_, ⟨rfl, by omega, by omega⟩⟩
       have HRM : Shh (qd (sv + x * y) = ad.tmod 8380417 ∧ -9223372036854775808 ≤ (qd (sv + x * y)) ∧ (qd (sv + x * y)) ≤ 9223372036854775807) := by
        have h2 := qd_lt (sv + x * y)
        refine ⟨⟨?_, by omega, by omega⟩⟩
        rw [← Hpr.out.1, ← Had.out.1, Int.tmod_eq_emod_of_nonneg (by have := Had.out.1; omega)]
        rfl
       generalize qd (sv + x * y) = rm at *
       have H32 : Shh (i32 x ∧ i32 y) := ⟨by unfold i32; omega⟩
       clear hs HY hpr
       go_wp2
       refine wp_region_held_drew (S := fun w' => Row w' N 23 (dc r1) ∧ Row w' (N + 1) 23 (dc r2)) (by kernel_rfl) ⟨HI.out.1.drew, HI.out.2.1.drew⟩ (fun hS => ?_)
       clear hS
       obtain ⟨X6, hX6⟩ : ∃ V, V = World.drew wr := ⟨_, rfl⟩
       rw [← hX6]
       have HJ : Shh (Row X6 N 23 (dc r1) ∧ Row X6 (N + 1) 23 (dc r2) ∧ Row X6 (N + 2) 23 (dc fun _ => 0) ∧ Below N w X6 ∧ Row X6 G5 51 (lc (smD r1 r2 i k)) ∧ N + 2 < G5) := by
        obtain ⟨h0, h1, h2, h3, h4, h5⟩ := HI.out
        rw [hX6]
        exact ⟨h0.drew, h1.drew, h2.drew, h3.drew, h4.drew, h5⟩
       clear hX6 HI
       refine hdv0 0 24 (.int .i64 (i : Int)) (by rfl) ⟨HJ.out.1, HJ.out.2.1⟩ ?_
       refine hdv0 1 25 (.int .i64 (k : Int)) (by rfl) ⟨HJ.out.1, HJ.out.2.1⟩ ?_
       refine hdv 2 26 (.int .i64 (m : Int)) (by rfl) (fun w hS => add_n Hm.out rfl (by kernel_rfl) (by kernel_rfl)) ⟨HJ.out.1, HJ.out.2.1⟩ ?_
       refine hdv0 3 27 (.int .i64 (i : Int)) (by rfl) ⟨HJ.out.1, HJ.out.2.1⟩ ?_
       refine hdv0 4 28 (.int .i64 (k : Int)) (by rfl) ⟨HJ.out.1, HJ.out.2.1⟩ ?_
       refine hdv 5 29 (.int .i64 (m : Int)) (by rfl) (fun w hS => add_n Hm.out rfl (by kernel_rfl) (by kernel_rfl)) ⟨HJ.out.1, HJ.out.2.1⟩ ?_
       refine hdv 6 30 (.pointer (some ⟨G5, m, none⟩)) (by rfl) (fun w hS => at_dL hm2 rfl (by kernel_rfl) (by kernel_rfl)) ⟨HJ.out.1, HJ.out.2.1⟩ ?_
       refine hdv0 8 32 (.int .i64 (i : Int)) (by rfl) ⟨HJ.out.1, HJ.out.2.1⟩ ?_
       refine hdv 9 33 (.pointer (some ⟨N, i, none⟩)) (by rfl) (fun w hS => at_dD hit rfl (by kernel_rfl) (by kernel_rfl)) ⟨HJ.out.1, HJ.out.2.1⟩ ?_
       refine hdv 10 34 (.int .i32 x) (by rfl) (fun w hS => load_d rfl ((hS.1.cell i).trans HG1.out) (by kernel_rfl)) ⟨HJ.out.1, HJ.out.2.1⟩ ?_
       refine hdv 11 35 (.int .i64 x) (by rfl) (fun w hS => conv_dl H32.out.1 rfl (by kernel_rfl)) ⟨HJ.out.1, HJ.out.2.1⟩ ?_
       refine hdv0 12 36 (.int .i64 (k : Int)) (by rfl) ⟨HJ.out.1, HJ.out.2.1⟩ ?_
       refine hdv 13 37 (.pointer (some ⟨(N + 1), k, none⟩)) (by rfl) (fun w hS => at_dD hkt rfl (by kernel_rfl) (by kernel_rfl)) ⟨HJ.out.1, HJ.out.2.1⟩ ?_
       refine hdv 14 38 (.int .i32 y) (by rfl) (fun w hS => load_d rfl ((hS.2.cell k).trans HG2.out) (by kernel_rfl)) ⟨HJ.out.1, HJ.out.2.1⟩ ?_
       refine hdv 15 39 (.int .i64 y) (by rfl) (fun w hS => conv_dl H32.out.2 rfl (by kernel_rfl)) ⟨HJ.out.1, HJ.out.2.1⟩ ?_
       refine hdv 16 40 (.int .i64 pr) (by rfl) (fun w hS => mul_l Hpr.out rfl (by kernel_rfl) (by kernel_rfl)) ⟨HJ.out.1, HJ.out.2.1⟩ ?_
       refine held_one 7 (by kernel_rfl) ?_
       refine step_value 7 _ _ (some 31) (.int .i64 sv) X6 (by rfl) (by kernel_rfl) (load_l rfl ((HJ.out.2.2.2.2.1.cell m).trans HGS.out) (by kernel_rfl)) ⟨HJ.out.1, HJ.out.2.1⟩ ?_
       simp only [Act.put, arr9, hd9, tl9]
       refine hdv 17 41 (.int .i64 ad) (by rfl) (fun w hS => add_l Had.out rfl (by kernel_rfl) (by kernel_rfl)) ⟨HJ.out.1, HJ.out.2.1⟩ ?_
       refine hdv 18 42 (.int .i64 rm) (by rfl) (fun w hS => rem_l HRM.out (by decide) rfl (by kernel_rfl) (by kernel_rfl)) ⟨HJ.out.1, HJ.out.2.1⟩ ?_
       refine hdv 19 43 (.pointer (some ⟨G5, m, none⟩)) (by rfl) (fun w hS => at_dL hm2 rfl (by kernel_rfl) (by kernel_rfl)) ⟨HJ.out.1, HJ.out.2.1⟩ ?_
       refine held_one 20 (by kernel_rfl) ?_
       refine step_storeL 20 (v := rm) (by rfl) (by kernel_rfl) hm2 HJ.out.2.2.2.2.1 (by kernel_rfl) (by kernel_rfl) ?_
       intro w8 r9 bt7 zbt7
       have HK : Shh (Row w8 N 23 (dc r1) ∧ Row w8 (N + 1) 23 (dc r2) ∧ Row w8 (N + 2) 23 (dc fun _ => 0) ∧ Below N w w8 ∧ Row w8 G5 51 (lc (smD r1 r2 i (k + 1))) ∧ N + 2 < G5) := by
        obtain ⟨h0, h1, h2, h3, h4, h5⟩ := HJ.out
        have := h0.lt
        have := h1.lt
        have := h2.lt
        have := h4.lt
        have hb := bt7.under (Nat.le_of_lt h4.lt) (Nat.le_refl _)
        have := hb.size
        rw [HN1.out] at r9
        exact ⟨bt7.row h0 h0.lt (by omega), bt7.row h1 h1.lt (by omega), bt7.row h2 h2.lt (by omega), h3.trans (hb.mono (by omega)), r9, h5⟩
       clear bt7 HJ r9 zbt7
       refine ⟨⟨HK.out.1, HK.out.2.1⟩, ?_⟩
       refine wpAnyH_done (by kernel_rfl) ?_ _
       go_wp2
       go_roundw
       case rel => exact ⟨k + 1, by omega, by go_num, HK⟩
       case measure => simp [intOf]; omega
      ·have hkt2 : ¬ (k : Int) < 256 := by omega
       have HJ : Shh (Row wr N 23 (dc r1) ∧ Row wr (N + 1) 23 (dc r2) ∧ Row wr (N + 2) 23 (dc fun _ => 0) ∧ Below N w wr ∧ Row wr G5 51 (lc (smD r1 r2 (i + 1) 0)) ∧ N + 2 < G5) := by
        have h := HI.out
        rw [show k = 256 by omega, HSR.out] at h
        exact ⟨h⟩
       clear HI
       go_wp2
       go_roundw
       case rel => exact ⟨i + 1, by omega, by go_num, HJ⟩
       case measure => simp [intOf]; omega
   ·have hit2 : ¬ (i : Int) < 256 := by omega
    have HJ : Shh (Row wr N 23 (dc r1) ∧ Row wr (N + 1) 23 (dc r2) ∧ Row wr (N + 2) 23 (dc fun _ => 0) ∧ Below N w wr ∧ Row wr G5 51 (lc (smD r1 r2 256 0)) ∧ N + 2 < G5) := by
     have h := HI.out
     rw [show i = 256 by omega] at h
     exact ⟨h⟩
    clear HI
    have HSL := Shh.mk (smD_lt r1 r2 256 0)
    generalize smD r1 r2 256 0 = sf at *
    go_wp2_with (refine wl_newzD 8 rfl rfl rfl ?_)
    intro G8 w7 hG8 r8 b6
    try simp only [Act.put, arr9, hd9, tl9]
    have HK : Shh (Row w7 N 23 (dc r1) ∧ Row w7 (N + 1) 23 (dc r2) ∧ Row w7 (N + 2) 23 (dc fun _ => 0) ∧ Below N w w7 ∧ Row w7 G5 51 (lc sf) ∧ N + 2 < G5 ∧ Row w7 G8 23 (dc fun _ => 0) ∧ G5 < G8) := by
     obtain ⟨h0, h1, h2, h3, h4, h5⟩ := HJ.out
     have := h0.lt
     have := h1.lt
     have := h2.lt
     have := h4.lt
     have := b6.size
     have := hG8.out
     exact ⟨h0.go b6, h1.go b6, h2.go b6, h3.trans (b6.mono (by omega)), h4.go b6, h5, r8, (by omega)⟩
    clear b6 HJ r8 hG8
    go_wp2
    go_loopw [46] (fun i wr => ∃ k : Nat, k ≤ 256 ∧ i = .int .i64 (k : Int) ∧ Shh (Row wr N 23 (dc r1) ∧ Row wr (N + 1) 23 (dc r2) ∧ Row wr (N + 2) 23 (dc fun _ => 0) ∧ Below N w wr ∧ Row wr G5 51 (lc sf) ∧ N + 2 < G5 ∧ Row wr G8 23 (dc (dhf fin (fun _ => 0) k)) ∧ G5 < G8)) (fun i _ => 256 - (intOf i).toNat)
    case atStart => exact ⟨0, Nat.zero_le _, rfl, ⟨by simp only [dhf_zero]; exact HK.out⟩⟩
    case round =>
     clear HK
     obtain ⟨k, hk, rfl, HI⟩ := hrel
     by_cases hlt : k < 256
     ·have hlt2 : (k : Int) < 256 := by omega
      have hl5 : k < 512 := by omega
      obtain ⟨m, hm, Hm⟩ : ∃ m : Nat, m = k + 256 ∧ Shh ((m : Int) = (k : Int) + 256 ∧ -9223372036854775808 ≤ (m : Int) ∧ (m : Int) ≤ 9223372036854775807) := ⟨_, rfl, ⟨by omega, by omega, by omega⟩⟩
      have hm2 : m < 512 := by omega
      have HN1 := Shh.mk (dhf_next fin (fun _ => 0) k)
      have HA := Shh.mk (lc_get sf hl5)
      have HB := Shh.mk (lc_get sf hm2)
      obtain ⟨hf, hf2⟩ := HFN.out k
      have h1 := HSL.out k
      have h2 := HSL.out m
      rw [← hm] at hf
      clear hm
      generalize fin k = fk at *
      generalize sf k = x at *
      generalize sf m = y at *
      obtain ⟨d, Hd⟩ : ∃ v, Shh (v = x - y ∧ -9223372036854775808 ≤ v ∧ v ≤ 9223372036854775807) := ⟨_, ⟨rfl, by omega, by omega⟩⟩
      have HC : Shh (∀ W, Calls Try.prog 46 #[.int .i64 d] W (I64Is W fk)) := ⟨fun W => by rw [hf, ← Hd.out.1]; exact refMod_any d Hd.out.2 W⟩
      have H32 := Shh.mk hf2
      clear hf hf2 h1 h2
      go_wp2
      refine wp_region_held_drew (S := fun w' => Row w' G5 51 (lc sf)) (by kernel_rfl) HI.out.2.2.2.2.1.drew (fun hS => ?_)
      clear hS
      obtain ⟨X9, hX9⟩ : ∃ V, V = World.drew wr := ⟨_, rfl⟩
      rw [← hX9]
      have HJ : Shh (Row X9 N 23 (dc r1) ∧ Row X9 (N + 1) 23 (dc r2) ∧ Row X9 (N + 2) 23 (dc fun _ => 0) ∧ Below N w X9 ∧ Row X9 G5 51 (lc sf) ∧ N + 2 < G5 ∧ Row X9 G8 23 (dc (dhf fin (fun _ => 0) k)) ∧ G5 < G8) := by
       obtain ⟨h0, h1, h2, h3, h4, h5, h6, h7⟩ := HI.out
       rw [hX9]
       exact ⟨h0.drew, h1.drew, h2.drew, h3.drew, h4.drew, h5, h6.drew, h7⟩
      clear hX9 HI
      refine hdv0 0 49 (.int .i64 (k : Int)) (by rfl) HJ.out.2.2.2.2.1 ?_
      refine hdv0 1 50 (.int .i64 (k : Int)) (by rfl) HJ.out.2.2.2.2.1 ?_
      refine hdv 2 51 (.pointer (some ⟨G5, k, none⟩)) (by rfl) (fun w hS => at_dL hl5 rfl (by kernel_rfl) (by kernel_rfl)) HJ.out.2.2.2.2.1 ?_
      refine hdv 3 52 (.int .i64 x) (by rfl) (fun w hS => load_l rfl ((hS.cell k).trans HA.out) (by kernel_rfl)) HJ.out.2.2.2.2.1 ?_
      refine hdv0 4 53 (.int .i64 (k : Int)) (by rfl) HJ.out.2.2.2.2.1 ?_
      refine hdv 5 54 (.int .i64 (m : Int)) (by rfl) (fun w hS => add_n Hm.out rfl (by kernel_rfl) (by kernel_rfl)) HJ.out.2.2.2.2.1 ?_
      refine hdv 6 55 (.pointer (some ⟨G5, m, none⟩)) (by rfl) (fun w hS => at_dL hm2 rfl (by kernel_rfl) (by kernel_rfl)) HJ.out.2.2.2.2.1 ?_
      refine hdv 7 56 (.int .i64 y) (by rfl) (fun w hS => load_l rfl ((hS.cell m).trans HB.out) (by kernel_rfl)) HJ.out.2.2.2.2.1 ?_
      refine hdv 8 57 (.int .i64 d) (by rfl) (fun w hS => sub_l Hd.out rfl (by kernel_rfl) (by kernel_rfl)) HJ.out.2.2.2.2.1 ?_
      refine held_one 9 (by kernel_rfl) ?_
      refine step_call 9 _ _ (some 58) 46 #[.int .i64 d] (by rfl) (by kernel_rfl) (by first | kernel_rfl | go_simp) ?_
      refine (HC.out X9).mono ?_
      rintro e w10 ⟨rfl, hq⟩
      obtain rfl : X9 = w10 := hq
      refine ⟨_, rfl, HJ.out.2.2.2.2.1, ?_⟩
      simp only [Act.put, arr9, hd9, tl9]
      refine hdv 10 59 (.int .i32 fk) (by rfl) (fun w hS => conv_ld H32.out rfl (by kernel_rfl)) HJ.out.2.2.2.2.1 ?_
      refine hdv 11 60 (.pointer (some ⟨G8, k, none⟩)) (by rfl) (fun w hS => at_dD hlt rfl (by kernel_rfl) (by kernel_rfl)) HJ.out.2.2.2.2.1 ?_
      refine held_one 12 (by kernel_rfl) ?_
      refine step_storeD 12 (v := fk) (by rfl) (by kernel_rfl) hlt HJ.out.2.2.2.2.2.2.1 (by kernel_rfl) (by kernel_rfl) ?_
      intro w12 r13 bt11 zbt11
      have HK : Shh (Row w12 N 23 (dc r1) ∧ Row w12 (N + 1) 23 (dc r2) ∧ Row w12 (N + 2) 23 (dc fun _ => 0) ∧ Below N w w12 ∧ Row w12 G5 51 (lc sf) ∧ N + 2 < G5 ∧ Row w12 G8 23 (dc (dhf fin (fun _ => 0) (k + 1))) ∧ G5 < G8) := by
       obtain ⟨h0, h1, h2, h3, h4, h5, h6, h7⟩ := HJ.out
       have := h0.lt
       have := h1.lt
       have := h2.lt
       have := h4.lt
       have := h6.lt
       have hb := bt11.under (Nat.le_of_lt h6.lt) (Nat.le_refl _)
       have := hb.size
       rw [HN1.out] at r13
       exact ⟨bt11.row h0 h0.lt (by omega), bt11.row h1 h1.lt (by omega), bt11.row h2 h2.lt (by omega), h3.trans (hb.mono (by omega)), bt11.row h4 h4.lt (by omega), h5, r13, h7⟩
      clear bt11 HJ r13 zbt11
      refine ⟨HK.out.2.2.2.2.1, ?_⟩
      refine wpAnyH_done (by kernel_rfl) ?_ _
      go_wp2
      go_roundw
      case rel => exact ⟨k + 1, by omega, by go_num, HK⟩
      case measure => simp [intOf]; omega
     ·have hlt2 : ¬ (k : Int) < 256 := by omega
      have HJ : Shh (Row wr N 23 (dc r1) ∧ Row wr (N + 1) 23 (dc r2) ∧ Row wr (N + 2) 23 (dc fun _ => 0) ∧ Below N w wr ∧ Row wr G5 51 (lc sf) ∧ N + 2 < G5 ∧ Row wr G8 23 (dc fin) ∧ G5 < G8) := by
       have h := HI.out
       rw [show k = 256 by omega] at h
       simp only [dhf_all] at h
       exact ⟨h⟩
      clear HI
      go_wp2_with (first | refine wpList_load_any rfl 23 (.tmp 8) rfl G8 rfl 23 (dc fin) (.array 256 21) HJ.out.2.2.2.2.2.2.1 Try.underlying23 rfl (info_dD.trans (size_dc _)) ?_ | refine wpList_store_any rfl 23 (.tmp 4) (.tmp 62) rfl (N + 2) rfl (dc fin) rfl 23 _ HJ.out.2.2.1 (info_dD.trans (size_dc _)) (same_dc _ _) (dc_one _) ?_)
      intro w9 r10 bt11 zbt11
      have HK : Shh (Row w9 N 23 (dc r1) ∧ Row w9 (N + 1) 23 (dc r2) ∧ Row w9 (N + 2) 23 (dc fin) ∧ Below N w w9 ∧ Row w9 G5 51 (lc sf) ∧ N + 2 < G5 ∧ Row w9 G8 23 (dc fin) ∧ G5 < G8) := by
       obtain ⟨h0, h1, h2, h3, h4, h5, h6, h7⟩ := HJ.out
       have := h0.lt
       have := h1.lt
       have := h2.lt
       have := h4.lt
       have := h6.lt
       have hb := bt11.under (Nat.le_of_lt h2.lt) (Nat.le_refl _)
       have := hb.size
       exact ⟨bt11.row h0 h0.lt (by omega), bt11.row h1 h1.lt (by omega), r10, h3.trans (hb.mono (by omega)), bt11.row h4 h4.lt (by omega), h5, bt11.row h6 h6.lt (by omega), h7⟩
      clear bt11 HJ r10 zbt11
      go_wp2
      exact ret_row Try.results23 rfl rfl HK.out.2.2.1 Try.underlying23 rfl (info_dD.trans (size_dc _)) ⟨rfl, HK.out.2.2.2.1⟩
end Go.Proofs.Ytapjiknedghhfaa
