/-
 ADD, SUB, MULNTT: the program's and the document's.
-/
import Derived.Test.YtapjiknedghhfaaDq2
namespace Go.Proofs.Ytapjiknedghhfaa
open Go.RowKit
set_option maxRecDepth 100000
theorem addD_red (p p2 : Nat → Int) (k : Nat) : addD p p2 k = qd (redD p k + redD p2 k) := qd_of ((qM_qd _).add (qM_qd _)).symm
theorem subD_red (p p2 : Nat → Int) (k : Nat) : subD p p2 k = qd (redD p k - redD p2 k) := qd_of ((qM_qd _).sub (qM_qd _)).symm
theorem pairD_red (p p2 : Nat → Int) (k : Nat) : pairD p p2 k = qd (redD p k * redD p2 k) := qd_of ((qM_qd _).mul (qM_qd _)).symm
theorem qd_32 (x : Int) : i32 (qd x) := by have := qd_lt x; unfold i32; omega
set_option maxHeartbeats 4000000 in
theorem Add_any (p p2 : Nat → Int) (hp : ∀ i, i < 256 → i32 (p i)) (hp2 : ∀ i, i < 256 → i32 (p2 i)) (w : World) : Calls Try.prog 18 #[polyD p, polyD p2] w (DPolyIs w (addD p p2)) := by
 unfold DPolyIs polyD
 have HR1 : Shh (∀ W, Calls Try.prog 12 #[.agg (dc p).toArray] W (DPolyIs W (redD p))) := ⟨fun W => Reduce_any p hp W⟩
 have HR2 : Shh (∀ W, Calls Try.prog 12 #[.agg (dc p2).toArray] W (DPolyIs W (redD p2))) := ⟨fun W => Reduce_any p2 hp2 W⟩
 have HF : Shh (∀ k W, Calls Try.prog 48 #[.int .i32 (redD p k), .int .i32 (redD p2 k)] W (I32Is W (addD p p2 k))) := ⟨fun k W => by
  rw [addD_red]
  exact sumD_any _ _ ⟨(qd_lt _).1, (qd_lt _).2, qd_lt _⟩ W⟩
 clear hp hp2
 generalize addD p p2 = fin at *
 generalize redD p = r1 at *
 generalize redD p2 = r2 at *
 generalize hN : w.heap.size = N at *
 have FA : Shh (Row (((w.alloc (.cells (dc p).toArray 23)).alloc (.cells (dc p2).toArray 23)).alloc (.cells (dc fun _ => 0).toArray 23)) N 23 (dc p) ∧ Row (((w.alloc (.cells (dc p).toArray 23)).alloc (.cells (dc p2).toArray 23)).alloc (.cells (dc fun _ => 0).toArray 23)) (N + 1) 23 (dc p2) ∧ Row (((w.alloc (.cells (dc p).toArray 23)).alloc (.cells (dc p2).toArray 23)).alloc (.cells (dc fun _ => 0).toArray 23)) (N + 2) 23 (dc fun _ => 0) ∧ Below N w (((w.alloc (.cells (dc p).toArray 23)).alloc (.cells (dc p2).toArray 23)).alloc (.cells (dc fun _ => 0).toArray 23))) := by
  refine ⟨(((Row.new_ hN.symm rfl).alloc _).alloc _), ((Row.new_ (by rw [asz, hN]) rfl).alloc _), (Row.new_ (by rw [asz, asz, hN]) rfl), ?_⟩
  rw [← hN]
  exact Below.chain (Below.chain (belA _ _) (belA _ _)) (belA _ _)
 go_enter Try.func18, Try.ntmps18
 obtain ⟨W, hW⟩ : ∃ W, W = (((w.alloc (.cells (dc p).toArray 23)).alloc (.cells (dc p2).toArray 23)).alloc (.cells (dc fun _ => 0).toArray 23)) := ⟨_, rfl⟩
 have FB : Shh (Row W N 23 (dc p) ∧ Row W (N + 1) 23 (dc p2) ∧ Row W (N + 2) 23 (dc fun _ => 0) ∧ Below N w W) := by rw [hW]; exact FA
 clear FA
 go_wp2_with (refine wl_allocD rfl rfl ?_)
 try simp only [asz, hN]
 rw [← hW]
 clear hW
 try simp only [Act.put, arr9, hd9, tl9]
 refine wp_region_held_drew (S := fun w' => True) (by kernel_rfl) trivial (fun hS => ?_)
 clear hS
 obtain ⟨X1, hX1⟩ : ∃ V, V = World.drew W := ⟨_, rfl⟩
 rw [← hX1]
 have FC : Shh (Row X1 N 23 (dc p) ∧ Row X1 (N + 1) 23 (dc p2) ∧ Row X1 (N + 2) 23 (dc fun _ => 0) ∧ Below N w X1) := by
  obtain ⟨h0, h1, h2, h3⟩ := FB.out
  rw [hX1]
  exact ⟨h0.drew, h1.drew, h2.drew, h3.drew⟩
 clear hX1 FB
 refine share (T := ?T2) (fun hT => ?gg2) ?tt2
 case gg2 =>
  have FY := FC
  refine held_two 0 2 (by kernel_rfl) ?_ ?_
  ·refine step_value 0 _ _ (some 7) (.agg (dc p).toArray) X1 (by rfl) (by kernel_rfl) (run_loadRowD (g := N) (by kernel_rfl) FY.out.1 Try.underlying23 rfl (info_dD.trans (size_dc _))) trivial ?_
   simp only [Act.put, arr9, hd9, tl9]
   refine held_two 1 2 (by kernel_rfl) ?_ ?_
   ·refine step_call 1 _ _ (some 8) 12 #[.agg (dc p).toArray] (by rfl) (by kernel_rfl) (by first | kernel_rfl | go_simp) ?_
    refine (HR1.out X1).mono ?_
    rintro e w4 ⟨rfl, b3⟩
    have FZ : Shh (Row w4 N 23 (dc p) ∧ Row w4 (N + 1) 23 (dc p2) ∧ Row w4 (N + 2) 23 (dc fun _ => 0) ∧ Below N w w4) := by
     obtain ⟨h0, h1, h2, h3⟩ := FY.out
     have := h0.lt
     have := h1.lt
     have := h2.lt
     have := b3.size
     exact ⟨h0.go b3, h1.go b3, h2.go b3, h3.trans (b3.mono (by omega))⟩
    clear b3 FY
    refine ⟨_, rfl, trivial, ?_⟩
    simp only [Act.put, arr9, hd9, tl9]
    refine held_one 2 (by kernel_rfl) ?_
    refine step_value 2 _ _ (some 9) (.agg (dc p2).toArray) w4 (by rfl) (by kernel_rfl) (run_loadRowD (g := (N + 1)) (by kernel_rfl) FZ.out.2.1 Try.underlying23 rfl (info_dD.trans (size_dc _))) trivial ?_
    simp only [Act.put, arr9, hd9, tl9]
    refine held_one 3 (by kernel_rfl) ?_
    refine step_call 3 _ _ (some 10) 12 #[.agg (dc p2).toArray] (by rfl) (by kernel_rfl) (by first | kernel_rfl | go_simp) ?_
    refine (HR2.out w4).mono ?_
    rintro e w6 ⟨rfl, b5⟩
    have FA : Shh (Row w6 N 23 (dc p) ∧ Row w6 (N + 1) 23 (dc p2) ∧ Row w6 (N + 2) 23 (dc fun _ => 0) ∧ Below N w w6) := by
     obtain ⟨h0, h1, h2, h3⟩ := FZ.out
     have := h0.lt
     have := h1.lt
     have := h2.lt
     have := b5.size
     exact ⟨h0.go b5, h1.go b5, h2.go b5, h3.trans (b5.mono (by omega))⟩
    clear b5 FZ
    refine ⟨_, rfl, trivial, ?_⟩
    simp only [Act.put, arr9, hd9, tl9]
    refine held_one 4 (by kernel_rfl) ?_
    refine step_storeRow 4 23 (.tmp 2) (.tmp 8) (by rfl) (by kernel_rfl) N (by kernel_rfl) (dc r1) (by kernel_rfl) 23 _ FA.out.1 (info_dD.trans (size_dc _)) (same_dc _ _) (dc_one _) ?_
    intro w8 r9 bt7 zbt7
    have FB : Shh (Row w8 N 23 (dc r1) ∧ Row w8 (N + 1) 23 (dc p2) ∧ Row w8 (N + 2) 23 (dc fun _ => 0) ∧ Below N w w8) := by
     obtain ⟨h0, h1, h2, h3⟩ := FA.out
     have := h0.lt
     have := h1.lt
     have := h2.lt
     have hb := bt7.under (Nat.le_of_lt h0.lt) (Nat.le_refl _)
     have := hb.size
     exact ⟨r9, bt7.row h1 h1.lt (by omega), bt7.row h2 h2.lt (by omega), h3.trans (hb.mono (by omega))⟩
    clear bt7 FA r9 zbt7
    refine ⟨trivial, ?_⟩
    refine held_one 5 (by kernel_rfl) ?_
    refine step_storeRow 5 23 (.tmp 3) (.tmp 10) (by rfl) (by kernel_rfl) (N + 1) (by kernel_rfl) (dc r2) (by kernel_rfl) 23 _ FB.out.2.1 (info_dD.trans (size_dc _)) (same_dc _ _) (dc_one _) ?_
    intro w11 r12 bt10 zbt10
    have FC : Shh (Row w11 N 23 (dc r1) ∧ Row w11 (N + 1) 23 (dc r2) ∧ Row w11 (N + 2) 23 (dc fun _ => 0) ∧ Below N w w11) := by
     obtain ⟨h0, h1, h2, h3⟩ := FB.out
     have := h0.lt
     have := h1.lt
     have := h2.lt
     have hb := bt10.under (Nat.le_of_lt h1.lt) (Nat.le_refl _)
     have := hb.size
     exact ⟨bt10.row h0 h0.lt (by omega), r12, bt10.row h2 h2.lt (by omega), h3.trans (hb.mono (by omega))⟩
    clear bt10 FB r12 zbt10
    refine ⟨trivial, ?_⟩
    refine wpAnyH_done (by kernel_rfl) ?_ _
    have HZ := FC
    clear FC
    revert HZ
    revert w11
    exact hT.out
   ·refine step_value 2 _ _ (some 9) (.agg (dc p2).toArray) X1 (by rfl) (by kernel_rfl) (run_loadRowD (g := (N + 1)) (by kernel_rfl) FY.out.2.1 Try.underlying23 rfl (info_dD.trans (size_dc _))) trivial ?_
    simp only [Act.put, arr9, hd9, tl9]
    refine held_one 1 (by kernel_rfl) ?_
    refine step_call 1 _ _ (some 8) 12 #[.agg (dc p).toArray] (by rfl) (by kernel_rfl) (by first | kernel_rfl | go_simp) ?_
    refine (HR1.out X1).mono ?_
    rintro e w4 ⟨rfl, b3⟩
    have FZ : Shh (Row w4 N 23 (dc p) ∧ Row w4 (N + 1) 23 (dc p2) ∧ Row w4 (N + 2) 23 (dc fun _ => 0) ∧ Below N w w4) := by
     obtain ⟨h0, h1, h2, h3⟩ := FY.out
     have := h0.lt
     have := h1.lt
     have := h2.lt
     have := b3.size
     exact ⟨h0.go b3, h1.go b3, h2.go b3, h3.trans (b3.mono (by omega))⟩
    clear b3 FY
    refine ⟨_, rfl, trivial, ?_⟩
    simp only [Act.put, arr9, hd9, tl9]
    refine held_one 3 (by kernel_rfl) ?_
    refine step_call 3 _ _ (some 10) 12 #[.agg (dc p2).toArray] (by rfl) (by kernel_rfl) (by first | kernel_rfl | go_simp) ?_
    refine (HR2.out w4).mono ?_
    rintro e w6 ⟨rfl, b5⟩
    have FA : Shh (Row w6 N 23 (dc p) ∧ Row w6 (N + 1) 23 (dc p2) ∧ Row w6 (N + 2) 23 (dc fun _ => 0) ∧ Below N w w6) := by
     obtain ⟨h0, h1, h2, h3⟩ := FZ.out
     have := h0.lt
     have := h1.lt
     have := h2.lt
     have := b5.size
     exact ⟨h0.go b5, h1.go b5, h2.go b5, h3.trans (b5.mono (by omega))⟩
    clear b5 FZ
    refine ⟨_, rfl, trivial, ?_⟩
    simp only [Act.put, arr9, hd9, tl9]
    refine held_one 4 (by kernel_rfl) ?_
    refine step_storeRow 4 23 (.tmp 2) (.tmp 8) (by rfl) (by kernel_rfl) N (by kernel_rfl) (dc r1) (by kernel_rfl) 23 _ FA.out.1 (info_dD.trans (size_dc _)) (same_dc _ _) (dc_one _) ?_
    intro w8 r9 bt7 zbt7
    have FB : Shh (Row w8 N 23 (dc r1) ∧ Row w8 (N + 1) 23 (dc p2) ∧ Row w8 (N + 2) 23 (dc fun _ => 0) ∧ Below N w w8) := by
     obtain ⟨h0, h1, h2, h3⟩ := FA.out
     have := h0.lt
     have := h1.lt
     have := h2.lt
     have hb := bt7.under (Nat.le_of_lt h0.lt) (Nat.le_refl _)
     have := hb.size
     exact ⟨r9, bt7.row h1 h1.lt (by omega), bt7.row h2 h2.lt (by omega), h3.trans (hb.mono (by omega))⟩
    clear bt7 FA r9 zbt7
    refine ⟨trivial, ?_⟩
    refine held_one 5 (by kernel_rfl) ?_
    refine step_storeRow 5 23 (.tmp 3) (.tmp 10) (by rfl) (by kernel_rfl) (N + 1) (by kernel_rfl) (dc r2) (by kernel_rfl) 23 _ FB.out.2.1 (info_dD.trans (size_dc _)) (same_dc _ _) (dc_one _) ?_
    intro w11 r12 bt10 zbt10
    have FC : Shh (Row w11 N 23 (dc r1) ∧ Row w11 (N + 1) 23 (dc r2) ∧ Row w11 (N + 2) 23 (dc fun _ => 0) ∧ Below N w w11) := by
     obtain ⟨h0, h1, h2, h3⟩ := FB.out
     have := h0.lt
     have := h1.lt
     have := h2.lt
     have hb := bt10.under (Nat.le_of_lt h1.lt) (Nat.le_refl _)
     have := hb.size
     exact ⟨bt10.row h0 h0.lt (by omega), r12, bt10.row h2 h2.lt (by omega), h3.trans (hb.mono (by omega))⟩
    clear bt10 FB r12 zbt10
    refine ⟨trivial, ?_⟩
    refine wpAnyH_done (by kernel_rfl) ?_ _
    have HZ := FC
    clear FC
    revert HZ
    revert w11
    exact hT.out
  ·refine step_value 2 _ _ (some 9) (.agg (dc p2).toArray) X1 (by rfl) (by kernel_rfl) (run_loadRowD (g := (N + 1)) (by kernel_rfl) FY.out.2.1 Try.underlying23 rfl (info_dD.trans (size_dc _))) trivial ?_
   simp only [Act.put, arr9, hd9, tl9]
   refine held_one 0 (by kernel_rfl) ?_
   refine step_value 0 _ _ (some 7) (.agg (dc p).toArray) X1 (by rfl) (by kernel_rfl) (run_loadRowD (g := N) (by kernel_rfl) FY.out.1 Try.underlying23 rfl (info_dD.trans (size_dc _))) trivial ?_
   simp only [Act.put, arr9, hd9, tl9]
   refine held_one 1 (by kernel_rfl) ?_
   refine step_call 1 _ _ (some 8) 12 #[.agg (dc p).toArray] (by rfl) (by kernel_rfl) (by first | kernel_rfl | go_simp) ?_
   refine (HR1.out X1).mono ?_
   rintro e w4 ⟨rfl, b3⟩
   have FZ : Shh (Row w4 N 23 (dc p) ∧ Row w4 (N + 1) 23 (dc p2) ∧ Row w4 (N + 2) 23 (dc fun _ => 0) ∧ Below N w w4) := by
    obtain ⟨h0, h1, h2, h3⟩ := FY.out
    have := h0.lt
    have := h1.lt
    have := h2.lt
    have := b3.size
    exact ⟨h0.go b3, h1.go b3, h2.go b3, h3.trans (b3.mono (by omega))⟩
   clear b3 FY
   refine ⟨_, rfl, trivial, ?_⟩
   simp only [Act.put, arr9, hd9, tl9]
   refine held_one 3 (by kernel_rfl) ?_
   refine step_call 3 _ _ (some 10) 12 #[.agg (dc p2).toArray] (by rfl) (by kernel_rfl) (by first | kernel_rfl | go_simp) ?_
   refine (HR2.out w4).mono ?_
   rintro e w6 ⟨rfl, b5⟩
   have FA : Shh (Row w6 N 23 (dc p) ∧ Row w6 (N + 1) 23 (dc p2) ∧ Row w6 (N + 2) 23 (dc fun _ => 0) ∧ Below N w w6) := by
    obtain ⟨h0, h1, h2, h3⟩ := FZ.out
    have := h0.lt
    have := h1.lt
    have := h2.lt
    have := b5.size
    exact ⟨h0.go b5, h1.go b5, h2.go b5, h3.trans (b5.mono (by omega))⟩
   clear b5 FZ
   refine ⟨_, rfl, trivial, ?_⟩
   simp only [Act.put, arr9, hd9, tl9]
   refine held_one 4 (by kernel_rfl) ?_
   refine step_storeRow 4 23 (.tmp 2) (.tmp 8) (by rfl) (by kernel_rfl) N (by kernel_rfl) (dc r1) (by kernel_rfl) 23 _ FA.out.1 (info_dD.trans (size_dc _)) (same_dc _ _) (dc_one _) ?_
   intro w8 r9 bt7 zbt7
   have FB : Shh (Row w8 N 23 (dc r1) ∧ Row w8 (N + 1) 23 (dc p2) ∧ Row w8 (N + 2) 23 (dc fun _ => 0) ∧ Below N w w8) := by
    obtain ⟨h0, h1, h2, h3⟩ := FA.out
    have := h0.lt
    have := h1.lt
    have := h2.lt
    have hb := bt7.under (Nat.le_of_lt h0.lt) (Nat.le_refl _)
    have := hb.size
    exact ⟨r9, bt7.row h1 h1.lt (by omega), bt7.row h2 h2.lt (by omega), h3.trans (hb.mono (by omega))⟩
   clear bt7 FA r9 zbt7
   refine ⟨trivial, ?_⟩
   refine held_one 5 (by kernel_rfl) ?_
   refine step_storeRow 5 23 (.tmp 3) (.tmp 10) (by rfl) (by kernel_rfl) (N + 1) (by kernel_rfl) (dc r2) (by kernel_rfl) 23 _ FB.out.2.1 (info_dD.trans (size_dc _)) (same_dc _ _) (dc_one _) ?_
   intro w11 r12 bt10 zbt10
   have FC : Shh (Row w11 N 23 (dc r1) ∧ Row w11 (N + 1) 23 (dc r2) ∧ Row w11 (N + 2) 23 (dc fun _ => 0) ∧ Below N w w11) := by
    obtain ⟨h0, h1, h2, h3⟩ := FB.out
    have := h0.lt
    have := h1.lt
    have := h2.lt
    have hb := bt10.under (Nat.le_of_lt h1.lt) (Nat.le_refl _)
    have := hb.size
    exact ⟨bt10.row h0 h0.lt (by omega), r12, bt10.row h2 h2.lt (by omega), h3.trans (hb.mono (by omega))⟩
   clear bt10 FB r12 zbt10
   refine ⟨trivial, ?_⟩
   refine wpAnyH_done (by kernel_rfl) ?_ _
   have HZ := FC
   clear FC
   revert HZ
   revert w11
   exact hT.out
 case tt2 =>
  clear FC
  intro Z HZ
  clear HR1 HR2
  go_wp2_with (refine wpList_load_any rfl 23 (.tmp 3) rfl (N + 1) rfl 23 (dc r2) (.array 256 21) HZ.out.2.1 Try.underlying23 rfl (info_dD.trans (size_dc _)) ?_)
  go_loopw [12] (fun i wr => ∃ k : Nat, k ≤ 256 ∧ i = .int .i64 (k : Int) ∧ Shh (Row wr N 23 (dc (dhf fin r1 k)) ∧ Row wr (N + 1) 23 (dc r2) ∧ Row wr (N + 2) 23 (dc fun _ => 0) ∧ Below N w wr)) (fun i _ => 256 - (intOf i).toNat)
  case atStart => exact ⟨0, Nat.zero_le _, rfl, ⟨by simp only [dhf_zero]; exact HZ.out⟩⟩
  case round =>
   clear HZ
   obtain ⟨k, hk, rfl, HI⟩ := hrel
   by_cases hlt : k < 256
   ·have HC := Shh.mk (HF.out k)
    have HN1 := Shh.mk (dhf_next fin r1 k)
    have HG := Shh.mk (dc_get r2 hlt)
    have HL := Shh.mk ((HI.out.1.cell k).trans (dhf_at fin r1 hlt))
    generalize fin k = fk at *
    generalize r1 k = ak at *
    generalize r2 k = bk at *
    have hlt2 : (k : Int) < 256 := by omega
    go_wp2_with (first | refine wl_at 15 rfl (.int .i32 bk) rfl (idx_dD hlt HG.out rfl rfl rfl) ?_ | refine wl_at 18 rfl (.pointer (some ⟨N, k, none⟩)) rfl (at_dD hlt rfl rfl rfl) ?_ | refine wl_at 19 rfl (.int .i32 ak) rfl (load_d rfl HL.out rfl) ?_ | (go_at_call 48; refine (HC.out _).mono ?_))
    rintro e w3 ⟨rfl, rfl⟩
    go_wp2_with (first | refine wl_at 22 rfl (.pointer (some ⟨N, k, none⟩)) rfl (at_dD hlt rfl rfl rfl) ?_ | refine wl_storeD rfl hlt rfl rfl rfl HI.out.1 ?_)
    intro w4 r5 bt6 zbt6
    rw [HN1.out] at r5
    have HJ : Shh (Row w4 N 23 (dc (dhf fin r1 (k + 1))) ∧ Row w4 (N + 1) 23 (dc r2) ∧ Row w4 (N + 2) 23 (dc fun _ => 0) ∧ Below N w w4) := by
     obtain ⟨h0, h1, h2, h3⟩ := HI.out
     have := h0.lt
     have := h1.lt
     have := h2.lt
     have hb := bt6.under (Nat.le_of_lt h0.lt) (Nat.le_refl _)
     have := hb.size
     exact ⟨r5, bt6.row h1 h1.lt (by omega), bt6.row h2 h2.lt (by omega), h3.trans (hb.mono (by omega))⟩
    clear bt6 HI r5 zbt6 HL
    go_wp2
    go_roundw
    case rel => exact ⟨k + 1, by omega, by go_num, HJ⟩
    case measure => simp [intOf]; omega
   ·have hlt2 : ¬ (k : Int) < 256 := by omega
    have HJ : Shh (Row wr N 23 (dc fin) ∧ Row wr (N + 1) 23 (dc r2) ∧ Row wr (N + 2) 23 (dc fun _ => 0) ∧ Below N w wr) := by
     have h := HI.out
     rw [show k = 256 by omega] at h
     simp only [dhf_all] at h
     exact ⟨h⟩
    clear HI
    go_wp2_with (first | refine wpList_load_any rfl 23 (.tmp 2) rfl N rfl 23 (dc fin) (.array 256 21) HJ.out.1 Try.underlying23 rfl (info_dD.trans (size_dc _)) ?_ | refine wpList_store_any rfl 23 (.tmp 4) (.tmp 24) rfl (N + 2) rfl (dc fin) rfl 23 _ HJ.out.2.2.1 (info_dD.trans (size_dc _)) (same_dc _ _) (dc_one _) ?_)
    intro w3 r4 bt5 zbt5
    have HK : Shh (Row w3 N 23 (dc fin) ∧ Row w3 (N + 1) 23 (dc r2) ∧ Row w3 (N + 2) 23 (dc fin) ∧ Below N w w3) := by
     obtain ⟨h0, h1, h2, h3⟩ := HJ.out
     have := h0.lt
     have := h1.lt
     have := h2.lt
     have hb := bt5.under (Nat.le_of_lt h2.lt) (Nat.le_refl _)
     have := hb.size
     exact ⟨bt5.row h0 h0.lt (by omega), bt5.row h1 h1.lt (by omega), r4, h3.trans (hb.mono (by omega))⟩
    clear bt5 HJ r4 zbt5
    go_wp2
    exact ret_row Try.results18 rfl rfl HK.out.2.2.1 Try.underlying23 rfl (info_dD.trans (size_dc _)) ⟨rfl, HK.out.2.2.2⟩
set_option maxHeartbeats 4000000 in
theorem Sub_any (p p2 : Nat → Int) (hp : ∀ i, i < 256 → i32 (p i)) (hp2 : ∀ i, i < 256 → i32 (p2 i)) (w : World) : Calls Try.prog 20 #[polyD p, polyD p2] w (DPolyIs w (subD p p2)) := by
 unfold DPolyIs polyD
 have HR1 : Shh (∀ W, Calls Try.prog 12 #[.agg (dc p).toArray] W (DPolyIs W (redD p))) := ⟨fun W => Reduce_any p hp W⟩
 have HR2 : Shh (∀ W, Calls Try.prog 12 #[.agg (dc p2).toArray] W (DPolyIs W (redD p2))) := ⟨fun W => Reduce_any p2 hp2 W⟩
 have HF : Shh (∀ k W, Calls Try.prog 49 #[.int .i32 (redD p k), .int .i32 (redD p2 k)] W (I32Is W (subD p p2 k))) := ⟨fun k W => by
  rw [subD_red]
  exact differenceD_any _ _ ⟨(qd_lt _).1, (qd_lt _).2, qd_lt _⟩ W⟩
 clear hp hp2
 generalize subD p p2 = fin at *
 generalize redD p = r1 at *
 generalize redD p2 = r2 at *
 generalize hN : w.heap.size = N at *
 have FA : Shh (Row (((w.alloc (.cells (dc p).toArray 23)).alloc (.cells (dc p2).toArray 23)).alloc (.cells (dc fun _ => 0).toArray 23)) N 23 (dc p) ∧ Row (((w.alloc (.cells (dc p).toArray 23)).alloc (.cells (dc p2).toArray 23)).alloc (.cells (dc fun _ => 0).toArray 23)) (N + 1) 23 (dc p2) ∧ Row (((w.alloc (.cells (dc p).toArray 23)).alloc (.cells (dc p2).toArray 23)).alloc (.cells (dc fun _ => 0).toArray 23)) (N + 2) 23 (dc fun _ => 0) ∧ Below N w (((w.alloc (.cells (dc p).toArray 23)).alloc (.cells (dc p2).toArray 23)).alloc (.cells (dc fun _ => 0).toArray 23))) := by
  refine ⟨(((Row.new_ hN.symm rfl).alloc _).alloc _), ((Row.new_ (by rw [asz, hN]) rfl).alloc _), (Row.new_ (by rw [asz, asz, hN]) rfl), ?_⟩
  rw [← hN]
  exact Below.chain (Below.chain (belA _ _) (belA _ _)) (belA _ _)
 go_enter Try.func20, Try.ntmps20
 obtain ⟨W, hW⟩ : ∃ W, W = (((w.alloc (.cells (dc p).toArray 23)).alloc (.cells (dc p2).toArray 23)).alloc (.cells (dc fun _ => 0).toArray 23)) := ⟨_, rfl⟩
 have FB : Shh (Row W N 23 (dc p) ∧ Row W (N + 1) 23 (dc p2) ∧ Row W (N + 2) 23 (dc fun _ => 0) ∧ Below N w W) := by rw [hW]; exact FA
 clear FA
 go_wp2_with (refine wl_allocD rfl rfl ?_)
 try simp only [asz, hN]
 rw [← hW]
 clear hW
 try simp only [Act.put, arr9, hd9, tl9]
 refine wp_region_held_drew (S := fun w' => True) (by kernel_rfl) trivial (fun hS => ?_)
 clear hS
 obtain ⟨X1, hX1⟩ : ∃ V, V = World.drew W := ⟨_, rfl⟩
 rw [← hX1]
 have FC : Shh (Row X1 N 23 (dc p) ∧ Row X1 (N + 1) 23 (dc p2) ∧ Row X1 (N + 2) 23 (dc fun _ => 0) ∧ Below N w X1) := by
  obtain ⟨h0, h1, h2, h3⟩ := FB.out
  rw [hX1]
  exact ⟨h0.drew, h1.drew, h2.drew, h3.drew⟩
 clear hX1 FB
 refine share (T := ?T2) (fun hT => ?gg2) ?tt2
 case gg2 =>
  have FY := FC
  refine held_two 0 2 (by kernel_rfl) ?_ ?_
  ·refine step_value 0 _ _ (some 7) (.agg (dc p).toArray) X1 (by rfl) (by kernel_rfl) (run_loadRowD (g := N) (by kernel_rfl) FY.out.1 Try.underlying23 rfl (info_dD.trans (size_dc _))) trivial ?_
   simp only [Act.put, arr9, hd9, tl9]
   refine held_two 1 2 (by kernel_rfl) ?_ ?_
   ·refine step_call 1 _ _ (some 8) 12 #[.agg (dc p).toArray] (by rfl) (by kernel_rfl) (by first | kernel_rfl | go_simp) ?_
    refine (HR1.out X1).mono ?_
    rintro e w4 ⟨rfl, b3⟩
    have FZ : Shh (Row w4 N 23 (dc p) ∧ Row w4 (N + 1) 23 (dc p2) ∧ Row w4 (N + 2) 23 (dc fun _ => 0) ∧ Below N w w4) := by
     obtain ⟨h0, h1, h2, h3⟩ := FY.out
     have := h0.lt
     have := h1.lt
     have := h2.lt
     have := b3.size
     exact ⟨h0.go b3, h1.go b3, h2.go b3, h3.trans (b3.mono (by omega))⟩
    clear b3 FY
    refine ⟨_, rfl, trivial, ?_⟩
    simp only [Act.put, arr9, hd9, tl9]
    refine held_one 2 (by kernel_rfl) ?_
    refine step_value 2 _ _ (some 9) (.agg (dc p2).toArray) w4 (by rfl) (by kernel_rfl) (run_loadRowD (g := (N + 1)) (by kernel_rfl) FZ.out.2.1 Try.underlying23 rfl (info_dD.trans (size_dc _))) trivial ?_
    simp only [Act.put, arr9, hd9, tl9]
    refine held_one 3 (by kernel_rfl) ?_
    refine step_call 3 _ _ (some 10) 12 #[.agg (dc p2).toArray] (by rfl) (by kernel_rfl) (by first | kernel_rfl | go_simp) ?_
    refine (HR2.out w4).mono ?_
    rintro e w6 ⟨rfl, b5⟩
    have FA : Shh (Row w6 N 23 (dc p) ∧ Row w6 (N + 1) 23 (dc p2) ∧ Row w6 (N + 2) 23 (dc fun _ => 0) ∧ Below N w w6) := by
     obtain ⟨h0, h1, h2, h3⟩ := FZ.out
     have := h0.lt
     have := h1.lt
     have := h2.lt
     have := b5.size
     exact ⟨h0.go b5, h1.go b5, h2.go b5, h3.trans (b5.mono (by omega))⟩
    clear b5 FZ
    refine ⟨_, rfl, trivial, ?_⟩
    simp only [Act.put, arr9, hd9, tl9]
    refine held_one 4 (by kernel_rfl) ?_
    refine step_storeRow 4 23 (.tmp 2) (.tmp 8) (by rfl) (by kernel_rfl) N (by kernel_rfl) (dc r1) (by kernel_rfl) 23 _ FA.out.1 (info_dD.trans (size_dc _)) (same_dc _ _) (dc_one _) ?_
    intro w8 r9 bt7 zbt7
    have FB : Shh (Row w8 N 23 (dc r1) ∧ Row w8 (N + 1) 23 (dc p2) ∧ Row w8 (N + 2) 23 (dc fun _ => 0) ∧ Below N w w8) := by
     obtain ⟨h0, h1, h2, h3⟩ := FA.out
     have := h0.lt
     have := h1.lt
     have := h2.lt
     have hb := bt7.under (Nat.le_of_lt h0.lt) (Nat.le_refl _)
     have := hb.size
     exact ⟨r9, bt7.row h1 h1.lt (by omega), bt7.row h2 h2.lt (by omega), h3.trans (hb.mono (by omega))⟩
    clear bt7 FA r9 zbt7
    refine ⟨trivial, ?_⟩
    refine held_one 5 (by kernel_rfl) ?_
    refine step_storeRow 5 23 (.tmp 3) (.tmp 10) (by rfl) (by kernel_rfl) (N + 1) (by kernel_rfl) (dc r2) (by kernel_rfl) 23 _ FB.out.2.1 (info_dD.trans (size_dc _)) (same_dc _ _) (dc_one _) ?_
    intro w11 r12 bt10 zbt10
    have FC : Shh (Row w11 N 23 (dc r1) ∧ Row w11 (N + 1) 23 (dc r2) ∧ Row w11 (N + 2) 23 (dc fun _ => 0) ∧ Below N w w11) := by
     obtain ⟨h0, h1, h2, h3⟩ := FB.out
     have := h0.lt
     have := h1.lt
     have := h2.lt
     have hb := bt10.under (Nat.le_of_lt h1.lt) (Nat.le_refl _)
     have := hb.size
     exact ⟨bt10.row h0 h0.lt (by omega), r12, bt10.row h2 h2.lt (by omega), h3.trans (hb.mono (by omega))⟩
    clear bt10 FB r12 zbt10
    refine ⟨trivial, ?_⟩
    refine wpAnyH_done (by kernel_rfl) ?_ _
    have HZ := FC
    clear FC
    revert HZ
    revert w11
    exact hT.out
   ·refine step_value 2 _ _ (some 9) (.agg (dc p2).toArray) X1 (by rfl) (by kernel_rfl) (run_loadRowD (g := (N + 1)) (by kernel_rfl) FY.out.2.1 Try.underlying23 rfl (info_dD.trans (size_dc _))) trivial ?_
    simp only [Act.put, arr9, hd9, tl9]
    refine held_one 1 (by kernel_rfl) ?_
    refine step_call 1 _ _ (some 8) 12 #[.agg (dc p).toArray] (by rfl) (by kernel_rfl) (by first | kernel_rfl | go_simp) ?_
    refine (HR1.out X1).mono ?_
    rintro e w4 ⟨rfl, b3⟩
    have FZ : Shh (Row w4 N 23 (dc p) ∧ Row w4 (N + 1) 23 (dc p2) ∧ Row w4 (N + 2) 23 (dc fun _ => 0) ∧ Below N w w4) := by
     obtain ⟨h0, h1, h2, h3⟩ := FY.out
     have := h0.lt
     have := h1.lt
     have := h2.lt
     have := b3.size
     exact ⟨h0.go b3, h1.go b3, h2.go b3, h3.trans (b3.mono (by omega))⟩
    clear b3 FY
    refine ⟨_, rfl, trivial, ?_⟩
    simp only [Act.put, arr9, hd9, tl9]
    refine held_one 3 (by kernel_rfl) ?_
    refine step_call 3 _ _ (some 10) 12 #[.agg (dc p2).toArray] (by rfl) (by kernel_rfl) (by first | kernel_rfl | go_simp) ?_
    refine (HR2.out w4).mono ?_
    rintro e w6 ⟨rfl, b5⟩
    have FA : Shh (Row w6 N 23 (dc p) ∧ Row w6 (N + 1) 23 (dc p2) ∧ Row w6 (N + 2) 23 (dc fun _ => 0) ∧ Below N w w6) := by
     obtain ⟨h0, h1, h2, h3⟩ := FZ.out
     have := h0.lt
     have := h1.lt
     have := h2.lt
     have := b5.size
     exact ⟨h0.go b5, h1.go b5, h2.go b5, h3.trans (b5.mono (by omega))⟩
    clear b5 FZ
    refine ⟨_, rfl, trivial, ?_⟩
    simp only [Act.put, arr9, hd9, tl9]
    refine held_one 4 (by kernel_rfl) ?_
    refine step_storeRow 4 23 (.tmp 2) (.tmp 8) (by rfl) (by kernel_rfl) N (by kernel_rfl) (dc r1) (by kernel_rfl) 23 _ FA.out.1 (info_dD.trans (size_dc _)) (same_dc _ _) (dc_one _) ?_
    intro w8 r9 bt7 zbt7
    have FB : Shh (Row w8 N 23 (dc r1) ∧ Row w8 (N + 1) 23 (dc p2) ∧ Row w8 (N + 2) 23 (dc fun _ => 0) ∧ Below N w w8) := by
     obtain ⟨h0, h1, h2, h3⟩ := FA.out
     have := h0.lt
     have := h1.lt
     have := h2.lt
     have hb := bt7.under (Nat.le_of_lt h0.lt) (Nat.le_refl _)
     have := hb.size
     exact ⟨r9, bt7.row h1 h1.lt (by omega), bt7.row h2 h2.lt (by omega), h3.trans (hb.mono (by omega))⟩
    clear bt7 FA r9 zbt7
    refine ⟨trivial, ?_⟩
    refine held_one 5 (by kernel_rfl) ?_
    refine step_storeRow 5 23 (.tmp 3) (.tmp 10) (by rfl) (by kernel_rfl) (N + 1) (by kernel_rfl) (dc r2) (by kernel_rfl) 23 _ FB.out.2.1 (info_dD.trans (size_dc _)) (same_dc _ _) (dc_one _) ?_
    intro w11 r12 bt10 zbt10
    have FC : Shh (Row w11 N 23 (dc r1) ∧ Row w11 (N + 1) 23 (dc r2) ∧ Row w11 (N + 2) 23 (dc fun _ => 0) ∧ Below N w w11) := by
     obtain ⟨h0, h1, h2, h3⟩ := FB.out
     have := h0.lt
     have := h1.lt
     have := h2.lt
     have hb := bt10.under (Nat.le_of_lt h1.lt) (Nat.le_refl _)
     have := hb.size
     exact ⟨bt10.row h0 h0.lt (by omega), r12, bt10.row h2 h2.lt (by omega), h3.trans (hb.mono (by omega))⟩
    clear bt10 FB r12 zbt10
    refine ⟨trivial, ?_⟩
    refine wpAnyH_done (by kernel_rfl) ?_ _
    have HZ := FC
    clear FC
    revert HZ
    revert w11
    exact hT.out
  ·refine step_value 2 _ _ (some 9) (.agg (dc p2).toArray) X1 (by rfl) (by kernel_rfl) (run_loadRowD (g := (N + 1)) (by kernel_rfl) FY.out.2.1 Try.underlying23 rfl (info_dD.trans (size_dc _))) trivial ?_
   simp only [Act.put, arr9, hd9, tl9]
   refine held_one 0 (by kernel_rfl) ?_
   refine step_value 0 _ _ (some 7) (.agg (dc p).toArray) X1 (by rfl) (by kernel_rfl) (run_loadRowD (g := N) (by kernel_rfl) FY.out.1 Try.underlying23 rfl (info_dD.trans (size_dc _))) trivial ?_
   simp only [Act.put, arr9, hd9, tl9]
   refine held_one 1 (by kernel_rfl) ?_
   refine step_call 1 _ _ (some 8) 12 #[.agg (dc p).toArray] (by rfl) (by kernel_rfl) (by first | kernel_rfl | go_simp) ?_
   refine (HR1.out X1).mono ?_
   rintro e w4 ⟨rfl, b3⟩
   have FZ : Shh (Row w4 N 23 (dc p) ∧ Row w4 (N + 1) 23 (dc p2) ∧ Row w4 (N + 2) 23 (dc fun _ => 0) ∧ Below N w w4) := by
    obtain ⟨h0, h1, h2, h3⟩ := FY.out
    have := h0.lt
    have := h1.lt
    have := h2.lt
    have := b3.size
    exact ⟨h0.go b3, h1.go b3, h2.go b3, h3.trans (b3.mono (by omega))⟩
   clear b3 FY
   refine ⟨_, rfl, trivial, ?_⟩
   simp only [Act.put, arr9, hd9, tl9]
   refine held_one 3 (by kernel_rfl) ?_
   refine step_call 3 _ _ (some 10) 12 #[.agg (dc p2).toArray] (by rfl) (by kernel_rfl) (by first | kernel_rfl | go_simp) ?_
   refine (HR2.out w4).mono ?_
   rintro e w6 ⟨rfl, b5⟩
   have FA : Shh (Row w6 N 23 (dc p) ∧ Row w6 (N + 1) 23 (dc p2) ∧ Row w6 (N + 2) 23 (dc fun _ => 0) ∧ Below N w w6) := by
    obtain ⟨h0, h1, h2, h3⟩ := FZ.out
    have := h0.lt
    have := h1.lt
    have := h2.lt
    have := b5.size
    exact ⟨h0.go b5, h1.go b5, h2.go b5, h3.trans (b5.mono (by omega))⟩
   clear b5 FZ
   refine ⟨_, rfl, trivial, ?_⟩
   simp only [Act.put, arr9, hd9, tl9]
   refine held_one 4 (by kernel_rfl) ?_
   refine step_storeRow 4 23 (.tmp 2) (.tmp 8) (by rfl) (by kernel_rfl) N (by kernel_rfl) (dc r1) (by kernel_rfl) 23 _ FA.out.1 (info_dD.trans (size_dc _)) (same_dc _ _) (dc_one _) ?_
   intro w8 r9 bt7 zbt7
   have FB : Shh (Row w8 N 23 (dc r1) ∧ Row w8 (N + 1) 23 (dc p2) ∧ Row w8 (N + 2) 23 (dc fun _ => 0) ∧ Below N w w8) := by
    obtain ⟨h0, h1, h2, h3⟩ := FA.out
    have := h0.lt
    have := h1.lt
    have := h2.lt
    have hb := bt7.under (Nat.le_of_lt h0.lt) (Nat.le_refl _)
    have := hb.size
    exact ⟨r9, bt7.row h1 h1.lt (by omega), bt7.row h2 h2.lt (by omega), h3.trans (hb.mono (by omega))⟩
   clear bt7 FA r9 zbt7
   refine ⟨trivial, ?_⟩
   refine held_one 5 (by kernel_rfl) ?_
   refine step_storeRow 5 23 (.tmp 3) (.tmp 10) (by rfl) (by kernel_rfl) (N + 1) (by kernel_rfl) (dc r2) (by kernel_rfl) 23 _ FB.out.2.1 (info_dD.trans (size_dc _)) (same_dc _ _) (dc_one _) ?_
   intro w11 r12 bt10 zbt10
   have FC : Shh (Row w11 N 23 (dc r1) ∧ Row w11 (N + 1) 23 (dc r2) ∧ Row w11 (N + 2) 23 (dc fun _ => 0) ∧ Below N w w11) := by
    obtain ⟨h0, h1, h2, h3⟩ := FB.out
    have := h0.lt
    have := h1.lt
    have := h2.lt
    have hb := bt10.under (Nat.le_of_lt h1.lt) (Nat.le_refl _)
    have := hb.size
    exact ⟨bt10.row h0 h0.lt (by omega), r12, bt10.row h2 h2.lt (by omega), h3.trans (hb.mono (by omega))⟩
   clear bt10 FB r12 zbt10
   refine ⟨trivial, ?_⟩
   refine wpAnyH_done (by kernel_rfl) ?_ _
   have HZ := FC
   clear FC
   revert HZ
   revert w11
   exact hT.out
 case tt2 =>
  clear FC
  intro Z HZ
  clear HR1 HR2
  go_wp2_with (refine wpList_load_any rfl 23 (.tmp 3) rfl (N + 1) rfl 23 (dc r2) (.array 256 21) HZ.out.2.1 Try.underlying23 rfl (info_dD.trans (size_dc _)) ?_)
  go_loopw [12] (fun i wr => ∃ k : Nat, k ≤ 256 ∧ i = .int .i64 (k : Int) ∧ Shh (Row wr N 23 (dc (dhf fin r1 k)) ∧ Row wr (N + 1) 23 (dc r2) ∧ Row wr (N + 2) 23 (dc fun _ => 0) ∧ Below N w wr)) (fun i _ => 256 - (intOf i).toNat)
  case atStart => exact ⟨0, Nat.zero_le _, rfl, ⟨by simp only [dhf_zero]; exact HZ.out⟩⟩
  case round =>
   clear HZ
   obtain ⟨k, hk, rfl, HI⟩ := hrel
   by_cases hlt : k < 256
   ·have HC := Shh.mk (HF.out k)
    have HN1 := Shh.mk (dhf_next fin r1 k)
    have HG := Shh.mk (dc_get r2 hlt)
    have HL := Shh.mk ((HI.out.1.cell k).trans (dhf_at fin r1 hlt))
    generalize fin k = fk at *
    generalize r1 k = ak at *
    generalize r2 k = bk at *
    have hlt2 : (k : Int) < 256 := by omega
    go_wp2_with (first | refine wl_at 15 rfl (.int .i32 bk) rfl (idx_dD hlt HG.out rfl rfl rfl) ?_ | refine wl_at 18 rfl (.pointer (some ⟨N, k, none⟩)) rfl (at_dD hlt rfl rfl rfl) ?_ | refine wl_at 19 rfl (.int .i32 ak) rfl (load_d rfl HL.out rfl) ?_ | (go_at_call 49; refine (HC.out _).mono ?_))
    rintro e w3 ⟨rfl, rfl⟩
    go_wp2_with (first | refine wl_at 22 rfl (.pointer (some ⟨N, k, none⟩)) rfl (at_dD hlt rfl rfl rfl) ?_ | refine wl_storeD rfl hlt rfl rfl rfl HI.out.1 ?_)
    intro w4 r5 bt6 zbt6
    rw [HN1.out] at r5
    have HJ : Shh (Row w4 N 23 (dc (dhf fin r1 (k + 1))) ∧ Row w4 (N + 1) 23 (dc r2) ∧ Row w4 (N + 2) 23 (dc fun _ => 0) ∧ Below N w w4) := by
     obtain ⟨h0, h1, h2, h3⟩ := HI.out
     have := h0.lt
     have := h1.lt
     have := h2.lt
     have hb := bt6.under (Nat.le_of_lt h0.lt) (Nat.le_refl _)
     have := hb.size
     exact ⟨r5, bt6.row h1 h1.lt (by omega), bt6.row h2 h2.lt (by omega), h3.trans (hb.mono (by omega))⟩
    clear bt6 HI r5 zbt6 HL
    go_wp2
    go_roundw
    case rel => exact ⟨k + 1, by omega, by go_num, HJ⟩
    case measure => simp [intOf]; omega
   ·have hlt2 : ¬ (k : Int) < 256 := by omega
    have HJ : Shh (Row wr N 23 (dc fin) ∧ Row wr (N + 1) 23 (dc r2) ∧ Row wr (N + 2) 23 (dc fun _ => 0) ∧ Below N w wr) := by
     have h := HI.out
     rw [show k = 256 by omega] at h
     simp only [dhf_all] at h
     exact ⟨h⟩
    clear HI
    go_wp2_with (first | refine wpList_load_any rfl 23 (.tmp 2) rfl N rfl 23 (dc fin) (.array 256 21) HJ.out.1 Try.underlying23 rfl (info_dD.trans (size_dc _)) ?_ | refine wpList_store_any rfl 23 (.tmp 4) (.tmp 24) rfl (N + 2) rfl (dc fin) rfl 23 _ HJ.out.2.2.1 (info_dD.trans (size_dc _)) (same_dc _ _) (dc_one _) ?_)
    intro w3 r4 bt5 zbt5
    have HK : Shh (Row w3 N 23 (dc fin) ∧ Row w3 (N + 1) 23 (dc r2) ∧ Row w3 (N + 2) 23 (dc fin) ∧ Below N w w3) := by
     obtain ⟨h0, h1, h2, h3⟩ := HJ.out
     have := h0.lt
     have := h1.lt
     have := h2.lt
     have hb := bt5.under (Nat.le_of_lt h2.lt) (Nat.le_refl _)
     have := hb.size
     exact ⟨bt5.row h0 h0.lt (by omega), bt5.row h1 h1.lt (by omega), r4, h3.trans (hb.mono (by omega))⟩
    clear bt5 HJ r4 zbt5
    go_wp2
    exact ret_row Try.results20 rfl rfl HK.out.2.2.1 Try.underlying23 rfl (info_dD.trans (size_dc _)) ⟨rfl, HK.out.2.2.2⟩
set_option maxHeartbeats 4000000 in
theorem MulNtt_any (p p2 : Nat → Int) (hp : ∀ i, i < 256 → i32 (p i)) (hp2 : ∀ i, i < 256 → i32 (p2 i)) (w : World) : Calls Try.prog 29 #[polyD p, polyD p2] w (DPolyIs w (pairD p p2)) := by
 unfold DPolyIs polyD
 have HR1 : Shh (∀ W, Calls Try.prog 12 #[.agg (dc p).toArray] W (DPolyIs W (redD p))) := ⟨fun W => Reduce_any p hp W⟩
 have HR2 : Shh (∀ W, Calls Try.prog 12 #[.agg (dc p2).toArray] W (DPolyIs W (redD p2))) := ⟨fun W => Reduce_any p2 hp2 W⟩
 have HF : Shh (∀ k W, Calls Try.prog 51 #[.int .i32 (redD p k), .int .i32 (redD p2 k)] W (I32Is W (pairD p p2 k))) := ⟨fun k W => by
  rw [pairD_red]
  exact productD_any _ _ ⟨(qd_lt _).1, (qd_lt _).2, qd_lt _⟩ W⟩
 clear hp hp2
 generalize pairD p p2 = fin at *
 generalize redD p = r1 at *
 generalize redD p2 = r2 at *
 generalize hN : w.heap.size = N at *
 have FA : Shh (Row (((w.alloc (.cells (dc p).toArray 23)).alloc (.cells (dc p2).toArray 23)).alloc (.cells (dc fun _ => 0).toArray 23)) N 23 (dc p) ∧ Row (((w.alloc (.cells (dc p).toArray 23)).alloc (.cells (dc p2).toArray 23)).alloc (.cells (dc fun _ => 0).toArray 23)) (N + 1) 23 (dc p2) ∧ Row (((w.alloc (.cells (dc p).toArray 23)).alloc (.cells (dc p2).toArray 23)).alloc (.cells (dc fun _ => 0).toArray 23)) (N + 2) 23 (dc fun _ => 0) ∧ Below N w (((w.alloc (.cells (dc p).toArray 23)).alloc (.cells (dc p2).toArray 23)).alloc (.cells (dc fun _ => 0).toArray 23))) := by
  refine ⟨(((Row.new_ hN.symm rfl).alloc _).alloc _), ((Row.new_ (by rw [asz, hN]) rfl).alloc _), (Row.new_ (by rw [asz, asz, hN]) rfl), ?_⟩
  rw [← hN]
  exact Below.chain (Below.chain (belA _ _) (belA _ _)) (belA _ _)
 go_enter Try.func29, Try.ntmps29
 obtain ⟨W, hW⟩ : ∃ W, W = (((w.alloc (.cells (dc p).toArray 23)).alloc (.cells (dc p2).toArray 23)).alloc (.cells (dc fun _ => 0).toArray 23)) := ⟨_, rfl⟩
 have FB : Shh (Row W N 23 (dc p) ∧ Row W (N + 1) 23 (dc p2) ∧ Row W (N + 2) 23 (dc fun _ => 0) ∧ Below N w W) := by rw [hW]; exact FA
 clear FA
 go_wp2_with (refine wl_allocD rfl rfl ?_)
 try simp only [asz, hN]
 rw [← hW]
 clear hW
 try simp only [Act.put, arr9, hd9, tl9]
 refine wp_region_held_drew (S := fun w' => True) (by kernel_rfl) trivial (fun hS => ?_)
 clear hS
 obtain ⟨X1, hX1⟩ : ∃ V, V = World.drew W := ⟨_, rfl⟩
 rw [← hX1]
 have FC : Shh (Row X1 N 23 (dc p) ∧ Row X1 (N + 1) 23 (dc p2) ∧ Row X1 (N + 2) 23 (dc fun _ => 0) ∧ Below N w X1) := by
  obtain ⟨h0, h1, h2, h3⟩ := FB.out
  rw [hX1]
  exact ⟨h0.drew, h1.drew, h2.drew, h3.drew⟩
 clear hX1 FB
 refine share (T := ?T2) (fun hT => ?gg2) ?tt2
 case gg2 =>
  have FY := FC
  refine held_two 0 2 (by kernel_rfl) ?_ ?_
  ·refine step_value 0 _ _ (some 7) (.agg (dc p).toArray) X1 (by rfl) (by kernel_rfl) (run_loadRowD (g := N) (by kernel_rfl) FY.out.1 Try.underlying23 rfl (info_dD.trans (size_dc _))) trivial ?_
   simp only [Act.put, arr9, hd9, tl9]
   refine held_two 1 2 (by kernel_rfl) ?_ ?_
   ·refine step_call 1 _ _ (some 8) 12 #[.agg (dc p).toArray] (by rfl) (by kernel_rfl) (by first | kernel_rfl | go_simp) ?_
    refine (HR1.out X1).mono ?_
    rintro e w4 ⟨rfl, b3⟩
    have FZ : Shh (Row w4 N 23 (dc p) ∧ Row w4 (N + 1) 23 (dc p2) ∧ Row w4 (N + 2) 23 (dc fun _ => 0) ∧ Below N w w4) := by
     obtain ⟨h0, h1, h2, h3⟩ := FY.out
     have := h0.lt
     have := h1.lt
     have := h2.lt
     have := b3.size
     exact ⟨h0.go b3, h1.go b3, h2.go b3, h3.trans (b3.mono (by omega))⟩
    clear b3 FY
    refine ⟨_, rfl, trivial, ?_⟩
    simp only [Act.put, arr9, hd9, tl9]
    refine held_one 2 (by kernel_rfl) ?_
    refine step_value 2 _ _ (some 9) (.agg (dc p2).toArray) w4 (by rfl) (by kernel_rfl) (run_loadRowD (g := (N + 1)) (by kernel_rfl) FZ.out.2.1 Try.underlying23 rfl (info_dD.trans (size_dc _))) trivial ?_
    simp only [Act.put, arr9, hd9, tl9]
    refine held_one 3 (by kernel_rfl) ?_
    refine step_call 3 _ _ (some 10) 12 #[.agg (dc p2).toArray] (by rfl) (by kernel_rfl) (by first | kernel_rfl | go_simp) ?_
    refine (HR2.out w4).mono ?_
    rintro e w6 ⟨rfl, b5⟩
    have FA : Shh (Row w6 N 23 (dc p) ∧ Row w6 (N + 1) 23 (dc p2) ∧ Row w6 (N + 2) 23 (dc fun _ => 0) ∧ Below N w w6) := by
     obtain ⟨h0, h1, h2, h3⟩ := FZ.out
     have := h0.lt
     have := h1.lt
     have := h2.lt
     have := b5.size
     exact ⟨h0.go b5, h1.go b5, h2.go b5, h3.trans (b5.mono (by omega))⟩
    clear b5 FZ
    refine ⟨_, rfl, trivial, ?_⟩
    simp only [Act.put, arr9, hd9, tl9]
    refine held_one 4 (by kernel_rfl) ?_
    refine step_storeRow 4 23 (.tmp 2) (.tmp 8) (by rfl) (by kernel_rfl) N (by kernel_rfl) (dc r1) (by kernel_rfl) 23 _ FA.out.1 (info_dD.trans (size_dc _)) (same_dc _ _) (dc_one _) ?_
    intro w8 r9 bt7 zbt7
    have FB : Shh (Row w8 N 23 (dc r1) ∧ Row w8 (N + 1) 23 (dc p2) ∧ Row w8 (N + 2) 23 (dc fun _ => 0) ∧ Below N w w8) := by
     obtain ⟨h0, h1, h2, h3⟩ := FA.out
     have := h0.lt
     have := h1.lt
     have := h2.lt
     have hb := bt7.under (Nat.le_of_lt h0.lt) (Nat.le_refl _)
     have := hb.size
     exact ⟨r9, bt7.row h1 h1.lt (by omega), bt7.row h2 h2.lt (by omega), h3.trans (hb.mono (by omega))⟩
    clear bt7 FA r9 zbt7
    refine ⟨trivial, ?_⟩
    refine held_one 5 (by kernel_rfl) ?_
    refine step_storeRow 5 23 (.tmp 3) (.tmp 10) (by rfl) (by kernel_rfl) (N + 1) (by kernel_rfl) (dc r2) (by kernel_rfl) 23 _ FB.out.2.1 (info_dD.trans (size_dc _)) (same_dc _ _) (dc_one _) ?_
    intro w11 r12 bt10 zbt10
    have FC : Shh (Row w11 N 23 (dc r1) ∧ Row w11 (N + 1) 23 (dc r2) ∧ Row w11 (N + 2) 23 (dc fun _ => 0) ∧ Below N w w11) := by
     obtain ⟨h0, h1, h2, h3⟩ := FB.out
     have := h0.lt
     have := h1.lt
     have := h2.lt
     have hb := bt10.under (Nat.le_of_lt h1.lt) (Nat.le_refl _)
     have := hb.size
     exact ⟨bt10.row h0 h0.lt (by omega), r12, bt10.row h2 h2.lt (by omega), h3.trans (hb.mono (by omega))⟩
    clear bt10 FB r12 zbt10
    refine ⟨trivial, ?_⟩
    refine wpAnyH_done (by kernel_rfl) ?_ _
    have HZ := FC
    clear FC
    revert HZ
    revert w11
    exact hT.out
   ·refine step_value 2 _ _ (some 9) (.agg (dc p2).toArray) X1 (by rfl) (by kernel_rfl) (run_loadRowD (g := (N + 1)) (by kernel_rfl) FY.out.2.1 Try.underlying23 rfl (info_dD.trans (size_dc _))) trivial ?_
    simp only [Act.put, arr9, hd9, tl9]
    refine held_one 1 (by kernel_rfl) ?_
    refine step_call 1 _ _ (some 8) 12 #[.agg (dc p).toArray] (by rfl) (by kernel_rfl) (by first | kernel_rfl | go_simp) ?_
    refine (HR1.out X1).mono ?_
    rintro e w4 ⟨rfl, b3⟩
    have FZ : Shh (Row w4 N 23 (dc p) ∧ Row w4 (N + 1) 23 (dc p2) ∧ Row w4 (N + 2) 23 (dc fun _ => 0) ∧ Below N w w4) := by
     obtain ⟨h0, h1, h2, h3⟩ := FY.out
     have := h0.lt
     have := h1.lt
     have := h2.lt
     have := b3.size
     exact ⟨h0.go b3, h1.go b3, h2.go b3, h3.trans (b3.mono (by omega))⟩
    clear b3 FY
    refine ⟨_, rfl, trivial, ?_⟩
    simp only [Act.put, arr9, hd9, tl9]
    refine held_one 3 (by kernel_rfl) ?_
    refine step_call 3 _ _ (some 10) 12 #[.agg (dc p2).toArray] (by rfl) (by kernel_rfl) (by first | kernel_rfl | go_simp) ?_
    refine (HR2.out w4).mono ?_
    rintro e w6 ⟨rfl, b5⟩
    have FA : Shh (Row w6 N 23 (dc p) ∧ Row w6 (N + 1) 23 (dc p2) ∧ Row w6 (N + 2) 23 (dc fun _ => 0) ∧ Below N w w6) := by
     obtain ⟨h0, h1, h2, h3⟩ := FZ.out
     have := h0.lt
     have := h1.lt
     have := h2.lt
     have := b5.size
     exact ⟨h0.go b5, h1.go b5, h2.go b5, h3.trans (b5.mono (by omega))⟩
    clear b5 FZ
    refine ⟨_, rfl, trivial, ?_⟩
    simp only [Act.put, arr9, hd9, tl9]
    refine held_one 4 (by kernel_rfl) ?_
    refine step_storeRow 4 23 (.tmp 2) (.tmp 8) (by rfl) (by kernel_rfl) N (by kernel_rfl) (dc r1) (by kernel_rfl) 23 _ FA.out.1 (info_dD.trans (size_dc _)) (same_dc _ _) (dc_one _) ?_
    intro w8 r9 bt7 zbt7
    have FB : Shh (Row w8 N 23 (dc r1) ∧ Row w8 (N + 1) 23 (dc p2) ∧ Row w8 (N + 2) 23 (dc fun _ => 0) ∧ Below N w w8) := by
     obtain ⟨h0, h1, h2, h3⟩ := FA.out
     have := h0.lt
     have := h1.lt
     have := h2.lt
     have hb := bt7.under (Nat.le_of_lt h0.lt) (Nat.le_refl _)
     have := hb.size
     exact ⟨r9, bt7.row h1 h1.lt (by omega), bt7.row h2 h2.lt (by omega), h3.trans (hb.mono (by omega))⟩
    clear bt7 FA r9 zbt7
    refine ⟨trivial, ?_⟩
    refine held_one 5 (by kernel_rfl) ?_
    refine step_storeRow 5 23 (.tmp 3) (.tmp 10) (by rfl) (by kernel_rfl) (N + 1) (by kernel_rfl) (dc r2) (by kernel_rfl) 23 _ FB.out.2.1 (info_dD.trans (size_dc _)) (same_dc _ _) (dc_one _) ?_
    intro w11 r12 bt10 zbt10
    have FC : Shh (Row w11 N 23 (dc r1) ∧ Row w11 (N + 1) 23 (dc r2) ∧ Row w11 (N + 2) 23 (dc fun _ => 0) ∧ Below N w w11) := by
     obtain ⟨h0, h1, h2, h3⟩ := FB.out
     have := h0.lt
     have := h1.lt
     have := h2.lt
     have hb := bt10.under (Nat.le_of_lt h1.lt) (Nat.le_refl _)
     have := hb.size
     exact ⟨bt10.row h0 h0.lt (by omega), r12, bt10.row h2 h2.lt (by omega), h3.trans (hb.mono (by omega))⟩
    clear bt10 FB r12 zbt10
    refine ⟨trivial, ?_⟩
    refine wpAnyH_done (by kernel_rfl) ?_ _
    have HZ := FC
    clear FC
    revert HZ
    revert w11
    exact hT.out
  ·refine step_value 2 _ _ (some 9) (.agg (dc p2).toArray) X1 (by rfl) (by kernel_rfl) (run_loadRowD (g := (N + 1)) (by kernel_rfl) FY.out.2.1 Try.underlying23 rfl (info_dD.trans (size_dc _))) trivial ?_
   simp only [Act.put, arr9, hd9, tl9]
   refine held_one 0 (by kernel_rfl) ?_
   refine step_value 0 _ _ (some 7) (.agg (dc p).toArray) X1 (by rfl) (by kernel_rfl) (run_loadRowD (g := N) (by kernel_rfl) FY.out.1 Try.underlying23 rfl (info_dD.trans (size_dc _))) trivial ?_
   simp only [Act.put, arr9, hd9, tl9]
   refine held_one 1 (by kernel_rfl) ?_
   refine step_call 1 _ _ (some 8) 12 #[.agg (dc p).toArray] (by rfl) (by kernel_rfl) (by first | kernel_rfl | go_simp) ?_
   refine (HR1.out X1).mono ?_
   rintro e w4 ⟨rfl, b3⟩
   have FZ : Shh (Row w4 N 23 (dc p) ∧ Row w4 (N + 1) 23 (dc p2) ∧ Row w4 (N + 2) 23 (dc fun _ => 0) ∧ Below N w w4) := by
    obtain ⟨h0, h1, h2, h3⟩ := FY.out
    have := h0.lt
    have := h1.lt
    have := h2.lt
    have := b3.size
    exact ⟨h0.go b3, h1.go b3, h2.go b3, h3.trans (b3.mono (by omega))⟩
   clear b3 FY
   refine ⟨_, rfl, trivial, ?_⟩
   simp only [Act.put, arr9, hd9, tl9]
   refine held_one 3 (by kernel_rfl) ?_
   refine step_call 3 _ _ (some 10) 12 #[.agg (dc p2).toArray] (by rfl) (by kernel_rfl) (by first | kernel_rfl | go_simp) ?_
   refine (HR2.out w4).mono ?_
   rintro e w6 ⟨rfl, b5⟩
   have FA : Shh (Row w6 N 23 (dc p) ∧ Row w6 (N + 1) 23 (dc p2) ∧ Row w6 (N + 2) 23 (dc fun _ => 0) ∧ Below N w w6) := by
    obtain ⟨h0, h1, h2, h3⟩ := FZ.out
    have := h0.lt
    have := h1.lt
    have := h2.lt
    have := b5.size
    exact ⟨h0.go b5, h1.go b5, h2.go b5, h3.trans (b5.mono (by omega))⟩
   clear b5 FZ
   refine ⟨_, rfl, trivial, ?_⟩
   simp only [Act.put, arr9, hd9, tl9]
   refine held_one 4 (by kernel_rfl) ?_
   refine step_storeRow 4 23 (.tmp 2) (.tmp 8) (by rfl) (by kernel_rfl) N (by kernel_rfl) (dc r1) (by kernel_rfl) 23 _ FA.out.1 (info_dD.trans (size_dc _)) (same_dc _ _) (dc_one _) ?_
   intro w8 r9 bt7 zbt7
   have FB : Shh (Row w8 N 23 (dc r1) ∧ Row w8 (N + 1) 23 (dc p2) ∧ Row w8 (N + 2) 23 (dc fun _ => 0) ∧ Below N w w8) := by
    obtain ⟨h0, h1, h2, h3⟩ := FA.out
    have := h0.lt
    have := h1.lt
    have := h2.lt
    have hb := bt7.under (Nat.le_of_lt h0.lt) (Nat.le_refl _)
    have := hb.size
    exact ⟨r9, bt7.row h1 h1.lt (by omega), bt7.row h2 h2.lt (by omega), h3.trans (hb.mono (by omega))⟩
   clear bt7 FA r9 zbt7
   refine ⟨trivial, ?_⟩
   refine held_one 5 (by kernel_rfl) ?_
   refine step_storeRow 5 23 (.tmp 3) (.tmp 10) (by rfl) (by kernel_rfl) (N + 1) (by kernel_rfl) (dc r2) (by kernel_rfl) 23 _ FB.out.2.1 (info_dD.trans (size_dc _)) (same_dc _ _) (dc_one _) ?_
   intro w11 r12 bt10 zbt10
   have FC : Shh (Row w11 N 23 (dc r1) ∧ Row w11 (N + 1) 23 (dc r2) ∧ Row w11 (N + 2) 23 (dc fun _ => 0) ∧ Below N w w11) := by
    obtain ⟨h0, h1, h2, h3⟩ := FB.out
    have := h0.lt
    have := h1.lt
    have := h2.lt
    have hb := bt10.under (Nat.le_of_lt h1.lt) (Nat.le_refl _)
    have := hb.size
    exact ⟨bt10.row h0 h0.lt (by omega), r12, bt10.row h2 h2.lt (by omega), h3.trans (hb.mono (by omega))⟩
   clear bt10 FB r12 zbt10
   refine ⟨trivial, ?_⟩
   refine wpAnyH_done (by kernel_rfl) ?_ _
   have HZ := FC
   clear FC
   revert HZ
   revert w11
   exact hT.out
 case tt2 =>
  clear FC
  intro Z HZ
  clear HR1 HR2
  go_wp2_with (refine wpList_load_any rfl 23 (.tmp 3) rfl (N + 1) rfl 23 (dc r2) (.array 256 21) HZ.out.2.1 Try.underlying23 rfl (info_dD.trans (size_dc _)) ?_)
  go_loopw [12] (fun i wr => ∃ k : Nat, k ≤ 256 ∧ i = .int .i64 (k : Int) ∧ Shh (Row wr N 23 (dc (dhf fin r1 k)) ∧ Row wr (N + 1) 23 (dc r2) ∧ Row wr (N + 2) 23 (dc fun _ => 0) ∧ Below N w wr)) (fun i _ => 256 - (intOf i).toNat)
  case atStart => exact ⟨0, Nat.zero_le _, rfl, ⟨by simp only [dhf_zero]; exact HZ.out⟩⟩
  case round =>
   clear HZ
   obtain ⟨k, hk, rfl, HI⟩ := hrel
   by_cases hlt : k < 256
   ·have HC := Shh.mk (HF.out k)
    have HN1 := Shh.mk (dhf_next fin r1 k)
    have HG := Shh.mk (dc_get r2 hlt)
    have HL := Shh.mk ((HI.out.1.cell k).trans (dhf_at fin r1 hlt))
    generalize fin k = fk at *
    generalize r1 k = ak at *
    generalize r2 k = bk at *
    have hlt2 : (k : Int) < 256 := by omega
    go_wp2_with (first | refine wl_at 15 rfl (.int .i32 bk) rfl (idx_dD hlt HG.out rfl rfl rfl) ?_ | refine wl_at 18 rfl (.pointer (some ⟨N, k, none⟩)) rfl (at_dD hlt rfl rfl rfl) ?_ | refine wl_at 19 rfl (.int .i32 ak) rfl (load_d rfl HL.out rfl) ?_ | (go_at_call 51; refine (HC.out _).mono ?_))
    rintro e w3 ⟨rfl, rfl⟩
    go_wp2_with (first | refine wl_at 22 rfl (.pointer (some ⟨N, k, none⟩)) rfl (at_dD hlt rfl rfl rfl) ?_ | refine wl_storeD rfl hlt rfl rfl rfl HI.out.1 ?_)
    intro w4 r5 bt6 zbt6
    rw [HN1.out] at r5
    have HJ : Shh (Row w4 N 23 (dc (dhf fin r1 (k + 1))) ∧ Row w4 (N + 1) 23 (dc r2) ∧ Row w4 (N + 2) 23 (dc fun _ => 0) ∧ Below N w w4) := by
     obtain ⟨h0, h1, h2, h3⟩ := HI.out
     have := h0.lt
     have := h1.lt
     have := h2.lt
     have hb := bt6.under (Nat.le_of_lt h0.lt) (Nat.le_refl _)
     have := hb.size
     exact ⟨r5, bt6.row h1 h1.lt (by omega), bt6.row h2 h2.lt (by omega), h3.trans (hb.mono (by omega))⟩
    clear bt6 HI r5 zbt6 HL
    go_wp2
    go_roundw
    case rel => exact ⟨k + 1, by omega, by go_num, HJ⟩
    case measure => simp [intOf]; omega
   ·have hlt2 : ¬ (k : Int) < 256 := by omega
    have HJ : Shh (Row wr N 23 (dc fin) ∧ Row wr (N + 1) 23 (dc r2) ∧ Row wr (N + 2) 23 (dc fun _ => 0) ∧ Below N w wr) := by
     have h := HI.out
     rw [show k = 256 by omega] at h
     simp only [dhf_all] at h
     exact ⟨h⟩
    clear HI
    go_wp2_with (first | refine wpList_load_any rfl 23 (.tmp 2) rfl N rfl 23 (dc fin) (.array 256 21) HJ.out.1 Try.underlying23 rfl (info_dD.trans (size_dc _)) ?_ | refine wpList_store_any rfl 23 (.tmp 4) (.tmp 24) rfl (N + 2) rfl (dc fin) rfl 23 _ HJ.out.2.2.1 (info_dD.trans (size_dc _)) (same_dc _ _) (dc_one _) ?_)
    intro w3 r4 bt5 zbt5
    have HK : Shh (Row w3 N 23 (dc fin) ∧ Row w3 (N + 1) 23 (dc r2) ∧ Row w3 (N + 2) 23 (dc fin) ∧ Below N w w3) := by
     obtain ⟨h0, h1, h2, h3⟩ := HJ.out
     have := h0.lt
     have := h1.lt
     have := h2.lt
     have hb := bt5.under (Nat.le_of_lt h2.lt) (Nat.le_refl _)
     have := hb.size
     exact ⟨bt5.row h0 h0.lt (by omega), bt5.row h1 h1.lt (by omega), r4, h3.trans (hb.mono (by omega))⟩
    clear bt5 HJ r4 zbt5
    go_wp2
    exact ret_row Try.results29 rfl rfl HK.out.2.2.1 Try.underlying23 rfl (info_dD.trans (size_dc _)) ⟨rfl, HK.out.2.2.2⟩
set_option maxHeartbeats 4000000 in
theorem refAdd_any (p p2 : Nat → Int) (hp : ∀ i, i < 256 → i32 (p i)) (hp2 : ∀ i, i < 256 → i32 (p2 i)) (w : World) : Calls Try.prog 19 #[polyD p, polyD p2] w (DPolyIs w (addD p p2)) := by
 unfold DPolyIs polyD
 have HF : Shh (∀ k, k < 256 → ∃ s, (s = p k + p2 k ∧ -9223372036854775808 ≤ s ∧ s ≤ 9223372036854775807) ∧ (∀ W, Calls Try.prog 46 #[.int .i64 s] W (I64Is W (addD p p2 k))) ∧ i32 (p k) ∧ i32 (p2 k) ∧ i32 (addD p p2 k)) := ⟨fun k hk => by
  have h1 := hp k hk
  have h2 := hp2 k hk
  unfold i32 at h1 h2
  exact ⟨_, ⟨rfl, by omega, by omega⟩, fun W => refMod_any _ (by unfold i64; omega) W, hp k hk, hp2 k hk, qd_32 _⟩⟩
 clear hp hp2
 generalize addD p p2 = fin at *
 generalize hN : w.heap.size = N at *
 have FA : Shh (Row (((w.alloc (.cells (dc p).toArray 23)).alloc (.cells (dc p2).toArray 23)).alloc (.cells (dc fun _ => 0).toArray 23)) N 23 (dc p) ∧ Row (((w.alloc (.cells (dc p).toArray 23)).alloc (.cells (dc p2).toArray 23)).alloc (.cells (dc fun _ => 0).toArray 23)) (N + 1) 23 (dc p2) ∧ Row (((w.alloc (.cells (dc p).toArray 23)).alloc (.cells (dc p2).toArray 23)).alloc (.cells (dc fun _ => 0).toArray 23)) (N + 2) 23 (dc fun _ => 0) ∧ Below N w (((w.alloc (.cells (dc p).toArray 23)).alloc (.cells (dc p2).toArray 23)).alloc (.cells (dc fun _ => 0).toArray 23))) := by
  refine ⟨(((Row.new_ hN.symm rfl).alloc _).alloc _), ((Row.new_ (by rw [asz, hN]) rfl).alloc _), (Row.new_ (by rw [asz, asz, hN]) rfl), ?_⟩
  rw [← hN]
  exact Below.chain (Below.chain (belA _ _) (belA _ _)) (belA _ _)
 go_enter Try.func19, Try.ntmps19
 obtain ⟨W, hW⟩ : ∃ W, W = (((w.alloc (.cells (dc p).toArray 23)).alloc (.cells (dc p2).toArray 23)).alloc (.cells (dc fun _ => 0).toArray 23)) := ⟨_, rfl⟩
 have FB : Shh (Row W N 23 (dc p) ∧ Row W (N + 1) 23 (dc p2) ∧ Row W (N + 2) 23 (dc fun _ => 0) ∧ Below N w W) := by rw [hW]; exact FA
 clear FA
 go_wp2_with (refine wl_allocD rfl rfl ?_)
 try simp only [asz, hN]
 rw [← hW]
 clear hW
 go_wp2
 go_loopw [6] (fun i wr => ∃ k : Nat, k ≤ 256 ∧ i = .int .i64 (k : Int) ∧ Shh (Row wr N 23 (dc (dhf fin p k)) ∧ Row wr (N + 1) 23 (dc p2) ∧ Row wr (N + 2) 23 (dc fun _ => 0) ∧ Below N w wr)) (fun i _ => 256 - (intOf i).toNat)
 case atStart => exact ⟨0, Nat.zero_le _, rfl, ⟨by simp only [dhf_zero]; exact FB.out⟩⟩
 case round =>
  clear FB
  obtain ⟨k, hk, rfl, HI⟩ := hrel
  by_cases hlt : k < 256
  ·obtain ⟨s, h1, h2, h3⟩ := HF.out k hlt
   have HS := Shh.mk h1
   have HC := Shh.mk h2
   have H3 := Shh.mk h3
   clear h1 h2 h3
   have HN1 := Shh.mk (dhf_next fin p k)
   have HG1 := Shh.mk (dhf_at fin p hlt)
   have HG2 := Shh.mk (dc_get p2 hlt)
   generalize fin k = fk at *
   generalize p k = ak at *
   generalize p2 k = bk at *
   have hlt2 : (k : Int) < 256 := by omega
   go_wp2
   refine wp_region_held_drew (S := fun w' => True) (by kernel_rfl) trivial (fun hS => ?_)
   clear hS
   obtain ⟨X1, hX1⟩ : ∃ V, V = World.drew wr := ⟨_, rfl⟩
   rw [← hX1]
   have HJ : Shh (Row X1 N 23 (dc (dhf fin p k)) ∧ Row X1 (N + 1) 23 (dc p2) ∧ Row X1 (N + 2) 23 (dc fun _ => 0) ∧ Below N w X1) := by
    obtain ⟨h0, h1, h2, h3⟩ := HI.out
    rw [hX1]
    exact ⟨h0.drew, h1.drew, h2.drew, h3.drew⟩
   clear hX1 HI
   refine hdv0 0 9 (.int .i64 (k : Int)) (by rfl) trivial ?_
   refine hdv0 1 10 (.int .i64 (k : Int)) (by rfl) trivial ?_
   refine hdv 2 11 (.pointer (some ⟨N, k, none⟩)) (by rfl) (fun w hS => at_dD hlt rfl (by kernel_rfl) (by kernel_rfl)) trivial ?_
   refine hdv0 5 14 (.int .i64 (k : Int)) (by rfl) trivial ?_
   refine hdv 6 15 (.pointer (some ⟨(N + 1), k, none⟩)) (by rfl) (fun w hS => at_dD hlt rfl (by kernel_rfl) (by kernel_rfl)) trivial ?_
   refine held_two 3 7 (by kernel_rfl) ?_ ?_
   ·refine step_value 3 _ _ (some 12) (.int .i32 ak) X1 (by rfl) (by kernel_rfl) (load_d rfl ((HJ.out.1.cell k).trans HG1.out) (by kernel_rfl)) trivial ?_
    simp only [Act.put, arr9, hd9, tl9]
    refine hdv 4 13 (.int .i64 ak) (by rfl) (fun w hS => conv_dl H3.out.1 rfl (by kernel_rfl)) trivial ?_
    refine held_one 7 (by kernel_rfl) ?_
    refine step_value 7 _ _ (some 16) (.int .i32 bk) X1 (by rfl) (by kernel_rfl) (load_d rfl ((HJ.out.2.1.cell k).trans HG2.out) (by kernel_rfl)) trivial ?_
    simp only [Act.put, arr9, hd9, tl9]
    refine hdv 8 17 (.int .i64 bk) (by rfl) (fun w hS => conv_dl H3.out.2.1 rfl (by kernel_rfl)) trivial ?_
    refine hdv 9 18 (.int .i64 s) (by rfl) (fun w hS => add_l HS.out rfl (by kernel_rfl) (by kernel_rfl)) trivial ?_
    refine held_one 10 (by kernel_rfl) ?_
    refine step_call 10 _ _ (some 19) 46 #[.int .i64 s] (by rfl) (by kernel_rfl) (by first | kernel_rfl | go_simp) ?_
    refine (HC.out X1).mono ?_
    rintro e w2 ⟨rfl, hq⟩
    obtain rfl : X1 = w2 := hq
    refine ⟨_, rfl, trivial, ?_⟩
    simp only [Act.put, arr9, hd9, tl9]
    refine hdv 11 20 (.int .i32 fk) (by rfl) (fun w hS => conv_ld H3.out.2.2 rfl (by kernel_rfl)) trivial ?_
    refine hdv 12 21 (.pointer (some ⟨N, k, none⟩)) (by rfl) (fun w hS => at_dD hlt rfl (by kernel_rfl) (by kernel_rfl)) trivial ?_
    refine held_one 13 (by kernel_rfl) ?_
    refine step_storeD 13 (v := fk) (by rfl) (by kernel_rfl) hlt HJ.out.1 (by kernel_rfl) (by kernel_rfl) ?_
    intro w4 r5 bt3 zbt3
    have HK : Shh (Row w4 N 23 (dc (dhf fin p (k + 1))) ∧ Row w4 (N + 1) 23 (dc p2) ∧ Row w4 (N + 2) 23 (dc fun _ => 0) ∧ Below N w w4) := by
     obtain ⟨h0, h1, h2, h3⟩ := HJ.out
     have := h0.lt
     have := h1.lt
     have := h2.lt
     have hb := bt3.under (Nat.le_of_lt h0.lt) (Nat.le_refl _)
     have := hb.size
     rw [HN1.out] at r5
     exact ⟨r5, bt3.row h1 h1.lt (by omega), bt3.row h2 h2.lt (by omega), h3.trans (hb.mono (by omega))⟩
    clear bt3 HJ r5 zbt3
    refine ⟨trivial, ?_⟩
    refine wpAnyH_done (by kernel_rfl) ?_ _
    go_wp2
    go_roundw
    case rel => exact ⟨k + 1, by omega, by go_num, HK⟩
    case measure => simp [intOf]; omega
   ·refine step_value 7 _ _ (some 16) (.int .i32 bk) X1 (by rfl) (by kernel_rfl) (load_d rfl ((HJ.out.2.1.cell k).trans HG2.out) (by kernel_rfl)) trivial ?_
    simp only [Act.put, arr9, hd9, tl9]
    refine hdv 8 17 (.int .i64 bk) (by rfl) (fun w hS => conv_dl H3.out.2.1 rfl (by kernel_rfl)) trivial ?_
    refine held_one 3 (by kernel_rfl) ?_
    refine step_value 3 _ _ (some 12) (.int .i32 ak) X1 (by rfl) (by kernel_rfl) (load_d rfl ((HJ.out.1.cell k).trans HG1.out) (by kernel_rfl)) trivial ?_
    simp only [Act.put, arr9, hd9, tl9]
    refine hdv 4 13 (.int .i64 ak) (by rfl) (fun w hS => conv_dl H3.out.1 rfl (by kernel_rfl)) trivial ?_
    refine hdv 9 18 (.int .i64 s) (by rfl) (fun w hS => add_l HS.out rfl (by kernel_rfl) (by kernel_rfl)) trivial ?_
    refine held_one 10 (by kernel_rfl) ?_
    refine step_call 10 _ _ (some 19) 46 #[.int .i64 s] (by rfl) (by kernel_rfl) (by first | kernel_rfl | go_simp) ?_
    refine (HC.out X1).mono ?_
    rintro e w2 ⟨rfl, hq⟩
    obtain rfl : X1 = w2 := hq
    refine ⟨_, rfl, trivial, ?_⟩
    simp only [Act.put, arr9, hd9, tl9]
    refine hdv 11 20 (.int .i32 fk) (by rfl) (fun w hS => conv_ld H3.out.2.2 rfl (by kernel_rfl)) trivial ?_
    refine hdv 12 21 (.pointer (some ⟨N, k, none⟩)) (by rfl) (fun w hS => at_dD hlt rfl (by kernel_rfl) (by kernel_rfl)) trivial ?_
    refine held_one 13 (by kernel_rfl) ?_
    refine step_storeD 13 (v := fk) (by rfl) (by kernel_rfl) hlt HJ.out.1 (by kernel_rfl) (by kernel_rfl) ?_
    intro w4 r5 bt3 zbt3
    have HK : Shh (Row w4 N 23 (dc (dhf fin p (k + 1))) ∧ Row w4 (N + 1) 23 (dc p2) ∧ Row w4 (N + 2) 23 (dc fun _ => 0) ∧ Below N w w4) := by
     obtain ⟨h0, h1, h2, h3⟩ := HJ.out
     have := h0.lt
     have := h1.lt
     have := h2.lt
     have hb := bt3.under (Nat.le_of_lt h0.lt) (Nat.le_refl _)
     have := hb.size
     rw [HN1.out] at r5
     exact ⟨r5, bt3.row h1 h1.lt (by omega), bt3.row h2 h2.lt (by omega), h3.trans (hb.mono (by omega))⟩
    clear bt3 HJ r5 zbt3
    refine ⟨trivial, ?_⟩
    refine wpAnyH_done (by kernel_rfl) ?_ _
    go_wp2
    go_roundw
    case rel => exact ⟨k + 1, by omega, by go_num, HK⟩
    case measure => simp [intOf]; omega
  ·have hlt2 : ¬ (k : Int) < 256 := by omega
   have HJ : Shh (Row wr N 23 (dc fin) ∧ Row wr (N + 1) 23 (dc p2) ∧ Row wr (N + 2) 23 (dc fun _ => 0) ∧ Below N w wr) := by
    have h := HI.out
    rw [show k = 256 by omega] at h
    simp only [dhf_all] at h
    exact ⟨h⟩
   clear HI
   go_wp2_with (first | refine wpList_load_any rfl 23 (.tmp 2) rfl N rfl 23 (dc fin) (.array 256 21) HJ.out.1 Try.underlying23 rfl (info_dD.trans (size_dc _)) ?_ | refine wpList_store_any rfl 23 (.tmp 4) (.tmp 23) rfl (N + 2) rfl (dc fin) rfl 23 _ HJ.out.2.2.1 (info_dD.trans (size_dc _)) (same_dc _ _) (dc_one _) ?_)
   intro w1 r2 bt3 zbt3
   have HK : Shh (Row w1 N 23 (dc fin) ∧ Row w1 (N + 1) 23 (dc p2) ∧ Row w1 (N + 2) 23 (dc fin) ∧ Below N w w1) := by
    obtain ⟨h0, h1, h2, h3⟩ := HJ.out
    have := h0.lt
    have := h1.lt
    have := h2.lt
    have hb := bt3.under (Nat.le_of_lt h2.lt) (Nat.le_refl _)
    have := hb.size
    exact ⟨bt3.row h0 h0.lt (by omega), bt3.row h1 h1.lt (by omega), r2, h3.trans (hb.mono (by omega))⟩
   clear bt3 HJ r2 zbt3
   go_wp2
   exact ret_row Try.results19 rfl rfl HK.out.2.2.1 Try.underlying23 rfl (info_dD.trans (size_dc _)) ⟨rfl, HK.out.2.2.2⟩
set_option maxHeartbeats 4000000 in
theorem refSub_any (p p2 : Nat → Int) (hp : ∀ i, i < 256 → i32 (p i)) (hp2 : ∀ i, i < 256 → i32 (p2 i)) (w : World) : Calls Try.prog 21 #[polyD p, polyD p2] w (DPolyIs w (subD p p2)) := by
 unfold DPolyIs polyD
 have HF : Shh (∀ k, k < 256 → ∃ s, (s = p k - p2 k ∧ -9223372036854775808 ≤ s ∧ s ≤ 9223372036854775807) ∧ (∀ W, Calls Try.prog 46 #[.int .i64 s] W (I64Is W (subD p p2 k))) ∧ i32 (p k) ∧ i32 (p2 k) ∧ i32 (subD p p2 k)) := ⟨fun k hk => by
  have h1 := hp k hk
  have h2 := hp2 k hk
  unfold i32 at h1 h2
  exact ⟨_, ⟨rfl, by omega, by omega⟩, fun W => refMod_any _ (by unfold i64; omega) W, hp k hk, hp2 k hk, qd_32 _⟩⟩
 clear hp hp2
 generalize subD p p2 = fin at *
 generalize hN : w.heap.size = N at *
 have FA : Shh (Row (((w.alloc (.cells (dc p).toArray 23)).alloc (.cells (dc p2).toArray 23)).alloc (.cells (dc fun _ => 0).toArray 23)) N 23 (dc p) ∧ Row (((w.alloc (.cells (dc p).toArray 23)).alloc (.cells (dc p2).toArray 23)).alloc (.cells (dc fun _ => 0).toArray 23)) (N + 1) 23 (dc p2) ∧ Row (((w.alloc (.cells (dc p).toArray 23)).alloc (.cells (dc p2).toArray 23)).alloc (.cells (dc fun _ => 0).toArray 23)) (N + 2) 23 (dc fun _ => 0) ∧ Below N w (((w.alloc (.cells (dc p).toArray 23)).alloc (.cells (dc p2).toArray 23)).alloc (.cells (dc fun _ => 0).toArray 23))) := by
  refine ⟨(((Row.new_ hN.symm rfl).alloc _).alloc _), ((Row.new_ (by rw [asz, hN]) rfl).alloc _), (Row.new_ (by rw [asz, asz, hN]) rfl), ?_⟩
  rw [← hN]
  exact Below.chain (Below.chain (belA _ _) (belA _ _)) (belA _ _)
 go_enter Try.func21, Try.ntmps21
 obtain ⟨W, hW⟩ : ∃ W, W = (((w.alloc (.cells (dc p).toArray 23)).alloc (.cells (dc p2).toArray 23)).alloc (.cells (dc fun _ => 0).toArray 23)) := ⟨_, rfl⟩
 have FB : Shh (Row W N 23 (dc p) ∧ Row W (N + 1) 23 (dc p2) ∧ Row W (N + 2) 23 (dc fun _ => 0) ∧ Below N w W) := by rw [hW]; exact FA
 clear FA
 go_wp2_with (refine wl_allocD rfl rfl ?_)
 try simp only [asz, hN]
 rw [← hW]
 clear hW
 go_wp2
 go_loopw [6] (fun i wr => ∃ k : Nat, k ≤ 256 ∧ i = .int .i64 (k : Int) ∧ Shh (Row wr N 23 (dc (dhf fin p k)) ∧ Row wr (N + 1) 23 (dc p2) ∧ Row wr (N + 2) 23 (dc fun _ => 0) ∧ Below N w wr)) (fun i _ => 256 - (intOf i).toNat)
 case atStart => exact ⟨0, Nat.zero_le _, rfl, ⟨by simp only [dhf_zero]; exact FB.out⟩⟩
 case round =>
  clear FB
  obtain ⟨k, hk, rfl, HI⟩ := hrel
  by_cases hlt : k < 256
  ·obtain ⟨s, h1, h2, h3⟩ := HF.out k hlt
   have HS := Shh.mk h1
   have HC := Shh.mk h2
   have H3 := Shh.mk h3
   clear h1 h2 h3
   have HN1 := Shh.mk (dhf_next fin p k)
   have HG1 := Shh.mk (dhf_at fin p hlt)
   have HG2 := Shh.mk (dc_get p2 hlt)
   generalize fin k = fk at *
   generalize p k = ak at *
   generalize p2 k = bk at *
   have hlt2 : (k : Int) < 256 := by omega
   go_wp2
   refine wp_region_held_drew (S := fun w' => True) (by kernel_rfl) trivial (fun hS => ?_)
   clear hS
   obtain ⟨X1, hX1⟩ : ∃ V, V = World.drew wr := ⟨_, rfl⟩
   rw [← hX1]
   have HJ : Shh (Row X1 N 23 (dc (dhf fin p k)) ∧ Row X1 (N + 1) 23 (dc p2) ∧ Row X1 (N + 2) 23 (dc fun _ => 0) ∧ Below N w X1) := by
    obtain ⟨h0, h1, h2, h3⟩ := HI.out
    rw [hX1]
    exact ⟨h0.drew, h1.drew, h2.drew, h3.drew⟩
   clear hX1 HI
   refine hdv0 0 9 (.int .i64 (k : Int)) (by rfl) trivial ?_
   refine hdv0 1 10 (.int .i64 (k : Int)) (by rfl) trivial ?_
   refine hdv 2 11 (.pointer (some ⟨N, k, none⟩)) (by rfl) (fun w hS => at_dD hlt rfl (by kernel_rfl) (by kernel_rfl)) trivial ?_
   refine hdv0 5 14 (.int .i64 (k : Int)) (by rfl) trivial ?_
   refine hdv 6 15 (.pointer (some ⟨(N + 1), k, none⟩)) (by rfl) (fun w hS => at_dD hlt rfl (by kernel_rfl) (by kernel_rfl)) trivial ?_
   refine held_two 3 7 (by kernel_rfl) ?_ ?_
   ·refine step_value 3 _ _ (some 12) (.int .i32 ak) X1 (by rfl) (by kernel_rfl) (load_d rfl ((HJ.out.1.cell k).trans HG1.out) (by kernel_rfl)) trivial ?_
    simp only [Act.put, arr9, hd9, tl9]
    refine hdv 4 13 (.int .i64 ak) (by rfl) (fun w hS => conv_dl H3.out.1 rfl (by kernel_rfl)) trivial ?_
    refine held_one 7 (by kernel_rfl) ?_
    refine step_value 7 _ _ (some 16) (.int .i32 bk) X1 (by rfl) (by kernel_rfl) (load_d rfl ((HJ.out.2.1.cell k).trans HG2.out) (by kernel_rfl)) trivial ?_
    simp only [Act.put, arr9, hd9, tl9]
    refine hdv 8 17 (.int .i64 bk) (by rfl) (fun w hS => conv_dl H3.out.2.1 rfl (by kernel_rfl)) trivial ?_
    refine hdv 9 18 (.int .i64 s) (by rfl) (fun w hS => sub_l HS.out rfl (by kernel_rfl) (by kernel_rfl)) trivial ?_
    refine held_one 10 (by kernel_rfl) ?_
    refine step_call 10 _ _ (some 19) 46 #[.int .i64 s] (by rfl) (by kernel_rfl) (by first | kernel_rfl | go_simp) ?_
    refine (HC.out X1).mono ?_
    rintro e w2 ⟨rfl, hq⟩
    obtain rfl : X1 = w2 := hq
    refine ⟨_, rfl, trivial, ?_⟩
    simp only [Act.put, arr9, hd9, tl9]
    refine hdv 11 20 (.int .i32 fk) (by rfl) (fun w hS => conv_ld H3.out.2.2 rfl (by kernel_rfl)) trivial ?_
    refine hdv 12 21 (.pointer (some ⟨N, k, none⟩)) (by rfl) (fun w hS => at_dD hlt rfl (by kernel_rfl) (by kernel_rfl)) trivial ?_
    refine held_one 13 (by kernel_rfl) ?_
    refine step_storeD 13 (v := fk) (by rfl) (by kernel_rfl) hlt HJ.out.1 (by kernel_rfl) (by kernel_rfl) ?_
    intro w4 r5 bt3 zbt3
    have HK : Shh (Row w4 N 23 (dc (dhf fin p (k + 1))) ∧ Row w4 (N + 1) 23 (dc p2) ∧ Row w4 (N + 2) 23 (dc fun _ => 0) ∧ Below N w w4) := by
     obtain ⟨h0, h1, h2, h3⟩ := HJ.out
     have := h0.lt
     have := h1.lt
     have := h2.lt
     have hb := bt3.under (Nat.le_of_lt h0.lt) (Nat.le_refl _)
     have := hb.size
     rw [HN1.out] at r5
     exact ⟨r5, bt3.row h1 h1.lt (by omega), bt3.row h2 h2.lt (by omega), h3.trans (hb.mono (by omega))⟩
    clear bt3 HJ r5 zbt3
    refine ⟨trivial, ?_⟩
    refine wpAnyH_done (by kernel_rfl) ?_ _
    go_wp2
    go_roundw
    case rel => exact ⟨k + 1, by omega, by go_num, HK⟩
    case measure => simp [intOf]; omega
   ·refine step_value 7 _ _ (some 16) (.int .i32 bk) X1 (by rfl) (by kernel_rfl) (load_d rfl ((HJ.out.2.1.cell k).trans HG2.out) (by kernel_rfl)) trivial ?_
    simp only [Act.put, arr9, hd9, tl9]
    refine hdv 8 17 (.int .i64 bk) (by rfl) (fun w hS => conv_dl H3.out.2.1 rfl (by kernel_rfl)) trivial ?_
    refine held_one 3 (by kernel_rfl) ?_
    refine step_value 3 _ _ (some 12) (.int .i32 ak) X1 (by rfl) (by kernel_rfl) (load_d rfl ((HJ.out.1.cell k).trans HG1.out) (by kernel_rfl)) trivial ?_
    simp only [Act.put, arr9, hd9, tl9]
    refine hdv 4 13 (.int .i64 ak) (by rfl) (fun w hS => conv_dl H3.out.1 rfl (by kernel_rfl)) trivial ?_
    refine hdv 9 18 (.int .i64 s) (by rfl) (fun w hS => sub_l HS.out rfl (by kernel_rfl) (by kernel_rfl)) trivial ?_
    refine held_one 10 (by kernel_rfl) ?_
    refine step_call 10 _ _ (some 19) 46 #[.int .i64 s] (by rfl) (by kernel_rfl) (by first | kernel_rfl | go_simp) ?_
    refine (HC.out X1).mono ?_
    rintro e w2 ⟨rfl, hq⟩
    obtain rfl : X1 = w2 := hq
    refine ⟨_, rfl, trivial, ?_⟩
    simp only [Act.put, arr9, hd9, tl9]
    refine hdv 11 20 (.int .i32 fk) (by rfl) (fun w hS => conv_ld H3.out.2.2 rfl (by kernel_rfl)) trivial ?_
    refine hdv 12 21 (.pointer (some ⟨N, k, none⟩)) (by rfl) (fun w hS => at_dD hlt rfl (by kernel_rfl) (by kernel_rfl)) trivial ?_
    refine held_one 13 (by kernel_rfl) ?_
    refine step_storeD 13 (v := fk) (by rfl) (by kernel_rfl) hlt HJ.out.1 (by kernel_rfl) (by kernel_rfl) ?_
    intro w4 r5 bt3 zbt3
    have HK : Shh (Row w4 N 23 (dc (dhf fin p (k + 1))) ∧ Row w4 (N + 1) 23 (dc p2) ∧ Row w4 (N + 2) 23 (dc fun _ => 0) ∧ Below N w w4) := by
     obtain ⟨h0, h1, h2, h3⟩ := HJ.out
     have := h0.lt
     have := h1.lt
     have := h2.lt
     have hb := bt3.under (Nat.le_of_lt h0.lt) (Nat.le_refl _)
     have := hb.size
     rw [HN1.out] at r5
     exact ⟨r5, bt3.row h1 h1.lt (by omega), bt3.row h2 h2.lt (by omega), h3.trans (hb.mono (by omega))⟩
    clear bt3 HJ r5 zbt3
    refine ⟨trivial, ?_⟩
    refine wpAnyH_done (by kernel_rfl) ?_ _
    go_wp2
    go_roundw
    case rel => exact ⟨k + 1, by omega, by go_num, HK⟩
    case measure => simp [intOf]; omega
  ·have hlt2 : ¬ (k : Int) < 256 := by omega
   have HJ : Shh (Row wr N 23 (dc fin) ∧ Row wr (N + 1) 23 (dc p2) ∧ Row wr (N + 2) 23 (dc fun _ => 0) ∧ Below N w wr) := by
    have h := HI.out
    rw [show k = 256 by omega] at h
    simp only [dhf_all] at h
    exact ⟨h⟩
   clear HI
   go_wp2_with (first | refine wpList_load_any rfl 23 (.tmp 2) rfl N rfl 23 (dc fin) (.array 256 21) HJ.out.1 Try.underlying23 rfl (info_dD.trans (size_dc _)) ?_ | refine wpList_store_any rfl 23 (.tmp 4) (.tmp 23) rfl (N + 2) rfl (dc fin) rfl 23 _ HJ.out.2.2.1 (info_dD.trans (size_dc _)) (same_dc _ _) (dc_one _) ?_)
   intro w1 r2 bt3 zbt3
   have HK : Shh (Row w1 N 23 (dc fin) ∧ Row w1 (N + 1) 23 (dc p2) ∧ Row w1 (N + 2) 23 (dc fin) ∧ Below N w w1) := by
    obtain ⟨h0, h1, h2, h3⟩ := HJ.out
    have := h0.lt
    have := h1.lt
    have := h2.lt
    have hb := bt3.under (Nat.le_of_lt h2.lt) (Nat.le_refl _)
    have := hb.size
    exact ⟨bt3.row h0 h0.lt (by omega), bt3.row h1 h1.lt (by omega), r2, h3.trans (hb.mono (by omega))⟩
   clear bt3 HJ r2 zbt3
   go_wp2
   exact ret_row Try.results21 rfl rfl HK.out.2.2.1 Try.underlying23 rfl (info_dD.trans (size_dc _)) ⟨rfl, HK.out.2.2.2⟩
set_option maxHeartbeats 4000000 in
theorem refMulNtt_any (p p2 : Nat → Int) (hp : ∀ i, i < 256 → i32 (p i)) (hp2 : ∀ i, i < 256 → i32 (p2 i)) (w : World) : Calls Try.prog 30 #[polyD p, polyD p2] w (DPolyIs w (pairD p p2)) := by
 unfold DPolyIs polyD
 have HR1 : Shh (∀ W, Calls Try.prog 13 #[.agg (dc p).toArray] W (DPolyIs W (redD p))) := ⟨fun W => refReduce_any p hp W⟩
 have HR2 : Shh (∀ W, Calls Try.prog 13 #[.agg (dc p2).toArray] W (DPolyIs W (redD p2))) := ⟨fun W => refReduce_any p2 hp2 W⟩
 have HF : Shh (∀ k, ∃ s, (s = redD p k * redD p2 k ∧ -9223372036854775808 ≤ s ∧ s ≤ 9223372036854775807) ∧ (pairD p p2 k = s.tmod 8380417 ∧ -9223372036854775808 ≤ pairD p p2 k ∧ pairD p p2 k ≤ 9223372036854775807) ∧ i32 (redD p k) ∧ i32 (redD p2 k) ∧ i32 (pairD p p2 k)) := ⟨fun k => by
  have h1 := qd_lt (p k)
  have h2 := qd_lt (p2 k)
  have h3 : redD p k * redD p2 k ≤ 8380417 * 8380417 := Int.mul_le_mul (Int.le_of_lt h1.2) (Int.le_of_lt h2.2) h2.1 (by decide)
  have h4 : 0 ≤ redD p k * redD p2 k := Int.mul_nonneg h1.1 h2.1
  have h5 := qd_lt (p k * p2 k)
  refine ⟨_, ⟨rfl, by omega, by omega⟩, ⟨?_, by unfold pairD; omega, by unfold pairD; omega⟩, qd_32 _, qd_32 _, qd_32 _⟩
  rw [pairD_red, Int.tmod_eq_emod_of_nonneg h4]
  rfl⟩
 clear hp hp2
 generalize pairD p p2 = fin at *
 generalize redD p = r1 at *
 generalize redD p2 = r2 at *
 generalize hN : w.heap.size = N at *
 have FA : Shh (Row (((w.alloc (.cells (dc p).toArray 23)).alloc (.cells (dc p2).toArray 23)).alloc (.cells (dc fun _ => 0).toArray 23)) N 23 (dc p) ∧ Row (((w.alloc (.cells (dc p).toArray 23)).alloc (.cells (dc p2).toArray 23)).alloc (.cells (dc fun _ => 0).toArray 23)) (N + 1) 23 (dc p2) ∧ Row (((w.alloc (.cells (dc p).toArray 23)).alloc (.cells (dc p2).toArray 23)).alloc (.cells (dc fun _ => 0).toArray 23)) (N + 2) 23 (dc fun _ => 0) ∧ Below N w (((w.alloc (.cells (dc p).toArray 23)).alloc (.cells (dc p2).toArray 23)).alloc (.cells (dc fun _ => 0).toArray 23))) := by
  refine ⟨(((Row.new_ hN.symm rfl).alloc _).alloc _), ((Row.new_ (by rw [asz, hN]) rfl).alloc _), (Row.new_ (by rw [asz, asz, hN]) rfl), ?_⟩
  rw [← hN]
  exact Below.chain (Below.chain (belA _ _) (belA _ _)) (belA _ _)
 go_enter Try.func30, Try.ntmps30
 obtain ⟨W, hW⟩ : ∃ W, W = (((w.alloc (.cells (dc p).toArray 23)).alloc (.cells (dc p2).toArray 23)).alloc (.cells (dc fun _ => 0).toArray 23)) := ⟨_, rfl⟩
 have FB : Shh (Row W N 23 (dc p) ∧ Row W (N + 1) 23 (dc p2) ∧ Row W (N + 2) 23 (dc fun _ => 0) ∧ Below N w W) := by rw [hW]; exact FA
 clear FA
 go_wp2_with (refine wl_allocD rfl rfl ?_)
 try simp only [asz, hN]
 rw [← hW]
 clear hW
 try simp only [Act.put, arr9, hd9, tl9]
 refine wp_region_held_drew (S := fun w' => True) (by kernel_rfl) trivial (fun hS => ?_)
 clear hS
 obtain ⟨X1, hX1⟩ : ∃ V, V = World.drew W := ⟨_, rfl⟩
 rw [← hX1]
 have FC : Shh (Row X1 N 23 (dc p) ∧ Row X1 (N + 1) 23 (dc p2) ∧ Row X1 (N + 2) 23 (dc fun _ => 0) ∧ Below N w X1) := by
  obtain ⟨h0, h1, h2, h3⟩ := FB.out
  rw [hX1]
  exact ⟨h0.drew, h1.drew, h2.drew, h3.drew⟩
 clear hX1 FB
 refine share (T := ?T2) (fun hT => ?gg2) ?tt2
 case gg2 =>
  have FY := FC
  refine held_two 0 2 (by kernel_rfl) ?_ ?_
  ·refine step_value 0 _ _ (some 6) (.agg (dc p).toArray) X1 (by rfl) (by kernel_rfl) (run_loadRowD (g := N) (by kernel_rfl) FY.out.1 Try.underlying23 rfl (info_dD.trans (size_dc _))) trivial ?_
   simp only [Act.put, arr9, hd9, tl9]
   refine held_two 1 2 (by kernel_rfl) ?_ ?_
   ·refine step_call 1 _ _ (some 7) 13 #[.agg (dc p).toArray] (by rfl) (by kernel_rfl) (by first | kernel_rfl | go_simp) ?_
    refine (HR1.out X1).mono ?_
    rintro e w4 ⟨rfl, b3⟩
    have FZ : Shh (Row w4 N 23 (dc p) ∧ Row w4 (N + 1) 23 (dc p2) ∧ Row w4 (N + 2) 23 (dc fun _ => 0) ∧ Below N w w4) := by
     obtain ⟨h0, h1, h2, h3⟩ := FY.out
     have := h0.lt
     have := h1.lt
     have := h2.lt
     have := b3.size
     exact ⟨h0.go b3, h1.go b3, h2.go b3, h3.trans (b3.mono (by omega))⟩
    clear b3 FY
    refine ⟨_, rfl, trivial, ?_⟩
    simp only [Act.put, arr9, hd9, tl9]
    refine held_one 2 (by kernel_rfl) ?_
    refine step_value 2 _ _ (some 8) (.agg (dc p2).toArray) w4 (by rfl) (by kernel_rfl) (run_loadRowD (g := (N + 1)) (by kernel_rfl) FZ.out.2.1 Try.underlying23 rfl (info_dD.trans (size_dc _))) trivial ?_
    simp only [Act.put, arr9, hd9, tl9]
    refine held_one 3 (by kernel_rfl) ?_
    refine step_call 3 _ _ (some 9) 13 #[.agg (dc p2).toArray] (by rfl) (by kernel_rfl) (by first | kernel_rfl | go_simp) ?_
    refine (HR2.out w4).mono ?_
    rintro e w6 ⟨rfl, b5⟩
    have FA : Shh (Row w6 N 23 (dc p) ∧ Row w6 (N + 1) 23 (dc p2) ∧ Row w6 (N + 2) 23 (dc fun _ => 0) ∧ Below N w w6) := by
     obtain ⟨h0, h1, h2, h3⟩ := FZ.out
     have := h0.lt
     have := h1.lt
     have := h2.lt
     have := b5.size
     exact ⟨h0.go b5, h1.go b5, h2.go b5, h3.trans (b5.mono (by omega))⟩
    clear b5 FZ
    refine ⟨_, rfl, trivial, ?_⟩
    simp only [Act.put, arr9, hd9, tl9]
    refine held_one 4 (by kernel_rfl) ?_
    refine step_storeRow 4 23 (.tmp 2) (.tmp 7) (by rfl) (by kernel_rfl) N (by kernel_rfl) (dc r1) (by kernel_rfl) 23 _ FA.out.1 (info_dD.trans (size_dc _)) (same_dc _ _) (dc_one _) ?_
    intro w8 r9 bt7 zbt7
    have FB : Shh (Row w8 N 23 (dc r1) ∧ Row w8 (N + 1) 23 (dc p2) ∧ Row w8 (N + 2) 23 (dc fun _ => 0) ∧ Below N w w8) := by
     obtain ⟨h0, h1, h2, h3⟩ := FA.out
     have := h0.lt
     have := h1.lt
     have := h2.lt
     have hb := bt7.under (Nat.le_of_lt h0.lt) (Nat.le_refl _)
     have := hb.size
     exact ⟨r9, bt7.row h1 h1.lt (by omega), bt7.row h2 h2.lt (by omega), h3.trans (hb.mono (by omega))⟩
    clear bt7 FA r9 zbt7
    refine ⟨trivial, ?_⟩
    refine held_one 5 (by kernel_rfl) ?_
    refine step_storeRow 5 23 (.tmp 3) (.tmp 9) (by rfl) (by kernel_rfl) (N + 1) (by kernel_rfl) (dc r2) (by kernel_rfl) 23 _ FB.out.2.1 (info_dD.trans (size_dc _)) (same_dc _ _) (dc_one _) ?_
    intro w11 r12 bt10 zbt10
    have FC : Shh (Row w11 N 23 (dc r1) ∧ Row w11 (N + 1) 23 (dc r2) ∧ Row w11 (N + 2) 23 (dc fun _ => 0) ∧ Below N w w11) := by
     obtain ⟨h0, h1, h2, h3⟩ := FB.out
     have := h0.lt
     have := h1.lt
     have := h2.lt
     have hb := bt10.under (Nat.le_of_lt h1.lt) (Nat.le_refl _)
     have := hb.size
     exact ⟨bt10.row h0 h0.lt (by omega), r12, bt10.row h2 h2.lt (by omega), h3.trans (hb.mono (by omega))⟩
    clear bt10 FB r12 zbt10
    refine ⟨trivial, ?_⟩
    refine wpAnyH_done (by kernel_rfl) ?_ _
    have HZ := FC
    clear FC
    revert HZ
    revert w11
    exact hT.out
   ·refine step_value 2 _ _ (some 8) (.agg (dc p2).toArray) X1 (by rfl) (by kernel_rfl) (run_loadRowD (g := (N + 1)) (by kernel_rfl) FY.out.2.1 Try.underlying23 rfl (info_dD.trans (size_dc _))) trivial ?_
    simp only [Act.put, arr9, hd9, tl9]
    refine held_one 1 (by kernel_rfl) ?_
    refine step_call 1 _ _ (some 7) 13 #[.agg (dc p).toArray] (by rfl) (by kernel_rfl) (by first | kernel_rfl | go_simp) ?_
    refine (HR1.out X1).mono ?_
    rintro e w4 ⟨rfl, b3⟩
    have FZ : Shh (Row w4 N 23 (dc p) ∧ Row w4 (N + 1) 23 (dc p2) ∧ Row w4 (N + 2) 23 (dc fun _ => 0) ∧ Below N w w4) := by
     obtain ⟨h0, h1, h2, h3⟩ := FY.out
     have := h0.lt
     have := h1.lt
     have := h2.lt
     have := b3.size
     exact ⟨h0.go b3, h1.go b3, h2.go b3, h3.trans (b3.mono (by omega))⟩
    clear b3 FY
    refine ⟨_, rfl, trivial, ?_⟩
    simp only [Act.put, arr9, hd9, tl9]
    refine held_one 3 (by kernel_rfl) ?_
    refine step_call 3 _ _ (some 9) 13 #[.agg (dc p2).toArray] (by rfl) (by kernel_rfl) (by first | kernel_rfl | go_simp) ?_
    refine (HR2.out w4).mono ?_
    rintro e w6 ⟨rfl, b5⟩
    have FA : Shh (Row w6 N 23 (dc p) ∧ Row w6 (N + 1) 23 (dc p2) ∧ Row w6 (N + 2) 23 (dc fun _ => 0) ∧ Below N w w6) := by
     obtain ⟨h0, h1, h2, h3⟩ := FZ.out
     have := h0.lt
     have := h1.lt
     have := h2.lt
     have := b5.size
     exact ⟨h0.go b5, h1.go b5, h2.go b5, h3.trans (b5.mono (by omega))⟩
    clear b5 FZ
    refine ⟨_, rfl, trivial, ?_⟩
    simp only [Act.put, arr9, hd9, tl9]
    refine held_one 4 (by kernel_rfl) ?_
    refine step_storeRow 4 23 (.tmp 2) (.tmp 7) (by rfl) (by kernel_rfl) N (by kernel_rfl) (dc r1) (by kernel_rfl) 23 _ FA.out.1 (info_dD.trans (size_dc _)) (same_dc _ _) (dc_one _) ?_
    intro w8 r9 bt7 zbt7
    have FB : Shh (Row w8 N 23 (dc r1) ∧ Row w8 (N + 1) 23 (dc p2) ∧ Row w8 (N + 2) 23 (dc fun _ => 0) ∧ Below N w w8) := by
     obtain ⟨h0, h1, h2, h3⟩ := FA.out
     have := h0.lt
     have := h1.lt
     have := h2.lt
     have hb := bt7.under (Nat.le_of_lt h0.lt) (Nat.le_refl _)
     have := hb.size
     exact ⟨r9, bt7.row h1 h1.lt (by omega), bt7.row h2 h2.lt (by omega), h3.trans (hb.mono (by omega))⟩
    clear bt7 FA r9 zbt7
    refine ⟨trivial, ?_⟩
    refine held_one 5 (by kernel_rfl) ?_
    refine step_storeRow 5 23 (.tmp 3) (.tmp 9) (by rfl) (by kernel_rfl) (N + 1) (by kernel_rfl) (dc r2) (by kernel_rfl) 23 _ FB.out.2.1 (info_dD.trans (size_dc _)) (same_dc _ _) (dc_one _) ?_
    intro w11 r12 bt10 zbt10
    have FC : Shh (Row w11 N 23 (dc r1) ∧ Row w11 (N + 1) 23 (dc r2) ∧ Row w11 (N + 2) 23 (dc fun _ => 0) ∧ Below N w w11) := by
     obtain ⟨h0, h1, h2, h3⟩ := FB.out
     have := h0.lt
     have := h1.lt
     have := h2.lt
     have hb := bt10.under (Nat.le_of_lt h1.lt) (Nat.le_refl _)
     have := hb.size
     exact ⟨bt10.row h0 h0.lt (by omega), r12, bt10.row h2 h2.lt (by omega), h3.trans (hb.mono (by omega))⟩
    clear bt10 FB r12 zbt10
    refine ⟨trivial, ?_⟩
    refine wpAnyH_done (by kernel_rfl) ?_ _
    have HZ := FC
    clear FC
    revert HZ
    revert w11
    exact hT.out
  ·refine step_value 2 _ _ (some 8) (.agg (dc p2).toArray) X1 (by rfl) (by kernel_rfl) (run_loadRowD (g := (N + 1)) (by kernel_rfl) FY.out.2.1 Try.underlying23 rfl (info_dD.trans (size_dc _))) trivial ?_
   simp only [Act.put, arr9, hd9, tl9]
   refine held_one 0 (by kernel_rfl) ?_
   refine step_value 0 _ _ (some 6) (.agg (dc p).toArray) X1 (by rfl) (by kernel_rfl) (run_loadRowD (g := N) (by kernel_rfl) FY.out.1 Try.underlying23 rfl (info_dD.trans (size_dc _))) trivial ?_
   simp only [Act.put, arr9, hd9, tl9]
   refine held_one 1 (by kernel_rfl) ?_
   refine step_call 1 _ _ (some 7) 13 #[.agg (dc p).toArray] (by rfl) (by kernel_rfl) (by first | kernel_rfl | go_simp) ?_
   refine (HR1.out X1).mono ?_
   rintro e w4 ⟨rfl, b3⟩
   have FZ : Shh (Row w4 N 23 (dc p) ∧ Row w4 (N + 1) 23 (dc p2) ∧ Row w4 (N + 2) 23 (dc fun _ => 0) ∧ Below N w w4) := by
    obtain ⟨h0, h1, h2, h3⟩ := FY.out
    have := h0.lt
    have := h1.lt
    have := h2.lt
    have := b3.size
    exact ⟨h0.go b3, h1.go b3, h2.go b3, h3.trans (b3.mono (by omega))⟩
   clear b3 FY
   refine ⟨_, rfl, trivial, ?_⟩
   simp only [Act.put, arr9, hd9, tl9]
   refine held_one 3 (by kernel_rfl) ?_
   refine step_call 3 _ _ (some 9) 13 #[.agg (dc p2).toArray] (by rfl) (by kernel_rfl) (by first | kernel_rfl | go_simp) ?_
   refine (HR2.out w4).mono ?_
   rintro e w6 ⟨rfl, b5⟩
   have FA : Shh (Row w6 N 23 (dc p) ∧ Row w6 (N + 1) 23 (dc p2) ∧ Row w6 (N + 2) 23 (dc fun _ => 0) ∧ Below N w w6) := by
    obtain ⟨h0, h1, h2, h3⟩ := FZ.out
    have := h0.lt
    have := h1.lt
    have := h2.lt
    have := b5.size
    exact ⟨h0.go b5, h1.go b5, h2.go b5, h3.trans (b5.mono (by omega))⟩
   clear b5 FZ
   refine ⟨_, rfl, trivial, ?_⟩
   simp only [Act.put, arr9, hd9, tl9]
   refine held_one 4 (by kernel_rfl) ?_
   refine step_storeRow 4 23 (.tmp 2) (.tmp 7) (by rfl) (by kernel_rfl) N (by kernel_rfl) (dc r1) (by kernel_rfl) 23 _ FA.out.1 (info_dD.trans (size_dc _)) (same_dc _ _) (dc_one _) ?_
   intro w8 r9 bt7 zbt7
   have FB : Shh (Row w8 N 23 (dc r1) ∧ Row w8 (N + 1) 23 (dc p2) ∧ Row w8 (N + 2) 23 (dc fun _ => 0) ∧ Below N w w8) := by
    obtain ⟨h0, h1, h2, h3⟩ := FA.out
    have := h0.lt
    have := h1.lt
    have := h2.lt
    have hb := bt7.under (Nat.le_of_lt h0.lt) (Nat.le_refl _)
    have := hb.size
    exact ⟨r9, bt7.row h1 h1.lt (by omega), bt7.row h2 h2.lt (by omega), h3.trans (hb.mono (by omega))⟩
   clear bt7 FA r9 zbt7
   refine ⟨trivial, ?_⟩
   refine held_one 5 (by kernel_rfl) ?_
   refine step_storeRow 5 23 (.tmp 3) (.tmp 9) (by rfl) (by kernel_rfl) (N + 1) (by kernel_rfl) (dc r2) (by kernel_rfl) 23 _ FB.out.2.1 (info_dD.trans (size_dc _)) (same_dc _ _) (dc_one _) ?_
   intro w11 r12 bt10 zbt10
   have FC : Shh (Row w11 N 23 (dc r1) ∧ Row w11 (N + 1) 23 (dc r2) ∧ Row w11 (N + 2) 23 (dc fun _ => 0) ∧ Below N w w11) := by
    obtain ⟨h0, h1, h2, h3⟩ := FB.out
    have := h0.lt
    have := h1.lt
    have := h2.lt
    have hb := bt10.under (Nat.le_of_lt h1.lt) (Nat.le_refl _)
    have := hb.size
    exact ⟨bt10.row h0 h0.lt (by omega), r12, bt10.row h2 h2.lt (by omega), h3.trans (hb.mono (by omega))⟩
   clear bt10 FB r12 zbt10
   refine ⟨trivial, ?_⟩
   refine wpAnyH_done (by kernel_rfl) ?_ _
   have HZ := FC
   clear FC
   revert HZ
   revert w11
   exact hT.out
 case tt2 =>
  clear FC
  intro Z HZ
  clear HR1 HR2
  go_wp2
  go_loopw [10] (fun i wr => ∃ k : Nat, k ≤ 256 ∧ i = .int .i64 (k : Int) ∧ Shh (Row wr N 23 (dc (dhf fin r1 k)) ∧ Row wr (N + 1) 23 (dc r2) ∧ Row wr (N + 2) 23 (dc fun _ => 0) ∧ Below N w wr)) (fun i _ => 256 - (intOf i).toNat)
  case atStart => exact ⟨0, Nat.zero_le _, rfl, ⟨by simp only [dhf_zero]; exact HZ.out⟩⟩
  case round =>
   clear HZ
   obtain ⟨k, hk, rfl, HI⟩ := hrel
   by_cases hlt : k < 256
   ·obtain ⟨s, h1, h2, h3⟩ := HF.out k
    have HS := Shh.mk h1
    have HC := Shh.mk h2
    have H3 := Shh.mk h3
    clear h1 h2 h3
    have HN1 := Shh.mk (dhf_next fin r1 k)
    have HG1 := Shh.mk (dhf_at fin r1 hlt)
    have HG2 := Shh.mk (dc_get r2 hlt)
    generalize fin k = fk at *
    generalize r1 k = ak at *
    generalize r2 k = bk at *
    have hlt2 : (k : Int) < 256 := by omega
    go_wp2
    refine wp_region_held_drew (S := fun w' => True) (by kernel_rfl) trivial (fun hS => ?_)
    clear hS
    obtain ⟨X3, hX3⟩ : ∃ V, V = World.drew wr := ⟨_, rfl⟩
    rw [← hX3]
    have HJ : Shh (Row X3 N 23 (dc (dhf fin r1 k)) ∧ Row X3 (N + 1) 23 (dc r2) ∧ Row X3 (N + 2) 23 (dc fun _ => 0) ∧ Below N w X3) := by
     obtain ⟨h0, h1, h2, h3⟩ := HI.out
     rw [hX3]
     exact ⟨h0.drew, h1.drew, h2.drew, h3.drew⟩
    clear hX3 HI
    refine hdv0 0 13 (.int .i64 (k : Int)) (by rfl) trivial ?_
    refine hdv0 1 14 (.int .i64 (k : Int)) (by rfl) trivial ?_
    refine hdv 2 15 (.pointer (some ⟨N, k, none⟩)) (by rfl) (fun w hS => at_dD hlt rfl (by kernel_rfl) (by kernel_rfl)) trivial ?_
    refine hdv0 5 18 (.int .i64 (k : Int)) (by rfl) trivial ?_
    refine hdv 6 19 (.pointer (some ⟨(N + 1), k, none⟩)) (by rfl) (fun w hS => at_dD hlt rfl (by kernel_rfl) (by kernel_rfl)) trivial ?_
    refine held_two 3 7 (by kernel_rfl) ?_ ?_
    ·refine step_value 3 _ _ (some 16) (.int .i32 ak) X3 (by rfl) (by kernel_rfl) (load_d rfl ((HJ.out.1.cell k).trans HG1.out) (by kernel_rfl)) trivial ?_
     simp only [Act.put, arr9, hd9, tl9]
     refine hdv 4 17 (.int .i64 ak) (by rfl) (fun w hS => conv_dl H3.out.1 rfl (by kernel_rfl)) trivial ?_
     refine held_one 7 (by kernel_rfl) ?_
     refine step_value 7 _ _ (some 20) (.int .i32 bk) X3 (by rfl) (by kernel_rfl) (load_d rfl ((HJ.out.2.1.cell k).trans HG2.out) (by kernel_rfl)) trivial ?_
     simp only [Act.put, arr9, hd9, tl9]
     refine hdv 8 21 (.int .i64 bk) (by rfl) (fun w hS => conv_dl H3.out.2.1 rfl (by kernel_rfl)) trivial ?_
     refine hdv 9 22 (.int .i64 s) (by rfl) (fun w hS => mul_l HS.out rfl (by kernel_rfl) (by kernel_rfl)) trivial ?_
     refine hdv 10 23 (.int .i64 fk) (by rfl) (fun w hS => rem_l HC.out (by decide) rfl (by kernel_rfl) (by kernel_rfl)) trivial ?_
     refine hdv 11 24 (.int .i32 fk) (by rfl) (fun w hS => conv_ld H3.out.2.2 rfl (by kernel_rfl)) trivial ?_
     refine hdv 12 25 (.pointer (some ⟨N, k, none⟩)) (by rfl) (fun w hS => at_dD hlt rfl (by kernel_rfl) (by kernel_rfl)) trivial ?_
     refine held_one 13 (by kernel_rfl) ?_
     refine step_storeD 13 (v := fk) (by rfl) (by kernel_rfl) hlt HJ.out.1 (by kernel_rfl) (by kernel_rfl) ?_
     intro w5 r6 bt4 zbt4
     have HK : Shh (Row w5 N 23 (dc (dhf fin r1 (k + 1))) ∧ Row w5 (N + 1) 23 (dc r2) ∧ Row w5 (N + 2) 23 (dc fun _ => 0) ∧ Below N w w5) := by
      obtain ⟨h0, h1, h2, h3⟩ := HJ.out
      have := h0.lt
      have := h1.lt
      have := h2.lt
      have hb := bt4.under (Nat.le_of_lt h0.lt) (Nat.le_refl _)
      have := hb.size
      rw [HN1.out] at r6
      exact ⟨r6, bt4.row h1 h1.lt (by omega), bt4.row h2 h2.lt (by omega), h3.trans (hb.mono (by omega))⟩
     clear bt4 HJ r6 zbt4
     refine ⟨trivial, ?_⟩
     refine wpAnyH_done (by kernel_rfl) ?_ _
     go_wp2
     go_roundw
     case rel => exact ⟨k + 1, by omega, by go_num, HK⟩
     case measure => simp [intOf]; omega
    ·refine step_value 7 _ _ (some 20) (.int .i32 bk) X3 (by rfl) (by kernel_rfl) (load_d rfl ((HJ.out.2.1.cell k).trans HG2.out) (by kernel_rfl)) trivial ?_
     simp only [Act.put, arr9, hd9, tl9]
     refine hdv 8 21 (.int .i64 bk) (by rfl) (fun w hS => conv_dl H3.out.2.1 rfl (by kernel_rfl)) trivial ?_
     refine held_one 3 (by kernel_rfl) ?_
     refine step_value 3 _ _ (some 16) (.int .i32 ak) X3 (by rfl) (by kernel_rfl) (load_d rfl ((HJ.out.1.cell k).trans HG1.out) (by kernel_rfl)) trivial ?_
     simp only [Act.put, arr9, hd9, tl9]
     refine hdv 4 17 (.int .i64 ak) (by rfl) (fun w hS => conv_dl H3.out.1 rfl (by kernel_rfl)) trivial ?_
     refine hdv 9 22 (.int .i64 s) (by rfl) (fun w hS => mul_l HS.out rfl (by kernel_rfl) (by kernel_rfl)) trivial ?_
     refine hdv 10 23 (.int .i64 fk) (by rfl) (fun w hS => rem_l HC.out (by decide) rfl (by kernel_rfl) (by kernel_rfl)) trivial ?_
     refine hdv 11 24 (.int .i32 fk) (by rfl) (fun w hS => conv_ld H3.out.2.2 rfl (by kernel_rfl)) trivial ?_
     refine hdv 12 25 (.pointer (some ⟨N, k, none⟩)) (by rfl) (fun w hS => at_dD hlt rfl (by kernel_rfl) (by kernel_rfl)) trivial ?_
     refine held_one 13 (by kernel_rfl) ?_
     refine step_storeD 13 (v := fk) (by rfl) (by kernel_rfl) hlt HJ.out.1 (by kernel_rfl) (by kernel_rfl) ?_
     intro w5 r6 bt4 zbt4
     have HK : Shh (Row w5 N 23 (dc (dhf fin r1 (k + 1))) ∧ Row w5 (N + 1) 23 (dc r2) ∧ Row w5 (N + 2) 23 (dc fun _ => 0) ∧ Below N w w5) := by
      obtain ⟨h0, h1, h2, h3⟩ := HJ.out
      have := h0.lt
      have := h1.lt
      have := h2.lt
      have hb := bt4.under (Nat.le_of_lt h0.lt) (Nat.le_refl _)
      have := hb.size
      rw [HN1.out] at r6
      exact ⟨r6, bt4.row h1 h1.lt (by omega), bt4.row h2 h2.lt (by omega), h3.trans (hb.mono (by omega))⟩
     clear bt4 HJ r6 zbt4
     refine ⟨trivial, ?_⟩
     refine wpAnyH_done (by kernel_rfl) ?_ _
     go_wp2
     go_roundw
     case rel => exact ⟨k + 1, by omega, by go_num, HK⟩
     case measure => simp [intOf]; omega
   ·have hlt2 : ¬ (k : Int) < 256 := by omega
    have HJ : Shh (Row wr N 23 (dc fin) ∧ Row wr (N + 1) 23 (dc r2) ∧ Row wr (N + 2) 23 (dc fun _ => 0) ∧ Below N w wr) := by
     have h := HI.out
     rw [show k = 256 by omega] at h
     simp only [dhf_all] at h
     exact ⟨h⟩
    clear HI
    go_wp2_with (first | refine wpList_load_any rfl 23 (.tmp 2) rfl N rfl 23 (dc fin) (.array 256 21) HJ.out.1 Try.underlying23 rfl (info_dD.trans (size_dc _)) ?_ | refine wpList_store_any rfl 23 (.tmp 4) (.tmp 27) rfl (N + 2) rfl (dc fin) rfl 23 _ HJ.out.2.2.1 (info_dD.trans (size_dc _)) (same_dc _ _) (dc_one _) ?_)
    intro w3 r4 bt5 zbt5
    have HK : Shh (Row w3 N 23 (dc fin) ∧ Row w3 (N + 1) 23 (dc r2) ∧ Row w3 (N + 2) 23 (dc fin) ∧ Below N w w3) := by
     obtain ⟨h0, h1, h2, h3⟩ := HJ.out
     have := h0.lt
     have := h1.lt
     have := h2.lt
     have hb := bt5.under (Nat.le_of_lt h2.lt) (Nat.le_refl _)
     have := hb.size
     exact ⟨bt5.row h0 h0.lt (by omega), bt5.row h1 h1.lt (by omega), r4, h3.trans (hb.mono (by omega))⟩
    clear bt5 HJ r4 zbt5
    go_wp2
    exact ret_row Try.results30 rfl rfl HK.out.2.2.1 Try.underlying23 rfl (info_dD.trans (size_dc _)) ⟨rfl, HK.out.2.2.2⟩
end Go.Proofs.Ytapjiknedghhfaa
