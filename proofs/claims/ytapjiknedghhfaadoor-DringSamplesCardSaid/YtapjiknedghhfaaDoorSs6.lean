/-
 THE PROGRAM'S OWN RejBounded, Ball.
-/
import Derived.Test.YtapjiknedghhfaaDoorSs5
namespace Go.Proofs.YtapjiknedghhfaaDoor
open Go.RowKit
set_option maxRecDepth 100000
set_option maxHeartbeats 2000000 in
theorem RejBounded_2 (B : Nat) (v : Value) (m : List UInt8) (hl : m.length = 66) (w : World) (hs : Sl w B v m) (hB : B ≤ w.heap.size) (hv : KVars w) : Calls Tryd.prog 8 #[.int .i64 2, v] w (SmpB w (allE 2)) := by
 unfold SmpB
 generalize hN : w.heap.size = N at *
 have hpos := hv.pos
 have i3 : (m.length : Int) ≤ 66 := by omega
 have i4 : (66 : Int) ≤ (m.length : Int) := by omega
 obtain ⟨A, c, rfl, _, _⟩ := hs.form
 have HD : Shh (Sl w B (.slice A m.length c) m ∧ B ≤ N ∧ w.heap.size = N) := ⟨hs, hB, hN⟩
 have HV : Shh (KVars w ∧ 0 < N) := ⟨hv, by omega⟩
 clear hl hs hB hN hv hpos
 generalize m.length = ln at *
 go_enter Tryd.func8, Tryd.ntmps8
 go_wp2_with (refine wl_newzD 4 rfl rfl rfl ?_)
 intro N1 w2 hN1 r2 b2
 try simp only [Act.put, arr9, hd9, tl9]
 obtain rfl : N = N1 := HD.out.2.2.symm.trans hN1.out.symm
 have HI : Shh (Row w2 N 25 (dc fun _ => 0) ∧ Below N w w2 ∧ N < w2.heap.size) := by
  rw [HD.out.2.2] at b2
  exact ⟨r2, b2, r2.lt⟩
 clear r2 b2 hN1
 have HS : Shh (Sl w2 B (.slice A ln c) m ∧ KVars w2 ∧ B ≤ N) := ⟨HD.out.1.below (HI.out.2.1.mono HD.out.2.1), HV.out.1.step (HD.out.2.2.symm ▸ HI.out.2.1), HD.out.2.1⟩
 go_wp2_with (go_at_call 22; refine (shake256_any [m] (by simp) (w2.heap.size + 1) _ _ (PartsO.solo (Row.new_ rfl rfl) (Nat.lt_succ_self _) (by omega) ((HS.out.1.below ((bel1 _ _).mono (by have := HI.out; have := HS.out; omega))).more (by have := HI.out; have := HS.out; omega)) (HS.out.1.off (by have := HI.out; have := HS.out; omega))) (by rw [asz]; exact Nat.le_refl _) (HS.out.2.1.step (bel1 _ _))).mono ?_)
 rintro e w4 ⟨gx, rfl, hgx, hx4, b4⟩
 have HJ : Shh (Row w4 N 25 (dc fun _ => 0) ∧ Below N w w4 ∧ XofAt w4 gx (absorbL 136 31 [m].flatten) 136 0 ∧ KVars w4 ∧ 0 ≠ gx ∧ N < gx) := by
  have b5 := Below.chain (bel1 w2 _) b4
  rw [asz] at hgx
  exact ⟨⟨HI.out.1.go b5, HI.out.2.1.trans (b5.mono (Nat.le_of_lt HI.out.2.2)), hx4, HS.out.2.1.step b5, by have := HV.out.2; have := HI.out.2.2; omega, by have := HI.out.2.2; omega⟩⟩
 clear hgx hx4 b4 HI HS HV
 go_wp2_with (go_at_call 21; refine (bounded_2 gx _ w4 HJ.out.2.2.1 HJ.out.2.2.2.1 HJ.out.2.2.2.2.1 (Nat.le_refl _) (SpAt.lt HJ.out.2.2.1)).mono ?_)
 rintro e w5 ⟨p, cd, rfl, b5, hk⟩
 have HK : Shh (Row w5 N 25 (dc fun _ => 0) ∧ Below N w w5) := by
  obtain ⟨h1, h2, h3, h4, h5, h6⟩ := HJ.out
  exact ⟨⟨b5.row h1 h1.lt (by omega), h2.trans (b5.under (Nat.le_of_lt h1.lt) (Nat.le_of_lt h6))⟩⟩
 have HK9 := Shh.mk hk
 clear b5 HJ hk
 go_wp2_with (refine wpList_store_any rfl 25 (.tmp 4) (.tmp 25) rfl N rfl (dc p) rfl 25 _ HK.out.1 (info_dD.trans (size_dc _)) (same_dc _ _) (dc_one _) ?_)
 intro w9 hr9 b9 _
 have hb9 := HK.out.2.trans (b9.under (Nat.le_of_lt HK.out.1.lt) (Nat.le_refl _))
 go_wp2
 exact ret_row_slotS Tryd.results8 rfl rfl rfl hr9 Tryd.underlying25 rfl (info_dD.trans (size_dc _)) ⟨_, _, rfl, hb9, HK9.out⟩
theorem RejBounded_bad2 (B : Nat) (v : Value) (m : List UInt8) (hl : ¬ m.length = 66) (w : World) (hs : Sl w B v m) : Calls Tryd.prog 8 #[.int .i64 2, v] w (CdIs w (fun _ => 0) 1) := by
 unfold CdIs
 obtain ⟨A, c, rfl, _, _⟩ := hs.form
 have h3 : ¬ (m.length : Int) = 66 := by omega
 generalize hN : w.heap.size = N at *
 have HD : Shh (True ∧ True ∧ w.heap.size = N) := ⟨trivial, trivial, hN⟩
 clear hs hl hN
 generalize m.length = ln at *
 go_enter Tryd.func8, Tryd.ntmps8
 go_wp2_with (refine wl_newzD 4 rfl rfl rfl ?_)
 intro N1 w2 hN1 r2 b2
 try simp only [Act.put, arr9, hd9, tl9]
 obtain rfl : N = N1 := HD.out.2.2.symm.trans hN1.out.symm
 have HI : Shh (Row w2 N 25 (dc fun _ => 0) ∧ Below N w w2 ∧ N < w2.heap.size) := by
  rw [HD.out.2.2] at b2
  exact ⟨r2, b2, r2.lt⟩
 clear r2 b2 hN1
 go_wp2_with (first | refine wl_at 17 rfl (.agg (dc fun _ => 0).toArray) rfl (build_zero rfl) ?_ | refine wpList_store_any rfl 25 (.tmp 4) (.tmp 17) rfl N rfl (dc fun _ => 0) rfl 25 _ HI.out.1 (info_dD.trans (size_dc _)) (same_dc _ _) (dc_one _) ?_)
 intro w9 hr9 b9 _
 have hb9 := HI.out.2.1.trans (b9.under (Nat.le_of_lt HI.out.1.lt) (Nat.le_refl _))
 go_wp2
 exact ret_row_slotS Tryd.results8 rfl rfl rfl hr9 Tryd.underlying25 rfl (info_dD.trans (size_dc _)) ⟨rfl, hb9⟩
set_option maxHeartbeats 2000000 in
theorem RejBounded_4 (B : Nat) (v : Value) (m : List UInt8) (hl : m.length = 66) (w : World) (hs : Sl w B v m) (hB : B ≤ w.heap.size) (hv : KVars w) : Calls Tryd.prog 8 #[.int .i64 4, v] w (SmpB w (allE 4)) := by
 unfold SmpB
 generalize hN : w.heap.size = N at *
 have hpos := hv.pos
 have i3 : (m.length : Int) ≤ 66 := by omega
 have i4 : (66 : Int) ≤ (m.length : Int) := by omega
 obtain ⟨A, c, rfl, _, _⟩ := hs.form
 have HD : Shh (Sl w B (.slice A m.length c) m ∧ B ≤ N ∧ w.heap.size = N) := ⟨hs, hB, hN⟩
 have HV : Shh (KVars w ∧ 0 < N) := ⟨hv, by omega⟩
 clear hl hs hB hN hv hpos
 generalize m.length = ln at *
 go_enter Tryd.func8, Tryd.ntmps8
 go_wp2_with (refine wl_newzD 4 rfl rfl rfl ?_)
 intro N1 w2 hN1 r2 b2
 try simp only [Act.put, arr9, hd9, tl9]
 obtain rfl : N = N1 := HD.out.2.2.symm.trans hN1.out.symm
 have HI : Shh (Row w2 N 25 (dc fun _ => 0) ∧ Below N w w2 ∧ N < w2.heap.size) := by
  rw [HD.out.2.2] at b2
  exact ⟨r2, b2, r2.lt⟩
 clear r2 b2 hN1
 have HS : Shh (Sl w2 B (.slice A ln c) m ∧ KVars w2 ∧ B ≤ N) := ⟨HD.out.1.below (HI.out.2.1.mono HD.out.2.1), HV.out.1.step (HD.out.2.2.symm ▸ HI.out.2.1), HD.out.2.1⟩
 go_wp2_with (go_at_call 22; refine (shake256_any [m] (by simp) (w2.heap.size + 1) _ _ (PartsO.solo (Row.new_ rfl rfl) (Nat.lt_succ_self _) (by omega) ((HS.out.1.below ((bel1 _ _).mono (by have := HI.out; have := HS.out; omega))).more (by have := HI.out; have := HS.out; omega)) (HS.out.1.off (by have := HI.out; have := HS.out; omega))) (by rw [asz]; exact Nat.le_refl _) (HS.out.2.1.step (bel1 _ _))).mono ?_)
 rintro e w4 ⟨gx, rfl, hgx, hx4, b4⟩
 have HJ : Shh (Row w4 N 25 (dc fun _ => 0) ∧ Below N w w4 ∧ XofAt w4 gx (absorbL 136 31 [m].flatten) 136 0 ∧ KVars w4 ∧ 0 ≠ gx ∧ N < gx) := by
  have b5 := Below.chain (bel1 w2 _) b4
  rw [asz] at hgx
  exact ⟨⟨HI.out.1.go b5, HI.out.2.1.trans (b5.mono (Nat.le_of_lt HI.out.2.2)), hx4, HS.out.2.1.step b5, by have := HV.out.2; have := HI.out.2.2; omega, by have := HI.out.2.2; omega⟩⟩
 clear hgx hx4 b4 HI HS HV
 go_wp2_with (go_at_call 21; refine (bounded_4 gx _ w4 HJ.out.2.2.1 HJ.out.2.2.2.1 HJ.out.2.2.2.2.1 (Nat.le_refl _) (SpAt.lt HJ.out.2.2.1)).mono ?_)
 rintro e w5 ⟨p, cd, rfl, b5, hk⟩
 have HK : Shh (Row w5 N 25 (dc fun _ => 0) ∧ Below N w w5) := by
  obtain ⟨h1, h2, h3, h4, h5, h6⟩ := HJ.out
  exact ⟨⟨b5.row h1 h1.lt (by omega), h2.trans (b5.under (Nat.le_of_lt h1.lt) (Nat.le_of_lt h6))⟩⟩
 have HK9 := Shh.mk hk
 clear b5 HJ hk
 go_wp2_with (refine wpList_store_any rfl 25 (.tmp 4) (.tmp 25) rfl N rfl (dc p) rfl 25 _ HK.out.1 (info_dD.trans (size_dc _)) (same_dc _ _) (dc_one _) ?_)
 intro w9 hr9 b9 _
 have hb9 := HK.out.2.trans (b9.under (Nat.le_of_lt HK.out.1.lt) (Nat.le_refl _))
 go_wp2
 exact ret_row_slotS Tryd.results8 rfl rfl rfl hr9 Tryd.underlying25 rfl (info_dD.trans (size_dc _)) ⟨_, _, rfl, hb9, HK9.out⟩
theorem RejBounded_bad4 (B : Nat) (v : Value) (m : List UInt8) (hl : ¬ m.length = 66) (w : World) (hs : Sl w B v m) : Calls Tryd.prog 8 #[.int .i64 4, v] w (CdIs w (fun _ => 0) 1) := by
 unfold CdIs
 obtain ⟨A, c, rfl, _, _⟩ := hs.form
 have h3 : ¬ (m.length : Int) = 66 := by omega
 generalize hN : w.heap.size = N at *
 have HD : Shh (True ∧ True ∧ w.heap.size = N) := ⟨trivial, trivial, hN⟩
 clear hs hl hN
 generalize m.length = ln at *
 go_enter Tryd.func8, Tryd.ntmps8
 go_wp2_with (refine wl_newzD 4 rfl rfl rfl ?_)
 intro N1 w2 hN1 r2 b2
 try simp only [Act.put, arr9, hd9, tl9]
 obtain rfl : N = N1 := HD.out.2.2.symm.trans hN1.out.symm
 have HI : Shh (Row w2 N 25 (dc fun _ => 0) ∧ Below N w w2 ∧ N < w2.heap.size) := by
  rw [HD.out.2.2] at b2
  exact ⟨r2, b2, r2.lt⟩
 clear r2 b2 hN1
 go_wp2_with (first | refine wl_at 17 rfl (.agg (dc fun _ => 0).toArray) rfl (build_zero rfl) ?_ | refine wpList_store_any rfl 25 (.tmp 4) (.tmp 17) rfl N rfl (dc fun _ => 0) rfl 25 _ HI.out.1 (info_dD.trans (size_dc _)) (same_dc _ _) (dc_one _) ?_)
 intro w9 hr9 b9 _
 have hb9 := HI.out.2.1.trans (b9.under (Nat.le_of_lt HI.out.1.lt) (Nat.le_refl _))
 go_wp2
 exact ret_row_slotS Tryd.results8 rfl rfl rfl hr9 Tryd.underlying25 rfl (info_dD.trans (size_dc _)) ⟨rfl, hb9⟩
set_option maxHeartbeats 2000000 in
theorem Ball_49 (B : Nat) (v : Value) (m : List UInt8) (w : World) (hs : Sl w B v m) (hB : B ≤ w.heap.size) (hv : KVars w) : Calls Tryd.prog 12 #[.int .i64 49, v] w (SmpB w (ballK 49)) := by
 unfold SmpB
 generalize hN : w.heap.size = N at *
 have hpos := hv.pos
 obtain ⟨A, c, rfl, _, _⟩ := hs.form
 have HD : Shh (Sl w B (.slice A m.length c) m ∧ B ≤ N ∧ w.heap.size = N) := ⟨hs, hB, hN⟩
 have HV : Shh (KVars w ∧ 0 < N) := ⟨hv, by omega⟩
 clear hs hB hN hv hpos
 generalize m.length = ln at *
 go_enter Tryd.func12, Tryd.ntmps12
 go_wp2_with (refine wl_newzD 4 rfl rfl rfl ?_)
 intro N1 w2 hN1 r2 b2
 try simp only [Act.put, arr9, hd9, tl9]
 obtain rfl : N = N1 := HD.out.2.2.symm.trans hN1.out.symm
 have HI : Shh (Row w2 N 25 (dc fun _ => 0) ∧ Below N w w2 ∧ N < w2.heap.size) := by
  rw [HD.out.2.2] at b2
  exact ⟨r2, b2, r2.lt⟩
 clear r2 b2 hN1
 have HS : Shh (Sl w2 B (.slice A ln c) m ∧ KVars w2 ∧ B ≤ N) := ⟨HD.out.1.below (HI.out.2.1.mono HD.out.2.1), HV.out.1.step (HD.out.2.2.symm ▸ HI.out.2.1), HD.out.2.1⟩
 go_wp2_with (go_at_call 22; refine (shake256_any [m] (by simp) (w2.heap.size + 1) _ _ (PartsO.solo (Row.new_ rfl rfl) (Nat.lt_succ_self _) (by omega) ((HS.out.1.below ((bel1 _ _).mono (by have := HI.out; have := HS.out; omega))).more (by have := HI.out; have := HS.out; omega)) (HS.out.1.off (by have := HI.out; have := HS.out; omega))) (by rw [asz]; exact Nat.le_refl _) (HS.out.2.1.step (bel1 _ _))).mono ?_)
 rintro e w4 ⟨gx, rfl, hgx, hx4, b4⟩
 have HJ : Shh (Row w4 N 25 (dc fun _ => 0) ∧ Below N w w4 ∧ XofAt w4 gx (absorbL 136 31 [m].flatten) 136 0 ∧ KVars w4 ∧ 0 ≠ gx ∧ N < gx) := by
  have b5 := Below.chain (bel1 w2 _) b4
  rw [asz] at hgx
  exact ⟨⟨HI.out.1.go b5, HI.out.2.1.trans (b5.mono (Nat.le_of_lt HI.out.2.2)), hx4, HS.out.2.1.step b5, by have := HV.out.2; have := HI.out.2.2; omega, by have := HI.out.2.2; omega⟩⟩
 clear hgx hx4 b4 HI HS HV
 go_wp2_with (go_at_call 28; refine (ball_any 49 (by decide) gx _ w4 HJ.out.2.2.1 HJ.out.2.2.2.1 HJ.out.2.2.2.2.1 (Nat.le_refl _) (SpAt.lt HJ.out.2.2.1)).mono ?_)
 rintro e w5 ⟨p, cd, rfl, b5, hk⟩
 have HK : Shh (Row w5 N 25 (dc fun _ => 0) ∧ Below N w w5) := by
  obtain ⟨h1, h2, h3, h4, h5, h6⟩ := HJ.out
  exact ⟨⟨b5.row h1 h1.lt (by omega), h2.trans (b5.under (Nat.le_of_lt h1.lt) (Nat.le_of_lt h6))⟩⟩
 have HK9 := Shh.mk hk
 clear b5 HJ hk
 go_wp2_with (refine wpList_store_any rfl 25 (.tmp 4) (.tmp 19) rfl N rfl (dc p) rfl 25 _ HK.out.1 (info_dD.trans (size_dc _)) (same_dc _ _) (dc_one _) ?_)
 intro w9 hr9 b9 _
 have hb9 := HK.out.2.trans (b9.under (Nat.le_of_lt HK.out.1.lt) (Nat.le_refl _))
 go_wp2
 exact ret_row_slotS Tryd.results12 rfl rfl rfl hr9 Tryd.underlying25 rfl (info_dD.trans (size_dc _)) ⟨_, _, rfl, hb9, HK9.out⟩
end Go.Proofs.YtapjiknedghhfaaDoor
