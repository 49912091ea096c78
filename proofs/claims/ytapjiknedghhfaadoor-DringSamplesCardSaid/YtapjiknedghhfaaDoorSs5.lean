/-
 THE PROGRAM'S OWN Unpack, UnpackFrom, Mask.
-/
import Derived.Test.YtapjiknedghhfaaDoorSs4
namespace Go.Proofs.YtapjiknedghhfaaDoor
open Go.RowKit
set_option maxRecDepth 100000
/-- a polynomial and a code, and what was in memory stays -/
def CdIs (w : World) (p : Nat → Int) (c : Int) (e : Ending) (w' : World) : Prop := e = .returned (.tuple #[.agg (dc p).toArray, .int .i64 c]) ∧ Below w.heap.size w w'
theorem mayBits_yes (d : Nat) (h : 1 ≤ d ∧ d ≤ 23) (w : World) : Calls Tryd.prog 48 #[.int .i64 (d : Int)] w fun e w' => e = .returned (.bool true) ∧ w = w' := by
 have h1 : 1 ≤ (d : Int) := by omega
 have h2 : (d : Int) ≤ 23 := by omega
 clear h
 go_enter Tryd.func48, Tryd.ntmps48
 go_wp2
 go_ret
 exact ⟨rfl, rfl⟩
theorem dec_bd (d V i : Nat) (h : d ≤ 23) : decN d V i < 8388608 := Nat.lt_of_lt_of_le (decN_lt d V i) (Nat.le_trans (Nat.pow_le_pow_right (by decide) h) (by decide))
set_option maxHeartbeats 2000000 in
theorem Unpack_any (d : Nat) (hd : 1 ≤ d ∧ d ≤ 23) (B : Nat) (v : Value) (bs : List UInt8) (hl : bs.length = 32 * d) (w : World) (hs : Sl w B v bs) (hB : B ≤ w.heap.size) : Calls Tryd.prog 38 #[.int .i64 (d : Int), v] w (CdIs w (fun i => (decN d (litN bs) i : Int)) 0) := by
 unfold CdIs
 generalize hN : w.heap.size = N at *
 obtain ⟨q, hq⟩ : ∃ q : Nat → Int, Shh (q = fun i => (decN d (litN bs) i : Int)) := ⟨_, ⟨rfl⟩⟩
 have HU : Shh (∀ W, Below N w W → N ≤ W.heap.size → Calls Tryd.prog 49 #[.int .i64 (d : Int), v] W (DPolyIs W q)) := ⟨fun W hb hn => by rw [hq.out]; exact unpackedD_any d hd B v bs hl W (hs.below (hb.mono hB)) (by omega)⟩
 rw [← hq.out]
 have i1 : 1 ≤ (d : Int) := by omega
 have i2 : (d : Int) ≤ 23 := by omega
 have i3 : (bs.length : Int) ≤ 32 * (d : Int) := by omega
 have i4 : 32 * (d : Int) ≤ (bs.length : Int) := by omega
 have HD : Shh (1 ≤ d ∧ d ≤ 23 ∧ w.heap.size = N) := ⟨hd.1, hd.2, hN⟩
 obtain ⟨A, c, rfl, _, _⟩ := hs.form
 clear hq hs hl hd hB hN
 generalize bs.length = ln at *
 go_enter Tryd.func38, Tryd.ntmps38
 go_wp2_with (refine wl_newzD 4 rfl rfl rfl ?_)
 intro N1 w2 hN1 r2 b2
 try simp only [Act.put, arr9, hd9, tl9]
 obtain rfl : N = N1 := HD.out.2.2.symm.trans hN1.out.symm
 have HI : Shh (Row w2 N 25 (dc fun _ => 0) ∧ Below N w w2 ∧ N < w2.heap.size) := by
  rw [HD.out.2.2] at b2
  exact ⟨r2, b2, r2.lt⟩
 clear r2 b2 hN1
 go_wp2_with (go_at_call 48; refine (mayBits_yes d ⟨HD.out.1, HD.out.2.1⟩ _).mono ?_)
 rintro e w3 ⟨rfl, rfl⟩
 go_wp2_with (go_at_call 49; refine (HU.out _ HI.out.2.1 (Nat.le_of_lt HI.out.2.2)).mono ?_)
 rintro e w4 ⟨rfl, b4⟩
 have HJ : Shh (Row w4 N 25 (dc fun _ => 0) ∧ Below N w w4) := ⟨HI.out.1.go b4, HI.out.2.1.trans (b4.mono (Nat.le_of_lt HI.out.2.2))⟩
 clear b4 HI HU
 go_wp2_with (refine wpList_store_any rfl 25 (.tmp 4) (.tmp 19) rfl N rfl (dc q) rfl 25 _ HJ.out.1 (info_dD.trans (size_dc _)) (same_dc _ _) (dc_one _) ?_)
 intro w9 hr9 b9 _
 have hb9 := HJ.out.2.trans (b9.under (Nat.le_of_lt HJ.out.1.lt) (Nat.le_refl _))
 go_wp2
 exact ret_row_slotS Tryd.results38 rfl rfl rfl hr9 Tryd.underlying25 rfl (info_dD.trans (size_dc _)) ⟨rfl, hb9⟩
set_option maxHeartbeats 4000000 in
theorem UnpackFrom_any (top : Int) (ht : 0 ≤ top ∧ top < 8380417) (d : Nat) (hd : 1 ≤ d ∧ d ≤ 23) (B : Nat) (v : Value) (bs : List UInt8) (hl : bs.length = 32 * d) (w : World) (hs : Sl w B v bs) (hB : B ≤ w.heap.size) : Calls Tryd.prog 25 #[.int .i32 top, .int .i64 (d : Int), v] w (CdIs w (fun i => top - (decN d (litN bs) i : Int)) 0) := by
 unfold CdIs
 generalize hN : w.heap.size = N at *
 obtain ⟨q, hq⟩ : ∃ q : Nat → Int, Shh (q = fun i => (decN d (litN bs) i : Int)) := ⟨_, ⟨rfl⟩⟩
 obtain ⟨r, hr⟩ : ∃ r : Nat → Int, Shh (r = fun i => top - (decN d (litN bs) i : Int)) := ⟨_, ⟨rfl⟩⟩
 have HU : Shh (∀ W, Below N w W → N ≤ W.heap.size → Calls Tryd.prog 38 #[.int .i64 (d : Int), v] W (CdIs W q 0)) := ⟨fun W hb hn => by rw [hq.out]; exact Unpack_any d hd B v bs hl W (hs.below (hb.mono hB)) (by omega)⟩
 have HR : Shh (∀ k, r k = top - q k ∧ 0 ≤ q k ∧ q k < 8388608) := ⟨fun k => by
  have := dec_bd d (litN bs) k hd.2
  rw [hr.out, hq.out]
  exact ⟨rfl, by show (0 : Int) ≤ ((decN d (litN bs) k : Nat) : Int); omega, by show ((decN d (litN bs) k : Nat) : Int) < 8388608; omega⟩⟩
 rw [← hr.out]
 obtain ⟨t1, t2⟩ := ht
 have HD : Shh ((0 ≤ top ∧ top < 8380417) ∧ d ≤ 23 ∧ w.heap.size = N) := ⟨⟨t1, t2⟩, hd.2, hN⟩
 have t3 : ¬ top < 0 := by omega
 have t4 : ¬ 8380417 ≤ top := by omega
 obtain ⟨A, c, rfl, _, _⟩ := hs.form
 clear hq hr hs hl hd hB hN
 generalize bs.length = ln at *
 go_enter Tryd.func25, Tryd.ntmps25
 go_wp2_with (refine wl_newzD 6 rfl rfl rfl ?_)
 intro N1 w2 hN1 r2 b2
 try simp only [Act.put, arr9, hd9, tl9]
 obtain rfl : N = N1 := HD.out.2.2.symm.trans hN1.out.symm
 have HI : Shh (Row w2 N 25 (dc fun _ => 0) ∧ Below N w w2 ∧ N < w2.heap.size) := by
  rw [HD.out.2.2] at b2
  exact ⟨r2, b2, r2.lt⟩
 clear r2 b2 hN1
 go_wp2_with (go_at_call 38; refine (HU.out _ HI.out.2.1 (Nat.le_of_lt HI.out.2.2)).mono ?_)
 rintro e w4 ⟨rfl, b4⟩
 have HJ : Shh (Row w4 N 25 (dc fun _ => 0) ∧ Below N w w4) := ⟨HI.out.1.go b4, HI.out.2.1.trans (b4.mono (Nat.le_of_lt HI.out.2.2))⟩
 clear b4 HI HU
 go_wp2_with (refine wl_newdD 8 q rfl rfl rfl rfl rfl rfl rfl rfl ?_)
 intro G w5 hG r5 b5
 try simp only [Act.put, arr9, hd9, tl9]
 have HK : Shh (Row w5 N 25 (dc fun _ => 0) ∧ Row w5 G 25 (dc (dhf r q 0)) ∧ Below N w w5 ∧ N < G) := ⟨HJ.out.1.go b5, by rw [dhf_zero]; exact r5, HJ.out.2.trans (b5.mono (Nat.le_of_lt HJ.out.1.lt)), by rw [hG.out]; exact HJ.out.1.lt⟩
 have HQ := Shh.mk r5
 clear r5 b5 HJ hG
 go_wp2_with (refine wpList_load_any rfl 25 (.tmp 8) rfl G rfl 25 (dc q) (.array 256 21) HQ.out Tryd.underlying25 rfl (info_dD.trans (size_dc _)) ?_)
 clear HQ
 go_wp2
 go_loopw [30] (fun i wr => ∃ k : Nat, k ≤ 256 ∧ i = .int .i64 (k : Int) ∧ Shh (Row wr N 25 (dc fun _ => 0) ∧ Row wr G 25 (dc (dhf r q k)) ∧ Below N w wr ∧ N < G)) (fun i _ => 256 - (intOf i).toNat)
 case atStart => exact ⟨0, Nat.zero_le _, rfl, HK⟩
 case round =>
  clear HK
  obtain ⟨k, hk, rfl, HI⟩ := hrel
  by_cases hlt : k < 256
  ·have HN2 := Shh.mk (dhf_next r q k)
   have HG := Shh.mk (dc_get q hlt)
   have HV := Shh.mk (HR.out k)
   generalize r k = rk at *
   generalize q k = qk at *
   have hlt2 : (k : Int) < 256 := by omega
   go_wp2_with (first | refine wl_at 33 rfl (.int .i32 qk) rfl (idx_dD hlt HG.out rfl rfl rfl) ?_ | refine wl_at 37 rfl (.int .i32 rk) rfl (sub_d (i := top) (j := qk) ⟨HV.out.1, by have := HV.out; have := HD.out.1; omega, by have := HV.out; have := HD.out.1; omega⟩ rfl rfl rfl) ?_ | refine wl_at 38 rfl (.pointer (some ⟨G, k, none⟩)) rfl (at_dD hlt rfl rfl rfl) ?_ | refine wl_storeD rfl hlt rfl rfl rfl HI.out.2.1 ?_)
   intro w6 r6 b6 z6
   rw [HN2.out] at r6
   have HJ : Shh (Row w6 N 25 (dc fun _ => 0) ∧ Row w6 G 25 (dc (dhf r q (k + 1))) ∧ Below N w w6 ∧ N < G) := by
    obtain ⟨h1, h2, h3, h4⟩ := HI.out
    exact ⟨b6.row h1 h1.lt (by omega), r6, h3.trans (b6.under (Nat.le_of_lt h1.lt) (by omega)), h4⟩
   clear r6 b6 z6 HI
   go_wp2
   go_roundw
   case rel => exact ⟨k + 1, by omega, by go_num, HJ⟩
   case measure => simp [intOf]; omega
  ·have hlt2 : ¬ (k : Int) < 256 := by omega
   have HJ : Shh (Row wr N 25 (dc fun _ => 0) ∧ Row wr G 25 (dc r) ∧ Below N w wr ∧ N < G) := by
    have h := HI.out
    rw [show k = 256 by omega] at h
    simp only [dhf_all] at h
    exact ⟨h⟩
   clear HI HR
   go_wp2_with (first | refine wpList_load_any rfl 25 (.tmp 8) rfl G rfl 25 (dc r) (.array 256 21) HJ.out.2.1 Tryd.underlying25 rfl (info_dD.trans (size_dc _)) ?_ | refine wpList_store_any rfl 25 (.tmp 6) (.tmp 40) rfl N rfl (dc r) rfl 25 _ HJ.out.1 (info_dD.trans (size_dc _)) (same_dc _ _) (dc_one _) ?_)
   intro w9 hr9 b9 _
   have hb9 := HJ.out.2.2.1.trans (b9.under (Nat.le_of_lt HJ.out.1.lt) (Nat.le_refl _))
   go_wp2
   exact ret_row_slotS Tryd.results25 rfl rfl rfl hr9 Tryd.underlying25 rfl (info_dD.trans (size_dc _)) ⟨rfl, hb9⟩
set_option maxHeartbeats 2000000 in
theorem Mask_18 (B : Nat) (v : Value) (m : List UInt8) (hl : m.length = 66) (w : World) (hs : Sl w B v m) (hB : B ≤ w.heap.size) (hv : KVars w) : Calls Tryd.prog 10 #[.int .i64 18, v] w (CdIs w (fun i => 131072 - (decN 18 (litN (spongeL 136 31 m 576)) i : Int)) 0) := by
 unfold CdIs
 generalize hN : w.heap.size = N at *
 have hpos := hv.pos
 have i3 : (m.length : Int) ≤ 66 := by omega
 have i4 : (66 : Int) ≤ (m.length : Int) := by omega
 obtain ⟨L, hL⟩ : ∃ L, Shh (L = spongeL 136 31 m 576) := ⟨_, ⟨rfl⟩⟩
 have HLL : Shh (L.length = 576 ∧ spongeL 136 31 [m].flatten 576 = L) := ⟨by rw [hL.out]; exact Sp.outs_length _ _ _, by rw [show [m].flatten = m by simp, hL.out]⟩
 rw [← hL.out]
 obtain ⟨r, hr⟩ : ∃ r : Nat → Int, Shh (r = fun i => 131072 - (decN 18 (litN L) i : Int)) := ⟨_, ⟨rfl⟩⟩
 have HF : Shh (∀ W v, Sl W W.heap.size v L → Calls Tryd.prog 25 #[.int .i32 131072, .int .i64 18, v] W (CdIs W r 0)) := ⟨fun W v h => by rw [hr.out]; exact UnpackFrom_any 131072 (by decide) 18 (by decide) W.heap.size v L HLL.out.1 W h (Nat.le_refl _)⟩
 rw [← hr.out]
 obtain ⟨A, c, rfl, _, _⟩ := hs.form
 have HD : Shh (Sl w B (.slice A m.length c) m ∧ B ≤ N ∧ w.heap.size = N) := ⟨hs, hB, hN⟩
 have HV : Shh (KVars w ∧ 0 < N) := ⟨hv, by omega⟩
 clear hr hL hs hl hB hN hv hpos
 generalize m.length = ln at *
 go_enter Tryd.func10, Tryd.ntmps10
 go_wp2_with (refine wl_newzD 4 rfl rfl rfl ?_)
 intro N1 w2 hN1 r2 b2
 try simp only [Act.put, arr9, hd9, tl9]
 obtain rfl : N = N1 := HD.out.2.2.symm.trans hN1.out.symm
 have HI : Shh (Row w2 N 25 (dc fun _ => 0) ∧ Below N w w2 ∧ N < w2.heap.size) := by
  rw [HD.out.2.2] at b2
  exact ⟨r2, b2, r2.lt⟩
 clear r2 b2 hN1
 have HS : Shh (Sl w2 B (.slice A ln c) m ∧ KVars w2 ∧ B ≤ N) := ⟨HD.out.1.below (HI.out.2.1.mono HD.out.2.1), HV.out.1.step (HD.out.2.2.symm ▸ HI.out.2.1), HD.out.2.1⟩
 go_wp2_with (go_at_call 24; refine (shake_ok256 576 (by decide) [m] (by simp) (w2.heap.size + 1) _ _ (PartsO.solo (Row.new_ rfl rfl) (Nat.lt_succ_self _) (by omega) ((HS.out.1.below ((bel1 _ _).mono (by have := HI.out; have := HS.out; omega))).more (by have := HI.out; have := HS.out; omega)) (HS.out.1.off (by have := HI.out; have := HS.out; omega))) (by rw [asz]; exact Nat.le_refl _) (HS.out.2.1.step (bel1 _ _))).mono ?_)
 rintro e w4 ⟨gx, rfl, hgx, hr4, b4⟩
 rw [HLL.out.2] at hr4
 have HJ : Shh (Row w4 N 25 (dc fun _ => 0) ∧ Below N w w4 ∧ Sl w4 w4.heap.size (.slice (some ⟨gx, 0, none⟩) 576 576) L) := by
  have b5 := Below.chain (bel1 w2 _) b4
  exact ⟨⟨HI.out.1.go b5, HI.out.2.1.trans (b5.mono (Nat.le_of_lt HI.out.2.2)), hr4.sl HLL.out.1 (by decide)⟩⟩
 clear hgx hr4 b4 HI HS HV
 go_wp2_with (go_at_call 25; refine (HF.out _ _ HJ.out.2.2).mono ?_)
 rintro e w5 ⟨rfl, b5⟩
 have HK : Shh (Row w5 N 25 (dc fun _ => 0) ∧ Below N w w5) := ⟨HJ.out.1.go b5, HJ.out.2.1.trans (b5.mono (Nat.le_of_lt HJ.out.1.lt))⟩
 clear b5 HJ HF
 go_wp2_with (refine wpList_store_any rfl 25 (.tmp 4) (.tmp 38) rfl N rfl (dc r) rfl 25 _ HK.out.1 (info_dD.trans (size_dc _)) (same_dc _ _) (dc_one _) ?_)
 intro w9 hr9 b9 _
 have hb9 := HK.out.2.trans (b9.under (Nat.le_of_lt HK.out.1.lt) (Nat.le_refl _))
 go_wp2
 exact ret_row_slotS Tryd.results10 rfl rfl rfl hr9 Tryd.underlying25 rfl (info_dD.trans (size_dc _)) ⟨rfl, hb9⟩
theorem Mask_bad18 (B : Nat) (v : Value) (m : List UInt8) (hl : ¬ m.length = 66) (w : World) (hs : Sl w B v m) : Calls Tryd.prog 10 #[.int .i64 18, v] w (CdIs w (fun _ => 0) 1) := by
 unfold CdIs
 obtain ⟨A, c, rfl, _, _⟩ := hs.form
 have h3 : ¬ (m.length : Int) = 66 := by omega
 generalize hN : w.heap.size = N at *
 have HD : Shh (True ∧ True ∧ w.heap.size = N) := ⟨trivial, trivial, hN⟩
 clear hs hl hN
 generalize m.length = ln at *
 go_enter Tryd.func10, Tryd.ntmps10
 go_wp2_with (refine wl_newzD 4 rfl rfl rfl ?_)
 intro N1 w2 hN1 r2 b2
 try simp only [Act.put, arr9, hd9, tl9]
 obtain rfl : N = N1 := HD.out.2.2.symm.trans hN1.out.symm
 have HI : Shh (Row w2 N 25 (dc fun _ => 0) ∧ Below N w w2 ∧ N < w2.heap.size) := by
  rw [HD.out.2.2] at b2
  exact ⟨r2, b2, r2.lt⟩
 clear r2 b2 hN1
 go_wp2_with (first | refine wl_at 19 rfl (.agg (dc fun _ => 0).toArray) rfl (build_zero rfl) ?_ | refine wpList_store_any rfl 25 (.tmp 4) (.tmp 19) rfl N rfl (dc fun _ => 0) rfl 25 _ HI.out.1 (info_dD.trans (size_dc _)) (same_dc _ _) (dc_one _) ?_)
 intro w9 hr9 b9 _
 have hb9 := HI.out.2.1.trans (b9.under (Nat.le_of_lt HI.out.1.lt) (Nat.le_refl _))
 go_wp2
 exact ret_row_slotS Tryd.results10 rfl rfl rfl hr9 Tryd.underlying25 rfl (info_dD.trans (size_dc _)) ⟨rfl, hb9⟩
set_option maxHeartbeats 2000000 in
theorem Mask_20 (B : Nat) (v : Value) (m : List UInt8) (hl : m.length = 66) (w : World) (hs : Sl w B v m) (hB : B ≤ w.heap.size) (hv : KVars w) : Calls Tryd.prog 10 #[.int .i64 20, v] w (CdIs w (fun i => 524288 - (decN 20 (litN (spongeL 136 31 m 640)) i : Int)) 0) := by
 unfold CdIs
 generalize hN : w.heap.size = N at *
 have hpos := hv.pos
 have i3 : (m.length : Int) ≤ 66 := by omega
 have i4 : (66 : Int) ≤ (m.length : Int) := by omega
 obtain ⟨L, hL⟩ : ∃ L, Shh (L = spongeL 136 31 m 640) := ⟨_, ⟨rfl⟩⟩
 have HLL : Shh (L.length = 640 ∧ spongeL 136 31 [m].flatten 640 = L) := ⟨by rw [hL.out]; exact Sp.outs_length _ _ _, by rw [show [m].flatten = m by simp, hL.out]⟩
 rw [← hL.out]
 obtain ⟨r, hr⟩ : ∃ r : Nat → Int, Shh (r = fun i => 524288 - (decN 20 (litN L) i : Int)) := ⟨_, ⟨rfl⟩⟩
 have HF : Shh (∀ W v, Sl W W.heap.size v L → Calls Tryd.prog 25 #[.int .i32 524288, .int .i64 20, v] W (CdIs W r 0)) := ⟨fun W v h => by rw [hr.out]; exact UnpackFrom_any 524288 (by decide) 20 (by decide) W.heap.size v L HLL.out.1 W h (Nat.le_refl _)⟩
 rw [← hr.out]
 obtain ⟨A, c, rfl, _, _⟩ := hs.form
 have HD : Shh (Sl w B (.slice A m.length c) m ∧ B ≤ N ∧ w.heap.size = N) := ⟨hs, hB, hN⟩
 have HV : Shh (KVars w ∧ 0 < N) := ⟨hv, by omega⟩
 clear hr hL hs hl hB hN hv hpos
 generalize m.length = ln at *
 go_enter Tryd.func10, Tryd.ntmps10
 go_wp2_with (refine wl_newzD 4 rfl rfl rfl ?_)
 intro N1 w2 hN1 r2 b2
 try simp only [Act.put, arr9, hd9, tl9]
 obtain rfl : N = N1 := HD.out.2.2.symm.trans hN1.out.symm
 have HI : Shh (Row w2 N 25 (dc fun _ => 0) ∧ Below N w w2 ∧ N < w2.heap.size) := by
  rw [HD.out.2.2] at b2
  exact ⟨r2, b2, r2.lt⟩
 clear r2 b2 hN1
 have HS : Shh (Sl w2 B (.slice A ln c) m ∧ KVars w2 ∧ B ≤ N) := ⟨HD.out.1.below (HI.out.2.1.mono HD.out.2.1), HV.out.1.step (HD.out.2.2.symm ▸ HI.out.2.1), HD.out.2.1⟩
 go_wp2_with (go_at_call 24; refine (shake_ok256 640 (by decide) [m] (by simp) (w2.heap.size + 1) _ _ (PartsO.solo (Row.new_ rfl rfl) (Nat.lt_succ_self _) (by omega) ((HS.out.1.below ((bel1 _ _).mono (by have := HI.out; have := HS.out; omega))).more (by have := HI.out; have := HS.out; omega)) (HS.out.1.off (by have := HI.out; have := HS.out; omega))) (by rw [asz]; exact Nat.le_refl _) (HS.out.2.1.step (bel1 _ _))).mono ?_)
 rintro e w4 ⟨gx, rfl, hgx, hr4, b4⟩
 rw [HLL.out.2] at hr4
 have HJ : Shh (Row w4 N 25 (dc fun _ => 0) ∧ Below N w w4 ∧ Sl w4 w4.heap.size (.slice (some ⟨gx, 0, none⟩) 640 640) L) := by
  have b5 := Below.chain (bel1 w2 _) b4
  exact ⟨⟨HI.out.1.go b5, HI.out.2.1.trans (b5.mono (Nat.le_of_lt HI.out.2.2)), hr4.sl HLL.out.1 (by decide)⟩⟩
 clear hgx hr4 b4 HI HS HV
 go_wp2_with (go_at_call 25; refine (HF.out _ _ HJ.out.2.2).mono ?_)
 rintro e w5 ⟨rfl, b5⟩
 have HK : Shh (Row w5 N 25 (dc fun _ => 0) ∧ Below N w w5) := ⟨HJ.out.1.go b5, HJ.out.2.1.trans (b5.mono (Nat.le_of_lt HJ.out.1.lt))⟩
 clear b5 HJ HF
 go_wp2_with (refine wpList_store_any rfl 25 (.tmp 4) (.tmp 38) rfl N rfl (dc r) rfl 25 _ HK.out.1 (info_dD.trans (size_dc _)) (same_dc _ _) (dc_one _) ?_)
 intro w9 hr9 b9 _
 have hb9 := HK.out.2.trans (b9.under (Nat.le_of_lt HK.out.1.lt) (Nat.le_refl _))
 go_wp2
 exact ret_row_slotS Tryd.results10 rfl rfl rfl hr9 Tryd.underlying25 rfl (info_dD.trans (size_dc _)) ⟨rfl, hb9⟩
theorem Mask_bad20 (B : Nat) (v : Value) (m : List UInt8) (hl : ¬ m.length = 66) (w : World) (hs : Sl w B v m) : Calls Tryd.prog 10 #[.int .i64 20, v] w (CdIs w (fun _ => 0) 1) := by
 unfold CdIs
 obtain ⟨A, c, rfl, _, _⟩ := hs.form
 have h3 : ¬ (m.length : Int) = 66 := by omega
 generalize hN : w.heap.size = N at *
 have HD : Shh (True ∧ True ∧ w.heap.size = N) := ⟨trivial, trivial, hN⟩
 clear hs hl hN
 generalize m.length = ln at *
 go_enter Tryd.func10, Tryd.ntmps10
 go_wp2_with (refine wl_newzD 4 rfl rfl rfl ?_)
 intro N1 w2 hN1 r2 b2
 try simp only [Act.put, arr9, hd9, tl9]
 obtain rfl : N = N1 := HD.out.2.2.symm.trans hN1.out.symm
 have HI : Shh (Row w2 N 25 (dc fun _ => 0) ∧ Below N w w2 ∧ N < w2.heap.size) := by
  rw [HD.out.2.2] at b2
  exact ⟨r2, b2, r2.lt⟩
 clear r2 b2 hN1
 go_wp2_with (first | refine wl_at 19 rfl (.agg (dc fun _ => 0).toArray) rfl (build_zero rfl) ?_ | refine wpList_store_any rfl 25 (.tmp 4) (.tmp 19) rfl N rfl (dc fun _ => 0) rfl 25 _ HI.out.1 (info_dD.trans (size_dc _)) (same_dc _ _) (dc_one _) ?_)
 intro w9 hr9 b9 _
 have hb9 := HI.out.2.1.trans (b9.under (Nat.le_of_lt HI.out.1.lt) (Nat.le_refl _))
 go_wp2
 exact ret_row_slotS Tryd.results10 rfl rfl rfl hr9 Tryd.underlying25 rfl (info_dD.trans (size_dc _)) ⟨rfl, hb9⟩
end Go.Proofs.YtapjiknedghhfaaDoor
