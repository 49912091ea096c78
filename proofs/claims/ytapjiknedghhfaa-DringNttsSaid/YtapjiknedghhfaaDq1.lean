/-
 REDUCE AND CENTER: the program's and the document's.
-/
import Derived.Test.YtapjiknedghhfaaDd3
import Derived.Test.YtapjiknedghhfaaDg3
namespace Go.Proofs.Ytapjiknedghhfaa
open Go.RowKit
set_option maxRecDepth 100000
def centD (p : Nat → Int) (k : Nat) : Int := if 4190208 < redD p k then redD p k - 8380417 else redD p k
theorem dhf_skip {r p : Nat → Int} {k : Nat} (h : r k = p k) : dc (dhf r p k) = dc (dhf r p (k + 1)) := by
 rw [← dhf_next]
 refine dc_of fun i _ => ?_
 unfold dup
 by_cases e : i = k
 ·rw [if_pos e, e, h]
  unfold dhf
  rw [if_neg (by omega)]
 ·rw [if_neg e]
theorem redD_32 (p : Nat → Int) (i : Nat) : i32 (redD p i) := by have := qd_lt (p i); unfold redD i32; omega
theorem centD_32 (p : Nat → Int) (i : Nat) : -4190208 ≤ centD p i ∧ centD p i ≤ 4190208 := by
 have := qd_lt (p i)
 unfold centD
 unfold redD at *
 split <;> omega
set_option maxHeartbeats 2000000 in
theorem Reduce_any (p : Nat → Int) (hp : ∀ i, i < 256 → i32 (p i)) (w : World) : Calls Try.prog 12 #[polyD p] w (DPolyIs w (redD p)) := by
 unfold DPolyIs polyD
 have HRS : Shh (∀ i, i < 256 → ∀ W, Calls Try.prog 45 #[.int .i32 (p i)] W (I32Is W (redD p i))) := ⟨fun i hi W => residue_any _ (hp i hi) W⟩
 clear hp
 generalize redD p = r at *
 generalize hN : w.heap.size = N at *
 have FA : Shh (Row ((w.alloc (.cells (dc p).toArray 23)).alloc (.cells (dc fun _ => 0).toArray 23)) N 23 (dc p) ∧ Row ((w.alloc (.cells (dc p).toArray 23)).alloc (.cells (dc fun _ => 0).toArray 23)) (N + 1) 23 (dc fun _ => 0) ∧ Below N w ((w.alloc (.cells (dc p).toArray 23)).alloc (.cells (dc fun _ => 0).toArray 23))) := by
  refine ⟨((Row.new_ hN.symm rfl).alloc _), (Row.new_ (by rw [asz, hN]) rfl), ?_⟩
  rw [← hN]
  exact Below.chain (belA _ _) (belA _ _)
 go_enter Try.func12, Try.ntmps12
 have FX := FA
 obtain ⟨W, hW⟩ : ∃ W, W = ((w.alloc (.cells (dc p).toArray 23)).alloc (.cells (dc fun _ => 0).toArray 23)) := ⟨_, rfl⟩
 have FB : Shh (Row W N 23 (dc p) ∧ Row W (N + 1) 23 (dc fun _ => 0) ∧ Below N w W) := by rw [hW]; exact FA
 clear FA
 go_wp2_with (first | refine wl_allocD rfl rfl ?_ | refine wpList_load_any rfl 23 (.tmp 1) rfl N rfl 23 (dc p) (.array 256 21) FX.out.1 Try.underlying23 rfl (info_dD.trans (size_dc _)) ?_)
 try simp only [asz, hN]
 rw [← hW]
 clear hW
 clear FX
 go_wp2
 go_loopw [6] (fun i wr => ∃ k : Nat, k ≤ 256 ∧ i = .int .i64 (k : Int) ∧ Shh (Row wr N 23 (dc (dhf r p k)) ∧ Row wr (N + 1) 23 (dc fun _ => 0) ∧ Below N w wr)) (fun i _ => 256 - (intOf i).toNat)
 case atStart => exact ⟨0, Nat.zero_le _, rfl, ⟨by simp only [dhf_zero]; exact FB.out⟩⟩
 case round =>
  clear FB
  obtain ⟨k, hk, rfl, HI⟩ := hrel
  by_cases hlt : k < 256
  ·have HC := Shh.mk (HRS.out k hlt)
   have HN2 := Shh.mk (dhf_next r p k)
   have HG := Shh.mk (dc_get p hlt)
   generalize r k = rk at *
   generalize p k = pk at *
   have hlt2 : (k : Int) < 256 := by omega
   go_wp2_with (first | refine wl_at 9 rfl (.int .i32 pk) rfl (idx_dD hlt HG.out rfl rfl rfl) ?_ | (go_at_call 45; refine (HC.out _).mono ?_))
   rintro e w1 ⟨rfl, rfl⟩
   go_wp2_with (first | refine wl_at 13 rfl (.pointer (some ⟨N, k, none⟩)) rfl (at_dD hlt rfl rfl rfl) ?_ | refine wl_storeD rfl hlt rfl rfl rfl HI.out.1 ?_)
   intro w2 r3 bt4 zbt4
   rw [HN2.out] at r3
   have HJ : Shh (Row w2 N 23 (dc (dhf r p (k + 1))) ∧ Row w2 (N + 1) 23 (dc fun _ => 0) ∧ Below N w w2) := by
    obtain ⟨h0, h1, h2⟩ := HI.out
    have := h0.lt
    have := h1.lt
    have hb := bt4.under (Nat.le_of_lt h0.lt) (Nat.le_refl _)
    have := hb.size
    exact ⟨r3, bt4.row h1 h1.lt (by omega), h2.trans (hb.mono (by omega))⟩
   clear bt4 HI r3 zbt4
   go_wp2
   go_roundw
   case rel => exact ⟨k + 1, by omega, by go_num, HJ⟩
   case measure => simp [intOf]; omega
  ·have hlt2 : ¬ (k : Int) < 256 := by omega
   have HJ : Shh (Row wr N 23 (dc r) ∧ Row wr (N + 1) 23 (dc fun _ => 0) ∧ Below N w wr) := by
    have h := HI.out
    rw [show k = 256 by omega] at h
    simp only [dhf_all] at h
    exact ⟨h⟩
   clear HI
   go_wp2_with (first | refine wpList_load_any rfl 23 (.tmp 1) rfl N rfl 23 (dc r) (.array 256 21) HJ.out.1 Try.underlying23 rfl (info_dD.trans (size_dc _)) ?_ | refine wpList_store_any rfl 23 (.tmp 2) (.tmp 15) rfl (N + 1) rfl (dc r) rfl 23 _ HJ.out.2.1 (info_dD.trans (size_dc _)) (same_dc _ _) (dc_one _) ?_)
   intro w1 r2 bt3 zbt3
   have HK : Shh (Row w1 N 23 (dc r) ∧ Row w1 (N + 1) 23 (dc r) ∧ Below N w w1) := by
    obtain ⟨h0, h1, h2⟩ := HJ.out
    have := h0.lt
    have := h1.lt
    have hb := bt3.under (Nat.le_of_lt h1.lt) (Nat.le_refl _)
    have := hb.size
    exact ⟨bt3.row h0 h0.lt (by omega), r2, h2.trans (hb.mono (by omega))⟩
   clear bt3 HJ r2 zbt3
   go_wp2
   exact ret_row Try.results12 rfl rfl HK.out.2.1 Try.underlying23 rfl (info_dD.trans (size_dc _)) ⟨rfl, HK.out.2.2⟩
set_option maxHeartbeats 2000000 in
theorem refReduce_any (p : Nat → Int) (hp : ∀ i, i < 256 → i32 (p i)) (w : World) : Calls Try.prog 13 #[polyD p] w (DPolyIs w (redD p)) := by
 unfold DPolyIs polyD
 have HRS : Shh (∀ i, i < 256 → (∀ W, Calls Try.prog 46 #[.int .i64 (p i)] W (I64Is W (redD p i))) ∧ i32 (p i) ∧ i32 (redD p i)) := ⟨fun i hi => ⟨fun W => refMod_any _ (by have := hp i hi; unfold i32 at this; unfold i64; omega) W, hp i hi, redD_32 p i⟩⟩
 clear hp
 generalize redD p = r at *
 generalize hN : w.heap.size = N at *
 have FA : Shh (Row ((w.alloc (.cells (dc p).toArray 23)).alloc (.cells (dc fun _ => 0).toArray 23)) N 23 (dc p) ∧ Row ((w.alloc (.cells (dc p).toArray 23)).alloc (.cells (dc fun _ => 0).toArray 23)) (N + 1) 23 (dc fun _ => 0) ∧ Below N w ((w.alloc (.cells (dc p).toArray 23)).alloc (.cells (dc fun _ => 0).toArray 23))) := by
  refine ⟨((Row.new_ hN.symm rfl).alloc _), (Row.new_ (by rw [asz, hN]) rfl), ?_⟩
  rw [← hN]
  exact Below.chain (belA _ _) (belA _ _)
 go_enter Try.func13, Try.ntmps13
 obtain ⟨W, hW⟩ : ∃ W, W = ((w.alloc (.cells (dc p).toArray 23)).alloc (.cells (dc fun _ => 0).toArray 23)) := ⟨_, rfl⟩
 have FB : Shh (Row W N 23 (dc p) ∧ Row W (N + 1) 23 (dc fun _ => 0) ∧ Below N w W) := by rw [hW]; exact FA
 clear FA
 go_wp2_with (refine wl_allocD rfl rfl ?_)
 try simp only [asz, hN]
 rw [← hW]
 clear hW
 go_wp2
 go_loopw [4] (fun i wr => ∃ k : Nat, k ≤ 256 ∧ i = .int .i64 (k : Int) ∧ Shh (Row wr N 23 (dc (dhf r p k)) ∧ Row wr (N + 1) 23 (dc fun _ => 0) ∧ Below N w wr)) (fun i _ => 256 - (intOf i).toNat)
 case atStart => exact ⟨0, Nat.zero_le _, rfl, ⟨by simp only [dhf_zero]; exact FB.out⟩⟩
 case round =>
  clear FB
  obtain ⟨k, hk, rfl, HI⟩ := hrel
  by_cases hlt : k < 256
  ·have HC := Shh.mk (HRS.out k hlt)
   have HN2 := Shh.mk (dhf_next r p k)
   have HG := Shh.mk ((HI.out.1.cell k).trans (dhf_at r p hlt))
   generalize r k = rk at *
   generalize p k = pk at *
   have hlt2 : (k : Int) < 256 := by omega
   have HC1 := Shh.mk HC.out.1
   go_wp2_with (first | refine wl_at 9 rfl (.pointer (some ⟨N, k, none⟩)) rfl (at_dD hlt rfl rfl rfl) ?_ | refine wl_at 10 rfl (.int .i32 pk) rfl (load_d rfl HG.out rfl) ?_ | refine wl_at 11 rfl (.int .i64 pk) rfl (conv_dl HC.out.2.1 rfl rfl) ?_ | (go_at_call 46; refine (HC1.out _).mono ?_))
   rintro e w1 ⟨rfl, rfl⟩
   go_wp2_with (first | refine wl_at 13 rfl (.int .i32 rk) rfl (conv_ld HC.out.2.2 rfl rfl) ?_ | refine wl_at 14 rfl (.pointer (some ⟨N, k, none⟩)) rfl (at_dD hlt rfl rfl rfl) ?_ | refine wl_storeD rfl hlt rfl rfl rfl HI.out.1 ?_)
   intro w2 r3 bt4 zbt4
   rw [HN2.out] at r3
   have HJ : Shh (Row w2 N 23 (dc (dhf r p (k + 1))) ∧ Row w2 (N + 1) 23 (dc fun _ => 0) ∧ Below N w w2) := by
    obtain ⟨h0, h1, h2⟩ := HI.out
    have := h0.lt
    have := h1.lt
    have hb := bt4.under (Nat.le_of_lt h0.lt) (Nat.le_refl _)
    have := hb.size
    exact ⟨r3, bt4.row h1 h1.lt (by omega), h2.trans (hb.mono (by omega))⟩
   clear bt4 HI r3 zbt4 HG HC1
   go_wp2
   go_roundw
   case rel => exact ⟨k + 1, by omega, by go_num, HJ⟩
   case measure => simp [intOf]; omega
  ·have hlt2 : ¬ (k : Int) < 256 := by omega
   have HJ : Shh (Row wr N 23 (dc r) ∧ Row wr (N + 1) 23 (dc fun _ => 0) ∧ Below N w wr) := by
    have h := HI.out
    rw [show k = 256 by omega] at h
    simp only [dhf_all] at h
    exact ⟨h⟩
   clear HI
   go_wp2_with (first | refine wpList_load_any rfl 23 (.tmp 1) rfl N rfl 23 (dc r) (.array 256 21) HJ.out.1 Try.underlying23 rfl (info_dD.trans (size_dc _)) ?_ | refine wpList_store_any rfl 23 (.tmp 2) (.tmp 16) rfl (N + 1) rfl (dc r) rfl 23 _ HJ.out.2.1 (info_dD.trans (size_dc _)) (same_dc _ _) (dc_one _) ?_)
   intro w1 r2 bt3 zbt3
   have HK : Shh (Row w1 N 23 (dc r) ∧ Row w1 (N + 1) 23 (dc r) ∧ Below N w w1) := by
    obtain ⟨h0, h1, h2⟩ := HJ.out
    have := h0.lt
    have := h1.lt
    have hb := bt3.under (Nat.le_of_lt h1.lt) (Nat.le_refl _)
    have := hb.size
    exact ⟨bt3.row h0 h0.lt (by omega), r2, h2.trans (hb.mono (by omega))⟩
   clear bt3 HJ r2 zbt3
   go_wp2
   exact ret_row Try.results13 rfl rfl HK.out.2.1 Try.underlying23 rfl (info_dD.trans (size_dc _)) ⟨rfl, HK.out.2.2⟩
set_option maxHeartbeats 2000000 in
theorem Center_any (p : Nat → Int) (hp : ∀ i, i < 256 → i32 (p i)) (w : World) : Calls Try.prog 14 #[polyD p] w (DPolyIs w (centD p)) := by
 unfold DPolyIs polyD
 have HRD : Shh (∀ W, Calls Try.prog 12 #[.agg (dc p).toArray] W (DPolyIs W (redD p))) := ⟨fun W => Reduce_any p hp W⟩
 have HCT : Shh (∀ i, (4190208 < redD p i → centD p i = redD p i - 8380417 ∧ -2147483648 ≤ centD p i ∧ centD p i ≤ 2147483647) ∧ (¬ 4190208 < redD p i → centD p i = redD p i)) := ⟨fun i => by
  have h1 := centD_32 p i
  refine ⟨fun h => ⟨if_pos h, by omega, by omega⟩, fun h => if_neg h⟩⟩
 clear hp
 generalize centD p = c at *
 generalize redD p = r at *
 generalize hN : w.heap.size = N at *
 have FA : Shh (Row ((w.alloc (.cells (dc p).toArray 23)).alloc (.cells (dc fun _ => 0).toArray 23)) N 23 (dc p) ∧ Row ((w.alloc (.cells (dc p).toArray 23)).alloc (.cells (dc fun _ => 0).toArray 23)) (N + 1) 23 (dc fun _ => 0) ∧ Below N w ((w.alloc (.cells (dc p).toArray 23)).alloc (.cells (dc fun _ => 0).toArray 23))) := by
  refine ⟨((Row.new_ hN.symm rfl).alloc _), (Row.new_ (by rw [asz, hN]) rfl), ?_⟩
  rw [← hN]
  exact Below.chain (belA _ _) (belA _ _)
 go_enter Try.func14, Try.ntmps14
 go_wp2_with (first | refine wl_allocD rfl rfl ?_ | refine wpList_load_any rfl 23 (.tmp 1) rfl N rfl 23 (dc p) (.array 256 21) FA.out.1 Try.underlying23 rfl (info_dD.trans (size_dc _)) ?_ | (go_at_call 12; refine (HRD.out _).mono ?_))
 rintro e w1 ⟨rfl, b2⟩
 have FB : Shh (Row w1 N 23 (dc p) ∧ Row w1 (N + 1) 23 (dc fun _ => 0) ∧ Below N w w1) := by
  obtain ⟨h0, h1, h2⟩ := FA.out
  have := h0.lt
  have := h1.lt
  have := b2.size
  exact ⟨h0.go b2, h1.go b2, h2.trans (b2.mono (by omega))⟩
 clear b2 FA HRD
 go_wp2
 go_loopw [7] (fun i wr => ∃ k : Nat, k ≤ 256 ∧ i = .int .i64 (k : Int) ∧ Shh (Row wr N 23 (dc (dhf c p k)) ∧ Row wr (N + 1) 23 (dc fun _ => 0) ∧ Below N w wr)) (fun i _ => 256 - (intOf i).toNat)
 case atStart => exact ⟨0, Nat.zero_le _, rfl, ⟨by simp only [dhf_zero]; exact FB.out⟩⟩
 case round =>
  clear FB
  obtain ⟨k, hk, rfl, HI⟩ := hrel
  by_cases hlt : k < 256
  ·obtain ⟨hA, hB⟩ := HCT.out k
   have HN2 := Shh.mk (dhf_next c p k)
   have HG := Shh.mk (dc_get r hlt)
   generalize c k = ck at *
   generalize r k = rk at *
   have hlt2 : (k : Int) < 256 := by omega
   by_cases hc : 4190208 < rk
   ·have HE := Shh.mk (hA hc)
    clear hA hB
    go_wp2_with (first | refine wl_at 10 rfl (.int .i32 rk) rfl (idx_dD hlt HG.out rfl rfl rfl) ?_ | refine wl_at 14 rfl (.int .i32 ck) rfl (sub_d HE.out rfl rfl rfl) ?_ | refine wl_at 17 rfl (.pointer (some ⟨N, k, none⟩)) rfl (at_dD hlt rfl rfl rfl) ?_ | refine wl_storeD rfl hlt rfl rfl rfl HI.out.1 ?_)
    intro w3 r4 bt5 zbt5
    rw [HN2.out] at r4
    have HJ : Shh (Row w3 N 23 (dc (dhf c p (k + 1))) ∧ Row w3 (N + 1) 23 (dc fun _ => 0) ∧ Below N w w3) := by
     obtain ⟨h0, h1, h2⟩ := HI.out
     have := h0.lt
     have := h1.lt
     have hb := bt5.under (Nat.le_of_lt h0.lt) (Nat.le_refl _)
     have := hb.size
     exact ⟨r4, bt5.row h1 h1.lt (by omega), h2.trans (hb.mono (by omega))⟩
    clear bt5 HI r4 zbt5
    go_wp2
    go_roundw
    case rel => exact ⟨k + 1, by omega, by go_num, HJ⟩
    case measure => simp [intOf]; omega
   ·have e := hB (by omega)
    clear hA hB
    subst e
    go_wp2_with (first | refine wl_at 10 rfl (.int .i32 ck) rfl (idx_dD hlt HG.out rfl rfl rfl) ?_ | refine wl_at 17 rfl (.pointer (some ⟨N, k, none⟩)) rfl (at_dD hlt rfl rfl rfl) ?_ | refine wl_storeD rfl hlt rfl rfl rfl HI.out.1 ?_)
    intro w3 r4 bt5 zbt5
    rw [HN2.out] at r4
    have HJ : Shh (Row w3 N 23 (dc (dhf c p (k + 1))) ∧ Row w3 (N + 1) 23 (dc fun _ => 0) ∧ Below N w w3) := by
     obtain ⟨h0, h1, h2⟩ := HI.out
     have := h0.lt
     have := h1.lt
     have hb := bt5.under (Nat.le_of_lt h0.lt) (Nat.le_refl _)
     have := hb.size
     exact ⟨r4, bt5.row h1 h1.lt (by omega), h2.trans (hb.mono (by omega))⟩
    clear bt5 HI r4 zbt5
    go_wp2
    go_roundw
    case rel => exact ⟨k + 1, by omega, by go_num, HJ⟩
    case measure => simp [intOf]; omega
  ·have hlt2 : ¬ (k : Int) < 256 := by omega
   have HJ : Shh (Row wr N 23 (dc c) ∧ Row wr (N + 1) 23 (dc fun _ => 0) ∧ Below N w wr) := by
    have h := HI.out
    rw [show k = 256 by omega] at h
    simp only [dhf_all] at h
    exact ⟨h⟩
   clear HI
   go_wp2_with (first | refine wpList_load_any rfl 23 (.tmp 1) rfl N rfl 23 (dc c) (.array 256 21) HJ.out.1 Try.underlying23 rfl (info_dD.trans (size_dc _)) ?_ | refine wpList_store_any rfl 23 (.tmp 2) (.tmp 19) rfl (N + 1) rfl (dc c) rfl 23 _ HJ.out.2.1 (info_dD.trans (size_dc _)) (same_dc _ _) (dc_one _) ?_)
   intro w3 r4 bt5 zbt5
   have HK : Shh (Row w3 N 23 (dc c) ∧ Row w3 (N + 1) 23 (dc c) ∧ Below N w w3) := by
    obtain ⟨h0, h1, h2⟩ := HJ.out
    have := h0.lt
    have := h1.lt
    have hb := bt5.under (Nat.le_of_lt h1.lt) (Nat.le_refl _)
    have := hb.size
    exact ⟨bt5.row h0 h0.lt (by omega), r4, h2.trans (hb.mono (by omega))⟩
   clear bt5 HJ r4 zbt5
   go_wp2
   exact ret_row Try.results14 rfl rfl HK.out.2.1 Try.underlying23 rfl (info_dD.trans (size_dc _)) ⟨rfl, HK.out.2.2⟩
set_option maxHeartbeats 2000000 in
theorem refCenter_any (p : Nat → Int) (hp : ∀ i, i < 256 → i32 (p i)) (w : World) : Calls Try.prog 15 #[polyD p] w (DPolyIs w (centD p)) := by
 unfold DPolyIs polyD
 have HRD : Shh (∀ W, Calls Try.prog 13 #[.agg (dc p).toArray] W (DPolyIs W (redD p))) := ⟨fun W => refReduce_any p hp W⟩
 have HCT : Shh (∀ i, (4190208 < redD p i → centD p i = redD p i - 8380417 ∧ -2147483648 ≤ centD p i ∧ centD p i ≤ 2147483647) ∧ (¬ 4190208 < redD p i → centD p i = redD p i)) := ⟨fun i => by
  have h1 := centD_32 p i
  refine ⟨fun h => ⟨if_pos h, by omega, by omega⟩, fun h => if_neg h⟩⟩
 clear hp
 generalize centD p = c at *
 generalize redD p = r at *
 generalize hN : w.heap.size = N at *
 have FA : Shh (Row ((w.alloc (.cells (dc p).toArray 23)).alloc (.cells (dc fun _ => 0).toArray 23)) N 23 (dc p) ∧ Row ((w.alloc (.cells (dc p).toArray 23)).alloc (.cells (dc fun _ => 0).toArray 23)) (N + 1) 23 (dc fun _ => 0) ∧ Below N w ((w.alloc (.cells (dc p).toArray 23)).alloc (.cells (dc fun _ => 0).toArray 23))) := by
  refine ⟨((Row.new_ hN.symm rfl).alloc _), (Row.new_ (by rw [asz, hN]) rfl), ?_⟩
  rw [← hN]
  exact Below.chain (belA _ _) (belA _ _)
 go_enter Try.func15, Try.ntmps15
 go_wp2_with (first | refine wl_allocD rfl rfl ?_ | refine wpList_load_any rfl 23 (.tmp 1) rfl N rfl 23 (dc p) (.array 256 21) FA.out.1 Try.underlying23 rfl (info_dD.trans (size_dc _)) ?_ | (go_at_call 13; refine (HRD.out _).mono ?_))
 rintro e w1 ⟨rfl, b2⟩
 have FB : Shh (Row w1 N 23 (dc p) ∧ Row w1 (N + 1) 23 (dc fun _ => 0) ∧ Below N w w1) := by
  obtain ⟨h0, h1, h2⟩ := FA.out
  have := h0.lt
  have := h1.lt
  have := b2.size
  exact ⟨h0.go b2, h1.go b2, h2.trans (b2.mono (by omega))⟩
 clear b2 FA HRD
 go_wp2_with (first | refine wpList_store_any rfl 23 (.tmp 1) (.tmp 5) rfl N rfl (dc r) rfl 23 _ FB.out.1 (info_dD.trans (size_dc _)) (same_dc _ _) (dc_one _) ?_)
 intro w3 r4 bt5 zbt5
 have FC : Shh (Row w3 N 23 (dc r) ∧ Row w3 (N + 1) 23 (dc fun _ => 0) ∧ Below N w w3) := by
  obtain ⟨h0, h1, h2⟩ := FB.out
  have := h0.lt
  have := h1.lt
  have hb := bt5.under (Nat.le_of_lt h0.lt) (Nat.le_refl _)
  have := hb.size
  exact ⟨r4, bt5.row h1 h1.lt (by omega), h2.trans (hb.mono (by omega))⟩
 clear bt5 FB r4 zbt5
 go_wp2
 go_loopw [6] (fun i wr => ∃ k : Nat, k ≤ 256 ∧ i = .int .i64 (k : Int) ∧ Shh (Row wr N 23 (dc (dhf c r k)) ∧ Row wr (N + 1) 23 (dc fun _ => 0) ∧ Below N w wr)) (fun i _ => 256 - (intOf i).toNat)
 case atStart => exact ⟨0, Nat.zero_le _, rfl, ⟨by simp only [dhf_zero]; exact FC.out⟩⟩
 case round =>
  clear FC
  obtain ⟨k, hk, rfl, HI⟩ := hrel
  by_cases hlt : k < 256
  ·obtain ⟨hA, hB⟩ := HCT.out k
   have HN2 := Shh.mk (dhf_next c r k)
   have HSK := Shh.mk (dhf_skip (r := c) (p := r) (k := k))
   have HG := Shh.mk ((HI.out.1.cell k).trans (dhf_at c r hlt))
   generalize c k = ck at *
   generalize r k = rk at *
   have hlt2 : (k : Int) < 256 := by omega
   by_cases hc : 4190208 < rk
   ·have HE := Shh.mk (hA hc)
    clear hA hB HSK
    go_wp2_with (first | refine wl_at 10 rfl (.pointer (some ⟨N, k, none⟩)) rfl (at_dD hlt rfl rfl rfl) ?_ | refine wl_at 11 rfl (.int .i32 rk) rfl (load_d rfl HG.out rfl) ?_ | refine wl_at 14 rfl (.pointer (some ⟨N, k, none⟩)) rfl (at_dD hlt rfl rfl rfl) ?_ | refine wl_at 15 rfl (.int .i32 rk) rfl (load_d rfl HG.out rfl) ?_ | refine wl_at 16 rfl (.int .i32 ck) rfl (sub_d HE.out rfl rfl rfl) ?_ | refine wl_at 17 rfl (.pointer (some ⟨N, k, none⟩)) rfl (at_dD hlt rfl rfl rfl) ?_ | refine wl_storeD rfl hlt rfl rfl rfl HI.out.1 ?_)
    intro w6 r7 bt8 zbt8
    rw [HN2.out] at r7
    have HJ : Shh (Row w6 N 23 (dc (dhf c r (k + 1))) ∧ Row w6 (N + 1) 23 (dc fun _ => 0) ∧ Below N w w6) := by
     obtain ⟨h0, h1, h2⟩ := HI.out
     have := h0.lt
     have := h1.lt
     have hb := bt8.under (Nat.le_of_lt h0.lt) (Nat.le_refl _)
     have := hb.size
     exact ⟨r7, bt8.row h1 h1.lt (by omega), h2.trans (hb.mono (by omega))⟩
    clear bt8 HI r7 zbt8 HG
    go_wp2
    go_roundw
    case rel => exact ⟨k + 1, by omega, by go_num, HJ⟩
    case measure => simp [intOf]; omega
   ·have HX := Shh.mk (HSK.out (hB (by omega)))
    clear hA hB HSK
    rw [HX.out] at HI
    go_wp2_with (first | refine wl_at 10 rfl (.pointer (some ⟨N, k, none⟩)) rfl (at_dD hlt rfl rfl rfl) ?_ | refine wl_at 11 rfl (.int .i32 rk) rfl (load_d rfl HG.out rfl) ?_)
    go_roundw
    case rel => exact ⟨k + 1, by omega, by go_num, HI⟩
    case measure => simp [intOf]; omega
  ·have hlt2 : ¬ (k : Int) < 256 := by omega
   have HJ : Shh (Row wr N 23 (dc c) ∧ Row wr (N + 1) 23 (dc fun _ => 0) ∧ Below N w wr) := by
    have h := HI.out
    rw [show k = 256 by omega] at h
    simp only [dhf_all] at h
    exact ⟨h⟩
   clear HI
   go_wp2_with (first | refine wpList_load_any rfl 23 (.tmp 1) rfl N rfl 23 (dc c) (.array 256 21) HJ.out.1 Try.underlying23 rfl (info_dD.trans (size_dc _)) ?_ | refine wpList_store_any rfl 23 (.tmp 2) (.tmp 19) rfl (N + 1) rfl (dc c) rfl 23 _ HJ.out.2.1 (info_dD.trans (size_dc _)) (same_dc _ _) (dc_one _) ?_)
   intro w6 r7 bt8 zbt8
   have HK : Shh (Row w6 N 23 (dc c) ∧ Row w6 (N + 1) 23 (dc c) ∧ Below N w w6) := by
    obtain ⟨h0, h1, h2⟩ := HJ.out
    have := h0.lt
    have := h1.lt
    have hb := bt8.under (Nat.le_of_lt h1.lt) (Nat.le_refl _)
    have := hb.size
    exact ⟨bt8.row h0 h0.lt (by omega), r7, h2.trans (hb.mono (by omega))⟩
   clear bt8 HJ r7 zbt8
   go_wp2
   exact ret_row Try.results15 rfl rfl HK.out.2.1 Try.underlying23 rfl (info_dD.trans (size_dc _)) ⟨rfl, HK.out.2.2⟩
end Go.Proofs.Ytapjiknedghhfaa
