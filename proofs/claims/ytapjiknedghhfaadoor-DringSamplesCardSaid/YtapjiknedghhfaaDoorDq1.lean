/-
 REDUCE AND CENTER: the program's and the document's.
-/
import Derived.Test.YtapjiknedghhfaaDoorDd3
import Derived.Test.YtapjiknedghhfaaDoorDg3
namespace Go.Proofs.YtapjiknedghhfaaDoor
open Go.RowKit
set_option maxRecDepth 100000
def centD (p : Nat → Int) (k : Nat) : Int := if 4190208 < redD p k then redD p k - 8380417 else redD p k
theorem dhf_skip {r p : Nat → Int} {k : Nat} (h : r k = p k) : dc (dhf r p k) = dc (dhf r p (k + 1)) := by
 rw [← dhf_next]
 refine dc_of fun i _ => ?_
 unfold dup
 by_cases e : i = k
 ·rw [if_pos e, e, h]
  unfold dhf
  rw [if_neg (by omega)]
 ·rw [if_neg e]
theorem redD_32 (p : Nat → Int) (i : Nat) : i32 (redD p i) := by have := qd_lt (p i); unfold redD i32; omega
theorem centD_32 (p : Nat → Int) (i : Nat) : -4190208 ≤ centD p i ∧ centD p i ≤ 4190208 := by
 have := qd_lt (p i)
 unfold centD
 unfold redD at *
 split <;> omega
set_option maxHeartbeats 2000000 in
theorem Reduce_any (p : Nat → Int) (hp : ∀ i, i < 256 → i32 (p i)) (w : World) : Calls Tryd.prog 31 #[polyD p] w (DPolyIs w (redD p)) := by
 unfold DPolyIs polyD
 have HRS : Shh (∀ i, i < 256 → ∀ W, Calls Tryd.prog 37 #[.int .i32 (p i)] W (I32Is W (redD p i))) := ⟨fun i hi W => residue_any _ (hp i hi) W⟩
 clear hp
 generalize redD p = r at *
 generalize hN : w.heap.size = N at *
 have FA : Shh (Row ((w.alloc (.cells (dc p).toArray 25)).alloc (.cells (dc fun _ => 0).toArray 25)) N 25 (dc p) ∧ Row ((w.alloc (.cells (dc p).toArray 25)).alloc (.cells (dc fun _ => 0).toArray 25)) (N + 1) 25 (dc fun _ => 0) ∧ Below N w ((w.alloc (.cells (dc p).toArray 25)).alloc (.cells (dc fun _ => 0).toArray 25))) := by
  refine ⟨((Row.new_ hN.symm rfl).alloc _), (Row.new_ (by rw [asz, hN]) rfl), ?_⟩
  rw [← hN]
  exact Below.chain (belA _ _) (belA _ _)
 go_enter Tryd.func31, Tryd.ntmps31
 have FX := FA
 obtain ⟨W, hW⟩ : ∃ W, W = ((w.alloc (.cells (dc p).toArray 25)).alloc (.cells (dc fun _ => 0).toArray 25)) := ⟨_, rfl⟩
 have FB : Shh (Row W N 25 (dc p) ∧ Row W (N + 1) 25 (dc fun _ => 0) ∧ Below N w W) := by rw [hW]; exact FA
 clear FA
 go_wp2_with (first | refine wl_allocD rfl rfl ?_ | refine wpList_load_any rfl 25 (.tmp 1) rfl N rfl 25 (dc p) (.array 256 21) FX.out.1 Tryd.underlying25 rfl (info_dD.trans (size_dc _)) ?_)
 try simp only [asz, hN]
 rw [← hW]
 clear hW
 clear FX
 go_wp2
 go_loopw [6] (fun i wr => ∃ k : Nat, k ≤ 256 ∧ i = .int .i64 (k : Int) ∧ Shh (Row wr N 25 (dc (dhf r p k)) ∧ Row wr (N + 1) 25 (dc fun _ => 0) ∧ Below N w wr)) (fun i _ => 256 - (intOf i).toNat)
 case atStart => exact ⟨0, Nat.zero_le _, rfl, ⟨by simp only [dhf_zero]; exact FB.out⟩⟩
 case round =>
  clear FB
  obtain ⟨k, hk, rfl, HI⟩ := hrel
  by_cases hlt : k < 256
  ·have HC := Shh.mk (HRS.out k hlt)
   have HN2 := Shh.mk (dhf_next r p k)
   have HG := Shh.mk (dc_get p hlt)
   generalize r k = rk at *
   generalize p k = pk at *
   have hlt2 : (k : Int) < 256 := by omega
   go_wp2_with (first | refine wl_at 9 rfl (.int .i32 pk) rfl (idx_dD hlt HG.out rfl rfl rfl) ?_ | (go_at_call 37; refine (HC.out _).mono ?_))
   rintro e w1 ⟨rfl, rfl⟩
   go_wp2_with (first | refine wl_at 13 rfl (.pointer (some ⟨N, k, none⟩)) rfl (at_dD hlt rfl rfl rfl) ?_ | refine wl_storeD rfl hlt rfl rfl rfl HI.out.1 ?_)
   intro w2 r3 bt4 zbt4
   rw [HN2.out] at r3
   have HJ : Shh (Row w2 N 25 (dc (dhf r p (k + 1))) ∧ Row w2 (N + 1) 25 (dc fun _ => 0) ∧ Below N w w2) := by
    obtain ⟨h0, h1, h2⟩ := HI.out
    have := h0.lt
    have := h1.lt
    have hb := bt4.under (Nat.le_of_lt h0.lt) (Nat.le_refl _)
    have := hb.size
    exact ⟨r3, bt4.row h1 h1.lt (by omega), h2.trans (hb.mono (by omega))⟩
   clear bt4 HI r3 zbt4
   go_wp2
   go_roundw
   case rel => exact ⟨k + 1, by omega, by go_num, HJ⟩
   case measure => simp [intOf]; omega
  ·have hlt2 : ¬ (k : Int) < 256 := by omega
   have HJ : Shh (Row wr N 25 (dc r) ∧ Row wr (N + 1) 25 (dc fun _ => 0) ∧ Below N w wr) := by
    have h := HI.out
    rw [show k = 256 by omega] at h
    simp only [dhf_all] at h
    exact ⟨h⟩
   clear HI
   go_wp2_with (first | refine wpList_load_any rfl 25 (.tmp 1) rfl N rfl 25 (dc r) (.array 256 21) HJ.out.1 Tryd.underlying25 rfl (info_dD.trans (size_dc _)) ?_ | refine wpList_store_any rfl 25 (.tmp 2) (.tmp 15) rfl (N + 1) rfl (dc r) rfl 25 _ HJ.out.2.1 (info_dD.trans (size_dc _)) (same_dc _ _) (dc_one _) ?_)
   intro w1 r2 bt3 zbt3
   have HK : Shh (Row w1 N 25 (dc r) ∧ Row w1 (N + 1) 25 (dc r) ∧ Below N w w1) := by
    obtain ⟨h0, h1, h2⟩ := HJ.out
    have := h0.lt
    have := h1.lt
    have hb := bt3.under (Nat.le_of_lt h1.lt) (Nat.le_refl _)
    have := hb.size
    exact ⟨bt3.row h0 h0.lt (by omega), r2, h2.trans (hb.mono (by omega))⟩
   clear bt3 HJ r2 zbt3
   go_wp2
   exact ret_row Tryd.results31 rfl rfl HK.out.2.1 Tryd.underlying25 rfl (info_dD.trans (size_dc _)) ⟨rfl, HK.out.2.2⟩
set_option maxHeartbeats 2000000 in
theorem Center_any (p : Nat → Int) (hp : ∀ i, i < 256 → i32 (p i)) (w : World) : Calls Tryd.prog 30 #[polyD p] w (DPolyIs w (centD p)) := by
 unfold DPolyIs polyD
 have HRD : Shh (∀ W, Calls Tryd.prog 31 #[.agg (dc p).toArray] W (DPolyIs W (redD p))) := ⟨fun W => Reduce_any p hp W⟩
 have HCT : Shh (∀ i, (4190208 < redD p i → centD p i = redD p i - 8380417 ∧ -2147483648 ≤ centD p i ∧ centD p i ≤ 2147483647) ∧ (¬ 4190208 < redD p i → centD p i = redD p i)) := ⟨fun i => by
  have h1 := centD_32 p i
  refine ⟨fun h => ⟨if_pos h, by omega, by omega⟩, fun h => if_neg h⟩⟩
 clear hp
 generalize centD p = c at *
 generalize redD p = r at *
 generalize hN : w.heap.size = N at *
 have FA : Shh (Row ((w.alloc (.cells (dc p).toArray 25)).alloc (.cells (dc fun _ => 0).toArray 25)) N 25 (dc p) ∧ Row ((w.alloc (.cells (dc p).toArray 25)).alloc (.cells (dc fun _ => 0).toArray 25)) (N + 1) 25 (dc fun _ => 0) ∧ Below N w ((w.alloc (.cells (dc p).toArray 25)).alloc (.cells (dc fun _ => 0).toArray 25))) := by
  refine ⟨((Row.new_ hN.symm rfl).alloc _), (Row.new_ (by rw [asz, hN]) rfl), ?_⟩
  rw [← hN]
  exact Below.chain (belA _ _) (belA _ _)
 go_enter Tryd.func30, Tryd.ntmps30
 go_wp2_with (first | refine wl_allocD rfl rfl ?_ | refine wpList_load_any rfl 25 (.tmp 1) rfl N rfl 25 (dc p) (.array 256 21) FA.out.1 Tryd.underlying25 rfl (info_dD.trans (size_dc _)) ?_ | (go_at_call 31; refine (HRD.out _).mono ?_))
 rintro e w1 ⟨rfl, b2⟩
 have FB : Shh (Row w1 N 25 (dc p) ∧ Row w1 (N + 1) 25 (dc fun _ => 0) ∧ Below N w w1) := by
  obtain ⟨h0, h1, h2⟩ := FA.out
  have := h0.lt
  have := h1.lt
  have := b2.size
  exact ⟨h0.go b2, h1.go b2, h2.trans (b2.mono (by omega))⟩
 clear b2 FA HRD
 go_wp2
 go_loopw [7] (fun i wr => ∃ k : Nat, k ≤ 256 ∧ i = .int .i64 (k : Int) ∧ Shh (Row wr N 25 (dc (dhf c p k)) ∧ Row wr (N + 1) 25 (dc fun _ => 0) ∧ Below N w wr)) (fun i _ => 256 - (intOf i).toNat)
 case atStart => exact ⟨0, Nat.zero_le _, rfl, ⟨by simp only [dhf_zero]; exact FB.out⟩⟩
 case round =>
  clear FB
  obtain ⟨k, hk, rfl, HI⟩ := hrel
  by_cases hlt : k < 256
  ·obtain ⟨hA, hB⟩ := HCT.out k
   have HN2 := Shh.mk (dhf_next c p k)
   have HG := Shh.mk (dc_get r hlt)
   generalize c k = ck at *
   generalize r k = rk at *
   have hlt2 : (k : Int) < 256 := by omega
   by_cases hc : 4190208 < rk
   ·have HE := Shh.mk (hA hc)
    clear hA hB
    go_wp2_with (first | refine wl_at 10 rfl (.int .i32 rk) rfl (idx_dD hlt HG.out rfl rfl rfl) ?_ | refine wl_at 14 rfl (.int .i32 ck) rfl (sub_d HE.out rfl rfl rfl) ?_ | refine wl_at 17 rfl (.pointer (some ⟨N, k, none⟩)) rfl (at_dD hlt rfl rfl rfl) ?_ | refine wl_storeD rfl hlt rfl rfl rfl HI.out.1 ?_)
    intro w3 r4 bt5 zbt5
    rw [HN2.out] at r4
    have HJ : Shh (Row w3 N 25 (dc (dhf c p (k + 1))) ∧ Row w3 (N + 1) 25 (dc fun _ => 0) ∧ Below N w w3) := by
     obtain ⟨h0, h1, h2⟩ := HI.out
     have := h0.lt
     have := h1.lt
     have hb := bt5.under (Nat.le_of_lt h0.lt) (Nat.le_refl _)
     have := hb.size
     exact ⟨r4, bt5.row h1 h1.lt (by omega), h2.trans (hb.mono (by omega))⟩
    clear bt5 HI r4 zbt5
    go_wp2
    go_roundw
    case rel => exact ⟨k + 1, by omega, by go_num, HJ⟩
    case measure => simp [intOf]; omega
   ·have e := hB (by omega)
    clear hA hB
    subst e
    go_wp2_with (first | refine wl_at 10 rfl (.int .i32 ck) rfl (idx_dD hlt HG.out rfl rfl rfl) ?_ | refine wl_at 17 rfl (.pointer (some ⟨N, k, none⟩)) rfl (at_dD hlt rfl rfl rfl) ?_ | refine wl_storeD rfl hlt rfl rfl rfl HI.out.1 ?_)
    intro w3 r4 bt5 zbt5
    rw [HN2.out] at r4
    have HJ : Shh (Row w3 N 25 (dc (dhf c p (k + 1))) ∧ Row w3 (N + 1) 25 (dc fun _ => 0) ∧ Below N w w3) := by
     obtain ⟨h0, h1, h2⟩ := HI.out
     have := h0.lt
     have := h1.lt
     have hb := bt5.under (Nat.le_of_lt h0.lt) (Nat.le_refl _)
     have := hb.size
     exact ⟨r4, bt5.row h1 h1.lt (by omega), h2.trans (hb.mono (by omega))⟩
    clear bt5 HI r4 zbt5
    go_wp2
    go_roundw
    case rel => exact ⟨k + 1, by omega, by go_num, HJ⟩
    case measure => simp [intOf]; omega
  ·have hlt2 : ¬ (k : Int) < 256 := by omega
   have HJ : Shh (Row wr N 25 (dc c) ∧ Row wr (N + 1) 25 (dc fun _ => 0) ∧ Below N w wr) := by
    have h := HI.out
    rw [show k = 256 by omega] at h
    simp only [dhf_all] at h
    exact ⟨h⟩
   clear HI
   go_wp2_with (first | refine wpList_load_any rfl 25 (.tmp 1) rfl N rfl 25 (dc c) (.array 256 21) HJ.out.1 Tryd.underlying25 rfl (info_dD.trans (size_dc _)) ?_ | refine wpList_store_any rfl 25 (.tmp 2) (.tmp 19) rfl (N + 1) rfl (dc c) rfl 25 _ HJ.out.2.1 (info_dD.trans (size_dc _)) (same_dc _ _) (dc_one _) ?_)
   intro w3 r4 bt5 zbt5
   have HK : Shh (Row w3 N 25 (dc c) ∧ Row w3 (N + 1) 25 (dc c) ∧ Below N w w3) := by
    obtain ⟨h0, h1, h2⟩ := HJ.out
    have := h0.lt
    have := h1.lt
    have hb := bt5.under (Nat.le_of_lt h1.lt) (Nat.le_refl _)
    have := hb.size
    exact ⟨bt5.row h0 h0.lt (by omega), r4, h2.trans (hb.mono (by omega))⟩
   clear bt5 HJ r4 zbt5
   go_wp2
   exact ret_row Tryd.results30 rfl rfl HK.out.2.1 Tryd.underlying25 rfl (info_dD.trans (size_dc _)) ⟨rfl, HK.out.2.2⟩
end Go.Proofs.YtapjiknedghhfaaDoor
