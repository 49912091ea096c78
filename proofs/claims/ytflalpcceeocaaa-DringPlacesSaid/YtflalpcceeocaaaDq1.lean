/-
 REDUCE AND CENTER: the program's and the document's.
-/
import Derived.Test.YtflalpcceeocaaaDd3
import Derived.Test.YtflalpcceeocaaaDg3
namespace Go.Proofs.Ytflalpcceeocaaa
open Go.RowKit
set_option maxRecDepth 100000
def centD (p : Nat → Int) (k : Nat) : Int := if 4190208 < redD p k then redD p k - 8380417 else redD p k
theorem dhf_skip {r p : Nat → Int} {k : Nat} (h : r k = p k) : dc (dhf r p k) = dc (dhf r p (k + 1)) := by
 rw [← dhf_next]
 refine dc_of fun i _ => ?_
 unfold dup
 by_cases e : i = k
 ·rw [if_pos e, e, h]
  unfold dhf
  rw [if_neg (by omega)]
 ·rw [if_neg e]
theorem redD_32 (p : Nat → Int) (i : Nat) : i32 (redD p i) := by have := qd_lt (p i); unfold redD i32; omega
theorem centD_32 (p : Nat → Int) (i : Nat) : -4190208 ≤ centD p i ∧ centD p i ≤ 4190208 := by
 have := qd_lt (p i)
 unfold centD
 unfold redD at *
 split <;> omega
set_option maxHeartbeats 2000000 in
theorem Reduce_any (p : Nat → Int) (hp : ∀ i, i < 256 → i32 (p i)) (w : World) : Calls Try.prog 15 #[polyD p] w (DPolyIs w (redD p)) := by
 unfold DPolyIs polyD
 have HRS : Shh (∀ i, i < 256 → ∀ W, Calls Try.prog 17 #[.int .i32 (p i)] W (I32Is W (redD p i))) := ⟨fun i hi W => residue_any _ (hp i hi) W⟩
 clear hp
 generalize redD p = r at *
 generalize hN : w.heap.size = N at *
 have FA : Shh (Row ((w.alloc (.cells (dc p).toArray 34)).alloc (.cells (dc fun _ => 0).toArray 34)) N 34 (dc p) ∧ Row ((w.alloc (.cells (dc p).toArray 34)).alloc (.cells (dc fun _ => 0).toArray 34)) (N + 1) 34 (dc fun _ => 0) ∧ Below N w ((w.alloc (.cells (dc p).toArray 34)).alloc (.cells (dc fun _ => 0).toArray 34))) := by
  refine ⟨((Row.new_ hN.symm rfl).alloc _), (Row.new_ (by rw [asz, hN]) rfl), ?_⟩
  rw [← hN]
  exact Below.chain (belA _ _) (belA _ _)
 go_enter Try.func15, Try.ntmps15
 have FX := FA
 obtain ⟨W, hW⟩ : ∃ W, W = ((w.alloc (.cells (dc p).toArray 34)).alloc (.cells (dc fun _ => 0).toArray 34)) := ⟨_, rfl⟩
 have FB : Shh (Row W N 34 (dc p) ∧ Row W (N + 1) 34 (dc fun _ => 0) ∧ Below N w W) := by rw [hW]; exact FA
 clear FA
 go_wp2_with (first | refine wl_allocD rfl rfl ?_ | refine wpList_load_any rfl 34 (.tmp 1) rfl N rfl 34 (dc p) (.array 256 21) FX.out.1 Try.underlying34 rfl (info_dD.trans (size_dc _)) ?_)
 try simp only [asz, hN]
 rw [← hW]
 clear hW
 clear FX
 go_wp2
 go_loopw [6] (fun i wr => ∃ k : Nat, k ≤ 256 ∧ i = .int .i64 (k : Int) ∧ Shh (Row wr N 34 (dc (dhf r p k)) ∧ Row wr (N + 1) 34 (dc fun _ => 0) ∧ Below N w wr)) (fun i _ => 256 - (intOf i).toNat)
 case atStart => exact ⟨0, Nat.zero_le _, rfl, ⟨by simp only [dhf_zero]; exact FB.out⟩⟩
 case round =>
  clear FB
  obtain ⟨k, hk, rfl, HI⟩ := hrel
  by_cases hlt : k < 256
  ·have HC := Shh.mk (HRS.out k hlt)
   have HN2 := Shh.mk (dhf_next r p k)
   have HG := Shh.mk (dc_get p hlt)
   generalize r k = rk at *
   generalize p k = pk at *
   have hlt2 : (k : Int) < 256 := by omega
   go_wp2_with (first | refine wl_at 9 rfl (.int .i32 pk) rfl (idx_dD hlt HG.out rfl rfl rfl) ?_ | (go_at_call 17; refine (HC.out _).mono ?_))
   rintro e w1 ⟨rfl, rfl⟩
   go_wp2_with (first | refine wl_at 13 rfl (.pointer (some ⟨N, k, none⟩)) rfl (at_dD hlt rfl rfl rfl) ?_ | refine wl_storeD rfl hlt rfl rfl rfl HI.out.1 ?_)
   intro w2 r3 bt4 zbt4
   rw [HN2.out] at r3
   have HJ : Shh (Row w2 N 34 (dc (dhf r p (k + 1))) ∧ Row w2 (N + 1) 34 (dc fun _ => 0) ∧ Below N w w2) := by
    obtain ⟨h0, h1, h2⟩ := HI.out
    have := h0.lt
    have := h1.lt
    have hb := bt4.under (Nat.le_of_lt h0.lt) (Nat.le_refl _)
    have := hb.size
    exact ⟨r3, bt4.row h1 h1.lt (by omega), h2.trans (hb.mono (by omega))⟩
   clear bt4 HI r3 zbt4
   go_wp2
   go_roundw
   case rel => exact ⟨k + 1, by omega, by go_num, HJ⟩
   case measure => simp [intOf]; omega
  ·have hlt2 : ¬ (k : Int) < 256 := by omega
   have HJ : Shh (Row wr N 34 (dc r) ∧ Row wr (N + 1) 34 (dc fun _ => 0) ∧ Below N w wr) := by
    have h := HI.out
    rw [show k = 256 by omega] at h
    simp only [dhf_all] at h
    exact ⟨h⟩
   clear HI
   go_wp2_with (first | refine wpList_load_any rfl 34 (.tmp 1) rfl N rfl 34 (dc r) (.array 256 21) HJ.out.1 Try.underlying34 rfl (info_dD.trans (size_dc _)) ?_ | refine wpList_store_any rfl 34 (.tmp 2) (.tmp 15) rfl (N + 1) rfl (dc r) rfl 34 _ HJ.out.2.1 (info_dD.trans (size_dc _)) (same_dc _ _) (dc_one _) ?_)
   intro w1 r2 bt3 zbt3
   have HK : Shh (Row w1 N 34 (dc r) ∧ Row w1 (N + 1) 34 (dc r) ∧ Below N w w1) := by
    obtain ⟨h0, h1, h2⟩ := HJ.out
    have := h0.lt
    have := h1.lt
    have hb := bt3.under (Nat.le_of_lt h1.lt) (Nat.le_refl _)
    have := hb.size
    exact ⟨bt3.row h0 h0.lt (by omega), r2, h2.trans (hb.mono (by omega))⟩
   clear bt3 HJ r2 zbt3
   go_wp2
   exact ret_row Try.results15 rfl rfl HK.out.2.1 Try.underlying34 rfl (info_dD.trans (size_dc _)) ⟨rfl, HK.out.2.2⟩
end Go.Proofs.Ytflalpcceeocaaa
