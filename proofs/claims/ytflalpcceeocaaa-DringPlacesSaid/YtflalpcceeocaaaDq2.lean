/-
 ROUNDING: Power2Round and Decompose, the program's and the document's.
-/
import Derived.Test.YtflalpcceeocaaaDq1
namespace Go.Proofs.Ytflalpcceeocaaa
open Go.RowKit
set_option maxRecDepth 100000
def hiP (p : Nat → Int) (k : Nat) : Int := highS 8192 (redD p k)
def loP (p : Nat → Int) (k : Nat) : Int := lowS 8192 (redD p k)
def decH (p : Nat → Int) (k : Nat) : Int := if redD p k - lowS 523776 (redD p k) = 8380416 then 0 else highS 523776 (redD p k)
def decL (p : Nat → Int) (k : Nat) : Int := if redD p k - lowS 523776 (redD p k) = 8380416 then lowS 523776 (redD p k) - 1 else lowS 523776 (redD p k)
theorem dup_dup (p : Nat → Int) (k : Nat) (u v : Int) : dc (dup (dup p k u) k v) = dc (dup p k v) := dc_of fun i _ => by
 unfold dup
 by_cases h : i = k
 ·rw [if_pos h, if_pos h]
 ·rw [if_neg h, if_neg h, if_neg h]
theorem dup_at (p : Nat → Int) {k : Nat} (v : Int) (h : k < 256) : (dc (dup p k v))[k]? = some (.int .i32 v) := by
 rw [dc_get _ h]
 unfold dup
 rw [if_pos rfl]
theorem lowS_8192 (x : Int) : -4096 < lowS 8192 x ∧ lowS 8192 x ≤ 4096 := by unfold lowS; split <;> omega
theorem lowS_523776 (x : Int) : -261888 < lowS 523776 x ∧ lowS 523776 x ≤ 261888 := by unfold lowS; split <;> omega
theorem highS_8192 (x : Int) : highS 8192 x * 8192 + lowS 8192 x = x := by unfold highS lowS; split <;> omega
theorem highS_523776 (x : Int) : highS 523776 x * 523776 + lowS 523776 x = x := by unfold highS lowS; split <;> omega
theorem hi_lo (x : Int) (h : 0 ≤ x ∧ x < 8380417) : 0 ≤ highS 8192 x ∧ highS 8192 x ≤ 1023 := by
 have h1 := highS_8192 x
 have h2 := lowS_8192 x
 omega
theorem hi_dec (x : Int) (h : 0 ≤ x ∧ x < 8380417) : 0 ≤ highS 523776 x ∧ highS 523776 x ≤ 16 ∧ (highS 523776 x = 16 ↔ x - lowS 523776 x = 8380416) := by
 have h1 := highS_523776 x
 have h2 := lowS_523776 x
 omega
theorem decH_lt (p : Nat → Int) (k : Nat) : 0 ≤ decH p k ∧ decH p k ≤ 15 := by
 have h1 := hi_dec (redD p k) (qd_lt _)
 unfold decH
 split <;> omega
theorem decL_lt (p : Nat → Int) (k : Nat) : -261888 ≤ decL p k ∧ decL p k ≤ 261888 := by
 have h1 := lowS_523776 (redD p k)
 have h2 := highS_523776 (redD p k)
 have h3 := qd_lt (p k)
 have h4 : redD p k = qd (p k) := rfl
 unfold decL
 split <;> omega
theorem loP_lt (p : Nat → Int) (k : Nat) : -4096 < loP p k ∧ loP p k ≤ 4096 := lowS_8192 _
theorem hiP_lt (p : Nat → Int) (k : Nat) : 0 ≤ hiP p k ∧ hiP p k ≤ 1023 := hi_lo _ (qd_lt _)
set_option maxHeartbeats 4000000 in
theorem Power2Round_any (p : Nat → Int) (hp : ∀ i, i < 256 → i32 (p i)) (w : World) : Calls Try.prog 12 #[polyD p] w (TwoIs w (hiP p) (loP p)) := by
 unfold TwoIs polyD
 have HRD : Shh (∀ W, Calls Try.prog 15 #[.agg (dc p).toArray] W (DPolyIs W (redD p))) := ⟨fun W => Reduce_any p hp W⟩
 have HST : Shh (∀ i W, Calls Try.prog 16 #[.int .i32 (redD p i), .int .i32 8192] W (SplitIs W (hiP p i) (loP p i))) := ⟨fun i W => split_8192 _ (qd_lt _) W⟩
 clear hp
 generalize hiP p = ch at *
 generalize loP p = cl at *
 generalize redD p = r at *
 generalize hN : w.heap.size = N at *
 have FA : Shh (Row (((w.alloc (.cells (dc p).toArray 34)).alloc (.cells (dc fun _ => 0).toArray 34)).alloc (.cells (dc fun _ => 0).toArray 34)) N 34 (dc p) ∧ Row (((w.alloc (.cells (dc p).toArray 34)).alloc (.cells (dc fun _ => 0).toArray 34)).alloc (.cells (dc fun _ => 0).toArray 34)) (N + 1) 34 (dc fun _ => 0) ∧ Row (((w.alloc (.cells (dc p).toArray 34)).alloc (.cells (dc fun _ => 0).toArray 34)).alloc (.cells (dc fun _ => 0).toArray 34)) (N + 2) 34 (dc fun _ => 0) ∧ Below N w (((w.alloc (.cells (dc p).toArray 34)).alloc (.cells (dc fun _ => 0).toArray 34)).alloc (.cells (dc fun _ => 0).toArray 34))) := by
  refine ⟨(((Row.new_ hN.symm rfl).alloc _).alloc _), ((Row.new_ (by rw [asz, hN]) rfl).alloc _), (Row.new_ (by rw [asz, asz, hN]) rfl), ?_⟩
  rw [← hN]
  exact Below.chain (Below.chain (belA _ _) (belA _ _)) (belA _ _)
 go_enter Try.func12, Try.ntmps12
 go_wp2_with (first | refine wl_allocD rfl rfl ?_ | refine wpList_load_any rfl 34 (.tmp 1) rfl N rfl 34 (dc p) (.array 256 21) FA.out.1 Try.underlying34 rfl (info_dD.trans (size_dc _)) ?_ | (go_at_call 15; refine (HRD.out _).mono ?_))
 rintro e w1 ⟨rfl, b2⟩
 have FB : Shh (Row w1 N 34 (dc p) ∧ Row w1 (N + 1) 34 (dc fun _ => 0) ∧ Row w1 (N + 2) 34 (dc fun _ => 0) ∧ Below N w w1) := by
  obtain ⟨h0, h1, h2, h3⟩ := FA.out
  have := h0.lt
  have := h1.lt
  have := h2.lt
  have := b2.size
  exact ⟨h0.go b2, h1.go b2, h2.go b2, h3.trans (b2.mono (by omega))⟩
 clear b2 FA HRD
 go_wp2
 go_loopw [8] (fun i wr => ∃ k : Nat, k ≤ 256 ∧ i = .int .i64 (k : Int) ∧ Shh (Row wr N 34 (dc p) ∧ Row wr (N + 1) 34 (dc (dhf ch (fun _ => 0) k)) ∧ Row wr (N + 2) 34 (dc (dhf cl (fun _ => 0) k)) ∧ Below N w wr)) (fun i _ => 256 - (intOf i).toNat)
 case atStart => exact ⟨0, Nat.zero_le _, rfl, ⟨by simp only [dhf_zero]; exact FB.out⟩⟩
 case round =>
  clear FB
  obtain ⟨k, hk, rfl, HI⟩ := hrel
  by_cases hlt : k < 256
  ·have HN1 := Shh.mk (dhf_next ch (fun _ => 0) k)
   have HN2 := Shh.mk (dhf_next cl (fun _ => 0) k)
   have HG := Shh.mk (dc_get r hlt)
   have hlt2 : (k : Int) < 256 := by omega
   have HC := Shh.mk (HST.out k)
   generalize ch k = hk1 at *
   generalize cl k = lk1 at *
   generalize r k = rk at *
   go_wp2_with (first | refine wl_at 11 rfl (.int .i32 rk) rfl (idx_dD hlt HG.out rfl rfl rfl) ?_ | (go_at_call 16; refine (HC.out _).mono ?_))
   rintro e w3 ⟨rfl, rfl⟩
   go_wp2_with (first | refine wl_at 19 rfl (.pointer (some ⟨(N + 1), k, none⟩)) rfl (at_dD hlt rfl rfl rfl) ?_ | refine wl_storeD rfl hlt rfl rfl rfl HI.out.2.1 ?_)
   intro w4 r5 bt6 zbt6
   rw [HN1.out] at r5
   have HJ : Shh (Row w4 N 34 (dc p) ∧ Row w4 (N + 1) 34 (dc (dhf ch (fun _ => 0) (k + 1))) ∧ Row w4 (N + 2) 34 (dc (dhf cl (fun _ => 0) k)) ∧ Below N w w4) := by
    obtain ⟨h0, h1, h2, h3⟩ := HI.out
    have := h0.lt
    have := h1.lt
    have := h2.lt
    have hb := bt6.under (Nat.le_of_lt h1.lt) (Nat.le_refl _)
    have := hb.size
    exact ⟨bt6.row h0 h0.lt (by omega), r5, bt6.row h2 h2.lt (by omega), h3.trans (hb.mono (by omega))⟩
   clear bt6 HI r5 zbt6
   go_wp2_with (first | refine wl_at 20 rfl (.pointer (some ⟨(N + 2), k, none⟩)) rfl (at_dD hlt rfl rfl rfl) ?_ | refine wl_storeD rfl hlt rfl rfl rfl HJ.out.2.2.1 ?_)
   intro w7 r8 bt9 zbt9
   rw [HN2.out] at r8
   have HK : Shh (Row w7 N 34 (dc p) ∧ Row w7 (N + 1) 34 (dc (dhf ch (fun _ => 0) (k + 1))) ∧ Row w7 (N + 2) 34 (dc (dhf cl (fun _ => 0) (k + 1))) ∧ Below N w w7) := by
    obtain ⟨h0, h1, h2, h3⟩ := HJ.out
    have := h0.lt
    have := h1.lt
    have := h2.lt
    have hb := bt9.under (Nat.le_of_lt h2.lt) (Nat.le_refl _)
    have := hb.size
    exact ⟨bt9.row h0 h0.lt (by omega), bt9.row h1 h1.lt (by omega), r8, h3.trans (hb.mono (by omega))⟩
   clear bt9 HJ r8 zbt9
   go_wp2
   go_roundw
   case rel => exact ⟨k + 1, by omega, by go_num, HK⟩
   case measure => simp [intOf]; omega
  ·have hlt2 : ¬ (k : Int) < 256 := by omega
   have HJ : Shh (Row wr N 34 (dc p) ∧ Row wr (N + 1) 34 (dc ch) ∧ Row wr (N + 2) 34 (dc cl) ∧ Below N w wr) := by
    have h := HI.out
    rw [show k = 256 by omega] at h
    simp only [dhf_all] at h
    exact ⟨h⟩
   clear HI
   go_wp2
   go_wp2
   refine wp_region_held_drew (S := fun w' => True) (by kernel_rfl) trivial (fun hS => ?_)
   clear hS
   obtain ⟨X3, hX3⟩ : ∃ V, V = World.drew wr := ⟨_, rfl⟩
   rw [← hX3]
   have HK : Shh (Row X3 N 34 (dc p) ∧ Row X3 (N + 1) 34 (dc ch) ∧ Row X3 (N + 2) 34 (dc cl) ∧ Below N w X3) := by
    obtain ⟨h0, h1, h2, h3⟩ := HJ.out
    rw [hX3]
    exact ⟨h0.drew, h1.drew, h2.drew, h3.drew⟩
   clear hX3 HJ
   refine held_two 0 1 (by kernel_rfl) ?_ ?_
   ·refine step_value 0 _ _ (some 22) (.agg (dc ch).toArray) X3 (by rfl) (by kernel_rfl) (run_loadRowD (g := (N + 1)) (by kernel_rfl) HK.out.2.1 Try.underlying34 rfl (info_dD.trans (size_dc _))) trivial ?_
    simp only [Act.put, arr9, hd9, tl9]
    refine held_two 1 2 (by kernel_rfl) ?_ ?_
    ·refine step_value 1 _ _ (some 23) (.agg (dc cl).toArray) X3 (by rfl) (by kernel_rfl) (run_loadRowD (g := (N + 2)) (by kernel_rfl) HK.out.2.2.1 Try.underlying34 rfl (info_dD.trans (size_dc _))) trivial ?_
     simp only [Act.put, arr9, hd9, tl9]
     refine held_one 2 (by kernel_rfl) ?_
     refine step_storeRow 2 34 (.tmp 2) (.tmp 22) (by rfl) (by kernel_rfl) (N + 1) (by kernel_rfl) (dc ch) (by kernel_rfl) 34 _ HK.out.2.1 (info_dD.trans (size_dc _)) (same_dc _ _) (dc_one _) ?_
     intro w5 r6 bt4 zbt4
     have HL : Shh (Row w5 N 34 (dc p) ∧ Row w5 (N + 1) 34 (dc ch) ∧ Row w5 (N + 2) 34 (dc cl) ∧ Below N w w5) := by
      obtain ⟨h0, h1, h2, h3⟩ := HK.out
      have := h0.lt
      have := h1.lt
      have := h2.lt
      have hb := bt4.under (Nat.le_of_lt h1.lt) (Nat.le_refl _)
      have := hb.size
      exact ⟨bt4.row h0 h0.lt (by omega), r6, bt4.row h2 h2.lt (by omega), h3.trans (hb.mono (by omega))⟩
     clear bt4 HK r6 zbt4
     refine ⟨trivial, ?_⟩
     refine held_one 3 (by kernel_rfl) ?_
     refine step_storeRow 3 34 (.tmp 3) (.tmp 23) (by rfl) (by kernel_rfl) (N + 2) (by kernel_rfl) (dc cl) (by kernel_rfl) 34 _ HL.out.2.2.1 (info_dD.trans (size_dc _)) (same_dc _ _) (dc_one _) ?_
     intro w8 r9 bt7 zbt7
     have HM : Shh (Row w8 N 34 (dc p) ∧ Row w8 (N + 1) 34 (dc ch) ∧ Row w8 (N + 2) 34 (dc cl) ∧ Below N w w8) := by
      obtain ⟨h0, h1, h2, h3⟩ := HL.out
      have := h0.lt
      have := h1.lt
      have := h2.lt
      have hb := bt7.under (Nat.le_of_lt h2.lt) (Nat.le_refl _)
      have := hb.size
      exact ⟨bt7.row h0 h0.lt (by omega), bt7.row h1 h1.lt (by omega), r9, h3.trans (hb.mono (by omega))⟩
     clear bt7 HL r9 zbt7
     refine ⟨trivial, ?_⟩
     refine wpAnyH_done (by kernel_rfl) ?_ _
     go_wp2
     exact ret_two Try.results12 rfl rfl rfl HM.out.2.1 HM.out.2.2.1 ⟨rfl, HM.out.2.2.2⟩
    ·refine step_storeRow 2 34 (.tmp 2) (.tmp 22) (by rfl) (by kernel_rfl) (N + 1) (by kernel_rfl) (dc ch) (by kernel_rfl) 34 _ HK.out.2.1 (info_dD.trans (size_dc _)) (same_dc _ _) (dc_one _) ?_
     intro w5 r6 bt4 zbt4
     have HL : Shh (Row w5 N 34 (dc p) ∧ Row w5 (N + 1) 34 (dc ch) ∧ Row w5 (N + 2) 34 (dc cl) ∧ Below N w w5) := by
      obtain ⟨h0, h1, h2, h3⟩ := HK.out
      have := h0.lt
      have := h1.lt
      have := h2.lt
      have hb := bt4.under (Nat.le_of_lt h1.lt) (Nat.le_refl _)
      have := hb.size
      exact ⟨bt4.row h0 h0.lt (by omega), r6, bt4.row h2 h2.lt (by omega), h3.trans (hb.mono (by omega))⟩
     clear bt4 HK r6 zbt4
     refine ⟨trivial, ?_⟩
     refine held_one 1 (by kernel_rfl) ?_
     refine step_value 1 _ _ (some 23) (.agg (dc cl).toArray) w5 (by rfl) (by kernel_rfl) (run_loadRowD (g := (N + 2)) (by kernel_rfl) HL.out.2.2.1 Try.underlying34 rfl (info_dD.trans (size_dc _))) trivial ?_
     simp only [Act.put, arr9, hd9, tl9]
     refine held_one 3 (by kernel_rfl) ?_
     refine step_storeRow 3 34 (.tmp 3) (.tmp 23) (by rfl) (by kernel_rfl) (N + 2) (by kernel_rfl) (dc cl) (by kernel_rfl) 34 _ HL.out.2.2.1 (info_dD.trans (size_dc _)) (same_dc _ _) (dc_one _) ?_
     intro w8 r9 bt7 zbt7
     have HM : Shh (Row w8 N 34 (dc p) ∧ Row w8 (N + 1) 34 (dc ch) ∧ Row w8 (N + 2) 34 (dc cl) ∧ Below N w w8) := by
      obtain ⟨h0, h1, h2, h3⟩ := HL.out
      have := h0.lt
      have := h1.lt
      have := h2.lt
      have hb := bt7.under (Nat.le_of_lt h2.lt) (Nat.le_refl _)
      have := hb.size
      exact ⟨bt7.row h0 h0.lt (by omega), bt7.row h1 h1.lt (by omega), r9, h3.trans (hb.mono (by omega))⟩
     clear bt7 HL r9 zbt7
     refine ⟨trivial, ?_⟩
     refine wpAnyH_done (by kernel_rfl) ?_ _
     go_wp2
     exact ret_two Try.results12 rfl rfl rfl HM.out.2.1 HM.out.2.2.1 ⟨rfl, HM.out.2.2.2⟩
   ·refine step_value 1 _ _ (some 23) (.agg (dc cl).toArray) X3 (by rfl) (by kernel_rfl) (run_loadRowD (g := (N + 2)) (by kernel_rfl) HK.out.2.2.1 Try.underlying34 rfl (info_dD.trans (size_dc _))) trivial ?_
    simp only [Act.put, arr9, hd9, tl9]
    refine held_one 0 (by kernel_rfl) ?_
    refine step_value 0 _ _ (some 22) (.agg (dc ch).toArray) X3 (by rfl) (by kernel_rfl) (run_loadRowD (g := (N + 1)) (by kernel_rfl) HK.out.2.1 Try.underlying34 rfl (info_dD.trans (size_dc _))) trivial ?_
    simp only [Act.put, arr9, hd9, tl9]
    refine held_one 2 (by kernel_rfl) ?_
    refine step_storeRow 2 34 (.tmp 2) (.tmp 22) (by rfl) (by kernel_rfl) (N + 1) (by kernel_rfl) (dc ch) (by kernel_rfl) 34 _ HK.out.2.1 (info_dD.trans (size_dc _)) (same_dc _ _) (dc_one _) ?_
    intro w5 r6 bt4 zbt4
    have HL : Shh (Row w5 N 34 (dc p) ∧ Row w5 (N + 1) 34 (dc ch) ∧ Row w5 (N + 2) 34 (dc cl) ∧ Below N w w5) := by
     obtain ⟨h0, h1, h2, h3⟩ := HK.out
     have := h0.lt
     have := h1.lt
     have := h2.lt
     have hb := bt4.under (Nat.le_of_lt h1.lt) (Nat.le_refl _)
     have := hb.size
     exact ⟨bt4.row h0 h0.lt (by omega), r6, bt4.row h2 h2.lt (by omega), h3.trans (hb.mono (by omega))⟩
    clear bt4 HK r6 zbt4
    refine ⟨trivial, ?_⟩
    refine held_one 3 (by kernel_rfl) ?_
    refine step_storeRow 3 34 (.tmp 3) (.tmp 23) (by rfl) (by kernel_rfl) (N + 2) (by kernel_rfl) (dc cl) (by kernel_rfl) 34 _ HL.out.2.2.1 (info_dD.trans (size_dc _)) (same_dc _ _) (dc_one _) ?_
    intro w8 r9 bt7 zbt7
    have HM : Shh (Row w8 N 34 (dc p) ∧ Row w8 (N + 1) 34 (dc ch) ∧ Row w8 (N + 2) 34 (dc cl) ∧ Below N w w8) := by
     obtain ⟨h0, h1, h2, h3⟩ := HL.out
     have := h0.lt
     have := h1.lt
     have := h2.lt
     have hb := bt7.under (Nat.le_of_lt h2.lt) (Nat.le_refl _)
     have := hb.size
     exact ⟨bt7.row h0 h0.lt (by omega), bt7.row h1 h1.lt (by omega), r9, h3.trans (hb.mono (by omega))⟩
    clear bt7 HL r9 zbt7
    refine ⟨trivial, ?_⟩
    refine wpAnyH_done (by kernel_rfl) ?_ _
    go_wp2
    exact ret_two Try.results12 rfl rfl rfl HM.out.2.1 HM.out.2.2.1 ⟨rfl, HM.out.2.2.2⟩
set_option maxHeartbeats 4000000 in
theorem Decompose_any (p : Nat → Int) (hp : ∀ i, i < 256 → i32 (p i)) (w : World) : Calls Try.prog 11 #[polyD p] w (TwoIs w (decH p) (decL p)) := by
 unfold TwoIs polyD
 have HRD : Shh (∀ W, Calls Try.prog 15 #[.agg (dc p).toArray] W (DPolyIs W (redD p))) := ⟨fun W => Reduce_any p hp W⟩
 have HST : Shh (∀ i, ∃ h l, (∀ W, Calls Try.prog 16 #[.int .i32 (redD p i), .int .i32 523776] W (SplitIs W h l)) ∧ (h = 16 → decH p i = 0 ∧ decL p i = l - 1 ∧ -2147483648 ≤ decL p i ∧ decL p i ≤ 2147483647) ∧ (¬ h = 16 → decH p i = h ∧ decL p i = l)) := ⟨fun i => ⟨_, _, fun W => split_523776 _ (qd_lt _) W, fun h => by
  have h1 := (hi_dec (redD p i) (qd_lt _)).2.2.1 h
  have h2 := decL_lt p i
  exact ⟨if_pos h1, if_pos h1, by omega, by omega⟩, fun h => by
  have h1 : ¬ redD p i - lowS 523776 (redD p i) = 8380416 := fun q => h ((hi_dec (redD p i) (qd_lt _)).2.2.2 q)
  exact ⟨if_neg h1, if_neg h1⟩⟩⟩
 clear hp
 generalize decH p = ch at *
 generalize decL p = cl at *
 generalize redD p = r at *
 generalize hN : w.heap.size = N at *
 have FA : Shh (Row (((w.alloc (.cells (dc p).toArray 34)).alloc (.cells (dc fun _ => 0).toArray 34)).alloc (.cells (dc fun _ => 0).toArray 34)) N 34 (dc p) ∧ Row (((w.alloc (.cells (dc p).toArray 34)).alloc (.cells (dc fun _ => 0).toArray 34)).alloc (.cells (dc fun _ => 0).toArray 34)) (N + 1) 34 (dc fun _ => 0) ∧ Row (((w.alloc (.cells (dc p).toArray 34)).alloc (.cells (dc fun _ => 0).toArray 34)).alloc (.cells (dc fun _ => 0).toArray 34)) (N + 2) 34 (dc fun _ => 0) ∧ Below N w (((w.alloc (.cells (dc p).toArray 34)).alloc (.cells (dc fun _ => 0).toArray 34)).alloc (.cells (dc fun _ => 0).toArray 34))) := by
  refine ⟨(((Row.new_ hN.symm rfl).alloc _).alloc _), ((Row.new_ (by rw [asz, hN]) rfl).alloc _), (Row.new_ (by rw [asz, asz, hN]) rfl), ?_⟩
  rw [← hN]
  exact Below.chain (Below.chain (belA _ _) (belA _ _)) (belA _ _)
 go_enter Try.func11, Try.ntmps11
 go_wp2_with (first | refine wl_allocD rfl rfl ?_ | refine wpList_load_any rfl 34 (.tmp 1) rfl N rfl 34 (dc p) (.array 256 21) FA.out.1 Try.underlying34 rfl (info_dD.trans (size_dc _)) ?_ | (go_at_call 15; refine (HRD.out _).mono ?_))
 rintro e w1 ⟨rfl, b2⟩
 have FB : Shh (Row w1 N 34 (dc p) ∧ Row w1 (N + 1) 34 (dc fun _ => 0) ∧ Row w1 (N + 2) 34 (dc fun _ => 0) ∧ Below N w w1) := by
  obtain ⟨h0, h1, h2, h3⟩ := FA.out
  have := h0.lt
  have := h1.lt
  have := h2.lt
  have := b2.size
  exact ⟨h0.go b2, h1.go b2, h2.go b2, h3.trans (b2.mono (by omega))⟩
 clear b2 FA HRD
 go_wp2
 go_loopw [8] (fun i wr => ∃ k : Nat, k ≤ 256 ∧ i = .int .i64 (k : Int) ∧ Shh (Row wr N 34 (dc p) ∧ Row wr (N + 1) 34 (dc (dhf ch (fun _ => 0) k)) ∧ Row wr (N + 2) 34 (dc (dhf cl (fun _ => 0) k)) ∧ Below N w wr)) (fun i _ => 256 - (intOf i).toNat)
 case atStart => exact ⟨0, Nat.zero_le _, rfl, ⟨by simp only [dhf_zero]; exact FB.out⟩⟩
 case round =>
  clear FB
  obtain ⟨k, hk, rfl, HI⟩ := hrel
  by_cases hlt : k < 256
  ·have HN1 := Shh.mk (dhf_next ch (fun _ => 0) k)
   have HN2 := Shh.mk (dhf_next cl (fun _ => 0) k)
   have HG := Shh.mk (dc_get r hlt)
   have hlt2 : (k : Int) < 256 := by omega
   obtain ⟨h0, l0, hC, hP, hM⟩ := HST.out k
   have HC := Shh.mk hC
   clear hC
   generalize ch k = hk1 at *
   generalize cl k = lk1 at *
   generalize r k = rk at *
   by_cases hc : h0 = 16
   ·obtain ⟨e1, e2, e3⟩ := hP hc
    have HE := Shh.mk (And.intro e2 e3)
    clear hP hM e2 e3
    subst hc e1
    have HAT := Shh.mk (dup_at (dhf ch (fun _ => 0) k) 16 hlt)
    go_wp2_with (first | refine wl_at 11 rfl (.int .i32 rk) rfl (idx_dD hlt HG.out rfl rfl rfl) ?_ | (go_at_call 16; refine (HC.out _).mono ?_))
    rintro e w3 ⟨rfl, rfl⟩
    go_wp2_with (first | refine wl_at 19 rfl (.pointer (some ⟨(N + 1), k, none⟩)) rfl (at_dD hlt rfl rfl rfl) ?_ | refine wl_storeD rfl hlt rfl rfl rfl HI.out.2.1 ?_)
    intro w4 r5 bt6 zbt6
    have HJ : Shh (Row w4 N 34 (dc p) ∧ Row w4 (N + 1) 34 (dc (dup (dhf ch (fun _ => 0) k) k 16)) ∧ Row w4 (N + 2) 34 (dc (dhf cl (fun _ => 0) k)) ∧ Below N w w4) := by
     obtain ⟨h0, h1, h2, h3⟩ := HI.out
     have := h0.lt
     have := h1.lt
     have := h2.lt
     have hb := bt6.under (Nat.le_of_lt h1.lt) (Nat.le_refl _)
     have := hb.size
     exact ⟨bt6.row h0 h0.lt (by omega), r5, bt6.row h2 h2.lt (by omega), h3.trans (hb.mono (by omega))⟩
    clear bt6 HI r5 zbt6
    go_wp2_with (first | refine wl_at 20 rfl (.pointer (some ⟨(N + 2), k, none⟩)) rfl (at_dD hlt rfl rfl rfl) ?_ | refine wl_storeD rfl hlt rfl rfl rfl HJ.out.2.2.1 ?_)
    intro w7 r8 bt9 zbt9
    have HK : Shh (Row w7 N 34 (dc p) ∧ Row w7 (N + 1) 34 (dc (dup (dhf ch (fun _ => 0) k) k 16)) ∧ Row w7 (N + 2) 34 (dc (dup (dhf cl (fun _ => 0) k) k l0)) ∧ Below N w w7) := by
     obtain ⟨h0, h1, h2, h3⟩ := HJ.out
     have := h0.lt
     have := h1.lt
     have := h2.lt
     have hb := bt9.under (Nat.le_of_lt h2.lt) (Nat.le_refl _)
     have := hb.size
     exact ⟨bt9.row h0 h0.lt (by omega), bt9.row h1 h1.lt (by omega), r8, h3.trans (hb.mono (by omega))⟩
    clear bt9 HJ r8 zbt9
    have HAL := Shh.mk (dup_at (dhf cl (fun _ => 0) k) l0 hlt)
    have HLD := Shh.mk ((HK.out.2.1.cell k).trans HAT.out)
    go_wp2_with (first | refine wl_at 22 rfl (.pointer (some ⟨(N + 1), k, none⟩)) rfl (at_dD hlt rfl rfl rfl) ?_ | refine wl_at 23 rfl (.int .i32 16) rfl (load_d rfl HLD.out rfl) ?_ | refine wl_at 24 rfl (.bool true) rfl (eql_d true rfl rfl rfl rfl) ?_ | refine wl_at 26 rfl (.pointer (some ⟨(N + 1), k, none⟩)) rfl (at_dD hlt rfl rfl rfl) ?_ | refine wl_storeD rfl hlt rfl rfl rfl HK.out.2.1 ?_)
    intro w10 r11 bt12 zbt12
    rw [dup_dup, HN1.out] at r11
    have HL : Shh (Row w10 N 34 (dc p) ∧ Row w10 (N + 1) 34 (dc (dhf ch (fun _ => 0) (k + 1))) ∧ Row w10 (N + 2) 34 (dc (dup (dhf cl (fun _ => 0) k) k l0)) ∧ Below N w w10) := by
     obtain ⟨h0, h1, h2, h3⟩ := HK.out
     have := h0.lt
     have := h1.lt
     have := h2.lt
     have hb := bt12.under (Nat.le_of_lt h1.lt) (Nat.le_refl _)
     have := hb.size
     exact ⟨bt12.row h0 h0.lt (by omega), r11, bt12.row h2 h2.lt (by omega), h3.trans (hb.mono (by omega))⟩
    clear bt12 HK r11 zbt12 HLD
    have HLD := Shh.mk ((HL.out.2.2.1.cell k).trans HAL.out)
    go_wp2_with (first | refine wl_at 28 rfl (.pointer (some ⟨(N + 2), k, none⟩)) rfl (at_dD hlt rfl rfl rfl) ?_ | refine wl_at 29 rfl (.int .i32 l0) rfl (load_d rfl HLD.out rfl) ?_ | refine wl_at 30 rfl (.int .i32 lk1) rfl (sub_d HE.out rfl rfl rfl) ?_ | refine wl_at 31 rfl (.pointer (some ⟨(N + 2), k, none⟩)) rfl (at_dD hlt rfl rfl rfl) ?_ | refine wl_storeD rfl hlt rfl rfl rfl HL.out.2.2.1 ?_)
    intro w13 r14 bt15 zbt15
    rw [dup_dup, HN2.out] at r14
    have HM : Shh (Row w13 N 34 (dc p) ∧ Row w13 (N + 1) 34 (dc (dhf ch (fun _ => 0) (k + 1))) ∧ Row w13 (N + 2) 34 (dc (dhf cl (fun _ => 0) (k + 1))) ∧ Below N w w13) := by
     obtain ⟨h0, h1, h2, h3⟩ := HL.out
     have := h0.lt
     have := h1.lt
     have := h2.lt
     have hb := bt15.under (Nat.le_of_lt h2.lt) (Nat.le_refl _)
     have := hb.size
     exact ⟨bt15.row h0 h0.lt (by omega), bt15.row h1 h1.lt (by omega), r14, h3.trans (hb.mono (by omega))⟩
    clear bt15 HL r14 zbt15 HLD
    go_wp2
    go_roundw
    case rel => exact ⟨k + 1, by omega, by go_num, HM⟩
    case measure => simp [intOf]; omega
   ·obtain ⟨e1, e2⟩ := hM hc
    have HEQ : Shh ((h0 == 16) = false) := ⟨by simpa using hc⟩
    clear hP hM hc
    subst e1 e2
    have HAT := Shh.mk (dup_at (dhf ch (fun _ => 0) k) hk1 hlt)
    go_wp2_with (first | refine wl_at 11 rfl (.int .i32 rk) rfl (idx_dD hlt HG.out rfl rfl rfl) ?_ | (go_at_call 16; refine (HC.out _).mono ?_))
    rintro e w3 ⟨rfl, rfl⟩
    go_wp2_with (first | refine wl_at 19 rfl (.pointer (some ⟨(N + 1), k, none⟩)) rfl (at_dD hlt rfl rfl rfl) ?_ | refine wl_storeD rfl hlt rfl rfl rfl HI.out.2.1 ?_)
    intro w4 r5 bt6 zbt6
    have HJ : Shh (Row w4 N 34 (dc p) ∧ Row w4 (N + 1) 34 (dc (dup (dhf ch (fun _ => 0) k) k hk1)) ∧ Row w4 (N + 2) 34 (dc (dhf cl (fun _ => 0) k)) ∧ Below N w w4) := by
     obtain ⟨h0, h1, h2, h3⟩ := HI.out
     have := h0.lt
     have := h1.lt
     have := h2.lt
     have hb := bt6.under (Nat.le_of_lt h1.lt) (Nat.le_refl _)
     have := hb.size
     exact ⟨bt6.row h0 h0.lt (by omega), r5, bt6.row h2 h2.lt (by omega), h3.trans (hb.mono (by omega))⟩
    clear bt6 HI r5 zbt6
    go_wp2_with (first | refine wl_at 20 rfl (.pointer (some ⟨(N + 2), k, none⟩)) rfl (at_dD hlt rfl rfl rfl) ?_ | refine wl_storeD rfl hlt rfl rfl rfl HJ.out.2.2.1 ?_)
    intro w7 r8 bt9 zbt9
    rw [HN2.out] at r8
    have HK : Shh (Row w7 N 34 (dc p) ∧ Row w7 (N + 1) 34 (dc (dup (dhf ch (fun _ => 0) k) k hk1)) ∧ Row w7 (N + 2) 34 (dc (dhf cl (fun _ => 0) (k + 1))) ∧ Below N w w7) := by
     obtain ⟨h0, h1, h2, h3⟩ := HJ.out
     have := h0.lt
     have := h1.lt
     have := h2.lt
     have hb := bt9.under (Nat.le_of_lt h2.lt) (Nat.le_refl _)
     have := hb.size
     exact ⟨bt9.row h0 h0.lt (by omega), bt9.row h1 h1.lt (by omega), r8, h3.trans (hb.mono (by omega))⟩
    clear bt9 HJ r8 zbt9
    have HLD := Shh.mk ((HK.out.2.1.cell k).trans HAT.out)
    go_wp2_with (first | refine wl_at 22 rfl (.pointer (some ⟨(N + 1), k, none⟩)) rfl (at_dD hlt rfl rfl rfl) ?_ | refine wl_at 23 rfl (.int .i32 hk1) rfl (load_d rfl HLD.out rfl) ?_ | refine wl_at 24 rfl (.bool false) rfl (eql_d false HEQ.out rfl rfl rfl) ?_)
    have HL : Shh (Row w7 N 34 (dc p) ∧ Row w7 (N + 1) 34 (dc (dhf ch (fun _ => 0) (k + 1))) ∧ Row w7 (N + 2) 34 (dc (dhf cl (fun _ => 0) (k + 1))) ∧ Below N w w7) := by
     have h := HK.out
     rw [HN1.out] at h
     exact ⟨h⟩
    clear HK
    clear HLD
    go_wp2
    go_roundw
    case rel => exact ⟨k + 1, by omega, by go_num, HL⟩
    case measure => simp [intOf]; omega
  ·have hlt2 : ¬ (k : Int) < 256 := by omega
   have HJ : Shh (Row wr N 34 (dc p) ∧ Row wr (N + 1) 34 (dc ch) ∧ Row wr (N + 2) 34 (dc cl) ∧ Below N w wr) := by
    have h := HI.out
    rw [show k = 256 by omega] at h
    simp only [dhf_all] at h
    exact ⟨h⟩
   clear HI
   go_wp2
   go_wp2
   refine wp_region_held_drew (S := fun w' => True) (by kernel_rfl) trivial (fun hS => ?_)
   clear hS
   obtain ⟨X3, hX3⟩ : ∃ V, V = World.drew wr := ⟨_, rfl⟩
   rw [← hX3]
   have HK : Shh (Row X3 N 34 (dc p) ∧ Row X3 (N + 1) 34 (dc ch) ∧ Row X3 (N + 2) 34 (dc cl) ∧ Below N w X3) := by
    obtain ⟨h0, h1, h2, h3⟩ := HJ.out
    rw [hX3]
    exact ⟨h0.drew, h1.drew, h2.drew, h3.drew⟩
   clear hX3 HJ
   refine held_two 0 1 (by kernel_rfl) ?_ ?_
   ·refine step_value 0 _ _ (some 33) (.agg (dc ch).toArray) X3 (by rfl) (by kernel_rfl) (run_loadRowD (g := (N + 1)) (by kernel_rfl) HK.out.2.1 Try.underlying34 rfl (info_dD.trans (size_dc _))) trivial ?_
    simp only [Act.put, arr9, hd9, tl9]
    refine held_two 1 2 (by kernel_rfl) ?_ ?_
    ·refine step_value 1 _ _ (some 34) (.agg (dc cl).toArray) X3 (by rfl) (by kernel_rfl) (run_loadRowD (g := (N + 2)) (by kernel_rfl) HK.out.2.2.1 Try.underlying34 rfl (info_dD.trans (size_dc _))) trivial ?_
     simp only [Act.put, arr9, hd9, tl9]
     refine held_one 2 (by kernel_rfl) ?_
     refine step_storeRow 2 34 (.tmp 2) (.tmp 33) (by rfl) (by kernel_rfl) (N + 1) (by kernel_rfl) (dc ch) (by kernel_rfl) 34 _ HK.out.2.1 (info_dD.trans (size_dc _)) (same_dc _ _) (dc_one _) ?_
     intro w5 r6 bt4 zbt4
     have HL : Shh (Row w5 N 34 (dc p) ∧ Row w5 (N + 1) 34 (dc ch) ∧ Row w5 (N + 2) 34 (dc cl) ∧ Below N w w5) := by
      obtain ⟨h0, h1, h2, h3⟩ := HK.out
      have := h0.lt
      have := h1.lt
      have := h2.lt
      have hb := bt4.under (Nat.le_of_lt h1.lt) (Nat.le_refl _)
      have := hb.size
      exact ⟨bt4.row h0 h0.lt (by omega), r6, bt4.row h2 h2.lt (by omega), h3.trans (hb.mono (by omega))⟩
     clear bt4 HK r6 zbt4
     refine ⟨trivial, ?_⟩
     refine held_one 3 (by kernel_rfl) ?_
     refine step_storeRow 3 34 (.tmp 3) (.tmp 34) (by rfl) (by kernel_rfl) (N + 2) (by kernel_rfl) (dc cl) (by kernel_rfl) 34 _ HL.out.2.2.1 (info_dD.trans (size_dc _)) (same_dc _ _) (dc_one _) ?_
     intro w8 r9 bt7 zbt7
     have HM : Shh (Row w8 N 34 (dc p) ∧ Row w8 (N + 1) 34 (dc ch) ∧ Row w8 (N + 2) 34 (dc cl) ∧ Below N w w8) := by
      obtain ⟨h0, h1, h2, h3⟩ := HL.out
      have := h0.lt
      have := h1.lt
      have := h2.lt
      have hb := bt7.under (Nat.le_of_lt h2.lt) (Nat.le_refl _)
      have := hb.size
      exact ⟨bt7.row h0 h0.lt (by omega), bt7.row h1 h1.lt (by omega), r9, h3.trans (hb.mono (by omega))⟩
     clear bt7 HL r9 zbt7
     refine ⟨trivial, ?_⟩
     refine wpAnyH_done (by kernel_rfl) ?_ _
     go_wp2
     exact ret_two Try.results11 rfl rfl rfl HM.out.2.1 HM.out.2.2.1 ⟨rfl, HM.out.2.2.2⟩
    ·refine step_storeRow 2 34 (.tmp 2) (.tmp 33) (by rfl) (by kernel_rfl) (N + 1) (by kernel_rfl) (dc ch) (by kernel_rfl) 34 _ HK.out.2.1 (info_dD.trans (size_dc _)) (same_dc _ _) (dc_one _) ?_
     intro w5 r6 bt4 zbt4
     have HL : Shh (Row w5 N 34 (dc p) ∧ Row w5 (N + 1) 34 (dc ch) ∧ Row w5 (N + 2) 34 (dc cl) ∧ Below N w w5) := by
      obtain ⟨h0, h1, h2, h3⟩ := HK.out
      have := h0.lt
      have := h1.lt
      have := h2.lt
      have hb := bt4.under (Nat.le_of_lt h1.lt) (Nat.le_refl _)
      have := hb.size
      exact ⟨bt4.row h0 h0.lt (by omega), r6, bt4.row h2 h2.lt (by omega), h3.trans (hb.mono (by omega))⟩
     clear bt4 HK r6 zbt4
     refine ⟨trivial, ?_⟩
     refine held_one 1 (by kernel_rfl) ?_
     refine step_value 1 _ _ (some 34) (.agg (dc cl).toArray) w5 (by rfl) (by kernel_rfl) (run_loadRowD (g := (N + 2)) (by kernel_rfl) HL.out.2.2.1 Try.underlying34 rfl (info_dD.trans (size_dc _))) trivial ?_
     simp only [Act.put, arr9, hd9, tl9]
     refine held_one 3 (by kernel_rfl) ?_
     refine step_storeRow 3 34 (.tmp 3) (.tmp 34) (by rfl) (by kernel_rfl) (N + 2) (by kernel_rfl) (dc cl) (by kernel_rfl) 34 _ HL.out.2.2.1 (info_dD.trans (size_dc _)) (same_dc _ _) (dc_one _) ?_
     intro w8 r9 bt7 zbt7
     have HM : Shh (Row w8 N 34 (dc p) ∧ Row w8 (N + 1) 34 (dc ch) ∧ Row w8 (N + 2) 34 (dc cl) ∧ Below N w w8) := by
      obtain ⟨h0, h1, h2, h3⟩ := HL.out
      have := h0.lt
      have := h1.lt
      have := h2.lt
      have hb := bt7.under (Nat.le_of_lt h2.lt) (Nat.le_refl _)
      have := hb.size
      exact ⟨bt7.row h0 h0.lt (by omega), bt7.row h1 h1.lt (by omega), r9, h3.trans (hb.mono (by omega))⟩
     clear bt7 HL r9 zbt7
     refine ⟨trivial, ?_⟩
     refine wpAnyH_done (by kernel_rfl) ?_ _
     go_wp2
     exact ret_two Try.results11 rfl rfl rfl HM.out.2.1 HM.out.2.2.1 ⟨rfl, HM.out.2.2.2⟩
   ·refine step_value 1 _ _ (some 34) (.agg (dc cl).toArray) X3 (by rfl) (by kernel_rfl) (run_loadRowD (g := (N + 2)) (by kernel_rfl) HK.out.2.2.1 Try.underlying34 rfl (info_dD.trans (size_dc _))) trivial ?_
    simp only [Act.put, arr9, hd9, tl9]
    refine held_one 0 (by kernel_rfl) ?_
    refine step_value 0 _ _ (some 33) (.agg (dc ch).toArray) X3 (by rfl) (by kernel_rfl) (run_loadRowD (g := (N + 1)) (by kernel_rfl) HK.out.2.1 Try.underlying34 rfl (info_dD.trans (size_dc _))) trivial ?_
    simp only [Act.put, arr9, hd9, tl9]
    refine held_one 2 (by kernel_rfl) ?_
    refine step_storeRow 2 34 (.tmp 2) (.tmp 33) (by rfl) (by kernel_rfl) (N + 1) (by kernel_rfl) (dc ch) (by kernel_rfl) 34 _ HK.out.2.1 (info_dD.trans (size_dc _)) (same_dc _ _) (dc_one _) ?_
    intro w5 r6 bt4 zbt4
    have HL : Shh (Row w5 N 34 (dc p) ∧ Row w5 (N + 1) 34 (dc ch) ∧ Row w5 (N + 2) 34 (dc cl) ∧ Below N w w5) := by
     obtain ⟨h0, h1, h2, h3⟩ := HK.out
     have := h0.lt
     have := h1.lt
     have := h2.lt
     have hb := bt4.under (Nat.le_of_lt h1.lt) (Nat.le_refl _)
     have := hb.size
     exact ⟨bt4.row h0 h0.lt (by omega), r6, bt4.row h2 h2.lt (by omega), h3.trans (hb.mono (by omega))⟩
    clear bt4 HK r6 zbt4
    refine ⟨trivial, ?_⟩
    refine held_one 3 (by kernel_rfl) ?_
    refine step_storeRow 3 34 (.tmp 3) (.tmp 34) (by rfl) (by kernel_rfl) (N + 2) (by kernel_rfl) (dc cl) (by kernel_rfl) 34 _ HL.out.2.2.1 (info_dD.trans (size_dc _)) (same_dc _ _) (dc_one _) ?_
    intro w8 r9 bt7 zbt7
    have HM : Shh (Row w8 N 34 (dc p) ∧ Row w8 (N + 1) 34 (dc ch) ∧ Row w8 (N + 2) 34 (dc cl) ∧ Below N w w8) := by
     obtain ⟨h0, h1, h2, h3⟩ := HL.out
     have := h0.lt
     have := h1.lt
     have := h2.lt
     have hb := bt7.under (Nat.le_of_lt h2.lt) (Nat.le_refl _)
     have := hb.size
     exact ⟨bt7.row h0 h0.lt (by omega), bt7.row h1 h1.lt (by omega), r9, h3.trans (hb.mono (by omega))⟩
    clear bt7 HL r9 zbt7
    refine ⟨trivial, ?_⟩
    refine wpAnyH_done (by kernel_rfl) ?_ _
    go_wp2
    exact ret_two Try.results11 rfl rfl rfl HM.out.2.1 HM.out.2.2.1 ⟨rfl, HM.out.2.2.2⟩
end Go.Proofs.Ytflalpcceeocaaa
