/-
 ROUNDING by the document: Power2Round and Decompose.
-/
import Derived.Test.YtapjiknedghhfaaDq2
namespace Go.Proofs.Ytapjiknedghhfaa
open Go.RowKit
set_option maxRecDepth 100000
theorem tmod_pos {x s : Int} (h : 0 ≤ x) : x.tmod s = x % s := Int.tmod_eq_emod_of_nonneg h
theorem tdiv_pos {x s : Int} (h : 0 ≤ x) : x.tdiv s = x / s := Int.tdiv_eq_ediv_of_nonneg h
/-- what the document's loop finds at one number -/
theorem low_cases (s hs x : Int) (hx : 0 ≤ x ∧ x < 8380417) (h2 : s / 2 = hs) (h0 : 0 < s ∧ s < 1000000) : ∃ m, (m = x.tmod s ∧ -2147483648 ≤ m ∧ m ≤ 2147483647) ∧ (hs < m → lowS s x = m - s ∧ -2147483648 ≤ lowS s x ∧ lowS s x ≤ 2147483647) ∧ (¬ hs < m → lowS s x = m) := by
 refine ⟨x % s, ⟨(tmod_pos hx.1).symm, ?_, ?_⟩, fun h => ?_, fun h => ?_⟩
 ·have := Int.emod_nonneg x (show s ≠ 0 by omega)
  omega
 ·have := Int.emod_lt_of_pos x h0.1
  omega
 ·have h1 : lowS s x = x % s - s := if_pos (by rw [h2]; exact h)
  have := Int.emod_nonneg x (show s ≠ 0 by omega)
  have := Int.emod_lt_of_pos x h0.1
  refine ⟨h1, by omega, by omega⟩
 ·exact if_neg (by rw [h2]; exact h)
theorem high_fact (s x : Int) (hx : 0 ≤ x ∧ x < 8380417) (hs : s = 8192 ∨ s = 523776) : ∃ d, (d = x - lowS s x ∧ -2147483648 ≤ d ∧ d ≤ 2147483647) ∧ highS s x = d.tdiv s ∧ -2147483648 ≤ highS s x ∧ highS s x ≤ 2147483647 := by
 rcases hs with rfl | rfl
 ·have h1 := highS_8192 x
  have h2 := lowS_8192 x
  have h3 : 0 ≤ x - lowS 8192 x := by unfold lowS; split <;> omega
  refine ⟨_, ⟨rfl, by omega, by omega⟩, ?_, by omega, by omega⟩
  rw [tdiv_pos h3]
  rfl
 ·have h1 := highS_523776 x
  have h2 := lowS_523776 x
  have h3 : 0 ≤ x - lowS 523776 x := by unfold lowS; split <;> omega
  refine ⟨_, ⟨rfl, by omega, by omega⟩, ?_, by omega, by omega⟩
  rw [tdiv_pos h3]
  rfl
set_option maxHeartbeats 4000000 in
theorem refPower2Round_any (p : Nat → Int) (hp : ∀ i, i < 256 → i32 (p i)) (w : World) : Calls Try.prog 32 #[polyD p] w (TwoIs w (hiP p) (loP p)) := by
 unfold TwoIs polyD
 have HRD : Shh (∀ W, Calls Try.prog 13 #[.agg (dc p).toArray] W (DPolyIs W (redD p))) := ⟨fun W => refReduce_any p hp W⟩
 have HST : Shh (∀ i, (∃ m, (m = (redD p i).tmod 8192 ∧ -2147483648 ≤ m ∧ m ≤ 2147483647) ∧ (4096 < m → loP p i = m - 8192 ∧ -2147483648 ≤ loP p i ∧ loP p i ≤ 2147483647) ∧ (¬ 4096 < m → loP p i = m)) ∧ ∃ d, (d = redD p i - loP p i ∧ -2147483648 ≤ d ∧ d ≤ 2147483647) ∧ hiP p i = d.tdiv 8192 ∧ -2147483648 ≤ hiP p i ∧ hiP p i ≤ 2147483647) := ⟨fun i => ⟨low_cases 8192 4096 _ (qd_lt _) (by decide) (by decide), high_fact 8192 _ (qd_lt _) (.inl rfl)⟩⟩
 clear hp
 generalize hiP p = ch at *
 generalize loP p = cl at *
 generalize redD p = r at *
 generalize hN : w.heap.size = N at *
 have FA : Shh (Row (((w.alloc (.cells (dc p).toArray 23)).alloc (.cells (dc fun _ => 0).toArray 23)).alloc (.cells (dc fun _ => 0).toArray 23)) N 23 (dc p) ∧ Row (((w.alloc (.cells (dc p).toArray 23)).alloc (.cells (dc fun _ => 0).toArray 23)).alloc (.cells (dc fun _ => 0).toArray 23)) (N + 1) 23 (dc fun _ => 0) ∧ Row (((w.alloc (.cells (dc p).toArray 23)).alloc (.cells (dc fun _ => 0).toArray 23)).alloc (.cells (dc fun _ => 0).toArray 23)) (N + 2) 23 (dc fun _ => 0) ∧ Below N w (((w.alloc (.cells (dc p).toArray 23)).alloc (.cells (dc fun _ => 0).toArray 23)).alloc (.cells (dc fun _ => 0).toArray 23))) := by
  refine ⟨(((Row.new_ hN.symm rfl).alloc _).alloc _), ((Row.new_ (by rw [asz, hN]) rfl).alloc _), (Row.new_ (by rw [asz, asz, hN]) rfl), ?_⟩
  rw [← hN]
  exact Below.chain (Below.chain (belA _ _) (belA _ _)) (belA _ _)
 go_enter Try.func32, Try.ntmps32
 go_wp2_with (first | refine wl_allocD rfl rfl ?_ | refine wpList_load_any rfl 23 (.tmp 1) rfl N rfl 23 (dc p) (.array 256 21) FA.out.1 Try.underlying23 rfl (info_dD.trans (size_dc _)) ?_ | (go_at_call 13; refine (HRD.out _).mono ?_))
 rintro e w1 ⟨rfl, b2⟩
 have FB : Shh (Row w1 N 23 (dc p) ∧ Row w1 (N + 1) 23 (dc fun _ => 0) ∧ Row w1 (N + 2) 23 (dc fun _ => 0) ∧ Below N w w1) := by
  obtain ⟨h0, h1, h2, h3⟩ := FA.out
  have := h0.lt
  have := h1.lt
  have := h2.lt
  have := b2.size
  exact ⟨h0.go b2, h1.go b2, h2.go b2, h3.trans (b2.mono (by omega))⟩
 clear b2 FA HRD
 go_wp2_with (first | refine wpList_store_any rfl 23 (.tmp 1) (.tmp 8) rfl N rfl (dc r) rfl 23 _ FB.out.1 (info_dD.trans (size_dc _)) (same_dc _ _) (dc_one _) ?_)
 intro w3 r4 bt5 zbt5
 have FC : Shh (Row w3 N 23 (dc r) ∧ Row w3 (N + 1) 23 (dc fun _ => 0) ∧ Row w3 (N + 2) 23 (dc fun _ => 0) ∧ Below N w w3) := by
  obtain ⟨h0, h1, h2, h3⟩ := FB.out
  have := h0.lt
  have := h1.lt
  have := h2.lt
  have hb := bt5.under (Nat.le_of_lt h0.lt) (Nat.le_refl _)
  have := hb.size
  exact ⟨r4, bt5.row h1 h1.lt (by omega), bt5.row h2 h2.lt (by omega), h3.trans (hb.mono (by omega))⟩
 clear bt5 FB r4 zbt5
 go_wp2_with (refine wl_newzD 4 rfl rfl rfl ?_)
 intro G4 w7 hG4 r8 b6
 try simp only [Act.put, arr9, hd9, tl9]
 have FD : Shh (Row w7 N 23 (dc r) ∧ Row w7 (N + 1) 23 (dc fun _ => 0) ∧ Row w7 (N + 2) 23 (dc fun _ => 0) ∧ Below N w w7 ∧ Row w7 G4 23 (dc fun _ => 0) ∧ N + 2 < G4) := by
  obtain ⟨h0, h1, h2, h3⟩ := FC.out
  have := h0.lt
  have := h1.lt
  have := h2.lt
  have := b6.size
  have := hG4.out
  exact ⟨h0.go b6, h1.go b6, h2.go b6, h3.trans (b6.mono (by omega)), r8, (by omega)⟩
 clear b6 FC r8 hG4
 go_wp2_with (refine wl_newzD 5 rfl rfl rfl ?_)
 intro G5 w10 hG5 r11 b9
 try simp only [Act.put, arr9, hd9, tl9]
 have FE : Shh (Row w10 N 23 (dc r) ∧ Row w10 (N + 1) 23 (dc fun _ => 0) ∧ Row w10 (N + 2) 23 (dc fun _ => 0) ∧ Below N w w10 ∧ Row w10 G4 23 (dc fun _ => 0) ∧ N + 2 < G4 ∧ Row w10 G5 23 (dc fun _ => 0) ∧ G4 < G5) := by
  obtain ⟨h0, h1, h2, h3, h4, h5⟩ := FD.out
  have := h0.lt
  have := h1.lt
  have := h2.lt
  have := h4.lt
  have := b9.size
  have := hG5.out
  exact ⟨h0.go b9, h1.go b9, h2.go b9, h3.trans (b9.mono (by omega)), h4.go b9, h5, r11, (by omega)⟩
 clear b9 FD r11 hG5
 go_wp2
 go_loopw [9] (fun i wr => ∃ k : Nat, k ≤ 256 ∧ i = .int .i64 (k : Int) ∧ Shh (Row wr N 23 (dc r) ∧ Row wr (N + 1) 23 (dc fun _ => 0) ∧ Row wr (N + 2) 23 (dc fun _ => 0) ∧ Below N w wr ∧ Row wr G4 23 (dc (dhf ch (fun _ => 0) k)) ∧ N + 2 < G4 ∧ Row wr G5 23 (dc (dhf cl (fun _ => 0) k)) ∧ G4 < G5)) (fun i _ => 256 - (intOf i).toNat)
 case atStart => exact ⟨0, Nat.zero_le _, rfl, ⟨by simp only [dhf_zero]; exact FE.out⟩⟩
 case round =>
  clear FE
  obtain ⟨k, hk, rfl, HI⟩ := hrel
  by_cases hlt : k < 256
  ·have HN1 := Shh.mk (dhf_next ch (fun _ => 0) k)
   have HN2 := Shh.mk (dhf_next cl (fun _ => 0) k)
   have HG := Shh.mk (dc_get r hlt)
   have hlt2 : (k : Int) < 256 := by omega
   obtain ⟨⟨m, hm, hP, hM⟩, d, hd, hq⟩ := HST.out k
   generalize ch k = hk1 at *
   generalize cl k = lk1 at *
   generalize r k = rk at *
   have Hm := Shh.mk hm
   have Hd := Shh.mk hd
   have Hq := Shh.mk hq
   clear hm hd hq
   have HMM := Shh.mk (dup_at (dhf cl (fun _ => 0) k) m hlt)
   by_cases hc : 4096 < m
   ·have HGN := Shh.mk ((HI.out.1.cell k).trans HG.out)
    have HE1 := Shh.mk (hP hc)
    clear hP hM
    go_wp2_with (first | refine wl_at 14 rfl (.pointer (some ⟨N, k, none⟩)) rfl (at_dD hlt rfl rfl rfl) ?_ | refine wl_at 15 rfl (.int .i32 rk) rfl (load_d rfl HGN.out rfl) ?_ | refine wl_at 16 rfl (.int .i32 m) rfl (rem_d Hm.out (by decide) rfl rfl rfl) ?_ | refine wl_at 17 rfl (.pointer (some ⟨G5, k, none⟩)) rfl (at_dD hlt rfl rfl rfl) ?_ | refine wl_storeD rfl hlt rfl rfl rfl HI.out.2.2.2.2.2.2.1 ?_)
    intro w12 r13 bt14 zbt14
    have HJ : Shh (Row w12 N 23 (dc r) ∧ Row w12 (N + 1) 23 (dc fun _ => 0) ∧ Row w12 (N + 2) 23 (dc fun _ => 0) ∧ Below N w w12 ∧ Row w12 G4 23 (dc (dhf ch (fun _ => 0) k)) ∧ N + 2 < G4 ∧ Row w12 G5 23 (dc (dup (dhf cl (fun _ => 0) k) k m)) ∧ G4 < G5) := by
     obtain ⟨h0, h1, h2, h3, h4, h5, h6, h7⟩ := HI.out
     have := h0.lt
     have := h1.lt
     have := h2.lt
     have := h4.lt
     have := h6.lt
     have hb := bt14.under (Nat.le_of_lt h6.lt) (Nat.le_refl _)
     have := hb.size
     exact ⟨bt14.row h0 h0.lt (by omega), bt14.row h1 h1.lt (by omega), bt14.row h2 h2.lt (by omega), h3.trans (hb.mono (by omega)), bt14.row h4 h4.lt (by omega), h5, r13, h7⟩
    clear bt14 HI r13 zbt14 HGN
    have HLD := Shh.mk ((HJ.out.2.2.2.2.2.2.1.cell k).trans HMM.out)
    go_wp2_with (first | refine wl_at 19 rfl (.pointer (some ⟨G5, k, none⟩)) rfl (at_dD hlt rfl rfl rfl) ?_ | refine wl_at 20 rfl (.int .i32 m) rfl (load_d rfl HLD.out rfl) ?_ | refine wl_at 23 rfl (.pointer (some ⟨G5, k, none⟩)) rfl (at_dD hlt rfl rfl rfl) ?_ | refine wl_at 24 rfl (.int .i32 m) rfl (load_d rfl HLD.out rfl) ?_ | refine wl_at 25 rfl (.int .i32 lk1) rfl (sub_d HE1.out rfl rfl rfl) ?_ | refine wl_at 26 rfl (.pointer (some ⟨G5, k, none⟩)) rfl (at_dD hlt rfl rfl rfl) ?_ | refine wl_storeD rfl hlt rfl rfl rfl HJ.out.2.2.2.2.2.2.1 ?_)
    intro w15 r16 bt17 zbt17
    rw [dup_dup, HN2.out] at r16
    have HK : Shh (Row w15 N 23 (dc r) ∧ Row w15 (N + 1) 23 (dc fun _ => 0) ∧ Row w15 (N + 2) 23 (dc fun _ => 0) ∧ Below N w w15 ∧ Row w15 G4 23 (dc (dhf ch (fun _ => 0) k)) ∧ N + 2 < G4 ∧ Row w15 G5 23 (dc (dhf cl (fun _ => 0) (k + 1))) ∧ G4 < G5) := by
     obtain ⟨h0, h1, h2, h3, h4, h5, h6, h7⟩ := HJ.out
     have := h0.lt
     have := h1.lt
     have := h2.lt
     have := h4.lt
     have := h6.lt
     have hb := bt17.under (Nat.le_of_lt h6.lt) (Nat.le_refl _)
     have := hb.size
     exact ⟨bt17.row h0 h0.lt (by omega), bt17.row h1 h1.lt (by omega), bt17.row h2 h2.lt (by omega), h3.trans (hb.mono (by omega)), bt17.row h4 h4.lt (by omega), h5, r16, h7⟩
    clear bt17 HJ r16 zbt17 HLD
    have HLL : Shh ((dc (dhf cl (fun _ => 0) (k + 1)))[k]? = some (.int .i32 lk1)) := ⟨by rw [← HN2.out]; exact dup_at _ _ hlt⟩
    go_wp2
    go_wp2
    refine wp_region_held_drew (S := fun w' => True) (by kernel_rfl) trivial (fun hS => ?_)
    clear hS
    obtain ⟨X18, hX18⟩ : ∃ V, V = World.drew w15 := ⟨_, rfl⟩
    rw [← hX18]
    have HL : Shh (Row X18 N 23 (dc r) ∧ Row X18 (N + 1) 23 (dc fun _ => 0) ∧ Row X18 (N + 2) 23 (dc fun _ => 0) ∧ Below N w X18 ∧ Row X18 G4 23 (dc (dhf ch (fun _ => 0) k)) ∧ N + 2 < G4 ∧ Row X18 G5 23 (dc (dhf cl (fun _ => 0) (k + 1))) ∧ G4 < G5) := by
     obtain ⟨h0, h1, h2, h3, h4, h5, h6, h7⟩ := HK.out
     rw [hX18]
     exact ⟨h0.drew, h1.drew, h2.drew, h3.drew, h4.drew, h5, h6.drew, h7⟩
    clear hX18 HK
    refine hdv0 0 27 (.int .i64 (k : Int)) (by rfl) trivial ?_
    refine hdv0 1 28 (.int .i64 (k : Int)) (by rfl) trivial ?_
    refine hdv 2 29 (.pointer (some ⟨N, k, none⟩)) (by rfl) (fun w hS => at_dD hlt rfl (by kernel_rfl) (by kernel_rfl)) trivial ?_
    refine hdv0 4 31 (.int .i64 (k : Int)) (by rfl) trivial ?_
    refine hdv 5 32 (.pointer (some ⟨G5, k, none⟩)) (by rfl) (fun w hS => at_dD hlt rfl (by kernel_rfl) (by kernel_rfl)) trivial ?_
    refine held_two 3 6 (by kernel_rfl) ?_ ?_
    ·refine step_value 3 _ _ (some 30) (.int .i32 rk) X18 (by rfl) (by kernel_rfl) (load_d rfl ((HL.out.1.cell k).trans HG.out) (by kernel_rfl)) trivial ?_
     simp only [Act.put, arr9, hd9, tl9]
     refine held_one 6 (by kernel_rfl) ?_
     refine step_value 6 _ _ (some 33) (.int .i32 lk1) X18 (by rfl) (by kernel_rfl) (load_d rfl ((HL.out.2.2.2.2.2.2.1.cell k).trans HLL.out) (by kernel_rfl)) trivial ?_
     simp only [Act.put, arr9, hd9, tl9]
     refine hdv 7 34 (.int .i32 d) (by rfl) (fun w hS => sub_d Hd.out rfl (by kernel_rfl) (by kernel_rfl)) trivial ?_
     refine hdv 8 35 (.int .i32 hk1) (by rfl) (fun w hS => quo_d Hq.out (by decide) rfl (by kernel_rfl) (by kernel_rfl)) trivial ?_
     refine hdv 9 36 (.pointer (some ⟨G4, k, none⟩)) (by rfl) (fun w hS => at_dD hlt rfl (by kernel_rfl) (by kernel_rfl)) trivial ?_
     refine held_one 10 (by kernel_rfl) ?_
     refine step_storeD 10 (v := hk1) (by rfl) (by kernel_rfl) hlt HL.out.2.2.2.2.1 (by kernel_rfl) (by kernel_rfl) ?_
     intro w20 r21 bt19 zbt19
     have HM : Shh (Row w20 N 23 (dc r) ∧ Row w20 (N + 1) 23 (dc fun _ => 0) ∧ Row w20 (N + 2) 23 (dc fun _ => 0) ∧ Below N w w20 ∧ Row w20 G4 23 (dc (dhf ch (fun _ => 0) (k + 1))) ∧ N + 2 < G4 ∧ Row w20 G5 23 (dc (dhf cl (fun _ => 0) (k + 1))) ∧ G4 < G5) := by
      obtain ⟨h0, h1, h2, h3, h4, h5, h6, h7⟩ := HL.out
      have := h0.lt
      have := h1.lt
      have := h2.lt
      have := h4.lt
      have := h6.lt
      have hb := bt19.under (Nat.le_of_lt h4.lt) (Nat.le_refl _)
      have := hb.size
      rw [HN1.out] at r21
      exact ⟨bt19.row h0 h0.lt (by omega), bt19.row h1 h1.lt (by omega), bt19.row h2 h2.lt (by omega), h3.trans (hb.mono (by omega)), r21, h5, bt19.row h6 h6.lt (by omega), h7⟩
     clear bt19 HL r21 zbt19
     refine ⟨trivial, ?_⟩
     refine wpAnyH_done (by kernel_rfl) ?_ _
     go_wp2
     go_roundw
     case rel => exact ⟨k + 1, by omega, by go_num, HM⟩
     case measure => simp [intOf]; omega
    ·refine step_value 6 _ _ (some 33) (.int .i32 lk1) X18 (by rfl) (by kernel_rfl) (load_d rfl ((HL.out.2.2.2.2.2.2.1.cell k).trans HLL.out) (by kernel_rfl)) trivial ?_
     simp only [Act.put, arr9, hd9, tl9]
     refine held_one 3 (by kernel_rfl) ?_
     refine step_value 3 _ _ (some 30) (.int .i32 rk) X18 (by rfl) (by kernel_rfl) (load_d rfl ((HL.out.1.cell k).trans HG.out) (by kernel_rfl)) trivial ?_
     simp only [Act.put, arr9, hd9, tl9]
     refine hdv 7 34 (.int .i32 d) (by rfl) (fun w hS => sub_d Hd.out rfl (by kernel_rfl) (by kernel_rfl)) trivial ?_
     refine hdv 8 35 (.int .i32 hk1) (by rfl) (fun w hS => quo_d Hq.out (by decide) rfl (by kernel_rfl) (by kernel_rfl)) trivial ?_
     refine hdv 9 36 (.pointer (some ⟨G4, k, none⟩)) (by rfl) (fun w hS => at_dD hlt rfl (by kernel_rfl) (by kernel_rfl)) trivial ?_
     refine held_one 10 (by kernel_rfl) ?_
     refine step_storeD 10 (v := hk1) (by rfl) (by kernel_rfl) hlt HL.out.2.2.2.2.1 (by kernel_rfl) (by kernel_rfl) ?_
     intro w20 r21 bt19 zbt19
     have HM : Shh (Row w20 N 23 (dc r) ∧ Row w20 (N + 1) 23 (dc fun _ => 0) ∧ Row w20 (N + 2) 23 (dc fun _ => 0) ∧ Below N w w20 ∧ Row w20 G4 23 (dc (dhf ch (fun _ => 0) (k + 1))) ∧ N + 2 < G4 ∧ Row w20 G5 23 (dc (dhf cl (fun _ => 0) (k + 1))) ∧ G4 < G5) := by
      obtain ⟨h0, h1, h2, h3, h4, h5, h6, h7⟩ := HL.out
      have := h0.lt
      have := h1.lt
      have := h2.lt
      have := h4.lt
      have := h6.lt
      have hb := bt19.under (Nat.le_of_lt h4.lt) (Nat.le_refl _)
      have := hb.size
      rw [HN1.out] at r21
      exact ⟨bt19.row h0 h0.lt (by omega), bt19.row h1 h1.lt (by omega), bt19.row h2 h2.lt (by omega), h3.trans (hb.mono (by omega)), r21, h5, bt19.row h6 h6.lt (by omega), h7⟩
     clear bt19 HL r21 zbt19
     refine ⟨trivial, ?_⟩
     refine wpAnyH_done (by kernel_rfl) ?_ _
     go_wp2
     go_roundw
     case rel => exact ⟨k + 1, by omega, by go_num, HM⟩
     case measure => simp [intOf]; omega
   ·have HGN := Shh.mk ((HI.out.1.cell k).trans HG.out)
    have e1 := hM (by omega)
    clear hP hM
    go_wp2_with (first | refine wl_at 14 rfl (.pointer (some ⟨N, k, none⟩)) rfl (at_dD hlt rfl rfl rfl) ?_ | refine wl_at 15 rfl (.int .i32 rk) rfl (load_d rfl HGN.out rfl) ?_ | refine wl_at 16 rfl (.int .i32 m) rfl (rem_d Hm.out (by decide) rfl rfl rfl) ?_ | refine wl_at 17 rfl (.pointer (some ⟨G5, k, none⟩)) rfl (at_dD hlt rfl rfl rfl) ?_ | refine wl_storeD rfl hlt rfl rfl rfl HI.out.2.2.2.2.2.2.1 ?_)
    intro w12 r13 bt14 zbt14
    have HJ : Shh (Row w12 N 23 (dc r) ∧ Row w12 (N + 1) 23 (dc fun _ => 0) ∧ Row w12 (N + 2) 23 (dc fun _ => 0) ∧ Below N w w12 ∧ Row w12 G4 23 (dc (dhf ch (fun _ => 0) k)) ∧ N + 2 < G4 ∧ Row w12 G5 23 (dc (dup (dhf cl (fun _ => 0) k) k m)) ∧ G4 < G5) := by
     obtain ⟨h0, h1, h2, h3, h4, h5, h6, h7⟩ := HI.out
     have := h0.lt
     have := h1.lt
     have := h2.lt
     have := h4.lt
     have := h6.lt
     have hb := bt14.under (Nat.le_of_lt h6.lt) (Nat.le_refl _)
     have := hb.size
     exact ⟨bt14.row h0 h0.lt (by omega), bt14.row h1 h1.lt (by omega), bt14.row h2 h2.lt (by omega), h3.trans (hb.mono (by omega)), bt14.row h4 h4.lt (by omega), h5, r13, h7⟩
    clear bt14 HI r13 zbt14 HGN
    have HLD := Shh.mk ((HJ.out.2.2.2.2.2.2.1.cell k).trans HMM.out)
    have HE1 := Shh.mk e1
    clear e1
    have HLL : Shh ((dc (dhf cl (fun _ => 0) (k + 1)))[k]? = some (.int .i32 lk1)) := ⟨by rw [← HN2.out]; exact dup_at _ _ hlt⟩
    go_wp2_with (first | refine wl_at 19 rfl (.pointer (some ⟨G5, k, none⟩)) rfl (at_dD hlt rfl rfl rfl) ?_ | refine wl_at 20 rfl (.int .i32 m) rfl (load_d rfl HLD.out rfl) ?_)
    clear HLD
    have HK : Shh (Row w12 N 23 (dc r) ∧ Row w12 (N + 1) 23 (dc fun _ => 0) ∧ Row w12 (N + 2) 23 (dc fun _ => 0) ∧ Below N w w12 ∧ Row w12 G4 23 (dc (dhf ch (fun _ => 0) k)) ∧ N + 2 < G4 ∧ Row w12 G5 23 (dc (dhf cl (fun _ => 0) (k + 1))) ∧ G4 < G5) := by
     have h := HJ.out
     rw [← HE1.out, HN2.out] at h
     exact ⟨h⟩
    clear HJ
    go_wp2
    go_wp2
    refine wp_region_held_drew (S := fun w' => True) (by kernel_rfl) trivial (fun hS => ?_)
    clear hS
    obtain ⟨X15, hX15⟩ : ∃ V, V = World.drew w12 := ⟨_, rfl⟩
    rw [← hX15]
    have HL : Shh (Row X15 N 23 (dc r) ∧ Row X15 (N + 1) 23 (dc fun _ => 0) ∧ Row X15 (N + 2) 23 (dc fun _ => 0) ∧ Below N w X15 ∧ Row X15 G4 23 (dc (dhf ch (fun _ => 0) k)) ∧ N + 2 < G4 ∧ Row X15 G5 23 (dc (dhf cl (fun _ => 0) (k + 1))) ∧ G4 < G5) := by
     obtain ⟨h0, h1, h2, h3, h4, h5, h6, h7⟩ := HK.out
     rw [hX15]
     exact ⟨h0.drew, h1.drew, h2.drew, h3.drew, h4.drew, h5, h6.drew, h7⟩
    clear hX15 HK
    refine hdv0 0 27 (.int .i64 (k : Int)) (by rfl) trivial ?_
    refine hdv0 1 28 (.int .i64 (k : Int)) (by rfl) trivial ?_
    refine hdv 2 29 (.pointer (some ⟨N, k, none⟩)) (by rfl) (fun w hS => at_dD hlt rfl (by kernel_rfl) (by kernel_rfl)) trivial ?_
    refine hdv0 4 31 (.int .i64 (k : Int)) (by rfl) trivial ?_
    refine hdv 5 32 (.pointer (some ⟨G5, k, none⟩)) (by rfl) (fun w hS => at_dD hlt rfl (by kernel_rfl) (by kernel_rfl)) trivial ?_
    refine held_two 3 6 (by kernel_rfl) ?_ ?_
    ·refine step_value 3 _ _ (some 30) (.int .i32 rk) X15 (by rfl) (by kernel_rfl) (load_d rfl ((HL.out.1.cell k).trans HG.out) (by kernel_rfl)) trivial ?_
     simp only [Act.put, arr9, hd9, tl9]
     refine held_one 6 (by kernel_rfl) ?_
     refine step_value 6 _ _ (some 33) (.int .i32 lk1) X15 (by rfl) (by kernel_rfl) (load_d rfl ((HL.out.2.2.2.2.2.2.1.cell k).trans HLL.out) (by kernel_rfl)) trivial ?_
     simp only [Act.put, arr9, hd9, tl9]
     refine hdv 7 34 (.int .i32 d) (by rfl) (fun w hS => sub_d Hd.out rfl (by kernel_rfl) (by kernel_rfl)) trivial ?_
     refine hdv 8 35 (.int .i32 hk1) (by rfl) (fun w hS => quo_d Hq.out (by decide) rfl (by kernel_rfl) (by kernel_rfl)) trivial ?_
     refine hdv 9 36 (.pointer (some ⟨G4, k, none⟩)) (by rfl) (fun w hS => at_dD hlt rfl (by kernel_rfl) (by kernel_rfl)) trivial ?_
     refine held_one 10 (by kernel_rfl) ?_
     refine step_storeD 10 (v := hk1) (by rfl) (by kernel_rfl) hlt HL.out.2.2.2.2.1 (by kernel_rfl) (by kernel_rfl) ?_
     intro w17 r18 bt16 zbt16
     have HM : Shh (Row w17 N 23 (dc r) ∧ Row w17 (N + 1) 23 (dc fun _ => 0) ∧ Row w17 (N + 2) 23 (dc fun _ => 0) ∧ Below N w w17 ∧ Row w17 G4 23 (dc (dhf ch (fun _ => 0) (k + 1))) ∧ N + 2 < G4 ∧ Row w17 G5 23 (dc (dhf cl (fun _ => 0) (k + 1))) ∧ G4 < G5) := by
      obtain ⟨h0, h1, h2, h3, h4, h5, h6, h7⟩ := HL.out
      have := h0.lt
      have := h1.lt
      have := h2.lt
      have := h4.lt
      have := h6.lt
      have hb := bt16.under (Nat.le_of_lt h4.lt) (Nat.le_refl _)
      have := hb.size
      rw [HN1.out] at r18
      exact ⟨bt16.row h0 h0.lt (by omega), bt16.row h1 h1.lt (by omega), bt16.row h2 h2.lt (by omega), h3.trans (hb.mono (by omega)), r18, h5, bt16.row h6 h6.lt (by omega), h7⟩
     clear bt16 HL r18 zbt16
     refine ⟨trivial, ?_⟩
     refine wpAnyH_done (by kernel_rfl) ?_ _
     go_wp2
     go_roundw
     case rel => exact ⟨k + 1, by omega, by go_num, HM⟩
     case measure => simp [intOf]; omega
    ·refine step_value 6 _ _ (some 33) (.int .i32 lk1) X15 (by rfl) (by kernel_rfl) (load_d rfl ((HL.out.2.2.2.2.2.2.1.cell k).trans HLL.out) (by kernel_rfl)) trivial ?_
     simp only [Act.put, arr9, hd9, tl9]
     refine held_one 3 (by kernel_rfl) ?_
     refine step_value 3 _ _ (some 30) (.int .i32 rk) X15 (by rfl) (by kernel_rfl) (load_d rfl ((HL.out.1.cell k).trans HG.out) (by kernel_rfl)) trivial ?_
     simp only [Act.put, arr9, hd9, tl9]
     refine hdv 7 34 (.int .i32 d) (by rfl) (fun w hS => sub_d Hd.out rfl (by kernel_rfl) (by kernel_rfl)) trivial ?_
     refine hdv 8 35 (.int .i32 hk1) (by rfl) (fun w hS => quo_d Hq.out (by decide) rfl (by kernel_rfl) (by kernel_rfl)) trivial ?_
     refine hdv 9 36 (.pointer (some ⟨G4, k, none⟩)) (by rfl) (fun w hS => at_dD hlt rfl (by kernel_rfl) (by kernel_rfl)) trivial ?_
     refine held_one 10 (by kernel_rfl) ?_
     refine step_storeD 10 (v := hk1) (by rfl) (by kernel_rfl) hlt HL.out.2.2.2.2.1 (by kernel_rfl) (by kernel_rfl) ?_
     intro w17 r18 bt16 zbt16
     have HM : Shh (Row w17 N 23 (dc r) ∧ Row w17 (N + 1) 23 (dc fun _ => 0) ∧ Row w17 (N + 2) 23 (dc fun _ => 0) ∧ Below N w w17 ∧ Row w17 G4 23 (dc (dhf ch (fun _ => 0) (k + 1))) ∧ N + 2 < G4 ∧ Row w17 G5 23 (dc (dhf cl (fun _ => 0) (k + 1))) ∧ G4 < G5) := by
      obtain ⟨h0, h1, h2, h3, h4, h5, h6, h7⟩ := HL.out
      have := h0.lt
      have := h1.lt
      have := h2.lt
      have := h4.lt
      have := h6.lt
      have hb := bt16.under (Nat.le_of_lt h4.lt) (Nat.le_refl _)
      have := hb.size
      rw [HN1.out] at r18
      exact ⟨bt16.row h0 h0.lt (by omega), bt16.row h1 h1.lt (by omega), bt16.row h2 h2.lt (by omega), h3.trans (hb.mono (by omega)), r18, h5, bt16.row h6 h6.lt (by omega), h7⟩
     clear bt16 HL r18 zbt16
     refine ⟨trivial, ?_⟩
     refine wpAnyH_done (by kernel_rfl) ?_ _
     go_wp2
     go_roundw
     case rel => exact ⟨k + 1, by omega, by go_num, HM⟩
     case measure => simp [intOf]; omega
  ·have hlt2 : ¬ (k : Int) < 256 := by omega
   have HJ : Shh (Row wr N 23 (dc r) ∧ Row wr (N + 1) 23 (dc fun _ => 0) ∧ Row wr (N + 2) 23 (dc fun _ => 0) ∧ Below N w wr ∧ Row wr G4 23 (dc ch) ∧ N + 2 < G4 ∧ Row wr G5 23 (dc cl) ∧ G4 < G5) := by
    have h := HI.out
    rw [show k = 256 by omega] at h
    simp only [dhf_all] at h
    exact ⟨h⟩
   clear HI
   go_wp2
   go_wp2
   refine wp_region_held_drew (S := fun w' => True) (by kernel_rfl) trivial (fun hS => ?_)
   clear hS
   obtain ⟨X12, hX12⟩ : ∃ V, V = World.drew wr := ⟨_, rfl⟩
   rw [← hX12]
   have HK : Shh (Row X12 N 23 (dc r) ∧ Row X12 (N + 1) 23 (dc fun _ => 0) ∧ Row X12 (N + 2) 23 (dc fun _ => 0) ∧ Below N w X12 ∧ Row X12 G4 23 (dc ch) ∧ N + 2 < G4 ∧ Row X12 G5 23 (dc cl) ∧ G4 < G5) := by
    obtain ⟨h0, h1, h2, h3, h4, h5, h6, h7⟩ := HJ.out
    rw [hX12]
    exact ⟨h0.drew, h1.drew, h2.drew, h3.drew, h4.drew, h5, h6.drew, h7⟩
   clear hX12 HJ
   refine held_two 0 1 (by kernel_rfl) ?_ ?_
   ·refine step_value 0 _ _ (some 38) (.agg (dc ch).toArray) X12 (by rfl) (by kernel_rfl) (run_loadRowD (g := G4) (by kernel_rfl) HK.out.2.2.2.2.1 Try.underlying23 rfl (info_dD.trans (size_dc _))) trivial ?_
    simp only [Act.put, arr9, hd9, tl9]
    refine held_two 1 2 (by kernel_rfl) ?_ ?_
    ·refine step_value 1 _ _ (some 39) (.agg (dc cl).toArray) X12 (by rfl) (by kernel_rfl) (run_loadRowD (g := G5) (by kernel_rfl) HK.out.2.2.2.2.2.2.1 Try.underlying23 rfl (info_dD.trans (size_dc _))) trivial ?_
     simp only [Act.put, arr9, hd9, tl9]
     refine held_one 2 (by kernel_rfl) ?_
     refine step_storeRow 2 23 (.tmp 2) (.tmp 38) (by rfl) (by kernel_rfl) (N + 1) (by kernel_rfl) (dc ch) (by kernel_rfl) 23 _ HK.out.2.1 (info_dD.trans (size_dc _)) (same_dc _ _) (dc_one _) ?_
     intro w14 r15 bt13 zbt13
     have HL : Shh (Row w14 N 23 (dc r) ∧ Row w14 (N + 1) 23 (dc ch) ∧ Row w14 (N + 2) 23 (dc fun _ => 0) ∧ Below N w w14 ∧ Row w14 G4 23 (dc ch) ∧ N + 2 < G4 ∧ Row w14 G5 23 (dc cl) ∧ G4 < G5) := by
      obtain ⟨h0, h1, h2, h3, h4, h5, h6, h7⟩ := HK.out
      have := h0.lt
      have := h1.lt
      have := h2.lt
      have := h4.lt
      have := h6.lt
      have hb := bt13.under (Nat.le_of_lt h1.lt) (Nat.le_refl _)
      have := hb.size
      exact ⟨bt13.row h0 h0.lt (by omega), r15, bt13.row h2 h2.lt (by omega), h3.trans (hb.mono (by omega)), bt13.row h4 h4.lt (by omega), h5, bt13.row h6 h6.lt (by omega), h7⟩
     clear bt13 HK r15 zbt13
     refine ⟨trivial, ?_⟩
     refine held_one 3 (by kernel_rfl) ?_
     refine step_storeRow 3 23 (.tmp 3) (.tmp 39) (by rfl) (by kernel_rfl) (N + 2) (by kernel_rfl) (dc cl) (by kernel_rfl) 23 _ HL.out.2.2.1 (info_dD.trans (size_dc _)) (same_dc _ _) (dc_one _) ?_
     intro w17 r18 bt16 zbt16
     have HM : Shh (Row w17 N 23 (dc r) ∧ Row w17 (N + 1) 23 (dc ch) ∧ Row w17 (N + 2) 23 (dc cl) ∧ Below N w w17 ∧ Row w17 G4 23 (dc ch) ∧ N + 2 < G4 ∧ Row w17 G5 23 (dc cl) ∧ G4 < G5) := by
      obtain ⟨h0, h1, h2, h3, h4, h5, h6, h7⟩ := HL.out
      have := h0.lt
      have := h1.lt
      have := h2.lt
      have := h4.lt
      have := h6.lt
      have hb := bt16.under (Nat.le_of_lt h2.lt) (Nat.le_refl _)
      have := hb.size
      exact ⟨bt16.row h0 h0.lt (by omega), bt16.row h1 h1.lt (by omega), r18, h3.trans (hb.mono (by omega)), bt16.row h4 h4.lt (by omega), h5, bt16.row h6 h6.lt (by omega), h7⟩
     clear bt16 HL r18 zbt16
     refine ⟨trivial, ?_⟩
     refine wpAnyH_done (by kernel_rfl) ?_ _
     go_wp2
     exact ret_two Try.results32 rfl rfl rfl HM.out.2.1 HM.out.2.2.1 ⟨rfl, HM.out.2.2.2.1⟩
    ·refine step_storeRow 2 23 (.tmp 2) (.tmp 38) (by rfl) (by kernel_rfl) (N + 1) (by kernel_rfl) (dc ch) (by kernel_rfl) 23 _ HK.out.2.1 (info_dD.trans (size_dc _)) (same_dc _ _) (dc_one _) ?_
     intro w14 r15 bt13 zbt13
     have HL : Shh (Row w14 N 23 (dc r) ∧ Row w14 (N + 1) 23 (dc ch) ∧ Row w14 (N + 2) 23 (dc fun _ => 0) ∧ Below N w w14 ∧ Row w14 G4 23 (dc ch) ∧ N + 2 < G4 ∧ Row w14 G5 23 (dc cl) ∧ G4 < G5) := by
      obtain ⟨h0, h1, h2, h3, h4, h5, h6, h7⟩ := HK.out
      have := h0.lt
      have := h1.lt
      have := h2.lt
      have := h4.lt
      have := h6.lt
      have hb := bt13.under (Nat.le_of_lt h1.lt) (Nat.le_refl _)
      have := hb.size
      exact ⟨bt13.row h0 h0.lt (by omega), r15, bt13.row h2 h2.lt (by omega), h3.trans (hb.mono (by omega)), bt13.row h4 h4.lt (by omega), h5, bt13.row h6 h6.lt (by omega), h7⟩
     clear bt13 HK r15 zbt13
     refine ⟨trivial, ?_⟩
     refine held_one 1 (by kernel_rfl) ?_
     refine step_value 1 _ _ (some 39) (.agg (dc cl).toArray) w14 (by rfl) (by kernel_rfl) (run_loadRowD (g := G5) (by kernel_rfl) HL.out.2.2.2.2.2.2.1 Try.underlying23 rfl (info_dD.trans (size_dc _))) trivial ?_
     simp only [Act.put, arr9, hd9, tl9]
     refine held_one 3 (by kernel_rfl) ?_
     refine step_storeRow 3 23 (.tmp 3) (.tmp 39) (by rfl) (by kernel_rfl) (N + 2) (by kernel_rfl) (dc cl) (by kernel_rfl) 23 _ HL.out.2.2.1 (info_dD.trans (size_dc _)) (same_dc _ _) (dc_one _) ?_
     intro w17 r18 bt16 zbt16
     have HM : Shh (Row w17 N 23 (dc r) ∧ Row w17 (N + 1) 23 (dc ch) ∧ Row w17 (N + 2) 23 (dc cl) ∧ Below N w w17 ∧ Row w17 G4 23 (dc ch) ∧ N + 2 < G4 ∧ Row w17 G5 23 (dc cl) ∧ G4 < G5) := by
      obtain ⟨h0, h1, h2, h3, h4, h5, h6, h7⟩ := HL.out
      have := h0.lt
      have := h1.lt
      have := h2.lt
      have := h4.lt
      have := h6.lt
      have hb := bt16.under (Nat.le_of_lt h2.lt) (Nat.le_refl _)
      have := hb.size
      exact ⟨bt16.row h0 h0.lt (by omega), bt16.row h1 h1.lt (by omega), r18, h3.trans (hb.mono (by omega)), bt16.row h4 h4.lt (by omega), h5, bt16.row h6 h6.lt (by omega), h7⟩
     clear bt16 HL r18 zbt16
     refine ⟨trivial, ?_⟩
     refine wpAnyH_done (by kernel_rfl) ?_ _
     go_wp2
     exact ret_two Try.results32 rfl rfl rfl HM.out.2.1 HM.out.2.2.1 ⟨rfl, HM.out.2.2.2.1⟩
   ·refine step_value 1 _ _ (some 39) (.agg (dc cl).toArray) X12 (by rfl) (by kernel_rfl) (run_loadRowD (g := G5) (by kernel_rfl) HK.out.2.2.2.2.2.2.1 Try.underlying23 rfl (info_dD.trans (size_dc _))) trivial ?_
    simp only [Act.put, arr9, hd9, tl9]
    refine held_one 0 (by kernel_rfl) ?_
    refine step_value 0 _ _ (some 38) (.agg (dc ch).toArray) X12 (by rfl) (by kernel_rfl) (run_loadRowD (g := G4) (by kernel_rfl) HK.out.2.2.2.2.1 Try.underlying23 rfl (info_dD.trans (size_dc _))) trivial ?_
    simp only [Act.put, arr9, hd9, tl9]
    refine held_one 2 (by kernel_rfl) ?_
    refine step_storeRow 2 23 (.tmp 2) (.tmp 38) (by rfl) (by kernel_rfl) (N + 1) (by kernel_rfl) (dc ch) (by kernel_rfl) 23 _ HK.out.2.1 (info_dD.trans (size_dc _)) (same_dc _ _) (dc_one _) ?_
    intro w14 r15 bt13 zbt13
    have HL : Shh (Row w14 N 23 (dc r) ∧ Row w14 (N + 1) 23 (dc ch) ∧ Row w14 (N + 2) 23 (dc fun _ => 0) ∧ Below N w w14 ∧ Row w14 G4 23 (dc ch) ∧ N + 2 < G4 ∧ Row w14 G5 23 (dc cl) ∧ G4 < G5) := by
     obtain ⟨h0, h1, h2, h3, h4, h5, h6, h7⟩ := HK.out
     have := h0.lt
     have := h1.lt
     have := h2.lt
     have := h4.lt
     have := h6.lt
     have hb := bt13.under (Nat.le_of_lt h1.lt) (Nat.le_refl _)
     have := hb.size
     exact ⟨bt13.row h0 h0.lt (by omega), r15, bt13.row h2 h2.lt (by omega), h3.trans (hb.mono (by omega)), bt13.row h4 h4.lt (by omega), h5, bt13.row h6 h6.lt (by omega), h7⟩
    clear bt13 HK r15 zbt13
    refine ⟨trivial, ?_⟩
    refine held_one 3 (by kernel_rfl) ?_
    refine step_storeRow 3 23 (.tmp 3) (.tmp 39) (by rfl) (by kernel_rfl) (N + 2) (by kernel_rfl) (dc cl) (by kernel_rfl) 23 _ HL.out.2.2.1 (info_dD.trans (size_dc _)) (same_dc _ _) (dc_one _) ?_
    intro w17 r18 bt16 zbt16
    have HM : Shh (Row w17 N 23 (dc r) ∧ Row w17 (N + 1) 23 (dc ch) ∧ Row w17 (N + 2) 23 (dc cl) ∧ Below N w w17 ∧ Row w17 G4 23 (dc ch) ∧ N + 2 < G4 ∧ Row w17 G5 23 (dc cl) ∧ G4 < G5) := by
     obtain ⟨h0, h1, h2, h3, h4, h5, h6, h7⟩ := HL.out
     have := h0.lt
     have := h1.lt
     have := h2.lt
     have := h4.lt
     have := h6.lt
     have hb := bt16.under (Nat.le_of_lt h2.lt) (Nat.le_refl _)
     have := hb.size
     exact ⟨bt16.row h0 h0.lt (by omega), bt16.row h1 h1.lt (by omega), r18, h3.trans (hb.mono (by omega)), bt16.row h4 h4.lt (by omega), h5, bt16.row h6 h6.lt (by omega), h7⟩
    clear bt16 HL r18 zbt16
    refine ⟨trivial, ?_⟩
    refine wpAnyH_done (by kernel_rfl) ?_ _
    go_wp2
    exact ret_two Try.results32 rfl rfl rfl HM.out.2.1 HM.out.2.2.1 ⟨rfl, HM.out.2.2.2.1⟩
set_option maxHeartbeats 4000000 in
theorem refDecompose_any (p : Nat → Int) (hp : ∀ i, i < 256 → i32 (p i)) (w : World) : Calls Try.prog 34 #[polyD p] w (TwoIs w (decH p) (decL p)) := by
 unfold TwoIs polyD
 have HRD : Shh (∀ W, Calls Try.prog 13 #[.agg (dc p).toArray] W (DPolyIs W (redD p))) := ⟨fun W => refReduce_any p hp W⟩
 have HST : Shh (∀ i, ∃ l, (∃ m, (m = (redD p i).tmod 523776 ∧ -2147483648 ≤ m ∧ m ≤ 2147483647) ∧ (261888 < m → l = m - 523776 ∧ -2147483648 ≤ l ∧ l ≤ 2147483647) ∧ (¬ 261888 < m → l = m)) ∧ ∃ d, (d = redD p i - l ∧ -2147483648 ≤ d ∧ d ≤ 2147483647) ∧ (d = 8380416 → decH p i = 0 ∧ decL p i = l - 1 ∧ -2147483648 ≤ decL p i ∧ decL p i ≤ 2147483647) ∧ (¬ d = 8380416 → decL p i = l ∧ decH p i = d.tdiv 523776 ∧ -2147483648 ≤ decH p i ∧ decH p i ≤ 2147483647)) := ⟨fun i => ⟨_, low_cases 523776 261888 (redD p i) (qd_lt _) (by decide) (by decide), by
  obtain ⟨d, h1, h2⟩ := high_fact 523776 (redD p i) (qd_lt _) (.inr rfl)
  have h3 := decL_lt p i
  have h4 := decH_lt p i
  have h5 := h1.1
  refine ⟨d, h1, fun h => ⟨if_pos (by omega), if_pos (by omega), by omega, by omega⟩, fun h => ⟨if_neg (by omega), ?_, by omega, by omega⟩⟩
  rw [← h2.1]
  exact if_neg (by omega)⟩⟩
 clear hp
 generalize decH p = ch at *
 generalize decL p = cl at *
 generalize redD p = r at *
 generalize hN : w.heap.size = N at *
 have FA : Shh (Row (((w.alloc (.cells (dc p).toArray 23)).alloc (.cells (dc fun _ => 0).toArray 23)).alloc (.cells (dc fun _ => 0).toArray 23)) N 23 (dc p) ∧ Row (((w.alloc (.cells (dc p).toArray 23)).alloc (.cells (dc fun _ => 0).toArray 23)).alloc (.cells (dc fun _ => 0).toArray 23)) (N + 1) 23 (dc fun _ => 0) ∧ Row (((w.alloc (.cells (dc p).toArray 23)).alloc (.cells (dc fun _ => 0).toArray 23)).alloc (.cells (dc fun _ => 0).toArray 23)) (N + 2) 23 (dc fun _ => 0) ∧ Below N w (((w.alloc (.cells (dc p).toArray 23)).alloc (.cells (dc fun _ => 0).toArray 23)).alloc (.cells (dc fun _ => 0).toArray 23))) := by
  refine ⟨(((Row.new_ hN.symm rfl).alloc _).alloc _), ((Row.new_ (by rw [asz, hN]) rfl).alloc _), (Row.new_ (by rw [asz, asz, hN]) rfl), ?_⟩
  rw [← hN]
  exact Below.chain (Below.chain (belA _ _) (belA _ _)) (belA _ _)
 go_enter Try.func34, Try.ntmps34
 go_wp2_with (first | refine wl_allocD rfl rfl ?_ | refine wpList_load_any rfl 23 (.tmp 1) rfl N rfl 23 (dc p) (.array 256 21) FA.out.1 Try.underlying23 rfl (info_dD.trans (size_dc _)) ?_ | (go_at_call 13; refine (HRD.out _).mono ?_))
 rintro e w1 ⟨rfl, b2⟩
 have FB : Shh (Row w1 N 23 (dc p) ∧ Row w1 (N + 1) 23 (dc fun _ => 0) ∧ Row w1 (N + 2) 23 (dc fun _ => 0) ∧ Below N w w1) := by
  obtain ⟨h0, h1, h2, h3⟩ := FA.out
  have := h0.lt
  have := h1.lt
  have := h2.lt
  have := b2.size
  exact ⟨h0.go b2, h1.go b2, h2.go b2, h3.trans (b2.mono (by omega))⟩
 clear b2 FA HRD
 go_wp2_with (first | refine wpList_store_any rfl 23 (.tmp 1) (.tmp 8) rfl N rfl (dc r) rfl 23 _ FB.out.1 (info_dD.trans (size_dc _)) (same_dc _ _) (dc_one _) ?_)
 intro w3 r4 bt5 zbt5
 have FC : Shh (Row w3 N 23 (dc r) ∧ Row w3 (N + 1) 23 (dc fun _ => 0) ∧ Row w3 (N + 2) 23 (dc fun _ => 0) ∧ Below N w w3) := by
  obtain ⟨h0, h1, h2, h3⟩ := FB.out
  have := h0.lt
  have := h1.lt
  have := h2.lt
  have hb := bt5.under (Nat.le_of_lt h0.lt) (Nat.le_refl _)
  have := hb.size
  exact ⟨r4, bt5.row h1 h1.lt (by omega), bt5.row h2 h2.lt (by omega), h3.trans (hb.mono (by omega))⟩
 clear bt5 FB r4 zbt5
 go_wp2_with (refine wl_newzD 4 rfl rfl rfl ?_)
 intro G4 w7 hG4 r8 b6
 try simp only [Act.put, arr9, hd9, tl9]
 have FD : Shh (Row w7 N 23 (dc r) ∧ Row w7 (N + 1) 23 (dc fun _ => 0) ∧ Row w7 (N + 2) 23 (dc fun _ => 0) ∧ Below N w w7 ∧ Row w7 G4 23 (dc fun _ => 0) ∧ N + 2 < G4) := by
  obtain ⟨h0, h1, h2, h3⟩ := FC.out
  have := h0.lt
  have := h1.lt
  have := h2.lt
  have := b6.size
  have := hG4.out
  exact ⟨h0.go b6, h1.go b6, h2.go b6, h3.trans (b6.mono (by omega)), r8, (by omega)⟩
 clear b6 FC r8 hG4
 go_wp2_with (refine wl_newzD 5 rfl rfl rfl ?_)
 intro G5 w10 hG5 r11 b9
 try simp only [Act.put, arr9, hd9, tl9]
 have FE : Shh (Row w10 N 23 (dc r) ∧ Row w10 (N + 1) 23 (dc fun _ => 0) ∧ Row w10 (N + 2) 23 (dc fun _ => 0) ∧ Below N w w10 ∧ Row w10 G4 23 (dc fun _ => 0) ∧ N + 2 < G4 ∧ Row w10 G5 23 (dc fun _ => 0) ∧ G4 < G5) := by
  obtain ⟨h0, h1, h2, h3, h4, h5⟩ := FD.out
  have := h0.lt
  have := h1.lt
  have := h2.lt
  have := h4.lt
  have := b9.size
  have := hG5.out
  exact ⟨h0.go b9, h1.go b9, h2.go b9, h3.trans (b9.mono (by omega)), h4.go b9, h5, r11, (by omega)⟩
 clear b9 FD r11 hG5
 go_wp2
 go_loopw [9] (fun i wr => ∃ k : Nat, k ≤ 256 ∧ i = .int .i64 (k : Int) ∧ Shh (Row wr N 23 (dc r) ∧ Row wr (N + 1) 23 (dc fun _ => 0) ∧ Row wr (N + 2) 23 (dc fun _ => 0) ∧ Below N w wr ∧ Row wr G4 23 (dc (dhf ch (fun _ => 0) k)) ∧ N + 2 < G4 ∧ Row wr G5 23 (dc (dhf cl (fun _ => 0) k)) ∧ G4 < G5)) (fun i _ => 256 - (intOf i).toNat)
 case atStart => exact ⟨0, Nat.zero_le _, rfl, ⟨by simp only [dhf_zero]; exact FE.out⟩⟩
 case round =>
  clear FE
  obtain ⟨k, hk, rfl, HI⟩ := hrel
  by_cases hlt : k < 256
  ·have HN1 := Shh.mk (dhf_next ch (fun _ => 0) k)
   have HN2 := Shh.mk (dhf_next cl (fun _ => 0) k)
   have HG := Shh.mk (dc_get r hlt)
   have hlt2 : (k : Int) < 256 := by omega
   obtain ⟨l0, ⟨m, hm, hP, hM⟩, d, hd, hU, hV⟩ := HST.out k
   generalize hKH : ch k = hk1 at *
   have HKH := Shh.mk hKH
   clear hKH
   generalize cl k = lk1 at *
   generalize r k = rk at *
   have Hm := Shh.mk hm
   have Hd := Shh.mk hd
   have HU := Shh.mk hU
   have HV := Shh.mk hV
   clear hm hd hU hV
   have HMM := Shh.mk (dup_at (dhf cl (fun _ => 0) k) m hlt)
   by_cases hc : 261888 < m
   ·have HGN := Shh.mk ((HI.out.1.cell k).trans HG.out)
    have HE1 := Shh.mk (hP hc)
    clear hP hM
    go_wp2_with (first | refine wl_at 14 rfl (.pointer (some ⟨N, k, none⟩)) rfl (at_dD hlt rfl rfl rfl) ?_ | refine wl_at 15 rfl (.int .i32 rk) rfl (load_d rfl HGN.out rfl) ?_ | refine wl_at 16 rfl (.int .i32 m) rfl (rem_d Hm.out (by decide) rfl rfl rfl) ?_ | refine wl_at 17 rfl (.pointer (some ⟨G5, k, none⟩)) rfl (at_dD hlt rfl rfl rfl) ?_ | refine wl_storeD rfl hlt rfl rfl rfl HI.out.2.2.2.2.2.2.1 ?_)
    intro w12 r13 bt14 zbt14
    have HJ : Shh (Row w12 N 23 (dc r) ∧ Row w12 (N + 1) 23 (dc fun _ => 0) ∧ Row w12 (N + 2) 23 (dc fun _ => 0) ∧ Below N w w12 ∧ Row w12 G4 23 (dc (dhf ch (fun _ => 0) k)) ∧ N + 2 < G4 ∧ Row w12 G5 23 (dc (dup (dhf cl (fun _ => 0) k) k m)) ∧ G4 < G5) := by
     obtain ⟨h0, h1, h2, h3, h4, h5, h6, h7⟩ := HI.out
     have := h0.lt
     have := h1.lt
     have := h2.lt
     have := h4.lt
     have := h6.lt
     have hb := bt14.under (Nat.le_of_lt h6.lt) (Nat.le_refl _)
     have := hb.size
     exact ⟨bt14.row h0 h0.lt (by omega), bt14.row h1 h1.lt (by omega), bt14.row h2 h2.lt (by omega), h3.trans (hb.mono (by omega)), bt14.row h4 h4.lt (by omega), h5, r13, h7⟩
    clear bt14 HI r13 zbt14 HGN
    have HLD := Shh.mk ((HJ.out.2.2.2.2.2.2.1.cell k).trans HMM.out)
    go_wp2_with (first | refine wl_at 19 rfl (.pointer (some ⟨G5, k, none⟩)) rfl (at_dD hlt rfl rfl rfl) ?_ | refine wl_at 20 rfl (.int .i32 m) rfl (load_d rfl HLD.out rfl) ?_ | refine wl_at 23 rfl (.pointer (some ⟨G5, k, none⟩)) rfl (at_dD hlt rfl rfl rfl) ?_ | refine wl_at 24 rfl (.int .i32 m) rfl (load_d rfl HLD.out rfl) ?_ | refine wl_at 25 rfl (.int .i32 l0) rfl (sub_d HE1.out rfl rfl rfl) ?_ | refine wl_at 26 rfl (.pointer (some ⟨G5, k, none⟩)) rfl (at_dD hlt rfl rfl rfl) ?_ | refine wl_storeD rfl hlt rfl rfl rfl HJ.out.2.2.2.2.2.2.1 ?_)
    intro w15 r16 bt17 zbt17
    rw [dup_dup] at r16
    have HK : Shh (Row w15 N 23 (dc r) ∧ Row w15 (N + 1) 23 (dc fun _ => 0) ∧ Row w15 (N + 2) 23 (dc fun _ => 0) ∧ Below N w w15 ∧ Row w15 G4 23 (dc (dhf ch (fun _ => 0) k)) ∧ N + 2 < G4 ∧ Row w15 G5 23 (dc (dup (dhf cl (fun _ => 0) k) k l0)) ∧ G4 < G5) := by
     obtain ⟨h0, h1, h2, h3, h4, h5, h6, h7⟩ := HJ.out
     have := h0.lt
     have := h1.lt
     have := h2.lt
     have := h4.lt
     have := h6.lt
     have hb := bt17.under (Nat.le_of_lt h6.lt) (Nat.le_refl _)
     have := hb.size
     exact ⟨bt17.row h0 h0.lt (by omega), bt17.row h1 h1.lt (by omega), bt17.row h2 h2.lt (by omega), h3.trans (hb.mono (by omega)), bt17.row h4 h4.lt (by omega), h5, r16, h7⟩
    clear bt17 HJ r16 zbt17 HLD
    have HLL := Shh.mk (dup_at (dhf cl (fun _ => 0) k) l0 hlt)
    go_wp2
    go_wp2
    refine wp_region_held_drew (S := fun w' => Row w' N 23 (dc r) ∧ Row w' G5 23 (dc (dup (dhf cl (fun _ => 0) k) k l0))) (by kernel_rfl) ⟨HK.out.1.drew, HK.out.2.2.2.2.2.2.1.drew⟩ (fun hS => ?_)
    clear hS
    obtain ⟨X18, hX18⟩ : ∃ V, V = World.drew w15 := ⟨_, rfl⟩
    rw [← hX18]
    have HL : Shh (Row X18 N 23 (dc r) ∧ Row X18 (N + 1) 23 (dc fun _ => 0) ∧ Row X18 (N + 2) 23 (dc fun _ => 0) ∧ Below N w X18 ∧ Row X18 G4 23 (dc (dhf ch (fun _ => 0) k)) ∧ N + 2 < G4 ∧ Row X18 G5 23 (dc (dup (dhf cl (fun _ => 0) k) k l0)) ∧ G4 < G5) := by
     obtain ⟨h0, h1, h2, h3, h4, h5, h6, h7⟩ := HK.out
     rw [hX18]
     exact ⟨h0.drew, h1.drew, h2.drew, h3.drew, h4.drew, h5, h6.drew, h7⟩
    clear hX18 HK
    by_cases hz : d = 8380416
    ·have HBB : Shh ((d == 8380416) = true) := ⟨by simpa using hz⟩
     have HE := Shh.mk (HU.out hz)
     clear HU HV hz
     have HE0 : Shh (ch k = 0) := ⟨by rw [HKH.out]; exact HE.out.1⟩
     refine hdv0 0 27 (.int .i64 (k : Int)) (by rfl) ⟨HL.out.1, HL.out.2.2.2.2.2.2.1⟩ ?_
     refine hdv 1 28 (.pointer (some ⟨N, k, none⟩)) (by rfl) (fun w hS => at_dD hlt rfl (by kernel_rfl) (by kernel_rfl)) ⟨HL.out.1, HL.out.2.2.2.2.2.2.1⟩ ?_
     refine hdv 2 29 (.int .i32 rk) (by rfl) (fun w hS => load_d rfl ((hS.1.cell k).trans HG.out) (by kernel_rfl)) ⟨HL.out.1, HL.out.2.2.2.2.2.2.1⟩ ?_
     refine hdv0 3 30 (.int .i64 (k : Int)) (by rfl) ⟨HL.out.1, HL.out.2.2.2.2.2.2.1⟩ ?_
     refine hdv 4 31 (.pointer (some ⟨G5, k, none⟩)) (by rfl) (fun w hS => at_dD hlt rfl (by kernel_rfl) (by kernel_rfl)) ⟨HL.out.1, HL.out.2.2.2.2.2.2.1⟩ ?_
     refine hdv 5 32 (.int .i32 l0) (by rfl) (fun w hS => load_d rfl ((hS.2.cell k).trans HLL.out) (by kernel_rfl)) ⟨HL.out.1, HL.out.2.2.2.2.2.2.1⟩ ?_
     refine hdv 6 33 (.int .i32 d) (by rfl) (fun w hS => sub_d Hd.out rfl (by kernel_rfl) (by kernel_rfl)) ⟨HL.out.1, HL.out.2.2.2.2.2.2.1⟩ ?_
     refine hdv 7 34 (.bool true) (by rfl) (fun w hS => eql_d true HBB.out rfl (by kernel_rfl) (by kernel_rfl)) ⟨HL.out.1, HL.out.2.2.2.2.2.2.1⟩ ?_
     refine wpAnyH_done (by kernel_rfl) ?_ _
     have HLD := Shh.mk ((HL.out.2.2.2.2.2.2.1.cell k).trans HLL.out)
     go_wp2_with (first | refine wl_at 36 rfl (.pointer (some ⟨G5, k, none⟩)) rfl (at_dD hlt rfl rfl rfl) ?_ | refine wl_at 37 rfl (.int .i32 l0) rfl (load_d rfl HLD.out rfl) ?_ | refine wl_at 38 rfl (.int .i32 lk1) rfl (sub_d HE.out.2 rfl rfl rfl) ?_ | refine wl_at 39 rfl (.pointer (some ⟨G5, k, none⟩)) rfl (at_dD hlt rfl rfl rfl) ?_ | refine wl_storeD rfl hlt rfl rfl rfl HL.out.2.2.2.2.2.2.1 ?_)
     intro w19 r20 bt21 zbt21
     rw [dup_dup, HN2.out] at r20
     have HM : Shh (Row w19 N 23 (dc r) ∧ Row w19 (N + 1) 23 (dc fun _ => 0) ∧ Row w19 (N + 2) 23 (dc fun _ => 0) ∧ Below N w w19 ∧ Row w19 G4 23 (dc (dhf ch (fun _ => 0) k)) ∧ N + 2 < G4 ∧ Row w19 G5 23 (dc (dhf cl (fun _ => 0) (k + 1))) ∧ G4 < G5) := by
      obtain ⟨h0, h1, h2, h3, h4, h5, h6, h7⟩ := HL.out
      have := h0.lt
      have := h1.lt
      have := h2.lt
      have := h4.lt
      have := h6.lt
      have hb := bt21.under (Nat.le_of_lt h6.lt) (Nat.le_refl _)
      have := hb.size
      exact ⟨bt21.row h0 h0.lt (by omega), bt21.row h1 h1.lt (by omega), bt21.row h2 h2.lt (by omega), h3.trans (hb.mono (by omega)), bt21.row h4 h4.lt (by omega), h5, r20, h7⟩
     clear bt21 HL r20 zbt21 HLD
     have HN : Shh (Row w19 N 23 (dc r) ∧ Row w19 (N + 1) 23 (dc fun _ => 0) ∧ Row w19 (N + 2) 23 (dc fun _ => 0) ∧ Below N w w19 ∧ Row w19 G4 23 (dc (dhf ch (fun _ => 0) (k + 1))) ∧ N + 2 < G4 ∧ Row w19 G5 23 (dc (dhf cl (fun _ => 0) (k + 1))) ∧ G4 < G5) := by
      have h := HM.out
      have hz := dhf_skip (r := ch) (p := fun _ => 0) (k := k) HE0.out
      rw [hz] at h
      exact ⟨h⟩
     clear HM
     go_wp2
     go_roundw
     case rel => exact ⟨k + 1, by omega, by go_num, HN⟩
     case measure => simp [intOf]; omega
    ·have HBB : Shh ((d == 8380416) = false) := ⟨by simpa using hz⟩
     have HE := Shh.mk (HV.out hz)
     clear HU HV hz
     have HEL : Shh (lk1 = l0) := ⟨HE.out.1⟩
     have HLN : Shh ((dc (dhf cl (fun _ => 0) (k + 1)))[k]? = some (.int .i32 l0)) := ⟨by rw [← HN2.out, HEL.out]; exact dup_at _ _ hlt⟩
     refine hdv0 0 27 (.int .i64 (k : Int)) (by rfl) ⟨HL.out.1, HL.out.2.2.2.2.2.2.1⟩ ?_
     refine hdv 1 28 (.pointer (some ⟨N, k, none⟩)) (by rfl) (fun w hS => at_dD hlt rfl (by kernel_rfl) (by kernel_rfl)) ⟨HL.out.1, HL.out.2.2.2.2.2.2.1⟩ ?_
     refine hdv 2 29 (.int .i32 rk) (by rfl) (fun w hS => load_d rfl ((hS.1.cell k).trans HG.out) (by kernel_rfl)) ⟨HL.out.1, HL.out.2.2.2.2.2.2.1⟩ ?_
     refine hdv0 3 30 (.int .i64 (k : Int)) (by rfl) ⟨HL.out.1, HL.out.2.2.2.2.2.2.1⟩ ?_
     refine hdv 4 31 (.pointer (some ⟨G5, k, none⟩)) (by rfl) (fun w hS => at_dD hlt rfl (by kernel_rfl) (by kernel_rfl)) ⟨HL.out.1, HL.out.2.2.2.2.2.2.1⟩ ?_
     refine hdv 5 32 (.int .i32 l0) (by rfl) (fun w hS => load_d rfl ((hS.2.cell k).trans HLL.out) (by kernel_rfl)) ⟨HL.out.1, HL.out.2.2.2.2.2.2.1⟩ ?_
     refine hdv 6 33 (.int .i32 d) (by rfl) (fun w hS => sub_d Hd.out rfl (by kernel_rfl) (by kernel_rfl)) ⟨HL.out.1, HL.out.2.2.2.2.2.2.1⟩ ?_
     refine hdv 7 34 (.bool false) (by rfl) (fun w hS => eql_d false HBB.out rfl (by kernel_rfl) (by kernel_rfl)) ⟨HL.out.1, HL.out.2.2.2.2.2.2.1⟩ ?_
     refine wpAnyH_done (by kernel_rfl) ?_ _
     have HM : Shh (Row X18 N 23 (dc r) ∧ Row X18 (N + 1) 23 (dc fun _ => 0) ∧ Row X18 (N + 2) 23 (dc fun _ => 0) ∧ Below N w X18 ∧ Row X18 G4 23 (dc (dhf ch (fun _ => 0) k)) ∧ N + 2 < G4 ∧ Row X18 G5 23 (dc (dhf cl (fun _ => 0) (k + 1))) ∧ G4 < G5) := by
      have h := HL.out
      rw [← HEL.out, HN2.out] at h
      exact ⟨h⟩
     clear HL
     go_wp2
     go_wp2
     refine wp_region_held_drew (S := fun w' => True) (by kernel_rfl) trivial (fun hS => ?_)
     clear hS
     obtain ⟨X19, hX19⟩ : ∃ V, V = World.drew X18 := ⟨_, rfl⟩
     rw [← hX19]
     have HN : Shh (Row X19 N 23 (dc r) ∧ Row X19 (N + 1) 23 (dc fun _ => 0) ∧ Row X19 (N + 2) 23 (dc fun _ => 0) ∧ Below N w X19 ∧ Row X19 G4 23 (dc (dhf ch (fun _ => 0) k)) ∧ N + 2 < G4 ∧ Row X19 G5 23 (dc (dhf cl (fun _ => 0) (k + 1))) ∧ G4 < G5) := by
      obtain ⟨h0, h1, h2, h3, h4, h5, h6, h7⟩ := HM.out
      rw [hX19]
      exact ⟨h0.drew, h1.drew, h2.drew, h3.drew, h4.drew, h5, h6.drew, h7⟩
     clear hX19 HM
     refine hdv0 0 40 (.int .i64 (k : Int)) (by rfl) trivial ?_
     refine hdv0 1 41 (.int .i64 (k : Int)) (by rfl) trivial ?_
     refine hdv 2 42 (.pointer (some ⟨N, k, none⟩)) (by rfl) (fun w hS => at_dD hlt rfl (by kernel_rfl) (by kernel_rfl)) trivial ?_
     refine hdv0 4 44 (.int .i64 (k : Int)) (by rfl) trivial ?_
     refine hdv 5 45 (.pointer (some ⟨G5, k, none⟩)) (by rfl) (fun w hS => at_dD hlt rfl (by kernel_rfl) (by kernel_rfl)) trivial ?_
     refine held_two 3 6 (by kernel_rfl) ?_ ?_
     ·refine step_value 3 _ _ (some 43) (.int .i32 rk) X19 (by rfl) (by kernel_rfl) (load_d rfl ((HN.out.1.cell k).trans HG.out) (by kernel_rfl)) trivial ?_
      simp only [Act.put, arr9, hd9, tl9]
      refine held_one 6 (by kernel_rfl) ?_
      refine step_value 6 _ _ (some 46) (.int .i32 l0) X19 (by rfl) (by kernel_rfl) (load_d rfl ((HN.out.2.2.2.2.2.2.1.cell k).trans HLN.out) (by kernel_rfl)) trivial ?_
      simp only [Act.put, arr9, hd9, tl9]
      refine hdv 7 47 (.int .i32 d) (by rfl) (fun w hS => sub_d Hd.out rfl (by kernel_rfl) (by kernel_rfl)) trivial ?_
      refine hdv 8 48 (.int .i32 hk1) (by rfl) (fun w hS => quo_d HE.out.2 (by decide) rfl (by kernel_rfl) (by kernel_rfl)) trivial ?_
      refine hdv 9 49 (.pointer (some ⟨G4, k, none⟩)) (by rfl) (fun w hS => at_dD hlt rfl (by kernel_rfl) (by kernel_rfl)) trivial ?_
      refine held_one 10 (by kernel_rfl) ?_
      refine step_storeD 10 (v := hk1) (by rfl) (by kernel_rfl) hlt HN.out.2.2.2.2.1 (by kernel_rfl) (by kernel_rfl) ?_
      intro w21 r22 bt20 zbt20
      have HO : Shh (Row w21 N 23 (dc r) ∧ Row w21 (N + 1) 23 (dc fun _ => 0) ∧ Row w21 (N + 2) 23 (dc fun _ => 0) ∧ Below N w w21 ∧ Row w21 G4 23 (dc (dhf ch (fun _ => 0) (k + 1))) ∧ N + 2 < G4 ∧ Row w21 G5 23 (dc (dhf cl (fun _ => 0) (k + 1))) ∧ G4 < G5) := by
       obtain ⟨h0, h1, h2, h3, h4, h5, h6, h7⟩ := HN.out
       have := h0.lt
       have := h1.lt
       have := h2.lt
       have := h4.lt
       have := h6.lt
       have hb := bt20.under (Nat.le_of_lt h4.lt) (Nat.le_refl _)
       have := hb.size
       rw [HN1.out] at r22
       exact ⟨bt20.row h0 h0.lt (by omega), bt20.row h1 h1.lt (by omega), bt20.row h2 h2.lt (by omega), h3.trans (hb.mono (by omega)), r22, h5, bt20.row h6 h6.lt (by omega), h7⟩
      clear bt20 HN r22 zbt20
      refine ⟨trivial, ?_⟩
      refine wpAnyH_done (by kernel_rfl) ?_ _
      go_wp2
      go_roundw
      case rel => exact ⟨k + 1, by omega, by go_num, HO⟩
      case measure => simp [intOf]; omega
     ·refine step_value 6 _ _ (some 46) (.int .i32 l0) X19 (by rfl) (by kernel_rfl) (load_d rfl ((HN.out.2.2.2.2.2.2.1.cell k).trans HLN.out) (by kernel_rfl)) trivial ?_
      simp only [Act.put, arr9, hd9, tl9]
      refine held_one 3 (by kernel_rfl) ?_
      refine step_value 3 _ _ (some 43) (.int .i32 rk) X19 (by rfl) (by kernel_rfl) (load_d rfl ((HN.out.1.cell k).trans HG.out) (by kernel_rfl)) trivial ?_
      simp only [Act.put, arr9, hd9, tl9]
      refine hdv 7 47 (.int .i32 d) (by rfl) (fun w hS => sub_d Hd.out rfl (by kernel_rfl) (by kernel_rfl)) trivial ?_
      refine hdv 8 48 (.int .i32 hk1) (by rfl) (fun w hS => quo_d HE.out.2 (by decide) rfl (by kernel_rfl) (by kernel_rfl)) trivial ?_
      refine hdv 9 49 (.pointer (some ⟨G4, k, none⟩)) (by rfl) (fun w hS => at_dD hlt rfl (by kernel_rfl) (by kernel_rfl)) trivial ?_
      refine held_one 10 (by kernel_rfl) ?_
      refine step_storeD 10 (v := hk1) (by rfl) (by kernel_rfl) hlt HN.out.2.2.2.2.1 (by kernel_rfl) (by kernel_rfl) ?_
      intro w21 r22 bt20 zbt20
      have HO : Shh (Row w21 N 23 (dc r) ∧ Row w21 (N + 1) 23 (dc fun _ => 0) ∧ Row w21 (N + 2) 23 (dc fun _ => 0) ∧ Below N w w21 ∧ Row w21 G4 23 (dc (dhf ch (fun _ => 0) (k + 1))) ∧ N + 2 < G4 ∧ Row w21 G5 23 (dc (dhf cl (fun _ => 0) (k + 1))) ∧ G4 < G5) := by
       obtain ⟨h0, h1, h2, h3, h4, h5, h6, h7⟩ := HN.out
       have := h0.lt
       have := h1.lt
       have := h2.lt
       have := h4.lt
       have := h6.lt
       have hb := bt20.under (Nat.le_of_lt h4.lt) (Nat.le_refl _)
       have := hb.size
       rw [HN1.out] at r22
       exact ⟨bt20.row h0 h0.lt (by omega), bt20.row h1 h1.lt (by omega), bt20.row h2 h2.lt (by omega), h3.trans (hb.mono (by omega)), r22, h5, bt20.row h6 h6.lt (by omega), h7⟩
      clear bt20 HN r22 zbt20
      refine ⟨trivial, ?_⟩
      refine wpAnyH_done (by kernel_rfl) ?_ _
      go_wp2
      go_roundw
      case rel => exact ⟨k + 1, by omega, by go_num, HO⟩
      case measure => simp [intOf]; omega
   ·have HGN := Shh.mk ((HI.out.1.cell k).trans HG.out)
    have e1 := hM (by omega)
    clear hP hM
    go_wp2_with (first | refine wl_at 14 rfl (.pointer (some ⟨N, k, none⟩)) rfl (at_dD hlt rfl rfl rfl) ?_ | refine wl_at 15 rfl (.int .i32 rk) rfl (load_d rfl HGN.out rfl) ?_ | refine wl_at 16 rfl (.int .i32 m) rfl (rem_d Hm.out (by decide) rfl rfl rfl) ?_ | refine wl_at 17 rfl (.pointer (some ⟨G5, k, none⟩)) rfl (at_dD hlt rfl rfl rfl) ?_ | refine wl_storeD rfl hlt rfl rfl rfl HI.out.2.2.2.2.2.2.1 ?_)
    intro w12 r13 bt14 zbt14
    have HJ : Shh (Row w12 N 23 (dc r) ∧ Row w12 (N + 1) 23 (dc fun _ => 0) ∧ Row w12 (N + 2) 23 (dc fun _ => 0) ∧ Below N w w12 ∧ Row w12 G4 23 (dc (dhf ch (fun _ => 0) k)) ∧ N + 2 < G4 ∧ Row w12 G5 23 (dc (dup (dhf cl (fun _ => 0) k) k m)) ∧ G4 < G5) := by
     obtain ⟨h0, h1, h2, h3, h4, h5, h6, h7⟩ := HI.out
     have := h0.lt
     have := h1.lt
     have := h2.lt
     have := h4.lt
     have := h6.lt
     have hb := bt14.under (Nat.le_of_lt h6.lt) (Nat.le_refl _)
     have := hb.size
     exact ⟨bt14.row h0 h0.lt (by omega), bt14.row h1 h1.lt (by omega), bt14.row h2 h2.lt (by omega), h3.trans (hb.mono (by omega)), bt14.row h4 h4.lt (by omega), h5, r13, h7⟩
    clear bt14 HI r13 zbt14 HGN
    have HLD := Shh.mk ((HJ.out.2.2.2.2.2.2.1.cell k).trans HMM.out)
    have HE1 := Shh.mk e1
    clear e1
    have HLL : Shh ((dc (dup (dhf cl (fun _ => 0) k) k l0))[k]? = some (.int .i32 l0)) := ⟨dup_at _ _ hlt⟩
    go_wp2_with (first | refine wl_at 19 rfl (.pointer (some ⟨G5, k, none⟩)) rfl (at_dD hlt rfl rfl rfl) ?_ | refine wl_at 20 rfl (.int .i32 m) rfl (load_d rfl HLD.out rfl) ?_)
    clear HLD
    have HK : Shh (Row w12 N 23 (dc r) ∧ Row w12 (N + 1) 23 (dc fun _ => 0) ∧ Row w12 (N + 2) 23 (dc fun _ => 0) ∧ Below N w w12 ∧ Row w12 G4 23 (dc (dhf ch (fun _ => 0) k)) ∧ N + 2 < G4 ∧ Row w12 G5 23 (dc (dup (dhf cl (fun _ => 0) k) k l0)) ∧ G4 < G5) := by
     have h := HJ.out
     rw [← HE1.out] at h
     exact ⟨h⟩
    clear HJ
    go_wp2
    go_wp2
    refine wp_region_held_drew (S := fun w' => Row w' N 23 (dc r) ∧ Row w' G5 23 (dc (dup (dhf cl (fun _ => 0) k) k l0))) (by kernel_rfl) ⟨HK.out.1.drew, HK.out.2.2.2.2.2.2.1.drew⟩ (fun hS => ?_)
    clear hS
    obtain ⟨X15, hX15⟩ : ∃ V, V = World.drew w12 := ⟨_, rfl⟩
    rw [← hX15]
    have HL : Shh (Row X15 N 23 (dc r) ∧ Row X15 (N + 1) 23 (dc fun _ => 0) ∧ Row X15 (N + 2) 23 (dc fun _ => 0) ∧ Below N w X15 ∧ Row X15 G4 23 (dc (dhf ch (fun _ => 0) k)) ∧ N + 2 < G4 ∧ Row X15 G5 23 (dc (dup (dhf cl (fun _ => 0) k) k l0)) ∧ G4 < G5) := by
     obtain ⟨h0, h1, h2, h3, h4, h5, h6, h7⟩ := HK.out
     rw [hX15]
     exact ⟨h0.drew, h1.drew, h2.drew, h3.drew, h4.drew, h5, h6.drew, h7⟩
    clear hX15 HK
    by_cases hz : d = 8380416
    ·have HBB : Shh ((d == 8380416) = true) := ⟨by simpa using hz⟩
     have HE := Shh.mk (HU.out hz)
     clear HU HV hz
     have HE0 : Shh (ch k = 0) := ⟨by rw [HKH.out]; exact HE.out.1⟩
     refine hdv0 0 27 (.int .i64 (k : Int)) (by rfl) ⟨HL.out.1, HL.out.2.2.2.2.2.2.1⟩ ?_
     refine hdv 1 28 (.pointer (some ⟨N, k, none⟩)) (by rfl) (fun w hS => at_dD hlt rfl (by kernel_rfl) (by kernel_rfl)) ⟨HL.out.1, HL.out.2.2.2.2.2.2.1⟩ ?_
     refine hdv 2 29 (.int .i32 rk) (by rfl) (fun w hS => load_d rfl ((hS.1.cell k).trans HG.out) (by kernel_rfl)) ⟨HL.out.1, HL.out.2.2.2.2.2.2.1⟩ ?_
     refine hdv0 3 30 (.int .i64 (k : Int)) (by rfl) ⟨HL.out.1, HL.out.2.2.2.2.2.2.1⟩ ?_
     refine hdv 4 31 (.pointer (some ⟨G5, k, none⟩)) (by rfl) (fun w hS => at_dD hlt rfl (by kernel_rfl) (by kernel_rfl)) ⟨HL.out.1, HL.out.2.2.2.2.2.2.1⟩ ?_
     refine hdv 5 32 (.int .i32 l0) (by rfl) (fun w hS => load_d rfl ((hS.2.cell k).trans HLL.out) (by kernel_rfl)) ⟨HL.out.1, HL.out.2.2.2.2.2.2.1⟩ ?_
     refine hdv 6 33 (.int .i32 d) (by rfl) (fun w hS => sub_d Hd.out rfl (by kernel_rfl) (by kernel_rfl)) ⟨HL.out.1, HL.out.2.2.2.2.2.2.1⟩ ?_
     refine hdv 7 34 (.bool true) (by rfl) (fun w hS => eql_d true HBB.out rfl (by kernel_rfl) (by kernel_rfl)) ⟨HL.out.1, HL.out.2.2.2.2.2.2.1⟩ ?_
     refine wpAnyH_done (by kernel_rfl) ?_ _
     have HLD := Shh.mk ((HL.out.2.2.2.2.2.2.1.cell k).trans HLL.out)
     go_wp2_with (first | refine wl_at 36 rfl (.pointer (some ⟨G5, k, none⟩)) rfl (at_dD hlt rfl rfl rfl) ?_ | refine wl_at 37 rfl (.int .i32 l0) rfl (load_d rfl HLD.out rfl) ?_ | refine wl_at 38 rfl (.int .i32 lk1) rfl (sub_d HE.out.2 rfl rfl rfl) ?_ | refine wl_at 39 rfl (.pointer (some ⟨G5, k, none⟩)) rfl (at_dD hlt rfl rfl rfl) ?_ | refine wl_storeD rfl hlt rfl rfl rfl HL.out.2.2.2.2.2.2.1 ?_)
     intro w16 r17 bt18 zbt18
     rw [dup_dup, HN2.out] at r17
     have HM : Shh (Row w16 N 23 (dc r) ∧ Row w16 (N + 1) 23 (dc fun _ => 0) ∧ Row w16 (N + 2) 23 (dc fun _ => 0) ∧ Below N w w16 ∧ Row w16 G4 23 (dc (dhf ch (fun _ => 0) k)) ∧ N + 2 < G4 ∧ Row w16 G5 23 (dc (dhf cl (fun _ => 0) (k + 1))) ∧ G4 < G5) := by
      obtain ⟨h0, h1, h2, h3, h4, h5, h6, h7⟩ := HL.out
      have := h0.lt
      have := h1.lt
      have := h2.lt
      have := h4.lt
      have := h6.lt
      have hb := bt18.under (Nat.le_of_lt h6.lt) (Nat.le_refl _)
      have := hb.size
      exact ⟨bt18.row h0 h0.lt (by omega), bt18.row h1 h1.lt (by omega), bt18.row h2 h2.lt (by omega), h3.trans (hb.mono (by omega)), bt18.row h4 h4.lt (by omega), h5, r17, h7⟩
     clear bt18 HL r17 zbt18 HLD
     have HN : Shh (Row w16 N 23 (dc r) ∧ Row w16 (N + 1) 23 (dc fun _ => 0) ∧ Row w16 (N + 2) 23 (dc fun _ => 0) ∧ Below N w w16 ∧ Row w16 G4 23 (dc (dhf ch (fun _ => 0) (k + 1))) ∧ N + 2 < G4 ∧ Row w16 G5 23 (dc (dhf cl (fun _ => 0) (k + 1))) ∧ G4 < G5) := by
      have h := HM.out
      have hz := dhf_skip (r := ch) (p := fun _ => 0) (k := k) HE0.out
      rw [hz] at h
      exact ⟨h⟩
     clear HM
     go_wp2
     go_roundw
     case rel => exact ⟨k + 1, by omega, by go_num, HN⟩
     case measure => simp [intOf]; omega
    ·have HBB : Shh ((d == 8380416) = false) := ⟨by simpa using hz⟩
     have HE := Shh.mk (HV.out hz)
     clear HU HV hz
     have HEL : Shh (lk1 = l0) := ⟨HE.out.1⟩
     have HLN : Shh ((dc (dhf cl (fun _ => 0) (k + 1)))[k]? = some (.int .i32 l0)) := ⟨by rw [← HN2.out, HEL.out]; exact dup_at _ _ hlt⟩
     refine hdv0 0 27 (.int .i64 (k : Int)) (by rfl) ⟨HL.out.1, HL.out.2.2.2.2.2.2.1⟩ ?_
     refine hdv 1 28 (.pointer (some ⟨N, k, none⟩)) (by rfl) (fun w hS => at_dD hlt rfl (by kernel_rfl) (by kernel_rfl)) ⟨HL.out.1, HL.out.2.2.2.2.2.2.1⟩ ?_
     refine hdv 2 29 (.int .i32 rk) (by rfl) (fun w hS => load_d rfl ((hS.1.cell k).trans HG.out) (by kernel_rfl)) ⟨HL.out.1, HL.out.2.2.2.2.2.2.1⟩ ?_
     refine hdv0 3 30 (.int .i64 (k : Int)) (by rfl) ⟨HL.out.1, HL.out.2.2.2.2.2.2.1⟩ ?_
     refine hdv 4 31 (.pointer (some ⟨G5, k, none⟩)) (by rfl) (fun w hS => at_dD hlt rfl (by kernel_rfl) (by kernel_rfl)) ⟨HL.out.1, HL.out.2.2.2.2.2.2.1⟩ ?_
     refine hdv 5 32 (.int .i32 l0) (by rfl) (fun w hS => load_d rfl ((hS.2.cell k).trans HLL.out) (by kernel_rfl)) ⟨HL.out.1, HL.out.2.2.2.2.2.2.1⟩ ?_
     refine hdv 6 33 (.int .i32 d) (by rfl) (fun w hS => sub_d Hd.out rfl (by kernel_rfl) (by kernel_rfl)) ⟨HL.out.1, HL.out.2.2.2.2.2.2.1⟩ ?_
     refine hdv 7 34 (.bool false) (by rfl) (fun w hS => eql_d false HBB.out rfl (by kernel_rfl) (by kernel_rfl)) ⟨HL.out.1, HL.out.2.2.2.2.2.2.1⟩ ?_
     refine wpAnyH_done (by kernel_rfl) ?_ _
     have HM : Shh (Row X15 N 23 (dc r) ∧ Row X15 (N + 1) 23 (dc fun _ => 0) ∧ Row X15 (N + 2) 23 (dc fun _ => 0) ∧ Below N w X15 ∧ Row X15 G4 23 (dc (dhf ch (fun _ => 0) k)) ∧ N + 2 < G4 ∧ Row X15 G5 23 (dc (dhf cl (fun _ => 0) (k + 1))) ∧ G4 < G5) := by
      have h := HL.out
      rw [← HEL.out, HN2.out] at h
      exact ⟨h⟩
     clear HL
     go_wp2
     go_wp2
     refine wp_region_held_drew (S := fun w' => True) (by kernel_rfl) trivial (fun hS => ?_)
     clear hS
     obtain ⟨X16, hX16⟩ : ∃ V, V = World.drew X15 := ⟨_, rfl⟩
     rw [← hX16]
     have HN : Shh (Row X16 N 23 (dc r) ∧ Row X16 (N + 1) 23 (dc fun _ => 0) ∧ Row X16 (N + 2) 23 (dc fun _ => 0) ∧ Below N w X16 ∧ Row X16 G4 23 (dc (dhf ch (fun _ => 0) k)) ∧ N + 2 < G4 ∧ Row X16 G5 23 (dc (dhf cl (fun _ => 0) (k + 1))) ∧ G4 < G5) := by
      obtain ⟨h0, h1, h2, h3, h4, h5, h6, h7⟩ := HM.out
      rw [hX16]
      exact ⟨h0.drew, h1.drew, h2.drew, h3.drew, h4.drew, h5, h6.drew, h7⟩
     clear hX16 HM
     refine hdv0 0 40 (.int .i64 (k : Int)) (by rfl) trivial ?_
     refine hdv0 1 41 (.int .i64 (k : Int)) (by rfl) trivial ?_
     refine hdv 2 42 (.pointer (some ⟨N, k, none⟩)) (by rfl) (fun w hS => at_dD hlt rfl (by kernel_rfl) (by kernel_rfl)) trivial ?_
     refine hdv0 4 44 (.int .i64 (k : Int)) (by rfl) trivial ?_
     refine hdv 5 45 (.pointer (some ⟨G5, k, none⟩)) (by rfl) (fun w hS => at_dD hlt rfl (by kernel_rfl) (by kernel_rfl)) trivial ?_
     refine held_two 3 6 (by kernel_rfl) ?_ ?_
     ·refine step_value 3 _ _ (some 43) (.int .i32 rk) X16 (by rfl) (by kernel_rfl) (load_d rfl ((HN.out.1.cell k).trans HG.out) (by kernel_rfl)) trivial ?_
      simp only [Act.put, arr9, hd9, tl9]
      refine held_one 6 (by kernel_rfl) ?_
      refine step_value 6 _ _ (some 46) (.int .i32 l0) X16 (by rfl) (by kernel_rfl) (load_d rfl ((HN.out.2.2.2.2.2.2.1.cell k).trans HLN.out) (by kernel_rfl)) trivial ?_
      simp only [Act.put, arr9, hd9, tl9]
      refine hdv 7 47 (.int .i32 d) (by rfl) (fun w hS => sub_d Hd.out rfl (by kernel_rfl) (by kernel_rfl)) trivial ?_
      refine hdv 8 48 (.int .i32 hk1) (by rfl) (fun w hS => quo_d HE.out.2 (by decide) rfl (by kernel_rfl) (by kernel_rfl)) trivial ?_
      refine hdv 9 49 (.pointer (some ⟨G4, k, none⟩)) (by rfl) (fun w hS => at_dD hlt rfl (by kernel_rfl) (by kernel_rfl)) trivial ?_
      refine held_one 10 (by kernel_rfl) ?_
      refine step_storeD 10 (v := hk1) (by rfl) (by kernel_rfl) hlt HN.out.2.2.2.2.1 (by kernel_rfl) (by kernel_rfl) ?_
      intro w18 r19 bt17 zbt17
      have HO : Shh (Row w18 N 23 (dc r) ∧ Row w18 (N + 1) 23 (dc fun _ => 0) ∧ Row w18 (N + 2) 23 (dc fun _ => 0) ∧ Below N w w18 ∧ Row w18 G4 23 (dc (dhf ch (fun _ => 0) (k + 1))) ∧ N + 2 < G4 ∧ Row w18 G5 23 (dc (dhf cl (fun _ => 0) (k + 1))) ∧ G4 < G5) := by
       obtain ⟨h0, h1, h2, h3, h4, h5, h6, h7⟩ := HN.out
       have := h0.lt
       have := h1.lt
       have := h2.lt
       have := h4.lt
       have := h6.lt
       have hb := bt17.under (Nat.le_of_lt h4.lt) (Nat.le_refl _)
       have := hb.size
       rw [HN1.out] at r19
       exact ⟨bt17.row h0 h0.lt (by omega), bt17.row h1 h1.lt (by omega), bt17.row h2 h2.lt (by omega), h3.trans (hb.mono (by omega)), r19, h5, bt17.row h6 h6.lt (by omega), h7⟩
      clear bt17 HN r19 zbt17
      refine ⟨trivial, ?_⟩
      refine wpAnyH_done (by kernel_rfl) ?_ _
      go_wp2
      go_roundw
      case rel => exact ⟨k + 1, by omega, by go_num, HO⟩
      case measure => simp [intOf]; omega
     ·refine step_value 6 _ _ (some 46) (.int .i32 l0) X16 (by rfl) (by kernel_rfl) (load_d rfl ((HN.out.2.2.2.2.2.2.1.cell k).trans HLN.out) (by kernel_rfl)) trivial ?_
      simp only [Act.put, arr9, hd9, tl9]
      refine held_one 3 (by kernel_rfl) ?_
      refine step_value 3 _ _ (some 43) (.int .i32 rk) X16 (by rfl) (by kernel_rfl) (load_d rfl ((HN.out.1.cell k).trans HG.out) (by kernel_rfl)) trivial ?_
      simp only [Act.put, arr9, hd9, tl9]
      refine hdv 7 47 (.int .i32 d) (by rfl) (fun w hS => sub_d Hd.out rfl (by kernel_rfl) (by kernel_rfl)) trivial ?_
      refine hdv 8 48 (.int .i32 hk1) (by rfl) (fun w hS => quo_d HE.out.2 (by decide) rfl (by kernel_rfl) (by kernel_rfl)) trivial ?_
      refine hdv 9 49 (.pointer (some ⟨G4, k, none⟩)) (by rfl) (fun w hS => at_dD hlt rfl (by kernel_rfl) (by kernel_rfl)) trivial ?_
      refine held_one 10 (by kernel_rfl) ?_
      refine step_storeD 10 (v := hk1) (by rfl) (by kernel_rfl) hlt HN.out.2.2.2.2.1 (by kernel_rfl) (by kernel_rfl) ?_
      intro w18 r19 bt17 zbt17
      have HO : Shh (Row w18 N 23 (dc r) ∧ Row w18 (N + 1) 23 (dc fun _ => 0) ∧ Row w18 (N + 2) 23 (dc fun _ => 0) ∧ Below N w w18 ∧ Row w18 G4 23 (dc (dhf ch (fun _ => 0) (k + 1))) ∧ N + 2 < G4 ∧ Row w18 G5 23 (dc (dhf cl (fun _ => 0) (k + 1))) ∧ G4 < G5) := by
       obtain ⟨h0, h1, h2, h3, h4, h5, h6, h7⟩ := HN.out
       have := h0.lt
       have := h1.lt
       have := h2.lt
       have := h4.lt
       have := h6.lt
       have hb := bt17.under (Nat.le_of_lt h4.lt) (Nat.le_refl _)
       have := hb.size
       rw [HN1.out] at r19
       exact ⟨bt17.row h0 h0.lt (by omega), bt17.row h1 h1.lt (by omega), bt17.row h2 h2.lt (by omega), h3.trans (hb.mono (by omega)), r19, h5, bt17.row h6 h6.lt (by omega), h7⟩
      clear bt17 HN r19 zbt17
      refine ⟨trivial, ?_⟩
      refine wpAnyH_done (by kernel_rfl) ?_ _
      go_wp2
      go_roundw
      case rel => exact ⟨k + 1, by omega, by go_num, HO⟩
      case measure => simp [intOf]; omega
  ·have hlt2 : ¬ (k : Int) < 256 := by omega
   have HJ : Shh (Row wr N 23 (dc r) ∧ Row wr (N + 1) 23 (dc fun _ => 0) ∧ Row wr (N + 2) 23 (dc fun _ => 0) ∧ Below N w wr ∧ Row wr G4 23 (dc ch) ∧ N + 2 < G4 ∧ Row wr G5 23 (dc cl) ∧ G4 < G5) := by
    have h := HI.out
    rw [show k = 256 by omega] at h
    simp only [dhf_all] at h
    exact ⟨h⟩
   clear HI
   go_wp2
   go_wp2
   refine wp_region_held_drew (S := fun w' => True) (by kernel_rfl) trivial (fun hS => ?_)
   clear hS
   obtain ⟨X12, hX12⟩ : ∃ V, V = World.drew wr := ⟨_, rfl⟩
   rw [← hX12]
   have HK : Shh (Row X12 N 23 (dc r) ∧ Row X12 (N + 1) 23 (dc fun _ => 0) ∧ Row X12 (N + 2) 23 (dc fun _ => 0) ∧ Below N w X12 ∧ Row X12 G4 23 (dc ch) ∧ N + 2 < G4 ∧ Row X12 G5 23 (dc cl) ∧ G4 < G5) := by
    obtain ⟨h0, h1, h2, h3, h4, h5, h6, h7⟩ := HJ.out
    rw [hX12]
    exact ⟨h0.drew, h1.drew, h2.drew, h3.drew, h4.drew, h5, h6.drew, h7⟩
   clear hX12 HJ
   refine held_two 0 1 (by kernel_rfl) ?_ ?_
   ·refine step_value 0 _ _ (some 51) (.agg (dc ch).toArray) X12 (by rfl) (by kernel_rfl) (run_loadRowD (g := G4) (by kernel_rfl) HK.out.2.2.2.2.1 Try.underlying23 rfl (info_dD.trans (size_dc _))) trivial ?_
    simp only [Act.put, arr9, hd9, tl9]
    refine held_two 1 2 (by kernel_rfl) ?_ ?_
    ·refine step_value 1 _ _ (some 52) (.agg (dc cl).toArray) X12 (by rfl) (by kernel_rfl) (run_loadRowD (g := G5) (by kernel_rfl) HK.out.2.2.2.2.2.2.1 Try.underlying23 rfl (info_dD.trans (size_dc _))) trivial ?_
     simp only [Act.put, arr9, hd9, tl9]
     refine held_one 2 (by kernel_rfl) ?_
     refine step_storeRow 2 23 (.tmp 2) (.tmp 51) (by rfl) (by kernel_rfl) (N + 1) (by kernel_rfl) (dc ch) (by kernel_rfl) 23 _ HK.out.2.1 (info_dD.trans (size_dc _)) (same_dc _ _) (dc_one _) ?_
     intro w14 r15 bt13 zbt13
     have HL : Shh (Row w14 N 23 (dc r) ∧ Row w14 (N + 1) 23 (dc ch) ∧ Row w14 (N + 2) 23 (dc fun _ => 0) ∧ Below N w w14 ∧ Row w14 G4 23 (dc ch) ∧ N + 2 < G4 ∧ Row w14 G5 23 (dc cl) ∧ G4 < G5) := by
      obtain ⟨h0, h1, h2, h3, h4, h5, h6, h7⟩ := HK.out
      have := h0.lt
      have := h1.lt
      have := h2.lt
      have := h4.lt
      have := h6.lt
      have hb := bt13.under (Nat.le_of_lt h1.lt) (Nat.le_refl _)
      have := hb.size
      exact ⟨bt13.row h0 h0.lt (by omega), r15, bt13.row h2 h2.lt (by omega), h3.trans (hb.mono (by omega)), bt13.row h4 h4.lt (by omega), h5, bt13.row h6 h6.lt (by omega), h7⟩
     clear bt13 HK r15 zbt13
     refine ⟨trivial, ?_⟩
     refine held_one 3 (by kernel_rfl) ?_
     refine step_storeRow 3 23 (.tmp 3) (.tmp 52) (by rfl) (by kernel_rfl) (N + 2) (by kernel_rfl) (dc cl) (by kernel_rfl) 23 _ HL.out.2.2.1 (info_dD.trans (size_dc _)) (same_dc _ _) (dc_one _) ?_
     intro w17 r18 bt16 zbt16
     have HM : Shh (Row w17 N 23 (dc r) ∧ Row w17 (N + 1) 23 (dc ch) ∧ Row w17 (N + 2) 23 (dc cl) ∧ Below N w w17 ∧ Row w17 G4 23 (dc ch) ∧ N + 2 < G4 ∧ Row w17 G5 23 (dc cl) ∧ G4 < G5) := by
      obtain ⟨h0, h1, h2, h3, h4, h5, h6, h7⟩ := HL.out
      have := h0.lt
      have := h1.lt
      have := h2.lt
      have := h4.lt
      have := h6.lt
      have hb := bt16.under (Nat.le_of_lt h2.lt) (Nat.le_refl _)
      have := hb.size
      exact ⟨bt16.row h0 h0.lt (by omega), bt16.row h1 h1.lt (by omega), r18, h3.trans (hb.mono (by omega)), bt16.row h4 h4.lt (by omega), h5, bt16.row h6 h6.lt (by omega), h7⟩
     clear bt16 HL r18 zbt16
     refine ⟨trivial, ?_⟩
     refine wpAnyH_done (by kernel_rfl) ?_ _
     go_wp2
     exact ret_two Try.results34 rfl rfl rfl HM.out.2.1 HM.out.2.2.1 ⟨rfl, HM.out.2.2.2.1⟩
    ·refine step_storeRow 2 23 (.tmp 2) (.tmp 51) (by rfl) (by kernel_rfl) (N + 1) (by kernel_rfl) (dc ch) (by kernel_rfl) 23 _ HK.out.2.1 (info_dD.trans (size_dc _)) (same_dc _ _) (dc_one _) ?_
     intro w14 r15 bt13 zbt13
     have HL : Shh (Row w14 N 23 (dc r) ∧ Row w14 (N + 1) 23 (dc ch) ∧ Row w14 (N + 2) 23 (dc fun _ => 0) ∧ Below N w w14 ∧ Row w14 G4 23 (dc ch) ∧ N + 2 < G4 ∧ Row w14 G5 23 (dc cl) ∧ G4 < G5) := by
      obtain ⟨h0, h1, h2, h3, h4, h5, h6, h7⟩ := HK.out
      have := h0.lt
      have := h1.lt
      have := h2.lt
      have := h4.lt
      have := h6.lt
      have hb := bt13.under (Nat.le_of_lt h1.lt) (Nat.le_refl _)
      have := hb.size
      exact ⟨bt13.row h0 h0.lt (by omega), r15, bt13.row h2 h2.lt (by omega), h3.trans (hb.mono (by omega)), bt13.row h4 h4.lt (by omega), h5, bt13.row h6 h6.lt (by omega), h7⟩
     clear bt13 HK r15 zbt13
     refine ⟨trivial, ?_⟩
     refine held_one 1 (by kernel_rfl) ?_
     refine step_value 1 _ _ (some 52) (.agg (dc cl).toArray) w14 (by rfl) (by kernel_rfl) (run_loadRowD (g := G5) (by kernel_rfl) HL.out.2.2.2.2.2.2.1 Try.underlying23 rfl (info_dD.trans (size_dc _))) trivial ?_
     simp only [Act.put, arr9, hd9, tl9]
     refine held_one 3 (by kernel_rfl) ?_
     refine step_storeRow 3 23 (.tmp 3) (.tmp 52) (by rfl) (by kernel_rfl) (N + 2) (by kernel_rfl) (dc cl) (by kernel_rfl) 23 _ HL.out.2.2.1 (info_dD.trans (size_dc _)) (same_dc _ _) (dc_one _) ?_
     intro w17 r18 bt16 zbt16
     have HM : Shh (Row w17 N 23 (dc r) ∧ Row w17 (N + 1) 23 (dc ch) ∧ Row w17 (N + 2) 23 (dc cl) ∧ Below N w w17 ∧ Row w17 G4 23 (dc ch) ∧ N + 2 < G4 ∧ Row w17 G5 23 (dc cl) ∧ G4 < G5) := by
      obtain ⟨h0, h1, h2, h3, h4, h5, h6, h7⟩ := HL.out
      have := h0.lt
      have := h1.lt
      have := h2.lt
      have := h4.lt
      have := h6.lt
      have hb := bt16.under (Nat.le_of_lt h2.lt) (Nat.le_refl _)
      have := hb.size
      exact ⟨bt16.row h0 h0.lt (by omega), bt16.row h1 h1.lt (by omega), r18, h3.trans (hb.mono (by omega)), bt16.row h4 h4.lt (by omega), h5, bt16.row h6 h6.lt (by omega), h7⟩
     clear bt16 HL r18 zbt16
     refine ⟨trivial, ?_⟩
     refine wpAnyH_done (by kernel_rfl) ?_ _
     go_wp2
     exact ret_two Try.results34 rfl rfl rfl HM.out.2.1 HM.out.2.2.1 ⟨rfl, HM.out.2.2.2.1⟩
   ·refine step_value 1 _ _ (some 52) (.agg (dc cl).toArray) X12 (by rfl) (by kernel_rfl) (run_loadRowD (g := G5) (by kernel_rfl) HK.out.2.2.2.2.2.2.1 Try.underlying23 rfl (info_dD.trans (size_dc _))) trivial ?_
    simp only [Act.put, arr9, hd9, tl9]
    refine held_one 0 (by kernel_rfl) ?_
    refine step_value 0 _ _ (some 51) (.agg (dc ch).toArray) X12 (by rfl) (by kernel_rfl) (run_loadRowD (g := G4) (by kernel_rfl) HK.out.2.2.2.2.1 Try.underlying23 rfl (info_dD.trans (size_dc _))) trivial ?_
    simp only [Act.put, arr9, hd9, tl9]
    refine held_one 2 (by kernel_rfl) ?_
    refine step_storeRow 2 23 (.tmp 2) (.tmp 51) (by rfl) (by kernel_rfl) (N + 1) (by kernel_rfl) (dc ch) (by kernel_rfl) 23 _ HK.out.2.1 (info_dD.trans (size_dc _)) (same_dc _ _) (dc_one _) ?_
    intro w14 r15 bt13 zbt13
    have HL : Shh (Row w14 N 23 (dc r) ∧ Row w14 (N + 1) 23 (dc ch) ∧ Row w14 (N + 2) 23 (dc fun _ => 0) ∧ Below N w w14 ∧ Row w14 G4 23 (dc ch) ∧ N + 2 < G4 ∧ Row w14 G5 23 (dc cl) ∧ G4 < G5) := by
     obtain ⟨h0, h1, h2, h3, h4, h5, h6, h7⟩ := HK.out
     have := h0.lt
     have := h1.lt
     have := h2.lt
     have := h4.lt
     have := h6.lt
     have hb := bt13.under (Nat.le_of_lt h1.lt) (Nat.le_refl _)
     have := hb.size
     exact ⟨bt13.row h0 h0.lt (by omega), r15, bt13.row h2 h2.lt (by omega), h3.trans (hb.mono (by omega)), bt13.row h4 h4.lt (by omega), h5, bt13.row h6 h6.lt (by omega), h7⟩
    clear bt13 HK r15 zbt13
    refine ⟨trivial, ?_⟩
    refine held_one 3 (by kernel_rfl) ?_
    refine step_storeRow 3 23 (.tmp 3) (.tmp 52) (by rfl) (by kernel_rfl) (N + 2) (by kernel_rfl) (dc cl) (by kernel_rfl) 23 _ HL.out.2.2.1 (info_dD.trans (size_dc _)) (same_dc _ _) (dc_one _) ?_
    intro w17 r18 bt16 zbt16
    have HM : Shh (Row w17 N 23 (dc r) ∧ Row w17 (N + 1) 23 (dc ch) ∧ Row w17 (N + 2) 23 (dc cl) ∧ Below N w w17 ∧ Row w17 G4 23 (dc ch) ∧ N + 2 < G4 ∧ Row w17 G5 23 (dc cl) ∧ G4 < G5) := by
     obtain ⟨h0, h1, h2, h3, h4, h5, h6, h7⟩ := HL.out
     have := h0.lt
     have := h1.lt
     have := h2.lt
     have := h4.lt
     have := h6.lt
     have hb := bt16.under (Nat.le_of_lt h2.lt) (Nat.le_refl _)
     have := hb.size
     exact ⟨bt16.row h0 h0.lt (by omega), bt16.row h1 h1.lt (by omega), r18, h3.trans (hb.mono (by omega)), bt16.row h4 h4.lt (by omega), h5, bt16.row h6 h6.lt (by omega), h7⟩
    clear bt16 HL r18 zbt16
    refine ⟨trivial, ?_⟩
    refine wpAnyH_done (by kernel_rfl) ?_ _
    go_wp2
    exact ret_two Try.results34 rfl rfl rfl HM.out.2.1 HM.out.2.2.1 ⟨rfl, HM.out.2.2.2.1⟩
end Go.Proofs.Ytapjiknedghhfaa
