/-
 THE LAWS DringRounds AND DringParts.
-/
import Derived.Test.YtapjiknedghhfaaDq4
namespace Go.Proofs.Ytapjiknedghhfaa
open Go.RowKit
set_option maxRecDepth 100000
theorem hiP_32 (p : Nat → Int) (i : Nat) : i32 (hiP p i) := by have := hiP_lt p i; unfold i32; omega
theorem loP_32 (p : Nat → Int) (i : Nat) : i32 (loP p i) := by have := loP_lt p i; unfold i32; omega
theorem decH_32 (p : Nat → Int) (i : Nat) : i32 (decH p i) := by have := decH_lt p i; unfold i32; omega
theorem decL_32 (p : Nat → Int) (i : Nat) : i32 (decL p i) := by have := decL_lt p i; unfold i32; omega
set_option maxHeartbeats 4000000 in
theorem dringRounds_law (p : Nat → Int) (hp : ∀ i, i < 256 → i32 (p i)) (w : World) : Calls Try.prog 5 #[polyD p] w (TrueIs w) := by
 unfold TrueIs polyD
 have HLV : Shh (∀ W, Calls Try.prog 11 #[] W (TrueIs W)) := ⟨fun W => live15 W⟩
 have HA : Shh (∀ W, Calls Try.prog 31 #[.agg (dc p).toArray] W (TwoIs W (hiP p) (loP p))) := ⟨fun W => Power2Round_any p hp W⟩
 have HB : Shh (∀ W, Calls Try.prog 32 #[.agg (dc p).toArray] W (TwoIs W (hiP p) (loP p))) := ⟨fun W => refPower2Round_any p hp W⟩
 have HC : Shh (∀ W, Calls Try.prog 33 #[.agg (dc p).toArray] W (TwoIs W (decH p) (decL p))) := ⟨fun W => Decompose_any p hp W⟩
 have HD : Shh (∀ W, Calls Try.prog 34 #[.agg (dc p).toArray] W (TwoIs W (decH p) (decL p))) := ⟨fun W => refDecompose_any p hp W⟩
 have HE1 := Shh.mk (eq_dpoly (hiP p) fun i _ => hiP_32 p i)
 have HE2 := Shh.mk (eq_dpoly (loP p) fun i _ => loP_32 p i)
 have HE3 := Shh.mk (eq_dpoly (decH p) fun i _ => decH_32 p i)
 have HE4 := Shh.mk (eq_dpoly (decL p) fun i _ => decL_32 p i)
 clear hp
 generalize hiP p = ch at *
 generalize loP p = cl at *
 generalize decH p = dh at *
 generalize decL p = dl at *
 generalize hN : w.heap.size = N at *
 have FA : Shh (Row (w.alloc (.cells (dc p).toArray 23)) N 23 (dc p) ∧ Below N w (w.alloc (.cells (dc p).toArray 23))) := by
  refine ⟨(Row.new_ hN.symm rfl), ?_⟩
  rw [← hN]
  exact belA _ _
 go_enter Try.func5, Try.ntmps5
 go_wp2_with (first | refine wpList_load_any rfl 23 (.tmp 1) rfl N rfl 23 (dc p) (.array 256 21) FA.out.1 Try.underlying23 rfl (info_dD.trans (size_dc _)) ?_ | (go_at_call 31; refine (HA.out _).mono ?_))
 rintro e w1 ⟨rfl, b2⟩
 have FB : Shh (Row w1 N 23 (dc p) ∧ Below N w w1) := by
  obtain ⟨h0, h1⟩ := FA.out
  have := h0.lt
  have := b2.size
  exact ⟨h0.go b2, h1.trans (b2.mono (by omega))⟩
 clear b2 FA HA
 go_wp2_with (first | refine wl_new2 3 4 (ch) (cl) rfl rfl rfl rfl rfl rfl rfl rfl rfl rfl rfl rfl rfl rfl rfl rfl ?_)
 intro G3 G4 w4 hG3 hG4 r5 q6 b3
 try simp only [Act.put, arr9, hd9, tl9]
 have FC : Shh (Row w4 N 23 (dc p) ∧ Below N w w4 ∧ Row w4 G3 23 (dc ch) ∧ Row w4 G4 23 (dc cl)) := by
  obtain ⟨h0, h1⟩ := FB.out
  have := h0.lt
  have := b3.size
  have := hG3.out
  have := hG4.out
  exact ⟨h0.go b3, h1.trans (b3.mono (by omega)), r5, q6⟩
 clear b3 FB r5 q6 hG3 hG4
 go_wp2_with (first | refine wpList_load_any rfl 23 (.tmp 1) rfl N rfl 23 (dc p) (.array 256 21) FC.out.1 Try.underlying23 rfl (info_dD.trans (size_dc _)) ?_ | (go_at_call 32; refine (HB.out _).mono ?_))
 rintro e w7 ⟨rfl, b8⟩
 have FD : Shh (Row w7 N 23 (dc p) ∧ Below N w w7 ∧ Row w7 G3 23 (dc ch) ∧ Row w7 G4 23 (dc cl)) := by
  obtain ⟨h0, h1, h2, h3⟩ := FC.out
  have := h0.lt
  have := h2.lt
  have := h3.lt
  have := b8.size
  exact ⟨h0.go b8, h1.trans (b8.mono (by omega)), h2.go b8, h3.go b8⟩
 clear b8 FC HB
 go_wp2_with (first | refine wl_new2 5 6 (ch) (cl) rfl rfl rfl rfl rfl rfl rfl rfl rfl rfl rfl rfl rfl rfl rfl rfl ?_)
 intro G5 G6 w10 hG5 hG6 r11 q12 b9
 try simp only [Act.put, arr9, hd9, tl9]
 have FE : Shh (Row w10 N 23 (dc p) ∧ Below N w w10 ∧ Row w10 G3 23 (dc ch) ∧ Row w10 G4 23 (dc cl) ∧ Row w10 G5 23 (dc ch) ∧ Row w10 G6 23 (dc cl)) := by
  obtain ⟨h0, h1, h2, h3⟩ := FD.out
  have := h0.lt
  have := h2.lt
  have := h3.lt
  have := b9.size
  have := hG5.out
  have := hG6.out
  exact ⟨h0.go b9, h1.trans (b9.mono (by omega)), h2.go b9, h3.go b9, r11, q12⟩
 clear b9 FD r11 q12 hG5 hG6
 go_wp2_with (first | refine wpList_load_any rfl 23 (.tmp 1) rfl N rfl 23 (dc p) (.array 256 21) FE.out.1 Try.underlying23 rfl (info_dD.trans (size_dc _)) ?_ | (go_at_call 33; refine (HC.out _).mono ?_))
 rintro e w13 ⟨rfl, b14⟩
 have FF : Shh (Row w13 N 23 (dc p) ∧ Below N w w13 ∧ Row w13 G3 23 (dc ch) ∧ Row w13 G4 23 (dc cl) ∧ Row w13 G5 23 (dc ch) ∧ Row w13 G6 23 (dc cl)) := by
  obtain ⟨h0, h1, h2, h3, h4, h5⟩ := FE.out
  have := h0.lt
  have := h2.lt
  have := h3.lt
  have := h4.lt
  have := h5.lt
  have := b14.size
  exact ⟨h0.go b14, h1.trans (b14.mono (by omega)), h2.go b14, h3.go b14, h4.go b14, h5.go b14⟩
 clear b14 FE HC
 go_wp2_with (first | refine wl_new2 7 8 (dh) (dl) rfl rfl rfl rfl rfl rfl rfl rfl rfl rfl rfl rfl rfl rfl rfl rfl ?_)
 intro G7 G8 w16 hG7 hG8 r17 q18 b15
 try simp only [Act.put, arr9, hd9, tl9]
 have FG : Shh (Row w16 N 23 (dc p) ∧ Below N w w16 ∧ Row w16 G3 23 (dc ch) ∧ Row w16 G4 23 (dc cl) ∧ Row w16 G5 23 (dc ch) ∧ Row w16 G6 23 (dc cl) ∧ Row w16 G7 23 (dc dh) ∧ Row w16 G8 23 (dc dl)) := by
  obtain ⟨h0, h1, h2, h3, h4, h5⟩ := FF.out
  have := h0.lt
  have := h2.lt
  have := h3.lt
  have := h4.lt
  have := h5.lt
  have := b15.size
  have := hG7.out
  have := hG8.out
  exact ⟨h0.go b15, h1.trans (b15.mono (by omega)), h2.go b15, h3.go b15, h4.go b15, h5.go b15, r17, q18⟩
 clear b15 FF r17 q18 hG7 hG8
 go_wp2_with (first | refine wpList_load_any rfl 23 (.tmp 1) rfl N rfl 23 (dc p) (.array 256 21) FG.out.1 Try.underlying23 rfl (info_dD.trans (size_dc _)) ?_ | (go_at_call 34; refine (HD.out _).mono ?_))
 rintro e w19 ⟨rfl, b20⟩
 have FH : Shh (Row w19 N 23 (dc p) ∧ Below N w w19 ∧ Row w19 G3 23 (dc ch) ∧ Row w19 G4 23 (dc cl) ∧ Row w19 G5 23 (dc ch) ∧ Row w19 G6 23 (dc cl) ∧ Row w19 G7 23 (dc dh) ∧ Row w19 G8 23 (dc dl)) := by
  obtain ⟨h0, h1, h2, h3, h4, h5, h6, h7⟩ := FG.out
  have := h0.lt
  have := h2.lt
  have := h3.lt
  have := h4.lt
  have := h5.lt
  have := h6.lt
  have := h7.lt
  have := b20.size
  exact ⟨h0.go b20, h1.trans (b20.mono (by omega)), h2.go b20, h3.go b20, h4.go b20, h5.go b20, h6.go b20, h7.go b20⟩
 clear b20 FG HD
 go_wp2_with (first | refine wl_new2 9 10 (dh) (dl) rfl rfl rfl rfl rfl rfl rfl rfl rfl rfl rfl rfl rfl rfl rfl rfl ?_)
 intro G9 G10 w22 hG9 hG10 r23 q24 b21
 try simp only [Act.put, arr9, hd9, tl9]
 have FI : Shh (Row w22 N 23 (dc p) ∧ Below N w w22 ∧ Row w22 G3 23 (dc ch) ∧ Row w22 G4 23 (dc cl) ∧ Row w22 G5 23 (dc ch) ∧ Row w22 G6 23 (dc cl) ∧ Row w22 G7 23 (dc dh) ∧ Row w22 G8 23 (dc dl) ∧ Row w22 G9 23 (dc dh) ∧ Row w22 G10 23 (dc dl)) := by
  obtain ⟨h0, h1, h2, h3, h4, h5, h6, h7⟩ := FH.out
  have := h0.lt
  have := h2.lt
  have := h3.lt
  have := h4.lt
  have := h5.lt
  have := h6.lt
  have := h7.lt
  have := b21.size
  have := hG9.out
  have := hG10.out
  exact ⟨h0.go b21, h1.trans (b21.mono (by omega)), h2.go b21, h3.go b21, h4.go b21, h5.go b21, h6.go b21, h7.go b21, r23, q24⟩
 clear b21 FH r23 q24 hG9 hG10
 go_wp2_with (first | (go_at_call 11; refine (HLV.out _).mono ?_))
 rintro e w25 ⟨rfl, b26⟩
 have FJ : Shh (Row w25 N 23 (dc p) ∧ Below N w w25 ∧ Row w25 G3 23 (dc ch) ∧ Row w25 G4 23 (dc cl) ∧ Row w25 G5 23 (dc ch) ∧ Row w25 G6 23 (dc cl) ∧ Row w25 G7 23 (dc dh) ∧ Row w25 G8 23 (dc dl) ∧ Row w25 G9 23 (dc dh) ∧ Row w25 G10 23 (dc dl)) := by
  obtain ⟨h0, h1, h2, h3, h4, h5, h6, h7, h8, h9⟩ := FI.out
  have := h0.lt
  have := h2.lt
  have := h3.lt
  have := h4.lt
  have := h5.lt
  have := h6.lt
  have := h7.lt
  have := h8.lt
  have := h9.lt
  have := b26.size
  exact ⟨h0.go b26, h1.trans (b26.mono (by omega)), h2.go b26, h3.go b26, h4.go b26, h5.go b26, h6.go b26, h7.go b26, h8.go b26, h9.go b26⟩
 clear b26 FI HLV
 go_wp2_with (first | refine wl_loadW 23 (.tmp 3) rfl G3 rfl 23 (dc ch) _ (by kernel_rfl) FJ.out.2.2.1 Try.underlying23 rfl (info_dD.trans (size_dc _)) ?_ | refine wl_loadW 23 (.tmp 5) rfl G5 rfl 23 (dc ch) _ (by kernel_rfl) FJ.out.2.2.2.2.1 Try.underlying23 rfl (info_dD.trans (size_dc _)) ?_ | refine wl_eqlW 23 23 (.tmp 33) (.tmp 34) rfl (dc ch).toArray (dc ch).toArray rfl rfl (by kernel_rfl) (by kernel_rfl) true (HE1.out _) ?_ | refine wl_loadW 23 (.tmp 4) rfl G4 rfl 23 (dc cl) _ (by kernel_rfl) FJ.out.2.2.2.1 Try.underlying23 rfl (info_dD.trans (size_dc _)) ?_ | refine wl_loadW 23 (.tmp 6) rfl G6 rfl 23 (dc cl) _ (by kernel_rfl) FJ.out.2.2.2.2.2.1 Try.underlying23 rfl (info_dD.trans (size_dc _)) ?_ | refine wl_eqlW 23 23 (.tmp 38) (.tmp 39) rfl (dc cl).toArray (dc cl).toArray rfl rfl (by kernel_rfl) (by kernel_rfl) true (HE2.out _) ?_ | refine wl_loadW 23 (.tmp 7) rfl G7 rfl 23 (dc dh) _ (by kernel_rfl) FJ.out.2.2.2.2.2.2.1 Try.underlying23 rfl (info_dD.trans (size_dc _)) ?_ | refine wl_loadW 23 (.tmp 9) rfl G9 rfl 23 (dc dh) _ (by kernel_rfl) FJ.out.2.2.2.2.2.2.2.2.1 Try.underlying23 rfl (info_dD.trans (size_dc _)) ?_ | refine wl_eqlW 23 23 (.tmp 43) (.tmp 44) rfl (dc dh).toArray (dc dh).toArray rfl rfl (by kernel_rfl) (by kernel_rfl) true (HE3.out _) ?_ | refine wl_loadW 23 (.tmp 8) rfl G8 rfl 23 (dc dl) _ (by kernel_rfl) FJ.out.2.2.2.2.2.2.2.1 Try.underlying23 rfl (info_dD.trans (size_dc _)) ?_ | refine wl_loadW 23 (.tmp 10) rfl G10 rfl 23 (dc dl) _ (by kernel_rfl) FJ.out.2.2.2.2.2.2.2.2.2 Try.underlying23 rfl (info_dD.trans (size_dc _)) ?_ | refine wl_eqlW 23 23 (.tmp 48) (.tmp 49) rfl (dc dl).toArray (dc dl).toArray rfl rfl (by kernel_rfl) (by kernel_rfl) true (HE4.out _) ?_)
 go_ret
 exact ⟨rfl, FJ.out.2.1⟩
theorem cent_small (c : Nat → Int) (h : ∀ i, -4190208 ≤ c i ∧ c i ≤ 4190208) (i : Nat) : centD c i = c i := by
 have h1 := h i
 unfold centD redD qd
 split <;> omega
theorem norm_small (c : Nat → Int) (B : Int) (hB : 0 ≤ B ∧ B ≤ 4190208) (h : ∀ i, -B ≤ c i ∧ c i ≤ B) : normD c ≤ B := by
 unfold normD
 refine mxD_le _ B hB.1 (fun i _ => ?_) 256 (Nat.le_refl _)
 rw [cent_small c (fun j => by have := h j; omega)]
 exact h i
theorem dec_whole (p : Nat → Int) (k : Nat) : decH p k * 523776 + decL p k - redD p k = 0 ∨ decH p k * 523776 + decL p k - redD p k = -8380417 := by
 have h1 := highS_523776 (redD p k)
 unfold decH decL
 split <;> omega
theorem pow_whole (p : Nat → Int) (k : Nat) : hiP p k * 8192 + loP p k - redD p k = 0 := by
 have h1 := highS_8192 (redD p k)
 unfold hiP loP
 omega
set_option maxHeartbeats 8000000 in
theorem dringParts_law (p : Nat → Int) (hp : ∀ i, i < 256 → i32 (p i)) (w : World) : Calls Try.prog 9 #[polyD p] w (TrueIs w) := by
 unfold TrueIs polyD
 have HLV : Shh (∀ W, Calls Try.prog 11 #[] W (TrueIs W)) := ⟨fun W => live15 W⟩
 have HR : Shh (∀ W, Calls Try.prog 12 #[.agg (dc p).toArray] W (DPolyIs W (redD p))) := ⟨fun W => Reduce_any p hp W⟩
 have HA : Shh (∀ W, Calls Try.prog 31 #[.agg (dc p).toArray] W (TwoIs W (hiP p) (loP p))) := ⟨fun W => Power2Round_any p hp W⟩
 have HC : Shh (∀ W, Calls Try.prog 33 #[.agg (dc p).toArray] W (TwoIs W (decH p) (decL p))) := ⟨fun W => Decompose_any p hp W⟩
 obtain ⟨n1, HM1, hn1⟩ : ∃ n, Shh (∀ W, Calls Try.prog 16 #[.agg (dc (loP p)).toArray] W (I32Bl W n)) ∧ ¬ 4096 < n := ⟨_, ⟨fun W => Norm_any (loP p) (fun i _ => loP_32 p i) W⟩, by have := norm_small (loP p) 4096 (by decide) (fun i => by have := loP_lt p i; omega); omega⟩
 obtain ⟨n2, HM2, hn2⟩ : ∃ n, Shh (∀ W, Calls Try.prog 16 #[.agg (dc (decL p)).toArray] W (I32Bl W n)) ∧ ¬ 261888 < n := ⟨_, ⟨fun W => Norm_any (decL p) (fun i _ => decL_32 p i) W⟩, by have := norm_small (decL p) 261888 (by decide) (fun i => decL_lt p i); omega⟩
 have HV : Shh (∀ k, hiP p k * 8192 + loP p k - redD p k = 0 ∧ (decH p k * 523776 + decL p k - redD p k = 0 ∨ decH p k * 523776 + decL p k - redD p k = -8380417) ∧ (0 ≤ decH p k ∧ decH p k ≤ 15) ∧ (-261888 ≤ decL p k ∧ decL p k ≤ 261888) ∧ (-4096 < loP p k ∧ loP p k ≤ 4096) ∧ (0 ≤ hiP p k ∧ hiP p k ≤ 1023) ∧ 0 ≤ redD p k ∧ redD p k < 8380417) := ⟨fun k => ⟨pow_whole p k, dec_whole p k, decH_lt p k, decL_lt p k, loP_lt p k, hiP_lt p k, qd_lt _⟩⟩
 clear hp
 generalize hiP p = ch at *
 generalize loP p = cl at *
 generalize decH p = dh at *
 generalize decL p = dl at *
 generalize redD p = r at *
 generalize hN : w.heap.size = N at *
 have FA : Shh (Row (w.alloc (.cells (dc p).toArray 23)) N 23 (dc p) ∧ Below N w (w.alloc (.cells (dc p).toArray 23))) := by
  refine ⟨(Row.new_ hN.symm rfl), ?_⟩
  rw [← hN]
  exact belA _ _
 go_enter Try.func9, Try.ntmps9
 go_wp2_with (first | refine wpList_load_any rfl 23 (.tmp 1) rfl N rfl 23 (dc p) (.array 256 21) FA.out.1 Try.underlying23 rfl (info_dD.trans (size_dc _)) ?_ | (go_at_call 12; refine (HR.out _).mono ?_))
 rintro e w1 ⟨rfl, b2⟩
 have FB : Shh (Row w1 N 23 (dc p) ∧ Below N w w1) := by
  obtain ⟨h0, h1⟩ := FA.out
  have := h0.lt
  have := b2.size
  exact ⟨h0.go b2, h1.trans (b2.mono (by omega))⟩
 clear b2 FA HR
 go_wp2_with (first | refine wl_newdD 3 (r) rfl rfl rfl rfl rfl rfl rfl rfl ?_)
 intro G3 w4 hG3 r5 b3
 try simp only [Act.put, arr9, hd9, tl9]
 have FC : Shh (Row w4 N 23 (dc p) ∧ Below N w w4 ∧ Row w4 G3 23 (dc r)) := by
  obtain ⟨h0, h1⟩ := FB.out
  have := h0.lt
  have := b3.size
  have := hG3.out
  exact ⟨h0.go b3, h1.trans (b3.mono (by omega)), r5⟩
 clear b3 FB r5 hG3
 go_wp2_with (first | refine wpList_load_any rfl 23 (.tmp 1) rfl N rfl 23 (dc p) (.array 256 21) FC.out.1 Try.underlying23 rfl (info_dD.trans (size_dc _)) ?_ | (go_at_call 31; refine (HA.out _).mono ?_))
 rintro e w6 ⟨rfl, b7⟩
 have FD : Shh (Row w6 N 23 (dc p) ∧ Below N w w6 ∧ Row w6 G3 23 (dc r)) := by
  obtain ⟨h0, h1, h2⟩ := FC.out
  have := h0.lt
  have := h2.lt
  have := b7.size
  exact ⟨h0.go b7, h1.trans (b7.mono (by omega)), h2.go b7⟩
 clear b7 FC HA
 go_wp2_with (first | refine wl_new2 4 5 (ch) (cl) rfl rfl rfl rfl rfl rfl rfl rfl rfl rfl rfl rfl rfl rfl rfl rfl ?_)
 intro G4 G5 w9 hG4 hG5 r10 q11 b8
 try simp only [Act.put, arr9, hd9, tl9]
 have FE : Shh (Row w9 N 23 (dc p) ∧ Below N w w9 ∧ Row w9 G3 23 (dc r) ∧ Row w9 G4 23 (dc ch) ∧ Row w9 G5 23 (dc cl)) := by
  obtain ⟨h0, h1, h2⟩ := FD.out
  have := h0.lt
  have := h2.lt
  have := b8.size
  have := hG4.out
  have := hG5.out
  exact ⟨h0.go b8, h1.trans (b8.mono (by omega)), h2.go b8, r10, q11⟩
 clear b8 FD r10 q11 hG4 hG5
 go_wp2_with (first | refine wpList_load_any rfl 23 (.tmp 1) rfl N rfl 23 (dc p) (.array 256 21) FE.out.1 Try.underlying23 rfl (info_dD.trans (size_dc _)) ?_ | (go_at_call 33; refine (HC.out _).mono ?_))
 rintro e w12 ⟨rfl, b13⟩
 have FF : Shh (Row w12 N 23 (dc p) ∧ Below N w w12 ∧ Row w12 G3 23 (dc r) ∧ Row w12 G4 23 (dc ch) ∧ Row w12 G5 23 (dc cl)) := by
  obtain ⟨h0, h1, h2, h3, h4⟩ := FE.out
  have := h0.lt
  have := h2.lt
  have := h3.lt
  have := h4.lt
  have := b13.size
  exact ⟨h0.go b13, h1.trans (b13.mono (by omega)), h2.go b13, h3.go b13, h4.go b13⟩
 clear b13 FE HC
 go_wp2_with (first | refine wl_new2 6 7 (dh) (dl) rfl rfl rfl rfl rfl rfl rfl rfl rfl rfl rfl rfl rfl rfl rfl rfl ?_)
 intro G6 G7 w15 hG6 hG7 r16 q17 b14
 try simp only [Act.put, arr9, hd9, tl9]
 have FG : Shh (Row w15 N 23 (dc p) ∧ Below N w w15 ∧ Row w15 G3 23 (dc r) ∧ Row w15 G4 23 (dc ch) ∧ Row w15 G5 23 (dc cl) ∧ Row w15 G6 23 (dc dh) ∧ Row w15 G7 23 (dc dl)) := by
  obtain ⟨h0, h1, h2, h3, h4⟩ := FF.out
  have := h0.lt
  have := h2.lt
  have := h3.lt
  have := h4.lt
  have := b14.size
  have := hG6.out
  have := hG7.out
  exact ⟨h0.go b14, h1.trans (b14.mono (by omega)), h2.go b14, h3.go b14, h4.go b14, r16, q17⟩
 clear b14 FF r16 q17 hG6 hG7
 go_wp2_with (first | (go_at_call 11; refine (HLV.out _).mono ?_))
 rintro e w18 ⟨rfl, b19⟩
 have FH : Shh (Row w18 N 23 (dc p) ∧ Below N w w18 ∧ Row w18 G3 23 (dc r) ∧ Row w18 G4 23 (dc ch) ∧ Row w18 G5 23 (dc cl) ∧ Row w18 G6 23 (dc dh) ∧ Row w18 G7 23 (dc dl)) := by
  obtain ⟨h0, h1, h2, h3, h4, h5, h6⟩ := FG.out
  have := h0.lt
  have := h2.lt
  have := h3.lt
  have := h4.lt
  have := h5.lt
  have := h6.lt
  have := b19.size
  exact ⟨h0.go b19, h1.trans (b19.mono (by omega)), h2.go b19, h3.go b19, h4.go b19, h5.go b19, h6.go b19⟩
 clear b19 FG HLV
 go_wp2_with (first | refine wl_loadW 23 (.tmp 5) rfl G5 rfl 23 (dc cl) _ (by kernel_rfl) FH.out.2.2.2.2.1 Try.underlying23 rfl (info_dD.trans (size_dc _)) ?_ | (go_at_call 16; refine (HM1.out _).mono ?_))
 rintro e w20 ⟨rfl, b21⟩
 have FI : Shh (Row w20 N 23 (dc p) ∧ Below N w w20 ∧ Row w20 G3 23 (dc r) ∧ Row w20 G4 23 (dc ch) ∧ Row w20 G5 23 (dc cl) ∧ Row w20 G6 23 (dc dh) ∧ Row w20 G7 23 (dc dl)) := by
  obtain ⟨h0, h1, h2, h3, h4, h5, h6⟩ := FH.out
  have := h0.lt
  have := h2.lt
  have := h3.lt
  have := h4.lt
  have := h5.lt
  have := h6.lt
  have := b21.size
  exact ⟨h0.go b21, h1.trans (b21.mono (by omega)), h2.go b21, h3.go b21, h4.go b21, h5.go b21, h6.go b21⟩
 clear b21 FH HM1
 have HN1 : Shh (decide (4096 < n1) = false) := ⟨by simpa using hn1⟩
 have HN2 : Shh (decide (261888 < n2) = false) := ⟨by simpa using hn2⟩
 clear hn1 hn2
 go_wp2_with (first | refine wl_atW 28 rfl (.bool false) (by kernel_rfl) (gtr_d false HN1.out rfl rfl rfl) ?_ | refine wl_loadW 23 (.tmp 7) rfl G7 rfl 23 (dc dl) _ (by kernel_rfl) FI.out.2.2.2.2.2.2 Try.underlying23 rfl (info_dD.trans (size_dc _)) ?_ | (go_at_call 16; refine (HM2.out _).mono ?_))
 rintro e w22 ⟨rfl, b23⟩
 have FJ : Shh (Row w22 N 23 (dc p) ∧ Below N w w22 ∧ Row w22 G3 23 (dc r) ∧ Row w22 G4 23 (dc ch) ∧ Row w22 G5 23 (dc cl) ∧ Row w22 G6 23 (dc dh) ∧ Row w22 G7 23 (dc dl)) := by
  obtain ⟨h0, h1, h2, h3, h4, h5, h6⟩ := FI.out
  have := h0.lt
  have := h2.lt
  have := h3.lt
  have := h4.lt
  have := h5.lt
  have := h6.lt
  have := b23.size
  exact ⟨h0.go b23, h1.trans (b23.mono (by omega)), h2.go b23, h3.go b23, h4.go b23, h5.go b23, h6.go b23⟩
 clear b23 FI HM2
 go_wp2_with (refine wl_atW 33 rfl (.bool false) (by kernel_rfl) (gtr_d false HN2.out rfl rfl rfl) ?_)
 clear HN1 HN2
 go_wp2
 go_loopw [35] (fun i wr => ∃ k : Nat, k ≤ 256 ∧ i = .int .i64 (k : Int) ∧ Shh (Row wr N 23 (dc p) ∧ Below N w wr ∧ Row wr G3 23 (dc r) ∧ Row wr G4 23 (dc ch) ∧ Row wr G5 23 (dc cl) ∧ Row wr G6 23 (dc dh) ∧ Row wr G7 23 (dc dl))) (fun i _ => 256 - (intOf i).toNat)
 case atStart => exact ⟨0, Nat.zero_le _, rfl, FJ⟩
 case round =>
  clear FJ
  obtain ⟨k, hk, rfl, HI⟩ := hrel
  by_cases hlt : k < 256
  ·have Qch := Shh.mk (dc_get ch hlt)
   have Qcl := Shh.mk (dc_get cl hlt)
   have Qr := Shh.mk (dc_get r hlt)
   have Qdh := Shh.mk (dc_get dh hlt)
   have Qdl := Shh.mk (dc_get dl hlt)
   obtain ⟨v1, v2, v3, v4, v5, v6, v7⟩ := HV.out k
   have hlt2 : (k : Int) < 256 := by omega
   generalize ch k = chk at *
   generalize cl k = clk at *
   generalize dh k = dhk at *
   generalize dl k = dlk at *
   generalize r k = rk at *
   obtain ⟨a1, A1⟩ : ∃ a, Shh (a = chk * 8192 ∧ -9223372036854775808 ≤ a ∧ a ≤ 9223372036854775807) := ⟨_, ⟨rfl, by omega, by omega⟩⟩
   obtain ⟨a2, A2⟩ : ∃ a, Shh (a = a1 + clk ∧ -9223372036854775808 ≤ a ∧ a ≤ 9223372036854775807) := ⟨_, ⟨rfl, by have := A1.out; omega, by have := A1.out; omega⟩⟩
   have A3 : Shh ((0 : Int) = a2 - rk ∧ (-9223372036854775808 : Int) ≤ 0 ∧ (0 : Int) ≤ 9223372036854775807) := ⟨by have := A1.out; have := A2.out; omega, by decide, by decide⟩
   obtain ⟨b1, B1⟩ : ∃ a, Shh (a = dhk * 2 ∧ -9223372036854775808 ≤ a ∧ a ≤ 9223372036854775807) := ⟨_, ⟨rfl, by omega, by omega⟩⟩
   obtain ⟨b2, B2⟩ : ∃ a, Shh (a = b1 * 261888 ∧ -9223372036854775808 ≤ a ∧ a ≤ 9223372036854775807) := ⟨_, ⟨rfl, by have := B1.out; omega, by have := B1.out; omega⟩⟩
   obtain ⟨b3, B3⟩ : ∃ a, Shh (a = b2 + dlk ∧ -9223372036854775808 ≤ a ∧ a ≤ 9223372036854775807) := ⟨_, ⟨rfl, by have := B1.out; have := B2.out; omega, by have := B1.out; have := B2.out; omega⟩⟩
   obtain ⟨y, hy, B4⟩ : ∃ y, (y = 0 ∨ y = -8380417) ∧ Shh (y = b3 - rk ∧ -9223372036854775808 ≤ y ∧ y ≤ 9223372036854775807) := ⟨b3 - rk, by have := B1.out; have := B2.out; have := B3.out; omega, ⟨rfl, by have := B1.out; have := B2.out; have := B3.out; omega, by have := B1.out; have := B2.out; have := B3.out; omega⟩⟩
   have H32 : Shh (i32 chk ∧ i32 clk ∧ i32 rk ∧ i32 dhk ∧ i32 dlk) := ⟨by unfold i32; omega⟩
   have L1 : Shh ((decide (dhk < 0)) = false ∧ (decide (16 ≤ dhk)) = false ∧ (decide (chk < 0)) = false ∧ (decide (1023 < chk)) = false) := ⟨by simp; omega⟩
   clear v1 v2 v3 v4 v5 v6 v7
   go_wp2
   refine wp_region_held_drew (S := fun w' => Row w' G4 23 (dc ch) ∧ Row w' G5 23 (dc cl) ∧ Row w' G3 23 (dc r)) (by kernel_rfl) ⟨HI.out.2.2.2.1.drew, HI.out.2.2.2.2.1.drew, HI.out.2.2.1.drew⟩ (fun hS => ?_)
   clear hS
   obtain ⟨X24, hX24⟩ : ∃ V, V = World.drew wr := ⟨_, rfl⟩
   rw [← hX24]
   have HJ : Shh (Row X24 N 23 (dc p) ∧ Below N w X24 ∧ Row X24 G3 23 (dc r) ∧ Row X24 G4 23 (dc ch) ∧ Row X24 G5 23 (dc cl) ∧ Row X24 G6 23 (dc dh) ∧ Row X24 G7 23 (dc dl)) := by
    obtain ⟨h0, h1, h2, h3, h4, h5, h6⟩ := HI.out
    rw [hX24]
    exact ⟨h0.drew, h1.drew, h2.drew, h3.drew, h4.drew, h5.drew, h6.drew⟩
   clear hX24 HI
   refine hdv0 0 38 (.int .i64 (k : Int)) (by rfl) ⟨HJ.out.2.2.2.1, HJ.out.2.2.2.2.1, HJ.out.2.2.1⟩ ?_
   refine hdv 1 39 (.pointer (some ⟨G4, k, none⟩)) (by rfl) (fun w hS => at_dD hlt rfl (by kernel_rfl) (by kernel_rfl)) ⟨HJ.out.2.2.2.1, HJ.out.2.2.2.2.1, HJ.out.2.2.1⟩ ?_
   refine hdv 2 40 (.int .i32 chk) (by rfl) (fun w hS => load_d rfl ((hS.1.cell k).trans Qch.out) (by kernel_rfl)) ⟨HJ.out.2.2.2.1, HJ.out.2.2.2.2.1, HJ.out.2.2.1⟩ ?_
   refine hdv 3 41 (.int .i64 chk) (by rfl) (fun w hS => conv_dl H32.out.1 rfl (by kernel_rfl)) ⟨HJ.out.2.2.2.1, HJ.out.2.2.2.2.1, HJ.out.2.2.1⟩ ?_
   refine hdv 4 42 (.int .i64 a1) (by rfl) (fun w hS => mul_l A1.out rfl (by kernel_rfl) (by kernel_rfl)) ⟨HJ.out.2.2.2.1, HJ.out.2.2.2.2.1, HJ.out.2.2.1⟩ ?_
   refine hdv0 5 43 (.int .i64 (k : Int)) (by rfl) ⟨HJ.out.2.2.2.1, HJ.out.2.2.2.2.1, HJ.out.2.2.1⟩ ?_
   refine hdv 6 44 (.pointer (some ⟨G5, k, none⟩)) (by rfl) (fun w hS => at_dD hlt rfl (by kernel_rfl) (by kernel_rfl)) ⟨HJ.out.2.2.2.1, HJ.out.2.2.2.2.1, HJ.out.2.2.1⟩ ?_
   refine hdv 7 45 (.int .i32 clk) (by rfl) (fun w hS => load_d rfl ((hS.2.1.cell k).trans Qcl.out) (by kernel_rfl)) ⟨HJ.out.2.2.2.1, HJ.out.2.2.2.2.1, HJ.out.2.2.1⟩ ?_
   refine hdv 8 46 (.int .i64 clk) (by rfl) (fun w hS => conv_dl H32.out.2.1 rfl (by kernel_rfl)) ⟨HJ.out.2.2.2.1, HJ.out.2.2.2.2.1, HJ.out.2.2.1⟩ ?_
   refine hdv 9 47 (.int .i64 a2) (by rfl) (fun w hS => add_l A2.out rfl (by kernel_rfl) (by kernel_rfl)) ⟨HJ.out.2.2.2.1, HJ.out.2.2.2.2.1, HJ.out.2.2.1⟩ ?_
   refine hdv0 10 48 (.int .i64 (k : Int)) (by rfl) ⟨HJ.out.2.2.2.1, HJ.out.2.2.2.2.1, HJ.out.2.2.1⟩ ?_
   refine hdv 11 49 (.pointer (some ⟨G3, k, none⟩)) (by rfl) (fun w hS => at_dD hlt rfl (by kernel_rfl) (by kernel_rfl)) ⟨HJ.out.2.2.2.1, HJ.out.2.2.2.2.1, HJ.out.2.2.1⟩ ?_
   refine hdv 12 50 (.int .i32 rk) (by rfl) (fun w hS => load_d rfl ((hS.2.2.cell k).trans Qr.out) (by kernel_rfl)) ⟨HJ.out.2.2.2.1, HJ.out.2.2.2.2.1, HJ.out.2.2.1⟩ ?_
   refine hdv 13 51 (.int .i64 rk) (by rfl) (fun w hS => conv_dl H32.out.2.2.1 rfl (by kernel_rfl)) ⟨HJ.out.2.2.2.1, HJ.out.2.2.2.2.1, HJ.out.2.2.1⟩ ?_
   refine hdv 14 52 (.int .i64 0) (by rfl) (fun w hS => sub_l A3.out rfl (by kernel_rfl) (by kernel_rfl)) ⟨HJ.out.2.2.2.1, HJ.out.2.2.2.2.1, HJ.out.2.2.1⟩ ?_
   refine hdv0 15 9 (.int .i64 0) (by rfl) ⟨HJ.out.2.2.2.1, HJ.out.2.2.2.2.1, HJ.out.2.2.1⟩ ?_
   refine wpAnyH_done (by kernel_rfl) ?_ _
   go_wp2
   refine wp_region_held_drew (S := fun w' => Row w' G6 23 (dc dh) ∧ Row w' G7 23 (dc dl) ∧ Row w' G3 23 (dc r)) (by kernel_rfl) ⟨HJ.out.2.2.2.2.2.1.drew, HJ.out.2.2.2.2.2.2.drew, HJ.out.2.2.1.drew⟩ (fun hS => ?_)
   clear hS
   obtain ⟨X25, hX25⟩ : ∃ V, V = World.drew X24 := ⟨_, rfl⟩
   rw [← hX25]
   have HK : Shh (Row X25 N 23 (dc p) ∧ Below N w X25 ∧ Row X25 G3 23 (dc r) ∧ Row X25 G4 23 (dc ch) ∧ Row X25 G5 23 (dc cl) ∧ Row X25 G6 23 (dc dh) ∧ Row X25 G7 23 (dc dl)) := by
    obtain ⟨h0, h1, h2, h3, h4, h5, h6⟩ := HJ.out
    rw [hX25]
    exact ⟨h0.drew, h1.drew, h2.drew, h3.drew, h4.drew, h5.drew, h6.drew⟩
   clear hX25 HJ
   refine hdv0 0 53 (.int .i64 (k : Int)) (by rfl) ⟨HK.out.2.2.2.2.2.1, HK.out.2.2.2.2.2.2, HK.out.2.2.1⟩ ?_
   refine hdv 1 54 (.pointer (some ⟨G6, k, none⟩)) (by rfl) (fun w hS => at_dD hlt rfl (by kernel_rfl) (by kernel_rfl)) ⟨HK.out.2.2.2.2.2.1, HK.out.2.2.2.2.2.2, HK.out.2.2.1⟩ ?_
   refine hdv 2 55 (.int .i32 dhk) (by rfl) (fun w hS => load_d rfl ((hS.1.cell k).trans Qdh.out) (by kernel_rfl)) ⟨HK.out.2.2.2.2.2.1, HK.out.2.2.2.2.2.2, HK.out.2.2.1⟩ ?_
   refine hdv 3 56 (.int .i64 dhk) (by rfl) (fun w hS => conv_dl H32.out.2.2.2.1 rfl (by kernel_rfl)) ⟨HK.out.2.2.2.2.2.1, HK.out.2.2.2.2.2.2, HK.out.2.2.1⟩ ?_
   refine hdv 4 57 (.int .i64 b1) (by rfl) (fun w hS => mul_l B1.out rfl (by kernel_rfl) (by kernel_rfl)) ⟨HK.out.2.2.2.2.2.1, HK.out.2.2.2.2.2.2, HK.out.2.2.1⟩ ?_
   refine hdv 5 58 (.int .i64 b2) (by rfl) (fun w hS => mul_l B2.out rfl (by kernel_rfl) (by kernel_rfl)) ⟨HK.out.2.2.2.2.2.1, HK.out.2.2.2.2.2.2, HK.out.2.2.1⟩ ?_
   refine hdv0 6 59 (.int .i64 (k : Int)) (by rfl) ⟨HK.out.2.2.2.2.2.1, HK.out.2.2.2.2.2.2, HK.out.2.2.1⟩ ?_
   refine hdv 7 60 (.pointer (some ⟨G7, k, none⟩)) (by rfl) (fun w hS => at_dD hlt rfl (by kernel_rfl) (by kernel_rfl)) ⟨HK.out.2.2.2.2.2.1, HK.out.2.2.2.2.2.2, HK.out.2.2.1⟩ ?_
   refine hdv 8 61 (.int .i32 dlk) (by rfl) (fun w hS => load_d rfl ((hS.2.1.cell k).trans Qdl.out) (by kernel_rfl)) ⟨HK.out.2.2.2.2.2.1, HK.out.2.2.2.2.2.2, HK.out.2.2.1⟩ ?_
   refine hdv 9 62 (.int .i64 dlk) (by rfl) (fun w hS => conv_dl H32.out.2.2.2.2 rfl (by kernel_rfl)) ⟨HK.out.2.2.2.2.2.1, HK.out.2.2.2.2.2.2, HK.out.2.2.1⟩ ?_
   refine hdv 10 63 (.int .i64 b3) (by rfl) (fun w hS => add_l B3.out rfl (by kernel_rfl) (by kernel_rfl)) ⟨HK.out.2.2.2.2.2.1, HK.out.2.2.2.2.2.2, HK.out.2.2.1⟩ ?_
   refine hdv0 11 64 (.int .i64 (k : Int)) (by rfl) ⟨HK.out.2.2.2.2.2.1, HK.out.2.2.2.2.2.2, HK.out.2.2.1⟩ ?_
   refine hdv 12 65 (.pointer (some ⟨G3, k, none⟩)) (by rfl) (fun w hS => at_dD hlt rfl (by kernel_rfl) (by kernel_rfl)) ⟨HK.out.2.2.2.2.2.1, HK.out.2.2.2.2.2.2, HK.out.2.2.1⟩ ?_
   refine hdv 13 66 (.int .i32 rk) (by rfl) (fun w hS => load_d rfl ((hS.2.2.cell k).trans Qr.out) (by kernel_rfl)) ⟨HK.out.2.2.2.2.2.1, HK.out.2.2.2.2.2.2, HK.out.2.2.1⟩ ?_
   refine hdv 14 67 (.int .i64 rk) (by rfl) (fun w hS => conv_dl H32.out.2.2.1 rfl (by kernel_rfl)) ⟨HK.out.2.2.2.2.2.1, HK.out.2.2.2.2.2.2, HK.out.2.2.1⟩ ?_
   refine hdv 15 68 (.int .i64 y) (by rfl) (fun w hS => sub_l B4.out rfl (by kernel_rfl) (by kernel_rfl)) ⟨HK.out.2.2.2.2.2.1, HK.out.2.2.2.2.2.2, HK.out.2.2.1⟩ ?_
   refine hdv0 16 10 (.int .i64 y) (by rfl) ⟨HK.out.2.2.2.2.2.1, HK.out.2.2.2.2.2.2, HK.out.2.2.1⟩ ?_
   refine wpAnyH_done (by kernel_rfl) ?_ _
   have C6 := Shh.mk ((HK.out.2.2.2.2.2.1.cell k).trans Qdh.out)
   have C4 := Shh.mk ((HK.out.2.2.2.1.cell k).trans Qch.out)
   clear A1 A2 A3 B1 B2 B3 B4 H32 Qch Qcl Qr Qdh Qdl
   rcases hy with rfl | rfl
   ·go_wp2_with (first | refine wl_atW 81 rfl (.pointer (some ⟨G6, k, none⟩)) (by kernel_rfl) (at_dD hlt rfl rfl rfl) ?_ | refine wl_atW 82 rfl (.int .i32 dhk) (by kernel_rfl) (load_d rfl C6.out rfl) ?_ | refine wl_atW 83 rfl (.bool false) (by kernel_rfl) (lss_d false L1.out.1 rfl rfl rfl) ?_ | refine wl_atW 87 rfl (.pointer (some ⟨G6, k, none⟩)) (by kernel_rfl) (at_dD hlt rfl rfl rfl) ?_ | refine wl_atW 88 rfl (.int .i32 dhk) (by kernel_rfl) (load_d rfl C6.out rfl) ?_ | refine wl_atW 89 rfl (.bool false) (by kernel_rfl) (geq_d false L1.out.2.1 rfl rfl rfl) ?_ | refine wl_atW 93 rfl (.pointer (some ⟨G4, k, none⟩)) (by kernel_rfl) (at_dD hlt rfl rfl rfl) ?_ | refine wl_atW 94 rfl (.int .i32 chk) (by kernel_rfl) (load_d rfl C4.out rfl) ?_ | refine wl_atW 95 rfl (.bool false) (by kernel_rfl) (lss_d false L1.out.2.2.1 rfl rfl rfl) ?_ | refine wl_atW 99 rfl (.pointer (some ⟨G4, k, none⟩)) (by kernel_rfl) (at_dD hlt rfl rfl rfl) ?_ | refine wl_atW 100 rfl (.int .i32 chk) (by kernel_rfl) (load_d rfl C4.out rfl) ?_ | refine wl_atW 101 rfl (.bool false) (by kernel_rfl) (gtr_d false L1.out.2.2.2 rfl rfl rfl) ?_)
    go_roundw
    case rel => exact ⟨k + 1, by omega, by go_num, HK⟩
    case measure => simp [intOf]; omega
   ·go_wp2_with (first | refine wl_atW 81 rfl (.pointer (some ⟨G6, k, none⟩)) (by kernel_rfl) (at_dD hlt rfl rfl rfl) ?_ | refine wl_atW 82 rfl (.int .i32 dhk) (by kernel_rfl) (load_d rfl C6.out rfl) ?_ | refine wl_atW 83 rfl (.bool false) (by kernel_rfl) (lss_d false L1.out.1 rfl rfl rfl) ?_ | refine wl_atW 87 rfl (.pointer (some ⟨G6, k, none⟩)) (by kernel_rfl) (at_dD hlt rfl rfl rfl) ?_ | refine wl_atW 88 rfl (.int .i32 dhk) (by kernel_rfl) (load_d rfl C6.out rfl) ?_ | refine wl_atW 89 rfl (.bool false) (by kernel_rfl) (geq_d false L1.out.2.1 rfl rfl rfl) ?_ | refine wl_atW 93 rfl (.pointer (some ⟨G4, k, none⟩)) (by kernel_rfl) (at_dD hlt rfl rfl rfl) ?_ | refine wl_atW 94 rfl (.int .i32 chk) (by kernel_rfl) (load_d rfl C4.out rfl) ?_ | refine wl_atW 95 rfl (.bool false) (by kernel_rfl) (lss_d false L1.out.2.2.1 rfl rfl rfl) ?_ | refine wl_atW 99 rfl (.pointer (some ⟨G4, k, none⟩)) (by kernel_rfl) (at_dD hlt rfl rfl rfl) ?_ | refine wl_atW 100 rfl (.int .i32 chk) (by kernel_rfl) (load_d rfl C4.out rfl) ?_ | refine wl_atW 101 rfl (.bool false) (by kernel_rfl) (gtr_d false L1.out.2.2.2 rfl rfl rfl) ?_)
    go_roundw
    case rel => exact ⟨k + 1, by omega, by go_num, HK⟩
    case measure => simp [intOf]; omega
  ·have hlt2 : ¬ (k : Int) < 256 := by omega
   go_wp2
   go_ret
   exact ⟨rfl, HI.out.2.1⟩
end Go.Proofs.Ytapjiknedghhfaa
