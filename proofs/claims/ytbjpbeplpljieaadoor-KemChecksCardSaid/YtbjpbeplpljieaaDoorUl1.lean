/-
 THE LAW KemAgrees.
-/
import Derived.Test.YtbjpbeplpljieaaDoorZM
import Derived.Test.YtbjpbeplpljieaaDoorZD
namespace Go.Proofs.YtbjpbeplpljieaaDoor
open Go.RowKit
set_option maxRecDepth 100000
set_option maxHeartbeats 8000000 in
theorem kemAgrees_no (d z m : List UInt8) (hd : d.length = 32) (hz : z.length = 32) (hm : m.length = 32) (hno : ¬ allOk (rhoB d)) (w : World) (hv : KVars w) : Calls Tryd.prog 3 #[arrV d, arrV z, arrV m] w (TrueIs w) := by
 unfold TrueIs arrV
 have hpos := hv.pos
 have HLV : Shh (∀ W, KVars W → Calls Tryd.prog 7 #[] W (TrueIs W)) := ⟨fun W hv => live14 W hv⟩
 have HKG : Shh (∀ W, KVars W → Calls Tryd.prog 6 #[.agg (Lib.byteCells d).toArray, .agg (Lib.byteCells z).toArray] W (NoKeysIs W)) := ⟨fun W hv => (KeyGen_any d z hd hz W hv).mono fun e w' h => h.2 hno⟩
 generalize hN : w.heap.size = N at *
 have FA : Shh (Row (((w.alloc (.cells (Lib.byteCells d).toArray 22)).alloc (.cells (Lib.byteCells z).toArray 22)).alloc (.cells (Lib.byteCells m).toArray 22)) N 22 (Lib.byteCells d) ∧ Row (((w.alloc (.cells (Lib.byteCells d).toArray 22)).alloc (.cells (Lib.byteCells z).toArray 22)).alloc (.cells (Lib.byteCells m).toArray 22)) (N + 1) 22 (Lib.byteCells z) ∧ Row (((w.alloc (.cells (Lib.byteCells d).toArray 22)).alloc (.cells (Lib.byteCells z).toArray 22)).alloc (.cells (Lib.byteCells m).toArray 22)) (N + 2) 22 (Lib.byteCells m) ∧ KVars (((w.alloc (.cells (Lib.byteCells d).toArray 22)).alloc (.cells (Lib.byteCells z).toArray 22)).alloc (.cells (Lib.byteCells m).toArray 22)) ∧ 0 < N ∧ Below N w (((w.alloc (.cells (Lib.byteCells d).toArray 22)).alloc (.cells (Lib.byteCells z).toArray 22)).alloc (.cells (Lib.byteCells m).toArray 22))) := by
  have b1 := Below.chain (Below.chain (bel1 w (.cells (Lib.byteCells d).toArray 22)) (bel1 _ (.cells (Lib.byteCells z).toArray 22))) (bel1 _ (.cells (Lib.byteCells m).toArray 22))
  refine ⟨((Row.new_ hN.symm rfl).alloc _).alloc _, (Row.new_ (by rw [asz, hN]) rfl).alloc _, Row.new_ (by rw [asz, asz, hN]) rfl, hv.step b1, hpos, ?_⟩
  rw [← hN]
  exact b1
 have HDL : Shh (d.length = 32 ∧ z.length = 32 ∧ m.length = 32) := ⟨hd, hz, hm⟩
 clear hd hz hm hv hpos hno
 go_enter Tryd.func3, Tryd.ntmps3
 go_wp2_with (first | refine wpList_load_any rfl 22 (.tmp 3) rfl N rfl 22 (Lib.byteCells d) _ (FA.out.1) Tryd.underlying22 rfl (size_a32 HDL.out.1) ?_ | refine wpList_load_any rfl 22 (.tmp 4) rfl (N + 1) rfl 22 (Lib.byteCells z) _ (FA.out.2.1) Tryd.underlying22 rfl (size_a32 HDL.out.2.1) ?_ | (go_at_call 6; refine (HKG.out _ FA.out.2.2.2.1).mono ?_))
 rintro e w1 ⟨rfl, b1⟩
 have FB : Shh (Row w1 N 22 (Lib.byteCells d) ∧ Row w1 (N + 1) 22 (Lib.byteCells z) ∧ Row w1 (N + 2) 22 (Lib.byteCells m) ∧ KVars w1 ∧ 0 < N ∧ Below N w w1) := by
  obtain ⟨h0, h1, h2, h3, h4, h5⟩ := FA.out
  have := h0.lt
  have := h1.lt
  have := h2.lt
  have := b1.size
  exact ⟨h0.go b1, h1.go b1, h2.go b1, h3.step b1, h4, h5.trans (b1.mono (by omega))⟩
 clear b1 FA HKG
 go_wp2_with (go_at_call 7; refine (HLV.out _ FB.out.2.2.2.1).mono ?_)
 rintro e w2 ⟨rfl, b2⟩
 have FC : Shh (Row w2 N 22 (Lib.byteCells d) ∧ Row w2 (N + 1) 22 (Lib.byteCells z) ∧ Row w2 (N + 2) 22 (Lib.byteCells m) ∧ KVars w2 ∧ 0 < N ∧ Below N w w2) := by
  obtain ⟨h0, h1, h2, h3, h4, h5⟩ := FB.out
  have := h0.lt
  have := h1.lt
  have := h2.lt
  have := b2.size
  exact ⟨h0.go b2, h1.go b2, h2.go b2, h3.step b2, h4, h5.trans (b2.mono (by omega))⟩
 clear b2 FB
 go_wp2_with (go_at_call 7; refine (HLV.out _ FC.out.2.2.2.1).mono ?_)
 rintro e w3 ⟨rfl, b3⟩
 have FD : Shh (Row w3 N 22 (Lib.byteCells d) ∧ Row w3 (N + 1) 22 (Lib.byteCells z) ∧ Row w3 (N + 2) 22 (Lib.byteCells m) ∧ KVars w3 ∧ 0 < N ∧ Below N w w3) := by
  obtain ⟨h0, h1, h2, h3, h4, h5⟩ := FC.out
  have := h0.lt
  have := h1.lt
  have := h2.lt
  have := b3.size
  exact ⟨h0.go b3, h1.go b3, h2.go b3, h3.step b3, h4, h5.trans (b3.mono (by omega))⟩
 clear b3 FC
 go_wp2
 go_ret
 exact ⟨rfl, FD.out.2.2.2.2.2⟩
set_option maxHeartbeats 8000000 in
theorem kemAgrees_yes (d z m : List UInt8) (hd : d.length = 32) (hz : z.length = 32) (hm : m.length = 32) (hok : allOk (rhoB d)) (w : World) (hv : KVars w) : Calls Tryd.prog 3 #[arrV d, arrV z, arrV m] w (TrueIs w) := by
 unfold TrueIs arrV
 have hpos := hv.pos
 have HLV : Shh (∀ W, KVars W → Calls Tryd.prog 7 #[] W (TrueIs W)) := ⟨fun W hv => live14 W hv⟩
 have HKG : Shh (∀ W, KVars W → Calls Tryd.prog 6 #[.agg (Lib.byteCells d).toArray, .agg (Lib.byteCells z).toArray] W (KeysIs W (ekB d) (dkF d z))) := ⟨fun W hv => (KeyGen_any d z hd hz W hv).mono fun e w' h => h.1 hok⟩
 have HEC : Shh (∀ W B u, Sl W B u (ekB d) → B ≤ W.heap.size → KVars W → Calls Tryd.prog 8 #[u, .agg (Lib.byteCells m).toArray] W (EncIs W (shK (ekB d) m) (shC (ekB d) m))) := ⟨fun W B u h1 h2 h3 => (Encaps_any (ekB d) (ekB_length d) (by rw [ekB_drop]; exact hok) m hm B u W h1 h2 h3).mono fun e w' h => h.1 (ekB_can d)⟩
 have HDE : Shh (∀ W B B2 u u2, Sl W B u (dkF d z) → B ≤ W.heap.size → Sl W B2 u2 (shC (ekB d) m) → B2 ≤ W.heap.size → KVars W → Calls Tryd.prog 9 #[u, u2] W (ArrErIs W (dcF (dkF d z) (shC (ekB d) m)) 0)) := ⟨fun W B B2 u u2 h1 h2 h3 h4 h5 => Decaps_ok (dkF d z) (dkF_length d z hz) (dkF_ok d z) (dkF_all d z hok) _ (shC_length _ _) B B2 u u2 W h1 h2 h3 h4 h5⟩
 have HPD : Shh (∀ W B B2 u u2, Sl W B u ((dkF d z).take 1152) → B ≤ W.heap.size → Sl W B2 u2 (shC (ekB d) m) → B2 ≤ W.heap.size → Calls Tryd.prog 10 #[u, u2] W (ArrErIs W (decE (dkB d) (shC (ekB d) m)) 0)) := ⟨fun W B B2 u u2 h1 h2 h3 h4 => by
  rw [dkF_take] at h1
  exact PkeDecrypt_ok (dkB d) (dkB_length d) _ (shC_length _ _) B B2 u u2 W h1 h2 h3 h4⟩
 have HLL : Shh ((ekB d).length = 1184 ∧ (dkF d z).length = 2400 ∧ (shC (ekB d) m).length = 1088 ∧ (shK (ekB d) m).length = 32 ∧ (dcF (dkF d z) (shC (ekB d) m)).length = 32 ∧ (decE (dkB d) (shC (ekB d) m)).length = 32) := ⟨ekB_length d, dkF_length d z hz, shC_length _ _, shK_length _ _, dcF_length _ _, decE_length _ _⟩
 have HFIN : Shh (dcF (dkF d z) (shC (ekB d) m) = shK (ekB d) m ∨ ¬ decE (dkB d) (shC (ekB d) m) = m) := by
  refine ⟨?_⟩
  by_cases h : decE (dkB d) (shC (ekB d) m) = m
  ·left
   rw [dcF_is, h, if_pos rfl]
  ·exact .inr h
 generalize dcF (dkF d z) (shC (ekB d) m) = lk at *
 generalize decE (dkB d) (shC (ekB d) m) = nm at *
 generalize shK (ekB d) m = kk at *
 generalize shC (ekB d) m = ct at *
 generalize ekB d = ek at *
 generalize dkF d z = dk at *
 have i1 : ((ct.length : Int) != 1088) = false := by have := HLL.out.2.2.1; simp; omega
 have i2 : ((dk.length : Int) != 2400) = false := by have := HLL.out.2.1; simp; omega
 have HDT : Shh (1152 ≤ dk.length) := ⟨by have := HLL.out.2.1; omega⟩
 generalize hN : w.heap.size = N at *
 have FA : Shh (Row (((w.alloc (.cells (Lib.byteCells d).toArray 22)).alloc (.cells (Lib.byteCells z).toArray 22)).alloc (.cells (Lib.byteCells m).toArray 22)) N 22 (Lib.byteCells d) ∧ Row (((w.alloc (.cells (Lib.byteCells d).toArray 22)).alloc (.cells (Lib.byteCells z).toArray 22)).alloc (.cells (Lib.byteCells m).toArray 22)) (N + 1) 22 (Lib.byteCells z) ∧ Row (((w.alloc (.cells (Lib.byteCells d).toArray 22)).alloc (.cells (Lib.byteCells z).toArray 22)).alloc (.cells (Lib.byteCells m).toArray 22)) (N + 2) 22 (Lib.byteCells m) ∧ KVars (((w.alloc (.cells (Lib.byteCells d).toArray 22)).alloc (.cells (Lib.byteCells z).toArray 22)).alloc (.cells (Lib.byteCells m).toArray 22)) ∧ 0 < N ∧ Below N w (((w.alloc (.cells (Lib.byteCells d).toArray 22)).alloc (.cells (Lib.byteCells z).toArray 22)).alloc (.cells (Lib.byteCells m).toArray 22))) := by
  have b1 := Below.chain (Below.chain (bel1 w (.cells (Lib.byteCells d).toArray 22)) (bel1 _ (.cells (Lib.byteCells z).toArray 22))) (bel1 _ (.cells (Lib.byteCells m).toArray 22))
  refine ⟨((Row.new_ hN.symm rfl).alloc _).alloc _, (Row.new_ (by rw [asz, hN]) rfl).alloc _, Row.new_ (by rw [asz, asz, hN]) rfl, hv.step b1, hpos, ?_⟩
  rw [← hN]
  exact b1
 have HDL : Shh (d.length = 32 ∧ z.length = 32 ∧ m.length = 32) := ⟨hd, hz, hm⟩
 clear hd hz hm hv hpos hok
 go_enter Tryd.func3, Tryd.ntmps3
 go_wp2_with (first | refine wpList_load_any rfl 22 (.tmp 3) rfl N rfl 22 (Lib.byteCells d) _ (FA.out.1) Tryd.underlying22 rfl (size_a32 HDL.out.1) ?_ | refine wpList_load_any rfl 22 (.tmp 4) rfl (N + 1) rfl 22 (Lib.byteCells z) _ (FA.out.2.1) Tryd.underlying22 rfl (size_a32 HDL.out.2.1) ?_ | (go_at_call 6; refine (HKG.out _ FA.out.2.2.2.1).mono ?_))
 rintro e w1 ⟨v1, v2, B1, rfl, k1, k2, k3, k4, b1⟩
 obtain ⟨g1, c1, rfl⟩ := own_some k1 (by rw [HLL.out.1]; decide)
 obtain ⟨g2, c2, rfl⟩ := own_some k2 (by rw [HLL.out.2.1]; decide)
 have FB : Shh (Row w1 N 22 (Lib.byteCells d) ∧ Row w1 (N + 1) 22 (Lib.byteCells z) ∧ Row w1 (N + 2) 22 (Lib.byteCells m) ∧ KVars w1 ∧ 0 < N ∧ Below N w w1 ∧ Sl w1 w1.heap.size (.slice (some ⟨g1, 0, none⟩) ek.length c1) (ek) ∧ Sl w1 w1.heap.size (.slice (some ⟨g2, 0, none⟩) dk.length c2) (dk)) := by
  obtain ⟨h0, h1, h2, h3, h4, h5⟩ := FA.out
  have := h0.lt
  have := h1.lt
  have := h2.lt
  have := b1.size
  exact ⟨h0.go b1, h1.go b1, h2.go b1, h3.step b1, h4, h5.trans (b1.mono (by omega)), Sl.of_own k1, Sl.of_own k2⟩
 clear b1 FA k1 k2 k3 k4 HKG
 go_wp2_with (go_at_call 7; refine (HLV.out _ FB.out.2.2.2.1).mono ?_)
 rintro e w2 ⟨rfl, b2⟩
 have FC : Shh (Row w2 N 22 (Lib.byteCells d) ∧ Row w2 (N + 1) 22 (Lib.byteCells z) ∧ Row w2 (N + 2) 22 (Lib.byteCells m) ∧ KVars w2 ∧ 0 < N ∧ Below N w w2 ∧ Sl w2 w2.heap.size (.slice (some ⟨g1, 0, none⟩) ek.length c1) (ek) ∧ Sl w2 w2.heap.size (.slice (some ⟨g2, 0, none⟩) dk.length c2) (dk)) := by
  obtain ⟨h0, h1, h2, h3, h4, h5, h6, h7⟩ := FB.out
  have := h0.lt
  have := h1.lt
  have := h2.lt
  have := b2.size
  exact ⟨h0.go b2, h1.go b2, h2.go b2, h3.step b2, h4, h5.trans (b2.mono (by omega)), h6.go b2, h7.go b2⟩
 clear b2 FB HLV
 go_wp2_with (first | refine wpList_load_any rfl 22 (.tmp 5) rfl (N + 2) rfl 22 (Lib.byteCells m) _ (FC.out.2.2.1) Tryd.underlying22 rfl (size_a32 HDL.out.2.2) ?_ | (go_at_call 8; refine (HEC.out _ _ _ (FC.out.2.2.2.2.2.2.1) (Nat.le_refl _) FC.out.2.2.2.1).mono ?_))
 rintro e w3 ⟨v3, rfl, k1, b3⟩
 obtain ⟨g3, c3, rfl⟩ := own_some k1 (by rw [HLL.out.2.2.1]; decide)
 have FD : Shh (Row w3 N 22 (Lib.byteCells d) ∧ Row w3 (N + 1) 22 (Lib.byteCells z) ∧ Row w3 (N + 2) 22 (Lib.byteCells m) ∧ KVars w3 ∧ 0 < N ∧ Below N w w3 ∧ Sl w3 w3.heap.size (.slice (some ⟨g1, 0, none⟩) ek.length c1) (ek) ∧ Sl w3 w3.heap.size (.slice (some ⟨g2, 0, none⟩) dk.length c2) (dk) ∧ Sl w3 w3.heap.size (.slice (some ⟨g3, 0, none⟩) ct.length c3) (ct)) := by
  obtain ⟨h0, h1, h2, h3, h4, h5, h6, h7⟩ := FC.out
  have := h0.lt
  have := h1.lt
  have := h2.lt
  have := b3.size
  exact ⟨h0.go b3, h1.go b3, h2.go b3, h3.step b3, h4, h5.trans (b3.mono (by omega)), h6.go b3, h7.go b3, Sl.of_own k1⟩
 clear b3 FC k1 HEC
 go_wp2_with (refine wl_new32 10 kk HLL.out.2.2.2.1 rfl rfl rfl rfl rfl rfl rfl rfl ?_)
 intro G10 w11 hG10 r12 b10
 simp only [Act.put, arr9, hd9, tl9]
 have FE : Shh (Row w11 N 22 (Lib.byteCells d) ∧ Row w11 (N + 1) 22 (Lib.byteCells z) ∧ Row w11 (N + 2) 22 (Lib.byteCells m) ∧ KVars w11 ∧ 0 < N ∧ Below N w w11 ∧ Sl w11 w11.heap.size (.slice (some ⟨g1, 0, none⟩) ek.length c1) (ek) ∧ Sl w11 w11.heap.size (.slice (some ⟨g2, 0, none⟩) dk.length c2) (dk) ∧ Sl w11 w11.heap.size (.slice (some ⟨g3, 0, none⟩) ct.length c3) (ct) ∧ Row w11 G10 22 (Lib.byteCells kk)) := by
  obtain ⟨h0, h1, h2, h3, h4, h5, h6, h7, h8⟩ := FD.out
  have := h0.lt
  have := h1.lt
  have := h2.lt
  have := b10.size
  have := hG10.out
  exact ⟨h0.go b10, h1.go b10, h2.go b10, h3.step b10, h4, h5.trans (b10.mono (by omega)), h6.go b10, h7.go b10, h8.go b10, r12⟩
 clear b10 FD r12 hG10
 go_wp2_with (go_at_call 9; refine (HDE.out _ _ _ _ _ (FE.out.2.2.2.2.2.2.2.1) (Nat.le_refl _) (FE.out.2.2.2.2.2.2.2.2.1) (Nat.le_refl _) FE.out.2.2.2.1).mono ?_)
 rintro e w4 ⟨rfl, b4⟩
 have FF : Shh (Row w4 N 22 (Lib.byteCells d) ∧ Row w4 (N + 1) 22 (Lib.byteCells z) ∧ Row w4 (N + 2) 22 (Lib.byteCells m) ∧ KVars w4 ∧ 0 < N ∧ Below N w w4 ∧ Sl w4 w4.heap.size (.slice (some ⟨g1, 0, none⟩) ek.length c1) (ek) ∧ Sl w4 w4.heap.size (.slice (some ⟨g2, 0, none⟩) dk.length c2) (dk) ∧ Sl w4 w4.heap.size (.slice (some ⟨g3, 0, none⟩) ct.length c3) (ct) ∧ Row w4 G10 22 (Lib.byteCells kk)) := by
  obtain ⟨h0, h1, h2, h3, h4, h5, h6, h7, h8, h9⟩ := FE.out
  have := h0.lt
  have := h1.lt
  have := h2.lt
  have := h9.lt
  have := b4.size
  exact ⟨h0.go b4, h1.go b4, h2.go b4, h3.step b4, h4, h5.trans (b4.mono (by omega)), h6.go b4, h7.go b4, h8.go b4, h9.go b4⟩
 clear b4 FE HDE
 go_wp2_with (refine wl_new32 12 lk HLL.out.2.2.2.2.1 rfl rfl rfl rfl rfl rfl rfl rfl ?_)
 intro G12 w14 hG12 r15 b13
 simp only [Act.put, arr9, hd9, tl9]
 have FG : Shh (Row w14 N 22 (Lib.byteCells d) ∧ Row w14 (N + 1) 22 (Lib.byteCells z) ∧ Row w14 (N + 2) 22 (Lib.byteCells m) ∧ KVars w14 ∧ 0 < N ∧ Below N w w14 ∧ Sl w14 w14.heap.size (.slice (some ⟨g1, 0, none⟩) ek.length c1) (ek) ∧ Sl w14 w14.heap.size (.slice (some ⟨g2, 0, none⟩) dk.length c2) (dk) ∧ Sl w14 w14.heap.size (.slice (some ⟨g3, 0, none⟩) ct.length c3) (ct) ∧ Row w14 G10 22 (Lib.byteCells kk) ∧ Row w14 G12 22 (Lib.byteCells lk)) := by
  obtain ⟨h0, h1, h2, h3, h4, h5, h6, h7, h8, h9⟩ := FF.out
  have := h0.lt
  have := h1.lt
  have := h2.lt
  have := h9.lt
  have := b13.size
  have := hG12.out
  exact ⟨h0.go b13, h1.go b13, h2.go b13, h3.step b13, h4, h5.trans (b13.mono (by omega)), h6.go b13, h7.go b13, h8.go b13, h9.go b13, r15⟩
 clear b13 FF r15 hG12
 go_wp2_with (refine wpList_slice_to rfl (.tmp 60) (.const (.int .i64 1152)) rfl _ _ rfl dk (FG.out.2.2.2.2.2.2.2.1) 1152 rfl HDT.out ?_)
 intro v4 hv4 _
 have HV := Shh.mk hv4
 clear hv4
 go_wp2_with (go_at_call 10; refine (HPD.out _ _ _ _ _ HV.out (Nat.le_refl _) (FG.out.2.2.2.2.2.2.2.2.1) (Nat.le_refl _)).mono ?_)
 rintro e w5 ⟨rfl, b5⟩
 have FH : Shh (Row w5 N 22 (Lib.byteCells d) ∧ Row w5 (N + 1) 22 (Lib.byteCells z) ∧ Row w5 (N + 2) 22 (Lib.byteCells m) ∧ KVars w5 ∧ 0 < N ∧ Below N w w5 ∧ Sl w5 w5.heap.size (.slice (some ⟨g1, 0, none⟩) ek.length c1) (ek) ∧ Sl w5 w5.heap.size (.slice (some ⟨g2, 0, none⟩) dk.length c2) (dk) ∧ Sl w5 w5.heap.size (.slice (some ⟨g3, 0, none⟩) ct.length c3) (ct) ∧ Row w5 G10 22 (Lib.byteCells kk) ∧ Row w5 G12 22 (Lib.byteCells lk)) := by
  obtain ⟨h0, h1, h2, h3, h4, h5, h6, h7, h8, h9, h10⟩ := FG.out
  have := h0.lt
  have := h1.lt
  have := h2.lt
  have := h9.lt
  have := h10.lt
  have := b5.size
  exact ⟨h0.go b5, h1.go b5, h2.go b5, h3.step b5, h4, h5.trans (b5.mono (by omega)), h6.go b5, h7.go b5, h8.go b5, h9.go b5, h10.go b5⟩
 clear b5 FG HPD HV
 go_wp2_with (refine wl_new32 14 nm HLL.out.2.2.2.2.2 rfl rfl rfl rfl rfl rfl rfl rfl ?_)
 intro G14 w17 hG14 r18 b16
 simp only [Act.put, arr9, hd9, tl9]
 have FI : Shh (Row w17 N 22 (Lib.byteCells d) ∧ Row w17 (N + 1) 22 (Lib.byteCells z) ∧ Row w17 (N + 2) 22 (Lib.byteCells m) ∧ KVars w17 ∧ 0 < N ∧ Below N w w17 ∧ Sl w17 w17.heap.size (.slice (some ⟨g1, 0, none⟩) ek.length c1) (ek) ∧ Sl w17 w17.heap.size (.slice (some ⟨g2, 0, none⟩) dk.length c2) (dk) ∧ Sl w17 w17.heap.size (.slice (some ⟨g3, 0, none⟩) ct.length c3) (ct) ∧ Row w17 G10 22 (Lib.byteCells kk) ∧ Row w17 G12 22 (Lib.byteCells lk) ∧ Row w17 G14 22 (Lib.byteCells nm)) := by
  obtain ⟨h0, h1, h2, h3, h4, h5, h6, h7, h8, h9, h10⟩ := FH.out
  have := h0.lt
  have := h1.lt
  have := h2.lt
  have := h9.lt
  have := h10.lt
  have := b16.size
  have := hG14.out
  exact ⟨h0.go b16, h1.go b16, h2.go b16, h3.step b16, h4, h5.trans (b16.mono (by omega)), h6.go b16, h7.go b16, h8.go b16, h9.go b16, h10.go b16, r18⟩
 clear b16 FH r18 hG14
 by_cases hlk : lk = kk
 ·have HEQ : Shh (∀ W, (Op.equalIn 10000 22 (.agg (Lib.byteCells lk).toArray) (.agg (Lib.byteCells kk).toArray)).run Tryd.prog W = .ok true W) := ⟨fun W => by rw [eq32 lk kk HLL.out.2.2.2.2.1 HLL.out.2.2.2.1 W]; congr 1; simpa using hlk⟩
  clear hlk HFIN
  go_wp2_with (first | refine wl_loadW 22 (.tmp 12) rfl G12 rfl 22 (Lib.byteCells lk) _ (by kernel_rfl) (FI.out.2.2.2.2.2.2.2.2.2.2.1) Tryd.underlying22 rfl (size_a32 HLL.out.2.2.2.2.1) ?_ | refine wl_loadW 22 (.tmp 10) rfl G10 rfl 22 (Lib.byteCells kk) _ (by kernel_rfl) (FI.out.2.2.2.2.2.2.2.2.2.1) Tryd.underlying22 rfl (size_a32 HLL.out.2.2.2.1) ?_ | refine wl_eqlW 22 22 (.tmp 73) (.tmp 74) rfl (Lib.byteCells lk).toArray (Lib.byteCells kk).toArray rfl rfl (by kernel_rfl) (by kernel_rfl) true (HEQ.out _) ?_)
  go_ret
  exact ⟨rfl, FI.out.2.2.2.2.2.1⟩
 ·have HEQ : Shh (∀ W, (Op.equalIn 10000 22 (.agg (Lib.byteCells lk).toArray) (.agg (Lib.byteCells kk).toArray)).run Tryd.prog W = .ok false W) := ⟨fun W => by rw [eq32 lk kk HLL.out.2.2.2.2.1 HLL.out.2.2.2.1 W]; congr 1; simpa using hlk⟩
  have HNE : Shh (∀ W, (Op.equalIn 10000 22 (.agg (Lib.byteCells nm).toArray) (.agg (Lib.byteCells m).toArray)).run Tryd.prog W = .ok false W) := ⟨fun W => by rw [eq32 nm m HLL.out.2.2.2.2.2 HDL.out.2.2 W]; congr 1; have h := HFIN.out.resolve_left hlk; simpa using h⟩
  clear hlk HFIN
  go_wp2_with (first | refine wl_loadW 22 (.tmp 12) rfl G12 rfl 22 (Lib.byteCells lk) _ (by kernel_rfl) (FI.out.2.2.2.2.2.2.2.2.2.2.1) Tryd.underlying22 rfl (size_a32 HLL.out.2.2.2.2.1) ?_ | refine wl_loadW 22 (.tmp 10) rfl G10 rfl 22 (Lib.byteCells kk) _ (by kernel_rfl) (FI.out.2.2.2.2.2.2.2.2.2.1) Tryd.underlying22 rfl (size_a32 HLL.out.2.2.2.1) ?_ | refine wl_eqlW 22 22 (.tmp 73) (.tmp 74) rfl (Lib.byteCells lk).toArray (Lib.byteCells kk).toArray rfl rfl (by kernel_rfl) (by kernel_rfl) false (HEQ.out _) ?_ | refine wl_loadW 22 (.tmp 14) rfl G14 rfl 22 (Lib.byteCells nm) _ (by kernel_rfl) (FI.out.2.2.2.2.2.2.2.2.2.2.2) Tryd.underlying22 rfl (size_a32 HLL.out.2.2.2.2.2) ?_ | refine wl_loadW 22 (.tmp 5) rfl (N + 2) rfl 22 (Lib.byteCells m) _ (by kernel_rfl) (FI.out.2.2.1) Tryd.underlying22 rfl (size_a32 HDL.out.2.2) ?_ | refine wl_neqW 22 22 (.tmp 77) (.tmp 78) rfl (Lib.byteCells nm).toArray (Lib.byteCells m).toArray rfl rfl (by kernel_rfl) (by kernel_rfl) false (HNE.out _) ?_)
  go_ret
  exact ⟨rfl, FI.out.2.2.2.2.2.1⟩
theorem kemAgrees_law (d z m : List UInt8) (hd : d.length = 32) (hz : z.length = 32) (hm : m.length = 32) (w : World) (hv : KVars w) : Calls Tryd.prog 3 #[arrV d, arrV z, arrV m] w (TrueIs w) := by
 by_cases h : allOk (rhoB d)
 ·exact kemAgrees_yes d z m hd hz hm h w hv
 ·exact kemAgrees_no d z m hd hz hm h w hv
end Go.Proofs.YtbjpbeplpljieaaDoor
