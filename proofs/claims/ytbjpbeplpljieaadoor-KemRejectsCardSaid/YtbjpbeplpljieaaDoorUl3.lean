/-
 THE LAW KemRejects.
-/
import Derived.Test.YtbjpbeplpljieaaDoorUl2
import Derived.Test.YtbjpbeplpljieaaDoorZH
namespace Go.Proofs.YtbjpbeplpljieaaDoor
open Go.RowKit
set_option maxRecDepth 100000
set_option maxHeartbeats 16000000 in
theorem kemRejects_no (d z ct : List UInt8) (hd : d.length = 32) (hz : z.length = 32) (hno : ¬ allOk (rhoB d)) (v : Value) (w : World) (hs : Sl w w.heap.size v ct) (hv : KVars w) : Calls Tryd.prog 4 #[arrV d, arrV z, v] w (TrueIs w) := by
 unfold TrueIs arrV
 have hpos := hv.pos
 have HLV : Shh (∀ W, KVars W → Calls Tryd.prog 7 #[] W (TrueIs W)) := ⟨fun W hv => live14 W hv⟩
 have HKG : Shh (∀ W, KVars W → Calls Tryd.prog 6 #[.agg (Lib.byteCells d).toArray, .agg (Lib.byteCells z).toArray] W (NoKeysIs W)) := ⟨fun W hv => (KeyGen_any d z hd hz W hv).mono fun e w' h => h.2 hno⟩
 obtain ⟨A, c, rfl, _, _⟩ := hs.form
 generalize hN : w.heap.size = N at *
 have FA : Shh (Row ((w.alloc (.cells (Lib.byteCells d).toArray 22)).alloc (.cells (Lib.byteCells z).toArray 22)) N 22 (Lib.byteCells d) ∧ Row ((w.alloc (.cells (Lib.byteCells d).toArray 22)).alloc (.cells (Lib.byteCells z).toArray 22)) (N + 1) 22 (Lib.byteCells z) ∧ KVars ((w.alloc (.cells (Lib.byteCells d).toArray 22)).alloc (.cells (Lib.byteCells z).toArray 22)) ∧ 0 < N ∧ Below N w ((w.alloc (.cells (Lib.byteCells d).toArray 22)).alloc (.cells (Lib.byteCells z).toArray 22)) ∧ Sl ((w.alloc (.cells (Lib.byteCells d).toArray 22)).alloc (.cells (Lib.byteCells z).toArray 22)) N (.slice A ct.length c) ct) := by
  have b1 := Below.chain (bel1 w (.cells (Lib.byteCells d).toArray 22)) (bel1 _ (.cells (Lib.byteCells z).toArray 22))
  refine ⟨(Row.new_ hN.symm rfl).alloc _, Row.new_ (by rw [asz, hN]) rfl, hv.step b1, hpos, ?_, hs.below (by rw [hN] at b1; exact b1)⟩
  rw [← hN]
  exact b1
 have HDL : Shh (d.length = 32 ∧ z.length = 32) := ⟨hd, hz⟩
 clear hd hz hv hpos hno hs
 go_enter Tryd.func4, Tryd.ntmps4
 go_wp2_with (first | refine wpList_load_any rfl 22 (.tmp 3) rfl N rfl 22 (Lib.byteCells d) _ (FA.out.1) Tryd.underlying22 rfl (size_a32 HDL.out.1) ?_ | refine wpList_load_any rfl 22 (.tmp 4) rfl (N + 1) rfl 22 (Lib.byteCells z) _ (FA.out.2.1) Tryd.underlying22 rfl (size_a32 HDL.out.2) ?_ | (go_at_call 6; refine (HKG.out _ FA.out.2.2.1).mono ?_))
 rintro e w1 ⟨rfl, b1⟩
 have FB : Shh (Row w1 N 22 (Lib.byteCells d) ∧ Row w1 (N + 1) 22 (Lib.byteCells z) ∧ KVars w1 ∧ 0 < N ∧ Below N w w1 ∧ Sl w1 (N) (.slice A ct.length c) (ct)) := by
  obtain ⟨h0, h1, h2, h3, h4, h5⟩ := FA.out
  have := h0.lt
  have := h1.lt
  have := b1.size
  exact ⟨h0.go b1, h1.go b1, h2.step b1, h3, h4.trans (b1.mono (by omega)), h5.below (b1.mono (by omega))⟩
 clear b1 FA HKG
 go_wp2_with (go_at_call 7; refine (HLV.out _ FB.out.2.2.1).mono ?_)
 rintro e w2 ⟨rfl, b2⟩
 have FC : Shh (Row w2 N 22 (Lib.byteCells d) ∧ Row w2 (N + 1) 22 (Lib.byteCells z) ∧ KVars w2 ∧ 0 < N ∧ Below N w w2 ∧ Sl w2 (N) (.slice A ct.length c) (ct)) := by
  obtain ⟨h0, h1, h2, h3, h4, h5⟩ := FB.out
  have := h0.lt
  have := h1.lt
  have := b2.size
  exact ⟨h0.go b2, h1.go b2, h2.step b2, h3, h4.trans (b2.mono (by omega)), h5.below (b2.mono (by omega))⟩
 clear b2 FB
 go_wp2_with (go_at_call 7; refine (HLV.out _ FC.out.2.2.1).mono ?_)
 rintro e w3 ⟨rfl, b3⟩
 have FD : Shh (Row w3 N 22 (Lib.byteCells d) ∧ Row w3 (N + 1) 22 (Lib.byteCells z) ∧ KVars w3 ∧ 0 < N ∧ Below N w w3 ∧ Sl w3 (N) (.slice A ct.length c) (ct)) := by
  obtain ⟨h0, h1, h2, h3, h4, h5⟩ := FC.out
  have := h0.lt
  have := h1.lt
  have := b3.size
  exact ⟨h0.go b3, h1.go b3, h2.step b3, h3, h4.trans (b3.mono (by omega)), h5.below (b3.mono (by omega))⟩
 clear b3 FC
 go_wp2
 go_ret
 exact ⟨rfl, FD.out.2.2.2.2.1⟩
set_option maxHeartbeats 16000000 in
theorem kemRejects_few (d z ct : List UInt8) (hd : d.length = 32) (hz : z.length = 32) (hok : allOk (rhoB d)) (hfew : few14B [ct] = false) (v : Value) (w : World) (hs : Sl w w.heap.size v ct) (hv : KVars w) : Calls Tryd.prog 4 #[arrV d, arrV z, v] w (TrueIs w) := by
 unfold TrueIs arrV
 have hpos := hv.pos
 have HLV : Shh (∀ W, KVars W → Calls Tryd.prog 7 #[] W (TrueIs W)) := ⟨fun W hv => live14 W hv⟩
 have HKG : Shh (∀ W, KVars W → Calls Tryd.prog 6 #[.agg (Lib.byteCells d).toArray, .agg (Lib.byteCells z).toArray] W (KeysIs W (ekB d) (dkF d z))) := ⟨fun W hv => (KeyGen_any d z hd hz W hv).mono fun e w' h => h.1 hok⟩
 have HFW : Shh (∀ W u, PartsO W W.heap.size W.heap.size u [ct] → Calls Tryd.prog 11 #[u] W (BoolIs W false)) := ⟨fun W u hp => (few14_any _ _ u [ct] W hp (by simp)).mono fun e w' h => ⟨by rw [h.1, hfew], by rw [h.2]; exact Below.refl _ _⟩⟩
 have HLL : Shh ((ekB d).length = 1184 ∧ (dkF d z).length = 2400 ∧ True) := ⟨ekB_length d, dkF_length d z hz, trivial⟩
 generalize ekB d = ek at *
 generalize dkF d z = dk at *
 obtain ⟨A, c, rfl, _, _⟩ := hs.form
 generalize hN : w.heap.size = N at *
 have FA : Shh (Row ((w.alloc (.cells (Lib.byteCells d).toArray 22)).alloc (.cells (Lib.byteCells z).toArray 22)) N 22 (Lib.byteCells d) ∧ Row ((w.alloc (.cells (Lib.byteCells d).toArray 22)).alloc (.cells (Lib.byteCells z).toArray 22)) (N + 1) 22 (Lib.byteCells z) ∧ KVars ((w.alloc (.cells (Lib.byteCells d).toArray 22)).alloc (.cells (Lib.byteCells z).toArray 22)) ∧ 0 < N ∧ Below N w ((w.alloc (.cells (Lib.byteCells d).toArray 22)).alloc (.cells (Lib.byteCells z).toArray 22)) ∧ Sl ((w.alloc (.cells (Lib.byteCells d).toArray 22)).alloc (.cells (Lib.byteCells z).toArray 22)) N (.slice A ct.length c) ct) := by
  have b1 := Below.chain (bel1 w (.cells (Lib.byteCells d).toArray 22)) (bel1 _ (.cells (Lib.byteCells z).toArray 22))
  refine ⟨(Row.new_ hN.symm rfl).alloc _, Row.new_ (by rw [asz, hN]) rfl, hv.step b1, hpos, ?_, hs.below (by rw [hN] at b1; exact b1)⟩
  rw [← hN]
  exact b1
 have HDL : Shh (d.length = 32 ∧ z.length = 32) := ⟨hd, hz⟩
 clear hd hz hv hpos hok hs hfew
 go_enter Tryd.func4, Tryd.ntmps4
 go_wp2_with (first | refine wpList_load_any rfl 22 (.tmp 3) rfl N rfl 22 (Lib.byteCells d) _ (FA.out.1) Tryd.underlying22 rfl (size_a32 HDL.out.1) ?_ | refine wpList_load_any rfl 22 (.tmp 4) rfl (N + 1) rfl 22 (Lib.byteCells z) _ (FA.out.2.1) Tryd.underlying22 rfl (size_a32 HDL.out.2) ?_ | (go_at_call 6; refine (HKG.out _ FA.out.2.2.1).mono ?_))
 rintro e w1 ⟨v1, v2, B1, rfl, k1, k2, k3, k4, b1⟩
 obtain ⟨g1, c1, rfl⟩ := own_some k1 (by rw [HLL.out.1]; decide)
 obtain ⟨g2, c2, rfl⟩ := own_some k2 (by rw [HLL.out.2.1]; decide)
 have HCC : Shh (dk.length ≤ c2) := by obtain ⟨sp, _, h, _⟩ := own_row k2 (by rw [HLL.out.2.1]; decide); exact ⟨h⟩
 have FB : Shh (Row w1 N 22 (Lib.byteCells d) ∧ Row w1 (N + 1) 22 (Lib.byteCells z) ∧ KVars w1 ∧ 0 < N ∧ Below N w w1 ∧ Sl w1 (N) (.slice A ct.length c) (ct) ∧ Sl w1 w1.heap.size (.slice (some ⟨g2, 0, none⟩) dk.length c2) (dk)) := by
  obtain ⟨h0, h1, h2, h3, h4, h5⟩ := FA.out
  have := h0.lt
  have := h1.lt
  have := b1.size
  exact ⟨h0.go b1, h1.go b1, h2.step b1, h3, h4.trans (b1.mono (by omega)), h5.below (b1.mono (by omega)), Sl.of_own k2⟩
 clear b1 FA k1 k2 k3 k4 HKG
 go_wp2_with (go_at_call 7; refine (HLV.out _ FB.out.2.2.1).mono ?_)
 rintro e w2 ⟨rfl, b2⟩
 have FC : Shh (Row w2 N 22 (Lib.byteCells d) ∧ Row w2 (N + 1) 22 (Lib.byteCells z) ∧ KVars w2 ∧ 0 < N ∧ Below N w w2 ∧ Sl w2 (N) (.slice A ct.length c) (ct) ∧ Sl w2 w2.heap.size (.slice (some ⟨g2, 0, none⟩) dk.length c2) (dk)) := by
  obtain ⟨h0, h1, h2, h3, h4, h5, h6⟩ := FB.out
  have := h0.lt
  have := h1.lt
  have := b2.size
  exact ⟨h0.go b2, h1.go b2, h2.step b2, h3, h4.trans (b2.mono (by omega)), h5.below (b2.mono (by omega)), h6.go b2⟩
 clear b2 FB
 go_wp2_with (go_at_call 11; refine (HFW.out _ _ (by rw [asz]; exact parts_one rfl ((FC.out.2.2.2.2.2.1).more (Nat.le_of_lt (FC.out.1).lt)))).mono ?_)
 rintro e w3 ⟨rfl, bf⟩
 have b3 := Below.chain (bel1 w2 _) bf
 clear bf
 have FD : Shh (Row w3 N 22 (Lib.byteCells d) ∧ Row w3 (N + 1) 22 (Lib.byteCells z) ∧ KVars w3 ∧ 0 < N ∧ Below N w w3 ∧ Sl w3 (N) (.slice A ct.length c) (ct) ∧ Sl w3 w3.heap.size (.slice (some ⟨g2, 0, none⟩) dk.length c2) (dk)) := by
  obtain ⟨h0, h1, h2, h3, h4, h5, h6⟩ := FC.out
  have := h0.lt
  have := h1.lt
  have := b3.size
  exact ⟨h0.go b3, h1.go b3, h2.step b3, h3, h4.trans (b3.mono (by omega)), h5.below (b3.mono (by omega)), h6.go b3⟩
 clear b3 FC HFW
 clear HCC
 go_wp2_with (go_at_call 7; refine (HLV.out _ FD.out.2.2.1).mono ?_)
 rintro e w4 ⟨rfl, b4⟩
 have FE : Shh (Row w4 N 22 (Lib.byteCells d) ∧ Row w4 (N + 1) 22 (Lib.byteCells z) ∧ KVars w4 ∧ 0 < N ∧ Below N w w4 ∧ Sl w4 (N) (.slice A ct.length c) (ct) ∧ Sl w4 w4.heap.size (.slice (some ⟨g2, 0, none⟩) dk.length c2) (dk)) := by
  obtain ⟨h0, h1, h2, h3, h4, h5, h6⟩ := FD.out
  have := h0.lt
  have := h1.lt
  have := b4.size
  exact ⟨h0.go b4, h1.go b4, h2.step b4, h3, h4.trans (b4.mono (by omega)), h5.below (b4.mono (by omega)), h6.go b4⟩
 clear b4 FD
 go_wp2
 go_ret
 exact ⟨rfl, FE.out.2.2.2.2.1⟩
set_option maxHeartbeats 16000000 in
theorem kemRejects_len (d z ct : List UInt8) (hd : d.length = 32) (hz : z.length = 32) (hok : allOk (rhoB d)) (hfew : few14B [ct] = true) (hlen : ¬ ct.length = 1088) (v : Value) (w : World) (hs : Sl w w.heap.size v ct) (hv : KVars w) : Calls Tryd.prog 4 #[arrV d, arrV z, v] w (TrueIs w) := by
 unfold TrueIs arrV
 have hpos := hv.pos
 have HLV : Shh (∀ W, KVars W → Calls Tryd.prog 7 #[] W (TrueIs W)) := ⟨fun W hv => live14 W hv⟩
 have HKG : Shh (∀ W, KVars W → Calls Tryd.prog 6 #[.agg (Lib.byteCells d).toArray, .agg (Lib.byteCells z).toArray] W (KeysIs W (ekB d) (dkF d z))) := ⟨fun W hv => (KeyGen_any d z hd hz W hv).mono fun e w' h => h.1 hok⟩
 have HFW : Shh (∀ W u, PartsO W W.heap.size W.heap.size u [ct] → Calls Tryd.prog 11 #[u] W (BoolIs W true)) := ⟨fun W u hp => (few14_any _ _ u [ct] W hp (by simp)).mono fun e w' h => ⟨by rw [h.1, hfew], by rw [h.2]; exact Below.refl _ _⟩⟩
 have HDE : Shh (∀ W B2 u u2, Sl W W.heap.size u (dkF d z) → Sl W B2 u2 ct → B2 ≤ W.heap.size → KVars W → Calls Tryd.prog 9 #[u, u2] W (ArrErIs W z32 142)) := ⟨fun W B2 u u2 h1 h3 h4 h5 => Decaps_len (dkF d z) (dkF_length d z hz) (dkF_ok d z) ct hlen _ B2 u u2 W h1 (Nat.le_refl _) h3 h4 h5⟩
 have i1 : ((ct.length : Int) != 1088) = true := by simp; omega
 have HEQ : Shh (∀ W, (Op.equalIn 10000 22 (.agg (Lib.byteCells z32).toArray) (.agg (Lib.byteCells z32).toArray)).run Tryd.prog W = .ok true W) := ⟨fun W => by rw [eq32 z32 z32 z32_length z32_length W]; congr 1⟩
 have HLL : Shh ((ekB d).length = 1184 ∧ (dkF d z).length = 2400 ∧ True) := ⟨ekB_length d, dkF_length d z hz, trivial⟩
 generalize ekB d = ek at *
 generalize dkF d z = dk at *
 obtain ⟨A, c, rfl, _, _⟩ := hs.form
 generalize hN : w.heap.size = N at *
 have FA : Shh (Row ((w.alloc (.cells (Lib.byteCells d).toArray 22)).alloc (.cells (Lib.byteCells z).toArray 22)) N 22 (Lib.byteCells d) ∧ Row ((w.alloc (.cells (Lib.byteCells d).toArray 22)).alloc (.cells (Lib.byteCells z).toArray 22)) (N + 1) 22 (Lib.byteCells z) ∧ KVars ((w.alloc (.cells (Lib.byteCells d).toArray 22)).alloc (.cells (Lib.byteCells z).toArray 22)) ∧ 0 < N ∧ Below N w ((w.alloc (.cells (Lib.byteCells d).toArray 22)).alloc (.cells (Lib.byteCells z).toArray 22)) ∧ Sl ((w.alloc (.cells (Lib.byteCells d).toArray 22)).alloc (.cells (Lib.byteCells z).toArray 22)) N (.slice A ct.length c) ct) := by
  have b1 := Below.chain (bel1 w (.cells (Lib.byteCells d).toArray 22)) (bel1 _ (.cells (Lib.byteCells z).toArray 22))
  refine ⟨(Row.new_ hN.symm rfl).alloc _, Row.new_ (by rw [asz, hN]) rfl, hv.step b1, hpos, ?_, hs.below (by rw [hN] at b1; exact b1)⟩
  rw [← hN]
  exact b1
 have HDL : Shh (d.length = 32 ∧ z.length = 32) := ⟨hd, hz⟩
 clear hd hz hv hpos hok hs hfew hlen
 go_enter Tryd.func4, Tryd.ntmps4
 go_wp2_with (first | refine wpList_load_any rfl 22 (.tmp 3) rfl N rfl 22 (Lib.byteCells d) _ (FA.out.1) Tryd.underlying22 rfl (size_a32 HDL.out.1) ?_ | refine wpList_load_any rfl 22 (.tmp 4) rfl (N + 1) rfl 22 (Lib.byteCells z) _ (FA.out.2.1) Tryd.underlying22 rfl (size_a32 HDL.out.2) ?_ | (go_at_call 6; refine (HKG.out _ FA.out.2.2.1).mono ?_))
 rintro e w1 ⟨v1, v2, B1, rfl, k1, k2, k3, k4, b1⟩
 obtain ⟨g1, c1, rfl⟩ := own_some k1 (by rw [HLL.out.1]; decide)
 obtain ⟨g2, c2, rfl⟩ := own_some k2 (by rw [HLL.out.2.1]; decide)
 have HCC : Shh (dk.length ≤ c2) := by obtain ⟨sp, _, h, _⟩ := own_row k2 (by rw [HLL.out.2.1]; decide); exact ⟨h⟩
 have FB : Shh (Row w1 N 22 (Lib.byteCells d) ∧ Row w1 (N + 1) 22 (Lib.byteCells z) ∧ KVars w1 ∧ 0 < N ∧ Below N w w1 ∧ Sl w1 (N) (.slice A ct.length c) (ct) ∧ Sl w1 w1.heap.size (.slice (some ⟨g2, 0, none⟩) dk.length c2) (dk)) := by
  obtain ⟨h0, h1, h2, h3, h4, h5⟩ := FA.out
  have := h0.lt
  have := h1.lt
  have := b1.size
  exact ⟨h0.go b1, h1.go b1, h2.step b1, h3, h4.trans (b1.mono (by omega)), h5.below (b1.mono (by omega)), Sl.of_own k2⟩
 clear b1 FA k1 k2 k3 k4 HKG
 go_wp2_with (go_at_call 7; refine (HLV.out _ FB.out.2.2.1).mono ?_)
 rintro e w2 ⟨rfl, b2⟩
 have FC : Shh (Row w2 N 22 (Lib.byteCells d) ∧ Row w2 (N + 1) 22 (Lib.byteCells z) ∧ KVars w2 ∧ 0 < N ∧ Below N w w2 ∧ Sl w2 (N) (.slice A ct.length c) (ct) ∧ Sl w2 w2.heap.size (.slice (some ⟨g2, 0, none⟩) dk.length c2) (dk)) := by
  obtain ⟨h0, h1, h2, h3, h4, h5, h6⟩ := FB.out
  have := h0.lt
  have := h1.lt
  have := b2.size
  exact ⟨h0.go b2, h1.go b2, h2.step b2, h3, h4.trans (b2.mono (by omega)), h5.below (b2.mono (by omega)), h6.go b2⟩
 clear b2 FB
 go_wp2_with (go_at_call 11; refine (HFW.out _ _ (by rw [asz]; exact parts_one rfl ((FC.out.2.2.2.2.2.1).more (Nat.le_of_lt (FC.out.1).lt)))).mono ?_)
 rintro e w3 ⟨rfl, bf⟩
 have b3 := Below.chain (bel1 w2 _) bf
 clear bf
 have FD : Shh (Row w3 N 22 (Lib.byteCells d) ∧ Row w3 (N + 1) 22 (Lib.byteCells z) ∧ KVars w3 ∧ 0 < N ∧ Below N w w3 ∧ Sl w3 (N) (.slice A ct.length c) (ct) ∧ Sl w3 w3.heap.size (.slice (some ⟨g2, 0, none⟩) dk.length c2) (dk)) := by
  obtain ⟨h0, h1, h2, h3, h4, h5, h6⟩ := FC.out
  have := h0.lt
  have := h1.lt
  have := b3.size
  exact ⟨h0.go b3, h1.go b3, h2.step b3, h3, h4.trans (b3.mono (by omega)), h5.below (b3.mono (by omega)), h6.go b3⟩
 clear b3 FC HFW
 clear HCC HLV
 go_wp2_with (go_at_call 9; refine (HDE.out _ _ _ _ (FD.out.2.2.2.2.2.2) (FD.out.2.2.2.2.2.1) (Nat.le_of_lt (FD.out.1).lt) FD.out.2.2.1).mono ?_)
 rintro e w4 ⟨rfl, b4⟩
 have FE : Shh (Row w4 N 22 (Lib.byteCells d) ∧ Row w4 (N + 1) 22 (Lib.byteCells z) ∧ KVars w4 ∧ 0 < N ∧ Below N w w4 ∧ Sl w4 (N) (.slice A ct.length c) (ct) ∧ Sl w4 w4.heap.size (.slice (some ⟨g2, 0, none⟩) dk.length c2) (dk)) := by
  obtain ⟨h0, h1, h2, h3, h4, h5, h6⟩ := FD.out
  have := h0.lt
  have := h1.lt
  have := b4.size
  exact ⟨h0.go b4, h1.go b4, h2.step b4, h3, h4.trans (b4.mono (by omega)), h5.below (b4.mono (by omega)), h6.go b4⟩
 clear b4 FD HDE
 go_wp2_with (refine wl_new32 10 z32 z32_length rfl rfl rfl rfl rfl rfl rfl rfl ?_)
 intro G10 w11 hG10 r12 b10
 simp only [Act.put, arr9, hd9, tl9]
 have FF : Shh (Row w11 N 22 (Lib.byteCells d) ∧ Row w11 (N + 1) 22 (Lib.byteCells z) ∧ KVars w11 ∧ 0 < N ∧ Below N w w11 ∧ Sl w11 (N) (.slice A ct.length c) (ct) ∧ Sl w11 w11.heap.size (.slice (some ⟨g2, 0, none⟩) dk.length c2) (dk) ∧ Row w11 G10 22 (Lib.byteCells z32)) := by
  obtain ⟨h0, h1, h2, h3, h4, h5, h6⟩ := FE.out
  have := h0.lt
  have := h1.lt
  have := b10.size
  have := hG10.out
  exact ⟨h0.go b10, h1.go b10, h2.step b10, h3, h4.trans (b10.mono (by omega)), h5.below (b10.mono (by omega)), h6.go b10, r12⟩
 clear b10 FE r12 hG10
 go_wp2_with (first | refine wl_loadW 22 (.tmp 10) rfl G10 rfl 22 (Lib.byteCells z32) _ (by kernel_rfl) (FF.out.2.2.2.2.2.2.2) Tryd.underlying22 rfl (size_a32 z32_length) ?_ | refine wl_atW 50 rfl (.agg (Lib.byteCells z32).toArray) (by kernel_rfl) (build_a32 rfl) ?_ | refine wl_eqlW 22 22 (.tmp 49) (.tmp 50) rfl (Lib.byteCells z32).toArray (Lib.byteCells z32).toArray rfl rfl (by kernel_rfl) (by kernel_rfl) true (HEQ.out _) ?_)
 go_ret
 exact ⟨rfl, FF.out.2.2.2.2.1⟩
set_option maxHeartbeats 16000000 in
theorem kemRejects_yes (d z ct : List UInt8) (hd : d.length = 32) (hz : z.length = 32) (hok : allOk (rhoB d)) (hlen : ct.length = 1088) (v : Value) (w : World) (hs : Sl w w.heap.size v ct) (hv : KVars w) : Calls Tryd.prog 4 #[arrV d, arrV z, v] w (TrueIs w) := by
 unfold TrueIs arrV
 have hpos := hv.pos
 have HLV : Shh (∀ W, KVars W → Calls Tryd.prog 7 #[] W (TrueIs W)) := ⟨fun W hv => live14 W hv⟩
 have HKG : Shh (∀ W, KVars W → Calls Tryd.prog 6 #[.agg (Lib.byteCells d).toArray, .agg (Lib.byteCells z).toArray] W (KeysIs W (ekB d) (dkF d z))) := ⟨fun W hv => (KeyGen_any d z hd hz W hv).mono fun e w' h => h.1 hok⟩
 have hfew : few14B [ct] = true := by simp [few14B]; omega
 have HFW : Shh (∀ W u, PartsO W W.heap.size W.heap.size u [ct] → Calls Tryd.prog 11 #[u] W (BoolIs W true)) := ⟨fun W u hp => (few14_any _ _ u [ct] W hp (by simp)).mono fun e w' h => ⟨by rw [h.1, hfew], by rw [h.2]; exact Below.refl _ _⟩⟩
 have HDE : Shh (∀ W B2 u u2, Sl W W.heap.size u (dkF d z) → Sl W B2 u2 ct → B2 ≤ W.heap.size → KVars W → Calls Tryd.prog 9 #[u, u2] W (ArrErIs W (dcF (dkF d z) ct) 0)) := ⟨fun W B2 u u2 h1 h3 h4 h5 => Decaps_ok (dkF d z) (dkF_length d z hz) (dkF_ok d z) (dkF_all d z hok) ct hlen _ B2 u u2 W h1 (Nat.le_refl _) h3 h4 h5⟩
 have HPD : Shh (∀ W B2 u u2, Sl W W.heap.size u ((dkF d z).take 1152) → Sl W B2 u2 ct → B2 ≤ W.heap.size → Calls Tryd.prog 10 #[u, u2] W (ArrErIs W (decE (dkB d) ct) 0)) := ⟨fun W B2 u u2 h1 h3 h4 => by
  rw [dkF_take] at h1
  exact PkeDecrypt_ok (dkB d) (dkB_length d) ct hlen _ B2 u u2 W h1 (Nat.le_refl _) h3 h4⟩
 have HEC : Shh (∀ W u, Sl W W.heap.size u (((dkF d z).take 2336).drop 1152) → KVars W → Calls Tryd.prog 8 #[u, .agg (Lib.byteCells (decE (dkB d) ct)).toArray] W (EncIs W (shK (ekB d) (decE (dkB d) ct)) (shC (ekB d) (decE (dkB d) ct)))) := ⟨fun W u h1 h3 => by
  have e : ((dkF d z).take 2336).drop 1152 = ekB d := dkF_ek d z
  rw [e] at h1
  exact (Encaps_any (ekB d) (ekB_length d) (by rw [ekB_drop]; exact hok) (decE (dkB d) ct) (decE_length _ _) _ u W h1 (Nat.le_refl _) h3).mono fun e w' h => h.1 (ekB_can d)⟩
 have HJN : Shh (∀ W B u, PartsO W B B u [z, ct] → B ≤ W.heap.size → Calls Tryd.prog 15 #[u] W (OwnIs W (z ++ ct))) := ⟨fun W B u hp hB => by
  have h := refJoin_any B B u [z, ct] W hp hB (by simp; omega) (by simp)
  rw [show [z, ct].flatten = z ++ ct by simp] at h
  exact h⟩
 have HSH : Shh (∀ W u, Sl W W.heap.size u (z ++ ct) → Calls Tryd.prog 14 #[.int .i64 256, .int .i64 32, u] W (OwnIs W (spongeL 136 31 (z ++ ct) 32))) := ⟨fun W u h => refShake256_any 32 (by decide) _ u (z ++ ct) W h (Nat.le_refl _) (by rw [List.length_append]; omega)⟩
 have HZE : Shh (∀ W u, Sl W W.heap.size u (spongeL 136 31 (z ++ ct) 32) → Calls Tryd.prog 13 #[u] W (SumIs W (spongeL 136 31 (z ++ ct) 32))) := ⟨fun W u h => zero14_any _ (spongeL_length _ _ _ _) _ u W h (Nat.le_refl _)⟩
 have HEU : Shh (∀ W B1 B2 u u2, Sl W B1 u (shC (ekB d) (decE (dkB d) ct)) → Sl W B2 u2 ct → Calls Tryd.prog 12 #[u, u2] W (HereIs W (.bool (shC (ekB d) (decE (dkB d) ct) == ct)))) := ⟨fun W B1 B2 u u2 h1 h2 => refEqual_any B1 B2 u u2 _ ct W h1 h2⟩
 have HLL : Shh ((ekB d).length = 1184 ∧ (dkF d z).length = 2400 ∧ (shC (ekB d) (decE (dkB d) ct)).length = 1088 ∧ (shK (ekB d) (decE (dkB d) ct)).length = 32 ∧ (dcF (dkF d z) ct).length = 32 ∧ (decE (dkB d) ct).length = 32 ∧ (spongeL 136 31 (z ++ ct) 32).length = 32 ∧ (z ++ ct).length = 1120) := ⟨ekB_length d, dkF_length d z hz, shC_length _ _, shK_length _ _, dcF_length _ _, decE_length _ _, spongeL_length _ _ _ _, by rw [List.length_append]; omega⟩
 have HFIN : Shh (dcF (dkF d z) ct = if shC (ekB d) (decE (dkB d) ct) = ct then shK (ekB d) (decE (dkB d) ct) else spongeL 136 31 (z ++ ct) 32) := ⟨dcF_is d z ct⟩
 generalize dcF (dkF d z) ct = lk at *
 generalize shK (ekB d) (decE (dkB d) ct) = kk at *
 generalize shC (ekB d) (decE (dkB d) ct) = ag at *
 generalize decE (dkB d) ct = mm at *
 generalize spongeL 136 31 (z ++ ct) 32 = rej at *
 obtain ⟨zc, hzc⟩ : ∃ l, l = z ++ ct := ⟨_, rfl⟩
 rw [← hzc] at HJN HSH HLL
 generalize ekB d = ek at *
 generalize dkF d z = dk at *
 have i1 : ((ct.length : Int) != 1088) = false := by simp; omega
 have i2 : ((dk.length : Int) != 2400) = false := by have := HLL.out.2.1; simp; omega
 have HDT : Shh (1152 ≤ dk.length ∧ 2336 ≤ dk.length) := ⟨by have := HLL.out.2.1; omega, by have := HLL.out.2.1; omega⟩
 obtain ⟨A, c, rfl, _, _⟩ := hs.form
 generalize hN : w.heap.size = N at *
 have FA : Shh (Row ((w.alloc (.cells (Lib.byteCells d).toArray 22)).alloc (.cells (Lib.byteCells z).toArray 22)) N 22 (Lib.byteCells d) ∧ Row ((w.alloc (.cells (Lib.byteCells d).toArray 22)).alloc (.cells (Lib.byteCells z).toArray 22)) (N + 1) 22 (Lib.byteCells z) ∧ KVars ((w.alloc (.cells (Lib.byteCells d).toArray 22)).alloc (.cells (Lib.byteCells z).toArray 22)) ∧ 0 < N ∧ Below N w ((w.alloc (.cells (Lib.byteCells d).toArray 22)).alloc (.cells (Lib.byteCells z).toArray 22)) ∧ Sl ((w.alloc (.cells (Lib.byteCells d).toArray 22)).alloc (.cells (Lib.byteCells z).toArray 22)) N (.slice A ct.length c) ct) := by
  have b1 := Below.chain (bel1 w (.cells (Lib.byteCells d).toArray 22)) (bel1 _ (.cells (Lib.byteCells z).toArray 22))
  refine ⟨(Row.new_ hN.symm rfl).alloc _, Row.new_ (by rw [asz, hN]) rfl, hv.step b1, hpos, ?_, hs.below (by rw [hN] at b1; exact b1)⟩
  rw [← hN]
  exact b1
 have HDL : Shh (d.length = 32 ∧ z.length = 32) := ⟨hd, hz⟩
 clear hd hz hv hpos hok hs hfew hlen hzc
 go_enter Tryd.func4, Tryd.ntmps4
 go_wp2_with (first | refine wpList_load_any rfl 22 (.tmp 3) rfl N rfl 22 (Lib.byteCells d) _ (FA.out.1) Tryd.underlying22 rfl (size_a32 HDL.out.1) ?_ | refine wpList_load_any rfl 22 (.tmp 4) rfl (N + 1) rfl 22 (Lib.byteCells z) _ (FA.out.2.1) Tryd.underlying22 rfl (size_a32 HDL.out.2) ?_ | (go_at_call 6; refine (HKG.out _ FA.out.2.2.1).mono ?_))
 rintro e w1 ⟨v1, v2, B1, rfl, k1, k2, k3, k4, b1⟩
 obtain ⟨g1, c1, rfl⟩ := own_some k1 (by rw [HLL.out.1]; decide)
 obtain ⟨g2, c2, rfl⟩ := own_some k2 (by rw [HLL.out.2.1]; decide)
 have HCC : Shh (dk.length ≤ c2) := by obtain ⟨sp, _, h, _⟩ := own_row k2 (by rw [HLL.out.2.1]; decide); exact ⟨h⟩
 have FB : Shh (Row w1 N 22 (Lib.byteCells d) ∧ Row w1 (N + 1) 22 (Lib.byteCells z) ∧ KVars w1 ∧ 0 < N ∧ Below N w w1 ∧ Sl w1 (N) (.slice A ct.length c) (ct) ∧ Sl w1 w1.heap.size (.slice (some ⟨g2, 0, none⟩) dk.length c2) (dk)) := by
  obtain ⟨h0, h1, h2, h3, h4, h5⟩ := FA.out
  have := h0.lt
  have := h1.lt
  have := b1.size
  exact ⟨h0.go b1, h1.go b1, h2.step b1, h3, h4.trans (b1.mono (by omega)), h5.below (b1.mono (by omega)), Sl.of_own k2⟩
 clear b1 FA k1 k2 k3 k4 HKG
 go_wp2_with (go_at_call 7; refine (HLV.out _ FB.out.2.2.1).mono ?_)
 rintro e w2 ⟨rfl, b2⟩
 have FC : Shh (Row w2 N 22 (Lib.byteCells d) ∧ Row w2 (N + 1) 22 (Lib.byteCells z) ∧ KVars w2 ∧ 0 < N ∧ Below N w w2 ∧ Sl w2 (N) (.slice A ct.length c) (ct) ∧ Sl w2 w2.heap.size (.slice (some ⟨g2, 0, none⟩) dk.length c2) (dk)) := by
  obtain ⟨h0, h1, h2, h3, h4, h5, h6⟩ := FB.out
  have := h0.lt
  have := h1.lt
  have := b2.size
  exact ⟨h0.go b2, h1.go b2, h2.step b2, h3, h4.trans (b2.mono (by omega)), h5.below (b2.mono (by omega)), h6.go b2⟩
 clear b2 FB
 go_wp2_with (go_at_call 11; refine (HFW.out _ _ (by rw [asz]; exact parts_one rfl ((FC.out.2.2.2.2.2.1).more (Nat.le_of_lt (FC.out.1).lt)))).mono ?_)
 rintro e w3 ⟨rfl, bf⟩
 have b3 := Below.chain (bel1 w2 _) bf
 clear bf
 have FD : Shh (Row w3 N 22 (Lib.byteCells d) ∧ Row w3 (N + 1) 22 (Lib.byteCells z) ∧ KVars w3 ∧ 0 < N ∧ Below N w w3 ∧ Sl w3 (N) (.slice A ct.length c) (ct) ∧ Sl w3 w3.heap.size (.slice (some ⟨g2, 0, none⟩) dk.length c2) (dk)) := by
  obtain ⟨h0, h1, h2, h3, h4, h5, h6⟩ := FC.out
  have := h0.lt
  have := h1.lt
  have := b3.size
  exact ⟨h0.go b3, h1.go b3, h2.step b3, h3, h4.trans (b3.mono (by omega)), h5.below (b3.mono (by omega)), h6.go b3⟩
 clear b3 FC HFW
 clear HLV
 go_wp2_with (go_at_call 9; refine (HDE.out _ _ _ _ (FD.out.2.2.2.2.2.2) (FD.out.2.2.2.2.2.1) (Nat.le_of_lt (FD.out.1).lt) FD.out.2.2.1).mono ?_)
 rintro e w4 ⟨rfl, b4⟩
 have FE : Shh (Row w4 N 22 (Lib.byteCells d) ∧ Row w4 (N + 1) 22 (Lib.byteCells z) ∧ KVars w4 ∧ 0 < N ∧ Below N w w4 ∧ Sl w4 (N) (.slice A ct.length c) (ct) ∧ Sl w4 w4.heap.size (.slice (some ⟨g2, 0, none⟩) dk.length c2) (dk)) := by
  obtain ⟨h0, h1, h2, h3, h4, h5, h6⟩ := FD.out
  have := h0.lt
  have := h1.lt
  have := b4.size
  exact ⟨h0.go b4, h1.go b4, h2.step b4, h3, h4.trans (b4.mono (by omega)), h5.below (b4.mono (by omega)), h6.go b4⟩
 clear b4 FD HDE
 go_wp2_with (refine wl_new32 10 lk HLL.out.2.2.2.2.1 rfl rfl rfl rfl rfl rfl rfl rfl ?_)
 intro G10 w11 hG10 r12 b10
 simp only [Act.put, arr9, hd9, tl9]
 have FF : Shh (Row w11 N 22 (Lib.byteCells d) ∧ Row w11 (N + 1) 22 (Lib.byteCells z) ∧ KVars w11 ∧ 0 < N ∧ Below N w w11 ∧ Sl w11 (N) (.slice A ct.length c) (ct) ∧ Sl w11 w11.heap.size (.slice (some ⟨g2, 0, none⟩) dk.length c2) (dk) ∧ Row w11 G10 22 (Lib.byteCells lk)) := by
  obtain ⟨h0, h1, h2, h3, h4, h5, h6⟩ := FE.out
  have := h0.lt
  have := h1.lt
  have := b10.size
  have := hG10.out
  exact ⟨h0.go b10, h1.go b10, h2.step b10, h3, h4.trans (b10.mono (by omega)), h5.below (b10.mono (by omega)), h6.go b10, r12⟩
 clear b10 FE r12 hG10
 go_wp2_with (refine wpList_slice_to rfl (.tmp 61) (.const (.int .i64 1152)) rfl _ _ rfl dk (FF.out.2.2.2.2.2.2.1) 1152 rfl HDT.out.1 ?_)
 intro v4 hv4 _
 have HV := Shh.mk hv4
 clear hv4
 go_wp2_with (go_at_call 10; refine (HPD.out _ _ _ _ HV.out (FF.out.2.2.2.2.2.1) (Nat.le_of_lt (FF.out.1).lt)).mono ?_)
 rintro e w5 ⟨rfl, b5⟩
 have FG : Shh (Row w5 N 22 (Lib.byteCells d) ∧ Row w5 (N + 1) 22 (Lib.byteCells z) ∧ KVars w5 ∧ 0 < N ∧ Below N w w5 ∧ Sl w5 (N) (.slice A ct.length c) (ct) ∧ Sl w5 w5.heap.size (.slice (some ⟨g2, 0, none⟩) dk.length c2) (dk) ∧ Row w5 G10 22 (Lib.byteCells lk)) := by
  obtain ⟨h0, h1, h2, h3, h4, h5, h6, h7⟩ := FF.out
  have := h0.lt
  have := h1.lt
  have := h7.lt
  have := b5.size
  exact ⟨h0.go b5, h1.go b5, h2.step b5, h3, h4.trans (b5.mono (by omega)), h5.below (b5.mono (by omega)), h6.go b5, h7.go b5⟩
 clear b5 FF HPD HV
 go_wp2_with (refine wl_new32 12 mm HLL.out.2.2.2.2.2.1 rfl rfl rfl rfl rfl rfl rfl rfl ?_)
 intro G12 w14 hG12 r15 b13
 simp only [Act.put, arr9, hd9, tl9]
 have FH : Shh (Row w14 N 22 (Lib.byteCells d) ∧ Row w14 (N + 1) 22 (Lib.byteCells z) ∧ KVars w14 ∧ 0 < N ∧ Below N w w14 ∧ Sl w14 (N) (.slice A ct.length c) (ct) ∧ Sl w14 w14.heap.size (.slice (some ⟨g2, 0, none⟩) dk.length c2) (dk) ∧ Row w14 G10 22 (Lib.byteCells lk) ∧ Row w14 G12 22 (Lib.byteCells mm)) := by
  obtain ⟨h0, h1, h2, h3, h4, h5, h6, h7⟩ := FG.out
  have := h0.lt
  have := h1.lt
  have := h7.lt
  have := b13.size
  have := hG12.out
  exact ⟨h0.go b13, h1.go b13, h2.step b13, h3, h4.trans (b13.mono (by omega)), h5.below (b13.mono (by omega)), h6.go b13, h7.go b13, r15⟩
 clear b13 FG r15 hG12
 obtain ⟨VE, HVE⟩ : ∃ v, Shh ((∀ w, (Instr.sliceAt 23 (.slice (some ⟨g2, 0, none⟩) dk.length c2) (some (.int .i64 ((1152 : Nat) : Int))) (some (.int .i64 ((2336 : Nat) : Int))) none).run Tryd.prog w = .ok v w) ∧ ∀ W B, Sl W B (.slice (some ⟨g2, 0, none⟩) dk.length c2) dk → Sl W B v ((dk.take 2336).drop 1152)) := ⟨sliced (some ⟨g2, 0, none⟩) 1152 2336 c2 1, ⟨fun w => run_cutLH (some ⟨g2, 0, none⟩) dk.length c2 1152 2336 (by decide) (Nat.le_trans HDT.out.2 HCC.out) w, fun W B h => h.cut 1152 2336 (by decide) HDT.out.2 (by have := HCC.out; have := HDT.out.2; omega)⟩⟩
 go_wp2
 refine wp_region_held_drew (S := fun w' => Row w' G12 22 (Lib.byteCells mm)) (by kernel_rfl) FH.out.2.2.2.2.2.2.2.2.drew (fun hS => ?_)
 clear hS
 obtain ⟨X16, hX16⟩ : ∃ V, V = World.drew w14 := ⟨_, rfl⟩
 rw [← hX16]
 have FI : Shh (Row X16 N 22 (Lib.byteCells d) ∧ Row X16 (N + 1) 22 (Lib.byteCells z) ∧ KVars X16 ∧ 0 < N ∧ Below N w X16 ∧ Sl X16 (N) (.slice A ct.length c) (ct) ∧ Sl X16 X16.heap.size (.slice (some ⟨g2, 0, none⟩) dk.length c2) (dk) ∧ Row X16 G10 22 (Lib.byteCells lk) ∧ Row X16 G12 22 (Lib.byteCells mm)) := by
  obtain ⟨h0, h1, h2, h3, h4, h5, h6, h7, h8⟩ := FH.out
  rw [hX16]
  exact ⟨h0.drew, h1.drew, h2.drew, h3, h4.drew, h5.drew, h6.drew, h7.drew, h8.drew⟩
 clear hX16 FH
 refine share (T := ?T1) (fun hT => ?gg1) ?tt1
 case gg1 =>
  have FJ : Shh (Below X16.heap.size X16 X16) := ⟨Below.refl _ _⟩
  refine hdv0 0 68 (.slice (some ⟨g2, 0, none⟩) dk.length c2) (by rfl) (Row.go FI.out.2.2.2.2.2.2.2.2 FJ.out) ?_
  refine hdv 1 69 (VE) (by rfl) (fun w hS => run_slice_op2 (by first | exact ⟨rfl, rfl, rfl⟩ | (refine ⟨?_, ?_, ?_⟩ <;> kernel_rfl)) (HVE.out.1 w)) (Row.go FI.out.2.2.2.2.2.2.2.2 FJ.out) ?_
  refine held_load 2 22 (.tmp 12) (some 70) (by kernel_rfl) (by rfl) (by kernel_rfl) (G12) 0 (by kernel_rfl) (Lib.byteCells mm) _ (fun w h => h.range) Tryd.underlying22 rfl (size_a32 HLL.out.2.2.2.2.2.1) (fun _ _ _ _ h => h) (Row.go FI.out.2.2.2.2.2.2.2.2 FJ.out) ?_
  simp only [Act.put, arr9, hd9, tl9]
  refine held_two 3 8 (by kernel_rfl) ?_ ?_
  ·refine step_call 3 _ _ (some 71) 8 #[VE, .agg (Lib.byteCells mm).toArray] (by rfl) (by kernel_rfl) (by first | kernel_rfl | go_simp) ?_
   refine (HEC.out X16 _ (HVE.out.2 _ _ (FI.out.2.2.2.2.2.2.1.go FJ.out)) (FI.out.2.2.1.step FJ.out)).mono ?_
   rintro e w18 ⟨u, rfl, hu, b17⟩
   obtain ⟨gu, ca, rfl⟩ := own_some hu (by rw [HLL.out.2.2.1]; decide)
   obtain ⟨sa, k5, k6, k7, k8⟩ := own_row hu (by rw [HLL.out.2.2.1]; decide)
   have FK : Shh (Below X16.heap.size X16 w18 ∧ Row w18 gu 5 (Lib.byteCells ag ++ sa) ∧ (ag.length ≤ ca ∧ ca ≤ maxLen) ∧ X16.heap.size ≤ gu) := by
    have h0 := FJ.out
    have := b17.size
    have := h0.size
    exact ⟨Below.chain h0 b17, k5, ⟨k6, k7⟩, (by omega)⟩
   clear b17 FJ hu k5 k6 k7 k8
   refine ⟨_, rfl, (Row.go FI.out.2.2.2.2.2.2.2.2 FK.out.1), ?_⟩
   simp only [Act.put, arr9, hd9, tl9]
   refine hdv0 4 67 (.tuple #[.agg (Lib.byteCells kk).toArray, .slice (some ⟨gu, 0, none⟩) ag.length ca, .int .i64 0]) (by rfl) (Row.go FI.out.2.2.2.2.2.2.2.2 FK.out.1) ?_
   refine hdv0 5 72 (.agg (Lib.byteCells kk).toArray) (by rfl) (Row.go FI.out.2.2.2.2.2.2.2.2 FK.out.1) ?_
   refine hdv0 6 73 (.slice (some ⟨gu, 0, none⟩) ag.length ca) (by rfl) (Row.go FI.out.2.2.2.2.2.2.2.2 FK.out.1) ?_
   refine hdv0 7 74 (.int .i64 0) (by rfl) (Row.go FI.out.2.2.2.2.2.2.2.2 FK.out.1) ?_
   refine held_one 8 (by kernel_rfl) ?_
   refine step_zero32 8 14 (by rfl) (by kernel_rfl) ?_
   intro G14 w20 hG14 r21 b19
   have FL : Shh (Below X16.heap.size X16 w20 ∧ Row w20 gu 5 (Lib.byteCells ag ++ sa) ∧ (ag.length ≤ ca ∧ ca ≤ maxLen) ∧ X16.heap.size ≤ gu ∧ Row w20 G14 22 (Lib.byteCells z32) ∧ X16.heap.size ≤ G14 ∧ ¬ gu = G14) := by
    obtain ⟨h0, h1, h2, h3⟩ := FK.out
    have := h1.lt
    have := b19.size
    have := h0.size
    have := hG14.out
    exact ⟨Below.chain h0 b19, h1.go b19, h2, h3, r21, (by omega), (by omega)⟩
   clear b19 FK r21 hG14
   refine ⟨(Row.go FI.out.2.2.2.2.2.2.2.2 FL.out.1), ?_⟩
   simp only [Act.put, arr9, hd9, tl9]
   refine held_one 9 (by kernel_rfl) ?_
   refine step_storeRow 9 22 (.tmp 14) (.tmp 72) (by rfl) (by kernel_rfl) G14 rfl (Lib.byteCells kk) rfl 22 (Lib.byteCells z32) (FL.out.2.2.2.2.1) (size_a32 HLL.out.2.2.2.1) (by rw [Lib.byteCells_length, Lib.byteCells_length, HLL.out.2.2.2.1, z32_length]) (cell_oneCell _) ?_
   intro w23 r24 bt22 zbt22
   have FM : Shh (Below X16.heap.size X16 w23 ∧ Row w23 gu 5 (Lib.byteCells ag ++ sa) ∧ (ag.length ≤ ca ∧ ca ≤ maxLen) ∧ X16.heap.size ≤ gu ∧ Row w23 G14 22 (Lib.byteCells kk) ∧ X16.heap.size ≤ G14 ∧ ¬ gu = G14) := by
    obtain ⟨h0, h1, h2, h3, h4, h5, h6⟩ := FL.out
    have := h1.lt
    have := h4.lt
    have := h0.size
    have hb := bt22.under (Nat.le_of_lt h4.lt) (Nat.le_refl _)
    have := hb.size
    exact ⟨h0.trans (bt22.under (by omega) (by omega)), bt22.row h1 h1.lt (by omega), h2, h3, r24, h5, h6⟩
   clear bt22 FL r24 zbt22
   refine ⟨(Row.go FI.out.2.2.2.2.2.2.2.2 FM.out.1), ?_⟩
   refine hdv0 10 15 (.slice (some ⟨gu, 0, none⟩) ag.length ca) (by rfl) (Row.go FI.out.2.2.2.2.2.2.2.2 FM.out.1) ?_
   refine hdv0 11 16 (.int .i64 0) (by rfl) (Row.go FI.out.2.2.2.2.2.2.2.2 FM.out.1) ?_
   refine wpAnyH_done (by kernel_rfl) ?_ _
   have HZ : Shh (Row w23 N 22 (Lib.byteCells d) ∧ Row w23 (N + 1) 22 (Lib.byteCells z) ∧ KVars w23 ∧ 0 < N ∧ Below N w w23 ∧ Sl w23 (N) (.slice A ct.length c) (ct) ∧ Sl w23 w23.heap.size (.slice (some ⟨g2, 0, none⟩) dk.length c2) (dk) ∧ Row w23 G10 22 (Lib.byteCells lk) ∧ Row w23 G12 22 (Lib.byteCells mm) ∧ Row w23 G14 22 (Lib.byteCells kk) ∧ Row w23 gu 5 (Lib.byteCells ag ++ sa) ∧ (ag.length ≤ ca ∧ ca ≤ maxLen)) := by
    obtain ⟨h0, h1, h2, h3, h4, h5, h6, h7, h8⟩ := FI.out
    obtain ⟨d0, d1, d2, d3, d4, d5, d6⟩ := FM.out
    have := h0.lt
    have := h1.lt
    have := h7.lt
    have := h8.lt
    have := d1.lt
    have := d4.lt
    have := d0.size
    exact ⟨h0.go d0, h1.go d0, h2.step d0, h3, h4.trans (d0.mono (by omega)), h5.below (d0.mono (by omega)), h6.go d0, h7.go d0, h8.go d0, d4, d1, d2⟩
   clear FM
   revert HZ
   revert w23
   revert G14
   revert sa
   revert ca
   revert gu
   exact hT.out
  ·refine step_zero32 8 14 (by rfl) (by kernel_rfl) ?_
   intro G14 w18 hG14 r19 b17
   have FK : Shh (Below X16.heap.size X16 w18 ∧ Row w18 G14 22 (Lib.byteCells z32) ∧ X16.heap.size ≤ G14 ∧ X16.heap.size ≤ G14) := by
    have h0 := FJ.out
    have := b17.size
    have := h0.size
    have := hG14.out
    exact ⟨Below.chain h0 b17, r19, (by omega), (by omega)⟩
   clear b17 FJ r19 hG14
   refine ⟨(Row.go FI.out.2.2.2.2.2.2.2.2 FK.out.1), ?_⟩
   simp only [Act.put, arr9, hd9, tl9]
   refine held_one 3 (by kernel_rfl) ?_
   refine step_call 3 _ _ (some 71) 8 #[VE, .agg (Lib.byteCells mm).toArray] (by rfl) (by kernel_rfl) (by first | kernel_rfl | go_simp) ?_
   refine (HEC.out w18 _ (HVE.out.2 _ _ (FI.out.2.2.2.2.2.2.1.go FK.out.1)) (FI.out.2.2.1.step FK.out.1)).mono ?_
   rintro e w21 ⟨u, rfl, hu, b20⟩
   obtain ⟨gu, ca, rfl⟩ := own_some hu (by rw [HLL.out.2.2.1]; decide)
   obtain ⟨sa, k5, k6, k7, k8⟩ := own_row hu (by rw [HLL.out.2.2.1]; decide)
   have FL : Shh (Below X16.heap.size X16 w21 ∧ Row w21 G14 22 (Lib.byteCells z32) ∧ X16.heap.size ≤ G14 ∧ X16.heap.size ≤ G14 ∧ Row w21 gu 5 (Lib.byteCells ag ++ sa) ∧ (ag.length ≤ ca ∧ ca ≤ maxLen) ∧ X16.heap.size ≤ gu ∧ ¬ gu = G14) := by
    obtain ⟨h0, h1, h2, h3⟩ := FK.out
    have := h1.lt
    have := b20.size
    have := h0.size
    exact ⟨Below.chain h0 b20, h1.go b20, h2, h3, k5, ⟨k6, k7⟩, (by omega), (by omega)⟩
   clear b20 FK hu k5 k6 k7 k8
   refine ⟨_, rfl, (Row.go FI.out.2.2.2.2.2.2.2.2 FL.out.1), ?_⟩
   simp only [Act.put, arr9, hd9, tl9]
   refine hdv0 4 67 (.tuple #[.agg (Lib.byteCells kk).toArray, .slice (some ⟨gu, 0, none⟩) ag.length ca, .int .i64 0]) (by rfl) (Row.go FI.out.2.2.2.2.2.2.2.2 FL.out.1) ?_
   refine hdv0 5 72 (.agg (Lib.byteCells kk).toArray) (by rfl) (Row.go FI.out.2.2.2.2.2.2.2.2 FL.out.1) ?_
   refine hdv0 6 73 (.slice (some ⟨gu, 0, none⟩) ag.length ca) (by rfl) (Row.go FI.out.2.2.2.2.2.2.2.2 FL.out.1) ?_
   refine hdv0 7 74 (.int .i64 0) (by rfl) (Row.go FI.out.2.2.2.2.2.2.2.2 FL.out.1) ?_
   refine held_one 9 (by kernel_rfl) ?_
   refine step_storeRow 9 22 (.tmp 14) (.tmp 72) (by rfl) (by kernel_rfl) G14 rfl (Lib.byteCells kk) rfl 22 (Lib.byteCells z32) (FL.out.2.1) (size_a32 HLL.out.2.2.2.1) (by rw [Lib.byteCells_length, Lib.byteCells_length, HLL.out.2.2.2.1, z32_length]) (cell_oneCell _) ?_
   intro w23 r24 bt22 zbt22
   have FM : Shh (Below X16.heap.size X16 w23 ∧ Row w23 G14 22 (Lib.byteCells kk) ∧ X16.heap.size ≤ G14 ∧ X16.heap.size ≤ G14 ∧ Row w23 gu 5 (Lib.byteCells ag ++ sa) ∧ (ag.length ≤ ca ∧ ca ≤ maxLen) ∧ X16.heap.size ≤ gu ∧ ¬ gu = G14) := by
    obtain ⟨h0, h1, h2, h3, h4, h5, h6, h7⟩ := FL.out
    have := h1.lt
    have := h4.lt
    have := h0.size
    have hb := bt22.under (Nat.le_of_lt h1.lt) (Nat.le_refl _)
    have := hb.size
    exact ⟨h0.trans (bt22.under (by omega) (by omega)), r24, h2, h3, bt22.row h4 h4.lt (by omega), h5, h6, h7⟩
   clear bt22 FL r24 zbt22
   refine ⟨(Row.go FI.out.2.2.2.2.2.2.2.2 FM.out.1), ?_⟩
   refine hdv0 10 15 (.slice (some ⟨gu, 0, none⟩) ag.length ca) (by rfl) (Row.go FI.out.2.2.2.2.2.2.2.2 FM.out.1) ?_
   refine hdv0 11 16 (.int .i64 0) (by rfl) (Row.go FI.out.2.2.2.2.2.2.2.2 FM.out.1) ?_
   refine wpAnyH_done (by kernel_rfl) ?_ _
   have HZ : Shh (Row w23 N 22 (Lib.byteCells d) ∧ Row w23 (N + 1) 22 (Lib.byteCells z) ∧ KVars w23 ∧ 0 < N ∧ Below N w w23 ∧ Sl w23 (N) (.slice A ct.length c) (ct) ∧ Sl w23 w23.heap.size (.slice (some ⟨g2, 0, none⟩) dk.length c2) (dk) ∧ Row w23 G10 22 (Lib.byteCells lk) ∧ Row w23 G12 22 (Lib.byteCells mm) ∧ Row w23 G14 22 (Lib.byteCells kk) ∧ Row w23 gu 5 (Lib.byteCells ag ++ sa) ∧ (ag.length ≤ ca ∧ ca ≤ maxLen)) := by
    obtain ⟨h0, h1, h2, h3, h4, h5, h6, h7, h8⟩ := FI.out
    obtain ⟨d0, d1, d2, d3, d4, d5, d6, d7⟩ := FM.out
    have := h0.lt
    have := h1.lt
    have := h7.lt
    have := h8.lt
    have := d1.lt
    have := d4.lt
    have := d0.size
    exact ⟨h0.go d0, h1.go d0, h2.step d0, h3, h4.trans (d0.mono (by omega)), h5.below (d0.mono (by omega)), h6.go d0, h7.go d0, h8.go d0, d1, d4, d5⟩
   clear FM
   revert HZ
   revert w23
   revert G14
   revert sa
   revert ca
   revert gu
   exact hT.out
 case tt1 =>
  clear FI
  intro gu ca sa G14 X5 FA
  clear HEC HVE
  by_cases hag : ag = ct
  ·have hb : (ag == ct) = true := by simpa using hag
   rw [hb] at HEU
   have HK : Shh (lk = kk) := ⟨by have := HFIN.out; rw [if_pos hag] at this; exact this⟩
   have HEQ : Shh (∀ W, (Op.equalIn 10000 22 (.agg (Lib.byteCells lk).toArray) (.agg (Lib.byteCells kk).toArray)).run Tryd.prog W = .ok true W) := ⟨fun W => by rw [eq32 lk kk HLL.out.2.2.2.2.1 HLL.out.2.2.2.1 W]; congr 1; simpa using HK.out⟩
   clear hag hb HFIN HK
   go_wp2_with (go_at_call 12; refine (HEU.out _ _ _ _ _ (sl_row (FA.out.2.2.2.2.2.2.2.2.2.2.1) (FA.out.2.2.2.2.2.2.2.2.2.2.2).1 (FA.out.2.2.2.2.2.2.2.2.2.2.2).2) (FA.out.2.2.2.2.2.1)).mono ?_)
   rintro e w6 ⟨rfl, hq⟩
   obtain rfl : X5 = w6 := hq
   go_wp2_with (first | refine wpList_load_any rfl 22 (.tmp 10) rfl G10 rfl 22 (Lib.byteCells lk) _ (FA.out.2.2.2.2.2.2.2.1) Tryd.underlying22 rfl (size_a32 HLL.out.2.2.2.2.1) ?_ | refine wpList_load_any rfl 22 (.tmp 14) rfl G14 rfl 22 (Lib.byteCells kk) _ (FA.out.2.2.2.2.2.2.2.2.2.1) Tryd.underlying22 rfl (size_a32 HLL.out.2.2.2.1) ?_ | refine wl_eqlW 22 22 (.tmp 84) (.tmp 85) rfl (Lib.byteCells lk).toArray (Lib.byteCells kk).toArray rfl rfl (by kernel_rfl) (by kernel_rfl) true (HEQ.out _) ?_)
   go_ret
   exact ⟨rfl, FA.out.2.2.2.2.1⟩
  ·have hb : (ag == ct) = false := by simpa using hag
   rw [hb] at HEU
   have HK : Shh (lk = rej) := ⟨by have := HFIN.out; rw [if_neg hag] at this; exact this⟩
   have HEQ : Shh (∀ W, (Op.equalIn 10000 22 (.agg (Lib.byteCells lk).toArray) (.agg (Lib.byteCells rej).toArray)).run Tryd.prog W = .ok true W) := ⟨fun W => by rw [eq32 lk rej HLL.out.2.2.2.2.1 HLL.out.2.2.2.2.2.2.1 W]; congr 1; simpa using HK.out⟩
   clear hag hb HFIN HK
   go_wp2_with (go_at_call 12; refine (HEU.out _ _ _ _ _ (sl_row (FA.out.2.2.2.2.2.2.2.2.2.2.1) (FA.out.2.2.2.2.2.2.2.2.2.2.2).1 (FA.out.2.2.2.2.2.2.2.2.2.2.2).2) (FA.out.2.2.2.2.2.1)).mono ?_)
   rintro e w6 ⟨rfl, hq⟩
   obtain rfl : X5 = w6 := hq
   clear HEU
   have FZ : Shh (Row X5 N 22 (Lib.byteCells d) ∧ Row X5 (N + 1) 22 (Lib.byteCells z) ∧ Below N w X5 ∧ Sl X5 (N) (.slice A ct.length c) (ct) ∧ Row X5 G10 22 (Lib.byteCells lk)) := by
    obtain ⟨h0, h1, h2, h3, h4, h5, h6, h7, h8, h9, h10, h11⟩ := FA.out
    exact ⟨h0, h1, h4, h5, h7⟩
   clear FA
   go_wp2
   refine wp_region_held_drew (S := fun w' => Row w' G10 22 (Lib.byteCells lk)) (by kernel_rfl) FZ.out.2.2.2.2.drew (fun hS => ?_)
   clear hS
   obtain ⟨X31, hX31⟩ : ∃ V, V = World.drew X5 := ⟨_, rfl⟩
   rw [← hX31]
   have FA : Shh (Row X31 N 22 (Lib.byteCells d) ∧ Row X31 (N + 1) 22 (Lib.byteCells z) ∧ Below N w X31 ∧ Sl X31 (N) (.slice A ct.length c) (ct) ∧ Row X31 G10 22 (Lib.byteCells lk)) := by
    obtain ⟨h0, h1, h2, h3, h4⟩ := FZ.out
    rw [hX31]
    exact ⟨h0.drew, h1.drew, h2.drew, h3.drew, h4.drew⟩
   clear hX31 FZ
   refine held_load 0 22 (.tmp 10) (some 87) (by kernel_rfl) (by rfl) (by kernel_rfl) (G10) 0 (by kernel_rfl) (Lib.byteCells lk) _ (fun w h => h.range) Tryd.underlying22 rfl (size_a32 HLL.out.2.2.2.2.1) (fun _ _ _ _ h => h) FA.out.2.2.2.2 ?_
   simp only [Act.put, arr9, hd9, tl9]
   refine hdv0 1 88 (.slice (some ⟨N + 1, 0, none⟩) 32 32) (by rfl) FA.out.2.2.2.2 ?_
   refine hdv0 2 89 (.slice A ct.length c) (by rfl) FA.out.2.2.2.2 ?_
   refine held_one 3 (by kernel_rfl) ?_
   have HP : Shh (PartsO (X31.alloc (.cells #[.slice (some ⟨N + 1, 0, none⟩) 32 32, .slice A ct.length c] 23)) (X31.heap.size + 1) (X31.heap.size + 1) (.slice (some ⟨X31.heap.size, 0, none⟩) 2 2) [z, ct] ∧ X31.heap.size + 1 ≤ (X31.alloc (.cells #[.slice (some ⟨N + 1, 0, none⟩) 32 32, .slice A ct.length c] 23)).heap.size ∧ Row (X31.alloc (.cells #[.slice (some ⟨N + 1, 0, none⟩) 32 32, .slice A ct.length c] 23)) G10 22 (Lib.byteCells lk)) := ⟨parts_two rfl (Sl.of_bytes (FA.out.2.1) (FA.out.2.1).lt HDL.out.2 (by decide)) ((FA.out.2.2.2.1).more (Nat.le_of_lt (FA.out.1).lt)), by rw [asz]; exact Nat.le_refl _, (FA.out.2.2.2.2).alloc _⟩
   have bx := bel1 X31 (.cells #[.slice (some ⟨N + 1, 0, none⟩) 32 32, .slice A ct.length c] 23)
   refine step_value 3 _ _ (some 90) (.slice (some ⟨X31.heap.size, 0, none⟩) 2 2) (X31.alloc (.cells #[.slice (some ⟨N + 1, 0, none⟩) 32 32, .slice A ct.length c] 23)) (by rfl) (by kernel_rfl) (by first | kernel_rfl | go_simp) HP.out.2.2 ?_
   simp only [Act.put, arr9, hd9, tl9]
   obtain ⟨M, hM⟩ : ∃ M, M = X31.heap.size := ⟨_, rfl⟩
   rw [← hM] at HP
   rw [← hM]
   generalize X31.alloc (.cells #[.slice (some ⟨N + 1, 0, none⟩) 32 32, .slice A ct.length c] 23) = Z at *
   have FB : Shh (Row Z N 22 (Lib.byteCells d) ∧ Row Z (N + 1) 22 (Lib.byteCells z) ∧ Below N w Z ∧ Sl Z (N) (.slice A ct.length c) (ct) ∧ Row Z G10 22 (Lib.byteCells lk)) := by
    obtain ⟨h0, h1, h2, h3, h4⟩ := FA.out
    have := h0.lt
    have := h1.lt
    have := h4.lt
    have := bx.size
    exact ⟨h0.go bx, h1.go bx, h2.trans (bx.mono (by omega)), h3.below (bx.mono (by omega)), h4.go bx⟩
   clear bx FA
   clear hM
   refine held_one 4 (by kernel_rfl) ?_
   refine step_call 4 _ _ (some 91) 15 #[.slice (some ⟨M, 0, none⟩) 2 2] (by rfl) (by kernel_rfl) (by first | kernel_rfl | go_simp) ?_
   refine (HJN.out Z _ _ HP.out.1 HP.out.2.1).mono ?_
   rintro e w33 ⟨u, rfl, hu, b32⟩
   obtain ⟨gj, cgj, rfl⟩ := own_some hu (by rw [HLL.out.2.2.2.2.2.2.2]; decide)
   have FC : Shh (Row w33 N 22 (Lib.byteCells d) ∧ Row w33 (N + 1) 22 (Lib.byteCells z) ∧ Below N w w33 ∧ Sl w33 (N) (.slice A ct.length c) (ct) ∧ Row w33 G10 22 (Lib.byteCells lk) ∧ Sl w33 w33.heap.size (.slice (some ⟨gj, 0, none⟩) zc.length cgj) (zc)) := by
    obtain ⟨h0, h1, h2, h3, h4⟩ := FB.out
    have := h0.lt
    have := h1.lt
    have := h4.lt
    have := b32.size
    exact ⟨h0.go b32, h1.go b32, h2.trans (b32.mono (by omega)), h3.below (b32.mono (by omega)), h4.go b32, Sl.of_own hu⟩
   clear b32 FB hu HP
   refine ⟨_, rfl, FC.out.2.2.2.2.1, ?_⟩
   simp only [Act.put, arr9, hd9, tl9]
   refine held_one 5 (by kernel_rfl) ?_
   refine step_call 5 _ _ (some 92) 14 #[.int .i64 256, .int .i64 32, .slice (some ⟨gj, 0, none⟩) zc.length cgj] (by rfl) (by kernel_rfl) (by first | kernel_rfl | go_simp) ?_
   refine (HSH.out w33 _ (FC.out.2.2.2.2.2)).mono ?_
   rintro e w35 ⟨u, rfl, hu, b34⟩
   obtain ⟨gs, cgs, rfl⟩ := own_some hu (by rw [HLL.out.2.2.2.2.2.2.1]; decide)
   have FD : Shh (Row w35 N 22 (Lib.byteCells d) ∧ Row w35 (N + 1) 22 (Lib.byteCells z) ∧ Below N w w35 ∧ Sl w35 (N) (.slice A ct.length c) (ct) ∧ Row w35 G10 22 (Lib.byteCells lk) ∧ Sl w35 w35.heap.size (.slice (some ⟨gj, 0, none⟩) zc.length cgj) (zc) ∧ Sl w35 w35.heap.size (.slice (some ⟨gs, 0, none⟩) rej.length cgs) (rej)) := by
    obtain ⟨h0, h1, h2, h3, h4, h5⟩ := FC.out
    have := h0.lt
    have := h1.lt
    have := h4.lt
    have := b34.size
    exact ⟨h0.go b34, h1.go b34, h2.trans (b34.mono (by omega)), h3.below (b34.mono (by omega)), h4.go b34, h5.go b34, Sl.of_own hu⟩
   clear b34 FC hu
   refine ⟨_, rfl, FD.out.2.2.2.2.1, ?_⟩
   simp only [Act.put, arr9, hd9, tl9]
   refine held_one 6 (by kernel_rfl) ?_
   refine step_call 6 _ _ (some 93) 13 #[.slice (some ⟨gs, 0, none⟩) rej.length cgs] (by rfl) (by kernel_rfl) (by first | kernel_rfl | go_simp) ?_
   refine (HZE.out w35 _ (FD.out.2.2.2.2.2.2)).mono ?_
   rintro e w37 ⟨rfl, b36⟩
   have FE : Shh (Row w37 N 22 (Lib.byteCells d) ∧ Row w37 (N + 1) 22 (Lib.byteCells z) ∧ Below N w w37 ∧ Sl w37 (N) (.slice A ct.length c) (ct) ∧ Row w37 G10 22 (Lib.byteCells lk) ∧ Sl w37 w37.heap.size (.slice (some ⟨gj, 0, none⟩) zc.length cgj) (zc) ∧ Sl w37 w37.heap.size (.slice (some ⟨gs, 0, none⟩) rej.length cgs) (rej)) := by
    obtain ⟨h0, h1, h2, h3, h4, h5, h6⟩ := FD.out
    have := h0.lt
    have := h1.lt
    have := h4.lt
    have := b36.size
    exact ⟨h0.go b36, h1.go b36, h2.trans (b36.mono (by omega)), h3.below (b36.mono (by omega)), h4.go b36, h5.go b36, h6.go b36⟩
   clear b36 FD
   refine ⟨_, rfl, FE.out.2.2.2.2.1, ?_⟩
   simp only [Act.put, arr9, hd9, tl9]
   refine hdv 7 94 (.bool true) (by rfl) (fun w hS => run_eql_agg (by kernel_rfl) (HEQ.out w) rfl rfl) FE.out.2.2.2.2.1 ?_
   refine hdv0 8 6 (.bool true) (by rfl) FE.out.2.2.2.2.1 ?_
   refine wpAnyH_done (by kernel_rfl) ?_ _
   go_wp2
   go_ret
   exact ⟨rfl, FE.out.2.2.1⟩
theorem kemRejects_law (d z ct : List UInt8) (hd : d.length = 32) (hz : z.length = 32) (v : Value) (w : World) (hs : Sl w w.heap.size v ct) (hv : KVars w) : Calls Tryd.prog 4 #[arrV d, arrV z, v] w (TrueIs w) := by
 by_cases h : allOk (rhoB d)
 ·by_cases hl : ct.length = 1088
  ·exact kemRejects_yes d z ct hd hz h hl v w hs hv
  ·cases hf : few14B [ct]
   ·exact kemRejects_few d z ct hd hz h hf v w hs hv
   ·exact kemRejects_len d z ct hd hz h hf hl v w hs hv
 ·exact kemRejects_no d z ct hd hz h v w hs hv
end Go.Proofs.YtbjpbeplpljieaaDoor
