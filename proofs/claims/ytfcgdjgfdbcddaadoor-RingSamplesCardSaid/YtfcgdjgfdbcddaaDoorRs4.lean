/-
 THE PROGRAM'S OWN SampleNtt.
-/
import Derived.Test.YtfcgdjgfdbcddaaDoorRs3
namespace Go.Proofs.YtfcgdjgfdbcddaaDoor
open Go.RowKit
set_option maxRecDepth 100000
set_option maxHeartbeats 2000000 in
theorem SampleNtt_any (B : Nat) (v : Value) (m : List UInt8) (hl : m.length = 34) (w : World) (hs : Sl w B v m) (hB : B ≤ w.heap.size) (hv : KVars w) (xs : Nat → Nat) (hxs : xs = grp (nb (spongeL 168 31 m 3072))) : Calls Tryd.prog 4 #[v] w (CodeIs w (smpF xs) (smpE xs)) := by
 unfold CodeIs polyV
 have hpos := hv.pos
 have i3 : (m.length : Int) ≤ 34 := by omega
 have i4 : (34 : Int) ≤ (m.length : Int) := by omega
 generalize hN : w.heap.size = N at *
 obtain ⟨FF, hFF⟩ : ∃ F, F = smpF xs := ⟨_, rfl⟩
 obtain ⟨ee, hee⟩ : ∃ F, F = smpE xs := ⟨_, rfl⟩
 have HC : Shh (∀ g W, XofAt W g (absorbL 168 31 [m].flatten) 168 0 → KVars W → 0 ≠ g → g < W.heap.size → Calls Tryd.prog 7 #[.func (.func 9) #[.pointer (some ⟨g, 0, none⟩)] #[]] W (fun e w' => e = .returned (.tuple #[.agg (pc FF).toArray, .int .i64 ee]) ∧ But W.heap.size g W w')) := ⟨fun g W hx hv hg hgl => by
  rw [hFF, hee]
  refine sampled_any g (absorbL 168 31 [m].flatten) W hx hv hg (Nat.le_refl _) hgl xs ?_
  rw [hxs, show [m].flatten = m by simp]
  rfl⟩
 rw [← hFF, ← hee]
 clear hFF hee hxs hl
 obtain ⟨A, c, rfl, _, _⟩ := hs.form
 have HS0 : Shh (Sl w B (.slice A m.length c) m ∧ B ≤ N ∧ KVars w ∧ w.heap.size = N ∧ 0 < N) := ⟨hs, hB, hv, hN, hpos⟩
 clear hs hB hv hN hpos
 generalize m.length = ln at *
 go_enter Tryd.func4, Tryd.ntmps4
 go_wp2_with (refine wl_allocS 2 rfl rfl rfl ?_)
 intro N1 w2 hN1 r2 b2
 simp only [Act.put, arr9, hd9, tl9]
 obtain rfl : N = N1 := HS0.out.2.2.2.1.symm.trans hN1.out.symm
 have HI : Shh (Sl w2 B (.slice A ln c) m ∧ KVars w2 ∧ Row w2 N 25 (pc fun _ => 0) ∧ Below N w w2 ∧ B ≤ N ∧ N < w2.heap.size ∧ 0 < N) := by
  obtain ⟨h1, h2, h3, h4, h5⟩ := HS0.out
  rw [h4] at b2
  exact ⟨⟨h1.below (b2.mono h2), h3.step (h4.symm ▸ b2), r2, b2, h2, r2.lt, h5⟩⟩
 clear r2 b2 hN1 HS0
 go_wp2_with (go_at_call 8; refine (shake128_any [m] (by simp) (w2.heap.size + 1) _ _ (PartsO.solo (Row.new_ rfl rfl) (Nat.lt_succ_self _) (by omega) ((HI.out.1.below ((bel1 _ _).mono (by have := HI.out; omega))).more (by have := HI.out; omega)) (HI.out.1.off (by have := HI.out; omega))) (by rw [asz]; exact Nat.le_refl _) (HI.out.2.1.step (bel1 _ _))).mono ?_)
 rintro e w4 ⟨gx, rfl, hgx, hx, b4⟩
 have HJ : Shh (XofAt w4 gx (absorbL 168 31 [m].flatten) 168 0 ∧ KVars w4 ∧ Row w4 N 25 (pc fun _ => 0) ∧ Below N w w4 ∧ N < gx ∧ 0 ≠ gx ∧ N < w4.heap.size) := by
  obtain ⟨h1, h2, h3, h4, h5, h6, h7⟩ := HI.out
  rw [asz] at hgx
  have b5 := Below.chain (bel1 w2 _) b4
  exact ⟨⟨hx, h2.step b5, h3.go b5, h4.trans (b5.mono (Nat.le_of_lt h6)), by omega, by omega, Nat.lt_of_lt_of_le h6 b5.size⟩⟩
 clear hgx hx b4 HI
 go_wp2_with (go_at_call 7; refine (HC.out gx w4 HJ.out.1 HJ.out.2.1 HJ.out.2.2.2.2.2.1 (SpAt.lt HJ.out.1)).mono ?_)
 rintro e w5 ⟨rfl, b5⟩
 have HK : Shh (Row w5 N 25 (pc fun _ => 0) ∧ Below N w w5) := by
  obtain ⟨h1, h2, h3, h4, h5, h6, h7⟩ := HJ.out
  exact ⟨⟨b5.row h3 h7 (by omega), h4.trans (b5.under (Nat.le_of_lt h7) (Nat.le_of_lt h5))⟩⟩
 clear b5 HJ HC
 go_wp2_with (refine wpList_store_any rfl 25 (.tmp 2) (.tmp 13) rfl N rfl (pc FF) rfl 25 _ HK.out.1 (info_poly.trans (size_poly _)) (by rw [pc_length, pc_length]) (pc_one _) ?_)
 intro w9 hr9 b9 _
 have hb9 : Below N w w9 := HK.out.2.trans (b9.under (Nat.le_of_lt HK.out.1.lt) (Nat.le_refl _))
 go_wp2
 exact ret_rs7 Tryd.results4 rfl rfl rfl hr9 Tryd.underlying25 rfl (info_poly.trans (size_poly _)) ⟨rfl, hb9⟩
set_option maxHeartbeats 1000000 in
theorem SampleNtt_bad (B : Nat) (v : Value) (m : List UInt8) (hl : ¬ m.length = 34) (w : World) (hs : Sl w B v m) : Calls Tryd.prog 4 #[v] w (CodeIs w (fun _ => 0) 1) := by
 unfold CodeIs polyV
 obtain ⟨A, c, rfl, _, _⟩ := hs.form
 have h3 : ¬ (m.length : Int) = 34 := by omega
 generalize hN : w.heap.size = N at *
 clear hs hl
 generalize m.length = ln at *
 have HL1 : Shh (Row (w.alloc (.cells (pc fun _ => 0).toArray 25)) N 25 (pc fun _ => 0) ∧ Below N w (w.alloc (.cells (pc fun _ => 0).toArray 25))) := by
  refine ⟨Row.new_ hN.symm rfl, ?_⟩
  rw [← hN]
  exact bel1 _ _
 go_enter Tryd.func4, Tryd.ntmps4
 go_wp2_with (first | refine wl_allocP rfl rfl ?_ | refine wl_at 7 rfl (.agg (pc fun _ => 0).toArray) rfl (build_poly rfl) ?_ | refine wpList_store_any rfl 25 (.tmp 2) (.tmp 7) rfl N rfl (pc fun _ => 0) rfl 25 _ HL1.out.1 (info_poly.trans (size_poly _)) rfl (pc_one _) ?_)
 intro w9 hr9 b9 _
 have hb9 := HL1.out.2.trans (b9.under (by omega) (by omega))
 go_wp2
 exact ret_rs7 Tryd.results4 rfl rfl rfl hr9 Tryd.underlying25 rfl (info_poly.trans (size_poly _)) ⟨rfl, hb9⟩
end Go.Proofs.YtfcgdjgfdbcddaaDoor
