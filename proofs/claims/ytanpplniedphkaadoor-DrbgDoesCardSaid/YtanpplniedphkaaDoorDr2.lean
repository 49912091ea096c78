/-
  WALKS: one pass of an update; an update.
-/
import Derived.Test.YtanpplniedphkaaDoorDr1
import Derived.Test.YtanpplniedphkaaDoorJoinP
namespace Go.Proofs.YtanpplniedphkaaDoor
open Go.RowKit
set_option maxRecDepth 100000
set_option maxHeartbeats 2000000 in
theorem mixed_any (B : Nat) (vt : Value) (p : UInt8) (text s : List UInt8) (w : World) (ht : Sl w B vt text) (hB : B ≤ w.heap.size) (hs : s.length = 64) (htl : text.length ≤ 500000) (hv : Vars w) :
    Calls Tryd.prog 92 #[.agg (Lib.byteCells s).toArray, .int .u8 (p.toNat : Int), vt] w (SumIs w (mixL p text s)) := by
  unfold SumIs
  obtain ⟨At, ct, rfl, _, _⟩ := ht.form
  have hpos := hv.pos
  generalize hN : w.heap.size = N at *
  have hsl := mixL_length p text s hs
  obtain ⟨mc, hmc⟩ : ∃ mc, mc = macB (keyL s) (valL s ++ p :: text) := ⟨_, rfl⟩
  have hml : mc.length = 32 := by rw [hmc]; exact macB_length _ _
  have HMC : Shh (macB (keyL s) [valL s, [p], text].flatten = mc) := ⟨by rw [hmc]; simp⟩
  obtain ⟨s2, hs2e⟩ : ∃ s2, s2 = s.take 0 ++ mc ++ s.drop (0 + mc.length) := ⟨_, rfl⟩
  have hs2 : s2.length = 64 := by rw [hs2e]; simp [hml]; omega
  have HST : Shh (s2 = s.take 0 ++ mc ++ s.drop (0 + mc.length) ∧ stepL s2 = mixL p text s) := ⟨hs2e, by rw [hs2e, hmc]; unfold mixL; rw [macB_length]⟩
  clear hmc hs2e
  obtain ⟨W1, hW1⟩ : ∃ W1, W1 = (w.alloc (.cells (Lib.byteCells s).toArray 81)).alloc (.cells (Lib.byteCells (List.replicate 64 0)).toArray 81) := ⟨_, rfl⟩
  have hb1 : Below N w W1 := by rw [hW1]; exact ((Below.refl N w).alloc (by omega) _).alloc (by rw [asz]; omega) _
  have hzW : W1.heap.size = N + 2 := by rw [hW1, asz, asz, hN]
  have HD : Shh (Row W1.drew N 81 (Lib.byteCells s) ∧ Row W1.drew (N + 1) 81 (Lib.byteCells (List.replicate 64 0)) ∧ Vars W1.drew ∧ Below N w W1.drew ∧ W1.drew.heap.size = N + 2 ∧ Sl W1.drew W1.drew.heap.size (.slice At text.length ct) text) :=
    ⟨by rw [hW1]; exact ((Row.new_ hN.symm rfl).alloc _).drew, by rw [hW1]; exact (Row.new_ (by rw [asz, hN]) rfl).drew, hv.step (by rw [hN]; exact hb1.drew), hb1.drew, hzW, (ht.below (hb1.mono hB)).more (by show B ≤ W1.heap.size; omega)⟩
  clear hv hb1 hzW ht
  rw [hW1, ← zero64b] at HD
  clear hW1
  go_enter Tryd.func92, Tryd.ntmps92
  go_wp2
  refine wp_region_held_drew (S := fun _ => True) (by kernel_rfl) trivial (fun hS => ?_)
  generalize World.drew _ = W at HD ⊢
  obtain ⟨rB, rR, HVA, HBW, hzW, HT⟩ := HD.out
  refine held_value 0 _ _ (some 7) (.pointer (some ⟨N, 0, none⟩)) (by kernel_rfl) (by rfl) (by kernel_rfl) (fun w hS => by first | kernel_rfl | go_simp) (fun _ _ _ _ h => h) (trivial) ?_
  simp only [Act.put, List.setIfInBounds_toArray, List.set_cons_zero, List.set_cons_succ]
  refine held_value 1 _ _ (some 8) (.slice (some ⟨N, 0, none⟩) 32 32) (by kernel_rfl) (by rfl) (by kernel_rfl) (fun w hS => by first | kernel_rfl | go_simp) (fun _ _ _ _ h => h) (trivial) ?_
  simp only [Act.put, List.setIfInBounds_toArray, List.set_cons_zero, List.set_cons_succ]
  refine held_value 2 _ _ (some 9) (.pointer (some ⟨N, 32, none⟩)) (by kernel_rfl) (by rfl) (by kernel_rfl) (fun w hS => by first | kernel_rfl | go_simp) (fun _ _ _ _ h => h) (trivial) ?_
  simp only [Act.put, List.setIfInBounds_toArray, List.set_cons_zero, List.set_cons_succ]
  refine held_value 3 _ _ (some 10) (.slice (some ⟨N, 32, none⟩) 32 32) (by kernel_rfl) (by rfl) (by kernel_rfl) (fun w hS => by first | kernel_rfl | go_simp) (fun _ _ _ _ h => h) (trivial) ?_
  simp only [Act.put, List.setIfInBounds_toArray, List.set_cons_zero, List.set_cons_succ]
  refine held_value 4 _ _ (some 11) (.int .u8 (p.toNat : Int)) (by kernel_rfl) (by rfl) (by kernel_rfl) (fun w hS => by first | kernel_rfl | go_simp) (fun _ _ _ _ h => h) (trivial) ?_
  simp only [Act.put, List.setIfInBounds_toArray, List.set_cons_zero, List.set_cons_succ]
  refine held_value 6 _ _ (some 13) (.slice At text.length ct) (by kernel_rfl) (by rfl) (by kernel_rfl) (fun w hS => by first | kernel_rfl | go_simp) (fun _ _ _ _ h => h) (trivial) ?_
  simp only [Act.put, List.setIfInBounds_toArray, List.set_cons_zero, List.set_cons_succ]
  refine held_one 5 (by kernel_rfl) ?_
  refine step_value 5 _ _ (some 12) (.slice (some ⟨W.heap.size, 0, none⟩) 1 1) (W.alloc (.cells #[.int .u8 (p.toNat : Int)] 5)) (by rfl) (by kernel_rfl) (by first | kernel_rfl | go_simp) (trivial) ?_
  simp only [Act.put, List.setIfInBounds_toArray, List.set_cons_zero, List.set_cons_succ]
  have bx : Below W.heap.size W (W.alloc (.cells #[.int .u8 (p.toNat : Int)] 5)) := Below.alloc (Below.refl _ _) (Nat.le_refl _) _
  have rQ : Row (W.alloc (.cells #[.int .u8 (p.toNat : Int)] 5)) W.heap.size 5 [.int .u8 (p.toNat : Int)] := Row.new_ rfl rfl
  have z_rQ := asz W (.cells #[.int .u8 (p.toNat : Int)] 5)
  generalize W.alloc (.cells #[.int .u8 (p.toNat : Int)] 5) = Y1 at *
  have b_W := bx
  have m_Y1 : W.heap.size ≤ Y1.heap.size := bx.size
  clear bx
  refine held_one 7 (by kernel_rfl) ?_
  refine step_value 7 _ _ (some 14) (.slice (some ⟨Y1.heap.size, 0, none⟩) 3 3) (Y1.alloc (.cells #[.slice (some ⟨N, 32, none⟩) 32 32, .slice (some ⟨W.heap.size, 0, none⟩) 1 1, .slice At text.length ct] 22)) (by rfl) (by kernel_rfl) (by first | kernel_rfl | go_simp) (trivial) ?_
  simp only [Act.put, List.setIfInBounds_toArray, List.set_cons_zero, List.set_cons_succ]
  have bx : Below Y1.heap.size Y1 (Y1.alloc (.cells #[.slice (some ⟨N, 32, none⟩) 32 32, .slice (some ⟨W.heap.size, 0, none⟩) 1 1, .slice At text.length ct] 22)) := Below.alloc (Below.refl _ _) (Nat.le_refl _) _
  have rP : Row (Y1.alloc (.cells #[.slice (some ⟨N, 32, none⟩) 32 32, .slice (some ⟨W.heap.size, 0, none⟩) 1 1, .slice At text.length ct] 22)) Y1.heap.size 22 [.slice (some ⟨N, 32, none⟩) 32 32, .slice (some ⟨W.heap.size, 0, none⟩) 1 1, .slice At text.length ct] := Row.new_ rfl rfl
  have z_rP := asz Y1 (.cells #[.slice (some ⟨N, 32, none⟩) 32 32, .slice (some ⟨W.heap.size, 0, none⟩) 1 1, .slice At text.length ct] 22)
  generalize Y1.alloc (.cells #[.slice (some ⟨N, 32, none⟩) 32 32, .slice (some ⟨W.heap.size, 0, none⟩) 1 1, .slice At text.length ct] 22) = Y2 at *
  replace b_W := Below.chain b_W bx
  have b_Y1 := bx
  have m_Y2 : Y1.heap.size ≤ Y2.heap.size := bx.size
  clear bx
  refine held_one 8 (by kernel_rfl) ?_
  refine step_call 8 _ _ (some 15) 104 #[.slice (some ⟨N, 0, none⟩) 32 32, .slice (some ⟨Y1.heap.size, 0, none⟩) 3 3] (by rfl) (by kernel_rfl) (by first | kernel_rfl | go_simp) ?_
  refine (mac_any Y2.heap.size _ _ (keyL s) [valL s, [p], text] Y2 ((rB.go b_W).sub 0 32 (by omega) (by omega)) (PartsO.three rP.lt (Nat.ne_of_lt rP.lt) rP ((rB.go b_W).sub 32 32 (by omega) (by omega)) (((rB.go b_W).sub 32 32 (by omega) (by omega)).off (Nat.le_refl _)) (Row.sl (n := 1) (bs := [p]) (rQ.go b_Y1) rfl (by omega)) ((Row.sl (n := 1) (bs := [p]) (rQ.go b_Y1) rfl (by omega)).off (Nat.le_refl _)) ((HT.go b_W)) (((HT.go b_W)).off (Nat.le_refl _))) (Nat.le_refl _) (HVA.go b_W) (by rw [keyL_length s hs]; omega) (by simp [valL_length s hs]; omega) (by simp)).mono ?_
  rintro e Y3 ⟨rfl, bx⟩
  have bx : Below Y2.heap.size Y2 Y3 := bx
  rw [HMC.out]
  replace b_W := Below.chain b_W bx
  replace b_Y1 := Below.chain b_Y1 bx
  have b_Y2 := bx
  have m_Y3 : Y2.heap.size ≤ Y3.heap.size := bx.size
  clear bx
  refine ⟨_, rfl, trivial, ?_⟩
  simp only [Act.put, List.setIfInBounds_toArray, List.set_cons_zero, List.set_cons_succ]
  refine held_value 9 _ _ (some 16) (.pointer (some ⟨N, 0, none⟩)) (by kernel_rfl) (by rfl) (by kernel_rfl) (fun w hS => by first | kernel_rfl | go_simp) (fun _ _ _ _ h => h) (trivial) ?_
  simp only [Act.put, List.setIfInBounds_toArray, List.set_cons_zero, List.set_cons_succ]
  refine held_one 10 (by kernel_rfl) ?_
  refine step_storeMid 10 79 (.tmp 16) (.tmp 15) (by rfl) (by kernel_rfl) (N) (0) rfl (mc) rfl 81 (s) (rB.go b_W) (by omega) (info_b32.trans (size_bytes _ _ hml)) ?_
  intro Y4 rS bt zt
  refine ⟨trivial, ?_⟩
  refine wpAnyH_done (by kernel_rfl) ?_ _
  have F : Shh (Row Y4 N 81 (Lib.byteCells s2) ∧ Row Y4 (N + 1) 81 (Lib.byteCells (List.replicate 64 0)) ∧ Below N w Y4 ∧ Vars Y4 ∧ N + 2 ≤ Y4.heap.size) := ⟨by rw [HST.out.1]; exact rS, bt.row (rR.go b_W) (by omega) (by omega), (HBW.trans (b_W.mono (by omega))).trans (bt.under (by omega) (by omega)), (HVA.go b_W).but bt (by omega), by omega⟩
  clear zt bt rS m_Y3 b_Y2 m_Y2 b_Y1 z_rP rP m_Y1 b_W z_rQ rQ
  go_wp2_with (first | refine wpList_load_any rfl 81 (.tmp 3) rfl N rfl 81 (Lib.byteCells s2) _ F.out.1 Tryd.underlying81 rfl (info_st.trans (size_bytes _ _ hs2)) ?_ | (go_at_call 94; refine (stepped_any s2 _ hs2 F.out.2.2.2.1).mono ?_))
  rintro e Z ⟨rfl, bZ⟩
  rw [HST.out.2]
  have G : Shh (Row Z (N + 1) 81 (Lib.byteCells (List.replicate 64 0)) ∧ Below N w Z) := ⟨F.out.2.1.go bZ, F.out.2.2.1.trans (bZ.mono (by have := F.out.2.2.2.2; omega))⟩
  clear F bZ
  go_wp2_with (refine wpList_store_any rfl 81 (.tmp 6) (.tmp 18) rfl (N + 1) rfl (Lib.byteCells (mixL p text s)) rfl 81 (Lib.byteCells (List.replicate 64 0)) G.out.1 (info_st.trans (size_bytes _ _ hsl)) (by rw [Lib.byteCells_length, Lib.byteCells_length, hsl]; rfl) (cell_oneCell _) ?_)
  intro Z2 hr bt2 _
  have G2 : Shh (Row Z2 (N + 1) 81 (Lib.byteCells (mixL p text s)) ∧ Below N w Z2) := ⟨hr, G.out.2.trans (bt2.under (by have := G.out.1.lt; omega) (by omega))⟩
  clear hr bt2 G
  go_wp2
  exact ret_row Tryd.results92 rfl rfl G2.out.1 Tryd.underlying81 rfl (info_st.trans (size_bytes _ _ hsl)) ⟨rfl, G2.out.2⟩

set_option maxHeartbeats 2000000 in
theorem updated_any (B : Nat) (vp : Value) (bss : List (List UInt8)) (s : List UInt8) (w : World) (hp : PartsO w B w.heap.size vp bss) (hB : B ≤ w.heap.size) (hs : s.length = 64) (hl : bss.flatten.length ≤ 400000) (hn : bss.length ≤ 1000) (hv : Vars w) :
    Calls Tryd.prog 50 #[.agg (Lib.byteCells s).toArray, vp] w (SumIs w (updL bss.flatten s)) := by
  unfold SumIs
  have hpos := hv.pos
  generalize hN : w.heap.size = N at *
  have hsl := updL_length bss.flatten s hs
  have hm0 := mixL_length 0 bss.flatten s hs
  have hm1 := mixL_length 1 bss.flatten (mixL 0 bss.flatten s) hm0
  obtain ⟨W1, hW1⟩ : ∃ W1, W1 = (w.alloc (.cells (Lib.byteCells s).toArray 81)).alloc (.cells (Lib.byteCells (List.replicate 64 0)).toArray 81) := ⟨_, rfl⟩
  have hb1 : Below N w W1 := by rw [hW1]; exact ((Below.refl N w).alloc (by omega) _).alloc (by rw [asz]; omega) _
  have hzW : W1.heap.size = N + 2 := by rw [hW1, asz, asz, hN]
  have HD : Shh (Row W1 N 81 (Lib.byteCells s) ∧ Row W1 (N + 1) 81 (Lib.byteCells (List.replicate 64 0)) ∧ Vars W1 ∧ Below N w W1 ∧ N + 2 ≤ W1.heap.size ∧ PartsO W1 B N vp bss) :=
    ⟨by rw [hW1]; exact (Row.new_ hN.symm rfl).alloc _, by rw [hW1]; exact Row.new_ (by rw [asz, hN]) rfl, hv.step (by rw [hN]; exact hb1), hb1, by omega, hp.below (hb1.mono hB)⟩
  obtain ⟨Ap, cp, rfl⟩ := hp.form
  clear hv hb1 hzW hp
  rw [hW1, ← zero64b] at HD
  clear hW1
  obtain ⟨text, htx⟩ : ∃ text, text = bss.flatten := ⟨_, rfl⟩
  rw [← htx] at hl hsl hm0 hm1 ⊢
  have HTX : Shh (bss.flatten = text) := ⟨htx.symm⟩
  clear htx
  go_enter Tryd.func50, Tryd.ntmps50
  go_wp2_with (go_at_call 91; refine (join_any B N _ bss _ HD.out.2.2.2.2.2 (by have := HD.out.2.2.2.2.1; omega) (by rw [HTX.out]; omega) hn).mono ?_)
  rintro e Y ⟨vj, rfl, gj⟩
  rw [HTX.out] at gj
  have kj := gives_sl gj
  have hoff := gives_off gj N (by have := HD.out.2.2.2.2.1; omega)
  obtain ⟨Aj, cj, rfl, _, _⟩ := kj.form
  have H1 : Shh (Row Y N 81 (Lib.byteCells s) ∧ Row Y (N + 1) 81 (Lib.byteCells (List.replicate 64 0)) ∧ Vars Y ∧ Below N w Y ∧ N + 2 ≤ Y.heap.size ∧ Sl Y Y.heap.size (.slice Aj text.length cj) text) :=
    ⟨HD.out.1.go gj.2, HD.out.2.1.go gj.2, HD.out.2.2.1.go gj.2, HD.out.2.2.2.1.trans (gj.2.mono (by have := HD.out.2.2.2.2.1; omega)), by have := HD.out.2.2.2.2.1; have := gj.2.size; omega, kj⟩
  clear HD gj kj
  go_wp2_with (first | refine wpList_load_any rfl 81 (.tmp 2) rfl N rfl 81 (Lib.byteCells s) _ H1.out.1 Tryd.underlying81 rfl (info_st.trans (size_bytes _ _ hs)) ?_ | (go_at_call 92; refine (mixed_any Y.heap.size _ 0 text s Y H1.out.2.2.2.2.2 (Nat.le_refl _) hs (by omega) H1.out.2.2.1).mono ?_))
  rintro e Y2 ⟨rfl, b2⟩
  have H2 : Shh (Row Y2 N 81 (Lib.byteCells s) ∧ Row Y2 (N + 1) 81 (Lib.byteCells (List.replicate 64 0)) ∧ Vars Y2 ∧ Below N w Y2 ∧ N + 2 ≤ Y2.heap.size ∧ Sl Y2 Y2.heap.size (.slice Aj text.length cj) text ∧ Off N (.slice Aj text.length cj)) :=
    ⟨H1.out.1.go b2, H1.out.2.1.go b2, H1.out.2.2.1.go b2, H1.out.2.2.2.1.trans (b2.mono (by have := H1.out.2.2.2.2.1; omega)), by have := H1.out.2.2.2.2.1; have := b2.size; omega, H1.out.2.2.2.2.2.go b2, hoff⟩
  clear H1 b2
  go_wp2_with (refine wpList_store_any rfl 81 (.tmp 2) (.tmp 10) rfl N rfl (Lib.byteCells (mixL 0 text s)) rfl 81 (Lib.byteCells s) H2.out.1 (info_st.trans (size_bytes _ _ hm0)) (by rw [Lib.byteCells_length, Lib.byteCells_length, hm0, hs]) (cell_oneCell _) ?_)
  intro Y3 hr3 bt3 zt3
  have H3 : Shh (Row Y3 N 81 (Lib.byteCells (mixL 0 text s)) ∧ Row Y3 (N + 1) 81 (Lib.byteCells (List.replicate 64 0)) ∧ Vars Y3 ∧ Below N w Y3 ∧ N + 2 ≤ Y3.heap.size ∧ Sl Y3 Y3.heap.size (.slice Aj text.length cj) text ∧ Off N (.slice Aj text.length cj)) :=
    ⟨hr3, bt3.row H2.out.2.1 (by have := H2.out.2.2.2.2.1; omega) (by omega), H2.out.2.2.1.but bt3 (by omega), H2.out.2.2.2.1.trans (bt3.under (by have := H2.out.2.2.2.2.1; omega) (Nat.le_refl _)), by have := H2.out.2.2.2.2.1; omega, (H2.out.2.2.2.2.2.1.but H2.out.2.2.2.2.2.2 bt3).more (by omega), H2.out.2.2.2.2.2.2⟩
  clear H2 hr3 bt3 zt3
  by_cases ht0 : text = []
  · have hu : updL text s = mixL 0 text s := by unfold updL; rw [if_pos ht0]
    have HU : Shh (updL text s = mixL 0 text s) := ⟨hu⟩
    have hl0 : ¬ (0 : Int) < (text.length : Int) := by rw [ht0]; simp
    clear hu ht0
    go_wp2_with (first | refine wpList_load_any rfl 81 (.tmp 2) rfl N rfl 81 (Lib.byteCells (mixL 0 text s)) _ H3.out.1 Tryd.underlying81 rfl (info_st.trans (size_bytes _ _ hm0)) ?_ | refine wpList_store_any rfl 81 (.tmp 4) (.tmp 17) rfl (N + 1) rfl (Lib.byteCells (mixL 0 text s)) rfl 81 (Lib.byteCells (List.replicate 64 0)) H3.out.2.1 (info_st.trans (size_bytes _ _ hm0)) (by rw [Lib.byteCells_length, Lib.byteCells_length, hm0]; rfl) (cell_oneCell _) ?_)
    intro Z hrZ btZ _
    have G : Shh (Row Z (N + 1) 81 (Lib.byteCells (updL text s)) ∧ Below N w Z) := ⟨by rw [HU.out]; exact hrZ, H3.out.2.2.2.1.trans (btZ.under (by have := H3.out.2.2.2.2.1; omega) (by omega))⟩
    clear hrZ btZ H3
    go_wp2
    exact ret_row Tryd.results50 rfl rfl G.out.1 Tryd.underlying81 rfl (info_st.trans (size_bytes _ _ hsl)) ⟨rfl, G.out.2⟩
  · have hu : updL text s = mixL 1 text (mixL 0 text s) := by unfold updL; rw [if_neg ht0]
    have HU : Shh (updL text s = mixL 1 text (mixL 0 text s)) := ⟨hu⟩
    have hl0 : (0 : Int) < (text.length : Int) := by have := List.length_pos_iff.2 ht0; omega
    clear hu ht0
    go_wp2_with (first | refine wpList_load_any rfl 81 (.tmp 2) rfl N rfl 81 (Lib.byteCells (mixL 0 text s)) _ H3.out.1 Tryd.underlying81 rfl (info_st.trans (size_bytes _ _ hm0)) ?_ | (go_at_call 92; refine (mixed_any Y3.heap.size _ 1 text (mixL 0 text s) Y3 H3.out.2.2.2.2.2.1 (Nat.le_refl _) hm0 (by omega) H3.out.2.2.1).mono ?_))
    rintro e Y4 ⟨rfl, b4⟩
    have H4 : Shh (Row Y4 N 81 (Lib.byteCells (mixL 0 text s)) ∧ Row Y4 (N + 1) 81 (Lib.byteCells (List.replicate 64 0)) ∧ Below N w Y4 ∧ N + 2 ≤ Y4.heap.size) :=
      ⟨H3.out.1.go b4, H3.out.2.1.go b4, H3.out.2.2.2.1.trans (b4.mono (by have := H3.out.2.2.2.2.1; omega)), by have := H3.out.2.2.2.2.1; have := b4.size; omega⟩
    clear H3 b4
    go_wp2_with (refine wpList_store_any rfl 81 (.tmp 2) (.tmp 16) rfl N rfl (Lib.byteCells (mixL 1 text (mixL 0 text s))) rfl 81 (Lib.byteCells (mixL 0 text s)) H4.out.1 (info_st.trans (size_bytes _ _ hm1)) (by rw [Lib.byteCells_length, Lib.byteCells_length, hm1, hm0]) (cell_oneCell _) ?_)
    intro Y5 hr5 bt5 zt5
    have H5 : Shh (Row Y5 N 81 (Lib.byteCells (mixL 1 text (mixL 0 text s))) ∧ Row Y5 (N + 1) 81 (Lib.byteCells (List.replicate 64 0)) ∧ True ∧ Below N w Y5 ∧ N + 2 ≤ Y5.heap.size ∧ True) :=
      ⟨hr5, bt5.row H4.out.2.1 (by have := H4.out.2.2.2; omega) (by omega), trivial, H4.out.2.2.1.trans (bt5.under (by have := H4.out.2.2.2; omega) (Nat.le_refl _)), by have := H4.out.2.2.2; omega, trivial⟩
    clear H4 hr5 bt5 zt5
    go_wp2_with (first | refine wpList_load_any rfl 81 (.tmp 2) rfl N rfl 81 (Lib.byteCells (mixL 1 text (mixL 0 text s))) _ H5.out.1 Tryd.underlying81 rfl (info_st.trans (size_bytes _ _ hm1)) ?_ | refine wpList_store_any rfl 81 (.tmp 4) (.tmp 17) rfl (N + 1) rfl (Lib.byteCells (mixL 1 text (mixL 0 text s))) rfl 81 (Lib.byteCells (List.replicate 64 0)) H5.out.2.1 (info_st.trans (size_bytes _ _ hm1)) (by rw [Lib.byteCells_length, Lib.byteCells_length, hm1]; rfl) (cell_oneCell _) ?_)
    intro Z hrZ btZ _
    have G : Shh (Row Z (N + 1) 81 (Lib.byteCells (updL text s)) ∧ Below N w Z) := ⟨by rw [HU.out]; exact hrZ, H5.out.2.2.2.1.trans (btZ.under (by have := H5.out.2.2.2.2.1; omega) (by omega))⟩
    clear hrZ btZ H5
    go_wp2
    exact ret_row Tryd.results50 rfl rfl G.out.1 Tryd.underlying81 rfl (info_st.trans (size_bytes _ _ hsl)) ⟨rfl, G.out.2⟩
end Go.Proofs.YtanpplniedphkaaDoor
