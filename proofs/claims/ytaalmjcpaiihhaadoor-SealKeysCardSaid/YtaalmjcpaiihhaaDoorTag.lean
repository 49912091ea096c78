/-
  THE WALK of seal.Tag.
-/
import Derived.Test.YtaalmjcpaiihhaaDoorCov0
import Derived.Test.YtaalmjcpaiihhaaDoorRefTag
namespace Go.Proofs.YtaalmjcpaiihhaaDoor
open Go.RowKit
set_option maxRecDepth 100000
theorem tagB_length (mac nonce ad text : List UInt8) : (tagB mac nonce ad text).length = 32 := macB_length _ _
set_option maxHeartbeats 2000000 in
theorem tag_any (B : Nat) (vm va vt : Value) (mac nonce ad text : List UInt8) (w : World) (hm : Sl w B vm mac) (ha : Sl w B va ad) (ht : Sl w B vt text) (hB : B ≤ w.heap.size) (hv : Vars w) (hnl : nonce.length = 12) (hml : mac.length ≤ 1000000) (hal : ad.length ≤ 400000) (htl0 : text.length ≤ 400000) :
    Calls Tryd.prog 20 #[vm, .agg (Lib.byteCells nonce).toArray, va, vt] w (SumIs w (tagB mac nonce ad text)) := by
  unfold SumIs
  obtain ⟨Am, cm, rfl, _, _⟩ := hm.form
  obtain ⟨Aa, ca, rfl, _, _⟩ := ha.form
  obtain ⟨At, ct, rfl, _, _⟩ := ht.form
  have htl := tagB_length mac nonce ad text
  generalize hN : w.heap.size = N at *
  obtain ⟨W1, hW1⟩ : ∃ W1, W1 = (w.alloc (.cells (Lib.byteCells nonce).toArray 23)).alloc (.cells (Lib.byteCells (List.replicate 32 0)).toArray 22) := ⟨_, rfl⟩
  have hb1 : Below N w W1 := by rw [hW1]; exact ((Below.refl N w).alloc (by omega) _).alloc (by rw [asz]; omega) _
  have hzW : W1.heap.size = N + 2 := by rw [hW1, asz, asz, hN]
  have HC : Shh (Sl W1 W1.heap.size (.slice Am mac.length cm) mac ∧ Sl W1 W1.heap.size (.slice Aa ad.length ca) ad ∧ Sl W1 W1.heap.size (.slice At text.length ct) text ∧ Row W1 N 23 (Lib.byteCells nonce) ∧ Row W1 (N + 1) 22 (Lib.byteCells (List.replicate 32 0)) ∧ Vars W1 ∧ Below N w W1 ∧ W1.heap.size = N + 2) :=
    ⟨(hm.below (hb1.mono hB)).more (by omega), (ha.below (hb1.mono hB)).more (by omega), (ht.below (hb1.mono hB)).more (by omega), by rw [hW1]; exact (Row.new_ hN.symm rfl).alloc _, by rw [hW1]; exact Row.new_ (by rw [asz, hN]) rfl, hv.step (by rw [hN]; exact hb1), hb1, hzW⟩
  have qa : IntKind.u64.wrap (ad.length : Int) = (ad.length : Int) := by rw [IntKind.wrap_u64]; omega
  have qt : IntKind.u64.wrap (text.length : Int) = (text.length : Int) := by rw [IntKind.wrap_u64]; omega
  clear hm ha ht hv hb1 hzW
  go_enter Tryd.func20, Tryd.ntmps20
  go_wp2
  refine wp_region_held_drew (S := fun _ => True) (by kernel_rfl) trivial (fun hS => ?_)
  have HD : Shh (Sl W1.drew W1.drew.heap.size (.slice Am mac.length cm) mac ∧ Sl W1.drew W1.drew.heap.size (.slice Aa ad.length ca) ad ∧ Sl W1.drew W1.drew.heap.size (.slice At text.length ct) text ∧ Row W1.drew N 23 (Lib.byteCells nonce) ∧ Row W1.drew (N + 1) 22 (Lib.byteCells (List.replicate 32 0)) ∧ Vars W1.drew ∧ Below N w W1.drew ∧ W1.drew.heap.size = N + 2) :=
    ⟨HC.out.1, HC.out.2.1, HC.out.2.2.1, HC.out.2.2.2.1, HC.out.2.2.2.2.1, HC.out.2.2.2.2.2.1, HC.out.2.2.2.2.2.2.1.drew, HC.out.2.2.2.2.2.2.2⟩
  clear HC
  rw [hW1, ← zero32b] at HD
  generalize World.drew _ = W at HD ⊢
  obtain ⟨HM, HA, HT, HNR, rR, HVA, HBW, hzW⟩ := HD.out
  refine held_value 0 _ _ (some 9) (.slice Am mac.length cm) (by kernel_rfl) (by rfl) (by kernel_rfl) (fun w hS => by first | kernel_rfl | go_simp) (fun _ _ _ _ h => h) (trivial) ?_
  simp only [Act.put, List.setIfInBounds_toArray, List.set_cons_zero, List.set_cons_succ]
  refine held_value 1 _ _ (some 10) (.slice (some ⟨N, 0, none⟩) 12 12) (by kernel_rfl) (by rfl) (by kernel_rfl) (fun w hS => by first | kernel_rfl | go_simp) (fun _ _ _ _ h => h) (trivial) ?_
  simp only [Act.put, List.setIfInBounds_toArray, List.set_cons_zero, List.set_cons_succ]
  refine held_value 2 _ _ (some 11) (.slice Aa ad.length ca) (by kernel_rfl) (by rfl) (by kernel_rfl) (fun w hS => by first | kernel_rfl | go_simp) (fun _ _ _ _ h => h) (trivial) ?_
  simp only [Act.put, List.setIfInBounds_toArray, List.set_cons_zero, List.set_cons_succ]
  refine held_value 3 _ _ (some 12) (.int .i64 (ad.length : Int)) (by kernel_rfl) (by rfl) (by kernel_rfl) (fun w hS => by first | kernel_rfl | go_simp) (fun _ _ _ _ h => h) (trivial) ?_
  simp only [Act.put, List.setIfInBounds_toArray, List.set_cons_zero, List.set_cons_succ]
  refine held_value 4 _ _ (some 13) (.int .u64 (ad.length : Int)) (by kernel_rfl) (by rfl) (by kernel_rfl) (fun w hS => by go_simp) (fun _ _ _ _ h => h) (trivial) ?_
  simp only [Act.put, List.setIfInBounds_toArray, List.set_cons_zero, List.set_cons_succ]
  refine held_value 6 _ _ (some 15) (.slice Aa ad.length ca) (by kernel_rfl) (by rfl) (by kernel_rfl) (fun w hS => by first | kernel_rfl | go_simp) (fun _ _ _ _ h => h) (trivial) ?_
  simp only [Act.put, List.setIfInBounds_toArray, List.set_cons_zero, List.set_cons_succ]
  refine held_value 7 _ _ (some 16) (.slice At text.length ct) (by kernel_rfl) (by rfl) (by kernel_rfl) (fun w hS => by first | kernel_rfl | go_simp) (fun _ _ _ _ h => h) (trivial) ?_
  simp only [Act.put, List.setIfInBounds_toArray, List.set_cons_zero, List.set_cons_succ]
  refine held_value 8 _ _ (some 17) (.int .i64 (text.length : Int)) (by kernel_rfl) (by rfl) (by kernel_rfl) (fun w hS => by first | kernel_rfl | go_simp) (fun _ _ _ _ h => h) (trivial) ?_
  simp only [Act.put, List.setIfInBounds_toArray, List.set_cons_zero, List.set_cons_succ]
  refine held_value 9 _ _ (some 18) (.int .u64 (text.length : Int)) (by kernel_rfl) (by rfl) (by kernel_rfl) (fun w hS => by go_simp) (fun _ _ _ _ h => h) (trivial) ?_
  simp only [Act.put, List.setIfInBounds_toArray, List.set_cons_zero, List.set_cons_succ]
  refine held_value 11 _ _ (some 20) (.slice At text.length ct) (by kernel_rfl) (by rfl) (by kernel_rfl) (fun w hS => by first | kernel_rfl | go_simp) (fun _ _ _ _ h => h) (trivial) ?_
  simp only [Act.put, List.setIfInBounds_toArray, List.set_cons_zero, List.set_cons_succ]
  refine held_one 5 (by kernel_rfl) ?_
  refine step_call 5 _ _ (some 14) 45 #[.int .u64 (ad.length : Int)] (by rfl) (by kernel_rfl) (by first | kernel_rfl | go_simp) ?_
  refine (u64_any ad.length W).mono ?_
  rintro e Y1 ⟨v14, rfl, g14⟩
  have bx : Below W.heap.size W Y1 := g14.2
  have s14 := gives_sl g14
  clear g14
  obtain ⟨A14, c14, rfl, _, _⟩ := s14.form
  have b_W := bx
  have m_Y1 : W.heap.size ≤ Y1.heap.size := bx.size
  clear bx
  refine ⟨_, rfl, trivial, ?_⟩
  simp only [Act.put, List.setIfInBounds_toArray, List.set_cons_zero, List.set_cons_succ]
  refine held_one 10 (by kernel_rfl) ?_
  refine step_call 10 _ _ (some 19) 45 #[.int .u64 (text.length : Int)] (by rfl) (by kernel_rfl) (by first | kernel_rfl | go_simp) ?_
  refine (u64_any text.length Y1).mono ?_
  rintro e Y2 ⟨v19, rfl, g19⟩
  have bx : Below Y1.heap.size Y1 Y2 := g19.2
  have s19 := gives_sl g19
  clear g19
  obtain ⟨A19, c19, rfl, _, _⟩ := s19.form
  replace b_W := Below.chain b_W bx
  have b_Y1 := bx
  have m_Y2 : Y1.heap.size ≤ Y2.heap.size := bx.size
  clear bx
  refine ⟨_, rfl, trivial, ?_⟩
  simp only [Act.put, List.setIfInBounds_toArray, List.set_cons_zero, List.set_cons_succ]
  refine held_one 12 (by kernel_rfl) ?_
  refine step_value 12 _ _ (some 21) (.slice (some ⟨Y2.heap.size, 0, none⟩) 5 5) (Y2.alloc (.cells #[.slice (some ⟨N, 0, none⟩) 12 12, .slice A14 (bigB ad.length 8).length c14, .slice Aa ad.length ca, .slice A19 (bigB text.length 8).length c19, .slice At text.length ct] 24)) (by rfl) (by kernel_rfl) (by first | kernel_rfl | go_simp) (trivial) ?_
  simp only [Act.put, List.setIfInBounds_toArray, List.set_cons_zero, List.set_cons_succ]
  have bx : Below Y2.heap.size Y2 (Y2.alloc (.cells #[.slice (some ⟨N, 0, none⟩) 12 12, .slice A14 (bigB ad.length 8).length c14, .slice Aa ad.length ca, .slice A19 (bigB text.length 8).length c19, .slice At text.length ct] 24)) := Below.alloc (Below.refl _ _) (Nat.le_refl _) _
  have rP : Row (Y2.alloc (.cells #[.slice (some ⟨N, 0, none⟩) 12 12, .slice A14 (bigB ad.length 8).length c14, .slice Aa ad.length ca, .slice A19 (bigB text.length 8).length c19, .slice At text.length ct] 24)) Y2.heap.size 24 [.slice (some ⟨N, 0, none⟩) 12 12, .slice A14 (bigB ad.length 8).length c14, .slice Aa ad.length ca, .slice A19 (bigB text.length 8).length c19, .slice At text.length ct] := Row.new_ rfl rfl
  have z_rP := asz Y2 (.cells #[.slice (some ⟨N, 0, none⟩) 12 12, .slice A14 (bigB ad.length 8).length c14, .slice Aa ad.length ca, .slice A19 (bigB text.length 8).length c19, .slice At text.length ct] 24)
  generalize Y2.alloc (.cells #[.slice (some ⟨N, 0, none⟩) 12 12, .slice A14 (bigB ad.length 8).length c14, .slice Aa ad.length ca, .slice A19 (bigB text.length 8).length c19, .slice At text.length ct] 24) = Y3 at *
  replace b_W := Below.chain b_W bx
  replace b_Y1 := Below.chain b_Y1 bx
  have b_Y2 := bx
  have m_Y3 : Y2.heap.size ≤ Y3.heap.size := bx.size
  clear bx
  refine held_one 13 (by kernel_rfl) ?_
  refine step_call 13 _ _ (some 22) 44 #[.slice Am mac.length cm, .slice (some ⟨Y2.heap.size, 0, none⟩) 5 5] (by rfl) (by kernel_rfl) (by first | kernel_rfl | go_simp) ?_
  refine (mac_any Y3.heap.size _ _ mac (tagParts nonce ad text) Y3 (HM.go b_W) (PartsO.five rP.lt (Nat.ne_of_lt rP.lt) rP ((HNR.go b_W).sl hnl (by omega)) (((HNR.go b_W).sl hnl (by omega)).off (Nat.le_refl _)) (s14.go b_Y1) ((s14.go b_Y1).off (Nat.le_refl _)) (HA.go b_W) ((HA.go b_W).off (Nat.le_refl _)) (s19.go b_Y2) ((s19.go b_Y2).off (Nat.le_refl _)) (HT.go b_W) ((HT.go b_W).off (Nat.le_refl _))) (Nat.le_refl _) (HVA.go b_W) hml (by rw [tagParts_length]; omega) (by simp [tagParts])).mono ?_
  rintro e Y4 ⟨rfl, bx⟩
  have bx : Below Y3.heap.size Y3 Y4 := bx
  replace b_W := Below.chain b_W bx
  replace b_Y1 := Below.chain b_Y1 bx
  replace b_Y2 := Below.chain b_Y2 bx
  have b_Y3 := bx
  have m_Y4 : Y3.heap.size ≤ Y4.heap.size := bx.size
  clear bx
  refine ⟨_, rfl, trivial, ?_⟩
  simp only [Act.put, List.setIfInBounds_toArray, List.set_cons_zero, List.set_cons_succ]
  refine held_one 14 (by kernel_rfl) ?_
  refine step_storeRow 14 22 (.tmp 8) (.tmp 22) (by rfl) (by kernel_rfl) (_) rfl (Lib.byteCells (tagB mac nonce ad text)) rfl 22 (Lib.byteCells (List.replicate 32 0)) (rR.go b_W) (info_b32.trans (size_bytes _ _ htl)) (by rw [Lib.byteCells_length, Lib.byteCells_length, htl]; rfl) (cell_oneCell _) ?_
  intro Y5 rS bt zt
  refine ⟨trivial, ?_⟩
  refine wpAnyH_done (by kernel_rfl) ?_ _
  have F : Shh (Row Y5 (N + 1) 22 (Lib.byteCells (tagB mac nonce ad text)) ∧ Below N w Y5) := ⟨rS, (HBW.trans (b_W.mono (by omega))).trans (bt.under (by omega) (by omega))⟩
  clear zt bt rS m_Y4 b_Y3 m_Y3 b_Y2 z_rP rP m_Y2 b_Y1 s19 m_Y1 b_W s14
  go_wp2
  exact ret_row Tryd.results20 rfl rfl F.out.1 Tryd.underlying22 rfl (info_b32.trans (size_bytes _ _ htl)) ⟨rfl, F.out.2⟩
end Go.Proofs.YtaalmjcpaiihhaaDoor
