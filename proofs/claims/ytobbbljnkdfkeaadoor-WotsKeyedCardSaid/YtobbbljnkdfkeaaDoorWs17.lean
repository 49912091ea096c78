/-
  LAW over contracts of the program's own functions: Keyed.
-/
import Derived.Test.YtobbbljnkdfkeaaDoorWs12
namespace Go.Proofs.YtobbbljnkdfkeaaDoor
open Go.RowKit
set_option maxRecDepth 100000
set_option maxHeartbeats 2000000 in
theorem wotsKeyed_of (x : S5) (hw : x.wf) (vk : Value) (vm : Value) (key m : List UInt8) (a : List UInt32) (ha : a.length = 8) (w : World) (hk : Sl w w.heap.size vk key) (hm : Sl w w.heap.size vm m) (ht : Tabs w)
    (hlive : ∀ W, Tabs W → Calls Tryd.prog 9 #[] W (TrueIs W))
    (hF : few10B [key, m] = true → ∀ W, Tabs W → Sl W W.heap.size vk key → Sl W W.heap.size vm m → Calls Tryd.prog 13 #[x.v, vk, vm] W (SlIs W (sumK x 0 key m)))
    (hH : few10B [key, m] = true → ∀ W, Tabs W → Sl W W.heap.size vk key → Sl W W.heap.size vm m → Calls Tryd.prog 15 #[x.v, vk, vm] W (SlIs W (sumK x 1 key m)))
    (hHMsg : few10B [key, m] = true → ∀ W, Tabs W → Sl W W.heap.size vk key → Sl W W.heap.size vm m → Calls Tryd.prog 16 #[x.v, vk, vm] W (SlIs W (sumK x 2 key m)))
    (hPrf : few10B [key, m] = true → ∀ W, Tabs W → Sl W W.heap.size vk key → Sl W W.heap.size vm m → Calls Tryd.prog 17 #[x.v, vk, vm] W (SlIs W (sumK x 3 key m)))
    (hPrfKeygen : few10B [key, m] = true → ∀ W, Tabs W → Sl W W.heap.size vk key → Sl W W.heap.size vm m → Calls Tryd.prog 18 #[x.v, vk, vm] W (SlIs W (sumK x 4 key m)))
    (hBy : ∀ W, Calls Tryd.prog 11 #[adrV a] W (SumIs W (adrB a))) :
    Calls Tryd.prog 3 #[x.v, vk, vm, adrV a] w (TrueIs w) := by
  unfold TrueIs
  obtain ⟨Ak, ck, rfl, _, _⟩ := hk.form
  obtain ⟨Am, cm, rfl, _, _⟩ := hm.form
  obtain ⟨o0, ho0⟩ : ∃ o, o = sumK x 0 key m := ⟨_, rfl⟩
  obtain ⟨o1, ho1⟩ : ∃ o, o = sumK x 1 key m := ⟨_, rfl⟩
  obtain ⟨o2, ho2⟩ : ∃ o, o = sumK x 2 key m := ⟨_, rfl⟩
  obtain ⟨o3, ho3⟩ : ∃ o, o = sumK x 3 key m := ⟨_, rfl⟩
  obtain ⟨o4, ho4⟩ : ∃ o, o = sumK x 4 key m := ⟨_, rfl⟩
  obtain ⟨ob, hob⟩ : ∃ o, o = adrB a := ⟨_, rfl⟩
  have HOB : Shh (ob.length = 32) := ⟨by rw [hob, adrB_length, ha]⟩
  have HP : Shh (few10B [key, m] = true → (∀ W, Tabs W → Sl W W.heap.size (.slice Ak key.length ck) key → Sl W W.heap.size (.slice Am m.length cm) m → Calls Tryd.prog 13 #[x.v, .slice Ak key.length ck, .slice Am m.length cm] W (SlIs W o0)) ∧ (∀ W, Tabs W → Sl W W.heap.size (.slice Ak key.length ck) key → Sl W W.heap.size (.slice Am m.length cm) m → Calls Tryd.prog 15 #[x.v, .slice Ak key.length ck, .slice Am m.length cm] W (SlIs W o1)) ∧ (∀ W, Tabs W → Sl W W.heap.size (.slice Ak key.length ck) key → Sl W W.heap.size (.slice Am m.length cm) m → Calls Tryd.prog 16 #[x.v, .slice Ak key.length ck, .slice Am m.length cm] W (SlIs W o2)) ∧ (∀ W, Tabs W → Sl W W.heap.size (.slice Ak key.length ck) key → Sl W W.heap.size (.slice Am m.length cm) m → Calls Tryd.prog 17 #[x.v, .slice Ak key.length ck, .slice Am m.length cm] W (SlIs W o3)) ∧ (∀ W, Tabs W → Sl W W.heap.size (.slice Ak key.length ck) key → Sl W W.heap.size (.slice Am m.length cm) m → Calls Tryd.prog 18 #[x.v, .slice Ak key.length ck, .slice Am m.length cm] W (SlIs W o4)) ∧ (∀ W, Calls Tryd.prog 11 #[adrV a] W (SumIs W ob)) ∧ (∀ W, Calls Tryd.prog 19 #[adrV a] W (OwnIs W ob))) := by
    rw [ho0, ho1, ho2, ho3, ho4, hob]
    exact ⟨fun hf => ⟨hF hf, hH hf, hHMsg hf, hPrf hf, hPrfKeygen hf, hBy, fun W => refBytes10_any a ha W⟩⟩
  have HR : Shh (few10B [key, m] = true → (∀ W, Sl W W.heap.size (.slice Ak key.length ck) key → Sl W W.heap.size (.slice Am m.length cm) m → Calls Tryd.prog 14 #[x.v, .int .i64 0, .slice Ak key.length ck, .slice Am m.length cm] W (SlIs W o0)) ∧ (∀ W, Sl W W.heap.size (.slice Ak key.length ck) key → Sl W W.heap.size (.slice Am m.length cm) m → Calls Tryd.prog 14 #[x.v, .int .i64 1, .slice Ak key.length ck, .slice Am m.length cm] W (SlIs W o1)) ∧ (∀ W, Sl W W.heap.size (.slice Ak key.length ck) key → Sl W W.heap.size (.slice Am m.length cm) m → Calls Tryd.prog 14 #[x.v, .int .i64 2, .slice Ak key.length ck, .slice Am m.length cm] W (SlIs W o2)) ∧ (∀ W, Sl W W.heap.size (.slice Ak key.length ck) key → Sl W W.heap.size (.slice Am m.length cm) m → Calls Tryd.prog 14 #[x.v, .int .i64 3, .slice Ak key.length ck, .slice Am m.length cm] W (SlIs W o3)) ∧ (∀ W, Sl W W.heap.size (.slice Ak key.length ck) key → Sl W W.heap.size (.slice Am m.length cm) m → Calls Tryd.prog 14 #[x.v, .int .i64 4, .slice Ak key.length ck, .slice Am m.length cm] W (SlIs W o4))) := ⟨fun hf => by
    have l1 := few10_yes hf key (by simp)
    have l2 := few10_yes hf m (by simp)
    rw [ho0, ho1, ho2, ho3, ho4]
    exact ⟨fun W h1 h2 => refSumK_any x hw 0 (by decide) _ _ key m W h1 h2 (by omega) (by omega), fun W h1 h2 => refSumK_any x hw 1 (by decide) _ _ key m W h1 h2 (by omega) (by omega), fun W h1 h2 => refSumK_any x hw 2 (by decide) _ _ key m W h1 h2 (by omega) (by omega), fun W h1 h2 => refSumK_any x hw 3 (by decide) _ _ key m W h1 h2 (by omega) (by omega), fun W h1 h2 => refSumK_any x hw 4 (by decide) _ _ key m W h1 h2 (by omega) (by omega)⟩⟩
  clear ho0 ho1 ho2 ho3 ho4 hob
  have HT : Shh (∀ W, Tabs W → Calls Tryd.prog 9 #[] W (TrueIs W)) := ⟨hlive⟩
  obtain ⟨W, hW⟩ : ∃ W, W = (w.alloc (.cells #[.int .u32 x.c, .bool x.s, .int .i64 x.n, .int .i64 x.h, .int .i64 x.l] 24)).alloc (.cells (wordCells a).toArray 27) := ⟨_, rfl⟩
  have HW : Shh (Row W w.heap.size 24 [.int .u32 x.c, .bool x.s, .int .i64 x.n, .int .i64 x.h, .int .i64 x.l] ∧ Row W (w.heap.size + 1) 27 (wordCells a) ∧ Sl W W.heap.size (.slice Ak key.length ck) key ∧ Sl W W.heap.size (.slice Am m.length cm) m ∧ Tabs W ∧ Below w.heap.size w W) := by
    rw [hW]
    exact ⟨(Row.new_ rfl rfl).alloc _, Row.new_ (by rw [asz]) rfl, (hk.go (below1 _ _)).go (below1 _ _), (hm.go (below1 _ _)).go (below1 _ _), (ht.go (below1 _ _)).go (below1 _ _), Below.chain (below1 _ _) (below1 _ _)⟩
  clear hk hm ht hlive hF hH hHMsg hPrf hPrfKeygen hBy hw
  have HA : Shh ((wordCells a).length = 8) := ⟨by rw [wordCells_length]; exact ha⟩
  unfold S5.v adrV at HP
  unfold S5.v at HR
  unfold S5.v adrV
  generalize wordCells a = L at HP HA HW hW ⊢
  generalize x.c = xc at *
  generalize x.s = xs at *
  generalize x.n = xn at *
  generalize x.h = xh at *
  generalize x.l = xl at *
  go_enter Tryd.func3, Tryd.ntmps3
  go_wp2_with fail
  rw [← hW]
  clear hW
  go_at_call 9
  refine (HT.out _ HW.out.2.2.2.2.1).mono ?_
  unfold TrueIs
  rintro e w2 ⟨rfl, b2⟩
  have H2 : Shh (Row w2 w.heap.size 24 [.int .u32 xc, .bool xs, .int .i64 xn, .int .i64 xh, .int .i64 xl] ∧ Row w2 (w.heap.size + 1) 27 L ∧ Sl w2 w2.heap.size (.slice Ak key.length ck) key ∧ Sl w2 w2.heap.size (.slice Am m.length cm) m ∧ Tabs w2 ∧ Below w.heap.size w w2) := ⟨HW.out.1.go b2, HW.out.2.1.go b2, HW.out.2.2.1.go b2, HW.out.2.2.2.1.go b2, HW.out.2.2.2.2.1.go b2, Below.chain HW.out.2.2.2.2.2 b2⟩
  clear b2 HW
  cases hf : few10B [key, m] with
  | false =>
    go_wp2_with (go_at_call 10; refine (few10_any (w2.heap.size + 1) (w2.heap.size + 1) _ [key, m] _ (PartsO.two (q := w2.heap.size) (n := 2) (Nat.lt_succ_self _) (by omega) (Row.new_ rfl rfl) ((H2.out.2.2.1.below (below1 _ _)).more (by omega)) (H2.out.2.2.1.off (by omega)) ((H2.out.2.2.2.1.below (below1 _ _)).more (by omega)) (H2.out.2.2.2.1.off (by omega))) (by simp)).mono ?_)
    rw [hf]
    rintro e w3 ⟨rfl, rfl⟩
    have H3 : Shh (Tabs (w2.alloc (.cells #[.slice Ak key.length ck, .slice Am m.length cm] 25)) ∧ Below w.heap.size w (w2.alloc (.cells #[.slice Ak key.length ck, .slice Am m.length cm] 25))) := ⟨H2.out.2.2.2.2.1.go (below1 _ _), Below.chain H2.out.2.2.2.2.2 (below1 _ _)⟩
    clear H2 hf
    go_wp2_with (go_at_call 9; refine (HT.out _ H3.out.1).mono ?_)
    unfold TrueIs
    rintro e w4 ⟨rfl, b4⟩
    have H4 : Shh (Below w.heap.size w w4) := ⟨Below.chain H3.out.2 b4⟩
    clear b4 H3
    go_wp2
    go_ret
    exact ⟨rfl, H4.out⟩
  | true =>
    go_wp2_with (go_at_call 10; refine (few10_any (w2.heap.size + 1) (w2.heap.size + 1) _ [key, m] _ (PartsO.two (q := w2.heap.size) (n := 2) (Nat.lt_succ_self _) (by omega) (Row.new_ rfl rfl) ((H2.out.2.2.1.below (below1 _ _)).more (by omega)) (H2.out.2.2.1.off (by omega)) ((H2.out.2.2.2.1.below (below1 _ _)).more (by omega)) (H2.out.2.2.2.1.off (by omega))) (by simp)).mono ?_)
    rw [hf]
    rintro e w3 ⟨rfl, rfl⟩
    have H3 : Shh (Row (w2.alloc (.cells #[.slice Ak key.length ck, .slice Am m.length cm] 25)) w.heap.size 24 [.int .u32 xc, .bool xs, .int .i64 xn, .int .i64 xh, .int .i64 xl] ∧ Row (w2.alloc (.cells #[.slice Ak key.length ck, .slice Am m.length cm] 25)) (w.heap.size + 1) 27 L ∧ Sl (w2.alloc (.cells #[.slice Ak key.length ck, .slice Am m.length cm] 25)) (w2.alloc (.cells #[.slice Ak key.length ck, .slice Am m.length cm] 25)).heap.size (.slice Ak key.length ck) key ∧ Sl (w2.alloc (.cells #[.slice Ak key.length ck, .slice Am m.length cm] 25)) (w2.alloc (.cells #[.slice Ak key.length ck, .slice Am m.length cm] 25)).heap.size (.slice Am m.length cm) m ∧ Tabs (w2.alloc (.cells #[.slice Ak key.length ck, .slice Am m.length cm] 25)) ∧ Below w.heap.size w (w2.alloc (.cells #[.slice Ak key.length ck, .slice Am m.length cm] 25))) := ⟨H2.out.1.go (below1 _ _), H2.out.2.1.go (below1 _ _), H2.out.2.2.1.go (below1 _ _), H2.out.2.2.2.1.go (below1 _ _), H2.out.2.2.2.2.1.go (below1 _ _), Below.chain H2.out.2.2.2.2.2 (below1 _ _)⟩
    have HQ := Shh.mk (HR.out hf)
    have HP2 := Shh.mk (HP.out hf)
    clear H2 hf HT HR HP
    generalize hZ : w2.alloc _ = Z3 at H3 ⊢
    clear hZ
    have hbl : ob.length = 32 := HOB.out
    go_wp2_with (first | refine wpList_load_any rfl 24 (.tmp 4) rfl w.heap.size rfl 24 [.int .u32 xc, .bool xs, .int .i64 xn, .int .i64 xh, .int .i64 xl] _ H3.out.1 Tryd.underlying24 rfl info_xms ?_ | refine wpList_load_any rfl 27 (.tmp 7) rfl (w.heap.size + 1) rfl 27 L _ H3.out.2.1 Tryd.underlying27 rfl (info_adr10 HA.out) ?_ | (go_at_call 11; refine (HP2.out.2.2.2.2.2.1 _).mono ?_))
    rintro e w4 ⟨rfl, b4⟩
    have H4 : Shh (Row w4 w.heap.size 24 [.int .u32 xc, .bool xs, .int .i64 xn, .int .i64 xh, .int .i64 xl] ∧ Row w4 (w.heap.size + 1) 27 L ∧ Sl w4 w4.heap.size (.slice Ak key.length ck) key ∧ Sl w4 w4.heap.size (.slice Am m.length cm) m ∧ Tabs w4 ∧ Below w.heap.size w w4) := ⟨H3.out.1.go b4, H3.out.2.1.go b4, H3.out.2.2.1.go b4, H3.out.2.2.2.1.go b4, H3.out.2.2.2.2.1.go b4, Below.chain H3.out.2.2.2.2.2 b4⟩
    clear b4 H3
    go_wp2_with (refine wpList_store_any rfl 30 (.tmp 9) (.tmp 21) rfl w4.heap.size rfl (Lib.byteCells ob) rfl 30 (Lib.byteCells (List.replicate 32 0)) (Row.new_ rfl zero32b) (info_b32.trans (size_bytes _ _ hbl)) (by rw [Lib.byteCells_length, Lib.byteCells_length, hbl]; rfl) (cell_oneCell _) ?_)
    intro Z hr bt _
    have bZ : Below w4.heap.size w4 Z := (below1 w4 _).trans (bt.under (by first | omega | (rw [asz]; omega)) (Nat.le_refl _))
    have H5 : Shh (Row Z w.heap.size 24 [.int .u32 xc, .bool xs, .int .i64 xn, .int .i64 xh, .int .i64 xl] ∧ Row Z (w.heap.size + 1) 27 L ∧ Sl Z Z.heap.size (.slice Ak key.length ck) key ∧ Sl Z Z.heap.size (.slice Am m.length cm) m ∧ Tabs Z ∧ Below w.heap.size w Z) := ⟨H4.out.1.go bZ, H4.out.2.1.go bZ, H4.out.2.2.1.go bZ, H4.out.2.2.2.1.go bZ, H4.out.2.2.2.2.1.go bZ, Below.chain H4.out.2.2.2.2.2 bZ⟩
    have HBB : Shh (Row Z w4.heap.size 30 (Lib.byteCells ob)) := ⟨hr⟩
    obtain ⟨nB, hnB⟩ : ∃ nB, nB = w4.heap.size := ⟨_, rfl⟩
    rw [← hnB] at HBB ⊢
    clear hr bt bZ H4 hnB
    go_wp2_with fail
    refine wp_region_held_drew (S := fun w' => Row w' w.heap.size 24 [.int .u32 xc, .bool xs, .int .i64 xn, .int .i64 xh, .int .i64 xl] ∧ Row w' (w.heap.size + 1) 27 L) (by kernel_rfl) ⟨H5.out.1.drew, H5.out.2.1.drew⟩ (fun hS => ?_)
    clear hS
    obtain ⟨V, hV⟩ : ∃ V, V = World.drew Z := ⟨_, rfl⟩
    rw [← hV]
    have rX : Row V w.heap.size 24 [.int .u32 xc, .bool xs, .int .i64 xn, .int .i64 xh, .int .i64 xl] := by rw [hV]; exact H5.out.1.drew
    have rA : Row V (w.heap.size + 1) 27 L := by rw [hV]; exact H5.out.2.1.drew
    have sK : Sl V V.heap.size (.slice Ak key.length ck) key := by rw [hV]; exact H5.out.2.2.1.drew
    have sM : Sl V V.heap.size (.slice Am m.length cm) m := by rw [hV]; exact H5.out.2.2.2.1.drew
    have rT : Tabs V := by rw [hV]; exact H5.out.2.2.2.2.1
    have rB : Row V nB 30 (Lib.byteCells ob) := by rw [hV]; exact HBB.out.drew
    have HBV : Below w.heap.size w V := by rw [hV]; exact H5.out.2.2.2.2.2.drew
    clear hV H5 HBB
    refine held_value 1 _ _ (some 23) (.slice Ak key.length ck) (by kernel_rfl) (by rfl) (by kernel_rfl) (fun w hS => by first | kernel_rfl | go_simp) (fun _ _ _ _ h => h) (⟨rX, rA⟩) ?_
    simp only [Act.put, List.setIfInBounds_toArray, List.set_cons_zero, List.set_cons_succ]
    refine held_value 2 _ _ (some 24) (.slice Am m.length cm) (by kernel_rfl) (by rfl) (by kernel_rfl) (fun w hS => by first | kernel_rfl | go_simp) (fun _ _ _ _ h => h) (⟨rX, rA⟩) ?_
    simp only [Act.put, List.setIfInBounds_toArray, List.set_cons_zero, List.set_cons_succ]
    refine held_value 5 _ _ (some 27) (.slice Ak key.length ck) (by kernel_rfl) (by rfl) (by kernel_rfl) (fun w hS => by first | kernel_rfl | go_simp) (fun _ _ _ _ h => h) (⟨rX, rA⟩) ?_
    simp only [Act.put, List.setIfInBounds_toArray, List.set_cons_zero, List.set_cons_succ]
    refine held_value 6 _ _ (some 28) (.slice Am m.length cm) (by kernel_rfl) (by rfl) (by kernel_rfl) (fun w hS => by first | kernel_rfl | go_simp) (fun _ _ _ _ h => h) (⟨rX, rA⟩) ?_
    simp only [Act.put, List.setIfInBounds_toArray, List.set_cons_zero, List.set_cons_succ]
    refine held_load 0 24 (.tmp 4) (some 22) (by kernel_rfl) (by rfl) (by kernel_rfl) w.heap.size 0 (by kernel_rfl) ([.int .u32 xc, .bool xs, .int .i64 xn, .int .i64 xh, .int .i64 xl]) _ (fun w h => h.1.range) Tryd.underlying24 rfl (info_xms) (fun _ _ _ _ h => h) (⟨rX, rA⟩) ?_
    simp only [Act.put, List.setIfInBounds_toArray, List.set_cons_zero, List.set_cons_succ]
    refine held_load 4 24 (.tmp 4) (some 26) (by kernel_rfl) (by rfl) (by kernel_rfl) w.heap.size 0 (by kernel_rfl) ([.int .u32 xc, .bool xs, .int .i64 xn, .int .i64 xh, .int .i64 xl]) _ (fun w h => h.1.range) Tryd.underlying24 rfl (info_xms) (fun _ _ _ _ h => h) (⟨rX, rA⟩) ?_
    simp only [Act.put, List.setIfInBounds_toArray, List.set_cons_zero, List.set_cons_succ]
    refine held_one 3 (by kernel_rfl) ?_
    refine step_call 3 _ _ (some 25) 13 #[.agg ([.int .u32 xc, .bool xs, .int .i64 xn, .int .i64 xh, .int .i64 xl]).toArray, .slice Ak key.length ck, .slice Am m.length cm] (by rfl) (by kernel_rfl) (by first | kernel_rfl | go_simp) ?_
    refine (HP2.out.1 V (rT) (sK) (sM)).mono ?_
    rintro e Y1 ⟨v, rfl, gv, bv⟩
    have bx : Below V.heap.size V Y1 := bv
    obtain ⟨A0a, c0a, vEq, _, _⟩ := gv.form
    subst vEq
    have sP0 := gv
    clear gv
    have b_V := bx
    have m_Y1 : V.heap.size ≤ Y1.heap.size := bx.size
    clear bx
    refine ⟨_, rfl, ⟨(rX.go b_V), (rA.go b_V)⟩, ?_⟩
    simp only [Act.put, List.setIfInBounds_toArray, List.set_cons_zero, List.set_cons_succ]
    refine held_one 7 (by kernel_rfl) ?_
    refine step_call 7 _ _ (some 29) 14 #[.agg ([.int .u32 xc, .bool xs, .int .i64 xn, .int .i64 xh, .int .i64 xl]).toArray, .int .i64 0, .slice Ak key.length ck, .slice Am m.length cm] (by rfl) (by kernel_rfl) (by first | kernel_rfl | go_simp) ?_
    refine (HQ.out.1 Y1 ((sK.go b_V)) ((sM.go b_V))).mono ?_
    rintro e Y2 ⟨v, rfl, gv, bv⟩
    have bx : Below Y1.heap.size Y1 Y2 := bv
    obtain ⟨A0b, c0b, vEq, _, _⟩ := gv.form
    subst vEq
    have sQ0 := gv
    clear gv
    replace b_V := Below.chain b_V bx
    have b_Y1 := bx
    have m_Y2 : Y1.heap.size ≤ Y2.heap.size := bx.size
    clear bx
    refine ⟨_, rfl, ⟨(rX.go b_V), (rA.go b_V)⟩, ?_⟩
    simp only [Act.put, List.setIfInBounds_toArray, List.set_cons_zero, List.set_cons_succ]
    refine held_one 8 (by kernel_rfl) ?_
    refine step_call 8 _ _ (some 30) 12 #[.slice A0a o0.length c0a, .slice A0b o0.length c0b] (by rfl) (by kernel_rfl) (by first | kernel_rfl | go_simp) ?_
    refine (show Calls Tryd.prog 12 #[.slice A0a o0.length c0a, .slice A0b o0.length c0b] Y2 (fun e w' => e = .returned (.bool true) ∧ Y2 = w') by have h := refEqual_any Y2.heap.size Y2.heap.size _ _ o0 o0 Y2 ((sP0.go b_Y1)) (sQ0); rw [show (o0 == o0) = true by simp] at h; exact h).mono ?_
    rintro e Y3 ⟨rfl, hq⟩
    obtain rfl : Y2 = Y3 := hq
    refine ⟨_, rfl, ⟨(rX.go b_V), (rA.go b_V)⟩, ?_⟩
    simp only [Act.put, List.setIfInBounds_toArray, List.set_cons_zero, List.set_cons_succ]
    refine held_value 9 _ _ (some 31) (.bool true) (by kernel_rfl) (by rfl) (by kernel_rfl) (fun w hS => by first | kernel_rfl | go_simp) (fun _ _ _ _ h => h) (⟨(rX.go b_V), (rA.go b_V)⟩) ?_
    simp only [Act.put, List.setIfInBounds_toArray, List.set_cons_zero, List.set_cons_succ]
    refine held_value 11 _ _ (some 33) (.slice Ak key.length ck) (by kernel_rfl) (by rfl) (by kernel_rfl) (fun w hS => by first | kernel_rfl | go_simp) (fun _ _ _ _ h => h) (⟨(rX.go b_V), (rA.go b_V)⟩) ?_
    simp only [Act.put, List.setIfInBounds_toArray, List.set_cons_zero, List.set_cons_succ]
    refine held_value 12 _ _ (some 34) (.slice Am m.length cm) (by kernel_rfl) (by rfl) (by kernel_rfl) (fun w hS => by first | kernel_rfl | go_simp) (fun _ _ _ _ h => h) (⟨(rX.go b_V), (rA.go b_V)⟩) ?_
    simp only [Act.put, List.setIfInBounds_toArray, List.set_cons_zero, List.set_cons_succ]
    refine held_value 15 _ _ (some 37) (.slice Ak key.length ck) (by kernel_rfl) (by rfl) (by kernel_rfl) (fun w hS => by first | kernel_rfl | go_simp) (fun _ _ _ _ h => h) (⟨(rX.go b_V), (rA.go b_V)⟩) ?_
    simp only [Act.put, List.setIfInBounds_toArray, List.set_cons_zero, List.set_cons_succ]
    refine held_value 16 _ _ (some 38) (.slice Am m.length cm) (by kernel_rfl) (by rfl) (by kernel_rfl) (fun w hS => by first | kernel_rfl | go_simp) (fun _ _ _ _ h => h) (⟨(rX.go b_V), (rA.go b_V)⟩) ?_
    simp only [Act.put, List.setIfInBounds_toArray, List.set_cons_zero, List.set_cons_succ]
    refine held_load 10 24 (.tmp 4) (some 32) (by kernel_rfl) (by rfl) (by kernel_rfl) w.heap.size 0 (by kernel_rfl) ([.int .u32 xc, .bool xs, .int .i64 xn, .int .i64 xh, .int .i64 xl]) _ (fun w h => h.1.range) Tryd.underlying24 rfl (info_xms) (fun _ _ _ _ h => h) (⟨(rX.go b_V), (rA.go b_V)⟩) ?_
    simp only [Act.put, List.setIfInBounds_toArray, List.set_cons_zero, List.set_cons_succ]
    refine held_load 14 24 (.tmp 4) (some 36) (by kernel_rfl) (by rfl) (by kernel_rfl) w.heap.size 0 (by kernel_rfl) ([.int .u32 xc, .bool xs, .int .i64 xn, .int .i64 xh, .int .i64 xl]) _ (fun w h => h.1.range) Tryd.underlying24 rfl (info_xms) (fun _ _ _ _ h => h) (⟨(rX.go b_V), (rA.go b_V)⟩) ?_
    simp only [Act.put, List.setIfInBounds_toArray, List.set_cons_zero, List.set_cons_succ]
    refine held_one 13 (by kernel_rfl) ?_
    refine step_call 13 _ _ (some 35) 15 #[.agg ([.int .u32 xc, .bool xs, .int .i64 xn, .int .i64 xh, .int .i64 xl]).toArray, .slice Ak key.length ck, .slice Am m.length cm] (by rfl) (by kernel_rfl) (by first | kernel_rfl | go_simp) ?_
    refine (HP2.out.2.1 Y2 ((rT.go b_V)) ((sK.go b_V)) ((sM.go b_V))).mono ?_
    rintro e Y4 ⟨v, rfl, gv, bv⟩
    have bx : Below Y2.heap.size Y2 Y4 := bv
    obtain ⟨A1a, c1a, vEq, _, _⟩ := gv.form
    subst vEq
    have sP1 := gv
    clear gv
    replace b_V := Below.chain b_V bx
    replace b_Y1 := Below.chain b_Y1 bx
    have b_Y2 := bx
    have m_Y4 : Y2.heap.size ≤ Y4.heap.size := bx.size
    clear bx
    refine ⟨_, rfl, ⟨(rX.go b_V), (rA.go b_V)⟩, ?_⟩
    simp only [Act.put, List.setIfInBounds_toArray, List.set_cons_zero, List.set_cons_succ]
    refine held_one 17 (by kernel_rfl) ?_
    refine step_call 17 _ _ (some 39) 14 #[.agg ([.int .u32 xc, .bool xs, .int .i64 xn, .int .i64 xh, .int .i64 xl]).toArray, .int .i64 1, .slice Ak key.length ck, .slice Am m.length cm] (by rfl) (by kernel_rfl) (by first | kernel_rfl | go_simp) ?_
    refine (HQ.out.2.1 Y4 ((sK.go b_V)) ((sM.go b_V))).mono ?_
    rintro e Y5 ⟨v, rfl, gv, bv⟩
    have bx : Below Y4.heap.size Y4 Y5 := bv
    obtain ⟨A1b, c1b, vEq, _, _⟩ := gv.form
    subst vEq
    have sQ1 := gv
    clear gv
    replace b_V := Below.chain b_V bx
    replace b_Y1 := Below.chain b_Y1 bx
    replace b_Y2 := Below.chain b_Y2 bx
    have b_Y4 := bx
    have m_Y5 : Y4.heap.size ≤ Y5.heap.size := bx.size
    clear bx
    refine ⟨_, rfl, ⟨(rX.go b_V), (rA.go b_V)⟩, ?_⟩
    simp only [Act.put, List.setIfInBounds_toArray, List.set_cons_zero, List.set_cons_succ]
    refine held_one 18 (by kernel_rfl) ?_
    refine step_call 18 _ _ (some 40) 12 #[.slice A1a o1.length c1a, .slice A1b o1.length c1b] (by rfl) (by kernel_rfl) (by first | kernel_rfl | go_simp) ?_
    refine (show Calls Tryd.prog 12 #[.slice A1a o1.length c1a, .slice A1b o1.length c1b] Y5 (fun e w' => e = .returned (.bool true) ∧ Y5 = w') by have h := refEqual_any Y5.heap.size Y5.heap.size _ _ o1 o1 Y5 ((sP1.go b_Y4)) (sQ1); rw [show (o1 == o1) = true by simp] at h; exact h).mono ?_
    rintro e Y6 ⟨rfl, hq⟩
    obtain rfl : Y5 = Y6 := hq
    refine ⟨_, rfl, ⟨(rX.go b_V), (rA.go b_V)⟩, ?_⟩
    simp only [Act.put, List.setIfInBounds_toArray, List.set_cons_zero, List.set_cons_succ]
    refine held_value 19 _ _ (some 41) (.bool true) (by kernel_rfl) (by rfl) (by kernel_rfl) (fun w hS => by first | kernel_rfl | go_simp) (fun _ _ _ _ h => h) (⟨(rX.go b_V), (rA.go b_V)⟩) ?_
    simp only [Act.put, List.setIfInBounds_toArray, List.set_cons_zero, List.set_cons_succ]
    refine held_value 20 _ _ (some 42) (.bool true) (by kernel_rfl) (by rfl) (by kernel_rfl) (fun w hS => by first | kernel_rfl | go_simp) (fun _ _ _ _ h => h) (⟨(rX.go b_V), (rA.go b_V)⟩) ?_
    simp only [Act.put, List.setIfInBounds_toArray, List.set_cons_zero, List.set_cons_succ]
    refine held_value 22 _ _ (some 44) (.slice Ak key.length ck) (by kernel_rfl) (by rfl) (by kernel_rfl) (fun w hS => by first | kernel_rfl | go_simp) (fun _ _ _ _ h => h) (⟨(rX.go b_V), (rA.go b_V)⟩) ?_
    simp only [Act.put, List.setIfInBounds_toArray, List.set_cons_zero, List.set_cons_succ]
    refine held_value 23 _ _ (some 45) (.slice Am m.length cm) (by kernel_rfl) (by rfl) (by kernel_rfl) (fun w hS => by first | kernel_rfl | go_simp) (fun _ _ _ _ h => h) (⟨(rX.go b_V), (rA.go b_V)⟩) ?_
    simp only [Act.put, List.setIfInBounds_toArray, List.set_cons_zero, List.set_cons_succ]
    refine held_value 26 _ _ (some 48) (.slice Ak key.length ck) (by kernel_rfl) (by rfl) (by kernel_rfl) (fun w hS => by first | kernel_rfl | go_simp) (fun _ _ _ _ h => h) (⟨(rX.go b_V), (rA.go b_V)⟩) ?_
    simp only [Act.put, List.setIfInBounds_toArray, List.set_cons_zero, List.set_cons_succ]
    refine held_value 27 _ _ (some 49) (.slice Am m.length cm) (by kernel_rfl) (by rfl) (by kernel_rfl) (fun w hS => by first | kernel_rfl | go_simp) (fun _ _ _ _ h => h) (⟨(rX.go b_V), (rA.go b_V)⟩) ?_
    simp only [Act.put, List.setIfInBounds_toArray, List.set_cons_zero, List.set_cons_succ]
    refine held_load 21 24 (.tmp 4) (some 43) (by kernel_rfl) (by rfl) (by kernel_rfl) w.heap.size 0 (by kernel_rfl) ([.int .u32 xc, .bool xs, .int .i64 xn, .int .i64 xh, .int .i64 xl]) _ (fun w h => h.1.range) Tryd.underlying24 rfl (info_xms) (fun _ _ _ _ h => h) (⟨(rX.go b_V), (rA.go b_V)⟩) ?_
    simp only [Act.put, List.setIfInBounds_toArray, List.set_cons_zero, List.set_cons_succ]
    refine held_load 25 24 (.tmp 4) (some 47) (by kernel_rfl) (by rfl) (by kernel_rfl) w.heap.size 0 (by kernel_rfl) ([.int .u32 xc, .bool xs, .int .i64 xn, .int .i64 xh, .int .i64 xl]) _ (fun w h => h.1.range) Tryd.underlying24 rfl (info_xms) (fun _ _ _ _ h => h) (⟨(rX.go b_V), (rA.go b_V)⟩) ?_
    simp only [Act.put, List.setIfInBounds_toArray, List.set_cons_zero, List.set_cons_succ]
    refine held_one 24 (by kernel_rfl) ?_
    refine step_call 24 _ _ (some 46) 16 #[.agg ([.int .u32 xc, .bool xs, .int .i64 xn, .int .i64 xh, .int .i64 xl]).toArray, .slice Ak key.length ck, .slice Am m.length cm] (by rfl) (by kernel_rfl) (by first | kernel_rfl | go_simp) ?_
    refine (HP2.out.2.2.1 Y5 ((rT.go b_V)) ((sK.go b_V)) ((sM.go b_V))).mono ?_
    rintro e Y7 ⟨v, rfl, gv, bv⟩
    have bx : Below Y5.heap.size Y5 Y7 := bv
    obtain ⟨A2a, c2a, vEq, _, _⟩ := gv.form
    subst vEq
    have sP2 := gv
    clear gv
    replace b_V := Below.chain b_V bx
    replace b_Y1 := Below.chain b_Y1 bx
    replace b_Y2 := Below.chain b_Y2 bx
    replace b_Y4 := Below.chain b_Y4 bx
    have b_Y5 := bx
    have m_Y7 : Y5.heap.size ≤ Y7.heap.size := bx.size
    clear bx
    refine ⟨_, rfl, ⟨(rX.go b_V), (rA.go b_V)⟩, ?_⟩
    simp only [Act.put, List.setIfInBounds_toArray, List.set_cons_zero, List.set_cons_succ]
    refine held_one 28 (by kernel_rfl) ?_
    refine step_call 28 _ _ (some 50) 14 #[.agg ([.int .u32 xc, .bool xs, .int .i64 xn, .int .i64 xh, .int .i64 xl]).toArray, .int .i64 2, .slice Ak key.length ck, .slice Am m.length cm] (by rfl) (by kernel_rfl) (by first | kernel_rfl | go_simp) ?_
    refine (HQ.out.2.2.1 Y7 ((sK.go b_V)) ((sM.go b_V))).mono ?_
    rintro e Y8 ⟨v, rfl, gv, bv⟩
    have bx : Below Y7.heap.size Y7 Y8 := bv
    obtain ⟨A2b, c2b, vEq, _, _⟩ := gv.form
    subst vEq
    have sQ2 := gv
    clear gv
    replace b_V := Below.chain b_V bx
    replace b_Y1 := Below.chain b_Y1 bx
    replace b_Y2 := Below.chain b_Y2 bx
    replace b_Y4 := Below.chain b_Y4 bx
    replace b_Y5 := Below.chain b_Y5 bx
    have b_Y7 := bx
    have m_Y8 : Y7.heap.size ≤ Y8.heap.size := bx.size
    clear bx
    refine ⟨_, rfl, ⟨(rX.go b_V), (rA.go b_V)⟩, ?_⟩
    simp only [Act.put, List.setIfInBounds_toArray, List.set_cons_zero, List.set_cons_succ]
    refine held_one 29 (by kernel_rfl) ?_
    refine step_call 29 _ _ (some 51) 12 #[.slice A2a o2.length c2a, .slice A2b o2.length c2b] (by rfl) (by kernel_rfl) (by first | kernel_rfl | go_simp) ?_
    refine (show Calls Tryd.prog 12 #[.slice A2a o2.length c2a, .slice A2b o2.length c2b] Y8 (fun e w' => e = .returned (.bool true) ∧ Y8 = w') by have h := refEqual_any Y8.heap.size Y8.heap.size _ _ o2 o2 Y8 ((sP2.go b_Y7)) (sQ2); rw [show (o2 == o2) = true by simp] at h; exact h).mono ?_
    rintro e Y9 ⟨rfl, hq⟩
    obtain rfl : Y8 = Y9 := hq
    refine ⟨_, rfl, ⟨(rX.go b_V), (rA.go b_V)⟩, ?_⟩
    simp only [Act.put, List.setIfInBounds_toArray, List.set_cons_zero, List.set_cons_succ]
    refine held_value 30 _ _ (some 52) (.bool true) (by kernel_rfl) (by rfl) (by kernel_rfl) (fun w hS => by first | kernel_rfl | go_simp) (fun _ _ _ _ h => h) (⟨(rX.go b_V), (rA.go b_V)⟩) ?_
    simp only [Act.put, List.setIfInBounds_toArray, List.set_cons_zero, List.set_cons_succ]
    refine held_value 31 _ _ (some 53) (.bool true) (by kernel_rfl) (by rfl) (by kernel_rfl) (fun w hS => by first | kernel_rfl | go_simp) (fun _ _ _ _ h => h) (⟨(rX.go b_V), (rA.go b_V)⟩) ?_
    simp only [Act.put, List.setIfInBounds_toArray, List.set_cons_zero, List.set_cons_succ]
    refine held_value 33 _ _ (some 55) (.slice Ak key.length ck) (by kernel_rfl) (by rfl) (by kernel_rfl) (fun w hS => by first | kernel_rfl | go_simp) (fun _ _ _ _ h => h) (⟨(rX.go b_V), (rA.go b_V)⟩) ?_
    simp only [Act.put, List.setIfInBounds_toArray, List.set_cons_zero, List.set_cons_succ]
    refine held_value 34 _ _ (some 56) (.slice Am m.length cm) (by kernel_rfl) (by rfl) (by kernel_rfl) (fun w hS => by first | kernel_rfl | go_simp) (fun _ _ _ _ h => h) (⟨(rX.go b_V), (rA.go b_V)⟩) ?_
    simp only [Act.put, List.setIfInBounds_toArray, List.set_cons_zero, List.set_cons_succ]
    refine held_value 37 _ _ (some 59) (.slice Ak key.length ck) (by kernel_rfl) (by rfl) (by kernel_rfl) (fun w hS => by first | kernel_rfl | go_simp) (fun _ _ _ _ h => h) (⟨(rX.go b_V), (rA.go b_V)⟩) ?_
    simp only [Act.put, List.setIfInBounds_toArray, List.set_cons_zero, List.set_cons_succ]
    refine held_value 38 _ _ (some 60) (.slice Am m.length cm) (by kernel_rfl) (by rfl) (by kernel_rfl) (fun w hS => by first | kernel_rfl | go_simp) (fun _ _ _ _ h => h) (⟨(rX.go b_V), (rA.go b_V)⟩) ?_
    simp only [Act.put, List.setIfInBounds_toArray, List.set_cons_zero, List.set_cons_succ]
    refine held_load 32 24 (.tmp 4) (some 54) (by kernel_rfl) (by rfl) (by kernel_rfl) w.heap.size 0 (by kernel_rfl) ([.int .u32 xc, .bool xs, .int .i64 xn, .int .i64 xh, .int .i64 xl]) _ (fun w h => h.1.range) Tryd.underlying24 rfl (info_xms) (fun _ _ _ _ h => h) (⟨(rX.go b_V), (rA.go b_V)⟩) ?_
    simp only [Act.put, List.setIfInBounds_toArray, List.set_cons_zero, List.set_cons_succ]
    refine held_load 36 24 (.tmp 4) (some 58) (by kernel_rfl) (by rfl) (by kernel_rfl) w.heap.size 0 (by kernel_rfl) ([.int .u32 xc, .bool xs, .int .i64 xn, .int .i64 xh, .int .i64 xl]) _ (fun w h => h.1.range) Tryd.underlying24 rfl (info_xms) (fun _ _ _ _ h => h) (⟨(rX.go b_V), (rA.go b_V)⟩) ?_
    simp only [Act.put, List.setIfInBounds_toArray, List.set_cons_zero, List.set_cons_succ]
    refine held_one 35 (by kernel_rfl) ?_
    refine step_call 35 _ _ (some 57) 17 #[.agg ([.int .u32 xc, .bool xs, .int .i64 xn, .int .i64 xh, .int .i64 xl]).toArray, .slice Ak key.length ck, .slice Am m.length cm] (by rfl) (by kernel_rfl) (by first | kernel_rfl | go_simp) ?_
    refine (HP2.out.2.2.2.1 Y8 ((rT.go b_V)) ((sK.go b_V)) ((sM.go b_V))).mono ?_
    rintro e Y10 ⟨v, rfl, gv, bv⟩
    have bx : Below Y8.heap.size Y8 Y10 := bv
    obtain ⟨A3a, c3a, vEq, _, _⟩ := gv.form
    subst vEq
    have sP3 := gv
    clear gv
    replace b_V := Below.chain b_V bx
    replace b_Y1 := Below.chain b_Y1 bx
    replace b_Y2 := Below.chain b_Y2 bx
    replace b_Y4 := Below.chain b_Y4 bx
    replace b_Y5 := Below.chain b_Y5 bx
    replace b_Y7 := Below.chain b_Y7 bx
    have b_Y8 := bx
    have m_Y10 : Y8.heap.size ≤ Y10.heap.size := bx.size
    clear bx
    refine ⟨_, rfl, ⟨(rX.go b_V), (rA.go b_V)⟩, ?_⟩
    simp only [Act.put, List.setIfInBounds_toArray, List.set_cons_zero, List.set_cons_succ]
    refine held_one 39 (by kernel_rfl) ?_
    refine step_call 39 _ _ (some 61) 14 #[.agg ([.int .u32 xc, .bool xs, .int .i64 xn, .int .i64 xh, .int .i64 xl]).toArray, .int .i64 3, .slice Ak key.length ck, .slice Am m.length cm] (by rfl) (by kernel_rfl) (by first | kernel_rfl | go_simp) ?_
    refine (HQ.out.2.2.2.1 Y10 ((sK.go b_V)) ((sM.go b_V))).mono ?_
    rintro e Y11 ⟨v, rfl, gv, bv⟩
    have bx : Below Y10.heap.size Y10 Y11 := bv
    obtain ⟨A3b, c3b, vEq, _, _⟩ := gv.form
    subst vEq
    have sQ3 := gv
    clear gv
    replace b_V := Below.chain b_V bx
    replace b_Y1 := Below.chain b_Y1 bx
    replace b_Y2 := Below.chain b_Y2 bx
    replace b_Y4 := Below.chain b_Y4 bx
    replace b_Y5 := Below.chain b_Y5 bx
    replace b_Y7 := Below.chain b_Y7 bx
    replace b_Y8 := Below.chain b_Y8 bx
    have b_Y10 := bx
    have m_Y11 : Y10.heap.size ≤ Y11.heap.size := bx.size
    clear bx
    refine ⟨_, rfl, ⟨(rX.go b_V), (rA.go b_V)⟩, ?_⟩
    simp only [Act.put, List.setIfInBounds_toArray, List.set_cons_zero, List.set_cons_succ]
    refine held_one 40 (by kernel_rfl) ?_
    refine step_call 40 _ _ (some 62) 12 #[.slice A3a o3.length c3a, .slice A3b o3.length c3b] (by rfl) (by kernel_rfl) (by first | kernel_rfl | go_simp) ?_
    refine (show Calls Tryd.prog 12 #[.slice A3a o3.length c3a, .slice A3b o3.length c3b] Y11 (fun e w' => e = .returned (.bool true) ∧ Y11 = w') by have h := refEqual_any Y11.heap.size Y11.heap.size _ _ o3 o3 Y11 ((sP3.go b_Y10)) (sQ3); rw [show (o3 == o3) = true by simp] at h; exact h).mono ?_
    rintro e Y12 ⟨rfl, hq⟩
    obtain rfl : Y11 = Y12 := hq
    refine ⟨_, rfl, ⟨(rX.go b_V), (rA.go b_V)⟩, ?_⟩
    simp only [Act.put, List.setIfInBounds_toArray, List.set_cons_zero, List.set_cons_succ]
    refine held_value 41 _ _ (some 63) (.bool true) (by kernel_rfl) (by rfl) (by kernel_rfl) (fun w hS => by first | kernel_rfl | go_simp) (fun _ _ _ _ h => h) (⟨(rX.go b_V), (rA.go b_V)⟩) ?_
    simp only [Act.put, List.setIfInBounds_toArray, List.set_cons_zero, List.set_cons_succ]
    refine held_value 42 _ _ (some 64) (.bool true) (by kernel_rfl) (by rfl) (by kernel_rfl) (fun w hS => by first | kernel_rfl | go_simp) (fun _ _ _ _ h => h) (⟨(rX.go b_V), (rA.go b_V)⟩) ?_
    simp only [Act.put, List.setIfInBounds_toArray, List.set_cons_zero, List.set_cons_succ]
    refine held_value 44 _ _ (some 66) (.slice Ak key.length ck) (by kernel_rfl) (by rfl) (by kernel_rfl) (fun w hS => by first | kernel_rfl | go_simp) (fun _ _ _ _ h => h) (⟨(rX.go b_V), (rA.go b_V)⟩) ?_
    simp only [Act.put, List.setIfInBounds_toArray, List.set_cons_zero, List.set_cons_succ]
    refine held_value 45 _ _ (some 67) (.slice Am m.length cm) (by kernel_rfl) (by rfl) (by kernel_rfl) (fun w hS => by first | kernel_rfl | go_simp) (fun _ _ _ _ h => h) (⟨(rX.go b_V), (rA.go b_V)⟩) ?_
    simp only [Act.put, List.setIfInBounds_toArray, List.set_cons_zero, List.set_cons_succ]
    refine held_value 48 _ _ (some 70) (.slice Ak key.length ck) (by kernel_rfl) (by rfl) (by kernel_rfl) (fun w hS => by first | kernel_rfl | go_simp) (fun _ _ _ _ h => h) (⟨(rX.go b_V), (rA.go b_V)⟩) ?_
    simp only [Act.put, List.setIfInBounds_toArray, List.set_cons_zero, List.set_cons_succ]
    refine held_value 49 _ _ (some 71) (.slice Am m.length cm) (by kernel_rfl) (by rfl) (by kernel_rfl) (fun w hS => by first | kernel_rfl | go_simp) (fun _ _ _ _ h => h) (⟨(rX.go b_V), (rA.go b_V)⟩) ?_
    simp only [Act.put, List.setIfInBounds_toArray, List.set_cons_zero, List.set_cons_succ]
    refine held_load 43 24 (.tmp 4) (some 65) (by kernel_rfl) (by rfl) (by kernel_rfl) w.heap.size 0 (by kernel_rfl) ([.int .u32 xc, .bool xs, .int .i64 xn, .int .i64 xh, .int .i64 xl]) _ (fun w h => h.1.range) Tryd.underlying24 rfl (info_xms) (fun _ _ _ _ h => h) (⟨(rX.go b_V), (rA.go b_V)⟩) ?_
    simp only [Act.put, List.setIfInBounds_toArray, List.set_cons_zero, List.set_cons_succ]
    refine held_load 47 24 (.tmp 4) (some 69) (by kernel_rfl) (by rfl) (by kernel_rfl) w.heap.size 0 (by kernel_rfl) ([.int .u32 xc, .bool xs, .int .i64 xn, .int .i64 xh, .int .i64 xl]) _ (fun w h => h.1.range) Tryd.underlying24 rfl (info_xms) (fun _ _ _ _ h => h) (⟨(rX.go b_V), (rA.go b_V)⟩) ?_
    simp only [Act.put, List.setIfInBounds_toArray, List.set_cons_zero, List.set_cons_succ]
    refine held_one 46 (by kernel_rfl) ?_
    refine step_call 46 _ _ (some 68) 18 #[.agg ([.int .u32 xc, .bool xs, .int .i64 xn, .int .i64 xh, .int .i64 xl]).toArray, .slice Ak key.length ck, .slice Am m.length cm] (by rfl) (by kernel_rfl) (by first | kernel_rfl | go_simp) ?_
    refine (HP2.out.2.2.2.2.1 Y11 ((rT.go b_V)) ((sK.go b_V)) ((sM.go b_V))).mono ?_
    rintro e Y13 ⟨v, rfl, gv, bv⟩
    have bx : Below Y11.heap.size Y11 Y13 := bv
    obtain ⟨A4a, c4a, vEq, _, _⟩ := gv.form
    subst vEq
    have sP4 := gv
    clear gv
    replace b_V := Below.chain b_V bx
    replace b_Y1 := Below.chain b_Y1 bx
    replace b_Y2 := Below.chain b_Y2 bx
    replace b_Y4 := Below.chain b_Y4 bx
    replace b_Y5 := Below.chain b_Y5 bx
    replace b_Y7 := Below.chain b_Y7 bx
    replace b_Y8 := Below.chain b_Y8 bx
    replace b_Y10 := Below.chain b_Y10 bx
    have b_Y11 := bx
    have m_Y13 : Y11.heap.size ≤ Y13.heap.size := bx.size
    clear bx
    refine ⟨_, rfl, ⟨(rX.go b_V), (rA.go b_V)⟩, ?_⟩
    simp only [Act.put, List.setIfInBounds_toArray, List.set_cons_zero, List.set_cons_succ]
    refine held_one 50 (by kernel_rfl) ?_
    refine step_call 50 _ _ (some 72) 14 #[.agg ([.int .u32 xc, .bool xs, .int .i64 xn, .int .i64 xh, .int .i64 xl]).toArray, .int .i64 4, .slice Ak key.length ck, .slice Am m.length cm] (by rfl) (by kernel_rfl) (by first | kernel_rfl | go_simp) ?_
    refine (HQ.out.2.2.2.2 Y13 ((sK.go b_V)) ((sM.go b_V))).mono ?_
    rintro e Y14 ⟨v, rfl, gv, bv⟩
    have bx : Below Y13.heap.size Y13 Y14 := bv
    obtain ⟨A4b, c4b, vEq, _, _⟩ := gv.form
    subst vEq
    have sQ4 := gv
    clear gv
    replace b_V := Below.chain b_V bx
    replace b_Y1 := Below.chain b_Y1 bx
    replace b_Y2 := Below.chain b_Y2 bx
    replace b_Y4 := Below.chain b_Y4 bx
    replace b_Y5 := Below.chain b_Y5 bx
    replace b_Y7 := Below.chain b_Y7 bx
    replace b_Y8 := Below.chain b_Y8 bx
    replace b_Y10 := Below.chain b_Y10 bx
    replace b_Y11 := Below.chain b_Y11 bx
    have b_Y13 := bx
    have m_Y14 : Y13.heap.size ≤ Y14.heap.size := bx.size
    clear bx
    refine ⟨_, rfl, ⟨(rX.go b_V), (rA.go b_V)⟩, ?_⟩
    simp only [Act.put, List.setIfInBounds_toArray, List.set_cons_zero, List.set_cons_succ]
    refine held_one 51 (by kernel_rfl) ?_
    refine step_call 51 _ _ (some 73) 12 #[.slice A4a o4.length c4a, .slice A4b o4.length c4b] (by rfl) (by kernel_rfl) (by first | kernel_rfl | go_simp) ?_
    refine (show Calls Tryd.prog 12 #[.slice A4a o4.length c4a, .slice A4b o4.length c4b] Y14 (fun e w' => e = .returned (.bool true) ∧ Y14 = w') by have h := refEqual_any Y14.heap.size Y14.heap.size _ _ o4 o4 Y14 ((sP4.go b_Y13)) (sQ4); rw [show (o4 == o4) = true by simp] at h; exact h).mono ?_
    rintro e Y15 ⟨rfl, hq⟩
    obtain rfl : Y14 = Y15 := hq
    refine ⟨_, rfl, ⟨(rX.go b_V), (rA.go b_V)⟩, ?_⟩
    simp only [Act.put, List.setIfInBounds_toArray, List.set_cons_zero, List.set_cons_succ]
    refine held_value 52 _ _ (some 74) (.bool true) (by kernel_rfl) (by rfl) (by kernel_rfl) (fun w hS => by first | kernel_rfl | go_simp) (fun _ _ _ _ h => h) (⟨(rX.go b_V), (rA.go b_V)⟩) ?_
    simp only [Act.put, List.setIfInBounds_toArray, List.set_cons_zero, List.set_cons_succ]
    refine held_value 53 _ _ (some 75) (.bool true) (by kernel_rfl) (by rfl) (by kernel_rfl) (fun w hS => by first | kernel_rfl | go_simp) (fun _ _ _ _ h => h) (⟨(rX.go b_V), (rA.go b_V)⟩) ?_
    simp only [Act.put, List.setIfInBounds_toArray, List.set_cons_zero, List.set_cons_succ]
    refine held_value 54 _ _ (some 76) (.slice (some ⟨nB, 0, none⟩) 32 32) (by kernel_rfl) (by rfl) (by kernel_rfl) (fun w hS => by first | kernel_rfl | go_simp) (fun _ _ _ _ h => h) (⟨(rX.go b_V), (rA.go b_V)⟩) ?_
    simp only [Act.put, List.setIfInBounds_toArray, List.set_cons_zero, List.set_cons_succ]
    refine held_load 55 27 (.tmp 7) (some 77) (by kernel_rfl) (by rfl) (by kernel_rfl) (w.heap.size + 1) 0 (by kernel_rfl) (L) _ (fun w h => h.2.range) Tryd.underlying27 rfl (info_adr10 HA.out) (fun _ _ _ _ h => h) (⟨(rX.go b_V), (rA.go b_V)⟩) ?_
    simp only [Act.put, List.setIfInBounds_toArray, List.set_cons_zero, List.set_cons_succ]
    refine held_one 56 (by kernel_rfl) ?_
    refine step_call 56 _ _ (some 78) 19 #[.agg (L).toArray] (by rfl) (by kernel_rfl) (by first | kernel_rfl | go_simp) ?_
    refine (HP2.out.2.2.2.2.2.2 Y14).mono ?_
    rintro e Y16 ⟨v, rfl, gv⟩
    have bx : Below Y14.heap.size Y14 Y16 := gv.2
    obtain ⟨Abb, cbb, vEq⟩ := own_form gv.1
    subst vEq
    have sBB : Sl Y16 Y16.heap.size (.slice Abb ob.length cbb) ob := gives_sl gv
    clear gv
    replace b_V := Below.chain b_V bx
    replace b_Y1 := Below.chain b_Y1 bx
    replace b_Y2 := Below.chain b_Y2 bx
    replace b_Y4 := Below.chain b_Y4 bx
    replace b_Y5 := Below.chain b_Y5 bx
    replace b_Y7 := Below.chain b_Y7 bx
    replace b_Y8 := Below.chain b_Y8 bx
    replace b_Y10 := Below.chain b_Y10 bx
    replace b_Y11 := Below.chain b_Y11 bx
    replace b_Y13 := Below.chain b_Y13 bx
    have b_Y14 := bx
    have m_Y16 : Y14.heap.size ≤ Y16.heap.size := bx.size
    clear bx
    refine ⟨_, rfl, ⟨(rX.go b_V), (rA.go b_V)⟩, ?_⟩
    simp only [Act.put, List.setIfInBounds_toArray, List.set_cons_zero, List.set_cons_succ]
    refine held_one 57 (by kernel_rfl) ?_
    refine step_call 57 _ _ (some 79) 12 #[.slice (some ⟨nB, 0, none⟩) 32 32, .slice Abb ob.length cbb] (by rfl) (by kernel_rfl) (by first | kernel_rfl | go_simp) ?_
    refine (show Calls Tryd.prog 12 #[.slice (some ⟨nB, 0, none⟩) 32 32, .slice Abb ob.length cbb] Y16 (fun e w' => e = .returned (.bool true) ∧ Y16 = w') by have h := refEqual_any Y16.heap.size Y16.heap.size _ _ ob ob Y16 (Row.sl (n := 32) ((rB.go b_V)) HOB.out (by omega)) (sBB); rw [show (ob == ob) = true by simp] at h; exact h).mono ?_
    rintro e Y17 ⟨rfl, hq⟩
    obtain rfl : Y16 = Y17 := hq
    refine ⟨_, rfl, ⟨(rX.go b_V), (rA.go b_V)⟩, ?_⟩
    simp only [Act.put, List.setIfInBounds_toArray, List.set_cons_zero, List.set_cons_succ]
    refine held_value 58 _ _ (some 80) (.bool true) (by kernel_rfl) (by rfl) (by kernel_rfl) (fun w hS => by first | kernel_rfl | go_simp) (fun _ _ _ _ h => h) (⟨(rX.go b_V), (rA.go b_V)⟩) ?_
    simp only [Act.put, List.setIfInBounds_toArray, List.set_cons_zero, List.set_cons_succ]
    refine held_value 59 _ _ (some 8) (.bool true) (by kernel_rfl) (by rfl) (by kernel_rfl) (fun w hS => by first | kernel_rfl | go_simp) (fun _ _ _ _ h => h) (⟨(rX.go b_V), (rA.go b_V)⟩) ?_
    simp only [Act.put, List.setIfInBounds_toArray, List.set_cons_zero, List.set_cons_succ]
    refine wpAnyH_done (by kernel_rfl) ?_ _
    have HZ : Shh (Below w.heap.size w Y16) := ⟨Below.chain HBV b_V⟩
    clear m_Y16 b_Y14 sBB m_Y14 b_Y13 sQ4 m_Y13 b_Y11 sP4 m_Y11 b_Y10 sQ3 m_Y10 b_Y8 sP3 m_Y8 b_Y7 sQ2 m_Y7 b_Y5 sP2 m_Y5 b_Y4 sQ1 m_Y4 b_Y2 sP1 m_Y2 b_Y1 sQ0 m_Y1 b_V sP0 bv HBV rX rA sK sM rT rB
    clear HP2 HQ
    go_wp2
    go_ret
    exact ⟨rfl, HZ.out⟩
end Go.Proofs.YtobbbljnkdfkeaaDoor
