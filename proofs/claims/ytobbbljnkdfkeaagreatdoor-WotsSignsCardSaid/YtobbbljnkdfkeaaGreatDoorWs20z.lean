/-
  WotsSigns, in a seat of its own: the document's Sign; the law over a contract of the program's own Sign.
-/
import Derived.Test.YtobbbljnkdfkeaaGreatDoorWs13
namespace Go.Proofs.YtobbbljnkdfkeaaGreatDoor
open Go.RowKit
set_option maxRecDepth 100000
set_option maxHeartbeats 1000000 in
theorem refSign_any (x : S5) (hw : x.wf) (vk vs vm : Value) (sk seed m : List UInt8) (a : List UInt32) (ha : a.length = 8) (w : World) (hk : Sl w w.heap.size vk sk) (hs : Sl w w.heap.size vs seed) (hm : Sl w w.heap.size vm m) :
    Calls Tryz.prog 12 #[x.v, vk, vs, vm, adrV a] w (ResIs w (badE x [sk, seed, m]) (sgB x sk seed m a)) := by
  unfold ResIs
  obtain ⟨Ak, ck, rfl, _, _⟩ := hk.form
  obtain ⟨As, cs, rfl, _, _⟩ := hs.form
  obtain ⟨Am, cm, rfl, _, _⟩ := hm.form
  have HMAY : Shh (∀ (W : World) (v : Value) (B g : Nat), PartsO W B g v [sk, seed, m] → B ≤ W.heap.size → Calls Tryz.prog 21 #[x.v, v] W (OldIs (.int .i64 (badE x [sk, seed, m])) W)) := ⟨fun W v B g h1 h2 => refMay10_any x hw v [sk, seed, m] B g W h1 h2 (by simp)⟩
  obtain ⟨W, hW⟩ : ∃ W, W = (w.alloc (.cells #[.int .u32 x.c, .bool x.s, .int .i64 x.n, .int .i64 x.h, .int .i64 x.l] 24)).alloc (.cells (wordCells a).toArray 27) := ⟨_, rfl⟩
  have HW : Shh (Row W w.heap.size 24 [.int .u32 x.c, .bool x.s, .int .i64 x.n, .int .i64 x.h, .int .i64 x.l] ∧ Row W (w.heap.size + 1) 27 (wordCells a) ∧ Sl W W.heap.size (.slice Ak sk.length ck) sk ∧ Sl W W.heap.size (.slice As seed.length cs) seed ∧ Sl W W.heap.size (.slice Am m.length cm) m ∧ Below w.heap.size w W) := by
    rw [hW]
    exact ⟨(Row.new_ rfl rfl).alloc _, Row.new_ (by rw [asz]) rfl, (hk.go (below1 _ _)).go (below1 _ _), (hs.go (below1 _ _)).go (below1 _ _), (hm.go (below1 _ _)).go (below1 _ _), Below.chain (below1 _ _) (below1 _ _)⟩
  have HZ : Shh (W.heap.size = w.heap.size + 2) := ⟨by rw [hW, asz, asz]⟩
  clear hk hs hm
  have HA : Shh ((wordCells a).length = 8) := ⟨by rw [wordCells_length]; exact ha⟩
  by_cases hE : badE x [sk, seed, m] = 0
  · obtain ⟨hx, hall⟩ := badE_ok hE
    have l1 := hall sk (by simp)
    have l2 := hall seed (by simp)
    have l4 := hall m (by simp)
    have l3 := ok_n hx
    have HLX : Shh (x.l = (x.l.toNat : Int) ∧ (dig10 m).length = x.l.toNat) := ⟨by rw [dig10_length]; rcases S5.ok_is hx with h | h <;> omega⟩
    have HEN : Shh ((∀ (vd : Value) (W : World), Sl W W.heap.size (.slice Ak sk.length ck) sk → Sl W W.heap.size (.slice As seed.length cs) seed → SI W W.heap.size vd (dig10 m) → Calls Tryz.prog 22 #[x.v, .slice Ak sk.length ck, .slice As seed.length cs, adrV a, vd] W (SlIs W (endsB x.s x.n sk seed a (dOf (dig10 m)) x.l.toNat))) ∧ (∀ W, Sl W W.heap.size (.slice Am m.length cm) m → Calls Tryz.prog 24 #[.slice Am m.length cm] W (IntsIs W (dig10 m)))) := ⟨fun vd W h1 h2 h3 => refEnds_any x hx _ _ vd sk seed a ha (dig10 m) x.l.toNat HLX.out.1 (.inr HLX.out.2) (dig10_lt m (by omega)) W h1 h2 h3 (by omega) (by omega), fun W h => refDigits10_any _ m W h (by omega)⟩
    have HD : Shh (sgB x sk seed m a = endsB x.s x.n sk seed a (dOf (dig10 m)) x.l.toNat) := ⟨by unfold sgB; rw [if_pos hE]⟩
    rw [HD.out, hE]
    rw [hE] at HMAY
    clear hE HD hw hx hall l1 l2 l3 l4 HLX
    generalize endsB x.s x.n sk seed a (dOf (dig10 m)) x.l.toNat = nb at HEN ⊢
    generalize dig10 m = dl at HEN
    unfold S5.v at HMAY HEN ⊢
    unfold adrV at HEN ⊢
    generalize wordCells a = L at HEN HA HW hW ⊢
    generalize x.c = xc at *
    generalize x.s = xs at *
    generalize x.n = xn at *
    generalize x.h = xh at *
    generalize x.l = xl at *
    go_enter Tryz.func12, Tryz.ntmps12
    go_wp2_with fail
    rw [← hW]
    go_at_call 21
    refine (HMAY.out _ _ (w.heap.size + 3) (w.heap.size + 3) (PartsO.three (q := w.heap.size + 2) (n := 3) (by omega) (by omega) (Row.new_ (by rw [HZ.out]) rfl) ((HW.out.2.2.1.below (below1 _ _)).more (by rw [HZ.out]; omega)) (HW.out.2.2.1.off (by rw [HZ.out]; omega)) ((HW.out.2.2.2.1.below (below1 _ _)).more (by rw [HZ.out]; omega)) (HW.out.2.2.2.1.off (by rw [HZ.out]; omega)) ((HW.out.2.2.2.2.1.below (below1 _ _)).more (by rw [HZ.out]; omega)) (HW.out.2.2.2.2.1.off (by rw [HZ.out]; omega))) (by rw [asz, HZ.out]; exact Nat.le_refl _)).mono ?_
    unfold OldIs
    rintro e w2 ⟨rfl, b2⟩
    have H2 : Shh (Row w2 w.heap.size 24 [.int .u32 xc, .bool xs, .int .i64 xn, .int .i64 xh, .int .i64 xl] ∧ Row w2 (w.heap.size + 1) 27 L ∧ Sl w2 w2.heap.size (.slice Ak sk.length ck) sk ∧ Sl w2 w2.heap.size (.slice As seed.length cs) seed ∧ Sl w2 w2.heap.size (.slice Am m.length cm) m ∧ Below w.heap.size w w2) := by
      have bb := Below.chain (below1 W _) b2
      exact ⟨HW.out.1.go bb, HW.out.2.1.go bb, HW.out.2.2.1.go bb, HW.out.2.2.2.1.go bb, HW.out.2.2.2.2.1.go bb, Below.chain HW.out.2.2.2.2.2 bb⟩
    clear b2 HW hW HMAY
    go_wp2_with fail
    refine wp_region_held_drew (S := fun w' => Row w' w.heap.size 24 [.int .u32 xc, .bool xs, .int .i64 xn, .int .i64 xh, .int .i64 xl] ∧ Row w' (w.heap.size + 1) 27 L) (by kernel_rfl) ⟨H2.out.1.drew, H2.out.2.1.drew⟩ (fun hS => ?_)
    clear hS
    obtain ⟨V, hV⟩ : ∃ V, V = World.drew w2 := ⟨_, rfl⟩
    rw [← hV]
    have rX : Row V w.heap.size 24 [.int .u32 xc, .bool xs, .int .i64 xn, .int .i64 xh, .int .i64 xl] := by rw [hV]; exact H2.out.1.drew
    have rA : Row V (w.heap.size + 1) 27 L := by rw [hV]; exact H2.out.2.1.drew
    have sK : Sl V V.heap.size (.slice Ak sk.length ck) sk := by rw [hV]; exact H2.out.2.2.1.drew
    have sS : Sl V V.heap.size (.slice As seed.length cs) seed := by rw [hV]; exact H2.out.2.2.2.1.drew
    have sM : Sl V V.heap.size (.slice Am m.length cm) m := by rw [hV]; exact H2.out.2.2.2.2.1.drew
    have HBV : Below w.heap.size w V := by rw [hV]; exact H2.out.2.2.2.2.2.drew
    clear hV H2
    refine held_value 1 _ _ (some 23) (.slice Ak sk.length ck) (by kernel_rfl) (by rfl) (by kernel_rfl) (fun w hS => by first | kernel_rfl | go_simp) (fun _ _ _ _ h => h) (⟨rX, rA⟩) ?_
    simp only [Act.put, List.setIfInBounds_toArray, List.set_cons_zero, List.set_cons_succ]
    refine held_value 2 _ _ (some 24) (.slice As seed.length cs) (by kernel_rfl) (by rfl) (by kernel_rfl) (fun w hS => by first | kernel_rfl | go_simp) (fun _ _ _ _ h => h) (⟨rX, rA⟩) ?_
    simp only [Act.put, List.setIfInBounds_toArray, List.set_cons_zero, List.set_cons_succ]
    refine held_value 4 _ _ (some 26) (.slice Am m.length cm) (by kernel_rfl) (by rfl) (by kernel_rfl) (fun w hS => by first | kernel_rfl | go_simp) (fun _ _ _ _ h => h) (⟨rX, rA⟩) ?_
    simp only [Act.put, List.setIfInBounds_toArray, List.set_cons_zero, List.set_cons_succ]
    refine held_load 0 24 (.tmp 5) (some 22) (by kernel_rfl) (by rfl) (by kernel_rfl) w.heap.size 0 (by kernel_rfl) ([.int .u32 xc, .bool xs, .int .i64 xn, .int .i64 xh, .int .i64 xl]) _ (fun w h => h.1.range) Tryz.underlying24 rfl (info_xms) (fun _ _ _ _ h => h) (⟨rX, rA⟩) ?_
    simp only [Act.put, List.setIfInBounds_toArray, List.set_cons_zero, List.set_cons_succ]
    refine held_load 3 27 (.tmp 9) (some 25) (by kernel_rfl) (by rfl) (by kernel_rfl) (w.heap.size + 1) 0 (by kernel_rfl) (L) _ (fun w h => h.2.range) Tryz.underlying27 rfl (info_adr10 HA.out) (fun _ _ _ _ h => h) (⟨rX, rA⟩) ?_
    simp only [Act.put, List.setIfInBounds_toArray, List.set_cons_zero, List.set_cons_succ]
    refine held_one 5 (by kernel_rfl) ?_
    refine step_call 5 _ _ (some 27) 24 #[.slice Am m.length cm] (by rfl) (by kernel_rfl) (by first | kernel_rfl | go_simp) ?_
    refine (HEN.out.2 V (sM)).mono ?_
    rintro e Y1 ⟨v, rfl, gv, bv⟩
    have bx : Below V.heap.size V Y1 := bv
    have sD := SI.of_own gv
    obtain ⟨Ad, cd, vEq, _, _⟩ := sD.form
    subst vEq
    clear gv
    have b_V := bx
    have m_Y1 : V.heap.size ≤ Y1.heap.size := bx.size
    clear bx
    refine ⟨_, rfl, ⟨(rX.go b_V), (rA.go b_V)⟩, ?_⟩
    simp only [Act.put, List.setIfInBounds_toArray, List.set_cons_zero, List.set_cons_succ]
    refine held_one 6 (by kernel_rfl) ?_
    refine step_call 6 _ _ (some 28) 22 #[.agg ([.int .u32 xc, .bool xs, .int .i64 xn, .int .i64 xh, .int .i64 xl]).toArray, .slice Ak sk.length ck, .slice As seed.length cs, .agg (L).toArray, .slice Ad dl.length cd] (by rfl) (by kernel_rfl) (by first | kernel_rfl | go_simp) ?_
    refine (HEN.out.1 _ Y1 ((sK.go b_V)) ((sS.go b_V)) (sD)).mono ?_
    rintro e Y2 ⟨v, rfl, gv, bv⟩
    have bx : Below Y1.heap.size Y1 Y2 := bv
    obtain ⟨An, cn, vEq, _, _⟩ := gv.form
    subst vEq
    have sN := gv
    clear gv
    replace b_V := Below.chain b_V bx
    have b_Y1 := bx
    have m_Y2 : Y1.heap.size ≤ Y2.heap.size := bx.size
    clear bx
    refine ⟨_, rfl, ⟨(rX.go b_V), (rA.go b_V)⟩, ?_⟩
    simp only [Act.put, List.setIfInBounds_toArray, List.set_cons_zero, List.set_cons_succ]
    refine held_value 7 _ _ (some 10) (.slice An nb.length cn) (by kernel_rfl) (by rfl) (by kernel_rfl) (fun w hS => by first | kernel_rfl | go_simp) (fun _ _ _ _ h => h) (⟨(rX.go b_V), (rA.go b_V)⟩) ?_
    simp only [Act.put, List.setIfInBounds_toArray, List.set_cons_zero, List.set_cons_succ]
    refine held_value 8 _ _ (some 11) (.int .i64 0) (by kernel_rfl) (by rfl) (by kernel_rfl) (fun w hS => by first | kernel_rfl | go_simp) (fun _ _ _ _ h => h) (⟨(rX.go b_V), (rA.go b_V)⟩) ?_
    simp only [Act.put, List.setIfInBounds_toArray, List.set_cons_zero, List.set_cons_succ]
    refine wpAnyH_done (by kernel_rfl) ?_ _
    have HR : Shh (Sl Y2 Y2.heap.size (.slice An nb.length cn) nb ∧ Below w.heap.size w Y2) := ⟨sN, Below.chain HBV b_V⟩
    clear m_Y2 b_Y1 sN m_Y1 b_V sD bv HBV rX rA sK sS sM
    go_wp2
    go_ret2
    exact ⟨_, rfl, HR.out⟩
  · have HD : Shh (sgB x sk seed m a = []) := ⟨by unfold sgB; rw [if_neg hE]⟩
    rw [HD.out]
    have hne : (badE x [sk, seed, m] != (0 : Int)) = true := by simpa using hE
    generalize badE x [sk, seed, m] = E at hE HMAY hne ⊢
    clear hE HD hw
    unfold S5.v at HMAY ⊢
    unfold adrV
    generalize wordCells a = L at HA HW hW ⊢
    generalize x.c = xc at *
    generalize x.s = xs at *
    generalize x.n = xn at *
    generalize x.h = xh at *
    generalize x.l = xl at *
    go_enter Tryz.func12, Tryz.ntmps12
    go_wp2_with fail
    rw [← hW]
    go_at_call 21
    refine (HMAY.out _ _ (w.heap.size + 3) (w.heap.size + 3) (PartsO.three (q := w.heap.size + 2) (n := 3) (by omega) (by omega) (Row.new_ (by rw [HZ.out]) rfl) ((HW.out.2.2.1.below (below1 _ _)).more (by rw [HZ.out]; omega)) (HW.out.2.2.1.off (by rw [HZ.out]; omega)) ((HW.out.2.2.2.1.below (below1 _ _)).more (by rw [HZ.out]; omega)) (HW.out.2.2.2.1.off (by rw [HZ.out]; omega)) ((HW.out.2.2.2.2.1.below (below1 _ _)).more (by rw [HZ.out]; omega)) (HW.out.2.2.2.2.1.off (by rw [HZ.out]; omega))) (by rw [asz, HZ.out]; exact Nat.le_refl _)).mono ?_
    unfold OldIs
    rintro e w2 ⟨rfl, b2⟩
    have H2 : Shh (Below w.heap.size w w2) := ⟨Below.chain HW.out.2.2.2.2.2 (Below.chain (below1 _ _) b2)⟩
    clear b2 HW hW HMAY
    go_wp2
    go_ret2
    exact ⟨_, rfl, Sl.nil_, H2.out⟩
set_option maxHeartbeats 1000000 in
theorem wotsSigns_of (x : S5) (hw : x.wf) (vk : Value) (vs : Value) (vm : Value) (sk seed m : List UInt8) (a : List UInt32) (ha : a.length = 8) (w : World) (hk : Sl w w.heap.size vk sk) (hs : Sl w w.heap.size vs seed) (hm : Sl w w.heap.size vm m) (ht : Tabs w)
    (hlive : ∀ W, Tabs W → Calls Tryz.prog 6 #[] W (TrueIs W))
    (hP : ∀ W, Tabs W → Sl W W.heap.size vk sk → Sl W W.heap.size vs seed → Sl W W.heap.size vm m → Calls Tryz.prog 11 #[x.v, vk, vs, vm, adrV a] W (ResIs W (badE x [sk, seed, m]) (sgB x sk seed m a))) :
    Calls Tryz.prog 4 #[x.v, vk, vs, vm, adrV a] w (TrueIs w) := by
  unfold TrueIs
  obtain ⟨Ak, ck, rfl, _, _⟩ := hk.form
  obtain ⟨As, cs, rfl, _, _⟩ := hs.form
  obtain ⟨Am, cm, rfl, _, _⟩ := hm.form
  have HP : Shh ((∀ W, Tabs W → Sl W W.heap.size (.slice Ak sk.length ck) sk → Sl W W.heap.size (.slice As seed.length cs) seed → Sl W W.heap.size (.slice Am m.length cm) m → Calls Tryz.prog 11 #[x.v, .slice Ak sk.length ck, .slice As seed.length cs, .slice Am m.length cm, adrV a] W (ResIs W (badE x [sk, seed, m]) (sgB x sk seed m a))) ∧ (∀ W, Sl W W.heap.size (.slice Ak sk.length ck) sk → Sl W W.heap.size (.slice As seed.length cs) seed → Sl W W.heap.size (.slice Am m.length cm) m → Calls Tryz.prog 12 #[x.v, .slice Ak sk.length ck, .slice As seed.length cs, .slice Am m.length cm, adrV a] W (ResIs W (badE x [sk, seed, m]) (sgB x sk seed m a)))) := ⟨hP, fun W h0 h1 h2 => refSign_any x hw _ _ _ sk seed m a ha W h0 h1 h2⟩
  have HT : Shh (∀ W, Tabs W → Calls Tryz.prog 6 #[] W (TrueIs W)) := ⟨hlive⟩
  obtain ⟨W, hW⟩ : ∃ W, W = (w.alloc (.cells #[.int .u32 x.c, .bool x.s, .int .i64 x.n, .int .i64 x.h, .int .i64 x.l] 24)).alloc (.cells (wordCells a).toArray 27) := ⟨_, rfl⟩
  have HW : Shh (Row W w.heap.size 24 [.int .u32 x.c, .bool x.s, .int .i64 x.n, .int .i64 x.h, .int .i64 x.l] ∧ Row W (w.heap.size + 1) 27 (wordCells a) ∧ Sl W W.heap.size (.slice Ak sk.length ck) sk ∧ Sl W W.heap.size (.slice As seed.length cs) seed ∧ Sl W W.heap.size (.slice Am m.length cm) m ∧ Tabs W ∧ Below w.heap.size w W) := by
    rw [hW]
    exact ⟨(Row.new_ rfl rfl).alloc _, Row.new_ (by rw [asz]) rfl, (hk.go (below1 _ _)).go (below1 _ _), (hs.go (below1 _ _)).go (below1 _ _), (hm.go (below1 _ _)).go (below1 _ _), (ht.go (below1 _ _)).go (below1 _ _), Below.chain (below1 _ _) (below1 _ _)⟩
  clear hk hs hm ht hlive hP hw
  have HA : Shh ((wordCells a).length = 8) := ⟨by rw [wordCells_length]; exact ha⟩
  generalize badE x [sk, seed, m] = er at HP
  generalize sgB x sk seed m a = out at HP
  unfold S5.v adrV at HP
  unfold S5.v adrV
  generalize wordCells a = L at HP HA HW hW ⊢
  generalize x.c = xc at *
  generalize x.s = xs at *
  generalize x.n = xn at *
  generalize x.h = xh at *
  generalize x.l = xl at *
  go_enter Tryz.func4, Tryz.ntmps4
  go_wp2_with fail
  rw [← hW]
  clear hW
  go_at_call 6
  refine (HT.out _ HW.out.2.2.2.2.2.1).mono ?_
  unfold TrueIs
  rintro e w2 ⟨rfl, b2⟩
  have H2 : Shh (Row w2 w.heap.size 24 [.int .u32 xc, .bool xs, .int .i64 xn, .int .i64 xh, .int .i64 xl] ∧ Row w2 (w.heap.size + 1) 27 L ∧ Sl w2 w2.heap.size (.slice Ak sk.length ck) sk ∧ Sl w2 w2.heap.size (.slice As seed.length cs) seed ∧ Sl w2 w2.heap.size (.slice Am m.length cm) m ∧ Tabs w2 ∧ Below w.heap.size w w2) := ⟨HW.out.1.go b2, HW.out.2.1.go b2, HW.out.2.2.1.go b2, HW.out.2.2.2.1.go b2, HW.out.2.2.2.2.1.go b2, HW.out.2.2.2.2.2.1.go b2, Below.chain HW.out.2.2.2.2.2.2 b2⟩
  clear b2 HW
  cases hf : few10B [sk, seed, m] with
  | false =>
    go_wp2_with (go_at_call 7; refine (few10_any (w2.heap.size + 1) (w2.heap.size + 1) _ [sk, seed, m] _ (PartsO.three (q := w2.heap.size) (n := 3) (Nat.lt_succ_self _) (by omega) (Row.new_ rfl rfl) ((H2.out.2.2.1.below (below1 _ _)).more (by omega)) (H2.out.2.2.1.off (by omega)) ((H2.out.2.2.2.1.below (below1 _ _)).more (by omega)) (H2.out.2.2.2.1.off (by omega)) ((H2.out.2.2.2.2.1.below (below1 _ _)).more (by omega)) (H2.out.2.2.2.2.1.off (by omega))) (by simp)).mono ?_)
    rw [hf]
    rintro e w3 ⟨rfl, rfl⟩
    have H3 : Shh (Tabs (w2.alloc (.cells #[.slice Ak sk.length ck, .slice As seed.length cs, .slice Am m.length cm] 25)) ∧ Below w.heap.size w (w2.alloc (.cells #[.slice Ak sk.length ck, .slice As seed.length cs, .slice Am m.length cm] 25))) := ⟨H2.out.2.2.2.2.2.1.go (below1 _ _), Below.chain H2.out.2.2.2.2.2.2 (below1 _ _)⟩
    clear H2 hf
    go_wp2_with (go_at_call 6; refine (HT.out _ H3.out.1).mono ?_)
    unfold TrueIs
    rintro e w4 ⟨rfl, b4⟩
    have H4 : Shh (Below w.heap.size w w4) := ⟨Below.chain H3.out.2 b4⟩
    clear b4 H3
    go_wp2
    go_ret
    exact ⟨rfl, H4.out⟩
  | true =>
    have hee : ((er : Int) == er) = true := by simp
    go_wp2_with (go_at_call 7; refine (few10_any (w2.heap.size + 1) (w2.heap.size + 1) _ [sk, seed, m] _ (PartsO.three (q := w2.heap.size) (n := 3) (Nat.lt_succ_self _) (by omega) (Row.new_ rfl rfl) ((H2.out.2.2.1.below (below1 _ _)).more (by omega)) (H2.out.2.2.1.off (by omega)) ((H2.out.2.2.2.1.below (below1 _ _)).more (by omega)) (H2.out.2.2.2.1.off (by omega)) ((H2.out.2.2.2.2.1.below (below1 _ _)).more (by omega)) (H2.out.2.2.2.2.1.off (by omega))) (by simp)).mono ?_)
    rw [hf]
    rintro e w3 ⟨rfl, rfl⟩
    have H3 : Shh (Row (w2.alloc (.cells #[.slice Ak sk.length ck, .slice As seed.length cs, .slice Am m.length cm] 25)) w.heap.size 24 [.int .u32 xc, .bool xs, .int .i64 xn, .int .i64 xh, .int .i64 xl] ∧ Row (w2.alloc (.cells #[.slice Ak sk.length ck, .slice As seed.length cs, .slice Am m.length cm] 25)) (w.heap.size + 1) 27 L ∧ Sl (w2.alloc (.cells #[.slice Ak sk.length ck, .slice As seed.length cs, .slice Am m.length cm] 25)) (w2.alloc (.cells #[.slice Ak sk.length ck, .slice As seed.length cs, .slice Am m.length cm] 25)).heap.size (.slice Ak sk.length ck) sk ∧ Sl (w2.alloc (.cells #[.slice Ak sk.length ck, .slice As seed.length cs, .slice Am m.length cm] 25)) (w2.alloc (.cells #[.slice Ak sk.length ck, .slice As seed.length cs, .slice Am m.length cm] 25)).heap.size (.slice As seed.length cs) seed ∧ Sl (w2.alloc (.cells #[.slice Ak sk.length ck, .slice As seed.length cs, .slice Am m.length cm] 25)) (w2.alloc (.cells #[.slice Ak sk.length ck, .slice As seed.length cs, .slice Am m.length cm] 25)).heap.size (.slice Am m.length cm) m ∧ Tabs (w2.alloc (.cells #[.slice Ak sk.length ck, .slice As seed.length cs, .slice Am m.length cm] 25)) ∧ Below w.heap.size w (w2.alloc (.cells #[.slice Ak sk.length ck, .slice As seed.length cs, .slice Am m.length cm] 25))) := ⟨H2.out.1.go (below1 _ _), H2.out.2.1.go (below1 _ _), H2.out.2.2.1.go (below1 _ _), H2.out.2.2.2.1.go (below1 _ _), H2.out.2.2.2.2.1.go (below1 _ _), H2.out.2.2.2.2.2.1.go (below1 _ _), Below.chain H2.out.2.2.2.2.2.2 (below1 _ _)⟩
    clear H2 hf
    generalize hZ : w2.alloc _ = Z3 at H3 ⊢
    clear hZ
    go_wp2_with (first | refine wpList_load_any rfl 24 (.tmp 5) rfl w.heap.size rfl 24 [.int .u32 xc, .bool xs, .int .i64 xn, .int .i64 xh, .int .i64 xl] _ H3.out.1 Tryz.underlying24 rfl info_xms ?_ | refine wpList_load_any rfl 27 (.tmp 9) rfl (w.heap.size + 1) rfl 27 L _ H3.out.2.1 Tryz.underlying27 rfl (info_adr10 HA.out) ?_ | (go_at_call 11; refine (HP.out.1 _ H3.out.2.2.2.2.2.1 H3.out.2.2.1 H3.out.2.2.2.1 H3.out.2.2.2.2.1).mono ?_))
    rintro e w4 ⟨v4, rfl, s4, b4⟩
    obtain ⟨A4, c4, rfl, _, _⟩ := s4.form
    have H4 : Shh ((Sl w4 w4.heap.size (.slice A4 out.length c4) out) ∧ Row w4 w.heap.size 24 [.int .u32 xc, .bool xs, .int .i64 xn, .int .i64 xh, .int .i64 xl] ∧ Row w4 (w.heap.size + 1) 27 L ∧ Sl w4 w4.heap.size (.slice Ak sk.length ck) sk ∧ Sl w4 w4.heap.size (.slice As seed.length cs) seed ∧ Sl w4 w4.heap.size (.slice Am m.length cm) m ∧ Tabs w4 ∧ Below w.heap.size w w4) := ⟨s4, H3.out.1.go b4, H3.out.2.1.go b4, H3.out.2.2.1.go b4, H3.out.2.2.2.1.go b4, H3.out.2.2.2.2.1.go b4, H3.out.2.2.2.2.2.1.go b4, Below.chain H3.out.2.2.2.2.2.2 b4⟩
    clear s4 b4 H3
    have H5 := Shh.mk H4.out.2
    go_wp2_with (first | refine wpList_load_any rfl 24 (.tmp 5) rfl w.heap.size rfl 24 [.int .u32 xc, .bool xs, .int .i64 xn, .int .i64 xh, .int .i64 xl] _ H5.out.1 Tryz.underlying24 rfl info_xms ?_ | refine wpList_load_any rfl 27 (.tmp 9) rfl (w.heap.size + 1) rfl 27 L _ H5.out.2.1 Tryz.underlying27 rfl (info_adr10 HA.out) ?_ | (go_at_call 12; refine (HP.out.2 _ H5.out.2.2.1 H5.out.2.2.2.1 H5.out.2.2.2.2.1).mono ?_))
    rintro e w6 ⟨v6, rfl, s6, b6⟩
    obtain ⟨A6, c6, rfl, _, _⟩ := s6.form
    have H6 : Shh (Sl w6 w6.heap.size (.slice A4 out.length c4) out ∧ Sl w6 w6.heap.size (.slice A6 out.length c6) out ∧ Below w.heap.size w w6) := ⟨H4.out.1.go b6, s6, Below.chain H5.out.2.2.2.2.2.2 b6⟩
    clear s6 b6 H4 H5 HP HT
    have hob : (out == out) = true := by simp
    go_wp2_with (go_at_call 10; refine (refEqual_any w6.heap.size w6.heap.size _ _ out out _ H6.out.1 H6.out.2.1).mono ?_)
    rintro e w7 ⟨rfl, rfl⟩
    rw [hob]
    go_wp2
    go_ret
    exact ⟨rfl, H6.out.2.2⟩
end Go.Proofs.YtobbbljnkdfkeaaGreatDoor
