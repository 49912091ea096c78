/-
  THE PROGRAM'S OWN Public and Sign.
-/
import Derived.Test.YtobbbljnkdfkeaaGreatDoorWr2
import Derived.Test.YtobbbljnkdfkeaaGreatDoorWs13
namespace Go.Proofs.YtobbbljnkdfkeaaGreatDoor
open Go.RowKit
set_option maxRecDepth 100000
theorem repeat_any (x : S5) (hx : x.ok = true) (g c : Nat) (w : World) (hg : g < w.heap.size) (hc : w.cell? ⟨g, 0, none⟩ = some (.int .i64 15)) (hc1 : 1 ≤ c) :
    Calls Tryz.prog 20 #[.slice (some ⟨g, 0, none⟩) 1 c, .int .i64 x.l] w (SeeI9 w (List.replicate x.l.toNat 15)) := by
  rcases S5.ok_is hx with ⟨_, h⟩ | ⟨_, h⟩ <;> rw [h]
  · exact repeat_51 g c w hg hc hc1
  · exact repeat_67 g c w hg hc hc1
set_option maxHeartbeats 2000000 in
theorem Public_any (x : S5) (hw : x.wf) (vk vs : Value) (sk seed : List UInt8) (a : List UInt32) (ha : a.length = 8) (w : World) (hk : Sl w w.heap.size vk sk) (hs : Sl w w.heap.size vs seed) (ht : Tabs w) :
    Calls Tryz.prog 8 #[x.v, vk, vs, adrV a] w (ResIs w (badE x [sk, seed]) (pubB x sk seed a)) := by
  unfold ResIs
  obtain ⟨Ak, ck, rfl, _, _⟩ := hk.form
  obtain ⟨As, cs, rfl, _, _⟩ := hs.form
  have H0 : Shh (Sl w w.heap.size (.slice Ak sk.length ck) sk ∧ Sl w w.heap.size (.slice As seed.length cs) seed ∧ Tabs w) := ⟨hk, hs, ht⟩
  clear hk hs ht
  have HC : Shh (∀ (v : Value) (B : Nat) W, PartsO W B B v [sk, seed] → B ≤ W.heap.size → Calls Tryz.prog 18 #[x.v, v] W (OldIs (.int .i64 (badE x [sk, seed])) W)) := ⟨fun v B W h hB => check_any x hw v [sk, seed] B B W h hB (by simp)⟩
  obtain ⟨X, hX⟩ : ∃ X, X = x := ⟨_, rfl⟩
  have HE : Shh ((badE x [sk, seed] = 0 → pubB x sk seed a = endsB X.s X.n sk seed a (dOf []) X.l.toNat ∧ (∀ (g c : Nat) W, g < W.heap.size → W.cell? ⟨g, 0, none⟩ = some (.int .i64 15) → 1 ≤ c → Calls Tryz.prog 20 #[.slice (some ⟨g, 0, none⟩) 1 c, .int .i64 x.l] W (SeeI9 W (List.replicate X.l.toNat 15))) ∧ (∀ (vc : Value) W, Sl W W.heap.size (.slice Ak sk.length ck) sk → Sl W W.heap.size (.slice As seed.length cs) seed → SI W W.heap.size vc (List.replicate X.l.toNat 15) → Tabs W → Calls Tryz.prog 19 #[x.v, .slice Ak sk.length ck, .slice As seed.length cs, adrV a, vc] W (SlIs W (endsB X.s X.n sk seed a (dOf []) X.l.toNat)))) ∧ (badE x [sk, seed] ≠ 0 → pubB x sk seed a = [])) := by
    rw [hX]
    refine ⟨fun h => ?_, fun h => by unfold pubB; rw [if_neg h]⟩
    obtain ⟨hx, hall⟩ := badE_ok h
    have h1 := hall sk (by simp)
    have h2 := hall seed (by simp)
    have hl : 0 < x.l.toNat := by rcases S5.ok_is hx with h3 | h3 <;> omega
    refine ⟨by unfold pubB; rw [if_pos h], fun g c W h3 h4 h5 => repeat_any x hx g c W h3 h4 h5, fun vc W h3 h4 h5 h6 => grown_any x hx _ _ vc sk seed a ha (List.replicate x.l.toNat 15) (dOf []) (by rw [List.length_replicate]; omega) (fun i hi => ⟨?_, by simp [dOf]⟩) W h3 h4 h5 h6 h1 h2⟩
    rw [List.getD_eq_getElem?_getD, List.getElem?_eq_getElem (by rw [List.length_replicate]; exact hi), Option.getD_some, List.getElem_replicate]
    simp [dOf]
  generalize badE x [sk, seed] = er at HC HE ⊢
  generalize pubB x sk seed a = out at HE ⊢
  obtain ⟨W0, hW0⟩ : ∃ W0, W0 = (w.alloc (.cells #[.int .u32 x.c, .bool x.s, .int .i64 x.n, .int .i64 x.h, .int .i64 x.l] 24)).alloc (.cells (wordCells a).toArray 27) := ⟨_, rfl⟩
  have HW0 : Shh (Row W0 w.heap.size 24 [.int .u32 x.c, .bool x.s, .int .i64 x.n, .int .i64 x.h, .int .i64 x.l] ∧ Row W0 (w.heap.size + 1) 27 (wordCells a) ∧ W0.heap.size = w.heap.size + 2 ∧ Below w.heap.size w W0) := by
    rw [hW0]
    exact ⟨(Row.new_ rfl rfl).alloc _, Row.new_ (by rw [asz]) rfl, by rw [asz, asz], Below.chain (below1 _ _) (below1 _ _)⟩
  obtain ⟨W, hW⟩ : ∃ W, W = W0.alloc (.cells #[.slice Ak sk.length ck, .slice As seed.length cs] 25) := ⟨_, rfl⟩
  have HW : Shh (Row W w.heap.size 24 [.int .u32 x.c, .bool x.s, .int .i64 x.n, .int .i64 x.h, .int .i64 x.l] ∧ Row W (w.heap.size + 1) 27 (wordCells a) ∧ PartsO W (w.heap.size + 3) (w.heap.size + 3) (.slice (some ⟨w.heap.size + 2, 0, none⟩) 2 2) [sk, seed] ∧ w.heap.size + 3 ≤ W.heap.size ∧ Below w.heap.size w W) := by
    have b0 : Below w.heap.size w W := by rw [hW]; exact Below.chain HW0.out.2.2.2 (below1 _ _)
    refine ⟨by rw [hW]; exact HW0.out.1.alloc _, by rw [hW]; exact HW0.out.2.1.alloc _, ?_, by rw [hW, asz, HW0.out.2.2.1]; exact Nat.le_refl _, b0⟩
    exact PartsO.two (by omega) (by omega) (by rw [hW]; exact Row.new_ HW0.out.2.2.1.symm rfl) ((H0.out.1.below b0).more (by omega)) (H0.out.1.off (by omega)) ((H0.out.2.1.below b0).more (by omega)) (H0.out.2.1.off (by omega))
  clear hw hX
  have HA : Shh (a.length = 8 ∧ (wordCells a).length = 8) := ⟨ha, by rw [wordCells_length]; exact ha⟩
  clear ha
  unfold adrV at HE
  unfold adrV
  unfold S5.v at HC HE ⊢
  generalize x.c = xc at *
  generalize x.s = xs at *
  generalize x.n = xn at *
  generalize x.h = xh at *
  generalize x.l = xl at *
  by_cases her : er = 0
  · have HE2 := Shh.mk (HE.out.1 her)
    subst her
    rw [HE2.out.1]
    clear HE
    go_enter Tryz.func8, Tryz.ntmps8
    go_wp2_with (first | (rw [← hW0]; refine wpList_load_any rfl 24 (.tmp 4) rfl w.heap.size rfl 24 [.int .u32 xc, .bool xs, .int .i64 xn, .int .i64 xh, .int .i64 xl] _ HW0.out.1 Tryz.underlying24 rfl info_xms ?_) | (go_at_call 18; rw [← hW0, ← hW]; refine (HC.out _ _ _ HW.out.2.2.1 HW.out.2.2.2.1).mono ?_))
    try rw [← hW0, ← hW]
    unfold OldIs
    rintro e w2 ⟨rfl, b2⟩
    have HZ : Shh (Row w2 w.heap.size 24 [.int .u32 xc, .bool xs, .int .i64 xn, .int .i64 xh, .int .i64 xl] ∧ Row w2 (w.heap.size + 1) 27 (wordCells a) ∧ Below w.heap.size w w2) := ⟨HW.out.1.go b2, HW.out.2.1.go b2, Below.chain HW.out.2.2.2.2 b2⟩
    clear HW hW b2 HC HW0 hW0
    go_wp2_with fail
    refine wp_region_held_drew (S := fun w' => Row w' w.heap.size 24 [.int .u32 xc, .bool xs, .int .i64 xn, .int .i64 xh, .int .i64 xl] ∧ Row w' (w.heap.size + 1) 27 (wordCells a)) (by kernel_rfl) ⟨HZ.out.1.drew, HZ.out.2.1.drew⟩ (fun hS => ?_)
    clear hS
    obtain ⟨V, hV⟩ : ∃ V, V = World.drew w2 := ⟨_, rfl⟩
    rw [← hV]
    have rX : Row V w.heap.size 24 [.int .u32 xc, .bool xs, .int .i64 xn, .int .i64 xh, .int .i64 xl] := by rw [hV]; exact HZ.out.1.drew
    have rA : Row V (w.heap.size + 1) 27 (wordCells a) := by rw [hV]; exact HZ.out.2.1.drew
    have HBV : Below w.heap.size w V := by rw [hV]; exact HZ.out.2.2.drew
    have sK : Sl V V.heap.size (.slice Ak sk.length ck) sk := H0.out.1.go HBV
    have sS : Sl V V.heap.size (.slice As seed.length cs) seed := H0.out.2.1.go HBV
    have rT : Tabs V := H0.out.2.2.go HBV
    clear hV HZ
    refine held_value 1 _ _ (some 20) (.slice Ak sk.length ck) (by kernel_rfl) (by rfl) (by kernel_rfl) (fun w hS => by first | kernel_rfl | go_simp) (fun _ _ _ _ h => h) (⟨rX, rA⟩) ?_
    simp only [Act.put, List.setIfInBounds_toArray, List.set_cons_zero, List.set_cons_succ]
    refine held_value 2 _ _ (some 21) (.slice As seed.length cs) (by kernel_rfl) (by rfl) (by kernel_rfl) (fun w hS => by first | kernel_rfl | go_simp) (fun _ _ _ _ h => h) (⟨rX, rA⟩) ?_
    simp only [Act.put, List.setIfInBounds_toArray, List.set_cons_zero, List.set_cons_succ]
    refine held_value 5 _ _ (some 24) (.pointer (some ⟨w.heap.size, 4, none⟩)) (by kernel_rfl) (by rfl) (by kernel_rfl) (fun w hS => by first | kernel_rfl | go_simp) (fun _ _ _ _ h => h) (⟨rX, rA⟩) ?_
    simp only [Act.put, List.setIfInBounds_toArray, List.set_cons_zero, List.set_cons_succ]
    refine held_value 6 _ _ (some 25) (.int .i64 xl) (by kernel_rfl) (by rfl) (by kernel_rfl) (fun w hS => by have h2 := hS.1.cell 4; simp only [List.getElem?_cons_succ, List.getElem?_cons_zero] at h2; go_simp) (fun _ _ _ _ h => h) (⟨rX, rA⟩) ?_
    simp only [Act.put, List.setIfInBounds_toArray, List.set_cons_zero, List.set_cons_succ]
    refine held_load 0 24 (.tmp 4) (some 19) (by kernel_rfl) (by rfl) (by kernel_rfl) w.heap.size 0 (by kernel_rfl) ([.int .u32 xc, .bool xs, .int .i64 xn, .int .i64 xh, .int .i64 xl]) _ (fun w h => h.1.range) Tryz.underlying24 rfl (info_xms) (fun _ _ _ _ h => h) (⟨rX, rA⟩) ?_
    simp only [Act.put, List.setIfInBounds_toArray, List.set_cons_zero, List.set_cons_succ]
    refine held_load 3 27 (.tmp 7) (some 22) (by kernel_rfl) (by rfl) (by kernel_rfl) (w.heap.size + 1) 0 (by kernel_rfl) (wordCells a) _ (fun w h => h.2.range) Tryz.underlying27 rfl (info_adr10 HA.out.2) (fun _ _ _ _ h => h) (⟨rX, rA⟩) ?_
    simp only [Act.put, List.setIfInBounds_toArray, List.set_cons_zero, List.set_cons_succ]
    refine held_one 4 (by kernel_rfl) ?_
    refine step_value 4 _ _ (some 23) (.slice (some ⟨V.heap.size, 0, none⟩) 1 1) (V.alloc (.cells #[.int .i64 15] 3)) (by rfl) (by kernel_rfl) (by first | kernel_rfl | go_simp) (⟨rX.alloc _, rA.alloc _⟩) ?_
    simp only [Act.put, List.setIfInBounds_toArray, List.set_cons_zero, List.set_cons_succ]
    have bx : Below V.heap.size V (V.alloc (.cells #[.int .i64 15] 3)) := Below.alloc (Below.refl _ _) (Nat.le_refl _) _
    have rP : Row (V.alloc (.cells #[.int .i64 15] 3)) V.heap.size 3 [.int .i64 15] := Row.new_ rfl rfl
    have z_rP := asz V (.cells #[.int .i64 15] 3)
    generalize V.alloc (.cells #[.int .i64 15] 3) = Y1 at *
    have b_V := bx
    have m_Y1 : V.heap.size ≤ Y1.heap.size := bx.size
    clear bx
    refine held_one 7 (by kernel_rfl) ?_
    refine step_call 7 _ _ (some 26) 20 #[.slice (some ⟨V.heap.size, 0, none⟩) 1 1, .int .i64 xl] (by rfl) (by kernel_rfl) (by first | kernel_rfl | go_simp) ?_
    refine (HE2.out.2.1 _ 1 Y1 rP.lt (rP.cell 0) (Nat.le_refl _)).mono ?_
    rintro e Y2 ⟨vc, rfl, gc, bc⟩
    have bx : Below Y1.heap.size Y1 Y2 := bc
    have sC := gc
    clear gc
    replace b_V := Below.chain b_V bx
    have b_Y1 := bx
    have m_Y2 : Y1.heap.size ≤ Y2.heap.size := bx.size
    clear bx
    refine ⟨_, rfl, ⟨(rX.go b_V), (rA.go b_V)⟩, ?_⟩
    simp only [Act.put, List.setIfInBounds_toArray, List.set_cons_zero, List.set_cons_succ]
    refine held_one 8 (by kernel_rfl) ?_
    refine step_call 8 _ _ (some 27) 19 #[.agg ([.int .u32 xc, .bool xs, .int .i64 xn, .int .i64 xh, .int .i64 xl]).toArray, .slice Ak sk.length ck, .slice As seed.length cs, .agg (wordCells a).toArray, vc] (by rfl) (by kernel_rfl) (by first | kernel_rfl | go_simp) ?_
    refine (HE2.out.2.2 vc Y2 ((sK.go b_V)) ((sS.go b_V)) (sC) ((rT.go b_V))).mono ?_
    rintro e Y3 ⟨vr, rfl, gr, br⟩
    have bx : Below Y2.heap.size Y2 Y3 := br
    have sR := gr
    clear gr
    replace b_V := Below.chain b_V bx
    replace b_Y1 := Below.chain b_Y1 bx
    have b_Y2 := bx
    have m_Y3 : Y2.heap.size ≤ Y3.heap.size := bx.size
    clear bx
    refine ⟨_, rfl, ⟨(rX.go b_V), (rA.go b_V)⟩, ?_⟩
    simp only [Act.put, List.setIfInBounds_toArray, List.set_cons_zero, List.set_cons_succ]
    refine held_value 9 _ _ (some 8) (vr) (by kernel_rfl) (by rfl) (by kernel_rfl) (fun w hS => by first | kernel_rfl | go_simp) (fun _ _ _ _ h => h) (⟨(rX.go b_V), (rA.go b_V)⟩) ?_
    simp only [Act.put, List.setIfInBounds_toArray, List.set_cons_zero, List.set_cons_succ]
    refine held_value 10 _ _ (some 9) (.int .i64 0) (by kernel_rfl) (by rfl) (by kernel_rfl) (fun w hS => by first | kernel_rfl | go_simp) (fun _ _ _ _ h => h) (⟨(rX.go b_V), (rA.go b_V)⟩) ?_
    simp only [Act.put, List.setIfInBounds_toArray, List.set_cons_zero, List.set_cons_succ]
    refine wpAnyH_done (by kernel_rfl) ?_ _
    have HR : Shh (Sl Y3 Y3.heap.size vr (endsB X.s X.n sk seed a (dOf []) X.l.toNat) ∧ Below w.heap.size w Y3) := ⟨sR, Below.chain HBV b_V⟩
    clear m_Y3 b_Y2 sR br m_Y2 b_Y1 sC bc m_Y1 b_V z_rP rP HBV rX rA rT sK sS
    go_wp2
    go_ret2
    exact ⟨_, rfl, HR.out⟩
  · have HL : Shh (out = []) := ⟨HE.out.2 her⟩
    have hne : (er != 0) = true := by simp [her]
    rw [HL.out]
    clear HE HL her
    go_enter Tryz.func8, Tryz.ntmps8
    go_wp2_with (first | (rw [← hW0]; refine wpList_load_any rfl 24 (.tmp 4) rfl w.heap.size rfl 24 [.int .u32 xc, .bool xs, .int .i64 xn, .int .i64 xh, .int .i64 xl] _ HW0.out.1 Tryz.underlying24 rfl info_xms ?_) | (go_at_call 18; rw [← hW0, ← hW]; refine (HC.out _ _ _ HW.out.2.2.1 HW.out.2.2.2.1).mono ?_))
    try rw [← hW0, ← hW]
    unfold OldIs
    rintro e w2 ⟨rfl, b2⟩
    have H2 : Shh (Below w.heap.size w w2) := ⟨Below.chain HW.out.2.2.2.2 b2⟩
    clear HW hW b2 HC HW0 hW0
    go_wp2
    go_ret2
    exact ⟨_, rfl, Sl.nil_, H2.out⟩
set_option maxHeartbeats 2000000 in
theorem Sign_any (x : S5) (hw : x.wf) (vk vs vm : Value) (sk seed m : List UInt8) (a : List UInt32) (ha : a.length = 8) (w : World) (hk : Sl w w.heap.size vk sk) (hs : Sl w w.heap.size vs seed) (hm : Sl w w.heap.size vm m) (ht : Tabs w) :
    Calls Tryz.prog 11 #[x.v, vk, vs, vm, adrV a] w (ResIs w (badE x [sk, seed, m]) (sgB x sk seed m a)) := by
  unfold ResIs
  obtain ⟨Ak, ck, rfl, _, _⟩ := hk.form
  obtain ⟨As, cs, rfl, _, _⟩ := hs.form
  obtain ⟨Am, cm, rfl, _, _⟩ := hm.form
  have H0 : Shh (Sl w w.heap.size (.slice Ak sk.length ck) sk ∧ Sl w w.heap.size (.slice As seed.length cs) seed ∧ Sl w w.heap.size (.slice Am m.length cm) m ∧ Tabs w) := ⟨hk, hs, hm, ht⟩
  clear hk hs hm ht
  have HC : Shh (∀ (v : Value) (B : Nat) W, PartsO W B B v [sk, seed, m] → B ≤ W.heap.size → Calls Tryz.prog 18 #[x.v, v] W (OldIs (.int .i64 (badE x [sk, seed, m])) W)) := ⟨fun v B W h hB => check_any x hw v [sk, seed, m] B B W h hB (by simp)⟩
  obtain ⟨X, hX⟩ : ∃ X, X = x := ⟨_, rfl⟩
  have HE : Shh ((badE x [sk, seed, m] = 0 → sgB x sk seed m a = endsB X.s X.n sk seed a (dOf (dig10 m)) X.l.toNat ∧ (∀ W, Sl W W.heap.size (.slice Am m.length cm) m → Calls Tryz.prog 23 #[.slice Am m.length cm] W (IntsIs W (dig10 m))) ∧ (∀ (vc : Value) W, Sl W W.heap.size (.slice Ak sk.length ck) sk → Sl W W.heap.size (.slice As seed.length cs) seed → SI W W.heap.size vc (dig10 m) → Tabs W → Calls Tryz.prog 19 #[x.v, .slice Ak sk.length ck, .slice As seed.length cs, adrV a, vc] W (SlIs W (endsB X.s X.n sk seed a (dOf (dig10 m)) X.l.toNat)))) ∧ (badE x [sk, seed, m] ≠ 0 → sgB x sk seed m a = [])) := by
    rw [hX]
    refine ⟨fun h => ?_, fun h => by unfold sgB; rw [if_neg h]⟩
    obtain ⟨hx, hall⟩ := badE_ok h
    have h1 := hall sk (by simp)
    have h2 := hall seed (by simp)
    have h0 := hall m (by simp)
    have hml : m.length ≤ 32 := badE_len h (by simp)
    have hdl : ((dig10 m).length : Int) = x.l := by rw [dig10_length]; rcases S5.ok_is hx with h3 | h3 <;> omega
    refine ⟨by unfold sgB; rw [if_pos h], fun W h3 => digits_any _ m W h3 (by omega), fun vc W h3 h4 h5 h6 => grown_any x hx _ _ vc sk seed a ha (dig10 m) (dOf (dig10 m)) hdl (fun i hi => ⟨?_, dOf_le (dig10_lt m hml) i⟩) W h3 h4 h5 h6 h1 h2⟩
    rw [dOf_get (by omega), List.getD_eq_getElem?_getD, List.getElem?_eq_getElem (by omega)]
    rfl
  generalize badE x [sk, seed, m] = er at HC HE ⊢
  generalize sgB x sk seed m a = out at HE ⊢
  obtain ⟨W0, hW0⟩ : ∃ W0, W0 = (w.alloc (.cells #[.int .u32 x.c, .bool x.s, .int .i64 x.n, .int .i64 x.h, .int .i64 x.l] 24)).alloc (.cells (wordCells a).toArray 27) := ⟨_, rfl⟩
  have HW0 : Shh (Row W0 w.heap.size 24 [.int .u32 x.c, .bool x.s, .int .i64 x.n, .int .i64 x.h, .int .i64 x.l] ∧ Row W0 (w.heap.size + 1) 27 (wordCells a) ∧ W0.heap.size = w.heap.size + 2 ∧ Below w.heap.size w W0) := by
    rw [hW0]
    exact ⟨(Row.new_ rfl rfl).alloc _, Row.new_ (by rw [asz]) rfl, by rw [asz, asz], Below.chain (below1 _ _) (below1 _ _)⟩
  obtain ⟨W, hW⟩ : ∃ W, W = W0.alloc (.cells #[.slice Ak sk.length ck, .slice As seed.length cs, .slice Am m.length cm] 25) := ⟨_, rfl⟩
  have HW : Shh (Row W w.heap.size 24 [.int .u32 x.c, .bool x.s, .int .i64 x.n, .int .i64 x.h, .int .i64 x.l] ∧ Row W (w.heap.size + 1) 27 (wordCells a) ∧ PartsO W (w.heap.size + 3) (w.heap.size + 3) (.slice (some ⟨w.heap.size + 2, 0, none⟩) 3 3) [sk, seed, m] ∧ w.heap.size + 3 ≤ W.heap.size ∧ Below w.heap.size w W) := by
    have b0 : Below w.heap.size w W := by rw [hW]; exact Below.chain HW0.out.2.2.2 (below1 _ _)
    refine ⟨by rw [hW]; exact HW0.out.1.alloc _, by rw [hW]; exact HW0.out.2.1.alloc _, ?_, by rw [hW, asz, HW0.out.2.2.1]; exact Nat.le_refl _, b0⟩
    exact PartsO.three (by omega) (by omega) (by rw [hW]; exact Row.new_ HW0.out.2.2.1.symm rfl) ((H0.out.1.below b0).more (by omega)) (H0.out.1.off (by omega)) ((H0.out.2.1.below b0).more (by omega)) (H0.out.2.1.off (by omega)) ((H0.out.2.2.1.below b0).more (by omega)) (H0.out.2.2.1.off (by omega))
  clear hw hX
  have HA : Shh (a.length = 8 ∧ (wordCells a).length = 8) := ⟨ha, by rw [wordCells_length]; exact ha⟩
  clear ha
  unfold adrV at HE
  unfold adrV
  unfold S5.v at HC HE ⊢
  generalize x.c = xc at *
  generalize x.s = xs at *
  generalize x.n = xn at *
  generalize x.h = xh at *
  generalize x.l = xl at *
  by_cases her : er = 0
  · have HE2 := Shh.mk (HE.out.1 her)
    subst her
    rw [HE2.out.1]
    clear HE
    go_enter Tryz.func11, Tryz.ntmps11
    go_wp2_with (first | (rw [← hW0]; refine wpList_load_any rfl 24 (.tmp 5) rfl w.heap.size rfl 24 [.int .u32 xc, .bool xs, .int .i64 xn, .int .i64 xh, .int .i64 xl] _ HW0.out.1 Tryz.underlying24 rfl info_xms ?_) | (go_at_call 18; rw [← hW0, ← hW]; refine (HC.out _ _ _ HW.out.2.2.1 HW.out.2.2.2.1).mono ?_))
    try rw [← hW0, ← hW]
    unfold OldIs
    rintro e w2 ⟨rfl, b2⟩
    have HZ : Shh (Row w2 w.heap.size 24 [.int .u32 xc, .bool xs, .int .i64 xn, .int .i64 xh, .int .i64 xl] ∧ Row w2 (w.heap.size + 1) 27 (wordCells a) ∧ Below w.heap.size w w2) := ⟨HW.out.1.go b2, HW.out.2.1.go b2, Below.chain HW.out.2.2.2.2 b2⟩
    clear HW hW b2 HC HW0 hW0
    go_wp2_with fail
    refine wp_region_held_drew (S := fun w' => Row w' w.heap.size 24 [.int .u32 xc, .bool xs, .int .i64 xn, .int .i64 xh, .int .i64 xl] ∧ Row w' (w.heap.size + 1) 27 (wordCells a)) (by kernel_rfl) ⟨HZ.out.1.drew, HZ.out.2.1.drew⟩ (fun hS => ?_)
    clear hS
    obtain ⟨V, hV⟩ : ∃ V, V = World.drew w2 := ⟨_, rfl⟩
    rw [← hV]
    have rX : Row V w.heap.size 24 [.int .u32 xc, .bool xs, .int .i64 xn, .int .i64 xh, .int .i64 xl] := by rw [hV]; exact HZ.out.1.drew
    have rA : Row V (w.heap.size + 1) 27 (wordCells a) := by rw [hV]; exact HZ.out.2.1.drew
    have HBV : Below w.heap.size w V := by rw [hV]; exact HZ.out.2.2.drew
    have sK : Sl V V.heap.size (.slice Ak sk.length ck) sk := H0.out.1.go HBV
    have sS : Sl V V.heap.size (.slice As seed.length cs) seed := H0.out.2.1.go HBV
    have sM : Sl V V.heap.size (.slice Am m.length cm) m := H0.out.2.2.1.go HBV
    have rT : Tabs V := H0.out.2.2.2.go HBV
    clear hV HZ
    refine held_value 1 _ _ (some 23) (.slice Ak sk.length ck) (by kernel_rfl) (by rfl) (by kernel_rfl) (fun w hS => by first | kernel_rfl | go_simp) (fun _ _ _ _ h => h) (⟨rX, rA⟩) ?_
    simp only [Act.put, List.setIfInBounds_toArray, List.set_cons_zero, List.set_cons_succ]
    refine held_value 2 _ _ (some 24) (.slice As seed.length cs) (by kernel_rfl) (by rfl) (by kernel_rfl) (fun w hS => by first | kernel_rfl | go_simp) (fun _ _ _ _ h => h) (⟨rX, rA⟩) ?_
    simp only [Act.put, List.setIfInBounds_toArray, List.set_cons_zero, List.set_cons_succ]
    refine held_value 4 _ _ (some 26) (.slice Am m.length cm) (by kernel_rfl) (by rfl) (by kernel_rfl) (fun w hS => by first | kernel_rfl | go_simp) (fun _ _ _ _ h => h) (⟨rX, rA⟩) ?_
    simp only [Act.put, List.setIfInBounds_toArray, List.set_cons_zero, List.set_cons_succ]
    refine held_load 0 24 (.tmp 5) (some 22) (by kernel_rfl) (by rfl) (by kernel_rfl) w.heap.size 0 (by kernel_rfl) ([.int .u32 xc, .bool xs, .int .i64 xn, .int .i64 xh, .int .i64 xl]) _ (fun w h => h.1.range) Tryz.underlying24 rfl (info_xms) (fun _ _ _ _ h => h) (⟨rX, rA⟩) ?_
    simp only [Act.put, List.setIfInBounds_toArray, List.set_cons_zero, List.set_cons_succ]
    refine held_load 3 27 (.tmp 9) (some 25) (by kernel_rfl) (by rfl) (by kernel_rfl) (w.heap.size + 1) 0 (by kernel_rfl) (wordCells a) _ (fun w h => h.2.range) Tryz.underlying27 rfl (info_adr10 HA.out.2) (fun _ _ _ _ h => h) (⟨rX, rA⟩) ?_
    simp only [Act.put, List.setIfInBounds_toArray, List.set_cons_zero, List.set_cons_succ]
    refine held_one 5 (by kernel_rfl) ?_
    refine step_call 5 _ _ (some 27) 23 #[.slice Am m.length cm] (by rfl) (by kernel_rfl) (by first | kernel_rfl | go_simp) ?_
    refine (HE2.out.2.1 V (sM)).mono ?_
    rintro e Y1 ⟨vc, rfl, gc, bc⟩
    have bx : Below V.heap.size V Y1 := bc
    have sC : SI Y1 Y1.heap.size vc (dig10 m) := SI.of_own gc
    clear gc
    have b_V := bx
    have m_Y1 : V.heap.size ≤ Y1.heap.size := bx.size
    clear bx
    refine ⟨_, rfl, ⟨(rX.go b_V), (rA.go b_V)⟩, ?_⟩
    simp only [Act.put, List.setIfInBounds_toArray, List.set_cons_zero, List.set_cons_succ]
    refine held_one 6 (by kernel_rfl) ?_
    refine step_call 6 _ _ (some 28) 19 #[.agg ([.int .u32 xc, .bool xs, .int .i64 xn, .int .i64 xh, .int .i64 xl]).toArray, .slice Ak sk.length ck, .slice As seed.length cs, .agg (wordCells a).toArray, vc] (by rfl) (by kernel_rfl) (by first | kernel_rfl | go_simp) ?_
    refine (HE2.out.2.2 vc Y1 ((sK.go b_V)) ((sS.go b_V)) (sC) ((rT.go b_V))).mono ?_
    rintro e Y2 ⟨vr, rfl, gr, br⟩
    have bx : Below Y1.heap.size Y1 Y2 := br
    have sR := gr
    clear gr
    replace b_V := Below.chain b_V bx
    have b_Y1 := bx
    have m_Y2 : Y1.heap.size ≤ Y2.heap.size := bx.size
    clear bx
    refine ⟨_, rfl, ⟨(rX.go b_V), (rA.go b_V)⟩, ?_⟩
    simp only [Act.put, List.setIfInBounds_toArray, List.set_cons_zero, List.set_cons_succ]
    refine held_value 7 _ _ (some 10) (vr) (by kernel_rfl) (by rfl) (by kernel_rfl) (fun w hS => by first | kernel_rfl | go_simp) (fun _ _ _ _ h => h) (⟨(rX.go b_V), (rA.go b_V)⟩) ?_
    simp only [Act.put, List.setIfInBounds_toArray, List.set_cons_zero, List.set_cons_succ]
    refine held_value 8 _ _ (some 11) (.int .i64 0) (by kernel_rfl) (by rfl) (by kernel_rfl) (fun w hS => by first | kernel_rfl | go_simp) (fun _ _ _ _ h => h) (⟨(rX.go b_V), (rA.go b_V)⟩) ?_
    simp only [Act.put, List.setIfInBounds_toArray, List.set_cons_zero, List.set_cons_succ]
    refine wpAnyH_done (by kernel_rfl) ?_ _
    have HR : Shh (Sl Y2 Y2.heap.size vr (endsB X.s X.n sk seed a (dOf (dig10 m)) X.l.toNat) ∧ Below w.heap.size w Y2) := ⟨sR, Below.chain HBV b_V⟩
    clear m_Y2 b_Y1 sR br m_Y1 b_V sC bc HBV rX rA rT sK sS sM
    go_wp2
    go_ret2
    exact ⟨_, rfl, HR.out⟩
  · have HL : Shh (out = []) := ⟨HE.out.2 her⟩
    have hne : (er != 0) = true := by simp [her]
    rw [HL.out]
    clear HE HL her
    go_enter Tryz.func11, Tryz.ntmps11
    go_wp2_with (first | (rw [← hW0]; refine wpList_load_any rfl 24 (.tmp 5) rfl w.heap.size rfl 24 [.int .u32 xc, .bool xs, .int .i64 xn, .int .i64 xh, .int .i64 xl] _ HW0.out.1 Tryz.underlying24 rfl info_xms ?_) | (go_at_call 18; rw [← hW0, ← hW]; refine (HC.out _ _ _ HW.out.2.2.1 HW.out.2.2.2.1).mono ?_))
    try rw [← hW0, ← hW]
    unfold OldIs
    rintro e w2 ⟨rfl, b2⟩
    have H2 : Shh (Below w.heap.size w w2) := ⟨Below.chain HW.out.2.2.2.2 b2⟩
    clear HW hW b2 HC HW0 hW0
    go_wp2
    go_ret2
    exact ⟨_, rfl, Sl.nil_, H2.out⟩
end Go.Proofs.YtobbbljnkdfkeaaGreatDoor
