/-
  THE LAWS' live, over contracts of the program's own functions.
-/
import Derived.Test.YtobbbljnkdfkeaaDoorWs12
namespace Go.Proofs.YtobbbljnkdfkeaaDoor
open Go.RowKit
set_option maxRecDepth 100000
/-- some steps, if they may be asked -/
def chN0 (x : S5) (b seed : List UInt8) (a : List UInt32) (f n : Nat) : List UInt8 := if badE x [b, seed] = 0 then goB x.s x.n seed a b f n else []
def x0 : S5 := ⟨4043309073, false, 24, 1, 51⟩
theorem x0_is : xmsV 4043309073 = .agg #[.int .u32 4043309073, .bool false, .int .i64 24, .int .i64 1, .int .i64 51] ∧ xE 4043309073 = 0 := by
  have h1 : xH 4043309073 = 1 := by decide +kernel
  have h2 : xF 4043309073 = 1 := by decide +kernel
  refine ⟨?_, by unfold xE; rw [h1]; rfl⟩
  unfold xmsV xC xSh xN xL
  rw [h1, h2]
  rfl
theorem x0_ok : x0.ok = true := by
  have h1 : xH 4043309073 = 1 := by decide +kernel
  have h2 : xF 4043309073 = 1 := by decide +kernel
  unfold S5.ok x0
  refine decide_eq_true ?_
  show xE 4043309073 = 0 ∧ _
  unfold xE xC xSh xN xL
  simp only [show ((4043309073 : Int).toNat) = 4043309073 from rfl, h1, h2]
  decide
theorem set10_any (w : World) : Calls Tryd.prog 27 #[] w (OldIs (.agg #[.int .u32 4043309073, .bool false, .int .i64 24, .int .i64 1, .int .i64 51]) w) := by
  unfold OldIs
  have HX : Shh (∀ W, Calls Tryd.prog 43 #[.int .u32 4043309073] W (OldIs (.tuple #[.agg #[.int .u32 4043309073, .bool false, .int .i64 24, .int .i64 1, .int .i64 51], .int .i64 0]) W)) := ⟨fun W => by
    have h := refXmss_any 4043309073 (by decide) W
    rw [x0_is.1, x0_is.2] at h
    exact h⟩
  have HW : Shh (Row (w.alloc (.cells #[.int .u32 0, .bool false, .int .i64 0, .int .i64 0, .int .i64 0] 24)) w.heap.size 24 [.int .u32 0, .bool false, .int .i64 0, .int .i64 0, .int .i64 0] ∧ Below w.heap.size w (w.alloc (.cells #[.int .u32 0, .bool false, .int .i64 0, .int .i64 0, .int .i64 0] 24))) := ⟨Row.new_ rfl rfl, below1 _ _⟩
  go_enter Tryd.func27, Tryd.ntmps27
  go_wp2_with (go_at_call 43; refine (HX.out _).mono ?_)
  unfold OldIs
  rintro e w2 ⟨rfl, b2⟩
  have H2 : Shh (Row w2 w.heap.size 24 [.int .u32 0, .bool false, .int .i64 0, .int .i64 0, .int .i64 0] ∧ Below w.heap.size w w2 ∧ w.heap.size < w2.heap.size) := ⟨HW.out.1.go b2, Below.chain HW.out.2 b2, (HW.out.1.go b2).lt⟩
  clear HW b2 HX
  obtain ⟨M, hM⟩ : ∃ M, Shh (M = w2.heap.size) := ⟨_, ⟨rfl⟩⟩
  go_wp2_with (refine wpList_store_any rfl 24 (.tmp 1) (.tmp 5) rfl M (by rw [hM.out]; rfl) [.int .u32 4043309073, .bool false, .int .i64 24, .int .i64 1, .int .i64 51] rfl 24 [.int .u32 0, .bool false, .int .i64 0, .int .i64 0, .int .i64 0] (Row.new_ hM.out rfl) info_xms rfl oneCell5 ?_)
  intro Z hr bt _
  have H3 : Shh (Row Z w.heap.size 24 [.int .u32 0, .bool false, .int .i64 0, .int .i64 0, .int .i64 0] ∧ Row Z M 24 [.int .u32 4043309073, .bool false, .int .i64 24, .int .i64 1, .int .i64 51] ∧ Below w.heap.size w Z) := by
    have hm := hM.out
    have hl := H2.out.2.2
    exact ⟨bt.row (H2.out.1.alloc _) (by first | omega | (rw [asz]; omega)) (by omega), hr, Below.chain H2.out.2.1 ((below1 _ _).trans (bt.under (by first | omega | (rw [asz]; omega)) (by omega)))⟩
  rw [← hM.out]
  clear hr bt H2 hM
  go_wp2_with (first | refine wpList_load_any rfl 24 (.tmp 1) rfl M rfl 24 [.int .u32 4043309073, .bool false, .int .i64 24, .int .i64 1, .int .i64 51] _ H3.out.2.1 Tryd.underlying24 rfl info_xms ?_ | refine wpList_store_any rfl 24 (.tmp 0) (.tmp 7) rfl w.heap.size rfl [.int .u32 4043309073, .bool false, .int .i64 24, .int .i64 1, .int .i64 51] rfl 24 [.int .u32 0, .bool false, .int .i64 0, .int .i64 0, .int .i64 0] H3.out.1 info_xms rfl oneCell5 ?_)
  intro Z2 hr bt2 _
  have H4 : Shh (Row Z2 w.heap.size 24 [.int .u32 4043309073, .bool false, .int .i64 24, .int .i64 1, .int .i64 51] ∧ Below w.heap.size w Z2) := ⟨hr, H3.out.2.2.trans (bt2.under (by have := H3.out.1.lt; omega) (Nat.le_refl _))⟩
  clear hr bt2 H3
  go_wp2
  exact ret_row Tryd.results27 rfl rfl H4.out.1 Tryd.underlying24 rfl info_xms ⟨rfl, H4.out.2⟩
def z24 : List UInt8 := List.replicate 24 0
def a0 : List UInt32 := List.replicate 8 0
theorem z24_dig : (dig10 z24).length = 51 ∧ (dig10 z24).getD 48 0 = 2 ∧ (dig10 z24).getD 49 0 = 13 ∧ (dig10 z24).getD 50 0 = 0 := by decide +kernel
theorem z24_bad : badE x0 [z24] = 0 ∧ badE x0 [z24, z24] = 0 := ⟨badE_of x0_ok (fun b hb => by simp only [List.mem_cons, List.not_mem_nil, or_false] at hb; rw [hb]; decide), badE_of x0_ok (fun b hb => by simp only [List.mem_cons, List.not_mem_nil, or_false, or_self] at hb; rw [hb]; decide)⟩
set_option maxHeartbeats 2000000 in
theorem live10_of (hD : ∀ (vy : Value) (y : List UInt8) W, Tabs W → Sl W W.heap.size vy y → Calls Tryd.prog 20 #[x0.v, vy] W (ResI W (badE x0 [y]) (askD x0 y)))
    (hCh : ∀ (vb vs : Value) (b seed : List UInt8) (a : List UInt32) (f n : Nat) W, a.length = 8 → f + n ≤ 15 → Tabs W → Sl W W.heap.size vb b → Sl W W.heap.size vs seed → Calls Tryd.prog 25 #[x0.v, vb, .int .i64 (f : Int), .int .i64 (n : Int), vs, adrV a] W (ResIs W (badE x0 [b, seed]) (chN0 x0 b seed a f n))) (w : World) (ht : Tabs w) :
    Calls Tryd.prog 9 #[] w (TrueIs w) := by
  unfold TrueIs
  obtain ⟨dl, hdl⟩ : ∃ dl, dl = dig10 z24 := ⟨_, rfl⟩
  obtain ⟨ob, hob⟩ : ∃ ob, ob = goB x0.s x0.n z24 a0 z24 3 1 := ⟨_, rfl⟩
  have HD : Shh (∀ (vy : Value) W, Tabs W → Sl W W.heap.size vy z24 → Calls Tryd.prog 20 #[.agg #[.int .u32 4043309073, .bool false, .int .i64 24, .int .i64 1, .int .i64 51], vy] W (ResI W 0 dl)) := ⟨fun vy W h1 h2 => by
    have h := hD vy z24 W h1 h2
    have e : askD x0 z24 = dl := by unfold askD; rw [if_pos z24_bad.1, hdl]
    rw [z24_bad.1, e] at h
    exact h⟩
  have HC : Shh ((∀ (vb vs : Value) W, Tabs W → Sl W W.heap.size vb z24 → Sl W W.heap.size vs z24 → Calls Tryd.prog 25 #[.agg #[.int .u32 4043309073, .bool false, .int .i64 24, .int .i64 1, .int .i64 51], vb, .int .i64 3, .int .i64 1, vs, .agg #[.int .u32 0, .int .u32 0, .int .u32 0, .int .u32 0, .int .u32 0, .int .u32 0, .int .u32 0, .int .u32 0]] W (ResIs W 0 ob)) ∧ (∀ (vb vs : Value) W, Sl W W.heap.size vb z24 → Sl W W.heap.size vs z24 → Calls Tryd.prog 28 #[.agg #[.int .u32 4043309073, .bool false, .int .i64 24, .int .i64 1, .int .i64 51], vb, .int .i64 3, .int .i64 1, vs, .agg #[.int .u32 0, .int .u32 0, .int .u32 0, .int .u32 0, .int .u32 0, .int .u32 0, .int .u32 0, .int .u32 0]] W (SlIs W ob))) := ⟨fun vb vs W h1 h2 h3 => by
    have h := hCh vb vs z24 z24 a0 3 1 W (by decide) (by decide) h1 h2 h3
    have e : chN0 x0 z24 z24 a0 3 1 = ob := by unfold chN0; rw [if_pos z24_bad.2, hob]
    rw [z24_bad.2, e] at h
    exact h, fun vb vs W h2 h3 => by
    rw [hob]
    exact refGo_any x0 x0_ok vb vs z24 z24 a0 (by decide) 3 1 (by decide) W h2 h3 (by decide) (by decide)⟩
  have HDL : Shh (dl.length = 51 ∧ dl.getD 48 0 = 2 ∧ dl.getD 49 0 = 13 ∧ dl.getD 50 0 = 0) := ⟨by rw [hdl]; exact z24_dig⟩
  have HT := Shh.mk ht
  clear hD hCh hdl hob ht
  go_enter Tryd.func9, Tryd.ntmps9
  go_wp2_with (go_at_call 27; refine (set10_any _).mono ?_)
  unfold OldIs
  rintro e w2 ⟨rfl, b2⟩
  have H2 : Shh (Tabs w2 ∧ Below w.heap.size w w2) := ⟨HT.out.go b2, b2⟩
  clear b2 HT
  obtain ⟨M, hM⟩ : ∃ M, Shh (M = w2.heap.size) := ⟨_, ⟨rfl⟩⟩
  go_wp2_with (refine wpList_store_any rfl 24 (.tmp 1) (.tmp 7) rfl M (by rw [hM.out]; rfl) [.int .u32 4043309073, .bool false, .int .i64 24, .int .i64 1, .int .i64 51] rfl 24 [.int .u32 0, .bool false, .int .i64 0, .int .i64 0, .int .i64 0] (Row.new_ hM.out rfl) info_xms rfl oneCell5 ?_)
  intro Z hr bt _
  have H3 : Shh (Row Z M 24 [.int .u32 4043309073, .bool false, .int .i64 24, .int .i64 1, .int .i64 51] ∧ Tabs Z ∧ Below w.heap.size w Z) := by
    have hm := hM.out
    have bb : Below w2.heap.size w2 Z := (below1 _ _).trans (bt.under (by first | omega | (rw [asz]; omega)) (by omega))
    exact ⟨hr, H2.out.1.go bb, Below.chain H2.out.2 bb⟩
  rw [← hM.out]
  clear hr bt H2 hM
  go_wp2_with fail
  refine wp_region_held_drew (S := fun w' => Row w' M 24 [.int .u32 4043309073, .bool false, .int .i64 24, .int .i64 1, .int .i64 51]) (by kernel_rfl) H3.out.1.drew (fun hS => ?_)
  clear hS
  obtain ⟨V, hV⟩ : ∃ V, V = World.drew Z := ⟨_, rfl⟩
  rw [← hV]
  have rX : Row V M 24 [.int .u32 4043309073, .bool false, .int .i64 24, .int .i64 1, .int .i64 51] := by rw [hV]; exact H3.out.1.drew
  have rT : Tabs V := by rw [hV]; exact H3.out.2.1
  have HBV : Below w.heap.size w V := by rw [hV]; exact H3.out.2.2.drew
  clear hV H3
  refine held_load 0 24 (.tmp 1) (some 9) (by kernel_rfl) (by rfl) (by kernel_rfl) M 0 (by kernel_rfl) ([.int .u32 4043309073, .bool false, .int .i64 24, .int .i64 1, .int .i64 51]) _ (fun w h => h.range) Tryd.underlying24 rfl (info_xms) (fun _ _ _ _ h => h) (rX) ?_
  simp only [Act.put, List.setIfInBounds_toArray, List.set_cons_zero, List.set_cons_succ]
  refine held_one 1 (by kernel_rfl) ?_
  refine step_value 1 _ _ (some 10) (.slice (some ⟨V.heap.size, 0, none⟩) 24 24) (V.alloc (.cells (Lib.byteCells (List.replicate 24 0)).toArray 5)) (by rfl) (by kernel_rfl) (run_makeSlice (make_run 24 (by omega) V)) (rX.alloc _) ?_
  simp only [Act.put, List.setIfInBounds_toArray, List.set_cons_zero, List.set_cons_succ]
  have bx : Below V.heap.size V (V.alloc (.cells (Lib.byteCells (List.replicate 24 0)).toArray 5)) := Below.alloc (Below.refl _ _) (Nat.le_refl _) _
  have rZ : Row (V.alloc (.cells (Lib.byteCells (List.replicate 24 0)).toArray 5)) V.heap.size 5 (Lib.byteCells (List.replicate 24 0)) := Row.new_ rfl rfl
  have z_rZ := asz V (.cells (Lib.byteCells (List.replicate 24 0)).toArray 5)
  generalize V.alloc (.cells (Lib.byteCells (List.replicate 24 0)).toArray 5) = Y1 at *
  have b_V := bx
  have m_Y1 : V.heap.size ≤ Y1.heap.size := bx.size
  clear bx
  refine held_one 2 (by kernel_rfl) ?_
  refine step_call 2 _ _ (some 11) 20 #[.agg ([.int .u32 4043309073, .bool false, .int .i64 24, .int .i64 1, .int .i64 51]).toArray, .slice (some ⟨V.heap.size, 0, none⟩) 24 24] (by rfl) (by kernel_rfl) (by first | kernel_rfl | go_simp) ?_
  refine (HD.out _ Y1 ((rT.go b_V)) (Row.sl (n := 24) rZ rfl (by omega))).mono ?_
  rintro e Y2 ⟨v, rfl, gv, bv⟩
  have bx : Below Y1.heap.size Y1 Y2 := bv
  obtain ⟨Ad, cd, vEq, _, _⟩ := gv.form
  subst vEq
  have sD := gv
  clear gv
  replace b_V := Below.chain b_V bx
  have b_Y1 := bx
  have m_Y2 : Y1.heap.size ≤ Y2.heap.size := bx.size
  clear bx
  refine ⟨_, rfl, (rX.go b_V), ?_⟩
  simp only [Act.put, List.setIfInBounds_toArray, List.set_cons_zero, List.set_cons_succ]
  refine held_value 3 _ _ (some 8) (.tuple #[.slice Ad dl.length cd, .int .i64 0]) (by kernel_rfl) (by rfl) (by kernel_rfl) (fun w hS => by first | kernel_rfl | go_simp) (fun _ _ _ _ h => h) ((rX.go b_V)) ?_
  simp only [Act.put, List.setIfInBounds_toArray, List.set_cons_zero, List.set_cons_succ]
  refine held_value 4 _ _ (some 12) (.slice Ad dl.length cd) (by kernel_rfl) (by rfl) (by kernel_rfl) (fun w hS => by first | kernel_rfl | go_simp) (fun _ _ _ _ h => h) ((rX.go b_V)) ?_
  simp only [Act.put, List.setIfInBounds_toArray, List.set_cons_zero, List.set_cons_succ]
  refine held_value 5 _ _ (some 13) (.int .i64 0) (by kernel_rfl) (by rfl) (by kernel_rfl) (fun w hS => by first | kernel_rfl | go_simp) (fun _ _ _ _ h => h) ((rX.go b_V)) ?_
  simp only [Act.put, List.setIfInBounds_toArray, List.set_cons_zero, List.set_cons_succ]
  refine held_value 6 _ _ (some 2) (.slice Ad dl.length cd) (by kernel_rfl) (by rfl) (by kernel_rfl) (fun w hS => by first | kernel_rfl | go_simp) (fun _ _ _ _ h => h) ((rX.go b_V)) ?_
  simp only [Act.put, List.setIfInBounds_toArray, List.set_cons_zero, List.set_cons_succ]
  refine held_value 7 _ _ (some 3) (.int .i64 0) (by kernel_rfl) (by rfl) (by kernel_rfl) (fun w hS => by first | kernel_rfl | go_simp) (fun _ _ _ _ h => h) ((rX.go b_V)) ?_
  simp only [Act.put, List.setIfInBounds_toArray, List.set_cons_zero, List.set_cons_succ]
  refine wpAnyH_done (by kernel_rfl) ?_ _
  have H4 : Shh (Row Y2 M 24 [.int .u32 4043309073, .bool false, .int .i64 24, .int .i64 1, .int .i64 51] ∧ Tabs Y2 ∧ Below w.heap.size w Y2 ∧ SI Y2 Y2.heap.size (.slice Ad dl.length cd) dl) := ⟨(rX.go b_V), (rT.go b_V), Below.chain HBV b_V, sD⟩
  clear m_Y2 b_Y1 sD bv m_Y1 b_V z_rZ rZ HBV rX rT
  generalize hZ4 : Y2 = Z4 at *
  clear hZ4
  have hk4 : (Instr.makeSlice 25 (.int .i64 24) (.int .i64 24)).run Tryd.prog Z4 = .ok (.slice (some ⟨Z4.heap.size, 0, none⟩) 24 24) (Z4.alloc (.cells (Lib.byteCells (List.replicate 24 0)).toArray 5)) := make_run 24 (by omega) Z4
  obtain ⟨W5, hW5⟩ : ∃ W5, W5 = Z4.alloc (.cells (Lib.byteCells (List.replicate 24 0)).toArray 5) := ⟨_, rfl⟩
  have H5 : Shh (Row W5 M 24 [.int .u32 4043309073, .bool false, .int .i64 24, .int .i64 1, .int .i64 51] ∧ Tabs W5 ∧ Below w.heap.size w W5 ∧ SI W5 W5.heap.size (.slice Ad dl.length cd) dl ∧ Sl W5 W5.heap.size (.slice (some ⟨Z4.heap.size, 0, none⟩) 24 24) z24) := by
    rw [hW5]
    exact ⟨H4.out.1.alloc _, H4.out.2.1.go (below1 _ _), Below.chain H4.out.2.2.1 (below1 _ _), H4.out.2.2.2.go (below1 _ _), Row.sl (n := 24) (Row.new_ rfl rfl) rfl (by omega)⟩
  clear H4
  rw [← hW5] at hk4
  obtain ⟨q4, hq4⟩ : ∃ q, q = Z4.heap.size := ⟨_, rfl⟩
  rw [← hq4] at hk4 H5
  clear hW5 hq4
  go_wp2_with (first | refine wpList_load_any rfl 24 (.tmp 1) rfl M rfl 24 [.int .u32 4043309073, .bool false, .int .i64 24, .int .i64 1, .int .i64 51] _ H5.out.1 Tryd.underlying24 rfl info_xms ?_ | (go_at_call 25; refine (HC.out.1 _ _ _ H5.out.2.1 H5.out.2.2.2.2 H5.out.2.2.2.2).mono ?_))
  rintro e w6 ⟨v6, rfl, s6, b6⟩
  obtain ⟨A6, c6, rfl, _, _⟩ := s6.form
  have H6 : Shh (Row w6 M 24 [.int .u32 4043309073, .bool false, .int .i64 24, .int .i64 1, .int .i64 51] ∧ Below w.heap.size w w6 ∧ SI w6 w6.heap.size (.slice Ad dl.length cd) dl ∧ Sl w6 w6.heap.size (.slice (some ⟨q4, 0, none⟩) 24 24) z24 ∧ Sl w6 w6.heap.size (.slice A6 ob.length c6) ob) := ⟨H5.out.1.go b6, Below.chain H5.out.2.2.1 b6, H5.out.2.2.2.1.go b6, H5.out.2.2.2.2.go b6, s6⟩
  clear s6 b6 H5 hk4
  have hl51 : dl.length = 51 := HDL.out.1
  obtain ⟨gd, hAd, hg0, hg1, hcd⟩ := H6.out.2.2.1.at_ (by omega)
  subst hAd
  have dg : ∀ k (h : k < dl.length), dl[k] = dl.getD k 0 := fun k h => by rw [List.getD_eq_getElem?_getD, List.getElem?_eq_getElem h]; rfl
  have c48 := hcd 48 (by omega)
  have c49 := hcd 49 (by omega)
  have c50 := hcd 50 (by omega)
  rw [dg 48 (by omega), HDL.out.2.1] at c48
  rw [dg 49 (by omega), HDL.out.2.2.1] at c49
  rw [dg 50 (by omega), HDL.out.2.2.2] at c50
  have HL51 := Shh.mk hl51
  rw [hl51]
  clear hcd dg hl51 hg0 hg1
  go_wp2_with (first | refine wl_loadW 24 (.tmp 1) rfl M rfl 24 [.int .u32 4043309073, .bool false, .int .i64 24, .int .i64 1, .int .i64 51] _ rfl H6.out.1 Tryd.underlying24 rfl info_xms ?_ | (go_at_call 28; refine (HC.out.2 _ _ _ H6.out.2.2.2.1 H6.out.2.2.2.1).mono ?_))
  unfold SlIs
  rintro e w7 ⟨v7, rfl, s7, b7⟩
  obtain ⟨A7, c7, rfl, _, _⟩ := s7.form
  have H7 : Shh (Sl w7 w7.heap.size (.slice A6 ob.length c6) ob ∧ Sl w7 w7.heap.size (.slice A7 ob.length c7) ob ∧ Below w.heap.size w w7) := ⟨H6.out.2.2.2.2.go b7, s7, Below.chain H6.out.2.1 b7⟩
  clear s7 b7 H6 c48 c49 c50
  have hee : (ob == ob) = true := by simp
  go_wp2_with (go_at_call 12; refine (refEqual_any w7.heap.size w7.heap.size _ _ ob ob _ H7.out.1 H7.out.2.1).mono ?_)
  rintro e w8 ⟨rfl, rfl⟩
  rw [hee]
  go_wp2
  go_ret
  exact ⟨rfl, H7.out.2.2⟩
end Go.Proofs.YtobbbljnkdfkeaaDoor
