/-
  THE PROGRAM'S OWN Secret and Chain.
-/
import Derived.Test.YtobbbljnkdfkeaaDoorWq7
import Derived.Test.YtobbbljnkdfkeaaDoorWs14
import Derived.Test.YtobbbljnkdfkeaaDoorWs19
namespace Go.Proofs.YtobbbljnkdfkeaaDoor
open Go.RowKit
set_option maxRecDepth 100000
/-- bytes in new memory and an error are handed back -/
def ResNew (w : World) (er : Int) (bs : List UInt8) (e : Ending) (w' : World) : Prop := ∃ r, e = .returned (.tuple #[r, .int .i64 er]) ∧ Sl w' w'.heap.size r bs ∧ Below w.heap.size w w' ∧ ∀ g, g < w.heap.size → Off g r
theorem ResNew.res {w : World} {er : Int} {bs : List UInt8} {e : Ending} {w' : World} (h : ResNew w er bs e w') : ResIs w er bs e w' := by
  obtain ⟨r, a, b, c, _⟩ := h
  exact ⟨r, a, b, c⟩
theorem ResNew.off {u v : Value} {w : World} {er : Int} {bs : List UInt8} {e : Ending} {w' : World} (h : ResNew w er bs e w') : ResOff u v w er bs e w' := by
  obtain ⟨r, a, b, c, d⟩ := h
  exact ⟨r, a, b, c, fun g hg _ _ => d g hg⟩
theorem clone8_any (v : Value) (bs : List UInt8) (w : World) (h : Sl w w.heap.size v bs) (h0 : 0 < bs.length) (h1 : bs.length ≤ 100000) : Calls Tryd.prog 41 #[v] w (NewSl w bs) := by
  obtain ⟨i0, hi, hz0, hz1, hz2⟩ := info_parts info_u8
  obtain ⟨A, c, rfl, _, _⟩ := h.form
  obtain ⟨b, off, rfl, hb, hc⟩ := h.at_ h0
  clear hc
  unfold NewSl
  have H := Shh.mk h
  clear h
  have HO : Shh ((w.alloc (.cells #[] 5)).ownsRow w.heap.size 5 1 (.slice (some ⟨w.heap.size, 0, none⟩) 0 0) ([] : List UInt8).length (Lib.byteCells []) ∧ Sl (w.alloc (.cells #[] 5)) w.heap.size (.slice (some ⟨b, off, none⟩) bs.length c) bs) := ⟨World.ownsRow_made w #[] 0 (Nat.le_refl _) (Nat.zero_le _) rfl, H.out.below (below1 _ _)⟩
  have hq : ∀ u : World, (binOp .eql 25 (.slice (some ⟨b, off, none⟩) bs.length c) (.slice none 0 0)).run Tryd.prog u = .ok (.bool false) u := fun u => by kernel_rfl
  go_enter Tryd.func41, Tryd.ntmps41
  go_wp2_with (at_builtin; refine wp_appendSl _ 25 5 i0 Tryd.underlying25 hi hz0 hz1 hz2 rfl _ _ rfl HO.out.1 HO.out.2 rfl rfl (by simp; omega) (by rw [asz]; omega) ?_)
  intro v' w1 hown' _ hbl
  have HR : Shh (OwnIs w bs (.returned v') w1) := ⟨⟨_, rfl, hown', (below1 _ _).trans (hbl _ (Nat.le_refl _))⟩⟩
  clear hown' hbl HO H
  go_wp2
  go_ret
  exact own_new HR.out
set_option maxHeartbeats 2000000 in
theorem Secret_any (x : S5) (hw : x.wf) (vk vs : Value) (sk seed : List UInt8) (a : List UInt32) (ha : a.length = 8) (i : Nat) (hi : i < 51) (w : World) (hk : Sl w w.heap.size vk sk) (hs : Sl w w.heap.size vs seed) (ht : Tabs w) :
    Calls Tryd.prog 26 #[x.v, vk, vs, adrV a, .int .i64 (i : Int)] w (ResNew w (badE x [sk, seed]) (scN x sk seed a i)) := by
  unfold ResNew
  obtain ⟨Ak, ck, rfl, _, _⟩ := hk.form
  obtain ⟨As, cs, rfl, _, _⟩ := hs.form
  have H0 : Shh (Sl w w.heap.size (.slice Ak sk.length ck) sk ∧ Sl w w.heap.size (.slice As seed.length cs) seed ∧ Tabs w) := ⟨hk, hs, ht⟩
  clear hk hs ht
  have HC : Shh (∀ (v : Value) (B : Nat) W, PartsO W B B v [sk, seed] → B ≤ W.heap.size → Calls Tryd.prog 35 #[x.v, v] W (OldIs (.int .i64 (badE x [sk, seed])) W)) := ⟨fun v B W h hB => check_any x hw v [sk, seed] B B W h hB (by simp)⟩
  obtain ⟨X, hX⟩ : ∃ X, X = x := ⟨_, rfl⟩
  have HE : Shh ((badE x [sk, seed] = 0 → scN x sk seed a i = keyd X.s X.n 4 sk (seed ++ adrB (withA (atA a i) 0 0)) ∧ (i : Int) < x.l ∧ ∀ (g : Nat) W, Sl W W.heap.size (.slice Ak sk.length ck) sk → Sl W W.heap.size (.slice As seed.length cs) seed → Tabs W → g < W.heap.size → Off g (.slice As seed.length cs) → Calls Tryd.prog 42 #[x.v, .slice Ak sk.length ck, .slice As seed.length cs] W (StarterIs W g X sk seed)) ∧ (badE x [sk, seed] ≠ 0 → scN x sk seed a i = [])) := by
    rw [hX]
    refine ⟨fun h => ⟨by unfold scN; rw [if_pos h]; rfl, ?_, fun g W h1 h2 h3 h4 h5 => ?_⟩, fun h => by unfold scN; rw [if_neg h]⟩
    · rcases S5.ok_is (badE_ok h).1 with h1 | h1 <;> omega
    · have l1 := badE_len h (b := sk) (by simp)
      have l2 := badE_len h (b := seed) (by simp)
      exact starter_any x (badE_ok h).1 _ _ sk seed W h1 (by omega) h2 (by omega) h3 g h4 h5
  generalize badE x [sk, seed] = er at HC HE ⊢
  generalize scN x sk seed a i = out at HE ⊢
  obtain ⟨W0, hW0⟩ : ∃ W0, W0 = (w.alloc (.cells #[.int .u32 x.c, .bool x.s, .int .i64 x.n, .int .i64 x.h, .int .i64 x.l] 24)).alloc (.cells (wordCells a).toArray 27) := ⟨_, rfl⟩
  have HW0 : Shh (Row W0 w.heap.size 24 [.int .u32 x.c, .bool x.s, .int .i64 x.n, .int .i64 x.h, .int .i64 x.l] ∧ Row W0 (w.heap.size + 1) 27 (wordCells a) ∧ W0.heap.size = w.heap.size + 2 ∧ Below w.heap.size w W0) := by
    rw [hW0]
    exact ⟨(Row.new_ rfl rfl).alloc _, Row.new_ (by rw [asz]) rfl, by rw [asz, asz], Below.chain (below1 _ _) (below1 _ _)⟩
  obtain ⟨W, hW⟩ : ∃ W, W = W0.alloc (.cells #[.slice Ak sk.length ck, .slice As seed.length cs] 25) := ⟨_, rfl⟩
  have HW : Shh (Row W w.heap.size 24 [.int .u32 x.c, .bool x.s, .int .i64 x.n, .int .i64 x.h, .int .i64 x.l] ∧ Row W (w.heap.size + 1) 27 (wordCells a) ∧ PartsO W (w.heap.size + 3) (w.heap.size + 3) (.slice (some ⟨w.heap.size + 2, 0, none⟩) 2 2) [sk, seed] ∧ w.heap.size + 3 ≤ W.heap.size ∧ Below w.heap.size w W) := by
    have b0 : Below w.heap.size w W := by rw [hW]; exact Below.chain HW0.out.2.2.2 (below1 _ _)
    refine ⟨by rw [hW]; exact HW0.out.1.alloc _, by rw [hW]; exact HW0.out.2.1.alloc _, ?_, by rw [hW, asz, HW0.out.2.2.1]; exact Nat.le_refl _, b0⟩
    exact PartsO.two (by omega) (by omega) (by rw [hW]; exact Row.new_ HW0.out.2.2.1.symm rfl) ((H0.out.1.below b0).more (by omega)) (H0.out.1.off (by omega)) ((H0.out.2.1.below b0).more (by omega)) (H0.out.2.1.off (by omega))
  clear hw hX
  have HA : Shh (a.length = 8 ∧ (wordCells a).length = 8 ∧ (wordCells (atA a i)).length = 8) := ⟨ha, by rw [wordCells_length]; exact ha, by rw [wordCells_length, atA_length]; exact ha⟩
  clear ha
  unfold adrV
  unfold S5.v at HC HE ⊢
  generalize x.c = xc at *
  generalize x.s = xs at *
  generalize x.n = xn at *
  generalize x.h = xh at *
  generalize x.l = xl at *
  by_cases her : er = 0
  · have HE2 := Shh.mk (HE.out.1 her)
    subst her
    rw [HE2.out.1]
    clear HE
    have hil : ¬ (xl ≤ (i : Int)) := by have := HE2.out.2.1; omega
    have hq : (i : Int) % 4294967296 = (i : Int) := by omega
    go_enter Tryd.func26, Tryd.ntmps26
    go_wp2_with (first | (rw [← hW0]; refine wpList_load_any rfl 24 (.tmp 5) rfl w.heap.size rfl 24 [.int .u32 xc, .bool xs, .int .i64 xn, .int .i64 xh, .int .i64 xl] _ HW0.out.1 Tryd.underlying24 rfl info_xms ?_) | (go_at_call 35; rw [← hW0, ← hW]; refine (HC.out _ _ _ HW.out.2.2.1 HW.out.2.2.2.1).mono ?_))
    try rw [← hW0, ← hW]
    unfold OldIs
    rintro e w2 ⟨rfl, b2⟩
    have H2 : Shh (Row w2 w.heap.size 24 [.int .u32 xc, .bool xs, .int .i64 xn, .int .i64 xh, .int .i64 xl] ∧ Row w2 (w.heap.size + 1) 27 (wordCells a) ∧ Below w.heap.size w w2) := ⟨HW.out.1.go b2, HW.out.2.1.go b2, Below.chain HW.out.2.2.2.2 b2⟩
    clear HW hW b2 HC HW0 hW0
    obtain ⟨y5, c5⟩ : ∃ y : Int, w2.cell? ⟨w.heap.size + 1, 5, none⟩ = some (.int .u32 y) := ⟨_, wordRow_cell H2.out.2.1 5 (by rw [HA.out.1]; decide)⟩
    have f5 := H2.out.2.1.free 5
    have e4 := H2.out.1.cell 4
    simp only [List.getElem?_cons_succ, List.getElem?_cons_zero] at e4
    obtain ⟨Z, hZ⟩ : ∃ Z, Z = w2.setCell ⟨w.heap.size + 1, 5, none⟩ (.int .u32 (i : Int)) := ⟨_, rfl⟩
    have HZ : Shh (Row Z w.heap.size 24 [.int .u32 xc, .bool xs, .int .i64 xn, .int .i64 xh, .int .i64 xl] ∧ Row Z (w.heap.size + 1) 27 (wordCells (atA a i)) ∧ Below w.heap.size w Z) := by
      rw [hZ]
      exact ⟨H2.out.1.other _ _ (by show w.heap.size ≠ w.heap.size + 1; omega), wordRow_set H2.out.2.1 5 i (by omega), H2.out.2.2.setCell (Nat.le_succ _) _⟩
    clear H2
    go_wp2_with fail
    rw [← hZ]
    clear hZ c5 f5 e4
    refine wp_region_held_drew (S := fun w' => Row w' w.heap.size 24 [.int .u32 xc, .bool xs, .int .i64 xn, .int .i64 xh, .int .i64 xl] ∧ Row w' (w.heap.size + 1) 27 (wordCells (atA a i))) (by kernel_rfl) ⟨HZ.out.1.drew, HZ.out.2.1.drew⟩ (fun hS => ?_)
    clear hS
    obtain ⟨V, hV⟩ : ∃ V, V = World.drew Z := ⟨_, rfl⟩
    rw [← hV]
    have rX : Row V w.heap.size 24 [.int .u32 xc, .bool xs, .int .i64 xn, .int .i64 xh, .int .i64 xl] := by rw [hV]; exact HZ.out.1.drew
    have rA : Row V (w.heap.size + 1) 27 (wordCells (atA a i)) := by rw [hV]; exact HZ.out.2.1.drew
    have HBV : Below w.heap.size w V := by rw [hV]; exact HZ.out.2.2.drew
    have sK : Sl V V.heap.size (.slice Ak sk.length ck) sk := H0.out.1.go HBV
    have sS : Sl V V.heap.size (.slice As seed.length cs) seed := H0.out.2.1.go HBV
    have rT : Tabs V := H0.out.2.2.go HBV
    have hog : Off w.heap.size (.slice As seed.length cs) := H0.out.2.1.off (Nat.le_refl _)
    clear hV HZ
    refine held_value 1 _ _ (some 33) (.slice Ak sk.length ck) (by kernel_rfl) (by rfl) (by kernel_rfl) (fun w hS => by first | kernel_rfl | go_simp) (fun _ _ _ _ h => h) (⟨rX, rA⟩) ?_
    simp only [Act.put, List.setIfInBounds_toArray, List.set_cons_zero, List.set_cons_succ]
    refine held_value 2 _ _ (some 34) (.slice As seed.length cs) (by kernel_rfl) (by rfl) (by kernel_rfl) (fun w hS => by first | kernel_rfl | go_simp) (fun _ _ _ _ h => h) (⟨rX, rA⟩) ?_
    simp only [Act.put, List.setIfInBounds_toArray, List.set_cons_zero, List.set_cons_succ]
    refine held_load 0 24 (.tmp 5) (some 32) (by kernel_rfl) (by rfl) (by kernel_rfl) w.heap.size 0 (by kernel_rfl) ([.int .u32 xc, .bool xs, .int .i64 xn, .int .i64 xh, .int .i64 xl]) _ (fun w h => h.1.range) Tryd.underlying24 rfl (info_xms) (fun _ _ _ _ h => h) (⟨rX, rA⟩) ?_
    simp only [Act.put, List.setIfInBounds_toArray, List.set_cons_zero, List.set_cons_succ]
    refine held_load 4 27 (.tmp 8) (some 36) (by kernel_rfl) (by rfl) (by kernel_rfl) (w.heap.size + 1) 0 (by kernel_rfl) (wordCells (atA a i)) _ (fun w h => h.2.range) Tryd.underlying27 rfl (info_adr10 HA.out.2.2) (fun _ _ _ _ h => h) (⟨rX, rA⟩) ?_
    simp only [Act.put, List.setIfInBounds_toArray, List.set_cons_zero, List.set_cons_succ]
    refine held_one 3 (by kernel_rfl) ?_
    refine step_call 3 _ _ (some 35) 42 #[.agg ([.int .u32 xc, .bool xs, .int .i64 xn, .int .i64 xh, .int .i64 xl]).toArray, .slice Ak sk.length ck, .slice As seed.length cs] (by rfl) (by kernel_rfl) (by first | kernel_rfl | go_simp) ?_
    refine (HE2.out.2.2 w.heap.size V (sK) (sS) (rT) (rX).lt hog).mono ?_
    rintro e Y1 ⟨v, rfl, kv, bv⟩
    have bx : Below V.heap.size V Y1 := bv
    obtain ⟨F, q1, q2, vEq, hcf, hkf⟩ := kv
    subst vEq
    have b_V := bx
    have m_Y1 : V.heap.size ≤ Y1.heap.size := bx.size
    clear bx
    refine ⟨_, rfl, ⟨(rX.go b_V), (rA.go b_V)⟩, ?_⟩
    simp only [Act.put, List.setIfInBounds_toArray, List.set_cons_zero, List.set_cons_succ]
    refine held_one 5 (by kernel_rfl) ?_
    refine step_call 5 _ _ (some 37) F #[.agg (wordCells (atA a i)).toArray, q1, q2] (by rfl) (by kernel_rfl) (by go_simp) ?_
    refine (hkf Y1 (atA a i) (But.refl _ _ _) ((rT.go b_V)) (by rw [atA_length]; exact HA.out.1)).mono ?_
    rintro e Y2 ⟨vr, rfl, gr, br, or⟩
    have bx : Below Y1.heap.size Y1 Y2 := br
    have oR : ∀ g, g < w.heap.size → Off g vr := fun g hg => or g (Nat.lt_of_lt_of_le hg (Below.chain HBV b_V).size)
    have sR := gr
    clear gr or
    replace b_V := Below.chain b_V bx
    have b_Y1 := bx
    have m_Y2 : Y1.heap.size ≤ Y2.heap.size := bx.size
    clear bx
    refine ⟨_, rfl, ⟨(rX.go b_V), (rA.go b_V)⟩, ?_⟩
    simp only [Act.put, List.setIfInBounds_toArray, List.set_cons_zero, List.set_cons_succ]
    refine held_value 6 _ _ (some 10) (vr) (by kernel_rfl) (by rfl) (by kernel_rfl) (fun w hS => by first | kernel_rfl | go_simp) (fun _ _ _ _ h => h) (⟨(rX.go b_V), (rA.go b_V)⟩) ?_
    simp only [Act.put, List.setIfInBounds_toArray, List.set_cons_zero, List.set_cons_succ]
    refine held_value 7 _ _ (some 11) (.int .i64 0) (by kernel_rfl) (by rfl) (by kernel_rfl) (fun w hS => by first | kernel_rfl | go_simp) (fun _ _ _ _ h => h) (⟨(rX.go b_V), (rA.go b_V)⟩) ?_
    simp only [Act.put, List.setIfInBounds_toArray, List.set_cons_zero, List.set_cons_succ]
    refine wpAnyH_done (by kernel_rfl) ?_ _
    have HR : Shh (Sl Y2 Y2.heap.size vr (keyd X.s X.n 4 sk (seed ++ adrB (withA (atA a i) 0 0))) ∧ Below w.heap.size w Y2 ∧ ∀ g, g < w.heap.size → Off g vr) := ⟨sR, Below.chain HBV b_V, oR⟩
    clear m_Y2 b_Y1 sR oR br m_Y1 b_V hkf hcf bv HBV rX rA sK sS rT hog
    go_wp2
    go_ret2
    exact ⟨_, rfl, HR.out⟩
  · have HL : Shh (out = []) := ⟨HE.out.2 her⟩
    have hne : (er != 0) = true := by simp [her]
    rw [HL.out]
    clear HE HL her
    go_enter Tryd.func26, Tryd.ntmps26
    go_wp2_with (first | (rw [← hW0]; refine wpList_load_any rfl 24 (.tmp 5) rfl w.heap.size rfl 24 [.int .u32 xc, .bool xs, .int .i64 xn, .int .i64 xh, .int .i64 xl] _ HW0.out.1 Tryd.underlying24 rfl info_xms ?_) | (go_at_call 35; rw [← hW0, ← hW]; refine (HC.out _ _ _ HW.out.2.2.1 HW.out.2.2.2.1).mono ?_))
    try rw [← hW0, ← hW]
    unfold OldIs
    rintro e w2 ⟨rfl, b2⟩
    have H2 : Shh (Below w.heap.size w w2) := ⟨Below.chain HW.out.2.2.2.2 b2⟩
    clear HW hW b2 HC HW0 hW0
    go_wp2
    go_ret2
    exact ⟨_, rfl, Sl.nil_, H2.out, fun _ _ => Off.nil_⟩
set_option maxHeartbeats 2000000 in
theorem Chain_any (x : S5) (hw : x.wf) (vb vs : Value) (b seed : List UInt8) (a : List UInt32) (ha : a.length = 8) (f n : Nat) (hfn : f + n ≤ 15) (w : World) (hb : Sl w w.heap.size vb b) (hs : Sl w w.heap.size vs seed) (ht : Tabs w) :
    Calls Tryd.prog 25 #[x.v, vb, .int .i64 (f : Int), .int .i64 (n : Int), vs, adrV a] w (ResNew w (badE x [b, seed]) (chN x b seed a f n)) := by
  unfold ResNew
  obtain ⟨Ab, cb, rfl, _, _⟩ := hb.form
  obtain ⟨As, cs, rfl, _, _⟩ := hs.form
  have H0 : Shh (Sl w w.heap.size (.slice Ab b.length cb) b ∧ Sl w w.heap.size (.slice As seed.length cs) seed ∧ Tabs w) := ⟨hb, hs, ht⟩
  clear hb hs ht
  have HC : Shh (∀ (v : Value) (B : Nat) W, PartsO W B B v [b, seed] → B ≤ W.heap.size → Calls Tryd.prog 35 #[x.v, v] W (OldIs (.int .i64 (badE x [b, seed])) W)) := ⟨fun v B W h hB => check_any x hw v [b, seed] B B W h hB (by simp)⟩
  obtain ⟨X, hX⟩ : ∃ X, X = x := ⟨_, rfl⟩
  have HE : Shh ((badE x [b, seed] = 0 → chN x b seed a f n = goB X.s X.n seed a b f n ∧ (b.length = X.n.toNat ∧ 0 < b.length ∧ b.length ≤ 32) ∧ ∀ (g : Nat) W, Sl W W.heap.size (.slice As seed.length cs) seed → Tabs W → g < W.heap.size → Calls Tryd.prog 39 #[x.v, .slice As seed.length cs] W (WalkerIs W g X seed)) ∧ (badE x [b, seed] ≠ 0 → chN x b seed a f n = [])) := by
    rw [hX]
    refine ⟨fun h => ⟨by unfold chN; rw [if_pos h], ?_, fun g W h1 h2 h3 => ?_⟩, fun h => by unfold chN; rw [if_neg h]⟩
    · have h1 := (badE_ok h).2 b (by simp)
      rcases S5.ok_is (badE_ok h).1 with h2 | h2 <;> omega
    · have l2 := badE_len h (b := seed) (by simp)
      exact walker_any x (badE_ok h).1 _ seed W h1 (by omega) h2 g h3
  generalize badE x [b, seed] = er at HC HE ⊢
  generalize chN x b seed a f n = out at HE ⊢
  obtain ⟨W0, hW0⟩ : ∃ W0, W0 = (w.alloc (.cells #[.int .u32 x.c, .bool x.s, .int .i64 x.n, .int .i64 x.h, .int .i64 x.l] 24)).alloc (.cells (wordCells a).toArray 27) := ⟨_, rfl⟩
  have HW0 : Shh (Row W0 w.heap.size 24 [.int .u32 x.c, .bool x.s, .int .i64 x.n, .int .i64 x.h, .int .i64 x.l] ∧ Row W0 (w.heap.size + 1) 27 (wordCells a) ∧ W0.heap.size = w.heap.size + 2 ∧ Below w.heap.size w W0) := by
    rw [hW0]
    exact ⟨(Row.new_ rfl rfl).alloc _, Row.new_ (by rw [asz]) rfl, by rw [asz, asz], Below.chain (below1 _ _) (below1 _ _)⟩
  obtain ⟨W, hW⟩ : ∃ W, W = W0.alloc (.cells #[.slice Ab b.length cb, .slice As seed.length cs] 25) := ⟨_, rfl⟩
  have HW : Shh (Row W w.heap.size 24 [.int .u32 x.c, .bool x.s, .int .i64 x.n, .int .i64 x.h, .int .i64 x.l] ∧ Row W (w.heap.size + 1) 27 (wordCells a) ∧ PartsO W (w.heap.size + 3) (w.heap.size + 3) (.slice (some ⟨w.heap.size + 2, 0, none⟩) 2 2) [b, seed] ∧ w.heap.size + 3 ≤ W.heap.size ∧ Below w.heap.size w W) := by
    have b0 : Below w.heap.size w W := by rw [hW]; exact Below.chain HW0.out.2.2.2 (below1 _ _)
    refine ⟨by rw [hW]; exact HW0.out.1.alloc _, by rw [hW]; exact HW0.out.2.1.alloc _, ?_, by rw [hW, asz, HW0.out.2.2.1]; exact Nat.le_refl _, b0⟩
    exact PartsO.two (by omega) (by omega) (by rw [hW]; exact Row.new_ HW0.out.2.2.1.symm rfl) ((H0.out.1.below b0).more (by omega)) (H0.out.1.off (by omega)) ((H0.out.2.1.below b0).more (by omega)) (H0.out.2.1.off (by omega))
  clear hw hX
  have HA : Shh (a.length = 8 ∧ (wordCells a).length = 8) := ⟨ha, by rw [wordCells_length]; exact ha⟩
  clear ha
  unfold adrV
  unfold S5.v at HC HE ⊢
  generalize x.c = xc at *
  generalize x.s = xs at *
  generalize x.n = xn at *
  generalize x.h = xh at *
  generalize x.l = xl at *
  by_cases her : er = 0
  · have HE2 := Shh.mk (HE.out.1 her)
    subst her
    rw [HE2.out.1]
    clear HE
    have h15 : ¬ ((15 : Int) - (f : Int) < (n : Int)) := by omega
    have hf0 : ¬ ((f : Int) < 0) := by omega
    have hn0 : ¬ ((n : Int) < 0) := by omega
    go_enter Tryd.func25, Tryd.ntmps25
    go_wp2_with (first | (rw [← hW0]; refine wpList_load_any rfl 24 (.tmp 6) rfl w.heap.size rfl 24 [.int .u32 xc, .bool xs, .int .i64 xn, .int .i64 xh, .int .i64 xl] _ HW0.out.1 Tryd.underlying24 rfl info_xms ?_) | (go_at_call 35; rw [← hW0, ← hW]; refine (HC.out _ _ _ HW.out.2.2.1 HW.out.2.2.2.1).mono ?_))
    try rw [← hW0, ← hW]
    unfold OldIs
    rintro e w2 ⟨rfl, b2⟩
    have HZ : Shh (Row w2 w.heap.size 24 [.int .u32 xc, .bool xs, .int .i64 xn, .int .i64 xh, .int .i64 xl] ∧ Row w2 (w.heap.size + 1) 27 (wordCells a) ∧ Below w.heap.size w w2) := ⟨HW.out.1.go b2, HW.out.2.1.go b2, Below.chain HW.out.2.2.2.2 b2⟩
    clear HW hW b2 HC HW0 hW0
    go_wp2_with fail
    clear h15 hf0 hn0
    refine wp_region_held_drew (S := fun w' => Row w' w.heap.size 24 [.int .u32 xc, .bool xs, .int .i64 xn, .int .i64 xh, .int .i64 xl] ∧ Row w' (w.heap.size + 1) 27 (wordCells a)) (by kernel_rfl) ⟨HZ.out.1.drew, HZ.out.2.1.drew⟩ (fun hS => ?_)
    clear hS
    obtain ⟨V, hV⟩ : ∃ V, V = World.drew w2 := ⟨_, rfl⟩
    rw [← hV]
    have rX : Row V w.heap.size 24 [.int .u32 xc, .bool xs, .int .i64 xn, .int .i64 xh, .int .i64 xl] := by rw [hV]; exact HZ.out.1.drew
    have rA : Row V (w.heap.size + 1) 27 (wordCells a) := by rw [hV]; exact HZ.out.2.1.drew
    have HBV : Below w.heap.size w V := by rw [hV]; exact HZ.out.2.2.drew
    have sB : Sl V V.heap.size (.slice Ab b.length cb) b := H0.out.1.go HBV
    have sS : Sl V V.heap.size (.slice As seed.length cs) seed := H0.out.2.1.go HBV
    have rT : Tabs V := H0.out.2.2.go HBV
    clear hV HZ
    refine held_value 1 _ _ (some 36) (.slice As seed.length cs) (by kernel_rfl) (by rfl) (by kernel_rfl) (fun w hS => by first | kernel_rfl | go_simp) (fun _ _ _ _ h => h) (⟨rX, rA⟩) ?_
    simp only [Act.put, List.setIfInBounds_toArray, List.set_cons_zero, List.set_cons_succ]
    refine held_value 3 _ _ (some 38) (.slice Ab b.length cb) (by kernel_rfl) (by rfl) (by kernel_rfl) (fun w hS => by first | kernel_rfl | go_simp) (fun _ _ _ _ h => h) (⟨rX, rA⟩) ?_
    simp only [Act.put, List.setIfInBounds_toArray, List.set_cons_zero, List.set_cons_succ]
    refine held_value 5 _ _ (some 40) (.int .i64 (f : Int)) (by kernel_rfl) (by rfl) (by kernel_rfl) (fun w hS => by first | kernel_rfl | go_simp) (fun _ _ _ _ h => h) (⟨rX, rA⟩) ?_
    simp only [Act.put, List.setIfInBounds_toArray, List.set_cons_zero, List.set_cons_succ]
    refine held_value 6 _ _ (some 41) (.int .i64 (n : Int)) (by kernel_rfl) (by rfl) (by kernel_rfl) (fun w hS => by first | kernel_rfl | go_simp) (fun _ _ _ _ h => h) (⟨rX, rA⟩) ?_
    simp only [Act.put, List.setIfInBounds_toArray, List.set_cons_zero, List.set_cons_succ]
    refine held_load 0 24 (.tmp 6) (some 35) (by kernel_rfl) (by rfl) (by kernel_rfl) w.heap.size 0 (by kernel_rfl) ([.int .u32 xc, .bool xs, .int .i64 xn, .int .i64 xh, .int .i64 xl]) _ (fun w h => h.1.range) Tryd.underlying24 rfl (info_xms) (fun _ _ _ _ h => h) (⟨rX, rA⟩) ?_
    simp only [Act.put, List.setIfInBounds_toArray, List.set_cons_zero, List.set_cons_succ]
    refine held_load 7 27 (.tmp 11) (some 42) (by kernel_rfl) (by rfl) (by kernel_rfl) (w.heap.size + 1) 0 (by kernel_rfl) (wordCells a) _ (fun w h => h.2.range) Tryd.underlying27 rfl (info_adr10 HA.out.2) (fun _ _ _ _ h => h) (⟨rX, rA⟩) ?_
    simp only [Act.put, List.setIfInBounds_toArray, List.set_cons_zero, List.set_cons_succ]
    refine held_one 2 (by kernel_rfl) ?_
    refine step_call 2 _ _ (some 37) 39 #[.agg ([.int .u32 xc, .bool xs, .int .i64 xn, .int .i64 xh, .int .i64 xl]).toArray, .slice As seed.length cs] (by rfl) (by kernel_rfl) (by first | kernel_rfl | go_simp) ?_
    refine (HE2.out.2.2 w.heap.size V (sS) (rT) (rX).lt).mono ?_
    rintro e Y1 ⟨v, rfl, kv, bv⟩
    have bx : Below V.heap.size V Y1 := bv
    obtain ⟨F, q1, q2, vEq, hcf, hkf⟩ := kv
    subst vEq
    have b_V := bx
    have m_Y1 : V.heap.size ≤ Y1.heap.size := bx.size
    clear bx
    refine ⟨_, rfl, ⟨(rX.go b_V), (rA.go b_V)⟩, ?_⟩
    simp only [Act.put, List.setIfInBounds_toArray, List.set_cons_zero, List.set_cons_succ]
    refine held_one 4 (by kernel_rfl) ?_
    refine step_call 4 _ _ (some 39) 41 #[.slice Ab b.length cb] (by rfl) (by kernel_rfl) (by first | kernel_rfl | go_simp) ?_
    refine (clone8_any _ b Y1 ((sB.go b_V)) HE2.out.2.1.2.1 (by have := HE2.out.2.1.2.2; omega)).mono ?_
    rintro e Y2 ⟨vc, rfl, gc, bc, oc⟩
    have bx : Below Y1.heap.size Y1 Y2 := bc
    obtain ⟨Ac, cc, vEq2, _, _⟩ := gc.form
    subst vEq2
    have oC : ∀ g, g < w.heap.size → Off g (.slice Ac b.length cc) := fun g hg => oc g (Nat.lt_of_lt_of_le hg (Below.chain HBV b_V).size)
    have sC := gc
    clear gc oc
    replace b_V := Below.chain b_V bx
    have b_Y1 := bx
    have m_Y2 : Y1.heap.size ≤ Y2.heap.size := bx.size
    clear bx
    refine ⟨_, rfl, ⟨(rX.go b_V), (rA.go b_V)⟩, ?_⟩
    simp only [Act.put, List.setIfInBounds_toArray, List.set_cons_zero, List.set_cons_succ]
    refine held_one 8 (by kernel_rfl) ?_
    refine step_call 8 _ _ (some 43) F #[.slice Ac b.length cc, .int .i64 (f : Int), .int .i64 (n : Int), .agg (wordCells a).toArray, q1, q2] (by rfl) (by kernel_rfl) (by go_simp) ?_
    refine (hkf Y2 _ b f n a (But.of b_Y1 _) ((rT.go b_V)) (sC) HE2.out.2.1.1 hfn HA.out.1).mono ?_
    rintro e Y3 ⟨vr, rfl, gr, br, or⟩
    have bx : Below Y2.heap.size Y2 Y3 := br
    have oR : ∀ g, g < w.heap.size → Off g vr := fun g hg => or g (Nat.lt_of_lt_of_le hg (Below.chain HBV b_V).size) (oC g hg)
    have sR := gr
    clear gr or
    replace b_V := Below.chain b_V bx
    replace b_Y1 := Below.chain b_Y1 bx
    have b_Y2 := bx
    have m_Y3 : Y2.heap.size ≤ Y3.heap.size := bx.size
    clear bx
    refine ⟨_, rfl, ⟨(rX.go b_V), (rA.go b_V)⟩, ?_⟩
    simp only [Act.put, List.setIfInBounds_toArray, List.set_cons_zero, List.set_cons_succ]
    refine held_value 9 _ _ (some 12) (vr) (by kernel_rfl) (by rfl) (by kernel_rfl) (fun w hS => by first | kernel_rfl | go_simp) (fun _ _ _ _ h => h) (⟨(rX.go b_V), (rA.go b_V)⟩) ?_
    simp only [Act.put, List.setIfInBounds_toArray, List.set_cons_zero, List.set_cons_succ]
    refine held_value 10 _ _ (some 13) (.int .i64 0) (by kernel_rfl) (by rfl) (by kernel_rfl) (fun w hS => by first | kernel_rfl | go_simp) (fun _ _ _ _ h => h) (⟨(rX.go b_V), (rA.go b_V)⟩) ?_
    simp only [Act.put, List.setIfInBounds_toArray, List.set_cons_zero, List.set_cons_succ]
    refine wpAnyH_done (by kernel_rfl) ?_ _
    have HR : Shh (Sl Y3 Y3.heap.size vr (goB X.s X.n seed a b f n) ∧ Below w.heap.size w Y3 ∧ ∀ g, g < w.heap.size → Off g vr) := ⟨sR, Below.chain HBV b_V, oR⟩
    clear m_Y3 b_Y2 sR oR br m_Y2 b_Y1 sC oC bc m_Y1 b_V hkf hcf bv HBV rX rA sB sS rT
    go_wp2
    go_ret2
    exact ⟨_, rfl, HR.out⟩
  · have HL : Shh (out = []) := ⟨HE.out.2 her⟩
    have hne : (er != 0) = true := by simp [her]
    rw [HL.out]
    clear HE HL her
    go_enter Tryd.func25, Tryd.ntmps25
    go_wp2_with (first | (rw [← hW0]; refine wpList_load_any rfl 24 (.tmp 6) rfl w.heap.size rfl 24 [.int .u32 xc, .bool xs, .int .i64 xn, .int .i64 xh, .int .i64 xl] _ HW0.out.1 Tryd.underlying24 rfl info_xms ?_) | (go_at_call 35; rw [← hW0, ← hW]; refine (HC.out _ _ _ HW.out.2.2.1 HW.out.2.2.2.1).mono ?_))
    try rw [← hW0, ← hW]
    unfold OldIs
    rintro e w2 ⟨rfl, b2⟩
    have H2 : Shh (Below w.heap.size w w2) := ⟨Below.chain HW.out.2.2.2.2 b2⟩
    clear HW hW b2 HC HW0 hW0
    go_wp2
    go_ret2
    exact ⟨_, rfl, Sl.nil_, H2.out, fun _ _ => Off.nil_⟩
end Go.Proofs.YtobbbljnkdfkeaaDoor
