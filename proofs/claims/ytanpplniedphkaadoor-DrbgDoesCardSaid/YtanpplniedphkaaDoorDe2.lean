/-
  WALK: the document's own Updated.
-/
import Derived.Test.YtanpplniedphkaaDoorDe1
namespace Go.Proofs.YtanpplniedphkaaDoor
open Go.RowKit
set_option maxRecDepth 100000
section
variable {P : Program} {md : Region.Mode} {ops : Array Oper} {Q : Exit → Act → World → Prop} {S : World → Prop} {fuel : Nat} {listed : Array Bool} {a : Act} {w : World}
theorem held_three (i j k : Nat) (hr : Region.ready md ops listed = [i, j, k]) (h1 : HStep P md ops Q S fuel listed a w i) (h2 : HStep P md ops Q S fuel listed a w j) (h3 : HStep P md ops Q S fuel listed a w k) : wpAnyH P md ops Q S (fuel + 1) listed a w :=
  wpAnyH_all hr (by simp) fun m hm => by
    simp only [List.mem_cons, List.not_mem_nil, or_false] at hm
    rcases hm with rfl | rfl | rfl
    · exact h1
    · exact h2
    · exact h3
end
/-- a store of one cell in an undrawn list: the world behind it under a name of its own -/
theorem wl_store1 {P : Program} {ops : Array Oper} {rest : List Oper} {o : Oper} {a : Act} {w : World} {Q : Exit → Act → World → Prop} (hgd : o.guard = none) (hd : o.dst = none) (w' : World) (hrun : (execOp a.eval o).run P w = .ok .skip w')
    (h : ∀ w2, w2 = w' → wpList P ops Q rest a w2) : wpList P ops Q (o :: rest) a w :=
  wpList_plain hgd fun _ hK => by
    unfold Oper.wp
    rw [hrun]
    have := hK _ _ (h _ rfl)
    simpa [Oper.upon, Act.put, hd] using this
theorem cell_slices {A B : Option Addr} {m n c d : Nat} {i : Int} : ∀ u ∈ [Value.slice A m c, Value.slice B n d, Value.int .i64 i], u.oneCell' = true := by
  intro u hu
  simp only [List.mem_cons, List.not_mem_nil, or_false] at hu
  rcases hu with rfl | rfl | rfl <;> rfl
theorem updL_nil (s : List UInt8) (h : s.length = 64) : keyL (updL [] s) = macB (keyL s) (valL s ++ 0 :: []) ∧ valL (updL [] s) = macB (macB (keyL s) (valL s ++ 0 :: [])) (valL s) := by
  unfold updL
  rw [if_pos rfl]
  exact mix_key 0 [] s h
theorem updL_cons (text s : List UInt8) (h : s.length = 64) (ht : text ≠ []) (k0 v0 k1 v1 : List UInt8) (h0 : k0 = macB (keyL s) (valL s ++ 0 :: text) ∧ v0 = macB k0 (valL s)) (h1 : k1 = macB k0 (v0 ++ 1 :: text) ∧ v1 = macB k1 v0) :
    keyL (updL text s) = k1 ∧ valL (updL text s) = v1 := by
  have e0 := mix_key 0 text s h
  have e1 := mix_key 1 text (mixL 0 text s) (mixL_length _ _ _ h)
  unfold updL
  rw [if_neg ht, e1.1, e1.2, e0.1, e0.2, h1.2, h1.1, h0.2, h0.1]
  exact ⟨rfl, rfl⟩
theorem info_rd : (Tryd.prog.info? 33).map (·.size) = some 3 := by kernel_rfl
/-- the document's generator is handed back: two slices that read as the state's, and the counter -/
def RStIs (w : World) (s : List UInt8) (c : Int) (e : Ending) (w' : World) : Prop := ∃ vk vv, e = .returned (.agg #[vk, vv, .int .i64 c]) ∧ Sl w' w'.heap.size vk (keyL s) ∧ Sl w' w'.heap.size vv (valL s) ∧ Below w.heap.size w w' ∧ ∀ g, g < w.heap.size → Off g vk ∧ Off g vv
/-- a slice that reads as a list and lies beside block N -/
def SlO (w : World) (N : Nat) (v : Value) (bs : List UInt8) : Prop := Sl w w.heap.size v bs ∧ Off N v ∧ Off (N + 1) v
theorem SlO.go {w w' : World} {N : Nat} {v : Value} {bs : List UInt8} (h : SlO w N v bs) (b : Below w.heap.size w w') : SlO w' N v bs := ⟨h.1.go b, h.2⟩
theorem SlO.set {w : World} {N : Nat} {v : Value} {bs : List UInt8} (h : SlO w N v bs) (k : Nat) (u : Value) : SlO (w.setCell ⟨N, k, none⟩ u) N v bs := ⟨(h.1.but h.2.1 (But.setc w N k u)).more (But.setc w N k u).size, h.2⟩
theorem SlO.drew {w : World} {N : Nat} {v : Value} {bs : List UInt8} (h : SlO w N v bs) : SlO w.drew N v bs := h
set_option maxHeartbeats 8000000 in
theorem refUpdated_any (B : Nat) (vk vv vt : Value) (c : Int) (s text : List UInt8) (w : World) (hk : Sl w B vk (keyL s)) (hv : Sl w B vv (valL s)) (ht : Sl w B vt text) (hB : B ≤ w.heap.size) (hs : s.length = 64) (htl : text.length ≤ 400000) :
    Calls Tryd.prog 52 #[.agg #[vk, vv, .int .i64 c], vt] w (RStIs w (updL text s) c) := by
  unfold RStIs
  obtain ⟨Ak, ck, rfl, _, _⟩ := hk.form
  obtain ⟨Av, cv, rfl, _, _⟩ := hv.form
  obtain ⟨At, ct, rfl, _, _⟩ := ht.form
  obtain ⟨N, hN⟩ : ∃ N, w.heap.size = N := ⟨_, rfl⟩
  obtain ⟨kB, hkB⟩ : ∃ kB, kB = keyL s := ⟨_, rfl⟩
  obtain ⟨vB, hvB⟩ : ∃ vB, vB = valL s := ⟨_, rfl⟩
  have hkl : kB.length = 32 := by rw [hkB]; exact keyL_length s hs
  have hvl : vB.length = 32 := by rw [hvB]; exact valL_length s hs
  have HKV : Shh (kB = keyL s ∧ vB = valL s ∧ kB.length = 32 ∧ vB.length = 32) := ⟨hkB, hvB, hkl, hvl⟩
  rw [← hkB] at hk ⊢
  rw [← hvB] at hv ⊢
  clear hkB hvB hkl hvl
  obtain ⟨W1, hW1⟩ : ∃ W1, W1 = (w.alloc (.cells #[.slice Ak kB.length ck, .slice Av vB.length cv, .int .i64 c] 33)).alloc (.cells #[.slice none 0 0, .slice none 0 0, .int .i64 0] 33) := ⟨_, rfl⟩
  have hb1 : Below N w W1 := by rw [hW1]; exact ((Below.refl N w).alloc (by omega) _).alloc (by rw [asz]; omega) _
  have hz1 : W1.heap.size = N + 2 := by rw [hW1, asz, asz, hN]
  have HA : Shh (Row W1.drew N 33 [.slice Ak kB.length ck, .slice Av vB.length cv, .int .i64 c] ∧ Row W1.drew (N + 1) 33 [.slice none 0 0, .slice none 0 0, .int .i64 0] ∧ SlO W1.drew N (.slice Ak kB.length ck) kB ∧ SlO W1.drew N (.slice Av vB.length cv) vB ∧ SlO W1.drew N (.slice At text.length ct) text ∧ Below N w W1.drew ∧ N + 2 ≤ W1.drew.heap.size) :=
    ⟨by rw [hW1]; exact ((Row.new_ hN.symm rfl).alloc _).drew, by rw [hW1]; exact (Row.new_ (by rw [asz, hN]) rfl).drew, ⟨(hk.below (hb1.mono (by omega))).more (by show B ≤ W1.heap.size; omega), hk.off (by omega), hk.off (by omega)⟩, ⟨(hv.below (hb1.mono (by omega))).more (by show B ≤ W1.heap.size; omega), hv.off (by omega), hv.off (by omega)⟩, ⟨(ht.below (hb1.mono (by omega))).more (by show B ≤ W1.heap.size; omega), ht.off (by omega), ht.off (by omega)⟩, hb1.drew, by show N + 2 ≤ W1.heap.size; omega⟩
  rw [hW1] at HA
  clear hk hv ht hb1 hz1 hW1
  go_enter Tryd.func52, Tryd.ntmps52
  go_wp2
  obtain ⟨mk0, hmk0⟩ : ∃ m, m = macB kB (vB ++ 0 :: text) := ⟨_, rfl⟩
  obtain ⟨mv0, hmv0⟩ : ∃ m, m = macB mk0 vB := ⟨_, rfl⟩
  have HM0 : Shh (mk0 = macB kB (vB ++ 0 :: text) ∧ mv0 = macB mk0 vB) := ⟨hmk0, hmv0⟩
  have HL0 : Shh (vB.length = 32 ∧ kB.length = 32 ∧ text.length ≤ 400000) := ⟨HKV.out.2.2.2, HKV.out.2.2.1, htl⟩
  have HL0b : Shh (mk0.length = 32 ∧ mv0.length = 32) := ⟨by rw [hmk0]; exact macB_length _ _, by rw [hmv0]; exact macB_length _ _⟩
  clear hmk0 hmv0
  refine share (T := ?T0) (fun hT => ?gg0) ?tt0
  case gg0 =>
    refine wp_region_held_drew (S := fun _ => True) (by kernel_rfl) trivial (fun hS => ?_)
    have HV := HA
    generalize World.drew _ = V at HV ⊢
    have rB := HV.out.1
    have rZ := HV.out.2.1
    have sK := HV.out.2.2.1
    have sV := HV.out.2.2.2.1
    have sT := HV.out.2.2.2.2.1
    have c0 := rB.cell 0
    have c1 := rB.cell 1
    refine held_value 0 _ _ (some 5) (.pointer (some ⟨N, 0, none⟩)) (by kernel_rfl) (by rfl) (by kernel_rfl) (fun w hS => by first | kernel_rfl | go_simp) (fun _ _ _ _ h => h) (trivial) ?_
    simp only [Act.put, List.setIfInBounds_toArray, List.set_cons_zero, List.set_cons_succ]
    refine held_value 2 _ _ (some 7) (.pointer (some ⟨N, 1, none⟩)) (by kernel_rfl) (by rfl) (by kernel_rfl) (fun w hS => by first | kernel_rfl | go_simp) (fun _ _ _ _ h => h) (trivial) ?_
    simp only [Act.put, List.setIfInBounds_toArray, List.set_cons_zero, List.set_cons_succ]
    refine held_value 5 _ _ (some 10) (.slice At text.length ct) (by kernel_rfl) (by rfl) (by kernel_rfl) (fun w hS => by first | kernel_rfl | go_simp) (fun _ _ _ _ h => h) (trivial) ?_
    simp only [Act.put, List.setIfInBounds_toArray, List.set_cons_zero, List.set_cons_succ]
    refine held_three 1 3 4 (by kernel_rfl) ?_ ?_ ?_
    · refine step_value 1 _ _ (some 6) (.slice Ak kB.length ck) V (by rfl) (by kernel_rfl) (by have h := rB.cell 0; simp only [List.getElem?_cons_zero] at h; go_simp) (trivial) ?_
      simp only [Act.put, List.setIfInBounds_toArray, List.set_cons_zero, List.set_cons_succ]
      refine held_two 3 4 (by kernel_rfl) ?_ ?_
      · refine step_value 3 _ _ (some 8) (.slice Av vB.length cv) V (by rfl) (by kernel_rfl) (by have h := rB.cell 1; simp only [List.getElem?_cons_succ, List.getElem?_cons_zero] at h; go_simp) (trivial) ?_
        simp only [Act.put, List.setIfInBounds_toArray, List.set_cons_zero, List.set_cons_succ]
        refine held_one 4 (by kernel_rfl) ?_
        refine step_value 4 _ _ (some 9) (.slice (some ⟨V.heap.size, 0, none⟩) 1 1) (V.alloc (.cells #[.int .u8 0] 5)) (by rfl) (by kernel_rfl) (by first | kernel_rfl | go_simp) (trivial) ?_
        simp only [Act.put, List.setIfInBounds_toArray, List.set_cons_zero, List.set_cons_succ]
        have bx : Below V.heap.size V (V.alloc (.cells #[.int .u8 0] 5)) := Below.alloc (Below.refl _ _) (Nat.le_refl _) _
        have rQ : Row (V.alloc (.cells #[.int .u8 0] 5)) V.heap.size 5 [.int .u8 0] := Row.new_ rfl rfl
        have z_rQ := asz V (.cells #[.int .u8 0] 5)
        generalize V.alloc (.cells #[.int .u8 0] 5) = Y3 at *
        have b_V := bx
        have m_Y3 : V.heap.size ≤ Y3.heap.size := bx.size
        clear bx
        refine held_one 6 (by kernel_rfl) ?_
        refine step_value 6 _ _ (some 11) (.slice (some ⟨Y3.heap.size, 0, none⟩) 3 3) (Y3.alloc (.cells #[.slice Av vB.length cv, .slice (some ⟨V.heap.size, 0, none⟩) 1 1, .slice At text.length ct] 22)) (by rfl) (by kernel_rfl) (by first | kernel_rfl | go_simp) (trivial) ?_
        simp only [Act.put, List.setIfInBounds_toArray, List.set_cons_zero, List.set_cons_succ]
        have bx : Below Y3.heap.size Y3 (Y3.alloc (.cells #[.slice Av vB.length cv, .slice (some ⟨V.heap.size, 0, none⟩) 1 1, .slice At text.length ct] 22)) := Below.alloc (Below.refl _ _) (Nat.le_refl _) _
        have rP : Row (Y3.alloc (.cells #[.slice Av vB.length cv, .slice (some ⟨V.heap.size, 0, none⟩) 1 1, .slice At text.length ct] 22)) Y3.heap.size 22 [.slice Av vB.length cv, .slice (some ⟨V.heap.size, 0, none⟩) 1 1, .slice At text.length ct] := Row.new_ rfl rfl
        have z_rP := asz Y3 (.cells #[.slice Av vB.length cv, .slice (some ⟨V.heap.size, 0, none⟩) 1 1, .slice At text.length ct] 22)
        generalize Y3.alloc (.cells #[.slice Av vB.length cv, .slice (some ⟨V.heap.size, 0, none⟩) 1 1, .slice At text.length ct] 22) = Y4 at *
        replace b_V := Below.chain b_V bx
        have b_Y3 := bx
        have m_Y4 : Y3.heap.size ≤ Y4.heap.size := bx.size
        clear bx
        refine held_one 7 (by kernel_rfl) ?_
        refine step_call 7 _ _ (some 12) 12 #[.slice (some ⟨Y3.heap.size, 0, none⟩) 3 3] (by rfl) (by kernel_rfl) (by first | kernel_rfl | go_simp) ?_
        refine (refJoin_any Y4.heap.size Y4.heap.size _ [vB, [0], text] Y4 (PartsO.three rP.lt (Nat.ne_of_lt rP.lt) rP (sV.go b_V).1 ((sV.go b_V).1.off (Nat.le_refl _)) (Row.sl (n := 1) (bs := [0]) (rQ.go b_Y3) rfl (by omega)) ((Row.sl (n := 1) (bs := [0]) (rQ.go b_Y3) rfl (by omega)).off (Nat.le_refl _)) (sT.go b_V).1 ((sT.go b_V).1.off (Nat.le_refl _))) (Nat.le_refl _) (by simp; have := HL0.out; omega) (by simp)).mono ?_
        rintro e Y5 ⟨vj, rfl, gj⟩
        have bx : Below Y4.heap.size Y4 Y5 := gj.2
        have sj : Sl Y5 Y5.heap.size vj (vB ++ 0 :: text) := by have := gives_sl gj; simpa using this
        clear gj
        replace b_V := Below.chain b_V bx
        replace b_Y3 := Below.chain b_Y3 bx
        have b_Y4 := bx
        have m_Y5 : Y4.heap.size ≤ Y5.heap.size := bx.size
        clear bx
        refine ⟨_, rfl, trivial, ?_⟩
        simp only [Act.put, List.setIfInBounds_toArray, List.set_cons_zero, List.set_cons_succ]
        refine held_one 8 (by kernel_rfl) ?_
        refine step_call 8 _ _ (some 13) 93 #[.slice Ak kB.length ck, vj] (by rfl) (by kernel_rfl) (by first | kernel_rfl | go_simp) ?_
        refine (refMac_any Y5.heap.size _ _ kB (vB ++ 0 :: text) Y5 (sK.go b_V).1 sj (Nat.le_refl _) (by have := HL0.out; omega) (by simp; have := HL0.out; omega)).mono ?_
        rintro e Y6 ⟨vm, rfl, gm⟩
        have bx : Below Y5.heap.size Y5 Y6 := gm.2
        have sm : Sl Y6 Y6.heap.size vm mk0 := by have := gives_sl gm; rw [HM0.out.1]; exact this
        have ofm : Off N vm ∧ Off (N + 1) vm := ⟨gives_off gm N (by have := HV.out.2.2.2.2.2.2; omega), gives_off gm (N + 1) (by have := HV.out.2.2.2.2.2.2; omega)⟩
        have ofg : ∀ g, g < N → Off g vm := fun g hg => gives_off gm g (by have := HV.out.2.2.2.2.2.2; omega)
        clear gm
        obtain ⟨Am, cm, rfl, _, _⟩ := sm.form
        replace b_V := Below.chain b_V bx
        replace b_Y3 := Below.chain b_Y3 bx
        replace b_Y4 := Below.chain b_Y4 bx
        have b_Y5 := bx
        have m_Y6 : Y5.heap.size ≤ Y6.heap.size := bx.size
        clear bx
        refine ⟨_, rfl, trivial, ?_⟩
        simp only [Act.put, List.setIfInBounds_toArray, List.set_cons_zero, List.set_cons_succ]
        refine held_value 9 _ _ (some 14) (.pointer (some ⟨N, 0, none⟩)) (by kernel_rfl) (by rfl) (by kernel_rfl) (fun w hS => by first | kernel_rfl | go_simp) (fun _ _ _ _ h => h) (trivial) ?_
        simp only [Act.put, List.setIfInBounds_toArray, List.set_cons_zero, List.set_cons_succ]
        refine held_one 10 (by kernel_rfl) ?_
        refine step_store1 10 _ (by rfl) (by kernel_rfl) (Y6.setCell ⟨N, 0, none⟩ (.slice Am mk0.length cm)) (by have h := (rB.go b_V).cell 0; simp only [List.getElem?_cons_zero] at h; have hf := (rB.go b_V).free 0; go_simp) ⟨trivial, ?_⟩
        refine wpAnyH_done (by kernel_rfl) ?_ _
        have F : Shh (Row (Y6.setCell ⟨N, 0, none⟩ (.slice Am mk0.length cm)) N 33 [.slice Am mk0.length cm, .slice Av vB.length cv, .int .i64 c] ∧ Row (Y6.setCell ⟨N, 0, none⟩ (.slice Am mk0.length cm)) (N + 1) 33 [.slice none 0 0, .slice none 0 0, .int .i64 0] ∧ SlO (Y6.setCell ⟨N, 0, none⟩ (.slice Am mk0.length cm)) N (.slice Am mk0.length cm) mk0 ∧ SlO (Y6.setCell ⟨N, 0, none⟩ (.slice Am mk0.length cm)) N (.slice Av vB.length cv) vB ∧ SlO (Y6.setCell ⟨N, 0, none⟩ (.slice Am mk0.length cm)) N (.slice At text.length ct) text ∧ Below N w (Y6.setCell ⟨N, 0, none⟩ (.slice Am mk0.length cm)) ∧ N + 2 ≤ (Y6.setCell ⟨N, 0, none⟩ (.slice Am mk0.length cm)).heap.size) := ⟨(rB.go b_V).set_ 0 _, (rZ.go b_V).other _ _ (by show N + 1 ≠ N; omega), SlO.set ⟨sm, ofm⟩ 0 _, (sV.go b_V).set 0 _, (sT.go b_V).set 0 _, (HV.out.2.2.2.2.2.1.trans (b_V.mono (by have := HV.out.2.2.2.2.2.2; omega))).setCell (Nat.le_refl _) _, Nat.le_trans HV.out.2.2.2.2.2.2 (Nat.le_trans b_V.size (But.setc _ _ _ _).size)⟩
        have FO : Shh (∀ g, g < N → Off g (.slice Am mk0.length cm)) := ⟨ofg⟩
        generalize hnQ : V.heap.size = nQ
        generalize hnP : Y3.heap.size = nP
        generalize hZZ : Y6.setCell ⟨N, 0, none⟩ (.slice Am mk0.length cm) = ZZ at F ⊢
        clear hnQ hnP hZZ
        clear m_Y6 b_Y5 ofg ofm sm m_Y5 b_Y4 sj m_Y4 b_Y3 z_rP rP m_Y3 b_V z_rQ rQ rB rZ sK sV sT c0 c1 hS HV
        revert FO
        revert F
        revert ZZ nQ nP
        revert Am cm
        revert vj
        exact hT.out
      · refine step_value 4 _ _ (some 9) (.slice (some ⟨V.heap.size, 0, none⟩) 1 1) (V.alloc (.cells #[.int .u8 0] 5)) (by rfl) (by kernel_rfl) (by first | kernel_rfl | go_simp) (trivial) ?_
        simp only [Act.put, List.setIfInBounds_toArray, List.set_cons_zero, List.set_cons_succ]
        have bx : Below V.heap.size V (V.alloc (.cells #[.int .u8 0] 5)) := Below.alloc (Below.refl _ _) (Nat.le_refl _) _
        have rQ : Row (V.alloc (.cells #[.int .u8 0] 5)) V.heap.size 5 [.int .u8 0] := Row.new_ rfl rfl
        have z_rQ := asz V (.cells #[.int .u8 0] 5)
        generalize V.alloc (.cells #[.int .u8 0] 5) = Y2 at *
        have b_V := bx
        have m_Y2 : V.heap.size ≤ Y2.heap.size := bx.size
        clear bx
        refine held_one 3 (by kernel_rfl) ?_
        refine step_value 3 _ _ (some 8) (.slice Av vB.length cv) Y2 (by rfl) (by kernel_rfl) (by have h := (rB.go b_V).cell 1; simp only [List.getElem?_cons_succ, List.getElem?_cons_zero] at h; go_simp) (trivial) ?_
        simp only [Act.put, List.setIfInBounds_toArray, List.set_cons_zero, List.set_cons_succ]
        refine held_one 6 (by kernel_rfl) ?_
        refine step_value 6 _ _ (some 11) (.slice (some ⟨Y2.heap.size, 0, none⟩) 3 3) (Y2.alloc (.cells #[.slice Av vB.length cv, .slice (some ⟨V.heap.size, 0, none⟩) 1 1, .slice At text.length ct] 22)) (by rfl) (by kernel_rfl) (by first | kernel_rfl | go_simp) (trivial) ?_
        simp only [Act.put, List.setIfInBounds_toArray, List.set_cons_zero, List.set_cons_succ]
        have bx : Below Y2.heap.size Y2 (Y2.alloc (.cells #[.slice Av vB.length cv, .slice (some ⟨V.heap.size, 0, none⟩) 1 1, .slice At text.length ct] 22)) := Below.alloc (Below.refl _ _) (Nat.le_refl _) _
        have rP : Row (Y2.alloc (.cells #[.slice Av vB.length cv, .slice (some ⟨V.heap.size, 0, none⟩) 1 1, .slice At text.length ct] 22)) Y2.heap.size 22 [.slice Av vB.length cv, .slice (some ⟨V.heap.size, 0, none⟩) 1 1, .slice At text.length ct] := Row.new_ rfl rfl
        have z_rP := asz Y2 (.cells #[.slice Av vB.length cv, .slice (some ⟨V.heap.size, 0, none⟩) 1 1, .slice At text.length ct] 22)
        generalize Y2.alloc (.cells #[.slice Av vB.length cv, .slice (some ⟨V.heap.size, 0, none⟩) 1 1, .slice At text.length ct] 22) = Y4 at *
        replace b_V := Below.chain b_V bx
        have b_Y2 := bx
        have m_Y4 : Y2.heap.size ≤ Y4.heap.size := bx.size
        clear bx
        refine held_one 7 (by kernel_rfl) ?_
        refine step_call 7 _ _ (some 12) 12 #[.slice (some ⟨Y2.heap.size, 0, none⟩) 3 3] (by rfl) (by kernel_rfl) (by first | kernel_rfl | go_simp) ?_
        refine (refJoin_any Y4.heap.size Y4.heap.size _ [vB, [0], text] Y4 (PartsO.three rP.lt (Nat.ne_of_lt rP.lt) rP (sV.go b_V).1 ((sV.go b_V).1.off (Nat.le_refl _)) (Row.sl (n := 1) (bs := [0]) (rQ.go b_Y2) rfl (by omega)) ((Row.sl (n := 1) (bs := [0]) (rQ.go b_Y2) rfl (by omega)).off (Nat.le_refl _)) (sT.go b_V).1 ((sT.go b_V).1.off (Nat.le_refl _))) (Nat.le_refl _) (by simp; have := HL0.out; omega) (by simp)).mono ?_
        rintro e Y5 ⟨vj, rfl, gj⟩
        have bx : Below Y4.heap.size Y4 Y5 := gj.2
        have sj : Sl Y5 Y5.heap.size vj (vB ++ 0 :: text) := by have := gives_sl gj; simpa using this
        clear gj
        replace b_V := Below.chain b_V bx
        replace b_Y2 := Below.chain b_Y2 bx
        have b_Y4 := bx
        have m_Y5 : Y4.heap.size ≤ Y5.heap.size := bx.size
        clear bx
        refine ⟨_, rfl, trivial, ?_⟩
        simp only [Act.put, List.setIfInBounds_toArray, List.set_cons_zero, List.set_cons_succ]
        refine held_one 8 (by kernel_rfl) ?_
        refine step_call 8 _ _ (some 13) 93 #[.slice Ak kB.length ck, vj] (by rfl) (by kernel_rfl) (by first | kernel_rfl | go_simp) ?_
        refine (refMac_any Y5.heap.size _ _ kB (vB ++ 0 :: text) Y5 (sK.go b_V).1 sj (Nat.le_refl _) (by have := HL0.out; omega) (by simp; have := HL0.out; omega)).mono ?_
        rintro e Y6 ⟨vm, rfl, gm⟩
        have bx : Below Y5.heap.size Y5 Y6 := gm.2
        have sm : Sl Y6 Y6.heap.size vm mk0 := by have := gives_sl gm; rw [HM0.out.1]; exact this
        have ofm : Off N vm ∧ Off (N + 1) vm := ⟨gives_off gm N (by have := HV.out.2.2.2.2.2.2; omega), gives_off gm (N + 1) (by have := HV.out.2.2.2.2.2.2; omega)⟩
        have ofg : ∀ g, g < N → Off g vm := fun g hg => gives_off gm g (by have := HV.out.2.2.2.2.2.2; omega)
        clear gm
        obtain ⟨Am, cm, rfl, _, _⟩ := sm.form
        replace b_V := Below.chain b_V bx
        replace b_Y2 := Below.chain b_Y2 bx
        replace b_Y4 := Below.chain b_Y4 bx
        have b_Y5 := bx
        have m_Y6 : Y5.heap.size ≤ Y6.heap.size := bx.size
        clear bx
        refine ⟨_, rfl, trivial, ?_⟩
        simp only [Act.put, List.setIfInBounds_toArray, List.set_cons_zero, List.set_cons_succ]
        refine held_value 9 _ _ (some 14) (.pointer (some ⟨N, 0, none⟩)) (by kernel_rfl) (by rfl) (by kernel_rfl) (fun w hS => by first | kernel_rfl | go_simp) (fun _ _ _ _ h => h) (trivial) ?_
        simp only [Act.put, List.setIfInBounds_toArray, List.set_cons_zero, List.set_cons_succ]
        refine held_one 10 (by kernel_rfl) ?_
        refine step_store1 10 _ (by rfl) (by kernel_rfl) (Y6.setCell ⟨N, 0, none⟩ (.slice Am mk0.length cm)) (by have h := (rB.go b_V).cell 0; simp only [List.getElem?_cons_zero] at h; have hf := (rB.go b_V).free 0; go_simp) ⟨trivial, ?_⟩
        refine wpAnyH_done (by kernel_rfl) ?_ _
        have F : Shh (Row (Y6.setCell ⟨N, 0, none⟩ (.slice Am mk0.length cm)) N 33 [.slice Am mk0.length cm, .slice Av vB.length cv, .int .i64 c] ∧ Row (Y6.setCell ⟨N, 0, none⟩ (.slice Am mk0.length cm)) (N + 1) 33 [.slice none 0 0, .slice none 0 0, .int .i64 0] ∧ SlO (Y6.setCell ⟨N, 0, none⟩ (.slice Am mk0.length cm)) N (.slice Am mk0.length cm) mk0 ∧ SlO (Y6.setCell ⟨N, 0, none⟩ (.slice Am mk0.length cm)) N (.slice Av vB.length cv) vB ∧ SlO (Y6.setCell ⟨N, 0, none⟩ (.slice Am mk0.length cm)) N (.slice At text.length ct) text ∧ Below N w (Y6.setCell ⟨N, 0, none⟩ (.slice Am mk0.length cm)) ∧ N + 2 ≤ (Y6.setCell ⟨N, 0, none⟩ (.slice Am mk0.length cm)).heap.size) := ⟨(rB.go b_V).set_ 0 _, (rZ.go b_V).other _ _ (by show N + 1 ≠ N; omega), SlO.set ⟨sm, ofm⟩ 0 _, (sV.go b_V).set 0 _, (sT.go b_V).set 0 _, (HV.out.2.2.2.2.2.1.trans (b_V.mono (by have := HV.out.2.2.2.2.2.2; omega))).setCell (Nat.le_refl _) _, Nat.le_trans HV.out.2.2.2.2.2.2 (Nat.le_trans b_V.size (But.setc _ _ _ _).size)⟩
        have FO : Shh (∀ g, g < N → Off g (.slice Am mk0.length cm)) := ⟨ofg⟩
        generalize hnQ : V.heap.size = nQ
        generalize hnP : Y2.heap.size = nP
        generalize hZZ : Y6.setCell ⟨N, 0, none⟩ (.slice Am mk0.length cm) = ZZ at F ⊢
        clear hnQ hnP hZZ
        clear m_Y6 b_Y5 ofg ofm sm m_Y5 b_Y4 sj m_Y4 b_Y2 z_rP rP m_Y2 b_V z_rQ rQ rB rZ sK sV sT c0 c1 hS HV
        revert FO
        revert F
        revert ZZ nQ nP
        revert Am cm
        revert vj
        exact hT.out
    · refine step_value 3 _ _ (some 8) (.slice Av vB.length cv) V (by rfl) (by kernel_rfl) (by have h := rB.cell 1; simp only [List.getElem?_cons_succ, List.getElem?_cons_zero] at h; go_simp) (trivial) ?_
      simp only [Act.put, List.setIfInBounds_toArray, List.set_cons_zero, List.set_cons_succ]
      refine held_two 1 4 (by kernel_rfl) ?_ ?_
      · refine step_value 1 _ _ (some 6) (.slice Ak kB.length ck) V (by rfl) (by kernel_rfl) (by have h := rB.cell 0; simp only [List.getElem?_cons_zero] at h; go_simp) (trivial) ?_
        simp only [Act.put, List.setIfInBounds_toArray, List.set_cons_zero, List.set_cons_succ]
        refine held_one 4 (by kernel_rfl) ?_
        refine step_value 4 _ _ (some 9) (.slice (some ⟨V.heap.size, 0, none⟩) 1 1) (V.alloc (.cells #[.int .u8 0] 5)) (by rfl) (by kernel_rfl) (by first | kernel_rfl | go_simp) (trivial) ?_
        simp only [Act.put, List.setIfInBounds_toArray, List.set_cons_zero, List.set_cons_succ]
        have bx : Below V.heap.size V (V.alloc (.cells #[.int .u8 0] 5)) := Below.alloc (Below.refl _ _) (Nat.le_refl _) _
        have rQ : Row (V.alloc (.cells #[.int .u8 0] 5)) V.heap.size 5 [.int .u8 0] := Row.new_ rfl rfl
        have z_rQ := asz V (.cells #[.int .u8 0] 5)
        generalize V.alloc (.cells #[.int .u8 0] 5) = Y3 at *
        have b_V := bx
        have m_Y3 : V.heap.size ≤ Y3.heap.size := bx.size
        clear bx
        refine held_one 6 (by kernel_rfl) ?_
        refine step_value 6 _ _ (some 11) (.slice (some ⟨Y3.heap.size, 0, none⟩) 3 3) (Y3.alloc (.cells #[.slice Av vB.length cv, .slice (some ⟨V.heap.size, 0, none⟩) 1 1, .slice At text.length ct] 22)) (by rfl) (by kernel_rfl) (by first | kernel_rfl | go_simp) (trivial) ?_
        simp only [Act.put, List.setIfInBounds_toArray, List.set_cons_zero, List.set_cons_succ]
        have bx : Below Y3.heap.size Y3 (Y3.alloc (.cells #[.slice Av vB.length cv, .slice (some ⟨V.heap.size, 0, none⟩) 1 1, .slice At text.length ct] 22)) := Below.alloc (Below.refl _ _) (Nat.le_refl _) _
        have rP : Row (Y3.alloc (.cells #[.slice Av vB.length cv, .slice (some ⟨V.heap.size, 0, none⟩) 1 1, .slice At text.length ct] 22)) Y3.heap.size 22 [.slice Av vB.length cv, .slice (some ⟨V.heap.size, 0, none⟩) 1 1, .slice At text.length ct] := Row.new_ rfl rfl
        have z_rP := asz Y3 (.cells #[.slice Av vB.length cv, .slice (some ⟨V.heap.size, 0, none⟩) 1 1, .slice At text.length ct] 22)
        generalize Y3.alloc (.cells #[.slice Av vB.length cv, .slice (some ⟨V.heap.size, 0, none⟩) 1 1, .slice At text.length ct] 22) = Y4 at *
        replace b_V := Below.chain b_V bx
        have b_Y3 := bx
        have m_Y4 : Y3.heap.size ≤ Y4.heap.size := bx.size
        clear bx
        refine held_one 7 (by kernel_rfl) ?_
        refine step_call 7 _ _ (some 12) 12 #[.slice (some ⟨Y3.heap.size, 0, none⟩) 3 3] (by rfl) (by kernel_rfl) (by first | kernel_rfl | go_simp) ?_
        refine (refJoin_any Y4.heap.size Y4.heap.size _ [vB, [0], text] Y4 (PartsO.three rP.lt (Nat.ne_of_lt rP.lt) rP (sV.go b_V).1 ((sV.go b_V).1.off (Nat.le_refl _)) (Row.sl (n := 1) (bs := [0]) (rQ.go b_Y3) rfl (by omega)) ((Row.sl (n := 1) (bs := [0]) (rQ.go b_Y3) rfl (by omega)).off (Nat.le_refl _)) (sT.go b_V).1 ((sT.go b_V).1.off (Nat.le_refl _))) (Nat.le_refl _) (by simp; have := HL0.out; omega) (by simp)).mono ?_
        rintro e Y5 ⟨vj, rfl, gj⟩
        have bx : Below Y4.heap.size Y4 Y5 := gj.2
        have sj : Sl Y5 Y5.heap.size vj (vB ++ 0 :: text) := by have := gives_sl gj; simpa using this
        clear gj
        replace b_V := Below.chain b_V bx
        replace b_Y3 := Below.chain b_Y3 bx
        have b_Y4 := bx
        have m_Y5 : Y4.heap.size ≤ Y5.heap.size := bx.size
        clear bx
        refine ⟨_, rfl, trivial, ?_⟩
        simp only [Act.put, List.setIfInBounds_toArray, List.set_cons_zero, List.set_cons_succ]
        refine held_one 8 (by kernel_rfl) ?_
        refine step_call 8 _ _ (some 13) 93 #[.slice Ak kB.length ck, vj] (by rfl) (by kernel_rfl) (by first | kernel_rfl | go_simp) ?_
        refine (refMac_any Y5.heap.size _ _ kB (vB ++ 0 :: text) Y5 (sK.go b_V).1 sj (Nat.le_refl _) (by have := HL0.out; omega) (by simp; have := HL0.out; omega)).mono ?_
        rintro e Y6 ⟨vm, rfl, gm⟩
        have bx : Below Y5.heap.size Y5 Y6 := gm.2
        have sm : Sl Y6 Y6.heap.size vm mk0 := by have := gives_sl gm; rw [HM0.out.1]; exact this
        have ofm : Off N vm ∧ Off (N + 1) vm := ⟨gives_off gm N (by have := HV.out.2.2.2.2.2.2; omega), gives_off gm (N + 1) (by have := HV.out.2.2.2.2.2.2; omega)⟩
        have ofg : ∀ g, g < N → Off g vm := fun g hg => gives_off gm g (by have := HV.out.2.2.2.2.2.2; omega)
        clear gm
        obtain ⟨Am, cm, rfl, _, _⟩ := sm.form
        replace b_V := Below.chain b_V bx
        replace b_Y3 := Below.chain b_Y3 bx
        replace b_Y4 := Below.chain b_Y4 bx
        have b_Y5 := bx
        have m_Y6 : Y5.heap.size ≤ Y6.heap.size := bx.size
        clear bx
        refine ⟨_, rfl, trivial, ?_⟩
        simp only [Act.put, List.setIfInBounds_toArray, List.set_cons_zero, List.set_cons_succ]
        refine held_value 9 _ _ (some 14) (.pointer (some ⟨N, 0, none⟩)) (by kernel_rfl) (by rfl) (by kernel_rfl) (fun w hS => by first | kernel_rfl | go_simp) (fun _ _ _ _ h => h) (trivial) ?_
        simp only [Act.put, List.setIfInBounds_toArray, List.set_cons_zero, List.set_cons_succ]
        refine held_one 10 (by kernel_rfl) ?_
        refine step_store1 10 _ (by rfl) (by kernel_rfl) (Y6.setCell ⟨N, 0, none⟩ (.slice Am mk0.length cm)) (by have h := (rB.go b_V).cell 0; simp only [List.getElem?_cons_zero] at h; have hf := (rB.go b_V).free 0; go_simp) ⟨trivial, ?_⟩
        refine wpAnyH_done (by kernel_rfl) ?_ _
        have F : Shh (Row (Y6.setCell ⟨N, 0, none⟩ (.slice Am mk0.length cm)) N 33 [.slice Am mk0.length cm, .slice Av vB.length cv, .int .i64 c] ∧ Row (Y6.setCell ⟨N, 0, none⟩ (.slice Am mk0.length cm)) (N + 1) 33 [.slice none 0 0, .slice none 0 0, .int .i64 0] ∧ SlO (Y6.setCell ⟨N, 0, none⟩ (.slice Am mk0.length cm)) N (.slice Am mk0.length cm) mk0 ∧ SlO (Y6.setCell ⟨N, 0, none⟩ (.slice Am mk0.length cm)) N (.slice Av vB.length cv) vB ∧ SlO (Y6.setCell ⟨N, 0, none⟩ (.slice Am mk0.length cm)) N (.slice At text.length ct) text ∧ Below N w (Y6.setCell ⟨N, 0, none⟩ (.slice Am mk0.length cm)) ∧ N + 2 ≤ (Y6.setCell ⟨N, 0, none⟩ (.slice Am mk0.length cm)).heap.size) := ⟨(rB.go b_V).set_ 0 _, (rZ.go b_V).other _ _ (by show N + 1 ≠ N; omega), SlO.set ⟨sm, ofm⟩ 0 _, (sV.go b_V).set 0 _, (sT.go b_V).set 0 _, (HV.out.2.2.2.2.2.1.trans (b_V.mono (by have := HV.out.2.2.2.2.2.2; omega))).setCell (Nat.le_refl _) _, Nat.le_trans HV.out.2.2.2.2.2.2 (Nat.le_trans b_V.size (But.setc _ _ _ _).size)⟩
        have FO : Shh (∀ g, g < N → Off g (.slice Am mk0.length cm)) := ⟨ofg⟩
        generalize hnQ : V.heap.size = nQ
        generalize hnP : Y3.heap.size = nP
        generalize hZZ : Y6.setCell ⟨N, 0, none⟩ (.slice Am mk0.length cm) = ZZ at F ⊢
        clear hnQ hnP hZZ
        clear m_Y6 b_Y5 ofg ofm sm m_Y5 b_Y4 sj m_Y4 b_Y3 z_rP rP m_Y3 b_V z_rQ rQ rB rZ sK sV sT c0 c1 hS HV
        revert FO
        revert F
        revert ZZ nQ nP
        revert Am cm
        revert vj
        exact hT.out
      · refine step_value 4 _ _ (some 9) (.slice (some ⟨V.heap.size, 0, none⟩) 1 1) (V.alloc (.cells #[.int .u8 0] 5)) (by rfl) (by kernel_rfl) (by first | kernel_rfl | go_simp) (trivial) ?_
        simp only [Act.put, List.setIfInBounds_toArray, List.set_cons_zero, List.set_cons_succ]
        have bx : Below V.heap.size V (V.alloc (.cells #[.int .u8 0] 5)) := Below.alloc (Below.refl _ _) (Nat.le_refl _) _
        have rQ : Row (V.alloc (.cells #[.int .u8 0] 5)) V.heap.size 5 [.int .u8 0] := Row.new_ rfl rfl
        have z_rQ := asz V (.cells #[.int .u8 0] 5)
        generalize V.alloc (.cells #[.int .u8 0] 5) = Y2 at *
        have b_V := bx
        have m_Y2 : V.heap.size ≤ Y2.heap.size := bx.size
        clear bx
        refine held_two 1 6 (by kernel_rfl) ?_ ?_
        · refine step_value 1 _ _ (some 6) (.slice Ak kB.length ck) Y2 (by rfl) (by kernel_rfl) (by have h := (rB.go b_V).cell 0; simp only [List.getElem?_cons_zero] at h; go_simp) (trivial) ?_
          simp only [Act.put, List.setIfInBounds_toArray, List.set_cons_zero, List.set_cons_succ]
          refine held_one 6 (by kernel_rfl) ?_
          refine step_value 6 _ _ (some 11) (.slice (some ⟨Y2.heap.size, 0, none⟩) 3 3) (Y2.alloc (.cells #[.slice Av vB.length cv, .slice (some ⟨V.heap.size, 0, none⟩) 1 1, .slice At text.length ct] 22)) (by rfl) (by kernel_rfl) (by first | kernel_rfl | go_simp) (trivial) ?_
          simp only [Act.put, List.setIfInBounds_toArray, List.set_cons_zero, List.set_cons_succ]
          have bx : Below Y2.heap.size Y2 (Y2.alloc (.cells #[.slice Av vB.length cv, .slice (some ⟨V.heap.size, 0, none⟩) 1 1, .slice At text.length ct] 22)) := Below.alloc (Below.refl _ _) (Nat.le_refl _) _
          have rP : Row (Y2.alloc (.cells #[.slice Av vB.length cv, .slice (some ⟨V.heap.size, 0, none⟩) 1 1, .slice At text.length ct] 22)) Y2.heap.size 22 [.slice Av vB.length cv, .slice (some ⟨V.heap.size, 0, none⟩) 1 1, .slice At text.length ct] := Row.new_ rfl rfl
          have z_rP := asz Y2 (.cells #[.slice Av vB.length cv, .slice (some ⟨V.heap.size, 0, none⟩) 1 1, .slice At text.length ct] 22)
          generalize Y2.alloc (.cells #[.slice Av vB.length cv, .slice (some ⟨V.heap.size, 0, none⟩) 1 1, .slice At text.length ct] 22) = Y4 at *
          replace b_V := Below.chain b_V bx
          have b_Y2 := bx
          have m_Y4 : Y2.heap.size ≤ Y4.heap.size := bx.size
          clear bx
          refine held_one 7 (by kernel_rfl) ?_
          refine step_call 7 _ _ (some 12) 12 #[.slice (some ⟨Y2.heap.size, 0, none⟩) 3 3] (by rfl) (by kernel_rfl) (by first | kernel_rfl | go_simp) ?_
          refine (refJoin_any Y4.heap.size Y4.heap.size _ [vB, [0], text] Y4 (PartsO.three rP.lt (Nat.ne_of_lt rP.lt) rP (sV.go b_V).1 ((sV.go b_V).1.off (Nat.le_refl _)) (Row.sl (n := 1) (bs := [0]) (rQ.go b_Y2) rfl (by omega)) ((Row.sl (n := 1) (bs := [0]) (rQ.go b_Y2) rfl (by omega)).off (Nat.le_refl _)) (sT.go b_V).1 ((sT.go b_V).1.off (Nat.le_refl _))) (Nat.le_refl _) (by simp; have := HL0.out; omega) (by simp)).mono ?_
          rintro e Y5 ⟨vj, rfl, gj⟩
          have bx : Below Y4.heap.size Y4 Y5 := gj.2
          have sj : Sl Y5 Y5.heap.size vj (vB ++ 0 :: text) := by have := gives_sl gj; simpa using this
          clear gj
          replace b_V := Below.chain b_V bx
          replace b_Y2 := Below.chain b_Y2 bx
          have b_Y4 := bx
          have m_Y5 : Y4.heap.size ≤ Y5.heap.size := bx.size
          clear bx
          refine ⟨_, rfl, trivial, ?_⟩
          simp only [Act.put, List.setIfInBounds_toArray, List.set_cons_zero, List.set_cons_succ]
          refine held_one 8 (by kernel_rfl) ?_
          refine step_call 8 _ _ (some 13) 93 #[.slice Ak kB.length ck, vj] (by rfl) (by kernel_rfl) (by first | kernel_rfl | go_simp) ?_
          refine (refMac_any Y5.heap.size _ _ kB (vB ++ 0 :: text) Y5 (sK.go b_V).1 sj (Nat.le_refl _) (by have := HL0.out; omega) (by simp; have := HL0.out; omega)).mono ?_
          rintro e Y6 ⟨vm, rfl, gm⟩
          have bx : Below Y5.heap.size Y5 Y6 := gm.2
          have sm : Sl Y6 Y6.heap.size vm mk0 := by have := gives_sl gm; rw [HM0.out.1]; exact this
          have ofm : Off N vm ∧ Off (N + 1) vm := ⟨gives_off gm N (by have := HV.out.2.2.2.2.2.2; omega), gives_off gm (N + 1) (by have := HV.out.2.2.2.2.2.2; omega)⟩
          have ofg : ∀ g, g < N → Off g vm := fun g hg => gives_off gm g (by have := HV.out.2.2.2.2.2.2; omega)
          clear gm
          obtain ⟨Am, cm, rfl, _, _⟩ := sm.form
          replace b_V := Below.chain b_V bx
          replace b_Y2 := Below.chain b_Y2 bx
          replace b_Y4 := Below.chain b_Y4 bx
          have b_Y5 := bx
          have m_Y6 : Y5.heap.size ≤ Y6.heap.size := bx.size
          clear bx
          refine ⟨_, rfl, trivial, ?_⟩
          simp only [Act.put, List.setIfInBounds_toArray, List.set_cons_zero, List.set_cons_succ]
          refine held_value 9 _ _ (some 14) (.pointer (some ⟨N, 0, none⟩)) (by kernel_rfl) (by rfl) (by kernel_rfl) (fun w hS => by first | kernel_rfl | go_simp) (fun _ _ _ _ h => h) (trivial) ?_
          simp only [Act.put, List.setIfInBounds_toArray, List.set_cons_zero, List.set_cons_succ]
          refine held_one 10 (by kernel_rfl) ?_
          refine step_store1 10 _ (by rfl) (by kernel_rfl) (Y6.setCell ⟨N, 0, none⟩ (.slice Am mk0.length cm)) (by have h := (rB.go b_V).cell 0; simp only [List.getElem?_cons_zero] at h; have hf := (rB.go b_V).free 0; go_simp) ⟨trivial, ?_⟩
          refine wpAnyH_done (by kernel_rfl) ?_ _
          have F : Shh (Row (Y6.setCell ⟨N, 0, none⟩ (.slice Am mk0.length cm)) N 33 [.slice Am mk0.length cm, .slice Av vB.length cv, .int .i64 c] ∧ Row (Y6.setCell ⟨N, 0, none⟩ (.slice Am mk0.length cm)) (N + 1) 33 [.slice none 0 0, .slice none 0 0, .int .i64 0] ∧ SlO (Y6.setCell ⟨N, 0, none⟩ (.slice Am mk0.length cm)) N (.slice Am mk0.length cm) mk0 ∧ SlO (Y6.setCell ⟨N, 0, none⟩ (.slice Am mk0.length cm)) N (.slice Av vB.length cv) vB ∧ SlO (Y6.setCell ⟨N, 0, none⟩ (.slice Am mk0.length cm)) N (.slice At text.length ct) text ∧ Below N w (Y6.setCell ⟨N, 0, none⟩ (.slice Am mk0.length cm)) ∧ N + 2 ≤ (Y6.setCell ⟨N, 0, none⟩ (.slice Am mk0.length cm)).heap.size) := ⟨(rB.go b_V).set_ 0 _, (rZ.go b_V).other _ _ (by show N + 1 ≠ N; omega), SlO.set ⟨sm, ofm⟩ 0 _, (sV.go b_V).set 0 _, (sT.go b_V).set 0 _, (HV.out.2.2.2.2.2.1.trans (b_V.mono (by have := HV.out.2.2.2.2.2.2; omega))).setCell (Nat.le_refl _) _, Nat.le_trans HV.out.2.2.2.2.2.2 (Nat.le_trans b_V.size (But.setc _ _ _ _).size)⟩
          have FO : Shh (∀ g, g < N → Off g (.slice Am mk0.length cm)) := ⟨ofg⟩
          generalize hnQ : V.heap.size = nQ
          generalize hnP : Y2.heap.size = nP
          generalize hZZ : Y6.setCell ⟨N, 0, none⟩ (.slice Am mk0.length cm) = ZZ at F ⊢
          clear hnQ hnP hZZ
          clear m_Y6 b_Y5 ofg ofm sm m_Y5 b_Y4 sj m_Y4 b_Y2 z_rP rP m_Y2 b_V z_rQ rQ rB rZ sK sV sT c0 c1 hS HV
          revert FO
          revert F
          revert ZZ nQ nP
          revert Am cm
          revert vj
          exact hT.out
        · refine step_value 6 _ _ (some 11) (.slice (some ⟨Y2.heap.size, 0, none⟩) 3 3) (Y2.alloc (.cells #[.slice Av vB.length cv, .slice (some ⟨V.heap.size, 0, none⟩) 1 1, .slice At text.length ct] 22)) (by rfl) (by kernel_rfl) (by first | kernel_rfl | go_simp) (trivial) ?_
          simp only [Act.put, List.setIfInBounds_toArray, List.set_cons_zero, List.set_cons_succ]
          have bx : Below Y2.heap.size Y2 (Y2.alloc (.cells #[.slice Av vB.length cv, .slice (some ⟨V.heap.size, 0, none⟩) 1 1, .slice At text.length ct] 22)) := Below.alloc (Below.refl _ _) (Nat.le_refl _) _
          have rP : Row (Y2.alloc (.cells #[.slice Av vB.length cv, .slice (some ⟨V.heap.size, 0, none⟩) 1 1, .slice At text.length ct] 22)) Y2.heap.size 22 [.slice Av vB.length cv, .slice (some ⟨V.heap.size, 0, none⟩) 1 1, .slice At text.length ct] := Row.new_ rfl rfl
          have z_rP := asz Y2 (.cells #[.slice Av vB.length cv, .slice (some ⟨V.heap.size, 0, none⟩) 1 1, .slice At text.length ct] 22)
          generalize Y2.alloc (.cells #[.slice Av vB.length cv, .slice (some ⟨V.heap.size, 0, none⟩) 1 1, .slice At text.length ct] 22) = Y3 at *
          replace b_V := Below.chain b_V bx
          have b_Y2 := bx
          have m_Y3 : Y2.heap.size ≤ Y3.heap.size := bx.size
          clear bx
          refine held_two 1 7 (by kernel_rfl) ?_ ?_
          · refine step_value 1 _ _ (some 6) (.slice Ak kB.length ck) Y3 (by rfl) (by kernel_rfl) (by have h := (rB.go b_V).cell 0; simp only [List.getElem?_cons_zero] at h; go_simp) (trivial) ?_
            simp only [Act.put, List.setIfInBounds_toArray, List.set_cons_zero, List.set_cons_succ]
            refine held_one 7 (by kernel_rfl) ?_
            refine step_call 7 _ _ (some 12) 12 #[.slice (some ⟨Y2.heap.size, 0, none⟩) 3 3] (by rfl) (by kernel_rfl) (by first | kernel_rfl | go_simp) ?_
            refine (refJoin_any Y3.heap.size Y3.heap.size _ [vB, [0], text] Y3 (PartsO.three rP.lt (Nat.ne_of_lt rP.lt) rP (sV.go b_V).1 ((sV.go b_V).1.off (Nat.le_refl _)) (Row.sl (n := 1) (bs := [0]) (rQ.go b_Y2) rfl (by omega)) ((Row.sl (n := 1) (bs := [0]) (rQ.go b_Y2) rfl (by omega)).off (Nat.le_refl _)) (sT.go b_V).1 ((sT.go b_V).1.off (Nat.le_refl _))) (Nat.le_refl _) (by simp; have := HL0.out; omega) (by simp)).mono ?_
            rintro e Y5 ⟨vj, rfl, gj⟩
            have bx : Below Y3.heap.size Y3 Y5 := gj.2
            have sj : Sl Y5 Y5.heap.size vj (vB ++ 0 :: text) := by have := gives_sl gj; simpa using this
            clear gj
            replace b_V := Below.chain b_V bx
            replace b_Y2 := Below.chain b_Y2 bx
            have b_Y3 := bx
            have m_Y5 : Y3.heap.size ≤ Y5.heap.size := bx.size
            clear bx
            refine ⟨_, rfl, trivial, ?_⟩
            simp only [Act.put, List.setIfInBounds_toArray, List.set_cons_zero, List.set_cons_succ]
            refine held_one 8 (by kernel_rfl) ?_
            refine step_call 8 _ _ (some 13) 93 #[.slice Ak kB.length ck, vj] (by rfl) (by kernel_rfl) (by first | kernel_rfl | go_simp) ?_
            refine (refMac_any Y5.heap.size _ _ kB (vB ++ 0 :: text) Y5 (sK.go b_V).1 sj (Nat.le_refl _) (by have := HL0.out; omega) (by simp; have := HL0.out; omega)).mono ?_
            rintro e Y6 ⟨vm, rfl, gm⟩
            have bx : Below Y5.heap.size Y5 Y6 := gm.2
            have sm : Sl Y6 Y6.heap.size vm mk0 := by have := gives_sl gm; rw [HM0.out.1]; exact this
            have ofm : Off N vm ∧ Off (N + 1) vm := ⟨gives_off gm N (by have := HV.out.2.2.2.2.2.2; omega), gives_off gm (N + 1) (by have := HV.out.2.2.2.2.2.2; omega)⟩
            have ofg : ∀ g, g < N → Off g vm := fun g hg => gives_off gm g (by have := HV.out.2.2.2.2.2.2; omega)
            clear gm
            obtain ⟨Am, cm, rfl, _, _⟩ := sm.form
            replace b_V := Below.chain b_V bx
            replace b_Y2 := Below.chain b_Y2 bx
            replace b_Y3 := Below.chain b_Y3 bx
            have b_Y5 := bx
            have m_Y6 : Y5.heap.size ≤ Y6.heap.size := bx.size
            clear bx
            refine ⟨_, rfl, trivial, ?_⟩
            simp only [Act.put, List.setIfInBounds_toArray, List.set_cons_zero, List.set_cons_succ]
            refine held_value 9 _ _ (some 14) (.pointer (some ⟨N, 0, none⟩)) (by kernel_rfl) (by rfl) (by kernel_rfl) (fun w hS => by first | kernel_rfl | go_simp) (fun _ _ _ _ h => h) (trivial) ?_
            simp only [Act.put, List.setIfInBounds_toArray, List.set_cons_zero, List.set_cons_succ]
            refine held_one 10 (by kernel_rfl) ?_
            refine step_store1 10 _ (by rfl) (by kernel_rfl) (Y6.setCell ⟨N, 0, none⟩ (.slice Am mk0.length cm)) (by have h := (rB.go b_V).cell 0; simp only [List.getElem?_cons_zero] at h; have hf := (rB.go b_V).free 0; go_simp) ⟨trivial, ?_⟩
            refine wpAnyH_done (by kernel_rfl) ?_ _
            have F : Shh (Row (Y6.setCell ⟨N, 0, none⟩ (.slice Am mk0.length cm)) N 33 [.slice Am mk0.length cm, .slice Av vB.length cv, .int .i64 c] ∧ Row (Y6.setCell ⟨N, 0, none⟩ (.slice Am mk0.length cm)) (N + 1) 33 [.slice none 0 0, .slice none 0 0, .int .i64 0] ∧ SlO (Y6.setCell ⟨N, 0, none⟩ (.slice Am mk0.length cm)) N (.slice Am mk0.length cm) mk0 ∧ SlO (Y6.setCell ⟨N, 0, none⟩ (.slice Am mk0.length cm)) N (.slice Av vB.length cv) vB ∧ SlO (Y6.setCell ⟨N, 0, none⟩ (.slice Am mk0.length cm)) N (.slice At text.length ct) text ∧ Below N w (Y6.setCell ⟨N, 0, none⟩ (.slice Am mk0.length cm)) ∧ N + 2 ≤ (Y6.setCell ⟨N, 0, none⟩ (.slice Am mk0.length cm)).heap.size) := ⟨(rB.go b_V).set_ 0 _, (rZ.go b_V).other _ _ (by show N + 1 ≠ N; omega), SlO.set ⟨sm, ofm⟩ 0 _, (sV.go b_V).set 0 _, (sT.go b_V).set 0 _, (HV.out.2.2.2.2.2.1.trans (b_V.mono (by have := HV.out.2.2.2.2.2.2; omega))).setCell (Nat.le_refl _) _, Nat.le_trans HV.out.2.2.2.2.2.2 (Nat.le_trans b_V.size (But.setc _ _ _ _).size)⟩
            have FO : Shh (∀ g, g < N → Off g (.slice Am mk0.length cm)) := ⟨ofg⟩
            generalize hnQ : V.heap.size = nQ
            generalize hnP : Y2.heap.size = nP
            generalize hZZ : Y6.setCell ⟨N, 0, none⟩ (.slice Am mk0.length cm) = ZZ at F ⊢
            clear hnQ hnP hZZ
            clear m_Y6 b_Y5 ofg ofm sm m_Y5 b_Y3 sj m_Y3 b_Y2 z_rP rP m_Y2 b_V z_rQ rQ rB rZ sK sV sT c0 c1 hS HV
            revert FO
            revert F
            revert ZZ nQ nP
            revert Am cm
            revert vj
            exact hT.out
          · refine step_call 7 _ _ (some 12) 12 #[.slice (some ⟨Y2.heap.size, 0, none⟩) 3 3] (by rfl) (by kernel_rfl) (by first | kernel_rfl | go_simp) ?_
            refine (refJoin_any Y3.heap.size Y3.heap.size _ [vB, [0], text] Y3 (PartsO.three rP.lt (Nat.ne_of_lt rP.lt) rP (sV.go b_V).1 ((sV.go b_V).1.off (Nat.le_refl _)) (Row.sl (n := 1) (bs := [0]) (rQ.go b_Y2) rfl (by omega)) ((Row.sl (n := 1) (bs := [0]) (rQ.go b_Y2) rfl (by omega)).off (Nat.le_refl _)) (sT.go b_V).1 ((sT.go b_V).1.off (Nat.le_refl _))) (Nat.le_refl _) (by simp; have := HL0.out; omega) (by simp)).mono ?_
            rintro e Y4 ⟨vj, rfl, gj⟩
            have bx : Below Y3.heap.size Y3 Y4 := gj.2
            have sj : Sl Y4 Y4.heap.size vj (vB ++ 0 :: text) := by have := gives_sl gj; simpa using this
            clear gj
            replace b_V := Below.chain b_V bx
            replace b_Y2 := Below.chain b_Y2 bx
            have b_Y3 := bx
            have m_Y4 : Y3.heap.size ≤ Y4.heap.size := bx.size
            clear bx
            refine ⟨_, rfl, trivial, ?_⟩
            simp only [Act.put, List.setIfInBounds_toArray, List.set_cons_zero, List.set_cons_succ]
            refine held_one 1 (by kernel_rfl) ?_
            refine step_value 1 _ _ (some 6) (.slice Ak kB.length ck) Y4 (by rfl) (by kernel_rfl) (by have h := (rB.go b_V).cell 0; simp only [List.getElem?_cons_zero] at h; go_simp) (trivial) ?_
            simp only [Act.put, List.setIfInBounds_toArray, List.set_cons_zero, List.set_cons_succ]
            refine held_one 8 (by kernel_rfl) ?_
            refine step_call 8 _ _ (some 13) 93 #[.slice Ak kB.length ck, vj] (by rfl) (by kernel_rfl) (by first | kernel_rfl | go_simp) ?_
            refine (refMac_any Y4.heap.size _ _ kB (vB ++ 0 :: text) Y4 (sK.go b_V).1 sj (Nat.le_refl _) (by have := HL0.out; omega) (by simp; have := HL0.out; omega)).mono ?_
            rintro e Y6 ⟨vm, rfl, gm⟩
            have bx : Below Y4.heap.size Y4 Y6 := gm.2
            have sm : Sl Y6 Y6.heap.size vm mk0 := by have := gives_sl gm; rw [HM0.out.1]; exact this
            have ofm : Off N vm ∧ Off (N + 1) vm := ⟨gives_off gm N (by have := HV.out.2.2.2.2.2.2; omega), gives_off gm (N + 1) (by have := HV.out.2.2.2.2.2.2; omega)⟩
            have ofg : ∀ g, g < N → Off g vm := fun g hg => gives_off gm g (by have := HV.out.2.2.2.2.2.2; omega)
            clear gm
            obtain ⟨Am, cm, rfl, _, _⟩ := sm.form
            replace b_V := Below.chain b_V bx
            replace b_Y2 := Below.chain b_Y2 bx
            replace b_Y3 := Below.chain b_Y3 bx
            have b_Y4 := bx
            have m_Y6 : Y4.heap.size ≤ Y6.heap.size := bx.size
            clear bx
            refine ⟨_, rfl, trivial, ?_⟩
            simp only [Act.put, List.setIfInBounds_toArray, List.set_cons_zero, List.set_cons_succ]
            refine held_value 9 _ _ (some 14) (.pointer (some ⟨N, 0, none⟩)) (by kernel_rfl) (by rfl) (by kernel_rfl) (fun w hS => by first | kernel_rfl | go_simp) (fun _ _ _ _ h => h) (trivial) ?_
            simp only [Act.put, List.setIfInBounds_toArray, List.set_cons_zero, List.set_cons_succ]
            refine held_one 10 (by kernel_rfl) ?_
            refine step_store1 10 _ (by rfl) (by kernel_rfl) (Y6.setCell ⟨N, 0, none⟩ (.slice Am mk0.length cm)) (by have h := (rB.go b_V).cell 0; simp only [List.getElem?_cons_zero] at h; have hf := (rB.go b_V).free 0; go_simp) ⟨trivial, ?_⟩
            refine wpAnyH_done (by kernel_rfl) ?_ _
            have F : Shh (Row (Y6.setCell ⟨N, 0, none⟩ (.slice Am mk0.length cm)) N 33 [.slice Am mk0.length cm, .slice Av vB.length cv, .int .i64 c] ∧ Row (Y6.setCell ⟨N, 0, none⟩ (.slice Am mk0.length cm)) (N + 1) 33 [.slice none 0 0, .slice none 0 0, .int .i64 0] ∧ SlO (Y6.setCell ⟨N, 0, none⟩ (.slice Am mk0.length cm)) N (.slice Am mk0.length cm) mk0 ∧ SlO (Y6.setCell ⟨N, 0, none⟩ (.slice Am mk0.length cm)) N (.slice Av vB.length cv) vB ∧ SlO (Y6.setCell ⟨N, 0, none⟩ (.slice Am mk0.length cm)) N (.slice At text.length ct) text ∧ Below N w (Y6.setCell ⟨N, 0, none⟩ (.slice Am mk0.length cm)) ∧ N + 2 ≤ (Y6.setCell ⟨N, 0, none⟩ (.slice Am mk0.length cm)).heap.size) := ⟨(rB.go b_V).set_ 0 _, (rZ.go b_V).other _ _ (by show N + 1 ≠ N; omega), SlO.set ⟨sm, ofm⟩ 0 _, (sV.go b_V).set 0 _, (sT.go b_V).set 0 _, (HV.out.2.2.2.2.2.1.trans (b_V.mono (by have := HV.out.2.2.2.2.2.2; omega))).setCell (Nat.le_refl _) _, Nat.le_trans HV.out.2.2.2.2.2.2 (Nat.le_trans b_V.size (But.setc _ _ _ _).size)⟩
            have FO : Shh (∀ g, g < N → Off g (.slice Am mk0.length cm)) := ⟨ofg⟩
            generalize hnQ : V.heap.size = nQ
            generalize hnP : Y2.heap.size = nP
            generalize hZZ : Y6.setCell ⟨N, 0, none⟩ (.slice Am mk0.length cm) = ZZ at F ⊢
            clear hnQ hnP hZZ
            clear m_Y6 b_Y4 ofg ofm sm m_Y4 b_Y3 sj m_Y3 b_Y2 z_rP rP m_Y2 b_V z_rQ rQ rB rZ sK sV sT c0 c1 hS HV
            revert FO
            revert F
            revert ZZ nQ nP
            revert Am cm
            revert vj
            exact hT.out
    · refine step_value 4 _ _ (some 9) (.slice (some ⟨V.heap.size, 0, none⟩) 1 1) (V.alloc (.cells #[.int .u8 0] 5)) (by rfl) (by kernel_rfl) (by first | kernel_rfl | go_simp) (trivial) ?_
      simp only [Act.put, List.setIfInBounds_toArray, List.set_cons_zero, List.set_cons_succ]
      have bx : Below V.heap.size V (V.alloc (.cells #[.int .u8 0] 5)) := Below.alloc (Below.refl _ _) (Nat.le_refl _) _
      have rQ : Row (V.alloc (.cells #[.int .u8 0] 5)) V.heap.size 5 [.int .u8 0] := Row.new_ rfl rfl
      have z_rQ := asz V (.cells #[.int .u8 0] 5)
      generalize V.alloc (.cells #[.int .u8 0] 5) = Y1 at *
      have b_V := bx
      have m_Y1 : V.heap.size ≤ Y1.heap.size := bx.size
      clear bx
      refine held_two 1 3 (by kernel_rfl) ?_ ?_
      · refine step_value 1 _ _ (some 6) (.slice Ak kB.length ck) Y1 (by rfl) (by kernel_rfl) (by have h := (rB.go b_V).cell 0; simp only [List.getElem?_cons_zero] at h; go_simp) (trivial) ?_
        simp only [Act.put, List.setIfInBounds_toArray, List.set_cons_zero, List.set_cons_succ]
        refine held_one 3 (by kernel_rfl) ?_
        refine step_value 3 _ _ (some 8) (.slice Av vB.length cv) Y1 (by rfl) (by kernel_rfl) (by have h := (rB.go b_V).cell 1; simp only [List.getElem?_cons_succ, List.getElem?_cons_zero] at h; go_simp) (trivial) ?_
        simp only [Act.put, List.setIfInBounds_toArray, List.set_cons_zero, List.set_cons_succ]
        refine held_one 6 (by kernel_rfl) ?_
        refine step_value 6 _ _ (some 11) (.slice (some ⟨Y1.heap.size, 0, none⟩) 3 3) (Y1.alloc (.cells #[.slice Av vB.length cv, .slice (some ⟨V.heap.size, 0, none⟩) 1 1, .slice At text.length ct] 22)) (by rfl) (by kernel_rfl) (by first | kernel_rfl | go_simp) (trivial) ?_
        simp only [Act.put, List.setIfInBounds_toArray, List.set_cons_zero, List.set_cons_succ]
        have bx : Below Y1.heap.size Y1 (Y1.alloc (.cells #[.slice Av vB.length cv, .slice (some ⟨V.heap.size, 0, none⟩) 1 1, .slice At text.length ct] 22)) := Below.alloc (Below.refl _ _) (Nat.le_refl _) _
        have rP : Row (Y1.alloc (.cells #[.slice Av vB.length cv, .slice (some ⟨V.heap.size, 0, none⟩) 1 1, .slice At text.length ct] 22)) Y1.heap.size 22 [.slice Av vB.length cv, .slice (some ⟨V.heap.size, 0, none⟩) 1 1, .slice At text.length ct] := Row.new_ rfl rfl
        have z_rP := asz Y1 (.cells #[.slice Av vB.length cv, .slice (some ⟨V.heap.size, 0, none⟩) 1 1, .slice At text.length ct] 22)
        generalize Y1.alloc (.cells #[.slice Av vB.length cv, .slice (some ⟨V.heap.size, 0, none⟩) 1 1, .slice At text.length ct] 22) = Y4 at *
        replace b_V := Below.chain b_V bx
        have b_Y1 := bx
        have m_Y4 : Y1.heap.size ≤ Y4.heap.size := bx.size
        clear bx
        refine held_one 7 (by kernel_rfl) ?_
        refine step_call 7 _ _ (some 12) 12 #[.slice (some ⟨Y1.heap.size, 0, none⟩) 3 3] (by rfl) (by kernel_rfl) (by first | kernel_rfl | go_simp) ?_
        refine (refJoin_any Y4.heap.size Y4.heap.size _ [vB, [0], text] Y4 (PartsO.three rP.lt (Nat.ne_of_lt rP.lt) rP (sV.go b_V).1 ((sV.go b_V).1.off (Nat.le_refl _)) (Row.sl (n := 1) (bs := [0]) (rQ.go b_Y1) rfl (by omega)) ((Row.sl (n := 1) (bs := [0]) (rQ.go b_Y1) rfl (by omega)).off (Nat.le_refl _)) (sT.go b_V).1 ((sT.go b_V).1.off (Nat.le_refl _))) (Nat.le_refl _) (by simp; have := HL0.out; omega) (by simp)).mono ?_
        rintro e Y5 ⟨vj, rfl, gj⟩
        have bx : Below Y4.heap.size Y4 Y5 := gj.2
        have sj : Sl Y5 Y5.heap.size vj (vB ++ 0 :: text) := by have := gives_sl gj; simpa using this
        clear gj
        replace b_V := Below.chain b_V bx
        replace b_Y1 := Below.chain b_Y1 bx
        have b_Y4 := bx
        have m_Y5 : Y4.heap.size ≤ Y5.heap.size := bx.size
        clear bx
        refine ⟨_, rfl, trivial, ?_⟩
        simp only [Act.put, List.setIfInBounds_toArray, List.set_cons_zero, List.set_cons_succ]
        refine held_one 8 (by kernel_rfl) ?_
        refine step_call 8 _ _ (some 13) 93 #[.slice Ak kB.length ck, vj] (by rfl) (by kernel_rfl) (by first | kernel_rfl | go_simp) ?_
        refine (refMac_any Y5.heap.size _ _ kB (vB ++ 0 :: text) Y5 (sK.go b_V).1 sj (Nat.le_refl _) (by have := HL0.out; omega) (by simp; have := HL0.out; omega)).mono ?_
        rintro e Y6 ⟨vm, rfl, gm⟩
        have bx : Below Y5.heap.size Y5 Y6 := gm.2
        have sm : Sl Y6 Y6.heap.size vm mk0 := by have := gives_sl gm; rw [HM0.out.1]; exact this
        have ofm : Off N vm ∧ Off (N + 1) vm := ⟨gives_off gm N (by have := HV.out.2.2.2.2.2.2; omega), gives_off gm (N + 1) (by have := HV.out.2.2.2.2.2.2; omega)⟩
        have ofg : ∀ g, g < N → Off g vm := fun g hg => gives_off gm g (by have := HV.out.2.2.2.2.2.2; omega)
        clear gm
        obtain ⟨Am, cm, rfl, _, _⟩ := sm.form
        replace b_V := Below.chain b_V bx
        replace b_Y1 := Below.chain b_Y1 bx
        replace b_Y4 := Below.chain b_Y4 bx
        have b_Y5 := bx
        have m_Y6 : Y5.heap.size ≤ Y6.heap.size := bx.size
        clear bx
        refine ⟨_, rfl, trivial, ?_⟩
        simp only [Act.put, List.setIfInBounds_toArray, List.set_cons_zero, List.set_cons_succ]
        refine held_value 9 _ _ (some 14) (.pointer (some ⟨N, 0, none⟩)) (by kernel_rfl) (by rfl) (by kernel_rfl) (fun w hS => by first | kernel_rfl | go_simp) (fun _ _ _ _ h => h) (trivial) ?_
        simp only [Act.put, List.setIfInBounds_toArray, List.set_cons_zero, List.set_cons_succ]
        refine held_one 10 (by kernel_rfl) ?_
        refine step_store1 10 _ (by rfl) (by kernel_rfl) (Y6.setCell ⟨N, 0, none⟩ (.slice Am mk0.length cm)) (by have h := (rB.go b_V).cell 0; simp only [List.getElem?_cons_zero] at h; have hf := (rB.go b_V).free 0; go_simp) ⟨trivial, ?_⟩
        refine wpAnyH_done (by kernel_rfl) ?_ _
        have F : Shh (Row (Y6.setCell ⟨N, 0, none⟩ (.slice Am mk0.length cm)) N 33 [.slice Am mk0.length cm, .slice Av vB.length cv, .int .i64 c] ∧ Row (Y6.setCell ⟨N, 0, none⟩ (.slice Am mk0.length cm)) (N + 1) 33 [.slice none 0 0, .slice none 0 0, .int .i64 0] ∧ SlO (Y6.setCell ⟨N, 0, none⟩ (.slice Am mk0.length cm)) N (.slice Am mk0.length cm) mk0 ∧ SlO (Y6.setCell ⟨N, 0, none⟩ (.slice Am mk0.length cm)) N (.slice Av vB.length cv) vB ∧ SlO (Y6.setCell ⟨N, 0, none⟩ (.slice Am mk0.length cm)) N (.slice At text.length ct) text ∧ Below N w (Y6.setCell ⟨N, 0, none⟩ (.slice Am mk0.length cm)) ∧ N + 2 ≤ (Y6.setCell ⟨N, 0, none⟩ (.slice Am mk0.length cm)).heap.size) := ⟨(rB.go b_V).set_ 0 _, (rZ.go b_V).other _ _ (by show N + 1 ≠ N; omega), SlO.set ⟨sm, ofm⟩ 0 _, (sV.go b_V).set 0 _, (sT.go b_V).set 0 _, (HV.out.2.2.2.2.2.1.trans (b_V.mono (by have := HV.out.2.2.2.2.2.2; omega))).setCell (Nat.le_refl _) _, Nat.le_trans HV.out.2.2.2.2.2.2 (Nat.le_trans b_V.size (But.setc _ _ _ _).size)⟩
        have FO : Shh (∀ g, g < N → Off g (.slice Am mk0.length cm)) := ⟨ofg⟩
        generalize hnQ : V.heap.size = nQ
        generalize hnP : Y1.heap.size = nP
        generalize hZZ : Y6.setCell ⟨N, 0, none⟩ (.slice Am mk0.length cm) = ZZ at F ⊢
        clear hnQ hnP hZZ
        clear m_Y6 b_Y5 ofg ofm sm m_Y5 b_Y4 sj m_Y4 b_Y1 z_rP rP m_Y1 b_V z_rQ rQ rB rZ sK sV sT c0 c1 hS HV
        revert FO
        revert F
        revert ZZ nQ nP
        revert Am cm
        revert vj
        exact hT.out
      · refine step_value 3 _ _ (some 8) (.slice Av vB.length cv) Y1 (by rfl) (by kernel_rfl) (by have h := (rB.go b_V).cell 1; simp only [List.getElem?_cons_succ, List.getElem?_cons_zero] at h; go_simp) (trivial) ?_
        simp only [Act.put, List.setIfInBounds_toArray, List.set_cons_zero, List.set_cons_succ]
        refine held_two 1 6 (by kernel_rfl) ?_ ?_
        · refine step_value 1 _ _ (some 6) (.slice Ak kB.length ck) Y1 (by rfl) (by kernel_rfl) (by have h := (rB.go b_V).cell 0; simp only [List.getElem?_cons_zero] at h; go_simp) (trivial) ?_
          simp only [Act.put, List.setIfInBounds_toArray, List.set_cons_zero, List.set_cons_succ]
          refine held_one 6 (by kernel_rfl) ?_
          refine step_value 6 _ _ (some 11) (.slice (some ⟨Y1.heap.size, 0, none⟩) 3 3) (Y1.alloc (.cells #[.slice Av vB.length cv, .slice (some ⟨V.heap.size, 0, none⟩) 1 1, .slice At text.length ct] 22)) (by rfl) (by kernel_rfl) (by first | kernel_rfl | go_simp) (trivial) ?_
          simp only [Act.put, List.setIfInBounds_toArray, List.set_cons_zero, List.set_cons_succ]
          have bx : Below Y1.heap.size Y1 (Y1.alloc (.cells #[.slice Av vB.length cv, .slice (some ⟨V.heap.size, 0, none⟩) 1 1, .slice At text.length ct] 22)) := Below.alloc (Below.refl _ _) (Nat.le_refl _) _
          have rP : Row (Y1.alloc (.cells #[.slice Av vB.length cv, .slice (some ⟨V.heap.size, 0, none⟩) 1 1, .slice At text.length ct] 22)) Y1.heap.size 22 [.slice Av vB.length cv, .slice (some ⟨V.heap.size, 0, none⟩) 1 1, .slice At text.length ct] := Row.new_ rfl rfl
          have z_rP := asz Y1 (.cells #[.slice Av vB.length cv, .slice (some ⟨V.heap.size, 0, none⟩) 1 1, .slice At text.length ct] 22)
          generalize Y1.alloc (.cells #[.slice Av vB.length cv, .slice (some ⟨V.heap.size, 0, none⟩) 1 1, .slice At text.length ct] 22) = Y4 at *
          replace b_V := Below.chain b_V bx
          have b_Y1 := bx
          have m_Y4 : Y1.heap.size ≤ Y4.heap.size := bx.size
          clear bx
          refine held_one 7 (by kernel_rfl) ?_
          refine step_call 7 _ _ (some 12) 12 #[.slice (some ⟨Y1.heap.size, 0, none⟩) 3 3] (by rfl) (by kernel_rfl) (by first | kernel_rfl | go_simp) ?_
          refine (refJoin_any Y4.heap.size Y4.heap.size _ [vB, [0], text] Y4 (PartsO.three rP.lt (Nat.ne_of_lt rP.lt) rP (sV.go b_V).1 ((sV.go b_V).1.off (Nat.le_refl _)) (Row.sl (n := 1) (bs := [0]) (rQ.go b_Y1) rfl (by omega)) ((Row.sl (n := 1) (bs := [0]) (rQ.go b_Y1) rfl (by omega)).off (Nat.le_refl _)) (sT.go b_V).1 ((sT.go b_V).1.off (Nat.le_refl _))) (Nat.le_refl _) (by simp; have := HL0.out; omega) (by simp)).mono ?_
          rintro e Y5 ⟨vj, rfl, gj⟩
          have bx : Below Y4.heap.size Y4 Y5 := gj.2
          have sj : Sl Y5 Y5.heap.size vj (vB ++ 0 :: text) := by have := gives_sl gj; simpa using this
          clear gj
          replace b_V := Below.chain b_V bx
          replace b_Y1 := Below.chain b_Y1 bx
          have b_Y4 := bx
          have m_Y5 : Y4.heap.size ≤ Y5.heap.size := bx.size
          clear bx
          refine ⟨_, rfl, trivial, ?_⟩
          simp only [Act.put, List.setIfInBounds_toArray, List.set_cons_zero, List.set_cons_succ]
          refine held_one 8 (by kernel_rfl) ?_
          refine step_call 8 _ _ (some 13) 93 #[.slice Ak kB.length ck, vj] (by rfl) (by kernel_rfl) (by first | kernel_rfl | go_simp) ?_
          refine (refMac_any Y5.heap.size _ _ kB (vB ++ 0 :: text) Y5 (sK.go b_V).1 sj (Nat.le_refl _) (by have := HL0.out; omega) (by simp; have := HL0.out; omega)).mono ?_
          rintro e Y6 ⟨vm, rfl, gm⟩
          have bx : Below Y5.heap.size Y5 Y6 := gm.2
          have sm : Sl Y6 Y6.heap.size vm mk0 := by have := gives_sl gm; rw [HM0.out.1]; exact this
          have ofm : Off N vm ∧ Off (N + 1) vm := ⟨gives_off gm N (by have := HV.out.2.2.2.2.2.2; omega), gives_off gm (N + 1) (by have := HV.out.2.2.2.2.2.2; omega)⟩
          have ofg : ∀ g, g < N → Off g vm := fun g hg => gives_off gm g (by have := HV.out.2.2.2.2.2.2; omega)
          clear gm
          obtain ⟨Am, cm, rfl, _, _⟩ := sm.form
          replace b_V := Below.chain b_V bx
          replace b_Y1 := Below.chain b_Y1 bx
          replace b_Y4 := Below.chain b_Y4 bx
          have b_Y5 := bx
          have m_Y6 : Y5.heap.size ≤ Y6.heap.size := bx.size
          clear bx
          refine ⟨_, rfl, trivial, ?_⟩
          simp only [Act.put, List.setIfInBounds_toArray, List.set_cons_zero, List.set_cons_succ]
          refine held_value 9 _ _ (some 14) (.pointer (some ⟨N, 0, none⟩)) (by kernel_rfl) (by rfl) (by kernel_rfl) (fun w hS => by first | kernel_rfl | go_simp) (fun _ _ _ _ h => h) (trivial) ?_
          simp only [Act.put, List.setIfInBounds_toArray, List.set_cons_zero, List.set_cons_succ]
          refine held_one 10 (by kernel_rfl) ?_
          refine step_store1 10 _ (by rfl) (by kernel_rfl) (Y6.setCell ⟨N, 0, none⟩ (.slice Am mk0.length cm)) (by have h := (rB.go b_V).cell 0; simp only [List.getElem?_cons_zero] at h; have hf := (rB.go b_V).free 0; go_simp) ⟨trivial, ?_⟩
          refine wpAnyH_done (by kernel_rfl) ?_ _
          have F : Shh (Row (Y6.setCell ⟨N, 0, none⟩ (.slice Am mk0.length cm)) N 33 [.slice Am mk0.length cm, .slice Av vB.length cv, .int .i64 c] ∧ Row (Y6.setCell ⟨N, 0, none⟩ (.slice Am mk0.length cm)) (N + 1) 33 [.slice none 0 0, .slice none 0 0, .int .i64 0] ∧ SlO (Y6.setCell ⟨N, 0, none⟩ (.slice Am mk0.length cm)) N (.slice Am mk0.length cm) mk0 ∧ SlO (Y6.setCell ⟨N, 0, none⟩ (.slice Am mk0.length cm)) N (.slice Av vB.length cv) vB ∧ SlO (Y6.setCell ⟨N, 0, none⟩ (.slice Am mk0.length cm)) N (.slice At text.length ct) text ∧ Below N w (Y6.setCell ⟨N, 0, none⟩ (.slice Am mk0.length cm)) ∧ N + 2 ≤ (Y6.setCell ⟨N, 0, none⟩ (.slice Am mk0.length cm)).heap.size) := ⟨(rB.go b_V).set_ 0 _, (rZ.go b_V).other _ _ (by show N + 1 ≠ N; omega), SlO.set ⟨sm, ofm⟩ 0 _, (sV.go b_V).set 0 _, (sT.go b_V).set 0 _, (HV.out.2.2.2.2.2.1.trans (b_V.mono (by have := HV.out.2.2.2.2.2.2; omega))).setCell (Nat.le_refl _) _, Nat.le_trans HV.out.2.2.2.2.2.2 (Nat.le_trans b_V.size (But.setc _ _ _ _).size)⟩
          have FO : Shh (∀ g, g < N → Off g (.slice Am mk0.length cm)) := ⟨ofg⟩
          generalize hnQ : V.heap.size = nQ
          generalize hnP : Y1.heap.size = nP
          generalize hZZ : Y6.setCell ⟨N, 0, none⟩ (.slice Am mk0.length cm) = ZZ at F ⊢
          clear hnQ hnP hZZ
          clear m_Y6 b_Y5 ofg ofm sm m_Y5 b_Y4 sj m_Y4 b_Y1 z_rP rP m_Y1 b_V z_rQ rQ rB rZ sK sV sT c0 c1 hS HV
          revert FO
          revert F
          revert ZZ nQ nP
          revert Am cm
          revert vj
          exact hT.out
        · refine step_value 6 _ _ (some 11) (.slice (some ⟨Y1.heap.size, 0, none⟩) 3 3) (Y1.alloc (.cells #[.slice Av vB.length cv, .slice (some ⟨V.heap.size, 0, none⟩) 1 1, .slice At text.length ct] 22)) (by rfl) (by kernel_rfl) (by first | kernel_rfl | go_simp) (trivial) ?_
          simp only [Act.put, List.setIfInBounds_toArray, List.set_cons_zero, List.set_cons_succ]
          have bx : Below Y1.heap.size Y1 (Y1.alloc (.cells #[.slice Av vB.length cv, .slice (some ⟨V.heap.size, 0, none⟩) 1 1, .slice At text.length ct] 22)) := Below.alloc (Below.refl _ _) (Nat.le_refl _) _
          have rP : Row (Y1.alloc (.cells #[.slice Av vB.length cv, .slice (some ⟨V.heap.size, 0, none⟩) 1 1, .slice At text.length ct] 22)) Y1.heap.size 22 [.slice Av vB.length cv, .slice (some ⟨V.heap.size, 0, none⟩) 1 1, .slice At text.length ct] := Row.new_ rfl rfl
          have z_rP := asz Y1 (.cells #[.slice Av vB.length cv, .slice (some ⟨V.heap.size, 0, none⟩) 1 1, .slice At text.length ct] 22)
          generalize Y1.alloc (.cells #[.slice Av vB.length cv, .slice (some ⟨V.heap.size, 0, none⟩) 1 1, .slice At text.length ct] 22) = Y3 at *
          replace b_V := Below.chain b_V bx
          have b_Y1 := bx
          have m_Y3 : Y1.heap.size ≤ Y3.heap.size := bx.size
          clear bx
          refine held_two 1 7 (by kernel_rfl) ?_ ?_
          · refine step_value 1 _ _ (some 6) (.slice Ak kB.length ck) Y3 (by rfl) (by kernel_rfl) (by have h := (rB.go b_V).cell 0; simp only [List.getElem?_cons_zero] at h; go_simp) (trivial) ?_
            simp only [Act.put, List.setIfInBounds_toArray, List.set_cons_zero, List.set_cons_succ]
            refine held_one 7 (by kernel_rfl) ?_
            refine step_call 7 _ _ (some 12) 12 #[.slice (some ⟨Y1.heap.size, 0, none⟩) 3 3] (by rfl) (by kernel_rfl) (by first | kernel_rfl | go_simp) ?_
            refine (refJoin_any Y3.heap.size Y3.heap.size _ [vB, [0], text] Y3 (PartsO.three rP.lt (Nat.ne_of_lt rP.lt) rP (sV.go b_V).1 ((sV.go b_V).1.off (Nat.le_refl _)) (Row.sl (n := 1) (bs := [0]) (rQ.go b_Y1) rfl (by omega)) ((Row.sl (n := 1) (bs := [0]) (rQ.go b_Y1) rfl (by omega)).off (Nat.le_refl _)) (sT.go b_V).1 ((sT.go b_V).1.off (Nat.le_refl _))) (Nat.le_refl _) (by simp; have := HL0.out; omega) (by simp)).mono ?_
            rintro e Y5 ⟨vj, rfl, gj⟩
            have bx : Below Y3.heap.size Y3 Y5 := gj.2
            have sj : Sl Y5 Y5.heap.size vj (vB ++ 0 :: text) := by have := gives_sl gj; simpa using this
            clear gj
            replace b_V := Below.chain b_V bx
            replace b_Y1 := Below.chain b_Y1 bx
            have b_Y3 := bx
            have m_Y5 : Y3.heap.size ≤ Y5.heap.size := bx.size
            clear bx
            refine ⟨_, rfl, trivial, ?_⟩
            simp only [Act.put, List.setIfInBounds_toArray, List.set_cons_zero, List.set_cons_succ]
            refine held_one 8 (by kernel_rfl) ?_
            refine step_call 8 _ _ (some 13) 93 #[.slice Ak kB.length ck, vj] (by rfl) (by kernel_rfl) (by first | kernel_rfl | go_simp) ?_
            refine (refMac_any Y5.heap.size _ _ kB (vB ++ 0 :: text) Y5 (sK.go b_V).1 sj (Nat.le_refl _) (by have := HL0.out; omega) (by simp; have := HL0.out; omega)).mono ?_
            rintro e Y6 ⟨vm, rfl, gm⟩
            have bx : Below Y5.heap.size Y5 Y6 := gm.2
            have sm : Sl Y6 Y6.heap.size vm mk0 := by have := gives_sl gm; rw [HM0.out.1]; exact this
            have ofm : Off N vm ∧ Off (N + 1) vm := ⟨gives_off gm N (by have := HV.out.2.2.2.2.2.2; omega), gives_off gm (N + 1) (by have := HV.out.2.2.2.2.2.2; omega)⟩
            have ofg : ∀ g, g < N → Off g vm := fun g hg => gives_off gm g (by have := HV.out.2.2.2.2.2.2; omega)
            clear gm
            obtain ⟨Am, cm, rfl, _, _⟩ := sm.form
            replace b_V := Below.chain b_V bx
            replace b_Y1 := Below.chain b_Y1 bx
            replace b_Y3 := Below.chain b_Y3 bx
            have b_Y5 := bx
            have m_Y6 : Y5.heap.size ≤ Y6.heap.size := bx.size
            clear bx
            refine ⟨_, rfl, trivial, ?_⟩
            simp only [Act.put, List.setIfInBounds_toArray, List.set_cons_zero, List.set_cons_succ]
            refine held_value 9 _ _ (some 14) (.pointer (some ⟨N, 0, none⟩)) (by kernel_rfl) (by rfl) (by kernel_rfl) (fun w hS => by first | kernel_rfl | go_simp) (fun _ _ _ _ h => h) (trivial) ?_
            simp only [Act.put, List.setIfInBounds_toArray, List.set_cons_zero, List.set_cons_succ]
            refine held_one 10 (by kernel_rfl) ?_
            refine step_store1 10 _ (by rfl) (by kernel_rfl) (Y6.setCell ⟨N, 0, none⟩ (.slice Am mk0.length cm)) (by have h := (rB.go b_V).cell 0; simp only [List.getElem?_cons_zero] at h; have hf := (rB.go b_V).free 0; go_simp) ⟨trivial, ?_⟩
            refine wpAnyH_done (by kernel_rfl) ?_ _
            have F : Shh (Row (Y6.setCell ⟨N, 0, none⟩ (.slice Am mk0.length cm)) N 33 [.slice Am mk0.length cm, .slice Av vB.length cv, .int .i64 c] ∧ Row (Y6.setCell ⟨N, 0, none⟩ (.slice Am mk0.length cm)) (N + 1) 33 [.slice none 0 0, .slice none 0 0, .int .i64 0] ∧ SlO (Y6.setCell ⟨N, 0, none⟩ (.slice Am mk0.length cm)) N (.slice Am mk0.length cm) mk0 ∧ SlO (Y6.setCell ⟨N, 0, none⟩ (.slice Am mk0.length cm)) N (.slice Av vB.length cv) vB ∧ SlO (Y6.setCell ⟨N, 0, none⟩ (.slice Am mk0.length cm)) N (.slice At text.length ct) text ∧ Below N w (Y6.setCell ⟨N, 0, none⟩ (.slice Am mk0.length cm)) ∧ N + 2 ≤ (Y6.setCell ⟨N, 0, none⟩ (.slice Am mk0.length cm)).heap.size) := ⟨(rB.go b_V).set_ 0 _, (rZ.go b_V).other _ _ (by show N + 1 ≠ N; omega), SlO.set ⟨sm, ofm⟩ 0 _, (sV.go b_V).set 0 _, (sT.go b_V).set 0 _, (HV.out.2.2.2.2.2.1.trans (b_V.mono (by have := HV.out.2.2.2.2.2.2; omega))).setCell (Nat.le_refl _) _, Nat.le_trans HV.out.2.2.2.2.2.2 (Nat.le_trans b_V.size (But.setc _ _ _ _).size)⟩
            have FO : Shh (∀ g, g < N → Off g (.slice Am mk0.length cm)) := ⟨ofg⟩
            generalize hnQ : V.heap.size = nQ
            generalize hnP : Y1.heap.size = nP
            generalize hZZ : Y6.setCell ⟨N, 0, none⟩ (.slice Am mk0.length cm) = ZZ at F ⊢
            clear hnQ hnP hZZ
            clear m_Y6 b_Y5 ofg ofm sm m_Y5 b_Y3 sj m_Y3 b_Y1 z_rP rP m_Y1 b_V z_rQ rQ rB rZ sK sV sT c0 c1 hS HV
            revert FO
            revert F
            revert ZZ nQ nP
            revert Am cm
            revert vj
            exact hT.out
          · refine step_call 7 _ _ (some 12) 12 #[.slice (some ⟨Y1.heap.size, 0, none⟩) 3 3] (by rfl) (by kernel_rfl) (by first | kernel_rfl | go_simp) ?_
            refine (refJoin_any Y3.heap.size Y3.heap.size _ [vB, [0], text] Y3 (PartsO.three rP.lt (Nat.ne_of_lt rP.lt) rP (sV.go b_V).1 ((sV.go b_V).1.off (Nat.le_refl _)) (Row.sl (n := 1) (bs := [0]) (rQ.go b_Y1) rfl (by omega)) ((Row.sl (n := 1) (bs := [0]) (rQ.go b_Y1) rfl (by omega)).off (Nat.le_refl _)) (sT.go b_V).1 ((sT.go b_V).1.off (Nat.le_refl _))) (Nat.le_refl _) (by simp; have := HL0.out; omega) (by simp)).mono ?_
            rintro e Y4 ⟨vj, rfl, gj⟩
            have bx : Below Y3.heap.size Y3 Y4 := gj.2
            have sj : Sl Y4 Y4.heap.size vj (vB ++ 0 :: text) := by have := gives_sl gj; simpa using this
            clear gj
            replace b_V := Below.chain b_V bx
            replace b_Y1 := Below.chain b_Y1 bx
            have b_Y3 := bx
            have m_Y4 : Y3.heap.size ≤ Y4.heap.size := bx.size
            clear bx
            refine ⟨_, rfl, trivial, ?_⟩
            simp only [Act.put, List.setIfInBounds_toArray, List.set_cons_zero, List.set_cons_succ]
            refine held_one 1 (by kernel_rfl) ?_
            refine step_value 1 _ _ (some 6) (.slice Ak kB.length ck) Y4 (by rfl) (by kernel_rfl) (by have h := (rB.go b_V).cell 0; simp only [List.getElem?_cons_zero] at h; go_simp) (trivial) ?_
            simp only [Act.put, List.setIfInBounds_toArray, List.set_cons_zero, List.set_cons_succ]
            refine held_one 8 (by kernel_rfl) ?_
            refine step_call 8 _ _ (some 13) 93 #[.slice Ak kB.length ck, vj] (by rfl) (by kernel_rfl) (by first | kernel_rfl | go_simp) ?_
            refine (refMac_any Y4.heap.size _ _ kB (vB ++ 0 :: text) Y4 (sK.go b_V).1 sj (Nat.le_refl _) (by have := HL0.out; omega) (by simp; have := HL0.out; omega)).mono ?_
            rintro e Y6 ⟨vm, rfl, gm⟩
            have bx : Below Y4.heap.size Y4 Y6 := gm.2
            have sm : Sl Y6 Y6.heap.size vm mk0 := by have := gives_sl gm; rw [HM0.out.1]; exact this
            have ofm : Off N vm ∧ Off (N + 1) vm := ⟨gives_off gm N (by have := HV.out.2.2.2.2.2.2; omega), gives_off gm (N + 1) (by have := HV.out.2.2.2.2.2.2; omega)⟩
            have ofg : ∀ g, g < N → Off g vm := fun g hg => gives_off gm g (by have := HV.out.2.2.2.2.2.2; omega)
            clear gm
            obtain ⟨Am, cm, rfl, _, _⟩ := sm.form
            replace b_V := Below.chain b_V bx
            replace b_Y1 := Below.chain b_Y1 bx
            replace b_Y3 := Below.chain b_Y3 bx
            have b_Y4 := bx
            have m_Y6 : Y4.heap.size ≤ Y6.heap.size := bx.size
            clear bx
            refine ⟨_, rfl, trivial, ?_⟩
            simp only [Act.put, List.setIfInBounds_toArray, List.set_cons_zero, List.set_cons_succ]
            refine held_value 9 _ _ (some 14) (.pointer (some ⟨N, 0, none⟩)) (by kernel_rfl) (by rfl) (by kernel_rfl) (fun w hS => by first | kernel_rfl | go_simp) (fun _ _ _ _ h => h) (trivial) ?_
            simp only [Act.put, List.setIfInBounds_toArray, List.set_cons_zero, List.set_cons_succ]
            refine held_one 10 (by kernel_rfl) ?_
            refine step_store1 10 _ (by rfl) (by kernel_rfl) (Y6.setCell ⟨N, 0, none⟩ (.slice Am mk0.length cm)) (by have h := (rB.go b_V).cell 0; simp only [List.getElem?_cons_zero] at h; have hf := (rB.go b_V).free 0; go_simp) ⟨trivial, ?_⟩
            refine wpAnyH_done (by kernel_rfl) ?_ _
            have F : Shh (Row (Y6.setCell ⟨N, 0, none⟩ (.slice Am mk0.length cm)) N 33 [.slice Am mk0.length cm, .slice Av vB.length cv, .int .i64 c] ∧ Row (Y6.setCell ⟨N, 0, none⟩ (.slice Am mk0.length cm)) (N + 1) 33 [.slice none 0 0, .slice none 0 0, .int .i64 0] ∧ SlO (Y6.setCell ⟨N, 0, none⟩ (.slice Am mk0.length cm)) N (.slice Am mk0.length cm) mk0 ∧ SlO (Y6.setCell ⟨N, 0, none⟩ (.slice Am mk0.length cm)) N (.slice Av vB.length cv) vB ∧ SlO (Y6.setCell ⟨N, 0, none⟩ (.slice Am mk0.length cm)) N (.slice At text.length ct) text ∧ Below N w (Y6.setCell ⟨N, 0, none⟩ (.slice Am mk0.length cm)) ∧ N + 2 ≤ (Y6.setCell ⟨N, 0, none⟩ (.slice Am mk0.length cm)).heap.size) := ⟨(rB.go b_V).set_ 0 _, (rZ.go b_V).other _ _ (by show N + 1 ≠ N; omega), SlO.set ⟨sm, ofm⟩ 0 _, (sV.go b_V).set 0 _, (sT.go b_V).set 0 _, (HV.out.2.2.2.2.2.1.trans (b_V.mono (by have := HV.out.2.2.2.2.2.2; omega))).setCell (Nat.le_refl _) _, Nat.le_trans HV.out.2.2.2.2.2.2 (Nat.le_trans b_V.size (But.setc _ _ _ _).size)⟩
            have FO : Shh (∀ g, g < N → Off g (.slice Am mk0.length cm)) := ⟨ofg⟩
            generalize hnQ : V.heap.size = nQ
            generalize hnP : Y1.heap.size = nP
            generalize hZZ : Y6.setCell ⟨N, 0, none⟩ (.slice Am mk0.length cm) = ZZ at F ⊢
            clear hnQ hnP hZZ
            clear m_Y6 b_Y4 ofg ofm sm m_Y4 b_Y3 sj m_Y3 b_Y1 z_rP rP m_Y1 b_V z_rQ rQ rB rZ sK sV sT c0 c1 hS HV
            revert FO
            revert F
            revert ZZ nQ nP
            revert Am cm
            revert vj
            exact hT.out
  case tt0 =>
    intro vj Am0 cm0 _ _ nQ nP X0 F0 FO0
    clear HA
    have d0 := F0.out.1.cell 0
    have d1 := F0.out.1.cell 1
    have df := F0.out.1.free 1
    go_wp2_with (go_at_call 93; refine (refMac_any _ _ _ mk0 vB X0 F0.out.2.2.1.1 F0.out.2.2.2.1.1 (Nat.le_refl _) (by have := HL0b.out; omega) (by have := HL0.out; omega)).mono ?_)
    rintro e Y ⟨vn, rfl, gn⟩
    have sn : Sl Y Y.heap.size vn mv0 := by have := gives_sl gn; rw [HM0.out.2]; exact this
    have ofn : Off N vn ∧ Off (N + 1) vn := ⟨gives_off gn N (by have := F0.out.2.2.2.2.2.2; omega), gives_off gn (N + 1) (by have := F0.out.2.2.2.2.2.2; omega)⟩
    obtain ⟨An0, cn0, rfl, _, _⟩ := sn.form
    have G0 : Shh (Row (Y.setCell ⟨N, 1, none⟩ (.slice An0 mv0.length cn0)) N 33 [.slice Am0 mk0.length cm0, .slice An0 mv0.length cn0, .int .i64 c] ∧ Row (Y.setCell ⟨N, 1, none⟩ (.slice An0 mv0.length cn0)) (N + 1) 33 [.slice none 0 0, .slice none 0 0, .int .i64 0] ∧ SlO (Y.setCell ⟨N, 1, none⟩ (.slice An0 mv0.length cn0)) N (.slice Am0 mk0.length cm0) mk0 ∧ SlO (Y.setCell ⟨N, 1, none⟩ (.slice An0 mv0.length cn0)) N (.slice An0 mv0.length cn0) mv0 ∧ SlO (Y.setCell ⟨N, 1, none⟩ (.slice An0 mv0.length cn0)) N (.slice At text.length ct) text ∧ Below N w (Y.setCell ⟨N, 1, none⟩ (.slice An0 mv0.length cn0)) ∧ N + 2 ≤ (Y.setCell ⟨N, 1, none⟩ (.slice An0 mv0.length cn0)).heap.size) :=
      ⟨(F0.out.1.go gn.2).set_ 1 _, (F0.out.2.1.go gn.2).other _ _ (by show N + 1 ≠ N; omega), (F0.out.2.2.1.go gn.2).set 1 _, SlO.set ⟨sn, ofn⟩ 1 _, (F0.out.2.2.2.2.1.go gn.2).set 1 _, (F0.out.2.2.2.2.2.1.trans (gn.2.mono (by have := F0.out.2.2.2.2.2.2; omega))).setCell (Nat.le_refl _) _, Nat.le_trans F0.out.2.2.2.2.2.2 (Nat.le_trans gn.2.size (But.setc _ _ _ _).size)⟩
    have GO0 : Shh (∀ g, g < N → Off g (.slice An0 mv0.length cn0)) := ⟨fun g hg => gives_off gn g (by have := F0.out.2.2.2.2.2.2; omega)⟩
    have d1y := (F0.out.1.go gn.2).cell 1
    have dfy := (F0.out.1.go gn.2).free 1
    simp only [List.getElem?_cons_succ, List.getElem?_cons_zero] at d1y
    clear sn gn ofn d0 d1 df F0
    go_wp2_with (refine wl_store1 rfl rfl (Y.setCell ⟨N, 1, none⟩ (.slice An0 mv0.length cn0)) (by go_simp) ?_)
    intro Z0 hZ
    rw [← hZ] at G0
    clear hZ d1y dfy
    by_cases ht0 : text = []
    · have hl0 : ¬ 0 < text.length := by rw [ht0]; simp
      have HQ : Shh (keyL (updL text s) = mk0 ∧ valL (updL text s) = mv0) := ⟨by rw [HM0.out.2, HM0.out.1, HKV.out.1, HKV.out.2.1, ht0]; exact updL_nil s hs⟩
      go_wp2_with (first | refine wpList_load_any rfl 33 (.tmp 2) rfl N rfl 33 [.slice Am0 mk0.length cm0, .slice An0 mv0.length cn0, .int .i64 c] _ G0.out.1 Tryd.underlying33 rfl info_rd ?_ | refine wpList_store_any rfl 33 (.tmp 4) (.tmp 40) rfl (N + 1) rfl [.slice Am0 mk0.length cm0, .slice An0 mv0.length cn0, .int .i64 c] rfl 33 [.slice none 0 0, .slice none 0 0, .int .i64 0] G0.out.2.1 info_rd rfl cell_slices ?_)
      intro Z hrZ btZ _
      have HE : Shh (Row Z (N + 1) 33 [.slice Am0 mk0.length cm0, .slice An0 mv0.length cn0, .int .i64 c] ∧ keyL (updL text s) = mk0 ∧ valL (updL text s) = mv0 ∧ Sl Z Z.heap.size (.slice Am0 mk0.length cm0) mk0 ∧ Sl Z Z.heap.size (.slice An0 mv0.length cn0) mv0 ∧ Below N w Z) :=
        ⟨hrZ, (HQ.out).1, (HQ.out).2, (G0.out.2.2.1.1.but G0.out.2.2.1.2.2 btZ).more btZ.size, (G0.out.2.2.2.1.1.but G0.out.2.2.2.1.2.2 btZ).more btZ.size, G0.out.2.2.2.2.2.1.trans (btZ.under (by have := G0.out.2.2.2.2.2.2; omega) (by omega))⟩
      clear hrZ btZ G0
      go_wp2
      exact ret_row Tryd.results52 rfl rfl HE.out.1 Tryd.underlying33 rfl info_rd ⟨_, _, rfl, by rw [HE.out.2.1]; exact HE.out.2.2.2.1, by rw [HE.out.2.2.1]; exact HE.out.2.2.2.2.1, by rw [hN]; exact HE.out.2.2.2.2.2, fun g hg => ⟨FO0.out g (by omega), GO0.out g (by omega)⟩⟩
    · have hl0 : 0 < text.length := List.length_pos_iff.2 ht0
      obtain ⟨mk1, hmk1⟩ : ∃ m, m = macB mk0 (mv0 ++ 1 :: text) := ⟨_, rfl⟩
      obtain ⟨mv1, hmv1⟩ : ∃ m, m = macB mk1 mv0 := ⟨_, rfl⟩
      have HM1 : Shh (mk1 = macB mk0 (mv0 ++ 1 :: text) ∧ mv1 = macB mk1 mv0) := ⟨hmk1, hmv1⟩
      have HL1 : Shh (mv0.length = 32 ∧ mk0.length = 32 ∧ text.length ≤ 400000) := ⟨HL0b.out.2, HL0b.out.1, htl⟩
      have HL1b : Shh (mk1.length = 32 ∧ mv1.length = 32) := ⟨by rw [hmk1]; exact macB_length _ _, by rw [hmv1]; exact macB_length _ _⟩
      have HQ : Shh (keyL (updL text s) = mk1 ∧ valL (updL text s) = mv1) := ⟨updL_cons text s hs ht0 mk0 mv0 mk1 mv1 (by rw [← HKV.out.1, ← HKV.out.2.1]; exact HM0.out) HM1.out⟩
      clear hmk1 hmv1 ht0
      have HB : Shh (Row Z0.drew N 33 [.slice Am0 mk0.length cm0, .slice An0 mv0.length cn0, .int .i64 c] ∧ Row Z0.drew (N + 1) 33 [.slice none 0 0, .slice none 0 0, .int .i64 0] ∧ SlO Z0.drew N (.slice Am0 mk0.length cm0) mk0 ∧ SlO Z0.drew N (.slice An0 mv0.length cn0) mv0 ∧ SlO Z0.drew N (.slice At text.length ct) text ∧ Below N w Z0.drew ∧ N + 2 ≤ Z0.drew.heap.size) :=
        ⟨G0.out.1.drew, G0.out.2.1.drew, G0.out.2.2.1, G0.out.2.2.2.1, G0.out.2.2.2.2.1, G0.out.2.2.2.2.2.1.drew, G0.out.2.2.2.2.2.2⟩
      clear G0 HM0 HKV
      go_wp2
      refine share (T := ?T1) (fun hT => ?gg1) ?tt1
      case gg1 =>
        refine wp_region_held_drew (S := fun _ => True) (by kernel_rfl) trivial (fun hS => ?_)
        have HV := HB
        generalize World.drew _ = V at HV ⊢
        have rB := HV.out.1
        have rZ := HV.out.2.1
        have sK := HV.out.2.2.1
        have sV := HV.out.2.2.2.1
        have sT := HV.out.2.2.2.2.1
        have c0 := rB.cell 0
        have c1 := rB.cell 1
        refine held_value 0 _ _ (some 24) (.pointer (some ⟨N, 0, none⟩)) (by kernel_rfl) (by rfl) (by kernel_rfl) (fun w hS => by first | kernel_rfl | go_simp) (fun _ _ _ _ h => h) (trivial) ?_
        simp only [Act.put, List.setIfInBounds_toArray, List.set_cons_zero, List.set_cons_succ]
        refine held_value 2 _ _ (some 26) (.pointer (some ⟨N, 1, none⟩)) (by kernel_rfl) (by rfl) (by kernel_rfl) (fun w hS => by first | kernel_rfl | go_simp) (fun _ _ _ _ h => h) (trivial) ?_
        simp only [Act.put, List.setIfInBounds_toArray, List.set_cons_zero, List.set_cons_succ]
        refine held_value 5 _ _ (some 29) (.slice At text.length ct) (by kernel_rfl) (by rfl) (by kernel_rfl) (fun w hS => by first | kernel_rfl | go_simp) (fun _ _ _ _ h => h) (trivial) ?_
        simp only [Act.put, List.setIfInBounds_toArray, List.set_cons_zero, List.set_cons_succ]
        refine held_three 1 3 4 (by kernel_rfl) ?_ ?_ ?_
        · refine step_value 1 _ _ (some 25) (.slice Am0 mk0.length cm0) V (by rfl) (by kernel_rfl) (by have h := rB.cell 0; simp only [List.getElem?_cons_zero] at h; go_simp) (trivial) ?_
          simp only [Act.put, List.setIfInBounds_toArray, List.set_cons_zero, List.set_cons_succ]
          refine held_two 3 4 (by kernel_rfl) ?_ ?_
          · refine step_value 3 _ _ (some 27) (.slice An0 mv0.length cn0) V (by rfl) (by kernel_rfl) (by have h := rB.cell 1; simp only [List.getElem?_cons_succ, List.getElem?_cons_zero] at h; go_simp) (trivial) ?_
            simp only [Act.put, List.setIfInBounds_toArray, List.set_cons_zero, List.set_cons_succ]
            refine held_one 4 (by kernel_rfl) ?_
            refine step_value 4 _ _ (some 28) (.slice (some ⟨V.heap.size, 0, none⟩) 1 1) (V.alloc (.cells #[.int .u8 1] 5)) (by rfl) (by kernel_rfl) (by first | kernel_rfl | go_simp) (trivial) ?_
            simp only [Act.put, List.setIfInBounds_toArray, List.set_cons_zero, List.set_cons_succ]
            have bx : Below V.heap.size V (V.alloc (.cells #[.int .u8 1] 5)) := Below.alloc (Below.refl _ _) (Nat.le_refl _) _
            have rQ : Row (V.alloc (.cells #[.int .u8 1] 5)) V.heap.size 5 [.int .u8 1] := Row.new_ rfl rfl
            have z_rQ := asz V (.cells #[.int .u8 1] 5)
            generalize V.alloc (.cells #[.int .u8 1] 5) = Y3 at *
            have b_V := bx
            have m_Y3 : V.heap.size ≤ Y3.heap.size := bx.size
            clear bx
            refine held_one 6 (by kernel_rfl) ?_
            refine step_value 6 _ _ (some 30) (.slice (some ⟨Y3.heap.size, 0, none⟩) 3 3) (Y3.alloc (.cells #[.slice An0 mv0.length cn0, .slice (some ⟨V.heap.size, 0, none⟩) 1 1, .slice At text.length ct] 22)) (by rfl) (by kernel_rfl) (by first | kernel_rfl | go_simp) (trivial) ?_
            simp only [Act.put, List.setIfInBounds_toArray, List.set_cons_zero, List.set_cons_succ]
            have bx : Below Y3.heap.size Y3 (Y3.alloc (.cells #[.slice An0 mv0.length cn0, .slice (some ⟨V.heap.size, 0, none⟩) 1 1, .slice At text.length ct] 22)) := Below.alloc (Below.refl _ _) (Nat.le_refl _) _
            have rP : Row (Y3.alloc (.cells #[.slice An0 mv0.length cn0, .slice (some ⟨V.heap.size, 0, none⟩) 1 1, .slice At text.length ct] 22)) Y3.heap.size 22 [.slice An0 mv0.length cn0, .slice (some ⟨V.heap.size, 0, none⟩) 1 1, .slice At text.length ct] := Row.new_ rfl rfl
            have z_rP := asz Y3 (.cells #[.slice An0 mv0.length cn0, .slice (some ⟨V.heap.size, 0, none⟩) 1 1, .slice At text.length ct] 22)
            generalize Y3.alloc (.cells #[.slice An0 mv0.length cn0, .slice (some ⟨V.heap.size, 0, none⟩) 1 1, .slice At text.length ct] 22) = Y4 at *
            replace b_V := Below.chain b_V bx
            have b_Y3 := bx
            have m_Y4 : Y3.heap.size ≤ Y4.heap.size := bx.size
            clear bx
            refine held_one 7 (by kernel_rfl) ?_
            refine step_call 7 _ _ (some 31) 12 #[.slice (some ⟨Y3.heap.size, 0, none⟩) 3 3] (by rfl) (by kernel_rfl) (by first | kernel_rfl | go_simp) ?_
            refine (refJoin_any Y4.heap.size Y4.heap.size _ [mv0, [1], text] Y4 (PartsO.three rP.lt (Nat.ne_of_lt rP.lt) rP (sV.go b_V).1 ((sV.go b_V).1.off (Nat.le_refl _)) (Row.sl (n := 1) (bs := [1]) (rQ.go b_Y3) rfl (by omega)) ((Row.sl (n := 1) (bs := [1]) (rQ.go b_Y3) rfl (by omega)).off (Nat.le_refl _)) (sT.go b_V).1 ((sT.go b_V).1.off (Nat.le_refl _))) (Nat.le_refl _) (by simp; have := HL1.out; omega) (by simp)).mono ?_
            rintro e Y5 ⟨vj, rfl, gj⟩
            have bx : Below Y4.heap.size Y4 Y5 := gj.2
            have sj : Sl Y5 Y5.heap.size vj (mv0 ++ 1 :: text) := by have := gives_sl gj; simpa using this
            clear gj
            replace b_V := Below.chain b_V bx
            replace b_Y3 := Below.chain b_Y3 bx
            have b_Y4 := bx
            have m_Y5 : Y4.heap.size ≤ Y5.heap.size := bx.size
            clear bx
            refine ⟨_, rfl, trivial, ?_⟩
            simp only [Act.put, List.setIfInBounds_toArray, List.set_cons_zero, List.set_cons_succ]
            refine held_one 8 (by kernel_rfl) ?_
            refine step_call 8 _ _ (some 32) 93 #[.slice Am0 mk0.length cm0, vj] (by rfl) (by kernel_rfl) (by first | kernel_rfl | go_simp) ?_
            refine (refMac_any Y5.heap.size _ _ mk0 (mv0 ++ 1 :: text) Y5 (sK.go b_V).1 sj (Nat.le_refl _) (by have := HL1.out; omega) (by simp; have := HL1.out; omega)).mono ?_
            rintro e Y6 ⟨vm, rfl, gm⟩
            have bx : Below Y5.heap.size Y5 Y6 := gm.2
            have sm : Sl Y6 Y6.heap.size vm mk1 := by have := gives_sl gm; rw [HM1.out.1]; exact this
            have ofm : Off N vm ∧ Off (N + 1) vm := ⟨gives_off gm N (by have := HV.out.2.2.2.2.2.2; omega), gives_off gm (N + 1) (by have := HV.out.2.2.2.2.2.2; omega)⟩
            have ofg : ∀ g, g < N → Off g vm := fun g hg => gives_off gm g (by have := HV.out.2.2.2.2.2.2; omega)
            clear gm
            obtain ⟨Am, cm, rfl, _, _⟩ := sm.form
            replace b_V := Below.chain b_V bx
            replace b_Y3 := Below.chain b_Y3 bx
            replace b_Y4 := Below.chain b_Y4 bx
            have b_Y5 := bx
            have m_Y6 : Y5.heap.size ≤ Y6.heap.size := bx.size
            clear bx
            refine ⟨_, rfl, trivial, ?_⟩
            simp only [Act.put, List.setIfInBounds_toArray, List.set_cons_zero, List.set_cons_succ]
            refine held_value 9 _ _ (some 33) (.pointer (some ⟨N, 0, none⟩)) (by kernel_rfl) (by rfl) (by kernel_rfl) (fun w hS => by first | kernel_rfl | go_simp) (fun _ _ _ _ h => h) (trivial) ?_
            simp only [Act.put, List.setIfInBounds_toArray, List.set_cons_zero, List.set_cons_succ]
            refine held_one 10 (by kernel_rfl) ?_
            refine step_store1 10 _ (by rfl) (by kernel_rfl) (Y6.setCell ⟨N, 0, none⟩ (.slice Am mk1.length cm)) (by have h := (rB.go b_V).cell 0; simp only [List.getElem?_cons_zero] at h; have hf := (rB.go b_V).free 0; go_simp) ⟨trivial, ?_⟩
            refine wpAnyH_done (by kernel_rfl) ?_ _
            have F : Shh (Row (Y6.setCell ⟨N, 0, none⟩ (.slice Am mk1.length cm)) N 33 [.slice Am mk1.length cm, .slice An0 mv0.length cn0, .int .i64 c] ∧ Row (Y6.setCell ⟨N, 0, none⟩ (.slice Am mk1.length cm)) (N + 1) 33 [.slice none 0 0, .slice none 0 0, .int .i64 0] ∧ SlO (Y6.setCell ⟨N, 0, none⟩ (.slice Am mk1.length cm)) N (.slice Am mk1.length cm) mk1 ∧ SlO (Y6.setCell ⟨N, 0, none⟩ (.slice Am mk1.length cm)) N (.slice An0 mv0.length cn0) mv0 ∧ SlO (Y6.setCell ⟨N, 0, none⟩ (.slice Am mk1.length cm)) N (.slice At text.length ct) text ∧ Below N w (Y6.setCell ⟨N, 0, none⟩ (.slice Am mk1.length cm)) ∧ N + 2 ≤ (Y6.setCell ⟨N, 0, none⟩ (.slice Am mk1.length cm)).heap.size) := ⟨(rB.go b_V).set_ 0 _, (rZ.go b_V).other _ _ (by show N + 1 ≠ N; omega), SlO.set ⟨sm, ofm⟩ 0 _, (sV.go b_V).set 0 _, (sT.go b_V).set 0 _, (HV.out.2.2.2.2.2.1.trans (b_V.mono (by have := HV.out.2.2.2.2.2.2; omega))).setCell (Nat.le_refl _) _, Nat.le_trans HV.out.2.2.2.2.2.2 (Nat.le_trans b_V.size (But.setc _ _ _ _).size)⟩
            have FO : Shh (∀ g, g < N → Off g (.slice Am mk1.length cm)) := ⟨ofg⟩
            generalize hnQ : V.heap.size = nQ
            generalize hnP : Y3.heap.size = nP
            generalize hZZ : Y6.setCell ⟨N, 0, none⟩ (.slice Am mk1.length cm) = ZZ at F ⊢
            clear hnQ hnP hZZ
            clear m_Y6 b_Y5 ofg ofm sm m_Y5 b_Y4 sj m_Y4 b_Y3 z_rP rP m_Y3 b_V z_rQ rQ rB rZ sK sV sT c0 c1 hS HV
            revert FO
            revert F
            revert ZZ nQ nP
            revert Am cm
            revert vj
            exact hT.out
          · refine step_value 4 _ _ (some 28) (.slice (some ⟨V.heap.size, 0, none⟩) 1 1) (V.alloc (.cells #[.int .u8 1] 5)) (by rfl) (by kernel_rfl) (by first | kernel_rfl | go_simp) (trivial) ?_
            simp only [Act.put, List.setIfInBounds_toArray, List.set_cons_zero, List.set_cons_succ]
            have bx : Below V.heap.size V (V.alloc (.cells #[.int .u8 1] 5)) := Below.alloc (Below.refl _ _) (Nat.le_refl _) _
            have rQ : Row (V.alloc (.cells #[.int .u8 1] 5)) V.heap.size 5 [.int .u8 1] := Row.new_ rfl rfl
            have z_rQ := asz V (.cells #[.int .u8 1] 5)
            generalize V.alloc (.cells #[.int .u8 1] 5) = Y2 at *
            have b_V := bx
            have m_Y2 : V.heap.size ≤ Y2.heap.size := bx.size
            clear bx
            refine held_one 3 (by kernel_rfl) ?_
            refine step_value 3 _ _ (some 27) (.slice An0 mv0.length cn0) Y2 (by rfl) (by kernel_rfl) (by have h := (rB.go b_V).cell 1; simp only [List.getElem?_cons_succ, List.getElem?_cons_zero] at h; go_simp) (trivial) ?_
            simp only [Act.put, List.setIfInBounds_toArray, List.set_cons_zero, List.set_cons_succ]
            refine held_one 6 (by kernel_rfl) ?_
            refine step_value 6 _ _ (some 30) (.slice (some ⟨Y2.heap.size, 0, none⟩) 3 3) (Y2.alloc (.cells #[.slice An0 mv0.length cn0, .slice (some ⟨V.heap.size, 0, none⟩) 1 1, .slice At text.length ct] 22)) (by rfl) (by kernel_rfl) (by first | kernel_rfl | go_simp) (trivial) ?_
            simp only [Act.put, List.setIfInBounds_toArray, List.set_cons_zero, List.set_cons_succ]
            have bx : Below Y2.heap.size Y2 (Y2.alloc (.cells #[.slice An0 mv0.length cn0, .slice (some ⟨V.heap.size, 0, none⟩) 1 1, .slice At text.length ct] 22)) := Below.alloc (Below.refl _ _) (Nat.le_refl _) _
            have rP : Row (Y2.alloc (.cells #[.slice An0 mv0.length cn0, .slice (some ⟨V.heap.size, 0, none⟩) 1 1, .slice At text.length ct] 22)) Y2.heap.size 22 [.slice An0 mv0.length cn0, .slice (some ⟨V.heap.size, 0, none⟩) 1 1, .slice At text.length ct] := Row.new_ rfl rfl
            have z_rP := asz Y2 (.cells #[.slice An0 mv0.length cn0, .slice (some ⟨V.heap.size, 0, none⟩) 1 1, .slice At text.length ct] 22)
            generalize Y2.alloc (.cells #[.slice An0 mv0.length cn0, .slice (some ⟨V.heap.size, 0, none⟩) 1 1, .slice At text.length ct] 22) = Y4 at *
            replace b_V := Below.chain b_V bx
            have b_Y2 := bx
            have m_Y4 : Y2.heap.size ≤ Y4.heap.size := bx.size
            clear bx
            refine held_one 7 (by kernel_rfl) ?_
            refine step_call 7 _ _ (some 31) 12 #[.slice (some ⟨Y2.heap.size, 0, none⟩) 3 3] (by rfl) (by kernel_rfl) (by first | kernel_rfl | go_simp) ?_
            refine (refJoin_any Y4.heap.size Y4.heap.size _ [mv0, [1], text] Y4 (PartsO.three rP.lt (Nat.ne_of_lt rP.lt) rP (sV.go b_V).1 ((sV.go b_V).1.off (Nat.le_refl _)) (Row.sl (n := 1) (bs := [1]) (rQ.go b_Y2) rfl (by omega)) ((Row.sl (n := 1) (bs := [1]) (rQ.go b_Y2) rfl (by omega)).off (Nat.le_refl _)) (sT.go b_V).1 ((sT.go b_V).1.off (Nat.le_refl _))) (Nat.le_refl _) (by simp; have := HL1.out; omega) (by simp)).mono ?_
            rintro e Y5 ⟨vj, rfl, gj⟩
            have bx : Below Y4.heap.size Y4 Y5 := gj.2
            have sj : Sl Y5 Y5.heap.size vj (mv0 ++ 1 :: text) := by have := gives_sl gj; simpa using this
            clear gj
            replace b_V := Below.chain b_V bx
            replace b_Y2 := Below.chain b_Y2 bx
            have b_Y4 := bx
            have m_Y5 : Y4.heap.size ≤ Y5.heap.size := bx.size
            clear bx
            refine ⟨_, rfl, trivial, ?_⟩
            simp only [Act.put, List.setIfInBounds_toArray, List.set_cons_zero, List.set_cons_succ]
            refine held_one 8 (by kernel_rfl) ?_
            refine step_call 8 _ _ (some 32) 93 #[.slice Am0 mk0.length cm0, vj] (by rfl) (by kernel_rfl) (by first | kernel_rfl | go_simp) ?_
            refine (refMac_any Y5.heap.size _ _ mk0 (mv0 ++ 1 :: text) Y5 (sK.go b_V).1 sj (Nat.le_refl _) (by have := HL1.out; omega) (by simp; have := HL1.out; omega)).mono ?_
            rintro e Y6 ⟨vm, rfl, gm⟩
            have bx : Below Y5.heap.size Y5 Y6 := gm.2
            have sm : Sl Y6 Y6.heap.size vm mk1 := by have := gives_sl gm; rw [HM1.out.1]; exact this
            have ofm : Off N vm ∧ Off (N + 1) vm := ⟨gives_off gm N (by have := HV.out.2.2.2.2.2.2; omega), gives_off gm (N + 1) (by have := HV.out.2.2.2.2.2.2; omega)⟩
            have ofg : ∀ g, g < N → Off g vm := fun g hg => gives_off gm g (by have := HV.out.2.2.2.2.2.2; omega)
            clear gm
            obtain ⟨Am, cm, rfl, _, _⟩ := sm.form
            replace b_V := Below.chain b_V bx
            replace b_Y2 := Below.chain b_Y2 bx
            replace b_Y4 := Below.chain b_Y4 bx
            have b_Y5 := bx
            have m_Y6 : Y5.heap.size ≤ Y6.heap.size := bx.size
            clear bx
            refine ⟨_, rfl, trivial, ?_⟩
            simp only [Act.put, List.setIfInBounds_toArray, List.set_cons_zero, List.set_cons_succ]
            refine held_value 9 _ _ (some 33) (.pointer (some ⟨N, 0, none⟩)) (by kernel_rfl) (by rfl) (by kernel_rfl) (fun w hS => by first | kernel_rfl | go_simp) (fun _ _ _ _ h => h) (trivial) ?_
            simp only [Act.put, List.setIfInBounds_toArray, List.set_cons_zero, List.set_cons_succ]
            refine held_one 10 (by kernel_rfl) ?_
            refine step_store1 10 _ (by rfl) (by kernel_rfl) (Y6.setCell ⟨N, 0, none⟩ (.slice Am mk1.length cm)) (by have h := (rB.go b_V).cell 0; simp only [List.getElem?_cons_zero] at h; have hf := (rB.go b_V).free 0; go_simp) ⟨trivial, ?_⟩
            refine wpAnyH_done (by kernel_rfl) ?_ _
            have F : Shh (Row (Y6.setCell ⟨N, 0, none⟩ (.slice Am mk1.length cm)) N 33 [.slice Am mk1.length cm, .slice An0 mv0.length cn0, .int .i64 c] ∧ Row (Y6.setCell ⟨N, 0, none⟩ (.slice Am mk1.length cm)) (N + 1) 33 [.slice none 0 0, .slice none 0 0, .int .i64 0] ∧ SlO (Y6.setCell ⟨N, 0, none⟩ (.slice Am mk1.length cm)) N (.slice Am mk1.length cm) mk1 ∧ SlO (Y6.setCell ⟨N, 0, none⟩ (.slice Am mk1.length cm)) N (.slice An0 mv0.length cn0) mv0 ∧ SlO (Y6.setCell ⟨N, 0, none⟩ (.slice Am mk1.length cm)) N (.slice At text.length ct) text ∧ Below N w (Y6.setCell ⟨N, 0, none⟩ (.slice Am mk1.length cm)) ∧ N + 2 ≤ (Y6.setCell ⟨N, 0, none⟩ (.slice Am mk1.length cm)).heap.size) := ⟨(rB.go b_V).set_ 0 _, (rZ.go b_V).other _ _ (by show N + 1 ≠ N; omega), SlO.set ⟨sm, ofm⟩ 0 _, (sV.go b_V).set 0 _, (sT.go b_V).set 0 _, (HV.out.2.2.2.2.2.1.trans (b_V.mono (by have := HV.out.2.2.2.2.2.2; omega))).setCell (Nat.le_refl _) _, Nat.le_trans HV.out.2.2.2.2.2.2 (Nat.le_trans b_V.size (But.setc _ _ _ _).size)⟩
            have FO : Shh (∀ g, g < N → Off g (.slice Am mk1.length cm)) := ⟨ofg⟩
            generalize hnQ : V.heap.size = nQ
            generalize hnP : Y2.heap.size = nP
            generalize hZZ : Y6.setCell ⟨N, 0, none⟩ (.slice Am mk1.length cm) = ZZ at F ⊢
            clear hnQ hnP hZZ
            clear m_Y6 b_Y5 ofg ofm sm m_Y5 b_Y4 sj m_Y4 b_Y2 z_rP rP m_Y2 b_V z_rQ rQ rB rZ sK sV sT c0 c1 hS HV
            revert FO
            revert F
            revert ZZ nQ nP
            revert Am cm
            revert vj
            exact hT.out
        · refine step_value 3 _ _ (some 27) (.slice An0 mv0.length cn0) V (by rfl) (by kernel_rfl) (by have h := rB.cell 1; simp only [List.getElem?_cons_succ, List.getElem?_cons_zero] at h; go_simp) (trivial) ?_
          simp only [Act.put, List.setIfInBounds_toArray, List.set_cons_zero, List.set_cons_succ]
          refine held_two 1 4 (by kernel_rfl) ?_ ?_
          · refine step_value 1 _ _ (some 25) (.slice Am0 mk0.length cm0) V (by rfl) (by kernel_rfl) (by have h := rB.cell 0; simp only [List.getElem?_cons_zero] at h; go_simp) (trivial) ?_
            simp only [Act.put, List.setIfInBounds_toArray, List.set_cons_zero, List.set_cons_succ]
            refine held_one 4 (by kernel_rfl) ?_
            refine step_value 4 _ _ (some 28) (.slice (some ⟨V.heap.size, 0, none⟩) 1 1) (V.alloc (.cells #[.int .u8 1] 5)) (by rfl) (by kernel_rfl) (by first | kernel_rfl | go_simp) (trivial) ?_
            simp only [Act.put, List.setIfInBounds_toArray, List.set_cons_zero, List.set_cons_succ]
            have bx : Below V.heap.size V (V.alloc (.cells #[.int .u8 1] 5)) := Below.alloc (Below.refl _ _) (Nat.le_refl _) _
            have rQ : Row (V.alloc (.cells #[.int .u8 1] 5)) V.heap.size 5 [.int .u8 1] := Row.new_ rfl rfl
            have z_rQ := asz V (.cells #[.int .u8 1] 5)
            generalize V.alloc (.cells #[.int .u8 1] 5) = Y3 at *
            have b_V := bx
            have m_Y3 : V.heap.size ≤ Y3.heap.size := bx.size
            clear bx
            refine held_one 6 (by kernel_rfl) ?_
            refine step_value 6 _ _ (some 30) (.slice (some ⟨Y3.heap.size, 0, none⟩) 3 3) (Y3.alloc (.cells #[.slice An0 mv0.length cn0, .slice (some ⟨V.heap.size, 0, none⟩) 1 1, .slice At text.length ct] 22)) (by rfl) (by kernel_rfl) (by first | kernel_rfl | go_simp) (trivial) ?_
            simp only [Act.put, List.setIfInBounds_toArray, List.set_cons_zero, List.set_cons_succ]
            have bx : Below Y3.heap.size Y3 (Y3.alloc (.cells #[.slice An0 mv0.length cn0, .slice (some ⟨V.heap.size, 0, none⟩) 1 1, .slice At text.length ct] 22)) := Below.alloc (Below.refl _ _) (Nat.le_refl _) _
            have rP : Row (Y3.alloc (.cells #[.slice An0 mv0.length cn0, .slice (some ⟨V.heap.size, 0, none⟩) 1 1, .slice At text.length ct] 22)) Y3.heap.size 22 [.slice An0 mv0.length cn0, .slice (some ⟨V.heap.size, 0, none⟩) 1 1, .slice At text.length ct] := Row.new_ rfl rfl
            have z_rP := asz Y3 (.cells #[.slice An0 mv0.length cn0, .slice (some ⟨V.heap.size, 0, none⟩) 1 1, .slice At text.length ct] 22)
            generalize Y3.alloc (.cells #[.slice An0 mv0.length cn0, .slice (some ⟨V.heap.size, 0, none⟩) 1 1, .slice At text.length ct] 22) = Y4 at *
            replace b_V := Below.chain b_V bx
            have b_Y3 := bx
            have m_Y4 : Y3.heap.size ≤ Y4.heap.size := bx.size
            clear bx
            refine held_one 7 (by kernel_rfl) ?_
            refine step_call 7 _ _ (some 31) 12 #[.slice (some ⟨Y3.heap.size, 0, none⟩) 3 3] (by rfl) (by kernel_rfl) (by first | kernel_rfl | go_simp) ?_
            refine (refJoin_any Y4.heap.size Y4.heap.size _ [mv0, [1], text] Y4 (PartsO.three rP.lt (Nat.ne_of_lt rP.lt) rP (sV.go b_V).1 ((sV.go b_V).1.off (Nat.le_refl _)) (Row.sl (n := 1) (bs := [1]) (rQ.go b_Y3) rfl (by omega)) ((Row.sl (n := 1) (bs := [1]) (rQ.go b_Y3) rfl (by omega)).off (Nat.le_refl _)) (sT.go b_V).1 ((sT.go b_V).1.off (Nat.le_refl _))) (Nat.le_refl _) (by simp; have := HL1.out; omega) (by simp)).mono ?_
            rintro e Y5 ⟨vj, rfl, gj⟩
            have bx : Below Y4.heap.size Y4 Y5 := gj.2
            have sj : Sl Y5 Y5.heap.size vj (mv0 ++ 1 :: text) := by have := gives_sl gj; simpa using this
            clear gj
            replace b_V := Below.chain b_V bx
            replace b_Y3 := Below.chain b_Y3 bx
            have b_Y4 := bx
            have m_Y5 : Y4.heap.size ≤ Y5.heap.size := bx.size
            clear bx
            refine ⟨_, rfl, trivial, ?_⟩
            simp only [Act.put, List.setIfInBounds_toArray, List.set_cons_zero, List.set_cons_succ]
            refine held_one 8 (by kernel_rfl) ?_
            refine step_call 8 _ _ (some 32) 93 #[.slice Am0 mk0.length cm0, vj] (by rfl) (by kernel_rfl) (by first | kernel_rfl | go_simp) ?_
            refine (refMac_any Y5.heap.size _ _ mk0 (mv0 ++ 1 :: text) Y5 (sK.go b_V).1 sj (Nat.le_refl _) (by have := HL1.out; omega) (by simp; have := HL1.out; omega)).mono ?_
            rintro e Y6 ⟨vm, rfl, gm⟩
            have bx : Below Y5.heap.size Y5 Y6 := gm.2
            have sm : Sl Y6 Y6.heap.size vm mk1 := by have := gives_sl gm; rw [HM1.out.1]; exact this
            have ofm : Off N vm ∧ Off (N + 1) vm := ⟨gives_off gm N (by have := HV.out.2.2.2.2.2.2; omega), gives_off gm (N + 1) (by have := HV.out.2.2.2.2.2.2; omega)⟩
            have ofg : ∀ g, g < N → Off g vm := fun g hg => gives_off gm g (by have := HV.out.2.2.2.2.2.2; omega)
            clear gm
            obtain ⟨Am, cm, rfl, _, _⟩ := sm.form
            replace b_V := Below.chain b_V bx
            replace b_Y3 := Below.chain b_Y3 bx
            replace b_Y4 := Below.chain b_Y4 bx
            have b_Y5 := bx
            have m_Y6 : Y5.heap.size ≤ Y6.heap.size := bx.size
            clear bx
            refine ⟨_, rfl, trivial, ?_⟩
            simp only [Act.put, List.setIfInBounds_toArray, List.set_cons_zero, List.set_cons_succ]
            refine held_value 9 _ _ (some 33) (.pointer (some ⟨N, 0, none⟩)) (by kernel_rfl) (by rfl) (by kernel_rfl) (fun w hS => by first | kernel_rfl | go_simp) (fun _ _ _ _ h => h) (trivial) ?_
            simp only [Act.put, List.setIfInBounds_toArray, List.set_cons_zero, List.set_cons_succ]
            refine held_one 10 (by kernel_rfl) ?_
            refine step_store1 10 _ (by rfl) (by kernel_rfl) (Y6.setCell ⟨N, 0, none⟩ (.slice Am mk1.length cm)) (by have h := (rB.go b_V).cell 0; simp only [List.getElem?_cons_zero] at h; have hf := (rB.go b_V).free 0; go_simp) ⟨trivial, ?_⟩
            refine wpAnyH_done (by kernel_rfl) ?_ _
            have F : Shh (Row (Y6.setCell ⟨N, 0, none⟩ (.slice Am mk1.length cm)) N 33 [.slice Am mk1.length cm, .slice An0 mv0.length cn0, .int .i64 c] ∧ Row (Y6.setCell ⟨N, 0, none⟩ (.slice Am mk1.length cm)) (N + 1) 33 [.slice none 0 0, .slice none 0 0, .int .i64 0] ∧ SlO (Y6.setCell ⟨N, 0, none⟩ (.slice Am mk1.length cm)) N (.slice Am mk1.length cm) mk1 ∧ SlO (Y6.setCell ⟨N, 0, none⟩ (.slice Am mk1.length cm)) N (.slice An0 mv0.length cn0) mv0 ∧ SlO (Y6.setCell ⟨N, 0, none⟩ (.slice Am mk1.length cm)) N (.slice At text.length ct) text ∧ Below N w (Y6.setCell ⟨N, 0, none⟩ (.slice Am mk1.length cm)) ∧ N + 2 ≤ (Y6.setCell ⟨N, 0, none⟩ (.slice Am mk1.length cm)).heap.size) := ⟨(rB.go b_V).set_ 0 _, (rZ.go b_V).other _ _ (by show N + 1 ≠ N; omega), SlO.set ⟨sm, ofm⟩ 0 _, (sV.go b_V).set 0 _, (sT.go b_V).set 0 _, (HV.out.2.2.2.2.2.1.trans (b_V.mono (by have := HV.out.2.2.2.2.2.2; omega))).setCell (Nat.le_refl _) _, Nat.le_trans HV.out.2.2.2.2.2.2 (Nat.le_trans b_V.size (But.setc _ _ _ _).size)⟩
            have FO : Shh (∀ g, g < N → Off g (.slice Am mk1.length cm)) := ⟨ofg⟩
            generalize hnQ : V.heap.size = nQ
            generalize hnP : Y3.heap.size = nP
            generalize hZZ : Y6.setCell ⟨N, 0, none⟩ (.slice Am mk1.length cm) = ZZ at F ⊢
            clear hnQ hnP hZZ
            clear m_Y6 b_Y5 ofg ofm sm m_Y5 b_Y4 sj m_Y4 b_Y3 z_rP rP m_Y3 b_V z_rQ rQ rB rZ sK sV sT c0 c1 hS HV
            revert FO
            revert F
            revert ZZ nQ nP
            revert Am cm
            revert vj
            exact hT.out
          · refine step_value 4 _ _ (some 28) (.slice (some ⟨V.heap.size, 0, none⟩) 1 1) (V.alloc (.cells #[.int .u8 1] 5)) (by rfl) (by kernel_rfl) (by first | kernel_rfl | go_simp) (trivial) ?_
            simp only [Act.put, List.setIfInBounds_toArray, List.set_cons_zero, List.set_cons_succ]
            have bx : Below V.heap.size V (V.alloc (.cells #[.int .u8 1] 5)) := Below.alloc (Below.refl _ _) (Nat.le_refl _) _
            have rQ : Row (V.alloc (.cells #[.int .u8 1] 5)) V.heap.size 5 [.int .u8 1] := Row.new_ rfl rfl
            have z_rQ := asz V (.cells #[.int .u8 1] 5)
            generalize V.alloc (.cells #[.int .u8 1] 5) = Y2 at *
            have b_V := bx
            have m_Y2 : V.heap.size ≤ Y2.heap.size := bx.size
            clear bx
            refine held_two 1 6 (by kernel_rfl) ?_ ?_
            · refine step_value 1 _ _ (some 25) (.slice Am0 mk0.length cm0) Y2 (by rfl) (by kernel_rfl) (by have h := (rB.go b_V).cell 0; simp only [List.getElem?_cons_zero] at h; go_simp) (trivial) ?_
              simp only [Act.put, List.setIfInBounds_toArray, List.set_cons_zero, List.set_cons_succ]
              refine held_one 6 (by kernel_rfl) ?_
              refine step_value 6 _ _ (some 30) (.slice (some ⟨Y2.heap.size, 0, none⟩) 3 3) (Y2.alloc (.cells #[.slice An0 mv0.length cn0, .slice (some ⟨V.heap.size, 0, none⟩) 1 1, .slice At text.length ct] 22)) (by rfl) (by kernel_rfl) (by first | kernel_rfl | go_simp) (trivial) ?_
              simp only [Act.put, List.setIfInBounds_toArray, List.set_cons_zero, List.set_cons_succ]
              have bx : Below Y2.heap.size Y2 (Y2.alloc (.cells #[.slice An0 mv0.length cn0, .slice (some ⟨V.heap.size, 0, none⟩) 1 1, .slice At text.length ct] 22)) := Below.alloc (Below.refl _ _) (Nat.le_refl _) _
              have rP : Row (Y2.alloc (.cells #[.slice An0 mv0.length cn0, .slice (some ⟨V.heap.size, 0, none⟩) 1 1, .slice At text.length ct] 22)) Y2.heap.size 22 [.slice An0 mv0.length cn0, .slice (some ⟨V.heap.size, 0, none⟩) 1 1, .slice At text.length ct] := Row.new_ rfl rfl
              have z_rP := asz Y2 (.cells #[.slice An0 mv0.length cn0, .slice (some ⟨V.heap.size, 0, none⟩) 1 1, .slice At text.length ct] 22)
              generalize Y2.alloc (.cells #[.slice An0 mv0.length cn0, .slice (some ⟨V.heap.size, 0, none⟩) 1 1, .slice At text.length ct] 22) = Y4 at *
              replace b_V := Below.chain b_V bx
              have b_Y2 := bx
              have m_Y4 : Y2.heap.size ≤ Y4.heap.size := bx.size
              clear bx
              refine held_one 7 (by kernel_rfl) ?_
              refine step_call 7 _ _ (some 31) 12 #[.slice (some ⟨Y2.heap.size, 0, none⟩) 3 3] (by rfl) (by kernel_rfl) (by first | kernel_rfl | go_simp) ?_
              refine (refJoin_any Y4.heap.size Y4.heap.size _ [mv0, [1], text] Y4 (PartsO.three rP.lt (Nat.ne_of_lt rP.lt) rP (sV.go b_V).1 ((sV.go b_V).1.off (Nat.le_refl _)) (Row.sl (n := 1) (bs := [1]) (rQ.go b_Y2) rfl (by omega)) ((Row.sl (n := 1) (bs := [1]) (rQ.go b_Y2) rfl (by omega)).off (Nat.le_refl _)) (sT.go b_V).1 ((sT.go b_V).1.off (Nat.le_refl _))) (Nat.le_refl _) (by simp; have := HL1.out; omega) (by simp)).mono ?_
              rintro e Y5 ⟨vj, rfl, gj⟩
              have bx : Below Y4.heap.size Y4 Y5 := gj.2
              have sj : Sl Y5 Y5.heap.size vj (mv0 ++ 1 :: text) := by have := gives_sl gj; simpa using this
              clear gj
              replace b_V := Below.chain b_V bx
              replace b_Y2 := Below.chain b_Y2 bx
              have b_Y4 := bx
              have m_Y5 : Y4.heap.size ≤ Y5.heap.size := bx.size
              clear bx
              refine ⟨_, rfl, trivial, ?_⟩
              simp only [Act.put, List.setIfInBounds_toArray, List.set_cons_zero, List.set_cons_succ]
              refine held_one 8 (by kernel_rfl) ?_
              refine step_call 8 _ _ (some 32) 93 #[.slice Am0 mk0.length cm0, vj] (by rfl) (by kernel_rfl) (by first | kernel_rfl | go_simp) ?_
              refine (refMac_any Y5.heap.size _ _ mk0 (mv0 ++ 1 :: text) Y5 (sK.go b_V).1 sj (Nat.le_refl _) (by have := HL1.out; omega) (by simp; have := HL1.out; omega)).mono ?_
              rintro e Y6 ⟨vm, rfl, gm⟩
              have bx : Below Y5.heap.size Y5 Y6 := gm.2
              have sm : Sl Y6 Y6.heap.size vm mk1 := by have := gives_sl gm; rw [HM1.out.1]; exact this
              have ofm : Off N vm ∧ Off (N + 1) vm := ⟨gives_off gm N (by have := HV.out.2.2.2.2.2.2; omega), gives_off gm (N + 1) (by have := HV.out.2.2.2.2.2.2; omega)⟩
              have ofg : ∀ g, g < N → Off g vm := fun g hg => gives_off gm g (by have := HV.out.2.2.2.2.2.2; omega)
              clear gm
              obtain ⟨Am, cm, rfl, _, _⟩ := sm.form
              replace b_V := Below.chain b_V bx
              replace b_Y2 := Below.chain b_Y2 bx
              replace b_Y4 := Below.chain b_Y4 bx
              have b_Y5 := bx
              have m_Y6 : Y5.heap.size ≤ Y6.heap.size := bx.size
              clear bx
              refine ⟨_, rfl, trivial, ?_⟩
              simp only [Act.put, List.setIfInBounds_toArray, List.set_cons_zero, List.set_cons_succ]
              refine held_value 9 _ _ (some 33) (.pointer (some ⟨N, 0, none⟩)) (by kernel_rfl) (by rfl) (by kernel_rfl) (fun w hS => by first | kernel_rfl | go_simp) (fun _ _ _ _ h => h) (trivial) ?_
              simp only [Act.put, List.setIfInBounds_toArray, List.set_cons_zero, List.set_cons_succ]
              refine held_one 10 (by kernel_rfl) ?_
              refine step_store1 10 _ (by rfl) (by kernel_rfl) (Y6.setCell ⟨N, 0, none⟩ (.slice Am mk1.length cm)) (by have h := (rB.go b_V).cell 0; simp only [List.getElem?_cons_zero] at h; have hf := (rB.go b_V).free 0; go_simp) ⟨trivial, ?_⟩
              refine wpAnyH_done (by kernel_rfl) ?_ _
              have F : Shh (Row (Y6.setCell ⟨N, 0, none⟩ (.slice Am mk1.length cm)) N 33 [.slice Am mk1.length cm, .slice An0 mv0.length cn0, .int .i64 c] ∧ Row (Y6.setCell ⟨N, 0, none⟩ (.slice Am mk1.length cm)) (N + 1) 33 [.slice none 0 0, .slice none 0 0, .int .i64 0] ∧ SlO (Y6.setCell ⟨N, 0, none⟩ (.slice Am mk1.length cm)) N (.slice Am mk1.length cm) mk1 ∧ SlO (Y6.setCell ⟨N, 0, none⟩ (.slice Am mk1.length cm)) N (.slice An0 mv0.length cn0) mv0 ∧ SlO (Y6.setCell ⟨N, 0, none⟩ (.slice Am mk1.length cm)) N (.slice At text.length ct) text ∧ Below N w (Y6.setCell ⟨N, 0, none⟩ (.slice Am mk1.length cm)) ∧ N + 2 ≤ (Y6.setCell ⟨N, 0, none⟩ (.slice Am mk1.length cm)).heap.size) := ⟨(rB.go b_V).set_ 0 _, (rZ.go b_V).other _ _ (by show N + 1 ≠ N; omega), SlO.set ⟨sm, ofm⟩ 0 _, (sV.go b_V).set 0 _, (sT.go b_V).set 0 _, (HV.out.2.2.2.2.2.1.trans (b_V.mono (by have := HV.out.2.2.2.2.2.2; omega))).setCell (Nat.le_refl _) _, Nat.le_trans HV.out.2.2.2.2.2.2 (Nat.le_trans b_V.size (But.setc _ _ _ _).size)⟩
              have FO : Shh (∀ g, g < N → Off g (.slice Am mk1.length cm)) := ⟨ofg⟩
              generalize hnQ : V.heap.size = nQ
              generalize hnP : Y2.heap.size = nP
              generalize hZZ : Y6.setCell ⟨N, 0, none⟩ (.slice Am mk1.length cm) = ZZ at F ⊢
              clear hnQ hnP hZZ
              clear m_Y6 b_Y5 ofg ofm sm m_Y5 b_Y4 sj m_Y4 b_Y2 z_rP rP m_Y2 b_V z_rQ rQ rB rZ sK sV sT c0 c1 hS HV
              revert FO
              revert F
              revert ZZ nQ nP
              revert Am cm
              revert vj
              exact hT.out
            · refine step_value 6 _ _ (some 30) (.slice (some ⟨Y2.heap.size, 0, none⟩) 3 3) (Y2.alloc (.cells #[.slice An0 mv0.length cn0, .slice (some ⟨V.heap.size, 0, none⟩) 1 1, .slice At text.length ct] 22)) (by rfl) (by kernel_rfl) (by first | kernel_rfl | go_simp) (trivial) ?_
              simp only [Act.put, List.setIfInBounds_toArray, List.set_cons_zero, List.set_cons_succ]
              have bx : Below Y2.heap.size Y2 (Y2.alloc (.cells #[.slice An0 mv0.length cn0, .slice (some ⟨V.heap.size, 0, none⟩) 1 1, .slice At text.length ct] 22)) := Below.alloc (Below.refl _ _) (Nat.le_refl _) _
              have rP : Row (Y2.alloc (.cells #[.slice An0 mv0.length cn0, .slice (some ⟨V.heap.size, 0, none⟩) 1 1, .slice At text.length ct] 22)) Y2.heap.size 22 [.slice An0 mv0.length cn0, .slice (some ⟨V.heap.size, 0, none⟩) 1 1, .slice At text.length ct] := Row.new_ rfl rfl
              have z_rP := asz Y2 (.cells #[.slice An0 mv0.length cn0, .slice (some ⟨V.heap.size, 0, none⟩) 1 1, .slice At text.length ct] 22)
              generalize Y2.alloc (.cells #[.slice An0 mv0.length cn0, .slice (some ⟨V.heap.size, 0, none⟩) 1 1, .slice At text.length ct] 22) = Y3 at *
              replace b_V := Below.chain b_V bx
              have b_Y2 := bx
              have m_Y3 : Y2.heap.size ≤ Y3.heap.size := bx.size
              clear bx
              refine held_two 1 7 (by kernel_rfl) ?_ ?_
              · refine step_value 1 _ _ (some 25) (.slice Am0 mk0.length cm0) Y3 (by rfl) (by kernel_rfl) (by have h := (rB.go b_V).cell 0; simp only [List.getElem?_cons_zero] at h; go_simp) (trivial) ?_
                simp only [Act.put, List.setIfInBounds_toArray, List.set_cons_zero, List.set_cons_succ]
                refine held_one 7 (by kernel_rfl) ?_
                refine step_call 7 _ _ (some 31) 12 #[.slice (some ⟨Y2.heap.size, 0, none⟩) 3 3] (by rfl) (by kernel_rfl) (by first | kernel_rfl | go_simp) ?_
                refine (refJoin_any Y3.heap.size Y3.heap.size _ [mv0, [1], text] Y3 (PartsO.three rP.lt (Nat.ne_of_lt rP.lt) rP (sV.go b_V).1 ((sV.go b_V).1.off (Nat.le_refl _)) (Row.sl (n := 1) (bs := [1]) (rQ.go b_Y2) rfl (by omega)) ((Row.sl (n := 1) (bs := [1]) (rQ.go b_Y2) rfl (by omega)).off (Nat.le_refl _)) (sT.go b_V).1 ((sT.go b_V).1.off (Nat.le_refl _))) (Nat.le_refl _) (by simp; have := HL1.out; omega) (by simp)).mono ?_
                rintro e Y5 ⟨vj, rfl, gj⟩
                have bx : Below Y3.heap.size Y3 Y5 := gj.2
                have sj : Sl Y5 Y5.heap.size vj (mv0 ++ 1 :: text) := by have := gives_sl gj; simpa using this
                clear gj
                replace b_V := Below.chain b_V bx
                replace b_Y2 := Below.chain b_Y2 bx
                have b_Y3 := bx
                have m_Y5 : Y3.heap.size ≤ Y5.heap.size := bx.size
                clear bx
                refine ⟨_, rfl, trivial, ?_⟩
                simp only [Act.put, List.setIfInBounds_toArray, List.set_cons_zero, List.set_cons_succ]
                refine held_one 8 (by kernel_rfl) ?_
                refine step_call 8 _ _ (some 32) 93 #[.slice Am0 mk0.length cm0, vj] (by rfl) (by kernel_rfl) (by first | kernel_rfl | go_simp) ?_
                refine (refMac_any Y5.heap.size _ _ mk0 (mv0 ++ 1 :: text) Y5 (sK.go b_V).1 sj (Nat.le_refl _) (by have := HL1.out; omega) (by simp; have := HL1.out; omega)).mono ?_
                rintro e Y6 ⟨vm, rfl, gm⟩
                have bx : Below Y5.heap.size Y5 Y6 := gm.2
                have sm : Sl Y6 Y6.heap.size vm mk1 := by have := gives_sl gm; rw [HM1.out.1]; exact this
                have ofm : Off N vm ∧ Off (N + 1) vm := ⟨gives_off gm N (by have := HV.out.2.2.2.2.2.2; omega), gives_off gm (N + 1) (by have := HV.out.2.2.2.2.2.2; omega)⟩
                have ofg : ∀ g, g < N → Off g vm := fun g hg => gives_off gm g (by have := HV.out.2.2.2.2.2.2; omega)
                clear gm
                obtain ⟨Am, cm, rfl, _, _⟩ := sm.form
                replace b_V := Below.chain b_V bx
                replace b_Y2 := Below.chain b_Y2 bx
                replace b_Y3 := Below.chain b_Y3 bx
                have b_Y5 := bx
                have m_Y6 : Y5.heap.size ≤ Y6.heap.size := bx.size
                clear bx
                refine ⟨_, rfl, trivial, ?_⟩
                simp only [Act.put, List.setIfInBounds_toArray, List.set_cons_zero, List.set_cons_succ]
                refine held_value 9 _ _ (some 33) (.pointer (some ⟨N, 0, none⟩)) (by kernel_rfl) (by rfl) (by kernel_rfl) (fun w hS => by first | kernel_rfl | go_simp) (fun _ _ _ _ h => h) (trivial) ?_
                simp only [Act.put, List.setIfInBounds_toArray, List.set_cons_zero, List.set_cons_succ]
                refine held_one 10 (by kernel_rfl) ?_
                refine step_store1 10 _ (by rfl) (by kernel_rfl) (Y6.setCell ⟨N, 0, none⟩ (.slice Am mk1.length cm)) (by have h := (rB.go b_V).cell 0; simp only [List.getElem?_cons_zero] at h; have hf := (rB.go b_V).free 0; go_simp) ⟨trivial, ?_⟩
                refine wpAnyH_done (by kernel_rfl) ?_ _
                have F : Shh (Row (Y6.setCell ⟨N, 0, none⟩ (.slice Am mk1.length cm)) N 33 [.slice Am mk1.length cm, .slice An0 mv0.length cn0, .int .i64 c] ∧ Row (Y6.setCell ⟨N, 0, none⟩ (.slice Am mk1.length cm)) (N + 1) 33 [.slice none 0 0, .slice none 0 0, .int .i64 0] ∧ SlO (Y6.setCell ⟨N, 0, none⟩ (.slice Am mk1.length cm)) N (.slice Am mk1.length cm) mk1 ∧ SlO (Y6.setCell ⟨N, 0, none⟩ (.slice Am mk1.length cm)) N (.slice An0 mv0.length cn0) mv0 ∧ SlO (Y6.setCell ⟨N, 0, none⟩ (.slice Am mk1.length cm)) N (.slice At text.length ct) text ∧ Below N w (Y6.setCell ⟨N, 0, none⟩ (.slice Am mk1.length cm)) ∧ N + 2 ≤ (Y6.setCell ⟨N, 0, none⟩ (.slice Am mk1.length cm)).heap.size) := ⟨(rB.go b_V).set_ 0 _, (rZ.go b_V).other _ _ (by show N + 1 ≠ N; omega), SlO.set ⟨sm, ofm⟩ 0 _, (sV.go b_V).set 0 _, (sT.go b_V).set 0 _, (HV.out.2.2.2.2.2.1.trans (b_V.mono (by have := HV.out.2.2.2.2.2.2; omega))).setCell (Nat.le_refl _) _, Nat.le_trans HV.out.2.2.2.2.2.2 (Nat.le_trans b_V.size (But.setc _ _ _ _).size)⟩
                have FO : Shh (∀ g, g < N → Off g (.slice Am mk1.length cm)) := ⟨ofg⟩
                generalize hnQ : V.heap.size = nQ
                generalize hnP : Y2.heap.size = nP
                generalize hZZ : Y6.setCell ⟨N, 0, none⟩ (.slice Am mk1.length cm) = ZZ at F ⊢
                clear hnQ hnP hZZ
                clear m_Y6 b_Y5 ofg ofm sm m_Y5 b_Y3 sj m_Y3 b_Y2 z_rP rP m_Y2 b_V z_rQ rQ rB rZ sK sV sT c0 c1 hS HV
                revert FO
                revert F
                revert ZZ nQ nP
                revert Am cm
                revert vj
                exact hT.out
              · refine step_call 7 _ _ (some 31) 12 #[.slice (some ⟨Y2.heap.size, 0, none⟩) 3 3] (by rfl) (by kernel_rfl) (by first | kernel_rfl | go_simp) ?_
                refine (refJoin_any Y3.heap.size Y3.heap.size _ [mv0, [1], text] Y3 (PartsO.three rP.lt (Nat.ne_of_lt rP.lt) rP (sV.go b_V).1 ((sV.go b_V).1.off (Nat.le_refl _)) (Row.sl (n := 1) (bs := [1]) (rQ.go b_Y2) rfl (by omega)) ((Row.sl (n := 1) (bs := [1]) (rQ.go b_Y2) rfl (by omega)).off (Nat.le_refl _)) (sT.go b_V).1 ((sT.go b_V).1.off (Nat.le_refl _))) (Nat.le_refl _) (by simp; have := HL1.out; omega) (by simp)).mono ?_
                rintro e Y4 ⟨vj, rfl, gj⟩
                have bx : Below Y3.heap.size Y3 Y4 := gj.2
                have sj : Sl Y4 Y4.heap.size vj (mv0 ++ 1 :: text) := by have := gives_sl gj; simpa using this
                clear gj
                replace b_V := Below.chain b_V bx
                replace b_Y2 := Below.chain b_Y2 bx
                have b_Y3 := bx
                have m_Y4 : Y3.heap.size ≤ Y4.heap.size := bx.size
                clear bx
                refine ⟨_, rfl, trivial, ?_⟩
                simp only [Act.put, List.setIfInBounds_toArray, List.set_cons_zero, List.set_cons_succ]
                refine held_one 1 (by kernel_rfl) ?_
                refine step_value 1 _ _ (some 25) (.slice Am0 mk0.length cm0) Y4 (by rfl) (by kernel_rfl) (by have h := (rB.go b_V).cell 0; simp only [List.getElem?_cons_zero] at h; go_simp) (trivial) ?_
                simp only [Act.put, List.setIfInBounds_toArray, List.set_cons_zero, List.set_cons_succ]
                refine held_one 8 (by kernel_rfl) ?_
                refine step_call 8 _ _ (some 32) 93 #[.slice Am0 mk0.length cm0, vj] (by rfl) (by kernel_rfl) (by first | kernel_rfl | go_simp) ?_
                refine (refMac_any Y4.heap.size _ _ mk0 (mv0 ++ 1 :: text) Y4 (sK.go b_V).1 sj (Nat.le_refl _) (by have := HL1.out; omega) (by simp; have := HL1.out; omega)).mono ?_
                rintro e Y6 ⟨vm, rfl, gm⟩
                have bx : Below Y4.heap.size Y4 Y6 := gm.2
                have sm : Sl Y6 Y6.heap.size vm mk1 := by have := gives_sl gm; rw [HM1.out.1]; exact this
                have ofm : Off N vm ∧ Off (N + 1) vm := ⟨gives_off gm N (by have := HV.out.2.2.2.2.2.2; omega), gives_off gm (N + 1) (by have := HV.out.2.2.2.2.2.2; omega)⟩
                have ofg : ∀ g, g < N → Off g vm := fun g hg => gives_off gm g (by have := HV.out.2.2.2.2.2.2; omega)
                clear gm
                obtain ⟨Am, cm, rfl, _, _⟩ := sm.form
                replace b_V := Below.chain b_V bx
                replace b_Y2 := Below.chain b_Y2 bx
                replace b_Y3 := Below.chain b_Y3 bx
                have b_Y4 := bx
                have m_Y6 : Y4.heap.size ≤ Y6.heap.size := bx.size
                clear bx
                refine ⟨_, rfl, trivial, ?_⟩
                simp only [Act.put, List.setIfInBounds_toArray, List.set_cons_zero, List.set_cons_succ]
                refine held_value 9 _ _ (some 33) (.pointer (some ⟨N, 0, none⟩)) (by kernel_rfl) (by rfl) (by kernel_rfl) (fun w hS => by first | kernel_rfl | go_simp) (fun _ _ _ _ h => h) (trivial) ?_
                simp only [Act.put, List.setIfInBounds_toArray, List.set_cons_zero, List.set_cons_succ]
                refine held_one 10 (by kernel_rfl) ?_
                refine step_store1 10 _ (by rfl) (by kernel_rfl) (Y6.setCell ⟨N, 0, none⟩ (.slice Am mk1.length cm)) (by have h := (rB.go b_V).cell 0; simp only [List.getElem?_cons_zero] at h; have hf := (rB.go b_V).free 0; go_simp) ⟨trivial, ?_⟩
                refine wpAnyH_done (by kernel_rfl) ?_ _
                have F : Shh (Row (Y6.setCell ⟨N, 0, none⟩ (.slice Am mk1.length cm)) N 33 [.slice Am mk1.length cm, .slice An0 mv0.length cn0, .int .i64 c] ∧ Row (Y6.setCell ⟨N, 0, none⟩ (.slice Am mk1.length cm)) (N + 1) 33 [.slice none 0 0, .slice none 0 0, .int .i64 0] ∧ SlO (Y6.setCell ⟨N, 0, none⟩ (.slice Am mk1.length cm)) N (.slice Am mk1.length cm) mk1 ∧ SlO (Y6.setCell ⟨N, 0, none⟩ (.slice Am mk1.length cm)) N (.slice An0 mv0.length cn0) mv0 ∧ SlO (Y6.setCell ⟨N, 0, none⟩ (.slice Am mk1.length cm)) N (.slice At text.length ct) text ∧ Below N w (Y6.setCell ⟨N, 0, none⟩ (.slice Am mk1.length cm)) ∧ N + 2 ≤ (Y6.setCell ⟨N, 0, none⟩ (.slice Am mk1.length cm)).heap.size) := ⟨(rB.go b_V).set_ 0 _, (rZ.go b_V).other _ _ (by show N + 1 ≠ N; omega), SlO.set ⟨sm, ofm⟩ 0 _, (sV.go b_V).set 0 _, (sT.go b_V).set 0 _, (HV.out.2.2.2.2.2.1.trans (b_V.mono (by have := HV.out.2.2.2.2.2.2; omega))).setCell (Nat.le_refl _) _, Nat.le_trans HV.out.2.2.2.2.2.2 (Nat.le_trans b_V.size (But.setc _ _ _ _).size)⟩
                have FO : Shh (∀ g, g < N → Off g (.slice Am mk1.length cm)) := ⟨ofg⟩
                generalize hnQ : V.heap.size = nQ
                generalize hnP : Y2.heap.size = nP
                generalize hZZ : Y6.setCell ⟨N, 0, none⟩ (.slice Am mk1.length cm) = ZZ at F ⊢
                clear hnQ hnP hZZ
                clear m_Y6 b_Y4 ofg ofm sm m_Y4 b_Y3 sj m_Y3 b_Y2 z_rP rP m_Y2 b_V z_rQ rQ rB rZ sK sV sT c0 c1 hS HV
                revert FO
                revert F
                revert ZZ nQ nP
                revert Am cm
                revert vj
                exact hT.out
        · refine step_value 4 _ _ (some 28) (.slice (some ⟨V.heap.size, 0, none⟩) 1 1) (V.alloc (.cells #[.int .u8 1] 5)) (by rfl) (by kernel_rfl) (by first | kernel_rfl | go_simp) (trivial) ?_
          simp only [Act.put, List.setIfInBounds_toArray, List.set_cons_zero, List.set_cons_succ]
          have bx : Below V.heap.size V (V.alloc (.cells #[.int .u8 1] 5)) := Below.alloc (Below.refl _ _) (Nat.le_refl _) _
          have rQ : Row (V.alloc (.cells #[.int .u8 1] 5)) V.heap.size 5 [.int .u8 1] := Row.new_ rfl rfl
          have z_rQ := asz V (.cells #[.int .u8 1] 5)
          generalize V.alloc (.cells #[.int .u8 1] 5) = Y1 at *
          have b_V := bx
          have m_Y1 : V.heap.size ≤ Y1.heap.size := bx.size
          clear bx
          refine held_two 1 3 (by kernel_rfl) ?_ ?_
          · refine step_value 1 _ _ (some 25) (.slice Am0 mk0.length cm0) Y1 (by rfl) (by kernel_rfl) (by have h := (rB.go b_V).cell 0; simp only [List.getElem?_cons_zero] at h; go_simp) (trivial) ?_
            simp only [Act.put, List.setIfInBounds_toArray, List.set_cons_zero, List.set_cons_succ]
            refine held_one 3 (by kernel_rfl) ?_
            refine step_value 3 _ _ (some 27) (.slice An0 mv0.length cn0) Y1 (by rfl) (by kernel_rfl) (by have h := (rB.go b_V).cell 1; simp only [List.getElem?_cons_succ, List.getElem?_cons_zero] at h; go_simp) (trivial) ?_
            simp only [Act.put, List.setIfInBounds_toArray, List.set_cons_zero, List.set_cons_succ]
            refine held_one 6 (by kernel_rfl) ?_
            refine step_value 6 _ _ (some 30) (.slice (some ⟨Y1.heap.size, 0, none⟩) 3 3) (Y1.alloc (.cells #[.slice An0 mv0.length cn0, .slice (some ⟨V.heap.size, 0, none⟩) 1 1, .slice At text.length ct] 22)) (by rfl) (by kernel_rfl) (by first | kernel_rfl | go_simp) (trivial) ?_
            simp only [Act.put, List.setIfInBounds_toArray, List.set_cons_zero, List.set_cons_succ]
            have bx : Below Y1.heap.size Y1 (Y1.alloc (.cells #[.slice An0 mv0.length cn0, .slice (some ⟨V.heap.size, 0, none⟩) 1 1, .slice At text.length ct] 22)) := Below.alloc (Below.refl _ _) (Nat.le_refl _) _
            have rP : Row (Y1.alloc (.cells #[.slice An0 mv0.length cn0, .slice (some ⟨V.heap.size, 0, none⟩) 1 1, .slice At text.length ct] 22)) Y1.heap.size 22 [.slice An0 mv0.length cn0, .slice (some ⟨V.heap.size, 0, none⟩) 1 1, .slice At text.length ct] := Row.new_ rfl rfl
            have z_rP := asz Y1 (.cells #[.slice An0 mv0.length cn0, .slice (some ⟨V.heap.size, 0, none⟩) 1 1, .slice At text.length ct] 22)
            generalize Y1.alloc (.cells #[.slice An0 mv0.length cn0, .slice (some ⟨V.heap.size, 0, none⟩) 1 1, .slice At text.length ct] 22) = Y4 at *
            replace b_V := Below.chain b_V bx
            have b_Y1 := bx
            have m_Y4 : Y1.heap.size ≤ Y4.heap.size := bx.size
            clear bx
            refine held_one 7 (by kernel_rfl) ?_
            refine step_call 7 _ _ (some 31) 12 #[.slice (some ⟨Y1.heap.size, 0, none⟩) 3 3] (by rfl) (by kernel_rfl) (by first | kernel_rfl | go_simp) ?_
            refine (refJoin_any Y4.heap.size Y4.heap.size _ [mv0, [1], text] Y4 (PartsO.three rP.lt (Nat.ne_of_lt rP.lt) rP (sV.go b_V).1 ((sV.go b_V).1.off (Nat.le_refl _)) (Row.sl (n := 1) (bs := [1]) (rQ.go b_Y1) rfl (by omega)) ((Row.sl (n := 1) (bs := [1]) (rQ.go b_Y1) rfl (by omega)).off (Nat.le_refl _)) (sT.go b_V).1 ((sT.go b_V).1.off (Nat.le_refl _))) (Nat.le_refl _) (by simp; have := HL1.out; omega) (by simp)).mono ?_
            rintro e Y5 ⟨vj, rfl, gj⟩
            have bx : Below Y4.heap.size Y4 Y5 := gj.2
            have sj : Sl Y5 Y5.heap.size vj (mv0 ++ 1 :: text) := by have := gives_sl gj; simpa using this
            clear gj
            replace b_V := Below.chain b_V bx
            replace b_Y1 := Below.chain b_Y1 bx
            have b_Y4 := bx
            have m_Y5 : Y4.heap.size ≤ Y5.heap.size := bx.size
            clear bx
            refine ⟨_, rfl, trivial, ?_⟩
            simp only [Act.put, List.setIfInBounds_toArray, List.set_cons_zero, List.set_cons_succ]
            refine held_one 8 (by kernel_rfl) ?_
            refine step_call 8 _ _ (some 32) 93 #[.slice Am0 mk0.length cm0, vj] (by rfl) (by kernel_rfl) (by first | kernel_rfl | go_simp) ?_
            refine (refMac_any Y5.heap.size _ _ mk0 (mv0 ++ 1 :: text) Y5 (sK.go b_V).1 sj (Nat.le_refl _) (by have := HL1.out; omega) (by simp; have := HL1.out; omega)).mono ?_
            rintro e Y6 ⟨vm, rfl, gm⟩
            have bx : Below Y5.heap.size Y5 Y6 := gm.2
            have sm : Sl Y6 Y6.heap.size vm mk1 := by have := gives_sl gm; rw [HM1.out.1]; exact this
            have ofm : Off N vm ∧ Off (N + 1) vm := ⟨gives_off gm N (by have := HV.out.2.2.2.2.2.2; omega), gives_off gm (N + 1) (by have := HV.out.2.2.2.2.2.2; omega)⟩
            have ofg : ∀ g, g < N → Off g vm := fun g hg => gives_off gm g (by have := HV.out.2.2.2.2.2.2; omega)
            clear gm
            obtain ⟨Am, cm, rfl, _, _⟩ := sm.form
            replace b_V := Below.chain b_V bx
            replace b_Y1 := Below.chain b_Y1 bx
            replace b_Y4 := Below.chain b_Y4 bx
            have b_Y5 := bx
            have m_Y6 : Y5.heap.size ≤ Y6.heap.size := bx.size
            clear bx
            refine ⟨_, rfl, trivial, ?_⟩
            simp only [Act.put, List.setIfInBounds_toArray, List.set_cons_zero, List.set_cons_succ]
            refine held_value 9 _ _ (some 33) (.pointer (some ⟨N, 0, none⟩)) (by kernel_rfl) (by rfl) (by kernel_rfl) (fun w hS => by first | kernel_rfl | go_simp) (fun _ _ _ _ h => h) (trivial) ?_
            simp only [Act.put, List.setIfInBounds_toArray, List.set_cons_zero, List.set_cons_succ]
            refine held_one 10 (by kernel_rfl) ?_
            refine step_store1 10 _ (by rfl) (by kernel_rfl) (Y6.setCell ⟨N, 0, none⟩ (.slice Am mk1.length cm)) (by have h := (rB.go b_V).cell 0; simp only [List.getElem?_cons_zero] at h; have hf := (rB.go b_V).free 0; go_simp) ⟨trivial, ?_⟩
            refine wpAnyH_done (by kernel_rfl) ?_ _
            have F : Shh (Row (Y6.setCell ⟨N, 0, none⟩ (.slice Am mk1.length cm)) N 33 [.slice Am mk1.length cm, .slice An0 mv0.length cn0, .int .i64 c] ∧ Row (Y6.setCell ⟨N, 0, none⟩ (.slice Am mk1.length cm)) (N + 1) 33 [.slice none 0 0, .slice none 0 0, .int .i64 0] ∧ SlO (Y6.setCell ⟨N, 0, none⟩ (.slice Am mk1.length cm)) N (.slice Am mk1.length cm) mk1 ∧ SlO (Y6.setCell ⟨N, 0, none⟩ (.slice Am mk1.length cm)) N (.slice An0 mv0.length cn0) mv0 ∧ SlO (Y6.setCell ⟨N, 0, none⟩ (.slice Am mk1.length cm)) N (.slice At text.length ct) text ∧ Below N w (Y6.setCell ⟨N, 0, none⟩ (.slice Am mk1.length cm)) ∧ N + 2 ≤ (Y6.setCell ⟨N, 0, none⟩ (.slice Am mk1.length cm)).heap.size) := ⟨(rB.go b_V).set_ 0 _, (rZ.go b_V).other _ _ (by show N + 1 ≠ N; omega), SlO.set ⟨sm, ofm⟩ 0 _, (sV.go b_V).set 0 _, (sT.go b_V).set 0 _, (HV.out.2.2.2.2.2.1.trans (b_V.mono (by have := HV.out.2.2.2.2.2.2; omega))).setCell (Nat.le_refl _) _, Nat.le_trans HV.out.2.2.2.2.2.2 (Nat.le_trans b_V.size (But.setc _ _ _ _).size)⟩
            have FO : Shh (∀ g, g < N → Off g (.slice Am mk1.length cm)) := ⟨ofg⟩
            generalize hnQ : V.heap.size = nQ
            generalize hnP : Y1.heap.size = nP
            generalize hZZ : Y6.setCell ⟨N, 0, none⟩ (.slice Am mk1.length cm) = ZZ at F ⊢
            clear hnQ hnP hZZ
            clear m_Y6 b_Y5 ofg ofm sm m_Y5 b_Y4 sj m_Y4 b_Y1 z_rP rP m_Y1 b_V z_rQ rQ rB rZ sK sV sT c0 c1 hS HV
            revert FO
            revert F
            revert ZZ nQ nP
            revert Am cm
            revert vj
            exact hT.out
          · refine step_value 3 _ _ (some 27) (.slice An0 mv0.length cn0) Y1 (by rfl) (by kernel_rfl) (by have h := (rB.go b_V).cell 1; simp only [List.getElem?_cons_succ, List.getElem?_cons_zero] at h; go_simp) (trivial) ?_
            simp only [Act.put, List.setIfInBounds_toArray, List.set_cons_zero, List.set_cons_succ]
            refine held_two 1 6 (by kernel_rfl) ?_ ?_
            · refine step_value 1 _ _ (some 25) (.slice Am0 mk0.length cm0) Y1 (by rfl) (by kernel_rfl) (by have h := (rB.go b_V).cell 0; simp only [List.getElem?_cons_zero] at h; go_simp) (trivial) ?_
              simp only [Act.put, List.setIfInBounds_toArray, List.set_cons_zero, List.set_cons_succ]
              refine held_one 6 (by kernel_rfl) ?_
              refine step_value 6 _ _ (some 30) (.slice (some ⟨Y1.heap.size, 0, none⟩) 3 3) (Y1.alloc (.cells #[.slice An0 mv0.length cn0, .slice (some ⟨V.heap.size, 0, none⟩) 1 1, .slice At text.length ct] 22)) (by rfl) (by kernel_rfl) (by first | kernel_rfl | go_simp) (trivial) ?_
              simp only [Act.put, List.setIfInBounds_toArray, List.set_cons_zero, List.set_cons_succ]
              have bx : Below Y1.heap.size Y1 (Y1.alloc (.cells #[.slice An0 mv0.length cn0, .slice (some ⟨V.heap.size, 0, none⟩) 1 1, .slice At text.length ct] 22)) := Below.alloc (Below.refl _ _) (Nat.le_refl _) _
              have rP : Row (Y1.alloc (.cells #[.slice An0 mv0.length cn0, .slice (some ⟨V.heap.size, 0, none⟩) 1 1, .slice At text.length ct] 22)) Y1.heap.size 22 [.slice An0 mv0.length cn0, .slice (some ⟨V.heap.size, 0, none⟩) 1 1, .slice At text.length ct] := Row.new_ rfl rfl
              have z_rP := asz Y1 (.cells #[.slice An0 mv0.length cn0, .slice (some ⟨V.heap.size, 0, none⟩) 1 1, .slice At text.length ct] 22)
              generalize Y1.alloc (.cells #[.slice An0 mv0.length cn0, .slice (some ⟨V.heap.size, 0, none⟩) 1 1, .slice At text.length ct] 22) = Y4 at *
              replace b_V := Below.chain b_V bx
              have b_Y1 := bx
              have m_Y4 : Y1.heap.size ≤ Y4.heap.size := bx.size
              clear bx
              refine held_one 7 (by kernel_rfl) ?_
              refine step_call 7 _ _ (some 31) 12 #[.slice (some ⟨Y1.heap.size, 0, none⟩) 3 3] (by rfl) (by kernel_rfl) (by first | kernel_rfl | go_simp) ?_
              refine (refJoin_any Y4.heap.size Y4.heap.size _ [mv0, [1], text] Y4 (PartsO.three rP.lt (Nat.ne_of_lt rP.lt) rP (sV.go b_V).1 ((sV.go b_V).1.off (Nat.le_refl _)) (Row.sl (n := 1) (bs := [1]) (rQ.go b_Y1) rfl (by omega)) ((Row.sl (n := 1) (bs := [1]) (rQ.go b_Y1) rfl (by omega)).off (Nat.le_refl _)) (sT.go b_V).1 ((sT.go b_V).1.off (Nat.le_refl _))) (Nat.le_refl _) (by simp; have := HL1.out; omega) (by simp)).mono ?_
              rintro e Y5 ⟨vj, rfl, gj⟩
              have bx : Below Y4.heap.size Y4 Y5 := gj.2
              have sj : Sl Y5 Y5.heap.size vj (mv0 ++ 1 :: text) := by have := gives_sl gj; simpa using this
              clear gj
              replace b_V := Below.chain b_V bx
              replace b_Y1 := Below.chain b_Y1 bx
              have b_Y4 := bx
              have m_Y5 : Y4.heap.size ≤ Y5.heap.size := bx.size
              clear bx
              refine ⟨_, rfl, trivial, ?_⟩
              simp only [Act.put, List.setIfInBounds_toArray, List.set_cons_zero, List.set_cons_succ]
              refine held_one 8 (by kernel_rfl) ?_
              refine step_call 8 _ _ (some 32) 93 #[.slice Am0 mk0.length cm0, vj] (by rfl) (by kernel_rfl) (by first | kernel_rfl | go_simp) ?_
              refine (refMac_any Y5.heap.size _ _ mk0 (mv0 ++ 1 :: text) Y5 (sK.go b_V).1 sj (Nat.le_refl _) (by have := HL1.out; omega) (by simp; have := HL1.out; omega)).mono ?_
              rintro e Y6 ⟨vm, rfl, gm⟩
              have bx : Below Y5.heap.size Y5 Y6 := gm.2
              have sm : Sl Y6 Y6.heap.size vm mk1 := by have := gives_sl gm; rw [HM1.out.1]; exact this
              have ofm : Off N vm ∧ Off (N + 1) vm := ⟨gives_off gm N (by have := HV.out.2.2.2.2.2.2; omega), gives_off gm (N + 1) (by have := HV.out.2.2.2.2.2.2; omega)⟩
              have ofg : ∀ g, g < N → Off g vm := fun g hg => gives_off gm g (by have := HV.out.2.2.2.2.2.2; omega)
              clear gm
              obtain ⟨Am, cm, rfl, _, _⟩ := sm.form
              replace b_V := Below.chain b_V bx
              replace b_Y1 := Below.chain b_Y1 bx
              replace b_Y4 := Below.chain b_Y4 bx
              have b_Y5 := bx
              have m_Y6 : Y5.heap.size ≤ Y6.heap.size := bx.size
              clear bx
              refine ⟨_, rfl, trivial, ?_⟩
              simp only [Act.put, List.setIfInBounds_toArray, List.set_cons_zero, List.set_cons_succ]
              refine held_value 9 _ _ (some 33) (.pointer (some ⟨N, 0, none⟩)) (by kernel_rfl) (by rfl) (by kernel_rfl) (fun w hS => by first | kernel_rfl | go_simp) (fun _ _ _ _ h => h) (trivial) ?_
              simp only [Act.put, List.setIfInBounds_toArray, List.set_cons_zero, List.set_cons_succ]
              refine held_one 10 (by kernel_rfl) ?_
              refine step_store1 10 _ (by rfl) (by kernel_rfl) (Y6.setCell ⟨N, 0, none⟩ (.slice Am mk1.length cm)) (by have h := (rB.go b_V).cell 0; simp only [List.getElem?_cons_zero] at h; have hf := (rB.go b_V).free 0; go_simp) ⟨trivial, ?_⟩
              refine wpAnyH_done (by kernel_rfl) ?_ _
              have F : Shh (Row (Y6.setCell ⟨N, 0, none⟩ (.slice Am mk1.length cm)) N 33 [.slice Am mk1.length cm, .slice An0 mv0.length cn0, .int .i64 c] ∧ Row (Y6.setCell ⟨N, 0, none⟩ (.slice Am mk1.length cm)) (N + 1) 33 [.slice none 0 0, .slice none 0 0, .int .i64 0] ∧ SlO (Y6.setCell ⟨N, 0, none⟩ (.slice Am mk1.length cm)) N (.slice Am mk1.length cm) mk1 ∧ SlO (Y6.setCell ⟨N, 0, none⟩ (.slice Am mk1.length cm)) N (.slice An0 mv0.length cn0) mv0 ∧ SlO (Y6.setCell ⟨N, 0, none⟩ (.slice Am mk1.length cm)) N (.slice At text.length ct) text ∧ Below N w (Y6.setCell ⟨N, 0, none⟩ (.slice Am mk1.length cm)) ∧ N + 2 ≤ (Y6.setCell ⟨N, 0, none⟩ (.slice Am mk1.length cm)).heap.size) := ⟨(rB.go b_V).set_ 0 _, (rZ.go b_V).other _ _ (by show N + 1 ≠ N; omega), SlO.set ⟨sm, ofm⟩ 0 _, (sV.go b_V).set 0 _, (sT.go b_V).set 0 _, (HV.out.2.2.2.2.2.1.trans (b_V.mono (by have := HV.out.2.2.2.2.2.2; omega))).setCell (Nat.le_refl _) _, Nat.le_trans HV.out.2.2.2.2.2.2 (Nat.le_trans b_V.size (But.setc _ _ _ _).size)⟩
              have FO : Shh (∀ g, g < N → Off g (.slice Am mk1.length cm)) := ⟨ofg⟩
              generalize hnQ : V.heap.size = nQ
              generalize hnP : Y1.heap.size = nP
              generalize hZZ : Y6.setCell ⟨N, 0, none⟩ (.slice Am mk1.length cm) = ZZ at F ⊢
              clear hnQ hnP hZZ
              clear m_Y6 b_Y5 ofg ofm sm m_Y5 b_Y4 sj m_Y4 b_Y1 z_rP rP m_Y1 b_V z_rQ rQ rB rZ sK sV sT c0 c1 hS HV
              revert FO
              revert F
              revert ZZ nQ nP
              revert Am cm
              revert vj
              exact hT.out
            · refine step_value 6 _ _ (some 30) (.slice (some ⟨Y1.heap.size, 0, none⟩) 3 3) (Y1.alloc (.cells #[.slice An0 mv0.length cn0, .slice (some ⟨V.heap.size, 0, none⟩) 1 1, .slice At text.length ct] 22)) (by rfl) (by kernel_rfl) (by first | kernel_rfl | go_simp) (trivial) ?_
              simp only [Act.put, List.setIfInBounds_toArray, List.set_cons_zero, List.set_cons_succ]
              have bx : Below Y1.heap.size Y1 (Y1.alloc (.cells #[.slice An0 mv0.length cn0, .slice (some ⟨V.heap.size, 0, none⟩) 1 1, .slice At text.length ct] 22)) := Below.alloc (Below.refl _ _) (Nat.le_refl _) _
              have rP : Row (Y1.alloc (.cells #[.slice An0 mv0.length cn0, .slice (some ⟨V.heap.size, 0, none⟩) 1 1, .slice At text.length ct] 22)) Y1.heap.size 22 [.slice An0 mv0.length cn0, .slice (some ⟨V.heap.size, 0, none⟩) 1 1, .slice At text.length ct] := Row.new_ rfl rfl
              have z_rP := asz Y1 (.cells #[.slice An0 mv0.length cn0, .slice (some ⟨V.heap.size, 0, none⟩) 1 1, .slice At text.length ct] 22)
              generalize Y1.alloc (.cells #[.slice An0 mv0.length cn0, .slice (some ⟨V.heap.size, 0, none⟩) 1 1, .slice At text.length ct] 22) = Y3 at *
              replace b_V := Below.chain b_V bx
              have b_Y1 := bx
              have m_Y3 : Y1.heap.size ≤ Y3.heap.size := bx.size
              clear bx
              refine held_two 1 7 (by kernel_rfl) ?_ ?_
              · refine step_value 1 _ _ (some 25) (.slice Am0 mk0.length cm0) Y3 (by rfl) (by kernel_rfl) (by have h := (rB.go b_V).cell 0; simp only [List.getElem?_cons_zero] at h; go_simp) (trivial) ?_
                simp only [Act.put, List.setIfInBounds_toArray, List.set_cons_zero, List.set_cons_succ]
                refine held_one 7 (by kernel_rfl) ?_
                refine step_call 7 _ _ (some 31) 12 #[.slice (some ⟨Y1.heap.size, 0, none⟩) 3 3] (by rfl) (by kernel_rfl) (by first | kernel_rfl | go_simp) ?_
                refine (refJoin_any Y3.heap.size Y3.heap.size _ [mv0, [1], text] Y3 (PartsO.three rP.lt (Nat.ne_of_lt rP.lt) rP (sV.go b_V).1 ((sV.go b_V).1.off (Nat.le_refl _)) (Row.sl (n := 1) (bs := [1]) (rQ.go b_Y1) rfl (by omega)) ((Row.sl (n := 1) (bs := [1]) (rQ.go b_Y1) rfl (by omega)).off (Nat.le_refl _)) (sT.go b_V).1 ((sT.go b_V).1.off (Nat.le_refl _))) (Nat.le_refl _) (by simp; have := HL1.out; omega) (by simp)).mono ?_
                rintro e Y5 ⟨vj, rfl, gj⟩
                have bx : Below Y3.heap.size Y3 Y5 := gj.2
                have sj : Sl Y5 Y5.heap.size vj (mv0 ++ 1 :: text) := by have := gives_sl gj; simpa using this
                clear gj
                replace b_V := Below.chain b_V bx
                replace b_Y1 := Below.chain b_Y1 bx
                have b_Y3 := bx
                have m_Y5 : Y3.heap.size ≤ Y5.heap.size := bx.size
                clear bx
                refine ⟨_, rfl, trivial, ?_⟩
                simp only [Act.put, List.setIfInBounds_toArray, List.set_cons_zero, List.set_cons_succ]
                refine held_one 8 (by kernel_rfl) ?_
                refine step_call 8 _ _ (some 32) 93 #[.slice Am0 mk0.length cm0, vj] (by rfl) (by kernel_rfl) (by first | kernel_rfl | go_simp) ?_
                refine (refMac_any Y5.heap.size _ _ mk0 (mv0 ++ 1 :: text) Y5 (sK.go b_V).1 sj (Nat.le_refl _) (by have := HL1.out; omega) (by simp; have := HL1.out; omega)).mono ?_
                rintro e Y6 ⟨vm, rfl, gm⟩
                have bx : Below Y5.heap.size Y5 Y6 := gm.2
                have sm : Sl Y6 Y6.heap.size vm mk1 := by have := gives_sl gm; rw [HM1.out.1]; exact this
                have ofm : Off N vm ∧ Off (N + 1) vm := ⟨gives_off gm N (by have := HV.out.2.2.2.2.2.2; omega), gives_off gm (N + 1) (by have := HV.out.2.2.2.2.2.2; omega)⟩
                have ofg : ∀ g, g < N → Off g vm := fun g hg => gives_off gm g (by have := HV.out.2.2.2.2.2.2; omega)
                clear gm
                obtain ⟨Am, cm, rfl, _, _⟩ := sm.form
                replace b_V := Below.chain b_V bx
                replace b_Y1 := Below.chain b_Y1 bx
                replace b_Y3 := Below.chain b_Y3 bx
                have b_Y5 := bx
                have m_Y6 : Y5.heap.size ≤ Y6.heap.size := bx.size
                clear bx
                refine ⟨_, rfl, trivial, ?_⟩
                simp only [Act.put, List.setIfInBounds_toArray, List.set_cons_zero, List.set_cons_succ]
                refine held_value 9 _ _ (some 33) (.pointer (some ⟨N, 0, none⟩)) (by kernel_rfl) (by rfl) (by kernel_rfl) (fun w hS => by first | kernel_rfl | go_simp) (fun _ _ _ _ h => h) (trivial) ?_
                simp only [Act.put, List.setIfInBounds_toArray, List.set_cons_zero, List.set_cons_succ]
                refine held_one 10 (by kernel_rfl) ?_
                refine step_store1 10 _ (by rfl) (by kernel_rfl) (Y6.setCell ⟨N, 0, none⟩ (.slice Am mk1.length cm)) (by have h := (rB.go b_V).cell 0; simp only [List.getElem?_cons_zero] at h; have hf := (rB.go b_V).free 0; go_simp) ⟨trivial, ?_⟩
                refine wpAnyH_done (by kernel_rfl) ?_ _
                have F : Shh (Row (Y6.setCell ⟨N, 0, none⟩ (.slice Am mk1.length cm)) N 33 [.slice Am mk1.length cm, .slice An0 mv0.length cn0, .int .i64 c] ∧ Row (Y6.setCell ⟨N, 0, none⟩ (.slice Am mk1.length cm)) (N + 1) 33 [.slice none 0 0, .slice none 0 0, .int .i64 0] ∧ SlO (Y6.setCell ⟨N, 0, none⟩ (.slice Am mk1.length cm)) N (.slice Am mk1.length cm) mk1 ∧ SlO (Y6.setCell ⟨N, 0, none⟩ (.slice Am mk1.length cm)) N (.slice An0 mv0.length cn0) mv0 ∧ SlO (Y6.setCell ⟨N, 0, none⟩ (.slice Am mk1.length cm)) N (.slice At text.length ct) text ∧ Below N w (Y6.setCell ⟨N, 0, none⟩ (.slice Am mk1.length cm)) ∧ N + 2 ≤ (Y6.setCell ⟨N, 0, none⟩ (.slice Am mk1.length cm)).heap.size) := ⟨(rB.go b_V).set_ 0 _, (rZ.go b_V).other _ _ (by show N + 1 ≠ N; omega), SlO.set ⟨sm, ofm⟩ 0 _, (sV.go b_V).set 0 _, (sT.go b_V).set 0 _, (HV.out.2.2.2.2.2.1.trans (b_V.mono (by have := HV.out.2.2.2.2.2.2; omega))).setCell (Nat.le_refl _) _, Nat.le_trans HV.out.2.2.2.2.2.2 (Nat.le_trans b_V.size (But.setc _ _ _ _).size)⟩
                have FO : Shh (∀ g, g < N → Off g (.slice Am mk1.length cm)) := ⟨ofg⟩
                generalize hnQ : V.heap.size = nQ
                generalize hnP : Y1.heap.size = nP
                generalize hZZ : Y6.setCell ⟨N, 0, none⟩ (.slice Am mk1.length cm) = ZZ at F ⊢
                clear hnQ hnP hZZ
                clear m_Y6 b_Y5 ofg ofm sm m_Y5 b_Y3 sj m_Y3 b_Y1 z_rP rP m_Y1 b_V z_rQ rQ rB rZ sK sV sT c0 c1 hS HV
                revert FO
                revert F
                revert ZZ nQ nP
                revert Am cm
                revert vj
                exact hT.out
              · refine step_call 7 _ _ (some 31) 12 #[.slice (some ⟨Y1.heap.size, 0, none⟩) 3 3] (by rfl) (by kernel_rfl) (by first | kernel_rfl | go_simp) ?_
                refine (refJoin_any Y3.heap.size Y3.heap.size _ [mv0, [1], text] Y3 (PartsO.three rP.lt (Nat.ne_of_lt rP.lt) rP (sV.go b_V).1 ((sV.go b_V).1.off (Nat.le_refl _)) (Row.sl (n := 1) (bs := [1]) (rQ.go b_Y1) rfl (by omega)) ((Row.sl (n := 1) (bs := [1]) (rQ.go b_Y1) rfl (by omega)).off (Nat.le_refl _)) (sT.go b_V).1 ((sT.go b_V).1.off (Nat.le_refl _))) (Nat.le_refl _) (by simp; have := HL1.out; omega) (by simp)).mono ?_
                rintro e Y4 ⟨vj, rfl, gj⟩
                have bx : Below Y3.heap.size Y3 Y4 := gj.2
                have sj : Sl Y4 Y4.heap.size vj (mv0 ++ 1 :: text) := by have := gives_sl gj; simpa using this
                clear gj
                replace b_V := Below.chain b_V bx
                replace b_Y1 := Below.chain b_Y1 bx
                have b_Y3 := bx
                have m_Y4 : Y3.heap.size ≤ Y4.heap.size := bx.size
                clear bx
                refine ⟨_, rfl, trivial, ?_⟩
                simp only [Act.put, List.setIfInBounds_toArray, List.set_cons_zero, List.set_cons_succ]
                refine held_one 1 (by kernel_rfl) ?_
                refine step_value 1 _ _ (some 25) (.slice Am0 mk0.length cm0) Y4 (by rfl) (by kernel_rfl) (by have h := (rB.go b_V).cell 0; simp only [List.getElem?_cons_zero] at h; go_simp) (trivial) ?_
                simp only [Act.put, List.setIfInBounds_toArray, List.set_cons_zero, List.set_cons_succ]
                refine held_one 8 (by kernel_rfl) ?_
                refine step_call 8 _ _ (some 32) 93 #[.slice Am0 mk0.length cm0, vj] (by rfl) (by kernel_rfl) (by first | kernel_rfl | go_simp) ?_
                refine (refMac_any Y4.heap.size _ _ mk0 (mv0 ++ 1 :: text) Y4 (sK.go b_V).1 sj (Nat.le_refl _) (by have := HL1.out; omega) (by simp; have := HL1.out; omega)).mono ?_
                rintro e Y6 ⟨vm, rfl, gm⟩
                have bx : Below Y4.heap.size Y4 Y6 := gm.2
                have sm : Sl Y6 Y6.heap.size vm mk1 := by have := gives_sl gm; rw [HM1.out.1]; exact this
                have ofm : Off N vm ∧ Off (N + 1) vm := ⟨gives_off gm N (by have := HV.out.2.2.2.2.2.2; omega), gives_off gm (N + 1) (by have := HV.out.2.2.2.2.2.2; omega)⟩
                have ofg : ∀ g, g < N → Off g vm := fun g hg => gives_off gm g (by have := HV.out.2.2.2.2.2.2; omega)
                clear gm
                obtain ⟨Am, cm, rfl, _, _⟩ := sm.form
                replace b_V := Below.chain b_V bx
                replace b_Y1 := Below.chain b_Y1 bx
                replace b_Y3 := Below.chain b_Y3 bx
                have b_Y4 := bx
                have m_Y6 : Y4.heap.size ≤ Y6.heap.size := bx.size
                clear bx
                refine ⟨_, rfl, trivial, ?_⟩
                simp only [Act.put, List.setIfInBounds_toArray, List.set_cons_zero, List.set_cons_succ]
                refine held_value 9 _ _ (some 33) (.pointer (some ⟨N, 0, none⟩)) (by kernel_rfl) (by rfl) (by kernel_rfl) (fun w hS => by first | kernel_rfl | go_simp) (fun _ _ _ _ h => h) (trivial) ?_
                simp only [Act.put, List.setIfInBounds_toArray, List.set_cons_zero, List.set_cons_succ]
                refine held_one 10 (by kernel_rfl) ?_
                refine step_store1 10 _ (by rfl) (by kernel_rfl) (Y6.setCell ⟨N, 0, none⟩ (.slice Am mk1.length cm)) (by have h := (rB.go b_V).cell 0; simp only [List.getElem?_cons_zero] at h; have hf := (rB.go b_V).free 0; go_simp) ⟨trivial, ?_⟩
                refine wpAnyH_done (by kernel_rfl) ?_ _
                have F : Shh (Row (Y6.setCell ⟨N, 0, none⟩ (.slice Am mk1.length cm)) N 33 [.slice Am mk1.length cm, .slice An0 mv0.length cn0, .int .i64 c] ∧ Row (Y6.setCell ⟨N, 0, none⟩ (.slice Am mk1.length cm)) (N + 1) 33 [.slice none 0 0, .slice none 0 0, .int .i64 0] ∧ SlO (Y6.setCell ⟨N, 0, none⟩ (.slice Am mk1.length cm)) N (.slice Am mk1.length cm) mk1 ∧ SlO (Y6.setCell ⟨N, 0, none⟩ (.slice Am mk1.length cm)) N (.slice An0 mv0.length cn0) mv0 ∧ SlO (Y6.setCell ⟨N, 0, none⟩ (.slice Am mk1.length cm)) N (.slice At text.length ct) text ∧ Below N w (Y6.setCell ⟨N, 0, none⟩ (.slice Am mk1.length cm)) ∧ N + 2 ≤ (Y6.setCell ⟨N, 0, none⟩ (.slice Am mk1.length cm)).heap.size) := ⟨(rB.go b_V).set_ 0 _, (rZ.go b_V).other _ _ (by show N + 1 ≠ N; omega), SlO.set ⟨sm, ofm⟩ 0 _, (sV.go b_V).set 0 _, (sT.go b_V).set 0 _, (HV.out.2.2.2.2.2.1.trans (b_V.mono (by have := HV.out.2.2.2.2.2.2; omega))).setCell (Nat.le_refl _) _, Nat.le_trans HV.out.2.2.2.2.2.2 (Nat.le_trans b_V.size (But.setc _ _ _ _).size)⟩
                have FO : Shh (∀ g, g < N → Off g (.slice Am mk1.length cm)) := ⟨ofg⟩
                generalize hnQ : V.heap.size = nQ
                generalize hnP : Y1.heap.size = nP
                generalize hZZ : Y6.setCell ⟨N, 0, none⟩ (.slice Am mk1.length cm) = ZZ at F ⊢
                clear hnQ hnP hZZ
                clear m_Y6 b_Y4 ofg ofm sm m_Y4 b_Y3 sj m_Y3 b_Y1 z_rP rP m_Y1 b_V z_rQ rQ rB rZ sK sV sT c0 c1 hS HV
                revert FO
                revert F
                revert ZZ nQ nP
                revert Am cm
                revert vj
                exact hT.out
      case tt1 =>
        intro vj Am1 cm1 _ _ nQ nP X1 F1 FO1
        clear HB
        have d0 := F1.out.1.cell 0
        have d1 := F1.out.1.cell 1
        have df := F1.out.1.free 1
        go_wp2_with (go_at_call 93; refine (refMac_any _ _ _ mk1 mv0 X1 F1.out.2.2.1.1 F1.out.2.2.2.1.1 (Nat.le_refl _) (by have := HL1b.out; omega) (by have := HL1.out; omega)).mono ?_)
        rintro e Y ⟨vn, rfl, gn⟩
        have sn : Sl Y Y.heap.size vn mv1 := by have := gives_sl gn; rw [HM1.out.2]; exact this
        have ofn : Off N vn ∧ Off (N + 1) vn := ⟨gives_off gn N (by have := F1.out.2.2.2.2.2.2; omega), gives_off gn (N + 1) (by have := F1.out.2.2.2.2.2.2; omega)⟩
        obtain ⟨An1, cn1, rfl, _, _⟩ := sn.form
        have G1 : Shh (Row (Y.setCell ⟨N, 1, none⟩ (.slice An1 mv1.length cn1)) N 33 [.slice Am1 mk1.length cm1, .slice An1 mv1.length cn1, .int .i64 c] ∧ Row (Y.setCell ⟨N, 1, none⟩ (.slice An1 mv1.length cn1)) (N + 1) 33 [.slice none 0 0, .slice none 0 0, .int .i64 0] ∧ SlO (Y.setCell ⟨N, 1, none⟩ (.slice An1 mv1.length cn1)) N (.slice Am1 mk1.length cm1) mk1 ∧ SlO (Y.setCell ⟨N, 1, none⟩ (.slice An1 mv1.length cn1)) N (.slice An1 mv1.length cn1) mv1 ∧ SlO (Y.setCell ⟨N, 1, none⟩ (.slice An1 mv1.length cn1)) N (.slice At text.length ct) text ∧ Below N w (Y.setCell ⟨N, 1, none⟩ (.slice An1 mv1.length cn1)) ∧ N + 2 ≤ (Y.setCell ⟨N, 1, none⟩ (.slice An1 mv1.length cn1)).heap.size) :=
          ⟨(F1.out.1.go gn.2).set_ 1 _, (F1.out.2.1.go gn.2).other _ _ (by show N + 1 ≠ N; omega), (F1.out.2.2.1.go gn.2).set 1 _, SlO.set ⟨sn, ofn⟩ 1 _, (F1.out.2.2.2.2.1.go gn.2).set 1 _, (F1.out.2.2.2.2.2.1.trans (gn.2.mono (by have := F1.out.2.2.2.2.2.2; omega))).setCell (Nat.le_refl _) _, Nat.le_trans F1.out.2.2.2.2.2.2 (Nat.le_trans gn.2.size (But.setc _ _ _ _).size)⟩
        have GO1 : Shh (∀ g, g < N → Off g (.slice An1 mv1.length cn1)) := ⟨fun g hg => gives_off gn g (by have := F1.out.2.2.2.2.2.2; omega)⟩
        have d1y := (F1.out.1.go gn.2).cell 1
        have dfy := (F1.out.1.go gn.2).free 1
        simp only [List.getElem?_cons_succ, List.getElem?_cons_zero] at d1y
        clear sn gn ofn d0 d1 df F1
        go_wp2_with (refine wl_store1 rfl rfl (Y.setCell ⟨N, 1, none⟩ (.slice An1 mv1.length cn1)) (by go_simp) ?_)
        intro Z1 hZ
        rw [← hZ] at G1
        clear hZ d1y dfy
        clear HM1
        go_wp2_with (first | refine wpList_load_any rfl 33 (.tmp 2) rfl N rfl 33 [.slice Am1 mk1.length cm1, .slice An1 mv1.length cn1, .int .i64 c] _ G1.out.1 Tryd.underlying33 rfl info_rd ?_ | refine wpList_store_any rfl 33 (.tmp 4) (.tmp 40) rfl (N + 1) rfl [.slice Am1 mk1.length cm1, .slice An1 mv1.length cn1, .int .i64 c] rfl 33 [.slice none 0 0, .slice none 0 0, .int .i64 0] G1.out.2.1 info_rd rfl cell_slices ?_)
        intro Z hrZ btZ _
        have HE : Shh (Row Z (N + 1) 33 [.slice Am1 mk1.length cm1, .slice An1 mv1.length cn1, .int .i64 c] ∧ keyL (updL text s) = mk1 ∧ valL (updL text s) = mv1 ∧ Sl Z Z.heap.size (.slice Am1 mk1.length cm1) mk1 ∧ Sl Z Z.heap.size (.slice An1 mv1.length cn1) mv1 ∧ Below N w Z) :=
          ⟨hrZ, (HQ.out).1, (HQ.out).2, (G1.out.2.2.1.1.but G1.out.2.2.1.2.2 btZ).more btZ.size, (G1.out.2.2.2.1.1.but G1.out.2.2.2.1.2.2 btZ).more btZ.size, G1.out.2.2.2.2.2.1.trans (btZ.under (by have := G1.out.2.2.2.2.2.2; omega) (by omega))⟩
        clear hrZ btZ G1
        go_wp2
        exact ret_row Tryd.results52 rfl rfl HE.out.1 Tryd.underlying33 rfl info_rd ⟨_, _, rfl, by rw [HE.out.2.1]; exact HE.out.2.2.2.1, by rw [HE.out.2.2.1]; exact HE.out.2.2.2.2.1, by rw [hN]; exact HE.out.2.2.2.2.2, fun g hg => ⟨FO1.out g (by omega), GO1.out g (by omega)⟩⟩
end Go.Proofs.YtanpplniedphkaaDoor
