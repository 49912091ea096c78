/-
 THE LAW DringTurns.
-/
import Derived.Test.YtapjiknedghhfaaDq7
import Derived.Test.YtapjiknedghhfaaDl1
namespace Go.Proofs.Ytapjiknedghhfaa
open Go.RowKit
set_option maxRecDepth 100000
section
variable {md : Region.Mode} {ops : Array Oper} {Q : Exit → Act → World → Prop} {S : World → Prop} {fuel : Nat} {listed : Array Bool} {a : Act} {w : World}
theorem step_newzD (i d : Nat) {ty : TypeId} (hop : (ops[i]?).map (fun o => (o.op, o.type, o.dst)) = some (.alloc 23, ty, some d)) (hw : (ops[i]?).map (fun o => Region.wanted o (yielded ops a.tmps)) = some true)
 (h : ∀ g w2, Shh (g = w.heap.size) → Row w2 g 23 (dc fun _ => 0) → Below w.heap.size w w2 → S w2 ∧ wpAnyH Try.prog md ops Q S fuel (listed.setIfInBounds i true) (a.put (some d) (.pointer (some ⟨g, 0, none⟩))) w2) : HStep Try.prog md ops Q S fuel listed a w i := by
 have h1 := h w.heap.size (w.alloc (.cells (dc fun _ => 0).toArray 23)) ⟨rfl⟩ (Row.new_ rfl rfl) (belA _ _)
 exact step_value i _ _ (some d) (.pointer (some ⟨w.heap.size, 0, none⟩)) (w.alloc (.cells (dc fun _ => 0).toArray 23)) hop hw (run_alloc_dD rfl) h1.1 h1.2
end
set_option maxHeartbeats 8000000 in
theorem dringTurns_law (p p2 : Nat → Int) (hp : ∀ i, i < 256 → i32 (p i)) (hp2 : ∀ i, i < 256 → i32 (p2 i)) (w : World) : Calls Try.prog 8 #[polyD p, polyD p2] w (TrueIs w) := by
 unfold TrueIs polyD
 have HLV : Shh (∀ W, Calls Try.prog 11 #[] W (TrueIs W)) := ⟨fun W => live15 W⟩
 have H1 : Shh (∀ W, Calls Try.prog 24 #[.agg (dc (p)).toArray] W (DPolyIs W (nttD p))) := ⟨fun W => Ntt_any p hp W⟩
 have H2 : Shh (∀ W, Calls Try.prog 24 #[.agg (dc (p2)).toArray] W (DPolyIs W (nttD p2))) := ⟨fun W => Ntt_any p2 hp2 W⟩
 have H3 : Shh (∀ W, Calls Try.prog 22 #[.agg (dc (p)).toArray, .agg (dc (p2)).toArray] W (DPolyIs W (mulD p p2))) := ⟨fun W => Mul_any p p2 hp hp2 W⟩
 have H4 : Shh (∀ W, Calls Try.prog 24 #[.agg (dc (mulD p p2)).toArray] W (DPolyIs W (pairD (nttD p) (nttD p2)))) := ⟨fun W => by
  have h := Ntt_any _ (fun i _ => mulD_32 p p2 i) W
  unfold DPolyIs at *
  rw [show dc (nttD (mulD p p2)) = dc (pairD (nttD p) (nttD p2)) from dc_of fun i hi => ntt_mulD p p2 i hi] at h
  exact h⟩
 have H5 : Shh (∀ W, Calls Try.prog 29 #[.agg (dc (nttD p)).toArray, .agg (dc (nttD p2)).toArray] W (DPolyIs W (pairD (nttD p) (nttD p2)))) := ⟨fun W => MulNtt_any _ _ (fun i _ => nttD_32 p i) (fun i _ => nttD_32 p2 i) W⟩
 have H6 : Shh (∀ W, Calls Try.prog 18 #[.agg (dc (p)).toArray, .agg (dc (p2)).toArray] W (DPolyIs W (addD p p2))) := ⟨fun W => Add_any p p2 hp hp2 W⟩
 have H7 : Shh (∀ W, Calls Try.prog 24 #[.agg (dc (addD p p2)).toArray] W (DPolyIs W (addD (nttD p) (nttD p2)))) := ⟨fun W => by
  have h := Ntt_any _ (fun i _ => qd_32 (p i + p2 i)) W
  unfold DPolyIs at *
  rw [show (nttD fun i => qd (p i + p2 i)) = addD (nttD p) (nttD p2) from funext fun i => ntt_addD p p2 i] at h
  exact h⟩
 have H8 : Shh (∀ W, Calls Try.prog 18 #[.agg (dc (nttD p)).toArray, .agg (dc (nttD p2)).toArray] W (DPolyIs W (addD (nttD p) (nttD p2)))) := ⟨fun W => Add_any _ _ (fun i _ => nttD_32 p i) (fun i _ => nttD_32 p2 i) W⟩
 have H9 : Shh (∀ W, Calls Try.prog 22 #[.agg (dc (p2)).toArray, .agg (dc (p)).toArray] W (DPolyIs W (mulD p p2))) := ⟨fun W => by
  have h := Mul_any p2 p hp2 hp W
  unfold DPolyIs at *
  rw [show dc (mulD p2 p) = dc (mulD p p2) from dc_of fun i hi => mul_commD p2 p i hi] at h
  exact h⟩
 have H10 : Shh (∀ W, Calls Try.prog 20 #[.agg (dc (addD p p2)).toArray, .agg (dc (p2)).toArray] W (DPolyIs W (redD p))) := ⟨fun W => by
  have h := Sub_any _ p2 (fun i _ => qd_32 (p i + p2 i)) hp2 W
  unfold DPolyIs at *
  rw [show (subD (fun i => qd (p i + p2 i)) p2) = redD p from funext fun i => sub_addD p p2 i] at h
  exact h⟩
 have H11 : Shh (∀ W, Calls Try.prog 12 #[.agg (dc (p)).toArray] W (DPolyIs W (redD p))) := ⟨fun W => Reduce_any p hp W⟩
 have E1 := Shh.mk (eq_dpoly (pairD (nttD p) (nttD p2)) fun i _ => qd_32 _)
 have E2 := Shh.mk (eq_dpoly (addD (nttD p) (nttD p2)) fun i _ => qd_32 _)
 have E3 := Shh.mk (eq_dpoly (mulD p p2) fun i _ => qd_32 _)
 have E4 := Shh.mk (eq_dpoly (redD p) fun i _ => redD_32 p i)
 clear hp hp2
 generalize pairD (nttD p) (nttD p2) = pr at *
 generalize addD (nttD p) (nttD p2) = sn at *
 generalize mulD p p2 = m at *
 generalize addD p p2 = sm at *
 generalize redD p = rd at *
 generalize nttD p = n1 at *
 generalize nttD p2 = n2 at *
 generalize hN : w.heap.size = N at *
 have FA : Shh (Row ((w.alloc (.cells (dc p).toArray 23)).alloc (.cells (dc p2).toArray 23)) N 23 (dc p) ∧ Row ((w.alloc (.cells (dc p).toArray 23)).alloc (.cells (dc p2).toArray 23)) (N + 1) 23 (dc p2) ∧ Below N w ((w.alloc (.cells (dc p).toArray 23)).alloc (.cells (dc p2).toArray 23))) := by
  refine ⟨((Row.new_ hN.symm rfl).alloc _), (Row.new_ (by rw [asz, hN]) rfl), ?_⟩
  rw [← hN]
  exact Below.chain (belA _ _) (belA _ _)
 go_enter Try.func8, Try.ntmps8
 obtain ⟨W, hW⟩ : ∃ W, W = ((w.alloc (.cells (dc p).toArray 23)).alloc (.cells (dc p2).toArray 23)) := ⟨_, rfl⟩
 have FB : Shh (Row W N 23 (dc p) ∧ Row W (N + 1) 23 (dc p2) ∧ Below N w W) := by rw [hW]; exact FA
 clear FA
 go_wp2
 try simp only [asz, hN]
 rw [← hW]
 clear hW
 try simp only [Act.put, arr9, hd9, tl9]
 refine wp_region_held_drew (S := fun w' => Row w' N 23 (dc p) ∧ Row w' (N + 1) 23 (dc p2)) (by kernel_rfl) ⟨FB.out.1.drew, FB.out.2.1.drew⟩ (fun hS => ?_)
 clear hS
 obtain ⟨X1, hX1⟩ : ∃ V, V = World.drew W := ⟨_, rfl⟩
 rw [← hX1]
 have FC : Shh (Row X1 N 23 (dc p) ∧ Row X1 (N + 1) 23 (dc p2) ∧ Below N w X1) := by
  obtain ⟨h0, h1, h2⟩ := FB.out
  rw [hX1]
  exact ⟨h0.drew, h1.drew, h2.drew⟩
 clear hX1 FB
 refine share (T := ?T9) (fun hT => ?gg9) ?tt9
 case gg9 =>
  have FY := FC
  refine held_load 0 23 (.tmp 2) (some 7) (by kernel_rfl) (by rfl) (by kernel_rfl) (N) 0 (by kernel_rfl) (dc p) _ (fun w h => h.1.range) Try.underlying23 rfl (info_dD.trans (size_dc _)) (fun _ _ _ _ h => h) ⟨FY.out.1, FY.out.2.1⟩ ?_
  simp only [Act.put, arr9, hd9, tl9]
  refine held_load 2 23 (.tmp 3) (some 9) (by kernel_rfl) (by rfl) (by kernel_rfl) ((N + 1)) 0 (by kernel_rfl) (dc p2) _ (fun w h => h.2.range) Try.underlying23 rfl (info_dD.trans (size_dc _)) (fun _ _ _ _ h => h) ⟨FY.out.1, FY.out.2.1⟩ ?_
  simp only [Act.put, arr9, hd9, tl9]
  refine held_three 1 4 5 (by kernel_rfl) ?_ ?_ ?_
  ·refine step_call 1 _ _ (some 8) 24 #[.agg (dc p).toArray] (by rfl) (by kernel_rfl) (by first | kernel_rfl | go_simp) ?_
   refine (H1.out X1).mono ?_
   rintro e w3 ⟨rfl, b2⟩
   have FZ : Shh (Row w3 N 23 (dc p) ∧ Row w3 (N + 1) 23 (dc p2) ∧ Below N w w3) := by
    obtain ⟨h0, h1, h2⟩ := FY.out
    have := h0.lt
    have := h1.lt
    have := b2.size
    exact ⟨h0.go b2, h1.go b2, h2.trans (b2.mono (by omega))⟩
   clear b2 FY
   refine ⟨_, rfl, ⟨FZ.out.1, FZ.out.2.1⟩, ?_⟩
   simp only [Act.put, arr9, hd9, tl9]
   refine held_three 3 4 5 (by kernel_rfl) ?_ ?_ ?_
   ·refine step_call 3 _ _ (some 10) 24 #[.agg (dc p2).toArray] (by rfl) (by kernel_rfl) (by first | kernel_rfl | go_simp) ?_
    refine (H2.out w3).mono ?_
    rintro e w5 ⟨rfl, b4⟩
    have FA : Shh (Row w5 N 23 (dc p) ∧ Row w5 (N + 1) 23 (dc p2) ∧ Below N w w5) := by
     obtain ⟨h0, h1, h2⟩ := FZ.out
     have := h0.lt
     have := h1.lt
     have := b4.size
     exact ⟨h0.go b4, h1.go b4, h2.trans (b4.mono (by omega))⟩
    clear b4 FZ
    refine ⟨_, rfl, ⟨FA.out.1, FA.out.2.1⟩, ?_⟩
    simp only [Act.put, arr9, hd9, tl9]
    refine held_two 4 5 (by kernel_rfl) ?_ ?_
    ·refine step_newzD 4 5 (by rfl) (by kernel_rfl) ?_
     intro G5 w7 hG5 r8 b6
     have FB : Shh (Row w7 N 23 (dc p) ∧ Row w7 (N + 1) 23 (dc p2) ∧ Below N w w7 ∧ Row w7 G5 23 (dc fun _ => 0) ∧ N + 1 < G5 ∧ N < N + 1) := by
      obtain ⟨h0, h1, h2⟩ := FA.out
      have := h0.lt
      have := h1.lt
      have := b6.size
      have := hG5.out
      exact ⟨h0.go b6, h1.go b6, h2.trans (b6.mono (by omega)), r8, (by omega), (by omega)⟩
     clear b6 FA r8 hG5
     refine ⟨⟨FB.out.1, FB.out.2.1⟩, ?_⟩
     simp only [Act.put, arr9, hd9, tl9]
     refine held_one 5 (by kernel_rfl) ?_
     refine step_newzD 5 6 (by rfl) (by kernel_rfl) ?_
     intro G6 w10 hG6 r11 b9
     have FC : Shh (Row w10 N 23 (dc p) ∧ Row w10 (N + 1) 23 (dc p2) ∧ Below N w w10 ∧ Row w10 G5 23 (dc fun _ => 0) ∧ N + 1 < G5 ∧ N < N + 1 ∧ Row w10 G6 23 (dc fun _ => 0) ∧ N + 1 < G6 ∧ G5 ≠ G6) := by
      obtain ⟨h0, h1, h2, h3, h4, h5⟩ := FB.out
      have := h0.lt
      have := h1.lt
      have := h3.lt
      have := b9.size
      have := hG6.out
      exact ⟨h0.go b9, h1.go b9, h2.trans (b9.mono (by omega)), h3.go b9, h4, h5, r11, (by omega), (by omega)⟩
     clear b9 FB r11 hG6
     refine ⟨⟨FC.out.1, FC.out.2.1⟩, ?_⟩
     simp only [Act.put, arr9, hd9, tl9]
     refine held_one 6 (by kernel_rfl) ?_
     refine step_storeRow 6 23 (.tmp 5) (.tmp 8) (by rfl) (by kernel_rfl) G5 (by kernel_rfl) (dc n1) (by kernel_rfl) 23 _ FC.out.2.2.2.1 (info_dD.trans (size_dc _)) (same_dc _ _) (dc_one _) ?_
     intro w13 r14 bt12 zbt12
     have FD : Shh (Row w13 N 23 (dc p) ∧ Row w13 (N + 1) 23 (dc p2) ∧ Below N w w13 ∧ Row w13 G5 23 (dc n1) ∧ N + 1 < G5 ∧ N < N + 1 ∧ Row w13 G6 23 (dc fun _ => 0) ∧ N + 1 < G6 ∧ G5 ≠ G6) := by
      obtain ⟨h0, h1, h2, h3, h4, h5, h6, h7, h8⟩ := FC.out
      have := h0.lt
      have := h1.lt
      have := h3.lt
      have := h6.lt
      have hb := bt12.under (Nat.le_of_lt h3.lt) (Nat.le_refl _)
      have := hb.size
      exact ⟨bt12.row h0 h0.lt (by omega), bt12.row h1 h1.lt (by omega), h2.trans (hb.mono (by omega)), r14, h4, h5, bt12.row h6 h6.lt (by omega), h7, h8⟩
     clear bt12 FC r14 zbt12
     refine ⟨⟨FD.out.1, FD.out.2.1⟩, ?_⟩
     refine held_one 7 (by kernel_rfl) ?_
     refine step_storeRow 7 23 (.tmp 6) (.tmp 10) (by rfl) (by kernel_rfl) G6 (by kernel_rfl) (dc n2) (by kernel_rfl) 23 _ FD.out.2.2.2.2.2.2.1 (info_dD.trans (size_dc _)) (same_dc _ _) (dc_one _) ?_
     intro w16 r17 bt15 zbt15
     have FE : Shh (Row w16 N 23 (dc p) ∧ Row w16 (N + 1) 23 (dc p2) ∧ Below N w w16 ∧ Row w16 G5 23 (dc n1) ∧ N + 1 < G5 ∧ N < N + 1 ∧ Row w16 G6 23 (dc n2) ∧ N + 1 < G6 ∧ G5 ≠ G6) := by
      obtain ⟨h0, h1, h2, h3, h4, h5, h6, h7, h8⟩ := FD.out
      have := h0.lt
      have := h1.lt
      have := h3.lt
      have := h6.lt
      have hb := bt15.under (Nat.le_of_lt h6.lt) (Nat.le_refl _)
      have := hb.size
      exact ⟨bt15.row h0 h0.lt (by omega), bt15.row h1 h1.lt (by omega), h2.trans (hb.mono (by omega)), bt15.row h3 h3.lt (by omega), h4, h5, r17, h7, h8⟩
     clear bt15 FD r17 zbt15
     refine ⟨⟨FE.out.1, FE.out.2.1⟩, ?_⟩
     refine wpAnyH_done (by kernel_rfl) ?_ _
     have FF : Shh (Row w16 N 23 (dc p) ∧ Row w16 (N + 1) 23 (dc p2) ∧ Row w16 G5 23 (dc n1) ∧ Row w16 G6 23 (dc n2) ∧ N + 1 < G5 ∧ N + 1 < G6 ∧ G5 ≠ G6 ∧ Below N w w16) := by
      obtain ⟨h0, h1, h2, h3, h4, h5, h6, h7, h8⟩ := FE.out
      exact ⟨⟨h0, h1, h3, h6, h4, h7, h8, h2⟩⟩
     clear FE
     have HZ := FF
     clear FF
     revert HZ
     revert w16
     revert G6
     revert G5
     exact hT.out
    ·refine step_newzD 5 6 (by rfl) (by kernel_rfl) ?_
     intro G6 w7 hG6 r8 b6
     have FB : Shh (Row w7 N 23 (dc p) ∧ Row w7 (N + 1) 23 (dc p2) ∧ Below N w w7 ∧ Row w7 G6 23 (dc fun _ => 0) ∧ N + 1 < G6 ∧ N < N + 1) := by
      obtain ⟨h0, h1, h2⟩ := FA.out
      have := h0.lt
      have := h1.lt
      have := b6.size
      have := hG6.out
      exact ⟨h0.go b6, h1.go b6, h2.trans (b6.mono (by omega)), r8, (by omega), (by omega)⟩
     clear b6 FA r8 hG6
     refine ⟨⟨FB.out.1, FB.out.2.1⟩, ?_⟩
     simp only [Act.put, arr9, hd9, tl9]
     refine held_one 4 (by kernel_rfl) ?_
     refine step_newzD 4 5 (by rfl) (by kernel_rfl) ?_
     intro G5 w10 hG5 r11 b9
     have FC : Shh (Row w10 N 23 (dc p) ∧ Row w10 (N + 1) 23 (dc p2) ∧ Below N w w10 ∧ Row w10 G6 23 (dc fun _ => 0) ∧ N + 1 < G6 ∧ N < N + 1 ∧ Row w10 G5 23 (dc fun _ => 0) ∧ N + 1 < G5 ∧ G5 ≠ G6) := by
      obtain ⟨h0, h1, h2, h3, h4, h5⟩ := FB.out
      have := h0.lt
      have := h1.lt
      have := h3.lt
      have := b9.size
      have := hG5.out
      exact ⟨h0.go b9, h1.go b9, h2.trans (b9.mono (by omega)), h3.go b9, h4, h5, r11, (by omega), (by omega)⟩
     clear b9 FB r11 hG5
     refine ⟨⟨FC.out.1, FC.out.2.1⟩, ?_⟩
     simp only [Act.put, arr9, hd9, tl9]
     refine held_one 6 (by kernel_rfl) ?_
     refine step_storeRow 6 23 (.tmp 5) (.tmp 8) (by rfl) (by kernel_rfl) G5 (by kernel_rfl) (dc n1) (by kernel_rfl) 23 _ FC.out.2.2.2.2.2.2.1 (info_dD.trans (size_dc _)) (same_dc _ _) (dc_one _) ?_
     intro w13 r14 bt12 zbt12
     have FD : Shh (Row w13 N 23 (dc p) ∧ Row w13 (N + 1) 23 (dc p2) ∧ Below N w w13 ∧ Row w13 G6 23 (dc fun _ => 0) ∧ N + 1 < G6 ∧ N < N + 1 ∧ Row w13 G5 23 (dc n1) ∧ N + 1 < G5 ∧ G5 ≠ G6) := by
      obtain ⟨h0, h1, h2, h3, h4, h5, h6, h7, h8⟩ := FC.out
      have := h0.lt
      have := h1.lt
      have := h3.lt
      have := h6.lt
      have hb := bt12.under (Nat.le_of_lt h6.lt) (Nat.le_refl _)
      have := hb.size
      exact ⟨bt12.row h0 h0.lt (by omega), bt12.row h1 h1.lt (by omega), h2.trans (hb.mono (by omega)), bt12.row h3 h3.lt (by omega), h4, h5, r14, h7, h8⟩
     clear bt12 FC r14 zbt12
     refine ⟨⟨FD.out.1, FD.out.2.1⟩, ?_⟩
     refine held_one 7 (by kernel_rfl) ?_
     refine step_storeRow 7 23 (.tmp 6) (.tmp 10) (by rfl) (by kernel_rfl) G6 (by kernel_rfl) (dc n2) (by kernel_rfl) 23 _ FD.out.2.2.2.1 (info_dD.trans (size_dc _)) (same_dc _ _) (dc_one _) ?_
     intro w16 r17 bt15 zbt15
     have FE : Shh (Row w16 N 23 (dc p) ∧ Row w16 (N + 1) 23 (dc p2) ∧ Below N w w16 ∧ Row w16 G6 23 (dc n2) ∧ N + 1 < G6 ∧ N < N + 1 ∧ Row w16 G5 23 (dc n1) ∧ N + 1 < G5 ∧ G5 ≠ G6) := by
      obtain ⟨h0, h1, h2, h3, h4, h5, h6, h7, h8⟩ := FD.out
      have := h0.lt
      have := h1.lt
      have := h3.lt
      have := h6.lt
      have hb := bt15.under (Nat.le_of_lt h3.lt) (Nat.le_refl _)
      have := hb.size
      exact ⟨bt15.row h0 h0.lt (by omega), bt15.row h1 h1.lt (by omega), h2.trans (hb.mono (by omega)), r17, h4, h5, bt15.row h6 h6.lt (by omega), h7, h8⟩
     clear bt15 FD r17 zbt15
     refine ⟨⟨FE.out.1, FE.out.2.1⟩, ?_⟩
     refine wpAnyH_done (by kernel_rfl) ?_ _
     have FF : Shh (Row w16 N 23 (dc p) ∧ Row w16 (N + 1) 23 (dc p2) ∧ Row w16 G5 23 (dc n1) ∧ Row w16 G6 23 (dc n2) ∧ N + 1 < G5 ∧ N + 1 < G6 ∧ G5 ≠ G6 ∧ Below N w w16) := by
      obtain ⟨h0, h1, h2, h3, h4, h5, h6, h7, h8⟩ := FE.out
      exact ⟨⟨h0, h1, h6, h3, h7, h4, h8, h2⟩⟩
     clear FE
     have HZ := FF
     clear FF
     revert HZ
     revert w16
     revert G6
     revert G5
     exact hT.out
   ·refine step_newzD 4 5 (by rfl) (by kernel_rfl) ?_
    intro G5 w5 hG5 r6 b4
    have FA : Shh (Row w5 N 23 (dc p) ∧ Row w5 (N + 1) 23 (dc p2) ∧ Below N w w5 ∧ Row w5 G5 23 (dc fun _ => 0) ∧ N + 1 < G5 ∧ N < N + 1) := by
     obtain ⟨h0, h1, h2⟩ := FZ.out
     have := h0.lt
     have := h1.lt
     have := b4.size
     have := hG5.out
     exact ⟨h0.go b4, h1.go b4, h2.trans (b4.mono (by omega)), r6, (by omega), (by omega)⟩
    clear b4 FZ r6 hG5
    refine ⟨⟨FA.out.1, FA.out.2.1⟩, ?_⟩
    simp only [Act.put, arr9, hd9, tl9]
    refine held_two 3 5 (by kernel_rfl) ?_ ?_
    ·refine step_call 3 _ _ (some 10) 24 #[.agg (dc p2).toArray] (by rfl) (by kernel_rfl) (by first | kernel_rfl | go_simp) ?_
     refine (H2.out w5).mono ?_
     rintro e w8 ⟨rfl, b7⟩
     have FB : Shh (Row w8 N 23 (dc p) ∧ Row w8 (N + 1) 23 (dc p2) ∧ Below N w w8 ∧ Row w8 G5 23 (dc fun _ => 0) ∧ N + 1 < G5 ∧ N < N + 1) := by
      obtain ⟨h0, h1, h2, h3, h4, h5⟩ := FA.out
      have := h0.lt
      have := h1.lt
      have := h3.lt
      have := b7.size
      exact ⟨h0.go b7, h1.go b7, h2.trans (b7.mono (by omega)), h3.go b7, h4, h5⟩
     clear b7 FA
     refine ⟨_, rfl, ⟨FB.out.1, FB.out.2.1⟩, ?_⟩
     simp only [Act.put, arr9, hd9, tl9]
     refine held_one 5 (by kernel_rfl) ?_
     refine step_newzD 5 6 (by rfl) (by kernel_rfl) ?_
     intro G6 w10 hG6 r11 b9
     have FC : Shh (Row w10 N 23 (dc p) ∧ Row w10 (N + 1) 23 (dc p2) ∧ Below N w w10 ∧ Row w10 G5 23 (dc fun _ => 0) ∧ N + 1 < G5 ∧ N < N + 1 ∧ Row w10 G6 23 (dc fun _ => 0) ∧ N + 1 < G6 ∧ G5 ≠ G6) := by
      obtain ⟨h0, h1, h2, h3, h4, h5⟩ := FB.out
      have := h0.lt
      have := h1.lt
      have := h3.lt
      have := b9.size
      have := hG6.out
      exact ⟨h0.go b9, h1.go b9, h2.trans (b9.mono (by omega)), h3.go b9, h4, h5, r11, (by omega), (by omega)⟩
     clear b9 FB r11 hG6
     refine ⟨⟨FC.out.1, FC.out.2.1⟩, ?_⟩
     simp only [Act.put, arr9, hd9, tl9]
     refine held_one 6 (by kernel_rfl) ?_
     refine step_storeRow 6 23 (.tmp 5) (.tmp 8) (by rfl) (by kernel_rfl) G5 (by kernel_rfl) (dc n1) (by kernel_rfl) 23 _ FC.out.2.2.2.1 (info_dD.trans (size_dc _)) (same_dc _ _) (dc_one _) ?_
     intro w13 r14 bt12 zbt12
     have FD : Shh (Row w13 N 23 (dc p) ∧ Row w13 (N + 1) 23 (dc p2) ∧ Below N w w13 ∧ Row w13 G5 23 (dc n1) ∧ N + 1 < G5 ∧ N < N + 1 ∧ Row w13 G6 23 (dc fun _ => 0) ∧ N + 1 < G6 ∧ G5 ≠ G6) := by
      obtain ⟨h0, h1, h2, h3, h4, h5, h6, h7, h8⟩ := FC.out
      have := h0.lt
      have := h1.lt
      have := h3.lt
      have := h6.lt
      have hb := bt12.under (Nat.le_of_lt h3.lt) (Nat.le_refl _)
      have := hb.size
      exact ⟨bt12.row h0 h0.lt (by omega), bt12.row h1 h1.lt (by omega), h2.trans (hb.mono (by omega)), r14, h4, h5, bt12.row h6 h6.lt (by omega), h7, h8⟩
     clear bt12 FC r14 zbt12
     refine ⟨⟨FD.out.1, FD.out.2.1⟩, ?_⟩
     refine held_one 7 (by kernel_rfl) ?_
     refine step_storeRow 7 23 (.tmp 6) (.tmp 10) (by rfl) (by kernel_rfl) G6 (by kernel_rfl) (dc n2) (by kernel_rfl) 23 _ FD.out.2.2.2.2.2.2.1 (info_dD.trans (size_dc _)) (same_dc _ _) (dc_one _) ?_
     intro w16 r17 bt15 zbt15
     have FE : Shh (Row w16 N 23 (dc p) ∧ Row w16 (N + 1) 23 (dc p2) ∧ Below N w w16 ∧ Row w16 G5 23 (dc n1) ∧ N + 1 < G5 ∧ N < N + 1 ∧ Row w16 G6 23 (dc n2) ∧ N + 1 < G6 ∧ G5 ≠ G6) := by
      obtain ⟨h0, h1, h2, h3, h4, h5, h6, h7, h8⟩ := FD.out
      have := h0.lt
      have := h1.lt
      have := h3.lt
      have := h6.lt
      have hb := bt15.under (Nat.le_of_lt h6.lt) (Nat.le_refl _)
      have := hb.size
      exact ⟨bt15.row h0 h0.lt (by omega), bt15.row h1 h1.lt (by omega), h2.trans (hb.mono (by omega)), bt15.row h3 h3.lt (by omega), h4, h5, r17, h7, h8⟩
     clear bt15 FD r17 zbt15
     refine ⟨⟨FE.out.1, FE.out.2.1⟩, ?_⟩
     refine wpAnyH_done (by kernel_rfl) ?_ _
     have FF : Shh (Row w16 N 23 (dc p) ∧ Row w16 (N + 1) 23 (dc p2) ∧ Row w16 G5 23 (dc n1) ∧ Row w16 G6 23 (dc n2) ∧ N + 1 < G5 ∧ N + 1 < G6 ∧ G5 ≠ G6 ∧ Below N w w16) := by
      obtain ⟨h0, h1, h2, h3, h4, h5, h6, h7, h8⟩ := FE.out
      exact ⟨⟨h0, h1, h3, h6, h4, h7, h8, h2⟩⟩
     clear FE
     have HZ := FF
     clear FF
     revert HZ
     revert w16
     revert G6
     revert G5
     exact hT.out
    ·refine step_newzD 5 6 (by rfl) (by kernel_rfl) ?_
     intro G6 w8 hG6 r9 b7
     have FB : Shh (Row w8 N 23 (dc p) ∧ Row w8 (N + 1) 23 (dc p2) ∧ Below N w w8 ∧ Row w8 G5 23 (dc fun _ => 0) ∧ N + 1 < G5 ∧ N < N + 1 ∧ Row w8 G6 23 (dc fun _ => 0) ∧ N + 1 < G6 ∧ G5 ≠ G6) := by
      obtain ⟨h0, h1, h2, h3, h4, h5⟩ := FA.out
      have := h0.lt
      have := h1.lt
      have := h3.lt
      have := b7.size
      have := hG6.out
      exact ⟨h0.go b7, h1.go b7, h2.trans (b7.mono (by omega)), h3.go b7, h4, h5, r9, (by omega), (by omega)⟩
     clear b7 FA r9 hG6
     refine ⟨⟨FB.out.1, FB.out.2.1⟩, ?_⟩
     simp only [Act.put, arr9, hd9, tl9]
     refine held_one 3 (by kernel_rfl) ?_
     refine step_call 3 _ _ (some 10) 24 #[.agg (dc p2).toArray] (by rfl) (by kernel_rfl) (by first | kernel_rfl | go_simp) ?_
     refine (H2.out w8).mono ?_
     rintro e w11 ⟨rfl, b10⟩
     have FC : Shh (Row w11 N 23 (dc p) ∧ Row w11 (N + 1) 23 (dc p2) ∧ Below N w w11 ∧ Row w11 G5 23 (dc fun _ => 0) ∧ N + 1 < G5 ∧ N < N + 1 ∧ Row w11 G6 23 (dc fun _ => 0) ∧ N + 1 < G6 ∧ G5 ≠ G6) := by
      obtain ⟨h0, h1, h2, h3, h4, h5, h6, h7, h8⟩ := FB.out
      have := h0.lt
      have := h1.lt
      have := h3.lt
      have := h6.lt
      have := b10.size
      exact ⟨h0.go b10, h1.go b10, h2.trans (b10.mono (by omega)), h3.go b10, h4, h5, h6.go b10, h7, h8⟩
     clear b10 FB
     refine ⟨_, rfl, ⟨FC.out.1, FC.out.2.1⟩, ?_⟩
     simp only [Act.put, arr9, hd9, tl9]
     refine held_one 6 (by kernel_rfl) ?_
     refine step_storeRow 6 23 (.tmp 5) (.tmp 8) (by rfl) (by kernel_rfl) G5 (by kernel_rfl) (dc n1) (by kernel_rfl) 23 _ FC.out.2.2.2.1 (info_dD.trans (size_dc _)) (same_dc _ _) (dc_one _) ?_
     intro w13 r14 bt12 zbt12
     have FD : Shh (Row w13 N 23 (dc p) ∧ Row w13 (N + 1) 23 (dc p2) ∧ Below N w w13 ∧ Row w13 G5 23 (dc n1) ∧ N + 1 < G5 ∧ N < N + 1 ∧ Row w13 G6 23 (dc fun _ => 0) ∧ N + 1 < G6 ∧ G5 ≠ G6) := by
      obtain ⟨h0, h1, h2, h3, h4, h5, h6, h7, h8⟩ := FC.out
      have := h0.lt
      have := h1.lt
      have := h3.lt
      have := h6.lt
      have hb := bt12.under (Nat.le_of_lt h3.lt) (Nat.le_refl _)
      have := hb.size
      exact ⟨bt12.row h0 h0.lt (by omega), bt12.row h1 h1.lt (by omega), h2.trans (hb.mono (by omega)), r14, h4, h5, bt12.row h6 h6.lt (by omega), h7, h8⟩
     clear bt12 FC r14 zbt12
     refine ⟨⟨FD.out.1, FD.out.2.1⟩, ?_⟩
     refine held_one 7 (by kernel_rfl) ?_
     refine step_storeRow 7 23 (.tmp 6) (.tmp 10) (by rfl) (by kernel_rfl) G6 (by kernel_rfl) (dc n2) (by kernel_rfl) 23 _ FD.out.2.2.2.2.2.2.1 (info_dD.trans (size_dc _)) (same_dc _ _) (dc_one _) ?_
     intro w16 r17 bt15 zbt15
     have FE : Shh (Row w16 N 23 (dc p) ∧ Row w16 (N + 1) 23 (dc p2) ∧ Below N w w16 ∧ Row w16 G5 23 (dc n1) ∧ N + 1 < G5 ∧ N < N + 1 ∧ Row w16 G6 23 (dc n2) ∧ N + 1 < G6 ∧ G5 ≠ G6) := by
      obtain ⟨h0, h1, h2, h3, h4, h5, h6, h7, h8⟩ := FD.out
      have := h0.lt
      have := h1.lt
      have := h3.lt
      have := h6.lt
      have hb := bt15.under (Nat.le_of_lt h6.lt) (Nat.le_refl _)
      have := hb.size
      exact ⟨bt15.row h0 h0.lt (by omega), bt15.row h1 h1.lt (by omega), h2.trans (hb.mono (by omega)), bt15.row h3 h3.lt (by omega), h4, h5, r17, h7, h8⟩
     clear bt15 FD r17 zbt15
     refine ⟨⟨FE.out.1, FE.out.2.1⟩, ?_⟩
     refine wpAnyH_done (by kernel_rfl) ?_ _
     have FF : Shh (Row w16 N 23 (dc p) ∧ Row w16 (N + 1) 23 (dc p2) ∧ Row w16 G5 23 (dc n1) ∧ Row w16 G6 23 (dc n2) ∧ N + 1 < G5 ∧ N + 1 < G6 ∧ G5 ≠ G6 ∧ Below N w w16) := by
      obtain ⟨h0, h1, h2, h3, h4, h5, h6, h7, h8⟩ := FE.out
      exact ⟨⟨h0, h1, h3, h6, h4, h7, h8, h2⟩⟩
     clear FE
     have HZ := FF
     clear FF
     revert HZ
     revert w16
     revert G6
     revert G5
     exact hT.out
   ·refine step_newzD 5 6 (by rfl) (by kernel_rfl) ?_
    intro G6 w5 hG6 r6 b4
    have FA : Shh (Row w5 N 23 (dc p) ∧ Row w5 (N + 1) 23 (dc p2) ∧ Below N w w5 ∧ Row w5 G6 23 (dc fun _ => 0) ∧ N + 1 < G6 ∧ N < N + 1) := by
     obtain ⟨h0, h1, h2⟩ := FZ.out
     have := h0.lt
     have := h1.lt
     have := b4.size
     have := hG6.out
     exact ⟨h0.go b4, h1.go b4, h2.trans (b4.mono (by omega)), r6, (by omega), (by omega)⟩
    clear b4 FZ r6 hG6
    refine ⟨⟨FA.out.1, FA.out.2.1⟩, ?_⟩
    simp only [Act.put, arr9, hd9, tl9]
    refine held_two 3 4 (by kernel_rfl) ?_ ?_
    ·refine step_call 3 _ _ (some 10) 24 #[.agg (dc p2).toArray] (by rfl) (by kernel_rfl) (by first | kernel_rfl | go_simp) ?_
     refine (H2.out w5).mono ?_
     rintro e w8 ⟨rfl, b7⟩
     have FB : Shh (Row w8 N 23 (dc p) ∧ Row w8 (N + 1) 23 (dc p2) ∧ Below N w w8 ∧ Row w8 G6 23 (dc fun _ => 0) ∧ N + 1 < G6 ∧ N < N + 1) := by
      obtain ⟨h0, h1, h2, h3, h4, h5⟩ := FA.out
      have := h0.lt
      have := h1.lt
      have := h3.lt
      have := b7.size
      exact ⟨h0.go b7, h1.go b7, h2.trans (b7.mono (by omega)), h3.go b7, h4, h5⟩
     clear b7 FA
     refine ⟨_, rfl, ⟨FB.out.1, FB.out.2.1⟩, ?_⟩
     simp only [Act.put, arr9, hd9, tl9]
     refine held_one 4 (by kernel_rfl) ?_
     refine step_newzD 4 5 (by rfl) (by kernel_rfl) ?_
     intro G5 w10 hG5 r11 b9
     have FC : Shh (Row w10 N 23 (dc p) ∧ Row w10 (N + 1) 23 (dc p2) ∧ Below N w w10 ∧ Row w10 G6 23 (dc fun _ => 0) ∧ N + 1 < G6 ∧ N < N + 1 ∧ Row w10 G5 23 (dc fun _ => 0) ∧ N + 1 < G5 ∧ G5 ≠ G6) := by
      obtain ⟨h0, h1, h2, h3, h4, h5⟩ := FB.out
      have := h0.lt
      have := h1.lt
      have := h3.lt
      have := b9.size
      have := hG5.out
      exact ⟨h0.go b9, h1.go b9, h2.trans (b9.mono (by omega)), h3.go b9, h4, h5, r11, (by omega), (by omega)⟩
     clear b9 FB r11 hG5
     refine ⟨⟨FC.out.1, FC.out.2.1⟩, ?_⟩
     simp only [Act.put, arr9, hd9, tl9]
     refine held_one 6 (by kernel_rfl) ?_
     refine step_storeRow 6 23 (.tmp 5) (.tmp 8) (by rfl) (by kernel_rfl) G5 (by kernel_rfl) (dc n1) (by kernel_rfl) 23 _ FC.out.2.2.2.2.2.2.1 (info_dD.trans (size_dc _)) (same_dc _ _) (dc_one _) ?_
     intro w13 r14 bt12 zbt12
     have FD : Shh (Row w13 N 23 (dc p) ∧ Row w13 (N + 1) 23 (dc p2) ∧ Below N w w13 ∧ Row w13 G6 23 (dc fun _ => 0) ∧ N + 1 < G6 ∧ N < N + 1 ∧ Row w13 G5 23 (dc n1) ∧ N + 1 < G5 ∧ G5 ≠ G6) := by
      obtain ⟨h0, h1, h2, h3, h4, h5, h6, h7, h8⟩ := FC.out
      have := h0.lt
      have := h1.lt
      have := h3.lt
      have := h6.lt
      have hb := bt12.under (Nat.le_of_lt h6.lt) (Nat.le_refl _)
      have := hb.size
      exact ⟨bt12.row h0 h0.lt (by omega), bt12.row h1 h1.lt (by omega), h2.trans (hb.mono (by omega)), bt12.row h3 h3.lt (by omega), h4, h5, r14, h7, h8⟩
     clear bt12 FC r14 zbt12
     refine ⟨⟨FD.out.1, FD.out.2.1⟩, ?_⟩
     refine held_one 7 (by kernel_rfl) ?_
     refine step_storeRow 7 23 (.tmp 6) (.tmp 10) (by rfl) (by kernel_rfl) G6 (by kernel_rfl) (dc n2) (by kernel_rfl) 23 _ FD.out.2.2.2.1 (info_dD.trans (size_dc _)) (same_dc _ _) (dc_one _) ?_
     intro w16 r17 bt15 zbt15
     have FE : Shh (Row w16 N 23 (dc p) ∧ Row w16 (N + 1) 23 (dc p2) ∧ Below N w w16 ∧ Row w16 G6 23 (dc n2) ∧ N + 1 < G6 ∧ N < N + 1 ∧ Row w16 G5 23 (dc n1) ∧ N + 1 < G5 ∧ G5 ≠ G6) := by
      obtain ⟨h0, h1, h2, h3, h4, h5, h6, h7, h8⟩ := FD.out
      have := h0.lt
      have := h1.lt
      have := h3.lt
      have := h6.lt
      have hb := bt15.under (Nat.le_of_lt h3.lt) (Nat.le_refl _)
      have := hb.size
      exact ⟨bt15.row h0 h0.lt (by omega), bt15.row h1 h1.lt (by omega), h2.trans (hb.mono (by omega)), r17, h4, h5, bt15.row h6 h6.lt (by omega), h7, h8⟩
     clear bt15 FD r17 zbt15
     refine ⟨⟨FE.out.1, FE.out.2.1⟩, ?_⟩
     refine wpAnyH_done (by kernel_rfl) ?_ _
     have FF : Shh (Row w16 N 23 (dc p) ∧ Row w16 (N + 1) 23 (dc p2) ∧ Row w16 G5 23 (dc n1) ∧ Row w16 G6 23 (dc n2) ∧ N + 1 < G5 ∧ N + 1 < G6 ∧ G5 ≠ G6 ∧ Below N w w16) := by
      obtain ⟨h0, h1, h2, h3, h4, h5, h6, h7, h8⟩ := FE.out
      exact ⟨⟨h0, h1, h6, h3, h7, h4, h8, h2⟩⟩
     clear FE
     have HZ := FF
     clear FF
     revert HZ
     revert w16
     revert G6
     revert G5
     exact hT.out
    ·refine step_newzD 4 5 (by rfl) (by kernel_rfl) ?_
     intro G5 w8 hG5 r9 b7
     have FB : Shh (Row w8 N 23 (dc p) ∧ Row w8 (N + 1) 23 (dc p2) ∧ Below N w w8 ∧ Row w8 G6 23 (dc fun _ => 0) ∧ N + 1 < G6 ∧ N < N + 1 ∧ Row w8 G5 23 (dc fun _ => 0) ∧ N + 1 < G5 ∧ G5 ≠ G6) := by
      obtain ⟨h0, h1, h2, h3, h4, h5⟩ := FA.out
      have := h0.lt
      have := h1.lt
      have := h3.lt
      have := b7.size
      have := hG5.out
      exact ⟨h0.go b7, h1.go b7, h2.trans (b7.mono (by omega)), h3.go b7, h4, h5, r9, (by omega), (by omega)⟩
     clear b7 FA r9 hG5
     refine ⟨⟨FB.out.1, FB.out.2.1⟩, ?_⟩
     simp only [Act.put, arr9, hd9, tl9]
     refine held_one 3 (by kernel_rfl) ?_
     refine step_call 3 _ _ (some 10) 24 #[.agg (dc p2).toArray] (by rfl) (by kernel_rfl) (by first | kernel_rfl | go_simp) ?_
     refine (H2.out w8).mono ?_
     rintro e w11 ⟨rfl, b10⟩
     have FC : Shh (Row w11 N 23 (dc p) ∧ Row w11 (N + 1) 23 (dc p2) ∧ Below N w w11 ∧ Row w11 G6 23 (dc fun _ => 0) ∧ N + 1 < G6 ∧ N < N + 1 ∧ Row w11 G5 23 (dc fun _ => 0) ∧ N + 1 < G5 ∧ G5 ≠ G6) := by
      obtain ⟨h0, h1, h2, h3, h4, h5, h6, h7, h8⟩ := FB.out
      have := h0.lt
      have := h1.lt
      have := h3.lt
      have := h6.lt
      have := b10.size
      exact ⟨h0.go b10, h1.go b10, h2.trans (b10.mono (by omega)), h3.go b10, h4, h5, h6.go b10, h7, h8⟩
     clear b10 FB
     refine ⟨_, rfl, ⟨FC.out.1, FC.out.2.1⟩, ?_⟩
     simp only [Act.put, arr9, hd9, tl9]
     refine held_one 6 (by kernel_rfl) ?_
     refine step_storeRow 6 23 (.tmp 5) (.tmp 8) (by rfl) (by kernel_rfl) G5 (by kernel_rfl) (dc n1) (by kernel_rfl) 23 _ FC.out.2.2.2.2.2.2.1 (info_dD.trans (size_dc _)) (same_dc _ _) (dc_one _) ?_
     intro w13 r14 bt12 zbt12
     have FD : Shh (Row w13 N 23 (dc p) ∧ Row w13 (N + 1) 23 (dc p2) ∧ Below N w w13 ∧ Row w13 G6 23 (dc fun _ => 0) ∧ N + 1 < G6 ∧ N < N + 1 ∧ Row w13 G5 23 (dc n1) ∧ N + 1 < G5 ∧ G5 ≠ G6) := by
      obtain ⟨h0, h1, h2, h3, h4, h5, h6, h7, h8⟩ := FC.out
      have := h0.lt
      have := h1.lt
      have := h3.lt
      have := h6.lt
      have hb := bt12.under (Nat.le_of_lt h6.lt) (Nat.le_refl _)
      have := hb.size
      exact ⟨bt12.row h0 h0.lt (by omega), bt12.row h1 h1.lt (by omega), h2.trans (hb.mono (by omega)), bt12.row h3 h3.lt (by omega), h4, h5, r14, h7, h8⟩
     clear bt12 FC r14 zbt12
     refine ⟨⟨FD.out.1, FD.out.2.1⟩, ?_⟩
     refine held_one 7 (by kernel_rfl) ?_
     refine step_storeRow 7 23 (.tmp 6) (.tmp 10) (by rfl) (by kernel_rfl) G6 (by kernel_rfl) (dc n2) (by kernel_rfl) 23 _ FD.out.2.2.2.1 (info_dD.trans (size_dc _)) (same_dc _ _) (dc_one _) ?_
     intro w16 r17 bt15 zbt15
     have FE : Shh (Row w16 N 23 (dc p) ∧ Row w16 (N + 1) 23 (dc p2) ∧ Below N w w16 ∧ Row w16 G6 23 (dc n2) ∧ N + 1 < G6 ∧ N < N + 1 ∧ Row w16 G5 23 (dc n1) ∧ N + 1 < G5 ∧ G5 ≠ G6) := by
      obtain ⟨h0, h1, h2, h3, h4, h5, h6, h7, h8⟩ := FD.out
      have := h0.lt
      have := h1.lt
      have := h3.lt
      have := h6.lt
      have hb := bt15.under (Nat.le_of_lt h3.lt) (Nat.le_refl _)
      have := hb.size
      exact ⟨bt15.row h0 h0.lt (by omega), bt15.row h1 h1.lt (by omega), h2.trans (hb.mono (by omega)), r17, h4, h5, bt15.row h6 h6.lt (by omega), h7, h8⟩
     clear bt15 FD r17 zbt15
     refine ⟨⟨FE.out.1, FE.out.2.1⟩, ?_⟩
     refine wpAnyH_done (by kernel_rfl) ?_ _
     have FF : Shh (Row w16 N 23 (dc p) ∧ Row w16 (N + 1) 23 (dc p2) ∧ Row w16 G5 23 (dc n1) ∧ Row w16 G6 23 (dc n2) ∧ N + 1 < G5 ∧ N + 1 < G6 ∧ G5 ≠ G6 ∧ Below N w w16) := by
      obtain ⟨h0, h1, h2, h3, h4, h5, h6, h7, h8⟩ := FE.out
      exact ⟨⟨h0, h1, h6, h3, h7, h4, h8, h2⟩⟩
     clear FE
     have HZ := FF
     clear FF
     revert HZ
     revert w16
     revert G6
     revert G5
     exact hT.out
  ·refine step_newzD 4 5 (by rfl) (by kernel_rfl) ?_
   intro G5 w3 hG5 r4 b2
   have FZ : Shh (Row w3 N 23 (dc p) ∧ Row w3 (N + 1) 23 (dc p2) ∧ Below N w w3 ∧ Row w3 G5 23 (dc fun _ => 0) ∧ N + 1 < G5 ∧ N < N + 1) := by
    obtain ⟨h0, h1, h2⟩ := FY.out
    have := h0.lt
    have := h1.lt
    have := b2.size
    have := hG5.out
    exact ⟨h0.go b2, h1.go b2, h2.trans (b2.mono (by omega)), r4, (by omega), (by omega)⟩
   clear b2 FY r4 hG5
   refine ⟨⟨FZ.out.1, FZ.out.2.1⟩, ?_⟩
   simp only [Act.put, arr9, hd9, tl9]
   refine held_two 1 5 (by kernel_rfl) ?_ ?_
   ·refine step_call 1 _ _ (some 8) 24 #[.agg (dc p).toArray] (by rfl) (by kernel_rfl) (by first | kernel_rfl | go_simp) ?_
    refine (H1.out w3).mono ?_
    rintro e w6 ⟨rfl, b5⟩
    have FA : Shh (Row w6 N 23 (dc p) ∧ Row w6 (N + 1) 23 (dc p2) ∧ Below N w w6 ∧ Row w6 G5 23 (dc fun _ => 0) ∧ N + 1 < G5 ∧ N < N + 1) := by
     obtain ⟨h0, h1, h2, h3, h4, h5⟩ := FZ.out
     have := h0.lt
     have := h1.lt
     have := h3.lt
     have := b5.size
     exact ⟨h0.go b5, h1.go b5, h2.trans (b5.mono (by omega)), h3.go b5, h4, h5⟩
    clear b5 FZ
    refine ⟨_, rfl, ⟨FA.out.1, FA.out.2.1⟩, ?_⟩
    simp only [Act.put, arr9, hd9, tl9]
    refine held_two 3 5 (by kernel_rfl) ?_ ?_
    ·refine step_call 3 _ _ (some 10) 24 #[.agg (dc p2).toArray] (by rfl) (by kernel_rfl) (by first | kernel_rfl | go_simp) ?_
     refine (H2.out w6).mono ?_
     rintro e w8 ⟨rfl, b7⟩
     have FB : Shh (Row w8 N 23 (dc p) ∧ Row w8 (N + 1) 23 (dc p2) ∧ Below N w w8 ∧ Row w8 G5 23 (dc fun _ => 0) ∧ N + 1 < G5 ∧ N < N + 1) := by
      obtain ⟨h0, h1, h2, h3, h4, h5⟩ := FA.out
      have := h0.lt
      have := h1.lt
      have := h3.lt
      have := b7.size
      exact ⟨h0.go b7, h1.go b7, h2.trans (b7.mono (by omega)), h3.go b7, h4, h5⟩
     clear b7 FA
     refine ⟨_, rfl, ⟨FB.out.1, FB.out.2.1⟩, ?_⟩
     simp only [Act.put, arr9, hd9, tl9]
     refine held_one 5 (by kernel_rfl) ?_
     refine step_newzD 5 6 (by rfl) (by kernel_rfl) ?_
     intro G6 w10 hG6 r11 b9
     have FC : Shh (Row w10 N 23 (dc p) ∧ Row w10 (N + 1) 23 (dc p2) ∧ Below N w w10 ∧ Row w10 G5 23 (dc fun _ => 0) ∧ N + 1 < G5 ∧ N < N + 1 ∧ Row w10 G6 23 (dc fun _ => 0) ∧ N + 1 < G6 ∧ G5 ≠ G6) := by
      obtain ⟨h0, h1, h2, h3, h4, h5⟩ := FB.out
      have := h0.lt
      have := h1.lt
      have := h3.lt
      have := b9.size
      have := hG6.out
      exact ⟨h0.go b9, h1.go b9, h2.trans (b9.mono (by omega)), h3.go b9, h4, h5, r11, (by omega), (by omega)⟩
     clear b9 FB r11 hG6
     refine ⟨⟨FC.out.1, FC.out.2.1⟩, ?_⟩
     simp only [Act.put, arr9, hd9, tl9]
     refine held_one 6 (by kernel_rfl) ?_
     refine step_storeRow 6 23 (.tmp 5) (.tmp 8) (by rfl) (by kernel_rfl) G5 (by kernel_rfl) (dc n1) (by kernel_rfl) 23 _ FC.out.2.2.2.1 (info_dD.trans (size_dc _)) (same_dc _ _) (dc_one _) ?_
     intro w13 r14 bt12 zbt12
     have FD : Shh (Row w13 N 23 (dc p) ∧ Row w13 (N + 1) 23 (dc p2) ∧ Below N w w13 ∧ Row w13 G5 23 (dc n1) ∧ N + 1 < G5 ∧ N < N + 1 ∧ Row w13 G6 23 (dc fun _ => 0) ∧ N + 1 < G6 ∧ G5 ≠ G6) := by
      obtain ⟨h0, h1, h2, h3, h4, h5, h6, h7, h8⟩ := FC.out
      have := h0.lt
      have := h1.lt
      have := h3.lt
      have := h6.lt
      have hb := bt12.under (Nat.le_of_lt h3.lt) (Nat.le_refl _)
      have := hb.size
      exact ⟨bt12.row h0 h0.lt (by omega), bt12.row h1 h1.lt (by omega), h2.trans (hb.mono (by omega)), r14, h4, h5, bt12.row h6 h6.lt (by omega), h7, h8⟩
     clear bt12 FC r14 zbt12
     refine ⟨⟨FD.out.1, FD.out.2.1⟩, ?_⟩
     refine held_one 7 (by kernel_rfl) ?_
     refine step_storeRow 7 23 (.tmp 6) (.tmp 10) (by rfl) (by kernel_rfl) G6 (by kernel_rfl) (dc n2) (by kernel_rfl) 23 _ FD.out.2.2.2.2.2.2.1 (info_dD.trans (size_dc _)) (same_dc _ _) (dc_one _) ?_
     intro w16 r17 bt15 zbt15
     have FE : Shh (Row w16 N 23 (dc p) ∧ Row w16 (N + 1) 23 (dc p2) ∧ Below N w w16 ∧ Row w16 G5 23 (dc n1) ∧ N + 1 < G5 ∧ N < N + 1 ∧ Row w16 G6 23 (dc n2) ∧ N + 1 < G6 ∧ G5 ≠ G6) := by
      obtain ⟨h0, h1, h2, h3, h4, h5, h6, h7, h8⟩ := FD.out
      have := h0.lt
      have := h1.lt
      have := h3.lt
      have := h6.lt
      have hb := bt15.under (Nat.le_of_lt h6.lt) (Nat.le_refl _)
      have := hb.size
      exact ⟨bt15.row h0 h0.lt (by omega), bt15.row h1 h1.lt (by omega), h2.trans (hb.mono (by omega)), bt15.row h3 h3.lt (by omega), h4, h5, r17, h7, h8⟩
     clear bt15 FD r17 zbt15
     refine ⟨⟨FE.out.1, FE.out.2.1⟩, ?_⟩
     refine wpAnyH_done (by kernel_rfl) ?_ _
     have FF : Shh (Row w16 N 23 (dc p) ∧ Row w16 (N + 1) 23 (dc p2) ∧ Row w16 G5 23 (dc n1) ∧ Row w16 G6 23 (dc n2) ∧ N + 1 < G5 ∧ N + 1 < G6 ∧ G5 ≠ G6 ∧ Below N w w16) := by
      obtain ⟨h0, h1, h2, h3, h4, h5, h6, h7, h8⟩ := FE.out
      exact ⟨⟨h0, h1, h3, h6, h4, h7, h8, h2⟩⟩
     clear FE
     have HZ := FF
     clear FF
     revert HZ
     revert w16
     revert G6
     revert G5
     exact hT.out
    ·refine step_newzD 5 6 (by rfl) (by kernel_rfl) ?_
     intro G6 w8 hG6 r9 b7
     have FB : Shh (Row w8 N 23 (dc p) ∧ Row w8 (N + 1) 23 (dc p2) ∧ Below N w w8 ∧ Row w8 G5 23 (dc fun _ => 0) ∧ N + 1 < G5 ∧ N < N + 1 ∧ Row w8 G6 23 (dc fun _ => 0) ∧ N + 1 < G6 ∧ G5 ≠ G6) := by
      obtain ⟨h0, h1, h2, h3, h4, h5⟩ := FA.out
      have := h0.lt
      have := h1.lt
      have := h3.lt
      have := b7.size
      have := hG6.out
      exact ⟨h0.go b7, h1.go b7, h2.trans (b7.mono (by omega)), h3.go b7, h4, h5, r9, (by omega), (by omega)⟩
     clear b7 FA r9 hG6
     refine ⟨⟨FB.out.1, FB.out.2.1⟩, ?_⟩
     simp only [Act.put, arr9, hd9, tl9]
     refine held_one 3 (by kernel_rfl) ?_
     refine step_call 3 _ _ (some 10) 24 #[.agg (dc p2).toArray] (by rfl) (by kernel_rfl) (by first | kernel_rfl | go_simp) ?_
     refine (H2.out w8).mono ?_
     rintro e w11 ⟨rfl, b10⟩
     have FC : Shh (Row w11 N 23 (dc p) ∧ Row w11 (N + 1) 23 (dc p2) ∧ Below N w w11 ∧ Row w11 G5 23 (dc fun _ => 0) ∧ N + 1 < G5 ∧ N < N + 1 ∧ Row w11 G6 23 (dc fun _ => 0) ∧ N + 1 < G6 ∧ G5 ≠ G6) := by
      obtain ⟨h0, h1, h2, h3, h4, h5, h6, h7, h8⟩ := FB.out
      have := h0.lt
      have := h1.lt
      have := h3.lt
      have := h6.lt
      have := b10.size
      exact ⟨h0.go b10, h1.go b10, h2.trans (b10.mono (by omega)), h3.go b10, h4, h5, h6.go b10, h7, h8⟩
     clear b10 FB
     refine ⟨_, rfl, ⟨FC.out.1, FC.out.2.1⟩, ?_⟩
     simp only [Act.put, arr9, hd9, tl9]
     refine held_one 6 (by kernel_rfl) ?_
     refine step_storeRow 6 23 (.tmp 5) (.tmp 8) (by rfl) (by kernel_rfl) G5 (by kernel_rfl) (dc n1) (by kernel_rfl) 23 _ FC.out.2.2.2.1 (info_dD.trans (size_dc _)) (same_dc _ _) (dc_one _) ?_
     intro w13 r14 bt12 zbt12
     have FD : Shh (Row w13 N 23 (dc p) ∧ Row w13 (N + 1) 23 (dc p2) ∧ Below N w w13 ∧ Row w13 G5 23 (dc n1) ∧ N + 1 < G5 ∧ N < N + 1 ∧ Row w13 G6 23 (dc fun _ => 0) ∧ N + 1 < G6 ∧ G5 ≠ G6) := by
      obtain ⟨h0, h1, h2, h3, h4, h5, h6, h7, h8⟩ := FC.out
      have := h0.lt
      have := h1.lt
      have := h3.lt
      have := h6.lt
      have hb := bt12.under (Nat.le_of_lt h3.lt) (Nat.le_refl _)
      have := hb.size
      exact ⟨bt12.row h0 h0.lt (by omega), bt12.row h1 h1.lt (by omega), h2.trans (hb.mono (by omega)), r14, h4, h5, bt12.row h6 h6.lt (by omega), h7, h8⟩
     clear bt12 FC r14 zbt12
     refine ⟨⟨FD.out.1, FD.out.2.1⟩, ?_⟩
     refine held_one 7 (by kernel_rfl) ?_
     refine step_storeRow 7 23 (.tmp 6) (.tmp 10) (by rfl) (by kernel_rfl) G6 (by kernel_rfl) (dc n2) (by kernel_rfl) 23 _ FD.out.2.2.2.2.2.2.1 (info_dD.trans (size_dc _)) (same_dc _ _) (dc_one _) ?_
     intro w16 r17 bt15 zbt15
     have FE : Shh (Row w16 N 23 (dc p) ∧ Row w16 (N + 1) 23 (dc p2) ∧ Below N w w16 ∧ Row w16 G5 23 (dc n1) ∧ N + 1 < G5 ∧ N < N + 1 ∧ Row w16 G6 23 (dc n2) ∧ N + 1 < G6 ∧ G5 ≠ G6) := by
      obtain ⟨h0, h1, h2, h3, h4, h5, h6, h7, h8⟩ := FD.out
      have := h0.lt
      have := h1.lt
      have := h3.lt
      have := h6.lt
      have hb := bt15.under (Nat.le_of_lt h6.lt) (Nat.le_refl _)
      have := hb.size
      exact ⟨bt15.row h0 h0.lt (by omega), bt15.row h1 h1.lt (by omega), h2.trans (hb.mono (by omega)), bt15.row h3 h3.lt (by omega), h4, h5, r17, h7, h8⟩
     clear bt15 FD r17 zbt15
     refine ⟨⟨FE.out.1, FE.out.2.1⟩, ?_⟩
     refine wpAnyH_done (by kernel_rfl) ?_ _
     have FF : Shh (Row w16 N 23 (dc p) ∧ Row w16 (N + 1) 23 (dc p2) ∧ Row w16 G5 23 (dc n1) ∧ Row w16 G6 23 (dc n2) ∧ N + 1 < G5 ∧ N + 1 < G6 ∧ G5 ≠ G6 ∧ Below N w w16) := by
      obtain ⟨h0, h1, h2, h3, h4, h5, h6, h7, h8⟩ := FE.out
      exact ⟨⟨h0, h1, h3, h6, h4, h7, h8, h2⟩⟩
     clear FE
     have HZ := FF
     clear FF
     revert HZ
     revert w16
     revert G6
     revert G5
     exact hT.out
   ·refine step_newzD 5 6 (by rfl) (by kernel_rfl) ?_
    intro G6 w6 hG6 r7 b5
    have FA : Shh (Row w6 N 23 (dc p) ∧ Row w6 (N + 1) 23 (dc p2) ∧ Below N w w6 ∧ Row w6 G5 23 (dc fun _ => 0) ∧ N + 1 < G5 ∧ N < N + 1 ∧ Row w6 G6 23 (dc fun _ => 0) ∧ N + 1 < G6 ∧ G5 ≠ G6) := by
     obtain ⟨h0, h1, h2, h3, h4, h5⟩ := FZ.out
     have := h0.lt
     have := h1.lt
     have := h3.lt
     have := b5.size
     have := hG6.out
     exact ⟨h0.go b5, h1.go b5, h2.trans (b5.mono (by omega)), h3.go b5, h4, h5, r7, (by omega), (by omega)⟩
    clear b5 FZ r7 hG6
    refine ⟨⟨FA.out.1, FA.out.2.1⟩, ?_⟩
    simp only [Act.put, arr9, hd9, tl9]
    refine held_one 1 (by kernel_rfl) ?_
    refine step_call 1 _ _ (some 8) 24 #[.agg (dc p).toArray] (by rfl) (by kernel_rfl) (by first | kernel_rfl | go_simp) ?_
    refine (H1.out w6).mono ?_
    rintro e w9 ⟨rfl, b8⟩
    have FB : Shh (Row w9 N 23 (dc p) ∧ Row w9 (N + 1) 23 (dc p2) ∧ Below N w w9 ∧ Row w9 G5 23 (dc fun _ => 0) ∧ N + 1 < G5 ∧ N < N + 1 ∧ Row w9 G6 23 (dc fun _ => 0) ∧ N + 1 < G6 ∧ G5 ≠ G6) := by
     obtain ⟨h0, h1, h2, h3, h4, h5, h6, h7, h8⟩ := FA.out
     have := h0.lt
     have := h1.lt
     have := h3.lt
     have := h6.lt
     have := b8.size
     exact ⟨h0.go b8, h1.go b8, h2.trans (b8.mono (by omega)), h3.go b8, h4, h5, h6.go b8, h7, h8⟩
    clear b8 FA
    refine ⟨_, rfl, ⟨FB.out.1, FB.out.2.1⟩, ?_⟩
    simp only [Act.put, arr9, hd9, tl9]
    refine held_one 3 (by kernel_rfl) ?_
    refine step_call 3 _ _ (some 10) 24 #[.agg (dc p2).toArray] (by rfl) (by kernel_rfl) (by first | kernel_rfl | go_simp) ?_
    refine (H2.out w9).mono ?_
    rintro e w11 ⟨rfl, b10⟩
    have FC : Shh (Row w11 N 23 (dc p) ∧ Row w11 (N + 1) 23 (dc p2) ∧ Below N w w11 ∧ Row w11 G5 23 (dc fun _ => 0) ∧ N + 1 < G5 ∧ N < N + 1 ∧ Row w11 G6 23 (dc fun _ => 0) ∧ N + 1 < G6 ∧ G5 ≠ G6) := by
     obtain ⟨h0, h1, h2, h3, h4, h5, h6, h7, h8⟩ := FB.out
     have := h0.lt
     have := h1.lt
     have := h3.lt
     have := h6.lt
     have := b10.size
     exact ⟨h0.go b10, h1.go b10, h2.trans (b10.mono (by omega)), h3.go b10, h4, h5, h6.go b10, h7, h8⟩
    clear b10 FB
    refine ⟨_, rfl, ⟨FC.out.1, FC.out.2.1⟩, ?_⟩
    simp only [Act.put, arr9, hd9, tl9]
    refine held_one 6 (by kernel_rfl) ?_
    refine step_storeRow 6 23 (.tmp 5) (.tmp 8) (by rfl) (by kernel_rfl) G5 (by kernel_rfl) (dc n1) (by kernel_rfl) 23 _ FC.out.2.2.2.1 (info_dD.trans (size_dc _)) (same_dc _ _) (dc_one _) ?_
    intro w13 r14 bt12 zbt12
    have FD : Shh (Row w13 N 23 (dc p) ∧ Row w13 (N + 1) 23 (dc p2) ∧ Below N w w13 ∧ Row w13 G5 23 (dc n1) ∧ N + 1 < G5 ∧ N < N + 1 ∧ Row w13 G6 23 (dc fun _ => 0) ∧ N + 1 < G6 ∧ G5 ≠ G6) := by
     obtain ⟨h0, h1, h2, h3, h4, h5, h6, h7, h8⟩ := FC.out
     have := h0.lt
     have := h1.lt
     have := h3.lt
     have := h6.lt
     have hb := bt12.under (Nat.le_of_lt h3.lt) (Nat.le_refl _)
     have := hb.size
     exact ⟨bt12.row h0 h0.lt (by omega), bt12.row h1 h1.lt (by omega), h2.trans (hb.mono (by omega)), r14, h4, h5, bt12.row h6 h6.lt (by omega), h7, h8⟩
    clear bt12 FC r14 zbt12
    refine ⟨⟨FD.out.1, FD.out.2.1⟩, ?_⟩
    refine held_one 7 (by kernel_rfl) ?_
    refine step_storeRow 7 23 (.tmp 6) (.tmp 10) (by rfl) (by kernel_rfl) G6 (by kernel_rfl) (dc n2) (by kernel_rfl) 23 _ FD.out.2.2.2.2.2.2.1 (info_dD.trans (size_dc _)) (same_dc _ _) (dc_one _) ?_
    intro w16 r17 bt15 zbt15
    have FE : Shh (Row w16 N 23 (dc p) ∧ Row w16 (N + 1) 23 (dc p2) ∧ Below N w w16 ∧ Row w16 G5 23 (dc n1) ∧ N + 1 < G5 ∧ N < N + 1 ∧ Row w16 G6 23 (dc n2) ∧ N + 1 < G6 ∧ G5 ≠ G6) := by
     obtain ⟨h0, h1, h2, h3, h4, h5, h6, h7, h8⟩ := FD.out
     have := h0.lt
     have := h1.lt
     have := h3.lt
     have := h6.lt
     have hb := bt15.under (Nat.le_of_lt h6.lt) (Nat.le_refl _)
     have := hb.size
     exact ⟨bt15.row h0 h0.lt (by omega), bt15.row h1 h1.lt (by omega), h2.trans (hb.mono (by omega)), bt15.row h3 h3.lt (by omega), h4, h5, r17, h7, h8⟩
    clear bt15 FD r17 zbt15
    refine ⟨⟨FE.out.1, FE.out.2.1⟩, ?_⟩
    refine wpAnyH_done (by kernel_rfl) ?_ _
    have FF : Shh (Row w16 N 23 (dc p) ∧ Row w16 (N + 1) 23 (dc p2) ∧ Row w16 G5 23 (dc n1) ∧ Row w16 G6 23 (dc n2) ∧ N + 1 < G5 ∧ N + 1 < G6 ∧ G5 ≠ G6 ∧ Below N w w16) := by
     obtain ⟨h0, h1, h2, h3, h4, h5, h6, h7, h8⟩ := FE.out
     exact ⟨⟨h0, h1, h3, h6, h4, h7, h8, h2⟩⟩
    clear FE
    have HZ := FF
    clear FF
    revert HZ
    revert w16
    revert G6
    revert G5
    exact hT.out
  ·refine step_newzD 5 6 (by rfl) (by kernel_rfl) ?_
   intro G6 w3 hG6 r4 b2
   have FZ : Shh (Row w3 N 23 (dc p) ∧ Row w3 (N + 1) 23 (dc p2) ∧ Below N w w3 ∧ Row w3 G6 23 (dc fun _ => 0) ∧ N + 1 < G6 ∧ N < N + 1) := by
    obtain ⟨h0, h1, h2⟩ := FY.out
    have := h0.lt
    have := h1.lt
    have := b2.size
    have := hG6.out
    exact ⟨h0.go b2, h1.go b2, h2.trans (b2.mono (by omega)), r4, (by omega), (by omega)⟩
   clear b2 FY r4 hG6
   refine ⟨⟨FZ.out.1, FZ.out.2.1⟩, ?_⟩
   simp only [Act.put, arr9, hd9, tl9]
   refine held_two 1 4 (by kernel_rfl) ?_ ?_
   ·refine step_call 1 _ _ (some 8) 24 #[.agg (dc p).toArray] (by rfl) (by kernel_rfl) (by first | kernel_rfl | go_simp) ?_
    refine (H1.out w3).mono ?_
    rintro e w6 ⟨rfl, b5⟩
    have FA : Shh (Row w6 N 23 (dc p) ∧ Row w6 (N + 1) 23 (dc p2) ∧ Below N w w6 ∧ Row w6 G6 23 (dc fun _ => 0) ∧ N + 1 < G6 ∧ N < N + 1) := by
     obtain ⟨h0, h1, h2, h3, h4, h5⟩ := FZ.out
     have := h0.lt
     have := h1.lt
     have := h3.lt
     have := b5.size
     exact ⟨h0.go b5, h1.go b5, h2.trans (b5.mono (by omega)), h3.go b5, h4, h5⟩
    clear b5 FZ
    refine ⟨_, rfl, ⟨FA.out.1, FA.out.2.1⟩, ?_⟩
    simp only [Act.put, arr9, hd9, tl9]
    refine held_two 3 4 (by kernel_rfl) ?_ ?_
    ·refine step_call 3 _ _ (some 10) 24 #[.agg (dc p2).toArray] (by rfl) (by kernel_rfl) (by first | kernel_rfl | go_simp) ?_
     refine (H2.out w6).mono ?_
     rintro e w8 ⟨rfl, b7⟩
     have FB : Shh (Row w8 N 23 (dc p) ∧ Row w8 (N + 1) 23 (dc p2) ∧ Below N w w8 ∧ Row w8 G6 23 (dc fun _ => 0) ∧ N + 1 < G6 ∧ N < N + 1) := by
      obtain ⟨h0, h1, h2, h3, h4, h5⟩ := FA.out
      have := h0.lt
      have := h1.lt
      have := h3.lt
      have := b7.size
      exact ⟨h0.go b7, h1.go b7, h2.trans (b7.mono (by omega)), h3.go b7, h4, h5⟩
     clear b7 FA
     refine ⟨_, rfl, ⟨FB.out.1, FB.out.2.1⟩, ?_⟩
     simp only [Act.put, arr9, hd9, tl9]
     refine held_one 4 (by kernel_rfl) ?_
     refine step_newzD 4 5 (by rfl) (by kernel_rfl) ?_
     intro G5 w10 hG5 r11 b9
     have FC : Shh (Row w10 N 23 (dc p) ∧ Row w10 (N + 1) 23 (dc p2) ∧ Below N w w10 ∧ Row w10 G6 23 (dc fun _ => 0) ∧ N + 1 < G6 ∧ N < N + 1 ∧ Row w10 G5 23 (dc fun _ => 0) ∧ N + 1 < G5 ∧ G5 ≠ G6) := by
      obtain ⟨h0, h1, h2, h3, h4, h5⟩ := FB.out
      have := h0.lt
      have := h1.lt
      have := h3.lt
      have := b9.size
      have := hG5.out
      exact ⟨h0.go b9, h1.go b9, h2.trans (b9.mono (by omega)), h3.go b9, h4, h5, r11, (by omega), (by omega)⟩
     clear b9 FB r11 hG5
     refine ⟨⟨FC.out.1, FC.out.2.1⟩, ?_⟩
     simp only [Act.put, arr9, hd9, tl9]
     refine held_one 6 (by kernel_rfl) ?_
     refine step_storeRow 6 23 (.tmp 5) (.tmp 8) (by rfl) (by kernel_rfl) G5 (by kernel_rfl) (dc n1) (by kernel_rfl) 23 _ FC.out.2.2.2.2.2.2.1 (info_dD.trans (size_dc _)) (same_dc _ _) (dc_one _) ?_
     intro w13 r14 bt12 zbt12
     have FD : Shh (Row w13 N 23 (dc p) ∧ Row w13 (N + 1) 23 (dc p2) ∧ Below N w w13 ∧ Row w13 G6 23 (dc fun _ => 0) ∧ N + 1 < G6 ∧ N < N + 1 ∧ Row w13 G5 23 (dc n1) ∧ N + 1 < G5 ∧ G5 ≠ G6) := by
      obtain ⟨h0, h1, h2, h3, h4, h5, h6, h7, h8⟩ := FC.out
      have := h0.lt
      have := h1.lt
      have := h3.lt
      have := h6.lt
      have hb := bt12.under (Nat.le_of_lt h6.lt) (Nat.le_refl _)
      have := hb.size
      exact ⟨bt12.row h0 h0.lt (by omega), bt12.row h1 h1.lt (by omega), h2.trans (hb.mono (by omega)), bt12.row h3 h3.lt (by omega), h4, h5, r14, h7, h8⟩
     clear bt12 FC r14 zbt12
     refine ⟨⟨FD.out.1, FD.out.2.1⟩, ?_⟩
     refine held_one 7 (by kernel_rfl) ?_
     refine step_storeRow 7 23 (.tmp 6) (.tmp 10) (by rfl) (by kernel_rfl) G6 (by kernel_rfl) (dc n2) (by kernel_rfl) 23 _ FD.out.2.2.2.1 (info_dD.trans (size_dc _)) (same_dc _ _) (dc_one _) ?_
     intro w16 r17 bt15 zbt15
     have FE : Shh (Row w16 N 23 (dc p) ∧ Row w16 (N + 1) 23 (dc p2) ∧ Below N w w16 ∧ Row w16 G6 23 (dc n2) ∧ N + 1 < G6 ∧ N < N + 1 ∧ Row w16 G5 23 (dc n1) ∧ N + 1 < G5 ∧ G5 ≠ G6) := by
      obtain ⟨h0, h1, h2, h3, h4, h5, h6, h7, h8⟩ := FD.out
      have := h0.lt
      have := h1.lt
      have := h3.lt
      have := h6.lt
      have hb := bt15.under (Nat.le_of_lt h3.lt) (Nat.le_refl _)
      have := hb.size
      exact ⟨bt15.row h0 h0.lt (by omega), bt15.row h1 h1.lt (by omega), h2.trans (hb.mono (by omega)), r17, h4, h5, bt15.row h6 h6.lt (by omega), h7, h8⟩
     clear bt15 FD r17 zbt15
     refine ⟨⟨FE.out.1, FE.out.2.1⟩, ?_⟩
     refine wpAnyH_done (by kernel_rfl) ?_ _
     have FF : Shh (Row w16 N 23 (dc p) ∧ Row w16 (N + 1) 23 (dc p2) ∧ Row w16 G5 23 (dc n1) ∧ Row w16 G6 23 (dc n2) ∧ N + 1 < G5 ∧ N + 1 < G6 ∧ G5 ≠ G6 ∧ Below N w w16) := by
      obtain ⟨h0, h1, h2, h3, h4, h5, h6, h7, h8⟩ := FE.out
      exact ⟨⟨h0, h1, h6, h3, h7, h4, h8, h2⟩⟩
     clear FE
     have HZ := FF
     clear FF
     revert HZ
     revert w16
     revert G6
     revert G5
     exact hT.out
    ·refine step_newzD 4 5 (by rfl) (by kernel_rfl) ?_
     intro G5 w8 hG5 r9 b7
     have FB : Shh (Row w8 N 23 (dc p) ∧ Row w8 (N + 1) 23 (dc p2) ∧ Below N w w8 ∧ Row w8 G6 23 (dc fun _ => 0) ∧ N + 1 < G6 ∧ N < N + 1 ∧ Row w8 G5 23 (dc fun _ => 0) ∧ N + 1 < G5 ∧ G5 ≠ G6) := by
      obtain ⟨h0, h1, h2, h3, h4, h5⟩ := FA.out
      have := h0.lt
      have := h1.lt
      have := h3.lt
      have := b7.size
      have := hG5.out
      exact ⟨h0.go b7, h1.go b7, h2.trans (b7.mono (by omega)), h3.go b7, h4, h5, r9, (by omega), (by omega)⟩
     clear b7 FA r9 hG5
     refine ⟨⟨FB.out.1, FB.out.2.1⟩, ?_⟩
     simp only [Act.put, arr9, hd9, tl9]
     refine held_one 3 (by kernel_rfl) ?_
     refine step_call 3 _ _ (some 10) 24 #[.agg (dc p2).toArray] (by rfl) (by kernel_rfl) (by first | kernel_rfl | go_simp) ?_
     refine (H2.out w8).mono ?_
     rintro e w11 ⟨rfl, b10⟩
     have FC : Shh (Row w11 N 23 (dc p) ∧ Row w11 (N + 1) 23 (dc p2) ∧ Below N w w11 ∧ Row w11 G6 23 (dc fun _ => 0) ∧ N + 1 < G6 ∧ N < N + 1 ∧ Row w11 G5 23 (dc fun _ => 0) ∧ N + 1 < G5 ∧ G5 ≠ G6) := by
      obtain ⟨h0, h1, h2, h3, h4, h5, h6, h7, h8⟩ := FB.out
      have := h0.lt
      have := h1.lt
      have := h3.lt
      have := h6.lt
      have := b10.size
      exact ⟨h0.go b10, h1.go b10, h2.trans (b10.mono (by omega)), h3.go b10, h4, h5, h6.go b10, h7, h8⟩
     clear b10 FB
     refine ⟨_, rfl, ⟨FC.out.1, FC.out.2.1⟩, ?_⟩
     simp only [Act.put, arr9, hd9, tl9]
     refine held_one 6 (by kernel_rfl) ?_
     refine step_storeRow 6 23 (.tmp 5) (.tmp 8) (by rfl) (by kernel_rfl) G5 (by kernel_rfl) (dc n1) (by kernel_rfl) 23 _ FC.out.2.2.2.2.2.2.1 (info_dD.trans (size_dc _)) (same_dc _ _) (dc_one _) ?_
     intro w13 r14 bt12 zbt12
     have FD : Shh (Row w13 N 23 (dc p) ∧ Row w13 (N + 1) 23 (dc p2) ∧ Below N w w13 ∧ Row w13 G6 23 (dc fun _ => 0) ∧ N + 1 < G6 ∧ N < N + 1 ∧ Row w13 G5 23 (dc n1) ∧ N + 1 < G5 ∧ G5 ≠ G6) := by
      obtain ⟨h0, h1, h2, h3, h4, h5, h6, h7, h8⟩ := FC.out
      have := h0.lt
      have := h1.lt
      have := h3.lt
      have := h6.lt
      have hb := bt12.under (Nat.le_of_lt h6.lt) (Nat.le_refl _)
      have := hb.size
      exact ⟨bt12.row h0 h0.lt (by omega), bt12.row h1 h1.lt (by omega), h2.trans (hb.mono (by omega)), bt12.row h3 h3.lt (by omega), h4, h5, r14, h7, h8⟩
     clear bt12 FC r14 zbt12
     refine ⟨⟨FD.out.1, FD.out.2.1⟩, ?_⟩
     refine held_one 7 (by kernel_rfl) ?_
     refine step_storeRow 7 23 (.tmp 6) (.tmp 10) (by rfl) (by kernel_rfl) G6 (by kernel_rfl) (dc n2) (by kernel_rfl) 23 _ FD.out.2.2.2.1 (info_dD.trans (size_dc _)) (same_dc _ _) (dc_one _) ?_
     intro w16 r17 bt15 zbt15
     have FE : Shh (Row w16 N 23 (dc p) ∧ Row w16 (N + 1) 23 (dc p2) ∧ Below N w w16 ∧ Row w16 G6 23 (dc n2) ∧ N + 1 < G6 ∧ N < N + 1 ∧ Row w16 G5 23 (dc n1) ∧ N + 1 < G5 ∧ G5 ≠ G6) := by
      obtain ⟨h0, h1, h2, h3, h4, h5, h6, h7, h8⟩ := FD.out
      have := h0.lt
      have := h1.lt
      have := h3.lt
      have := h6.lt
      have hb := bt15.under (Nat.le_of_lt h3.lt) (Nat.le_refl _)
      have := hb.size
      exact ⟨bt15.row h0 h0.lt (by omega), bt15.row h1 h1.lt (by omega), h2.trans (hb.mono (by omega)), r17, h4, h5, bt15.row h6 h6.lt (by omega), h7, h8⟩
     clear bt15 FD r17 zbt15
     refine ⟨⟨FE.out.1, FE.out.2.1⟩, ?_⟩
     refine wpAnyH_done (by kernel_rfl) ?_ _
     have FF : Shh (Row w16 N 23 (dc p) ∧ Row w16 (N + 1) 23 (dc p2) ∧ Row w16 G5 23 (dc n1) ∧ Row w16 G6 23 (dc n2) ∧ N + 1 < G5 ∧ N + 1 < G6 ∧ G5 ≠ G6 ∧ Below N w w16) := by
      obtain ⟨h0, h1, h2, h3, h4, h5, h6, h7, h8⟩ := FE.out
      exact ⟨⟨h0, h1, h6, h3, h7, h4, h8, h2⟩⟩
     clear FE
     have HZ := FF
     clear FF
     revert HZ
     revert w16
     revert G6
     revert G5
     exact hT.out
   ·refine step_newzD 4 5 (by rfl) (by kernel_rfl) ?_
    intro G5 w6 hG5 r7 b5
    have FA : Shh (Row w6 N 23 (dc p) ∧ Row w6 (N + 1) 23 (dc p2) ∧ Below N w w6 ∧ Row w6 G6 23 (dc fun _ => 0) ∧ N + 1 < G6 ∧ N < N + 1 ∧ Row w6 G5 23 (dc fun _ => 0) ∧ N + 1 < G5 ∧ G5 ≠ G6) := by
     obtain ⟨h0, h1, h2, h3, h4, h5⟩ := FZ.out
     have := h0.lt
     have := h1.lt
     have := h3.lt
     have := b5.size
     have := hG5.out
     exact ⟨h0.go b5, h1.go b5, h2.trans (b5.mono (by omega)), h3.go b5, h4, h5, r7, (by omega), (by omega)⟩
    clear b5 FZ r7 hG5
    refine ⟨⟨FA.out.1, FA.out.2.1⟩, ?_⟩
    simp only [Act.put, arr9, hd9, tl9]
    refine held_one 1 (by kernel_rfl) ?_
    refine step_call 1 _ _ (some 8) 24 #[.agg (dc p).toArray] (by rfl) (by kernel_rfl) (by first | kernel_rfl | go_simp) ?_
    refine (H1.out w6).mono ?_
    rintro e w9 ⟨rfl, b8⟩
    have FB : Shh (Row w9 N 23 (dc p) ∧ Row w9 (N + 1) 23 (dc p2) ∧ Below N w w9 ∧ Row w9 G6 23 (dc fun _ => 0) ∧ N + 1 < G6 ∧ N < N + 1 ∧ Row w9 G5 23 (dc fun _ => 0) ∧ N + 1 < G5 ∧ G5 ≠ G6) := by
     obtain ⟨h0, h1, h2, h3, h4, h5, h6, h7, h8⟩ := FA.out
     have := h0.lt
     have := h1.lt
     have := h3.lt
     have := h6.lt
     have := b8.size
     exact ⟨h0.go b8, h1.go b8, h2.trans (b8.mono (by omega)), h3.go b8, h4, h5, h6.go b8, h7, h8⟩
    clear b8 FA
    refine ⟨_, rfl, ⟨FB.out.1, FB.out.2.1⟩, ?_⟩
    simp only [Act.put, arr9, hd9, tl9]
    refine held_one 3 (by kernel_rfl) ?_
    refine step_call 3 _ _ (some 10) 24 #[.agg (dc p2).toArray] (by rfl) (by kernel_rfl) (by first | kernel_rfl | go_simp) ?_
    refine (H2.out w9).mono ?_
    rintro e w11 ⟨rfl, b10⟩
    have FC : Shh (Row w11 N 23 (dc p) ∧ Row w11 (N + 1) 23 (dc p2) ∧ Below N w w11 ∧ Row w11 G6 23 (dc fun _ => 0) ∧ N + 1 < G6 ∧ N < N + 1 ∧ Row w11 G5 23 (dc fun _ => 0) ∧ N + 1 < G5 ∧ G5 ≠ G6) := by
     obtain ⟨h0, h1, h2, h3, h4, h5, h6, h7, h8⟩ := FB.out
     have := h0.lt
     have := h1.lt
     have := h3.lt
     have := h6.lt
     have := b10.size
     exact ⟨h0.go b10, h1.go b10, h2.trans (b10.mono (by omega)), h3.go b10, h4, h5, h6.go b10, h7, h8⟩
    clear b10 FB
    refine ⟨_, rfl, ⟨FC.out.1, FC.out.2.1⟩, ?_⟩
    simp only [Act.put, arr9, hd9, tl9]
    refine held_one 6 (by kernel_rfl) ?_
    refine step_storeRow 6 23 (.tmp 5) (.tmp 8) (by rfl) (by kernel_rfl) G5 (by kernel_rfl) (dc n1) (by kernel_rfl) 23 _ FC.out.2.2.2.2.2.2.1 (info_dD.trans (size_dc _)) (same_dc _ _) (dc_one _) ?_
    intro w13 r14 bt12 zbt12
    have FD : Shh (Row w13 N 23 (dc p) ∧ Row w13 (N + 1) 23 (dc p2) ∧ Below N w w13 ∧ Row w13 G6 23 (dc fun _ => 0) ∧ N + 1 < G6 ∧ N < N + 1 ∧ Row w13 G5 23 (dc n1) ∧ N + 1 < G5 ∧ G5 ≠ G6) := by
     obtain ⟨h0, h1, h2, h3, h4, h5, h6, h7, h8⟩ := FC.out
     have := h0.lt
     have := h1.lt
     have := h3.lt
     have := h6.lt
     have hb := bt12.under (Nat.le_of_lt h6.lt) (Nat.le_refl _)
     have := hb.size
     exact ⟨bt12.row h0 h0.lt (by omega), bt12.row h1 h1.lt (by omega), h2.trans (hb.mono (by omega)), bt12.row h3 h3.lt (by omega), h4, h5, r14, h7, h8⟩
    clear bt12 FC r14 zbt12
    refine ⟨⟨FD.out.1, FD.out.2.1⟩, ?_⟩
    refine held_one 7 (by kernel_rfl) ?_
    refine step_storeRow 7 23 (.tmp 6) (.tmp 10) (by rfl) (by kernel_rfl) G6 (by kernel_rfl) (dc n2) (by kernel_rfl) 23 _ FD.out.2.2.2.1 (info_dD.trans (size_dc _)) (same_dc _ _) (dc_one _) ?_
    intro w16 r17 bt15 zbt15
    have FE : Shh (Row w16 N 23 (dc p) ∧ Row w16 (N + 1) 23 (dc p2) ∧ Below N w w16 ∧ Row w16 G6 23 (dc n2) ∧ N + 1 < G6 ∧ N < N + 1 ∧ Row w16 G5 23 (dc n1) ∧ N + 1 < G5 ∧ G5 ≠ G6) := by
     obtain ⟨h0, h1, h2, h3, h4, h5, h6, h7, h8⟩ := FD.out
     have := h0.lt
     have := h1.lt
     have := h3.lt
     have := h6.lt
     have hb := bt15.under (Nat.le_of_lt h3.lt) (Nat.le_refl _)
     have := hb.size
     exact ⟨bt15.row h0 h0.lt (by omega), bt15.row h1 h1.lt (by omega), h2.trans (hb.mono (by omega)), r17, h4, h5, bt15.row h6 h6.lt (by omega), h7, h8⟩
    clear bt15 FD r17 zbt15
    refine ⟨⟨FE.out.1, FE.out.2.1⟩, ?_⟩
    refine wpAnyH_done (by kernel_rfl) ?_ _
    have FF : Shh (Row w16 N 23 (dc p) ∧ Row w16 (N + 1) 23 (dc p2) ∧ Row w16 G5 23 (dc n1) ∧ Row w16 G6 23 (dc n2) ∧ N + 1 < G5 ∧ N + 1 < G6 ∧ G5 ≠ G6 ∧ Below N w w16) := by
     obtain ⟨h0, h1, h2, h3, h4, h5, h6, h7, h8⟩ := FE.out
     exact ⟨⟨h0, h1, h6, h3, h7, h4, h8, h2⟩⟩
    clear FE
    have HZ := FF
    clear FF
    revert HZ
    revert w16
    revert G6
    revert G5
    exact hT.out
 case tt9 =>
  clear FC
  intro G5 G6 Z HZ
  go_wp2
  refine wp_region_held_drew (S := fun w' => Row w' N 23 (dc p) ∧ Row w' (N + 1) 23 (dc p2) ∧ Row w' G5 23 (dc n1) ∧ Row w' G6 23 (dc n2)) (by kernel_rfl) ⟨HZ.out.1.drew, HZ.out.2.1.drew, HZ.out.2.2.1.drew, HZ.out.2.2.2.1.drew⟩ (fun hS => ?_)
  clear hS
  obtain ⟨X2, hX2⟩ : ∃ V, V = World.drew Z := ⟨_, rfl⟩
  rw [← hX2]
  have HA : Shh (Row X2 N 23 (dc p) ∧ Row X2 (N + 1) 23 (dc p2) ∧ Row X2 G5 23 (dc n1) ∧ Row X2 G6 23 (dc n2) ∧ N + 1 < G5 ∧ N + 1 < G6 ∧ G5 ≠ G6 ∧ Below N w X2) := by
   obtain ⟨h0, h1, h2, h3, h4, h5, h6, h7⟩ := HZ.out
   rw [hX2]
   exact ⟨h0.drew, h1.drew, h2.drew, h3.drew, h4, h5, h6, h7.drew⟩
  clear hX2 HZ
  refine held_one 0 (by kernel_rfl) ?_
  refine step_call 0 _ _ (some 11) 11 #[] (by rfl) (by kernel_rfl) (by first | kernel_rfl | go_simp) ?_
  refine (HLV.out X2).mono ?_
  rintro e w4 ⟨rfl, b3⟩
  have HB : Shh (Row w4 N 23 (dc p) ∧ Row w4 (N + 1) 23 (dc p2) ∧ Row w4 G5 23 (dc n1) ∧ Row w4 G6 23 (dc n2) ∧ N + 1 < G5 ∧ N + 1 < G6 ∧ G5 ≠ G6 ∧ Below N w w4) := by
   obtain ⟨h0, h1, h2, h3, h4, h5, h6, h7⟩ := HA.out
   have := h0.lt
   have := h1.lt
   have := h2.lt
   have := h3.lt
   have := b3.size
   exact ⟨h0.go b3, h1.go b3, h2.go b3, h3.go b3, h4, h5, h6, h7.trans (b3.mono (by omega))⟩
  clear b3 HA
  refine ⟨_, rfl, ⟨HB.out.1, HB.out.2.1, HB.out.2.2.1, HB.out.2.2.2.1⟩, ?_⟩
  simp only [Act.put, arr9, hd9, tl9]
  refine hdv0 1 12 (.bool true) (by rfl) ⟨HB.out.1, HB.out.2.1, HB.out.2.2.1, HB.out.2.2.2.1⟩ ?_
  refine held_load 2 23 (.tmp 2) (some 13) (by kernel_rfl) (by rfl) (by kernel_rfl) (N) 0 (by kernel_rfl) (dc p) _ (fun w h => h.1.range) Try.underlying23 rfl (info_dD.trans (size_dc _)) (fun _ _ _ _ h => h) ⟨HB.out.1, HB.out.2.1, HB.out.2.2.1, HB.out.2.2.2.1⟩ ?_
  simp only [Act.put, arr9, hd9, tl9]
  refine held_load 3 23 (.tmp 3) (some 14) (by kernel_rfl) (by rfl) (by kernel_rfl) ((N + 1)) 0 (by kernel_rfl) (dc p2) _ (fun w h => h.2.1.range) Try.underlying23 rfl (info_dD.trans (size_dc _)) (fun _ _ _ _ h => h) ⟨HB.out.1, HB.out.2.1, HB.out.2.2.1, HB.out.2.2.2.1⟩ ?_
  simp only [Act.put, arr9, hd9, tl9]
  refine held_load 6 23 (.tmp 5) (some 17) (by kernel_rfl) (by rfl) (by kernel_rfl) (G5) 0 (by kernel_rfl) (dc n1) _ (fun w h => h.2.2.1.range) Try.underlying23 rfl (info_dD.trans (size_dc _)) (fun _ _ _ _ h => h) ⟨HB.out.1, HB.out.2.1, HB.out.2.2.1, HB.out.2.2.2.1⟩ ?_
  simp only [Act.put, arr9, hd9, tl9]
  refine held_load 7 23 (.tmp 6) (some 18) (by kernel_rfl) (by rfl) (by kernel_rfl) (G6) 0 (by kernel_rfl) (dc n2) _ (fun w h => h.2.2.2.range) Try.underlying23 rfl (info_dD.trans (size_dc _)) (fun _ _ _ _ h => h) ⟨HB.out.1, HB.out.2.1, HB.out.2.2.1, HB.out.2.2.2.1⟩ ?_
  simp only [Act.put, arr9, hd9, tl9]
  refine held_one 4 (by kernel_rfl) ?_
  refine step_call 4 _ _ (some 15) 22 #[.agg (dc p).toArray, .agg (dc p2).toArray] (by rfl) (by kernel_rfl) (by first | kernel_rfl | go_simp) ?_
  refine (H3.out w4).mono ?_
  rintro e w6 ⟨rfl, b5⟩
  have HC : Shh (Row w6 N 23 (dc p) ∧ Row w6 (N + 1) 23 (dc p2) ∧ Row w6 G5 23 (dc n1) ∧ Row w6 G6 23 (dc n2) ∧ N + 1 < G5 ∧ N + 1 < G6 ∧ G5 ≠ G6 ∧ Below N w w6) := by
   obtain ⟨h0, h1, h2, h3, h4, h5, h6, h7⟩ := HB.out
   have := h0.lt
   have := h1.lt
   have := h2.lt
   have := h3.lt
   have := b5.size
   exact ⟨h0.go b5, h1.go b5, h2.go b5, h3.go b5, h4, h5, h6, h7.trans (b5.mono (by omega))⟩
  clear b5 HB
  refine ⟨_, rfl, ⟨HC.out.1, HC.out.2.1, HC.out.2.2.1, HC.out.2.2.2.1⟩, ?_⟩
  simp only [Act.put, arr9, hd9, tl9]
  refine held_one 5 (by kernel_rfl) ?_
  refine step_call 5 _ _ (some 16) 24 #[.agg (dc m).toArray] (by rfl) (by kernel_rfl) (by first | kernel_rfl | go_simp) ?_
  refine (H4.out w6).mono ?_
  rintro e w8 ⟨rfl, b7⟩
  have HD : Shh (Row w8 N 23 (dc p) ∧ Row w8 (N + 1) 23 (dc p2) ∧ Row w8 G5 23 (dc n1) ∧ Row w8 G6 23 (dc n2) ∧ N + 1 < G5 ∧ N + 1 < G6 ∧ G5 ≠ G6 ∧ Below N w w8) := by
   obtain ⟨h0, h1, h2, h3, h4, h5, h6, h7⟩ := HC.out
   have := h0.lt
   have := h1.lt
   have := h2.lt
   have := h3.lt
   have := b7.size
   exact ⟨h0.go b7, h1.go b7, h2.go b7, h3.go b7, h4, h5, h6, h7.trans (b7.mono (by omega))⟩
  clear b7 HC
  refine ⟨_, rfl, ⟨HD.out.1, HD.out.2.1, HD.out.2.2.1, HD.out.2.2.2.1⟩, ?_⟩
  simp only [Act.put, arr9, hd9, tl9]
  refine held_one 8 (by kernel_rfl) ?_
  refine step_call 8 _ _ (some 19) 29 #[.agg (dc n1).toArray, .agg (dc n2).toArray] (by rfl) (by kernel_rfl) (by first | kernel_rfl | go_simp) ?_
  refine (H5.out w8).mono ?_
  rintro e w10 ⟨rfl, b9⟩
  have HE : Shh (Row w10 N 23 (dc p) ∧ Row w10 (N + 1) 23 (dc p2) ∧ Row w10 G5 23 (dc n1) ∧ Row w10 G6 23 (dc n2) ∧ N + 1 < G5 ∧ N + 1 < G6 ∧ G5 ≠ G6 ∧ Below N w w10) := by
   obtain ⟨h0, h1, h2, h3, h4, h5, h6, h7⟩ := HD.out
   have := h0.lt
   have := h1.lt
   have := h2.lt
   have := h3.lt
   have := b9.size
   exact ⟨h0.go b9, h1.go b9, h2.go b9, h3.go b9, h4, h5, h6, h7.trans (b9.mono (by omega))⟩
  clear b9 HD
  refine ⟨_, rfl, ⟨HE.out.1, HE.out.2.1, HE.out.2.2.1, HE.out.2.2.2.1⟩, ?_⟩
  simp only [Act.put, arr9, hd9, tl9]
  refine hdv 9 20 (.bool true) (by rfl) (fun w hS => run_eql_agg (by kernel_rfl) (E1.out w) (by kernel_rfl) (by kernel_rfl)) ⟨HE.out.1, HE.out.2.1, HE.out.2.2.1, HE.out.2.2.2.1⟩ ?_
  refine hdv0 10 21 (.bool true) (by rfl) ⟨HE.out.1, HE.out.2.1, HE.out.2.2.1, HE.out.2.2.2.1⟩ ?_
  refine hdv0 11 22 (.bool true) (by rfl) ⟨HE.out.1, HE.out.2.1, HE.out.2.2.1, HE.out.2.2.2.1⟩ ?_
  refine held_load 12 23 (.tmp 2) (some 23) (by kernel_rfl) (by rfl) (by kernel_rfl) (N) 0 (by kernel_rfl) (dc p) _ (fun w h => h.1.range) Try.underlying23 rfl (info_dD.trans (size_dc _)) (fun _ _ _ _ h => h) ⟨HE.out.1, HE.out.2.1, HE.out.2.2.1, HE.out.2.2.2.1⟩ ?_
  simp only [Act.put, arr9, hd9, tl9]
  refine held_load 13 23 (.tmp 3) (some 24) (by kernel_rfl) (by rfl) (by kernel_rfl) ((N + 1)) 0 (by kernel_rfl) (dc p2) _ (fun w h => h.2.1.range) Try.underlying23 rfl (info_dD.trans (size_dc _)) (fun _ _ _ _ h => h) ⟨HE.out.1, HE.out.2.1, HE.out.2.2.1, HE.out.2.2.2.1⟩ ?_
  simp only [Act.put, arr9, hd9, tl9]
  refine held_load 16 23 (.tmp 5) (some 27) (by kernel_rfl) (by rfl) (by kernel_rfl) (G5) 0 (by kernel_rfl) (dc n1) _ (fun w h => h.2.2.1.range) Try.underlying23 rfl (info_dD.trans (size_dc _)) (fun _ _ _ _ h => h) ⟨HE.out.1, HE.out.2.1, HE.out.2.2.1, HE.out.2.2.2.1⟩ ?_
  simp only [Act.put, arr9, hd9, tl9]
  refine held_load 17 23 (.tmp 6) (some 28) (by kernel_rfl) (by rfl) (by kernel_rfl) (G6) 0 (by kernel_rfl) (dc n2) _ (fun w h => h.2.2.2.range) Try.underlying23 rfl (info_dD.trans (size_dc _)) (fun _ _ _ _ h => h) ⟨HE.out.1, HE.out.2.1, HE.out.2.2.1, HE.out.2.2.2.1⟩ ?_
  simp only [Act.put, arr9, hd9, tl9]
  refine held_one 14 (by kernel_rfl) ?_
  refine step_call 14 _ _ (some 25) 18 #[.agg (dc p).toArray, .agg (dc p2).toArray] (by rfl) (by kernel_rfl) (by first | kernel_rfl | go_simp) ?_
  refine (H6.out w10).mono ?_
  rintro e w12 ⟨rfl, b11⟩
  have HF : Shh (Row w12 N 23 (dc p) ∧ Row w12 (N + 1) 23 (dc p2) ∧ Row w12 G5 23 (dc n1) ∧ Row w12 G6 23 (dc n2) ∧ N + 1 < G5 ∧ N + 1 < G6 ∧ G5 ≠ G6 ∧ Below N w w12) := by
   obtain ⟨h0, h1, h2, h3, h4, h5, h6, h7⟩ := HE.out
   have := h0.lt
   have := h1.lt
   have := h2.lt
   have := h3.lt
   have := b11.size
   exact ⟨h0.go b11, h1.go b11, h2.go b11, h3.go b11, h4, h5, h6, h7.trans (b11.mono (by omega))⟩
  clear b11 HE
  refine ⟨_, rfl, ⟨HF.out.1, HF.out.2.1, HF.out.2.2.1, HF.out.2.2.2.1⟩, ?_⟩
  simp only [Act.put, arr9, hd9, tl9]
  refine held_one 15 (by kernel_rfl) ?_
  refine step_call 15 _ _ (some 26) 24 #[.agg (dc sm).toArray] (by rfl) (by kernel_rfl) (by first | kernel_rfl | go_simp) ?_
  refine (H7.out w12).mono ?_
  rintro e w14 ⟨rfl, b13⟩
  have HG : Shh (Row w14 N 23 (dc p) ∧ Row w14 (N + 1) 23 (dc p2) ∧ Row w14 G5 23 (dc n1) ∧ Row w14 G6 23 (dc n2) ∧ N + 1 < G5 ∧ N + 1 < G6 ∧ G5 ≠ G6 ∧ Below N w w14) := by
   obtain ⟨h0, h1, h2, h3, h4, h5, h6, h7⟩ := HF.out
   have := h0.lt
   have := h1.lt
   have := h2.lt
   have := h3.lt
   have := b13.size
   exact ⟨h0.go b13, h1.go b13, h2.go b13, h3.go b13, h4, h5, h6, h7.trans (b13.mono (by omega))⟩
  clear b13 HF
  refine ⟨_, rfl, ⟨HG.out.1, HG.out.2.1, HG.out.2.2.1, HG.out.2.2.2.1⟩, ?_⟩
  simp only [Act.put, arr9, hd9, tl9]
  refine held_one 18 (by kernel_rfl) ?_
  refine step_call 18 _ _ (some 29) 18 #[.agg (dc n1).toArray, .agg (dc n2).toArray] (by rfl) (by kernel_rfl) (by first | kernel_rfl | go_simp) ?_
  refine (H8.out w14).mono ?_
  rintro e w16 ⟨rfl, b15⟩
  have HH : Shh (Row w16 N 23 (dc p) ∧ Row w16 (N + 1) 23 (dc p2) ∧ Row w16 G5 23 (dc n1) ∧ Row w16 G6 23 (dc n2) ∧ N + 1 < G5 ∧ N + 1 < G6 ∧ G5 ≠ G6 ∧ Below N w w16) := by
   obtain ⟨h0, h1, h2, h3, h4, h5, h6, h7⟩ := HG.out
   have := h0.lt
   have := h1.lt
   have := h2.lt
   have := h3.lt
   have := b15.size
   exact ⟨h0.go b15, h1.go b15, h2.go b15, h3.go b15, h4, h5, h6, h7.trans (b15.mono (by omega))⟩
  clear b15 HG
  refine ⟨_, rfl, ⟨HH.out.1, HH.out.2.1, HH.out.2.2.1, HH.out.2.2.2.1⟩, ?_⟩
  simp only [Act.put, arr9, hd9, tl9]
  refine hdv 19 30 (.bool true) (by rfl) (fun w hS => run_eql_agg (by kernel_rfl) (E2.out w) (by kernel_rfl) (by kernel_rfl)) ⟨HH.out.1, HH.out.2.1, HH.out.2.2.1, HH.out.2.2.2.1⟩ ?_
  refine hdv0 20 31 (.bool true) (by rfl) ⟨HH.out.1, HH.out.2.1, HH.out.2.2.1, HH.out.2.2.2.1⟩ ?_
  refine hdv0 21 32 (.bool true) (by rfl) ⟨HH.out.1, HH.out.2.1, HH.out.2.2.1, HH.out.2.2.2.1⟩ ?_
  refine held_load 22 23 (.tmp 2) (some 33) (by kernel_rfl) (by rfl) (by kernel_rfl) (N) 0 (by kernel_rfl) (dc p) _ (fun w h => h.1.range) Try.underlying23 rfl (info_dD.trans (size_dc _)) (fun _ _ _ _ h => h) ⟨HH.out.1, HH.out.2.1, HH.out.2.2.1, HH.out.2.2.2.1⟩ ?_
  simp only [Act.put, arr9, hd9, tl9]
  refine held_load 23 23 (.tmp 3) (some 34) (by kernel_rfl) (by rfl) (by kernel_rfl) ((N + 1)) 0 (by kernel_rfl) (dc p2) _ (fun w h => h.2.1.range) Try.underlying23 rfl (info_dD.trans (size_dc _)) (fun _ _ _ _ h => h) ⟨HH.out.1, HH.out.2.1, HH.out.2.2.1, HH.out.2.2.2.1⟩ ?_
  simp only [Act.put, arr9, hd9, tl9]
  refine held_load 25 23 (.tmp 3) (some 36) (by kernel_rfl) (by rfl) (by kernel_rfl) ((N + 1)) 0 (by kernel_rfl) (dc p2) _ (fun w h => h.2.1.range) Try.underlying23 rfl (info_dD.trans (size_dc _)) (fun _ _ _ _ h => h) ⟨HH.out.1, HH.out.2.1, HH.out.2.2.1, HH.out.2.2.2.1⟩ ?_
  simp only [Act.put, arr9, hd9, tl9]
  refine held_load 26 23 (.tmp 2) (some 37) (by kernel_rfl) (by rfl) (by kernel_rfl) (N) 0 (by kernel_rfl) (dc p) _ (fun w h => h.1.range) Try.underlying23 rfl (info_dD.trans (size_dc _)) (fun _ _ _ _ h => h) ⟨HH.out.1, HH.out.2.1, HH.out.2.2.1, HH.out.2.2.2.1⟩ ?_
  simp only [Act.put, arr9, hd9, tl9]
  refine held_one 24 (by kernel_rfl) ?_
  refine step_call 24 _ _ (some 35) 22 #[.agg (dc p).toArray, .agg (dc p2).toArray] (by rfl) (by kernel_rfl) (by first | kernel_rfl | go_simp) ?_
  refine (H3.out w16).mono ?_
  rintro e w18 ⟨rfl, b17⟩
  have HI : Shh (Row w18 N 23 (dc p) ∧ Row w18 (N + 1) 23 (dc p2) ∧ Row w18 G5 23 (dc n1) ∧ Row w18 G6 23 (dc n2) ∧ N + 1 < G5 ∧ N + 1 < G6 ∧ G5 ≠ G6 ∧ Below N w w18) := by
   obtain ⟨h0, h1, h2, h3, h4, h5, h6, h7⟩ := HH.out
   have := h0.lt
   have := h1.lt
   have := h2.lt
   have := h3.lt
   have := b17.size
   exact ⟨h0.go b17, h1.go b17, h2.go b17, h3.go b17, h4, h5, h6, h7.trans (b17.mono (by omega))⟩
  clear b17 HH
  refine ⟨_, rfl, ⟨HI.out.1, HI.out.2.1, HI.out.2.2.1, HI.out.2.2.2.1⟩, ?_⟩
  simp only [Act.put, arr9, hd9, tl9]
  refine held_one 27 (by kernel_rfl) ?_
  refine step_call 27 _ _ (some 38) 22 #[.agg (dc p2).toArray, .agg (dc p).toArray] (by rfl) (by kernel_rfl) (by first | kernel_rfl | go_simp) ?_
  refine (H9.out w18).mono ?_
  rintro e w20 ⟨rfl, b19⟩
  have HJ : Shh (Row w20 N 23 (dc p) ∧ Row w20 (N + 1) 23 (dc p2) ∧ Row w20 G5 23 (dc n1) ∧ Row w20 G6 23 (dc n2) ∧ N + 1 < G5 ∧ N + 1 < G6 ∧ G5 ≠ G6 ∧ Below N w w20) := by
   obtain ⟨h0, h1, h2, h3, h4, h5, h6, h7⟩ := HI.out
   have := h0.lt
   have := h1.lt
   have := h2.lt
   have := h3.lt
   have := b19.size
   exact ⟨h0.go b19, h1.go b19, h2.go b19, h3.go b19, h4, h5, h6, h7.trans (b19.mono (by omega))⟩
  clear b19 HI
  refine ⟨_, rfl, ⟨HJ.out.1, HJ.out.2.1, HJ.out.2.2.1, HJ.out.2.2.2.1⟩, ?_⟩
  simp only [Act.put, arr9, hd9, tl9]
  refine hdv 28 39 (.bool true) (by rfl) (fun w hS => run_eql_agg (by kernel_rfl) (E3.out w) (by kernel_rfl) (by kernel_rfl)) ⟨HJ.out.1, HJ.out.2.1, HJ.out.2.2.1, HJ.out.2.2.2.1⟩ ?_
  refine hdv0 29 40 (.bool true) (by rfl) ⟨HJ.out.1, HJ.out.2.1, HJ.out.2.2.1, HJ.out.2.2.2.1⟩ ?_
  refine hdv0 30 41 (.bool true) (by rfl) ⟨HJ.out.1, HJ.out.2.1, HJ.out.2.2.1, HJ.out.2.2.2.1⟩ ?_
  refine held_load 31 23 (.tmp 2) (some 42) (by kernel_rfl) (by rfl) (by kernel_rfl) (N) 0 (by kernel_rfl) (dc p) _ (fun w h => h.1.range) Try.underlying23 rfl (info_dD.trans (size_dc _)) (fun _ _ _ _ h => h) ⟨HJ.out.1, HJ.out.2.1, HJ.out.2.2.1, HJ.out.2.2.2.1⟩ ?_
  simp only [Act.put, arr9, hd9, tl9]
  refine held_load 32 23 (.tmp 3) (some 43) (by kernel_rfl) (by rfl) (by kernel_rfl) ((N + 1)) 0 (by kernel_rfl) (dc p2) _ (fun w h => h.2.1.range) Try.underlying23 rfl (info_dD.trans (size_dc _)) (fun _ _ _ _ h => h) ⟨HJ.out.1, HJ.out.2.1, HJ.out.2.2.1, HJ.out.2.2.2.1⟩ ?_
  simp only [Act.put, arr9, hd9, tl9]
  refine held_load 34 23 (.tmp 3) (some 45) (by kernel_rfl) (by rfl) (by kernel_rfl) ((N + 1)) 0 (by kernel_rfl) (dc p2) _ (fun w h => h.2.1.range) Try.underlying23 rfl (info_dD.trans (size_dc _)) (fun _ _ _ _ h => h) ⟨HJ.out.1, HJ.out.2.1, HJ.out.2.2.1, HJ.out.2.2.2.1⟩ ?_
  simp only [Act.put, arr9, hd9, tl9]
  refine held_load 36 23 (.tmp 2) (some 47) (by kernel_rfl) (by rfl) (by kernel_rfl) (N) 0 (by kernel_rfl) (dc p) _ (fun w h => h.1.range) Try.underlying23 rfl (info_dD.trans (size_dc _)) (fun _ _ _ _ h => h) ⟨HJ.out.1, HJ.out.2.1, HJ.out.2.2.1, HJ.out.2.2.2.1⟩ ?_
  simp only [Act.put, arr9, hd9, tl9]
  refine held_one 33 (by kernel_rfl) ?_
  refine step_call 33 _ _ (some 44) 18 #[.agg (dc p).toArray, .agg (dc p2).toArray] (by rfl) (by kernel_rfl) (by first | kernel_rfl | go_simp) ?_
  refine (H6.out w20).mono ?_
  rintro e w22 ⟨rfl, b21⟩
  have HK : Shh (Row w22 N 23 (dc p) ∧ Row w22 (N + 1) 23 (dc p2) ∧ Row w22 G5 23 (dc n1) ∧ Row w22 G6 23 (dc n2) ∧ N + 1 < G5 ∧ N + 1 < G6 ∧ G5 ≠ G6 ∧ Below N w w22) := by
   obtain ⟨h0, h1, h2, h3, h4, h5, h6, h7⟩ := HJ.out
   have := h0.lt
   have := h1.lt
   have := h2.lt
   have := h3.lt
   have := b21.size
   exact ⟨h0.go b21, h1.go b21, h2.go b21, h3.go b21, h4, h5, h6, h7.trans (b21.mono (by omega))⟩
  clear b21 HJ
  refine ⟨_, rfl, ⟨HK.out.1, HK.out.2.1, HK.out.2.2.1, HK.out.2.2.2.1⟩, ?_⟩
  simp only [Act.put, arr9, hd9, tl9]
  refine held_one 35 (by kernel_rfl) ?_
  refine step_call 35 _ _ (some 46) 20 #[.agg (dc sm).toArray, .agg (dc p2).toArray] (by rfl) (by kernel_rfl) (by first | kernel_rfl | go_simp) ?_
  refine (H10.out w22).mono ?_
  rintro e w24 ⟨rfl, b23⟩
  have HL : Shh (Row w24 N 23 (dc p) ∧ Row w24 (N + 1) 23 (dc p2) ∧ Row w24 G5 23 (dc n1) ∧ Row w24 G6 23 (dc n2) ∧ N + 1 < G5 ∧ N + 1 < G6 ∧ G5 ≠ G6 ∧ Below N w w24) := by
   obtain ⟨h0, h1, h2, h3, h4, h5, h6, h7⟩ := HK.out
   have := h0.lt
   have := h1.lt
   have := h2.lt
   have := h3.lt
   have := b23.size
   exact ⟨h0.go b23, h1.go b23, h2.go b23, h3.go b23, h4, h5, h6, h7.trans (b23.mono (by omega))⟩
  clear b23 HK
  refine ⟨_, rfl, ⟨HL.out.1, HL.out.2.1, HL.out.2.2.1, HL.out.2.2.2.1⟩, ?_⟩
  simp only [Act.put, arr9, hd9, tl9]
  refine held_one 37 (by kernel_rfl) ?_
  refine step_call 37 _ _ (some 48) 12 #[.agg (dc p).toArray] (by rfl) (by kernel_rfl) (by first | kernel_rfl | go_simp) ?_
  refine (H11.out w24).mono ?_
  rintro e w26 ⟨rfl, b25⟩
  have HM : Shh (Row w26 N 23 (dc p) ∧ Row w26 (N + 1) 23 (dc p2) ∧ Row w26 G5 23 (dc n1) ∧ Row w26 G6 23 (dc n2) ∧ N + 1 < G5 ∧ N + 1 < G6 ∧ G5 ≠ G6 ∧ Below N w w26) := by
   obtain ⟨h0, h1, h2, h3, h4, h5, h6, h7⟩ := HL.out
   have := h0.lt
   have := h1.lt
   have := h2.lt
   have := h3.lt
   have := b25.size
   exact ⟨h0.go b25, h1.go b25, h2.go b25, h3.go b25, h4, h5, h6, h7.trans (b25.mono (by omega))⟩
  clear b25 HL
  refine ⟨_, rfl, ⟨HM.out.1, HM.out.2.1, HM.out.2.2.1, HM.out.2.2.2.1⟩, ?_⟩
  simp only [Act.put, arr9, hd9, tl9]
  refine hdv 38 49 (.bool true) (by rfl) (fun w hS => run_eql_agg (by kernel_rfl) (E4.out w) (by kernel_rfl) (by kernel_rfl)) ⟨HM.out.1, HM.out.2.1, HM.out.2.2.1, HM.out.2.2.2.1⟩ ?_
  refine hdv0 39 50 (.bool true) (by rfl) ⟨HM.out.1, HM.out.2.1, HM.out.2.2.1, HM.out.2.2.2.1⟩ ?_
  refine hdv0 40 4 (.bool true) (by rfl) ⟨HM.out.1, HM.out.2.1, HM.out.2.2.1, HM.out.2.2.2.1⟩ ?_
  refine wpAnyH_done (by kernel_rfl) ?_ _
  go_wp2
  go_ret
  exact ⟨rfl, HM.out.2.2.2.2.2.2.2⟩
end Go.Proofs.Ytapjiknedghhfaa
