/-
 THE DOCUMENT'S FAST TRANSFORM: Ntt and Inv.
-/
import Derived.Test.YtapjiknedghhfaaDq11
namespace Go.Proofs.Ytapjiknedghhfaa
open Go.RowKit
set_option maxRecDepth 100000
theorem lq_app {n : Nat} (f : Nat → Int) (sp : List Value) {k : Nat} (h : k < n) : (lq n f ++ sp)[k]? = some (.int .i64 (f k)) := by
 rw [List.getElem?_append_left (by rw [lq_length]; exact h)]
 exact lq_get _ h
theorem OwnQ.row {w : World} {B n : Nat} {v : Value} {f : Nat → Int} (h : OwnQ w B v n f) (hn : 0 < n) : ∃ g c sp, v = .slice (some ⟨g, 0, none⟩) n c ∧ Row w g 2 (lq n f ++ sp) := by
 rcases h with ⟨_, ⟨_, h0⟩ | ⟨g, cap, cur, rfl, _, hgb, hc, hc2, hs, ht⟩⟩
 ·omega
 ·refine ⟨g, cap, cur.toList.drop (n * 1), rfl, ?_⟩
  have h7 : lq n f ++ cur.toList.drop (n * 1) = cur.toList := by rw [← ht, List.take_append_drop]
  unfold Row
  rw [h7]
  exact hgb
theorem row_apart {w : World} {g k : Nat} {T U : TypeId} {cs ds : List Value} (h : Row w g T cs) (h2 : Row w k U ds) (hT : T ≠ U) : g ≠ k := by
 rintro rfl
 have h3 := Eq.trans (Eq.symm h) h2
 simp only [Option.some.injEq, Obj.cells.injEq] at h3
 exact hT h3.2.1
set_option maxHeartbeats 4000000 in
theorem refNtt_any (p : Nat → Int) (hp : ∀ i, i < 256 → i32 (p i)) (w : World) : Calls Try.prog 26 #[polyD p] w (DPolyIs w (nttD p)) := by
 unfold DPolyIs polyD
 have HRD : Shh (∀ W, Calls Try.prog 13 #[.agg (dc p).toArray] W (DPolyIs W (redD p))) := ⟨fun W => refReduce_any p hp W⟩
 have HCT : Shh (∀ B v W, OwnQ W B v 256 (redD p) → B ≤ W.heap.size → Calls Try.prog 53 #[v, .int .i64 256] W (OwnQIs W B 256 (nttD p))) := ⟨fun B v W h1 h2 => (split_any 8 (redD p) 256 B v W (Nat.le_refl _) (by decide) (fun i _ => qd_lt _) h1 h2).mono fun e w' ⟨v, a, b, c⟩ => ⟨v, a, by
  unfold OwnQ at *
  rw [show lq 256 (nttD p) = lq 256 (splF 8 (redD p) 256) from lq_of fun i hi => by rw [splF_nttD (redD p) (fun i => qd_lt _) i hi]; exact (nttD_of (pQ_red p) i).symm]
  exact b, c⟩⟩
 have HFB : Shh (∀ k, i32 (nttD p k)) := ⟨fun k => by have h : 0 ≤ nttD p k ∧ nttD p k < 8380417 := qd_lt _; unfold i32; omega⟩
 have HRB : Shh (∀ k, i32 (redD p k)) := ⟨fun k => redD_32 p k⟩
 clear hp
 generalize nttD p = fin at *
 generalize redD p = r at *
 generalize hN : w.heap.size = N at *
 have FA : Shh (Row ((w.alloc (.cells (dc p).toArray 23)).alloc (.cells (dc fun _ => 0).toArray 23)) N 23 (dc p) ∧ Row ((w.alloc (.cells (dc p).toArray 23)).alloc (.cells (dc fun _ => 0).toArray 23)) (N + 1) 23 (dc fun _ => 0) ∧ Below N w ((w.alloc (.cells (dc p).toArray 23)).alloc (.cells (dc fun _ => 0).toArray 23))) := by
  refine ⟨((Row.new_ hN.symm rfl).alloc _), (Row.new_ (by rw [asz, hN]) rfl), ?_⟩
  rw [← hN]
  exact Below.chain (belA _ _) (belA _ _)
 go_enter Try.func26, Try.ntmps26
 go_wp2_with (first | refine wl_allocD rfl rfl ?_ | refine wpList_load_any rfl 23 (.tmp 1) rfl N rfl 23 (dc p) (.array 256 21) FA.out.1 Try.underlying23 rfl (info_dD.trans (size_dc _)) ?_ | (go_at_call 13; refine (HRD.out _).mono ?_))
 rintro e w1 ⟨rfl, b2⟩
 have FB : Shh (Row w1 N 23 (dc p) ∧ Row w1 (N + 1) 23 (dc fun _ => 0) ∧ Below N w w1) := by
  obtain ⟨h0, h1, h2⟩ := FA.out
  have := h0.lt
  have := h1.lt
  have := b2.size
  exact ⟨h0.go b2, h1.go b2, h2.trans (b2.mono (by omega))⟩
 clear b2 FA HRD
 go_wp2_with (first | refine wpList_store_any rfl 23 (.tmp 1) (.tmp 9) rfl N rfl (dc r) rfl 23 _ FB.out.1 (info_dD.trans (size_dc _)) (same_dc _ _) (dc_one _) ?_)
 intro w3 r4 bt5 zbt5
 have FC : Shh (Row w3 N 23 (dc r) ∧ Row w3 (N + 1) 23 (dc fun _ => 0) ∧ Below N w w3) := by
  obtain ⟨h0, h1, h2⟩ := FB.out
  have := h0.lt
  have := h1.lt
  have hb := bt5.under (Nat.le_of_lt h0.lt) (Nat.le_refl _)
  have := hb.size
  exact ⟨r4, bt5.row h1 h1.lt (by omega), h2.trans (hb.mono (by omega))⟩
 clear bt5 FB r4 zbt5
 go_wp2_with (refine wl_makeQ 256 10 (by decide) rfl rfl rfl rfl rfl ?_)
 intro G3 w7 hG3 r8 b6
 try simp only [Act.put, arr9, hd9, tl9]
 have FD : Shh (Row w7 N 23 (dc r) ∧ Row w7 (N + 1) 23 (dc fun _ => 0) ∧ Below N w w7 ∧ Row w7 G3 2 (lq 256 fun _ => 0) ∧ N + 1 < G3) := by
  obtain ⟨h0, h1, h2⟩ := FC.out
  have := h0.lt
  have := h1.lt
  have := b6.size
  have := hG3.out
  exact ⟨h0.go b6, h1.go b6, h2.trans (b6.mono (by omega)), r8, (by omega)⟩
 clear b6 FC r8 hG3
 go_wp2
 go_loopw [11] (fun i wr => ∃ k : Nat, k ≤ 256 ∧ i = .int .i64 (k : Int) ∧ Shh (Row wr N 23 (dc r) ∧ Row wr (N + 1) 23 (dc fun _ => 0) ∧ Below N w wr ∧ Row wr G3 2 (lq 256 (dhf r (fun _ => 0) k)) ∧ N + 1 < G3)) (fun i _ => 256 - (intOf i).toNat)
 case atStart => exact ⟨0, Nat.zero_le _, rfl, ⟨by simp only [qhf_zero]; exact FD.out⟩⟩
 case round =>
  clear FD
  obtain ⟨k, hk, rfl, HI⟩ := hrel
  by_cases hlt : k < 256
  ·have hlt2 : (k : Int) < 256 := by omega
   have HN1 := Shh.mk (qhf_next 256 r (fun _ => 0) k)
   have HG := Shh.mk (dc_get r hlt)
   have H32 := Shh.mk (HRB.out k)
   generalize r k = rk at *
   have HL := Shh.mk ((HI.out.1.cell k).trans HG.out)
   go_wp2_with (first | refine wl_at 17 rfl (.pointer (some ⟨N, k, none⟩)) rfl (at_dD hlt rfl rfl rfl) ?_ | refine wl_at 18 rfl (.int .i32 rk) rfl (load_d rfl HL.out rfl) ?_ | refine wl_at 19 rfl (.int .i64 rk) rfl (conv_dl H32.out rfl rfl) ?_ | refine wl_at 20 rfl (.pointer (some ⟨G3, k, none⟩)) rfl (at_q0 hlt rfl rfl rfl) ?_ | refine wl_storeQ rfl hlt rfl rfl rfl HI.out.2.2.2.1 ?_)
   intro w9 r10 bt11 zbt11
   rw [HN1.out] at r10
   have HJ : Shh (Row w9 N 23 (dc r) ∧ Row w9 (N + 1) 23 (dc fun _ => 0) ∧ Below N w w9 ∧ Row w9 G3 2 (lq 256 (dhf r (fun _ => 0) (k + 1))) ∧ N + 1 < G3) := by
    obtain ⟨h0, h1, h2, h3, h4⟩ := HI.out
    have := h0.lt
    have := h1.lt
    have := h3.lt
    have hb := bt11.under (Nat.le_of_lt h3.lt) (Nat.le_refl _)
    have := hb.size
    exact ⟨bt11.row h0 h0.lt (by omega), bt11.row h1 h1.lt (by omega), h2.trans (hb.mono (by omega)), r10, h4⟩
   clear bt11 HI r10 zbt11 HL
   go_wp2
   go_roundw
   case rel => exact ⟨k + 1, by omega, by go_num, HJ⟩
   case measure => simp [intOf]; omega
  ·have hlt2 : ¬ (k : Int) < 256 := by omega
   have HJ : Shh (Row wr N 23 (dc r) ∧ Row wr (N + 1) 23 (dc fun _ => 0) ∧ Below N w wr ∧ Row wr G3 2 (lq 256 r) ∧ N + 1 < G3) := by
    have h := HI.out
    rw [show k = 256 by omega] at h
    simp only [qhf_all] at h
    exact ⟨h⟩
   clear HI
   go_wp2_with (refine wl_newzD 5 rfl rfl rfl ?_)
   intro G5 w10 hG5 r11 b9
   try simp only [Act.put, arr9, hd9, tl9]
   have HK : Shh (Row w10 N 23 (dc r) ∧ Row w10 (N + 1) 23 (dc fun _ => 0) ∧ Below N w w10 ∧ Row w10 G3 2 (lq 256 r) ∧ N + 1 < G3 ∧ Row w10 G5 23 (dc fun _ => 0) ∧ G3 < G5) := by
    obtain ⟨h0, h1, h2, h3, h4⟩ := HJ.out
    have := h0.lt
    have := h1.lt
    have := h3.lt
    have := b9.size
    have := hG5.out
    exact ⟨h0.go b9, h1.go b9, h2.trans (b9.mono (by omega)), h3.go b9, h4, r11, (by omega)⟩
   clear b9 HJ r11 hG5
   go_wp2_with (go_at_call 53; refine (HCT.out G3 _ _ (OwnQ.of_row HK.out.2.2.2.1 (q_max (by decide))) (Nat.le_of_lt (HK.out.2.2.2.1.lt))).mono ?_)
   rintro e w8 ⟨v1, rfl, own, b8⟩
   obtain ⟨g1, c1, sp, rfl, own1⟩ := own.row (by decide)
   have HL : Shh (Row w8 N 23 (dc r) ∧ Row w8 (N + 1) 23 (dc fun _ => 0) ∧ Below N w w8 ∧ Row w8 G3 2 (lq 256 r) ∧ N + 1 < G3 ∧ Row w8 G5 23 (dc fun _ => 0) ∧ G3 < G5 ∧ Row w8 g1 2 (lq 256 fin ++ sp)) := by
    obtain ⟨h0, h1, h2, h3, h4, h5, h6⟩ := HK.out
    have := h0.lt
    have := h1.lt
    have := h3.lt
    have := h5.lt
    have := b8.size
    exact ⟨h0.go b8, h1.go b8, h2.trans (b8.mono (by omega)), h3.go b8, h4, h5.go b8, h6, own1⟩
   clear b8 HK own own1
   have HM : Shh (Row w8 N 23 (dc r) ∧ Row w8 (N + 1) 23 (dc fun _ => 0) ∧ Below N w w8 ∧ Row w8 G3 2 (lq 256 r) ∧ N + 1 < G3 ∧ Row w8 G5 23 (dc fun _ => 0) ∧ G3 < G5 ∧ Row w8 g1 2 (lq 256 fin ++ sp) ∧ g1 ≠ G5 ∧ g1 ≠ N + 1) := by
    obtain ⟨h0, h1, h2, h3, h4, h5, h6, h7⟩ := HL.out
    exact ⟨h0, h1, h2, h3, h4, h5, h6, h7, row_apart h7 h5 (by decide), row_apart h7 h1 (by decide)⟩
   clear HL
   go_wp2
   go_loopw [25] (fun i wr => ∃ k : Nat, k ≤ 256 ∧ i = .int .i64 (k : Int) ∧ Shh (Row wr N 23 (dc r) ∧ Row wr (N + 1) 23 (dc fun _ => 0) ∧ Below N w wr ∧ Row wr G3 2 (lq 256 r) ∧ N + 1 < G3 ∧ Row wr G5 23 (dc (dhf fin (fun _ => 0) k)) ∧ G3 < G5 ∧ Row wr g1 2 (lq 256 fin ++ sp) ∧ g1 ≠ G5 ∧ g1 ≠ N + 1)) (fun i _ => 256 - (intOf i).toNat)
   case atStart => exact ⟨0, Nat.zero_le _, rfl, ⟨by simp only [dhf_zero]; exact HM.out⟩⟩
   case round =>
    clear HM
    obtain ⟨k, hk, rfl, HI⟩ := hrel
    by_cases hlt : k < 256
    ·have hlt2 : (k : Int) < 256 := by omega
     have HN1 := Shh.mk (dhf_next fin (fun _ => 0) k)
     have HG := Shh.mk (lq_app fin sp hlt)
     have H32 := Shh.mk (HFB.out k)
     generalize fin k = fk at *
     have HL := Shh.mk ((HI.out.2.2.2.2.2.2.2.1.cell k).trans HG.out)
     go_wp2_with (first | refine wl_at 28 rfl (.pointer (some ⟨g1, k, none⟩)) rfl (at_q0 hlt rfl rfl rfl) ?_ | refine wl_at 29 rfl (.int .i64 fk) rfl (load_l rfl HL.out rfl) ?_ | refine wl_at 32 rfl (.int .i32 fk) rfl (conv_ld H32.out rfl rfl) ?_ | refine wl_at 33 rfl (.pointer (some ⟨G5, k, none⟩)) rfl (at_dD hlt rfl rfl rfl) ?_ | refine wl_storeD rfl hlt rfl rfl rfl HI.out.2.2.2.2.2.1 ?_)
     intro w12 r13 bt14 zbt14
     rw [HN1.out] at r13
     have HJ : Shh (Row w12 N 23 (dc r) ∧ Row w12 (N + 1) 23 (dc fun _ => 0) ∧ Below N w w12 ∧ Row w12 G3 2 (lq 256 r) ∧ N + 1 < G3 ∧ Row w12 G5 23 (dc (dhf fin (fun _ => 0) (k + 1))) ∧ G3 < G5 ∧ Row w12 g1 2 (lq 256 fin ++ sp) ∧ g1 ≠ G5 ∧ g1 ≠ N + 1) := by
      obtain ⟨h0, h1, h2, h3, h4, h5, h6, h7, h8, h9⟩ := HI.out
      have := h0.lt
      have := h1.lt
      have := h3.lt
      have := h5.lt
      have := h7.lt
      have hb := bt14.under (Nat.le_of_lt h5.lt) (Nat.le_refl _)
      have := hb.size
      exact ⟨bt14.row h0 h0.lt (by omega), bt14.row h1 h1.lt (by omega), h2.trans (hb.mono (by omega)), bt14.row h3 h3.lt (by omega), h4, r13, h6, bt14.row h7 h7.lt (by omega), h8, h9⟩
     clear bt14 HI r13 zbt14 HL
     go_wp2
     go_roundw
     case rel => exact ⟨k + 1, by omega, by go_num, HJ⟩
     case measure => simp [intOf]; omega
    ·have hlt2 : ¬ (k : Int) < 256 := by omega
     have HJ : Shh (Row wr N 23 (dc r) ∧ Row wr (N + 1) 23 (dc fun _ => 0) ∧ Below N w wr ∧ Row wr G3 2 (lq 256 r) ∧ N + 1 < G3 ∧ Row wr G5 23 (dc fin) ∧ G3 < G5 ∧ Row wr g1 2 (lq 256 fin ++ sp) ∧ g1 ≠ G5 ∧ g1 ≠ N + 1) := by
      have h := HI.out
      rw [show k = 256 by omega] at h
      simp only [dhf_all] at h
      exact ⟨h⟩
     clear HI
     go_wp2_with (first | refine wpList_load_any rfl 23 (.tmp 5) rfl G5 rfl 23 (dc fin) (.array 256 21) HJ.out.2.2.2.2.2.1 Try.underlying23 rfl (info_dD.trans (size_dc _)) ?_ | refine wpList_store_any rfl 23 (.tmp 2) (.tmp 35) rfl (N + 1) rfl (dc fin) rfl 23 _ HJ.out.2.1 (info_dD.trans (size_dc _)) (same_dc _ _) (dc_one _) ?_)
     intro w12 r13 bt14 zbt14
     have HK : Shh (Row w12 N 23 (dc r) ∧ Row w12 (N + 1) 23 (dc fin) ∧ Below N w w12 ∧ Row w12 G3 2 (lq 256 r) ∧ N + 1 < G3 ∧ Row w12 G5 23 (dc fin) ∧ G3 < G5 ∧ Row w12 g1 2 (lq 256 fin ++ sp) ∧ g1 ≠ G5 ∧ g1 ≠ N + 1) := by
      obtain ⟨h0, h1, h2, h3, h4, h5, h6, h7, h8, h9⟩ := HJ.out
      have := h0.lt
      have := h1.lt
      have := h3.lt
      have := h5.lt
      have := h7.lt
      have hb := bt14.under (Nat.le_of_lt h1.lt) (Nat.le_refl _)
      have := hb.size
      exact ⟨bt14.row h0 h0.lt (by omega), r13, h2.trans (hb.mono (by omega)), bt14.row h3 h3.lt (by omega), h4, bt14.row h5 h5.lt (by omega), h6, bt14.row h7 h7.lt (by omega), h8, h9⟩
     clear bt14 HJ r13 zbt14
     go_wp2
     exact ret_row Try.results26 rfl rfl HK.out.2.1 Try.underlying23 rfl (info_dD.trans (size_dc _)) ⟨rfl, HK.out.2.2.1⟩
set_option maxHeartbeats 4000000 in
theorem refInv_any (p : Nat → Int) (hp : ∀ i, i < 256 → i32 (p i)) (w : World) : Calls Try.prog 28 #[polyD p] w (DPolyIs w (invD p)) := by
 unfold DPolyIs polyD
 have HRD : Shh (∀ W, Calls Try.prog 13 #[.agg (dc p).toArray] W (DPolyIs W (redD p))) := ⟨fun W => refReduce_any p hp W⟩
 have HCT : Shh (∀ v W, SLq W W.heap.size v 256 (redD p) → Calls Try.prog 54 #[v, .int .i64 256] W (JoinIs W 8 256 (invD p))) := ⟨fun v W h1 => (join_any 8 (redD p) 256 v W (Nat.le_refl _) (by decide) (fun i _ => qd_lt _) h1).mono fun e w' ⟨v, a, b, c, d⟩ => ⟨v, a, by
  obtain ⟨g, o, cc, e, h1, h2, h3, h4, h5⟩ := b
  exact ⟨g, o, cc, e, h1, h2, h3, h4, fun j hj => by rw [← joinF_inv p j hj]; exact h5 j hj⟩, c, fun hm => by
  obtain ⟨G, e1, e2, e3⟩ := d hm
  refine ⟨G, e1, e2, ?_⟩
  rw [show lq 256 (invD p) = lq 256 (joinF 8 (redD p) 256) from lq_of fun i hi => (joinF_inv p i hi).symm]
  exact e3⟩⟩
 have HFB : Shh (∀ k, i32 (invD p k)) := ⟨fun k => by have h : 0 ≤ invD p k ∧ invD p k < 8380417 := qd_lt _; unfold i32; omega⟩
 have HRB : Shh (∀ k, i32 (redD p k)) := ⟨fun k => redD_32 p k⟩
 clear hp
 generalize invD p = fin at *
 generalize redD p = r at *
 generalize hN : w.heap.size = N at *
 have FA : Shh (Row ((w.alloc (.cells (dc p).toArray 23)).alloc (.cells (dc fun _ => 0).toArray 23)) N 23 (dc p) ∧ Row ((w.alloc (.cells (dc p).toArray 23)).alloc (.cells (dc fun _ => 0).toArray 23)) (N + 1) 23 (dc fun _ => 0) ∧ Below N w ((w.alloc (.cells (dc p).toArray 23)).alloc (.cells (dc fun _ => 0).toArray 23))) := by
  refine ⟨((Row.new_ hN.symm rfl).alloc _), (Row.new_ (by rw [asz, hN]) rfl), ?_⟩
  rw [← hN]
  exact Below.chain (belA _ _) (belA _ _)
 go_enter Try.func28, Try.ntmps28
 go_wp2_with (first | refine wl_allocD rfl rfl ?_ | refine wpList_load_any rfl 23 (.tmp 1) rfl N rfl 23 (dc p) (.array 256 21) FA.out.1 Try.underlying23 rfl (info_dD.trans (size_dc _)) ?_ | (go_at_call 13; refine (HRD.out _).mono ?_))
 rintro e w1 ⟨rfl, b2⟩
 have FB : Shh (Row w1 N 23 (dc p) ∧ Row w1 (N + 1) 23 (dc fun _ => 0) ∧ Below N w w1) := by
  obtain ⟨h0, h1, h2⟩ := FA.out
  have := h0.lt
  have := h1.lt
  have := b2.size
  exact ⟨h0.go b2, h1.go b2, h2.trans (b2.mono (by omega))⟩
 clear b2 FA HRD
 go_wp2_with (first | refine wpList_store_any rfl 23 (.tmp 1) (.tmp 9) rfl N rfl (dc r) rfl 23 _ FB.out.1 (info_dD.trans (size_dc _)) (same_dc _ _) (dc_one _) ?_)
 intro w3 r4 bt5 zbt5
 have FC : Shh (Row w3 N 23 (dc r) ∧ Row w3 (N + 1) 23 (dc fun _ => 0) ∧ Below N w w3) := by
  obtain ⟨h0, h1, h2⟩ := FB.out
  have := h0.lt
  have := h1.lt
  have hb := bt5.under (Nat.le_of_lt h0.lt) (Nat.le_refl _)
  have := hb.size
  exact ⟨r4, bt5.row h1 h1.lt (by omega), h2.trans (hb.mono (by omega))⟩
 clear bt5 FB r4 zbt5
 go_wp2_with (refine wl_makeQ 256 10 (by decide) rfl rfl rfl rfl rfl ?_)
 intro G3 w7 hG3 r8 b6
 try simp only [Act.put, arr9, hd9, tl9]
 have FD : Shh (Row w7 N 23 (dc r) ∧ Row w7 (N + 1) 23 (dc fun _ => 0) ∧ Below N w w7 ∧ Row w7 G3 2 (lq 256 fun _ => 0) ∧ N + 1 < G3) := by
  obtain ⟨h0, h1, h2⟩ := FC.out
  have := h0.lt
  have := h1.lt
  have := b6.size
  have := hG3.out
  exact ⟨h0.go b6, h1.go b6, h2.trans (b6.mono (by omega)), r8, (by omega)⟩
 clear b6 FC r8 hG3
 go_wp2
 go_loopw [11] (fun i wr => ∃ k : Nat, k ≤ 256 ∧ i = .int .i64 (k : Int) ∧ Shh (Row wr N 23 (dc r) ∧ Row wr (N + 1) 23 (dc fun _ => 0) ∧ Below N w wr ∧ Row wr G3 2 (lq 256 (dhf r (fun _ => 0) k)) ∧ N + 1 < G3)) (fun i _ => 256 - (intOf i).toNat)
 case atStart => exact ⟨0, Nat.zero_le _, rfl, ⟨by simp only [qhf_zero]; exact FD.out⟩⟩
 case round =>
  clear FD
  obtain ⟨k, hk, rfl, HI⟩ := hrel
  by_cases hlt : k < 256
  ·have hlt2 : (k : Int) < 256 := by omega
   have HN1 := Shh.mk (qhf_next 256 r (fun _ => 0) k)
   have HG := Shh.mk (dc_get r hlt)
   have H32 := Shh.mk (HRB.out k)
   generalize r k = rk at *
   have HL := Shh.mk ((HI.out.1.cell k).trans HG.out)
   go_wp2_with (first | refine wl_at 17 rfl (.pointer (some ⟨N, k, none⟩)) rfl (at_dD hlt rfl rfl rfl) ?_ | refine wl_at 18 rfl (.int .i32 rk) rfl (load_d rfl HL.out rfl) ?_ | refine wl_at 19 rfl (.int .i64 rk) rfl (conv_dl H32.out rfl rfl) ?_ | refine wl_at 20 rfl (.pointer (some ⟨G3, k, none⟩)) rfl (at_q0 hlt rfl rfl rfl) ?_ | refine wl_storeQ rfl hlt rfl rfl rfl HI.out.2.2.2.1 ?_)
   intro w9 r10 bt11 zbt11
   rw [HN1.out] at r10
   have HJ : Shh (Row w9 N 23 (dc r) ∧ Row w9 (N + 1) 23 (dc fun _ => 0) ∧ Below N w w9 ∧ Row w9 G3 2 (lq 256 (dhf r (fun _ => 0) (k + 1))) ∧ N + 1 < G3) := by
    obtain ⟨h0, h1, h2, h3, h4⟩ := HI.out
    have := h0.lt
    have := h1.lt
    have := h3.lt
    have hb := bt11.under (Nat.le_of_lt h3.lt) (Nat.le_refl _)
    have := hb.size
    exact ⟨bt11.row h0 h0.lt (by omega), bt11.row h1 h1.lt (by omega), h2.trans (hb.mono (by omega)), r10, h4⟩
   clear bt11 HI r10 zbt11 HL
   go_wp2
   go_roundw
   case rel => exact ⟨k + 1, by omega, by go_num, HJ⟩
   case measure => simp [intOf]; omega
  ·have hlt2 : ¬ (k : Int) < 256 := by omega
   have HJ : Shh (Row wr N 23 (dc r) ∧ Row wr (N + 1) 23 (dc fun _ => 0) ∧ Below N w wr ∧ Row wr G3 2 (lq 256 r) ∧ N + 1 < G3) := by
    have h := HI.out
    rw [show k = 256 by omega] at h
    simp only [qhf_all] at h
    exact ⟨h⟩
   clear HI
   go_wp2_with (refine wl_newzD 5 rfl rfl rfl ?_)
   intro G5 w10 hG5 r11 b9
   try simp only [Act.put, arr9, hd9, tl9]
   have HK : Shh (Row w10 N 23 (dc r) ∧ Row w10 (N + 1) 23 (dc fun _ => 0) ∧ Below N w w10 ∧ Row w10 G3 2 (lq 256 r) ∧ N + 1 < G3 ∧ Row w10 G5 23 (dc fun _ => 0) ∧ G3 < G5) := by
    obtain ⟨h0, h1, h2, h3, h4⟩ := HJ.out
    have := h0.lt
    have := h1.lt
    have := h3.lt
    have := b9.size
    have := hG5.out
    exact ⟨h0.go b9, h1.go b9, h2.trans (b9.mono (by omega)), h3.go b9, h4, r11, (by omega)⟩
   clear b9 HJ r11 hG5
   go_wp2_with (go_at_call 54; refine (HCT.out _ _ (SLq.of_row HK.out.2.2.2.1 (q_max (by decide)))).mono ?_)
   rintro e w8 ⟨v1, rfl, _, b8, own⟩
   obtain ⟨g1, rfl, _, own1⟩ := own (by decide)
   have HL : Shh (Row w8 N 23 (dc r) ∧ Row w8 (N + 1) 23 (dc fun _ => 0) ∧ Below N w w8 ∧ Row w8 G3 2 (lq 256 r) ∧ N + 1 < G3 ∧ Row w8 G5 23 (dc fun _ => 0) ∧ G3 < G5 ∧ Row w8 g1 2 (lq 256 fin)) := by
    obtain ⟨h0, h1, h2, h3, h4, h5, h6⟩ := HK.out
    have := h0.lt
    have := h1.lt
    have := h3.lt
    have := h5.lt
    have := b8.size
    exact ⟨h0.go b8, h1.go b8, h2.trans (b8.mono (by omega)), h3.go b8, h4, h5.go b8, h6, own1⟩
   clear b8 HK own own1
   have HM : Shh (Row w8 N 23 (dc r) ∧ Row w8 (N + 1) 23 (dc fun _ => 0) ∧ Below N w w8 ∧ Row w8 G3 2 (lq 256 r) ∧ N + 1 < G3 ∧ Row w8 G5 23 (dc fun _ => 0) ∧ G3 < G5 ∧ Row w8 g1 2 (lq 256 fin) ∧ g1 ≠ G5 ∧ g1 ≠ N + 1) := by
    obtain ⟨h0, h1, h2, h3, h4, h5, h6, h7⟩ := HL.out
    exact ⟨h0, h1, h2, h3, h4, h5, h6, h7, row_apart h7 h5 (by decide), row_apart h7 h1 (by decide)⟩
   clear HL
   go_wp2
   go_loopw [25] (fun i wr => ∃ k : Nat, k ≤ 256 ∧ i = .int .i64 (k : Int) ∧ Shh (Row wr N 23 (dc r) ∧ Row wr (N + 1) 23 (dc fun _ => 0) ∧ Below N w wr ∧ Row wr G3 2 (lq 256 r) ∧ N + 1 < G3 ∧ Row wr G5 23 (dc (dhf fin (fun _ => 0) k)) ∧ G3 < G5 ∧ Row wr g1 2 (lq 256 fin) ∧ g1 ≠ G5 ∧ g1 ≠ N + 1)) (fun i _ => 256 - (intOf i).toNat)
   case atStart => exact ⟨0, Nat.zero_le _, rfl, ⟨by simp only [dhf_zero]; exact HM.out⟩⟩
   case round =>
    clear HM
    obtain ⟨k, hk, rfl, HI⟩ := hrel
    by_cases hlt : k < 256
    ·have hlt2 : (k : Int) < 256 := by omega
     have HN1 := Shh.mk (dhf_next fin (fun _ => 0) k)
     have HG := Shh.mk (lq_get fin hlt)
     have H32 := Shh.mk (HFB.out k)
     generalize fin k = fk at *
     have HL := Shh.mk ((HI.out.2.2.2.2.2.2.2.1.cell k).trans HG.out)
     go_wp2_with (first | refine wl_at 28 rfl (.pointer (some ⟨g1, k, none⟩)) rfl (at_q0 hlt rfl rfl rfl) ?_ | refine wl_at 29 rfl (.int .i64 fk) rfl (load_l rfl HL.out rfl) ?_ | refine wl_at 32 rfl (.int .i32 fk) rfl (conv_ld H32.out rfl rfl) ?_ | refine wl_at 33 rfl (.pointer (some ⟨G5, k, none⟩)) rfl (at_dD hlt rfl rfl rfl) ?_ | refine wl_storeD rfl hlt rfl rfl rfl HI.out.2.2.2.2.2.1 ?_)
     intro w12 r13 bt14 zbt14
     rw [HN1.out] at r13
     have HJ : Shh (Row w12 N 23 (dc r) ∧ Row w12 (N + 1) 23 (dc fun _ => 0) ∧ Below N w w12 ∧ Row w12 G3 2 (lq 256 r) ∧ N + 1 < G3 ∧ Row w12 G5 23 (dc (dhf fin (fun _ => 0) (k + 1))) ∧ G3 < G5 ∧ Row w12 g1 2 (lq 256 fin) ∧ g1 ≠ G5 ∧ g1 ≠ N + 1) := by
      obtain ⟨h0, h1, h2, h3, h4, h5, h6, h7, h8, h9⟩ := HI.out
      have := h0.lt
      have := h1.lt
      have := h3.lt
      have := h5.lt
      have := h7.lt
      have hb := bt14.under (Nat.le_of_lt h5.lt) (Nat.le_refl _)
      have := hb.size
      exact ⟨bt14.row h0 h0.lt (by omega), bt14.row h1 h1.lt (by omega), h2.trans (hb.mono (by omega)), bt14.row h3 h3.lt (by omega), h4, r13, h6, bt14.row h7 h7.lt (by omega), h8, h9⟩
     clear bt14 HI r13 zbt14 HL
     go_wp2
     go_roundw
     case rel => exact ⟨k + 1, by omega, by go_num, HJ⟩
     case measure => simp [intOf]; omega
    ·have hlt2 : ¬ (k : Int) < 256 := by omega
     have HJ : Shh (Row wr N 23 (dc r) ∧ Row wr (N + 1) 23 (dc fun _ => 0) ∧ Below N w wr ∧ Row wr G3 2 (lq 256 r) ∧ N + 1 < G3 ∧ Row wr G5 23 (dc fin) ∧ G3 < G5 ∧ Row wr g1 2 (lq 256 fin) ∧ g1 ≠ G5 ∧ g1 ≠ N + 1) := by
      have h := HI.out
      rw [show k = 256 by omega] at h
      simp only [dhf_all] at h
      exact ⟨h⟩
     clear HI
     go_wp2_with (first | refine wpList_load_any rfl 23 (.tmp 5) rfl G5 rfl 23 (dc fin) (.array 256 21) HJ.out.2.2.2.2.2.1 Try.underlying23 rfl (info_dD.trans (size_dc _)) ?_ | refine wpList_store_any rfl 23 (.tmp 2) (.tmp 35) rfl (N + 1) rfl (dc fin) rfl 23 _ HJ.out.2.1 (info_dD.trans (size_dc _)) (same_dc _ _) (dc_one _) ?_)
     intro w12 r13 bt14 zbt14
     have HK : Shh (Row w12 N 23 (dc r) ∧ Row w12 (N + 1) 23 (dc fin) ∧ Below N w w12 ∧ Row w12 G3 2 (lq 256 r) ∧ N + 1 < G3 ∧ Row w12 G5 23 (dc fin) ∧ G3 < G5 ∧ Row w12 g1 2 (lq 256 fin) ∧ g1 ≠ G5 ∧ g1 ≠ N + 1) := by
      obtain ⟨h0, h1, h2, h3, h4, h5, h6, h7, h8, h9⟩ := HJ.out
      have := h0.lt
      have := h1.lt
      have := h3.lt
      have := h5.lt
      have := h7.lt
      have hb := bt14.under (Nat.le_of_lt h1.lt) (Nat.le_refl _)
      have := hb.size
      exact ⟨bt14.row h0 h0.lt (by omega), r13, h2.trans (hb.mono (by omega)), bt14.row h3 h3.lt (by omega), h4, bt14.row h5 h5.lt (by omega), h6, bt14.row h7 h7.lt (by omega), h8, h9⟩
     clear bt14 HJ r13 zbt14
     go_wp2
     exact ret_row Try.results28 rfl rfl HK.out.2.1 Try.underlying23 rfl (info_dD.trans (size_dc _)) ⟨rfl, HK.out.2.2.1⟩
end Go.Proofs.Ytapjiknedghhfaa
