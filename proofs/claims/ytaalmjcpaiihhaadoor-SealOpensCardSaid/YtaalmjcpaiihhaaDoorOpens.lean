/-
  WALK: the law SealOpens.
-/
import Derived.Test.YtaalmjcpaiihhaaDoorLive4
import Derived.Test.YtaalmjcpaiihhaaDoorFew4
import Derived.Test.YtaalmjcpaiihhaaDoorRefOpen
namespace Go.Proofs.YtaalmjcpaiihhaaDoor
open Go.RowKit
set_option maxRecDepth 100000

set_option maxHeartbeats 4000000 in
theorem opens_any (key nonce : List UInt8) (vad : Value) (ad : List UInt8) (vtx : Value) (tx : List UInt8) (w : World) (hv : Vars w) (hkl : key.length = 32) (hnl : nonce.length = 12) (had : Sl w w.heap.size vad ad) (htx : Sl w w.heap.size vtx tx) :
    Calls Tryd.prog 5 #[.agg (Lib.byteCells key).toArray, .agg (Lib.byteCells nonce).toArray, vad, vtx] w (TrueIs w) := by
  unfold TrueIs
  obtain ⟨Aad, cad, rfl, _, _⟩ := had.form
  obtain ⟨Atx, ctx, rfl, _, _⟩ := htx.form
  generalize hN : w.heap.size = N at *
  obtain ⟨W1, hW1⟩ : ∃ W1, W1 = (w.alloc (.cells (Lib.byteCells key).toArray 22)).alloc (.cells (Lib.byteCells nonce).toArray 23) := ⟨_, rfl⟩
  have hb1 : Below N w W1 := by rw [hW1]; exact ((Below.refl N w).alloc (by omega) _).alloc (by rw [asz]; omega) _
  have hzW : W1.heap.size = N + 2 := by rw [hW1, asz, asz, hN]
  have HC : Shh (Sl W1 W1.heap.size (.slice Aad ad.length cad) ad ∧ Sl W1 W1.heap.size (.slice Atx tx.length ctx) tx ∧ Row W1 N 22 (Lib.byteCells key) ∧ Row W1 (N + 1) 23 (Lib.byteCells nonce) ∧ Vars W1 ∧ Below N w W1 ∧ N + 2 ≤ W1.heap.size) :=
    ⟨(had.below hb1).more (by omega), (htx.below hb1).more (by omega), by rw [hW1]; exact (Row.new_ hN.symm rfl).alloc _, by rw [hW1]; exact Row.new_ (by rw [asz, hN]) rfl, hv.step (by rw [hN]; exact hb1), hb1, by omega⟩
  rw [hW1] at HC
  clear hv hb1 hzW hW1 had htx
  go_enter Tryd.func5, Tryd.ntmps5
  go_wp2_with (go_at_call 14; refine (live_any _ HC.out.2.2.2.2.1).mono ?_)
  rintro e Y1 ⟨rfl, b1⟩
  have H1 : Shh (Sl Y1 Y1.heap.size (.slice Aad ad.length cad) ad ∧ Sl Y1 Y1.heap.size (.slice Atx tx.length ctx) tx ∧ Row Y1 N 22 (Lib.byteCells key) ∧ Row Y1 (N + 1) 23 (Lib.byteCells nonce) ∧ Vars Y1 ∧ Below N w Y1 ∧ N + 2 ≤ Y1.heap.size) := ⟨HC.out.1.go b1, HC.out.2.1.go b1, HC.out.2.2.1.go b1, HC.out.2.2.2.1.go b1, HC.out.2.2.2.2.1.go b1, HC.out.2.2.2.2.2.1.trans (b1.mono (by have := HC.out.2.2.2.2.2.2; omega)), by have := HC.out.2.2.2.2.2.2; have := b1.size; omega⟩
  clear HC b1
  have bP : Shh (Below Y1.heap.size Y1 (Y1.alloc (.cells #[.slice Aad ad.length cad, .slice Atx tx.length ctx] 24)) ∧ Row (Y1.alloc (.cells #[.slice Aad ad.length cad, .slice Atx tx.length ctx] 24)) Y1.heap.size 24 [.slice Aad ad.length cad, .slice Atx tx.length ctx]) := ⟨Below.alloc (Below.refl _ _) (Nat.le_refl _) _, Row.new_ rfl rfl⟩
  obtain ⟨W, hW⟩ : ∃ W, W = Y1.alloc (.cells #[.slice Aad ad.length cad, .slice Atx tx.length ctx] 24) := ⟨_, rfl⟩
  rw [← hW] at bP
  have H2 : Shh (Sl W W.heap.size (.slice Aad ad.length cad) ad ∧ Sl W W.heap.size (.slice Atx tx.length ctx) tx ∧ Row W N 22 (Lib.byteCells key) ∧ Row W (N + 1) 23 (Lib.byteCells nonce) ∧ Vars W ∧ Below N w W ∧ N + 2 ≤ W.heap.size) := ⟨H1.out.1.go bP.out.1, H1.out.2.1.go bP.out.1, H1.out.2.2.1.go bP.out.1, H1.out.2.2.2.1.go bP.out.1, H1.out.2.2.2.2.1.go bP.out.1, H1.out.2.2.2.2.2.1.trans (bP.out.1.mono (by have := H1.out.2.2.2.2.2.2; omega)), by have := H1.out.2.2.2.2.2.2; have := bP.out.1.size; omega⟩
  have hP : Shh (PartsO W W.heap.size W.heap.size (.slice (some ⟨Y1.heap.size, 0, none⟩) 2 2) [ad, tx]) :=
    ⟨PartsO.two bP.out.2.lt (Nat.ne_of_lt bP.out.2.lt) bP.out.2 H2.out.1 (H2.out.1.off (Nat.le_refl _)) H2.out.2.1 (H2.out.2.1.off (Nat.le_refl _))⟩
  rw [hW] at hP H2
  clear bP H1
  go_wp2_with (go_at_call 15; refine (few4_any _ _ _ [ad, tx] _ hP.out (by simp)).mono ?_)
  rintro e Y2 ⟨rfl, rfl⟩
  rw [← hW] at hP H2 ⊢
  clear hP hW
  cases hf : few4B [ad, tx] with
  | false =>
    go_wp2_with (go_at_call 14; refine (live_any _ H2.out.2.2.2.2.1).mono ?_)
    rintro e Y3 ⟨rfl, b3⟩
    have F : Shh (Below N w Y3) := ⟨H2.out.2.2.2.2.2.1.trans (b3.mono (by have := H2.out.2.2.2.2.2.2; omega))⟩
    clear H2 b3
    go_wp2
    go_ret
    exact ⟨rfl, F.out⟩
  | true =>
    have hfy := few4_yes hf
    have hlad : ad.length ≤ 2000 := hfy _ (by simp)
    have hltx : tx.length ≤ 2000 := hfy _ (by simp)
    clear hf hfy
    have bP : Shh (Below W.heap.size W (W.alloc (.cells #[.slice Atx tx.length ctx] 24)) ∧ Row (W.alloc (.cells #[.slice Atx tx.length ctx] 24)) W.heap.size 24 [.slice Atx tx.length ctx]) := ⟨Below.alloc (Below.refl _ _) (Nat.le_refl _) _, Row.new_ rfl rfl⟩
    obtain ⟨Z, hZ⟩ : ∃ Z, Z = W.alloc (.cells #[.slice Atx tx.length ctx] 24) := ⟨_, rfl⟩
    rw [← hZ] at bP
    have hP : Shh (PartsO Z Z.heap.size Z.heap.size (.slice (some ⟨W.heap.size, 0, none⟩) 1 1) [tx]) := by
      have h1 := H2.out.2.1.go bP.out.1
      exact ⟨PartsO.solo bP.out.2 bP.out.2.lt (Nat.ne_of_lt bP.out.2.lt) h1 (h1.off (Nat.le_refl _))⟩
    have H4 : Shh (Sl Z Z.heap.size (.slice Aad ad.length cad) ad ∧ Sl Z Z.heap.size (.slice Atx tx.length ctx) tx ∧ Row Z N 22 (Lib.byteCells key) ∧ Row Z (N + 1) 23 (Lib.byteCells nonce) ∧ Vars Z ∧ Below N w Z ∧ N + 2 ≤ Z.heap.size) := ⟨H2.out.1.go bP.out.1, H2.out.2.1.go bP.out.1, H2.out.2.2.1.go bP.out.1, H2.out.2.2.2.1.go bP.out.1, H2.out.2.2.2.2.1.go bP.out.1, H2.out.2.2.2.2.2.1.trans (bP.out.1.mono (by have := H2.out.2.2.2.2.2.2; omega)), by have := H2.out.2.2.2.2.2.2; have := bP.out.1.size; omega⟩
    rw [hZ] at hP H4
    clear H2 bP
    go_wp2_with (go_at_call 23; refine (refJoin_any _ _ _ [tx] _ hP.out (Nat.le_refl _) (by simp; omega) (by simp)).mono ?_)
    rintro e Y5 ⟨v5, rfl, g5⟩
    rw [← hZ] at g5 H4
    have e5 : [tx].flatten = tx := by simp
    rw [e5] at g5
    have k5 := gives_sl g5
    obtain ⟨A5, c5, rfl, _, _⟩ := k5.form
    have H5 : Shh (Sl Y5 Y5.heap.size (.slice Aad ad.length cad) ad ∧ Sl Y5 Y5.heap.size (.slice Atx tx.length ctx) tx ∧ Row Y5 N 22 (Lib.byteCells key) ∧ Row Y5 (N + 1) 23 (Lib.byteCells nonce) ∧ Vars Y5 ∧ Below N w Y5 ∧ N + 2 ≤ Y5.heap.size ∧ Sl Y5 Y5.heap.size (.slice A5 tx.length c5) tx) := ⟨H4.out.1.go g5.2, H4.out.2.1.go g5.2, H4.out.2.2.1.go g5.2, H4.out.2.2.2.1.go g5.2, H4.out.2.2.2.2.1.go g5.2, H4.out.2.2.2.2.2.1.trans (g5.2.mono (by have := H4.out.2.2.2.2.2.2; omega)), by have := H4.out.2.2.2.2.2.2; have := g5.2.size; omega, k5⟩
    clear g5 k5 H4 hP hZ e5
    go_wp2_with (first | refine wpList_load_any rfl 22 (.tmp 4) rfl N rfl 22 (Lib.byteCells key) (.array 32 5) H5.out.2.2.1 Tryd.underlying22 rfl (info_b32.trans (size_bytes _ _ hkl)) ?_ | refine wpList_load_any rfl 23 (.tmp 5) rfl (N + 1) rfl 23 (Lib.byteCells nonce) (.array 12 5) H5.out.2.2.2.1 Tryd.underlying23 rfl (info_b12.trans (size_bytes _ _ hnl)) ?_ | (go_at_call 26; refine (open_any Y5.heap.size _ _ key nonce ad tx Y5 H5.out.1 (H5.out.2.2.2.2.2.2.2) (Nat.le_refl _) H5.out.2.2.2.2.1 hkl hnl (by omega) (by omega)).mono ?_))
    rintro e Y6 ⟨v6, rfl, g6⟩
    have k6 := gives_sl g6
    obtain ⟨eo, heo⟩ : ∃ eo, eo = openE key nonce ad tx := ⟨_, rfl⟩
    obtain ⟨xo, hxo⟩ : ∃ xo, xo = openV key nonce ad tx := ⟨_, rfl⟩
    rw [← heo]
    rw [← hxo] at k6
    have HEO : Shh (eo = openE key nonce ad tx ∧ xo = openV key nonce ad tx) := ⟨heo, hxo⟩
    clear heo hxo
    obtain ⟨A6, c6, rfl, _, _⟩ := k6.form
    have bd : Below Y5.heap.size Y5 Y6.drew := g6.2.drew
    have H6 : Shh (Sl Y6.drew Y6.drew.heap.size (.slice A6 xo.length c6) xo ∧ Sl Y6.drew Y6.drew.heap.size (.slice Aad ad.length cad) ad ∧ Sl Y6.drew Y6.drew.heap.size (.slice Atx tx.length ctx) tx ∧ Sl Y6.drew Y6.drew.heap.size (.slice A5 tx.length c5) tx ∧ Row Y6.drew N 22 (Lib.byteCells key) ∧ Row Y6.drew (N + 1) 23 (Lib.byteCells nonce) ∧ Below N w Y6.drew ∧ N ≤ Y6.drew.heap.size) :=
      ⟨k6, H5.out.1.go bd, H5.out.2.1.go bd, (H5.out.2.2.2.2.2.2.2).go bd, H5.out.2.2.1.go bd, H5.out.2.2.2.1.go bd, (H5.out.2.2.2.2.2.1.trans (g6.2.mono (by have := H5.out.2.2.2.2.2.2.1; omega))).drew, by have := H5.out.2.2.2.2.2.2.1; have := g6.2.size; show N ≤ Y6.heap.size; omega⟩
    clear k6 g6 H5 bd
    go_wp2
    refine wp_region_held_drew (S := fun _ => True) (by kernel_rfl) trivial (fun hS => ?_)
    generalize Y6.drew = V at H6 ⊢
    have HX := H6.out.1
    have HAD := H6.out.2.1
    have HTX := H6.out.2.2.1
    have HK := (H6.out.2.2.2.2.1).sl hkl (by omega)
    have HNO := (H6.out.2.2.2.2.2.1).sl hnl (by omega)
    refine held_value 0 _ _ (some 36) (.slice (some ⟨N, 0, none⟩) 32 32) (by kernel_rfl) (by rfl) (by kernel_rfl) (fun w hS => by first | kernel_rfl | go_simp) (fun _ _ _ _ h => h) (trivial) ?_
    simp only [Act.put, List.setIfInBounds_toArray, List.set_cons_zero, List.set_cons_succ]
    refine held_value 1 _ _ (some 37) (.slice (some ⟨N + 1, 0, none⟩) 12 12) (by kernel_rfl) (by rfl) (by kernel_rfl) (fun w hS => by first | kernel_rfl | go_simp) (fun _ _ _ _ h => h) (trivial) ?_
    simp only [Act.put, List.setIfInBounds_toArray, List.set_cons_zero, List.set_cons_succ]
    refine held_value 2 _ _ (some 38) (.slice Aad ad.length cad) (by kernel_rfl) (by rfl) (by kernel_rfl) (fun w hS => by first | kernel_rfl | go_simp) (fun _ _ _ _ h => h) (trivial) ?_
    simp only [Act.put, List.setIfInBounds_toArray, List.set_cons_zero, List.set_cons_succ]
    refine held_value 3 _ _ (some 39) (.slice Atx tx.length ctx) (by kernel_rfl) (by rfl) (by kernel_rfl) (fun w hS => by first | kernel_rfl | go_simp) (fun _ _ _ _ h => h) (trivial) ?_
    simp only [Act.put, List.setIfInBounds_toArray, List.set_cons_zero, List.set_cons_succ]
    refine held_one 4 (by kernel_rfl) ?_
    refine step_call 4 _ _ (some 40) 27 #[.slice (some ⟨N, 0, none⟩) 32 32, .slice (some ⟨N + 1, 0, none⟩) 12 12, .slice Aad ad.length cad, .slice Atx tx.length ctx] (by rfl) (by kernel_rfl) (by first | kernel_rfl | go_simp) ?_
    refine (refOpen_any V.heap.size _ _ _ _ key nonce ad tx V HK HNO HAD HTX (Nat.le_refl _) (by omega) (by omega) (by omega) (by omega)).mono ?_
    rintro e Y1 ⟨v40, rfl, s40, g40⟩
    have bx : Below V.heap.size V Y1 := g40
    rw [← HEO.out.1]
    rw [← HEO.out.2] at s40
    have b_V := bx
    have m_Y1 : V.heap.size ≤ Y1.heap.size := bx.size
    clear bx
    refine ⟨_, rfl, trivial, ?_⟩
    simp only [Act.put, List.setIfInBounds_toArray, List.set_cons_zero, List.set_cons_succ]
    refine held_value 5 _ _ (some 35) (.tuple #[v40, .int .i64 eo]) (by kernel_rfl) (by rfl) (by kernel_rfl) (fun w hS => by first | kernel_rfl | go_simp) (fun _ _ _ _ h => h) (trivial) ?_
    simp only [Act.put, List.setIfInBounds_toArray, List.set_cons_zero, List.set_cons_succ]
    refine held_value 6 _ _ (some 41) (v40) (by kernel_rfl) (by rfl) (by kernel_rfl) (fun w hS => by first | kernel_rfl | go_simp) (fun _ _ _ _ h => h) (trivial) ?_
    simp only [Act.put, List.setIfInBounds_toArray, List.set_cons_zero, List.set_cons_succ]
    refine held_value 7 _ _ (some 42) (.int .i64 eo) (by kernel_rfl) (by rfl) (by kernel_rfl) (fun w hS => by first | kernel_rfl | go_simp) (fun _ _ _ _ h => h) (trivial) ?_
    simp only [Act.put, List.setIfInBounds_toArray, List.set_cons_zero, List.set_cons_succ]
    refine held_value 8 _ _ (some 12) (v40) (by kernel_rfl) (by rfl) (by kernel_rfl) (fun w hS => by first | kernel_rfl | go_simp) (fun _ _ _ _ h => h) (trivial) ?_
    simp only [Act.put, List.setIfInBounds_toArray, List.set_cons_zero, List.set_cons_succ]
    refine held_value 9 _ _ (some 13) (.int .i64 eo) (by kernel_rfl) (by rfl) (by kernel_rfl) (fun w hS => by first | kernel_rfl | go_simp) (fun _ _ _ _ h => h) (trivial) ?_
    simp only [Act.put, List.setIfInBounds_toArray, List.set_cons_zero, List.set_cons_succ]
    refine wpAnyH_done (by kernel_rfl) ?_ _
    have H7 : Shh (Sl Y1 Y1.heap.size (.slice A6 xo.length c6) xo ∧ Sl Y1 Y1.heap.size v40 xo ∧ Sl Y1 Y1.heap.size (.slice A5 tx.length c5) tx ∧ Sl Y1 Y1.heap.size (.slice Atx tx.length ctx) tx ∧ Below N w Y1) := ⟨(HX.go b_V), s40, (H6.out.2.2.2.1).go b_V, (HTX.go b_V), (H6.out.2.2.2.2.2.2.1).trans (b_V.mono (H6.out.2.2.2.2.2.2.2))⟩
    clear m_Y1 b_V g40 s40 HX HAD HTX HK HNO H6 hS
    go_wp2_with (go_at_call 21; refine (refEqual_any _ _ _ _ _ _ _ H7.out.1 H7.out.2.1).mono ?_)
    rintro e w8 ⟨rfl, rfl⟩
    have hd1 : (xo == xo) = true := by simp
    rw [hd1]
    go_wp2_with (go_at_call 21; refine (refEqual_any _ _ _ _ _ _ _ H7.out.2.2.1 H7.out.2.2.2.1).mono ?_)
    rintro e w9 ⟨rfl, rfl⟩
    have hd2 : (tx == tx) = true := by simp
    rw [hd2]
    go_wp2
    go_ret
    exact ⟨rfl, H7.out.2.2.2.2⟩
end Go.Proofs.YtaalmjcpaiihhaaDoor
