/-
  WALK: the law SealSeals.
-/
import Derived.Test.YtaalmjcpaiihhaaDoorLive4
import Derived.Test.YtaalmjcpaiihhaaDoorFew4
import Derived.Test.YtaalmjcpaiihhaaDoorRefOpen
namespace Go.Proofs.YtaalmjcpaiihhaaDoor
open Go.RowKit
set_option maxRecDepth 100000

theorem refEqual_yes (B B' : Nat) (v v' : Value) (bs : List UInt8) (w : World) (h1 : Sl w B v bs) (h2 : Sl w B' v' bs) :
    Calls Tryd.prog 21 #[v, v'] w fun e w' => e = .returned (.bool true) ∧ w = w' := by
  have h := refEqual_any B B' v v' bs bs w h1 h2
  have e : (bs == bs) = true := by simp
  rw [e] at h
  exact h

set_option maxHeartbeats 4000000 in
theorem seals_any (key nonce : List UInt8) (vad : Value) (ad : List UInt8) (vtx : Value) (tx : List UInt8) (w : World) (hv : Vars w) (hkl : key.length = 32) (hnl : nonce.length = 12) (had : Sl w w.heap.size vad ad) (htx : Sl w w.heap.size vtx tx) :
    Calls Tryd.prog 4 #[.agg (Lib.byteCells key).toArray, .agg (Lib.byteCells nonce).toArray, vad, vtx] w (TrueIs w) := by
  unfold TrueIs
  obtain ⟨Aad, cad, rfl, _, _⟩ := had.form
  obtain ⟨Atx, ctx, rfl, _, _⟩ := htx.form
  generalize hN : w.heap.size = N at *
  obtain ⟨W1, hW1⟩ : ∃ W1, W1 = (w.alloc (.cells (Lib.byteCells key).toArray 22)).alloc (.cells (Lib.byteCells nonce).toArray 23) := ⟨_, rfl⟩
  have hb1 : Below N w W1 := by rw [hW1]; exact ((Below.refl N w).alloc (by omega) _).alloc (by rw [asz]; omega) _
  have hzW : W1.heap.size = N + 2 := by rw [hW1, asz, asz, hN]
  have HC : Shh (Sl W1 W1.heap.size (.slice Aad ad.length cad) ad ∧ Sl W1 W1.heap.size (.slice Atx tx.length ctx) tx ∧ Row W1 N 22 (Lib.byteCells key) ∧ Row W1 (N + 1) 23 (Lib.byteCells nonce) ∧ Vars W1 ∧ Below N w W1 ∧ N + 2 ≤ W1.heap.size) :=
    ⟨(had.below hb1).more (by omega), (htx.below hb1).more (by omega), by rw [hW1]; exact (Row.new_ hN.symm rfl).alloc _, by rw [hW1]; exact Row.new_ (by rw [asz, hN]) rfl, hv.step (by rw [hN]; exact hb1), hb1, by omega⟩
  rw [hW1] at HC
  clear hv hb1 hzW hW1 had htx
  go_enter Tryd.func4, Tryd.ntmps4
  go_wp2_with (go_at_call 14; refine (live_any _ HC.out.2.2.2.2.1).mono ?_)
  rintro e Y1 ⟨rfl, b1⟩
  have H1 : Shh (Sl Y1 Y1.heap.size (.slice Aad ad.length cad) ad ∧ Sl Y1 Y1.heap.size (.slice Atx tx.length ctx) tx ∧ Row Y1 N 22 (Lib.byteCells key) ∧ Row Y1 (N + 1) 23 (Lib.byteCells nonce) ∧ Vars Y1 ∧ Below N w Y1 ∧ N + 2 ≤ Y1.heap.size) := ⟨HC.out.1.go b1, HC.out.2.1.go b1, HC.out.2.2.1.go b1, HC.out.2.2.2.1.go b1, HC.out.2.2.2.2.1.go b1, HC.out.2.2.2.2.2.1.trans (b1.mono (by have := HC.out.2.2.2.2.2.2; omega)), by have := HC.out.2.2.2.2.2.2; have := b1.size; omega⟩
  clear HC b1
  have bP : Shh (Below Y1.heap.size Y1 (Y1.alloc (.cells #[.slice Aad ad.length cad, .slice Atx tx.length ctx] 24)) ∧ Row (Y1.alloc (.cells #[.slice Aad ad.length cad, .slice Atx tx.length ctx] 24)) Y1.heap.size 24 [.slice Aad ad.length cad, .slice Atx tx.length ctx]) := ⟨Below.alloc (Below.refl _ _) (Nat.le_refl _) _, Row.new_ rfl rfl⟩
  obtain ⟨W, hW⟩ : ∃ W, W = Y1.alloc (.cells #[.slice Aad ad.length cad, .slice Atx tx.length ctx] 24) := ⟨_, rfl⟩
  rw [← hW] at bP
  have H2 : Shh (Sl W W.heap.size (.slice Aad ad.length cad) ad ∧ Sl W W.heap.size (.slice Atx tx.length ctx) tx ∧ Row W N 22 (Lib.byteCells key) ∧ Row W (N + 1) 23 (Lib.byteCells nonce) ∧ Vars W ∧ Below N w W ∧ N + 2 ≤ W.heap.size) := ⟨H1.out.1.go bP.out.1, H1.out.2.1.go bP.out.1, H1.out.2.2.1.go bP.out.1, H1.out.2.2.2.1.go bP.out.1, H1.out.2.2.2.2.1.go bP.out.1, H1.out.2.2.2.2.2.1.trans (bP.out.1.mono (by have := H1.out.2.2.2.2.2.2; omega)), by have := H1.out.2.2.2.2.2.2; have := bP.out.1.size; omega⟩
  have hP : Shh (PartsO W W.heap.size W.heap.size (.slice (some ⟨Y1.heap.size, 0, none⟩) 2 2) [ad, tx]) :=
    ⟨PartsO.two bP.out.2.lt (Nat.ne_of_lt bP.out.2.lt) bP.out.2 H2.out.1 (H2.out.1.off (Nat.le_refl _)) H2.out.2.1 (H2.out.2.1.off (Nat.le_refl _))⟩
  rw [hW] at hP H2
  clear bP H1
  go_wp2_with (go_at_call 15; refine (few4_any _ _ _ [ad, tx] _ hP.out (by simp)).mono ?_)
  rintro e Y2 ⟨rfl, rfl⟩
  rw [← hW] at hP H2 ⊢
  clear hP hW
  cases hf : few4B [ad, tx] with
  | false =>
    go_wp2_with (go_at_call 14; refine (live_any _ H2.out.2.2.2.2.1).mono ?_)
    rintro e Y3 ⟨rfl, b3⟩
    have F : Shh (Below N w Y3) := ⟨H2.out.2.2.2.2.2.1.trans (b3.mono (by have := H2.out.2.2.2.2.2.2; omega))⟩
    clear H2 b3
    go_wp2
    go_ret
    exact ⟨rfl, F.out⟩
  | true =>
    have hfy := few4_yes hf
    have hlad : ad.length ≤ 2000 := hfy _ (by simp)
    have hltx : tx.length ≤ 2000 := hfy _ (by simp)
    clear hf hfy
    have bP : Shh (Below W.heap.size W (W.alloc (.cells #[.slice Aad ad.length cad] 24)) ∧ Row (W.alloc (.cells #[.slice Aad ad.length cad] 24)) W.heap.size 24 [.slice Aad ad.length cad]) := ⟨Below.alloc (Below.refl _ _) (Nat.le_refl _) _, Row.new_ rfl rfl⟩
    obtain ⟨Z, hZ⟩ : ∃ Z, Z = W.alloc (.cells #[.slice Aad ad.length cad] 24) := ⟨_, rfl⟩
    rw [← hZ] at bP
    have hP : Shh (PartsO Z Z.heap.size Z.heap.size (.slice (some ⟨W.heap.size, 0, none⟩) 1 1) [ad]) := by
      have h1 := H2.out.1.go bP.out.1
      exact ⟨PartsO.solo bP.out.2 bP.out.2.lt (Nat.ne_of_lt bP.out.2.lt) h1 (h1.off (Nat.le_refl _))⟩
    have H3 : Shh (Sl Z Z.heap.size (.slice Aad ad.length cad) ad ∧ Sl Z Z.heap.size (.slice Atx tx.length ctx) tx ∧ Row Z N 22 (Lib.byteCells key) ∧ Row Z (N + 1) 23 (Lib.byteCells nonce) ∧ Vars Z ∧ Below N w Z ∧ N + 2 ≤ Z.heap.size) := ⟨H2.out.1.go bP.out.1, H2.out.2.1.go bP.out.1, H2.out.2.2.1.go bP.out.1, H2.out.2.2.2.1.go bP.out.1, H2.out.2.2.2.2.1.go bP.out.1, H2.out.2.2.2.2.2.1.trans (bP.out.1.mono (by have := H2.out.2.2.2.2.2.2; omega)), by have := H2.out.2.2.2.2.2.2; have := bP.out.1.size; omega⟩
    rw [hZ] at hP H3
    clear H2 bP
    go_wp2_with (go_at_call 23; refine (refJoin_any _ _ _ [ad] _ hP.out (Nat.le_refl _) (by simp; omega) (by simp)).mono ?_)
    rintro e Y5 ⟨v5, rfl, g5⟩
    rw [← hZ] at g5 H3
    have e5 : [ad].flatten = ad := by simp
    rw [e5] at g5
    have k5 := gives_sl g5
    obtain ⟨A5, c5, rfl, _, _⟩ := k5.form
    have H4 : Shh (Sl Y5 Y5.heap.size (.slice Aad ad.length cad) ad ∧ Sl Y5 Y5.heap.size (.slice Atx tx.length ctx) tx ∧ Row Y5 N 22 (Lib.byteCells key) ∧ Row Y5 (N + 1) 23 (Lib.byteCells nonce) ∧ Vars Y5 ∧ Below N w Y5 ∧ N + 2 ≤ Y5.heap.size ∧ Sl Y5 Y5.heap.size (.slice A5 ad.length c5) ad) := ⟨H3.out.1.go g5.2, H3.out.2.1.go g5.2, H3.out.2.2.1.go g5.2, H3.out.2.2.2.1.go g5.2, H3.out.2.2.2.2.1.go g5.2, H3.out.2.2.2.2.2.1.trans (g5.2.mono (by have := H3.out.2.2.2.2.2.2; omega)), by have := H3.out.2.2.2.2.2.2; have := g5.2.size; omega, k5⟩
    clear g5 k5 H3 hP hZ e5
    have bP : Shh (Below Y5.heap.size Y5 (Y5.alloc (.cells #[.slice Atx tx.length ctx] 24)) ∧ Row (Y5.alloc (.cells #[.slice Atx tx.length ctx] 24)) Y5.heap.size 24 [.slice Atx tx.length ctx]) := ⟨Below.alloc (Below.refl _ _) (Nat.le_refl _) _, Row.new_ rfl rfl⟩
    obtain ⟨Z2, hZ⟩ : ∃ Z2, Z2 = Y5.alloc (.cells #[.slice Atx tx.length ctx] 24) := ⟨_, rfl⟩
    rw [← hZ] at bP
    have hP : Shh (PartsO Z2 Z2.heap.size Z2.heap.size (.slice (some ⟨Y5.heap.size, 0, none⟩) 1 1) [tx]) := by
      have h1 := H4.out.2.1.go bP.out.1
      exact ⟨PartsO.solo bP.out.2 bP.out.2.lt (Nat.ne_of_lt bP.out.2.lt) h1 (h1.off (Nat.le_refl _))⟩
    have H5 : Shh (Sl Z2 Z2.heap.size (.slice Aad ad.length cad) ad ∧ Sl Z2 Z2.heap.size (.slice Atx tx.length ctx) tx ∧ Row Z2 N 22 (Lib.byteCells key) ∧ Row Z2 (N + 1) 23 (Lib.byteCells nonce) ∧ Vars Z2 ∧ Below N w Z2 ∧ N + 2 ≤ Z2.heap.size ∧ Sl Z2 Z2.heap.size (.slice A5 ad.length c5) ad) := ⟨H4.out.1.go bP.out.1, H4.out.2.1.go bP.out.1, H4.out.2.2.1.go bP.out.1, H4.out.2.2.2.1.go bP.out.1, H4.out.2.2.2.2.1.go bP.out.1, H4.out.2.2.2.2.2.1.trans (bP.out.1.mono (by have := H4.out.2.2.2.2.2.2; omega)), by have := H4.out.2.2.2.2.2.2; have := bP.out.1.size; omega, (H4.out.2.2.2.2.2.2.2).go bP.out.1⟩
    rw [hZ] at hP H5
    clear H4 bP
    go_wp2_with (go_at_call 23; refine (refJoin_any _ _ _ [tx] _ hP.out (Nat.le_refl _) (by simp; omega) (by simp)).mono ?_)
    rintro e Y6 ⟨v6, rfl, g6⟩
    rw [← hZ] at g6 H5
    have e5 : [tx].flatten = tx := by simp
    rw [e5] at g6
    have k5 := gives_sl g6
    obtain ⟨A6, c6, rfl, _, _⟩ := k5.form
    have H6 : Shh (Sl Y6 Y6.heap.size (.slice Aad ad.length cad) ad ∧ Sl Y6 Y6.heap.size (.slice Atx tx.length ctx) tx ∧ Row Y6 N 22 (Lib.byteCells key) ∧ Row Y6 (N + 1) 23 (Lib.byteCells nonce) ∧ Vars Y6 ∧ Below N w Y6 ∧ N + 2 ≤ Y6.heap.size ∧ Sl Y6 Y6.heap.size (.slice A5 ad.length c5) ad ∧ Sl Y6 Y6.heap.size (.slice A6 tx.length c6) tx) := ⟨H5.out.1.go g6.2, H5.out.2.1.go g6.2, H5.out.2.2.1.go g6.2, H5.out.2.2.2.1.go g6.2, H5.out.2.2.2.2.1.go g6.2, H5.out.2.2.2.2.2.1.trans (g6.2.mono (by have := H5.out.2.2.2.2.2.2; omega)), by have := H5.out.2.2.2.2.2.2; have := g6.2.size; omega, (H5.out.2.2.2.2.2.2.2).go g6.2, k5⟩
    clear g6 k5 H5 hP hZ e5
    go_wp2_with (first | refine wpList_load_any rfl 22 (.tmp 4) rfl N rfl 22 (Lib.byteCells key) (.array 32 5) H6.out.2.2.1 Tryd.underlying22 rfl (info_b32.trans (size_bytes _ _ hkl)) ?_ | refine wpList_load_any rfl 23 (.tmp 5) rfl (N + 1) rfl 23 (Lib.byteCells nonce) (.array 12 5) H6.out.2.2.2.1 Tryd.underlying23 rfl (info_b12.trans (size_bytes _ _ hnl)) ?_ | (go_at_call 24; refine (shut_any Y6.heap.size _ _ key nonce ad tx Y6 H6.out.2.2.2.2.2.2.2.1 H6.out.2.2.2.2.2.2.2.2 (Nat.le_refl _) H6.out.2.2.2.2.1 hkl hnl (by omega) (by omega)).mono ?_))
    rintro e Y7 ⟨v7, rfl, g7⟩
    have k7 := gives_sl g7
    have bd : Below Y6.heap.size Y6 Y7.drew := g7.2.drew
    obtain ⟨sd, hsd⟩ : ∃ sd, sd = shutB key nonce ad tx := ⟨_, rfl⟩
    rw [← hsd] at k7
    have HSD : Shh (sd = shutB key nonce ad tx) := ⟨hsd⟩
    clear hsd
    obtain ⟨A7, c7, rfl, _, _⟩ := k7.form
    have H7 : Shh (Sl Y7.drew Y7.drew.heap.size (.slice Aad ad.length cad) ad ∧ Sl Y7.drew Y7.drew.heap.size (.slice Atx tx.length ctx) tx ∧ Row Y7.drew N 22 (Lib.byteCells key) ∧ Row Y7.drew (N + 1) 23 (Lib.byteCells nonce) ∧ Vars Y7.drew ∧ Below N w Y7.drew ∧ N + 2 ≤ Y7.drew.heap.size ∧ Sl Y7.drew Y7.drew.heap.size (.slice A5 ad.length c5) ad ∧ Sl Y7.drew Y7.drew.heap.size (.slice A6 tx.length c6) tx ∧ Sl Y7.drew Y7.drew.heap.size (.slice A7 sd.length c7) sd) := ⟨H6.out.1.go bd, H6.out.2.1.go bd, H6.out.2.2.1.go bd, H6.out.2.2.2.1.go bd, H6.out.2.2.2.2.1.go bd, H6.out.2.2.2.2.2.1.trans (bd.mono (by have := H6.out.2.2.2.2.2.2; omega)), by have := H6.out.2.2.2.2.2.2; have := bd.size; omega, (H6.out.2.2.2.2.2.2.2.1).go bd, (H6.out.2.2.2.2.2.2.2.2).go bd, k7⟩
    clear g7 k7 H6 bd
    go_wp2
    refine wp_region_held_drew (S := fun _ => True) (by kernel_rfl) trivial (fun hS => ?_)
    generalize Y7.drew = V at H7 ⊢
    have HAD := H7.out.1
    have HTX := H7.out.2.1
    have HK := (H7.out.2.2.1).sl hkl (by omega)
    have HNO := (H7.out.2.2.2.1).sl hnl (by omega)
    have HA5 := (H7.out.2.2.2.2.2.2.2.1)
    have HA6 := (H7.out.2.2.2.2.2.2.2.2.1)
    have HA7 := (H7.out.2.2.2.2.2.2.2.2.2)
    refine held_value 0 _ _ (some 33) (.slice A7 sd.length c7) (by kernel_rfl) (by rfl) (by kernel_rfl) (fun w hS => by first | kernel_rfl | go_simp) (fun _ _ _ _ h => h) (trivial) ?_
    simp only [Act.put, List.setIfInBounds_toArray, List.set_cons_zero, List.set_cons_succ]
    refine held_value 1 _ _ (some 34) (.slice (some ⟨N, 0, none⟩) 32 32) (by kernel_rfl) (by rfl) (by kernel_rfl) (fun w hS => by first | kernel_rfl | go_simp) (fun _ _ _ _ h => h) (trivial) ?_
    simp only [Act.put, List.setIfInBounds_toArray, List.set_cons_zero, List.set_cons_succ]
    refine held_value 2 _ _ (some 35) (.slice (some ⟨N + 1, 0, none⟩) 12 12) (by kernel_rfl) (by rfl) (by kernel_rfl) (fun w hS => by first | kernel_rfl | go_simp) (fun _ _ _ _ h => h) (trivial) ?_
    simp only [Act.put, List.setIfInBounds_toArray, List.set_cons_zero, List.set_cons_succ]
    refine held_value 3 _ _ (some 36) (.slice Aad ad.length cad) (by kernel_rfl) (by rfl) (by kernel_rfl) (fun w hS => by first | kernel_rfl | go_simp) (fun _ _ _ _ h => h) (trivial) ?_
    simp only [Act.put, List.setIfInBounds_toArray, List.set_cons_zero, List.set_cons_succ]
    refine held_value 4 _ _ (some 37) (.slice Atx tx.length ctx) (by kernel_rfl) (by rfl) (by kernel_rfl) (fun w hS => by first | kernel_rfl | go_simp) (fun _ _ _ _ h => h) (trivial) ?_
    simp only [Act.put, List.setIfInBounds_toArray, List.set_cons_zero, List.set_cons_succ]
    refine held_one 5 (by kernel_rfl) ?_
    refine step_call 5 _ _ (some 38) 25 #[.slice (some ⟨N, 0, none⟩) 32 32, .slice (some ⟨N + 1, 0, none⟩) 12 12, .slice Aad ad.length cad, .slice Atx tx.length ctx] (by rfl) (by kernel_rfl) (by first | kernel_rfl | go_simp) ?_
    refine (refShut_any V.heap.size _ _ _ _ key nonce ad tx V HK HNO HAD HTX (Nat.le_refl _) (by omega) (by omega) (by omega) (by omega)).mono ?_
    rintro e Y1 ⟨v38, rfl, s38, g38⟩
    have bx : Below V.heap.size V Y1 := g38
    rw [← HSD.out] at s38
    have b_V := bx
    have m_Y1 : V.heap.size ≤ Y1.heap.size := bx.size
    clear bx
    refine ⟨_, rfl, trivial, ?_⟩
    simp only [Act.put, List.setIfInBounds_toArray, List.set_cons_zero, List.set_cons_succ]
    refine held_one 6 (by kernel_rfl) ?_
    refine step_call 6 _ _ (some 39) 21 #[.slice A7 sd.length c7, v38] (by rfl) (by kernel_rfl) (by first | kernel_rfl | go_simp) ?_
    refine (refEqual_yes Y1.heap.size Y1.heap.size _ _ sd Y1 (HA7.go b_V) s38).mono ?_
    rintro e Y2 ⟨rfl, hq⟩
    obtain rfl : Y1 = Y2 := hq
    refine ⟨_, rfl, trivial, ?_⟩
    simp only [Act.put, List.setIfInBounds_toArray, List.set_cons_zero, List.set_cons_succ]
    refine held_value 7 _ _ (some 40) (.bool true) (by kernel_rfl) (by rfl) (by kernel_rfl) (fun w hS => by first | kernel_rfl | go_simp) (fun _ _ _ _ h => h) (trivial) ?_
    simp only [Act.put, List.setIfInBounds_toArray, List.set_cons_zero, List.set_cons_succ]
    refine held_value 8 _ _ (some 41) (.slice A5 ad.length c5) (by kernel_rfl) (by rfl) (by kernel_rfl) (fun w hS => by first | kernel_rfl | go_simp) (fun _ _ _ _ h => h) (trivial) ?_
    simp only [Act.put, List.setIfInBounds_toArray, List.set_cons_zero, List.set_cons_succ]
    refine held_value 9 _ _ (some 42) (.slice Aad ad.length cad) (by kernel_rfl) (by rfl) (by kernel_rfl) (fun w hS => by first | kernel_rfl | go_simp) (fun _ _ _ _ h => h) (trivial) ?_
    simp only [Act.put, List.setIfInBounds_toArray, List.set_cons_zero, List.set_cons_succ]
    refine held_one 10 (by kernel_rfl) ?_
    refine step_call 10 _ _ (some 43) 21 #[.slice A5 ad.length c5, .slice Aad ad.length cad] (by rfl) (by kernel_rfl) (by first | kernel_rfl | go_simp) ?_
    refine (refEqual_yes Y1.heap.size Y1.heap.size _ _ ad Y1 (HA5.go b_V) (HAD.go b_V)).mono ?_
    rintro e Y3 ⟨rfl, hq⟩
    obtain rfl : Y1 = Y3 := hq
    refine ⟨_, rfl, trivial, ?_⟩
    simp only [Act.put, List.setIfInBounds_toArray, List.set_cons_zero, List.set_cons_succ]
    refine held_value 11 _ _ (some 44) (.bool true) (by kernel_rfl) (by rfl) (by kernel_rfl) (fun w hS => by first | kernel_rfl | go_simp) (fun _ _ _ _ h => h) (trivial) ?_
    simp only [Act.put, List.setIfInBounds_toArray, List.set_cons_zero, List.set_cons_succ]
    refine held_value 12 _ _ (some 45) (.bool true) (by kernel_rfl) (by rfl) (by kernel_rfl) (fun w hS => by first | kernel_rfl | go_simp) (fun _ _ _ _ h => h) (trivial) ?_
    simp only [Act.put, List.setIfInBounds_toArray, List.set_cons_zero, List.set_cons_succ]
    refine held_value 13 _ _ (some 46) (.slice A6 tx.length c6) (by kernel_rfl) (by rfl) (by kernel_rfl) (fun w hS => by first | kernel_rfl | go_simp) (fun _ _ _ _ h => h) (trivial) ?_
    simp only [Act.put, List.setIfInBounds_toArray, List.set_cons_zero, List.set_cons_succ]
    refine held_value 14 _ _ (some 47) (.slice Atx tx.length ctx) (by kernel_rfl) (by rfl) (by kernel_rfl) (fun w hS => by first | kernel_rfl | go_simp) (fun _ _ _ _ h => h) (trivial) ?_
    simp only [Act.put, List.setIfInBounds_toArray, List.set_cons_zero, List.set_cons_succ]
    refine held_one 15 (by kernel_rfl) ?_
    refine step_call 15 _ _ (some 48) 21 #[.slice A6 tx.length c6, .slice Atx tx.length ctx] (by rfl) (by kernel_rfl) (by first | kernel_rfl | go_simp) ?_
    refine (refEqual_yes Y1.heap.size Y1.heap.size _ _ tx Y1 (HA6.go b_V) (HTX.go b_V)).mono ?_
    rintro e Y4 ⟨rfl, hq⟩
    obtain rfl : Y1 = Y4 := hq
    refine ⟨_, rfl, trivial, ?_⟩
    simp only [Act.put, List.setIfInBounds_toArray, List.set_cons_zero, List.set_cons_succ]
    refine held_value 16 _ _ (some 49) (.bool true) (by kernel_rfl) (by rfl) (by kernel_rfl) (fun w hS => by first | kernel_rfl | go_simp) (fun _ _ _ _ h => h) (trivial) ?_
    simp only [Act.put, List.setIfInBounds_toArray, List.set_cons_zero, List.set_cons_succ]
    refine held_value 17 _ _ (some 8) (.bool true) (by kernel_rfl) (by rfl) (by kernel_rfl) (fun w hS => by first | kernel_rfl | go_simp) (fun _ _ _ _ h => h) (trivial) ?_
    simp only [Act.put, List.setIfInBounds_toArray, List.set_cons_zero, List.set_cons_succ]
    refine wpAnyH_done (by kernel_rfl) ?_ _
    have F : Shh (Below N w Y1) := ⟨(H7.out.2.2.2.2.2.1).trans (b_V.mono (by have := H7.out.2.2.2.2.2.2.1; omega))⟩
    clear m_Y1 b_V g38 s38 HA5 HA6 HA7 HAD HTX HK HNO H7 hS
    go_wp2
    go_ret
    exact ⟨rfl, F.out⟩
end Go.Proofs.YtaalmjcpaiihhaaDoor
