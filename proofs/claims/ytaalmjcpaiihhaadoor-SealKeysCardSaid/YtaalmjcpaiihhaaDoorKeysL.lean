/-
  WALK: the law SealKeys.
-/
import Derived.Test.YtaalmjcpaiihhaaDoorLive4
import Derived.Test.YtaalmjcpaiihhaaDoorFew4
import Derived.Test.YtaalmjcpaiihhaaDoorRefOpen
import Derived.Test.YtaalmjcpaiihhaaDoorSeals
namespace Go.Proofs.YtaalmjcpaiihhaaDoor
open Go.RowKit
set_option maxRecDepth 100000

set_option maxHeartbeats 4000000 in
theorem keysl_any (key nonce : List UInt8) (n : Int) (vad : Value) (ad : List UInt8) (vtx : Value) (tx : List UInt8) (w : World) (hv : Vars w) (hkl : key.length = 32) (hnl : nonce.length = 12) (had : Sl w w.heap.size vad ad) (htx : Sl w w.heap.size vtx tx) :
    Calls Tryd.prog 3 #[.agg (Lib.byteCells key).toArray, .agg (Lib.byteCells nonce).toArray, .int .i64 n, vad, vtx] w (TrueIs w) := by
  unfold TrueIs
  obtain ⟨Aad, cad, rfl, _, _⟩ := had.form
  obtain ⟨Atx, ctx, rfl, _, _⟩ := htx.form
  generalize hN : w.heap.size = N at *
  obtain ⟨W1, hW1⟩ : ∃ W1, W1 = (w.alloc (.cells (Lib.byteCells key).toArray 22)).alloc (.cells (Lib.byteCells nonce).toArray 23) := ⟨_, rfl⟩
  have hb1 : Below N w W1 := by rw [hW1]; exact ((Below.refl N w).alloc (by omega) _).alloc (by rw [asz]; omega) _
  have hzW : W1.heap.size = N + 2 := by rw [hW1, asz, asz, hN]
  have HC : Shh (Sl W1 W1.heap.size (.slice Aad ad.length cad) ad ∧ Sl W1 W1.heap.size (.slice Atx tx.length ctx) tx ∧ Row W1 N 22 (Lib.byteCells key) ∧ Row W1 (N + 1) 23 (Lib.byteCells nonce) ∧ Vars W1 ∧ Below N w W1 ∧ N + 2 ≤ W1.heap.size) :=
    ⟨(had.below hb1).more (by omega), (htx.below hb1).more (by omega), by rw [hW1]; exact (Row.new_ hN.symm rfl).alloc _, by rw [hW1]; exact Row.new_ (by rw [asz, hN]) rfl, hv.step (by rw [hN]; exact hb1), hb1, by omega⟩
  rw [hW1] at HC
  clear hv hb1 hzW hW1 had htx
  go_enter Tryd.func3, Tryd.ntmps3
  go_wp2_with (go_at_call 14; refine (live_any _ HC.out.2.2.2.2.1).mono ?_)
  rintro e Y1 ⟨rfl, b1⟩
  have H1 : Shh (Sl Y1 Y1.heap.size (.slice Aad ad.length cad) ad ∧ Sl Y1 Y1.heap.size (.slice Atx tx.length ctx) tx ∧ Row Y1 N 22 (Lib.byteCells key) ∧ Row Y1 (N + 1) 23 (Lib.byteCells nonce) ∧ Vars Y1 ∧ Below N w Y1 ∧ N + 2 ≤ Y1.heap.size) := ⟨HC.out.1.go b1, HC.out.2.1.go b1, HC.out.2.2.1.go b1, HC.out.2.2.2.1.go b1, HC.out.2.2.2.2.1.go b1, HC.out.2.2.2.2.2.1.trans (b1.mono (by have := HC.out.2.2.2.2.2.2; omega)), by have := HC.out.2.2.2.2.2.2; have := b1.size; omega⟩
  clear HC b1
  have bP : Shh (Below Y1.heap.size Y1 (Y1.alloc (.cells #[.slice Aad ad.length cad, .slice Atx tx.length ctx] 24)) ∧ Row (Y1.alloc (.cells #[.slice Aad ad.length cad, .slice Atx tx.length ctx] 24)) Y1.heap.size 24 [.slice Aad ad.length cad, .slice Atx tx.length ctx]) := ⟨Below.alloc (Below.refl _ _) (Nat.le_refl _) _, Row.new_ rfl rfl⟩
  obtain ⟨W, hW⟩ : ∃ W, W = Y1.alloc (.cells #[.slice Aad ad.length cad, .slice Atx tx.length ctx] 24) := ⟨_, rfl⟩
  rw [← hW] at bP
  have H2 : Shh (Sl W W.heap.size (.slice Aad ad.length cad) ad ∧ Sl W W.heap.size (.slice Atx tx.length ctx) tx ∧ Row W N 22 (Lib.byteCells key) ∧ Row W (N + 1) 23 (Lib.byteCells nonce) ∧ Vars W ∧ Below N w W ∧ N + 2 ≤ W.heap.size) := ⟨H1.out.1.go bP.out.1, H1.out.2.1.go bP.out.1, H1.out.2.2.1.go bP.out.1, H1.out.2.2.2.1.go bP.out.1, H1.out.2.2.2.2.1.go bP.out.1, H1.out.2.2.2.2.2.1.trans (bP.out.1.mono (by have := H1.out.2.2.2.2.2.2; omega)), by have := H1.out.2.2.2.2.2.2; have := bP.out.1.size; omega⟩
  have hP : Shh (PartsO W W.heap.size W.heap.size (.slice (some ⟨Y1.heap.size, 0, none⟩) 2 2) [ad, tx]) :=
    ⟨PartsO.two bP.out.2.lt (Nat.ne_of_lt bP.out.2.lt) bP.out.2 H2.out.1 (H2.out.1.off (Nat.le_refl _)) H2.out.2.1 (H2.out.2.1.off (Nat.le_refl _))⟩
  rw [hW] at hP H2
  clear bP H1
  go_wp2_with (go_at_call 15; refine (few4_any _ _ _ [ad, tx] _ hP.out (by simp)).mono ?_)
  rintro e Y2 ⟨rfl, rfl⟩
  rw [← hW] at hP H2 ⊢
  clear hP hW
  cases hf : few4B [ad, tx] with
  | false =>
    go_wp2_with (go_at_call 14; refine (live_any _ H2.out.2.2.2.2.1).mono ?_)
    rintro e Y3 ⟨rfl, b3⟩
    have F : Shh (Below N w Y3) := ⟨H2.out.2.2.2.2.2.1.trans (b3.mono (by have := H2.out.2.2.2.2.2.2; omega))⟩
    clear H2 b3
    go_wp2
    go_ret
    exact ⟨rfl, F.out⟩
  | true =>
    have hfy := few4_yes hf
    have hlad : ad.length ≤ 2000 := hfy _ (by simp)
    have hltx : tx.length ≤ 2000 := hfy _ (by simp)
    clear hf hfy
    by_cases hn5 : 5000 < n ∧ n ≤ 1048576
    · obtain ⟨hn6, hn7⟩ := hn5
      go_wp2_with (go_at_call 14; refine (live_any _ H2.out.2.2.2.2.1).mono ?_)
      rintro e Y3 ⟨rfl, b3⟩
      have F : Shh (Below N w Y3) := ⟨H2.out.2.2.2.2.2.1.trans (b3.mono (by have := H2.out.2.2.2.2.2.2; omega))⟩
      clear H2 b3
      go_wp2
      go_ret
      exact ⟨rfl, F.out⟩
    · have hcase : n ≤ 5000 ∨ (5000 < n ∧ 1048576 < n) := by omega
      clear hn5
      obtain ⟨eo, heo⟩ : ∃ eo, eo = strE n := ⟨_, rfl⟩
      obtain ⟨xo, hxo⟩ : ∃ xo, xo = strV ad nonce n := ⟨_, rfl⟩
      have HEO : Shh (eo = strE n ∧ xo = strV ad nonce n) := ⟨heo, hxo⟩
      clear heo hxo
      rcases hcase with hn6 | ⟨hn6, hn7⟩
      · skip
        go_wp2_with (first | refine wpList_load_any rfl 22 (.tmp 5) rfl N rfl 22 (Lib.byteCells key) (.array 32 5) H2.out.2.2.1 Tryd.underlying22 rfl (info_b32.trans (size_bytes _ _ hkl)) ?_ | (go_at_call 16; refine (keys_any key hkl _ H2.out.2.2.2.2.1).mono ?_))
        rintro e Y1 ⟨v1, v2, rfl, k1, k2, b1⟩
        obtain ⟨A1, c1, rfl, _, _⟩ := k1.form
        obtain ⟨A2, c2, rfl, _, _⟩ := k2.form
        have H3 : Shh (Sl Y1 Y1.heap.size (.slice Aad ad.length cad) ad ∧ Sl Y1 Y1.heap.size (.slice Atx tx.length ctx) tx ∧ Row Y1 N 22 (Lib.byteCells key) ∧ Row Y1 (N + 1) 23 (Lib.byteCells nonce) ∧ Vars Y1 ∧ Below N w Y1 ∧ N + 2 ≤ Y1.heap.size ∧ Sl Y1 Y1.heap.size (.slice A1 (expB key encI 32).length c1) (encK key) ∧ Sl Y1 Y1.heap.size (.slice A2 (expB key macI 32).length c2) (macK key)) := ⟨H2.out.1.go b1, H2.out.2.1.go b1, H2.out.2.2.1.go b1, H2.out.2.2.2.1.go b1, H2.out.2.2.2.2.1.go b1, H2.out.2.2.2.2.2.1.trans (b1.mono (by have := H2.out.2.2.2.2.2.2; omega)), by have := H2.out.2.2.2.2.2.2; have := b1.size; omega, k1, k2⟩
        clear k1 k2 b1
        go_wp2_with (go_at_call 17; refine (refKeys_any Y1.heap.size _ key Y1 (H3.out.2.2.1.sl hkl (by omega)) (Nat.le_refl _) (by omega)).mono ?_)
        rintro e Y2 ⟨v3, v4, rfl, k1, k2, b1⟩
        obtain ⟨A3, c3, rfl, _, _⟩ := k1.form
        obtain ⟨A4, c4, rfl, _, _⟩ := k2.form
        have H4 : Shh (Sl Y2 Y2.heap.size (.slice Aad ad.length cad) ad ∧ Sl Y2 Y2.heap.size (.slice Atx tx.length ctx) tx ∧ Row Y2 N 22 (Lib.byteCells key) ∧ Row Y2 (N + 1) 23 (Lib.byteCells nonce) ∧ Vars Y2 ∧ Below N w Y2 ∧ N + 2 ≤ Y2.heap.size ∧ Sl Y2 Y2.heap.size (.slice A1 (expB key encI 32).length c1) (encK key) ∧ Sl Y2 Y2.heap.size (.slice A2 (expB key macI 32).length c2) (macK key) ∧ Sl Y2 Y2.heap.size (.slice A3 (expB key encI 32).length c3) (encK key) ∧ Sl Y2 Y2.heap.size (.slice A4 (expB key macI 32).length c4) (macK key)) := ⟨H3.out.1.go b1, H3.out.2.1.go b1, H3.out.2.2.1.go b1, H3.out.2.2.2.1.go b1, H3.out.2.2.2.2.1.go b1, H3.out.2.2.2.2.2.1.trans (b1.mono (by have := H3.out.2.2.2.2.2.2; omega)), by have := H3.out.2.2.2.2.2.2; have := b1.size; omega, (H3.out.2.2.2.2.2.2.2.1).go b1, (H3.out.2.2.2.2.2.2.2.2).go b1, k1, k2⟩
        clear k1 k2 b1 H3
        go_wp2_with (first | refine wpList_load_any rfl 23 (.tmp 6) rfl (N + 1) rfl 23 (Lib.byteCells nonce) (.array 12 5) H4.out.2.2.2.1 Tryd.underlying23 rfl (info_b12.trans (size_bytes _ _ hnl)) ?_ | (go_at_call 18; refine (stream_any Y2.heap.size _ ad nonce n Y2 H4.out.1 (Nat.le_refl _) H4.out.2.2.2.2.1 hnl (by omega)).mono ?_))
        rintro e Y3 ⟨v5, rfl, g5⟩
        rw [← HEO.out.1]
        rw [← HEO.out.2] at g5
        have k5 := gives_sl g5
        obtain ⟨A5, c5, rfl, _, _⟩ := k5.form
        have H5 : Shh (Sl Y3 Y3.heap.size (.slice Aad ad.length cad) ad ∧ Sl Y3 Y3.heap.size (.slice Atx tx.length ctx) tx ∧ Row Y3 N 22 (Lib.byteCells key) ∧ Row Y3 (N + 1) 23 (Lib.byteCells nonce) ∧ Vars Y3 ∧ Below N w Y3 ∧ N + 2 ≤ Y3.heap.size ∧ Sl Y3 Y3.heap.size (.slice A1 (expB key encI 32).length c1) (encK key) ∧ Sl Y3 Y3.heap.size (.slice A2 (expB key macI 32).length c2) (macK key) ∧ Sl Y3 Y3.heap.size (.slice A3 (expB key encI 32).length c3) (encK key) ∧ Sl Y3 Y3.heap.size (.slice A4 (expB key macI 32).length c4) (macK key) ∧ Sl Y3 Y3.heap.size (.slice A5 xo.length c5) xo) := ⟨H4.out.1.go g5.2, H4.out.2.1.go g5.2, H4.out.2.2.1.go g5.2, H4.out.2.2.2.1.go g5.2, H4.out.2.2.2.2.1.go g5.2, H4.out.2.2.2.2.2.1.trans (g5.2.mono (by have := H4.out.2.2.2.2.2.2; omega)), by have := H4.out.2.2.2.2.2.2; have := g5.2.size; omega, (H4.out.2.2.2.2.2.2.2.1).go g5.2, (H4.out.2.2.2.2.2.2.2.2.1).go g5.2, (H4.out.2.2.2.2.2.2.2.2.2.1).go g5.2, (H4.out.2.2.2.2.2.2.2.2.2.2).go g5.2, k5⟩
        clear k5 g5 H4
        go_wp2_with (go_at_call 19; refine (refAsk_any Y3.heap.size _ _ ad nonce n Y3 H5.out.1 (H5.out.2.2.2.1.sl hnl (by omega)) (Nat.le_refl _) (by omega) (by omega)).mono ?_)
        rintro e Y4 ⟨v6, rfl, k6, b6⟩
        rw [← HEO.out.1]
        rw [← HEO.out.2] at k6
        obtain ⟨A6, c6, rfl, _, _⟩ := k6.form
        have H6 : Shh (Sl Y4 Y4.heap.size (.slice Aad ad.length cad) ad ∧ Sl Y4 Y4.heap.size (.slice Atx tx.length ctx) tx ∧ Row Y4 N 22 (Lib.byteCells key) ∧ Row Y4 (N + 1) 23 (Lib.byteCells nonce) ∧ Vars Y4 ∧ Below N w Y4 ∧ N + 2 ≤ Y4.heap.size ∧ Sl Y4 Y4.heap.size (.slice A1 (expB key encI 32).length c1) (encK key) ∧ Sl Y4 Y4.heap.size (.slice A2 (expB key macI 32).length c2) (macK key) ∧ Sl Y4 Y4.heap.size (.slice A3 (expB key encI 32).length c3) (encK key) ∧ Sl Y4 Y4.heap.size (.slice A4 (expB key macI 32).length c4) (macK key) ∧ Sl Y4 Y4.heap.size (.slice A5 xo.length c5) xo ∧ Sl Y4 Y4.heap.size (.slice A6 xo.length c6) xo) := ⟨H5.out.1.go b6, H5.out.2.1.go b6, H5.out.2.2.1.go b6, H5.out.2.2.2.1.go b6, H5.out.2.2.2.2.1.go b6, H5.out.2.2.2.2.2.1.trans (b6.mono (by have := H5.out.2.2.2.2.2.2; omega)), by have := H5.out.2.2.2.2.2.2; have := b6.size; omega, (H5.out.2.2.2.2.2.2.2.1).go b6, (H5.out.2.2.2.2.2.2.2.2.1).go b6, (H5.out.2.2.2.2.2.2.2.2.2.1).go b6, (H5.out.2.2.2.2.2.2.2.2.2.2.1).go b6, (H5.out.2.2.2.2.2.2.2.2.2.2.2).go b6, k6⟩
        clear k6 b6 H5
        go_wp2_with (first | refine wpList_load_any rfl 23 (.tmp 6) rfl (N + 1) rfl 23 (Lib.byteCells nonce) (.array 12 5) H6.out.2.2.2.1 Tryd.underlying23 rfl (info_b12.trans (size_bytes _ _ hnl)) ?_ | (go_at_call 20; refine (tag_any Y4.heap.size _ _ _ ad nonce ad tx Y4 H6.out.1 H6.out.1 H6.out.2.1 (Nat.le_refl _) H6.out.2.2.2.2.1 hnl (by omega) (by omega) (by omega)).mono ?_))
        rintro e Y5 ⟨rfl, b7⟩
        have htg := tagB_length ad nonce ad tx
        obtain ⟨tg, htg2⟩ : ∃ tg, tg = tagB ad nonce ad tx := ⟨_, rfl⟩
        rw [← htg2] at htg ⊢
        have HTG : Shh (tg = tagB ad nonce ad tx ∧ tg.length = 32) := ⟨htg2, htg⟩
        clear htg2
        have H7 : Shh (Sl Y5 Y5.heap.size (.slice Aad ad.length cad) ad ∧ Sl Y5 Y5.heap.size (.slice Atx tx.length ctx) tx ∧ Row Y5 N 22 (Lib.byteCells key) ∧ Row Y5 (N + 1) 23 (Lib.byteCells nonce) ∧ Vars Y5 ∧ Below N w Y5 ∧ N + 2 ≤ Y5.heap.size ∧ Sl Y5 Y5.heap.size (.slice A1 (expB key encI 32).length c1) (encK key) ∧ Sl Y5 Y5.heap.size (.slice A2 (expB key macI 32).length c2) (macK key) ∧ Sl Y5 Y5.heap.size (.slice A3 (expB key encI 32).length c3) (encK key) ∧ Sl Y5 Y5.heap.size (.slice A4 (expB key macI 32).length c4) (macK key) ∧ Sl Y5 Y5.heap.size (.slice A5 xo.length c5) xo ∧ Sl Y5 Y5.heap.size (.slice A6 xo.length c6) xo) := ⟨H6.out.1.go b7, H6.out.2.1.go b7, H6.out.2.2.1.go b7, H6.out.2.2.2.1.go b7, H6.out.2.2.2.2.1.go b7, H6.out.2.2.2.2.2.1.trans (b7.mono (by have := H6.out.2.2.2.2.2.2; omega)), by have := H6.out.2.2.2.2.2.2; have := b7.size; omega, (H6.out.2.2.2.2.2.2.2.1).go b7, (H6.out.2.2.2.2.2.2.2.2.1).go b7, (H6.out.2.2.2.2.2.2.2.2.2.1).go b7, (H6.out.2.2.2.2.2.2.2.2.2.2.1).go b7, (H6.out.2.2.2.2.2.2.2.2.2.2.2.1).go b7, (H6.out.2.2.2.2.2.2.2.2.2.2.2.2).go b7⟩
        clear b7 H6
        go_wp2_with (refine wpList_store_any rfl 22 (.tmp 19) (.tmp 66) rfl Y5.heap.size rfl (Lib.byteCells tg) rfl 22 (Lib.byteCells (List.replicate 32 0)) (Row.new_ rfl zero32b) (info_b32.trans (size_bytes _ _ htg)) (by rw [Lib.byteCells_length, Lib.byteCells_length, htg]; rfl) (cell_oneCell _) ?_)
        intro Y6 hr6 bt hs6
        try simp only [asz] at bt hs6
        have b8 : Below Y5.heap.size Y5 Y6 := (Below.alloc (Below.refl _ _) (Nat.le_refl _) _).trans (bt.under (Nat.le_succ _) (Nat.le_refl _))
        have bd : Below Y5.heap.size Y5 Y6.drew := b8.drew
        have H8 : Shh (Sl Y6.drew Y6.drew.heap.size (.slice Aad ad.length cad) ad ∧ Sl Y6.drew Y6.drew.heap.size (.slice Atx tx.length ctx) tx ∧ Row Y6.drew N 22 (Lib.byteCells key) ∧ Row Y6.drew (N + 1) 23 (Lib.byteCells nonce) ∧ Vars Y6.drew ∧ Below N w Y6.drew ∧ N + 2 ≤ Y6.drew.heap.size ∧ Sl Y6.drew Y6.drew.heap.size (.slice A1 (expB key encI 32).length c1) (encK key) ∧ Sl Y6.drew Y6.drew.heap.size (.slice A2 (expB key macI 32).length c2) (macK key) ∧ Sl Y6.drew Y6.drew.heap.size (.slice A3 (expB key encI 32).length c3) (encK key) ∧ Sl Y6.drew Y6.drew.heap.size (.slice A4 (expB key macI 32).length c4) (macK key) ∧ Sl Y6.drew Y6.drew.heap.size (.slice A5 xo.length c5) xo ∧ Sl Y6.drew Y6.drew.heap.size (.slice A6 xo.length c6) xo ∧ Row Y6.drew Y5.heap.size 22 (Lib.byteCells tg)) := ⟨H7.out.1.go bd, H7.out.2.1.go bd, H7.out.2.2.1.go bd, H7.out.2.2.2.1.go bd, H7.out.2.2.2.2.1.go bd, H7.out.2.2.2.2.2.1.trans (bd.mono (by have := H7.out.2.2.2.2.2.2; omega)), by have := H7.out.2.2.2.2.2.2; have := bd.size; omega, (H7.out.2.2.2.2.2.2.2.1).go bd, (H7.out.2.2.2.2.2.2.2.2.1).go bd, (H7.out.2.2.2.2.2.2.2.2.2.1).go bd, (H7.out.2.2.2.2.2.2.2.2.2.2.1).go bd, (H7.out.2.2.2.2.2.2.2.2.2.2.2.1).go bd, (H7.out.2.2.2.2.2.2.2.2.2.2.2.2).go bd, hr6⟩
        clear b8 bd H7 hr6 bt hs6 htg H2
        generalize Y5.heap.size = n19 at *
        go_wp2
        refine wp_region_held_drew (S := fun _ => True) (by kernel_rfl) trivial (fun hS => ?_)
        generalize Y6.drew = V at H8 ⊢
        obtain ⟨HAD, HTX, rK, rN, HVA, HBW, HNW, HA1, HA2, HA3, HA4, HA5, HA6, rT⟩ := H8.out
        have HNO := rN.sl hnl (by omega)
        have HTS := rT.sl HTG.out.2 (by omega)
        refine held_value 0 _ _ (some 67) (.slice A1 (expB key encI 32).length c1) (by kernel_rfl) (by rfl) (by kernel_rfl) (fun w hS => by first | kernel_rfl | go_simp) (fun _ _ _ _ h => h) (trivial) ?_
        simp only [Act.put, List.setIfInBounds_toArray, List.set_cons_zero, List.set_cons_succ]
        refine held_value 1 _ _ (some 68) (.slice A3 (expB key encI 32).length c3) (by kernel_rfl) (by rfl) (by kernel_rfl) (fun w hS => by first | kernel_rfl | go_simp) (fun _ _ _ _ h => h) (trivial) ?_
        simp only [Act.put, List.setIfInBounds_toArray, List.set_cons_zero, List.set_cons_succ]
        refine held_one 2 (by kernel_rfl) ?_
        refine step_call 2 _ _ (some 69) 21 #[.slice A1 (expB key encI 32).length c1, .slice A3 (expB key encI 32).length c3] (by rfl) (by kernel_rfl) (by first | kernel_rfl | go_simp) ?_
        refine (refEqual_yes V.heap.size V.heap.size _ _ (encK key) V HA1 HA3).mono ?_
        rintro e Y1 ⟨rfl, hq⟩
        obtain rfl : V = Y1 := hq
        refine ⟨_, rfl, trivial, ?_⟩
        simp only [Act.put, List.setIfInBounds_toArray, List.set_cons_zero, List.set_cons_succ]
        refine held_value 3 _ _ (some 70) (.bool true) (by kernel_rfl) (by rfl) (by kernel_rfl) (fun w hS => by first | kernel_rfl | go_simp) (fun _ _ _ _ h => h) (trivial) ?_
        simp only [Act.put, List.setIfInBounds_toArray, List.set_cons_zero, List.set_cons_succ]
        refine held_value 4 _ _ (some 71) (.slice A2 (expB key macI 32).length c2) (by kernel_rfl) (by rfl) (by kernel_rfl) (fun w hS => by first | kernel_rfl | go_simp) (fun _ _ _ _ h => h) (trivial) ?_
        simp only [Act.put, List.setIfInBounds_toArray, List.set_cons_zero, List.set_cons_succ]
        refine held_value 5 _ _ (some 72) (.slice A4 (expB key macI 32).length c4) (by kernel_rfl) (by rfl) (by kernel_rfl) (fun w hS => by first | kernel_rfl | go_simp) (fun _ _ _ _ h => h) (trivial) ?_
        simp only [Act.put, List.setIfInBounds_toArray, List.set_cons_zero, List.set_cons_succ]
        refine held_one 6 (by kernel_rfl) ?_
        refine step_call 6 _ _ (some 73) 21 #[.slice A2 (expB key macI 32).length c2, .slice A4 (expB key macI 32).length c4] (by rfl) (by kernel_rfl) (by first | kernel_rfl | go_simp) ?_
        refine (refEqual_yes V.heap.size V.heap.size _ _ (macK key) V HA2 HA4).mono ?_
        rintro e Y2 ⟨rfl, hq⟩
        obtain rfl : V = Y2 := hq
        refine ⟨_, rfl, trivial, ?_⟩
        simp only [Act.put, List.setIfInBounds_toArray, List.set_cons_zero, List.set_cons_succ]
        refine held_value 7 _ _ (some 74) (.bool true) (by kernel_rfl) (by rfl) (by kernel_rfl) (fun w hS => by first | kernel_rfl | go_simp) (fun _ _ _ _ h => h) (trivial) ?_
        simp only [Act.put, List.setIfInBounds_toArray, List.set_cons_zero, List.set_cons_succ]
        refine held_value 8 _ _ (some 75) (.bool true) (by kernel_rfl) (by rfl) (by kernel_rfl) (fun w hS => by first | kernel_rfl | go_simp) (fun _ _ _ _ h => h) (trivial) ?_
        simp only [Act.put, List.setIfInBounds_toArray, List.set_cons_zero, List.set_cons_succ]
        refine held_value 9 _ _ (some 76) (.slice A5 xo.length c5) (by kernel_rfl) (by rfl) (by kernel_rfl) (fun w hS => by first | kernel_rfl | go_simp) (fun _ _ _ _ h => h) (trivial) ?_
        simp only [Act.put, List.setIfInBounds_toArray, List.set_cons_zero, List.set_cons_succ]
        refine held_value 10 _ _ (some 77) (.slice A6 xo.length c6) (by kernel_rfl) (by rfl) (by kernel_rfl) (fun w hS => by first | kernel_rfl | go_simp) (fun _ _ _ _ h => h) (trivial) ?_
        simp only [Act.put, List.setIfInBounds_toArray, List.set_cons_zero, List.set_cons_succ]
        refine held_one 11 (by kernel_rfl) ?_
        refine step_call 11 _ _ (some 78) 21 #[.slice A5 xo.length c5, .slice A6 xo.length c6] (by rfl) (by kernel_rfl) (by first | kernel_rfl | go_simp) ?_
        refine (refEqual_yes V.heap.size V.heap.size _ _ xo V HA5 HA6).mono ?_
        rintro e Y3 ⟨rfl, hq⟩
        obtain rfl : V = Y3 := hq
        refine ⟨_, rfl, trivial, ?_⟩
        simp only [Act.put, List.setIfInBounds_toArray, List.set_cons_zero, List.set_cons_succ]
        refine held_value 12 _ _ (some 79) (.bool true) (by kernel_rfl) (by rfl) (by kernel_rfl) (fun w hS => by first | kernel_rfl | go_simp) (fun _ _ _ _ h => h) (trivial) ?_
        simp only [Act.put, List.setIfInBounds_toArray, List.set_cons_zero, List.set_cons_succ]
        refine held_value 13 _ _ (some 80) (.bool true) (by kernel_rfl) (by rfl) (by kernel_rfl) (fun w hS => by first | kernel_rfl | go_simp) (fun _ _ _ _ h => h) (trivial) ?_
        simp only [Act.put, List.setIfInBounds_toArray, List.set_cons_zero, List.set_cons_succ]
        refine held_value 14 _ _ (some 81) (.int .i64 eo) (by kernel_rfl) (by rfl) (by kernel_rfl) (fun w hS => by first | kernel_rfl | go_simp) (fun _ _ _ _ h => h) (trivial) ?_
        simp only [Act.put, List.setIfInBounds_toArray, List.set_cons_zero, List.set_cons_succ]
        refine held_value 15 _ _ (some 82) (.int .i64 eo) (by kernel_rfl) (by rfl) (by kernel_rfl) (fun w hS => by first | kernel_rfl | go_simp) (fun _ _ _ _ h => h) (trivial) ?_
        simp only [Act.put, List.setIfInBounds_toArray, List.set_cons_zero, List.set_cons_succ]
        refine held_value 16 _ _ (some 83) (.bool true) (by kernel_rfl) (by rfl) (by kernel_rfl) (fun w hS => by go_simp) (fun _ _ _ _ h => h) (trivial) ?_
        simp only [Act.put, List.setIfInBounds_toArray, List.set_cons_zero, List.set_cons_succ]
        refine held_value 17 _ _ (some 84) (.bool true) (by kernel_rfl) (by rfl) (by kernel_rfl) (fun w hS => by first | kernel_rfl | go_simp) (fun _ _ _ _ h => h) (trivial) ?_
        simp only [Act.put, List.setIfInBounds_toArray, List.set_cons_zero, List.set_cons_succ]
        refine held_value 18 _ _ (some 85) (.bool true) (by kernel_rfl) (by rfl) (by kernel_rfl) (fun w hS => by first | kernel_rfl | go_simp) (fun _ _ _ _ h => h) (trivial) ?_
        simp only [Act.put, List.setIfInBounds_toArray, List.set_cons_zero, List.set_cons_succ]
        refine held_value 19 _ _ (some 86) (.slice (some ⟨n19, 0, none⟩) 32 32) (by kernel_rfl) (by rfl) (by kernel_rfl) (fun w hS => by first | kernel_rfl | go_simp) (fun _ _ _ _ h => h) (trivial) ?_
        simp only [Act.put, List.setIfInBounds_toArray, List.set_cons_zero, List.set_cons_succ]
        refine held_value 20 _ _ (some 87) (.slice Aad ad.length cad) (by kernel_rfl) (by rfl) (by kernel_rfl) (fun w hS => by first | kernel_rfl | go_simp) (fun _ _ _ _ h => h) (trivial) ?_
        simp only [Act.put, List.setIfInBounds_toArray, List.set_cons_zero, List.set_cons_succ]
        refine held_value 21 _ _ (some 88) (.slice (some ⟨N + 1, 0, none⟩) 12 12) (by kernel_rfl) (by rfl) (by kernel_rfl) (fun w hS => by first | kernel_rfl | go_simp) (fun _ _ _ _ h => h) (trivial) ?_
        simp only [Act.put, List.setIfInBounds_toArray, List.set_cons_zero, List.set_cons_succ]
        refine held_value 22 _ _ (some 89) (.slice Aad ad.length cad) (by kernel_rfl) (by rfl) (by kernel_rfl) (fun w hS => by first | kernel_rfl | go_simp) (fun _ _ _ _ h => h) (trivial) ?_
        simp only [Act.put, List.setIfInBounds_toArray, List.set_cons_zero, List.set_cons_succ]
        refine held_value 23 _ _ (some 90) (.slice Atx tx.length ctx) (by kernel_rfl) (by rfl) (by kernel_rfl) (fun w hS => by first | kernel_rfl | go_simp) (fun _ _ _ _ h => h) (trivial) ?_
        simp only [Act.put, List.setIfInBounds_toArray, List.set_cons_zero, List.set_cons_succ]
        refine held_one 24 (by kernel_rfl) ?_
        refine step_call 24 _ _ (some 91) 22 #[.slice Aad ad.length cad, .slice (some ⟨N + 1, 0, none⟩) 12 12, .slice Aad ad.length cad, .slice Atx tx.length ctx] (by rfl) (by kernel_rfl) (by first | kernel_rfl | go_simp) ?_
        refine (refTag_any V.heap.size _ _ _ _ ad nonce ad tx V HAD HNO HAD HTX (Nat.le_refl _) (by omega) (by omega) (by omega) (by omega)).mono ?_
        rintro e Y4 ⟨v91, rfl, s91, g91⟩
        have bx : Below V.heap.size V Y4 := g91
        rw [← HTG.out.1] at s91
        have b_V := bx
        have m_Y4 : V.heap.size ≤ Y4.heap.size := bx.size
        clear bx
        refine ⟨_, rfl, trivial, ?_⟩
        simp only [Act.put, List.setIfInBounds_toArray, List.set_cons_zero, List.set_cons_succ]
        refine held_one 25 (by kernel_rfl) ?_
        refine step_call 25 _ _ (some 92) 21 #[.slice (some ⟨n19, 0, none⟩) 32 32, v91] (by rfl) (by kernel_rfl) (by first | kernel_rfl | go_simp) ?_
        refine (refEqual_yes Y4.heap.size Y4.heap.size _ _ tg Y4 (HTS.go b_V) s91).mono ?_
        rintro e Y5 ⟨rfl, hq⟩
        obtain rfl : Y4 = Y5 := hq
        refine ⟨_, rfl, trivial, ?_⟩
        simp only [Act.put, List.setIfInBounds_toArray, List.set_cons_zero, List.set_cons_succ]
        refine held_value 26 _ _ (some 93) (.bool true) (by kernel_rfl) (by rfl) (by kernel_rfl) (fun w hS => by first | kernel_rfl | go_simp) (fun _ _ _ _ h => h) (trivial) ?_
        simp only [Act.put, List.setIfInBounds_toArray, List.set_cons_zero, List.set_cons_succ]
        refine held_value 27 _ _ (some 10) (.bool true) (by kernel_rfl) (by rfl) (by kernel_rfl) (fun w hS => by first | kernel_rfl | go_simp) (fun _ _ _ _ h => h) (trivial) ?_
        simp only [Act.put, List.setIfInBounds_toArray, List.set_cons_zero, List.set_cons_succ]
        refine wpAnyH_done (by kernel_rfl) ?_ _
        have F : Shh (Below N w Y4) := ⟨HBW.trans (b_V.mono (by omega))⟩
        clear m_Y4 b_V g91 s91 HAD HTX rK rN HVA HBW HNW HA1 HA2 HA3 HA4 HA5 HA6 rT HNO HTS H8 hS
        go_wp2
        go_ret
        exact ⟨rfl, F.out⟩
      · skip
        go_wp2_with (first | refine wpList_load_any rfl 22 (.tmp 5) rfl N rfl 22 (Lib.byteCells key) (.array 32 5) H2.out.2.2.1 Tryd.underlying22 rfl (info_b32.trans (size_bytes _ _ hkl)) ?_ | (go_at_call 16; refine (keys_any key hkl _ H2.out.2.2.2.2.1).mono ?_))
        rintro e Y1 ⟨v1, v2, rfl, k1, k2, b1⟩
        obtain ⟨A1, c1, rfl, _, _⟩ := k1.form
        obtain ⟨A2, c2, rfl, _, _⟩ := k2.form
        have H3 : Shh (Sl Y1 Y1.heap.size (.slice Aad ad.length cad) ad ∧ Sl Y1 Y1.heap.size (.slice Atx tx.length ctx) tx ∧ Row Y1 N 22 (Lib.byteCells key) ∧ Row Y1 (N + 1) 23 (Lib.byteCells nonce) ∧ Vars Y1 ∧ Below N w Y1 ∧ N + 2 ≤ Y1.heap.size ∧ Sl Y1 Y1.heap.size (.slice A1 (expB key encI 32).length c1) (encK key) ∧ Sl Y1 Y1.heap.size (.slice A2 (expB key macI 32).length c2) (macK key)) := ⟨H2.out.1.go b1, H2.out.2.1.go b1, H2.out.2.2.1.go b1, H2.out.2.2.2.1.go b1, H2.out.2.2.2.2.1.go b1, H2.out.2.2.2.2.2.1.trans (b1.mono (by have := H2.out.2.2.2.2.2.2; omega)), by have := H2.out.2.2.2.2.2.2; have := b1.size; omega, k1, k2⟩
        clear k1 k2 b1
        go_wp2_with (go_at_call 17; refine (refKeys_any Y1.heap.size _ key Y1 (H3.out.2.2.1.sl hkl (by omega)) (Nat.le_refl _) (by omega)).mono ?_)
        rintro e Y2 ⟨v3, v4, rfl, k1, k2, b1⟩
        obtain ⟨A3, c3, rfl, _, _⟩ := k1.form
        obtain ⟨A4, c4, rfl, _, _⟩ := k2.form
        have H4 : Shh (Sl Y2 Y2.heap.size (.slice Aad ad.length cad) ad ∧ Sl Y2 Y2.heap.size (.slice Atx tx.length ctx) tx ∧ Row Y2 N 22 (Lib.byteCells key) ∧ Row Y2 (N + 1) 23 (Lib.byteCells nonce) ∧ Vars Y2 ∧ Below N w Y2 ∧ N + 2 ≤ Y2.heap.size ∧ Sl Y2 Y2.heap.size (.slice A1 (expB key encI 32).length c1) (encK key) ∧ Sl Y2 Y2.heap.size (.slice A2 (expB key macI 32).length c2) (macK key) ∧ Sl Y2 Y2.heap.size (.slice A3 (expB key encI 32).length c3) (encK key) ∧ Sl Y2 Y2.heap.size (.slice A4 (expB key macI 32).length c4) (macK key)) := ⟨H3.out.1.go b1, H3.out.2.1.go b1, H3.out.2.2.1.go b1, H3.out.2.2.2.1.go b1, H3.out.2.2.2.2.1.go b1, H3.out.2.2.2.2.2.1.trans (b1.mono (by have := H3.out.2.2.2.2.2.2; omega)), by have := H3.out.2.2.2.2.2.2; have := b1.size; omega, (H3.out.2.2.2.2.2.2.2.1).go b1, (H3.out.2.2.2.2.2.2.2.2).go b1, k1, k2⟩
        clear k1 k2 b1 H3
        go_wp2_with (first | refine wpList_load_any rfl 23 (.tmp 6) rfl (N + 1) rfl 23 (Lib.byteCells nonce) (.array 12 5) H4.out.2.2.2.1 Tryd.underlying23 rfl (info_b12.trans (size_bytes _ _ hnl)) ?_ | (go_at_call 18; refine (stream_any Y2.heap.size _ ad nonce n Y2 H4.out.1 (Nat.le_refl _) H4.out.2.2.2.2.1 hnl (by omega)).mono ?_))
        rintro e Y3 ⟨v5, rfl, g5⟩
        rw [← HEO.out.1]
        rw [← HEO.out.2] at g5
        have k5 := gives_sl g5
        obtain ⟨A5, c5, rfl, _, _⟩ := k5.form
        have H5 : Shh (Sl Y3 Y3.heap.size (.slice Aad ad.length cad) ad ∧ Sl Y3 Y3.heap.size (.slice Atx tx.length ctx) tx ∧ Row Y3 N 22 (Lib.byteCells key) ∧ Row Y3 (N + 1) 23 (Lib.byteCells nonce) ∧ Vars Y3 ∧ Below N w Y3 ∧ N + 2 ≤ Y3.heap.size ∧ Sl Y3 Y3.heap.size (.slice A1 (expB key encI 32).length c1) (encK key) ∧ Sl Y3 Y3.heap.size (.slice A2 (expB key macI 32).length c2) (macK key) ∧ Sl Y3 Y3.heap.size (.slice A3 (expB key encI 32).length c3) (encK key) ∧ Sl Y3 Y3.heap.size (.slice A4 (expB key macI 32).length c4) (macK key) ∧ Sl Y3 Y3.heap.size (.slice A5 xo.length c5) xo) := ⟨H4.out.1.go g5.2, H4.out.2.1.go g5.2, H4.out.2.2.1.go g5.2, H4.out.2.2.2.1.go g5.2, H4.out.2.2.2.2.1.go g5.2, H4.out.2.2.2.2.2.1.trans (g5.2.mono (by have := H4.out.2.2.2.2.2.2; omega)), by have := H4.out.2.2.2.2.2.2; have := g5.2.size; omega, (H4.out.2.2.2.2.2.2.2.1).go g5.2, (H4.out.2.2.2.2.2.2.2.2.1).go g5.2, (H4.out.2.2.2.2.2.2.2.2.2.1).go g5.2, (H4.out.2.2.2.2.2.2.2.2.2.2).go g5.2, k5⟩
        clear k5 g5 H4
        go_wp2_with (go_at_call 19; refine (refAsk_any Y3.heap.size _ _ ad nonce n Y3 H5.out.1 (H5.out.2.2.2.1.sl hnl (by omega)) (Nat.le_refl _) (by omega) (by omega)).mono ?_)
        rintro e Y4 ⟨v6, rfl, k6, b6⟩
        rw [← HEO.out.1]
        rw [← HEO.out.2] at k6
        obtain ⟨A6, c6, rfl, _, _⟩ := k6.form
        have H6 : Shh (Sl Y4 Y4.heap.size (.slice Aad ad.length cad) ad ∧ Sl Y4 Y4.heap.size (.slice Atx tx.length ctx) tx ∧ Row Y4 N 22 (Lib.byteCells key) ∧ Row Y4 (N + 1) 23 (Lib.byteCells nonce) ∧ Vars Y4 ∧ Below N w Y4 ∧ N + 2 ≤ Y4.heap.size ∧ Sl Y4 Y4.heap.size (.slice A1 (expB key encI 32).length c1) (encK key) ∧ Sl Y4 Y4.heap.size (.slice A2 (expB key macI 32).length c2) (macK key) ∧ Sl Y4 Y4.heap.size (.slice A3 (expB key encI 32).length c3) (encK key) ∧ Sl Y4 Y4.heap.size (.slice A4 (expB key macI 32).length c4) (macK key) ∧ Sl Y4 Y4.heap.size (.slice A5 xo.length c5) xo ∧ Sl Y4 Y4.heap.size (.slice A6 xo.length c6) xo) := ⟨H5.out.1.go b6, H5.out.2.1.go b6, H5.out.2.2.1.go b6, H5.out.2.2.2.1.go b6, H5.out.2.2.2.2.1.go b6, H5.out.2.2.2.2.2.1.trans (b6.mono (by have := H5.out.2.2.2.2.2.2; omega)), by have := H5.out.2.2.2.2.2.2; have := b6.size; omega, (H5.out.2.2.2.2.2.2.2.1).go b6, (H5.out.2.2.2.2.2.2.2.2.1).go b6, (H5.out.2.2.2.2.2.2.2.2.2.1).go b6, (H5.out.2.2.2.2.2.2.2.2.2.2.1).go b6, (H5.out.2.2.2.2.2.2.2.2.2.2.2).go b6, k6⟩
        clear k6 b6 H5
        go_wp2_with (first | refine wpList_load_any rfl 23 (.tmp 6) rfl (N + 1) rfl 23 (Lib.byteCells nonce) (.array 12 5) H6.out.2.2.2.1 Tryd.underlying23 rfl (info_b12.trans (size_bytes _ _ hnl)) ?_ | (go_at_call 20; refine (tag_any Y4.heap.size _ _ _ ad nonce ad tx Y4 H6.out.1 H6.out.1 H6.out.2.1 (Nat.le_refl _) H6.out.2.2.2.2.1 hnl (by omega) (by omega) (by omega)).mono ?_))
        rintro e Y5 ⟨rfl, b7⟩
        have htg := tagB_length ad nonce ad tx
        obtain ⟨tg, htg2⟩ : ∃ tg, tg = tagB ad nonce ad tx := ⟨_, rfl⟩
        rw [← htg2] at htg ⊢
        have HTG : Shh (tg = tagB ad nonce ad tx ∧ tg.length = 32) := ⟨htg2, htg⟩
        clear htg2
        have H7 : Shh (Sl Y5 Y5.heap.size (.slice Aad ad.length cad) ad ∧ Sl Y5 Y5.heap.size (.slice Atx tx.length ctx) tx ∧ Row Y5 N 22 (Lib.byteCells key) ∧ Row Y5 (N + 1) 23 (Lib.byteCells nonce) ∧ Vars Y5 ∧ Below N w Y5 ∧ N + 2 ≤ Y5.heap.size ∧ Sl Y5 Y5.heap.size (.slice A1 (expB key encI 32).length c1) (encK key) ∧ Sl Y5 Y5.heap.size (.slice A2 (expB key macI 32).length c2) (macK key) ∧ Sl Y5 Y5.heap.size (.slice A3 (expB key encI 32).length c3) (encK key) ∧ Sl Y5 Y5.heap.size (.slice A4 (expB key macI 32).length c4) (macK key) ∧ Sl Y5 Y5.heap.size (.slice A5 xo.length c5) xo ∧ Sl Y5 Y5.heap.size (.slice A6 xo.length c6) xo) := ⟨H6.out.1.go b7, H6.out.2.1.go b7, H6.out.2.2.1.go b7, H6.out.2.2.2.1.go b7, H6.out.2.2.2.2.1.go b7, H6.out.2.2.2.2.2.1.trans (b7.mono (by have := H6.out.2.2.2.2.2.2; omega)), by have := H6.out.2.2.2.2.2.2; have := b7.size; omega, (H6.out.2.2.2.2.2.2.2.1).go b7, (H6.out.2.2.2.2.2.2.2.2.1).go b7, (H6.out.2.2.2.2.2.2.2.2.2.1).go b7, (H6.out.2.2.2.2.2.2.2.2.2.2.1).go b7, (H6.out.2.2.2.2.2.2.2.2.2.2.2.1).go b7, (H6.out.2.2.2.2.2.2.2.2.2.2.2.2).go b7⟩
        clear b7 H6
        go_wp2_with (refine wpList_store_any rfl 22 (.tmp 19) (.tmp 66) rfl Y5.heap.size rfl (Lib.byteCells tg) rfl 22 (Lib.byteCells (List.replicate 32 0)) (Row.new_ rfl zero32b) (info_b32.trans (size_bytes _ _ htg)) (by rw [Lib.byteCells_length, Lib.byteCells_length, htg]; rfl) (cell_oneCell _) ?_)
        intro Y6 hr6 bt hs6
        try simp only [asz] at bt hs6
        have b8 : Below Y5.heap.size Y5 Y6 := (Below.alloc (Below.refl _ _) (Nat.le_refl _) _).trans (bt.under (Nat.le_succ _) (Nat.le_refl _))
        have bd : Below Y5.heap.size Y5 Y6.drew := b8.drew
        have H8 : Shh (Sl Y6.drew Y6.drew.heap.size (.slice Aad ad.length cad) ad ∧ Sl Y6.drew Y6.drew.heap.size (.slice Atx tx.length ctx) tx ∧ Row Y6.drew N 22 (Lib.byteCells key) ∧ Row Y6.drew (N + 1) 23 (Lib.byteCells nonce) ∧ Vars Y6.drew ∧ Below N w Y6.drew ∧ N + 2 ≤ Y6.drew.heap.size ∧ Sl Y6.drew Y6.drew.heap.size (.slice A1 (expB key encI 32).length c1) (encK key) ∧ Sl Y6.drew Y6.drew.heap.size (.slice A2 (expB key macI 32).length c2) (macK key) ∧ Sl Y6.drew Y6.drew.heap.size (.slice A3 (expB key encI 32).length c3) (encK key) ∧ Sl Y6.drew Y6.drew.heap.size (.slice A4 (expB key macI 32).length c4) (macK key) ∧ Sl Y6.drew Y6.drew.heap.size (.slice A5 xo.length c5) xo ∧ Sl Y6.drew Y6.drew.heap.size (.slice A6 xo.length c6) xo ∧ Row Y6.drew Y5.heap.size 22 (Lib.byteCells tg)) := ⟨H7.out.1.go bd, H7.out.2.1.go bd, H7.out.2.2.1.go bd, H7.out.2.2.2.1.go bd, H7.out.2.2.2.2.1.go bd, H7.out.2.2.2.2.2.1.trans (bd.mono (by have := H7.out.2.2.2.2.2.2; omega)), by have := H7.out.2.2.2.2.2.2; have := bd.size; omega, (H7.out.2.2.2.2.2.2.2.1).go bd, (H7.out.2.2.2.2.2.2.2.2.1).go bd, (H7.out.2.2.2.2.2.2.2.2.2.1).go bd, (H7.out.2.2.2.2.2.2.2.2.2.2.1).go bd, (H7.out.2.2.2.2.2.2.2.2.2.2.2.1).go bd, (H7.out.2.2.2.2.2.2.2.2.2.2.2.2).go bd, hr6⟩
        clear b8 bd H7 hr6 bt hs6 htg H2
        generalize Y5.heap.size = n19 at *
        go_wp2
        refine wp_region_held_drew (S := fun _ => True) (by kernel_rfl) trivial (fun hS => ?_)
        generalize Y6.drew = V at H8 ⊢
        obtain ⟨HAD, HTX, rK, rN, HVA, HBW, HNW, HA1, HA2, HA3, HA4, HA5, HA6, rT⟩ := H8.out
        have HNO := rN.sl hnl (by omega)
        have HTS := rT.sl HTG.out.2 (by omega)
        refine held_value 0 _ _ (some 67) (.slice A1 (expB key encI 32).length c1) (by kernel_rfl) (by rfl) (by kernel_rfl) (fun w hS => by first | kernel_rfl | go_simp) (fun _ _ _ _ h => h) (trivial) ?_
        simp only [Act.put, List.setIfInBounds_toArray, List.set_cons_zero, List.set_cons_succ]
        refine held_value 1 _ _ (some 68) (.slice A3 (expB key encI 32).length c3) (by kernel_rfl) (by rfl) (by kernel_rfl) (fun w hS => by first | kernel_rfl | go_simp) (fun _ _ _ _ h => h) (trivial) ?_
        simp only [Act.put, List.setIfInBounds_toArray, List.set_cons_zero, List.set_cons_succ]
        refine held_one 2 (by kernel_rfl) ?_
        refine step_call 2 _ _ (some 69) 21 #[.slice A1 (expB key encI 32).length c1, .slice A3 (expB key encI 32).length c3] (by rfl) (by kernel_rfl) (by first | kernel_rfl | go_simp) ?_
        refine (refEqual_yes V.heap.size V.heap.size _ _ (encK key) V HA1 HA3).mono ?_
        rintro e Y1 ⟨rfl, hq⟩
        obtain rfl : V = Y1 := hq
        refine ⟨_, rfl, trivial, ?_⟩
        simp only [Act.put, List.setIfInBounds_toArray, List.set_cons_zero, List.set_cons_succ]
        refine held_value 3 _ _ (some 70) (.bool true) (by kernel_rfl) (by rfl) (by kernel_rfl) (fun w hS => by first | kernel_rfl | go_simp) (fun _ _ _ _ h => h) (trivial) ?_
        simp only [Act.put, List.setIfInBounds_toArray, List.set_cons_zero, List.set_cons_succ]
        refine held_value 4 _ _ (some 71) (.slice A2 (expB key macI 32).length c2) (by kernel_rfl) (by rfl) (by kernel_rfl) (fun w hS => by first | kernel_rfl | go_simp) (fun _ _ _ _ h => h) (trivial) ?_
        simp only [Act.put, List.setIfInBounds_toArray, List.set_cons_zero, List.set_cons_succ]
        refine held_value 5 _ _ (some 72) (.slice A4 (expB key macI 32).length c4) (by kernel_rfl) (by rfl) (by kernel_rfl) (fun w hS => by first | kernel_rfl | go_simp) (fun _ _ _ _ h => h) (trivial) ?_
        simp only [Act.put, List.setIfInBounds_toArray, List.set_cons_zero, List.set_cons_succ]
        refine held_one 6 (by kernel_rfl) ?_
        refine step_call 6 _ _ (some 73) 21 #[.slice A2 (expB key macI 32).length c2, .slice A4 (expB key macI 32).length c4] (by rfl) (by kernel_rfl) (by first | kernel_rfl | go_simp) ?_
        refine (refEqual_yes V.heap.size V.heap.size _ _ (macK key) V HA2 HA4).mono ?_
        rintro e Y2 ⟨rfl, hq⟩
        obtain rfl : V = Y2 := hq
        refine ⟨_, rfl, trivial, ?_⟩
        simp only [Act.put, List.setIfInBounds_toArray, List.set_cons_zero, List.set_cons_succ]
        refine held_value 7 _ _ (some 74) (.bool true) (by kernel_rfl) (by rfl) (by kernel_rfl) (fun w hS => by first | kernel_rfl | go_simp) (fun _ _ _ _ h => h) (trivial) ?_
        simp only [Act.put, List.setIfInBounds_toArray, List.set_cons_zero, List.set_cons_succ]
        refine held_value 8 _ _ (some 75) (.bool true) (by kernel_rfl) (by rfl) (by kernel_rfl) (fun w hS => by first | kernel_rfl | go_simp) (fun _ _ _ _ h => h) (trivial) ?_
        simp only [Act.put, List.setIfInBounds_toArray, List.set_cons_zero, List.set_cons_succ]
        refine held_value 9 _ _ (some 76) (.slice A5 xo.length c5) (by kernel_rfl) (by rfl) (by kernel_rfl) (fun w hS => by first | kernel_rfl | go_simp) (fun _ _ _ _ h => h) (trivial) ?_
        simp only [Act.put, List.setIfInBounds_toArray, List.set_cons_zero, List.set_cons_succ]
        refine held_value 10 _ _ (some 77) (.slice A6 xo.length c6) (by kernel_rfl) (by rfl) (by kernel_rfl) (fun w hS => by first | kernel_rfl | go_simp) (fun _ _ _ _ h => h) (trivial) ?_
        simp only [Act.put, List.setIfInBounds_toArray, List.set_cons_zero, List.set_cons_succ]
        refine held_one 11 (by kernel_rfl) ?_
        refine step_call 11 _ _ (some 78) 21 #[.slice A5 xo.length c5, .slice A6 xo.length c6] (by rfl) (by kernel_rfl) (by first | kernel_rfl | go_simp) ?_
        refine (refEqual_yes V.heap.size V.heap.size _ _ xo V HA5 HA6).mono ?_
        rintro e Y3 ⟨rfl, hq⟩
        obtain rfl : V = Y3 := hq
        refine ⟨_, rfl, trivial, ?_⟩
        simp only [Act.put, List.setIfInBounds_toArray, List.set_cons_zero, List.set_cons_succ]
        refine held_value 12 _ _ (some 79) (.bool true) (by kernel_rfl) (by rfl) (by kernel_rfl) (fun w hS => by first | kernel_rfl | go_simp) (fun _ _ _ _ h => h) (trivial) ?_
        simp only [Act.put, List.setIfInBounds_toArray, List.set_cons_zero, List.set_cons_succ]
        refine held_value 13 _ _ (some 80) (.bool true) (by kernel_rfl) (by rfl) (by kernel_rfl) (fun w hS => by first | kernel_rfl | go_simp) (fun _ _ _ _ h => h) (trivial) ?_
        simp only [Act.put, List.setIfInBounds_toArray, List.set_cons_zero, List.set_cons_succ]
        refine held_value 14 _ _ (some 81) (.int .i64 eo) (by kernel_rfl) (by rfl) (by kernel_rfl) (fun w hS => by first | kernel_rfl | go_simp) (fun _ _ _ _ h => h) (trivial) ?_
        simp only [Act.put, List.setIfInBounds_toArray, List.set_cons_zero, List.set_cons_succ]
        refine held_value 15 _ _ (some 82) (.int .i64 eo) (by kernel_rfl) (by rfl) (by kernel_rfl) (fun w hS => by first | kernel_rfl | go_simp) (fun _ _ _ _ h => h) (trivial) ?_
        simp only [Act.put, List.setIfInBounds_toArray, List.set_cons_zero, List.set_cons_succ]
        refine held_value 16 _ _ (some 83) (.bool true) (by kernel_rfl) (by rfl) (by kernel_rfl) (fun w hS => by go_simp) (fun _ _ _ _ h => h) (trivial) ?_
        simp only [Act.put, List.setIfInBounds_toArray, List.set_cons_zero, List.set_cons_succ]
        refine held_value 17 _ _ (some 84) (.bool true) (by kernel_rfl) (by rfl) (by kernel_rfl) (fun w hS => by first | kernel_rfl | go_simp) (fun _ _ _ _ h => h) (trivial) ?_
        simp only [Act.put, List.setIfInBounds_toArray, List.set_cons_zero, List.set_cons_succ]
        refine held_value 18 _ _ (some 85) (.bool true) (by kernel_rfl) (by rfl) (by kernel_rfl) (fun w hS => by first | kernel_rfl | go_simp) (fun _ _ _ _ h => h) (trivial) ?_
        simp only [Act.put, List.setIfInBounds_toArray, List.set_cons_zero, List.set_cons_succ]
        refine held_value 19 _ _ (some 86) (.slice (some ⟨n19, 0, none⟩) 32 32) (by kernel_rfl) (by rfl) (by kernel_rfl) (fun w hS => by first | kernel_rfl | go_simp) (fun _ _ _ _ h => h) (trivial) ?_
        simp only [Act.put, List.setIfInBounds_toArray, List.set_cons_zero, List.set_cons_succ]
        refine held_value 20 _ _ (some 87) (.slice Aad ad.length cad) (by kernel_rfl) (by rfl) (by kernel_rfl) (fun w hS => by first | kernel_rfl | go_simp) (fun _ _ _ _ h => h) (trivial) ?_
        simp only [Act.put, List.setIfInBounds_toArray, List.set_cons_zero, List.set_cons_succ]
        refine held_value 21 _ _ (some 88) (.slice (some ⟨N + 1, 0, none⟩) 12 12) (by kernel_rfl) (by rfl) (by kernel_rfl) (fun w hS => by first | kernel_rfl | go_simp) (fun _ _ _ _ h => h) (trivial) ?_
        simp only [Act.put, List.setIfInBounds_toArray, List.set_cons_zero, List.set_cons_succ]
        refine held_value 22 _ _ (some 89) (.slice Aad ad.length cad) (by kernel_rfl) (by rfl) (by kernel_rfl) (fun w hS => by first | kernel_rfl | go_simp) (fun _ _ _ _ h => h) (trivial) ?_
        simp only [Act.put, List.setIfInBounds_toArray, List.set_cons_zero, List.set_cons_succ]
        refine held_value 23 _ _ (some 90) (.slice Atx tx.length ctx) (by kernel_rfl) (by rfl) (by kernel_rfl) (fun w hS => by first | kernel_rfl | go_simp) (fun _ _ _ _ h => h) (trivial) ?_
        simp only [Act.put, List.setIfInBounds_toArray, List.set_cons_zero, List.set_cons_succ]
        refine held_one 24 (by kernel_rfl) ?_
        refine step_call 24 _ _ (some 91) 22 #[.slice Aad ad.length cad, .slice (some ⟨N + 1, 0, none⟩) 12 12, .slice Aad ad.length cad, .slice Atx tx.length ctx] (by rfl) (by kernel_rfl) (by first | kernel_rfl | go_simp) ?_
        refine (refTag_any V.heap.size _ _ _ _ ad nonce ad tx V HAD HNO HAD HTX (Nat.le_refl _) (by omega) (by omega) (by omega) (by omega)).mono ?_
        rintro e Y4 ⟨v91, rfl, s91, g91⟩
        have bx : Below V.heap.size V Y4 := g91
        rw [← HTG.out.1] at s91
        have b_V := bx
        have m_Y4 : V.heap.size ≤ Y4.heap.size := bx.size
        clear bx
        refine ⟨_, rfl, trivial, ?_⟩
        simp only [Act.put, List.setIfInBounds_toArray, List.set_cons_zero, List.set_cons_succ]
        refine held_one 25 (by kernel_rfl) ?_
        refine step_call 25 _ _ (some 92) 21 #[.slice (some ⟨n19, 0, none⟩) 32 32, v91] (by rfl) (by kernel_rfl) (by first | kernel_rfl | go_simp) ?_
        refine (refEqual_yes Y4.heap.size Y4.heap.size _ _ tg Y4 (HTS.go b_V) s91).mono ?_
        rintro e Y5 ⟨rfl, hq⟩
        obtain rfl : Y4 = Y5 := hq
        refine ⟨_, rfl, trivial, ?_⟩
        simp only [Act.put, List.setIfInBounds_toArray, List.set_cons_zero, List.set_cons_succ]
        refine held_value 26 _ _ (some 93) (.bool true) (by kernel_rfl) (by rfl) (by kernel_rfl) (fun w hS => by first | kernel_rfl | go_simp) (fun _ _ _ _ h => h) (trivial) ?_
        simp only [Act.put, List.setIfInBounds_toArray, List.set_cons_zero, List.set_cons_succ]
        refine held_value 27 _ _ (some 10) (.bool true) (by kernel_rfl) (by rfl) (by kernel_rfl) (fun w hS => by first | kernel_rfl | go_simp) (fun _ _ _ _ h => h) (trivial) ?_
        simp only [Act.put, List.setIfInBounds_toArray, List.set_cons_zero, List.set_cons_succ]
        refine wpAnyH_done (by kernel_rfl) ?_ _
        have F : Shh (Below N w Y4) := ⟨HBW.trans (b_V.mono (by omega))⟩
        clear m_Y4 b_V g91 s91 HAD HTX rK rN HVA HBW HNW HA1 HA2 HA3 HA4 HA5 HA6 rT HNO HTS H8 hS
        go_wp2
        go_ret
        exact ⟨rfl, F.out⟩
end Go.Proofs.YtaalmjcpaiihhaaDoor
