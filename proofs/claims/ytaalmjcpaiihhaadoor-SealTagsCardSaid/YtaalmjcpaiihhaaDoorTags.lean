/-
  WALK: the law SealTags.
-/
import Derived.Test.YtaalmjcpaiihhaaDoorLive4
import Derived.Test.YtaalmjcpaiihhaaDoorFew4
import Derived.Test.YtaalmjcpaiihhaaDoorRefOpen
namespace Go.Proofs.YtaalmjcpaiihhaaDoor
open Go.RowKit
set_option maxRecDepth 100000

theorem tags_math (key nonce ad tx tg : List UInt8) (hl : tg.length = 32) (hne : ((shutB key nonce ad tx).take tx.length ++ tg == shutB key nonce ad tx) = false) :
    openE key nonce ad ((shutB key nonce ad tx).take tx.length ++ tg) = 40 ∧ openV key nonce ad ((shutB key nonce ad tx).take tx.length ++ tg) = [] := by
  have h0 : (shutB key nonce ad tx).take tx.length = covB (encK key) nonce tx := by
    unfold shutB
    have := covB_length (encK key) nonce tx
    rw [← this, List.take_left]
  rw [h0] at hne ⊢
  have hcl := covB_length (encK key) nonce tx
  have h1 : ¬ (covB (encK key) nonce tx ++ tg).length < 32 := by rw [List.length_append]; omega
  have h2 : (covB (encK key) nonce tx ++ tg).length - 32 = (covB (encK key) nonce tx).length := by rw [List.length_append]; omega
  have h3 : (tg == tagB (macK key) nonce ad (covB (encK key) nonce tx)) = false := by
    rw [beq_eq_false_iff_ne] at hne ⊢
    intro e
    apply hne
    rw [e]
    rfl
  constructor
  · unfold openE
    rw [if_neg h1, h2, List.drop_left, List.take_left, h3]
    rfl
  · unfold openV
    rw [if_neg h1, h2, List.drop_left, List.take_left, h3]
    rfl
theorem tags_same (key nonce ad tx tg : List UInt8) (h : ((shutB key nonce ad tx).take tx.length ++ tg == shutB key nonce ad tx) = true) : (tg == (shutB key nonce ad tx).drop tx.length) = true := by
  rw [beq_iff_eq] at h ⊢
  have h2 : (shutB key nonce ad tx).take tx.length ++ tg = (shutB key nonce ad tx).take tx.length ++ (shutB key nonce ad tx).drop tx.length := by rw [h, List.take_append_drop]
  exact List.append_cancel_left h2

set_option maxHeartbeats 4000000 in
theorem tags_any (key nonce : List UInt8) (vad : Value) (ad : List UInt8) (vtx : Value) (tx : List UInt8) (vtg : Value) (tg : List UInt8) (w : World) (hv : Vars w) (hkl : key.length = 32) (hnl : nonce.length = 12) (had : Sl w w.heap.size vad ad) (htx : Sl w w.heap.size vtx tx) (htg : Sl w w.heap.size vtg tg) :
    Calls Tryd.prog 7 #[.agg (Lib.byteCells key).toArray, .agg (Lib.byteCells nonce).toArray, vad, vtx, vtg] w (TrueIs w) := by
  unfold TrueIs
  obtain ⟨Aad, cad, rfl, _, _⟩ := had.form
  obtain ⟨Atx, ctx, rfl, _, _⟩ := htx.form
  obtain ⟨Atg, ctg, rfl, _, _⟩ := htg.form
  generalize hN : w.heap.size = N at *
  obtain ⟨W1, hW1⟩ : ∃ W1, W1 = (w.alloc (.cells (Lib.byteCells key).toArray 22)).alloc (.cells (Lib.byteCells nonce).toArray 23) := ⟨_, rfl⟩
  have hb1 : Below N w W1 := by rw [hW1]; exact ((Below.refl N w).alloc (by omega) _).alloc (by rw [asz]; omega) _
  have hzW : W1.heap.size = N + 2 := by rw [hW1, asz, asz, hN]
  have HC : Shh (Sl W1 W1.heap.size (.slice Aad ad.length cad) ad ∧ Sl W1 W1.heap.size (.slice Atx tx.length ctx) tx ∧ Sl W1 W1.heap.size (.slice Atg tg.length ctg) tg ∧ Row W1 N 22 (Lib.byteCells key) ∧ Row W1 (N + 1) 23 (Lib.byteCells nonce) ∧ Vars W1 ∧ Below N w W1 ∧ N + 2 ≤ W1.heap.size) :=
    ⟨(had.below hb1).more (by omega), (htx.below hb1).more (by omega), (htg.below hb1).more (by omega), by rw [hW1]; exact (Row.new_ hN.symm rfl).alloc _, by rw [hW1]; exact Row.new_ (by rw [asz, hN]) rfl, hv.step (by rw [hN]; exact hb1), hb1, by omega⟩
  rw [hW1] at HC
  clear hv hb1 hzW hW1 had htx htg
  go_enter Tryd.func7, Tryd.ntmps7
  go_wp2_with (go_at_call 14; refine (live_any _ HC.out.2.2.2.2.2.1).mono ?_)
  rintro e Y1 ⟨rfl, b1⟩
  have H1 : Shh (Sl Y1 Y1.heap.size (.slice Aad ad.length cad) ad ∧ Sl Y1 Y1.heap.size (.slice Atx tx.length ctx) tx ∧ Sl Y1 Y1.heap.size (.slice Atg tg.length ctg) tg ∧ Row Y1 N 22 (Lib.byteCells key) ∧ Row Y1 (N + 1) 23 (Lib.byteCells nonce) ∧ Vars Y1 ∧ Below N w Y1 ∧ N + 2 ≤ Y1.heap.size) := ⟨HC.out.1.go b1, HC.out.2.1.go b1, HC.out.2.2.1.go b1, HC.out.2.2.2.1.go b1, HC.out.2.2.2.2.1.go b1, HC.out.2.2.2.2.2.1.go b1, HC.out.2.2.2.2.2.2.1.trans (b1.mono (by have := HC.out.2.2.2.2.2.2.2; omega)), by have := HC.out.2.2.2.2.2.2.2; have := b1.size; omega⟩
  clear HC b1
  have bP : Shh (Below Y1.heap.size Y1 (Y1.alloc (.cells #[.slice Aad ad.length cad, .slice Atx tx.length ctx, .slice Atg tg.length ctg] 24)) ∧ Row (Y1.alloc (.cells #[.slice Aad ad.length cad, .slice Atx tx.length ctx, .slice Atg tg.length ctg] 24)) Y1.heap.size 24 [.slice Aad ad.length cad, .slice Atx tx.length ctx, .slice Atg tg.length ctg]) := ⟨Below.alloc (Below.refl _ _) (Nat.le_refl _) _, Row.new_ rfl rfl⟩
  obtain ⟨W, hW⟩ : ∃ W, W = Y1.alloc (.cells #[.slice Aad ad.length cad, .slice Atx tx.length ctx, .slice Atg tg.length ctg] 24) := ⟨_, rfl⟩
  rw [← hW] at bP
  have H2 : Shh (Sl W W.heap.size (.slice Aad ad.length cad) ad ∧ Sl W W.heap.size (.slice Atx tx.length ctx) tx ∧ Sl W W.heap.size (.slice Atg tg.length ctg) tg ∧ Row W N 22 (Lib.byteCells key) ∧ Row W (N + 1) 23 (Lib.byteCells nonce) ∧ Vars W ∧ Below N w W ∧ N + 2 ≤ W.heap.size) := ⟨H1.out.1.go bP.out.1, H1.out.2.1.go bP.out.1, H1.out.2.2.1.go bP.out.1, H1.out.2.2.2.1.go bP.out.1, H1.out.2.2.2.2.1.go bP.out.1, H1.out.2.2.2.2.2.1.go bP.out.1, H1.out.2.2.2.2.2.2.1.trans (bP.out.1.mono (by have := H1.out.2.2.2.2.2.2.2; omega)), by have := H1.out.2.2.2.2.2.2.2; have := bP.out.1.size; omega⟩
  have hP : Shh (PartsO W W.heap.size W.heap.size (.slice (some ⟨Y1.heap.size, 0, none⟩) 3 3) [ad, tx, tg]) :=
    ⟨PartsO.three bP.out.2.lt (Nat.ne_of_lt bP.out.2.lt) bP.out.2 H2.out.1 (H2.out.1.off (Nat.le_refl _)) H2.out.2.1 (H2.out.2.1.off (Nat.le_refl _)) H2.out.2.2.1 (H2.out.2.2.1.off (Nat.le_refl _))⟩
  rw [hW] at hP H2
  clear bP H1
  go_wp2_with (go_at_call 15; refine (few4_any _ _ _ [ad, tx, tg] _ hP.out (by simp)).mono ?_)
  rintro e Y2 ⟨rfl, rfl⟩
  rw [← hW] at hP H2 ⊢
  clear hP hW
  cases hf : few4B [ad, tx, tg] with
  | false =>
    go_wp2_with (go_at_call 14; refine (live_any _ H2.out.2.2.2.2.2.1).mono ?_)
    rintro e Y3 ⟨rfl, b3⟩
    have F : Shh (Below N w Y3) := ⟨H2.out.2.2.2.2.2.2.1.trans (b3.mono (by have := H2.out.2.2.2.2.2.2.2; omega))⟩
    clear H2 b3
    go_wp2
    go_ret
    exact ⟨rfl, F.out⟩
  | true =>
    have hfy := few4_yes hf
    have hlad : ad.length ≤ 2000 := hfy _ (by simp)
    have hltx : tx.length ≤ 2000 := hfy _ (by simp)
    have hltg : tg.length ≤ 2000 := hfy _ (by simp)
    clear hf hfy
    go_wp2_with (first | refine wpList_load_any rfl 22 (.tmp 5) rfl N rfl 22 (Lib.byteCells key) (.array 32 5) H2.out.2.2.2.1 Tryd.underlying22 rfl (info_b32.trans (size_bytes _ _ hkl)) ?_ | refine wpList_load_any rfl 23 (.tmp 6) rfl (N + 1) rfl 23 (Lib.byteCells nonce) (.array 12 5) H2.out.2.2.2.2.1 Tryd.underlying23 rfl (info_b12.trans (size_bytes _ _ hnl)) ?_ | (go_at_call 24; refine (shut_any W.heap.size _ _ key nonce ad tx W H2.out.1 H2.out.2.1 (Nat.le_refl _) H2.out.2.2.2.2.2.1 hkl hnl (by omega) (by omega)).mono ?_))
    rintro e Y3 ⟨v3, rfl, g3⟩
    have k3 := gives_sl g3
    have hsl := shutB_length key nonce ad tx
    have HM := tags_math key nonce ad tx tg
    have HS := tags_same key nonce ad tx tg
    obtain ⟨sd, hsd⟩ : ∃ sd, sd = shutB key nonce ad tx := ⟨_, rfl⟩
    rw [← hsd] at k3 hsl HM HS
    have HMS : Shh ((tg.length = 32 → (sd.take tx.length ++ tg == sd) = false → openE key nonce ad (sd.take tx.length ++ tg) = 40 ∧ openV key nonce ad (sd.take tx.length ++ tg) = []) ∧ ((sd.take tx.length ++ tg == sd) = true → (tg == sd.drop tx.length) = true)) := ⟨HM, HS⟩
    obtain ⟨A3, c3, rfl, hc3, _⟩ := k3.form
    have qlen : ((sd.length : Int) != (tx.length : Int) + 32) = false := by rw [hsl]; simp
    have hsl2 : sd.length ≤ 400000 := by omega
    have htsd : tx.length ≤ sd.length := by omega
    have hsl3 : sd.length ≤ tx.length + 32 := by omega
    have H3 : Shh (Sl Y3 Y3.heap.size (.slice Aad ad.length cad) ad ∧ Sl Y3 Y3.heap.size (.slice Atx tx.length ctx) tx ∧ Sl Y3 Y3.heap.size (.slice Atg tg.length ctg) tg ∧ Row Y3 N 22 (Lib.byteCells key) ∧ Row Y3 (N + 1) 23 (Lib.byteCells nonce) ∧ Vars Y3 ∧ Below N w Y3 ∧ N + 2 ≤ Y3.heap.size ∧ Sl Y3 Y3.heap.size (.slice A3 sd.length c3) sd) := ⟨H2.out.1.go g3.2, H2.out.2.1.go g3.2, H2.out.2.2.1.go g3.2, H2.out.2.2.2.1.go g3.2, H2.out.2.2.2.2.1.go g3.2, H2.out.2.2.2.2.2.1.go g3.2, H2.out.2.2.2.2.2.2.1.trans (g3.2.mono (by have := H2.out.2.2.2.2.2.2.2; omega)), by have := H2.out.2.2.2.2.2.2.2; have := g3.2.size; omega, k3⟩
    clear g3 k3 H2 hsl hsd HM HS
    go_wp2_with (refine wpList_slice_to rfl (.tmp 37) (.tmp 39) rfl Y3.heap.size (.slice A3 sd.length c3) rfl sd (H3.out.2.2.2.2.2.2.2.2) tx.length rfl htsd ?_)
    intro vx hvx _
    obtain ⟨pf, hpf⟩ : ∃ pf, pf = sd.take tx.length := ⟨_, rfl⟩
    have hpl : pf.length ≤ 2000 := by rw [hpf, List.length_take]; omega
    rw [← hpf] at hvx HMS
    clear hpf
    obtain ⟨Ax, cx, rfl, _, _⟩ := hvx.form
    have bP : Shh (Below Y3.heap.size Y3 (Y3.alloc (.cells #[.slice Ax pf.length cx, .slice Atg tg.length ctg] 24)) ∧ Row (Y3.alloc (.cells #[.slice Ax pf.length cx, .slice Atg tg.length ctg] 24)) Y3.heap.size 24 [.slice Ax pf.length cx, .slice Atg tg.length ctg]) := ⟨Below.alloc (Below.refl _ _) (Nat.le_refl _) _, Row.new_ rfl rfl⟩
    obtain ⟨Z, hZ⟩ : ∃ Z, Z = Y3.alloc (.cells #[.slice Ax pf.length cx, .slice Atg tg.length ctg] 24) := ⟨_, rfl⟩
    rw [← hZ] at bP
    have hP : Shh (PartsO Z Z.heap.size Z.heap.size (.slice (some ⟨Y3.heap.size, 0, none⟩) 2 2) [pf, tg]) := by
      have h1 := hvx.go bP.out.1
      have h2 := H3.out.2.2.1.go bP.out.1
      exact ⟨PartsO.two bP.out.2.lt (Nat.ne_of_lt bP.out.2.lt) bP.out.2 h1 (h1.off (Nat.le_refl _)) h2 (h2.off (Nat.le_refl _))⟩
    have H4 : Shh (Sl Z Z.heap.size (.slice Aad ad.length cad) ad ∧ Sl Z Z.heap.size (.slice Atx tx.length ctx) tx ∧ Sl Z Z.heap.size (.slice Atg tg.length ctg) tg ∧ Row Z N 22 (Lib.byteCells key) ∧ Row Z (N + 1) 23 (Lib.byteCells nonce) ∧ Vars Z ∧ Below N w Z ∧ N + 2 ≤ Z.heap.size ∧ Sl Z Z.heap.size (.slice A3 sd.length c3) sd) := ⟨H3.out.1.go bP.out.1, H3.out.2.1.go bP.out.1, H3.out.2.2.1.go bP.out.1, H3.out.2.2.2.1.go bP.out.1, H3.out.2.2.2.2.1.go bP.out.1, H3.out.2.2.2.2.2.1.go bP.out.1, H3.out.2.2.2.2.2.2.1.trans (bP.out.1.mono (by have := H3.out.2.2.2.2.2.2.2; omega)), by have := H3.out.2.2.2.2.2.2.2; have := bP.out.1.size; omega, (H3.out.2.2.2.2.2.2.2.2).go bP.out.1⟩
    rw [hZ] at hP H4
    clear H3 bP hvx
    go_wp2_with (go_at_call 23; refine (refJoin_any _ _ _ [pf, tg] _ hP.out (Nat.le_refl _) (by simp; omega) (by simp)).mono ?_)
    rintro e Y5 ⟨v5, rfl, g5⟩
    rw [← hZ] at g5 H4
    have e5 : [pf, tg].flatten = pf ++ tg := by simp
    rw [e5] at g5
    have k5 := gives_sl g5
    obtain ⟨ot, hot⟩ : ∃ ot, ot = pf ++ tg := ⟨_, rfl⟩
    rw [← hot] at HMS k5
    have hol : ot.length ≤ 400000 := by rw [hot, List.length_append]; omega
    obtain ⟨A5, c5, rfl, _, _⟩ := k5.form
    have H5 : Shh (Sl Y5 Y5.heap.size (.slice Aad ad.length cad) ad ∧ Sl Y5 Y5.heap.size (.slice Atx tx.length ctx) tx ∧ Sl Y5 Y5.heap.size (.slice Atg tg.length ctg) tg ∧ Row Y5 N 22 (Lib.byteCells key) ∧ Row Y5 (N + 1) 23 (Lib.byteCells nonce) ∧ Vars Y5 ∧ Below N w Y5 ∧ N + 2 ≤ Y5.heap.size ∧ Sl Y5 Y5.heap.size (.slice A3 sd.length c3) sd ∧ Sl Y5 Y5.heap.size (.slice A5 ot.length c5) ot) := ⟨H4.out.1.go g5.2, H4.out.2.1.go g5.2, H4.out.2.2.1.go g5.2, H4.out.2.2.2.1.go g5.2, H4.out.2.2.2.2.1.go g5.2, H4.out.2.2.2.2.2.1.go g5.2, H4.out.2.2.2.2.2.2.1.trans (g5.2.mono (by have := H4.out.2.2.2.2.2.2.2; omega)), by have := H4.out.2.2.2.2.2.2.2; have := g5.2.size; omega, (H4.out.2.2.2.2.2.2.2.2).go g5.2, k5⟩
    clear g5 k5 H4 hP hZ e5 hot
    by_cases htl : tg.length = 32
    · have qt : ((tg.length : Int) != 32) = false := by rw [htl]; rfl
      have HTL : Shh (tg.length = 32) := ⟨htl⟩
      clear htl
      go_wp2_with (go_at_call 21; refine (refEqual_any _ _ _ _ _ _ _ (H5.out.2.2.2.2.2.2.2.2.2) (H5.out.2.2.2.2.2.2.2.2.1)).mono ?_)
      rintro e w5 ⟨rfl, rfl⟩
      cases hq : (ot == sd) with
      | true =>
        have hd : (tg == sd.drop tx.length) = true := HMS.out.2 hq
        clear hq
        have hr : (Instr.sliceAt 24 (.slice A3 sd.length c3) (some (.int .i64 (tx.length : Int))) none none).run Tryd.prog Y5 = .ok (sliced A3 tx.length sd.length c3 1) Y5 := run_from A3 sd.length c3 tx.length (tx.length : Int) rfl htsd Y5
        have hcut := (H5.out.2.2.2.2.2.2.2.2.1).cut tx.length sd.length htsd (Nat.le_refl _) hc3
        rw [List.take_length] at hcut
        obtain ⟨vd, hvd⟩ : ∃ vd, vd = sliced A3 tx.length sd.length c3 1 := ⟨_, rfl⟩
        rw [← hvd] at hr hcut
        clear hvd
        have HH : Shh (Sl Y5 Y5.heap.size vd (sd.drop tx.length) ∧ Sl Y5 Y5.heap.size (.slice Atg tg.length ctg) tg ∧ Below N w Y5) := ⟨hcut, H5.out.2.2.1, H5.out.2.2.2.2.2.2.1⟩
        clear H5 hcut HMS
        go_wp2_with (go_at_call 21; refine (refEqual_any _ _ _ _ _ _ _ HH.out.2.1 HH.out.1).mono ?_)
        rintro e w5 ⟨rfl, rfl⟩
        rw [hd]
        go_wp2
        go_ret
        exact ⟨rfl, HH.out.2.2⟩
      | false =>
        have HE : Shh (openE key nonce ad ot = 40 ∧ openV key nonce ad ot = []) := ⟨HMS.out.1 HTL.out hq⟩
        clear hq HMS
        go_wp2_with (first | refine wpList_load_any rfl 22 (.tmp 5) rfl N rfl 22 (Lib.byteCells key) (.array 32 5) H5.out.2.2.2.1 Tryd.underlying22 rfl (info_b32.trans (size_bytes _ _ hkl)) ?_ | refine wpList_load_any rfl 23 (.tmp 6) rfl (N + 1) rfl 23 (Lib.byteCells nonce) (.array 12 5) H5.out.2.2.2.2.1 Tryd.underlying23 rfl (info_b12.trans (size_bytes _ _ hnl)) ?_ | (go_at_call 26; refine (open_any Y5.heap.size _ _ key nonce ad ot Y5 H5.out.1 (H5.out.2.2.2.2.2.2.2.2.2) (Nat.le_refl _) H5.out.2.2.2.2.2.1 hkl hnl (by omega) hol).mono ?_))
        rintro e Y6 ⟨v6, rfl, g6⟩
        rw [HE.out.1]
        rw [HE.out.2] at g6
        have k6 := gives_sl g6
        obtain ⟨A6, c6, rfl, _, _⟩ := k6.form
        have F : Shh (Below N w Y6) := ⟨H5.out.2.2.2.2.2.2.1.trans (g6.2.mono (by have := H5.out.2.2.2.2.2.2.2.1; omega))⟩
        clear g6 k6 H5
        go_wp2
        go_ret
        exact ⟨rfl, F.out⟩
    · have qt : ((tg.length : Int) != 32) = true := by rw [bne_iff_ne]; omega
      have F : Shh (Below N w Y5) := ⟨H5.out.2.2.2.2.2.2.1⟩
      clear H5 htl HMS
      go_wp2
      go_ret
      exact ⟨rfl, F.out⟩
end Go.Proofs.YtaalmjcpaiihhaaDoor
