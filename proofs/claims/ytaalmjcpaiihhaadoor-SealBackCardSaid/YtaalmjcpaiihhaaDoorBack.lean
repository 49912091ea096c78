/-
  WALK: the law SealBack.
-/
import Derived.Test.YtaalmjcpaiihhaaDoorLive4
import Derived.Test.YtaalmjcpaiihhaaDoorFew4
import Derived.Test.YtaalmjcpaiihhaaDoorRefOpen
namespace Go.Proofs.YtaalmjcpaiihhaaDoor
open Go.RowKit
set_option maxRecDepth 100000

set_option maxHeartbeats 4000000 in
theorem back_any (key nonce : List UInt8) (vad : Value) (ad : List UInt8) (vtx : Value) (tx : List UInt8) (w : World) (hv : Vars w) (hkl : key.length = 32) (hnl : nonce.length = 12) (had : Sl w w.heap.size vad ad) (htx : Sl w w.heap.size vtx tx) :
    Calls Tryd.prog 6 #[.agg (Lib.byteCells key).toArray, .agg (Lib.byteCells nonce).toArray, vad, vtx] w (TrueIs w) := by
  unfold TrueIs
  obtain ⟨Aad, cad, rfl, _, _⟩ := had.form
  obtain ⟨Atx, ctx, rfl, _, _⟩ := htx.form
  generalize hN : w.heap.size = N at *
  obtain ⟨W1, hW1⟩ : ∃ W1, W1 = (w.alloc (.cells (Lib.byteCells key).toArray 22)).alloc (.cells (Lib.byteCells nonce).toArray 23) := ⟨_, rfl⟩
  have hb1 : Below N w W1 := by rw [hW1]; exact ((Below.refl N w).alloc (by omega) _).alloc (by rw [asz]; omega) _
  have hzW : W1.heap.size = N + 2 := by rw [hW1, asz, asz, hN]
  have HC : Shh (Sl W1 W1.heap.size (.slice Aad ad.length cad) ad ∧ Sl W1 W1.heap.size (.slice Atx tx.length ctx) tx ∧ Row W1 N 22 (Lib.byteCells key) ∧ Row W1 (N + 1) 23 (Lib.byteCells nonce) ∧ Vars W1 ∧ Below N w W1 ∧ N + 2 ≤ W1.heap.size) :=
    ⟨(had.below hb1).more (by omega), (htx.below hb1).more (by omega), by rw [hW1]; exact (Row.new_ hN.symm rfl).alloc _, by rw [hW1]; exact Row.new_ (by rw [asz, hN]) rfl, hv.step (by rw [hN]; exact hb1), hb1, by omega⟩
  rw [hW1] at HC
  clear hv hb1 hzW hW1 had htx
  go_enter Tryd.func6, Tryd.ntmps6
  go_wp2_with (go_at_call 14; refine (live_any _ HC.out.2.2.2.2.1).mono ?_)
  rintro e Y1 ⟨rfl, b1⟩
  have H1 : Shh (Sl Y1 Y1.heap.size (.slice Aad ad.length cad) ad ∧ Sl Y1 Y1.heap.size (.slice Atx tx.length ctx) tx ∧ Row Y1 N 22 (Lib.byteCells key) ∧ Row Y1 (N + 1) 23 (Lib.byteCells nonce) ∧ Vars Y1 ∧ Below N w Y1 ∧ N + 2 ≤ Y1.heap.size) := ⟨HC.out.1.go b1, HC.out.2.1.go b1, HC.out.2.2.1.go b1, HC.out.2.2.2.1.go b1, HC.out.2.2.2.2.1.go b1, HC.out.2.2.2.2.2.1.trans (b1.mono (by have := HC.out.2.2.2.2.2.2; omega)), by have := HC.out.2.2.2.2.2.2; have := b1.size; omega⟩
  clear HC b1
  have bP : Shh (Below Y1.heap.size Y1 (Y1.alloc (.cells #[.slice Aad ad.length cad, .slice Atx tx.length ctx] 24)) ∧ Row (Y1.alloc (.cells #[.slice Aad ad.length cad, .slice Atx tx.length ctx] 24)) Y1.heap.size 24 [.slice Aad ad.length cad, .slice Atx tx.length ctx]) := ⟨Below.alloc (Below.refl _ _) (Nat.le_refl _) _, Row.new_ rfl rfl⟩
  obtain ⟨W, hW⟩ : ∃ W, W = Y1.alloc (.cells #[.slice Aad ad.length cad, .slice Atx tx.length ctx] 24) := ⟨_, rfl⟩
  rw [← hW] at bP
  have H2 : Shh (Sl W W.heap.size (.slice Aad ad.length cad) ad ∧ Sl W W.heap.size (.slice Atx tx.length ctx) tx ∧ Row W N 22 (Lib.byteCells key) ∧ Row W (N + 1) 23 (Lib.byteCells nonce) ∧ Vars W ∧ Below N w W ∧ N + 2 ≤ W.heap.size) := ⟨H1.out.1.go bP.out.1, H1.out.2.1.go bP.out.1, H1.out.2.2.1.go bP.out.1, H1.out.2.2.2.1.go bP.out.1, H1.out.2.2.2.2.1.go bP.out.1, H1.out.2.2.2.2.2.1.trans (bP.out.1.mono (by have := H1.out.2.2.2.2.2.2; omega)), by have := H1.out.2.2.2.2.2.2; have := bP.out.1.size; omega⟩
  have hP : Shh (PartsO W W.heap.size W.heap.size (.slice (some ⟨Y1.heap.size, 0, none⟩) 2 2) [ad, tx]) :=
    ⟨PartsO.two bP.out.2.lt (Nat.ne_of_lt bP.out.2.lt) bP.out.2 H2.out.1 (H2.out.1.off (Nat.le_refl _)) H2.out.2.1 (H2.out.2.1.off (Nat.le_refl _))⟩
  rw [hW] at hP H2
  clear bP H1
  go_wp2_with (go_at_call 15; refine (few4_any _ _ _ [ad, tx] _ hP.out (by simp)).mono ?_)
  rintro e Y2 ⟨rfl, rfl⟩
  rw [← hW] at hP H2 ⊢
  clear hP hW
  cases hf : few4B [ad, tx] with
  | false =>
    go_wp2_with (go_at_call 14; refine (live_any _ H2.out.2.2.2.2.1).mono ?_)
    rintro e Y3 ⟨rfl, b3⟩
    have F : Shh (Below N w Y3) := ⟨H2.out.2.2.2.2.2.1.trans (b3.mono (by have := H2.out.2.2.2.2.2.2; omega))⟩
    clear H2 b3
    go_wp2
    go_ret
    exact ⟨rfl, F.out⟩
  | true =>
    have hfy := few4_yes hf
    have hlad : ad.length ≤ 2000 := hfy _ (by simp)
    have hltx : tx.length ≤ 2000 := hfy _ (by simp)
    clear hf hfy
    go_wp2_with (first | refine wpList_load_any rfl 22 (.tmp 4) rfl N rfl 22 (Lib.byteCells key) (.array 32 5) H2.out.2.2.1 Tryd.underlying22 rfl (info_b32.trans (size_bytes _ _ hkl)) ?_ | refine wpList_load_any rfl 23 (.tmp 5) rfl (N + 1) rfl 23 (Lib.byteCells nonce) (.array 12 5) H2.out.2.2.2.1 Tryd.underlying23 rfl (info_b12.trans (size_bytes _ _ hnl)) ?_ | (go_at_call 24; refine (shut_any W.heap.size _ _ key nonce ad tx W H2.out.1 H2.out.2.1 (Nat.le_refl _) H2.out.2.2.2.2.1 hkl hnl (by omega) (by omega)).mono ?_))
    rintro e Y3 ⟨v3, rfl, g3⟩
    have k3 := gives_sl g3
    have hsl := shutB_length key nonce ad tx
    obtain ⟨sd, hsd⟩ : ∃ sd, sd = shutB key nonce ad tx := ⟨_, rfl⟩
    rw [← hsd] at k3 hsl
    have HSD : Shh (openE key nonce ad sd = 0 ∧ openV key nonce ad sd = tx) := ⟨by rw [hsd]; exact (open_shut _ _ _ _).1, by rw [hsd]; exact (open_shut _ _ _ _).2⟩
    obtain ⟨A3, c3, rfl, _, _⟩ := k3.form
    have qlen : ((sd.length : Int) == (tx.length : Int) + 32) = true := by rw [hsl]; simp
    have hsl2 : sd.length ≤ 400000 := by omega
    have H3 : Shh (Sl Y3 Y3.heap.size (.slice Aad ad.length cad) ad ∧ Sl Y3 Y3.heap.size (.slice Atx tx.length ctx) tx ∧ Row Y3 N 22 (Lib.byteCells key) ∧ Row Y3 (N + 1) 23 (Lib.byteCells nonce) ∧ Vars Y3 ∧ Below N w Y3 ∧ N + 2 ≤ Y3.heap.size) := ⟨H2.out.1.go g3.2, H2.out.2.1.go g3.2, H2.out.2.2.1.go g3.2, H2.out.2.2.2.1.go g3.2, H2.out.2.2.2.2.1.go g3.2, H2.out.2.2.2.2.2.1.trans (g3.2.mono (by have := H2.out.2.2.2.2.2.2; omega)), by have := H2.out.2.2.2.2.2.2; have := g3.2.size; omega⟩
    have H3s : Shh (Sl Y3 Y3.heap.size (.slice A3 sd.length c3) sd) := ⟨k3⟩
    clear g3 k3 H2 hsl hsd
    go_wp2_with (first | refine wpList_load_any rfl 22 (.tmp 4) rfl N rfl 22 (Lib.byteCells key) (.array 32 5) H3.out.2.2.1 Tryd.underlying22 rfl (info_b32.trans (size_bytes _ _ hkl)) ?_ | refine wpList_load_any rfl 23 (.tmp 5) rfl (N + 1) rfl 23 (Lib.byteCells nonce) (.array 12 5) H3.out.2.2.2.1 Tryd.underlying23 rfl (info_b12.trans (size_bytes _ _ hnl)) ?_ | (go_at_call 26; refine (open_any Y3.heap.size _ _ key nonce ad sd Y3 H3.out.1 H3s.out (Nat.le_refl _) H3.out.2.2.2.2.1 hkl hnl (by omega) hsl2).mono ?_))
    rintro e Y4 ⟨v4, rfl, g4⟩
    rw [HSD.out.1]
    rw [HSD.out.2] at g4
    have H4 : Shh (Sl Y4 Y4.heap.size v4 tx ∧ Sl Y4 Y4.heap.size (.slice Atx tx.length ctx) tx ∧ Below N w Y4) := ⟨gives_sl g4, H3.out.2.1.go g4.2, H3.out.2.2.2.2.2.1.trans (g4.2.mono (by have := H3.out.2.2.2.2.2.2; omega))⟩
    clear g4 H3 H3s
    go_wp2_with (go_at_call 21; refine (refEqual_any _ _ _ _ _ _ _ H4.out.1 H4.out.2.1).mono ?_)
    rintro e w5 ⟨rfl, rfl⟩
    have hd2 : (tx == tx) = true := by simp
    rw [hd2]
    go_wp2
    go_ret
    exact ⟨rfl, H4.out.2.2⟩
end Go.Proofs.YtaalmjcpaiihhaaDoor
