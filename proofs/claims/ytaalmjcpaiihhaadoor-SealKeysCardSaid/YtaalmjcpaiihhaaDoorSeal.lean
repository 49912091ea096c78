/-
  THE WALK of the package's function that covers and tags.
-/
import Derived.Test.YtaalmjcpaiihhaaDoorStream
import Derived.Test.YtaalmjcpaiihhaaDoorTag
import Derived.Test.YtaalmjcpaiihhaaDoorKeys2
import Derived.Test.YtaalmjcpaiihhaaDoorJoinP
namespace Go.Proofs.YtaalmjcpaiihhaaDoor
open Go.RowKit
set_option maxRecDepth 100000

/-- a text covered and tagged -/
def shutB (key nonce ad text : List UInt8) : List UInt8 := covB (encK key) nonce text ++ tagB (macK key) nonce ad (covB (encK key) nonce text)
theorem shutB_length (key nonce ad text : List UInt8) : (shutB key nonce ad text).length = text.length + 32 := by
  unfold shutB
  rw [List.length_append, covB_length, tagB_length]
theorem encK_length (key : List UInt8) : (encK key).length = 32 := expB_length _ _ _
theorem macK_length (key : List UInt8) : (macK key).length = 32 := expB_length _ _ _

set_option maxHeartbeats 2000000 in
theorem shut_any (B : Nat) (va vt : Value) (key nonce ad text : List UInt8) (w : World) (ha : Sl w B va ad) (ht : Sl w B vt text) (hB : B ≤ w.heap.size) (hv : Vars w) (hkl : key.length = 32) (hnl : nonce.length = 12) (hal : ad.length ≤ 400000) (htl : text.length ≤ 400000) :
    Calls Tryd.prog 24 #[.agg (Lib.byteCells key).toArray, .agg (Lib.byteCells nonce).toArray, va, vt] w (OwnIs w (shutB key nonce ad text)) := by
  unfold OwnIs
  obtain ⟨Aa, ca, rfl, _, _⟩ := ha.form
  obtain ⟨At, ct, rfl, _, _⟩ := ht.form
  generalize hN : w.heap.size = N at *
  obtain ⟨W1, hW1⟩ : ∃ W1, W1 = (w.alloc (.cells (Lib.byteCells key).toArray 22)).alloc (.cells (Lib.byteCells nonce).toArray 23) := ⟨_, rfl⟩
  have hb1 : Below N w W1 := by rw [hW1]; exact ((Below.refl N w).alloc (by omega) _).alloc (by rw [asz]; omega) _
  have hzW : W1.heap.size = N + 2 := by rw [hW1, asz, asz, hN]
  have HC : Shh (Sl W1 W1.heap.size (.slice Aa ad.length ca) ad ∧ Sl W1 W1.heap.size (.slice At text.length ct) text ∧ Row W1 N 22 (Lib.byteCells key) ∧ Row W1 (N + 1) 23 (Lib.byteCells nonce) ∧ Vars W1 ∧ Below N w W1 ∧ W1.heap.size = N + 2) :=
    ⟨(ha.below (hb1.mono hB)).more (by omega), (ht.below (hb1.mono hB)).more (by omega), by rw [hW1]; exact (Row.new_ hN.symm rfl).alloc _, by rw [hW1]; exact Row.new_ (by rw [asz, hN]) rfl, hv.step (by rw [hN]; exact hb1), hb1, hzW⟩
  clear ha ht hv hb1 hzW
  go_enter Tryd.func24, Tryd.ntmps24
  have HW := HC
  rw [hW1] at HC
  clear hW1 HW
  go_wp2_with (first | refine wpList_load_any rfl 22 (.tmp 4) rfl N rfl 22 (Lib.byteCells key) (.array 32 5) HC.out.2.2.1 Tryd.underlying22 rfl (info_b32.trans (size_bytes _ _ hkl)) ?_ | (go_at_call 16; refine (keys_any key hkl _ HC.out.2.2.2.2.1).mono ?_))
  rintro e Y1 ⟨v1, v2, rfl, k1, k2, b1⟩
  obtain ⟨A1, c1, rfl, _, _⟩ := k1.form
  obtain ⟨A2, c2, rfl, _, _⟩ := k2.form
  have H1 : Shh (Sl Y1 Y1.heap.size (.slice A1 (expB key encI 32).length c1) (encK key) ∧ Sl Y1 Y1.heap.size (.slice A2 (expB key macI 32).length c2) (macK key) ∧ Sl Y1 Y1.heap.size (.slice Aa ad.length ca) ad ∧ Sl Y1 Y1.heap.size (.slice At text.length ct) text ∧ Row Y1 (N + 1) 23 (Lib.byteCells nonce) ∧ Vars Y1 ∧ Below N w Y1) :=
    ⟨k1, k2, HC.out.1.go b1, HC.out.2.1.go b1, HC.out.2.2.2.1.go b1, HC.out.2.2.2.2.1.go b1, HC.out.2.2.2.2.2.1.trans (b1.mono (by have := HC.out.2.2.2.2.2.2; omega))⟩
  clear k1 k2 b1 HC
  go_wp2_with (first | refine wpList_load_any rfl 23 (.tmp 5) rfl (N + 1) rfl 23 (Lib.byteCells nonce) (.array 12 5) H1.out.2.2.2.2.1 Tryd.underlying23 rfl (info_b12.trans (size_bytes _ _ hnl)) ?_ | (go_at_call 42; refine (covered_any Y1.heap.size _ _ (encK key) nonce text Y1 H1.out.1 H1.out.2.2.2.1 (Nat.le_refl _) H1.out.2.2.2.2.2.1 hnl (by rw [encK_length]; omega) (by omega)).mono ?_))
  rintro e Y2 ⟨v3, rfl, g3⟩
  have k3 := gives_sl g3
  have hcl := covB_length (encK key) nonce text
  obtain ⟨cv, hcv⟩ : ∃ cv, cv = covB (encK key) nonce text := ⟨_, rfl⟩
  rw [← hcv] at k3 hcl
  have HCV : Shh (cv = covB (encK key) nonce text) := ⟨hcv⟩
  clear hcv
  have hcl2 : cv.length ≤ 400000 := by omega
  obtain ⟨A3, c3, rfl, _, _⟩ := k3.form
  have H2 : Shh (Sl Y2 Y2.heap.size (.slice A3 cv.length c3) cv ∧ Sl Y2 Y2.heap.size (.slice A2 (expB key macI 32).length c2) (macK key) ∧ Sl Y2 Y2.heap.size (.slice Aa ad.length ca) ad ∧ Row Y2 (N + 1) 23 (Lib.byteCells nonce) ∧ Vars Y2 ∧ Below N w Y2 ∧ N ≤ Y2.heap.size) :=
    ⟨k3, H1.out.2.1.go g3.2, H1.out.2.2.1.go g3.2, H1.out.2.2.2.2.1.go g3.2, H1.out.2.2.2.2.2.1.go g3.2, H1.out.2.2.2.2.2.2.trans (g3.2.mono (by have := H1.out.2.2.2.2.2.2.size; omega)), by have := H1.out.2.2.2.2.2.2.size; have := g3.2.size; omega⟩
  clear k3 g3 hcl
  clear H1
  go_wp2_with (first | refine wpList_load_any rfl 23 (.tmp 5) rfl (N + 1) rfl 23 (Lib.byteCells nonce) (.array 12 5) H2.out.2.2.2.1 Tryd.underlying23 rfl (info_b12.trans (size_bytes _ _ hnl)) ?_ | (go_at_call 20; refine (tag_any Y2.heap.size _ _ _ (macK key) nonce ad cv Y2 H2.out.2.1 H2.out.2.2.1 H2.out.1 (Nat.le_refl _) H2.out.2.2.2.2.1 hnl (by rw [macK_length]; omega) hal hcl2).mono ?_))
  rintro e Y3 ⟨rfl, b3⟩
  have htg := tagB_length (macK key) nonce ad cv
  obtain ⟨tg, htg2⟩ : ∃ tg, tg = tagB (macK key) nonce ad cv := ⟨_, rfl⟩
  rw [← htg2] at htg ⊢
  have HTG : Shh (tg = tagB (macK key) nonce ad cv) := ⟨htg2⟩
  clear htg2
  have H3 : Shh (Sl Y3 Y3.heap.size (.slice A3 cv.length c3) cv ∧ Below N w Y3 ∧ N ≤ Y3.heap.size) := ⟨H2.out.1.go b3, H2.out.2.2.2.2.2.1.trans (b3.mono H2.out.2.2.2.2.2.2), by have := H2.out.2.2.2.2.2.2; have := b3.size; omega⟩
  clear H2 b3
  go_wp2_with (refine wpList_store_any rfl 22 (.tmp 12) (.tmp 26) rfl Y3.heap.size rfl (Lib.byteCells tg) rfl 22 (Lib.byteCells (List.replicate 32 0)) (Row.new_ rfl zero32b) (info_b32.trans (size_bytes _ _ htg)) (by rw [Lib.byteCells_length, Lib.byteCells_length, htg]; rfl) (cell_oneCell _) ?_)
  intro Y4 hr4 bt hs4
  try simp only [asz] at bt hs4
  have b4 : Below Y3.heap.size Y3 Y4 := (Below.alloc (Below.refl _ _) (Nat.le_refl _) _).trans (bt.under (Nat.le_succ _) (Nat.le_refl _))
  have bP : Shh (Below Y4.heap.size Y4 (Y4.alloc (.cells #[.slice A3 cv.length c3, .slice (some ⟨Y3.heap.size, 0, none⟩) 32 32] 24)) ∧ Row (Y4.alloc (.cells #[.slice A3 cv.length c3, .slice (some ⟨Y3.heap.size, 0, none⟩) 32 32] 24)) Y4.heap.size 24 [.slice A3 cv.length c3, .slice (some ⟨Y3.heap.size, 0, none⟩) 32 32]) := ⟨Below.alloc (Below.refl _ _) (Nat.le_refl _) _, Row.new_ rfl rfl⟩
  generalize hY5 : Y4.alloc (.cells #[.slice A3 cv.length c3, .slice (some ⟨Y3.heap.size, 0, none⟩) 32 32] 24) = Y5 at bP
  have hP : Shh (PartsO Y5 Y5.heap.size Y5.heap.size (.slice (some ⟨Y4.heap.size, 0, none⟩) 2 2) [cv, tg] ∧ Below N w Y5 ∧ N ≤ Y5.heap.size) := by
    have hb := Below.chain b4 bP.out.1
    have h1 := H3.out.1.go hb
    have h2 := (hr4.sl htg (by omega)).go bP.out.1
    exact ⟨PartsO.two bP.out.2.lt (Nat.ne_of_lt bP.out.2.lt) bP.out.2 h1 (h1.off (Nat.le_refl _)) h2 (h2.off (Nat.le_refl _)), H3.out.2.1.trans (hb.mono H3.out.2.2), by have := H3.out.2.2; have := hb.size; omega⟩
  rw [← hY5] at hP
  clear hr4 bt hs4 b4 bP hY5 H3
  go_wp2_with (go_at_call 48; refine (join_any _ _ _ [cv, tg] _ hP.out.1 (Nat.le_refl _) (by simp; omega) (by simp)).mono ?_)
  rintro e Y6 ⟨v6, rfl, g6⟩
  have F : Shh (Gives w (shutB key nonce ad text) v6 Y6) := ⟨by
    have e : [cv, tg].flatten = shutB key nonce ad text := by
      unfold shutB
      rw [← HCV.out, ← HTG.out]
      simp
    rw [e] at g6
    unfold Gives
    rw [hN]
    exact ⟨own_base g6.1 hP.out.2.2, hP.out.2.1.trans (g6.2.mono hP.out.2.2)⟩⟩
  clear g6 hP
  go_wp2
  go_ret
  exact ⟨_, rfl, F.out⟩
end Go.Proofs.YtaalmjcpaiihhaaDoor
