/-
  THE WALK of the document's own covering and tagging.
-/
import Derived.Test.YtaalmjcpaiihhaaDoorSeal
import Derived.Test.YtaalmjcpaiihhaaDoorRefStream
namespace Go.Proofs.YtaalmjcpaiihhaaDoor
open Go.RowKit
set_option maxRecDepth 100000

set_option maxHeartbeats 2000000 in
theorem refShut_any (B : Nat) (vk vn va vt : Value) (key nonce ad text : List UInt8) (w : World) (hk : Sl w B vk key) (hn : Sl w B vn nonce) (ha : Sl w B va ad) (ht : Sl w B vt text) (hB : B ≤ w.heap.size) (hkl : key.length ≤ 32) (hnl : nonce.length ≤ 100) (hal : ad.length ≤ 400000) (htl : text.length ≤ 400000) :
    Calls Tryd.prog 25 #[vk, vn, va, vt] w (SlIs w (shutB key nonce ad text)) := by
  unfold SlIs
  obtain ⟨Ak, ck, rfl, _, _⟩ := hk.form
  obtain ⟨An, cn, rfl, _, _⟩ := hn.form
  obtain ⟨Aa, ca, rfl, _, _⟩ := ha.form
  obtain ⟨At, ct, rfl, _, _⟩ := ht.form
  have H0 : Shh (Sl w w.heap.size (.slice Ak key.length ck) key ∧ Sl w w.heap.size (.slice An nonce.length cn) nonce ∧ Sl w w.heap.size (.slice Aa ad.length ca) ad ∧ Sl w w.heap.size (.slice At text.length ct) text) :=
    ⟨hk.more hB, hn.more hB, ha.more hB, ht.more hB⟩
  clear hk hn ha ht hB
  go_enter Tryd.func25, Tryd.ntmps25
  go_wp2_with (go_at_call 17; refine (refKeys_any w.heap.size _ key w H0.out.1 (Nat.le_refl _) hkl).mono ?_)
  rintro e Y1 ⟨v1, v2, rfl, k1, k2, b1⟩
  obtain ⟨A1, c1, rfl, _, _⟩ := k1.form
  obtain ⟨A2, c2, rfl, _, _⟩ := k2.form
  have H1 : Shh (Sl Y1 Y1.heap.size (.slice A1 (expB key encI 32).length c1) (encK key) ∧ Sl Y1 Y1.heap.size (.slice A2 (expB key macI 32).length c2) (macK key) ∧ Sl Y1 Y1.heap.size (.slice An nonce.length cn) nonce ∧ Sl Y1 Y1.heap.size (.slice Aa ad.length ca) ad ∧ Sl Y1 Y1.heap.size (.slice At text.length ct) text ∧ Below w.heap.size w Y1) :=
    ⟨k1, k2, H0.out.2.1.go b1, H0.out.2.2.1.go b1, H0.out.2.2.2.go b1, b1⟩
  clear k1 k2 b1 H0
  go_wp2_with (go_at_call 43; refine (refStream_any Y1.heap.size _ _ (encK key) nonce text.length Y1 H1.out.1 H1.out.2.2.1 (Nat.le_refl _) (by rw [encK_length]; omega) hnl (by omega)).mono ?_)
  rintro e Y2 ⟨v3, rfl, k3, b3⟩
  have hsl := strB_length (encK key) nonce text.length
  obtain ⟨st, hst⟩ : ∃ st, st = strB (encK key) nonce text.length := ⟨_, rfl⟩
  rw [← hst] at k3 hsl
  have HST : Shh (List.zipWith (· ^^^ ·) text st = covB (encK key) nonce text ∧ st.length = text.length) := ⟨by rw [hst]; rfl, hsl⟩
  have H2 : Shh (Sl Y2 Y2.heap.size v3 st ∧ Sl Y2 Y2.heap.size (.slice A2 (expB key macI 32).length c2) (macK key) ∧ Sl Y2 Y2.heap.size (.slice An nonce.length cn) nonce ∧ Sl Y2 Y2.heap.size (.slice Aa ad.length ca) ad ∧ Sl Y2 Y2.heap.size (.slice At text.length ct) text ∧ Below w.heap.size w Y2) :=
    ⟨k3, H1.out.2.1.go b3, H1.out.2.2.1.go b3, H1.out.2.2.2.1.go b3, H1.out.2.2.2.2.1.go b3, Below.chain H1.out.2.2.2.2.2 b3⟩
  clear k3 b3 H1 hsl hst
  go_wp2_with (go_at_call 28; refine (refXor_any Y2.heap.size Y2.heap.size _ _ text st Y2 H2.out.2.2.2.2.1 H2.out.1 (Nat.le_refl _) (Nat.le_refl _) (by omega) HST.out.2.symm).mono ?_)
  rintro e Y3 ⟨v4, rfl, g4⟩
  rw [HST.out.1] at g4
  have k4 := gives_sl g4
  have hcl := covB_length (encK key) nonce text
  obtain ⟨cv, hcv⟩ : ∃ cv, cv = covB (encK key) nonce text := ⟨_, rfl⟩
  rw [← hcv] at k4 hcl
  have HCV : Shh (cv = covB (encK key) nonce text) := ⟨hcv⟩
  clear hcv
  have hcl2 : cv.length ≤ 400000 := by omega
  obtain ⟨A4, c4, rfl, _, _⟩ := k4.form
  have H3 : Shh (Sl Y3 Y3.heap.size (.slice A4 cv.length c4) cv ∧ Sl Y3 Y3.heap.size (.slice A2 (expB key macI 32).length c2) (macK key) ∧ Sl Y3 Y3.heap.size (.slice An nonce.length cn) nonce ∧ Sl Y3 Y3.heap.size (.slice Aa ad.length ca) ad ∧ Below w.heap.size w Y3) :=
    ⟨k4, H2.out.2.1.go g4.2, H2.out.2.2.1.go g4.2, H2.out.2.2.2.1.go g4.2, Below.chain H2.out.2.2.2.2.2 g4.2⟩
  clear k4 g4 H2 hcl HST
  go_wp2_with (go_at_call 22; refine (refTag_any Y3.heap.size _ _ _ _ (macK key) nonce ad cv Y3 H3.out.2.1 H3.out.2.2.1 H3.out.2.2.2.1 H3.out.1 (Nat.le_refl _) (by rw [macK_length]; omega) hnl hal hcl2).mono ?_)
  rintro e Y4 ⟨v5, rfl, k5, b5⟩
  have htg := tagB_length (macK key) nonce ad cv
  obtain ⟨tg, htg2⟩ : ∃ tg, tg = tagB (macK key) nonce ad cv := ⟨_, rfl⟩
  rw [← htg2] at htg k5
  have htg3 : tg.length ≤ 32 := by omega
  have HTG : Shh (tg = tagB (macK key) nonce ad cv) := ⟨htg2⟩
  clear htg2 htg
  obtain ⟨A5, c5, rfl, _, _⟩ := k5.form
  have bP : Shh (Below Y4.heap.size Y4 (Y4.alloc (.cells #[.slice A4 cv.length c4, .slice A5 tg.length c5] 24)) ∧ Row (Y4.alloc (.cells #[.slice A4 cv.length c4, .slice A5 tg.length c5] 24)) Y4.heap.size 24 [.slice A4 cv.length c4, .slice A5 tg.length c5]) := ⟨Below.alloc (Below.refl _ _) (Nat.le_refl _) _, Row.new_ rfl rfl⟩
  generalize hY5 : Y4.alloc (.cells #[.slice A4 cv.length c4, .slice A5 tg.length c5] 24) = Y5 at bP
  have hP : Shh (PartsO Y5 Y5.heap.size Y5.heap.size (.slice (some ⟨Y4.heap.size, 0, none⟩) 2 2) [cv, tg] ∧ Below w.heap.size w Y5) := by
    have hb := Below.chain b5 bP.out.1
    have h1 := H3.out.1.go hb
    have h2 := k5.go bP.out.1
    exact ⟨PartsO.two bP.out.2.lt (Nat.ne_of_lt bP.out.2.lt) bP.out.2 h1 (h1.off (Nat.le_refl _)) h2 (h2.off (Nat.le_refl _)), Below.chain H3.out.2.2.2.2 hb⟩
  rw [← hY5] at hP
  clear k5 b5 bP hY5 H3
  go_wp2_with (go_at_call 23; refine (refJoin_any _ _ _ [cv, tg] _ hP.out.1 (Nat.le_refl _) (by simp; omega) (by simp)).mono ?_)
  rintro e Y6 ⟨v6, rfl, g6⟩
  have F : Shh (Sl Y6 Y6.heap.size v6 (shutB key nonce ad text) ∧ Below w.heap.size w Y6) := ⟨by
    have e : [cv, tg].flatten = shutB key nonce ad text := by
      unfold shutB
      rw [← HCV.out, ← HTG.out]
      simp
    rw [e] at g6
    exact gives_sl g6, Below.chain hP.out.2 g6.2⟩
  clear g6 hP
  go_wp2
  go_ret
  exact ⟨_, rfl, F.out⟩
end Go.Proofs.YtaalmjcpaiihhaaDoor
