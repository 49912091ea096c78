/-
  THE WALK of the document's own opening.
-/
import Derived.Test.YtaalmjcpaiihhaaDoorRefSeal
import Derived.Test.YtaalmjcpaiihhaaDoorUnseal
namespace Go.Proofs.YtaalmjcpaiihhaaDoor
open Go.RowKit
set_option maxRecDepth 100000

set_option maxHeartbeats 2000000 in
theorem refOpen_any (B : Nat) (vk vn va vt : Value) (key nonce ad sd : List UInt8) (w : World) (hk : Sl w B vk key) (hn : Sl w B vn nonce) (ha : Sl w B va ad) (ht : Sl w B vt sd) (hB : B ≤ w.heap.size) (hkl : key.length ≤ 32) (hnl : nonce.length ≤ 100) (hal : ad.length ≤ 400000) (htl : sd.length ≤ 400000) :
    Calls Tryd.prog 27 #[vk, vn, va, vt] w (PutSl w (openE key nonce ad sd) (openV key nonce ad sd)) := by
  unfold PutSl
  obtain ⟨Ak, ck, rfl, _, _⟩ := hk.form
  obtain ⟨An, cn, rfl, _, _⟩ := hn.form
  obtain ⟨Aa, ca, rfl, _, _⟩ := ha.form
  obtain ⟨At, ct, rfl, hct1, _⟩ := ht.form
  have H0 : Shh (Sl w w.heap.size (.slice Ak key.length ck) key ∧ Sl w w.heap.size (.slice An nonce.length cn) nonce ∧ Sl w w.heap.size (.slice Aa ad.length ca) ad ∧ Sl w w.heap.size (.slice At sd.length ct) sd) :=
    ⟨hk.more hB, hn.more hB, ha.more hB, ht.more hB⟩
  clear hk hn ha ht hB
  by_cases hs : sd.length < 32
  · have HE : Shh (openE key nonce ad sd = 8 ∧ openV key nonce ad sd = []) := ⟨by unfold openE; rw [if_pos hs], by unfold openV; rw [if_pos hs]⟩
    rw [HE.out.1, HE.out.2]
    have hs2 : (sd.length : Int) < 32 := by omega
    go_enter Tryd.func27, Tryd.ntmps27
    go_wp2
    go_ret2
    exact ⟨_, rfl, Sl.nil_, Below.refl _ _⟩
  · have hs2 : ¬ (sd.length : Int) < 32 := by omega
    obtain ⟨tx, htx⟩ : ∃ tx, tx = sd.take (sd.length - 32) := ⟨_, rfl⟩
    have htx0 : tx.length = sd.length - 32 := by rw [htx, List.length_take]; omega
    have htxl : tx.length ≤ 400000 := by omega
    have HTX : Shh (sd.take (sd.length - 32) = tx ∧ tx.length = sd.length - 32) := ⟨htx.symm, htx0⟩
    have HE : Shh (openE key nonce ad sd = (if sd.drop tx.length == tagB (macK key) nonce ad tx then 0 else 40) ∧ openV key nonce ad sd = if sd.drop tx.length == tagB (macK key) nonce ad tx then covB (encK key) nonce tx else []) :=
      ⟨by unfold openE; rw [if_neg hs, htx0, htx], by unfold openV; rw [if_neg hs, htx0, htx]⟩
    have hdl : tx.length ≤ sd.length := by omega
    clear htx htx0
    go_enter Tryd.func27, Tryd.ntmps27
    go_wp2_with (go_at_call 17; refine (refKeys_any w.heap.size _ key w H0.out.1 (Nat.le_refl _) hkl).mono ?_)
    rintro e Y1 ⟨v1, v2, rfl, k1, k2, b1⟩
    obtain ⟨A1, c1, rfl, _, _⟩ := k1.form
    obtain ⟨A2, c2, rfl, _, _⟩ := k2.form
    have H1 : Shh (Sl Y1 Y1.heap.size (.slice A1 (expB key encI 32).length c1) (encK key) ∧ Sl Y1 Y1.heap.size (.slice A2 (expB key macI 32).length c2) (macK key) ∧ Sl Y1 Y1.heap.size (.slice An nonce.length cn) nonce ∧ Sl Y1 Y1.heap.size (.slice Aa ad.length ca) ad ∧ Sl Y1 Y1.heap.size (.slice At sd.length ct) sd ∧ Below w.heap.size w Y1) :=
      ⟨k1, k2, H0.out.2.1.go b1, H0.out.2.2.1.go b1, H0.out.2.2.2.go b1, b1⟩
    clear k1 k2 b1 H0
    go_wp2_with (refine wpList_slice_to rfl (.tmp 21) (.tmp 24) rfl Y1.heap.size (.slice At sd.length ct) rfl sd H1.out.2.2.2.2.1 (sd.length - 32) (q_i64 (by omega)) (by omega) ?_)
    intro vx hvx _
    rw [HTX.out.1] at hvx
    obtain ⟨Ax, cx, rfl, _, _⟩ := hvx.form
    have HD : Shh (Sl Y1.drew Y1.drew.heap.size (.slice A1 (expB key encI 32).length c1) (encK key) ∧ Sl Y1.drew Y1.drew.heap.size (.slice A2 (expB key macI 32).length c2) (macK key) ∧ Sl Y1.drew Y1.drew.heap.size (.slice An nonce.length cn) nonce ∧ Sl Y1.drew Y1.drew.heap.size (.slice Aa ad.length ca) ad ∧ Sl Y1.drew Y1.drew.heap.size (.slice At sd.length ct) sd ∧ Sl Y1.drew Y1.drew.heap.size (.slice Ax tx.length cx) tx ∧ Below w.heap.size w Y1.drew) :=
      ⟨H1.out.1, H1.out.2.1, H1.out.2.2.1, H1.out.2.2.2.1, H1.out.2.2.2.2.1, hvx, H1.out.2.2.2.2.2.drew⟩
    clear hvx H1
    go_wp2
    refine wp_region_held_drew (S := fun _ => True) (by kernel_rfl) trivial (fun hS => ?_)
    generalize Y1.drew = W at HD ⊢
    have HT : Sl W W.heap.size (sliced At tx.length sd.length ct 1) (sd.drop tx.length) := by
      have h := HD.out.2.2.2.2.1.cut tx.length sd.length (by omega) (Nat.le_refl _) (by omega)
      rw [List.take_length] at h
      exact h
    have hrv := fun w => run_from At sd.length ct tx.length (tx.length : Int) rfl (by omega) w
    obtain ⟨vd, hvd⟩ : ∃ vd, vd = sliced At tx.length sd.length ct 1 := ⟨_, rfl⟩
    rw [← hvd] at HT
    simp only [← hvd] at hrv
    clear hvd
    have HM := HD.out.2.1
    have HNO := HD.out.2.2.1
    have HAD := HD.out.2.2.2.1
    have HX := HD.out.2.2.2.2.2.1
    refine held_value 0 _ _ (some 26) (.slice A2 (expB key macI 32).length c2) (by kernel_rfl) (by rfl) (by kernel_rfl) (fun w hS => by first | kernel_rfl | go_simp) (fun _ _ _ _ h => h) (trivial) ?_
    simp only [Act.put, List.setIfInBounds_toArray, List.set_cons_zero, List.set_cons_succ]
    refine held_value 1 _ _ (some 27) (.slice An nonce.length cn) (by kernel_rfl) (by rfl) (by kernel_rfl) (fun w hS => by first | kernel_rfl | go_simp) (fun _ _ _ _ h => h) (trivial) ?_
    simp only [Act.put, List.setIfInBounds_toArray, List.set_cons_zero, List.set_cons_succ]
    refine held_value 2 _ _ (some 28) (.slice Aa ad.length ca) (by kernel_rfl) (by rfl) (by kernel_rfl) (fun w hS => by first | kernel_rfl | go_simp) (fun _ _ _ _ h => h) (trivial) ?_
    simp only [Act.put, List.setIfInBounds_toArray, List.set_cons_zero, List.set_cons_succ]
    refine held_value 3 _ _ (some 29) (.slice Ax tx.length cx) (by kernel_rfl) (by rfl) (by kernel_rfl) (fun w hS => by first | kernel_rfl | go_simp) (fun _ _ _ _ h => h) (trivial) ?_
    simp only [Act.put, List.setIfInBounds_toArray, List.set_cons_zero, List.set_cons_succ]
    refine held_value 5 _ _ (some 31) (.slice At sd.length ct) (by kernel_rfl) (by rfl) (by kernel_rfl) (fun w hS => by first | kernel_rfl | go_simp) (fun _ _ _ _ h => h) (trivial) ?_
    simp only [Act.put, List.setIfInBounds_toArray, List.set_cons_zero, List.set_cons_succ]
    refine held_value 6 _ _ (some 32) (.slice Ax tx.length cx) (by kernel_rfl) (by rfl) (by kernel_rfl) (fun w hS => by first | kernel_rfl | go_simp) (fun _ _ _ _ h => h) (trivial) ?_
    simp only [Act.put, List.setIfInBounds_toArray, List.set_cons_zero, List.set_cons_succ]
    refine held_value 7 _ _ (some 33) (.int .i64 (tx.length : Int)) (by kernel_rfl) (by rfl) (by kernel_rfl) (fun w hS => by first | kernel_rfl | go_simp) (fun _ _ _ _ h => h) (trivial) ?_
    simp only [Act.put, List.setIfInBounds_toArray, List.set_cons_zero, List.set_cons_succ]
    refine held_value 8 _ _ (some 34) (vd) (by kernel_rfl) (by rfl) (by kernel_rfl) (fun w hS => run_slice_op_lo ⟨rfl, rfl⟩ (hrv w)) (fun _ _ _ _ h => h) (trivial) ?_
    simp only [Act.put, List.setIfInBounds_toArray, List.set_cons_zero, List.set_cons_succ]
    refine held_one 4 (by kernel_rfl) ?_
    refine step_call 4 _ _ (some 30) 22 #[.slice A2 (expB key macI 32).length c2, .slice An nonce.length cn, .slice Aa ad.length ca, .slice Ax tx.length cx] (by rfl) (by kernel_rfl) (by first | kernel_rfl | go_simp) ?_
    refine (refTag_any W.heap.size _ _ _ _ (macK key) nonce ad tx W HM HNO HAD HX (Nat.le_refl _) (by rw [macK_length]; omega) hnl hal htxl).mono ?_
    rintro e Y1 ⟨v30, rfl, s30, g30⟩
    have bx : Below W.heap.size W Y1 := g30
    have b_W := bx
    have m_Y1 : W.heap.size ≤ Y1.heap.size := bx.size
    clear bx
    refine ⟨_, rfl, trivial, ?_⟩
    simp only [Act.put, List.setIfInBounds_toArray, List.set_cons_zero, List.set_cons_succ]
    refine held_one 9 (by kernel_rfl) ?_
    refine step_call 9 _ _ (some 35) 21 #[v30, vd] (by rfl) (by kernel_rfl) (by first | kernel_rfl | go_simp) ?_
    refine (refEqual_any Y1.heap.size Y1.heap.size _ _ (tagB (macK key) nonce ad tx) (sd.drop tx.length) Y1 s30 (HT.go b_W)).mono ?_
    rintro e Y2 ⟨rfl, hq⟩
    obtain rfl : Y1 = Y2 := hq
    refine ⟨_, rfl, trivial, ?_⟩
    simp only [Act.put, List.setIfInBounds_toArray, List.set_cons_zero, List.set_cons_succ]
    refine held_value 10 _ _ (some 36) (.bool (!(tagB (macK key) nonce ad tx == sd.drop tx.length))) (by kernel_rfl) (by rfl) (by kernel_rfl) (fun w hS => by first | kernel_rfl | go_simp) (fun _ _ _ _ h => h) (trivial) ?_
    simp only [Act.put, List.setIfInBounds_toArray, List.set_cons_zero, List.set_cons_succ]
    refine wpAnyH_done (by kernel_rfl) ?_ _
    have HD2 : Shh (Sl Y1 Y1.heap.size (.slice A1 (expB key encI 32).length c1) (encK key) ∧ Sl Y1 Y1.heap.size (.slice An nonce.length cn) nonce ∧ Sl Y1 Y1.heap.size (.slice Ax tx.length cx) tx ∧ Below w.heap.size w Y1) := ⟨HD.out.1.go b_W, (HNO.go b_W), (HX.go b_W), Below.chain HD.out.2.2.2.2.2.2 b_W⟩
    clear m_Y1 b_W g30 s30
    clear HT HM HNO HAD HX hS hrv HD
    cases hbq : (tagB (macK key) nonce ad tx == sd.drop tx.length) with
    | false =>
      have hbq2 : (sd.drop tx.length == tagB (macK key) nonce ad tx) = false := by rw [beq_eq_false_iff_ne] at hbq ⊢; exact fun h => hbq h.symm
      have HEf : Shh (openE key nonce ad sd = 40 ∧ openV key nonce ad sd = []) := ⟨by rw [HE.out.1, hbq2]; rfl, by rw [HE.out.2, hbq2]; rfl⟩
      clear hbq hbq2 HE
      go_wp2
      go_ret2
      rw [HEf.out.1, HEf.out.2]
      exact ⟨_, rfl, Sl.nil_, HD2.out.2.2.2⟩
    | true =>
      have hbq2 : (sd.drop tx.length == tagB (macK key) nonce ad tx) = true := by rw [beq_iff_eq] at hbq ⊢; exact hbq.symm
      have HEf : Shh (openE key nonce ad sd = 0 ∧ openV key nonce ad sd = covB (encK key) nonce tx) := ⟨by rw [HE.out.1, hbq2]; rfl, by rw [HE.out.2, hbq2]; rfl⟩
      clear hbq hbq2 HE
      go_wp2_with (go_at_call 43; refine (refStream_any Y1.heap.size _ _ (encK key) nonce tx.length Y1 HD2.out.1 HD2.out.2.1 (Nat.le_refl _) (by rw [encK_length]; omega) hnl (by omega)).mono ?_)
      rintro e Y2 ⟨v3, rfl, k3, b3⟩
      have HST : Shh (List.zipWith (· ^^^ ·) tx (strB (encK key) nonce tx.length) = covB (encK key) nonce tx ∧ tx.length = (strB (encK key) nonce tx.length).length ∧ Sl Y2 Y2.heap.size v3 (strB (encK key) nonce tx.length) ∧ Sl Y2 Y2.heap.size (.slice Ax tx.length cx) tx ∧ Below w.heap.size w Y2) :=
        ⟨rfl, (strB_length _ _ _).symm, k3, HD2.out.2.2.1.go b3, Below.chain HD2.out.2.2.2 b3⟩
      clear k3 b3 HD2
      go_wp2_with (go_at_call 28; refine (refXor_any Y2.heap.size Y2.heap.size _ _ tx (strB (encK key) nonce tx.length) Y2 HST.out.2.2.2.1 HST.out.2.2.1 (Nat.le_refl _) (Nat.le_refl _) (by omega) HST.out.2.1).mono ?_)
      rintro e Y3 ⟨v4, rfl, g4⟩
      rw [HST.out.1] at g4
      have F : Shh (Sl Y3 Y3.heap.size v4 (covB (encK key) nonce tx) ∧ Below w.heap.size w Y3) := ⟨gives_sl g4, Below.chain HST.out.2.2.2.2 g4.2⟩
      clear g4 HST
      go_wp2
      go_ret2
      rw [HEf.out.1, HEf.out.2]
      exact ⟨_, rfl, F.out⟩
end Go.Proofs.YtaalmjcpaiihhaaDoor
