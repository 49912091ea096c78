/-
  THE WALK of the package's function that opens.
-/
import Derived.Test.YtaalmjcpaiihhaaDoorSeal
namespace Go.Proofs.YtaalmjcpaiihhaaDoor
open Go.RowKit
set_option maxRecDepth 100000

theorem run_from (A : Option Addr) (n c i : Nat) (j : Int) (hj : j = (i : Int)) (hi : i ≤ n) (w : World) : (Instr.sliceAt 24 (.slice A n c) (some (.int .i64 j)) none none).run Tryd.prog w = .ok (sliced A i n c 1) w := by
  subst hj
  rw [run_sliceAt_slice _ _ _ _ _ _ slice30, run_slice_l w 24 A n c slice30 .i64 (i : Int) (by omega) (by omega), elem30, run_sizeOf_u8, Result.andThen_ok, Int.toNat_natCast]

/-- what opens, and the error's number -/
def openE (key nonce ad sd : List UInt8) : Int := if sd.length < 32 then 8 else if sd.drop (sd.length - 32) == tagB (macK key) nonce ad (sd.take (sd.length - 32)) then 0 else 40
def openV (key nonce ad sd : List UInt8) : List UInt8 := if sd.length < 32 then [] else if sd.drop (sd.length - 32) == tagB (macK key) nonce ad (sd.take (sd.length - 32)) then covB (encK key) nonce (sd.take (sd.length - 32)) else []

set_option maxHeartbeats 2000000 in
theorem open_any (B : Nat) (va vt : Value) (key nonce ad sd : List UInt8) (w : World) (ha : Sl w B va ad) (ht : Sl w B vt sd) (hB : B ≤ w.heap.size) (hv : Vars w) (hkl : key.length = 32) (hnl : nonce.length = 12) (hal : ad.length ≤ 400000) (htl : sd.length ≤ 400000) :
    Calls Tryd.prog 26 #[.agg (Lib.byteCells key).toArray, .agg (Lib.byteCells nonce).toArray, va, vt] w (PutIs w (openE key nonce ad sd) (openV key nonce ad sd)) := by
  unfold PutIs
  obtain ⟨Aa, ca, rfl, _, _⟩ := ha.form
  obtain ⟨At, ct, rfl, hct1, hct2⟩ := ht.form
  generalize hN : w.heap.size = N at *
  obtain ⟨W1, hW1⟩ : ∃ W1, W1 = (w.alloc (.cells (Lib.byteCells key).toArray 22)).alloc (.cells (Lib.byteCells nonce).toArray 23) := ⟨_, rfl⟩
  have hb1 : Below N w W1 := by rw [hW1]; exact ((Below.refl N w).alloc (by omega) _).alloc (by rw [asz]; omega) _
  have hzW : W1.heap.size = N + 2 := by rw [hW1, asz, asz, hN]
  have HC : Shh (Sl W1 W1.heap.size (.slice Aa ad.length ca) ad ∧ Sl W1 W1.heap.size (.slice At sd.length ct) sd ∧ Row W1 N 22 (Lib.byteCells key) ∧ Row W1 (N + 1) 23 (Lib.byteCells nonce) ∧ Vars W1 ∧ Below N w W1 ∧ W1.heap.size = N + 2) :=
    ⟨(ha.below (hb1.mono hB)).more (by omega), (ht.below (hb1.mono hB)).more (by omega), by rw [hW1]; exact (Row.new_ hN.symm rfl).alloc _, by rw [hW1]; exact Row.new_ (by rw [asz, hN]) rfl, hv.step (by rw [hN]; exact hb1), hb1, hzW⟩
  clear ha ht hv hb1 hzW
  rw [hW1] at HC
  clear hW1
  by_cases hs : sd.length < 32
  · have HE : Shh (openE key nonce ad sd = 8 ∧ openV key nonce ad sd = []) := ⟨by unfold openE; rw [if_pos hs], by unfold openV; rw [if_pos hs]⟩
    rw [HE.out.1, HE.out.2]
    have hs2 : (sd.length : Int) - 32 < 0 := by omega
    go_enter Tryd.func26, Tryd.ntmps26
    go_wp2
    go_ret2
    exact ⟨_, rfl, put_nil _ _ (by rw [hN]; exact HC.out.2.2.2.2.2.1)⟩
  · have hs2 : ¬ (sd.length : Int) - 32 < 0 := by omega
    obtain ⟨tx, htx⟩ : ∃ tx, tx = sd.take (sd.length - 32) := ⟨_, rfl⟩
    have htxl : tx.length ≤ 400000 := by rw [htx, List.length_take]; omega
    have HTX : Shh (sd.take (sd.length - 32) = tx) := ⟨htx.symm⟩
    have HE : Shh (openE key nonce ad sd = (if sd.drop (sd.length - 32) == tagB (macK key) nonce ad tx then 0 else 40) ∧ openV key nonce ad sd = if sd.drop (sd.length - 32) == tagB (macK key) nonce ad tx then covB (encK key) nonce tx else []) :=
      ⟨by unfold openE; rw [if_neg hs, htx], by unfold openV; rw [if_neg hs, htx]⟩
    clear htx
    go_enter Tryd.func26, Tryd.ntmps26
    go_wp2_with (first | refine wpList_load_any rfl 22 (.tmp 4) rfl N rfl 22 (Lib.byteCells key) (.array 32 5) HC.out.2.2.1 Tryd.underlying22 rfl (info_b32.trans (size_bytes _ _ hkl)) ?_ | (go_at_call 16; refine (keys_any key hkl _ HC.out.2.2.2.2.1).mono ?_))
    rintro e Y1 ⟨v1, v2, rfl, k1, k2, b1⟩
    obtain ⟨A1, c1, rfl, _, _⟩ := k1.form
    obtain ⟨A2, c2, rfl, _, _⟩ := k2.form
    have H1 : Shh (Sl Y1 Y1.heap.size (.slice A1 (expB key encI 32).length c1) (encK key) ∧ Sl Y1 Y1.heap.size (.slice A2 (expB key macI 32).length c2) (macK key) ∧ Sl Y1 Y1.heap.size (.slice Aa ad.length ca) ad ∧ Sl Y1 Y1.heap.size (.slice At sd.length ct) sd ∧ Row Y1 (N + 1) 23 (Lib.byteCells nonce) ∧ Vars Y1 ∧ Below N w Y1) :=
      ⟨k1, k2, HC.out.1.go b1, HC.out.2.1.go b1, HC.out.2.2.2.1.go b1, HC.out.2.2.2.2.1.go b1, HC.out.2.2.2.2.2.1.trans (b1.mono (by have := HC.out.2.2.2.2.2.2; omega))⟩
    clear k1 k2 b1 HC
    go_wp2_with (refine wpList_slice_to rfl (.tmp 25) (.tmp 26) rfl Y1.heap.size (.slice At sd.length ct) rfl sd H1.out.2.2.2.1 (sd.length - 32) (q_i64 (by omega)) (by omega) ?_)
    intro vx hvx _
    rw [HTX.out] at hvx
    obtain ⟨Ax, cx, rfl, _, _⟩ := hvx.form
    have H2 : Shh (Sl Y1 Y1.heap.size (.slice Ax tx.length cx) tx) := ⟨hvx⟩
    clear hvx
    go_wp2_with (first | refine wpList_load_any rfl 23 (.tmp 5) rfl (N + 1) rfl 23 (Lib.byteCells nonce) (.array 12 5) H1.out.2.2.2.2.1 Tryd.underlying23 rfl (info_b12.trans (size_bytes _ _ hnl)) ?_ | (go_at_call 20; refine (tag_any Y1.heap.size _ _ _ (macK key) nonce ad tx Y1 H1.out.2.1 H1.out.2.2.1 H2.out (Nat.le_refl _) H1.out.2.2.2.2.2.1 hnl (by rw [macK_length]; omega) hal htxl).mono ?_))
    rintro e Y3 ⟨rfl, b3⟩
    have htg := tagB_length (macK key) nonce ad tx
    obtain ⟨tg, htg2⟩ : ∃ tg, tg = tagB (macK key) nonce ad tx := ⟨_, rfl⟩
    rw [← htg2] at htg HE ⊢
    clear htg2
    have htg3 : tg.length ≤ 32 := by omega
    have HTL : Shh (tg.length = 32) := ⟨htg⟩
    have H3 : Shh (Sl Y3 Y3.heap.size (.slice A1 (expB key encI 32).length c1) (encK key) ∧ Sl Y3 Y3.heap.size (.slice At sd.length ct) sd ∧ Row Y3 (N + 1) 23 (Lib.byteCells nonce) ∧ Vars Y3 ∧ Below N w Y3 ∧ Sl Y3 Y3.heap.size (.slice Ax tx.length cx) tx ∧ N ≤ Y3.heap.size) :=
      ⟨H1.out.1.go b3, H1.out.2.2.2.1.go b3, H1.out.2.2.2.2.1.go b3, H1.out.2.2.2.2.2.1.go b3, H1.out.2.2.2.2.2.2.trans (b3.mono (by have := H1.out.2.2.2.2.2.2.size; omega)), H2.out.go b3, by have := H1.out.2.2.2.2.2.2.size; have := b3.size; omega⟩
    clear H1 H2 b3
    go_wp2_with (refine wpList_store_any rfl 22 (.tmp 14) (.tmp 32) rfl Y3.heap.size rfl (Lib.byteCells tg) rfl 22 (Lib.byteCells (List.replicate 32 0)) (Row.new_ rfl zero32b) (info_b32.trans (size_bytes _ _ htg)) (by rw [Lib.byteCells_length, Lib.byteCells_length, htg]; rfl) (cell_oneCell _) ?_)
    intro Y4 hr4 bt hs4
    try simp only [asz] at bt hs4
    have b4 : Below Y3.heap.size Y3 Y4 := (Below.alloc (Below.refl _ _) (Nat.le_refl _) _).trans (bt.under (Nat.le_succ _) (Nat.le_refl _))
    have H4 : Shh (Sl Y4 Y4.heap.size (.slice A1 (expB key encI 32).length c1) (encK key) ∧ Sl Y4 Y4.heap.size (.slice At sd.length ct) sd ∧ Row Y4 (N + 1) 23 (Lib.byteCells nonce) ∧ Vars Y4 ∧ Below N w Y4 ∧ Sl Y4 Y4.heap.size (.slice Ax tx.length cx) tx ∧ N ≤ Y4.heap.size ∧ Row Y4 Y3.heap.size 22 (Lib.byteCells tg)) :=
      ⟨H3.out.1.go b4, H3.out.2.1.go b4, H3.out.2.2.1.go b4, H3.out.2.2.2.1.go b4, H3.out.2.2.2.2.1.trans (b4.mono H3.out.2.2.2.2.2.2), H3.out.2.2.2.2.2.1.go b4, by have := H3.out.2.2.2.2.2.2; have := b4.size; omega, hr4⟩
    clear H3 hr4 bt hs4 b4 htg
    generalize Y3.heap.size = n14 at *
    go_wp2
    refine wp_region_held_drew (S := fun _ => True) (by kernel_rfl) trivial (fun hS => ?_)
    have HD : Shh (Sl Y4.drew Y4.drew.heap.size (.slice A1 (expB key encI 32).length c1) (encK key) ∧ Sl Y4.drew Y4.drew.heap.size (.slice At sd.length ct) sd ∧ Row Y4.drew (N + 1) 23 (Lib.byteCells nonce) ∧ Vars Y4.drew ∧ Below N w Y4.drew ∧ Sl Y4.drew Y4.drew.heap.size (.slice Ax tx.length cx) tx ∧ N ≤ Y4.drew.heap.size ∧ Row Y4.drew n14 22 (Lib.byteCells tg)) :=
      ⟨H4.out.1, H4.out.2.1, H4.out.2.2.1, H4.out.2.2.2.1, H4.out.2.2.2.2.1.drew, H4.out.2.2.2.2.2.1, H4.out.2.2.2.2.2.2.1, H4.out.2.2.2.2.2.2.2⟩
    clear H4
    generalize Y4.drew = W at HD ⊢
    have HT : Sl W W.heap.size (sliced At (sd.length - 32) sd.length ct 1) (sd.drop (sd.length - 32)) := by
      have h := HD.out.2.1.cut (sd.length - 32) sd.length (by omega) (Nat.le_refl _) (by omega)
      rw [List.take_length] at h
      exact h
    have hrv := fun w => run_from At sd.length ct (sd.length - 32) ((sd.length : Int) - 32) (by omega) (by omega) w
    obtain ⟨vd, hvd⟩ : ∃ vd, vd = sliced At (sd.length - 32) sd.length ct 1 := ⟨_, rfl⟩
    rw [← hvd] at HT
    simp only [← hvd] at hrv
    clear hvd
    have HTG := HD.out.2.2.2.2.2.2.2.sl HTL.out (by omega)
    refine held_value 0 _ _ (some 33) (.slice At sd.length ct) (by kernel_rfl) (by rfl) (by kernel_rfl) (fun w hS => by first | kernel_rfl | go_simp) (fun _ _ _ _ h => h) (trivial) ?_
    simp only [Act.put, List.setIfInBounds_toArray, List.set_cons_zero, List.set_cons_succ]
    refine held_value 1 _ _ (some 34) (.int .i64 ((sd.length : Int) - 32)) (by kernel_rfl) (by rfl) (by kernel_rfl) (fun w hS => by first | kernel_rfl | go_simp) (fun _ _ _ _ h => h) (trivial) ?_
    simp only [Act.put, List.setIfInBounds_toArray, List.set_cons_zero, List.set_cons_succ]
    refine held_value 2 _ _ (some 35) (vd) (by kernel_rfl) (by rfl) (by kernel_rfl) (fun w hS => run_slice_op_lo ⟨rfl, rfl⟩ (hrv w)) (fun _ _ _ _ h => h) (trivial) ?_
    simp only [Act.put, List.setIfInBounds_toArray, List.set_cons_zero, List.set_cons_succ]
    refine held_value 3 _ _ (some 36) (.slice (some ⟨n14, 0, none⟩) 32 32) (by kernel_rfl) (by rfl) (by kernel_rfl) (fun w hS => by first | kernel_rfl | go_simp) (fun _ _ _ _ h => h) (trivial) ?_
    simp only [Act.put, List.setIfInBounds_toArray, List.set_cons_zero, List.set_cons_succ]
    refine held_one 4 (by kernel_rfl) ?_
    refine step_call 4 _ _ (some 37) 49 #[vd, .slice (some ⟨n14, 0, none⟩) 32 32] (by rfl) (by kernel_rfl) (by first | kernel_rfl | go_simp) ?_
    refine (same_any W.heap.size W.heap.size _ _ (sd.drop (sd.length - 32)) tg W HT HTG (by rw [List.length_drop]; omega) (by omega)).mono ?_
    rintro e Y1 ⟨rfl, hq⟩
    obtain rfl : W = Y1 := hq
    refine ⟨_, rfl, trivial, ?_⟩
    simp only [Act.put, List.setIfInBounds_toArray, List.set_cons_zero, List.set_cons_succ]
    refine held_value 5 _ _ (some 38) (.bool (!(sd.drop (sd.length - 32) == tg))) (by kernel_rfl) (by rfl) (by kernel_rfl) (fun w hS => by first | kernel_rfl | go_simp) (fun _ _ _ _ h => h) (trivial) ?_
    simp only [Act.put, List.setIfInBounds_toArray, List.set_cons_zero, List.set_cons_succ]
    refine wpAnyH_done (by kernel_rfl) ?_ _
    clear HT HTG hS hrv
    cases hbq : (sd.drop (sd.length - 32) == tg) with
    | false =>
      have HEf : Shh (openE key nonce ad sd = 40 ∧ openV key nonce ad sd = []) := ⟨by rw [HE.out.1, hbq]; rfl, by rw [HE.out.2, hbq]; rfl⟩
      clear hbq HE
      go_wp2
      go_ret2
      rw [HEf.out.1, HEf.out.2]
      exact ⟨_, rfl, put_nil _ _ (by rw [hN]; exact HD.out.2.2.2.2.1)⟩
    | true =>
      have HEf : Shh (openE key nonce ad sd = 0 ∧ openV key nonce ad sd = covB (encK key) nonce tx) := ⟨by rw [HE.out.1, hbq]; rfl, by rw [HE.out.2, hbq]; rfl⟩
      clear hbq HE
      go_wp2_with (first | refine wpList_load_any rfl 23 (.tmp 5) rfl (N + 1) rfl 23 (Lib.byteCells nonce) (.array 12 5) HD.out.2.2.1 Tryd.underlying23 rfl (info_b12.trans (size_bytes _ _ hnl)) ?_ | (go_at_call 42; refine (covered_any W.heap.size _ _ (encK key) nonce tx W HD.out.1 HD.out.2.2.2.2.2.1 (Nat.le_refl _) HD.out.2.2.2.1 hnl (by rw [encK_length]; omega) (by omega)).mono ?_))
      rintro e Y9 ⟨v9, rfl, g9⟩
      have F : Shh (Gives w (covB (encK key) nonce tx) v9 Y9) := ⟨by
        unfold Gives
        rw [hN]
        exact ⟨own_base g9.1 HD.out.2.2.2.2.2.2.1, HD.out.2.2.2.2.1.trans (g9.2.mono HD.out.2.2.2.2.2.2.1)⟩⟩
      clear g9 HD
      go_wp2
      go_ret2
      rw [HEf.out.1, HEf.out.2]
      exact ⟨_, rfl, F.out⟩
end Go.Proofs.YtaalmjcpaiihhaaDoor
