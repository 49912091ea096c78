import Derived.Test.YtcbcgegppnojmaaLm3
/-
  WALK: the pieces of 1 bits: the document's.
-/
namespace Go.Proofs.Ytcbcgegppnojmaa
open Go.RowKit
set_option maxRecDepth 100000
set_option maxHeartbeats 4000000 in
theorem refPieces_1 (B : Nat) (v : Value) (bs : List UInt8) (w : World) (hs : Sl w B v bs) (hB : B ≤ w.heap.size) (hl : bs.length ≤ 1000000) :
    Calls Try.prog 15 #[v, .int .i64 1] w (IntsIs w (pcs 1 bs)) := by
  unfold IntsIs
  obtain ⟨i0, hi, hz0, hz1, hz2⟩ := info_parts info_int
  obtain ⟨A, c, rfl, _, _⟩ := hs.form
  have HS0 := Shh.mk hs
  clear hs
  have O0 : Shh (OwnI (w.alloc (.cells #[] 3)) w.heap.size (.slice (some ⟨w.heap.size, 0, none⟩) 0 0) (pcs 1 (bs.take 0)) ∧ Below w.heap.size w (w.alloc (.cells #[] 3))) := ⟨OwnI.made w, (Below.refl _ _).alloc (Nat.le_refl _) _⟩
  go_enter Try.func15, Try.ntmps15
  go_wp2
  go_loopw [5, 7, 8, 9, 10, 14] (fun o _ _ _ _ i wr => ∃ (k : Nat) (s : Value), k ≤ bs.length ∧ s = o ∧ i = .int .i64 k ∧ Shh (OwnI wr w.heap.size s (pcs 1 (bs.take k)) ∧ Below w.heap.size w wr)) (fun _ _ _ _ _ i _ => bs.length - (intOf i).toNat)
  case atStart => exact ⟨0, _, Nat.zero_le _, rfl, rfl, O0⟩
  case round =>
    clear O0
    obtain ⟨k, s, hk, rfl, rfl, H⟩ := hrel
    by_cases hlt : k < bs.length
    · obtain ⟨b, off, rfl, hb, hc⟩ := (HS0.out.below (H.out.2.mono hB)).at_ (by omega)
      have hc1 := hc k hlt
      obtain ⟨x, hx⟩ : ∃ x, x = bs[k] := ⟨_, rfl⟩
      rw [← hx] at hc1
      have HX : Shh (pcs 1 (bs.take (k + 1)) = pcs 1 (bs.take k) ++ dg 1 x) := ⟨by rw [take_snoc bs k hlt, pcs_snoc, hx]⟩
      obtain ⟨L, hL⟩ : ∃ L, L = pcs 1 (bs.take k) := ⟨_, rfl⟩
      have hLl : L.length ≤ 8000000 := by rw [hL, pcs_length, List.length_take]; omega
      rw [← hL] at H HX
      have hx8 : x.toNat < 256 := x.toNat_lt
      obtain ⟨wo, hwo⟩ : ∃ wo : World, wo = wr := ⟨_, rfl⟩
      subst hwo
      have O1 : Shh (OwnI (wo.alloc (.cells #[] 3)) wo.heap.size (.slice (some ⟨wo.heap.size, 0, none⟩) 0 0) ((dg 1 x).drop (8 - 0)) ∧ Below wo.heap.size wo (wo.alloc (.cells #[] 3))) := ⟨by rw [List.drop_of_length_le (by rw [dg_length]; omega)]; exact OwnI.made wo, (Below.refl _ _).alloc (Nat.le_refl _) _⟩
      clear hc hx hL
      go_wp2
      go_loopw [8, 9, 10, 23] (fun y l _ i wr => ∃ (j n : Nat) (g cap : Nat) (s : Value), j ≤ 8 ∧ s = l ∧ s = .slice (some ⟨g, 0, none⟩) j cap ∧ i = .int .i64 j ∧ y = .int .i64 (n : Int) ∧ n < 256 ∧ Shh (n = x.toNat / 2 ^ j) ∧ Shh (OwnI wr wo.heap.size s ((dg 1 x).drop (8 - j)) ∧ Below wo.heap.size wo wr)) (fun _ _ _ i _ => 8 - (intOf i).toNat)
      case atStart => exact ⟨0, x.toNat, _, _, _, Nat.zero_le _, rfl, rfl, rfl, rfl, hx8, ⟨by simp⟩, O1⟩
      case round =>
        clear O1
        obtain ⟨j, n, g, cap, s2, hj, rfl, rfl, rfl, rfl, hn, HN, H2⟩ := hrel
        by_cases hjl : j < 8
        · have HD : Shh ((dg 1 x).drop (8 - (j + 1)) = [n % 2] ++ (dg 1 x).drop (8 - j)) := ⟨by rw [HN.out]; exact dg_drop 1 (by unfold wOk; omega) x j hjl⟩
          have HE : Shh (n / 2 = x.toNat / 2 ^ (j + 1)) := ⟨by rw [HN.out, div_stepP]⟩
          obtain ⟨M, hM⟩ : ∃ M, M = (dg 1 x).drop (8 - j) := ⟨_, rfl⟩
          have hMl : M.length = j := by rw [hM, List.length_drop, dg_length]; omega
          have HMl : Shh (M.length = j) := ⟨hMl⟩
          rw [← hM] at H2 HD
          have hm : n / 2 < 256 := by omega
          clear hM HN hMl
          go_wp2
          go_loop [10, 26] (fun m i => ∃ (q p : Nat), q ≤ 1 ∧ i = .int .i64 q ∧ m = .int .i64 (p : Int) ∧ p ≤ 2 ∧ Shh (p = 2 ^ q)) (fun _ i => 1 - (intOf i).toNat)
          case atStart => exact ⟨0, 1, Nat.zero_le _, rfl, rfl, by omega, ⟨rfl⟩⟩
          case round =>
            obtain ⟨q, p, hq, rfl, rfl, hp, HP⟩ := hrel
            by_cases hql : q < 1
            · have HP2 : Shh (p * 2 = 2 ^ (q + 1)) := ⟨by rw [HP.out, Nat.pow_succ]⟩
              have hp2 : p * 2 ≤ 2 := by
                rw [HP2.out]
                exact Nat.le_trans (Nat.pow_le_pow_right (by decide) (show q + 1 ≤ 1 by omega)) (by decide)
              clear HP
              go_wp2
              go_round
              case rel => exact ⟨q + 1, p * 2, by omega, by go_num, by go_num, hp2, HP2⟩
              case measure => simp [intOf]; omega
            · have hpm : p = 2 := by
                have hqw : q = 1 := by omega
                rw [HP.out, hqw]
              subst hpm
              clear HP hp
              have hz := H2.out.2.size
              have hO : (wr.alloc (.cells #[.int .i64 ((n : Int) % 2)] 3)).ownsRow wo.heap.size 3 1 (.slice (some ⟨wr.heap.size, 0, none⟩) 1 1) 1 [.int .i64 ((n % 2 : Nat) : Int)] := own_mono (OwnI.one wr (n % 2)) hz
              have HO := Shh.mk hO
              clear hO
              go_wp2_with (at_builtin; refine wp_appendI _ 29 3 i0 (.int .i64 0) Try.underlying29 hi hz0 hz1 hz2 rfl rfl _ _ rfl (us := intCells M) HO.out rfl rfl (by rw [intCells_length]; exact HMl.out) (fun k u hu => (Below.alloc (Below.refl _ _) (Nat.le_refl _) _ : Below wr.heap.size wr _).cell (p := ⟨g, k, none⟩) (by have := SI.cells (SI.of_own H2.out.1) k u hu; exact World.block_lt_of_cell? _ _ this) |>.trans (SI.cells (SI.of_own H2.out.1) k u hu)) (intCells_one M) (by omega) (by simp only [asz]; omega) ?_)
              intro v' w1 hown' hbl
              have F : Shh (OwnI w1 wo.heap.size v' ((dg 1 x).drop (8 - (j + 1))) ∧ Below wo.heap.size wo w1) := ⟨by
                rw [HD.out]
                have := HMl.out
                exact OwnI.join (l := [n % 2]) (by rw [this]; exact hown'), H2.out.2.trans (((Below.refl _ _).alloc hz _).trans (hbl _ (Nat.le_refl _)))⟩
              have hF := F.out.1.addr (by rw [List.length_drop, dg_length]; omega)
              obtain ⟨g2, cap2, hv'⟩ := hF
              have hj1 : ((dg 1 x).drop (8 - (j + 1))).length = j + 1 := by rw [List.length_drop, dg_length]; omega
              rw [hj1] at hv'
              subst hv'
              clear hown' hbl HD hz H2 hj1
              go_wp2
              go_roundw
              case rel => exact ⟨j + 1, n / 2, g2, cap2, _, by omega, rfl, rfl, by go_num, by go_num, hm, HE, F⟩
              case measure => simp [intOf]; omega
        · have hjN : j = 8 := by omega
          have hD : (dg 1 x).drop (8 - j) = dg 1 x := by rw [hjN]; rfl
          rw [hD] at H2
          have hz := H.out.2.size
          have hz2' := H2.out.2.size
          have HA : Shh (OwnI wr w.heap.size s L ∧ Below w.heap.size w wr) := ⟨H.out.1.go H2.out.2, Below.chain H.out.2 H2.out.2⟩
          have HG : Shh ((dg 1 x).length = j) := ⟨by rw [dg_length, hjN]⟩
          have hz3 := HA.out.2.size
          clear hD H hjN HN
          go_wp2_with (at_builtin; refine wp_appendI _ 29 3 i0 (.int .i64 0) Try.underlying29 hi hz0 hz1 hz2 rfl rfl _ _ rfl (us := intCells (dg 1 x)) HA.out.1 rfl rfl (by rw [intCells_length]; exact HG.out) (SI.cells (SI.of_own H2.out.1)) (intCells_one _) (by omega) hz3 ?_)
          intro v' w1 hown' hbl
          have F : Shh (OwnI w1 w.heap.size v' (pcs 1 (bs.take (k + 1))) ∧ Below w.heap.size w w1) := ⟨by
            rw [HX.out]
            have := HG.out
            exact OwnI.join (by rw [this]; exact hown'), HA.out.2.trans (hbl _ (Nat.le_refl _))⟩
          clear hown' hbl HX HG HA H2
          go_wp2
          go_roundw
          case rel => exact ⟨k + 1, _, by omega, rfl, by go_num, F⟩
          case measure => simp [intOf]; omega
    · have F : Shh (OwnI wr w.heap.size s (pcs 1 bs) ∧ Below w.heap.size w wr) := ⟨by
        have h := H.out.1
        rw [List.take_of_length_le (by omega)] at h
        exact h, H.out.2⟩
      clear H
      go_wp2
      go_ret
      exact ⟨_, rfl, F.out.1, F.out.2⟩
end Go.Proofs.Ytcbcgegppnojmaa

/-
  WALK: the pieces of 2 bits: the document's.
-/
namespace Go.Proofs.Ytcbcgegppnojmaa
open Go.RowKit
set_option maxRecDepth 100000
set_option maxHeartbeats 4000000 in
theorem refPieces_2 (B : Nat) (v : Value) (bs : List UInt8) (w : World) (hs : Sl w B v bs) (hB : B ≤ w.heap.size) (hl : bs.length ≤ 1000000) :
    Calls Try.prog 15 #[v, .int .i64 2] w (IntsIs w (pcs 2 bs)) := by
  unfold IntsIs
  obtain ⟨i0, hi, hz0, hz1, hz2⟩ := info_parts info_int
  obtain ⟨A, c, rfl, _, _⟩ := hs.form
  have HS0 := Shh.mk hs
  clear hs
  have O0 : Shh (OwnI (w.alloc (.cells #[] 3)) w.heap.size (.slice (some ⟨w.heap.size, 0, none⟩) 0 0) (pcs 2 (bs.take 0)) ∧ Below w.heap.size w (w.alloc (.cells #[] 3))) := ⟨OwnI.made w, (Below.refl _ _).alloc (Nat.le_refl _) _⟩
  go_enter Try.func15, Try.ntmps15
  go_wp2
  go_loopw [5, 7, 8, 9, 10, 14] (fun o _ _ _ _ i wr => ∃ (k : Nat) (s : Value), k ≤ bs.length ∧ s = o ∧ i = .int .i64 k ∧ Shh (OwnI wr w.heap.size s (pcs 2 (bs.take k)) ∧ Below w.heap.size w wr)) (fun _ _ _ _ _ i _ => bs.length - (intOf i).toNat)
  case atStart => exact ⟨0, _, Nat.zero_le _, rfl, rfl, O0⟩
  case round =>
    clear O0
    obtain ⟨k, s, hk, rfl, rfl, H⟩ := hrel
    by_cases hlt : k < bs.length
    · obtain ⟨b, off, rfl, hb, hc⟩ := (HS0.out.below (H.out.2.mono hB)).at_ (by omega)
      have hc1 := hc k hlt
      obtain ⟨x, hx⟩ : ∃ x, x = bs[k] := ⟨_, rfl⟩
      rw [← hx] at hc1
      have HX : Shh (pcs 2 (bs.take (k + 1)) = pcs 2 (bs.take k) ++ dg 2 x) := ⟨by rw [take_snoc bs k hlt, pcs_snoc, hx]⟩
      obtain ⟨L, hL⟩ : ∃ L, L = pcs 2 (bs.take k) := ⟨_, rfl⟩
      have hLl : L.length ≤ 8000000 := by rw [hL, pcs_length, List.length_take]; omega
      rw [← hL] at H HX
      have hx8 : x.toNat < 256 := x.toNat_lt
      obtain ⟨wo, hwo⟩ : ∃ wo : World, wo = wr := ⟨_, rfl⟩
      subst hwo
      have O1 : Shh (OwnI (wo.alloc (.cells #[] 3)) wo.heap.size (.slice (some ⟨wo.heap.size, 0, none⟩) 0 0) ((dg 2 x).drop (4 - 0)) ∧ Below wo.heap.size wo (wo.alloc (.cells #[] 3))) := ⟨by rw [List.drop_of_length_le (by rw [dg_length]; omega)]; exact OwnI.made wo, (Below.refl _ _).alloc (Nat.le_refl _) _⟩
      clear hc hx hL
      go_wp2
      go_loopw [8, 9, 10, 23] (fun y l _ i wr => ∃ (j n : Nat) (g cap : Nat) (s : Value), j ≤ 4 ∧ s = l ∧ s = .slice (some ⟨g, 0, none⟩) j cap ∧ i = .int .i64 j ∧ y = .int .i64 (n : Int) ∧ n < 256 ∧ Shh (n = x.toNat / 4 ^ j) ∧ Shh (OwnI wr wo.heap.size s ((dg 2 x).drop (4 - j)) ∧ Below wo.heap.size wo wr)) (fun _ _ _ i _ => 4 - (intOf i).toNat)
      case atStart => exact ⟨0, x.toNat, _, _, _, Nat.zero_le _, rfl, rfl, rfl, rfl, hx8, ⟨by simp⟩, O1⟩
      case round =>
        clear O1
        obtain ⟨j, n, g, cap, s2, hj, rfl, rfl, rfl, rfl, hn, HN, H2⟩ := hrel
        by_cases hjl : j < 4
        · have HD : Shh ((dg 2 x).drop (4 - (j + 1)) = [n % 4] ++ (dg 2 x).drop (4 - j)) := ⟨by rw [HN.out]; exact dg_drop 2 (by unfold wOk; omega) x j hjl⟩
          have HE : Shh (n / 4 = x.toNat / 4 ^ (j + 1)) := ⟨by rw [HN.out, div_stepP]⟩
          obtain ⟨M, hM⟩ : ∃ M, M = (dg 2 x).drop (4 - j) := ⟨_, rfl⟩
          have hMl : M.length = j := by rw [hM, List.length_drop, dg_length]; omega
          have HMl : Shh (M.length = j) := ⟨hMl⟩
          rw [← hM] at H2 HD
          have hm : n / 4 < 256 := by omega
          clear hM HN hMl
          go_wp2
          go_loop [10, 26] (fun m i => ∃ (q p : Nat), q ≤ 2 ∧ i = .int .i64 q ∧ m = .int .i64 (p : Int) ∧ p ≤ 4 ∧ Shh (p = 2 ^ q)) (fun _ i => 2 - (intOf i).toNat)
          case atStart => exact ⟨0, 1, Nat.zero_le _, rfl, rfl, by omega, ⟨rfl⟩⟩
          case round =>
            obtain ⟨q, p, hq, rfl, rfl, hp, HP⟩ := hrel
            by_cases hql : q < 2
            · have HP2 : Shh (p * 2 = 2 ^ (q + 1)) := ⟨by rw [HP.out, Nat.pow_succ]⟩
              have hp2 : p * 2 ≤ 4 := by
                rw [HP2.out]
                exact Nat.le_trans (Nat.pow_le_pow_right (by decide) (show q + 1 ≤ 2 by omega)) (by decide)
              clear HP
              go_wp2
              go_round
              case rel => exact ⟨q + 1, p * 2, by omega, by go_num, by go_num, hp2, HP2⟩
              case measure => simp [intOf]; omega
            · have hpm : p = 4 := by
                have hqw : q = 2 := by omega
                rw [HP.out, hqw]
              subst hpm
              clear HP hp
              have hz := H2.out.2.size
              have hO : (wr.alloc (.cells #[.int .i64 ((n : Int) % 4)] 3)).ownsRow wo.heap.size 3 1 (.slice (some ⟨wr.heap.size, 0, none⟩) 1 1) 1 [.int .i64 ((n % 4 : Nat) : Int)] := own_mono (OwnI.one wr (n % 4)) hz
              have HO := Shh.mk hO
              clear hO
              go_wp2_with (at_builtin; refine wp_appendI _ 29 3 i0 (.int .i64 0) Try.underlying29 hi hz0 hz1 hz2 rfl rfl _ _ rfl (us := intCells M) HO.out rfl rfl (by rw [intCells_length]; exact HMl.out) (fun k u hu => (Below.alloc (Below.refl _ _) (Nat.le_refl _) _ : Below wr.heap.size wr _).cell (p := ⟨g, k, none⟩) (by have := SI.cells (SI.of_own H2.out.1) k u hu; exact World.block_lt_of_cell? _ _ this) |>.trans (SI.cells (SI.of_own H2.out.1) k u hu)) (intCells_one M) (by omega) (by simp only [asz]; omega) ?_)
              intro v' w1 hown' hbl
              have F : Shh (OwnI w1 wo.heap.size v' ((dg 2 x).drop (4 - (j + 1))) ∧ Below wo.heap.size wo w1) := ⟨by
                rw [HD.out]
                have := HMl.out
                exact OwnI.join (l := [n % 4]) (by rw [this]; exact hown'), H2.out.2.trans (((Below.refl _ _).alloc hz _).trans (hbl _ (Nat.le_refl _)))⟩
              have hF := F.out.1.addr (by rw [List.length_drop, dg_length]; omega)
              obtain ⟨g2, cap2, hv'⟩ := hF
              have hj1 : ((dg 2 x).drop (4 - (j + 1))).length = j + 1 := by rw [List.length_drop, dg_length]; omega
              rw [hj1] at hv'
              subst hv'
              clear hown' hbl HD hz H2 hj1
              go_wp2
              go_roundw
              case rel => exact ⟨j + 1, n / 4, g2, cap2, _, by omega, rfl, rfl, by go_num, by go_num, hm, HE, F⟩
              case measure => simp [intOf]; omega
        · have hjN : j = 4 := by omega
          have hD : (dg 2 x).drop (4 - j) = dg 2 x := by rw [hjN]; rfl
          rw [hD] at H2
          have hz := H.out.2.size
          have hz2' := H2.out.2.size
          have HA : Shh (OwnI wr w.heap.size s L ∧ Below w.heap.size w wr) := ⟨H.out.1.go H2.out.2, Below.chain H.out.2 H2.out.2⟩
          have HG : Shh ((dg 2 x).length = j) := ⟨by rw [dg_length, hjN]⟩
          have hz3 := HA.out.2.size
          clear hD H hjN HN
          go_wp2_with (at_builtin; refine wp_appendI _ 29 3 i0 (.int .i64 0) Try.underlying29 hi hz0 hz1 hz2 rfl rfl _ _ rfl (us := intCells (dg 2 x)) HA.out.1 rfl rfl (by rw [intCells_length]; exact HG.out) (SI.cells (SI.of_own H2.out.1)) (intCells_one _) (by omega) hz3 ?_)
          intro v' w1 hown' hbl
          have F : Shh (OwnI w1 w.heap.size v' (pcs 2 (bs.take (k + 1))) ∧ Below w.heap.size w w1) := ⟨by
            rw [HX.out]
            have := HG.out
            exact OwnI.join (by rw [this]; exact hown'), HA.out.2.trans (hbl _ (Nat.le_refl _))⟩
          clear hown' hbl HX HG HA H2
          go_wp2
          go_roundw
          case rel => exact ⟨k + 1, _, by omega, rfl, by go_num, F⟩
          case measure => simp [intOf]; omega
    · have F : Shh (OwnI wr w.heap.size s (pcs 2 bs) ∧ Below w.heap.size w wr) := ⟨by
        have h := H.out.1
        rw [List.take_of_length_le (by omega)] at h
        exact h, H.out.2⟩
      clear H
      go_wp2
      go_ret
      exact ⟨_, rfl, F.out.1, F.out.2⟩
end Go.Proofs.Ytcbcgegppnojmaa

/-
  WALK: the pieces of 4 bits: the document's.
-/
namespace Go.Proofs.Ytcbcgegppnojmaa
open Go.RowKit
set_option maxRecDepth 100000
set_option maxHeartbeats 4000000 in
theorem refPieces_4 (B : Nat) (v : Value) (bs : List UInt8) (w : World) (hs : Sl w B v bs) (hB : B ≤ w.heap.size) (hl : bs.length ≤ 1000000) :
    Calls Try.prog 15 #[v, .int .i64 4] w (IntsIs w (pcs 4 bs)) := by
  unfold IntsIs
  obtain ⟨i0, hi, hz0, hz1, hz2⟩ := info_parts info_int
  obtain ⟨A, c, rfl, _, _⟩ := hs.form
  have HS0 := Shh.mk hs
  clear hs
  have O0 : Shh (OwnI (w.alloc (.cells #[] 3)) w.heap.size (.slice (some ⟨w.heap.size, 0, none⟩) 0 0) (pcs 4 (bs.take 0)) ∧ Below w.heap.size w (w.alloc (.cells #[] 3))) := ⟨OwnI.made w, (Below.refl _ _).alloc (Nat.le_refl _) _⟩
  go_enter Try.func15, Try.ntmps15
  go_wp2
  go_loopw [5, 7, 8, 9, 10, 14] (fun o _ _ _ _ i wr => ∃ (k : Nat) (s : Value), k ≤ bs.length ∧ s = o ∧ i = .int .i64 k ∧ Shh (OwnI wr w.heap.size s (pcs 4 (bs.take k)) ∧ Below w.heap.size w wr)) (fun _ _ _ _ _ i _ => bs.length - (intOf i).toNat)
  case atStart => exact ⟨0, _, Nat.zero_le _, rfl, rfl, O0⟩
  case round =>
    clear O0
    obtain ⟨k, s, hk, rfl, rfl, H⟩ := hrel
    by_cases hlt : k < bs.length
    · obtain ⟨b, off, rfl, hb, hc⟩ := (HS0.out.below (H.out.2.mono hB)).at_ (by omega)
      have hc1 := hc k hlt
      obtain ⟨x, hx⟩ : ∃ x, x = bs[k] := ⟨_, rfl⟩
      rw [← hx] at hc1
      have HX : Shh (pcs 4 (bs.take (k + 1)) = pcs 4 (bs.take k) ++ dg 4 x) := ⟨by rw [take_snoc bs k hlt, pcs_snoc, hx]⟩
      obtain ⟨L, hL⟩ : ∃ L, L = pcs 4 (bs.take k) := ⟨_, rfl⟩
      have hLl : L.length ≤ 8000000 := by rw [hL, pcs_length, List.length_take]; omega
      rw [← hL] at H HX
      have hx8 : x.toNat < 256 := x.toNat_lt
      obtain ⟨wo, hwo⟩ : ∃ wo : World, wo = wr := ⟨_, rfl⟩
      subst hwo
      have O1 : Shh (OwnI (wo.alloc (.cells #[] 3)) wo.heap.size (.slice (some ⟨wo.heap.size, 0, none⟩) 0 0) ((dg 4 x).drop (2 - 0)) ∧ Below wo.heap.size wo (wo.alloc (.cells #[] 3))) := ⟨by rw [List.drop_of_length_le (by rw [dg_length]; omega)]; exact OwnI.made wo, (Below.refl _ _).alloc (Nat.le_refl _) _⟩
      clear hc hx hL
      go_wp2
      go_loopw [8, 9, 10, 23] (fun y l _ i wr => ∃ (j n : Nat) (g cap : Nat) (s : Value), j ≤ 2 ∧ s = l ∧ s = .slice (some ⟨g, 0, none⟩) j cap ∧ i = .int .i64 j ∧ y = .int .i64 (n : Int) ∧ n < 256 ∧ Shh (n = x.toNat / 16 ^ j) ∧ Shh (OwnI wr wo.heap.size s ((dg 4 x).drop (2 - j)) ∧ Below wo.heap.size wo wr)) (fun _ _ _ i _ => 2 - (intOf i).toNat)
      case atStart => exact ⟨0, x.toNat, _, _, _, Nat.zero_le _, rfl, rfl, rfl, rfl, hx8, ⟨by simp⟩, O1⟩
      case round =>
        clear O1
        obtain ⟨j, n, g, cap, s2, hj, rfl, rfl, rfl, rfl, hn, HN, H2⟩ := hrel
        by_cases hjl : j < 2
        · have HD : Shh ((dg 4 x).drop (2 - (j + 1)) = [n % 16] ++ (dg 4 x).drop (2 - j)) := ⟨by rw [HN.out]; exact dg_drop 4 (by unfold wOk; omega) x j hjl⟩
          have HE : Shh (n / 16 = x.toNat / 16 ^ (j + 1)) := ⟨by rw [HN.out, div_stepP]⟩
          obtain ⟨M, hM⟩ : ∃ M, M = (dg 4 x).drop (2 - j) := ⟨_, rfl⟩
          have hMl : M.length = j := by rw [hM, List.length_drop, dg_length]; omega
          have HMl : Shh (M.length = j) := ⟨hMl⟩
          rw [← hM] at H2 HD
          have hm : n / 16 < 256 := by omega
          clear hM HN hMl
          go_wp2
          go_loop [10, 26] (fun m i => ∃ (q p : Nat), q ≤ 4 ∧ i = .int .i64 q ∧ m = .int .i64 (p : Int) ∧ p ≤ 16 ∧ Shh (p = 2 ^ q)) (fun _ i => 4 - (intOf i).toNat)
          case atStart => exact ⟨0, 1, Nat.zero_le _, rfl, rfl, by omega, ⟨rfl⟩⟩
          case round =>
            obtain ⟨q, p, hq, rfl, rfl, hp, HP⟩ := hrel
            by_cases hql : q < 4
            · have HP2 : Shh (p * 2 = 2 ^ (q + 1)) := ⟨by rw [HP.out, Nat.pow_succ]⟩
              have hp2 : p * 2 ≤ 16 := by
                rw [HP2.out]
                exact Nat.le_trans (Nat.pow_le_pow_right (by decide) (show q + 1 ≤ 4 by omega)) (by decide)
              clear HP
              go_wp2
              go_round
              case rel => exact ⟨q + 1, p * 2, by omega, by go_num, by go_num, hp2, HP2⟩
              case measure => simp [intOf]; omega
            · have hpm : p = 16 := by
                have hqw : q = 4 := by omega
                rw [HP.out, hqw]
              subst hpm
              clear HP hp
              have hz := H2.out.2.size
              have hO : (wr.alloc (.cells #[.int .i64 ((n : Int) % 16)] 3)).ownsRow wo.heap.size 3 1 (.slice (some ⟨wr.heap.size, 0, none⟩) 1 1) 1 [.int .i64 ((n % 16 : Nat) : Int)] := own_mono (OwnI.one wr (n % 16)) hz
              have HO := Shh.mk hO
              clear hO
              go_wp2_with (at_builtin; refine wp_appendI _ 29 3 i0 (.int .i64 0) Try.underlying29 hi hz0 hz1 hz2 rfl rfl _ _ rfl (us := intCells M) HO.out rfl rfl (by rw [intCells_length]; exact HMl.out) (fun k u hu => (Below.alloc (Below.refl _ _) (Nat.le_refl _) _ : Below wr.heap.size wr _).cell (p := ⟨g, k, none⟩) (by have := SI.cells (SI.of_own H2.out.1) k u hu; exact World.block_lt_of_cell? _ _ this) |>.trans (SI.cells (SI.of_own H2.out.1) k u hu)) (intCells_one M) (by omega) (by simp only [asz]; omega) ?_)
              intro v' w1 hown' hbl
              have F : Shh (OwnI w1 wo.heap.size v' ((dg 4 x).drop (2 - (j + 1))) ∧ Below wo.heap.size wo w1) := ⟨by
                rw [HD.out]
                have := HMl.out
                exact OwnI.join (l := [n % 16]) (by rw [this]; exact hown'), H2.out.2.trans (((Below.refl _ _).alloc hz _).trans (hbl _ (Nat.le_refl _)))⟩
              have hF := F.out.1.addr (by rw [List.length_drop, dg_length]; omega)
              obtain ⟨g2, cap2, hv'⟩ := hF
              have hj1 : ((dg 4 x).drop (2 - (j + 1))).length = j + 1 := by rw [List.length_drop, dg_length]; omega
              rw [hj1] at hv'
              subst hv'
              clear hown' hbl HD hz H2 hj1
              go_wp2
              go_roundw
              case rel => exact ⟨j + 1, n / 16, g2, cap2, _, by omega, rfl, rfl, by go_num, by go_num, hm, HE, F⟩
              case measure => simp [intOf]; omega
        · have hjN : j = 2 := by omega
          have hD : (dg 4 x).drop (2 - j) = dg 4 x := by rw [hjN]; rfl
          rw [hD] at H2
          have hz := H.out.2.size
          have hz2' := H2.out.2.size
          have HA : Shh (OwnI wr w.heap.size s L ∧ Below w.heap.size w wr) := ⟨H.out.1.go H2.out.2, Below.chain H.out.2 H2.out.2⟩
          have HG : Shh ((dg 4 x).length = j) := ⟨by rw [dg_length, hjN]⟩
          have hz3 := HA.out.2.size
          clear hD H hjN HN
          go_wp2_with (at_builtin; refine wp_appendI _ 29 3 i0 (.int .i64 0) Try.underlying29 hi hz0 hz1 hz2 rfl rfl _ _ rfl (us := intCells (dg 4 x)) HA.out.1 rfl rfl (by rw [intCells_length]; exact HG.out) (SI.cells (SI.of_own H2.out.1)) (intCells_one _) (by omega) hz3 ?_)
          intro v' w1 hown' hbl
          have F : Shh (OwnI w1 w.heap.size v' (pcs 4 (bs.take (k + 1))) ∧ Below w.heap.size w w1) := ⟨by
            rw [HX.out]
            have := HG.out
            exact OwnI.join (by rw [this]; exact hown'), HA.out.2.trans (hbl _ (Nat.le_refl _))⟩
          clear hown' hbl HX HG HA H2
          go_wp2
          go_roundw
          case rel => exact ⟨k + 1, _, by omega, rfl, by go_num, F⟩
          case measure => simp [intOf]; omega
    · have F : Shh (OwnI wr w.heap.size s (pcs 4 bs) ∧ Below w.heap.size w wr) := ⟨by
        have h := H.out.1
        rw [List.take_of_length_le (by omega)] at h
        exact h, H.out.2⟩
      clear H
      go_wp2
      go_ret
      exact ⟨_, rfl, F.out.1, F.out.2⟩
end Go.Proofs.Ytcbcgegppnojmaa

/-
  WALK: the pieces of 8 bits: the document's.
-/
namespace Go.Proofs.Ytcbcgegppnojmaa
open Go.RowKit
set_option maxRecDepth 100000
set_option maxHeartbeats 4000000 in
theorem refPieces_8 (B : Nat) (v : Value) (bs : List UInt8) (w : World) (hs : Sl w B v bs) (hB : B ≤ w.heap.size) (hl : bs.length ≤ 1000000) :
    Calls Try.prog 15 #[v, .int .i64 8] w (IntsIs w (pcs 8 bs)) := by
  unfold IntsIs
  obtain ⟨i0, hi, hz0, hz1, hz2⟩ := info_parts info_int
  obtain ⟨A, c, rfl, _, _⟩ := hs.form
  have HS0 := Shh.mk hs
  clear hs
  have O0 : Shh (OwnI (w.alloc (.cells #[] 3)) w.heap.size (.slice (some ⟨w.heap.size, 0, none⟩) 0 0) (pcs 8 (bs.take 0)) ∧ Below w.heap.size w (w.alloc (.cells #[] 3))) := ⟨OwnI.made w, (Below.refl _ _).alloc (Nat.le_refl _) _⟩
  go_enter Try.func15, Try.ntmps15
  go_wp2
  go_loopw [5, 7, 8, 9, 10, 14] (fun o _ _ _ _ i wr => ∃ (k : Nat) (s : Value), k ≤ bs.length ∧ s = o ∧ i = .int .i64 k ∧ Shh (OwnI wr w.heap.size s (pcs 8 (bs.take k)) ∧ Below w.heap.size w wr)) (fun _ _ _ _ _ i _ => bs.length - (intOf i).toNat)
  case atStart => exact ⟨0, _, Nat.zero_le _, rfl, rfl, O0⟩
  case round =>
    clear O0
    obtain ⟨k, s, hk, rfl, rfl, H⟩ := hrel
    by_cases hlt : k < bs.length
    · obtain ⟨b, off, rfl, hb, hc⟩ := (HS0.out.below (H.out.2.mono hB)).at_ (by omega)
      have hc1 := hc k hlt
      obtain ⟨x, hx⟩ : ∃ x, x = bs[k] := ⟨_, rfl⟩
      rw [← hx] at hc1
      have HX : Shh (pcs 8 (bs.take (k + 1)) = pcs 8 (bs.take k) ++ dg 8 x) := ⟨by rw [take_snoc bs k hlt, pcs_snoc, hx]⟩
      obtain ⟨L, hL⟩ : ∃ L, L = pcs 8 (bs.take k) := ⟨_, rfl⟩
      have hLl : L.length ≤ 8000000 := by rw [hL, pcs_length, List.length_take]; omega
      rw [← hL] at H HX
      have hx8 : x.toNat < 256 := x.toNat_lt
      obtain ⟨wo, hwo⟩ : ∃ wo : World, wo = wr := ⟨_, rfl⟩
      subst hwo
      have O1 : Shh (OwnI (wo.alloc (.cells #[] 3)) wo.heap.size (.slice (some ⟨wo.heap.size, 0, none⟩) 0 0) ((dg 8 x).drop (1 - 0)) ∧ Below wo.heap.size wo (wo.alloc (.cells #[] 3))) := ⟨by rw [List.drop_of_length_le (by rw [dg_length]; omega)]; exact OwnI.made wo, (Below.refl _ _).alloc (Nat.le_refl _) _⟩
      clear hc hx hL
      go_wp2
      go_loopw [8, 9, 10, 23] (fun y l _ i wr => ∃ (j n : Nat) (g cap : Nat) (s : Value), j ≤ 1 ∧ s = l ∧ s = .slice (some ⟨g, 0, none⟩) j cap ∧ i = .int .i64 j ∧ y = .int .i64 (n : Int) ∧ n < 256 ∧ Shh (n = x.toNat / 256 ^ j) ∧ Shh (OwnI wr wo.heap.size s ((dg 8 x).drop (1 - j)) ∧ Below wo.heap.size wo wr)) (fun _ _ _ i _ => 1 - (intOf i).toNat)
      case atStart => exact ⟨0, x.toNat, _, _, _, Nat.zero_le _, rfl, rfl, rfl, rfl, hx8, ⟨by simp⟩, O1⟩
      case round =>
        clear O1
        obtain ⟨j, n, g, cap, s2, hj, rfl, rfl, rfl, rfl, hn, HN, H2⟩ := hrel
        by_cases hjl : j < 1
        · have HD : Shh ((dg 8 x).drop (1 - (j + 1)) = [n % 256] ++ (dg 8 x).drop (1 - j)) := ⟨by rw [HN.out]; exact dg_drop 8 (by unfold wOk; omega) x j hjl⟩
          have HE : Shh (n / 256 = x.toNat / 256 ^ (j + 1)) := ⟨by rw [HN.out, div_stepP]⟩
          obtain ⟨M, hM⟩ : ∃ M, M = (dg 8 x).drop (1 - j) := ⟨_, rfl⟩
          have hMl : M.length = j := by rw [hM, List.length_drop, dg_length]; omega
          have HMl : Shh (M.length = j) := ⟨hMl⟩
          rw [← hM] at H2 HD
          have hm : n / 256 < 256 := by omega
          clear hM HN hMl
          go_wp2
          go_loop [10, 26] (fun m i => ∃ (q p : Nat), q ≤ 8 ∧ i = .int .i64 q ∧ m = .int .i64 (p : Int) ∧ p ≤ 256 ∧ Shh (p = 2 ^ q)) (fun _ i => 8 - (intOf i).toNat)
          case atStart => exact ⟨0, 1, Nat.zero_le _, rfl, rfl, by omega, ⟨rfl⟩⟩
          case round =>
            obtain ⟨q, p, hq, rfl, rfl, hp, HP⟩ := hrel
            by_cases hql : q < 8
            · have HP2 : Shh (p * 2 = 2 ^ (q + 1)) := ⟨by rw [HP.out, Nat.pow_succ]⟩
              have hp2 : p * 2 ≤ 256 := by
                rw [HP2.out]
                exact Nat.le_trans (Nat.pow_le_pow_right (by decide) (show q + 1 ≤ 8 by omega)) (by decide)
              clear HP
              go_wp2
              go_round
              case rel => exact ⟨q + 1, p * 2, by omega, by go_num, by go_num, hp2, HP2⟩
              case measure => simp [intOf]; omega
            · have hpm : p = 256 := by
                have hqw : q = 8 := by omega
                rw [HP.out, hqw]
              subst hpm
              clear HP hp
              have hz := H2.out.2.size
              have hO : (wr.alloc (.cells #[.int .i64 ((n : Int) % 256)] 3)).ownsRow wo.heap.size 3 1 (.slice (some ⟨wr.heap.size, 0, none⟩) 1 1) 1 [.int .i64 ((n % 256 : Nat) : Int)] := own_mono (OwnI.one wr (n % 256)) hz
              have HO := Shh.mk hO
              clear hO
              go_wp2_with (at_builtin; refine wp_appendI _ 29 3 i0 (.int .i64 0) Try.underlying29 hi hz0 hz1 hz2 rfl rfl _ _ rfl (us := intCells M) HO.out rfl rfl (by rw [intCells_length]; exact HMl.out) (fun k u hu => (Below.alloc (Below.refl _ _) (Nat.le_refl _) _ : Below wr.heap.size wr _).cell (p := ⟨g, k, none⟩) (by have := SI.cells (SI.of_own H2.out.1) k u hu; exact World.block_lt_of_cell? _ _ this) |>.trans (SI.cells (SI.of_own H2.out.1) k u hu)) (intCells_one M) (by omega) (by simp only [asz]; omega) ?_)
              intro v' w1 hown' hbl
              have F : Shh (OwnI w1 wo.heap.size v' ((dg 8 x).drop (1 - (j + 1))) ∧ Below wo.heap.size wo w1) := ⟨by
                rw [HD.out]
                have := HMl.out
                exact OwnI.join (l := [n % 256]) (by rw [this]; exact hown'), H2.out.2.trans (((Below.refl _ _).alloc hz _).trans (hbl _ (Nat.le_refl _)))⟩
              have hF := F.out.1.addr (by rw [List.length_drop, dg_length]; omega)
              obtain ⟨g2, cap2, hv'⟩ := hF
              have hj1 : ((dg 8 x).drop (1 - (j + 1))).length = j + 1 := by rw [List.length_drop, dg_length]; omega
              rw [hj1] at hv'
              subst hv'
              clear hown' hbl HD hz H2 hj1
              go_wp2
              go_roundw
              case rel => exact ⟨j + 1, n / 256, g2, cap2, _, by omega, rfl, rfl, by go_num, by go_num, hm, HE, F⟩
              case measure => simp [intOf]; omega
        · have hjN : j = 1 := by omega
          have hD : (dg 8 x).drop (1 - j) = dg 8 x := by rw [hjN]; rfl
          rw [hD] at H2
          have hz := H.out.2.size
          have hz2' := H2.out.2.size
          have HA : Shh (OwnI wr w.heap.size s L ∧ Below w.heap.size w wr) := ⟨H.out.1.go H2.out.2, Below.chain H.out.2 H2.out.2⟩
          have HG : Shh ((dg 8 x).length = j) := ⟨by rw [dg_length, hjN]⟩
          have hz3 := HA.out.2.size
          clear hD H hjN HN
          go_wp2_with (at_builtin; refine wp_appendI _ 29 3 i0 (.int .i64 0) Try.underlying29 hi hz0 hz1 hz2 rfl rfl _ _ rfl (us := intCells (dg 8 x)) HA.out.1 rfl rfl (by rw [intCells_length]; exact HG.out) (SI.cells (SI.of_own H2.out.1)) (intCells_one _) (by omega) hz3 ?_)
          intro v' w1 hown' hbl
          have F : Shh (OwnI w1 w.heap.size v' (pcs 8 (bs.take (k + 1))) ∧ Below w.heap.size w w1) := ⟨by
            rw [HX.out]
            have := HG.out
            exact OwnI.join (by rw [this]; exact hown'), HA.out.2.trans (hbl _ (Nat.le_refl _))⟩
          clear hown' hbl HX HG HA H2
          go_wp2
          go_roundw
          case rel => exact ⟨k + 1, _, by omega, rfl, by go_num, F⟩
          case measure => simp [intOf]; omega
    · have F : Shh (OwnI wr w.heap.size s (pcs 8 bs) ∧ Below w.heap.size w wr) := ⟨by
        have h := H.out.1
        rw [List.take_of_length_le (by omega)] at h
        exact h, H.out.2⟩
      clear H
      go_wp2
      go_ret
      exact ⟨_, rfl, F.out.1, F.out.2⟩
end Go.Proofs.Ytcbcgegppnojmaa
