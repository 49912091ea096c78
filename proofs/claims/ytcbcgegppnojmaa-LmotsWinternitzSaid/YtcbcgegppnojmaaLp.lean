import Derived.Test.YtcbcgegppnojmaaLm2
/-
  WALK: the pieces of 1 bits: the program's.
-/
namespace Go.Proofs.Ytcbcgegppnojmaa
open Go.RowKit
set_option maxRecDepth 100000
set_option maxHeartbeats 2000000 in
theorem pieces_1 (B : Nat) (v : Value) (bs : List UInt8) (w : World) (hs : Sl w B v bs) (hB : B ≤ w.heap.size) (hl : bs.length ≤ 1000000) :
    Calls Try.prog 23 #[v, .int .i64 1] w (IntsIs w (pcs 1 bs)) := by
  unfold IntsIs
  obtain ⟨i0, hi, hz0, hz1, hz2⟩ := info_parts info_int
  obtain ⟨A, c, rfl, _, _⟩ := hs.form
  have HS0 := Shh.mk hs
  clear hs
  go_enter Try.func23, Try.ntmps23
  go_wp2
  go_loopw [5, 7, 10] (fun o _ i wr => ∃ (k : Nat) (s : Value), k ≤ bs.length ∧ s = o ∧ i = .int .i64 k ∧ Shh (OwnI wr w.heap.size s (pcs 1 (bs.take k)) ∧ Below w.heap.size w wr)) (fun _ _ i _ => bs.length - (intOf i).toNat)
  case atStart => exact ⟨0, _, Nat.zero_le _, rfl, rfl, ⟨OwnI.nil _ _, Below.refl _ _⟩⟩
  case round =>
    obtain ⟨k, s, hk, rfl, rfl, H⟩ := hrel
    by_cases hlt : k < bs.length
    · obtain ⟨b, off, rfl, hb, hc⟩ := (HS0.out.below (H.out.2.mono hB)).at_ (by omega)
      have hc1 := hc k hlt
      obtain ⟨x, hx⟩ : ∃ x, x = bs[k] := ⟨_, rfl⟩
      rw [← hx] at hc1
      have HX : Shh (pcs 1 (bs.take (k + 1)) = pcs 1 (bs.take k) ++ dg 1 x) := ⟨by rw [take_snoc bs k hlt, pcs_snoc, hx]⟩
      obtain ⟨L, hL⟩ : ∃ L, L = pcs 1 (bs.take k) := ⟨_, rfl⟩
      have hLl : L.length ≤ 8000000 := by rw [hL, pcs_length, List.length_take]; omega
      rw [← hL] at H HX
      have hx8 : x.toNat < 256 := x.toNat_lt
      clear hc hx hL
      go_wp2
      go_loopw [5, 7, 16] (fun o y i wr => ∃ (j n : Nat) (s : Value), j ≤ 8 ∧ s = o ∧ i = .int .i64 j ∧ y = .int .u8 (n : Int) ∧ n < 256 ∧ Shh (n = lft 1 x j) ∧ Shh (OwnI wr w.heap.size s (L ++ (dg 1 x).take j) ∧ Below w.heap.size w wr)) (fun _ _ i _ => 8 - (intOf i).toNat)
      case atStart => exact ⟨0, x.toNat, _, Nat.zero_le _, rfl, rfl, rfl, hx8, ⟨(lft_zero _ _).symm⟩, ⟨by simpa using H.out.1, H.out.2⟩⟩
      case round =>
        obtain ⟨j, n, s, hj, rfl, rfl, rfl, hn, HN, H⟩ := hrel
        by_cases hjl : j < 8
        · have HD : Shh (L ++ (dg 1 x).take (j + 1) = (L ++ (dg 1 x).take j) ++ [n / 128]) := ⟨by rw [dg_take 1 x j hjl, HN.out, ← lft_piece 1 (by unfold wOk; omega) x j hjl, List.append_assoc]⟩
          have HE : Shh (n * 2 % 256 = lft 1 x (j + 1)) := ⟨by rw [← lft_step, HN.out]⟩
          have hMl : (L ++ (dg 1 x).take j).length ≤ 8000010 := by rw [List.length_append, List.length_take]; omega
          obtain ⟨M, hM⟩ : ∃ M, M = L ++ (dg 1 x).take j := ⟨_, rfl⟩
          rw [← hM] at H HD hMl
          have hz := H.out.2.size
          have hm : n * 2 % 256 < 256 := Nat.mod_lt _ (by decide)
          clear hM HN
          go_wp2_with (at_builtin; refine wp_append1i _ 29 3 i0 (.int .i64 0) Try.underlying29 hi hz0 hz1 hz2 rfl rfl _ _ rfl H.out.1 rfl rfl rfl (by omega) hz ?_)
          intro v' w1 hown' hgrow hbl
          have e : ((n / 128 : Nat) : Int) = (n : Int) / 128 := by omega
          rw [← e] at hown'
          have F : Shh (OwnI w1 w.heap.size v' (L ++ (dg 1 x).take (j + 1)) ∧ Below w.heap.size w w1) := ⟨by rw [HD.out]; exact OwnI.snoc hown', H.out.2.trans (hbl _ (Nat.le_refl _))⟩
          clear e
          clear hown' hgrow hbl HD hz H
          go_wp2
          go_roundw
          case rel => exact ⟨j + 1, n * 2 % 256, _, by omega, rfl, by go_num, by go_num, hm, HE, F⟩
          case measure => simp [intOf]; omega
        · have hjN : j = 8 := by omega
          have F : Shh (OwnI wr w.heap.size s (pcs 1 (bs.take (k + 1))) ∧ Below w.heap.size w wr) := ⟨by
            have h := H.out.1
            rw [List.take_of_length_le (by rw [dg_length, hjN]; omega), ← HX.out] at h
            exact h, H.out.2⟩
          clear H HX HN hjN
          go_wp2
          go_roundw
          case rel => exact ⟨k + 1, _, by omega, rfl, by go_num, F⟩
          case measure => simp [intOf]; omega
    · have F : Shh (OwnI wr w.heap.size s (pcs 1 bs) ∧ Below w.heap.size w wr) := ⟨by
        have h := H.out.1
        rw [List.take_of_length_le (by omega)] at h
        exact h, H.out.2⟩
      clear H
      go_wp2
      go_ret
      exact ⟨_, rfl, F.out.1, F.out.2⟩
end Go.Proofs.Ytcbcgegppnojmaa

/-
  WALK: the pieces of 2 bits: the program's.
-/
namespace Go.Proofs.Ytcbcgegppnojmaa
open Go.RowKit
set_option maxRecDepth 100000
set_option maxHeartbeats 2000000 in
theorem pieces_2 (B : Nat) (v : Value) (bs : List UInt8) (w : World) (hs : Sl w B v bs) (hB : B ≤ w.heap.size) (hl : bs.length ≤ 1000000) :
    Calls Try.prog 23 #[v, .int .i64 2] w (IntsIs w (pcs 2 bs)) := by
  unfold IntsIs
  obtain ⟨i0, hi, hz0, hz1, hz2⟩ := info_parts info_int
  obtain ⟨A, c, rfl, _, _⟩ := hs.form
  have HS0 := Shh.mk hs
  clear hs
  go_enter Try.func23, Try.ntmps23
  go_wp2
  go_loopw [5, 7, 10] (fun o _ i wr => ∃ (k : Nat) (s : Value), k ≤ bs.length ∧ s = o ∧ i = .int .i64 k ∧ Shh (OwnI wr w.heap.size s (pcs 2 (bs.take k)) ∧ Below w.heap.size w wr)) (fun _ _ i _ => bs.length - (intOf i).toNat)
  case atStart => exact ⟨0, _, Nat.zero_le _, rfl, rfl, ⟨OwnI.nil _ _, Below.refl _ _⟩⟩
  case round =>
    obtain ⟨k, s, hk, rfl, rfl, H⟩ := hrel
    by_cases hlt : k < bs.length
    · obtain ⟨b, off, rfl, hb, hc⟩ := (HS0.out.below (H.out.2.mono hB)).at_ (by omega)
      have hc1 := hc k hlt
      obtain ⟨x, hx⟩ : ∃ x, x = bs[k] := ⟨_, rfl⟩
      rw [← hx] at hc1
      have HX : Shh (pcs 2 (bs.take (k + 1)) = pcs 2 (bs.take k) ++ dg 2 x) := ⟨by rw [take_snoc bs k hlt, pcs_snoc, hx]⟩
      obtain ⟨L, hL⟩ : ∃ L, L = pcs 2 (bs.take k) := ⟨_, rfl⟩
      have hLl : L.length ≤ 8000000 := by rw [hL, pcs_length, List.length_take]; omega
      rw [← hL] at H HX
      have hx8 : x.toNat < 256 := x.toNat_lt
      clear hc hx hL
      go_wp2
      go_loopw [5, 7, 16] (fun o y i wr => ∃ (j n : Nat) (s : Value), j ≤ 4 ∧ s = o ∧ i = .int .i64 j ∧ y = .int .u8 (n : Int) ∧ n < 256 ∧ Shh (n = lft 2 x j) ∧ Shh (OwnI wr w.heap.size s (L ++ (dg 2 x).take j) ∧ Below w.heap.size w wr)) (fun _ _ i _ => 4 - (intOf i).toNat)
      case atStart => exact ⟨0, x.toNat, _, Nat.zero_le _, rfl, rfl, rfl, hx8, ⟨(lft_zero _ _).symm⟩, ⟨by simpa using H.out.1, H.out.2⟩⟩
      case round =>
        obtain ⟨j, n, s, hj, rfl, rfl, rfl, hn, HN, H⟩ := hrel
        by_cases hjl : j < 4
        · have HD : Shh (L ++ (dg 2 x).take (j + 1) = (L ++ (dg 2 x).take j) ++ [n / 64]) := ⟨by rw [dg_take 2 x j hjl, HN.out, ← lft_piece 2 (by unfold wOk; omega) x j hjl, List.append_assoc]⟩
          have HE : Shh (n * 4 % 256 = lft 2 x (j + 1)) := ⟨by rw [← lft_step, HN.out]⟩
          have hMl : (L ++ (dg 2 x).take j).length ≤ 8000010 := by rw [List.length_append, List.length_take]; omega
          obtain ⟨M, hM⟩ : ∃ M, M = L ++ (dg 2 x).take j := ⟨_, rfl⟩
          rw [← hM] at H HD hMl
          have hz := H.out.2.size
          have hm : n * 4 % 256 < 256 := Nat.mod_lt _ (by decide)
          clear hM HN
          go_wp2_with (at_builtin; refine wp_append1i _ 29 3 i0 (.int .i64 0) Try.underlying29 hi hz0 hz1 hz2 rfl rfl _ _ rfl H.out.1 rfl rfl rfl (by omega) hz ?_)
          intro v' w1 hown' hgrow hbl
          have e : ((n / 64 : Nat) : Int) = (n : Int) / 64 := by omega
          rw [← e] at hown'
          have F : Shh (OwnI w1 w.heap.size v' (L ++ (dg 2 x).take (j + 1)) ∧ Below w.heap.size w w1) := ⟨by rw [HD.out]; exact OwnI.snoc hown', H.out.2.trans (hbl _ (Nat.le_refl _))⟩
          clear e
          clear hown' hgrow hbl HD hz H
          go_wp2
          go_roundw
          case rel => exact ⟨j + 1, n * 4 % 256, _, by omega, rfl, by go_num, by go_num, hm, HE, F⟩
          case measure => simp [intOf]; omega
        · have hjN : j = 4 := by omega
          have F : Shh (OwnI wr w.heap.size s (pcs 2 (bs.take (k + 1))) ∧ Below w.heap.size w wr) := ⟨by
            have h := H.out.1
            rw [List.take_of_length_le (by rw [dg_length, hjN]; omega), ← HX.out] at h
            exact h, H.out.2⟩
          clear H HX HN hjN
          go_wp2
          go_roundw
          case rel => exact ⟨k + 1, _, by omega, rfl, by go_num, F⟩
          case measure => simp [intOf]; omega
    · have F : Shh (OwnI wr w.heap.size s (pcs 2 bs) ∧ Below w.heap.size w wr) := ⟨by
        have h := H.out.1
        rw [List.take_of_length_le (by omega)] at h
        exact h, H.out.2⟩
      clear H
      go_wp2
      go_ret
      exact ⟨_, rfl, F.out.1, F.out.2⟩
end Go.Proofs.Ytcbcgegppnojmaa

/-
  WALK: the pieces of 4 bits: the program's.
-/
namespace Go.Proofs.Ytcbcgegppnojmaa
open Go.RowKit
set_option maxRecDepth 100000
set_option maxHeartbeats 2000000 in
theorem pieces_4 (B : Nat) (v : Value) (bs : List UInt8) (w : World) (hs : Sl w B v bs) (hB : B ≤ w.heap.size) (hl : bs.length ≤ 1000000) :
    Calls Try.prog 23 #[v, .int .i64 4] w (IntsIs w (pcs 4 bs)) := by
  unfold IntsIs
  obtain ⟨i0, hi, hz0, hz1, hz2⟩ := info_parts info_int
  obtain ⟨A, c, rfl, _, _⟩ := hs.form
  have HS0 := Shh.mk hs
  clear hs
  go_enter Try.func23, Try.ntmps23
  go_wp2
  go_loopw [5, 7, 10] (fun o _ i wr => ∃ (k : Nat) (s : Value), k ≤ bs.length ∧ s = o ∧ i = .int .i64 k ∧ Shh (OwnI wr w.heap.size s (pcs 4 (bs.take k)) ∧ Below w.heap.size w wr)) (fun _ _ i _ => bs.length - (intOf i).toNat)
  case atStart => exact ⟨0, _, Nat.zero_le _, rfl, rfl, ⟨OwnI.nil _ _, Below.refl _ _⟩⟩
  case round =>
    obtain ⟨k, s, hk, rfl, rfl, H⟩ := hrel
    by_cases hlt : k < bs.length
    · obtain ⟨b, off, rfl, hb, hc⟩ := (HS0.out.below (H.out.2.mono hB)).at_ (by omega)
      have hc1 := hc k hlt
      obtain ⟨x, hx⟩ : ∃ x, x = bs[k] := ⟨_, rfl⟩
      rw [← hx] at hc1
      have HX : Shh (pcs 4 (bs.take (k + 1)) = pcs 4 (bs.take k) ++ dg 4 x) := ⟨by rw [take_snoc bs k hlt, pcs_snoc, hx]⟩
      obtain ⟨L, hL⟩ : ∃ L, L = pcs 4 (bs.take k) := ⟨_, rfl⟩
      have hLl : L.length ≤ 8000000 := by rw [hL, pcs_length, List.length_take]; omega
      rw [← hL] at H HX
      have hx8 : x.toNat < 256 := x.toNat_lt
      clear hc hx hL
      go_wp2
      go_loopw [5, 7, 16] (fun o y i wr => ∃ (j n : Nat) (s : Value), j ≤ 2 ∧ s = o ∧ i = .int .i64 j ∧ y = .int .u8 (n : Int) ∧ n < 256 ∧ Shh (n = lft 4 x j) ∧ Shh (OwnI wr w.heap.size s (L ++ (dg 4 x).take j) ∧ Below w.heap.size w wr)) (fun _ _ i _ => 2 - (intOf i).toNat)
      case atStart => exact ⟨0, x.toNat, _, Nat.zero_le _, rfl, rfl, rfl, hx8, ⟨(lft_zero _ _).symm⟩, ⟨by simpa using H.out.1, H.out.2⟩⟩
      case round =>
        obtain ⟨j, n, s, hj, rfl, rfl, rfl, hn, HN, H⟩ := hrel
        by_cases hjl : j < 2
        · have HD : Shh (L ++ (dg 4 x).take (j + 1) = (L ++ (dg 4 x).take j) ++ [n / 16]) := ⟨by rw [dg_take 4 x j hjl, HN.out, ← lft_piece 4 (by unfold wOk; omega) x j hjl, List.append_assoc]⟩
          have HE : Shh (n * 16 % 256 = lft 4 x (j + 1)) := ⟨by rw [← lft_step, HN.out]⟩
          have hMl : (L ++ (dg 4 x).take j).length ≤ 8000010 := by rw [List.length_append, List.length_take]; omega
          obtain ⟨M, hM⟩ : ∃ M, M = L ++ (dg 4 x).take j := ⟨_, rfl⟩
          rw [← hM] at H HD hMl
          have hz := H.out.2.size
          have hm : n * 16 % 256 < 256 := Nat.mod_lt _ (by decide)
          clear hM HN
          go_wp2_with (at_builtin; refine wp_append1i _ 29 3 i0 (.int .i64 0) Try.underlying29 hi hz0 hz1 hz2 rfl rfl _ _ rfl H.out.1 rfl rfl rfl (by omega) hz ?_)
          intro v' w1 hown' hgrow hbl
          have e : ((n / 16 : Nat) : Int) = (n : Int) / 16 := by omega
          rw [← e] at hown'
          have F : Shh (OwnI w1 w.heap.size v' (L ++ (dg 4 x).take (j + 1)) ∧ Below w.heap.size w w1) := ⟨by rw [HD.out]; exact OwnI.snoc hown', H.out.2.trans (hbl _ (Nat.le_refl _))⟩
          clear e
          clear hown' hgrow hbl HD hz H
          go_wp2
          go_roundw
          case rel => exact ⟨j + 1, n * 16 % 256, _, by omega, rfl, by go_num, by go_num, hm, HE, F⟩
          case measure => simp [intOf]; omega
        · have hjN : j = 2 := by omega
          have F : Shh (OwnI wr w.heap.size s (pcs 4 (bs.take (k + 1))) ∧ Below w.heap.size w wr) := ⟨by
            have h := H.out.1
            rw [List.take_of_length_le (by rw [dg_length, hjN]; omega), ← HX.out] at h
            exact h, H.out.2⟩
          clear H HX HN hjN
          go_wp2
          go_roundw
          case rel => exact ⟨k + 1, _, by omega, rfl, by go_num, F⟩
          case measure => simp [intOf]; omega
    · have F : Shh (OwnI wr w.heap.size s (pcs 4 bs) ∧ Below w.heap.size w wr) := ⟨by
        have h := H.out.1
        rw [List.take_of_length_le (by omega)] at h
        exact h, H.out.2⟩
      clear H
      go_wp2
      go_ret
      exact ⟨_, rfl, F.out.1, F.out.2⟩
end Go.Proofs.Ytcbcgegppnojmaa

/-
  WALK: the pieces of 8 bits: the program's.
-/
namespace Go.Proofs.Ytcbcgegppnojmaa
open Go.RowKit
set_option maxRecDepth 100000
set_option maxHeartbeats 2000000 in
theorem pieces_8 (B : Nat) (v : Value) (bs : List UInt8) (w : World) (hs : Sl w B v bs) (hB : B ≤ w.heap.size) (hl : bs.length ≤ 1000000) :
    Calls Try.prog 23 #[v, .int .i64 8] w (IntsIs w (pcs 8 bs)) := by
  unfold IntsIs
  obtain ⟨i0, hi, hz0, hz1, hz2⟩ := info_parts info_int
  obtain ⟨A, c, rfl, _, _⟩ := hs.form
  have HS0 := Shh.mk hs
  clear hs
  go_enter Try.func23, Try.ntmps23
  go_wp2
  go_loopw [5, 7, 10] (fun o _ i wr => ∃ (k : Nat) (s : Value), k ≤ bs.length ∧ s = o ∧ i = .int .i64 k ∧ Shh (OwnI wr w.heap.size s (pcs 8 (bs.take k)) ∧ Below w.heap.size w wr)) (fun _ _ i _ => bs.length - (intOf i).toNat)
  case atStart => exact ⟨0, _, Nat.zero_le _, rfl, rfl, ⟨OwnI.nil _ _, Below.refl _ _⟩⟩
  case round =>
    obtain ⟨k, s, hk, rfl, rfl, H⟩ := hrel
    by_cases hlt : k < bs.length
    · obtain ⟨b, off, rfl, hb, hc⟩ := (HS0.out.below (H.out.2.mono hB)).at_ (by omega)
      have hc1 := hc k hlt
      obtain ⟨x, hx⟩ : ∃ x, x = bs[k] := ⟨_, rfl⟩
      rw [← hx] at hc1
      have HX : Shh (pcs 8 (bs.take (k + 1)) = pcs 8 (bs.take k) ++ dg 8 x) := ⟨by rw [take_snoc bs k hlt, pcs_snoc, hx]⟩
      obtain ⟨L, hL⟩ : ∃ L, L = pcs 8 (bs.take k) := ⟨_, rfl⟩
      have hLl : L.length ≤ 8000000 := by rw [hL, pcs_length, List.length_take]; omega
      rw [← hL] at H HX
      have hx8 : x.toNat < 256 := x.toNat_lt
      clear hc hx hL
      go_wp2
      go_loopw [5, 7, 16] (fun o y i wr => ∃ (j n : Nat) (s : Value), j ≤ 1 ∧ s = o ∧ i = .int .i64 j ∧ y = .int .u8 (n : Int) ∧ n < 256 ∧ Shh (n = lft 8 x j) ∧ Shh (OwnI wr w.heap.size s (L ++ (dg 8 x).take j) ∧ Below w.heap.size w wr)) (fun _ _ i _ => 1 - (intOf i).toNat)
      case atStart => exact ⟨0, x.toNat, _, Nat.zero_le _, rfl, rfl, rfl, hx8, ⟨(lft_zero _ _).symm⟩, ⟨by simpa using H.out.1, H.out.2⟩⟩
      case round =>
        obtain ⟨j, n, s, hj, rfl, rfl, rfl, hn, HN, H⟩ := hrel
        by_cases hjl : j < 1
        · have HD : Shh (L ++ (dg 8 x).take (j + 1) = (L ++ (dg 8 x).take j) ++ [n / 1]) := ⟨by rw [dg_take 8 x j hjl, HN.out, ← lft_piece 8 (by unfold wOk; omega) x j hjl, List.append_assoc]⟩
          have HE : Shh (n * 256 % 256 = lft 8 x (j + 1)) := ⟨by rw [← lft_step, HN.out]⟩
          have hMl : (L ++ (dg 8 x).take j).length ≤ 8000010 := by rw [List.length_append, List.length_take]; omega
          obtain ⟨M, hM⟩ : ∃ M, M = L ++ (dg 8 x).take j := ⟨_, rfl⟩
          rw [← hM] at H HD hMl
          have hz := H.out.2.size
          have hm : n * 256 % 256 < 256 := Nat.mod_lt _ (by decide)
          clear hM HN
          go_wp2_with (at_builtin; refine wp_append1i _ 29 3 i0 (.int .i64 0) Try.underlying29 hi hz0 hz1 hz2 rfl rfl _ _ rfl H.out.1 rfl rfl rfl (by omega) hz ?_)
          intro v' w1 hown' hgrow hbl
          have e : ((n / 1 : Nat) : Int) = (n : Int) := by omega
          rw [← e] at hown'
          have F : Shh (OwnI w1 w.heap.size v' (L ++ (dg 8 x).take (j + 1)) ∧ Below w.heap.size w w1) := ⟨by rw [HD.out]; exact OwnI.snoc hown', H.out.2.trans (hbl _ (Nat.le_refl _))⟩
          clear e
          clear hown' hgrow hbl HD hz H
          go_wp2
          go_roundw
          case rel => exact ⟨j + 1, n * 256 % 256, _, by omega, rfl, by go_num, by go_num, hm, HE, F⟩
          case measure => simp [intOf]; omega
        · have hjN : j = 1 := by omega
          have F : Shh (OwnI wr w.heap.size s (pcs 8 (bs.take (k + 1))) ∧ Below w.heap.size w wr) := ⟨by
            have h := H.out.1
            rw [List.take_of_length_le (by rw [dg_length, hjN]; omega), ← HX.out] at h
            exact h, H.out.2⟩
          clear H HX HN hjN
          go_wp2
          go_roundw
          case rel => exact ⟨k + 1, _, by omega, rfl, by go_num, F⟩
          case measure => simp [intOf]; omega
    · have F : Shh (OwnI wr w.heap.size s (pcs 8 bs) ∧ Below w.heap.size w wr) := ⟨by
        have h := H.out.1
        rw [List.take_of_length_le (by omega)] at h
        exact h, H.out.2⟩
      clear H
      go_wp2
      go_ret
      exact ⟨_, rfl, F.out.1, F.out.2⟩
end Go.Proofs.Ytcbcgegppnojmaa
