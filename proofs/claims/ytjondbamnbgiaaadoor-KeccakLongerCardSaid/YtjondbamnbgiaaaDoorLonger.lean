/-
  WALK: the law KeccakLonger.
-/
import Derived.Test.YtjondbamnbgiaaaDoorLive
namespace Go.Proofs.YtjondbamnbgiaaaDoor
open Go.RowKit
set_option maxRecDepth 100000

theorem run_cut (A : Option Addr) (n c j : Nat) (hj : j ≤ c) (w : World) : (Instr.sliceAt 29 (.slice A n c) none (some (.int .i64 (j : Int))) none).run Tryd.prog w = .ok (sliced A 0 j c 1) w := by
  rw [run_sliceAt_slice _ _ _ _ _ _ slice30, run_slice_h w 29 A n c slice30 .i64 (j : Int) (by omega) (by omega), elem30, run_sizeOf_u8, Result.andThen_ok, Int.toNat_natCast]
theorem Sp.outs_take (rate : Nat) : ∀ (n N : Nat), n ≤ N → ∀ s : Sp, (s.outs rate N).take n = s.outs rate n
  | 0, _, _, _ => rfl
  | n + 1, 0, h, _ => absurd h (by omega)
  | n + 1, N + 1, h, s => congrArg (byteL (s.next rate).l ((s.next rate).at_ - 1) :: ·) (Sp.outs_take rate n N (by omega) (s.next rate))

set_option maxHeartbeats 2000000 in
theorem longer_any (b : Bool) (v1 : Value) (bs : List UInt8) (s m : Int) (w : World) (hs : Sl w w.heap.size v1 bs) (hv : Vars w) :
    Calls Tryd.prog 8 #[.bool b, v1, .int .i64 s, .int .i64 m] w (TrueIs w) := by
  unfold TrueIs
  obtain ⟨A, c, rfl, _, _⟩ := hs.form
  go_enter Tryd.func8, Tryd.ntmps8
  go_wp2_with (go_at_call 12; refine (live_any _ hv).mono ?_)
  rintro e w1 ⟨rfl, b1⟩
  have hv1 := hv.step b1
  clear hv
  by_cases h1 : s < 0
  · have d1 : decide (s < 0) = true := by simpa using h1
    clear h1
    go_wp2_with (go_at_call 12; refine (live_any _ hv1).mono ?_)
    rintro e w2 ⟨rfl, b2⟩
    go_wp2
    go_ret
    exact ⟨rfl, b1.trans (b2.mono b1.size)⟩
  have d1 : decide (s < 0) = false := by simpa using h1
  by_cases h2 : m < 0
  · have d2 : decide (m < 0) = true := by simpa using h2
    clear h1 h2
    go_wp2_with (go_at_call 12; refine (live_any _ hv1).mono ?_)
    rintro e w2 ⟨rfl, b2⟩
    go_wp2
    go_ret
    exact ⟨rfl, b1.trans (b2.mono b1.size)⟩
  have d2 : decide (m < 0) = false := by simpa using h2
  by_cases h3 : 1500 < s
  · have d3 : decide (1500 < s) = true := by simpa using h3
    clear h1 h2 h3
    go_wp2_with (go_at_call 12; refine (live_any _ hv1).mono ?_)
    rintro e w2 ⟨rfl, b2⟩
    go_wp2
    go_ret
    exact ⟨rfl, b1.trans (b2.mono b1.size)⟩
  have d3 : decide (1500 < s) = false := by simpa using h3
  by_cases h4 : 1500 < m
  · have d4 : decide (1500 < m) = true := by simpa using h4
    clear h1 h2 h3 h4
    go_wp2_with (go_at_call 12; refine (live_any _ hv1).mono ?_)
    rintro e w2 ⟨rfl, b2⟩
    go_wp2
    go_ret
    exact ⟨rfl, b1.trans (b2.mono b1.size)⟩
  have d4 : decide (1500 < m) = false := by simpa using h4
  by_cases h5 : 2000 < (bs.length : Int)
  · have d5 : decide (2000 < (bs.length : Int)) = true := by simpa using h5
    clear h1 h2 h3 h4 h5
    go_wp2_with (go_at_call 12; refine (live_any _ hv1).mono ?_)
    rintro e w2 ⟨rfl, b2⟩
    go_wp2
    go_ret
    exact ⟨rfl, b1.trans (b2.mono b1.size)⟩
  have d5 : decide (2000 < (bs.length : Int)) = false := by simpa using h5
  obtain ⟨n, rfl⟩ := Int.eq_ofNat_of_zero_le (show 0 ≤ s by omega)
  obtain ⟨k, rfl⟩ := Int.eq_ofNat_of_zero_le (show 0 ≤ m by omega)
  have hn : n ≤ 1500 := by omega
  obtain ⟨N, hN1, hN2, hnN, hmin, hmin2⟩ : ∃ N : Nat, (n : Int) + (k : Int) = (N : Int) ∧ N ≤ 3000 ∧ n ≤ N ∧ (if (N : Int) < (n : Int) then (N : Int) else (n : Int)) = (n : Int) ∧ (if N < n then (N : Int) else (n : Int)) = (n : Int) := ⟨n + k, by omega, by omega, by omega, by split <;> omega, by split <;> omega⟩
  clear h1 h2 h3 h4 h5
  have hs1 := hs.below b1
  have hz1 := b1.size
  have bA : Below w1.heap.size w1 (w1.alloc (.cells #[.slice A bs.length c] 29)) := Below.alloc (Below.refl _ _) (Nat.le_refl _) _
  have hvA := hv1.step bA
  have hpA : PartsO (w1.alloc (.cells #[.slice A bs.length c] 29)) (w1.heap.size + 1) (w1.heap.size + 1) (.slice (some ⟨w1.heap.size, 0, none⟩) 1 1) [bs] :=
    PartsO.solo (Row.new_ rfl rfl) (Nat.lt_succ_self _) (by omega) ((hs1.below (Below.alloc (Below.refl _ _) (by omega) _)).more (by omega)) (hs1.off (by omega))
  clear hs1
  cases b
  · go_wp2_with (go_at_call 22; refine (shake_ok128 n (by omega) [bs] (by simp) (w1.heap.size + 1) _ _ hpA (by rw [asz]; exact Nat.le_refl _) hvA).mono ?_)
    rintro e w2 ⟨q, rfl, hq, hrq, b2⟩
    rw [asz] at hq
    have b12 := bA.trans (b2.mono bA.size)
    have b02 := b1.trans (b12.mono b1.size)
    have hs2 := hs.below b02
    have hv2 := hv1.step b12
    have hq2 := hrq.lt
    have hz2 := b12.size
    clear hpA hvA bA b2 b12 hv1
    have hpB : PartsO (w2.alloc (.cells #[.slice A bs.length c] 29)) (w2.heap.size + 1) (w2.heap.size + 1) (.slice (some ⟨w2.heap.size, 0, none⟩) 1 1) [bs] :=
      PartsO.solo (Row.new_ rfl rfl) (Nat.lt_succ_self _) (by omega) ((hs2.below (Below.alloc (Below.refl _ _) (Nat.le_of_lt (by omega)) _)).more (by omega)) (hs2.off (by omega))
    have bB : Below w2.heap.size w2 (w2.alloc (.cells #[.slice A bs.length c] 29)) := Below.alloc (Below.refl _ _) (Nat.le_refl _) _
    have hvB := hv2.step bB
    have hrB := hrq.below bB hq2
    go_wp2_with (go_at_call 22; refine (shake_ok128 N (by omega) [bs] (by simp) (w2.heap.size + 1) _ _ hpB (by rw [asz]; exact Nat.le_refl _) hvB).mono ?_)
    rintro e w3 ⟨p, rfl, hp, hrp, b3⟩
    have hrq3 := hrB.below b3 (by rw [asz]; omega)
    have b23 := bB.trans (b3.mono bB.size)
    have b03 := b02.trans (b23.mono b02.size)
    have hp3 := hrp.lt
    have hz3 := b23.size
    have hxl : (spongeL 168 31 [bs].flatten n).length = n := Sp.outs_length _ _ _
    have hyl : (spongeL 168 31 [bs].flatten N).length = N := Sp.outs_length _ _ _
    have hX := Sl.of_bytes hrq3 (B := w3.heap.size) (by omega) hxl (by omega)
    have hY := (Sl.of_bytes hrp (B := w3.heap.size) hp3 hyl (by omega)).cut 0 n (Nat.zero_le _) (by omega) (by omega)
    have hcut := run_cut (some ⟨p, 0, none⟩) N N n (by omega) w3
    have HT : Hid ((spongeL 168 31 [bs].flatten N).take n = spongeL 168 31 [bs].flatten n) := Lib.hid (Sp.outs_take 168 n N hnN _)
    rw [List.drop_zero, HT.out] at hY
    clear HT hxl hyl hpB bB hvB hrB b3 b23 b02 hrq hrq3 hrp hs2
    generalize sliced (some ⟨p, 0, none⟩) 0 n N 1 = vs at *
    generalize spongeL 168 31 [bs].flatten n = ex at *
    go_wp2_with (go_at_call 19; refine (refEqual_any _ _ _ _ ex ex _ hX hY).mono ?_)
    rintro e w5 ⟨rfl, rfl⟩
    go_wp2
    go_ret
    exact ⟨by simp, b03⟩
  · go_wp2_with (go_at_call 22; refine (shake_ok256 n (by omega) [bs] (by simp) (w1.heap.size + 1) _ _ hpA (by rw [asz]; exact Nat.le_refl _) hvA).mono ?_)
    rintro e w2 ⟨q, rfl, hq, hrq, b2⟩
    rw [asz] at hq
    have b12 := bA.trans (b2.mono bA.size)
    have b02 := b1.trans (b12.mono b1.size)
    have hs2 := hs.below b02
    have hv2 := hv1.step b12
    have hq2 := hrq.lt
    have hz2 := b12.size
    clear hpA hvA bA b2 b12 hv1
    have hpB : PartsO (w2.alloc (.cells #[.slice A bs.length c] 29)) (w2.heap.size + 1) (w2.heap.size + 1) (.slice (some ⟨w2.heap.size, 0, none⟩) 1 1) [bs] :=
      PartsO.solo (Row.new_ rfl rfl) (Nat.lt_succ_self _) (by omega) ((hs2.below (Below.alloc (Below.refl _ _) (Nat.le_of_lt (by omega)) _)).more (by omega)) (hs2.off (by omega))
    have bB : Below w2.heap.size w2 (w2.alloc (.cells #[.slice A bs.length c] 29)) := Below.alloc (Below.refl _ _) (Nat.le_refl _) _
    have hvB := hv2.step bB
    have hrB := hrq.below bB hq2
    go_wp2_with (go_at_call 22; refine (shake_ok256 N (by omega) [bs] (by simp) (w2.heap.size + 1) _ _ hpB (by rw [asz]; exact Nat.le_refl _) hvB).mono ?_)
    rintro e w3 ⟨p, rfl, hp, hrp, b3⟩
    have hrq3 := hrB.below b3 (by rw [asz]; omega)
    have b23 := bB.trans (b3.mono bB.size)
    have b03 := b02.trans (b23.mono b02.size)
    have hp3 := hrp.lt
    have hz3 := b23.size
    have hxl : (spongeL 136 31 [bs].flatten n).length = n := Sp.outs_length _ _ _
    have hyl : (spongeL 136 31 [bs].flatten N).length = N := Sp.outs_length _ _ _
    have hX := Sl.of_bytes hrq3 (B := w3.heap.size) (by omega) hxl (by omega)
    have hY := (Sl.of_bytes hrp (B := w3.heap.size) hp3 hyl (by omega)).cut 0 n (Nat.zero_le _) (by omega) (by omega)
    have hcut := run_cut (some ⟨p, 0, none⟩) N N n (by omega) w3
    have HT : Hid ((spongeL 136 31 [bs].flatten N).take n = spongeL 136 31 [bs].flatten n) := Lib.hid (Sp.outs_take 136 n N hnN _)
    rw [List.drop_zero, HT.out] at hY
    clear HT hxl hyl hpB bB hvB hrB b3 b23 b02 hrq hrq3 hrp hs2
    generalize sliced (some ⟨p, 0, none⟩) 0 n N 1 = vs at *
    generalize spongeL 136 31 [bs].flatten n = ex at *
    go_wp2_with (go_at_call 19; refine (refEqual_any _ _ _ _ ex ex _ hX hY).mono ?_)
    rintro e w5 ⟨rfl, rfl⟩
    go_wp2
    go_ret
    exact ⟨by simp, b03⟩
end Go.Proofs.YtjondbamnbgiaaaDoor
