/-
  WALKS: the document's own Big, Fits, Put, Turned.
-/
import Derived.Test.YtijkhpiehaocpaaTake
namespace Go.Proofs.Ytijkhpiehaocpaa
open Go.RowKit

theorem set_back (k r : Nat) (x : UInt8) (T : List UInt8) (h : r < k) : (List.replicate (k - r) (0 : UInt8) ++ T).set (k - 1 - r) x = List.replicate (k - (r + 1)) 0 ++ x :: T := by
  obtain ⟨m, rfl⟩ : ∃ m, k = r + (m + 1) := ⟨k - r - 1, by omega⟩
  have e1 : r + (m + 1) - r = m + 1 := by omega
  have e2 : r + (m + 1) - 1 - r = m := by omega
  have e3 : r + (m + 1) - (r + 1) = m := by omega
  rw [e1, e2, e3, List.replicate_succ', List.append_assoc, List.set_append_right _ _ (by simp)]
  simp
theorem litB_take_rev (n k r : Nat) (h : r < k) : ((litB n k).take (r + 1)).reverse = UInt8.ofNat (n / 256 ^ r % 256) :: ((litB n k).take r).reverse := by
  rw [take_snoc _ _ (by rw [litB_length]; exact h), List.reverse_append, litB_getElem]
  rfl
theorem byte_mod (n r : Nat) : (((n / 256 ^ r : Nat) : Int) % 256) = ((UInt8.ofNat (n / 256 ^ r % 256)).toNat : Int) := by
  have h : (UInt8.ofNat (n / 256 ^ r % 256)).toNat = n / 256 ^ r % 256 := by simp
  rw [h]; omega
theorem div_step (n r : Nat) : (((n / 256 ^ r : Nat) : Int) / 256) = ((n / 256 ^ (r + 1) : Nat) : Int) := by
  rw [Nat.pow_succ, ← Nat.div_div_eq_div_mul]; omega

set_option maxHeartbeats 400000 in
theorem refBig_any (n k : Nat) (w : World) (hk : k ≤ 8) (hn : n < 18446744073709551616) :
    Calls Try.prog 19 #[.int .u64 n, .int .i64 k] w fun e w' => ∃ v, e = .returned v ∧ Gives w (bigB n k) v w' := by
  have hmk := make_run k (by omega)
  go_enter Try.func19, Try.ntmps19
  go_wp2
  go_loopw [0, 6] (fun m i wr => ∃ r : Nat, r ≤ k ∧ i = .int .i64 ((k : Int) - 1 - r) ∧ m = .int .u64 ((n / 256 ^ r : Nat) : Int) ∧ Blk wr w.heap.size (List.replicate (k - r) 0 ++ ((litB n k).take r).reverse) ∧ Below w.heap.size w wr) (fun _ i _ => (intOf i + 1).toNat)
  case atStart =>
    exact ⟨0, Nat.zero_le _, by simp, by simp, by simpa using Blk.new w _, (Below.refl _ _).alloc (Nat.le_refl _) _⟩
  case round =>
    obtain ⟨r, hr, rfl, rfl, hblk, hbel⟩ := hrel
    have hq : n / 256 ^ r ≤ n := Nat.div_le_self _ _
    by_cases hlt : r < k
    · have hc := hblk.cell (k - 1 - r) (by simp [litB_length]; omega)
      have hf := hblk.free (k - 1 - r)
      have hs := hblk.set_ (k - 1 - r) (UInt8.ofNat (n / 256 ^ r % 256))
      rw [set_back _ _ _ _ hlt, ← litB_take_rev _ _ _ hlt, ← byte_mod] at hs
      have HS := Lib.hid hs
      have HD := Lib.hid (div_step n r)
      clear hs
      obtain ⟨q, hqq⟩ : ∃ q, q = n / 256 ^ r := ⟨_, rfl⟩
      rw [← hqq] at HS HD hq ⊢
      clear hqq
      go_wp2
      go_roundw
      case rel => exact ⟨r + 1, by omega, by go_num, by rw [← HD.out], by exact HS.out, hbel.setCell (Nat.le_refl _) _⟩
      case measure => simp [intOf]; omega
    · obtain rfl : r = k := by omega
      go_wp2
      go_ret
      refine ⟨_, rfl, own_of_blk (bigB_length _ _) hk ?_ hbel⟩
      rw [List.take_of_length_le (by rw [litB_length]; omega), Nat.sub_self] at hblk
      exact hblk

set_option maxHeartbeats 400000 in
theorem refFits_any (n k : Nat) (w : World) (hk : k ≤ 8) (hn : n < 18446744073709551616) :
    Calls Try.prog 42 #[.int .u64 n, .int .i64 k] w fun e w' => e = .returned (.bool (decide (n < 256 ^ k))) ∧ w = w' := by
  go_enter Try.func42, Try.ntmps42
  go_wp2
  go_loop [0, 6] (fun m i => ∃ r : Nat, r ≤ k ∧ i = .int .i64 r ∧ m = .int .u64 ((n / 256 ^ r : Nat) : Int)) (fun _ i => k - (intOf i).toNat)
  case atStart => exact ⟨0, Nat.zero_le _, rfl, by simp⟩
  case round =>
    obtain ⟨r, hr, rfl, rfl⟩ := hrel
    have hq : n / 256 ^ r ≤ n := Nat.div_le_self _ _
    by_cases hlt : r < k
    · have HD := Lib.hid (div_step n r)
      obtain ⟨q, hqq⟩ : ∃ q, q = n / 256 ^ r := ⟨_, rfl⟩
      rw [← hqq] at HD hq ⊢
      clear hqq
      go_wp2
      go_round
      case rel => exact ⟨r + 1, by omega, by go_num, by rw [← HD.out]⟩
      case measure => simp [intOf]; omega
    · obtain rfl : r = k := by omega
      have hp : 0 < 256 ^ r := Nat.pow_pos (by decide)
      have HE : Hid (decide (n < 256 ^ r) = (((n / 256 ^ r : Nat) : Int) == 0)) := by
        apply Lib.hid
        by_cases h : n < 256 ^ r
        · rw [decide_eq_true h, Nat.div_eq_of_lt h]; rfl
        · rw [decide_eq_false h]
          have := Nat.div_pos (Nat.le_of_not_lt h) hp
          symm
          rw [beq_eq_false_iff_ne]
          omega
      obtain ⟨q, hqq⟩ : ∃ q, q = n / 256 ^ r := ⟨_, rfl⟩
      rw [← hqq] at HE hq ⊢
      clear hqq
      go_wp2
      go_ret
      exact ⟨by rw [HE.out]; rfl, rfl⟩

theorem gives_nil (w : World) : Gives w [] (.slice none 0 0) w := ⟨World.ownsRow_nil _ _ _ _, Below.refl _ _⟩
def putB (n : Nat) (size : Int) : List UInt8 := if putErr n size = 0 then bigB n size.toNat else []

theorem refPut_any (n : Nat) (m : Int) (w : World) (hn : n < 18446744073709551616) :
    Calls Try.prog 11 #[.int .u64 n, .int .i64 m] w fun e w' => ∃ v, e = .returned (.tuple #[v, .int .i64 (putErr n m)]) ∧ Gives w (putB n m) v w' := by
  by_cases h1 : m < 1
  · have e1 : putErr n m = 1 := by rw [putErr, if_pos (Or.inl h1)]
    rw [putB, e1]
    clear e1
    go_enter Try.func11, Try.ntmps11
    go_wp2
    go_ret2
    exact ⟨_, rfl, gives_nil w⟩
  · by_cases h2 : 8 < m
    · have e1 : putErr n m = 1 := by rw [putErr, if_pos (Or.inr h2)]
      rw [putB, e1]
      clear e1
      have d1 : decide (m < 1) = false := by simpa using h1
      clear h1
      go_enter Try.func11, Try.ntmps11
      go_wp2
      go_ret2
      exact ⟨_, rfl, gives_nil w⟩
    · obtain ⟨k, rfl⟩ := Int.eq_ofNat_of_zero_le (show 0 ≤ m by omega)
      have d1 : decide ((k : Int) < 1) = false := by simpa using h1
      by_cases h3 : 256 ^ k ≤ n
      · have e1 : putErr n k = 3 := by rw [putErr, if_neg (by omega), Int.toNat_natCast, if_pos h3]
        rw [putB, e1]
        clear e1
        have HF : Hid (decide (n < 256 ^ k) = false) := Lib.hid (decide_eq_false (by omega))
        clear h3
        go_enter Try.func11, Try.ntmps11
        go_wp2_with (go_at_call 42; refine (refFits_any n k _ (by omega) hn).mono ?_; rw [HF.out]; rintro e w' ⟨rfl, rfl⟩)
        go_ret2
        exact ⟨_, rfl, gives_nil _⟩
      · have e1 : putErr n k = 0 := by rw [putErr, if_neg (by omega), Int.toNat_natCast, if_neg h3]
        rw [putB, e1]
        clear e1
        have HF : Hid (decide (n < 256 ^ k) = true) := Lib.hid (decide_eq_true (by omega))
        clear h3
        go_enter Try.func11, Try.ntmps11
        go_wp2_with (go_at_call 42; refine (refFits_any n k _ (by omega) hn).mono ?_; rw [HF.out]; rintro e w' ⟨rfl, rfl⟩)
        refine (refBig_any n k _ (by omega) hn).mono ?_
        rintro e w1 ⟨v, rfl, hg⟩
        go_wp2
        go_ret2
        exact ⟨_, rfl, hg⟩

set_option maxHeartbeats 400000 in
theorem refTurned_any (B : Nat) (v : Value) (bs : List UInt8) (w : World) (hs : Sl w B v bs) (hB : B ≤ w.heap.size) (hl : bs.length ≤ 140737488355328) :
    Calls Try.prog 15 #[v] w fun e w' => ∃ v', e = .returned v' ∧ Gives w bs.reverse v' w' := by
  obtain ⟨i0, hi, hz0, hz1, hz2⟩ := info_parts info_u8
  obtain ⟨A, c, rfl, _, _⟩ := hs.form
  go_enter Try.func15, Try.ntmps15
  go_wp2
  go_loopw [3, 4] (fun o i wr => ∃ r : Nat, r ≤ bs.length ∧ i = .int .i64 ((bs.length : Int) - 1 - r) ∧ wr.ownsRow w.heap.size 5 1 o r (Lib.byteCells (bs.reverse.take r)) ∧ Below w.heap.size w wr) (fun _ i _ => (intOf i + 1).toNat)
  case atStart =>
    exact ⟨0, Nat.zero_le _, by simp, World.ownsRow_made w #[] 0 (Nat.le_refl _) (Nat.zero_le _) rfl, (Below.refl _ _).alloc (Nat.le_refl _) _⟩
  case round =>
    obtain ⟨r, hr, rfl, hown, hbel⟩ := hrel
    have hsr := hs.below (hbel.mono hB)
    by_cases hlt : r < bs.length
    · obtain ⟨b, off, rfl, hb, hc⟩ := hsr.at_ (by omega)
      have hc1 := hc (bs.length - 1 - r) (by omega)
      have HX : Hid (Lib.byteCells (bs.reverse.take (r + 1)) = Lib.byteCells (bs.reverse.take r) ++ [.int .u8 (bs[bs.length - 1 - r].toNat : Int)]) := by
        apply Lib.hid
        rw [take_snoc _ _ (by simpa using hlt), Lib.byteCells_append, List.getElem_reverse]
        rfl
      have hsz := hbel.size
      generalize Lib.byteCells (bs.reverse.take r) = xs at hown HX
      clear hc hsr hs
      go_wp2_with (at_builtin; refine wp_append1 _ 23 5 i0 (.int .u8 0) Try.underlying23 hi hz0 hz1 hz2 rfl rfl _ _ rfl hown rfl rfl rfl (by omega) hsz ?_)
      intro v' w1 hown1 _ hb1
      rw [← HX.out] at hown1
      go_wp2
      go_roundw
      case rel => exact ⟨r + 1, by omega, by go_num, hown1, hbel.trans (hb1 _ (Nat.le_refl _))⟩
      case measure => simp [intOf]; omega
    · obtain rfl : r = bs.length := by omega
      rw [List.take_of_length_le (by simp)] at hown
      have HO := Lib.hid (own_len hown (show bs.length = bs.reverse.length by rw [List.length_reverse]))
      clear hsr hs hown
      go_wp2
      go_ret
      exact ⟨_, rfl, HO.out, hbel⟩
end Go.Proofs.Ytijkhpiehaocpaa
