/-
  WALKS: octet.Same, octet.Choose, octet.Xor.
-/
import Derived.Test.YtijkhpiehaocpaaLive
namespace Go.Proofs.Ytijkhpiehaocpaa
open Go.RowKit

theorem or_xor_zero (d a b : UInt8) : d ||| (a ^^^ b) = 0 ↔ d = 0 ∧ a = b := by
  rw [UInt8.or_eq_zero_iff, UInt8.xor_eq_zero_iff]
theorem and255 (a : UInt8) : bits .and .u8 (a.toNat : Int) 255 = a.toNat := by
  have h := u8_and a 255
  have e : a &&& 255 = a := by
    apply UInt8.toNat_inj.1
    rw [UInt8.toNat_and]
    show a.toNat &&& (2 ^ 8 - 1) = a.toNat
    rw [Nat.and_two_pow_sub_one_eq_mod]
    exact Nat.mod_eq_of_lt a.toNat_lt
  rw [e] at h
  exact h
theorem and0 (a : UInt8) : bits .and .u8 (a.toNat : Int) 0 = 0 := by
  have := u8_and a 0
  simpa using this
theorem andNot255 (a : UInt8) : bits .andNot .u8 (a.toNat : Int) 255 = 0 := by
  have h := u8_andNot a 255
  have e : a &&& ~~~255 = 0 := by
    have e2 : (~~~255 : UInt8) = 0 := by decide
    rw [e2]; simp
  rw [e] at h
  exact h
theorem andNot0 (a : UInt8) : bits .andNot .u8 (a.toNat : Int) 0 = a.toNat := by
  have h := u8_andNot a 0
  have e : a &&& ~~~0 = a := by
    have e2 : (~~~0 : UInt8) = 255 := by decide
    rw [e2]
    apply UInt8.toNat_inj.1
    rw [UInt8.toNat_and]
    show a.toNat &&& (2 ^ 8 - 1) = a.toNat
    rw [Nat.and_two_pow_sub_one_eq_mod]
    exact Nat.mod_eq_of_lt a.toNat_lt
  rw [e] at h
  exact h
theorem or0 (a : UInt8) : bits .or .u8 (a.toNat : Int) 0 = a.toNat := by
  have := u8_or a 0
  simpa using this
theorem zor (a : UInt8) : bits .or .u8 0 (a.toNat : Int) = a.toNat := by
  have := u8_or 0 a
  simpa using this

set_option maxHeartbeats 1000000 in
theorem same_any (B B' : Nat) (va vb : Value) (us bs : List UInt8) (w : World) (ha : Sl w B va us) (hb : Sl w B' vb bs) (hl : us.length ≤ 1099511627776) (_hl2 : bs.length ≤ 1099511627776) :
    Calls Try.prog 30 #[va, vb] w fun e w' => e = .returned (.bool (us == bs)) ∧ w = w' := by
  obtain ⟨A, c, rfl, _, _⟩ := ha.form
  obtain ⟨A', c', rfl, _, _⟩ := hb.form
  by_cases hlen : us.length = bs.length
  · have HL := Lib.hid hlen
    have ht : ((us.length : Int) != (bs.length : Int)) = false := by rw [bne_eq_false_iff_eq]; omega
    have hl3 : bs.length ≤ us.length := by omega
    have hl4 : us.length ≤ bs.length := by omega
    clear hlen
    go_enter Try.func30, Try.ntmps30
    go_wp2
    go_loop [5, 15] (fun x i => ∃ (k : Nat) (d : UInt8), k ≤ us.length ∧ i = .int .i64 k ∧ x = .int .u8 (d.toNat : Int) ∧ Hid (d = 0 ↔ us.take k = bs.take k)) (fun _ i => us.length - (intOf i).toNat)
    case atStart => exact ⟨0, 0, Nat.zero_le _, rfl, rfl, Lib.hid (by simp)⟩
    case round =>
      obtain ⟨k, d, hk, rfl, rfl, hd⟩ := hrel
      by_cases hlt : k < us.length
      · obtain ⟨b, off, rfl, hbb, hc⟩ := ha.at_ (by omega)
        obtain ⟨b', off', rfl, hbb', hc'⟩ := hb.at_ (by omega)
        have hk2 : k < bs.length := by omega
        have hc1 := hc k hlt
        have hc2 := hc' k hk2
        have HX := Lib.hid (u8_xor us[k] bs[k])
        have HO := Lib.hid (u8_or d (us[k] ^^^ bs[k]))
        have hd2 : Hid (d ||| (us[k] ^^^ bs[k]) = 0 ↔ us.take (k + 1) = bs.take (k + 1)) := by
          apply Lib.hid
          rw [or_xor_zero, hd.out, take_snoc us k hlt, take_snoc bs k hk2]
          constructor
          · rintro ⟨h1, h2⟩; rw [h1, h2]
          · intro h
            have := List.append_inj' h rfl
            exact ⟨this.1, by simpa using this.2⟩
        clear hc hc' hd
        go_wp2
        go_round
        case rel => exact ⟨k + 1, d ||| (us[k] ^^^ bs[k]), by omega, by go_num, by rw [HX.out, HO.out], hd2⟩
        case measure => simp [intOf]; omega
      · obtain rfl : k = us.length := by omega
        have HR : Hid (((d.toNat : Int) == 0) = (us == bs)) := by
          apply Lib.hid
          have h1 := hd.out
          rw [List.take_of_length_le (Nat.le_refl _), List.take_of_length_le (by omega)] at h1
          by_cases h : d = 0
          · rw [h1.1 h, h]; simp
          · have h2 : us ≠ bs := fun e => h (h1.2 e)
            rw [beq_eq_false_iff_ne.2 h2, beq_eq_false_iff_ne]
            intro e
            exact h (UInt8.toNat_inj.1 (by simpa using e))
        go_wp2
        go_ret
        exact ⟨by rw [← HR.out]; rfl, rfl⟩
  · have ht : ((us.length : Int) != (bs.length : Int)) = true := by rw [bne_iff_ne]; omega
    have HR : Hid ((us == bs) = false) := Lib.hid (by rw [beq_eq_false_iff_ne]; intro e; exact hlen (by rw [e]))
    clear hlen
    go_enter Try.func30, Try.ntmps30
    go_wp2
    go_ret
    exact ⟨by rw [HR.out]; rfl, rfl⟩

/-! Choose and Xor: the error, or the bytes -/
def pairE (us bs : List UInt8) : Int := if us.length = bs.length then 0 else 1
def chosen (first : Bool) (us bs : List UInt8) : List UInt8 := if us.length = bs.length then (if first then us else bs) else []
def xored (us bs : List UInt8) : List UInt8 := if us.length = bs.length then List.zipWith (· ^^^ ·) us bs else []

theorem gives_blk {w w' : World} {bs : List UInt8} {k : Nat} (hk : bs.length = k) (hm : k ≤ 1099511627776) (h : Blk w' w.heap.size bs) (hb : Below w.heap.size w w') : Gives w bs (.slice (some ⟨w.heap.size, 0, none⟩) k k) w' := by
  subst hk
  exact ⟨h.own (Nat.le_refl _) (by unfold maxLen; omega), hb⟩

set_option maxHeartbeats 1000000 in
theorem choose_any (first : Bool) (B B' : Nat) (va vb : Value) (us bs : List UInt8) (w : World) (ha : Sl w B va us) (hb : Sl w B' vb bs) (hB : B ≤ w.heap.size) (hB' : B' ≤ w.heap.size) (hl : us.length ≤ 1099511627776) (_hl2 : bs.length ≤ 1099511627776) :
    Calls Try.prog 28 #[.bool first, va, vb] w (PutIs w (pairE us bs) (chosen first us bs)) := by
  obtain ⟨A, c, rfl, _, _⟩ := ha.form
  obtain ⟨A', c', rfl, _, _⟩ := hb.form
  unfold pairE chosen
  by_cases hlen : us.length = bs.length
  · rw [if_pos hlen, if_pos hlen]
    have ht : ((us.length : Int) != (bs.length : Int)) = false := by rw [bne_eq_false_iff_eq]; omega
    have hl3 : bs.length ≤ us.length := by omega
    have hl4 : us.length ≤ bs.length := by omega
    have hmk := make_run us.length (by omega)
    clear hlen
    cases first
    all_goals
      simp only [Bool.false_eq_true, if_false, if_true]
      go_enter Try.func28, Try.ntmps28
      go_wp2
    · go_loopw [10, 11, 23] (fun _ _ i wr => ∃ k : Nat, k ≤ us.length ∧ i = .int .i64 k ∧ Blk wr w.heap.size (bs.take k ++ List.replicate (us.length - k) 0) ∧ Below w.heap.size w wr) (fun _ _ i _ => us.length - (intOf i).toNat)
      case atStart => exact ⟨0, Nat.zero_le _, rfl, by simpa using Blk.new w _, (Below.refl _ _).alloc (Nat.le_refl _) _⟩
      case round =>
        obtain ⟨k, hk, rfl, hblk, hbel⟩ := hrel
        by_cases hlt : k < us.length
        · have har := ha.below (hbel.mono hB)
          have hbr := hb.below (hbel.mono hB')
          obtain ⟨b, off, rfl, hbb, hc⟩ := har.at_ (by omega)
          obtain ⟨b', off', rfl, hbb', hc'⟩ := hbr.at_ (by omega)
          have hk2 : k < bs.length := by omega
          have hc1 := hc k hlt
          have hc2 := hc' k hk2
          have hcx := hblk.cell k (by simp; omega)
          have hf := hblk.free k
          have q1 := and0 us[k]
          have q2 := andNot0 bs[k]
          have q3 := zor bs[k]
          have hs := hblk.set_ k bs[k]
          rw [set_step bs k us.length (by omega) hlt] at hs
          have HS := Lib.hid hs
          clear hc hc' hs har hbr
          go_wp2
          go_roundw
          case rel => exact ⟨k + 1, by omega, by go_num, HS.out, hbel.setCell (Nat.le_refl _) _⟩
          case measure => simp [intOf]; omega
        · obtain rfl : k = us.length := by omega
          have HO : Hid (Blk wr w.heap.size bs) := by
            rw [List.take_of_length_le (by omega), Nat.sub_self] at hblk
            exact Lib.hid (by simpa using hblk)
          clear hblk
          go_wp2
          go_ret2
          exact ⟨_, rfl, gives_blk (by omega) hl HO.out hbel⟩
    · go_loopw [10, 11, 23] (fun _ _ i wr => ∃ k : Nat, k ≤ us.length ∧ i = .int .i64 k ∧ Blk wr w.heap.size (us.take k ++ List.replicate (us.length - k) 0) ∧ Below w.heap.size w wr) (fun _ _ i _ => us.length - (intOf i).toNat)
      case atStart => exact ⟨0, Nat.zero_le _, rfl, by simpa using Blk.new w _, (Below.refl _ _).alloc (Nat.le_refl _) _⟩
      case round =>
        obtain ⟨k, hk, rfl, hblk, hbel⟩ := hrel
        by_cases hlt : k < us.length
        · have har := ha.below (hbel.mono hB)
          have hbr := hb.below (hbel.mono hB')
          obtain ⟨b, off, rfl, hbb, hc⟩ := har.at_ (by omega)
          obtain ⟨b', off', rfl, hbb', hc'⟩ := hbr.at_ (by omega)
          have hk2 : k < bs.length := by omega
          have hc1 := hc k hlt
          have hc2 := hc' k hk2
          have hcx := hblk.cell k (by simp; omega)
          have hf := hblk.free k
          have q1 := and255 us[k]
          have q2 := andNot255 bs[k]
          have q3 := or0 us[k]
          have hs := hblk.set_ k us[k]
          rw [set_step us k us.length (by omega) hlt] at hs
          have HS := Lib.hid hs
          clear hc hc' hs har hbr
          go_wp2
          go_roundw
          case rel => exact ⟨k + 1, by omega, by go_num, HS.out, hbel.setCell (Nat.le_refl _) _⟩
          case measure => simp [intOf]; omega
        · obtain rfl : k = us.length := by omega
          have HO : Hid (Blk wr w.heap.size us) := by
            rw [List.take_of_length_le (by omega), Nat.sub_self] at hblk
            exact Lib.hid (by simpa using hblk)
          clear hblk
          go_wp2
          go_ret2
          exact ⟨_, rfl, gives_blk (by omega) hl HO.out hbel⟩
  · rw [if_neg hlen, if_neg hlen]
    have ht : ((us.length : Int) != (bs.length : Int)) = true := by rw [bne_iff_ne]; omega
    clear hlen
    go_enter Try.func28, Try.ntmps28
    go_wp2
    go_ret2
    exact ⟨_, rfl, gives_nil w⟩

set_option maxHeartbeats 1000000 in
theorem xor_any (B B' : Nat) (va vb : Value) (us bs : List UInt8) (w : World) (ha : Sl w B va us) (hb : Sl w B' vb bs) (hB : B ≤ w.heap.size) (hB' : B' ≤ w.heap.size) (hl : us.length ≤ 1099511627776) (_hl2 : bs.length ≤ 1099511627776) :
    Calls Try.prog 29 #[va, vb] w (PutIs w (pairE us bs) (xored us bs)) := by
  obtain ⟨A, c, rfl, _, _⟩ := ha.form
  obtain ⟨A', c', rfl, _, _⟩ := hb.form
  unfold pairE xored
  by_cases hlen : us.length = bs.length
  · rw [if_pos hlen, if_pos hlen]
    have ht : ((us.length : Int) != (bs.length : Int)) = false := by rw [bne_eq_false_iff_eq]; omega
    have hl3 : bs.length ≤ us.length := by omega
    have hl4 : us.length ≤ bs.length := by omega
    have hmk := make_run us.length (by omega)
    obtain ⟨zs, hzs⟩ : ∃ zs, zs = List.zipWith (· ^^^ ·) us bs := ⟨_, rfl⟩
    have HZ := Lib.hid hzs
    have hzl : zs.length = us.length := by rw [hzs]; simp; omega
    have HZL := Lib.hid hzl
    rw [← hzs]
    clear hlen hzs hzl
    go_enter Try.func29, Try.ntmps29
    go_wp2
    go_loopw [7, 8, 19] (fun _ _ i wr => ∃ k : Nat, k ≤ us.length ∧ i = .int .i64 k ∧ Blk wr w.heap.size (zs.take k ++ List.replicate (us.length - k) 0) ∧ Below w.heap.size w wr) (fun _ _ i _ => us.length - (intOf i).toNat)
    case atStart => exact ⟨0, Nat.zero_le _, rfl, by simpa using Blk.new w _, (Below.refl _ _).alloc (Nat.le_refl _) _⟩
    case round =>
      obtain ⟨k, hk, rfl, hblk, hbel⟩ := hrel
      by_cases hlt : k < us.length
      · have har := ha.below (hbel.mono hB)
        have hbr := hb.below (hbel.mono hB')
        obtain ⟨b, off, rfl, hbb, hc⟩ := har.at_ (by omega)
        obtain ⟨b', off', rfl, hbb', hc'⟩ := hbr.at_ (by omega)
        have hk2 : k < bs.length := by omega
        have hc1 := hc k hlt
        have hc2 := hc' k hk2
        have hcx := hblk.cell k (by have := HZL.out; simp; omega)
        have hf := hblk.free k
        have hs := hblk.set_ k (zs[k]'(by have := HZL.out; omega))
        rw [set_step zs k us.length HZL.out hlt] at hs
        have hz : zs[k]'(by have := HZL.out; omega) = us[k] ^^^ bs[k] := by
          have h := HZ.out
          subst h
          simp
        rw [hz, ← u8_xor] at hs
        have HS := Lib.hid hs
        clear hc hc' hs har hbr hz
        go_wp2
        go_roundw
        case rel => exact ⟨k + 1, by omega, by go_num, HS.out, hbel.setCell (Nat.le_refl _) _⟩
        case measure => simp [intOf]; omega
      · obtain rfl : k = us.length := by omega
        have HO : Hid (Blk wr w.heap.size zs) := by
          rw [List.take_of_length_le (by have := HZL.out; omega), Nat.sub_self] at hblk
          exact Lib.hid (by simpa using hblk)
        clear hblk
        go_wp2
        go_ret2
        exact ⟨_, rfl, gives_blk HZL.out hl HO.out hbel⟩
  · rw [if_neg hlen, if_neg hlen]
    have ht : ((us.length : Int) != (bs.length : Int)) = true := by rw [bne_iff_ne]; omega
    clear hlen
    go_enter Try.func29, Try.ntmps29
    go_wp2
    go_ret2
    exact ⟨_, rfl, gives_nil w⟩
end Go.Proofs.Ytijkhpiehaocpaa
