/-
  THE WALK of the document's own Xor; the bytes of the bits of bytes.
-/
import Derived.Test.YtijkhpiehaocpaaFrom
import Derived.Deep.RegionLaw
namespace Go.Proofs.Ytijkhpiehaocpaa
open Go.RowKit

theorem bitAt_test (b : UInt8) (i : Nat) : bitAt b i = b.toNat.testBit i := by
  unfold bitAt
  rw [Nat.testBit_eq_decide_div_mod_eq]
theorem bits8_xor (a b : UInt8) : List.zipWith (fun p q => p != q) (bits8 a) (bits8 b) = bits8 (a ^^^ b) := by
  unfold bits8
  apply List.ext_getElem (by simp)
  intro i h1 h2
  simp only [List.getElem_zipWith, List.getElem_map, List.getElem_range, bitAt_test, UInt8.toNat_xor, Nat.testBit_xor]
theorem bitsL_xor (us bs : List UInt8) (h : us.length = bs.length) : List.zipWith (fun p q => p != q) (bitsL us) (bitsL bs) = bitsL (List.zipWith (· ^^^ ·) us bs) := by
  induction us generalizing bs with
  | nil => simp [bitsL]
  | cons a r ih =>
    cases bs with
    | nil => simp at h
    | cons b s =>
      have e1 : bitsL (a :: r) = bits8 a ++ bitsL r := by simp [bitsL]
      have e2 : bitsL (b :: s) = bits8 b ++ bitsL s := by simp [bitsL]
      have e3 : bitsL ((a ^^^ b) :: List.zipWith (· ^^^ ·) r s) = bits8 (a ^^^ b) ++ bitsL (List.zipWith (· ^^^ ·) r s) := by simp [bitsL]
      rw [e1, e2, List.zipWith_cons_cons, e3, List.zipWith_append (by rw [bits8_length, bits8_length]), bits8_xor, ih s (by simpa using h)]
theorem valB_bits8 (b : UInt8) : UInt8.ofNat (valB (bits8 b)) = b := by
  have key : ∀ n : Fin 256, UInt8.ofNat (valB (bits8 (UInt8.ofNat n.val))) = UInt8.ofNat n.val := by decide +kernel
  have e : UInt8.ofNat b.toNat = b := by simp
  have := key ⟨b.toNat, b.toNat_lt⟩
  simp only [e] at this
  exact this
theorem chunk_bitsL (bs : List UInt8) (j : Nat) (h : j < bs.length) : chunk (bitsL bs) j = bits8 bs[j] := by
  induction bs generalizing j with
  | nil => simp at h
  | cons b r ih =>
    have e1 : bitsL (b :: r) = bits8 b ++ bitsL r := by simp [bitsL]
    rw [e1]
    cases j with
    | zero =>
      unfold chunk
      rw [Nat.mul_zero, List.drop_zero, List.take_append_of_le_length (by rw [bits8_length]; omega), List.take_of_length_le (by rw [bits8_length]; omega)]
      rfl
    | succ j =>
      have := ih j (by simpa using h)
      unfold chunk at this ⊢
      rw [show 8 * (j + 1) = (bits8 b).length + 8 * j by rw [bits8_length]; omega, ← List.drop_drop, List.drop_left, this]
      rfl
theorem fromBits_bitsL (bs : List UInt8) : fromBits (bitsL bs) = bs := by
  apply List.ext_getElem (by rw [fromBits_length, bitsL_length]; omega)
  intro j h1 h2
  have h := fromN_get (bitsL bs) (((bitsL bs).length + 7) / 8) j h1
  rw [chunk_bitsL bs j h2, valB_bits8] at h
  exact h

theorem own_base {w : World} {base base' : Nat} {e : TypeId} {v : Value} {n : Nat} {xs : List Value} (h : w.ownsRow base e 1 v n xs) (hb : base' ≤ base) : w.ownsRow base' e 1 v n xs := by
  refine ⟨h.1, ?_⟩
  rcases h.2 with hn | ⟨g, cap, cur, hv, hg, rest⟩
  · exact .inl hn
  · exact .inr ⟨g, cap, cur, hv, by omega, rest⟩

set_option maxHeartbeats 2000000 in
theorem refXor_any (B B' : Nat) (va vb : Value) (us bs : List UInt8) (w : World) (ha : Sl w B va us) (hb : Sl w B' vb bs) (hB : B ≤ w.heap.size) (hB' : B' ≤ w.heap.size) (hl : us.length ≤ 1048576) (hlen : us.length = bs.length) :
    Calls Try.prog 31 #[va, vb] w (OwnIs w (List.zipWith (· ^^^ ·) us bs)) := by
  obtain ⟨i0, hi, hz0, hz1, hz2⟩ := info_parts info_bool
  have hl2 : bs.length ≤ 1048576 := by omega
  have hx := bitsL_xor us bs hlen
  have HX := Lib.hid hx
  have hlb : (bitsL us).length = (bitsL bs).length := by rw [bitsL_length, bitsL_length, hlen]
  have hlm : (bitsL us).length ≤ 8388608 := by rw [bitsL_length]; omega
  have HF := Lib.hid (fromBits_bitsL (List.zipWith (· ^^^ ·) us bs))
  clear hx hlen
  generalize List.zipWith (· ^^^ ·) us bs = zs at *
  go_enter Try.func31, Try.ntmps31
  go_wp2_with fail
  refine (refBits_any _ _ us _ ha hB (by omega)).mono ?_
  rintro e w1 ⟨v1, rfl, o1, b1⟩
  have x1 := Slb.of_own o1
  have hb1 := hb.below (b1.mono hB')
  clear o1
  go_wp2_with fail
  refine (refBits_any _ _ bs _ hb1 (Nat.le_trans hB' b1.size) (by omega)).mono ?_
  rintro e w2 ⟨v2, rfl, o2, b2⟩
  have x2 := x1.step b2
  have y2 := Slb.of_own o2
  have b12 := Below.chain b1 b2
  clear o2 x1 hb1
  have HLB := Lib.hid hlb
  have hlb1 : (bitsL us).length ≤ (bitsL bs).length := by omega
  clear hlb
  generalize bitsL us = p at *
  generalize bitsL bs = q at *
  obtain ⟨A1, c1, rfl, _, _⟩ := x2.form
  obtain ⟨A2, c2, rfl, _, _⟩ := y2.form
  obtain ⟨zb, hzb⟩ : ∃ zb, zb = List.zipWith (fun p q => p != q) p q := ⟨_, rfl⟩
  have HZ := Lib.hid hzb
  rw [← hzb] at HX
  have hzl : zb.length = p.length := by rw [hzb]; have := HLB.out; simp; omega
  have HZL := Lib.hid hzl
  clear hzb hzl
  go_wp2
  go_loopw [7, 8, 16] (fun o _ i wr => ∃ k : Nat, k ≤ p.length ∧ i = .int .i64 k ∧ wr.ownsRow w2.heap.size 4 1 o k (boolCells (zb.take k)) ∧ Below w2.heap.size w2 wr) (fun _ _ i _ => p.length - (intOf i).toNat)
  case atStart =>
    exact ⟨0, Nat.zero_le _, rfl, World.ownsRow_made w2 #[] 0 (Nat.le_refl _) (Nat.zero_le _) rfl, (Below.refl _ _).alloc (Nat.le_refl _) _⟩
  case round =>
    obtain ⟨k, hk, rfl, hown, hbel⟩ := hrel
    have hsz := hbel.size
    have x3 := x2.below hbel
    have y3 := y2.below hbel
    by_cases hlt : k < p.length
    · have hlt2 : k < q.length := by omega
      obtain ⟨g1, f1, rfl, _, hc1⟩ := x3.at_ (by omega)
      obtain ⟨g2, f2, rfl, _, hc2⟩ := y3.at_ (by omega)
      have d1 := hc1 k hlt
      have d2 := hc2 k hlt2
      have HZK : Hid (boolCells (zb.take (k + 1)) = boolCells (zb.take k) ++ [.bool (p[k] != q[k])]) := by
        have h := HZ.out
        have h2 : k < zb.length := by rw [HZL.out]; exact hlt
        rw [take_snoc zb k h2, boolCells_append]
        subst h
        simp only [List.getElem_zipWith]
        exact Lib.hid rfl
      clear hc1 hc2 x3 y3
      generalize boolCells (zb.take k) = xs at *
      generalize p[k] = b1' at *
      generalize q[k] = b2' at *
      go_wp2
      go_region_law (refine step_appendN_d _ 39 4 i0 (.bool false) _ Try.underlying39 hi hz0 hz1 hz2 rfl rfl (.tmp 19) (.tmp 29) rfl (by exact hown) rfl 1 rfl rfl (by simp [Value.oneCell']) (by omega) (by exact hsz) ?_; intro v1 w4 hown1 _ hb4)
      all_goals
        have HO : Hid (w4.ownsRow w2.heap.size 4 1 v1 (k + 1) (boolCells (zb.take (k + 1)))) := by
          rw [HZK.out]
          exact Lib.hid hown1
        clear hown1
        go_wp2
        go_roundw
        case rel => exact ⟨k + 1, by omega, by go_num, HO.out, hbel.trans (hb4 _ (Nat.le_refl _))⟩
        case measure => simp [intOf]; omega
    · obtain rfl : k = p.length := by omega
      rw [List.take_of_length_le (by rw [HZL.out]; exact Nat.le_refl _)] at hown
      have hso := Slb.of_own (own_len hown HZL.out.symm)
      have hzl2 : zb.length ≤ 8388608 := by rw [HZL.out]; exact hlm
      clear hown
      go_wp2_with fail
      refine (refFromBits_any _ _ zb _ hso (Nat.le_refl _) (by omega)).mono ?_
      rintro e w5 ⟨v5, rfl, g5⟩
      go_wp2
      go_ret
      rw [HX.out, HF.out] at g5
      exact ⟨_, rfl, own_base g5.1 (Nat.le_trans b12.size hbel.size), Below.trans (b12.trans (hbel.mono b12.size)) (g5.2.mono (Nat.le_trans b12.size hbel.size))⟩
end Go.Proofs.Ytijkhpiehaocpaa
