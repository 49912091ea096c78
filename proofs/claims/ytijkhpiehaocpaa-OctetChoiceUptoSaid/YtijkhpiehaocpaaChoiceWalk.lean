/-
  THE WALK of liverylaw01.OctetChoice.
-/
import Derived.Test.YtijkhpiehaocpaaBits
import Derived.Test.YtijkhpiehaocpaaNumbersWalk
namespace Go.Proofs.Ytijkhpiehaocpaa
open Go.RowKit

theorem bits8_zero (b : UInt8) : (bits8 b).count true = 0 ↔ b = 0 := by
  have key : ∀ n : Fin 256, (bits8 (UInt8.ofNat n.val)).count true = 0 ↔ UInt8.ofNat n.val = 0 := by decide +kernel
  have e : UInt8.ofNat b.toNat = b := by simp
  have := key ⟨b.toNat, b.toNat_lt⟩
  simp only [e] at this
  exact this
theorem bitsL_zero (bs : List UInt8) : (bitsL bs).count true = 0 ↔ ∀ b ∈ bs, b = 0 := by
  induction bs with
  | nil => simp [bitsL]
  | cons b r ih =>
    have e : bitsL (b :: r) = bits8 b ++ bitsL r := by simp [bitsL]
    rw [e, List.count_append, Nat.add_eq_zero_iff, bits8_zero, ih]
    simp
theorem zip_zero (us bs : List UInt8) (h : us.length = bs.length) : (∀ b ∈ List.zipWith (· ^^^ ·) us bs, b = 0) ↔ us = bs := by
  induction us generalizing bs with
  | nil =>
    cases bs with
    | nil => simp
    | cons b r => simp at h
  | cons a r ih =>
    cases bs with
    | nil => simp at h
    | cons b s =>
      simp only [List.zipWith_cons_cons, List.mem_cons, forall_eq_or_imp, List.cons.injEq]
      rw [ih s (by simpa using h), UInt8.xor_eq_zero_iff]
theorem xored_count (us bs : List UInt8) (h : us.length = bs.length) : (((bitsL (xored us bs)).count true : Int) == 0) = (us == bs) := by
  have h1 : (bitsL (xored us bs)).count true = 0 ↔ us = bs := by
    unfold xored
    rw [if_pos h, bitsL_zero, zip_zero us bs h]
  by_cases hc : us = bs
  · rw [beq_iff_eq.2 hc, beq_iff_eq]
    have := h1.2 hc
    omega
  · rw [beq_eq_false_iff_ne.2 hc, beq_eq_false_iff_ne]
    intro e
    exact hc (h1.1 (by omega))
theorem xored_length (us bs : List UInt8) : (xored us bs).length ≤ us.length := by
  unfold xored
  split
  · simp; omega
  · simp
theorem xored_twice (us bs : List UInt8) (h : us.length = bs.length) : pairE (xored us bs) bs = 0 ∧ xored (xored us bs) bs = us := by
  have e : xored us bs = List.zipWith (· ^^^ ·) us bs := if_pos h
  have hl : (List.zipWith (· ^^^ ·) us bs).length = bs.length := by simp; omega
  rw [e]
  refine ⟨if_pos hl, ?_⟩
  unfold xored
  rw [if_pos hl]
  apply List.ext_getElem (by simp; omega)
  intro i h1 h2
  simp [UInt8.xor_assoc]
theorem chosen_length (f : Bool) (us bs : List UInt8) : (chosen f us bs).length ≤ us.length := by
  unfold chosen
  split
  · split
    · exact Nat.le_refl _
    · omega
  · simp

theorem count_take (l : List Bool) (k : Nat) (h : k < l.length) : (l.take (k + 1)).count true = (l.take k).count true + (if l[k] = true then 1 else 0) := by
  rw [take_snoc l k h, List.count_append]
  cases l[k] <;> simp

set_option maxHeartbeats 4000000 in
set_option maxRecDepth 100000 in
theorem choice_walk (va vb : Value) (us bs : List UInt8) (w : World) (ha : Sl w w.heap.size va us) (hb : Sl w w.heap.size vb bs) (hl : us.length ≤ 1048576) (hl2 : bs.length ≤ 1048576) :
    Calls Try.prog 7 #[va, vb] w (TrueIs w) := by
  have hxl := xored_length us bs
  go_enter Try.func7, Try.ntmps7
  go_wp2_with fail
  refine (choose_any true _ _ _ _ us bs _ ha hb (Nat.le_refl _) (Nat.le_refl _) (by omega) (by omega)).mono ?_
  rintro e w1 ⟨v1, rfl, g1⟩
  have ha1 := ha.step g1.2
  have hb1 := hb.step g1.2
  go_wp2_with fail
  refine (choose_any false _ _ _ _ us bs _ ha1 hb1 (Nat.le_refl _) (Nat.le_refl _) (by omega) (by omega)).mono ?_
  rintro e w2 ⟨v2, rfl, g2⟩
  have ha2 := ha1.step g2.2
  have hb2 := hb1.step g2.2
  have b12 := Below.chain g1.2 g2.2
  have c2 := (gives_sl g1).step g2.2
  have d2 := gives_sl g2
  clear g1 g2 ha hb ha1 hb1
  go_wp2_with fail
  refine (xor_any _ _ _ _ us bs _ ha2 hb2 (Nat.le_refl _) (Nat.le_refl _) (by omega) (by omega)).mono ?_
  rintro e w3 ⟨v3, rfl, g3⟩
  have ha3 := ha2.step g3.2
  have hb3 := hb2.step g3.2
  have c3 := c2.step g3.2
  have d3 := d2.step g3.2
  have x3 := gives_sl g3
  have b13 := Below.chain b12 g3.2
  clear g3 ha2 hb2 c2 d2 b12
  go_wp2_with fail
  refine (xor_any _ _ _ _ (xored us bs) bs _ x3 hb3 (Nat.le_refl _) (Nat.le_refl _) (by omega) (by omega)).mono ?_
  rintro e w4 ⟨v4, rfl, g4⟩
  have ha4 := ha3.step g4.2
  have hb4 := hb3.step g4.2
  have c4 := c3.step g4.2
  have d4 := d3.step g4.2
  have x4 := x3.step g4.2
  have y4 := gives_sl g4
  have b14 := Below.chain b13 g4.2
  clear g4 ha3 hb3 c3 d3 x3 b13
  go_wp2_with fail
  refine (live_any _).mono ?_
  rintro e w5 ⟨rfl, b5⟩
  have ha5 := ha4.step b5
  have hb5 := hb4.step b5
  have c5 := c4.step b5
  have d5 := d4.step b5
  have x5 := x4.step b5
  have y5 := y4.step b5
  have b15 := Below.chain b14 b5
  clear ha4 hb4 c4 d4 x4 y4 b14 b5
  by_cases hlen : us.length = bs.length
  · have hE : pairE us bs = 0 := if_pos hlen
    obtain ⟨hE2, hY⟩ := xored_twice us bs hlen
    have hC : chosen true us bs = us := by unfold chosen; rw [if_pos hlen, if_pos rfl]
    have hD : chosen false us bs = bs := by unfold chosen; rw [if_pos hlen]; rfl
    have HCNT := Lib.hid (xored_count us bs hlen)
    rw [hC] at c5
    rw [hD] at d5
    rw [hY] at y5
    rw [hE, hE2]
    have HBL := Lib.hid (bitsL_length (xored us bs))
    clear hE hE2 hY hC hD hlen
    generalize xored us bs = xs at *
    go_wp2_with (go_at_call 22; refine (bits_any _ _ xs _ x5 (Nat.le_refl _) (by omega)).mono ?_)
    rintro e w6 ⟨v6, rfl, o6, b6⟩
    have ha6 := ha5.step b6
    have hb6 := hb5.step b6
    have c6 := c5.step b6
    have d6 := d5.step b6
    have y6 := y5.step b6
    have b16 := Below.chain b15 b6
    have hbl : (bitsL xs).length ≤ 8388608 := by rw [HBL.out]; omega
    clear ha5 hb5 c5 d5 x5 y5 b15 b6 HBL
    generalize bitsL xs = l at *
    have hown : ∀ k (hk : k < l.length), ∃ g cap, v6 = .slice (some ⟨g, 0, none⟩) l.length cap ∧ w6.cell? ⟨g, k, none⟩ = some (.bool l[k]) := by
      intro k hk
      rcases o6.2 with ⟨_, h0⟩ | ⟨g, cap, cur, hv, _⟩
      · omega
      · subst hv
        refine ⟨g, cap, rfl, ?_⟩
        rw [o6.cellAt k (by omega)]
        simp [boolCells, List.getElem?_eq_getElem hk]
    obtain ⟨A6, c6', rfl⟩ := own_form o6
    have HOWN := Lib.hid hown
    clear hown o6
    go_wp2
    go_loop [13, 15, 68] (fun n _ i => ∃ k : Nat, k ≤ l.length ∧ i = .int .i64 k ∧ n = .int .i64 (((l.take k).count true : Nat) : Int)) (fun _ _ i => l.length - (intOf i).toNat)
    case atStart => exact ⟨0, Nat.zero_le _, rfl, rfl⟩
    case round =>
      obtain ⟨k, hk, rfl, rfl⟩ := hrel
      have hcl : (l.take k).count true ≤ k := by
        have := List.count_le_length (a := true) (l := l.take k)
        rw [List.length_take] at this
        omega
      by_cases hlt : k < l.length
      · obtain ⟨g, cap, hv, hcell⟩ := HOWN.out k hlt
        injection hv with hv1 _ hv2
        subst hv1
        have HT := Lib.hid (count_take l k hlt)
        clear hv2
        generalize (l.take k).count true = cn at *
        cases hbk : l[k]
        · rw [hbk] at hcell HT
          go_wp2
          go_round
          case rel => exact ⟨k + 1, by omega, by go_num, by rw [HT.out]; rfl⟩
          case measure => simp [intOf]; omega
        · rw [hbk] at hcell HT
          go_wp2
          go_round
          case rel => exact ⟨k + 1, by omega, by go_num, by rw [HT.out]; go_num⟩
          case measure => simp [intOf]; omega
      · obtain rfl : k = l.length := by omega
        have hcnt := HCNT.out
        go_wp2_with fail
        refine (refEqual_any _ _ _ _ us us _ y6 ha6).mono ?_
        rintro e w' ⟨rfl, rfl⟩
        go_wp2_with fail
        refine (refEqual_any _ _ _ _ us us _ c6 ha6).mono ?_
        rintro e w' ⟨rfl, rfl⟩
        go_wp2_with fail
        refine (refEqual_any _ _ _ _ bs bs _ d6 hb6).mono ?_
        rintro e w' ⟨rfl, rfl⟩
        go_wp2_with fail
        refine (same_any _ _ _ _ us bs _ ha6 hb6 (by omega) (by omega)).mono ?_
        rintro e w' ⟨rfl, rfl⟩
        go_wp2_with fail
      
        refine (same_any _ _ _ _ us us _ ha6 ha6 (by omega) (by omega)).mono ?_
        rintro e w' ⟨rfl, rfl⟩
        go_wp2_with fail
        go_ret
        exact ⟨by simp, b16⟩
  · have hE : pairE us bs = 1 := if_neg hlen
    have ht : ((us.length : Int) != (bs.length : Int)) = true := by rw [bne_iff_ne]; omega
    have hne : (us == bs) = false := by rw [beq_eq_false_iff_ne]; intro e; exact hlen (by rw [e])
    rw [hE]
    clear hE hlen
    generalize chosen true us bs = q1 at *
    generalize chosen false us bs = q2 at *
    generalize pairE (xored us bs) bs = q3 at *
    obtain ⟨A, c, rfl, _, _⟩ := ha5.form
    obtain ⟨A', c', rfl, _, _⟩ := hb5.form
    go_wp2_with fail
    refine (same_any _ _ _ _ us bs _ ha5 hb5 (by omega) (by omega)).mono ?_
    rintro e w' ⟨rfl, rfl⟩
    go_wp2_with fail
    go_ret
  
    exact ⟨by simp, b15⟩
end Go.Proofs.Ytijkhpiehaocpaa
