/-
  WALKS: the document's own Unhex: at every string, valid or not.
-/
import Derived.Test.YtijkhpiehaocpaaRefHex
namespace Go.Proofs.Ytijkhpiehaocpaa
open Go.RowKit

theorem nib_sum (a b : Nat) (ha : a < 16) (hb : b < 16) : (16 * (a : Int) + (b : Int)) = ((UInt8.ofNat (16 * a + b)).toNat : Int) := by
  have : (UInt8.ofNat (16 * a + b)).toNat = 16 * a + b := by simp; omega
  rw [this]; omega

set_option maxHeartbeats 1000000 in
theorem refUnhex_any (s : ByteArray) (w : World) (hl : s.size ≤ 1099511627776) :
    Calls Try.prog 33 #[.string s] w fun e w' => ∃ v, e = .returned (.tuple #[v, .int .i64 (hexN s.data.toList), .int .i64 (unE s.data.toList)]) ∧ Gives w (unB s.data.toList) v w' := by
  obtain ⟨i0, hi, hz0, hz1, hz2⟩ := info_parts info_u8
  obtain ⟨l, hll⟩ : ∃ l, l = s.data.toList := ⟨_, rfl⟩
  rw [← hll]
  have hsz : l.length = s.size := by rw [hll]; simp
  have HSZ := Lib.hid hsz
  have HG : Hid (∀ k (h : k < s.size), l[k]? = some s[k]) := by
    apply Lib.hid
    intro k h
    rw [List.getElem?_eq_getElem (by omega)]
    subst hll
    rw [bytes_get s k h]
  clear hll hsz
  go_enter Try.func33, Try.ntmps33
  go_wp2
  go_loopw [5, 6, 7] (fun o c h wr => ∃ (k : Nat) (hv : UInt8), k ≤ s.size ∧ c = .int .i64 k ∧ h = .int .i64 (hexV hv) ∧ isHexB hv = true ∧ Hid (k % 2 = 1 → l[k - 1]? = some hv) ∧ Hid (∀ j b, l[j]? = some b → j < k → isHexB b = true) ∧
      wr.ownsRow w.heap.size 5 1 o (k / 2) (Lib.byteCells (pairs (l.take k))) ∧ wr.heap[w.heap.size + 1]? = some (.stringIter s k) ∧ Below w.heap.size w wr) (fun _ c _ _ => s.size - (intOf c).toNat)
  case atStart =>
    refine ⟨0, 48, Nat.zero_le _, rfl, rfl, rfl, Lib.hid (fun h => by simp at h), Lib.hid (fun j _ _ h => by omega), ?_, ?_, ?_⟩
    · exact (World.ownsRow_made w #[] 0 (Nat.le_refl _) (Nat.zero_le _) rfl).alloc _
    · have := World.iter_heap (w.alloc (.cells #[] 5)) s 0
      simpa using this
    · exact ((Below.refl _ w).alloc (Nat.le_refl _) _).alloc (by simp) _
  case round =>
    obtain ⟨k, hv, hk, rfl, rfl, hhv, hodd, hall, hown, hit, hbel⟩ := hrel
    by_cases hp : k < s.size
    · have hbelS := hbel.size
      have hbel2 := Lib.below_iterAt hbel (k := w.heap.size + 1) (by omega) s (k + 1)
      have hit2 := Lib.iterAt_heap wr (w.heap.size + 1) s k (k + 1) hit
      have hown2 := own_iterAt hown hit (k + 1)
      cases hb : isHexB s[k]
      · have hr := rune_nohex s k hp hb
        have hnx : ∀ ty, (Instr.next (.pointer (some ⟨w.heap.size + 1, 0, none⟩)) true ty).run Try.prog wr = _ := fun ty => Lib.run_next_any_at wr (w.heap.size + 1) s k ty hit hp
        have hN : hexN l = k := by
          have h1 := HG.out k hp
          have h2 := HSZ.out
          obtain ⟨h3, h4⟩ := List.getElem?_eq_some_iff.1 h1
          exact hexN_stop l k (fun j hj hjk => hall.out j _ (List.getElem?_eq_getElem hj) hjk) h3 (by rw [h4]; exact hb)
        have hno : ¬ unOk l := fun h => by have h1 := h.1; have h2 := HSZ.out; omega
        have hB : unB l = [] := if_neg hno
        have hE : unE l = 10 := if_neg hno
        have HN := Lib.hid hN
        have HB := Lib.hid hB
        have HE := Lib.hid hE
        have hbel3 := Lib.below_iterAt hbel (k := w.heap.size + 1) (by omega) s (k + (Utf8.decode s k).2)
        clear hno hN hB hE hown2 hit2 hbel2 hown
        go_wp2_with (go_at_call 46; refine (refDigit_no _ _ hr).mono ?_; rintro e w' ⟨rfl, rfl⟩)
        go_ret3
        rw [HB.out, HE.out, HN.out]
        exact ⟨_, rfl, World.ownsRow_nil _ _ _ _, hbel3⟩
      · have hnx : ∀ ty, (Instr.next (.pointer (some ⟨w.heap.size + 1, 0, none⟩)) true ty).run Try.prog wr = _ := fun ty => Lib.run_next_any_at wr (w.heap.size + 1) s k ty hit hp
        rw [rune_hex s k hp hb] at hnx
        have hlk : l[k]? = some s[k] := HG.out k hp
        have hall2 : Hid (∀ j b, l[j]? = some b → j < k + 1 → isHexB b = true) := by
          apply Lib.hid
          intro j b hj hjk
          by_cases e : j = k
          · subst e
            rw [hlk] at hj
            injection hj with hj
            rw [← hj]; exact hb
          · exact hall.out j b hj (by omega)
        have hl16' := hexV_lt s[k] hb
        by_cases hpar : k % 2 = 0
        · have hodd2 : Hid ((k + 1) % 2 = 1 → l[k + 1 - 1]? = some s[k]) := Lib.hid (fun _ => by simpa using hlk)
          have HO : ∀ v, wr.ownsRow w.heap.size 5 1 v (k / 2) (Lib.byteCells (pairs (l.take k))) → Hid ((wr.iterAt (w.heap.size + 1) s (k + 1)).ownsRow w.heap.size 5 1 v ((k + 1) / 2) (Lib.byteCells (pairs (l.take (k + 1))))) := by
            intro v hv
            rw [pairs_even l k (by have := HSZ.out; omega) hpar, show (k + 1) / 2 = k / 2 by omega]
            exact Lib.hid (own_iterAt hv hit (k + 1))
          have HO2 := HO _ hown
          have ht : ((k : Int) % 2 == 0) = true := by rw [beq_iff_eq]; omega
          clear HO hown hown2 hodd hall hlk hpar
          go_wp2_with (go_at_call 46; refine (refDigit_hex _ _ hb).mono ?_; rintro e w' ⟨rfl, rfl⟩)
          go_roundw
          case rel => exact ⟨k + 1, s[k], by omega, by go_num, rfl, hb, hodd2, hall2, HO2.out, hit2, hbel2⟩
          case measure => simp [intOf]; omega
        · have hlk1 := hodd.out (by omega)
          have hl16 := hexV_lt hv hhv
          have HNIB := Lib.hid (nib_sum _ _ hl16 hl16')
          have hodd2 : Hid ((k + 1) % 2 = 1 → l[k + 1 - 1]? = some hv) := Lib.hid (fun h => by omega)
          have HX : Hid (Lib.byteCells (pairs (l.take (k + 1))) = Lib.byteCells (pairs (l.take k)) ++ [.int .u8 ((UInt8.ofNat (16 * hexV hv + hexV s[k])).toNat : Int)]) := by
            apply Lib.hid
            have h2 := HSZ.out
            rw [pairs_step l k (by omega) (by omega), Lib.byteCells_append]
            have g1 : l[k - 1]'(by omega) = hv := by rw [List.getElem?_eq_getElem (by omega)] at hlk1; exact Option.some.inj hlk1
            have g2 : l[k]'(by omega) = s[k] := by rw [List.getElem?_eq_getElem (by omega)] at hlk; exact Option.some.inj hlk
            rw [g1, g2]
            rfl
          have ht : ((k : Int) % 2 == 0) = false := by rw [beq_eq_false_iff_ne]; omega
          have hK : Hid (k / 2 + 1 = (k + 1) / 2) := Lib.hid (by omega)
          have hsz2 : w.heap.size ≤ (wr.iterAt (w.heap.size + 1) s (k + 1)).heap.size := by rw [Lib.iterAt_size]; omega
          generalize Lib.byteCells (pairs (l.take k)) = xs at hown hown2 HX
          clear hown hodd hall hlk hlk1 hpar
          go_wp2_with (first
            | (go_at_call 46; refine (refDigit_hex _ _ hb).mono ?_; rintro e w' ⟨rfl, rfl⟩)
            | (at_builtin; refine wp_append1 _ 23 5 i0 (.int .u8 0) Try.underlying23 hi hz0 hz1 hz2 rfl rfl _ _ rfl hown2 rfl rfl rfl (by omega) hsz2 ?_))
          intro v' w1 hown1 hg1 hb1
          have hit3 := iter_grown hown2 hit2 hg1
          rw [HNIB.out, ← HX.out] at hown1
          have HO := Lib.hid (own_len hown1 hK.out)
          clear hown1 hg1
          go_wp2
          go_roundw
          case rel => exact ⟨k + 1, hv, by omega, by go_num, rfl, hhv, hodd2, hall2, HO.out, hit3, hbel2.trans (hb1 _ (Nat.le_refl _))⟩
          case measure => simp [intOf]; omega
    · obtain rfl : k = s.size := by omega
      have hnx : ∀ ty, (Instr.next (.pointer (some ⟨w.heap.size + 1, 0, none⟩)) true ty).run Try.prog wr = _ := fun ty => Lib.run_next_end_at wr (w.heap.size + 1) s s.size ty hit hp
      have hN : hexN l = s.size := by
        have h2 := HSZ.out
        rw [← h2]
        exact hexN_all l (fun j hj => hall.out j _ (List.getElem?_eq_getElem hj) (by omega))
      rw [List.take_of_length_le (by have h2 := HSZ.out; omega)] at hown
      by_cases hpar : s.size % 2 = 0
      · have hok : unOk l := ⟨by rw [hN, HSZ.out], by rw [HSZ.out]; exact hpar⟩
        have hB : unB l = pairs l := if_pos hok
        have hE : unE l = 0 := if_pos hok
        have HN := Lib.hid hN
        have HB := Lib.hid hB
        have HE := Lib.hid hE
        have ht : ((s.size : Int) % 2 == 1) = false := by rw [beq_eq_false_iff_ne]; omega
        have HO := Lib.hid (own_len hown (show s.size / 2 = (pairs l).length by rw [pairs_length, HSZ.out]))
        clear hok hB hE hN hown hpar
        go_wp2
        go_ret3
        rw [HB.out, HE.out, HN.out]
        exact ⟨_, rfl, HO.out, hbel⟩
      · have hok : ¬ unOk l := fun h => hpar (by have := h.2; rwa [HSZ.out] at this)
        have hB : unB l = [] := if_neg hok
        have hE : unE l = 10 := if_neg hok
        have HN := Lib.hid hN
        have HB := Lib.hid hB
        have HE := Lib.hid hE
        have ht : ((s.size : Int) % 2 == 1) = true := by rw [beq_iff_eq]; omega
        clear hok hB hE hN hown hpar
        go_wp2
        go_ret3
        rw [HB.out, HE.out, HN.out]
        exact ⟨_, rfl, World.ownsRow_nil _ _ _ _, hbel⟩
end Go.Proofs.Ytijkhpiehaocpaa
