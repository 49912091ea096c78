/-
  WALKS: octet.Runes, octet.inLabel, octet.Label: at every string, valid or not.
-/
import Derived.Test.YtijkhpiehaocpaaRunes
import Derived.BigQuiet
import Derived.Deep.QuietTactic
namespace Go.Proofs.Ytijkhpiehaocpaa
open Go.RowKit

theorem drop_ne (s : ByteArray) (pos : Nat) (h : pos < s.size) : s.data.toList.drop pos ≠ [] := by
  intro e
  have := congrArg List.length e
  rw [List.length_drop] at this
  simp at this
  omega
theorem runes_at (s : ByteArray) (pos : Nat) (h : pos < s.size) : runesL (s.data.toList.drop pos) = (Utf8.decode s pos).1 :: runesL (s.data.toList.drop (pos + (Utf8.decode s pos).2)) := by
  rw [runesL_step _ (drop_ne s pos h), Lib.decodeL_drop, List.drop_drop]
theorem drop_end (s : ByteArray) (pos : Nat) (h : ¬ pos < s.size) : s.data.toList.drop pos = [] := List.drop_eq_nil_of_le (by simp; omega)
/-- An integer is handed back; what was there before the call is as it was. -/
def IntIs (w : World) (n : Int) (e : Ending) (w' : World) : Prop := e = .returned (.int .i64 n) ∧ Below w.heap.size w w'
def BoolIs (w : World) (b : Bool) (e : Ending) (w' : World) : Prop := e = .returned (.bool b) ∧ Below w.heap.size w w'

set_option maxHeartbeats 1000000 in
theorem runes_any (s : ByteArray) (w : World) (hl : s.size ≤ 1099511627776) :
    Calls Try.prog 38 #[.string s] w (IntIs w (runesL s.data.toList).length) := by
  have hrl := runesL_length s.data.toList
  have hsl : s.data.toList.length = s.size := by simp
  have hrl2 : (runesL s.data.toList).length ≤ 1099511627776 := by omega
  clear hrl hsl
  obtain ⟨N, hN⟩ : ∃ N, N = (runesL s.data.toList).length := ⟨_, rfl⟩
  rw [← hN] at hrl2 ⊢
  have HN := Lib.hid hN
  clear hN
  go_enter Try.func38, Try.ntmps38
  go_wp2
  go_loopw [3] (fun c wr => ∃ (pos k : Nat), pos ≤ s.size ∧ c = .int .i64 k ∧ Hid (k + (runesL (s.data.toList.drop pos)).length = N) ∧ wr.heap[w.heap.size]? = some (.stringIter s pos) ∧ Below w.heap.size w wr) (fun _ wr => s.size - wr.iterPos w.heap.size)
  case atStart =>
    refine ⟨0, 0, Nat.zero_le _, rfl, Lib.hid (by rw [List.drop_zero, HN.out]; omega), World.iter_heap w s 0, (Below.refl _ w).alloc (Nat.le_refl _) _⟩
  case round =>
    obtain ⟨pos, k, hps, rfl, hcnt, hit, hbel⟩ := hrel
    by_cases hp : pos < s.size
    · have hnx : ∀ ty, (Instr.next (.pointer (some ⟨w.heap.size, 0, none⟩)) true ty).run Try.prog wr = _ := fun ty => Lib.run_next_any_at wr w.heap.size s pos ty hit hp
      have hwd := width_pos s pos hp
      have hfit := decode_fit s pos hp
      have hst := runes_at s pos hp
      have hit2 := Lib.iterAt_heap wr w.heap.size s pos (pos + (Utf8.decode s pos).2) hit
      have hbel2 := Lib.below_iterAt hbel (k := w.heap.size) (by omega) s (pos + (Utf8.decode s pos).2)
      have hcnt2 : Hid (k + 1 + (runesL (s.data.toList.drop (pos + (Utf8.decode s pos).2))).length = N) := by
        have h := hcnt.out
        rw [hst, List.length_cons] at h
        exact Lib.hid (by omega)
      have hkN : k + 1 ≤ N := by have := hcnt2.out; omega
      have HIT := Lib.hid hit
      have HIT2 := Lib.hid hit2
      clear hst hcnt hit
      go_wp2
      go_roundw
      case rel => exact ⟨pos + (Utf8.decode s pos).2, k + 1, hfit, by go_num, hcnt2, HIT2.out, hbel2⟩
      case measure =>
        simp only [World.iterPos, HIT2.out, HIT.out]
        omega
    · have hnx : ∀ ty, (Instr.next (.pointer (some ⟨w.heap.size, 0, none⟩)) true ty).run Try.prog wr = _ := fun ty => Lib.run_next_end_at wr w.heap.size s pos ty hit hp
      have hk : k = N := by
        have h := hcnt.out
        rw [drop_end s pos hp, runesL_nil] at h
        simpa using h
      subst hk
      clear hcnt HN
      go_wp2
      go_ret
      exact ⟨rfl, hbel⟩

theorem inLabel_no (r : Nat) (w : World) (hr : r ≤ 2147483647) (h : okR r = false) :
    Calls Try.prog 47 #[.int .i32 (r : Int)] w fun e w' => e = .returned (.bool false) ∧ w = w' := by
  by_cases hb : r = 32 ∨ r = 160 ∨ r = 8232 ∨ r = 8233 ∨ r = 12288 ∨ r = 34 ∨ r = 92 ∨ r = 65533
  · clear h
    rcases hb with rfl | rfl | rfl | rfl | rfl | rfl | rfl | rfl
    all_goals
      go_enter Try.func47, Try.ntmps47
      go_wp2
      go_ret
      exact ⟨rfl, rfl⟩
  · have hz : r < 32 ∨ (127 ≤ r ∧ r ≤ 159) := by
      simp only [okR, Bool.and_eq_false_iff, Bool.not_eq_false', Bool.or_eq_true, beq_iff_eq, Bool.or_eq_false_iff, decide_eq_false_iff_not] at h
      omega
    have e1 : ((r : Int) == 32) = false := by rw [beq_eq_false_iff_ne]; omega
    have e2 : ((r : Int) == 160) = false := by rw [beq_eq_false_iff_ne]; omega
    have e3 : ((r : Int) == 8232) = false := by rw [beq_eq_false_iff_ne]; omega
    have e4 : ((r : Int) == 8233) = false := by rw [beq_eq_false_iff_ne]; omega
    have e5 : ((r : Int) == 12288) = false := by rw [beq_eq_false_iff_ne]; omega
    have e6 : ((r : Int) == 34) = false := by rw [beq_eq_false_iff_ne]; omega
    have e7 : ((r : Int) == 92) = false := by rw [beq_eq_false_iff_ne]; omega
    have e8 : ((r : Int) == 65533) = false := by rw [beq_eq_false_iff_ne]; omega
    rcases hz with hz | ⟨hz1, hz2⟩
    · have d1 : decide (32 ≤ (r : Int)) = false := by simp; omega
      clear h hb
      go_enter Try.func47, Try.ntmps47
      go_wp2
      go_ret
      exact ⟨rfl, rfl⟩
    · have d1 : (32 : Int) ≤ r := by omega
      have d2 : decide ((r : Int) < 127) = false := by simp; omega
      have d3 : decide ((159 : Int) < r) = false := by simp; omega
      clear h hb
      go_enter Try.func47, Try.ntmps47
      go_wp2
      go_ret
      exact ⟨rfl, rfl⟩
theorem inLabel_yes (r : Nat) (w : World) (hr : r ≤ 2147483647) (h : okR r = true) :
    Calls Try.prog 47 #[.int .i32 (r : Int)] w fun e w' => e = .returned (.bool true) ∧ w = w' := by
  simp only [okR, Bool.and_eq_true, Bool.not_eq_true', Bool.or_eq_false_iff, beq_eq_false_iff_ne, Bool.or_eq_true, decide_eq_true_eq] at h
  have e1 : ((r : Int) == 32) = false := by rw [beq_eq_false_iff_ne]; omega
  have e2 : ((r : Int) == 160) = false := by rw [beq_eq_false_iff_ne]; omega
  have e3 : ((r : Int) == 8232) = false := by rw [beq_eq_false_iff_ne]; omega
  have e4 : ((r : Int) == 8233) = false := by rw [beq_eq_false_iff_ne]; omega
  have e5 : ((r : Int) == 12288) = false := by rw [beq_eq_false_iff_ne]; omega
  have e6 : ((r : Int) == 34) = false := by rw [beq_eq_false_iff_ne]; omega
  have e7 : ((r : Int) == 92) = false := by rw [beq_eq_false_iff_ne]; omega
  have e8 : ((r : Int) == 65533) = false := by rw [beq_eq_false_iff_ne]; omega
  have d1 : (32 : Int) ≤ r := by omega
  have hz : r < 127 ∨ 159 < r := h.2.2
  clear h
  rcases hz with hz | hz
  · have d2 : (r : Int) < 127 := by omega
    go_enter Try.func47, Try.ntmps47
    go_wp2
    go_ret
    exact ⟨rfl, rfl⟩
  · have d2 : decide ((r : Int) < 127) = false := by simp; omega
    have d3 : (159 : Int) < r := by omega
    go_enter Try.func47, Try.ntmps47
    go_wp2
    go_ret
    exact ⟨rfl, rfl⟩

set_option maxHeartbeats 1000000 in
theorem label_any (s : ByteArray) (w : World) :
    Calls Try.prog 36 #[.string s] w (BoolIs w (lab 0 (runesL s.data.toList))) := by
  obtain ⟨L, hL⟩ : ∃ L, L = lab 0 (runesL s.data.toList) := ⟨_, rfl⟩
  rw [← hL]
  have HL := Lib.hid hL
  clear hL
  go_enter Try.func36, Try.ntmps36
  go_wp2
  go_loopw [3, 5] (fun c _ wr => ∃ (pos k : Nat), pos ≤ s.size ∧ k ≤ 24 ∧ c = .int .i64 k ∧ Hid (lab k (runesL (s.data.toList.drop pos)) = L) ∧ wr.heap[w.heap.size]? = some (.stringIter s pos) ∧ Below w.heap.size w wr) (fun _ _ wr => s.size - wr.iterPos w.heap.size)
  case atStart =>
    refine ⟨0, 0, Nat.zero_le _, by omega, rfl, Lib.hid (by rw [List.drop_zero, HL.out]), World.iter_heap w s 0, (Below.refl _ w).alloc (Nat.le_refl _) _⟩
  case round =>
    obtain ⟨pos, k, hps, hk24, rfl, hcnt, hit, hbel⟩ := hrel
    by_cases hp : pos < s.size
    · have hnx : ∀ ty, (Instr.next (.pointer (some ⟨w.heap.size, 0, none⟩)) true ty).run Try.prog wr = _ := fun ty => Lib.run_next_any_at wr w.heap.size s pos ty hit hp
      have hwd := width_pos s pos hp
      have hfit := decode_fit s pos hp
      have hd1 := decode_le s pos
      have hst := runes_at s pos hp
      have hit2 := Lib.iterAt_heap wr w.heap.size s pos (pos + (Utf8.decode s pos).2) hit
      have hbel2 := Lib.below_iterAt hbel (k := w.heap.size) (by omega) s (pos + (Utf8.decode s pos).2)
      have HIT := Lib.hid hit
      have HIT2 := Lib.hid hit2
      have hcn := hcnt.out
      rw [hst] at hcn
      simp only [lab] at hcn
      clear hst hcnt hit hit2
      by_cases hk : k = 24
      · rw [if_pos (.inl hk)] at hcn
        subst hcn
        subst hk
        clear HL
        go_wp2
        go_ret
        exact ⟨rfl, hbel2⟩
      · have hkb : ((k : Int) == 24) = false := by rw [beq_eq_false_iff_ne]; omega
        cases hok : okR (Utf8.decode s pos).1
        · rw [if_pos (.inr hok)] at hcn
          subst hcn
          clear HL
          go_wp2_with (go_at_call 47; refine (inLabel_no _ _ hd1 hok).mono ?_; rintro e w' ⟨rfl, rfl⟩)
          go_ret
          exact ⟨rfl, hbel2⟩
        · rw [if_neg (by rw [hok]; simp [hk])] at hcn
          have HCN := Lib.hid hcn
          clear hcn
          go_wp2_with (go_at_call 47; refine (inLabel_yes _ _ hd1 hok).mono ?_; rintro e w' ⟨rfl, rfl⟩)
          go_roundw
          case rel => exact ⟨pos + (Utf8.decode s pos).2, k + 1, hfit, by omega, by go_num, HCN, HIT2.out, hbel2⟩
          case measure =>
            simp only [World.iterPos, HIT2.out, HIT.out]
            omega
    · have hnx : ∀ ty, (Instr.next (.pointer (some ⟨w.heap.size, 0, none⟩)) true ty).run Try.prog wr = _ := fun ty => Lib.run_next_end_at wr w.heap.size s pos ty hit hp
      have hk : decide (0 < k) = L := by
        have h := hcnt.out
        rw [drop_end s pos hp, runesL_nil] at h
        exact h
      have HK := Lib.hid hk
      clear hcnt HL hk
      go_wp2
      go_ret
      refine ⟨?_, hbel⟩
      rw [← HK.out]
      by_cases h0 : 0 < k
      · simp [h0]
      · simp [h0]
end Go.Proofs.Ytijkhpiehaocpaa
