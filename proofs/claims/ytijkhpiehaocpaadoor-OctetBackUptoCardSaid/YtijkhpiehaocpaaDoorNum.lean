/-
  WALKS: octet.Number: at every string: the number whose decimal digits it is, or api.ErrDigit. Condition: the listed variables hold what the program's text lays in them.
-/
import Derived.Test.YtijkhpiehaocpaaDoorDec
import Derived.Lib.ParseIntBCases
import Derived.Lib.AtoiErrMem
import Derived.Lib.ItoaLen
namespace Go.Proofs.YtijkhpiehaocpaaDoor
open Go.Shelf Go.RowKit
set_option maxRecDepth 100000

/-- The variables that are read hold what the program's text lays in them. -/
def Vars (w : World) : Prop := Pow w ∧ (∃ t p, w.cell? ⟨0, 0, none⟩ = some (.iface t p)) ∧ (∃ t p, w.cell? ⟨1, 0, none⟩ = some (.iface t p))
theorem Vars.step {w w' : World} (h : Vars w) (hb : Below w.heap.size w w') : Vars w' := by
  obtain ⟨hp, ⟨t, p, h1⟩, ⟨t', p', h2⟩⟩ := h
  exact ⟨Lib.tabBelow_of_tabIs hp w' hb, ⟨t, p, (hb.cell (World.block_lt_of_cell? w _ h1)).trans h1⟩, ⟨t', p', (hb.cell (World.block_lt_of_cell? w _ h2)).trans h2⟩⟩
def NumIs (w : World) (n : Nat) (er : Int) (e : Ending) (w' : World) : Prop := e = .returned (.tuple #[.int .u64 n, .int .i64 er]) ∧ Below w.heap.size w w'
/-- The list is a number's decimal digits. -/
def IsNum (l : List UInt8) : Prop := ∃ n : Nat, n < 18446744073709551616 ∧ l = Lib.decDigits n

theorem parse_snoc (c : UInt8) : ∀ (l : List UInt8) (acc m : Nat), Lib.parseUint10 acc l = .ok m → Lib.parseUint10 acc (l ++ [c]) = Lib.parseUint10 m [c]
  | [], acc, m, h => by
    simp only [Lib.parseUint10] at h
    injection h with h
    subst h
    rfl
  | x :: l, acc, m, h => by
    rw [List.cons_append]
    rw [Lib.parseUint10] at h ⊢
    split at h
    · rename_i h1
      rw [if_pos h1]
      split at h
      · cases h
      · rename_i h2
        rw [if_neg h2]
        split at h
        · cases h
        · rename_i h3
          rw [if_neg h3]
          exact parse_snoc c l _ m h
    · cases h
theorem parse_dec : ∀ (k n : Nat), n < 10 ^ (k + 1) → n < 18446744073709551616 → Lib.parseUint10 0 (Lib.decDigits n) = .ok n := by
  intro k
  induction k with
  | zero =>
    intro n h _
    rw [Lib.decDigits_one (by omega)]
    have e : (UInt8.ofNat (48 + n)).toNat = 48 + n := by simp; omega
    simp only [Lib.parseUint10, e]
    rw [if_pos (by omega), if_neg (by omega), if_neg (by omega)]
    congr 1
    omega
  | succ k ih =>
    intro n h hn
    by_cases h10 : n < 10
    · exact ih n (by
        have : 10 ^ 1 ≤ 10 ^ (k + 1) := Nat.pow_le_pow_right (by omega) (by omega)
        omega) hn
    · have hd : Lib.decDigits n = Lib.decDigits (n / 10) ++ [UInt8.ofNat (48 + n % 10)] := by rw [Lib.decDigits, dif_neg h10]
      have hi := ih (n / 10) (by rw [Nat.pow_succ] at h; omega) (by omega)
      rw [hd, parse_snoc _ _ _ _ hi]
      have e : (UInt8.ofNat (48 + n % 10)).toNat = 48 + n % 10 := by simp; omega
      simp only [Lib.parseUint10, e]
      rw [if_pos (by omega), if_neg (by omega), if_neg (by omega)]
      congr 1
      omega
theorem dec_ne (n : Nat) : Lib.decDigits n ≠ [] := by
  intro e
  have := congrArg List.length e
  rw [Lib.decDigits_length] at this
  have := Lib.nDigits_pos n
  simp at *
  omega
theorem parse_num (n : Nat) (hn : n < 18446744073709551616) : Lib.parseUintB 64 (Lib.decDigits n) = .ok n := by
  rw [Lib.parseUintB_64, Lib.parseMag, if_neg (dec_ne n)]
  exact parse_dec 19 n (by omega) hn

theorem number_yes (n : Nat) (hn : n < 18446744073709551616) (w : World) (hv : Vars w) :
    Calls Tryd.prog 5 #[.string ⟨(Lib.decDigits n).toArray⟩] w (NumIs w n 0) := by
  have h20 := Lib.nDigits_le20 n hn
  have hsz : (⟨(Lib.decDigits n).toArray⟩ : ByteArray).size = Lib.nDigits n := by simp [ByteArray.size, Lib.decDigits_length]
  have hp := parse_num n hn
  go_enter Tryd.func5, Tryd.ntmps5
  go_wp2_with (go_at_call 21; refine (Tryd.strconv_ParseUint_10_at64_ok _ (by omega) n hp _).mono ?_)
  rintro e w1 ⟨rfl, hw⟩
  have hb1 : Below w.heap.size w w1 := by
    rcases hw with rfl | rfl
    · exact Below.refl _ _
    · exact Lib.bytesWorld_below _ _ _
  have hv1 := hv.step hb1
  clear hw hp
  go_wp2_with (go_at_call 8; refine (decimal_any n hn _ hv1.1).mono ?_)
  rintro e w2 ⟨rfl, hb2⟩
  have hb := Below.trans hb1 (hb2.mono hb1.size)
  clear hb1 hb2
  go_wp2
  go_ret2
  exact ⟨rfl, hb⟩

theorem number_no (s : ByteArray) (hl : s.size ≤ 140737488355328) (hno : ¬ IsNum s.data.toList) (w : World) (hv : Vars w) :
    Calls Tryd.prog 5 #[.string s] w (NumIs w 0 12) := by
  obtain ⟨hpow, ⟨t1, p1, c1⟩, ⟨t2, p2, c2⟩⟩ := id hv
  cases hp : Lib.parseUintB 64 s.data.toList with
  | ok u =>
    have hu : u < 18446744073709551616 := by
      have h := hp
      rw [Lib.parseUintB_64] at h
      exact Lib.parseMag_lt h
    have hne : (⟨(Lib.decDigits u).toArray⟩ : ByteArray) ≠ s := by
      intro e
      exact hno ⟨u, hu, by rw [← e]⟩
    have hne2 : (Lib.decDigits u == s.toList) = false := by
      rw [beq_eq_false_iff_ne]
      intro e
      exact hno ⟨u, hu, by rw [e, ByteArray.toList_eq]⟩
    clear hno
    go_enter Tryd.func5, Tryd.ntmps5
    go_wp2_with (go_at_call 21; refine (Tryd.strconv_ParseUint_10_at64_ok _ (by omega) u hp _).mono ?_)
    rintro e w1 ⟨rfl, hw⟩
    have hb1 : Below w.heap.size w w1 := by
      rcases hw with rfl | rfl
      · exact Below.refl _ _
      · exact Lib.bytesWorld_below _ _ _
    have hv1 := hv.step hb1
    clear hw hp
    go_wp2_with (go_at_call 8; refine (decimal_any u hu _ hv1.1).mono ?_)
    rintro e w2 ⟨rfl, hb2⟩
    have hb := Below.trans hb1 (hb2.mono hb1.size)
    clear hb1 hb2
    go_wp2
    go_ret2
    exact ⟨rfl, hb⟩
  | «syntax» =>
    clear hno
    go_enter Tryd.func5, Tryd.ntmps5
    go_wp2_with (go_at_call 21; refine (Tryd.strconv_ParseUint_10_at64_syntax _ (by omega) hp _ _ c1 (.inr ⟨t1, p1, rfl⟩)).mono ?_)
    rintro e w1 ⟨N, rfl, _, _, hb⟩
    go_wp2
    go_ret2
    exact ⟨rfl, hb⟩
  | range =>
    clear hno
    go_enter Tryd.func5, Tryd.ntmps5
    go_wp2_with (go_at_call 21; refine (Tryd.strconv_ParseUint_10_at64_range _ (by omega) hp _ _ c2 (.inr ⟨t2, p2, rfl⟩)).mono ?_)
    rintro e w1 ⟨N, rfl, _, _, hb⟩
    go_wp2
    go_ret2
    exact ⟨rfl, hb⟩
end Go.Proofs.YtijkhpiehaocpaaDoor
