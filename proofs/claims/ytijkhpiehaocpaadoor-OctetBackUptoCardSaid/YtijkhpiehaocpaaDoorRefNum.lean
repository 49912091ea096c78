/-
  WALKS: the document's own Decimal and Digits: at every uint64 and every string.
-/
import Derived.Test.YtijkhpiehaocpaaDoorNum
import Derived.Test.YtijkhpiehaocpaaDoorRefUnhex
import Derived.Deep.QuietTactic
namespace Go.Proofs.YtijkhpiehaocpaaDoor
open Go.RowKit
set_option maxRecDepth 100000

theorem hexD_dec (i : Nat) (h : i < 10) : hexD i = UInt8.ofNat (48 + i) := by
  have key : ∀ j : Fin 10, hexD j.val = UInt8.ofNat (48 + j.val) := by decide
  exact key ⟨i, h⟩
theorem dig_one (m : Nat) : (⟨#[48, 49, 50, 51, 52, 53, 54, 55, 56, 57, 97, 98, 99, 100, 101, 102]⟩ : ByteArray).extract (m % 10) (m % 10 + 1) = ⟨[UInt8.ofNat (48 + m % 10)].toArray⟩ := by
  rw [dig_extract _ (by omega), hexD_dec _ (by omega)]
theorem dig_cons (m : Nat) (acc : List UInt8) : (⟨#[48, 49, 50, 51, 52, 53, 54, 55, 56, 57, 97, 98, 99, 100, 101, 102]⟩ : ByteArray).extract (m % 10) (m % 10 + 1) ++ ⟨acc.toArray⟩ = ⟨(UInt8.ofNat (48 + m % 10) :: acc).toArray⟩ := by
  rw [dig_one]
  apply ByteArray.ext
  apply Array.toList_inj.1
  simp
theorem dec_big {m : Nat} (h : 10 ≤ m) : Lib.decDigits m = Lib.decDigits (m / 10) ++ [UInt8.ofNat (48 + m % 10)] := by rw [Lib.decDigits, dif_neg (by omega)]
theorem dec_small {m : Nat} (h : m < 10) : Lib.decDigits m = [UInt8.ofNat (48 + m % 10)] := by rw [Lib.decDigits_one h, Nat.mod_eq_of_lt h]

set_option maxHeartbeats 1000000 in
set_option maxRecDepth 100000 in
theorem refDecimal_any (n : Nat) (hn : n < 18446744073709551616) (w : World) :
    Calls Tryd.prog 9 #[.int .u64 n] w (StrIs w (Lib.decDigits n)) := by
  have h20 := Lib.nDigits_le20 n hn
  rw [← Lib.decDigits_length] at h20
  obtain ⟨L, hL⟩ : ∃ L, L = Lib.decDigits n := ⟨_, rfl⟩
  rw [← hL] at h20 ⊢
  have HL := Lib.hid hL
  clear hL
  have E1 := Lib.hid (dig_one n)
  have hm1 : n % 10 < 10 := by omega
  go_enter Tryd.func9, Tryd.ntmps9
  go_wp2
  go_loop [0, 3] (fun m o => ∃ (k : Nat) (acc : List UInt8), k < 18446744073709551616 ∧ m = .int .u64 k ∧ o = .string ⟨acc.toArray⟩ ∧ acc.length ≤ 20 ∧ Hid (∃ t, acc = UInt8.ofNat (48 + k % 10) :: t ∧ Lib.decDigits k ++ t = L)) (fun m _ => (intOf m).toNat)
  case atStart =>
    refine ⟨n, _, hn, rfl, congrArg Value.string E1.out, by simp, Lib.hid ⟨[], rfl, by rw [HL.out, List.append_nil]⟩⟩
  case round =>
    obtain ⟨k, acc, hk, rfl, rfl, hal, hrel⟩ := hrel
    by_cases h10 : k < 10
    · have i10 : (k : Int) < 10 := by omega
      have hfin : acc = L := by
        obtain ⟨t, ht, hd⟩ := hrel.out
        rw [dec_small h10] at hd
        rw [ht, ← hd]
        rfl
      subst hfin
      clear hrel
      go_wp2
      go_ret
      exact ⟨rfl, Below.refl _ _⟩
    · have i10 : ¬ (k : Int) < 10 := by omega
      have h2 : Hid (∃ t, UInt8.ofNat (48 + k / 10 % 10) :: acc = UInt8.ofNat (48 + k / 10 % 10) :: t ∧ Lib.decDigits (k / 10) ++ t = L) := by
        apply Lib.hid
        obtain ⟨t, ht, hd⟩ := hrel.out
        refine ⟨acc, rfl, ?_⟩
        rw [dec_big (by omega)] at hd
        rw [ht, ← hd]
        simp
      have hal2 : (UInt8.ofNat (48 + k / 10 % 10) :: acc).length ≤ 20 := by
        obtain ⟨t, ht, hd⟩ := h2.out
        have h3 := congrArg List.length hd
        have h4 := Lib.nDigits_pos (k / 10)
        rw [List.length_append, Lib.decDigits_length] at h3
        rw [ht, List.length_cons]
        omega
      have E2 := Lib.hid (dig_cons (k / 10) acc)
      have hm2 : k / 10 % 10 < 10 := by omega
      clear hrel
      go_wp2
      go_round
      case rel => exact ⟨k / 10, _, by omega, by go_num, congrArg Value.string E2.out, hal2, h2⟩
      case measure => simp [intOf]; omega

/-! ### Digits -/
def isDec (c : UInt8) : Bool := decide (48 ≤ c.toNat) && decide (c.toNat ≤ 57)
def accN (l : List UInt8) : Nat := l.foldl (fun a c => (a * 10 + (c.toNat - 48)) % 18446744073709551616) 0
theorem accN_snoc (l : List UInt8) (c : UInt8) : accN (l ++ [c]) = (accN l * 10 + (c.toNat - 48)) % 18446744073709551616 := by simp [accN]
theorem accN_lt (l : List UInt8) : accN l < 18446744073709551616 := by
  rcases List.eq_nil_or_concat l with rfl | ⟨t, c, rfl⟩
  · simp [accN]
  · rw [List.concat_eq_append, accN_snoc]; omega
theorem wrap_acc (a v : Nat) : IntKind.u64.wrap (IntKind.u64.wrap ((a : Int) * 10) + (v : Int)) = (((a * 10 + v) % 18446744073709551616 : Nat) : Int) := by
  rw [IntKind.wrap_u64, IntKind.wrap_u64]; omega
theorem dec_facts : ∀ (k n : Nat), n < 10 ^ (k + 1) → accN (Lib.decDigits n) = n % 18446744073709551616 ∧ ∀ c ∈ Lib.decDigits n, isDec c = true := by
  intro k
  have one : ∀ i, i < 10 → (UInt8.ofNat (48 + i)).toNat = 48 + i := by intro i h; simp; omega
  have od : ∀ i, i < 10 → isDec (UInt8.ofNat (48 + i)) = true := by
    intro i h
    simp only [isDec, one i h, Bool.and_eq_true, decide_eq_true_eq]
    omega
  induction k with
  | zero =>
    intro n h
    rw [Lib.decDigits_one (by omega)]
    refine ⟨?_, ?_⟩
    · simp only [accN, List.foldl_cons, List.foldl_nil, one n (by omega)]
      omega
    · intro c hc
      rw [List.mem_singleton.1 hc]
      exact od n (by omega)
  | succ k ih =>
    intro n h
    by_cases h10 : n < 10
    · exact ih n (by
        have : 10 ^ 1 ≤ 10 ^ (k + 1) := Nat.pow_le_pow_right (by omega) (by omega)
        omega)
    · obtain ⟨i1, i2⟩ := ih (n / 10) (by rw [Nat.pow_succ] at h; omega)
      rw [dec_big (by omega)]
      refine ⟨?_, ?_⟩
      · rw [accN_snoc, i1, one _ (by omega)]
        omega
      · intro c hc
        rcases List.mem_append.1 hc with hc | hc
        · exact i2 c hc
        · rw [List.mem_singleton.1 hc]
          exact od _ (by omega)
theorem lt_ten_pow (n : Nat) : n < 10 ^ (n + 1) := Nat.lt_of_lt_of_le (Nat.lt_pow_self (by omega)) (Nat.pow_le_pow_right (by omega) (by omega))
theorem accN_dec (n : Nat) (hn : n < 18446744073709551616) : accN (Lib.decDigits n) = n := by rw [(dec_facts n n (lt_ten_pow n)).1]; omega
theorem dec_all (n : Nat) : ∀ c ∈ Lib.decDigits n, isDec c = true := (dec_facts n n (lt_ten_pow n)).2
theorem isDec_hex (c : UInt8) (h : isDec c = true) : isHexB c = true ∧ hexV c = c.toNat - 48 ∧ hexV c ≤ 9 := by
  have key : ∀ n : Fin 256, isDec (UInt8.ofNat n.val) = true → isHexB (UInt8.ofNat n.val) = true ∧ hexV (UInt8.ofNat n.val) = (UInt8.ofNat n.val).toNat - 48 ∧ hexV (UInt8.ofNat n.val) ≤ 9 := by decide +kernel
  have e : UInt8.ofNat c.toNat = c := by simp
  have := key ⟨c.toNat, c.toNat_lt⟩
  simp only [e] at this
  exact this h
theorem noDec_hex (c : UInt8) (h : isDec c = false) (hh : isHexB c = true) : 9 < hexV c := by
  have key : ∀ n : Fin 256, isDec (UInt8.ofNat n.val) = false → isHexB (UInt8.ofNat n.val) = true → 9 < hexV (UInt8.ofNat n.val) := by decide +kernel
  have e : UInt8.ofNat c.toNat = c := by simp
  have := key ⟨c.toNat, c.toNat_lt⟩
  simp only [e] at this
  exact this h hh
/-- What is read of a list: the number whose digits it is; else nothing. -/
def NumOf (l : List UInt8) (n : Nat) (er : Int) : Prop := (n < 18446744073709551616 ∧ l = Lib.decDigits n ∧ er = 0) ∨ (¬ IsNum l ∧ n = 0 ∧ er = 12)
theorem numOf_ex (l : List UInt8) : ∃ n er, NumOf l n er := by
  by_cases h : IsNum l
  · obtain ⟨n, h1, h2⟩ := h
    exact ⟨n, 0, .inl ⟨h1, h2, rfl⟩⟩
  · exact ⟨0, 12, .inr ⟨h, rfl, rfl⟩⟩
theorem numOf_bar {l : List UInt8} {n : Nat} {er : Int} (h : NumOf l n er) (hb : l.length < 1 ∨ 20 < l.length ∨ (∃ c ∈ l, isDec c = false) ∨ Lib.decDigits (accN l) ≠ l) : n = 0 ∧ er = 12 := by
  rcases h with ⟨h1, h2, h3⟩ | ⟨_, h2, h3⟩
  · exfalso
    have h20 := Lib.nDigits_le20 n h1
    have hp := Lib.nDigits_pos n
    rcases hb with hb | hb | ⟨c, hc, hd⟩ | hb
    · rw [h2, Lib.decDigits_length] at hb; omega
    · rw [h2, Lib.decDigits_length] at hb; omega
    · rw [h2] at hc
      rw [dec_all n c hc] at hd
      cases hd
    · apply hb
      rw [h2, accN_dec n h1]
  · exact ⟨h2, h3⟩
theorem numOf_is {l : List UInt8} {n : Nat} {er : Int} (h : NumOf l n er) (hb : Lib.decDigits (accN l) = l) : n = accN l ∧ er = 0 := by
  rcases h with ⟨h1, h2, h3⟩ | ⟨h1, _, _⟩
  · refine ⟨?_, h3⟩
    rw [h2, accN_dec n h1]
  · exact absurd ⟨accN l, accN_lt l, hb.symm⟩ h1
theorem number_any (s : ByteArray) (hl : s.size ≤ 140737488355328) (n : Nat) (er : Int) (h : NumOf s.data.toList n er) (w : World) (hv : Vars w) :
    Calls Tryd.prog 5 #[.string s] w (NumIs w n er) := by
  rcases h with ⟨h1, h2, rfl⟩ | ⟨h1, rfl, rfl⟩
  · obtain rfl : s = ⟨(Lib.decDigits n).toArray⟩ := by
      rw [← h2]
    exact number_yes n h1 w hv
  · exact number_no s hl h1 w hv

set_option maxHeartbeats 1000000 in
set_option maxRecDepth 100000 in
theorem digits_any (s : ByteArray) (hl : s.size ≤ 140737488355328) (n : Nat) (er : Int) (h : NumOf s.data.toList n er) (w : World) :
    Calls Tryd.prog 6 #[.string s] w (NumIs w n er) := by
  obtain ⟨l, hll⟩ : ∃ l, l = s.data.toList := ⟨_, rfl⟩
  rw [← hll] at h
  have hsz : l.length = s.size := by rw [hll]; simp
  have HS : Hid (s = ⟨l.toArray⟩) := by apply Lib.hid; rw [hll]
  have H := Lib.hid h
  have HG : Hid (∀ k (h : k < s.size), l[k]? = some s[k]) := by
    apply Lib.hid
    intro k hk
    rw [List.getElem?_eq_getElem (by omega)]
    have := bytes_get s k hk
    subst hll
    rw [this]
  clear h hll
  by_cases hsmall : s.size < 1
  · obtain ⟨rfl, rfl⟩ := numOf_bar H.out (.inl (by omega))
    have i1 : (s.size : Int) < 1 := by omega
    go_enter Tryd.func6, Tryd.ntmps6
    go_wp2
    go_ret2
    exact ⟨rfl, Below.refl _ _⟩
  by_cases hbig : 20 < s.size
  · obtain ⟨rfl, rfl⟩ := numOf_bar H.out (.inr (.inl (by omega)))
    have i1 : ¬ (s.size : Int) < 1 := by omega
    have i2 : (20 : Int) < s.size := by omega
    go_enter Tryd.func6, Tryd.ntmps6
    go_wp2
    go_ret2
    exact ⟨rfl, Below.refl _ _⟩
  have i1 : ¬ (s.size : Int) < 1 := by omega
  have i2 : ¬ (20 : Int) < s.size := by omega
  have HSZ := Lib.hid hsz
  clear hsz
  go_enter Tryd.func6, Tryd.ntmps6
  go_wp2
  go_loopw [4, 6, 7] (fun a _ _ wr => ∃ k : Nat, k ≤ s.size ∧ a = .int .u64 (accN (l.take k)) ∧ wr.heap[w.heap.size]? = some (.stringIter s k) ∧ Below w.heap.size w wr) (fun _ _ _ wr => s.size - wr.iterPos w.heap.size)
  case atStart =>
    exact ⟨0, Nat.zero_le _, rfl, World.iter_heap w s 0, (Below.refl _ w).alloc (Nat.le_refl _) _⟩
  case round =>
    obtain ⟨k, hk, rfl, hit, hbel⟩ := hrel
    by_cases hp : k < s.size
    · have hlk : l[k]? = some s[k] := HG.out k hp
      have hmem : s[k] ∈ l := List.mem_of_getElem? hlk
      cases hd : isDec s[k]
      · obtain ⟨rfl, rfl⟩ := numOf_bar H.out (.inr (.inr (.inl ⟨_, hmem, hd⟩)))
        have hnx : ∀ ty, (Instr.next (.pointer (some ⟨w.heap.size, 0, none⟩)) true ty).run Tryd.prog wr = _ := fun ty => Lib.run_next_any_at wr w.heap.size s k ty hit hp
        have hbel3 := Lib.below_iterAt hbel (k := w.heap.size) (by omega) s (k + (Utf8.decode s k).2)
        cases hb : isHexB s[k]
        · have hr := rune_nohex s k hp hb
          clear hlk hmem H
          go_wp2_with (go_at_call 22; refine (refDigit_no _ _ hr).mono ?_; rintro e w' ⟨rfl, rfl⟩)
          go_ret2
          exact ⟨rfl, hbel3⟩
        · have h9 := noDec_hex _ hd hb
          have i9 : (9 : Int) < (hexV s[k] : Int) := by omega
          rw [rune_hex s k hp hb] at hnx hbel3
          clear hlk hmem H
          go_wp2_with (go_at_call 22; refine (refDigit_hex _ _ hb).mono ?_; rintro e w' ⟨rfl, rfl⟩)
          go_ret2
          exact ⟨rfl, hbel3⟩
      · obtain ⟨hb, hv, h9⟩ := isDec_hex _ hd
        have hnx : ∀ ty, (Instr.next (.pointer (some ⟨w.heap.size, 0, none⟩)) true ty).run Tryd.prog wr = _ := fun ty => Lib.run_next_any_at wr w.heap.size s k ty hit hp
        have hbel3 := Lib.below_iterAt hbel (k := w.heap.size) (by omega) s (k + 1)
        have hit2 := Lib.iterAt_heap wr w.heap.size s k (k + 1) hit
        rw [rune_hex s k hp hb] at hnx
        have i9 : ¬ (9 : Int) < (hexV s[k] : Int) := by omega
        have i0 : ¬ (hexV s[k] : Int) < 0 := by omega
        have hstep : Hid (accN (l.take (k + 1)) = (accN (l.take k) * 10 + hexV s[k]) % 18446744073709551616) := by
          apply Lib.hid
          have hkl : k < l.length := by have := HSZ.out; omega
          rw [List.take_add_one, hlk, Option.toList_some, accN_snoc, hv]
        have hacc := accN_lt (l.take k)
        have HIT := Lib.hid hit
        have HIT2 := Lib.hid hit2
        clear hlk hmem hit hit2 hv hd
        go_wp2_with (go_at_call 22; refine (refDigit_hex _ _ hb).mono ?_; rintro e w' ⟨rfl, rfl⟩)
        go_roundw
        case rel =>
          refine ⟨k + 1, by omega, ?_, HIT2.out, hbel3⟩
          rw [hstep.out]
          exact congrArg (Value.int .u64) (wrap_acc _ _)
        case measure =>
          simp only [World.iterPos, HIT2.out, HIT.out]
          omega
    · have hnx : ∀ ty, (Instr.next (.pointer (some ⟨w.heap.size, 0, none⟩)) true ty).run Tryd.prog wr = _ := fun ty => Lib.run_next_end_at wr w.heap.size s k ty hit hp
      have htk : l.take k = l := List.take_of_length_le (by have := HSZ.out; omega)
      rw [htk]
      have hlt := accN_lt l
      by_cases hq : Lib.decDigits (accN l) = l
      · obtain ⟨rfl, rfl⟩ := numOf_is H.out hq
        obtain rfl := HS.out
        have HQ := Lib.hid hq
        clear H HG hq htk
        go_wp2_with (go_at_call 9; refine (refDecimal_any _ hlt _).mono ?_; rw [HQ.out]; rintro e w' ⟨rfl, hb⟩)
        go_ret2
        exact ⟨rfl, hbel.trans (hb.mono hbel.size)⟩
      · obtain ⟨rfl, rfl⟩ := numOf_bar H.out (.inr (.inr (.inr hq)))
        obtain rfl := HS.out
        have hq2 : (Lib.decDigits (accN l) == l) = false := by rw [beq_eq_false_iff_ne]; exact hq
        clear H HG hq htk
        go_wp2_with (go_at_call 9; refine (refDecimal_any _ hlt _).mono ?_; rintro e w' ⟨rfl, hb⟩)
        go_ret2
        exact ⟨rfl, hbel.trans (hb.mono hbel.size)⟩
end Go.Proofs.YtijkhpiehaocpaaDoor
