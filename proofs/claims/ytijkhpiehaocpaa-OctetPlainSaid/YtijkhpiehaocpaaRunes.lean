/-
  PLAIN MATHEMATICS of runes: the runes of a list of bytes, by the model's own decoding; what stands behind valid runes does not turn them; the bytes of one rune are read as one rune.
-/
import Derived.Test.YtijkhpiehaocpaaQuote
import Derived.Lib.MapLaws
namespace Go.Proofs.Ytijkhpiehaocpaa
open Go.RowKit

/-- No rune, but one byte that is none. -/
def badL (l : List UInt8) : Prop := (Lib.decodeL l).1 = 65533 ∧ (Lib.decodeL l).2 = 1
def runesF : Nat → List UInt8 → List Nat
  | 0, _ => []
  | f + 1, l => if l = [] then [] else (Lib.decodeL l).1 :: runesF f (l.drop (Lib.decodeL l).2)
def runesL (l : List UInt8) : List Nat := runesF l.length l
theorem runesF_nil : ∀ n, runesF n [] = []
  | 0 => rfl
  | _ + 1 => by simp [runesF]
theorem runesF_fuel : ∀ (n m : Nat) (l : List UInt8), l.length ≤ n → l.length ≤ m → runesF n l = runesF m l
  | 0, m, l, hn, _ => by
    have : l = [] := List.eq_nil_of_length_eq_zero (by omega)
    subst this
    rw [runesF_nil, runesF_nil]
  | n + 1, 0, l, _, hm => by
    have : l = [] := List.eq_nil_of_length_eq_zero (by omega)
    subst this
    rw [runesF_nil, runesF_nil]
  | n + 1, m + 1, l, hn, hm => by
    by_cases hne : l = []
    · subst hne
      rw [runesF_nil, runesF_nil]
    · have hw := Lib.decodeL_width l
      have hl : 0 < l.length := List.length_pos_iff.2 hne
      simp only [runesF, if_neg hne]
      rw [runesF_fuel n m _ (by rw [List.length_drop]; omega) (by rw [List.length_drop]; omega)]
theorem runesL_step (l : List UInt8) (hne : l ≠ []) : runesL l = (Lib.decodeL l).1 :: runesL (l.drop (Lib.decodeL l).2) := by
  have hw := Lib.decodeL_width l
  have hl : 0 < l.length := List.length_pos_iff.2 hne
  unfold runesL
  obtain ⟨n, hn⟩ : ∃ n, l.length = n + 1 := ⟨l.length - 1, by omega⟩
  rw [hn]
  simp only [runesF, if_neg hne]
  rw [runesF_fuel n _ _ (by rw [List.length_drop]; omega) (Nat.le_refl _)]
theorem runesL_nil : runesL [] = [] := rfl
theorem runesL_length (l : List UInt8) : (runesL l).length ≤ l.length := by
  have key : ∀ (n : Nat) (l : List UInt8), l.length ≤ n → (runesL l).length ≤ l.length := by
    intro n
    induction n with
    | zero =>
      intro l h
      have : l = [] := List.eq_nil_of_length_eq_zero (by omega)
      subst this
      simp [runesL_nil]
    | succ n ih =>
      intro l h
      by_cases hne : l = []
      · subst hne; simp [runesL_nil]
      · have hw := Lib.decodeL_width l
        have hl : 0 < l.length := List.length_pos_iff.2 hne
        rw [runesL_step l hne, List.length_cons]
        have := ih (l.drop (Lib.decodeL l).2) (by rw [List.length_drop]; omega)
        rw [List.length_drop] at this
        omega
  exact key l.length l (Nat.le_refl _)

theorem getD_app (l t : List UInt8) (i : Nat) (h : i < l.length) : (l ++ t).getD i 0 = l.getD i 0 := by
  simp [List.getD, List.getElem?_append_left h]
/-- What stands behind a rune that is one does not turn it. -/
theorem decodeL_app (l t : List UInt8) (hne : l ≠ []) (hv : ¬ badL l) : Lib.decodeL (l ++ t) = Lib.decodeL l := by
  have hl : 0 < l.length := List.length_pos_iff.2 hne
  unfold badL at hv
  rw [Lib.decodeL_N] at hv ⊢
  rw [Lib.decodeL_N]
  have g0 := getD_app l t 0 hl
  have hlen : (l ++ t).length = l.length + t.length := List.length_append
  rw [hlen, g0]
  rcases Lib.decodeN_shape l.length (l.getD 0 0).toNat (l.getD 1 0).toNat (l.getD 2 0).toNat (l.getD 3 0).toNat with ⟨c, e⟩ | ⟨c1, c2, c3, cv, e⟩ | ⟨c1, c2, c3, c4, cv, cs, e⟩ | ⟨c1, c2, c3, c4, c5, cv, cw, e⟩ | e
  · rw [e, Lib.decodeN_ascii _ _ _ _ _ c]
  · rw [e, getD_app l t 1 c2]
    unfold Lib.decodeN
    rw [if_neg (by omega), if_pos (by omega), if_pos (by omega)]
  · rw [e, getD_app l t 1 (by omega), getD_app l t 2 c2]
    unfold Lib.decodeN
    rw [if_neg (by omega), if_neg (by omega), if_pos (by omega), if_pos (by omega)]
  · rw [e, getD_app l t 1 (by omega), getD_app l t 2 (by omega), getD_app l t 3 c2]
    unfold Lib.decodeN
    rw [if_neg (by omega), if_neg (by omega), if_neg (by omega), if_pos (by omega), if_pos (by omega)]
  · rw [e] at hv
    exact absurd ⟨rfl, rfl⟩ hv

/-- The rune that a number is written as. -/
def runeOf (r : Int) : Nat := if (0 ≤ r ∧ r < 55296) ∨ (57343 < r ∧ r ≤ 1114111) then r.toNat else 65533
theorem decodeL_enc (r : Int) (t : List UInt8) : Lib.decodeL (Lib.encodeRune r ++ t) = (runeOf r, (Lib.encodeRune r).length) := by
  have ub : ∀ n : Nat, n < 256 → (n.toUInt8).toNat = n := by intro n h; simp; omega
  rw [Lib.decodeL_N]
  by_cases h1 : 0 ≤ r ∧ r ≤ 127
  · have e : Lib.encodeRune r = [r.toNat.toUInt8] := by unfold Lib.encodeRune; rw [Lib.encodeRuneZ_one h1.1 h1.2]; rfl
    have hr : runeOf r = r.toNat := if_pos (by omega)
    rw [e, hr]
    simp only [List.cons_append, List.nil_append, List.getD_cons_zero]
    rw [Lib.decodeN_ascii _ _ _ _ _ (by rw [ub _ (by omega)]; omega), ub _ (by omega)]
    rfl
  by_cases h2 : 128 ≤ r ∧ r ≤ 2047
  · have e : Lib.encodeRune r = [(192 + r / 64).toNat.toUInt8, (128 + r % 64).toNat.toUInt8] := by unfold Lib.encodeRune; rw [Lib.encodeRuneZ_two h2.1 h2.2]; rfl
    have hr : runeOf r = r.toNat := if_pos (by omega)
    rw [e, hr]
    simp only [List.cons_append, List.nil_append, List.getD_cons_zero, List.getD_cons_succ, List.length_cons]
    rw [ub _ (by omega), ub _ (by omega)]
    unfold Lib.decodeN
    rw [if_neg (by omega), if_pos (by omega), if_pos (by omega)]
    have hA : (192 + r / 64).toNat % 32 * 64 + (128 + r % 64).toNat % 64 = r.toNat := by omega
    rw [hA]
    rfl
  by_cases h3 : (2048 ≤ r ∧ r < 55296) ∨ (57343 < r ∧ r ≤ 65535)
  · have e : Lib.encodeRune r = [(224 + r / 4096).toNat.toUInt8, (128 + r / 64 % 64).toNat.toUInt8, (128 + r % 64).toNat.toUInt8] := by unfold Lib.encodeRune; rw [Lib.encodeRuneZ_three h3]; rfl
    have hr : runeOf r = r.toNat := if_pos (by omega)
    rw [e, hr]
    simp only [List.cons_append, List.nil_append, List.getD_cons_zero, List.getD_cons_succ, List.length_cons]
    rw [ub _ (by omega), ub _ (by omega), ub _ (by omega)]
    unfold Lib.decodeN
    rw [if_neg (by omega), if_neg (by omega), if_pos (by omega), if_pos (by omega)]
    have hA : (224 + r / 4096).toNat % 16 * 4096 + (128 + r / 64 % 64).toNat % 64 * 64 + (128 + r % 64).toNat % 64 = r.toNat := by omega
    rw [hA]
    rfl
  by_cases h4 : 65536 ≤ r ∧ r ≤ 1114111
  · have e : Lib.encodeRune r = [(240 + r / 262144).toNat.toUInt8, (128 + r / 4096 % 64).toNat.toUInt8, (128 + r / 64 % 64).toNat.toUInt8, (128 + r % 64).toNat.toUInt8] := by unfold Lib.encodeRune; rw [Lib.encodeRuneZ_four h4.1 h4.2]; rfl
    have hr : runeOf r = r.toNat := if_pos (by omega)
    rw [e, hr]
    simp only [List.cons_append, List.nil_append, List.getD_cons_zero, List.getD_cons_succ, List.length_cons]
    rw [ub _ (by omega), ub _ (by omega), ub _ (by omega), ub _ (by omega)]
    unfold Lib.decodeN
    rw [if_neg (by omega), if_neg (by omega), if_neg (by omega), if_pos (by omega), if_pos (by omega)]
    have hA : (240 + r / 262144).toNat % 8 * 262144 + (128 + r / 4096 % 64).toNat % 64 * 4096 + (128 + r / 64 % 64).toNat % 64 * 64 + (128 + r % 64).toNat % 64 = r.toNat := by omega
    rw [hA]
    rfl
  · have e : Lib.encodeRune r = [239, 191, 189] := by unfold Lib.encodeRune; rw [Lib.encodeRuneZ_bad (by omega)]; rfl
    have hr : runeOf r = 65533 := if_neg (by omega)
    rw [e, hr]
    simp only [List.cons_append, List.nil_append, List.getD_cons_zero, List.getD_cons_succ, List.length_cons]
    unfold Lib.decodeN
    have u1 : UInt8.toNat 239 = 239 := rfl
    have u2 : UInt8.toNat 191 = 191 := rfl
    have u3 : UInt8.toNat 189 = 189 := rfl
    rw [u1, u2, u3, if_neg (by omega), if_neg (by omega), if_pos (by omega), if_pos (by omega)]
    rfl
/-- The runes of valid runes with one more behind them. -/
theorem runesL_snoc (l : List UInt8) (r : Int) (h : ∀ x ∈ runesL l, x ≠ 65533) : runesL (l ++ Lib.encodeRune r) = runesL l ++ [runeOf r] := by
  have hel : 0 < (Lib.encodeRune r).length := by
    have := (Lib.encodeRuneZ_length r).1
    unfold Lib.encodeRune
    rw [List.length_map]; omega
  have key : ∀ (n : Nat) (l : List UInt8), l.length ≤ n → (∀ x ∈ runesL l, x ≠ 65533) → runesL (l ++ Lib.encodeRune r) = runesL l ++ [runeOf r] := by
    intro n
    induction n with
    | zero =>
      intro l hl _
      have : l = [] := List.eq_nil_of_length_eq_zero (by omega)
      subst this
      have hne : Lib.encodeRune r ≠ [] := List.length_pos_iff.1 hel
      have hd := decodeL_enc r []
      rw [List.append_nil] at hd
      rw [List.nil_append, runesL_step _ hne, hd, List.drop_length, runesL_nil]
      rfl
    | succ n ih =>
      intro l hl hx
      by_cases hne : l = []
      · subst hne
        exact ih [] (by simp) hx
      · have hl0 : 0 < l.length := List.length_pos_iff.2 hne
        have hst := runesL_step l hne
        have hw := Lib.decodeL_width l
        have hle := Lib.decodeL_le l hne
        have hr0 : (Lib.decodeL l).1 ≠ 65533 := hx _ (by rw [hst]; simp)
        have happ := decodeL_app l (Lib.encodeRune r) hne (fun hb => hr0 hb.1)
        have hne2 : l ++ Lib.encodeRune r ≠ [] := by simp [hne]
        rw [runesL_step _ hne2, happ, List.drop_append_of_le_length hle, ih (l.drop (Lib.decodeL l).2) (by rw [List.length_drop]; omega) (fun x hx' => hx x (by rw [hst]; exact List.mem_cons_of_mem _ hx')), hst]
        rfl
  exact key l.length l (Nat.le_refl _) h

/-! ### labels -/
def okR (r : Nat) : Bool := !(r == 32 || r == 160 || r == 8232 || r == 8233 || r == 12288 || r == 34 || r == 92 || r == 65533) && (decide (32 ≤ r) && (decide (r < 127) || decide (159 < r)))
/-- What Label's loop answers when k runes are behind it and rs before it. -/
def lab : Nat → List Nat → Bool
  | k, [] => decide (0 < k)
  | k, r :: t => if k = 24 ∨ okR r = false then false else lab (k + 1) t
theorem lab_true (rs : List Nat) : ∀ k, k ≤ 24 → lab k rs = true → 0 < k + rs.length ∧ k + rs.length ≤ 24 ∧ ∀ r ∈ rs, okR r = true := by
  induction rs with
  | nil => intro k hk h; simp [lab] at h; simp; omega
  | cons r t ih =>
    intro k hk h
    simp only [lab] at h
    by_cases hc : k = 24 ∨ okR r = false
    · rw [if_pos hc] at h; cases h
    · rw [if_neg hc] at h
      obtain ⟨h1, h2, h3⟩ := ih (k + 1) (by omega) h
      simp only [List.length_cons, List.mem_cons, forall_eq_or_imp]
      refine ⟨by omega, by omega, ?_, h3⟩
      cases hr : okR r
      · exact absurd (.inr hr) hc
      · rfl
theorem lab_long (rs : List Nat) : ∀ k, k ≤ 24 → 24 < k + rs.length → lab k rs = false := by
  intro k hk h
  cases hl : lab k rs
  · rfl
  · have := (lab_true rs k hk hl).2.1
    omega
theorem lab_barred (rs : List Nat) (x : Nat) (hx : x ∈ rs) (hb : okR x = false) : ∀ k, k ≤ 24 → lab k rs = false := by
  intro k hk
  cases hl : lab k rs
  · rfl
  · have := (lab_true rs k hk hl).2.2 x hx
    rw [hb] at this
    cases this
theorem okR_ne {r : Nat} (h : okR r = true) : r ≠ 65533 ∧ r ≠ 34 ∧ r ≠ 92 ∧ 32 ≤ r ∧ r ≠ 127 := by
  simp only [okR, Bool.and_eq_true, Bool.not_eq_true', Bool.or_eq_false_iff, beq_eq_false_iff_ne, Bool.or_eq_true, decide_eq_true_eq] at h
  omega

/-! ### a label is quoted as it stands -/
theorem qAt_label (s : ByteArray) (pos : Nat) (h : pos < s.size) (hok : okR (Lib.decodeL (s.data.toList.drop pos)).1 = true) :
    qAt s pos = (s.data.toList.drop pos).take (Lib.decodeL (s.data.toList.drop pos)).2 := by
  have hne : s.data.toList.drop pos ≠ [] := by
    intro e
    have := congrArg List.length e
    rw [List.length_drop] at this
    simp at this
    omega
  have ho := okR_ne hok
  have hd := Lib.decodeL_drop s pos
  have hb : badAt s pos = false := by
    unfold badAt
    rw [← hd]
    simp [ho.1]
  rw [qAt_rune s pos _ rfl (by rw [← hd]; omega) (by rw [← hd, hb]; simp; omega), ← hd]
  exact Lib.encode_decode _ hne (fun hv => ho.1 hv.1)
theorem qFrom_label (s : ByteArray) : ∀ (f pos : Nat), s.size ≤ pos + f → (∀ r ∈ runesL (s.data.toList.drop pos), okR r = true) → qFrom s f pos = s.data.toList.drop pos := by
  intro f
  induction f with
  | zero =>
    intro pos h _
    rw [List.drop_eq_nil_of_le (by simp; omega)]
    rfl
  | succ f ih =>
    intro pos h hok
    by_cases hp : pos < s.size
    · have hne : s.data.toList.drop pos ≠ [] := by
        intro e
        have := congrArg List.length e
        rw [List.length_drop] at this
        simp at this
        omega
      have hd := Lib.decodeL_drop s pos
      have hw := width_pos s pos hp
      have hst := runesL_step _ hne
      rw [hst] at hok
      simp only [List.mem_cons, forall_eq_or_imp] at hok
      simp only [qFrom, if_pos hp]
      rw [qAt_label s pos hp hok.1, ih (pos + (Utf8.decode s pos).2) (by omega) (by
        have := hok.2
        rwa [List.drop_drop, hd] at this)]
      rw [hd, ← List.drop_drop, List.take_append_drop]
    · rw [qFrom_end s _ pos hp, List.drop_eq_nil_of_le (by simp; omega)]
theorem quoteL_label (s : ByteArray) (h : ∀ r ∈ runesL s.data.toList, okR r = true) : quoteL s = 34 :: (s.data.toList ++ [34]) := by
  unfold quoteL
  rw [qFrom_label s s.size 0 (by omega) (by rw [List.drop_zero]; exact h), List.drop_zero]
end Go.Proofs.Ytijkhpiehaocpaa
