/-
  PLAIN MATHEMATICS: what unescape makes of a text; of what Quote writes it makes the text again; hexadecimal digits there and back.
-/
import Derived.Test.YtijkhpiehaocpaaDoorRefHex
import Derived.Test.YtijkhpiehaocpaaDoorRunes
import Derived.Lib.QuoteLoop
import Derived.Lib.TrimAscii
namespace Go.Proofs.YtijkhpiehaocpaaDoor
open Go.RowKit
set_option maxRecDepth 100000

/-- The byte of the escape that a text begins with, and how many bytes it takes: 0 if it is none. -/
def escL (t : List UInt8) : UInt8 × Nat :=
  if 2 ≤ t.length ∧ (t.getD 1 0 = 34 ∨ t.getD 1 0 = 92) then (t.getD 1 0, 2)
  else if 4 ≤ t.length ∧ t.getD 1 0 = 120 ∧ (isHexB (t.getD 2 0) = true ∧ isHexB (t.getD 3 0) = true) then (UInt8.ofNat (16 * hexV (t.getD 2 0) + hexV (t.getD 3 0)), 4)
  else (0, 0)
/-- unescape: k bytes are still to be passed over. -/
def unL : Nat → Nat → List UInt8 → List UInt8
  | 0, _, _ => []
  | f + 1, k, l =>
    if l = [] then []
    else if 0 < k then unL f (k - (Lib.decodeL l).2) (l.drop (Lib.decodeL l).2)
    else if (Lib.decodeL l).1 = 92 then (if (escL l).2 = 0 then [] else (escL l).1 :: unL f ((escL l).2 - (Lib.decodeL l).2) (l.drop (Lib.decodeL l).2))
    else Lib.encodeRune (Lib.decodeL l).1 ++ unL f 0 (l.drop (Lib.decodeL l).2)
theorem unL_nil (f k : Nat) : unL f k [] = [] := by cases f <;> simp [unL]
theorem unL_skip (f k : Nat) (c : UInt8) (t : List UInt8) (h : c.toNat < 128) : unL (f + 1) (k + 1) (c :: t) = unL f k t := by
  simp only [unL, if_neg (List.cons_ne_nil c t), if_pos (Nat.succ_pos k), Lib.decodeL_ascii c t h]
  rfl
theorem unL_esc (f : Nat) (c : UInt8) (n : Nat) (t : List UInt8) (he : escL (92 :: t) = (c, n + 1)) : unL (f + 1) 0 (92 :: t) = c :: unL f n t := by
  simp only [unL, if_neg (List.cons_ne_nil (92 : UInt8) t), if_neg (Nat.lt_irrefl 0), Lib.decodeL_ascii 92 t (by decide), he]
  rw [if_pos (by decide), if_neg (by omega)]
  rfl
theorem unL_rune (f r : Nat) (t : List UInt8) (hr : runeOf (r : Int) = r) (h : r ≠ 92) : unL (f + 1) 0 (Lib.encodeRune r ++ t) = Lib.encodeRune r ++ unL f 0 t := by
  have hd := decodeL_enc (r : Int) t
  rw [hr] at hd
  have hne : Lib.encodeRune (r : Int) ++ t ≠ [] := by
    intro e
    have := congrArg List.length e
    have h1 := (Lib.encodeRuneZ_length (r : Int)).1
    rw [List.length_append] at this
    unfold Lib.encodeRune at this
    rw [List.length_map, List.length_nil] at this
    omega
  simp only [unL, if_neg hne, if_neg (Nat.lt_irrefl 0), hd, if_neg h]
  rw [List.drop_left]
theorem unL_esc2 (f : Nat) (c : UInt8) (t : List UInt8) (h : c = 34 ∨ c = 92) : unL (f + 2) 0 (92 :: c :: t) = c :: unL f 0 t := by
  have he : escL (92 :: c :: t) = (c, 1 + 1) := by
    unfold escL
    rw [if_pos ⟨by simp, by simpa using h⟩]
    rfl
  rw [unL_esc (f + 1) c 1 (c :: t) he, unL_skip f 0 c t (by rcases h with rfl | rfl <;> decide)]
theorem hexL_one (x : UInt8) : hexL [x] = [hexD (x.toNat / 16), hexD (x.toNat % 16)] := rfl
theorem hex_small (b : UInt8) (h : isHexB b = true) : b.toNat < 128 := by
  simp only [isHexB, Bool.or_eq_true, Bool.and_eq_true, decide_eq_true_eq] at h
  omega
theorem unL_esc4 (f : Nat) (x : UInt8) (t : List UInt8) : unL (f + 4) 0 ([92, 120] ++ hexL [x] ++ t) = x :: unL f 0 t := by
  have hx := x.toNat_lt
  obtain ⟨a1, a2⟩ := hexV_hexD (x.toNat / 16) (by omega)
  obtain ⟨b1, b2⟩ := hexV_hexD (x.toNat % 16) (by omega)
  rw [hexL_one]
  have he : escL (92 :: (120 :: hexD (x.toNat / 16) :: hexD (x.toNat % 16) :: t)) = (x, 3 + 1) := by
    unfold escL
    rw [if_neg (by simp), if_pos ⟨by simp, rfl, a2, b2⟩]
    have e : UInt8.ofNat (16 * hexV (hexD (x.toNat / 16)) + hexV (hexD (x.toNat % 16))) = x := by
      rw [a1, b1, Nat.div_add_mod]
      simp
    exact Prod.ext e rfl
  show unL (f + 3 + 1) 0 (92 :: (120 :: hexD (x.toNat / 16) :: hexD (x.toNat % 16) :: t)) = _
  rw [unL_esc (f + 3) x 3 _ he, unL_skip (f + 2) 2 120 _ (by decide), unL_skip (f + 1) 1 _ _ (hex_small _ a2), unL_skip f 0 _ _ (hex_small _ b2)]

theorem drop_one (s : ByteArray) (pos : Nat) (h : pos < s.size) : s.data.toList.drop pos = s.data.toList.getD pos 0 :: s.data.toList.drop (pos + 1) := by
  have hl : pos < s.data.toList.length := by simpa using h
  rw [List.drop_eq_getElem_cons hl, List.getD_eq_getElem?_getD, List.getElem?_eq_getElem hl]
  rfl
theorem low_one (s : ByteArray) (pos : Nat) (h : pos < s.size) (hr : (Utf8.decode s pos).1 < 128) : (Utf8.decode s pos).2 = 1 := by
  by_cases ha : (s[pos]'h).toNat < 128
  · rw [decode_ascii s pos h ha]
  · have := (decode_high s pos h (by omega)).1
    omega
theorem bad_one (s : ByteArray) (pos : Nat) (h : pos < s.size) (hb : badAt s pos = true) : (Utf8.decode s pos).2 = 1 := by
  have hne : s.data.toList.drop pos ≠ [] := by rw [drop_one s pos h]; exact List.cons_ne_nil _ _
  unfold badAt at hb
  rw [Bool.and_eq_true, beq_iff_eq, Bool.not_eq_true', ← Lib.decodeL_drop] at hb
  rw [← Lib.decodeL_drop]
  by_cases hw : (Lib.decodeL (s.data.toList.drop pos)).2 = 1
  · exact hw
  · exfalso
    have he := Lib.encode_decode _ hne (fun hv => hw hv.2)
    rw [hb.1] at he
    have e3 : Lib.encodeRune ((65533 : Nat) : Int) = [239, 191, 189] := by decide
    rw [e3] at he
    have hp : Lib.hasPrefix (s.data.toList.drop pos) [239, 191, 189] = true := by
      unfold Lib.hasPrefix
      rw [List.isPrefixOf_iff_prefix, he]
      exact List.take_prefix _ _
    rw [hp] at hb
    cases hb.2
theorem good_take (s : ByteArray) (pos : Nat) (h : pos < s.size) (hb : badAt s pos = false) : Lib.encodeRune ((Utf8.decode s pos).1 : Int) = (s.data.toList.drop pos).take (Utf8.decode s pos).2 := by
  have hne : s.data.toList.drop pos ≠ [] := by rw [drop_one s pos h]; exact List.cons_ne_nil _ _
  rw [← Lib.decodeL_drop]
  refine Lib.encode_decode _ hne ?_
  rintro ⟨h1, h2⟩
  unfold badAt at hb
  rw [Bool.and_eq_false_iff, ← Lib.decodeL_drop, h1] at hb
  rcases hb with hb | hb
  · simp at hb
  · rw [Bool.not_eq_false'] at hb
    unfold Lib.hasPrefix at hb
    rw [List.isPrefixOf_iff_prefix] at hb
    obtain ⟨t, ht⟩ := hb
    have hd := decodeL_enc 65533 t
    have e3 : Lib.encodeRune (65533 : Int) = [239, 191, 189] := by decide
    rw [e3, ht] at hd
    have h3 := congrArg Prod.snd hd
    rw [h2] at h3
    simp at h3
theorem runeOf_dec (s : ByteArray) (pos : Nat) : runeOf ((Utf8.decode s pos).1 : Int) = (Utf8.decode s pos).1 := by
  have hv : (Utf8.decode s pos).1 < 55296 ∨ (57343 < (Utf8.decode s pos).1 ∧ (Utf8.decode s pos).1 ≤ 1114111) := by
    rw [← Lib.decodeL_drop, Lib.decodeL_N]
    exact Lib.decodeN_valid _ _ _ _ _ (UInt8.toNat_lt _)
  unfold runeOf
  rw [if_pos (by omega)]
  simp

/-- OF WHAT Quote WRITES unescape MAKES THE TEXT AGAIN. -/
theorem unL_q (s : ByteArray) : ∀ (f pos F : Nat), s.size ≤ pos + f → (qFrom s f pos).length ≤ F → unL F 0 (qFrom s f pos) = s.data.toList.drop pos := by
  intro f
  induction f with
  | zero =>
    intro pos F h _
    rw [List.drop_eq_nil_of_le (by simp; omega)]
    exact unL_nil _ _
  | succ f ih =>
    intro pos F h hF
    by_cases hp : pos < s.size
    · have hw := width_pos s pos hp
      have hq : qFrom s (f + 1) pos = qAt s pos ++ qFrom s f (pos + (Utf8.decode s pos).2) := by simp only [qFrom, if_pos hp]
      rw [hq] at hF ⊢
      rw [List.length_append] at hF
      by_cases h1 : (Utf8.decode s pos).1 = 34 ∨ (Utf8.decode s pos).1 = 92
      · have hd : (Utf8.decode s pos).2 = 1 := low_one s pos hp (by omega)
        have hb : badAt s pos = false := by unfold badAt; rcases h1 with h1 | h1 <;> rw [h1] <;> rfl
        have ht := good_take s pos hp hb
        rw [hd, drop_one s pos hp] at ht
        rw [qAt_esc s pos _ rfl h1] at hF ⊢
        have hc : Lib.encodeRune ((Utf8.decode s pos).1 : Int) = [s.data.toList.getD pos 0] := by rw [ht]; rfl
        have hc2 : s.data.toList.getD pos 0 = 34 ∨ s.data.toList.getD pos 0 = 92 := by
          rcases h1 with h1 | h1
          · rw [h1] at hc
            have e : Lib.encodeRune ((34 : Nat) : Int) = [34] := by decide
            rw [e] at hc
            exact .inl (List.cons.inj hc).1.symm
          · rw [h1] at hc
            have e : Lib.encodeRune ((92 : Nat) : Int) = [92] := by decide
            rw [e] at hc
            exact .inr (List.cons.inj hc).1.symm
        rw [hc] at hF ⊢
        simp only [List.length_cons, List.length_nil] at hF
        obtain ⟨F', rfl⟩ : ∃ F', F = F' + 2 := ⟨F - 2, by omega⟩
        rw [drop_one s pos hp, hd]
        show unL (F' + 2) 0 (92 :: s.data.toList.getD pos 0 :: qFrom s f (pos + 1)) = _
        rw [unL_esc2 _ _ _ hc2, ih (pos + 1) F' (by omega) (by rw [hd] at hF; omega)]
      · by_cases h2 : (Utf8.decode s pos).1 < 32 ∨ (Utf8.decode s pos).1 = 127 ∨ badAt s pos = true
        · have hd : (Utf8.decode s pos).2 = 1 := by
            rcases h2 with h2 | h2 | h2
            · exact low_one s pos hp (by omega)
            · exact low_one s pos hp (by omega)
            · exact bad_one s pos hp h2
          rw [qAt_hex s pos _ rfl h1 h2] at hF ⊢
          simp only [List.length_append, List.length_cons, List.length_nil, hexL_length] at hF
          obtain ⟨F', rfl⟩ : ∃ F', F = F' + 4 := ⟨F - 4, by omega⟩
          rw [unL_esc4, hd, ih (pos + 1) F' (by omega) (by rw [hd] at hF; omega), ← drop_one s pos hp]
        · have hb : badAt s pos = false := by
            cases hbb : badAt s pos with
            | false => rfl
            | true => exact absurd (.inr (.inr hbb)) h2
          have ht := good_take s pos hp hb
          have hlen : 1 ≤ (Lib.encodeRune ((Utf8.decode s pos).1 : Int)).length := by
            unfold Lib.encodeRune
            rw [List.length_map]
            exact (Lib.encodeRuneZ_length _).1
          rw [qAt_rune s pos _ rfl h1 h2] at hF ⊢
          obtain ⟨F', rfl⟩ : ∃ F', F = F' + 1 := ⟨F - 1, by omega⟩
          rw [unL_rune _ _ _ (runeOf_dec s pos) (by omega), ih _ F' (by omega) (by omega), ht, ← List.drop_drop, List.take_append_drop]
    · rw [qFrom_end s _ pos hp, List.drop_eq_nil_of_le (by simp; omega)]
      exact unL_nil _ _

/-! ### Unquote -/
def bodyL (q : List UInt8) : List UInt8 := Lib.trimSuffix (Lib.trimPrefix q [34]) [34]
def unqL (q : List UInt8) : List UInt8 := unL (bodyL q).length 0 (bodyL q)
theorem body_quote (t : List UInt8) : bodyL (34 :: (t ++ [34])) = t := by
  unfold bodyL Lib.trimPrefix Lib.hasPrefix
  rw [if_pos (by simp)]
  unfold Lib.trimSuffix Lib.hasSuffix
  rw [if_pos (by simp)]
  simp
theorem unq_quote (s : ByteArray) : unqL (quoteL s) = s.data.toList := by
  unfold unqL
  rw [show bodyL (quoteL s) = qFrom s s.size 0 from body_quote _, unL_q s s.size 0 _ (by omega) (Nat.le_refl _), List.drop_zero]
theorem body_le (q : List UInt8) : (bodyL q).length ≤ q.length := by
  have h1 : ∀ l p : List UInt8, (Lib.trimPrefix l p).length ≤ l.length := by
    intro l p
    unfold Lib.trimPrefix
    split
    · rw [List.length_drop]; omega
    · exact Nat.le_refl _
  have h2 : ∀ l p : List UInt8, (Lib.trimSuffix l p).length ≤ l.length := by
    intro l p
    unfold Lib.trimSuffix
    split
    · rw [List.length_take]; omega
    · exact Nat.le_refl _
  exact Nat.le_trans (h2 _ _) (h1 _ _)

theorem unL_le : ∀ (f k : Nat) (l : List UInt8), (unL f k l).length ≤ 4 * l.length := by
  intro f
  induction f with
  | zero => intro k l; simp [unL]
  | succ f ih =>
    intro k l
    by_cases hne : l = []
    · subst hne
      rw [unL_nil]
      exact Nat.zero_le _
    · have hl : 0 < l.length := List.length_pos_iff.2 hne
      have hw := Lib.decodeL_width l
      have he := encode_le ((Lib.decodeL l).1 : Int)
      have h1 : ∀ k, (unL f k (l.drop (Lib.decodeL l).2)).length ≤ 4 * (l.length - 1) := by
        intro k
        have := ih k (l.drop (Lib.decodeL l).2)
        rw [List.length_drop] at this
        omega
      have h2 := h1 (k - (Lib.decodeL l).2)
      have h3 := h1 ((escL l).2 - (Lib.decodeL l).2)
      have h4 := h1 0
      simp only [unL, if_neg hne]
      split
      · omega
      · split
        · split
          · simp
          · rw [List.length_cons]; omega
        · rw [List.length_append]; omega

/-! ### hexadecimal digits there and back -/
theorem hexL_hex : ∀ (bs : List UInt8), ∀ c ∈ hexL bs, isHexB c = true := by
  intro bs c hc
  unfold hexL at hc
  rw [List.mem_flatMap] at hc
  obtain ⟨x, _, hx⟩ := hc
  have := x.toNat_lt
  simp only [List.mem_cons, List.not_mem_nil, or_false] at hx
  rcases hx with rfl | rfl
  · exact (hexV_hexD _ (by omega)).2
  · exact (hexV_hexD _ (by omega)).2
theorem pairs_hexL (bs : List UInt8) : pairs (hexL bs) = bs := by
  induction bs with
  | nil => rfl
  | cons x r ih =>
    have hx := x.toNat_lt
    have e : hexL (x :: r) = hexD (x.toNat / 16) :: hexD (x.toNat % 16) :: hexL r := rfl
    rw [e, pairs, ih, (hexV_hexD _ (by omega)).1, (hexV_hexD _ (by omega)).1, Nat.div_add_mod]
    simp
theorem hexN_hexL (bs : List UInt8) : hexN (hexL bs) = 2 * bs.length := by
  rw [hexN_all _ (fun j hj => hexL_hex bs _ (List.getElem_mem hj)), hexL_length]
theorem unOk_hexL (bs : List UInt8) : unOk (hexL bs) := by
  unfold unOk
  rw [hexN_hexL, hexL_length]
  omega
theorem unB_hexL (bs : List UInt8) : unB (hexL bs) = bs := by
  unfold unB
  rw [if_pos (unOk_hexL bs), pairs_hexL]
theorem unE_hexL (bs : List UInt8) : unE (hexL bs) = 0 := if_pos (unOk_hexL bs)
theorem hexL_pairs : ∀ (n : Nat) (l : List UInt8), l.length ≤ n → (∀ c ∈ l, isHexB c = true) → l.length % 2 = 0 → hexL (pairs l) = l := by
  intro n
  induction n with
  | zero =>
    intro l h _ _
    have : l = [] := List.eq_nil_of_length_eq_zero (by omega)
    subst this
    rfl
  | succ n ih =>
    intro l h hx he
    match l, h, hx, he with
    | [], _, _, _ => rfl
    | [a], _, _, he => simp at he
    | a :: b :: r, h, hx, he =>
      have ha := hx a (by simp)
      have hb := hx b (by simp)
      have la := hexV_lt a ha
      have lb := hexV_lt b hb
      have e : (UInt8.ofNat (16 * hexV a + hexV b)).toNat = 16 * hexV a + hexV b := by simp; omega
      have e2 : hexL (pairs (a :: b :: r)) = hexD ((UInt8.ofNat (16 * hexV a + hexV b)).toNat / 16) :: hexD ((UInt8.ofNat (16 * hexV a + hexV b)).toNat % 16) :: hexL (pairs r) := rfl
      rw [e2, e, show (16 * hexV a + hexV b) / 16 = hexV a by omega, show (16 * hexV a + hexV b) % 16 = hexV b by omega, hexD_hexV a ha, hexD_hexV b hb,
        ih r (by simp at h; omega) (fun c hc => hx c (by simp [hc])) (by simp at he; omega)]
theorem takeWhile_all (p : UInt8 → Bool) : ∀ (l : List UInt8), (l.takeWhile p).length = l.length → ∀ c ∈ l, p c = true := by
  intro l
  induction l with
  | nil => intro _ c hc; cases hc
  | cons a r ih =>
    intro h c hc
    cases ha : p a with
    | false => simp [List.takeWhile, ha] at h
    | true =>
      simp [List.takeWhile, ha] at h
      rcases List.mem_cons.1 hc with rfl | hc
      · exact ha
      · exact ih h c hc
theorem hexL_unB (l : List UInt8) (h : unOk l) : hexL (unB l) = l := by
  unfold unB
  rw [if_pos h]
  exact hexL_pairs l.length l (Nat.le_refl _) (takeWhile_all _ l h.1) h.2
/-- Two bytes are read as hexadecimal digits just if both are. -/
theorem un_two (a b : UInt8) : unE [a, b] = (if isHexB a = true ∧ isHexB b = true then 0 else 10) ∧ ((isHexB a = true ∧ isHexB b = true) → unB [a, b] = [UInt8.ofNat (16 * hexV a + hexV b)]) := by
  have hk : unOk [a, b] ↔ (isHexB a = true ∧ isHexB b = true) := by
    unfold unOk hexN
    cases ha : isHexB a <;> cases hb : isHexB b <;> simp [List.takeWhile, ha, hb]
  refine ⟨?_, fun h => ?_⟩
  · unfold unE
    by_cases h : isHexB a = true ∧ isHexB b = true
    · rw [if_pos (hk.2 h), if_pos h]
    · rw [if_neg (fun e => h (hk.1 e)), if_neg h]
  · unfold unB
    rw [if_pos (hk.2 h)]
    rfl
end Go.Proofs.YtijkhpiehaocpaaDoor
