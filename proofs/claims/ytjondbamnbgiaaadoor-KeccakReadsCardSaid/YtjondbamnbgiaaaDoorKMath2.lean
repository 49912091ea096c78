/-
  PLAIN MATHEMATICS: bytes laid into lanes; the sponge block by block; the document's round. Nothing of the program is named here.
-/
import Derived.Test.YtjondbamnbgiaaaDoorKMath
namespace Go.Proofs.YtjondbamnbgiaaaDoor
open Go.RowKit
set_option maxRecDepth 100000

theorem lane_set_eq (l : List UInt64) (k : Nat) (x : UInt64) (h : k < l.length) : lane (l.set k x) k = x := by
  simp [lane, List.getD, h]
theorem lane_set_ne (l : List UInt64) (k j : Nat) (x : UInt64) (h : j ≠ k) : lane (l.set k x) j = lane l j := by
  simp [lane, List.getD, List.getElem?_set_ne (Ne.symm h)]
theorem set_lane (l : List UInt64) (k : Nat) : l.set k (lane l k) = l := by
  apply List.ext_getElem?
  intro i
  by_cases h : k = i
  · subst h
    by_cases hk : k < l.length
    · rw [List.getElem?_set_self hk, lane, getD_get l k 0 hk, List.getElem?_eq_getElem hk]
    · rw [List.getElem?_eq_none (by simpa using hk), List.getElem?_eq_none (by simpa using hk)]
  · rw [List.getElem?_set_ne h]
theorem byte_pow (b : UInt8) (n : Nat) (h : n ≤ 56) : b.toNat * 2 ^ n < 18446744073709551616 := by
  have hb : b.toNat < 256 := b.toNat_lt
  have h1 : 2 ^ n ≤ 2 ^ 56 := Nat.pow_le_pow_right (by decide) h
  calc b.toNat * 2 ^ n ≤ 255 * 2 ^ 56 := Nat.mul_le_mul (by omega) h1
    _ < 18446744073709551616 := by decide
theorem byte_toNat (b : UInt8) (n : Nat) (h : n ≤ 56) : (UInt64.ofNat (b.toNat * 2 ^ n)).toNat = b.toNat * 2 ^ n := ofNat64 (byte_pow b n h)
theorem xor_is_or (x : UInt64) (b : UInt8) (n : Nat) (h : n ≤ 56) (hx : x.toNat < 2 ^ n) : x ^^^ UInt64.ofNat (b.toNat * 2 ^ n) = x ||| UInt64.ofNat (b.toNat * 2 ^ n) := by
  apply UInt64.toNat_inj.1
  rw [UInt64.toNat_xor, UInt64.toNat_or, byte_toNat b n h]
  apply Nat.eq_of_testBit_eq
  intro i
  rw [Nat.testBit_xor, Nat.testBit_or, Nat.testBit_mul_two_pow]
  by_cases hi : n ≤ i
  · have : x.toNat.testBit i = false := Nat.testBit_lt_two_pow (Nat.lt_of_lt_of_le hx (Nat.pow_le_pow_right (by decide) hi))
    simp [this]
  · simp [hi]
theorem xor_low (x : UInt64) (b : UInt8) (n : Nat) (h : n ≤ 56) (hx : x.toNat < 2 ^ n) : (x ||| UInt64.ofNat (b.toNat * 2 ^ n)).toNat < 2 ^ (n + 8) := by
  rw [UInt64.toNat_or, byte_toNat b n h]
  refine Nat.or_lt_two_pow (Nat.lt_of_lt_of_le hx (Nat.pow_le_pow_right (by decide) (by omega))) ?_
  rw [Nat.pow_add, Nat.mul_comm]
  exact Nat.mul_lt_mul_of_pos_left b.toNat_lt (Nat.two_pow_pos n)
theorem xor_bytes (a b : UInt8) (n : Nat) (h : n ≤ 56) : UInt64.ofNat (a.toNat * 2 ^ n) ^^^ UInt64.ofNat (b.toNat * 2 ^ n) = UInt64.ofNat ((a ^^^ b).toNat * 2 ^ n) := by
  apply UInt64.toNat_inj.1
  rw [UInt64.toNat_xor, byte_toNat a n h, byte_toNat b n h, byte_toNat (a ^^^ b) n h, UInt8.toNat_xor]
  apply Nat.eq_of_testBit_eq
  intro i
  rw [Nat.testBit_xor, Nat.testBit_mul_two_pow, Nat.testBit_mul_two_pow, Nat.testBit_mul_two_pow, Nat.testBit_xor]
  by_cases hi : n ≤ i
  · simp [hi]
  · simp [hi]

/-! ### bytes laid into lanes -/
/-- bytes combined with the lanes from place p on -/
def layX (l : List UInt64) (p : Nat) : List UInt8 → List UInt64
  | [] => l
  | b :: r => layX (maskL l p b) (p + 1) r
def orL (l : List UInt64) (p : Nat) (b : UInt8) : List UInt64 := l.set (p / 8) (lane l (p / 8) ||| UInt64.ofNat (b.toNat * 2 ^ (8 * (p % 8))))
def layO (l : List UInt64) (p : Nat) : List UInt8 → List UInt64
  | [] => l
  | b :: r => layO (orL l p b) (p + 1) r
theorem maskL_length (l : List UInt64) (p : Nat) (b : UInt8) : (maskL l p b).length = l.length := List.length_set
theorem orL_length (l : List UInt64) (p : Nat) (b : UInt8) : (orL l p b).length = l.length := List.length_set
theorem layX_length (r : List UInt8) : ∀ (l : List UInt64) (p : Nat), (layX l p r).length = l.length := by
  induction r with
  | nil => intro l p; rfl
  | cons b r ih => intro l p; rw [layX, ih, maskL_length]
theorem layO_length (r : List UInt8) : ∀ (l : List UInt64) (p : Nat), (layO l p r).length = l.length := by
  induction r with
  | nil => intro l p; rfl
  | cons b r ih => intro l p; rw [layO, ih, orL_length]
theorem layX_append (r s : List UInt8) : ∀ (l : List UInt64) (p : Nat), layX l p (r ++ s) = layX (layX l p r) (p + r.length) s := by
  induction r with
  | nil => intro l p; rfl
  | cons b r ih => intro l p; rw [List.cons_append, layX, layX, ih, List.length_cons, Nat.add_assoc, Nat.add_comm 1]
theorem layO_append (r s : List UInt8) : ∀ (l : List UInt64) (p : Nat), layO l p (r ++ s) = layO (layO l p r) (p + r.length) s := by
  induction r with
  | nil => intro l p; rfl
  | cons b r ih => intro l p; rw [List.cons_append, layO, layO, ih, List.length_cons, Nat.add_assoc, Nat.add_comm 1]
theorem layX_take (r : List UInt8) (l : List UInt64) (p k : Nat) (h : k < r.length) : layX l p (r.take (k + 1)) = maskL (layX l p (r.take k)) (p + k) r[k] := by
  rw [List.take_succ_eq_append_getElem h, layX_append, List.length_take, Nat.min_eq_left (Nat.le_of_lt h)]
  rfl
theorem layO_take (r : List UInt8) (l : List UInt64) (p k : Nat) (h : k < r.length) : layO l p (r.take (k + 1)) = orL (layO l p (r.take k)) (p + k) r[k] := by
  rw [List.take_succ_eq_append_getElem h, layO_append, List.length_take, Nat.min_eq_left (Nat.le_of_lt h)]
  rfl
theorem maskL_zero (l : List UInt64) (p : Nat) : maskL l p 0 = l := by
  have h0 : UInt64.ofNat ((0 : UInt8).toNat * 2 ^ (8 * (p % 8))) = 0 := by
    rw [show (0 : UInt8).toNat = 0 from rfl, Nat.zero_mul]; rfl
  rw [maskL, h0, UInt64.xor_zero, set_lane]
theorem layX_zeros (n : Nat) : ∀ (l : List UInt64) (p : Nat), layX l p (List.replicate n 0) = l := by
  induction n with
  | zero => intro l p; rfl
  | succ n ih => intro l p; rw [List.replicate_succ, layX, maskL_zero, ih]
theorem maskL_maskL (l : List UInt64) (p : Nat) (h : p / 8 < l.length) (a b : UInt8) : maskL (maskL l p a) p b = maskL l p (a ^^^ b) := by
  unfold maskL
  rw [lane_set_eq _ _ _ h, List.set_set, UInt64.xor_assoc, xor_bytes a b _ (by omega)]
/-- the lanes have no bits from place p on -/
def Low (l : List UInt64) (p : Nat) : Prop := ∀ j, (lane l j).toNat < 2 ^ (8 * min 8 (p - 8 * j))
theorem low_zero : Low zeroL 0 := by
  intro j
  have : lane zeroL j = 0 := by
    unfold lane zeroL List.getD
    rw [List.getElem?_replicate]
    split <;> rfl
  rw [this]
  exact Nat.two_pow_pos _
theorem low_step (l : List UInt64) (p : Nat) (b : UInt8) (hl : l.length = 25) (hp : p < 200) (h : Low l p) : Low (orL l p b) (p + 1) ∧ maskL l p b = orL l p b := by
  have hx := h (p / 8)
  have e : min 8 (p - 8 * (p / 8)) = p % 8 := by omega
  rw [e] at hx
  constructor
  · intro j
    by_cases hj : j = p / 8
    · subst hj
      unfold orL
      rw [lane_set_eq _ _ _ (by omega), show 8 * min 8 (p + 1 - 8 * (p / 8)) = 8 * (p % 8) + 8 by omega]
      exact xor_low _ b _ (by omega) hx
    · unfold orL
      rw [lane_set_ne _ _ _ _ hj]
      exact Nat.lt_of_lt_of_le (h j) (Nat.pow_le_pow_right (by decide) (by omega))
  · unfold maskL orL
    rw [xor_is_or _ b _ (by omega) hx]
theorem layX_layO (r : List UInt8) : ∀ (l : List UInt64) (p : Nat), l.length = 25 → p + r.length ≤ 200 → Low l p → layX l p r = layO l p r := by
  induction r with
  | nil => intro l p _ _ _; rfl
  | cons b r ih =>
    intro l p hl hp h
    rw [List.length_cons] at hp
    have hs := low_step l p b hl (by omega) h
    rw [layX, layO, hs.2]
    exact ih _ _ (by rw [orL_length, hl]) (by omega) hs.1

/-! ### the sponge, block by block -/
theorem puts_lay (rate : Nat) (r : List UInt8) : ∀ (l : List UInt64) (a : Nat), a + r.length ≤ rate → (Sp.mk l a).puts rate r = ⟨layX l a r, a + r.length⟩ := by
  induction r with
  | nil => intro l a _; rfl
  | cons b r ih =>
    intro l a h
    rw [List.length_cons] at h
    have hn : (Sp.mk l a).next rate = ⟨l, a + 1⟩ := if_neg (by show ¬ a = rate; omega)
    rw [Sp.puts, Sp.put, hn]
    show Sp.puts ⟨maskL l (a + 1 - 1) b, a + 1⟩ rate r = _
    rw [Nat.add_sub_cancel, ih _ _ (by omega), layX, List.length_cons, Nat.add_assoc, Nat.add_comm 1]
theorem puts_full (rate : Nat) (hr : 0 < rate) (l : List UInt64) (r : List UInt8) (h : r ≠ []) : (Sp.mk l rate).puts rate r = (Sp.mk (permL l) 0).puts rate r := by
  cases r with
  | nil => exact absurd rfl h
  | cons b r =>
    have h1 : (Sp.mk l rate).next rate = ⟨permL l, 1⟩ := if_pos rfl
    have h2 : (Sp.mk (permL l) 0).next rate = ⟨permL l, 1⟩ := if_neg (by show ¬ 0 = rate; omega)
    rw [Sp.puts, Sp.puts, Sp.put, Sp.put, h1, h2]
theorem puts_app (rate : Nat) (l m : List UInt8) : ∀ s : Sp, s.puts rate (l ++ m) = (s.puts rate l).puts rate m := by
  induction l with
  | nil => intro s; rfl
  | cons b r ih => intro s; exact ih _
/-- the state behind j blocks, permuted -/
def absJ (rate : Nat) (x : List UInt8) : Nat → List UInt64
  | 0 => zeroL
  | j + 1 => permL (layX (absJ rate x j) 0 ((x.drop (j * rate)).take rate))
theorem absJ_length (rate : Nat) (x : List UInt8) (j : Nat) : (absJ rate x j).length = 25 := by
  induction j with
  | zero => rfl
  | succ j ih => exact permL_length _ (by rw [layX_length, ih])
theorem puts_block (rate : Nat) (hr : 0 < rate) (x : List UInt8) : ∀ (j : Nat) (t : List UInt8), j * rate ≤ x.length → t ≠ [] → t.length ≤ rate →
    ((Sp.mk zeroL 0).puts rate (x.take (j * rate))).puts rate t = ⟨layX (absJ rate x j) 0 t, t.length⟩ := by
  intro j
  induction j with
  | zero => intro t _ _ h; rw [Nat.zero_mul, List.take_zero]; exact (puts_lay rate t zeroL 0 (by omega)).trans (by rw [Nat.zero_add]; rfl)
  | succ j ih =>
    intro t hj hne ht
    have hjr : (j + 1) * rate = j * rate + rate := Nat.succ_mul j rate
    rw [hjr] at hj ⊢
    have hbl : ((x.drop (j * rate)).take rate).length = rate := by simp; omega
    rw [List.take_add, puts_app, ih ((x.drop (j * rate)).take rate) (by omega) (by intro e; rw [e] at hbl; simp at hbl; omega) (by omega), hbl, puts_full rate hr _ t hne]
    exact (puts_lay rate t _ 0 (by omega)).trans (by rw [Nat.zero_add]; rfl)
/-- t with zeros behind it up to a block, the last byte turned -/
def padB (rate : Nat) (t : List UInt8) : List UInt8 := (t ++ List.replicate (rate - t.length) 0).set (rate - 1) ((t ++ List.replicate (rate - t.length) 0).getD (rate - 1) 0 ^^^ 128)
theorem set_last (z : List UInt8) (n : Nat) (h : z.length = n + 1) (x : UInt8) : z.set n x = z.take n ++ [x] ∧ z = z.take n ++ [z.getD n 0] := by
  have hz : z = z.take n ++ [z.getD n 0] := by
    have := List.take_succ_eq_append_getElem (l := z) (i := n) (by omega)
    rw [List.take_of_length_le (by omega)] at this
    rw [getD_get z n 0 (by omega)]
    exact this
  refine ⟨?_, hz⟩
  conv => lhs; rw [hz]
  rw [List.set_append_right _ _ (by simp; omega), show n - (z.take n).length = 0 by simp; omega]
  rfl
theorem layX_padB (rate : Nat) (hr : 0 < rate) (hr2 : rate ≤ 200) (t : List UInt8) (ht : t.length ≤ rate) (l : List UInt64) (hl : l.length = 25) : layX l 0 (padB rate t) = maskL (layX l 0 t) (rate - 1) 128 := by
  unfold padB
  obtain ⟨z, hz⟩ : ∃ z, z = t ++ List.replicate (rate - t.length) (0 : UInt8) := ⟨_, rfl⟩
  have hzl : z.length = (rate - 1) + 1 := by rw [hz]; simp; omega
  have hlz : layX l 0 z = layX l 0 t := by rw [hz, layX_append, layX_zeros]
  rw [← hz]
  obtain ⟨h1, h2⟩ := set_last z (rate - 1) hzl (z.getD (rate - 1) 0 ^^^ 128)
  rw [h1, layX_append, ← hlz]
  conv => rhs; rw [h2, layX_append]
  have hn : 0 + (z.take (rate - 1)).length = rate - 1 := by simp; omega
  rw [hn]
  show maskL _ _ _ = maskL (maskL _ _ _) _ _
  rw [maskL_maskL _ _ (by rw [layX_length, hl]; omega)]
theorem padB_length (rate : Nat) (t : List UInt8) (ht : t.length ≤ rate) : (padB rate t).length = rate := by simp [padB]; omega
/-- what is absorbed is the blocks, the last one padded -/
theorem absorbL_block (rate : Nat) (hr : 0 < rate) (hr2 : rate ≤ 200) (suf : UInt8) (m : List UInt8) (q : Nat) (hq : q * rate ≤ m.length) (hq2 : m.length < (q + 1) * rate) :
    absorbL rate suf m = ⟨layX (absJ rate (m ++ [suf]) q) 0 (padB rate ((m ++ [suf]).drop (q * rate))), rate⟩ := by
  have hqr : (q + 1) * rate = q * rate + rate := Nat.succ_mul q rate
  have hxl : (m ++ [suf]).length = m.length + 1 := by simp
  have htl : ((m ++ [suf]).drop (q * rate)).length = m.length + 1 - q * rate := by rw [List.length_drop, hxl]
  unfold absorbL
  conv => lhs; rw [← List.take_append_drop (q * rate) (m ++ [suf])]
  rw [puts_app, puts_block rate hr (m ++ [suf]) q _ (by omega) (by intro e; rw [e] at htl; simp at htl; omega) (by omega), layX_padB rate hr hr2 _ (by omega) _ (absJ_length _ _ _)]
theorem absJ_prefix (rate : Nat) (x y : List UInt8) (n : Nat) : ∀ j, x.take n = y.take n → j * rate ≤ n → absJ rate x j = absJ rate y j := by
  intro j
  induction j with
  | zero => intro _ _; rfl
  | succ j ih =>
    intro h hn
    have hjr : (j + 1) * rate = j * rate + rate := Nat.succ_mul j rate
    have e : (x.drop (j * rate)).take rate = (y.drop (j * rate)).take rate := by
      have h2 := congrArg (fun z => (z.drop (j * rate)).take rate) h
      simp only [List.drop_take, List.take_take] at h2
      rwa [show min rate (n - j * rate) = rate by omega] at h2
    rw [absJ, absJ, ih h (by omega), e]
theorem outs_block (rate : Nat) (l : List UInt64) : ∀ (n a : Nat), a + n ≤ rate → (Sp.mk l a).outs rate n = (List.range' a n).map (byteL l) ∧ (Sp.mk l a).behind rate n = ⟨l, a + n⟩
  | 0, _, _ => ⟨rfl, rfl⟩
  | n + 1, a, h => by
    have hn : (Sp.mk l a).next rate = ⟨l, a + 1⟩ := if_neg (by show ¬ a = rate; omega)
    have ih := outs_block rate l n (a + 1) (by omega)
    rw [Sp.outs, Sp.behind, hn, ih.1, ih.2]
    refine ⟨?_, by rw [Nat.add_assoc, Nat.add_comm 1]⟩
    rw [List.range'_succ, List.map_cons]
    rfl
theorem outs_full (rate : Nat) (l : List UInt64) (n : Nat) (h0 : 0 < n) (h : n ≤ rate) : (Sp.mk l rate).outs rate n = (List.range n).map (byteL (permL l)) ∧ (Sp.mk l rate).behind rate n = ⟨permL l, n⟩ := by
  obtain ⟨k, rfl⟩ : ∃ k, n = k + 1 := ⟨n - 1, by omega⟩
  have hn : (Sp.mk l rate).next rate = ⟨permL l, 1⟩ := if_pos rfl
  have ih := outs_block rate (permL l) k 1 (by omega)
  rw [Sp.outs, Sp.behind, hn, ih.1, ih.2]
  refine ⟨?_, by rw [Nat.add_comm 1]⟩
  rw [List.range_eq_range', List.range'_succ, List.map_cons]
  rfl
theorem outs_app (rate : Nat) (m : Nat) : ∀ (n : Nat) (s : Sp), s.outs rate (n + m) = s.outs rate n ++ (s.behind rate n).outs rate m
  | 0, s => by rw [Nat.zero_add]; rfl
  | n + 1, s => by
    rw [show n + 1 + m = (n + m) + 1 by omega, Sp.outs, Sp.outs, Sp.behind, outs_app rate m n (s.next rate)]
    rfl
theorem behind_app (rate : Nat) (m : Nat) : ∀ (n : Nat) (s : Sp), s.behind rate (n + m) = (s.behind rate n).behind rate m
  | 0, s => by rw [Nat.zero_add]; rfl
  | n + 1, s => by
    rw [show n + 1 + m = (n + m) + 1 by omega, Sp.behind, Sp.behind, behind_app rate m n (s.next rate)]
end Go.Proofs.YtjondbamnbgiaaaDoor
