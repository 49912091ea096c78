import Derived.Test.YtflalpcceeocaaaMA
/-
  PLAIN MATHEMATICS: words of 64 bits; one permutation Keccak-f[1600] on a list of 25 lanes; the sponge on bytes. Nothing of the program is named here.
-/
namespace Go.Proofs.Ytflalpcceeocaaa
open Go.RowKit
set_option maxRecDepth 100000

def rotl (x : UInt64) (n : Nat) : UInt64 := UInt64.ofNat ((x.toNat * 2 ^ n % 18446744073709551616) ||| (x.toNat / 2 ^ (64 - n)))
theorem wraps_u64 (m : Int) (h0 : 0 ≤ m) (h1 : m < 18446744073709551616) : IntKind.u64.wrap m = m := by rw [IntKind.wrap_u64]; omega
theorem u64_or (a b : UInt64) : bits .or .u64 a.toNat b.toNat = ((a ||| b).toNat : Int) := by
  rw [(bits_nat .u64 64 (by decide) wraps_u64 _ _ a.toNat_lt b.toNat_lt).2]; simp
theorem u64_and (a b : UInt64) : bits .and .u64 a.toNat b.toNat = ((a &&& b).toNat : Int) := by
  rw [(bits_nat .u64 64 (by decide) wraps_u64 _ _ a.toNat_lt b.toNat_lt).1]; simp
theorem bv_lane (a : UInt64) : BitVec.ofInt 64 (a.toNat : Int) = a.toBitVec := by
  apply BitVec.eq_of_toNat_eq
  have := a.toNat_lt
  simp
theorem u64_xor (a b : UInt64) : bits .xor .u64 (a.toNat : Int) (b.toNat : Int) = ((a ^^^ b).toNat : Int) := by
  have hx := (a ^^^ b).toNat_lt
  show IntKind.u64.wrap (((BitVec.ofInt 64 (a.toNat : Int) ^^^ BitVec.ofInt 64 (b.toNat : Int)).toNat : Nat) : Int) = _
  rw [bv_lane, bv_lane, show (a.toBitVec ^^^ b.toBitVec).toNat = (a ^^^ b).toNat from rfl, wraps_u64 _ (by omega) (by omega)]
theorem or_lt64 {a b : Nat} (ha : a < 18446744073709551616) (hb : b < 18446744073709551616) : a ||| b < 18446744073709551616 := Nat.or_lt_two_pow (n := 64) ha hb
theorem div_lt64 (x : UInt64) (n : Nat) : x.toNat / 2 ^ n < 18446744073709551616 := Nat.lt_of_le_of_lt (Nat.div_le_self _ _) x.toNat_lt
theorem ofNat64 {n : Nat} (h : n < 18446744073709551616) : (UInt64.ofNat n).toNat = n := by simp; omega
/-- x<<n | x>>(64-n) -/
theorem u64_rotl (x : UInt64) (n : Nat) : bits .or .u64 (((x.toNat : Int) * 2 ^ n) % 18446744073709551616) ((x.toNat : Int) / 2 ^ (64 - n)) = ((rotl x n).toNat : Int) := by
  have h1 := div_lt64 x (64 - n)
  have h2 : x.toNat * 2 ^ n % 18446744073709551616 < 18446744073709551616 := Nat.mod_lt _ (by decide)
  have e1 : (x.toNat : Int) / 2 ^ (64 - n) = ((x.toNat / 2 ^ (64 - n) : Nat) : Int) := by simp
  have e2 : ((x.toNat : Int) * 2 ^ n) % 18446744073709551616 = ((x.toNat * 2 ^ n % 18446744073709551616 : Nat) : Int) := by simp
  rw [e1, e2, (bits_nat .u64 64 (by decide) wraps_u64 _ _ h2 h1).2, rotl, ofNat64 (or_lt64 h2 h1)]

def laneCells (l : List UInt64) : List Value := l.map fun x => .int .u64 (x.toNat : Int)
/-! ### the permutation -/
theorem kgetD_get {α : Type} (l : List α) (i : Nat) (d : α) (h : i < l.length) : l.getD i d = l[i] := by simp [List.getD, List.getElem?_eq_getElem h]
def kC : List UInt64 := [
  0x0000000000000001, 0x0000000000008082, 0x800000000000808a, 0x8000000080008000,
  0x000000000000808b, 0x0000000080000001, 0x8000000080008081, 0x8000000000008009,
  0x000000000000008a, 0x0000000000000088, 0x0000000080008009, 0x000000008000000a,
  0x000000008000808b, 0x800000000000008b, 0x8000000000008089, 0x8000000000008003,
  0x8000000000008002, 0x8000000000000080, 0x000000000000800a, 0x800000008000000a,
  0x8000000080008081, 0x8000000000008080, 0x0000000080000001, 0x8000000080008008]
def lane (l : List UInt64) (i : Nat) : UInt64 := l.getD i 0
def colX (l : List UInt64) (x : Nat) : UInt64 := lane l x ^^^ lane l (x + 5) ^^^ lane l (x + 10) ^^^ lane l (x + 15) ^^^ lane l (x + 20)
def mixOf (l : List UInt64) (d0 d1 d2 d3 d4 : UInt64) : List UInt64 := [
  lane l 0 ^^^ d0, rotl (lane l 6 ^^^ d1) 44, rotl (lane l 12 ^^^ d2) 43, rotl (lane l 18 ^^^ d3) 21, rotl (lane l 24 ^^^ d4) 14,
  rotl (lane l 3 ^^^ d3) 28, rotl (lane l 9 ^^^ d4) 20, rotl (lane l 10 ^^^ d0) 3, rotl (lane l 16 ^^^ d1) 45, rotl (lane l 22 ^^^ d2) 61,
  rotl (lane l 1 ^^^ d1) 1, rotl (lane l 7 ^^^ d2) 6, rotl (lane l 13 ^^^ d3) 25, rotl (lane l 19 ^^^ d4) 8, rotl (lane l 20 ^^^ d0) 18,
  rotl (lane l 4 ^^^ d4) 27, rotl (lane l 5 ^^^ d0) 36, rotl (lane l 11 ^^^ d1) 10, rotl (lane l 17 ^^^ d2) 15, rotl (lane l 23 ^^^ d3) 56,
  rotl (lane l 2 ^^^ d2) 62, rotl (lane l 8 ^^^ d3) 55, rotl (lane l 14 ^^^ d4) 39, rotl (lane l 15 ^^^ d0) 41, rotl (lane l 21 ^^^ d1) 2]
def mixL (l : List UInt64) : List UInt64 :=
  mixOf l (colX l 4 ^^^ rotl (colX l 1) 1) (colX l 0 ^^^ rotl (colX l 2) 1) (colX l 1 ^^^ rotl (colX l 3) 1) (colX l 2 ^^^ rotl (colX l 4) 1) (colX l 3 ^^^ rotl (colX l 0) 1)
theorem mixL_length (l : List UInt64) : (mixL l).length = 25 := rfl
/-- what chi makes of five lanes -/
def andn (a b : UInt64) : UInt64 := a &&& ~~~b
theorem u64_andn (a b : UInt64) : bits .andNot .u64 (a.toNat : Int) (b.toNat : Int) = ((andn a b).toNat : Int) := by
  have hx := (andn a b).toNat_lt
  show IntKind.u64.wrap (((BitVec.ofInt 64 (a.toNat : Int) &&& ~~~BitVec.ofInt 64 (b.toNat : Int)).toNat : Nat) : Int) = _
  rw [bv_lane, bv_lane, show (a.toBitVec &&& ~~~b.toBitVec).toNat = (andn a b).toNat from rfl, wraps_u64 _ (by omega) (by omega)]
def chi5 (b0 b1 b2 b3 b4 : UInt64) : List UInt64 := [b0 ^^^ andn b2 b1, b1 ^^^ andn b3 b2, b2 ^^^ andn b4 b3, b3 ^^^ andn b0 b4, b4 ^^^ andn b1 b0]
def rowX (b : List UInt64) (y : Nat) : List UInt64 := chi5 (lane b y) (lane b (y + 1)) (lane b (y + 2)) (lane b (y + 3)) (lane b (y + 4))
def chiL (b : List UInt64) : List UInt64 := rowX b 0 ++ rowX b 5 ++ rowX b 10 ++ rowX b 15 ++ rowX b 20
theorem rowX_length (b : List UInt64) (y : Nat) : (rowX b y).length = 5 := rfl
theorem chiL_length (b : List UInt64) : (chiL b).length = 25 := rfl
def iotaL (l : List UInt64) (c : UInt64) : List UInt64 := l.set 0 (lane l 0 ^^^ c)
def permK (s : List UInt64) : Nat → List UInt64
  | 0 => s
  | n + 1 => iotaL (chiL (mixL (permK s n))) (lane kC n)
def permL (s : List UInt64) : List UInt64 := permK s 24
theorem permK_length (s : List UInt64) (h : s.length = 25) (n : Nat) : (permK s n).length = 25 := by
  cases n with
  | zero => exact h
  | succ n => simp [permK, iotaL, chiL_length]
theorem permL_length (s : List UInt64) (h : s.length = 25) : (permL s).length = 25 := permK_length s h 24

/-! ### the sponge -/
/-- the lanes and the place of the next byte -/
structure Sp where
  l : List UInt64
  at_ : Nat
def Sp.next (s : Sp) (rate : Nat) : Sp := if s.at_ = rate then ⟨permL s.l, 1⟩ else ⟨s.l, s.at_ + 1⟩
/-- the byte at place p of the block is combined with b -/
def maskL (l : List UInt64) (p : Nat) (b : UInt8) : List UInt64 := l.set (p / 8) (lane l (p / 8) ^^^ UInt64.ofNat (b.toNat * 2 ^ (8 * (p % 8))))
def byteL (l : List UInt64) (p : Nat) : UInt8 := UInt8.ofNat ((lane l (p / 8)).toNat / 2 ^ (8 * (p % 8)))
def Sp.put (s : Sp) (rate : Nat) (b : UInt8) : Sp := ⟨maskL (s.next rate).l ((s.next rate).at_ - 1) b, (s.next rate).at_⟩
def Sp.puts (s : Sp) (rate : Nat) : List UInt8 → Sp
  | [] => s
  | b :: r => (s.put rate b).puts rate r
/-- n bytes more of the output, and the sponge behind them -/
def Sp.outs (s : Sp) (rate : Nat) : Nat → List UInt8
  | 0 => []
  | n + 1 => byteL (s.next rate).l ((s.next rate).at_ - 1) :: (s.next rate).outs rate n
def Sp.behind (s : Sp) (rate : Nat) : Nat → Sp
  | 0 => s
  | n + 1 => (s.next rate).behind rate n
def zeroL : List UInt64 := List.replicate 25 0
def absorbL (rate : Nat) (suffix : UInt8) (m : List UInt8) : Sp := ⟨maskL ((Sp.mk zeroL 0).puts rate (m ++ [suffix])).l (rate - 1) 128, rate⟩
/-- n bytes of the output of m -/
def spongeL (rate : Nat) (suffix : UInt8) (m : List UInt8) (n : Nat) : List UInt8 := (absorbL rate suffix m).outs rate n

theorem sha3_empty : (spongeL 136 6 [] 32).take 4 = [0xa7, 0xff, 0xc6, 0xf8] := by decide +kernel
theorem shake_empty : spongeL 168 31 [] 4 = [0x7f, 0x9c, 0x2b, 0xa4] := by decide +kernel
end Go.Proofs.Ytflalpcceeocaaa

/-
  PLAIN MATHEMATICS: bytes laid into lanes; the sponge block by block; the document's round. Nothing of the program is named here.
-/
namespace Go.Proofs.Ytflalpcceeocaaa
open Go.RowKit
set_option maxRecDepth 100000

theorem lane_set_eq (l : List UInt64) (k : Nat) (x : UInt64) (h : k < l.length) : lane (l.set k x) k = x := by
  simp [lane, List.getD, h]
theorem lane_set_ne (l : List UInt64) (k j : Nat) (x : UInt64) (h : j ≠ k) : lane (l.set k x) j = lane l j := by
  simp [lane, List.getD, List.getElem?_set_ne (Ne.symm h)]
theorem set_lane (l : List UInt64) (k : Nat) : l.set k (lane l k) = l := by
  apply List.ext_getElem?
  intro i
  by_cases h : k = i
  · subst h
    by_cases hk : k < l.length
    · rw [List.getElem?_set_self hk, lane, kgetD_get l k 0 hk, List.getElem?_eq_getElem hk]
    · rw [List.getElem?_eq_none (by simpa using hk), List.getElem?_eq_none (by simpa using hk)]
  · rw [List.getElem?_set_ne h]
theorem byte_pow (b : UInt8) (n : Nat) (h : n ≤ 56) : b.toNat * 2 ^ n < 18446744073709551616 := by
  have hb : b.toNat < 256 := b.toNat_lt
  have h1 : 2 ^ n ≤ 2 ^ 56 := Nat.pow_le_pow_right (by decide) h
  calc b.toNat * 2 ^ n ≤ 255 * 2 ^ 56 := Nat.mul_le_mul (by omega) h1
    _ < 18446744073709551616 := by decide
theorem byte_toNat (b : UInt8) (n : Nat) (h : n ≤ 56) : (UInt64.ofNat (b.toNat * 2 ^ n)).toNat = b.toNat * 2 ^ n := ofNat64 (byte_pow b n h)
theorem xor_is_or (x : UInt64) (b : UInt8) (n : Nat) (h : n ≤ 56) (hx : x.toNat < 2 ^ n) : x ^^^ UInt64.ofNat (b.toNat * 2 ^ n) = x ||| UInt64.ofNat (b.toNat * 2 ^ n) := by
  apply UInt64.toNat_inj.1
  rw [UInt64.toNat_xor, UInt64.toNat_or, byte_toNat b n h]
  apply Nat.eq_of_testBit_eq
  intro i
  rw [Nat.testBit_xor, Nat.testBit_or, Nat.testBit_mul_two_pow]
  by_cases hi : n ≤ i
  · have : x.toNat.testBit i = false := Nat.testBit_lt_two_pow (Nat.lt_of_lt_of_le hx (Nat.pow_le_pow_right (by decide) hi))
    simp [this]
  · simp [hi]
theorem xor_low (x : UInt64) (b : UInt8) (n : Nat) (h : n ≤ 56) (hx : x.toNat < 2 ^ n) : (x ||| UInt64.ofNat (b.toNat * 2 ^ n)).toNat < 2 ^ (n + 8) := by
  rw [UInt64.toNat_or, byte_toNat b n h]
  refine Nat.or_lt_two_pow (Nat.lt_of_lt_of_le hx (Nat.pow_le_pow_right (by decide) (by omega))) ?_
  rw [Nat.pow_add, Nat.mul_comm]
  exact Nat.mul_lt_mul_of_pos_left b.toNat_lt (Nat.two_pow_pos n)
theorem xor_bytes (a b : UInt8) (n : Nat) (h : n ≤ 56) : UInt64.ofNat (a.toNat * 2 ^ n) ^^^ UInt64.ofNat (b.toNat * 2 ^ n) = UInt64.ofNat ((a ^^^ b).toNat * 2 ^ n) := by
  apply UInt64.toNat_inj.1
  rw [UInt64.toNat_xor, byte_toNat a n h, byte_toNat b n h, byte_toNat (a ^^^ b) n h, UInt8.toNat_xor]
  apply Nat.eq_of_testBit_eq
  intro i
  rw [Nat.testBit_xor, Nat.testBit_mul_two_pow, Nat.testBit_mul_two_pow, Nat.testBit_mul_two_pow, Nat.testBit_xor]
  by_cases hi : n ≤ i
  · simp [hi]
  · simp [hi]

/-! ### bytes laid into lanes -/
/-- bytes combined with the lanes from place p on -/
def layX (l : List UInt64) (p : Nat) : List UInt8 → List UInt64
  | [] => l
  | b :: r => layX (maskL l p b) (p + 1) r
def orL (l : List UInt64) (p : Nat) (b : UInt8) : List UInt64 := l.set (p / 8) (lane l (p / 8) ||| UInt64.ofNat (b.toNat * 2 ^ (8 * (p % 8))))
def layO (l : List UInt64) (p : Nat) : List UInt8 → List UInt64
  | [] => l
  | b :: r => layO (orL l p b) (p + 1) r
theorem maskL_length (l : List UInt64) (p : Nat) (b : UInt8) : (maskL l p b).length = l.length := List.length_set
theorem orL_length (l : List UInt64) (p : Nat) (b : UInt8) : (orL l p b).length = l.length := List.length_set
theorem layX_length (r : List UInt8) : ∀ (l : List UInt64) (p : Nat), (layX l p r).length = l.length := by
  induction r with
  | nil => intro l p; rfl
  | cons b r ih => intro l p; rw [layX, ih, maskL_length]
theorem layO_length (r : List UInt8) : ∀ (l : List UInt64) (p : Nat), (layO l p r).length = l.length := by
  induction r with
  | nil => intro l p; rfl
  | cons b r ih => intro l p; rw [layO, ih, orL_length]
theorem layX_append (r s : List UInt8) : ∀ (l : List UInt64) (p : Nat), layX l p (r ++ s) = layX (layX l p r) (p + r.length) s := by
  induction r with
  | nil => intro l p; rfl
  | cons b r ih => intro l p; rw [List.cons_append, layX, layX, ih, List.length_cons, Nat.add_assoc, Nat.add_comm 1]
theorem layO_append (r s : List UInt8) : ∀ (l : List UInt64) (p : Nat), layO l p (r ++ s) = layO (layO l p r) (p + r.length) s := by
  induction r with
  | nil => intro l p; rfl
  | cons b r ih => intro l p; rw [List.cons_append, layO, layO, ih, List.length_cons, Nat.add_assoc, Nat.add_comm 1]
theorem layX_take (r : List UInt8) (l : List UInt64) (p k : Nat) (h : k < r.length) : layX l p (r.take (k + 1)) = maskL (layX l p (r.take k)) (p + k) r[k] := by
  rw [List.take_succ_eq_append_getElem h, layX_append, List.length_take, Nat.min_eq_left (Nat.le_of_lt h)]
  rfl
theorem layO_take (r : List UInt8) (l : List UInt64) (p k : Nat) (h : k < r.length) : layO l p (r.take (k + 1)) = orL (layO l p (r.take k)) (p + k) r[k] := by
  rw [List.take_succ_eq_append_getElem h, layO_append, List.length_take, Nat.min_eq_left (Nat.le_of_lt h)]
  rfl
theorem maskL_zero (l : List UInt64) (p : Nat) : maskL l p 0 = l := by
  have h0 : UInt64.ofNat ((0 : UInt8).toNat * 2 ^ (8 * (p % 8))) = 0 := by
    rw [show (0 : UInt8).toNat = 0 from rfl, Nat.zero_mul]; rfl
  rw [maskL, h0, UInt64.xor_zero, set_lane]
theorem layX_zeros (n : Nat) : ∀ (l : List UInt64) (p : Nat), layX l p (List.replicate n 0) = l := by
  induction n with
  | zero => intro l p; rfl
  | succ n ih => intro l p; rw [List.replicate_succ, layX, maskL_zero, ih]
theorem maskL_maskL (l : List UInt64) (p : Nat) (h : p / 8 < l.length) (a b : UInt8) : maskL (maskL l p a) p b = maskL l p (a ^^^ b) := by
  unfold maskL
  rw [lane_set_eq _ _ _ h, List.set_set, UInt64.xor_assoc, xor_bytes a b _ (by omega)]
/-- the lanes have no bits from place p on -/
def Low (l : List UInt64) (p : Nat) : Prop := ∀ j, (lane l j).toNat < 2 ^ (8 * min 8 (p - 8 * j))
theorem low_zero : Low zeroL 0 := by
  intro j
  have : lane zeroL j = 0 := by
    unfold lane zeroL List.getD
    rw [List.getElem?_replicate]
    split <;> rfl
  rw [this]
  exact Nat.two_pow_pos _
theorem low_step (l : List UInt64) (p : Nat) (b : UInt8) (hl : l.length = 25) (hp : p < 200) (h : Low l p) : Low (orL l p b) (p + 1) ∧ maskL l p b = orL l p b := by
  have hx := h (p / 8)
  have e : min 8 (p - 8 * (p / 8)) = p % 8 := by omega
  rw [e] at hx
  constructor
  · intro j
    by_cases hj : j = p / 8
    · subst hj
      unfold orL
      rw [lane_set_eq _ _ _ (by omega), show 8 * min 8 (p + 1 - 8 * (p / 8)) = 8 * (p % 8) + 8 by omega]
      exact xor_low _ b _ (by omega) hx
    · unfold orL
      rw [lane_set_ne _ _ _ _ hj]
      exact Nat.lt_of_lt_of_le (h j) (Nat.pow_le_pow_right (by decide) (by omega))
  · unfold maskL orL
    rw [xor_is_or _ b _ (by omega) hx]
theorem layX_layO (r : List UInt8) : ∀ (l : List UInt64) (p : Nat), l.length = 25 → p + r.length ≤ 200 → Low l p → layX l p r = layO l p r := by
  induction r with
  | nil => intro l p _ _ _; rfl
  | cons b r ih =>
    intro l p hl hp h
    rw [List.length_cons] at hp
    have hs := low_step l p b hl (by omega) h
    rw [layX, layO, hs.2]
    exact ih _ _ (by rw [orL_length, hl]) (by omega) hs.1

/-! ### the sponge, block by block -/
theorem puts_lay (rate : Nat) (r : List UInt8) : ∀ (l : List UInt64) (a : Nat), a + r.length ≤ rate → (Sp.mk l a).puts rate r = ⟨layX l a r, a + r.length⟩ := by
  induction r with
  | nil => intro l a _; rfl
  | cons b r ih =>
    intro l a h
    rw [List.length_cons] at h
    have hn : (Sp.mk l a).next rate = ⟨l, a + 1⟩ := if_neg (by show ¬ a = rate; omega)
    rw [Sp.puts, Sp.put, hn]
    show Sp.puts ⟨maskL l (a + 1 - 1) b, a + 1⟩ rate r = _
    rw [Nat.add_sub_cancel, ih _ _ (by omega), layX, List.length_cons, Nat.add_assoc, Nat.add_comm 1]
theorem puts_full (rate : Nat) (hr : 0 < rate) (l : List UInt64) (r : List UInt8) (h : r ≠ []) : (Sp.mk l rate).puts rate r = (Sp.mk (permL l) 0).puts rate r := by
  cases r with
  | nil => exact absurd rfl h
  | cons b r =>
    have h1 : (Sp.mk l rate).next rate = ⟨permL l, 1⟩ := if_pos rfl
    have h2 : (Sp.mk (permL l) 0).next rate = ⟨permL l, 1⟩ := if_neg (by show ¬ 0 = rate; omega)
    rw [Sp.puts, Sp.puts, Sp.put, Sp.put, h1, h2]
theorem puts_app (rate : Nat) (l m : List UInt8) : ∀ s : Sp, s.puts rate (l ++ m) = (s.puts rate l).puts rate m := by
  induction l with
  | nil => intro s; rfl
  | cons b r ih => intro s; exact ih _
/-- the state behind j blocks, permuted -/
def absJ (rate : Nat) (x : List UInt8) : Nat → List UInt64
  | 0 => zeroL
  | j + 1 => permL (layX (absJ rate x j) 0 ((x.drop (j * rate)).take rate))
theorem absJ_length (rate : Nat) (x : List UInt8) (j : Nat) : (absJ rate x j).length = 25 := by
  induction j with
  | zero => rfl
  | succ j ih => exact permL_length _ (by rw [layX_length, ih])
theorem puts_block (rate : Nat) (hr : 0 < rate) (x : List UInt8) : ∀ (j : Nat) (t : List UInt8), j * rate ≤ x.length → t ≠ [] → t.length ≤ rate →
    ((Sp.mk zeroL 0).puts rate (x.take (j * rate))).puts rate t = ⟨layX (absJ rate x j) 0 t, t.length⟩ := by
  intro j
  induction j with
  | zero => intro t _ _ h; rw [Nat.zero_mul, List.take_zero]; exact (puts_lay rate t zeroL 0 (by omega)).trans (by rw [Nat.zero_add]; rfl)
  | succ j ih =>
    intro t hj hne ht
    have hjr : (j + 1) * rate = j * rate + rate := Nat.succ_mul j rate
    rw [hjr] at hj ⊢
    have hbl : ((x.drop (j * rate)).take rate).length = rate := by simp; omega
    rw [List.take_add, puts_app, ih ((x.drop (j * rate)).take rate) (by omega) (by intro e; rw [e] at hbl; simp at hbl; omega) (by omega), hbl, puts_full rate hr _ t hne]
    exact (puts_lay rate t _ 0 (by omega)).trans (by rw [Nat.zero_add]; rfl)
/-- t with zeros behind it up to a block, the last byte turned -/
def kpadB (rate : Nat) (t : List UInt8) : List UInt8 := (t ++ List.replicate (rate - t.length) 0).set (rate - 1) ((t ++ List.replicate (rate - t.length) 0).getD (rate - 1) 0 ^^^ 128)
theorem set_last (z : List UInt8) (n : Nat) (h : z.length = n + 1) (x : UInt8) : z.set n x = z.take n ++ [x] ∧ z = z.take n ++ [z.getD n 0] := by
  have hz : z = z.take n ++ [z.getD n 0] := by
    have := List.take_succ_eq_append_getElem (l := z) (i := n) (by omega)
    rw [List.take_of_length_le (by omega)] at this
    rw [kgetD_get z n 0 (by omega)]
    exact this
  refine ⟨?_, hz⟩
  conv => lhs; rw [hz]
  rw [List.set_append_right _ _ (by simp; omega), show n - (z.take n).length = 0 by simp; omega]
  rfl
theorem layX_padB (rate : Nat) (hr : 0 < rate) (hr2 : rate ≤ 200) (t : List UInt8) (ht : t.length ≤ rate) (l : List UInt64) (hl : l.length = 25) : layX l 0 (kpadB rate t) = maskL (layX l 0 t) (rate - 1) 128 := by
  unfold kpadB
  obtain ⟨z, hz⟩ : ∃ z, z = t ++ List.replicate (rate - t.length) (0 : UInt8) := ⟨_, rfl⟩
  have hzl : z.length = (rate - 1) + 1 := by rw [hz]; simp; omega
  have hlz : layX l 0 z = layX l 0 t := by rw [hz, layX_append, layX_zeros]
  rw [← hz]
  obtain ⟨h1, h2⟩ := set_last z (rate - 1) hzl (z.getD (rate - 1) 0 ^^^ 128)
  rw [h1, layX_append, ← hlz]
  conv => rhs; rw [h2, layX_append]
  have hn : 0 + (z.take (rate - 1)).length = rate - 1 := by simp; omega
  rw [hn]
  show maskL _ _ _ = maskL (maskL _ _ _) _ _
  rw [maskL_maskL _ _ (by rw [layX_length, hl]; omega)]
theorem kpadB_length (rate : Nat) (t : List UInt8) (ht : t.length ≤ rate) : (kpadB rate t).length = rate := by simp [kpadB]; omega
/-- what is absorbed is the blocks, the last one padded -/
theorem absorbL_block (rate : Nat) (hr : 0 < rate) (hr2 : rate ≤ 200) (suf : UInt8) (m : List UInt8) (q : Nat) (hq : q * rate ≤ m.length) (hq2 : m.length < (q + 1) * rate) :
    absorbL rate suf m = ⟨layX (absJ rate (m ++ [suf]) q) 0 (kpadB rate ((m ++ [suf]).drop (q * rate))), rate⟩ := by
  have hqr : (q + 1) * rate = q * rate + rate := Nat.succ_mul q rate
  have hxl : (m ++ [suf]).length = m.length + 1 := by simp
  have htl : ((m ++ [suf]).drop (q * rate)).length = m.length + 1 - q * rate := by rw [List.length_drop, hxl]
  unfold absorbL
  conv => lhs; rw [← List.take_append_drop (q * rate) (m ++ [suf])]
  rw [puts_app, puts_block rate hr (m ++ [suf]) q _ (by omega) (by intro e; rw [e] at htl; simp at htl; omega) (by omega), layX_padB rate hr hr2 _ (by omega) _ (absJ_length _ _ _)]
theorem absJ_prefix (rate : Nat) (x y : List UInt8) (n : Nat) : ∀ j, x.take n = y.take n → j * rate ≤ n → absJ rate x j = absJ rate y j := by
  intro j
  induction j with
  | zero => intro _ _; rfl
  | succ j ih =>
    intro h hn
    have hjr : (j + 1) * rate = j * rate + rate := Nat.succ_mul j rate
    have e : (x.drop (j * rate)).take rate = (y.drop (j * rate)).take rate := by
      have h2 := congrArg (fun z => (z.drop (j * rate)).take rate) h
      simp only [List.drop_take, List.take_take] at h2
      rwa [show min rate (n - j * rate) = rate by omega] at h2
    rw [absJ, absJ, ih h (by omega), e]
theorem outs_block (rate : Nat) (l : List UInt64) : ∀ (n a : Nat), a + n ≤ rate → (Sp.mk l a).outs rate n = (List.range' a n).map (byteL l) ∧ (Sp.mk l a).behind rate n = ⟨l, a + n⟩
  | 0, _, _ => ⟨rfl, rfl⟩
  | n + 1, a, h => by
    have hn : (Sp.mk l a).next rate = ⟨l, a + 1⟩ := if_neg (by show ¬ a = rate; omega)
    have ih := outs_block rate l n (a + 1) (by omega)
    rw [Sp.outs, Sp.behind, hn, ih.1, ih.2]
    refine ⟨?_, by rw [Nat.add_assoc, Nat.add_comm 1]⟩
    rw [List.range'_succ, List.map_cons]
    rfl
theorem outs_full (rate : Nat) (l : List UInt64) (n : Nat) (h0 : 0 < n) (h : n ≤ rate) : (Sp.mk l rate).outs rate n = (List.range n).map (byteL (permL l)) ∧ (Sp.mk l rate).behind rate n = ⟨permL l, n⟩ := by
  obtain ⟨k, rfl⟩ : ∃ k, n = k + 1 := ⟨n - 1, by omega⟩
  have hn : (Sp.mk l rate).next rate = ⟨permL l, 1⟩ := if_pos rfl
  have ih := outs_block rate (permL l) k 1 (by omega)
  rw [Sp.outs, Sp.behind, hn, ih.1, ih.2]
  refine ⟨?_, by rw [Nat.add_comm 1]⟩
  rw [List.range_eq_range', List.range'_succ, List.map_cons]
  rfl
theorem outs_app (rate : Nat) (m : Nat) : ∀ (n : Nat) (s : Sp), s.outs rate (n + m) = s.outs rate n ++ (s.behind rate n).outs rate m
  | 0, s => by rw [Nat.zero_add]; rfl
  | n + 1, s => by
    rw [show n + 1 + m = (n + m) + 1 by omega, Sp.outs, Sp.outs, Sp.behind, outs_app rate m n (s.next rate)]
    rfl
theorem behind_app (rate : Nat) (m : Nat) : ∀ (n : Nat) (s : Sp), s.behind rate (n + m) = (s.behind rate n).behind rate m
  | 0, s => by rw [Nat.zero_add]; rfl
  | n + 1, s => by
    rw [show n + 1 + m = (n + m) + 1 by omega, Sp.behind, Sp.behind, behind_app rate m n (s.next rate)]
end Go.Proofs.Ytflalpcceeocaaa

/-
  PLAIN MATHEMATICS: the document's round on a list of lanes. Nothing of the program is named here.
-/
namespace Go.Proofs.Ytflalpcceeocaaa
open Go.RowKit
set_option maxRecDepth 100000

/-- a lane turned left -/
def trn (x : UInt64) (n : Nat) : UInt64 := if n = 0 then x else rotl x n
/-- the sums of the columns, i lanes in -/
def sumL (a : List UInt64) : Nat → List UInt64
  | 0 => List.replicate 5 0
  | i + 1 => (sumL a i).set (i % 5) (lane (sumL a i) (i % 5) ^^^ lane a i)
/-- lanes with the sums of the columns beside them, i lanes in -/
def thetaL (a s : List UInt64) : Nat → List UInt64
  | 0 => a
  | i + 1 => (thetaL a s i).set i (lane (thetaL a s i) i ^^^ (lane s ((i + 4) % 5) ^^^ trn (lane s ((i + 1) % 5)) 1))
/-- the walk over the lanes -/
def xyN : Nat → Nat × Nat
  | 0 => (1, 0)
  | t + 1 => ((xyN t).2, (2 * (xyN t).1 + 3 * (xyN t).2) % 5)
def rhoL (a : List UInt64) : Nat → List UInt64
  | 0 => (List.replicate 25 0).set 0 (lane a 0)
  | t + 1 => (rhoL a t).set (5 * (xyN (t + 1)).2 + (xyN (t + 1)).1) (trn (lane a (5 * (xyN t).2 + (xyN t).1)) ((t + 1) * (t + 2) / 2 % 64))
def chiR (a b : List UInt64) : Nat → List UInt64
  | 0 => a
  | i + 1 => (chiR a b i).set i (lane b i ^^^ andn (lane b (i / 5 * 5 + (i + 2) % 5)) (lane b (i / 5 * 5 + (i + 1) % 5)))
def roundL (a : List UInt64) (c : UInt64) : List UInt64 := iotaL (chiR (thetaL a (sumL a 25) 25) (rhoL (thetaL a (sumL a 25) 25) 24) 25) c
theorem sumL_length (a : List UInt64) (i : Nat) : (sumL a i).length = 5 := by
  induction i with
  | zero => rfl
  | succ i ih => rw [sumL, List.length_set, ih]
theorem thetaL_length (a s : List UInt64) (i : Nat) : (thetaL a s i).length = a.length := by
  induction i with
  | zero => rfl
  | succ i ih => rw [thetaL, List.length_set, ih]
theorem rhoL_length (a : List UInt64) (i : Nat) : (rhoL a i).length = 25 := by
  induction i with
  | zero => rfl
  | succ i ih => rw [rhoL, List.length_set, ih]
theorem chiR_length (a b : List UInt64) (i : Nat) : (chiR a b i).length = a.length := by
  induction i with
  | zero => rfl
  | succ i ih => rw [chiR, List.length_set, ih]
theorem xyN_lt (t : Nat) : (xyN t).1 < 5 ∧ (xyN t).2 < 5 := by
  induction t with
  | zero => exact ⟨by decide, by decide⟩
  | succ t ih => exact ⟨ih.2, Nat.mod_lt _ (by decide)⟩
theorem thetaL_ahead (a s : List UInt64) (i j : Nat) (h : i ≤ j) : lane (thetaL a s i) j = lane a j := by
  induction i with
  | zero => rfl
  | succ i ih => rw [thetaL, lane_set_ne _ _ _ _ (by omega), ih (by omega)]

section
variable (a0 a1 a2 a3 a4 a5 a6 a7 a8 a9 a10 a11 a12 a13 a14 a15 a16 a17 a18 a19 a20 a21 a22 a23 a24 c : UInt64)
theorem sumL_all : sumL [a0, a1, a2, a3, a4, a5, a6, a7, a8, a9, a10, a11, a12, a13, a14, a15, a16, a17, a18, a19, a20, a21, a22, a23, a24] 25 =
    [a0 ^^^ a5 ^^^ a10 ^^^ a15 ^^^ a20, a1 ^^^ a6 ^^^ a11 ^^^ a16 ^^^ a21, a2 ^^^ a7 ^^^ a12 ^^^ a17 ^^^ a22, a3 ^^^ a8 ^^^ a13 ^^^ a18 ^^^ a23, a4 ^^^ a9 ^^^ a14 ^^^ a19 ^^^ a24] := by
  have h : sumL [a0, a1, a2, a3, a4, a5, a6, a7, a8, a9, a10, a11, a12, a13, a14, a15, a16, a17, a18, a19, a20, a21, a22, a23, a24] 25 =
    [0 ^^^ a0 ^^^ a5 ^^^ a10 ^^^ a15 ^^^ a20, 0 ^^^ a1 ^^^ a6 ^^^ a11 ^^^ a16 ^^^ a21, 0 ^^^ a2 ^^^ a7 ^^^ a12 ^^^ a17 ^^^ a22, 0 ^^^ a3 ^^^ a8 ^^^ a13 ^^^ a18 ^^^ a23, 0 ^^^ a4 ^^^ a9 ^^^ a14 ^^^ a19 ^^^ a24] := by kernel_rfl
  rw [h]
  simp only [UInt64.zero_xor]
variable (c0 c1 c2 c3 c4 : UInt64)
theorem thetaL_all : thetaL [a0, a1, a2, a3, a4, a5, a6, a7, a8, a9, a10, a11, a12, a13, a14, a15, a16, a17, a18, a19, a20, a21, a22, a23, a24] [c0, c1, c2, c3, c4] 25 =
    [a0 ^^^ (c4 ^^^ rotl c1 1), a1 ^^^ (c0 ^^^ rotl c2 1), a2 ^^^ (c1 ^^^ rotl c3 1), a3 ^^^ (c2 ^^^ rotl c4 1), a4 ^^^ (c3 ^^^ rotl c0 1),
     a5 ^^^ (c4 ^^^ rotl c1 1), a6 ^^^ (c0 ^^^ rotl c2 1), a7 ^^^ (c1 ^^^ rotl c3 1), a8 ^^^ (c2 ^^^ rotl c4 1), a9 ^^^ (c3 ^^^ rotl c0 1),
     a10 ^^^ (c4 ^^^ rotl c1 1), a11 ^^^ (c0 ^^^ rotl c2 1), a12 ^^^ (c1 ^^^ rotl c3 1), a13 ^^^ (c2 ^^^ rotl c4 1), a14 ^^^ (c3 ^^^ rotl c0 1),
     a15 ^^^ (c4 ^^^ rotl c1 1), a16 ^^^ (c0 ^^^ rotl c2 1), a17 ^^^ (c1 ^^^ rotl c3 1), a18 ^^^ (c2 ^^^ rotl c4 1), a19 ^^^ (c3 ^^^ rotl c0 1),
     a20 ^^^ (c4 ^^^ rotl c1 1), a21 ^^^ (c0 ^^^ rotl c2 1), a22 ^^^ (c1 ^^^ rotl c3 1), a23 ^^^ (c2 ^^^ rotl c4 1), a24 ^^^ (c3 ^^^ rotl c0 1)] := by kernel_rfl
theorem rhoL_all : rhoL [a0, a1, a2, a3, a4, a5, a6, a7, a8, a9, a10, a11, a12, a13, a14, a15, a16, a17, a18, a19, a20, a21, a22, a23, a24] 24 =
    [a0, rotl a6 44, rotl a12 43, rotl a18 21, rotl a24 14, rotl a3 28, rotl a9 20, rotl a10 3, rotl a16 45, rotl a22 61, rotl a1 1, rotl a7 6, rotl a13 25, rotl a19 8, rotl a20 18,
     rotl a4 27, rotl a5 36, rotl a11 10, rotl a17 15, rotl a23 56, rotl a2 62, rotl a8 55, rotl a14 39, rotl a15 41, rotl a21 2] := by kernel_rfl
theorem chiR_all (b : List UInt64) : chiR [a0, a1, a2, a3, a4, a5, a6, a7, a8, a9, a10, a11, a12, a13, a14, a15, a16, a17, a18, a19, a20, a21, a22, a23, a24] b 25 = chiL b := by kernel_rfl
end
theorem len25 (l : List UInt64) (h : l.length = 25) : ∃ a0 a1 a2 a3 a4 a5 a6 a7 a8 a9 a10 a11 a12 a13 a14 a15 a16 a17 a18 a19 a20 a21 a22 a23 a24 : UInt64, l = [a0, a1, a2, a3, a4, a5, a6, a7, a8, a9, a10, a11, a12, a13, a14, a15, a16, a17, a18, a19, a20, a21, a22, a23, a24] := by
  match l, h with
  | [a0, a1, a2, a3, a4, a5, a6, a7, a8, a9, a10, a11, a12, a13, a14, a15, a16, a17, a18, a19, a20, a21, a22, a23, a24], _ => exact ⟨a0, a1, a2, a3, a4, a5, a6, a7, a8, a9, a10, a11, a12, a13, a14, a15, a16, a17, a18, a19, a20, a21, a22, a23, a24, rfl⟩
theorem chiR_any (a b : List UInt64) (h : a.length = 25) : chiR a b 25 = chiL b := by
  obtain ⟨a0, a1, a2, a3, a4, a5, a6, a7, a8, a9, a10, a11, a12, a13, a14, a15, a16, a17, a18, a19, a20, a21, a22, a23, a24, rfl⟩ := len25 a h
  exact chiR_all a0 a1 a2 a3 a4 a5 a6 a7 a8 a9 a10 a11 a12 a13 a14 a15 a16 a17 a18 a19 a20 a21 a22 a23 a24 b
/-- the document's round is one of the permutation -/
theorem roundL_eq (a : List UInt64) (h : a.length = 25) (c : UInt64) : roundL a c = iotaL (chiL (mixL a)) c := by
  have hb : rhoL (thetaL a (sumL a 25) 25) 24 = mixL a := by
    obtain ⟨a0, a1, a2, a3, a4, a5, a6, a7, a8, a9, a10, a11, a12, a13, a14, a15, a16, a17, a18, a19, a20, a21, a22, a23, a24, rfl⟩ := len25 a h
    exact (congrArg (fun z => rhoL z 24) ((congrArg (fun z => thetaL [a0, a1, a2, a3, a4, a5, a6, a7, a8, a9, a10, a11, a12, a13, a14, a15, a16, a17, a18, a19, a20, a21, a22, a23, a24] z 25) (sumL_all a0 a1 a2 a3 a4 a5 a6 a7 a8 a9 a10 a11 a12 a13 a14 a15 a16 a17 a18 a19 a20 a21 a22 a23 a24)).trans (thetaL_all a0 a1 a2 a3 a4 a5 a6 a7 a8 a9 a10 a11 a12 a13 a14 a15 a16 a17 a18 a19 a20 a21 a22 a23 a24 _ _ _ _ _))).trans ((rhoL_all _ _ _ _ _ _ _ _ _ _ _ _ _ _ _ _ _ _ _ _ _ _ _ _ _).trans (by kernel_rfl))
  exact congrArg (fun z => iotaL z c) ((chiR_any _ _ ((thetaL_length _ _ _).trans h)).trans (congrArg chiL hb))
/-- so many rounds of the document -/
def refPerm (s : List UInt64) : Nat → List UInt64
  | 0 => s
  | n + 1 => roundL (refPerm s n) (lane kC n)
theorem refPerm_eq (s : List UInt64) (h : s.length = 25) (n : Nat) : refPerm s n = permK s n := by
  induction n with
  | zero => rfl
  | succ n ih => rw [refPerm, ih, roundL_eq _ (permK_length s h n), permK]
end Go.Proofs.Ytflalpcceeocaaa
