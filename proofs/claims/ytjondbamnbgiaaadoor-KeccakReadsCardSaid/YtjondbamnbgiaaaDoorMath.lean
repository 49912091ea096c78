/-
  PLAIN MATHEMATICS for the claims over package octet: integers as bytes, bits of bytes, the model's bit operations on one byte. Nothing of the program is named here.
-/
import Derived.WalkKit
namespace Go.Proofs.YtjondbamnbgiaaaDoor
open Go.RowKit
set_option maxRecDepth 100000

/-! ### integers as bytes -/
def bigN (bs : List UInt8) : Nat := bs.foldl (fun n b => n * 256 + b.toNat) 0
def litN : List UInt8 → Nat
  | [] => 0
  | b :: r => b.toNat + 256 * litN r
def litB (n : Nat) : Nat → List UInt8
  | 0 => []
  | k + 1 => UInt8.ofNat (n % 256) :: litB (n / 256) k
def bigB (n k : Nat) : List UInt8 := (litB n k).reverse

theorem bigN_snoc (bs : List UInt8) (b : UInt8) : bigN (bs ++ [b]) = bigN bs * 256 + b.toNat := by simp [bigN]
theorem bigN_reverse (bs : List UInt8) : bigN bs.reverse = litN bs := by
  induction bs with
  | nil => rfl
  | cons b r ih => rw [List.reverse_cons, bigN_snoc, ih, litN]; omega
theorem bigN_eq (bs : List UInt8) : bigN bs = litN bs.reverse := by rw [← bigN_reverse, List.reverse_reverse]
theorem litN_snoc (bs : List UInt8) (b : UInt8) : litN (bs ++ [b]) = litN bs + 256 ^ bs.length * b.toNat := by
  induction bs with
  | nil => simp [litN]
  | cons x r ih =>
    simp only [List.cons_append, litN, ih, List.length_cons, Nat.pow_succ]
    rw [Nat.mul_add, ← Nat.mul_assoc, Nat.mul_comm 256 (256 ^ r.length)]
    omega
theorem litN_lt (bs : List UInt8) : litN bs < 256 ^ bs.length := by
  induction bs with
  | nil => simp [litN]
  | cons b r ih =>
    have := b.toNat_lt
    simp only [litN, List.length_cons, Nat.pow_succ]
    omega
theorem bigN_lt (bs : List UInt8) : bigN bs < 256 ^ bs.length := by
  have := litN_lt bs.reverse
  rw [bigN_eq]; simpa using this
theorem litB_length (n k : Nat) : (litB n k).length = k := by
  induction k generalizing n with
  | zero => rfl
  | succ k ih => simp [litB, ih]
theorem bigB_length (n k : Nat) : (bigB n k).length = k := by simp [bigB, litB_length]
theorem litN_litB (n k : Nat) : litN (litB n k) = n % 256 ^ k := by
  induction k generalizing n with
  | zero => simp [litB, litN, Nat.mod_one]
  | succ k ih =>
    simp only [litB, litN, ih]
    have h : (UInt8.ofNat (n % 256)).toNat = n % 256 := by simp
    rw [h, Nat.pow_succ, Nat.mul_comm (256 ^ k) 256, Nat.mod_mul]
theorem litB_litN (bs : List UInt8) : litB (litN bs) bs.length = bs := by
  induction bs with
  | nil => rfl
  | cons b r ih =>
    have hb := b.toNat_lt
    simp only [litN, List.length_cons, litB]
    have h1 : (b.toNat + 256 * litN r) % 256 = b.toNat := by omega
    have h2 : (b.toNat + 256 * litN r) / 256 = litN r := by omega
    rw [h1, h2, ih]
    simp
theorem litB_getElem (n k j : Nat) (h : j < (litB n k).length) : (litB n k)[j] = UInt8.ofNat (n / 256 ^ j % 256) := by
  induction k generalizing n j with
  | zero => simp [litB] at h
  | succ k ih =>
    cases j with
    | zero => simp [litB]
    | succ j =>
      simp only [litB, List.getElem_cons_succ]
      rw [ih (n / 256) j (by simpa [litB] using h), Nat.div_div_eq_div_mul, Nat.pow_succ, Nat.mul_comm 256]
theorem bigB_getElem (n k j : Nat) (h : j < k) : (bigB n k)[j]'(by rw [bigB_length]; exact h) = UInt8.ofNat (n / 256 ^ (k - 1 - j) % 256) := by
  unfold bigB
  rw [List.getElem_reverse, litB_getElem]
  simp [litB_length]
theorem pow8 (j : Nat) : (2 : Nat) ^ (8 * j) = 256 ^ j := by rw [Nat.pow_mul]
theorem pow256_le8 {k : Nat} (h : k ≤ 8) : 256 ^ k ≤ 18446744073709551616 := by
  calc 256 ^ k ≤ 256 ^ 8 := Nat.pow_le_pow_right (by decide) h
    _ = 18446744073709551616 := by decide
theorem pow256_le7 {k : Nat} (h : k ≤ 7) : 256 ^ k ≤ 72057594037927936 := by
  calc 256 ^ k ≤ 256 ^ 7 := Nat.pow_le_pow_right (by decide) h
    _ = 72057594037927936 := by decide
theorem take_snoc {α : Type} (l : List α) (k : Nat) (h : k < l.length) : l.take (k + 1) = l.take k ++ [l[k]] := by
  rw [List.take_succ_eq_append_getElem h]

/-! ### bit operations of the model, as operations on bytes -/
theorem u8_or (a b : UInt8) : bits .or .u8 a.toNat b.toNat = ((a ||| b).toNat : Int) := by
  rw [(bits_nat .u8 8 (by decide) wraps_u8 _ _ a.toNat_lt b.toNat_lt).2]; simp
theorem u8_and (a b : UInt8) : bits .and .u8 a.toNat b.toNat = ((a &&& b).toNat : Int) := by
  rw [(bits_nat .u8 8 (by decide) wraps_u8 _ _ a.toNat_lt b.toNat_lt).1]; simp
theorem bv_byte (a : UInt8) : BitVec.ofInt 8 (a.toNat : Int) = a.toBitVec := by
  apply BitVec.eq_of_toNat_eq
  have := a.toNat_lt
  simp
theorem u8_xor (a b : UInt8) : bits .xor .u8 a.toNat b.toNat = ((a ^^^ b).toNat : Int) := by
  have hx := (a ^^^ b).toNat_lt
  show IntKind.u8.wrap (((BitVec.ofInt 8 (a.toNat : Int) ^^^ BitVec.ofInt 8 (b.toNat : Int)).toNat : Nat) : Int) = _
  rw [bv_byte, bv_byte, show (a.toBitVec ^^^ b.toBitVec).toNat = (a ^^^ b).toNat from rfl, wraps_u8 _ (by omega) (by omega)]
theorem u8_andNot (a b : UInt8) : bits .andNot .u8 a.toNat b.toNat = ((a &&& ~~~b).toNat : Int) := by
  have hx := (a &&& ~~~b).toNat_lt
  show IntKind.u8.wrap (((BitVec.ofInt 8 (a.toNat : Int) &&& ~~~BitVec.ofInt 8 (b.toNat : Int)).toNat : Nat) : Int) = _
  rw [bv_byte, bv_byte, show (a.toBitVec &&& ~~~b.toBitVec).toNat = (a &&& ~~~b).toNat from rfl, wraps_u8 _ (by omega) (by omega)]
/-- n<<8 | x of a number that has room -/
theorem u64_or8 (n b : Nat) (hb : b < 256) (hn : n < 72057594037927936) : bits .or .u64 (IntKind.u64.wrap ((n : Int) * 256)) (IntKind.u64.wrap (b : Int)) = ((n * 256 + b : Nat) : Int) := by
  rw [IntKind.wrap_u64, IntKind.wrap_u64]
  have h1 : ((n : Int) * 256) % 18446744073709551616 = (n : Int) * 256 := by omega
  have h2 : (b : Int) % 18446744073709551616 = b := by omega
  rw [h1, h2, bits_join .u64 64 (by decide) (fun m h0 h1 => by rw [IntKind.wrap_u64]; omega) 8 _ _ (by omega) (by omega) (by omega) (by omega) (by omega) (by omega)]
  omega
/-- n | x << (8*k), n below 256^k -/
theorem u64_orHigh (n b k : Nat) (hk : k ≤ 7) (hb : b < 256) (hn : n < 256 ^ k) : bits .or .u64 (n : Int) (IntKind.u64.wrap (IntKind.u64.wrap (b : Int) * 2 ^ (8 * k))) = ((n + 256 ^ k * b : Nat) : Int) := by
  have hp := pow256_le7 hk
  have hm : 256 ^ k * b ≤ 256 ^ k * 255 := Nat.mul_le_mul_left _ (by omega)
  have e : IntKind.u64.wrap (IntKind.u64.wrap (b : Int) * 2 ^ (8 * k)) = ((256 ^ k * b : Nat) : Int) := by
    rw [IntKind.wrap_u64, IntKind.wrap_u64, show (b : Int) % 18446744073709551616 = b by omega]
    have h2 : ((2 : Int) ^ (8 * k)) = ((256 ^ k : Nat) : Int) := by rw [← pow8]; simp
    rw [h2, ← Int.natCast_mul, Nat.mul_comm b]
    omega
  rw [e, (bits_nat .u64 64 (by decide) (fun m h0 h1 => by rw [IntKind.wrap_u64]; omega) _ _ (by omega) (by omega)).2]
  rw [Nat.or_comm, ← pow8, ← Nat.two_pow_add_eq_or_of_lt (by rw [pow8]; exact hn), pow8]
  omega
theorem u8_wrap_mod (n : Int) : IntKind.u8.wrap n = n % 256 := IntKind.wrap_u8 n
/-- byte(n >> (8*k)) -/
theorem u8_shr (n k : Nat) : IntKind.u8.wrap ((n : Int) / 2 ^ (8 * k)) = ((UInt8.ofNat (n / 256 ^ k % 256)).toNat : Int) := by
  rw [IntKind.wrap_u8]
  have h2 : ((2 : Int) ^ (8 * k)) = ((256 ^ k : Nat) : Int) := by rw [← pow8]; simp
  rw [h2]
  have h : (UInt8.ofNat (n / 256 ^ k % 256)).toNat = n / 256 ^ k % 256 := by simp
  rw [h, ← Int.natCast_ediv]
  omega
theorem byte_shr (n j : Nat) : (n : Int) / 2 ^ (8 * j) % 256 = ((UInt8.ofNat (n / 256 ^ j % 256)).toNat : Int) := by
  rw [← u8_shr, IntKind.wrap_u8]
theorem set_step (l : List UInt8) (j k : Nat) (hl : l.length = k) (hj : j < k) :
    (l.take j ++ List.replicate (k - j) 0).set j (l[j]'(by omega)) = l.take (j + 1) ++ List.replicate (k - (j + 1)) 0 := by
  have h1 : (l.take j).length = j := by simp; omega
  rw [List.set_append_right _ _ (by omega), h1, Nat.sub_self, show k - j = (k - (j + 1)) + 1 by omega, List.replicate_succ, List.set_cons_zero, take_snoc l j (by omega), List.append_assoc]
  rfl
theorem ret_int {k : IntKind} {a b : Int} (h : a = b) : Ending.returned (.int k a) = .returned (.int k b) := by rw [h]
end Go.Proofs.YtjondbamnbgiaaaDoor
