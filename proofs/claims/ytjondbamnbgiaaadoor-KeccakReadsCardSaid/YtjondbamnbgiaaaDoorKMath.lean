/-
  PLAIN MATHEMATICS: words of 64 bits; one permutation Keccak-f[1600] on a list of 25 lanes; the sponge on bytes. Nothing of the program is named here.
-/
import Derived.Test.YtjondbamnbgiaaaDoorMath
namespace Go.Proofs.YtjondbamnbgiaaaDoor
open Go.RowKit
set_option maxRecDepth 100000

def rotl (x : UInt64) (n : Nat) : UInt64 := UInt64.ofNat ((x.toNat * 2 ^ n % 18446744073709551616) ||| (x.toNat / 2 ^ (64 - n)))
theorem wraps_u64 (m : Int) (h0 : 0 ≤ m) (h1 : m < 18446744073709551616) : IntKind.u64.wrap m = m := by rw [IntKind.wrap_u64]; omega
theorem u64_or (a b : UInt64) : bits .or .u64 a.toNat b.toNat = ((a ||| b).toNat : Int) := by
  rw [(bits_nat .u64 64 (by decide) wraps_u64 _ _ a.toNat_lt b.toNat_lt).2]; simp
theorem u64_and (a b : UInt64) : bits .and .u64 a.toNat b.toNat = ((a &&& b).toNat : Int) := by
  rw [(bits_nat .u64 64 (by decide) wraps_u64 _ _ a.toNat_lt b.toNat_lt).1]; simp
theorem bv_lane (a : UInt64) : BitVec.ofInt 64 (a.toNat : Int) = a.toBitVec := by
  apply BitVec.eq_of_toNat_eq
  have := a.toNat_lt
  simp
theorem u64_xor (a b : UInt64) : bits .xor .u64 (a.toNat : Int) (b.toNat : Int) = ((a ^^^ b).toNat : Int) := by
  have hx := (a ^^^ b).toNat_lt
  show IntKind.u64.wrap (((BitVec.ofInt 64 (a.toNat : Int) ^^^ BitVec.ofInt 64 (b.toNat : Int)).toNat : Nat) : Int) = _
  rw [bv_lane, bv_lane, show (a.toBitVec ^^^ b.toBitVec).toNat = (a ^^^ b).toNat from rfl, wraps_u64 _ (by omega) (by omega)]
theorem or_lt64 {a b : Nat} (ha : a < 18446744073709551616) (hb : b < 18446744073709551616) : a ||| b < 18446744073709551616 := Nat.or_lt_two_pow (n := 64) ha hb
theorem div_lt64 (x : UInt64) (n : Nat) : x.toNat / 2 ^ n < 18446744073709551616 := Nat.lt_of_le_of_lt (Nat.div_le_self _ _) x.toNat_lt
theorem ofNat64 {n : Nat} (h : n < 18446744073709551616) : (UInt64.ofNat n).toNat = n := by simp; omega
/-- x<<n | x>>(64-n) -/
theorem u64_rotl (x : UInt64) (n : Nat) : bits .or .u64 (((x.toNat : Int) * 2 ^ n) % 18446744073709551616) ((x.toNat : Int) / 2 ^ (64 - n)) = ((rotl x n).toNat : Int) := by
  have h1 := div_lt64 x (64 - n)
  have h2 : x.toNat * 2 ^ n % 18446744073709551616 < 18446744073709551616 := Nat.mod_lt _ (by decide)
  have e1 : (x.toNat : Int) / 2 ^ (64 - n) = ((x.toNat / 2 ^ (64 - n) : Nat) : Int) := by simp
  have e2 : ((x.toNat : Int) * 2 ^ n) % 18446744073709551616 = ((x.toNat * 2 ^ n % 18446744073709551616 : Nat) : Int) := by simp
  rw [e1, e2, (bits_nat .u64 64 (by decide) wraps_u64 _ _ h2 h1).2, rotl, ofNat64 (or_lt64 h2 h1)]

def laneCells (l : List UInt64) : List Value := l.map fun x => .int .u64 (x.toNat : Int)
/-! ### the permutation -/
theorem getD_get {α : Type} (l : List α) (i : Nat) (d : α) (h : i < l.length) : l.getD i d = l[i] := by simp [List.getD, List.getElem?_eq_getElem h]
def kC : List UInt64 := [
  0x0000000000000001, 0x0000000000008082, 0x800000000000808a, 0x8000000080008000,
  0x000000000000808b, 0x0000000080000001, 0x8000000080008081, 0x8000000000008009,
  0x000000000000008a, 0x0000000000000088, 0x0000000080008009, 0x000000008000000a,
  0x000000008000808b, 0x800000000000008b, 0x8000000000008089, 0x8000000000008003,
  0x8000000000008002, 0x8000000000000080, 0x000000000000800a, 0x800000008000000a,
  0x8000000080008081, 0x8000000000008080, 0x0000000080000001, 0x8000000080008008]
def lane (l : List UInt64) (i : Nat) : UInt64 := l.getD i 0
def colX (l : List UInt64) (x : Nat) : UInt64 := lane l x ^^^ lane l (x + 5) ^^^ lane l (x + 10) ^^^ lane l (x + 15) ^^^ lane l (x + 20)
def mixOf (l : List UInt64) (d0 d1 d2 d3 d4 : UInt64) : List UInt64 := [
  lane l 0 ^^^ d0, rotl (lane l 6 ^^^ d1) 44, rotl (lane l 12 ^^^ d2) 43, rotl (lane l 18 ^^^ d3) 21, rotl (lane l 24 ^^^ d4) 14,
  rotl (lane l 3 ^^^ d3) 28, rotl (lane l 9 ^^^ d4) 20, rotl (lane l 10 ^^^ d0) 3, rotl (lane l 16 ^^^ d1) 45, rotl (lane l 22 ^^^ d2) 61,
  rotl (lane l 1 ^^^ d1) 1, rotl (lane l 7 ^^^ d2) 6, rotl (lane l 13 ^^^ d3) 25, rotl (lane l 19 ^^^ d4) 8, rotl (lane l 20 ^^^ d0) 18,
  rotl (lane l 4 ^^^ d4) 27, rotl (lane l 5 ^^^ d0) 36, rotl (lane l 11 ^^^ d1) 10, rotl (lane l 17 ^^^ d2) 15, rotl (lane l 23 ^^^ d3) 56,
  rotl (lane l 2 ^^^ d2) 62, rotl (lane l 8 ^^^ d3) 55, rotl (lane l 14 ^^^ d4) 39, rotl (lane l 15 ^^^ d0) 41, rotl (lane l 21 ^^^ d1) 2]
def mixL (l : List UInt64) : List UInt64 :=
  mixOf l (colX l 4 ^^^ rotl (colX l 1) 1) (colX l 0 ^^^ rotl (colX l 2) 1) (colX l 1 ^^^ rotl (colX l 3) 1) (colX l 2 ^^^ rotl (colX l 4) 1) (colX l 3 ^^^ rotl (colX l 0) 1)
theorem mixL_length (l : List UInt64) : (mixL l).length = 25 := rfl
/-- what chi makes of five lanes -/
def andn (a b : UInt64) : UInt64 := a &&& ~~~b
theorem u64_andn (a b : UInt64) : bits .andNot .u64 (a.toNat : Int) (b.toNat : Int) = ((andn a b).toNat : Int) := by
  have hx := (andn a b).toNat_lt
  show IntKind.u64.wrap (((BitVec.ofInt 64 (a.toNat : Int) &&& ~~~BitVec.ofInt 64 (b.toNat : Int)).toNat : Nat) : Int) = _
  rw [bv_lane, bv_lane, show (a.toBitVec &&& ~~~b.toBitVec).toNat = (andn a b).toNat from rfl, wraps_u64 _ (by omega) (by omega)]
def chi5 (b0 b1 b2 b3 b4 : UInt64) : List UInt64 := [b0 ^^^ andn b2 b1, b1 ^^^ andn b3 b2, b2 ^^^ andn b4 b3, b3 ^^^ andn b0 b4, b4 ^^^ andn b1 b0]
def rowX (b : List UInt64) (y : Nat) : List UInt64 := chi5 (lane b y) (lane b (y + 1)) (lane b (y + 2)) (lane b (y + 3)) (lane b (y + 4))
def chiL (b : List UInt64) : List UInt64 := rowX b 0 ++ rowX b 5 ++ rowX b 10 ++ rowX b 15 ++ rowX b 20
theorem rowX_length (b : List UInt64) (y : Nat) : (rowX b y).length = 5 := rfl
theorem chiL_length (b : List UInt64) : (chiL b).length = 25 := rfl
def iotaL (l : List UInt64) (c : UInt64) : List UInt64 := l.set 0 (lane l 0 ^^^ c)
def permK (s : List UInt64) : Nat → List UInt64
  | 0 => s
  | n + 1 => iotaL (chiL (mixL (permK s n))) (lane kC n)
def permL (s : List UInt64) : List UInt64 := permK s 24
theorem permK_length (s : List UInt64) (h : s.length = 25) (n : Nat) : (permK s n).length = 25 := by
  cases n with
  | zero => exact h
  | succ n => simp [permK, iotaL, chiL_length]
theorem permL_length (s : List UInt64) (h : s.length = 25) : (permL s).length = 25 := permK_length s h 24

/-! ### the sponge -/
/-- the lanes and the place of the next byte -/
structure Sp where
  l : List UInt64
  at_ : Nat
def Sp.next (s : Sp) (rate : Nat) : Sp := if s.at_ = rate then ⟨permL s.l, 1⟩ else ⟨s.l, s.at_ + 1⟩
/-- the byte at place p of the block is combined with b -/
def maskL (l : List UInt64) (p : Nat) (b : UInt8) : List UInt64 := l.set (p / 8) (lane l (p / 8) ^^^ UInt64.ofNat (b.toNat * 2 ^ (8 * (p % 8))))
def byteL (l : List UInt64) (p : Nat) : UInt8 := UInt8.ofNat ((lane l (p / 8)).toNat / 2 ^ (8 * (p % 8)))
def Sp.put (s : Sp) (rate : Nat) (b : UInt8) : Sp := ⟨maskL (s.next rate).l ((s.next rate).at_ - 1) b, (s.next rate).at_⟩
def Sp.puts (s : Sp) (rate : Nat) : List UInt8 → Sp
  | [] => s
  | b :: r => (s.put rate b).puts rate r
/-- n bytes more of the output, and the sponge behind them -/
def Sp.outs (s : Sp) (rate : Nat) : Nat → List UInt8
  | 0 => []
  | n + 1 => byteL (s.next rate).l ((s.next rate).at_ - 1) :: (s.next rate).outs rate n
def Sp.behind (s : Sp) (rate : Nat) : Nat → Sp
  | 0 => s
  | n + 1 => (s.next rate).behind rate n
def zeroL : List UInt64 := List.replicate 25 0
def absorbL (rate : Nat) (suffix : UInt8) (m : List UInt8) : Sp := ⟨maskL ((Sp.mk zeroL 0).puts rate (m ++ [suffix])).l (rate - 1) 128, rate⟩
/-- n bytes of the output of m -/
def spongeL (rate : Nat) (suffix : UInt8) (m : List UInt8) (n : Nat) : List UInt8 := (absorbL rate suffix m).outs rate n

theorem sha3_empty : (spongeL 136 6 [] 32).take 4 = [0xa7, 0xff, 0xc6, 0xf8] := by decide +kernel
theorem shake_empty : spongeL 168 31 [] 4 = [0x7f, 0x9c, 0x2b, 0xa4] := by decide +kernel
end Go.Proofs.YtjondbamnbgiaaaDoor
