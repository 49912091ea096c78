/-
 FOUNDATIONS, merged: see the heads of the parts.
-/
import Derived.Test.YtpajdmbajopofaaMA
import Derived.Deep.MidRow
import Derived.Deep.WholeRow
import Derived.BigRegion
import Derived.BigQuiet
import Derived.Deep.RegionHeld3
import Derived.Deep.QuietTactic
/-
 PLAIN MATHEMATICS: SHA-256, HMAC and HKDF as functions on lists of bytes. Nothing of the program is named here.
-/
namespace Go.Proofs.Ytpajdmbajopofaa
open Go.RowKit
set_option maxRecDepth 100000

/-! ### words -/
def rotr (x : UInt32) (n : Nat) : UInt32 := UInt32.ofNat ((x.toNat / 2 ^ n) ||| (x.toNat * 2 ^ (32 - n) % 4294967296))
def shrw (x : UInt32) (n : Nat) : UInt32 := UInt32.ofNat (x.toNat / 2 ^ n)
def sm0 (x : UInt32) : UInt32 := rotr x 7 ^^^ rotr x 18 ^^^ shrw x 3
def sm1 (x : UInt32) : UInt32 := rotr x 17 ^^^ rotr x 19 ^^^ shrw x 10
def bg0 (x : UInt32) : UInt32 := rotr x 2 ^^^ rotr x 13 ^^^ rotr x 22
def bg1 (x : UInt32) : UInt32 := rotr x 6 ^^^ rotr x 11 ^^^ rotr x 25
def chw (x y z : UInt32) : UInt32 := x &&& y ||| ~~~x &&& z
def mjw (x y z : UInt32) : UInt32 := x &&& y ||| x &&& z ||| y &&& z

theorem wraps_u32 (m : Int) (h0 : 0 ≤ m) (h1 : m < 4294967296) : IntKind.u32.wrap m = m := by rw [IntKind.wrap_u32]; omega
theorem u32_or (a b : UInt32) : bits .or .u32 a.toNat b.toNat = ((a ||| b).toNat : Int) := by
 rw [(bits_nat .u32 32 (by decide) wraps_u32 _ _ a.toNat_lt b.toNat_lt).2]; simp
theorem u32_and (a b : UInt32) : bits .and .u32 a.toNat b.toNat = ((a &&& b).toNat : Int) := by
 rw [(bits_nat .u32 32 (by decide) wraps_u32 _ _ a.toNat_lt b.toNat_lt).1]; simp
theorem bv_word (a : UInt32) : BitVec.ofInt 32 (a.toNat : Int) = a.toBitVec := by
 apply BitVec.eq_of_toNat_eq
 have := a.toNat_lt
 simp
theorem u32_xor (a b : UInt32) : bits .xor .u32 a.toNat b.toNat = ((a ^^^ b).toNat : Int) := by
 have hx := (a ^^^ b).toNat_lt
 show IntKind.u32.wrap (((BitVec.ofInt 32 (a.toNat : Int) ^^^ BitVec.ofInt 32 (b.toNat : Int)).toNat : Nat) : Int) = _
 rw [bv_word, bv_word, show (a.toBitVec ^^^ b.toBitVec).toNat = (a ^^^ b).toNat from rfl, wraps_u32 _ (by omega) (by omega)]
theorem max_u32 : IntKind.u32.max = ((4294967295 : UInt32).toNat : Int) := by decide
theorem ones_xor (a : UInt32) : (4294967295 : UInt32) ^^^ a = ~~~a := by
 apply UInt32.toBitVec_inj.1
 have h : (4294967295 : UInt32).toBitVec = BitVec.allOnes 32 := by decide
 rw [UInt32.toBitVec_xor, UInt32.toBitVec_not, h, BitVec.allOnes_xor]
theorem u32_not (a : UInt32) : bits .xor .u32 IntKind.u32.max a.toNat = ((~~~a).toNat : Int) := by
 rw [max_u32, u32_xor, ones_xor]
theorem u32_add (a b : UInt32) : ((a.toNat : Int) + (b.toNat : Int)) % 4294967296 = ((a + b).toNat : Int) := by
 rw [UInt32.toNat_add]
 omega
theorem or_lt32 {a b : Nat} (ha : a < 4294967296) (hb : b < 4294967296) : a ||| b < 4294967296 := Nat.or_lt_two_pow (n := 32) ha hb
theorem div_lt32 (x : UInt32) (n : Nat) : x.toNat / 2 ^ n < 4294967296 := Nat.lt_of_le_of_lt (Nat.div_le_self _ _) x.toNat_lt
theorem ofNat32 {n : Nat} (h : n < 4294967296) : (UInt32.ofNat n).toNat = n := by simp; omega
theorem div_cast (x : UInt32) (n : Nat) : (x.toNat : Int) / 2 ^ n = ((x.toNat / 2 ^ n : Nat) : Int) := by simp
theorem shl_cast (x : UInt32) (n : Nat) : ((x.toNat : Int) * 2 ^ n) % 4294967296 = ((x.toNat * 2 ^ n % 4294967296 : Nat) : Int) := by
 simp
theorem u32_shr (x : UInt32) (n : Nat) : (x.toNat : Int) / 2 ^ n = ((shrw x n).toNat : Int) := by
 rw [div_cast, shrw, ofNat32 (div_lt32 x n)]
/-- x>>n | x<<(32-n) -/
theorem u32_rotr (x : UInt32) (n : Nat) : bits .or .u32 ((x.toNat : Int) / 2 ^ n) (((x.toNat : Int) * 2 ^ (32 - n)) % 4294967296) = ((rotr x n).toNat : Int) := by
 have h1 := div_lt32 x n
 have h2 : x.toNat * 2 ^ (32 - n) % 4294967296 < 4294967296 := Nat.mod_lt _ (by decide)
 rw [div_cast, shl_cast, (bits_nat .u32 32 (by decide) wraps_u32 _ _ h1 h2).2, rotr, ofNat32 (or_lt32 h1 h2)]
/-- x<<(32-n) | x>>n -/
theorem u32_rotl (x : UInt32) (n : Nat) : bits .or .u32 (((x.toNat : Int) * 2 ^ (32 - n)) % 4294967296) ((x.toNat : Int) / 2 ^ n) = ((rotr x n).toNat : Int) := by
 have h1 := div_lt32 x n
 have h2 : x.toNat * 2 ^ (32 - n) % 4294967296 < 4294967296 := Nat.mod_lt _ (by decide)
 rw [div_cast, shl_cast, (bits_nat .u32 32 (by decide) wraps_u32 _ _ h2 h1).2, rotr, Nat.or_comm, ofNat32 (or_lt32 h1 h2)]

/-! ### one block -/
def cK : List UInt32 := [
 0x428a2f98, 0x71374491, 0xb5c0fbcf, 0xe9b5dba5, 0x3956c25b, 0x59f111f1, 0x923f82a4, 0xab1c5ed5,
 0xd807aa98, 0x12835b01, 0x243185be, 0x550c7dc3, 0x72be5d74, 0x80deb1fe, 0x9bdc06a7, 0xc19bf174,
 0xe49b69c1, 0xefbe4786, 0x0fc19dc6, 0x240ca1cc, 0x2de92c6f, 0x4a7484aa, 0x5cb0a9dc, 0x76f988da,
 0x983e5152, 0xa831c66d, 0xb00327c8, 0xbf597fc7, 0xc6e00bf3, 0xd5a79147, 0x06ca6351, 0x14292967,
 0x27b70a85, 0x2e1b2138, 0x4d2c6dfc, 0x53380d13, 0x650a7354, 0x766a0abb, 0x81c2c92e, 0x92722c85,
 0xa2bfe8a1, 0xa81a664b, 0xc24b8b70, 0xc76c51a3, 0xd192e819, 0xd6990624, 0xf40e3585, 0x106aa070,
 0x19a4c116, 0x1e376c08, 0x2748774c, 0x34b0bcb5, 0x391c0cb3, 0x4ed8aa4a, 0x5b9cca4f, 0x682e6ff3,
 0x748f82ee, 0x78a5636f, 0x84c87814, 0x8cc70208, 0x90befffa, 0xa4506ceb, 0xbef9a3f7, 0xc67178f2]
theorem cK_length : cK.length = 64 := rfl

structure St where
 a : UInt32
 b : UInt32
 c : UInt32
 d : UInt32
 e : UInt32
 f : UInt32
 g : UInt32
 h : UInt32
def St.list (s : St) : List UInt32 := [s.a, s.b, s.c, s.d, s.e, s.f, s.g, s.h]
def St.of (l : List UInt32) : St := ⟨l.getD 0 0, l.getD 1 0, l.getD 2 0, l.getD 3 0, l.getD 4 0, l.getD 5 0, l.getD 6 0, l.getD 7 0⟩
theorem St.list_length (s : St) : s.list.length = 8 := rfl
theorem St.of_list (s : St) : St.of s.list = s := rfl
theorem St.list_of (l : List UInt32) (h : l.length = 8) : (St.of l).list = l := by
 match l, h with
 | [_, _, _, _, _, _, _, _], _ => rfl

/-- the word t of a block, most significant byte first -/
def wordN (b : List UInt8) (t : Nat) : Nat := bigN [b.getD (4 * t) 0, b.getD (4 * t + 1) 0, b.getD (4 * t + 2) 0, b.getD (4 * t + 3) 0]
def wordB (b : List UInt8) (t : Nat) : UInt32 := UInt32.ofNat (wordN b t)
theorem wordN_lt (b : List UInt8) (t : Nat) : wordN b t < 4294967296 := by
 unfold wordN
 generalize b.getD (4 * t) 0 = x0
 generalize b.getD (4 * t + 1) 0 = x1
 generalize b.getD (4 * t + 2) 0 = x2
 generalize b.getD (4 * t + 3) 0 = x3
 have := bigN_lt [x0, x1, x2, x3]
 have e : 256 ^ [x0, x1, x2, x3].length = 4294967296 := by simp only [List.length_cons, List.length_nil]
 omega
theorem wordB_nat (b : List UInt8) (t : Nat) : (wordB b t).toNat = wordN b t := ofNat32 (wordN_lt b t)
theorem word_or (a b c d : UInt8) : bits .or .u32 (bits .or .u32 (bits .or .u32 ((a.toNat : Int) % 4294967296 * 16777216 % 4294967296) ((b.toNat : Int) % 4294967296 * 65536 % 4294967296)) ((c.toNat : Int) % 4294967296 * 256 % 4294967296)) ((d.toNat : Int) % 4294967296) = ((bigN [a, b, c, d] : Nat) : Int) := by
 have ha := a.toNat_lt
 have hb := b.toNat_lt
 have hc := c.toNat_lt
 have hd := d.toNat_lt
 have hk : ∀ m : Int, 0 ≤ m → m < 2 ^ 32 → IntKind.u32.wrap m = m := fun m h0 h1 => wraps_u32 m h0 (by omega)
 have h1 := bits_join .u32 32 (by decide) hk 24 ((a.toNat : Int) % 4294967296 * 16777216 % 4294967296) ((b.toNat : Int) % 4294967296 * 65536 % 4294967296) (by omega) (by omega) (by omega) (by omega) (by omega) (by omega)
 rw [h1]
 rw [bits_join .u32 32 (by decide) hk 16 _ ((c.toNat : Int) % 4294967296 * 256 % 4294967296) (by omega) (by omega) (by omega) (by omega) (by omega) (by omega)]
 rw [bits_join .u32 32 (by decide) hk 8 _ ((d.toNat : Int) % 4294967296) (by omega) (by omega) (by omega) (by omega) (by omega) (by omega)]
 simp only [bigN, List.foldl_cons, List.foldl_nil]
 omega
theorem getD_get {α : Type} (l : List α) (i : Nat) (d : α) (h : i < l.length) : l.getD i d = l[i] := by simp [List.getD, List.getElem?_eq_getElem h]
theorem wordB_of (b : List UInt8) (k : Nat) (h : 4 * k + 3 < b.length) : ((wordB b k).toNat : Int) = ((bigN [b[4 * k], b[4 * k + 1], b[4 * k + 2], b[4 * k + 3]] : Nat) : Int) := by
 rw [wordB_nat, wordN, getD_get b (4 * k) 0 (by omega), getD_get b (4 * k + 1) 0 (by omega), getD_get b (4 * k + 2) 0 (by omega), getD_get b (4 * k + 3) 0 h]
/-- the next word of the schedule, l the words so far -/
def nextW (b : List UInt8) (l : List UInt32) : UInt32 :=
 if l.length < 16 then wordB b l.length else sm1 (l.getD (l.length - 2) 0) + l.getD (l.length - 7) 0 + sm0 (l.getD (l.length - 15) 0) + l.getD (l.length - 16) 0
def sched (b : List UInt8) : Nat → List UInt32
 | 0 => []
 | n + 1 => sched b n ++ [nextW b (sched b n)]
theorem sched_length (b : List UInt8) (n : Nat) : (sched b n).length = n := by
 induction n with
 | zero => rfl
 | succ n ih => simp [sched, ih]
theorem sched_set (b : List UInt8) (k n : Nat) (x : UInt32) (hk : k < n) (hx : x = nextW b (sched b k)) : (sched b k ++ List.replicate (n - k) 0).set k x = sched b (k + 1) ++ List.replicate (n - (k + 1)) 0 := by
 subst hx
 rw [List.set_append_right _ _ (by rw [sched_length]; exact Nat.le_refl _), sched_length, Nat.sub_self, show n - k = (n - (k + 1)) + 1 by omega, List.replicate_succ, List.set_cons_zero, sched, List.append_assoc]
 rfl
theorem nextW_lo (b : List UInt8) (k : Nat) (h : k < 16) : nextW b (sched b k) = wordB b k := by
 rw [nextW, sched_length, if_pos h]
theorem nextW_hi (b : List UInt8) (k : Nat) (h : 16 ≤ k) : nextW b (sched b k) = sm1 ((sched b k).getD (k - 2) 0) + (sched b k).getD (k - 7) 0 + sm0 ((sched b k).getD (k - 15) 0) + (sched b k).getD (k - 16) 0 := by
 rw [nextW, sched_length, if_neg (by omega)]
def rnd (v : St) (k w : UInt32) : St :=
 ⟨v.h + bg1 v.e + chw v.e v.f v.g + k + w + (bg0 v.a + mjw v.a v.b v.c), v.a, v.b, v.c, v.d + (v.h + bg1 v.e + chw v.e v.f v.g + k + w), v.e, v.f, v.g⟩
def rounds (s : St) (w : List UInt32) : Nat → St
 | 0 => s
 | n + 1 => rnd (rounds s w n) (cK.getD n 0) (w.getD n 0)
def addSt (s v : St) : St := ⟨s.a + v.a, s.b + v.b, s.c + v.c, s.d + v.d, s.e + v.e, s.f + v.f, s.g + v.g, s.h + v.h⟩
def comp (s : St) (b : List UInt8) : St := addSt s (rounds s (sched b 64) 64)

/-! ### bytes -/
def start : St := ⟨0x6a09e667, 0xbb67ae85, 0x3c6ef372, 0xa54ff53a, 0x510e527f, 0x9b05688c, 0x1f83d9ab, 0x5be0cd19⟩
def blockAt (m : List UInt8) (n : Nat) : List UInt8 := (m.drop (64 * n)).take 64
def states (m : List UInt8) : Nat → St
 | 0 => start
 | n + 1 => comp (states m n) (blockAt m n)
def outB (s : St) : List UInt8 := s.list.flatMap fun x => bigB x.toNat 4
def zerosOf (n : Nat) : Nat := 63 - (n + 8) % 64
def padB (m : List UInt8) : List UInt8 := m ++ (128 :: List.replicate (zerosOf m.length) 0) ++ bigB (8 * m.length) 8
def sha (m : List UInt8) : List UInt8 := outB (states (padB m) ((padB m).length / 64))
theorem bigB_len4 (n : Nat) : (bigB n 4).length = 4 := bigB_length n 4
theorem outB_length (s : St) : (outB s).length = 32 := by
 simp [outB, St.list, bigB_length]
theorem sha_length (m : List UInt8) : (sha m).length = 32 := outB_length _

theorem blockAt_append (m p : List UInt8) (n : Nat) (h : 64 * n + 64 ≤ m.length) : blockAt (m ++ p) n = blockAt m n := by
 unfold blockAt
 rw [List.drop_append_of_le_length (by omega), List.take_append_of_le_length (by simp; omega)]
theorem states_append (m p : List UInt8) (n : Nat) (h : 64 * n ≤ m.length) : states (m ++ p) n = states m n := by
 induction n with
 | zero => rfl
 | succ n ih => rw [states, states, ih (by omega), blockAt_append m p n (by omega)]
theorem padB_length (m : List UInt8) : (padB m).length % 64 = 0 := by
 simp only [padB, List.length_append, List.length_cons, List.length_replicate, bigB_length, zerosOf]
 omega

/-! ### HMAC, HKDF -/
def keyB (k : List UInt8) : List UInt8 := let l := if 64 < k.length then sha k else k; l ++ List.replicate (64 - l.length) 0
def xorB (k : List UInt8) (c : UInt8) : List UInt8 := k.map (· ^^^ c)
def macB (k m : List UInt8) : List UInt8 := sha (xorB (keyB k) 0x5c ++ sha (xorB (keyB k) 0x36 ++ m))
/-- T(i) -/
def tB (prk info : List UInt8) : Nat → List UInt8
 | 0 => []
 | i + 1 => macB prk (tB prk info i ++ info ++ [UInt8.ofNat (i + 1)])
def okmB (prk info : List UInt8) : Nat → List UInt8
 | 0 => []
 | i + 1 => okmB prk info i ++ tB prk info (i + 1)
theorem macB_length (k m : List UInt8) : (macB k m).length = 32 := sha_length _
theorem tB_length (prk info : List UInt8) (i : Nat) : (tB prk info (i + 1)).length = 32 := macB_length _ _
theorem okmB_length (prk info : List UInt8) (i : Nat) : (okmB prk info i).length = 32 * i := by
 induction i with
 | zero => rfl
 | succ i ih => rw [okmB, List.length_append, ih, tB_length]; omega
def expB (prk info : List UInt8) (n : Nat) : List UInt8 := (okmB prk info ((n + 31) / 32)).take n
theorem okmB_take (prk info : List UInt8) (i j : Nat) (h : i ≤ j) : (okmB prk info j).take (32 * i) = okmB prk info i := by
 induction j with
 | zero =>
  obtain rfl : i = 0 := by omega
  rfl
 | succ j ih =>
  by_cases hij : i = j + 1
  ·subst hij
   rw [List.take_of_length_le (by rw [okmB_length]; omega)]
  ·rw [okmB, List.take_append_of_le_length (by rw [okmB_length]; omega), ih (by omega)]
theorem keyB_length (k : List UInt8) : (keyB k).length = 64 := by
 unfold keyB
 by_cases h : 64 < k.length
 ·simp [if_pos h, sha_length]
 ·simp [if_neg h]; omega

/-- the chapter's example -/
def abcSum : List UInt8 := [0xba, 0x78, 0x16, 0xbf, 0x8f, 0x01, 0xcf, 0xea, 0x41, 0x41, 0x40, 0xde, 0x5d, 0xae, 0x22, 0x23, 0xb0, 0x03, 0x61, 0xa3, 0x96, 0x17, 0x7a, 0x9c, 0xb4, 0x10, 0xff, 0x61, 0xf2, 0x00, 0x15, 0xad]
theorem sha_abc : sha [97, 98, 99] = abcSum := by decide +kernel
end Go.Proofs.Ytpajdmbajopofaa

/-
 WALKS: the small functions on words: bits.RotateLeft32, sha2.right, small0, small1, sum0, sum1, choice, majority; the document's own rot.
-/
namespace Go.Proofs.Ytpajdmbajopofaa
open Go.RowKit
set_option maxRecDepth 100000

/-- a word is handed back, nothing else has turned -/
def WordIs (w : World) (x : UInt32) (e : Ending) (w' : World) : Prop := e = .returned ((.int .u32 (x.toNat : Int))) ∧ w' = w

theorem and31 : ∀ n : Fin 32, 1 ≤ n.val → bits .and .u64 (IntKind.u64.wrap (-(n.val : Int))) 31 = 32 - (n.val : Int) := by decide +kernel
theorem neg31 (n : Nat) (h1 : 1 ≤ n) (h2 : n ≤ 31) : bits .and .u64 (IntKind.u64.wrap (-(n : Int))) 31 = ((32 - n : Nat) : Int) := by
 have := and31 ⟨n, by omega⟩ h1
 simp only at this
 rw [this]
 omega

end Go.Proofs.Ytpajdmbajopofaa

/-
 ROWS OF MEMORY: a block that holds just a list of cells; words as cells; a whole array read and written; what turns but one block.
-/
namespace Go.Proofs.Ytpajdmbajopofaa
open Go.RowKit
set_option maxRecDepth 100000

def wordCells (l : List UInt32) : List Value := l.map fun x => .int .u32 (x.toNat : Int)
theorem wordCells_length (l : List UInt32) : (wordCells l).length = l.length := by simp [wordCells]
theorem wordCells_get (l : List UInt32) (k : Nat) (h : k < l.length) : (wordCells l)[k]? = some (.int .u32 (l[k].toNat : Int)) := by
 simp [wordCells, List.getElem?_eq_getElem h]
theorem wordCells_set (l : List UInt32) (k : Nat) (x : UInt32) : (wordCells l).set k (.int .u32 (x.toNat : Int)) = wordCells (l.set k x) := by
 simp [wordCells, List.map_set]
theorem cell_oneWord (l : List UInt32) : ∀ u ∈ wordCells l, u.oneCell' = true := by
 intro u hu
 simp only [wordCells, List.mem_map] at hu
 obtain ⟨b, _, rfl⟩ := hu
 rfl

theorem zero64w : (#[.int .u32 0, .int .u32 0, .int .u32 0, .int .u32 0, .int .u32 0, .int .u32 0, .int .u32 0, .int .u32 0, .int .u32 0, .int .u32 0, .int .u32 0, .int .u32 0, .int .u32 0, .int .u32 0, .int .u32 0, .int .u32 0, .int .u32 0, .int .u32 0, .int .u32 0, .int .u32 0, .int .u32 0, .int .u32 0, .int .u32 0, .int .u32 0, .int .u32 0, .int .u32 0, .int .u32 0, .int .u32 0, .int .u32 0, .int .u32 0, .int .u32 0, .int .u32 0, .int .u32 0, .int .u32 0, .int .u32 0, .int .u32 0, .int .u32 0, .int .u32 0, .int .u32 0, .int .u32 0, .int .u32 0, .int .u32 0, .int .u32 0, .int .u32 0, .int .u32 0, .int .u32 0, .int .u32 0, .int .u32 0, .int .u32 0, .int .u32 0, .int .u32 0, .int .u32 0, .int .u32 0, .int .u32 0, .int .u32 0, .int .u32 0, .int .u32 0, .int .u32 0, .int .u32 0, .int .u32 0, .int .u32 0, .int .u32 0, .int .u32 0, .int .u32 0] : Array Value) = (wordCells (List.replicate 64 0)).toArray := by rfl
theorem zero64b : (#[.int .u8 0, .int .u8 0, .int .u8 0, .int .u8 0, .int .u8 0, .int .u8 0, .int .u8 0, .int .u8 0, .int .u8 0, .int .u8 0, .int .u8 0, .int .u8 0, .int .u8 0, .int .u8 0, .int .u8 0, .int .u8 0, .int .u8 0, .int .u8 0, .int .u8 0, .int .u8 0, .int .u8 0, .int .u8 0, .int .u8 0, .int .u8 0, .int .u8 0, .int .u8 0, .int .u8 0, .int .u8 0, .int .u8 0, .int .u8 0, .int .u8 0, .int .u8 0, .int .u8 0, .int .u8 0, .int .u8 0, .int .u8 0, .int .u8 0, .int .u8 0, .int .u8 0, .int .u8 0, .int .u8 0, .int .u8 0, .int .u8 0, .int .u8 0, .int .u8 0, .int .u8 0, .int .u8 0, .int .u8 0, .int .u8 0, .int .u8 0, .int .u8 0, .int .u8 0, .int .u8 0, .int .u8 0, .int .u8 0, .int .u8 0, .int .u8 0, .int .u8 0, .int .u8 0, .int .u8 0, .int .u8 0, .int .u8 0, .int .u8 0, .int .u8 0] : Array Value) = (Lib.byteCells (List.replicate 64 0)).toArray := by rfl
theorem zero32b : (#[.int .u8 0, .int .u8 0, .int .u8 0, .int .u8 0, .int .u8 0, .int .u8 0, .int .u8 0, .int .u8 0, .int .u8 0, .int .u8 0, .int .u8 0, .int .u8 0, .int .u8 0, .int .u8 0, .int .u8 0, .int .u8 0, .int .u8 0, .int .u8 0, .int .u8 0, .int .u8 0, .int .u8 0, .int .u8 0, .int .u8 0, .int .u8 0, .int .u8 0, .int .u8 0, .int .u8 0, .int .u8 0, .int .u8 0, .int .u8 0, .int .u8 0, .int .u8 0] : Array Value) = (Lib.byteCells (List.replicate 32 0)).toArray := by rfl
theorem zero24b : (#[.int .u8 0, .int .u8 0, .int .u8 0, .int .u8 0, .int .u8 0, .int .u8 0, .int .u8 0, .int .u8 0, .int .u8 0, .int .u8 0, .int .u8 0, .int .u8 0, .int .u8 0, .int .u8 0, .int .u8 0, .int .u8 0, .int .u8 0, .int .u8 0, .int .u8 0, .int .u8 0, .int .u8 0, .int .u8 0, .int .u8 0, .int .u8 0] : Array Value) = (Lib.byteCells (List.replicate 24 0)).toArray := by rfl
theorem zero8w : (#[.int .u32 0, .int .u32 0, .int .u32 0, .int .u32 0, .int .u32 0, .int .u32 0, .int .u32 0, .int .u32 0] : Array Value) = (wordCells (List.replicate 8 0)).toArray := by rfl
/-- block g holds just the cells cs -/
def Row (w : World) (g : Nat) (T : TypeId) (cs : List Value) : Prop := w.heap[g]? = some (.cells cs.toArray T (0, 0))
section
variable {w w' : World} {g B : Nat} {T : TypeId} {cs : List Value}
theorem Row.lt (h : Row w g T cs) : g < w.heap.size := (Array.getElem?_eq_some_iff.1 h).1
theorem Row.cell (h : Row w g T cs) (k : Nat) : w.cell? ⟨g, k, none⟩ = cs[k]? := by
 rw [cell_of_row w g k cs.toArray T (0, 0) h]; simp
theorem Row.free (h : Row w g T cs) (k : Nat) : w.frozen? ⟨g, k, none⟩ = false := frozen_of_row w g k cs.toArray T h
theorem Row.drew (h : Row w g T cs) : Row w.drew g T cs := h
theorem Row.set_ (h : Row w g T cs) (k : Nat) (v : Value) : Row (w.setCell ⟨g, k, none⟩ v) g T (cs.set k v) := by
 unfold Row
 rw [heap_setCell_same w g k cs.toArray T v h]
 simp
theorem Row.below (h : Row w g T cs) (hb : Below B w w') (hg : g < B) : Row w' g T cs := (hb.block g hg).trans h
theorem Row.other (h : Row w g T cs) (a : Addr) (v : Value) (hne : g ≠ a.block) : Row (w.setCell a v) g T cs := (heap_setCell_other w a g v hne).trans h
theorem Row.beside (h : Row w g T cs) {j k : Nat} {v : Value} (hne : g ≠ j) : Row (w.setCell ⟨j, k, none⟩ v).drew g T cs := h.other ⟨j, k, none⟩ v hne
theorem below_set2 {a : World} (h : Below B a w) {j k : Nat} {v : Value} (hj : B ≤ j) : Below B a (w.setCell ⟨j, k, none⟩ v).drew := (h.setCell (p := ⟨j, k, none⟩) hj v).drew
theorem size_set2 {j k : Nat} {v : Value} : (w.setCell ⟨j, k, none⟩ v).drew.heap.size = w.heap.size := by
 show (w.setCell _ v).heap.size = _
 simp [World.setCell]
theorem Row.setRow (h : Row w g T cs) (ds : List Value) : Row (w.setRow g ds.toArray) g T ds := setRow_heap w g _ _ T (0, 0) h
theorem Row.setRow_other {k : Nat} {ds : Array Value} (h : Row w g T cs) (hne : g ≠ k) : Row (w.setRow k ds) g T cs := (Go.setRow_other w k g ds hne).trans h
theorem below_setRow {a : World} {k : Nat} {ds : Array Value} (h : Below B a w) (hk : B ≤ k) : Below B a (w.setRow k ds) :=
 ⟨h.os, h.tape, h.output, Nat.le_trans h.size (by simp), fun i hi => (Go.setRow_other w k i ds (by omega)).trans (h.block i hi)⟩
/-- the result that lies in a variable of its own -/
theorem ret_row {P : Program} {f : Func} {a : Act} {p : Tmp} {ty : TypeId} {d : TypeDesc} {post : Ending → World → Prop} (hf : f.results = #[.cell p ty]) (hdf : a.defers = []) (hp : a.tmps.getD p undef = .pointer (some ⟨g, 0, none⟩)) (hr : Row w g T cs)
  (hu : P.underlying ty = some d) (hd : (match d with | .struct _ | .array _ _ => true | _ => false) = true) (hi : (P.info? ty).map (·.size) = some cs.length) (h : post (.returned (.agg cs.toArray)) w) : bodyPost P f post .ret a w :=
 bodyPost_ret (v := .agg cs.toArray) (results_cell_row hf _ _ g T _ (0, 0) d hp hr hu hd (by simpa using hi)) hdf h
theorem Row.new (w : World) (T : TypeId) (cs : List Value) : Row (w.alloc (.cells cs.toArray T)) w.heap.size T cs := heap_alloc_new w _
theorem asz (w : World) (o : Obj) : (w.alloc o).heap.size = w.heap.size + 1 := by
 show (w.heap.push o).size = _
 simp
theorem Row.new_ {arr : Array Value} (hg : g = w.heap.size) (ha : arr = cs.toArray) : Row (w.alloc (.cells arr T)) g T cs := by
 subst hg; subst ha; exact Row.new w T cs
theorem Row.alloc (h : Row w g T cs) (o : Obj) : Row (w.alloc o) g T cs := (Below.heap_alloc w o g h.lt).trans h
theorem Row.range (h : Row w g T cs) : w.rangeAt g 0 cs := fun j v hv => by
 rw [Nat.zero_add, h.cell j]; exact hv
theorem Row.mid (h : Row w g T cs) (o n : Nat) : w.rangeAt g o ((cs.drop o).take n) := fun j v hv => by
 rw [h.cell (o + j)]
 have hj : j < n := by
  by_cases hj : j < n
  ·exact hj
  ·rw [List.getElem?_eq_none (by simp; omega)] at hv; cases hv
 rw [List.getElem?_take_of_lt hj, List.getElem?_drop] at hv
 exact hv
theorem Row.there (h : Row w g T cs) (o n : Nat) (hn : o + n ≤ cs.length) : w.there g o n := fun j hj => by
 refine ⟨?_, h.free _⟩
 rw [h.cell (o + j), List.getElem?_eq_getElem (by omega)]
 rfl
/-- cells laid over a row from place o on -/
def over (cs : List Value) : Nat → List Value → List Value
 | _, [] => cs
 | o, v :: r => over (cs.set o v) (o + 1) r
theorem Row.setCells (vs : List Value) : ∀ {w : World} {cs : List Value} (o : Nat), Row w g T cs → Row (w.setCells g o vs) g T (over cs o vs) := by
 induction vs with
 | nil => intro w cs o h; exact h
 | cons v r ih => intro w cs o h; exact ih (o + 1) (h.set_ o v)
theorem over_eq (vs : List Value) : ∀ (cs : List Value) (o : Nat), o + vs.length ≤ cs.length → over cs o vs = cs.take o ++ vs ++ cs.drop (o + vs.length) := by
 induction vs with
 | nil => intro cs o h; simp [over]
 | cons v r ih =>
  intro cs o h
  simp only [List.length_cons] at h
  rw [over, ih _ _ (by simp; omega)]
  have h1 : (cs.set o v).take (o + 1) = cs.take o ++ [v] := by
   rw [List.take_succ_eq_append_getElem (by simp; omega), List.take_set_of_le (Nat.le_refl _)]
   simp
  have h2 : (cs.set o v).drop (o + 1 + r.length) = cs.drop (o + (v :: r).length) := by
   rw [List.drop_set_of_lt (by omega)]
   simp only [List.length_cons]
   rw [show o + 1 + r.length = o + (r.length + 1) by omega]
  rw [h1, h2]
  simp
end

theorem cell_set_other {w : World} {g j k : Nat} {v u : Value} (h : w.cell? ⟨g, j, none⟩ = some v) (hne : ¬ j = k) : ((w.setCell ⟨g, k, none⟩ u).drew).cell? ⟨g, j, none⟩ = some v :=
 (World.cell?_setCell_other w ⟨g, k, none⟩ ⟨g, j, none⟩ u (by intro e; cases e; exact hne rfl)).trans h

/-- everything below B but block g is as it was -/
structure But (B g : Nat) (w w' : World) : Prop where
 os : w'.os = w.os
 tape : w'.tape = w.tape
 output : w'.output = w.output
 size : w.heap.size ≤ w'.heap.size
 block : ∀ k, k < B → k ≠ g → w'.heap[k]? = w.heap[k]?
section
variable {w w' a b c : World} {g B B' : Nat} {T : TypeId} {cs : List Value}
theorem But.refl (B g : Nat) (w : World) : But B g w w := ⟨rfl, rfl, rfl, Nat.le_refl _, fun _ _ _ => rfl⟩
theorem But.trans (h : But B g a b) (k : But B g b c) : But B g a c :=
 ⟨k.os.trans h.os, k.tape.trans h.tape, k.output.trans h.output, Nat.le_trans h.size k.size, fun i hi hg => (k.block i hi hg).trans (h.block i hi hg)⟩
theorem But.of (h : Below B a b) (g : Nat) : But B g a b := ⟨h.os, h.tape, h.output, h.size, fun i hi _ => h.block i hi⟩
theorem But.mono (h : But B g a b) (hB : B' ≤ B) : But B' g a b := ⟨h.os, h.tape, h.output, h.size, fun i hi hg => h.block i (by omega) hg⟩
theorem But.under (h : But B g a b) (hB : B' ≤ B) (hg : B' ≤ g) : Below B' a b := ⟨h.os, h.tape, h.output, h.size, fun i hi => h.block i (by omega) (by omega)⟩
theorem But.chain {w₀ w₁ w₂ : World} (h : But w₀.heap.size g w₀ w₁) (k : But w₁.heap.size g w₁ w₂) : But w₀.heap.size g w₀ w₂ := h.trans (k.mono h.size)
theorem But.cell (h : But B g a b) {p : Addr} (hp : p.block < B) (hg : p.block ≠ g) : b.cell? p = a.cell? p := World.cell?_of_block (w := a) (h.block p.block hp hg)
theorem But.row (h : But B g a b) (hr : Row a B' T cs) (hp : B' < B) (hg : B' ≠ g) : Row b B' T cs := (h.block B' hp hg).trans hr
theorem But.setCell (h : But B g a b) (o : Nat) (v : Value) : But B g a (b.setCell ⟨g, o, none⟩ v) :=
 ⟨h.os, h.tape, h.output, Nat.le_trans h.size (by simp [World.setCell]), fun i hi hg => (heap_setCell_other b ⟨g, o, none⟩ i v hg).trans (h.block i hi hg)⟩
theorem But.drew (h : But B g a b) : But B g a b.drew := ⟨h.os, h.tape, h.output, h.size, h.block⟩
theorem But.setCells (vs : List Value) : ∀ {b : World} (o : Nat), But B g a b → But B g a (b.setCells g o vs) := by
 induction vs with
 | nil => intro b o h; exact h
 | cons v r ih => intro b o h; exact ih (o + 1) (h.setCell o v)

/-- a slice that does not lie in block g -/
def Off (g : Nat) (v : Value) : Prop := ∀ (x : Addr) l c, v = .slice (some x) l c → 0 < l → x.block ≠ g
theorem Sl.but {v : Value} {bs : List UInt8} (h : Sl w B v bs) (ho : Off g v) (hb : But B g w w') : Sl w' B v bs := by
 obtain ⟨A, c, hv, h1, h2, hc⟩ := h
 refine ⟨A, c, hv, h1, h2, fun hn => ?_⟩
 obtain ⟨b, off, hA, hbb, hr⟩ := hc hn
 have hne : b ≠ g := ho ⟨b, off, none⟩ bs.length c (hv.trans (by rw [hA])) hn
 exact ⟨b, off, hA, hbb, fun k hk => (hb.cell (p := ⟨b, off + k, none⟩) hbb hne).trans (hr k hk)⟩
theorem Sl.off {v : Value} {bs : List UInt8} (h : Sl w B v bs) (hB : B ≤ g) : Off g v := by
 obtain ⟨A, c, hv, h1, h2, hc⟩ := h
 intro x l c' hx hl
 rw [hv] at hx
 cases hx
 obtain ⟨b, off, hA, hbb, hr⟩ := hc hl
 cases hA
 show b ≠ g
 omega
theorem Off.nil_ : Off g (.slice none 0 0) := fun x l c h => by cases h
theorem Off.at_ {b o l c : Nat} (h : b ≠ g) : Off g (.slice (some ⟨b, o, none⟩) l c) := fun x l' c' hx _ => by cases hx; exact h
end
end Go.Proofs.Ytpajdmbajopofaa

/-
 WALK: sha2.schedule.
-/
namespace Go.Proofs.Ytpajdmbajopofaa
open Go.RowKit
set_option maxRecDepth 100000

theorem zeros64 : (#[.int .u32 0, .int .u32 0, .int .u32 0, .int .u32 0] : Array Value) = (wordCells (List.replicate 4 0)).toArray := by rfl

end Go.Proofs.Ytpajdmbajopofaa

/-
 THE TABLE OF CONSTANTS: what the row's list gives the walks; sums of two rows of words, cell by cell.
-/
namespace Go.Proofs.Ytpajdmbajopofaa
open Go.RowKit
set_option maxRecDepth 100000

section
variable {w w' : World} {g : Nat}
end

/-- the first k words of l have got those of m added -/
def addL (l m : List UInt32) (k : Nat) : List UInt32 := (List.zipWith (· + ·) l m).take k ++ l.drop k
theorem addL_zero (l m : List UInt32) : addL l m 0 = l := by simp [addL]
theorem addL_length (l m : List UInt32) (k : Nat) (h : l.length = m.length) (hk : k ≤ l.length) : (addL l m k).length = l.length := by
 simp [addL]; omega
theorem addL_get (l m : List UInt32) (k : Nat) (h : l.length = m.length) (hk : k < l.length) : (addL l m k)[k]? = some (l[k]) := by
 have h1 : ((List.zipWith (· + ·) l m).take k).length = k := by simp; omega
 rw [addL, List.getElem?_append_right (by omega), h1, Nat.sub_self, List.getElem?_drop, Nat.add_zero, List.getElem?_eq_getElem hk]
theorem addL_step (l m : List UInt32) (k : Nat) (h : l.length = m.length) (hk : k < l.length) : (addL l m k).set k (l[k] + m[k]'(by omega)) = addL l m (k + 1) := by
 have h1 : ((List.zipWith (· + ·) l m).take k).length = k := by simp; omega
 have h2 : l.drop k = l[k] :: l.drop (k + 1) := List.drop_eq_getElem_cons hk
 rw [addL, List.set_append_right _ _ (by omega), h1, Nat.sub_self, h2, List.set_cons_zero, addL, List.take_succ_eq_append_getElem (by simp; omega), List.append_assoc]
 simp
theorem addL_all (s v : St) : addL s.list v.list 8 = (addSt s v).list := rfl
theorem wordCells_arr_get (l : List UInt32) (k : Nat) (h : k < l.length) : (wordCells l).toArray[k]? = some (.int .u32 (l[k].toNat : Int)) := by
 simp [wordCells, List.getElem?_eq_getElem h]
/-- a whole array is stored into a row: the world behind it under a name of its own -/
theorem wpList_store_any {P : Program} {ops : Array Oper} {rest : List Oper} {o : Oper} {a : Act} {w : World} {Q : Exit → Act → World → Prop} (hgd : o.guard = none) (ty : TypeId) (x y : Operand) (ho : o.op = .store ty x y)
  (g : Nat) (hx : a.eval x = .pointer (some ⟨g, 0, none⟩)) (ds : List Value) (hy : a.eval y = .agg ds.toArray)
  (t : TypeId) (cs : List Value) (hr : Row w g t cs) (hi : (P.info? ty).map (·.size) = some ds.length)
  (hold : cs.length = ds.length) (h1 : ∀ u ∈ ds, u.oneCell' = true)
  (h : ∀ w2, Row w2 g t ds → But w.heap.size g w w2 → w2.heap.size = w.heap.size → wpList P ops Q rest (a.put o.dst undef) w2) : wpList P ops Q (o :: rest) a w :=
 wpList_store_row hgd ty x y ho g ds.toArray hx hy t cs.toArray hr (by simpa using hi) (by simpa using hold) (all_oneCell_toArray h1)
  (h _ (hr.setRow ds) ⟨rfl, rfl, rfl, Nat.le_of_eq (by simp), fun k _ hk => Go.setRow_other w g k _ hk⟩ (by simp))
theorem wpList_load_any {P : Program} {ops : Array Oper} {rest : List Oper} {o : Oper} {a : Act} {w : World} {Q : Exit → Act → World → Prop} (hgd : o.guard = none) (ty : TypeId) (x : Operand) (ho : o.op = .load ty x)
  (g : Nat) (hx : a.eval x = .pointer (some ⟨g, 0, none⟩)) (t : TypeId) (cs : List Value) (d : TypeDesc) (hr : Row w g t cs)
  (hu : P.underlying ty = some d) (hd : (match d with | .struct _ | .array _ _ => true | _ => false) = true) (hi : (P.info? ty).map (·.size) = some cs.length)
  (h : wpList P ops Q rest (a.put o.dst (.agg cs.toArray)) w) : wpList P ops Q (o :: rest) a w :=
 wpList_load_row hgd ty x ho g hx t cs.toArray (0, 0) d hr hu hd (by simpa using hi) h
theorem size_words (n : Nat) (l : List UInt32) (h : l.length = n) : some n = some (wordCells l).length := by rw [wordCells_length, h]
theorem size_bytes (n : Nat) (l : List UInt8) (h : l.length = n) : some n = some (Lib.byteCells l).length := by rw [Lib.byteCells_length, h]
/-- an array of words is handed back; nothing that was there has turned -/
def StIs (w : World) (s : St) (e : Ending) (w' : World) : Prop := e = .returned (.agg (wordCells s.list).toArray) ∧ Below w.heap.size w w'
end Go.Proofs.Ytpajdmbajopofaa

/-
 WALK: sha2.Compress.
-/
namespace Go.Proofs.Ytpajdmbajopofaa
open Go.RowKit
set_option maxRecDepth 100000

end Go.Proofs.Ytpajdmbajopofaa
