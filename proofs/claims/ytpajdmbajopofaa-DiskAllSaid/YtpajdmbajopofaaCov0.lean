/-
 MATHEMATICS of seal's stream; facts that go from one world to a later one.
-/
import Derived.Test.YtpajdmbajopofaaKeys1
import Derived.Test.YtpajdmbajopofaaFew4
import Derived.Test.YtpajdmbajopofaaME
import Derived.Test.YtpajdmbajopofaaHand2
import Derived.Test.YtpajdmbajopofaaMF
namespace Go.Proofs.Ytpajdmbajopofaa
open Go.RowKit
set_option maxRecDepth 100000

theorem share {T G : Prop} (h1 : Shh T → G) (h2 : T) : G := h1 ⟨h2⟩
/-! facts that go on -/
section
variable {w w' : World} {g : Nat} {T : TypeId} {cs : List Value} {v : Value} {bs : List UInt8}
theorem Sl.go (h : Sl w w.heap.size v bs) (b : Below w.heap.size w w') : Sl w' w'.heap.size v bs := (h.below b).more b.size
theorem Row.go (h : Row w g T cs) (b : Below w.heap.size w w') : Row w' g T cs := h.below b h.lt
/-- a slice of bytes that lies in a block of its own, from base on -/
def Own (w : World) (base : Nat) (v : Value) (bs : List UInt8) : Prop := w.ownsRow base 5 1 v bs.length (Lib.byteCells bs)
theorem Own.go {base : Nat} (h : Own w base v bs) (b : Below w.heap.size w w') : Own w' base v bs := own_step h b
theorem Own.lt {base : Nat} (h : Own w base v bs) (k : Nat) (hk : v.ownBlock = some k) : base ≤ k ∧ k < w.heap.size := World.ownsRow.lt h k hk
theorem Row.sl {n : Nat} (hr : Row w g T (Lib.byteCells bs)) (hn : bs.length = n) (hm : n ≤ 1000000) : Sl w w.heap.size (.slice (some ⟨g, 0, none⟩) n n) bs := Sl.of_bytes hr hr.lt hn hm
end

/-! the stream -/
def blkB (enc nonce : List UInt8) (i : Nat) : List UInt8 := macB enc (nonce ++ bigB i 4)
def strN (enc nonce : List UInt8) : Nat → List UInt8
 | 0 => []
 | j + 1 => strN enc nonce j ++ blkB enc nonce j
theorem blkB_length (enc nonce : List UInt8) (i : Nat) : (blkB enc nonce i).length = 32 := macB_length _ _
theorem strN_length (enc nonce : List UInt8) (j : Nat) : (strN enc nonce j).length = 32 * j := by
 induction j with
 | zero => rfl
 | succ j ih => rw [strN, List.length_append, ih, blkB_length]; omega
theorem strN_take (enc nonce : List UInt8) (j k : Nat) (h : j ≤ k) : (strN enc nonce k).take (32 * j) = strN enc nonce j := by
 induction k with
 | zero =>
  obtain rfl : j = 0 := by omega
  rfl
 | succ k ih =>
  by_cases e : j = k + 1
  ·subst e
   rw [List.take_of_length_le (by rw [strN_length]; omega)]
  ·rw [strN, List.take_append_of_le_length (by rw [strN_length]; omega), ih (by omega)]
def blocksN (n : Nat) : Nat := (n + 31) / 32
/-- the first n bytes of the stream -/
def strB (enc nonce : List UInt8) (n : Nat) : List UInt8 := (strN enc nonce (blocksN n)).take n
theorem strB_length (enc nonce : List UInt8) (n : Nat) : (strB enc nonce n).length = n := by
 unfold strB blocksN
 rw [List.length_take, strN_length]
 omega
/-- a text covered by the stream -/
def covB (enc nonce text : List UInt8) : List UInt8 := List.zipWith (· ^^^ ·) text (strB enc nonce text.length)
theorem covB_length (enc nonce text : List UInt8) : (covB enc nonce text).length = text.length := by
 unfold covB
 rw [List.length_zipWith, strB_length, Nat.min_self]
def covN (enc nonce text : List UInt8) (k : Nat) : List UInt8 := List.zipWith (· ^^^ ·) (text.take (32 * k)) (strN enc nonce k)
theorem covN_length (enc nonce text : List UInt8) (k : Nat) : (covN enc nonce text k).length = min (32 * k) text.length := by
 unfold covN
 rw [List.length_zipWith, List.length_take, strN_length]
 omega
theorem zipWith_take_right (us bs : List UInt8) : List.zipWith (· ^^^ ·) us (bs.take us.length) = List.zipWith (· ^^^ ·) us bs := by
 induction us generalizing bs with
 | nil => simp
 | cons a r ih =>
  cases bs with
  | nil => simp
  | cons b s => simp [ih]
theorem covN_all (enc nonce text : List UInt8) (k : Nat) (h : text.length ≤ 32 * k) (hk : k = blocksN text.length) : covN enc nonce text k = covB enc nonce text := by
 unfold covN covB strB
 rw [List.take_of_length_le h, ← hk, zipWith_take_right]
theorem covN_succ (enc nonce text : List UInt8) (k : Nat) (h : 32 * k ≤ text.length) :
  covN enc nonce text (k + 1) = covN enc nonce text k ++ List.zipWith (· ^^^ ·) ((text.drop (32 * k)).take 32) (blkB enc nonce k) := by
 unfold covN
 rw [strN, show 32 * (k + 1) = 32 * k + 32 by omega, List.take_add, List.zipWith_append]
 rw [List.length_take, strN_length]
 omega
theorem xor_zeros (n : Nat) (bs : List UInt8) (h : bs.length = n) : List.zipWith (· ^^^ ·) (List.replicate n (0 : UInt8)) bs = bs := by
 induction bs generalizing n with
 | nil => subst h; rfl
 | cons b s ih =>
  subst h
  rw [List.length_cons, List.replicate_succ, List.zipWith_cons_cons, ih _ rfl]
  simp
theorem covB_zeros (enc nonce : List UInt8) (n : Nat) : covB enc nonce (List.replicate n 0) = strB enc nonce n := by
 unfold covB
 rw [List.length_replicate, xor_zeros _ _ (strB_length _ _ _)]
theorem covB_back (enc nonce text : List UInt8) : covB enc nonce (covB enc nonce text) = text := by
 have key : ∀ us bs : List UInt8, us.length = bs.length → List.zipWith (· ^^^ ·) (List.zipWith (· ^^^ ·) us bs) bs = us := by
  intro us
  induction us with
  | nil => simp
  | cons a r ih =>
   intro bs h
   cases bs with
   | nil => simp at h
   | cons b s =>
    rw [List.zipWith_cons_cons, List.zipWith_cons_cons, ih s (by simpa using h)]
    congr 1
    rw [UInt8.xor_assoc, UInt8.xor_self, UInt8.xor_zero]
 have e : covB enc nonce (covB enc nonce text) = List.zipWith (· ^^^ ·) (covB enc nonce text) (strB enc nonce text.length) := by
  show List.zipWith (· ^^^ ·) (covB enc nonce text) (strB enc nonce (covB enc nonce text).length) = _
  rw [covB_length]
 rw [e]
 unfold covB
 exact key _ _ (strB_length _ _ _).symm
/-! what is sealed -/
def encK (key : List UInt8) : List UInt8 := expB key encI 32
def macK (key : List UInt8) : List UInt8 := expB key macI 32
end Go.Proofs.Ytpajdmbajopofaa
