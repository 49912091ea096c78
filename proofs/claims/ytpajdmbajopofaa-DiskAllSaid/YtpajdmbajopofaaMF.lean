/-
 FOUNDATIONS, merged: see the heads of the parts.
-/
import Derived.Test.YtpajdmbajopofaaMC
import Derived.Test.YtpajdmbajopofaaME
import Derived.RegionTactic
import Derived.Deep.RegionLaw
/-
 WALKS: octet.Same, octet.Choose, octet.Xor.
-/
namespace Go.Proofs.Ytpajdmbajopofaa
open Go.RowKit
set_option maxRecDepth 100000

theorem or_xor_zero (d a b : UInt8) : d ||| (a ^^^ b) = 0 ↔ d = 0 ∧ a = b := by
 rw [UInt8.or_eq_zero_iff, UInt8.xor_eq_zero_iff]
theorem and255 (a : UInt8) : bits .and .u8 (a.toNat : Int) 255 = a.toNat := by
 have h := u8_and a 255
 have e : a &&& 255 = a := by
  apply UInt8.toNat_inj.1
  rw [UInt8.toNat_and]
  show a.toNat &&& (2 ^ 8 - 1) = a.toNat
  rw [Nat.and_two_pow_sub_one_eq_mod]
  exact Nat.mod_eq_of_lt a.toNat_lt
 rw [e] at h
 exact h
theorem and0 (a : UInt8) : bits .and .u8 (a.toNat : Int) 0 = 0 := by
 have := u8_and a 0
 simpa using this
theorem andNot255 (a : UInt8) : bits .andNot .u8 (a.toNat : Int) 255 = 0 := by
 have h := u8_andNot a 255
 have e : a &&& ~~~255 = 0 := by
  have e2 : (~~~255 : UInt8) = 0 := by decide
  rw [e2]; simp
 rw [e] at h
 exact h
theorem andNot0 (a : UInt8) : bits .andNot .u8 (a.toNat : Int) 0 = a.toNat := by
 have h := u8_andNot a 0
 have e : a &&& ~~~0 = a := by
  have e2 : (~~~0 : UInt8) = 255 := by decide
  rw [e2]
  apply UInt8.toNat_inj.1
  rw [UInt8.toNat_and]
  show a.toNat &&& (2 ^ 8 - 1) = a.toNat
  rw [Nat.and_two_pow_sub_one_eq_mod]
  exact Nat.mod_eq_of_lt a.toNat_lt
 rw [e] at h
 exact h
theorem or0 (a : UInt8) : bits .or .u8 (a.toNat : Int) 0 = a.toNat := by
 have := u8_or a 0
 simpa using this
theorem zor (a : UInt8) : bits .or .u8 0 (a.toNat : Int) = a.toNat := by
 have := u8_or 0 a
 simpa using this

/-! Choose and Xor: the error, or the bytes -/
def PutIs (w : World) (er : Int) (bs : List UInt8) (e : Ending) (w' : World) : Prop := ∃ v, e = .returned (.tuple #[v, .int .i64 er]) ∧ Gives w bs v w'
def pairE (us bs : List UInt8) : Int := if us.length = bs.length then 0 else 1
def chosen (first : Bool) (us bs : List UInt8) : List UInt8 := if us.length = bs.length then (if first then us else bs) else []
def xored (us bs : List UInt8) : List UInt8 := if us.length = bs.length then List.zipWith (· ^^^ ·) us bs else []

theorem gives_blk {w w' : World} {bs : List UInt8} {k : Nat} (hk : bs.length = k) (hm : k ≤ 1099511627776) (h : Blk w' w.heap.size bs) (hb : Below w.heap.size w w') : Gives w bs (.slice (some ⟨w.heap.size, 0, none⟩) k k) w' := by
 subst hk
 exact ⟨h.own (Nat.le_refl _) (by unfold maxLen; omega), hb⟩

end Go.Proofs.Ytpajdmbajopofaa

/-
 WALKS: octet.Bits and the document's own Bits: the bits of each byte, the lowest first.
-/
namespace Go.Proofs.Ytpajdmbajopofaa
open Go.RowKit
set_option maxRecDepth 100000

theorem info_bool : (Try.prog.info? 4).map (fun i => (i.zero, i.size, i.bytes)) = some (some (.bool false), 1, 1) := by kernel_rfl
def boolCells (l : List Bool) : List Value := l.map Value.bool
theorem boolCells_append (a b : List Bool) : boolCells (a ++ b) = boolCells a ++ boolCells b := by simp [boolCells]
theorem boolCells_length (a : List Bool) : (boolCells a).length = a.length := by simp [boolCells]

/-- bit i of a byte -/
def bitAt (b : UInt8) (i : Nat) : Bool := decide (b.toNat / 2 ^ i % 2 = 1)
def bits8 (b : UInt8) : List Bool := (List.range 8).map (bitAt b)
def bitsL (bs : List UInt8) : List Bool := bs.flatMap bits8
theorem bits8_length (b : UInt8) : (bits8 b).length = 8 := by simp [bits8]
theorem bitsL_snoc (bs : List UInt8) (b : UInt8) : bitsL (bs ++ [b]) = bitsL bs ++ bits8 b := by simp [bitsL]
theorem bitsL_length (bs : List UInt8) : (bitsL bs).length = 8 * bs.length := by
 induction bs with
 | nil => rfl
 | cons b r ih =>
  simp only [bitsL, List.flatMap_cons, List.length_append, List.length_cons] at ih ⊢
  rw [bits8_length, ih]; omega
theorem bits8_take (b : UInt8) (i : Nat) (h : i < 8) : (bits8 b).take (i + 1) = (bits8 b).take i ++ [bitAt b i] := by
 rw [take_snoc _ _ (by rw [bits8_length]; exact h)]
 simp [bits8]

theorem shr_bit (b : UInt8) (i : Nat) : (bits .and .u8 ((b.toNat : Int) / 2 ^ i) 1 == 1) = bitAt b i := by
 have hb := b.toNat_lt
 have e : ((b.toNat : Int) / 2 ^ i) = ((b.toNat / 2 ^ i : Nat) : Int) := by simp
 have hq : b.toNat / 2 ^ i ≤ b.toNat := Nat.div_le_self _ _
 rw [e]
 unfold bitAt
 generalize b.toNat / 2 ^ i = q at hq ⊢
 have h1 : bits .and .u8 (q : Int) 1 = (q : Int) % 2 := bits_mask .u8 8 (by decide) wraps_u8 1 (by decide) _ (by omega) (by omega)
 rw [h1]
 by_cases h : q % 2 = 1
 ·rw [decide_eq_true h, beq_iff_eq]; omega
 ·rw [decide_eq_false h, beq_eq_false_iff_ne]; omega
theorem rem_bit (b : UInt8) (i : Nat) : (((b.toNat / 2 ^ i : Nat) : Int) % 2 == 1) = bitAt b i := by
 unfold bitAt
 by_cases h : b.toNat / 2 ^ i % 2 = 1
 ·rw [decide_eq_true h, beq_iff_eq]; omega
 ·rw [decide_eq_false h, beq_eq_false_iff_ne]; omega
theorem half_step (n i : Nat) : (((n / 2 ^ i : Nat) : Int) / 2) = ((n / 2 ^ (i + 1) : Nat) : Int) := by
 rw [Nat.pow_succ, ← Nat.div_div_eq_div_mul]; omega

theorem made_false (n : Nat) : madeCells #[.bool false] n = (boolCells (List.replicate n false)).toArray := by
 apply Array.ext
 ·simp [madeCells, boolCells]
 ·intro i h1 h2
  simp [madeCells, boolCells, Nat.mod_one]
theorem make0b_run (n : Nat) (hn : n ≤ 281474976710656) (u : World) : (Instr.makeSlice 34 (.int .i64 0) (.int .i64 (n : Int))).run Try.prog u =
  .ok (.slice (some ⟨u.heap.size, 0, none⟩) 0 n) (u.alloc (.cells (boolCells (List.replicate n false)).toArray 4)) := by
 obtain ⟨i0, hi, hz0, hz1, hz2⟩ := info_parts info_bool
 have h := run_make (P := Try.prog) u 34 4 i0 (.bool false) Try.underlying34 hi hz0 .i64 .i64 (0 : Int) (n : Int) (by omega) (by omega) (by rw [hz2]; omega) (by omega)
 have e : (n : Int).toNat = n := by omega
 rw [e] at h
 rw [← made_false]
 simpa [hz1, Value.cells] using h

/-- A slice of bools is handed back, in memory of its own. -/
def OwnB (w : World) (l : List Bool) (e : Ending) (w' : World) : Prop := ∃ v, e = .returned v ∧ w'.ownsRow w.heap.size 4 1 v l.length (boolCells l) ∧ Below w.heap.size w w'

end Go.Proofs.Ytpajdmbajopofaa

/-
 WALKS: octet.FromBits and the document's own FromBits.
-/
namespace Go.Proofs.Ytpajdmbajopofaa
open Go.RowKit
set_option maxRecDepth 100000

/-- The slice value v reads as the bools l; what it reads lies below block B. -/
def Slb (w : World) (B : Nat) (v : Value) (l : List Bool) : Prop :=
 ∃ A c, v = .slice A l.length c ∧ l.length ≤ c ∧ c ≤ maxLen ∧ (0 < l.length → ∃ b off, A = some ⟨b, off, none⟩ ∧ b < B ∧ ∀ k (h : k < l.length), w.cell? ⟨b, off + k, none⟩ = some (.bool l[k]))
section
variable {w w' : World} {B B' : Nat} {v : Value} {A : Option Addr} {n c : Nat} {l : List Bool}
theorem Slb.form (h : Slb w B v l) : ∃ A c, v = .slice A l.length c ∧ l.length ≤ c ∧ c ≤ maxLen := by
 obtain ⟨A, c, h1, h2, h3, _⟩ := h
 exact ⟨A, c, h1, h2, h3⟩
theorem Slb.at_ (h : Slb w B (.slice A n c) l) (hn : 0 < l.length) : ∃ b off, A = some ⟨b, off, none⟩ ∧ b < B ∧ ∀ k (h : k < l.length), w.cell? ⟨b, off + k, none⟩ = some (.bool l[k]) := by
 obtain ⟨A', c', hv, _, _, hc⟩ := h
 cases hv
 exact hc hn
theorem Slb.keep (h : Slb w B v l) (hk : ∀ p : Addr, p.block < B → w'.cell? p = w.cell? p) : Slb w' B v l := by
 obtain ⟨A', c', hv, h1, h2, hc⟩ := h
 refine ⟨A', c', hv, h1, h2, fun hn => ?_⟩
 obtain ⟨b, off, hA, hb, hr⟩ := hc hn
 exact ⟨b, off, hA, hb, fun k hk' => (hk _ hb).trans (hr k hk')⟩
theorem Slb.more (h : Slb w B v l) (hB : B ≤ B') : Slb w B' v l := by
 obtain ⟨A', c', hv, h1, h2, hc⟩ := h
 refine ⟨A', c', hv, h1, h2, fun hn => ?_⟩
 obtain ⟨b, off, hA, hb, hr⟩ := hc hn
 exact ⟨b, off, hA, by omega, hr⟩
theorem Slb.below (h : Slb w B v l) (hb : Below B w w') : Slb w' B v l := h.keep fun _ hp => hb.cell hp
theorem Slb.step (h : Slb w w.heap.size v l) (hb : Below w.heap.size w w') : Slb w' w'.heap.size v l := (h.below hb).more hb.size
theorem Slb.of_own {base e : Nat} (h : w.ownsRow base e 1 v l.length (boolCells l)) : Slb w w.heap.size v l := by
 rcases h.2 with ⟨rfl, hn⟩ | ⟨g, cap, cur, rfl, hb, hg, hnc, hcm, hsz, hcur⟩
 ·exact ⟨none, 0, by rw [hn], by omega, by unfold maxLen; omega, fun h => absurd h (by omega)⟩
 ·refine ⟨some ⟨g, 0, none⟩, cap, rfl, hnc, hcm, fun hn => ⟨g, 0, rfl, (Array.getElem?_eq_some_iff.1 hg).1, fun k hk => ?_⟩⟩
  have := h.cellAt k (by omega)
  rw [Nat.zero_add, this]
  simp [boolCells, List.getElem?_eq_getElem hk]
end

/-! ### the value of bits -/
def valB : List Bool → Nat
 | [] => 0
 | b :: r => b.toNat + 2 * valB r
theorem valB_snoc (l : List Bool) (b : Bool) : valB (l ++ [b]) = valB l + 2 ^ l.length * b.toNat := by
 induction l with
 | nil => simp [valB]
 | cons x r ih =>
  simp only [List.cons_append, valB, ih, List.length_cons, Nat.pow_succ]
  rw [Nat.mul_add, ← Nat.mul_assoc, Nat.mul_comm 2 (2 ^ r.length)]
  omega
theorem valB_lt (l : List Bool) : valB l < 2 ^ l.length := by
 induction l with
 | nil => simp [valB]
 | cons x r ih =>
  have : x.toNat ≤ 1 := by cases x <;> simp
  simp only [valB, List.length_cons, Nat.pow_succ]
  omega
theorem pow2_le8 {k : Nat} (h : k ≤ 8) : 2 ^ k ≤ 256 := by
 calc 2 ^ k ≤ 2 ^ 8 := Nat.pow_le_pow_right (by decide) h
  _ = 256 := by decide
def chunk (l : List Bool) (j : Nat) : List Bool := (l.drop (8 * j)).take 8
def fromN (l : List Bool) (n : Nat) : List UInt8 := (List.range n).map fun j => UInt8.ofNat (valB (chunk l j))
def fromBits (l : List Bool) : List UInt8 := fromN l ((l.length + 7) / 8)
theorem fromN_length (l : List Bool) (n : Nat) : (fromN l n).length = n := by simp [fromN]
theorem fromN_get (l : List Bool) (n j : Nat) (h : j < (fromN l n).length) : (fromN l n)[j] = UInt8.ofNat (valB (chunk l j)) := by simp [fromN]
theorem fromBits_length (l : List Bool) : (fromBits l).length = (l.length + 7) / 8 := fromN_length _ _

theorem chunk_below (l : List Bool) (k j : Nat) (hk : k < l.length) (hj : j ≠ k / 8) : chunk (l.take (k + 1)) j = chunk (l.take k) j := by
 unfold chunk
 rw [take_snoc l k hk]
 by_cases h : 8 * j + 8 ≤ k
 ·rw [List.drop_append_of_le_length (by rw [List.length_take]; omega), List.take_append_of_le_length (by rw [List.length_drop, List.length_take]; omega)]
 ·rw [List.drop_eq_nil_of_le (by simp; omega), List.drop_eq_nil_of_le (by simp; omega)]
theorem chunk_at (l : List Bool) (k : Nat) (hk : k < l.length) : chunk (l.take (k + 1)) (k / 8) = chunk (l.take k) (k / 8) ++ [l[k]] ∧ (chunk (l.take k) (k / 8)).length = k % 8 := by
 unfold chunk
 have h1 : (List.drop (8 * (k / 8)) (l.take k)).length = k % 8 := by rw [List.length_drop, List.length_take]; omega
 rw [take_snoc l k hk, List.drop_append_of_le_length (by rw [List.length_take]; omega)]
 have h2 : List.take 8 (List.drop (8 * (k / 8)) (l.take k)) = List.drop (8 * (k / 8)) (l.take k) := List.take_of_length_le (by omega)
 rw [h2]
 refine ⟨List.take_of_length_le (by rw [List.length_append, h1]; simp; omega), h1⟩
theorem fromN_false (l : List Bool) (n k : Nat) (hk : k < l.length) (hb : l[k] = false) : fromN (l.take (k + 1)) n = fromN (l.take k) n := by
 unfold fromN
 apply List.map_congr_left
 intro j _
 by_cases hj : j = k / 8
 ·subst hj
  rw [(chunk_at l k hk).1, valB_snoc, hb]
  simp
 ·rw [chunk_below l k j hk hj]
theorem fromN_true (l : List Bool) (n k : Nat) (hk : k < l.length) (hb : l[k] = true) :
  (fromN (l.take k) n).set (k / 8) (UInt8.ofNat (valB (chunk (l.take k) (k / 8)) + 2 ^ (k % 8))) = fromN (l.take (k + 1)) n := by
 apply List.ext_getElem (by simp [fromN])
 intro j h1 h2
 rw [fromN_get]
 by_cases hj : k / 8 = j
 ·subst hj
  rw [List.getElem_set_self, (chunk_at l k hk).1, valB_snoc, hb, (chunk_at l k hk).2]
  simp
 ·rw [List.getElem_set_ne hj, fromN_get, chunk_below l k j hk (Ne.symm hj)]
theorem fromN_nil (n : Nat) : fromN [] n = List.replicate n 0 := by
 apply List.ext_getElem (by simp [fromN])
 intro j h1 h2
 rw [fromN_get]
 simp [chunk, valB]
theorem fromBits_snoc (l : List Bool) (j : Nat) (h : j < (l.length + 7) / 8) : (fromBits l).take (j + 1) = (fromBits l).take j ++ [UInt8.ofNat (valB (chunk l j))] := by
 rw [take_snoc _ _ (by rw [fromBits_length]; exact h)]
 congr 2
 exact fromN_get _ _ _ _
theorem or_bit (a m : Nat) (hm : m < 8) (ha : a < 2 ^ m) : bits .or .u8 (((UInt8.ofNat a).toNat : Nat) : Int) (2 ^ m % 256) = (((UInt8.ofNat (a + 2 ^ m)).toNat : Nat) : Int) := by
 have hp := pow2_le8 (show m + 1 ≤ 8 by omega)
 rw [Nat.pow_succ] at hp
 have h1 : (UInt8.ofNat a).toNat = a := by simp; omega
 have h2 : (UInt8.ofNat (a + 2 ^ m)).toNat = a + 2 ^ m := by simp; omega
 have e : ((2 : Int) ^ m) % 256 = ((2 ^ m : Nat) : Int) := by
  have e1 : ((2 : Int) ^ m) = ((2 ^ m : Nat) : Int) := by simp
  rw [e1]
  generalize 2 ^ m = t at *
  omega
 rw [h1, h2, e, (bits_nat .u8 8 (by decide) wraps_u8 _ _ (by omega) (by omega)).2, Nat.or_comm]
 have := Nat.two_pow_add_eq_or_of_lt ha 1
 rw [Nat.mul_one] at this
 rw [← this]
 congr 1
 omega

def pw (k : Nat) : Nat := 2 ^ k
theorem drop_take (l : List Bool) (i k : Nat) (h : i ≤ k) (hk : k < l.length) : (l.drop i).take (k + 1 - i) = (l.drop i).take (k - i) ++ [l[k]] := by
 have e : k + 1 - i = (k - i) + 1 := by omega
 rw [e, take_snoc _ _ (by rw [List.length_drop]; omega)]
 congr 2
 rw [List.getElem_drop]
 congr 1
 omega

end Go.Proofs.Ytpajdmbajopofaa

/-
 THE WALK of the document's own Xor; the bytes of the bits of bytes.
-/
namespace Go.Proofs.Ytpajdmbajopofaa
open Go.RowKit
set_option maxRecDepth 100000

theorem bitAt_test (b : UInt8) (i : Nat) : bitAt b i = b.toNat.testBit i := by
 unfold bitAt
 rw [Nat.testBit_eq_decide_div_mod_eq]
theorem bits8_xor (a b : UInt8) : List.zipWith (fun p q => p != q) (bits8 a) (bits8 b) = bits8 (a ^^^ b) := by
 unfold bits8
 apply List.ext_getElem (by simp)
 intro i h1 h2
 simp only [List.getElem_zipWith, List.getElem_map, List.getElem_range, bitAt_test, UInt8.toNat_xor, Nat.testBit_xor]
theorem bitsL_xor (us bs : List UInt8) (h : us.length = bs.length) : List.zipWith (fun p q => p != q) (bitsL us) (bitsL bs) = bitsL (List.zipWith (· ^^^ ·) us bs) := by
 induction us generalizing bs with
 | nil => simp [bitsL]
 | cons a r ih =>
  cases bs with
  | nil => simp at h
  | cons b s =>
   have e1 : bitsL (a :: r) = bits8 a ++ bitsL r := by simp [bitsL]
   have e2 : bitsL (b :: s) = bits8 b ++ bitsL s := by simp [bitsL]
   have e3 : bitsL ((a ^^^ b) :: List.zipWith (· ^^^ ·) r s) = bits8 (a ^^^ b) ++ bitsL (List.zipWith (· ^^^ ·) r s) := by simp [bitsL]
   rw [e1, e2, List.zipWith_cons_cons, e3, List.zipWith_append (by rw [bits8_length, bits8_length]), bits8_xor, ih s (by simpa using h)]
theorem valB_bits8 (b : UInt8) : UInt8.ofNat (valB (bits8 b)) = b := by
 have key : ∀ n : Fin 256, UInt8.ofNat (valB (bits8 (UInt8.ofNat n.val))) = UInt8.ofNat n.val := by decide +kernel
 have e : UInt8.ofNat b.toNat = b := by simp
 have := key ⟨b.toNat, b.toNat_lt⟩
 simp only [e] at this
 exact this
theorem chunk_bitsL (bs : List UInt8) (j : Nat) (h : j < bs.length) : chunk (bitsL bs) j = bits8 bs[j] := by
 induction bs generalizing j with
 | nil => simp at h
 | cons b r ih =>
  have e1 : bitsL (b :: r) = bits8 b ++ bitsL r := by simp [bitsL]
  rw [e1]
  cases j with
  | zero =>
   unfold chunk
   rw [Nat.mul_zero, List.drop_zero, List.take_append_of_le_length (by rw [bits8_length]; omega), List.take_of_length_le (by rw [bits8_length]; omega)]
   rfl
  | succ j =>
   have := ih j (by simpa using h)
   unfold chunk at this ⊢
   rw [show 8 * (j + 1) = (bits8 b).length + 8 * j by rw [bits8_length]; omega, ← List.drop_drop, List.drop_left, this]
   rfl
theorem fromBits_bitsL (bs : List UInt8) : fromBits (bitsL bs) = bs := by
 apply List.ext_getElem (by rw [fromBits_length, bitsL_length]; omega)
 intro j h1 h2
 have h := fromN_get (bitsL bs) (((bitsL bs).length + 7) / 8) j h1
 rw [chunk_bitsL bs j h2, valB_bits8] at h
 exact h

theorem own_base {w : World} {base base' : Nat} {e : TypeId} {v : Value} {n : Nat} {xs : List Value} (h : w.ownsRow base e 1 v n xs) (hb : base' ≤ base) : w.ownsRow base' e 1 v n xs := by
 refine ⟨h.1, ?_⟩
 rcases h.2 with hn | ⟨g, cap, cur, hv, hg, rest⟩
 ·exact .inl hn
 ·exact .inr ⟨g, cap, cur, hv, by omega, rest⟩

end Go.Proofs.Ytpajdmbajopofaa
