import Derived.WalkKit
import Derived.Test.YtbjpbeplpljieaaDoorProg
import Derived.WalkSpells
import Derived.WalkLawsBesides
import Derived.Lib.UnsafeStr
import Derived.Lib.Hide
import Derived.Laws.BytesArg
import Derived.Deep.Draws
import Derived.RegionTactic
import Derived.ChangeAlike
import Derived.Laws.AppendOwnNone
import Derived.BigQuiet
import Derived.Deep.QuietTactic
import Derived.Deep.MidRow
import Derived.Deep.WholeRow
import Derived.BigRegion
import Derived.Deep.RegionHeld3
import Derived.Laws.CopyOwn
import Derived.Deep.RegionLaw
import Derived.DeepKeys
import Derived.Lib.SmallJoins
import Derived.Test.YtbjpbeplpljieaaDoorRows
import Derived.ProofKit
import Derived.OpenShut
import Derived.JoinedCond
import Derived.SizedLaws
import Derived.Carry
import Derived.Deep.Grids
import Derived.StillTailTactics
/-
 FOUNDATIONS, merged: see the heads of the parts.
-/
/-
 PLAIN MATHEMATICS for the claims over package octet: integers as bytes, bits of bytes, the model's bit operations on one byte. Nothing of the program is named here.
-/
namespace Go.Proofs.YtbjpbeplpljieaaDoor
open Go.RowKit
set_option maxRecDepth 100000

/-! ### integers as bytes -/
def bigN (bs : List UInt8) : Nat := bs.foldl (fun n b => n * 256 + b.toNat) 0
def litN : List UInt8 → Nat
 | [] => 0
 | b :: r => b.toNat + 256 * litN r
def litB (n : Nat) : Nat → List UInt8
 | 0 => []
 | k + 1 => UInt8.ofNat (n % 256) :: litB (n / 256) k
def bigB (n k : Nat) : List UInt8 := (litB n k).reverse

theorem bigN_snoc (bs : List UInt8) (b : UInt8) : bigN (bs ++ [b]) = bigN bs * 256 + b.toNat := by simp [bigN]
theorem bigN_reverse (bs : List UInt8) : bigN bs.reverse = litN bs := by
 induction bs with
 | nil => rfl
 | cons b r ih => rw [List.reverse_cons, bigN_snoc, ih, litN]; omega
theorem bigN_eq (bs : List UInt8) : bigN bs = litN bs.reverse := by rw [← bigN_reverse, List.reverse_reverse]
theorem litN_snoc (bs : List UInt8) (b : UInt8) : litN (bs ++ [b]) = litN bs + 256 ^ bs.length * b.toNat := by
 induction bs with
 | nil => simp [litN]
 | cons x r ih =>
  simp only [List.cons_append, litN, ih, List.length_cons, Nat.pow_succ]
  rw [Nat.mul_add, ← Nat.mul_assoc, Nat.mul_comm 256 (256 ^ r.length)]
  omega
theorem litN_lt (bs : List UInt8) : litN bs < 256 ^ bs.length := by
 induction bs with
 | nil => simp [litN]
 | cons b r ih =>
  have := b.toNat_lt
  simp only [litN, List.length_cons, Nat.pow_succ]
  omega
theorem bigN_lt (bs : List UInt8) : bigN bs < 256 ^ bs.length := by
 have := litN_lt bs.reverse
 rw [bigN_eq]; simpa using this
theorem litB_length (n k : Nat) : (litB n k).length = k := by
 induction k generalizing n with
 | zero => rfl
 | succ k ih => simp [litB, ih]
theorem bigB_length (n k : Nat) : (bigB n k).length = k := by simp [bigB, litB_length]
theorem litN_litB (n k : Nat) : litN (litB n k) = n % 256 ^ k := by
 induction k generalizing n with
 | zero => simp [litB, litN, Nat.mod_one]
 | succ k ih =>
  simp only [litB, litN, ih]
  have h : (UInt8.ofNat (n % 256)).toNat = n % 256 := by simp
  rw [h, Nat.pow_succ, Nat.mul_comm (256 ^ k) 256, Nat.mod_mul]
theorem litB_litN (bs : List UInt8) : litB (litN bs) bs.length = bs := by
 induction bs with
 | nil => rfl
 | cons b r ih =>
  have hb := b.toNat_lt
  simp only [litN, List.length_cons, litB]
  have h1 : (b.toNat + 256 * litN r) % 256 = b.toNat := by omega
  have h2 : (b.toNat + 256 * litN r) / 256 = litN r := by omega
  rw [h1, h2, ih]
  simp
theorem litB_getElem (n k j : Nat) (h : j < (litB n k).length) : (litB n k)[j] = UInt8.ofNat (n / 256 ^ j % 256) := by
 induction k generalizing n j with
 | zero => simp [litB] at h
 | succ k ih =>
  cases j with
  | zero => simp [litB]
  | succ j =>
   simp only [litB, List.getElem_cons_succ]
   rw [ih (n / 256) j (by simpa [litB] using h), Nat.div_div_eq_div_mul, Nat.pow_succ, Nat.mul_comm 256]
theorem bigB_getElem (n k j : Nat) (h : j < k) : (bigB n k)[j]'(by rw [bigB_length]; exact h) = UInt8.ofNat (n / 256 ^ (k - 1 - j) % 256) := by
 unfold bigB
 rw [List.getElem_reverse, litB_getElem]
 simp [litB_length]
theorem pow8 (j : Nat) : (2 : Nat) ^ (8 * j) = 256 ^ j := by rw [Nat.pow_mul]
theorem pow256_le8 {k : Nat} (h : k ≤ 8) : 256 ^ k ≤ 18446744073709551616 := by
 calc 256 ^ k ≤ 256 ^ 8 := Nat.pow_le_pow_right (by decide) h
  _ = 18446744073709551616 := by decide
theorem pow256_le7 {k : Nat} (h : k ≤ 7) : 256 ^ k ≤ 72057594037927936 := by
 calc 256 ^ k ≤ 256 ^ 7 := Nat.pow_le_pow_right (by decide) h
  _ = 72057594037927936 := by decide
theorem take_snoc {α : Type} (l : List α) (k : Nat) (h : k < l.length) : l.take (k + 1) = l.take k ++ [l[k]] := by
 rw [List.take_succ_eq_append_getElem h]

/-! ### bit operations of the model, as operations on bytes -/
theorem u8_or (a b : UInt8) : bits .or .u8 a.toNat b.toNat = ((a ||| b).toNat : Int) := by
 rw [(bits_nat .u8 8 (by decide) wraps_u8 _ _ a.toNat_lt b.toNat_lt).2]; simp
theorem u8_and (a b : UInt8) : bits .and .u8 a.toNat b.toNat = ((a &&& b).toNat : Int) := by
 rw [(bits_nat .u8 8 (by decide) wraps_u8 _ _ a.toNat_lt b.toNat_lt).1]; simp
theorem bv_byte (a : UInt8) : BitVec.ofInt 8 (a.toNat : Int) = a.toBitVec := by
 apply BitVec.eq_of_toNat_eq
 have := a.toNat_lt
 simp
theorem u8_xor (a b : UInt8) : bits .xor .u8 a.toNat b.toNat = ((a ^^^ b).toNat : Int) := by
 have hx := (a ^^^ b).toNat_lt
 show IntKind.u8.wrap (((BitVec.ofInt 8 (a.toNat : Int) ^^^ BitVec.ofInt 8 (b.toNat : Int)).toNat : Nat) : Int) = _
 rw [bv_byte, bv_byte, show (a.toBitVec ^^^ b.toBitVec).toNat = (a ^^^ b).toNat from rfl, wraps_u8 _ (by omega) (by omega)]
theorem u8_andNot (a b : UInt8) : bits .andNot .u8 a.toNat b.toNat = ((a &&& ~~~b).toNat : Int) := by
 have hx := (a &&& ~~~b).toNat_lt
 show IntKind.u8.wrap (((BitVec.ofInt 8 (a.toNat : Int) &&& ~~~BitVec.ofInt 8 (b.toNat : Int)).toNat : Nat) : Int) = _
 rw [bv_byte, bv_byte, show (a.toBitVec &&& ~~~b.toBitVec).toNat = (a &&& ~~~b).toNat from rfl, wraps_u8 _ (by omega) (by omega)]
/-- n<<8 | x of a number that has room -/
theorem u64_or8 (n b : Nat) (hb : b < 256) (hn : n < 72057594037927936) : bits .or .u64 (IntKind.u64.wrap ((n : Int) * 256)) (IntKind.u64.wrap (b : Int)) = ((n * 256 + b : Nat) : Int) := by
 rw [IntKind.wrap_u64, IntKind.wrap_u64]
 have h1 : ((n : Int) * 256) % 18446744073709551616 = (n : Int) * 256 := by omega
 have h2 : (b : Int) % 18446744073709551616 = b := by omega
 rw [h1, h2, bits_join .u64 64 (by decide) (fun m h0 h1 => by rw [IntKind.wrap_u64]; omega) 8 _ _ (by omega) (by omega) (by omega) (by omega) (by omega) (by omega)]
 omega
/-- n | x << (8*k), n below 256^k -/
theorem u64_orHigh (n b k : Nat) (hk : k ≤ 7) (hb : b < 256) (hn : n < 256 ^ k) : bits .or .u64 (n : Int) (IntKind.u64.wrap (IntKind.u64.wrap (b : Int) * 2 ^ (8 * k))) = ((n + 256 ^ k * b : Nat) : Int) := by
 have hp := pow256_le7 hk
 have hm : 256 ^ k * b ≤ 256 ^ k * 255 := Nat.mul_le_mul_left _ (by omega)
 have e : IntKind.u64.wrap (IntKind.u64.wrap (b : Int) * 2 ^ (8 * k)) = ((256 ^ k * b : Nat) : Int) := by
  rw [IntKind.wrap_u64, IntKind.wrap_u64, show (b : Int) % 18446744073709551616 = b by omega]
  have h2 : ((2 : Int) ^ (8 * k)) = ((256 ^ k : Nat) : Int) := by rw [← pow8]; simp
  rw [h2, ← Int.natCast_mul, Nat.mul_comm b]
  omega
 rw [e, (bits_nat .u64 64 (by decide) (fun m h0 h1 => by rw [IntKind.wrap_u64]; omega) _ _ (by omega) (by omega)).2]
 rw [Nat.or_comm, ← pow8, ← Nat.two_pow_add_eq_or_of_lt (by rw [pow8]; exact hn), pow8]
 omega
theorem u8_wrap_mod (n : Int) : IntKind.u8.wrap n = n % 256 := IntKind.wrap_u8 n
/-- byte(n >> (8*k)) -/
theorem u8_shr (n k : Nat) : IntKind.u8.wrap ((n : Int) / 2 ^ (8 * k)) = ((UInt8.ofNat (n / 256 ^ k % 256)).toNat : Int) := by
 rw [IntKind.wrap_u8]
 have h2 : ((2 : Int) ^ (8 * k)) = ((256 ^ k : Nat) : Int) := by rw [← pow8]; simp
 rw [h2]
 have h : (UInt8.ofNat (n / 256 ^ k % 256)).toNat = n / 256 ^ k % 256 := by simp
 rw [h, ← Int.natCast_ediv]
 omega
theorem byte_shr (n j : Nat) : (n : Int) / 2 ^ (8 * j) % 256 = ((UInt8.ofNat (n / 256 ^ j % 256)).toNat : Int) := by
 rw [← u8_shr, IntKind.wrap_u8]
theorem set_step (l : List UInt8) (j k : Nat) (hl : l.length = k) (hj : j < k) :
  (l.take j ++ List.replicate (k - j) 0).set j (l[j]'(by omega)) = l.take (j + 1) ++ List.replicate (k - (j + 1)) 0 := by
 have h1 : (l.take j).length = j := by simp; omega
 rw [List.set_append_right _ _ (by omega), h1, Nat.sub_self, show k - j = (k - (j + 1)) + 1 by omega, List.replicate_succ, List.set_cons_zero, take_snoc l j (by omega), List.append_assoc]
 rfl
theorem ret_int {k : IntKind} {a b : Int} (h : a = b) : Ending.returned (.int k a) = .returned (.int k b) := by rw [h]
end Go.Proofs.YtbjpbeplpljieaaDoor

/-
 WORDS FOR MEMORY, for the claims over package octet: a slice of bytes that reads as a list; a block that holds just a list of bytes; what the conversion of such a slice into a string gives.
-/
namespace Go.Proofs.YtbjpbeplpljieaaDoor
open Go.RowKit
set_option maxRecDepth 100000

theorem cell_oneCell (bs : List UInt8) : ∀ u ∈ Lib.byteCells bs, u.oneCell' = true := by
 intro u hu
 simp only [Lib.byteCells, List.mem_map] at hu
 obtain ⟨b, _, rfl⟩ := hu
 rfl
theorem byteCells_get (bs : List UInt8) (k : Nat) (h : k < bs.length) : (Lib.byteCells bs)[k]? = some (.int .u8 bs[k].toNat) := by
 simp [Lib.byteCells, List.getElem?_eq_getElem h]
theorem addr_add (b off k : Nat) : (⟨b, off, none⟩ : Addr).add k = ⟨b, off + k, none⟩ := by
 unfold Addr.add; split <;> simp_all

/-- The slice value v reads as the bytes bs; what it reads lies below block B. -/
def Sl (w : World) (B : Nat) (v : Value) (bs : List UInt8) : Prop :=
 ∃ A c, v = .slice A bs.length c ∧ bs.length ≤ c ∧ c ≤ maxLen ∧ (0 < bs.length → ∃ b off, A = some ⟨b, off, none⟩ ∧ b < B ∧ ∀ k (h : k < bs.length), w.cell? ⟨b, off + k, none⟩ = some (.int .u8 bs[k].toNat))

section
variable {w w' : World} {B B' : Nat} {v : Value} {A : Option Addr} {n c : Nat} {bs : List UInt8}
theorem Sl.form (h : Sl w B v bs) : ∃ A c, v = .slice A bs.length c ∧ bs.length ≤ c ∧ c ≤ maxLen := by
 obtain ⟨A, c, h1, h2, h3, _⟩ := h
 exact ⟨A, c, h1, h2, h3⟩
theorem Sl.len (h : Sl w B (.slice A n c) bs) : n = bs.length := by
 obtain ⟨A', c', hv, _⟩ := h
 cases hv; rfl
theorem Sl.at_ (h : Sl w B (.slice A n c) bs) (hn : 0 < bs.length) : ∃ b off, A = some ⟨b, off, none⟩ ∧ b < B ∧ ∀ k (h : k < bs.length), w.cell? ⟨b, off + k, none⟩ = some (.int .u8 bs[k].toNat) := by
 obtain ⟨A', c', hv, _, _, hc⟩ := h
 cases hv
 exact hc hn
theorem Sl.keep (h : Sl w B v bs) (hk : ∀ p : Addr, p.block < B → w'.cell? p = w.cell? p) : Sl w' B v bs := by
 obtain ⟨A', c', hv, h1, h2, hc⟩ := h
 refine ⟨A', c', hv, h1, h2, fun hn => ?_⟩
 obtain ⟨b, off, hA, hb, hr⟩ := hc hn
 exact ⟨b, off, hA, hb, fun k hk' => (hk _ hb).trans (hr k hk')⟩
theorem Sl.more (h : Sl w B v bs) (hB : B ≤ B') : Sl w B' v bs := by
 obtain ⟨A', c', hv, h1, h2, hc⟩ := h
 refine ⟨A', c', hv, h1, h2, fun hn => ?_⟩
 obtain ⟨b, off, hA, hb, hr⟩ := hc hn
 exact ⟨b, off, hA, by omega, hr⟩
theorem Sl.below (h : Sl w B v bs) (hb : Below B w w') : Sl w' B v bs := h.keep fun _ hp => hb.cell hp
theorem Sl.drew (h : Sl w B v bs) : Sl w.drew B v bs := h
theorem Sl.drewN (h : Sl w B v bs) (k : Nat) : Sl (w.drewN k) B v bs := h
theorem Sl.nil_ : Sl w B (.slice none 0 0) [] := ⟨none, 0, rfl, Nat.le_refl _, by unfold maxLen; omega, fun h => absurd h (by simp)⟩
theorem Sl.of_own {base e : Nat} {n : Nat} (h : w.ownsRow base e 1 v n (Lib.byteCells bs)) : Sl w w.heap.size v bs := by
 have hl : bs.length = n := by have := h.1; rw [Lib.byteCells_length] at this; omega
 subst hl
 rcases h.2 with ⟨rfl, hn⟩ | ⟨g, cap, cur, rfl, hb, hg, hnc, hcm, hsz, hcur⟩
 ·exact ⟨none, 0, by rw [hn], by omega, by unfold maxLen; omega, fun h => absurd h (by omega)⟩
 ·refine ⟨some ⟨g, 0, none⟩, cap, rfl, hnc, hcm, fun hn => ⟨g, 0, rfl, (Array.getElem?_eq_some_iff.1 hg).1, fun k hk => ?_⟩⟩
  have := h.cellAt k (by omega)
  rw [byteCells_get bs k hk] at this
  simpa using this
theorem Sl.conv {P : Program} {src e dst : TypeId} (h : Sl w B v bs) (hs : P.underlying src = some (.slice e)) (he : P.underlying e = some (.int .u8)) (hd : P.underlying dst = some .string) :
  (convert src dst v).run P w = .ok (.string ⟨bs.toArray⟩) w := by
 obtain ⟨A, c, rfl, _, _, hc⟩ := h
 rcases Nat.eq_zero_or_pos bs.length with h0 | h0
 ·have : bs = [] := List.eq_nil_of_length_eq_zero h0
  subst this
  rcases A with _ | ⟨b, off, sp⟩
  ·exact run_convert_bytes_nil w src e hs he _ _ dst hd
  ·rw [run_convert_bytes_string w src dst e _ _ _ hs he hd]
   have hl : (loadCells ⟨b, off, sp⟩ 0).run P w = .ok ((([] : List Int).map (Value.int .u8))).toArray w := run_loadCells_list (P := P) w ⟨b, off, sp⟩ [] (fun j v hj => by simp at hj)
   have := run_bytesToString w ⟨b, off, sp⟩ 0 c [] hl
   exact this.trans rfl
 ·obtain ⟨b, off, rfl, _, hr⟩ := hc h0
  have := run_convert_bytes_arg (P := P) w src e hs he b off bs.length c (bs.map fun x => (x.toNat : Int)) (by simp) (fun i hi => by
   rw [hr i hi]; simp [List.getD, List.getElem?_eq_getElem hi]) dst hd
  rw [this]
  have hx : (bs.map fun x => (x.toNat : Int)).map (fun n => UInt8.ofNat n.toNat) = bs := by
   rw [List.map_map]
   conv => rhs; rw [← List.map_id bs]
   apply List.map_congr_left
   intro x _
   simp
  unfold strOfNums
  rw [hx]
end
end Go.Proofs.YtbjpbeplpljieaaDoor

/-
 WALKS: integers as bytes (octet.Big, BigOf, Little, LittleOf, U16, U32, U64 and what they call).
-/
namespace Go.Proofs.YtbjpbeplpljieaaDoor
open Go.RowKit
set_option maxRecDepth 100000

theorem info_u8 : (Tryd.prog.info? 5).map (fun i => (i.zero, i.size, i.bytes)) = some (some (.int .u8 0), 1, 1) := by kernel_rfl

/-- A block that is just the bytes bs. -/
def Blk (w : World) (g : Nat) (bs : List UInt8) : Prop := w.heap[g]? = some (.cells (Lib.byteCells bs).toArray 5 (0, 0))
section
variable {w w' : World} {g B : Nat} {bs : List UInt8}
theorem Blk.lt (h : Blk w g bs) : g < w.heap.size := (Array.getElem?_eq_some_iff.1 h).1
theorem Blk.cell (h : Blk w g bs) (k : Nat) (hk : k < bs.length) : w.cell? ⟨g, k, none⟩ = some (.int .u8 bs[k].toNat) := by
 rw [cell_of_row w g k _ _ _ h]; simpa using byteCells_get bs k hk
theorem Blk.free (h : Blk w g bs) (k : Nat) : w.frozen? ⟨g, k, none⟩ = false := by
 unfold Blk at h
 simp [World.frozen?, h]
theorem Blk.drew (h : Blk w g bs) : Blk w.drew g bs := h
theorem Blk.set_ (h : Blk w g bs) (k : Nat) (b : UInt8) : Blk (w.setCell ⟨g, k, none⟩ (.int .u8 b.toNat)) g (bs.set k b) := by
 unfold Blk at h ⊢
 have e : Lib.byteCells (bs.set k b) = (Lib.byteCells bs).set k (.int .u8 b.toNat) := by simp [Lib.byteCells, List.map_set]
 rw [e]
 simp [World.setCell, Array.getElem?_modify, h]
theorem Blk.below (h : Blk w g bs) (hb : Below B w w') (hg : g < B) : Blk w' g bs := (hb.block g hg).trans h
theorem Blk.own (h : Blk w g bs) {base : Nat} (hb : base ≤ g) (hm : bs.length ≤ maxLen) : w.ownsRow base 5 1 (.slice (some ⟨g, 0, none⟩) bs.length bs.length) bs.length (Lib.byteCells bs) :=
 ⟨by rw [Lib.byteCells_length, Nat.mul_one], .inr ⟨g, bs.length, _, rfl, hb, h, Nat.le_refl _, hm, by simp [Lib.byteCells], by rw [List.take_of_length_le (by simp [Lib.byteCells])]⟩⟩
theorem Blk.new (w : World) (bs : List UInt8) : Blk (w.alloc (.cells (Lib.byteCells bs).toArray 5)) w.heap.size bs := heap_alloc_new w _
end
theorem made_zero (n : Nat) : madeCells #[.int .u8 0] n = (Lib.byteCells (List.replicate n 0)).toArray := by
 apply Array.ext
 ·simp [madeCells, Lib.byteCells]
 ·intro i h1 h2
  simp [madeCells, Lib.byteCells, Nat.mod_one]

/-- make([]byte, n), n a variable -/
theorem make_run (n : Nat) (hn : n ≤ 281474976710656) (u : World) : (Instr.makeSlice 23 (.int .i64 (n : Int)) (.int .i64 (n : Int))).run Tryd.prog u =
  .ok (.slice (some ⟨u.heap.size, 0, none⟩) n n) (u.alloc (.cells (Lib.byteCells (List.replicate n 0)).toArray 5)) := by
 obtain ⟨i0, hi, hz0, hz1, hz2⟩ := info_parts info_u8
 have h := run_make (P := Tryd.prog) u 23 5 i0 (.int .u8 0) Tryd.underlying23 hi hz0 .i64 .i64 (n : Int) (n : Int) (by omega) (Int.le_refl _) (by rw [hz2]; omega) (by omega)
 have e : (n : Int).toNat = n := by omega
 rw [e] at h
 rw [← made_zero]
 simpa [hz1, Value.cells] using h

end Go.Proofs.YtbjpbeplpljieaaDoor

/-
 WALKS: slices.Reverse on a block of bytes; octet.bigBytes and the functions above it.
-/
namespace Go.Proofs.YtbjpbeplpljieaaDoor
open Go.RowKit
set_option maxRecDepth 100000

/-- bs with its first k and its last k bytes exchanged -/
def revK (bs : List UInt8) (k : Nat) : List UInt8 := (List.range bs.length).map fun i => if i < k ∨ bs.length - k ≤ i then bs.getD (bs.length - 1 - i) 0 else bs.getD i 0
theorem revK_length (bs : List UInt8) (k : Nat) : (revK bs k).length = bs.length := by simp [revK]
theorem revK_get (bs : List UInt8) (k i : Nat) (h : i < (revK bs k).length) : (revK bs k)[i] = if i < k ∨ bs.length - k ≤ i then bs.getD (bs.length - 1 - i) 0 else bs.getD i 0 := by
 simp [revK]
theorem revK_zero (bs : List UInt8) : revK bs 0 = bs := by
 apply List.ext_getElem (by rw [revK_length])
 intro i h1 h2
 rw [revK_get, if_neg (by omega)]
 simp [List.getD, List.getElem?_eq_getElem h2]
theorem revK_end (bs : List UInt8) (k : Nat) (h : bs.length ≤ 2 * k + 1) : revK bs k = bs.reverse := by
 apply List.ext_getElem (by rw [revK_length, List.length_reverse])
 intro i h1 h2
 rw [revK_length] at h1
 rw [revK_get, List.getElem_reverse]
 by_cases hc : i < k ∨ bs.length - k ≤ i
 ·rw [if_pos hc]
  simp [List.getD, List.getElem?_eq_getElem (show bs.length - 1 - i < bs.length by omega)]
 ·rw [if_neg hc]
  have : bs.length - 1 - i = i := by omega
  simp only [this]
  simp [List.getD, List.getElem?_eq_getElem h1]
theorem revK_step (bs : List UInt8) (k : Nat) (h : 2 * k + 1 < bs.length) :
  ((revK bs k).set k (bs[bs.length - 1 - k]'(by omega))).set (bs.length - 1 - k) (bs[k]'(by omega)) = revK bs (k + 1) := by
 apply List.ext_getElem (by simp [revK_length])
 intro i h1 h2
 rw [revK_length] at h2
 rw [revK_get]
 by_cases e1 : bs.length - 1 - k = i
 ·subst e1
  rw [List.getElem_set_self, if_pos (by omega)]
  have : bs.length - 1 - (bs.length - 1 - k) = k := by omega
  rw [this]
  simp [List.getD, List.getElem?_eq_getElem (show k < bs.length by omega)]
 ·rw [List.getElem_set_ne e1]
  by_cases e2 : k = i
  ·subst e2
   rw [List.getElem_set_self, if_pos (by omega)]
   simp [List.getD, List.getElem?_eq_getElem (show bs.length - 1 - k < bs.length by omega)]
  ·rw [List.getElem_set_ne e2, revK_get]
   by_cases hc : i < k ∨ bs.length - k ≤ i
   ·rw [if_pos hc, if_pos (by omega)]
   ·rw [if_neg hc, if_neg (by omega)]
theorem revK_get_mid (bs : List UInt8) (k i : Nat) (h1 : k ≤ i) (h2 : i < bs.length - k) : (revK bs k)[i]'(by rw [revK_length]; omega) = bs[i]'(by omega) := by
 rw [revK_get, if_neg (by omega)]
 simp [List.getD, List.getElem?_eq_getElem (show i < bs.length by omega)]

/-- What a function hands back that made a slice of its own. -/
def Gives (w : World) (bs : List UInt8) (v : Value) (w' : World) : Prop :=
 w'.ownsRow w.heap.size 5 1 v bs.length (Lib.byteCells bs) ∧ Below w.heap.size w w'

theorem own_of_blk {w w' : World} {bs : List UInt8} {k : Nat} (hk : bs.length = k) (hm : k ≤ 8) (h : Blk w' w.heap.size bs) (hb : Below w.heap.size w w') : Gives w bs (.slice (some ⟨w.heap.size, 0, none⟩) k k) w' := by
 subst hk
 exact ⟨h.own (Nat.le_refl _) (by unfold maxLen; omega), hb⟩

theorem long_iff (n k : Nat) : (((n : Int) / 2 ^ (8 * (k : Int)).toNat) != 0) = decide (256 ^ k ≤ n) := by
 have e : (8 * (k : Int)).toNat = 8 * k := by omega
 have h2 : ((2 : Int) ^ (8 * k)) = ((256 ^ k : Nat) : Int) := by rw [← pow8]; simp
 rw [e, h2, ← Int.natCast_ediv]
 have hp : 0 < 256 ^ k := Nat.pow_pos (by decide)
 by_cases h : 256 ^ k ≤ n
 ·rw [decide_eq_true h, bne_iff_ne]
  have := Nat.div_pos h hp
  omega
 ·rw [decide_eq_false h]
  rw [Nat.div_eq_of_lt (by omega)]
  rfl

/-! Big and Little: the error, or the bytes. -/
def putErr (n : Nat) (size : Int) : Int := if size < 1 ∨ 8 < size then 1 else if 256 ^ size.toNat ≤ n then 3 else 0
end Go.Proofs.YtbjpbeplpljieaaDoor

/-
 append onto a slice of bytes (or of any values of one cell) that the call itself made: one element; the elements of another slice, nil or not.
-/
namespace Go.Proofs.YtbjpbeplpljieaaDoor
open Go.RowKit
set_option maxRecDepth 100000

section
variable {P : Program} {ops : Array Oper} {rest : List Oper} {o : Oper} {a : Act} {Q : Exit → Act → World → Prop}

/-- one element: the walk has laid it in a new block of one cell -/
theorem wp_append1 (w : World) (t e : TypeId) (i0 : TypeInfo) (z : Value) (ht : P.underlying t = some (.slice e)) (hi : P.info? e = some i0) (hz : i0.zero = some z) (hsz : i0.size = 1) (hby : i0.bytes = 1) (hzc : z.cells.size = 1)
  (hgd : o.guard = none) (s x : Operand) (ho : o.op = .call { callee := .builtin .append, args := #[s, x], argTypes := #[t, t] })
  {base : Nat} {v : Value} {n : Nat} {xs : List Value} {u : Value} (hown : w.ownsRow base e 1 v n xs) (hs : a.eval s = v) (hx : a.eval x = .slice (some ⟨w.heap.size, 0, none⟩) 1 1)
  (hu : u.oneCell' = true) (hlen : n + 1 ≤ 140737488355328) (hbase : base ≤ w.heap.size)
  (h : ∀ v' w', w'.ownsRow base e 1 v' (n + 1) (xs ++ [u]) → (w.alloc (.cells #[u] e)).grownBy w' v.ownBlock → (∀ B, B ≤ base → Below B w w') → wpList P ops Q rest (a.put o.dst v') w') :
  wpList P ops Q (o :: rest) a (w.alloc (.cells #[u] e)) := by
 refine wpList_append_own (w.alloc (.cells #[u] e)) hgd s x t ho base e i0 z 1 1 ht hi hz hsz hby hzc (by decide) v n xs hs (hown.alloc _) ⟨w.heap.size, 0, none⟩ 1 1 [u] hx rfl ?_ (by simpa using hu) (by unfold maxLen; omega) (by omega) (by simp; omega) ?_
 ·intro j y hj
  match j, hj with
  | 0, hj =>
   simp at hj; subst hj
   rw [addr_add, cell_of_row _ _ _ _ _ _ (heap_alloc_new w _)]
   rfl
  | (j + 1), hj => simp at hj
 ·intro v' w' ho' hg _
  refine h v' w' ho' hg fun B hB => ?_
  exact (((Below.refl B w).alloc (by omega) _).grown hg (by simp; omega) (fun k hk => by have := (hown.lt k hk).1; omega))

/-- several elements in a region that draws its order: the walk has laid them in a new block -/
theorem step_appendN (w : World) {K : Act → World → Prop} {E : Prop} (t e : TypeId) (i0 : TypeInfo) (z : Value) (us : List Value) (ht : P.underlying t = some (.slice e)) (hi : P.info? e = some i0) (hz : i0.zero = some z) (hsz : i0.size = 1) (hby : i0.bytes = 1) (hzc : z.cells.size = 1)
  (hgd : o.guard = none) (s x : Operand) (ho : o.op = .call { callee := .builtin .append, args := #[s, x], argTypes := #[t, t] })
  {base : Nat} {v : Value} {n : Nat} {xs : List Value} (hown : w.ownsRow base e 1 v n xs) (hs : a.eval s = v) (m : Nat) (hx : a.eval x = .slice (some ⟨w.heap.size, 0, none⟩) m m) (hm : us.length = m)
  (hu : ∀ u ∈ us, u.oneCell' = true) (hlen : n + m ≤ 140737488355328) (hbase : base ≤ w.heap.size)
  (h : ∀ v' w', w'.ownsRow base e 1 v' (n + m) (xs ++ us) → (w.alloc (.cells us.toArray e)).grownBy w' v.ownBlock → (∀ B, B ≤ base → Below B w w') → K (a.put o.dst v') w') :
  if Region.wanted o (yielded ops a.tmps) = true then Oper.wp P o a (w.alloc (.cells us.toArray e)) K Q else E := by
 have hw : Region.wanted o (yielded ops a.tmps) = true := by simp [Region.wanted, hgd]
 rw [if_pos hw]
 refine wp_append_own (w.alloc (.cells us.toArray e)) s x t ho base e i0 z 1 1 ht hi hz hsz hby hzc (by decide) v n xs hs (hown.alloc _) ⟨w.heap.size, 0, none⟩ m m us hx (by omega) ?_ hu (by unfold maxLen; omega) (by omega) (by simp; omega) ?_
 ·intro j y hj
  rw [addr_add, cell_of_row _ _ _ _ _ _ (heap_alloc_new w _)]
  simpa using hj
 ·intro v' w' ho' hg _
  refine h v' w' ho' hg fun B hB => ?_
  exact (((Below.refl B w).alloc (by omega) _).grown hg (by simp; omega) (fun k hk => by have := (hown.lt k hk).1; omega))

/-- the same behind one draw -/
theorem step_appendN_d (w : World) {K : Act → World → Prop} {E : Prop} (t e : TypeId) (i0 : TypeInfo) (z : Value) (us : List Value) (ht : P.underlying t = some (.slice e)) (hi : P.info? e = some i0) (hz : i0.zero = some z) (hsz : i0.size = 1) (hby : i0.bytes = 1) (hzc : z.cells.size = 1)
  (hgd : o.guard = none) (s x : Operand) (ho : o.op = .call { callee := .builtin .append, args := #[s, x], argTypes := #[t, t] })
  {base : Nat} {v : Value} {n : Nat} {xs : List Value} (hown : w.ownsRow base e 1 v n xs) (hs : a.eval s = v) (m : Nat) (hx : a.eval x = .slice (some ⟨w.heap.size, 0, none⟩) m m) (hm : us.length = m)
  (hu : ∀ u ∈ us, u.oneCell' = true) (hlen : n + m ≤ 140737488355328) (hbase : base ≤ w.heap.size)
  (h : ∀ v' w', w'.ownsRow base e 1 v' (n + m) (xs ++ us) → (w.alloc (.cells us.toArray e)).drew.grownBy w' v.ownBlock → (∀ B, B ≤ base → Below B w w') → K (a.put o.dst v') w') :
  if Region.wanted o (yielded ops a.tmps) = true then Oper.wp P o a (w.alloc (.cells us.toArray e)).drew K Q else E :=
 step_appendN w.drew t e i0 z us ht hi hz hsz hby hzc hgd s x ho (World.ownsRow.drew hown) hs m hx hm hu hlen hbase fun v' w' h1 h2 h3 => h v' w' h1 ⟨h2.os, h2.tape, h2.output, h2.size, h2.block⟩ (fun B hB => ((Below.refl B w).drew).trans (h3 B hB))

/-- the bytes of another slice, that reads as a list -/
theorem wp_appendSl (w : World) (t e : TypeId) (i0 : TypeInfo) (ht : P.underlying t = some (.slice e)) (hi : P.info? e = some i0) (hz : i0.zero = some (.int .u8 0)) (hsz : i0.size = 1) (hby : i0.bytes = 1)
  (hgd : o.guard = none) (s x : Operand) (ho : o.op = .call { callee := .builtin .append, args := #[s, x], argTypes := #[t, t] })
  {base B0 : Nat} {v : Value} {bs : List UInt8} {y : Value} {cs : List UInt8} (hown : w.ownsRow base e 1 v bs.length (Lib.byteCells bs)) (hy : Sl w B0 y cs) (hs : a.eval s = v) (hx : a.eval x = y)
  (hlen : bs.length + cs.length ≤ 140737488355328) (hbase : base ≤ w.heap.size)
  (h : ∀ v' w', w'.ownsRow base e 1 v' (bs ++ cs).length (Lib.byteCells (bs ++ cs)) → w.grownBy w' v.ownBlock → (∀ B, B ≤ base → Below B w w') → wpList P ops Q rest (a.put o.dst v') w') :
  wpList P ops Q (o :: rest) a w := by
 have hbel : ∀ w', w.grownBy w' v.ownBlock → ∀ B, B ≤ base → Below B w w' := fun w' hg B hB =>
  (Below.refl B w).grown hg (by omega) (fun k hk => by have := (hown.lt k hk).1; omega)
 obtain ⟨A, c, rfl, hc1, hc2, hc⟩ := hy
 rcases A with _ | ad
 ·have h0 : cs.length = 0 := by
   rcases Nat.eq_zero_or_pos cs.length with h0 | h0
   ·exact h0
   ·obtain ⟨b, off, h, _⟩ := hc h0
    cases h
  obtain rfl : cs = [] := List.eq_nil_of_length_eq_zero h0
  refine wpList_plain hgd fun K hK => ?_
  have hrun : (Builtin.append_ #[t, t] o.type #[v, .slice none 0 c]).run P w = .ok v w := by
   rcases hown.2 with ⟨rfl, hn⟩ | ⟨g, cap, cur, rfl, _, _, hnc, _⟩
   ·simp [Builtin.append_, run_underlying ht, sizeOf, typeInfo, hi, Builtin.lenOf, Builtin.firstCells]
   ·simp [Builtin.append_, run_underlying ht, sizeOf, typeInfo, hi, Builtin.lenOf, Builtin.firstCells, hnc, storeCells]
  have hx' : a.eval x = .slice none 0 c := hx
  unfold Oper.wp
  simp [execOp, ho, resolve, invoke, builtin, hs, hx', hrun, Result.andThen]
  exact hK _ _ (h v w (by simpa using hown) (World.grownBy.refl w _) (hbel w (World.grownBy.refl w _)))
 ·refine wpList_append_own w hgd s x t ho base e i0 (.int .u8 0) 1 1 ht hi hz hsz hby rfl (by decide) v bs.length (Lib.byteCells bs) hs hown ad cs.length c (Lib.byteCells cs) hx (by rw [Lib.byteCells_length, Nat.mul_one]) ?_ (cell_oneCell cs) (by unfold maxLen; omega) (by omega) hbase ?_
  ·intro j u hj
   have hjl : j < cs.length := by
    rcases Nat.lt_or_ge j cs.length with h' | h'
    ·exact h'
    ·rw [List.getElem?_eq_none (by rw [Lib.byteCells_length]; exact h')] at hj; cases hj
   rw [byteCells_get cs j hjl] at hj
   injection hj with hj
   subst hj
   obtain ⟨b, off, hA, _, hr⟩ := hc (by omega)
   injection hA with hA
   subst hA
   rw [addr_add]
   exact hr j hjl
  ·intro v' w' ho' hg _
   exact h v' w' (by simpa [Lib.byteCells_append] using ho') hg (hbel w' hg)
end
theorem own_len {w : World} {base size : Nat} {e : TypeId} {v : Value} {n m : Nat} {xs : List Value} (h : w.ownsRow base e size v n xs) (hm : n = m) : w.ownsRow base e size v m xs := hm ▸ h
theorem own_form {w : World} {base : Nat} {e : TypeId} {v : Value} {n : Nat} {xs : List Value} (h : w.ownsRow base e 1 v n xs) : ∃ A c, v = .slice A n c := by
 rcases h.2 with ⟨rfl, rfl⟩ | ⟨g, cap, cur, rfl, _⟩
 ·exact ⟨_, _, rfl⟩
 ·exact ⟨_, _, rfl⟩
end Go.Proofs.YtbjpbeplpljieaaDoor

/-
 WALKS: octet.BigOf, octet.LittleOf; the document's own Big, Fits, Put, Number, Take, Turned, Equal.
-/
namespace Go.Proofs.YtbjpbeplpljieaaDoor
open Go.RowKit
set_option maxRecDepth 100000

theorem bigN_take_lt (bs : List UInt8) (k : Nat) (h : k ≤ bs.length) : bigN (bs.take k) < 256 ^ k := by
 have := bigN_lt (bs.take k)
 rwa [List.length_take, Nat.min_eq_left h] at this
theorem litN_take_lt (bs : List UInt8) (k : Nat) (h : k ≤ bs.length) : litN (bs.take k) < 256 ^ k := by
 have := litN_lt (bs.take k)
 rwa [List.length_take, Nat.min_eq_left h] at this
theorem bigN_step (bs : List UInt8) (k : Nat) (h : k < bs.length) (h8 : bs.length ≤ 8) :
  bits .or .u64 (IntKind.u64.wrap ((bigN (bs.take k) : Int) * 256)) (IntKind.u64.wrap (bs[k].toNat : Int)) = (bigN (bs.take (k + 1)) : Int) := by
 have h1 := bigN_take_lt bs k (by omega)
 have h2 := pow256_le7 (show k ≤ 7 by omega)
 have h3 := bs[k].toNat_lt
 rw [take_snoc bs k h, bigN_snoc, u64_or8 _ _ (by omega) (by omega)]
theorem litN_step (bs : List UInt8) (k : Nat) (h : k < bs.length) (h8 : bs.length ≤ 8) :
  bits .or .u64 (litN (bs.take k) : Int) (IntKind.u64.wrap (IntKind.u64.wrap (bs[k].toNat : Int) * 2 ^ (8 * k))) = (litN (bs.take (k + 1)) : Int) := by
 have h1 := litN_take_lt bs k (by omega)
 have h3 := bs[k].toNat_lt
 rw [take_snoc bs k h, litN_snoc, u64_orHigh _ _ _ (by omega) (by omega) h1]
 simp [List.length_take, Nat.min_eq_left (show k ≤ bs.length by omega)]

/-- What BigOf answers: the integer and the error. -/
def ofN (bs : List UInt8) : Nat := if 1 ≤ bs.length ∧ bs.length ≤ 8 then bigN bs else 0
def ofE (bs : List UInt8) : Int := if 1 ≤ bs.length ∧ bs.length ≤ 8 then 0 else 1
theorem ofE_reverse (bs : List UInt8) : ofE bs.reverse = ofE bs := by simp [ofE]

theorem refEqual_any (B B' : Nat) (v v' : Value) (bs cs : List UInt8) (w : World) (h1 : Sl w B v bs) (h2 : Sl w B' v' cs) :
  Calls Tryd.prog 12 #[v, v'] w fun e w' => e = .returned (.bool (bs == cs)) ∧ w = w' := by
 have hc1 := h1.conv Tryd.underlying23 Tryd.underlying5 Tryd.underlying9
 have hc2 := h2.conv Tryd.underlying23 Tryd.underlying5 Tryd.underlying9
 go_enter Tryd.func12, Tryd.ntmps12
 go_wp2
 go_ret
 exact ⟨rfl, rfl⟩
end Go.Proofs.YtbjpbeplpljieaaDoor

/-
 WALKS: the document's own Big, Fits, Put, Turned.
-/
namespace Go.Proofs.YtbjpbeplpljieaaDoor
open Go.RowKit
set_option maxRecDepth 100000

theorem set_back (k r : Nat) (x : UInt8) (T : List UInt8) (h : r < k) : (List.replicate (k - r) (0 : UInt8) ++ T).set (k - 1 - r) x = List.replicate (k - (r + 1)) 0 ++ x :: T := by
 obtain ⟨m, rfl⟩ : ∃ m, k = r + (m + 1) := ⟨k - r - 1, by omega⟩
 have e1 : r + (m + 1) - r = m + 1 := by omega
 have e2 : r + (m + 1) - 1 - r = m := by omega
 have e3 : r + (m + 1) - (r + 1) = m := by omega
 rw [e1, e2, e3, List.replicate_succ', List.append_assoc, List.set_append_right _ _ (by simp)]
 simp
theorem litB_take_rev (n k r : Nat) (h : r < k) : ((litB n k).take (r + 1)).reverse = UInt8.ofNat (n / 256 ^ r % 256) :: ((litB n k).take r).reverse := by
 rw [take_snoc _ _ (by rw [litB_length]; exact h), List.reverse_append, litB_getElem]
 rfl
theorem byte_mod (n r : Nat) : (((n / 256 ^ r : Nat) : Int) % 256) = ((UInt8.ofNat (n / 256 ^ r % 256)).toNat : Int) := by
 have h : (UInt8.ofNat (n / 256 ^ r % 256)).toNat = n / 256 ^ r % 256 := by simp
 rw [h]; omega
theorem div_step (n r : Nat) : (((n / 256 ^ r : Nat) : Int) / 256) = ((n / 256 ^ (r + 1) : Nat) : Int) := by
 rw [Nat.pow_succ, ← Nat.div_div_eq_div_mul]; omega

theorem gives_nil (w : World) : Gives w [] (.slice none 0 0) w := ⟨World.ownsRow_nil _ _ _ _, Below.refl _ _⟩
def putB (n : Nat) (size : Int) : List UInt8 := if putErr n size = 0 then bigB n size.toNat else []

end Go.Proofs.YtbjpbeplpljieaaDoor

/-
 FOUNDATIONS, merged: see the heads of the parts.
-/
/-
 PLAIN MATHEMATICS: SHA-256, HMAC and HKDF as functions on lists of bytes. Nothing of the program is named here.
-/
namespace Go.Proofs.YtbjpbeplpljieaaDoor
open Go.RowKit
set_option maxRecDepth 100000

/-! ### words -/
def rotr (x : UInt32) (n : Nat) : UInt32 := UInt32.ofNat ((x.toNat / 2 ^ n) ||| (x.toNat * 2 ^ (32 - n) % 4294967296))
def shrw (x : UInt32) (n : Nat) : UInt32 := UInt32.ofNat (x.toNat / 2 ^ n)
def sm0 (x : UInt32) : UInt32 := rotr x 7 ^^^ rotr x 18 ^^^ shrw x 3
def sm1 (x : UInt32) : UInt32 := rotr x 17 ^^^ rotr x 19 ^^^ shrw x 10
def bg0 (x : UInt32) : UInt32 := rotr x 2 ^^^ rotr x 13 ^^^ rotr x 22
def bg1 (x : UInt32) : UInt32 := rotr x 6 ^^^ rotr x 11 ^^^ rotr x 25
def chw (x y z : UInt32) : UInt32 := x &&& y ||| ~~~x &&& z
def mjw (x y z : UInt32) : UInt32 := x &&& y ||| x &&& z ||| y &&& z

theorem wraps_u32 (m : Int) (h0 : 0 ≤ m) (h1 : m < 4294967296) : IntKind.u32.wrap m = m := by rw [IntKind.wrap_u32]; omega
theorem u32_or (a b : UInt32) : bits .or .u32 a.toNat b.toNat = ((a ||| b).toNat : Int) := by
 rw [(bits_nat .u32 32 (by decide) wraps_u32 _ _ a.toNat_lt b.toNat_lt).2]; simp
theorem u32_and (a b : UInt32) : bits .and .u32 a.toNat b.toNat = ((a &&& b).toNat : Int) := by
 rw [(bits_nat .u32 32 (by decide) wraps_u32 _ _ a.toNat_lt b.toNat_lt).1]; simp
theorem bv_word (a : UInt32) : BitVec.ofInt 32 (a.toNat : Int) = a.toBitVec := by
 apply BitVec.eq_of_toNat_eq
 have := a.toNat_lt
 simp
theorem u32_xor (a b : UInt32) : bits .xor .u32 a.toNat b.toNat = ((a ^^^ b).toNat : Int) := by
 have hx := (a ^^^ b).toNat_lt
 show IntKind.u32.wrap (((BitVec.ofInt 32 (a.toNat : Int) ^^^ BitVec.ofInt 32 (b.toNat : Int)).toNat : Nat) : Int) = _
 rw [bv_word, bv_word, show (a.toBitVec ^^^ b.toBitVec).toNat = (a ^^^ b).toNat from rfl, wraps_u32 _ (by omega) (by omega)]
theorem max_u32 : IntKind.u32.max = ((4294967295 : UInt32).toNat : Int) := by decide
theorem ones_xor (a : UInt32) : (4294967295 : UInt32) ^^^ a = ~~~a := by
 apply UInt32.toBitVec_inj.1
 have h : (4294967295 : UInt32).toBitVec = BitVec.allOnes 32 := by decide
 rw [UInt32.toBitVec_xor, UInt32.toBitVec_not, h, BitVec.allOnes_xor]
theorem u32_not (a : UInt32) : bits .xor .u32 IntKind.u32.max a.toNat = ((~~~a).toNat : Int) := by
 rw [max_u32, u32_xor, ones_xor]
theorem u32_add (a b : UInt32) : ((a.toNat : Int) + (b.toNat : Int)) % 4294967296 = ((a + b).toNat : Int) := by
 rw [UInt32.toNat_add]
 omega
theorem or_lt32 {a b : Nat} (ha : a < 4294967296) (hb : b < 4294967296) : a ||| b < 4294967296 := Nat.or_lt_two_pow (n := 32) ha hb
theorem div_lt32 (x : UInt32) (n : Nat) : x.toNat / 2 ^ n < 4294967296 := Nat.lt_of_le_of_lt (Nat.div_le_self _ _) x.toNat_lt
theorem ofNat32 {n : Nat} (h : n < 4294967296) : (UInt32.ofNat n).toNat = n := by simp; omega
theorem div_cast (x : UInt32) (n : Nat) : (x.toNat : Int) / 2 ^ n = ((x.toNat / 2 ^ n : Nat) : Int) := by simp
theorem shl_cast (x : UInt32) (n : Nat) : ((x.toNat : Int) * 2 ^ n) % 4294967296 = ((x.toNat * 2 ^ n % 4294967296 : Nat) : Int) := by
 simp
theorem u32_shr (x : UInt32) (n : Nat) : (x.toNat : Int) / 2 ^ n = ((shrw x n).toNat : Int) := by
 rw [div_cast, shrw, ofNat32 (div_lt32 x n)]
/-- x>>n | x<<(32-n) -/
theorem u32_rotr (x : UInt32) (n : Nat) : bits .or .u32 ((x.toNat : Int) / 2 ^ n) (((x.toNat : Int) * 2 ^ (32 - n)) % 4294967296) = ((rotr x n).toNat : Int) := by
 have h1 := div_lt32 x n
 have h2 : x.toNat * 2 ^ (32 - n) % 4294967296 < 4294967296 := Nat.mod_lt _ (by decide)
 rw [div_cast, shl_cast, (bits_nat .u32 32 (by decide) wraps_u32 _ _ h1 h2).2, rotr, ofNat32 (or_lt32 h1 h2)]
/-- x<<(32-n) | x>>n -/
theorem u32_rotl (x : UInt32) (n : Nat) : bits .or .u32 (((x.toNat : Int) * 2 ^ (32 - n)) % 4294967296) ((x.toNat : Int) / 2 ^ n) = ((rotr x n).toNat : Int) := by
 have h1 := div_lt32 x n
 have h2 : x.toNat * 2 ^ (32 - n) % 4294967296 < 4294967296 := Nat.mod_lt _ (by decide)
 rw [div_cast, shl_cast, (bits_nat .u32 32 (by decide) wraps_u32 _ _ h2 h1).2, rotr, Nat.or_comm, ofNat32 (or_lt32 h1 h2)]

/-! ### one block -/
def cK : List UInt32 := [
 0x428a2f98, 0x71374491, 0xb5c0fbcf, 0xe9b5dba5, 0x3956c25b, 0x59f111f1, 0x923f82a4, 0xab1c5ed5,
 0xd807aa98, 0x12835b01, 0x243185be, 0x550c7dc3, 0x72be5d74, 0x80deb1fe, 0x9bdc06a7, 0xc19bf174,
 0xe49b69c1, 0xefbe4786, 0x0fc19dc6, 0x240ca1cc, 0x2de92c6f, 0x4a7484aa, 0x5cb0a9dc, 0x76f988da,
 0x983e5152, 0xa831c66d, 0xb00327c8, 0xbf597fc7, 0xc6e00bf3, 0xd5a79147, 0x06ca6351, 0x14292967,
 0x27b70a85, 0x2e1b2138, 0x4d2c6dfc, 0x53380d13, 0x650a7354, 0x766a0abb, 0x81c2c92e, 0x92722c85,
 0xa2bfe8a1, 0xa81a664b, 0xc24b8b70, 0xc76c51a3, 0xd192e819, 0xd6990624, 0xf40e3585, 0x106aa070,
 0x19a4c116, 0x1e376c08, 0x2748774c, 0x34b0bcb5, 0x391c0cb3, 0x4ed8aa4a, 0x5b9cca4f, 0x682e6ff3,
 0x748f82ee, 0x78a5636f, 0x84c87814, 0x8cc70208, 0x90befffa, 0xa4506ceb, 0xbef9a3f7, 0xc67178f2]
theorem cK_length : cK.length = 64 := rfl

structure St where
 a : UInt32
 b : UInt32
 c : UInt32
 d : UInt32
 e : UInt32
 f : UInt32
 g : UInt32
 h : UInt32
def St.list (s : St) : List UInt32 := [s.a, s.b, s.c, s.d, s.e, s.f, s.g, s.h]
def St.of (l : List UInt32) : St := ⟨l.getD 0 0, l.getD 1 0, l.getD 2 0, l.getD 3 0, l.getD 4 0, l.getD 5 0, l.getD 6 0, l.getD 7 0⟩
theorem St.list_length (s : St) : s.list.length = 8 := rfl
theorem St.of_list (s : St) : St.of s.list = s := rfl
theorem St.list_of (l : List UInt32) (h : l.length = 8) : (St.of l).list = l := by
 match l, h with
 | [_, _, _, _, _, _, _, _], _ => rfl

/-- the word t of a block, most significant byte first -/
def wordN (b : List UInt8) (t : Nat) : Nat := bigN [b.getD (4 * t) 0, b.getD (4 * t + 1) 0, b.getD (4 * t + 2) 0, b.getD (4 * t + 3) 0]
def wordB (b : List UInt8) (t : Nat) : UInt32 := UInt32.ofNat (wordN b t)
theorem wordN_lt (b : List UInt8) (t : Nat) : wordN b t < 4294967296 := by
 unfold wordN
 generalize b.getD (4 * t) 0 = x0
 generalize b.getD (4 * t + 1) 0 = x1
 generalize b.getD (4 * t + 2) 0 = x2
 generalize b.getD (4 * t + 3) 0 = x3
 have := bigN_lt [x0, x1, x2, x3]
 have e : 256 ^ [x0, x1, x2, x3].length = 4294967296 := by simp only [List.length_cons, List.length_nil]
 omega
theorem wordB_nat (b : List UInt8) (t : Nat) : (wordB b t).toNat = wordN b t := ofNat32 (wordN_lt b t)
theorem word_or (a b c d : UInt8) : bits .or .u32 (bits .or .u32 (bits .or .u32 ((a.toNat : Int) % 4294967296 * 16777216 % 4294967296) ((b.toNat : Int) % 4294967296 * 65536 % 4294967296)) ((c.toNat : Int) % 4294967296 * 256 % 4294967296)) ((d.toNat : Int) % 4294967296) = ((bigN [a, b, c, d] : Nat) : Int) := by
 have ha := a.toNat_lt
 have hb := b.toNat_lt
 have hc := c.toNat_lt
 have hd := d.toNat_lt
 have hk : ∀ m : Int, 0 ≤ m → m < 2 ^ 32 → IntKind.u32.wrap m = m := fun m h0 h1 => wraps_u32 m h0 (by omega)
 have h1 := bits_join .u32 32 (by decide) hk 24 ((a.toNat : Int) % 4294967296 * 16777216 % 4294967296) ((b.toNat : Int) % 4294967296 * 65536 % 4294967296) (by omega) (by omega) (by omega) (by omega) (by omega) (by omega)
 rw [h1]
 rw [bits_join .u32 32 (by decide) hk 16 _ ((c.toNat : Int) % 4294967296 * 256 % 4294967296) (by omega) (by omega) (by omega) (by omega) (by omega) (by omega)]
 rw [bits_join .u32 32 (by decide) hk 8 _ ((d.toNat : Int) % 4294967296) (by omega) (by omega) (by omega) (by omega) (by omega) (by omega)]
 simp only [bigN, List.foldl_cons, List.foldl_nil]
 omega
theorem getD_get {α : Type} (l : List α) (i : Nat) (d : α) (h : i < l.length) : l.getD i d = l[i] := by simp [List.getD, List.getElem?_eq_getElem h]
theorem wordB_of (b : List UInt8) (k : Nat) (h : 4 * k + 3 < b.length) : ((wordB b k).toNat : Int) = ((bigN [b[4 * k], b[4 * k + 1], b[4 * k + 2], b[4 * k + 3]] : Nat) : Int) := by
 rw [wordB_nat, wordN, getD_get b (4 * k) 0 (by omega), getD_get b (4 * k + 1) 0 (by omega), getD_get b (4 * k + 2) 0 (by omega), getD_get b (4 * k + 3) 0 h]
/-- the next word of the schedule, l the words so far -/
def nextW (b : List UInt8) (l : List UInt32) : UInt32 :=
 if l.length < 16 then wordB b l.length else sm1 (l.getD (l.length - 2) 0) + l.getD (l.length - 7) 0 + sm0 (l.getD (l.length - 15) 0) + l.getD (l.length - 16) 0
def sched (b : List UInt8) : Nat → List UInt32
 | 0 => []
 | n + 1 => sched b n ++ [nextW b (sched b n)]
theorem sched_length (b : List UInt8) (n : Nat) : (sched b n).length = n := by
 induction n with
 | zero => rfl
 | succ n ih => simp [sched, ih]
theorem sched_set (b : List UInt8) (k n : Nat) (x : UInt32) (hk : k < n) (hx : x = nextW b (sched b k)) : (sched b k ++ List.replicate (n - k) 0).set k x = sched b (k + 1) ++ List.replicate (n - (k + 1)) 0 := by
 subst hx
 rw [List.set_append_right _ _ (by rw [sched_length]; exact Nat.le_refl _), sched_length, Nat.sub_self, show n - k = (n - (k + 1)) + 1 by omega, List.replicate_succ, List.set_cons_zero, sched, List.append_assoc]
 rfl
theorem nextW_lo (b : List UInt8) (k : Nat) (h : k < 16) : nextW b (sched b k) = wordB b k := by
 rw [nextW, sched_length, if_pos h]
theorem nextW_hi (b : List UInt8) (k : Nat) (h : 16 ≤ k) : nextW b (sched b k) = sm1 ((sched b k).getD (k - 2) 0) + (sched b k).getD (k - 7) 0 + sm0 ((sched b k).getD (k - 15) 0) + (sched b k).getD (k - 16) 0 := by
 rw [nextW, sched_length, if_neg (by omega)]
def rnd (v : St) (k w : UInt32) : St :=
 ⟨v.h + bg1 v.e + chw v.e v.f v.g + k + w + (bg0 v.a + mjw v.a v.b v.c), v.a, v.b, v.c, v.d + (v.h + bg1 v.e + chw v.e v.f v.g + k + w), v.e, v.f, v.g⟩
def rounds (s : St) (w : List UInt32) : Nat → St
 | 0 => s
 | n + 1 => rnd (rounds s w n) (cK.getD n 0) (w.getD n 0)
def addSt (s v : St) : St := ⟨s.a + v.a, s.b + v.b, s.c + v.c, s.d + v.d, s.e + v.e, s.f + v.f, s.g + v.g, s.h + v.h⟩
def comp (s : St) (b : List UInt8) : St := addSt s (rounds s (sched b 64) 64)

/-! ### bytes -/
def start : St := ⟨0x6a09e667, 0xbb67ae85, 0x3c6ef372, 0xa54ff53a, 0x510e527f, 0x9b05688c, 0x1f83d9ab, 0x5be0cd19⟩
def blockAt (m : List UInt8) (n : Nat) : List UInt8 := (m.drop (64 * n)).take 64
def states (m : List UInt8) : Nat → St
 | 0 => start
 | n + 1 => comp (states m n) (blockAt m n)
def outB (s : St) : List UInt8 := s.list.flatMap fun x => bigB x.toNat 4
def zerosOf (n : Nat) : Nat := 63 - (n + 8) % 64
def padB (m : List UInt8) : List UInt8 := m ++ (128 :: List.replicate (zerosOf m.length) 0) ++ bigB (8 * m.length) 8
def sha (m : List UInt8) : List UInt8 := outB (states (padB m) ((padB m).length / 64))
theorem bigB_len4 (n : Nat) : (bigB n 4).length = 4 := bigB_length n 4
theorem outB_length (s : St) : (outB s).length = 32 := by
 simp [outB, St.list, bigB_length]
theorem sha_length (m : List UInt8) : (sha m).length = 32 := outB_length _

theorem blockAt_append (m p : List UInt8) (n : Nat) (h : 64 * n + 64 ≤ m.length) : blockAt (m ++ p) n = blockAt m n := by
 unfold blockAt
 rw [List.drop_append_of_le_length (by omega), List.take_append_of_le_length (by simp; omega)]
theorem states_append (m p : List UInt8) (n : Nat) (h : 64 * n ≤ m.length) : states (m ++ p) n = states m n := by
 induction n with
 | zero => rfl
 | succ n ih => rw [states, states, ih (by omega), blockAt_append m p n (by omega)]
theorem padB_length (m : List UInt8) : (padB m).length % 64 = 0 := by
 simp only [padB, List.length_append, List.length_cons, List.length_replicate, bigB_length, zerosOf]
 omega

/-! ### HMAC, HKDF -/
def keyB (k : List UInt8) : List UInt8 := let l := if 64 < k.length then sha k else k; l ++ List.replicate (64 - l.length) 0
def xorB (k : List UInt8) (c : UInt8) : List UInt8 := k.map (· ^^^ c)
def macB (k m : List UInt8) : List UInt8 := sha (xorB (keyB k) 0x5c ++ sha (xorB (keyB k) 0x36 ++ m))
/-- T(i) -/
def tB (prk info : List UInt8) : Nat → List UInt8
 | 0 => []
 | i + 1 => macB prk (tB prk info i ++ info ++ [UInt8.ofNat (i + 1)])
def okmB (prk info : List UInt8) : Nat → List UInt8
 | 0 => []
 | i + 1 => okmB prk info i ++ tB prk info (i + 1)
theorem macB_length (k m : List UInt8) : (macB k m).length = 32 := sha_length _
theorem tB_length (prk info : List UInt8) (i : Nat) : (tB prk info (i + 1)).length = 32 := macB_length _ _
theorem okmB_length (prk info : List UInt8) (i : Nat) : (okmB prk info i).length = 32 * i := by
 induction i with
 | zero => rfl
 | succ i ih => rw [okmB, List.length_append, ih, tB_length]; omega
def expB (prk info : List UInt8) (n : Nat) : List UInt8 := (okmB prk info ((n + 31) / 32)).take n
theorem okmB_take (prk info : List UInt8) (i j : Nat) (h : i ≤ j) : (okmB prk info j).take (32 * i) = okmB prk info i := by
 induction j with
 | zero =>
  obtain rfl : i = 0 := by omega
  rfl
 | succ j ih =>
  by_cases hij : i = j + 1
  ·subst hij
   rw [List.take_of_length_le (by rw [okmB_length]; omega)]
  ·rw [okmB, List.take_append_of_le_length (by rw [okmB_length]; omega), ih (by omega)]
theorem keyB_length (k : List UInt8) : (keyB k).length = 64 := by
 unfold keyB
 by_cases h : 64 < k.length
 ·simp [if_pos h, sha_length]
 ·simp [if_neg h]; omega

/-- the chapter's example -/
def abcSum : List UInt8 := [0xba, 0x78, 0x16, 0xbf, 0x8f, 0x01, 0xcf, 0xea, 0x41, 0x41, 0x40, 0xde, 0x5d, 0xae, 0x22, 0x23, 0xb0, 0x03, 0x61, 0xa3, 0x96, 0x17, 0x7a, 0x9c, 0xb4, 0x10, 0xff, 0x61, 0xf2, 0x00, 0x15, 0xad]
theorem sha_abc : sha [97, 98, 99] = abcSum := by decide +kernel
end Go.Proofs.YtbjpbeplpljieaaDoor

/-
 WALKS: the small functions on words: bits.RotateLeft32, sha2.right, small0, small1, sum0, sum1, choice, majority; the document's own rot.
-/
namespace Go.Proofs.YtbjpbeplpljieaaDoor
open Go.RowKit
set_option maxRecDepth 100000

/-- a word is handed back, nothing else has turned -/
def WordIs (w : World) (x : UInt32) (e : Ending) (w' : World) : Prop := e = .returned ((.int .u32 (x.toNat : Int))) ∧ w' = w

theorem and31 : ∀ n : Fin 32, 1 ≤ n.val → bits .and .u64 (IntKind.u64.wrap (-(n.val : Int))) 31 = 32 - (n.val : Int) := by decide +kernel
theorem neg31 (n : Nat) (h1 : 1 ≤ n) (h2 : n ≤ 31) : bits .and .u64 (IntKind.u64.wrap (-(n : Int))) 31 = ((32 - n : Nat) : Int) := by
 have := and31 ⟨n, by omega⟩ h1
 simp only at this
 rw [this]
 omega

end Go.Proofs.YtbjpbeplpljieaaDoor

/-
 ROWS OF MEMORY: a block that holds just a list of cells; words as cells; a whole array read and written; what turns but one block.
-/
namespace Go.Proofs.YtbjpbeplpljieaaDoor
open Go.RowKit
set_option maxRecDepth 100000

def wordCells (l : List UInt32) : List Value := l.map fun x => .int .u32 (x.toNat : Int)
theorem wordCells_length (l : List UInt32) : (wordCells l).length = l.length := by simp [wordCells]
theorem wordCells_get (l : List UInt32) (k : Nat) (h : k < l.length) : (wordCells l)[k]? = some (.int .u32 (l[k].toNat : Int)) := by
 simp [wordCells, List.getElem?_eq_getElem h]
theorem wordCells_set (l : List UInt32) (k : Nat) (x : UInt32) : (wordCells l).set k (.int .u32 (x.toNat : Int)) = wordCells (l.set k x) := by
 simp [wordCells, List.map_set]
theorem cell_oneWord (l : List UInt32) : ∀ u ∈ wordCells l, u.oneCell' = true := by
 intro u hu
 simp only [wordCells, List.mem_map] at hu
 obtain ⟨b, _, rfl⟩ := hu
 rfl

theorem zero64w : (#[.int .u32 0, .int .u32 0, .int .u32 0, .int .u32 0, .int .u32 0, .int .u32 0, .int .u32 0, .int .u32 0, .int .u32 0, .int .u32 0, .int .u32 0, .int .u32 0, .int .u32 0, .int .u32 0, .int .u32 0, .int .u32 0, .int .u32 0, .int .u32 0, .int .u32 0, .int .u32 0, .int .u32 0, .int .u32 0, .int .u32 0, .int .u32 0, .int .u32 0, .int .u32 0, .int .u32 0, .int .u32 0, .int .u32 0, .int .u32 0, .int .u32 0, .int .u32 0, .int .u32 0, .int .u32 0, .int .u32 0, .int .u32 0, .int .u32 0, .int .u32 0, .int .u32 0, .int .u32 0, .int .u32 0, .int .u32 0, .int .u32 0, .int .u32 0, .int .u32 0, .int .u32 0, .int .u32 0, .int .u32 0, .int .u32 0, .int .u32 0, .int .u32 0, .int .u32 0, .int .u32 0, .int .u32 0, .int .u32 0, .int .u32 0, .int .u32 0, .int .u32 0, .int .u32 0, .int .u32 0, .int .u32 0, .int .u32 0, .int .u32 0, .int .u32 0] : Array Value) = (wordCells (List.replicate 64 0)).toArray := by rfl
theorem zero64b : (#[.int .u8 0, .int .u8 0, .int .u8 0, .int .u8 0, .int .u8 0, .int .u8 0, .int .u8 0, .int .u8 0, .int .u8 0, .int .u8 0, .int .u8 0, .int .u8 0, .int .u8 0, .int .u8 0, .int .u8 0, .int .u8 0, .int .u8 0, .int .u8 0, .int .u8 0, .int .u8 0, .int .u8 0, .int .u8 0, .int .u8 0, .int .u8 0, .int .u8 0, .int .u8 0, .int .u8 0, .int .u8 0, .int .u8 0, .int .u8 0, .int .u8 0, .int .u8 0, .int .u8 0, .int .u8 0, .int .u8 0, .int .u8 0, .int .u8 0, .int .u8 0, .int .u8 0, .int .u8 0, .int .u8 0, .int .u8 0, .int .u8 0, .int .u8 0, .int .u8 0, .int .u8 0, .int .u8 0, .int .u8 0, .int .u8 0, .int .u8 0, .int .u8 0, .int .u8 0, .int .u8 0, .int .u8 0, .int .u8 0, .int .u8 0, .int .u8 0, .int .u8 0, .int .u8 0, .int .u8 0, .int .u8 0, .int .u8 0, .int .u8 0, .int .u8 0] : Array Value) = (Lib.byteCells (List.replicate 64 0)).toArray := by rfl
theorem zero32b : (#[.int .u8 0, .int .u8 0, .int .u8 0, .int .u8 0, .int .u8 0, .int .u8 0, .int .u8 0, .int .u8 0, .int .u8 0, .int .u8 0, .int .u8 0, .int .u8 0, .int .u8 0, .int .u8 0, .int .u8 0, .int .u8 0, .int .u8 0, .int .u8 0, .int .u8 0, .int .u8 0, .int .u8 0, .int .u8 0, .int .u8 0, .int .u8 0, .int .u8 0, .int .u8 0, .int .u8 0, .int .u8 0, .int .u8 0, .int .u8 0, .int .u8 0, .int .u8 0] : Array Value) = (Lib.byteCells (List.replicate 32 0)).toArray := by rfl
theorem zero24b : (#[.int .u8 0, .int .u8 0, .int .u8 0, .int .u8 0, .int .u8 0, .int .u8 0, .int .u8 0, .int .u8 0, .int .u8 0, .int .u8 0, .int .u8 0, .int .u8 0, .int .u8 0, .int .u8 0, .int .u8 0, .int .u8 0, .int .u8 0, .int .u8 0, .int .u8 0, .int .u8 0, .int .u8 0, .int .u8 0, .int .u8 0, .int .u8 0] : Array Value) = (Lib.byteCells (List.replicate 24 0)).toArray := by rfl
theorem zero8w : (#[.int .u32 0, .int .u32 0, .int .u32 0, .int .u32 0, .int .u32 0, .int .u32 0, .int .u32 0, .int .u32 0] : Array Value) = (wordCells (List.replicate 8 0)).toArray := by rfl
/-- block g holds just the cells cs -/
def Row (w : World) (g : Nat) (T : TypeId) (cs : List Value) : Prop := w.heap[g]? = some (.cells cs.toArray T (0, 0))
section
variable {w w' : World} {g B : Nat} {T : TypeId} {cs : List Value}
theorem Row.lt (h : Row w g T cs) : g < w.heap.size := (Array.getElem?_eq_some_iff.1 h).1
theorem Row.cell (h : Row w g T cs) (k : Nat) : w.cell? ⟨g, k, none⟩ = cs[k]? := by
 rw [cell_of_row w g k cs.toArray T (0, 0) h]; simp
theorem Row.free (h : Row w g T cs) (k : Nat) : w.frozen? ⟨g, k, none⟩ = false := frozen_of_row w g k cs.toArray T h
theorem Row.drew (h : Row w g T cs) : Row w.drew g T cs := h
theorem Row.set_ (h : Row w g T cs) (k : Nat) (v : Value) : Row (w.setCell ⟨g, k, none⟩ v) g T (cs.set k v) := by
 unfold Row
 rw [heap_setCell_same w g k cs.toArray T v h]
 simp
theorem Row.below (h : Row w g T cs) (hb : Below B w w') (hg : g < B) : Row w' g T cs := (hb.block g hg).trans h
theorem Row.other (h : Row w g T cs) (a : Addr) (v : Value) (hne : g ≠ a.block) : Row (w.setCell a v) g T cs := (heap_setCell_other w a g v hne).trans h
theorem Row.beside (h : Row w g T cs) {j k : Nat} {v : Value} (hne : g ≠ j) : Row (w.setCell ⟨j, k, none⟩ v).drew g T cs := h.other ⟨j, k, none⟩ v hne
theorem below_set2 {a : World} (h : Below B a w) {j k : Nat} {v : Value} (hj : B ≤ j) : Below B a (w.setCell ⟨j, k, none⟩ v).drew := (h.setCell (p := ⟨j, k, none⟩) hj v).drew
theorem size_set2 {j k : Nat} {v : Value} : (w.setCell ⟨j, k, none⟩ v).drew.heap.size = w.heap.size := by
 show (w.setCell _ v).heap.size = _
 simp [World.setCell]
theorem Row.setRow (h : Row w g T cs) (ds : List Value) : Row (w.setRow g ds.toArray) g T ds := setRow_heap w g _ _ T (0, 0) h
theorem Row.setRow_other {k : Nat} {ds : Array Value} (h : Row w g T cs) (hne : g ≠ k) : Row (w.setRow k ds) g T cs := (Go.setRow_other w k g ds hne).trans h
theorem below_setRow {a : World} {k : Nat} {ds : Array Value} (h : Below B a w) (hk : B ≤ k) : Below B a (w.setRow k ds) :=
 ⟨h.os, h.tape, h.output, Nat.le_trans h.size (by simp), fun i hi => (Go.setRow_other w k i ds (by omega)).trans (h.block i hi)⟩
/-- the result that lies in a variable of its own -/
theorem ret_row {P : Program} {f : Func} {a : Act} {p : Tmp} {ty : TypeId} {d : TypeDesc} {post : Ending → World → Prop} (hf : f.results = #[.cell p ty]) (hdf : a.defers = []) (hp : a.tmps.getD p undef = .pointer (some ⟨g, 0, none⟩)) (hr : Row w g T cs)
  (hu : P.underlying ty = some d) (hd : (match d with | .struct _ | .array _ _ => true | _ => false) = true) (hi : (P.info? ty).map (·.size) = some cs.length) (h : post (.returned (.agg cs.toArray)) w) : bodyPost P f post .ret a w :=
 bodyPost_ret (v := .agg cs.toArray) (results_cell_row hf _ _ g T _ (0, 0) d hp hr hu hd (by simpa using hi)) hdf h
theorem Row.new (w : World) (T : TypeId) (cs : List Value) : Row (w.alloc (.cells cs.toArray T)) w.heap.size T cs := heap_alloc_new w _
theorem asz (w : World) (o : Obj) : (w.alloc o).heap.size = w.heap.size + 1 := by
 show (w.heap.push o).size = _
 simp
theorem Row.new_ {arr : Array Value} (hg : g = w.heap.size) (ha : arr = cs.toArray) : Row (w.alloc (.cells arr T)) g T cs := by
 subst hg; subst ha; exact Row.new w T cs
theorem Row.alloc (h : Row w g T cs) (o : Obj) : Row (w.alloc o) g T cs := (Below.heap_alloc w o g h.lt).trans h
theorem Row.range (h : Row w g T cs) : w.rangeAt g 0 cs := fun j v hv => by
 rw [Nat.zero_add, h.cell j]; exact hv
theorem Row.mid (h : Row w g T cs) (o n : Nat) : w.rangeAt g o ((cs.drop o).take n) := fun j v hv => by
 rw [h.cell (o + j)]
 have hj : j < n := by
  by_cases hj : j < n
  ·exact hj
  ·rw [List.getElem?_eq_none (by simp; omega)] at hv; cases hv
 rw [List.getElem?_take_of_lt hj, List.getElem?_drop] at hv
 exact hv
theorem Row.there (h : Row w g T cs) (o n : Nat) (hn : o + n ≤ cs.length) : w.there g o n := fun j hj => by
 refine ⟨?_, h.free _⟩
 rw [h.cell (o + j), List.getElem?_eq_getElem (by omega)]
 rfl
/-- cells laid over a row from place o on -/
def over (cs : List Value) : Nat → List Value → List Value
 | _, [] => cs
 | o, v :: r => over (cs.set o v) (o + 1) r
theorem Row.setCells (vs : List Value) : ∀ {w : World} {cs : List Value} (o : Nat), Row w g T cs → Row (w.setCells g o vs) g T (over cs o vs) := by
 induction vs with
 | nil => intro w cs o h; exact h
 | cons v r ih => intro w cs o h; exact ih (o + 1) (h.set_ o v)
theorem over_eq (vs : List Value) : ∀ (cs : List Value) (o : Nat), o + vs.length ≤ cs.length → over cs o vs = cs.take o ++ vs ++ cs.drop (o + vs.length) := by
 induction vs with
 | nil => intro cs o h; simp [over]
 | cons v r ih =>
  intro cs o h
  simp only [List.length_cons] at h
  rw [over, ih _ _ (by simp; omega)]
  have h1 : (cs.set o v).take (o + 1) = cs.take o ++ [v] := by
   rw [List.take_succ_eq_append_getElem (by simp; omega), List.take_set_of_le (Nat.le_refl _)]
   simp
  have h2 : (cs.set o v).drop (o + 1 + r.length) = cs.drop (o + (v :: r).length) := by
   rw [List.drop_set_of_lt (by omega)]
   simp only [List.length_cons]
   rw [show o + 1 + r.length = o + (r.length + 1) by omega]
  rw [h1, h2]
  simp
end

theorem cell_set_other {w : World} {g j k : Nat} {v u : Value} (h : w.cell? ⟨g, j, none⟩ = some v) (hne : ¬ j = k) : ((w.setCell ⟨g, k, none⟩ u).drew).cell? ⟨g, j, none⟩ = some v :=
 (World.cell?_setCell_other w ⟨g, k, none⟩ ⟨g, j, none⟩ u (by intro e; cases e; exact hne rfl)).trans h

/-- everything below B but block g is as it was -/
structure But (B g : Nat) (w w' : World) : Prop where
 os : w'.os = w.os
 tape : w'.tape = w.tape
 output : w'.output = w.output
 size : w.heap.size ≤ w'.heap.size
 block : ∀ k, k < B → k ≠ g → w'.heap[k]? = w.heap[k]?
section
variable {w w' a b c : World} {g B B' : Nat} {T : TypeId} {cs : List Value}
theorem But.refl (B g : Nat) (w : World) : But B g w w := ⟨rfl, rfl, rfl, Nat.le_refl _, fun _ _ _ => rfl⟩
theorem But.trans (h : But B g a b) (k : But B g b c) : But B g a c :=
 ⟨k.os.trans h.os, k.tape.trans h.tape, k.output.trans h.output, Nat.le_trans h.size k.size, fun i hi hg => (k.block i hi hg).trans (h.block i hi hg)⟩
theorem But.of (h : Below B a b) (g : Nat) : But B g a b := ⟨h.os, h.tape, h.output, h.size, fun i hi _ => h.block i hi⟩
theorem But.mono (h : But B g a b) (hB : B' ≤ B) : But B' g a b := ⟨h.os, h.tape, h.output, h.size, fun i hi hg => h.block i (by omega) hg⟩
theorem But.under (h : But B g a b) (hB : B' ≤ B) (hg : B' ≤ g) : Below B' a b := ⟨h.os, h.tape, h.output, h.size, fun i hi => h.block i (by omega) (by omega)⟩
theorem But.chain {w₀ w₁ w₂ : World} (h : But w₀.heap.size g w₀ w₁) (k : But w₁.heap.size g w₁ w₂) : But w₀.heap.size g w₀ w₂ := h.trans (k.mono h.size)
theorem But.cell (h : But B g a b) {p : Addr} (hp : p.block < B) (hg : p.block ≠ g) : b.cell? p = a.cell? p := World.cell?_of_block (w := a) (h.block p.block hp hg)
theorem But.row (h : But B g a b) (hr : Row a B' T cs) (hp : B' < B) (hg : B' ≠ g) : Row b B' T cs := (h.block B' hp hg).trans hr
theorem But.setCell (h : But B g a b) (o : Nat) (v : Value) : But B g a (b.setCell ⟨g, o, none⟩ v) :=
 ⟨h.os, h.tape, h.output, Nat.le_trans h.size (by simp [World.setCell]), fun i hi hg => (heap_setCell_other b ⟨g, o, none⟩ i v hg).trans (h.block i hi hg)⟩
theorem But.drew (h : But B g a b) : But B g a b.drew := ⟨h.os, h.tape, h.output, h.size, h.block⟩
theorem But.setCells (vs : List Value) : ∀ {b : World} (o : Nat), But B g a b → But B g a (b.setCells g o vs) := by
 induction vs with
 | nil => intro b o h; exact h
 | cons v r ih => intro b o h; exact ih (o + 1) (h.setCell o v)

/-- a slice that does not lie in block g -/
def Off (g : Nat) (v : Value) : Prop := ∀ (x : Addr) l c, v = .slice (some x) l c → 0 < l → x.block ≠ g
theorem Sl.but {v : Value} {bs : List UInt8} (h : Sl w B v bs) (ho : Off g v) (hb : But B g w w') : Sl w' B v bs := by
 obtain ⟨A, c, hv, h1, h2, hc⟩ := h
 refine ⟨A, c, hv, h1, h2, fun hn => ?_⟩
 obtain ⟨b, off, hA, hbb, hr⟩ := hc hn
 have hne : b ≠ g := ho ⟨b, off, none⟩ bs.length c (hv.trans (by rw [hA])) hn
 exact ⟨b, off, hA, hbb, fun k hk => (hb.cell (p := ⟨b, off + k, none⟩) hbb hne).trans (hr k hk)⟩
theorem Sl.off {v : Value} {bs : List UInt8} (h : Sl w B v bs) (hB : B ≤ g) : Off g v := by
 obtain ⟨A, c, hv, h1, h2, hc⟩ := h
 intro x l c' hx hl
 rw [hv] at hx
 cases hx
 obtain ⟨b, off, hA, hbb, hr⟩ := hc hl
 cases hA
 show b ≠ g
 omega
theorem Off.nil_ : Off g (.slice none 0 0) := fun x l c h => by cases h
theorem Off.at_ {b o l c : Nat} (h : b ≠ g) : Off g (.slice (some ⟨b, o, none⟩) l c) := fun x l' c' hx _ => by cases hx; exact h
end
end Go.Proofs.YtbjpbeplpljieaaDoor

/-
 WALK: sha2.schedule.
-/
namespace Go.Proofs.YtbjpbeplpljieaaDoor
open Go.RowKit
set_option maxRecDepth 100000

theorem zeros64 : (#[.int .u32 0, .int .u32 0, .int .u32 0, .int .u32 0] : Array Value) = (wordCells (List.replicate 4 0)).toArray := by rfl

end Go.Proofs.YtbjpbeplpljieaaDoor

/-
 THE TABLE OF CONSTANTS: what the row's list gives the walks; sums of two rows of words, cell by cell.
-/
namespace Go.Proofs.YtbjpbeplpljieaaDoor
open Go.RowKit
set_option maxRecDepth 100000

section
variable {w w' : World} {g : Nat}
end

/-- the first k words of l have got those of m added -/
def addL (l m : List UInt32) (k : Nat) : List UInt32 := (List.zipWith (· + ·) l m).take k ++ l.drop k
theorem addL_zero (l m : List UInt32) : addL l m 0 = l := by simp [addL]
theorem addL_length (l m : List UInt32) (k : Nat) (h : l.length = m.length) (hk : k ≤ l.length) : (addL l m k).length = l.length := by
 simp [addL]; omega
theorem addL_get (l m : List UInt32) (k : Nat) (h : l.length = m.length) (hk : k < l.length) : (addL l m k)[k]? = some (l[k]) := by
 have h1 : ((List.zipWith (· + ·) l m).take k).length = k := by simp; omega
 rw [addL, List.getElem?_append_right (by omega), h1, Nat.sub_self, List.getElem?_drop, Nat.add_zero, List.getElem?_eq_getElem hk]
theorem addL_step (l m : List UInt32) (k : Nat) (h : l.length = m.length) (hk : k < l.length) : (addL l m k).set k (l[k] + m[k]'(by omega)) = addL l m (k + 1) := by
 have h1 : ((List.zipWith (· + ·) l m).take k).length = k := by simp; omega
 have h2 : l.drop k = l[k] :: l.drop (k + 1) := List.drop_eq_getElem_cons hk
 rw [addL, List.set_append_right _ _ (by omega), h1, Nat.sub_self, h2, List.set_cons_zero, addL, List.take_succ_eq_append_getElem (by simp; omega), List.append_assoc]
 simp
theorem addL_all (s v : St) : addL s.list v.list 8 = (addSt s v).list := rfl
theorem wordCells_arr_get (l : List UInt32) (k : Nat) (h : k < l.length) : (wordCells l).toArray[k]? = some (.int .u32 (l[k].toNat : Int)) := by
 simp [wordCells, List.getElem?_eq_getElem h]
theorem info_b64 : (Tryd.prog.info? 59).map (·.size) = some 64 := by kernel_rfl
theorem info_b32 : (Tryd.prog.info? 22).map (·.size) = some 32 := by kernel_rfl
/-- a whole array is stored into a row: the world behind it under a name of its own -/
theorem wpList_store_any {P : Program} {ops : Array Oper} {rest : List Oper} {o : Oper} {a : Act} {w : World} {Q : Exit → Act → World → Prop} (hgd : o.guard = none) (ty : TypeId) (x y : Operand) (ho : o.op = .store ty x y)
  (g : Nat) (hx : a.eval x = .pointer (some ⟨g, 0, none⟩)) (ds : List Value) (hy : a.eval y = .agg ds.toArray)
  (t : TypeId) (cs : List Value) (hr : Row w g t cs) (hi : (P.info? ty).map (·.size) = some ds.length)
  (hold : cs.length = ds.length) (h1 : ∀ u ∈ ds, u.oneCell' = true)
  (h : ∀ w2, Row w2 g t ds → But w.heap.size g w w2 → w2.heap.size = w.heap.size → wpList P ops Q rest (a.put o.dst undef) w2) : wpList P ops Q (o :: rest) a w :=
 wpList_store_row hgd ty x y ho g ds.toArray hx hy t cs.toArray hr (by simpa using hi) (by simpa using hold) (all_oneCell_toArray h1)
  (h _ (hr.setRow ds) ⟨rfl, rfl, rfl, Nat.le_of_eq (by simp), fun k _ hk => Go.setRow_other w g k _ hk⟩ (by simp))
theorem wpList_load_any {P : Program} {ops : Array Oper} {rest : List Oper} {o : Oper} {a : Act} {w : World} {Q : Exit → Act → World → Prop} (hgd : o.guard = none) (ty : TypeId) (x : Operand) (ho : o.op = .load ty x)
  (g : Nat) (hx : a.eval x = .pointer (some ⟨g, 0, none⟩)) (t : TypeId) (cs : List Value) (d : TypeDesc) (hr : Row w g t cs)
  (hu : P.underlying ty = some d) (hd : (match d with | .struct _ | .array _ _ => true | _ => false) = true) (hi : (P.info? ty).map (·.size) = some cs.length)
  (h : wpList P ops Q rest (a.put o.dst (.agg cs.toArray)) w) : wpList P ops Q (o :: rest) a w :=
 wpList_load_row hgd ty x ho g hx t cs.toArray (0, 0) d hr hu hd (by simpa using hi) h
theorem size_words (n : Nat) (l : List UInt32) (h : l.length = n) : some n = some (wordCells l).length := by rw [wordCells_length, h]
theorem size_bytes (n : Nat) (l : List UInt8) (h : l.length = n) : some n = some (Lib.byteCells l).length := by rw [Lib.byteCells_length, h]
/-- an array of words is handed back; nothing that was there has turned -/
def StIs (w : World) (s : St) (e : Ending) (w' : World) : Prop := e = .returned (.agg (wordCells s.list).toArray) ∧ Below w.heap.size w w'
end Go.Proofs.YtbjpbeplpljieaaDoor

/-
 WALK: sha2.Compress.
-/
namespace Go.Proofs.YtbjpbeplpljieaaDoor
open Go.RowKit
set_option maxRecDepth 100000

end Go.Proofs.YtbjpbeplpljieaaDoor

/-
 STEPS BY HAND in a region that draws its order, under a condition on the world: a load of a whole row, a value, a call that is alone.
-/
namespace Go.Proofs.YtbjpbeplpljieaaDoor
open Go.RowKit
set_option maxRecDepth 100000
theorem arr9 {α : Type} (l : List α) (i : Nat) (a : α) : l.toArray.setIfInBounds i a = (l.set i a).toArray := List.setIfInBounds_toArray ..
theorem hd9 {α : Type} (a b : α) (l : List α) : (a :: l).set 0 b = b :: l := rfl
theorem tl9 {α : Type} (a b : α) (l : List α) (i : Nat) : (a :: l).set (i + 1) b = a :: l.set i b := rfl
section
variable {P : Program} {md : Region.Mode} {ops : Array Oper} {Q : Exit → Act → World → Prop} {S : World → Prop} {fuel : Nat} {listed : Array Bool} {a : Act} {w : World}

/-- what may be taken first: the closed looks -/
def mayTake (md : Region.Mode) (ops : Array Oper) (listed : Array Bool) (i : Nat) : Bool := Region.noSelect ops && Region.free md ops listed i && (Region.ready md ops listed).contains i

theorem held_load (i : Nat) (ty : TypeId) (x : Operand) (dst : Option Tmp) (hside : mayTake md ops listed i = true)
  (hop : (ops[i]?).map (fun o => (o.op, o.dst)) = some (.load ty x, dst)) (hw : (ops[i]?).map (fun o => Region.wanted o (yielded ops a.tmps)) = some true)
  (b o : Nat) (hx : a.eval x = .pointer (some ⟨b, o, none⟩)) (cs : List Value) (d : TypeDesc) (hS : ∀ w, S w → w.rangeAt b o cs)
  (hu : P.underlying ty = some d) (hd : d.isRow = true) (hi : (P.info? ty).map (·.size) = some cs.length)
  (hQ : ∀ c a v w, Q (.panic c) (a.put dst v) w → Q (.panic c) a w) (hSw : S w)
  (h : wpAnyH P md ops Q S fuel (listed.setIfInBounds i true) (a.put dst (.agg cs.toArray)) w) : wpAnyH P md ops Q S (fuel + 1) listed a w := by
 cases ho : ops[i]? with
 | none => rw [ho] at hop; cases hop
 | some op =>
  rw [ho] at hop hw
  simp only [Option.map_some, Option.some.injEq, Prod.mk.injEq] at hop hw
  obtain ⟨h1, h2⟩ := hop
  simp only [mayTake, Bool.and_eq_true] at hside
  subst h2
  exact wpAnyH_take ho hside.1.1 hside.1.2 hside.2 (fun c a w => hQ c a _ w) (yieldsIf_load_mid hw ty x h1 b o hx cs d hS hu hd hi) hSw h

theorem held_value (i : Nat) (opv : Op) (ty : TypeId) (dst : Option Tmp) (v : Value) (hside : mayTake md ops listed i = true)
  (hop : (ops[i]?).map (fun o => (o.op, o.type, o.dst)) = some (opv, ty, dst)) (hw : (ops[i]?).map (fun o => Region.wanted o (yielded ops a.tmps)) = some true)
  (hrun : ∀ w, S w → (execOp a.eval ⟨dst, opv, ty, "", #[], none⟩).run P w = .ok (.value v) w)
  (hQ : ∀ c a v w, Q (.panic c) (a.put dst v) w → Q (.panic c) a w) (hSw : S w)
  (h : wpAnyH P md ops Q S fuel (listed.setIfInBounds i true) (a.put dst v) w) : wpAnyH P md ops Q S (fuel + 1) listed a w := by
 cases ho : ops[i]? with
 | none => rw [ho] at hop; cases hop
 | some op =>
  rw [ho] at hop hw
  simp only [Option.map_some, Option.some.injEq, Prod.mk.injEq] at hop hw
  simp only [mayTake, Bool.and_eq_true] at hside
  obtain ⟨dst', op', ty', pos', after', guard'⟩ := op
  obtain ⟨rfl, rfl, rfl⟩ := hop
  refine wpAnyH_take ho hside.1.1 hside.1.2 hside.2 (fun c a w => hQ c a _ w) (.inl ⟨hw, fun w hw' => ?_⟩) hSw h
  rw [← hrun w hw']
  unfold execOp
  rfl

theorem hdv0 (i : Nat) (dst : Tmp) (v : Value) {opv : Op} {ty : TypeId} {L2 : Array Bool} {a2 : Act} (hop : (ops[i]?).map (fun o => (o.op, o.type, o.dst)) = some (opv, ty, some dst))
 (hSw : S w) (h : wpAnyH P md ops Q S fuel L2 a2 w)
 (hL : listed.setIfInBounds i true = L2 := by ((try simp only [arr9, hd9, tl9]); rfl)) (ha : a.put (some dst) v = a2 := by ((try simp only [Act.put, arr9, hd9, tl9]); rfl))
 (hrun : ∀ w, S w → (execOp a.eval ⟨some dst, opv, ty, "", #[], none⟩).run P w = .ok (.value v) w := by intro w hS; first | kernel_rfl | go_simp)
 (hside : mayTake md ops listed i = true := by kernel_rfl) (hw : (ops[i]?).map (fun o => Region.wanted o (yielded ops a.tmps)) = some true := by kernel_rfl)
 (hQ : ∀ c a v w, Q (.panic c) (a.put (some dst) v) w → Q (.panic c) a w := by exact fun _ _ _ _ h => h) : wpAnyH P md ops Q S (fuel + 1) listed a w := held_value i opv ty (some dst) v hside hop hw hrun hQ hSw (by subst hL; subst ha; exact h)
theorem hdv (i : Nat) (dst : Tmp) (v : Value) {opv : Op} {ty : TypeId} {L2 : Array Bool} {a2 : Act} (hop : (ops[i]?).map (fun o => (o.op, o.type, o.dst)) = some (opv, ty, some dst))
 (hrun : ∀ w, S w → (execOp a.eval ⟨some dst, opv, ty, "", #[], none⟩).run P w = .ok (.value v) w) (hSw : S w) (h : wpAnyH P md ops Q S fuel L2 a2 w)
 (hL : listed.setIfInBounds i true = L2 := by ((try simp only [arr9, hd9, tl9]); rfl)) (ha : a.put (some dst) v = a2 := by ((try simp only [Act.put, arr9, hd9, tl9]); rfl))
 (hside : mayTake md ops listed i = true := by kernel_rfl) (hw : (ops[i]?).map (fun o => Region.wanted o (yielded ops a.tmps)) = some true := by kernel_rfl)
 (hQ : ∀ c a v w, Q (.panic c) (a.put (some dst) v) w → Q (.panic c) a w := by exact fun _ _ _ _ h => h) : wpAnyH P md ops Q S (fuel + 1) listed a w := hdv0 i dst v hop hSw h hL ha hrun hside hw hQ

/-- a call that alone may come up -/
theorem held_call (i : Nat) (opv : Op) (ty : TypeId) (dst : Option Tmp) (f : FuncId) (args : Array Value) (hr : Region.ready md ops listed = [i])
  (hop : (ops[i]?).map (fun o => (o.op, o.type, o.dst)) = some (opv, ty, dst)) (hw : (ops[i]?).map (fun o => Region.wanted o (yielded ops a.tmps)) = some true)
  (hrun : (execOp a.eval ⟨dst, opv, ty, "", #[], none⟩).run P w = .ok (.enter f args) w)
  (hc : Calls P f args w fun e w' => ∃ v, e = .returned v ∧ S w' ∧ wpAnyH P md ops Q S fuel (listed.setIfInBounds i true) (a.put dst v) w') : wpAnyH P md ops Q S (fuel + 1) listed a w := by
 refine wpAnyH_ready hr (by simp) ?_
 cases ho : ops[i]? with
 | none => rw [ho] at hop; cases hop
 | some op =>
  rw [ho] at hop hw
  simp only [Option.map_some, Option.some.injEq, Prod.mk.injEq] at hop hw
  obtain ⟨dst', op', ty', pos', after', guard'⟩ := op
  obtain ⟨rfl, rfl, rfl⟩ := hop
  refine AllReadyH.cons ho (fun K hK => ?_) AllReadyH.nil
  rw [if_pos hw]
  have hrun' : (execOp a.eval ⟨dst', op', ty', pos', after', guard'⟩).run P w = .ok (.enter f args) w := by
   rw [← hrun]
   unfold execOp
   rfl
  unfold Oper.wp
  rw [hrun', Oper.upon_enter]
  refine hc.mono fun e w' he => ?_
  obtain ⟨v, rfl, h1, h2⟩ := he
  exact hK.out _ _ h1 fun _ => h2

/-- '==' of two arrays -/
theorem run_eql_agg {x y : Operand} {ρ : Operand → Value} {p q : Array Value} {T U ty : TypeId} {d : Option Tmp} {r : Bool} (hg : P.eqGuardType P.depth T = false) (heq : (Op.equalIn 10000 T (.agg p) (.agg q)).run P w = .ok r w) (hx : ρ x = .agg p) (hy : ρ y = .agg q) :
  (execOp ρ ⟨d, .binOp .eql T x y U, ty, "", #[], none⟩).run P w = .ok (.value (.bool r)) w := by
 have hbin : (binOp .eql T (.agg p) (.agg q)).run P w = .ok (.bool r) w := by
  have e : binOp .eql T (.agg p) (.agg q) = (do pure (.bool (← Op.equal T (.agg p) (.agg q)))) := by rfl
  have e2 : Op.equal T (.agg p) (.agg q) = Op.equalIn 10000 T (.agg p) (.agg q) := by rfl
  rw [e, e2, Sem.run_bind, heq]
  rfl
 have hgd : (eqGuard .eql T x y (.agg p) (.agg q)).run P w = .ok () w := by
  unfold eqGuard
  simp [go_sem, hg]
 unfold execOp
 simp only [hx, hy, Sem.run_bind, hgd, hbin, Result.andThen_ok]
 rfl
/-- s[:j] -/
theorem run_slice_op {t ty : TypeId} {x hi : Operand} {ρ : Operand → Value} {u v h : Value} {d : Option Tmp} (hx : ρ x = u ∧ ρ hi = h) (hrun : (Instr.sliceAt t u none (some h) none).run P w = .ok v w) :
  (execOp ρ ⟨d, .slice t x none (some hi) none, ty, "", #[], none⟩).run P w = .ok (.value v) w := by
 obtain ⟨rfl, rfl⟩ := hx
 unfold execOp
 simp only [Option.map_some, Option.map_none, Sem.run_bind, hrun, Result.andThen_ok]
 rfl
/-- s[i:] -/
theorem run_slice_op_lo {t ty : TypeId} {x lo : Operand} {ρ : Operand → Value} {u v h : Value} {d : Option Tmp} (hx : ρ x = u ∧ ρ lo = h) (hrun : (Instr.sliceAt t u (some h) none none).run P w = .ok v w) :
  (execOp ρ ⟨d, .slice t x (some lo) none none, ty, "", #[], none⟩).run P w = .ok (.value v) w := by
 obtain ⟨rfl, rfl⟩ := hx
 unfold execOp
 simp only [Option.map_some, Option.map_none, Sem.run_bind, hrun, Result.andThen_ok]
 rfl
/-- one operation that may come up now, carried out; S is shown anew behind it -/
def HStep (P : Program) (md : Region.Mode) (ops : Array Oper) (Q : Exit → Act → World → Prop) (S : World → Prop) (fuel : Nat) (listed : Array Bool) (a : Act) (w : World) (i : Nat) : Prop :=
 wpOp P ops Q i (fun a' w' => S w' ∧ wpAnyH P md ops Q S fuel (listed.setIfInBounds i true) a' w') a w
theorem held_one (i : Nat) (hr : Region.ready md ops listed = [i]) (h : HStep P md ops Q S fuel listed a w i) : wpAnyH P md ops Q S (fuel + 1) listed a w :=
 wpAnyH_all hr (by simp) fun j hj => by
  simp only [List.mem_cons, List.not_mem_nil, or_false] at hj
  subst hj; exact h
theorem held_two (i j : Nat) (hr : Region.ready md ops listed = [i, j]) (h1 : HStep P md ops Q S fuel listed a w i) (h2 : HStep P md ops Q S fuel listed a w j) : wpAnyH P md ops Q S (fuel + 1) listed a w :=
 wpAnyH_all hr (by simp) fun k hk => by
  simp only [List.mem_cons, List.not_mem_nil, or_false] at hk
  rcases hk with rfl | rfl
  ·exact h1
  ·exact h2
theorem step_value (i : Nat) (opv : Op) (ty : TypeId) (dst : Option Tmp) (v : Value) (w' : World)
  (hop : (ops[i]?).map (fun o => (o.op, o.type, o.dst)) = some (opv, ty, dst)) (hw : (ops[i]?).map (fun o => Region.wanted o (yielded ops a.tmps)) = some true)
  (hrun : (execOp a.eval ⟨dst, opv, ty, "", #[], none⟩).run P w = .ok (.value v) w') (hS : S w')
  (h : wpAnyH P md ops Q S fuel (listed.setIfInBounds i true) (a.put dst v) w') : HStep P md ops Q S fuel listed a w i := by
 unfold HStep
 cases ho : ops[i]? with
 | none => rw [ho] at hop; cases hop
 | some op =>
  rw [ho] at hop hw
  simp only [Option.map_some, Option.some.injEq, Prod.mk.injEq] at hop hw
  obtain ⟨dst', op', ty', pos', after', guard'⟩ := op
  obtain ⟨rfl, rfl, rfl⟩ := hop
  have hrun' : (execOp a.eval ⟨dst', op', ty', pos', after', guard'⟩).run P w = .ok (.value v) w' := by
   rw [← hrun]
   unfold execOp
   rfl
  refine wpOp_step ho fun K' hK => ?_
  rw [if_pos hw]
  unfold Oper.wp
  rw [hrun']
  exact hK _ _ ⟨hS, h⟩
theorem step_call (i : Nat) (opv : Op) (ty : TypeId) (dst : Option Tmp) (f : FuncId) (args : Array Value)
  (hop : (ops[i]?).map (fun o => (o.op, o.type, o.dst)) = some (opv, ty, dst)) (hw : (ops[i]?).map (fun o => Region.wanted o (yielded ops a.tmps)) = some true)
  (hrun : (execOp a.eval ⟨dst, opv, ty, "", #[], none⟩).run P w = .ok (.enter f args) w)
  (hc : Calls P f args w fun e w' => ∃ v, e = .returned v ∧ S w' ∧ wpAnyH P md ops Q S fuel (listed.setIfInBounds i true) (a.put dst v) w') : HStep P md ops Q S fuel listed a w i := by
 unfold HStep
 cases ho : ops[i]? with
 | none => rw [ho] at hop; cases hop
 | some op =>
  rw [ho] at hop hw
  simp only [Option.map_some, Option.some.injEq, Prod.mk.injEq] at hop hw
  obtain ⟨dst', op', ty', pos', after', guard'⟩ := op
  obtain ⟨rfl, rfl, rfl⟩ := hop
  have hrun' : (execOp a.eval ⟨dst', op', ty', pos', after', guard'⟩).run P w = .ok (.enter f args) w := by
   rw [← hrun]
   unfold execOp
   rfl
  refine wpOp_step ho fun K' hK => ?_
  rw [if_pos hw]
  unfold Oper.wp
  rw [hrun', Oper.upon_enter]
  refine hc.mono fun e w' he => ?_
  obtain ⟨v, rfl, h1, h2⟩ := he
  exact hK _ _ ⟨h1, h2⟩
theorem run_makeSlice {t ty : TypeId} {x y : Operand} {ρ : Operand → Value} {v : Value} {w' : World} {d : Option Tmp} (h : (Instr.makeSlice t (ρ x) (ρ y)).run P w = .ok v w') :
  (execOp ρ ⟨d, .makeSlice t x y, ty, "", #[], none⟩).run P w = .ok (.value v) w' := by
 unfold execOp
 simp only [Sem.run_bind, h, Result.andThen_ok]
 rfl
end
end Go.Proofs.YtbjpbeplpljieaaDoor

/-
 FOUNDATIONS, merged: see the heads of the parts.
-/
/-
 LAWS AT OPERATIONS: a slice of bytes cut from a place on, or up to a place; a copy into a row.
-/
namespace Go.Proofs.YtbjpbeplpljieaaDoor
open Go.RowKit
set_option maxRecDepth 100000

theorem Sl.cut {w : World} {B : Nat} {A : Option Addr} {len c : Nat} {bs : List UInt8} (h : Sl w B (.slice A len c) bs) (i j : Nat) (hij : i ≤ j) (hj : j ≤ len) (hjm : j ≤ c) :
  Sl w B (sliced A i j c 1) ((bs.take j).drop i) := by
 have hl := h.len
 subst hl
 obtain ⟨A', c', hv, h1, h2, hc⟩ := h
 cases hv
 have hlen : ((bs.take j).drop i).length = j - i := by simp; omega
 unfold sliced
 refine ⟨if c = i then A else A.map (·.add (i * 1)), c - i, by rw [hlen], by omega, by omega, fun hn => ?_⟩
 obtain ⟨b, off, rfl, hb, hr⟩ := hc (by omega)
 rw [if_neg (by omega)]
 refine ⟨b, off + i, by simp [addr_add], hb, fun k hk => ?_⟩
 rw [hlen] at hk
 have := hr (i + k) (by omega)
 rw [show off + (i + k) = off + i + k by omega] at this
 rw [this]
 simp
theorem Off.cut {g : Nat} {A : Option Addr} {len c : Nat} (h : Off g (.slice A len c)) (i j : Nat) (hj : j ≤ len) : Off g (sliced A i j c 1) := by
 intro x l c' hx hl
 have hx1 : (if c = i then A else A.map (·.add (i * 1))) = some x := by
  unfold sliced at hx
  injection hx
 have hx2 : j - i = l := by
  unfold sliced at hx
  injection hx
 by_cases hci : c = i
 ·rw [if_pos hci] at hx1
  subst hx1
  exact h x len c rfl (by omega)
 ·rw [if_neg hci] at hx1
  cases A with
  | none => cases hx1
  | some y =>
   simp only [Option.map_some, Option.some.injEq] at hx1
   have := h y len c rfl (by omega)
   rw [← hx1]
   unfold Addr.add
   split <;> exact this
theorem slice30 : Tryd.prog.underlying 23 = some (.slice (Tryd.prog.elem 23)) := by kernel_rfl
theorem elem30 : Tryd.prog.elem 23 = 5 := by kernel_rfl
theorem run_sizeOf_u8 (w : World) : (sizeOf 5).run Tryd.prog w = .ok 1 w := by simp [go_sem]
/-- x[i:] of a slice of bytes -/
theorem wpList_slice_from {ops : Array Oper} {rest : List Oper} {o : Oper} {a : Act} {w : World} {Q : Exit → Act → World → Prop} (hgd : o.guard = none) (x lo : Operand) (ho : o.op = .slice 23 x (some lo) none none)
  (B : Nat) (v : Value) (hx : a.eval x = v) (bs : List UInt8) (hs : Sl w B v bs) (i : Nat) (hlo : a.eval lo = .int .i64 (i : Int)) (hi : i ≤ bs.length)
  (h : ∀ v', Sl w B v' (bs.drop i) → (∀ g, Off g v → Off g v') → wpList Tryd.prog ops Q rest (a.put o.dst v') w) : wpList Tryd.prog ops Q (o :: rest) a w := by
 obtain ⟨A, c, rfl, h1, h2⟩ := hs.form
 have hcut := hs.cut i bs.length hi (Nat.le_refl _) h1
 rw [List.take_length] at hcut
 refine wpList_plain hgd fun K hK => ?_
 have hrun : (Instr.sliceAt 23 (.slice A bs.length c) (some (.int .i64 (i : Int))) none none).run Tryd.prog w = .ok (sliced A i bs.length c 1) w := by
  rw [run_sliceAt_slice _ _ _ _ _ _ slice30, run_slice_l w 23 A bs.length c slice30 .i64 (i : Int) (by omega) (by omega), elem30, run_sizeOf_u8, Result.andThen_ok, Int.toNat_natCast]
 unfold Oper.wp execOp
 simp only [ho, hx, hlo, Option.map_some, Option.map_none, Sem.run_bind, hrun, Result.andThen_ok]
 exact hK _ _ (h _ hcut fun g hg => hg.cut i bs.length (Nat.le_refl _))
/-- x[:j] of a slice of bytes, within its length -/
theorem wpList_slice_to {ops : Array Oper} {rest : List Oper} {o : Oper} {a : Act} {w : World} {Q : Exit → Act → World → Prop} (hgd : o.guard = none) (x hi : Operand) (ho : o.op = .slice 23 x none (some hi) none)
  (B : Nat) (v : Value) (hx : a.eval x = v) (bs : List UInt8) (hs : Sl w B v bs) (j : Nat) (hhi : a.eval hi = .int .i64 (j : Int)) (hj : j ≤ bs.length)
  (h : ∀ v', Sl w B v' (bs.take j) → (∀ g, Off g v → Off g v') → wpList Tryd.prog ops Q rest (a.put o.dst v') w) : wpList Tryd.prog ops Q (o :: rest) a w := by
 obtain ⟨A, c, rfl, h1, h2⟩ := hs.form
 have hcut := hs.cut 0 j (Nat.zero_le _) hj (by omega)
 rw [List.drop_zero] at hcut
 refine wpList_plain hgd fun K hK => ?_
 have hrun : (Instr.sliceAt 23 (.slice A bs.length c) none (some (.int .i64 (j : Int))) none).run Tryd.prog w = .ok (sliced A 0 j c 1) w := by
  rw [run_sliceAt_slice _ _ _ _ _ _ slice30, run_slice_h w 23 A bs.length c slice30 .i64 (j : Int) (by omega) (by omega), elem30, run_sizeOf_u8, Result.andThen_ok, Int.toNat_natCast]
 unfold Oper.wp execOp
 simp only [ho, hx, hhi, Option.map_some, Option.map_none, Sem.run_bind, hrun, Result.andThen_ok]
 exact hK _ _ (h _ hcut fun g hg => hg.cut 0 j hj)

theorem wpList_build_eq {P : Program} {ops : Array Oper} {rest : List Oper} {o : Oper} {a : Act} {w : World} {Q : Exit → Act → World → Prop} (hg : o.guard = none) (t : TypeId) (parts : Array (Nat × Operand)) (ho : o.op = .build t parts)
  (cells : Array Value) (hf : P.built t (parts.map fun (i, x) => (i, a.eval x)).toList = some cells)
  (h : wpList P ops Q rest (a.put o.dst (.agg cells)) w) : wpList P ops Q (o :: rest) a w :=
 wpList_build hg t parts ho (by rw [hf]; rfl) (by rw [hf]; exact h)

/-! a region that draws its order, step by step -/
theorem ready_load {P : Program} {md : Region.Mode} {ops : Array Oper} {Q : Exit → Act → World → Prop} {fuel : Nat} {listed : Array Bool} {a : Act} {w : World} {rs : List Nat} (i : Nat) (ty : TypeId) (x : Operand) (dst : Option Tmp)
  (hgd : (ops[i]?).map (·.guard) = some none) (hop : (ops[i]?).map (·.op) = some (.load ty x)) (hdst : (ops[i]?).map (·.dst) = some dst)
  (b o : Nat) (hx : a.eval x = .pointer (some ⟨b, o, none⟩)) (cs : List Value) (d : TypeDesc) (hc : w.rangeAt b o cs)
  (hu : P.underlying ty = some d) (hd : d.isRow = true) (hi : (P.info? ty).map (·.size) = some cs.length)
  (h : wpAny P md ops Q fuel (listed.setIfInBounds i true) (a.put dst (.agg cs.toArray)) w) (hs : AllReady P md ops Q fuel listed a w rs) : AllReady P md ops Q fuel listed a w (i :: rs) := by
 cases ho : ops[i]? with
 | none => rw [ho] at hgd; cases hgd
 | some op =>
  rw [ho] at hgd hop hdst
  simp only [Option.map_some, Option.some.injEq] at hgd hop hdst
  refine AllReady.cons ho (fun K hK => ?_) hs
  have hw : Region.wanted op (yielded ops a.tmps) = true := by simp [Region.wanted, hgd]
  rw [if_pos hw]
  exact wp_load_mid ty x hop b o hx cs d hc hu hd hi (hK _ _ (by rw [hdst]; exact h))
theorem ready_store {P : Program} {md : Region.Mode} {ops : Array Oper} {Q : Exit → Act → World → Prop} {fuel : Nat} {listed : Array Bool} {a : Act} {w : World} {rs : List Nat} (i : Nat) (ty : TypeId) (x y : Operand) (dst : Option Tmp)
  (hgd : (ops[i]?).map (·.guard) = some none) (hop : (ops[i]?).map (·.op) = some (.store ty x y)) (hdst : (ops[i]?).map (·.dst) = some dst)
  (b o : Nat) (hx : a.eval x = .pointer (some ⟨b, o, none⟩)) (cs : List Value) (hy : a.eval y = .agg cs.toArray) (ht : w.there b o cs.length)
  (hi : (P.info? ty).map (·.size) = some cs.length) (h1 : ∀ u ∈ cs, u.oneCell' = true)
  (h : wpAny P md ops Q fuel (listed.setIfInBounds i true) (a.put dst undef) (w.setCells b o cs)) (hs : AllReady P md ops Q fuel listed a w rs) : AllReady P md ops Q fuel listed a w (i :: rs) := by
 cases ho : ops[i]? with
 | none => rw [ho] at hgd; cases hgd
 | some op =>
  rw [ho] at hgd hop hdst
  simp only [Option.map_some, Option.some.injEq] at hgd hop hdst
  refine AllReady.cons ho (fun K hK => ?_) hs
  have hw : Region.wanted op (yielded ops a.tmps) = true := by simp [Region.wanted, hgd]
  rw [if_pos hw]
  exact wp_store_mid ty x y hop b o cs.toArray hx hy (by simpa using ht) (by simpa using hi) (all_oneCell_toArray h1) (hK _ _ (by rw [hdst]; exact h))

/-- a slice over a row -/
theorem Sl.of_row {w : World} {B g off n c : Nat} {T : TypeId} {cs : List Value} {bs : List UInt8} (hr : Row w g T cs) (hB : g < B) (hn : bs.length = n) (hc : n ≤ c) (hm : c ≤ maxLen)
  (hb : ∀ k (h : k < bs.length), cs[off + k]? = some (.int .u8 bs[k].toNat)) : Sl w B (.slice (some ⟨g, off, none⟩) n c) bs := by
 subst hn
 exact ⟨_, c, rfl, hc, hm, fun _ => ⟨g, off, rfl, hB, fun k hk => by rw [hr.cell]; exact hb k hk⟩⟩
theorem Sl.of_bytes {w : World} {B g n : Nat} {T : TypeId} {bs : List UInt8} (hr : Row w g T (Lib.byteCells bs)) (hB : g < B) (hn : bs.length = n) (hm : n ≤ 1000000) : Sl w B (.slice (some ⟨g, 0, none⟩) n n) bs :=
 Sl.of_row hr hB hn (Nat.le_refl _) (by unfold maxLen; omega) fun k hk => by rw [Nat.zero_add]; exact byteCells_get bs k hk

/-- copy into a row, as one step of a region that draws: only that row turns -/
theorem step_copy_but {P : Program} {ops : Array Oper} {o : Oper} {a : Act} {w : World} {K : Act → World → Prop} {Q : Exit → Act → World → Prop} {E : Prop} (hgd : o.guard = none) (d s : Operand) (dT sT : TypeId)
  (ho : o.op = .call { callee := .builtin .copy, args := #[d, s], argTypes := #[dT, sT] }) (elem : TypeId) (hu : P.underlying dT = some (.slice elem)) (hsz : (P.info? elem).map (·.size) = some 1)
  (dLen dCap sLen sCap : Nat) (ad : Addr) (g off : Nat) (hd : a.eval d = .slice (some ⟨g, off, none⟩) dLen dCap) (hs : a.eval s = .slice (some ad) sLen sCap)
  (cur : List Value) (t : TypeId) (hr : Row w g t cur) (cs : List Value) (hn : cs.length = Nat.min sLen dLen)
  (hsrc : ∀ j v, cs[j]? = some v → w.cell? (ad.add j) = some v) (hfit : off + cs.length ≤ cur.length) (h1 : ∀ v ∈ cs, v.oneCell' = true)
  (h : ∀ w', Row w' g t (splice cur off cs) → But w.heap.size g w w' → w'.heap.size = w.heap.size → K (a.put o.dst (goInt cs.length)) w') :
  if Region.wanted o (yielded ops a.tmps) = true then Oper.wp P o a w K Q else E := by
 have hw : Region.wanted o (yielded ops a.tmps) = true := by simp [Region.wanted, hgd]
 rw [if_pos hw]
 have hrun := run_copy_row (P := P) w dT sT o.type elem g off dLen dCap ad sLen sCap cur.toArray t cs hu hsz hr hn hsrc (by simpa using hfit) h1
 unfold Oper.wp
 simp [execOp, ho, resolve, invoke, builtin, hd, hs, hrun, Result.andThen]
 refine h _ (show _ = _ by simpa [splice] using setRow_heap w g _ _ t _ hr) ⟨rfl, rfl, rfl, Nat.le_of_eq (by simp), fun k _ hk => Go.setRow_other w g k _ hk⟩ (by simp)
end Go.Proofs.YtbjpbeplpljieaaDoor

/-
 THE HASH IN MEMORY: what a block holds behind New and Write; New, isMade, Len.
-/
namespace Go.Proofs.YtbjpbeplpljieaaDoor
open Go.RowKit
set_option maxRecDepth 100000

def hashCells (st : St) (blk : List UInt8) (n : Nat) : List Value := .bool true :: (wordCells st.list ++ (Lib.byteCells blk ++ [.int .i64 (n : Int)]))
theorem hashCells_length (st : St) (blk : List UInt8) (n : Nat) (h : blk.length = 64) : (hashCells st blk n).length = 74 := by
 simp [hashCells, wordCells_length, St.list_length, Lib.byteCells_length, h]
theorem hashCells_size (st : St) (blk : List UInt8) (n : Nat) (h : blk.length = 64) : (hashCells st blk n)[73]? = some (.int .i64 (n : Int)) := by
 rw [hashCells, List.getElem?_cons_succ, List.getElem?_append_right (by simp [wordCells_length, St.list_length]), List.getElem?_append_right (by simp [wordCells_length, St.list_length, Lib.byteCells_length, h])]
 simp [wordCells_length, St.list_length, Lib.byteCells_length, h]
theorem hashCells_st (st : St) (blk : List UInt8) (n : Nat) : ((hashCells st blk n).drop 1).take 8 = wordCells st.list := by
 rw [hashCells, List.drop_succ_cons, List.drop_zero, List.take_append_of_le_length (by simp [wordCells_length, St.list_length])]
 exact List.take_of_length_le (by simp [wordCells_length, St.list_length])
theorem hashCells_blk (st : St) (blk : List UInt8) (n : Nat) (h : blk.length = 64) : ((hashCells st blk n).drop 9).take 64 = Lib.byteCells blk := by
 have e : (hashCells st blk n).drop 9 = Lib.byteCells blk ++ [.int .i64 (n : Int)] := by
  rw [hashCells, List.drop_succ_cons, List.drop_append_of_le_length (by simp [wordCells_length, St.list_length]), List.drop_of_length_le (by simp [wordCells_length, St.list_length]), List.nil_append]
 rw [e, List.take_append_of_le_length (by rw [Lib.byteCells_length]; omega)]
 exact List.take_of_length_le (by rw [Lib.byteCells_length]; omega)
theorem hashCells_byte (st : St) (blk : List UInt8) (n k : Nat) (h : k < blk.length) : (hashCells st blk n)[9 + k]? = some (.int .u8 (blk[k].toNat : Int)) := by
 rw [show 9 + k = (8 + k) + 1 by omega, hashCells, List.getElem?_cons_succ, List.getElem?_append_right (by simp [wordCells_length, St.list_length]), List.getElem?_append_left (by simp [wordCells_length, St.list_length, Lib.byteCells_length]; omega)]
 rw [show 8 + k - (wordCells st.list).length = k by simp [wordCells_length, St.list_length]]
 exact byteCells_get blk k h
theorem hashCells_word (st : St) (blk : List UInt8) (n k : Nat) (h : k < 8) : (hashCells st blk n)[1 + k]? = some (.int .u32 ((st.list[k]'h).toNat : Int)) := by
 rw [show 1 + k = k + 1 by omega, hashCells, List.getElem?_cons_succ, List.getElem?_append_left (by simp [wordCells_length, St.list_length]; omega)]
 exact wordCells_get _ _ h
theorem hashCells_one (st : St) (blk : List UInt8) (n : Nat) : ∀ u ∈ hashCells st blk n, u.oneCell' = true := by
 intro u hu
 simp only [hashCells, List.mem_cons, List.mem_append, List.not_mem_nil, or_false] at hu
 rcases hu with rfl | hu | hu | rfl
 ·rfl
 ·exact cell_oneWord _ u hu
 ·exact cell_oneCell _ u hu
 ·rfl
/-- the last cell: how many bytes -/
theorem hashCells_setSize (st : St) (blk : List UInt8) (n m : Nat) (h : blk.length = 64) : (hashCells st blk n).set 73 (.int .i64 (m : Int)) = hashCells st blk m := by
 rw [hashCells, List.set_cons_succ, List.set_append_right _ _ (by simp [wordCells_length, St.list_length]), List.set_append_right _ _ (by simp [wordCells_length, St.list_length, Lib.byteCells_length, h])]
 simp [wordCells_length, St.list_length, Lib.byteCells_length, h, hashCells]
theorem hashCells_splice (st : St) (blk cs : List UInt8) (n r : Nat) (h : blk.length = 64) (hr : r + cs.length ≤ 64) : splice (hashCells st blk n) (9 + r) (Lib.byteCells cs) = hashCells st (splice blk r cs) n := by
 have h9 : (Value.bool true :: wordCells st.list).length = 9 := by simp [wordCells_length, St.list_length]
 have e : hashCells st blk n = (Value.bool true :: wordCells st.list) ++ (Lib.byteCells blk ++ [.int .i64 (n : Int)]) := by simp [hashCells]
 have e2 : hashCells st (splice blk r cs) n = (Value.bool true :: wordCells st.list) ++ (Lib.byteCells (splice blk r cs) ++ [.int .i64 (n : Int)]) := by simp [hashCells]
 rw [e2, e]
 generalize (Value.bool true :: wordCells st.list) = hd at h9 ⊢
 unfold splice
 rw [Lib.byteCells_length, List.take_append, h9, List.take_of_length_le (by omega), show 9 + r - 9 = r by omega, List.take_append_of_le_length (by rw [Lib.byteCells_length]; omega),
  show 9 + r + cs.length = 9 + (r + cs.length) by omega, ← List.drop_drop, List.drop_append_of_le_length (l₁ := hd) (by omega), List.drop_of_length_le (l := hd) (by omega), List.nil_append,
  List.drop_append_of_le_length (by rw [Lib.byteCells_length]; omega)]
 simp [Lib.byteCells, List.append_assoc]
theorem hashCells_setSt (st s2 : St) (blk : List UInt8) (n : Nat) : over (hashCells st blk n) 1 (wordCells s2.list) = hashCells s2 blk n := by
 rw [over_eq _ _ _ (by simp [hashCells, wordCells_length, St.list_length])]
 simp [hashCells, wordCells_length, St.list_length]

section
variable {w w' : World} {B g j : Nat} {m : List UInt8}
end

theorem But.undrew {w w' : World} {B g : Nat} (h : But B g w.drew w') : But B g w w' := ⟨h.os, h.tape, h.output, h.size, h.block⟩
theorem zeros64s : (#[.int .u8 0] : Array Value) = (Lib.byteCells (List.replicate 1 0)).toArray := rfl

end Go.Proofs.YtbjpbeplpljieaaDoor

/-
 WALK: (*sha2.Hash).add.
-/
namespace Go.Proofs.YtbjpbeplpljieaaDoor
open Go.RowKit
set_option maxRecDepth 100000

theorem info_u8s : (Tryd.prog.info? 5).map (·.size) = some 1 := by kernel_rfl
def slLen : Value → Nat
 | .slice _ n _ => n
 | _ => 0
theorem splice_take (blk cs : List UInt8) (r : Nat) (h : r + cs.length ≤ blk.length) : (splice blk r cs).take (r + cs.length) = blk.take r ++ cs := by
 unfold splice
 rw [← List.append_assoc, List.take_append_of_le_length (by simp; omega)]
 exact List.take_of_length_le (by simp; omega)
theorem splice_all (blk cs : List UInt8) (r : Nat) (h : r + cs.length = blk.length) : splice blk r cs = blk.take r ++ cs := by
 unfold splice
 rw [h, List.drop_length, List.append_nil]

/-- what one round does to the bytes: n more bytes; they fill the block, or they don't -/
theorem round_part (M cs blk : List UInt8) (r : Nat) (hr : r = M.length % 64) (hb : blk.length = 64) (hblk : blk.take r = M.drop (64 * (M.length / 64))) (hc : r + cs.length < 64) :
  (M ++ cs).length / 64 = M.length / 64 ∧ states (M ++ cs) ((M ++ cs).length / 64) = states M (M.length / 64) ∧ (splice blk r cs).length = 64 ∧ (splice blk r cs).take ((M ++ cs).length % 64) = (M ++ cs).drop (64 * ((M ++ cs).length / 64)) := by
 have hd : (M ++ cs).length / 64 = M.length / 64 := by simp only [List.length_append]; omega
 have hm : (M ++ cs).length % 64 = r + cs.length := by simp only [List.length_append]; omega
 refine ⟨hd, by rw [hd, states_append _ _ _ (by omega)], by rw [length_splice _ _ _ (by omega), hb], ?_⟩
 rw [hd, hm, splice_take _ _ _ (by omega), hblk, List.drop_append_of_le_length (by omega)]
theorem round_full (M cs blk : List UInt8) (r : Nat) (hr : r = M.length % 64) (hb : blk.length = 64) (hblk : blk.take r = M.drop (64 * (M.length / 64))) (hc : r + cs.length = 64) :
  (M ++ cs).length / 64 = M.length / 64 + 1 ∧ (M ++ cs).length % 64 = 0 ∧ states (M ++ cs) ((M ++ cs).length / 64) = comp (states M (M.length / 64)) (splice blk r cs) ∧ (splice blk r cs).length = 64 := by
 have hd : (M ++ cs).length / 64 = M.length / 64 + 1 := by simp only [List.length_append]; omega
 have hm : (M ++ cs).length % 64 = 0 := by simp only [List.length_append]; omega
 refine ⟨hd, hm, ?_, by rw [length_splice _ _ _ (by omega), hb]⟩
 rw [hd, states, states_append _ _ _ (by omega), blockAt, splice_all _ _ _ (by omega), hblk, List.drop_append_of_le_length (by omega), List.take_of_length_le (by simp only [List.length_append, List.length_drop]; omega)]

theorem arr24 : Tryd.prog.underlying 59 = some (.array (Tryd.prog.arrayLen 59) (Tryd.prog.elem 59)) := by kernel_rfl
theorem elem24 : Tryd.prog.elem 59 = 5 := by kernel_rfl
theorem len24 : Tryd.prog.arrayLen 59 = 64 := by kernel_rfl
theorem slice24_from (g o r : Nat) (h : r < 64) (w : World) : (Instr.sliceAt 59 (.pointer (some ⟨g, o, none⟩)) (some (.int .i64 (r : Int))) none none).run Tryd.prog w = .ok (.slice (some ⟨g, o + r, none⟩) (64 - r) (64 - r)) w := by
 rw [run_sliceAt_array_l w 59 ⟨g, o, none⟩ arr24 .i64 (r : Int) (by omega) (by rw [len24]; omega), elem24, run_sizeOf_u8, Result.andThen_ok, Int.toNat_natCast, len24]
 unfold slicedAt
 rw [if_neg (by omega), addr_add, Nat.mul_one]
theorem slice24_to (g o r : Nat) (h : r ≤ 64) (w : World) : (Instr.sliceAt 59 (.pointer (some ⟨g, o, none⟩)) none (some (.int .i64 (r : Int))) none).run Tryd.prog w = .ok (.slice (some ⟨g, o, none⟩) r 64) w := by
 rw [run_sliceAt_array_h w 59 ⟨g, o, none⟩ arr24 .i64 (r : Int) (by omega) (by rw [len24]; omega), elem24, run_sizeOf_u8, Result.andThen_ok, Int.toNat_natCast, len24]
 unfold slicedAt
 rw [if_neg (by omega)]
 rfl

theorem take_more (p cs : List UInt8) (k j : Nat) (hcs : cs = (p.drop k).take j) : p.take (k + cs.length) = p.take k ++ cs := by
 rw [List.take_add]
 congr 1
 subst hcs
 rw [List.length_take, List.take_eq_take_iff]
 simp
/-! the operations of 'h.state = Compress(h.state, h.block)', written out: the region draws their order -/
def op147_2 : Oper := { dst := some 38, op := Op.nilCheck (Operand.tmp 37), type := 0, pos := "sha2.go:147", after := #[{ on := 1, ground := Ground.data }], guard := none }
def op147_6 : Oper := { dst := some 42, op := Op.nilCheck (Operand.tmp 41), type := 0, pos := "sha2.go:147", after := #[{ on := 5, ground := Ground.data }], guard := none }
def op147_8 : Oper := { dst := some 44, op := Op.load 59 (Operand.tmp 43), type := 59, pos := "sha2.go:147", after := #[{ on := 7, ground := Ground.data }], guard := none }
def op147_10 : Oper := { dst := some 46, op := Op.nilCheck (Operand.tmp 36), type := 0, pos := "sha2.go:147", after := #[{ on := 0, ground := Ground.data }, { on := 0, ground := Ground.phase }, { on := 1, ground := Ground.phase }, { on := 2, ground := Ground.phase }, { on := 3, ground := Ground.phase }, { on := 4, ground := Ground.phase }, { on := 5, ground := Ground.phase }, { on := 6, ground := Ground.phase }, { on := 7, ground := Ground.phase }, { on := 8, ground := Ground.phase }, { on := 9, ground := Ground.phase }], guard := none }
end Go.Proofs.YtbjpbeplpljieaaDoor

/-
 WALK: (*sha2.Hash).Write; parts of bytes, wherever they lie.
-/
namespace Go.Proofs.YtbjpbeplpljieaaDoor
open Go.RowKit
set_option maxRecDepth 100000

/-- v is a slice of slices of bytes that read as bss; all that it reads lies below block B, and not in block g -/
def PartsO (w : World) (B g : Nat) (v : Value) (bss : List (List UInt8)) : Prop :=
 ∃ A c, v = .slice A bss.length c ∧ (0 < bss.length → ∃ q off, A = some ⟨q, off, none⟩ ∧ q < B ∧ q ≠ g ∧ ∀ i (h : i < bss.length), ∃ u, w.cell? ⟨q, off + i, none⟩ = some u ∧ Sl w B u bss[i] ∧ Off g u)
section
variable {w w' : World} {B B' g : Nat} {v : Value} {bss : List (List UInt8)}
theorem PartsO.form (h : PartsO w B g v bss) : ∃ A c, v = .slice A bss.length c := by
 obtain ⟨A, c, hv, _⟩ := h
 exact ⟨A, c, hv⟩
theorem PartsO.at_ {A : Option Addr} {n c : Nat} (h : PartsO w B g (.slice A n c) bss) (hn : 0 < bss.length) : ∃ q off, A = some ⟨q, off, none⟩ ∧ q < B ∧ q ≠ g ∧ ∀ i (h : i < bss.length), ∃ u, w.cell? ⟨q, off + i, none⟩ = some u ∧ Sl w B u bss[i] ∧ Off g u := by
 obtain ⟨A', c', hv, hc⟩ := h
 cases hv
 exact hc hn
theorem PartsO.but (h : PartsO w B g v bss) (hb : But B g w w') : PartsO w' B g v bss := by
 obtain ⟨A, c, hv, hc⟩ := h
 refine ⟨A, c, hv, fun hn => ?_⟩
 obtain ⟨q, off, hA, hq, hg, hr⟩ := hc hn
 refine ⟨q, off, hA, hq, hg, fun i hi => ?_⟩
 obtain ⟨u, hu, hs, ho⟩ := hr i hi
 exact ⟨u, (hb.cell (p := ⟨q, off + i, none⟩) hq hg).trans hu, hs.but ho hb, ho⟩
theorem PartsO.below (h : PartsO w B g v bss) (hb : Below B w w') : PartsO w' B g v bss := h.but (But.of hb g)
theorem PartsO.more (h : PartsO w B g v bss) (hB : B ≤ B') : PartsO w B' g v bss := by
 obtain ⟨A, c, hv, hc⟩ := h
 refine ⟨A, c, hv, fun hn => ?_⟩
 obtain ⟨q, off, hA, hq, hg, hr⟩ := hc hn
 refine ⟨q, off, hA, by omega, hg, fun i hi => ?_⟩
 obtain ⟨u, hu, hs, ho⟩ := hr i hi
 exact ⟨u, hu, hs.more hB, ho⟩
/-- what lies below a block does not lie in it -/
theorem PartsO.moved {g' : Nat} (h : PartsO w B g v bss) (hg' : B ≤ g') : PartsO w B g' v bss := by
 obtain ⟨A, c, hv, hc⟩ := h
 refine ⟨A, c, hv, fun hn => ?_⟩
 obtain ⟨q, off, hA, hq, hg, hr⟩ := hc hn
 refine ⟨q, off, hA, hq, by omega, fun i hi => ?_⟩
 obtain ⟨u, hu, hs, ho⟩ := hr i hi
 exact ⟨u, hu, hs, hs.off hg'⟩
/-- one part, in a row of its own -/
theorem PartsO.one {q n : Nat} {T : TypeId} {u : Value} {bs : List UInt8} {w0 : World} (hq : q < B) (hg : q ≠ g) (hr : Row w q T [u]) (hs : Sl w0 B u bs) (ho : Off g u) (hk : Sl w0 B u bs → Sl w B u bs) : PartsO w B g (.slice (some ⟨q, 0, none⟩) 1 n) [bs] :=
 ⟨_, n, rfl, fun _ => ⟨q, 0, rfl, hq, hg, fun i hi => by
  obtain rfl : i = 0 := by simp at hi; omega
  exact ⟨u, hr.cell 0, hk hs, ho⟩⟩⟩
theorem PartsO.two {q n : Nat} {T : TypeId} {u u2 : Value} {bs bs2 : List UInt8} (hq : q < B) (hg : q ≠ g) (hr : Row w q T [u, u2]) (hs : Sl w B u bs) (ho : Off g u) (hs2 : Sl w B u2 bs2) (ho2 : Off g u2) : PartsO w B g (.slice (some ⟨q, 0, none⟩) 2 n) [bs, bs2] :=
 ⟨_, n, rfl, fun _ => ⟨q, 0, rfl, hq, hg, fun i hi => by
  match i, hi with
  | 0, _ => exact ⟨u, hr.cell 0, hs, ho⟩
  | 1, _ => exact ⟨u2, hr.cell 1, hs2, ho2⟩⟩⟩
theorem PartsO.three {q n : Nat} {T : TypeId} {u u2 u3 : Value} {bs bs2 bs3 : List UInt8} (hq : q < B) (hg : q ≠ g) (hr : Row w q T [u, u2, u3]) (hs : Sl w B u bs) (ho : Off g u) (hs2 : Sl w B u2 bs2) (ho2 : Off g u2) (hs3 : Sl w B u3 bs3) (ho3 : Off g u3) : PartsO w B g (.slice (some ⟨q, 0, none⟩) 3 n) [bs, bs2, bs3] :=
 ⟨_, n, rfl, fun _ => ⟨q, 0, rfl, hq, hg, fun i hi => by
  match i, hi with
  | 0, _ => exact ⟨u, hr.cell 0, hs, ho⟩
  | 1, _ => exact ⟨u2, hr.cell 1, hs2, ho2⟩
  | 2, _ => exact ⟨u3, hr.cell 2, hs3, ho3⟩⟩⟩
end
theorem flat_snoc (bss : List (List UInt8)) (k : Nat) (h : k < bss.length) : (bss.take (k + 1)).flatten = (bss.take k).flatten ++ bss[k] := by
 rw [List.take_succ_eq_append_getElem h, List.flatten_append]
 simp only [List.flatten_cons, List.flatten_nil, List.append_nil]
theorem flat_le (bss : List (List UInt8)) (k : Nat) : (bss.take k).flatten.length ≤ bss.flatten.length := by
 conv => rhs; rw [← List.take_append_drop k bss, List.flatten_append, List.length_append]
 omega

end Go.Proofs.YtbjpbeplpljieaaDoor

/-
 WALK: sha2.finish.
-/
namespace Go.Proofs.YtbjpbeplpljieaaDoor
open Go.RowKit
set_option maxRecDepth 100000

theorem off_own {w : World} {base e n g : Nat} {v : Value} {xs : List Value} (h : w.ownsRow base e 1 v n xs) (hg : g < base) : Off g v := by
 intro x l c hx hl
 rcases h.2 with ⟨rfl, hn⟩ | ⟨q, cap, cur, rfl, hb, _⟩
 ·cases hx
 ·cases hx
  show q ≠ g
  omega
theorem Below.chain {a b c : World} (h : Below a.heap.size a b) (k : Below b.heap.size b c) : Below a.heap.size a c := h.trans (k.mono h.size)
theorem gives_sl {w w' : World} {v : Value} {bs : List UInt8} (h : Gives w bs v w') : Sl w' w'.heap.size v bs := Sl.of_own h.1
theorem Sl.step {w w' : World} {v : Value} {bs : List UInt8} {B : Nat} (h : Sl w B v bs) (hB : B ≤ w.heap.size) (hb : Below w.heap.size w w') : Sl w' B v bs := h.below (hb.mono hB)

/-- the cells of a Hash to which m has been written -/
def HashVal (cs : List Value) (m : List UInt8) : Prop := ∃ blk : List UInt8, cs = hashCells (states m (m.length / 64)) blk m.length ∧ blk.length = 64 ∧ blk.take (m.length % 64) = m.drop (64 * (m.length / 64))
/-- an array of bytes is handed back -/
def SumIs (w : World) (bs : List UInt8) (e : Ending) (w' : World) : Prop := e = .returned (.agg (Lib.byteCells bs).toArray) ∧ Below w.heap.size w w'

theorem flat4_get (f : UInt32 → List UInt8) (hf : ∀ x, (f x).length = 4) (l : List UInt32) : ∀ i, (l.flatMap f)[i]? = (l[i / 4]?).bind fun x => (f x)[i % 4]? := by
 induction l with
 | nil => intro i; simp
 | cons x r ih =>
  intro i
  rw [List.flatMap_cons]
  by_cases h : i < 4
  ·rw [List.getElem?_append_left (by rw [hf]; exact h), show i / 4 = 0 by omega, show i % 4 = i by omega]
   simp
  ·rw [List.getElem?_append_right (by rw [hf]; omega), hf, ih (i - 4), show i / 4 = (i - 4) / 4 + 1 by omega, show i % 4 = (i - 4) % 4 by omega]
   simp
theorem outB_get (s : St) (i : Nat) (h : i < 32) : (outB s)[i]'(by rw [outB_length]; exact h) = UInt8.ofNat ((s.list[i / 4]'(by rw [St.list_length]; omega)).toNat / 256 ^ (3 - i % 4) % 256) := by
 have h1 := flat4_get (fun x => bigB x.toNat 4) (fun x => bigB_length _ _) s.list i
 rw [List.getElem?_eq_getElem (show i / 4 < s.list.length by rw [St.list_length]; omega), Option.bind_some] at h1
 have h2 : (outB s)[i]? = some ((outB s)[i]'(by rw [outB_length]; exact h)) := List.getElem?_eq_getElem (by rw [outB_length]; exact h)
 have h3 : (bigB (s.list[i / 4]'(by rw [St.list_length]; omega)).toNat 4)[i % 4]? = some _ := List.getElem?_eq_getElem (by rw [bigB_length]; omega)
 rw [h3] at h1
 have h4 := Option.some.inj (h2.symm.trans h1)
 rw [h4, bigB_getElem _ _ _ (by omega)]
theorem setk (l : List UInt8) (j k : Nat) (hl : l.length = k) (hj : j < k) (x : UInt8) (hx : x = l[j]'(by omega)) :
  (l.take j ++ List.replicate (k - j) 0).set j x = l.take (j + 1) ++ List.replicate (k - (j + 1)) 0 := by
 subst hx
 exact set_step l j k hl hj
theorem pad_split (m : List UInt8) : m ++ (128 :: List.replicate 63 0).take (zerosOf m.length + 1) ++ bigB (8 * m.length) 8 = padB m := by
 have h : (128 :: List.replicate 63 (0 : UInt8)).take (zerosOf m.length + 1) = 128 :: List.replicate (zerosOf m.length) 0 := by
  rw [List.take_succ_cons, List.take_replicate]
  congr 2
  have : zerosOf m.length ≤ 63 := by unfold zerosOf; omega
  omega
 rw [h, padB]

end Go.Proofs.YtbjpbeplpljieaaDoor

/-
 WALKS: (*sha2.Hash).Sum, Clone; sha2.Sum256, Sum192.
-/
namespace Go.Proofs.YtbjpbeplpljieaaDoor
open Go.RowKit
set_option maxRecDepth 100000

/-- the zero Hash -/
def hashZero : List Value := .bool false :: (wordCells (List.replicate 8 0) ++ (Lib.byteCells (List.replicate 64 0) ++ [.int .i64 0]))
theorem hashZero_length : hashZero.length = 74 := by decide

theorem wpList_alloc_any {P : Program} {ops : Array Oper} {rest : List Oper} {o : Oper} {a : Act} {w : World} {Q : Exit → Act → World → Prop} (hgd : o.guard = none) (t : TypeId) (ho : o.op = .alloc t) (cs : Array Value)
  (hz : ∀ w, (zeroValue t).run P w = .ok (.agg cs) w)
  (h : wpList P ops Q rest (a.put o.dst (.pointer (some ⟨w.heap.size, 0, none⟩))) (w.alloc (.cells cs t))) : wpList P ops Q (o :: rest) a w :=
 wpList_plain hgd fun K hK => by
  have hk := hK _ _ h
  unfold Oper.wp execOp
  simp only [ho]
  simp [go_sem, hz, Result.andThen]
  exact hk

end Go.Proofs.YtbjpbeplpljieaaDoor

/-
 WALKS: sha2.Sum256, Sum192.
-/
namespace Go.Proofs.YtbjpbeplpljieaaDoor
open Go.RowKit
set_option maxRecDepth 100000

end Go.Proofs.YtbjpbeplpljieaaDoor

/-
 WALKS: hexadecimal digits: the document's own Hex.
-/
namespace Go.Proofs.YtbjpbeplpljieaaDoor
open Go.RowKit
set_option maxRecDepth 100000

def hexD (n : Nat) : UInt8 := if n < 10 then UInt8.ofNat (48 + n) else UInt8.ofNat (87 + n)
def hexL (bs : List UInt8) : List UInt8 := bs.flatMap fun b => [hexD (b.toNat / 16), hexD (b.toNat % 16)]
theorem hexL_snoc (bs : List UInt8) (b : UInt8) : hexL (bs ++ [b]) = hexL bs ++ [hexD (b.toNat / 16), hexD (b.toNat % 16)] := by simp [hexL]
theorem hexL_length (bs : List UInt8) : (hexL bs).length = 2 * bs.length := by
 induction bs with
 | nil => rfl
 | cons b r ih => simp only [hexL, List.flatMap_cons, List.length_append, List.length_cons, List.length_nil] at ih ⊢; omega

/-- make([]byte, 0, n), n a variable -/
theorem make0_run (n : Nat) (hn : n ≤ 281474976710656) (u : World) : (Instr.makeSlice 23 (.int .i64 0) (.int .i64 (n : Int))).run Tryd.prog u =
  .ok (.slice (some ⟨u.heap.size, 0, none⟩) 0 n) (u.alloc (.cells (Lib.byteCells (List.replicate n 0)).toArray 5)) := by
 obtain ⟨i0, hi, hz0, hz1, hz2⟩ := info_parts info_u8
 have h := run_make (P := Tryd.prog) u 23 5 i0 (.int .u8 0) Tryd.underlying23 hi hz0 .i64 .i64 (0 : Int) (n : Int) (by omega) (by omega) (by rw [hz2]; omega) (by omega)
 have e : (n : Int).toNat = n := by omega
 rw [e] at h
 rw [← made_zero]
 simpa [hz1, Value.cells] using h

theorem hexdig_get (i : Nat) (h : i < (⟨#[48, 49, 50, 51, 52, 53, 54, 55, 56, 57, 97, 98, 99, 100, 101, 102]⟩ : ByteArray).size) : (⟨#[48, 49, 50, 51, 52, 53, 54, 55, 56, 57, 97, 98, 99, 100, 101, 102]⟩ : ByteArray)[i]'h = hexD i := by
 have h16 : i < 16 := h
 have key : ∀ j : Fin 16, (⟨#[48, 49, 50, 51, 52, 53, 54, 55, 56, 57, 97, 98, 99, 100, 101, 102]⟩ : ByteArray)[j.val]'(j.isLt) = hexD j.val := by decide
 exact key ⟨i, h16⟩
theorem nat_div16 (n : Nat) : ((n : Int) / 16).toNat = n / 16 := by omega
theorem nat_mod16 (n : Nat) : ((n : Int) % 16).toNat = n % 16 := by omega

/-- A string is handed back; what was there before the call is as it was. -/
def StrIs (w : World) (l : List UInt8) (e : Ending) (w' : World) : Prop := e = .returned (.string ⟨l.toArray⟩) ∧ Below w.heap.size w w'

theorem dig_extract (i : Nat) (h : i < 16) : (⟨#[48, 49, 50, 51, 52, 53, 54, 55, 56, 57, 97, 98, 99, 100, 101, 102]⟩ : ByteArray).extract i (i + 1) = ⟨#[hexD i]⟩ := by
 have key : ∀ j : Fin 16, (⟨#[48, 49, 50, 51, 52, 53, 54, 55, 56, 57, 97, 98, 99, 100, 101, 102]⟩ : ByteArray).extract j.val (j.val + 1) = ⟨#[hexD j.val]⟩ := by decide
 exact key ⟨i, h⟩
theorem hex_grow (l : List UInt8) (x : UInt8) : ((⟨l.toArray⟩ : ByteArray) ++ ((⟨#[48, 49, 50, 51, 52, 53, 54, 55, 56, 57, 97, 98, 99, 100, 101, 102]⟩ : ByteArray).extract (x.toNat / 16) (x.toNat / 16 + 1) ++ (⟨#[48, 49, 50, 51, 52, 53, 54, 55, 56, 57, 97, 98, 99, 100, 101, 102]⟩ : ByteArray).extract (x.toNat % 16) (x.toNat % 16 + 1)))
  = ⟨(l ++ [hexD (x.toNat / 16), hexD (x.toNat % 16)]).toArray⟩ := by
 have := x.toNat_lt
 rw [dig_extract _ (by omega), dig_extract _ (by omega)]
 apply ByteArray.ext
 simp

end Go.Proofs.YtbjpbeplpljieaaDoor

/-
 EQUALITY OF ARRAYS of bytes and of words.
-/
namespace Go.Proofs.YtbjpbeplpljieaaDoor
open Go.RowKit
set_option maxRecDepth 100000

theorem mapM_all {α β : Type} (f : α → Option β) (g : α → β) (l : List α) (h : ∀ i ∈ l, f i = some (g i)) : l.mapM f = some (l.map g) := by
 induction l with
 | nil => rfl
 | cons x r ih =>
  rw [List.mapM_cons, h x (List.mem_cons_self ..), ih (fun i hi => h i (List.mem_cons_of_mem _ hi))]
  rfl
theorem flat_single {α β : Type} (g : α → β) (l : List α) : (l.map fun i => [g i]).flatten = l.map g := by
 induction l with
 | nil => rfl
 | cons x r ih =>
  rw [List.map_cons, List.flatten_cons, ih]
  rfl
theorem keyLits_arr {P : Program} {k : IntKind} {T e : TypeId} {n d : Nat} (hT : P.underlying T = some (.array n e)) (he : P.underlying e = some (.int k)) (hce : P.cellsOf e = 1) (hcT : P.cellsOf T = n)
  (xs : List Int) (hx : xs.length = n) (hw : ∀ x ∈ xs, (Lit.int k x).wf = true) : P.keyLits (d + 2) T (xs.map (Value.int k)) = some ((List.range n).map fun i => Lit.int k (xs.getD i 0)) := by
 have hl : (xs.map (Value.int k)).length = n := by simp [hx]
 unfold Program.keyLits
 simp only [hT, hl, hcT, if_true, hce, Nat.mul_one]
 rw [mapM_all _ (fun i => [Lit.int k (xs.getD i 0)])]
 ·rw [Option.map_some, flat_single]
 ·intro i hi
  have hi' : i < xs.length := by rw [hx]; exact List.mem_range.1 hi
  have e1 : ((xs.map (Value.int k)).drop i).take 1 = [Value.int k xs[i]] := by
   rw [List.drop_eq_getElem_cons (by simpa using hi')]
   simp
  rw [e1, getD_get xs i 0 hi']
  unfold Program.keyLits
  simp [he, hw xs[i] (List.getElem_mem hi')]
theorem eq_arr {P : Program} {k : IntKind} {T e : TypeId} {n : Nat} (hk : P.keyTypeAt 2 T = true) (hT : P.underlying T = some (.array n e)) (he : P.underlying e = some (.int k)) (hce : P.cellsOf e = 1) (hcT : P.cellsOf T = n)
  (xs ys : List Int) (hx : xs.length = n) (hy : ys.length = n) (hwx : ∀ x ∈ xs, (Lit.int k x).wf = true) (hwy : ∀ x ∈ ys, (Lit.int k x).wf = true) (w : World) :
  (Op.equalIn 10000 T (.agg (xs.map (Value.int k)).toArray) (.agg (ys.map (Value.int k)).toArray)).run P w = .ok (xs == ys) w := by
 have hf : ∀ l : List Int, l.length = n → (Value.agg (l.map (Value.int k)).toArray).formed P T = true := by
  intro l hl
  simp [Value.formed, hT, hcT, hl]
 obtain ⟨r, hr, hri⟩ := run_equalIn_deep 9998 2 T hk w (0 + 2) (0 + 2) _ _ _ _ (hf xs hx) (hf ys hy) (by simpa [Value.cells] using keyLits_arr (d := 0) hT he hce hcT xs hx hwx) (by simpa [Value.cells] using keyLits_arr (d := 0) hT he hce hcT ys hy hwy)
 have hb : r = (xs == ys) := by
  have hiff : r = true ↔ xs = ys := by
   rw [hri]
   constructor
   ·intro h
    apply List.ext_getElem (by rw [hx, hy])
    intro i h1 h2
    have h3 := congrArg (fun l : List Lit => l[i]?) h
    simp only [List.getElem?_map] at h3
    rw [List.getElem?_range (by omega)] at h3
    simp only [Option.map_some, Option.some.injEq, Lit.int.injEq] at h3
    have h4 : xs[i]?.getD 0 = ys[i]?.getD 0 := h3.2
    rw [List.getElem?_eq_getElem h1, List.getElem?_eq_getElem h2] at h4
    exact h4
   ·intro h
    rw [h]
  by_cases h : xs = ys
  ·rw [hiff.2 h, h]; simp
  ·have : r = false := by
    cases r with
    | false => rfl
    | true => exact absurd (hiff.1 rfl) h
   rw [this]
   exact (beq_eq_false_iff_ne.2 h).symm
 rw [← hb]
 exact hr
theorem bytes_ints (bs : List UInt8) : Lib.byteCells bs = (bs.map fun b => (b.toNat : Int)).map (Value.int .u8) := by simp [Lib.byteCells]
theorem words_ints (l : List UInt32) : wordCells l = (l.map fun b => (b.toNat : Int)).map (Value.int .u32) := by simp [wordCells]
theorem bytes_beq (xs ys : List UInt8) : ((xs.map fun b => (b.toNat : Int)) == (ys.map fun b => (b.toNat : Int))) = (xs == ys) := by
 have hinj : (xs.map fun b => (b.toNat : Int)) = (ys.map fun b => (b.toNat : Int)) ↔ xs = ys :=
  ⟨fun h => List.map_inj_right (fun a b e => UInt8.toNat_inj.1 (by exact_mod_cast e)) |>.1 h, fun h => by rw [h]⟩
 by_cases h : xs = ys
 ·rw [h]; simp
 ·rw [beq_eq_false_iff_ne.2 h, beq_eq_false_iff_ne]
  exact fun e => h (hinj.1 e)
theorem words_beq (xs ys : List UInt32) : ((xs.map fun b => (b.toNat : Int)) == (ys.map fun b => (b.toNat : Int))) = (xs == ys) := by
 have hinj : (xs.map fun b => (b.toNat : Int)) = (ys.map fun b => (b.toNat : Int)) ↔ xs = ys :=
  ⟨fun h => List.map_inj_right (fun a b e => UInt32.toNat_inj.1 (by exact_mod_cast e)) |>.1 h, fun h => by rw [h]⟩
 by_cases h : xs = ys
 ·rw [h]; simp
 ·rw [beq_eq_false_iff_ne.2 h, beq_eq_false_iff_ne]
  exact fun e => h (hinj.1 e)
theorem eq32 (xs ys : List UInt8) (hx : xs.length = 32) (hy : ys.length = 32) (w : World) :
  (Op.equalIn 10000 22 (.agg (Lib.byteCells xs).toArray) (.agg (Lib.byteCells ys).toArray)).run Tryd.prog w = .ok (xs == ys) w := by
 have hwf : ∀ l : List UInt8, ∀ x ∈ (l.map fun b => (b.toNat : Int)), (Lit.int .u8 x).wf = true := by
  intro l x hx
  simp only [List.mem_map] at hx
  obtain ⟨b, _, rfl⟩ := hx
  have := b.toNat_lt
  simp [Lit.wf, IntKind.min, IntKind.max, IntKind.signed, IntKind.bits]
  omega
 rw [bytes_ints, bytes_ints, eq_arr (k := .u8) (n := 32) (e := 5) (by kernel_rfl) Tryd.underlying22 Tryd.underlying5 (by kernel_rfl) (by kernel_rfl) _ _ (by simpa using hx) (by simpa using hy) (hwf xs) (hwf ys), bytes_beq]
end Go.Proofs.YtbjpbeplpljieaaDoor

/-
 WALK: the law's own check 'live': the chapter's example.
-/
namespace Go.Proofs.YtbjpbeplpljieaaDoor
open Go.RowKit
set_option maxRecDepth 100000

theorem PartsO.solo {w : World} {B g q n : Nat} {T : TypeId} {u : Value} {bs : List UInt8} (hr : Row w q T [u]) (hq : q < B) (hg : q ≠ g) (hs : Sl w B u bs) (ho : Off g u) : PartsO w B g (.slice (some ⟨q, 0, none⟩) 1 n) [bs] :=
 ⟨_, n, rfl, fun _ => ⟨q, 0, rfl, hq, hg, fun i hi => by
  obtain rfl : i = 0 := by simp at hi; omega
  exact ⟨u, hr.cell 0, hs, ho⟩⟩⟩
/-- true is handed back; nothing that was there has turned -/
def TrueIs (w : World) (e : Ending) (w' : World) : Prop := e = .returned (.bool true) ∧ Below w.heap.size w w'

/-- a slice over a block whose cells are known, marked or not -/
theorem Sl.of_block {w : World} {B g n : Nat} {T : TypeId} {fr : Nat × Nat} {C : Array Value} {bs : List UInt8} (h : w.heap[g]? = some (.cells C T fr)) (hC : C = (Lib.byteCells bs).toArray) (hB : g < B) (hn : bs.length = n) (hm : n ≤ 1000000) : Sl w B (.slice (some ⟨g, 0, none⟩) n n) bs := by
 subst hn
 refine ⟨_, bs.length, rfl, Nat.le_refl _, by unfold maxLen; omega, fun _ => ⟨g, 0, rfl, hB, fun k hk => ?_⟩⟩
 rw [Go.Joins.cell_of_block h, Nat.zero_add, hC, List.getElem?_toArray]
 exact byteCells_get bs k hk
theorem heap_under {w : World} {g : Nat} {o o2 : Obj} (h : w.heap[g]? = some o) : (w.alloc o2).heap[g]? = some o := (Below.heap_alloc w o2 g (Array.getElem?_eq_some_iff.1 h).1).trans h
theorem heap_new {w : World} {g : Nat} {o : Obj} (h : g = w.heap.size) : (w.alloc o).heap[g]? = some o := by subst h; exact heap_alloc_last w o
theorem below3 (w : World) (a b c : Obj) : Below w.heap.size w (((w.alloc a).alloc b).alloc c) := (((Below.refl _ _).alloc (Nat.le_refl _) _).alloc (by rw [asz]; omega) _).alloc (by rw [asz, asz]; omega) _
theorem range_below {w w' : World} {B b o : Nat} {cs : List Value} (h : w.rangeAt b o cs) (hb : Below B w w') (hlt : b < B) : w'.rangeAt b o cs := fun j v hv => (hb.cell (p := ⟨b, o + j, none⟩) hlt).trans (h j v hv)
theorem abc_two : ([] : List UInt8) ++ [[(97 : UInt8)], [98, 99]].flatten = [97, 98, 99] := rfl
theorem abc_parts : [[(97 : UInt8), 98, 99]].flatten = [97, 98, 99] := rfl

end Go.Proofs.YtbjpbeplpljieaaDoor

/-
 HOW THE WALK OF A LAW BECOMES ITS STATEMENT: a law hands back true and its arguments read as before; a slice of bytes, a slice of bools, opened; what the bound of the second form gives.
-/
namespace Go.Proofs.YtbjpbeplpljieaaDoor
open Go.ChangeShapes Go.WideShapes Go.ChangeAt Go.RowKit
set_option maxRecDepth 100000

theorem own : ownKnob Tryd.prog.godebug = none := by kernel_rfl
theorem laidOut : laidOutB Tryd.prog = true := by kernel_rfl
theorem cells_u8 : Tryd.prog.cellsOf 5 = 1 := by kernel_rfl
theorem bytes_u8 : Tryd.prog.bytesOf 5 = 1 := by kernel_rfl
theorem cells_bool : Tryd.prog.cellsOf 4 = 1 := by kernel_rfl

section
variable {H : Type} {enc : TypeId × Value → H} {P : Program}
/-- every argument reads behind the call as it read before -/
theorem trodAll_below (hl : laidOutB P = true) {ts : List TypeId} (hts : ts.all (fun t => P.readableRec t && decide (t < P.types.size)) = true) {W W' : World} (hb : Below W.heap.size W W') :
  ∀ {vs : List Value} {ds : List (DataW H)} {ps : List MemPlace}, DataW.TrodAll enc P W 0 (fun _ => true) true ts vs ds ps → (∀ x ∈ ps, x.block < W.heap.size) →
   DataW.TrodAll enc P W' 0 (fun b => decide (b < W.heap.size)) true ts vs ds ps := by
 induction ts with
 | nil =>
  intro vs ds ps h _
  obtain ⟨rfl, rfl, rfl⟩ := trodAll_nil h
  exact trodAll_mk0
 | cons t ts ih =>
  intro vs ds ps h hlt
  obtain ⟨v0, vs0, d0, ds0, p0, q0, rfl, rfl, rfl, h0, r0⟩ := trodAll_cons h
  simp only [List.all_cons, Bool.and_eq_true, decide_eq_true_eq] at hts
  exact trodAll_cons_mk (Below.trod hl hts.1.1 hts.1.2 h0 hb (fun x hx => hlt x (List.mem_append_left _ hx))) (ih (by simpa using hts.2) r0 (fun x hx => hlt x (List.mem_append_right _ hx)))

/-- THE END OF A LAW: true is handed back, the arguments stay. -/
theorem law_post {f : Func} {s : ChangeSpec} {W W' : World} {args : Array Value} {ds : List (DataW H)} {before : List MemPlace} (hl : laidOutB P = true) (hbool : P.underlying 4 = some .bool)
  (hts : f.params.toList.all (fun t => P.readableRec t && decide (t < P.types.size)) = true) (hret : f.resultTypes = #[4]) (hv : s.vars = [])
  (hres : (s.fn H ds).results = [.lit (.bool true)]) (hargs : (s.fn H ds).args = ds) (hvars : (s.fn H ds).vars = [])
  (hW : DataW.Whole enc P f.params.toList s.vars false W args.toList ds [] before) (hb : Below W.heap.size W W') :
  s.post enc P f false true false false W args (.bool true) W' := by
 have hlt : ∀ x ∈ before, x.block < W.heap.size := fun x hx => hW.lt x hx
 have hW0 := hW
 obtain ⟨p, q, hA, hV, rfl, _, _⟩ := hW
 have hq : q = [] := by
  rw [hv] at hV
  exact (trodVars_none hV).2
 subst hq
 rw [List.append_nil] at hlt
 refine ⟨ds, [], p ++ [], [], p, [], hW0, ?_, ?_, ?_, hb.frame _, fun h => by cases h⟩
 ·rw [List.append_nil, hres, hret]
  exact trodAll_cons_mk (shut_bool hbool true) trodAll_mk0
 ·rw [List.append_nil, hargs]
  exact trodAll_below hl hts hb hA hlt
 ·rw [List.append_nil, hvars, hv]
  exact rfl

/-- A slice of bytes that came in: it reads as a list of bytes; so many elements has its datum. -/
theorem open_bytes {W : World} {base : Nat} {t e : TypeId} {v : Value} {d : DataW H} {ps : List MemPlace} (ht : P.underlying t = some (.slice e)) (he : P.underlying e = some (.int .u8)) (hc : P.cellsOf e = 1)
  (hval : Value.okWide P W .any base t v) (h : DataW.Trod enc P W 0 (fun _ => true) true t v d ps) :
  ∃ bs : List UInt8, Sl W W.heap.size v bs ∧ ((d = .nil ∧ bs = []) ∨ ∃ el sp, d = .slice el sp ∧ el.length = bs.length) := by
 obtain ⟨a0, len, cap, rfl⟩ := okWide_slice ht hval
 obtain ⟨fuel, hf⟩ := h
 rcases open_ints ht he hc hf with ⟨hcs, hx⟩ | ⟨a, len', cap', zs, hcs, _, hl, hm, hz, hx, hcell, hwz⟩
 ·simp [Value.cells] at hcs
  obtain ⟨rfl, rfl, rfl⟩ := hcs
  simp only [Prod.mk.injEq] at hx
  exact ⟨[], Sl.nil_, .inl ⟨hx.1, rfl⟩⟩
 ·simp [Value.cells] at hcs
  obtain ⟨rfl, rfl, rfl⟩ := hcs
  simp only [Prod.mk.injEq] at hx
  have hzl : zs.length = cap := by simpa using hz
  have hbl : ((zs.take len).map fun z => UInt8.ofNat z.toNat).length = len := by simp; omega
  refine ⟨(zs.take len).map fun z => UInt8.ofNat z.toNat, ⟨some a, cap, by rw [hbl], by omega, hm, fun hn => ?_⟩, .inr ⟨_, _, hx.1, by simp [lits]⟩⟩
  rw [hbl] at hn
  have h0 := hcell 0 (by omega)
  have hsp : a.spot = none := by
   simp only [Addr.add, if_true, World.cell?] at h0
   split at h0
   ·split at h0
    ·cases h0
    ·rename_i hns; simpa using hns
   ·cases h0
  obtain ⟨b, off, sp⟩ := a
  simp only at hsp
  subst hsp
  have hb : b < W.heap.size := by
   have := World.block_lt_of_cell? W _ h0
   simpa [Addr.add] using this
  refine ⟨b, off, rfl, hb, fun k hk => ?_⟩
  rw [hbl] at hk
  have hck := hcell k (by omega)
  rw [addr_add] at hck
  rw [hck]
  have hkz : k < zs.length := by omega
  have hwf := hwz zs[k] (List.getElem_mem hkz)
  have hg : zs.getD k 0 = zs[k] := by simp [List.getD, List.getElem?_eq_getElem hkz]
  have hr : 0 ≤ zs[k] ∧ zs[k] ≤ 255 := by simpa [Lit.wf, IntKind.min, IntKind.max, IntKind.signed, IntKind.bits] using hwf
  have hu : ((UInt8.ofNat zs[k].toNat).toNat : Int) = zs[k] := by
   have : (UInt8.ofNat zs[k].toNat).toNat = zs[k].toNat := by simp; omega
   rw [this]; omega
  rw [hg]
  simp only [List.getElem_map, List.getElem_take]
  rw [hu]
end

/-! the bulk of what came in -/
theorem bulk_le {H : Type} {d : DataW H} {l : List (DataW H)} (h : d ∈ l) : Rows.uptoBulk d ≤ Rows.uptoBulkAll l := by
 induction l with
 | nil => cases h
 | cons x r ih =>
  simp only [Rows.uptoBulkAll]
  cases List.mem_cons.1 h with
  | inl e => subst e; omega
  | inr e => have := ih e; omega
theorem bulk_one {H : Type} (d : DataW H) : 1 ≤ Rows.uptoBulk d := by
 cases d with
 | lit l => cases l <;> simp [Rows.uptoBulk]
 | nil => simp [Rows.uptoBulk]
 | ptr d => simp [Rows.uptoBulk]
 | slice elems spare => simp [Rows.uptoBulk]
 | agg parts => simp [Rows.uptoBulk]
 | iface t d => simp [Rows.uptoBulk]
 | map entries => simp [Rows.uptoBulk]
 | held h => simp [Rows.uptoBulk]
theorem bulk_length {H : Type} (l : List (DataW H)) : l.length ≤ Rows.uptoBulkAll l := by
 induction l with
 | nil => simp [Rows.uptoBulkAll]
 | cons x r ih => have := bulk_one x; simp only [Rows.uptoBulkAll, List.length_cons]; omega
theorem bulk_slice {H : Type} (el sp : List (DataW H)) : el.length + 1 ≤ Rows.uptoBulk (.slice el sp) := by
 have h1 := bulk_length el
 simp only [Rows.uptoBulk]
 omega
theorem bulk_string {H : Type} (bytes : List UInt8) : Rows.uptoBulk (DataW.lit (H := H) (.string bytes)) = bytes.length + 1 := by
 simp [Rows.uptoBulk]
theorem bulk_small {H : Type} {l : List (DataW H)} (hk : Rows.uptoSmall H l = true) : Rows.uptoBulkAll l ≤ 1048576 := of_decide_eq_true hk
theorem bytes_small {H : Type} {d : DataW H} {l : List (DataW H)} {bs : List UInt8} (hk : Rows.uptoSmall H l = true) (hm : d ∈ l) (h : (d = .nil ∧ bs = []) ∨ ∃ el sp, d = .slice el sp ∧ el.length = bs.length) : bs.length ≤ 1048576 := by
 have h1 := bulk_small hk
 have h2 := bulk_le hm
 rcases h with ⟨_, rfl⟩ | ⟨el, sp, rfl, he⟩
 ·simp
 ·have := bulk_slice el sp
  omega
theorem string_small {H : Type} {l : List (DataW H)} {s : ByteArray} (hk : Rows.uptoSmall H l = true) (hm : DataW.lit (.string s.data.toList) ∈ l) : s.size ≤ 1048576 := by
 have h1 := bulk_small hk
 have h2 := bulk_le hm
 rw [bulk_string] at h2
 have e : s.data.toList.length = s.size := by rw [Array.length_toList]; rfl
 omega
end Go.Proofs.YtbjpbeplpljieaaDoor


/-
  PLAIN MATHEMATICS: words of 64 bits; one permutation Keccak-f[1600] on a list of 25 lanes; the sponge on bytes. Nothing of the program is named here.
-/
namespace Go.Proofs.YtbjpbeplpljieaaDoor
open Go.RowKit
set_option maxRecDepth 100000

def rotl (x : UInt64) (n : Nat) : UInt64 := UInt64.ofNat ((x.toNat * 2 ^ n % 18446744073709551616) ||| (x.toNat / 2 ^ (64 - n)))
theorem wraps_u64 (m : Int) (h0 : 0 ≤ m) (h1 : m < 18446744073709551616) : IntKind.u64.wrap m = m := by rw [IntKind.wrap_u64]; omega
theorem u64_or (a b : UInt64) : bits .or .u64 a.toNat b.toNat = ((a ||| b).toNat : Int) := by
  rw [(bits_nat .u64 64 (by decide) wraps_u64 _ _ a.toNat_lt b.toNat_lt).2]; simp
theorem u64_and (a b : UInt64) : bits .and .u64 a.toNat b.toNat = ((a &&& b).toNat : Int) := by
  rw [(bits_nat .u64 64 (by decide) wraps_u64 _ _ a.toNat_lt b.toNat_lt).1]; simp
theorem bv_lane (a : UInt64) : BitVec.ofInt 64 (a.toNat : Int) = a.toBitVec := by
  apply BitVec.eq_of_toNat_eq
  have := a.toNat_lt
  simp
theorem u64_xor (a b : UInt64) : bits .xor .u64 (a.toNat : Int) (b.toNat : Int) = ((a ^^^ b).toNat : Int) := by
  have hx := (a ^^^ b).toNat_lt
  show IntKind.u64.wrap (((BitVec.ofInt 64 (a.toNat : Int) ^^^ BitVec.ofInt 64 (b.toNat : Int)).toNat : Nat) : Int) = _
  rw [bv_lane, bv_lane, show (a.toBitVec ^^^ b.toBitVec).toNat = (a ^^^ b).toNat from rfl, wraps_u64 _ (by omega) (by omega)]
theorem or_lt64 {a b : Nat} (ha : a < 18446744073709551616) (hb : b < 18446744073709551616) : a ||| b < 18446744073709551616 := Nat.or_lt_two_pow (n := 64) ha hb
theorem div_lt64 (x : UInt64) (n : Nat) : x.toNat / 2 ^ n < 18446744073709551616 := Nat.lt_of_le_of_lt (Nat.div_le_self _ _) x.toNat_lt
theorem ofNat64 {n : Nat} (h : n < 18446744073709551616) : (UInt64.ofNat n).toNat = n := by simp; omega
/-- x<<n | x>>(64-n) -/
theorem u64_rotl (x : UInt64) (n : Nat) : bits .or .u64 (((x.toNat : Int) * 2 ^ n) % 18446744073709551616) ((x.toNat : Int) / 2 ^ (64 - n)) = ((rotl x n).toNat : Int) := by
  have h1 := div_lt64 x (64 - n)
  have h2 : x.toNat * 2 ^ n % 18446744073709551616 < 18446744073709551616 := Nat.mod_lt _ (by decide)
  have e1 : (x.toNat : Int) / 2 ^ (64 - n) = ((x.toNat / 2 ^ (64 - n) : Nat) : Int) := by simp
  have e2 : ((x.toNat : Int) * 2 ^ n) % 18446744073709551616 = ((x.toNat * 2 ^ n % 18446744073709551616 : Nat) : Int) := by simp
  rw [e1, e2, (bits_nat .u64 64 (by decide) wraps_u64 _ _ h2 h1).2, rotl, ofNat64 (or_lt64 h2 h1)]

def laneCells (l : List UInt64) : List Value := l.map fun x => .int .u64 (x.toNat : Int)
/-! ### the permutation -/
theorem kgetD_get {α : Type} (l : List α) (i : Nat) (d : α) (h : i < l.length) : l.getD i d = l[i] := by simp [List.getD, List.getElem?_eq_getElem h]
def kC : List UInt64 := [
  0x0000000000000001, 0x0000000000008082, 0x800000000000808a, 0x8000000080008000,
  0x000000000000808b, 0x0000000080000001, 0x8000000080008081, 0x8000000000008009,
  0x000000000000008a, 0x0000000000000088, 0x0000000080008009, 0x000000008000000a,
  0x000000008000808b, 0x800000000000008b, 0x8000000000008089, 0x8000000000008003,
  0x8000000000008002, 0x8000000000000080, 0x000000000000800a, 0x800000008000000a,
  0x8000000080008081, 0x8000000000008080, 0x0000000080000001, 0x8000000080008008]
def lane (l : List UInt64) (i : Nat) : UInt64 := l.getD i 0
def colX (l : List UInt64) (x : Nat) : UInt64 := lane l x ^^^ lane l (x + 5) ^^^ lane l (x + 10) ^^^ lane l (x + 15) ^^^ lane l (x + 20)
def mixOf (l : List UInt64) (d0 d1 d2 d3 d4 : UInt64) : List UInt64 := [
  lane l 0 ^^^ d0, rotl (lane l 6 ^^^ d1) 44, rotl (lane l 12 ^^^ d2) 43, rotl (lane l 18 ^^^ d3) 21, rotl (lane l 24 ^^^ d4) 14,
  rotl (lane l 3 ^^^ d3) 28, rotl (lane l 9 ^^^ d4) 20, rotl (lane l 10 ^^^ d0) 3, rotl (lane l 16 ^^^ d1) 45, rotl (lane l 22 ^^^ d2) 61,
  rotl (lane l 1 ^^^ d1) 1, rotl (lane l 7 ^^^ d2) 6, rotl (lane l 13 ^^^ d3) 25, rotl (lane l 19 ^^^ d4) 8, rotl (lane l 20 ^^^ d0) 18,
  rotl (lane l 4 ^^^ d4) 27, rotl (lane l 5 ^^^ d0) 36, rotl (lane l 11 ^^^ d1) 10, rotl (lane l 17 ^^^ d2) 15, rotl (lane l 23 ^^^ d3) 56,
  rotl (lane l 2 ^^^ d2) 62, rotl (lane l 8 ^^^ d3) 55, rotl (lane l 14 ^^^ d4) 39, rotl (lane l 15 ^^^ d0) 41, rotl (lane l 21 ^^^ d1) 2]
def mixL (l : List UInt64) : List UInt64 :=
  mixOf l (colX l 4 ^^^ rotl (colX l 1) 1) (colX l 0 ^^^ rotl (colX l 2) 1) (colX l 1 ^^^ rotl (colX l 3) 1) (colX l 2 ^^^ rotl (colX l 4) 1) (colX l 3 ^^^ rotl (colX l 0) 1)
theorem mixL_length (l : List UInt64) : (mixL l).length = 25 := rfl
/-- what chi makes of five lanes -/
def andn (a b : UInt64) : UInt64 := a &&& ~~~b
theorem u64_andn (a b : UInt64) : bits .andNot .u64 (a.toNat : Int) (b.toNat : Int) = ((andn a b).toNat : Int) := by
  have hx := (andn a b).toNat_lt
  show IntKind.u64.wrap (((BitVec.ofInt 64 (a.toNat : Int) &&& ~~~BitVec.ofInt 64 (b.toNat : Int)).toNat : Nat) : Int) = _
  rw [bv_lane, bv_lane, show (a.toBitVec &&& ~~~b.toBitVec).toNat = (andn a b).toNat from rfl, wraps_u64 _ (by omega) (by omega)]
def chi5 (b0 b1 b2 b3 b4 : UInt64) : List UInt64 := [b0 ^^^ andn b2 b1, b1 ^^^ andn b3 b2, b2 ^^^ andn b4 b3, b3 ^^^ andn b0 b4, b4 ^^^ andn b1 b0]
def rowX (b : List UInt64) (y : Nat) : List UInt64 := chi5 (lane b y) (lane b (y + 1)) (lane b (y + 2)) (lane b (y + 3)) (lane b (y + 4))
def chiL (b : List UInt64) : List UInt64 := rowX b 0 ++ rowX b 5 ++ rowX b 10 ++ rowX b 15 ++ rowX b 20
theorem rowX_length (b : List UInt64) (y : Nat) : (rowX b y).length = 5 := rfl
theorem chiL_length (b : List UInt64) : (chiL b).length = 25 := rfl
def iotaL (l : List UInt64) (c : UInt64) : List UInt64 := l.set 0 (lane l 0 ^^^ c)
def permK (s : List UInt64) : Nat → List UInt64
  | 0 => s
  | n + 1 => iotaL (chiL (mixL (permK s n))) (lane kC n)
def permL (s : List UInt64) : List UInt64 := permK s 24
theorem permK_length (s : List UInt64) (h : s.length = 25) (n : Nat) : (permK s n).length = 25 := by
  cases n with
  | zero => exact h
  | succ n => simp [permK, iotaL, chiL_length]
theorem permL_length (s : List UInt64) (h : s.length = 25) : (permL s).length = 25 := permK_length s h 24

/-! ### the sponge -/
/-- the lanes and the place of the next byte -/
structure Sp where
  l : List UInt64
  at_ : Nat
def Sp.next (s : Sp) (rate : Nat) : Sp := if s.at_ = rate then ⟨permL s.l, 1⟩ else ⟨s.l, s.at_ + 1⟩
/-- the byte at place p of the block is combined with b -/
def maskL (l : List UInt64) (p : Nat) (b : UInt8) : List UInt64 := l.set (p / 8) (lane l (p / 8) ^^^ UInt64.ofNat (b.toNat * 2 ^ (8 * (p % 8))))
def byteL (l : List UInt64) (p : Nat) : UInt8 := UInt8.ofNat ((lane l (p / 8)).toNat / 2 ^ (8 * (p % 8)))
def Sp.put (s : Sp) (rate : Nat) (b : UInt8) : Sp := ⟨maskL (s.next rate).l ((s.next rate).at_ - 1) b, (s.next rate).at_⟩
def Sp.puts (s : Sp) (rate : Nat) : List UInt8 → Sp
  | [] => s
  | b :: r => (s.put rate b).puts rate r
/-- n bytes more of the output, and the sponge behind them -/
def Sp.outs (s : Sp) (rate : Nat) : Nat → List UInt8
  | 0 => []
  | n + 1 => byteL (s.next rate).l ((s.next rate).at_ - 1) :: (s.next rate).outs rate n
def Sp.behind (s : Sp) (rate : Nat) : Nat → Sp
  | 0 => s
  | n + 1 => (s.next rate).behind rate n
def zeroL : List UInt64 := List.replicate 25 0
def absorbL (rate : Nat) (suffix : UInt8) (m : List UInt8) : Sp := ⟨maskL ((Sp.mk zeroL 0).puts rate (m ++ [suffix])).l (rate - 1) 128, rate⟩
/-- n bytes of the output of m -/
def spongeL (rate : Nat) (suffix : UInt8) (m : List UInt8) (n : Nat) : List UInt8 := (absorbL rate suffix m).outs rate n

theorem sha3_empty : (spongeL 136 6 [] 32).take 4 = [0xa7, 0xff, 0xc6, 0xf8] := by decide +kernel
theorem shake_empty : spongeL 168 31 [] 4 = [0x7f, 0x9c, 0x2b, 0xa4] := by decide +kernel
end Go.Proofs.YtbjpbeplpljieaaDoor

/-
  PLAIN MATHEMATICS: bytes laid into lanes; the sponge block by block; the document's round. Nothing of the program is named here.
-/
namespace Go.Proofs.YtbjpbeplpljieaaDoor
open Go.RowKit
set_option maxRecDepth 100000

theorem lane_set_eq (l : List UInt64) (k : Nat) (x : UInt64) (h : k < l.length) : lane (l.set k x) k = x := by
  simp [lane, List.getD, h]
theorem lane_set_ne (l : List UInt64) (k j : Nat) (x : UInt64) (h : j ≠ k) : lane (l.set k x) j = lane l j := by
  simp [lane, List.getD, List.getElem?_set_ne (Ne.symm h)]
theorem set_lane (l : List UInt64) (k : Nat) : l.set k (lane l k) = l := by
  apply List.ext_getElem?
  intro i
  by_cases h : k = i
  · subst h
    by_cases hk : k < l.length
    · rw [List.getElem?_set_self hk, lane, kgetD_get l k 0 hk, List.getElem?_eq_getElem hk]
    · rw [List.getElem?_eq_none (by simpa using hk), List.getElem?_eq_none (by simpa using hk)]
  · rw [List.getElem?_set_ne h]
theorem byte_pow (b : UInt8) (n : Nat) (h : n ≤ 56) : b.toNat * 2 ^ n < 18446744073709551616 := by
  have hb : b.toNat < 256 := b.toNat_lt
  have h1 : 2 ^ n ≤ 2 ^ 56 := Nat.pow_le_pow_right (by decide) h
  calc b.toNat * 2 ^ n ≤ 255 * 2 ^ 56 := Nat.mul_le_mul (by omega) h1
    _ < 18446744073709551616 := by decide
theorem byte_toNat (b : UInt8) (n : Nat) (h : n ≤ 56) : (UInt64.ofNat (b.toNat * 2 ^ n)).toNat = b.toNat * 2 ^ n := ofNat64 (byte_pow b n h)
theorem xor_is_or (x : UInt64) (b : UInt8) (n : Nat) (h : n ≤ 56) (hx : x.toNat < 2 ^ n) : x ^^^ UInt64.ofNat (b.toNat * 2 ^ n) = x ||| UInt64.ofNat (b.toNat * 2 ^ n) := by
  apply UInt64.toNat_inj.1
  rw [UInt64.toNat_xor, UInt64.toNat_or, byte_toNat b n h]
  apply Nat.eq_of_testBit_eq
  intro i
  rw [Nat.testBit_xor, Nat.testBit_or, Nat.testBit_mul_two_pow]
  by_cases hi : n ≤ i
  · have : x.toNat.testBit i = false := Nat.testBit_lt_two_pow (Nat.lt_of_lt_of_le hx (Nat.pow_le_pow_right (by decide) hi))
    simp [this]
  · simp [hi]
theorem xor_low (x : UInt64) (b : UInt8) (n : Nat) (h : n ≤ 56) (hx : x.toNat < 2 ^ n) : (x ||| UInt64.ofNat (b.toNat * 2 ^ n)).toNat < 2 ^ (n + 8) := by
  rw [UInt64.toNat_or, byte_toNat b n h]
  refine Nat.or_lt_two_pow (Nat.lt_of_lt_of_le hx (Nat.pow_le_pow_right (by decide) (by omega))) ?_
  rw [Nat.pow_add, Nat.mul_comm]
  exact Nat.mul_lt_mul_of_pos_left b.toNat_lt (Nat.two_pow_pos n)
theorem xor_bytes (a b : UInt8) (n : Nat) (h : n ≤ 56) : UInt64.ofNat (a.toNat * 2 ^ n) ^^^ UInt64.ofNat (b.toNat * 2 ^ n) = UInt64.ofNat ((a ^^^ b).toNat * 2 ^ n) := by
  apply UInt64.toNat_inj.1
  rw [UInt64.toNat_xor, byte_toNat a n h, byte_toNat b n h, byte_toNat (a ^^^ b) n h, UInt8.toNat_xor]
  apply Nat.eq_of_testBit_eq
  intro i
  rw [Nat.testBit_xor, Nat.testBit_mul_two_pow, Nat.testBit_mul_two_pow, Nat.testBit_mul_two_pow, Nat.testBit_xor]
  by_cases hi : n ≤ i
  · simp [hi]
  · simp [hi]

/-! ### bytes laid into lanes -/
/-- bytes combined with the lanes from place p on -/
def layX (l : List UInt64) (p : Nat) : List UInt8 → List UInt64
  | [] => l
  | b :: r => layX (maskL l p b) (p + 1) r
def orL (l : List UInt64) (p : Nat) (b : UInt8) : List UInt64 := l.set (p / 8) (lane l (p / 8) ||| UInt64.ofNat (b.toNat * 2 ^ (8 * (p % 8))))
def layO (l : List UInt64) (p : Nat) : List UInt8 → List UInt64
  | [] => l
  | b :: r => layO (orL l p b) (p + 1) r
theorem maskL_length (l : List UInt64) (p : Nat) (b : UInt8) : (maskL l p b).length = l.length := List.length_set
theorem orL_length (l : List UInt64) (p : Nat) (b : UInt8) : (orL l p b).length = l.length := List.length_set
theorem layX_length (r : List UInt8) : ∀ (l : List UInt64) (p : Nat), (layX l p r).length = l.length := by
  induction r with
  | nil => intro l p; rfl
  | cons b r ih => intro l p; rw [layX, ih, maskL_length]
theorem layO_length (r : List UInt8) : ∀ (l : List UInt64) (p : Nat), (layO l p r).length = l.length := by
  induction r with
  | nil => intro l p; rfl
  | cons b r ih => intro l p; rw [layO, ih, orL_length]
theorem layX_append (r s : List UInt8) : ∀ (l : List UInt64) (p : Nat), layX l p (r ++ s) = layX (layX l p r) (p + r.length) s := by
  induction r with
  | nil => intro l p; rfl
  | cons b r ih => intro l p; rw [List.cons_append, layX, layX, ih, List.length_cons, Nat.add_assoc, Nat.add_comm 1]
theorem layO_append (r s : List UInt8) : ∀ (l : List UInt64) (p : Nat), layO l p (r ++ s) = layO (layO l p r) (p + r.length) s := by
  induction r with
  | nil => intro l p; rfl
  | cons b r ih => intro l p; rw [List.cons_append, layO, layO, ih, List.length_cons, Nat.add_assoc, Nat.add_comm 1]
theorem layX_take (r : List UInt8) (l : List UInt64) (p k : Nat) (h : k < r.length) : layX l p (r.take (k + 1)) = maskL (layX l p (r.take k)) (p + k) r[k] := by
  rw [List.take_succ_eq_append_getElem h, layX_append, List.length_take, Nat.min_eq_left (Nat.le_of_lt h)]
  rfl
theorem layO_take (r : List UInt8) (l : List UInt64) (p k : Nat) (h : k < r.length) : layO l p (r.take (k + 1)) = orL (layO l p (r.take k)) (p + k) r[k] := by
  rw [List.take_succ_eq_append_getElem h, layO_append, List.length_take, Nat.min_eq_left (Nat.le_of_lt h)]
  rfl
theorem maskL_zero (l : List UInt64) (p : Nat) : maskL l p 0 = l := by
  have h0 : UInt64.ofNat ((0 : UInt8).toNat * 2 ^ (8 * (p % 8))) = 0 := by
    rw [show (0 : UInt8).toNat = 0 from rfl, Nat.zero_mul]; rfl
  rw [maskL, h0, UInt64.xor_zero, set_lane]
theorem layX_zeros (n : Nat) : ∀ (l : List UInt64) (p : Nat), layX l p (List.replicate n 0) = l := by
  induction n with
  | zero => intro l p; rfl
  | succ n ih => intro l p; rw [List.replicate_succ, layX, maskL_zero, ih]
theorem maskL_maskL (l : List UInt64) (p : Nat) (h : p / 8 < l.length) (a b : UInt8) : maskL (maskL l p a) p b = maskL l p (a ^^^ b) := by
  unfold maskL
  rw [lane_set_eq _ _ _ h, List.set_set, UInt64.xor_assoc, xor_bytes a b _ (by omega)]
/-- the lanes have no bits from place p on -/
def Low (l : List UInt64) (p : Nat) : Prop := ∀ j, (lane l j).toNat < 2 ^ (8 * min 8 (p - 8 * j))
theorem low_zero : Low zeroL 0 := by
  intro j
  have : lane zeroL j = 0 := by
    unfold lane zeroL List.getD
    rw [List.getElem?_replicate]
    split <;> rfl
  rw [this]
  exact Nat.two_pow_pos _
theorem low_step (l : List UInt64) (p : Nat) (b : UInt8) (hl : l.length = 25) (hp : p < 200) (h : Low l p) : Low (orL l p b) (p + 1) ∧ maskL l p b = orL l p b := by
  have hx := h (p / 8)
  have e : min 8 (p - 8 * (p / 8)) = p % 8 := by omega
  rw [e] at hx
  constructor
  · intro j
    by_cases hj : j = p / 8
    · subst hj
      unfold orL
      rw [lane_set_eq _ _ _ (by omega), show 8 * min 8 (p + 1 - 8 * (p / 8)) = 8 * (p % 8) + 8 by omega]
      exact xor_low _ b _ (by omega) hx
    · unfold orL
      rw [lane_set_ne _ _ _ _ hj]
      exact Nat.lt_of_lt_of_le (h j) (Nat.pow_le_pow_right (by decide) (by omega))
  · unfold maskL orL
    rw [xor_is_or _ b _ (by omega) hx]
theorem layX_layO (r : List UInt8) : ∀ (l : List UInt64) (p : Nat), l.length = 25 → p + r.length ≤ 200 → Low l p → layX l p r = layO l p r := by
  induction r with
  | nil => intro l p _ _ _; rfl
  | cons b r ih =>
    intro l p hl hp h
    rw [List.length_cons] at hp
    have hs := low_step l p b hl (by omega) h
    rw [layX, layO, hs.2]
    exact ih _ _ (by rw [orL_length, hl]) (by omega) hs.1

/-! ### the sponge, block by block -/
theorem puts_lay (rate : Nat) (r : List UInt8) : ∀ (l : List UInt64) (a : Nat), a + r.length ≤ rate → (Sp.mk l a).puts rate r = ⟨layX l a r, a + r.length⟩ := by
  induction r with
  | nil => intro l a _; rfl
  | cons b r ih =>
    intro l a h
    rw [List.length_cons] at h
    have hn : (Sp.mk l a).next rate = ⟨l, a + 1⟩ := if_neg (by show ¬ a = rate; omega)
    rw [Sp.puts, Sp.put, hn]
    show Sp.puts ⟨maskL l (a + 1 - 1) b, a + 1⟩ rate r = _
    rw [Nat.add_sub_cancel, ih _ _ (by omega), layX, List.length_cons, Nat.add_assoc, Nat.add_comm 1]
theorem puts_full (rate : Nat) (hr : 0 < rate) (l : List UInt64) (r : List UInt8) (h : r ≠ []) : (Sp.mk l rate).puts rate r = (Sp.mk (permL l) 0).puts rate r := by
  cases r with
  | nil => exact absurd rfl h
  | cons b r =>
    have h1 : (Sp.mk l rate).next rate = ⟨permL l, 1⟩ := if_pos rfl
    have h2 : (Sp.mk (permL l) 0).next rate = ⟨permL l, 1⟩ := if_neg (by show ¬ 0 = rate; omega)
    rw [Sp.puts, Sp.puts, Sp.put, Sp.put, h1, h2]
theorem puts_app (rate : Nat) (l m : List UInt8) : ∀ s : Sp, s.puts rate (l ++ m) = (s.puts rate l).puts rate m := by
  induction l with
  | nil => intro s; rfl
  | cons b r ih => intro s; exact ih _
/-- the state behind j blocks, permuted -/
def absJ (rate : Nat) (x : List UInt8) : Nat → List UInt64
  | 0 => zeroL
  | j + 1 => permL (layX (absJ rate x j) 0 ((x.drop (j * rate)).take rate))
theorem absJ_length (rate : Nat) (x : List UInt8) (j : Nat) : (absJ rate x j).length = 25 := by
  induction j with
  | zero => rfl
  | succ j ih => exact permL_length _ (by rw [layX_length, ih])
theorem puts_block (rate : Nat) (hr : 0 < rate) (x : List UInt8) : ∀ (j : Nat) (t : List UInt8), j * rate ≤ x.length → t ≠ [] → t.length ≤ rate →
    ((Sp.mk zeroL 0).puts rate (x.take (j * rate))).puts rate t = ⟨layX (absJ rate x j) 0 t, t.length⟩ := by
  intro j
  induction j with
  | zero => intro t _ _ h; rw [Nat.zero_mul, List.take_zero]; exact (puts_lay rate t zeroL 0 (by omega)).trans (by rw [Nat.zero_add]; rfl)
  | succ j ih =>
    intro t hj hne ht
    have hjr : (j + 1) * rate = j * rate + rate := Nat.succ_mul j rate
    rw [hjr] at hj ⊢
    have hbl : ((x.drop (j * rate)).take rate).length = rate := by simp; omega
    rw [List.take_add, puts_app, ih ((x.drop (j * rate)).take rate) (by omega) (by intro e; rw [e] at hbl; simp at hbl; omega) (by omega), hbl, puts_full rate hr _ t hne]
    exact (puts_lay rate t _ 0 (by omega)).trans (by rw [Nat.zero_add]; rfl)
/-- t with zeros behind it up to a block, the last byte turned -/
def kpadB (rate : Nat) (t : List UInt8) : List UInt8 := (t ++ List.replicate (rate - t.length) 0).set (rate - 1) ((t ++ List.replicate (rate - t.length) 0).getD (rate - 1) 0 ^^^ 128)
theorem set_last (z : List UInt8) (n : Nat) (h : z.length = n + 1) (x : UInt8) : z.set n x = z.take n ++ [x] ∧ z = z.take n ++ [z.getD n 0] := by
  have hz : z = z.take n ++ [z.getD n 0] := by
    have := List.take_succ_eq_append_getElem (l := z) (i := n) (by omega)
    rw [List.take_of_length_le (by omega)] at this
    rw [kgetD_get z n 0 (by omega)]
    exact this
  refine ⟨?_, hz⟩
  conv => lhs; rw [hz]
  rw [List.set_append_right _ _ (by simp; omega), show n - (z.take n).length = 0 by simp; omega]
  rfl
theorem layX_padB (rate : Nat) (hr : 0 < rate) (hr2 : rate ≤ 200) (t : List UInt8) (ht : t.length ≤ rate) (l : List UInt64) (hl : l.length = 25) : layX l 0 (kpadB rate t) = maskL (layX l 0 t) (rate - 1) 128 := by
  unfold kpadB
  obtain ⟨z, hz⟩ : ∃ z, z = t ++ List.replicate (rate - t.length) (0 : UInt8) := ⟨_, rfl⟩
  have hzl : z.length = (rate - 1) + 1 := by rw [hz]; simp; omega
  have hlz : layX l 0 z = layX l 0 t := by rw [hz, layX_append, layX_zeros]
  rw [← hz]
  obtain ⟨h1, h2⟩ := set_last z (rate - 1) hzl (z.getD (rate - 1) 0 ^^^ 128)
  rw [h1, layX_append, ← hlz]
  conv => rhs; rw [h2, layX_append]
  have hn : 0 + (z.take (rate - 1)).length = rate - 1 := by simp; omega
  rw [hn]
  show maskL _ _ _ = maskL (maskL _ _ _) _ _
  rw [maskL_maskL _ _ (by rw [layX_length, hl]; omega)]
theorem kpadB_length (rate : Nat) (t : List UInt8) (ht : t.length ≤ rate) : (kpadB rate t).length = rate := by simp [kpadB]; omega
/-- what is absorbed is the blocks, the last one padded -/
theorem absorbL_block (rate : Nat) (hr : 0 < rate) (hr2 : rate ≤ 200) (suf : UInt8) (m : List UInt8) (q : Nat) (hq : q * rate ≤ m.length) (hq2 : m.length < (q + 1) * rate) :
    absorbL rate suf m = ⟨layX (absJ rate (m ++ [suf]) q) 0 (kpadB rate ((m ++ [suf]).drop (q * rate))), rate⟩ := by
  have hqr : (q + 1) * rate = q * rate + rate := Nat.succ_mul q rate
  have hxl : (m ++ [suf]).length = m.length + 1 := by simp
  have htl : ((m ++ [suf]).drop (q * rate)).length = m.length + 1 - q * rate := by rw [List.length_drop, hxl]
  unfold absorbL
  conv => lhs; rw [← List.take_append_drop (q * rate) (m ++ [suf])]
  rw [puts_app, puts_block rate hr (m ++ [suf]) q _ (by omega) (by intro e; rw [e] at htl; simp at htl; omega) (by omega), layX_padB rate hr hr2 _ (by omega) _ (absJ_length _ _ _)]
theorem absJ_prefix (rate : Nat) (x y : List UInt8) (n : Nat) : ∀ j, x.take n = y.take n → j * rate ≤ n → absJ rate x j = absJ rate y j := by
  intro j
  induction j with
  | zero => intro _ _; rfl
  | succ j ih =>
    intro h hn
    have hjr : (j + 1) * rate = j * rate + rate := Nat.succ_mul j rate
    have e : (x.drop (j * rate)).take rate = (y.drop (j * rate)).take rate := by
      have h2 := congrArg (fun z => (z.drop (j * rate)).take rate) h
      simp only [List.drop_take, List.take_take] at h2
      rwa [show min rate (n - j * rate) = rate by omega] at h2
    rw [absJ, absJ, ih h (by omega), e]
theorem outs_block (rate : Nat) (l : List UInt64) : ∀ (n a : Nat), a + n ≤ rate → (Sp.mk l a).outs rate n = (List.range' a n).map (byteL l) ∧ (Sp.mk l a).behind rate n = ⟨l, a + n⟩
  | 0, _, _ => ⟨rfl, rfl⟩
  | n + 1, a, h => by
    have hn : (Sp.mk l a).next rate = ⟨l, a + 1⟩ := if_neg (by show ¬ a = rate; omega)
    have ih := outs_block rate l n (a + 1) (by omega)
    rw [Sp.outs, Sp.behind, hn, ih.1, ih.2]
    refine ⟨?_, by rw [Nat.add_assoc, Nat.add_comm 1]⟩
    rw [List.range'_succ, List.map_cons]
    rfl
theorem outs_full (rate : Nat) (l : List UInt64) (n : Nat) (h0 : 0 < n) (h : n ≤ rate) : (Sp.mk l rate).outs rate n = (List.range n).map (byteL (permL l)) ∧ (Sp.mk l rate).behind rate n = ⟨permL l, n⟩ := by
  obtain ⟨k, rfl⟩ : ∃ k, n = k + 1 := ⟨n - 1, by omega⟩
  have hn : (Sp.mk l rate).next rate = ⟨permL l, 1⟩ := if_pos rfl
  have ih := outs_block rate (permL l) k 1 (by omega)
  rw [Sp.outs, Sp.behind, hn, ih.1, ih.2]
  refine ⟨?_, by rw [Nat.add_comm 1]⟩
  rw [List.range_eq_range', List.range'_succ, List.map_cons]
  rfl
theorem outs_app (rate : Nat) (m : Nat) : ∀ (n : Nat) (s : Sp), s.outs rate (n + m) = s.outs rate n ++ (s.behind rate n).outs rate m
  | 0, s => by rw [Nat.zero_add]; rfl
  | n + 1, s => by
    rw [show n + 1 + m = (n + m) + 1 by omega, Sp.outs, Sp.outs, Sp.behind, outs_app rate m n (s.next rate)]
    rfl
theorem behind_app (rate : Nat) (m : Nat) : ∀ (n : Nat) (s : Sp), s.behind rate (n + m) = (s.behind rate n).behind rate m
  | 0, s => by rw [Nat.zero_add]; rfl
  | n + 1, s => by
    rw [show n + 1 + m = (n + m) + 1 by omega, Sp.behind, Sp.behind, behind_app rate m n (s.next rate)]
end Go.Proofs.YtbjpbeplpljieaaDoor

/-
  PLAIN MATHEMATICS: the document's round on a list of lanes. Nothing of the program is named here.
-/
namespace Go.Proofs.YtbjpbeplpljieaaDoor
open Go.RowKit
set_option maxRecDepth 100000

/-- a lane turned left -/
def trn (x : UInt64) (n : Nat) : UInt64 := if n = 0 then x else rotl x n
/-- the sums of the columns, i lanes in -/
def sumL (a : List UInt64) : Nat → List UInt64
  | 0 => List.replicate 5 0
  | i + 1 => (sumL a i).set (i % 5) (lane (sumL a i) (i % 5) ^^^ lane a i)
/-- lanes with the sums of the columns beside them, i lanes in -/
def thetaL (a s : List UInt64) : Nat → List UInt64
  | 0 => a
  | i + 1 => (thetaL a s i).set i (lane (thetaL a s i) i ^^^ (lane s ((i + 4) % 5) ^^^ trn (lane s ((i + 1) % 5)) 1))
/-- the walk over the lanes -/
def xyN : Nat → Nat × Nat
  | 0 => (1, 0)
  | t + 1 => ((xyN t).2, (2 * (xyN t).1 + 3 * (xyN t).2) % 5)
def rhoL (a : List UInt64) : Nat → List UInt64
  | 0 => (List.replicate 25 0).set 0 (lane a 0)
  | t + 1 => (rhoL a t).set (5 * (xyN (t + 1)).2 + (xyN (t + 1)).1) (trn (lane a (5 * (xyN t).2 + (xyN t).1)) ((t + 1) * (t + 2) / 2 % 64))
def chiR (a b : List UInt64) : Nat → List UInt64
  | 0 => a
  | i + 1 => (chiR a b i).set i (lane b i ^^^ andn (lane b (i / 5 * 5 + (i + 2) % 5)) (lane b (i / 5 * 5 + (i + 1) % 5)))
def roundL (a : List UInt64) (c : UInt64) : List UInt64 := iotaL (chiR (thetaL a (sumL a 25) 25) (rhoL (thetaL a (sumL a 25) 25) 24) 25) c
theorem sumL_length (a : List UInt64) (i : Nat) : (sumL a i).length = 5 := by
  induction i with
  | zero => rfl
  | succ i ih => rw [sumL, List.length_set, ih]
theorem thetaL_length (a s : List UInt64) (i : Nat) : (thetaL a s i).length = a.length := by
  induction i with
  | zero => rfl
  | succ i ih => rw [thetaL, List.length_set, ih]
theorem rhoL_length (a : List UInt64) (i : Nat) : (rhoL a i).length = 25 := by
  induction i with
  | zero => rfl
  | succ i ih => rw [rhoL, List.length_set, ih]
theorem chiR_length (a b : List UInt64) (i : Nat) : (chiR a b i).length = a.length := by
  induction i with
  | zero => rfl
  | succ i ih => rw [chiR, List.length_set, ih]
theorem xyN_lt (t : Nat) : (xyN t).1 < 5 ∧ (xyN t).2 < 5 := by
  induction t with
  | zero => exact ⟨by decide, by decide⟩
  | succ t ih => exact ⟨ih.2, Nat.mod_lt _ (by decide)⟩
theorem thetaL_ahead (a s : List UInt64) (i j : Nat) (h : i ≤ j) : lane (thetaL a s i) j = lane a j := by
  induction i with
  | zero => rfl
  | succ i ih => rw [thetaL, lane_set_ne _ _ _ _ (by omega), ih (by omega)]

section
variable (a0 a1 a2 a3 a4 a5 a6 a7 a8 a9 a10 a11 a12 a13 a14 a15 a16 a17 a18 a19 a20 a21 a22 a23 a24 c : UInt64)
theorem sumL_all : sumL [a0, a1, a2, a3, a4, a5, a6, a7, a8, a9, a10, a11, a12, a13, a14, a15, a16, a17, a18, a19, a20, a21, a22, a23, a24] 25 =
    [a0 ^^^ a5 ^^^ a10 ^^^ a15 ^^^ a20, a1 ^^^ a6 ^^^ a11 ^^^ a16 ^^^ a21, a2 ^^^ a7 ^^^ a12 ^^^ a17 ^^^ a22, a3 ^^^ a8 ^^^ a13 ^^^ a18 ^^^ a23, a4 ^^^ a9 ^^^ a14 ^^^ a19 ^^^ a24] := by
  have h : sumL [a0, a1, a2, a3, a4, a5, a6, a7, a8, a9, a10, a11, a12, a13, a14, a15, a16, a17, a18, a19, a20, a21, a22, a23, a24] 25 =
    [0 ^^^ a0 ^^^ a5 ^^^ a10 ^^^ a15 ^^^ a20, 0 ^^^ a1 ^^^ a6 ^^^ a11 ^^^ a16 ^^^ a21, 0 ^^^ a2 ^^^ a7 ^^^ a12 ^^^ a17 ^^^ a22, 0 ^^^ a3 ^^^ a8 ^^^ a13 ^^^ a18 ^^^ a23, 0 ^^^ a4 ^^^ a9 ^^^ a14 ^^^ a19 ^^^ a24] := by kernel_rfl
  rw [h]
  simp only [UInt64.zero_xor]
variable (c0 c1 c2 c3 c4 : UInt64)
theorem thetaL_all : thetaL [a0, a1, a2, a3, a4, a5, a6, a7, a8, a9, a10, a11, a12, a13, a14, a15, a16, a17, a18, a19, a20, a21, a22, a23, a24] [c0, c1, c2, c3, c4] 25 =
    [a0 ^^^ (c4 ^^^ rotl c1 1), a1 ^^^ (c0 ^^^ rotl c2 1), a2 ^^^ (c1 ^^^ rotl c3 1), a3 ^^^ (c2 ^^^ rotl c4 1), a4 ^^^ (c3 ^^^ rotl c0 1),
     a5 ^^^ (c4 ^^^ rotl c1 1), a6 ^^^ (c0 ^^^ rotl c2 1), a7 ^^^ (c1 ^^^ rotl c3 1), a8 ^^^ (c2 ^^^ rotl c4 1), a9 ^^^ (c3 ^^^ rotl c0 1),
     a10 ^^^ (c4 ^^^ rotl c1 1), a11 ^^^ (c0 ^^^ rotl c2 1), a12 ^^^ (c1 ^^^ rotl c3 1), a13 ^^^ (c2 ^^^ rotl c4 1), a14 ^^^ (c3 ^^^ rotl c0 1),
     a15 ^^^ (c4 ^^^ rotl c1 1), a16 ^^^ (c0 ^^^ rotl c2 1), a17 ^^^ (c1 ^^^ rotl c3 1), a18 ^^^ (c2 ^^^ rotl c4 1), a19 ^^^ (c3 ^^^ rotl c0 1),
     a20 ^^^ (c4 ^^^ rotl c1 1), a21 ^^^ (c0 ^^^ rotl c2 1), a22 ^^^ (c1 ^^^ rotl c3 1), a23 ^^^ (c2 ^^^ rotl c4 1), a24 ^^^ (c3 ^^^ rotl c0 1)] := by kernel_rfl
theorem rhoL_all : rhoL [a0, a1, a2, a3, a4, a5, a6, a7, a8, a9, a10, a11, a12, a13, a14, a15, a16, a17, a18, a19, a20, a21, a22, a23, a24] 24 =
    [a0, rotl a6 44, rotl a12 43, rotl a18 21, rotl a24 14, rotl a3 28, rotl a9 20, rotl a10 3, rotl a16 45, rotl a22 61, rotl a1 1, rotl a7 6, rotl a13 25, rotl a19 8, rotl a20 18,
     rotl a4 27, rotl a5 36, rotl a11 10, rotl a17 15, rotl a23 56, rotl a2 62, rotl a8 55, rotl a14 39, rotl a15 41, rotl a21 2] := by kernel_rfl
theorem chiR_all (b : List UInt64) : chiR [a0, a1, a2, a3, a4, a5, a6, a7, a8, a9, a10, a11, a12, a13, a14, a15, a16, a17, a18, a19, a20, a21, a22, a23, a24] b 25 = chiL b := by kernel_rfl
end
theorem len25 (l : List UInt64) (h : l.length = 25) : ∃ a0 a1 a2 a3 a4 a5 a6 a7 a8 a9 a10 a11 a12 a13 a14 a15 a16 a17 a18 a19 a20 a21 a22 a23 a24 : UInt64, l = [a0, a1, a2, a3, a4, a5, a6, a7, a8, a9, a10, a11, a12, a13, a14, a15, a16, a17, a18, a19, a20, a21, a22, a23, a24] := by
  match l, h with
  | [a0, a1, a2, a3, a4, a5, a6, a7, a8, a9, a10, a11, a12, a13, a14, a15, a16, a17, a18, a19, a20, a21, a22, a23, a24], _ => exact ⟨a0, a1, a2, a3, a4, a5, a6, a7, a8, a9, a10, a11, a12, a13, a14, a15, a16, a17, a18, a19, a20, a21, a22, a23, a24, rfl⟩
theorem chiR_any (a b : List UInt64) (h : a.length = 25) : chiR a b 25 = chiL b := by
  obtain ⟨a0, a1, a2, a3, a4, a5, a6, a7, a8, a9, a10, a11, a12, a13, a14, a15, a16, a17, a18, a19, a20, a21, a22, a23, a24, rfl⟩ := len25 a h
  exact chiR_all a0 a1 a2 a3 a4 a5 a6 a7 a8 a9 a10 a11 a12 a13 a14 a15 a16 a17 a18 a19 a20 a21 a22 a23 a24 b
/-- the document's round is one of the permutation -/
theorem roundL_eq (a : List UInt64) (h : a.length = 25) (c : UInt64) : roundL a c = iotaL (chiL (mixL a)) c := by
  have hb : rhoL (thetaL a (sumL a 25) 25) 24 = mixL a := by
    obtain ⟨a0, a1, a2, a3, a4, a5, a6, a7, a8, a9, a10, a11, a12, a13, a14, a15, a16, a17, a18, a19, a20, a21, a22, a23, a24, rfl⟩ := len25 a h
    exact (congrArg (fun z => rhoL z 24) ((congrArg (fun z => thetaL [a0, a1, a2, a3, a4, a5, a6, a7, a8, a9, a10, a11, a12, a13, a14, a15, a16, a17, a18, a19, a20, a21, a22, a23, a24] z 25) (sumL_all a0 a1 a2 a3 a4 a5 a6 a7 a8 a9 a10 a11 a12 a13 a14 a15 a16 a17 a18 a19 a20 a21 a22 a23 a24)).trans (thetaL_all a0 a1 a2 a3 a4 a5 a6 a7 a8 a9 a10 a11 a12 a13 a14 a15 a16 a17 a18 a19 a20 a21 a22 a23 a24 _ _ _ _ _))).trans ((rhoL_all _ _ _ _ _ _ _ _ _ _ _ _ _ _ _ _ _ _ _ _ _ _ _ _ _).trans (by kernel_rfl))
  exact congrArg (fun z => iotaL z c) ((chiR_any _ _ ((thetaL_length _ _ _).trans h)).trans (congrArg chiL hb))
/-- so many rounds of the document -/
def refPerm (s : List UInt64) : Nat → List UInt64
  | 0 => s
  | n + 1 => roundL (refPerm s n) (lane kC n)
theorem refPerm_eq (s : List UInt64) (h : s.length = 25) (n : Nat) : refPerm s n = permK s n := by
  induction n with
  | zero => rfl
  | succ n ih => rw [refPerm, ih, roundL_eq _ (permK_length s h n), permK]
end Go.Proofs.YtbjpbeplpljieaaDoor

/-
 STEPS BY HAND, stores: a whole row; one cell.
-/
namespace Go.Proofs.YtbjpbeplpljieaaDoor
open Go.RowKit
set_option maxRecDepth 100000
section
variable {P : Program} {md : Region.Mode} {ops : Array Oper} {Q : Exit → Act → World → Prop} {S : World → Prop} {fuel : Nat} {listed : Array Bool} {a : Act} {w : World}
theorem step_storeRow (i : Nat) (ty : TypeId) (x y : Operand) (hop : (ops[i]?).map (fun o => (o.op, o.dst)) = some (.store ty x y, none)) (hw : (ops[i]?).map (fun o => Region.wanted o (yielded ops a.tmps)) = some true)
  (g : Nat) (hx : a.eval x = .pointer (some ⟨g, 0, none⟩)) (ds : List Value) (hy : a.eval y = .agg ds.toArray) (t : TypeId) (cs : List Value) (hr : Row w g t cs) (hi : (P.info? ty).map (·.size) = some ds.length)
  (hold : cs.length = ds.length) (h1 : ∀ u ∈ ds, u.oneCell' = true)
  (h : ∀ w2, Row w2 g t ds → But w.heap.size g w w2 → w2.heap.size = w.heap.size → S w2 ∧ wpAnyH P md ops Q S fuel (listed.setIfInBounds i true) a w2) : HStep P md ops Q S fuel listed a w i := by
 unfold HStep
 cases ho : ops[i]? with
 | none => rw [ho] at hop; cases hop
 | some op =>
  rw [ho] at hop hw
  simp only [Option.map_some, Option.some.injEq, Prod.mk.injEq] at hop hw
  refine wpOp_step ho fun K' hK => ?_
  rw [if_pos hw]
  refine wp_store_row ty x y hop.1 g ds.toArray hx hy t cs.toArray hr (by simpa using hi) (by simpa using hold) (all_oneCell_toArray h1) (hK _ _ ?_)
  rw [hop.2]
  exact h _ (hr.setRow ds) ⟨rfl, rfl, rfl, Nat.le_of_eq (by simp), fun k _ hk => Go.setRow_other w g k _ hk⟩ (by simp)
theorem step_store1 (i : Nat) (opv : Op) (hop : (ops[i]?).map (fun o => (o.op, o.type, o.dst)) = some (opv, 0, none)) (hw : (ops[i]?).map (fun o => Region.wanted o (yielded ops a.tmps)) = some true)
  (w' : World) (hrun : (execOp a.eval ⟨none, opv, 0, "", #[], none⟩).run P w = .ok .skip w') (h : S w' ∧ wpAnyH P md ops Q S fuel (listed.setIfInBounds i true) a w') : HStep P md ops Q S fuel listed a w i := by
 unfold HStep
 cases ho : ops[i]? with
 | none => rw [ho] at hop; cases hop
 | some op =>
  rw [ho] at hop hw
  simp only [Option.map_some, Option.some.injEq, Prod.mk.injEq] at hop hw
  obtain ⟨dst', op', ty', pos', after', guard'⟩ := op
  obtain ⟨rfl, rfl, rfl⟩ := hop
  have hrun' : (execOp a.eval ⟨none, op', 0, pos', after', guard'⟩).run P w = .ok .skip w' := by
   rw [← hrun]
   unfold execOp
   rfl
  refine wpOp_step ho fun K' hK => ?_
  rw [if_pos hw]
  unfold Oper.wp
  rw [hrun']
  exact hK _ _ h
end
end Go.Proofs.YtbjpbeplpljieaaDoor


/-
 WALKS: bits.RotateLeft64, keccak.left, keccak.shift, keccak.chi.
-/
namespace Go.Proofs.YtbjpbeplpljieaaDoor
open Go.RowKit
set_option maxRecDepth 100000

/-- a word is handed back, nothing else has turned -/
def LaneIs (w : World) (x : UInt64) (e : Ending) (w' : World) : Prop := e = .returned ((.int .u64 (x.toNat : Int))) ∧ w' = w

theorem and63 : ∀ n : Fin 64, bits .and .u64 (IntKind.u64.wrap (n.val : Int)) 63 = (n.val : Int) := by decide +kernel
theorem low63 (n : Nat) (h2 : n ≤ 63) : bits .and .u64 (n : Int) 63 = (n : Int) := by
 have := and63 ⟨n, by omega⟩
 simp only at this
 rwa [wraps_u64 _ (by omega) (by omega)] at this
theorem krotateLeft_any (x : UInt64) (n : Nat) (h2 : n ≤ 63) (w : World) :
  Calls Tryd.prog 99 #[(.int .u64 (x.toNat : Int)), .int .i64 (n : Int)] w (LaneIs w (rotl x n)) := by
 unfold LaneIs
 have hb := low63 n h2
 have hr := u64_rotl x n
 have hw := wraps_u64 (n : Int) (by omega) (by omega)
 have q1 : (64 : Int) - (n : Int) = ((64 - n : Nat) : Int) := by omega
 go_enter Tryd.func99, Tryd.ntmps99
 go_wp2
 go_ret
 refine ⟨ret_int ?_, rfl⟩
 exact hr
theorem left_any (x : UInt64) (n : Nat) (h2 : n ≤ 63) (w : World) :
  Calls Tryd.prog 98 #[(.int .u64 (x.toNat : Int)), .int .i64 (n : Int)] w (LaneIs w (rotl x n)) := by
 go_enter Tryd.func98, Tryd.ntmps98
 go_wp2_with (go_at_call 99; refine (krotateLeft_any x n h2 _).mono ?_)
 rintro e wK ⟨rfl, rfl⟩
 go_wp2
 go_ret
 exact ⟨rfl, rfl⟩
theorem shift_any (p : Nat) (w : World) :
  Calls Tryd.prog 71 #[.int .i64 (p : Int)] w fun e w' => e = .returned (.int .i64 ((8 * (p % 8) : Nat) : Int)) ∧ w' = w := by
 obtain ⟨r, hr⟩ : ∃ r, r = p % 8 := ⟨_, rfl⟩
 have q1 : (p : Int).tmod 8 = (r : Int) := (show (p : Int).tmod 8 = ((p % 8 : Nat) : Int) from rfl).trans (by omega)
 have q2 : (p : Int) % 8 = (r : Int) := by omega
 have hr8 : r < 8 := by omega
 rw [← hr]
 clear hr
 go_enter Tryd.func71, Tryd.ntmps71
 go_wp2
 go_ret
 exact ⟨by simp, rfl⟩
/-- five words are handed back, nothing else has turned -/
def FiveIs (w : World) (b0 b1 b2 b3 b4 : UInt64) (e : Ending) (w' : World) : Prop := e = .returned (.tuple #[.int .u64 (b0.toNat : Int), .int .u64 (b1.toNat : Int), .int .u64 (b2.toNat : Int), .int .u64 (b3.toNat : Int), .int .u64 (b4.toNat : Int)]) ∧ w' = w
theorem chi_any (b0 b1 b2 b3 b4 : UInt64) (w : World) :
  Calls Tryd.prog 95 #[.int .u64 (b0.toNat : Int), .int .u64 (b1.toNat : Int), .int .u64 (b2.toNat : Int), .int .u64 (b3.toNat : Int), .int .u64 (b4.toNat : Int)] w
   (FiveIs w (b0 ^^^ andn b2 b1) (b1 ^^^ andn b3 b2) (b2 ^^^ andn b4 b3) (b3 ^^^ andn b0 b4) (b4 ^^^ andn b1 b0)) := by
 unfold FiveIs
 have h1 : ∀ a b : UInt64, bits .xor .u64 (a.toNat : Int) (b.toNat : Int) = ((a ^^^ b).toNat : Int) := u64_xor
 have h2 : ∀ a b : UInt64, bits .andNot .u64 (a.toNat : Int) (b.toNat : Int) = ((andn a b).toNat : Int) := u64_andn
 go_enter Tryd.func95, Tryd.ntmps95
 go_wp2
 refine bodyPost_ret (v := .tuple #[.int .u64 ((b0 ^^^ andn b2 b1).toNat : Int), .int .u64 ((b1 ^^^ andn b3 b2).toNat : Int), .int .u64 ((b2 ^^^ andn b4 b3).toNat : Int), .int .u64 ((b3 ^^^ andn b0 b4).toNat : Int), .int .u64 ((b4 ^^^ andn b1 b0).toNat : Int)]) ?_ rfl ⟨rfl, rfl⟩
 first | kernel_rfl | simp [results, Tryd.results95, go_sem]
end Go.Proofs.YtbjpbeplpljieaaDoor

/-
 STEPS BY HAND in a region that only reads and makes quiet calls, up to a forced tail.
-/
namespace Go.Proofs.YtbjpbeplpljieaaDoor
open Go.RowKit
set_option maxRecDepth 100000
section
variable {P : Program} {ops : Array Oper} {w : World} {Q : Act → Prop} {a : Act} {o : Oper} {rest : List Oper}

theorem still_value (v : Value) (hgd : o.guard = none) (hrun : (execOp a.eval o).run P w = .ok (.value v) w) (h : wpStill P ops w Q rest (a.put o.dst v)) : wpStill P ops w Q (o :: rest) a := by
 refine wpStill_step fun K hK => ?_
 rw [if_pos (by simp [Region.wanted, hgd])]
 unfold Oper.still
 rw [hrun, Oper.stillUpon_value]
 exact hK _ h
theorem still_call (f : FuncId) (args : Array Value) (v : Value) (hgd : o.guard = none) (hrun : (execOp a.eval o).run P w = .ok (.enter f args) w) (hc : Calls P f args w fun e w' => e = .returned v ∧ w' = w) (h : wpStill P ops w Q rest (a.put o.dst v)) : wpStill P ops w Q (o :: rest) a := by
 refine wpStill_step fun K hK => ?_
 rw [if_pos (by simp [Region.wanted, hgd])]
 unfold Oper.still
 rw [hrun]
 exact ⟨rfl, v, hc, hK _ h⟩
theorem run_load1 {ty : TypeId} {k : IntKind} {x : Operand} {v : Value} {b p : Nat} (ho : o.op = .load ty x) (hu : P.underlying ty = some (.int k)) (hx : a.eval x = .pointer (some ⟨b, p, none⟩)) (hc : w.cell? ⟨b, p, none⟩ = some v) : (execOp a.eval o).run P w = .ok (.value v) w := by
 unfold execOp
 simp only [ho, hx]
 have h1 : (isAgg ty).run P w = .ok false w := by
  unfold isAgg
  rw [Sem.run_bind, run_underlying hu w]
  rfl
 simp [Instr.loadAt, Instr.sureAddr, loadVar, h1, go_sem, hc]
theorem run_xorL {x y : Operand} {t u : TypeId} {p q : UInt64} (ho : o.op = .binOp .xor t x y u) (hx : a.eval x = .int .u64 (p.toNat : Int)) (hy : a.eval y = .int .u64 (q.toNat : Int)) : (execOp a.eval o).run P w = .ok (.value (.int .u64 ((p ^^^ q).toNat : Int))) w := by
 have h := u64_xor p q
 unfold execOp
 simp only [ho, hx, hy]
 simp [go_sem, h]
end
end Go.Proofs.YtbjpbeplpljieaaDoor

/-
 LANES: cells of lanes; steps by hand in a plain region.
-/
namespace Go.Proofs.YtbjpbeplpljieaaDoor
open Go.RowKit
set_option maxRecDepth 100000

theorem laneCells_length (l : List UInt64) : (laneCells l).length = l.length := by simp [laneCells]
theorem laneCells_get (l : List UInt64) (k : Nat) (h : k < l.length) : (laneCells l)[k]? = some (.int .u64 (l[k].toNat : Int)) := by
 simp [laneCells, List.getElem?_eq_getElem h]
theorem laneCells_lane (l : List UInt64) (k : Nat) (h : k < l.length) : (laneCells l)[k]? = some (.int .u64 ((lane l k).toNat : Int)) := by
 rw [laneCells_get l k h, lane, kgetD_get l k 0 h]
theorem laneCells_set (l : List UInt64) (k : Nat) (x : UInt64) : (laneCells l).set k (.int .u64 (x.toNat : Int)) = laneCells (l.set k x) := by
 simp [laneCells, List.map_set]
theorem cell_oneLane (l : List UInt64) : ∀ u ∈ laneCells l, u.oneCell' = true := by
 intro u hu
 simp only [laneCells, List.mem_map] at hu
 obtain ⟨b, _, rfl⟩ := hu
 rfl
theorem zero25 : (#[.int .u64 0, .int .u64 0, .int .u64 0, .int .u64 0, .int .u64 0, .int .u64 0, .int .u64 0, .int .u64 0, .int .u64 0, .int .u64 0, .int .u64 0, .int .u64 0, .int .u64 0, .int .u64 0, .int .u64 0, .int .u64 0, .int .u64 0, .int .u64 0, .int .u64 0, .int .u64 0, .int .u64 0, .int .u64 0, .int .u64 0, .int .u64 0, .int .u64 0] : Array Value) = (laneCells (List.replicate 25 0)).toArray := by rfl
theorem info_l25 : (Tryd.prog.info? 71).map (·.size) = some 25 := by kernel_rfl
theorem size_lanes (n : Nat) (l : List UInt64) (h : l.length = n) : some n = some (laneCells l).length := by rw [laneCells_length, h]
/-- an array of lanes is handed back; nothing that was there has turned -/
def LanesIs (w : World) (l : List UInt64) (e : Ending) (w' : World) : Prop := e = .returned (.agg (laneCells l).toArray) ∧ Below w.heap.size w w'


section
variable {P : Program} {ops : Array Oper} {w : World} {Q : Exit → Act → World → Prop} {a : Act} {o : Oper} {rest : List Oper}
theorem wl_value (v : Value) (hgd : o.guard = none) (hrun : (execOp a.eval o).run P w = .ok (.value v) w) (h : wpList P ops Q rest (a.put o.dst v) w) : wpList P ops Q (o :: rest) a w := by
 refine wpList_plain hgd fun K hK => ?_
 unfold Oper.wp
 rw [hrun]
 exact hK _ _ h
theorem wl_valueW (v : Value) (w' : World) (hgd : o.guard = none) (hrun : (execOp a.eval o).run P w = .ok (.value v) w') (h : wpList P ops Q rest (a.put o.dst v) w') : wpList P ops Q (o :: rest) a w := by
 refine wpList_plain hgd fun K hK => ?_
 unfold Oper.wp
 rw [hrun]
 exact hK _ _ h
theorem wl_call (f : FuncId) (args : Array Value) (v : Value) (hgd : o.guard = none) (hrun : (execOp a.eval o).run P w = .ok (.enter f args) w) (hc : Calls P f args w fun e w' => e = .returned v ∧ w' = w) (h : wpList P ops Q rest (a.put o.dst v) w) : wpList P ops Q (o :: rest) a w := by
 refine wpList_plain hgd fun K hK => ?_
 unfold Oper.wp
 rw [hrun, Oper.upon_enter]
 refine hc.mono fun e w' he => ?_
 obtain ⟨rfl, rfl⟩ := he
 exact hK _ _ h
end
end Go.Proofs.YtbjpbeplpljieaaDoor
