/-
 FOUNDATIONS, merged: see the heads of the parts.
-/
import Derived.WalkKit
import Derived.Test.YtpajdmbajopofaaProg
import Derived.WalkSpells
import Derived.WalkLawsBesides
import Derived.Lib.UnsafeStr
import Derived.Lib.Hide
import Derived.Laws.BytesArg
import Derived.Deep.Draws
import Derived.RegionTactic
import Derived.ChangeAlike
import Derived.Laws.AppendOwnNone
import Derived.BigQuiet
import Derived.Deep.QuietTactic
/-
 PLAIN MATHEMATICS for the claims over package octet: integers as bytes, bits of bytes, the model's bit operations on one byte. Nothing of the program is named here.
-/
namespace Go.Proofs.Ytpajdmbajopofaa
open Go.RowKit
set_option maxRecDepth 100000

/-! ### integers as bytes -/
def bigN (bs : List UInt8) : Nat := bs.foldl (fun n b => n * 256 + b.toNat) 0
def litN : List UInt8 → Nat
 | [] => 0
 | b :: r => b.toNat + 256 * litN r
def litB (n : Nat) : Nat → List UInt8
 | 0 => []
 | k + 1 => UInt8.ofNat (n % 256) :: litB (n / 256) k
def bigB (n k : Nat) : List UInt8 := (litB n k).reverse

theorem bigN_snoc (bs : List UInt8) (b : UInt8) : bigN (bs ++ [b]) = bigN bs * 256 + b.toNat := by simp [bigN]
theorem bigN_reverse (bs : List UInt8) : bigN bs.reverse = litN bs := by
 induction bs with
 | nil => rfl
 | cons b r ih => rw [List.reverse_cons, bigN_snoc, ih, litN]; omega
theorem bigN_eq (bs : List UInt8) : bigN bs = litN bs.reverse := by rw [← bigN_reverse, List.reverse_reverse]
theorem litN_snoc (bs : List UInt8) (b : UInt8) : litN (bs ++ [b]) = litN bs + 256 ^ bs.length * b.toNat := by
 induction bs with
 | nil => simp [litN]
 | cons x r ih =>
  simp only [List.cons_append, litN, ih, List.length_cons, Nat.pow_succ]
  rw [Nat.mul_add, ← Nat.mul_assoc, Nat.mul_comm 256 (256 ^ r.length)]
  omega
theorem litN_lt (bs : List UInt8) : litN bs < 256 ^ bs.length := by
 induction bs with
 | nil => simp [litN]
 | cons b r ih =>
  have := b.toNat_lt
  simp only [litN, List.length_cons, Nat.pow_succ]
  omega
theorem bigN_lt (bs : List UInt8) : bigN bs < 256 ^ bs.length := by
 have := litN_lt bs.reverse
 rw [bigN_eq]; simpa using this
theorem litB_length (n k : Nat) : (litB n k).length = k := by
 induction k generalizing n with
 | zero => rfl
 | succ k ih => simp [litB, ih]
theorem bigB_length (n k : Nat) : (bigB n k).length = k := by simp [bigB, litB_length]
theorem litN_litB (n k : Nat) : litN (litB n k) = n % 256 ^ k := by
 induction k generalizing n with
 | zero => simp [litB, litN, Nat.mod_one]
 | succ k ih =>
  simp only [litB, litN, ih]
  have h : (UInt8.ofNat (n % 256)).toNat = n % 256 := by simp
  rw [h, Nat.pow_succ, Nat.mul_comm (256 ^ k) 256, Nat.mod_mul]
theorem litB_litN (bs : List UInt8) : litB (litN bs) bs.length = bs := by
 induction bs with
 | nil => rfl
 | cons b r ih =>
  have hb := b.toNat_lt
  simp only [litN, List.length_cons, litB]
  have h1 : (b.toNat + 256 * litN r) % 256 = b.toNat := by omega
  have h2 : (b.toNat + 256 * litN r) / 256 = litN r := by omega
  rw [h1, h2, ih]
  simp
theorem litB_getElem (n k j : Nat) (h : j < (litB n k).length) : (litB n k)[j] = UInt8.ofNat (n / 256 ^ j % 256) := by
 induction k generalizing n j with
 | zero => simp [litB] at h
 | succ k ih =>
  cases j with
  | zero => simp [litB]
  | succ j =>
   simp only [litB, List.getElem_cons_succ]
   rw [ih (n / 256) j (by simpa [litB] using h), Nat.div_div_eq_div_mul, Nat.pow_succ, Nat.mul_comm 256]
theorem bigB_getElem (n k j : Nat) (h : j < k) : (bigB n k)[j]'(by rw [bigB_length]; exact h) = UInt8.ofNat (n / 256 ^ (k - 1 - j) % 256) := by
 unfold bigB
 rw [List.getElem_reverse, litB_getElem]
 simp [litB_length]
theorem pow8 (j : Nat) : (2 : Nat) ^ (8 * j) = 256 ^ j := by rw [Nat.pow_mul]
theorem pow256_le8 {k : Nat} (h : k ≤ 8) : 256 ^ k ≤ 18446744073709551616 := by
 calc 256 ^ k ≤ 256 ^ 8 := Nat.pow_le_pow_right (by decide) h
  _ = 18446744073709551616 := by decide
theorem pow256_le7 {k : Nat} (h : k ≤ 7) : 256 ^ k ≤ 72057594037927936 := by
 calc 256 ^ k ≤ 256 ^ 7 := Nat.pow_le_pow_right (by decide) h
  _ = 72057594037927936 := by decide
theorem take_snoc {α : Type} (l : List α) (k : Nat) (h : k < l.length) : l.take (k + 1) = l.take k ++ [l[k]] := by
 rw [List.take_succ_eq_append_getElem h]

/-! ### bit operations of the model, as operations on bytes -/
theorem u8_or (a b : UInt8) : bits .or .u8 a.toNat b.toNat = ((a ||| b).toNat : Int) := by
 rw [(bits_nat .u8 8 (by decide) wraps_u8 _ _ a.toNat_lt b.toNat_lt).2]; simp
theorem u8_and (a b : UInt8) : bits .and .u8 a.toNat b.toNat = ((a &&& b).toNat : Int) := by
 rw [(bits_nat .u8 8 (by decide) wraps_u8 _ _ a.toNat_lt b.toNat_lt).1]; simp
theorem bv_byte (a : UInt8) : BitVec.ofInt 8 (a.toNat : Int) = a.toBitVec := by
 apply BitVec.eq_of_toNat_eq
 have := a.toNat_lt
 simp
theorem u8_xor (a b : UInt8) : bits .xor .u8 a.toNat b.toNat = ((a ^^^ b).toNat : Int) := by
 have hx := (a ^^^ b).toNat_lt
 show IntKind.u8.wrap (((BitVec.ofInt 8 (a.toNat : Int) ^^^ BitVec.ofInt 8 (b.toNat : Int)).toNat : Nat) : Int) = _
 rw [bv_byte, bv_byte, show (a.toBitVec ^^^ b.toBitVec).toNat = (a ^^^ b).toNat from rfl, wraps_u8 _ (by omega) (by omega)]
theorem u8_andNot (a b : UInt8) : bits .andNot .u8 a.toNat b.toNat = ((a &&& ~~~b).toNat : Int) := by
 have hx := (a &&& ~~~b).toNat_lt
 show IntKind.u8.wrap (((BitVec.ofInt 8 (a.toNat : Int) &&& ~~~BitVec.ofInt 8 (b.toNat : Int)).toNat : Nat) : Int) = _
 rw [bv_byte, bv_byte, show (a.toBitVec &&& ~~~b.toBitVec).toNat = (a &&& ~~~b).toNat from rfl, wraps_u8 _ (by omega) (by omega)]
/-- n<<8 | x of a number that has room -/
theorem u64_or8 (n b : Nat) (hb : b < 256) (hn : n < 72057594037927936) : bits .or .u64 (IntKind.u64.wrap ((n : Int) * 256)) (IntKind.u64.wrap (b : Int)) = ((n * 256 + b : Nat) : Int) := by
 rw [IntKind.wrap_u64, IntKind.wrap_u64]
 have h1 : ((n : Int) * 256) % 18446744073709551616 = (n : Int) * 256 := by omega
 have h2 : (b : Int) % 18446744073709551616 = b := by omega
 rw [h1, h2, bits_join .u64 64 (by decide) (fun m h0 h1 => by rw [IntKind.wrap_u64]; omega) 8 _ _ (by omega) (by omega) (by omega) (by omega) (by omega) (by omega)]
 omega
/-- n | x << (8*k), n below 256^k -/
theorem u64_orHigh (n b k : Nat) (hk : k ≤ 7) (hb : b < 256) (hn : n < 256 ^ k) : bits .or .u64 (n : Int) (IntKind.u64.wrap (IntKind.u64.wrap (b : Int) * 2 ^ (8 * k))) = ((n + 256 ^ k * b : Nat) : Int) := by
 have hp := pow256_le7 hk
 have hm : 256 ^ k * b ≤ 256 ^ k * 255 := Nat.mul_le_mul_left _ (by omega)
 have e : IntKind.u64.wrap (IntKind.u64.wrap (b : Int) * 2 ^ (8 * k)) = ((256 ^ k * b : Nat) : Int) := by
  rw [IntKind.wrap_u64, IntKind.wrap_u64, show (b : Int) % 18446744073709551616 = b by omega]
  have h2 : ((2 : Int) ^ (8 * k)) = ((256 ^ k : Nat) : Int) := by rw [← pow8]; simp
  rw [h2, ← Int.natCast_mul, Nat.mul_comm b]
  omega
 rw [e, (bits_nat .u64 64 (by decide) (fun m h0 h1 => by rw [IntKind.wrap_u64]; omega) _ _ (by omega) (by omega)).2]
 rw [Nat.or_comm, ← pow8, ← Nat.two_pow_add_eq_or_of_lt (by rw [pow8]; exact hn), pow8]
 omega
theorem u8_wrap_mod (n : Int) : IntKind.u8.wrap n = n % 256 := IntKind.wrap_u8 n
/-- byte(n >> (8*k)) -/
theorem u8_shr (n k : Nat) : IntKind.u8.wrap ((n : Int) / 2 ^ (8 * k)) = ((UInt8.ofNat (n / 256 ^ k % 256)).toNat : Int) := by
 rw [IntKind.wrap_u8]
 have h2 : ((2 : Int) ^ (8 * k)) = ((256 ^ k : Nat) : Int) := by rw [← pow8]; simp
 rw [h2]
 have h : (UInt8.ofNat (n / 256 ^ k % 256)).toNat = n / 256 ^ k % 256 := by simp
 rw [h, ← Int.natCast_ediv]
 omega
theorem byte_shr (n j : Nat) : (n : Int) / 2 ^ (8 * j) % 256 = ((UInt8.ofNat (n / 256 ^ j % 256)).toNat : Int) := by
 rw [← u8_shr, IntKind.wrap_u8]
theorem set_step (l : List UInt8) (j k : Nat) (hl : l.length = k) (hj : j < k) :
  (l.take j ++ List.replicate (k - j) 0).set j (l[j]'(by omega)) = l.take (j + 1) ++ List.replicate (k - (j + 1)) 0 := by
 have h1 : (l.take j).length = j := by simp; omega
 rw [List.set_append_right _ _ (by omega), h1, Nat.sub_self, show k - j = (k - (j + 1)) + 1 by omega, List.replicate_succ, List.set_cons_zero, take_snoc l j (by omega), List.append_assoc]
 rfl
theorem ret_int {k : IntKind} {a b : Int} (h : a = b) : Ending.returned (.int k a) = .returned (.int k b) := by rw [h]
end Go.Proofs.Ytpajdmbajopofaa

/-
 WORDS FOR MEMORY, for the claims over package octet: a slice of bytes that reads as a list; a block that holds just a list of bytes; what the conversion of such a slice into a string gives.
-/
namespace Go.Proofs.Ytpajdmbajopofaa
open Go.RowKit
set_option maxRecDepth 100000

theorem cell_oneCell (bs : List UInt8) : ∀ u ∈ Lib.byteCells bs, u.oneCell' = true := by
 intro u hu
 simp only [Lib.byteCells, List.mem_map] at hu
 obtain ⟨b, _, rfl⟩ := hu
 rfl
theorem byteCells_get (bs : List UInt8) (k : Nat) (h : k < bs.length) : (Lib.byteCells bs)[k]? = some (.int .u8 bs[k].toNat) := by
 simp [Lib.byteCells, List.getElem?_eq_getElem h]
theorem addr_add (b off k : Nat) : (⟨b, off, none⟩ : Addr).add k = ⟨b, off + k, none⟩ := by
 unfold Addr.add; split <;> simp_all

/-- The slice value v reads as the bytes bs; what it reads lies below block B. -/
def Sl (w : World) (B : Nat) (v : Value) (bs : List UInt8) : Prop :=
 ∃ A c, v = .slice A bs.length c ∧ bs.length ≤ c ∧ c ≤ maxLen ∧ (0 < bs.length → ∃ b off, A = some ⟨b, off, none⟩ ∧ b < B ∧ ∀ k (h : k < bs.length), w.cell? ⟨b, off + k, none⟩ = some (.int .u8 bs[k].toNat))

section
variable {w w' : World} {B B' : Nat} {v : Value} {A : Option Addr} {n c : Nat} {bs : List UInt8}
theorem Sl.form (h : Sl w B v bs) : ∃ A c, v = .slice A bs.length c ∧ bs.length ≤ c ∧ c ≤ maxLen := by
 obtain ⟨A, c, h1, h2, h3, _⟩ := h
 exact ⟨A, c, h1, h2, h3⟩
theorem Sl.len (h : Sl w B (.slice A n c) bs) : n = bs.length := by
 obtain ⟨A', c', hv, _⟩ := h
 cases hv; rfl
theorem Sl.at_ (h : Sl w B (.slice A n c) bs) (hn : 0 < bs.length) : ∃ b off, A = some ⟨b, off, none⟩ ∧ b < B ∧ ∀ k (h : k < bs.length), w.cell? ⟨b, off + k, none⟩ = some (.int .u8 bs[k].toNat) := by
 obtain ⟨A', c', hv, _, _, hc⟩ := h
 cases hv
 exact hc hn
theorem Sl.keep (h : Sl w B v bs) (hk : ∀ p : Addr, p.block < B → w'.cell? p = w.cell? p) : Sl w' B v bs := by
 obtain ⟨A', c', hv, h1, h2, hc⟩ := h
 refine ⟨A', c', hv, h1, h2, fun hn => ?_⟩
 obtain ⟨b, off, hA, hb, hr⟩ := hc hn
 exact ⟨b, off, hA, hb, fun k hk' => (hk _ hb).trans (hr k hk')⟩
theorem Sl.more (h : Sl w B v bs) (hB : B ≤ B') : Sl w B' v bs := by
 obtain ⟨A', c', hv, h1, h2, hc⟩ := h
 refine ⟨A', c', hv, h1, h2, fun hn => ?_⟩
 obtain ⟨b, off, hA, hb, hr⟩ := hc hn
 exact ⟨b, off, hA, by omega, hr⟩
theorem Sl.below (h : Sl w B v bs) (hb : Below B w w') : Sl w' B v bs := h.keep fun _ hp => hb.cell hp
theorem Sl.drew (h : Sl w B v bs) : Sl w.drew B v bs := h
theorem Sl.drewN (h : Sl w B v bs) (k : Nat) : Sl (w.drewN k) B v bs := h
theorem Sl.nil_ : Sl w B (.slice none 0 0) [] := ⟨none, 0, rfl, Nat.le_refl _, by unfold maxLen; omega, fun h => absurd h (by simp)⟩
theorem Sl.of_own {base e : Nat} {n : Nat} (h : w.ownsRow base e 1 v n (Lib.byteCells bs)) : Sl w w.heap.size v bs := by
 have hl : bs.length = n := by have := h.1; rw [Lib.byteCells_length] at this; omega
 subst hl
 rcases h.2 with ⟨rfl, hn⟩ | ⟨g, cap, cur, rfl, hb, hg, hnc, hcm, hsz, hcur⟩
 ·exact ⟨none, 0, by rw [hn], by omega, by unfold maxLen; omega, fun h => absurd h (by omega)⟩
 ·refine ⟨some ⟨g, 0, none⟩, cap, rfl, hnc, hcm, fun hn => ⟨g, 0, rfl, (Array.getElem?_eq_some_iff.1 hg).1, fun k hk => ?_⟩⟩
  have := h.cellAt k (by omega)
  rw [byteCells_get bs k hk] at this
  simpa using this
theorem Sl.conv {P : Program} {src e dst : TypeId} (h : Sl w B v bs) (hs : P.underlying src = some (.slice e)) (he : P.underlying e = some (.int .u8)) (hd : P.underlying dst = some .string) :
  (convert src dst v).run P w = .ok (.string ⟨bs.toArray⟩) w := by
 obtain ⟨A, c, rfl, _, _, hc⟩ := h
 rcases Nat.eq_zero_or_pos bs.length with h0 | h0
 ·have : bs = [] := List.eq_nil_of_length_eq_zero h0
  subst this
  rcases A with _ | ⟨b, off, sp⟩
  ·exact run_convert_bytes_nil w src e hs he _ _ dst hd
  ·rw [run_convert_bytes_string w src dst e _ _ _ hs he hd]
   have hl : (loadCells ⟨b, off, sp⟩ 0).run P w = .ok ((([] : List Int).map (Value.int .u8))).toArray w := run_loadCells_list (P := P) w ⟨b, off, sp⟩ [] (fun j v hj => by simp at hj)
   have := run_bytesToString w ⟨b, off, sp⟩ 0 c [] hl
   exact this.trans rfl
 ·obtain ⟨b, off, rfl, _, hr⟩ := hc h0
  have := run_convert_bytes_arg (P := P) w src e hs he b off bs.length c (bs.map fun x => (x.toNat : Int)) (by simp) (fun i hi => by
   rw [hr i hi]; simp [List.getD, List.getElem?_eq_getElem hi]) dst hd
  rw [this]
  have hx : (bs.map fun x => (x.toNat : Int)).map (fun n => UInt8.ofNat n.toNat) = bs := by
   rw [List.map_map]
   conv => rhs; rw [← List.map_id bs]
   apply List.map_congr_left
   intro x _
   simp
  unfold strOfNums
  rw [hx]
end
end Go.Proofs.Ytpajdmbajopofaa

/-
 WALKS: integers as bytes (octet.Big, BigOf, Little, LittleOf, U16, U32, U64 and what they call).
-/
namespace Go.Proofs.Ytpajdmbajopofaa
open Go.RowKit
set_option maxRecDepth 100000

theorem info_u8 : (Try.prog.info? 5).map (fun i => (i.zero, i.size, i.bytes)) = some (some (.int .u8 0), 1, 1) := by kernel_rfl

/-- A block that is just the bytes bs. -/
def Blk (w : World) (g : Nat) (bs : List UInt8) : Prop := w.heap[g]? = some (.cells (Lib.byteCells bs).toArray 5 (0, 0))
section
variable {w w' : World} {g B : Nat} {bs : List UInt8}
theorem Blk.lt (h : Blk w g bs) : g < w.heap.size := (Array.getElem?_eq_some_iff.1 h).1
theorem Blk.cell (h : Blk w g bs) (k : Nat) (hk : k < bs.length) : w.cell? ⟨g, k, none⟩ = some (.int .u8 bs[k].toNat) := by
 rw [cell_of_row w g k _ _ _ h]; simpa using byteCells_get bs k hk
theorem Blk.free (h : Blk w g bs) (k : Nat) : w.frozen? ⟨g, k, none⟩ = false := by
 unfold Blk at h
 simp [World.frozen?, h]
theorem Blk.drew (h : Blk w g bs) : Blk w.drew g bs := h
theorem Blk.set_ (h : Blk w g bs) (k : Nat) (b : UInt8) : Blk (w.setCell ⟨g, k, none⟩ (.int .u8 b.toNat)) g (bs.set k b) := by
 unfold Blk at h ⊢
 have e : Lib.byteCells (bs.set k b) = (Lib.byteCells bs).set k (.int .u8 b.toNat) := by simp [Lib.byteCells, List.map_set]
 rw [e]
 simp [World.setCell, Array.getElem?_modify, h]
theorem Blk.below (h : Blk w g bs) (hb : Below B w w') (hg : g < B) : Blk w' g bs := (hb.block g hg).trans h
theorem Blk.own (h : Blk w g bs) {base : Nat} (hb : base ≤ g) (hm : bs.length ≤ maxLen) : w.ownsRow base 5 1 (.slice (some ⟨g, 0, none⟩) bs.length bs.length) bs.length (Lib.byteCells bs) :=
 ⟨by rw [Lib.byteCells_length, Nat.mul_one], .inr ⟨g, bs.length, _, rfl, hb, h, Nat.le_refl _, hm, by simp [Lib.byteCells], by rw [List.take_of_length_le (by simp [Lib.byteCells])]⟩⟩
theorem Blk.new (w : World) (bs : List UInt8) : Blk (w.alloc (.cells (Lib.byteCells bs).toArray 5)) w.heap.size bs := heap_alloc_new w _
end
theorem made_zero (n : Nat) : madeCells #[.int .u8 0] n = (Lib.byteCells (List.replicate n 0)).toArray := by
 apply Array.ext
 ·simp [madeCells, Lib.byteCells]
 ·intro i h1 h2
  simp [madeCells, Lib.byteCells, Nat.mod_one]

/-- make([]byte, n), n a variable -/
theorem make_run (n : Nat) (hn : n ≤ 281474976710656) (u : World) : (Instr.makeSlice 33 (.int .i64 (n : Int)) (.int .i64 (n : Int))).run Try.prog u =
  .ok (.slice (some ⟨u.heap.size, 0, none⟩) n n) (u.alloc (.cells (Lib.byteCells (List.replicate n 0)).toArray 5)) := by
 obtain ⟨i0, hi, hz0, hz1, hz2⟩ := info_parts info_u8
 have h := run_make (P := Try.prog) u 33 5 i0 (.int .u8 0) Try.underlying33 hi hz0 .i64 .i64 (n : Int) (n : Int) (by omega) (Int.le_refl _) (by rw [hz2]; omega) (by omega)
 have e : (n : Int).toNat = n := by omega
 rw [e] at h
 rw [← made_zero]
 simpa [hz1, Value.cells] using h

end Go.Proofs.Ytpajdmbajopofaa

/-
 WALKS: slices.Reverse on a block of bytes; octet.bigBytes and the functions above it.
-/
namespace Go.Proofs.Ytpajdmbajopofaa
open Go.RowKit
set_option maxRecDepth 100000

/-- bs with its first k and its last k bytes exchanged -/
def revK (bs : List UInt8) (k : Nat) : List UInt8 := (List.range bs.length).map fun i => if i < k ∨ bs.length - k ≤ i then bs.getD (bs.length - 1 - i) 0 else bs.getD i 0
theorem revK_length (bs : List UInt8) (k : Nat) : (revK bs k).length = bs.length := by simp [revK]
theorem revK_get (bs : List UInt8) (k i : Nat) (h : i < (revK bs k).length) : (revK bs k)[i] = if i < k ∨ bs.length - k ≤ i then bs.getD (bs.length - 1 - i) 0 else bs.getD i 0 := by
 simp [revK]
theorem revK_zero (bs : List UInt8) : revK bs 0 = bs := by
 apply List.ext_getElem (by rw [revK_length])
 intro i h1 h2
 rw [revK_get, if_neg (by omega)]
 simp [List.getD, List.getElem?_eq_getElem h2]
theorem revK_end (bs : List UInt8) (k : Nat) (h : bs.length ≤ 2 * k + 1) : revK bs k = bs.reverse := by
 apply List.ext_getElem (by rw [revK_length, List.length_reverse])
 intro i h1 h2
 rw [revK_length] at h1
 rw [revK_get, List.getElem_reverse]
 by_cases hc : i < k ∨ bs.length - k ≤ i
 ·rw [if_pos hc]
  simp [List.getD, List.getElem?_eq_getElem (show bs.length - 1 - i < bs.length by omega)]
 ·rw [if_neg hc]
  have : bs.length - 1 - i = i := by omega
  simp only [this]
  simp [List.getD, List.getElem?_eq_getElem h1]
theorem revK_step (bs : List UInt8) (k : Nat) (h : 2 * k + 1 < bs.length) :
  ((revK bs k).set k (bs[bs.length - 1 - k]'(by omega))).set (bs.length - 1 - k) (bs[k]'(by omega)) = revK bs (k + 1) := by
 apply List.ext_getElem (by simp [revK_length])
 intro i h1 h2
 rw [revK_length] at h2
 rw [revK_get]
 by_cases e1 : bs.length - 1 - k = i
 ·subst e1
  rw [List.getElem_set_self, if_pos (by omega)]
  have : bs.length - 1 - (bs.length - 1 - k) = k := by omega
  rw [this]
  simp [List.getD, List.getElem?_eq_getElem (show k < bs.length by omega)]
 ·rw [List.getElem_set_ne e1]
  by_cases e2 : k = i
  ·subst e2
   rw [List.getElem_set_self, if_pos (by omega)]
   simp [List.getD, List.getElem?_eq_getElem (show bs.length - 1 - k < bs.length by omega)]
  ·rw [List.getElem_set_ne e2, revK_get]
   by_cases hc : i < k ∨ bs.length - k ≤ i
   ·rw [if_pos hc, if_pos (by omega)]
   ·rw [if_neg hc, if_neg (by omega)]
theorem revK_get_mid (bs : List UInt8) (k i : Nat) (h1 : k ≤ i) (h2 : i < bs.length - k) : (revK bs k)[i]'(by rw [revK_length]; omega) = bs[i]'(by omega) := by
 rw [revK_get, if_neg (by omega)]
 simp [List.getD, List.getElem?_eq_getElem (show i < bs.length by omega)]

/-- What a function hands back that made a slice of its own. -/
def Gives (w : World) (bs : List UInt8) (v : Value) (w' : World) : Prop :=
 w'.ownsRow w.heap.size 5 1 v bs.length (Lib.byteCells bs) ∧ Below w.heap.size w w'

theorem own_of_blk {w w' : World} {bs : List UInt8} {k : Nat} (hk : bs.length = k) (hm : k ≤ 8) (h : Blk w' w.heap.size bs) (hb : Below w.heap.size w w') : Gives w bs (.slice (some ⟨w.heap.size, 0, none⟩) k k) w' := by
 subst hk
 exact ⟨h.own (Nat.le_refl _) (by unfold maxLen; omega), hb⟩

theorem long_iff (n k : Nat) : (((n : Int) / 2 ^ (8 * (k : Int)).toNat) != 0) = decide (256 ^ k ≤ n) := by
 have e : (8 * (k : Int)).toNat = 8 * k := by omega
 have h2 : ((2 : Int) ^ (8 * k)) = ((256 ^ k : Nat) : Int) := by rw [← pow8]; simp
 rw [e, h2, ← Int.natCast_ediv]
 have hp : 0 < 256 ^ k := Nat.pow_pos (by decide)
 by_cases h : 256 ^ k ≤ n
 ·rw [decide_eq_true h, bne_iff_ne]
  have := Nat.div_pos h hp
  omega
 ·rw [decide_eq_false h]
  rw [Nat.div_eq_of_lt (by omega)]
  rfl

/-! Big and Little: the error, or the bytes. -/
def putErr (n : Nat) (size : Int) : Int := if size < 1 ∨ 8 < size then 1 else if 256 ^ size.toNat ≤ n then 3 else 0
end Go.Proofs.Ytpajdmbajopofaa

/-
 append onto a slice of bytes (or of any values of one cell) that the call itself made: one element; the elements of another slice, nil or not.
-/
namespace Go.Proofs.Ytpajdmbajopofaa
open Go.RowKit
set_option maxRecDepth 100000

section
variable {P : Program} {ops : Array Oper} {rest : List Oper} {o : Oper} {a : Act} {Q : Exit → Act → World → Prop}

/-- one element: the walk has laid it in a new block of one cell -/
theorem wp_append1 (w : World) (t e : TypeId) (i0 : TypeInfo) (z : Value) (ht : P.underlying t = some (.slice e)) (hi : P.info? e = some i0) (hz : i0.zero = some z) (hsz : i0.size = 1) (hby : i0.bytes = 1) (hzc : z.cells.size = 1)
  (hgd : o.guard = none) (s x : Operand) (ho : o.op = .call { callee := .builtin .append, args := #[s, x], argTypes := #[t, t] })
  {base : Nat} {v : Value} {n : Nat} {xs : List Value} {u : Value} (hown : w.ownsRow base e 1 v n xs) (hs : a.eval s = v) (hx : a.eval x = .slice (some ⟨w.heap.size, 0, none⟩) 1 1)
  (hu : u.oneCell' = true) (hlen : n + 1 ≤ 140737488355328) (hbase : base ≤ w.heap.size)
  (h : ∀ v' w', w'.ownsRow base e 1 v' (n + 1) (xs ++ [u]) → (w.alloc (.cells #[u] e)).grownBy w' v.ownBlock → (∀ B, B ≤ base → Below B w w') → wpList P ops Q rest (a.put o.dst v') w') :
  wpList P ops Q (o :: rest) a (w.alloc (.cells #[u] e)) := by
 refine wpList_append_own (w.alloc (.cells #[u] e)) hgd s x t ho base e i0 z 1 1 ht hi hz hsz hby hzc (by decide) v n xs hs (hown.alloc _) ⟨w.heap.size, 0, none⟩ 1 1 [u] hx rfl ?_ (by simpa using hu) (by unfold maxLen; omega) (by omega) (by simp; omega) ?_
 ·intro j y hj
  match j, hj with
  | 0, hj =>
   simp at hj; subst hj
   rw [addr_add, cell_of_row _ _ _ _ _ _ (heap_alloc_new w _)]
   rfl
  | (j + 1), hj => simp at hj
 ·intro v' w' ho' hg _
  refine h v' w' ho' hg fun B hB => ?_
  exact (((Below.refl B w).alloc (by omega) _).grown hg (by simp; omega) (fun k hk => by have := (hown.lt k hk).1; omega))

/-- several elements in a region that draws its order: the walk has laid them in a new block -/
theorem step_appendN (w : World) {K : Act → World → Prop} {E : Prop} (t e : TypeId) (i0 : TypeInfo) (z : Value) (us : List Value) (ht : P.underlying t = some (.slice e)) (hi : P.info? e = some i0) (hz : i0.zero = some z) (hsz : i0.size = 1) (hby : i0.bytes = 1) (hzc : z.cells.size = 1)
  (hgd : o.guard = none) (s x : Operand) (ho : o.op = .call { callee := .builtin .append, args := #[s, x], argTypes := #[t, t] })
  {base : Nat} {v : Value} {n : Nat} {xs : List Value} (hown : w.ownsRow base e 1 v n xs) (hs : a.eval s = v) (m : Nat) (hx : a.eval x = .slice (some ⟨w.heap.size, 0, none⟩) m m) (hm : us.length = m)
  (hu : ∀ u ∈ us, u.oneCell' = true) (hlen : n + m ≤ 140737488355328) (hbase : base ≤ w.heap.size)
  (h : ∀ v' w', w'.ownsRow base e 1 v' (n + m) (xs ++ us) → (w.alloc (.cells us.toArray e)).grownBy w' v.ownBlock → (∀ B, B ≤ base → Below B w w') → K (a.put o.dst v') w') :
  if Region.wanted o (yielded ops a.tmps) = true then Oper.wp P o a (w.alloc (.cells us.toArray e)) K Q else E := by
 have hw : Region.wanted o (yielded ops a.tmps) = true := by simp [Region.wanted, hgd]
 rw [if_pos hw]
 refine wp_append_own (w.alloc (.cells us.toArray e)) s x t ho base e i0 z 1 1 ht hi hz hsz hby hzc (by decide) v n xs hs (hown.alloc _) ⟨w.heap.size, 0, none⟩ m m us hx (by omega) ?_ hu (by unfold maxLen; omega) (by omega) (by simp; omega) ?_
 ·intro j y hj
  rw [addr_add, cell_of_row _ _ _ _ _ _ (heap_alloc_new w _)]
  simpa using hj
 ·intro v' w' ho' hg _
  refine h v' w' ho' hg fun B hB => ?_
  exact (((Below.refl B w).alloc (by omega) _).grown hg (by simp; omega) (fun k hk => by have := (hown.lt k hk).1; omega))

/-- the same behind one draw -/
theorem step_appendN_d (w : World) {K : Act → World → Prop} {E : Prop} (t e : TypeId) (i0 : TypeInfo) (z : Value) (us : List Value) (ht : P.underlying t = some (.slice e)) (hi : P.info? e = some i0) (hz : i0.zero = some z) (hsz : i0.size = 1) (hby : i0.bytes = 1) (hzc : z.cells.size = 1)
  (hgd : o.guard = none) (s x : Operand) (ho : o.op = .call { callee := .builtin .append, args := #[s, x], argTypes := #[t, t] })
  {base : Nat} {v : Value} {n : Nat} {xs : List Value} (hown : w.ownsRow base e 1 v n xs) (hs : a.eval s = v) (m : Nat) (hx : a.eval x = .slice (some ⟨w.heap.size, 0, none⟩) m m) (hm : us.length = m)
  (hu : ∀ u ∈ us, u.oneCell' = true) (hlen : n + m ≤ 140737488355328) (hbase : base ≤ w.heap.size)
  (h : ∀ v' w', w'.ownsRow base e 1 v' (n + m) (xs ++ us) → (w.alloc (.cells us.toArray e)).drew.grownBy w' v.ownBlock → (∀ B, B ≤ base → Below B w w') → K (a.put o.dst v') w') :
  if Region.wanted o (yielded ops a.tmps) = true then Oper.wp P o a (w.alloc (.cells us.toArray e)).drew K Q else E :=
 step_appendN w.drew t e i0 z us ht hi hz hsz hby hzc hgd s x ho (World.ownsRow.drew hown) hs m hx hm hu hlen hbase fun v' w' h1 h2 h3 => h v' w' h1 ⟨h2.os, h2.tape, h2.output, h2.size, h2.block⟩ (fun B hB => ((Below.refl B w).drew).trans (h3 B hB))

/-- the bytes of another slice, that reads as a list -/
theorem wp_appendSl (w : World) (t e : TypeId) (i0 : TypeInfo) (ht : P.underlying t = some (.slice e)) (hi : P.info? e = some i0) (hz : i0.zero = some (.int .u8 0)) (hsz : i0.size = 1) (hby : i0.bytes = 1)
  (hgd : o.guard = none) (s x : Operand) (ho : o.op = .call { callee := .builtin .append, args := #[s, x], argTypes := #[t, t] })
  {base B0 : Nat} {v : Value} {bs : List UInt8} {y : Value} {cs : List UInt8} (hown : w.ownsRow base e 1 v bs.length (Lib.byteCells bs)) (hy : Sl w B0 y cs) (hs : a.eval s = v) (hx : a.eval x = y)
  (hlen : bs.length + cs.length ≤ 140737488355328) (hbase : base ≤ w.heap.size)
  (h : ∀ v' w', w'.ownsRow base e 1 v' (bs ++ cs).length (Lib.byteCells (bs ++ cs)) → w.grownBy w' v.ownBlock → (∀ B, B ≤ base → Below B w w') → wpList P ops Q rest (a.put o.dst v') w') :
  wpList P ops Q (o :: rest) a w := by
 have hbel : ∀ w', w.grownBy w' v.ownBlock → ∀ B, B ≤ base → Below B w w' := fun w' hg B hB =>
  (Below.refl B w).grown hg (by omega) (fun k hk => by have := (hown.lt k hk).1; omega)
 obtain ⟨A, c, rfl, hc1, hc2, hc⟩ := hy
 rcases A with _ | ad
 ·have h0 : cs.length = 0 := by
   rcases Nat.eq_zero_or_pos cs.length with h0 | h0
   ·exact h0
   ·obtain ⟨b, off, h, _⟩ := hc h0
    cases h
  obtain rfl : cs = [] := List.eq_nil_of_length_eq_zero h0
  refine wpList_plain hgd fun K hK => ?_
  have hrun : (Builtin.append_ #[t, t] o.type #[v, .slice none 0 c]).run P w = .ok v w := by
   rcases hown.2 with ⟨rfl, hn⟩ | ⟨g, cap, cur, rfl, _, _, hnc, _⟩
   ·simp [Builtin.append_, run_underlying ht, sizeOf, typeInfo, hi, Builtin.lenOf, Builtin.firstCells]
   ·simp [Builtin.append_, run_underlying ht, sizeOf, typeInfo, hi, Builtin.lenOf, Builtin.firstCells, hnc, storeCells]
  have hx' : a.eval x = .slice none 0 c := hx
  unfold Oper.wp
  simp [execOp, ho, resolve, invoke, builtin, hs, hx', hrun, Result.andThen]
  exact hK _ _ (h v w (by simpa using hown) (World.grownBy.refl w _) (hbel w (World.grownBy.refl w _)))
 ·refine wpList_append_own w hgd s x t ho base e i0 (.int .u8 0) 1 1 ht hi hz hsz hby rfl (by decide) v bs.length (Lib.byteCells bs) hs hown ad cs.length c (Lib.byteCells cs) hx (by rw [Lib.byteCells_length, Nat.mul_one]) ?_ (cell_oneCell cs) (by unfold maxLen; omega) (by omega) hbase ?_
  ·intro j u hj
   have hjl : j < cs.length := by
    rcases Nat.lt_or_ge j cs.length with h' | h'
    ·exact h'
    ·rw [List.getElem?_eq_none (by rw [Lib.byteCells_length]; exact h')] at hj; cases hj
   rw [byteCells_get cs j hjl] at hj
   injection hj with hj
   subst hj
   obtain ⟨b, off, hA, _, hr⟩ := hc (by omega)
   injection hA with hA
   subst hA
   rw [addr_add]
   exact hr j hjl
  ·intro v' w' ho' hg _
   exact h v' w' (by simpa [Lib.byteCells_append] using ho') hg (hbel w' hg)
end
theorem own_len {w : World} {base size : Nat} {e : TypeId} {v : Value} {n m : Nat} {xs : List Value} (h : w.ownsRow base e size v n xs) (hm : n = m) : w.ownsRow base e size v m xs := hm ▸ h
theorem own_form {w : World} {base : Nat} {e : TypeId} {v : Value} {n : Nat} {xs : List Value} (h : w.ownsRow base e 1 v n xs) : ∃ A c, v = .slice A n c := by
 rcases h.2 with ⟨rfl, rfl⟩ | ⟨g, cap, cur, rfl, _⟩
 ·exact ⟨_, _, rfl⟩
 ·exact ⟨_, _, rfl⟩
end Go.Proofs.Ytpajdmbajopofaa

/-
 WALKS: octet.BigOf, octet.LittleOf; the document's own Big, Fits, Put, Number, Take, Turned, Equal.
-/
namespace Go.Proofs.Ytpajdmbajopofaa
open Go.RowKit
set_option maxRecDepth 100000

theorem bigN_take_lt (bs : List UInt8) (k : Nat) (h : k ≤ bs.length) : bigN (bs.take k) < 256 ^ k := by
 have := bigN_lt (bs.take k)
 rwa [List.length_take, Nat.min_eq_left h] at this
theorem litN_take_lt (bs : List UInt8) (k : Nat) (h : k ≤ bs.length) : litN (bs.take k) < 256 ^ k := by
 have := litN_lt (bs.take k)
 rwa [List.length_take, Nat.min_eq_left h] at this
theorem bigN_step (bs : List UInt8) (k : Nat) (h : k < bs.length) (h8 : bs.length ≤ 8) :
  bits .or .u64 (IntKind.u64.wrap ((bigN (bs.take k) : Int) * 256)) (IntKind.u64.wrap (bs[k].toNat : Int)) = (bigN (bs.take (k + 1)) : Int) := by
 have h1 := bigN_take_lt bs k (by omega)
 have h2 := pow256_le7 (show k ≤ 7 by omega)
 have h3 := bs[k].toNat_lt
 rw [take_snoc bs k h, bigN_snoc, u64_or8 _ _ (by omega) (by omega)]
theorem litN_step (bs : List UInt8) (k : Nat) (h : k < bs.length) (h8 : bs.length ≤ 8) :
  bits .or .u64 (litN (bs.take k) : Int) (IntKind.u64.wrap (IntKind.u64.wrap (bs[k].toNat : Int) * 2 ^ (8 * k))) = (litN (bs.take (k + 1)) : Int) := by
 have h1 := litN_take_lt bs k (by omega)
 have h3 := bs[k].toNat_lt
 rw [take_snoc bs k h, litN_snoc, u64_orHigh _ _ _ (by omega) (by omega) h1]
 simp [List.length_take, Nat.min_eq_left (show k ≤ bs.length by omega)]

/-- What BigOf answers: the integer and the error. -/
def ofN (bs : List UInt8) : Nat := if 1 ≤ bs.length ∧ bs.length ≤ 8 then bigN bs else 0
def ofE (bs : List UInt8) : Int := if 1 ≤ bs.length ∧ bs.length ≤ 8 then 0 else 1
theorem ofE_reverse (bs : List UInt8) : ofE bs.reverse = ofE bs := by simp [ofE]

theorem refEqual_any (B B' : Nat) (v v' : Value) (bs cs : List UInt8) (w : World) (h1 : Sl w B v bs) (h2 : Sl w B' v' cs) :
  Calls Try.prog 18 #[v, v'] w fun e w' => e = .returned (.bool (bs == cs)) ∧ w = w' := by
 have hc1 := h1.conv Try.underlying33 Try.underlying5 Try.underlying9
 have hc2 := h2.conv Try.underlying33 Try.underlying5 Try.underlying9
 go_enter Try.func18, Try.ntmps18
 go_wp2
 go_ret
 exact ⟨rfl, rfl⟩
end Go.Proofs.Ytpajdmbajopofaa

/-
 WALKS: the document's own Big, Fits, Put, Turned.
-/
namespace Go.Proofs.Ytpajdmbajopofaa
open Go.RowKit
set_option maxRecDepth 100000

theorem set_back (k r : Nat) (x : UInt8) (T : List UInt8) (h : r < k) : (List.replicate (k - r) (0 : UInt8) ++ T).set (k - 1 - r) x = List.replicate (k - (r + 1)) 0 ++ x :: T := by
 obtain ⟨m, rfl⟩ : ∃ m, k = r + (m + 1) := ⟨k - r - 1, by omega⟩
 have e1 : r + (m + 1) - r = m + 1 := by omega
 have e2 : r + (m + 1) - 1 - r = m := by omega
 have e3 : r + (m + 1) - (r + 1) = m := by omega
 rw [e1, e2, e3, List.replicate_succ', List.append_assoc, List.set_append_right _ _ (by simp)]
 simp
theorem litB_take_rev (n k r : Nat) (h : r < k) : ((litB n k).take (r + 1)).reverse = UInt8.ofNat (n / 256 ^ r % 256) :: ((litB n k).take r).reverse := by
 rw [take_snoc _ _ (by rw [litB_length]; exact h), List.reverse_append, litB_getElem]
 rfl
theorem byte_mod (n r : Nat) : (((n / 256 ^ r : Nat) : Int) % 256) = ((UInt8.ofNat (n / 256 ^ r % 256)).toNat : Int) := by
 have h : (UInt8.ofNat (n / 256 ^ r % 256)).toNat = n / 256 ^ r % 256 := by simp
 rw [h]; omega
theorem div_step (n r : Nat) : (((n / 256 ^ r : Nat) : Int) / 256) = ((n / 256 ^ (r + 1) : Nat) : Int) := by
 rw [Nat.pow_succ, ← Nat.div_div_eq_div_mul]; omega

theorem gives_nil (w : World) : Gives w [] (.slice none 0 0) w := ⟨World.ownsRow_nil _ _ _ _, Below.refl _ _⟩
def putB (n : Nat) (size : Int) : List UInt8 := if putErr n size = 0 then bigB n size.toNat else []

end Go.Proofs.Ytpajdmbajopofaa
