import Derived.WalkKit
import Derived.Test.YtdakbipiifkmfaaGreatDoorProg
import Derived.WalkSpells
import Derived.WalkLawsBesides
import Derived.Lib.UnsafeStr
import Derived.Lib.Hide
import Derived.Laws.BytesArg
import Derived.Deep.Draws
import Derived.RegionTactic
import Derived.ChangeAlike
import Derived.Laws.AppendOwnNone
import Derived.BigQuiet
import Derived.Deep.QuietTactic
import Derived.Deep.RegionHeld3
import Derived.Deep.MidRow
import Derived.Deep.WholeRow
import Derived.BigRegion
import Derived.Laws.CopyOwn
import Derived.Deep.RegionLaw
import Derived.DeepKeys
import Derived.Lib.SmallJoins
import Derived.Test.YtdakbipiifkmfaaGreatDoorRows
import Derived.ProofKit
import Derived.OpenShut
import Derived.JoinedCond
import Derived.SizedLaws
import Derived.Carry
import Derived.Deep.Grids
namespace Go.Proofs.YtdakbipiifkmfaaGreatDoor
open Go.RowKit
set_option maxRecDepth 100000
def bigN (bs : List UInt8) : Nat := bs.foldl (fun n b => n * 256 + b.toNat) 0
def litN : List UInt8 -> Nat
 | [] => 0
 | b :: r => b.toNat + 256 * litN r
def litB (n : Nat) : Nat -> List UInt8
 | 0 => []
 | k + 1 => UInt8.ofNat (n % 256) :: litB (n / 256) k
def bigB (n k : Nat) : List UInt8 := (litB n k).reverse
theorem bigN_snoc (bs : List UInt8) (b : UInt8) : bigN (bs ++ [b]) = bigN bs * 256 + b.toNat := by simp [bigN]
theorem bigN_reverse (bs : List UInt8) : bigN bs.reverse = litN bs := by
 induction bs with
 | nil => rfl
 | cons b r ih => rw [List.reverse_cons, bigN_snoc, ih, litN]; omega
theorem bigN_eq (bs : List UInt8) : bigN bs = litN bs.reverse := by rw [<- bigN_reverse, List.reverse_reverse]
theorem litN_lt (bs : List UInt8) : litN bs < 256 ^ bs.length := by
 induction bs with
 | nil => simp [litN]
 | cons b r ih =>
  have := b.toNat_lt;simp only [litN, List.length_cons, Nat.pow_succ];omega
theorem bigN_lt (bs : List UInt8) : bigN bs < 256 ^ bs.length := by
 have := litN_lt bs.reverse;rw [bigN_eq]; simpa using this
theorem litB_length (n k : Nat) : (litB n k).length = k := by
 induction k generalizing n with
 | zero => rfl
 | succ k ih => simp [litB, ih]
theorem bigB_length (n k : Nat) : (bigB n k).length = k := by simp [bigB, litB_length]
theorem litN_litB (n k : Nat) : litN (litB n k) = n % 256 ^ k := by
 induction k generalizing n with
 | zero => simp [litB, litN, Nat.mod_one]
 | succ k ih =>
  simp only [litB, litN, ih];have h : (UInt8.ofNat (n % 256)).toNat = n % 256 := by simp
  rw [h, Nat.pow_succ, Nat.mul_comm (256 ^ k) 256, Nat.mod_mul]
theorem litB_getElem (n k j : Nat) (h : j < (litB n k).length) : (litB n k)[j] = UInt8.ofNat (n / 256 ^ j % 256) := by
 induction k generalizing n j with
 | zero => simp [litB] at h
 | succ k ih =>
  cases j with
  | zero => simp [litB]
  | succ j =>
   simp only [litB, List.getElem_cons_succ];rw [ih (n / 256) j (by simpa [litB] using h), Nat.div_div_eq_div_mul, Nat.pow_succ, Nat.mul_comm 256]
theorem bigB_getElem (n k j : Nat) (h : j < k) : (bigB n k)[j]'(by rw [bigB_length]; exact h) = UInt8.ofNat (n / 256 ^ (k - 1 - j) % 256) := by
 unfold bigB;rw [List.getElem_reverse, litB_getElem];simp [litB_length]
theorem pow8 (j : Nat) : (2 : Nat) ^ (8 * j) = 256 ^ j := by rw [Nat.pow_mul]
theorem pow256_le7 {k : Nat} (h : k <= 7) : 256 ^ k <= 72057594037927936 := by
 calc 256 ^ k <= 256 ^ 7 := Nat.pow_le_pow_right (by decide) h
  _ = 72057594037927936 := by decide
theorem take_snoc {α : Type} (l : List α) (k : Nat) (h : k < l.length) : l.take (k + 1) = l.take k ++ [l[k]] := by
 rw [List.take_succ_eq_append_getElem h]
theorem bv_byte (a : UInt8) : BitVec.ofInt 8 (a.toNat : Int) = a.toBitVec := by
 apply BitVec.eq_of_toNat_eq;have := a.toNat_lt;simp
theorem u8_xor (a b : UInt8) : bits .xor .u8 a.toNat b.toNat = ((a ^^^ b).toNat : Int) := by
 have hx := (a ^^^ b).toNat_lt;show IntKind.u8.wrap (((BitVec.ofInt 8 (a.toNat : Int) ^^^ BitVec.ofInt 8 (b.toNat : Int)).toNat : Nat) : Int) = _;rw [bv_byte, bv_byte, show (a.toBitVec ^^^ b.toBitVec).toNat = (a ^^^ b).toNat from rfl, wraps_u8 _ (by omega) (by omega)]
theorem u8_shr (n k : Nat) : IntKind.u8.wrap ((n : Int) / 2 ^ (8 * k)) = ((UInt8.ofNat (n / 256 ^ k % 256)).toNat : Int) := by
 rw [IntKind.wrap_u8];have h2 : ((2 : Int) ^ (8 * k)) = ((256 ^ k : Nat) : Int) := by rw [<- pow8]; simp
 rw [h2];have h : (UInt8.ofNat (n / 256 ^ k % 256)).toNat = n / 256 ^ k % 256 := by simp
 rw [h, <- Int.natCast_ediv];omega
theorem byte_shr (n j : Nat) : (n : Int) / 2 ^ (8 * j) % 256 = ((UInt8.ofNat (n / 256 ^ j % 256)).toNat : Int) := by
 rw [<- u8_shr, IntKind.wrap_u8]
theorem set_step (l : List UInt8) (j k : Nat) (hl : l.length = k) (hj : j < k) :
  (l.take j ++ List.replicate (k - j) 0).set j (l[j]'(by omega)) = l.take (j + 1) ++ List.replicate (k - (j + 1)) 0 := by
 have h1 : (l.take j).length = j := by simp; omega
 rw [List.set_append_right _ _ (by omega), h1, Nat.sub_self, show k - j = (k - (j + 1)) + 1 by omega, List.replicate_succ, List.set_cons_zero, take_snoc l j (by omega), List.append_assoc];rfl
theorem ret_int {k : IntKind} {a b : Int} (h : a = b) : Ending.returned (.int k a) = .returned (.int k b) := by rw [h]
theorem cell_oneCell (bs : List UInt8) : ∀ u ∈ Lib.byteCells bs, u.oneCell' = true := by
 intro u hu;simp only [Lib.byteCells, List.mem_map] at hu;obtain ⟨b, _, rfl⟩ := hu;rfl
theorem byteCells_get (bs : List UInt8) (k : Nat) (h : k < bs.length) : (Lib.byteCells bs)[k]? = some (.int .u8 bs[k].toNat) := by
 simp [Lib.byteCells, List.getElem?_eq_getElem h]
theorem addr_add (b off k : Nat) : (⟨b, off, none⟩ : Addr).add k = ⟨b, off + k, none⟩ := by
 unfold Addr.add; split <;> simp_all
def Sl (w : World) (B : Nat) (v : Value) (bs : List UInt8) : Prop :=
 ∃ A c, v = .slice A bs.length c /\ bs.length <= c /\ c <= maxLen /\ (0 < bs.length -> ∃ b off, A = some ⟨b, off, none⟩ /\ b < B /\ ∀ k (h : k < bs.length), w.cell? ⟨b, off + k, none⟩ = some (.int .u8 bs[k].toNat))
section
variable {w w' : World} {B B' : Nat} {v : Value} {A : Option Addr} {n c : Nat} {bs : List UInt8}
theorem Sl.form (h : Sl w B v bs) : ∃ A c, v = .slice A bs.length c /\ bs.length <= c /\ c <= maxLen := by
 obtain ⟨A, c, h1, h2, h3, _⟩ := h;exact ⟨A, c, h1, h2, h3⟩
theorem Sl.len (h : Sl w B (.slice A n c) bs) : n = bs.length := by
 obtain ⟨A', c', hv, _⟩ := h;cases hv; rfl
theorem Sl.at_ (h : Sl w B (.slice A n c) bs) (hn : 0 < bs.length) : ∃ b off, A = some ⟨b, off, none⟩ /\ b < B /\ ∀ k (h : k < bs.length), w.cell? ⟨b, off + k, none⟩ = some (.int .u8 bs[k].toNat) := by
 obtain ⟨A', c', hv, _, _, hc⟩ := h;cases hv;exact hc hn
theorem Sl.keep (h : Sl w B v bs) (hk : ∀ p : Addr, p.block < B -> w'.cell? p = w.cell? p) : Sl w' B v bs := by
 obtain ⟨A', c', hv, h1, h2, hc⟩ := h;refine ⟨A', c', hv, h1, h2, fun hn => ?_⟩;obtain ⟨b, off, hA, hb, hr⟩ := hc hn;exact ⟨b, off, hA, hb, fun k hk' => (hk _ hb).trans (hr k hk')⟩
theorem Sl.more (h : Sl w B v bs) (hB : B <= B') : Sl w B' v bs := by
 obtain ⟨A', c', hv, h1, h2, hc⟩ := h;refine ⟨A', c', hv, h1, h2, fun hn => ?_⟩;obtain ⟨b, off, hA, hb, hr⟩ := hc hn;exact ⟨b, off, hA, by omega, hr⟩
theorem Sl.below (h : Sl w B v bs) (hb : Below B w w') : Sl w' B v bs := h.keep fun _ hp => hb.cell hp
theorem Sl.drew (h : Sl w B v bs) : Sl w.drew B v bs := h
theorem Sl.drewN (h : Sl w B v bs) (k : Nat) : Sl (w.drewN k) B v bs := h
theorem Sl.nil_ : Sl w B (.slice none 0 0) [] := ⟨none, 0, rfl, Nat.le_refl _, by unfold maxLen; omega, fun h => absurd h (by simp)⟩
theorem Sl.of_own {base e : Nat} {n : Nat} (h : w.ownsRow base e 1 v n (Lib.byteCells bs)) : Sl w w.heap.size v bs := by
 have hl : bs.length = n := by have := h.1; rw [Lib.byteCells_length] at this; omega
 subst hl
 rcases h.2 with ⟨rfl, hn⟩ | ⟨g, cap, cur, rfl, hb, hg, hnc, hcm, hsz, hcur⟩
 ·exact ⟨none, 0, by rw [hn], by omega, by unfold maxLen; omega, fun h => absurd h (by omega)⟩
 ·refine ⟨some ⟨g, 0, none⟩, cap, rfl, hnc, hcm, fun hn => ⟨g, 0, rfl, (Array.getElem?_eq_some_iff.1 hg).1, fun k hk => ?_⟩⟩;have := h.cellAt k (by omega);rw [byteCells_get bs k hk] at this
  simpa using this
theorem Sl.conv {P : Program} {src e dst : TypeId} (h : Sl w B v bs) (hs : P.underlying src = some (.slice e)) (he : P.underlying e = some (.int .u8)) (hd : P.underlying dst = some .string) :
  (convert src dst v).run P w = .ok (.string ⟨bs.toArray⟩) w := by
 obtain ⟨A, c, rfl, _, _, hc⟩ := h
 rcases Nat.eq_zero_or_pos bs.length with h0 | h0
 ·have : bs = [] := List.eq_nil_of_length_eq_zero h0;subst this
  rcases A with _ | ⟨b, off, sp⟩
  ·exact run_convert_bytes_nil w src e hs he _ _ dst hd
  ·rw [run_convert_bytes_string w src dst e _ _ _ hs he hd];have hl : (loadCells ⟨b, off, sp⟩ 0).run P w = .ok ((([] : List Int).map (Value.int .u8))).toArray w := run_loadCells_list (P := P) w ⟨b, off, sp⟩ [] (fun j v hj => by simp at hj);have := run_bytesToString w ⟨b, off, sp⟩ 0 c [] hl;exact this.trans rfl
 ·obtain ⟨b, off, rfl, _, hr⟩ := hc h0
  have := run_convert_bytes_arg (P := P) w src e hs he b off bs.length c (bs.map fun x => (x.toNat : Int)) (by simp) (fun i hi => by
   rw [hr i hi]; simp [List.getD, List.getElem?_eq_getElem hi]) dst hd
  rw [this];have hx : (bs.map fun x => (x.toNat : Int)).map (fun n => UInt8.ofNat n.toNat) = bs := by
   rw [List.map_map]
   conv => rhs; rw [<- List.map_id bs]
   apply List.map_congr_left;intro x _;simp
  unfold strOfNums;rw [hx]
end
theorem info_u8 : (Tryz.prog.info? 5).map (fun i => (i.zero, i.size, i.bytes)) = some (some (.int .u8 0), 1, 1) := by kernel_rfl
def Blk (w : World) (g : Nat) (bs : List UInt8) : Prop := w.heap[g]? = some (.cells (Lib.byteCells bs).toArray 5 (0, 0))
section
variable {w w' : World} {g B : Nat} {bs : List UInt8}
theorem Blk.lt (h : Blk w g bs) : g < w.heap.size := (Array.getElem?_eq_some_iff.1 h).1
theorem Blk.cell (h : Blk w g bs) (k : Nat) (hk : k < bs.length) : w.cell? ⟨g, k, none⟩ = some (.int .u8 bs[k].toNat) := by
 rw [cell_of_row w g k _ _ _ h]; simpa using byteCells_get bs k hk
theorem Blk.free (h : Blk w g bs) (k : Nat) : w.frozen? ⟨g, k, none⟩ = false := by
 unfold Blk at h;simp [World.frozen?, h]
theorem Blk.drew (h : Blk w g bs) : Blk w.drew g bs := h
theorem Blk.set_ (h : Blk w g bs) (k : Nat) (b : UInt8) : Blk (w.setCell ⟨g, k, none⟩ (.int .u8 b.toNat)) g (bs.set k b) := by
 unfold Blk at h ⊢;have e : Lib.byteCells (bs.set k b) = (Lib.byteCells bs).set k (.int .u8 b.toNat) := by simp [Lib.byteCells, List.map_set]
 rw [e];simp [World.setCell, Array.getElem?_modify, h]
theorem Blk.below (h : Blk w g bs) (hb : Below B w w') (hg : g < B) : Blk w' g bs := (hb.block g hg).trans h
theorem Blk.own (h : Blk w g bs) {base : Nat} (hb : base <= g) (hm : bs.length <= maxLen) : w.ownsRow base 5 1 (.slice (some ⟨g, 0, none⟩) bs.length bs.length) bs.length (Lib.byteCells bs) :=
 ⟨by rw [Lib.byteCells_length, Nat.mul_one], .inr ⟨g, bs.length, _, rfl, hb, h, Nat.le_refl _, hm, by simp [Lib.byteCells], by rw [List.take_of_length_le (by simp [Lib.byteCells])]⟩⟩
theorem Blk.new (w : World) (bs : List UInt8) : Blk (w.alloc (.cells (Lib.byteCells bs).toArray 5)) w.heap.size bs := heap_alloc_new w _
end
theorem made_zero (n : Nat) : madeCells #[.int .u8 0] n = (Lib.byteCells (List.replicate n 0)).toArray := by
 apply Array.ext
 ·simp [madeCells, Lib.byteCells]
 ·intro i h1 h2;simp [madeCells, Lib.byteCells, Nat.mod_one]
theorem make_run (n : Nat) (hn : n <= 281474976710656) (u : World) : (Instr.makeSlice 23 (.int .i64 (n : Int)) (.int .i64 (n : Int))).run Tryz.prog u =
  .ok (.slice (some ⟨u.heap.size, 0, none⟩) n n) (u.alloc (.cells (Lib.byteCells (List.replicate n 0)).toArray 5)) := by
 obtain ⟨i0, hi, hz0, hz1, hz2⟩ := info_parts info_u8;have h := run_make (P := Tryz.prog) u 23 5 i0 (.int .u8 0) Tryz.underlying23 hi hz0 .i64 .i64 (n : Int) (n : Int) (by omega) (Int.le_refl _) (by rw [hz2]; omega) (by omega);have e : (n : Int).toNat = n := by omega
 rw [e] at h;rw [<- made_zero]
 simpa [hz1, Value.cells] using h
set_option maxHeartbeats 400000 in
theorem littleBytes_any (n k : Nat) (w : World) (hk : k <= 8) :
  Calls Tryz.prog 118 #[.int .u64 n, .int .i64 k] w fun e w' => ∃ v, e = .returned v /\ v = .slice (some ⟨w.heap.size, 0, none⟩) k k /\ Blk w' w.heap.size (litB n k) /\ Below w.heap.size w w' := by
 have hmk := make_run k (by omega);go_enter Tryz.func118, Tryz.ntmps118;go_wp2;go_loopw [6, 11] (fun _ i wr => ∃ j : Nat, j <= k /\ i = .int .i64 j /\ Blk wr w.heap.size ((litB n k).take j ++ List.replicate (k - j) 0) /\ Below w.heap.size w wr) (fun _ i _ => k - (intOf i).toNat)
 case atStart =>
  exact ⟨0, Nat.zero_le _, rfl, by simpa using Blk.new w _, (Below.refl _ _).alloc (Nat.le_refl _) _⟩
 case round =>
  obtain ⟨j, hj, rfl, hblk, hbel⟩ := hrel
  by_cases hlt : j < k
  ·have hc := hblk.cell j (by simp [litB_length]; omega);have hf := hblk.free j;have hs := hblk.set_ j ((litB n k)[j]'(by rw [litB_length]; exact hlt));rw [set_step _ _ _ (litB_length n k) hlt, litB_getElem, <- byte_shr] at hs;have HS := Lib.hid hs;clear hs;go_wp2
   go_roundw
   case rel => exact ⟨j + 1, by omega, by go_num, HS.out, hbel.setCell (Nat.le_refl _) _⟩
   case measure => simp [intOf]; omega
  ·obtain rfl : j = k := by omega
   go_wp2;go_ret;refine ⟨_, rfl, rfl, ?_, hbel⟩;rw [List.take_of_length_le (by rw [litB_length]; omega), Nat.sub_self] at hblk
   simpa using hblk
def revK (bs : List UInt8) (k : Nat) : List UInt8 := (List.range bs.length).map fun i => if i < k ∨ bs.length - k <= i then bs.getD (bs.length - 1 - i) 0 else bs.getD i 0
theorem revK_length (bs : List UInt8) (k : Nat) : (revK bs k).length = bs.length := by simp [revK]
theorem revK_get (bs : List UInt8) (k i : Nat) (h : i < (revK bs k).length) : (revK bs k)[i] = if i < k ∨ bs.length - k <= i then bs.getD (bs.length - 1 - i) 0 else bs.getD i 0 := by
 simp [revK]
theorem revK_zero (bs : List UInt8) : revK bs 0 = bs := by
 apply List.ext_getElem (by rw [revK_length]);intro i h1 h2;rw [revK_get, if_neg (by omega)];simp [List.getD, List.getElem?_eq_getElem h2]
theorem revK_end (bs : List UInt8) (k : Nat) (h : bs.length <= 2 * k + 1) : revK bs k = bs.reverse := by
 apply List.ext_getElem (by rw [revK_length, List.length_reverse]);intro i h1 h2;rw [revK_length] at h1;rw [revK_get, List.getElem_reverse]
 by_cases hc : i < k ∨ bs.length - k <= i
 ·rw [if_pos hc];simp [List.getD, List.getElem?_eq_getElem (show bs.length - 1 - i < bs.length by omega)]
 ·rw [if_neg hc];have : bs.length - 1 - i = i := by omega
  simp only [this];simp [List.getD, List.getElem?_eq_getElem h1]
theorem revK_step (bs : List UInt8) (k : Nat) (h : 2 * k + 1 < bs.length) :
  ((revK bs k).set k (bs[bs.length - 1 - k]'(by omega))).set (bs.length - 1 - k) (bs[k]'(by omega)) = revK bs (k + 1) := by
 apply List.ext_getElem (by simp [revK_length]);intro i h1 h2;rw [revK_length] at h2;rw [revK_get]
 by_cases e1 : bs.length - 1 - k = i
 ·subst e1;rw [List.getElem_set_self, if_pos (by omega)];have : bs.length - 1 - (bs.length - 1 - k) = k := by omega
  rw [this];simp [List.getD, List.getElem?_eq_getElem (show k < bs.length by omega)]
 ·rw [List.getElem_set_ne e1]
  by_cases e2 : k = i
  ·subst e2;rw [List.getElem_set_self, if_pos (by omega)];simp [List.getD, List.getElem?_eq_getElem (show bs.length - 1 - k < bs.length by omega)]
  ·rw [List.getElem_set_ne e2, revK_get]
   by_cases hc : i < k ∨ bs.length - k <= i
   ·rw [if_pos hc, if_pos (by omega)]
   ·rw [if_neg hc, if_neg (by omega)]
theorem revK_get_mid (bs : List UInt8) (k i : Nat) (h1 : k <= i) (h2 : i < bs.length - k) : (revK bs k)[i]'(by rw [revK_length]; omega) = bs[i]'(by omega) := by
 rw [revK_get, if_neg (by omega)];simp [List.getD, List.getElem?_eq_getElem (show i < bs.length by omega)]
set_option maxHeartbeats 400000 in
theorem reverse_blk (g c : Nat) (bs : List UInt8) (w : World) (hblk : Blk w g bs) (hlen : bs.length <= 1099511627776) :
  Calls Tryz.prog 119 #[.slice (some ⟨g, 0, none⟩) bs.length c] w fun e w' => e = .returned (.tuple #[]) /\ Blk w' g bs.reverse /\ ∀ B, B <= g -> Below B w w' := by
 go_enter Tryz.func119, Tryz.ntmps119;go_wp2;go_loopw [2, 3] (fun i j wr => ∃ k : Nat, 2 * k <= bs.length + 1 /\ i = .int .i64 k /\ j = .int .i64 ((bs.length : Int) - 1 - k) /\ Blk wr g (revK bs k) /\ ∀ B, B <= g -> Below B w wr) (fun i _ _ => bs.length - (intOf i).toNat)
 case atStart =>
  exact ⟨0, by omega, rfl, by simp, by rw [revK_zero]; exact hblk, fun B _ => Below.refl B _⟩
 case round =>
  obtain ⟨k, hk, rfl, rfl, hb, hbel⟩ := hrel
  by_cases hlt : 2 * k + 1 < bs.length
  ·have hc1 := hb.cell k (by rw [revK_length]; omega);have hc2 := hb.cell (bs.length - 1 - k) (by rw [revK_length]; omega);rw [revK_get_mid bs k _ (by omega) (by omega)] at hc1 hc2;have hf1 := hb.free k;have hf2 := hb.free (bs.length - 1 - k);have hs := (hb.set_ k (bs[bs.length - 1 - k]'(by omega))).set_ (bs.length - 1 - k) (bs[k]'(by omega));rw [revK_step bs k hlt] at hs;have HS := Lib.hid hs;clear hs;go_wp2
   go_region
   go_wp2
   go_roundw
   case rel =>
    exact ⟨k + 1, by omega, by go_num, by go_num, HS.out, fun B hB => (((hbel B hB).setCell (p := ⟨g, k, none⟩) hB _).setCell (p := ⟨g, bs.length - 1 - k, none⟩) hB _).drew⟩
   case measure => simp [intOf]; omega
  ·go_wp2
   go_end0
   refine ⟨rfl, ?_, hbel⟩;rw [revK_end bs k (by omega)] at hb;exact hb
def Gives (w : World) (bs : List UInt8) (v : Value) (w' : World) : Prop :=
 w'.ownsRow w.heap.size 5 1 v bs.length (Lib.byteCells bs) /\ Below w.heap.size w w'
set_option maxHeartbeats 400000 in
theorem bigBytes_any (n k : Nat) (w : World) (hk : k <= 8) :
  Calls Tryz.prog 92 #[.int .u64 n, .int .i64 k] w fun e w' => ∃ v, e = .returned v /\ v = .slice (some ⟨w.heap.size, 0, none⟩) k k /\ Blk w' w.heap.size (bigB n k) /\ Below w.heap.size w w' := by
 go_enter Tryz.func92, Tryz.ntmps92
 go_wp2_with (go_at_call 118; refine (littleBytes_any n k _ hk).mono ?_)
 rintro e w1 ⟨v, rfl, rfl, hb, hbel⟩
 go_wp2_with fail
 have hr := reverse_blk w.heap.size k (litB n k) w1 hb (by rw [litB_length]; omega);rw [litB_length] at hr;refine hr.mono ?_;rintro e w2 ⟨rfl, hb2, hbel2⟩;go_wp2;go_ret;exact ⟨_, rfl, rfl, hb2, hbel.trans (hbel2 _ (Nat.le_refl _))⟩
theorem own_of_blk {w w' : World} {bs : List UInt8} {k : Nat} (hk : bs.length = k) (hm : k <= 8) (h : Blk w' w.heap.size bs) (hb : Below w.heap.size w w') : Gives w bs (.slice (some ⟨w.heap.size, 0, none⟩) k k) w' := by
 subst hk;exact ⟨h.own (Nat.le_refl _) (by unfold maxLen; omega), hb⟩
theorem u64_any (n : Nat) (w : World) :
  Calls Tryz.prog 163 #[.int .u64 n] w fun e w' => ∃ v, e = .returned v /\ Gives w (bigB n 8) v w' := by
 go_enter Tryz.func163, Tryz.ntmps163
 go_wp2_with (go_at_call 92; refine (bigBytes_any n 8 _ (by omega)).mono ?_)
 rintro e w1 ⟨v, rfl, rfl, hb, hbel⟩;go_wp2;go_ret;exact ⟨_, rfl, own_of_blk (bigB_length _ _) (by omega) hb hbel⟩
section
variable {P : Program} {ops : Array Oper} {rest : List Oper} {o : Oper} {a : Act} {Q : Exit -> Act -> World -> Prop}
theorem wp_append1 (w : World) (t e : TypeId) (i0 : TypeInfo) (z : Value) (ht : P.underlying t = some (.slice e)) (hi : P.info? e = some i0) (hz : i0.zero = some z) (hsz : i0.size = 1) (hby : i0.bytes = 1) (hzc : z.cells.size = 1)
  (hgd : o.guard = none) (s x : Operand) (ho : o.op = .call { callee := .builtin .append, args := #[s, x], argTypes := #[t, t] })
  {base : Nat} {v : Value} {n : Nat} {xs : List Value} {u : Value} (hown : w.ownsRow base e 1 v n xs) (hs : a.eval s = v) (hx : a.eval x = .slice (some ⟨w.heap.size, 0, none⟩) 1 1)
  (hu : u.oneCell' = true) (hlen : n + 1 <= 140737488355328) (hbase : base <= w.heap.size)
  (h : ∀ v' w', w'.ownsRow base e 1 v' (n + 1) (xs ++ [u]) -> (w.alloc (.cells #[u] e)).grownBy w' v.ownBlock -> (∀ B, B <= base -> Below B w w') -> wpList P ops Q rest (a.put o.dst v') w') :
  wpList P ops Q (o :: rest) a (w.alloc (.cells #[u] e)) := by
 refine wpList_append_own (w.alloc (.cells #[u] e)) hgd s x t ho base e i0 z 1 1 ht hi hz hsz hby hzc (by decide) v n xs hs (hown.alloc _) ⟨w.heap.size, 0, none⟩ 1 1 [u] hx rfl ?_ (by simpa using hu) (by unfold maxLen; omega) (by omega) (by simp; omega) ?_
 ·intro j y hj
  match j, hj with
  | 0, hj =>
   simp at hj; subst hj;rw [addr_add, cell_of_row _ _ _ _ _ _ (heap_alloc_new w _)];rfl
  | (j + 1), hj => simp at hj
 ·intro v' w' ho' hg _;refine h v' w' ho' hg fun B hB => ?_
  exact (((Below.refl B w).alloc (by omega) _).grown hg (by simp; omega) (fun k hk => by have := (hown.lt k hk).1; omega))
theorem step_appendN (w : World) {K : Act -> World -> Prop} {E : Prop} (t e : TypeId) (i0 : TypeInfo) (z : Value) (us : List Value) (ht : P.underlying t = some (.slice e)) (hi : P.info? e = some i0) (hz : i0.zero = some z) (hsz : i0.size = 1) (hby : i0.bytes = 1) (hzc : z.cells.size = 1)
  (hgd : o.guard = none) (s x : Operand) (ho : o.op = .call { callee := .builtin .append, args := #[s, x], argTypes := #[t, t] })
  {base : Nat} {v : Value} {n : Nat} {xs : List Value} (hown : w.ownsRow base e 1 v n xs) (hs : a.eval s = v) (m : Nat) (hx : a.eval x = .slice (some ⟨w.heap.size, 0, none⟩) m m) (hm : us.length = m)
  (hu : ∀ u ∈ us, u.oneCell' = true) (hlen : n + m <= 140737488355328) (hbase : base <= w.heap.size)
  (h : ∀ v' w', w'.ownsRow base e 1 v' (n + m) (xs ++ us) -> (w.alloc (.cells us.toArray e)).grownBy w' v.ownBlock -> (∀ B, B <= base -> Below B w w') -> K (a.put o.dst v') w') :
  if Region.wanted o (yielded ops a.tmps) = true then Oper.wp P o a (w.alloc (.cells us.toArray e)) K Q else E := by
 have hw : Region.wanted o (yielded ops a.tmps) = true := by simp [Region.wanted, hgd]
 rw [if_pos hw];refine wp_append_own (w.alloc (.cells us.toArray e)) s x t ho base e i0 z 1 1 ht hi hz hsz hby hzc (by decide) v n xs hs (hown.alloc _) ⟨w.heap.size, 0, none⟩ m m us hx (by omega) ?_ hu (by unfold maxLen; omega) (by omega) (by simp; omega) ?_
 ·intro j y hj;rw [addr_add, cell_of_row _ _ _ _ _ _ (heap_alloc_new w _)]
  simpa using hj
 ·intro v' w' ho' hg _;refine h v' w' ho' hg fun B hB => ?_
  exact (((Below.refl B w).alloc (by omega) _).grown hg (by simp; omega) (fun k hk => by have := (hown.lt k hk).1; omega))
theorem step_appendN_d (w : World) {K : Act -> World -> Prop} {E : Prop} (t e : TypeId) (i0 : TypeInfo) (z : Value) (us : List Value) (ht : P.underlying t = some (.slice e)) (hi : P.info? e = some i0) (hz : i0.zero = some z) (hsz : i0.size = 1) (hby : i0.bytes = 1) (hzc : z.cells.size = 1)
  (hgd : o.guard = none) (s x : Operand) (ho : o.op = .call { callee := .builtin .append, args := #[s, x], argTypes := #[t, t] })
  {base : Nat} {v : Value} {n : Nat} {xs : List Value} (hown : w.ownsRow base e 1 v n xs) (hs : a.eval s = v) (m : Nat) (hx : a.eval x = .slice (some ⟨w.heap.size, 0, none⟩) m m) (hm : us.length = m)
  (hu : ∀ u ∈ us, u.oneCell' = true) (hlen : n + m <= 140737488355328) (hbase : base <= w.heap.size)
  (h : ∀ v' w', w'.ownsRow base e 1 v' (n + m) (xs ++ us) -> (w.alloc (.cells us.toArray e)).drew.grownBy w' v.ownBlock -> (∀ B, B <= base -> Below B w w') -> K (a.put o.dst v') w') :
  if Region.wanted o (yielded ops a.tmps) = true then Oper.wp P o a (w.alloc (.cells us.toArray e)).drew K Q else E :=
 step_appendN w.drew t e i0 z us ht hi hz hsz hby hzc hgd s x ho (World.ownsRow.drew hown) hs m hx hm hu hlen hbase fun v' w' h1 h2 h3 => h v' w' h1 ⟨h2.os, h2.tape, h2.output, h2.size, h2.block⟩ (fun B hB => ((Below.refl B w).drew).trans (h3 B hB))
theorem wp_appendSl (w : World) (t e : TypeId) (i0 : TypeInfo) (ht : P.underlying t = some (.slice e)) (hi : P.info? e = some i0) (hz : i0.zero = some (.int .u8 0)) (hsz : i0.size = 1) (hby : i0.bytes = 1)
  (hgd : o.guard = none) (s x : Operand) (ho : o.op = .call { callee := .builtin .append, args := #[s, x], argTypes := #[t, t] })
  {base B0 : Nat} {v : Value} {bs : List UInt8} {y : Value} {cs : List UInt8} (hown : w.ownsRow base e 1 v bs.length (Lib.byteCells bs)) (hy : Sl w B0 y cs) (hs : a.eval s = v) (hx : a.eval x = y)
  (hlen : bs.length + cs.length <= 140737488355328) (hbase : base <= w.heap.size)
  (h : ∀ v' w', w'.ownsRow base e 1 v' (bs ++ cs).length (Lib.byteCells (bs ++ cs)) -> w.grownBy w' v.ownBlock -> (∀ B, B <= base -> Below B w w') -> wpList P ops Q rest (a.put o.dst v') w') :
  wpList P ops Q (o :: rest) a w := by
 have hbel : ∀ w', w.grownBy w' v.ownBlock -> ∀ B, B <= base -> Below B w w' := fun w' hg B hB =>
  (Below.refl B w).grown hg (by omega) (fun k hk => by have := (hown.lt k hk).1; omega)
 obtain ⟨A, c, rfl, hc1, hc2, hc⟩ := hy
 rcases A with _ | ad
 ·have h0 : cs.length = 0 := by
   rcases Nat.eq_zero_or_pos cs.length with h0 | h0
   ·exact h0
   ·obtain ⟨b, off, h, _⟩ := hc h0;cases h
  obtain rfl : cs = [] := List.eq_nil_of_length_eq_zero h0;refine wpList_plain hgd fun K hK => ?_
  have hrun : (Builtin.append_ #[t, t] o.type #[v, .slice none 0 c]).run P w = .ok v w := by
   rcases hown.2 with ⟨rfl, hn⟩ | ⟨g, cap, cur, rfl, _, _, hnc, _⟩
   ·simp [Builtin.append_, run_underlying ht, sizeOf, typeInfo, hi, Builtin.lenOf, Builtin.firstCells]
   ·simp [Builtin.append_, run_underlying ht, sizeOf, typeInfo, hi, Builtin.lenOf, Builtin.firstCells, hnc, storeCells]
  have hx' : a.eval x = .slice none 0 c := hx;unfold Oper.wp;simp [execOp, ho, resolve, invoke, builtin, hs, hx', hrun, Result.andThen];exact hK _ _ (h v w (by simpa using hown) (World.grownBy.refl w _) (hbel w (World.grownBy.refl w _)))
 ·refine wpList_append_own w hgd s x t ho base e i0 (.int .u8 0) 1 1 ht hi hz hsz hby rfl (by decide) v bs.length (Lib.byteCells bs) hs hown ad cs.length c (Lib.byteCells cs) hx (by rw [Lib.byteCells_length, Nat.mul_one]) ?_ (cell_oneCell cs) (by unfold maxLen; omega) (by omega) hbase ?_
  ·intro j u hj;have hjl : j < cs.length := by
    rcases Nat.lt_or_ge j cs.length with h' | h'
    ·exact h'
    ·rw [List.getElem?_eq_none (by rw [Lib.byteCells_length]; exact h')] at hj; cases hj
   rw [byteCells_get cs j hjl] at hj;injection hj with hj;subst hj;obtain ⟨b, off, hA, _, hr⟩ := hc (by omega);injection hA with hA;subst hA;rw [addr_add];exact hr j hjl
  ·intro v' w' ho' hg _;exact h v' w' (by simpa [Lib.byteCells_append] using ho') hg (hbel w' hg)
end
theorem own_len {w : World} {base size : Nat} {e : TypeId} {v : Value} {n m : Nat} {xs : List Value} (h : w.ownsRow base e size v n xs) (hm : n = m) : w.ownsRow base e size v m xs := hm ▸ h
theorem own_form {w : World} {base : Nat} {e : TypeId} {v : Value} {n : Nat} {xs : List Value} (h : w.ownsRow base e 1 v n xs) : ∃ A c, v = .slice A n c := by
 rcases h.2 with ⟨rfl, rfl⟩ | ⟨g, cap, cur, rfl, _⟩
 ·exact ⟨_, _, rfl⟩
 ·exact ⟨_, _, rfl⟩
theorem bigN_take_lt (bs : List UInt8) (k : Nat) (h : k <= bs.length) : bigN (bs.take k) < 256 ^ k := by
 have := bigN_lt (bs.take k)
 rwa [List.length_take, Nat.min_eq_left h] at this
set_option maxHeartbeats 400000 in
theorem refNumber_any (B : Nat) (v : Value) (bs : List UInt8) (w : World) (hs : Sl w B v bs) (h8 : bs.length <= 8) (h1 : 1 <= bs.length) :
  Calls Tryz.prog 70 #[v] w fun e w' => e = .returned (.int .u64 (bigN bs)) /\ w = w' := by
 obtain ⟨A, c, rfl, _, _⟩ := hs.form;obtain ⟨b, off, rfl, hb, hc⟩ := hs.at_ (by omega);go_enter Tryz.func70, Tryz.ntmps70;go_wp2
 go_loop [3, 8] (fun n i => ∃ k : Nat, k <= bs.length /\ i = .int .i64 k /\ n = .int .u64 (bigN (bs.take k))) (fun _ i => bs.length - (intOf i).toNat)
 case atStart => exact ⟨0, Nat.zero_le _, rfl, rfl⟩
 case round =>
  obtain ⟨k, hk, rfl, rfl⟩ := hrel
  by_cases hlt : k < bs.length
  ·have hc1 := hc k hlt;have g1 := bigN_take_lt bs k (by omega);have g2 := pow256_le7 (show k <= 7 by omega);have g3 := bs[k].toNat_lt;have g4 : bigN (bs.take k) < 72057594037927936 := by omega
   clear g1 g2;have HS : Hid (bigN (bs.take (k + 1)) = bigN (bs.take k) * 256 + bs[k].toNat) := by rw [take_snoc bs k hlt, bigN_snoc]; exact Lib.hid rfl
   clear hc;go_wp2
   go_round
   case rel => exact ⟨k + 1, by omega, by go_num, by rw [HS.out]; go_num⟩
   case measure => simp [intOf]; omega
  ·go_wp2;go_ret;exact ⟨by rw [List.take_of_length_le (by omega)]; rfl, rfl⟩
theorem refEqual_any (B B' : Nat) (v v' : Value) (bs cs : List UInt8) (w : World) (h1 : Sl w B v bs) (h2 : Sl w B' v' cs) :
  Calls Tryz.prog 15 #[v, v'] w fun e w' => e = .returned (.bool (bs == cs)) /\ w = w' := by
 have hc1 := h1.conv Tryz.underlying23 Tryz.underlying5 Tryz.underlying9;have hc2 := h2.conv Tryz.underlying23 Tryz.underlying5 Tryz.underlying9;go_enter Tryz.func15, Tryz.ntmps15;go_wp2;go_ret;exact ⟨rfl, rfl⟩
theorem set_back (k r : Nat) (x : UInt8) (T : List UInt8) (h : r < k) : (List.replicate (k - r) (0 : UInt8) ++ T).set (k - 1 - r) x = List.replicate (k - (r + 1)) 0 ++ x :: T := by
 obtain ⟨m, rfl⟩ : ∃ m, k = r + (m + 1) := ⟨k - r - 1, by omega⟩;have e1 : r + (m + 1) - r = m + 1 := by omega
 have e2 : r + (m + 1) - 1 - r = m := by omega
 have e3 : r + (m + 1) - (r + 1) = m := by omega
 rw [e1, e2, e3, List.replicate_succ', List.append_assoc, List.set_append_right _ _ (by simp)];simp
theorem litB_take_rev (n k r : Nat) (h : r < k) : ((litB n k).take (r + 1)).reverse = UInt8.ofNat (n / 256 ^ r % 256) :: ((litB n k).take r).reverse := by
 rw [take_snoc _ _ (by rw [litB_length]; exact h), List.reverse_append, litB_getElem];rfl
theorem byte_mod (n r : Nat) : (((n / 256 ^ r : Nat) : Int) % 256) = ((UInt8.ofNat (n / 256 ^ r % 256)).toNat : Int) := by
 have h : (UInt8.ofNat (n / 256 ^ r % 256)).toNat = n / 256 ^ r % 256 := by simp
 rw [h]; omega
theorem div_step (n r : Nat) : (((n / 256 ^ r : Nat) : Int) / 256) = ((n / 256 ^ (r + 1) : Nat) : Int) := by
 rw [Nat.pow_succ, <- Nat.div_div_eq_div_mul]; omega
set_option maxHeartbeats 400000 in
theorem refBig_any (n k : Nat) (w : World) (hk : k <= 8) (hn : n < 18446744073709551616) :
  Calls Tryz.prog 56 #[.int .u64 n, .int .i64 k] w fun e w' => ∃ v, e = .returned v /\ Gives w (bigB n k) v w' := by
 have hmk := make_run k (by omega);go_enter Tryz.func56, Tryz.ntmps56;go_wp2;go_loopw [0, 6] (fun m i wr => ∃ r : Nat, r <= k /\ i = .int .i64 ((k : Int) - 1 - r) /\ m = .int .u64 ((n / 256 ^ r : Nat) : Int) /\ Blk wr w.heap.size (List.replicate (k - r) 0 ++ ((litB n k).take r).reverse) /\ Below w.heap.size w wr) (fun _ i _ => (intOf i + 1).toNat)
 case atStart =>
  exact ⟨0, Nat.zero_le _, by simp, by simp, by simpa using Blk.new w _, (Below.refl _ _).alloc (Nat.le_refl _) _⟩
 case round =>
  obtain ⟨r, hr, rfl, rfl, hblk, hbel⟩ := hrel;have hq : n / 256 ^ r <= n := Nat.div_le_self _ _
  by_cases hlt : r < k
  ·have hc := hblk.cell (k - 1 - r) (by simp [litB_length]; omega);have hf := hblk.free (k - 1 - r);have hs := hblk.set_ (k - 1 - r) (UInt8.ofNat (n / 256 ^ r % 256));rw [set_back _ _ _ _ hlt, <- litB_take_rev _ _ _ hlt, <- byte_mod] at hs;have HS := Lib.hid hs;have HD := Lib.hid (div_step n r);clear hs;obtain ⟨q, hqq⟩ : ∃ q, q = n / 256 ^ r := ⟨_, rfl⟩;rw [<- hqq] at HS HD hq ⊢;clear hqq;go_wp2
   go_roundw
   case rel => exact ⟨r + 1, by omega, by go_num, by rw [<- HD.out], by exact HS.out, hbel.setCell (Nat.le_refl _) _⟩
   case measure => simp [intOf]; omega
  ·obtain rfl : r = k := by omega
   go_wp2;go_ret;refine ⟨_, rfl, own_of_blk (bigB_length _ _) hk ?_ hbel⟩;rw [List.take_of_length_le (by rw [litB_length]; omega), Nat.sub_self] at hblk;exact hblk
theorem gives_nil (w : World) : Gives w [] (.slice none 0 0) w := ⟨World.ownsRow_nil _ _ _ _, Below.refl _ _⟩
theorem arr9 {α : Type} (l : List α) (i : Nat) (a : α) : l.toArray.setIfInBounds i a = (l.set i a).toArray := List.setIfInBounds_toArray ..
theorem hd9 {α : Type} (a b : α) (l : List α) : (a :: l).set 0 b = b :: l := rfl
theorem tl9 {α : Type} (a b : α) (l : List α) (i : Nat) : (a :: l).set (i + 1) b = a :: l.set i b := rfl
section
variable {P : Program} {md : Region.Mode} {ops : Array Oper} {Q : Exit -> Act -> World -> Prop} {S : World -> Prop} {fuel : Nat} {listed : Array Bool} {a : Act} {w : World}
def mayTake (md : Region.Mode) (ops : Array Oper) (listed : Array Bool) (i : Nat) : Bool := Region.noSelect ops && Region.free md ops listed i && (Region.ready md ops listed).contains i
theorem held_load (i : Nat) (ty : TypeId) (x : Operand) (dst : Option Tmp) (hside : mayTake md ops listed i = true)
  (hop : (ops[i]?).map (fun o => (o.op, o.dst)) = some (.load ty x, dst)) (hw : (ops[i]?).map (fun o => Region.wanted o (yielded ops a.tmps)) = some true)
  (b o : Nat) (hx : a.eval x = .pointer (some ⟨b, o, none⟩)) (cs : List Value) (d : TypeDesc) (hS : ∀ w, S w -> w.rangeAt b o cs)
  (hu : P.underlying ty = some d) (hd : d.isRow = true) (hi : (P.info? ty).map (·.size) = some cs.length)
  (hQ : ∀ c a v w, Q (.panic c) (a.put dst v) w -> Q (.panic c) a w) (hSw : S w)
  (h : wpAnyH P md ops Q S fuel (listed.setIfInBounds i true) (a.put dst (.agg cs.toArray)) w) : wpAnyH P md ops Q S (fuel + 1) listed a w := by
 cases ho : ops[i]? with
 | none => rw [ho] at hop; cases hop
 | some op =>
  rw [ho] at hop hw;simp only [Option.map_some, Option.some.injEq, Prod.mk.injEq] at hop hw;obtain ⟨h1, h2⟩ := hop;simp only [mayTake, Bool.and_eq_true] at hside;subst h2;exact wpAnyH_take ho hside.1.1 hside.1.2 hside.2 (fun c a w => hQ c a _ w) (yieldsIf_load_mid hw ty x h1 b o hx cs d hS hu hd hi) hSw h
theorem held_value (i : Nat) (opv : Op) (ty : TypeId) (dst : Option Tmp) (v : Value) (hside : mayTake md ops listed i = true)
  (hop : (ops[i]?).map (fun o => (o.op, o.type, o.dst)) = some (opv, ty, dst)) (hw : (ops[i]?).map (fun o => Region.wanted o (yielded ops a.tmps)) = some true)
  (hrun : ∀ w, S w -> (execOp a.eval ⟨dst, opv, ty, "", #[], none⟩).run P w = .ok (.value v) w)
  (hQ : ∀ c a v w, Q (.panic c) (a.put dst v) w -> Q (.panic c) a w) (hSw : S w)
  (h : wpAnyH P md ops Q S fuel (listed.setIfInBounds i true) (a.put dst v) w) : wpAnyH P md ops Q S (fuel + 1) listed a w := by
 cases ho : ops[i]? with
 | none => rw [ho] at hop; cases hop
 | some op =>
  rw [ho] at hop hw;simp only [Option.map_some, Option.some.injEq, Prod.mk.injEq] at hop hw;simp only [mayTake, Bool.and_eq_true] at hside;obtain ⟨dst', op', ty', pos', after', guard'⟩ := op;obtain ⟨rfl, rfl, rfl⟩ := hop;refine wpAnyH_take ho hside.1.1 hside.1.2 hside.2 (fun c a w => hQ c a _ w) (.inl ⟨hw, fun w hw' => ?_⟩) hSw h;rw [<- hrun w hw'];unfold execOp;rfl
theorem hdv0 (i : Nat) (dst : Tmp) (v : Value) {opv : Op} {ty : TypeId} {L2 : Array Bool} {a2 : Act} (hop : (ops[i]?).map (fun o => (o.op, o.type, o.dst)) = some (opv, ty, some dst))
 (hSw : S w) (h : wpAnyH P md ops Q S fuel L2 a2 w)
 (hL : listed.setIfInBounds i true = L2 := by ((try simp only [arr9, hd9, tl9]); rfl)) (ha : a.put (some dst) v = a2 := by ((try simp only [Act.put, arr9, hd9, tl9]); rfl))
 (hrun : ∀ w, S w -> (execOp a.eval ⟨some dst, opv, ty, "", #[], none⟩).run P w = .ok (.value v) w := by intro w hS; first | kernel_rfl | go_simp)
 (hside : mayTake md ops listed i = true := by kernel_rfl) (hw : (ops[i]?).map (fun o => Region.wanted o (yielded ops a.tmps)) = some true := by kernel_rfl)
 (hQ : ∀ c a v w, Q (.panic c) (a.put (some dst) v) w -> Q (.panic c) a w := by exact fun _ _ _ _ h => h) : wpAnyH P md ops Q S (fuel + 1) listed a w := held_value i opv ty (some dst) v hside hop hw hrun hQ hSw (by subst hL; subst ha; exact h)
theorem hdv (i : Nat) (dst : Tmp) (v : Value) {opv : Op} {ty : TypeId} {L2 : Array Bool} {a2 : Act} (hop : (ops[i]?).map (fun o => (o.op, o.type, o.dst)) = some (opv, ty, some dst))
 (hrun : ∀ w, S w -> (execOp a.eval ⟨some dst, opv, ty, "", #[], none⟩).run P w = .ok (.value v) w) (hSw : S w) (h : wpAnyH P md ops Q S fuel L2 a2 w)
 (hL : listed.setIfInBounds i true = L2 := by ((try simp only [arr9, hd9, tl9]); rfl)) (ha : a.put (some dst) v = a2 := by ((try simp only [Act.put, arr9, hd9, tl9]); rfl))
 (hside : mayTake md ops listed i = true := by kernel_rfl) (hw : (ops[i]?).map (fun o => Region.wanted o (yielded ops a.tmps)) = some true := by kernel_rfl)
 (hQ : ∀ c a v w, Q (.panic c) (a.put (some dst) v) w -> Q (.panic c) a w := by exact fun _ _ _ _ h => h) : wpAnyH P md ops Q S (fuel + 1) listed a w := hdv0 i dst v hop hSw h hL ha hrun hside hw hQ
theorem held_call (i : Nat) (opv : Op) (ty : TypeId) (dst : Option Tmp) (f : FuncId) (args : Array Value) (hr : Region.ready md ops listed = [i])
  (hop : (ops[i]?).map (fun o => (o.op, o.type, o.dst)) = some (opv, ty, dst)) (hw : (ops[i]?).map (fun o => Region.wanted o (yielded ops a.tmps)) = some true)
  (hrun : (execOp a.eval ⟨dst, opv, ty, "", #[], none⟩).run P w = .ok (.enter f args) w)
  (hc : Calls P f args w fun e w' => ∃ v, e = .returned v /\ S w' /\ wpAnyH P md ops Q S fuel (listed.setIfInBounds i true) (a.put dst v) w') : wpAnyH P md ops Q S (fuel + 1) listed a w := by
 refine wpAnyH_ready hr (by simp) ?_;cases ho : ops[i]? with
 | none => rw [ho] at hop; cases hop
 | some op =>
  rw [ho] at hop hw;simp only [Option.map_some, Option.some.injEq, Prod.mk.injEq] at hop hw;obtain ⟨dst', op', ty', pos', after', guard'⟩ := op;obtain ⟨rfl, rfl, rfl⟩ := hop;refine AllReadyH.cons ho (fun K hK => ?_) AllReadyH.nil;rw [if_pos hw];have hrun' : (execOp a.eval ⟨dst', op', ty', pos', after', guard'⟩).run P w = .ok (.enter f args) w := by
   rw [<- hrun];unfold execOp;rfl
  unfold Oper.wp;rw [hrun', Oper.upon_enter];refine hc.mono fun e w' he => ?_
  obtain ⟨v, rfl, h1, h2⟩ := he;exact hK.out _ _ h1 fun _ => h2
theorem run_eql_agg {x y : Operand} {ρ : Operand -> Value} {p q : Array Value} {T U ty : TypeId} {d : Option Tmp} {r : Bool} (hg : P.eqGuardType P.depth T = false) (heq : (Op.equalIn 10000 T (.agg p) (.agg q)).run P w = .ok r w) (hx : ρ x = .agg p) (hy : ρ y = .agg q) :
  (execOp ρ ⟨d, .binOp .eql T x y U, ty, "", #[], none⟩).run P w = .ok (.value (.bool r)) w := by
 have hbin : (binOp .eql T (.agg p) (.agg q)).run P w = .ok (.bool r) w := by
  have e : binOp .eql T (.agg p) (.agg q) = (do pure (.bool (<- Op.equal T (.agg p) (.agg q)))) := by rfl
  have e2 : Op.equal T (.agg p) (.agg q) = Op.equalIn 10000 T (.agg p) (.agg q) := by rfl
  rw [e, e2, Sem.run_bind, heq];rfl
 have hgd : (eqGuard .eql T x y (.agg p) (.agg q)).run P w = .ok () w := by
  unfold eqGuard;simp [go_sem, hg]
 unfold execOp;simp only [hx, hy, Sem.run_bind, hgd, hbin, Result.andThen_ok];rfl
theorem run_slice_op {t ty : TypeId} {x hi : Operand} {ρ : Operand -> Value} {u v h : Value} {d : Option Tmp} (hx : ρ x = u /\ ρ hi = h) (hrun : (Instr.sliceAt t u none (some h) none).run P w = .ok v w) :
  (execOp ρ ⟨d, .slice t x none (some hi) none, ty, "", #[], none⟩).run P w = .ok (.value v) w := by
 obtain ⟨rfl, rfl⟩ := hx;unfold execOp;simp only [Option.map_some, Option.map_none, Sem.run_bind, hrun, Result.andThen_ok];rfl
theorem run_slice_op_lo {t ty : TypeId} {x lo : Operand} {ρ : Operand -> Value} {u v h : Value} {d : Option Tmp} (hx : ρ x = u /\ ρ lo = h) (hrun : (Instr.sliceAt t u (some h) none none).run P w = .ok v w) :
  (execOp ρ ⟨d, .slice t x (some lo) none none, ty, "", #[], none⟩).run P w = .ok (.value v) w := by
 obtain ⟨rfl, rfl⟩ := hx;unfold execOp;simp only [Option.map_some, Option.map_none, Sem.run_bind, hrun, Result.andThen_ok];rfl
def HStep (P : Program) (md : Region.Mode) (ops : Array Oper) (Q : Exit -> Act -> World -> Prop) (S : World -> Prop) (fuel : Nat) (listed : Array Bool) (a : Act) (w : World) (i : Nat) : Prop :=
 wpOp P ops Q i (fun a' w' => S w' /\ wpAnyH P md ops Q S fuel (listed.setIfInBounds i true) a' w') a w
theorem held_one (i : Nat) (hr : Region.ready md ops listed = [i]) (h : HStep P md ops Q S fuel listed a w i) : wpAnyH P md ops Q S (fuel + 1) listed a w :=
 wpAnyH_all hr (by simp) fun j hj => by
  simp only [List.mem_cons, List.not_mem_nil, or_false] at hj;subst hj; exact h
theorem held_two (i j : Nat) (hr : Region.ready md ops listed = [i, j]) (h1 : HStep P md ops Q S fuel listed a w i) (h2 : HStep P md ops Q S fuel listed a w j) : wpAnyH P md ops Q S (fuel + 1) listed a w :=
 wpAnyH_all hr (by simp) fun k hk => by
  simp only [List.mem_cons, List.not_mem_nil, or_false] at hk
  rcases hk with rfl | rfl
  ·exact h1
  ·exact h2
theorem step_value (i : Nat) (opv : Op) (ty : TypeId) (dst : Option Tmp) (v : Value) (w' : World)
  (hop : (ops[i]?).map (fun o => (o.op, o.type, o.dst)) = some (opv, ty, dst)) (hw : (ops[i]?).map (fun o => Region.wanted o (yielded ops a.tmps)) = some true)
  (hrun : (execOp a.eval ⟨dst, opv, ty, "", #[], none⟩).run P w = .ok (.value v) w') (hS : S w')
  (h : wpAnyH P md ops Q S fuel (listed.setIfInBounds i true) (a.put dst v) w') : HStep P md ops Q S fuel listed a w i := by
 unfold HStep;cases ho : ops[i]? with
 | none => rw [ho] at hop; cases hop
 | some op =>
  rw [ho] at hop hw;simp only [Option.map_some, Option.some.injEq, Prod.mk.injEq] at hop hw;obtain ⟨dst', op', ty', pos', after', guard'⟩ := op;obtain ⟨rfl, rfl, rfl⟩ := hop;have hrun' : (execOp a.eval ⟨dst', op', ty', pos', after', guard'⟩).run P w = .ok (.value v) w' := by
   rw [<- hrun];unfold execOp;rfl
  refine wpOp_step ho fun K' hK => ?_
  rw [if_pos hw];unfold Oper.wp;rw [hrun'];exact hK _ _ ⟨hS, h⟩
theorem step_call (i : Nat) (opv : Op) (ty : TypeId) (dst : Option Tmp) (f : FuncId) (args : Array Value)
  (hop : (ops[i]?).map (fun o => (o.op, o.type, o.dst)) = some (opv, ty, dst)) (hw : (ops[i]?).map (fun o => Region.wanted o (yielded ops a.tmps)) = some true)
  (hrun : (execOp a.eval ⟨dst, opv, ty, "", #[], none⟩).run P w = .ok (.enter f args) w)
  (hc : Calls P f args w fun e w' => ∃ v, e = .returned v /\ S w' /\ wpAnyH P md ops Q S fuel (listed.setIfInBounds i true) (a.put dst v) w') : HStep P md ops Q S fuel listed a w i := by
 unfold HStep;cases ho : ops[i]? with
 | none => rw [ho] at hop; cases hop
 | some op =>
  rw [ho] at hop hw;simp only [Option.map_some, Option.some.injEq, Prod.mk.injEq] at hop hw;obtain ⟨dst', op', ty', pos', after', guard'⟩ := op;obtain ⟨rfl, rfl, rfl⟩ := hop;have hrun' : (execOp a.eval ⟨dst', op', ty', pos', after', guard'⟩).run P w = .ok (.enter f args) w := by
   rw [<- hrun];unfold execOp;rfl
  refine wpOp_step ho fun K' hK => ?_
  rw [if_pos hw];unfold Oper.wp;rw [hrun', Oper.upon_enter];refine hc.mono fun e w' he => ?_
  obtain ⟨v, rfl, h1, h2⟩ := he;exact hK _ _ ⟨h1, h2⟩
theorem run_makeSlice {t ty : TypeId} {x y : Operand} {ρ : Operand -> Value} {v : Value} {w' : World} {d : Option Tmp} (h : (Instr.makeSlice t (ρ x) (ρ y)).run P w = .ok v w') :
  (execOp ρ ⟨d, .makeSlice t x y, ty, "", #[], none⟩).run P w = .ok (.value v) w' := by
 unfold execOp;simp only [Sem.run_bind, h, Result.andThen_ok];rfl
end
def rotr (x : UInt32) (n : Nat) : UInt32 := UInt32.ofNat ((x.toNat / 2 ^ n) ||| (x.toNat * 2 ^ (32 - n) % 4294967296))
def shrw (x : UInt32) (n : Nat) : UInt32 := UInt32.ofNat (x.toNat / 2 ^ n)
def sm0 (x : UInt32) : UInt32 := rotr x 7 ^^^ rotr x 18 ^^^ shrw x 3
def sm1 (x : UInt32) : UInt32 := rotr x 17 ^^^ rotr x 19 ^^^ shrw x 10
def bg0 (x : UInt32) : UInt32 := rotr x 2 ^^^ rotr x 13 ^^^ rotr x 22
def bg1 (x : UInt32) : UInt32 := rotr x 6 ^^^ rotr x 11 ^^^ rotr x 25
def chw (x y z : UInt32) : UInt32 := x &&& y ||| ~~~x &&& z
def mjw (x y z : UInt32) : UInt32 := x &&& y ||| x &&& z ||| y &&& z
theorem wraps_u32 (m : Int) (h0 : 0 <= m) (h1 : m < 4294967296) : IntKind.u32.wrap m = m := by rw [IntKind.wrap_u32]; omega
theorem u32_or (a b : UInt32) : bits .or .u32 a.toNat b.toNat = ((a ||| b).toNat : Int) := by
 rw [(bits_nat .u32 32 (by decide) wraps_u32 _ _ a.toNat_lt b.toNat_lt).2]; simp
theorem u32_and (a b : UInt32) : bits .and .u32 a.toNat b.toNat = ((a &&& b).toNat : Int) := by
 rw [(bits_nat .u32 32 (by decide) wraps_u32 _ _ a.toNat_lt b.toNat_lt).1]; simp
theorem bv_word (a : UInt32) : BitVec.ofInt 32 (a.toNat : Int) = a.toBitVec := by
 apply BitVec.eq_of_toNat_eq;have := a.toNat_lt;simp
theorem u32_xor (a b : UInt32) : bits .xor .u32 a.toNat b.toNat = ((a ^^^ b).toNat : Int) := by
 have hx := (a ^^^ b).toNat_lt;show IntKind.u32.wrap (((BitVec.ofInt 32 (a.toNat : Int) ^^^ BitVec.ofInt 32 (b.toNat : Int)).toNat : Nat) : Int) = _;rw [bv_word, bv_word, show (a.toBitVec ^^^ b.toBitVec).toNat = (a ^^^ b).toNat from rfl, wraps_u32 _ (by omega) (by omega)]
theorem max_u32 : IntKind.u32.max = ((4294967295 : UInt32).toNat : Int) := by decide
theorem ones_xor (a : UInt32) : (4294967295 : UInt32) ^^^ a = ~~~a := by
 apply UInt32.toBitVec_inj.1;have h : (4294967295 : UInt32).toBitVec = BitVec.allOnes 32 := by decide
 rw [UInt32.toBitVec_xor, UInt32.toBitVec_not, h, BitVec.allOnes_xor]
theorem u32_not (a : UInt32) : bits .xor .u32 IntKind.u32.max a.toNat = ((~~~a).toNat : Int) := by
 rw [max_u32, u32_xor, ones_xor]
theorem u32_add (a b : UInt32) : ((a.toNat : Int) + (b.toNat : Int)) % 4294967296 = ((a + b).toNat : Int) := by
 rw [UInt32.toNat_add];omega
theorem or_lt32 {a b : Nat} (ha : a < 4294967296) (hb : b < 4294967296) : a ||| b < 4294967296 := Nat.or_lt_two_pow (n := 32) ha hb
theorem div_lt32 (x : UInt32) (n : Nat) : x.toNat / 2 ^ n < 4294967296 := Nat.lt_of_le_of_lt (Nat.div_le_self _ _) x.toNat_lt
theorem ofNat32 {n : Nat} (h : n < 4294967296) : (UInt32.ofNat n).toNat = n := by simp; omega
theorem div_cast (x : UInt32) (n : Nat) : (x.toNat : Int) / 2 ^ n = ((x.toNat / 2 ^ n : Nat) : Int) := by simp
theorem shl_cast (x : UInt32) (n : Nat) : ((x.toNat : Int) * 2 ^ n) % 4294967296 = ((x.toNat * 2 ^ n % 4294967296 : Nat) : Int) := by
 simp
theorem u32_shr (x : UInt32) (n : Nat) : (x.toNat : Int) / 2 ^ n = ((shrw x n).toNat : Int) := by
 rw [div_cast, shrw, ofNat32 (div_lt32 x n)]
theorem u32_rotr (x : UInt32) (n : Nat) : bits .or .u32 ((x.toNat : Int) / 2 ^ n) (((x.toNat : Int) * 2 ^ (32 - n)) % 4294967296) = ((rotr x n).toNat : Int) := by
 have h1 := div_lt32 x n;have h2 : x.toNat * 2 ^ (32 - n) % 4294967296 < 4294967296 := Nat.mod_lt _ (by decide);rw [div_cast, shl_cast, (bits_nat .u32 32 (by decide) wraps_u32 _ _ h1 h2).2, rotr, ofNat32 (or_lt32 h1 h2)]
theorem u32_rotl (x : UInt32) (n : Nat) : bits .or .u32 (((x.toNat : Int) * 2 ^ (32 - n)) % 4294967296) ((x.toNat : Int) / 2 ^ n) = ((rotr x n).toNat : Int) := by
 have h1 := div_lt32 x n;have h2 : x.toNat * 2 ^ (32 - n) % 4294967296 < 4294967296 := Nat.mod_lt _ (by decide);rw [div_cast, shl_cast, (bits_nat .u32 32 (by decide) wraps_u32 _ _ h2 h1).2, rotr, Nat.or_comm, ofNat32 (or_lt32 h1 h2)]
def cK : List UInt32 := [
 0x428a2f98, 0x71374491, 0xb5c0fbcf, 0xe9b5dba5, 0x3956c25b, 0x59f111f1, 0x923f82a4, 0xab1c5ed5,
 0xd807aa98, 0x12835b01, 0x243185be, 0x550c7dc3, 0x72be5d74, 0x80deb1fe, 0x9bdc06a7, 0xc19bf174,
 0xe49b69c1, 0xefbe4786, 0x0fc19dc6, 0x240ca1cc, 0x2de92c6f, 0x4a7484aa, 0x5cb0a9dc, 0x76f988da,
 0x983e5152, 0xa831c66d, 0xb00327c8, 0xbf597fc7, 0xc6e00bf3, 0xd5a79147, 0x06ca6351, 0x14292967,
 0x27b70a85, 0x2e1b2138, 0x4d2c6dfc, 0x53380d13, 0x650a7354, 0x766a0abb, 0x81c2c92e, 0x92722c85,
 0xa2bfe8a1, 0xa81a664b, 0xc24b8b70, 0xc76c51a3, 0xd192e819, 0xd6990624, 0xf40e3585, 0x106aa070,
 0x19a4c116, 0x1e376c08, 0x2748774c, 0x34b0bcb5, 0x391c0cb3, 0x4ed8aa4a, 0x5b9cca4f, 0x682e6ff3,
 0x748f82ee, 0x78a5636f, 0x84c87814, 0x8cc70208, 0x90befffa, 0xa4506ceb, 0xbef9a3f7, 0xc67178f2]
theorem cK_length : cK.length = 64 := rfl
structure St where
 a : UInt32
 b : UInt32
 c : UInt32
 d : UInt32
 e : UInt32
 f : UInt32
 g : UInt32
 h : UInt32
def St.list (s : St) : List UInt32 := [s.a, s.b, s.c, s.d, s.e, s.f, s.g, s.h]
def St.of (l : List UInt32) : St := ⟨l.getD 0 0, l.getD 1 0, l.getD 2 0, l.getD 3 0, l.getD 4 0, l.getD 5 0, l.getD 6 0, l.getD 7 0⟩
theorem St.list_length (s : St) : s.list.length = 8 := rfl
def wordN (b : List UInt8) (t : Nat) : Nat := bigN [b.getD (4 * t) 0, b.getD (4 * t + 1) 0, b.getD (4 * t + 2) 0, b.getD (4 * t + 3) 0]
def wordB (b : List UInt8) (t : Nat) : UInt32 := UInt32.ofNat (wordN b t)
theorem wordN_lt (b : List UInt8) (t : Nat) : wordN b t < 4294967296 := by
 unfold wordN;generalize b.getD (4 * t) 0 = x0;generalize b.getD (4 * t + 1) 0 = x1;generalize b.getD (4 * t + 2) 0 = x2;generalize b.getD (4 * t + 3) 0 = x3;have := bigN_lt [x0, x1, x2, x3];have e : 256 ^ [x0, x1, x2, x3].length = 4294967296 := by simp only [List.length_cons, List.length_nil]
 omega
theorem wordB_nat (b : List UInt8) (t : Nat) : (wordB b t).toNat = wordN b t := ofNat32 (wordN_lt b t)
theorem word_or (a b c d : UInt8) : bits .or .u32 (bits .or .u32 (bits .or .u32 ((a.toNat : Int) % 4294967296 * 16777216 % 4294967296) ((b.toNat : Int) % 4294967296 * 65536 % 4294967296)) ((c.toNat : Int) % 4294967296 * 256 % 4294967296)) ((d.toNat : Int) % 4294967296) = ((bigN [a, b, c, d] : Nat) : Int) := by
 have ha := a.toNat_lt;have hb := b.toNat_lt;have hc := c.toNat_lt;have hd := d.toNat_lt;have hk : ∀ m : Int, 0 <= m -> m < 2 ^ 32 -> IntKind.u32.wrap m = m := fun m h0 h1 => wraps_u32 m h0 (by omega)
 have h1 := bits_join .u32 32 (by decide) hk 24 ((a.toNat : Int) % 4294967296 * 16777216 % 4294967296) ((b.toNat : Int) % 4294967296 * 65536 % 4294967296) (by omega) (by omega) (by omega) (by omega) (by omega) (by omega);rw [h1];rw [bits_join .u32 32 (by decide) hk 16 _ ((c.toNat : Int) % 4294967296 * 256 % 4294967296) (by omega) (by omega) (by omega) (by omega) (by omega) (by omega)];rw [bits_join .u32 32 (by decide) hk 8 _ ((d.toNat : Int) % 4294967296) (by omega) (by omega) (by omega) (by omega) (by omega) (by omega)];simp only [bigN, List.foldl_cons, List.foldl_nil];omega
theorem getD_get {α : Type} (l : List α) (i : Nat) (d : α) (h : i < l.length) : l.getD i d = l[i] := by simp [List.getD, List.getElem?_eq_getElem h]
theorem wordB_of (b : List UInt8) (k : Nat) (h : 4 * k + 3 < b.length) : ((wordB b k).toNat : Int) = ((bigN [b[4 * k], b[4 * k + 1], b[4 * k + 2], b[4 * k + 3]] : Nat) : Int) := by
 rw [wordB_nat, wordN, getD_get b (4 * k) 0 (by omega), getD_get b (4 * k + 1) 0 (by omega), getD_get b (4 * k + 2) 0 (by omega), getD_get b (4 * k + 3) 0 h]
def nextW (b : List UInt8) (l : List UInt32) : UInt32 :=
 if l.length < 16 then wordB b l.length else sm1 (l.getD (l.length - 2) 0) + l.getD (l.length - 7) 0 + sm0 (l.getD (l.length - 15) 0) + l.getD (l.length - 16) 0
def sched (b : List UInt8) : Nat -> List UInt32
 | 0 => []
 | n + 1 => sched b n ++ [nextW b (sched b n)]
theorem sched_length (b : List UInt8) (n : Nat) : (sched b n).length = n := by
 induction n with
 | zero => rfl
 | succ n ih => simp [sched, ih]
theorem sched_set (b : List UInt8) (k n : Nat) (x : UInt32) (hk : k < n) (hx : x = nextW b (sched b k)) : (sched b k ++ List.replicate (n - k) 0).set k x = sched b (k + 1) ++ List.replicate (n - (k + 1)) 0 := by
 subst hx;rw [List.set_append_right _ _ (by rw [sched_length]; exact Nat.le_refl _), sched_length, Nat.sub_self, show n - k = (n - (k + 1)) + 1 by omega, List.replicate_succ, List.set_cons_zero, sched, List.append_assoc];rfl
theorem nextW_lo (b : List UInt8) (k : Nat) (h : k < 16) : nextW b (sched b k) = wordB b k := by
 rw [nextW, sched_length, if_pos h]
theorem nextW_hi (b : List UInt8) (k : Nat) (h : 16 <= k) : nextW b (sched b k) = sm1 ((sched b k).getD (k - 2) 0) + (sched b k).getD (k - 7) 0 + sm0 ((sched b k).getD (k - 15) 0) + (sched b k).getD (k - 16) 0 := by
 rw [nextW, sched_length, if_neg (by omega)]
def rnd (v : St) (k w : UInt32) : St :=
 ⟨v.h + bg1 v.e + chw v.e v.f v.g + k + w + (bg0 v.a + mjw v.a v.b v.c), v.a, v.b, v.c, v.d + (v.h + bg1 v.e + chw v.e v.f v.g + k + w), v.e, v.f, v.g⟩
def rounds (s : St) (w : List UInt32) : Nat -> St
 | 0 => s
 | n + 1 => rnd (rounds s w n) (cK.getD n 0) (w.getD n 0)
def addSt (s v : St) : St := ⟨s.a + v.a, s.b + v.b, s.c + v.c, s.d + v.d, s.e + v.e, s.f + v.f, s.g + v.g, s.h + v.h⟩
def comp (s : St) (b : List UInt8) : St := addSt s (rounds s (sched b 64) 64)
def start : St := ⟨0x6a09e667, 0xbb67ae85, 0x3c6ef372, 0xa54ff53a, 0x510e527f, 0x9b05688c, 0x1f83d9ab, 0x5be0cd19⟩
def blockAt (m : List UInt8) (n : Nat) : List UInt8 := (m.drop (64 * n)).take 64
def states (m : List UInt8) : Nat -> St
 | 0 => start
 | n + 1 => comp (states m n) (blockAt m n)
def outB (s : St) : List UInt8 := s.list.flatMap fun x => bigB x.toNat 4
def zerosOf (n : Nat) : Nat := 63 - (n + 8) % 64
def padB (m : List UInt8) : List UInt8 := m ++ (128 :: List.replicate (zerosOf m.length) 0) ++ bigB (8 * m.length) 8
def sha (m : List UInt8) : List UInt8 := outB (states (padB m) ((padB m).length / 64))
theorem outB_length (s : St) : (outB s).length = 32 := by
 simp [outB, St.list, bigB_length]
theorem sha_length (m : List UInt8) : (sha m).length = 32 := outB_length _
theorem blockAt_append (m p : List UInt8) (n : Nat) (h : 64 * n + 64 <= m.length) : blockAt (m ++ p) n = blockAt m n := by
 unfold blockAt;rw [List.drop_append_of_le_length (by omega), List.take_append_of_le_length (by simp; omega)]
theorem states_append (m p : List UInt8) (n : Nat) (h : 64 * n <= m.length) : states (m ++ p) n = states m n := by
 induction n with
 | zero => rfl
 | succ n ih => rw [states, states, ih (by omega), blockAt_append m p n (by omega)]
theorem padB_length (m : List UInt8) : (padB m).length % 64 = 0 := by
 simp only [padB, List.length_append, List.length_cons, List.length_replicate, bigB_length, zerosOf];omega
def WordIs (w : World) (x : UInt32) (e : Ending) (w' : World) : Prop := e = .returned ((.int .u32 (x.toNat : Int))) /\ w' = w
theorem and31 : ∀ n : Fin 32, 1 <= n.val -> bits .and .u64 (IntKind.u64.wrap (-(n.val : Int))) 31 = 32 - (n.val : Int) := by decide +kernel
theorem neg31 (n : Nat) (h1 : 1 <= n) (h2 : n <= 31) : bits .and .u64 (IntKind.u64.wrap (-(n : Int))) 31 = ((32 - n : Nat) : Int) := by
 have := and31 ⟨n, by omega⟩ h1;simp only at this;rw [this];omega
theorem rotateLeft_any (x : UInt32) (n : Nat) (h1 : 1 <= n) (h2 : n <= 31) (w : World) :
  Calls Tryz.prog 180 #[(.int .u32 (x.toNat : Int)), .int .i64 (-(n : Int))] w (WordIs w (rotr x n)) := by
 unfold WordIs;have hb := neg31 n h1 h2;have hr := u32_rotl x n;go_enter Tryz.func180, Tryz.ntmps180;go_wp2;go_ret;refine ⟨ret_int ?_, rfl⟩;rw [show 32 - (32 - n) = n by omega];exact hr
theorem right_any (x : UInt32) (n : Nat) (h1 : 1 <= n) (h2 : n <= 31) (w : World) :
  Calls Tryz.prog 177 #[(.int .u32 (x.toNat : Int)), .int .i64 (n : Int)] w (WordIs w (rotr x n)) := by
 go_enter Tryz.func177, Tryz.ntmps177
 go_wp2_with (go_at_call 180; refine (rotateLeft_any x n h1 h2 _).mono ?_)
 rintro e wK ⟨rfl, rfl⟩;go_wp2;go_ret;exact ⟨rfl, rfl⟩
theorem rot_any (x : UInt32) (n : Nat) (h1 : 1 <= n) (h2 : n <= 31) (w : World) :
  Calls Tryz.prog 147 #[(.int .u32 (x.toNat : Int)), .int .u64 (n : Int)] w (WordIs w (rotr x n)) := by
 unfold WordIs;have hr := u32_rotr x n;go_enter Tryz.func147, Tryz.ntmps147;go_wp2;go_ret;exact ⟨rfl, rfl⟩
theorem sum0_any (x : UInt32) (w : World) : Calls Tryz.prog 172 #[(.int .u32 (x.toNat : Int))] w (WordIs w (bg0 x)) := by
 go_enter Tryz.func172, Tryz.ntmps172
 go_wp2_with (go_at_call 177; refine (right_any x 2 (by decide) (by decide) _).mono ?_)
 rintro e wK ⟨rfl, rfl⟩
 go_wp2_with (go_at_call 177; refine (right_any x 13 (by decide) (by decide) _).mono ?_)
 rintro e wK ⟨rfl, rfl⟩
 go_wp2_with (go_at_call 177; refine (right_any x 22 (by decide) (by decide) _).mono ?_)
 rintro e wK ⟨rfl, rfl⟩;go_wp2;go_ret;refine ⟨ret_int ?_, rfl⟩;rw [u32_xor, u32_xor];rfl
theorem sum1_any (x : UInt32) (w : World) : Calls Tryz.prog 170 #[(.int .u32 (x.toNat : Int))] w (WordIs w (bg1 x)) := by
 go_enter Tryz.func170, Tryz.ntmps170
 go_wp2_with (go_at_call 177; refine (right_any x 6 (by decide) (by decide) _).mono ?_)
 rintro e wK ⟨rfl, rfl⟩
 go_wp2_with (go_at_call 177; refine (right_any x 11 (by decide) (by decide) _).mono ?_)
 rintro e wK ⟨rfl, rfl⟩
 go_wp2_with (go_at_call 177; refine (right_any x 25 (by decide) (by decide) _).mono ?_)
 rintro e wK ⟨rfl, rfl⟩;go_wp2;go_ret;refine ⟨ret_int ?_, rfl⟩;rw [u32_xor, u32_xor];rfl
theorem small0_any (x : UInt32) (w : World) : Calls Tryz.prog 176 #[(.int .u32 (x.toNat : Int))] w (WordIs w (sm0 x)) := by
 go_enter Tryz.func176, Tryz.ntmps176
 go_wp2_with (go_at_call 177; refine (right_any x 7 (by decide) (by decide) _).mono ?_)
 rintro e wK ⟨rfl, rfl⟩
 go_wp2_with (go_at_call 177; refine (right_any x 18 (by decide) (by decide) _).mono ?_)
 rintro e wK ⟨rfl, rfl⟩;go_wp2;go_ret;refine ⟨ret_int ?_, rfl⟩;have h3 := u32_shr x 3;simp only [Int.reducePow] at h3;rw [h3, u32_xor, u32_xor];rfl
theorem small1_any (x : UInt32) (w : World) : Calls Tryz.prog 175 #[(.int .u32 (x.toNat : Int))] w (WordIs w (sm1 x)) := by
 go_enter Tryz.func175, Tryz.ntmps175
 go_wp2_with (go_at_call 177; refine (right_any x 17 (by decide) (by decide) _).mono ?_)
 rintro e wK ⟨rfl, rfl⟩
 go_wp2_with (go_at_call 177; refine (right_any x 19 (by decide) (by decide) _).mono ?_)
 rintro e wK ⟨rfl, rfl⟩;go_wp2;go_ret;refine ⟨ret_int ?_, rfl⟩;have h3 := u32_shr x 10;simp only [Int.reducePow] at h3;rw [h3, u32_xor, u32_xor];rfl
theorem choice_any (x y z : UInt32) (w : World) : Calls Tryz.prog 171 #[(.int .u32 (x.toNat : Int)), (.int .u32 (y.toNat : Int)), (.int .u32 (z.toNat : Int))] w (WordIs w (chw x y z)) := by
 have hsg : IntKind.u32.signed = false := rfl;go_enter Tryz.func171, Tryz.ntmps171;go_wp2;go_ret;refine ⟨ret_int ?_, rfl⟩;rw [u32_not, u32_and, u32_and, u32_or];rfl
theorem majority_any (x y z : UInt32) (w : World) : Calls Tryz.prog 173 #[(.int .u32 (x.toNat : Int)), (.int .u32 (y.toNat : Int)), (.int .u32 (z.toNat : Int))] w (WordIs w (mjw x y z)) := by
 go_enter Tryz.func173, Tryz.ntmps173;go_wp2;go_ret;refine ⟨ret_int ?_, rfl⟩;rw [u32_and, u32_and, u32_and, u32_or, u32_or];rfl
def wordCells (l : List UInt32) : List Value := l.map fun x => .int .u32 (x.toNat : Int)
theorem wordCells_length (l : List UInt32) : (wordCells l).length = l.length := by simp [wordCells]
theorem wordCells_get (l : List UInt32) (k : Nat) (h : k < l.length) : (wordCells l)[k]? = some (.int .u32 (l[k].toNat : Int)) := by
 simp [wordCells, List.getElem?_eq_getElem h]
theorem wordCells_set (l : List UInt32) (k : Nat) (x : UInt32) : (wordCells l).set k (.int .u32 (x.toNat : Int)) = wordCells (l.set k x) := by
 simp [wordCells, List.map_set]
theorem cell_oneWord (l : List UInt32) : ∀ u ∈ wordCells l, u.oneCell' = true := by
 intro u hu;simp only [wordCells, List.mem_map] at hu;obtain ⟨b, _, rfl⟩ := hu;rfl
theorem zero64w : (#[.int .u32 0, .int .u32 0, .int .u32 0, .int .u32 0, .int .u32 0, .int .u32 0, .int .u32 0, .int .u32 0, .int .u32 0, .int .u32 0, .int .u32 0, .int .u32 0, .int .u32 0, .int .u32 0, .int .u32 0, .int .u32 0, .int .u32 0, .int .u32 0, .int .u32 0, .int .u32 0, .int .u32 0, .int .u32 0, .int .u32 0, .int .u32 0, .int .u32 0, .int .u32 0, .int .u32 0, .int .u32 0, .int .u32 0, .int .u32 0, .int .u32 0, .int .u32 0, .int .u32 0, .int .u32 0, .int .u32 0, .int .u32 0, .int .u32 0, .int .u32 0, .int .u32 0, .int .u32 0, .int .u32 0, .int .u32 0, .int .u32 0, .int .u32 0, .int .u32 0, .int .u32 0, .int .u32 0, .int .u32 0, .int .u32 0, .int .u32 0, .int .u32 0, .int .u32 0, .int .u32 0, .int .u32 0, .int .u32 0, .int .u32 0, .int .u32 0, .int .u32 0, .int .u32 0, .int .u32 0, .int .u32 0, .int .u32 0, .int .u32 0, .int .u32 0] : Array Value) = (wordCells (List.replicate 64 0)).toArray := by rfl
theorem zero64b : (#[.int .u8 0, .int .u8 0, .int .u8 0, .int .u8 0, .int .u8 0, .int .u8 0, .int .u8 0, .int .u8 0, .int .u8 0, .int .u8 0, .int .u8 0, .int .u8 0, .int .u8 0, .int .u8 0, .int .u8 0, .int .u8 0, .int .u8 0, .int .u8 0, .int .u8 0, .int .u8 0, .int .u8 0, .int .u8 0, .int .u8 0, .int .u8 0, .int .u8 0, .int .u8 0, .int .u8 0, .int .u8 0, .int .u8 0, .int .u8 0, .int .u8 0, .int .u8 0, .int .u8 0, .int .u8 0, .int .u8 0, .int .u8 0, .int .u8 0, .int .u8 0, .int .u8 0, .int .u8 0, .int .u8 0, .int .u8 0, .int .u8 0, .int .u8 0, .int .u8 0, .int .u8 0, .int .u8 0, .int .u8 0, .int .u8 0, .int .u8 0, .int .u8 0, .int .u8 0, .int .u8 0, .int .u8 0, .int .u8 0, .int .u8 0, .int .u8 0, .int .u8 0, .int .u8 0, .int .u8 0, .int .u8 0, .int .u8 0, .int .u8 0, .int .u8 0] : Array Value) = (Lib.byteCells (List.replicate 64 0)).toArray := by rfl
theorem zero32b : (#[.int .u8 0, .int .u8 0, .int .u8 0, .int .u8 0, .int .u8 0, .int .u8 0, .int .u8 0, .int .u8 0, .int .u8 0, .int .u8 0, .int .u8 0, .int .u8 0, .int .u8 0, .int .u8 0, .int .u8 0, .int .u8 0, .int .u8 0, .int .u8 0, .int .u8 0, .int .u8 0, .int .u8 0, .int .u8 0, .int .u8 0, .int .u8 0, .int .u8 0, .int .u8 0, .int .u8 0, .int .u8 0, .int .u8 0, .int .u8 0, .int .u8 0, .int .u8 0] : Array Value) = (Lib.byteCells (List.replicate 32 0)).toArray := by rfl
theorem zero8w : (#[.int .u32 0, .int .u32 0, .int .u32 0, .int .u32 0, .int .u32 0, .int .u32 0, .int .u32 0, .int .u32 0] : Array Value) = (wordCells (List.replicate 8 0)).toArray := by rfl
def Row (w : World) (g : Nat) (T : TypeId) (cs : List Value) : Prop := w.heap[g]? = some (.cells cs.toArray T (0, 0))
section
variable {w w' : World} {g B : Nat} {T : TypeId} {cs : List Value}
theorem Row.lt (h : Row w g T cs) : g < w.heap.size := (Array.getElem?_eq_some_iff.1 h).1
theorem Row.cell (h : Row w g T cs) (k : Nat) : w.cell? ⟨g, k, none⟩ = cs[k]? := by
 rw [cell_of_row w g k cs.toArray T (0, 0) h]; simp
theorem Row.free (h : Row w g T cs) (k : Nat) : w.frozen? ⟨g, k, none⟩ = false := frozen_of_row w g k cs.toArray T h
theorem Row.drew (h : Row w g T cs) : Row w.drew g T cs := h
theorem Row.set_ (h : Row w g T cs) (k : Nat) (v : Value) : Row (w.setCell ⟨g, k, none⟩ v) g T (cs.set k v) := by
 unfold Row;rw [heap_setCell_same w g k cs.toArray T v h];simp
theorem Row.below (h : Row w g T cs) (hb : Below B w w') (hg : g < B) : Row w' g T cs := (hb.block g hg).trans h
theorem Row.other (h : Row w g T cs) (a : Addr) (v : Value) (hne : g ≠ a.block) : Row (w.setCell a v) g T cs := (heap_setCell_other w a g v hne).trans h
theorem Row.beside (h : Row w g T cs) {j k : Nat} {v : Value} (hne : g ≠ j) : Row (w.setCell ⟨j, k, none⟩ v).drew g T cs := h.other ⟨j, k, none⟩ v hne
theorem below_set2 {a : World} (h : Below B a w) {j k : Nat} {v : Value} (hj : B <= j) : Below B a (w.setCell ⟨j, k, none⟩ v).drew := (h.setCell (p := ⟨j, k, none⟩) hj v).drew
theorem size_set2 {j k : Nat} {v : Value} : (w.setCell ⟨j, k, none⟩ v).drew.heap.size = w.heap.size := by
 show (w.setCell _ v).heap.size = _;simp [World.setCell]
theorem Row.setRow (h : Row w g T cs) (ds : List Value) : Row (w.setRow g ds.toArray) g T ds := setRow_heap w g _ _ T (0, 0) h
theorem Row.setRow_other {k : Nat} {ds : Array Value} (h : Row w g T cs) (hne : g ≠ k) : Row (w.setRow k ds) g T cs := (Go.setRow_other w k g ds hne).trans h
theorem below_setRow {a : World} {k : Nat} {ds : Array Value} (h : Below B a w) (hk : B <= k) : Below B a (w.setRow k ds) :=
 ⟨h.os, h.tape, h.output, Nat.le_trans h.size (by simp), fun i hi => (Go.setRow_other w k i ds (by omega)).trans (h.block i hi)⟩
theorem ret_row {P : Program} {f : Func} {a : Act} {p : Tmp} {ty : TypeId} {d : TypeDesc} {post : Ending -> World -> Prop} (hf : f.results = #[.cell p ty]) (hdf : a.defers = []) (hp : a.tmps.getD p undef = .pointer (some ⟨g, 0, none⟩)) (hr : Row w g T cs)
  (hu : P.underlying ty = some d) (hd : (match d with | .struct _ | .array _ _ => true | _ => false) = true) (hi : (P.info? ty).map (·.size) = some cs.length) (h : post (.returned (.agg cs.toArray)) w) : bodyPost P f post .ret a w :=
 bodyPost_ret (v := .agg cs.toArray) (results_cell_row hf _ _ g T _ (0, 0) d hp hr hu hd (by simpa using hi)) hdf h
theorem Row.new (w : World) (T : TypeId) (cs : List Value) : Row (w.alloc (.cells cs.toArray T)) w.heap.size T cs := heap_alloc_new w _
theorem asz (w : World) (o : Obj) : (w.alloc o).heap.size = w.heap.size + 1 := by
 show (w.heap.push o).size = _;simp
theorem Row.new_ {arr : Array Value} (hg : g = w.heap.size) (ha : arr = cs.toArray) : Row (w.alloc (.cells arr T)) g T cs := by
 subst hg; subst ha; exact Row.new w T cs
theorem Row.alloc (h : Row w g T cs) (o : Obj) : Row (w.alloc o) g T cs := (Below.heap_alloc w o g h.lt).trans h
theorem Row.range (h : Row w g T cs) : w.rangeAt g 0 cs := fun j v hv => by
 rw [Nat.zero_add, h.cell j]; exact hv
theorem Row.mid (h : Row w g T cs) (o n : Nat) : w.rangeAt g o ((cs.drop o).take n) := fun j v hv => by
 rw [h.cell (o + j)];have hj : j < n := by
  by_cases hj : j < n
  ·exact hj
  ·rw [List.getElem?_eq_none (by simp; omega)] at hv; cases hv
 rw [List.getElem?_take_of_lt hj, List.getElem?_drop] at hv;exact hv
theorem Row.there (h : Row w g T cs) (o n : Nat) (hn : o + n <= cs.length) : w.there g o n := fun j hj => by
 refine ⟨?_, h.free _⟩;rw [h.cell (o + j), List.getElem?_eq_getElem (by omega)];rfl
def over (cs : List Value) : Nat -> List Value -> List Value
 | _, [] => cs
 | o, v :: r => over (cs.set o v) (o + 1) r
theorem Row.setCells (vs : List Value) : ∀ {w : World} {cs : List Value} (o : Nat), Row w g T cs -> Row (w.setCells g o vs) g T (over cs o vs) := by
 induction vs with
 | nil => intro w cs o h; exact h
 | cons v r ih => intro w cs o h; exact ih (o + 1) (h.set_ o v)
theorem over_eq (vs : List Value) : ∀ (cs : List Value) (o : Nat), o + vs.length <= cs.length -> over cs o vs = cs.take o ++ vs ++ cs.drop (o + vs.length) := by
 induction vs with
 | nil => intro cs o h; simp [over]
 | cons v r ih =>
  intro cs o h;simp only [List.length_cons] at h;rw [over, ih _ _ (by simp; omega)];have h1 : (cs.set o v).take (o + 1) = cs.take o ++ [v] := by
   rw [List.take_succ_eq_append_getElem (by simp; omega), List.take_set_of_le (Nat.le_refl _)];simp
  have h2 : (cs.set o v).drop (o + 1 + r.length) = cs.drop (o + (v :: r).length) := by
   rw [List.drop_set_of_lt (by omega)];simp only [List.length_cons];rw [show o + 1 + r.length = o + (r.length + 1) by omega]
  rw [h1, h2];simp
end
theorem cell_set_other {w : World} {g j k : Nat} {v u : Value} (h : w.cell? ⟨g, j, none⟩ = some v) (hne : ¬ j = k) : ((w.setCell ⟨g, k, none⟩ u).drew).cell? ⟨g, j, none⟩ = some v :=
 (World.cell?_setCell_other w ⟨g, k, none⟩ ⟨g, j, none⟩ u (by intro e; cases e; exact hne rfl)).trans h
structure But (B g : Nat) (w w' : World) : Prop where
 os : w'.os = w.os
 tape : w'.tape = w.tape
 output : w'.output = w.output
 size : w.heap.size <= w'.heap.size
 block : ∀ k, k < B -> k ≠ g -> w'.heap[k]? = w.heap[k]?
section
variable {w w' a b c : World} {g B B' : Nat} {T : TypeId} {cs : List Value}
theorem But.refl (B g : Nat) (w : World) : But B g w w := ⟨rfl, rfl, rfl, Nat.le_refl _, fun _ _ _ => rfl⟩
theorem But.trans (h : But B g a b) (k : But B g b c) : But B g a c :=
 ⟨k.os.trans h.os, k.tape.trans h.tape, k.output.trans h.output, Nat.le_trans h.size k.size, fun i hi hg => (k.block i hi hg).trans (h.block i hi hg)⟩
theorem But.of (h : Below B a b) (g : Nat) : But B g a b := ⟨h.os, h.tape, h.output, h.size, fun i hi _ => h.block i hi⟩
theorem But.mono (h : But B g a b) (hB : B' <= B) : But B' g a b := ⟨h.os, h.tape, h.output, h.size, fun i hi hg => h.block i (by omega) hg⟩
theorem But.under (h : But B g a b) (hB : B' <= B) (hg : B' <= g) : Below B' a b := ⟨h.os, h.tape, h.output, h.size, fun i hi => h.block i (by omega) (by omega)⟩
theorem But.chain {w₀ w₁ w₂ : World} (h : But w₀.heap.size g w₀ w₁) (k : But w₁.heap.size g w₁ w₂) : But w₀.heap.size g w₀ w₂ := h.trans (k.mono h.size)
theorem But.cell (h : But B g a b) {p : Addr} (hp : p.block < B) (hg : p.block ≠ g) : b.cell? p = a.cell? p := World.cell?_of_block (w := a) (h.block p.block hp hg)
theorem But.row (h : But B g a b) (hr : Row a B' T cs) (hp : B' < B) (hg : B' ≠ g) : Row b B' T cs := (h.block B' hp hg).trans hr
theorem But.setCell (h : But B g a b) (o : Nat) (v : Value) : But B g a (b.setCell ⟨g, o, none⟩ v) :=
 ⟨h.os, h.tape, h.output, Nat.le_trans h.size (by simp [World.setCell]), fun i hi hg => (heap_setCell_other b ⟨g, o, none⟩ i v hg).trans (h.block i hi hg)⟩
theorem But.drew (h : But B g a b) : But B g a b.drew := ⟨h.os, h.tape, h.output, h.size, h.block⟩
theorem But.setCells (vs : List Value) : ∀ {b : World} (o : Nat), But B g a b -> But B g a (b.setCells g o vs) := by
 induction vs with
 | nil => intro b o h; exact h
 | cons v r ih => intro b o h; exact ih (o + 1) (h.setCell o v)
def Off (g : Nat) (v : Value) : Prop := ∀ (x : Addr) l c, v = .slice (some x) l c -> 0 < l -> x.block ≠ g
theorem Sl.but {v : Value} {bs : List UInt8} (h : Sl w B v bs) (ho : Off g v) (hb : But B g w w') : Sl w' B v bs := by
 obtain ⟨A, c, hv, h1, h2, hc⟩ := h;refine ⟨A, c, hv, h1, h2, fun hn => ?_⟩;obtain ⟨b, off, hA, hbb, hr⟩ := hc hn;have hne : b ≠ g := ho ⟨b, off, none⟩ bs.length c (hv.trans (by rw [hA])) hn;exact ⟨b, off, hA, hbb, fun k hk => (hb.cell (p := ⟨b, off + k, none⟩) hbb hne).trans (hr k hk)⟩
theorem Sl.off {v : Value} {bs : List UInt8} (h : Sl w B v bs) (hB : B <= g) : Off g v := by
 obtain ⟨A, c, hv, h1, h2, hc⟩ := h;intro x l c' hx hl;rw [hv] at hx;cases hx;obtain ⟨b, off, hA, hbb, hr⟩ := hc hl;cases hA;show b ≠ g;omega
theorem Off.nil_ : Off g (.slice none 0 0) := fun x l c h => by cases h
theorem Off.at_ {b o l c : Nat} (h : b ≠ g) : Off g (.slice (some ⟨b, o, none⟩) l c) := fun x l' c' hx _ => by cases hx; exact h
end
theorem info_w64 : (Tryz.prog.info? 167).map (·.size) = some 64 := by kernel_rfl
set_option maxHeartbeats 1000000 in
theorem schedule_any (b : List UInt8) (hb : b.length = 64) (w : World) :
  Calls Tryz.prog 169 #[.agg (Lib.byteCells b).toArray] w (fun e w' => e = .returned (.agg (wordCells (sched b 64)).toArray) /\ Below w.heap.size w w') := by
 go_enter Tryz.func169, Tryz.ntmps169;go_wp2;go_loopw [4, 6] (fun _ i wr => ∃ k : Nat, k <= 16 /\ i = .int .i64 k /\ Row wr w.heap.size 147 (Lib.byteCells b) /\ Row wr (w.heap.size + 1) 167 (wordCells (List.replicate 64 0)) /\ Row wr (w.heap.size + 2) 167 (wordCells (sched b k ++ List.replicate (64 - k) 0)) /\ Below w.heap.size w wr /\ wr.heap.size = w.heap.size + 3) (fun _ i _ => 16 - (intOf i).toNat)
 case atStart =>
  refine ⟨0, Nat.zero_le _, rfl, ((Row.new _ _ _).alloc _).alloc _, (Row.new_ (by rw [asz]) zero64w).alloc _, Row.new_ (by rw [asz, asz]) zero64w, (((Below.refl _ _).alloc (Nat.le_refl _) _).alloc (by rw [asz]; omega) _).alloc (by rw [asz, asz]; omega) _, by rw [asz, asz, asz]⟩
 case round =>
  obtain ⟨k, hk, rfl, hr0, hr1, hr2, hbel, hsz⟩ := hrel
  by_cases hlt : k < 16
  ·have hc0 := hr0.cell (4 * k);have hc1 := hr0.cell (4 * k + 1);have hc2 := hr0.cell (4 * k + 2);have hc3 := hr0.cell (4 * k + 3);rw [byteCells_get b _ (by omega)] at hc0 hc1 hc2 hc3;have hcx := hr2.cell k;rw [wordCells_get _ _ (by simp [sched_length]; omega)] at hcx;have hf := hr2.free k;generalize w.heap.size = n0 at *;go_wp2
   go_region
   go_wp2
   go_roundw
   case rel =>
    refine ⟨k + 1, by omega, by go_num, hr0.beside (by omega), hr1.beside (by omega), ?_, below_set2 hbel (by omega), size_set2.trans hsz⟩;have hx : ((nextW b (sched b k)).toNat : Int) = _ := (congrArg (fun x : UInt32 => (x.toNat : Int)) (nextW_lo b k hlt)).trans ((wordB_of b k (by omega)).trans (word_or _ _ _ _).symm);have hs := hr2.set_ k (.int .u32 ((nextW b (sched b k)).toNat : Int));rw [wordCells_set, sched_set b k 64 _ (by omega) rfl, hx] at hs;exact hs
   case measure => simp [intOf]; omega
  ·rw [show k = 16 by omega] at hr2;generalize hn0 : w.heap.size = n0 at *;go_wp2;go_loopw [5] (fun i wr => ∃ k : Nat, 16 <= k /\ k <= 64 /\ i = .int .i64 k /\ Row wr (n0 + 1) 167 (wordCells (List.replicate 64 0)) /\ Row wr (n0 + 2) 167 (wordCells (sched b k ++ List.replicate (64 - k) 0)) /\ Below n0 w wr /\ wr.heap.size = n0 + 3) (fun i _ => 64 - (intOf i).toNat)
   case atStart => exact ⟨16, Nat.le_refl _, by omega, rfl, hr1, hr2, hbel, hsz⟩
   case round =>
    clear hr0 hr1 hr2 hbel hsz;obtain ⟨k, hk1, hk, rfl, hr1, hr2, hbel, hsz⟩ := hrel
    by_cases hlt : k < 64
    ·have hw : ∀ d (h1 : 1 <= d) (h2 : d <= 16), ∃ (j : Nat) (x : UInt32), (j + d = k /\ x = (sched b k).getD (k - d) 0) /\ wr.cell? ⟨n0 + 2, j, none⟩ = some (.int .u32 (x.toNat : Int)) /\ IntKind.i64.wrap ((k : Int) - (d : Int)) = (j : Int) /\ (j : Int) < 64 /\ ¬ j = k := fun d h1 h2 => by
      refine ⟨k - d, _, ⟨by omega, rfl⟩, ?_, by rw [IntKind.wrap_i64]; omega, by omega, by omega⟩;rw [hr2.cell (k - d), wordCells_get _ _ (by simp [sched_length]; omega), List.getElem_append_left (by rw [sched_length]; omega)];simp [List.getD, sched_length, show k - d < k by omega]
     have hcx := hr2.cell k;rw [wordCells_get _ _ (by simp [sched_length]; omega)] at hcx;have hf := hr2.free k;obtain ⟨j2, x2, hx2, hc2, q2, b2, e2⟩ := hw 2 (by omega) (by omega);obtain ⟨j7, x7, hx7, hc7, q7, b7, e7⟩ := hw 7 (by omega) (by omega);obtain ⟨j15, x15, hx15, hc15, q15, b15, e15⟩ := hw 15 (by omega) (by omega);obtain ⟨j16, x16, hx16, hc16, q16, b16, e16⟩ := hw 16 (by omega) (by omega);replace q2 : IntKind.i64.wrap ((k : Int) - 2) = (j2 : Int) := q2;replace q7 : IntKind.i64.wrap ((k : Int) - 7) = (j7 : Int) := q7;replace q15 : IntKind.i64.wrap ((k : Int) - 15) = (j15 : Int) := q15;replace q16 : IntKind.i64.wrap ((k : Int) - 16) = (j16 : Int) := q16;have HX := Lib.hid (And.intro hx2 (And.intro hx7 (And.intro hx15 hx16)));clear hw hx2 hx7 hx15 hx16;go_wp2
     go_region_held3 (fun w' => w'.cell? ⟨n0 + 2, j2, none⟩ = some (.int .u32 (x2.toNat : Int)) /\ w'.cell? ⟨n0 + 2, j7, none⟩ = some (.int .u32 (x7.toNat : Int)) /\ w'.cell? ⟨n0 + 2, j15, none⟩ = some (.int .u32 (x15.toNat : Int)) /\ w'.cell? ⟨n0 + 2, j16, none⟩ = some (.int .u32 (x16.toNat : Int))) (first | exact ⟨cell_set_other hc2 e2, cell_set_other hc7 e7, cell_set_other hc15 e15, cell_set_other hc16 e16⟩ | exact ⟨hc2, hc7, hc15, hc16⟩) (first | (go_at_call 175; refine (small1_any _ _).mono ?_; rintro e w' ⟨rfl, rfl⟩) | (go_at_call 176; refine (small0_any _ _).mono ?_; rintro e w' ⟨rfl, rfl⟩))
     go_wp2
     go_roundw
     case rel =>
      refine ⟨k + 1, by omega, by omega, by go_num, hr1.beside (by omega), ?_, below_set2 hbel (by omega), size_set2.trans hsz⟩;have hs := hr2.set_ k (.int .u32 ((nextW b (sched b k)).toNat : Int));obtain ⟨⟨_, y2⟩, ⟨_, y7⟩, ⟨_, y15⟩, ⟨_, y16⟩⟩ := HX.out;rw [wordCells_set, sched_set b k 64 _ (by omega) rfl, nextW_hi b k hk1, <- y2, <- y7, <- y15, <- y16] at hs;simp only [u32_add];exact hs
     case measure => simp [intOf]; omega
    ·obtain rfl : k = 64 := by omega
     rw [Nat.sub_self, List.replicate_zero, List.append_nil] at hr2
     go_wp2_with (first | refine wpList_load_row rfl 167 (.tmp 3) rfl (n0 + 2) rfl 167 _ (0, 0) _ hr2 Tryz.underlying167 rfl (by rw [info_w64]; simp [wordCells_length, sched_length]) ?_ | refine wpList_store_row rfl 167 (.tmp 2) (.tmp 68) rfl (n0 + 1) _ rfl rfl 167 _ hr1 (by rw [info_w64]; simp [wordCells_length, sched_length]) (by simp [wordCells_length, sched_length]) (all_oneCell_toArray (cell_oneWord _)) ?_)
     exact ret_row Tryz.results169 rfl rfl (hr1.setRow (wordCells (sched b 64))) Tryz.underlying167 rfl (by rw [info_w64]; simp [wordCells_length, sched_length]) ⟨rfl, by rw [hn0]; exact below_setRow hbel (by omega)⟩
def Vars (w : World) : Prop := ∀ k, k < 64 -> w.cell? ⟨0, k, none⟩ = some (.int .u32 ((cK.getD k 0).toNat : Int))
section
variable {w w' : World} {g : Nat}
theorem Vars.pos (h : Vars w) : 0 < w.heap.size := World.block_lt_of_cell? w _ (h 0 (by decide))
theorem Vars.step (h : Vars w) (hb : Below w.heap.size w w') : Vars w' := fun k hk => (hb.cell (World.block_lt_of_cell? w _ (h k hk))).trans (h k hk)
theorem Vars.but (h : Vars w) (hb : But w.heap.size g w w') (hg : 0 ≠ g) : Vars w' := fun k hk =>
 (hb.cell (p := ⟨0, k, none⟩) h.pos hg).trans (h k hk)
theorem Vars.drew (h : Vars w) : Vars w.drew := h
end
def addL (l m : List UInt32) (k : Nat) : List UInt32 := (List.zipWith (· + ·) l m).take k ++ l.drop k
theorem addL_length (l m : List UInt32) (k : Nat) (h : l.length = m.length) (hk : k <= l.length) : (addL l m k).length = l.length := by
 simp [addL]; omega
theorem addL_get (l m : List UInt32) (k : Nat) (h : l.length = m.length) (hk : k < l.length) : (addL l m k)[k]? = some (l[k]) := by
 have h1 : ((List.zipWith (· + ·) l m).take k).length = k := by simp; omega
 rw [addL, List.getElem?_append_right (by omega), h1, Nat.sub_self, List.getElem?_drop, Nat.add_zero, List.getElem?_eq_getElem hk]
theorem addL_step (l m : List UInt32) (k : Nat) (h : l.length = m.length) (hk : k < l.length) : (addL l m k).set k (l[k] + m[k]'(by omega)) = addL l m (k + 1) := by
 have h1 : ((List.zipWith (· + ·) l m).take k).length = k := by simp; omega
 have h2 : l.drop k = l[k] :: l.drop (k + 1) := List.drop_eq_getElem_cons hk;rw [addL, List.set_append_right _ _ (by omega), h1, Nat.sub_self, h2, List.set_cons_zero, addL, List.take_succ_eq_append_getElem (by simp; omega), List.append_assoc];simp
theorem addL_all (s v : St) : addL s.list v.list 8 = (addSt s v).list := rfl
theorem wordCells_arr_get (l : List UInt32) (k : Nat) (h : k < l.length) : (wordCells l).toArray[k]? = some (.int .u32 (l[k].toNat : Int)) := by
 simp [wordCells, List.getElem?_eq_getElem h]
theorem index_words (l : List UInt32) (hl : l.length = 8) (j : Nat) (hj : j < 8) (w : World) : (Instr.index 63 (.agg (wordCells l).toArray) (.int .i64 (j : Int))).run Tryz.prog w = .ok (.int .u32 ((l[j]'(by omega)).toNat : Int)) w := by
 have hg := wordCells_arr_get l j (by omega);generalize (wordCells l).toArray = arr at *;simp [Instr.index, asIntOf, go_sem, hj, hg]
theorem info_w8 : (Tryz.prog.info? 63).map (·.size) = some 8 := by kernel_rfl
theorem info_b64 : (Tryz.prog.info? 147).map (·.size) = some 64 := by kernel_rfl
theorem info_b32 : (Tryz.prog.info? 155).map (·.size) = some 32 := by kernel_rfl
theorem wpList_store_any {P : Program} {ops : Array Oper} {rest : List Oper} {o : Oper} {a : Act} {w : World} {Q : Exit -> Act -> World -> Prop} (hgd : o.guard = none) (ty : TypeId) (x y : Operand) (ho : o.op = .store ty x y)
  (g : Nat) (hx : a.eval x = .pointer (some ⟨g, 0, none⟩)) (ds : List Value) (hy : a.eval y = .agg ds.toArray)
  (t : TypeId) (cs : List Value) (hr : Row w g t cs) (hi : (P.info? ty).map (·.size) = some ds.length)
  (hold : cs.length = ds.length) (h1 : ∀ u ∈ ds, u.oneCell' = true)
  (h : ∀ w2, Row w2 g t ds -> But w.heap.size g w w2 -> w2.heap.size = w.heap.size -> wpList P ops Q rest (a.put o.dst undef) w2) : wpList P ops Q (o :: rest) a w :=
 wpList_store_row hgd ty x y ho g ds.toArray hx hy t cs.toArray hr (by simpa using hi) (by simpa using hold) (all_oneCell_toArray h1)
  (h _ (hr.setRow ds) ⟨rfl, rfl, rfl, Nat.le_of_eq (by simp), fun k _ hk => Go.setRow_other w g k _ hk⟩ (by simp))
theorem wpList_load_any {P : Program} {ops : Array Oper} {rest : List Oper} {o : Oper} {a : Act} {w : World} {Q : Exit -> Act -> World -> Prop} (hgd : o.guard = none) (ty : TypeId) (x : Operand) (ho : o.op = .load ty x)
  (g : Nat) (hx : a.eval x = .pointer (some ⟨g, 0, none⟩)) (t : TypeId) (cs : List Value) (d : TypeDesc) (hr : Row w g t cs)
  (hu : P.underlying ty = some d) (hd : (match d with | .struct _ | .array _ _ => true | _ => false) = true) (hi : (P.info? ty).map (·.size) = some cs.length)
  (h : wpList P ops Q rest (a.put o.dst (.agg cs.toArray)) w) : wpList P ops Q (o :: rest) a w :=
 wpList_load_row hgd ty x ho g hx t cs.toArray (0, 0) d hr hu hd (by simpa using hi) h
theorem size_words (n : Nat) (l : List UInt32) (h : l.length = n) : some n = some (wordCells l).length := by rw [wordCells_length, h]
theorem size_bytes (n : Nat) (l : List UInt8) (h : l.length = n) : some n = some (Lib.byteCells l).length := by rw [Lib.byteCells_length, h]
def StIs (w : World) (s : St) (e : Ending) (w' : World) : Prop := e = .returned (.agg (wordCells s.list).toArray) /\ Below w.heap.size w w'
set_option maxHeartbeats 2000000 in
theorem compress_any (s : St) (b : List UInt8) (hb : b.length = 64) (w : World) (hv : Vars w) :
  Calls Tryz.prog 162 #[.agg (wordCells s.list).toArray, .agg (Lib.byteCells b).toArray] w (StIs w (comp s b)) := by
 unfold StIs comp;have hsch := schedule_any b hb;have hWl := sched_length b 64;generalize sched b 64 = W at hsch hWl ⊢;have hpos := hv.pos;go_enter Tryz.func162, Tryz.ntmps162;generalize hn0 : w.heap.size = n0 at *
 go_wp2_with (first | refine wpList_load_row rfl 147 (.tmp 3) rfl _ rfl 147 (Lib.byteCells b).toArray (0, 0) _ (show Row _ _ _ (Lib.byteCells b) from (Row.new_ (by rw [asz, hn0]) rfl).alloc _) Tryz.underlying147 rfl (by rw [info_b64]; simp [Lib.byteCells, hb]) ?_ | (go_at_call 169; refine (hsch _).mono ?_))
 rintro e w1 ⟨rfl, b1⟩;rw [asz, asz, asz, hn0] at b1;have hr0 : Row w1 n0 63 (wordCells s.list) := (((Row.new_ hn0.symm rfl).alloc _).alloc _).below b1 (by omega);have hr2 : Row w1 (n0 + 2) 63 (wordCells (List.replicate 8 0)) := (Row.new_ (by rw [asz, asz, hn0]) zero8w).below b1 (by omega);have hb1 : Below n0 w w1 := ((((Below.refl n0 w).alloc (by omega) _).alloc (by rw [asz]; omega) _).alloc (by rw [asz, asz]; omega) _).trans (b1.mono (by omega));have hsz := b1.size;rw [asz, asz, asz, hn0] at hsz;have hv1 : Vars w1 := hv.step (by rw [hn0]; exact hb1);clear b1 hv hb hsch
 go_wp2_with (refine wpList_store_any rfl 167 (.tmp 5) (.tmp 20) rfl w1.heap.size rfl (wordCells W) rfl 167 (wordCells (List.replicate 64 0)) (Row.new_ rfl zero64w) (info_w64.trans (size_words _ _ (hWl))) (by simp [wordCells_length, hWl]) (cell_oneWord _) ?_)
 intro w2 hr5 bt hs2
 try simp only [asz] at bt hs2
 replace hr0 := bt.row (hr0.alloc _) (by omega) (by omega);replace hr2 := bt.row (hr2.alloc _) (by omega) (by omega);have hb2 : Below n0 w w2 := (hb1.alloc (by omega) _).trans (bt.under (by omega) (by omega));have hv2 : Vars w2 := (hv1.step (Below.alloc (Below.refl _ _) (Nat.le_refl _) _)).but (by rw [asz]; exact bt) (by omega);generalize hn5 : w1.heap.size = n5 at *;clear bt hb1 hv1 hs2 hn5 w1;have hc : ∀ k (h : k < 8), w2.cell? ⟨n0, k, none⟩ = some (.int .u32 ((s.list[k]'h).toNat : Int)) := fun k h => by rw [hr0.cell k, wordCells_get _ _ h]
 have c0 : w2.cell? ⟨n0, 0, none⟩ = some (.int .u32 (s.a.toNat : Int)) := hc 0 (by decide);have c1 : w2.cell? ⟨n0, 1, none⟩ = some (.int .u32 (s.b.toNat : Int)) := hc 1 (by decide);have c2 : w2.cell? ⟨n0, 2, none⟩ = some (.int .u32 (s.c.toNat : Int)) := hc 2 (by decide);have c3 : w2.cell? ⟨n0, 3, none⟩ = some (.int .u32 (s.d.toNat : Int)) := hc 3 (by decide);have c4 : w2.cell? ⟨n0, 4, none⟩ = some (.int .u32 (s.e.toNat : Int)) := hc 4 (by decide);have c5 : w2.cell? ⟨n0, 5, none⟩ = some (.int .u32 (s.f.toNat : Int)) := hc 5 (by decide);have c6 : w2.cell? ⟨n0, 6, none⟩ = some (.int .u32 (s.g.toNat : Int)) := hc 6 (by decide);have c7 : w2.cell? ⟨n0, 7, none⟩ = some (.int .u32 (s.h.toNat : Int)) := hc 7 (by decide);clear hc;go_wp2
 go_quiet (fail)
 go_wp2;go_loopw [6, 7, 8, 9, 10, 11, 12, 13, 37] (fun v6 v7 v8 v9 v10 v11 v12 v13 i wr => ∃ (k : Nat) (a1 b1 c1 d1 e1 f1 g1 h1 : UInt32), k <= 64 /\ i = .int .i64 k /\ v6 = .int .u32 (a1.toNat : Int) /\ v7 = .int .u32 (b1.toNat : Int) /\ v8 = .int .u32 (c1.toNat : Int) /\ v9 = .int .u32 (d1.toNat : Int) /\ v10 = .int .u32 (e1.toNat : Int) /\ v11 = .int .u32 (f1.toNat : Int) /\ v12 = .int .u32 (g1.toNat : Int) /\ v13 = .int .u32 (h1.toNat : Int) /\ Hid (rounds s W k = ⟨a1, b1, c1, d1, e1, f1, g1, h1⟩) /\ Row wr n0 63 (wordCells s.list) /\ Row wr (n0 + 2) 63 (wordCells (List.replicate 8 0)) /\ Row wr n5 167 (wordCells W) /\ Vars wr /\ Below n0 w wr) (fun _ _ _ _ _ _ _ _ i _ => 64 - (intOf i).toNat)
 case atStart => exact ⟨0, s.a, s.b, s.c, s.d, s.e, s.f, s.g, s.h, Nat.zero_le _, rfl, rfl, rfl, rfl, rfl, rfl, rfl, rfl, rfl, Lib.hid rfl, hr0, hr2, hr5, hv2, below_drewN hb2 _⟩
 case round =>
  clear hr0 hr2 hr5 hv2 hb2 c0 c1 c2 c3 c4 c5 c6 c7;obtain ⟨k, a1, b1, c1, d1, e1, f1, g1, h1, hk, rfl, rfl, rfl, rfl, rfl, rfl, rfl, rfl, rfl, HR, hr0, hr2, hr5, hv3, hb3⟩ := hrel
  by_cases hlt : k < 64
  ·have ck := hv3 k hlt;have cw := hr5.cell k;rw [wordCells_get _ _ (by omega)] at cw;obtain ⟨kk, hkk⟩ : ∃ kk, kk = cK.getD k 0 := ⟨_, rfl⟩;obtain ⟨ww, hww⟩ : ∃ ww, ww = W[k]'(by omega) := ⟨_, rfl⟩;rw [<- hkk] at ck;rw [<- hww] at cw
   have HR2 : Hid (rounds s W (k + 1) = rnd ⟨a1, b1, c1, d1, e1, f1, g1, h1⟩ kk ww) := Lib.hid (by
    rw [rounds, HR.out, hkk, hww, getD_get W k 0 (by omega)])
   clear hkk hww HR;go_wp2
   go_region_held3 (fun w' => w'.cell? ⟨0, k, none⟩ = some (.int .u32 (kk.toNat : Int)) /\ w'.cell? ⟨n5, k, none⟩ = some (.int .u32 (ww.toNat : Int))) (exact ⟨ck, cw⟩) (first | (go_at_call 170; refine (sum1_any _ _).mono ?_; rintro e w' ⟨rfl, rfl⟩) | (go_at_call 171; refine (choice_any _ _ _ _).mono ?_; rintro e w' ⟨rfl, rfl⟩))
   go_wp2_with (first | (go_at_call 172; refine (sum0_any _ _).mono ?_) | (go_at_call 173; refine (majority_any _ _ _ _).mono ?_))
   rintro e w3 ⟨rfl, rfl⟩
   go_wp2_with (first | (go_at_call 172; refine (sum0_any _ _).mono ?_) | (go_at_call 173; refine (majority_any _ _ _ _).mono ?_))
   rintro e w3 ⟨rfl, rfl⟩;go_wp2
   go_roundw
   case rel =>
    refine ⟨k + 1, _, _, _, _, _, _, _, _, by omega, by go_num, ?_, rfl, rfl, rfl, ?_, rfl, rfl, rfl, HR2, hr0, hr2, hr5, hv3, hb3.drew⟩
    ·simp only [u32_add]
    ·simp only [u32_add]
   case measure => simp [intOf]; omega
  ·have HF : Hid (addSt s (rounds s W 64) = addSt s ⟨a1, b1, c1, d1, e1, f1, g1, h1⟩) := Lib.hid (by
    rw [<- HR.out, show k = 64 by omega])
   clear HR;generalize hv : (⟨a1, b1, c1, d1, e1, f1, g1, h1⟩ : St) = v at *;have hL : (#[.int .u32 (a1.toNat : Int), .int .u32 (b1.toNat : Int), .int .u32 (c1.toNat : Int), .int .u32 (d1.toNat : Int), .int .u32 (e1.toNat : Int), .int .u32 (f1.toNat : Int), .int .u32 (g1.toNat : Int), .int .u32 (h1.toNat : Int)] : Array Value) = (wordCells v.list).toArray := by rw [<- hv]; rfl
   have HV := Lib.hid hL;clear hv hL;go_wp2;rw [HV.out];clear HV;go_loopw [86] (fun i wr => ∃ (k : Nat), k <= 8 /\ i = .int .i64 k /\ Row wr n0 63 (wordCells (addL s.list v.list k)) /\ Row wr (n0 + 2) 63 (wordCells (List.replicate 8 0)) /\ Below n0 w wr) (fun i _ => 8 - (intOf i).toNat)
   case atStart => exact ⟨0, Nat.zero_le _, rfl, hr0, hr2, hb3⟩
   case round =>
    clear hr0 hr2 hr5 hv3 hb3;obtain ⟨j, hj, rfl, hr0, hr2, hb3⟩ := hrel
    by_cases hlt2 : j < 8
    ·have hsl : s.list.length = 8 := rfl;have hvl : v.list.length = 8 := rfl;generalize s.list = sl at *;generalize v.list = vl at *;have hix := index_words vl hvl j hlt2;have hc := hr0.cell j;rw [wordCells_get _ _ (by rw [addL_length _ _ _ (by omega) (by omega)]; omega), (List.getElem_eq_iff (by rw [addL_length _ _ _ (by omega) (by omega)]; omega)).2 (addL_get sl vl j (by omega) (by omega))] at hc;have hf := hr0.free j;have HS := Lib.hid (addL_step sl vl j (by omega) (by omega));obtain ⟨x, hx⟩ : ∃ x, x = sl[j]'(by omega) := ⟨_, rfl⟩;obtain ⟨y, hy⟩ : ∃ y, y = vl[j]'(by omega) := ⟨_, rfl⟩;rw [<- hy] at hix;rw [<- hx] at hc;rw [<- hx, <- hy] at HS;clear hx hy;generalize (wordCells vl).toArray = arr at *;go_wp2
     go_roundw
     case rel =>
      have hs := hr0.set_ j (.int .u32 ((x + y).toNat : Int));rw [wordCells_set, HS.out] at hs;refine ⟨j + 1, by omega, by go_num, ?_, hr2.other ⟨n0, j, none⟩ _ (by show n0 + 2 ≠ n0; omega), hb3.setCell (p := ⟨n0, j, none⟩) (Nat.le_refl _) _⟩;simp only [u32_add];exact hs
     case measure => simp [intOf]; omega
    ·obtain rfl : j = 8 := by omega
     rw [addL_all] at hr0
     go_wp2_with (first | refine wpList_load_any rfl 63 (.tmp 2) rfl n0 rfl 63 (wordCells (addSt s v).list) _ hr0 Tryz.underlying63 rfl (info_w8.trans (size_words _ _ rfl)) ?_ | refine wpList_store_any rfl 63 (.tmp 4) (.tmp 97) rfl (n0 + 2) rfl (wordCells (addSt s v).list) rfl 63 _ hr2 (info_w8.trans (size_words _ _ rfl)) rfl (cell_oneWord _) ?_)
     intro w9 hr9 b9 _;have HE : wordCells (addSt s v).list = wordCells (addSt s (rounds s W 64)).list := by rw [HF.out]
     rw [HE] at hr9;have hb9 : Below n0 w w9 := hb3.trans (b9.under (Nat.le_trans (Nat.le_add_right n0 2) (Nat.le_of_lt hr2.lt)) (by omega));clear HE HF;go_wp2;exact ret_row Tryz.results162 rfl rfl hr9 Tryz.underlying63 rfl (info_w8.trans (size_words _ _ rfl)) ⟨rfl, hb9⟩
theorem Sl.cut {w : World} {B : Nat} {A : Option Addr} {len c : Nat} {bs : List UInt8} (h : Sl w B (.slice A len c) bs) (i j : Nat) (hij : i <= j) (hj : j <= len) (hjm : j <= c) :
  Sl w B (sliced A i j c 1) ((bs.take j).drop i) := by
 have hl := h.len;subst hl;obtain ⟨A', c', hv, h1, h2, hc⟩ := h;cases hv;have hlen : ((bs.take j).drop i).length = j - i := by simp; omega
 unfold sliced;refine ⟨if c = i then A else A.map (·.add (i * 1)), c - i, by rw [hlen], by omega, by omega, fun hn => ?_⟩;obtain ⟨b, off, rfl, hb, hr⟩ := hc (by omega);rw [if_neg (by omega)];refine ⟨b, off + i, by simp [addr_add], hb, fun k hk => ?_⟩;rw [hlen] at hk;have := hr (i + k) (by omega);rw [show off + (i + k) = off + i + k by omega] at this;rw [this];simp
theorem Off.cut {g : Nat} {A : Option Addr} {len c : Nat} (h : Off g (.slice A len c)) (i j : Nat) (hj : j <= len) : Off g (sliced A i j c 1) := by
 intro x l c' hx hl;have hx1 : (if c = i then A else A.map (·.add (i * 1))) = some x := by
  unfold sliced at hx;injection hx
 have hx2 : j - i = l := by
  unfold sliced at hx;injection hx
 by_cases hci : c = i
 ·rw [if_pos hci] at hx1;subst hx1;exact h x len c rfl (by omega)
 ·rw [if_neg hci] at hx1;cases A with
  | none => cases hx1
  | some y =>
   simp only [Option.map_some, Option.some.injEq] at hx1;have := h y len c rfl (by omega);rw [<- hx1];unfold Addr.add
   split <;> exact this
theorem slice30 : Tryz.prog.underlying 23 = some (.slice (Tryz.prog.elem 23)) := by kernel_rfl
theorem elem30 : Tryz.prog.elem 23 = 5 := by kernel_rfl
theorem run_sizeOf_u8 (w : World) : (sizeOf 5).run Tryz.prog w = .ok 1 w := by simp [go_sem]
theorem wpList_slice_from {ops : Array Oper} {rest : List Oper} {o : Oper} {a : Act} {w : World} {Q : Exit -> Act -> World -> Prop} (hgd : o.guard = none) (x lo : Operand) (ho : o.op = .slice 23 x (some lo) none none)
  (B : Nat) (v : Value) (hx : a.eval x = v) (bs : List UInt8) (hs : Sl w B v bs) (i : Nat) (hlo : a.eval lo = .int .i64 (i : Int)) (hi : i <= bs.length)
  (h : ∀ v', Sl w B v' (bs.drop i) -> (∀ g, Off g v -> Off g v') -> wpList Tryz.prog ops Q rest (a.put o.dst v') w) : wpList Tryz.prog ops Q (o :: rest) a w := by
 obtain ⟨A, c, rfl, h1, h2⟩ := hs.form;have hcut := hs.cut i bs.length hi (Nat.le_refl _) h1;rw [List.take_length] at hcut;refine wpList_plain hgd fun K hK => ?_
 have hrun : (Instr.sliceAt 23 (.slice A bs.length c) (some (.int .i64 (i : Int))) none none).run Tryz.prog w = .ok (sliced A i bs.length c 1) w := by
  rw [run_sliceAt_slice _ _ _ _ _ _ slice30, run_slice_l w 23 A bs.length c slice30 .i64 (i : Int) (by omega) (by omega), elem30, run_sizeOf_u8, Result.andThen_ok, Int.toNat_natCast]
 unfold Oper.wp execOp;simp only [ho, hx, hlo, Option.map_some, Option.map_none, Sem.run_bind, hrun, Result.andThen_ok];exact hK _ _ (h _ hcut fun g hg => hg.cut i bs.length (Nat.le_refl _))
theorem wpList_build_eq {P : Program} {ops : Array Oper} {rest : List Oper} {o : Oper} {a : Act} {w : World} {Q : Exit -> Act -> World -> Prop} (hg : o.guard = none) (t : TypeId) (parts : Array (Nat × Operand)) (ho : o.op = .build t parts)
  (cells : Array Value) (hf : P.built t (parts.map fun (i, x) => (i, a.eval x)).toList = some cells)
  (h : wpList P ops Q rest (a.put o.dst (.agg cells)) w) : wpList P ops Q (o :: rest) a w :=
 wpList_build hg t parts ho (by rw [hf]; rfl) (by rw [hf]; exact h)
theorem ready_load {P : Program} {md : Region.Mode} {ops : Array Oper} {Q : Exit -> Act -> World -> Prop} {fuel : Nat} {listed : Array Bool} {a : Act} {w : World} {rs : List Nat} (i : Nat) (ty : TypeId) (x : Operand) (dst : Option Tmp)
  (hgd : (ops[i]?).map (·.guard) = some none) (hop : (ops[i]?).map (·.op) = some (.load ty x)) (hdst : (ops[i]?).map (·.dst) = some dst)
  (b o : Nat) (hx : a.eval x = .pointer (some ⟨b, o, none⟩)) (cs : List Value) (d : TypeDesc) (hc : w.rangeAt b o cs)
  (hu : P.underlying ty = some d) (hd : d.isRow = true) (hi : (P.info? ty).map (·.size) = some cs.length)
  (h : wpAny P md ops Q fuel (listed.setIfInBounds i true) (a.put dst (.agg cs.toArray)) w) (hs : AllReady P md ops Q fuel listed a w rs) : AllReady P md ops Q fuel listed a w (i :: rs) := by
 cases ho : ops[i]? with
 | none => rw [ho] at hgd; cases hgd
 | some op =>
  rw [ho] at hgd hop hdst;simp only [Option.map_some, Option.some.injEq] at hgd hop hdst;refine AllReady.cons ho (fun K hK => ?_) hs;have hw : Region.wanted op (yielded ops a.tmps) = true := by simp [Region.wanted, hgd]
  rw [if_pos hw];exact wp_load_mid ty x hop b o hx cs d hc hu hd hi (hK _ _ (by rw [hdst]; exact h))
theorem ready_store {P : Program} {md : Region.Mode} {ops : Array Oper} {Q : Exit -> Act -> World -> Prop} {fuel : Nat} {listed : Array Bool} {a : Act} {w : World} {rs : List Nat} (i : Nat) (ty : TypeId) (x y : Operand) (dst : Option Tmp)
  (hgd : (ops[i]?).map (·.guard) = some none) (hop : (ops[i]?).map (·.op) = some (.store ty x y)) (hdst : (ops[i]?).map (·.dst) = some dst)
  (b o : Nat) (hx : a.eval x = .pointer (some ⟨b, o, none⟩)) (cs : List Value) (hy : a.eval y = .agg cs.toArray) (ht : w.there b o cs.length)
  (hi : (P.info? ty).map (·.size) = some cs.length) (h1 : ∀ u ∈ cs, u.oneCell' = true)
  (h : wpAny P md ops Q fuel (listed.setIfInBounds i true) (a.put dst undef) (w.setCells b o cs)) (hs : AllReady P md ops Q fuel listed a w rs) : AllReady P md ops Q fuel listed a w (i :: rs) := by
 cases ho : ops[i]? with
 | none => rw [ho] at hgd; cases hgd
 | some op =>
  rw [ho] at hgd hop hdst;simp only [Option.map_some, Option.some.injEq] at hgd hop hdst;refine AllReady.cons ho (fun K hK => ?_) hs;have hw : Region.wanted op (yielded ops a.tmps) = true := by simp [Region.wanted, hgd]
  rw [if_pos hw];exact wp_store_mid ty x y hop b o cs.toArray hx hy (by simpa using ht) (by simpa using hi) (all_oneCell_toArray h1) (hK _ _ (by rw [hdst]; exact h))
theorem Sl.of_row {w : World} {B g off n c : Nat} {T : TypeId} {cs : List Value} {bs : List UInt8} (hr : Row w g T cs) (hB : g < B) (hn : bs.length = n) (hc : n <= c) (hm : c <= maxLen)
  (hb : ∀ k (h : k < bs.length), cs[off + k]? = some (.int .u8 bs[k].toNat)) : Sl w B (.slice (some ⟨g, off, none⟩) n c) bs := by
 subst hn;exact ⟨_, c, rfl, hc, hm, fun _ => ⟨g, off, rfl, hB, fun k hk => by rw [hr.cell]; exact hb k hk⟩⟩
theorem Sl.of_bytes {w : World} {B g n : Nat} {T : TypeId} {bs : List UInt8} (hr : Row w g T (Lib.byteCells bs)) (hB : g < B) (hn : bs.length = n) (hm : n <= 1000000) : Sl w B (.slice (some ⟨g, 0, none⟩) n n) bs :=
 Sl.of_row hr hB hn (Nat.le_refl _) (by unfold maxLen; omega) fun k hk => by rw [Nat.zero_add]; exact byteCells_get bs k hk
theorem step_copy_but {P : Program} {ops : Array Oper} {o : Oper} {a : Act} {w : World} {K : Act -> World -> Prop} {Q : Exit -> Act -> World -> Prop} {E : Prop} (hgd : o.guard = none) (d s : Operand) (dT sT : TypeId)
  (ho : o.op = .call { callee := .builtin .copy, args := #[d, s], argTypes := #[dT, sT] }) (elem : TypeId) (hu : P.underlying dT = some (.slice elem)) (hsz : (P.info? elem).map (·.size) = some 1)
  (dLen dCap sLen sCap : Nat) (ad : Addr) (g off : Nat) (hd : a.eval d = .slice (some ⟨g, off, none⟩) dLen dCap) (hs : a.eval s = .slice (some ad) sLen sCap)
  (cur : List Value) (t : TypeId) (hr : Row w g t cur) (cs : List Value) (hn : cs.length = Nat.min sLen dLen)
  (hsrc : ∀ j v, cs[j]? = some v -> w.cell? (ad.add j) = some v) (hfit : off + cs.length <= cur.length) (h1 : ∀ v ∈ cs, v.oneCell' = true)
  (h : ∀ w', Row w' g t (splice cur off cs) -> But w.heap.size g w w' -> w'.heap.size = w.heap.size -> K (a.put o.dst (goInt cs.length)) w') :
  if Region.wanted o (yielded ops a.tmps) = true then Oper.wp P o a w K Q else E := by
 have hw : Region.wanted o (yielded ops a.tmps) = true := by simp [Region.wanted, hgd]
 rw [if_pos hw];have hrun := run_copy_row (P := P) w dT sT o.type elem g off dLen dCap ad sLen sCap cur.toArray t cs hu hsz hr hn hsrc (by simpa using hfit) h1;unfold Oper.wp;simp [execOp, ho, resolve, invoke, builtin, hd, hs, hrun, Result.andThen];refine h _ (show _ = _ by simpa [splice] using setRow_heap w g _ _ t _ hr) ⟨rfl, rfl, rfl, Nat.le_of_eq (by simp), fun k _ hk => Go.setRow_other w g k _ hk⟩ (by simp)
def hashCells (st : St) (blk : List UInt8) (n : Nat) : List Value := .bool true :: (wordCells st.list ++ (Lib.byteCells blk ++ [.int .i64 (n : Int)]))
theorem hashCells_length (st : St) (blk : List UInt8) (n : Nat) (h : blk.length = 64) : (hashCells st blk n).length = 74 := by
 simp [hashCells, wordCells_length, St.list_length, Lib.byteCells_length, h]
theorem hashCells_size (st : St) (blk : List UInt8) (n : Nat) (h : blk.length = 64) : (hashCells st blk n)[73]? = some (.int .i64 (n : Int)) := by
 rw [hashCells, List.getElem?_cons_succ, List.getElem?_append_right (by simp [wordCells_length, St.list_length]), List.getElem?_append_right (by simp [wordCells_length, St.list_length, Lib.byteCells_length, h])];simp [wordCells_length, St.list_length, Lib.byteCells_length, h]
theorem hashCells_st (st : St) (blk : List UInt8) (n : Nat) : ((hashCells st blk n).drop 1).take 8 = wordCells st.list := by
 rw [hashCells, List.drop_succ_cons, List.drop_zero, List.take_append_of_le_length (by simp [wordCells_length, St.list_length])];exact List.take_of_length_le (by simp [wordCells_length, St.list_length])
theorem hashCells_blk (st : St) (blk : List UInt8) (n : Nat) (h : blk.length = 64) : ((hashCells st blk n).drop 9).take 64 = Lib.byteCells blk := by
 have e : (hashCells st blk n).drop 9 = Lib.byteCells blk ++ [.int .i64 (n : Int)] := by
  rw [hashCells, List.drop_succ_cons, List.drop_append_of_le_length (by simp [wordCells_length, St.list_length]), List.drop_of_length_le (by simp [wordCells_length, St.list_length]), List.nil_append]
 rw [e, List.take_append_of_le_length (by rw [Lib.byteCells_length]; omega)];exact List.take_of_length_le (by rw [Lib.byteCells_length]; omega)
theorem hashCells_word (st : St) (blk : List UInt8) (n k : Nat) (h : k < 8) : (hashCells st blk n)[1 + k]? = some (.int .u32 ((st.list[k]'h).toNat : Int)) := by
 rw [show 1 + k = k + 1 by omega, hashCells, List.getElem?_cons_succ, List.getElem?_append_left (by simp [wordCells_length, St.list_length]; omega)];exact wordCells_get _ _ h
theorem hashCells_one (st : St) (blk : List UInt8) (n : Nat) : ∀ u ∈ hashCells st blk n, u.oneCell' = true := by
 intro u hu;simp only [hashCells, List.mem_cons, List.mem_append, List.not_mem_nil, or_false] at hu
 rcases hu with rfl | hu | hu | rfl
 ·rfl
 ·exact cell_oneWord _ u hu
 ·exact cell_oneCell _ u hu
 ·rfl
theorem hashCells_setSize (st : St) (blk : List UInt8) (n m : Nat) (h : blk.length = 64) : (hashCells st blk n).set 73 (.int .i64 (m : Int)) = hashCells st blk m := by
 rw [hashCells, List.set_cons_succ, List.set_append_right _ _ (by simp [wordCells_length, St.list_length]), List.set_append_right _ _ (by simp [wordCells_length, St.list_length, Lib.byteCells_length, h])];simp [wordCells_length, St.list_length, Lib.byteCells_length, h, hashCells]
theorem hashCells_splice (st : St) (blk cs : List UInt8) (n r : Nat) (h : blk.length = 64) (hr : r + cs.length <= 64) : splice (hashCells st blk n) (9 + r) (Lib.byteCells cs) = hashCells st (splice blk r cs) n := by
 have h9 : (Value.bool true :: wordCells st.list).length = 9 := by simp [wordCells_length, St.list_length]
 have e : hashCells st blk n = (Value.bool true :: wordCells st.list) ++ (Lib.byteCells blk ++ [.int .i64 (n : Int)]) := by simp [hashCells]
 have e2 : hashCells st (splice blk r cs) n = (Value.bool true :: wordCells st.list) ++ (Lib.byteCells (splice blk r cs) ++ [.int .i64 (n : Int)]) := by simp [hashCells]
 rw [e2, e];generalize (Value.bool true :: wordCells st.list) = hd at h9 ⊢;unfold splice
 rw [Lib.byteCells_length, List.take_append, h9, List.take_of_length_le (by omega), show 9 + r - 9 = r by omega, List.take_append_of_le_length (by rw [Lib.byteCells_length]; omega),
  show 9 + r + cs.length = 9 + (r + cs.length) by omega, <- List.drop_drop, List.drop_append_of_le_length (l₁ := hd) (by omega), List.drop_of_length_le (l := hd) (by omega), List.nil_append,
  List.drop_append_of_le_length (by rw [Lib.byteCells_length]; omega)]
 simp [Lib.byteCells, List.append_assoc]
theorem hashCells_setSt (st s2 : St) (blk : List UInt8) (n : Nat) : over (hashCells st blk n) 1 (wordCells s2.list) = hashCells s2 blk n := by
 rw [over_eq _ _ _ (by simp [hashCells, wordCells_length, St.list_length])];simp [hashCells, wordCells_length, St.list_length]
def HashAt (w : World) (g : Nat) (m : List UInt8) : Prop :=
 0 ≠ g /\ ∃ blk : List UInt8, Row w g 179 (hashCells (states m (m.length / 64)) blk m.length) /\ blk.length = 64 /\ blk.take (m.length % 64) = m.drop (64 * (m.length / 64))
section
variable {w w' : World} {B g j : Nat} {m : List UInt8}
theorem HashAt.lt (h : HashAt w g m) : g < w.heap.size := by
 obtain ⟨_, blk, hr, _⟩ := h;exact hr.lt
theorem HashAt.below (h : HashAt w g m) (hb : Below B w w') (hg : g < B) : HashAt w' g m := by
 obtain ⟨h0, blk, hr, h1, h2⟩ := h;exact ⟨h0, blk, hr.below hb hg, h1, h2⟩
theorem HashAt.step (h : HashAt w g m) (hb : Below w.heap.size w w') : HashAt w' g m := h.below hb h.lt
theorem HashAt.but (h : HashAt w g m) (hb : But w.heap.size j w w') (hj : g ≠ j) : HashAt w' g m := by
 have hlt := h.lt;obtain ⟨h0, blk, hr, h1, h2⟩ := h;exact ⟨h0, blk, hb.row hr hlt hj, h1, h2⟩
theorem HashAt.drew (h : HashAt w g m) : HashAt w.drew g m := h
end
theorem But.undrew {w w' : World} {B g : Nat} (h : But B g w.drew w') : But B g w w' := ⟨h.os, h.tape, h.output, h.size, h.block⟩
def NewIs (w : World) (e : Ending) (w' : World) : Prop := ∃ g, e = .returned (.pointer (some ⟨g, 0, none⟩)) /\ g = w.heap.size /\ HashAt w' g [] /\ Below w.heap.size w w'
theorem new_any (w : World) (hv : Vars w) : Calls Tryz.prog 137 #[] w (NewIs w) := by
 unfold NewIs;have hpos := hv.pos;go_enter Tryz.func137, Tryz.ntmps137
 go_wp2_with (refine wpList_build_eq rfl 179 _ rfl (hashCells start (List.replicate 64 0) 0).toArray (by kernel_rfl) ?_)
 go_ret;refine ⟨w.heap.size, rfl, rfl, ⟨by omega, List.replicate 64 0, ?_, by simp, rfl⟩, (Below.refl _ _).alloc (Nat.le_refl _) _⟩;exact Row.new_ rfl rfl
theorem isMade_yes (g : Nat) (m : List UInt8) (w : World) (h : HashAt w g m) : Calls Tryz.prog 154 #[.pointer (some ⟨g, 0, none⟩)] w fun e w' => e = .returned (.bool true) /\ w' = w := by
 obtain ⟨_, blk, hr, hbl, _⟩ := h;have hc : w.cell? ⟨g, 0, none⟩ = some (.bool true) := by rw [hr.cell]; rfl
 go_enter Tryz.func154, Tryz.ntmps154;go_wp2;go_ret;exact ⟨rfl, rfl⟩
theorem info_u8s : (Tryz.prog.info? 5).map (·.size) = some 1 := by kernel_rfl
def AddIs (w : World) (g : Nat) (m : List UInt8) (e : Ending) (w' : World) : Prop := e = .returned (.tuple #[]) /\ HashAt w' g m /\ But w.heap.size g w w'
def slLen : Value -> Nat
 | .slice _ n _ => n
 | _ => 0
theorem splice_take (blk cs : List UInt8) (r : Nat) (h : r + cs.length <= blk.length) : (splice blk r cs).take (r + cs.length) = blk.take r ++ cs := by
 unfold splice;rw [<- List.append_assoc, List.take_append_of_le_length (by simp; omega)];exact List.take_of_length_le (by simp; omega)
theorem splice_all (blk cs : List UInt8) (r : Nat) (h : r + cs.length = blk.length) : splice blk r cs = blk.take r ++ cs := by
 unfold splice;rw [h, List.drop_length, List.append_nil]
theorem round_part (M cs blk : List UInt8) (r : Nat) (hr : r = M.length % 64) (hb : blk.length = 64) (hblk : blk.take r = M.drop (64 * (M.length / 64))) (hc : r + cs.length < 64) :
  (M ++ cs).length / 64 = M.length / 64 /\ states (M ++ cs) ((M ++ cs).length / 64) = states M (M.length / 64) /\ (splice blk r cs).length = 64 /\ (splice blk r cs).take ((M ++ cs).length % 64) = (M ++ cs).drop (64 * ((M ++ cs).length / 64)) := by
 have hd : (M ++ cs).length / 64 = M.length / 64 := by simp only [List.length_append]; omega
 have hm : (M ++ cs).length % 64 = r + cs.length := by simp only [List.length_append]; omega
 refine ⟨hd, by rw [hd, states_append _ _ _ (by omega)], by rw [length_splice _ _ _ (by omega), hb], ?_⟩;rw [hd, hm, splice_take _ _ _ (by omega), hblk, List.drop_append_of_le_length (by omega)]
theorem round_full (M cs blk : List UInt8) (r : Nat) (hr : r = M.length % 64) (hb : blk.length = 64) (hblk : blk.take r = M.drop (64 * (M.length / 64))) (hc : r + cs.length = 64) :
  (M ++ cs).length / 64 = M.length / 64 + 1 /\ (M ++ cs).length % 64 = 0 /\ states (M ++ cs) ((M ++ cs).length / 64) = comp (states M (M.length / 64)) (splice blk r cs) /\ (splice blk r cs).length = 64 := by
 have hd : (M ++ cs).length / 64 = M.length / 64 + 1 := by simp only [List.length_append]; omega
 have hm : (M ++ cs).length % 64 = 0 := by simp only [List.length_append]; omega
 refine ⟨hd, hm, ?_, by rw [length_splice _ _ _ (by omega), hb]⟩;rw [hd, states, states_append _ _ _ (by omega), blockAt, splice_all _ _ _ (by omega), hblk, List.drop_append_of_le_length (by omega), List.take_of_length_le (by simp only [List.length_append, List.length_drop]; omega)]
theorem arr24 : Tryz.prog.underlying 147 = some (.array (Tryz.prog.arrayLen 147) (Tryz.prog.elem 147)) := by kernel_rfl
theorem elem24 : Tryz.prog.elem 147 = 5 := by kernel_rfl
theorem len24 : Tryz.prog.arrayLen 147 = 64 := by kernel_rfl
theorem slice24_from (g o r : Nat) (h : r < 64) (w : World) : (Instr.sliceAt 147 (.pointer (some ⟨g, o, none⟩)) (some (.int .i64 (r : Int))) none none).run Tryz.prog w = .ok (.slice (some ⟨g, o + r, none⟩) (64 - r) (64 - r)) w := by
 rw [run_sliceAt_array_l w 147 ⟨g, o, none⟩ arr24 .i64 (r : Int) (by omega) (by rw [len24]; omega), elem24, run_sizeOf_u8, Result.andThen_ok, Int.toNat_natCast, len24];unfold slicedAt;rw [if_neg (by omega), addr_add, Nat.mul_one]
theorem slice24_to (g o r : Nat) (h : r <= 64) (w : World) : (Instr.sliceAt 147 (.pointer (some ⟨g, o, none⟩)) none (some (.int .i64 (r : Int))) none).run Tryz.prog w = .ok (.slice (some ⟨g, o, none⟩) r 64) w := by
 rw [run_sliceAt_array_h w 147 ⟨g, o, none⟩ arr24 .i64 (r : Int) (by omega) (by rw [len24]; omega), elem24, run_sizeOf_u8, Result.andThen_ok, Int.toNat_natCast, len24];unfold slicedAt;rw [if_neg (by omega)];rfl
theorem take_more (p cs : List UInt8) (k j : Nat) (hcs : cs = (p.drop k).take j) : p.take (k + cs.length) = p.take k ++ cs := by
 rw [List.take_add]
 congr 1
 subst hcs;rw [List.length_take, List.take_eq_take_iff];simp
theorem add_full {w : World} {g : Nat} {m p M cs blk blk2 : List UInt8} {k r sz N2 j : Nat} {st : St} (hg : 0 ≠ g) (hM : M = m ++ p.take k) (hcs : cs = (p.drop k).take j) (hrr : r = sz % 64) (hst : states M (M.length / 64) = st /\ M.length = sz) (hb : blk.length = 64)
  (hblk : blk.take r = M.drop (64 * (sz / 64))) (hN : N2 = sz + cs.length /\ 0 = N2 % 64) (hpos : 0 < cs.length) (hcl : cs.length <= 64 - r) (hbl2 : splice blk r cs = blk2)
  (hr : Row w g 179 (hashCells (comp st blk2) blk2 N2)) : HashAt w g (m ++ p.take (k + cs.length)) := by
 obtain ⟨hst, hsz⟩ := hst;obtain ⟨hN, hz⟩ := hN;rw [take_more p cs k j hcs, <- List.append_assoc, <- hM];subst hsz;have hl : (M ++ cs).length = N2 := by rw [List.length_append, hN]
 obtain ⟨h1, h2, h3, h4⟩ := round_full M cs blk r hrr hb hblk (by omega);refine ⟨hg, blk2, ?_, by rw [<- hbl2]; exact h4, ?_⟩
 ·rw [h3, hst, hbl2, hl]; exact hr
 ·rw [h2, List.take_zero, List.drop_of_length_le (by omega)]
theorem add_part {w : World} {g : Nat} {m p M cs blk blk2 : List UInt8} {k r sz N2 j r2 : Nat} {st : St} (hg : 0 ≠ g) (hM : M = m ++ p.take k) (hcs : cs = (p.drop k).take j) (hrr : r = sz % 64) (hst : states M (M.length / 64) = st /\ M.length = sz) (hb : blk.length = 64)
  (hblk : blk.take r = M.drop (64 * (sz / 64))) (hN : N2 = sz + cs.length /\ r2 = N2 % 64) (hz : ¬ r2 = 0) (hcl : cs.length <= 64 - r) (hbl2 : splice blk r cs = blk2)
  (hr : Row w g 179 (hashCells st blk2 N2)) : HashAt w g (m ++ p.take (k + cs.length)) := by
 obtain ⟨hst, hsz⟩ := hst;obtain ⟨hN, hz2⟩ := hN;rw [take_more p cs k j hcs, <- List.append_assoc, <- hM];subst hsz;have hl : (M ++ cs).length = N2 := by rw [List.length_append, hN]
 obtain ⟨h1, h2, h3, h4⟩ := round_part M cs blk r hrr hb hblk (by omega);refine ⟨hg, blk2, ?_, by rw [<- hbl2]; exact h3, by rw [<- hbl2]; exact h4⟩;rw [h2, hst, hl]; exact hr
def op147_0 : Oper := { dst := some 36, op := Op.move (Operand.tmp 0), type := 160, pos := "sha2.go:147", after := #[], guard := none }
def op147_1 : Oper := { dst := some 37, op := Op.move (Operand.tmp 0), type := 160, pos := "sha2.go:147", after := #[], guard := none }
def op147_2 : Oper := { dst := some 38, op := Op.nilCheck (Operand.tmp 37), type := 0, pos := "sha2.go:147", after := #[{ on := 1, ground := Ground.data }], guard := none }
def op147_3 : Oper := { dst := some 39, op := Op.fieldAddr 179 (Operand.tmp 38) 1, type := 0, pos := "sha2.go:147", after := #[{ on := 2, ground := Ground.data }], guard := none }
def op147_5 : Oper := { dst := some 41, op := Op.move (Operand.tmp 0), type := 160, pos := "sha2.go:147", after := #[], guard := none }
def op147_6 : Oper := { dst := some 42, op := Op.nilCheck (Operand.tmp 41), type := 0, pos := "sha2.go:147", after := #[{ on := 5, ground := Ground.data }], guard := none }
def op147_7 : Oper := { dst := some 43, op := Op.fieldAddr 179 (Operand.tmp 42) 2, type := 0, pos := "sha2.go:147", after := #[{ on := 6, ground := Ground.data }], guard := none }
def op147_9 : Oper := { dst := some 45, op := Op.call { callee := Callee.value (Operand.func 162), args := #[Operand.tmp 40, Operand.tmp 44], argTypes := #[63, 147] }, type := 63, pos := "sha2.go:147", after := #[{ on := 4, ground := Ground.data }, { on := 8, ground := Ground.data }], guard := none }
def op147_10 : Oper := { dst := some 46, op := Op.nilCheck (Operand.tmp 36), type := 0, pos := "sha2.go:147", after := #[{ on := 0, ground := Ground.data }, { on := 0, ground := Ground.phase }, { on := 1, ground := Ground.phase }, { on := 2, ground := Ground.phase }, { on := 3, ground := Ground.phase }, { on := 4, ground := Ground.phase }, { on := 5, ground := Ground.phase }, { on := 6, ground := Ground.phase }, { on := 7, ground := Ground.phase }, { on := 8, ground := Ground.phase }, { on := 9, ground := Ground.phase }], guard := none }
def op147_11 : Oper := { dst := some 47, op := Op.fieldAddr 179 (Operand.tmp 46) 1, type := 0, pos := "sha2.go:147", after := #[{ on := 10, ground := Ground.data }, { on := 0, ground := Ground.phase }, { on := 1, ground := Ground.phase }, { on := 2, ground := Ground.phase }, { on := 3, ground := Ground.phase }, { on := 4, ground := Ground.phase }, { on := 5, ground := Ground.phase }, { on := 6, ground := Ground.phase }, { on := 7, ground := Ground.phase }, { on := 8, ground := Ground.phase }, { on := 9, ground := Ground.phase }], guard := none }
set_option maxHeartbeats 400000 in
theorem add_any (g : Nat) (m p : List UInt8) (B : Nat) (v : Value) (w : World) (h : HashAt w g m) (hs : Sl w B v p) (hB : B <= w.heap.size) (ho : Off g v) (hv : Vars w) (hl : m.length + p.length <= 1099511627776) :
  Calls Tryz.prog 155 #[.pointer (some ⟨g, 0, none⟩), v] w (AddIs w g (m ++ p)) := by
 unfold AddIs;obtain ⟨A, c, rfl, _, _⟩ := hs.form;go_enter Tryz.func155, Tryz.ntmps155;go_wp2;go_loopw [1] (fun v1 wr => ∃ (k : Nat) (A1 : Option Addr) (c1 : Nat), k <= p.length /\ v1 = .slice A1 (p.length - k) c1 /\ Hid (Sl wr B v1 (p.drop k)) /\ Hid (Off g v1) /\ HashAt wr g (m ++ p.take k) /\ Vars wr /\ But w.heap.size g w wr) (fun v1 _ => slLen v1)
 case atStart => exact ⟨0, A, c, Nat.zero_le _, rfl, Lib.hid hs, Lib.hid ho, by simpa using h, hv, But.refl _ _ _⟩
 case round =>
  clear h hs ho hv;obtain ⟨k, A1, c1, hk, rfl, HS, HO, hh, hv, hbut⟩ := hrel
  by_cases hlt : k < p.length
  ·obtain ⟨hg0, blk, hr, hbl, hblk⟩ := hh;obtain ⟨M, hM⟩ : ∃ M, M = m ++ p.take k := ⟨_, rfl⟩;rw [<- hM] at hr hblk;obtain ⟨r, hrr⟩ : ∃ r, r = M.length % 64 := ⟨_, rfl⟩;rw [<- hrr] at hblk;obtain ⟨b, off, rfl, hbB, hcell⟩ := HS.out.at_ (by simp; omega);have hMl : M.length = m.length + k := by rw [hM]; simp; omega
   obtain ⟨cs, hcs⟩ : ∃ cs, cs = (p.drop k).take (64 - r) := ⟨_, rfl⟩;have hcl : cs.length = Nat.min (p.length - k) (64 - r) := by rw [hcs]; simp [Nat.min_comm]
   have hcl1 : cs.length <= 64 - r := by rw [hcl]; exact Nat.min_le_right _ _
   have hcl2 : cs.length <= p.length - k := by rw [hcl]; exact Nat.min_le_left _ _
   have hrl : r < 64 := by omega
   have hsrc : Hid (∀ j u, (Lib.byteCells cs)[j]? = some u -> wr.cell? ((⟨b, off, none⟩ : Addr).add j) = some u) := Lib.hid (fun j u hu => by
    have hj : j < cs.length := by have := (List.getElem?_eq_some_iff.1 hu).1; rwa [Lib.byteCells_length] at this
    rw [addr_add, hcell j (by simp; omega), <- hu, byteCells_get _ _ hj];subst hcs
    simp)
   have hc73 := hr.cell 73;rw [hashCells_size _ _ _ hbl] at hc73;have HR := Lib.hid hr;have HB := Lib.hid (And.intro hblk (And.intro hM (And.intro hrr (And.intro hcs (And.intro hbl hcl)))));have HMl := Lib.hid hMl;have q1 : (M.length : Int) % 64 = (r : Int) := by omega
   have q3 : (M.length : Int).tmod 64 = (r : Int) := (show (M.length : Int).tmod 64 = ((M.length % 64 : Nat) : Int) from rfl).trans (by omega);have hslc := slice24_from g 9 r hrl;have q2 : ¬ 64 = r := by omega
   have hcpos : 0 < cs.length := by rw [hcl]; simp only [Nat.min_def]; split <;> omega
   clear hcell hr hblk hM hrr hcs hcl hMl;obtain ⟨st, hst⟩ : ∃ st, states M (M.length / 64) = st := ⟨_, rfl⟩;obtain ⟨sz, hsz⟩ : ∃ sz, M.length = sz := ⟨_, rfl⟩;have HST := Lib.hid (And.intro hst hsz);rw [hst, hsz] at HR;rw [hsz] at hc73 HMl HB q1 q3;clear hst hsz;go_wp2
   go_region_law (refine step_copy_but rfl (.tmp 16) (.tmp 17) 23 23 rfl 5 Tryz.underlying23 info_u8s (64 - r) (64 - r) (p.length - k) c1 ⟨b, off, none⟩ g (9 + r) (by simp [Act.eval, Act.put]) (by simp [Act.eval, Act.put]) _ _ HR.out (Lib.byteCells cs) (by rw [Lib.byteCells_length]; exact HB.out.2.2.2.2.2) hsrc.out (by rw [Lib.byteCells_length, hashCells_length _ _ _ HB.out.2.2.2.2.1]; omega) (cell_oneCell _) ?_; intro w4 hr4 hb4 hs4; rw [show goInt (Lib.byteCells cs).length = .int .i64 (cs.length : Int) by rw [Lib.byteCells_length]; rfl])
   rw [hashCells_splice _ _ _ _ _ HB.out.2.2.2.2.1 (by omega)] at hr4;replace hb4 : But wr.heap.size g wr w4 := But.undrew hb4;have hsv : Sl w4 B (.slice (some ⟨b, off, none⟩) (p.length - k) c1) (p.drop k) := Sl.but (w := wr) HS.out HO.out (hb4.mono (Nat.le_trans hB hbut.size));have hle : cs.length <= (p.drop k).length := by simp; omega
   have hv4 : Vars w4 := Vars.but (w := wr) hv hb4 hg0;have hbut4 : But w.heap.size g w w4 := hbut.chain (w₁ := wr) hb4
   go_wp2_with (refine wpList_slice_from rfl (.tmp 19) (.tmp 20) rfl B _ rfl (p.drop k) hsv cs.length rfl hle ?_)
   intro v2 hs2 ho2;replace ho2 := ho2 g HO.out;obtain ⟨N2, hN2⟩ : ∃ N2, N2 = sz + cs.length := ⟨_, rfl⟩;obtain ⟨r2, hr2⟩ : ∃ r2, r2 = N2 % 64 := ⟨_, rfl⟩;have q4 : (sz : Int) + (cs.length : Int) = (N2 : Int) := by omega
   have q5 : (N2 : Int).tmod 64 = (r2 : Int) := (show (N2 : Int).tmod 64 = ((N2 % 64 : Nat) : Int) from rfl).trans (by omega);have q6 : (N2 : Int) % 64 = (r2 : Int) := by omega
   have hsb : N2 <= 1099511627776 := by have := HMl.out; omega
   have d73 := hr4.cell 73;have hb2l : (splice blk r cs).length = 64 := by rw [length_splice _ _ _ (by have := HB.out.2.2.2.2.1; omega), HB.out.2.2.2.2.1]
   rw [hashCells_size _ _ _ hb2l] at d73;have f73 := hr4.free 73;have hr6 := hr4.set_ 73 (.int .i64 (N2 : Int));rw [hashCells_setSize _ _ _ _ hb2l] at hr6;have hb6 := hbut4.setCell 73 (.int .i64 (N2 : Int));have hv6 : Vars (w4.setCell ⟨g, 73, none⟩ (.int .i64 (N2 : Int))) := hv4.but (But.setCell (But.refl _ _ _) 73 _) hg0;have hs6 : Sl (w4.setCell ⟨g, 73, none⟩ (.int .i64 (N2 : Int))) B v2 (p.drop (k + cs.length)) := hs2.but ho2 (But.setCell (But.refl _ _ _) 73 _);obtain ⟨w6, hw6⟩ : ∃ w6, w4.setCell ⟨g, 73, none⟩ (.int .i64 (N2 : Int)) = w6 := ⟨_, rfl⟩;have d6 := hr6.cell 73;rw [hashCells_size _ _ _ hb2l] at d6;have hN := Lib.hid (And.intro hN2 hr2);rw [hw6] at hr6 hb6 hv6 hs6 d6;obtain ⟨A2, c2, rfl, _, _⟩ := hs6.form;rw [List.length_drop] at hs6 ho2;clear hs2 hr4 hN2 hr2 hc73 hslc q1 q3;generalize hblk2 : splice blk r cs = blk2 at *
   by_cases hz : r2 = 0
   ·subst hz;have HR6 := Lib.hid hr6;have hrg24 : w6.drew.rangeAt g 9 (Lib.byteCells blk2) := by
     have := hr6.drew.mid 9 64
     rwa [hashCells_blk _ _ _ hb2l] at this
    have hrg23 : w6.drew.rangeAt g 1 (wordCells st.list) := by
     have := hr6.drew.mid 1 8
     rwa [hashCells_st] at this
    clear hr6;go_wp2;refine wp_region_any (by kernel_rfl) ?_
    change wpAny _ _ _ _ _ _ _ (World.drew _)
    (refine wpAny_take (i := 0) (oi := op147_0) (v := ?_) rfl (by kernel_rfl) (by kernel_rfl) (by kernel_rfl) (fun _ _ _ h => h) (Or.inl ⟨by rfl, ?_⟩) ?_; rotate_left; focus (intro w; unfold op147_0; go_simp; try with_reducible rfl))
    simp only [op147_0, Act.put, List.setIfInBounds_toArray, List.set_cons_zero, List.set_cons_succ]
    (refine wpAny_take (i := 1) (oi := op147_1) (v := ?_) rfl (by kernel_rfl) (by kernel_rfl) (by kernel_rfl) (fun _ _ _ h => h) (Or.inl ⟨by rfl, ?_⟩) ?_; rotate_left; focus (intro w; unfold op147_1; go_simp; try with_reducible rfl))
    simp only [op147_1, Act.put, List.setIfInBounds_toArray, List.set_cons_zero, List.set_cons_succ]
    (refine wpAny_take (i := 2) (oi := op147_2) (v := ?_) rfl (by kernel_rfl) (by kernel_rfl) (by kernel_rfl) (fun _ _ _ h => h) (Or.inl ⟨by rfl, ?_⟩) ?_; rotate_left; focus (intro w; unfold op147_2; go_simp; try with_reducible rfl))
    simp only [op147_2, Act.put, List.setIfInBounds_toArray, List.set_cons_zero, List.set_cons_succ]
    (refine wpAny_take (i := 3) (oi := op147_3) (v := ?_) rfl (by kernel_rfl) (by kernel_rfl) (by kernel_rfl) (fun _ _ _ h => h) (Or.inl ⟨by rfl, ?_⟩) ?_; rotate_left; focus (intro w; unfold op147_3; go_simp; try with_reducible rfl))
    simp only [op147_3, Act.put, List.setIfInBounds_toArray, List.set_cons_zero, List.set_cons_succ]
    (refine wpAny_take (i := 5) (oi := op147_5) (v := ?_) rfl (by kernel_rfl) (by kernel_rfl) (by kernel_rfl) (fun _ _ _ h => h) (Or.inl ⟨by rfl, ?_⟩) ?_; rotate_left; focus (intro w; unfold op147_5; go_simp; try with_reducible rfl))
    simp only [op147_5, Act.put, List.setIfInBounds_toArray, List.set_cons_zero, List.set_cons_succ]
    (refine wpAny_take (i := 6) (oi := op147_6) (v := ?_) rfl (by kernel_rfl) (by kernel_rfl) (by kernel_rfl) (fun _ _ _ h => h) (Or.inl ⟨by rfl, ?_⟩) ?_; rotate_left; focus (intro w; unfold op147_6; go_simp; try with_reducible rfl))
    simp only [op147_6, Act.put, List.setIfInBounds_toArray, List.set_cons_zero, List.set_cons_succ]
    (refine wpAny_take (i := 7) (oi := op147_7) (v := ?_) rfl (by kernel_rfl) (by kernel_rfl) (by kernel_rfl) (fun _ _ _ h => h) (Or.inl ⟨by rfl, ?_⟩) ?_; rotate_left; focus (intro w; unfold op147_7; go_simp; try with_reducible rfl))
    simp only [op147_7, Act.put, List.setIfInBounds_toArray, List.set_cons_zero, List.set_cons_succ];refine wpAny_ready (rs := [4, 8]) (by kernel_rfl) (by simp) (ready_load 4 63 (.tmp 39) (some 40) (by kernel_rfl) (by kernel_rfl) (by kernel_rfl) g 1 (by rfl) (wordCells st.list) (.array 8 22) hrg23 Tryz.underlying63 rfl (info_w8.trans (size_words _ _ rfl)) ?_ (ready_load 8 147 (.tmp 43) (some 44) (by kernel_rfl) (by kernel_rfl) (by kernel_rfl) g 9 (by rfl) (Lib.byteCells blk2) (.array 64 5) hrg24 Tryz.underlying147 rfl (info_b64.trans (size_bytes _ _ hb2l)) ?_ AllReady.nil))
    ·simp only [Act.put, arr9, hd9, tl9];refine wpAny_ready (rs := [8]) (by kernel_rfl) (by simp) (ready_load 8 147 (.tmp 43) (some 44) (by kernel_rfl) (by kernel_rfl) (by kernel_rfl) g 9 (by rfl) (Lib.byteCells blk2) (.array 64 5) hrg24 Tryz.underlying147 rfl (info_b64.trans (size_bytes _ _ hb2l)) ?_ AllReady.nil);simp only [Act.put, arr9, hd9, tl9];refine wpAny_ready (rs := [9]) (by kernel_rfl) (by simp) (AllReady.cons (o := op147_9) rfl (fun K hK => ?_) AllReady.nil);unfold op147_9
     go_simp
     go_at_call 162
     refine (compress_any st blk2 hb2l _ hv6.drew).mono ?_;rintro e w7 ⟨rfl, b7d⟩;have b7 : Below w6.heap.size w6 w7 := ⟨b7d.os, b7d.tape, b7d.output, b7d.size, b7d.block⟩;clear b7d
     try go_simp
     refine hK _ _ ?_;clear hK K
     (refine wpAny_take (i := 10) (oi := op147_10) (v := ?_) rfl (by kernel_rfl) (by kernel_rfl) (by kernel_rfl) (fun _ _ _ h => h) (Or.inl ⟨by rfl, ?_⟩) ?_; rotate_left; focus (intro w; unfold op147_10; go_simp; try with_reducible rfl))
     simp only [op147_10, Act.put, List.setIfInBounds_toArray, List.set_cons_zero, List.set_cons_succ]
     (refine wpAny_take (i := 11) (oi := op147_11) (v := ?_) rfl (by kernel_rfl) (by kernel_rfl) (by kernel_rfl) (fun _ _ _ h => h) (Or.inl ⟨by rfl, ?_⟩) ?_; rotate_left; focus (intro w; unfold op147_11; go_simp; try with_reducible rfl))
     simp only [op147_11, Act.put, List.setIfInBounds_toArray, List.set_cons_zero, List.set_cons_succ];have hr7 : Row w7 g 179 (hashCells st blk2 N2) := HR6.out.below (B := w6.heap.size) b7 HR6.out.lt;refine wpAny_ready (rs := [12]) (by kernel_rfl) (by simp) (ready_store 12 63 (.tmp 47) (.tmp 45) none (by kernel_rfl) (by kernel_rfl) (by kernel_rfl) g 1 (by rfl) (wordCells (comp st blk2).list) (by rfl) (hr7.there 1 8 (by rw [hashCells_length _ _ _ hb2l]; decide)) (info_w8.trans (size_words _ _ rfl)) (cell_oneWord _) ?_ AllReady.nil);simp only [Act.put];refine wpAny_done (by kernel_rfl) ?_ _;have hr8 := hr7.setCells (wordCells (comp st blk2).list) 1;rw [hashCells_setSt] at hr8;have hb8 : But w.heap.size g w (w7.setCells g 1 (wordCells (comp st blk2).list)) := (hb6.chain (But.of b7 g)).trans (But.setCells _ 1 (But.refl _ _ _));have hv8 : Vars (w7.setCells g 1 (wordCells (comp st blk2).list)) := (hv6.step b7).but (But.setCells _ 1 (But.refl _ _ _)) hg0;have hs8 : Sl (w7.setCells g 1 (wordCells (comp st blk2).list)) B (.slice A2 (p.length - (k + cs.length)) c2) (p.drop (k + cs.length)) := (hs6.below (b7.mono (Nat.le_trans hB hb6.size))).but ho2 (But.setCells _ 1 (But.refl _ _ _));clear hr7;generalize w7.setCells g 1 (wordCells (comp st blk2).list) = w8 at *;go_wp2
     go_roundw
     case rel =>
      obtain ⟨z1, z2, z3, z4, z5, z6⟩ := HB.out;exact ⟨k + cs.length, A2, c2, by omega, rfl, Lib.hid hs8, Lib.hid ho2, add_full hg0 z2 z4 z3 HST.out z5 z1 hN.out hcpos hcl1 hblk2 hr8, hv8, hb8⟩
     case measure => simp [slLen]; omega
    ·simp only [Act.put, arr9, hd9, tl9];refine wpAny_ready (rs := [4]) (by kernel_rfl) (by simp) (ready_load 4 63 (.tmp 39) (some 40) (by kernel_rfl) (by kernel_rfl) (by kernel_rfl) g 1 (by rfl) (wordCells st.list) (.array 8 22) hrg23 Tryz.underlying63 rfl (info_w8.trans (size_words _ _ rfl)) ?_ AllReady.nil);simp only [Act.put, arr9, hd9, tl9];refine wpAny_ready (rs := [9]) (by kernel_rfl) (by simp) (AllReady.cons (o := op147_9) rfl (fun K hK => ?_) AllReady.nil);unfold op147_9
     go_simp
     go_at_call 162
     refine (compress_any st blk2 hb2l _ hv6.drew).mono ?_;rintro e w7 ⟨rfl, b7d⟩;have b7 : Below w6.heap.size w6 w7 := ⟨b7d.os, b7d.tape, b7d.output, b7d.size, b7d.block⟩;clear b7d
     try go_simp
     refine hK _ _ ?_;clear hK K
     (refine wpAny_take (i := 10) (oi := op147_10) (v := ?_) rfl (by kernel_rfl) (by kernel_rfl) (by kernel_rfl) (fun _ _ _ h => h) (Or.inl ⟨by rfl, ?_⟩) ?_; rotate_left; focus (intro w; unfold op147_10; go_simp; try with_reducible rfl))
     simp only [op147_10, Act.put, List.setIfInBounds_toArray, List.set_cons_zero, List.set_cons_succ]
     (refine wpAny_take (i := 11) (oi := op147_11) (v := ?_) rfl (by kernel_rfl) (by kernel_rfl) (by kernel_rfl) (fun _ _ _ h => h) (Or.inl ⟨by rfl, ?_⟩) ?_; rotate_left; focus (intro w; unfold op147_11; go_simp; try with_reducible rfl))
     simp only [op147_11, Act.put, List.setIfInBounds_toArray, List.set_cons_zero, List.set_cons_succ];have hr7 : Row w7 g 179 (hashCells st blk2 N2) := HR6.out.below (B := w6.heap.size) b7 HR6.out.lt;refine wpAny_ready (rs := [12]) (by kernel_rfl) (by simp) (ready_store 12 63 (.tmp 47) (.tmp 45) none (by kernel_rfl) (by kernel_rfl) (by kernel_rfl) g 1 (by rfl) (wordCells (comp st blk2).list) (by rfl) (hr7.there 1 8 (by rw [hashCells_length _ _ _ hb2l]; decide)) (info_w8.trans (size_words _ _ rfl)) (cell_oneWord _) ?_ AllReady.nil);simp only [Act.put];refine wpAny_done (by kernel_rfl) ?_ _;have hr8 := hr7.setCells (wordCells (comp st blk2).list) 1;rw [hashCells_setSt] at hr8;have hb8 : But w.heap.size g w (w7.setCells g 1 (wordCells (comp st blk2).list)) := (hb6.chain (But.of b7 g)).trans (But.setCells _ 1 (But.refl _ _ _));have hv8 : Vars (w7.setCells g 1 (wordCells (comp st blk2).list)) := (hv6.step b7).but (But.setCells _ 1 (But.refl _ _ _)) hg0;have hs8 : Sl (w7.setCells g 1 (wordCells (comp st blk2).list)) B (.slice A2 (p.length - (k + cs.length)) c2) (p.drop (k + cs.length)) := (hs6.below (b7.mono (Nat.le_trans hB hb6.size))).but ho2 (But.setCells _ 1 (But.refl _ _ _));clear hr7;generalize w7.setCells g 1 (wordCells (comp st blk2).list) = w8 at *;go_wp2
     go_roundw
     case rel =>
      obtain ⟨z1, z2, z3, z4, z5, z6⟩ := HB.out;exact ⟨k + cs.length, A2, c2, by omega, rfl, Lib.hid hs8, Lib.hid ho2, add_full hg0 z2 z4 z3 HST.out z5 z1 hN.out hcpos hcl1 hblk2 hr8, hv8, hb8⟩
     case measure => simp [slLen]; omega
   ·have hz' : ¬ (r2 : Int) = 0 := by omega
    go_wp2
    go_roundw
    case rel =>
     obtain ⟨z1, z2, z3, z4, z5, z6⟩ := HB.out;exact ⟨k + cs.length, A2, c2, by omega, by simp, Lib.hid (by simpa using hs6), Lib.hid (by simpa using ho2), add_part hg0 z2 z4 z3 HST.out z5 z1 hN.out hz hcl1 hblk2 hr6, hv6, hb6⟩
    case measure => simp [slLen]; omega
  ·obtain rfl : k = p.length := by omega
   rw [List.take_length] at hh;go_wp2
   go_end0
   exact ⟨rfl, hh, hbut⟩
def PartsO (w : World) (B g : Nat) (v : Value) (bss : List (List UInt8)) : Prop :=
 ∃ A c, v = .slice A bss.length c /\ (0 < bss.length -> ∃ q off, A = some ⟨q, off, none⟩ /\ q < B /\ q ≠ g /\ ∀ i (h : i < bss.length), ∃ u, w.cell? ⟨q, off + i, none⟩ = some u /\ Sl w B u bss[i] /\ Off g u)
section
variable {w w' : World} {B B' g : Nat} {v : Value} {bss : List (List UInt8)}
theorem PartsO.form (h : PartsO w B g v bss) : ∃ A c, v = .slice A bss.length c := by
 obtain ⟨A, c, hv, _⟩ := h;exact ⟨A, c, hv⟩
theorem PartsO.at_ {A : Option Addr} {n c : Nat} (h : PartsO w B g (.slice A n c) bss) (hn : 0 < bss.length) : ∃ q off, A = some ⟨q, off, none⟩ /\ q < B /\ q ≠ g /\ ∀ i (h : i < bss.length), ∃ u, w.cell? ⟨q, off + i, none⟩ = some u /\ Sl w B u bss[i] /\ Off g u := by
 obtain ⟨A', c', hv, hc⟩ := h;cases hv;exact hc hn
theorem PartsO.but (h : PartsO w B g v bss) (hb : But B g w w') : PartsO w' B g v bss := by
 obtain ⟨A, c, hv, hc⟩ := h;refine ⟨A, c, hv, fun hn => ?_⟩;obtain ⟨q, off, hA, hq, hg, hr⟩ := hc hn;refine ⟨q, off, hA, hq, hg, fun i hi => ?_⟩;obtain ⟨u, hu, hs, ho⟩ := hr i hi;exact ⟨u, (hb.cell (p := ⟨q, off + i, none⟩) hq hg).trans hu, hs.but ho hb, ho⟩
theorem PartsO.below (h : PartsO w B g v bss) (hb : Below B w w') : PartsO w' B g v bss := h.but (But.of hb g)
theorem PartsO.more (h : PartsO w B g v bss) (hB : B <= B') : PartsO w B' g v bss := by
 obtain ⟨A, c, hv, hc⟩ := h;refine ⟨A, c, hv, fun hn => ?_⟩;obtain ⟨q, off, hA, hq, hg, hr⟩ := hc hn;refine ⟨q, off, hA, by omega, hg, fun i hi => ?_⟩;obtain ⟨u, hu, hs, ho⟩ := hr i hi;exact ⟨u, hu, hs.more hB, ho⟩
theorem PartsO.two {q n : Nat} {T : TypeId} {u u2 : Value} {bs bs2 : List UInt8} (hq : q < B) (hg : q ≠ g) (hr : Row w q T [u, u2]) (hs : Sl w B u bs) (ho : Off g u) (hs2 : Sl w B u2 bs2) (ho2 : Off g u2) : PartsO w B g (.slice (some ⟨q, 0, none⟩) 2 n) [bs, bs2] :=
 ⟨_, n, rfl, fun _ => ⟨q, 0, rfl, hq, hg, fun i hi => by
  match i, hi with
  | 0, _ => exact ⟨u, hr.cell 0, hs, ho⟩
  | 1, _ => exact ⟨u2, hr.cell 1, hs2, ho2⟩⟩⟩
theorem PartsO.three {q n : Nat} {T : TypeId} {u u2 u3 : Value} {bs bs2 bs3 : List UInt8} (hq : q < B) (hg : q ≠ g) (hr : Row w q T [u, u2, u3]) (hs : Sl w B u bs) (ho : Off g u) (hs2 : Sl w B u2 bs2) (ho2 : Off g u2) (hs3 : Sl w B u3 bs3) (ho3 : Off g u3) : PartsO w B g (.slice (some ⟨q, 0, none⟩) 3 n) [bs, bs2, bs3] :=
 ⟨_, n, rfl, fun _ => ⟨q, 0, rfl, hq, hg, fun i hi => by
  match i, hi with
  | 0, _ => exact ⟨u, hr.cell 0, hs, ho⟩
  | 1, _ => exact ⟨u2, hr.cell 1, hs2, ho2⟩
  | 2, _ => exact ⟨u3, hr.cell 2, hs3, ho3⟩⟩⟩
end
theorem flat_snoc (bss : List (List UInt8)) (k : Nat) (h : k < bss.length) : (bss.take (k + 1)).flatten = (bss.take k).flatten ++ bss[k] := by
 rw [List.take_succ_eq_append_getElem h, List.flatten_append];simp only [List.flatten_cons, List.flatten_nil, List.append_nil]
theorem flat_le (bss : List (List UInt8)) (k : Nat) : (bss.take k).flatten.length <= bss.flatten.length := by
 conv => rhs; rw [<- List.take_append_drop k bss, List.flatten_append, List.length_append]
 omega
def WriteIs (w : World) (g : Nat) (m : List UInt8) (e : Ending) (w' : World) : Prop := e = .returned (.int .i64 0) /\ HashAt w' g m /\ But w.heap.size g w w'
set_option maxHeartbeats 1000000 in
theorem write_any (g : Nat) (m : List UInt8) (bss : List (List UInt8)) (B : Nat) (v : Value) (w : World) (h : HashAt w g m) (hp : PartsO w B g v bss) (hB : B <= w.heap.size) (hv : Vars w) (hl : m.length + bss.flatten.length <= 1099511627776) (hn : bss.length <= 1000) :
  Calls Tryz.prog 138 #[.pointer (some ⟨g, 0, none⟩), v] w (WriteIs w g (m ++ bss.flatten)) := by
 unfold WriteIs;obtain ⟨A, c, rfl⟩ := hp.form;have hg0 := h.1;go_enter Tryz.func138, Tryz.ntmps138
 go_wp2_with (go_at_call 154; refine (isMade_yes g m _ h).mono ?_)
 rintro e wK ⟨rfl, rfl⟩;go_wp2;go_loopw [6, 12] (fun _ i wr => ∃ k : Nat, k <= bss.length /\ i = .int .i64 k /\ HashAt wr g (m ++ (bss.take k).flatten) /\ Vars wr /\ But wK.heap.size g wK wr) (fun _ i _ => bss.length - (intOf i).toNat)
 case atStart => exact ⟨0, Nat.zero_le _, rfl, by simpa using h, hv, But.refl _ _ _⟩
 case round =>
  clear h hv;obtain ⟨k, hk, rfl, hh, hv, hbut⟩ := hrel
  by_cases hlt : k < bss.length
  ·have hpr := hp.but (hbut.mono hB);obtain ⟨q, off, rfl, hq, hqg, hc⟩ := hpr.at_ (by omega);obtain ⟨u, hu, hs, ho⟩ := hc k hlt;have HF := Lib.hid (flat_snoc bss k hlt);have hfl := flat_le bss (k + 1);rw [HF.out, List.length_append] at hfl;clear hpr hc;generalize bss[k] = bk at *;generalize hfk : (bss.take k).flatten = fk at *
   go_wp2_with (go_at_call 155; refine (add_any g _ bk B u _ hh hs (Nat.le_trans hB hbut.size) ho hv (by rw [List.length_append]; omega)).mono ?_)
   rintro e w2 ⟨rfl, hh2, hb2⟩;rw [List.append_assoc, <- HF.out] at hh2;go_wp2
   go_roundw
   case rel => exact ⟨k + 1, by omega, by go_num, hh2, hv.but hb2 hg0, hbut.chain hb2⟩
   case measure => simp [intOf]; omega
  ·obtain rfl : k = bss.length := by omega
   rw [List.take_length] at hh;go_wp2;go_ret;exact ⟨rfl, hh, hbut⟩
theorem off_own {w : World} {base e n g : Nat} {v : Value} {xs : List Value} (h : w.ownsRow base e 1 v n xs) (hg : g < base) : Off g v := by
 intro x l c hx hl
 rcases h.2 with ⟨rfl, hn⟩ | ⟨q, cap, cur, rfl, hb, _⟩
 ·cases hx
 ·cases hx;show q ≠ g;omega
theorem Below.chain {a b c : World} (h : Below a.heap.size a b) (k : Below b.heap.size b c) : Below a.heap.size a c := h.trans (k.mono h.size)
theorem gives_sl {w w' : World} {v : Value} {bs : List UInt8} (h : Gives w bs v w') : Sl w' w'.heap.size v bs := Sl.of_own h.1
theorem Sl.step {w w' : World} {v : Value} {bs : List UInt8} {B : Nat} (h : Sl w B v bs) (hB : B <= w.heap.size) (hb : Below w.heap.size w w') : Sl w' B v bs := h.below (hb.mono hB)
def HashVal (cs : List Value) (m : List UInt8) : Prop := ∃ blk : List UInt8, cs = hashCells (states m (m.length / 64)) blk m.length /\ blk.length = 64 /\ blk.take (m.length % 64) = m.drop (64 * (m.length / 64))
theorem HashVal.at_ {cs : List Value} {m : List UInt8} {w : World} {g : Nat} (h : HashVal cs m) (hg : 0 ≠ g) (hr : Row w g 179 cs) : HashAt w g m := by
 obtain ⟨blk, rfl, h1, h2⟩ := h;exact ⟨hg, blk, hr, h1, h2⟩
theorem HashVal.of {m : List UInt8} {w : World} {g : Nat} (h : HashAt w g m) : ∃ cs, HashVal cs m /\ Row w g 179 cs /\ cs.length = 74 /\ (∀ u ∈ cs, u.oneCell' = true) := by
 obtain ⟨hg, blk, hr, h1, h2⟩ := h;exact ⟨_, ⟨blk, rfl, h1, h2⟩, hr, hashCells_length _ _ _ h1, hashCells_one _ _ _⟩
theorem HashAt.size {w : World} {g : Nat} {m : List UInt8} (h : HashAt w g m) : w.cell? ⟨g, 73, none⟩ = some (.int .i64 (m.length : Int)) := by
 obtain ⟨_, blk, hr, hbl, _⟩ := h;rw [hr.cell];exact hashCells_size _ _ _ hbl
theorem HashAt.word {w : World} {g : Nat} {m : List UInt8} (h : HashAt w g m) (k : Nat) (hk : k < 8) : w.cell? ⟨g, 1 + k, none⟩ = some (.int .u32 (((states m (m.length / 64)).list[k]'hk).toNat : Int)) := by
 obtain ⟨_, blk, hr, hbl, _⟩ := h;rw [hr.cell];exact hashCells_word _ _ _ _ hk
def SumIs (w : World) (bs : List UInt8) (e : Ending) (w' : World) : Prop := e = .returned (.agg (Lib.byteCells bs).toArray) /\ Below w.heap.size w w'
theorem flat4_get (f : UInt32 -> List UInt8) (hf : ∀ x, (f x).length = 4) (l : List UInt32) : ∀ i, (l.flatMap f)[i]? = (l[i / 4]?).bind fun x => (f x)[i % 4]? := by
 induction l with
 | nil => intro i; simp
 | cons x r ih =>
  intro i;rw [List.flatMap_cons]
  by_cases h : i < 4
  ·rw [List.getElem?_append_left (by rw [hf]; exact h), show i / 4 = 0 by omega, show i % 4 = i by omega];simp
  ·rw [List.getElem?_append_right (by rw [hf]; omega), hf, ih (i - 4), show i / 4 = (i - 4) / 4 + 1 by omega, show i % 4 = (i - 4) % 4 by omega];simp
theorem outB_get (s : St) (i : Nat) (h : i < 32) : (outB s)[i]'(by rw [outB_length]; exact h) = UInt8.ofNat ((s.list[i / 4]'(by rw [St.list_length]; omega)).toNat / 256 ^ (3 - i % 4) % 256) := by
 have h1 := flat4_get (fun x => bigB x.toNat 4) (fun x => bigB_length _ _) s.list i;rw [List.getElem?_eq_getElem (show i / 4 < s.list.length by rw [St.list_length]; omega), Option.bind_some] at h1;have h2 : (outB s)[i]? = some ((outB s)[i]'(by rw [outB_length]; exact h)) := List.getElem?_eq_getElem (by rw [outB_length]; exact h);have h3 : (bigB (s.list[i / 4]'(by rw [St.list_length]; omega)).toNat 4)[i % 4]? = some _ := List.getElem?_eq_getElem (by rw [bigB_length]; omega);rw [h3] at h1;have h4 := Option.some.inj (h2.symm.trans h1);rw [h4, bigB_getElem _ _ _ (by omega)]
theorem setk (l : List UInt8) (j k : Nat) (hl : l.length = k) (hj : j < k) (x : UInt8) (hx : x = l[j]'(by omega)) :
  (l.take j ++ List.replicate (k - j) 0).set j x = l.take (j + 1) ++ List.replicate (k - (j + 1)) 0 := by
 subst hx;exact set_step l j k hl hj
theorem pad_split (m : List UInt8) : m ++ (128 :: List.replicate 63 0).take (zerosOf m.length + 1) ++ bigB (8 * m.length) 8 = padB m := by
 have h : (128 :: List.replicate 63 (0 : UInt8)).take (zerosOf m.length + 1) = 128 :: List.replicate (zerosOf m.length) 0 := by
  rw [List.take_succ_cons, List.take_replicate]
  congr 2
  have : zerosOf m.length <= 63 := by unfold zerosOf; omega
  omega
 rw [h, padB]
set_option maxHeartbeats 1000000 in
theorem finish_any (cs : List Value) (m : List UInt8) (w : World) (h : HashVal cs m) (hv : Vars w) (hl : m.length <= 1000000000) :
  Calls Tryz.prog 156 #[.agg cs.toArray] w (SumIs w (sha m)) := by
 unfold SumIs;have hpos := hv.pos;generalize hn0 : w.heap.size = n0 at *;go_enter Tryz.func156, Tryz.ntmps156;have hh : ∀ o, HashAt ((w.alloc (.cells cs.toArray 179)).alloc o) n0 m := fun o => h.at_ (by omega) ((Row.new_ hn0.symm rfl).alloc _)
 have h73 := fun o => (hh o).size
 have q8 : IntKind.u64.wrap (m.length : Int) = (m.length : Int) := by rw [IntKind.wrap_u64]; omega
 go_wp2_with (go_at_call 163; refine (u64_any (8 * m.length) _).mono ?_)
 rintro e w1 ⟨vc, rfl, gc⟩;have hc1 := gives_sl gc;have oc : Off n0 vc := off_own gc.1 (by rw [asz, asz]; omega);have b1 := gc.2;rw [asz, asz, hn0] at b1;have hh1 : HashAt w1 n0 m := (hh _).below b1 (by omega);have hr2 : Row w1 (n0 + 1) 155 (Lib.byteCells (List.replicate 32 0)) := (Row.new_ (by rw [asz, hn0]) zero32b).below b1 (by omega);have hbel1 : Below n0 w w1 := (((Below.refl n0 w).alloc (by omega) _).alloc (by rw [asz]; omega) _).trans (b1.mono (by omega));have hv1 : Vars w1 := hv.step (by rw [hn0]; exact hbel1);have hs1 : n0 + 2 <= w1.heap.size := by have := b1.size; rw [asz, asz] at this; omega
 clear gc b1 hh h73 hv h
 go_wp2_with (first | refine wpList_build_eq rfl 147 _ rfl (Lib.byteCells (128 :: List.replicate 63 0)).toArray (by kernel_rfl) ?_ | refine wpList_store_any rfl 147 (.tmp 4) (.tmp 13) rfl w1.heap.size rfl (Lib.byteCells (128 :: List.replicate 63 0)) rfl 147 (Lib.byteCells (List.replicate 64 0)) (Row.new_ rfl zero64b) (info_b64.trans rfl) (by simp [Lib.byteCells_length]) (cell_oneCell _) ?_)
 intro w2 hr4 bt hs2
 try simp only [asz] at bt hs2
 replace hh1 : HashAt w2 n0 m := HashAt.but (w := w1.alloc _) (hh1.step (Below.alloc (Below.refl _ _) (Nat.le_refl _) _)) (by rw [asz]; exact bt) (by omega);replace hr2 := bt.row (hr2.alloc _) (by omega) (by omega);have hc2 : Sl w2 w1.heap.size vc (bigB (8 * m.length) 8) := (hc1.below (Below.alloc (Below.refl _ _) (Nat.le_refl _) _)).below (bt.under (Nat.le_succ _) (Nat.le_refl _));have hbel2 : Below n0 w w2 := (hbel1.alloc (by omega) _).trans (bt.under (by omega) (by omega));have hv2 : Vars w2 := (hv1.step (Below.alloc (Below.refl _ _) (Nat.le_refl _) _)).but (by rw [asz]; exact bt) (by omega);generalize hn4 : w1.heap.size = n4 at *;obtain ⟨T, hT⟩ : ∃ T, T = zerosOf m.length + 1 := ⟨_, rfl⟩;have hT2 : T = 64 - (m.length + 8) % 64 := by rw [hT, zerosOf]; omega
 obtain ⟨R, hR⟩ : ∃ R, R = (m.length + 8) % 64 := ⟨_, rfl⟩;have qa : ((m.length : Int) + 8).tmod 64 = (R : Int) := (show (((m.length + 8 : Nat)) : Int).tmod 64 = (((m.length + 8) % 64 : Nat) : Int) from rfl).trans (by omega);have qa2 : ((m.length : Int) + 8) % 64 = (R : Int) := by omega
 have qb : (64 : Int) - (R : Int) = (T : Int) := by omega
 have hTle : T <= 64 := by omega
 have hslc := slice24_to n4 0 T hTle;have h73 := hh1.size;have HT := Lib.hid hT;have hpl : ((128 :: List.replicate 63 (0 : UInt8)).take T).length = T := by simp; omega
 have hsp : Sl w2 w2.heap.size (.slice (some ⟨n4, 0, none⟩) T 64) ((128 :: List.replicate 63 (0 : UInt8)).take T) := Sl.of_row hr4 (by omega) hpl hTle (by unfold maxLen; omega) (fun k hk => by
  rw [Nat.zero_add, byteCells_get _ k (by rw [hpl] at hk; simp; omega)]; simp)
 have hml := hl;clear hT hT2 hR hc1 hv1 hbel1;generalize hpad : (128 :: List.replicate 63 (0 : UInt8)).take T = pd at *
 go_wp2_with (go_at_call 155; refine (add_any n0 m pd w2.heap.size _ w2 hh1 hsp (Nat.le_refl _) (Off.at_ (by omega)) hv2 (by omega)).mono ?_)
 rintro e w3 ⟨rfl, hh3, b3⟩;have hc3 : Sl w3 n4 vc (bigB (8 * m.length) 8) := hc2.but oc (b3.mono (by omega));have hr3 := b3.row hr2 (by omega) (by omega);have hv3 := hv2.but b3 (by omega);have hbel3 : Below n0 w w3 := hbel2.trans (b3.under (by omega) (Nat.le_refl _));have hs3 := b3.size
 go_wp2_with (go_at_call 155; refine (add_any n0 _ (bigB (8 * m.length) 8) n4 _ w3 hh3 hc3 (by omega) oc hv3 (by rw [List.length_append, bigB_length]; omega)).mono ?_)
 rintro e w4 ⟨rfl, hh4, b4⟩;rw [<- hpad, HT.out, pad_split] at hh4;have hr5 := b4.row hr3 (by omega) (by omega);have hbel4 : Below n0 w w4 := hbel3.trans (b4.under (by omega) (Nat.le_refl _));have hs4 := b4.size;have hs5 : n0 + 2 <= w4.heap.size := by omega
 clear hc3 hr3 hv3 hbel3 hs3 b4 b3 hh3 hc2 hr2 hv2 hbel2 hh1 hsp hr4 bt hslc h73 hs4 hs2 qa qa2 qb;go_wp2;have hword := fun k hk => hh4.word k hk
 have hw5 : ∀ k (hk : k < 8), (w4.alloc (.cells (Lib.byteCells (List.replicate 32 0)).toArray 155)).cell? ⟨n0, 1 + k, none⟩ = some (.int .u32 (((states (padB m) ((padB m).length / 64)).list[k]'hk).toNat : Int)) := fun k hk => (hh4.step (Below.alloc (Below.refl _ _) (Nat.le_refl _) _)).word k hk
 have HS : Hid (outB (states (padB m) ((padB m).length / 64)) = sha m) := Lib.hid rfl;generalize states (padB m) ((padB m).length / 64) = st at *;have hbel5 : Below n0 w (w4.alloc (.cells (Lib.byteCells (List.replicate 32 0)).toArray 155)) := hbel4.alloc (by omega) _;have hr6 : Row (w4.alloc (.cells (Lib.byteCells (List.replicate 32 0)).toArray 155)) w4.heap.size 155 (Lib.byteCells (List.replicate 32 0)) := Row.new_ rfl rfl;have hr7 : Row (w4.alloc (.cells (Lib.byteCells (List.replicate 32 0)).toArray 155)) (n0 + 1) 155 (Lib.byteCells (List.replicate 32 0)) := hr5.alloc _;generalize hn6 : w4.heap.size = n6 at *;clear hh4 hword hr5 hbel4;go_loopw [24] (fun i wr => ∃ k : Nat, k <= 32 /\ i = .int .i64 k /\ Row wr n6 155 (Lib.byteCells ((outB st).take k ++ List.replicate (32 - k) 0)) /\ Row wr (n0 + 1) 155 (Lib.byteCells (List.replicate 32 0)) /\ Hid (∀ k (hk : k < 8), wr.cell? ⟨n0, 1 + k, none⟩ = some (.int .u32 ((st.list[k]'hk).toNat : Int))) /\ Below n0 w wr) (fun i _ => 32 - (intOf i).toNat)
 case atStart => exact ⟨0, Nat.zero_le _, rfl, hr6, hr7, Lib.hid hw5, hbel5⟩
 case round =>
  clear hw5 hbel5 hr6 hr7;obtain ⟨k, hk, rfl, hr6, hr7, HW, hbel⟩ := hrel
  by_cases hlt : k < 32
  ·have hlt0 := hlt;have hcx := hr6.cell k;rw [byteCells_get _ _ (by simp [outB_length]; omega)] at hcx;have hf := hr6.free k;have hset := hr6.set_ k (.int .u8 (((outB st)[k]'(by rw [outB_length]; exact hlt)).toNat : Int));have hbs : (Lib.byteCells ((outB st).take k ++ List.replicate (32 - k) 0)).set k (.int .u8 (((outB st)[k]'(by rw [outB_length]; exact hlt)).toNat : Int)) = Lib.byteCells ((outB st).take (k + 1) ++ List.replicate (32 - (k + 1)) 0) := by
    rw [<- setk (outB st) k 32 (outB_length st) hlt _ rfl];simp [Lib.byteCells, List.map_set]
   rw [hbs] at hset;obtain ⟨j, hj⟩ : ∃ j, j = k / 4 := ⟨_, rfl⟩;obtain ⟨r, hr⟩ : ∃ r, r = k % 4 := ⟨_, rfl⟩;obtain ⟨s8, hs8⟩ : ∃ s8, s8 = 24 - 8 * r := ⟨_, rfl⟩;have e1 : (k : Int).tdiv 4 = (j : Int) := (show (k : Int).tdiv 4 = ((k / 4 : Nat) : Int) from rfl).trans (by omega);have e2 : (k : Int) / 4 = (j : Int) := by omega
   have e3 : (k : Int).tmod 4 = (r : Int) := (show (k : Int).tmod 4 = ((k % 4 : Nat) : Int) from rfl).trans (by omega);have e4 : (k : Int) % 4 = (r : Int) := by omega
   have e5 : (24 : Int) - 8 * (r : Int) = (s8 : Int) := by omega
   have hj8 : j < 8 := by omega
   have hr4 : r < 4 := by omega
   have hc := HW.out j hj8;obtain ⟨x, hx⟩ : ∃ x, x = st.list[j]'hj8 := ⟨_, rfl⟩;rw [<- hx] at hc;have hout := outB_get st k hlt
   have HX : Hid (((x.toNat : Int) / 2 ^ s8) % 256 = (((outB st)[k]'(by rw [outB_length]; exact hlt)).toNat : Int)) := Lib.hid (by
    have e6 : s8 = 8 * (3 - k % 4) := by omega
    rw [hout, e6, byte_shr];subst hj;rw [hx]
    rfl)
   have HSET := Lib.hid hset;clear hout hset hbs hx hj hr hs8;generalize ((outB st)[k]'(by rw [outB_length]; exact hlt)) = y at *;go_wp2
   go_roundw
   case rel =>
    refine ⟨k + 1, by omega, by go_num, ?_, hr7.other ⟨n6, k, none⟩ _ (by show n0 + 1 ≠ n6; omega), Lib.hid (fun i hi => (World.cell?_setCell_other _ _ _ _ (by intro e; cases e; omega)).trans (HW.out i hi)), hbel.setCell (p := ⟨n6, k, none⟩) (by show n0 <= n6; omega) _⟩;have := HSET.out;rw [<- HX.out] at this;exact this
   case measure => simp [intOf]; omega
  ·obtain rfl : k = 32 := by omega
   rw [List.take_of_length_le (by rw [outB_length]; omega), Nat.sub_self, List.replicate_zero, List.append_nil, HS.out] at hr6
   go_wp2_with (first | refine wpList_load_any rfl 155 (.tmp 6) rfl n6 rfl 155 (Lib.byteCells (sha m)) (.array 32 5) hr6 Tryz.underlying155 rfl (info_b32.trans (size_bytes _ _ (sha_length m))) ?_ | refine wpList_store_any rfl 155 (.tmp 2) (.tmp 41) rfl (n0 + 1) rfl (Lib.byteCells (sha m)) rfl 155 _ hr7 (info_b32.trans (size_bytes _ _ (sha_length m))) (by simp [Lib.byteCells_length, sha_length]) (cell_oneCell _) ?_)
   intro w9 hr9 b9 _;have hb9 : Below n0 w w9 := hbel.trans (b9.under (Nat.le_trans (Nat.le_add_right n0 1) (Nat.le_of_lt hr7.lt)) (by omega));go_wp2;exact ret_row Tryz.results156 rfl rfl hr9 Tryz.underlying155 rfl (info_b32.trans (size_bytes _ _ (sha_length m))) ⟨rfl, hb9⟩
theorem info_hash : (Tryz.prog.info? 179).map (·.size) = some 74 := by kernel_rfl
def hashZero : List Value := .bool false :: (wordCells (List.replicate 8 0) ++ (Lib.byteCells (List.replicate 64 0) ++ [.int .i64 0]))
theorem zero59 (w : World) : (zeroValue 179).run Tryz.prog w = .ok (.agg hashZero.toArray) w :=
 (zero_of_info (t := 179) (v := .agg hashZero.toArray) (n := 74) (by kernel_rfl)).1 w
theorem hashZero_length : hashZero.length = 74 := by decide
set_option maxHeartbeats 400000 in
theorem sum_any (g : Nat) (m : List UInt8) (w : World) (h : HashAt w g m) (hv : Vars w) (hl : m.length <= 1000000000) :
  Calls Tryz.prog 141 #[.pointer (some ⟨g, 0, none⟩)] w (SumIs w (sha m)) := by
 unfold SumIs;have hg := h.lt;go_enter Tryz.func141, Tryz.ntmps141
 go_wp2_with (go_at_call 154; refine (isMade_yes g m _ (h.step (Below.alloc (Below.refl _ _) (Nat.le_refl _) _))).mono ?_)
 rintro e w1 ⟨rfl, hw1⟩;have hh1 : HashAt w1 g m := by rw [hw1]; exact h.step (Below.alloc (Below.refl _ _) (Nat.le_refl _) _)
 have hr1 : Row w1 w.heap.size 155 (Lib.byteCells (List.replicate 32 0)) := by rw [hw1]; exact Row.new_ rfl zero32b
 have hb1 : Below w.heap.size w w1 := by rw [hw1]; exact Below.alloc (Below.refl _ _) (Nat.le_refl _) _
 have hv1 := hv.step hb1;clear hw1 h hv;obtain ⟨cs, hcv, hrow, hcl, hco⟩ := HashVal.of hh1
 go_wp2_with (first | refine wpList_load_any rfl 179 (.tmp 8) rfl g rfl 179 cs _ hrow Tryz.underlying179 rfl (info_hash.trans (by rw [hcl])) ?_ | (go_at_call 156; refine (finish_any cs m _ hcv hv1 hl).mono ?_))
 rintro e w2 ⟨rfl, b2⟩;have hr2 := hr1.below b2 hr1.lt;have hb2 := Below.chain hb1 b2
 go_wp2_with (refine wpList_store_any rfl 155 (.tmp 2) (.tmp 10) rfl w.heap.size rfl (Lib.byteCells (sha m)) rfl 155 _ hr2 (info_b32.trans (size_bytes _ _ (sha_length m))) (by simp [Lib.byteCells_length, sha_length]) (cell_oneCell _) ?_)
 intro w3 hr3 b3 _;have hb3 : Below w.heap.size w w3 := hb2.trans (b3.under (Nat.le_of_lt hr2.lt) (Nat.le_refl _));go_wp2;exact ret_row Tryz.results141 rfl rfl hr3 Tryz.underlying155 rfl (info_b32.trans (size_bytes _ _ (sha_length m))) ⟨rfl, hb3⟩
theorem wpList_alloc_any {P : Program} {ops : Array Oper} {rest : List Oper} {o : Oper} {a : Act} {w : World} {Q : Exit -> Act -> World -> Prop} (hgd : o.guard = none) (t : TypeId) (ho : o.op = .alloc t) (cs : Array Value)
  (hz : ∀ w, (zeroValue t).run P w = .ok (.agg cs) w)
  (h : wpList P ops Q rest (a.put o.dst (.pointer (some ⟨w.heap.size, 0, none⟩))) (w.alloc (.cells cs t))) : wpList P ops Q (o :: rest) a w :=
 wpList_plain hgd fun K hK => by
  have hk := hK _ _ h;unfold Oper.wp execOp;simp only [ho];simp [go_sem, hz, Result.andThen];exact hk
theorem make0_run (n : Nat) (hn : n <= 281474976710656) (u : World) : (Instr.makeSlice 23 (.int .i64 0) (.int .i64 (n : Int))).run Tryz.prog u =
  .ok (.slice (some ⟨u.heap.size, 0, none⟩) 0 n) (u.alloc (.cells (Lib.byteCells (List.replicate n 0)).toArray 5)) := by
 obtain ⟨i0, hi, hz0, hz1, hz2⟩ := info_parts info_u8;have h := run_make (P := Tryz.prog) u 23 5 i0 (.int .u8 0) Tryz.underlying23 hi hz0 .i64 .i64 (0 : Int) (n : Int) (by omega) (by omega) (by rw [hz2]; omega) (by omega);have e : (n : Int).toNat = n := by omega
 rw [e] at h;rw [<- made_zero]
 simpa [hz1, Value.cells] using h
theorem PartsO.solo {w : World} {B g q n : Nat} {T : TypeId} {u : Value} {bs : List UInt8} (hr : Row w q T [u]) (hq : q < B) (hg : q ≠ g) (hs : Sl w B u bs) (ho : Off g u) : PartsO w B g (.slice (some ⟨q, 0, none⟩) 1 n) [bs] :=
 ⟨_, n, rfl, fun _ => ⟨q, 0, rfl, hq, hg, fun i hi => by
  obtain rfl : i = 0 := by simp at hi; omega
  exact ⟨u, hr.cell 0, hs, ho⟩⟩⟩
def TrueIs (w : World) (e : Ending) (w' : World) : Prop := e = .returned (.bool true) /\ Below w.heap.size w w'
open Go.ChangeShapes Go.WideShapes Go.ChangeAt Go.RowKit
set_option maxRecDepth 100000
theorem own : ownKnob Tryz.prog.godebug = none := by kernel_rfl
theorem laidOut : laidOutB Tryz.prog = true := by kernel_rfl
theorem cells_u8 : Tryz.prog.cellsOf 5 = 1 := by kernel_rfl
section
variable {H : Type} {enc : TypeId × Value -> H} {P : Program}
theorem trodAll_below (hl : laidOutB P = true) {ts : List TypeId} (hts : ts.all (fun t => P.readableRec t && decide (t < P.types.size)) = true) {W W' : World} (hb : Below W.heap.size W W') :
  ∀ {vs : List Value} {ds : List (DataW H)} {ps : List MemPlace}, DataW.TrodAll enc P W 0 (fun _ => true) true ts vs ds ps -> (∀ x ∈ ps, x.block < W.heap.size) ->
   DataW.TrodAll enc P W' 0 (fun b => decide (b < W.heap.size)) true ts vs ds ps := by
 induction ts with
 | nil =>
  intro vs ds ps h _;obtain ⟨rfl, rfl, rfl⟩ := trodAll_nil h;exact trodAll_mk0
 | cons t ts ih =>
  intro vs ds ps h hlt;obtain ⟨v0, vs0, d0, ds0, p0, q0, rfl, rfl, rfl, h0, r0⟩ := trodAll_cons h;simp only [List.all_cons, Bool.and_eq_true, decide_eq_true_eq] at hts;exact trodAll_cons_mk (Below.trod hl hts.1.1 hts.1.2 h0 hb (fun x hx => hlt x (List.mem_append_left _ hx))) (ih (by simpa using hts.2) r0 (fun x hx => hlt x (List.mem_append_right _ hx)))
theorem law_post {f : Func} {s : ChangeSpec} {W W' : World} {args : Array Value} {ds : List (DataW H)} {before : List MemPlace} (hl : laidOutB P = true) (hbool : P.underlying 4 = some .bool)
  (hts : f.params.toList.all (fun t => P.readableRec t && decide (t < P.types.size)) = true) (hret : f.resultTypes = #[4]) (hv : s.vars = [])
  (hres : (s.fn H ds).results = [.lit (.bool true)]) (hargs : (s.fn H ds).args = ds) (hvars : (s.fn H ds).vars = [])
  (hW : DataW.Whole enc P f.params.toList s.vars false W args.toList ds [] before) (hb : Below W.heap.size W W') :
  s.post enc P f false true false false W args (.bool true) W' := by
 have hlt : ∀ x ∈ before, x.block < W.heap.size := fun x hx => hW.lt x hx
 have hW0 := hW;obtain ⟨p, q, hA, hV, rfl, _, _⟩ := hW;have hq : q = [] := by
  rw [hv] at hV;exact (trodVars_none hV).2
 subst hq;rw [List.append_nil] at hlt;refine ⟨ds, [], p ++ [], [], p, [], hW0, ?_, ?_, ?_, hb.frame _, fun h => by cases h⟩
 ·rw [List.append_nil, hres, hret];exact trodAll_cons_mk (shut_bool hbool true) trodAll_mk0
 ·rw [List.append_nil, hargs];exact trodAll_below hl hts hb hA hlt
 ·rw [List.append_nil, hvars, hv];exact rfl
theorem open_bytes {W : World} {base : Nat} {t e : TypeId} {v : Value} {d : DataW H} {ps : List MemPlace} (ht : P.underlying t = some (.slice e)) (he : P.underlying e = some (.int .u8)) (hc : P.cellsOf e = 1)
  (hval : Value.okWide P W .any base t v) (h : DataW.Trod enc P W 0 (fun _ => true) true t v d ps) :
  ∃ bs : List UInt8, Sl W W.heap.size v bs /\ ((d = .nil /\ bs = []) ∨ ∃ el sp, d = .slice el sp /\ el.length = bs.length) := by
 obtain ⟨a0, len, cap, rfl⟩ := okWide_slice ht hval;obtain ⟨fuel, hf⟩ := h
 rcases open_ints ht he hc hf with ⟨hcs, hx⟩ | ⟨a, len', cap', zs, hcs, _, hl, hm, hz, hx, hcell, hwz⟩
 ·simp [Value.cells] at hcs;obtain ⟨rfl, rfl, rfl⟩ := hcs;simp only [Prod.mk.injEq] at hx;exact ⟨[], Sl.nil_, .inl ⟨hx.1, rfl⟩⟩
 ·simp [Value.cells] at hcs;obtain ⟨rfl, rfl, rfl⟩ := hcs;simp only [Prod.mk.injEq] at hx;have hzl : zs.length = cap := by simpa using hz
  have hbl : ((zs.take len).map fun z => UInt8.ofNat z.toNat).length = len := by simp; omega
  refine ⟨(zs.take len).map fun z => UInt8.ofNat z.toNat, ⟨some a, cap, by rw [hbl], by omega, hm, fun hn => ?_⟩, .inr ⟨_, _, hx.1, by simp [lits]⟩⟩;rw [hbl] at hn;have h0 := hcell 0 (by omega);have hsp : a.spot = none := by
   simp only [Addr.add, if_true, World.cell?] at h0
   split at h0
   ·split at h0
    ·cases h0
    ·rename_i hns; simpa using hns
   ·cases h0
  obtain ⟨b, off, sp⟩ := a;simp only at hsp;subst hsp;have hb : b < W.heap.size := by
   have := World.block_lt_of_cell? W _ h0
   simpa [Addr.add] using this
  refine ⟨b, off, rfl, hb, fun k hk => ?_⟩;rw [hbl] at hk;have hck := hcell k (by omega);rw [addr_add] at hck;rw [hck];have hkz : k < zs.length := by omega
  have hwf := hwz zs[k] (List.getElem_mem hkz);have hg : zs.getD k 0 = zs[k] := by simp [List.getD, List.getElem?_eq_getElem hkz]
  have hr : 0 <= zs[k] /\ zs[k] <= 255 := by simpa [Lit.wf, IntKind.min, IntKind.max, IntKind.signed, IntKind.bits] using hwf
  have hu : ((UInt8.ofNat zs[k].toNat).toNat : Int) = zs[k] := by
   have : (UInt8.ofNat zs[k].toNat).toNat = zs[k].toNat := by simp; omega
   rw [this]; omega
  rw [hg];simp only [List.getElem_map, List.getElem_take];rw [hu]
end
end Go.Proofs.YtdakbipiifkmfaaGreatDoor
