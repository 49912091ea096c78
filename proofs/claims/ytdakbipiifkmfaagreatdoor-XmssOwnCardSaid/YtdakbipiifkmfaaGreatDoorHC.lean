import Derived.WalkKit
import Derived.Test.YtdakbipiifkmfaaGreatDoorProg
import Derived.WalkSpells
import Derived.WalkLawsBesides
import Derived.Lib.UnsafeStr
import Derived.Lib.Hide
import Derived.Laws.BytesArg
import Derived.Deep.Draws
import Derived.RegionTactic
import Derived.ChangeAlike
import Derived.Laws.AppendOwnNone
import Derived.BigQuiet
import Derived.Deep.QuietTactic
import Derived.Deep.MidRow
import Derived.Deep.WholeRow
import Derived.BigRegion
import Derived.Deep.RegionHeld3
import Derived.StillTailTactics
import Derived.Laws.CopyOwn
import Derived.Deep.RegionLaw
import Derived.DeepKeys
import Derived.Lib.SmallJoins
import Derived.Test.YtdakbipiifkmfaaGreatDoorHB
namespace Go.Proofs.YtdakbipiifkmfaaGreatDoor
open Go.RowKit
set_option maxRecDepth 100000
def rotl (x : UInt64) (n : Nat) : UInt64 := UInt64.ofNat ((x.toNat * 2 ^ n % 18446744073709551616) ||| (x.toNat / 2 ^ (64 - n)))
theorem wraps_u64 (m : Int) (h0 : 0 <= m) (h1 : m < 18446744073709551616) : IntKind.u64.wrap m = m := by rw [IntKind.wrap_u64]; omega
theorem u64_and (a b : UInt64) : bits .and .u64 a.toNat b.toNat = ((a &&& b).toNat : Int) := by
  rw [(bits_nat .u64 64 (by decide) wraps_u64 _ _ a.toNat_lt b.toNat_lt).1]; simp
theorem bv_lane (a : UInt64) : BitVec.ofInt 64 (a.toNat : Int) = a.toBitVec := by
  apply BitVec.eq_of_toNat_eq;have := a.toNat_lt;simp
theorem u64_xor (a b : UInt64) : bits .xor .u64 (a.toNat : Int) (b.toNat : Int) = ((a ^^^ b).toNat : Int) := by
  have hx := (a ^^^ b).toNat_lt;show IntKind.u64.wrap (((BitVec.ofInt 64 (a.toNat : Int) ^^^ BitVec.ofInt 64 (b.toNat : Int)).toNat : Nat) : Int) = _;rw [bv_lane, bv_lane, show (a.toBitVec ^^^ b.toBitVec).toNat = (a ^^^ b).toNat from rfl, wraps_u64 _ (by omega) (by omega)]
theorem or_lt64 {a b : Nat} (ha : a < 18446744073709551616) (hb : b < 18446744073709551616) : a ||| b < 18446744073709551616 := Nat.or_lt_two_pow (n := 64) ha hb
theorem div_lt64 (x : UInt64) (n : Nat) : x.toNat / 2 ^ n < 18446744073709551616 := Nat.lt_of_le_of_lt (Nat.div_le_self _ _) x.toNat_lt
theorem ofNat64 {n : Nat} (h : n < 18446744073709551616) : (UInt64.ofNat n).toNat = n := by simp; omega
theorem u64_rotl (x : UInt64) (n : Nat) : bits .or .u64 (((x.toNat : Int) * 2 ^ n) % 18446744073709551616) ((x.toNat : Int) / 2 ^ (64 - n)) = ((rotl x n).toNat : Int) := by
  have h1 := div_lt64 x (64 - n);have h2 : x.toNat * 2 ^ n % 18446744073709551616 < 18446744073709551616 := Nat.mod_lt _ (by decide);have e1 : (x.toNat : Int) / 2 ^ (64 - n) = ((x.toNat / 2 ^ (64 - n) : Nat) : Int) := by simp
  have e2 : ((x.toNat : Int) * 2 ^ n) % 18446744073709551616 = ((x.toNat * 2 ^ n % 18446744073709551616 : Nat) : Int) := by simp
  rw [e1, e2, (bits_nat .u64 64 (by decide) wraps_u64 _ _ h2 h1).2, rotl, ofNat64 (or_lt64 h2 h1)]
def laneCells (l : List UInt64) : List Value := l.map fun x => .int .u64 (x.toNat : Int)
theorem kgetD_get {α : Type} (l : List α) (i : Nat) (d : α) (h : i < l.length) : l.getD i d = l[i] := by simp [List.getD, List.getElem?_eq_getElem h]
def kC : List UInt64 := [
  0x0000000000000001, 0x0000000000008082, 0x800000000000808a, 0x8000000080008000,
  0x000000000000808b, 0x0000000080000001, 0x8000000080008081, 0x8000000000008009,
  0x000000000000008a, 0x0000000000000088, 0x0000000080008009, 0x000000008000000a,
  0x000000008000808b, 0x800000000000008b, 0x8000000000008089, 0x8000000000008003,
  0x8000000000008002, 0x8000000000000080, 0x000000000000800a, 0x800000008000000a,
  0x8000000080008081, 0x8000000000008080, 0x0000000080000001, 0x8000000080008008]
def lane (l : List UInt64) (i : Nat) : UInt64 := l.getD i 0
def colX (l : List UInt64) (x : Nat) : UInt64 := lane l x ^^^ lane l (x + 5) ^^^ lane l (x + 10) ^^^ lane l (x + 15) ^^^ lane l (x + 20)
def mixOf (l : List UInt64) (d0 d1 d2 d3 d4 : UInt64) : List UInt64 := [
  lane l 0 ^^^ d0, rotl (lane l 6 ^^^ d1) 44, rotl (lane l 12 ^^^ d2) 43, rotl (lane l 18 ^^^ d3) 21, rotl (lane l 24 ^^^ d4) 14,
  rotl (lane l 3 ^^^ d3) 28, rotl (lane l 9 ^^^ d4) 20, rotl (lane l 10 ^^^ d0) 3, rotl (lane l 16 ^^^ d1) 45, rotl (lane l 22 ^^^ d2) 61,
  rotl (lane l 1 ^^^ d1) 1, rotl (lane l 7 ^^^ d2) 6, rotl (lane l 13 ^^^ d3) 25, rotl (lane l 19 ^^^ d4) 8, rotl (lane l 20 ^^^ d0) 18,
  rotl (lane l 4 ^^^ d4) 27, rotl (lane l 5 ^^^ d0) 36, rotl (lane l 11 ^^^ d1) 10, rotl (lane l 17 ^^^ d2) 15, rotl (lane l 23 ^^^ d3) 56,
  rotl (lane l 2 ^^^ d2) 62, rotl (lane l 8 ^^^ d3) 55, rotl (lane l 14 ^^^ d4) 39, rotl (lane l 15 ^^^ d0) 41, rotl (lane l 21 ^^^ d1) 2]
def mixL (l : List UInt64) : List UInt64 :=
  mixOf l (colX l 4 ^^^ rotl (colX l 1) 1) (colX l 0 ^^^ rotl (colX l 2) 1) (colX l 1 ^^^ rotl (colX l 3) 1) (colX l 2 ^^^ rotl (colX l 4) 1) (colX l 3 ^^^ rotl (colX l 0) 1)
theorem mixL_length (l : List UInt64) : (mixL l).length = 25 := rfl
def andn (a b : UInt64) : UInt64 := a &&& ~~~b
theorem u64_andn (a b : UInt64) : bits .andNot .u64 (a.toNat : Int) (b.toNat : Int) = ((andn a b).toNat : Int) := by
  have hx := (andn a b).toNat_lt;show IntKind.u64.wrap (((BitVec.ofInt 64 (a.toNat : Int) &&& ~~~BitVec.ofInt 64 (b.toNat : Int)).toNat : Nat) : Int) = _;rw [bv_lane, bv_lane, show (a.toBitVec &&& ~~~b.toBitVec).toNat = (andn a b).toNat from rfl, wraps_u64 _ (by omega) (by omega)]
def chi5 (b0 b1 b2 b3 b4 : UInt64) : List UInt64 := [b0 ^^^ andn b2 b1, b1 ^^^ andn b3 b2, b2 ^^^ andn b4 b3, b3 ^^^ andn b0 b4, b4 ^^^ andn b1 b0]
def rowX (b : List UInt64) (y : Nat) : List UInt64 := chi5 (lane b y) (lane b (y + 1)) (lane b (y + 2)) (lane b (y + 3)) (lane b (y + 4))
def chiL (b : List UInt64) : List UInt64 := rowX b 0 ++ rowX b 5 ++ rowX b 10 ++ rowX b 15 ++ rowX b 20
theorem chiL_length (b : List UInt64) : (chiL b).length = 25 := rfl
def iotaL (l : List UInt64) (c : UInt64) : List UInt64 := l.set 0 (lane l 0 ^^^ c)
def permK (s : List UInt64) : Nat -> List UInt64
  | 0 => s
  | n + 1 => iotaL (chiL (mixL (permK s n))) (lane kC n)
def permL (s : List UInt64) : List UInt64 := permK s 24
theorem permK_length (s : List UInt64) (h : s.length = 25) (n : Nat) : (permK s n).length = 25 := by
  cases n with
  | zero => exact h
  | succ n => simp [permK, iotaL, chiL_length]
theorem permL_length (s : List UInt64) (h : s.length = 25) : (permL s).length = 25 := permK_length s h 24
structure Sp where
  l : List UInt64
  at_ : Nat
def Sp.next (s : Sp) (rate : Nat) : Sp := if s.at_ = rate then ⟨permL s.l, 1⟩ else ⟨s.l, s.at_ + 1⟩
def maskL (l : List UInt64) (p : Nat) (b : UInt8) : List UInt64 := l.set (p / 8) (lane l (p / 8) ^^^ UInt64.ofNat (b.toNat * 2 ^ (8 * (p % 8))))
def byteL (l : List UInt64) (p : Nat) : UInt8 := UInt8.ofNat ((lane l (p / 8)).toNat / 2 ^ (8 * (p % 8)))
def Sp.put (s : Sp) (rate : Nat) (b : UInt8) : Sp := ⟨maskL (s.next rate).l ((s.next rate).at_ - 1) b, (s.next rate).at_⟩
def Sp.puts (s : Sp) (rate : Nat) : List UInt8 -> Sp
  | [] => s
  | b :: r => (s.put rate b).puts rate r
def Sp.outs (s : Sp) (rate : Nat) : Nat -> List UInt8
  | 0 => []
  | n + 1 => byteL (s.next rate).l ((s.next rate).at_ - 1) :: (s.next rate).outs rate n
def Sp.behind (s : Sp) (rate : Nat) : Nat -> Sp
  | 0 => s
  | n + 1 => (s.next rate).behind rate n
def zeroL : List UInt64 := List.replicate 25 0
def absorbL (rate : Nat) (suffix : UInt8) (m : List UInt8) : Sp := ⟨maskL ((Sp.mk zeroL 0).puts rate (m ++ [suffix])).l (rate - 1) 128, rate⟩
def spongeL (rate : Nat) (suffix : UInt8) (m : List UInt8) (n : Nat) : List UInt8 := (absorbL rate suffix m).outs rate n
theorem lane_set_eq (l : List UInt64) (k : Nat) (x : UInt64) (h : k < l.length) : lane (l.set k x) k = x := by
  simp [lane, List.getD, h]
theorem set_lane (l : List UInt64) (k : Nat) : l.set k (lane l k) = l := by
  apply List.ext_getElem?;intro i
  by_cases h : k = i
  · subst h
    by_cases hk : k < l.length
    · rw [List.getElem?_set_self hk, lane, kgetD_get l k 0 hk, List.getElem?_eq_getElem hk]
    · rw [List.getElem?_eq_none (by simpa using hk), List.getElem?_eq_none (by simpa using hk)]
  · rw [List.getElem?_set_ne h]
theorem byte_pow (b : UInt8) (n : Nat) (h : n <= 56) : b.toNat * 2 ^ n < 18446744073709551616 := by
  have hb : b.toNat < 256 := b.toNat_lt;have h1 : 2 ^ n <= 2 ^ 56 := Nat.pow_le_pow_right (by decide) h
  calc b.toNat * 2 ^ n <= 255 * 2 ^ 56 := Nat.mul_le_mul (by omega) h1
    _ < 18446744073709551616 := by decide
theorem byte_toNat (b : UInt8) (n : Nat) (h : n <= 56) : (UInt64.ofNat (b.toNat * 2 ^ n)).toNat = b.toNat * 2 ^ n := ofNat64 (byte_pow b n h)
theorem xor_bytes (a b : UInt8) (n : Nat) (h : n <= 56) : UInt64.ofNat (a.toNat * 2 ^ n) ^^^ UInt64.ofNat (b.toNat * 2 ^ n) = UInt64.ofNat ((a ^^^ b).toNat * 2 ^ n) := by
  apply UInt64.toNat_inj.1;rw [UInt64.toNat_xor, byte_toNat a n h, byte_toNat b n h, byte_toNat (a ^^^ b) n h, UInt8.toNat_xor];apply Nat.eq_of_testBit_eq;intro i;rw [Nat.testBit_xor, Nat.testBit_mul_two_pow, Nat.testBit_mul_two_pow, Nat.testBit_mul_two_pow, Nat.testBit_xor]
  by_cases hi : n <= i
  · simp [hi]
  · simp [hi]
def layX (l : List UInt64) (p : Nat) : List UInt8 -> List UInt64
  | [] => l
  | b :: r => layX (maskL l p b) (p + 1) r
theorem maskL_length (l : List UInt64) (p : Nat) (b : UInt8) : (maskL l p b).length = l.length := List.length_set
theorem layX_length (r : List UInt8) : ∀ (l : List UInt64) (p : Nat), (layX l p r).length = l.length := by
  induction r with
  | nil => intro l p; rfl
  | cons b r ih => intro l p; rw [layX, ih, maskL_length]
theorem layX_append (r s : List UInt8) : ∀ (l : List UInt64) (p : Nat), layX l p (r ++ s) = layX (layX l p r) (p + r.length) s := by
  induction r with
  | nil => intro l p; rfl
  | cons b r ih => intro l p; rw [List.cons_append, layX, layX, ih, List.length_cons, Nat.add_assoc, Nat.add_comm 1]
theorem layX_take (r : List UInt8) (l : List UInt64) (p k : Nat) (h : k < r.length) : layX l p (r.take (k + 1)) = maskL (layX l p (r.take k)) (p + k) r[k] := by
  rw [List.take_succ_eq_append_getElem h, layX_append, List.length_take, Nat.min_eq_left (Nat.le_of_lt h)];rfl
theorem maskL_zero (l : List UInt64) (p : Nat) : maskL l p 0 = l := by
  have h0 : UInt64.ofNat ((0 : UInt8).toNat * 2 ^ (8 * (p % 8))) = 0 := by
    rw [show (0 : UInt8).toNat = 0 from rfl, Nat.zero_mul]; rfl
  rw [maskL, h0, UInt64.xor_zero, set_lane]
theorem layX_zeros (n : Nat) : ∀ (l : List UInt64) (p : Nat), layX l p (List.replicate n 0) = l := by
  induction n with
  | zero => intro l p; rfl
  | succ n ih => intro l p; rw [List.replicate_succ, layX, maskL_zero, ih]
theorem maskL_maskL (l : List UInt64) (p : Nat) (h : p / 8 < l.length) (a b : UInt8) : maskL (maskL l p a) p b = maskL l p (a ^^^ b) := by
  unfold maskL;rw [lane_set_eq _ _ _ h, List.set_set, UInt64.xor_assoc, xor_bytes a b _ (by omega)]
theorem puts_lay (rate : Nat) (r : List UInt8) : ∀ (l : List UInt64) (a : Nat), a + r.length <= rate -> (Sp.mk l a).puts rate r = ⟨layX l a r, a + r.length⟩ := by
  induction r with
  | nil => intro l a _; rfl
  | cons b r ih =>
    intro l a h;rw [List.length_cons] at h;have hn : (Sp.mk l a).next rate = ⟨l, a + 1⟩ := if_neg (by show ¬ a = rate; omega);rw [Sp.puts, Sp.put, hn];show Sp.puts ⟨maskL l (a + 1 - 1) b, a + 1⟩ rate r = _;rw [Nat.add_sub_cancel, ih _ _ (by omega), layX, List.length_cons, Nat.add_assoc, Nat.add_comm 1]
theorem puts_full (rate : Nat) (hr : 0 < rate) (l : List UInt64) (r : List UInt8) (h : r ≠ []) : (Sp.mk l rate).puts rate r = (Sp.mk (permL l) 0).puts rate r := by
  cases r with
  | nil => exact absurd rfl h
  | cons b r =>
    have h1 : (Sp.mk l rate).next rate = ⟨permL l, 1⟩ := if_pos rfl;have h2 : (Sp.mk (permL l) 0).next rate = ⟨permL l, 1⟩ := if_neg (by show ¬ 0 = rate; omega);rw [Sp.puts, Sp.puts, Sp.put, Sp.put, h1, h2]
theorem puts_app (rate : Nat) (l m : List UInt8) : ∀ s : Sp, s.puts rate (l ++ m) = (s.puts rate l).puts rate m := by
  induction l with
  | nil => intro s; rfl
  | cons b r ih => intro s; exact ih _
def absJ (rate : Nat) (x : List UInt8) : Nat -> List UInt64
  | 0 => zeroL
  | j + 1 => permL (layX (absJ rate x j) 0 ((x.drop (j * rate)).take rate))
theorem absJ_length (rate : Nat) (x : List UInt8) (j : Nat) : (absJ rate x j).length = 25 := by
  induction j with
  | zero => rfl
  | succ j ih => exact permL_length _ (by rw [layX_length, ih])
theorem puts_block (rate : Nat) (hr : 0 < rate) (x : List UInt8) : ∀ (j : Nat) (t : List UInt8), j * rate <= x.length -> t ≠ [] -> t.length <= rate ->
    ((Sp.mk zeroL 0).puts rate (x.take (j * rate))).puts rate t = ⟨layX (absJ rate x j) 0 t, t.length⟩ := by
  intro j
  induction j with
  | zero => intro t _ _ h; rw [Nat.zero_mul, List.take_zero]; exact (puts_lay rate t zeroL 0 (by omega)).trans (by rw [Nat.zero_add]; rfl)
  | succ j ih =>
    intro t hj hne ht;have hjr : (j + 1) * rate = j * rate + rate := Nat.succ_mul j rate;rw [hjr] at hj ⊢;have hbl : ((x.drop (j * rate)).take rate).length = rate := by simp; omega
    rw [List.take_add, puts_app, ih ((x.drop (j * rate)).take rate) (by omega) (by intro e; rw [e] at hbl; simp at hbl; omega) (by omega), hbl, puts_full rate hr _ t hne];exact (puts_lay rate t _ 0 (by omega)).trans (by rw [Nat.zero_add]; rfl)
def kpadB (rate : Nat) (t : List UInt8) : List UInt8 := (t ++ List.replicate (rate - t.length) 0).set (rate - 1) ((t ++ List.replicate (rate - t.length) 0).getD (rate - 1) 0 ^^^ 128)
theorem set_last (z : List UInt8) (n : Nat) (h : z.length = n + 1) (x : UInt8) : z.set n x = z.take n ++ [x] /\ z = z.take n ++ [z.getD n 0] := by
  have hz : z = z.take n ++ [z.getD n 0] := by
    have := List.take_succ_eq_append_getElem (l := z) (i := n) (by omega);rw [List.take_of_length_le (by omega)] at this;rw [kgetD_get z n 0 (by omega)];exact this
  refine ⟨?_, hz⟩
  conv => lhs; rw [hz]
  rw [List.set_append_right _ _ (by simp; omega), show n - (z.take n).length = 0 by simp; omega];rfl
theorem layX_padB (rate : Nat) (hr : 0 < rate) (hr2 : rate <= 200) (t : List UInt8) (ht : t.length <= rate) (l : List UInt64) (hl : l.length = 25) : layX l 0 (kpadB rate t) = maskL (layX l 0 t) (rate - 1) 128 := by
  unfold kpadB;obtain ⟨z, hz⟩ : ∃ z, z = t ++ List.replicate (rate - t.length) (0 : UInt8) := ⟨_, rfl⟩;have hzl : z.length = (rate - 1) + 1 := by rw [hz]; simp; omega
  have hlz : layX l 0 z = layX l 0 t := by rw [hz, layX_append, layX_zeros]
  rw [<- hz];obtain ⟨h1, h2⟩ := set_last z (rate - 1) hzl (z.getD (rate - 1) 0 ^^^ 128);rw [h1, layX_append, <- hlz]
  conv => rhs; rw [h2, layX_append]
  have hn : 0 + (z.take (rate - 1)).length = rate - 1 := by simp; omega
  rw [hn];show maskL _ _ _ = maskL (maskL _ _ _) _ _;rw [maskL_maskL _ _ (by rw [layX_length, hl]; omega)]
theorem kpadB_length (rate : Nat) (t : List UInt8) (ht : t.length <= rate) : (kpadB rate t).length = rate := by simp [kpadB]; omega
theorem absorbL_block (rate : Nat) (hr : 0 < rate) (hr2 : rate <= 200) (suf : UInt8) (m : List UInt8) (q : Nat) (hq : q * rate <= m.length) (hq2 : m.length < (q + 1) * rate) :
    absorbL rate suf m = ⟨layX (absJ rate (m ++ [suf]) q) 0 (kpadB rate ((m ++ [suf]).drop (q * rate))), rate⟩ := by
  have hqr : (q + 1) * rate = q * rate + rate := Nat.succ_mul q rate;have hxl : (m ++ [suf]).length = m.length + 1 := by simp
  have htl : ((m ++ [suf]).drop (q * rate)).length = m.length + 1 - q * rate := by rw [List.length_drop, hxl]
  unfold absorbL
  conv => lhs; rw [<- List.take_append_drop (q * rate) (m ++ [suf])]
  rw [puts_app, puts_block rate hr (m ++ [suf]) q _ (by omega) (by intro e; rw [e] at htl; simp at htl; omega) (by omega), layX_padB rate hr hr2 _ (by omega) _ (absJ_length _ _ _)]
theorem absJ_prefix (rate : Nat) (x y : List UInt8) (n : Nat) : ∀ j, x.take n = y.take n -> j * rate <= n -> absJ rate x j = absJ rate y j := by
  intro j
  induction j with
  | zero => intro _ _; rfl
  | succ j ih =>
    intro h hn;have hjr : (j + 1) * rate = j * rate + rate := Nat.succ_mul j rate;have e : (x.drop (j * rate)).take rate = (y.drop (j * rate)).take rate := by
      have h2 := congrArg (fun z => (z.drop (j * rate)).take rate) h;simp only [List.drop_take, List.take_take] at h2
      rwa [show min rate (n - j * rate) = rate by omega] at h2
    rw [absJ, absJ, ih h (by omega), e]
theorem outs_block (rate : Nat) (l : List UInt64) : ∀ (n a : Nat), a + n <= rate -> (Sp.mk l a).outs rate n = (List.range' a n).map (byteL l) /\ (Sp.mk l a).behind rate n = ⟨l, a + n⟩
  | 0, _, _ => ⟨rfl, rfl⟩
  | n + 1, a, h => by
    have hn : (Sp.mk l a).next rate = ⟨l, a + 1⟩ := if_neg (by show ¬ a = rate; omega);have ih := outs_block rate l n (a + 1) (by omega);rw [Sp.outs, Sp.behind, hn, ih.1, ih.2];refine ⟨?_, by rw [Nat.add_assoc, Nat.add_comm 1]⟩;rw [List.range'_succ, List.map_cons];rfl
theorem outs_full (rate : Nat) (l : List UInt64) (n : Nat) (h0 : 0 < n) (h : n <= rate) : (Sp.mk l rate).outs rate n = (List.range n).map (byteL (permL l)) /\ (Sp.mk l rate).behind rate n = ⟨permL l, n⟩ := by
  obtain ⟨k, rfl⟩ : ∃ k, n = k + 1 := ⟨n - 1, by omega⟩;have hn : (Sp.mk l rate).next rate = ⟨permL l, 1⟩ := if_pos rfl;have ih := outs_block rate (permL l) k 1 (by omega);rw [Sp.outs, Sp.behind, hn, ih.1, ih.2];refine ⟨?_, by rw [Nat.add_comm 1]⟩;rw [List.range_eq_range', List.range'_succ, List.map_cons];rfl
theorem outs_app (rate : Nat) (m : Nat) : ∀ (n : Nat) (s : Sp), s.outs rate (n + m) = s.outs rate n ++ (s.behind rate n).outs rate m
  | 0, s => by rw [Nat.zero_add]; rfl
  | n + 1, s => by
    rw [show n + 1 + m = (n + m) + 1 by omega, Sp.outs, Sp.outs, Sp.behind, outs_app rate m n (s.next rate)];rfl
theorem behind_app (rate : Nat) (m : Nat) : ∀ (n : Nat) (s : Sp), s.behind rate (n + m) = (s.behind rate n).behind rate m
  | 0, s => by rw [Nat.zero_add]; rfl
  | n + 1, s => by
    rw [show n + 1 + m = (n + m) + 1 by omega, Sp.behind, Sp.behind, behind_app rate m n (s.next rate)]
def trn (x : UInt64) (n : Nat) : UInt64 := if n = 0 then x else rotl x n
def sumL (a : List UInt64) : Nat -> List UInt64
  | 0 => List.replicate 5 0
  | i + 1 => (sumL a i).set (i % 5) (lane (sumL a i) (i % 5) ^^^ lane a i)
def thetaL (a s : List UInt64) : Nat -> List UInt64
  | 0 => a
  | i + 1 => (thetaL a s i).set i (lane (thetaL a s i) i ^^^ (lane s ((i + 4) % 5) ^^^ trn (lane s ((i + 1) % 5)) 1))
def xyN : Nat -> Nat × Nat
  | 0 => (1, 0)
  | t + 1 => ((xyN t).2, (2 * (xyN t).1 + 3 * (xyN t).2) % 5)
def rhoL (a : List UInt64) : Nat -> List UInt64
  | 0 => (List.replicate 25 0).set 0 (lane a 0)
  | t + 1 => (rhoL a t).set (5 * (xyN (t + 1)).2 + (xyN (t + 1)).1) (trn (lane a (5 * (xyN t).2 + (xyN t).1)) ((t + 1) * (t + 2) / 2 % 64))
def chiR (a b : List UInt64) : Nat -> List UInt64
  | 0 => a
  | i + 1 => (chiR a b i).set i (lane b i ^^^ andn (lane b (i / 5 * 5 + (i + 2) % 5)) (lane b (i / 5 * 5 + (i + 1) % 5)))
def roundL (a : List UInt64) (c : UInt64) : List UInt64 := iotaL (chiR (thetaL a (sumL a 25) 25) (rhoL (thetaL a (sumL a 25) 25) 24) 25) c
theorem sumL_length (a : List UInt64) (i : Nat) : (sumL a i).length = 5 := by
  induction i with
  | zero => rfl
  | succ i ih => rw [sumL, List.length_set, ih]
theorem thetaL_length (a s : List UInt64) (i : Nat) : (thetaL a s i).length = a.length := by
  induction i with
  | zero => rfl
  | succ i ih => rw [thetaL, List.length_set, ih]
theorem rhoL_length (a : List UInt64) (i : Nat) : (rhoL a i).length = 25 := by
  induction i with
  | zero => rfl
  | succ i ih => rw [rhoL, List.length_set, ih]
theorem chiR_length (a b : List UInt64) (i : Nat) : (chiR a b i).length = a.length := by
  induction i with
  | zero => rfl
  | succ i ih => rw [chiR, List.length_set, ih]
theorem xyN_lt (t : Nat) : (xyN t).1 < 5 /\ (xyN t).2 < 5 := by
  induction t with
  | zero => exact ⟨by decide, by decide⟩
  | succ t ih => exact ⟨ih.2, Nat.mod_lt _ (by decide)⟩
section
variable (a0 a1 a2 a3 a4 a5 a6 a7 a8 a9 a10 a11 a12 a13 a14 a15 a16 a17 a18 a19 a20 a21 a22 a23 a24 c : UInt64)
theorem sumL_all : sumL [a0, a1, a2, a3, a4, a5, a6, a7, a8, a9, a10, a11, a12, a13, a14, a15, a16, a17, a18, a19, a20, a21, a22, a23, a24] 25 =
    [a0 ^^^ a5 ^^^ a10 ^^^ a15 ^^^ a20, a1 ^^^ a6 ^^^ a11 ^^^ a16 ^^^ a21, a2 ^^^ a7 ^^^ a12 ^^^ a17 ^^^ a22, a3 ^^^ a8 ^^^ a13 ^^^ a18 ^^^ a23, a4 ^^^ a9 ^^^ a14 ^^^ a19 ^^^ a24] := by
  have h : sumL [a0, a1, a2, a3, a4, a5, a6, a7, a8, a9, a10, a11, a12, a13, a14, a15, a16, a17, a18, a19, a20, a21, a22, a23, a24] 25 =
    [0 ^^^ a0 ^^^ a5 ^^^ a10 ^^^ a15 ^^^ a20, 0 ^^^ a1 ^^^ a6 ^^^ a11 ^^^ a16 ^^^ a21, 0 ^^^ a2 ^^^ a7 ^^^ a12 ^^^ a17 ^^^ a22, 0 ^^^ a3 ^^^ a8 ^^^ a13 ^^^ a18 ^^^ a23, 0 ^^^ a4 ^^^ a9 ^^^ a14 ^^^ a19 ^^^ a24] := by kernel_rfl
  rw [h];simp only [UInt64.zero_xor]
variable (c0 c1 c2 c3 c4 : UInt64)
theorem thetaL_all : thetaL [a0, a1, a2, a3, a4, a5, a6, a7, a8, a9, a10, a11, a12, a13, a14, a15, a16, a17, a18, a19, a20, a21, a22, a23, a24] [c0, c1, c2, c3, c4] 25 =
    [a0 ^^^ (c4 ^^^ rotl c1 1), a1 ^^^ (c0 ^^^ rotl c2 1), a2 ^^^ (c1 ^^^ rotl c3 1), a3 ^^^ (c2 ^^^ rotl c4 1), a4 ^^^ (c3 ^^^ rotl c0 1),
     a5 ^^^ (c4 ^^^ rotl c1 1), a6 ^^^ (c0 ^^^ rotl c2 1), a7 ^^^ (c1 ^^^ rotl c3 1), a8 ^^^ (c2 ^^^ rotl c4 1), a9 ^^^ (c3 ^^^ rotl c0 1),
     a10 ^^^ (c4 ^^^ rotl c1 1), a11 ^^^ (c0 ^^^ rotl c2 1), a12 ^^^ (c1 ^^^ rotl c3 1), a13 ^^^ (c2 ^^^ rotl c4 1), a14 ^^^ (c3 ^^^ rotl c0 1),
     a15 ^^^ (c4 ^^^ rotl c1 1), a16 ^^^ (c0 ^^^ rotl c2 1), a17 ^^^ (c1 ^^^ rotl c3 1), a18 ^^^ (c2 ^^^ rotl c4 1), a19 ^^^ (c3 ^^^ rotl c0 1),
     a20 ^^^ (c4 ^^^ rotl c1 1), a21 ^^^ (c0 ^^^ rotl c2 1), a22 ^^^ (c1 ^^^ rotl c3 1), a23 ^^^ (c2 ^^^ rotl c4 1), a24 ^^^ (c3 ^^^ rotl c0 1)] := by kernel_rfl
theorem rhoL_all : rhoL [a0, a1, a2, a3, a4, a5, a6, a7, a8, a9, a10, a11, a12, a13, a14, a15, a16, a17, a18, a19, a20, a21, a22, a23, a24] 24 =
    [a0, rotl a6 44, rotl a12 43, rotl a18 21, rotl a24 14, rotl a3 28, rotl a9 20, rotl a10 3, rotl a16 45, rotl a22 61, rotl a1 1, rotl a7 6, rotl a13 25, rotl a19 8, rotl a20 18,
     rotl a4 27, rotl a5 36, rotl a11 10, rotl a17 15, rotl a23 56, rotl a2 62, rotl a8 55, rotl a14 39, rotl a15 41, rotl a21 2] := by kernel_rfl
theorem chiR_all (b : List UInt64) : chiR [a0, a1, a2, a3, a4, a5, a6, a7, a8, a9, a10, a11, a12, a13, a14, a15, a16, a17, a18, a19, a20, a21, a22, a23, a24] b 25 = chiL b := by kernel_rfl
end
theorem len25 (l : List UInt64) (h : l.length = 25) : ∃ a0 a1 a2 a3 a4 a5 a6 a7 a8 a9 a10 a11 a12 a13 a14 a15 a16 a17 a18 a19 a20 a21 a22 a23 a24 : UInt64, l = [a0, a1, a2, a3, a4, a5, a6, a7, a8, a9, a10, a11, a12, a13, a14, a15, a16, a17, a18, a19, a20, a21, a22, a23, a24] := by
  match l, h with
  | [a0, a1, a2, a3, a4, a5, a6, a7, a8, a9, a10, a11, a12, a13, a14, a15, a16, a17, a18, a19, a20, a21, a22, a23, a24], _ => exact ⟨a0, a1, a2, a3, a4, a5, a6, a7, a8, a9, a10, a11, a12, a13, a14, a15, a16, a17, a18, a19, a20, a21, a22, a23, a24, rfl⟩
theorem chiR_any (a b : List UInt64) (h : a.length = 25) : chiR a b 25 = chiL b := by
  obtain ⟨a0, a1, a2, a3, a4, a5, a6, a7, a8, a9, a10, a11, a12, a13, a14, a15, a16, a17, a18, a19, a20, a21, a22, a23, a24, rfl⟩ := len25 a h;exact chiR_all a0 a1 a2 a3 a4 a5 a6 a7 a8 a9 a10 a11 a12 a13 a14 a15 a16 a17 a18 a19 a20 a21 a22 a23 a24 b
theorem roundL_eq (a : List UInt64) (h : a.length = 25) (c : UInt64) : roundL a c = iotaL (chiL (mixL a)) c := by
  have hb : rhoL (thetaL a (sumL a 25) 25) 24 = mixL a := by
    obtain ⟨a0, a1, a2, a3, a4, a5, a6, a7, a8, a9, a10, a11, a12, a13, a14, a15, a16, a17, a18, a19, a20, a21, a22, a23, a24, rfl⟩ := len25 a h;exact (congrArg (fun z => rhoL z 24) ((congrArg (fun z => thetaL [a0, a1, a2, a3, a4, a5, a6, a7, a8, a9, a10, a11, a12, a13, a14, a15, a16, a17, a18, a19, a20, a21, a22, a23, a24] z 25) (sumL_all a0 a1 a2 a3 a4 a5 a6 a7 a8 a9 a10 a11 a12 a13 a14 a15 a16 a17 a18 a19 a20 a21 a22 a23 a24)).trans (thetaL_all a0 a1 a2 a3 a4 a5 a6 a7 a8 a9 a10 a11 a12 a13 a14 a15 a16 a17 a18 a19 a20 a21 a22 a23 a24 _ _ _ _ _))).trans ((rhoL_all _ _ _ _ _ _ _ _ _ _ _ _ _ _ _ _ _ _ _ _ _ _ _ _ _).trans (by kernel_rfl))
  exact congrArg (fun z => iotaL z c) ((chiR_any _ _ ((thetaL_length _ _ _).trans h)).trans (congrArg chiL hb))
def refPerm (s : List UInt64) : Nat -> List UInt64
  | 0 => s
  | n + 1 => roundL (refPerm s n) (lane kC n)
theorem refPerm_eq (s : List UInt64) (h : s.length = 25) (n : Nat) : refPerm s n = permK s n := by
  induction n with
  | zero => rfl
  | succ n ih => rw [refPerm, ih, roundL_eq _ (permK_length s h n), permK]
def LaneIs (w : World) (x : UInt64) (e : Ending) (w' : World) : Prop := e = .returned ((.int .u64 (x.toNat : Int))) /\ w' = w
theorem and63 : ∀ n : Fin 64, bits .and .u64 (IntKind.u64.wrap (n.val : Int)) 63 = (n.val : Int) := by decide +kernel
theorem low63 (n : Nat) (h2 : n <= 63) : bits .and .u64 (n : Int) 63 = (n : Int) := by
 have := and63 ⟨n, by omega⟩;simp only at this
 rwa [wraps_u64 _ (by omega) (by omega)] at this
theorem krotateLeft_any (x : UInt64) (n : Nat) (h2 : n <= 63) (w : World) :
  Calls Tryz.prog 182 #[(.int .u64 (x.toNat : Int)), .int .i64 (n : Int)] w (LaneIs w (rotl x n)) := by
 unfold LaneIs;have hb := low63 n h2;have hr := u64_rotl x n;have hw := wraps_u64 (n : Int) (by omega) (by omega);have q1 : (64 : Int) - (n : Int) = ((64 - n : Nat) : Int) := by omega
 go_enter Tryz.func182, Tryz.ntmps182;go_wp2;go_ret;refine ⟨ret_int ?_, rfl⟩;exact hr
theorem left_any (x : UInt64) (n : Nat) (h2 : n <= 63) (w : World) :
  Calls Tryz.prog 181 #[(.int .u64 (x.toNat : Int)), .int .i64 (n : Int)] w (LaneIs w (rotl x n)) := by
 go_enter Tryz.func181, Tryz.ntmps181
 go_wp2_with (go_at_call 182; refine (krotateLeft_any x n h2 _).mono ?_)
 rintro e wK ⟨rfl, rfl⟩;go_wp2;go_ret;exact ⟨rfl, rfl⟩
theorem shift_any (p : Nat) (w : World) :
  Calls Tryz.prog 168 #[.int .i64 (p : Int)] w fun e w' => e = .returned (.int .i64 ((8 * (p % 8) : Nat) : Int)) /\ w' = w := by
 obtain ⟨r, hr⟩ : ∃ r, r = p % 8 := ⟨_, rfl⟩;have q1 : (p : Int).tmod 8 = (r : Int) := (show (p : Int).tmod 8 = ((p % 8 : Nat) : Int) from rfl).trans (by omega);have q2 : (p : Int) % 8 = (r : Int) := by omega
 have hr8 : r < 8 := by omega
 rw [<- hr];clear hr;go_enter Tryz.func168, Tryz.ntmps168;go_wp2;go_ret;exact ⟨by simp, rfl⟩
def FiveIs (w : World) (b0 b1 b2 b3 b4 : UInt64) (e : Ending) (w' : World) : Prop := e = .returned (.tuple #[.int .u64 (b0.toNat : Int), .int .u64 (b1.toNat : Int), .int .u64 (b2.toNat : Int), .int .u64 (b3.toNat : Int), .int .u64 (b4.toNat : Int)]) /\ w' = w
theorem chi_any (b0 b1 b2 b3 b4 : UInt64) (w : World) :
  Calls Tryz.prog 179 #[.int .u64 (b0.toNat : Int), .int .u64 (b1.toNat : Int), .int .u64 (b2.toNat : Int), .int .u64 (b3.toNat : Int), .int .u64 (b4.toNat : Int)] w
   (FiveIs w (b0 ^^^ andn b2 b1) (b1 ^^^ andn b3 b2) (b2 ^^^ andn b4 b3) (b3 ^^^ andn b0 b4) (b4 ^^^ andn b1 b0)) := by
 unfold FiveIs;have h1 : ∀ a b : UInt64, bits .xor .u64 (a.toNat : Int) (b.toNat : Int) = ((a ^^^ b).toNat : Int) := u64_xor;have h2 : ∀ a b : UInt64, bits .andNot .u64 (a.toNat : Int) (b.toNat : Int) = ((andn a b).toNat : Int) := u64_andn;go_enter Tryz.func179, Tryz.ntmps179;go_wp2;refine bodyPost_ret (v := .tuple #[.int .u64 ((b0 ^^^ andn b2 b1).toNat : Int), .int .u64 ((b1 ^^^ andn b3 b2).toNat : Int), .int .u64 ((b2 ^^^ andn b4 b3).toNat : Int), .int .u64 ((b3 ^^^ andn b0 b4).toNat : Int), .int .u64 ((b4 ^^^ andn b1 b0).toNat : Int)]) ?_ rfl ⟨rfl, rfl⟩
 first | kernel_rfl | simp [results, Tryz.results179, go_sem]
section
variable {P : Program} {ops : Array Oper} {w : World} {Q : Act -> Prop} {a : Act} {o : Oper} {rest : List Oper}
theorem run_load1 {ty : TypeId} {k : IntKind} {x : Operand} {v : Value} {b p : Nat} (ho : o.op = .load ty x) (hu : P.underlying ty = some (.int k)) (hx : a.eval x = .pointer (some ⟨b, p, none⟩)) (hc : w.cell? ⟨b, p, none⟩ = some v) : (execOp a.eval o).run P w = .ok (.value v) w := by
 unfold execOp;simp only [ho, hx];have h1 : (isAgg ty).run P w = .ok false w := by
  unfold isAgg;rw [Sem.run_bind, run_underlying hu w];rfl
 simp [Instr.loadAt, Instr.sureAddr, loadVar, h1, go_sem, hc]
theorem run_xorL {x y : Operand} {t u : TypeId} {p q : UInt64} (ho : o.op = .binOp .xor t x y u) (hx : a.eval x = .int .u64 (p.toNat : Int)) (hy : a.eval y = .int .u64 (q.toNat : Int)) : (execOp a.eval o).run P w = .ok (.value (.int .u64 ((p ^^^ q).toNat : Int))) w := by
 have h := u64_xor p q;unfold execOp;simp only [ho, hx, hy];simp [go_sem, h]
end
theorem laneCells_length (l : List UInt64) : (laneCells l).length = l.length := by simp [laneCells]
theorem laneCells_get (l : List UInt64) (k : Nat) (h : k < l.length) : (laneCells l)[k]? = some (.int .u64 (l[k].toNat : Int)) := by
 simp [laneCells, List.getElem?_eq_getElem h]
theorem laneCells_lane (l : List UInt64) (k : Nat) (h : k < l.length) : (laneCells l)[k]? = some (.int .u64 ((lane l k).toNat : Int)) := by
 rw [laneCells_get l k h, lane, kgetD_get l k 0 h]
theorem laneCells_set (l : List UInt64) (k : Nat) (x : UInt64) : (laneCells l).set k (.int .u64 (x.toNat : Int)) = laneCells (l.set k x) := by
 simp [laneCells, List.map_set]
theorem cell_oneLane (l : List UInt64) : ∀ u ∈ laneCells l, u.oneCell' = true := by
 intro u hu;simp only [laneCells, List.mem_map] at hu;obtain ⟨b, _, rfl⟩ := hu;rfl
theorem zero25 : (#[.int .u64 0, .int .u64 0, .int .u64 0, .int .u64 0, .int .u64 0, .int .u64 0, .int .u64 0, .int .u64 0, .int .u64 0, .int .u64 0, .int .u64 0, .int .u64 0, .int .u64 0, .int .u64 0, .int .u64 0, .int .u64 0, .int .u64 0, .int .u64 0, .int .u64 0, .int .u64 0, .int .u64 0, .int .u64 0, .int .u64 0, .int .u64 0, .int .u64 0] : Array Value) = (laneCells (List.replicate 25 0)).toArray := by rfl
theorem info_l25 : (Tryz.prog.info? 164).map (·.size) = some 25 := by kernel_rfl
theorem size_lanes (n : Nat) (l : List UInt64) (h : l.length = n) : some n = some (laneCells l).length := by rw [laneCells_length, h]
def LanesIs (w : World) (l : List UInt64) (e : Ending) (w' : World) : Prop := e = .returned (.agg (laneCells l).toArray) /\ Below w.heap.size w w'
section
variable {P : Program} {ops : Array Oper} {w : World} {Q : Exit -> Act -> World -> Prop} {a : Act} {o : Oper} {rest : List Oper}
theorem wl_value (v : Value) (hgd : o.guard = none) (hrun : (execOp a.eval o).run P w = .ok (.value v) w) (h : wpList P ops Q rest (a.put o.dst v) w) : wpList P ops Q (o :: rest) a w := by
 refine wpList_plain hgd fun K hK => ?_
 unfold Oper.wp;rw [hrun];exact hK _ _ h
theorem wl_valueW (v : Value) (w' : World) (hgd : o.guard = none) (hrun : (execOp a.eval o).run P w = .ok (.value v) w') (h : wpList P ops Q rest (a.put o.dst v) w') : wpList P ops Q (o :: rest) a w := by
 refine wpList_plain hgd fun K hK => ?_
 unfold Oper.wp;rw [hrun];exact hK _ _ h
theorem wl_call (f : FuncId) (args : Array Value) (v : Value) (hgd : o.guard = none) (hrun : (execOp a.eval o).run P w = .ok (.enter f args) w) (hc : Calls P f args w fun e w' => e = .returned v /\ w' = w) (h : wpList P ops Q rest (a.put o.dst v) w) : wpList P ops Q (o :: rest) a w := by
 refine wpList_plain hgd fun K hK => ?_
 unfold Oper.wp;rw [hrun, Oper.upon_enter];refine hc.mono fun e w' he => ?_
 obtain ⟨rfl, rfl⟩ := he;exact hK _ _ h
end
theorem run_index25 {a : Act} {x y : Operand} {o : Oper} (b k : Nat) (hk : k < 25) (ho : o.op = .indexAddr 164 x y) (hx : a.eval x = .pointer (some ⟨b, 0, none⟩)) (hy : a.eval y = .int .i64 (k : Int)) (w : World) :
  (execOp a.eval o).run Tryz.prog w = .ok (.value (.pointer (some ⟨b, k, none⟩))) w := by
 have h0 : (0 : Int) <= (k : Int) := by omega
 have h1 : (k : Int) < 25 := by omega
 unfold execOp;simp only [ho, hx, hy]
 go_simp
theorem run_store64 {a : Act} {w : World} {o : Oper} {x y : Operand} {u : Value} (z : UInt64) (b p : Nat) (ho : o.op = .store 74 x y) (hx : a.eval x = .pointer (some ⟨b, p, none⟩)) (hy : a.eval y = .int .u64 (z.toNat : Int)) (hc : w.cell? ⟨b, p, none⟩ = some u) (hf : w.frozen? ⟨b, p, none⟩ = false) :
  (execOp a.eval o).run Tryz.prog w = .ok .skip (w.setCell ⟨b, p, none⟩ (.int .u64 (z.toNat : Int))) := by
 unfold execOp;simp only [ho, hx, hy]
 go_simp
def KVars (w : World) : Prop := ∀ k, k < 24 -> w.cell? ⟨1, k, none⟩ = some (.int .u64 ((lane kC k).toNat : Int))
section
variable {w w' : World} {B g : Nat}
theorem KVars.pos (h : KVars w) : 1 < w.heap.size := World.block_lt_of_cell? w _ (h 0 (by decide))
theorem KVars.step (h : KVars w) (hb : Below w.heap.size w w') : KVars w' := fun k hk => (hb.cell (p := ⟨1, k, none⟩) h.pos).trans (h k hk)
theorem KVars.but (h : KVars w) (hb : But w.heap.size g w w') (hg : 1 ≠ g) : KVars w' := fun k hk => (hb.cell (p := ⟨1, k, none⟩) h.pos hg).trans (h k hk)
theorem KVars.under (h : KVars w) (hb : Below B w w') (hB : 1 < B) : KVars w' := fun k hk => (hb.cell (p := ⟨1, k, none⟩) hB).trans (h k hk)
theorem KVars.drew (h : KVars w) : KVars w.drew := h
end
def chiUpto (b s : List UInt64) (j : Nat) : List UInt64 := (chiL b).take (5 * j) ++ s.drop (5 * j)
theorem chiUpto_length (b s : List UInt64) (j : Nat) (hj : j <= 5) (h : s.length = 25) : (chiUpto b s j).length = 25 := by
 simp [chiUpto, chiL_length, h]; omega
theorem chiUpto_zero (b s : List UInt64) : chiUpto b s 0 = s := by simp [chiUpto]
theorem chiUpto_five (b s : List UInt64) (h : s.length = 25) : chiUpto b s 5 = chiL b := by
 unfold chiUpto;rw [List.take_of_length_le (by rw [chiL_length]; omega)];rw [List.drop_of_length_le (by omega), List.append_nil]
theorem chiUpto_step (b s : List UInt64) (j : Nat) (hj : j < 5) (h : s.length = 25) :
  (((((chiUpto b s j).set (5 * j) (lane b (5 * j) ^^^ andn (lane b (5 * j + 2)) (lane b (5 * j + 1)))).set (5 * j + 1) (lane b (5 * j + 1) ^^^ andn (lane b (5 * j + 3)) (lane b (5 * j + 2)))).set (5 * j + 2) (lane b (5 * j + 2) ^^^ andn (lane b (5 * j + 4)) (lane b (5 * j + 3)))).set (5 * j + 3) (lane b (5 * j + 3) ^^^ andn (lane b (5 * j)) (lane b (5 * j + 4)))).set (5 * j + 4) (lane b (5 * j + 4) ^^^ andn (lane b (5 * j + 1)) (lane b (5 * j))) = chiUpto b s (j + 1) := by
 match s, h with
 | [_, _, _, _, _, _, _, _, _, _, _, _, _, _, _, _, _, _, _, _, _, _, _, _, _], _ =>
  match j, hj with
  | 0, _ => rfl
  | 1, _ => rfl
  | 2, _ => rfl
  | 3, _ => rfl
  | 4, _ => rfl
set_option maxHeartbeats 1000000 in
theorem permute_of (hmix : ∀ (l : List UInt64) (w : World), l.length = 25 -> Calls Tryz.prog 178 #[.agg (laneCells l).toArray] w (LanesIs w (mixL l))) (s0 : List UInt64) (hs0 : s0.length = 25) (w : World) (hv : KVars w) :
  Calls Tryz.prog 174 #[.agg (laneCells s0).toArray] w (LanesIs w (permL s0)) := by
 unfold LanesIs;have hpos := hv.pos;generalize hn0 : w.heap.size = n0 at *;have hrA : ∀ o, Row ((w.alloc (.cells (laneCells s0).toArray 164)).alloc o) n0 164 (laneCells s0) := fun o => (Row.new_ hn0.symm rfl).alloc _
 have hrB : ∀ o, Row ((w.alloc o).alloc (.cells (laneCells (List.replicate 25 0)).toArray 164)) (n0 + 1) 164 (laneCells (List.replicate 25 0)) := fun o => Row.new_ (by rw [asz, hn0]) rfl
 have hbA : ∀ o o2, Below n0 w ((w.alloc o).alloc o2) := fun o o2 => ((Below.refl n0 w).alloc (by omega) o).alloc (by rw [asz]; omega) o2
 go_enter Tryz.func174, Tryz.ntmps174;go_wp2;go_loopw [3, 4, 5, 6] (fun _ _ _ i wr => ∃ n : Nat, n <= 24 /\ i = .int .i64 n /\ Row wr n0 164 (laneCells (permK s0 n)) /\ Row wr (n0 + 1) 164 (laneCells (List.replicate 25 0)) /\ KVars wr /\ Below n0 w wr) (fun _ _ _ i _ => 24 - (intOf i).toNat)
 case atStart => exact ⟨0, Nat.zero_le _, rfl, hrA _, hrB _, hv.step (by rw [hn0]; exact hbA _ _), hbA _ _⟩
 case round =>
  clear hrA hrB hbA hv;obtain ⟨n, hn, rfl, hrs, hre, hv, hbel⟩ := hrel
  by_cases hlt : n < 24
  ·have hstl := permK_length s0 hs0 n;obtain ⟨st, HST⟩ : ∃ st, Hid (st = permK s0 n) := ⟨_, Lib.hid rfl⟩;rw [<- HST.out] at hstl hrs
   go_wp2_with (first
    | refine wpList_load_any rfl 164 (.tmp 1) rfl n0 rfl 164 (laneCells st) (.array 25 74) hrs Tryz.underlying164 rfl (info_l25.trans (size_lanes _ _ hstl)) ?_
    | (go_at_call 178; refine (hmix st _ hstl).mono ?_))
   rintro e w2 ⟨rfl, b2⟩;replace hrs := hrs.below b2 hrs.lt;replace hre := hre.below b2 hre.lt;replace hv := hv.step b2;replace hbel := hbel.trans (b2.mono (by have := hbel.size; omega));have hbl := mixL_length st;obtain ⟨bl, HBL⟩ : ∃ bl, Hid (bl = mixL st) := ⟨_, Lib.hid rfl⟩;rw [<- HBL.out] at hbl ⊢;clear b2
   go_wp2_with (refine wpList_store_any rfl 164 (.tmp 4) (.tmp 10) rfl w2.heap.size rfl (laneCells bl) rfl 164 (laneCells (List.replicate 25 0)) (Row.new_ rfl zero25) (info_l25.trans (size_lanes _ _ hbl)) (by rw [laneCells_length, laneCells_length, hbl]; rfl) (cell_oneLane _) ?_)
   intro w3 hrb bt zt
   try simp only [asz] at bt zt
   have b3 : Below w2.heap.size w2 w3 := (Below.alloc (Below.refl _ _) (Nat.le_refl _) _).trans (bt.under (Nat.le_succ _) (Nat.le_refl _));have hnb : n0 + 1 < w2.heap.size := hre.lt;replace hrs := hrs.below b3 hrs.lt;replace hre := hre.below b3 hre.lt;replace hv := hv.step b3;replace hbel := hbel.trans (b3.mono (by omega));clear b3 bt zt;generalize w2.heap.size = nb at *;go_wp2;go_loopw [5] (fun y wr => ∃ j : Nat, j <= 5 /\ y = .int .i64 ((5 * j : Nat) : Int) /\ Row wr n0 164 (laneCells (chiUpto bl st j)) /\ Row wr nb 164 (laneCells bl) /\ Row wr (n0 + 1) 164 (laneCells (List.replicate 25 0)) /\ KVars wr /\ Below n0 w wr) (fun y _ => 25 - (intOf y).toNat)
   case atStart => exact ⟨0, Nat.zero_le _, rfl, by rw [chiUpto_zero]; exact hrs, hrb, hre, hv, hbel⟩
   case round =>
    clear hrs hrb hre hv hbel;obtain ⟨j, hj, rfl, hrs, hrb, hre, hv, hbel⟩ := hrel
    by_cases hj5 : j < 5
    ·have hcl := chiUpto_length bl st j hj hstl;have HCS := Lib.hid (chiUpto_step bl st j hj5 hstl);obtain ⟨cur, HCU⟩ : ∃ cur, Hid (cur = chiUpto bl st j) := ⟨_, Lib.hid rfl⟩;rw [<- HCU.out] at hcl hrs HCS;obtain ⟨y, hy⟩ : ∃ y, y = 5 * j := ⟨_, rfl⟩;obtain ⟨y1, hy1⟩ : ∃ y1, y1 = y + 1 := ⟨_, rfl⟩;obtain ⟨y2, hy2⟩ : ∃ y2, y2 = y + 2 := ⟨_, rfl⟩;obtain ⟨y3, hy3⟩ : ∃ y3, y3 = y + 3 := ⟨_, rfl⟩;obtain ⟨y4, hy4⟩ : ∃ y4, y4 = y + 4 := ⟨_, rfl⟩;have q1 : (y : Int) + 1 = (y1 : Int) := by omega
     have q2 : (y : Int) + 2 = (y2 : Int) := by omega
     have q3 : (y : Int) + 3 = (y3 : Int) := by omega
     have q4 : (y : Int) + 4 = (y4 : Int) := by omega
     have hyb : y4 < 25 := by omega
     have p1 : IntKind.i64.wrap (y1 : Int) = (y1 : Int) := by rw [IntKind.wrap_i64]; omega
     have p2 : IntKind.i64.wrap (y2 : Int) = (y2 : Int) := by rw [IntKind.wrap_i64]; omega
     have p3 : IntKind.i64.wrap (y3 : Int) = (y3 : Int) := by rw [IntKind.wrap_i64]; omega
     have p4 : IntKind.i64.wrap (y4 : Int) = (y4 : Int) := by rw [IntKind.wrap_i64]; omega
     rw [<- hy, <- hy1, <- hy2, <- hy3, <- hy4] at HCS;have HYJ := Lib.hid (And.intro hy (And.intro hy1 (And.intro hy2 (And.intro hy3 hy4))));have g0 : y < 25 := by omega
     have g1 : y1 < 25 := by omega
     have g2 : y2 < 25 := by omega
     have g3 : y3 < 25 := by omega
     have hyle : y <= 20 := by omega
     rw [<- hy];clear hy hy1 hy2 hy3 hy4;go_wp2;replace hrs := hrs.drew;replace hrb := hrb.drew;replace hre := hre.drew;replace hv := hv.drew;replace hbel := hbel.drew;refine wp_region_held_drew (S := fun w' => w'.rangeAt nb 0 (laneCells bl)) (by kernel_rfl) hrb.range (fun _ => ?_);generalize wr.drew = W at *;refine hdv0 0 16 (.int .i64 (y : Int)) (by rfl) hrb.range ?_;refine hdv0 1 17 (.int .i64 (y : Int)) (by rfl) hrb.range ?_;refine hdv 2 18 (.int .i64 (y1 : Int)) (by rfl) (fun w _ => by go_simp) hrb.range ?_;refine hdv0 3 19 (.int .i64 (y : Int)) (by rfl) hrb.range ?_;refine hdv 4 20 (.int .i64 (y2 : Int)) (by rfl) (fun w _ => by go_simp) hrb.range ?_;refine hdv0 5 21 (.int .i64 (y : Int)) (by rfl) hrb.range ?_;refine hdv 6 22 (.int .i64 (y3 : Int)) (by rfl) (fun w _ => by go_simp) hrb.range ?_;refine hdv0 7 23 (.int .i64 (y : Int)) (by rfl) hrb.range ?_;refine hdv 8 24 (.int .i64 (y4 : Int)) (by rfl) (fun w _ => by go_simp) hrb.range ?_;refine hdv0 9 25 (.int .i64 (y : Int)) (by rfl) hrb.range ?_;refine hdv 10 26 (.pointer (some ⟨nb, y, none⟩)) (by rfl) (fun w _ => run_index25 nb y (by omega) rfl (by kernel_rfl) (by kernel_rfl) w) hrb.range ?_;refine hdv 11 27 (.int .u64 ((lane bl y).toNat : Int)) (by rfl) (fun w e => run_load1 rfl Tryz.underlying74 (by kernel_rfl) (by have := e y _ (laneCells_lane bl y (by omega)); rwa [Nat.zero_add] at this)) hrb.range ?_;refine hdv0 12 28 (.int .i64 (y : Int)) (by rfl) hrb.range ?_;refine hdv 13 29 (.int .i64 (y1 : Int)) (by rfl) (fun w _ => by go_simp) hrb.range ?_;refine hdv 14 30 (.pointer (some ⟨nb, y1, none⟩)) (by rfl) (fun w _ => run_index25 nb y1 (by omega) rfl (by kernel_rfl) (by kernel_rfl) w) hrb.range ?_;refine hdv 15 31 (.int .u64 ((lane bl y1).toNat : Int)) (by rfl) (fun w e => run_load1 rfl Tryz.underlying74 (by kernel_rfl) (by have := e y1 _ (laneCells_lane bl y1 (by omega)); rwa [Nat.zero_add] at this)) hrb.range ?_;refine hdv0 16 32 (.int .i64 (y : Int)) (by rfl) hrb.range ?_;refine hdv 17 33 (.int .i64 (y2 : Int)) (by rfl) (fun w _ => by go_simp) hrb.range ?_;refine hdv 18 34 (.pointer (some ⟨nb, y2, none⟩)) (by rfl) (fun w _ => run_index25 nb y2 (by omega) rfl (by kernel_rfl) (by kernel_rfl) w) hrb.range ?_;refine hdv 19 35 (.int .u64 ((lane bl y2).toNat : Int)) (by rfl) (fun w e => run_load1 rfl Tryz.underlying74 (by kernel_rfl) (by have := e y2 _ (laneCells_lane bl y2 (by omega)); rwa [Nat.zero_add] at this)) hrb.range ?_;refine hdv0 20 36 (.int .i64 (y : Int)) (by rfl) hrb.range ?_;refine hdv 21 37 (.int .i64 (y3 : Int)) (by rfl) (fun w _ => by go_simp) hrb.range ?_;refine hdv 22 38 (.pointer (some ⟨nb, y3, none⟩)) (by rfl) (fun w _ => run_index25 nb y3 (by omega) rfl (by kernel_rfl) (by kernel_rfl) w) hrb.range ?_;refine hdv 23 39 (.int .u64 ((lane bl y3).toNat : Int)) (by rfl) (fun w e => run_load1 rfl Tryz.underlying74 (by kernel_rfl) (by have := e y3 _ (laneCells_lane bl y3 (by omega)); rwa [Nat.zero_add] at this)) hrb.range ?_;refine hdv0 24 40 (.int .i64 (y : Int)) (by rfl) hrb.range ?_;refine hdv 25 41 (.int .i64 (y4 : Int)) (by rfl) (fun w _ => by go_simp) hrb.range ?_;refine hdv 26 42 (.pointer (some ⟨nb, y4, none⟩)) (by rfl) (fun w _ => run_index25 nb y4 (by omega) rfl (by kernel_rfl) (by kernel_rfl) w) hrb.range ?_;refine hdv 27 43 (.int .u64 ((lane bl y4).toNat : Int)) (by rfl) (fun w e => run_load1 rfl Tryz.underlying74 (by kernel_rfl) (by have := e y4 _ (laneCells_lane bl y4 (by omega)); rwa [Nat.zero_add] at this)) hrb.range ?_;refine held_call 28 (Op.call { callee := Callee.value (Operand.func 179), args := #[Operand.tmp 27, Operand.tmp 31, Operand.tmp 35, Operand.tmp 39, Operand.tmp 43], argTypes := #[74, 74, 74, 74, 74] }) 199 (some 44) 179 #[.int .u64 ((lane bl y).toNat : Int), .int .u64 ((lane bl y1).toNat : Int), .int .u64 ((lane bl y2).toNat : Int), .int .u64 ((lane bl y3).toNat : Int), .int .u64 ((lane bl y4).toNat : Int)] (by kernel_rfl) (by kernel_rfl) (by kernel_rfl) (by kernel_rfl) ?_;refine (chi_any (lane bl y) (lane bl y1) (lane bl y2) (lane bl y3) (lane bl y4) _).mono ?_;rintro e w' ⟨rfl, hw'⟩;obtain rfl : W = w' := hw'.symm;generalize lane bl y ^^^ andn (lane bl y2) (lane bl y1) = z0 at *;generalize lane bl y1 ^^^ andn (lane bl y3) (lane bl y2) = z1 at *;generalize lane bl y2 ^^^ andn (lane bl y4) (lane bl y3) = z2 at *;generalize lane bl y3 ^^^ andn (lane bl y) (lane bl y4) = z3 at *;generalize lane bl y4 ^^^ andn (lane bl y1) (lane bl y) = z4 at *;refine ⟨_, rfl, hrb.range, ?_⟩;simp only [Act.put, arr9, hd9, tl9];refine hdv0 29 15 (.tuple #[.int .u64 (z0.toNat : Int), .int .u64 (z1.toNat : Int), .int .u64 (z2.toNat : Int), .int .u64 (z3.toNat : Int), .int .u64 (z4.toNat : Int)]) (by rfl) hrb.range ?_;refine hdv0 30 45 (.int .u64 (z0.toNat : Int)) (by rfl) hrb.range ?_;refine hdv0 31 46 (.int .u64 (z1.toNat : Int)) (by rfl) hrb.range ?_;refine hdv0 32 47 (.int .u64 (z2.toNat : Int)) (by rfl) hrb.range ?_;refine hdv0 33 48 (.int .u64 (z3.toNat : Int)) (by rfl) hrb.range ?_;refine hdv0 34 49 (.int .u64 (z4.toNat : Int)) (by rfl) hrb.range ?_;refine hdv 35 50 (.pointer (some ⟨n0, y, none⟩)) (by rfl) (fun w _ => run_index25 n0 y (by omega) rfl (by kernel_rfl) (by kernel_rfl) w) hrb.range ?_;have hbvar : Below n0 W W := Below.refl _ _;refine held_one 36 (by kernel_rfl) ?_;have hs0 := hrs.set_ y (.int .u64 (z0.toNat : Int));rw [laneCells_set] at hs0;refine step_store1 36 (Op.store 74 (Operand.tmp 50) (Operand.tmp 45)) (by kernel_rfl) (by kernel_rfl) (W.setCell ⟨n0, y, none⟩ (.int .u64 (z0.toNat : Int))) (run_store64 z0 n0 y rfl (by kernel_rfl) (by kernel_rfl) ((hrs.cell y).trans (laneCells_get _ y (by first | omega | (simp; omega)))) (hrs.free y)) ?_;have hrb := hrb.other ⟨n0, y, none⟩ (.int .u64 (z0.toNat : Int)) (by show nb ≠ n0; omega);have hre := hre.other ⟨n0, y, none⟩ (.int .u64 (z0.toNat : Int)) (by show n0 + 1 ≠ n0; omega);have hbel := hbel.setCell (p := ⟨n0, y, none⟩) (Nat.le_refl n0) (.int .u64 (z0.toNat : Int));have hbvar := hbvar.setCell (p := ⟨n0, y, none⟩) (Nat.le_refl n0) (.int .u64 (z0.toNat : Int));have hrs := hs0;clear hs0;generalize W.setCell ⟨n0, y, none⟩ (.int .u64 (z0.toNat : Int)) = V0 at *;refine ⟨hrb.range, ?_⟩;refine hdv 37 51 (.pointer (some ⟨n0, y1, none⟩)) (by rfl) (fun w _ => run_index25 n0 y1 (by omega) rfl (by kernel_rfl) (by kernel_rfl) w) hrb.range ?_;refine held_one 38 (by kernel_rfl) ?_;have hs1 := hrs.set_ y1 (.int .u64 (z1.toNat : Int));rw [laneCells_set] at hs1;refine step_store1 38 (Op.store 74 (Operand.tmp 51) (Operand.tmp 46)) (by kernel_rfl) (by kernel_rfl) (V0.setCell ⟨n0, y1, none⟩ (.int .u64 (z1.toNat : Int))) (run_store64 z1 n0 y1 rfl (by kernel_rfl) (by kernel_rfl) ((hrs.cell y1).trans (laneCells_get _ y1 (by first | omega | (simp; omega)))) (hrs.free y1)) ?_;have hrb := hrb.other ⟨n0, y1, none⟩ (.int .u64 (z1.toNat : Int)) (by show nb ≠ n0; omega);have hre := hre.other ⟨n0, y1, none⟩ (.int .u64 (z1.toNat : Int)) (by show n0 + 1 ≠ n0; omega);have hbel := hbel.setCell (p := ⟨n0, y1, none⟩) (Nat.le_refl n0) (.int .u64 (z1.toNat : Int));have hbvar := hbvar.setCell (p := ⟨n0, y1, none⟩) (Nat.le_refl n0) (.int .u64 (z1.toNat : Int));have hrs := hs1;clear hs1;generalize V0.setCell ⟨n0, y1, none⟩ (.int .u64 (z1.toNat : Int)) = V1 at *;refine ⟨hrb.range, ?_⟩;refine hdv 39 52 (.pointer (some ⟨n0, y2, none⟩)) (by rfl) (fun w _ => run_index25 n0 y2 (by omega) rfl (by kernel_rfl) (by kernel_rfl) w) hrb.range ?_;refine held_one 40 (by kernel_rfl) ?_;have hs2 := hrs.set_ y2 (.int .u64 (z2.toNat : Int));rw [laneCells_set] at hs2;refine step_store1 40 (Op.store 74 (Operand.tmp 52) (Operand.tmp 47)) (by kernel_rfl) (by kernel_rfl) (V1.setCell ⟨n0, y2, none⟩ (.int .u64 (z2.toNat : Int))) (run_store64 z2 n0 y2 rfl (by kernel_rfl) (by kernel_rfl) ((hrs.cell y2).trans (laneCells_get _ y2 (by first | omega | (simp; omega)))) (hrs.free y2)) ?_;have hrb := hrb.other ⟨n0, y2, none⟩ (.int .u64 (z2.toNat : Int)) (by show nb ≠ n0; omega);have hre := hre.other ⟨n0, y2, none⟩ (.int .u64 (z2.toNat : Int)) (by show n0 + 1 ≠ n0; omega);have hbel := hbel.setCell (p := ⟨n0, y2, none⟩) (Nat.le_refl n0) (.int .u64 (z2.toNat : Int));have hbvar := hbvar.setCell (p := ⟨n0, y2, none⟩) (Nat.le_refl n0) (.int .u64 (z2.toNat : Int));have hrs := hs2;clear hs2;generalize V1.setCell ⟨n0, y2, none⟩ (.int .u64 (z2.toNat : Int)) = V2 at *;refine ⟨hrb.range, ?_⟩;refine hdv 41 53 (.pointer (some ⟨n0, y3, none⟩)) (by rfl) (fun w _ => run_index25 n0 y3 (by omega) rfl (by kernel_rfl) (by kernel_rfl) w) hrb.range ?_;refine held_one 42 (by kernel_rfl) ?_;have hs3 := hrs.set_ y3 (.int .u64 (z3.toNat : Int));rw [laneCells_set] at hs3;refine step_store1 42 (Op.store 74 (Operand.tmp 53) (Operand.tmp 48)) (by kernel_rfl) (by kernel_rfl) (V2.setCell ⟨n0, y3, none⟩ (.int .u64 (z3.toNat : Int))) (run_store64 z3 n0 y3 rfl (by kernel_rfl) (by kernel_rfl) ((hrs.cell y3).trans (laneCells_get _ y3 (by first | omega | (simp; omega)))) (hrs.free y3)) ?_;have hrb := hrb.other ⟨n0, y3, none⟩ (.int .u64 (z3.toNat : Int)) (by show nb ≠ n0; omega);have hre := hre.other ⟨n0, y3, none⟩ (.int .u64 (z3.toNat : Int)) (by show n0 + 1 ≠ n0; omega);have hbel := hbel.setCell (p := ⟨n0, y3, none⟩) (Nat.le_refl n0) (.int .u64 (z3.toNat : Int));have hbvar := hbvar.setCell (p := ⟨n0, y3, none⟩) (Nat.le_refl n0) (.int .u64 (z3.toNat : Int));have hrs := hs3;clear hs3;generalize V2.setCell ⟨n0, y3, none⟩ (.int .u64 (z3.toNat : Int)) = V3 at *;refine ⟨hrb.range, ?_⟩;refine hdv 43 54 (.pointer (some ⟨n0, y4, none⟩)) (by rfl) (fun w _ => run_index25 n0 y4 (by omega) rfl (by kernel_rfl) (by kernel_rfl) w) hrb.range ?_;refine held_one 44 (by kernel_rfl) ?_;have hs4 := hrs.set_ y4 (.int .u64 (z4.toNat : Int));rw [laneCells_set] at hs4;refine step_store1 44 (Op.store 74 (Operand.tmp 54) (Operand.tmp 49)) (by kernel_rfl) (by kernel_rfl) (V3.setCell ⟨n0, y4, none⟩ (.int .u64 (z4.toNat : Int))) (run_store64 z4 n0 y4 rfl (by kernel_rfl) (by kernel_rfl) ((hrs.cell y4).trans (laneCells_get _ y4 (by first | omega | (simp; omega)))) (hrs.free y4)) ?_;have hrb := hrb.other ⟨n0, y4, none⟩ (.int .u64 (z4.toNat : Int)) (by show nb ≠ n0; omega);have hre := hre.other ⟨n0, y4, none⟩ (.int .u64 (z4.toNat : Int)) (by show n0 + 1 ≠ n0; omega);have hbel := hbel.setCell (p := ⟨n0, y4, none⟩) (Nat.le_refl n0) (.int .u64 (z4.toNat : Int));have hbvar := hbvar.setCell (p := ⟨n0, y4, none⟩) (Nat.le_refl n0) (.int .u64 (z4.toNat : Int));have hrs := hs4;clear hs4;generalize V3.setCell ⟨n0, y4, none⟩ (.int .u64 (z4.toNat : Int)) = V4 at *;refine ⟨hrb.range, ?_⟩;refine wpAnyH_done (by kernel_rfl) ?_ _
     try simp only [Act.put, arr9, hd9, tl9]
     have hvZ : KVars V4 := hv.under hbvar (by omega);rw [HCS.out] at hrs;clear q1 q2 q3 q4 p1 p2 p3 p4;go_wp2
     go_roundw
     case rel => exact ⟨j + 1, by omega, by have := HYJ.out.1; rw [show 5 * (j + 1) = y + 5 by omega]; go_num, hrs, hrb, hre, hvZ, hbel⟩
     case measure => simp [intOf]; have := HYJ.out.1; omega
    ·obtain rfl : j = 5 := by omega
     rw [chiUpto_five bl st hstl] at hrs;have hc0 := (hrs.cell 0).trans (laneCells_lane (chiL bl) 0 (by rw [chiL_length]; decide));have hf0 := hrs.free 0;have hck := hv n hlt;have hset := hrs.set_ 0 (.int .u64 ((lane (chiL bl) 0 ^^^ lane kC n).toNat : Int));rw [laneCells_set] at hset;have HP : Hid ((chiL bl).set 0 (lane (chiL bl) 0 ^^^ lane kC n) = permK s0 (n + 1)) := Lib.hid (by rw [HBL.out, HST.out]; rfl);rw [HP.out] at hset;have HX := Lib.hid (u64_xor (lane (chiL bl) 0) (lane kC n));clear hrb;generalize lane (chiL bl) 0 = x0 at *;generalize lane kC n = kc at *;go_wp2
     go_region
     go_wp2
     go_roundw
     case rel =>
      rw [HX.out];exact ⟨n + 1, by omega, by go_num, hset, hre.beside (by omega), fun k hk => (World.cell?_setCell_other _ _ _ _ (by intro e; cases e; omega)).trans (hv k hk), below_set2 hbel (by omega)⟩
     case measure => simp [intOf]; omega
  ·obtain rfl : n = 24 := by omega
   have hpl := permL_length s0 hs0;have hrs : Row wr n0 164 (laneCells (permL s0)) := hrs
   go_wp2_with (first
    | refine wpList_load_any rfl 164 (.tmp 1) rfl n0 rfl 164 (laneCells (permL s0)) (.array 25 74) hrs Tryz.underlying164 rfl (info_l25.trans (size_lanes _ _ hpl)) ?_
    | refine wpList_store_any rfl 164 (.tmp 2) (.tmp 63) rfl (n0 + 1) rfl (laneCells (permL s0)) rfl 164 _ hre (info_l25.trans (size_lanes _ _ hpl)) (by rw [laneCells_length, laneCells_length, hpl]; rfl) (cell_oneLane _) ?_)
   intro w9 hr9 b9 _;have hb9 := hbel.trans (b9.under (Nat.le_of_lt (Nat.lt_trans (Nat.lt_succ_self n0) hre.lt)) (by omega));go_wp2;exact ret_row Tryz.results174 rfl rfl hr9 Tryz.underlying164 rfl (info_l25.trans (size_lanes _ _ hpl)) ⟨rfl, hb9⟩
def d0L (l : List UInt64) : UInt64 := colX l 4 ^^^ rotl (colX l 1) 1
def d1L (l : List UInt64) : UInt64 := colX l 0 ^^^ rotl (colX l 2) 1
def d2L (l : List UInt64) : UInt64 := colX l 1 ^^^ rotl (colX l 3) 1
def d3L (l : List UInt64) : UInt64 := colX l 2 ^^^ rotl (colX l 4) 1
def d4L (l : List UInt64) : UInt64 := colX l 3 ^^^ rotl (colX l 0) 1
def oH (n : Nat) : Edge := { on := n, ground := Ground.phase }
def oG (n : Nat) : Edge := { on := n, ground := Ground.data }
def oI (d k : Nat) : Oper := { dst := some d, op := Op.indexAddr 164 (Operand.tmp 1) (Operand.const (Value.int IntKind.i64 k)), type := 0, pos := "keccak.go:47", after := #[], guard := none }
def oL (d x n : Nat) : Oper := { dst := some d, op := Op.load 74 (Operand.tmp x), type := 74, pos := "keccak.go:47", after := #[oG n], guard := none }
def oM (d x : Nat) : Oper := { dst := some d, op := Op.move (Operand.tmp x), type := 74, pos := "keccak.go:47", after := #[], guard := none }
def oX (d x y m n : Nat) : Oper := { dst := some d, op := Op.binOp BinOp.xor 74 (Operand.tmp x) (Operand.tmp y) 74, type := 74, pos := "keccak.go:47", after := #[oG m, oG n], guard := none }
def oC (d x k : Nat) (p : String) (m : Array Edge) : Oper := { dst := some d, op := Op.call { callee := Callee.value (Operand.func 181), args := #[Operand.tmp x, Operand.const (Value.int IntKind.i64 k)], argTypes := #[74, 3] }, type := 74, pos := p, after := m, guard := none }
def mixOps : List Oper := [
 oI 103 0,
 oL 104 103 0,
 oM 105 8,
 oX 106 104 105 1 2,
 oI 107 6,
 oL 108 107 4,
 oM 109 9,
 oX 110 108 109 5 6,
 oC 111 110 44 "keccak.go:48" #[oG 7],
 oI 112 12,
 oL 113 112 9,
 oM 114 10,
 oX 115 113 114 10 11,
 oC 116 115 43 "keccak.go:48" #[oG 12, ⟨8, .chain⟩],
 oI 117 18,
 oL 118 117 14,
 oM 119 11,
 oX 120 118 119 15 16,
 oC 121 120 21 "keccak.go:48" #[oG 17, ⟨13, .chain⟩],
 oI 122 24,
 oL 123 122 19,
 oM 124 12,
 oX 125 123 124 20 21,
 oC 126 125 14 "keccak.go:48" #[oG 22, ⟨18, .chain⟩],
 oI 127 3,
 oL 128 127 24,
 oM 129 11,
 oX 130 128 129 25 26,
 oC 131 130 28 "keccak.go:49" #[oG 27, ⟨23, .chain⟩],
 oI 132 9,
 oL 133 132 29,
 oM 134 12,
 oX 135 133 134 30 31,
 oC 136 135 20 "keccak.go:49" #[oG 32, ⟨28, .chain⟩],
 oI 137 10,
 oL 138 137 34,
 oM 139 8,
 oX 140 138 139 35 36,
 oC 141 140 3 "keccak.go:49" #[oG 37, ⟨33, .chain⟩],
 oI 142 16,
 oL 143 142 39,
 oM 144 9,
 oX 145 143 144 40 41,
 oC 146 145 45 "keccak.go:49" #[oG 42, ⟨38, .chain⟩],
 oI 147 22,
 oL 148 147 44,
 oM 149 10,
 oX 150 148 149 45 46,
 oC 151 150 61 "keccak.go:49" #[oG 47, ⟨43, .chain⟩],
 oI 152 1,
 oL 153 152 49,
 oM 154 9,
 oX 155 153 154 50 51,
 oC 156 155 1 "keccak.go:50" #[oG 52, ⟨48, .chain⟩],
 oI 157 7,
 oL 158 157 54,
 oM 159 10,
 oX 160 158 159 55 56,
 oC 161 160 6 "keccak.go:50" #[oG 57, ⟨53, .chain⟩],
 oI 162 13,
 oL 163 162 59,
 oM 164 11,
 oX 165 163 164 60 61,
 oC 166 165 25 "keccak.go:50" #[oG 62, ⟨58, .chain⟩],
 oI 167 19,
 oL 168 167 64,
 oM 169 12,
 oX 170 168 169 65 66,
 oC 171 170 8 "keccak.go:50" #[oG 67, ⟨63, .chain⟩],
 oI 172 20,
 oL 173 172 69,
 oM 174 8,
 oX 175 173 174 70 71,
 oC 176 175 18 "keccak.go:50" #[oG 72, ⟨68, .chain⟩],
 oI 177 4,
 oL 178 177 74,
 oM 179 12,
 oX 180 178 179 75 76,
 oC 181 180 27 "keccak.go:51" #[oG 77, ⟨73, .chain⟩],
 oI 182 5,
 oL 183 182 79,
 oM 184 8,
 oX 185 183 184 80 81,
 oC 186 185 36 "keccak.go:51" #[oG 82, ⟨78, .chain⟩],
 oI 187 11,
 oL 188 187 84,
 oM 189 9,
 oX 190 188 189 85 86,
 oC 191 190 10 "keccak.go:51" #[oG 87, ⟨83, .chain⟩],
 oI 192 17,
 oL 193 192 89,
 oM 194 10,
 oX 195 193 194 90 91,
 oC 196 195 15 "keccak.go:51" #[oG 92, ⟨88, .chain⟩],
 oI 197 23,
 oL 198 197 94,
 oM 199 11,
 oX 200 198 199 95 96,
 oC 201 200 56 "keccak.go:51" #[oG 97, ⟨93, .chain⟩],
 oI 202 2,
 oL 203 202 99,
 oM 204 10,
 oX 205 203 204 100 101,
 oC 206 205 62 "keccak.go:52" #[oG 102, ⟨98, .chain⟩],
 oI 207 8,
 oL 208 207 104,
 oM 209 11,
 oX 210 208 209 105 106,
 oC 211 210 55 "keccak.go:52" #[oG 107, ⟨103, .chain⟩],
 oI 212 14,
 oL 213 212 109,
 oM 214 12,
 oX 215 213 214 110 111,
 oC 216 215 39 "keccak.go:52" #[oG 112, ⟨108, .chain⟩],
 oI 217 15,
 oL 218 217 114,
 oM 219 8,
 oX 220 218 219 115 116,
 oC 221 220 41 "keccak.go:52" #[oG 117, ⟨113, .chain⟩],
 oI 222 21,
 oL 223 222 119,
 oM 224 9,
 oX 225 223 224 120 121,
 oC 226 225 2 "keccak.go:52" #[oG 122, ⟨118, .chain⟩],
 { dst := some 227, op := Op.build 164 #[(0, Operand.tmp 106), (1, Operand.tmp 111), (2, Operand.tmp 116), (3, Operand.tmp 121), (4, Operand.tmp 126), (5, Operand.tmp 131), (6, Operand.tmp 136), (7, Operand.tmp 141), (8, Operand.tmp 146), (9, Operand.tmp 151), (10, Operand.tmp 156), (11, Operand.tmp 161), (12, Operand.tmp 166), (13, Operand.tmp 171), (14, Operand.tmp 176), (15, Operand.tmp 181), (16, Operand.tmp 186), (17, Operand.tmp 191), (18, Operand.tmp 196), (19, Operand.tmp 201), (20, Operand.tmp 206), (21, Operand.tmp 211), (22, Operand.tmp 216), (23, Operand.tmp 221), (24, Operand.tmp 226)], type := 164, pos := "keccak.go:47", after := #[oG 3, oG 8, oG 13, oG 18, oG 23, oG 28, oG 33, oG 38, oG 43, oG 48, oG 53, oG 58, oG 63, oG 68, oG 73, oG 78, oG 83, oG 88, oG 93, oG 98, oG 103, oG 108, oG 113, oG 118, oG 123], guard := none },
 { dst := none, op := Op.store 164 (Operand.tmp 2) (Operand.tmp 227), type := 0, pos := "keccak.go:47", after := ([oG 124, { on := 123, ground := Ground.chain }, oH 0, oH 1, oH 2, oH 3, oH 4, oH 5, oH 6, oH 7, oH 8, oH 9, oH 10, oH 11, oH 12, oH 13, oH 14, oH 15, oH 16, oH 17, oH 18, oH 19, oH 20, oH 21, oH 22, oH 23, oH 24, oH 25, oH 26, oH 27, oH 28, oH 29, oH 30, oH 31, oH 32, oH 33, oH 34, oH 35, oH 36, oH 37, oH 38, oH 39, oH 40, oH 41, oH 42, oH 43, oH 44, oH 45, oH 46, oH 47, oH 48, oH 49, oH 50, oH 51, oH 52, oH 53, oH 54, oH 55, oH 56, oH 57, oH 58, oH 59, oH 60].append [oH 61, oH 62, oH 63, oH 64, oH 65, oH 66, oH 67, oH 68, oH 69, oH 70, oH 71, oH 72, oH 73, oH 74, oH 75, oH 76, oH 77, oH 78, oH 79, oH 80, oH 81, oH 82, oH 83, oH 84, oH 85, oH 86, oH 87, oH 88, oH 89, oH 90, oH 91, oH 92, oH 93, oH 94, oH 95, oH 96, oH 97, oH 98, oH 99, oH 100, oH 101, oH 102, oH 103, oH 104, oH 105, oH 106, oH 107, oH 108, oH 109, oH 110, oH 111, oH 112, oH 113, oH 114, oH 115, oH 116, oH 117, oH 118, oH 119, oH 120, oH 121, oH 122, oH 123, oH 124]).toArray, guard := none }]
end Go.Proofs.YtdakbipiifkmfaaGreatDoor
