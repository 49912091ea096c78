/-
  WALKS: octet.FromBits and the document's own FromBits.
-/
import Derived.Test.YtijkhpiehaocpaaDoorBits
import Derived.Test.YtijkhpiehaocpaaDoorNumbersWalk
import Derived.RegionTactic
namespace Go.Proofs.YtijkhpiehaocpaaDoor
open Go.RowKit
set_option maxRecDepth 100000

/-- The slice value v reads as the bools l; what it reads lies below block B. -/
def Slb (w : World) (B : Nat) (v : Value) (l : List Bool) : Prop :=
  ∃ A c, v = .slice A l.length c ∧ l.length ≤ c ∧ c ≤ maxLen ∧ (0 < l.length → ∃ b off, A = some ⟨b, off, none⟩ ∧ b < B ∧ ∀ k (h : k < l.length), w.cell? ⟨b, off + k, none⟩ = some (.bool l[k]))
section
variable {w w' : World} {B B' : Nat} {v : Value} {A : Option Addr} {n c : Nat} {l : List Bool}
theorem Slb.form (h : Slb w B v l) : ∃ A c, v = .slice A l.length c ∧ l.length ≤ c ∧ c ≤ maxLen := by
  obtain ⟨A, c, h1, h2, h3, _⟩ := h
  exact ⟨A, c, h1, h2, h3⟩
theorem Slb.at_ (h : Slb w B (.slice A n c) l) (hn : 0 < l.length) : ∃ b off, A = some ⟨b, off, none⟩ ∧ b < B ∧ ∀ k (h : k < l.length), w.cell? ⟨b, off + k, none⟩ = some (.bool l[k]) := by
  obtain ⟨A', c', hv, _, _, hc⟩ := h
  cases hv
  exact hc hn
theorem Slb.keep (h : Slb w B v l) (hk : ∀ p : Addr, p.block < B → w'.cell? p = w.cell? p) : Slb w' B v l := by
  obtain ⟨A', c', hv, h1, h2, hc⟩ := h
  refine ⟨A', c', hv, h1, h2, fun hn => ?_⟩
  obtain ⟨b, off, hA, hb, hr⟩ := hc hn
  exact ⟨b, off, hA, hb, fun k hk' => (hk _ hb).trans (hr k hk')⟩
theorem Slb.more (h : Slb w B v l) (hB : B ≤ B') : Slb w B' v l := by
  obtain ⟨A', c', hv, h1, h2, hc⟩ := h
  refine ⟨A', c', hv, h1, h2, fun hn => ?_⟩
  obtain ⟨b, off, hA, hb, hr⟩ := hc hn
  exact ⟨b, off, hA, by omega, hr⟩
theorem Slb.below (h : Slb w B v l) (hb : Below B w w') : Slb w' B v l := h.keep fun _ hp => hb.cell hp
theorem Slb.step (h : Slb w w.heap.size v l) (hb : Below w.heap.size w w') : Slb w' w'.heap.size v l := (h.below hb).more hb.size
theorem Slb.of_own {base e : Nat} (h : w.ownsRow base e 1 v l.length (boolCells l)) : Slb w w.heap.size v l := by
  rcases h.2 with ⟨rfl, hn⟩ | ⟨g, cap, cur, rfl, hb, hg, hnc, hcm, hsz, hcur⟩
  · exact ⟨none, 0, by rw [hn], by omega, by unfold maxLen; omega, fun h => absurd h (by omega)⟩
  · refine ⟨some ⟨g, 0, none⟩, cap, rfl, hnc, hcm, fun hn => ⟨g, 0, rfl, (Array.getElem?_eq_some_iff.1 hg).1, fun k hk => ?_⟩⟩
    have := h.cellAt k (by omega)
    rw [Nat.zero_add, this]
    simp [boolCells, List.getElem?_eq_getElem hk]
end

/-! ### the value of bits -/
def valB : List Bool → Nat
  | [] => 0
  | b :: r => b.toNat + 2 * valB r
theorem valB_snoc (l : List Bool) (b : Bool) : valB (l ++ [b]) = valB l + 2 ^ l.length * b.toNat := by
  induction l with
  | nil => simp [valB]
  | cons x r ih =>
    simp only [List.cons_append, valB, ih, List.length_cons, Nat.pow_succ]
    rw [Nat.mul_add, ← Nat.mul_assoc, Nat.mul_comm 2 (2 ^ r.length)]
    omega
theorem valB_lt (l : List Bool) : valB l < 2 ^ l.length := by
  induction l with
  | nil => simp [valB]
  | cons x r ih =>
    have : x.toNat ≤ 1 := by cases x <;> simp
    simp only [valB, List.length_cons, Nat.pow_succ]
    omega
theorem pow2_le8 {k : Nat} (h : k ≤ 8) : 2 ^ k ≤ 256 := by
  calc 2 ^ k ≤ 2 ^ 8 := Nat.pow_le_pow_right (by decide) h
    _ = 256 := by decide
def chunk (l : List Bool) (j : Nat) : List Bool := (l.drop (8 * j)).take 8
def fromN (l : List Bool) (n : Nat) : List UInt8 := (List.range n).map fun j => UInt8.ofNat (valB (chunk l j))
def fromBits (l : List Bool) : List UInt8 := fromN l ((l.length + 7) / 8)
theorem fromN_length (l : List Bool) (n : Nat) : (fromN l n).length = n := by simp [fromN]
theorem fromN_get (l : List Bool) (n j : Nat) (h : j < (fromN l n).length) : (fromN l n)[j] = UInt8.ofNat (valB (chunk l j)) := by simp [fromN]
theorem fromBits_length (l : List Bool) : (fromBits l).length = (l.length + 7) / 8 := fromN_length _ _

theorem chunk_below (l : List Bool) (k j : Nat) (hk : k < l.length) (hj : j ≠ k / 8) : chunk (l.take (k + 1)) j = chunk (l.take k) j := by
  unfold chunk
  rw [take_snoc l k hk]
  by_cases h : 8 * j + 8 ≤ k
  · rw [List.drop_append_of_le_length (by rw [List.length_take]; omega), List.take_append_of_le_length (by rw [List.length_drop, List.length_take]; omega)]
  · rw [List.drop_eq_nil_of_le (by simp; omega), List.drop_eq_nil_of_le (by simp; omega)]
theorem chunk_at (l : List Bool) (k : Nat) (hk : k < l.length) : chunk (l.take (k + 1)) (k / 8) = chunk (l.take k) (k / 8) ++ [l[k]] ∧ (chunk (l.take k) (k / 8)).length = k % 8 := by
  unfold chunk
  have h1 : (List.drop (8 * (k / 8)) (l.take k)).length = k % 8 := by rw [List.length_drop, List.length_take]; omega
  rw [take_snoc l k hk, List.drop_append_of_le_length (by rw [List.length_take]; omega)]
  have h2 : List.take 8 (List.drop (8 * (k / 8)) (l.take k)) = List.drop (8 * (k / 8)) (l.take k) := List.take_of_length_le (by omega)
  rw [h2]
  refine ⟨List.take_of_length_le (by rw [List.length_append, h1]; simp; omega), h1⟩
theorem fromN_false (l : List Bool) (n k : Nat) (hk : k < l.length) (hb : l[k] = false) : fromN (l.take (k + 1)) n = fromN (l.take k) n := by
  unfold fromN
  apply List.map_congr_left
  intro j _
  by_cases hj : j = k / 8
  · subst hj
    rw [(chunk_at l k hk).1, valB_snoc, hb]
    simp
  · rw [chunk_below l k j hk hj]
theorem fromN_true (l : List Bool) (n k : Nat) (hk : k < l.length) (hb : l[k] = true) :
    (fromN (l.take k) n).set (k / 8) (UInt8.ofNat (valB (chunk (l.take k) (k / 8)) + 2 ^ (k % 8))) = fromN (l.take (k + 1)) n := by
  apply List.ext_getElem (by simp [fromN])
  intro j h1 h2
  rw [fromN_get]
  by_cases hj : k / 8 = j
  · subst hj
    rw [List.getElem_set_self, (chunk_at l k hk).1, valB_snoc, hb, (chunk_at l k hk).2]
    simp
  · rw [List.getElem_set_ne hj, fromN_get, chunk_below l k j hk (Ne.symm hj)]
theorem fromN_nil (n : Nat) : fromN [] n = List.replicate n 0 := by
  apply List.ext_getElem (by simp [fromN])
  intro j h1 h2
  rw [fromN_get]
  simp [chunk, valB]
theorem fromBits_snoc (l : List Bool) (j : Nat) (h : j < (l.length + 7) / 8) : (fromBits l).take (j + 1) = (fromBits l).take j ++ [UInt8.ofNat (valB (chunk l j))] := by
  rw [take_snoc _ _ (by rw [fromBits_length]; exact h)]
  congr 2
  exact fromN_get _ _ _ _
theorem or_bit (a m : Nat) (hm : m < 8) (ha : a < 2 ^ m) : bits .or .u8 (((UInt8.ofNat a).toNat : Nat) : Int) (2 ^ m % 256) = (((UInt8.ofNat (a + 2 ^ m)).toNat : Nat) : Int) := by
  have hp := pow2_le8 (show m + 1 ≤ 8 by omega)
  rw [Nat.pow_succ] at hp
  have h1 : (UInt8.ofNat a).toNat = a := by simp; omega
  have h2 : (UInt8.ofNat (a + 2 ^ m)).toNat = a + 2 ^ m := by simp; omega
  have e : ((2 : Int) ^ m) % 256 = ((2 ^ m : Nat) : Int) := by
    have e1 : ((2 : Int) ^ m) = ((2 ^ m : Nat) : Int) := by simp
    rw [e1]
    generalize 2 ^ m = t at *
    omega
  rw [h1, h2, e, (bits_nat .u8 8 (by decide) wraps_u8 _ _ (by omega) (by omega)).2, Nat.or_comm]
  have := Nat.two_pow_add_eq_or_of_lt ha 1
  rw [Nat.mul_one] at this
  rw [← this]
  congr 1
  omega

set_option maxHeartbeats 2000000 in
theorem fromBits_any (B : Nat) (v : Value) (l : List Bool) (w : World) (hs : Slb w B v l) (hB : B ≤ w.heap.size) (hl : l.length ≤ 1099511627776) :
    Calls Tryd.prog 19 #[v] w (OwnIs w (fromBits l)) := by
  obtain ⟨A, c, rfl, _, _⟩ := hs.form
  obtain ⟨n, hn⟩ : ∃ n, n = (l.length + 7) / 8 := ⟨_, rfl⟩
  have hmk := make_run n (by omega)
  have hd : IntKind.i64.wrap ((l.length : Int) + 7) / 8 = (n : Int) := by
    rw [IntWalk.i64_in _ ⟨by omega, by omega⟩]; omega
  have hd2 : ((l.length : Int) + 7) / 8 = (n : Int) := by omega
  have HN := Lib.hid hn
  have hn1 : l.length ≤ 8 * n := by omega
  have hn2 : n ≤ 137438953473 := by omega
  clear hn hd
  go_enter Tryd.func19, Tryd.ntmps19
  go_wp2
  go_loopw [4, 5, 13] (fun _ _ i wr => ∃ k : Nat, k ≤ l.length ∧ i = .int .i64 k ∧ Blk wr w.heap.size (fromN (l.take k) n) ∧ Below w.heap.size w wr) (fun _ _ i _ => l.length - (intOf i).toNat)
  case atStart => exact ⟨0, Nat.zero_le _, rfl, by rw [List.take_zero, fromN_nil]; exact Blk.new w _, (Below.refl _ _).alloc (Nat.le_refl _) _⟩
  case round =>
    obtain ⟨k, hk, rfl, hblk, hbel⟩ := hrel
    by_cases hlt : k < l.length
    · have hsr := hs.below (hbel.mono hB)
      obtain ⟨b, off, rfl, hbb, hc⟩ := hsr.at_ (by omega)
      have hc1 := hc k hlt
      have hk8 : k / 8 < n := by omega
      have hcx := hblk.cell (k / 8) (by rw [fromN_length]; exact hk8)
      rw [fromN_get] at hcx
      have hf := hblk.free (k / 8)
      cases hbit : l[k]
      · rw [hbit] at hc1
        rw [← fromN_false l n k hlt hbit] at hblk
        have HBK := Lib.hid hblk
        clear hc hblk hsr hcx hf hbit
        go_wp2
        go_roundw
        case rel => exact ⟨k + 1, by omega, by go_num, HBK.out, hbel⟩
        case measure => simp [intOf]; omega
      · rw [hbit] at hc1
        have hca := (chunk_at l k hlt).2
        have hvl := valB_lt (chunk (l.take k) (k / 8))
        rw [hca] at hvl
        have HOR := Lib.hid (or_bit _ (k % 8) (by omega) hvl)
        have hst := hblk.set_ (k / 8) (UInt8.ofNat (valB (chunk (l.take k) (k / 8)) + 2 ^ (k % 8)))
        rw [fromN_true l n k hlt hbit, ← HOR.out] at hst
        have HS := Lib.hid hst
        clear hc hblk hsr hst hca hvl hbit
        generalize (UInt8.ofNat (valB (chunk (l.take k) (k / 8)))).toNat = q at *
        go_wp2
        go_region
        go_wp2
        go_roundw
        case rel =>
          exact ⟨k + 1, by omega, by go_num, HS.out, (hbel.setCell (Nat.le_refl _) _).drew⟩
        case measure => simp [intOf]; omega
    · obtain rfl : k = l.length := by omega
      have HO : Hid (Blk wr w.heap.size (fromBits l)) := by
        rw [List.take_of_length_le (Nat.le_refl _), HN.out] at hblk
        exact Lib.hid hblk
      have HLN : Hid ((fromBits l).length = n) := by rw [fromBits_length, HN.out]; exact Lib.hid rfl
      clear hblk
      go_wp2
      go_ret
      exact ⟨_, rfl, gives_blk HLN.out (by omega) HO.out hbel⟩

def pw (k : Nat) : Nat := 2 ^ k
theorem drop_take (l : List Bool) (i k : Nat) (h : i ≤ k) (hk : k < l.length) : (l.drop i).take (k + 1 - i) = (l.drop i).take (k - i) ++ [l[k]] := by
  have e : k + 1 - i = (k - i) + 1 := by omega
  rw [e, take_snoc _ _ (by rw [List.length_drop]; omega)]
  congr 2
  rw [List.getElem_drop]
  congr 1
  omega

end Go.Proofs.YtijkhpiehaocpaaDoor
