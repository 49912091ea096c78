/-
  WALKS: slices.Reverse on a block of bytes; octet.bigBytes and the functions above it.
-/
import Derived.Test.YthafhghnciofaaaDoorInts
import Derived.RegionTactic
import Derived.ChangeAlike
namespace Go.Proofs.YthafhghnciofaaaDoor
open Go.RowKit
set_option maxRecDepth 100000

/-- bs with its first k and its last k bytes exchanged -/
def revK (bs : List UInt8) (k : Nat) : List UInt8 := (List.range bs.length).map fun i => if i < k ∨ bs.length - k ≤ i then bs.getD (bs.length - 1 - i) 0 else bs.getD i 0
theorem revK_length (bs : List UInt8) (k : Nat) : (revK bs k).length = bs.length := by simp [revK]
theorem revK_get (bs : List UInt8) (k i : Nat) (h : i < (revK bs k).length) : (revK bs k)[i] = if i < k ∨ bs.length - k ≤ i then bs.getD (bs.length - 1 - i) 0 else bs.getD i 0 := by
  simp [revK]
theorem revK_zero (bs : List UInt8) : revK bs 0 = bs := by
  apply List.ext_getElem (by rw [revK_length])
  intro i h1 h2
  rw [revK_get, if_neg (by omega)]
  simp [List.getD, List.getElem?_eq_getElem h2]
theorem revK_end (bs : List UInt8) (k : Nat) (h : bs.length ≤ 2 * k + 1) : revK bs k = bs.reverse := by
  apply List.ext_getElem (by rw [revK_length, List.length_reverse])
  intro i h1 h2
  rw [revK_length] at h1
  rw [revK_get, List.getElem_reverse]
  by_cases hc : i < k ∨ bs.length - k ≤ i
  · rw [if_pos hc]
    simp [List.getD, List.getElem?_eq_getElem (show bs.length - 1 - i < bs.length by omega)]
  · rw [if_neg hc]
    have : bs.length - 1 - i = i := by omega
    simp only [this]
    simp [List.getD, List.getElem?_eq_getElem h1]
theorem revK_step (bs : List UInt8) (k : Nat) (h : 2 * k + 1 < bs.length) :
    ((revK bs k).set k (bs[bs.length - 1 - k]'(by omega))).set (bs.length - 1 - k) (bs[k]'(by omega)) = revK bs (k + 1) := by
  apply List.ext_getElem (by simp [revK_length])
  intro i h1 h2
  rw [revK_length] at h2
  rw [revK_get]
  by_cases e1 : bs.length - 1 - k = i
  · subst e1
    rw [List.getElem_set_self, if_pos (by omega)]
    have : bs.length - 1 - (bs.length - 1 - k) = k := by omega
    rw [this]
    simp [List.getD, List.getElem?_eq_getElem (show k < bs.length by omega)]
  · rw [List.getElem_set_ne e1]
    by_cases e2 : k = i
    · subst e2
      rw [List.getElem_set_self, if_pos (by omega)]
      simp [List.getD, List.getElem?_eq_getElem (show bs.length - 1 - k < bs.length by omega)]
    · rw [List.getElem_set_ne e2, revK_get]
      by_cases hc : i < k ∨ bs.length - k ≤ i
      · rw [if_pos hc, if_pos (by omega)]
      · rw [if_neg hc, if_neg (by omega)]
theorem revK_get_mid (bs : List UInt8) (k i : Nat) (h1 : k ≤ i) (h2 : i < bs.length - k) : (revK bs k)[i]'(by rw [revK_length]; omega) = bs[i]'(by omega) := by
  rw [revK_get, if_neg (by omega)]
  simp [List.getD, List.getElem?_eq_getElem (show i < bs.length by omega)]

set_option maxHeartbeats 400000 in
theorem reverse_blk (g c : Nat) (bs : List UInt8) (w : World) (hblk : Blk w g bs) (hlen : bs.length ≤ 1099511627776) :
    Calls Tryd.prog 56 #[.slice (some ⟨g, 0, none⟩) bs.length c] w fun e w' => e = .returned (.tuple #[]) ∧ Blk w' g bs.reverse ∧ ∀ B, B ≤ g → Below B w w' := by
  go_enter Tryd.func56, Tryd.ntmps56
  go_wp2
  go_loopw [2, 3] (fun i j wr => ∃ k : Nat, 2 * k ≤ bs.length + 1 ∧ i = .int .i64 k ∧ j = .int .i64 ((bs.length : Int) - 1 - k) ∧ Blk wr g (revK bs k) ∧ ∀ B, B ≤ g → Below B w wr) (fun i _ _ => bs.length - (intOf i).toNat)
  case atStart =>
    exact ⟨0, by omega, rfl, by simp, by rw [revK_zero]; exact hblk, fun B _ => Below.refl B _⟩
  case round =>
    obtain ⟨k, hk, rfl, rfl, hb, hbel⟩ := hrel
    by_cases hlt : 2 * k + 1 < bs.length
    · have hc1 := hb.cell k (by rw [revK_length]; omega)
      have hc2 := hb.cell (bs.length - 1 - k) (by rw [revK_length]; omega)
      rw [revK_get_mid bs k _ (by omega) (by omega)] at hc1 hc2
      have hf1 := hb.free k
      have hf2 := hb.free (bs.length - 1 - k)
      have hs := (hb.set_ k (bs[bs.length - 1 - k]'(by omega))).set_ (bs.length - 1 - k) (bs[k]'(by omega))
      rw [revK_step bs k hlt] at hs
      have HS := Lib.hid hs
      clear hs
      go_wp2
      go_region
      go_wp2
      go_roundw
      case rel =>
        exact ⟨k + 1, by omega, by go_num, by go_num, HS.out, fun B hB => (((hbel B hB).setCell (p := ⟨g, k, none⟩) hB _).setCell (p := ⟨g, bs.length - 1 - k, none⟩) hB _).drew⟩
      case measure => simp [intOf]; omega
    · go_wp2
      go_end0
      refine ⟨rfl, ?_, hbel⟩
      rw [revK_end bs k (by omega)] at hb
      exact hb

/-- What a function hands back that made a slice of its own. -/
def Gives (w : World) (bs : List UInt8) (v : Value) (w' : World) : Prop :=
  w'.ownsRow w.heap.size 5 1 v bs.length (Lib.byteCells bs) ∧ Below w.heap.size w w'

set_option maxHeartbeats 400000 in
theorem bigBytes_any (n k : Nat) (w : World) (hk : k ≤ 8) :
    Calls Tryd.prog 54 #[.int .u64 n, .int .i64 k] w fun e w' => ∃ v, e = .returned v ∧ v = .slice (some ⟨w.heap.size, 0, none⟩) k k ∧ Blk w' w.heap.size (bigB n k) ∧ Below w.heap.size w w' := by
  go_enter Tryd.func54, Tryd.ntmps54
  go_wp2_with (go_at_call 55; refine (littleBytes_any n k _ hk).mono ?_)
  rintro e w1 ⟨v, rfl, rfl, hb, hbel⟩
  go_wp2_with fail
  have hr := reverse_blk w.heap.size k (litB n k) w1 hb (by rw [litB_length]; omega)
  rw [litB_length] at hr
  refine hr.mono ?_
  rintro e w2 ⟨rfl, hb2, hbel2⟩
  go_wp2
  go_ret
  exact ⟨_, rfl, rfl, hb2, hbel.trans (hbel2 _ (Nat.le_refl _))⟩

theorem own_of_blk {w w' : World} {bs : List UInt8} {k : Nat} (hk : bs.length = k) (hm : k ≤ 8) (h : Blk w' w.heap.size bs) (hb : Below w.heap.size w w') : Gives w bs (.slice (some ⟨w.heap.size, 0, none⟩) k k) w' := by
  subst hk
  exact ⟨h.own (Nat.le_refl _) (by unfold maxLen; omega), hb⟩

theorem u64_any (n : Nat) (w : World) :
    Calls Tryd.prog 52 #[.int .u64 n] w fun e w' => ∃ v, e = .returned v ∧ Gives w (bigB n 8) v w' := by
  go_enter Tryd.func52, Tryd.ntmps52
  go_wp2_with (go_at_call 54; refine (bigBytes_any n 8 _ (by omega)).mono ?_)
  rintro e w1 ⟨v, rfl, rfl, hb, hbel⟩
  go_wp2
  go_ret
  exact ⟨_, rfl, own_of_blk (bigB_length _ _) (by omega) hb hbel⟩

theorem long_iff (n k : Nat) : (((n : Int) / 2 ^ (8 * (k : Int)).toNat) != 0) = decide (256 ^ k ≤ n) := by
  have e : (8 * (k : Int)).toNat = 8 * k := by omega
  have h2 : ((2 : Int) ^ (8 * k)) = ((256 ^ k : Nat) : Int) := by rw [← pow8]; simp
  rw [e, h2, ← Int.natCast_ediv]
  have hp : 0 < 256 ^ k := Nat.pow_pos (by decide)
  by_cases h : 256 ^ k ≤ n
  · rw [decide_eq_true h, bne_iff_ne]
    have := Nat.div_pos h hp
    omega
  · rw [decide_eq_false h]
    rw [Nat.div_eq_of_lt (by omega)]
    rfl

/-! Big and Little: the error, or the bytes. -/
def putErr (n : Nat) (size : Int) : Int := if size < 1 ∨ 8 < size then 1 else if 256 ^ size.toNat ≤ n then 3 else 0
end Go.Proofs.YthafhghnciofaaaDoor
