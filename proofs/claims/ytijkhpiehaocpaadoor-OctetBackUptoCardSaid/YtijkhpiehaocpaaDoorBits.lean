/-
  WALKS: octet.Bits and the document's own Bits: the bits of each byte, the lowest first.
-/
import Derived.Test.YtijkhpiehaocpaaDoorBytes
namespace Go.Proofs.YtijkhpiehaocpaaDoor
open Go.RowKit
set_option maxRecDepth 100000

theorem info_bool : (Tryd.prog.info? 4).map (fun i => (i.zero, i.size, i.bytes)) = some (some (.bool false), 1, 1) := by kernel_rfl
def boolCells (l : List Bool) : List Value := l.map Value.bool
theorem boolCells_append (a b : List Bool) : boolCells (a ++ b) = boolCells a ++ boolCells b := by simp [boolCells]
theorem boolCells_length (a : List Bool) : (boolCells a).length = a.length := by simp [boolCells]

/-- bit i of a byte -/
def bitAt (b : UInt8) (i : Nat) : Bool := decide (b.toNat / 2 ^ i % 2 = 1)
def bits8 (b : UInt8) : List Bool := (List.range 8).map (bitAt b)
def bitsL (bs : List UInt8) : List Bool := bs.flatMap bits8
theorem bits8_length (b : UInt8) : (bits8 b).length = 8 := by simp [bits8]
theorem bitsL_snoc (bs : List UInt8) (b : UInt8) : bitsL (bs ++ [b]) = bitsL bs ++ bits8 b := by simp [bitsL]
theorem bitsL_length (bs : List UInt8) : (bitsL bs).length = 8 * bs.length := by
  induction bs with
  | nil => rfl
  | cons b r ih =>
    simp only [bitsL, List.flatMap_cons, List.length_append, List.length_cons] at ih ⊢
    rw [bits8_length, ih]; omega
theorem bits8_take (b : UInt8) (i : Nat) (h : i < 8) : (bits8 b).take (i + 1) = (bits8 b).take i ++ [bitAt b i] := by
  rw [take_snoc _ _ (by rw [bits8_length]; exact h)]
  simp [bits8]

theorem shr_bit (b : UInt8) (i : Nat) : (bits .and .u8 ((b.toNat : Int) / 2 ^ i) 1 == 1) = bitAt b i := by
  have hb := b.toNat_lt
  have e : ((b.toNat : Int) / 2 ^ i) = ((b.toNat / 2 ^ i : Nat) : Int) := by simp
  have hq : b.toNat / 2 ^ i ≤ b.toNat := Nat.div_le_self _ _
  rw [e]
  unfold bitAt
  generalize b.toNat / 2 ^ i = q at hq ⊢
  have h1 : bits .and .u8 (q : Int) 1 = (q : Int) % 2 := bits_mask .u8 8 (by decide) wraps_u8 1 (by decide) _ (by omega) (by omega)
  rw [h1]
  by_cases h : q % 2 = 1
  · rw [decide_eq_true h, beq_iff_eq]; omega
  · rw [decide_eq_false h, beq_eq_false_iff_ne]; omega
theorem rem_bit (b : UInt8) (i : Nat) : (((b.toNat / 2 ^ i : Nat) : Int) % 2 == 1) = bitAt b i := by
  unfold bitAt
  by_cases h : b.toNat / 2 ^ i % 2 = 1
  · rw [decide_eq_true h, beq_iff_eq]; omega
  · rw [decide_eq_false h, beq_eq_false_iff_ne]; omega
theorem half_step (n i : Nat) : (((n / 2 ^ i : Nat) : Int) / 2) = ((n / 2 ^ (i + 1) : Nat) : Int) := by
  rw [Nat.pow_succ, ← Nat.div_div_eq_div_mul]; omega

theorem made_false (n : Nat) : madeCells #[.bool false] n = (boolCells (List.replicate n false)).toArray := by
  apply Array.ext
  · simp [madeCells, boolCells]
  · intro i h1 h2
    simp [madeCells, boolCells, Nat.mod_one]
theorem make0b_run (n : Nat) (hn : n ≤ 281474976710656) (u : World) : (Instr.makeSlice 41 (.int .i64 0) (.int .i64 (n : Int))).run Tryd.prog u =
    .ok (.slice (some ⟨u.heap.size, 0, none⟩) 0 n) (u.alloc (.cells (boolCells (List.replicate n false)).toArray 4)) := by
  obtain ⟨i0, hi, hz0, hz1, hz2⟩ := info_parts info_bool
  have h := run_make (P := Tryd.prog) u 41 4 i0 (.bool false) Tryd.underlying41 hi hz0 .i64 .i64 (0 : Int) (n : Int) (by omega) (by omega) (by rw [hz2]; omega) (by omega)
  have e : (n : Int).toNat = n := by omega
  rw [e] at h
  rw [← made_false]
  simpa [hz1, Value.cells] using h

/-- A slice of bools is handed back, in memory of its own. -/
def OwnB (w : World) (l : List Bool) (e : Ending) (w' : World) : Prop := ∃ v, e = .returned v ∧ w'.ownsRow w.heap.size 4 1 v l.length (boolCells l) ∧ Below w.heap.size w w'

set_option maxHeartbeats 2000000 in
theorem bits_any (B : Nat) (v : Value) (bs : List UInt8) (w : World) (hs : Sl w B v bs) (hB : B ≤ w.heap.size) (hl : bs.length ≤ 1099511627776) :
    Calls Tryd.prog 20 #[v] w (OwnB w (bitsL bs)) := by
  obtain ⟨i0, hi, hz0, hz1, hz2⟩ := info_parts info_bool
  obtain ⟨A, c, rfl, _, _⟩ := hs.form
  have hmk := make0b_run (8 * bs.length) (by omega)
  simp only [Int.natCast_mul, Int.cast_ofNat_Int] at hmk
  go_enter Tryd.func20, Tryd.ntmps20
  go_wp2
  go_loopw [3, 13] (fun o i wr => ∃ k : Nat, k ≤ bs.length ∧ i = .int .i64 k ∧ wr.ownsRow w.heap.size 4 1 o (8 * k) (boolCells (bitsL (bs.take k))) ∧ Below w.heap.size w wr) (fun _ i _ => bs.length - (intOf i).toNat)
  case atStart =>
    exact ⟨0, Nat.zero_le _, rfl, World.ownsRow_made w _ (8 * bs.length) (Nat.le_refl _) (by unfold maxLen; omega) (by simp [boolCells]), (Below.refl _ _).alloc (Nat.le_refl _) _⟩
  case round =>
    obtain ⟨k, hk, rfl, hown, hbel⟩ := hrel
    have hsr := hs.below (hbel.mono hB)
    by_cases hlt : k < bs.length
    · obtain ⟨b, off, rfl, hb, hc⟩ := hsr.at_ (by omega)
      have hc1 := hc k hlt
      have hb8 := bs[k].toNat_lt
      obtain ⟨x, hx⟩ : ∃ x, x = bs[k] := ⟨_, rfl⟩
      rw [← hx] at hc1 hb8
      have HX := Lib.hid hx
      obtain ⟨wo, hwo⟩ : ∃ wo : World, wo = wr := ⟨_, rfl⟩
      subst hwo
      clear hc hx hsr
      go_wp2
      go_loopw [3, 17] (fun o i wr => ∃ j : Nat, j ≤ 8 ∧ i = .int .i64 j ∧ wr.ownsRow w.heap.size 4 1 o (8 * k + j) (boolCells (bitsL (bs.take k) ++ (bits8 x).take j)) ∧ Below w.heap.size w wr) (fun _ i _ => 8 - (intOf i).toNat)
      case atStart =>
        exact ⟨0, Nat.zero_le _, rfl, by simpa using hown, hbel⟩
      case round =>
        obtain ⟨j, hj, rfl, hown1, hbel1⟩ := hrel
        have hsz1 := hbel1.size
        by_cases hjl : j < 8
        · have HS := Lib.hid (shr_bit x j)
          have HB : Hid (boolCells (bitsL (bs.take k) ++ (bits8 x).take (j + 1)) = boolCells (bitsL (bs.take k) ++ (bits8 x).take j) ++ [.bool (bitAt x j)]) := by
            apply Lib.hid
            rw [bits8_take x j hjl, ← List.append_assoc, boolCells_append _ [bitAt x j]]
            rfl
          generalize boolCells (bitsL (bs.take k) ++ (bits8 x).take j) = xs at hown1 HB
          go_wp2_with (at_builtin; refine wp_append1 _ 41 4 i0 (.bool false) Tryd.underlying41 hi hz0 hz1 hz2 rfl rfl _ _ rfl hown1 rfl rfl rfl (by omega) hsz1 ?_)
          intro v' w1 hown2 _ hb1
          rw [HS.out, ← HB.out] at hown2
          have HO := Lib.hid hown2
          clear hown2
          go_wp2
          go_roundw
          case rel => exact ⟨j + 1, by omega, by go_num, HO.out, hbel1.trans (hb1 _ (Nat.le_refl _))⟩
          case measure => simp [intOf]; omega
        · obtain rfl : j = 8 := by omega
          have HO : ∀ v, wr.ownsRow w.heap.size 4 1 v (8 * k + 8) (boolCells (bitsL (bs.take k) ++ (bits8 x).take 8)) → Hid (wr.ownsRow w.heap.size 4 1 v (8 * (k + 1)) (boolCells (bitsL (bs.take (k + 1))))) := by
            intro v hv
            rw [List.take_of_length_le (show (bits8 x).length ≤ 8 by rw [bits8_length]; omega)] at hv
            rw [take_snoc bs k hlt, bitsL_snoc, ← HX.out]
            exact Lib.hid (own_len hv (by omega))
          have HO2 := HO _ hown1
          clear HO hown1
          go_wp2
          go_roundw
          case rel => exact ⟨k + 1, by omega, by go_num, HO2.out, hbel1⟩
          case measure => simp [intOf]; omega
    · obtain rfl : k = bs.length := by omega
      rw [List.take_of_length_le (Nat.le_refl _)] at hown
      have HO := Lib.hid (own_len hown (bitsL_length bs).symm)
      clear hown hsr hs
      go_wp2
      go_ret
      exact ⟨_, rfl, HO.out, hbel⟩

end Go.Proofs.YtijkhpiehaocpaaDoor
