/-
  WALKS: hexadecimal digits: octet.digitOf, octet.Hex, and the document's own digit and Hex.
-/
import Derived.Test.YtijkhpiehaocpaaRefInts
import Derived.Deep.RegionLaw
namespace Go.Proofs.Ytijkhpiehaocpaa
open Go.RowKit

def hexD (n : Nat) : UInt8 := if n < 10 then UInt8.ofNat (48 + n) else UInt8.ofNat (87 + n)
def hexL (bs : List UInt8) : List UInt8 := bs.flatMap fun b => [hexD (b.toNat / 16), hexD (b.toNat % 16)]
theorem hexL_snoc (bs : List UInt8) (b : UInt8) : hexL (bs ++ [b]) = hexL bs ++ [hexD (b.toNat / 16), hexD (b.toNat % 16)] := by simp [hexL]
theorem hexL_length (bs : List UInt8) : (hexL bs).length = 2 * bs.length := by
  induction bs with
  | nil => rfl
  | cons b r ih => simp only [hexL, List.flatMap_cons, List.length_append, List.length_cons, List.length_nil] at ih ⊢; omega

/-- make([]byte, 0, n), n a variable -/
theorem make0_run (n : Nat) (hn : n ≤ 281474976710656) (u : World) : (Instr.makeSlice 23 (.int .i64 0) (.int .i64 (n : Int))).run Try.prog u =
    .ok (.slice (some ⟨u.heap.size, 0, none⟩) 0 n) (u.alloc (.cells (Lib.byteCells (List.replicate n 0)).toArray 5)) := by
  obtain ⟨i0, hi, hz0, hz1, hz2⟩ := info_parts info_u8
  have h := run_make (P := Try.prog) u 23 5 i0 (.int .u8 0) Try.underlying23 hi hz0 .i64 .i64 (0 : Int) (n : Int) (by omega) (by omega) (by rw [hz2]; omega) (by omega)
  have e : (n : Int).toNat = n := by omega
  rw [e] at h
  rw [← made_zero]
  simpa [hz1, Value.cells] using h

theorem hexdig_get (i : Nat) (h : i < (⟨#[48, 49, 50, 51, 52, 53, 54, 55, 56, 57, 97, 98, 99, 100, 101, 102]⟩ : ByteArray).size) : (⟨#[48, 49, 50, 51, 52, 53, 54, 55, 56, 57, 97, 98, 99, 100, 101, 102]⟩ : ByteArray)[i]'h = hexD i := by
  have h16 : i < 16 := h
  have key : ∀ j : Fin 16, (⟨#[48, 49, 50, 51, 52, 53, 54, 55, 56, 57, 97, 98, 99, 100, 101, 102]⟩ : ByteArray)[j.val]'(j.isLt) = hexD j.val := by decide
  exact key ⟨i, h16⟩
theorem nat_div16 (n : Nat) : ((n : Int) / 16).toNat = n / 16 := by omega
theorem nat_mod16 (n : Nat) : ((n : Int) % 16).toNat = n % 16 := by omega

/-- A string is handed back; what was there before the call is as it was. -/
def StrIs (w : World) (l : List UInt8) (e : Ending) (w' : World) : Prop := e = .returned (.string ⟨l.toArray⟩) ∧ Below w.heap.size w w'

set_option maxHeartbeats 400000 in
theorem hex_any (B : Nat) (v : Value) (bs : List UInt8) (w : World) (hs : Sl w B v bs) (hB : B ≤ w.heap.size) (hl : bs.length ≤ 1099511627776) :
    Calls Try.prog 34 #[v] w (StrIs w (hexL bs)) := by
  obtain ⟨i0, hi, hz0, hz1, hz2⟩ := info_parts info_u8
  obtain ⟨A, c, rfl, _, _⟩ := hs.form
  have hmk := make0_run (2 * bs.length) (by omega)
  simp only [Int.natCast_mul, Int.cast_ofNat_Int] at hmk
  go_enter Try.func34, Try.ntmps34
  go_wp2
  go_loopw [3, 12] (fun o i wr => ∃ k : Nat, k ≤ bs.length ∧ i = .int .i64 k ∧ wr.ownsRow w.heap.size 5 1 o (2 * k) (Lib.byteCells (hexL (bs.take k))) ∧ Below w.heap.size w wr) (fun _ i _ => bs.length - (intOf i).toNat)
  case atStart =>
    exact ⟨0, Nat.zero_le _, rfl, World.ownsRow_made w _ (2 * bs.length) (Nat.le_refl _) (by unfold maxLen; omega) (by simp [Lib.byteCells]), (Below.refl _ _).alloc (Nat.le_refl _) _⟩
  case round =>
    obtain ⟨k, hk, rfl, hown, hbel⟩ := hrel
    have hsr := hs.below (hbel.mono hB)
    by_cases hlt : k < bs.length
    · obtain ⟨b, off, rfl, hb, hc⟩ := hsr.at_ (by omega)
      have hc1 := hc k hlt
      have hg3 := bs[k].toNat_lt
      clear hc
      have q1 : (0 : Int) ≤ (bs[k].toNat : Int) / 16 := by omega
      have q2 : (bs[k].toNat : Int) / 16 < 16 := by omega
      have q3 : bits .and .u8 (bs[k].toNat : Int) 15 = (bs[k].toNat : Int) % 16 := u8_and15 _ (by omega) (by omega)
      have q4 : (0 : Int) ≤ (bs[k].toNat : Int) % 16 := by omega
      have q5 : (bs[k].toNat : Int) % 16 < 16 := by omega
      go_wp2
      go_region_law (refine step_appendN_d _ 23 5 i0 (.int .u8 0) _ Try.underlying23 hi hz0 hz1 hz2 rfl rfl (.tmp 16) (.tmp 23) rfl (by exact hown) rfl 2 rfl rfl (by simp [Value.oneCell']) (by omega) (by exact hbel.size) ?_; intro v1 w1 hown1 _ hb1)
      all_goals
        simp only [hexdig_get, nat_div16, nat_mod16] at hown1
        have HX : Hid (Lib.byteCells (hexL (bs.take (k + 1))) = Lib.byteCells (hexL (bs.take k)) ++ [.int .u8 (hexD (bs[k].toNat / 16)).toNat, .int .u8 (hexD (bs[k].toNat % 16)).toNat]) := by
          apply Lib.hid
          rw [take_snoc bs k hlt, hexL_snoc, Lib.byteCells_append]
          rfl
        have HO : Hid (w1.ownsRow w.heap.size 5 1 v1 (2 * (k + 1)) (Lib.byteCells (hexL (bs.take (k + 1))))) := by
          rw [HX.out]
          exact Lib.hid (own_len hown1 (by omega))
        clear hown1 HX
        go_wp2
        go_roundw
        case rel => exact ⟨k + 1, by omega, by go_num, HO.out, hbel.trans (hb1 _ (Nat.le_refl _))⟩
        case measure => simp [intOf]; omega
    · obtain rfl : k = bs.length := by omega
      rw [List.take_of_length_le (Nat.le_refl _)] at hown
      have hcv := (Sl.of_own hown).conv Try.underlying23 Try.underlying5 Try.underlying9
      clear hsr hs
      go_wp2
      go_ret
      exact ⟨rfl, hbel⟩
end Go.Proofs.Ytijkhpiehaocpaa
