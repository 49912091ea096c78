/-
  WALKS: hexadecimal digits: the document's own Hex.
-/
import Derived.Test.YthafhghnciofaaaDoorRefInts
import Derived.Deep.RegionLaw
import Derived.BigQuiet
import Derived.Deep.QuietTactic
namespace Go.Proofs.YthafhghnciofaaaDoor
open Go.RowKit
set_option maxRecDepth 100000

def hexD (n : Nat) : UInt8 := if n < 10 then UInt8.ofNat (48 + n) else UInt8.ofNat (87 + n)
def hexL (bs : List UInt8) : List UInt8 := bs.flatMap fun b => [hexD (b.toNat / 16), hexD (b.toNat % 16)]
theorem hexL_snoc (bs : List UInt8) (b : UInt8) : hexL (bs ++ [b]) = hexL bs ++ [hexD (b.toNat / 16), hexD (b.toNat % 16)] := by simp [hexL]
theorem hexL_length (bs : List UInt8) : (hexL bs).length = 2 * bs.length := by
  induction bs with
  | nil => rfl
  | cons b r ih => simp only [hexL, List.flatMap_cons, List.length_append, List.length_cons, List.length_nil] at ih ⊢; omega

/-- make([]byte, 0, n), n a variable -/
theorem make0_run (n : Nat) (hn : n ≤ 281474976710656) (u : World) : (Instr.makeSlice 30 (.int .i64 0) (.int .i64 (n : Int))).run Tryd.prog u =
    .ok (.slice (some ⟨u.heap.size, 0, none⟩) 0 n) (u.alloc (.cells (Lib.byteCells (List.replicate n 0)).toArray 5)) := by
  obtain ⟨i0, hi, hz0, hz1, hz2⟩ := info_parts info_u8
  have h := run_make (P := Tryd.prog) u 30 5 i0 (.int .u8 0) Tryd.underlying30 hi hz0 .i64 .i64 (0 : Int) (n : Int) (by omega) (by omega) (by rw [hz2]; omega) (by omega)
  have e : (n : Int).toNat = n := by omega
  rw [e] at h
  rw [← made_zero]
  simpa [hz1, Value.cells] using h

theorem hexdig_get (i : Nat) (h : i < (⟨#[48, 49, 50, 51, 52, 53, 54, 55, 56, 57, 97, 98, 99, 100, 101, 102]⟩ : ByteArray).size) : (⟨#[48, 49, 50, 51, 52, 53, 54, 55, 56, 57, 97, 98, 99, 100, 101, 102]⟩ : ByteArray)[i]'h = hexD i := by
  have h16 : i < 16 := h
  have key : ∀ j : Fin 16, (⟨#[48, 49, 50, 51, 52, 53, 54, 55, 56, 57, 97, 98, 99, 100, 101, 102]⟩ : ByteArray)[j.val]'(j.isLt) = hexD j.val := by decide
  exact key ⟨i, h16⟩
theorem nat_div16 (n : Nat) : ((n : Int) / 16).toNat = n / 16 := by omega
theorem nat_mod16 (n : Nat) : ((n : Int) % 16).toNat = n % 16 := by omega

/-- A string is handed back; what was there before the call is as it was. -/
def StrIs (w : World) (l : List UInt8) (e : Ending) (w' : World) : Prop := e = .returned (.string ⟨l.toArray⟩) ∧ Below w.heap.size w w'

theorem dig_extract (i : Nat) (h : i < 16) : (⟨#[48, 49, 50, 51, 52, 53, 54, 55, 56, 57, 97, 98, 99, 100, 101, 102]⟩ : ByteArray).extract i (i + 1) = ⟨#[hexD i]⟩ := by
  have key : ∀ j : Fin 16, (⟨#[48, 49, 50, 51, 52, 53, 54, 55, 56, 57, 97, 98, 99, 100, 101, 102]⟩ : ByteArray).extract j.val (j.val + 1) = ⟨#[hexD j.val]⟩ := by decide
  exact key ⟨i, h⟩
theorem hex_grow (l : List UInt8) (x : UInt8) : ((⟨l.toArray⟩ : ByteArray) ++ ((⟨#[48, 49, 50, 51, 52, 53, 54, 55, 56, 57, 97, 98, 99, 100, 101, 102]⟩ : ByteArray).extract (x.toNat / 16) (x.toNat / 16 + 1) ++ (⟨#[48, 49, 50, 51, 52, 53, 54, 55, 56, 57, 97, 98, 99, 100, 101, 102]⟩ : ByteArray).extract (x.toNat % 16) (x.toNat % 16 + 1)))
    = ⟨(l ++ [hexD (x.toNat / 16), hexD (x.toNat % 16)]).toArray⟩ := by
  have := x.toNat_lt
  rw [dig_extract _ (by omega), dig_extract _ (by omega)]
  apply ByteArray.ext
  simp

set_option maxHeartbeats 800000 in
theorem refHex_any (B : Nat) (v : Value) (bs : List UInt8) (w : World) (hs : Sl w B v bs) (hl : bs.length ≤ 1099511627776) :
    Calls Tryd.prog 30 #[v] w (StrIs w (hexL bs)) := by
  obtain ⟨A, c, rfl, _, _⟩ := hs.form
  go_enter Tryd.func30, Tryd.ntmps30
  go_wp2
  go_loopw [3, 8] (fun o i wr => ∃ k n : Nat, k ≤ bs.length ∧ i = .int .i64 k ∧ o = .string ⟨(hexL (bs.take k)).toArray⟩ ∧ wr = w.drewN n) (fun _ i _ => bs.length - (intOf i).toNat)
  case atStart =>
    exact ⟨0, 0, Nat.zero_le _, rfl, rfl, rfl⟩
  case round =>
    obtain ⟨k, n, hk, rfl, rfl, rfl⟩ := hrel
    have hsr : Sl (w.drewN n) B (.slice A bs.length c) bs := hs.drewN n
    by_cases hlt : k < bs.length
    · obtain ⟨b, off, rfl, hb, hc⟩ := hsr.at_ (by omega)
      have hc1 := hc k hlt
      have hg3 := bs[k].toNat_lt
      have hhl : (hexL (bs.take k)).length ≤ 2199023255552 := by rw [hexL_length, List.length_take]; omega
      clear hc
      go_wp2
      go_region
      go_wp2
      go_roundw
      case rel => exact ⟨k + 1, n + 1, by omega, by go_num, by rw [hex_grow, take_snoc bs k hlt, hexL_snoc], rfl⟩
      case measure => simp [intOf]; omega
    · obtain rfl : k = bs.length := by omega
      have HX : Hid (bs.take bs.length = bs) := Lib.hid (List.take_of_length_le (Nat.le_refl _))
      go_wp2
      go_ret
      exact ⟨by first | rfl | (rw [HX.out]; rfl), ⟨rfl, rfl, rfl, Nat.le_refl _, fun _ _ => rfl⟩⟩
end Go.Proofs.YthafhghnciofaaaDoor
