/-
  WALKS: the document's own digit, Hex and Unhex.
-/
import Derived.Test.YtijkhpiehaocpaaDoorUnhex
namespace Go.Proofs.YtijkhpiehaocpaaDoor
open Go.RowKit
set_option maxRecDepth 100000

theorem dig_test {k : Nat} {r : Int} {b : Bool} (hk : k < (⟨#[48, 49, 50, 51, 52, 53, 54, 55, 56, 57, 97, 98, 99, 100, 101, 102]⟩ : ByteArray).size)
    (h : (wrap32 (((⟨#[48, 49, 50, 51, 52, 53, 54, 55, 56, 57, 97, 98, 99, 100, 101, 102]⟩ : ByteArray)[k]'hk).toNat : Int) == r) = b) : (((hexD k).toNat : Int) == r) = b := by
  rw [hexdig_get k hk] at h
  have hb := (hexD k).toNat_lt
  rw [IntWalk.wrap32_in _ ⟨by omega, by omega⟩] at h
  exact h

set_option maxHeartbeats 400000 in
theorem refDigit_any (r : Int) (d : Int) (w : World) (h : (∃ k : Nat, k < 16 ∧ d = k ∧ r = (hexD k).toNat ∧ ∀ j : Nat, j < k → ((hexD j).toNat : Int) ≠ r) ∨ (d = -1 ∧ ∀ j : Nat, j < 16 → ((hexD j).toNat : Int) ≠ r)) :
    Calls Tryd.prog 22 #[.int .i32 r] w fun e w' => e = .returned (.int .i64 d) ∧ w = w' := by
  have H := Lib.hid h
  clear h
  go_enter Tryd.func22, Tryd.ntmps22
  go_wp2
  go_loop [4] (fun i => ∃ k : Nat, k ≤ 16 ∧ i = .int .i64 k ∧ Hid (∀ j : Nat, j < k → ((hexD j).toNat : Int) ≠ r)) (fun i => 16 - (intOf i).toNat)
  case atStart => exact ⟨0, Nat.zero_le _, rfl, Lib.hid (fun j hj => by omega)⟩
  case round =>
    obtain ⟨k, hk, rfl, hall⟩ := hrel
    by_cases hlt : k < 16
    · go_wp2
      · have ht : (wrap32 (((⟨#[48, 49, 50, 51, 52, 53, 54, 55, 56, 57, 97, 98, 99, 100, 101, 102]⟩ : ByteArray)[k]'hlt).toNat : Int) == r) = true := by assumption
        have hd := beq_iff_eq.1 (dig_test hlt ht)
        go_ret
        refine ⟨?_, rfl⟩
        rcases H.out with ⟨k', hk', rfl, hr, hj⟩ | ⟨rfl, hj⟩
        · have e : k' = k := by
            rcases Nat.lt_trichotomy k' k with h1 | h1 | h1
            · exact absurd hr.symm (hall.out k' h1)
            · exact h1
            · exact absurd hd (hj k h1)
          rw [e]; rfl
        · exact absurd hd (hj k hlt)
      · have ht : (wrap32 (((⟨#[48, 49, 50, 51, 52, 53, 54, 55, 56, 57, 97, 98, 99, 100, 101, 102]⟩ : ByteArray)[k]'hlt).toNat : Int) == r) = false := by assumption
        have hd := beq_eq_false_iff_ne.1 (dig_test hlt ht)
        go_round
        case rel =>
          refine ⟨k + 1, by omega, by go_num, Lib.hid (fun j hj => ?_)⟩
          by_cases e : j = k
          · rw [e]; exact hd
          · exact hall.out j (by omega)
        case measure => simp [intOf]; omega
    · go_wp2
      go_ret
      refine ⟨?_, rfl⟩
      rcases H.out with ⟨k', hk', rfl, hr, hj⟩ | ⟨rfl, hj⟩
      · exact absurd hr.symm (hall.out k' (by omega))
      · rfl

theorem hexD_hexV (b : UInt8) (h : isHexB b = true) : hexD (hexV b) = b := by
  have key : ∀ n : Fin 256, isHexB (UInt8.ofNat n.val) = true → hexD (hexV (UInt8.ofNat n.val)) = UInt8.ofNat n.val := by decide +kernel
  have e : UInt8.ofNat b.toNat = b := by simp
  have := key ⟨b.toNat, b.toNat_lt⟩
  simp only [e] at this
  exact this h
theorem hexV_hexD (k : Nat) (h : k < 16) : hexV (hexD k) = k ∧ isHexB (hexD k) = true := by
  have key : ∀ k : Fin 16, hexV (hexD k.val) = k.val ∧ isHexB (hexD k.val) = true := by decide
  exact key ⟨k, h⟩
theorem refDigit_hex (b : UInt8) (w : World) (h : isHexB b = true) :
    Calls Tryd.prog 22 #[.int .i32 (b.toNat : Int)] w fun e w' => e = .returned (.int .i64 (hexV b : Int)) ∧ w = w' := by
  refine refDigit_any _ _ w (.inl ⟨hexV b, hexV_lt b h, rfl, by rw [hexD_hexV b h], fun j hj e => ?_⟩)
  have hj16 : j < 16 := by have := hexV_lt b h; omega
  have e2 : hexD j = b := UInt8.toNat_inj.1 (by omega)
  have := (hexV_hexD j hj16).1
  rw [e2] at this
  omega
theorem refDigit_no (r : Int) (w : World) (h : r < 48 ∨ (57 < r ∧ r < 97) ∨ 102 < r) :
    Calls Tryd.prog 22 #[.int .i32 r] w fun e w' => e = .returned (.int .i64 (-1)) ∧ w = w' := by
  refine refDigit_any _ _ w (.inr ⟨rfl, fun j hj e => ?_⟩)
  have hb := (hexV_hexD j hj).2
  simp only [isHexB, Bool.or_eq_true, Bool.and_eq_true, decide_eq_true_eq] at hb
  omega

theorem dig_extract (i : Nat) (h : i < 16) : (⟨#[48, 49, 50, 51, 52, 53, 54, 55, 56, 57, 97, 98, 99, 100, 101, 102]⟩ : ByteArray).extract i (i + 1) = ⟨#[hexD i]⟩ := by
  have key : ∀ j : Fin 16, (⟨#[48, 49, 50, 51, 52, 53, 54, 55, 56, 57, 97, 98, 99, 100, 101, 102]⟩ : ByteArray).extract j.val (j.val + 1) = ⟨#[hexD j.val]⟩ := by decide
  exact key ⟨i, h⟩
theorem hex_grow (l : List UInt8) (x : UInt8) : ((⟨l.toArray⟩ : ByteArray) ++ ((⟨#[48, 49, 50, 51, 52, 53, 54, 55, 56, 57, 97, 98, 99, 100, 101, 102]⟩ : ByteArray).extract (x.toNat / 16) (x.toNat / 16 + 1) ++ (⟨#[48, 49, 50, 51, 52, 53, 54, 55, 56, 57, 97, 98, 99, 100, 101, 102]⟩ : ByteArray).extract (x.toNat % 16) (x.toNat % 16 + 1)))
    = ⟨(l ++ [hexD (x.toNat / 16), hexD (x.toNat % 16)]).toArray⟩ := by
  have := x.toNat_lt
  rw [dig_extract _ (by omega), dig_extract _ (by omega)]
  apply ByteArray.ext
  simp

end Go.Proofs.YtijkhpiehaocpaaDoor
