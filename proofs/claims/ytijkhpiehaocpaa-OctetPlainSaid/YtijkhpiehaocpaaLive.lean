/-
  THE WALK of liverylaw01.live: the chapter's examples are so.
-/
import Derived.Test.YtijkhpiehaocpaaQuote
namespace Go.Proofs.Ytijkhpiehaocpaa
open Go.RowKit

theorem newN_sl (w : World) (bs : List UInt8) (hm : bs.length ≤ maxLen) : Sl (w.alloc (.cells (Lib.byteCells bs).toArray 5)) (w.heap.size + 1) (.slice (some ⟨w.heap.size, 0, none⟩) bs.length bs.length) bs := by
  have := Sl.of_own ((Blk.new w bs).own (base := 0) (Nat.zero_le _) hm)
  simpa using this

theorem quote_ff (w : World) : Calls Try.prog 37 #[.string ⟨#[255]⟩] w (StrIs w [34, 92, 120, 102, 102, 34]) := by
  have h := quote_any ⟨#[255]⟩ w (by decide)
  have e : quoteL ⟨#[255]⟩ = [34, 92, 120, 102, 102, 34] := by decide +kernel
  rw [e] at h
  exact h
def UnIs (w : World) (n : Nat) (er : Int) (bs : List UInt8) (e : Ending) (w' : World) : Prop := ∃ v, e = .returned (.tuple #[v, .int .i64 n, .int .i64 er]) ∧ Gives w bs v w'
theorem unhex_0g (w : World) : Calls Try.prog 32 #[.string ⟨#[48, 103]⟩] w (UnIs w 1 10 []) := by
  have h := unhex_any ⟨#[48, 103]⟩ w (by decide)
  have e1 : hexN [48, 103] = 1 := by decide
  have e2 : unE [48, 103] = 10 := by decide
  have e3 : unB [48, 103] = [] := by decide
  exact h.mono fun e w' hx => by
    obtain ⟨v, h1, h2⟩ := hx
    exact ⟨v, by rw [h1]; show Ending.returned (.tuple #[v, .int .i64 (hexN [48, 103]), .int .i64 (unE [48, 103])]) = _; rw [e1, e2], by have h2' : Gives w (unB [48, 103]) v w' := h2; rwa [e3] at h2'⟩
def PutIs (w : World) (er : Int) (bs : List UInt8) (e : Ending) (w' : World) : Prop := ∃ v, e = .returned (.tuple #[v, .int .i64 er]) ∧ Gives w bs v w'
theorem big_258 (w : World) : Calls Try.prog 9 #[.int .u64 258, .int .i64 3] w (PutIs w 0 [0, 1, 2]) := by
  have h := big_ok 258 3 w (by decide) (by decide) (by decide)
  have e : bigB 258 3 = [0, 1, 2] := by decide
  rw [e] at h
  exact h
/-- true is handed back; what was there before the call is as it was -/
def TrueIs (w : World) (e : Ending) (w' : World) : Prop := e = .returned (.bool true) ∧ Below w.heap.size w w'

set_option maxHeartbeats 1000000 in
theorem live_any (w : World) : Calls Try.prog 16 #[] w (TrueIs w) := by
  go_enter Try.func16, Try.ntmps16
  go_wp2_with (go_at_call 9; refine (big_258 _).mono ?_)
  rintro e w1 ⟨v1, rfl, ho1, hb1⟩
  go_wp2_with (go_at_call 32; refine (unhex_0g _).mono ?_)
  rintro e w2 ⟨v2, rfl, ho2, hb2⟩
  have hs1 := (Sl.of_own ho1).below hb2
  have z1 := hb1.size
  have z2 := hb2.size
  have hs1' := (hs1.more z2).below ((Below.refl _ w2).alloc (Nat.le_refl _) (.cells #[.int .u8 0, .int .u8 1, .int .u8 2] 5))
  have hs2 : Sl (w2.alloc (.cells #[.int .u8 0, .int .u8 1, .int .u8 2] 5)) (w2.heap.size + 1) (.slice (some ⟨w2.heap.size, 0, none⟩) 3 3) [0, 1, 2] := newN_sl w2 [0, 1, 2] (by decide)
  go_wp2_with (first | (go_at_call 17; refine (refEqual_any _ _ _ _ [0, 1, 2] [0, 1, 2] _ hs1' hs2).mono ?_; rintro e w' ⟨rfl, rfl⟩) | (go_at_call 37; refine (quote_ff _).mono ?_))
  rintro e w3 ⟨rfl, hb3⟩
  go_wp2
  go_ret
  exact ⟨rfl, ((hb1.trans (hb2.mono z1)).alloc (by omega) _).trans (hb3.mono (by simp; omega))⟩
end Go.Proofs.Ytijkhpiehaocpaa
