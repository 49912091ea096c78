/-
  WALK: the law Sha2Begins.
-/
import Derived.Test.YthafhghnciofaaaDoorExp
namespace Go.Proofs.YthafhghnciofaaaDoor
open Go.RowKit
set_option maxRecDepth 100000

theorem expB_length (prk info : List UInt8) (n : Nat) : (expB prk info n).length = n := by
  unfold expB
  rw [List.length_take, okmB_length]
  omega
theorem expB_take (prk info : List UInt8) (lo hi : Nat) (h : lo ≤ hi) : (expB prk info hi).take lo = expB prk info lo := by
  unfold expB
  rw [List.take_take, ← okmB_take prk info ((lo + 31) / 32) ((hi + 31) / 32) (by omega), List.take_take, show min lo hi = lo by omega, show min lo (32 * ((lo + 31) / 32)) = lo by omega]
theorem run_cut (A : Option Addr) (n c j : Nat) (hj : j ≤ c) (w : World) : (Instr.sliceAt 30 (.slice A n c) none (some (.int .i64 (j : Int))) none).run Tryd.prog w = .ok (sliced A 0 j c 1) w := by
  rw [run_sliceAt_slice _ _ _ _ _ _ slice30, run_slice_h w 30 A n c slice30 .i64 (j : Int) (by omega) (by omega), elem30, run_sizeOf_u8, Result.andThen_ok, Int.toNat_natCast]

set_option maxHeartbeats 2000000 in
theorem begins_walk (v0 v1 : Value) (bs0 bs1 : List UInt8) (n m : Nat) (w : World) (hn : n ≤ 65535) (hm : m ≤ 65535) (hs0 : Sl w w.heap.size v0 bs0) (hs1 : Sl w w.heap.size v1 bs1) (hv : Vars w) :
    Calls Tryd.prog 8 #[v0, v1, .int .u16 (n : Int), .int .u16 (m : Int)] w (TrueIs w) := by
  unfold TrueIs
  obtain ⟨A0, c0, rfl, hc0, hc0'⟩ := hs0.form
  obtain ⟨A1, c1, rfl, hc1, hc1'⟩ := hs1.form
  go_enter Tryd.func8, Tryd.ntmps8
  go_wp2_with (go_at_call 11; refine (live_any _ hv).mono ?_)
  rintro e w1 ⟨rfl, b1⟩
  have hv1 := hv.step b1
  have bA : Below w1.heap.size w1 (w1.alloc (.cells #[.slice A0 bs0.length c0, .slice A1 bs1.length c1] 30)) := Below.alloc (Below.refl _ _) (Nat.le_refl _) _
  have b01 := b1.trans (bA.mono b1.size)
  have h0 := hs0.below b01
  have h1 := hs1.below b01
  have hp : PartsO (w1.alloc (.cells #[.slice A0 bs0.length c0, .slice A1 bs1.length c1] 30)) (w1.heap.size + 1) (w1.heap.size + 1) (.slice (some ⟨w1.heap.size, 0, none⟩) 2 2) [bs0, bs1] :=
    PartsO.two (Nat.lt_succ_self _) (by omega) (Row.new_ rfl rfl) (h0.more (by have := b1.size; omega)) (h0.off (by have := b1.size; omega)) (h1.more (by have := b1.size; omega)) (h1.off (by have := b1.size; omega))
  have hvA := hv1.step bA
  go_wp2_with (go_at_call 14; refine (few_any _ _ _ [bs0, bs1] _ hp (by simp)).mono ?_)
  rintro e w2 ⟨rfl, hw2⟩
  rw [← hw2] at hvA b01 h0 h1
  clear hp bA hw2 hs0 hs1 hv hv1
  have hsz2 := b01.size
  cases hf : fewB [bs0, bs1] with
  | false =>
    go_wp2_with (go_at_call 11; refine (live_any _ hvA).mono ?_)
    rintro e w3 ⟨rfl, b3⟩
    go_wp2
    go_ret
    exact ⟨rfl, b01.trans (b3.mono hsz2)⟩
  | true =>
    obtain ⟨hfa, _⟩ := few_yes hf
    have hb0 : bs0.length ≤ 3000 := hfa bs0 (by simp)
    have hb1 : bs1.length ≤ 3000 := hfa bs1 (by simp)
    clear hfa hf
    obtain ⟨a, ha⟩ : ∃ a, a = n % 600 := ⟨_, rfl⟩
    obtain ⟨b, hb⟩ : ∃ b, b = m % 600 := ⟨_, rfl⟩
    have qa : (n : Int).tmod 600 = (a : Int) := (show (n : Int).tmod 600 = ((n % 600 : Nat) : Int) from rfl).trans (by omega)
    have qb : (m : Int).tmod 600 = (b : Int) := (show (m : Int).tmod 600 = ((m % 600 : Nat) : Int) from rfl).trans (by omega)
    have qa2 : (n : Int) % 600 = (a : Int) := by omega
    have qb2 : (m : Int) % 600 = (b : Int) := by omega
    have ha6 : a < 600 := by omega
    have hb6 : b < 600 := by omega
    clear ha hb
    by_cases hlt : b < a
    · have ht : (b : Int) < (a : Int) := by omega
      go_wp2_with (go_at_call 27; refine (expand_any w.heap.size _ _ bs0 bs1 b _ h0 h1 hsz2 hvA (by omega) (by omega) (by omega)).mono ?_)
      rintro e w3 ⟨x, rfl, gx⟩
      have b3 := gx.2
      have hx := gives_sl gx
      have hv3 := hvA.step b3
      have h03 := h0.below (b3.mono hsz2)
      have h13 := h1.below (b3.mono hsz2)
      have b03 := b01.trans (b3.mono hsz2)
      obtain ⟨Ax, cx, rfl, _, _⟩ := hx.form
      go_wp2_with (go_at_call 27; refine (expand_any w.heap.size _ _ bs0 bs1 a _ h03 h13 b03.size hv3 (by omega) (by omega) (by omega)).mono ?_)
      rintro e w4 ⟨y, rfl, gy⟩
      have b4 := gy.2
      have hy := gives_sl gy
      have hx4 := hx.below b4
      have b04 := b03.trans (b4.mono b03.size)
      obtain ⟨Ay, cy, rfl, hcy, _⟩ := hy.form
      have hxl := expB_length bs0 bs1 b
      have hyl := expB_length bs0 bs1 a
      have HT := Lib.hid (expB_take bs0 bs1 b a (by omega))
      have hcut := run_cut Ay a cy b (by omega)
      have hsv := hy.cut 0 b (Nat.zero_le _) (by omega) (by omega)
      rw [List.drop_zero, HT.out] at hsv
      generalize sliced Ay 0 b cy 1 = vs at *
      generalize expB bs0 bs1 b = ex at *
      generalize expB bs0 bs1 a = ey at *
      clear gx gy b3 b4 hx h03 h13 b03 h0 h1 b01
      rw [hxl, hyl]
      rw [hxl] at hx4
      go_wp2_with (go_at_call 19; refine (refEqual_any _ _ _ _ ex ex _ hx4 hsv).mono ?_)
      rintro e w5 ⟨rfl, rfl⟩
      go_wp2
      go_ret
      exact ⟨by simp, b04⟩
    · have hq1 : (if (b : Int) < (a : Int) then (b : Int) else (a : Int)) = (a : Int) := by split <;> omega
      have hq2 : (if (a : Int) < (b : Int) then (b : Int) else (a : Int)) = (b : Int) := by split <;> omega
      have hq3 : (if b < a then (b : Int) else (a : Int)) = (a : Int) := by split <;> omega
      have hq4 : (if a < b then (b : Int) else (a : Int)) = (b : Int) := by split <;> omega
      go_wp2_with (go_at_call 27; refine (expand_any w.heap.size _ _ bs0 bs1 a _ h0 h1 hsz2 hvA (by omega) (by omega) (by omega)).mono ?_)
      rintro e w3 ⟨x, rfl, gx⟩
      have b3 := gx.2
      have hx := gives_sl gx
      have hv3 := hvA.step b3
      have h03 := h0.below (b3.mono hsz2)
      have h13 := h1.below (b3.mono hsz2)
      have b03 := b01.trans (b3.mono hsz2)
      obtain ⟨Ax, cx, rfl, _, _⟩ := hx.form
      go_wp2_with (go_at_call 27; refine (expand_any w.heap.size _ _ bs0 bs1 b _ h03 h13 b03.size hv3 (by omega) (by omega) (by omega)).mono ?_)
      rintro e w4 ⟨y, rfl, gy⟩
      have b4 := gy.2
      have hy := gives_sl gy
      have hx4 := hx.below b4
      have b04 := b03.trans (b4.mono b03.size)
      obtain ⟨Ay, cy, rfl, hcy, _⟩ := hy.form
      have hxl := expB_length bs0 bs1 a
      have hyl := expB_length bs0 bs1 b
      have HT := Lib.hid (expB_take bs0 bs1 a b (by omega))
      have hcut := run_cut Ay b cy a (by omega)
      have hsv := hy.cut 0 a (Nat.zero_le _) (by omega) (by omega)
      rw [List.drop_zero, HT.out] at hsv
      generalize sliced Ay 0 a cy 1 = vs at *
      generalize expB bs0 bs1 a = ex at *
      generalize expB bs0 bs1 b = ey at *
      clear gx gy b3 b4 hx h03 h13 b03 h0 h1 b01
      rw [hxl, hyl]
      rw [hxl] at hx4
      go_wp2_with (go_at_call 19; refine (refEqual_any _ _ _ _ ex ex _ hx4 hsv).mono ?_)
      rintro e w5 ⟨rfl, rfl⟩
      go_wp2
      go_ret
      exact ⟨by simp, b04⟩
end Go.Proofs.YthafhghnciofaaaDoor
