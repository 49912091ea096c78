/-
  WALK: the law KeccakShakes.
-/
import Derived.Test.YtjondbamnbgiaaaDoorSums
namespace Go.Proofs.YtjondbamnbgiaaaDoor
open Go.RowKit
set_option maxRecDepth 100000

theorem shake_bits (b n : Int) (h1 : ¬ b = 128) (h2 : ¬ b = 256) (v : Value) (w : World) :
    Calls Tryd.prog 22 #[.int .i64 b, .int .i64 n, v] w (NoneIs w 1) := by
  unfold NoneIs
  go_enter Tryd.func22, Tryd.ntmps22
  go_wp2
  go_ret2
  exact ⟨rfl, rfl⟩
theorem shake_neg128 (n : Int) (h2 : n < 0) (bss : List (List UInt8)) (hbl : bss.length ≤ 1000000) (B : Nat) (v : Value) (w : World) (hp : PartsO w B B v bss) (hB : B ≤ w.heap.size) (hv : Vars w) :
    Calls Tryd.prog 22 #[.int .i64 128, .int .i64 n, v] w (NoShakeIs w 1) := by
  unfold NoShakeIs
  go_enter Tryd.func22, Tryd.ntmps22
  go_wp2_with (go_at_call 24; refine (shake128_any bss hbl B v _ hp hB hv).mono ?_)
  rintro e w1 ⟨g, rfl, hg, hx, b1⟩
  go_wp2_with (go_at_call 28; refine (read_neg hx n h2).mono ?_)
  rintro e w2 ⟨rfl, rfl⟩
  go_wp2
  go_ret2
  exact ⟨rfl, b1⟩
theorem shake_neg256 (n : Int) (h2 : n < 0) (bss : List (List UInt8)) (hbl : bss.length ≤ 1000000) (B : Nat) (v : Value) (w : World) (hp : PartsO w B B v bss) (hB : B ≤ w.heap.size) (hv : Vars w) :
    Calls Tryd.prog 22 #[.int .i64 256, .int .i64 n, v] w (NoShakeIs w 1) := by
  unfold NoShakeIs
  go_enter Tryd.func22, Tryd.ntmps22
  go_wp2_with (go_at_call 25; refine (shake256_any bss hbl B v _ hp hB hv).mono ?_)
  rintro e w1 ⟨g, rfl, hg, hx, b1⟩
  go_wp2_with (go_at_call 28; refine (read_neg hx n h2).mono ?_)
  rintro e w2 ⟨rfl, rfl⟩
  go_wp2
  go_ret2
  exact ⟨rfl, b1⟩
theorem shake_much128 (n : Int) (h2 : 1048576 < n) (bss : List (List UInt8)) (hbl : bss.length ≤ 1000000) (B : Nat) (v : Value) (w : World) (hp : PartsO w B B v bss) (hB : B ≤ w.heap.size) (hv : Vars w) :
    Calls Tryd.prog 22 #[.int .i64 128, .int .i64 n, v] w (NoShakeIs w 3) := by
  unfold NoShakeIs
  go_enter Tryd.func22, Tryd.ntmps22
  go_wp2_with (go_at_call 24; refine (shake128_any bss hbl B v _ hp hB hv).mono ?_)
  rintro e w1 ⟨g, rfl, hg, hx, b1⟩
  go_wp2_with (go_at_call 28; refine (read_much hx n h2).mono ?_)
  rintro e w2 ⟨rfl, rfl⟩
  go_wp2
  go_ret2
  exact ⟨rfl, b1⟩
theorem shake_much256 (n : Int) (h2 : 1048576 < n) (bss : List (List UInt8)) (hbl : bss.length ≤ 1000000) (B : Nat) (v : Value) (w : World) (hp : PartsO w B B v bss) (hB : B ≤ w.heap.size) (hv : Vars w) :
    Calls Tryd.prog 22 #[.int .i64 256, .int .i64 n, v] w (NoShakeIs w 3) := by
  unfold NoShakeIs
  go_enter Tryd.func22, Tryd.ntmps22
  go_wp2_with (go_at_call 25; refine (shake256_any bss hbl B v _ hp hB hv).mono ?_)
  rintro e w1 ⟨g, rfl, hg, hx, b1⟩
  go_wp2_with (go_at_call 28; refine (read_much hx n h2).mono ?_)
  rintro e w2 ⟨rfl, rfl⟩
  go_wp2
  go_ret2
  exact ⟨rfl, b1⟩
/-- what Shake answers where it has no bytes -/
def shakeErr (b n : Int) : Int := if (b = 128 ∨ b = 256) ∧ 1048576 < n then 3 else 1
theorem shake_no (b n : Int) (h : ¬ (b = 128 ∨ b = 256) ∨ n < 0 ∨ 1048576 < n) (bss : List (List UInt8)) (hbl : bss.length ≤ 1000000) (B : Nat) (v : Value) (w : World) (hp : PartsO w B B v bss) (hB : B ≤ w.heap.size) (hv : Vars w) :
    Calls Tryd.prog 22 #[.int .i64 b, .int .i64 n, v] w (NoShakeIs w (shakeErr b n)) := by
  unfold shakeErr
  by_cases hb : b = 128 ∨ b = 256
  · by_cases hn : n < 0
    · rw [if_neg (by omega)]
      rcases hb with rfl | rfl
      · exact shake_neg128 n hn bss hbl B v w hp hB hv
      · exact shake_neg256 n hn bss hbl B v w hp hB hv
    · have hm : 1048576 < n := by omega
      rw [if_pos ⟨hb, hm⟩]
      rcases hb with rfl | rfl
      · exact shake_much128 n hm bss hbl B v w hp hB hv
      · exact shake_much256 n hm bss hbl B v w hp hB hv
  · rw [if_neg (by omega)]
    exact (shake_bits b n (by omega) (by omega) v w).mono fun e w' he => ⟨he.1, by rw [he.2]; exact Below.refl _ _⟩
theorem refAsk_no (b n : Int) (h : ¬ (b = 128 ∨ b = 256) ∨ n < 0 ∨ 1048576 < n) (v : Value) (w : World) :
    Calls Tryd.prog 23 #[.int .i64 b, .int .i64 n, v] w (NoneIs w (shakeErr b n)) := by
  unfold shakeErr
  by_cases hb : b = 128 ∨ b = 256
  · by_cases hn : n < 0
    · rw [if_neg (by omega)]
      exact refAsk_neg b n hb hn v w
    · have hm : 1048576 < n := by omega
      rw [if_pos ⟨hb, hm⟩]
      exact refAsk_much b n hb hm v w
  · rw [if_neg (by omega)]
    exact refAsk_bits b n (by omega) (by omega) v w
/-- what both answer where there are bytes -/
def shakeL (b : Int) (m : List UInt8) (n : Nat) : List UInt8 := if b = 128 then spongeL 168 31 m n else spongeL 136 31 m n
theorem shakeL_length (b : Int) (m : List UInt8) (n : Nat) : (shakeL b m n).length = n := by
  unfold shakeL
  split
  · exact Sp.outs_length _ _ _
  · exact Sp.outs_length _ _ _
theorem shake_yes (b : Int) (hb : b = 128 ∨ b = 256) (n : Nat) (hn : n ≤ 1048576) (bss : List (List UInt8)) (hbl : bss.length ≤ 1000000) (B : Nat) (v : Value) (w : World) (hp : PartsO w B B v bss) (hB : B ≤ w.heap.size) (hv : Vars w) :
    Calls Tryd.prog 22 #[.int .i64 b, .int .i64 (n : Int), v] w (ShakeIs w n (shakeL b bss.flatten n)) := by
  rcases hb with rfl | rfl
  · exact shake_ok128 n hn bss hbl B v w hp hB hv
  · exact shake_ok256 n hn bss hbl B v w hp hB hv
theorem refAsk_yes (b : Int) (hb : b = 128 ∨ b = 256) (n : Nat) (hn : n ≤ 1048576) (B : Nat) (v : Value) (m : List UInt8) (w : World) (hs : Sl w B v m) (hB : B ≤ w.heap.size) (hl : m.length ≤ 1000000) :
    Calls Tryd.prog 23 #[.int .i64 b, .int .i64 (n : Int), v] w (OwnOk w (shakeL b m n)) := by
  rcases hb with rfl | rfl
  · exact refAsk128_any n hn B v m w hs hB hl
  · exact refAsk256_any n hn B v m w hs hB hl

set_option maxHeartbeats 1000000 in
theorem shakes_walk (b n : Int) (v : Value) (bss : List (List UInt8)) (w : World) (hp : PartsO w w.heap.size w.heap.size v bss) (hn : bss.length ≤ 281474976710656) (hlen : ∀ i (h : i < bss.length), bss[i].length ≤ 281474976710656) (hv : Vars w) :
    Calls Tryd.prog 5 #[.int .i64 b, .int .i64 n, v] w (TrueIs w) := by
  unfold TrueIs
  obtain ⟨A, c, rfl⟩ := hp.form
  generalize hn0 : w.heap.size = n0 at *
  go_enter Tryd.func5, Tryd.ntmps5
  go_wp2_with (go_at_call 12; refine (live_any _ hv).mono ?_)
  rintro e w1 ⟨rfl, b1⟩
  rw [hn0] at b1
  have hv1 := hv.step (by rw [hn0]; exact b1)
  have hp1 := hp.below b1
  have hs1 := b1.size
  rw [hn0] at hs1
  go_wp2_with (go_at_call 15; refine (much_any _ _ _ bss _ hp1 hn hlen).mono ?_)
  rintro e w2 ⟨rfl, rfl⟩
  clear hp hv
  cases hf : muchB bss with
  | true =>
    go_wp2_with (go_at_call 12; refine (live_any _ hv1).mono ?_)
    rintro e w3 ⟨rfl, b3⟩
    go_wp2
    go_ret
    exact ⟨rfl, b1.trans (b3.mono hs1)⟩
  | false =>
    obtain ⟨hfl, hfn⟩ := much_no hf
    clear hf hlen hn
    by_cases hskip : 3000 < n ∧ n ≤ 1048576
    · obtain ⟨k1, k2⟩ := hskip
      have d1 : decide (3000 < n) = true := by simpa using k1
      have d2 : decide (n ≤ 1048576) = true := by simpa using k2
      go_wp2_with (go_at_call 12; refine (live_any _ hv1).mono ?_)
      rintro e w3 ⟨rfl, b3⟩
      go_wp2
      go_ret
      exact ⟨rfl, b1.trans (b3.mono hs1)⟩
    · obtain ⟨m, HM⟩ : ∃ m, Shh (m = bss.flatten) := ⟨_, Shh.mk rfl⟩
      rw [← HM.out] at hfl
      by_cases hok : (b = 128 ∨ b = 256) ∧ 0 ≤ n ∧ n ≤ 1048576
      · obtain ⟨hb, hn1, hn2⟩ := hok
        obtain ⟨k, rfl⟩ := Int.eq_ofNat_of_zero_le hn1
        have hk : k ≤ 3000 := by omega
        have d1 : decide (3000 < (k : Int)) = false := by simp; omega
        clear hskip hn1 hn2
        have hS := shake_yes b hb k (by omega) bss (by omega) n0 _ _ hp1 hs1 hv1
        rw [← HM.out] at hS
        have hol := shakeL_length b m k
        obtain ⟨ou, HO⟩ : ∃ o, Shh (o = shakeL b m k) := ⟨_, Shh.mk rfl⟩
        rw [← HO.out] at hS hol
        have HB := Shh.mk hb
        clear hb
        go_wp2_with (go_at_call 22; refine hS.mono ?_)
        rintro e w3 ⟨q, rfl, hq, hr3, b3⟩
        have hb3 := b1.trans (b3.mono hs1)
        have hp3 := hp1.below (b3.mono hs1)
        have hs3 := b3.size
        have hq3 := hr3.lt
        clear b3 hS b1 hp1 hv1
        have hJ := refJoin_any n0 n0 _ bss _ hp3 (by omega) (by rw [← HM.out]; omega) (by omega)
        rw [← HM.out] at hJ
        go_wp2_with (go_at_call 16; refine hJ.mono ?_)
        rintro e w4 ⟨v4, rfl, g4⟩
        have s4 := gives_sl g4
        obtain ⟨A4, c4, rfl, _, _⟩ := s4.form
        have b4 := g4.2
        have hb4 := hb3.trans (b4.mono (by omega))
        have hr4 := hr3.below b4 hq3
        have hs4 := b4.size
        clear g4 b4 hp3 hb3 hr3 hJ
        have hA := refAsk_yes b HB.out k (by omega) _ _ m _ s4 (Nat.le_refl _) (by omega)
        rw [← HO.out] at hA
        go_wp2_with (go_at_call 23; refine hA.mono ?_)
        rintro e w5 ⟨v5, rfl, g5⟩
        have s5 := gives_sl g5
        obtain ⟨A5, c5, rfl, _, _⟩ := s5.form
        rw [hol] at s5
        have b5 := g5.2
        have hb5 := hb4.trans (b5.mono (by omega))
        have hX : Sl w5 w5.heap.size (.slice (some ⟨q, 0, none⟩) k k) ou := Sl.of_bytes (hr4.below b5 (by omega)) (by have := b5.size; omega) hol (by omega)
        rw [hol]
        clear g5 b5 hb4 hr4 hA s4
        go_wp2_with (go_at_call 19; refine (refEqual_any _ _ _ _ ou ou _ hX s5).mono ?_)
        rintro e w6 ⟨rfl, rfl⟩
        rw [show (ou == ou) = true by simp]
        go_wp2
        go_ret
        exact ⟨rfl, hb5⟩
      · have hno : ¬ (b = 128 ∨ b = 256) ∨ n < 0 ∨ 1048576 < n := by omega
        have hfirst : (¬ 3000 < n) ∨ (3000 < n ∧ ¬ n ≤ 1048576) := by omega
        have hS := shake_no b n hno bss (by omega) n0 _ _ hp1 hs1 hv1
        have hA := refAsk_no b n hno
        generalize shakeErr b n = er at *
        clear hno hok hskip
        rcases hfirst with h1 | ⟨h1, h2⟩
        · have d1 : decide (3000 < n) = false := by simpa using h1
          go_wp2_with (go_at_call 22; refine hS.mono ?_)
          rintro e w3 ⟨rfl, b3⟩
          have hb3 := b1.trans (b3.mono hs1)
          have hp3 := hp1.below (b3.mono hs1)
          have hs3 := b3.size
          clear b3 hS b1 hp1 hv1
          have hJ := refJoin_any n0 n0 _ bss _ hp3 (by omega) (by rw [← HM.out]; omega) (by omega)
          rw [← HM.out] at hJ
          go_wp2_with (go_at_call 16; refine hJ.mono ?_)
          rintro e w4 ⟨v4, rfl, g4⟩
          have hb4 := hb3.trans (g4.2.mono (by omega))
          clear g4 hp3 hb3 hJ
          go_wp2_with (go_at_call 23; refine (hA _ _).mono ?_)
          rintro e w5 ⟨rfl, rfl⟩
          go_wp2_with (go_at_call 19; refine (refEqual_any 0 0 _ _ [] [] _ Sl.nil_ Sl.nil_).mono ?_)
          rintro e w6 ⟨rfl, rfl⟩
          rw [show (([] : List UInt8) == []) = true by simp]
          go_wp2
          go_ret
          exact ⟨by simp, hb4⟩
        · have d1 : decide (3000 < n) = true := by simpa using h1
          have d2 : decide (n ≤ 1048576) = false := by simpa using h2
          go_wp2_with (go_at_call 22; refine hS.mono ?_)
          rintro e w3 ⟨rfl, b3⟩
          have hb3 := b1.trans (b3.mono hs1)
          have hp3 := hp1.below (b3.mono hs1)
          have hs3 := b3.size
          clear b3 hS b1 hp1 hv1
          have hJ := refJoin_any n0 n0 _ bss _ hp3 (by omega) (by rw [← HM.out]; omega) (by omega)
          rw [← HM.out] at hJ
          go_wp2_with (go_at_call 16; refine hJ.mono ?_)
          rintro e w4 ⟨v4, rfl, g4⟩
          have hb4 := hb3.trans (g4.2.mono (by omega))
          clear g4 hp3 hb3 hJ
          go_wp2_with (go_at_call 23; refine (hA _ _).mono ?_)
          rintro e w5 ⟨rfl, rfl⟩
          go_wp2_with (go_at_call 19; refine (refEqual_any 0 0 _ _ [] [] _ Sl.nil_ Sl.nil_).mono ?_)
          rintro e w6 ⟨rfl, rfl⟩
          rw [show (([] : List UInt8) == []) = true by simp]
          go_wp2
          go_ret
          exact ⟨by simp, hb4⟩
end Go.Proofs.YtjondbamnbgiaaaDoor
