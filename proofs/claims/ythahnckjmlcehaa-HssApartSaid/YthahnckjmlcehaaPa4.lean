/-
  WALKS: the document's own sets of LM-OTS.
-/
import Derived.Test.YthahnckjmlcehaaPa3
namespace Go.Proofs.Ythahnckjmlcehaa
open Go.RowKit
set_option maxRecDepth 100000
theorem bytes6_any (f : Nat) (hf : f ≤ 3) (w : World) : Calls Try.prog 38 #[.int .i64 (f : Int)] w (StayIs (.int .i64 (hN f)) w) := by
  unfold StayIs
  have : f = 0 ∨ f = 1 ∨ f = 2 ∨ f = 3 := by omega
  rcases this with rfl | rfl | rfl | rfl
  all_goals
    go_enter Try.func38, Try.ntmps38
    go_wp2
    go_ret
    exact ⟨rfl, rfl⟩
def pwr6 : Nat → Nat
  | 0 => 1
  | n + 1 => pwr6 n * 2
theorem pw_le (n k : Nat) (h : n ≤ k) : pwr6 n ≤ pwr6 k := by
  induction k with
  | zero => obtain rfl : n = 0 := by omega
            exact Nat.le_refl _
  | succ k ih =>
    by_cases e : n = k + 1
    · rw [e]; exact Nat.le_refl _
    · have := ih (by omega)
      simp only [pwr6]
      omega
theorem power6_any (n : Nat) (hn : n ≤ 40) (w : World) : Calls Try.prog 39 #[.int .i64 (n : Int)] w (StayIs (.int .i64 (pwr6 n : Int)) w) := by
  unfold StayIs
  go_enter Try.func39, Try.ntmps39
  go_wp2
  go_loop [3, 5] (fun p i => ∃ k q : Nat, k ≤ n ∧ p = .int .i64 (q : Int) ∧ i = .int .i64 (k : Int) ∧ Shh (q = pwr6 k)) (fun _ i => n - (intOf i).toNat)
  case atStart => exact ⟨0, 1, Nat.zero_le _, rfl, rfl, ⟨rfl⟩⟩
  case round =>
    obtain ⟨k, q, hk, rfl, rfl, HQ⟩ := hrel
    by_cases hlt : k < n
    · have hb : q ≤ 1099511627776 := by
        have h1 := pw_le k 40 (by omega)
        have h2 : pwr6 40 = 1099511627776 := by decide
        have := HQ.out
        omega
      have hw : IntKind.i64.wrap ((q : Int) * 2) = (q : Int) * 2 := by rw [IntKind.wrap_i64]; omega
      have HR : Shh (q * 2 = pwr6 (k + 1)) := ⟨by rw [HQ.out]; rfl⟩
      go_wp2
      go_round
      case rel => exact ⟨k + 1, q * 2, by omega, by go_num, by go_num, HR⟩
      case measure => simp [intOf]; omega
    · obtain rfl : k = n := by omega
      have HR : Shh (q = pwr6 k) := HQ
      clear HQ
      go_wp2
      go_ret
      exact ⟨by rw [HR.out]; rfl, rfl⟩
theorem bits6_any (x L : Nat) (hL : L ≤ 40) (h1 : ∀ b, b < L → pwr6 b ≤ x) (h2 : x < pwr6 L) (w : World) : Calls Try.prog 41 #[.int .i64 (x : Int)] w (StayIs (.int .i64 (L : Int)) w) := by
  unfold StayIs
  have H1 : Shh ((∀ b, b < L → pwr6 b ≤ x) ∧ x < pwr6 L) := ⟨h1, h2⟩
  clear h1 h2
  go_enter Try.func41, Try.ntmps41
  go_wp2
  go_loop [3] (fun b => ∃ k : Nat, k ≤ L ∧ b = .int .i64 (k : Int)) (fun b => L - (intOf b).toNat)
  case atStart => exact ⟨0, Nat.zero_le _, rfl⟩
  case round =>
    obtain ⟨k, hk, rfl⟩ := hrel
    obtain ⟨q, hq⟩ : ∃ q, q = pwr6 k := ⟨_, rfl⟩
    have HQ : Shh (pwr6 k = q) := ⟨hq.symm⟩
    by_cases hlt : k < L
    · have hle : (q : Int) ≤ (x : Int) := by have := H1.out.1 k hlt; omega
      clear hq
      go_wp2_with (go_at_call 39; refine (power6_any k (by omega) w).mono ?_)
      unfold StayIs
      rintro e w2 ⟨rfl, rfl⟩
      rw [HQ.out]
      go_wp2
      go_round
      case rel => exact ⟨k + 1, by omega, by go_num⟩
      case measure => simp [intOf]; omega
    · obtain rfl : k = L := by omega
      have hle : ¬ (q : Int) ≤ (x : Int) := by have := H1.out.2; omega
      clear hq
      go_wp2_with (go_at_call 39; refine (power6_any k (by omega) w).mono ?_)
      unfold StayIs
      rintro e w2 ⟨rfl, rfl⟩
      rw [HQ.out]
      go_wp2
      go_ret
      exact ⟨rfl, rfl⟩
theorem up6_0 (w : World) : Calls Try.prog 40 #[.int .i64 9, .int .i64 1] w (StayIs (.int .i64 9) w) := by
  unfold StayIs
  go_enter Try.func40, Try.ntmps40
  go_wp2
  go_ret
  exact ⟨rfl, rfl⟩
theorem up6_1 (w : World) : Calls Try.prog 40 #[.int .i64 9, .int .i64 2] w (StayIs (.int .i64 5) w) := by
  unfold StayIs
  go_enter Try.func40, Try.ntmps40
  go_wp2
  go_ret
  exact ⟨rfl, rfl⟩
theorem up6_2 (w : World) : Calls Try.prog 40 #[.int .i64 10, .int .i64 4] w (StayIs (.int .i64 3) w) := by
  unfold StayIs
  go_enter Try.func40, Try.ntmps40
  go_wp2
  go_ret
  exact ⟨rfl, rfl⟩
theorem up6_3 (w : World) : Calls Try.prog 40 #[.int .i64 13, .int .i64 8] w (StayIs (.int .i64 2) w) := by
  unfold StayIs
  go_enter Try.func40, Try.ntmps40
  go_wp2
  go_ret
  exact ⟨rfl, rfl⟩
theorem up6_4 (w : World) : Calls Try.prog 40 #[.int .i64 8, .int .i64 1] w (StayIs (.int .i64 8) w) := by
  unfold StayIs
  go_enter Try.func40, Try.ntmps40
  go_wp2
  go_ret
  exact ⟨rfl, rfl⟩
theorem up6_5 (w : World) : Calls Try.prog 40 #[.int .i64 9, .int .i64 2] w (StayIs (.int .i64 5) w) := by
  unfold StayIs
  go_enter Try.func40, Try.ntmps40
  go_wp2
  go_ret
  exact ⟨rfl, rfl⟩
theorem up6_6 (w : World) : Calls Try.prog 40 #[.int .i64 10, .int .i64 4] w (StayIs (.int .i64 3) w) := by
  unfold StayIs
  go_enter Try.func40, Try.ntmps40
  go_wp2
  go_ret
  exact ⟨rfl, rfl⟩
theorem up6_7 (w : World) : Calls Try.prog 40 #[.int .i64 13, .int .i64 8] w (StayIs (.int .i64 2) w) := by
  unfold StayIs
  go_enter Try.func40, Try.ntmps40
  go_wp2
  go_ret
  exact ⟨rfl, rfl⟩
theorem refOts_none (c : Nat) (h : c < 1 ∨ 16 < c) (w : World) : Calls Try.prog 24 #[.int .u32 (c : Int)] w (OldIs (.tuple #[otsV c, .int .i64 (oE c)]) w) := by
  unfold OldIs otsV
  obtain ⟨e1, e2, e3⟩ := oR_none h
  rw [e1, e2, e3]
  obtain ⟨W, hW⟩ : ∃ W, W = w.alloc (.cells #[.int .u32 0, .bool false, .int .i64 0, .int .i64 0, .int .i64 0, .int .i64 0] 39) := ⟨_, rfl⟩
  have HW : Shh (Row W w.heap.size 39 [.int .u32 0, .bool false, .int .i64 0, .int .i64 0, .int .i64 0, .int .i64 0] ∧ Below w.heap.size w W) := ⟨by rw [hW]; exact Row.new_ rfl rfl, by rw [hW]; exact Below.alloc (Below.refl _ _) (Nat.le_refl _) _⟩
  rw [hW] at HW
  clear hW
  rcases h with h | h
  · skip
    obtain rfl : c = 0 := by omega
    go_enter Try.func24, Try.ntmps24
    go_wp2_with (refine wpList_store_any rfl 39 (.tmp 2) (.tmp 15) rfl w.heap.size rfl [.int .u32 0, .bool false, .int .i64 0, .int .i64 0, .int .i64 0, .int .i64 0] rfl 39 _ HW.out.1 info_ots rfl oneCell6 ?_)
    intro Z hr bt _
    have F : Shh (Row Z w.heap.size 39 [.int .u32 0, .bool false, .int .i64 0, .int .i64 0, .int .i64 0, .int .i64 0] ∧ Below w.heap.size w Z) := ⟨hr, HW.out.2.trans (bt.under (by omega) (Nat.le_refl _))⟩
    clear hr bt HW
    go_wp2
    exact ret_rs Try.results24 rfl rfl rfl F.out.1 Try.underlying39 rfl info_ots ⟨rfl, F.out.2⟩
  · skip
    have h1 : ¬ (c : Int) < 1 := by omega
    have h2 : (16 : Int) < (c : Int) := by omega
    go_enter Try.func24, Try.ntmps24
    go_wp2_with (refine wpList_store_any rfl 39 (.tmp 2) (.tmp 15) rfl w.heap.size rfl [.int .u32 0, .bool false, .int .i64 0, .int .i64 0, .int .i64 0, .int .i64 0] rfl 39 _ HW.out.1 info_ots rfl oneCell6 ?_)
    intro Z hr bt _
    have F : Shh (Row Z w.heap.size 39 [.int .u32 0, .bool false, .int .i64 0, .int .i64 0, .int .i64 0, .int .i64 0] ∧ Below w.heap.size w Z) := ⟨hr, HW.out.2.trans (bt.under (by omega) (Nat.le_refl _))⟩
    clear hr bt HW
    go_wp2
    exact ret_rs Try.results24 rfl rfl rfl F.out.1 Try.underlying39 rfl info_ots ⟨rfl, F.out.2⟩
theorem refOts_1 (w : World) : Calls Try.prog 24 #[.int .u32 1] w (OldIs (.tuple #[.agg #[.int .u32 1, .bool false, .int .i64 32, .int .i64 1, .int .i64 265, .int .i64 7], .int .i64 0]) w) := by
  unfold OldIs
  have hb : ∀ W, Calls Try.prog 38 #[.int .i64 0] W (StayIs (.int .i64 32) W) := fun W => bytes6_any 0 (by omega) W
  have hp : ∀ W, Calls Try.prog 39 #[.int .i64 0] W (StayIs (.int .i64 1) W) := fun W => power6_any 0 (by omega) W
  have hp2 : ∀ W, Calls Try.prog 39 #[.int .i64 1] W (StayIs (.int .i64 2) W) := fun W => power6_any 1 (by omega) W
  have hbi : ∀ W, Calls Try.prog 41 #[.int .i64 256] W (StayIs (.int .i64 9) W) := fun W => bits6_any 256 9 (by omega) (by decide) (by decide) W
  obtain ⟨W, hW⟩ : ∃ W, W = w.alloc (.cells #[.int .u32 0, .bool false, .int .i64 0, .int .i64 0, .int .i64 0, .int .i64 0] 39) := ⟨_, rfl⟩
  have HW : Shh (Row W w.heap.size 39 [.int .u32 0, .bool false, .int .i64 0, .int .i64 0, .int .i64 0, .int .i64 0] ∧ Below w.heap.size w W) := ⟨by rw [hW]; exact Row.new_ rfl rfl, by rw [hW]; exact Below.alloc (Below.refl _ _) (Nat.le_refl _) _⟩
  rw [hW] at HW
  clear hW
  go_enter Try.func24, Try.ntmps24
  go_wp2_with (go_at_call 38; refine (hb _).mono ?_)
  unfold StayIs
  rintro e w2 ⟨rfl, rfl⟩
  go_wp2_with (go_at_call 39; refine (hp _).mono ?_)
  unfold StayIs
  rintro e w2 ⟨rfl, rfl⟩
  go_wp2_with (go_at_call 39; refine (hp2 _).mono ?_)
  unfold StayIs
  rintro e w2 ⟨rfl, rfl⟩
  go_wp2_with (go_at_call 41; refine (hbi _).mono ?_)
  unfold StayIs
  rintro e w2 ⟨rfl, rfl⟩
  go_wp2_with (go_at_call 40; refine (up6_0 _).mono ?_)
  unfold StayIs
  rintro e w2 ⟨rfl, rfl⟩
  go_wp2_with (refine wpList_store_any rfl 39 (.tmp 2) (.tmp 51) rfl w.heap.size rfl [.int .u32 1, .bool false, .int .i64 32, .int .i64 1, .int .i64 265, .int .i64 7] rfl 39 _ HW.out.1 info_ots rfl oneCell6 ?_)
  intro Z hr bt _
  have F : Shh (Row Z w.heap.size 39 [.int .u32 1, .bool false, .int .i64 32, .int .i64 1, .int .i64 265, .int .i64 7] ∧ Below w.heap.size w Z) := ⟨hr, HW.out.2.trans (bt.under (by omega) (Nat.le_refl _))⟩
  clear hr bt HW
  go_wp2
  exact ret_rs Try.results24 rfl rfl rfl F.out.1 Try.underlying39 rfl info_ots ⟨rfl, F.out.2⟩
theorem refOts_2 (w : World) : Calls Try.prog 24 #[.int .u32 2] w (OldIs (.tuple #[.agg #[.int .u32 2, .bool false, .int .i64 32, .int .i64 2, .int .i64 133, .int .i64 6], .int .i64 0]) w) := by
  unfold OldIs
  have hb : ∀ W, Calls Try.prog 38 #[.int .i64 0] W (StayIs (.int .i64 32) W) := fun W => bytes6_any 0 (by omega) W
  have hp : ∀ W, Calls Try.prog 39 #[.int .i64 1] W (StayIs (.int .i64 2) W) := fun W => power6_any 1 (by omega) W
  have hp2 : ∀ W, Calls Try.prog 39 #[.int .i64 2] W (StayIs (.int .i64 4) W) := fun W => power6_any 2 (by omega) W
  have hbi : ∀ W, Calls Try.prog 41 #[.int .i64 384] W (StayIs (.int .i64 9) W) := fun W => bits6_any 384 9 (by omega) (by decide) (by decide) W
  obtain ⟨W, hW⟩ : ∃ W, W = w.alloc (.cells #[.int .u32 0, .bool false, .int .i64 0, .int .i64 0, .int .i64 0, .int .i64 0] 39) := ⟨_, rfl⟩
  have HW : Shh (Row W w.heap.size 39 [.int .u32 0, .bool false, .int .i64 0, .int .i64 0, .int .i64 0, .int .i64 0] ∧ Below w.heap.size w W) := ⟨by rw [hW]; exact Row.new_ rfl rfl, by rw [hW]; exact Below.alloc (Below.refl _ _) (Nat.le_refl _) _⟩
  rw [hW] at HW
  clear hW
  go_enter Try.func24, Try.ntmps24
  go_wp2_with (go_at_call 38; refine (hb _).mono ?_)
  unfold StayIs
  rintro e w2 ⟨rfl, rfl⟩
  go_wp2_with (go_at_call 39; refine (hp _).mono ?_)
  unfold StayIs
  rintro e w2 ⟨rfl, rfl⟩
  go_wp2_with (go_at_call 39; refine (hp2 _).mono ?_)
  unfold StayIs
  rintro e w2 ⟨rfl, rfl⟩
  go_wp2_with (go_at_call 41; refine (hbi _).mono ?_)
  unfold StayIs
  rintro e w2 ⟨rfl, rfl⟩
  go_wp2_with (go_at_call 40; refine (up6_1 _).mono ?_)
  unfold StayIs
  rintro e w2 ⟨rfl, rfl⟩
  go_wp2_with (refine wpList_store_any rfl 39 (.tmp 2) (.tmp 51) rfl w.heap.size rfl [.int .u32 2, .bool false, .int .i64 32, .int .i64 2, .int .i64 133, .int .i64 6] rfl 39 _ HW.out.1 info_ots rfl oneCell6 ?_)
  intro Z hr bt _
  have F : Shh (Row Z w.heap.size 39 [.int .u32 2, .bool false, .int .i64 32, .int .i64 2, .int .i64 133, .int .i64 6] ∧ Below w.heap.size w Z) := ⟨hr, HW.out.2.trans (bt.under (by omega) (Nat.le_refl _))⟩
  clear hr bt HW
  go_wp2
  exact ret_rs Try.results24 rfl rfl rfl F.out.1 Try.underlying39 rfl info_ots ⟨rfl, F.out.2⟩
theorem refOts_3 (w : World) : Calls Try.prog 24 #[.int .u32 3] w (OldIs (.tuple #[.agg #[.int .u32 3, .bool false, .int .i64 32, .int .i64 4, .int .i64 67, .int .i64 4], .int .i64 0]) w) := by
  unfold OldIs
  have hb : ∀ W, Calls Try.prog 38 #[.int .i64 0] W (StayIs (.int .i64 32) W) := fun W => bytes6_any 0 (by omega) W
  have hp : ∀ W, Calls Try.prog 39 #[.int .i64 2] W (StayIs (.int .i64 4) W) := fun W => power6_any 2 (by omega) W
  have hp2 : ∀ W, Calls Try.prog 39 #[.int .i64 4] W (StayIs (.int .i64 16) W) := fun W => power6_any 4 (by omega) W
  have hbi : ∀ W, Calls Try.prog 41 #[.int .i64 960] W (StayIs (.int .i64 10) W) := fun W => bits6_any 960 10 (by omega) (by decide) (by decide) W
  obtain ⟨W, hW⟩ : ∃ W, W = w.alloc (.cells #[.int .u32 0, .bool false, .int .i64 0, .int .i64 0, .int .i64 0, .int .i64 0] 39) := ⟨_, rfl⟩
  have HW : Shh (Row W w.heap.size 39 [.int .u32 0, .bool false, .int .i64 0, .int .i64 0, .int .i64 0, .int .i64 0] ∧ Below w.heap.size w W) := ⟨by rw [hW]; exact Row.new_ rfl rfl, by rw [hW]; exact Below.alloc (Below.refl _ _) (Nat.le_refl _) _⟩
  rw [hW] at HW
  clear hW
  go_enter Try.func24, Try.ntmps24
  go_wp2_with (go_at_call 38; refine (hb _).mono ?_)
  unfold StayIs
  rintro e w2 ⟨rfl, rfl⟩
  go_wp2_with (go_at_call 39; refine (hp _).mono ?_)
  unfold StayIs
  rintro e w2 ⟨rfl, rfl⟩
  go_wp2_with (go_at_call 39; refine (hp2 _).mono ?_)
  unfold StayIs
  rintro e w2 ⟨rfl, rfl⟩
  go_wp2_with (go_at_call 41; refine (hbi _).mono ?_)
  unfold StayIs
  rintro e w2 ⟨rfl, rfl⟩
  go_wp2_with (go_at_call 40; refine (up6_2 _).mono ?_)
  unfold StayIs
  rintro e w2 ⟨rfl, rfl⟩
  go_wp2_with (refine wpList_store_any rfl 39 (.tmp 2) (.tmp 51) rfl w.heap.size rfl [.int .u32 3, .bool false, .int .i64 32, .int .i64 4, .int .i64 67, .int .i64 4] rfl 39 _ HW.out.1 info_ots rfl oneCell6 ?_)
  intro Z hr bt _
  have F : Shh (Row Z w.heap.size 39 [.int .u32 3, .bool false, .int .i64 32, .int .i64 4, .int .i64 67, .int .i64 4] ∧ Below w.heap.size w Z) := ⟨hr, HW.out.2.trans (bt.under (by omega) (Nat.le_refl _))⟩
  clear hr bt HW
  go_wp2
  exact ret_rs Try.results24 rfl rfl rfl F.out.1 Try.underlying39 rfl info_ots ⟨rfl, F.out.2⟩
theorem refOts_4 (w : World) : Calls Try.prog 24 #[.int .u32 4] w (OldIs (.tuple #[.agg #[.int .u32 4, .bool false, .int .i64 32, .int .i64 8, .int .i64 34, .int .i64 0], .int .i64 0]) w) := by
  unfold OldIs
  have hb : ∀ W, Calls Try.prog 38 #[.int .i64 0] W (StayIs (.int .i64 32) W) := fun W => bytes6_any 0 (by omega) W
  have hp : ∀ W, Calls Try.prog 39 #[.int .i64 3] W (StayIs (.int .i64 8) W) := fun W => power6_any 3 (by omega) W
  have hp2 : ∀ W, Calls Try.prog 39 #[.int .i64 8] W (StayIs (.int .i64 256) W) := fun W => power6_any 8 (by omega) W
  have hbi : ∀ W, Calls Try.prog 41 #[.int .i64 8160] W (StayIs (.int .i64 13) W) := fun W => bits6_any 8160 13 (by omega) (by decide) (by decide) W
  obtain ⟨W, hW⟩ : ∃ W, W = w.alloc (.cells #[.int .u32 0, .bool false, .int .i64 0, .int .i64 0, .int .i64 0, .int .i64 0] 39) := ⟨_, rfl⟩
  have HW : Shh (Row W w.heap.size 39 [.int .u32 0, .bool false, .int .i64 0, .int .i64 0, .int .i64 0, .int .i64 0] ∧ Below w.heap.size w W) := ⟨by rw [hW]; exact Row.new_ rfl rfl, by rw [hW]; exact Below.alloc (Below.refl _ _) (Nat.le_refl _) _⟩
  rw [hW] at HW
  clear hW
  go_enter Try.func24, Try.ntmps24
  go_wp2_with (go_at_call 38; refine (hb _).mono ?_)
  unfold StayIs
  rintro e w2 ⟨rfl, rfl⟩
  go_wp2_with (go_at_call 39; refine (hp _).mono ?_)
  unfold StayIs
  rintro e w2 ⟨rfl, rfl⟩
  go_wp2_with (go_at_call 39; refine (hp2 _).mono ?_)
  unfold StayIs
  rintro e w2 ⟨rfl, rfl⟩
  go_wp2_with (go_at_call 41; refine (hbi _).mono ?_)
  unfold StayIs
  rintro e w2 ⟨rfl, rfl⟩
  go_wp2_with (go_at_call 40; refine (up6_3 _).mono ?_)
  unfold StayIs
  rintro e w2 ⟨rfl, rfl⟩
  go_wp2_with (refine wpList_store_any rfl 39 (.tmp 2) (.tmp 51) rfl w.heap.size rfl [.int .u32 4, .bool false, .int .i64 32, .int .i64 8, .int .i64 34, .int .i64 0] rfl 39 _ HW.out.1 info_ots rfl oneCell6 ?_)
  intro Z hr bt _
  have F : Shh (Row Z w.heap.size 39 [.int .u32 4, .bool false, .int .i64 32, .int .i64 8, .int .i64 34, .int .i64 0] ∧ Below w.heap.size w Z) := ⟨hr, HW.out.2.trans (bt.under (by omega) (Nat.le_refl _))⟩
  clear hr bt HW
  go_wp2
  exact ret_rs Try.results24 rfl rfl rfl F.out.1 Try.underlying39 rfl info_ots ⟨rfl, F.out.2⟩
theorem refOts_5 (w : World) : Calls Try.prog 24 #[.int .u32 5] w (OldIs (.tuple #[.agg #[.int .u32 5, .bool false, .int .i64 24, .int .i64 1, .int .i64 200, .int .i64 8], .int .i64 0]) w) := by
  unfold OldIs
  have hb : ∀ W, Calls Try.prog 38 #[.int .i64 1] W (StayIs (.int .i64 24) W) := fun W => bytes6_any 1 (by omega) W
  have hp : ∀ W, Calls Try.prog 39 #[.int .i64 0] W (StayIs (.int .i64 1) W) := fun W => power6_any 0 (by omega) W
  have hp2 : ∀ W, Calls Try.prog 39 #[.int .i64 1] W (StayIs (.int .i64 2) W) := fun W => power6_any 1 (by omega) W
  have hbi : ∀ W, Calls Try.prog 41 #[.int .i64 192] W (StayIs (.int .i64 8) W) := fun W => bits6_any 192 8 (by omega) (by decide) (by decide) W
  obtain ⟨W, hW⟩ : ∃ W, W = w.alloc (.cells #[.int .u32 0, .bool false, .int .i64 0, .int .i64 0, .int .i64 0, .int .i64 0] 39) := ⟨_, rfl⟩
  have HW : Shh (Row W w.heap.size 39 [.int .u32 0, .bool false, .int .i64 0, .int .i64 0, .int .i64 0, .int .i64 0] ∧ Below w.heap.size w W) := ⟨by rw [hW]; exact Row.new_ rfl rfl, by rw [hW]; exact Below.alloc (Below.refl _ _) (Nat.le_refl _) _⟩
  rw [hW] at HW
  clear hW
  go_enter Try.func24, Try.ntmps24
  go_wp2_with (go_at_call 38; refine (hb _).mono ?_)
  unfold StayIs
  rintro e w2 ⟨rfl, rfl⟩
  go_wp2_with (go_at_call 39; refine (hp _).mono ?_)
  unfold StayIs
  rintro e w2 ⟨rfl, rfl⟩
  go_wp2_with (go_at_call 39; refine (hp2 _).mono ?_)
  unfold StayIs
  rintro e w2 ⟨rfl, rfl⟩
  go_wp2_with (go_at_call 41; refine (hbi _).mono ?_)
  unfold StayIs
  rintro e w2 ⟨rfl, rfl⟩
  go_wp2_with (go_at_call 40; refine (up6_4 _).mono ?_)
  unfold StayIs
  rintro e w2 ⟨rfl, rfl⟩
  go_wp2_with (refine wpList_store_any rfl 39 (.tmp 2) (.tmp 51) rfl w.heap.size rfl [.int .u32 5, .bool false, .int .i64 24, .int .i64 1, .int .i64 200, .int .i64 8] rfl 39 _ HW.out.1 info_ots rfl oneCell6 ?_)
  intro Z hr bt _
  have F : Shh (Row Z w.heap.size 39 [.int .u32 5, .bool false, .int .i64 24, .int .i64 1, .int .i64 200, .int .i64 8] ∧ Below w.heap.size w Z) := ⟨hr, HW.out.2.trans (bt.under (by omega) (Nat.le_refl _))⟩
  clear hr bt HW
  go_wp2
  exact ret_rs Try.results24 rfl rfl rfl F.out.1 Try.underlying39 rfl info_ots ⟨rfl, F.out.2⟩
theorem refOts_6 (w : World) : Calls Try.prog 24 #[.int .u32 6] w (OldIs (.tuple #[.agg #[.int .u32 6, .bool false, .int .i64 24, .int .i64 2, .int .i64 101, .int .i64 6], .int .i64 0]) w) := by
  unfold OldIs
  have hb : ∀ W, Calls Try.prog 38 #[.int .i64 1] W (StayIs (.int .i64 24) W) := fun W => bytes6_any 1 (by omega) W
  have hp : ∀ W, Calls Try.prog 39 #[.int .i64 1] W (StayIs (.int .i64 2) W) := fun W => power6_any 1 (by omega) W
  have hp2 : ∀ W, Calls Try.prog 39 #[.int .i64 2] W (StayIs (.int .i64 4) W) := fun W => power6_any 2 (by omega) W
  have hbi : ∀ W, Calls Try.prog 41 #[.int .i64 288] W (StayIs (.int .i64 9) W) := fun W => bits6_any 288 9 (by omega) (by decide) (by decide) W
  obtain ⟨W, hW⟩ : ∃ W, W = w.alloc (.cells #[.int .u32 0, .bool false, .int .i64 0, .int .i64 0, .int .i64 0, .int .i64 0] 39) := ⟨_, rfl⟩
  have HW : Shh (Row W w.heap.size 39 [.int .u32 0, .bool false, .int .i64 0, .int .i64 0, .int .i64 0, .int .i64 0] ∧ Below w.heap.size w W) := ⟨by rw [hW]; exact Row.new_ rfl rfl, by rw [hW]; exact Below.alloc (Below.refl _ _) (Nat.le_refl _) _⟩
  rw [hW] at HW
  clear hW
  go_enter Try.func24, Try.ntmps24
  go_wp2_with (go_at_call 38; refine (hb _).mono ?_)
  unfold StayIs
  rintro e w2 ⟨rfl, rfl⟩
  go_wp2_with (go_at_call 39; refine (hp _).mono ?_)
  unfold StayIs
  rintro e w2 ⟨rfl, rfl⟩
  go_wp2_with (go_at_call 39; refine (hp2 _).mono ?_)
  unfold StayIs
  rintro e w2 ⟨rfl, rfl⟩
  go_wp2_with (go_at_call 41; refine (hbi _).mono ?_)
  unfold StayIs
  rintro e w2 ⟨rfl, rfl⟩
  go_wp2_with (go_at_call 40; refine (up6_5 _).mono ?_)
  unfold StayIs
  rintro e w2 ⟨rfl, rfl⟩
  go_wp2_with (refine wpList_store_any rfl 39 (.tmp 2) (.tmp 51) rfl w.heap.size rfl [.int .u32 6, .bool false, .int .i64 24, .int .i64 2, .int .i64 101, .int .i64 6] rfl 39 _ HW.out.1 info_ots rfl oneCell6 ?_)
  intro Z hr bt _
  have F : Shh (Row Z w.heap.size 39 [.int .u32 6, .bool false, .int .i64 24, .int .i64 2, .int .i64 101, .int .i64 6] ∧ Below w.heap.size w Z) := ⟨hr, HW.out.2.trans (bt.under (by omega) (Nat.le_refl _))⟩
  clear hr bt HW
  go_wp2
  exact ret_rs Try.results24 rfl rfl rfl F.out.1 Try.underlying39 rfl info_ots ⟨rfl, F.out.2⟩
theorem refOts_7 (w : World) : Calls Try.prog 24 #[.int .u32 7] w (OldIs (.tuple #[.agg #[.int .u32 7, .bool false, .int .i64 24, .int .i64 4, .int .i64 51, .int .i64 4], .int .i64 0]) w) := by
  unfold OldIs
  have hb : ∀ W, Calls Try.prog 38 #[.int .i64 1] W (StayIs (.int .i64 24) W) := fun W => bytes6_any 1 (by omega) W
  have hp : ∀ W, Calls Try.prog 39 #[.int .i64 2] W (StayIs (.int .i64 4) W) := fun W => power6_any 2 (by omega) W
  have hp2 : ∀ W, Calls Try.prog 39 #[.int .i64 4] W (StayIs (.int .i64 16) W) := fun W => power6_any 4 (by omega) W
  have hbi : ∀ W, Calls Try.prog 41 #[.int .i64 720] W (StayIs (.int .i64 10) W) := fun W => bits6_any 720 10 (by omega) (by decide) (by decide) W
  obtain ⟨W, hW⟩ : ∃ W, W = w.alloc (.cells #[.int .u32 0, .bool false, .int .i64 0, .int .i64 0, .int .i64 0, .int .i64 0] 39) := ⟨_, rfl⟩
  have HW : Shh (Row W w.heap.size 39 [.int .u32 0, .bool false, .int .i64 0, .int .i64 0, .int .i64 0, .int .i64 0] ∧ Below w.heap.size w W) := ⟨by rw [hW]; exact Row.new_ rfl rfl, by rw [hW]; exact Below.alloc (Below.refl _ _) (Nat.le_refl _) _⟩
  rw [hW] at HW
  clear hW
  go_enter Try.func24, Try.ntmps24
  go_wp2_with (go_at_call 38; refine (hb _).mono ?_)
  unfold StayIs
  rintro e w2 ⟨rfl, rfl⟩
  go_wp2_with (go_at_call 39; refine (hp _).mono ?_)
  unfold StayIs
  rintro e w2 ⟨rfl, rfl⟩
  go_wp2_with (go_at_call 39; refine (hp2 _).mono ?_)
  unfold StayIs
  rintro e w2 ⟨rfl, rfl⟩
  go_wp2_with (go_at_call 41; refine (hbi _).mono ?_)
  unfold StayIs
  rintro e w2 ⟨rfl, rfl⟩
  go_wp2_with (go_at_call 40; refine (up6_6 _).mono ?_)
  unfold StayIs
  rintro e w2 ⟨rfl, rfl⟩
  go_wp2_with (refine wpList_store_any rfl 39 (.tmp 2) (.tmp 51) rfl w.heap.size rfl [.int .u32 7, .bool false, .int .i64 24, .int .i64 4, .int .i64 51, .int .i64 4] rfl 39 _ HW.out.1 info_ots rfl oneCell6 ?_)
  intro Z hr bt _
  have F : Shh (Row Z w.heap.size 39 [.int .u32 7, .bool false, .int .i64 24, .int .i64 4, .int .i64 51, .int .i64 4] ∧ Below w.heap.size w Z) := ⟨hr, HW.out.2.trans (bt.under (by omega) (Nat.le_refl _))⟩
  clear hr bt HW
  go_wp2
  exact ret_rs Try.results24 rfl rfl rfl F.out.1 Try.underlying39 rfl info_ots ⟨rfl, F.out.2⟩
theorem refOts_8 (w : World) : Calls Try.prog 24 #[.int .u32 8] w (OldIs (.tuple #[.agg #[.int .u32 8, .bool false, .int .i64 24, .int .i64 8, .int .i64 26, .int .i64 0], .int .i64 0]) w) := by
  unfold OldIs
  have hb : ∀ W, Calls Try.prog 38 #[.int .i64 1] W (StayIs (.int .i64 24) W) := fun W => bytes6_any 1 (by omega) W
  have hp : ∀ W, Calls Try.prog 39 #[.int .i64 3] W (StayIs (.int .i64 8) W) := fun W => power6_any 3 (by omega) W
  have hp2 : ∀ W, Calls Try.prog 39 #[.int .i64 8] W (StayIs (.int .i64 256) W) := fun W => power6_any 8 (by omega) W
  have hbi : ∀ W, Calls Try.prog 41 #[.int .i64 6120] W (StayIs (.int .i64 13) W) := fun W => bits6_any 6120 13 (by omega) (by decide) (by decide) W
  obtain ⟨W, hW⟩ : ∃ W, W = w.alloc (.cells #[.int .u32 0, .bool false, .int .i64 0, .int .i64 0, .int .i64 0, .int .i64 0] 39) := ⟨_, rfl⟩
  have HW : Shh (Row W w.heap.size 39 [.int .u32 0, .bool false, .int .i64 0, .int .i64 0, .int .i64 0, .int .i64 0] ∧ Below w.heap.size w W) := ⟨by rw [hW]; exact Row.new_ rfl rfl, by rw [hW]; exact Below.alloc (Below.refl _ _) (Nat.le_refl _) _⟩
  rw [hW] at HW
  clear hW
  go_enter Try.func24, Try.ntmps24
  go_wp2_with (go_at_call 38; refine (hb _).mono ?_)
  unfold StayIs
  rintro e w2 ⟨rfl, rfl⟩
  go_wp2_with (go_at_call 39; refine (hp _).mono ?_)
  unfold StayIs
  rintro e w2 ⟨rfl, rfl⟩
  go_wp2_with (go_at_call 39; refine (hp2 _).mono ?_)
  unfold StayIs
  rintro e w2 ⟨rfl, rfl⟩
  go_wp2_with (go_at_call 41; refine (hbi _).mono ?_)
  unfold StayIs
  rintro e w2 ⟨rfl, rfl⟩
  go_wp2_with (go_at_call 40; refine (up6_7 _).mono ?_)
  unfold StayIs
  rintro e w2 ⟨rfl, rfl⟩
  go_wp2_with (refine wpList_store_any rfl 39 (.tmp 2) (.tmp 51) rfl w.heap.size rfl [.int .u32 8, .bool false, .int .i64 24, .int .i64 8, .int .i64 26, .int .i64 0] rfl 39 _ HW.out.1 info_ots rfl oneCell6 ?_)
  intro Z hr bt _
  have F : Shh (Row Z w.heap.size 39 [.int .u32 8, .bool false, .int .i64 24, .int .i64 8, .int .i64 26, .int .i64 0] ∧ Below w.heap.size w Z) := ⟨hr, HW.out.2.trans (bt.under (by omega) (Nat.le_refl _))⟩
  clear hr bt HW
  go_wp2
  exact ret_rs Try.results24 rfl rfl rfl F.out.1 Try.underlying39 rfl info_ots ⟨rfl, F.out.2⟩
theorem refOts_9 (w : World) : Calls Try.prog 24 #[.int .u32 9] w (OldIs (.tuple #[.agg #[.int .u32 9, .bool true, .int .i64 32, .int .i64 1, .int .i64 265, .int .i64 7], .int .i64 0]) w) := by
  unfold OldIs
  have hb : ∀ W, Calls Try.prog 38 #[.int .i64 2] W (StayIs (.int .i64 32) W) := fun W => bytes6_any 2 (by omega) W
  have hp : ∀ W, Calls Try.prog 39 #[.int .i64 0] W (StayIs (.int .i64 1) W) := fun W => power6_any 0 (by omega) W
  have hp2 : ∀ W, Calls Try.prog 39 #[.int .i64 1] W (StayIs (.int .i64 2) W) := fun W => power6_any 1 (by omega) W
  have hbi : ∀ W, Calls Try.prog 41 #[.int .i64 256] W (StayIs (.int .i64 9) W) := fun W => bits6_any 256 9 (by omega) (by decide) (by decide) W
  obtain ⟨W, hW⟩ : ∃ W, W = w.alloc (.cells #[.int .u32 0, .bool false, .int .i64 0, .int .i64 0, .int .i64 0, .int .i64 0] 39) := ⟨_, rfl⟩
  have HW : Shh (Row W w.heap.size 39 [.int .u32 0, .bool false, .int .i64 0, .int .i64 0, .int .i64 0, .int .i64 0] ∧ Below w.heap.size w W) := ⟨by rw [hW]; exact Row.new_ rfl rfl, by rw [hW]; exact Below.alloc (Below.refl _ _) (Nat.le_refl _) _⟩
  rw [hW] at HW
  clear hW
  go_enter Try.func24, Try.ntmps24
  go_wp2_with (go_at_call 38; refine (hb _).mono ?_)
  unfold StayIs
  rintro e w2 ⟨rfl, rfl⟩
  go_wp2_with (go_at_call 39; refine (hp _).mono ?_)
  unfold StayIs
  rintro e w2 ⟨rfl, rfl⟩
  go_wp2_with (go_at_call 39; refine (hp2 _).mono ?_)
  unfold StayIs
  rintro e w2 ⟨rfl, rfl⟩
  go_wp2_with (go_at_call 41; refine (hbi _).mono ?_)
  unfold StayIs
  rintro e w2 ⟨rfl, rfl⟩
  go_wp2_with (go_at_call 40; refine (up6_0 _).mono ?_)
  unfold StayIs
  rintro e w2 ⟨rfl, rfl⟩
  go_wp2_with (refine wpList_store_any rfl 39 (.tmp 2) (.tmp 51) rfl w.heap.size rfl [.int .u32 9, .bool true, .int .i64 32, .int .i64 1, .int .i64 265, .int .i64 7] rfl 39 _ HW.out.1 info_ots rfl oneCell6 ?_)
  intro Z hr bt _
  have F : Shh (Row Z w.heap.size 39 [.int .u32 9, .bool true, .int .i64 32, .int .i64 1, .int .i64 265, .int .i64 7] ∧ Below w.heap.size w Z) := ⟨hr, HW.out.2.trans (bt.under (by omega) (Nat.le_refl _))⟩
  clear hr bt HW
  go_wp2
  exact ret_rs Try.results24 rfl rfl rfl F.out.1 Try.underlying39 rfl info_ots ⟨rfl, F.out.2⟩
theorem refOts_10 (w : World) : Calls Try.prog 24 #[.int .u32 10] w (OldIs (.tuple #[.agg #[.int .u32 10, .bool true, .int .i64 32, .int .i64 2, .int .i64 133, .int .i64 6], .int .i64 0]) w) := by
  unfold OldIs
  have hb : ∀ W, Calls Try.prog 38 #[.int .i64 2] W (StayIs (.int .i64 32) W) := fun W => bytes6_any 2 (by omega) W
  have hp : ∀ W, Calls Try.prog 39 #[.int .i64 1] W (StayIs (.int .i64 2) W) := fun W => power6_any 1 (by omega) W
  have hp2 : ∀ W, Calls Try.prog 39 #[.int .i64 2] W (StayIs (.int .i64 4) W) := fun W => power6_any 2 (by omega) W
  have hbi : ∀ W, Calls Try.prog 41 #[.int .i64 384] W (StayIs (.int .i64 9) W) := fun W => bits6_any 384 9 (by omega) (by decide) (by decide) W
  obtain ⟨W, hW⟩ : ∃ W, W = w.alloc (.cells #[.int .u32 0, .bool false, .int .i64 0, .int .i64 0, .int .i64 0, .int .i64 0] 39) := ⟨_, rfl⟩
  have HW : Shh (Row W w.heap.size 39 [.int .u32 0, .bool false, .int .i64 0, .int .i64 0, .int .i64 0, .int .i64 0] ∧ Below w.heap.size w W) := ⟨by rw [hW]; exact Row.new_ rfl rfl, by rw [hW]; exact Below.alloc (Below.refl _ _) (Nat.le_refl _) _⟩
  rw [hW] at HW
  clear hW
  go_enter Try.func24, Try.ntmps24
  go_wp2_with (go_at_call 38; refine (hb _).mono ?_)
  unfold StayIs
  rintro e w2 ⟨rfl, rfl⟩
  go_wp2_with (go_at_call 39; refine (hp _).mono ?_)
  unfold StayIs
  rintro e w2 ⟨rfl, rfl⟩
  go_wp2_with (go_at_call 39; refine (hp2 _).mono ?_)
  unfold StayIs
  rintro e w2 ⟨rfl, rfl⟩
  go_wp2_with (go_at_call 41; refine (hbi _).mono ?_)
  unfold StayIs
  rintro e w2 ⟨rfl, rfl⟩
  go_wp2_with (go_at_call 40; refine (up6_1 _).mono ?_)
  unfold StayIs
  rintro e w2 ⟨rfl, rfl⟩
  go_wp2_with (refine wpList_store_any rfl 39 (.tmp 2) (.tmp 51) rfl w.heap.size rfl [.int .u32 10, .bool true, .int .i64 32, .int .i64 2, .int .i64 133, .int .i64 6] rfl 39 _ HW.out.1 info_ots rfl oneCell6 ?_)
  intro Z hr bt _
  have F : Shh (Row Z w.heap.size 39 [.int .u32 10, .bool true, .int .i64 32, .int .i64 2, .int .i64 133, .int .i64 6] ∧ Below w.heap.size w Z) := ⟨hr, HW.out.2.trans (bt.under (by omega) (Nat.le_refl _))⟩
  clear hr bt HW
  go_wp2
  exact ret_rs Try.results24 rfl rfl rfl F.out.1 Try.underlying39 rfl info_ots ⟨rfl, F.out.2⟩
theorem refOts_11 (w : World) : Calls Try.prog 24 #[.int .u32 11] w (OldIs (.tuple #[.agg #[.int .u32 11, .bool true, .int .i64 32, .int .i64 4, .int .i64 67, .int .i64 4], .int .i64 0]) w) := by
  unfold OldIs
  have hb : ∀ W, Calls Try.prog 38 #[.int .i64 2] W (StayIs (.int .i64 32) W) := fun W => bytes6_any 2 (by omega) W
  have hp : ∀ W, Calls Try.prog 39 #[.int .i64 2] W (StayIs (.int .i64 4) W) := fun W => power6_any 2 (by omega) W
  have hp2 : ∀ W, Calls Try.prog 39 #[.int .i64 4] W (StayIs (.int .i64 16) W) := fun W => power6_any 4 (by omega) W
  have hbi : ∀ W, Calls Try.prog 41 #[.int .i64 960] W (StayIs (.int .i64 10) W) := fun W => bits6_any 960 10 (by omega) (by decide) (by decide) W
  obtain ⟨W, hW⟩ : ∃ W, W = w.alloc (.cells #[.int .u32 0, .bool false, .int .i64 0, .int .i64 0, .int .i64 0, .int .i64 0] 39) := ⟨_, rfl⟩
  have HW : Shh (Row W w.heap.size 39 [.int .u32 0, .bool false, .int .i64 0, .int .i64 0, .int .i64 0, .int .i64 0] ∧ Below w.heap.size w W) := ⟨by rw [hW]; exact Row.new_ rfl rfl, by rw [hW]; exact Below.alloc (Below.refl _ _) (Nat.le_refl _) _⟩
  rw [hW] at HW
  clear hW
  go_enter Try.func24, Try.ntmps24
  go_wp2_with (go_at_call 38; refine (hb _).mono ?_)
  unfold StayIs
  rintro e w2 ⟨rfl, rfl⟩
  go_wp2_with (go_at_call 39; refine (hp _).mono ?_)
  unfold StayIs
  rintro e w2 ⟨rfl, rfl⟩
  go_wp2_with (go_at_call 39; refine (hp2 _).mono ?_)
  unfold StayIs
  rintro e w2 ⟨rfl, rfl⟩
  go_wp2_with (go_at_call 41; refine (hbi _).mono ?_)
  unfold StayIs
  rintro e w2 ⟨rfl, rfl⟩
  go_wp2_with (go_at_call 40; refine (up6_2 _).mono ?_)
  unfold StayIs
  rintro e w2 ⟨rfl, rfl⟩
  go_wp2_with (refine wpList_store_any rfl 39 (.tmp 2) (.tmp 51) rfl w.heap.size rfl [.int .u32 11, .bool true, .int .i64 32, .int .i64 4, .int .i64 67, .int .i64 4] rfl 39 _ HW.out.1 info_ots rfl oneCell6 ?_)
  intro Z hr bt _
  have F : Shh (Row Z w.heap.size 39 [.int .u32 11, .bool true, .int .i64 32, .int .i64 4, .int .i64 67, .int .i64 4] ∧ Below w.heap.size w Z) := ⟨hr, HW.out.2.trans (bt.under (by omega) (Nat.le_refl _))⟩
  clear hr bt HW
  go_wp2
  exact ret_rs Try.results24 rfl rfl rfl F.out.1 Try.underlying39 rfl info_ots ⟨rfl, F.out.2⟩
theorem refOts_12 (w : World) : Calls Try.prog 24 #[.int .u32 12] w (OldIs (.tuple #[.agg #[.int .u32 12, .bool true, .int .i64 32, .int .i64 8, .int .i64 34, .int .i64 0], .int .i64 0]) w) := by
  unfold OldIs
  have hb : ∀ W, Calls Try.prog 38 #[.int .i64 2] W (StayIs (.int .i64 32) W) := fun W => bytes6_any 2 (by omega) W
  have hp : ∀ W, Calls Try.prog 39 #[.int .i64 3] W (StayIs (.int .i64 8) W) := fun W => power6_any 3 (by omega) W
  have hp2 : ∀ W, Calls Try.prog 39 #[.int .i64 8] W (StayIs (.int .i64 256) W) := fun W => power6_any 8 (by omega) W
  have hbi : ∀ W, Calls Try.prog 41 #[.int .i64 8160] W (StayIs (.int .i64 13) W) := fun W => bits6_any 8160 13 (by omega) (by decide) (by decide) W
  obtain ⟨W, hW⟩ : ∃ W, W = w.alloc (.cells #[.int .u32 0, .bool false, .int .i64 0, .int .i64 0, .int .i64 0, .int .i64 0] 39) := ⟨_, rfl⟩
  have HW : Shh (Row W w.heap.size 39 [.int .u32 0, .bool false, .int .i64 0, .int .i64 0, .int .i64 0, .int .i64 0] ∧ Below w.heap.size w W) := ⟨by rw [hW]; exact Row.new_ rfl rfl, by rw [hW]; exact Below.alloc (Below.refl _ _) (Nat.le_refl _) _⟩
  rw [hW] at HW
  clear hW
  go_enter Try.func24, Try.ntmps24
  go_wp2_with (go_at_call 38; refine (hb _).mono ?_)
  unfold StayIs
  rintro e w2 ⟨rfl, rfl⟩
  go_wp2_with (go_at_call 39; refine (hp _).mono ?_)
  unfold StayIs
  rintro e w2 ⟨rfl, rfl⟩
  go_wp2_with (go_at_call 39; refine (hp2 _).mono ?_)
  unfold StayIs
  rintro e w2 ⟨rfl, rfl⟩
  go_wp2_with (go_at_call 41; refine (hbi _).mono ?_)
  unfold StayIs
  rintro e w2 ⟨rfl, rfl⟩
  go_wp2_with (go_at_call 40; refine (up6_3 _).mono ?_)
  unfold StayIs
  rintro e w2 ⟨rfl, rfl⟩
  go_wp2_with (refine wpList_store_any rfl 39 (.tmp 2) (.tmp 51) rfl w.heap.size rfl [.int .u32 12, .bool true, .int .i64 32, .int .i64 8, .int .i64 34, .int .i64 0] rfl 39 _ HW.out.1 info_ots rfl oneCell6 ?_)
  intro Z hr bt _
  have F : Shh (Row Z w.heap.size 39 [.int .u32 12, .bool true, .int .i64 32, .int .i64 8, .int .i64 34, .int .i64 0] ∧ Below w.heap.size w Z) := ⟨hr, HW.out.2.trans (bt.under (by omega) (Nat.le_refl _))⟩
  clear hr bt HW
  go_wp2
  exact ret_rs Try.results24 rfl rfl rfl F.out.1 Try.underlying39 rfl info_ots ⟨rfl, F.out.2⟩
theorem refOts_13 (w : World) : Calls Try.prog 24 #[.int .u32 13] w (OldIs (.tuple #[.agg #[.int .u32 13, .bool true, .int .i64 24, .int .i64 1, .int .i64 200, .int .i64 8], .int .i64 0]) w) := by
  unfold OldIs
  have hb : ∀ W, Calls Try.prog 38 #[.int .i64 3] W (StayIs (.int .i64 24) W) := fun W => bytes6_any 3 (by omega) W
  have hp : ∀ W, Calls Try.prog 39 #[.int .i64 0] W (StayIs (.int .i64 1) W) := fun W => power6_any 0 (by omega) W
  have hp2 : ∀ W, Calls Try.prog 39 #[.int .i64 1] W (StayIs (.int .i64 2) W) := fun W => power6_any 1 (by omega) W
  have hbi : ∀ W, Calls Try.prog 41 #[.int .i64 192] W (StayIs (.int .i64 8) W) := fun W => bits6_any 192 8 (by omega) (by decide) (by decide) W
  obtain ⟨W, hW⟩ : ∃ W, W = w.alloc (.cells #[.int .u32 0, .bool false, .int .i64 0, .int .i64 0, .int .i64 0, .int .i64 0] 39) := ⟨_, rfl⟩
  have HW : Shh (Row W w.heap.size 39 [.int .u32 0, .bool false, .int .i64 0, .int .i64 0, .int .i64 0, .int .i64 0] ∧ Below w.heap.size w W) := ⟨by rw [hW]; exact Row.new_ rfl rfl, by rw [hW]; exact Below.alloc (Below.refl _ _) (Nat.le_refl _) _⟩
  rw [hW] at HW
  clear hW
  go_enter Try.func24, Try.ntmps24
  go_wp2_with (go_at_call 38; refine (hb _).mono ?_)
  unfold StayIs
  rintro e w2 ⟨rfl, rfl⟩
  go_wp2_with (go_at_call 39; refine (hp _).mono ?_)
  unfold StayIs
  rintro e w2 ⟨rfl, rfl⟩
  go_wp2_with (go_at_call 39; refine (hp2 _).mono ?_)
  unfold StayIs
  rintro e w2 ⟨rfl, rfl⟩
  go_wp2_with (go_at_call 41; refine (hbi _).mono ?_)
  unfold StayIs
  rintro e w2 ⟨rfl, rfl⟩
  go_wp2_with (go_at_call 40; refine (up6_4 _).mono ?_)
  unfold StayIs
  rintro e w2 ⟨rfl, rfl⟩
  go_wp2_with (refine wpList_store_any rfl 39 (.tmp 2) (.tmp 51) rfl w.heap.size rfl [.int .u32 13, .bool true, .int .i64 24, .int .i64 1, .int .i64 200, .int .i64 8] rfl 39 _ HW.out.1 info_ots rfl oneCell6 ?_)
  intro Z hr bt _
  have F : Shh (Row Z w.heap.size 39 [.int .u32 13, .bool true, .int .i64 24, .int .i64 1, .int .i64 200, .int .i64 8] ∧ Below w.heap.size w Z) := ⟨hr, HW.out.2.trans (bt.under (by omega) (Nat.le_refl _))⟩
  clear hr bt HW
  go_wp2
  exact ret_rs Try.results24 rfl rfl rfl F.out.1 Try.underlying39 rfl info_ots ⟨rfl, F.out.2⟩
theorem refOts_14 (w : World) : Calls Try.prog 24 #[.int .u32 14] w (OldIs (.tuple #[.agg #[.int .u32 14, .bool true, .int .i64 24, .int .i64 2, .int .i64 101, .int .i64 6], .int .i64 0]) w) := by
  unfold OldIs
  have hb : ∀ W, Calls Try.prog 38 #[.int .i64 3] W (StayIs (.int .i64 24) W) := fun W => bytes6_any 3 (by omega) W
  have hp : ∀ W, Calls Try.prog 39 #[.int .i64 1] W (StayIs (.int .i64 2) W) := fun W => power6_any 1 (by omega) W
  have hp2 : ∀ W, Calls Try.prog 39 #[.int .i64 2] W (StayIs (.int .i64 4) W) := fun W => power6_any 2 (by omega) W
  have hbi : ∀ W, Calls Try.prog 41 #[.int .i64 288] W (StayIs (.int .i64 9) W) := fun W => bits6_any 288 9 (by omega) (by decide) (by decide) W
  obtain ⟨W, hW⟩ : ∃ W, W = w.alloc (.cells #[.int .u32 0, .bool false, .int .i64 0, .int .i64 0, .int .i64 0, .int .i64 0] 39) := ⟨_, rfl⟩
  have HW : Shh (Row W w.heap.size 39 [.int .u32 0, .bool false, .int .i64 0, .int .i64 0, .int .i64 0, .int .i64 0] ∧ Below w.heap.size w W) := ⟨by rw [hW]; exact Row.new_ rfl rfl, by rw [hW]; exact Below.alloc (Below.refl _ _) (Nat.le_refl _) _⟩
  rw [hW] at HW
  clear hW
  go_enter Try.func24, Try.ntmps24
  go_wp2_with (go_at_call 38; refine (hb _).mono ?_)
  unfold StayIs
  rintro e w2 ⟨rfl, rfl⟩
  go_wp2_with (go_at_call 39; refine (hp _).mono ?_)
  unfold StayIs
  rintro e w2 ⟨rfl, rfl⟩
  go_wp2_with (go_at_call 39; refine (hp2 _).mono ?_)
  unfold StayIs
  rintro e w2 ⟨rfl, rfl⟩
  go_wp2_with (go_at_call 41; refine (hbi _).mono ?_)
  unfold StayIs
  rintro e w2 ⟨rfl, rfl⟩
  go_wp2_with (go_at_call 40; refine (up6_5 _).mono ?_)
  unfold StayIs
  rintro e w2 ⟨rfl, rfl⟩
  go_wp2_with (refine wpList_store_any rfl 39 (.tmp 2) (.tmp 51) rfl w.heap.size rfl [.int .u32 14, .bool true, .int .i64 24, .int .i64 2, .int .i64 101, .int .i64 6] rfl 39 _ HW.out.1 info_ots rfl oneCell6 ?_)
  intro Z hr bt _
  have F : Shh (Row Z w.heap.size 39 [.int .u32 14, .bool true, .int .i64 24, .int .i64 2, .int .i64 101, .int .i64 6] ∧ Below w.heap.size w Z) := ⟨hr, HW.out.2.trans (bt.under (by omega) (Nat.le_refl _))⟩
  clear hr bt HW
  go_wp2
  exact ret_rs Try.results24 rfl rfl rfl F.out.1 Try.underlying39 rfl info_ots ⟨rfl, F.out.2⟩
theorem refOts_15 (w : World) : Calls Try.prog 24 #[.int .u32 15] w (OldIs (.tuple #[.agg #[.int .u32 15, .bool true, .int .i64 24, .int .i64 4, .int .i64 51, .int .i64 4], .int .i64 0]) w) := by
  unfold OldIs
  have hb : ∀ W, Calls Try.prog 38 #[.int .i64 3] W (StayIs (.int .i64 24) W) := fun W => bytes6_any 3 (by omega) W
  have hp : ∀ W, Calls Try.prog 39 #[.int .i64 2] W (StayIs (.int .i64 4) W) := fun W => power6_any 2 (by omega) W
  have hp2 : ∀ W, Calls Try.prog 39 #[.int .i64 4] W (StayIs (.int .i64 16) W) := fun W => power6_any 4 (by omega) W
  have hbi : ∀ W, Calls Try.prog 41 #[.int .i64 720] W (StayIs (.int .i64 10) W) := fun W => bits6_any 720 10 (by omega) (by decide) (by decide) W
  obtain ⟨W, hW⟩ : ∃ W, W = w.alloc (.cells #[.int .u32 0, .bool false, .int .i64 0, .int .i64 0, .int .i64 0, .int .i64 0] 39) := ⟨_, rfl⟩
  have HW : Shh (Row W w.heap.size 39 [.int .u32 0, .bool false, .int .i64 0, .int .i64 0, .int .i64 0, .int .i64 0] ∧ Below w.heap.size w W) := ⟨by rw [hW]; exact Row.new_ rfl rfl, by rw [hW]; exact Below.alloc (Below.refl _ _) (Nat.le_refl _) _⟩
  rw [hW] at HW
  clear hW
  go_enter Try.func24, Try.ntmps24
  go_wp2_with (go_at_call 38; refine (hb _).mono ?_)
  unfold StayIs
  rintro e w2 ⟨rfl, rfl⟩
  go_wp2_with (go_at_call 39; refine (hp _).mono ?_)
  unfold StayIs
  rintro e w2 ⟨rfl, rfl⟩
  go_wp2_with (go_at_call 39; refine (hp2 _).mono ?_)
  unfold StayIs
  rintro e w2 ⟨rfl, rfl⟩
  go_wp2_with (go_at_call 41; refine (hbi _).mono ?_)
  unfold StayIs
  rintro e w2 ⟨rfl, rfl⟩
  go_wp2_with (go_at_call 40; refine (up6_6 _).mono ?_)
  unfold StayIs
  rintro e w2 ⟨rfl, rfl⟩
  go_wp2_with (refine wpList_store_any rfl 39 (.tmp 2) (.tmp 51) rfl w.heap.size rfl [.int .u32 15, .bool true, .int .i64 24, .int .i64 4, .int .i64 51, .int .i64 4] rfl 39 _ HW.out.1 info_ots rfl oneCell6 ?_)
  intro Z hr bt _
  have F : Shh (Row Z w.heap.size 39 [.int .u32 15, .bool true, .int .i64 24, .int .i64 4, .int .i64 51, .int .i64 4] ∧ Below w.heap.size w Z) := ⟨hr, HW.out.2.trans (bt.under (by omega) (Nat.le_refl _))⟩
  clear hr bt HW
  go_wp2
  exact ret_rs Try.results24 rfl rfl rfl F.out.1 Try.underlying39 rfl info_ots ⟨rfl, F.out.2⟩
theorem refOts_16 (w : World) : Calls Try.prog 24 #[.int .u32 16] w (OldIs (.tuple #[.agg #[.int .u32 16, .bool true, .int .i64 24, .int .i64 8, .int .i64 26, .int .i64 0], .int .i64 0]) w) := by
  unfold OldIs
  have hb : ∀ W, Calls Try.prog 38 #[.int .i64 3] W (StayIs (.int .i64 24) W) := fun W => bytes6_any 3 (by omega) W
  have hp : ∀ W, Calls Try.prog 39 #[.int .i64 3] W (StayIs (.int .i64 8) W) := fun W => power6_any 3 (by omega) W
  have hp2 : ∀ W, Calls Try.prog 39 #[.int .i64 8] W (StayIs (.int .i64 256) W) := fun W => power6_any 8 (by omega) W
  have hbi : ∀ W, Calls Try.prog 41 #[.int .i64 6120] W (StayIs (.int .i64 13) W) := fun W => bits6_any 6120 13 (by omega) (by decide) (by decide) W
  obtain ⟨W, hW⟩ : ∃ W, W = w.alloc (.cells #[.int .u32 0, .bool false, .int .i64 0, .int .i64 0, .int .i64 0, .int .i64 0] 39) := ⟨_, rfl⟩
  have HW : Shh (Row W w.heap.size 39 [.int .u32 0, .bool false, .int .i64 0, .int .i64 0, .int .i64 0, .int .i64 0] ∧ Below w.heap.size w W) := ⟨by rw [hW]; exact Row.new_ rfl rfl, by rw [hW]; exact Below.alloc (Below.refl _ _) (Nat.le_refl _) _⟩
  rw [hW] at HW
  clear hW
  go_enter Try.func24, Try.ntmps24
  go_wp2_with (go_at_call 38; refine (hb _).mono ?_)
  unfold StayIs
  rintro e w2 ⟨rfl, rfl⟩
  go_wp2_with (go_at_call 39; refine (hp _).mono ?_)
  unfold StayIs
  rintro e w2 ⟨rfl, rfl⟩
  go_wp2_with (go_at_call 39; refine (hp2 _).mono ?_)
  unfold StayIs
  rintro e w2 ⟨rfl, rfl⟩
  go_wp2_with (go_at_call 41; refine (hbi _).mono ?_)
  unfold StayIs
  rintro e w2 ⟨rfl, rfl⟩
  go_wp2_with (go_at_call 40; refine (up6_7 _).mono ?_)
  unfold StayIs
  rintro e w2 ⟨rfl, rfl⟩
  go_wp2_with (refine wpList_store_any rfl 39 (.tmp 2) (.tmp 51) rfl w.heap.size rfl [.int .u32 16, .bool true, .int .i64 24, .int .i64 8, .int .i64 26, .int .i64 0] rfl 39 _ HW.out.1 info_ots rfl oneCell6 ?_)
  intro Z hr bt _
  have F : Shh (Row Z w.heap.size 39 [.int .u32 16, .bool true, .int .i64 24, .int .i64 8, .int .i64 26, .int .i64 0] ∧ Below w.heap.size w Z) := ⟨hr, HW.out.2.trans (bt.under (by omega) (Nat.le_refl _))⟩
  clear hr bt HW
  go_wp2
  exact ret_rs Try.results24 rfl rfl rfl F.out.1 Try.underlying39 rfl info_ots ⟨rfl, F.out.2⟩
theorem refOts_any (c : Nat) (w : World) : Calls Try.prog 24 #[.int .u32 (c : Int)] w (OldIs (.tuple #[otsV c, .int .i64 (oE c)]) w) := by
  by_cases h : c < 1 ∨ 16 < c
  · exact refOts_none c h w
  · have : c = 1 ∨ c = 2 ∨ c = 3 ∨ c = 4 ∨ c = 5 ∨ c = 6 ∨ c = 7 ∨ c = 8 ∨ c = 9 ∨ c = 10 ∨ c = 11 ∨ c = 12 ∨ c = 13 ∨ c = 14 ∨ c = 15 ∨ c = 16 := by omega
    rcases this with rfl | rfl | rfl | rfl | rfl | rfl | rfl | rfl | rfl | rfl | rfl | rfl | rfl | rfl | rfl | rfl
    · exact refOts_1 w
    · exact refOts_2 w
    · exact refOts_3 w
    · exact refOts_4 w
    · exact refOts_5 w
    · exact refOts_6 w
    · exact refOts_7 w
    · exact refOts_8 w
    · exact refOts_9 w
    · exact refOts_10 w
    · exact refOts_11 w
    · exact refOts_12 w
    · exact refOts_13 w
    · exact refOts_14 w
    · exact refOts_15 w
    · exact refOts_16 w
end Go.Proofs.Ythahnckjmlcehaa
