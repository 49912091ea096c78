/-
  WALKS: the sets of LMS: what the program answers for each code.
-/
import Derived.Test.YthahnckjmlcehaaPa3
namespace Go.Proofs.Ythahnckjmlcehaa
open Go.RowKit
set_option maxRecDepth 100000
def ownF (c b : Nat) : Nat := if c < b ∨ 64 ≤ c - b ∨ 4 < (c - b) % 16 then 0 else (c - b) / 16
def ownH (c b : Nat) : Nat := if c < b ∨ 64 ≤ c - b ∨ 4 < (c - b) % 16 then 0 else (c - b) % 16
theorem own_no {c b : Nat} (h : c < b ∨ 64 ≤ c - b ∨ 4 < (c - b) % 16) : ownF c b = 0 ∧ ownH c b = 0 := ⟨by unfold ownF; rw [if_pos h], by unfold ownH; rw [if_pos h]⟩
theorem own_yes {c b : Nat} (h : ¬ (c < b ∨ 64 ≤ c - b ∨ 4 < (c - b) % 16)) : ownF c b = (c - b) / 16 ∧ ownH c b = (c - b) % 16 := ⟨by unfold ownF; rw [if_neg h], by unfold ownH; rw [if_neg h]⟩
theorem ownTree_any (c b : Nat) (hc : c < 4294967296) (hb : b < 4294967296) (w : World) : Calls Try.prog 50 #[.int .u32 (c : Int), .int .u32 (b : Int)] w (StayIs (.tuple #[.int .u32 (ownF c b : Int), .int .u32 (ownH c b : Int)]) w) := by
  unfold StayIs
  by_cases h1 : c < b
  · obtain ⟨e1, e2⟩ := own_no (c := c) (b := b) (.inl h1)
    rw [e1, e2]
    have i1 : (c : Int) < (b : Int) := by omega
    go_enter Try.func50, Try.ntmps50
    go_wp2
    go_ret2
    exact ⟨rfl, rfl⟩
  obtain ⟨d, hd⟩ : ∃ d, d = c - b := ⟨_, rfl⟩
  have i1 : ¬ (c : Int) < (b : Int) := by omega
  have hw : IntKind.u32.wrap ((c : Int) - (b : Int)) = (d : Int) := by rw [IntKind.wrap_u32]; omega
  by_cases h2 : 64 ≤ d
  · obtain ⟨e1, e2⟩ := own_no (c := c) (b := b) (.inr (.inl (by omega)))
    rw [e1, e2]
    have i2 : (64 : Int) ≤ (d : Int) := by omega
    clear hd
    go_enter Try.func50, Try.ntmps50
    go_wp2
    go_ret2
    exact ⟨rfl, rfl⟩
  have i2 : ¬ (64 : Int) ≤ (d : Int) := by omega
  obtain ⟨q, hq⟩ : ∃ q, q = d / 16 := ⟨_, rfl⟩
  obtain ⟨r, hr⟩ : ∃ r, r = d % 16 := ⟨_, rfl⟩
  have ht : Int.tmod (d : Int) 16 = (r : Int) := by rw [hr, Int.tmod_eq_emod_of_nonneg (by omega)]; omega
  have hv : Int.tdiv (d : Int) 16 = (q : Int) := by rw [hq, Int.tdiv_eq_ediv_of_nonneg (by omega)]; omega
  by_cases h3 : 4 < r
  · obtain ⟨e1, e2⟩ := own_no (c := c) (b := b) (.inr (.inr (by omega)))
    rw [e1, e2]
    have i3 : (4 : Int) < (r : Int) := by omega
    clear hd hq hr hv
    go_enter Try.func50, Try.ntmps50
    go_wp2
    go_ret2
    exact ⟨rfl, rfl⟩
  obtain ⟨e1, e2⟩ := own_yes (c := c) (b := b) (by omega)
  rw [e1, e2, ← hd, ← hq, ← hr]
  have i3 : ¬ (4 : Int) < (r : Int) := by omega
  have hqw : IntKind.u32.wrap (q : Int) = (q : Int) := by rw [IntKind.wrap_u32]; omega
  have hrw : IntKind.u32.wrap (r : Int) = (r : Int) := by rw [IntKind.wrap_u32]; omega
  clear hd hq hr e1 e2
  go_enter Try.func50, Try.ntmps50
  go_wp2
  go_ret2
  exact ⟨rfl, rfl⟩
/-! lms -/
def lB : Nat := 4026531840
def xB : Nat := 4043309056
def lF (c : Nat) : Nat := if 5 ≤ c ∧ c ≤ 24 then (c - 5) / 5 else ownF c lB
def lH (c : Nat) : Nat := if 5 ≤ c ∧ c ≤ 24 then 5 * (1 + c % 5) else ownH c lB
theorem ownF_le (c b : Nat) : ownF c b ≤ 3 := by
  unfold ownF
  split
  · omega
  · omega
theorem ownH_le (c b : Nat) : ownH c b ≤ 4 := by
  unfold ownH
  split
  · omega
  · omega
theorem lF_le (c : Nat) : lF c ≤ 3 := by
  unfold lF
  split
  · omega
  · exact ownF_le c lB
theorem lH_le (c : Nat) : lH c ≤ 25 := by
  unfold lH
  split
  · omega
  · have := ownH_le c lB; omega
theorem lmsTree_any (c : Nat) (hc : c < 4294967296) (w : World) : Calls Try.prog 47 #[.int .u32 (c : Int)] w (StayIs (.tuple #[.int .u32 (lF c : Int), .int .u32 (lH c : Int)]) w) := by
  unfold StayIs
  by_cases h : 5 ≤ c ∧ c ≤ 24
  · obtain ⟨d, hd⟩ : ∃ d, d = c - 5 := ⟨_, rfl⟩
    obtain ⟨q, hq⟩ : ∃ q, q = d / 5 := ⟨_, rfl⟩
    obtain ⟨r, hr⟩ : ∃ r, r = c % 5 := ⟨_, rfl⟩
    have e1 : lF c = q := by unfold lF; rw [if_pos h, hq, hd]
    have e2 : ((lH c : Nat) : Int) = 5 * (1 + (r : Int)) := by unfold lH; rw [if_pos h, hr]; omega
    rw [e1, e2]
    have i1 : ¬ (c : Int) < 5 := by omega
    have i2 : ¬ (24 : Int) < (c : Int) := by omega
    have w1 : IntKind.u32.wrap ((c : Int) - 5) = (d : Int) := by rw [IntKind.wrap_u32]; omega
    have w2 : Int.tdiv (d : Int) 5 = (q : Int) := by rw [hq, Int.tdiv_eq_ediv_of_nonneg (by omega)]; omega
    have w3 : Int.tmod (c : Int) 5 = (r : Int) := by rw [hr, Int.tmod_eq_emod_of_nonneg (by omega)]; omega
    have w4 : IntKind.u32.wrap (1 + (r : Int)) = 1 + (r : Int) := by rw [IntKind.wrap_u32]; omega
    have w5 : IntKind.u32.wrap (5 * (1 + (r : Int))) = 5 * (1 + (r : Int)) := by rw [IntKind.wrap_u32]; omega
    have w6 : IntKind.u32.wrap (q : Int) = (q : Int) := by rw [IntKind.wrap_u32]; omega
    have w7 : IntKind.u32.wrap (r : Int) = (r : Int) := by rw [IntKind.wrap_u32]; omega
    clear hd hq hr e1 e2 h
    go_enter Try.func47, Try.ntmps47
    go_wp2
    go_ret2
    exact ⟨rfl, rfl⟩
  · have e1 : lF c = ownF c lB := by unfold lF; rw [if_neg h]
    have e2 : lH c = ownH c lB := by unfold lH; rw [if_neg h]
    rw [e1, e2]
    have hown : ∀ W, Calls Try.prog 50 #[.int .u32 (c : Int), .int .u32 4026531840] W (StayIs (.tuple #[.int .u32 (ownF c lB : Int), .int .u32 (ownH c lB : Int)]) W) := fun W => ownTree_any c 4026531840 hc (by omega) W
    clear e1 e2
    by_cases h5 : c < 5
    · have i1 : (c : Int) < 5 := by omega
      clear h
      go_enter Try.func47, Try.ntmps47
      go_wp2_with (go_at_call 50; refine (hown _).mono ?_)
      unfold StayIs
      rintro e w2 ⟨rfl, rfl⟩
      go_wp2
      go_ret2
      exact ⟨rfl, rfl⟩
    · have i1 : ¬ (c : Int) < 5 := by omega
      have i2 : (24 : Int) < (c : Int) := by omega
      clear h
      go_enter Try.func47, Try.ntmps47
      go_wp2_with (go_at_call 50; refine (hown _).mono ?_)
      unfold StayIs
      rintro e w2 ⟨rfl, rfl⟩
      go_wp2
      go_ret2
      exact ⟨rfl, rfl⟩
def lC (c : Nat) : Int := if lH c = 0 then 0 else (c : Int)
def lSh (c : Nat) : Bool := if lH c = 0 then false else hS (lF c)
def lN (c : Nat) : Int := if lH c = 0 then 0 else hN (lF c)
def lE (c : Nat) : Int := if lH c = 0 then 60 else 0
def lmsV (c : Nat) : Value := .agg #[.int .u32 (lC c), .bool (lSh c), .int .i64 (lN c), .int .i64 (lH c : Int)]
theorem info_lms : (Try.prog.info? 37).map (·.size) = some 4 := by kernel_rfl
theorem oneCell4 {a : Int} {b : Bool} {c d : Int} : ∀ u ∈ [Value.int .u32 a, .bool b, .int .i64 c, .int .i64 d], u.oneCell' = true := by
  intro u hu
  simp only [List.mem_cons, List.not_mem_nil, or_false] at hu
  rcases hu with rfl | rfl | rfl | rfl <;> rfl
theorem lms_any (c : Nat) (hc : c < 4294967296) (w : World) : Calls Try.prog 42 #[.int .u32 (c : Int)] w (OldIs (.tuple #[lmsV c, .int .i64 (lE c)]) w) := by
  unfold OldIs lmsV
  obtain ⟨W, hW⟩ : ∃ W, W = w.alloc (.cells #[.int .u32 0, .bool false, .int .i64 0, .int .i64 0] 37) := ⟨_, rfl⟩
  have HW : Shh (Row W w.heap.size 37 [.int .u32 0, .bool false, .int .i64 0, .int .i64 0] ∧ Below w.heap.size w W) := ⟨by rw [hW]; exact Row.new_ rfl rfl, by rw [hW]; exact Below.alloc (Below.refl _ _) (Nat.le_refl _) _⟩
  rw [hW] at HW
  clear hW
  have hle := lH_le c
  have hht : ∀ W, Calls Try.prog 47 #[.int .u32 (c : Int)] W (StayIs (.tuple #[.int .u32 (lF c : Int), .int .u32 (lH c : Int)]) W) := fun W => lmsTree_any c hc W
  obtain ⟨h, hh⟩ : ∃ h, h = lH c := ⟨_, rfl⟩
  obtain ⟨f, hf⟩ : ∃ f, f = lF c := ⟨_, rfl⟩
  rw [← hh, ← hf] at hht
  by_cases h0 : h = 0
  · have e1 : lC c = 0 := by unfold lC; rw [if_pos (by omega)]
    have e2 : lSh c = false := by unfold lSh; rw [if_pos (by omega)]
    have e3 : lN c = 0 := by unfold lN; rw [if_pos (by omega)]
    have e4 : lE c = 60 := by unfold lE; rw [if_pos (by omega)]
    rw [e1, e2, e3, e4, ← hh]
    subst h0
    clear hh hf e1 e2 e3 e4
    go_enter Try.func42, Try.ntmps42
    go_wp2_with (go_at_call 47; refine (hht _).mono ?_)
    unfold StayIs
    rintro e w2 ⟨rfl, rfl⟩
    go_wp2_with (refine wpList_store_any rfl 37 (.tmp 2) (.tmp 15) rfl w.heap.size rfl [.int .u32 0, .bool false, .int .i64 0, .int .i64 0] rfl 37 _ HW.out.1 info_lms rfl oneCell4 ?_)
    intro Z hr bt _
    have F : Shh (Row Z w.heap.size 37 [.int .u32 0, .bool false, .int .i64 0, .int .i64 0] ∧ Below w.heap.size w Z) := ⟨hr, HW.out.2.trans (bt.under (by omega) (Nat.le_refl _))⟩
    clear hr bt HW
    go_wp2
    exact ret_rs Try.results42 rfl rfl rfl F.out.1 Try.underlying37 rfl info_lms ⟨rfl, F.out.2⟩
  · have e1 : lC c = (c : Int) := by unfold lC; rw [if_neg (by omega)]
    have e2 : lSh c = hS f := by unfold lSh; rw [if_neg (by omega), hf]
    have e3 : lN c = hN f := by unfold lN; rw [if_neg (by omega), hf]
    have e4 : lE c = 0 := by unfold lE; rw [if_neg (by omega)]
    rw [e1, e2, e3, e4, ← hh]
    have hz : ¬ (h : Int) = 0 := by omega
    have hhw : IntKind.i64.wrap (h : Int) = (h : Int) := by rw [IntKind.wrap_i64]; omega
    clear hh hf e1 e2 e3 e4
    go_enter Try.func42, Try.ntmps42
    go_wp2_with (go_at_call 47; refine (hht _).mono ?_)
    unfold StayIs
    rintro e w2 ⟨rfl, rfl⟩
    go_wp2_with (go_at_call 48; refine (hashOf_any f _).mono ?_)
    unfold StayIs
    rintro e w2 ⟨rfl, rfl⟩
    go_wp2_with (refine wpList_store_any rfl 37 (.tmp 2) (.tmp 26) rfl w.heap.size rfl [.int .u32 (c : Int), .bool (hS f), .int .i64 (hN f), .int .i64 (h : Int)] rfl 37 _ HW.out.1 info_lms rfl oneCell4 ?_)
    intro Z hr bt _
    have F : Shh (Row Z w.heap.size 37 [.int .u32 (c : Int), .bool (hS f), .int .i64 (hN f), .int .i64 (h : Int)] ∧ Below w.heap.size w Z) := ⟨hr, HW.out.2.trans (bt.under (by omega) (Nat.le_refl _))⟩
    clear hr bt HW
    go_wp2
    exact ret_rs Try.results42 rfl rfl rfl F.out.1 Try.underlying37 rfl info_lms ⟨rfl, F.out.2⟩
end Go.Proofs.Ythahnckjmlcehaa
