/-
  WALKS: the document's own sets of LMS and XMSS.
-/
import Derived.Test.YthahnckjmlcehaaPa4
import Derived.Test.YthahnckjmlcehaaPa6
namespace Go.Proofs.Ythahnckjmlcehaa
open Go.RowKit
set_option maxRecDepth 100000
def rF (c b : Nat) : Nat := if c < b ∨ 64 ≤ c - b then 0 else (c - b) / 16
def rH (c b : Nat) : Nat := if c < b ∨ 64 ≤ c - b then 0 else (c - b) % 16
def rOk (c b : Nat) : Bool := if c < b ∨ 64 ≤ c - b then false else decide (1 ≤ (c - b) % 16 ∧ (c - b) % 16 ≤ 4)
theorem rOk_yes {c b : Nat} (h : rOk c b = true) : rF c b = ownF c b ∧ rH c b = ownH c b ∧ ownH c b ≠ 0 := by
  unfold rOk at h
  split at h
  · cases h
  · next h1 =>
    have h2 := of_decide_eq_true h
    unfold rF rH ownF ownH
    rw [if_neg h1, if_neg h1, if_neg (by omega), if_neg (by omega)]
    exact ⟨rfl, rfl, by omega⟩
theorem rOk_no {c b : Nat} (h : rOk c b = false) : ownH c b = 0 := by
  unfold rOk at h
  unfold ownH
  split at h
  · next h1 => rw [if_pos (by omega)]
  · have h2 := of_decide_eq_false h
    split <;> omega
theorem refOwn_any (c b : Nat) (_hc : c < 4294967296) (hb : b < 4294967000) (w : World) : Calls Try.prog 37 #[.int .u32 (c : Int), .int .u32 (b : Int)] w (StayIs (.tuple #[.int .i64 (rF c b : Int), .int .i64 (rH c b : Int), .bool (rOk c b)]) w) := by
  unfold StayIs
  have hw0 : IntKind.u32.wrap ((b : Int) + 63) = (b : Int) + 63 := by rw [IntKind.wrap_u32]; omega
  by_cases h1 : c < b ∨ 64 ≤ c - b
  · have e1 : rF c b = 0 := by unfold rF; rw [if_pos h1]
    have e2 : rH c b = 0 := by unfold rH; rw [if_pos h1]
    have e3 : rOk c b = false := by unfold rOk; rw [if_pos h1]
    rw [e1, e2, e3]
    clear e1 e2 e3
    by_cases h2 : c < b
    · have i1 : (c : Int) < (b : Int) := by omega
      clear h1
      go_enter Try.func37, Try.ntmps37
      go_wp2
      go_ret3
      exact ⟨rfl, rfl⟩
    · have i1 : ¬ (c : Int) < (b : Int) := by omega
      have i2 : (b : Int) + 63 < (c : Int) := by omega
      clear h1
      go_enter Try.func37, Try.ntmps37
      go_wp2
      go_ret3
      exact ⟨rfl, rfl⟩
  · obtain ⟨d, hd⟩ : ∃ d, d = c - b := ⟨_, rfl⟩
    obtain ⟨q, hq⟩ : ∃ q, q = d / 16 := ⟨_, rfl⟩
    obtain ⟨r, hr⟩ : ∃ r, r = d % 16 := ⟨_, rfl⟩
    have e1 : rF c b = q := by unfold rF; rw [if_neg h1, ← hd, hq]
    have e2 : rH c b = r := by unfold rH; rw [if_neg h1, ← hd, hr]
    have e3 : rOk c b = decide (1 ≤ r ∧ r ≤ 4) := by unfold rOk; rw [if_neg h1, ← hd, ← hr]
    rw [e1, e2, e3]
    clear e1 e2 e3
    have i1 : ¬ (c : Int) < (b : Int) := by omega
    have i2 : ¬ (b : Int) + 63 < (c : Int) := by omega
    have hw : IntKind.u32.wrap ((c : Int) - (b : Int)) = (d : Int) := by rw [IntKind.wrap_u32]; omega
    have hw2 : IntKind.i64.wrap (d : Int) = (d : Int) := by rw [IntKind.wrap_i64]; omega
    have ht : Int.tmod (d : Int) 16 = (r : Int) := by rw [hr, Int.tmod_eq_emod_of_nonneg (by omega)]; omega
    have hv : Int.tdiv (d : Int) 16 = (q : Int) := by rw [hq, Int.tdiv_eq_ediv_of_nonneg (by omega)]; omega
    have hqw : IntKind.i64.wrap (q : Int) = (q : Int) := by rw [IntKind.wrap_i64]; omega
    have hrw : IntKind.i64.wrap (r : Int) = (r : Int) := by rw [IntKind.wrap_i64]; omega
    clear hd hq hr h1
    by_cases h3 : 1 ≤ r
    · have i3 : (1 : Int) ≤ (r : Int) := by omega
      by_cases h4 : r ≤ 4
      · have i4 : (r : Int) ≤ 4 := by omega
        have e : decide (1 ≤ r ∧ r ≤ 4) = true := by simp; omega
        rw [e]
        go_enter Try.func37, Try.ntmps37
        go_wp2
        go_ret3
        exact ⟨rfl, rfl⟩
      · have i4 : ¬ (r : Int) ≤ 4 := by omega
        have e : decide (1 ≤ r ∧ r ≤ 4) = false := by simp; omega
        rw [e]
        go_enter Try.func37, Try.ntmps37
        go_wp2
        go_ret3
        exact ⟨rfl, rfl⟩
    · have i3 : ¬ (1 : Int) ≤ (r : Int) := by omega
      have e : decide (1 ≤ r ∧ r ≤ 4) = false := by simp; omega
      rw [e]
      go_enter Try.func37, Try.ntmps37
      go_wp2
      go_ret3
      exact ⟨rfl, rfl⟩
theorem hS_dec {f : Nat} (h : f ≤ 3) : hS f = decide ((2 : Int) ≤ (f : Int)) := by
  unfold hS
  exact decide_eq_decide.2 (by omega)
theorem refLms_any (c : Nat) (hc : c < 4294967296) (w : World) : Calls Try.prog 23 #[.int .u32 (c : Int)] w (OldIs (.tuple #[lmsV c, .int .i64 (lE c)]) w) := by
  unfold OldIs lmsV
  obtain ⟨W, hW⟩ : ∃ W, W = w.alloc (.cells #[.int .u32 0, .bool false, .int .i64 0, .int .i64 0] 37) := ⟨_, rfl⟩
  have HW : Shh (Row W w.heap.size 37 [.int .u32 0, .bool false, .int .i64 0, .int .i64 0] ∧ Below w.heap.size w W) := ⟨by rw [hW]; exact Row.new_ rfl rfl, by rw [hW]; exact Below.alloc (Below.refl _ _) (Nat.le_refl _) _⟩
  rw [hW] at HW
  clear hW
  have hown : ∀ W, Calls Try.prog 37 #[.int .u32 (c : Int), .int .u32 4026531840] W (StayIs (.tuple #[.int .i64 (rF c lB : Int), .int .i64 (rH c lB : Int), .bool (rOk c lB)]) W) := fun W => refOwn_any c 4026531840 hc (by omega) W
  have hy := rOk_yes (c := c) (b := lB)
  have hn := rOk_no (c := c) (b := lB)
  obtain ⟨ok, hok⟩ : ∃ ok, ok = rOk c lB := ⟨_, rfl⟩
  rw [← hok] at hown hy hn
  clear hok
  obtain ⟨h, hh⟩ : ∃ h, h = lH c := ⟨_, rfl⟩
  obtain ⟨f, hf⟩ : ∃ f, f = lF c := ⟨_, rfl⟩
  have hfl : f ≤ 3 := by rw [hf]; exact lF_le c
  have hhl : h ≤ 25 := by rw [hh]; exact lH_le c
  by_cases hin : 5 ≤ c ∧ c ≤ 24
  · obtain ⟨d, hd⟩ : ∃ d, d = c - 5 := ⟨_, rfl⟩
    obtain ⟨q, hq⟩ : ∃ q, q = d / 5 := ⟨_, rfl⟩
    obtain ⟨r, hr⟩ : ∃ r, r = d % 5 := ⟨_, rfl⟩
    have eq : f = q := by rw [hf]; unfold lF; rw [if_pos hin, hq, hd]
    have eh : h = 5 * (r + 1) := by rw [hh]; unfold lH; rw [if_pos hin]; omega
    have e1 : lC c = (c : Int) := by unfold lC; rw [if_neg (by omega)]
    have e2 : lSh c = hS f := by unfold lSh; rw [if_neg (by omega), hf]
    have e3 : lN c = hN f := by unfold lN; rw [if_neg (by omega), hf]
    have e4 : lE c = 0 := by unfold lE; rw [if_neg (by omega)]
    rw [e1, e2, e3, e4, ← hh]
    have i1 : (5 : Int) ≤ (c : Int) := by omega
    have i2 : (c : Int) ≤ 24 := by omega
    have w1 : IntKind.u32.wrap ((c : Int) - 5) = (d : Int) := by rw [IntKind.wrap_u32]; omega
    have w2 : IntKind.i64.wrap (d : Int) = (d : Int) := by rw [IntKind.wrap_i64]; omega
    have w3 : Int.tdiv (d : Int) 5 = (f : Int) := by rw [eq, hq, Int.tdiv_eq_ediv_of_nonneg (by omega)]; omega
    have w4 : Int.tmod (d : Int) 5 = (r : Int) := by rw [hr, Int.tmod_eq_emod_of_nonneg (by omega)]; omega
    have w5 : IntKind.i64.wrap (r : Int) = (r : Int) := by rw [IntKind.wrap_i64]; omega
    have w6 : IntKind.i64.wrap ((r : Int) + 1) = (r : Int) + 1 := by rw [IntKind.wrap_i64]; omega
    have w7 : IntKind.i64.wrap (5 * ((r : Int) + 1)) = (h : Int) := by rw [IntKind.wrap_i64]; omega
    have w8 : IntKind.i64.wrap (f : Int) = (f : Int) := by rw [IntKind.wrap_i64]; omega
    clear hh hf e1 e2 e3 e4 hd hq hr eq eh hy hn hin
    rw [hS_dec hfl]
    go_enter Try.func23, Try.ntmps23
    go_wp2_with (go_at_call 37; refine (hown _).mono ?_)
    unfold StayIs
    rintro e w2 ⟨rfl, rfl⟩
    go_wp2_with (go_at_call 38; refine (bytes6_any f hfl _).mono ?_)
    unfold StayIs
    rintro e w2 ⟨rfl, rfl⟩
    go_wp2_with (refine wpList_store_any rfl 37 (.tmp 2) (.tmp 38) rfl w.heap.size rfl [.int .u32 (c : Int), .bool (decide ((2 : Int) ≤ (f : Int))), .int .i64 (hN f), .int .i64 (h : Int)] rfl 37 _ HW.out.1 info_lms rfl oneCell4 ?_)
    intro Z hr bt _
    have F : Shh (Row Z w.heap.size 37 [.int .u32 (c : Int), .bool (decide ((2 : Int) ≤ (f : Int))), .int .i64 (hN f), .int .i64 (h : Int)] ∧ Below w.heap.size w Z) := ⟨hr, HW.out.2.trans (bt.under (by omega) (Nat.le_refl _))⟩
    clear hr bt HW
    go_wp2
    exact ret_rs Try.results23 rfl rfl rfl F.out.1 Try.underlying37 rfl info_lms ⟨rfl, F.out.2⟩
  · have eF : f = ownF c lB := by rw [hf]; unfold lF; rw [if_neg hin]
    have eH : h = ownH c lB := by rw [hh]; unfold lH; rw [if_neg hin]
    cases ok with
    | true =>
      obtain ⟨y1, y2, y3⟩ := hy rfl
      rw [y1, y2, ← eF, ← eH] at hown
      have e1 : lC c = (c : Int) := by unfold lC; rw [if_neg (by omega)]
      have e2 : lSh c = hS f := by unfold lSh; rw [if_neg (by omega), hf]
      have e3 : lN c = hN f := by unfold lN; rw [if_neg (by omega), hf]
      have e4 : lE c = 0 := by unfold lE; rw [if_neg (by omega)]
      rw [e1, e2, e3, e4, ← hh]
      clear hh hf e1 e2 e3 e4 hy hn y1 y2 y3 eF eH
      by_cases h5 : 5 ≤ c
      · have i1 : (5 : Int) ≤ (c : Int) := by omega
        have i2 : ¬ (c : Int) ≤ 24 := by omega
        clear hin
        rw [hS_dec hfl]
        go_enter Try.func23, Try.ntmps23
        go_wp2_with (go_at_call 37; refine (hown _).mono ?_)
        unfold StayIs
        rintro e w2 ⟨rfl, rfl⟩
        go_wp2_with (go_at_call 38; refine (bytes6_any f hfl _).mono ?_)
        unfold StayIs
        rintro e w2 ⟨rfl, rfl⟩
        go_wp2_with (refine wpList_store_any rfl 37 (.tmp 2) (.tmp 38) rfl w.heap.size rfl [.int .u32 (c : Int), .bool (decide ((2 : Int) ≤ (f : Int))), .int .i64 (hN f), .int .i64 (h : Int)] rfl 37 _ HW.out.1 info_lms rfl oneCell4 ?_)
        intro Z hr bt _
        have F : Shh (Row Z w.heap.size 37 [.int .u32 (c : Int), .bool (decide ((2 : Int) ≤ (f : Int))), .int .i64 (hN f), .int .i64 (h : Int)] ∧ Below w.heap.size w Z) := ⟨hr, HW.out.2.trans (bt.under (by omega) (Nat.le_refl _))⟩
        clear hr bt HW
        go_wp2
        exact ret_rs Try.results23 rfl rfl rfl F.out.1 Try.underlying37 rfl info_lms ⟨rfl, F.out.2⟩
      · have i1 : ¬ (5 : Int) ≤ (c : Int) := by omega
        clear hin
        rw [hS_dec hfl]
        go_enter Try.func23, Try.ntmps23
        go_wp2_with (go_at_call 37; refine (hown _).mono ?_)
        unfold StayIs
        rintro e w2 ⟨rfl, rfl⟩
        go_wp2_with (go_at_call 38; refine (bytes6_any f hfl _).mono ?_)
        unfold StayIs
        rintro e w2 ⟨rfl, rfl⟩
        go_wp2_with (refine wpList_store_any rfl 37 (.tmp 2) (.tmp 38) rfl w.heap.size rfl [.int .u32 (c : Int), .bool (decide ((2 : Int) ≤ (f : Int))), .int .i64 (hN f), .int .i64 (h : Int)] rfl 37 _ HW.out.1 info_lms rfl oneCell4 ?_)
        intro Z hr bt _
        have F : Shh (Row Z w.heap.size 37 [.int .u32 (c : Int), .bool (decide ((2 : Int) ≤ (f : Int))), .int .i64 (hN f), .int .i64 (h : Int)] ∧ Below w.heap.size w Z) := ⟨hr, HW.out.2.trans (bt.under (by omega) (Nat.le_refl _))⟩
        clear hr bt HW
        go_wp2
        exact ret_rs Try.results23 rfl rfl rfl F.out.1 Try.underlying37 rfl info_lms ⟨rfl, F.out.2⟩
    | false =>
      have y3 := hn rfl
      have e1 : lC c = 0 := by unfold lC; rw [if_pos (by omega)]
      have e2 : lSh c = false := by unfold lSh; rw [if_pos (by omega)]
      have e3 : lN c = 0 := by unfold lN; rw [if_pos (by omega)]
      have e4 : lE c = 60 := by unfold lE; rw [if_pos (by omega)]
      have e5 : lH c = 0 := by omega
      rw [e1, e2, e3, e4, e5]
      clear hh hf e1 e2 e3 e4 e5 hy hn y3 eF eH
      by_cases h5 : 5 ≤ c
      · have i1 : (5 : Int) ≤ (c : Int) := by omega
        have i2 : ¬ (c : Int) ≤ 24 := by omega
        clear hin
        go_enter Try.func23, Try.ntmps23
        go_wp2_with (go_at_call 37; refine (hown _).mono ?_)
        unfold StayIs
        rintro e w2 ⟨rfl, rfl⟩
        go_wp2_with (refine wpList_store_any rfl 37 (.tmp 2) (.tmp 31) rfl w.heap.size rfl [.int .u32 0, .bool false, .int .i64 0, .int .i64 0] rfl 37 _ HW.out.1 info_lms rfl oneCell4 ?_)
        intro Z hr bt _
        have F : Shh (Row Z w.heap.size 37 [.int .u32 0, .bool false, .int .i64 0, .int .i64 0] ∧ Below w.heap.size w Z) := ⟨hr, HW.out.2.trans (bt.under (by omega) (Nat.le_refl _))⟩
        clear hr bt HW
        go_wp2
        exact ret_rs Try.results23 rfl rfl rfl F.out.1 Try.underlying37 rfl info_lms ⟨rfl, F.out.2⟩
      · have i1 : ¬ (5 : Int) ≤ (c : Int) := by omega
        clear hin
        go_enter Try.func23, Try.ntmps23
        go_wp2_with (go_at_call 37; refine (hown _).mono ?_)
        unfold StayIs
        rintro e w2 ⟨rfl, rfl⟩
        go_wp2_with (refine wpList_store_any rfl 37 (.tmp 2) (.tmp 31) rfl w.heap.size rfl [.int .u32 0, .bool false, .int .i64 0, .int .i64 0] rfl 37 _ HW.out.1 info_lms rfl oneCell4 ?_)
        intro Z hr bt _
        have F : Shh (Row Z w.heap.size 37 [.int .u32 0, .bool false, .int .i64 0, .int .i64 0] ∧ Below w.heap.size w Z) := ⟨hr, HW.out.2.trans (bt.under (by omega) (Nat.le_refl _))⟩
        clear hr bt HW
        go_wp2
        exact ret_rs Try.results23 rfl rfl rfl F.out.1 Try.underlying37 rfl info_lms ⟨rfl, F.out.2⟩
end Go.Proofs.Ythahnckjmlcehaa
