/-
  WALK: ParamBack: at every kind and code.
-/
import Derived.Test.YtanpplniedphkaaDoorPf12
namespace Go.Proofs.YtanpplniedphkaaDoor
open Go.RowKit Go.Shelf
set_option maxRecDepth 100000
theorem mem_l1 {ok : Nat → Bool} {k c : Nat} : c ∈ l1 ok k ↔ (1 ≤ c ∧ c ≤ k) ∧ ok c = true := by
  induction k with
  | zero => unfold l1; simp; omega
  | succ k ih =>
    unfold l1
    rw [List.mem_append, ih]
    cases hk : ok (k + 1) with
    | true =>
      simp only [if_true, List.mem_singleton]
      constructor
      · rintro (h | rfl)
        · exact ⟨by omega, h.2⟩
        · exact ⟨by omega, hk⟩
      · rintro ⟨h1, h2⟩
        by_cases e : c = k + 1
        · exact .inr e
        · exact .inl ⟨by omega, h2⟩
    | false =>
      simp only [Bool.false_eq_true, if_false, List.not_mem_nil, or_false]
      constructor
      · rintro h; exact ⟨by omega, h.2⟩
      · rintro ⟨h1, h2⟩
        by_cases e : c = k + 1
        · subst e; rw [hk] at h2; cases h2
        · exact ⟨by omega, h2⟩
theorem mem_ite {b : Bool} {c x : Nat} : c ∈ (if b then [x] else []) ↔ b = true ∧ c = x := by cases b <;> simp
theorem mem_l2 {ok : Nat → Bool} {k c : Nat} : c ∈ l2 ok k ↔ ((lB ≤ c ∧ c < lB + k) ∨ (xB ≤ c ∧ c < xB + k)) ∧ ok c = true := by
  induction k with
  | zero => unfold l2; simp; omega
  | succ k ih =>
    unfold l2
    rw [List.mem_append, List.mem_append, ih, mem_ite, mem_ite]
    constructor
    · rintro ((h | ⟨h1, rfl⟩) | ⟨h1, rfl⟩)
      · exact ⟨by omega, h.2⟩
      · exact ⟨by omega, h1⟩
      · exact ⟨by omega, h1⟩
    · rintro ⟨h1, h2⟩
      by_cases e : c = lB + k
      · subst e; exact .inl (.inr ⟨h2, rfl⟩)
      · by_cases e2 : c = xB + k
        · subst e2; exact .inr ⟨h2, rfl⟩
        · exact .inl (.inl ⟨by omega, h2⟩)
theorem own_rng {c b : Nat} (h : ownH c b ≠ 0) : b ≤ c ∧ c < b + 64 := by
  unfold ownH at h
  split at h
  · exact absurd rfl h
  · omega
theorem mem_rO {c : Nat} : c ∈ rL okO ↔ okO c = true := by
  unfold rL
  rw [List.mem_append, mem_l1, mem_l2]
  constructor
  · rintro (h | h) <;> exact h.2
  · intro h
    have he : oE c = 0 := of_decide_eq_true h
    refine .inl ⟨?_, h⟩
    unfold oE at he
    split at he
    · omega
    · cases he
theorem lE_rng {c : Nat} (h : lE c = 0) : (1 ≤ c ∧ c ≤ 24) ∨ (lB ≤ c ∧ c < lB + 64) := by
  by_cases h5 : 5 ≤ c ∧ c ≤ 24
  · exact .inl (by omega)
  · have hh : lH c ≠ 0 := by
      intro e
      unfold lE at h
      simp [e] at h
    unfold lH at hh
    rw [if_neg h5] at hh
    exact .inr (own_rng hh)
theorem mem_rL {c : Nat} : c ∈ rL okL ↔ okL c = true := by
  unfold rL
  rw [List.mem_append, mem_l1, mem_l2]
  constructor
  · rintro (h | h) <;> exact h.2
  · intro h
    rcases lE_rng (of_decide_eq_true h) with h2 | h2
    · exact .inl ⟨h2, h⟩
    · exact .inr ⟨.inl h2, h⟩
theorem xE_rng {c : Nat} (h : xE c = 0) : (1 ≤ c ∧ c ≤ 24) ∨ (xB ≤ c ∧ c < xB + 64) := by
  by_cases h5 : 1 ≤ c ∧ c ≤ 24
  · exact .inl (by omega)
  · have hh : xH c ≠ 0 := by
      intro e
      unfold xE at h
      simp [e] at h
    unfold xH at hh
    rw [if_neg (by omega), if_neg (by omega)] at hh
    exact .inr (own_rng hh)
theorem mem_rX {c : Nat} : c ∈ rL okX ↔ okX c = true := by
  unfold rL
  rw [List.mem_append, mem_l1, mem_l2]
  constructor
  · rintro (h | h) <;> exact h.2
  · intro h
    rcases xE_rng (of_decide_eq_true h) with h2 | h2
    · exact .inl ⟨h2, h⟩
    · exact .inr ⟨.inr h2, h⟩
end Go.Proofs.YtanpplniedphkaaDoor
