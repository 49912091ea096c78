/-
  A slice of bools that came in, opened; what the bound of the second form gives for it.
-/
import Derived.Test.YtijkhpiehaocpaaLaw
import Derived.Test.YtijkhpiehaocpaaFrom
namespace Go.Proofs.Ytijkhpiehaocpaa
open Go.ChangeShapes Go.WideShapes Go.ChangeAt Go.RowKit
open Go.Deep (open_bools)

section
variable {H : Type} {enc : TypeId × Value → H} {P : Program}
/-- A slice of bools that came in: it reads as a list of bools. -/
theorem open_boolsl {W : World} {base : Nat} {t e : TypeId} {v : Value} {d : DataW H} {ps : List MemPlace} (ht : P.underlying t = some (.slice e)) (he : P.underlying e = some .bool) (hc : P.cellsOf e = 1)
    (hval : Value.okWide P W .any base t v) (h : DataW.Trod enc P W 0 (fun _ => true) true t v d ps) :
    ∃ l : List Bool, Slb W W.heap.size v l ∧ ((d = .nil ∧ l = []) ∨ ∃ el sp, d = .slice el sp ∧ el.length = l.length) := by
  obtain ⟨a0, len, cap, rfl⟩ := okWide_slice ht hval
  obtain ⟨fuel, hf⟩ := h
  rcases open_bools ht he hc hf with ⟨hcs, hx⟩ | ⟨a, len', cap', Z, hcs, _, hl, hm, hx, hcell⟩
  · simp [Value.cells] at hcs
    obtain ⟨rfl, rfl, rfl⟩ := hcs
    simp only [Prod.mk.injEq] at hx
    exact ⟨[], ⟨none, 0, rfl, Nat.le_refl _, by unfold maxLen; omega, fun h => absurd h (by simp)⟩, .inl ⟨hx.1, rfl⟩⟩
  · simp [Value.cells] at hcs
    obtain ⟨rfl, rfl, rfl⟩ := hcs
    simp only [Prod.mk.injEq] at hx
    have hbl : ((List.range len).map Z).length = len := by simp
    refine ⟨(List.range len).map Z, ⟨some a, cap, by rw [hbl], by omega, hm, fun hn => ?_⟩, .inr ⟨_, _, hx.1, by simp⟩⟩
    rw [hbl] at hn
    have h0 := hcell 0 (by omega)
    have hsp : a.spot = none := by
      simp only [Addr.add, if_true, World.cell?] at h0
      split at h0
      · split at h0
        · cases h0
        · rename_i hns; simpa using hns
      · cases h0
    obtain ⟨b, off, sp⟩ := a
    simp only at hsp
    subst hsp
    have hb : b < W.heap.size := by
      have := World.block_lt_of_cell? W _ h0
      simpa [Addr.add] using this
    refine ⟨b, off, rfl, hb, fun k hk => ?_⟩
    rw [hbl] at hk
    have hck := hcell k (by omega)
    rw [addr_add] at hck
    rw [hck]
    simp
end
theorem bools_small {H : Type} {d : DataW H} {l : List (DataW H)} {bs : List Bool} (hk : Rows.uptoSmall H l = true) (hm : d ∈ l) (h : (d = .nil ∧ bs = []) ∨ ∃ el sp, d = .slice el sp ∧ el.length = bs.length) : bs.length ≤ 1048576 := by
  have h1 := bulk_small hk
  have h2 := bulk_le hm
  rcases h with ⟨_, rfl⟩ | ⟨el, sp, rfl, he⟩
  · simp
  · have := bulk_slice el sp
    omega
end Go.Proofs.Ytijkhpiehaocpaa
