/-
 ARGUMENTS OPENED: a slice of hints; bytes and numbers.
-/
import Derived.Test.YtflalpcceeocaaaDo2
import Derived.Test.YtflalpcceeocaaaPh1
import Derived.DeepKeys
namespace Go.Proofs.Ytflalpcceeocaaa
open Go.ChangeShapes Go.WideShapes Go.ChangeAt Go.RowKit
set_option maxRecDepth 100000
section
variable {H : Type} {enc : TypeId × Value → H} {P : Program}
/-- an array of bools that lies in memory -/
theorem trod_boolsD {W : World} {sp : Nat → Bool} {base n fuel : Nat} {t e : TypeId} {cs : List Value} {x : DataW H × List MemPlace} (ht : P.underlying t = some (.array n e)) (he : P.underlying e = some .bool) (ce : P.cellsOf e = 1) (ct : P.cellsOf t = n) (hl : cs.length = n)
  (h : DataW.trod enc P W base sp true fuel t cs = some x) : ∃ f : Nat → Bool, ∀ i, i < n → cs[i]? = some (.bool (f i)) := by
 cases fuel with
 | zero => simp [DataW.trod] at h
 | succ m =>
  rw [DataW.trod_step] at h
  unfold DataW.trodStep at h
  simp only [ht, ce, ct, Nat.mul_one] at h
  rw [if_pos hl] at h
  simp only [Option.map_eq_some_iff] at h
  obtain ⟨ys, hy, _⟩ := h
  have each : ∀ i, i < n → ∃ a, cs[i]? = some (.bool a) := fun i hi => by
   obtain ⟨y, hy1⟩ := mapM_eachD hy i (List.mem_range.2 hi)
   obtain ⟨a, ha, _⟩ := DataW.trod_bool he hy1
   refine ⟨a, ?_⟩
   have := congrArg (·[0]?) ha
   simpa using this
  refine ⟨fun i => boolAtD (cs.getD i default), fun i hi => ?_⟩
  obtain ⟨a, ha⟩ := each i hi
  show cs[i]? = some (.bool (boolAtD (cs.getD i default)))
  rw [List.getD_eq_getElem?_getD, ha]
  rfl
end
section
variable {H : Type} {enc : TypeId × Value → H}
theorem open_hints {W : World} {base : Nat} {v : Value} {d : DataW H} {ps : List MemPlace} (hval : Value.okWide Try.prog W .any base 22 v) (h : DataW.Trod enc Try.prog W 0 (fun _ => true) true 22 v d ps) : ∃ (n : Nat) (L : Nat → Nat → Bool), HintsAt W W.heap.size v n L := by
 obtain ⟨a0, len, cap, rfl⟩ := okWide_slice Try.underlying22 hval
 obtain ⟨fuel, hf⟩ := h
 rcases Deep.open_slice Try.underlying22 hf with ⟨hcs, _⟩ | ⟨a, len', cap', m, n, D, Pl, hcs, _, hl, hm, hmm, _, hx⟩
 ·simp [Value.cells] at hcs
  obtain ⟨rfl, rfl, rfl⟩ := hcs
  exact ⟨0, fun _ _ => false, HintsAt.nil_ _ _ _⟩
 ·simp [Value.cells] at hcs
  obtain ⟨rfl, rfl, rfl⟩ := hcs
  simp only [if_true] at hmm
  subst hmm
  rw [cells_hint] at hx
  have each : ∀ i, i < len → ∃ f : Nat → Bool, ∀ j, j < 256 → W.cell? (a.add (i * 256 + j)) = some (.bool (f j)) := by
   intro i hi
   obtain ⟨cs', h1, h2⟩ := hx i (by omega)
   obtain ⟨_, hlen, hcell⟩ := World.cells?_some h1
   obtain ⟨f, hf⟩ := trod_boolsD Try.underlying39 Try.underlying4 cells_bool cells_hint hlen h2
   refine ⟨f, fun j hj => ?_⟩
   have e := hcell j hj
   rw [Deep.add_add] at e
   rw [e, hf j hj]
  obtain ⟨L, hL⟩ := Deep.choose_lt (α := Nat → Bool) each
  refine ⟨len, L, some a, _, rfl, hl, hm, fun hn => ?_⟩
  have h0 := hL 0 hn 0 (by omega)
  have hsp : a.spot = none := by
   simp only [Nat.zero_mul, Nat.add_zero, Addr.add, if_true, World.cell?] at h0
   split at h0
   ·split at h0
    ·cases h0
    ·rename_i hns; simpa using hns
   ·cases h0
  obtain ⟨b, off, sp⟩ := a
  simp only at hsp
  subst hsp
  have hb : b < W.heap.size := by
   have := World.block_lt_of_cell? W _ h0
   simpa [Addr.add] using this
  refine ⟨b, off, rfl, hb, fun k hk j u hu => ?_⟩
  have hj : j < 256 := by
   have := (List.getElem?_eq_some_iff.1 hu).1
   rw [hc_length] at this
   exact this
  rw [hc_get _ hj] at hu
  have e := hL k hk j hj
  rw [addr_add] at e
  rw [Nat.add_assoc, e]
  exact hu
end
end Go.Proofs.Ytflalpcceeocaaa
