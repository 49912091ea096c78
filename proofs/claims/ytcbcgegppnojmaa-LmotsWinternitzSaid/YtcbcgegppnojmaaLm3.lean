/-
  SLICES OF INTS joined; the pieces of a byte from the lowest.
-/
import Derived.Test.YtcbcgegppnojmaaLm2
namespace Go.Proofs.Ytcbcgegppnojmaa
open Go.RowKit
set_option maxRecDepth 100000
/-- several ints: what lies in another slice, or in none -/
theorem wp_appendI {P : Program} {ops : Array Oper} {rest : List Oper} {o : Oper} {a : Act} {Q : Exit → Act → World → Prop} (w : World) (t e : TypeId) (i0 : TypeInfo) (z : Value) (ht : P.underlying t = some (.slice e)) (hi : P.info? e = some i0) (hz : i0.zero = some z) (hsz : i0.size = 1) (hby : i0.bytes = 8) (hzc : z.cells.size = 1)
    (hgd : o.guard = none) (s x : Operand) (ho : o.op = .call { callee := .builtin .append, args := #[s, x], argTypes := #[t, t] })
    {base n : Nat} {v : Value} {xs : List Value} {g m c : Nat} {us : List Value} (hown : w.ownsRow base e 1 v n xs) (hs : a.eval s = v) (hx : a.eval x = .slice (some ⟨g, 0, none⟩) m c) (hus : us.length = m)
    (hc : ∀ j u, us[j]? = some u → w.cell? ⟨g, j, none⟩ = some u) (hu : ∀ u ∈ us, u.oneCell' = true) (hlen : n + m ≤ 1099511627776) (hbase : base ≤ w.heap.size)
    (h : ∀ v' w', w'.ownsRow base e 1 v' (n + m) (xs ++ us) → (∀ B, B ≤ base → Below B w w') → wpList P ops Q rest (a.put o.dst v') w') :
    wpList P ops Q (o :: rest) a w := by
  refine wpList_append_own w hgd s x t ho base e i0 z 1 8 ht hi hz hsz hby hzc (by decide) v n xs hs hown ⟨g, 0, none⟩ m c us hx (by omega) ?_ hu (by unfold maxLen; omega) (by omega) hbase ?_
  · intro j y hj
    rw [addr_add, Nat.zero_add]
    exact hc j y hj
  · intro v' w' ho' hg _
    refine h v' w' ho' fun B hB => ?_
    exact (Below.refl B w).grown hg (by omega) (fun k hk => by have := (hown.lt k hk).1; omega)
theorem intCells_one (l : List Nat) : ∀ u ∈ intCells l, u.oneCell' = true := by
  intro u hu
  simp only [intCells, List.mem_map] at hu
  obtain ⟨x, _, rfl⟩ := hu
  rfl
theorem intCells_get (l : List Nat) (j : Nat) (u : Value) (h : (intCells l)[j]? = some u) : ∃ hj : j < l.length, u = .int .i64 ((l[j] : Nat) : Int) := by
  unfold intCells at h
  rw [List.getElem?_map] at h
  obtain ⟨y, hy, rfl⟩ := Option.map_eq_some_iff.1 h
  obtain ⟨hj, rfl⟩ := List.getElem?_eq_some_iff.1 hy
  exact ⟨hj, rfl⟩
theorem SI.cells {w : World} {B g n c : Nat} {l : List Nat} (h : SI w B (.slice (some ⟨g, 0, none⟩) n c) l) : ∀ j u, (intCells l)[j]? = some u → w.cell? ⟨g, j, none⟩ = some u := by
  intro j u hj
  obtain ⟨hl, rfl⟩ := intCells_get l j u hj
  obtain ⟨g', e, _, _, hc⟩ := h.at_ (by omega)
  cases e
  exact hc j hl
/-- what is not empty lies somewhere -/
theorem OwnI.addr {w : World} {base : Nat} {v : Value} {l : List Nat} (h : OwnI w base v l) (hl : 0 < l.length) : ∃ g cap, v = .slice (some ⟨g, 0, none⟩) l.length cap := by
  rcases h with ⟨_, ⟨_, h0⟩ | ⟨g, cap, cur, rfl, _⟩⟩
  · omega
  · exact ⟨g, cap, rfl⟩
theorem OwnI.one (w : World) (x : Nat) : (w.alloc (.cells #[.int .i64 (x : Int)] 3)).ownsRow w.heap.size 3 1 (.slice (some ⟨w.heap.size, 0, none⟩) 1 1) 1 [.int .i64 (x : Int)] :=
  ⟨rfl, .inr ⟨w.heap.size, 1, #[.int .i64 (x : Int)], rfl, Nat.le_refl _, heap_alloc_new w _, Nat.le_refl _, by unfold maxLen; omega, rfl, rfl⟩⟩
theorem dg_drop (w : Nat) (hw : wOk w) (x : UInt8) (j : Nat) (h : j < 8 / w) : (dg w x).drop (8 / w - (j + 1)) = [x.toNat / (2 ^ w) ^ j % 2 ^ w] ++ (dg w x).drop (8 / w - j) := by
  have hl : 8 / w - (j + 1) < (dg w x).length := by rw [dg_length]; omega
  rw [List.drop_eq_getElem_cons hl]
  have e1 : 8 / w - (j + 1) + 1 = 8 / w - j := by omega
  rw [e1]
  have e2 : 8 - w * (8 / w - (j + 1) + 1) = w * j := by
    rw [e1]
    rcases hw with rfl | rfl | rfl | rfl <;> simp at h ⊢ <;> omega
  show _ :: _ = _ :: _
  congr 1
  simp only [dg, List.getElem_map, List.getElem_range]
  rw [e2, Nat.pow_mul]
theorem div_stepP (n M j : Nat) : n / M ^ j / M = n / M ^ (j + 1) := by rw [Nat.div_div_eq_div_mul, Nat.pow_succ]
end Go.Proofs.Ytcbcgegppnojmaa
