/-
  WALK: (*keccak.sponge).next.
-/
import Derived.Test.YtjondbamnbgiaaaDoorSpg
namespace Go.Proofs.YtjondbamnbgiaaaDoor
open Go.RowKit
set_option maxRecDepth 100000

theorem But.setCells_ {a b : World} {B g : Nat} (vs : List Value) (o : Nat) (h : But B g a b) : But B g a (b.setCells g o vs) := h.setCells vs o
theorem size_setCells (g : Nat) : ∀ (vs : List Value) (o : Nat) {w : World}, (w.setCells g o vs).heap.size = w.heap.size
  | [], _, _ => rfl
  | v :: r, o, w => (size_setCells g r (o + 1) (w := w.setCell ⟨g, o, none⟩ v)).trans (by simp [World.setCell])
section
variable {P : Program} {ops : Array Oper} {rest : List Oper} {a : Act} {w : World} {Q : Exit → Act → World → Prop} {T : TypeId} {pre post : List Value} {s : Sp} {rate : Nat} {op : Oper}
theorem wpList_store_sp (hgd : op.guard = none) (ty : TypeId) (x y : Operand) (ho : op.op = .store ty x y) (g o : Nat) (hx : a.eval x = .pointer (some ⟨g, o, none⟩)) (l : List UInt64) (hy : a.eval y = .agg (laneCells l).toArray)
    (hs : SpAt w g o T pre s rate post) (hl : l.length = 25) (hi : (P.info? ty).map (·.size) = some 25)
    (h : ∀ w2, SpAt w2 g o T pre ⟨l, s.at_⟩ rate post → But w.heap.size g w w2 → w2.heap.size = w.heap.size → wpList P ops Q rest (a.put op.dst undef) w2) : wpList P ops Q (op :: rest) a w := by
  have hz : (laneCells l).toArray.size = 25 := by rw [List.size_toArray, laneCells_length, hl]
  refine wpList_store_mid hgd ty x y ho g o (laneCells l).toArray hx hy (hs.there _ hz) (hi.trans (congrArg some hz.symm)) (all_oneCell_toArray (cell_oneLane l)) ?_
  exact h _ (hs.setLanes l hl) ((But.refl _ g w).setCells _ _) (size_setCells _ _ _)
end
/-- Permute keeps its contract -/
def PermOk : Prop := ∀ (s : List UInt64) (w : World), s.length = 25 → Vars w → Calls Tryd.prog 13 #[.agg (laneCells s).toArray] w (LanesIs w (permL s))
theorem next_of (hP : PermOk) {w : World} {g o : Nat} {T : TypeId} {pre post : List Value} {s : Sp} {rate : Nat} (h : SpAt w g o T pre s rate post) (hv : Vars w) (ha : s.at_ ≤ rate) (hr2 : rate ≤ 200) :
    Calls Tryd.prog 44 #[.pointer (some ⟨g, o, none⟩)] w (NextIs w g o T pre s rate post) := by
  unfold NextIs
  have hlt := h.lt
  have hca := h.at_cell
  have hcr := h.rate_cell
  by_cases hc : s.at_ = rate
  · obtain ⟨l, a⟩ := s
    rw [Sp.next_full _ _ hc]
    simp only at hc hca ha ⊢
    subst hc
    have hll : l.length = 25 := h.len
    have hpl := permL_length l hll
    go_enter Tryd.func44, Tryd.ntmps44
    go_wp2
    go_region
    go_wp2_with (first
      | refine wpList_load_mid rfl 23 (.tmp 15) rfl g o rfl (laneCells l) (.array 25 22) h.drew.lanes Tryd.underlying23 rfl (info_l25.trans (size_lanes _ _ hll)) ?_
      | (go_at_call 13; refine (hP l _ hll hv.drew).mono ?_))
    rintro e w1 ⟨rfl, hb⟩
    have h1 := h.drew.below hb
    have hb1 : But w.heap.size g w w1 := ((But.refl w.heap.size g w).drew).trans (show But w.heap.size g w.drew w1 from But.of hb g)
    clear h hca hcr hv hb
    go_wp2_with (refine wpList_store_sp rfl 23 (.tmp 19) (.tmp 17) rfl g o rfl (permL l) rfl h1 hpl info_l25 ?_)
    intro w2 h2 hb2 hz2
    have hb2 := hb1.trans (hb2.mono hb1.size)
    clear hb1 h1 hz2
    have hca := h2.at_cell
    have hfa := h2.free (o + 26)
    go_wp2
    go_ret
    exact ⟨rfl, (h2.setAt 0).setAt 1, (hb2.setCell _ _).setCell _ _⟩
  · obtain ⟨l, a⟩ := s
    rw [Sp.next_more _ _ hc]
    simp only at hc hca ha ⊢
    have hfa := h.free (o + 26)
    go_enter Tryd.func44, Tryd.ntmps44
    go_wp2
    go_region
    go_wp2
    go_ret
    exact ⟨by simp, h.drew.setAt (a + 1), ((But.refl _ g w).drew).setCell _ _⟩
end Go.Proofs.YtjondbamnbgiaaaDoor
