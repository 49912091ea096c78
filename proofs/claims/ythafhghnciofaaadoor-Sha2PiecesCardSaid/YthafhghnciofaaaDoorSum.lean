/-
  WALKS: (*sha2.Hash).Sum, Clone; sha2.Sum256, Sum192.
-/
import Derived.Test.YthafhghnciofaaaDoorFin
namespace Go.Proofs.YthafhghnciofaaaDoor
open Go.RowKit
set_option maxRecDepth 100000

theorem info_hash : (Tryd.prog.info? 59).map (·.size) = some 74 := by kernel_rfl
theorem isRow_hash (d : TypeDesc) (h : Tryd.prog.underlying 59 = some d) : (match d with | .struct _ | .array _ _ => true | _ => false) = true := by
  rw [Tryd.underlying59] at h
  cases h
  rfl

/-- the zero Hash -/
def hashZero : List Value := .bool false :: (wordCells (List.replicate 8 0) ++ (Lib.byteCells (List.replicate 64 0) ++ [.int .i64 0]))
theorem zero59 (w : World) : (zeroValue 59).run Tryd.prog w = .ok (.agg hashZero.toArray) w :=
  (zero_of_info (t := 59) (v := .agg hashZero.toArray) (n := 74) (by kernel_rfl)).1 w
theorem hashZero_length : hashZero.length = 74 := by decide

set_option maxHeartbeats 400000 in
theorem sum_any (g : Nat) (m : List UInt8) (w : World) (h : HashAt w g m) (hv : Vars w) (hl : m.length ≤ 1000000000) :
    Calls Tryd.prog 23 #[.pointer (some ⟨g, 0, none⟩)] w (SumIs w (sha m)) := by
  unfold SumIs
  have hg := h.lt
  go_enter Tryd.func23, Tryd.ntmps23
  go_wp2_with (go_at_call 41; refine (isMade_yes g m _ (h.step (Below.alloc (Below.refl _ _) (Nat.le_refl _) _))).mono ?_)
  rintro e w1 ⟨rfl, hw1⟩
  have hh1 : HashAt w1 g m := by rw [hw1]; exact h.step (Below.alloc (Below.refl _ _) (Nat.le_refl _) _)
  have hr1 : Row w1 w.heap.size 33 (Lib.byteCells (List.replicate 32 0)) := by rw [hw1]; exact Row.new_ rfl zero32b
  have hb1 : Below w.heap.size w w1 := by rw [hw1]; exact Below.alloc (Below.refl _ _) (Nat.le_refl _) _
  have hv1 := hv.step hb1
  clear hw1 h hv
  obtain ⟨cs, hcv, hrow, hcl, hco⟩ := HashVal.of hh1
  go_wp2_with (first | refine wpList_load_any rfl 59 (.tmp 8) rfl g rfl 59 cs _ hrow Tryd.underlying59 rfl (info_hash.trans (by rw [hcl])) ?_ | (go_at_call 43; refine (finish_any cs m _ hcv hv1 hl).mono ?_))
  rintro e w2 ⟨rfl, b2⟩
  have hr2 := hr1.below b2 hr1.lt
  have hb2 := Below.chain hb1 b2
  go_wp2_with (refine wpList_store_any rfl 33 (.tmp 2) (.tmp 10) rfl w.heap.size rfl (Lib.byteCells (sha m)) rfl 33 _ hr2 (info_b32.trans (size_bytes _ _ (sha_length m))) (by simp [Lib.byteCells_length, sha_length]) (cell_oneCell _) ?_)
  intro w3 hr3 b3 _
  have hb3 : Below w.heap.size w w3 := hb2.trans (b3.under (Nat.le_of_lt hr2.lt) (Nat.le_refl _))
  go_wp2
  exact ret_row Tryd.results23 rfl rfl hr3 Tryd.underlying33 rfl (info_b32.trans (size_bytes _ _ (sha_length m))) ⟨rfl, hb3⟩

theorem wpList_alloc_any {P : Program} {ops : Array Oper} {rest : List Oper} {o : Oper} {a : Act} {w : World} {Q : Exit → Act → World → Prop} (hgd : o.guard = none) (t : TypeId) (ho : o.op = .alloc t) (cs : Array Value)
    (hz : ∀ w, (zeroValue t).run P w = .ok (.agg cs) w)
    (h : wpList P ops Q rest (a.put o.dst (.pointer (some ⟨w.heap.size, 0, none⟩))) (w.alloc (.cells cs t))) : wpList P ops Q (o :: rest) a w :=
  wpList_plain hgd fun K hK => by
    have hk := hK _ _ h
    unfold Oper.wp execOp
    simp only [ho]
    simp [go_sem, hz, Result.andThen]
    exact hk

/-- a second Hash to which m has been written -/
def CloneIs (w : World) (m : List UInt8) (e : Ending) (w' : World) : Prop := ∃ g, e = .returned (.pointer (some ⟨g, 0, none⟩)) ∧ g = w.heap.size ∧ HashAt w' g m ∧ Below w.heap.size w w'
theorem clone_any (g : Nat) (m : List UInt8) (w : World) (h : HashAt w g m) :
    Calls Tryd.prog 22 #[.pointer (some ⟨g, 0, none⟩)] w (CloneIs w m) := by
  unfold CloneIs
  have hg := h.lt
  obtain ⟨cs, hcv, hrow, hcl, hco⟩ := HashVal.of h
  have hpos : 0 ≠ w.heap.size := by have := h.1; omega
  go_enter Tryd.func22, Tryd.ntmps22
  go_wp2_with (go_at_call 41; refine (isMade_yes g m _ h).mono ?_)
  rintro e w1 ⟨rfl, rfl⟩
  have hz := zero59
  have hc : (Value.agg hashZero.toArray).cells = hashZero.toArray := rfl
  have hzl := hashZero_length
  generalize hashZero = zs at *
  go_wp2_with (first | refine wpList_load_any rfl 59 (.tmp 8) rfl g rfl 59 cs _ hrow Tryd.underlying59 rfl (info_hash.trans (by rw [hcl])) ?_ | refine wpList_alloc_any rfl 59 rfl zs.toArray hz ?_ | refine wpList_store_any rfl 59 (.tmp 3) (.tmp 9) rfl w1.heap.size rfl cs rfl 59 zs (Row.new_ rfl rfl) (info_hash.trans (by rw [hcl])) (by omega) hco ?_)
  intro w2 hr2 b2 hs2
  have hb2 : Below w1.heap.size w1 w2 := (Below.alloc (Below.refl _ _) (Nat.le_refl _) _).trans (b2.under (Nat.le_succ _) (Nat.le_refl _))
  go_wp2
  go_ret
  exact ⟨w1.heap.size, rfl, rfl, hcv.at_ hpos hr2, hb2⟩

end Go.Proofs.YthafhghnciofaaaDoor
