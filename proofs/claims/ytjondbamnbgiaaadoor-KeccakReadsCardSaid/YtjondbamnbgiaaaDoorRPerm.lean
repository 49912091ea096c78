/-
  WALKS: the document's own constants, Permute.
-/
import Derived.Test.YtjondbamnbgiaaaDoorRound
namespace Go.Proofs.YtjondbamnbgiaaaDoor
open Go.RowKit
set_option maxRecDepth 100000

/-- a hypothesis that nothing looks into till it is opened -/
structure Shh (p : Prop) : Prop where
  out : p
theorem info_l24 : (Tryd.prog.info? 61).map (·.size) = some 24 := by kernel_rfl
theorem zero24w : (#[.int .u64 0, .int .u64 0, .int .u64 0, .int .u64 0, .int .u64 0, .int .u64 0, .int .u64 0, .int .u64 0, .int .u64 0, .int .u64 0, .int .u64 0, .int .u64 0, .int .u64 0, .int .u64 0, .int .u64 0, .int .u64 0, .int .u64 0, .int .u64 0, .int .u64 0, .int .u64 0, .int .u64 0, .int .u64 0, .int .u64 0, .int .u64 0] : Array Value) = (laneCells (List.replicate 24 0)).toArray := by rfl
theorem kC_length : kC.length = 24 := rfl
theorem run_index24 {a : Act} {x y : Operand} {o : Oper} (b k : Nat) (hk : k < 24) (ho : o.op = .indexAddr 61 x y) (hx : a.eval x = .pointer (some ⟨b, 0, none⟩)) (hy : a.eval y = .int .i64 (k : Int)) (w : World) :
    (execOp a.eval o).run Tryd.prog w = .ok (.value (.pointer (some ⟨b, k, none⟩))) w := by
  have h0 : (0 : Int) ≤ (k : Int) := by omega
  have h1 : (k : Int) < 24 := by omega
  unfold execOp
  simp only [ho, hx, hy]
  go_simp
section
variable {P : Program} {md : Region.Mode} {ops : Array Oper} {Q : Exit → Act → World → Prop} {S : World → Prop} {fuel : Nat} {listed : Array Bool} {a : Act} {w : World}
theorem step_loadRow (i : Nat) (ty : TypeId) (x : Operand) (dst : Option Tmp) (hop : (ops[i]?).map (fun o => (o.op, o.dst)) = some (.load ty x, dst)) (hw : (ops[i]?).map (fun o => Region.wanted o (yielded ops a.tmps)) = some true)
    (b o : Nat) (hx : a.eval x = .pointer (some ⟨b, o, none⟩)) (cs : List Value) (d : TypeDesc) (hc : w.rangeAt b o cs) (hu : P.underlying ty = some d) (hd : d.isRow = true) (hi : (P.info? ty).map (·.size) = some cs.length) (hS : S w)
    (h : wpAnyH P md ops Q S fuel (listed.setIfInBounds i true) (a.put dst (.agg cs.toArray)) w) : HStep P md ops Q S fuel listed a w i := by
  unfold HStep
  cases ho : ops[i]? with
  | none => rw [ho] at hop; cases hop
  | some op =>
    rw [ho] at hop hw
    simp only [Option.map_some, Option.some.injEq, Prod.mk.injEq] at hop hw
    refine wpOp_step ho fun K' hK => ?_
    rw [if_pos hw]
    refine wp_load_mid ty x hop.1 b o hx cs d hc hu hd hi (hK _ _ ?_)
    rw [hop.2]
    exact ⟨hS, h⟩
end

theorem constants_any (w : World) : Calls Tryd.prog 34 #[] w (LanesIs w kC) := by
  unfold LanesIs
  generalize hN : w.heap.size = N at *
  have hr0 : Row (w.alloc (.cells (laneCells (List.replicate 24 0)).toArray 61)) N 61 (laneCells (List.replicate 24 0)) := Row.new_ hN.symm rfl
  have hb0 : Below N w (w.alloc (.cells (laneCells (List.replicate 24 0)).toArray 61)) := (Below.refl N w).alloc (by omega) _
  go_enter Tryd.func34, Tryd.ntmps34
  go_wp2_with (first
    | refine wpList_build_eq rfl 61 _ rfl (laneCells kC).toArray (by kernel_rfl) ?_
    | refine wpList_store_any rfl 61 (.tmp 0) (.tmp 1) rfl N rfl (laneCells kC) rfl 61 _ hr0 (info_l24.trans (size_lanes _ _ rfl)) rfl (cell_oneLane _) ?_)
  intro w9 hr9 b9 _
  have hb9 := hb0.trans (b9.under (by omega) (Nat.le_refl _))
  go_wp2
  exact ret_row Tryd.results34 rfl rfl hr9 Tryd.underlying61 rfl (info_l24.trans (size_lanes _ _ rfl)) ⟨rfl, hb9⟩

set_option maxHeartbeats 2000000 in
theorem refPermute_any (l : List UInt64) (hl : l.length = 25) (w : World) :
    Calls Tryd.prog 14 #[.agg (laneCells l).toArray] w (LanesIs w (permL l)) := by
  unfold LanesIs
  have HP : Shh (permL l = refPerm l 24) := Shh.mk (refPerm_eq l hl 24).symm
  generalize hN : w.heap.size = N at *
  have hrA : Row ((w.alloc (.cells (laneCells l).toArray 23)).alloc (.cells (laneCells (List.replicate 25 0)).toArray 23)) N 23 (laneCells l) := (Row.new_ hN.symm rfl).alloc _
  have hrR : Row ((w.alloc (.cells (laneCells l).toArray 23)).alloc (.cells (laneCells (List.replicate 25 0)).toArray 23)) (N + 1) 23 (laneCells (List.replicate 25 0)) := Row.new_ (by rw [asz, hN]) rfl
  have hbA : Below N w ((w.alloc (.cells (laneCells l).toArray 23)).alloc (.cells (laneCells (List.replicate 25 0)).toArray 23)) := ((Below.refl N w).alloc (by omega) _).alloc (by rw [asz]; omega) _
  go_enter Tryd.func14, Tryd.ntmps14
  go_wp2_with (go_at_call 34; refine (constants_any _).mono ?_)
  rintro e w1 ⟨rfl, b1⟩
  rw [asz, asz, hN] at b1
  replace hrA := hrA.below b1 (by omega)
  replace hrR := hrR.below b1 (by omega)
  replace hbA := hbA.trans (b1.mono (by omega))
  have hz1 := b1.size
  rw [asz, asz, hN] at hz1
  clear b1
  obtain ⟨C, hC⟩ : ∃ C, C = w1.heap.size := ⟨_, rfl⟩
  replace hC := hC.symm
  have hrC0 : Row (w1.alloc (.cells (laneCells (List.replicate 24 0)).toArray 61)) C 61 (laneCells (List.replicate 24 0)) := Row.new_ hC.symm rfl
  go_wp2_with (refine wpList_store_any rfl 61 (.tmp 3) (.tmp 5) rfl C rfl (laneCells kC) rfl 61 _ hrC0 (info_l24.trans (size_lanes _ _ rfl)) rfl (cell_oneLane _) ?_)
  intro w2 hrC b2 z2
  try simp only [asz] at b2 z2
  replace hrA := b2.row (hrA.alloc _) (by omega) (by omega)
  replace hrR := b2.row (hrR.alloc _) (by omega) (by omega)
  replace hbA := (hbA.alloc (by omega) _).trans (b2.under (by omega) (by omega))
  have hNC : N + 1 < C := by omega
  clear b2 z2 hrC0 hz1 hC
  go_wp2
  go_loopw [4, 6] (fun _ i wr => ∃ k : Nat, k ≤ 24 ∧ i = .int .i64 (k : Int) ∧ Row wr N 23 (laneCells (refPerm l k)) ∧ Row wr (N + 1) 23 (laneCells (List.replicate 25 0)) ∧ Row wr C 61 (laneCells kC) ∧ Below N w wr) (fun _ i _ => 24 - (intOf i).toNat)
  case atStart => exact ⟨0, Nat.zero_le _, rfl, hrA, hrR, hrC, hbA⟩
  case round =>
    clear hrA hrR hrC hbA
    obtain ⟨k, hk, rfl, hrA, hrR, hrC, hbA⟩ := hrel
    have hpl : (refPerm l k).length = 25 := by rw [refPerm_eq l hl k]; exact permK_length l hl k
    have HS : Shh (refPerm l (k + 1) = roundL (refPerm l k) (lane kC k)) := Shh.mk rfl
    obtain ⟨cur, HC⟩ : ∃ c, Shh (c = refPerm l k) := ⟨_, Shh.mk rfl⟩
    rw [← HC.out] at hpl HS hrA
    by_cases hlt : k < 24
    · replace hrA := hrA.drew
      replace hrR := hrR.drew
      replace hrC := hrC.drew
      replace hbA := hbA.drew
      have hcl : (laneCells kC)[k]? = some (.int .u64 ((lane kC k).toNat : Int)) := laneCells_lane _ _ (by rw [kC_length]; omega)
      have hrd := round_any cur hpl (lane kC k)
      have hrl : (roundL cur (lane kC k)).length = 25 := by rw [← HS.out, refPerm_eq l hl (k + 1)]; exact permK_length l hl (k + 1)
      obtain ⟨nx, HN⟩ : ∃ nx, Shh (nx = roundL cur (lane kC k)) := ⟨_, Shh.mk rfl⟩
      rw [← HN.out] at hrd hrl HS
      generalize lane kC k = rc at *
      go_wp2
      refine wp_region_held_drew (S := fun w' => w'.cell? ⟨C, k, none⟩ = some (.int .u64 (rc.toNat : Int))) (by kernel_rfl) ((hrC.cell k).trans hcl) (fun hSX => ?_)
      generalize wr.drew = X at *
      refine held_value 1 (Op.move (Operand.tmp 4)) 3 (some 10) (.int .i64 (k : Int)) (by kernel_rfl) (by kernel_rfl) (by kernel_rfl) (fun w _ => by kernel_rfl) (fun _ _ _ _ h => h) hSX ?_
      simp only [Act.put, List.setIfInBounds_toArray, List.set_cons_zero, List.set_cons_succ]
      refine held_value 2 (Op.indexAddr 61 (Operand.tmp 3) (Operand.tmp 10)) 0 (some 11) (.pointer (some ⟨C, k, none⟩)) (by kernel_rfl) (by kernel_rfl) (by kernel_rfl) (fun w _ => run_index24 C k hlt rfl (by kernel_rfl) (by kernel_rfl) w) (fun _ _ _ _ h => h) hSX ?_
      simp only [Act.put, List.setIfInBounds_toArray, List.set_cons_zero, List.set_cons_succ]
      refine held_value 3 (Op.load 22 (Operand.tmp 11)) 22 (some 12) (.int .u64 (rc.toNat : Int)) (by kernel_rfl) (by kernel_rfl) (by kernel_rfl) (fun w hS => run_load1 rfl Tryd.underlying22 (by kernel_rfl) hS) (fun _ _ _ _ h => h) hSX ?_
      simp only [Act.put, List.setIfInBounds_toArray, List.set_cons_zero, List.set_cons_succ]
      refine held_one 0 (by kernel_rfl) ?_
      refine step_loadRow 0 23 (Operand.tmp 1) (some 9) (by kernel_rfl) (by kernel_rfl) N 0 (by kernel_rfl) (laneCells cur) (.array 25 22) hrA.range Tryd.underlying23 rfl (info_l25.trans (size_lanes _ _ hpl)) hSX ?_
      simp only [Act.put, List.setIfInBounds_toArray, List.set_cons_zero, List.set_cons_succ]
      refine held_one 4 (by kernel_rfl) ?_
      refine step_call 4 (Op.call { callee := Callee.value (Operand.func 30), args := #[Operand.tmp 9, Operand.tmp 12], argTypes := #[23, 22] }) 23 (some 13) 30 (#[.agg (laneCells cur).toArray, .int .u64 (rc.toNat : Int)]) (by kernel_rfl) (by kernel_rfl) (by kernel_rfl) ?_
      refine (hrd _).mono ?_
      rintro e w3 ⟨rfl, b3⟩
      replace hrA := hrA.below b3 hrA.lt
      replace hrR := hrR.below b3 hrR.lt
      have hrC3 := hrC.below b3 hrC.lt
      have hz3 := hbA.size
      replace hbA := hbA.trans (b3.mono (by omega))
      refine ⟨_, rfl, (hrC3.cell k).trans hcl, ?_⟩
      simp only [Act.put, List.setIfInBounds_toArray, List.set_cons_zero, List.set_cons_succ]
      refine held_one 5 (by kernel_rfl) ?_
      refine step_storeRow 5 23 (Operand.tmp 1) (Operand.tmp 13) (by kernel_rfl) (by kernel_rfl) N (by kernel_rfl) (laneCells nx) (by kernel_rfl) _ _ hrA (info_l25.trans (size_lanes _ _ hrl)) (by rw [laneCells_length, laneCells_length, hpl, hrl]) (cell_oneLane _) ?_
      intro Y hrY bY zY
      have hrC4 := bY.row hrC3 hrC3.lt (by omega)
      have hrR4 := bY.row hrR hrR.lt (by omega)
      have hbY := hbA.trans (bY.under (Nat.le_of_lt hrA.lt) (Nat.le_refl _))
      refine ⟨(hrC4.cell k).trans hcl, ?_⟩
      refine wpAnyH_done (by kernel_rfl) ?_ _
      clear hrA hrR hrC hrC3 hbA hrd zY bY b3 hSX hcl
      rw [← HS.out] at hrY
      go_wp2
      go_roundw
      case rel => exact ⟨k + 1, by omega, by go_num, hrY, hrR4, hrC4, hbY⟩
      case measure => simp [intOf]; omega
    · have HE : Shh (permL l = cur) := Shh.mk (by rw [HP.out, HC.out, show k = 24 by omega])
      have hNlt := hrA.lt
      go_wp2_with (first
        | refine wpList_load_any rfl 23 (.tmp 1) rfl N rfl 23 (laneCells cur) (.array 25 22) hrA Tryd.underlying23 rfl (info_l25.trans (size_lanes _ _ hpl)) ?_
        | refine wpList_store_any rfl 23 (.tmp 2) (.tmp 15) rfl (N + 1) rfl (laneCells cur) rfl 23 _ hrR (info_l25.trans (size_lanes _ _ hpl)) (by rw [laneCells_length, laneCells_length, hpl]; rfl) (cell_oneLane _) ?_)
      intro w9 hr9 b9 _
      have hb9 := hbA.trans (b9.under (Nat.le_of_lt hNlt) (Nat.le_succ _))
      go_wp2
      exact ret_row Tryd.results14 rfl rfl hr9 Tryd.underlying23 rfl (info_l25.trans (size_lanes _ _ hpl)) ⟨by rw [HE.out], hb9⟩
end Go.Proofs.YtjondbamnbgiaaaDoor
