import Derived.Test.YtapjiknedghhfaaDoorKRound
import Derived.Test.YtapjiknedghhfaaDoorKeys1
import Derived.Test.YtapjiknedghhfaaDoorKMa
import Derived.Test.YtapjiknedghhfaaDoorKSp
import Derived.Test.YtapjiknedghhfaaDoorME
/-
 WALKS: the document's own constants, Permute.
-/
namespace Go.Proofs.YtapjiknedghhfaaDoor
open Go.RowKit
set_option maxRecDepth 100000

theorem info_l24 : (Tryd.prog.info? 78).map (·.size) = some 24 := by kernel_rfl
theorem zero24w : (#[.int .u64 0, .int .u64 0, .int .u64 0, .int .u64 0, .int .u64 0, .int .u64 0, .int .u64 0, .int .u64 0, .int .u64 0, .int .u64 0, .int .u64 0, .int .u64 0, .int .u64 0, .int .u64 0, .int .u64 0, .int .u64 0, .int .u64 0, .int .u64 0, .int .u64 0, .int .u64 0, .int .u64 0, .int .u64 0, .int .u64 0, .int .u64 0] : Array Value) = (laneCells (List.replicate 24 0)).toArray := by rfl
theorem kC_length : kC.length = 24 := rfl
theorem run_index24 {a : Act} {x y : Operand} {o : Oper} (b k : Nat) (hk : k < 24) (ho : o.op = .indexAddr 78 x y) (hx : a.eval x = .pointer (some ⟨b, 0, none⟩)) (hy : a.eval y = .int .i64 (k : Int)) (w : World) :
  (execOp a.eval o).run Tryd.prog w = .ok (.value (.pointer (some ⟨b, k, none⟩))) w := by
 have h0 : (0 : Int) ≤ (k : Int) := by omega
 have h1 : (k : Int) < 24 := by omega
 unfold execOp
 simp only [ho, hx, hy]
 go_simp
section
variable {P : Program} {md : Region.Mode} {ops : Array Oper} {Q : Exit → Act → World → Prop} {S : World → Prop} {fuel : Nat} {listed : Array Bool} {a : Act} {w : World}
theorem step_loadRow (i : Nat) (ty : TypeId) (x : Operand) (dst : Option Tmp) (hop : (ops[i]?).map (fun o => (o.op, o.dst)) = some (.load ty x, dst)) (hw : (ops[i]?).map (fun o => Region.wanted o (yielded ops a.tmps)) = some true)
  (b o : Nat) (hx : a.eval x = .pointer (some ⟨b, o, none⟩)) (cs : List Value) (d : TypeDesc) (hc : w.rangeAt b o cs) (hu : P.underlying ty = some d) (hd : d.isRow = true) (hi : (P.info? ty).map (·.size) = some cs.length) (hS : S w)
  (h : wpAnyH P md ops Q S fuel (listed.setIfInBounds i true) (a.put dst (.agg cs.toArray)) w) : HStep P md ops Q S fuel listed a w i := by
 unfold HStep
 cases ho : ops[i]? with
 | none => rw [ho] at hop; cases hop
 | some op =>
  rw [ho] at hop hw
  simp only [Option.map_some, Option.some.injEq, Prod.mk.injEq] at hop hw
  refine wpOp_step ho fun K' hK => ?_
  rw [if_pos hw]
  refine wp_load_mid ty x hop.1 b o hx cs d hc hu hd hi (hK _ _ ?_)
  rw [hop.2]
  exact ⟨hS, h⟩
end

theorem kconstants_any (w : World) : Calls Tryd.prog 51 #[] w (LanesIs w kC) := by
 unfold LanesIs
 generalize hN : w.heap.size = N at *
 have hr0 : Row (w.alloc (.cells (laneCells (List.replicate 24 0)).toArray 78)) N 78 (laneCells (List.replicate 24 0)) := Row.new_ hN.symm rfl
 have hb0 : Below N w (w.alloc (.cells (laneCells (List.replicate 24 0)).toArray 78)) := (Below.refl N w).alloc (by omega) _
 go_enter Tryd.func51, Tryd.ntmps51
 go_wp2_with (first
  | refine wpList_build_eq rfl 78 _ rfl (laneCells kC).toArray (by kernel_rfl) ?_
  | refine wpList_store_any rfl 78 (.tmp 0) (.tmp 1) rfl N rfl (laneCells kC) rfl 78 _ hr0 (info_l24.trans (size_lanes _ _ rfl)) rfl (cell_oneLane _) ?_)
 intro w9 hr9 b9 _
 have hb9 := hb0.trans (b9.under (by omega) (Nat.le_refl _))
 go_wp2
 exact ret_row Tryd.results51 rfl rfl hr9 Tryd.underlying78 rfl (info_l24.trans (size_lanes _ _ rfl)) ⟨rfl, hb9⟩

set_option maxHeartbeats 2000000 in
theorem refPermute_any (l : List UInt64) (hl : l.length = 25) (w : World) :
  Calls Tryd.prog 46 #[.agg (laneCells l).toArray] w (LanesIs w (permL l)) := by
 unfold LanesIs
 have HP : Shh (permL l = refPerm l 24) := Shh.mk (refPerm_eq l hl 24).symm
 generalize hN : w.heap.size = N at *
 have hrA : Row ((w.alloc (.cells (laneCells l).toArray 57)).alloc (.cells (laneCells (List.replicate 25 0)).toArray 57)) N 57 (laneCells l) := (Row.new_ hN.symm rfl).alloc _
 have hrR : Row ((w.alloc (.cells (laneCells l).toArray 57)).alloc (.cells (laneCells (List.replicate 25 0)).toArray 57)) (N + 1) 57 (laneCells (List.replicate 25 0)) := Row.new_ (by rw [asz, hN]) rfl
 have hbA : Below N w ((w.alloc (.cells (laneCells l).toArray 57)).alloc (.cells (laneCells (List.replicate 25 0)).toArray 57)) := ((Below.refl N w).alloc (by omega) _).alloc (by rw [asz]; omega) _
 go_enter Tryd.func46, Tryd.ntmps46
 go_wp2_with (go_at_call 51; refine (kconstants_any _).mono ?_)
 rintro e w1 ⟨rfl, b1⟩
 rw [asz, asz, hN] at b1
 replace hrA := hrA.below b1 (by omega)
 replace hrR := hrR.below b1 (by omega)
 replace hbA := hbA.trans (b1.mono (by omega))
 have hz1 := b1.size
 rw [asz, asz, hN] at hz1
 clear b1
 obtain ⟨C, hC⟩ : ∃ C, C = w1.heap.size := ⟨_, rfl⟩
 replace hC := hC.symm
 have hrC0 : Row (w1.alloc (.cells (laneCells (List.replicate 24 0)).toArray 78)) C 78 (laneCells (List.replicate 24 0)) := Row.new_ hC.symm rfl
 go_wp2_with (refine wpList_store_any rfl 78 (.tmp 3) (.tmp 5) rfl C rfl (laneCells kC) rfl 78 _ hrC0 (info_l24.trans (size_lanes _ _ rfl)) rfl (cell_oneLane _) ?_)
 intro w2 hrC b2 z2
 try simp only [asz] at b2 z2
 replace hrA := b2.row (hrA.alloc _) (by omega) (by omega)
 replace hrR := b2.row (hrR.alloc _) (by omega) (by omega)
 replace hbA := (hbA.alloc (by omega) _).trans (b2.under (by omega) (by omega))
 have hNC : N + 1 < C := by omega
 clear b2 z2 hrC0 hz1 hC
 go_wp2
 go_loopw [4, 6] (fun _ i wr => ∃ k : Nat, k ≤ 24 ∧ i = .int .i64 (k : Int) ∧ Row wr N 57 (laneCells (refPerm l k)) ∧ Row wr (N + 1) 57 (laneCells (List.replicate 25 0)) ∧ Row wr C 78 (laneCells kC) ∧ Below N w wr) (fun _ i _ => 24 - (intOf i).toNat)
 case atStart => exact ⟨0, Nat.zero_le _, rfl, hrA, hrR, hrC, hbA⟩
 case round =>
  clear hrA hrR hrC hbA
  obtain ⟨k, hk, rfl, hrA, hrR, hrC, hbA⟩ := hrel
  have hpl : (refPerm l k).length = 25 := by rw [refPerm_eq l hl k]; exact permK_length l hl k
  have HS : Shh (refPerm l (k + 1) = roundL (refPerm l k) (lane kC k)) := Shh.mk rfl
  obtain ⟨cur, HC⟩ : ∃ c, Shh (c = refPerm l k) := ⟨_, Shh.mk rfl⟩
  rw [← HC.out] at hpl HS hrA
  by_cases hlt : k < 24
  ·replace hrA := hrA.drew
   replace hrR := hrR.drew
   replace hrC := hrC.drew
   replace hbA := hbA.drew
   have hcl : (laneCells kC)[k]? = some (.int .u64 ((lane kC k).toNat : Int)) := laneCells_lane _ _ (by rw [kC_length]; omega)
   have hrd := round_any cur hpl (lane kC k)
   have hrl : (roundL cur (lane kC k)).length = 25 := by rw [← HS.out, refPerm_eq l hl (k + 1)]; exact permK_length l hl (k + 1)
   obtain ⟨nx, HN⟩ : ∃ nx, Shh (nx = roundL cur (lane kC k)) := ⟨_, Shh.mk rfl⟩
   rw [← HN.out] at hrd hrl HS
   generalize lane kC k = rc at *
   go_wp2
   refine wp_region_held_drew (S := fun w' => w'.cell? ⟨C, k, none⟩ = some (.int .u64 (rc.toNat : Int))) (by kernel_rfl) ((hrC.cell k).trans hcl) (fun hSX => ?_)
   generalize wr.drew = X at *
   refine hdv0 1 10 (.int .i64 (k : Int)) (by rfl) hSX ?_
   refine hdv 2 11 (.pointer (some ⟨C, k, none⟩)) (by rfl) (fun w _ => run_index24 C k hlt rfl (by kernel_rfl) (by kernel_rfl) w) hSX ?_
   refine hdv 3 12 (.int .u64 (rc.toNat : Int)) (by rfl) (fun w hS => run_load1 rfl Tryd.underlying56 (by kernel_rfl) hS) hSX ?_
   refine held_one 0 (by kernel_rfl) ?_
   refine step_loadRow 0 57 (Operand.tmp 1) (some 9) (by kernel_rfl) (by kernel_rfl) N 0 (by kernel_rfl) (laneCells cur) (.array 25 56) hrA.range Tryd.underlying57 rfl (info_l25.trans (size_lanes _ _ hpl)) hSX ?_
   simp only [Act.put, arr9, hd9, tl9]
   refine held_one 4 (by kernel_rfl) ?_
   refine step_call 4 (Op.call { callee := Callee.value (Operand.func 52), args := #[Operand.tmp 9, Operand.tmp 12], argTypes := #[57, 56] }) 57 (some 13) 52 (#[.agg (laneCells cur).toArray, .int .u64 (rc.toNat : Int)]) (by kernel_rfl) (by kernel_rfl) (by kernel_rfl) ?_
   refine (hrd _).mono ?_
   rintro e w3 ⟨rfl, b3⟩
   replace hrA := hrA.below b3 hrA.lt
   replace hrR := hrR.below b3 hrR.lt
   have hrC3 := hrC.below b3 hrC.lt
   have hz3 := hbA.size
   replace hbA := hbA.trans (b3.mono (by omega))
   refine ⟨_, rfl, (hrC3.cell k).trans hcl, ?_⟩
   simp only [Act.put, arr9, hd9, tl9]
   refine held_one 5 (by kernel_rfl) ?_
   refine step_storeRow 5 57 (Operand.tmp 1) (Operand.tmp 13) (by kernel_rfl) (by kernel_rfl) N (by kernel_rfl) (laneCells nx) (by kernel_rfl) _ _ hrA (info_l25.trans (size_lanes _ _ hrl)) (by rw [laneCells_length, laneCells_length, hpl, hrl]) (cell_oneLane _) ?_
   intro Y hrY bY zY
   have hrC4 := bY.row hrC3 hrC3.lt (by omega)
   have hrR4 := bY.row hrR hrR.lt (by omega)
   have hbY := hbA.trans (bY.under (Nat.le_of_lt hrA.lt) (Nat.le_refl _))
   refine ⟨(hrC4.cell k).trans hcl, ?_⟩
   refine wpAnyH_done (by kernel_rfl) ?_ _
   clear hrA hrR hrC hrC3 hbA hrd zY bY b3 hSX hcl
   rw [← HS.out] at hrY
   go_wp2
   go_roundw
   case rel => exact ⟨k + 1, by omega, by go_num, hrY, hrR4, hrC4, hbY⟩
   case measure => simp [intOf]; omega
  ·have HE : Shh (permL l = cur) := Shh.mk (by rw [HP.out, HC.out, show k = 24 by omega])
   have hNlt := hrA.lt
   go_wp2_with (first
    | refine wpList_load_any rfl 57 (.tmp 1) rfl N rfl 57 (laneCells cur) (.array 25 56) hrA Tryd.underlying57 rfl (info_l25.trans (size_lanes _ _ hpl)) ?_
    | refine wpList_store_any rfl 57 (.tmp 2) (.tmp 15) rfl (N + 1) rfl (laneCells cur) rfl 57 _ hrR (info_l25.trans (size_lanes _ _ hpl)) (by rw [laneCells_length, laneCells_length, hpl]; rfl) (cell_oneLane _) ?_)
   intro w9 hr9 b9 _
   have hb9 := hbA.trans (b9.under (Nat.le_of_lt hNlt) (Nat.le_succ _))
   go_wp2
   exact ret_row Tryd.results46 rfl rfl hr9 Tryd.underlying57 rfl (info_l25.trans (size_lanes _ _ hpl)) ⟨by rw [HE.out], hb9⟩
end Go.Proofs.YtapjiknedghhfaaDoor

/-
 WALK: the document's own bytes.
-/
namespace Go.Proofs.YtapjiknedghhfaaDoor
open Go.RowKit
set_option maxRecDepth 100000

theorem map_range_snoc (l : List UInt64) (k : Nat) : (List.range (k + 1)).map (byteL l) = (List.range k).map (byteL l) ++ [byteL l k] := by
 rw [List.range_succ, List.map_append]
 rfl
theorem kown_mono {w : World} {base base' e n : Nat} {v : Value} {xs : List Value} (h : w.ownsRow base' e 1 v n xs) (hb : base ≤ base') : w.ownsRow base e 1 v n xs := by
 refine ⟨h.1, ?_⟩
 rcases h.2 with h0 | ⟨g, cap, cur, h1, h2, h3⟩
 ·exact .inl h0
 ·exact .inr ⟨g, cap, cur, h1, Nat.le_trans hb h2, h3⟩
theorem wrapu8_nat (n : Nat) : IntKind.u8.wrap (n : Int) = ((UInt8.ofNat n).toNat : Int) := by
 rw [IntKind.wrap_u8]
 simp

set_option maxHeartbeats 1000000 in
theorem refBytes_any (l : List UInt64) (hl : l.length = 25) (n : Nat) (hn : n ≤ 200) (w : World) :
  Calls Tryd.prog 47 #[.agg (laneCells l).toArray, .int .i64 (n : Int)] w (OwnIs w ((List.range n).map (byteL l))) := by
 unfold OwnIs
 obtain ⟨i0, hi, hz0, hz1, hz2⟩ := info_parts info_u8
 unfold Gives
 generalize hN : w.heap.size = N at *
 have hrA : ∀ o, Row ((w.alloc (.cells (laneCells l).toArray 57)).alloc o) N 57 (laneCells l) := fun o => (Row.new_ hN.symm rfl).alloc _
 have hbA : ∀ o p, Below N w ((w.alloc o).alloc p) := fun o p => ((Below.refl N w).alloc (by omega) _).alloc (by rw [asz]; omega) _
 have hz : (w.alloc (.cells (laneCells l).toArray 57)).heap.size = N + 1 := by rw [asz, hN]
 have ho : ((w.alloc (.cells (laneCells l).toArray 57)).alloc (.cells #[] 5)).ownsRow (N + 1) 5 1 (.slice (some ⟨N + 1, 0, none⟩) 0 0) 0 [] := by
  have := World.ownsRow_made (base := N + 1) (e := 5) (size := 1) (w.alloc (.cells (laneCells l).toArray 57)) #[] 0 (by omega) (Nat.zero_le _) rfl
  rw [hz] at this
  exact this
 go_enter Tryd.func47, Tryd.ntmps47
 go_wp2
 go_loopw [5, 6, 9] (fun o _ i wr => ∃ k : Nat, k ≤ n ∧ i = .int .i64 (k : Int) ∧ Row wr N 57 (laneCells l) ∧ wr.ownsRow (N + 1) 5 1 o k (Lib.byteCells ((List.range k).map (byteL l))) ∧ Below N w wr ∧ N + 1 ≤ wr.heap.size) (fun _ _ i _ => n - (intOf i).toNat)
 case atStart => exact ⟨0, Nat.zero_le _, rfl, hrA _, ho, hbA _ _, by simp [hz]⟩
 case round =>
  clear hrA hbA ho hz
  obtain ⟨k, hk, rfl, hr, hown, hbel, hsz⟩ := hrel
  obtain ⟨A1, c1, rfl⟩ := own_form hown
  by_cases hlt : k < n
  ·obtain ⟨p, hp⟩ : ∃ p, p = k / 8 := ⟨_, rfl⟩
   obtain ⟨r, hr8⟩ : ∃ r, r = k % 8 := ⟨_, rfl⟩
   obtain ⟨r8, hrr⟩ : ∃ r', r' = 8 * r := ⟨_, rfl⟩
   have qp : (k : Int).tdiv 8 = (p : Int) := (show (k : Int).tdiv 8 = ((k / 8 : Nat) : Int) from rfl).trans (by rw [hp])
   have qp' : (k : Int) / 8 = (p : Int) := by omega
   have qr : (k : Int).tmod 8 = (r : Int) := (show (k : Int).tmod 8 = ((k % 8 : Nat) : Int) from rfl).trans (by rw [hr8])
   have qr' : (k : Int) % 8 = (r : Int) := by omega
   have qs : (8 : Int) * (r : Int) = (r8 : Int) := by omega
   have wp : IntKind.i64.wrap (p : Int) = (p : Int) := by rw [IntKind.wrap_i64]; omega
   have ws : IntKind.i64.wrap (r8 : Int) = (r8 : Int) := by rw [IntKind.wrap_i64]; omega
   have wu : IntKind.u64.wrap (r8 : Int) = (r8 : Int) := by rw [IntKind.wrap_u64]; omega
   have hp25 : p < 25 := by omega
   have hc := (hr.cell p).trans (laneCells_lane l p (by omega))
   have hb : byteL l k = UInt8.ofNat ((lane l p).toNat / 2 ^ r8) := by rw [hrr, hr8, hp]; rfl
   have hw8 := wrapu8_nat ((lane l p).toNat / 2 ^ r8)
   rw [← hb] at hw8
   have hdiv : ((lane l p).toNat : Int) / 2 ^ r8 = (((lane l p).toNat / 2 ^ r8 : Nat) : Int) := by simp
   have HM := Shh.mk (map_range_snoc l k)
   have hrb : r8 < 64 := by omega
   have hln : ((List.range k).map (byteL l)).length = k := by simp
   generalize byteL l k = b at *
   generalize lane l p = x at *
   generalize (List.range k).map (byteL l) = pre at *
   generalize hdd : x.toNat / 2 ^ r8 = xd at *
   have hrn : ((r8 : Int)).toNat = r8 := by omega
   clear hp hr8 hrr hb hdd
   go_wp2_with (at_builtin; refine wp_append1 _ 22 5 i0 (.int .u8 0) Tryd.underlying22 hi hz0 hz1 hz2 rfl rfl _ _ rfl hown rfl rfl rfl (by omega) hsz ?_)
   intro v' w2 o2 _ b2
   have HO : Shh (w2.ownsRow (N + 1) 5 1 v' (k + 1) (Lib.byteCells ((List.range (k + 1)).map (byteL l)))) := Shh.mk (by
    rw [HM.out]
    have e2 : Lib.byteCells (pre ++ [b]) = Lib.byteCells pre ++ [.int .u8 (b.toNat : Int)] := by simp [Lib.byteCells]
    rw [e2]
    exact o2)
   obtain ⟨A2, c2, rfl⟩ := own_form o2
   have hr2 := hr.below (b2 _ (Nat.le_refl _)) (Nat.lt_succ_self N)
   have hbel2 := hbel.trans (b2 _ (Nat.le_succ N))
   have hsz2 := (b2 _ (Nat.le_refl _)).size
   clear hown hc hw8 hdiv HM hr hbel b2 o2
   go_wp2
   go_roundw
   case rel => exact ⟨k + 1, by omega, by go_num, hr2, HO.out, hbel2, by omega⟩
   case measure => simp [intOf]; omega
  ·obtain rfl : k = n := by omega
   have HO : Shh (wr.ownsRow N 5 1 (.slice A1 k c1) ((List.range k).map (byteL l)).length (Lib.byteCells ((List.range k).map (byteL l)))) := Shh.mk (by
    have := kown_mono (base := N) hown (Nat.le_succ N)
    simpa using this)
   clear hown
   go_wp2
   go_ret
   exact ⟨_, rfl, HO.out, hbel⟩
end Go.Proofs.YtapjiknedghhfaaDoor
