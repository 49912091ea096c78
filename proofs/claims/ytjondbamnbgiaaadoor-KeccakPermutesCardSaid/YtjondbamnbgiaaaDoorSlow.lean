/-
  WALKS: the document's own Constant, Slow.
-/
import Derived.Test.YtjondbamnbgiaaaDoorRc
namespace Go.Proofs.YtjondbamnbgiaaaDoor
open Go.RowKit
set_option maxRecDepth 100000

/-- a round's constant as the bits tell it, j bits in -/
def coL (i : Nat) : Nat → UInt64
  | 0 => 0
  | j + 1 => if rcB (j + 7 * i) then coL i j ||| UInt64.ofNat (2 ^ (2 ^ j - 1)) else coL i j
theorem coL_all : ∀ i : Fin 24, coL i.val 7 = lane kC i.val := by decide +kernel
theorem coL_eq (i : Nat) (h : i < 24) : coL i 7 = lane kC i := coL_all ⟨i, h⟩
theorem or_bit (o : UInt64) (s : Nat) (hs : s ≤ 63) : bits .or .u64 (o.toNat : Int) ((2 : Int) ^ s % 18446744073709551616) = ((o ||| UInt64.ofNat (2 ^ s)).toNat : Int) := by
  have h1 : 2 ^ s < 18446744073709551616 := by
    calc 2 ^ s ≤ 2 ^ 63 := Nat.pow_le_pow_right (by decide) hs
      _ < 18446744073709551616 := by decide
  have h2 := u64_or o (UInt64.ofNat (2 ^ s))
  rw [ofNat64 h1] at h2
  have e : (2 : Int) ^ s % 18446744073709551616 = ((2 ^ s : Nat) : Int) := by
    have : ((2 : Int) ^ s) = ((2 ^ s : Nat) : Int) := by simp
    rw [this]
    generalize (2 ^ s : Nat) = p at *
    omega
  rw [e, h2]

set_option maxHeartbeats 1000000 in
theorem constant_any (i : Nat) (hi : i < 24) (w : World) :
    Calls Tryd.prog 31 #[.int .i64 (i : Int)] w fun e w' => e = .returned (.int .u64 ((lane kC i).toNat : Int)) ∧ Below w.heap.size w w' := by
  have HC : Shh (lane kC i = coL i 7) := Shh.mk (coL_eq i hi).symm
  generalize hN : w.heap.size = N at *
  obtain ⟨i7, hi7⟩ : ∃ m, m = 7 * i := ⟨_, rfl⟩
  have q7 : (7 : Int) * (i : Int) = (i7 : Int) := by omega
  have w7 : IntKind.i64.wrap (i7 : Int) = (i7 : Int) := by rw [IntKind.wrap_i64]; omega
  have HI7 := Shh.mk hi7
  have hi7b : i7 ≤ 161 := by omega
  clear hi7
  go_enter Tryd.func31, Tryd.ntmps31
  go_wp2
  go_loopw [3, 4, 5, 6] (fun o p _ c wr => ∃ (j pp : Nat) (x : UInt64), j ≤ 7 ∧ c = .int .i64 (j : Int) ∧ o = .int .u64 (x.toNat : Int) ∧ p = .int .u64 (pp : Int) ∧ Shh (x = coL i j) ∧ Shh (pp = 2 ^ j) ∧ pp ≤ 128 ∧ 1 ≤ pp ∧ Below N w wr) (fun _ _ _ c _ => 7 - (intOf c).toNat)
  case atStart => exact ⟨0, 1, 0, Nat.zero_le _, rfl, rfl, rfl, Shh.mk rfl, Shh.mk rfl, by decide, by decide, Below.refl _ _⟩
  case round =>
    obtain ⟨j, pp, x, hj, rfl, rfl, rfl, HX, HP, hp1, hp2, hb⟩ := hrel
    by_cases hlt : j < 7
    · obtain ⟨t, ht⟩ : ∃ t, t = j + i7 := ⟨_, rfl⟩
      have qt : (j : Int) + (i7 : Int) = (t : Int) := by omega
      have wt : IntKind.i64.wrap (t : Int) = (t : Int) := by rw [IntKind.wrap_i64]; omega
      have HS : Shh (coL i (j + 1) = if rcB t then x ||| UInt64.ofNat (2 ^ (pp - 1)) else x) := Shh.mk (by rw [coL, ← HX.out, ← HP.out, ht, HI7.out])
      obtain ⟨s, hs⟩ : ∃ s, s = pp - 1 := ⟨_, rfl⟩
      rw [← hs] at HS
      obtain ⟨p2, hpe⟩ : ∃ q, q = pp * 2 := ⟨_, rfl⟩
      have HP2 : Shh (p2 = 2 ^ (j + 1)) := Shh.mk (by rw [hpe, HP.out, Nat.pow_succ])
      have HPL : p2 ≤ 128 := by
        have h1 : pp ≤ 64 := by
          rw [HP.out]
          calc 2 ^ j ≤ 2 ^ 6 := Nat.pow_le_pow_right (by decide) (by omega)
            _ = 64 := by decide
        omega
      have qs : (pp : Int) - 1 = (s : Int) := by omega
      have ws : IntKind.u64.wrap (s : Int) = (s : Int) := by rw [IntKind.wrap_u64]; omega
      have qp : (pp : Int) * 2 = (p2 : Int) := by omega
      have wp : IntKind.u64.wrap (p2 : Int) = (p2 : Int) := by rw [IntKind.wrap_u64]; omega
      have hs63 : s ≤ 127 := by omega
      have hpb : 1 ≤ p2 := by omega
      have hs64 : s < 64 := by
        have h1 : pp ≤ 64 := by omega
        omega
      have hob := or_bit x s (by omega)
      have hrc := rc_any t (by omega)
      have hsi : (s : Int) < 64 := by omega
      have hsn : ((s : Int)).toNat = s := by omega
      have hs0 : (0 : Int) ≤ (s : Int) := by omega
      have hzb := hb.size
      rw [hN] at hzb
      clear ht hs hpe HX HP
      go_wp2_with (go_at_call 40; refine (hrc _).mono ?_)
      rintro e w2 ⟨rfl, b2⟩
      have hb2 := hb.trans (b2.mono hzb)
      clear b2 hb hrc
      cases hr : rcB t with
      | false =>
        have HS2 : Shh (x = coL i (j + 1)) := Shh.mk (by rw [HS.out, hr]; rfl)
        clear HS hr
        go_wp2
        go_roundw
        case rel => exact ⟨j + 1, p2, x, by omega, by go_num, rfl, rfl, HS2, HP2, HPL, hpb, hb2⟩
        case measure => simp [intOf]; omega
      | true =>
        obtain ⟨x2, HX2⟩ : ∃ y, Shh (y = x ||| UInt64.ofNat (2 ^ s)) := ⟨_, Shh.mk rfl⟩
        have HS2 : Shh (x2 = coL i (j + 1)) := Shh.mk (by rw [HS.out, hr, HX2.out]; rfl)
        rw [← HX2.out] at hob
        clear HS hr HX2
        go_wp2
        go_roundw
        case rel => exact ⟨j + 1, p2, x2, by omega, by go_num, by rw [← hob, IntKind.wrap_u64], rfl, HS2, HP2, HPL, hpb, hb2⟩
        case measure => simp [intOf]; omega
    · have hj7 : j = 7 := by omega
      have HE : Shh (lane kC i = x) := Shh.mk (by rw [HC.out, HX.out, hj7])
      clear hj7 HX HP
      go_wp2
      go_ret
      refine ⟨?_, hb⟩
      rw [HE.out]
      rfl

set_option maxHeartbeats 2000000 in
theorem slow_any (l : List UInt64) (hl : l.length = 25) (w : World) :
    Calls Tryd.prog 11 #[.agg (laneCells l).toArray] w (LanesIs w (permL l)) := by
  unfold LanesIs
  have HP : Shh (permL l = refPerm l 24) := Shh.mk (refPerm_eq l hl 24).symm
  generalize hN : w.heap.size = N at *
  have hrA : Row ((w.alloc (.cells (laneCells l).toArray 23)).alloc (.cells (laneCells (List.replicate 25 0)).toArray 23)) N 23 (laneCells l) := (Row.new_ hN.symm rfl).alloc _
  have hrR : Row ((w.alloc (.cells (laneCells l).toArray 23)).alloc (.cells (laneCells (List.replicate 25 0)).toArray 23)) (N + 1) 23 (laneCells (List.replicate 25 0)) := Row.new_ (by rw [asz, hN]) rfl
  have hbA : Below N w ((w.alloc (.cells (laneCells l).toArray 23)).alloc (.cells (laneCells (List.replicate 25 0)).toArray 23)) := ((Below.refl N w).alloc (by omega) _).alloc (by rw [asz]; omega) _
  go_enter Tryd.func11, Tryd.ntmps11
  go_wp2
  go_loopw [3, 4] (fun _ i wr => ∃ k : Nat, k ≤ 24 ∧ i = .int .i64 (k : Int) ∧ Row wr N 23 (laneCells (refPerm l k)) ∧ Row wr (N + 1) 23 (laneCells (List.replicate 25 0)) ∧ Below N w wr) (fun _ i _ => 24 - (intOf i).toNat)
  case atStart => exact ⟨0, Nat.zero_le _, rfl, hrA, hrR, hbA⟩
  case round =>
    clear hrA hrR hbA
    obtain ⟨k, hk, rfl, hrA, hrR, hbA⟩ := hrel
    have hpl : (refPerm l k).length = 25 := by rw [refPerm_eq l hl k]; exact permK_length l hl k
    have HS : Shh (refPerm l (k + 1) = roundL (refPerm l k) (lane kC k)) := Shh.mk rfl
    obtain ⟨cur, HC⟩ : ∃ c, Shh (c = refPerm l k) := ⟨_, Shh.mk rfl⟩
    rw [← HC.out] at hpl HS hrA
    by_cases hlt : k < 24
    · replace hrA := hrA.drew
      replace hrR := hrR.drew
      replace hbA := hbA.drew
      have hrd := round_any cur hpl (lane kC k)
      have hco := constant_any k hlt
      have hrl : (roundL cur (lane kC k)).length = 25 := by rw [← HS.out, refPerm_eq l hl (k + 1)]; exact permK_length l hl (k + 1)
      obtain ⟨nx, HN⟩ : ∃ nx, Shh (nx = roundL cur (lane kC k)) := ⟨_, Shh.mk rfl⟩
      rw [← HN.out] at hrd hrl HS
      generalize lane kC k = rc at *
      have hzA := hbA.size
      rw [hN] at hzA
      go_wp2
      refine wp_region_held_drew (S := fun _ => True) (by kernel_rfl) trivial (fun _ => ?_)
      generalize wr.drew = X at *
      refine held_value 1 (Op.move (Operand.tmp 3)) 3 (some 8) (.int .i64 (k : Int)) (by kernel_rfl) (by kernel_rfl) (by kernel_rfl) (fun w _ => by kernel_rfl) (fun _ _ _ _ h => h) trivial ?_
      simp only [Act.put, List.setIfInBounds_toArray, List.set_cons_zero, List.set_cons_succ]
      refine held_two 0 2 (by kernel_rfl) ?_ ?_
      · refine step_loadRow 0 23 (Operand.tmp 1) (some 7) (by kernel_rfl) (by kernel_rfl) N 0 (by kernel_rfl) (laneCells cur) (.array 25 22) hrA.range Tryd.underlying23 rfl (info_l25.trans (size_lanes _ _ hpl)) trivial ?_
        simp only [Act.put, List.setIfInBounds_toArray, List.set_cons_zero, List.set_cons_succ]
        refine held_one 2 (by kernel_rfl) ?_
        refine step_call 2 (Op.call { callee := Callee.value (Operand.func 31), args := #[Operand.tmp 8], argTypes := #[3] }) 22 (some 9) 31 (#[.int .i64 (k : Int)]) (by kernel_rfl) (by kernel_rfl) (by kernel_rfl) ?_
        refine (hco _).mono ?_
        rintro e w2 ⟨rfl, b2⟩
        replace hrA := hrA.below b2 hrA.lt
        replace hrR := hrR.below b2 hrR.lt
        replace hbA := hbA.trans (b2.mono hzA)
        have hz2 : N ≤ w2.heap.size := by have := b2.size; omega
        refine ⟨_, rfl, trivial, ?_⟩
        simp only [Act.put, List.setIfInBounds_toArray, List.set_cons_zero, List.set_cons_succ]
        refine held_one 3 (by kernel_rfl) ?_
        refine step_call 3 (Op.call { callee := Callee.value (Operand.func 30), args := #[Operand.tmp 7, Operand.tmp 9], argTypes := #[23, 22] }) 23 (some 10) 30 (#[.agg (laneCells cur).toArray, .int .u64 (rc.toNat : Int)]) (by kernel_rfl) (by kernel_rfl) (by kernel_rfl) ?_
        refine (hrd _).mono ?_
        rintro e w3 ⟨rfl, b3⟩
        replace hrA := hrA.below b3 hrA.lt
        replace hrR := hrR.below b3 hrR.lt
        replace hbA := hbA.trans (b3.mono hz2)
        refine ⟨_, rfl, trivial, ?_⟩
        simp only [Act.put, List.setIfInBounds_toArray, List.set_cons_zero, List.set_cons_succ]
        refine held_one 4 (by kernel_rfl) ?_
        refine step_storeRow 4 23 (Operand.tmp 1) (Operand.tmp 10) (by kernel_rfl) (by kernel_rfl) N (by kernel_rfl) (laneCells nx) (by kernel_rfl) _ _ hrA (info_l25.trans (size_lanes _ _ hrl)) (by rw [laneCells_length, laneCells_length, hpl, hrl]) (cell_oneLane _) ?_
        intro Y hrY bY zY
        have hrR4 := bY.row hrR hrR.lt (by omega)
        have hbY := hbA.trans (bY.under (Nat.le_of_lt hrA.lt) (Nat.le_refl _))
        refine ⟨trivial, ?_⟩
        refine wpAnyH_done (by kernel_rfl) ?_ _
        clear hrA hrR hbA hrd hco zY bY b3 b2
        rw [← HS.out] at hrY
        go_wp2
        go_roundw
        case rel => exact ⟨k + 1, by omega, by go_num, hrY, hrR4, hbY⟩
        case measure => simp [intOf]; omega
      · refine step_call 2 (Op.call { callee := Callee.value (Operand.func 31), args := #[Operand.tmp 8], argTypes := #[3] }) 22 (some 9) 31 (#[.int .i64 (k : Int)]) (by kernel_rfl) (by kernel_rfl) (by kernel_rfl) ?_
        refine (hco _).mono ?_
        rintro e w2 ⟨rfl, b2⟩
        replace hrA := hrA.below b2 hrA.lt
        replace hrR := hrR.below b2 hrR.lt
        replace hbA := hbA.trans (b2.mono hzA)
        have hz2 : N ≤ w2.heap.size := by have := b2.size; omega
        refine ⟨_, rfl, trivial, ?_⟩
        simp only [Act.put, List.setIfInBounds_toArray, List.set_cons_zero, List.set_cons_succ]
        refine held_one 0 (by kernel_rfl) ?_
        refine step_loadRow 0 23 (Operand.tmp 1) (some 7) (by kernel_rfl) (by kernel_rfl) N 0 (by kernel_rfl) (laneCells cur) (.array 25 22) hrA.range Tryd.underlying23 rfl (info_l25.trans (size_lanes _ _ hpl)) trivial ?_
        simp only [Act.put, List.setIfInBounds_toArray, List.set_cons_zero, List.set_cons_succ]
        refine held_one 3 (by kernel_rfl) ?_
        refine step_call 3 (Op.call { callee := Callee.value (Operand.func 30), args := #[Operand.tmp 7, Operand.tmp 9], argTypes := #[23, 22] }) 23 (some 10) 30 (#[.agg (laneCells cur).toArray, .int .u64 (rc.toNat : Int)]) (by kernel_rfl) (by kernel_rfl) (by kernel_rfl) ?_
        refine (hrd _).mono ?_
        rintro e w3 ⟨rfl, b3⟩
        replace hrA := hrA.below b3 hrA.lt
        replace hrR := hrR.below b3 hrR.lt
        replace hbA := hbA.trans (b3.mono hz2)
        refine ⟨_, rfl, trivial, ?_⟩
        simp only [Act.put, List.setIfInBounds_toArray, List.set_cons_zero, List.set_cons_succ]
        refine held_one 4 (by kernel_rfl) ?_
        refine step_storeRow 4 23 (Operand.tmp 1) (Operand.tmp 10) (by kernel_rfl) (by kernel_rfl) N (by kernel_rfl) (laneCells nx) (by kernel_rfl) _ _ hrA (info_l25.trans (size_lanes _ _ hrl)) (by rw [laneCells_length, laneCells_length, hpl, hrl]) (cell_oneLane _) ?_
        intro Y hrY bY zY
        have hrR4 := bY.row hrR hrR.lt (by omega)
        have hbY := hbA.trans (bY.under (Nat.le_of_lt hrA.lt) (Nat.le_refl _))
        refine ⟨trivial, ?_⟩
        refine wpAnyH_done (by kernel_rfl) ?_ _
        clear hrA hrR hbA hrd hco zY bY b3 b2
        rw [← HS.out] at hrY
        go_wp2
        go_roundw
        case rel => exact ⟨k + 1, by omega, by go_num, hrY, hrR4, hbY⟩
        case measure => simp [intOf]; omega
    · have HE : Shh (permL l = cur) := Shh.mk (by rw [HP.out, HC.out, show k = 24 by omega])
      have hNlt := hrA.lt
      go_wp2_with (first
        | refine wpList_load_any rfl 23 (.tmp 1) rfl N rfl 23 (laneCells cur) (.array 25 22) hrA Tryd.underlying23 rfl (info_l25.trans (size_lanes _ _ hpl)) ?_
        | refine wpList_store_any rfl 23 (.tmp 2) (.tmp 12) rfl (N + 1) rfl (laneCells cur) rfl 23 _ hrR (info_l25.trans (size_lanes _ _ hpl)) (by rw [laneCells_length, laneCells_length, hpl]; rfl) (cell_oneLane _) ?_)
      intro w9 hr9 b9 _
      have hb9 := hbA.trans (b9.under (Nat.le_of_lt hNlt) (Nat.le_succ _))
      go_wp2
      exact ret_row Tryd.results11 rfl rfl hr9 Tryd.underlying23 rfl (info_l25.trans (size_lanes _ _ hpl)) ⟨by rw [HE.out], hb9⟩
end Go.Proofs.YtjondbamnbgiaaaDoor
