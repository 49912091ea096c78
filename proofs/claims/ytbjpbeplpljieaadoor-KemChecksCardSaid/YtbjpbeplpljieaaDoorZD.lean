import Derived.Test.YtbjpbeplpljieaaDoorZC
import Derived.Test.YtbjpbeplpljieaaDoorZB
import Derived.Test.YtbjpbeplpljieaaDoorZA
import Derived.BigQuiet
/-
 THE PROGRAM'S OWN Add, Sub, Mul.
-/
namespace Go.Proofs.YtbjpbeplpljieaaDoor
open Go.RowKit
set_option maxRecDepth 100000
theorem run_loadRow13 {P : Program} {a : Act} {w : World} {dst : Option Tmp} {ty T ty2 : TypeId} {x : Operand} {g : Nat} {cs : List Value} {d : TypeDesc} (hx : a.eval x = .pointer (some ⟨g, 0, none⟩)) (hr : Row w g T cs)
 (hu : P.underlying ty = some d) (hd : (match d with | .struct _ | .array _ _ => true | _ => false) = true) (hi : (P.info? ty).map (·.size) = some cs.length) : (execOp a.eval ⟨dst, .load ty x, ty2, "", #[], none⟩).run P w = .ok (.value (.agg cs.toArray)) w := by
 unfold execOp
 simp only [hx, Instr.loadAt, Instr.sureAddr, Sem.run_bind, Sem.run_pure, Result.andThen_ok, run_loadVar_row w g T ty cs.toArray (0, 0) d hr hu hd (by simpa using hi)]
theorem addR (p p2 : Nat → Nat) (i : Nat) : addN p p2 i = (redN p i + redN p2 i) % 3329 := by unfold addN redN rd; omega
theorem subR (p p2 : Nat → Nat) (i : Nat) : subN p p2 i = (redN p i + 3329 - redN p2 i) % 3329 := by unfold subN redN rd; omega
set_option maxHeartbeats 2000000 in
theorem combined_sum (p p2 : Nat → Nat) (hp : ∀ i, i < 256 → p i < 65536) (hp2 : ∀ i, i < 256 → p2 i < 65536) (w : World) : Calls Tryd.prog 63 #[polyV p, polyV p2, .func (.func 64) #[] #[]] w (PolyIs w (addN p p2)) := by
 unfold PolyIs polyV
 generalize hN : w.heap.size = N at *
 have HRD : Shh (∀ W, Calls Tryd.prog 76 #[.agg (pc p).toArray] W (PolyIs W (redN p))) := ⟨fun W => Reduce_any p hp W⟩
 have HRE : Shh (∀ W, Calls Tryd.prog 76 #[.agg (pc p2).toArray] W (PolyIs W (redN p2))) := ⟨fun W => Reduce_any p2 hp2 W⟩
 have HF : Shh (∀ i, addN p p2 i = (redN p i + redN p2 i) % 3329 ∧ redN p i < 3329 ∧ redN p2 i < 3329) := ⟨fun i => ⟨addR p p2 i, rd_lt _, rd_lt _⟩⟩
 generalize addN p p2 = fin at *
 generalize redN p = r1 at *
 generalize redN p2 = r2 at *
 clear hp hp2
 obtain ⟨S0, hS0⟩ : ∃ S0, S0 = ((w.alloc (.cells (pc p).toArray 62)).alloc (.cells (pc p2).toArray 62)).alloc (.cells (pc fun _ => 0).toArray 62) := ⟨_, rfl⟩
 have HW : Shh (Row S0 N 62 (pc p) ∧ Row S0 (N + 1) 62 (pc p2) ∧ Row S0 (N + 2) 62 (pc fun _ => 0) ∧ Below N w S0) := by
  refine ⟨by rw [hS0]; exact ((Row.new_ hN.symm rfl).alloc _).alloc _, by rw [hS0]; exact (Row.new_ (by rw [asz, hN]) rfl).alloc _, by rw [hS0]; exact Row.new_ (by rw [asz, asz, hN]) rfl, ?_⟩
  rw [hS0, ← hN]
  exact Below.chain (Below.chain (bel1 _ _) (bel1 _ _)) (bel1 _ _)
 go_enter Tryd.func63, Tryd.ntmps63
 go_wp2_with (refine wl_allocP rfl rfl ?_)
 try simp only [asz, hN]
 rw [← hS0]
 clear hS0
 try simp only [Act.put, arr9, hd9, tl9]
 refine wp_region_held_drew (S := fun _ => True) (by kernel_rfl) trivial (fun hS => ?_)
 clear hS
 obtain ⟨U, hU⟩ : ∃ V, V = World.drew S0 := ⟨_, rfl⟩
 rw [← hU]
 have q0 : Row U N 62 (pc p) := by rw [hU]; exact HW.out.1.drew
 have q1 : Row U (N + 1) 62 (pc p2) := by rw [hU]; exact HW.out.2.1.drew
 have q2 : Row U (N + 2) 62 (pc fun _ => 0) := by rw [hU]; exact HW.out.2.2.1.drew
 have bN : Below N w U := by rw [hU]; exact HW.out.2.2.2.drew
 have lN : N + 2 < U.heap.size := q2.lt
 clear HW hU
 refine share (T := ?T0) (fun hT => ?gg0) ?tt0
 case gg0 =>
  refine held_two 0 2 (by kernel_rfl) ?_ ?_
  ·refine step_value 0 _ _ (some 9) (.agg (pc p).toArray) U (by rfl) (by kernel_rfl) (run_loadRow13 (g := N) (by kernel_rfl) q0 Tryd.underlying62 rfl (info_poly.trans (size_poly p))) (trivial) ?_
   simp only [Act.put, arr9, hd9, tl9]
   refine held_two 1 2 (by kernel_rfl) ?_ ?_
   ·refine step_call 1 _ _ (some 10) 76 #[.agg (pc p).toArray] (by rfl) (by kernel_rfl) (by first | kernel_rfl | go_simp) ?_
    refine (HRD.out U).mono ?_
    rintro e Y2 ⟨rfl, b1⟩
    have bx : Below U.heap.size U Y2 := b1
    clear b1
    have b_U := bx
    have m_Y2 : U.heap.size ≤ Y2.heap.size := bx.size
    clear bx
    refine ⟨_, rfl, trivial, ?_⟩
    simp only [Act.put, arr9, hd9, tl9]
    refine held_one 2 (by kernel_rfl) ?_
    refine step_value 2 _ _ (some 11) (.agg (pc p2).toArray) Y2 (by rfl) (by kernel_rfl) (run_loadRow13 (g := (N + 1)) (by kernel_rfl) (q1.go b_U) Tryd.underlying62 rfl (info_poly.trans (size_poly p2))) (trivial) ?_
    simp only [Act.put, arr9, hd9, tl9]
    refine held_one 3 (by kernel_rfl) ?_
    refine step_call 3 _ _ (some 12) 76 #[.agg (pc p2).toArray] (by rfl) (by kernel_rfl) (by first | kernel_rfl | go_simp) ?_
    refine (HRE.out Y2).mono ?_
    rintro e Y4 ⟨rfl, b1⟩
    have bx : Below Y2.heap.size Y2 Y4 := b1
    clear b1
    replace b_U := Below.chain b_U bx
    have b_Y2 := bx
    have m_Y4 : Y2.heap.size ≤ Y4.heap.size := bx.size
    clear bx
    refine ⟨_, rfl, trivial, ?_⟩
    simp only [Act.put, arr9, hd9, tl9]
    refine held_one 4 (by kernel_rfl) ?_
    refine step_storeRow 4 62 (.tmp 3) (.tmp 10) (by rfl) (by kernel_rfl) N (by kernel_rfl) (pc r1) (by kernel_rfl) 62 _ (q0.go b_U) (info_poly.trans (size_poly r1)) (by rw [pc_length, pc_length]) (pc_one r1) ?_
    intro Y5 r6 b6 z6
    have HA : Shh (Row Y5 N 62 (pc r1) ∧ Row Y5 (N + 1) 62 (pc p2) ∧ Row Y5 (N + 2) 62 (pc fun _ => 0) ∧ Below N w Y5) := ⟨r6, b6.row (q1.go b_U) ((q1.go b_U)).lt (by omega), b6.row (q2.go b_U) ((q2.go b_U)).lt (by omega), (bN.trans (b_U.mono (by omega))).trans (b6.under (Nat.le_of_lt ((q0.go b_U)).lt) (Nat.le_refl _))⟩
    clear r6 b6 z6
    refine ⟨trivial, ?_⟩
    refine held_one 5 (by kernel_rfl) ?_
    refine step_storeRow 5 62 (.tmp 4) (.tmp 12) (by rfl) (by kernel_rfl) (N + 1) (by kernel_rfl) (pc r2) (by kernel_rfl) 62 _ HA.out.2.1 (info_poly.trans (size_poly r2)) (by rw [pc_length, pc_length]) (pc_one r2) ?_
    intro Y6 r6 b6 z6
    have HB : Shh (Row Y6 N 62 (pc r1) ∧ Row Y6 (N + 1) 62 (pc r2) ∧ Row Y6 (N + 2) 62 (pc fun _ => 0) ∧ Below N w Y6) := ⟨b6.row HA.out.1 HA.out.1.lt (by omega), r6, b6.row HA.out.2.2.1 HA.out.2.2.1.lt (by omega), HA.out.2.2.2.trans (b6.under (Nat.le_of_lt HA.out.1.lt) (by omega))⟩
    clear r6 b6 z6 HA
    refine ⟨trivial, ?_⟩
    refine wpAnyH_done (by kernel_rfl) ?_ _
    have HZ := HB
    clear HB m_Y4 b_Y2 m_Y2 b_U
    revert HZ
    revert Y6
    exact hT.out
   ·refine step_value 2 _ _ (some 11) (.agg (pc p2).toArray) U (by rfl) (by kernel_rfl) (run_loadRow13 (g := (N + 1)) (by kernel_rfl) q1 Tryd.underlying62 rfl (info_poly.trans (size_poly p2))) (trivial) ?_
    simp only [Act.put, arr9, hd9, tl9]
    refine held_one 1 (by kernel_rfl) ?_
    refine step_call 1 _ _ (some 10) 76 #[.agg (pc p).toArray] (by rfl) (by kernel_rfl) (by first | kernel_rfl | go_simp) ?_
    refine (HRD.out U).mono ?_
    rintro e Y3 ⟨rfl, b1⟩
    have bx : Below U.heap.size U Y3 := b1
    clear b1
    have b_U := bx
    have m_Y3 : U.heap.size ≤ Y3.heap.size := bx.size
    clear bx
    refine ⟨_, rfl, trivial, ?_⟩
    simp only [Act.put, arr9, hd9, tl9]
    refine held_one 3 (by kernel_rfl) ?_
    refine step_call 3 _ _ (some 12) 76 #[.agg (pc p2).toArray] (by rfl) (by kernel_rfl) (by first | kernel_rfl | go_simp) ?_
    refine (HRE.out Y3).mono ?_
    rintro e Y4 ⟨rfl, b1⟩
    have bx : Below Y3.heap.size Y3 Y4 := b1
    clear b1
    replace b_U := Below.chain b_U bx
    have b_Y3 := bx
    have m_Y4 : Y3.heap.size ≤ Y4.heap.size := bx.size
    clear bx
    refine ⟨_, rfl, trivial, ?_⟩
    simp only [Act.put, arr9, hd9, tl9]
    refine held_one 4 (by kernel_rfl) ?_
    refine step_storeRow 4 62 (.tmp 3) (.tmp 10) (by rfl) (by kernel_rfl) N (by kernel_rfl) (pc r1) (by kernel_rfl) 62 _ (q0.go b_U) (info_poly.trans (size_poly r1)) (by rw [pc_length, pc_length]) (pc_one r1) ?_
    intro Y5 r6 b6 z6
    have HA : Shh (Row Y5 N 62 (pc r1) ∧ Row Y5 (N + 1) 62 (pc p2) ∧ Row Y5 (N + 2) 62 (pc fun _ => 0) ∧ Below N w Y5) := ⟨r6, b6.row (q1.go b_U) ((q1.go b_U)).lt (by omega), b6.row (q2.go b_U) ((q2.go b_U)).lt (by omega), (bN.trans (b_U.mono (by omega))).trans (b6.under (Nat.le_of_lt ((q0.go b_U)).lt) (Nat.le_refl _))⟩
    clear r6 b6 z6
    refine ⟨trivial, ?_⟩
    refine held_one 5 (by kernel_rfl) ?_
    refine step_storeRow 5 62 (.tmp 4) (.tmp 12) (by rfl) (by kernel_rfl) (N + 1) (by kernel_rfl) (pc r2) (by kernel_rfl) 62 _ HA.out.2.1 (info_poly.trans (size_poly r2)) (by rw [pc_length, pc_length]) (pc_one r2) ?_
    intro Y6 r6 b6 z6
    have HB : Shh (Row Y6 N 62 (pc r1) ∧ Row Y6 (N + 1) 62 (pc r2) ∧ Row Y6 (N + 2) 62 (pc fun _ => 0) ∧ Below N w Y6) := ⟨b6.row HA.out.1 HA.out.1.lt (by omega), r6, b6.row HA.out.2.2.1 HA.out.2.2.1.lt (by omega), HA.out.2.2.2.trans (b6.under (Nat.le_of_lt HA.out.1.lt) (by omega))⟩
    clear r6 b6 z6 HA
    refine ⟨trivial, ?_⟩
    refine wpAnyH_done (by kernel_rfl) ?_ _
    have HZ := HB
    clear HB m_Y4 b_Y3 m_Y3 b_U
    revert HZ
    revert Y6
    exact hT.out
  ·refine step_value 2 _ _ (some 11) (.agg (pc p2).toArray) U (by rfl) (by kernel_rfl) (run_loadRow13 (g := (N + 1)) (by kernel_rfl) q1 Tryd.underlying62 rfl (info_poly.trans (size_poly p2))) (trivial) ?_
   simp only [Act.put, arr9, hd9, tl9]
   refine held_one 0 (by kernel_rfl) ?_
   refine step_value 0 _ _ (some 9) (.agg (pc p).toArray) U (by rfl) (by kernel_rfl) (run_loadRow13 (g := N) (by kernel_rfl) q0 Tryd.underlying62 rfl (info_poly.trans (size_poly p))) (trivial) ?_
   simp only [Act.put, arr9, hd9, tl9]
   refine held_one 1 (by kernel_rfl) ?_
   refine step_call 1 _ _ (some 10) 76 #[.agg (pc p).toArray] (by rfl) (by kernel_rfl) (by first | kernel_rfl | go_simp) ?_
   refine (HRD.out U).mono ?_
   rintro e Y3 ⟨rfl, b1⟩
   have bx : Below U.heap.size U Y3 := b1
   clear b1
   have b_U := bx
   have m_Y3 : U.heap.size ≤ Y3.heap.size := bx.size
   clear bx
   refine ⟨_, rfl, trivial, ?_⟩
   simp only [Act.put, arr9, hd9, tl9]
   refine held_one 3 (by kernel_rfl) ?_
   refine step_call 3 _ _ (some 12) 76 #[.agg (pc p2).toArray] (by rfl) (by kernel_rfl) (by first | kernel_rfl | go_simp) ?_
   refine (HRE.out Y3).mono ?_
   rintro e Y4 ⟨rfl, b1⟩
   have bx : Below Y3.heap.size Y3 Y4 := b1
   clear b1
   replace b_U := Below.chain b_U bx
   have b_Y3 := bx
   have m_Y4 : Y3.heap.size ≤ Y4.heap.size := bx.size
   clear bx
   refine ⟨_, rfl, trivial, ?_⟩
   simp only [Act.put, arr9, hd9, tl9]
   refine held_one 4 (by kernel_rfl) ?_
   refine step_storeRow 4 62 (.tmp 3) (.tmp 10) (by rfl) (by kernel_rfl) N (by kernel_rfl) (pc r1) (by kernel_rfl) 62 _ (q0.go b_U) (info_poly.trans (size_poly r1)) (by rw [pc_length, pc_length]) (pc_one r1) ?_
   intro Y5 r6 b6 z6
   have HA : Shh (Row Y5 N 62 (pc r1) ∧ Row Y5 (N + 1) 62 (pc p2) ∧ Row Y5 (N + 2) 62 (pc fun _ => 0) ∧ Below N w Y5) := ⟨r6, b6.row (q1.go b_U) ((q1.go b_U)).lt (by omega), b6.row (q2.go b_U) ((q2.go b_U)).lt (by omega), (bN.trans (b_U.mono (by omega))).trans (b6.under (Nat.le_of_lt ((q0.go b_U)).lt) (Nat.le_refl _))⟩
   clear r6 b6 z6
   refine ⟨trivial, ?_⟩
   refine held_one 5 (by kernel_rfl) ?_
   refine step_storeRow 5 62 (.tmp 4) (.tmp 12) (by rfl) (by kernel_rfl) (N + 1) (by kernel_rfl) (pc r2) (by kernel_rfl) 62 _ HA.out.2.1 (info_poly.trans (size_poly r2)) (by rw [pc_length, pc_length]) (pc_one r2) ?_
   intro Y6 r6 b6 z6
   have HB : Shh (Row Y6 N 62 (pc r1) ∧ Row Y6 (N + 1) 62 (pc r2) ∧ Row Y6 (N + 2) 62 (pc fun _ => 0) ∧ Below N w Y6) := ⟨b6.row HA.out.1 HA.out.1.lt (by omega), r6, b6.row HA.out.2.2.1 HA.out.2.2.1.lt (by omega), HA.out.2.2.2.trans (b6.under (Nat.le_of_lt HA.out.1.lt) (by omega))⟩
   clear r6 b6 z6 HA
   refine ⟨trivial, ?_⟩
   refine wpAnyH_done (by kernel_rfl) ?_ _
   have HZ := HB
   clear HB m_Y4 b_Y3 m_Y3 b_U
   revert HZ
   revert Y6
   exact hT.out
 case tt0 =>
  clear q0 q1 q2 bN lN HRD HRE
  intro Z HB
  go_wp2_with (refine wpList_load_any rfl 62 (.tmp 3) rfl N rfl 62 (pc r1) (.array 256 39) HB.out.1 Tryd.underlying62 rfl (info_poly.trans (size_poly r1)) ?_)
  go_loopw [14] (fun i wr => ∃ k : Nat, k ≤ 256 ∧ i = .int .i64 (k : Int) ∧ Shh (Row wr N 62 (pc (half fin r1 k)) ∧ Row wr (N + 1) 62 (pc r2) ∧ Row wr (N + 2) 62 (pc fun _ => 0) ∧ Below N w wr)) (fun i _ => 256 - (intOf i).toNat)
  case atStart => exact ⟨0, Nat.zero_le _, rfl, ⟨by rw [half_zero]; exact HB.out⟩⟩
  case round =>
   clear HB
   obtain ⟨k, hk, rfl, HI⟩ := hrel
   by_cases hkt : k < 256
   ·have HE := HF.out k
    have HN2 := Shh.mk (half_next fin r1 k)
    have HG := Shh.mk (pc_get r1 hkt)
    have c1 := HI.out.2.1.cell k
    rw [pc_get _ hkt] at c1
    generalize fin k = rk at *
    generalize r1 k = ak at *
    generalize r2 k = bk at *
    have C1 : Shh (∀ W, Calls Tryd.prog 64 #[.int .u16 (ak : Int), .int .u16 (bk : Int)] W (U16Is W rk)) := ⟨fun W => by rw [HE.1]; exact sum_any ak bk (by omega) W⟩
    have HC := Shh.mk c1
    clear HE c1
    have hlt3 : (k : Int) < 256 := by omega
    go_wp2_with (first | refine wl_at 17 rfl (.int .u16 (ak : Int)) rfl (idx_poly hkt HG.out rfl rfl rfl) ?_ | refine wl_at 22 rfl (.pointer (some ⟨N + 1, k, none⟩)) rfl (at_poly hkt rfl rfl rfl) ?_ | refine wl_at 23 rfl (.int .u16 (bk : Int)) rfl (load_u16 rfl HC.out rfl) ?_ | (go_at_call 64; refine (C1.out _).mono ?_))
    rintro e w2 ⟨rfl, rfl⟩
    go_wp2_with (first | refine wl_at 25 rfl (.pointer (some ⟨N, k, none⟩)) rfl (at_poly hkt rfl rfl rfl) ?_ | refine wl_storeP rfl hkt rfl rfl rfl HI.out.1 ?_)
    intro w3 r3 b3 z3
    rw [HN2.out] at r3
    have HI3 : Shh (Row w3 N 62 (pc (half fin r1 (k + 1))) ∧ Row w3 (N + 1) 62 (pc r2) ∧ Row w3 (N + 2) 62 (pc fun _ => 0) ∧ Below N w w3) := ⟨r3, b3.row HI.out.2.1 HI.out.2.1.lt (by omega), b3.row HI.out.2.2.1 HI.out.2.2.1.lt (by omega), HI.out.2.2.2.trans (b3.under (Nat.le_of_lt HI.out.1.lt) (by omega))⟩
    clear r3 b3 z3 HI
    go_wp2
    go_roundw
    case rel => exact ⟨k + 1, by omega, by go_num, HI3⟩
    case measure => simp [intOf]; omega
   ·have HL : Shh (pc (half fin r1 k) = pc fin) := ⟨by rw [show k = 256 by omega]; exact half_all _ _⟩
    rw [HL.out] at HI
    have hlt3 : ¬ (k : Int) < 256 := by omega
    clear HL HF
    go_wp2_with (first
     | refine wpList_load_any rfl 62 (.tmp 3) rfl N rfl 62 (pc fin) (.array 256 39) HI.out.1 Tryd.underlying62 rfl (info_poly.trans (size_poly fin)) ?_
     | refine wpList_store_any rfl 62 (.tmp 6) (.tmp 27) rfl (N + 2) rfl (pc fin) rfl 62 _ HI.out.2.2.1 (info_poly.trans (size_poly fin)) (by rw [pc_length, pc_length]) (pc_one fin) ?_)
    intro w9 hr9 b9 _
    have hb9 := HI.out.2.2.2.trans (b9.under (Nat.le_of_lt HI.out.1.lt) (by omega))
    go_wp2
    exact ret_row Tryd.results63 rfl rfl hr9 Tryd.underlying62 rfl (info_poly.trans (size_poly fin)) ⟨rfl, hb9⟩
set_option maxHeartbeats 2000000 in
theorem combined_diff (p p2 : Nat → Nat) (hp : ∀ i, i < 256 → p i < 65536) (hp2 : ∀ i, i < 256 → p2 i < 65536) (w : World) : Calls Tryd.prog 63 #[polyV p, polyV p2, .func (.func 79) #[] #[]] w (PolyIs w (subN p p2)) := by
 unfold PolyIs polyV
 generalize hN : w.heap.size = N at *
 have HRD : Shh (∀ W, Calls Tryd.prog 76 #[.agg (pc p).toArray] W (PolyIs W (redN p))) := ⟨fun W => Reduce_any p hp W⟩
 have HRE : Shh (∀ W, Calls Tryd.prog 76 #[.agg (pc p2).toArray] W (PolyIs W (redN p2))) := ⟨fun W => Reduce_any p2 hp2 W⟩
 have HF : Shh (∀ i, subN p p2 i = (redN p i + 3329 - redN p2 i) % 3329 ∧ redN p i < 3329 ∧ redN p2 i < 3329) := ⟨fun i => ⟨subR p p2 i, rd_lt _, rd_lt _⟩⟩
 generalize subN p p2 = fin at *
 generalize redN p = r1 at *
 generalize redN p2 = r2 at *
 clear hp hp2
 obtain ⟨S0, hS0⟩ : ∃ S0, S0 = ((w.alloc (.cells (pc p).toArray 62)).alloc (.cells (pc p2).toArray 62)).alloc (.cells (pc fun _ => 0).toArray 62) := ⟨_, rfl⟩
 have HW : Shh (Row S0 N 62 (pc p) ∧ Row S0 (N + 1) 62 (pc p2) ∧ Row S0 (N + 2) 62 (pc fun _ => 0) ∧ Below N w S0) := by
  refine ⟨by rw [hS0]; exact ((Row.new_ hN.symm rfl).alloc _).alloc _, by rw [hS0]; exact (Row.new_ (by rw [asz, hN]) rfl).alloc _, by rw [hS0]; exact Row.new_ (by rw [asz, asz, hN]) rfl, ?_⟩
  rw [hS0, ← hN]
  exact Below.chain (Below.chain (bel1 _ _) (bel1 _ _)) (bel1 _ _)
 go_enter Tryd.func63, Tryd.ntmps63
 go_wp2_with (refine wl_allocP rfl rfl ?_)
 try simp only [asz, hN]
 rw [← hS0]
 clear hS0
 try simp only [Act.put, arr9, hd9, tl9]
 refine wp_region_held_drew (S := fun _ => True) (by kernel_rfl) trivial (fun hS => ?_)
 clear hS
 obtain ⟨U, hU⟩ : ∃ V, V = World.drew S0 := ⟨_, rfl⟩
 rw [← hU]
 have q0 : Row U N 62 (pc p) := by rw [hU]; exact HW.out.1.drew
 have q1 : Row U (N + 1) 62 (pc p2) := by rw [hU]; exact HW.out.2.1.drew
 have q2 : Row U (N + 2) 62 (pc fun _ => 0) := by rw [hU]; exact HW.out.2.2.1.drew
 have bN : Below N w U := by rw [hU]; exact HW.out.2.2.2.drew
 have lN : N + 2 < U.heap.size := q2.lt
 clear HW hU
 refine share (T := ?T0) (fun hT => ?gg0) ?tt0
 case gg0 =>
  refine held_two 0 2 (by kernel_rfl) ?_ ?_
  ·refine step_value 0 _ _ (some 9) (.agg (pc p).toArray) U (by rfl) (by kernel_rfl) (run_loadRow13 (g := N) (by kernel_rfl) q0 Tryd.underlying62 rfl (info_poly.trans (size_poly p))) (trivial) ?_
   simp only [Act.put, arr9, hd9, tl9]
   refine held_two 1 2 (by kernel_rfl) ?_ ?_
   ·refine step_call 1 _ _ (some 10) 76 #[.agg (pc p).toArray] (by rfl) (by kernel_rfl) (by first | kernel_rfl | go_simp) ?_
    refine (HRD.out U).mono ?_
    rintro e Y2 ⟨rfl, b1⟩
    have bx : Below U.heap.size U Y2 := b1
    clear b1
    have b_U := bx
    have m_Y2 : U.heap.size ≤ Y2.heap.size := bx.size
    clear bx
    refine ⟨_, rfl, trivial, ?_⟩
    simp only [Act.put, arr9, hd9, tl9]
    refine held_one 2 (by kernel_rfl) ?_
    refine step_value 2 _ _ (some 11) (.agg (pc p2).toArray) Y2 (by rfl) (by kernel_rfl) (run_loadRow13 (g := (N + 1)) (by kernel_rfl) (q1.go b_U) Tryd.underlying62 rfl (info_poly.trans (size_poly p2))) (trivial) ?_
    simp only [Act.put, arr9, hd9, tl9]
    refine held_one 3 (by kernel_rfl) ?_
    refine step_call 3 _ _ (some 12) 76 #[.agg (pc p2).toArray] (by rfl) (by kernel_rfl) (by first | kernel_rfl | go_simp) ?_
    refine (HRE.out Y2).mono ?_
    rintro e Y4 ⟨rfl, b1⟩
    have bx : Below Y2.heap.size Y2 Y4 := b1
    clear b1
    replace b_U := Below.chain b_U bx
    have b_Y2 := bx
    have m_Y4 : Y2.heap.size ≤ Y4.heap.size := bx.size
    clear bx
    refine ⟨_, rfl, trivial, ?_⟩
    simp only [Act.put, arr9, hd9, tl9]
    refine held_one 4 (by kernel_rfl) ?_
    refine step_storeRow 4 62 (.tmp 3) (.tmp 10) (by rfl) (by kernel_rfl) N (by kernel_rfl) (pc r1) (by kernel_rfl) 62 _ (q0.go b_U) (info_poly.trans (size_poly r1)) (by rw [pc_length, pc_length]) (pc_one r1) ?_
    intro Y5 r6 b6 z6
    have HA : Shh (Row Y5 N 62 (pc r1) ∧ Row Y5 (N + 1) 62 (pc p2) ∧ Row Y5 (N + 2) 62 (pc fun _ => 0) ∧ Below N w Y5) := ⟨r6, b6.row (q1.go b_U) ((q1.go b_U)).lt (by omega), b6.row (q2.go b_U) ((q2.go b_U)).lt (by omega), (bN.trans (b_U.mono (by omega))).trans (b6.under (Nat.le_of_lt ((q0.go b_U)).lt) (Nat.le_refl _))⟩
    clear r6 b6 z6
    refine ⟨trivial, ?_⟩
    refine held_one 5 (by kernel_rfl) ?_
    refine step_storeRow 5 62 (.tmp 4) (.tmp 12) (by rfl) (by kernel_rfl) (N + 1) (by kernel_rfl) (pc r2) (by kernel_rfl) 62 _ HA.out.2.1 (info_poly.trans (size_poly r2)) (by rw [pc_length, pc_length]) (pc_one r2) ?_
    intro Y6 r6 b6 z6
    have HB : Shh (Row Y6 N 62 (pc r1) ∧ Row Y6 (N + 1) 62 (pc r2) ∧ Row Y6 (N + 2) 62 (pc fun _ => 0) ∧ Below N w Y6) := ⟨b6.row HA.out.1 HA.out.1.lt (by omega), r6, b6.row HA.out.2.2.1 HA.out.2.2.1.lt (by omega), HA.out.2.2.2.trans (b6.under (Nat.le_of_lt HA.out.1.lt) (by omega))⟩
    clear r6 b6 z6 HA
    refine ⟨trivial, ?_⟩
    refine wpAnyH_done (by kernel_rfl) ?_ _
    have HZ := HB
    clear HB m_Y4 b_Y2 m_Y2 b_U
    revert HZ
    revert Y6
    exact hT.out
   ·refine step_value 2 _ _ (some 11) (.agg (pc p2).toArray) U (by rfl) (by kernel_rfl) (run_loadRow13 (g := (N + 1)) (by kernel_rfl) q1 Tryd.underlying62 rfl (info_poly.trans (size_poly p2))) (trivial) ?_
    simp only [Act.put, arr9, hd9, tl9]
    refine held_one 1 (by kernel_rfl) ?_
    refine step_call 1 _ _ (some 10) 76 #[.agg (pc p).toArray] (by rfl) (by kernel_rfl) (by first | kernel_rfl | go_simp) ?_
    refine (HRD.out U).mono ?_
    rintro e Y3 ⟨rfl, b1⟩
    have bx : Below U.heap.size U Y3 := b1
    clear b1
    have b_U := bx
    have m_Y3 : U.heap.size ≤ Y3.heap.size := bx.size
    clear bx
    refine ⟨_, rfl, trivial, ?_⟩
    simp only [Act.put, arr9, hd9, tl9]
    refine held_one 3 (by kernel_rfl) ?_
    refine step_call 3 _ _ (some 12) 76 #[.agg (pc p2).toArray] (by rfl) (by kernel_rfl) (by first | kernel_rfl | go_simp) ?_
    refine (HRE.out Y3).mono ?_
    rintro e Y4 ⟨rfl, b1⟩
    have bx : Below Y3.heap.size Y3 Y4 := b1
    clear b1
    replace b_U := Below.chain b_U bx
    have b_Y3 := bx
    have m_Y4 : Y3.heap.size ≤ Y4.heap.size := bx.size
    clear bx
    refine ⟨_, rfl, trivial, ?_⟩
    simp only [Act.put, arr9, hd9, tl9]
    refine held_one 4 (by kernel_rfl) ?_
    refine step_storeRow 4 62 (.tmp 3) (.tmp 10) (by rfl) (by kernel_rfl) N (by kernel_rfl) (pc r1) (by kernel_rfl) 62 _ (q0.go b_U) (info_poly.trans (size_poly r1)) (by rw [pc_length, pc_length]) (pc_one r1) ?_
    intro Y5 r6 b6 z6
    have HA : Shh (Row Y5 N 62 (pc r1) ∧ Row Y5 (N + 1) 62 (pc p2) ∧ Row Y5 (N + 2) 62 (pc fun _ => 0) ∧ Below N w Y5) := ⟨r6, b6.row (q1.go b_U) ((q1.go b_U)).lt (by omega), b6.row (q2.go b_U) ((q2.go b_U)).lt (by omega), (bN.trans (b_U.mono (by omega))).trans (b6.under (Nat.le_of_lt ((q0.go b_U)).lt) (Nat.le_refl _))⟩
    clear r6 b6 z6
    refine ⟨trivial, ?_⟩
    refine held_one 5 (by kernel_rfl) ?_
    refine step_storeRow 5 62 (.tmp 4) (.tmp 12) (by rfl) (by kernel_rfl) (N + 1) (by kernel_rfl) (pc r2) (by kernel_rfl) 62 _ HA.out.2.1 (info_poly.trans (size_poly r2)) (by rw [pc_length, pc_length]) (pc_one r2) ?_
    intro Y6 r6 b6 z6
    have HB : Shh (Row Y6 N 62 (pc r1) ∧ Row Y6 (N + 1) 62 (pc r2) ∧ Row Y6 (N + 2) 62 (pc fun _ => 0) ∧ Below N w Y6) := ⟨b6.row HA.out.1 HA.out.1.lt (by omega), r6, b6.row HA.out.2.2.1 HA.out.2.2.1.lt (by omega), HA.out.2.2.2.trans (b6.under (Nat.le_of_lt HA.out.1.lt) (by omega))⟩
    clear r6 b6 z6 HA
    refine ⟨trivial, ?_⟩
    refine wpAnyH_done (by kernel_rfl) ?_ _
    have HZ := HB
    clear HB m_Y4 b_Y3 m_Y3 b_U
    revert HZ
    revert Y6
    exact hT.out
  ·refine step_value 2 _ _ (some 11) (.agg (pc p2).toArray) U (by rfl) (by kernel_rfl) (run_loadRow13 (g := (N + 1)) (by kernel_rfl) q1 Tryd.underlying62 rfl (info_poly.trans (size_poly p2))) (trivial) ?_
   simp only [Act.put, arr9, hd9, tl9]
   refine held_one 0 (by kernel_rfl) ?_
   refine step_value 0 _ _ (some 9) (.agg (pc p).toArray) U (by rfl) (by kernel_rfl) (run_loadRow13 (g := N) (by kernel_rfl) q0 Tryd.underlying62 rfl (info_poly.trans (size_poly p))) (trivial) ?_
   simp only [Act.put, arr9, hd9, tl9]
   refine held_one 1 (by kernel_rfl) ?_
   refine step_call 1 _ _ (some 10) 76 #[.agg (pc p).toArray] (by rfl) (by kernel_rfl) (by first | kernel_rfl | go_simp) ?_
   refine (HRD.out U).mono ?_
   rintro e Y3 ⟨rfl, b1⟩
   have bx : Below U.heap.size U Y3 := b1
   clear b1
   have b_U := bx
   have m_Y3 : U.heap.size ≤ Y3.heap.size := bx.size
   clear bx
   refine ⟨_, rfl, trivial, ?_⟩
   simp only [Act.put, arr9, hd9, tl9]
   refine held_one 3 (by kernel_rfl) ?_
   refine step_call 3 _ _ (some 12) 76 #[.agg (pc p2).toArray] (by rfl) (by kernel_rfl) (by first | kernel_rfl | go_simp) ?_
   refine (HRE.out Y3).mono ?_
   rintro e Y4 ⟨rfl, b1⟩
   have bx : Below Y3.heap.size Y3 Y4 := b1
   clear b1
   replace b_U := Below.chain b_U bx
   have b_Y3 := bx
   have m_Y4 : Y3.heap.size ≤ Y4.heap.size := bx.size
   clear bx
   refine ⟨_, rfl, trivial, ?_⟩
   simp only [Act.put, arr9, hd9, tl9]
   refine held_one 4 (by kernel_rfl) ?_
   refine step_storeRow 4 62 (.tmp 3) (.tmp 10) (by rfl) (by kernel_rfl) N (by kernel_rfl) (pc r1) (by kernel_rfl) 62 _ (q0.go b_U) (info_poly.trans (size_poly r1)) (by rw [pc_length, pc_length]) (pc_one r1) ?_
   intro Y5 r6 b6 z6
   have HA : Shh (Row Y5 N 62 (pc r1) ∧ Row Y5 (N + 1) 62 (pc p2) ∧ Row Y5 (N + 2) 62 (pc fun _ => 0) ∧ Below N w Y5) := ⟨r6, b6.row (q1.go b_U) ((q1.go b_U)).lt (by omega), b6.row (q2.go b_U) ((q2.go b_U)).lt (by omega), (bN.trans (b_U.mono (by omega))).trans (b6.under (Nat.le_of_lt ((q0.go b_U)).lt) (Nat.le_refl _))⟩
   clear r6 b6 z6
   refine ⟨trivial, ?_⟩
   refine held_one 5 (by kernel_rfl) ?_
   refine step_storeRow 5 62 (.tmp 4) (.tmp 12) (by rfl) (by kernel_rfl) (N + 1) (by kernel_rfl) (pc r2) (by kernel_rfl) 62 _ HA.out.2.1 (info_poly.trans (size_poly r2)) (by rw [pc_length, pc_length]) (pc_one r2) ?_
   intro Y6 r6 b6 z6
   have HB : Shh (Row Y6 N 62 (pc r1) ∧ Row Y6 (N + 1) 62 (pc r2) ∧ Row Y6 (N + 2) 62 (pc fun _ => 0) ∧ Below N w Y6) := ⟨b6.row HA.out.1 HA.out.1.lt (by omega), r6, b6.row HA.out.2.2.1 HA.out.2.2.1.lt (by omega), HA.out.2.2.2.trans (b6.under (Nat.le_of_lt HA.out.1.lt) (by omega))⟩
   clear r6 b6 z6 HA
   refine ⟨trivial, ?_⟩
   refine wpAnyH_done (by kernel_rfl) ?_ _
   have HZ := HB
   clear HB m_Y4 b_Y3 m_Y3 b_U
   revert HZ
   revert Y6
   exact hT.out
 case tt0 =>
  clear q0 q1 q2 bN lN HRD HRE
  intro Z HB
  go_wp2_with (refine wpList_load_any rfl 62 (.tmp 3) rfl N rfl 62 (pc r1) (.array 256 39) HB.out.1 Tryd.underlying62 rfl (info_poly.trans (size_poly r1)) ?_)
  go_loopw [14] (fun i wr => ∃ k : Nat, k ≤ 256 ∧ i = .int .i64 (k : Int) ∧ Shh (Row wr N 62 (pc (half fin r1 k)) ∧ Row wr (N + 1) 62 (pc r2) ∧ Row wr (N + 2) 62 (pc fun _ => 0) ∧ Below N w wr)) (fun i _ => 256 - (intOf i).toNat)
  case atStart => exact ⟨0, Nat.zero_le _, rfl, ⟨by rw [half_zero]; exact HB.out⟩⟩
  case round =>
   clear HB
   obtain ⟨k, hk, rfl, HI⟩ := hrel
   by_cases hkt : k < 256
   ·have HE := HF.out k
    have HN2 := Shh.mk (half_next fin r1 k)
    have HG := Shh.mk (pc_get r1 hkt)
    have c1 := HI.out.2.1.cell k
    rw [pc_get _ hkt] at c1
    generalize fin k = rk at *
    generalize r1 k = ak at *
    generalize r2 k = bk at *
    have C1 : Shh (∀ W, Calls Tryd.prog 79 #[.int .u16 (ak : Int), .int .u16 (bk : Int)] W (U16Is W rk)) := ⟨fun W => by rw [HE.1]; exact difference_any ak bk ⟨by omega, by omega⟩ W⟩
    have HC := Shh.mk c1
    clear HE c1
    have hlt3 : (k : Int) < 256 := by omega
    go_wp2_with (first | refine wl_at 17 rfl (.int .u16 (ak : Int)) rfl (idx_poly hkt HG.out rfl rfl rfl) ?_ | refine wl_at 22 rfl (.pointer (some ⟨N + 1, k, none⟩)) rfl (at_poly hkt rfl rfl rfl) ?_ | refine wl_at 23 rfl (.int .u16 (bk : Int)) rfl (load_u16 rfl HC.out rfl) ?_ | (go_at_call 79; refine (C1.out _).mono ?_))
    rintro e w2 ⟨rfl, rfl⟩
    go_wp2_with (first | refine wl_at 25 rfl (.pointer (some ⟨N, k, none⟩)) rfl (at_poly hkt rfl rfl rfl) ?_ | refine wl_storeP rfl hkt rfl rfl rfl HI.out.1 ?_)
    intro w3 r3 b3 z3
    rw [HN2.out] at r3
    have HI3 : Shh (Row w3 N 62 (pc (half fin r1 (k + 1))) ∧ Row w3 (N + 1) 62 (pc r2) ∧ Row w3 (N + 2) 62 (pc fun _ => 0) ∧ Below N w w3) := ⟨r3, b3.row HI.out.2.1 HI.out.2.1.lt (by omega), b3.row HI.out.2.2.1 HI.out.2.2.1.lt (by omega), HI.out.2.2.2.trans (b3.under (Nat.le_of_lt HI.out.1.lt) (by omega))⟩
    clear r3 b3 z3 HI
    go_wp2
    go_roundw
    case rel => exact ⟨k + 1, by omega, by go_num, HI3⟩
    case measure => simp [intOf]; omega
   ·have HL : Shh (pc (half fin r1 k) = pc fin) := ⟨by rw [show k = 256 by omega]; exact half_all _ _⟩
    rw [HL.out] at HI
    have hlt3 : ¬ (k : Int) < 256 := by omega
    clear HL HF
    go_wp2_with (first
     | refine wpList_load_any rfl 62 (.tmp 3) rfl N rfl 62 (pc fin) (.array 256 39) HI.out.1 Tryd.underlying62 rfl (info_poly.trans (size_poly fin)) ?_
     | refine wpList_store_any rfl 62 (.tmp 6) (.tmp 27) rfl (N + 2) rfl (pc fin) rfl 62 _ HI.out.2.2.1 (info_poly.trans (size_poly fin)) (by rw [pc_length, pc_length]) (pc_one fin) ?_)
    intro w9 hr9 b9 _
    have hb9 := HI.out.2.2.2.trans (b9.under (Nat.le_of_lt HI.out.1.lt) (by omega))
    go_wp2
    exact ret_row Tryd.results63 rfl rfl hr9 Tryd.underlying62 rfl (info_poly.trans (size_poly fin)) ⟨rfl, hb9⟩
set_option maxHeartbeats 1000000 in
theorem Add_any (p p2 : Nat → Nat) (hp : ∀ i, i < 256 → p i < 65536) (hp2 : ∀ i, i < 256 → p2 i < 65536) (w : World) : Calls Tryd.prog 42 #[polyV p, polyV p2] w (PolyIs w (addN p p2)) := by
 unfold PolyIs polyV
 generalize hN : w.heap.size = N at *
 have HC : Shh (∀ W, Calls Tryd.prog 63 #[.agg (pc p).toArray, .agg (pc p2).toArray, .func (.func 64) #[] #[]] W (PolyIs W (addN p p2))) := ⟨fun W => combined_sum p p2 hp hp2 W⟩
 generalize addN p p2 = fin at *
 clear hp hp2
 obtain ⟨S0, hS0⟩ : ∃ S0, S0 = ((w.alloc (.cells (pc p).toArray 62)).alloc (.cells (pc p2).toArray 62)).alloc (.cells (pc fun _ => 0).toArray 62) := ⟨_, rfl⟩
 have HW : Shh (Row S0 N 62 (pc p) ∧ Row S0 (N + 1) 62 (pc p2) ∧ Row S0 (N + 2) 62 (pc fun _ => 0) ∧ Below N w S0) := by
  refine ⟨by rw [hS0]; exact ((Row.new_ hN.symm rfl).alloc _).alloc _, by rw [hS0]; exact (Row.new_ (by rw [asz, hN]) rfl).alloc _, by rw [hS0]; exact Row.new_ (by rw [asz, asz, hN]) rfl, ?_⟩
  rw [hS0, ← hN]
  exact Below.chain (Below.chain (bel1 _ _) (bel1 _ _)) (bel1 _ _)
 rw [hS0] at HW
 clear hS0
 go_enter Tryd.func42, Tryd.ntmps42
 go_wp2_with (first | refine wl_allocP rfl rfl ?_ | refine wpList_load_any rfl 62 (.tmp 2) rfl N rfl 62 (pc p) (.array 256 39) HW.out.1 Tryd.underlying62 rfl (info_poly.trans (size_poly p)) ?_ | refine wpList_load_any rfl 62 (.tmp 3) rfl (N + 1) rfl 62 (pc p2) (.array 256 39) HW.out.2.1 Tryd.underlying62 rfl (info_poly.trans (size_poly p2)) ?_ | (go_at_call 63; refine (HC.out _).mono ?_))
 rintro e w2 ⟨rfl, b2⟩
 have HI : Shh (Row w2 N 62 (pc p) ∧ Row w2 (N + 1) 62 (pc p2) ∧ Row w2 (N + 2) 62 (pc fun _ => 0) ∧ Below N w w2) := ⟨HW.out.1.go b2, HW.out.2.1.go b2, HW.out.2.2.1.go b2, HW.out.2.2.2.trans (b2.mono (Nat.le_of_lt HW.out.1.lt))⟩
 clear b2 HW HC S0
 go_wp2_with (refine wpList_store_any rfl 62 (.tmp 4) (.tmp 7) rfl (N + 2) rfl (pc fin) rfl 62 _ HI.out.2.2.1 (info_poly.trans (size_poly fin)) (by rw [pc_length, pc_length]) (pc_one fin) ?_)
 intro w9 hr9 b9 _
 have hb9 := HI.out.2.2.2.trans (b9.under (Nat.le_of_lt HI.out.1.lt) (by omega))
 go_wp2
 exact ret_row Tryd.results42 rfl rfl hr9 Tryd.underlying62 rfl (info_poly.trans (size_poly fin)) ⟨rfl, hb9⟩
set_option maxHeartbeats 1000000 in
theorem Sub_any (p p2 : Nat → Nat) (hp : ∀ i, i < 256 → p i < 65536) (hp2 : ∀ i, i < 256 → p2 i < 65536) (w : World) : Calls Tryd.prog 56 #[polyV p, polyV p2] w (PolyIs w (subN p p2)) := by
 unfold PolyIs polyV
 generalize hN : w.heap.size = N at *
 have HC : Shh (∀ W, Calls Tryd.prog 63 #[.agg (pc p).toArray, .agg (pc p2).toArray, .func (.func 79) #[] #[]] W (PolyIs W (subN p p2))) := ⟨fun W => combined_diff p p2 hp hp2 W⟩
 generalize subN p p2 = fin at *
 clear hp hp2
 obtain ⟨S0, hS0⟩ : ∃ S0, S0 = ((w.alloc (.cells (pc p).toArray 62)).alloc (.cells (pc p2).toArray 62)).alloc (.cells (pc fun _ => 0).toArray 62) := ⟨_, rfl⟩
 have HW : Shh (Row S0 N 62 (pc p) ∧ Row S0 (N + 1) 62 (pc p2) ∧ Row S0 (N + 2) 62 (pc fun _ => 0) ∧ Below N w S0) := by
  refine ⟨by rw [hS0]; exact ((Row.new_ hN.symm rfl).alloc _).alloc _, by rw [hS0]; exact (Row.new_ (by rw [asz, hN]) rfl).alloc _, by rw [hS0]; exact Row.new_ (by rw [asz, asz, hN]) rfl, ?_⟩
  rw [hS0, ← hN]
  exact Below.chain (Below.chain (bel1 _ _) (bel1 _ _)) (bel1 _ _)
 rw [hS0] at HW
 clear hS0
 go_enter Tryd.func56, Tryd.ntmps56
 go_wp2_with (first | refine wl_allocP rfl rfl ?_ | refine wpList_load_any rfl 62 (.tmp 2) rfl N rfl 62 (pc p) (.array 256 39) HW.out.1 Tryd.underlying62 rfl (info_poly.trans (size_poly p)) ?_ | refine wpList_load_any rfl 62 (.tmp 3) rfl (N + 1) rfl 62 (pc p2) (.array 256 39) HW.out.2.1 Tryd.underlying62 rfl (info_poly.trans (size_poly p2)) ?_ | (go_at_call 63; refine (HC.out _).mono ?_))
 rintro e w2 ⟨rfl, b2⟩
 have HI : Shh (Row w2 N 62 (pc p) ∧ Row w2 (N + 1) 62 (pc p2) ∧ Row w2 (N + 2) 62 (pc fun _ => 0) ∧ Below N w w2) := ⟨HW.out.1.go b2, HW.out.2.1.go b2, HW.out.2.2.1.go b2, HW.out.2.2.2.trans (b2.mono (Nat.le_of_lt HW.out.1.lt))⟩
 clear b2 HW HC S0
 go_wp2_with (refine wpList_store_any rfl 62 (.tmp 4) (.tmp 7) rfl (N + 2) rfl (pc fin) rfl 62 _ HI.out.2.2.1 (info_poly.trans (size_poly fin)) (by rw [pc_length, pc_length]) (pc_one fin) ?_)
 intro w9 hr9 b9 _
 have hb9 := HI.out.2.2.2.trans (b9.under (Nat.le_of_lt HI.out.1.lt) (by omega))
 go_wp2
 exact ret_row Tryd.results56 rfl rfl hr9 Tryd.underlying62 rfl (info_poly.trans (size_poly fin)) ⟨rfl, hb9⟩
end Go.Proofs.YtbjpbeplpljieaaDoor

/-
 THE PROGRAM'S OWN Compress, Decompress.
-/
namespace Go.Proofs.YtbjpbeplpljieaaDoor
open Go.RowKit
set_option maxRecDepth 100000
section
variable {ops : Array Oper} {rest : List Oper} {o : Oper} {a : Act} {w : World} {Q : Exit → Act → World → Prop} {x y : Operand} {op : Oper}
theorem build_poly (ho : op.op = .build 62 #[]) : (execOp a.eval op).run Tryd.prog w = .ok (.value (.agg (pc fun _ => 0).toArray)) w := by
 have h : (execOp a.eval ⟨none, .build 62 #[], 0, "", #[], none⟩).run Tryd.prog w = .ok (.value (.agg (pc fun _ => 0).toArray)) w := by kernel_rfl
 rw [← h]
 unfold execOp
 simp only [ho]
end
theorem cmp_eq (d x : Nat) : cmpN d x = (x * 2 ^ d + 1664) / 3329 % 2 ^ d := by
 unfold cmpN
 rw [Nat.mul_assoc]
 generalize x * 2 ^ d = X
 rw [show (2 * X + 3329) / (2 * 3329) = (X + 1664) / 3329 by omega]
theorem dcm_eq (d y : Nat) (hd : 1 ≤ d) : dcmN d y = (3329 * y + 2 ^ (d - 1)) / 2 ^ d := by
 obtain ⟨e, rfl⟩ : ∃ e, d = e + 1 := ⟨d - 1, by omega⟩
 unfold dcmN
 rw [show e + 1 - 1 = e by omega, Nat.pow_succ]
 rw [show 2 * y * 3329 + 2 ^ e * 2 = 2 * (3329 * y + 2 ^ e) by omega, Nat.mul_div_mul_left _ _ (by decide)]
set_option maxHeartbeats 2000000 in
theorem Compress_any (d : Nat) (hd : 1 ≤ d ∧ d ≤ 11) (p : Nat → Nat) (hp : ∀ i, i < 256 → p i < 65536) (w : World) : Calls Tryd.prog 81 #[.int .i64 (d : Int), polyV p] w (CodeIs w (cmpP d p) 0) := by
 unfold CodeIs polyV
 generalize hN : w.heap.size = N at *
 have i1 : ¬ (d : Int) < 1 := by omega
 have i2 : ¬ (12 : Int) ≤ (d : Int) := by omega
 have hd16 : d ≤ 16 := by omega
 have HRD : Shh (∀ W, Calls Tryd.prog 76 #[.agg (pc p).toArray] W (PolyIs W (redN p))) := ⟨fun W => Reduce_any p hp W⟩
 obtain ⟨P, hPP⟩ : ∃ P, Shh (P = 2 ^ d) := ⟨_, ⟨rfl⟩⟩
 have HPB : Shh (0 < P ∧ P ≤ 2048) := ⟨by rw [hPP.out]; exact Nat.two_pow_pos d, by rw [hPP.out]; exact Nat.le_trans (Nat.pow_le_pow_right (by decide) hd.2) (by decide)⟩
 have HLO : Shh (∀ n : Nat, n < 65536 → ∀ W, Calls Tryd.prog 90 #[.int .i64 (d : Int), .int .u16 (n : Int)] W (U16Is W (n % P))) := ⟨fun n hn W => by rw [hPP.out]; exact low_any d n hd16 hn W⟩
 have HR : Shh (∀ i, cmpP d p i = (redN p i * P + 1664) / 3329 % P ∧ redN p i < 3329) := ⟨fun i => ⟨by unfold cmpP; rw [cmp_eq, hPP.out, show redN p i = p i % 3329 from rd_same _], rd_lt _⟩⟩
 have HD := Shh.mk hd
 generalize cmpP d p = r at *
 generalize redN p = q at *
 clear hp hd hd16
 have HL0 : Shh (Row ((w.alloc (.cells (pc p).toArray 62)).alloc (.cells (pc fun _ => 0).toArray 62)) N 62 (pc p) ∧ Row ((w.alloc (.cells (pc p).toArray 62)).alloc (.cells (pc fun _ => 0).toArray 62)) (N + 1) 62 (pc fun _ => 0) ∧ Below N w ((w.alloc (.cells (pc p).toArray 62)).alloc (.cells (pc fun _ => 0).toArray 62))) := by
  refine ⟨(Row.new_ hN.symm rfl).alloc _, Row.new_ (by rw [asz, hN]) rfl, ?_⟩
  rw [← hN]
  exact Below.chain (bel1 _ _) (bel1 _ _)
 go_enter Tryd.func81, Tryd.ntmps81
 go_wp2_with (first | refine wl_allocP rfl rfl ?_ | refine wpList_load_any rfl 62 (.tmp 3) rfl N rfl 62 (pc p) (.array 256 39) HL0.out.1 Tryd.underlying62 rfl (info_poly.trans (size_poly p)) ?_ | (go_at_call 76; refine (HRD.out _).mono ?_))
 rintro e w2 ⟨rfl, b2⟩
 have HW : Shh (Row w2 N 62 (pc p) ∧ Row w2 (N + 1) 62 (pc fun _ => 0) ∧ Below N w w2) := ⟨HL0.out.1.go b2, HL0.out.2.1.go b2, HL0.out.2.2.trans (b2.mono (by have := HL0.out.1.lt; omega))⟩
 clear b2 HL0 HRD
 go_wp2
 go_loopw [17] (fun i wr => ∃ k : Nat, k ≤ 256 ∧ i = .int .i64 (k : Int) ∧ Shh (Row wr N 62 (pc (half r p k)) ∧ Row wr (N + 1) 62 (pc fun _ => 0) ∧ Below N w wr)) (fun i _ => 256 - (intOf i).toNat)
 case atStart => exact ⟨0, Nat.zero_le _, rfl, ⟨by rw [half_zero]; exact HW.out⟩⟩
 case round =>
  clear HW
  obtain ⟨k, hk, rfl, HI⟩ := hrel
  by_cases hlt : k < 256
  ·have hlt2 : (k : Int) < 256 := by omega
   have HX := HR.out k
   have HN2 := Shh.mk (half_next r p k)
   have HG := Shh.mk (pc_get q hlt)
   generalize r k = rk at *
   generalize q k = qk at *
   obtain ⟨X, hX⟩ : ∃ v, Shh (v = qk * P) := ⟨_, ⟨rfl⟩⟩
   have hXl : X ≤ 3329 * 2048 := by rw [hX.out]; exact Nat.mul_le_mul (by omega) HPB.out.2
   rw [← hX.out] at HX
   obtain ⟨Y, hY⟩ : ∃ v, Shh (v = X + 1664 ∧ v < 4294967296) := ⟨_, ⟨rfl, by omega⟩⟩
   rw [← hY.out.1] at HX
   obtain ⟨Z, hZ⟩ : ∃ v, Shh (v = Y / 3329) := ⟨_, ⟨rfl⟩⟩
   rw [← hZ.out] at HX
   have hZl : Z < 65536 := by have := hZ.out; have := hY.out; omega
   have HV : Shh (X = qk * 2 ^ d ∧ d ≤ 31 ∧ X < 4294967296 ∧ qk < 65536 ∧ Z = Z % 65536) := ⟨by rw [← hPP.out]; exact hX.out, by have := HD.out; omega, by omega, by omega, by omega⟩
   have C1 : Shh (∀ W, Calls Tryd.prog 90 #[.int .i64 (d : Int), .int .u16 (Z : Int)] W (U16Is W rk)) := ⟨fun W => by rw [HX.1]; exact HLO.out Z hZl W⟩
   clear HX hXl hZl
   go_wp2_with (first | refine wl_at 20 rfl (.int .u16 (qk : Int)) rfl (idx_poly hlt HG.out rfl rfl rfl) ?_ | refine wl_at 24 rfl (.int .u32 (qk : Int)) rfl (conv_u32 HV.out.2.2.2.1 rfl rfl) ?_ | refine wl_at 26 rfl (.int .u32 (X : Int)) rfl (shl_32 (n := qk) (d := d) HV.out.1 HV.out.2.1 HV.out.2.2.1 rfl rfl rfl) ?_ | refine wl_at 27 rfl (.int .u32 (Y : Int)) rfl (add_32 (i := X) (j := 1664) hY.out rfl rfl rfl) ?_ | refine wl_at 28 rfl (.int .u32 (Z : Int)) rfl (quo_32q (n := Y) hZ.out hY.out.2 rfl rfl) ?_ | refine wl_at 29 rfl (.int .u16 (Z : Int)) rfl (conv_32 (n := Z) HV.out.2.2.2.2 rfl rfl) ?_ | (go_at_call 90; refine (C1.out _).mono ?_))
   rintro e w2 ⟨rfl, rfl⟩
   go_wp2_with (first | refine wl_at 31 rfl (.pointer (some ⟨N, k, none⟩)) rfl (at_poly hlt rfl rfl rfl) ?_ | refine wl_storeP rfl hlt rfl rfl rfl HI.out.1 ?_)
   intro w3 r3 b3 z3
   rw [HN2.out] at r3
   have HI3 : Shh (Row w3 N 62 (pc (half r p (k + 1))) ∧ Row w3 (N + 1) 62 (pc fun _ => 0) ∧ Below N w w3) := ⟨r3, b3.row HI.out.2.1 HI.out.2.1.lt (by omega), HI.out.2.2.trans (b3.under (Nat.le_of_lt HI.out.1.lt) (by omega))⟩
   clear r3 b3 z3 HI
   go_wp2
   go_roundw
   case rel => exact ⟨k + 1, by omega, by go_num, HI3⟩
   case measure => simp [intOf]; omega
  ·have HL : Shh (pc (half r p k) = pc r) := ⟨by rw [show k = 256 by omega]; exact half_all _ _⟩
   rw [HL.out] at HI
   have hlt2 : ¬ (k : Int) < 256 := by omega
   clear HL HR HLO
   go_wp2_with (first
    | refine wpList_load_any rfl 62 (.tmp 3) rfl N rfl 62 (pc r) (.array 256 39) HI.out.1 Tryd.underlying62 rfl (info_poly.trans (size_poly r)) ?_
    | refine wpList_store_any rfl 62 (.tmp 4) (.tmp 33) rfl (N + 1) rfl (pc r) rfl 62 _ HI.out.2.1 (info_poly.trans (size_poly r)) (by rw [pc_length, pc_length]) (pc_one r) ?_)
   intro w9 hr9 b9 _
   have hb9 := HI.out.2.2.trans (b9.under (Nat.le_of_lt HI.out.1.lt) (Nat.le_succ _))
   go_wp2
   exact ret_rs7 Tryd.results81 rfl rfl rfl hr9 Tryd.underlying62 rfl (info_poly.trans (size_poly r)) ⟨rfl, hb9⟩
set_option maxHeartbeats 2000000 in
theorem Decompress_any (d : Nat) (hd : 1 ≤ d ∧ d ≤ 11) (p : Nat → Nat) (hp : ∀ i, i < 256 → p i < 65536) (w : World) : Calls Tryd.prog 80 #[.int .i64 (d : Int), polyV p] w (CodeIs w (dcmP d p) 0) := by
 unfold CodeIs polyV
 generalize hN : w.heap.size = N at *
 have i1 : ¬ (d : Int) < 1 := by omega
 have i2 : ¬ (12 : Int) ≤ (d : Int) := by omega
 have hd16 : d ≤ 16 := by omega
 obtain ⟨P, hPP⟩ : ∃ P, Shh (P = 2 ^ d) := ⟨_, ⟨rfl⟩⟩
 have HPB : Shh (0 < P ∧ P ≤ 2048) := ⟨by rw [hPP.out]; exact Nat.two_pow_pos d, by rw [hPP.out]; exact Nat.le_trans (Nat.pow_le_pow_right (by decide) hd.2) (by decide)⟩
 obtain ⟨d0, hd0⟩ : ∃ e, Shh (d = e + 1 ∧ d ≤ 1000000000000) := ⟨d - 1, ⟨by omega, by omega⟩⟩
 obtain ⟨B, hB⟩ : ∃ B, Shh (B = 1 * 2 ^ d0 ∧ B = 2 ^ (d - 1)) := ⟨_, ⟨rfl, by rw [Nat.one_mul]; congr 1; have := hd0.out; omega⟩⟩
 have HBB : Shh (B ≤ 2048 ∧ d0 ≤ 31 ∧ B < 4294967296) := ⟨by
  have h1 : 2 ^ (d - 1) ≤ 2 ^ 11 := Nat.pow_le_pow_right (by decide) (by omega)
  have h2 := hB.out.2
  have h3 : 2 ^ 11 = 2048 := rfl
  have h4 := hd0.out
  refine ⟨?_, ?_, ?_⟩ <;> omega⟩
 have HLO : Shh (∀ n : Nat, n < 65536 → ∀ W, Calls Tryd.prog 90 #[.int .i64 (d : Int), .int .u16 (n : Int)] W (U16Is W (n % P))) := ⟨fun n hn W => by rw [hPP.out]; exact low_any d n hd16 hn W⟩
 have HR : Shh (∀ i, i < 256 → dcmP d p i = (3329 * (p i % P) + B) / P ∧ p i < 65536 ∧ dcmP d p i < 65536) := ⟨fun i hi => ⟨by unfold dcmP; rw [dcm_eq d _ hd.1, hPP.out, ← hB.out.2], hp i hi, dcmN_lt d _ (by omega) (Nat.mod_lt _ (Nat.two_pow_pos d))⟩⟩
 have HD := Shh.mk hd
 generalize dcmP d p = r at *
 clear hp hd hd16
 have HL0 : Shh (Row ((w.alloc (.cells (pc p).toArray 62)).alloc (.cells (pc fun _ => 0).toArray 62)) N 62 (pc p)) := ⟨(Row.new_ hN.symm rfl).alloc _⟩
 go_enter Tryd.func80, Tryd.ntmps80
 go_wp2_with (first | refine wl_allocP rfl rfl ?_ | refine wl_at 17 rfl (.int .i64 (d0 : Int)) rfl (sub_ii (i := d) (j := 1) hd0.out rfl rfl rfl) ?_ | refine wl_at 18 rfl (.int .u32 (B : Int)) rfl (shl_32 (n := 1) (d := d0) hB.out.1 HBB.out.2.1 HBB.out.2.2 rfl rfl rfl) ?_ | refine wpList_load_any rfl 62 (.tmp 3) rfl N rfl 62 (pc p) (.array 256 39) HL0.out Tryd.underlying62 rfl (info_poly.trans (size_poly p)) ?_)
 obtain ⟨W, hW⟩ : ∃ W, W = (w.alloc (.cells (pc p).toArray 62)).alloc (.cells (pc fun _ => 0).toArray 62) := ⟨_, rfl⟩
 have HW : Shh (Row W N 62 (pc p) ∧ Row W (N + 1) 62 (pc fun _ => 0) ∧ Below N w W) := by
  refine ⟨by rw [hW]; exact (Row.new_ hN.symm rfl).alloc _, by rw [hW]; exact Row.new_ (by rw [asz, hN]) rfl, ?_⟩
  rw [hW, ← hN]
  exact Below.chain (bel1 _ _) (bel1 _ _)
 try simp only [asz, hN]
 rw [← hW]
 clear hW HL0
 go_wp2
 go_loopw [20] (fun i wr => ∃ k : Nat, k ≤ 256 ∧ i = .int .i64 (k : Int) ∧ Shh (Row wr N 62 (pc (half r p k)) ∧ Row wr (N + 1) 62 (pc fun _ => 0) ∧ Below N w wr)) (fun i _ => 256 - (intOf i).toNat)
 case atStart => exact ⟨0, Nat.zero_le _, rfl, ⟨by rw [half_zero]; exact HW.out⟩⟩
 case round =>
  clear HW
  obtain ⟨k, hk, rfl, HI⟩ := hrel
  by_cases hlt : k < 256
  ·have hlt2 : (k : Int) < 256 := by omega
   have HX := HR.out k hlt
   have HN2 := Shh.mk (half_next r p k)
   have HG := Shh.mk (pc_get p hlt)
   generalize r k = rk at *
   generalize p k = pk at *
   obtain ⟨x, hx⟩ : ∃ v, Shh (v = pk % P) := ⟨_, ⟨rfl⟩⟩
   have hxl : x < 2048 := by have h := Nat.mod_lt pk HPB.out.1; have h2 := HPB.out.2; have h3 := hx.out; omega
   rw [← hx.out] at HX
   obtain ⟨X, hX⟩ : ∃ v, Shh (v = 3329 * x) := ⟨_, ⟨rfl⟩⟩
   have hXl : X ≤ 3329 * 2048 := by rw [hX.out]; omega
   rw [← hX.out] at HX
   obtain ⟨Y, hY⟩ : ∃ v, Shh (v = X + B ∧ v < 4294967296) := ⟨_, ⟨rfl, by have := HBB.out; omega⟩⟩
   rw [← hY.out.1] at HX
   have HV : Shh (x < 65536 ∧ X < 4294967296 ∧ rk = Y / 2 ^ d ∧ d ≤ 31 ∧ rk = rk % 65536) := ⟨by omega, by omega, by rw [HX.1, hPP.out], by have := HD.out; omega, by omega⟩
   have C1 : Shh (∀ W, Calls Tryd.prog 90 #[.int .i64 (d : Int), .int .u16 (pk : Int)] W (U16Is W x)) := ⟨fun W => by rw [hx.out]; exact HLO.out pk HX.2.1 W⟩
   clear HX hXl hxl
   go_wp2_with (first | refine wl_at 23 rfl (.int .u16 (pk : Int)) rfl (idx_poly hlt HG.out rfl rfl rfl) ?_ | (go_at_call 90; refine (C1.out _).mono ?_))
   rintro e w2 ⟨rfl, rfl⟩
   go_wp2_with (first | refine wl_at 28 rfl (.int .u32 (x : Int)) rfl (conv_u32 HV.out.1 rfl rfl) ?_ | refine wl_at 29 rfl (.int .u32 (X : Int)) rfl (mul_32 (i := 3329) (j := x) hX.out HV.out.2.1 rfl rfl rfl) ?_ | refine wl_at 31 rfl (.int .u32 (Y : Int)) rfl (add_32 (i := X) (j := B) hY.out rfl rfl rfl) ?_ | refine wl_at 33 rfl (.int .u32 (rk : Int)) rfl (shr_32 (n := Y) (d := d) HV.out.2.2.1 HV.out.2.2.2.1 hY.out.2 rfl rfl rfl) ?_ | refine wl_at 34 rfl (.int .u16 (rk : Int)) rfl (conv_32 (n := rk) HV.out.2.2.2.2 rfl rfl) ?_ | refine wl_at 35 rfl (.pointer (some ⟨N, k, none⟩)) rfl (at_poly hlt rfl rfl rfl) ?_ | refine wl_storeP rfl hlt rfl rfl rfl HI.out.1 ?_)
   intro w3 r3 b3 z3
   rw [HN2.out] at r3
   have HI3 : Shh (Row w3 N 62 (pc (half r p (k + 1))) ∧ Row w3 (N + 1) 62 (pc fun _ => 0) ∧ Below N w w3) := ⟨r3, b3.row HI.out.2.1 HI.out.2.1.lt (by omega), HI.out.2.2.trans (b3.under (Nat.le_of_lt HI.out.1.lt) (by omega))⟩
   clear r3 b3 z3 HI
   go_wp2
   go_roundw
   case rel => exact ⟨k + 1, by omega, by go_num, HI3⟩
   case measure => simp [intOf]; omega
  ·have HL : Shh (pc (half r p k) = pc r) := ⟨by rw [show k = 256 by omega]; exact half_all _ _⟩
   rw [HL.out] at HI
   have hlt2 : ¬ (k : Int) < 256 := by omega
   clear HL HR HLO
   go_wp2_with (first
    | refine wpList_load_any rfl 62 (.tmp 3) rfl N rfl 62 (pc r) (.array 256 39) HI.out.1 Tryd.underlying62 rfl (info_poly.trans (size_poly r)) ?_
    | refine wpList_store_any rfl 62 (.tmp 4) (.tmp 37) rfl (N + 1) rfl (pc r) rfl 62 _ HI.out.2.1 (info_poly.trans (size_poly r)) (by rw [pc_length, pc_length]) (pc_one r) ?_)
   intro w9 hr9 b9 _
   have hb9 := HI.out.2.2.trans (b9.under (Nat.le_of_lt HI.out.1.lt) (Nat.le_succ _))
   go_wp2
   exact ret_rs7 Tryd.results80 rfl rfl rfl hr9 Tryd.underlying62 rfl (info_poly.trans (size_poly r)) ⟨rfl, hb9⟩
end Go.Proofs.YtbjpbeplpljieaaDoor

/-
 A NEW VARIABLE OF THE TYPE Poly: laid and filled in one step.
-/
namespace Go.Proofs.YtbjpbeplpljieaaDoor
open Go.RowKit
set_option maxRecDepth 100000
section
variable {ops : Array Oper} {rest : List Oper} {o1 o2 : Oper} {a : Act} {w : World} {Q : Exit → Act → World → Prop} {y : Operand}
theorem wl_newP (d : Nat) (q : Nat → Nat) (hg1 : o1.guard = none) (hg2 : o2.guard = none) (hd : o1.dst = some d) (hd2 : o2.dst = none) (h1 : o1.op = .alloc 62) (h2 : o2.op = .store 62 (.tmp d) y)
 (hx : (a.put (some d) (.pointer (some ⟨w.heap.size, 0, none⟩))).eval (.tmp d) = .pointer (some ⟨w.heap.size, 0, none⟩)) (hy : (a.put (some d) (.pointer (some ⟨w.heap.size, 0, none⟩))).eval y = .agg (pc q).toArray)
 (h : ∀ g w2, Shh (g = w.heap.size) → Row w2 g 62 (pc q) → Below w.heap.size w w2 → wpList Tryd.prog ops Q rest (a.put (some d) (.pointer (some ⟨g, 0, none⟩))) w2) : wpList Tryd.prog ops Q (o1 :: o2 :: rest) a w := by
 refine wl_allocP hg1 h1 ?_
 rw [hd]
 refine wpList_store_any hg2 62 (.tmp d) y h2 w.heap.size hx (pc q) hy 62 (pc fun _ => 0) (Row.new_ rfl rfl) (info_poly.trans (size_poly q)) (by rw [pc_length, pc_length]) (pc_one q) ?_
 intro w2 r b z
 rw [hd2]
 exact h _ w2 ⟨rfl⟩ r ((bel1 w _).trans (b.under (by rw [asz]; omega) (Nat.le_refl _)))
end
end Go.Proofs.YtbjpbeplpljieaaDoor

/-
 WORDS for the laws: three ready operations; '!=' of arrays; a new polynomial in a drawn region.
-/
namespace Go.Proofs.YtbjpbeplpljieaaDoor
open Go.RowKit
set_option maxRecDepth 100000
section
variable {P : Program} {md : Region.Mode} {ops : Array Oper} {Q : Exit → Act → World → Prop} {S : World → Prop} {fuel : Nat} {listed : Array Bool} {a : Act} {w : World}
theorem held_three (i j k : Nat) (hr : Region.ready md ops listed = [i, j, k]) (h1 : HStep P md ops Q S fuel listed a w i) (h2 : HStep P md ops Q S fuel listed a w j) (h3 : HStep P md ops Q S fuel listed a w k) : wpAnyH P md ops Q S (fuel + 1) listed a w :=
 wpAnyH_all hr (by simp) fun m hm => by
  simp only [List.mem_cons, List.not_mem_nil, or_false] at hm
  rcases hm with rfl | rfl | rfl
  ·exact h1
  ·exact h2
  ·exact h3
end
theorem run_neq_agg {P : Program} {w : World} {x y : Operand} {ρ : Operand → Value} {p q : Array Value} {T U ty : TypeId} {d : Option Tmp} {r : Bool} (hg : P.eqGuardType P.depth T = false) (heq : (Op.equalIn 10000 T (.agg p) (.agg q)).run P w = .ok r w) (hx : ρ x = .agg p) (hy : ρ y = .agg q) :
 (execOp ρ ⟨d, .binOp .neq T x y U, ty, "", #[], none⟩).run P w = .ok (.value (.bool (!r))) w := by
 have hbin : (binOp .neq T (.agg p) (.agg q)).run P w = .ok (.bool (!r)) w := by
  have e : binOp .neq T (.agg p) (.agg q) = (do pure (.bool (!(← Op.equal T (.agg p) (.agg q))))) := by rfl
  have e2 : Op.equal T (.agg p) (.agg q) = Op.equalIn 10000 T (.agg p) (.agg q) := by rfl
  rw [e, e2, Sem.run_bind, heq]
  rfl
 have hgd : (eqGuard .neq T x y (.agg p) (.agg q)).run P w = .ok () w := by
  unfold eqGuard
  simp [go_sem, hg]
 unfold execOp
 simp only [hx, hy, Sem.run_bind, hgd, hbin, Result.andThen_ok]
 rfl
theorem run_neq_same {P : Program} {w : World} {x y : Operand} {ρ : Operand → Value} {p q : Array Value} {T U ty : TypeId} {d : Option Tmp} (hg : P.eqGuardType P.depth T = false) (heq : (Op.equalIn 10000 T (.agg p) (.agg q)).run P w = .ok true w) (hx : ρ x = .agg p) (hy : ρ y = .agg q) :
 (execOp ρ ⟨d, .binOp .neq T x y U, ty, "", #[], none⟩).run P w = .ok (.value (.bool false)) w := run_neq_agg hg heq hx hy
section
variable {a : Act} {op : Oper} {w : World}
theorem run_allocP (ho : op.op = .alloc 62) : (execOp a.eval op).run Tryd.prog w = .ok (.value (.pointer (some ⟨w.heap.size, 0, none⟩))) (w.alloc (.cells (pc fun _ => 0).toArray 62)) := by
 have hz := zero_poly w
 unfold execOp
 simp only [ho]
 generalize pc (fun _ => 0) = z at *
 go_simp
end
end Go.Proofs.YtbjpbeplpljieaaDoor

/-
 LOADS AND COMPARISONS under a guard that holds, in an undrawn list.
-/
namespace Go.Proofs.YtbjpbeplpljieaaDoor
open Go.RowKit
set_option maxRecDepth 100000
theorem wl_wanted {P : Program} {ops : Array Oper} {rest : List Oper} {o : Oper} {a : Act} {w : World} {Q : Exit → Act → World → Prop} (hw : Region.wanted o (yielded ops a.tmps) = true)
  (h : ∀ K : Act → World → Prop, (∀ a w, wpList P ops Q rest a w → K a w) → o.wp P a w K Q) : wpList P ops Q (o :: rest) a w :=
 wpList_step fun K hK => by rw [if_pos hw]; exact h K hK
/-- a load of a row, whatever its guard -/
theorem wl_loadW {P : Program} {ops : Array Oper} {rest : List Oper} {o : Oper} {a : Act} {w : World} {Q : Exit → Act → World → Prop} (ty : TypeId) (x : Operand) (ho : o.op = .load ty x)
  (g : Nat) (hx : a.eval x = .pointer (some ⟨g, 0, none⟩)) (t : TypeId) (cs : List Value) (d : TypeDesc) (hw : Region.wanted o (yielded ops a.tmps) = true) (hr : Row w g t cs)
  (hu : P.underlying ty = some d) (hd : (match d with | .struct _ | .array _ _ => true | _ => false) = true) (hi : (P.info? ty).map (·.size) = some cs.length)
  (h : wpList P ops Q rest (a.put o.dst (.agg cs.toArray)) w) : wpList P ops Q (o :: rest) a w :=
 wl_wanted hw fun _ hK => wp_load_row ty x ho g hx t cs.toArray (0, 0) d hr hu hd (by simpa using hi) (hK _ _ h)
/-- a comparison of two rows, whatever its guard -/
theorem wl_eqlW {P : Program} {ops : Array Oper} {rest : List Oper} {o : Oper} {a : Act} {w : World} {Q : Exit → Act → World → Prop} (T U : TypeId) (x y : Operand) (ho : o.op = .binOp .eql T x y U)
  (p q : Array Value) (hx : a.eval x = .agg p) (hy : a.eval y = .agg q) (hw : Region.wanted o (yielded ops a.tmps) = true) (hg : P.eqGuardType P.depth T = false) (r : Bool) (heq : (Op.equalIn 10000 T (.agg p) (.agg q)).run P w = .ok r w)
  (h : wpList P ops Q rest (a.put o.dst (.bool r)) w) : wpList P ops Q (o :: rest) a w := by
 refine wl_wanted hw fun K hK => ?_
 obtain ⟨dst, op, ty, pos, after, guard⟩ := o
 obtain rfl := ho
 have hrun := run_eql_agg (P := P) (w := w) (x := x) (y := y) (ρ := a.eval) (p := p) (q := q) (T := T) (U := U) (ty := ty) (d := dst) (r := r) hg heq hx hy
 have hrun' : (execOp a.eval ⟨dst, .binOp .eql T x y U, ty, pos, after, guard⟩).run P w = .ok (.value (.bool r)) w := by
  rw [← hrun]
  unfold execOp
  rfl
 unfold Oper.wp
 rw [hrun', Oper.upon_value]
 exact hK _ _ h
theorem wl_neqW {P : Program} {ops : Array Oper} {rest : List Oper} {o : Oper} {a : Act} {w : World} {Q : Exit → Act → World → Prop} (T U : TypeId) (x y : Operand) (ho : o.op = .binOp .neq T x y U)
  (p q : Array Value) (hx : a.eval x = .agg p) (hy : a.eval y = .agg q) (hw : Region.wanted o (yielded ops a.tmps) = true) (hg : P.eqGuardType P.depth T = false) (r : Bool) (heq : (Op.equalIn 10000 T (.agg p) (.agg q)).run P w = .ok r w)
  (h : wpList P ops Q rest (a.put o.dst (.bool (!r))) w) : wpList P ops Q (o :: rest) a w := by
 refine wl_wanted hw fun K hK => ?_
 obtain ⟨dst, op, ty, pos, after, guard⟩ := o
 obtain rfl := ho
 have hrun := run_neq_agg (P := P) (w := w) (x := x) (y := y) (ρ := a.eval) (p := p) (q := q) (T := T) (U := U) (ty := ty) (d := dst) (r := r) hg heq hx hy
 have hrun' : (execOp a.eval ⟨dst, .binOp .neq T x y U, ty, pos, after, guard⟩).run P w = .ok (.value (.bool (!r))) w := by
  rw [← hrun]
  unfold execOp
  rfl
 unfold Oper.wp
 rw [hrun', Oper.upon_value]
 exact hK _ _ h
section
variable {ops : Array Oper} {rest : List Oper} {o : Oper} {a : Act} {w : World} {Q : Exit → Act → World → Prop}
theorem wl_atW (d : Nat) (hd : o.dst = some d) (v : Value) (hw : Region.wanted o (yielded ops a.tmps) = true) (hrun : (execOp a.eval o).run Tryd.prog w = .ok (.value v) w) {a2 : Act} (h : wpList Tryd.prog ops Q rest a2 w) (ha : a.put (some d) v = a2 := by ((try simp only [Act.put, arr9, hd9, tl9]); rfl)) : wpList Tryd.prog ops Q (o :: rest) a w := by
 refine wl_wanted hw fun K hK => ?_
 unfold Oper.wp
 rw [hrun, Oper.upon_value, hd, ha]
 exact hK _ _ h
end
end Go.Proofs.YtbjpbeplpljieaaDoor

/-
 THE DOCUMENT'S OWN Mul.
-/
namespace Go.Proofs.YtbjpbeplpljieaaDoor
open Go.RowKit
set_option maxRecDepth 100000
end Go.Proofs.YtbjpbeplpljieaaDoor

/-
 THE INVERSE TRANSFORM's sums.
-/
namespace Go.Proofs.YtbjpbeplpljieaaDoor
open Go.RowKit
set_option maxRecDepth 100000
section
variable {ops : Array Oper} {rest : List Oper} {o : Oper} {a : Act} {w : World} {Q : Exit → Act → World → Prop} {x y : Operand} {op : Oper}
theorem wl_storeI {g k v n : Nat} {T : TypeId} {q : Nat → Nat} (hgd : o.guard = none) (hk : k < n) (ho : o.op = .store 3 x y) (hx : a.eval x = .pointer (some ⟨g, k, none⟩)) (hy : a.eval y = .int .i64 (v : Int)) (hr : Row w g T (ic n q))
 (h : ∀ w2, Row w2 g T (ic n (upd q k v)) → But w.heap.size g w w2 → w2.heap.size = w.heap.size → wpList Tryd.prog ops Q rest (a.put o.dst undef) w2) : wpList Tryd.prog ops Q (o :: rest) a w := by
 have hs := hr.set_ k (.int .i64 (v : Int))
 rw [ic_set] at hs
 refine wpList_plain hgd fun K hK => ?_
 unfold Oper.wp
 rw [run_storeI hk hr ho hx hy]
 exact hK _ _ (h _ hs ((But.refl _ _ _).setCell _ _) (by simp [World.setCell]))
end
/-- what is added to number j in round i: c * 3303 * g^j, one factor after the other -/
def tS (g c : Nat) : Nat → Nat
 | 0 => c % 3329 * 3303 % 3329
 | j + 1 => tS g c j * g % 3329
theorem tS_lt (g c : Nat) : ∀ j, tS g c j < 3329
 | 0 => Nat.mod_lt _ (by decide)
 | _ + 1 => Nat.mod_lt _ (by decide)
theorem tS_is (g c : Nat) : ∀ j, rM (tS g c j : Int) ((c : Int) * 3303 * (g : Int) ^ j)
 | 0 => by
  rw [Int.pow_zero, Int.mul_one]
  refine (rM_nat _).trans ?_
  rw [Int.natCast_mul]
  exact (rM_nat _).mul (rM.of rfl)
 | j + 1 => by
  refine (rM_nat _).trans ?_
  rw [Int.natCast_mul, Int.pow_succ, ← Int.mul_assoc]
  exact (tS_is g c j).mul (rM.of rfl)
/-- the root that goes back -/
def gB (i : Nat) : Nat := rtN i ^ 255 % 3329
/-- the sums, when i rounds and k numbers of the next are done -/
def invS (c : Nat → Nat) (i k j : Nat) : Nat := nS i (fun i' => tS (gB i') (c i') j) + if j < k then tS (gB i) (c i) j else 0
theorem invS_zero (c : Nat → Nat) : invS c 0 0 = fun _ => 0 := funext fun _ => rfl
theorem invS_row (c : Nat → Nat) (i : Nat) : ic 128 (invS c i 128) = ic 128 (invS c (i + 1) 0) := ic_of fun j hj => by
 unfold invS
 rw [if_pos hj, if_neg (by omega)]
 rfl
theorem invS_next (c : Nat → Nat) (i k : Nat) : upd (invS c i k) k (invS c i k k + tS (gB i) (c i) k) = invS c i (k + 1) := by
 funext m
 unfold upd
 by_cases h : m = k
 ·subst h
  rw [if_pos rfl]
  unfold invS
  rw [if_neg (by omega), if_pos (by omega), Nat.add_zero]
 ·rw [if_neg h]
  unfold invS
  by_cases h2 : m < k
  ·rw [if_pos h2, if_pos (by omega)]
  ·rw [if_neg h2, if_neg (by omega)]
theorem invS_le (c : Nat → Nat) (i k j : Nat) (hi : i ≤ 128) : invS c i k j ≤ 1000000 := by
 have h := nS_le (f := fun i' => tS (gB i') (c i') j) (fun i' => Nat.le_of_lt (tS_lt _ _ _)) i
 have h2 := tS_lt (gB i) (c i) j
 unfold invS
 have h3 : i * 3329 ≤ 128 * 3329 := Nat.mul_le_mul_right _ hi
 split <;> omega
theorem invS_sum (c : Nat → Nat) (j : Nat) : rM (invS c 128 0 j : Int) (rS 128 (fun i => (c i : Int) * 3303 * (rtN i : Int) ^ (255 * j))) := by
 unfold invS
 rw [if_neg (by omega), Nat.add_zero, nS_int]
 refine rM_S fun i _ => (tS_is _ _ _).trans ?_
 refine (rM.of rfl).mul ?_
 rw [Int.pow_mul]
 refine rM.pow ?_ j
 unfold gB
 rw [Int.natCast_emod, Int.natCast_pow]
 exact rM_mod _
theorem inv_even (p : Nat → Nat) (j : Nat) : invS (fun i => p (2 * i)) 128 0 j % 3329 = invN p (2 * j) := by
 unfold invN
 rw [show 2 * j % 2 = 0 by omega, show 2 * j / 2 = j by omega, ← rd_same]
 exact rd_of (invS_sum _ _)
theorem inv_odd (p : Nat → Nat) (j : Nat) : invS (fun i => p (2 * i + 1)) 128 0 j % 3329 = invN p (2 * j + 1) := by
 unfold invN
 rw [show (2 * j + 1) % 2 = 1 by omega, show (2 * j + 1) / 2 = j by omega, ← rd_same]
 exact rd_of (invS_sum _ _)
end Go.Proofs.YtbjpbeplpljieaaDoor

/-
 THE DOCUMENT'S OWN Inv.
-/
namespace Go.Proofs.YtbjpbeplpljieaaDoor
open Go.RowKit
set_option maxRecDepth 100000
end Go.Proofs.YtbjpbeplpljieaaDoor

/-
 THE LAWS OF CHAPTER 13 over contracts of the program's own functions: RingPairs, RingSums, RingNtts.
-/
namespace Go.Proofs.YtbjpbeplpljieaaDoor
open Go.RowKit
set_option maxRecDepth 100000
theorem eq_poly (p : Nat → Nat) (hp : ∀ i, i < 256 → p i < 65536) (w : World) : (Op.equalIn 10000 62 (.agg (pc p).toArray) (.agg (pc p).toArray)).run Tryd.prog w = .ok true w := by
 have e : pc p = ((List.range 256).map fun i => (p i : Int)).map (Value.int .u16) := by simp [pc]
 rw [e, eq_arr (k := .u16) (n := 256) (e := 39) (by kernel_rfl) Tryd.underlying62 Tryd.underlying39 (by kernel_rfl) (by kernel_rfl) _ _ (by simp) (by simp) ?_ ?_]
 ·simp
 all_goals
  intro x hx
  obtain ⟨i, hi, rfl⟩ := List.mem_map.1 hx
  have h := hp i (List.mem_range.1 hi)
  simp [Lit.wf, IntKind.min, IntKind.max, IntKind.signed, IntKind.bits]
  omega
theorem rd_16 (x : Int) : rd x < 65536 := Nat.lt_trans (rd_lt x) (by decide)
end Go.Proofs.YtbjpbeplpljieaaDoor

/-
 THE PROGRAM'S OWN Decode, Canon.
-/
namespace Go.Proofs.YtbjpbeplpljieaaDoor
open Go.RowKit
set_option maxRecDepth 100000
/-- what is decoded -/
def decF (d V i : Nat) : Nat := if d = 12 then decN d V i % 3329 else decN d V i
theorem decN_16 (d V i : Nat) (hd : d ≤ 12) : decN d V i < 65536 := Nat.lt_of_lt_of_le (decN_lt d V i) (Nat.le_trans (Nat.pow_le_pow_right (by decide) (show d ≤ 16 by omega)) (by decide))
theorem decF_16 (d V i : Nat) (hd : d ≤ 12) : decF d V i < 65536 := by
 unfold decF
 have h := decN_16 d V i hd
 split <;> omega
/-- are all numbers of 12 bits below q? -/
def canonB (bs : List UInt8) : Bool := decide (bs.length = 384) && (List.range 256).all fun i => decide (decN 12 (litN bs) i < 3329)
/-- the answer is a bool, and what was in memory stays -/
def BoolIs (w : World) (b : Bool) (e : Ending) (w' : World) : Prop := e = .returned (.bool b) ∧ Below w.heap.size w w'
theorem eq_poly2 (p q : Nat → Nat) (b : Bool) (hb : b = true ↔ ∀ i, i < 256 → p i = q i) (hp : ∀ i, i < 256 → p i < 65536) (hq : ∀ i, i < 256 → q i < 65536) (w : World) : (Op.equalIn 10000 62 (.agg (pc p).toArray) (.agg (pc q).toArray)).run Tryd.prog w = .ok b w := by
 have e : ∀ p : Nat → Nat, pc p = ((List.range 256).map fun i => (p i : Int)).map (Value.int .u16) := fun p => by simp [pc]
 have hwf : ∀ p : Nat → Nat, (∀ i, i < 256 → p i < 65536) → ∀ x ∈ ((List.range 256).map fun i => (p i : Int)), (Lit.int .u16 x).wf = true := fun p hp x hx => by
  obtain ⟨i, hi, rfl⟩ := List.mem_map.1 hx
  have h := hp i (List.mem_range.1 hi)
  simp [Lit.wf, IntKind.min, IntKind.max, IntKind.signed, IntKind.bits]
  omega
 rw [e p, e q, eq_arr (k := .u16) (n := 256) (e := 39) (by kernel_rfl) Tryd.underlying62 Tryd.underlying39 (by kernel_rfl) (by kernel_rfl) _ _ (by simp) (by simp) (hwf p hp) (hwf q hq)]
 congr 1
 rw [Bool.eq_iff_iff, hb, beq_iff_eq]
 constructor
 ·intro h i hi
  have h2 := congrArg (fun l : List Int => l[i]?) h
  simp only [List.getElem?_map, List.getElem?_range hi, Option.map_some, Option.some.injEq] at h2
  omega
 ·intro h
  exact List.map_congr_left fun i hi => by rw [h i (List.mem_range.1 hi)]
set_option maxHeartbeats 2000000 in
theorem Decode_any (d : Nat) (hd : 1 ≤ d ∧ d ≤ 12) (B : Nat) (v : Value) (bs : List UInt8) (hl : bs.length = 32 * d) (w : World) (hs : Sl w B v bs) (hB : B ≤ w.heap.size) : Calls Tryd.prog 74 #[.int .i64 (d : Int), v] w (CodeIs w (decF d (litN bs)) 0) := by
 unfold CodeIs polyV
 generalize hN : w.heap.size = N at *
 have i1 : ¬ (d : Int) < 1 := by omega
 have i2 : ¬ (12 : Int) < (d : Int) := by omega
 have i3 : (bs.length : Int) ≤ 32 * (d : Int) := by omega
 have i4 : 32 * (d : Int) ≤ (bs.length : Int) := by omega
 have HS0 : Shh (Sl (w.alloc (.cells (pc fun _ => 0).toArray 62)) B v bs ∧ Row (w.alloc (.cells (pc fun _ => 0).toArray 62)) N 62 (pc fun _ => 0) ∧ Below N w (w.alloc (.cells (pc fun _ => 0).toArray 62)) ∧ B ≤ (w.alloc (.cells (pc fun _ => 0).toArray 62)).heap.size) := by
  refine ⟨hs.below ((bel1 _ _).mono (by omega)), Row.new_ hN.symm rfl, ?_, by rw [asz]; omega⟩
  rw [← hN]
  exact bel1 _ _
 obtain ⟨q, hq⟩ : ∃ q : Nat → Nat, Shh (q = decN d (litN bs)) := ⟨_, ⟨rfl⟩⟩
 have HU : Shh (Calls Tryd.prog 88 #[.int .i64 (d : Int), v] (w.alloc (.cells (pc fun _ => 0).toArray 62)) (PolyIs (w.alloc (.cells (pc fun _ => 0).toArray 62)) q)) := ⟨by rw [hq.out]; exact unpacked_any d hd B v bs hl _ HS0.out.1 HS0.out.2.2.2⟩
 have HD : Shh (d ≤ 12) := ⟨hd.2⟩
 obtain ⟨A, c, rfl, _, _⟩ := hs.form
 by_cases h12 : d = 12
 ·have HR : Shh (∀ W, Calls Tryd.prog 76 #[.agg (pc q).toArray] W (PolyIs W (decF d (litN bs)))) := ⟨fun W => by
   unfold PolyIs polyV
   rw [show pc (decF d (litN bs)) = pc (redN q) from pc_of fun i _ => by unfold decF redN; rw [if_pos h12, hq.out, rd_same]]
   exact Reduce_any q (fun i _ => by rw [hq.out]; exact decN_16 d _ i HD.out) W⟩
  generalize decF d (litN bs) = r at *
  have H12 := Shh.mk h12
  clear hq hs hl h12 hd
  generalize bs.length = ln at *
  go_enter Tryd.func74, Tryd.ntmps74
  go_wp2_with (first | refine wl_allocP rfl rfl ?_ | (go_at_call 88; refine (HU.out).mono ?_))
  rintro e w2 ⟨rfl, b2⟩
  have HI : Shh (Row w2 N 62 (pc fun _ => 0) ∧ Below N w w2) := ⟨HS0.out.2.1.go b2, HS0.out.2.2.1.trans (b2.mono (by have := HS0.out.2.1.lt; omega))⟩
  clear b2 HS0 HU
  go_wp2_with (refine wl_newP 6 q rfl rfl rfl rfl rfl rfl rfl rfl ?_)
  intro G w3 hG r3 b3
  simp only [Act.put, arr9, hd9, tl9]
  have HJ : Shh (Row w3 N 62 (pc fun _ => 0) ∧ Row w3 G 62 (pc q) ∧ Below N w w3 ∧ N < G) := ⟨HI.out.1.go b3, r3, HI.out.2.trans (b3.mono (Nat.le_of_lt HI.out.1.lt)), by rw [hG.out]; exact HI.out.1.lt⟩
  clear r3 b3 HI hG
  go_wp2_with (first | refine wl_at 25 rfl (.bool true) rfl (eql_12 H12.out rfl rfl) ?_ | refine wpList_load_any rfl 62 (.tmp 6) rfl G rfl 62 (pc q) (.array 256 39) HJ.out.2.1 Tryd.underlying62 rfl (info_poly.trans (size_poly q)) ?_ | (go_at_call 76; refine (HR.out _).mono ?_))
  rintro e w4 ⟨rfl, b2⟩
  have HI : Shh (Row w4 N 62 (pc fun _ => 0) ∧ Row w4 G 62 (pc q) ∧ Below N w w4 ∧ N < G) := ⟨HJ.out.1.go b2, HJ.out.2.1.go b2, HJ.out.2.2.1.trans (b2.mono (Nat.le_of_lt HJ.out.1.lt)), HJ.out.2.2.2⟩
  clear b2 HJ HR
  go_wp2_with (refine wpList_store_any rfl 62 (.tmp 6) (.tmp 27) rfl G rfl (pc r) rfl 62 _ HI.out.2.1 (info_poly.trans (size_poly r)) (by rw [pc_length, pc_length]) (pc_one r) ?_)
  intro w5 r5 b5 z5
  have HJ : Shh (Row w5 N 62 (pc fun _ => 0) ∧ Row w5 G 62 (pc r) ∧ Below N w w5) := ⟨b5.row HI.out.1 HI.out.1.lt (by have := HI.out.2.2.2; omega), r5, HI.out.2.2.1.trans (b5.under (Nat.le_of_lt HI.out.1.lt) (Nat.le_of_lt HI.out.2.2.2))⟩
  clear r5 b5 z5 HI
  go_wp2_with (first | refine wpList_load_any rfl 62 (.tmp 6) rfl G rfl 62 (pc r) (.array 256 39) HJ.out.2.1 Tryd.underlying62 rfl (info_poly.trans (size_poly r)) ?_ | refine wpList_store_any rfl 62 (.tmp 4) (.tmp 28) rfl N rfl (pc r) rfl 62 _ HJ.out.1 (info_poly.trans (size_poly r)) (by rw [pc_length, pc_length]) (pc_one r) ?_)
  intro w9 hr9 b9 _
  have hb9 := HJ.out.2.2.trans (b9.under (Nat.le_of_lt HJ.out.1.lt) (Nat.le_refl _))
  go_wp2
  exact ret_rs7 Tryd.results74 rfl rfl rfl hr9 Tryd.underlying62 rfl (info_poly.trans (size_poly r)) ⟨rfl, hb9⟩
 ·have hqr : pc (decF d (litN bs)) = pc q := pc_of fun i _ => by unfold decF; rw [if_neg h12, hq.out]
  rw [hqr]
  have H12 := Shh.mk h12
  clear hq hs hl h12 hd hqr
  generalize bs.length = ln at *
  go_enter Tryd.func74, Tryd.ntmps74
  go_wp2_with (first | refine wl_allocP rfl rfl ?_ | (go_at_call 88; refine (HU.out).mono ?_))
  rintro e w2 ⟨rfl, b2⟩
  have HI : Shh (Row w2 N 62 (pc fun _ => 0) ∧ Below N w w2) := ⟨HS0.out.2.1.go b2, HS0.out.2.2.1.trans (b2.mono (by have := HS0.out.2.1.lt; omega))⟩
  clear b2 HS0 HU
  go_wp2_with (refine wl_newP 6 q rfl rfl rfl rfl rfl rfl rfl rfl ?_)
  intro G w3 hG r3 b3
  simp only [Act.put, arr9, hd9, tl9]
  have HJ : Shh (Row w3 N 62 (pc fun _ => 0) ∧ Row w3 G 62 (pc q) ∧ Below N w w3) := ⟨HI.out.1.go b3, r3, HI.out.2.trans (b3.mono (Nat.le_of_lt HI.out.1.lt))⟩
  clear r3 b3 HI hG
  go_wp2_with (first | refine wl_at 25 rfl (.bool false) rfl (neq_12 H12.out rfl rfl) ?_ | refine wpList_load_any rfl 62 (.tmp 6) rfl G rfl 62 (pc q) (.array 256 39) HJ.out.2.1 Tryd.underlying62 rfl (info_poly.trans (size_poly q)) ?_ | refine wpList_store_any rfl 62 (.tmp 4) (.tmp 28) rfl N rfl (pc q) rfl 62 _ HJ.out.1 (info_poly.trans (size_poly q)) (by rw [pc_length, pc_length]) (pc_one q) ?_)
  intro w9 hr9 b9 _
  have hb9 := HJ.out.2.2.trans (b9.under (Nat.le_of_lt HJ.out.1.lt) (Nat.le_refl _))
  go_wp2
  exact ret_rs7 Tryd.results74 rfl rfl rfl hr9 Tryd.underlying62 rfl (info_poly.trans (size_poly q)) ⟨rfl, hb9⟩
set_option maxHeartbeats 1000000 in
theorem Decode_bad (n : Int) (B : Nat) (v : Value) (bs : List UInt8) (hn : n < 1 ∨ 12 < n ∨ ¬ (bs.length : Int) = 32 * n) (w : World) (hs : Sl w B v bs) : Calls Tryd.prog 74 #[.int .i64 n, v] w (CodeIs w (fun _ => 0) 1) := by
 unfold CodeIs polyV
 obtain ⟨A, c, rfl, _, _⟩ := hs.form
 generalize hN : w.heap.size = N at *
 generalize bs.length = ln at *
 clear hs
 have HL1 : Shh (Row (w.alloc (.cells (pc fun _ => 0).toArray 62)) N 62 (pc fun _ => 0) ∧ Below N w (w.alloc (.cells (pc fun _ => 0).toArray 62))) := by
  refine ⟨Row.new_ hN.symm rfl, ?_⟩
  rw [← hN]
  exact bel1 _ _
 go_enter Tryd.func74, Tryd.ntmps74
 by_cases h1 : n < 1
 ·clear hn
  go_wp2_with (first | refine wl_allocP rfl rfl ?_ | refine wl_at 20 rfl (.agg (pc fun _ => 0).toArray) rfl (build_poly rfl) ?_ | refine wpList_store_any rfl 62 (.tmp 4) (.tmp 20) rfl N rfl (pc fun _ => 0) rfl 62 _ HL1.out.1 (info_poly.trans (size_poly _)) rfl (pc_one _) ?_)
  intro w9 hr9 b9 _
  have hb9 := HL1.out.2.trans (b9.under (by omega) (by omega))
  go_wp2
  exact ret_rs7 Tryd.results74 rfl rfl rfl hr9 Tryd.underlying62 rfl (info_poly.trans (size_poly _)) ⟨rfl, hb9⟩
 by_cases h2 : 12 < n
 ·clear hn
  go_wp2_with (first | refine wl_allocP rfl rfl ?_ | refine wl_at 20 rfl (.agg (pc fun _ => 0).toArray) rfl (build_poly rfl) ?_ | refine wpList_store_any rfl 62 (.tmp 4) (.tmp 20) rfl N rfl (pc fun _ => 0) rfl 62 _ HL1.out.1 (info_poly.trans (size_poly _)) rfl (pc_one _) ?_)
  intro w9 hr9 b9 _
  have hb9 := HL1.out.2.trans (b9.under (by omega) (by omega))
  go_wp2
  exact ret_rs7 Tryd.results74 rfl rfl rfl hr9 Tryd.underlying62 rfl (info_poly.trans (size_poly _)) ⟨rfl, hb9⟩
 ·have h3 : ¬ (ln : Int) = 32 * n := by omega
  clear hn
  go_wp2_with (first | refine wl_allocP rfl rfl ?_ | refine wl_at 20 rfl (.agg (pc fun _ => 0).toArray) rfl (build_poly rfl) ?_ | refine wpList_store_any rfl 62 (.tmp 4) (.tmp 20) rfl N rfl (pc fun _ => 0) rfl 62 _ HL1.out.1 (info_poly.trans (size_poly _)) rfl (pc_one _) ?_)
  intro w9 hr9 b9 _
  have hb9 := HL1.out.2.trans (b9.under (by omega) (by omega))
  go_wp2
  exact ret_rs7 Tryd.results74 rfl rfl rfl hr9 Tryd.underlying62 rfl (info_poly.trans (size_poly _)) ⟨rfl, hb9⟩
set_option maxHeartbeats 1000000 in
theorem Canon_any (B : Nat) (v : Value) (bs : List UInt8) (w : World) (hs : Sl w B v bs) (hB : B ≤ w.heap.size) : Calls Tryd.prog 72 #[v] w (BoolIs w (canonB bs)) := by
 unfold BoolIs
 generalize hN : w.heap.size = N at *
 by_cases h : bs.length = 384
 ·obtain ⟨q, hq⟩ : ∃ q : Nat → Nat, Shh (q = decN 12 (litN bs)) := ⟨_, ⟨rfl⟩⟩
  have HU : Shh (Calls Tryd.prog 88 #[.int .i64 12, v] w (PolyIs w q)) := ⟨by rw [hq.out]; exact unpacked_any 12 ⟨by decide, by decide⟩ B v bs h w hs (by omega)⟩
  have hq16 : ∀ i, i < 256 → q i < 65536 := fun i _ => by rw [hq.out]; exact decN_16 12 _ i (by decide)
  have HR : Shh (∀ W, Calls Tryd.prog 76 #[.agg (pc q).toArray] W (PolyIs W (redN q))) := ⟨fun W => Reduce_any q hq16 W⟩
  have HE : Shh (∀ W, (Op.equalIn 10000 62 (.agg (pc q).toArray) (.agg (pc (redN q)).toArray)).run Tryd.prog W = .ok (canonB bs) W) := ⟨fun W => eq_poly2 q (redN q) (canonB bs) (by
   unfold canonB
   rw [decide_eq_true h, Bool.true_and, List.all_eq_true]
   constructor
   ·intro h2 i hi
    have h3 := of_decide_eq_true (h2 i (List.mem_range.2 hi))
    unfold redN
    rw [rd_same, hq.out, Nat.mod_eq_of_lt h3]
   ·intro h2 i hi
    have h3 := h2 i (List.mem_range.1 hi)
    unfold redN at h3
    rw [rd_same, hq.out] at h3
    refine decide_eq_true ?_
    rw [h3]
    exact Nat.mod_lt _ (by decide)) hq16 (fun i _ => rd_16 _) W⟩
  generalize canonB bs = r at *
  generalize redN q = q2 at *
  obtain ⟨A, c, rfl, _, _⟩ := hs.form
  have h4 : (bs.length : Int) ≤ 384 := by omega
  have h5 : (384 : Int) ≤ (bs.length : Int) := by omega
  clear h hs hq hq16
  generalize bs.length = ln at *
  go_enter Tryd.func72, Tryd.ntmps72
  go_wp2_with (go_at_call 88; refine (HU.out).mono ?_)
  rintro e w2 ⟨rfl, b2⟩
  have HI : Shh (Below N w w2) := ⟨by rw [← hN]; exact b2⟩
  clear b2 HU
  go_wp2_with (refine wl_newP 3 q rfl rfl rfl rfl rfl rfl rfl rfl ?_)
  intro G w3 hG r3 b3
  simp only [Act.put, arr9, hd9, tl9]
  have HJ : Shh (Row w3 G 62 (pc q) ∧ Below N w w3) := ⟨r3, HI.out.trans (b3.mono (by have := HI.out.size; omega))⟩
  clear r3 b3 HI hG
  go_wp2
  refine wp_region_held_drew (S := fun w' => Row w' G 62 (pc q)) (by kernel_rfl) HJ.out.1.drew (fun hS => ?_)
  clear hS
  obtain ⟨U, hU⟩ : ∃ V, V = World.drew w3 := ⟨_, rfl⟩
  rw [← hU]
  have q0 : Row U G 62 (pc q) := by rw [hU]; exact HJ.out.1.drew
  have bN : Below N w U := by rw [hU]; exact HJ.out.2.drew
  clear HJ hU
  refine held_load 0 62 (.tmp 3) (some 9) (by kernel_rfl) (by rfl) (by kernel_rfl) G 0 (by kernel_rfl) (pc q) _ (fun w h => h.range) Tryd.underlying62 rfl (info_poly.trans (size_poly _)) (fun _ _ _ _ h => h) (q0) ?_
  simp only [Act.put, arr9, hd9, tl9]
  refine held_load 1 62 (.tmp 3) (some 10) (by kernel_rfl) (by rfl) (by kernel_rfl) G 0 (by kernel_rfl) (pc q) _ (fun w h => h.range) Tryd.underlying62 rfl (info_poly.trans (size_poly _)) (fun _ _ _ _ h => h) (q0) ?_
  simp only [Act.put, arr9, hd9, tl9]
  refine held_one 2 (by kernel_rfl) ?_
  refine step_call 2 _ _ (some 11) 76 #[.agg (pc q).toArray] (by rfl) (by kernel_rfl) (by first | kernel_rfl | go_simp) ?_
  refine (HR.out U).mono ?_
  rintro e Y1 ⟨rfl, b1⟩
  have bx : Below U.heap.size U Y1 := b1
  clear b1
  have b_U := bx
  have m_Y1 : U.heap.size ≤ Y1.heap.size := bx.size
  clear bx
  refine ⟨_, rfl, (q0.go b_U), ?_⟩
  simp only [Act.put, arr9, hd9, tl9]
  refine hdv 3 12 (.bool r) (by rfl) (fun w hS => run_eql_agg (by kernel_rfl) (HE.out w) (by kernel_rfl) (by kernel_rfl)) ((q0.go b_U)) ?_
  refine hdv0 4 2 (.bool r) (by rfl) ((q0.go b_U)) ?_
  refine wpAnyH_done (by kernel_rfl) ?_ _
  have HZ : Shh (Below N w Y1) := ⟨bN.trans (b_U.mono (by have := bN.size; omega))⟩
  clear m_Y1 b_U bN q0
  go_wp2
  go_ret
  exact ⟨rfl, HZ.out⟩
 ·have hr : canonB bs = false := by
   unfold canonB
   rw [decide_eq_false h, Bool.false_and]
  rw [hr]
  obtain ⟨A, c, rfl, _, _⟩ := hs.form
  have h4 : ¬ (bs.length : Int) = 384 := by omega
  have HB := Shh.mk (Below.refl N w)
  clear h hs hr
  generalize bs.length = ln at *
  go_enter Tryd.func72, Tryd.ntmps72
  go_wp2
  go_ret
  exact ⟨rfl, HB.out⟩
end Go.Proofs.YtbjpbeplpljieaaDoor

/-
 THE PROGRAM'S OWN ones.
-/
namespace Go.Proofs.YtbjpbeplpljieaaDoor
open Go.RowKit
set_option maxRecDepth 100000
/-- the ones among the lowest k bits -/
def popN (x : Nat) : Nat → Nat
 | 0 => 0
 | k + 1 => popN x k + if x.testBit k = true then 1 else 0
/-- the answer is a number, and what was in memory stays -/
def NumBel (w : World) (k : IntKind) (n : Nat) (e : Ending) (w' : World) : Prop := e = .returned (.int k (n : Int)) ∧ Below w.heap.size w w'
theorem bel_drewN (w : World) (n : Nat) : Below w.heap.size w (w.drewN n) := ⟨rfl, rfl, rfl, Nat.le_refl _, fun _ _ => rfl⟩
theorem pop_is : ((List.range 256).all fun x => decide (Lib.pop8 (x : Int) = (popN x 8 : Int) ∧ popN x 8 ≤ 8)) = true := by decide +kernel
theorem pop_zero : Lib.pop8 0 = 0 := by decide +kernel
theorem pop_low : ([2, 3] : List Nat).all (fun e => (List.range (2 ^ (2 * e))).all fun x => decide (popN (x % 2 ^ e) 8 = popN x e ∧ popN (x / 2 ^ e) 8 = popN (x / 2 ^ e) e ∧ popN x e ≤ 3 ∧ popN (x / 2 ^ e) e ≤ 3)) = true := by decide +kernel
theorem and255' (x : Nat) (h : x < 256) : bits .and .u16 (x : Int) 255 = (x : Int) := by
 have h1 := and_low x 8 (by omega) (by decide)
 rw [show ((2 ^ 8 - 1 : Nat) : Int) = 255 from rfl, Nat.mod_eq_of_lt (by omega)] at h1
 exact h1
set_option maxHeartbeats 1000000 in
theorem OnesCount_any (x : Nat) (hx : x < 256) (w : World) : Calls Tryd.prog 96 #[.int .u16 (x : Int)] w (NumBel w .i64 (popN x 8)) := by
 unfold NumBel
 have h0 := List.all_eq_true.1 pop_is x (List.mem_range.2 hx)
 simp only [decide_eq_true_eq] at h0
 have HP := Shh.mk h0
 have ha := and255' x hx
 have hd : (x : Int) / 256 = 0 := by omega
 have hr : (0 : Int) ≤ (x : Int) ∧ (x : Int) ≤ 255 := by omega
 have hz := pop_zero
 go_enter Tryd.func96, Tryd.ntmps96
 go_wp2
 go_quiet (fail)
 have HB := Shh.mk (bel_drewN w nq)
 generalize w.drewN nq = z at *
 go_wp2
 go_ret
 exact ⟨rfl, HB.out⟩
theorem ones_any (x : Nat) (hx : x < 256) (w : World) : Calls Tryd.prog 89 #[.int .u16 (x : Int)] w (NumBel w .u16 (popN x 8)) := by
 unfold NumBel
 have h0 := List.all_eq_true.1 pop_is x (List.mem_range.2 hx)
 simp only [decide_eq_true_eq] at h0
 have HC : Shh (∀ W, Calls Tryd.prog 96 #[.int .u16 (x : Int)] W (NumBel W .i64 (popN x 8))) := ⟨fun W => OnesCount_any x hx W⟩
 have h1 := h0.2
 clear h0
 generalize popN x 8 = n at *
 have HN : Shh (n < 65536) := ⟨by omega⟩
 go_enter Tryd.func89, Tryd.ntmps89
 go_wp2_with (go_at_call 96; refine (HC.out _).mono ?_)
 rintro e w2 ⟨rfl, hb⟩
 have HB := Shh.mk hb
 clear hb
 have hm : (n : Int) % 65536 = n := by omega
 go_wp2_with (refine wl_at 5 rfl (.int .u16 (n : Int)) rfl (conv_iu16 HN.out rfl rfl) ?_)
 go_ret
 exact ⟨rfl, HB.out⟩
end Go.Proofs.YtbjpbeplpljieaaDoor

/-
 THE PROGRAM'S OWN Cbd.
-/
namespace Go.Proofs.YtbjpbeplpljieaaDoor
open Go.RowKit
set_option maxRecDepth 100000
/-- the small coefficient of a number of 2 e bits -/
def cbdX (e x : Nat) : Nat := (popN x e + 3329 - popN (x / 2 ^ e) e) % 3329
def cbdF (e V i : Nat) : Nat := cbdX e (decN (2 * e) V i)
theorem cbdX_lt (e x : Nat) : cbdX e x < 3329 := Nat.mod_lt _ (by decide)
theorem shr_16 {a : Act} {x y : Operand} {op : Oper} {w : World} {n d k : Nat} (h : k = n / 2 ^ d) (hd : d ≤ 15) (hn : n < 65536) (ho : op.op = .binOp .shr 39 x y 3) (hx : a.eval x = .int .u16 (n : Int)) (hy : a.eval y = .int .i64 (d : Int)) : (execOp a.eval op).run Tryd.prog w = .ok (.value (.int .u16 (k : Int))) w := by
 have h1 : ¬ (d : Int) < 0 := by omega
 have h2 : (d : Int).toNat = d := by omega
 have hk : k ≤ n := by rw [h]; exact Nat.div_le_self _ _
 have he : (n : Int) / 2 ^ d = (k : Int) := by rw [h, Int.natCast_ediv, Int.natCast_pow]; rfl
 have hw : IntKind.u16.wrap (k : Int) = (k : Int) := by rw [IntKind.wrap_u16]; omega
 have hm : (k : Int) % 65536 = (k : Int) := by omega
 have h3 : d < 16 := by omega
 clear h
 unfold execOp
 simp only [ho, hx, hy]
 go_simp
theorem cbd_parts (e x : Nat) (he : e = 2 ∨ e = 3) (hx : x < 2 ^ (2 * e)) : popN (x % 2 ^ e) 8 = popN x e ∧ popN (x / 2 ^ e) 8 = popN (x / 2 ^ e) e ∧ popN x e ≤ 3 ∧ popN (x / 2 ^ e) e ≤ 3 := by
 have h := List.all_eq_true.1 (List.all_eq_true.1 pop_low e (by rcases he with rfl | rfl <;> decide)) x (List.mem_range.2 hx)
 simpa only [decide_eq_true_eq] using h
set_option maxHeartbeats 2000000 in
theorem Cbd_2 (B : Nat) (v : Value) (bs : List UInt8) (hl : bs.length = 128) (w : World) (hs : Sl w B v bs) (hB : B ≤ w.heap.size) : Calls Tryd.prog 75 #[.int .i64 2, v] w (CodeIs w (cbdF 2 (litN bs)) 0) := by
 unfold CodeIs polyV
 generalize hN : w.heap.size = N at *
 have i3 : (bs.length : Int) ≤ 128 := by omega
 have i4 : (128 : Int) ≤ (bs.length : Int) := by omega
 have HS0 : Shh (Sl (w.alloc (.cells (pc fun _ => 0).toArray 62)) B v bs ∧ Row (w.alloc (.cells (pc fun _ => 0).toArray 62)) N 62 (pc fun _ => 0) ∧ Below N w (w.alloc (.cells (pc fun _ => 0).toArray 62)) ∧ B ≤ (w.alloc (.cells (pc fun _ => 0).toArray 62)).heap.size) := by
  refine ⟨hs.below ((bel1 _ _).mono (by omega)), Row.new_ hN.symm rfl, ?_, by rw [asz]; omega⟩
  rw [← hN]
  exact bel1 _ _
 obtain ⟨q, hq⟩ : ∃ q : Nat → Nat, Shh (q = decN 4 (litN bs)) := ⟨_, ⟨rfl⟩⟩
 have HU : Shh (Calls Tryd.prog 88 #[.int .i64 4, v] (w.alloc (.cells (pc fun _ => 0).toArray 62)) (PolyIs (w.alloc (.cells (pc fun _ => 0).toArray 62)) q)) := ⟨by rw [hq.out]; exact unpacked_any 4 ⟨by decide, by decide⟩ B v bs (by omega) _ HS0.out.1 HS0.out.2.2.2⟩
 have HX0 : Shh (∀ k, cbdF 2 (litN bs) k = cbdX 2 (q k) ∧ q k < 16) := ⟨fun k => by rw [hq.out]; exact ⟨rfl, decN_lt 4 _ k⟩⟩
 obtain ⟨A, c, rfl, _, _⟩ := hs.form
 generalize cbdF 2 (litN bs) = r at *
 clear hq hs hl
 generalize bs.length = ln at *
 go_enter Tryd.func75, Tryd.ntmps75
 go_wp2_with (first | refine wl_allocP rfl rfl ?_ | (go_at_call 88; refine (HU.out).mono ?_))
 rintro e w2 ⟨rfl, b2⟩
 have HI : Shh (Row w2 N 62 (pc fun _ => 0) ∧ Below N w w2) := ⟨HS0.out.2.1.go b2, HS0.out.2.2.1.trans (b2.mono (by have := HS0.out.2.1.lt; omega))⟩
 clear b2 HS0 HU
 go_wp2_with (refine wl_newP 6 q rfl rfl rfl rfl rfl rfl rfl rfl ?_)
 intro G w3 hG r3 b3
 simp only [Act.put, arr9, hd9, tl9]
 have HJ : Shh (Row w3 N 62 (pc fun _ => 0) ∧ Row w3 G 62 (pc (half r q 0)) ∧ Below N w w3 ∧ N < G) := ⟨HI.out.1.go b3, by rw [half_zero]; exact r3, HI.out.2.trans (b3.mono (Nat.le_of_lt HI.out.1.lt)), by rw [hG.out]; exact HI.out.1.lt⟩
 have HJQ := Shh.mk r3
 clear r3 b3 HI hG
 go_wp2_with (refine wpList_load_any rfl 62 (.tmp 6) rfl G rfl 62 (pc q) (.array 256 39) HJQ.out Tryd.underlying62 rfl (info_poly.trans (size_poly q)) ?_)
 clear HJQ
 go_loopw [28] (fun i wr => ∃ k : Nat, k ≤ 256 ∧ i = .int .i64 (k : Int) ∧ Shh (Row wr N 62 (pc fun _ => 0) ∧ Row wr G 62 (pc (half r q k)) ∧ Below N w wr ∧ N < G)) (fun i _ => 256 - (intOf i).toNat)
 case atStart => exact ⟨0, Nat.zero_le _, rfl, HJ⟩
 case round =>
  clear HJ
  obtain ⟨k, hk, rfl, HI⟩ := hrel
  by_cases hlt : k < 256
  ·have hlt2 : (k : Int) < 256 := by omega
   obtain ⟨h1, h2⟩ := HX0.out k
   have HN2 := Shh.mk (half_next r q k)
   have HG := Shh.mk (pc_get q hlt)
   generalize q k = x at *
   generalize r k = rk at *
   obtain ⟨p1, p2, p3, p4⟩ := cbd_parts 2 x (by decide) h2
   obtain ⟨a, Ha⟩ : ∃ a, Shh (a = x % 2 ^ 2) := ⟨_, ⟨rfl⟩⟩
   obtain ⟨b, Hb⟩ : ∃ b, Shh (b = x / 2 ^ 2) := ⟨_, ⟨rfl⟩⟩
   obtain ⟨pa, Hpa⟩ : ∃ p, Shh (p = popN x 2) := ⟨_, ⟨rfl⟩⟩
   obtain ⟨pb, Hpb⟩ : ∃ p, Shh (p = popN (x / 2 ^ 2) 2) := ⟨_, ⟨rfl⟩⟩
   have hal : a < 256 := by have := Ha.out; omega
   have hbl : b < 256 := by have := Hb.out; omega
   rw [← Hpa.out] at p1 p3
   rw [← Hpb.out] at p2 p4
   unfold cbdX at h1
   rw [← Hpa.out, ← Hpb.out] at h1
   have C1 : Shh (∀ W, Calls Tryd.prog 90 #[.int .i64 2, .int .u16 (x : Int)] W (U16Is W a)) := ⟨fun W => by rw [Ha.out]; exact low_any 2 x (by decide) (by omega) W⟩
   have C2 : Shh (∀ W, Calls Tryd.prog 89 #[.int .u16 (a : Int)] W (NumBel W .u16 pa)) := ⟨fun W => by rw [← p1, ← Ha.out]; exact ones_any a hal W⟩
   have C3 : Shh (∀ W, Calls Tryd.prog 89 #[.int .u16 (b : Int)] W (NumBel W .u16 pb)) := ⟨fun W => by rw [← p2, ← Hb.out]; exact ones_any b hbl W⟩
   have C4 : Shh (∀ W, Calls Tryd.prog 79 #[.int .u16 (pa : Int), .int .u16 (pb : Int)] W (U16Is W rk)) := ⟨fun W => by rw [h1]; exact difference_any pa pb ⟨by omega, by omega⟩ W⟩
   have HV : Shh (x < 65536 ∧ b = x / 2 ^ 2) := ⟨by omega, Hb.out⟩
   clear h1 h2 p1 p2 p3 p4 hal hbl Ha Hb Hpa Hpb
   go_wp2_with (refine wl_at 31 rfl (.int .u16 (x : Int)) rfl (idx_poly hlt HG.out rfl rfl rfl) ?_)
   refine wp_region_held_drew (S := fun _ => True) (by kernel_rfl) trivial (fun hS => ?_)
   clear hS
   obtain ⟨U, hU⟩ : ∃ V, V = World.drew wr := ⟨_, rfl⟩
   rw [← hU]
   have q0 : Row U N 62 (pc fun _ => 0) := by rw [hU]; exact HI.out.1.drew
   have q1 : Row U G 62 (pc (half r q k)) := by rw [hU]; exact HI.out.2.1.drew
   have bN : Below N w U := by rw [hU]; exact HI.out.2.2.1.drew
   have hNG := HI.out.2.2.2
   clear HI hU
   refine hdv0 0 32 (.int .i64 (k : Int)) (by rfl) (trivial) ?_
   refine hdv0 1 33 (.int .i64 2) (by rfl) (trivial) ?_
   refine hdv0 2 34 (.int .u16 (x : Int)) (by rfl) (trivial) ?_
   refine hdv0 5 37 (.int .u16 (x : Int)) (by rfl) (trivial) ?_
   refine hdv0 6 38 (.int .i64 2) (by rfl) (trivial) ?_
   refine hdv 7 39 (.int .u16 (b : Int)) (by rfl) (fun w hS => shr_16 (n := x) (d := 2) HV.out.2 (by decide) HV.out.1 rfl (by kernel_rfl) (by kernel_rfl)) (trivial) ?_
   refine held_one 3 (by kernel_rfl) ?_
   refine step_call 3 _ _ (some 35) 90 #[.int .i64 2, .int .u16 (x : Int)] (by rfl) (by kernel_rfl) (by first | kernel_rfl | go_simp) ?_
   refine (C1.out U).mono ?_
   rintro e Y1 ⟨rfl, hq⟩
   obtain rfl : U = Y1 := hq
   refine ⟨_, rfl, trivial, ?_⟩
   simp only [Act.put, arr9, hd9, tl9]
   refine held_one 4 (by kernel_rfl) ?_
   refine step_call 4 _ _ (some 36) 89 #[.int .u16 (a : Int)] (by rfl) (by kernel_rfl) (by first | kernel_rfl | go_simp) ?_
   refine (C2.out U).mono ?_
   rintro e Y2 ⟨rfl, b1⟩
   have bx : Below U.heap.size U Y2 := b1
   clear b1
   have b_U := bx
   have m_Y2 : U.heap.size ≤ Y2.heap.size := bx.size
   clear bx
   refine ⟨_, rfl, trivial, ?_⟩
   simp only [Act.put, arr9, hd9, tl9]
   refine held_one 8 (by kernel_rfl) ?_
   refine step_call 8 _ _ (some 40) 89 #[.int .u16 (b : Int)] (by rfl) (by kernel_rfl) (by first | kernel_rfl | go_simp) ?_
   refine (C3.out Y2).mono ?_
   rintro e Y3 ⟨rfl, b1⟩
   have bx : Below Y2.heap.size Y2 Y3 := b1
   clear b1
   replace b_U := Below.chain b_U bx
   have b_Y2 := bx
   have m_Y3 : Y2.heap.size ≤ Y3.heap.size := bx.size
   clear bx
   refine ⟨_, rfl, trivial, ?_⟩
   simp only [Act.put, arr9, hd9, tl9]
   refine held_one 9 (by kernel_rfl) ?_
   refine step_call 9 _ _ (some 41) 79 #[.int .u16 (pa : Int), .int .u16 (pb : Int)] (by rfl) (by kernel_rfl) (by first | kernel_rfl | go_simp) ?_
   refine (C4.out Y3).mono ?_
   rintro e Y4 ⟨rfl, hq⟩
   obtain rfl : Y3 = Y4 := hq
   refine ⟨_, rfl, trivial, ?_⟩
   simp only [Act.put, arr9, hd9, tl9]
   refine hdv 10 42 (.pointer (some ⟨G, k, none⟩)) (by rfl) (fun w hS => at_poly hlt rfl (by kernel_rfl) (by kernel_rfl)) (trivial) ?_
   refine held_one 11 (by kernel_rfl) ?_
   refine step_storeP 11 (v := rk) (by rfl) (by kernel_rfl) hlt (q1.go b_U) (by kernel_rfl) (by kernel_rfl) ?_
   intro Y5 r6 b6 z6
   rw [HN2.out] at r6
   have HB : Shh (Row Y5 N 62 (pc fun _ => 0) ∧ Row Y5 G 62 (pc (half r q (k + 1))) ∧ Below N w Y5 ∧ N < G) := ⟨b6.row (q0.go b_U) ((q0.go b_U)).lt (by omega), r6, (bN.trans (b_U.mono (Nat.le_of_lt q0.lt))).trans (b6.under (Nat.le_of_lt ((q0.go b_U)).lt) (by omega)), hNG⟩
   refine ⟨trivial, ?_⟩
   refine wpAnyH_done (by kernel_rfl) ?_ _
   have HZ := HB
   clear HB b6 r6 m_Y3 b_Y2 m_Y2 b_U bN q0 q1 hNG
   go_wp2
   go_roundw
   case rel => exact ⟨k + 1, by omega, by go_num, HZ⟩
   case measure => simp [intOf]; omega
  ·have HL : Shh (pc (half r q k) = pc r) := ⟨by rw [show k = 256 by omega]; exact half_all _ _⟩
   rw [HL.out] at HI
   have hlt2 : ¬ (k : Int) < 256 := by omega
   clear HL HX0
   go_wp2_with (first
    | refine wpList_load_any rfl 62 (.tmp 6) rfl G rfl 62 (pc r) (.array 256 39) HI.out.2.1 Tryd.underlying62 rfl (info_poly.trans (size_poly r)) ?_
    | refine wpList_store_any rfl 62 (.tmp 4) (.tmp 44) rfl N rfl (pc r) rfl 62 _ HI.out.1 (info_poly.trans (size_poly r)) (by rw [pc_length, pc_length]) (pc_one r) ?_)
   intro w9 hr9 b9 _
   have hb9 := HI.out.2.2.1.trans (b9.under (Nat.le_of_lt HI.out.1.lt) (Nat.le_refl _))
   go_wp2
   exact ret_rs7 Tryd.results75 rfl rfl rfl hr9 Tryd.underlying62 rfl (info_poly.trans (size_poly r)) ⟨rfl, hb9⟩
set_option maxHeartbeats 2000000 in
theorem Cbd_3 (B : Nat) (v : Value) (bs : List UInt8) (hl : bs.length = 192) (w : World) (hs : Sl w B v bs) (hB : B ≤ w.heap.size) : Calls Tryd.prog 75 #[.int .i64 3, v] w (CodeIs w (cbdF 3 (litN bs)) 0) := by
 unfold CodeIs polyV
 generalize hN : w.heap.size = N at *
 have i3 : (bs.length : Int) ≤ 192 := by omega
 have i4 : (192 : Int) ≤ (bs.length : Int) := by omega
 have HS0 : Shh (Sl (w.alloc (.cells (pc fun _ => 0).toArray 62)) B v bs ∧ Row (w.alloc (.cells (pc fun _ => 0).toArray 62)) N 62 (pc fun _ => 0) ∧ Below N w (w.alloc (.cells (pc fun _ => 0).toArray 62)) ∧ B ≤ (w.alloc (.cells (pc fun _ => 0).toArray 62)).heap.size) := by
  refine ⟨hs.below ((bel1 _ _).mono (by omega)), Row.new_ hN.symm rfl, ?_, by rw [asz]; omega⟩
  rw [← hN]
  exact bel1 _ _
 obtain ⟨q, hq⟩ : ∃ q : Nat → Nat, Shh (q = decN 6 (litN bs)) := ⟨_, ⟨rfl⟩⟩
 have HU : Shh (Calls Tryd.prog 88 #[.int .i64 6, v] (w.alloc (.cells (pc fun _ => 0).toArray 62)) (PolyIs (w.alloc (.cells (pc fun _ => 0).toArray 62)) q)) := ⟨by rw [hq.out]; exact unpacked_any 6 ⟨by decide, by decide⟩ B v bs (by omega) _ HS0.out.1 HS0.out.2.2.2⟩
 have HX0 : Shh (∀ k, cbdF 3 (litN bs) k = cbdX 3 (q k) ∧ q k < 64) := ⟨fun k => by rw [hq.out]; exact ⟨rfl, decN_lt 6 _ k⟩⟩
 obtain ⟨A, c, rfl, _, _⟩ := hs.form
 generalize cbdF 3 (litN bs) = r at *
 clear hq hs hl
 generalize bs.length = ln at *
 go_enter Tryd.func75, Tryd.ntmps75
 go_wp2_with (first | refine wl_allocP rfl rfl ?_ | (go_at_call 88; refine (HU.out).mono ?_))
 rintro e w2 ⟨rfl, b2⟩
 have HI : Shh (Row w2 N 62 (pc fun _ => 0) ∧ Below N w w2) := ⟨HS0.out.2.1.go b2, HS0.out.2.2.1.trans (b2.mono (by have := HS0.out.2.1.lt; omega))⟩
 clear b2 HS0 HU
 go_wp2_with (refine wl_newP 6 q rfl rfl rfl rfl rfl rfl rfl rfl ?_)
 intro G w3 hG r3 b3
 simp only [Act.put, arr9, hd9, tl9]
 have HJ : Shh (Row w3 N 62 (pc fun _ => 0) ∧ Row w3 G 62 (pc (half r q 0)) ∧ Below N w w3 ∧ N < G) := ⟨HI.out.1.go b3, by rw [half_zero]; exact r3, HI.out.2.trans (b3.mono (Nat.le_of_lt HI.out.1.lt)), by rw [hG.out]; exact HI.out.1.lt⟩
 have HJQ := Shh.mk r3
 clear r3 b3 HI hG
 go_wp2_with (refine wpList_load_any rfl 62 (.tmp 6) rfl G rfl 62 (pc q) (.array 256 39) HJQ.out Tryd.underlying62 rfl (info_poly.trans (size_poly q)) ?_)
 clear HJQ
 go_loopw [28] (fun i wr => ∃ k : Nat, k ≤ 256 ∧ i = .int .i64 (k : Int) ∧ Shh (Row wr N 62 (pc fun _ => 0) ∧ Row wr G 62 (pc (half r q k)) ∧ Below N w wr ∧ N < G)) (fun i _ => 256 - (intOf i).toNat)
 case atStart => exact ⟨0, Nat.zero_le _, rfl, HJ⟩
 case round =>
  clear HJ
  obtain ⟨k, hk, rfl, HI⟩ := hrel
  by_cases hlt : k < 256
  ·have hlt2 : (k : Int) < 256 := by omega
   obtain ⟨h1, h2⟩ := HX0.out k
   have HN2 := Shh.mk (half_next r q k)
   have HG := Shh.mk (pc_get q hlt)
   generalize q k = x at *
   generalize r k = rk at *
   obtain ⟨p1, p2, p3, p4⟩ := cbd_parts 3 x (by decide) h2
   obtain ⟨a, Ha⟩ : ∃ a, Shh (a = x % 2 ^ 3) := ⟨_, ⟨rfl⟩⟩
   obtain ⟨b, Hb⟩ : ∃ b, Shh (b = x / 2 ^ 3) := ⟨_, ⟨rfl⟩⟩
   obtain ⟨pa, Hpa⟩ : ∃ p, Shh (p = popN x 3) := ⟨_, ⟨rfl⟩⟩
   obtain ⟨pb, Hpb⟩ : ∃ p, Shh (p = popN (x / 2 ^ 3) 3) := ⟨_, ⟨rfl⟩⟩
   have hal : a < 256 := by have := Ha.out; omega
   have hbl : b < 256 := by have := Hb.out; omega
   rw [← Hpa.out] at p1 p3
   rw [← Hpb.out] at p2 p4
   unfold cbdX at h1
   rw [← Hpa.out, ← Hpb.out] at h1
   have C1 : Shh (∀ W, Calls Tryd.prog 90 #[.int .i64 3, .int .u16 (x : Int)] W (U16Is W a)) := ⟨fun W => by rw [Ha.out]; exact low_any 3 x (by decide) (by omega) W⟩
   have C2 : Shh (∀ W, Calls Tryd.prog 89 #[.int .u16 (a : Int)] W (NumBel W .u16 pa)) := ⟨fun W => by rw [← p1, ← Ha.out]; exact ones_any a hal W⟩
   have C3 : Shh (∀ W, Calls Tryd.prog 89 #[.int .u16 (b : Int)] W (NumBel W .u16 pb)) := ⟨fun W => by rw [← p2, ← Hb.out]; exact ones_any b hbl W⟩
   have C4 : Shh (∀ W, Calls Tryd.prog 79 #[.int .u16 (pa : Int), .int .u16 (pb : Int)] W (U16Is W rk)) := ⟨fun W => by rw [h1]; exact difference_any pa pb ⟨by omega, by omega⟩ W⟩
   have HV : Shh (x < 65536 ∧ b = x / 2 ^ 3) := ⟨by omega, Hb.out⟩
   clear h1 h2 p1 p2 p3 p4 hal hbl Ha Hb Hpa Hpb
   go_wp2_with (refine wl_at 31 rfl (.int .u16 (x : Int)) rfl (idx_poly hlt HG.out rfl rfl rfl) ?_)
   refine wp_region_held_drew (S := fun _ => True) (by kernel_rfl) trivial (fun hS => ?_)
   clear hS
   obtain ⟨U, hU⟩ : ∃ V, V = World.drew wr := ⟨_, rfl⟩
   rw [← hU]
   have q0 : Row U N 62 (pc fun _ => 0) := by rw [hU]; exact HI.out.1.drew
   have q1 : Row U G 62 (pc (half r q k)) := by rw [hU]; exact HI.out.2.1.drew
   have bN : Below N w U := by rw [hU]; exact HI.out.2.2.1.drew
   have hNG := HI.out.2.2.2
   clear HI hU
   refine hdv0 0 32 (.int .i64 (k : Int)) (by rfl) (trivial) ?_
   refine hdv0 1 33 (.int .i64 3) (by rfl) (trivial) ?_
   refine hdv0 2 34 (.int .u16 (x : Int)) (by rfl) (trivial) ?_
   refine hdv0 5 37 (.int .u16 (x : Int)) (by rfl) (trivial) ?_
   refine hdv0 6 38 (.int .i64 3) (by rfl) (trivial) ?_
   refine hdv 7 39 (.int .u16 (b : Int)) (by rfl) (fun w hS => shr_16 (n := x) (d := 3) HV.out.2 (by decide) HV.out.1 rfl (by kernel_rfl) (by kernel_rfl)) (trivial) ?_
   refine held_one 3 (by kernel_rfl) ?_
   refine step_call 3 _ _ (some 35) 90 #[.int .i64 3, .int .u16 (x : Int)] (by rfl) (by kernel_rfl) (by first | kernel_rfl | go_simp) ?_
   refine (C1.out U).mono ?_
   rintro e Y1 ⟨rfl, hq⟩
   obtain rfl : U = Y1 := hq
   refine ⟨_, rfl, trivial, ?_⟩
   simp only [Act.put, arr9, hd9, tl9]
   refine held_one 4 (by kernel_rfl) ?_
   refine step_call 4 _ _ (some 36) 89 #[.int .u16 (a : Int)] (by rfl) (by kernel_rfl) (by first | kernel_rfl | go_simp) ?_
   refine (C2.out U).mono ?_
   rintro e Y2 ⟨rfl, b1⟩
   have bx : Below U.heap.size U Y2 := b1
   clear b1
   have b_U := bx
   have m_Y2 : U.heap.size ≤ Y2.heap.size := bx.size
   clear bx
   refine ⟨_, rfl, trivial, ?_⟩
   simp only [Act.put, arr9, hd9, tl9]
   refine held_one 8 (by kernel_rfl) ?_
   refine step_call 8 _ _ (some 40) 89 #[.int .u16 (b : Int)] (by rfl) (by kernel_rfl) (by first | kernel_rfl | go_simp) ?_
   refine (C3.out Y2).mono ?_
   rintro e Y3 ⟨rfl, b1⟩
   have bx : Below Y2.heap.size Y2 Y3 := b1
   clear b1
   replace b_U := Below.chain b_U bx
   have b_Y2 := bx
   have m_Y3 : Y2.heap.size ≤ Y3.heap.size := bx.size
   clear bx
   refine ⟨_, rfl, trivial, ?_⟩
   simp only [Act.put, arr9, hd9, tl9]
   refine held_one 9 (by kernel_rfl) ?_
   refine step_call 9 _ _ (some 41) 79 #[.int .u16 (pa : Int), .int .u16 (pb : Int)] (by rfl) (by kernel_rfl) (by first | kernel_rfl | go_simp) ?_
   refine (C4.out Y3).mono ?_
   rintro e Y4 ⟨rfl, hq⟩
   obtain rfl : Y3 = Y4 := hq
   refine ⟨_, rfl, trivial, ?_⟩
   simp only [Act.put, arr9, hd9, tl9]
   refine hdv 10 42 (.pointer (some ⟨G, k, none⟩)) (by rfl) (fun w hS => at_poly hlt rfl (by kernel_rfl) (by kernel_rfl)) (trivial) ?_
   refine held_one 11 (by kernel_rfl) ?_
   refine step_storeP 11 (v := rk) (by rfl) (by kernel_rfl) hlt (q1.go b_U) (by kernel_rfl) (by kernel_rfl) ?_
   intro Y5 r6 b6 z6
   rw [HN2.out] at r6
   have HB : Shh (Row Y5 N 62 (pc fun _ => 0) ∧ Row Y5 G 62 (pc (half r q (k + 1))) ∧ Below N w Y5 ∧ N < G) := ⟨b6.row (q0.go b_U) ((q0.go b_U)).lt (by omega), r6, (bN.trans (b_U.mono (Nat.le_of_lt q0.lt))).trans (b6.under (Nat.le_of_lt ((q0.go b_U)).lt) (by omega)), hNG⟩
   refine ⟨trivial, ?_⟩
   refine wpAnyH_done (by kernel_rfl) ?_ _
   have HZ := HB
   clear HB b6 r6 m_Y3 b_Y2 m_Y2 b_U bN q0 q1 hNG
   go_wp2
   go_roundw
   case rel => exact ⟨k + 1, by omega, by go_num, HZ⟩
   case measure => simp [intOf]; omega
  ·have HL : Shh (pc (half r q k) = pc r) := ⟨by rw [show k = 256 by omega]; exact half_all _ _⟩
   rw [HL.out] at HI
   have hlt2 : ¬ (k : Int) < 256 := by omega
   clear HL HX0
   go_wp2_with (first
    | refine wpList_load_any rfl 62 (.tmp 6) rfl G rfl 62 (pc r) (.array 256 39) HI.out.2.1 Tryd.underlying62 rfl (info_poly.trans (size_poly r)) ?_
    | refine wpList_store_any rfl 62 (.tmp 4) (.tmp 44) rfl N rfl (pc r) rfl 62 _ HI.out.1 (info_poly.trans (size_poly r)) (by rw [pc_length, pc_length]) (pc_one r) ?_)
   intro w9 hr9 b9 _
   have hb9 := HI.out.2.2.1.trans (b9.under (Nat.le_of_lt HI.out.1.lt) (Nat.le_refl _))
   go_wp2
   exact ret_rs7 Tryd.results75 rfl rfl rfl hr9 Tryd.underlying62 rfl (info_poly.trans (size_poly r)) ⟨rfl, hb9⟩
set_option maxHeartbeats 1000000 in
theorem Cbd_bad (n : Int) (B : Nat) (v : Value) (bs : List UInt8) (hn : ¬ n = 2 ∧ ¬ n = 3 ∨ n = 2 ∧ ¬ (bs.length : Int) = 128 ∨ n = 3 ∧ ¬ (bs.length : Int) = 192) (w : World) (hs : Sl w B v bs) : Calls Tryd.prog 75 #[.int .i64 n, v] w (CodeIs w (fun _ => 0) 1) := by
 unfold CodeIs polyV
 obtain ⟨A, c, rfl, _, _⟩ := hs.form
 generalize hN : w.heap.size = N at *
 generalize bs.length = ln at *
 clear hs
 have HL1 : Shh (Row (w.alloc (.cells (pc fun _ => 0).toArray 62)) N 62 (pc fun _ => 0) ∧ Below N w (w.alloc (.cells (pc fun _ => 0).toArray 62))) := by
  refine ⟨Row.new_ hN.symm rfl, ?_⟩
  rw [← hN]
  exact bel1 _ _
 go_enter Tryd.func75, Tryd.ntmps75
 by_cases h1 : n = 2
 ·subst h1
  have h3 : ¬ (ln : Int) = 128 := by omega
  clear hn
  go_wp2_with (first | refine wl_allocP rfl rfl ?_ | refine wl_at 22 rfl (.agg (pc fun _ => 0).toArray) rfl (build_poly rfl) ?_ | refine wpList_store_any rfl 62 (.tmp 4) (.tmp 22) rfl N rfl (pc fun _ => 0) rfl 62 _ HL1.out.1 (info_poly.trans (size_poly _)) rfl (pc_one _) ?_)
  intro w9 hr9 b9 _
  have hb9 := HL1.out.2.trans (b9.under (by omega) (by omega))
  go_wp2
  exact ret_rs7 Tryd.results75 rfl rfl rfl hr9 Tryd.underlying62 rfl (info_poly.trans (size_poly _)) ⟨rfl, hb9⟩
 by_cases h2 : n = 3
 ·subst h2
  have h3 : ¬ (ln : Int) = 192 := by omega
  clear hn
  go_wp2_with (first | refine wl_allocP rfl rfl ?_ | refine wl_at 22 rfl (.agg (pc fun _ => 0).toArray) rfl (build_poly rfl) ?_ | refine wpList_store_any rfl 62 (.tmp 4) (.tmp 22) rfl N rfl (pc fun _ => 0) rfl 62 _ HL1.out.1 (info_poly.trans (size_poly _)) rfl (pc_one _) ?_)
  intro w9 hr9 b9 _
  have hb9 := HL1.out.2.trans (b9.under (by omega) (by omega))
  go_wp2
  exact ret_rs7 Tryd.results75 rfl rfl rfl hr9 Tryd.underlying62 rfl (info_poly.trans (size_poly _)) ⟨rfl, hb9⟩
 ·clear hn
  go_wp2_with (first | refine wl_allocP rfl rfl ?_ | refine wl_at 22 rfl (.agg (pc fun _ => 0).toArray) rfl (build_poly rfl) ?_ | refine wpList_store_any rfl 62 (.tmp 4) (.tmp 22) rfl N rfl (pc fun _ => 0) rfl 62 _ HL1.out.1 (info_poly.trans (size_poly _)) rfl (pc_one _) ?_)
  intro w9 hr9 b9 _
  have hb9 := HL1.out.2.trans (b9.under (by omega) (by omega))
  go_wp2
  exact ret_rs7 Tryd.results75 rfl rfl rfl hr9 Tryd.underlying62 rfl (info_poly.trans (size_poly _)) ⟨rfl, hb9⟩
end Go.Proofs.YtbjpbeplpljieaaDoor

/-
 A POLYNOMIAL OUT OF A STREAM OF BYTES: the first 256 numbers below 3329 of 2048.
-/
namespace Go.Proofs.YtbjpbeplpljieaaDoor
open Go.RowKit
set_option maxRecDepth 100000
/-- what one more number leaves of those that were taken -/
def stepS (L : List Nat) (x : Nat) : List Nat := if x < 3329 ∧ L.length < 256 then L ++ [x] else L
/-- what is taken of the first k numbers -/
def acc (xs : Nat → Nat) : Nat → List Nat
 | 0 => []
 | k + 1 => stepS (acc xs k) (xs k)
def lF (L : List Nat) (i : Nat) : Nat := L.getD i 0
theorem acc_len (xs : Nat → Nat) : ∀ k, (acc xs k).length ≤ 256
 | 0 => by simp [acc]
 | k + 1 => by
  have h := acc_len xs k
  show (stepS (acc xs k) (xs k)).length ≤ 256
  unfold stepS
  split
  ·simp only [List.length_append, List.length_cons, List.length_nil]; omega
  ·exact h
theorem acc_stay (xs : Nat → Nat) (k : Nat) (h : (acc xs k).length = 256) : ∀ j, acc xs (k + j) = acc xs k
 | 0 => rfl
 | j + 1 => by
  show stepS (acc xs (k + j)) (xs (k + j)) = acc xs k
  rw [acc_stay xs k h j]
  unfold stepS
  rw [if_neg (by omega)]
theorem lF_push (L : List Nat) (x : Nat) : upd (lF L) L.length x = lF (L ++ [x]) := by
 funext i
 unfold upd lF
 simp only [List.getD_eq_getElem?_getD]
 by_cases h : i = L.length
 ·subst h; simp
 ·rw [if_neg h]
  by_cases h2 : i < L.length
  ·rw [List.getElem?_append_left h2]
  ·rw [List.getElem?_eq_none (by omega), List.getElem?_eq_none (by simp only [List.length_append, List.length_cons, List.length_nil]; omega)]
/-- n of the first k numbers are taken; f holds them -/
def StA (xs : Nat → Nat) (k n : Nat) (f : Nat → Nat) : Prop := (acc xs k).length = n ∧ f = lF (acc xs k)
section
variable {xs : Nat → Nat} {k n : Nat} {f : Nat → Nat}
theorem StA.start (xs : Nat → Nat) : StA xs 0 0 (fun _ => 0) := ⟨rfl, rfl⟩
theorem StA.skip (h : StA xs k n f) (hx : ¬ xs k < 3329) : StA xs (k + 1) n f := by
 obtain ⟨h1, h2⟩ := h
 have hs : acc xs (k + 1) = acc xs k := by
  show stepS _ _ = _
  unfold stepS
  rw [if_neg (by omega)]
 exact ⟨by rw [hs]; exact h1, by rw [hs]; exact h2⟩
theorem StA.take (h : StA xs k n f) (hx : xs k < 3329) (hn : n < 256) : StA xs (k + 1) (n + 1) (upd f n (xs k)) := by
 obtain ⟨h1, h2⟩ := h
 have hs : acc xs (k + 1) = acc xs k ++ [xs k] := by
  show stepS _ _ = _
  unfold stepS
  rw [if_pos ⟨hx, by omega⟩]
 refine ⟨by rw [hs]; simp [h1], ?_⟩
 rw [hs, ← lF_push, h1, h2]
theorem StA.stay (h : StA xs k 256 f) : StA xs (k + 1) 256 f := by
 obtain ⟨h1, h2⟩ := h
 have hs := acc_stay xs k h1 1
 exact ⟨by rw [hs]; exact h1, by rw [hs]; exact h2⟩
theorem StA.full (h : StA xs k 256 f) (hk : k ≤ 2048) : StA xs 2048 256 f := by
 obtain ⟨h1, h2⟩ := h
 have hs := acc_stay xs k h1 (2048 - k)
 rw [show k + (2048 - k) = 2048 by omega] at hs
 exact ⟨by rw [hs]; exact h1, by rw [hs]; exact h2⟩
theorem StA.le (h : StA xs k n f) : n ≤ 256 := by rw [← h.1]; exact acc_len xs k
end
def smpE (xs : Nat → Nat) : Int := if (acc xs 2048).length < 256 then 130 else 0
def smpF (xs : Nat → Nat) : Nat → Nat := if (acc xs 2048).length < 256 then fun _ => 0 else lF (acc xs 2048)
section
variable {xs : Nat → Nat} {n : Nat} {f : Nat → Nat}
theorem StA.short (h : StA xs 2048 n f) (hn : n < 256) : smpE xs = 130 ∧ smpF xs = fun _ => 0 := by
 obtain ⟨h1, h2⟩ := h
 exact ⟨if_pos (by omega), if_pos (by omega)⟩
theorem StA.whole (h : StA xs 2048 256 f) : smpE xs = 0 ∧ smpF xs = f := by
 obtain ⟨h1, h2⟩ := h
 exact ⟨if_neg (by omega), by rw [h2]; exact if_neg (by omega)⟩
end
/-- the numbers of groups of three bytes -/
def grp (b : Nat → Nat) (i : Nat) : Nat := if i % 2 = 0 then b (3 * (i / 2)) + 256 * (b (3 * (i / 2) + 1) % 16) else b (3 * (i / 2) + 1) / 16 + 16 * b (3 * (i / 2) + 2)
theorem grp_one (b : Nat → Nat) (t : Nat) : grp b (2 * t) = b (3 * t) + 256 * (b (3 * t + 1) % 16) := by
 unfold grp
 rw [if_pos (by omega), show 2 * t / 2 = t by omega]
theorem grp_two (b : Nat → Nat) (t : Nat) : grp b (2 * t + 1) = b (3 * t + 1) / 16 + 16 * b (3 * t + 2) := by
 unfold grp
 rw [if_neg (by omega), show (2 * t + 1) / 2 = t by omega]
def nb (l : List UInt8) (i : Nat) : Nat := (l.getD i 0).toNat
theorem nb_lt (l : List UInt8) (i : Nat) : nb l i < 256 := UInt8.toNat_lt _
theorem nb_get (l : List UInt8) {i : Nat} (h : i < l.length) : nb l i = l[i].toNat := by
 unfold nb
 rw [List.getD_eq_getElem?_getD, List.getElem?_eq_getElem h]
 rfl
theorem outs_take13 (rate : Nat) : ∀ (n N : Nat), n ≤ N → ∀ s : Sp, (s.outs rate N).take n = s.outs rate n
 | 0, _, _, _ => rfl
 | n + 1, 0, h, _ => absurd h (by omega)
 | n + 1, N + 1, h, s => congrArg (byteL (s.next rate).l ((s.next rate).at_ - 1) :: ·) (outs_take13 rate n N (by omega) (s.next rate))
theorem outs_add13 (rate : Nat) : ∀ (n m : Nat) (s : Sp), s.outs rate (n + m) = s.outs rate n ++ (s.behind rate n).outs rate m
 | 0, m, s => by rw [Nat.zero_add]; rfl
 | n + 1, m, s => by
  rw [show n + 1 + m = (n + m) + 1 by omega]
  exact congrArg (byteL (s.next rate).l ((s.next rate).at_ - 1) :: ·) (outs_add13 rate n m (s.next rate))
theorem behind_add13 (rate : Nat) : ∀ (n m : Nat) (s : Sp), s.behind rate (n + m) = (s.behind rate n).behind rate m
 | 0, m, s => by rw [Nat.zero_add]; rfl
 | n + 1, m, s => by
  rw [show n + 1 + m = (n + m) + 1 by omega]
  exact behind_add13 rate n m (s.next rate)
theorem outs_length13 (rate : Nat) : ∀ (n : Nat) (s : Sp), (s.outs rate n).length = n
 | 0, _ => rfl
 | n + 1, s => congrArg (· + 1) (outs_length13 rate n (s.next rate))
/-- the bytes of a group are those of the whole stream -/
theorem group_bytes (rate : Nat) (s : Sp) (N t j : Nat) (ht : 3 * t + 3 ≤ N) (hj : j < 3) : nb ((s.behind rate (3 * t)).outs rate 3) j = nb (s.outs rate N) (3 * t + j) := by
 have h1 : s.outs rate N = s.outs rate (3 * t) ++ ((s.behind rate (3 * t)).outs rate 3 ++ ((s.behind rate (3 * t)).behind rate 3).outs rate (N - (3 * t + 3))) := by
  rw [← outs_add13, ← outs_add13]
  congr 1
  omega
 unfold nb
 rw [h1, List.getD_eq_getElem?_getD, List.getD_eq_getElem?_getD, List.getElem?_append_right (by rw [outs_length13]; omega), outs_length13, show 3 * t + j - 3 * t = j by omega, List.getElem?_append_left (by rw [outs_length13]; exact hj)]
theorem short_bytes (rate : Nat) (s : Sp) (n N i : Nat) (hn : n ≤ N) (hi : i < n) : nb (s.outs rate n) i = nb (s.outs rate N) i := by
 unfold nb
 rw [← outs_take13 rate n N hn s, List.getD_eq_getElem?_getD, List.getD_eq_getElem?_getD, List.getElem?_take_of_lt hi]
theorem three_list (l : List UInt8) (h : l.length = 3) : Lib.byteCells l = [.int .u8 (nb l 0 : Int), .int .u8 (nb l 1 : Int), .int .u8 (nb l 2 : Int)] := by
 match l, h with
 | [_, _, _], _ => rfl
end Go.Proofs.YtbjpbeplpljieaaDoor

/-
 Compress, Decompress for other numbers of bits: the program's own and the document's.
-/
namespace Go.Proofs.YtbjpbeplpljieaaDoor
open Go.RowKit
set_option maxRecDepth 100000
set_option maxHeartbeats 1000000 in
theorem Compress_bad (n : Int) (hn : n < 1 ∨ 11 < n) (p : Nat → Nat) (w : World) : Calls Tryd.prog 81 #[.int .i64 n, polyV p] w (CodeIs w (fun _ => 0) 1) := by
 unfold CodeIs polyV
 generalize hN : w.heap.size = N at *
 have HL1 : Shh (Row ((w.alloc (.cells (pc p).toArray 62)).alloc (.cells (pc fun _ => 0).toArray 62)) (N + 1) 62 (pc fun _ => 0) ∧ Below N w ((w.alloc (.cells (pc p).toArray 62)).alloc (.cells (pc fun _ => 0).toArray 62))) := by
  refine ⟨Row.new_ (by rw [asz, hN]) rfl, ?_⟩
  rw [← hN]
  exact Below.chain (bel1 _ _) (bel1 _ _)
 go_enter Tryd.func81, Tryd.ntmps81
 by_cases h1 : n < 1
 ·clear hn
  go_wp2_with (first | refine wl_allocP rfl rfl ?_ | refine wl_at 14 rfl (.agg (pc fun _ => 0).toArray) rfl (build_poly rfl) ?_ | refine wpList_store_any rfl 62 (.tmp 4) (.tmp 14) rfl (N + 1) rfl (pc fun _ => 0) rfl 62 _ HL1.out.1 (info_poly.trans (size_poly _)) rfl (pc_one _) ?_)
  intro w9 hr9 b9 _
  have hb9 := HL1.out.2.trans (b9.under (by omega) (by omega))
  go_wp2
  exact ret_rs7 Tryd.results81 rfl rfl rfl hr9 Tryd.underlying62 rfl (info_poly.trans (size_poly _)) ⟨rfl, hb9⟩
 ·have h2 : 12 ≤ n := by omega
  clear hn
  go_wp2_with (first | refine wl_allocP rfl rfl ?_ | refine wl_at 14 rfl (.agg (pc fun _ => 0).toArray) rfl (build_poly rfl) ?_ | refine wpList_store_any rfl 62 (.tmp 4) (.tmp 14) rfl (N + 1) rfl (pc fun _ => 0) rfl 62 _ HL1.out.1 (info_poly.trans (size_poly _)) rfl (pc_one _) ?_)
  intro w9 hr9 b9 _
  have hb9 := HL1.out.2.trans (b9.under (by omega) (by omega))
  go_wp2
  exact ret_rs7 Tryd.results81 rfl rfl rfl hr9 Tryd.underlying62 rfl (info_poly.trans (size_poly _)) ⟨rfl, hb9⟩
set_option maxHeartbeats 1000000 in
theorem Decompress_bad (n : Int) (hn : n < 1 ∨ 11 < n) (p : Nat → Nat) (w : World) : Calls Tryd.prog 80 #[.int .i64 n, polyV p] w (CodeIs w (fun _ => 0) 1) := by
 unfold CodeIs polyV
 generalize hN : w.heap.size = N at *
 have HL1 : Shh (Row ((w.alloc (.cells (pc p).toArray 62)).alloc (.cells (pc fun _ => 0).toArray 62)) (N + 1) 62 (pc fun _ => 0) ∧ Below N w ((w.alloc (.cells (pc p).toArray 62)).alloc (.cells (pc fun _ => 0).toArray 62))) := by
  refine ⟨Row.new_ (by rw [asz, hN]) rfl, ?_⟩
  rw [← hN]
  exact Below.chain (bel1 _ _) (bel1 _ _)
 go_enter Tryd.func80, Tryd.ntmps80
 by_cases h1 : n < 1
 ·clear hn
  go_wp2_with (first | refine wl_allocP rfl rfl ?_ | refine wl_at 15 rfl (.agg (pc fun _ => 0).toArray) rfl (build_poly rfl) ?_ | refine wpList_store_any rfl 62 (.tmp 4) (.tmp 15) rfl (N + 1) rfl (pc fun _ => 0) rfl 62 _ HL1.out.1 (info_poly.trans (size_poly _)) rfl (pc_one _) ?_)
  intro w9 hr9 b9 _
  have hb9 := HL1.out.2.trans (b9.under (by omega) (by omega))
  go_wp2
  exact ret_rs7 Tryd.results80 rfl rfl rfl hr9 Tryd.underlying62 rfl (info_poly.trans (size_poly _)) ⟨rfl, hb9⟩
 ·have h2 : 12 ≤ n := by omega
  clear hn
  go_wp2_with (first | refine wl_allocP rfl rfl ?_ | refine wl_at 15 rfl (.agg (pc fun _ => 0).toArray) rfl (build_poly rfl) ?_ | refine wpList_store_any rfl 62 (.tmp 4) (.tmp 15) rfl (N + 1) rfl (pc fun _ => 0) rfl 62 _ HL1.out.1 (info_poly.trans (size_poly _)) rfl (pc_one _) ?_)
  intro w9 hr9 b9 _
  have hb9 := HL1.out.2.trans (b9.under (by omega) (by omega))
  go_wp2
  exact ret_rs7 Tryd.results80 rfl rfl rfl hr9 Tryd.underlying62 rfl (info_poly.trans (size_poly _)) ⟨rfl, hb9⟩
end Go.Proofs.YtbjpbeplpljieaaDoor
