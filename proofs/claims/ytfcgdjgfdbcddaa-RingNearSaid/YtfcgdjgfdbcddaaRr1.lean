/-
 THE DOCUMENT'S OWN Reduce, Add, Sub.
-/
import Derived.Test.YtfcgdjgfdbcddaaRp2
namespace Go.Proofs.Ytfcgdjgfdbcddaa
open Go.RowKit
set_option maxRecDepth 100000
/-- the first k numbers of r, the others of p -/
def half (r p : Nat → Nat) (k i : Nat) : Nat := if i < k then r i else p i
theorem half_zero (r p : Nat → Nat) : pc (half r p 0) = pc p := pc_of fun i _ => if_neg (by omega)
theorem half_all (r p : Nat → Nat) : pc (half r p 256) = pc r := pc_of fun _ h => if_pos h
theorem half_next (r p : Nat → Nat) (k : Nat) : pc (upd (half r p k) k (r k)) = pc (half r p (k + 1)) := pc_of fun i _ => by
 unfold upd half
 by_cases h : i = k
 ·rw [if_pos h, if_pos (by omega), h]
 ·rw [if_neg h]
  by_cases h2 : i < k
  ·rw [if_pos h2, if_pos (by omega)]
  ·rw [if_neg h2, if_neg (by omega)]
theorem half_now (r p : Nat → Nat) (k : Nat) : half r p k k = p k := if_neg (by omega)
set_option maxHeartbeats 1000000 in
theorem refReduce_any (p : Nat → Nat) (hp : ∀ i, i < 256 → p i < 65536) (w : World) : Calls Try.prog 15 #[polyV p] w (PolyIs w (redN p)) := by
 unfold PolyIs polyV
 generalize hN : w.heap.size = N at *
 have HP := Shh.mk hp
 have HR : Shh (∀ i, redN p i = p i % 3329) := ⟨fun i => rd_same _⟩
 generalize redN p = r at *
 clear hp
 go_enter Try.func15, Try.ntmps15
 go_wp2_with (refine wl_allocP rfl rfl ?_)
 obtain ⟨W, hW⟩ : ∃ W, W = (w.alloc (.cells (pc p).toArray 24)).alloc (.cells (pc fun _ => 0).toArray 24) := ⟨_, rfl⟩
 have HW : Shh (Row W N 24 (pc p) ∧ Row W (N + 1) 24 (pc fun _ => 0) ∧ Below N w W) := by
  refine ⟨by rw [hW]; exact (Row.new_ hN.symm rfl).alloc _, by rw [hW]; exact Row.new_ (by rw [asz, hN]) rfl, ?_⟩
  rw [hW, ← hN]
  exact Below.chain (bel1 _ _) (bel1 _ _)
 try simp only [asz, hN]
 rw [← hW]
 clear hW
 go_wp2
 go_loopw [3, 4] (fun _ i wr => ∃ k : Nat, k ≤ 256 ∧ i = .int .i64 (k : Int) ∧ Shh (Row wr N 24 (pc (half r p k)) ∧ Row wr (N + 1) 24 (pc fun _ => 0) ∧ Below N w wr)) (fun _ i _ => 256 - (intOf i).toNat)
 case atStart => exact ⟨0, Nat.zero_le _, rfl, ⟨by rw [half_zero]; exact HW.out⟩⟩
 case round =>
  clear HW
  obtain ⟨k, hk, rfl, HI⟩ := hrel
  by_cases hlt : k < 256
  ·have hc := HI.out.1.cell k
   have hf := HI.out.1.free k
   rw [pc_get _ hlt, half_now] at hc
   have HS := Shh.mk (HI.out.1.set_ k (.int .u16 (r k : Int)))
   rw [pc_set, half_next] at HS
   have HE : Shh (r k = p k % 3329 ∧ p k < 65536) := ⟨HR.out k, HP.out k hlt⟩
   generalize r k = rk at *
   generalize p k = pk at *
   have hlt2 : (k : Int) < 256 := by omega
   go_wp2_with (first | refine wl_value (.pointer (some ⟨N, k, none⟩)) rfl (at_poly hlt rfl rfl rfl) ?_ | refine wl_value (.int .u16 (rk : Int)) rfl (rem_u16 HE.out.1 HE.out.2 rfl rfl) ?_)
   go_roundw
   case rel => exact ⟨k + 1, by omega, by go_num, ⟨HS.out, HI.out.2.1.other _ _ (by simp), HI.out.2.2.setCell (p := ⟨N, k, none⟩) (Nat.le_refl _) _⟩⟩
   case measure => simp [intOf]; omega
  ·have HL : Shh (pc (half r p k) = pc r) := ⟨by rw [show k = 256 by omega]; exact half_all _ _⟩
   rw [HL.out] at HI
   have hlt2 : ¬ (k : Int) < 256 := by omega
   clear HL HP HR
   go_wp2_with (first
    | refine wpList_load_any rfl 24 (.tmp 1) rfl N rfl 24 (pc r) (.array 256 22) HI.out.1 Try.underlying24 rfl (info_poly.trans (size_poly r)) ?_
    | refine wpList_store_any rfl 24 (.tmp 2) (.tmp 13) rfl (N + 1) rfl (pc r) rfl 24 _ HI.out.2.1 (info_poly.trans (size_poly r)) (by rw [pc_length, pc_length]) (pc_one r) ?_)
   intro w9 hr9 b9 _
   have hb9 := HI.out.2.2.trans (b9.under (Nat.le_of_lt HI.out.1.lt) (Nat.le_succ _))
   go_wp2
   exact ret_row Try.results15 rfl rfl hr9 Try.underlying24 rfl (info_poly.trans (size_poly r)) ⟨rfl, hb9⟩
set_option maxHeartbeats 1000000 in
theorem refAdd_any (p p2 : Nat → Nat) (hp : ∀ i, i < 256 → p i < 65536) (hp2 : ∀ i, i < 256 → p2 i < 65536) (w : World) : Calls Try.prog 17 #[polyV p, polyV p2] w (PolyIs w (addN p p2)) := by
 unfold PolyIs polyV
 generalize hN : w.heap.size = N at *
 have HP := Shh.mk (And.intro hp hp2)
 have HR : Shh (∀ i, addN p p2 i = (p i + p2 i) % 3329) := ⟨fun i => by unfold addN; rw [show ((p i : Int) + (p2 i : Int)) = ((p i + p2 i : Nat) : Int) by rw [Int.natCast_add]]; exact rd_same _⟩
 generalize addN p p2 = r at *
 clear hp hp2
 go_enter Try.func17, Try.ntmps17
 go_wp2_with (refine wl_allocP rfl rfl ?_)
 obtain ⟨W, hW⟩ : ∃ W, W = ((w.alloc (.cells (pc p).toArray 24)).alloc (.cells (pc p2).toArray 24)).alloc (.cells (pc fun _ => 0).toArray 24) := ⟨_, rfl⟩
 have HW : Shh (Row W N 24 (pc p) ∧ Row W (N + 1) 24 (pc p2) ∧ Row W (N + 2) 24 (pc fun _ => 0) ∧ Below N w W) := by
  refine ⟨by rw [hW]; exact ((Row.new_ hN.symm rfl).alloc _).alloc _, by rw [hW]; exact (Row.new_ (by rw [asz, hN]) rfl).alloc _, by rw [hW]; exact Row.new_ (by rw [asz, asz, hN]) rfl, ?_⟩
  rw [hW, ← hN]
  exact Below.chain (Below.chain (bel1 _ _) (bel1 _ _)) (bel1 _ _)
 try simp only [asz, hN]
 rw [← hW]
 clear hW
 go_wp2
 go_loopw [5, 6] (fun _ i wr => ∃ k : Nat, k ≤ 256 ∧ i = .int .i64 (k : Int) ∧ Shh (Row wr N 24 (pc (half r p k)) ∧ Row wr (N + 1) 24 (pc p2) ∧ Row wr (N + 2) 24 (pc fun _ => 0) ∧ Below N w wr)) (fun _ i _ => 256 - (intOf i).toNat)
 case atStart => exact ⟨0, Nat.zero_le _, rfl, ⟨by rw [half_zero]; exact HW.out⟩⟩
 case round =>
  clear HW
  obtain ⟨k, hk, rfl, HI⟩ := hrel
  by_cases hlt : k < 256
  ·have hlt2 : (k : Int) < 256 := by omega
   have HE : Shh (p k < 65536 ∧ p2 k < 65536 ∧ r k = (p k + p2 k) % 3329 ∧ r k < 65536 ∧ p k + p2 k ≤ 1000000000000) := ⟨by have h1 := HP.out.1 k hlt; have h2 := HP.out.2 k hlt; have h3 := HR.out k; exact ⟨h1, h2, h3, by rw [h3]; omega, by omega⟩⟩
   have HS := Shh.mk (HI.out.1.set_ k (.int .u16 (r k : Int)))
   rw [pc_set, half_next] at HS
   have HC : Shh (∀ V, V = wr.drew → V.cell? ⟨N, k, none⟩ = some (.int .u16 (p k : Int)) ∧ V.cell? ⟨N + 1, k, none⟩ = some (.int .u16 (p2 k : Int)) ∧ V.frozen? ⟨N, k, none⟩ = false) := ⟨fun V hV => by
    have h1 := HI.out.1.drew.cell k
    rw [pc_get _ hlt, half_now] at h1
    have h2 := HI.out.2.1.drew.cell k
    rw [pc_get _ hlt] at h2
    subst hV
    exact ⟨h1, h2, HI.out.1.drew.free k⟩⟩
   have HQ : Shh (∀ V, V = wr.drew → Row (V.setCell ⟨N, k, none⟩ (.int .u16 (r k : Int))) N 24 (pc (half r p (k + 1))) ∧ Row (V.setCell ⟨N, k, none⟩ (.int .u16 (r k : Int))) (N + 1) 24 (pc p2) ∧ Row (V.setCell ⟨N, k, none⟩ (.int .u16 (r k : Int))) (N + 2) 24 (pc fun _ => 0) ∧ Below N w (V.setCell ⟨N, k, none⟩ (.int .u16 (r k : Int)))) := ⟨fun V hV => by
    subst hV
    refine ⟨?_, HI.out.2.1.drew.other _ _ (by simp), HI.out.2.2.1.drew.other _ _ (by simp), HI.out.2.2.2.drew.setCell (p := ⟨N, k, none⟩) (Nat.le_refl _) _⟩
    have h := HI.out.1.drew.set_ k (.int .u16 (r k : Int))
    rw [pc_set, half_next] at h
    exact h⟩
   clear HS
   generalize r k = rk at *
   generalize p k = pk at *
   generalize p2 k = qk at *
   go_wp2
   refine wp_region_held_drew (S := fun _ => True) (by kernel_rfl) trivial (fun hS => ?_)
   clear hS
   obtain ⟨V, hV⟩ : ∃ V, V = World.drew wr := ⟨_, rfl⟩
   rw [← hV]
   have hC := HC.out V hV
   have HQ2 := Shh.mk (HQ.out V hV)
   clear HC HQ hV HI
   refine hdv0 0 9 (.int .i64 (k : Int)) (by rfl) (trivial) ?_
   refine hdv0 1 10 (.int .i64 (k : Int)) (by rfl) (trivial) ?_
   refine hdv 2 11 (.pointer (some ⟨N, k, none⟩)) (by rfl) (fun w hS => at_poly hlt rfl (by kernel_rfl) (by kernel_rfl)) (trivial) ?_
   refine hdv0 5 14 (.int .i64 (k : Int)) (by rfl) (trivial) ?_
   refine hdv 6 15 (.pointer (some ⟨N + 1, k, none⟩)) (by rfl) (fun w hS => at_poly hlt rfl (by kernel_rfl) (by kernel_rfl)) (trivial) ?_
   refine held_two 3 7 (by kernel_rfl) ?_ ?_
   ·refine step_value 3 _ _ (some 12) (.int .u16 (pk : Int)) V (by rfl) (by kernel_rfl) (load_u16 rfl hC.1 (by kernel_rfl)) (trivial) ?_
    simp only [Act.put, arr9, hd9, tl9]
    refine hdv 4 13 (.int .i64 (pk : Int)) (by rfl) (fun w hS => conv_ui16 HE.out.1 rfl (by kernel_rfl)) (trivial) ?_
    refine held_one 7 (by kernel_rfl) ?_
    refine step_value 7 _ _ (some 16) (.int .u16 (qk : Int)) V (by rfl) (by kernel_rfl) (load_u16 rfl hC.2.1 (by kernel_rfl)) (trivial) ?_
    simp only [Act.put, arr9, hd9, tl9]
    refine hdv 8 17 (.int .i64 (qk : Int)) (by rfl) (fun w hS => conv_ui16 HE.out.2.1 rfl (by kernel_rfl)) (trivial) ?_
    refine hdv 9 18 (.int .i64 ((pk + qk : Nat) : Int)) (by rfl) (fun w hS => add_ii ⟨rfl, HE.out.2.2.2.2⟩ rfl (by kernel_rfl) (by kernel_rfl)) (trivial) ?_
    refine hdv 10 19 (.int .i64 (rk : Int)) (by rfl) (fun w hS => rem_iq HE.out.2.2.1 (by have := HE.out; omega) rfl (by kernel_rfl)) (trivial) ?_
    refine hdv 11 20 (.int .u16 (rk : Int)) (by rfl) (fun w hS => conv_iu16 HE.out.2.2.2.1 rfl (by kernel_rfl)) (trivial) ?_
    refine hdv 12 21 (.pointer (some ⟨N, k, none⟩)) (by rfl) (fun w hS => at_poly hlt rfl (by kernel_rfl) (by kernel_rfl)) (trivial) ?_
    refine held_one 13 (by kernel_rfl) ?_
    refine step_store1 13 _ (by rfl) (by kernel_rfl) (V.setCell ⟨N, k, none⟩ (.int .u16 (rk : Int))) (by have hf := hC.2.2; have hc := hC.1; go_simp) ⟨trivial, ?_⟩
    refine wpAnyH_done (by kernel_rfl) ?_ _
    clear hC
    go_wp2
    go_roundw
    case rel => exact ⟨k + 1, by omega, by go_num, HQ2⟩
    case measure => simp [intOf]; omega
   ·refine step_value 7 _ _ (some 16) (.int .u16 (qk : Int)) V (by rfl) (by kernel_rfl) (load_u16 rfl hC.2.1 (by kernel_rfl)) (trivial) ?_
    simp only [Act.put, arr9, hd9, tl9]
    refine hdv 8 17 (.int .i64 (qk : Int)) (by rfl) (fun w hS => conv_ui16 HE.out.2.1 rfl (by kernel_rfl)) (trivial) ?_
    refine held_one 3 (by kernel_rfl) ?_
    refine step_value 3 _ _ (some 12) (.int .u16 (pk : Int)) V (by rfl) (by kernel_rfl) (load_u16 rfl hC.1 (by kernel_rfl)) (trivial) ?_
    simp only [Act.put, arr9, hd9, tl9]
    refine hdv 4 13 (.int .i64 (pk : Int)) (by rfl) (fun w hS => conv_ui16 HE.out.1 rfl (by kernel_rfl)) (trivial) ?_
    refine hdv 9 18 (.int .i64 ((pk + qk : Nat) : Int)) (by rfl) (fun w hS => add_ii ⟨rfl, HE.out.2.2.2.2⟩ rfl (by kernel_rfl) (by kernel_rfl)) (trivial) ?_
    refine hdv 10 19 (.int .i64 (rk : Int)) (by rfl) (fun w hS => rem_iq HE.out.2.2.1 (by have := HE.out; omega) rfl (by kernel_rfl)) (trivial) ?_
    refine hdv 11 20 (.int .u16 (rk : Int)) (by rfl) (fun w hS => conv_iu16 HE.out.2.2.2.1 rfl (by kernel_rfl)) (trivial) ?_
    refine hdv 12 21 (.pointer (some ⟨N, k, none⟩)) (by rfl) (fun w hS => at_poly hlt rfl (by kernel_rfl) (by kernel_rfl)) (trivial) ?_
    refine held_one 13 (by kernel_rfl) ?_
    refine step_store1 13 _ (by rfl) (by kernel_rfl) (V.setCell ⟨N, k, none⟩ (.int .u16 (rk : Int))) (by have hf := hC.2.2; have hc := hC.1; go_simp) ⟨trivial, ?_⟩
    refine wpAnyH_done (by kernel_rfl) ?_ _
    clear hC
    go_wp2
    go_roundw
    case rel => exact ⟨k + 1, by omega, by go_num, HQ2⟩
    case measure => simp [intOf]; omega
  ·have HL : Shh (pc (half r p k) = pc r) := ⟨by rw [show k = 256 by omega]; exact half_all _ _⟩
   rw [HL.out] at HI
   have hlt2 : ¬ (k : Int) < 256 := by omega
   clear HL HP HR
   go_wp2_with (first
    | refine wpList_load_any rfl 24 (.tmp 2) rfl N rfl 24 (pc r) (.array 256 22) HI.out.1 Try.underlying24 rfl (info_poly.trans (size_poly r)) ?_
    | refine wpList_store_any rfl 24 (.tmp 4) (.tmp 23) rfl (N + 2) rfl (pc r) rfl 24 _ HI.out.2.2.1 (info_poly.trans (size_poly r)) (by rw [pc_length, pc_length]) (pc_one r) ?_)
   intro w9 hr9 b9 _
   have hb9 := HI.out.2.2.2.trans (b9.under (Nat.le_of_lt HI.out.1.lt) (by omega))
   go_wp2
   exact ret_row Try.results17 rfl rfl hr9 Try.underlying24 rfl (info_poly.trans (size_poly r)) ⟨rfl, hb9⟩
set_option maxHeartbeats 1000000 in
theorem refSub_any (p p2 : Nat → Nat) (hp : ∀ i, i < 256 → p i < 65536) (hp2 : ∀ i, i < 256 → p2 i < 65536) (w : World) : Calls Try.prog 19 #[polyV p, polyV p2] w (PolyIs w (subN p p2)) := by
 unfold PolyIs polyV
 generalize hN : w.heap.size = N at *
 have HP := Shh.mk (And.intro hp hp2)
 have HR : Shh (∀ i, subN p p2 i = (p i % 3329 + 3329 - p2 i % 3329) % 3329) := ⟨fun i => by unfold subN rd; omega⟩
 generalize subN p p2 = r at *
 clear hp hp2
 go_enter Try.func19, Try.ntmps19
 go_wp2_with (refine wl_allocP rfl rfl ?_)
 obtain ⟨W, hW⟩ : ∃ W, W = ((w.alloc (.cells (pc p).toArray 24)).alloc (.cells (pc p2).toArray 24)).alloc (.cells (pc fun _ => 0).toArray 24) := ⟨_, rfl⟩
 have HW : Shh (Row W N 24 (pc p) ∧ Row W (N + 1) 24 (pc p2) ∧ Row W (N + 2) 24 (pc fun _ => 0) ∧ Below N w W) := by
  refine ⟨by rw [hW]; exact ((Row.new_ hN.symm rfl).alloc _).alloc _, by rw [hW]; exact (Row.new_ (by rw [asz, hN]) rfl).alloc _, by rw [hW]; exact Row.new_ (by rw [asz, asz, hN]) rfl, ?_⟩
  rw [hW, ← hN]
  exact Below.chain (Below.chain (bel1 _ _) (bel1 _ _)) (bel1 _ _)
 try simp only [asz, hN]
 rw [← hW]
 clear hW
 go_wp2
 go_loopw [5, 6] (fun _ i wr => ∃ k : Nat, k ≤ 256 ∧ i = .int .i64 (k : Int) ∧ Shh (Row wr N 24 (pc (half r p k)) ∧ Row wr (N + 1) 24 (pc p2) ∧ Row wr (N + 2) 24 (pc fun _ => 0) ∧ Below N w wr)) (fun _ i _ => 256 - (intOf i).toNat)
 case atStart => exact ⟨0, Nat.zero_le _, rfl, ⟨by rw [half_zero]; exact HW.out⟩⟩
 case round =>
  clear HW
  obtain ⟨k, hk, rfl, HI⟩ := hrel
  by_cases hlt : k < 256
  ·have hlt2 : (k : Int) < 256 := by omega
   have HE : Shh (p k < 65536 ∧ p2 k < 65536 ∧ r k = (p k % 3329 + 3329 - p2 k % 3329) % 3329 ∧ r k < 65536) := ⟨by have h1 := HP.out.1 k hlt; have h2 := HP.out.2 k hlt; have h3 := HR.out k; exact ⟨h1, h2, h3, by rw [h3]; omega⟩⟩
   have HS := Shh.mk (HI.out.1.set_ k (.int .u16 (r k : Int)))
   rw [pc_set, half_next] at HS
   have HC : Shh (∀ V, V = wr.drew → V.cell? ⟨N, k, none⟩ = some (.int .u16 (p k : Int)) ∧ V.cell? ⟨N + 1, k, none⟩ = some (.int .u16 (p2 k : Int)) ∧ V.frozen? ⟨N, k, none⟩ = false) := ⟨fun V hV => by
    have h1 := HI.out.1.drew.cell k
    rw [pc_get _ hlt, half_now] at h1
    have h2 := HI.out.2.1.drew.cell k
    rw [pc_get _ hlt] at h2
    subst hV
    exact ⟨h1, h2, HI.out.1.drew.free k⟩⟩
   have HQ : Shh (∀ V, V = wr.drew → Row (V.setCell ⟨N, k, none⟩ (.int .u16 (r k : Int))) N 24 (pc (half r p (k + 1))) ∧ Row (V.setCell ⟨N, k, none⟩ (.int .u16 (r k : Int))) (N + 1) 24 (pc p2) ∧ Row (V.setCell ⟨N, k, none⟩ (.int .u16 (r k : Int))) (N + 2) 24 (pc fun _ => 0) ∧ Below N w (V.setCell ⟨N, k, none⟩ (.int .u16 (r k : Int)))) := ⟨fun V hV => by
    subst hV
    refine ⟨?_, HI.out.2.1.drew.other _ _ (by simp), HI.out.2.2.1.drew.other _ _ (by simp), HI.out.2.2.2.drew.setCell (p := ⟨N, k, none⟩) (Nat.le_refl _) _⟩
    have h := HI.out.1.drew.set_ k (.int .u16 (r k : Int))
    rw [pc_set, half_next] at h
    exact h⟩
   clear HS
   generalize r k = rk at *
   generalize p k = pk at *
   generalize p2 k = qk at *
   go_wp2
   refine wp_region_held_drew (S := fun _ => True) (by kernel_rfl) trivial (fun hS => ?_)
   clear hS
   obtain ⟨V, hV⟩ : ∃ V, V = World.drew wr := ⟨_, rfl⟩
   rw [← hV]
   have hC := HC.out V hV
   have HQ2 := Shh.mk (HQ.out V hV)
   clear HC HQ hV HI
   refine hdv0 0 9 (.int .i64 (k : Int)) (by rfl) (trivial) ?_
   refine hdv0 1 10 (.int .i64 (k : Int)) (by rfl) (trivial) ?_
   refine hdv 2 11 (.pointer (some ⟨N, k, none⟩)) (by rfl) (fun w hS => at_poly hlt rfl (by kernel_rfl) (by kernel_rfl)) (trivial) ?_
   refine hdv0 7 16 (.int .i64 (k : Int)) (by rfl) (trivial) ?_
   refine hdv 8 17 (.pointer (some ⟨N + 1, k, none⟩)) (by rfl) (fun w hS => at_poly hlt rfl (by kernel_rfl) (by kernel_rfl)) (trivial) ?_
   refine held_two 3 9 (by kernel_rfl) ?_ ?_
   ·refine step_value 3 _ _ (some 12) (.int .u16 (pk : Int)) V (by rfl) (by kernel_rfl) (load_u16 rfl hC.1 (by kernel_rfl)) (trivial) ?_
    simp only [Act.put, arr9, hd9, tl9]
    refine hdv 4 13 (.int .u16 ((pk % 3329 : Nat) : Int)) (by rfl) (fun w hS => rem_u16 rfl HE.out.1 rfl (by kernel_rfl)) (trivial) ?_
    refine hdv 5 14 (.int .i64 ((pk % 3329 : Nat) : Int)) (by rfl) (fun w hS => conv_ui16 (by omega) rfl (by kernel_rfl)) (trivial) ?_
    refine hdv 6 15 (.int .i64 ((pk % 3329 + 3329 : Nat) : Int)) (by rfl) (fun w hS => add_ii ⟨rfl, by omega⟩ rfl (by kernel_rfl) (by kernel_rfl)) (trivial) ?_
    refine held_one 9 (by kernel_rfl) ?_
    refine step_value 9 _ _ (some 18) (.int .u16 (qk : Int)) V (by rfl) (by kernel_rfl) (load_u16 rfl hC.2.1 (by kernel_rfl)) (trivial) ?_
    simp only [Act.put, arr9, hd9, tl9]
    refine hdv 10 19 (.int .u16 ((qk % 3329 : Nat) : Int)) (by rfl) (fun w hS => rem_u16 rfl HE.out.2.1 rfl (by kernel_rfl)) (trivial) ?_
    refine hdv 11 20 (.int .i64 ((qk % 3329 : Nat) : Int)) (by rfl) (fun w hS => conv_ui16 (by omega) rfl (by kernel_rfl)) (trivial) ?_
    refine hdv 12 21 (.int .i64 ((pk % 3329 + 3329 - qk % 3329 : Nat) : Int)) (by rfl) (fun w hS => sub_ii (i := pk % 3329 + 3329) (j := qk % 3329) ⟨by omega, by omega⟩ rfl (by kernel_rfl) (by kernel_rfl)) (trivial) ?_
    refine hdv 13 22 (.int .i64 (rk : Int)) (by rfl) (fun w hS => rem_iq HE.out.2.2.1 (by omega) rfl (by kernel_rfl)) (trivial) ?_
    refine hdv 14 23 (.int .u16 (rk : Int)) (by rfl) (fun w hS => conv_iu16 HE.out.2.2.2 rfl (by kernel_rfl)) (trivial) ?_
    refine hdv 15 24 (.pointer (some ⟨N, k, none⟩)) (by rfl) (fun w hS => at_poly hlt rfl (by kernel_rfl) (by kernel_rfl)) (trivial) ?_
    refine held_one 16 (by kernel_rfl) ?_
    refine step_store1 16 _ (by rfl) (by kernel_rfl) (V.setCell ⟨N, k, none⟩ (.int .u16 (rk : Int))) (by have hf := hC.2.2; have hc := hC.1; go_simp) ⟨trivial, ?_⟩
    refine wpAnyH_done (by kernel_rfl) ?_ _
    clear hC
    go_wp2
    go_roundw
    case rel => exact ⟨k + 1, by omega, by go_num, HQ2⟩
    case measure => simp [intOf]; omega
   ·refine step_value 9 _ _ (some 18) (.int .u16 (qk : Int)) V (by rfl) (by kernel_rfl) (load_u16 rfl hC.2.1 (by kernel_rfl)) (trivial) ?_
    simp only [Act.put, arr9, hd9, tl9]
    refine hdv 10 19 (.int .u16 ((qk % 3329 : Nat) : Int)) (by rfl) (fun w hS => rem_u16 rfl HE.out.2.1 rfl (by kernel_rfl)) (trivial) ?_
    refine hdv 11 20 (.int .i64 ((qk % 3329 : Nat) : Int)) (by rfl) (fun w hS => conv_ui16 (by omega) rfl (by kernel_rfl)) (trivial) ?_
    refine held_one 3 (by kernel_rfl) ?_
    refine step_value 3 _ _ (some 12) (.int .u16 (pk : Int)) V (by rfl) (by kernel_rfl) (load_u16 rfl hC.1 (by kernel_rfl)) (trivial) ?_
    simp only [Act.put, arr9, hd9, tl9]
    refine hdv 4 13 (.int .u16 ((pk % 3329 : Nat) : Int)) (by rfl) (fun w hS => rem_u16 rfl HE.out.1 rfl (by kernel_rfl)) (trivial) ?_
    refine hdv 5 14 (.int .i64 ((pk % 3329 : Nat) : Int)) (by rfl) (fun w hS => conv_ui16 (by omega) rfl (by kernel_rfl)) (trivial) ?_
    refine hdv 6 15 (.int .i64 ((pk % 3329 + 3329 : Nat) : Int)) (by rfl) (fun w hS => add_ii ⟨rfl, by omega⟩ rfl (by kernel_rfl) (by kernel_rfl)) (trivial) ?_
    refine hdv 12 21 (.int .i64 ((pk % 3329 + 3329 - qk % 3329 : Nat) : Int)) (by rfl) (fun w hS => sub_ii (i := pk % 3329 + 3329) (j := qk % 3329) ⟨by omega, by omega⟩ rfl (by kernel_rfl) (by kernel_rfl)) (trivial) ?_
    refine hdv 13 22 (.int .i64 (rk : Int)) (by rfl) (fun w hS => rem_iq HE.out.2.2.1 (by omega) rfl (by kernel_rfl)) (trivial) ?_
    refine hdv 14 23 (.int .u16 (rk : Int)) (by rfl) (fun w hS => conv_iu16 HE.out.2.2.2 rfl (by kernel_rfl)) (trivial) ?_
    refine hdv 15 24 (.pointer (some ⟨N, k, none⟩)) (by rfl) (fun w hS => at_poly hlt rfl (by kernel_rfl) (by kernel_rfl)) (trivial) ?_
    refine held_one 16 (by kernel_rfl) ?_
    refine step_store1 16 _ (by rfl) (by kernel_rfl) (V.setCell ⟨N, k, none⟩ (.int .u16 (rk : Int))) (by have hf := hC.2.2; have hc := hC.1; go_simp) ⟨trivial, ?_⟩
    refine wpAnyH_done (by kernel_rfl) ?_ _
    clear hC
    go_wp2
    go_roundw
    case rel => exact ⟨k + 1, by omega, by go_num, HQ2⟩
    case measure => simp [intOf]; omega
  ·have HL : Shh (pc (half r p k) = pc r) := ⟨by rw [show k = 256 by omega]; exact half_all _ _⟩
   rw [HL.out] at HI
   have hlt2 : ¬ (k : Int) < 256 := by omega
   clear HL HP HR
   go_wp2_with (first
    | refine wpList_load_any rfl 24 (.tmp 2) rfl N rfl 24 (pc r) (.array 256 22) HI.out.1 Try.underlying24 rfl (info_poly.trans (size_poly r)) ?_
    | refine wpList_store_any rfl 24 (.tmp 4) (.tmp 26) rfl (N + 2) rfl (pc r) rfl 24 _ HI.out.2.2.1 (info_poly.trans (size_poly r)) (by rw [pc_length, pc_length]) (pc_one r) ?_)
   intro w9 hr9 b9 _
   have hb9 := HI.out.2.2.2.trans (b9.under (Nat.le_of_lt HI.out.1.lt) (by omega))
   go_wp2
   exact ret_row Try.results19 rfl rfl hr9 Try.underlying24 rfl (info_poly.trans (size_poly r)) ⟨rfl, hb9⟩
end Go.Proofs.Ytfcgdjgfdbcddaa
